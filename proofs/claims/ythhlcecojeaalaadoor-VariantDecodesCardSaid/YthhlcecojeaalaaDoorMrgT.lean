/-
  Texts that the laws of this seat lean on, one behind the other.
-/
import Derived.Test.YthhlcecojeaalaaDoorMrgR
import Derived.Test.YthhlcecojeaalaaDoorMrgN
import Derived.Test.YthhlcecojeaalaaDoorMrgS
import Derived.Deep.QuietTactic
import Derived.BigQuiet
set_option linter.unusedSimpArgs false
set_option linter.unusedVariables false
/-
  Contracts of Has and Join of package items.
-/
section
namespace Go.Proofs.YthhlcecojeaalaaDoor
open Go.RowKit

def hasL (L : List (List UInt8)) (name : ByteArray) : Bool := L.any fun x => sameB (mkS x) name

theorem join_any (A : Option Addr) (n c : Nat) (L : List (List UInt8)) (w : World) (h : SlS w A n c L) (hH : Head w A) (hn : n ≤ 1000000000) (hl : (Lib.join L [44, 32]).length ≤ 1000000000000) :
    Calls Tryd.prog 67 #[.slice A n c] w fun e w' => e = .returned (.string (mkS (Lib.join L [44, 32]))) ∧ Below w.heap.size w w' := by
  rcases Nat.eq_zero_or_pos n with h0 | h0
  · have hL : L = [] := List.eq_nil_of_length_eq_zero (by rw [h.len]; exact h0)
    subst hL h0
    go_enter Tryd.func67, Tryd.ntmps67
    go_wp2_with fail
    refine (Tryd.strings_Join_none A c _ w).mono ?_
    rintro e w' ⟨rfl, rfl⟩
    go_wp2_with fail
    go_ret
    exact ⟨rfl, Below.refl _ _⟩
  · have hlen := h.len
    subst hlen
    obtain ⟨ad, hA, hc⟩ := h.at_ h0
    rcases hH with hH | ⟨g, hg, hH⟩
    · rw [hH] at hA; cases hA
    rw [hH] at hA
    cases hA
    subst hH
    have hm : (L.map mkS).map (·.data.toList) = L := by
      have e : ((fun x : ByteArray => x.data.toList) ∘ mkS) = id := by funext x; rfl
      rw [List.map_map, e, List.map_id]
    have J := Tryd.strings_Join g 0 c (L.map mkS) ⟨#[44, 32]⟩ w (fun j x hx => by
      rw [List.getElem?_map, Option.map_eq_some_iff] at hx
      obtain ⟨y, hy, rfl⟩ := hx
      have := hc j y hy
      rw [addr_add] at this
      rw [Nat.zero_add]
      exact this) hg (by simp; omega) (by simpa using h.cap) (by rw [hm]; exact Nat.le_trans hl (by decide))
    rw [hm, List.length_map] at J
    have HJ := Lib.hid J
    clear J hm hc
    go_enter Tryd.func67, Tryd.ntmps67
    go_wp2_with fail
    refine HJ.out.mono ?_
    rintro e w' ⟨rfl, hb⟩
    go_wp2_with fail
    go_ret
    exact ⟨rfl, hb⟩

end Go.Proofs.YthhlcecojeaalaaDoor
end

/-
  Contracts of the reference's Join, Has, Quote and Same (layer 6).
-/
section
namespace Go.Proofs.YthhlcecojeaalaaDoor
open Go.RowKit

theorem join_snoc (l : List (List UInt8)) (x sep : List UInt8) : Lib.join (l ++ [x]) sep = if l = [] then x else Lib.join l sep ++ sep ++ x := by
  cases l with
  | nil => simp [Lib.join_one]
  | cons a r =>
    rw [List.cons_append, Lib.join_cons, Lib.join_cons, if_neg (by simp)]
    simp [Lib.joinTail]
theorem take_list (L : List (List UInt8)) (k : Nat) (h : k < L.length) : L.take (k + 1) = L.take k ++ [L[k]] := List.take_succ_eq_append_getElem h

theorem r_join (A : Option Addr) (n c : Nat) (L : List (List UInt8)) (w : World) (h : SlS w A n c L) (hn : n ≤ 10000) (hB : ∀ x ∈ L, x.length ≤ 10000) :
    Calls Tryd.prog 71 #[.slice A n c] w fun e w' => e = .returned (.string (mkS (Lib.join L [44, 32]))) ∧ w = w' := by
  have hlen := h.len
  subst hlen
  go_enter Tryd.func71, Tryd.ntmps71
  go_wp2_with fail
  go_loop [3, 4] (fun p i => ∃ (k : Nat) (P : ByteArray), k ≤ L.length ∧ i = .int .i64 k ∧ p = .string P ∧ Hid (P.data.toList = Lib.join (L.take k) [44, 32])) (fun _ i => L.length - (intOf i).toNat)
  case atStart => exact ⟨0, ⟨#[]⟩, Nat.zero_le _, rfl, rfl, rfl⟩
  case round =>
    obtain ⟨k, P, hk, rfl, rfl, hf⟩ := hrel
    by_cases hlt : k < L.length
    · obtain ⟨ad, rfl, hc⟩ := h.at_ (by omega)
      have hcell := hc k L[k] (List.getElem?_eq_getElem hlt)
      have hPs : P.size ≤ 200000000 := by
        have h1 := join_le (L.take k) 10000 10000 (by rw [List.length_take]; omega) (fun x hx => hB x (List.mem_of_mem_take hx))
        rw [Lib.size_eq, hf.out]
        omega
      have hxs : (mkS L[k]).size ≤ 10000 := by rw [mkS_size]; exact hB _ (List.getElem_mem hlt)
      have HN := join_snoc (L.take k) L[k] [44, 32]
      rw [← take_list L k hlt, ← hf.out] at HN
      obtain ⟨x, hx⟩ : ∃ x, x = mkS L[k] := ⟨_, rfl⟩
      have hxl : L[k] = x.data.toList := by rw [hx, mkS_list]
      rw [hxl] at HN
      rw [← hx] at hcell hxs
      by_cases h0 : k = 0
      · subst h0
        have HR : Hid ((P ++ x).data.toList = Lib.join (L.take (0 + 1)) [44, 32]) := by
          show _ = _
          rw [HN, append_list, if_pos (by simp), hf.out]; rfl
        have hcell0 : w.cell? ad = some (.string x) := by simpa [Addr.add] using hcell
        clear hf hc hx hxl HN
        go_wp2
        go_round
        case rel => exact ⟨0 + 1, _, by omega, by go_num, rfl, HR⟩
        case measure => simp [intOf]; omega
      · have hkpos : 0 < k := by omega
        have HR : Hid ((P ++ (⟨#[44, 32]⟩ : ByteArray) ++ x).data.toList = Lib.join (L.take (k + 1)) [44, 32]) := by
          show _ = _
          rw [HN, append_list, append_list, if_neg ?_]
          intro e
          have h3 : (L.take k).length = 0 := by rw [e]; rfl
          rw [List.length_take] at h3
          omega
        clear hf hc hx hxl HN
        go_wp2
        go_round
        case rel => exact ⟨k + 1, _, by omega, by go_num, rfl, HR⟩
        case measure => simp [intOf]; omega
    · have HR : Hid (P = mkS (Lib.join L [44, 32])) := by
        have := hf.out
        rw [List.take_of_length_le (by omega)] at this
        exact mkS_eq this
      clear hf
      go_wp2
      go_ret
      exact ⟨by rw [← HR.out]; rfl, rfl⟩

end Go.Proofs.YthhlcecojeaalaaDoor
end
