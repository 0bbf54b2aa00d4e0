/-
  Texts that the laws of this seat lean on, one behind the other.
-/
import Derived.Test.YtnembpklidcgoaaGreatDoorMrhO
import Derived.Test.YtnembpklidcgoaaGreatDoorMrhK
import Derived.Test.YtnembpklidcgoaaGreatDoorMrhQ
import Derived.Deep.QuietTactic
import Derived.BigQuiet
/-
  Contracts of Has and Join of package items.
-/
section
namespace Go.Proofs.YtnembpklidcgoaaGreatDoor
open Go.RowKit

def hasL (L : List (List UInt8)) (name : ByteArray) : Bool := L.any fun x => sameB (mkS x) name

theorem has_any (s name : ByteArray) (w : World) (hs : s.size ≤ 1000000000) (hn : name.size ≤ maxLen) :
    Calls Tryz.prog 102 #[.string s, .string name] w fun e w' => e = .returned (.bool (hasL (splO s.data.toList) name)) ∧ Below w.heap.size w w' := by
  obtain ⟨L, hL⟩ : ∃ L, L = splO s.data.toList := ⟨_, rfl⟩
  rw [← hL]
  have hlen : ∀ x ∈ L, (mkS x).size ≤ maxLen := by
    intro x hx
    rw [hL] at hx
    unfold splO at hx
    cases h : splitL s.data.toList with
    | none => rw [h] at hx; cases hx
    | some M =>
      rw [h] at hx
      have := ((split_good h).1 x hx).2
      rw [← Lib.size_eq] at this
      rw [mkS_size]
      unfold maxLen
      omega
  have hl2 : L.length ≤ 1000000001 := by
    rw [hL]
    unfold splO
    cases h : splitL s.data.toList with
    | none => simp
    | some M =>
      have := (split_good h).2
      rw [← Lib.size_eq] at this
      simp; omega
  go_enter Tryz.func102, Tryz.ntmps102
  go_wp2_with fail
  refine (split_any s _ hs).mono ?_
  unfold Strs2
  rw [← hL]
  have HL := Lib.hid hlen
  clear hL hlen
  rintro e w1 ⟨A, c, rfl, hA, hH, hb1⟩
  go_wp2_with fail
  go_loopw [16] (fun i wr => ∃ k : Nat, k ≤ L.length ∧ i = .int .i64 k ∧ Hid ((L.take k).any (fun x => sameB (mkS x) name) = false) ∧ Below w1.heap.size w1 wr) (fun i _ => L.length - (intOf i).toNat)
  case atStart => exact ⟨0, Nat.zero_le _, rfl, rfl, Below.refl _ _⟩
  case round =>
    obtain ⟨k, hk, rfl, hf, hbel⟩ := hrel
    by_cases hlt : k < L.length
    · obtain ⟨ad, rfl, hc⟩ := hA.at_ (by omega)
      have hcell := cell_kept hbel (hc k L[k] (List.getElem?_eq_getElem hlt))
      have HT : Hid ((L.take (k + 1)).any (fun x => sameB (mkS x) name) = sameB (mkS L[k]) name) := by
        show _ = _
        rw [List.take_succ_eq_append_getElem hlt, List.any_append, hf.out]; simp
      have HM : Hid (sameB (mkS L[k]) name = true → hasL L name = true) := fun h => List.any_eq_true.2 ⟨L[k], List.getElem_mem hlt, h⟩
      have hsz := HL.out L[k] (List.getElem_mem hlt)
      obtain ⟨x, hx⟩ : ∃ x, x = mkS L[k] := ⟨_, rfl⟩
      rw [← hx] at hcell HT HM hsz
      clear hx hf hc
      by_cases hsm : sameB x name = true
      · have HS := Lib.hid hsm
        have HR := Lib.hid (HM.out hsm)
        clear hsm HM HT
        go_wp2_with fail
        refine (same_any x name _ hsz hn).mono ?_
        rintro e w2 ⟨he, hb2⟩
        rw [HS.out] at he
        subst he
        go_wp2_with fail
        go_ret
        exact ⟨by rw [HR.out]; rfl, below_then hb1 (hbel.trans (hb2.mono hbel.size))⟩
      · have hsm' : sameB x name = false := by simpa using hsm
        have HS := Lib.hid hsm'
        have HR := Lib.hid (HT.out.trans hsm')
        clear hsm hsm' HM HT
        go_wp2_with fail
        refine (same_any x name _ hsz hn).mono ?_
        rintro e w2 ⟨he, hb2⟩
        rw [HS.out] at he
        subst he
        go_wp2_with fail
        go_roundw
        case rel => exact ⟨k + 1, by omega, by go_num, HR, hbel.trans (hb2.mono hbel.size)⟩
        case measure => simp [intOf]; omega
    · have HR : Hid (hasL L name = false) := by
        have := hf.out
        rwa [List.take_of_length_le (by omega)] at this
      clear hf
      go_wp2_with fail
      go_ret
      exact ⟨by rw [HR.out]; rfl, below_then hb1 hbel⟩

theorem join_any (A : Option Addr) (n c : Nat) (L : List (List UInt8)) (w : World) (h : SlS w A n c L) (hH : Head w A) (hn : n ≤ 1000000000) (hl : (Lib.join L [44, 32]).length ≤ 1000000000000) :
    Calls Tryz.prog 99 #[.slice A n c] w fun e w' => e = .returned (.string (mkS (Lib.join L [44, 32]))) ∧ Below w.heap.size w w' := by
  rcases Nat.eq_zero_or_pos n with h0 | h0
  · have hL : L = [] := List.eq_nil_of_length_eq_zero (by rw [h.len]; exact h0)
    subst hL h0
    go_enter Tryz.func99, Tryz.ntmps99
    go_wp2_with fail
    refine (Tryz.strings_Join_none A c _ w).mono ?_
    rintro e w' ⟨rfl, rfl⟩
    go_wp2_with fail
    go_ret
    exact ⟨rfl, Below.refl _ _⟩
  · have hlen := h.len
    subst hlen
    obtain ⟨ad, hA, hc⟩ := h.at_ h0
    rcases hH with hH | ⟨g, hg, hH⟩
    · rw [hH] at hA; cases hA
    rw [hH] at hA
    cases hA
    subst hH
    have hm : (L.map mkS).map (·.data.toList) = L := by
      have e : ((fun x : ByteArray => x.data.toList) ∘ mkS) = id := by funext x; rfl
      rw [List.map_map, e, List.map_id]
    have J := Tryz.strings_Join g 0 c (L.map mkS) ⟨#[44, 32]⟩ w (fun j x hx => by
      rw [List.getElem?_map, Option.map_eq_some_iff] at hx
      obtain ⟨y, hy, rfl⟩ := hx
      have := hc j y hy
      rw [addr_add] at this
      rw [Nat.zero_add]
      exact this) hg (by simp; omega) (by simpa using h.cap) (by rw [hm]; exact Nat.le_trans hl (by decide))
    rw [hm, List.length_map] at J
    have HJ := Lib.hid J
    clear J hm hc
    go_enter Tryz.func99, Tryz.ntmps99
    go_wp2_with fail
    refine HJ.out.mono ?_
    rintro e w' ⟨rfl, hb⟩
    go_wp2_with fail
    go_ret
    exact ⟨rfl, hb⟩

end Go.Proofs.YtnembpklidcgoaaGreatDoor
end

/-
  Contracts of the reference's Join, Has, Quote and Same (layer 6).
-/
section
namespace Go.Proofs.YtnembpklidcgoaaGreatDoor
open Go.RowKit

theorem r_has (s name : ByteArray) (w : World) (hs : s.size ≤ 100000000) (hn : name.size ≤ maxLen) :
    Calls Tryz.prog 131 #[.string s, .string name] w fun e w' => e = .returned (.bool (hasL (splO s.data.toList) name)) ∧ Below w.heap.size w w' := by
  obtain ⟨L, hL⟩ : ∃ L, L = splO s.data.toList := ⟨_, rfl⟩
  rw [← hL]
  have hlen : ∀ x ∈ L, (mkS x).size ≤ maxLen := by
    intro x hx
    rw [hL] at hx
    unfold splO at hx
    cases h : splitL s.data.toList with
    | none => rw [h] at hx; cases hx
    | some M =>
      rw [h] at hx
      have := ((split_good h).1 x hx).2
      rw [← Lib.size_eq] at this
      rw [mkS_size]
      unfold maxLen
      omega
  have hl2 : L.length ≤ 1000000001 := by
    rw [hL]
    unfold splO
    cases h : splitL s.data.toList with
    | none => simp
    | some M =>
      have := (split_good h).2
      rw [← Lib.size_eq] at this
      simp; omega
  go_enter Tryz.func131, Tryz.ntmps131
  go_wp2_with fail
  refine (r_split s _ hs).mono ?_
  unfold Strs2
  rw [← hL]
  have HL := Lib.hid hlen
  clear hL hlen
  rintro e w1 ⟨A, c, rfl, hA, hH, hb1⟩
  go_wp2_with fail
  go_loopw [7] (fun i wr => ∃ k : Nat, k ≤ L.length ∧ i = .int .i64 k ∧ Hid ((L.take k).any (fun x => sameB (mkS x) name) = false) ∧ Below w1.heap.size w1 wr) (fun i _ => L.length - (intOf i).toNat)
  case atStart => exact ⟨0, Nat.zero_le _, rfl, rfl, Below.refl _ _⟩
  case round =>
    obtain ⟨k, hk, rfl, hf, hbel⟩ := hrel
    by_cases hlt : k < L.length
    · obtain ⟨ad, rfl, hc⟩ := hA.at_ (by omega)
      have hcell := cell_kept hbel (hc k L[k] (List.getElem?_eq_getElem hlt))
      have HT : Hid ((L.take (k + 1)).any (fun x => sameB (mkS x) name) = sameB (mkS L[k]) name) := by
        show _ = _
        rw [List.take_succ_eq_append_getElem hlt, List.any_append, hf.out]; simp
      have HM : Hid (sameB (mkS L[k]) name = true → hasL L name = true) := fun h => List.any_eq_true.2 ⟨L[k], List.getElem_mem hlt, h⟩
      have hsz := HL.out L[k] (List.getElem_mem hlt)
      obtain ⟨x, hx⟩ : ∃ x, x = mkS L[k] := ⟨_, rfl⟩
      rw [← hx] at hcell HT HM hsz
      clear hx hf hc
      by_cases hsm : sameB x name = true
      · have HS := Lib.hid hsm
        have HR := Lib.hid (HM.out hsm)
        clear hsm HM HT
        go_wp2_with fail
        refine (r_same x name _ hsz hn).mono ?_
        rintro e w2 ⟨he, hb2⟩
        rw [HS.out] at he
        subst he
        go_wp2_with fail
        go_ret
        exact ⟨by rw [HR.out]; rfl, below_then hb1 (hbel.trans (hb2.mono hbel.size))⟩
      · have hsm' : sameB x name = false := by simpa using hsm
        have HS := Lib.hid hsm'
        have HR := Lib.hid (HT.out.trans hsm')
        clear hsm hsm' HM HT
        go_wp2_with fail
        refine (r_same x name _ hsz hn).mono ?_
        rintro e w2 ⟨he, hb2⟩
        rw [HS.out] at he
        subst he
        go_wp2_with fail
        go_roundw
        case rel => exact ⟨k + 1, by omega, by go_num, HR, hbel.trans (hb2.mono hbel.size)⟩
        case measure => simp [intOf]; omega
    · have HR : Hid (hasL L name = false) := by
        have := hf.out
        rwa [List.take_of_length_le (by omega)] at this
      clear hf
      go_wp2_with fail
      go_ret
      exact ⟨by rw [HR.out]; rfl, below_then hb1 hbel⟩

end Go.Proofs.YtnembpklidcgoaaGreatDoor
end
