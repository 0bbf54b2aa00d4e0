/-
  Texts that the laws of this seat lean on, one behind the other.
-/
import Derived.Test.YtmkjjidilfhojaaDoorMrgX
import Derived.Test.YtmkjjidilfhojaaDoorMrgW
import Derived.Test.YtmkjjidilfhojaaDoorMrgU
import Derived.Deep.QuietTactic
import Derived.BigQuiet
/-
  Contracts of the reference's Join, Has, Quote and Same (layer 6).
-/
section
namespace Go.Proofs.YtmkjjidilfhojaaDoor
open Go.RowKit

theorem join_snoc (l : List (List UInt8)) (x sep : List UInt8) : Lib.join (l ++ [x]) sep = if l = [] then x else Lib.join l sep ++ sep ++ x := by
  cases l with
  | nil => simp [Lib.join_one]
  | cons a r =>
    rw [List.cons_append, Lib.join_cons, Lib.join_cons, if_neg (by simp)]
    simp [Lib.joinTail]
theorem take_list (L : List (List UInt8)) (k : Nat) (h : k < L.length) : L.take (k + 1) = L.take k ++ [L[k]] := List.take_succ_eq_append_getElem h

theorem r_sames (A B : Option Addr) (n c m d : Nat) (L M : List (List UInt8)) (w : World) (h : SlS w A n c L) (g : SlS w B m d M) (hn : n ≤ 1000000000) :
    Calls Tryd.prog 11 #[.slice A n c, .slice B m d] w fun e w' => e = .returned (.bool (L == M)) ∧ Below w.heap.size w w' := by
  have hlen := h.len
  have hlem := g.len
  subst hlen hlem
  by_cases hl : L.length = M.length
  · have hlb : ((L.length : Int) == (M.length : Int)) = true := by rw [hl]; simp
    have HLM := Lib.hid hl
    go_enter Tryd.func11, Tryd.ntmps11
    go_wp2_with fail
    go_loopw [5] (fun i wr => ∃ k : Nat, k ≤ L.length ∧ i = .int .i64 k ∧ Hid (L.take k = M.take k) ∧ Below w.heap.size w wr) (fun i _ => L.length - (intOf i).toNat)
    case atStart => exact ⟨0, Nat.zero_le _, rfl, rfl, Below.refl _ _⟩
    case round =>
      obtain ⟨k, hk, rfl, hf, hbel⟩ := hrel
      by_cases hlt : k < L.length
      · have hlt2 : k < M.length := by have := HLM.out; omega
        obtain ⟨ad, rfl, hc⟩ := h.at_ (by omega)
        obtain ⟨bd, rfl, gc⟩ := g.at_ (by omega)
        have hcell := cell_kept hbel (hc k L[k] (List.getElem?_eq_getElem hlt))
        have gcell := cell_kept hbel (gc k M[k] (List.getElem?_eq_getElem hlt2))
        have HE := same_list L[k] M[k]
        have HNo : Hid (L[k] ≠ M[k] → (L == M) = false) := fun hne => by
          rw [beq_eq_false_iff_ne]
          intro e
          refine hne ?_
          subst e
          rfl
        have HYes : Hid (L[k] = M[k] → L.take (k + 1) = M.take (k + 1)) := fun he => by
          rw [take_list L k hlt, take_list M k hlt2, hf.out, he]
        obtain ⟨x, hx⟩ : ∃ x, x = mkS L[k] := ⟨_, rfl⟩
        obtain ⟨y, hy⟩ : ∃ y, y = mkS M[k] := ⟨_, rfl⟩
        rw [← hx] at hcell HE
        rw [← hy] at gcell HE
        have hi1 : (k : Int) < (L.length : Int) := by omega
        have hi2 : (k : Int) < (M.length : Int) := by omega
        have hi0 : (0 : Int) ≤ (k : Int) := by omega
        by_cases he : L[k] = M[k]
        · have hxy : (x.toList == y.toList) = true := by rw [HE, he]; simp
          have HR := Lib.hid (HYes.out he)
          clear HE HNo HYes hf hx hy he hc gc
          go_wp2_with fail
          go_quiet (fail)
          go_wp2
          go_roundw
          case rel => exact ⟨k + 1, by omega, by go_num, HR, below_drewN hbel _⟩
          case measure => simp [intOf]; omega
        · have hxy : (x.toList == y.toList) = false := by rw [HE]; simpa using he
          have HR := Lib.hid (HNo.out he)
          clear HE HNo HYes hf hx hy he hc gc
          go_wp2_with fail
          go_quiet (fail)
          go_wp2
          go_ret
          exact ⟨by rw [HR.out]; rfl, below_drewN hbel _⟩
      · have HR : Hid ((L == M) = true) := by
          show _ = _
          have := hf.out
          rw [List.take_of_length_le (by omega), List.take_of_length_le (by have := HLM.out; omega)] at this
          rw [this]; simp
        clear hf
        go_wp2
        go_ret
        exact ⟨by rw [HR.out]; rfl, hbel⟩
  · have hlb : ((L.length : Int) == (M.length : Int)) = false := by rw [beq_eq_false_iff_ne]; omega
    have HR : Hid ((L == M) = false) := by
      show _ = _
      rw [beq_eq_false_iff_ne]
      exact fun e => hl (by rw [e])
    clear hl
    go_enter Tryd.func11, Tryd.ntmps11
    go_wp2_with fail
    go_ret
    exact ⟨by rw [HR.out]; rfl, Below.refl _ _⟩

end Go.Proofs.YtmkjjidilfhojaaDoor
end
