/-
  Texts that the laws of this seat lean on, one behind the other.
-/
import Derived.Test.YtmkjjidilfhojaaDoorMrgAG
/-
  Contracts of slices.IndexFunc and slices.ContainsFunc on fields and on texts, for any test that is handed in, and of slices.EqualFunc on fields.
-/
section
namespace Go.Proofs.YtmkjjidilfhojaaDoor
open Go.RowKit

/-- The place of the first that passes the test, or -1. -/
def idxP {α : Type} (p : α → Bool) (L : List α) : Int := if L.any p then (L.findIdx p : Int) else -1
theorem idxP_hit {α : Type} {p : α → Bool} {L : List α} {k : Nat} (hk : k < L.length) (h : p L[k] = true) (hm : ∀ j (hj : j < L.length), j < k → p L[j] = false) : idxP p L = k := by
  unfold idxP
  rw [if_pos (List.any_eq_true.2 ⟨L[k], List.getElem_mem hk, h⟩), (List.findIdx_eq hk).2 ⟨h, fun j hj => hm j (by omega) hj⟩]
theorem any_false {α : Type} {p : α → Bool} {L : List α} (hm : ∀ j (hj : j < L.length), p L[j] = false) : L.any p = false := by
  rw [List.any_eq_false]
  intro x hx
  obtain ⟨j, hj, rfl⟩ := List.getElem_of_mem hx
  simp [hm j hj]
theorem idxP_miss {α : Type} {p : α → Bool} {L : List α} (hm : ∀ j (hj : j < L.length), p L[j] = false) : idxP p L = -1 := by
  unfold idxP
  rw [if_neg (by rw [any_false hm]; simp)]
theorem idxP_any {α : Type} (p : α → Bool) (L : List α) : decide (0 ≤ idxP p L) = L.any p := by
  unfold idxP
  by_cases h : L.any p = true
  · rw [if_pos h, h]; simp
  · rw [if_neg h, Bool.eq_false_iff.2 h]; simp
/-- Where the first that passes stands. -/
theorem idxP_cases {α : Type} (p : α → Bool) (L : List α) : (idxP p L = -1 ∧ ∀ x ∈ L, p x = false) ∨ ∃ i, ∃ hi : i < L.length, idxP p L = i ∧ p L[i] = true ∧ ∀ j (hj : j < i), p (L[j]'(by omega)) = false := by
  by_cases h : L.any p = true
  · right
    obtain ⟨x, hx, hp⟩ := List.any_eq_true.1 h
    have hi : L.findIdx p < L.length := List.findIdx_lt_length_of_exists ⟨x, hx, hp⟩
    refine ⟨L.findIdx p, hi, by unfold idxP; rw [if_pos h], List.findIdx_getElem, fun j hj => ?_⟩
    simpa using List.not_of_lt_findIdx hj
  · left
    refine ⟨by unfold idxP; rw [if_neg h], fun x hx => ?_⟩
    rw [Bool.not_eq_true, List.any_eq_false] at h
    simpa using h x hx

/-- A test of texts. -/
def PredS (w : World) (g : Nat) (caps : Array Value) (p : List UInt8 → Bool) : Prop :=
  ∀ (W : World) (x : List UInt8), Below w.heap.size w W → x.length ≤ 1000000000 → Calls Tryd.prog g (#[.string (mkS x)] ++ caps) W fun e w' => e = .returned (.bool (p x)) ∧ Below W.heap.size W w'
/-- A test of two fields. -/
def PredT (w : World) (g : Nat) (caps : Array Value) (p : Fd → Fd → Bool) : Prop :=
  ∀ (W : World) (x y : Fd), Below w.heap.size w W → Bd x → Bd y → Calls Tryd.prog g (#[fdV x, fdV y] ++ caps) W fun e w' => e = .returned (.bool (p x y)) ∧ Below W.heap.size W w'

theorem idxF_any (A : Option Addr) (n c : Nat) (L : List Fd) (w : World) (h : SlF w A n c L) (hn : n ≤ 1000000000) (hB : ∀ x ∈ L, Bd x) (g : Nat) (caps : Array Value) (p : Fd → Bool)
    (eg : ∀ args W, (callFunc g args).run Tryd.prog W = .ok (.enter g args) W) (hp : PredF w g caps p) :
    Calls Tryd.prog 38 #[.slice A n c, .func (.func g) #[] caps] w fun e w' => e = .returned (.int .i64 (idxP p L)) ∧ Below w.heap.size w w' := by
  have hlen := h.len
  subst hlen
  have HP := Lib.hid hp
  clear hp
  go_enter Tryd.func38, Tryd.ntmps38
  go_wp2_with fail
  go_loopw [5, 8] (fun _ i wr => ∃ k : Nat, k ≤ L.length ∧ i = .int .i64 k ∧ Hid (∀ j (hj : j < L.length), j < k → p L[j] = false) ∧ Below w.heap.size w wr) (fun _ i _ => L.length - (intOf i).toNat)
  case atStart => exact ⟨0, Nat.zero_le _, rfl, (fun j hj h0 => absurd h0 (by omega)), Below.refl _ _⟩
  case round =>
    obtain ⟨k, hk, rfl, hf, hbel⟩ := hrel
    by_cases hlt : k < L.length
    · obtain ⟨ad, rfl, hc⟩ := h.at_ (by omega)
      have HN : Hid (p L[k] = true → idxP p L = k) := fun hp => idxP_hit hlt hp hf.out
      have HM : Hid (p L[k] = false → ∀ j (hj : j < L.length), j < k + 1 → p L[j] = false) := fun hp j hj hjk => by
        by_cases e : j = k
        · subst e; exact hp
        · exact hf.out j hj (by omega)
      obtain ⟨hc0, hc1⟩ := hc k L[k] (List.getElem?_eq_getElem hlt)
      have hcell0 := cell_kept hbel hc0
      have hcell1 := fd_snd (cell_kept hbel hc1)
      have hbd := hB _ (List.getElem_mem hlt)
      generalize L[k] = x at HN HM hc0 hc1 hcell0 hcell1 hbd
      obtain ⟨a, b⟩ := x
      have hcall := HP.out wr (a, b) hbel hbd
      unfold fdV at hcall
      clear hc hc0 hc1
      have HC := Lib.hid hcall
      have hi0 : (0 : Int) ≤ (k : Int) := by omega
      have hi1 : (k : Int) < (L.length : Int) := by omega
      clear hcall hf
      cases hq : p (a, b) with
      | true =>
        have HR := Lib.hid (HN.out hq)
        clear HN HM
        rw [hq] at HC
        clear hq
        go_wp2_with fail
        refine HC.out.mono ?_
        rintro e w1 ⟨rfl, hb1⟩
        clear HC
        go_wp2_with fail
        go_ret
        exact ⟨by rw [HR.out]; rfl, hbel.trans (hb1.mono hbel.size)⟩
      | false =>
        have HR := Lib.hid (HM.out hq)
        clear HN HM
        rw [hq] at HC
        clear hq
        go_wp2_with fail
        refine HC.out.mono ?_
        rintro e w1 ⟨rfl, hb1⟩
        clear HC
        go_wp2_with fail
        go_roundw
        case rel => exact ⟨k + 1, by omega, by go_num, HR.out, hbel.trans (hb1.mono hbel.size)⟩
        case measure => simp [intOf]; omega
    · have HE : Hid (idxP p L = -1) := idxP_miss fun j hj => hf.out j hj (by omega)
      go_wp2_with fail
      go_ret
      exact ⟨by rw [HE.out]; rfl, hbel⟩

end Go.Proofs.YtmkjjidilfhojaaDoor
end
