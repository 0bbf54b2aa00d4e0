/-
  Texts that the laws of this seat lean on, one behind the other.
-/
import Derived.Test.YtnembpklidcgoaaGreatDoorMrhAQ
import Derived.Test.YtnembpklidcgoaaGreatDoorMrhAO
set_option linter.unusedSimpArgs false
set_option linter.unusedVariables false
/-
  The questions that the laws of layer 18 ask of a request's and a reply's size.
-/
section
namespace Go.Proofs.YtnembpklidcgoaaGreatDoor
open Go.RowKit
set_option linter.unusedSimpArgs false

def fwP5 (p : Rply) : Bool := fwR ⟨p.c, p.r, p.v, p.f, p.b, 0⟩
theorem fwP5_yes {p : Rply} (h : fwP5 p = true) : FwL p.f ∧ p.f.length ≤ 70 ∧ ∀ x ∈ p.f, x.1.size ≤ 500 ∧ x.2.size ≤ 500 := fwR_yes (s := ⟨p.c, p.r, p.v, p.f, p.b, 0⟩) h
theorem r_fewP5 (p : Rply) (A : Option Addr) (c : Nat) (w : World) (h : SlF w A p.f.length c p.f) :
    Calls Tryz.prog 8 #[.agg (rpC p A c), .int .i64 500] w fun e w' => e = .returned (.bool (fwP5 p)) ∧ Below w.heap.size w w' :=
  r_fewR ⟨p.c, p.r, p.v, p.f, p.b, 0⟩ A c w h
def fwQ5 (r : Rqst) : Bool := decide (r.m.size ≤ 500) && (decide (r.t.size ≤ 500) && (decide (r.b.size ≤ 500) && fewB r.f 70 500))
theorem fwQ5_yes {r : Rqst} (h : fwQ5 r = true) : FwL r.f ∧ r.f.length ≤ 70 ∧ ∀ x ∈ r.f, x.1.size ≤ 500 ∧ x.2.size ≤ 500 := by
  unfold fwQ5 at h
  rw [Bool.and_eq_true, Bool.and_eq_true, Bool.and_eq_true] at h
  obtain ⟨g1, g2⟩ := few_yes h.2.2.2
  exact ⟨⟨by omega, fun x hx => by have := (g2 x hx).2; omega, fun x hx => by have := (g2 x hx).1; omega⟩, g1, g2⟩
set_option maxHeartbeats 4000000 in
set_option maxRecDepth 100000 in
theorem r_fewQ5 (r : Rqst) (A : Option Addr) (c : Nat) (w : World) (h : SlF w A r.f.length c r.f) :
    Calls Tryz.prog 7 #[.agg (rqC r A c), .int .i64 500] w fun e w' => e = .returned (.bool (fwQ5 r)) ∧ Below w.heap.size w w' := by
  have C1 := Lib.hid (fun W (hW : Below w.heap.size w W) => rf_few A _ c 70 500 r.f W (h.below hW) (by omega))
  have C1 := Lib.hid (fun W hW => show Calls Tryz.prog 27 #[.slice A r.f.length c, .int .i64 70, .int .i64 500] W (fun e w' => e = .returned (.bool (fewB r.f 70 500)) ∧ W = w') from C1.out W hW)
  obtain ⟨m, t, v, f, b⟩ := r
  have hD : fwQ5 ⟨m, t, v, f, b⟩ = (decide (m.size ≤ 500) && (decide (t.size ≤ 500) && (decide (b.size ≤ 500) && fewB f 70 500))) := rfl
  unfold rqC
  simp only at *
  generalize fwQ5 ⟨m, t, v, f, b⟩ = R at *
  generalize fewB f 70 500 = fw at *
  have HB1 : Hid (Below w.heap.size w (w.alloc (.cells #[.string m, .string t, .int .i64 v, .slice A f.length c, .string b] 24))) := (Below.refl _ _).alloc (Nat.le_refl _) _
  clear h
  by_cases hm : m.size ≤ 500
  · have hm' : (m.size : Int) ≤ 500 := by omega
    rw [decide_eq_true hm] at hD
    by_cases ht : t.size ≤ 500
    · have ht' : (t.size : Int) ≤ 500 := by omega
      rw [decide_eq_true ht] at hD
      by_cases hb : b.size ≤ 500
      · have hb' : (b.size : Int) ≤ 500 := by omega
        rw [decide_eq_true hb] at hD
        have HR : Hid (R = fw) := hD
        clear hD
        go_enter Tryz.func7, Tryz.ntmps7
        go_wp2_with fail
        refine (C1.out _ HB1.out).mono ?_
        rintro e w1 ⟨rfl, rfl⟩
        go_wp2_with fail
        go_ret
        exact ⟨by rw [HR.out]; rfl, HB1.out⟩
      · have hb' : ¬ (b.size : Int) ≤ 500 := by omega
        rw [decide_eq_false hb] at hD
        have HR : Hid (R = false) := hD
        clear hD C1
        go_enter Tryz.func7, Tryz.ntmps7
        go_wp2_with fail
        go_ret
        exact ⟨by rw [HR.out]; rfl, HB1.out⟩
    · have ht' : ¬ (t.size : Int) ≤ 500 := by omega
      rw [decide_eq_false ht] at hD
      have HR : Hid (R = false) := hD
      clear hD C1
      go_enter Tryz.func7, Tryz.ntmps7
      go_wp2_with fail
      go_ret
      exact ⟨by rw [HR.out]; rfl, HB1.out⟩
  · have hm' : ¬ (m.size : Int) ≤ 500 := by omega
    rw [decide_eq_false hm] at hD
    have HR : Hid (R = false) := hD
    clear hD C1
    go_enter Tryz.func7, Tryz.ntmps7
    go_wp2_with fail
    go_ret
    exact ⟨by rw [HR.out]; rfl, HB1.out⟩

end Go.Proofs.YtnembpklidcgoaaGreatDoor
end
