/-
  Texts that the laws of this seat lean on, one behind the other.
-/
import Derived.Test.YtfmaaghmbnhikaaGreatDoorMrgAH
import Derived.Test.YtfmaaghmbnhikaaGreatDoorMrgAV
import Derived.Test.YtfmaaghmbnhikaaGreatDoorMrgAW
import Derived.Test.YtfmaaghmbnhikaaGreatDoorRows
import Derived.Test.YtfmaaghmbnhikaaGreatDoorMrgAO
import Derived.Test.YtfmaaghmbnhikaaGreatDoorMrgE
/-
  A stored reply that comes in: what a struct of a reply, an integer and a slice reads as; the question that the laws ask of a reply's size.
-/
section
namespace Go.Proofs.YtfmaaghmbnhikaaGreatDoor
open Go.RowKit Go.ChangeShapes Go.WideShapes

structure WfS (w : World) (s : Stor) (A : Option Addr) (c : Nat) : Prop where
  f : SlF w A s.f.length c s.f
  r : s.r.size ≤ maxLen
  b : s.b.size ≤ maxLen
  c : (Lit.int .i64 s.c).wf = true
  t : (Lit.int .i64 s.t).wf = true

section
variable {H : Type} {enc : TypeId × Value → H} {P : Program} {w : World} {base : Nat} {held : Bool}
theorem seven_of {cs : Array Value} (h : cs.size = 7) : ∃ c0 c1 c2 c3 c4 c5 c6, cs = #[c0, c1, c2, c3, c4, c5, c6] := by
  obtain ⟨l⟩ := cs
  match l, h with
  | [c0, c1, c2, c3, c4, c5, c6], _ => exact ⟨c0, c1, c2, c3, c4, c5, c6, rfl⟩
/-- A struct's part, read. -/
theorem part_of {t : TypeId} {fs : Array Field} {fuel : Nat} {cs : List Value} {x : DataW H × List MemPlace} (ht : P.underlying t = some (.struct fs)) (h : DataW.trod enc P w base (fun _ => true) held fuel t cs = some x)
    (i : Nat) (f : Field) (hi : fs[i]? = some f) (o k : Nat) (ho : f.offset = o) (hk : P.cellsOf f.type = k) : ∃ n y, DataW.trod enc P w base (fun _ => true) held n f.type ((cs.drop o).take k) = some y := by
  obtain ⟨xs, n, _, _, _, hlen, hx⟩ := DataW.trod_struct ht h
  have h1 := hx i f hi
  have hlt : i < xs.length := by rw [hlen]; exact (Array.getElem?_eq_some_iff.1 hi).1
  rw [List.getElem?_eq_getElem hlt, ho, hk] at h1
  exact ⟨n, xs[i], h1⟩
theorem WfS.of_trod {r : Reach} {b0 : Nat} {t e q : TypeId} {f0 f1 f2 e0 e1 e2 e3 e4 g0 g1 : Field} {v : Value} {d : DataW H} {p : List MemPlace}
    (hs : P.underlying t = some (.struct #[f0, f1, f2])) (hC : P.cellsOf t = 7) (o0 : f0.offset = 0) (o1 : f1.offset = 5) (o2 : f2.offset = 6) (c0 : P.cellsOf f0.type = 5) (c1 : P.cellsOf f1.type = 1) (c2 : P.cellsOf f2.type = 1)
    (hr : P.underlying f0.type = some (.struct #[e0, e1, e2, e3, e4])) (k1 : P.underlying f1.type = some (.int .i64)) (k2 : P.underlying f2.type = some (.slice q))
    (p0 : e0.offset = 0) (p1 : e1.offset = 1) (p2 : e2.offset = 2) (p3 : e3.offset = 3) (p4 : e4.offset = 4) (d0 : P.cellsOf e0.type = 1) (d1 : P.cellsOf e1.type = 1) (d2 : P.cellsOf e2.type = 1) (d3 : P.cellsOf e3.type = 1) (d4 : P.cellsOf e4.type = 1)
    (i0 : P.underlying e0.type = some (.int .i64)) (i1 : P.underlying e1.type = some .string) (i2 : P.underlying e2.type = some (.int .i64)) (i3 : P.underlying e3.type = some (.slice e)) (i4 : P.underlying e4.type = some .string)
    (he : P.underlying e = some (.struct #[g0, g1])) (ce : P.cellsOf e = 2) (x0 : g0.offset = 0) (x1 : g1.offset = 1) (y0 : P.cellsOf g0.type = 1) (y1 : P.cellsOf g1.type = 1) (z0 : P.underlying g0.type = some .string) (z1 : P.underlying g1.type = some .string)
    (hv : Value.okWide P w r b0 t v) (h : DataW.Trod enc P w base (fun _ => true) held t v d p) : ∃ s A c B n m, v = .agg (stC s A c B n m) ∧ WfS w s A c := by
  obtain ⟨cs, rfl, hsz⟩ := okWide_struct hs hv
  obtain ⟨a0, a1, a2, a3, a4, a5, a6, rfl⟩ := seven_of (hsz.trans hC)
  obtain ⟨fuel, hf⟩ := h
  obtain ⟨n0, u0, t0⟩ := part_of hs hf 0 f0 rfl 0 5 o0 c0
  obtain ⟨n1, u1, t1⟩ := part_of hs hf 1 f1 rfl 5 1 o1 c1
  obtain ⟨n2, u2, t2⟩ := part_of hs hf 2 f2 rfl 6 1 o2 c2
  obtain ⟨m0, v0, r0⟩ := part_of hr t0 0 e0 rfl 0 1 p0 d0
  obtain ⟨m1, v1, r1⟩ := part_of hr t0 1 e1 rfl 1 1 p1 d1
  obtain ⟨m2, v2, r2⟩ := part_of hr t0 2 e2 rfl 2 1 p2 d2
  obtain ⟨m3, v3, r3⟩ := part_of hr t0 3 e3 rfl 3 1 p3 d3
  obtain ⟨m4, v4, r4⟩ := part_of hr t0 4 e4 rfl 4 1 p4 d4
  obtain ⟨s0, q0, _, w0⟩ := DataW.trod_int i0 (show DataW.trod enc P w base (fun _ => true) held m0 e0.type [a0] = some v0 from r0)
  obtain ⟨s1, q1, _, w1⟩ := DataW.trod_string i1 (show DataW.trod enc P w base (fun _ => true) held m1 e1.type [a1] = some v1 from r1)
  obtain ⟨s2, q2, _, w2⟩ := DataW.trod_int i2 (show DataW.trod enc P w base (fun _ => true) held m2 e2.type [a2] = some v2 from r2)
  have r3 : DataW.trod enc P w base (fun _ => true) held m3 e3.type [a3] = some v3 := r3
  obtain ⟨A, k, cp, hA⟩ := Go.Joins.slice_form i3 r3
  simp only [List.cons.injEq, and_true] at hA
  subst hA
  obtain ⟨L, hL⟩ := SlF.of_trod (d := v3.1) (p := v3.2) i3 he ce x0 x1 y0 y1 z0 z1 ⟨m3, r3⟩
  obtain ⟨s4, q4, _, w4⟩ := DataW.trod_string i4 (show DataW.trod enc P w base (fun _ => true) held m4 e4.type [a4] = some v4 from r4)
  obtain ⟨s5, q5, _, w5⟩ := DataW.trod_int k1 (show DataW.trod enc P w base (fun _ => true) held n1 f1.type [a5] = some u1 from t1)
  obtain ⟨B, n, m, hB⟩ := Go.Joins.slice_form k2 (show DataW.trod enc P w base (fun _ => true) held n2 f2.type [a6] = some u2 from t2)
  simp only [List.cons.injEq, and_true] at q0 q1 q2 q4 q5 hB
  subst q0 q1 q2 q4 q5 hB
  have hl := hL.len
  subst hl
  exact ⟨⟨s0, s1, s2, L, s4, s5⟩, A, cp, B, n, m, rfl, hL, w1, w4, w0, w5⟩
end

def fwR (s : Stor) : Bool := (decide (s.r.size ≤ 500) && decide (s.b.size ≤ 500)) && fewB s.f 70 500
theorem fwR_yes {s : Stor} (h : fwR s = true) : FwL s.f ∧ s.f.length ≤ 70 ∧ ∀ x ∈ s.f, x.1.size ≤ 500 ∧ x.2.size ≤ 500 := by
  unfold fwR at h
  rw [Bool.and_eq_true] at h
  obtain ⟨g1, g2⟩ := few_yes h.2
  exact ⟨⟨by omega, fun x hx => by have := (g2 x hx).2; omega, fun x hx => by have := (g2 x hx).1; omega⟩, g1, g2⟩
set_option maxHeartbeats 4000000 in
set_option maxRecDepth 100000 in
theorem r_fewR (s : Stor) (A : Option Addr) (c : Nat) (w : World) (h : SlF w A s.f.length c s.f) :
    Calls Tryz.prog 7 #[.agg (srC s A c), .int .i64 500] w fun e w' => e = .returned (.bool (fwR s)) ∧ Below w.heap.size w w' := by
  have C1 := Lib.hid (fun W (hW : Below w.heap.size w W) => rf_few A _ c 70 500 s.f W (h.below hW) (by omega))
  have C1 := Lib.hid (fun W hW => show Calls Tryz.prog 25 #[.slice A s.f.length c, .int .i64 70, .int .i64 500] W (fun e w' => e = .returned (.bool (fewB s.f 70 500)) ∧ W = w') from C1.out W hW)
  obtain ⟨m, t, v, f, b, tm⟩ := s
  have hD : fwR ⟨m, t, v, f, b, tm⟩ = ((decide (t.size ≤ 500) && decide (b.size ≤ 500)) && fewB f 70 500) := rfl
  unfold srC
  simp only at *
  generalize fwR ⟨m, t, v, f, b, tm⟩ = R at *
  generalize fewB f 70 500 = fw at *
  have HB1 : Hid (Below w.heap.size w (w.alloc (.cells #[.int .i64 m, .string t, .int .i64 v, .slice A f.length c, .string b] 24))) := (Below.refl _ _).alloc (Nat.le_refl _) _
  clear h
  by_cases ht : t.size ≤ 500
  · have ht' : (t.size : Int) ≤ 500 := by omega
    by_cases hb : b.size ≤ 500
    · have hb' : (b.size : Int) ≤ 500 := by omega
      have HR : Hid (R = fw) := by show _ = _; rw [hD, decide_eq_true ht, decide_eq_true hb]; rfl
      clear hD
      go_enter Tryz.func7, Tryz.ntmps7
      go_wp2_with fail
      refine (C1.out _ HB1.out).mono ?_
      rintro e w1 ⟨rfl, rfl⟩
      go_wp2_with fail
      go_ret
      exact ⟨by rw [HR.out]; rfl, HB1.out⟩
    · have hb' : ¬ (b.size : Int) ≤ 500 := by omega
      have HR : Hid (R = false) := by show _ = _; rw [hD, decide_eq_true ht, decide_eq_false hb, Bool.and_false]; (try rfl)
      clear hD C1
      go_enter Tryz.func7, Tryz.ntmps7
      go_wp2_with fail
      go_ret
      exact ⟨by rw [HR.out]; rfl, HB1.out⟩
  · have ht' : ¬ (t.size : Int) ≤ 500 := by omega
    have HR : Hid (R = false) := by show _ = _; rw [hD, decide_eq_false ht]; (try rfl)
    clear hD C1
    go_enter Tryz.func7, Tryz.ntmps7
    go_wp2_with fail
    go_ret
    exact ⟨by rw [HR.out]; rfl, HB1.out⟩

end Go.Proofs.YtfmaaghmbnhikaaGreatDoor
end

/-
  What the rows' list of variables gives the walks of layer 17: the program's tables (life, date) and the library's.
-/
section
namespace Go.Proofs.YtfmaaghmbnhikaaGreatDoor
open Go.RowKit

theorem lPow_data : (Rows.laid_internal_strconv_uint64pow10 : DataW Unit) = Lib.tabData .u64 Lib.pow10Tab := by kernel_rfl
theorem lifTabs {W : World} (h : laidMetH Tryz.prog Rows.lifeTellsRow.laid W) : LifTabs W := by
  rw [MakeChecks.laidMetH_plain _ _ _ (by kernel_rfl)] at h
  exact ⟨⟨tab_in (n := 20) h (.tail _ (.tail _ (.head _))) lPow_data (g := 7) (by kernel_rfl) (t := 191) (by kernel_rfl) Tryz.underlying191 Tryz.underlying145 (by kernel_rfl) (by kernel_rfl),
    var_in h (.tail _ (.tail _ (.tail _ (.tail _ (.head _))))) (g := 3) (by kernel_rfl) (t := 141) (by kernel_rfl) (by kernel_rfl),
    var_in h (.tail _ (.tail _ (.tail _ (.tail _ (.tail _ (.head _)))))) (g := 2) (by kernel_rfl) (t := 139) (by kernel_rfl) (by kernel_rfl),
    var_in h (.tail _ (.tail _ (.tail _ (.tail _ (.tail _ (.tail _ (.head _))))))) (g := 1) (by kernel_rfl) (t := 82) (by kernel_rfl) (by kernel_rfl)⟩,
    var_in h (.tail _ (.tail _ (.tail _ (.tail _ (.tail _ (.tail _ (.tail _ (.head _)))))))) (g := 0) (by kernel_rfl) (t := 62) (by kernel_rfl) (by kernel_rfl)⟩

end Go.Proofs.YtfmaaghmbnhikaaGreatDoor
end
