/-
  Texts that the laws of this seat lean on, one behind the other.
-/
import Derived.Test.YtnembpklidcgoaaGreatDoorMrhAP
import Derived.Test.YtnembpklidcgoaaGreatDoorMrhAE
import Derived.Test.YtnembpklidcgoaaGreatDoorMrhO
import Derived.Test.YtnembpklidcgoaaGreatDoorMrhL
import Derived.Deep.RegionHeld3
import Derived.Test.YtnembpklidcgoaaGreatDoorMrhAA
import Derived.Test.YtnembpklidcgoaaGreatDoorMrhAN
set_option linter.unusedSimpArgs false
set_option linter.unusedVariables false
/-
  Contracts of package life's Date, expiry, unsaid, Lifetime, Told, Age, Fresh, Left; with them all contracts of the package are there.
-/
section
namespace Go.Proofs.YtnembpklidcgoaaGreatDoor
open Go.RowKit

theorem fwl_join1 {L : List Fd} (h : FwL L) (n : ByteArray) : (Lib.join (fdAll L n) [44, 32]).length ≤ 1000000000000 := by
  obtain ⟨h1, h2⟩ := fwl_all h n
  exact Nat.le_trans (join_le _ 1000 10000 h1 h2) (by decide)

set_option maxHeartbeats 2000000 in
set_option maxRecDepth 100000 in
theorem lifD_any (s : Stor) (A : Option Addr) (c : Nat) (B : Option Addr) (n d : Nat) (w : World) (h : SlF w A s.f.length c s.f) (hL : FwL s.f) (HT : LifTabs w) :
    Calls Tryz.prog 71 #[.agg (stC s A c B n d)] w fun e w' => e = .returned (.int .i64 (datN s.f s.t)) ∧ Below w.heap.size w w' := by
  obtain ⟨sc, sr, sv, sf, sb, st⟩ := s
  unfold stC at *
  simp only at *
  have HF := Lib.hid (fun W (hW : Below w.heap.size w W) => h.below hW)
  have HB : Hid (Below w.heap.size w (w.alloc (.cells #[.int .i64 sc, .string sr, .int .i64 sv, .slice A sf.length c, .string sb, .int .i64 st, .slice B n d] 40))) := (Below.refl _ _).alloc (Nat.le_refl _) _
  have Z0 : Hid ((w.alloc (.cells #[.int .i64 sc, .string sr, .int .i64 sv, .slice A sf.length c, .string sb, .int .i64 st, .slice B n d] 40)).heap[w.heap.size]? = some (.cells #[.int .i64 sc, .string sr, .int .i64 sv, .slice A sf.length c, .string sb, .int .i64 st, .slice B n d] 40 (0, 0))) := heap_alloc_new w _
  have HT := Lib.hid HT
  have C1 := Lib.hid (fun W g (hW : Below w.heap.size w W) (hg : W.cell? ⟨g, 3, none⟩ = some (.slice A sf.length c)) => tol1_any g A c sf dtS W hg (HF.out W hW) hL (by decide) (HT.out.kept hW))
  have hD : datN sf st = if whnB sf dtS = true then whnV sf dtS else st := rfl
  generalize whnV sf dtS = V at *
  generalize whnB sf dtS = b at *
  unfold dtS at C1
  obtain ⟨R, hR⟩ : ∃ R, R = datN sf st := ⟨_, rfl⟩
  rw [← hR] at hD ⊢
  have HB2 := Lib.hid (HB.out.alloc HB.out.size (.cells #[.int .i64 sc, .string sr, .int .i64 sv, .slice A sf.length c, .string sb] 26))
  have Z1 := Lib.hid (zero_more (o' := .cells #[.int .i64 sc, .string sr, .int .i64 sv, .slice A sf.length c, .string sb] 26) Z0.out)
  obtain ⟨g, hg⟩ : ∃ g, (w.alloc (.cells #[.int .i64 sc, .string sr, .int .i64 sv, .slice A sf.length c, .string sb, .int .i64 st, .slice B n d] 40)).heap.size = g := ⟨_, rfl⟩
  have Y0 : Hid (((w.alloc (.cells #[.int .i64 sc, .string sr, .int .i64 sv, .slice A sf.length c, .string sb, .int .i64 st, .slice B n d] 40)).alloc (.cells #[.int .i64 sc, .string sr, .int .i64 sv, .slice A sf.length c, .string sb] 26)).cell? ⟨g, 3, none⟩ = some (.slice A sf.length c)) := by
    show _ = _
    subst hg
    rw [cell_of_row _ _ _ _ _ _ (heap_alloc_new _ _)]; rfl
  have HG := Lib.hid hg
  clear hR h hL HF hg
  obtain ⟨q0, q1, q2, q3, q4, q5, q6⟩ := cel7 Z0.out
  cases b with
  | true =>
    rw [if_pos rfl] at hD
    subst hD
    go_enter Tryz.func71, Tryz.ntmps71
    go_wp2_with fail
    refine (tms_any _ _ g HG.out).mono ?_
    rintro e w1 ⟨rfl, rfl⟩
    go_wp2_with fail
    refine (C1.out _ _ HB2.out Y0.out).mono ?_
    rintro e w1 ⟨rfl, hb⟩
    go_wp2_with fail
    go_ret
    exact ⟨rfl, below_then HB2.out hb⟩
  | false =>
    rw [if_neg (by simp)] at hD
    subst hD
    go_enter Tryz.func71, Tryz.ntmps71
    go_wp2_with fail
    refine (tms_any _ _ g HG.out).mono ?_
    rintro e w1 ⟨rfl, rfl⟩
    go_wp2_with fail
    refine (C1.out _ _ HB2.out Y0.out).mono ?_
    rintro e w1 ⟨rfl, hb⟩
    obtain ⟨p0, p1, p2, p3, p4, p5, p6⟩ := cel7 (zero_still hb Z1.out)
    go_wp2_with fail
    go_ret
    exact ⟨rfl, below_then HB2.out hb⟩

set_option maxHeartbeats 2000000 in
set_option maxRecDepth 100000 in
theorem lifX_any (s : Stor) (A : Option Addr) (c : Nat) (B : Option Addr) (n d : Nat) (w : World) (h : SlF w A s.f.length c s.f) (hL : FwL s.f) (HT : LifTabs w) :
    Calls Tryz.prog 117 #[.agg (stC s A c B n d)] w fun e w' => e = .returned (.int .i64 (if whnB s.f exS = true then aprN (whnV s.f exS) (datN s.f s.t) else 0)) ∧ Below w.heap.size w w' := by
  have CD := Lib.hid (fun W (hW : Below w.heap.size w W) => lifD_any s A c B n d W (h.below hW) hL (HT.kept hW))
  obtain ⟨sc, sr, sv, sf, sb, st⟩ := s
  unfold stC at *
  simp only at *
  have HF := Lib.hid (fun W (hW : Below w.heap.size w W) => h.below hW)
  have HB : Hid (Below w.heap.size w (w.alloc (.cells #[.int .i64 sc, .string sr, .int .i64 sv, .slice A sf.length c, .string sb, .int .i64 st, .slice B n d] 40))) := (Below.refl _ _).alloc (Nat.le_refl _) _
  have Z0 : Hid ((w.alloc (.cells #[.int .i64 sc, .string sr, .int .i64 sv, .slice A sf.length c, .string sb, .int .i64 st, .slice B n d] 40)).heap[w.heap.size]? = some (.cells #[.int .i64 sc, .string sr, .int .i64 sv, .slice A sf.length c, .string sb, .int .i64 st, .slice B n d] 40 (0, 0))) := heap_alloc_new w _
  have HT := Lib.hid HT
  have C1 := Lib.hid (fun W g (hW : Below w.heap.size w W) (hg : W.cell? ⟨g, 3, none⟩ = some (.slice A sf.length c)) => tol1_any g A c sf exS W hg (HF.out W hW) hL (by decide) (HT.out.kept hW))
  generalize whnV sf exS = v1 at *
  generalize whnB sf exS = b1 at *
  generalize datN sf st = dn at *
  have KA := Lib.hid (fun W => btw_any v1 dn W)
  generalize aprN v1 dn = ap1 at *
  unfold exS at C1
  have HB2 := Lib.hid (HB.out.alloc HB.out.size (.cells #[.int .i64 sc, .string sr, .int .i64 sv, .slice A sf.length c, .string sb] 26))
  have Z1 := Lib.hid (zero_more (o' := .cells #[.int .i64 sc, .string sr, .int .i64 sv, .slice A sf.length c, .string sb] 26) Z0.out)
  obtain ⟨g, hg⟩ : ∃ g, (w.alloc (.cells #[.int .i64 sc, .string sr, .int .i64 sv, .slice A sf.length c, .string sb, .int .i64 st, .slice B n d] 40)).heap.size = g := ⟨_, rfl⟩
  have Y0 : Hid (((w.alloc (.cells #[.int .i64 sc, .string sr, .int .i64 sv, .slice A sf.length c, .string sb, .int .i64 st, .slice B n d] 40)).alloc (.cells #[.int .i64 sc, .string sr, .int .i64 sv, .slice A sf.length c, .string sb] 26)).cell? ⟨g, 3, none⟩ = some (.slice A sf.length c)) := by
    show _ = _
    subst hg
    rw [cell_of_row _ _ _ _ _ _ (heap_alloc_new _ _)]; rfl
  have HG := Lib.hid hg
  clear h hL HF hg
  obtain ⟨q0, q1, q2, q3, q4, q5, q6⟩ := cel7 Z0.out
  cases b1 with
  | false =>
    go_enter Tryz.func117, Tryz.ntmps117
    go_wp2_with fail
    refine (tms_any _ _ g HG.out).mono ?_
    rintro e w1 ⟨rfl, rfl⟩
    go_wp2_with fail
    refine (C1.out _ _ HB2.out Y0.out).mono ?_
    rintro e w1 ⟨rfl, hb⟩
    go_wp2_with fail
    go_ret
    exact ⟨by trivial, below_then HB2.out hb⟩
  | true =>
    go_enter Tryz.func117, Tryz.ntmps117
    go_wp2_with fail
    refine (tms_any _ _ g HG.out).mono ?_
    rintro e w1 ⟨rfl, rfl⟩
    go_wp2_with fail
    refine (C1.out _ _ HB2.out Y0.out).mono ?_
    rintro e w1 ⟨rfl, hb⟩
    have Z2 := Lib.hid (zero_still hb Z1.out)
    have HB3 := Lib.hid (below_then HB2.out hb)
    obtain ⟨p0, p1, p2, p3, p4, p5, p6⟩ := cel7 Z2.out
    clear hb C1
    go_wp2_with fail
    refine (CD.out _ HB3.out).mono ?_
    rintro e w2 ⟨rfl, hb⟩
    have HB4 := Lib.hid (below_then HB3.out hb)
    clear hb p0 p1 p2 p3 p4 p5 p6 q0 q1 q2 q3 q4 q5 q6
    go_wp2_with fail
    refine (KA.out _).mono ?_
    rintro e w3 ⟨rfl, rfl⟩
    go_wp2_with fail
    go_ret
    exact ⟨by trivial, HB4.out⟩

set_option maxHeartbeats 2000000 in
set_option maxRecDepth 100000 in
theorem lifM_any (s : Stor) (A : Option Addr) (c : Nat) (B : Option Addr) (n d : Nat) (w : World) (h : SlF w A s.f.length c s.f) (hL : FwL s.f) (HT : LifTabs w) :
    Calls Tryz.prog 118 #[.agg (stC s A c B n d)] w fun e w' => e = .returned (.int .i64 (if whnB s.f lmS = true then min (aprN (datN s.f s.t) (whnV s.f lmS) / 10) 86400 else 0)) ∧ Below w.heap.size w w' := by
  have CD := Lib.hid (fun W (hW : Below w.heap.size w W) => lifD_any s A c B n d W (h.below hW) hL (HT.kept hW))
  obtain ⟨sc, sr, sv, sf, sb, st⟩ := s
  unfold stC at *
  simp only at *
  have HF := Lib.hid (fun W (hW : Below w.heap.size w W) => h.below hW)
  have HB : Hid (Below w.heap.size w (w.alloc (.cells #[.int .i64 sc, .string sr, .int .i64 sv, .slice A sf.length c, .string sb, .int .i64 st, .slice B n d] 40))) := (Below.refl _ _).alloc (Nat.le_refl _) _
  have Z0 : Hid ((w.alloc (.cells #[.int .i64 sc, .string sr, .int .i64 sv, .slice A sf.length c, .string sb, .int .i64 st, .slice B n d] 40)).heap[w.heap.size]? = some (.cells #[.int .i64 sc, .string sr, .int .i64 sv, .slice A sf.length c, .string sb, .int .i64 st, .slice B n d] 40 (0, 0))) := heap_alloc_new w _
  have HT := Lib.hid HT
  have C1 := Lib.hid (fun W g (hW : Below w.heap.size w W) (hg : W.cell? ⟨g, 3, none⟩ = some (.slice A sf.length c)) => tol1_any g A c sf lmS W hg (HF.out W hW) hL (by decide) (HT.out.kept hW))
  generalize whnV sf lmS = v1 at *
  generalize whnB sf lmS = b1 at *
  generalize datN sf st = dn at *
  have KA := Lib.hid (fun W => btw_any dn v1 W)
  obtain ⟨x0, x1⟩ := aprN_bd dn v1
  generalize aprN dn v1 = ap2 at *
  have hw : IntKind.i64.wrap (ap2.tdiv 10) = ap2 / 10 := by rw [IntKind.wrap_i64, Int.tdiv_eq_ediv_of_nonneg x0]; omega
  obtain ⟨R, hR⟩ : ∃ R, R = min (ap2 / 10) 86400 := ⟨_, rfl⟩
  rw [← hR]
  have HR := Lib.hid hR
  clear hR
  unfold lmS at C1
  have HB2 := Lib.hid (HB.out.alloc HB.out.size (.cells #[.int .i64 sc, .string sr, .int .i64 sv, .slice A sf.length c, .string sb] 26))
  have Z1 := Lib.hid (zero_more (o' := .cells #[.int .i64 sc, .string sr, .int .i64 sv, .slice A sf.length c, .string sb] 26) Z0.out)
  obtain ⟨g, hg⟩ : ∃ g, (w.alloc (.cells #[.int .i64 sc, .string sr, .int .i64 sv, .slice A sf.length c, .string sb, .int .i64 st, .slice B n d] 40)).heap.size = g := ⟨_, rfl⟩
  have Y0 : Hid (((w.alloc (.cells #[.int .i64 sc, .string sr, .int .i64 sv, .slice A sf.length c, .string sb, .int .i64 st, .slice B n d] 40)).alloc (.cells #[.int .i64 sc, .string sr, .int .i64 sv, .slice A sf.length c, .string sb] 26)).cell? ⟨g, 3, none⟩ = some (.slice A sf.length c)) := by
    show _ = _
    subst hg
    rw [cell_of_row _ _ _ _ _ _ (heap_alloc_new _ _)]; rfl
  have HG := Lib.hid hg
  clear h hL HF hg
  obtain ⟨q0, q1, q2, q3, q4, q5, q6⟩ := cel7 Z0.out
  cases b1 with
  | false =>
    go_enter Tryz.func118, Tryz.ntmps118
    go_wp2_with fail
    refine (tms_any _ _ g HG.out).mono ?_
    rintro e w1 ⟨rfl, rfl⟩
    go_wp2_with fail
    refine (C1.out _ _ HB2.out Y0.out).mono ?_
    rintro e w1 ⟨rfl, hb⟩
    go_wp2_with fail
    go_ret
    exact ⟨by trivial, below_then HB2.out hb⟩
  | true =>
    go_enter Tryz.func118, Tryz.ntmps118
    go_wp2_with fail
    refine (tms_any _ _ g HG.out).mono ?_
    rintro e w1 ⟨rfl, rfl⟩
    go_wp2_with fail
    refine (C1.out _ _ HB2.out Y0.out).mono ?_
    rintro e w1 ⟨rfl, hb⟩
    have Z2 := Lib.hid (zero_still hb Z1.out)
    have HB3 := Lib.hid (below_then HB2.out hb)
    obtain ⟨p0, p1, p2, p3, p4, p5, p6⟩ := cel7 Z2.out
    clear hb C1
    go_wp2_with fail
    refine (CD.out _ HB3.out).mono ?_
    rintro e w2 ⟨rfl, hb⟩
    have HB4 := Lib.hid (below_then HB3.out hb)
    clear hb p0 p1 p2 p3 p4 p5 p6 q0 q1 q2 q3 q4 q5 q6
    go_wp2_with fail
    refine (KA.out _).mono ?_
    rintro e w3 ⟨rfl, rfl⟩
    go_wp2_with fail
    go_ret
    exact ⟨by rw [HR.out]; rfl, HB4.out⟩

set_option maxHeartbeats 4000000 in
set_option maxRecDepth 100000 in
theorem lifL_any (s : Stor) (A : Option Addr) (c : Nat) (B : Option Addr) (n d : Nat) (w : World) (h : SlF w A s.f.length c s.f) (hL : FwL s.f) (HT : LifTabs w) :
    Calls Tryz.prog 67 #[.agg (stC s A c B n d)] w fun e w' => e = .returned (.int .i64 (lifN s.f s.c s.t)) ∧ Below w.heap.size w w' := by
  have CX := Lib.hid (fun W (hW : Below w.heap.size w W) => lifX_any s A c B n d W (h.below hW) hL (HT.kept hW))
  have CM := Lib.hid (fun W (hW : Below w.heap.size w W) => lifM_any s A c B n d W (h.below hW) hL (HT.kept hW))
  obtain ⟨sc, sr, sv, sf, sb, st⟩ := s
  unfold stC at *
  simp only at *
  have HF := Lib.hid (fun W (hW : Below w.heap.size w W) => h.below hW)
  have HB : Hid (Below w.heap.size w (w.alloc (.cells #[.int .i64 sc, .string sr, .int .i64 sv, .slice A sf.length c, .string sb, .int .i64 st, .slice B n d] 40))) := (Below.refl _ _).alloc (Nat.le_refl _) _
  have Z0 : Hid ((w.alloc (.cells #[.int .i64 sc, .string sr, .int .i64 sv, .slice A sf.length c, .string sb, .int .i64 st, .slice B n d] 40)).heap[w.heap.size]? = some (.cells #[.int .i64 sc, .string sr, .int .i64 sv, .slice A sf.length c, .string sb, .int .i64 st, .slice B n d] 40 (0, 0))) := heap_alloc_new w _
  have HT := Lib.hid HT
  have C1 := Lib.hid (fun W (hW : Below w.heap.size w W) => ctlP_any A sf.length c sf W (HF.out W hW) hL.n hL.v (fwl_bd hL))
  have C2 := Lib.hid (fun W (hW : Below w.heap.size w W) => getF_any A sf.length c sf exS W (HF.out W hW) (by have := hL.n; omega) (fwl_bd hL) exS_le (fwl_join1 hL exS))
  have C5 := Lib.hid (fun W (hW : Below w.heap.size w W) => lifU_any sc W (HT.out.kept hW))
  have hE : fdGot sf exS = decide (0 < (fdAll sf exS).length) := by
    unfold fdGot
    cases fdAll sf exS with
    | nil => rfl
    | cons x r => simp
  have hD : lifN sf sc st = if 0 ≤ (ctP sf).sh then (ctP sf).sh else if 0 ≤ (ctP sf).ma then (ctP sf).ma
    else if 0 < (fdAll sf exS).length then (if whnB sf exS = true then aprN (whnV sf exS) (datN sf st) else 0)
    else if whnB sf lmS = true ∧ usuB sc = true then min (aprN (datN sf st) (whnV sf lmS) / 10) 86400 else 0 := rfl
  have hD2 : (if whnB sf lmS = true ∧ usuB sc = true then min (aprN (datN sf st) (whnV sf lmS) / 10) 86400 else 0) = if usuB sc = true then (if whnB sf lmS = true then min (aprN (datN sf st) (whnV sf lmS) / 10) 86400 else 0) else 0 := by
    cases usuB sc <;> cases whnB sf lmS <;> rfl
  rw [hD2] at hD
  generalize (if whnB sf lmS = true then min (aprN (datN sf st) (whnV sf lmS) / 10) 86400 else 0) = vm at *
  generalize (if whnB sf exS = true then aprN (whnV sf exS) (datN sf st) else 0) = vx at *
  obtain ⟨R, hR⟩ : ∃ R, R = lifN sf sc st := ⟨_, rfl⟩
  rw [← hR] at hD ⊢
  rw [hE] at C2
  generalize ctP sf = P at *
  obtain ⟨ns, nc, pv, pu, mc, oi, ma, sh, mf⟩ := P
  unfold ctC at C1
  simp only at C1 hD
  generalize (fdAll sf exS).length = en at *
  generalize fdGet sf exS = ge at *
  generalize usuB sc = ub at *
  unfold exS at C2
  clear h hL HF hR hD2 hE
  obtain ⟨q0, q1, q2, q3, q4, q5, q6⟩ := cel7 Z0.out
  go_enter Tryz.func67, Tryz.ntmps67
  go_wp2_with fail
  refine (C1.out _ HB.out).mono ?_
  rintro e w1 ⟨rfl, hb⟩
  have Z0 := Lib.hid (zero_more (o' := .cells #[.bool ns, .bool nc, .bool pv, .bool pu, .bool mc, .bool oi, .int .i64 ma, .int .i64 sh, .int .i64 mf] 44) (zero_still hb Z0.out))
  have hbb := below_then HB.out hb
  have Y0 : Hid ((w1.alloc (.cells #[.bool ns, .bool nc, .bool pv, .bool pu, .bool mc, .bool oi, .int .i64 ma, .int .i64 sh, .int .i64 mf] 44)).heap[w1.heap.size]? = some (.cells #[.bool ns, .bool nc, .bool pv, .bool pu, .bool mc, .bool oi, .int .i64 ma, .int .i64 sh, .int .i64 mf] 44 (0, 0))) := heap_alloc_new w1 _
  have HB := Lib.hid (hbb.alloc hbb.size (.cells #[.bool ns, .bool nc, .bool pv, .bool pu, .bool mc, .bool oi, .int .i64 ma, .int .i64 sh, .int .i64 mf] 44))
  clear hb hbb C1 q0 q1 q2 q3 q4 q5 q6
  obtain ⟨q0, q1, q2, q3, q4, q5, q6⟩ := cel7 Z0.out
  go_wp2_with fail
  refine (C2.out _ HB.out).mono ?_
  rintro e w2 ⟨rfl, hb⟩
  have Z0 := Lib.hid (zero_still hb Z0.out)
  have Y0 := Lib.hid (zero_still hb Y0.out)
  have HB := Lib.hid (below_then HB.out hb)
  clear hb C2 q0 q1 q2 q3 q4 q5 q6
  obtain ⟨q0, q1, q2, q3, q4, q5, q6⟩ := cel7 Z0.out
  have y7 : w2.cell? ⟨w1.heap.size, 7, none⟩ = some (.int .i64 sh) := by rw [cell_of_row _ _ _ _ _ _ Y0.out]; rfl
  have y6 : w2.cell? ⟨w1.heap.size, 6, none⟩ = some (.int .i64 ma) := by rw [cell_of_row _ _ _ _ _ _ Y0.out]; rfl
  have HC : Hid (Below w.heap.size w w2) := HB
  by_cases h1 : 0 ≤ sh
  · rw [if_pos h1] at hD
    subst hD
    clear C5 CX CM
    go_wp2_with fail
    go_ret
    exact ⟨by trivial, HC.out⟩
  rw [if_neg h1] at hD
  by_cases h2 : 0 ≤ ma
  · rw [if_pos h2] at hD
    subst hD
    clear C5 CX CM
    go_wp2_with fail
    go_ret
    exact ⟨by trivial, HC.out⟩
  rw [if_neg h2] at hD
  by_cases h3 : 0 < en
  · rw [if_pos h3] at hD
    have hd3 : decide (0 < en) = true := decide_eq_true h3
    subst hD
    clear C5 CM
    go_wp2_with fail
    refine (CX.out _ HB.out).mono ?_
    rintro e w3 ⟨rfl, hb⟩
    go_wp2_with fail
    go_ret
    exact ⟨by trivial, below_then HB.out hb⟩
  rw [if_neg h3] at hD
  have hd3 : decide (0 < en) = false := decide_eq_false h3
  clear CX
  cases ub with
  | false =>
    rw [if_neg (by simp)] at hD
    subst hD
    go_wp2_with fail
    refine (C5.out _ HB.out).mono ?_
    rintro e w3 ⟨rfl, hb⟩
    go_wp2_with fail
    go_ret
    exact ⟨by trivial, below_then HB.out hb⟩
  | true =>
    rw [if_pos rfl] at hD
    subst hD
    go_wp2_with fail
    refine (C5.out _ HB.out).mono ?_
    rintro e w3 ⟨rfl, hb⟩
    have Z0 := Lib.hid (zero_still hb Z0.out)
    have HB := Lib.hid (below_then HB.out hb)
    clear hb C5 q0 q1 q2 q3 q4 q5 q6 y6 y7
    obtain ⟨q0, q1, q2, q3, q4, q5, q6⟩ := cel7 Z0.out
    go_wp2_with fail
    refine (CM.out _ HB.out).mono ?_
    rintro e w4 ⟨rfl, hb⟩
    go_wp2_with fail
    go_ret
    exact ⟨by trivial, below_then HB.out hb⟩

set_option maxHeartbeats 2000000 in
set_option maxRecDepth 100000 in
theorem lifT_any (s : Stor) (A : Option Addr) (c : Nat) (w : World) (h : SlF w A s.f.length c s.f) (hL : FwL s.f) :
    Calls Tryz.prog 69 #[.agg (srC s A c)] w fun e w' => e = .returned (.int .i64 (tolN s.f)) ∧ Below w.heap.size w w' := by
  obtain ⟨sc, sr, sv, sf, sb, st⟩ := s
  unfold srC
  simp only at *
  have HB : Hid (Below w.heap.size w (w.alloc (.cells #[.int .i64 sc, .string sr, .int .i64 sv, .slice A sf.length c, .string sb] 26))) := (Below.refl _ _).alloc (Nat.le_refl _) _
  have C1 := Lib.hid (fun W (hW : Below w.heap.size w W) => all_any A sf.length c sf agS W (h.below hW) (by have := hL.n; omega) (fwl_bd hL) agS_le)
  obtain ⟨hVn, hVz⟩ := fwl_all hL agS
  have hT : tolN sf = ((fdAll sf agS).flatMap splO).foldl tolF 0 := rfl
  rw [hT]
  generalize fdAll sf agS = V at *
  unfold agS Vals at C1
  clear h hL hT
  go_enter Tryz.func69, Tryz.ntmps69
  go_wp2_with fail
  refine (C1.out _ HB.out).mono ?_
  rintro e w1 ⟨A0, c0, rfl, hS, _, hb⟩
  have HS := Lib.hid hS
  have HB := Lib.hid (below_then HB.out hb)
  clear hS hb C1
  go_wp2_with fail
  go_loopw [3, 16] (fun v i wr => ∃ (k : Nat) (m : Int), k ≤ V.length ∧ i = .int .i64 (k : Int) ∧ v = .int .i64 m ∧ (0 ≤ m ∧ m ≤ 2147483648) ∧ Hid (m = ((V.take k).flatMap splO).foldl tolF 0) ∧ Below w1.heap.size w1 wr) (fun _ i _ => V.length - (intOf i).toNat)
  case atStart => exact ⟨0, 0, Nat.zero_le _, rfl, rfl, by omega, rfl, Below.refl _ _⟩
  case round =>
    obtain ⟨k, m, hk, rfl, rfl, hm, hf, hbel⟩ := hrel
    by_cases hlt : k < V.length
    · obtain ⟨ad, rfl, hc⟩ := HS.out.at_ (by omega)
      have hcell := cell_kept hbel (hc k V[k] (List.getElem?_eq_getElem hlt))
      have hvz := hVz _ (List.getElem_mem hlt)
      have hsn := tol_snoc V k hlt 0
      rw [← hf.out] at hsn
      obtain ⟨hEn, hEz⟩ := spl_sz hvz
      have CS := Lib.hid (fun W => split_any (mkS V[k]) W (by rw [mkS_size]; omega))
      rw [mkS_list] at CS
      unfold Strs2 at CS
      generalize splO V[k] = E at *
      generalize splE V[k] = se at *
      generalize mkS V[k] = ms at *
      have hi0 : (0 : Int) ≤ (k : Int) := by omega
      have hi1 : (k : Int) < (V.length : Int) := by omega
      have HSN := Lib.hid hsn
      have hs1 := hbel.size
      clear hc hvz hsn hf
      go_wp2_with fail
      refine (CS.out _).mono ?_
      rintro e w2 ⟨A2, c2, rfl, hS2, _, hb2⟩
      have HS2 := Lib.hid hS2
      have HB2 := Lib.hid (hbel.trans (hb2.mono hs1))
      clear hb2 hS2
      go_wp2_with fail
      go_loopw [3, 27] (fun v i wi => ∃ (j : Nat) (q : Int), j ≤ E.length ∧ i = .int .i64 (j : Int) ∧ v = .int .i64 q ∧ (0 ≤ q ∧ q ≤ 2147483648) ∧ Hid (q = (E.take j).foldl tolF m) ∧ Below w2.heap.size w2 wi) (fun _ i _ => E.length - (intOf i).toNat)
      case atStart => exact ⟨0, m, Nat.zero_le _, rfl, rfl, hm, rfl, Below.refl _ _⟩
      case round =>
        obtain ⟨j, q, hj, rfl, rfl, hq, hfq, hbi⟩ := hrel
        by_cases hjl : j < E.length
        · obtain ⟨bd, rfl, hd⟩ := HS2.out.at_ (by omega)
          have hcell2 := cell_kept hbi (hd j E[j] (List.getElem?_eq_getElem hjl))
          have hez := hEz _ (List.getElem_mem hjl)
          have hta := tol_at E j hjl m
          rw [← hfq.out] at hta
          have CE := Lib.hid (fun W => seconds_any (mkS E[j]) W)
          rw [mkS_list] at CE
          have hsb := sec_bd E[j]
          generalize mkS E[j] = me at *
          generalize secN E[j] = se2 at *
          generalize secB E[j] = sb2 at *
          have HTA := Lib.hid hta
          have hj0 : (0 : Int) ≤ (j : Int) := by omega
          have hj1 : (j : Int) < (E.length : Int) := by omega
          have HBI := Lib.hid hbi
          clear hd hez hta hfq hbi
          go_wp2_with fail
          refine (CE.out _).mono ?_
          rintro e w3 ⟨rfl, hb3⟩
          have hb4 := below_then HBI.out hb3
          have HB4 := Lib.hid (hb4.alloc hb4.size (.cells #[.int .i64 se2] 3))
          clear hb3 hb4
          go_wp2_with (go_at_call 68; refine (grt_any _ se2 w3.heap.size _ ?_).mono ?_)
          · go_simp
          rintro e w5 ⟨rfl, rfl⟩
          go_wp2_with fail
          go_roundw
          case rel => exact ⟨j + 1, max q se2, by omega, by go_num, rfl, by omega, HTA.out.symm, HB4.out⟩
          case measure => simp [intOf]; omega
        · have hj1 : ¬ (j : Int) < (E.length : Int) := by omega
          have HT : Hid (q = E.foldl tolF m) := by
            have := hfq.out
            rwa [List.take_of_length_le (by omega)] at this
          have HB3 := Lib.hid (HB2.out.trans (hbi.mono HB2.out.size))
          clear hfq hbi
          go_wp2_with fail
          go_roundw
          case rel => exact ⟨k + 1, q, by omega, by go_num, rfl, hq, by show _ = _; rw [HSN.out]; exact HT.out, HB3.out⟩
          case measure => simp [intOf]; omega
    · have HR : Hid ((V.flatMap splO).foldl tolF 0 = m) := by
        have := hf.out
        rw [List.take_of_length_le (by omega)] at this
        exact this.symm
      have hi1 : ¬ (k : Int) < (V.length : Int) := by omega
      clear hf
      go_wp2_with fail
      go_ret
      exact ⟨by rw [HR.out]; rfl, below_then HB.out hbel⟩

set_option maxHeartbeats 2000000 in
set_option maxRecDepth 100000 in
theorem lifA_any (s : Stor) (A : Option Addr) (c : Nat) (B : Option Addr) (n d : Nat) (now : Int) (w : World) (h : SlF w A s.f.length c s.f) (hL : FwL s.f) (HT : LifTabs w) :
    Calls Tryz.prog 25 #[.agg (stC s A c B n d), .int .i64 now] w fun e w' => e = .returned (.int .i64 (ageN s.f s.t now)) ∧ Below w.heap.size w w' := by
  have CD := Lib.hid (fun W (hW : Below w.heap.size w W) => lifD_any s A c B n d W (h.below hW) hL (HT.kept hW))
  have CT := Lib.hid (fun W (hW : Below w.heap.size w W) => lifT_any s A c W (h.below hW) hL)
  obtain ⟨sc, sr, sv, sf, sb, st⟩ := s
  unfold stC at *
  simp only at *
  have HF := Lib.hid (fun W (hW : Below w.heap.size w W) => h.below hW)
  have HB : Hid (Below w.heap.size w (w.alloc (.cells #[.int .i64 sc, .string sr, .int .i64 sv, .slice A sf.length c, .string sb, .int .i64 st, .slice B n d] 40))) := (Below.refl _ _).alloc (Nat.le_refl _) _
  have Z0 : Hid ((w.alloc (.cells #[.int .i64 sc, .string sr, .int .i64 sv, .slice A sf.length c, .string sb, .int .i64 st, .slice B n d] 40)).heap[w.heap.size]? = some (.cells #[.int .i64 sc, .string sr, .int .i64 sv, .slice A sf.length c, .string sb, .int .i64 st, .slice B n d] 40 (0, 0))) := heap_alloc_new w _
  have HT := Lib.hid HT
  unfold srC at CT
  have hD : ageN sf st now = addI (max (tolN sf) (aprN st (datN sf st))) (aprN now st) := rfl
  simp only at CT
  generalize ageN sf st now = R at *
  generalize datN sf st = dn at *
  have K1 := Lib.hid (fun W => btw_any st dn W)
  have K2 := Lib.hid (fun W => btw_any now st W)
  generalize aprN st dn = a1 at *
  generalize aprN now st = a2 at *
  generalize tolN sf = tl at *
  have K3 := Lib.hid (fun W => add_any (max tl a1) a2 W)
  rw [← hD] at K3
  have KG := Lib.hid (fun W b hc => grt_any tl a1 b W hc)
  obtain ⟨mg, hmg⟩ : ∃ mg, mg = max tl a1 := ⟨_, rfl⟩
  rw [← hmg] at K3 KG
  have HB := Lib.hid HB.out.drew
  have Z0 : Hid ((w.alloc (.cells #[.int .i64 sc, .string sr, .int .i64 sv, .slice A sf.length c, .string sb, .int .i64 st, .slice B n d] 40)).drew.heap[w.heap.size]? = some (.cells #[.int .i64 sc, .string sr, .int .i64 sv, .slice A sf.length c, .string sb, .int .i64 st, .slice B n d] 40 (0, 0))) := Z0.out
  clear h hL HF hD hmg
  go_enter Tryz.func25, Tryz.ntmps25
  go_wp2_with fail
  go_region_held3 (fun W => W.cell? ⟨w.heap.size, 0, none⟩ = some (.int .i64 sc) ∧ W.cell? ⟨w.heap.size, 1, none⟩ = some (.string sr) ∧ W.cell? ⟨w.heap.size, 2, none⟩ = some (.int .i64 sv) ∧ W.cell? ⟨w.heap.size, 3, none⟩ = some (.slice A sf.length c) ∧ W.cell? ⟨w.heap.size, 4, none⟩ = some (.string sb) ∧ W.cell? ⟨w.heap.size, 5, none⟩ = some (.int .i64 st) ∧ W.cell? ⟨w.heap.size, 6, none⟩ = some (.slice B n d)) (first | exact cel7 Z0.out | exact cel7 (zero_more Z0.out)) (first
    | (go_at_call 69; refine (CT.out _ HB.out).mono ?_; rintro e w5 ⟨rfl, hb⟩; have Z0 := Lib.hid (zero_still hb Z0.out); have HB := Lib.hid (below_then HB.out hb); clear hb)
    | (go_at_call 71; refine (CD.out _ HB.out).mono ?_; rintro e w6 ⟨rfl, hb⟩; have Z0 := Lib.hid (zero_still hb Z0.out); have HB := Lib.hid (below_then HB.out hb); clear hb)
    | (go_at_call 70; refine (K1.out _).mono ?_; rintro e w7 ⟨rfl, rfl⟩; skip)
    | (go_at_call 68; refine (KG.out _ _ (by rw [cell_of_row _ _ _ _ _ _ (heap_alloc_new _ _)]; rfl)).mono ?_; rintro e w8 ⟨rfl, rfl⟩; have Z0 := Lib.hid (zero_more (o' := .cells #[.int .i64 a1] 3) Z0.out); have HB := Lib.hid (HB.out.alloc HB.out.size (.cells #[.int .i64 a1] 3))))
  all_goals
    obtain ⟨q0, q1, q2, q3, q4, q5, q6⟩ := cel7 Z0.out
    go_wp2_with fail
    refine (K2.out _).mono ?_
    rintro e v1 ⟨rfl, rfl⟩
    go_wp2_with fail
    refine (K3.out _).mono ?_
    rintro e v2 ⟨rfl, hb⟩
    go_wp2_with fail
    go_ret
    exact ⟨rfl, below_then HB.out hb⟩

set_option maxHeartbeats 2000000 in
set_option maxRecDepth 100000 in
theorem lifF_any (s : Stor) (A : Option Addr) (c : Nat) (B : Option Addr) (n d : Nat) (now : Int) (w : World) (h : SlF w A s.f.length c s.f) (hL : FwL s.f) (HT : LifTabs w) :
    Calls Tryz.prog 24 #[.agg (stC s A c B n d), .int .i64 now] w fun e w' => e = .returned (.bool (frsB s.f s.c s.t now)) ∧ Below w.heap.size w w' := by
  have CD := Lib.hid (fun W (hW : Below w.heap.size w W) => lifL_any s A c B n d W (h.below hW) hL (HT.kept hW))
  have CT := Lib.hid (fun W (hW : Below w.heap.size w W) => lifA_any s A c B n d now W (h.below hW) hL (HT.kept hW))
  obtain ⟨sc, sr, sv, sf, sb, st⟩ := s
  unfold stC at *
  simp only at *
  have HF := Lib.hid (fun W (hW : Below w.heap.size w W) => h.below hW)
  have HB : Hid (Below w.heap.size w (w.alloc (.cells #[.int .i64 sc, .string sr, .int .i64 sv, .slice A sf.length c, .string sb, .int .i64 st, .slice B n d] 40))) := (Below.refl _ _).alloc (Nat.le_refl _) _
  have Z0 : Hid ((w.alloc (.cells #[.int .i64 sc, .string sr, .int .i64 sv, .slice A sf.length c, .string sb, .int .i64 st, .slice B n d] 40)).heap[w.heap.size]? = some (.cells #[.int .i64 sc, .string sr, .int .i64 sv, .slice A sf.length c, .string sb, .int .i64 st, .slice B n d] 40 (0, 0))) := heap_alloc_new w _
  have hD : frsB sf sc st now = decide (ageN sf st now < lifN sf sc st) := rfl
  generalize frsB sf sc st now = R at *
  generalize ageN sf st now = ag at *
  generalize lifN sf sc st = lf at *
  have HD := Lib.hid hD
  have HB := Lib.hid HB.out.drew
  have Z0 : Hid ((w.alloc (.cells #[.int .i64 sc, .string sr, .int .i64 sv, .slice A sf.length c, .string sb, .int .i64 st, .slice B n d] 40)).drew.heap[w.heap.size]? = some (.cells #[.int .i64 sc, .string sr, .int .i64 sv, .slice A sf.length c, .string sb, .int .i64 st, .slice B n d] 40 (0, 0))) := Z0.out
  clear h hL HF hD HT
  go_enter Tryz.func24, Tryz.ntmps24
  go_wp2_with fail
  go_region_held3 (fun W => W.cell? ⟨w.heap.size, 0, none⟩ = some (.int .i64 sc) ∧ W.cell? ⟨w.heap.size, 1, none⟩ = some (.string sr) ∧ W.cell? ⟨w.heap.size, 2, none⟩ = some (.int .i64 sv) ∧ W.cell? ⟨w.heap.size, 3, none⟩ = some (.slice A sf.length c) ∧ W.cell? ⟨w.heap.size, 4, none⟩ = some (.string sb) ∧ W.cell? ⟨w.heap.size, 5, none⟩ = some (.int .i64 st) ∧ W.cell? ⟨w.heap.size, 6, none⟩ = some (.slice B n d)) (exact cel7 Z0.out) (first
    | (go_at_call 67; refine (CD.out _ HB.out).mono ?_; rintro e w5 ⟨rfl, hb⟩; have Z0 := Lib.hid (zero_still hb Z0.out); have HB := Lib.hid (below_then HB.out hb); clear hb)
    | (go_at_call 25; refine (CT.out _ HB.out).mono ?_; rintro e w5 ⟨rfl, hb⟩; have Z0 := Lib.hid (zero_still hb Z0.out); have HB := Lib.hid (below_then HB.out hb); clear hb))
  go_wp2_with fail
  go_ret
  exact ⟨by rw [HD.out]; rfl, HB.out⟩

set_option maxHeartbeats 2000000 in
set_option maxRecDepth 100000 in
theorem lifE_any (s : Stor) (A : Option Addr) (c : Nat) (B : Option Addr) (n d : Nat) (now : Int) (w : World) (h : SlF w A s.f.length c s.f) (hL : FwL s.f) (HT : LifTabs w) :
    Calls Tryz.prog 26 #[.agg (stC s A c B n d), .int .i64 now] w fun e w' => e = .returned (.int .i64 (lefN s.f s.c s.t now)) ∧ Below w.heap.size w w' := by
  have CD := Lib.hid (fun W (hW : Below w.heap.size w W) => lifL_any s A c B n d W (h.below hW) hL (HT.kept hW))
  have CT := Lib.hid (fun W (hW : Below w.heap.size w W) => lifA_any s A c B n d now W (h.below hW) hL (HT.kept hW))
  obtain ⟨sc, sr, sv, sf, sb, st⟩ := s
  unfold stC at *
  simp only at *
  have HF := Lib.hid (fun W (hW : Below w.heap.size w W) => h.below hW)
  have HB : Hid (Below w.heap.size w (w.alloc (.cells #[.int .i64 sc, .string sr, .int .i64 sv, .slice A sf.length c, .string sb, .int .i64 st, .slice B n d] 40))) := (Below.refl _ _).alloc (Nat.le_refl _) _
  have Z0 : Hid ((w.alloc (.cells #[.int .i64 sc, .string sr, .int .i64 sv, .slice A sf.length c, .string sb, .int .i64 st, .slice B n d] 40)).heap[w.heap.size]? = some (.cells #[.int .i64 sc, .string sr, .int .i64 sv, .slice A sf.length c, .string sb, .int .i64 st, .slice B n d] 40 (0, 0))) := heap_alloc_new w _
  have hD : lefN sf sc st now = lessI (lifN sf sc st) (ageN sf st now) := rfl
  generalize lefN sf sc st now = R at *
  generalize ageN sf st now = ag at *
  generalize lifN sf sc st = lf at *
  have K3 := Lib.hid (fun W => less_any lf ag W)
  rw [← hD] at K3
  have HB := Lib.hid HB.out.drew
  have Z0 : Hid ((w.alloc (.cells #[.int .i64 sc, .string sr, .int .i64 sv, .slice A sf.length c, .string sb, .int .i64 st, .slice B n d] 40)).drew.heap[w.heap.size]? = some (.cells #[.int .i64 sc, .string sr, .int .i64 sv, .slice A sf.length c, .string sb, .int .i64 st, .slice B n d] 40 (0, 0))) := Z0.out
  clear h hL HF hD HT
  go_enter Tryz.func26, Tryz.ntmps26
  go_wp2_with fail
  go_region_held3 (fun W => W.cell? ⟨w.heap.size, 0, none⟩ = some (.int .i64 sc) ∧ W.cell? ⟨w.heap.size, 1, none⟩ = some (.string sr) ∧ W.cell? ⟨w.heap.size, 2, none⟩ = some (.int .i64 sv) ∧ W.cell? ⟨w.heap.size, 3, none⟩ = some (.slice A sf.length c) ∧ W.cell? ⟨w.heap.size, 4, none⟩ = some (.string sb) ∧ W.cell? ⟨w.heap.size, 5, none⟩ = some (.int .i64 st) ∧ W.cell? ⟨w.heap.size, 6, none⟩ = some (.slice B n d)) (exact cel7 Z0.out) (first
    | (go_at_call 67; refine (CD.out _ HB.out).mono ?_; rintro e w5 ⟨rfl, hb⟩; have Z0 := Lib.hid (zero_still hb Z0.out); have HB := Lib.hid (below_then HB.out hb); clear hb)
    | (go_at_call 25; refine (CT.out _ HB.out).mono ?_; rintro e w5 ⟨rfl, hb⟩; have Z0 := Lib.hid (zero_still hb Z0.out); have HB := Lib.hid (below_then HB.out hb); clear hb)
    | (go_at_call 73; refine (K3.out _).mono ?_; rintro e w5 ⟨rfl, hb⟩; have HB := Lib.hid (below_then HB.out hb); have Z0 := Lib.hid (zero_still hb Z0.out); clear hb))
  go_wp2_with fail
  go_ret
  exact ⟨rfl, HB.out⟩

end Go.Proofs.YtnembpklidcgoaaGreatDoor
end

/-
  A stored reply that comes in: what a struct of a reply, an integer and a slice reads as; the question that the laws ask of a reply's size.
-/
section
namespace Go.Proofs.YtnembpklidcgoaaGreatDoor
open Go.RowKit Go.ChangeShapes Go.WideShapes

structure WfS (w : World) (s : Stor) (A : Option Addr) (c : Nat) : Prop where
  f : SlF w A s.f.length c s.f
  r : s.r.size ≤ maxLen
  b : s.b.size ≤ maxLen
  c : (Lit.int .i64 s.c).wf = true
  t : (Lit.int .i64 s.t).wf = true

section
variable {H : Type} {enc : TypeId × Value → H} {P : Program} {w : World} {base : Nat} {held : Bool}
theorem seven_of {cs : Array Value} (h : cs.size = 7) : ∃ c0 c1 c2 c3 c4 c5 c6, cs = #[c0, c1, c2, c3, c4, c5, c6] := by
  obtain ⟨l⟩ := cs
  match l, h with
  | [c0, c1, c2, c3, c4, c5, c6], _ => exact ⟨c0, c1, c2, c3, c4, c5, c6, rfl⟩
/-- A struct's part, read. -/
theorem part_of {t : TypeId} {fs : Array Field} {fuel : Nat} {cs : List Value} {x : DataW H × List MemPlace} (ht : P.underlying t = some (.struct fs)) (h : DataW.trod enc P w base (fun _ => true) held fuel t cs = some x)
    (i : Nat) (f : Field) (hi : fs[i]? = some f) (o k : Nat) (ho : f.offset = o) (hk : P.cellsOf f.type = k) : ∃ n y, DataW.trod enc P w base (fun _ => true) held n f.type ((cs.drop o).take k) = some y := by
  obtain ⟨xs, n, _, _, _, hlen, hx⟩ := DataW.trod_struct ht h
  have h1 := hx i f hi
  have hlt : i < xs.length := by rw [hlen]; exact (Array.getElem?_eq_some_iff.1 hi).1
  rw [List.getElem?_eq_getElem hlt, ho, hk] at h1
  exact ⟨n, xs[i], h1⟩
theorem WfS.of_trod {r : Reach} {b0 : Nat} {t e q : TypeId} {f0 f1 f2 e0 e1 e2 e3 e4 g0 g1 : Field} {v : Value} {d : DataW H} {p : List MemPlace}
    (hs : P.underlying t = some (.struct #[f0, f1, f2])) (hC : P.cellsOf t = 7) (o0 : f0.offset = 0) (o1 : f1.offset = 5) (o2 : f2.offset = 6) (c0 : P.cellsOf f0.type = 5) (c1 : P.cellsOf f1.type = 1) (c2 : P.cellsOf f2.type = 1)
    (hr : P.underlying f0.type = some (.struct #[e0, e1, e2, e3, e4])) (k1 : P.underlying f1.type = some (.int .i64)) (k2 : P.underlying f2.type = some (.slice q))
    (p0 : e0.offset = 0) (p1 : e1.offset = 1) (p2 : e2.offset = 2) (p3 : e3.offset = 3) (p4 : e4.offset = 4) (d0 : P.cellsOf e0.type = 1) (d1 : P.cellsOf e1.type = 1) (d2 : P.cellsOf e2.type = 1) (d3 : P.cellsOf e3.type = 1) (d4 : P.cellsOf e4.type = 1)
    (i0 : P.underlying e0.type = some (.int .i64)) (i1 : P.underlying e1.type = some .string) (i2 : P.underlying e2.type = some (.int .i64)) (i3 : P.underlying e3.type = some (.slice e)) (i4 : P.underlying e4.type = some .string)
    (he : P.underlying e = some (.struct #[g0, g1])) (ce : P.cellsOf e = 2) (x0 : g0.offset = 0) (x1 : g1.offset = 1) (y0 : P.cellsOf g0.type = 1) (y1 : P.cellsOf g1.type = 1) (z0 : P.underlying g0.type = some .string) (z1 : P.underlying g1.type = some .string)
    (hv : Value.okWide P w r b0 t v) (h : DataW.Trod enc P w base (fun _ => true) held t v d p) : ∃ s A c B n m, v = .agg (stC s A c B n m) ∧ WfS w s A c := by
  obtain ⟨cs, rfl, hsz⟩ := okWide_struct hs hv
  obtain ⟨a0, a1, a2, a3, a4, a5, a6, rfl⟩ := seven_of (hsz.trans hC)
  obtain ⟨fuel, hf⟩ := h
  obtain ⟨n0, u0, t0⟩ := part_of hs hf 0 f0 rfl 0 5 o0 c0
  obtain ⟨n1, u1, t1⟩ := part_of hs hf 1 f1 rfl 5 1 o1 c1
  obtain ⟨n2, u2, t2⟩ := part_of hs hf 2 f2 rfl 6 1 o2 c2
  obtain ⟨m0, v0, r0⟩ := part_of hr t0 0 e0 rfl 0 1 p0 d0
  obtain ⟨m1, v1, r1⟩ := part_of hr t0 1 e1 rfl 1 1 p1 d1
  obtain ⟨m2, v2, r2⟩ := part_of hr t0 2 e2 rfl 2 1 p2 d2
  obtain ⟨m3, v3, r3⟩ := part_of hr t0 3 e3 rfl 3 1 p3 d3
  obtain ⟨m4, v4, r4⟩ := part_of hr t0 4 e4 rfl 4 1 p4 d4
  obtain ⟨s0, q0, _, w0⟩ := DataW.trod_int i0 (show DataW.trod enc P w base (fun _ => true) held m0 e0.type [a0] = some v0 from r0)
  obtain ⟨s1, q1, _, w1⟩ := DataW.trod_string i1 (show DataW.trod enc P w base (fun _ => true) held m1 e1.type [a1] = some v1 from r1)
  obtain ⟨s2, q2, _, w2⟩ := DataW.trod_int i2 (show DataW.trod enc P w base (fun _ => true) held m2 e2.type [a2] = some v2 from r2)
  have r3 : DataW.trod enc P w base (fun _ => true) held m3 e3.type [a3] = some v3 := r3
  obtain ⟨A, k, cp, hA⟩ := Go.Joins.slice_form i3 r3
  simp only [List.cons.injEq, and_true] at hA
  subst hA
  obtain ⟨L, hL⟩ := SlF.of_trod (d := v3.1) (p := v3.2) i3 he ce x0 x1 y0 y1 z0 z1 ⟨m3, r3⟩
  obtain ⟨s4, q4, _, w4⟩ := DataW.trod_string i4 (show DataW.trod enc P w base (fun _ => true) held m4 e4.type [a4] = some v4 from r4)
  obtain ⟨s5, q5, _, w5⟩ := DataW.trod_int k1 (show DataW.trod enc P w base (fun _ => true) held n1 f1.type [a5] = some u1 from t1)
  obtain ⟨B, n, m, hB⟩ := Go.Joins.slice_form k2 (show DataW.trod enc P w base (fun _ => true) held n2 f2.type [a6] = some u2 from t2)
  simp only [List.cons.injEq, and_true] at q0 q1 q2 q4 q5 hB
  subst q0 q1 q2 q4 q5 hB
  have hl := hL.len
  subst hl
  exact ⟨⟨s0, s1, s2, L, s4, s5⟩, A, cp, B, n, m, rfl, hL, w1, w4, w0, w5⟩
end

def fwR (s : Stor) : Bool := (decide (s.r.size ≤ 500) && decide (s.b.size ≤ 500)) && fewB s.f 70 500
theorem fwR_yes {s : Stor} (h : fwR s = true) : FwL s.f ∧ s.f.length ≤ 70 ∧ ∀ x ∈ s.f, x.1.size ≤ 500 ∧ x.2.size ≤ 500 := by
  unfold fwR at h
  rw [Bool.and_eq_true] at h
  obtain ⟨g1, g2⟩ := few_yes h.2
  exact ⟨⟨by omega, fun x hx => by have := (g2 x hx).2; omega, fun x hx => by have := (g2 x hx).1; omega⟩, g1, g2⟩
set_option maxHeartbeats 4000000 in
set_option maxRecDepth 100000 in
theorem r_fewR (s : Stor) (A : Option Addr) (c : Nat) (w : World) (h : SlF w A s.f.length c s.f) :
    Calls Tryz.prog 8 #[.agg (srC s A c), .int .i64 500] w fun e w' => e = .returned (.bool (fwR s)) ∧ Below w.heap.size w w' := by
  have C1 := Lib.hid (fun W (hW : Below w.heap.size w W) => rf_few A _ c 70 500 s.f W (h.below hW) (by omega))
  have C1 := Lib.hid (fun W hW => show Calls Tryz.prog 27 #[.slice A s.f.length c, .int .i64 70, .int .i64 500] W (fun e w' => e = .returned (.bool (fewB s.f 70 500)) ∧ W = w') from C1.out W hW)
  obtain ⟨m, t, v, f, b, tm⟩ := s
  have hD : fwR ⟨m, t, v, f, b, tm⟩ = ((decide (t.size ≤ 500) && decide (b.size ≤ 500)) && fewB f 70 500) := rfl
  unfold srC
  simp only at *
  generalize fwR ⟨m, t, v, f, b, tm⟩ = R at *
  generalize fewB f 70 500 = fw at *
  have HB1 : Hid (Below w.heap.size w (w.alloc (.cells #[.int .i64 m, .string t, .int .i64 v, .slice A f.length c, .string b] 26))) := (Below.refl _ _).alloc (Nat.le_refl _) _
  clear h
  by_cases ht : t.size ≤ 500
  · have ht' : (t.size : Int) ≤ 500 := by omega
    by_cases hb : b.size ≤ 500
    · have hb' : (b.size : Int) ≤ 500 := by omega
      have HR : Hid (R = fw) := by show _ = _; rw [hD, decide_eq_true ht, decide_eq_true hb]; rfl
      clear hD
      go_enter Tryz.func8, Tryz.ntmps8
      go_wp2_with fail
      refine (C1.out _ HB1.out).mono ?_
      rintro e w1 ⟨rfl, rfl⟩
      go_wp2_with fail
      go_ret
      exact ⟨by rw [HR.out]; rfl, HB1.out⟩
    · have hb' : ¬ (b.size : Int) ≤ 500 := by omega
      have HR : Hid (R = false) := by show _ = _; rw [hD, decide_eq_true ht, decide_eq_false hb, Bool.and_false]; (try rfl)
      clear hD C1
      go_enter Tryz.func8, Tryz.ntmps8
      go_wp2_with fail
      go_ret
      exact ⟨by rw [HR.out]; rfl, HB1.out⟩
  · have ht' : ¬ (t.size : Int) ≤ 500 := by omega
    have HR : Hid (R = false) := by show _ = _; rw [hD, decide_eq_false ht]; (try rfl)
    clear hD C1
    go_enter Tryz.func8, Tryz.ntmps8
    go_wp2_with fail
    go_ret
    exact ⟨by rw [HR.out]; rfl, HB1.out⟩

end Go.Proofs.YtnembpklidcgoaaGreatDoor
end
