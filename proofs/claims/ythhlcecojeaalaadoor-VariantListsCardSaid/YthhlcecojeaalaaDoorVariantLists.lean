/-
  The law VariantLists (depotlaw20) returns true for every list of stored replies, every list of fields, every stored reply and every place, and leaves what it was given as it was. No condition.
-/
import Derived.Test.YthhlcecojeaalaaDoorRows
import Derived.WalkKit
import Derived.ProofKit
import Derived.OpenShut
import Derived.ShutString
import Derived.ChangeOld
import Derived.Below
import Derived.Test.YthhlcecojeaalaaDoorMrgC
import Derived.Test.YthhlcecojeaalaaDoorMrgE
import Derived.Test.YthhlcecojeaalaaDoorMrgF
import Derived.Test.YthhlcecojeaalaaDoorMrgJ
import Derived.Test.YthhlcecojeaalaaDoorMrgK
import Derived.Test.YthhlcecojeaalaaDoorMrgL
import Derived.Test.YthhlcecojeaalaaDoorMrgW
import Derived.Test.YthhlcecojeaalaaDoorMrgZ
import Derived.Test.YthhlcecojeaalaaDoorMrgAA
import Derived.Test.YthhlcecojeaalaaDoorMrgAB
import Derived.Test.YthhlcecojeaalaaDoorMrgAD
import Derived.Test.YthhlcecojeaalaaDoorMrgAF
import Derived.Test.YthhlcecojeaalaaDoorMrgAG
import Derived.Test.YthhlcecojeaalaaDoorMrgAH
import Derived.Test.YthhlcecojeaalaaDoorMrgAI
import Derived.Test.YthhlcecojeaalaaDoorMrgAL
import Derived.Test.YthhlcecojeaalaaDoorMrgAN
import Derived.Test.YthhlcecojeaalaaDoorMrgAO
import Derived.Test.YthhlcecojeaalaaDoorMrgAQ
import Derived.Test.YthhlcecojeaalaaDoorMrgAR
import Derived.Test.YthhlcecojeaalaaDoorMrgAS
import Derived.Test.YthhlcecojeaalaaDoorMrgAT
import Derived.Deep.RegionHeld3
import Derived.Test.YthhlcecojeaalaaDoorCards
import Derived.Test.YthhlcecojeaalaaDoorTie
import Derived.LaidMore
import Derived.Lib.LaidTab
import Derived.Stop.Joined
import Derived.Lay
set_option linter.unusedSimpArgs false
set_option linter.unusedVariables false
namespace Go.Proofs.YthhlcecojeaalaaDoor.variantLists
open Go.ChangeShapes Go.WideShapes Go.ChangeAt Go.RowKit
open Go.ChangeMaps (open_string shut_string)
set_option linter.unusedVariables false

theorem own : ownKnob Tryd.prog.godebug = none := by kernel_rfl
theorem laidOut : laidOutB Tryd.prog = true := by kernel_rfl

set_option maxHeartbeats 8000000 in
set_option maxRecDepth 100000 in
theorem walk (a0 : Option Addr) (len0 cap0 : Nat) (z0 : List Sd) (a1 : Option Addr) (len1 cap1 : Nat) (z1 : List Fd) (a2 : Stor) (A2 : Option Addr) (c2 : Nat) (B2 : Option Addr) (n2 m2 : Nat) (K2 : List Pk) (a3 : Int) (w : World) (w0 : SlD w a0 len0 cap0 z0 ∧ ∀ y ∈ z0, (Lit.int .i64 y.x.s.c).wf = true ∧ (Lit.int .i64 y.x.s.v).wf = true ∧ (Lit.int .i64 y.x.s.t).wf = true) (w1 : SlF w a1 len1 cap1 z1) (w2 : WfS w a2 A2 c2 ∧ SlK w B2 n2 m2 K2) (w3 : (Lit.int .i64 a3).wf = true) (hL : laidMetH Tryd.prog Rows.variantListsRow.laid w) :
    Calls Tryd.prog 3 #[.slice a0 len0 cap0, .slice a1 len1 cap1, .agg (stC a2 A2 c2 B2 n2 m2), .int .i64 a3] w fun e w' => e = .returned (.bool true) ∧ Below w.heap.size w w' := by
  have HT := Lib.hid (vntTabs hL)
  clear hL
  have hk := w2.2
  replace w2 := w2.1
  replace w0 := w0.1
  have CX := Lib.hid (fun W (hW : Below w.heap.size w W) => ex20_any W (HT.out.kept hW))
  have hlk := hk.len
  obtain ⟨y, hy⟩ : ∃ y : Sd, y = ⟨⟨a2, K2⟩, A2, c2, B2, m2⟩ := ⟨_, rfl⟩
  have hya : sdA y = stC a2 A2 c2 B2 n2 m2 := by rw [hy, ← hlk]; rfl
  have hyt : SdAt w y := by rw [hy]; exact ⟨w2.f, by show SlK w B2 K2.length m2 K2; rw [hlk]; exact hk⟩
  have hyz : y.x.s.r.size ≤ maxLen ∧ y.x.s.b.size ≤ maxLen := by rw [hy]; exact ⟨w2.r, w2.b⟩
  have K1 := Lib.hid (fun W (hW : Below w.heap.size w W) => r_fewV 20 300 20 300 rfl rfl (by decide) a0 len0 cap0 z0 W (w0.below hW))
  have k2 := fun W (hW : Below w.heap.size w W) => r_fewV 1 300 1 300 rfl rfl (by decide) (some ⟨W.heap.size, 0, none⟩) 1 1 [y] (W.alloc (.cells (sdA y) 28)) (SlD.single W 28 y (hyt.below hW) hyz)
  have K3 := Lib.hid (fun W (hW : Below w.heap.size w W) => rf_few a1 len1 cap1 70 300 z1 W (w1.below hW) (by decide))
  have hf1 := fun h => fewV_yes (m := 20) (bd := 300) (L := z0) h
  have hf2 := fun h => fewV_yes (m := 1) (bd := 300) (L := [y]) h
  have hf3 := fun h => few_yes (L := z1) (m := 70) (b := 300) h
  have HYX := Lib.hid (show y.x.s = a2 by rw [hy])
  generalize fewV 20 300 z0 = fb1 at *
  generalize fewV 1 300 [y] = fb2 at *
  have K3 := Lib.hid (show ∀ W (hW : Below w.heap.size w W), Calls Tryd.prog 9 #[.slice a1 len1 cap1, .int .i64 70, .int .i64 300] W (fun e w' => e = .returned (.bool (fewB z1 70 300)) ∧ W = w') from K3.out)
  generalize fewB z1 70 300 = fb3 at *
  rw [hya] at k2
  have K2 := Lib.hid k2
  clear k2
  cases fb1 with
  | false =>
    clear hf1 hf2 hf3 w0 w1 w2 hk hlk hya hyt hyz hy HYX
    obtain ⟨sc, sr, sv, f, sb, st⟩ := a2
    unfold sdA stC at *
    simp only at *
    have ZS : Hid ((w.alloc (.cells #[.int .i64 sc, .string sr, .int .i64 sv, .slice A2 f.length c2, .string sb, .int .i64 st, .slice B2 n2 m2] 28)).heap[w.heap.size]? = some (.cells #[.int .i64 sc, .string sr, .int .i64 sv, .slice A2 f.length c2, .string sb, .int .i64 st, .slice B2 n2 m2] 28 (0, 0))) := heap_alloc_new w _
    have HB : Hid (Below w.heap.size w (w.alloc (.cells #[.int .i64 sc, .string sr, .int .i64 sv, .slice A2 f.length c2, .string sb, .int .i64 st, .slice B2 n2 m2] 28))) := (Below.refl _ _).alloc (Nat.le_refl _) _
    obtain ⟨q0, q1, q2, q3, q4, q5, q6⟩ := cel7 ZS.out
    go_enter Tryd.func3, Tryd.ntmps3
    go_wp2_with fail
    refine (K1.out _ HB.out).mono ?_
    rintro e v1 ⟨rfl, hb⟩
    clear q0 q1 q2 q3 q4 q5 q6
    replace ZS := Lib.hid (zero_still hb ZS.out)
    replace HB := Lib.hid (below_then HB.out hb)
    clear hb
    obtain ⟨q0, q1, q2, q3, q4, q5, q6⟩ := cel7 ZS.out
    go_wp2_with fail
    refine (CX.out _ HB.out).mono ?_
    rintro e v9 ⟨rfl, hb⟩
    go_wp2_with fail
    go_ret
    exact ⟨rfl, below_then HB.out hb⟩
  | true =>
    cases fb2 with
    | false =>
      clear hf1 hf2 hf3 w0 w1 w2 hk hlk hya hyt hyz hy HYX
      obtain ⟨sc, sr, sv, f, sb, st⟩ := a2
      unfold sdA stC at *
      simp only at *
      have ZS : Hid ((w.alloc (.cells #[.int .i64 sc, .string sr, .int .i64 sv, .slice A2 f.length c2, .string sb, .int .i64 st, .slice B2 n2 m2] 28)).heap[w.heap.size]? = some (.cells #[.int .i64 sc, .string sr, .int .i64 sv, .slice A2 f.length c2, .string sb, .int .i64 st, .slice B2 n2 m2] 28 (0, 0))) := heap_alloc_new w _
      have HB : Hid (Below w.heap.size w (w.alloc (.cells #[.int .i64 sc, .string sr, .int .i64 sv, .slice A2 f.length c2, .string sb, .int .i64 st, .slice B2 n2 m2] 28))) := (Below.refl _ _).alloc (Nat.le_refl _) _
      obtain ⟨q0, q1, q2, q3, q4, q5, q6⟩ := cel7 ZS.out
      go_enter Tryd.func3, Tryd.ntmps3
      go_wp2_with fail
      refine (K1.out _ HB.out).mono ?_
      rintro e v1 ⟨rfl, hb⟩
      clear q0 q1 q2 q3 q4 q5 q6
      replace ZS := Lib.hid (zero_still hb ZS.out)
      replace HB := Lib.hid (below_then HB.out hb)
      clear hb
      obtain ⟨q0, q1, q2, q3, q4, q5, q6⟩ := cel7 ZS.out
      go_wp2_with fail
      refine (K2.out _ HB.out).mono ?_
      rintro e v2 ⟨rfl, hb0⟩
      have hb := zero_then hb0
      clear hb0
      clear q0 q1 q2 q3 q4 q5 q6
      replace ZS := Lib.hid (zero_still hb ZS.out)
      replace HB := Lib.hid (below_then HB.out hb)
      clear hb
      obtain ⟨q0, q1, q2, q3, q4, q5, q6⟩ := cel7 ZS.out
      go_wp2_with fail
      refine (CX.out _ HB.out).mono ?_
      rintro e v9 ⟨rfl, hb⟩
      go_wp2_with fail
      go_ret
      exact ⟨rfl, below_then HB.out hb⟩
    | true =>
      cases fb3 with
      | false =>
        clear hf1 hf2 hf3 w0 w1 w2 hk hlk hya hyt hyz hy HYX
        obtain ⟨sc, sr, sv, f, sb, st⟩ := a2
        unfold sdA stC at *
        simp only at *
        have ZS : Hid ((w.alloc (.cells #[.int .i64 sc, .string sr, .int .i64 sv, .slice A2 f.length c2, .string sb, .int .i64 st, .slice B2 n2 m2] 28)).heap[w.heap.size]? = some (.cells #[.int .i64 sc, .string sr, .int .i64 sv, .slice A2 f.length c2, .string sb, .int .i64 st, .slice B2 n2 m2] 28 (0, 0))) := heap_alloc_new w _
        have HB : Hid (Below w.heap.size w (w.alloc (.cells #[.int .i64 sc, .string sr, .int .i64 sv, .slice A2 f.length c2, .string sb, .int .i64 st, .slice B2 n2 m2] 28))) := (Below.refl _ _).alloc (Nat.le_refl _) _
        obtain ⟨q0, q1, q2, q3, q4, q5, q6⟩ := cel7 ZS.out
        go_enter Tryd.func3, Tryd.ntmps3
        go_wp2_with fail
        refine (K1.out _ HB.out).mono ?_
        rintro e v1 ⟨rfl, hb⟩
        clear q0 q1 q2 q3 q4 q5 q6
        replace ZS := Lib.hid (zero_still hb ZS.out)
        replace HB := Lib.hid (below_then HB.out hb)
        clear hb
        obtain ⟨q0, q1, q2, q3, q4, q5, q6⟩ := cel7 ZS.out
        go_wp2_with fail
        refine (K2.out _ HB.out).mono ?_
        rintro e v2 ⟨rfl, hb0⟩
        have hb := zero_then hb0
        clear hb0
        clear q0 q1 q2 q3 q4 q5 q6
        replace ZS := Lib.hid (zero_still hb ZS.out)
        replace HB := Lib.hid (below_then HB.out hb)
        clear hb
        obtain ⟨q0, q1, q2, q3, q4, q5, q6⟩ := cel7 ZS.out
        go_wp2_with fail
        refine (K3.out _ HB.out).mono ?_
        rintro e v3 ⟨rfl, rfl⟩
        go_wp2_with fail
        refine (CX.out _ HB.out).mono ?_
        rintro e v9 ⟨rfl, hb⟩
        go_wp2_with fail
        go_ret
        exact ⟨rfl, below_then HB.out hb⟩
      | true =>
        obtain ⟨h20, hok⟩ := hf1 rfl
        have hoy := few_ok ((hf2 rfl).2 y (List.mem_cons_self ..)) (by decide)
        obtain ⟨h70, hfd⟩ := hf3 rfl
        have hl0 := w0.len
        have hl1 := w1.len
        have hFw : FwF z1 := ⟨by omega, fun x hx => by have := hfd x hx; omega⟩
        have hP : ∀ z ∈ z0, FwP z.x.p := fun z hz => (few_ok (hok z hz) (by decide)).2
        have hpl : ∀ z ∈ z0, z.x.p.length ≤ 100000000 := fun z hz => by have := (hP z hz).1; omega
        have hpl2 : ∀ z ∈ z0, z.x.p.length ≤ 100000000 ∧ z.x.s.f.length ≤ 100000000 := fun z hz => by have := (few_ok (hok z hz) (by decide)).1.pl; have := (few_ok (hok z hz) (by decide)).1.fl; omega
        have hbig : ∀ z ∈ z0.map (fun q => q.x), z.s.f.length ≤ 100000000 ∧ z.p.length ≤ 100000000 := fun z hz => by
          obtain ⟨q, hq, rfl⟩ := List.mem_map.1 hz
          have := (few_ok (hok q hq) (by decide)).1
          have h1 := this.fl
          have h2 := this.pl
          exact ⟨by omega, by omega⟩
        have hbgy : y.x.s.f.length ≤ 100000000 ∧ y.x.p.length ≤ 100000000 := by
          have h1 := hoy.1.fl
          have h2 := hoy.1.pl
          exact ⟨by omega, by omega⟩
        have F1 := Lib.hid (fun W (hW : Below w.heap.size w W) => vntF_any a0 a1 len0 cap0 len1 cap1 z0 z1 W (w0.below hW) (w1.below hW) (by omega) hP hFw)
        have F2 := Lib.hid (fun W (hW : Below w.heap.size w W) => r_vfind a0 a1 len0 cap0 len1 cap1 z0 z1 W (w0.below hW) (w1.below hW) (by omega) hP hFw)
        have A1 := Lib.hid (fun W (hW : Below w.heap.size w W) => vntA_any a0 len0 cap0 z0 y W (w0.below hW) (hyt.below hW) (by omega) hpl2 ⟨by have := hoy.1.pl; omega, by have := hoy.1.fl; omega⟩ hyz)
        have A2' := Lib.hid (fun W (hW : Below w.heap.size w W) => r_vadd a0 len0 cap0 z0 y W (w0.below hW) (hyt.below hW) (by omega) hpl hyz)
        have P1 := Lib.hid (fun W (hW : Below w.heap.size w W) => vntP_any a0 len0 cap0 z0 a3 y W (w0.below hW) (hyt.below hW) (by omega) hpl2 ⟨by have := hoy.1.pl; omega, by have := hoy.1.fl; omega⟩ hyz)
        have P2 := Lib.hid (fun W (hW : Below w.heap.size w W) => r_vput a0 len0 cap0 z0 a3 y W (w0.below hW) (hyt.below hW) (by omega) hyz)
        have hX1 : (addV (z0.map fun q => q.x) y.x).length ≤ 100000000 ∧ ∀ z ∈ addV (z0.map fun q => q.x) y.x, z.s.f.length ≤ 100000000 ∧ z.p.length ≤ 100000000 := ⟨by unfold addV; rw [List.length_take]; omega, fun z hz => by
          rcases add_mem hz with rfl | hz
          · exact hbgy
          · exact hbig z hz⟩
        have hX2 : (putV (z0.map fun q => q.x) a3 y.x).length ≤ 100000000 ∧ ∀ z ∈ putV (z0.map fun q => q.x) a3 y.x, z.s.f.length ≤ 100000000 ∧ z.p.length ≤ 100000000 := by
          unfold putV
          split
          · refine ⟨by rw [List.length_set, List.length_map]; omega, fun z hz => ?_⟩
            rcases List.mem_or_eq_of_mem_set hz with h | rfl
            · exact hbig z h
            · exact hbgy
          · exact ⟨by rw [List.length_map]; omega, hbig⟩
        generalize addV (z0.map fun q => q.x) y.x = X1 at *
        generalize putV (z0.map fun q => q.x) a3 y.x = X2 at *
        generalize verF (z0.map fun q => q.x) z1 = r at *
        have hrr : (r == r) = true := by simp
        have sm := fun (X : List Sv) (hX : X.length ≤ 100000000 ∧ ∀ z ∈ X, z.s.f.length ≤ 100000000 ∧ z.p.length ≤ 100000000) A B n c m d (L M : List Sd) W (h : SlD W A n c L) (h' : SlD W B m d M) (h1 : L.map (fun z => z.x) = X) (h2 : M.map (fun z => z.x) = X) => r_vsame A B n c m d L M W h h' (h1.trans h2.symm) (by
          have := h.len
          have e1 := congrArg List.length h1
          rw [List.length_map] at e1
          have := hX.1
          omega) (fun z hz => hX.2 z.x (by rw [← h1]; exact List.mem_map.2 ⟨z, hz, rfl⟩))
        have S1 := Lib.hid (sm X1 hX1)
        have S2 := Lib.hid (sm X2 hX2)
        unfold IsSd at A1 A2' P1 P2
        rw [hya] at A1 A2' P1 P2
        clear sm hX1 hX2 hbig hbgy hpl hpl2 hP hFw h20 hok hoy h70 hfd hl0 hl1
        clear hf1 hf2 hf3 w0 w1 w2 hk hlk hya hyt hyz hy HYX
        obtain ⟨sc, sr, sv, f, sb, st⟩ := a2
        unfold sdA stC at *
        simp only at *
        have ZS : Hid ((w.alloc (.cells #[.int .i64 sc, .string sr, .int .i64 sv, .slice A2 f.length c2, .string sb, .int .i64 st, .slice B2 n2 m2] 28)).heap[w.heap.size]? = some (.cells #[.int .i64 sc, .string sr, .int .i64 sv, .slice A2 f.length c2, .string sb, .int .i64 st, .slice B2 n2 m2] 28 (0, 0))) := heap_alloc_new w _
        have HB : Hid (Below w.heap.size w (w.alloc (.cells #[.int .i64 sc, .string sr, .int .i64 sv, .slice A2 f.length c2, .string sb, .int .i64 st, .slice B2 n2 m2] 28))) := (Below.refl _ _).alloc (Nat.le_refl _) _
        obtain ⟨q0, q1, q2, q3, q4, q5, q6⟩ := cel7 ZS.out
        go_enter Tryd.func3, Tryd.ntmps3
        go_wp2_with fail
        refine (K1.out _ HB.out).mono ?_
        rintro e v1 ⟨rfl, hb⟩
        clear q0 q1 q2 q3 q4 q5 q6
        replace ZS := Lib.hid (zero_still hb ZS.out)
        replace HB := Lib.hid (below_then HB.out hb)
        clear hb
        obtain ⟨q0, q1, q2, q3, q4, q5, q6⟩ := cel7 ZS.out
        go_wp2_with fail
        refine (K2.out _ HB.out).mono ?_
        rintro e v2 ⟨rfl, hb0⟩
        have hb := zero_then hb0
        clear hb0
        clear q0 q1 q2 q3 q4 q5 q6
        replace ZS := Lib.hid (zero_still hb ZS.out)
        replace HB := Lib.hid (below_then HB.out hb)
        clear hb
        obtain ⟨q0, q1, q2, q3, q4, q5, q6⟩ := cel7 ZS.out
        go_wp2_with fail
        refine (K3.out _ HB.out).mono ?_
        rintro e v3 ⟨rfl, rfl⟩
        go_wp2_with fail
        replace ZS : Hid (v2.drew.heap[w.heap.size]? = some (.cells #[.int .i64 sc, .string sr, .int .i64 sv, .slice A2 f.length c2, .string sb, .int .i64 st, .slice B2 n2 m2] 28 (0, 0))) := ZS.out
        replace HB := Lib.hid HB.out.drew
        go_region_held3 (fun W => W.cell? ⟨w.heap.size, 0, none⟩ = some (.int .i64 sc) ∧ W.cell? ⟨w.heap.size, 1, none⟩ = some (.string sr) ∧ W.cell? ⟨w.heap.size, 2, none⟩ = some (.int .i64 sv) ∧ W.cell? ⟨w.heap.size, 3, none⟩ = some (.slice A2 f.length c2) ∧ W.cell? ⟨w.heap.size, 4, none⟩ = some (.string sb) ∧ W.cell? ⟨w.heap.size, 5, none⟩ = some (.int .i64 st) ∧ W.cell? ⟨w.heap.size, 6, none⟩ = some (.slice B2 n2 m2)) (exact ⟨(cel7 ZS.out).1, (cel7 ZS.out).2.1, (cel7 ZS.out).2.2.1, (cel7 ZS.out).2.2.2.1, (cel7 ZS.out).2.2.2.2.1, (cel7 ZS.out).2.2.2.2.2.1, (cel7 ZS.out).2.2.2.2.2.2⟩) (first
          | (go_at_call 11; refine (F1.out _ HB.out).mono ?_; rintro e w5 ⟨rfl, hb⟩; replace ZS := Lib.hid (zero_still hb ZS.out); replace HB := Lib.hid (below_then HB.out hb); (try replace SA := Lib.hid (SA.out.below hb)); (try replace SB := Lib.hid (SB.out.below hb)); (try replace SC := Lib.hid (SC.out.below hb)); (try replace SD := Lib.hid (SD.out.below hb)); clear hb)
          | (go_at_call 12; refine (F2.out _ HB.out).mono ?_; rintro e w5 ⟨rfl, hb⟩; replace ZS := Lib.hid (zero_still hb ZS.out); replace HB := Lib.hid (below_then HB.out hb); (try replace SA := Lib.hid (SA.out.below hb)); (try replace SB := Lib.hid (SB.out.below hb)); (try replace SC := Lib.hid (SC.out.below hb)); (try replace SD := Lib.hid (SD.out.below hb)); clear hb)
          | (go_at_call 14; refine (A1.out _ HB.out).mono ?_; rintro e w5 ⟨A5, c5, M5, rfl, hS, hM, hb⟩; replace ZS := Lib.hid (zero_still hb ZS.out); replace HB := Lib.hid (below_then HB.out hb); (try replace SA := Lib.hid (SA.out.below hb)); (try replace SB := Lib.hid (SB.out.below hb)); (try replace SC := Lib.hid (SC.out.below hb)); (try replace SD := Lib.hid (SD.out.below hb)); clear hb; have SA := Lib.hid hS; have MA := Lib.hid hM; obtain ⟨q5, hq5⟩ : ∃ q, q = M5.length := ⟨_, rfl⟩; rw [← hq5] at SA ⊢; clear hq5 hS hM)
          | (go_at_call 15; refine (A2'.out _ HB.out).mono ?_; rintro e w5 ⟨A5, c5, M5, rfl, hS, hM, hb⟩; replace ZS := Lib.hid (zero_still hb ZS.out); replace HB := Lib.hid (below_then HB.out hb); (try replace SA := Lib.hid (SA.out.below hb)); (try replace SB := Lib.hid (SB.out.below hb)); (try replace SC := Lib.hid (SC.out.below hb)); (try replace SD := Lib.hid (SD.out.below hb)); clear hb; have SB := Lib.hid hS; have MB := Lib.hid hM; obtain ⟨q5, hq5⟩ : ∃ q, q = M5.length := ⟨_, rfl⟩; rw [← hq5] at SB ⊢; clear hq5 hS hM)
          | (go_at_call 16; refine (P1.out _ HB.out).mono ?_; rintro e w5 ⟨A5, c5, M5, rfl, hS, hM, hb⟩; replace ZS := Lib.hid (zero_still hb ZS.out); replace HB := Lib.hid (below_then HB.out hb); (try replace SA := Lib.hid (SA.out.below hb)); (try replace SB := Lib.hid (SB.out.below hb)); (try replace SC := Lib.hid (SC.out.below hb)); (try replace SD := Lib.hid (SD.out.below hb)); clear hb; have SC := Lib.hid hS; have MC := Lib.hid hM; obtain ⟨q5, hq5⟩ : ∃ q, q = M5.length := ⟨_, rfl⟩; rw [← hq5] at SC ⊢; clear hq5 hS hM)
          | (go_at_call 17; refine (P2.out _ HB.out).mono ?_; rintro e w5 ⟨A5, c5, M5, rfl, hS, hM, hb⟩; replace ZS := Lib.hid (zero_still hb ZS.out); replace HB := Lib.hid (below_then HB.out hb); (try replace SA := Lib.hid (SA.out.below hb)); (try replace SB := Lib.hid (SB.out.below hb)); (try replace SC := Lib.hid (SC.out.below hb)); (try replace SD := Lib.hid (SD.out.below hb)); clear hb; have SD := Lib.hid hS; have MD := Lib.hid hM; obtain ⟨q5, hq5⟩ : ∃ q, q = M5.length := ⟨_, rfl⟩; rw [← hq5] at SD ⊢; clear hq5 hS hM)
          | (go_at_call 13; refine (S2.out _ _ _ _ _ _ _ _ _ SC.out SD.out MC.out MD.out).mono ?_; rintro e w5 ⟨rfl, hb⟩; replace ZS := Lib.hid (zero_still hb ZS.out); replace HB := Lib.hid (below_then HB.out hb); (try replace SA := Lib.hid (SA.out.below hb)); (try replace SB := Lib.hid (SB.out.below hb)); (try replace SC := Lib.hid (SC.out.below hb)); (try replace SD := Lib.hid (SD.out.below hb)); clear hb)
          | (go_at_call 13; refine (S1.out _ _ _ _ _ _ _ _ _ SA.out SB.out MA.out MB.out).mono ?_; rintro e w5 ⟨rfl, hb⟩; replace ZS := Lib.hid (zero_still hb ZS.out); replace HB := Lib.hid (below_then HB.out hb); (try replace SA := Lib.hid (SA.out.below hb)); (try replace SB := Lib.hid (SB.out.below hb)); (try replace SC := Lib.hid (SC.out.below hb)); (try replace SD := Lib.hid (SD.out.below hb)); clear hb)
          | (go_at_call 10; refine (CX.out _ HB.out).mono ?_; rintro e w5 ⟨rfl, hb⟩; replace ZS := Lib.hid (zero_still hb ZS.out); replace HB := Lib.hid (below_then HB.out hb); (try replace SA := Lib.hid (SA.out.below hb)); (try replace SB := Lib.hid (SB.out.below hb)); (try replace SC := Lib.hid (SC.out.below hb)); (try replace SD := Lib.hid (SD.out.below hb)); clear hb))
        go_wp2_with fail
        go_ret
        exact ⟨rfl, HB.out⟩

theorem door_met (os : Os) (args : Array Value) : laidMetH Tryd.prog Rows.variantListsRow.laid ((World.laidAll Tryd.prog os Rows.variantListsRow.laid).forCall (fun _ _ => 0) ⟨#[], args, []⟩).memory := by
  rw [MakeChecks.laidMetH_plain _ _ _ (by kernel_rfl)]
  exact laidMet_laidAll _ (by kernel_rfl) (by kernel_rfl)

set_option maxRecDepth 100000 in
theorem lifted (os : Os) (started : os.Started) (H : Type) (enc : TypeId × Value → H) :
    ReturnsInHanded {} Tryd.checked os 3 .any (fun w args => (Rows.variantListsSpec.pre enc Tryd.prog Tryd.f3 [] false w args ∧ laidMetH Tryd.prog Rows.variantListsRow.laid w) ∧ sizedMet enc Tryd.prog Tryd.f3 (OpenSpec.ofChange Rows.variantListsSpec) false w args) (Rows.variantListsSpec.post enc Tryd.prog Tryd.f3 false true false false) := by
  refine returnsInHanded_of_change_and (C := Tryd.checked) (X := fun w _ => laidMetH Tryd.prog Rows.variantListsRow.laid w) (fun _ _ _ hh h => h.of_heap hh) own started (by kernel_rfl) Tryd.func3
    (ChangeSpec.witness_shaped (enc := enc) (C := Tryd.checked) (os := os) (X := fun w _ => laidMetH Tryd.prog Rows.variantListsRow.laid w) false (World.laidAll Tryd.prog os Rows.variantListsRow.laid) #[.slice none 0 0, .slice none 0 0, .agg #[.int .i64 0, .string ByteArray.empty, .int .i64 0, .slice none 0 0, .string ByteArray.empty, .int .i64 0, .slice none 0 0], .int .i64 0] 8 rfl (World.shaped_of_ZipB (by kernel_rfl) (by kernel_rfl)) (by kernel_rfl) (by kernel_rfl) (by kernel_rfl) (door_met os _)) ?_
  intro W base args ds gs before hval0 hW _ _ hL _
  have hval : ∀ (j : Nat) t v, Tryd.f3.params[j]? = some t → args[j]? = some v → Value.okWide Tryd.prog W .any base t v := hval0
  have hW' := hW
  obtain ⟨p, q, hA0, hV, rfl, hfz, hnd⟩ := hW
  have hA : DataW.TrodAll enc Tryd.prog W 0 (fun _ => true) true Tryd.f3.params.toList args.toList ds p := hA0
  rw [Tryd.params3] at hA hval
  obtain ⟨v0, vs0, d0, ds0, p0, q0, hargs, rfl, rfl, h0, r0⟩ := trodAll_cons hA
  obtain ⟨v1, vs1, d1, ds1, p1, q1, rfl, rfl, rfl, h1, r1⟩ := trodAll_cons r0
  obtain ⟨v2, vs2, d2, ds2, p2, q2, rfl, rfl, rfl, h2, r2⟩ := trodAll_cons r1
  obtain ⟨v3, vs3, d3, ds3, p3, q3, rfl, rfl, rfl, h3, r3⟩ := trodAll_cons r2
  obtain ⟨rfl, rfl, rfl⟩ := trodAll_nil r3
  obtain rfl : args = #[v0, v1, v2, v3] := by cases args; simp_all
  obtain ⟨rfl, rfl⟩ := trodVars_none hV
  obtain ⟨a0, len0, cap0, rfl⟩ := okWide_slice Tryd.underlying22 (hval 0 22 v0 rfl rfl)
  have k0 := h0
  have lt0 : ∀ x ∈ p0, x.block < W.heap.size := by obtain ⟨m, hm⟩ := k0; exact DataW.trod_lt m _ _ _ hm
  obtain ⟨z0, w0⟩ := SlD.of_trod Tryd.underlying22 Tryd.underlying28 (by kernel_rfl) rfl rfl rfl (by kernel_rfl) (by kernel_rfl) (by kernel_rfl) Tryd.underlying25 Tryd.underlying3 Tryd.underlying26 rfl rfl rfl rfl rfl (by kernel_rfl) (by kernel_rfl) (by kernel_rfl) (by kernel_rfl) (by kernel_rfl) Tryd.underlying3 Tryd.underlying9 Tryd.underlying3 Tryd.underlying23 Tryd.underlying9 Tryd.underlying62 (by kernel_rfl) rfl rfl (by kernel_rfl) (by kernel_rfl) Tryd.underlying9 Tryd.underlying9 Tryd.underlying53 (by kernel_rfl) rfl rfl rfl (by kernel_rfl) (by kernel_rfl) (by kernel_rfl) Tryd.underlying9 Tryd.underlying4 Tryd.underlying9 h0
  obtain ⟨a1, len1, cap1, rfl⟩ := okWide_slice Tryd.underlying23 (hval 1 23 v1 rfl rfl)
  have k1 := h1
  have lt1 : ∀ x ∈ p1, x.block < W.heap.size := by obtain ⟨m, hm⟩ := k1; exact DataW.trod_lt m _ _ _ hm
  obtain ⟨z1, w1⟩ := SlF.of_trod Tryd.underlying23 Tryd.underlying62 (by kernel_rfl) rfl rfl (by kernel_rfl) (by kernel_rfl) Tryd.underlying9 Tryd.underlying9 h1
  have k2 := h2
  have lt2 : ∀ x ∈ p2, x.block < W.heap.size := by obtain ⟨m, hm⟩ := k2; exact DataW.trod_lt m _ _ _ hm
  obtain ⟨a2, A2, c2, B2, n2, m2, K2, rfl, w2⟩ := WfK.of_trod Tryd.underlying28 (by kernel_rfl) rfl rfl rfl (by kernel_rfl) (by kernel_rfl) (by kernel_rfl) Tryd.underlying25 Tryd.underlying3 Tryd.underlying26 rfl rfl rfl rfl rfl (by kernel_rfl) (by kernel_rfl) (by kernel_rfl) (by kernel_rfl) (by kernel_rfl) Tryd.underlying3 Tryd.underlying9 Tryd.underlying3 Tryd.underlying23 Tryd.underlying9 Tryd.underlying62 (by kernel_rfl) rfl rfl (by kernel_rfl) (by kernel_rfl) Tryd.underlying9 Tryd.underlying9 Tryd.underlying53 (by kernel_rfl) rfl rfl rfl (by kernel_rfl) (by kernel_rfl) (by kernel_rfl) Tryd.underlying9 Tryd.underlying4 Tryd.underlying9 (hval 2 28 v2 rfl rfl) h2
  obtain ⟨a3, rfl, rfl, rfl, w3⟩ := open_int Tryd.underlying3 (hval 3 3 v3 rfl rfl) h3
  clear hA0 hval0
  refine (walk a0 len0 cap0 z0 a1 len1 cap1 z1 a2 A2 c2 B2 n2 m2 K2 a3 W w0 w1 w2 w3 hL).mono fun e W' ⟨he, bel⟩ => ?_
  subst he
  exact ⟨_, rfl, _, _, _, [], _, [], hW', trodAll_mk1 (shut_bool Tryd.underlying4 _), (trodAll_cons_mk (Below.trod laidOut (by kernel_rfl) (of_decide_eq_true (by kernel_rfl)) k0 bel lt0) (trodAll_cons_mk (Below.trod laidOut (by kernel_rfl) (of_decide_eq_true (by kernel_rfl)) k1 bel lt1) (trodAll_cons_mk (Below.trod laidOut (by kernel_rfl) (of_decide_eq_true (by kernel_rfl)) k2 bel lt2) (trodAll_cons_mk (shut_int Tryd.underlying3 w3) trodAll_mk0)))), rfl, bel.frame _, fun h => by cases h⟩

theorem over : Rows.variantListsRow.holds Tryd.pinned (OpenSpec.ofChange Rows.variantListsSpec) :=
  OpenClaim.holds_of_wide 3 Tryd.f3 rfl rfl rfl rfl rfl rfl rfl ⟨rfl, rfl, rfl, rfl, rfl⟩ rfl rfl rfl rfl rfl (by kernel_rfl) Tryd.func3 (by kernel_rfl)
    (of_decide_eq_true (by kernel_rfl)) (by unfold Func.isWrapper; first | (rw [if_pos (by decide +kernel)]; kernel_rfl) | (rw [if_neg (by decide +kernel)]; exact ⟨rfl, rfl⟩))
    (fun os started H enc _ => lifted os started H enc)

theorem said : Rows.VariantListsSaid :=
  over

theorem plain (f : FuncId) (fn : Func) (hf : Tryd.pinned.checked.prog.funcNamed "depot/depotlaw20.VariantLists" = some f) (hfn : Tryd.pinned.checked.prog.funcs[f]? = some fn) :
    false = Tryd.pinned.checked.prog.looks [] ∧ ∀ (j : Nat) t, fn.params[j]? = some t → Tryd.pinned.checked.prog.wantsStandIn t = false := by
  obtain rfl : f = 3 := Option.some.inj ((show Tryd.prog.funcNamed "depot/depotlaw20.VariantLists" = some 3 by kernel_rfl).symm.trans hf) |>.symm
  obtain rfl : fn = Tryd.f3 := (Option.some.inj (Tryd.func3.symm.trans hfn)).symm
  refine ⟨by kernel_rfl, fun j t ht => ?_⟩
  rw [Tryd.params3] at ht
  · have hm := Array.mem_of_getElem? ht
    simp only [List.mem_toArray, List.mem_cons, List.not_mem_nil, or_false] at hm
    have all : Tryd.pinned.checked.prog.wantsStandIn 3 = false ∧ Tryd.pinned.checked.prog.wantsStandIn 22 = false ∧ Tryd.pinned.checked.prog.wantsStandIn 23 = false ∧ Tryd.pinned.checked.prog.wantsStandIn 28 = false := ⟨by kernel_rfl, by kernel_rfl, by kernel_rfl, by kernel_rfl⟩
    rcases hm with rfl | rfl | rfl | rfl
    all_goals first | with_reducible exact all.1 | with_reducible exact all.2.1 | with_reducible exact all.2.2.1 | with_reducible exact all.2.2.2

theorem proved : Rows.VariantListsCardSaid :=
  Claim7.holds_tied_plain_at .later [] _ _ _ _ said (fun _ h => by cases h) (by kernel_rfl) (fun _ h => by cases h) variantLists_row_tie rfl ⟨rfl, rfl⟩ (by kernel_rfl) rfl plain (by kernel_rfl)
#print axioms proved
end Go.Proofs.YthhlcecojeaalaaDoor.variantLists
