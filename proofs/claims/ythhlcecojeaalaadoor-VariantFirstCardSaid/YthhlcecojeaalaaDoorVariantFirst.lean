/-
  The law VariantFirst (depotlaw20) returns true for every list of stored replies, every stored reply and every two lists of fields, and leaves what it was given as it was. No condition.
-/
import Derived.Test.YthhlcecojeaalaaDoorRows
import Derived.WalkKit
import Derived.ProofKit
import Derived.OpenShut
import Derived.ShutString
import Derived.ChangeOld
import Derived.Below
import Derived.Test.YthhlcecojeaalaaDoorMrgA
import Derived.Test.YthhlcecojeaalaaDoorMrgC
import Derived.Test.YthhlcecojeaalaaDoorMrgD
import Derived.Test.YthhlcecojeaalaaDoorMrgE
import Derived.Test.YthhlcecojeaalaaDoorMrgF
import Derived.Test.YthhlcecojeaalaaDoorMrgJ
import Derived.Test.YthhlcecojeaalaaDoorMrgK
import Derived.Test.YthhlcecojeaalaaDoorMrgL
import Derived.Test.YthhlcecojeaalaaDoorMrgU
import Derived.Test.YthhlcecojeaalaaDoorMrgW
import Derived.Test.YthhlcecojeaalaaDoorMrgZ
import Derived.Test.YthhlcecojeaalaaDoorMrgAA
import Derived.Test.YthhlcecojeaalaaDoorMrgAB
import Derived.Test.YthhlcecojeaalaaDoorMrgAC
import Derived.Test.YthhlcecojeaalaaDoorMrgAD
import Derived.Test.YthhlcecojeaalaaDoorMrgAF
import Derived.Test.YthhlcecojeaalaaDoorMrgAG
import Derived.Test.YthhlcecojeaalaaDoorMrgAH
import Derived.Test.YthhlcecojeaalaaDoorMrgAI
import Derived.Test.YthhlcecojeaalaaDoorMrgAK
import Derived.Test.YthhlcecojeaalaaDoorMrgAL
import Derived.Test.YthhlcecojeaalaaDoorMrgAN
import Derived.Test.YthhlcecojeaalaaDoorMrgAO
import Derived.Test.YthhlcecojeaalaaDoorMrgAQ
import Derived.Test.YthhlcecojeaalaaDoorMrgAR
import Derived.Test.YthhlcecojeaalaaDoorMrgAS
import Derived.Test.YthhlcecojeaalaaDoorMrgAT
import Derived.Deep.RegionHeld3
import Derived.Test.YthhlcecojeaalaaDoorCards
import Derived.Test.YthhlcecojeaalaaDoorTie
import Derived.LaidMore
import Derived.Lib.LaidTab
import Derived.Stop.Joined
import Derived.Lay
set_option linter.unusedSimpArgs false
set_option linter.unusedVariables false
namespace Go.Proofs.YthhlcecojeaalaaDoor.variantFirst
open Go.ChangeShapes Go.WideShapes Go.ChangeAt Go.RowKit
open Go.ChangeMaps (open_string shut_string)
set_option linter.unusedVariables false

theorem own : ownKnob Tryd.prog.godebug = none := by kernel_rfl
theorem laidOut : laidOutB Tryd.prog = true := by kernel_rfl

set_option maxHeartbeats 8000000 in
set_option maxRecDepth 100000 in
theorem walk (a0 : Option Addr) (len0 cap0 : Nat) (z0 : List Sd) (a1 : Stor) (A1 : Option Addr) (c1 : Nat) (B1 : Option Addr) (n1 m1 : Nat) (K1 : List Pk) (a2 : Option Addr) (len2 cap2 : Nat) (z2 : List Fd) (a3 : Option Addr) (len3 cap3 : Nat) (z3 : List Fd) (w : World) (w0 : SlD w a0 len0 cap0 z0 ∧ ∀ y ∈ z0, (Lit.int .i64 y.x.s.c).wf = true ∧ (Lit.int .i64 y.x.s.v).wf = true ∧ (Lit.int .i64 y.x.s.t).wf = true) (w1 : WfS w a1 A1 c1 ∧ SlK w B1 n1 m1 K1) (w2 : SlF w a2 len2 cap2 z2) (w3 : SlF w a3 len3 cap3 z3) (hL : laidMetH Tryd.prog Rows.variantFirstRow.laid w) :
    Calls Tryd.prog 7 #[.slice a0 len0 cap0, .agg (stC a1 A1 c1 B1 n1 m1), .slice a2 len2 cap2, .slice a3 len3 cap3] w fun e w' => e = .returned (.bool true) ∧ Below w.heap.size w w' := by
  have HT := Lib.hid (vntTabs hL)
  clear hL
  have hk := w1.2
  replace w1 := w1.1
  replace w0 := w0.1
  have CX := Lib.hid (fun W (hW : Below w.heap.size w W) => ex20_any W (HT.out.kept hW))
  have hlk := hk.len
  obtain ⟨y, hy⟩ : ∃ y : Sd, y = ⟨⟨a1, K1⟩, A1, c1, B1, m1⟩ := ⟨_, rfl⟩
  have hya : sdA y = stC a1 A1 c1 B1 n1 m1 := by rw [hy, ← hlk]; rfl
  have hyt : SdAt w y := by rw [hy]; exact ⟨w1.f, by show SlK w B1 K1.length m1 K1; rw [hlk]; exact hk⟩
  have hyz : y.x.s.r.size ≤ maxLen ∧ y.x.s.b.size ≤ maxLen := by rw [hy]; exact ⟨w1.r, w1.b⟩
  have hyx : y.x = ⟨a1, K1⟩ := by rw [hy]
  have HKK := Lib.hid hk
  have HNL := Lib.hid hlk
  have Q1 := Lib.hid (fun W (hW : Below w.heap.size w W) => r_fewV 4 300 4 300 rfl rfl (by decide) a0 len0 cap0 z0 W (w0.below hW))
  have k2 := fun W (hW : Below w.heap.size w W) => r_fewV 1 300 1 300 rfl rfl (by decide) (some ⟨W.heap.size, 0, none⟩) 1 1 [y] (W.alloc (.cells (sdA y) 28)) (SlD.single W 28 y (hyt.below hW) hyz)
  have Q3 := Lib.hid (fun W (hW : Below w.heap.size w W) => rf_few a2 len2 cap2 70 300 z2 W (w2.below hW) (by decide))
  have Q4 := Lib.hid (fun W (hW : Below w.heap.size w W) => rf_few a3 len3 cap3 70 300 z3 W (w3.below hW) (by decide))
  have hf1 := fun h => fewV_yes (m := 4) (bd := 300) (L := z0) h
  have hf2 := fun h => fewV_yes (m := 1) (bd := 300) (L := [y]) h
  have hf3 := fun h => few_yes (L := z2) (m := 70) (b := 300) h
  have hf4 := fun h => few_yes (L := z3) (m := 70) (b := 300) h
  generalize fewV 4 300 z0 = fb1 at *
  generalize fewV 1 300 [y] = fb2 at *
  have K3 := Lib.hid (show ∀ W (hW : Below w.heap.size w W), Calls Tryd.prog 9 #[.slice a2 len2 cap2, .int .i64 70, .int .i64 300] W (fun e w' => e = .returned (.bool (fewB z2 70 300)) ∧ W = w') from Q3.out)
  have K4 := Lib.hid (show ∀ W (hW : Below w.heap.size w W), Calls Tryd.prog 9 #[.slice a3 len3 cap3, .int .i64 70, .int .i64 300] W (fun e w' => e = .returned (.bool (fewB z3 70 300)) ∧ W = w') from Q4.out)
  generalize fewB z2 70 300 = fb3 at *
  generalize fewB z3 70 300 = fb4 at *
  rw [hya] at k2
  obtain ⟨KP, hKP⟩ : ∃ K : List Pk, K = K1 := ⟨_, rfl⟩
  rw [← hKP] at hyx HKK HNL hk hlk hy
  clear hKP
  have K1 := Q1
  have K2 := Lib.hid k2
  clear k2 Q1 Q3 Q4
  cases fb1 with
  | false =>
    clear hf1 hf2 hf3 hf4 w0 w1 w2 w3 hk hlk hya hyt hyz hy hyx HKK HNL
    obtain ⟨sc, sr, sv, f, sb, st⟩ := a1
    unfold sdA stC at *
    simp only at *
    have ZS : Hid ((w.alloc (.cells #[.int .i64 sc, .string sr, .int .i64 sv, .slice A1 f.length c1, .string sb, .int .i64 st, .slice B1 n1 m1] 28)).heap[w.heap.size]? = some (.cells #[.int .i64 sc, .string sr, .int .i64 sv, .slice A1 f.length c1, .string sb, .int .i64 st, .slice B1 n1 m1] 28 (0, 0))) := heap_alloc_new w _
    have HB : Hid (Below w.heap.size w (w.alloc (.cells #[.int .i64 sc, .string sr, .int .i64 sv, .slice A1 f.length c1, .string sb, .int .i64 st, .slice B1 n1 m1] 28))) := (Below.refl _ _).alloc (Nat.le_refl _) _
    obtain ⟨q0, q1, q2, q3, q4, q5, q6⟩ := cel7 ZS.out
    go_enter Tryd.func7, Tryd.ntmps7
    go_wp2_with fail
    refine (K1.out _ HB.out).mono ?_
    rintro e v1 ⟨rfl, hb⟩
    clear q0 q1 q2 q3 q4 q5 q6
    replace ZS := Lib.hid (zero_still hb ZS.out)
    replace HB := Lib.hid (below_then HB.out hb)
    clear hb
    obtain ⟨q0, q1, q2, q3, q4, q5, q6⟩ := cel7 ZS.out
    go_wp2_with fail
    refine (CX.out _ HB.out).mono ?_
    rintro e v9 ⟨rfl, hb⟩
    go_wp2_with fail
    go_ret
    exact ⟨rfl, below_then HB.out hb⟩
  | true =>
    cases fb2 with
    | false =>
      clear hf1 hf2 hf3 hf4 w0 w1 w2 w3 hk hlk hya hyt hyz hy hyx HKK HNL
      obtain ⟨sc, sr, sv, f, sb, st⟩ := a1
      unfold sdA stC at *
      simp only at *
      have ZS : Hid ((w.alloc (.cells #[.int .i64 sc, .string sr, .int .i64 sv, .slice A1 f.length c1, .string sb, .int .i64 st, .slice B1 n1 m1] 28)).heap[w.heap.size]? = some (.cells #[.int .i64 sc, .string sr, .int .i64 sv, .slice A1 f.length c1, .string sb, .int .i64 st, .slice B1 n1 m1] 28 (0, 0))) := heap_alloc_new w _
      have HB : Hid (Below w.heap.size w (w.alloc (.cells #[.int .i64 sc, .string sr, .int .i64 sv, .slice A1 f.length c1, .string sb, .int .i64 st, .slice B1 n1 m1] 28))) := (Below.refl _ _).alloc (Nat.le_refl _) _
      obtain ⟨q0, q1, q2, q3, q4, q5, q6⟩ := cel7 ZS.out
      go_enter Tryd.func7, Tryd.ntmps7
      go_wp2_with fail
      refine (K1.out _ HB.out).mono ?_
      rintro e v1 ⟨rfl, hb⟩
      clear q0 q1 q2 q3 q4 q5 q6
      replace ZS := Lib.hid (zero_still hb ZS.out)
      replace HB := Lib.hid (below_then HB.out hb)
      clear hb
      obtain ⟨q0, q1, q2, q3, q4, q5, q6⟩ := cel7 ZS.out
      go_wp2_with fail
      refine (K2.out _ HB.out).mono ?_
      rintro e v2 ⟨rfl, hb0⟩
      have hb := zero_then hb0
      clear hb0
      clear q0 q1 q2 q3 q4 q5 q6
      replace ZS := Lib.hid (zero_still hb ZS.out)
      replace HB := Lib.hid (below_then HB.out hb)
      clear hb
      obtain ⟨q0, q1, q2, q3, q4, q5, q6⟩ := cel7 ZS.out
      go_wp2_with fail
      refine (CX.out _ HB.out).mono ?_
      rintro e v9 ⟨rfl, hb⟩
      go_wp2_with fail
      go_ret
      exact ⟨rfl, below_then HB.out hb⟩
    | true =>
      cases fb3 with
      | false =>
        clear hf1 hf2 hf3 hf4 w0 w1 w2 w3 hk hlk hya hyt hyz hy hyx HKK HNL
        obtain ⟨sc, sr, sv, f, sb, st⟩ := a1
        unfold sdA stC at *
        simp only at *
        have ZS : Hid ((w.alloc (.cells #[.int .i64 sc, .string sr, .int .i64 sv, .slice A1 f.length c1, .string sb, .int .i64 st, .slice B1 n1 m1] 28)).heap[w.heap.size]? = some (.cells #[.int .i64 sc, .string sr, .int .i64 sv, .slice A1 f.length c1, .string sb, .int .i64 st, .slice B1 n1 m1] 28 (0, 0))) := heap_alloc_new w _
        have HB : Hid (Below w.heap.size w (w.alloc (.cells #[.int .i64 sc, .string sr, .int .i64 sv, .slice A1 f.length c1, .string sb, .int .i64 st, .slice B1 n1 m1] 28))) := (Below.refl _ _).alloc (Nat.le_refl _) _
        obtain ⟨q0, q1, q2, q3, q4, q5, q6⟩ := cel7 ZS.out
        go_enter Tryd.func7, Tryd.ntmps7
        go_wp2_with fail
        refine (K1.out _ HB.out).mono ?_
        rintro e v1 ⟨rfl, hb⟩
        clear q0 q1 q2 q3 q4 q5 q6
        replace ZS := Lib.hid (zero_still hb ZS.out)
        replace HB := Lib.hid (below_then HB.out hb)
        clear hb
        obtain ⟨q0, q1, q2, q3, q4, q5, q6⟩ := cel7 ZS.out
        go_wp2_with fail
        refine (K2.out _ HB.out).mono ?_
        rintro e v2 ⟨rfl, hb0⟩
        have hb := zero_then hb0
        clear hb0
        clear q0 q1 q2 q3 q4 q5 q6
        replace ZS := Lib.hid (zero_still hb ZS.out)
        replace HB := Lib.hid (below_then HB.out hb)
        clear hb
        obtain ⟨q0, q1, q2, q3, q4, q5, q6⟩ := cel7 ZS.out
        go_wp2_with fail
        refine (K3.out _ HB.out).mono ?_
        rintro e v3 ⟨rfl, rfl⟩
        go_wp2_with fail
        refine (CX.out _ HB.out).mono ?_
        rintro e v9 ⟨rfl, hb⟩
        go_wp2_with fail
        go_ret
        exact ⟨rfl, below_then HB.out hb⟩
      | true =>
        cases fb4 with
        | false =>
          clear hf1 hf2 hf3 hf4 w0 w1 w2 w3 hk hlk hya hyt hyz hy hyx HKK HNL
          obtain ⟨sc, sr, sv, f, sb, st⟩ := a1
          unfold sdA stC at *
          simp only at *
          have ZS : Hid ((w.alloc (.cells #[.int .i64 sc, .string sr, .int .i64 sv, .slice A1 f.length c1, .string sb, .int .i64 st, .slice B1 n1 m1] 28)).heap[w.heap.size]? = some (.cells #[.int .i64 sc, .string sr, .int .i64 sv, .slice A1 f.length c1, .string sb, .int .i64 st, .slice B1 n1 m1] 28 (0, 0))) := heap_alloc_new w _
          have HB : Hid (Below w.heap.size w (w.alloc (.cells #[.int .i64 sc, .string sr, .int .i64 sv, .slice A1 f.length c1, .string sb, .int .i64 st, .slice B1 n1 m1] 28))) := (Below.refl _ _).alloc (Nat.le_refl _) _
          obtain ⟨q0, q1, q2, q3, q4, q5, q6⟩ := cel7 ZS.out
          go_enter Tryd.func7, Tryd.ntmps7
          go_wp2_with fail
          refine (K1.out _ HB.out).mono ?_
          rintro e v1 ⟨rfl, hb⟩
          clear q0 q1 q2 q3 q4 q5 q6
          replace ZS := Lib.hid (zero_still hb ZS.out)
          replace HB := Lib.hid (below_then HB.out hb)
          clear hb
          obtain ⟨q0, q1, q2, q3, q4, q5, q6⟩ := cel7 ZS.out
          go_wp2_with fail
          refine (K2.out _ HB.out).mono ?_
          rintro e v2 ⟨rfl, hb0⟩
          have hb := zero_then hb0
          clear hb0
          clear q0 q1 q2 q3 q4 q5 q6
          replace ZS := Lib.hid (zero_still hb ZS.out)
          replace HB := Lib.hid (below_then HB.out hb)
          clear hb
          obtain ⟨q0, q1, q2, q3, q4, q5, q6⟩ := cel7 ZS.out
          go_wp2_with fail
          refine (K3.out _ HB.out).mono ?_
          rintro e v3 ⟨rfl, rfl⟩
          go_wp2_with fail
          refine (K4.out _ HB.out).mono ?_
          rintro e v4 ⟨rfl, rfl⟩
          go_wp2_with fail
          refine (CX.out _ HB.out).mono ?_
          rintro e v9 ⟨rfl, hb⟩
          go_wp2_with fail
          go_ret
          exact ⟨rfl, below_then HB.out hb⟩
        | true =>
          obtain ⟨h4, hok⟩ := hf1 rfl
          have hoy := few_ok ((hf2 rfl).2 y (List.mem_cons_self ..)) (by decide)
          rw [hyx] at hoy
          obtain ⟨h70, hfd⟩ := hf3 rfl
          obtain ⟨h71, hfe⟩ := hf4 rfl
          have hl0 := w0.len
          have hl2 := w2.len
          have hl3 := w3.len
          subst hl0 hl2 hl3
          have hFm : FwF z2 := ⟨by omega, fun x hx => by have := hfd x hx; omega⟩
          have hFo : FwF z3 := ⟨by omega, fun x hx => by have := hfe x hx; omega⟩
          have hNP : FwN (nmP KP) := fw_np hoy.2
          have hN70 : (nmP KP).length ≤ 70 := by unfold nmP; rw [List.length_map]; exact hoy.1.pl
          have hP : ∀ z ∈ z0, FwP z.x.p := fun z hz => (few_ok (hok z hz) (by decide)).2
          have hpl : ∀ z ∈ z0, z.x.p.length ≤ 100000000 := fun z hz => by have := (hP z hz).1; omega
          have hpl2 : ∀ z ∈ z0, z.x.p.length ≤ 100000000 ∧ z.x.s.f.length ≤ 100000000 := fun z hz => by have := (few_ok (hok z hz) (by decide)).1.pl; have := (few_ok (hok z hz) (by decide)).1.fl; omega
          obtain ⟨N, hN⟩ : ∃ N, N = nmP KP := ⟨_, rfl⟩
          rw [← hN] at hNP hN70
          obtain ⟨P, hPP⟩ : ∃ P, P = pksL N z2 := ⟨_, rfl⟩
          have hFP : FwP P := by rw [hPP]; exact pks_fw hNP z2
          have hPl : P.length ≤ 70 := by rw [hPP]; unfold pksL; rw [List.length_map]; exact hN70
          have hown : pkM P z2 = true := by rw [hPP]; exact own_match N z2
          have hbig : ∀ z ∈ z0, z.x.s.f.length ≤ 100000000 ∧ z.x.p.length ≤ 100000000 := fun z hz => by
            have h1 := (few_ok (hok z hz) (by decide)).1.fl
            have h2 := (few_ok (hok z hz) (by decide)).1.pl
            exact ⟨by omega, by omega⟩
          have hsl : a1.f.length ≤ 100000000 := by have := hoy.1.fl; simp only at this; omega
          have PK := Lib.hid (fun A c W (hW : Below w.heap.size w W) (h : SlS W A N.length c N) => varK_any A a2 c cap2 N z2 W h (w2.below hW) hNP hFm)
          rw [← hPP] at PK
          have AD := Lib.hid (fun Ap cp W (hW : Below w.heap.size w W) (h : SlK W Ap P.length cp P) => vntA_any a0 z0.length cap0 z0 ⟨⟨a1, P⟩, A1, c1, Ap, cp⟩ W (w0.below hW) ⟨w1.f.below hW, h⟩ (by omega) hpl2 ⟨by show P.length ≤ _; omega, hsl⟩ ⟨w1.r, w1.b⟩)
          have FO := Lib.hid (fun W (hW : Below w.heap.size w W) => vntF_any a0 a3 z0.length cap0 z3.length cap3 z0 z3 W (w0.below hW) (w3.below hW) (by omega) hP hFo)
          have hpm : ∀ M : List Sd, M.map (fun z => z.x) = addV (z0.map fun z => z.x) ⟨a1, P⟩ → (∀ z ∈ M, FwP z.x.p ∧ z.x.p.length ≤ 100000000) := fun M hM z hz => by
            have hz' : z.x ∈ addV (z0.map fun z => z.x) ⟨a1, P⟩ := by rw [← hM]; exact List.mem_map.2 ⟨z, hz, rfl⟩
            rcases add_mem hz' with h | h
            · rw [h]; exact ⟨hFP, by show P.length ≤ _; omega⟩
            · obtain ⟨q, hq, h⟩ := List.mem_map.1 h
              rw [← h]; exact ⟨hP q hq, hpl q hq⟩
          have FM := Lib.hid (fun A c (M : List Sd) W (hW : Below w.heap.size w W) (h : SlD W A M.length c M) (hM : M.map (fun z => z.x) = addV (z0.map fun z => z.x) ⟨a1, P⟩) => vntF_any A a2 M.length c z2.length cap2 M z2 W h (w2.below hW) (by have := h.le; have h1 := congrArg List.length hM; rw [List.length_map] at h1; have := (add_len (z0.map fun z => z.x) ⟨a1, P⟩).2; omega) (fun z hz => (hpm M hM z hz).1) hFm)
          have FN := Lib.hid (fun A c (M : List Sd) W (hW : Below w.heap.size w W) (h : SlD W A M.length c M) (hM : M.map (fun z => z.x) = addV (z0.map fun z => z.x) ⟨a1, P⟩) => vntF_any A a3 M.length c z3.length cap3 M z3 W h (w3.below hW) (by have := h.le; have h1 := congrArg List.length hM; rw [List.length_map] at h1; have := (add_len (z0.map fun z => z.x) ⟨a1, P⟩).2; omega) (fun z hz => (hpm M hM z hz).1) hFo)
          have MT := Lib.hid (fun Ap cp W (hW : Below w.heap.size w W) (h : SlK W Ap P.length cp P) => varM_any Ap a3 cp cap3 P z3 W h (w3.below hW) hFP hFo)
          have OM := Lib.hid (fun (hm : pkM P z3 = true) => add_first (z0.map fun z => z.x) ⟨a1, P⟩ hm)
          have OO := Lib.hid (fun (hm : pkM P z3 = false) => add_other (z0.map fun z => z.x) ⟨a1, P⟩ z3 hm)
          have HAP := Lib.hid (add_apart (z0.map fun z => z.x) ⟨a1, P⟩)
          have hof := add_first (z0.map fun z => z.x) ⟨a1, P⟩ hown
          have HOF := Lib.hid hof
          have HAL := Lib.hid (add_len (z0.map fun z => z.x) ⟨a1, P⟩)
          have HAC := Lib.hid (addV_cons (z0.map fun z => z.x) ⟨a1, P⟩)
          have HS0 := Lib.hid (fun W (hW : Below w.heap.size w W) => w0.below hW)
          have HBG := Lib.hid hbig
          have HZP := Lib.hid (show ∀ x ∈ z0.map (fun z => z.x), x.p.length ≤ 100000000 from fun x hx => by obtain ⟨q, hq, rfl⟩ := List.mem_map.1 hx; exact (hbig q hq).2)
          have HPL := Lib.hid hPl
          have HS1 := Lib.hid hsl
          have HNZ := Lib.hid hNP
          have HSF := Lib.hid (fun W (hW : Below w.heap.size w W) => w1.f.below hW)
          generalize hZE : z0.map (fun z => z.x) = Z at *
          have HZE := Lib.hid hZE
          clear hZE
          obtain ⟨nl, hnl⟩ : ∃ q, q = N.length := ⟨_, rfl⟩
          have HN := Lib.hid hN
          have hn1 : n1 ≤ 70 := by rw [← HNL.out]; exact hoy.1.pl
          clear h4 hok hoy h70 hfd h71 hfe hFm hFo hNP hN70 hP hpl hpl2 hFP hPl hown hbig hsl hpm hof hPP hN hnl
          clear hf1 hf2 hf3 hf4 w0 w1 w2 w3 hk hlk hya hyt hyz hy hyx
          unfold IsSd at AD
          unfold IsPk at PK
          obtain ⟨sc, sr, sv, f, sb, st⟩ := a1
          unfold sdA stC at *
          simp only at *
          have ZS : Hid ((w.alloc (.cells #[.int .i64 sc, .string sr, .int .i64 sv, .slice A1 f.length c1, .string sb, .int .i64 st, .slice B1 n1 m1] 28)).heap[w.heap.size]? = some (.cells #[.int .i64 sc, .string sr, .int .i64 sv, .slice A1 f.length c1, .string sb, .int .i64 st, .slice B1 n1 m1] 28 (0, 0))) := heap_alloc_new w _
          have HB : Hid (Below w.heap.size w (w.alloc (.cells #[.int .i64 sc, .string sr, .int .i64 sv, .slice A1 f.length c1, .string sb, .int .i64 st, .slice B1 n1 m1] 28))) := (Below.refl _ _).alloc (Nat.le_refl _) _
          obtain ⟨q0, q1, q2, q3, q4, q5, q6⟩ := cel7 ZS.out
          go_enter Tryd.func7, Tryd.ntmps7
          go_wp2_with fail
          refine (K1.out _ HB.out).mono ?_
          rintro e v1 ⟨rfl, hb⟩
          clear q0 q1 q2 q3 q4 q5 q6
          replace ZS := Lib.hid (zero_still hb ZS.out)
          replace HB := Lib.hid (below_then HB.out hb)
          clear hb
          obtain ⟨q0, q1, q2, q3, q4, q5, q6⟩ := cel7 ZS.out
          go_wp2_with fail
          refine (K2.out _ HB.out).mono ?_
          rintro e v2 ⟨rfl, hb0⟩
          have hb := zero_then hb0
          clear hb0
          clear q0 q1 q2 q3 q4 q5 q6
          replace ZS := Lib.hid (zero_still hb ZS.out)
          replace HB := Lib.hid (below_then HB.out hb)
          clear hb
          obtain ⟨q0, q1, q2, q3, q4, q5, q6⟩ := cel7 ZS.out
          go_wp2_with fail
          refine (K3.out _ HB.out).mono ?_
          rintro e v3 ⟨rfl, rfl⟩
          go_wp2_with fail
          refine (K4.out _ HB.out).mono ?_
          rintro e v4 ⟨rfl, rfl⟩
          clear q0 q1 q2 q3 q4 q5 q6
          go_wp2_with fail
          obtain ⟨vO, hvO⟩ : ∃ W : World, W = v2 := ⟨_, rfl⟩
          rw [← hvO] at HB ZS ⊢
          clear hvO
          go_loopw [9, 10] (fun v i wr => ∃ k : Nat, k ≤ n1 ∧ i = .int .i64 (k : Int) ∧ Hid (OwnS wr vO.heap.size 9 v (nmP (KP.take k))) ∧ Hid (wr.heap[w.heap.size]? = some (.cells #[.int .i64 sc, .string sr, .int .i64 sv, .slice A1 f.length c1, .string sb, .int .i64 st, .slice B1 n1 m1] 28 (0, 0))) ∧ Hid (Below vO.heap.size vO wr)) (fun _ i _ => n1 - (intOf i).toNat)
          case atStart => exact ⟨0, Nat.zero_le _, rfl, OwnS.nil _ _ _, ZS.out, Below.refl _ _⟩
          case round =>
            have HZ0 := ZS
            clear ZS
            obtain ⟨k, hk, rfl, HOW, ZS, HBr⟩ := hrel
            obtain ⟨q0, q1, q2, q3, q4, q5, q6⟩ := cel7 ZS.out
            by_cases hlt : k < n1
            · have hkK : k < KP.length := by have := HNL.out; omega
              have HKr := HKK.out.below (HB.out.trans (HBr.out.mono HB.out.size))
              obtain ⟨ad, rfl, hc⟩ := HKr.at_ (by omega)
              have hc0 := (hc k KP[k] (List.getElem?_eq_getElem hkK)).1
              have hsn := nmP_snoc KP k hkK
              have hnl : (nmP (KP.take k)).length ≤ 70 := by unfold nmP; rw [List.length_map, List.length_take]; omega
              have hme := mkS_self KP[k].n
              generalize KP[k].n = nm at *
              generalize nmP (KP.take k) = X at *
              have HSN := Lib.hid hsn
              have HME := Lib.hid hme
              have hi0 : (0 : Int) ≤ (k : Int) := by omega
              have hi1 : (k : Int) < (n1 : Int) := by omega
              have hs1 := HBr.out.size
              clear hc hsn hme HKr
              go_wp2_with (at_builtin; refine wpList_append_sls rfl _ _ _ rfl vO.heap.size 9 Tryd.underlying51 (by kernel_rfl) _ rfl X (HOW.out.alloc _) _ _ _ rfl [nm.data.toList] (by have h1 := SlS.one wr 9 nm.data.toList; rw [HME.out] at h1; exact h1) (by simp; omega) (by simp; omega) vO (HBr.out.alloc hs1 _) ?_; intro v1 w3 ho3 hb3 hz3)
              go_roundw
              case rel => exact ⟨k + 1, by omega, by go_num, by show OwnS _ _ _ _ _; rw [HSN.out]; exact ho3.out, (hb3.block _ (Nat.lt_of_lt_of_le (Nat.lt_of_le_of_lt (Nat.le_refl _) (Array.getElem?_eq_some_iff.1 HZ0.out).1) (Nat.le_refl _))).trans HZ0.out, hb3⟩
              case measure => simp [intOf]; omega
            · obtain rfl : k = n1 := by omega
              have hfull : nmP (KP.take k) = N := by rw [List.take_of_length_le (by have := HNL.out; omega)]; exact HN.out.symm
              rw [hfull] at HOW
              obtain ⟨A9, c9, e9, hA9, _⟩ := HOW.out.sls
              subst e9
              have HBw := Lib.hid (below_then HB.out HBr.out)
              have HA9 := Lib.hid hA9
              have hi1 : ¬ (k : Int) < (k : Int) := by omega
              clear hA9 HOW hfull HB HBr HKK HN
              go_wp2_with fail
              refine (PK.out _ _ _ HBw.out HA9.out).mono ?_
              rintro e v6 ⟨Ap, cp, rfl, hS, hb⟩
              clear q0 q1 q2 q3 q4 q5 q6
              replace ZS := Lib.hid (zero_still hb ZS.out)
              obtain ⟨qp, hqp⟩ : ∃ q, q = P.length := ⟨_, rfl⟩
              rw [← hqp] at hS ⊢
              have HP6 := Lib.hid hS
              have HB6 := Lib.hid (below_then HBw.out hb)
              have AD := Lib.hid (fun W (hW : Below w.heap.size w W) (h : SlK W Ap P.length cp P) => AD.out Ap cp W hW h)
              have MT := Lib.hid (fun W (hW : Below w.heap.size w W) (h : SlK W Ap P.length cp P) => MT.out Ap cp W hW h)
              rw [← hqp] at AD MT
              have HQP := Lib.hid hqp
              clear hb hS PK HA9 HBw hqp
              obtain ⟨f0, f1⟩ := row_at ZS.out 6 _ rfl
              have HP7 : Hid (SlK (v6.setCell ⟨w.heap.size, 6, none⟩ (.slice Ap qp cp)) Ap qp cp P) := HP6.out.setCellD (HP6.out.disS ZS.out) _ _
              have HB7 : Hid (Below w.heap.size w (v6.setCell ⟨w.heap.size, 6, none⟩ (.slice Ap qp cp))) := HB6.out.setCell (Nat.le_refl _) _
              replace ZS : Hid ((v6.setCell ⟨w.heap.size, 6, none⟩ (.slice Ap qp cp)).heap[w.heap.size]? = some (.cells #[.int .i64 sc, .string sr, .int .i64 sv, .slice A1 f.length c1, .string sb, .int .i64 st, .slice Ap qp cp] 28 (0, 0))) := row_set ZS.out 6 (.slice Ap qp cp)
              obtain ⟨q0, q1, q2, q3, q4, q5, q6⟩ := cel7 ZS.out
              clear HP6 HB6
              go_wp2_with fail
              refine (AD.out _ HB7.out HP7.out).mono ?_
              rintro e v7 ⟨A7, c7, M, rfl, hS, hM, hb⟩
              clear q0 q1 q2 q3 q4 q5 q6 f0 f1
              replace ZS := Lib.hid (zero_still hb ZS.out)
              have HP := Lib.hid (HP7.out.below hb)
              have HB := Lib.hid (below_then HB7.out hb)
              clear hb HP7 HB7 AD
              have hM0 : ∃ y0 T, M = y0 :: T ∧ y0.x = ⟨⟨sc, sr, sv, f, sb, st⟩, P⟩ := by
                have hM' := hM
                rw [HAC.out] at hM'
                rcases M with _ | ⟨y0, T⟩
                · simp at hM'
                · simp only [List.map_cons, List.cons.injEq] at hM'
                  exact ⟨y0, T, rfl, hM'.1⟩
              obtain ⟨y0, T, hMM, hy0⟩ := hM0
              obtain ⟨x0, fa0, fc0, pa0, pc0⟩ := y0
              simp only at hy0
              subst hy0
              obtain ⟨am, rfl, _⟩ := hS.at_ (by rw [hMM]; simp)
              have hml : 0 < M.length ∧ M.length ≤ 4 := by
                have := congrArg List.length hM
                rw [List.length_map] at this
                rw [this]
                exact HAL.out
              have hal : (addV Z ⟨⟨sc, sr, sv, f, sb, st⟩, P⟩).length = M.length := by rw [← hM, List.length_map]
              have HS := Lib.hid hS
              have HM := Lib.hid hM
              have FM := Lib.hid (fun W (hW : Below w.heap.size w W) (h : SlD W (some am) M.length c7 M) => FM.out (some am) c7 M W hW h hM)
              have FN := Lib.hid (fun W (hW : Below w.heap.size w W) (h : SlD W (some am) M.length c7 M) => FN.out (some am) c7 M W hW h hM)
              rw [hM] at FM FN
              rw [HOF.out] at FM
              have ON := Lib.hid (fun W (hW : Below w.heap.size w W) (h : SlD W (some am) M.length c7 M) (hp : SlK W Ap P.length cp P) => r_one ⟨⟨sc, sr, sv, f, sb, st⟩, P⟩ fa0 A1 pa0 Ap fc0 c1 pc0 cp W (h.all _ (by rw [hMM]; exact List.mem_cons_self ..)) ⟨HSF.out W hW, hp⟩ HS1.out (by have := HPL.out; show P.length ≤ _; omega))
              have HE := Lib.hid (fun W (h : SlD W (some am) M.length c7 M) => show W.cell? am = some (.int .i64 sc) ∧ W.cell? { block := am.block, off := am.off + 1 } = some (.string sr) ∧ W.cell? { block := am.block, off := am.off + 2 } = some (.int .i64 sv) ∧ W.cell? { block := am.block, off := am.off + 3 } = some (.slice fa0 f.length fc0) ∧ W.cell? { block := am.block, off := am.off + 4 } = some (.string sb) ∧ W.cell? { block := am.block, off := am.off + 5 } = some (.int .i64 st) ∧ W.cell? { block := am.block, off := am.off + 6 } = some (.slice pa0 P.length pc0) from by
                rw [hMM] at h
                exact h.el0)
              obtain ⟨qm, hqm⟩ : ∃ q, q = M.length := ⟨_, rfl⟩
              have HQM := Lib.hid hqm
              have HEL := Lib.hid (fun W (h : SlD W (some am) qm c7 M) (k : Nat) (hk : k < M.length) => h.el hk)
              have HALL := Lib.hid (fun W (h : SlD W (some am) qm c7 M) (k : Nat) (hk : k < M.length) => (h.all M[k] (List.getElem_mem hk)))
              have HAP := Lib.hid (fun (k : Nat) (hk : k + 1 < M.length) => show pksB M[k + 1].x.p P = false from HAP.out k M[k + 1].x (by rw [← hM, List.getElem?_map, List.getElem?_eq_getElem hk]; rfl))
              have HBGM := Lib.hid (fun (k : Nat) (hk : k < M.length) => show M[k].x.p.length ≤ 100000000 from by
                have h1 : M[k].x ∈ addV Z ⟨⟨sc, sr, sv, f, sb, st⟩, P⟩ := by rw [← hM]; exact List.mem_map.2 ⟨M[k], List.getElem_mem hk, rfl⟩
                have h2 := HPL.out
                rcases add_mem h1 with q | q
                · rw [q]; show P.length ≤ _; omega
                · exact HZP.out _ q)
              rw [← HQP.out] at ON HE
              unfold sdA stC at ON
              simp only at ON
              rw [← HQP.out] at ON
              rw [← hqm] at HS FM FN ON HE hml hal ⊢
              have HL4 := Lib.hid hal
              obtain ⟨hq0, hq4⟩ := hml
              have hi2 : (0 : Int) < (qm : Int) := by omega
              have hi3 : ((qm : Int) == 0) = false := beq_eq_false_iff_ne.2 (by omega)
              have hi4 : decide ((4 : Int) < (qm : Int)) = false := decide_eq_false (by omega)
              clear hS hM hqm hal hMM hi1
              go_wp2_with fail
              replace ZS : Hid (v7.drew.heap[w.heap.size]? = some (.cells #[.int .i64 sc, .string sr, .int .i64 sv, .slice A1 f.length c1, .string sb, .int .i64 st, .slice Ap qp cp] 28 (0, 0))) := ZS.out
              replace HB := Lib.hid HB.out.drew
              replace HS := Lib.hid HS.out.drew
              replace HP := Lib.hid HP.out.drew
              go_region_held3 (fun W => W.cell? ⟨w.heap.size, 0, none⟩ = some (.int .i64 sc) ∧ W.cell? ⟨w.heap.size, 1, none⟩ = some (.string sr) ∧ W.cell? ⟨w.heap.size, 2, none⟩ = some (.int .i64 sv) ∧ W.cell? ⟨w.heap.size, 3, none⟩ = some (.slice A1 f.length c1) ∧ W.cell? ⟨w.heap.size, 4, none⟩ = some (.string sb) ∧ W.cell? ⟨w.heap.size, 5, none⟩ = some (.int .i64 st) ∧ W.cell? ⟨w.heap.size, 6, none⟩ = some (.slice Ap qp cp) ∧ W.cell? am = some (.int .i64 sc) ∧ W.cell? { block := am.block, off := am.off + 1 } = some (.string sr) ∧ W.cell? { block := am.block, off := am.off + 2 } = some (.int .i64 sv) ∧ W.cell? { block := am.block, off := am.off + 3 } = some (.slice fa0 f.length fc0) ∧ W.cell? { block := am.block, off := am.off + 4 } = some (.string sb) ∧ W.cell? { block := am.block, off := am.off + 5 } = some (.int .i64 st) ∧ W.cell? { block := am.block, off := am.off + 6 } = some (.slice pa0 qp pc0)) (exact ⟨(cel7 ZS.out).1, (cel7 ZS.out).2.1, (cel7 ZS.out).2.2.1, (cel7 ZS.out).2.2.2.1, (cel7 ZS.out).2.2.2.2.1, (cel7 ZS.out).2.2.2.2.2.1, (cel7 ZS.out).2.2.2.2.2.2, HE.out _ HS.out⟩) (first
                | (go_at_call 24; refine (ON.out _ HB.out HS.out HP.out).mono ?_; rintro e w8 ⟨rfl, hb⟩; replace ZS := Lib.hid (zero_still hb ZS.out); replace HB := Lib.hid (below_then HB.out hb); replace HS := Lib.hid (HS.out.below hb); replace HP := Lib.hid (HP.out.below hb); clear hb)
                | (go_at_call 11; refine (FM.out _ HB.out HS.out).mono ?_; rintro e w8 ⟨rfl, hb⟩; replace ZS := Lib.hid (zero_still hb ZS.out); replace HB := Lib.hid (below_then HB.out hb); replace HS := Lib.hid (HS.out.below hb); replace HP := Lib.hid (HP.out.below hb); clear hb))
              go_wp2_with fail
              go_loopw [12] (fun i wr => ∃ k : Nat, 1 ≤ k ∧ k ≤ qm ∧ i = .int .i64 (k : Int) ∧ Hid (wr.heap[w.heap.size]? = some (.cells #[.int .i64 sc, .string sr, .int .i64 sv, .slice A1 f.length c1, .string sb, .int .i64 st, .slice Ap qp cp] 28 (0, 0))) ∧ Hid (Below w.heap.size w wr) ∧ Hid (SlD wr (some am) qm c7 M) ∧ Hid (SlK wr Ap qp cp P)) (fun i _ => qm - (intOf i).toNat)
              case atStart => exact ⟨1, Nat.le_refl _, by omega, rfl, ZS.out, HB.out, HS.out, HP.out⟩
              case round =>
                clear ZS HB HS HP ON FM HE
                obtain ⟨k2, hk21, hk22, rfl, ZS, HB, HS, HP⟩ := hrel
                by_cases hlt2 : k2 < qm
                · have hkM : k2 < M.length := by rw [← HQM.out]; exact hlt2
                  have hel := (HEL.out _ HS.out k2 hkM).2.2.2.2.2.2
                  have hal := HALL.out _ HS.out k2 hkM
                  have hap : pksB M[k2].x.p P = false := by
                    obtain ⟨k3, rfl⟩ : ∃ k3, k2 = k3 + 1 := ⟨k2 - 1, by omega⟩
                    exact HAP.out k3 hkM
                  have hbg := HBGM.out k2 hkM
                  generalize M[k2] = z at *
                  have cp2 := fun W (h : SdAt W z) (hp : SlK W Ap qp cp P) => r_pkSame z.pa Ap z.x.p.length z.pc qp cp z.x.p P W h.k hp hbg
                  simp only [hap] at cp2
                  have CP := Lib.hid cp2
                  obtain ⟨zpa, hzpa⟩ : ∃ q, q = z.pa := ⟨_, rfl⟩
                  obtain ⟨zpl, hzpl⟩ : ∃ q, q = z.x.p.length := ⟨_, rfl⟩
                  obtain ⟨zpc, hzpc⟩ : ∃ q, q = z.pc := ⟨_, rfl⟩
                  rw [← hzpa, ← hzpl, ← hzpc] at CP hel
                  have HC := Lib.hid hel
                  have HZ := Lib.hid hal
                  have hi7 : (0 : Int) ≤ (k2 : Int) := by omega
                  have hi8 : (k2 : Int) < (qm : Int) := by omega
                  clear hel hal hap hbg cp2 hzpa hzpl hzpc hkM
                  go_wp2_with fail
                  replace ZS : Hid (wr.drew.heap[w.heap.size]? = some (.cells #[.int .i64 sc, .string sr, .int .i64 sv, .slice A1 f.length c1, .string sb, .int .i64 st, .slice Ap qp cp] 28 (0, 0))) := ZS.out
                  replace HB := Lib.hid HB.out.drew
                  replace HS := Lib.hid HS.out.drew
                  replace HP := Lib.hid HP.out.drew
                  replace HC : Hid (wr.drew.cell? { block := (am.add (k2 * 7)).block, off := (am.add (k2 * 7)).off + 6 } = some (.slice zpa zpl zpc)) := HC.out
                  replace HZ : Hid (SdAt wr.drew z) := ⟨HZ.out.f.drew, HZ.out.k.drew⟩
                  go_region_held3 (fun W => W.cell? ⟨w.heap.size, 6, none⟩ = some (.slice Ap qp cp) ∧ W.cell? { block := (am.add (k2 * 7)).block, off := (am.add (k2 * 7)).off + 6 } = some (.slice zpa zpl zpc)) (exact ⟨(cel7 ZS.out).2.2.2.2.2.2, HC.out⟩) ((go_at_call 25; refine (CP.out _ HZ.out HP.out).mono ?_; rintro e w8 ⟨rfl, hb⟩; replace HC := Lib.hid (cell_kept hb HC.out); replace HZ := Lib.hid (HZ.out.below hb); replace ZS := Lib.hid (zero_still hb ZS.out); replace HB := Lib.hid (below_then HB.out hb); replace HS := Lib.hid (HS.out.below hb); replace HP := Lib.hid (HP.out.below hb); clear hb))
                  go_wp2_with fail
                  go_roundw
                  case rel => exact ⟨k2 + 1, by omega, by omega, by go_num, ZS.out, HB.out, HS.out, HP.out⟩
                  case measure => simp [intOf]; omega
                · obtain rfl : k2 = qm := by omega
                  have hi7 : ¬ (k2 : Int) < (k2 : Int) := by omega
                  have q6 := (cel7 ZS.out).2.2.2.2.2.2
                  clear HAP HBGM
                  cases hm : pkM P z3 with
                  | true =>
                    rw [hm] at MT
                    have h0 := OM.out hm
                    rw [h0] at FN
                    clear hm h0 OM OO FO
                    go_wp2_with fail
                    refine (MT.out _ HB.out HP.out).mono ?_
                    rintro e w8 ⟨rfl, hb⟩
                    clear q6
                    replace ZS := Lib.hid (zero_still hb ZS.out)
                    replace HB := Lib.hid (below_then HB.out hb)
                    replace HS := Lib.hid (HS.out.below hb)
                    replace HP := Lib.hid (HP.out.below hb)
                    clear hb
                    go_wp2_with fail
                    refine (FN.out _ HB.out HS.out).mono ?_
                    rintro e w9 ⟨rfl, hb⟩
                    replace ZS := Lib.hid (zero_still hb ZS.out)
                    replace HB := Lib.hid (below_then HB.out hb)
                    replace HS := Lib.hid (HS.out.below hb)
                    replace HP := Lib.hid (HP.out.below hb)
                    clear hb
                    go_wp2_with fail
                    refine (CX.out _ HB.out).mono ?_
                    rintro e v9 ⟨rfl, hb⟩
                    go_wp2_with fail
                    go_ret
                    exact ⟨rfl, below_then HB.out hb⟩
                  | false =>
                    rw [hm] at MT
                    have hoo := OO.out hm
                    clear hm OM OO
                    obtain ⟨ra, hra⟩ : ∃ q, q = verF Z z3 := ⟨_, rfl⟩
                    obtain ⟨rb, hrb⟩ : ∃ q, q = verF (addV Z ⟨⟨sc, sr, sv, f, sb, st⟩, P⟩) z3 := ⟨_, rfl⟩
                    rw [← hra] at FO hoo
                    rw [← hrb] at FN hoo
                    rw [HL4.out] at hoo
                    clear hra hrb
                    rcases hoo with ⟨hb0, hor⟩ | ⟨a, b, x, rfl, rfl, hxa, hxb⟩
                    · rcases hor with ha | ⟨h4, ha⟩
                      · have hd1 : decide (rb < 0) = true := decide_eq_true hb0
                        have hd2 : decide (ra < 0) = true := decide_eq_true ha
                        go_wp2_with fail
                        refine (MT.out _ HB.out HP.out).mono ?_
                        rintro e w8 ⟨rfl, hb⟩
                        clear q6
                        replace ZS := Lib.hid (zero_still hb ZS.out)
                        replace HB := Lib.hid (below_then HB.out hb)
                        replace HS := Lib.hid (HS.out.below hb)
                        replace HP := Lib.hid (HP.out.below hb)
                        clear hb
                        go_wp2_with fail
                        refine (FO.out _ HB.out).mono ?_
                        rintro e w9 ⟨rfl, hb⟩
                        replace ZS := Lib.hid (zero_still hb ZS.out)
                        replace HB := Lib.hid (below_then HB.out hb)
                        replace HS := Lib.hid (HS.out.below hb)
                        replace HP := Lib.hid (HP.out.below hb)
                        clear hb
                        go_wp2_with fail
                        refine (FN.out _ HB.out HS.out).mono ?_
                        rintro e w10 ⟨rfl, hb⟩
                        replace ZS := Lib.hid (zero_still hb ZS.out)
                        replace HB := Lib.hid (below_then HB.out hb)
                        replace HS := Lib.hid (HS.out.below hb)
                        replace HP := Lib.hid (HP.out.below hb)
                        clear hb
                        go_wp2_with fail
                        refine (CX.out _ HB.out).mono ?_
                        rintro e v9 ⟨rfl, hb⟩
                        go_wp2_with fail
                        go_ret
                        exact ⟨rfl, below_then HB.out hb⟩
                      · have hd1 : decide (rb < 0) = true := decide_eq_true hb0
                        have hd2 : decide (ra < 0) = false := decide_eq_false (by omega)
                        subst h4
                        have hd4 : decide (3 ≤ ra) = true := decide_eq_true ha
                        have hd5 : ¬ ra < 0 := by omega
                        go_wp2_with fail
                        refine (MT.out _ HB.out HP.out).mono ?_
                        rintro e w8 ⟨rfl, hb⟩
                        clear q6
                        replace ZS := Lib.hid (zero_still hb ZS.out)
                        replace HB := Lib.hid (below_then HB.out hb)
                        replace HS := Lib.hid (HS.out.below hb)
                        replace HP := Lib.hid (HP.out.below hb)
                        clear hb
                        go_wp2_with fail
                        refine (FO.out _ HB.out).mono ?_
                        rintro e w9 ⟨rfl, hb⟩
                        replace ZS := Lib.hid (zero_still hb ZS.out)
                        replace HB := Lib.hid (below_then HB.out hb)
                        replace HS := Lib.hid (HS.out.below hb)
                        replace HP := Lib.hid (HP.out.below hb)
                        clear hb
                        go_wp2_with fail
                        refine (FN.out _ HB.out HS.out).mono ?_
                        rintro e w10 ⟨rfl, hb⟩
                        replace ZS := Lib.hid (zero_still hb ZS.out)
                        replace HB := Lib.hid (below_then HB.out hb)
                        replace HS := Lib.hid (HS.out.below hb)
                        replace HP := Lib.hid (HP.out.below hb)
                        clear hb
                        go_wp2_with fail
                        refine (CX.out _ HB.out).mono ?_
                        rintro e v9 ⟨rfl, hb⟩
                        go_wp2_with fail
                        go_ret
                        exact ⟨rfl, below_then HB.out hb⟩
                    · have hxa2 : a < z0.length := by
                        have := (List.getElem?_eq_some_iff.1 hxa).1
                        rw [← HZE.out, List.length_map] at this; exact this
                      have hxb2 : b < M.length := by
                        have := (List.getElem?_eq_some_iff.1 hxb).1
                        rw [← HM.out, List.length_map] at this; exact this
                      have hx1 : z0[a].x = x := by
                        rw [← HZE.out, List.getElem?_map, List.getElem?_eq_getElem hxa2] at hxa
                        exact Option.some.inj hxa
                      have hx2 : M[b].x = x := by
                        rw [← HM.out, List.getElem?_map, List.getElem?_eq_getElem hxb2] at hxb
                        exact Option.some.inj hxb
                      have hea := fun W (h : SlD W a0 z0.length cap0 z0) => show ∃ ad, a0 = some ad ∧ ElD W (ad.add (a * 7)) z0[a] from by
                        obtain ⟨ad, q, _⟩ := h.at_ (by omega)
                        subst q
                        exact ⟨ad, rfl, h.el hxa2⟩
                      obtain ⟨ad, hq, _⟩ := hea w (HS0.out w (Below.refl _ _))
                      subst hq
                      have hea := fun W (h : SlD W (some ad) z0.length cap0 z0) => h.el hxa2
                      have heb := fun W (h : SlD W (some am) k2 c7 M) => HEL.out W h b hxb2
                      have hsa := fun W (h : SlD W (some ad) z0.length cap0 z0) => h.all z0[a] (List.getElem_mem hxa2)
                      have hsb := fun W (h : SlD W (some am) k2 c7 M) => HALL.out W h b hxb2
                      have hbg := HBG.out z0[a] (List.getElem_mem hxa2)
                      rw [hx1] at hbg
                      have hla : (a : Int) < (z0.length : Int) := by omega
                      have hlb : b < k2 := by rw [HQM.out]; exact hxb2
                      generalize z0[a] = za at *
                      generalize M[b] = zb at *
                      obtain ⟨xa, ya1, ya2, ya3, ya4⟩ := za
                      obtain ⟨xb, yb1, yb2, yb3, yb4⟩ := zb
                      simp only at hx1 hx2
                      subst hx1 hx2
                      obtain ⟨⟨xc, xr, xv, xf, xbd, xt⟩, xp⟩ := xb
                      have O2 := Lib.hid (fun W (h : SdAt W ⟨⟨⟨xc, xr, xv, xf, xbd, xt⟩, xp⟩, ya1, ya2, ya3, ya4⟩) (h' : SdAt W ⟨⟨⟨xc, xr, xv, xf, xbd, xt⟩, xp⟩, yb1, yb2, yb3, yb4⟩) => r_one ⟨⟨xc, xr, xv, xf, xbd, xt⟩, xp⟩ ya1 yb1 ya3 yb3 ya2 yb2 ya4 yb4 W h h' hbg.1 hbg.2)
                      unfold sdA stC at O2
                      unfold ElD at hea heb
                      simp only at O2 hea heb
                      obtain ⟨ta, hta⟩ : ∃ t, t = ad.add (a * 7) := ⟨_, rfl⟩
                      obtain ⟨tb, htb⟩ : ∃ t, t = am.add (b * 7) := ⟨_, rfl⟩
                      have HEA := Lib.hid hea
                      have HEB := Lib.hid heb
                      have HSA := Lib.hid hsa
                      have HSB := Lib.hid hsb
                      have hd1 : decide ((b : Int) < 0) = false := decide_eq_false (by omega)
                      have hd0 : ¬ (b : Int) < 0 := by omega
                      have hd2 : decide ((a : Int) < (z0.length : Int)) = true := decide_eq_true hla
                      have hlb2 : (b : Int) < (k2 : Int) := by omega
                      have hd3 : decide ((b : Int) < (k2 : Int)) = true := decide_eq_true hlb2
                      have hd4 : (0 : Int) ≤ (a : Int) := by omega
                      have hd5 : (0 : Int) ≤ (b : Int) := by omega
                      have HAD := Lib.hid (HS0.out)
                      clear hea heb hsa hsb hbg hxa hxb hta htb hxb2 HEL HALL
                      go_wp2_with fail
                      refine (MT.out _ HB.out HP.out).mono ?_
                      rintro e w8 ⟨rfl, hb⟩
                      clear q6
                      replace ZS := Lib.hid (zero_still hb ZS.out)
                      replace HB := Lib.hid (below_then HB.out hb)
                      replace HS := Lib.hid (HS.out.below hb)
                      replace HP := Lib.hid (HP.out.below hb)
                      clear hb
                      go_wp2_with fail
                      refine (FO.out _ HB.out).mono ?_
                      rintro e w9 ⟨rfl, hb⟩
                      replace ZS := Lib.hid (zero_still hb ZS.out)
                      replace HB := Lib.hid (below_then HB.out hb)
                      replace HS := Lib.hid (HS.out.below hb)
                      replace HP := Lib.hid (HP.out.below hb)
                      clear hb
                      go_wp2_with fail
                      refine (FN.out _ HB.out HS.out).mono ?_
                      rintro e w10 ⟨rfl, hb⟩
                      replace ZS := Lib.hid (zero_still hb ZS.out)
                      replace HB := Lib.hid (below_then HB.out hb)
                      replace HS := Lib.hid (HS.out.below hb)
                      replace HP := Lib.hid (HP.out.below hb)
                      clear hb
                      have HSZ := Lib.hid (HS0.out _ HB.out)
                      go_wp2_with fail
                      replace HB := Lib.hid HB.out.drew
                      replace HS := Lib.hid HS.out.drew
                      replace HSZ := Lib.hid HSZ.out.drew
                      go_region_held3 (fun W => W.cell? (ad.add (a * 7)) = some (.int .i64 xc) ∧ W.cell? { block := (ad.add (a * 7)).block, off := (ad.add (a * 7)).off + 1 } = some (.string xr) ∧ W.cell? { block := (ad.add (a * 7)).block, off := (ad.add (a * 7)).off + 2 } = some (.int .i64 xv) ∧ W.cell? { block := (ad.add (a * 7)).block, off := (ad.add (a * 7)).off + 3 } = some (.slice ya1 xf.length ya2) ∧ W.cell? { block := (ad.add (a * 7)).block, off := (ad.add (a * 7)).off + 4 } = some (.string xbd) ∧ W.cell? { block := (ad.add (a * 7)).block, off := (ad.add (a * 7)).off + 5 } = some (.int .i64 xt) ∧ W.cell? { block := (ad.add (a * 7)).block, off := (ad.add (a * 7)).off + 6 } = some (.slice ya3 xp.length ya4) ∧ W.cell? (am.add (b * 7)) = some (.int .i64 xc) ∧ W.cell? { block := (am.add (b * 7)).block, off := (am.add (b * 7)).off + 1 } = some (.string xr) ∧ W.cell? { block := (am.add (b * 7)).block, off := (am.add (b * 7)).off + 2 } = some (.int .i64 xv) ∧ W.cell? { block := (am.add (b * 7)).block, off := (am.add (b * 7)).off + 3 } = some (.slice yb1 xf.length yb2) ∧ W.cell? { block := (am.add (b * 7)).block, off := (am.add (b * 7)).off + 4 } = some (.string xbd) ∧ W.cell? { block := (am.add (b * 7)).block, off := (am.add (b * 7)).off + 5 } = some (.int .i64 xt) ∧ W.cell? { block := (am.add (b * 7)).block, off := (am.add (b * 7)).off + 6 } = some (.slice yb3 xp.length yb4)) (exact ⟨(HEA.out _ HSZ.out).1, (HEA.out _ HSZ.out).2.1, (HEA.out _ HSZ.out).2.2.1, (HEA.out _ HSZ.out).2.2.2.1, (HEA.out _ HSZ.out).2.2.2.2.1, (HEA.out _ HSZ.out).2.2.2.2.2.1, (HEA.out _ HSZ.out).2.2.2.2.2.2, HEB.out _ HS.out⟩) (first
                        | (go_at_call 24; refine (O2.out _ (HSA.out _ HSZ.out) (HSB.out _ HS.out)).mono ?_; rintro e w11 ⟨rfl, hb⟩; replace HB := Lib.hid (below_then HB.out hb); replace HS := Lib.hid (HS.out.below hb); replace HSZ := Lib.hid (HSZ.out.below hb); clear hb)
                        | (go_at_call 10; refine (CX.out _ HB.out).mono ?_; rintro e w11 ⟨rfl, hb⟩; replace HB := Lib.hid (below_then HB.out hb); replace HS := Lib.hid (HS.out.below hb); replace HSZ := Lib.hid (HSZ.out.below hb); clear hb))
                      go_wp2_with fail
                      go_ret
                      exact ⟨rfl, HB.out⟩

theorem door_met (os : Os) (args : Array Value) : laidMetH Tryd.prog Rows.variantFirstRow.laid ((World.laidAll Tryd.prog os Rows.variantFirstRow.laid).forCall (fun _ _ => 0) ⟨#[], args, []⟩).memory := by
  rw [MakeChecks.laidMetH_plain _ _ _ (by kernel_rfl)]
  exact laidMet_laidAll _ (by kernel_rfl) (by kernel_rfl)

set_option maxRecDepth 100000 in
theorem lifted (os : Os) (started : os.Started) (H : Type) (enc : TypeId × Value → H) :
    ReturnsInHanded {} Tryd.checked os 7 .any (fun w args => (Rows.variantFirstSpec.pre enc Tryd.prog Tryd.f7 [] false w args ∧ laidMetH Tryd.prog Rows.variantFirstRow.laid w) ∧ sizedMet enc Tryd.prog Tryd.f7 (OpenSpec.ofChange Rows.variantFirstSpec) false w args) (Rows.variantFirstSpec.post enc Tryd.prog Tryd.f7 false true false false) := by
  refine returnsInHanded_of_change_and (C := Tryd.checked) (X := fun w _ => laidMetH Tryd.prog Rows.variantFirstRow.laid w) (fun _ _ _ hh h => h.of_heap hh) own started (by kernel_rfl) Tryd.func7
    (ChangeSpec.witness_shaped (enc := enc) (C := Tryd.checked) (os := os) (X := fun w _ => laidMetH Tryd.prog Rows.variantFirstRow.laid w) false (World.laidAll Tryd.prog os Rows.variantFirstRow.laid) #[.slice none 0 0, .agg #[.int .i64 0, .string ByteArray.empty, .int .i64 0, .slice none 0 0, .string ByteArray.empty, .int .i64 0, .slice none 0 0], .slice none 0 0, .slice none 0 0] 8 rfl (World.shaped_of_ZipB (by kernel_rfl) (by kernel_rfl)) (by kernel_rfl) (by kernel_rfl) (by kernel_rfl) (door_met os _)) ?_
  intro W base args ds gs before hval0 hW _ _ hL _
  have hval : ∀ (j : Nat) t v, Tryd.f7.params[j]? = some t → args[j]? = some v → Value.okWide Tryd.prog W .any base t v := hval0
  have hW' := hW
  obtain ⟨p, q, hA0, hV, rfl, hfz, hnd⟩ := hW
  have hA : DataW.TrodAll enc Tryd.prog W 0 (fun _ => true) true Tryd.f7.params.toList args.toList ds p := hA0
  rw [Tryd.params7] at hA hval
  obtain ⟨v0, vs0, d0, ds0, p0, q0, hargs, rfl, rfl, h0, r0⟩ := trodAll_cons hA
  obtain ⟨v1, vs1, d1, ds1, p1, q1, rfl, rfl, rfl, h1, r1⟩ := trodAll_cons r0
  obtain ⟨v2, vs2, d2, ds2, p2, q2, rfl, rfl, rfl, h2, r2⟩ := trodAll_cons r1
  obtain ⟨v3, vs3, d3, ds3, p3, q3, rfl, rfl, rfl, h3, r3⟩ := trodAll_cons r2
  obtain ⟨rfl, rfl, rfl⟩ := trodAll_nil r3
  obtain rfl : args = #[v0, v1, v2, v3] := by cases args; simp_all
  obtain ⟨rfl, rfl⟩ := trodVars_none hV
  obtain ⟨a0, len0, cap0, rfl⟩ := okWide_slice Tryd.underlying22 (hval 0 22 v0 rfl rfl)
  have k0 := h0
  have lt0 : ∀ x ∈ p0, x.block < W.heap.size := by obtain ⟨m, hm⟩ := k0; exact DataW.trod_lt m _ _ _ hm
  obtain ⟨z0, w0⟩ := SlD.of_trod Tryd.underlying22 Tryd.underlying28 (by kernel_rfl) rfl rfl rfl (by kernel_rfl) (by kernel_rfl) (by kernel_rfl) Tryd.underlying25 Tryd.underlying3 Tryd.underlying26 rfl rfl rfl rfl rfl (by kernel_rfl) (by kernel_rfl) (by kernel_rfl) (by kernel_rfl) (by kernel_rfl) Tryd.underlying3 Tryd.underlying9 Tryd.underlying3 Tryd.underlying23 Tryd.underlying9 Tryd.underlying62 (by kernel_rfl) rfl rfl (by kernel_rfl) (by kernel_rfl) Tryd.underlying9 Tryd.underlying9 Tryd.underlying53 (by kernel_rfl) rfl rfl rfl (by kernel_rfl) (by kernel_rfl) (by kernel_rfl) Tryd.underlying9 Tryd.underlying4 Tryd.underlying9 h0
  have k1 := h1
  have lt1 : ∀ x ∈ p1, x.block < W.heap.size := by obtain ⟨m, hm⟩ := k1; exact DataW.trod_lt m _ _ _ hm
  obtain ⟨a1, A1, c1, B1, n1, m1, K1, rfl, w1⟩ := WfK.of_trod Tryd.underlying28 (by kernel_rfl) rfl rfl rfl (by kernel_rfl) (by kernel_rfl) (by kernel_rfl) Tryd.underlying25 Tryd.underlying3 Tryd.underlying26 rfl rfl rfl rfl rfl (by kernel_rfl) (by kernel_rfl) (by kernel_rfl) (by kernel_rfl) (by kernel_rfl) Tryd.underlying3 Tryd.underlying9 Tryd.underlying3 Tryd.underlying23 Tryd.underlying9 Tryd.underlying62 (by kernel_rfl) rfl rfl (by kernel_rfl) (by kernel_rfl) Tryd.underlying9 Tryd.underlying9 Tryd.underlying53 (by kernel_rfl) rfl rfl rfl (by kernel_rfl) (by kernel_rfl) (by kernel_rfl) Tryd.underlying9 Tryd.underlying4 Tryd.underlying9 (hval 1 28 v1 rfl rfl) h1
  obtain ⟨a2, len2, cap2, rfl⟩ := okWide_slice Tryd.underlying23 (hval 2 23 v2 rfl rfl)
  have k2 := h2
  have lt2 : ∀ x ∈ p2, x.block < W.heap.size := by obtain ⟨m, hm⟩ := k2; exact DataW.trod_lt m _ _ _ hm
  obtain ⟨z2, w2⟩ := SlF.of_trod Tryd.underlying23 Tryd.underlying62 (by kernel_rfl) rfl rfl (by kernel_rfl) (by kernel_rfl) Tryd.underlying9 Tryd.underlying9 h2
  obtain ⟨a3, len3, cap3, rfl⟩ := okWide_slice Tryd.underlying23 (hval 3 23 v3 rfl rfl)
  have k3 := h3
  have lt3 : ∀ x ∈ p3, x.block < W.heap.size := by obtain ⟨m, hm⟩ := k3; exact DataW.trod_lt m _ _ _ hm
  obtain ⟨z3, w3⟩ := SlF.of_trod Tryd.underlying23 Tryd.underlying62 (by kernel_rfl) rfl rfl (by kernel_rfl) (by kernel_rfl) Tryd.underlying9 Tryd.underlying9 h3
  clear hA0 hval0
  refine (walk a0 len0 cap0 z0 a1 A1 c1 B1 n1 m1 K1 a2 len2 cap2 z2 a3 len3 cap3 z3 W w0 w1 w2 w3 hL).mono fun e W' ⟨he, bel⟩ => ?_
  subst he
  exact ⟨_, rfl, _, _, _, [], _, [], hW', trodAll_mk1 (shut_bool Tryd.underlying4 _), (trodAll_cons_mk (Below.trod laidOut (by kernel_rfl) (of_decide_eq_true (by kernel_rfl)) k0 bel lt0) (trodAll_cons_mk (Below.trod laidOut (by kernel_rfl) (of_decide_eq_true (by kernel_rfl)) k1 bel lt1) (trodAll_cons_mk (Below.trod laidOut (by kernel_rfl) (of_decide_eq_true (by kernel_rfl)) k2 bel lt2) (trodAll_cons_mk (Below.trod laidOut (by kernel_rfl) (of_decide_eq_true (by kernel_rfl)) k3 bel lt3) trodAll_mk0)))), rfl, bel.frame _, fun h => by cases h⟩

theorem over : Rows.variantFirstRow.holds Tryd.pinned (OpenSpec.ofChange Rows.variantFirstSpec) :=
  OpenClaim.holds_of_wide 7 Tryd.f7 rfl rfl rfl rfl rfl rfl rfl ⟨rfl, rfl, rfl, rfl, rfl⟩ rfl rfl rfl rfl rfl (by kernel_rfl) Tryd.func7 (by kernel_rfl)
    (of_decide_eq_true (by kernel_rfl)) (by unfold Func.isWrapper; first | (rw [if_pos (by decide +kernel)]; kernel_rfl) | (rw [if_neg (by decide +kernel)]; exact ⟨rfl, rfl⟩))
    (fun os started H enc _ => lifted os started H enc)

theorem said : Rows.VariantFirstSaid :=
  over

theorem plain (f : FuncId) (fn : Func) (hf : Tryd.pinned.checked.prog.funcNamed "depot/depotlaw20.VariantFirst" = some f) (hfn : Tryd.pinned.checked.prog.funcs[f]? = some fn) :
    false = Tryd.pinned.checked.prog.looks [] ∧ ∀ (j : Nat) t, fn.params[j]? = some t → Tryd.pinned.checked.prog.wantsStandIn t = false := by
  obtain rfl : f = 7 := Option.some.inj ((show Tryd.prog.funcNamed "depot/depotlaw20.VariantFirst" = some 7 by kernel_rfl).symm.trans hf) |>.symm
  obtain rfl : fn = Tryd.f7 := (Option.some.inj (Tryd.func7.symm.trans hfn)).symm
  refine ⟨by kernel_rfl, fun j t ht => ?_⟩
  rw [Tryd.params7] at ht
  · have hm := Array.mem_of_getElem? ht
    simp only [List.mem_toArray, List.mem_cons, List.not_mem_nil, or_false] at hm
    have all : Tryd.pinned.checked.prog.wantsStandIn 22 = false ∧ Tryd.pinned.checked.prog.wantsStandIn 23 = false ∧ Tryd.pinned.checked.prog.wantsStandIn 28 = false := ⟨by kernel_rfl, by kernel_rfl, by kernel_rfl⟩
    rcases hm with rfl | rfl | rfl | rfl
    all_goals first | with_reducible exact all.1 | with_reducible exact all.2.1 | with_reducible exact all.2.2

theorem proved : Rows.VariantFirstCardSaid :=
  Claim7.holds_tied_plain_at .later [] _ _ _ _ said (fun _ h => by cases h) (by kernel_rfl) (fun _ h => by cases h) variantFirst_row_tie rfl ⟨rfl, rfl⟩ (by kernel_rfl) rfl plain (by kernel_rfl)
#print axioms proved
end Go.Proofs.YthhlcecojeaalaaDoor.variantFirst
