/-
  Texts that the laws of this seat lean on, one behind the other.
-/
import Derived.Test.YtnembpklidcgoaaGreatDoorMrhAA
import Derived.Test.YtnembpklidcgoaaGreatDoorMrhAB
import Derived.Deep.RegionHeld3
import Derived.Test.YtnembpklidcgoaaGreatDoorMrhY
import Derived.Test.YtnembpklidcgoaaGreatDoorMrhW
set_option linter.unusedSimpArgs false
set_option linter.unusedVariables false
/-
  Contracts of the reference's Date, Told, Lifetime, Age, Fresh, Left (layer 17).
-/
section
namespace Go.Proofs.YtnembpklidcgoaaGreatDoor
open Go.RowKit

theorem cel7 {W : World} {g t : Nat} {c0 c1 c2 c3 c4 c5 c6 : Value} (h : W.heap[g]? = some (.cells #[c0, c1, c2, c3, c4, c5, c6] t (0, 0))) :
    W.cell? ⟨g, 0, none⟩ = some c0 ∧ W.cell? ⟨g, 1, none⟩ = some c1 ∧ W.cell? ⟨g, 2, none⟩ = some c2 ∧ W.cell? ⟨g, 3, none⟩ = some c3 ∧ W.cell? ⟨g, 4, none⟩ = some c4 ∧ W.cell? ⟨g, 5, none⟩ = some c5 ∧ W.cell? ⟨g, 6, none⟩ = some c6 := by
  refine ⟨?_, ?_, ?_, ?_, ?_, ?_, ?_⟩ <;> (rw [cell_of_row W g _ _ _ _ h]; rfl)
theorem dtS_le : dtS.size ≤ maxLen := by decide
theorem exS_le : exS.size ≤ maxLen := by decide
theorem lmS_le : lmS.size ≤ maxLen := by decide
theorem agS_le : agS.size ≤ maxLen := by decide

set_option maxHeartbeats 4000000 in
set_option maxRecDepth 100000 in
theorem r_dat (s : Stor) (A : Option Addr) (c : Nat) (B : Option Addr) (n d : Nat) (w : World) (h : SlF w A s.f.length c s.f) (hL : FwL s.f) :
    Calls Tryz.prog 97 #[.agg (stC s A c B n d)] w fun e w' => e = .returned (.int .i64 (datN s.f s.t)) ∧ Below w.heap.size w w' := by
  obtain ⟨sc, sr, sv, sf, sb, st⟩ := s
  unfold stC
  simp only at *
  have HF := Lib.hid (fun W (hW : Below w.heap.size w W) => h.below hW)
  have HB : Hid (Below w.heap.size w (w.alloc (.cells #[.int .i64 sc, .string sr, .int .i64 sv, .slice A sf.length c, .string sb, .int .i64 st, .slice B n d] 40))) := (Below.refl _ _).alloc (Nat.le_refl _) _
  have Z0 : Hid ((w.alloc (.cells #[.int .i64 sc, .string sr, .int .i64 sv, .slice A sf.length c, .string sb, .int .i64 st, .slice B n d] 40)).heap[w.heap.size]? = some (.cells #[.int .i64 sc, .string sr, .int .i64 sv, .slice A sf.length c, .string sb, .int .i64 st, .slice B n d] 40 (0, 0))) := heap_alloc_new w _
  have C1 := Lib.hid (fun W (hW : Below w.heap.size w W) => r_when A c sf dtS W (HF.out W hW) hL dtS_le)
  unfold dtS at C1
  have hdt : (⟨#[68, 97, 116, 101]⟩ : ByteArray) = dtS := rfl
  have hD : datN sf st = if whnB sf dtS = true then whnV sf dtS else st := rfl
  rw [hdt] at C1
  generalize whnV sf dtS = V at *
  generalize whnB sf dtS = b at *
  unfold dtS at C1
  obtain ⟨R, hR⟩ : ∃ R, R = datN sf st := ⟨_, rfl⟩
  rw [← hR] at hD ⊢
  clear hR hdt h hL HF
  obtain ⟨q0, q1, q2, q3, q4, q5, q6⟩ := cel7 Z0.out
  cases b with
  | true =>
    rw [if_pos rfl] at hD
    subst hD
    go_enter Tryz.func97, Tryz.ntmps97
    go_wp2_with fail
    refine (C1.out _ HB.out).mono ?_
    rintro e w1 ⟨rfl, hb⟩
    go_wp2_with fail
    go_ret
    exact ⟨rfl, below_then HB.out hb⟩
  | false =>
    rw [if_neg (by simp)] at hD
    subst hD
    go_enter Tryz.func97, Tryz.ntmps97
    go_wp2_with fail
    refine (C1.out _ HB.out).mono ?_
    rintro e w1 ⟨rfl, hb⟩
    have q5' := cell_kept hb q5
    go_wp2_with fail
    go_ret
    exact ⟨rfl, below_then HB.out hb⟩

theorem tol_snoc (V : List (List UInt8)) (k : Nat) (h : k < V.length) (m : Int) : ((V.take (k + 1)).flatMap splO).foldl tolF m = (splO V[k]).foldl tolF (((V.take k).flatMap splO).foldl tolF m) := by
  rw [List.take_succ_eq_append_getElem h, List.flatMap_append, List.foldl_append]
  simp
theorem tol_at (E : List (List UInt8)) (j : Nat) (h : j < E.length) (m : Int) : (E.take (j + 1)).foldl tolF m = max ((E.take j).foldl tolF m) (secN E[j]) := by
  rw [List.take_succ_eq_append_getElem h, List.foldl_append]
  rfl

set_option maxHeartbeats 8000000 in
set_option maxRecDepth 100000 in
theorem r_told (s : Stor) (A : Option Addr) (c : Nat) (w : World) (h : SlF w A s.f.length c s.f) (hL : FwL s.f) :
    Calls Tryz.prog 95 #[.agg (srC s A c)] w fun e w' => e = .returned (.int .i64 (tolN s.f)) ∧ Below w.heap.size w w' := by
  obtain ⟨sc, sr, sv, sf, sb, st⟩ := s
  unfold srC
  simp only at *
  have HB : Hid (Below w.heap.size w (w.alloc (.cells #[.int .i64 sc, .string sr, .int .i64 sv, .slice A sf.length c, .string sb] 26))) := (Below.refl _ _).alloc (Nat.le_refl _) _
  have C1 := Lib.hid (fun W (hW : Below w.heap.size w W) => rf_all A sf.length c sf agS W (h.below hW) (by have := hL.n; omega) agS_le)
  obtain ⟨hVn, hVz⟩ := fwl_all hL agS
  have hT : tolN sf = ((fdAll sf agS).flatMap splO).foldl tolF 0 := rfl
  rw [hT]
  generalize fdAll sf agS = V at *
  unfold agS Vals at C1
  clear h hL hT
  go_enter Tryz.func95, Tryz.ntmps95
  go_wp2_with fail
  refine (C1.out _ HB.out).mono ?_
  rintro e w1 ⟨A0, c0, rfl, hS, _, hb⟩
  have HS := Lib.hid hS
  have HB := Lib.hid (below_then HB.out hb)
  clear hS hb C1
  go_wp2_with fail
  go_loopw [3, 5] (fun v i wr => ∃ (k : Nat) (m : Int), k ≤ V.length ∧ i = .int .i64 (k : Int) ∧ v = .int .i64 m ∧ (0 ≤ m ∧ m ≤ 2147483648) ∧ Hid (m = ((V.take k).flatMap splO).foldl tolF 0) ∧ Below w1.heap.size w1 wr) (fun _ i _ => V.length - (intOf i).toNat)
  case atStart => exact ⟨0, 0, Nat.zero_le _, rfl, rfl, by omega, rfl, Below.refl _ _⟩
  case round =>
    obtain ⟨k, m, hk, rfl, rfl, hm, hf, hbel⟩ := hrel
    by_cases hlt : k < V.length
    · obtain ⟨ad, rfl, hc⟩ := HS.out.at_ (by omega)
      have hcell := cell_kept hbel (hc k V[k] (List.getElem?_eq_getElem hlt))
      have hvz := hVz _ (List.getElem_mem hlt)
      have hsn := tol_snoc V k hlt 0
      rw [← hf.out] at hsn
      obtain ⟨hEn, hEz⟩ := spl_sz hvz
      have CS := Lib.hid (fun W => r_split_f (mkS V[k]) W (by rw [mkS_size]; omega))
      rw [mkS_list] at CS
      generalize splO V[k] = E at *
      generalize splE V[k] = se at *
      generalize mkS V[k] = ms at *
      have hi0 : (0 : Int) ≤ (k : Int) := by omega
      have hi1 : (k : Int) < (V.length : Int) := by omega
      have HSN := Lib.hid hsn
      have hs1 := hbel.size
      clear hc hvz hsn hf
      go_wp2_with fail
      refine (CS.out _).mono ?_
      rintro e w2 ⟨A2, c2, rfl, hS2, _, _, hb2⟩
      have HS2 := Lib.hid hS2
      have HB2 := Lib.hid (hbel.trans (hb2.mono hs1))
      clear hb2 hS2
      go_wp2_with fail
      go_loopw [3, 8] (fun v i wi => ∃ (j : Nat) (q : Int), j ≤ E.length ∧ i = .int .i64 (j : Int) ∧ v = .int .i64 q ∧ (0 ≤ q ∧ q ≤ 2147483648) ∧ Hid (q = (E.take j).foldl tolF m) ∧ w2 = wi) (fun _ i _ => E.length - (intOf i).toNat)
      case atStart => exact ⟨0, m, Nat.zero_le _, rfl, rfl, hm, rfl, rfl⟩
      case round =>
        obtain ⟨j, q, hj, rfl, rfl, hq, hfq, rfl⟩ := hrel
        by_cases hjl : j < E.length
        · obtain ⟨bd, rfl, hd⟩ := HS2.out.at_ (by omega)
          have hcell2 := hd j E[j] (List.getElem?_eq_getElem hjl)
          have hez := hEz _ (List.getElem_mem hjl)
          have hta := tol_at E j hjl m
          rw [← hfq.out] at hta
          have CE := Lib.hid (fun W => r_seconds (mkS E[j]) W (by rw [mkS_size]; unfold maxLen; omega))
          rw [mkS_list] at CE
          have hsb := sec_bd E[j]
          generalize mkS E[j] = me at *
          generalize secN E[j] = se2 at *
          generalize secB E[j] = sb2 at *
          have HTA := Lib.hid hta
          have hj0 : (0 : Int) ≤ (j : Int) := by omega
          have hj1 : (j : Int) < (E.length : Int) := by omega
          clear hd hez hta hfq
          go_wp2_with fail
          refine (CE.out _).mono ?_
          rintro e w3 ⟨rfl, rfl⟩
          go_wp2_with fail
          go_roundw
          case rel => exact ⟨j + 1, max q se2, by omega, by go_num, rfl, by omega, HTA.out.symm, trivial⟩
          case measure => simp [intOf]; omega
        · have hj1 : ¬ (j : Int) < (E.length : Int) := by omega
          have HT : Hid (q = E.foldl tolF m) := by
            have := hfq.out
            rwa [List.take_of_length_le (by omega)] at this
          clear hfq
          go_wp2_with fail
          go_roundw
          case rel => exact ⟨k + 1, q, by omega, by go_num, rfl, hq, by show _ = _; rw [HSN.out]; exact HT.out, HB2.out⟩
          case measure => simp [intOf]; omega
    · have HR : Hid ((V.flatMap splO).foldl tolF 0 = m) := by
        have := hf.out
        rw [List.take_of_length_le (by omega)] at this
        exact this.symm
      have hi1 : ¬ (k : Int) < (V.length : Int) := by omega
      clear hf
      go_wp2_with fail
      go_ret
      exact ⟨by rw [HR.out]; rfl, below_then HB.out hbel⟩

/-- What the functions of layer 17 answer, at any world above. -/
structure LifC (w : World) (s : Stor) (A : Option Addr) (c : Nat) (B : Option Addr) (n d : Nat) : Prop where
  f : SlF w A s.f.length c s.f
  l : FwL s.f

set_option maxHeartbeats 16000000 in
set_option maxRecDepth 100000 in
theorem r_life (s : Stor) (A : Option Addr) (c : Nat) (B : Option Addr) (n d : Nat) (w : World) (h : SlF w A s.f.length c s.f) (hL : FwL s.f) :
    Calls Tryz.prog 91 #[.agg (stC s A c B n d)] w fun e w' => e = .returned (.int .i64 (lifN s.f s.c s.t)) ∧ Below w.heap.size w w' := by
  have CD := Lib.hid (fun W (hW : Below w.heap.size w W) => r_dat s A c B n d W (h.below hW) hL)
  obtain ⟨sc, sr, sv, sf, sb, st⟩ := s
  unfold stC
  simp only at *
  have HF := Lib.hid (fun W (hW : Below w.heap.size w W) => h.below hW)
  have HB : Hid (Below w.heap.size w (w.alloc (.cells #[.int .i64 sc, .string sr, .int .i64 sv, .slice A sf.length c, .string sb, .int .i64 st, .slice B n d] 40))) := (Below.refl _ _).alloc (Nat.le_refl _) _
  have Z0 : Hid ((w.alloc (.cells #[.int .i64 sc, .string sr, .int .i64 sv, .slice A sf.length c, .string sb, .int .i64 st, .slice B n d] 40)).heap[w.heap.size]? = some (.cells #[.int .i64 sc, .string sr, .int .i64 sv, .slice A sf.length c, .string sb, .int .i64 st, .slice B n d] 40 (0, 0))) := heap_alloc_new w _
  have C1 := Lib.hid (fun W (hW : Below w.heap.size w W) => r_ctlParse A sf.length c sf W (HF.out W hW) hL.n hL.v)
  have C2 := Lib.hid (fun W (hW : Below w.heap.size w W) => rf_all A sf.length c sf exS W (HF.out W hW) (by have := hL.n; omega) exS_le)
  have C3 := Lib.hid (fun W (hW : Below w.heap.size w W) => r_when A c sf exS W (HF.out W hW) hL exS_le)
  have C4 := Lib.hid (fun W (hW : Below w.heap.size w W) => r_when A c sf lmS W (HF.out W hW) hL lmS_le)
  have C5 := Lib.hid (fun W => r_lusual sc W)
  have hD : lifN sf sc st = if 0 ≤ (ctP sf).sh then (ctP sf).sh else if 0 ≤ (ctP sf).ma then (ctP sf).ma
    else if 0 < (fdAll sf exS).length then (if whnB sf exS = true then aprN (whnV sf exS) (datN sf st) else 0)
    else if whnB sf lmS = true ∧ usuB sc = true then min (aprN (datN sf st) (whnV sf lmS) / 10) 86400 else 0 := rfl
  obtain ⟨R, hR⟩ : ∃ R, R = lifN sf sc st := ⟨_, rfl⟩
  rw [← hR] at hD ⊢
  generalize ctP sf = P at *
  obtain ⟨ns, nc, pv, pu, mc, oi, ma, sh, mf⟩ := P
  unfold ctC at C1
  unfold Vals at C2
  unfold stC at CD
  simp only at C1 hD CD
  generalize (fdAll sf exS) = EX at *
  generalize hv1 : whnV sf exS = v1 at *
  generalize hb1 : whnB sf exS = b1 at *
  generalize hv2 : whnV sf lmS = v2 at *
  generalize hb2 : whnB sf lmS = b2 at *
  generalize usuB sc = ub at *
  generalize datN sf st = dn at *
  have KA := Lib.hid (fun W => r_apr v1 dn W)
  have KB := Lib.hid (fun W => r_apr dn v2 W)
  obtain ⟨x0, x1⟩ := aprN_bd dn v2
  generalize aprN v1 dn = ap1 at *
  generalize aprN dn v2 = ap2 at *
  unfold exS at C2 C3
  unfold lmS at C4
  clear h hL HF hR hv1 hb1 hv2 hb2
  obtain ⟨q0, q1, q2, q3, q4, q5, q6⟩ := cel7 Z0.out
  go_enter Tryz.func91, Tryz.ntmps91
  go_wp2_with fail
  refine (C1.out _ HB.out).mono ?_
  rintro e w1 ⟨rfl, hb⟩
  have Z0 := Lib.hid (zero_more (o' := .cells #[.bool ns, .bool nc, .bool pv, .bool pu, .bool mc, .bool oi, .int .i64 ma, .int .i64 sh, .int .i64 mf] 44) (zero_still hb Z0.out))
  have hbb := below_then HB.out hb
  have HB := Lib.hid (hbb.alloc hbb.size (.cells #[.bool ns, .bool nc, .bool pv, .bool pu, .bool mc, .bool oi, .int .i64 ma, .int .i64 sh, .int .i64 mf] 44))
  clear hb hbb C1 q0 q1 q2 q3 q4 q5 q6
  obtain ⟨q0, q1, q2, q3, q4, q5, q6⟩ := cel7 Z0.out
  by_cases h1 : 0 ≤ sh
  · rw [if_pos h1] at hD
    subst hD
    clear C2 C3 C4 C5 CD KA KB
    go_wp2_with fail
    go_ret
    exact ⟨by trivial, HB.out⟩
  rw [if_neg h1] at hD
  by_cases h2 : 0 ≤ ma
  · rw [if_pos h2] at hD
    subst hD
    clear C2 C3 C4 C5 CD KA KB
    go_wp2_with fail
    go_ret
    exact ⟨by trivial, HB.out⟩
  rw [if_neg h2] at hD
  go_wp2_with fail
  refine (C2.out _ HB.out).mono ?_
  rintro e w2 ⟨A2, c2, rfl, _, _, hb⟩
  have Z0 := Lib.hid (zero_still hb Z0.out)
  have HB := Lib.hid (below_then HB.out hb)
  clear hb C2 q0 q1 q2 q3 q4 q5 q6
  obtain ⟨q0, q1, q2, q3, q4, q5, q6⟩ := cel7 Z0.out
  by_cases h3 : 0 < EX.length
  · rw [if_pos h3] at hD
    have h3' : (0 : Int) < (EX.length : Int) := by omega
    clear C4 C5 KB
    generalize EX.length = en at *
    go_wp2_with fail
    refine (C3.out _ HB.out).mono ?_
    rintro e w3 ⟨rfl, hb⟩
    have Z0 := Lib.hid (zero_still hb Z0.out)
    have HB := Lib.hid (below_then HB.out hb)
    clear hb C3 q0 q1 q2 q3 q4 q5 q6
    obtain ⟨q0, q1, q2, q3, q4, q5, q6⟩ := cel7 Z0.out
    cases b1 with
    | false =>
      rw [if_neg (by simp)] at hD
      subst hD
      go_wp2_with fail
      go_ret
      exact ⟨by trivial, HB.out⟩
    | true =>
      rw [if_pos rfl] at hD
      subst hD
      go_wp2_with fail
      refine (CD.out _ HB.out).mono ?_
      rintro e w4 ⟨rfl, hb⟩
      go_wp2_with fail
      refine (KA.out _).mono ?_
      rintro e w5 ⟨rfl, rfl⟩
      go_wp2_with fail
      go_ret
      exact ⟨rfl, below_then HB.out hb⟩
  rw [if_neg h3] at hD
  have h3' : ¬ (0 : Int) < (EX.length : Int) := by omega
  generalize EX.length = en at *
  clear C3 KA
  go_wp2_with fail
  refine (C4.out _ HB.out).mono ?_
  rintro e w3 ⟨rfl, hb⟩
  have Z0 := Lib.hid (zero_still hb Z0.out)
  have HB := Lib.hid (below_then HB.out hb)
  clear hb C4 q0 q1 q2 q3 q4 q5 q6
  obtain ⟨q0, q1, q2, q3, q4, q5, q6⟩ := cel7 Z0.out
  cases b2 with
  | false =>
    rw [if_neg (by simp)] at hD
    subst hD
    go_wp2_with fail
    go_ret
    exact ⟨by trivial, HB.out⟩
  | true =>
    go_wp2_with fail
    refine (C5.out _).mono ?_
    rintro e w4 ⟨rfl, hb⟩
    have Z0 := Lib.hid (zero_still hb Z0.out)
    have HB := Lib.hid (below_then HB.out hb)
    clear hb C5 q0 q1 q2 q3 q4 q5 q6
    obtain ⟨q0, q1, q2, q3, q4, q5, q6⟩ := cel7 Z0.out
    cases ub with
    | false =>
      rw [if_neg (by simp)] at hD
      subst hD
      go_wp2_with fail
      go_ret
      exact ⟨by trivial, HB.out⟩
    | true =>
      rw [if_pos (by simp)] at hD
      have HD := Lib.hid hD
      have hw : IntKind.i64.wrap (ap2.tdiv 10) = ap2 / 10 := by rw [IntKind.wrap_i64, Int.tdiv_eq_ediv_of_nonneg x0]; omega
      clear hD
      go_wp2_with fail
      refine (CD.out _ HB.out).mono ?_
      rintro e w5 ⟨rfl, hb⟩
      go_wp2_with fail
      refine (KB.out _).mono ?_
      rintro e w6 ⟨rfl, rfl⟩
      go_wp2_with fail
      go_ret
      exact ⟨by rw [HD.out]; rfl, below_then HB.out hb⟩

set_option maxHeartbeats 8000000 in
set_option maxRecDepth 100000 in
theorem r_age (s : Stor) (A : Option Addr) (c : Nat) (B : Option Addr) (n d : Nat) (now : Int) (w : World) (h : SlF w A s.f.length c s.f) (hL : FwL s.f) :
    Calls Tryz.prog 60 #[.agg (stC s A c B n d), .int .i64 now] w fun e w' => e = .returned (.int .i64 (ageN s.f s.t now)) ∧ Below w.heap.size w w' := by
  have CD := Lib.hid (fun W (hW : Below w.heap.size w W) => r_dat s A c B n d W (h.below hW) hL)
  have CT := Lib.hid (fun W (hW : Below w.heap.size w W) => r_told s A c W (h.below hW) hL)
  obtain ⟨sc, sr, sv, sf, sb, st⟩ := s
  unfold stC
  simp only at *
  have HF := Lib.hid (fun W (hW : Below w.heap.size w W) => h.below hW)
  have HB : Hid (Below w.heap.size w (w.alloc (.cells #[.int .i64 sc, .string sr, .int .i64 sv, .slice A sf.length c, .string sb, .int .i64 st, .slice B n d] 40))) := (Below.refl _ _).alloc (Nat.le_refl _) _
  have Z0 : Hid ((w.alloc (.cells #[.int .i64 sc, .string sr, .int .i64 sv, .slice A sf.length c, .string sb, .int .i64 st, .slice B n d] 40)).heap[w.heap.size]? = some (.cells #[.int .i64 sc, .string sr, .int .i64 sv, .slice A sf.length c, .string sb, .int .i64 st, .slice B n d] 40 (0, 0))) := heap_alloc_new w _
  unfold stC at CD
  unfold srC at CT
  have hD : ageN sf st now = addI (max (tolN sf) (aprN st (datN sf st))) (aprN now st) := rfl
  simp only at CD CT
  generalize ageN sf st now = R at *
  generalize datN sf st = dn at *
  have K1 := Lib.hid (fun W => r_apr st dn W)
  have K2 := Lib.hid (fun W => r_apr now st W)
  generalize aprN st dn = a1 at *
  generalize aprN now st = a2 at *
  generalize tolN sf = tl at *
  have K3 := Lib.hid (fun W => r_add (max tl a1) a2 W)
  rw [← hD] at K3
  have HB := Lib.hid HB.out.drew
  have Z0 : Hid ((w.alloc (.cells #[.int .i64 sc, .string sr, .int .i64 sv, .slice A sf.length c, .string sb, .int .i64 st, .slice B n d] 40)).drew.heap[w.heap.size]? = some (.cells #[.int .i64 sc, .string sr, .int .i64 sv, .slice A sf.length c, .string sb, .int .i64 st, .slice B n d] 40 (0, 0))) := Z0.out
  clear h hL HF hD
  go_enter Tryz.func60, Tryz.ntmps60
  go_wp2_with fail
  go_region_held3 (fun W => W.cell? ⟨w.heap.size, 0, none⟩ = some (.int .i64 sc) ∧ W.cell? ⟨w.heap.size, 1, none⟩ = some (.string sr) ∧ W.cell? ⟨w.heap.size, 2, none⟩ = some (.int .i64 sv) ∧ W.cell? ⟨w.heap.size, 3, none⟩ = some (.slice A sf.length c) ∧ W.cell? ⟨w.heap.size, 4, none⟩ = some (.string sb) ∧ W.cell? ⟨w.heap.size, 5, none⟩ = some (.int .i64 st) ∧ W.cell? ⟨w.heap.size, 6, none⟩ = some (.slice B n d)) (exact cel7 Z0.out) (first
    | (go_at_call 95; refine (CT.out _ HB.out).mono ?_; rintro e w5 ⟨rfl, hb⟩; have Z0 := Lib.hid (zero_still hb Z0.out); have HB := Lib.hid (below_then HB.out hb); clear hb)
    | (go_at_call 97; refine (CD.out _ HB.out).mono ?_; rintro e w5 ⟨rfl, hb⟩; have Z0 := Lib.hid (zero_still hb Z0.out); have HB := Lib.hid (below_then HB.out hb); clear hb)
    | (go_at_call 96; with_reducible refine (K1.out _).mono ?_; rintro e w5 ⟨rfl, rfl⟩; skip)
    | (go_at_call 96; with_reducible refine (K2.out _).mono ?_; rintro e w5 ⟨rfl, rfl⟩; skip)
    | (go_at_call 94; refine (K3.out _).mono ?_; rintro e w5 ⟨rfl, rfl⟩; skip))
  all_goals
    go_wp2_with fail
    go_ret
    exact ⟨rfl, HB.out⟩

set_option maxHeartbeats 8000000 in
set_option maxRecDepth 100000 in
theorem r_fresh (s : Stor) (A : Option Addr) (c : Nat) (B : Option Addr) (n d : Nat) (now : Int) (w : World) (h : SlF w A s.f.length c s.f) (hL : FwL s.f) :
    Calls Tryz.prog 50 #[.agg (stC s A c B n d), .int .i64 now] w fun e w' => e = .returned (.bool (frsB s.f s.c s.t now)) ∧ Below w.heap.size w w' := by
  have CD := Lib.hid (fun W (hW : Below w.heap.size w W) => r_life s A c B n d W (h.below hW) hL)
  have CT := Lib.hid (fun W (hW : Below w.heap.size w W) => r_age s A c B n d now W (h.below hW) hL)
  obtain ⟨sc, sr, sv, sf, sb, st⟩ := s
  unfold stC
  simp only at *
  have HF := Lib.hid (fun W (hW : Below w.heap.size w W) => h.below hW)
  have HB : Hid (Below w.heap.size w (w.alloc (.cells #[.int .i64 sc, .string sr, .int .i64 sv, .slice A sf.length c, .string sb, .int .i64 st, .slice B n d] 40))) := (Below.refl _ _).alloc (Nat.le_refl _) _
  have Z0 : Hid ((w.alloc (.cells #[.int .i64 sc, .string sr, .int .i64 sv, .slice A sf.length c, .string sb, .int .i64 st, .slice B n d] 40)).heap[w.heap.size]? = some (.cells #[.int .i64 sc, .string sr, .int .i64 sv, .slice A sf.length c, .string sb, .int .i64 st, .slice B n d] 40 (0, 0))) := heap_alloc_new w _
  unfold stC at CD CT
  have hD : frsB sf sc st now = decide (ageN sf st now < lifN sf sc st) := rfl
  simp only at CD CT
  generalize frsB sf sc st now = R at *
  generalize ageN sf st now = ag at *
  generalize lifN sf sc st = lf at *
  have HD := Lib.hid hD
  have HB := Lib.hid HB.out.drew
  have Z0 : Hid ((w.alloc (.cells #[.int .i64 sc, .string sr, .int .i64 sv, .slice A sf.length c, .string sb, .int .i64 st, .slice B n d] 40)).drew.heap[w.heap.size]? = some (.cells #[.int .i64 sc, .string sr, .int .i64 sv, .slice A sf.length c, .string sb, .int .i64 st, .slice B n d] 40 (0, 0))) := Z0.out
  clear h hL HF hD
  go_enter Tryz.func50, Tryz.ntmps50
  go_wp2_with fail
  go_region_held3 (fun W => W.cell? ⟨w.heap.size, 0, none⟩ = some (.int .i64 sc) ∧ W.cell? ⟨w.heap.size, 1, none⟩ = some (.string sr) ∧ W.cell? ⟨w.heap.size, 2, none⟩ = some (.int .i64 sv) ∧ W.cell? ⟨w.heap.size, 3, none⟩ = some (.slice A sf.length c) ∧ W.cell? ⟨w.heap.size, 4, none⟩ = some (.string sb) ∧ W.cell? ⟨w.heap.size, 5, none⟩ = some (.int .i64 st) ∧ W.cell? ⟨w.heap.size, 6, none⟩ = some (.slice B n d)) (exact cel7 Z0.out) (first
    | (go_at_call 91; refine (CD.out _ HB.out).mono ?_; rintro e w5 ⟨rfl, hb⟩; have Z0 := Lib.hid (zero_still hb Z0.out); have HB := Lib.hid (below_then HB.out hb); clear hb)
    | (go_at_call 60; refine (CT.out _ HB.out).mono ?_; rintro e w5 ⟨rfl, hb⟩; have Z0 := Lib.hid (zero_still hb Z0.out); have HB := Lib.hid (below_then HB.out hb); clear hb))
  go_wp2_with fail
  go_ret
  exact ⟨by rw [HD.out]; rfl, HB.out⟩

set_option maxHeartbeats 8000000 in
set_option maxRecDepth 100000 in
theorem r_left (s : Stor) (A : Option Addr) (c : Nat) (B : Option Addr) (n d : Nat) (now : Int) (w : World) (h : SlF w A s.f.length c s.f) (hL : FwL s.f) :
    Calls Tryz.prog 61 #[.agg (stC s A c B n d), .int .i64 now] w fun e w' => e = .returned (.int .i64 (lefN s.f s.c s.t now)) ∧ Below w.heap.size w w' := by
  have CD := Lib.hid (fun W (hW : Below w.heap.size w W) => r_life s A c B n d W (h.below hW) hL)
  have CT := Lib.hid (fun W (hW : Below w.heap.size w W) => r_age s A c B n d now W (h.below hW) hL)
  obtain ⟨sc, sr, sv, sf, sb, st⟩ := s
  unfold stC
  simp only at *
  have HF := Lib.hid (fun W (hW : Below w.heap.size w W) => h.below hW)
  have HB : Hid (Below w.heap.size w (w.alloc (.cells #[.int .i64 sc, .string sr, .int .i64 sv, .slice A sf.length c, .string sb, .int .i64 st, .slice B n d] 40))) := (Below.refl _ _).alloc (Nat.le_refl _) _
  have Z0 : Hid ((w.alloc (.cells #[.int .i64 sc, .string sr, .int .i64 sv, .slice A sf.length c, .string sb, .int .i64 st, .slice B n d] 40)).heap[w.heap.size]? = some (.cells #[.int .i64 sc, .string sr, .int .i64 sv, .slice A sf.length c, .string sb, .int .i64 st, .slice B n d] 40 (0, 0))) := heap_alloc_new w _
  unfold stC at CD CT
  have hD : lefN sf sc st now = lessI (lifN sf sc st) (ageN sf st now) := rfl
  simp only at CD CT
  generalize lefN sf sc st now = R at *
  generalize ageN sf st now = ag at *
  generalize lifN sf sc st = lf at *
  have K3 := Lib.hid (fun W => r_less lf ag W)
  rw [← hD] at K3
  have HB := Lib.hid HB.out.drew
  have Z0 : Hid ((w.alloc (.cells #[.int .i64 sc, .string sr, .int .i64 sv, .slice A sf.length c, .string sb, .int .i64 st, .slice B n d] 40)).drew.heap[w.heap.size]? = some (.cells #[.int .i64 sc, .string sr, .int .i64 sv, .slice A sf.length c, .string sb, .int .i64 st, .slice B n d] 40 (0, 0))) := Z0.out
  clear h hL HF hD
  go_enter Tryz.func61, Tryz.ntmps61
  go_wp2_with fail
  go_region_held3 (fun W => W.cell? ⟨w.heap.size, 0, none⟩ = some (.int .i64 sc) ∧ W.cell? ⟨w.heap.size, 1, none⟩ = some (.string sr) ∧ W.cell? ⟨w.heap.size, 2, none⟩ = some (.int .i64 sv) ∧ W.cell? ⟨w.heap.size, 3, none⟩ = some (.slice A sf.length c) ∧ W.cell? ⟨w.heap.size, 4, none⟩ = some (.string sb) ∧ W.cell? ⟨w.heap.size, 5, none⟩ = some (.int .i64 st) ∧ W.cell? ⟨w.heap.size, 6, none⟩ = some (.slice B n d)) (exact cel7 Z0.out) (first
    | (go_at_call 91; refine (CD.out _ HB.out).mono ?_; rintro e w5 ⟨rfl, hb⟩; have Z0 := Lib.hid (zero_still hb Z0.out); have HB := Lib.hid (below_then HB.out hb); clear hb)
    | (go_at_call 60; refine (CT.out _ HB.out).mono ?_; rintro e w5 ⟨rfl, hb⟩; have Z0 := Lib.hid (zero_still hb Z0.out); have HB := Lib.hid (below_then HB.out hb); clear hb)
    | (go_at_call 98; refine (K3.out _).mono ?_; rintro e w5 ⟨rfl, rfl⟩; skip))
  go_wp2_with fail
  go_ret
  exact ⟨rfl, HB.out⟩

end Go.Proofs.YtnembpklidcgoaaGreatDoor
end

/-
  Contracts of the reference's has, Tag, Validator, Passes, Invalidates (layer 18).
-/
section
namespace Go.Proofs.YtnembpklidcgoaaGreatDoor
open Go.RowKit
set_option linter.unusedSimpArgs false

theorem reu_le : etS.size ≤ maxLen ∧ rgS.size ≤ maxLen ∧ irS.size ≤ maxLen ∧ imS.size ≤ maxLen ∧ iuS.size ≤ maxLen ∧ auS.size ≤ maxLen := by decide
theorem cel5r {W : World} {g t : Nat} {c0 c1 c2 c3 c4 : Value} (h : W.heap[g]? = some (.cells #[c0, c1, c2, c3, c4] t (0, 0))) :
    W.cell? ⟨g, 0, none⟩ = some c0 ∧ W.cell? ⟨g, 1, none⟩ = some c1 ∧ W.cell? ⟨g, 2, none⟩ = some c2 ∧ W.cell? ⟨g, 3, none⟩ = some c3 ∧ W.cell? ⟨g, 4, none⟩ = some c4 := by
  refine ⟨?_, ?_, ?_, ?_, ?_⟩ <;> (rw [cell_of_row W g _ _ _ _ h]; rfl)

theorem r_rhas (A : Option Addr) (n c : Nat) (L : List Fd) (name : ByteArray) (w : World) (h : SlF w A n c L) (hn : n ≤ 100000000) (hz : name.size ≤ maxLen) :
    Calls Tryz.prog 47 #[.slice A n c, .string name] w fun e w' => e = .returned (.bool (fdGot L name)) ∧ Below w.heap.size w w' := by
  have C1 := Lib.hid (rf_all A n c L name w h hn hz)
  rw [got_len]
  generalize fdAll L name = X at *
  unfold Vals at C1
  clear h
  go_enter Tryz.func47, Tryz.ntmps47
  go_wp2_with fail
  refine C1.out.mono ?_
  rintro e w1 ⟨A1, c1, rfl, _, _, hb1⟩
  by_cases h0 : (0 : Int) < (X.length : Int)
  all_goals
    go_wp2_with fail
    go_ret
    exact ⟨by simp_all, hb1⟩

set_option maxHeartbeats 4000000 in
set_option maxRecDepth 100000 in
theorem r_rtag (r : Rply) (A : Option Addr) (c : Nat) (w : World) (h : SlF w A r.f.length c r.f) (hL : FwL r.f) :
    Calls Tryz.prog 11 #[.agg (rpC r A c)] w fun e w' => e = .returned (.tuple #[tgV (rtO r.f), .bool (rtB r.f)]) ∧ Below w.heap.size w w' := by
  obtain ⟨pc, pr, pv, f, pb⟩ := r
  unfold rpC
  simp only at *
  have C1 := Lib.hid (fun W (hW : Below w.heap.size w W) => rf_all A f.length c f etS W (h.below hW) (by have := hL.n; omega) reu_le.1)
  have hvz := (fwl_all hL etS).2
  have hV : rtO f = if (fdAll f etS).length = 1 then tgO (mkS ((fdAll f etS).headD [])) else (false, ⟨#[]⟩) := rfl
  have hB : rtB f = if (fdAll f etS).length = 1 then tgB (mkS ((fdAll f etS).headD [])) else false := rfl
  generalize rtO f = V at *
  generalize rtB f = bb at *
  generalize fdAll f etS = X at *
  unfold Vals etS at C1
  have HB : Hid (Below w.heap.size w ((w.alloc (.cells #[.int .i64 pc, .string pr, .int .i64 pv, .slice A f.length c, .string pb] 26)).alloc (.cells #[.bool false, .string ⟨#[]⟩] 31))) := ((Below.refl _ _).alloc (Nat.le_refl _) _).alloc (by simp) _
  have ZP : Hid (((w.alloc (.cells #[.int .i64 pc, .string pr, .int .i64 pv, .slice A f.length c, .string pb] 26)).alloc (.cells #[.bool false, .string ⟨#[]⟩] 31)).heap[w.heap.size]? = some (.cells #[.int .i64 pc, .string pr, .int .i64 pv, .slice A f.length c, .string pb] 26 (0, 0))) := zero_more (heap_alloc_new w _)
  have zt := heap_alloc_new (w.alloc (.cells #[.int .i64 pc, .string pr, .int .i64 pv, .slice A f.length c, .string pb] 26)) (.cells #[.bool false, .string ⟨#[]⟩] 31)
  rw [show (w.alloc (.cells #[.int .i64 pc, .string pr, .int .i64 pv, .slice A f.length c, .string pb] 26)).heap.size = w.heap.size + 1 by simp] at zt
  have ZT := Lib.hid zt
  obtain ⟨q0, q1, q2, q3, q4⟩ := cel5r ZP.out
  clear h zt
  by_cases h1 : X.length = 1
  · rw [if_pos h1] at hV hB
    obtain ⟨x, rfl⟩ : ∃ x, X = [x] := by
      match X, h1 with
      | [x], _ => exact ⟨x, rfl⟩
    replace hV : V = tgO (mkS x) := hV
    replace hB : bb = tgB (mkS x) := hB
    have hxz := hvz x (List.mem_singleton.2 rfl)
    have CP := Lib.hid (fun W => r_etParse (mkS x) W (by rw [mkS_size]; omega))
    rw [← hV, ← hB] at CP
    obtain ⟨xs, hxs⟩ : ∃ xs, xs = mkS x := ⟨_, rfl⟩
    rw [← hxs] at CP
    have HX := Lib.hid hxs
    obtain ⟨va, vb⟩ := V
    unfold tgV at *
    clear hV hB hvz hxs hxz
    simp only [List.length_singleton] at C1
    go_enter Tryz.func11, Tryz.ntmps11
    go_wp2_with fail
    refine (C1.out _ HB.out).mono ?_
    rintro e w1 ⟨A1, c1, rfl, hS, _, hb⟩
    obtain ⟨ad, rfl, hc⟩ := hS.at_ (by omega)
    have hcell := hc 0 x rfl
    rw [Addr.add_zero', ← HX.out] at hcell
    have ZT := Lib.hid (zero_still hb ZT.out)
    have HB := Lib.hid (below_then HB.out hb)
    clear hS hc hb C1 q0 q1 q2 q3 q4
    go_wp2_with fail
    refine (CP.out _).mono ?_
    rintro e w2 ⟨rfl, hb⟩
    have ZT := Lib.hid (zero_still hb ZT.out)
    have HB := Lib.hid (below_then HB.out hb)
    clear hb
    go_wp2_with (refine wpList_store_row rfl _ _ _ rfl (w.heap.size + 1) #[.bool va, .string vb] rfl rfl 31 _ ZT.out (by kernel_rfl) rfl (by simp [Value.oneCell']) ?_)
    refine bodyPost_ret (results_cell_row_tmp rfl _ _ (w.heap.size + 1) 31 #[.bool va, .string vb] (0, 0) _ rfl (setRow_heap _ _ _ _ _ _ ZT.out) Tryz.underlying31 rfl (by kernel_rfl)) rfl ?_
    exact ⟨rfl, below_setRow HB.out (by omega) _⟩
  · rw [if_neg h1] at hV hB
    subst hV hB
    have h1' : ¬ (X.length : Int) = 1 := by omega
    generalize X.length = n at *
    unfold tgV
    clear h1 hvz
    go_enter Tryz.func11, Tryz.ntmps11
    go_wp2_with fail
    refine (C1.out _ HB.out).mono ?_
    rintro e w1 ⟨A1, c1, rfl, _, _, hb⟩
    have ZT := Lib.hid (zero_still hb ZT.out)
    have HB := Lib.hid (below_then HB.out hb)
    clear hb q0 q1 q2 q3 q4
    go_wp2_with (refine wpList_store_row rfl _ _ _ rfl (w.heap.size + 1) #[.bool false, .string ⟨#[]⟩] rfl rfl 31 _ ZT.out (by kernel_rfl) rfl (by simp [Value.oneCell']) ?_)
    refine bodyPost_ret (results_cell_row_tmp rfl _ _ (w.heap.size + 1) 31 #[.bool false, .string ⟨#[]⟩] (0, 0) _ rfl (setRow_heap _ _ _ _ _ _ ZT.out) Tryz.underlying31 rfl (by kernel_rfl)) rfl ?_
    exact ⟨rfl, below_setRow HB.out (by omega) _⟩

set_option maxHeartbeats 4000000 in
set_option maxRecDepth 100000 in
theorem r_rval (r : Rply) (A : Option Addr) (c : Nat) (w : World) (h : SlF w A r.f.length c r.f) (hL : FwL r.f) :
    Calls Tryz.prog 17 #[.agg (rpC r A c)] w fun e w' => e = .returned (.bool (valB r.f)) ∧ Below w.heap.size w w' := by
  have C1 := Lib.hid (fun W (hW : Below w.heap.size w W) => r_rtag r A c W (h.below hW) hL)
  have C2 := Lib.hid (fun W (hW : Below w.heap.size w W) => r_when A c r.f lmS W (h.below hW) hL lmS_le)
  have hD : valB r.f = (rtB r.f || whnB r.f lmS) := rfl
  rw [hD]
  obtain ⟨pc, pr, pv, f, pb⟩ := r
  unfold rpC at *
  simp only at *
  generalize rtB f = b1 at *
  generalize whnB f lmS = b2 at *
  generalize rtO f = t1 at *
  generalize whnV f lmS = t2 at *
  obtain ⟨ta, tb⟩ := t1
  unfold tgV at C1
  unfold lmS at C2
  have HB : Hid (Below w.heap.size w (w.alloc (.cells #[.int .i64 pc, .string pr, .int .i64 pv, .slice A f.length c, .string pb] 26))) := (Below.refl _ _).alloc (Nat.le_refl _) _
  have ZP : Hid ((w.alloc (.cells #[.int .i64 pc, .string pr, .int .i64 pv, .slice A f.length c, .string pb] 26)).heap[w.heap.size]? = some (.cells #[.int .i64 pc, .string pr, .int .i64 pv, .slice A f.length c, .string pb] 26 (0, 0))) := heap_alloc_new w _
  obtain ⟨q0, q1, q2, q3, q4⟩ := cel5r ZP.out
  clear h hL hD
  go_enter Tryz.func17, Tryz.ntmps17
  go_wp2_with fail
  refine (C1.out _ HB.out).mono ?_
  rintro e w1 ⟨rfl, hb⟩
  have ZP := Lib.hid (zero_more (o' := .cells #[.bool ta, .string tb] 31) (zero_still hb ZP.out))
  have hbb := below_then HB.out hb
  have HB := Lib.hid (hbb.alloc hbb.size (.cells #[.bool ta, .string tb] 31))
  clear hb hbb q0 q1 q2 q3 q4
  obtain ⟨q0, q1, q2, q3, q4⟩ := cel5r ZP.out
  go_wp2_with fail
  refine (C2.out _ HB.out).mono ?_
  rintro e w2 ⟨rfl, hb⟩
  have HB := Lib.hid (below_then HB.out hb)
  clear hb q0 q1 q2 q3 q4
  cases b1
  all_goals
    go_wp2_with fail
    go_ret
    exact ⟨rfl, HB.out⟩

set_option maxHeartbeats 4000000 in
set_option maxRecDepth 100000 in
theorem r_rpas (r : Rqst) (A : Option Addr) (c : Nat) (w : World) (h : SlF w A r.f.length c r.f) (hn : r.f.length ≤ 1000) :
    Calls Tryz.prog 15 #[.agg (rqC r A c)] w fun e w' => e = .returned (.bool (pasB r.f)) ∧ Below w.heap.size w w' := by
  have C0 := Lib.hid (fun W (hW : Below w.heap.size w W) => r_rhas A r.f.length c r.f rgS W (h.below hW) (by omega) reu_le.2.1)
  have C1 := Lib.hid (fun W (hW : Below w.heap.size w W) => r_rhas A r.f.length c r.f irS W (h.below hW) (by omega) reu_le.2.2.1)
  have C2 := Lib.hid (fun W (hW : Below w.heap.size w W) => r_rhas A r.f.length c r.f imS W (h.below hW) (by omega) reu_le.2.2.2.1)
  have C3 := Lib.hid (fun W (hW : Below w.heap.size w W) => r_rhas A r.f.length c r.f iuS W (h.below hW) (by omega) reu_le.2.2.2.2.1)
  have hD : pasB r.f = (fdGot r.f rgS || (fdGot r.f irS || (fdGot r.f imS || fdGot r.f iuS))) := rfl
  rw [hD]
  obtain ⟨m, t, v, f, b⟩ := r
  unfold rqC at *
  simp only at *
  generalize fdGot f rgS = b0 at *
  unfold rgS at C0
  generalize fdGot f irS = b1 at *
  unfold irS at C1
  generalize fdGot f imS = b2 at *
  unfold imS at C2
  generalize fdGot f iuS = b3 at *
  unfold iuS at C3
  have HB : Hid (Below w.heap.size w (w.alloc (.cells #[.string m, .string t, .int .i64 v, .slice A f.length c, .string b] 24))) := (Below.refl _ _).alloc (Nat.le_refl _) _
  have ZQ : Hid ((w.alloc (.cells #[.string m, .string t, .int .i64 v, .slice A f.length c, .string b] 24)).heap[w.heap.size]? = some (.cells #[.string m, .string t, .int .i64 v, .slice A f.length c, .string b] 24 (0, 0))) := heap_alloc_new w _
  obtain ⟨q0, q1, q2, q3, q4⟩ := cel5r ZQ.out
  clear h hD
  go_enter Tryz.func15, Tryz.ntmps15
  go_wp2_with fail
  refine (C0.out _ HB.out).mono ?_
  rintro e w1 ⟨rfl, hb⟩
  have ZQ := Lib.hid (zero_still hb ZQ.out)
  have HB := Lib.hid (below_then HB.out hb)
  clear hb q0 q1 q2 q3 q4
  obtain ⟨q0, q1, q2, q3, q4⟩ := cel5r ZQ.out
  cases b0 with
  | true =>
    go_wp2_with fail
    go_ret
    exact ⟨rfl, HB.out⟩
  | false =>
    go_wp2_with fail
    refine (C1.out _ HB.out).mono ?_
    rintro e w2 ⟨rfl, hb⟩
    have ZQ := Lib.hid (zero_still hb ZQ.out)
    have HB := Lib.hid (below_then HB.out hb)
    clear hb q0 q1 q2 q3 q4
    obtain ⟨q0, q1, q2, q3, q4⟩ := cel5r ZQ.out
    cases b1 with
    | true =>
      go_wp2_with fail
      go_ret
      exact ⟨rfl, HB.out⟩
    | false =>
      go_wp2_with fail
      refine (C2.out _ HB.out).mono ?_
      rintro e w3 ⟨rfl, hb⟩
      have ZQ := Lib.hid (zero_still hb ZQ.out)
      have HB := Lib.hid (below_then HB.out hb)
      clear hb q0 q1 q2 q3 q4
      obtain ⟨q0, q1, q2, q3, q4⟩ := cel5r ZQ.out
      cases b2 with
      | true =>
        go_wp2_with fail
        go_ret
        exact ⟨rfl, HB.out⟩
      | false =>
        go_wp2_with fail
        refine (C3.out _ HB.out).mono ?_
        rintro e w4 ⟨rfl, hb⟩
        have ZQ := Lib.hid (zero_still hb ZQ.out)
        have HB := Lib.hid (below_then HB.out hb)
        clear hb q0 q1 q2 q3 q4
        obtain ⟨q0, q1, q2, q3, q4⟩ := cel5r ZQ.out
        go_wp2_with fail
        go_ret
        exact ⟨rfl, HB.out⟩

set_option maxHeartbeats 4000000 in
set_option maxRecDepth 100000 in
theorem r_rinv (r : Rqst) (A : Option Addr) (c : Nat) (p : Rply) (B : Option Addr) (d : Nat) (w : World) :
    Calls Tryz.prog 19 #[.agg (rqC r A c), .agg (rpC p B d)] w fun e w' => e = .returned (.bool (invB r.m p.c)) ∧ Below w.heap.size w w' := by
  obtain ⟨m, t, v, f, b⟩ := r
  obtain ⟨pc, pr, pv, g, pb⟩ := p
  unfold rqC rpC
  simp only at *
  have C1 := Lib.hid (fun W => r_safe m W)
  have hD : invB m pc = (!safeB m && (decide (200 ≤ pc) && decide (pc ≤ 399))) := rfl
  rw [hD]
  generalize safeB m = s at *
  have HB : Hid (Below w.heap.size w ((w.alloc (.cells #[.string m, .string t, .int .i64 v, .slice A f.length c, .string b] 24)).alloc (.cells #[.int .i64 pc, .string pr, .int .i64 pv, .slice B g.length d, .string pb] 26))) := ((Below.refl _ _).alloc (Nat.le_refl _) _).alloc (by simp) _
  have ZQ : Hid (((w.alloc (.cells #[.string m, .string t, .int .i64 v, .slice A f.length c, .string b] 24)).alloc (.cells #[.int .i64 pc, .string pr, .int .i64 pv, .slice B g.length d, .string pb] 26)).heap[w.heap.size]? = some (.cells #[.string m, .string t, .int .i64 v, .slice A f.length c, .string b] 24 (0, 0))) := zero_more (heap_alloc_new w _)
  have zt := heap_alloc_new (w.alloc (.cells #[.string m, .string t, .int .i64 v, .slice A f.length c, .string b] 24)) (.cells #[.int .i64 pc, .string pr, .int .i64 pv, .slice B g.length d, .string pb] 26)
  rw [show (w.alloc (.cells #[.string m, .string t, .int .i64 v, .slice A f.length c, .string b] 24)).heap.size = w.heap.size + 1 by simp] at zt
  obtain ⟨q0, q1, q2, q3, q4⟩ := cel5r ZQ.out
  obtain ⟨p0, p1, p2, p3, p4⟩ := cel5r zt
  clear zt hD
  cases s with
  | true =>
    go_enter Tryz.func19, Tryz.ntmps19
    go_wp2_with fail
    refine (C1.out _).mono ?_
    rintro e w1 ⟨rfl, rfl⟩
    go_wp2_with fail
    go_ret
    exact ⟨rfl, HB.out⟩
  | false =>
    by_cases h1 : (200 : Int) ≤ pc
    · rw [decide_eq_true h1]
      go_enter Tryz.func19, Tryz.ntmps19
      go_wp2_with fail
      refine (C1.out _).mono ?_
      rintro e w1 ⟨rfl, rfl⟩
      go_wp2_with fail
      go_ret
      exact ⟨rfl, HB.out⟩
    · rw [decide_eq_false h1]
      go_enter Tryz.func19, Tryz.ntmps19
      go_wp2_with fail
      refine (C1.out _).mono ?_
      rintro e w1 ⟨rfl, rfl⟩
      go_wp2_with fail
      go_ret
      exact ⟨rfl, HB.out⟩

end Go.Proofs.YtnembpklidcgoaaGreatDoor
end
