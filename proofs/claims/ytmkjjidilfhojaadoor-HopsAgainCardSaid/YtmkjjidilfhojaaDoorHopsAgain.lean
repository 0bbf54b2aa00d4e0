/-
  The law HopsAgain (depotlaw16) returns true for every list of fields and leaves what it was given as it was. No condition but that the table of names holds what the program lays.
-/
import Derived.Test.YtmkjjidilfhojaaDoorRows
import Derived.WalkKit
import Derived.ProofKit
import Derived.OpenShut
import Derived.ShutString
import Derived.ChangeOld
import Derived.Below
import Derived.Test.YtmkjjidilfhojaaDoorMrgA
import Derived.Test.YtmkjjidilfhojaaDoorMrgB
import Derived.Test.YtmkjjidilfhojaaDoorMrgC
import Derived.Test.YtmkjjidilfhojaaDoorMrgD
import Derived.Test.YtmkjjidilfhojaaDoorMrgE
import Derived.Test.YtmkjjidilfhojaaDoorMrgF
import Derived.Test.YtmkjjidilfhojaaDoorMrgG
import Derived.Test.YtmkjjidilfhojaaDoorMrgH
import Derived.Test.YtmkjjidilfhojaaDoorMrgI
import Derived.Test.YtmkjjidilfhojaaDoorMrgJ
import Derived.Test.YtmkjjidilfhojaaDoorMrgK
import Derived.Test.YtmkjjidilfhojaaDoorMrgL
import Derived.Test.YtmkjjidilfhojaaDoorMrgM
import Derived.Test.YtmkjjidilfhojaaDoorMrgN
import Derived.Test.YtmkjjidilfhojaaDoorMrgO
import Derived.Test.YtmkjjidilfhojaaDoorMrgP
import Derived.Test.YtmkjjidilfhojaaDoorMrgQ
import Derived.Test.YtmkjjidilfhojaaDoorMrgR
import Derived.Test.YtmkjjidilfhojaaDoorMrgS
import Derived.Test.YtmkjjidilfhojaaDoorMrgT
import Derived.Test.YtmkjjidilfhojaaDoorMrgU
import Derived.Test.YtmkjjidilfhojaaDoorMrgV
import Derived.Test.YtmkjjidilfhojaaDoorMrgW
import Derived.Test.YtmkjjidilfhojaaDoorMrgX
import Derived.Test.YtmkjjidilfhojaaDoorMrgY
import Derived.Test.YtmkjjidilfhojaaDoorMrgZ
import Derived.Test.YtmkjjidilfhojaaDoorMrgAA
import Derived.Test.YtmkjjidilfhojaaDoorMrgAB
import Derived.Test.YtmkjjidilfhojaaDoorMrgAC
import Derived.Test.YtmkjjidilfhojaaDoorMrgAD
import Derived.Test.YtmkjjidilfhojaaDoorMrgAE
import Derived.Test.YtmkjjidilfhojaaDoorMrgAF
import Derived.Test.YtmkjjidilfhojaaDoorMrgAG
import Derived.Test.YtmkjjidilfhojaaDoorMrgAH
import Derived.Test.YtmkjjidilfhojaaDoorMrgAI
import Derived.Test.YtmkjjidilfhojaaDoorMrgAJ
import Derived.Test.YtmkjjidilfhojaaDoorMrgAK
import Derived.Test.YtmkjjidilfhojaaDoorMrgAL
import Derived.Test.YtmkjjidilfhojaaDoorMrgAM
import Derived.Test.YtmkjjidilfhojaaDoorMrgAN
import Derived.Test.YtmkjjidilfhojaaDoorMrgAO
import Derived.Test.YtmkjjidilfhojaaDoorMrgAP
import Derived.Test.YtmkjjidilfhojaaDoorMrgAQ
import Derived.Test.YtmkjjidilfhojaaDoorMrgAR
import Derived.Test.YtmkjjidilfhojaaDoorMrgAS
import Derived.Test.YtmkjjidilfhojaaDoorMrgAT
import Derived.Deep.RegionHeld3
import Derived.Deep.QuietTactic
import Derived.BigQuiet
import Derived.Test.YtmkjjidilfhojaaDoorCards
import Derived.Test.YtmkjjidilfhojaaDoorTie
import Derived.LaidMore
import Derived.Lib.LaidTab
import Derived.Stop.Joined
import Derived.Lay
namespace Go.Proofs.YtmkjjidilfhojaaDoor.hopsAgain
open Go.ChangeShapes Go.WideShapes Go.ChangeAt Go.RowKit
open Go.ChangeMaps (open_string shut_string)
set_option linter.unusedVariables false

theorem own : ownKnob Tryd.prog.godebug = none := by kernel_rfl
theorem laidOut : laidOutB Tryd.prog = true := by kernel_rfl

set_option maxHeartbeats 8000000 in
set_option maxRecDepth 100000 in
theorem walk (a0 : Option Addr) (len0 cap0 : Nat) (z0 : List Fd) (w : World) (w0 : SlF w a0 len0 cap0 z0) (hL : laidMetH Tryd.prog Rows.hopsAgainRow.laid w) :
    Calls Tryd.prog 4 #[.slice a0 len0 cap0] w fun e w' => e = .returned (.bool true) ∧ Below w.heap.size w w' := by
  have HT := Lib.hid (hopTabs hL)
  clear hL
  have CX := Lib.hid (fun W (hW : Below w.heap.size w W) => ex16_any W (HT.out.kept hW))
  have hlen := w0.len
  have K1 := Lib.hid (rf_few a0 len0 cap0 70 500 z0 w w0 (by omega))
  have K1 := Lib.hid (show Calls Tryd.prog 6 #[.slice a0 len0 cap0, .int .i64 70, .int .i64 500] w (fun e w' => e = .returned (.bool (fewB z0 70 500)) ∧ w = w') from K1.out)
  have hfy := fun h => few_yes (L := z0) (m := 70) (b := 500) h
  generalize fewB z0 70 500 = fb at *
  cases fb with
  | false =>
    go_enter Tryd.func4, Tryd.ntmps4
    go_wp2_with fail
    refine K1.out.mono ?_
    rintro e v1 ⟨rfl, rfl⟩
    have HB : Hid (Below w.heap.size w w) := Below.refl _ _
    go_wp2_with fail
    refine (CX.out _ HB.out).mono ?_
    rintro e v9 ⟨rfl, hb1⟩
    go_wp2_with fail
    go_ret
    exact ⟨rfl, below_then HB.out hb1⟩
  | true =>
    obtain ⟨g1, g2⟩ := hfy rfl
    have hz : ∀ x ∈ z0, x.2.size ≤ 10000 := fun x hx => by have := (g2 x hx).2; omega
    have hbd : ∀ x ∈ z0, Bd x := fun x hx => by have := g2 x hx; exact ⟨by omega, by omega⟩
    have hln : len0 ≤ 1000 := by omega
    have hsl := stp_len z0
    have hin : ∀ x ∈ stpL z0, x ∈ z0 := fun x hx => (List.mem_filter.1 (List.mem_filter.1 hx).1).1
    have hag := stp_again z0
    obtain ⟨hnn, hnz⟩ := nom_sz (L := z0) (by omega) hz
    have hkp := stp_keep z0
    have C1 := Lib.hid (fun W (hW : Below w.heap.size w W) => stp_any a0 len0 cap0 z0 W (w0.below hW) hln hz hbd (HT.out.kept hW))
    have c2 := fun A c W (hW : Below w.heap.size w W) (h : SlF W A (stpL z0).length c (stpL z0)) => stp_any A (stpL z0).length c (stpL z0) W h (by omega) (fun x hx => hz x (hin x hx)) (fun x hx => hbd x (hin x hx)) (HT.out.kept hW)
    rw [hag] at c2
    have C2 := Lib.hid c2
    have C3 := Lib.hid (fun W (hW : Below w.heap.size w W) => nom_any a0 len0 cap0 z0 W (w0.below hW) hln hz hbd)
    have HSZ := Lib.hid w0.sz
    have HF0 := Lib.hid w0
    have HGO := Lib.hid (fun x : Fd => goes_eq (nomL z0) x)
    subst hlen
    generalize stpL z0 = X at *
    generalize nomL z0 = Y at *
    have ce := fun A B c d W (h1 : SlF W A X.length c X) (h2 : SlF W B X.length d X) => rf_equal A B X.length c X.length d X X W h1 h2 (by omega)
    simp only [bthP_refl eqF eqF_refl X] at ce
    have CE := Lib.hid ce
    have HKA : Hid (∀ i (h : i < z0.length), keepB Y z0[i] = true → X[((z0.take i).filter (keepB Y)).length]? = some z0[i]) := fun i h hp => by rw [hkp]; exact keep_at (keepB Y) z0 i h hp
    have HKL : Hid (∀ i (h : i < z0.length), ((z0.take (i + 1)).filter (keepB Y)).length = ((z0.take i).filter (keepB Y)).length + (if keepB Y z0[i] = true then 1 else 0)) := fun i h => hKeep_len (keepB Y) z0 i h
    have HKT : Hid (∀ i, ((z0.take i).filter (keepB Y)).length ≤ X.length) := fun i => by rw [hkp]; exact keep_lt (keepB Y) z0 i
    have HKE : Hid (((z0.take z0.length).filter (keepB Y)).length = X.length) := by show _ = _; rw [hkp, List.take_length]
    have HNZ := Lib.hid hnz
    have HB : Hid (Below w.heap.size w w) := Below.refl _ _
    clear hfy g1 g2 hz hbd hin hag hkp c2 ce w0 hnz
    unfold IsFs Vals at *
    go_enter Tryd.func4, Tryd.ntmps4
    go_wp2_with fail
    refine K1.out.mono ?_
    rintro e v1 ⟨rfl, rfl⟩
    go_wp2_with fail
    refine (C1.out _ HB.out).mono ?_
    rintro e v1 ⟨A1, c1, rfl, hF, hb1⟩
    have HF := Lib.hid hF
    have HB := Lib.hid (below_then HB.out hb1)
    clear hF hb1
    go_wp2_with fail
    refine (C2.out _ _ _ HB.out HF.out).mono ?_
    rintro e v2 ⟨A2, c2, rfl, hF, hb1⟩
    have HG := Lib.hid hF
    have HF := Lib.hid (HF.out.below hb1)
    have HB := Lib.hid (below_then HB.out hb1)
    clear hF hb1
    go_wp2_with fail
    refine (CE.out _ _ _ _ _ HG.out HF.out).mono ?_
    rintro e v3 ⟨rfl, hb1⟩
    have HF := Lib.hid (HF.out.below hb1)
    have HB := Lib.hid (below_then HB.out hb1)
    clear hb1 HG
    go_wp2_with fail
    refine (C3.out _ HB.out).mono ?_
    rintro e v4 ⟨A3, c3, rfl, hS, _, hb1⟩
    have HN := Lib.hid hS
    have HF := Lib.hid (HF.out.below hb1)
    have HB := Lib.hid (below_then HB.out hb1)
    clear hS hb1
    go_wp2_with fail
    go_loopw [5, 6] (fun a i wr => ∃ k : Nat, k ≤ z0.length ∧ i = .int .i64 (k : Int) ∧ a = .int .i64 ((((z0.take k).filter (keepB Y)).length : Nat) : Int) ∧ Hid (Below v4.heap.size v4 wr)) (fun _ i _ => z0.length - (intOf i).toNat)
    case atStart => exact ⟨0, Nat.zero_le _, rfl, rfl, Below.refl _ _⟩
    case round =>
      obtain ⟨k, hk, rfl, rfl, HR⟩ := hrel
      by_cases hlt : k < z0.length
      · have hFk := HF0.out.below (HB.out.trans (HR.out.mono HB.out.size))
        obtain ⟨ad, rfl, hc⟩ := hFk.at_ (by omega)
        obtain ⟨hc0, hc1⟩ := hc k z0[k] (List.getElem?_eq_getElem hlt)
        have hc1 := fd_snd hc1
        have hzk := HSZ.out _ (List.getElem_mem hlt)
        have hka := HKA.out k hlt
        have hkl := HKL.out k hlt
        have hkt := HKT.out k
        have hkt1 := HKT.out (k + 1)
        have hgo := HGO.out z0[k]
        generalize z0[k] = x at *
        obtain ⟨xa, xb⟩ := x
        simp only at hc0 hc1 hzk hgo
        generalize ((z0.take k).filter (keepB Y)).length = at0 at *
        have hi0 : (0 : Int) ≤ (k : Int) := by omega
        have hi1 : (k : Int) < (z0.length : Int) := by omega
        have CH := Lib.hid (fun W (hW : Below w.heap.size w W) => hop_any xa hzk.1 W (HT.out.kept hW))
        have HGX := Lib.hid hgo
        have HC0 := Lib.hid hc0
        have HC1 := Lib.hid hc1
        have HHB := Lib.hid (show hopB xa = hopB xa from rfl)
        generalize hhb : hopB xa = hb0 at *
        clear hc hFk hgo hc1 hhb HHB
        go_wp2_with fail
        refine (CH.out _ (HB.out.trans (HR.out.mono HB.out.size))).mono ?_
        rintro e u1 ⟨rfl, hb1⟩
        have HR1 := Lib.hid (HR.out.trans (hb1.mono HR.out.size))
        have HC0 := Lib.hid (cell_kept hb1 HC0.out)
        have HC1 := Lib.hid (cell_kept hb1 HC1.out)
        clear hb1 hc0 CH
        go_wp2_with fail
        go_loopw [7, 8] (fun g i wi => ∃ j : Nat, j ≤ Y.length ∧ i = .int .i64 (j : Int) ∧ g = .bool (hb0 || (Y.take j).any fun n => sameB (mkS n) xa) ∧ Hid (Below u1.heap.size u1 wi)) (fun _ i _ => Y.length - (intOf i).toNat)
        case atStart => exact ⟨0, Nat.zero_le _, rfl, by simp, Below.refl _ _⟩
        case round =>
          obtain ⟨j, hj, rfl, rfl, HI⟩ := hrel
          by_cases hjl : j < Y.length
          · have hNi := (HN.out.below HR1.out).below HI.out
            obtain ⟨bd, rfl, hd⟩ := hNi.at_ (by omega)
            have hd0 := hd j Y[j] (List.getElem?_eq_getElem hjl)
            have hyz : (mkS Y[j]).size ≤ maxLen := by rw [mkS_size]; exact Nat.le_trans (HNZ.out _ (List.getElem_mem hjl)) (by decide)
            have hgs : (hb0 || (Y.take (j + 1)).any fun n => sameB (mkS n) xa) = ((hb0 || (Y.take j).any fun n => sameB (mkS n) xa) || sameB (mkS Y[j]) xa) := by
              rw [List.take_succ_eq_append_getElem hjl, List.any_append, Bool.or_assoc]
              simp
            generalize mkS Y[j] = ys at *
            have CQ := Lib.hid (fun W => same_any ys xa W hyz hzk.1)
            generalize hgd : (hb0 || (Y.take j).any fun n => sameB (mkS n) xa) = gd at *
            have hj0 : (0 : Int) ≤ (j : Int) := by omega
            have hj1 : (j : Int) < (Y.length : Int) := by omega
            have HC : Hid (wr.drew.cell? (bd.add j) = some (.string ys) ∧ wr.drew.cell? (ad.add (k * 2)) = some (.string xa)) := ⟨hd0, cell_kept HI.out HC0.out⟩
            have HB := Lib.hid HI.out.drew
            have HG := Lib.hid hgs
            clear hd hd0 hgd hgs hNi hyz
            cases gd with
            | true =>
              have HG : Hid ((hb0 || (Y.take (j + 1)).any fun n => sameB (mkS n) xa) = true) := HG.out
              go_wp2_with fail
              refine wp_region_held_drew (S := fun W => W.cell? (bd.add j) = some (.string ys) ∧ W.cell? (ad.add (k * 2)) = some (.string xa)) (by kernel_rfl) (HC.out) (fun hHeld => ?_)
              refine takeY (i := 0) (v := ?_) rfl rfl (by kernel_rfl) (by kernel_rfl) (by kernel_rfl) (by rfl) (fun _ _ _ h => h) ?y1 (by assumption) ?r1
              case y1 => (intro w hSw; (try dsimp only at hSw); go_simp; try with_reducible rfl)
              try simp only [Act.put, List.setIfInBounds_toArray, List.set_cons_zero, List.set_cons_succ]
              refine takeY (i := 1) (v := ?_) rfl rfl (by kernel_rfl) (by kernel_rfl) (by kernel_rfl) (by rfl) (fun _ _ _ h => h) ?y2 (by assumption) ?r2
              case y2 => (intro w hSw; (try dsimp only at hSw); go_simp; try with_reducible rfl)
              try simp only [Act.put, List.setIfInBounds_toArray, List.set_cons_zero, List.set_cons_succ]
              refine takeN (i := 2) rfl rfl (by kernel_rfl) (by kernel_rfl) (by kernel_rfl) (by rfl) (fun _ _ _ h => h) (by assumption) ?_
              try simp only [Act.put, List.setIfInBounds_toArray, List.set_cons_zero, List.set_cons_succ]
              refine takeN (i := 3) rfl rfl (by kernel_rfl) (by kernel_rfl) (by kernel_rfl) (by rfl) (fun _ _ _ h => h) (by assumption) ?_
              try simp only [Act.put, List.setIfInBounds_toArray, List.set_cons_zero, List.set_cons_succ]
              refine takeN (i := 4) rfl rfl (by kernel_rfl) (by kernel_rfl) (by kernel_rfl) (by rfl) (fun _ _ _ h => h) (by assumption) ?_
              try simp only [Act.put, List.setIfInBounds_toArray, List.set_cons_zero, List.set_cons_succ]
              refine takeN (i := 5) rfl rfl (by kernel_rfl) (by kernel_rfl) (by kernel_rfl) (by rfl) (fun _ _ _ h => h) (by assumption) ?_
              try simp only [Act.put, List.setIfInBounds_toArray, List.set_cons_zero, List.set_cons_succ]
              refine takeN (i := 6) rfl rfl (by kernel_rfl) (by kernel_rfl) (by kernel_rfl) (by rfl) (fun _ _ _ h => h) (by assumption) ?_
              try simp only [Act.put, List.setIfInBounds_toArray, List.set_cons_zero, List.set_cons_succ]
              refine takeN (i := 7) rfl rfl (by kernel_rfl) (by kernel_rfl) (by kernel_rfl) (by rfl) (fun _ _ _ h => h) (by assumption) ?_
              try simp only [Act.put, List.setIfInBounds_toArray, List.set_cons_zero, List.set_cons_succ]
              refine takeN (i := 8) rfl rfl (by kernel_rfl) (by kernel_rfl) (by kernel_rfl) (by rfl) (fun _ _ _ h => h) (by assumption) ?_
              try simp only [Act.put, List.setIfInBounds_toArray, List.set_cons_zero, List.set_cons_succ]
              refine takeN (i := 9) rfl rfl (by kernel_rfl) (by kernel_rfl) (by kernel_rfl) (by rfl) (fun _ _ _ h => h) (by assumption) ?_
              try simp only [Act.put, List.setIfInBounds_toArray, List.set_cons_zero, List.set_cons_succ]
              refine takeN (i := 10) rfl rfl (by kernel_rfl) (by kernel_rfl) (by kernel_rfl) (by rfl) (fun _ _ _ h => h) (by assumption) ?_
              try simp only [Act.put, List.setIfInBounds_toArray, List.set_cons_zero, List.set_cons_succ]
              refine takeN (i := 11) rfl rfl (by kernel_rfl) (by kernel_rfl) (by kernel_rfl) (by rfl) (fun _ _ _ h => h) (by assumption) ?_
              try simp only [Act.put, List.setIfInBounds_toArray, List.set_cons_zero, List.set_cons_succ]
              refine takeY (i := 12) (v := ?_) rfl rfl (by kernel_rfl) (by kernel_rfl) (by kernel_rfl) (by rfl) (fun _ _ _ h => h) ?y3 (by assumption) ?r3
              case y3 => (intro w hSw; (try dsimp only at hSw); go_simp; try with_reducible rfl)
              try simp only [Act.put, List.setIfInBounds_toArray, List.set_cons_zero, List.set_cons_succ]
              refine takeY (i := 13) (v := ?_) rfl rfl (by kernel_rfl) (by kernel_rfl) (by kernel_rfl) (by rfl) (fun _ _ _ h => h) ?y4 (by assumption) ?r4
              case y4 => (intro w hSw; (try dsimp only at hSw); go_simp; try with_reducible rfl)
              try simp only [Act.put, List.setIfInBounds_toArray, List.set_cons_zero, List.set_cons_succ]
              refine wpAnyH_done (by kernel_rfl) ?_ _
              go_wp2_with fail
              go_roundw
              case rel => exact ⟨j + 1, by omega, by go_num, by rw [HG.out]; first | done | rfl, HB.out⟩
              case measure => simp [intOf]; omega
            | false =>
              have HG : Hid ((hb0 || (Y.take (j + 1)).any fun n => sameB (mkS n) xa) = sameB ys xa) := by show _ = _; rw [HG.out]; rfl
              generalize sameB ys xa = sq at *
              go_wp2_with fail
              go_region_held3 (fun W => W.cell? (bd.add j) = some (.string ys) ∧ W.cell? (ad.add (k * 2)) = some (.string xa)) (exact HC.out) ((go_at_call 16; refine (CQ.out _).mono ?_; rintro e w5 ⟨rfl, hb⟩; have HC : Hid (w5.cell? (bd.add j) = some (.string ys) ∧ w5.cell? (ad.add (k * 2)) = some (.string xa)) := ⟨cell_kept hb HC.out.1, cell_kept hb HC.out.2⟩; have HB := Lib.hid (HB.out.trans (hb.mono HB.out.size)); clear hb))
              go_wp2_with fail
              go_roundw
              case rel => exact ⟨j + 1, by omega, by go_num, by rw [HG.out]; first | done | rfl, HB.out⟩
              case measure => simp [intOf]; omega
          · have hj1 : ¬ (j : Int) < (Y.length : Int) := by omega
            rw [List.take_of_length_le (show Y.length ≤ j by omega)]
            have HRI := Lib.hid (HR1.out.trans (HI.out.mono HR1.out.size))
            rw [HGX.out]
            cases hkb : keepB Y (xa, xb) with
            | false =>
              rw [hkb, if_neg (by simp), Nat.add_zero] at hkl
              have HL := Lib.hid hkl
              clear hka hkl hkt1
              go_wp2_with fail
              go_roundw
              case rel => exact ⟨k + 1, by omega, by go_num, by rw [HL.out]; rfl, HRI.out⟩
              case measure => simp [intOf]; omega
            | true =>
              rw [hkb, if_pos rfl] at hkl
              have hX := hka hkb
              have HL := Lib.hid hkl
              have hal : at0 < X.length := by omega
              have hFX := HF.out.below HRI.out
              obtain ⟨ed, rfl, he⟩ := hFX.at_ (by omega)
              obtain ⟨he0, he1⟩ := he at0 (xa, xb) hX
              have he1 := fd_snd he1
              have hf0 := cell_kept HI.out HC0.out
              have hf1 := cell_kept HI.out HC1.out
              have ha0 : (0 : Int) ≤ (at0 : Int) := by omega
              have ha1 : (at0 : Int) < (X.length : Int) := by omega
              have ha2 : ¬ (X.length : Int) ≤ (at0 : Int) := by omega
              clear hka hkl hkt1 hX he hFX
              simp only at he0 he1
              go_wp2_with fail
              go_quiet (fail)
              go_wp2_with fail
              go_roundw
              case rel => exact ⟨k + 1, by omega, by go_num, by rw [HL.out]; go_num, below_drawn HRI.out _⟩
              case measure => simp [intOf]; omega
      · obtain rfl : k = z0.length := by omega
        have HKE := HKE
        rw [HKE.out]
        have hi1 : ¬ (z0.length : Int) < (z0.length : Int) := by omega
        have HB := Lib.hid (HB.out.trans (HR.out.mono HB.out.size))
        go_wp2_with fail
        refine (CX.out _ HB.out).mono ?_
        rintro e v9 ⟨rfl, hb1⟩
        go_wp2_with fail
        go_ret
        exact ⟨rfl, below_then HB.out hb1⟩

theorem door_met (os : Os) (args : Array Value) : laidMetH Tryd.prog Rows.hopsAgainRow.laid ((World.laidAll Tryd.prog os Rows.hopsAgainRow.laid).forCall (fun _ _ => 0) ⟨#[], args, []⟩).memory := by
  rw [MakeChecks.laidMetH_plain _ _ _ (by kernel_rfl)]
  exact laidMet_laidAll _ (by kernel_rfl) (by kernel_rfl)

set_option maxRecDepth 100000 in
theorem lifted (os : Os) (started : os.Started) (H : Type) (enc : TypeId × Value → H) :
    ReturnsInHanded {} Tryd.checked os 4 .any (fun w args => (Rows.hopsAgainSpec.pre enc Tryd.prog Tryd.f4 [] false w args ∧ laidMetH Tryd.prog Rows.hopsAgainRow.laid w) ∧ sizedMet enc Tryd.prog Tryd.f4 (OpenSpec.ofChange Rows.hopsAgainSpec) false w args) (Rows.hopsAgainSpec.post enc Tryd.prog Tryd.f4 false true false false) := by
  refine returnsInHanded_of_change_and (C := Tryd.checked) (X := fun w _ => laidMetH Tryd.prog Rows.hopsAgainRow.laid w) (fun _ _ _ hh h => h.of_heap hh) own started (by kernel_rfl) Tryd.func4
    (ChangeSpec.witness_shaped (enc := enc) (C := Tryd.checked) (os := os) (X := fun w _ => laidMetH Tryd.prog Rows.hopsAgainRow.laid w) false (World.laidAll Tryd.prog os Rows.hopsAgainRow.laid) #[.slice none 0 0] 8 rfl (World.shaped_of_ZipB (by kernel_rfl) (by kernel_rfl)) (by kernel_rfl) (by kernel_rfl) (by kernel_rfl) (door_met os _)) ?_
  intro W base args ds gs before hval0 hW _ _ hL _
  have hval : ∀ (j : Nat) t v, Tryd.f4.params[j]? = some t → args[j]? = some v → Value.okWide Tryd.prog W .any base t v := hval0
  have hW' := hW
  obtain ⟨p, q, hA0, hV, rfl, hfz, hnd⟩ := hW
  have hA : DataW.TrodAll enc Tryd.prog W 0 (fun _ => true) true Tryd.f4.params.toList args.toList ds p := hA0
  rw [Tryd.params4] at hA hval
  obtain ⟨v0, vs0, d0, ds0, p0, q0, hargs, rfl, rfl, h0, r0⟩ := trodAll_cons hA
  obtain ⟨rfl, rfl, rfl⟩ := trodAll_nil r0
  obtain rfl : args = #[v0] := by cases args; simp_all
  obtain ⟨rfl, rfl⟩ := trodVars_none hV
  obtain ⟨a0, len0, cap0, rfl⟩ := okWide_slice Tryd.underlying22 (hval 0 22 v0 rfl rfl)
  have k0 := h0
  have lt0 : ∀ x ∈ p0, x.block < W.heap.size := by obtain ⟨m, hm⟩ := k0; exact DataW.trod_lt m _ _ _ hm
  obtain ⟨z0, w0⟩ := SlF.of_trod Tryd.underlying22 Tryd.underlying33 (by kernel_rfl) rfl rfl (by kernel_rfl) (by kernel_rfl) Tryd.underlying9 Tryd.underlying9 h0
  clear hA0 hval0
  refine (walk a0 len0 cap0 z0 W w0 hL).mono fun e W' ⟨he, bel⟩ => ?_
  subst he
  exact ⟨_, rfl, _, _, _, [], _, [], hW', trodAll_mk1 (shut_bool Tryd.underlying4 _), (trodAll_cons_mk (Below.trod laidOut (by kernel_rfl) (of_decide_eq_true (by kernel_rfl)) k0 bel lt0) trodAll_mk0), rfl, bel.frame _, fun h => by cases h⟩

theorem over : Rows.hopsAgainRow.holds Tryd.pinned (OpenSpec.ofChange Rows.hopsAgainSpec) :=
  OpenClaim.holds_of_wide 4 Tryd.f4 rfl rfl rfl rfl rfl rfl rfl ⟨rfl, rfl, rfl, rfl, rfl⟩ rfl rfl rfl rfl rfl (by kernel_rfl) Tryd.func4 (by kernel_rfl)
    (of_decide_eq_true (by kernel_rfl)) (by unfold Func.isWrapper; first | (rw [if_pos (by decide +kernel)]; kernel_rfl) | (rw [if_neg (by decide +kernel)]; exact ⟨rfl, rfl⟩))
    (fun os started H enc _ => lifted os started H enc)

theorem said : Rows.HopsAgainSaid :=
  over

theorem plain (f : FuncId) (fn : Func) (hf : Tryd.pinned.checked.prog.funcNamed "depot/depotlaw16.HopsAgain" = some f) (hfn : Tryd.pinned.checked.prog.funcs[f]? = some fn) :
    false = Tryd.pinned.checked.prog.looks [] ∧ ∀ (j : Nat) t, fn.params[j]? = some t → Tryd.pinned.checked.prog.wantsStandIn t = false := by
  obtain rfl : f = 4 := Option.some.inj ((show Tryd.prog.funcNamed "depot/depotlaw16.HopsAgain" = some 4 by kernel_rfl).symm.trans hf) |>.symm
  obtain rfl : fn = Tryd.f4 := (Option.some.inj (Tryd.func4.symm.trans hfn)).symm
  refine ⟨by kernel_rfl, fun j t ht => ?_⟩
  rw [Tryd.params4] at ht
  · obtain rfl : t = 22 := by simpa using Array.mem_of_getElem? ht
    exact (show Tryd.prog.wantsStandIn 22 = false by kernel_rfl)

theorem proved : Rows.HopsAgainCardSaid :=
  Claim7.holds_tied_plain_at .later [] _ _ _ _ said (fun _ h => by cases h) (by kernel_rfl) (fun _ h => by cases h) hopsAgain_row_tie rfl ⟨rfl, rfl⟩ (by kernel_rfl) rfl plain (by kernel_rfl)
#print axioms proved
end Go.Proofs.YtmkjjidilfhojaaDoor.hopsAgain
