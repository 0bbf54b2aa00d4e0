/-
  The law HopsMore (depotlaw16) returns true for every list of fields and every field, and leaves what it was given as it was. No condition but that the table of names holds what the program lays.
-/
import Derived.Test.YtmkjjidilfhojaaDoorRows
import Derived.WalkKit
import Derived.ProofKit
import Derived.OpenShut
import Derived.ShutString
import Derived.ChangeOld
import Derived.Below
import Derived.Test.YtmkjjidilfhojaaDoorMrgA
import Derived.Test.YtmkjjidilfhojaaDoorMrgB
import Derived.Test.YtmkjjidilfhojaaDoorMrgC
import Derived.Test.YtmkjjidilfhojaaDoorMrgD
import Derived.Test.YtmkjjidilfhojaaDoorMrgE
import Derived.Test.YtmkjjidilfhojaaDoorMrgF
import Derived.Test.YtmkjjidilfhojaaDoorMrgG
import Derived.Test.YtmkjjidilfhojaaDoorMrgH
import Derived.Test.YtmkjjidilfhojaaDoorMrgI
import Derived.Test.YtmkjjidilfhojaaDoorMrgJ
import Derived.Test.YtmkjjidilfhojaaDoorMrgK
import Derived.Test.YtmkjjidilfhojaaDoorMrgL
import Derived.Test.YtmkjjidilfhojaaDoorMrgM
import Derived.Test.YtmkjjidilfhojaaDoorMrgN
import Derived.Test.YtmkjjidilfhojaaDoorMrgO
import Derived.Test.YtmkjjidilfhojaaDoorMrgP
import Derived.Test.YtmkjjidilfhojaaDoorMrgQ
import Derived.Test.YtmkjjidilfhojaaDoorMrgR
import Derived.Test.YtmkjjidilfhojaaDoorMrgS
import Derived.Test.YtmkjjidilfhojaaDoorMrgT
import Derived.Test.YtmkjjidilfhojaaDoorMrgU
import Derived.Test.YtmkjjidilfhojaaDoorMrgV
import Derived.Test.YtmkjjidilfhojaaDoorMrgW
import Derived.Test.YtmkjjidilfhojaaDoorMrgX
import Derived.Test.YtmkjjidilfhojaaDoorMrgY
import Derived.Test.YtmkjjidilfhojaaDoorMrgZ
import Derived.Test.YtmkjjidilfhojaaDoorMrgAA
import Derived.Test.YtmkjjidilfhojaaDoorMrgAB
import Derived.Test.YtmkjjidilfhojaaDoorMrgAC
import Derived.Test.YtmkjjidilfhojaaDoorMrgAD
import Derived.Test.YtmkjjidilfhojaaDoorMrgAE
import Derived.Test.YtmkjjidilfhojaaDoorMrgAF
import Derived.Test.YtmkjjidilfhojaaDoorMrgAG
import Derived.Test.YtmkjjidilfhojaaDoorMrgAH
import Derived.Test.YtmkjjidilfhojaaDoorMrgAI
import Derived.Test.YtmkjjidilfhojaaDoorMrgAJ
import Derived.Test.YtmkjjidilfhojaaDoorMrgAK
import Derived.Test.YtmkjjidilfhojaaDoorMrgAL
import Derived.Test.YtmkjjidilfhojaaDoorMrgAM
import Derived.Test.YtmkjjidilfhojaaDoorMrgAN
import Derived.Test.YtmkjjidilfhojaaDoorMrgAO
import Derived.Test.YtmkjjidilfhojaaDoorMrgAP
import Derived.Test.YtmkjjidilfhojaaDoorMrgAQ
import Derived.Test.YtmkjjidilfhojaaDoorMrgAR
import Derived.Test.YtmkjjidilfhojaaDoorMrgAS
import Derived.Test.YtmkjjidilfhojaaDoorMrgAT
import Derived.Deep.RegionHeld3
import Derived.Lib.SmallJoins
import Derived.Test.YtmkjjidilfhojaaDoorCards
import Derived.Test.YtmkjjidilfhojaaDoorTie
import Derived.LaidMore
import Derived.Lib.LaidTab
import Derived.Stop.Joined
import Derived.Lay
namespace Go.Proofs.YtmkjjidilfhojaaDoor.hopsMore
open Go.ChangeShapes Go.WideShapes Go.ChangeAt Go.RowKit
open Go.ChangeMaps (open_string shut_string)
set_option linter.unusedVariables false

theorem own : ownKnob Tryd.prog.godebug = none := by kernel_rfl
theorem laidOut : laidOutB Tryd.prog = true := by kernel_rfl

set_option maxHeartbeats 8000000 in
set_option maxRecDepth 100000 in
theorem walk (a0 : Option Addr) (len0 cap0 : Nat) (z0 : List Fd) (a1 b1 : ByteArray) (w : World) (w0 : SlF w a0 len0 cap0 z0) (w1 : a1.size ≤ maxLen ∧ b1.size ≤ maxLen) (hL : laidMetH Tryd.prog Rows.hopsMoreRow.laid w) :
    Calls Tryd.prog 5 #[.slice a0 len0 cap0, .agg #[.string a1, .string b1]] w fun e w' => e = .returned (.bool true) ∧ Below w.heap.size w w' := by
  have HT := Lib.hid (hopTabs hL)
  clear hL
  have CX := Lib.hid (fun W (hW : Below w.heap.size w W) => ex16_any W (HT.out.kept hW))
  have hlen := w0.len
  subst hlen
  have HF : Hid (SlF (w.alloc (.cells #[.string a1, .string b1] 33)) a0 z0.length cap0 z0) := w0.alloc _
  have HSZ := Lib.hid w0.sz
  have HB : Hid (Below w.heap.size w (w.alloc (.cells #[.string a1, .string b1] 33))) := (Below.refl _ _).alloc (Nat.le_refl _) _
  have Z0 : Hid ((w.alloc (.cells #[.string a1, .string b1] 33)).heap[w.heap.size]? = some (.cells #[.string a1, .string b1] 33 (0, 0))) := heap_alloc_new w _
  have HF1 : Hid (SlF ((w.alloc (.cells #[.string a1, .string b1] 33)).alloc (.cells #[.string a1, .string b1] 33)) (some ⟨w.heap.size + 1, 0, none⟩) 1 1 [(a1, b1)]) := by
    have := SlF.one (w.alloc (.cells #[.string a1, .string b1] 33)) 33 (a1, b1) w1
    rwa [show (w.alloc (.cells #[.string a1, .string b1] 33)).heap.size = w.heap.size + 1 by simp] at this
  have Z1 := Lib.hid (zero_more (o' := .cells #[.string a1, .string b1] 33) Z0.out)
  have HB1 := Lib.hid (HB.out.alloc HB.out.size (.cells #[.string a1, .string b1] 33))
  have cf := fun W (h : SlF W a0 z0.length cap0 z0) => rf_few a0 z0.length cap0 70 500 z0 W h (by omega)
  have cf := fun W h => show Calls Tryd.prog 6 #[.slice a0 z0.length cap0, .int .i64 70, .int .i64 500] W (fun e w' => e = .returned (.bool (fewB z0 70 500)) ∧ W = w') from cf W h
  have c1 := fun W A (h : SlF W A 1 1 [(a1, b1)]) => rf_few A 1 1 1 500 [(a1, b1)] W h (by decide)
  have c1 := fun W A h => show Calls Tryd.prog 6 #[.slice A 1 1, .int .i64 1, .int .i64 500] W (fun e w' => e = .returned (.bool (fewB [(a1, b1)] 1 500)) ∧ W = w') from c1 W A h
  have cn := fun W => same_any a1 cnS W w1.1 cnS_le
  unfold cnS at cn
  have hcn : (⟨#[67, 111, 110, 110, 101, 99, 116, 105, 111, 110]⟩ : ByteArray) = cnS := rfl
  cases hf : fewB z0 70 500 with
  | false =>
    rw [hf] at cf
    have CF := Lib.hid cf
    clear cf c1 cn hf hcn
    go_enter Tryd.func5, Tryd.ntmps5
    go_wp2_with fail
    refine (CF.out _ HF.out).mono ?_
    rintro e v1 ⟨rfl, rfl⟩
    go_wp2_with fail
    refine (CX.out _ HB.out).mono ?_
    rintro e v9 ⟨rfl, hb1⟩
    go_wp2_with fail
    go_ret
    exact ⟨rfl, below_then HB.out hb1⟩
  | true =>
    rw [hf] at cf
    have CF := Lib.hid cf
    cases hg : fewB [(a1, b1)] 1 500 with
    | false =>
      rw [hg] at c1
      have C1 := Lib.hid c1
      clear cf c1 cn hf hg hcn
      obtain ⟨z0a, z0b⟩ := zero_two Z0.out
      go_enter Tryd.func5, Tryd.ntmps5
      go_wp2_with fail
      refine (CF.out _ HF.out).mono ?_
      rintro e v1 ⟨rfl, rfl⟩
      go_wp2_with fail
      refine (C1.out _ _ HF1.out).mono ?_
      rintro e v2 ⟨rfl, rfl⟩
      have HB := HB1
      go_wp2_with fail
      refine (CX.out _ HB.out).mono ?_
      rintro e v9 ⟨rfl, hb1⟩
      go_wp2_with fail
      go_ret
      exact ⟨rfl, below_then HB.out hb1⟩
    | true =>
      rw [hg] at c1
      have C1 := Lib.hid c1
      obtain ⟨z0a, z0b⟩ := zero_two Z0.out
      obtain ⟨z1a, z1b⟩ := zero_two Z1.out
      cases hq : sameB a1 cnS with
      | true =>
        rw [hcn, hq] at cn
        unfold cnS at cn
        have CN := Lib.hid cn
        clear cf c1 cn hf hg hq hcn
        go_enter Tryd.func5, Tryd.ntmps5
        go_wp2_with fail
        refine (CF.out _ HF.out).mono ?_
        rintro e v1 ⟨rfl, rfl⟩
        go_wp2_with fail
        refine (C1.out _ _ HF1.out).mono ?_
        rintro e v2 ⟨rfl, rfl⟩
        go_wp2_with fail
        refine (CN.out _).mono ?_
        rintro e v3 ⟨rfl, hb1⟩
        have Z0 := Lib.hid (zero_still hb1 Z1.out)
        obtain ⟨z0a, z0b⟩ := zero_two Z0.out
        have HF := Lib.hid ((HF.out.alloc _).below hb1)
        have HB := Lib.hid (below_then HB1.out hb1)
        clear hb1
        go_wp2_with fail
        refine (CX.out _ HB.out).mono ?_
        rintro e v9 ⟨rfl, hb1⟩
        go_wp2_with fail
        go_ret
        exact ⟨rfl, below_then HB.out hb1⟩
      | false =>
        rw [hcn, hq] at cn
        unfold cnS at cn
        have CN := Lib.hid cn
        obtain ⟨g1, g2⟩ := few_yes hf
        obtain ⟨_, g3⟩ := few_yes hg
        have g4 := g3 _ (List.mem_singleton.2 rfl)
        simp only at g4
        have hz : ∀ x ∈ z0, x.2.size ≤ 10000 := fun x hx => by have := (g2 x hx).2; omega
        have hbd : ∀ x ∈ z0, Bd x := fun x hx => by have := g2 x hx; exact ⟨by omega, by omega⟩
        have hz' : ∀ x ∈ (a1, b1) :: z0, x.2.size ≤ 10000 := fun x hx => by
          rcases List.mem_cons.1 hx with rfl | hx
          · dsimp only; omega
          · exact hz x hx
        have hbd' : ∀ x ∈ (a1, b1) :: z0, Bd x := fun x hx => by
          rcases List.mem_cons.1 hx with rfl | hx
          · exact ⟨by dsimp only; omega, by dsimp only; omega⟩
          · exact hbd x hx
        have hsl := stp_len z0
        have hxb : ∀ x ∈ stpL z0, Bd x := fun x hx => hbd x (List.mem_filter.1 (List.mem_filter.1 hx).1).1
        obtain ⟨hnn, hnz⟩ := nom_sz (L := z0) (by omega) hz
        have K1 := Lib.hid (fun W (hW : Below w.heap.size w W) (h : SlF W a0 z0.length cap0 z0) => stp_any a0 z0.length cap0 z0 W h (by omega) hz hbd (HT.out.kept hW))
        have k2 := fun A c W (hW : Below w.heap.size w W) (h : SlF W A (z0.length + 1) c ((a1, b1) :: z0)) => stp_any A (z0.length + 1) c ((a1, b1) :: z0) W h (by omega) hz' hbd' (HT.out.kept hW)
        have hmm : ∃ MM, MM = stpL ((a1, b1) :: z0) := ⟨_, rfl⟩
        obtain ⟨MM, hmm⟩ := hmm
        rw [← hmm] at k2
        rw [stp_more z0 hq] at hmm
        have HMQ := Lib.hid hmm
        clear hmm
        have K3 := Lib.hid (fun W (h : SlF W a0 z0.length cap0 z0) => nom_any a0 z0.length cap0 z0 W h (by omega) hz hbd)
        have K4 := Lib.hid (fun W (hW : Below w.heap.size w W) => hop_any a1 w1.1 W (HT.out.kept hW))
        have HGO := Lib.hid (goes_eq (nomL z0) (a1, b1))
        have HW1 := Lib.hid w1
        have HMZ : Hid (∀ x ∈ (a1, b1) :: z0, x.1.size ≤ maxLen ∧ x.2.size ≤ maxLen) := fun x hx => ⟨(hbd' x hx).one, (hbd' x hx).two⟩
        generalize stpL z0 = X at *
        generalize nomL z0 = Y at *
        have ce := fun A B c d W (h1 : SlF W A X.length c X) (h2 : SlF W B X.length d X) => rf_equal A B X.length c X.length d X X W h1 h2 (by omega)
        simp only [bthP_refl eqF eqF_refl X] at ce
        have CE := Lib.hid ce
        have cs := fun A B c d W (h1 : SlF W A X.length c X) (h2 : SlF W B X.length d X) => same_fields A B X.length c X.length d X X W h1 h2 (by omega) hxb hxb
        have hbs : bth X X = true := bthP_refl alk (fun x => by simp [alk, sameB]) X
        simp only [hbs] at cs
        have CS := Lib.hid cs
        have hXl : X.length ≤ 1000 := by omega
        have HNZ := Lib.hid hnz
        have HNN : Hid (z0.length ≤ 70) := g1
        have hb0e : ∃ b, b = hopB a1 := ⟨_, rfl⟩
        obtain ⟨hb0, hhb⟩ := hb0e
        rw [← hhb] at K4
        simp only at HGO
        rw [← hhb] at HGO
        have K2 := Lib.hid k2
        clear cf c1 cn ce cs hf hg hq hcn g1 g2 g3 g4 hz hbd hz' hbd' hxb hnz k2 hhb w0 w1 hsl hbs
        unfold IsFs Vals at *
        go_enter Tryd.func5, Tryd.ntmps5
        go_wp2_with fail
        refine (CF.out _ HF.out).mono ?_
        rintro e v1 ⟨rfl, rfl⟩
        go_wp2_with fail
        refine (C1.out _ _ HF1.out).mono ?_
        rintro e v2 ⟨rfl, rfl⟩
        go_wp2_with fail
        refine (CN.out _).mono ?_
        rintro e v3 ⟨rfl, hb1⟩
        have Z0 := Lib.hid (zero_still hb1 Z1.out)
        obtain ⟨z0a, z0b⟩ := zero_two Z0.out
        have HF := Lib.hid ((HF.out.alloc _).below hb1)
        have HB := Lib.hid (below_then HB1.out hb1)
        clear hb1
        go_wp2_with fail
        refine (K1.out _ HB.out HF.out).mono ?_
        rintro e v4 ⟨A1, c1, rfl, hF, hb1⟩
        have HX := Lib.hid hF
        have HF := Lib.hid (HF.out.below hb1)
        have Z0 := Lib.hid (zero_still hb1 Z0.out)
        have HB := Lib.hid (below_then HB.out hb1)
        obtain ⟨q0a, q0b⟩ := zero_two Z0.out
        clear hF hb1 z0a z0b z1a z1b
        go_wp2_with (at_builtin; refine wpList_append_slf rfl _ _ 22 rfl v4.heap.size 33 Tryd.underlying22 (by kernel_rfl) _ rfl [(a1, b1)] (hOwnF_lit1 v4 33 (a1, b1) (Nat.le_refl _)) a0 z0.length cap0 rfl z0 (HF.out.alloc _) (by have := HNN.out; simp; omega) (by simp) v4 ((Below.refl _ _).alloc (Nat.le_refl _) _) ?_; intro v5 w5 ho5 hb5 hz5; obtain ⟨A5, c5, hv5, hF5⟩ := ho5.out.slf HMZ.out; subst hv5; have HM := Lib.hid hF5; have HX := Lib.hid (HX.out.below hb5); have HF := Lib.hid (HF.out.below hb5); have Z0 := Lib.hid (zero_still hb5 Z0.out); have HB := Lib.hid (below_then HB.out hb5); clear hF5 hb5 ho5)
        refine (K2.out _ _ _ HB.out HM.out).mono ?_
        rintro e v6 ⟨A2, c2, rfl, hF, hb1⟩
        have HMM := Lib.hid hF
        have HX := Lib.hid (HX.out.below hb1)
        have HF := Lib.hid (HF.out.below hb1)
        have Z0 := Lib.hid (zero_still hb1 Z0.out)
        have HB := Lib.hid (below_then HB.out hb1)
        clear hF hb1 q0a q0b HM hz5
        obtain ⟨q0a, q0b⟩ := zero_two Z0.out
        go_wp2_with fail
        refine (K4.out _ HB.out).mono ?_
        rintro e v7 ⟨rfl, hb1⟩
        have HMM := Lib.hid (HMM.out.below hb1)
        have HX := Lib.hid (HX.out.below hb1)
        have HF := Lib.hid (HF.out.below hb1)
        have Z0 := Lib.hid (zero_still hb1 Z0.out)
        have HB := Lib.hid (below_then HB.out hb1)
        clear hb1 q0a q0b
        go_wp2_with fail
        refine (K3.out _ HF.out).mono ?_
        rintro e u1 ⟨A3, c3, rfl, hS, _, hb1⟩
        have HN := Lib.hid hS
        have HMM := Lib.hid (HMM.out.below hb1)
        have HX := Lib.hid (HX.out.below hb1)
        have Z0 := Lib.hid (zero_still hb1 Z0.out)
        have HB := Lib.hid (below_then HB.out hb1)
        have HC0 := Lib.hid (zero_two Z0.out).1
        clear hb1 hS HF
        go_wp2_with fail
        go_loopw [7, 9] (fun g i wi => ∃ j : Nat, j ≤ Y.length ∧ i = .int .i64 (j : Int) ∧ g = .bool (hb0 || (Y.take j).any fun n => sameB (mkS n) a1) ∧ Hid (Below u1.heap.size u1 wi)) (fun _ i _ => Y.length - (intOf i).toNat)
        case atStart => exact ⟨0, Nat.zero_le _, rfl, by simp, Below.refl _ _⟩
        case round =>
          obtain ⟨j, hj, rfl, rfl, HI⟩ := hrel
          by_cases hjl : j < Y.length
          · have hNi := HN.out.below HI.out
            obtain ⟨bd, rfl, hd⟩ := hNi.at_ (by omega)
            have hd0 := hd j Y[j] (List.getElem?_eq_getElem hjl)
            have hyz : (mkS Y[j]).size ≤ maxLen := by rw [mkS_size]; exact Nat.le_trans (HNZ.out _ (List.getElem_mem hjl)) (by decide)
            have hgs : (hb0 || (Y.take (j + 1)).any fun n => sameB (mkS n) a1) = ((hb0 || (Y.take j).any fun n => sameB (mkS n) a1) || sameB (mkS Y[j]) a1) := by
              rw [List.take_succ_eq_append_getElem hjl, List.any_append, Bool.or_assoc]
              simp
            generalize mkS Y[j] = ys at *
            have CQ := Lib.hid (fun W => same_any ys a1 W hyz HW1.out.1)
            generalize hgd : (hb0 || (Y.take j).any fun n => sameB (mkS n) a1) = gd at *
            have hj0 : (0 : Int) ≤ (j : Int) := by omega
            have hj1 : (j : Int) < (Y.length : Int) := by omega
            have HC : Hid (wr.drew.cell? (bd.add j) = some (.string ys) ∧ wr.drew.cell? ⟨w.heap.size, 0, none⟩ = some (.string a1)) := ⟨hd0, cell_kept HI.out HC0.out⟩
            have HB := Lib.hid HI.out.drew
            have HG := Lib.hid hgs
            clear hd hd0 hgd hgs hNi hyz
            cases gd with
            | true =>
              have HG : Hid ((hb0 || (Y.take (j + 1)).any fun n => sameB (mkS n) a1) = true) := HG.out
              go_wp2_with fail
              refine wp_region_held_drew (S := fun W => W.cell? (bd.add j) = some (.string ys) ∧ W.cell? ⟨w.heap.size, 0, none⟩ = some (.string a1)) (by kernel_rfl) (HC.out) (fun hHeld => ?_)
              refine takeY (i := 0) (v := ?_) rfl rfl (by kernel_rfl) (by kernel_rfl) (by kernel_rfl) (by rfl) (fun _ _ _ h => h) ?y1 (by assumption) ?r1
              case y1 => (intro w hSw; (try dsimp only at hSw); go_simp; try with_reducible rfl)
              try simp only [Act.put, List.setIfInBounds_toArray, List.set_cons_zero, List.set_cons_succ]
              refine takeY (i := 1) (v := ?_) rfl rfl (by kernel_rfl) (by kernel_rfl) (by kernel_rfl) (by rfl) (fun _ _ _ h => h) ?y2 (by assumption) ?r2
              case y2 => (intro w hSw; (try dsimp only at hSw); go_simp; try with_reducible rfl)
              try simp only [Act.put, List.setIfInBounds_toArray, List.set_cons_zero, List.set_cons_succ]
              refine takeN (i := 2) rfl rfl (by kernel_rfl) (by kernel_rfl) (by kernel_rfl) (by rfl) (fun _ _ _ h => h) (by assumption) ?_
              try simp only [Act.put, List.setIfInBounds_toArray, List.set_cons_zero, List.set_cons_succ]
              refine takeN (i := 3) rfl rfl (by kernel_rfl) (by kernel_rfl) (by kernel_rfl) (by rfl) (fun _ _ _ h => h) (by assumption) ?_
              try simp only [Act.put, List.setIfInBounds_toArray, List.set_cons_zero, List.set_cons_succ]
              refine takeN (i := 4) rfl rfl (by kernel_rfl) (by kernel_rfl) (by kernel_rfl) (by rfl) (fun _ _ _ h => h) (by assumption) ?_
              try simp only [Act.put, List.setIfInBounds_toArray, List.set_cons_zero, List.set_cons_succ]
              refine takeN (i := 5) rfl rfl (by kernel_rfl) (by kernel_rfl) (by kernel_rfl) (by rfl) (fun _ _ _ h => h) (by assumption) ?_
              try simp only [Act.put, List.setIfInBounds_toArray, List.set_cons_zero, List.set_cons_succ]
              refine takeN (i := 6) rfl rfl (by kernel_rfl) (by kernel_rfl) (by kernel_rfl) (by rfl) (fun _ _ _ h => h) (by assumption) ?_
              try simp only [Act.put, List.setIfInBounds_toArray, List.set_cons_zero, List.set_cons_succ]
              refine takeN (i := 7) rfl rfl (by kernel_rfl) (by kernel_rfl) (by kernel_rfl) (by rfl) (fun _ _ _ h => h) (by assumption) ?_
              try simp only [Act.put, List.setIfInBounds_toArray, List.set_cons_zero, List.set_cons_succ]
              refine takeN (i := 8) rfl rfl (by kernel_rfl) (by kernel_rfl) (by kernel_rfl) (by rfl) (fun _ _ _ h => h) (by assumption) ?_
              try simp only [Act.put, List.setIfInBounds_toArray, List.set_cons_zero, List.set_cons_succ]
              refine takeY (i := 9) (v := ?_) rfl rfl (by kernel_rfl) (by kernel_rfl) (by kernel_rfl) (by rfl) (fun _ _ _ h => h) ?y3 (by assumption) ?r3
              case y3 => (intro w hSw; (try dsimp only at hSw); go_simp; try with_reducible rfl)
              try simp only [Act.put, List.setIfInBounds_toArray, List.set_cons_zero, List.set_cons_succ]
              refine takeY (i := 10) (v := ?_) rfl rfl (by kernel_rfl) (by kernel_rfl) (by kernel_rfl) (by rfl) (fun _ _ _ h => h) ?y4 (by assumption) ?r4
              case y4 => (intro w hSw; (try dsimp only at hSw); go_simp; try with_reducible rfl)
              try simp only [Act.put, List.setIfInBounds_toArray, List.set_cons_zero, List.set_cons_succ]
              refine wpAnyH_done (by kernel_rfl) ?_ _
              go_wp2_with fail
              go_roundw
              case rel => exact ⟨j + 1, by omega, by go_num, by rw [HG.out]; first | done | rfl, HB.out⟩
              case measure => simp [intOf]; omega
            | false =>
              have HG : Hid ((hb0 || (Y.take (j + 1)).any fun n => sameB (mkS n) a1) = sameB ys a1) := by show _ = _; rw [HG.out]; rfl
              generalize sameB ys a1 = sq at *
              go_wp2_with fail
              go_region_held3 (fun W => W.cell? (bd.add j) = some (.string ys) ∧ W.cell? ⟨w.heap.size, 0, none⟩ = some (.string a1)) (exact HC.out) ((go_at_call 16; refine (CQ.out _).mono ?_; rintro e w5 ⟨rfl, hb⟩; have HC : Hid (w5.cell? (bd.add j) = some (.string ys) ∧ w5.cell? ⟨w.heap.size, 0, none⟩ = some (.string a1)) := ⟨cell_kept hb HC.out.1, cell_kept hb HC.out.2⟩; have HB := Lib.hid (HB.out.trans (hb.mono HB.out.size)); clear hb))
              go_wp2_with fail
              go_roundw
              case rel => exact ⟨j + 1, by omega, by go_num, by rw [HG.out]; first | done | rfl, HB.out⟩
              case measure => simp [intOf]; omega
          · have hj1 : ¬ (j : Int) < (Y.length : Int) := by omega
            rw [List.take_of_length_le (show Y.length ≤ j by omega)]
            rw [HGO.out]
            have HB := Lib.hid (HB.out.trans (HI.out.mono HB.out.size))
            have HX := Lib.hid (HX.out.below HI.out)
            have HMM := Lib.hid (HMM.out.below HI.out)
            have Z0 := Lib.hid (zero_still HI.out Z0.out)
            cases hkb : keepB Y (a1, b1) with
            | false =>
              have hm := HMQ.out
              rw [hkb, if_neg (by simp)] at hm
              subst hm
              clear HMQ
              clear K1 K2 K3 K4 CS hkb
              go_wp2_with fail
              refine (CE.out _ _ _ _ _ HMM.out HX.out).mono ?_
              rintro e v8 ⟨rfl, hb1⟩
              have HB := Lib.hid (below_then HB.out hb1)
              clear hb1
              go_wp2_with fail
              refine (CX.out _ HB.out).mono ?_
              rintro e v9 ⟨rfl, hb1⟩
              go_wp2_with fail
              go_ret
              exact ⟨rfl, below_then HB.out hb1⟩
            | true =>
              have hm := HMQ.out
              rw [hkb, if_pos rfl] at hm
              subst hm
              clear HMQ
              clear K1 K2 K3 K4 CE hkb
              obtain ⟨ed, rfl, he⟩ := HMM.out.at_ (by simp)
              obtain ⟨he0, he1⟩ := he 0 (a1, b1) rfl
              have he1 := fd_snd he1
              rw [Nat.zero_mul, Addr.add_zero'] at he0 he1
              obtain ⟨z5a, z5b⟩ := zero_two Z0.out
              have HL0 : ((a1, b1) :: X).length = X.length + 1 := List.length_cons
              rw [HL0] at HMM
              have hcap := HMM.out.cap
              clear he
              rw [HL0]
              simp only at he0 he1
              by_cases hcm : c2 = 1
              · obtain ⟨_, t2⟩ := HMM.out.tail1 hcm
                have HT : Hid (SlF wr (some ed) X.length 0 X) := by show SlF _ _ _ _ _; rw [t2]; exact slf_nil _ _
                clear HL0 HMM
                subst hcm t2
                clear hcap
                have HWR : IntKind.i64.wrap 1 = 1 := by rw [IntKind.wrap_i64]; omega
                have C4 : Hid (wr.drew.cell? ed = some (.string a1) ∧ wr.drew.cell? { block := ed.block, off := ed.off + 1 } = some (.string b1) ∧ wr.drew.cell? ⟨w.heap.size, 0, none⟩ = some (.string a1) ∧ wr.drew.cell? ⟨w.heap.size, 1, none⟩ = some (.string b1)) := ⟨he0, he1, z5a, z5b⟩
                have HB := Lib.hid HB.out.drew
                have HX := Lib.hid HX.out.drew
                have HT := Lib.hid HT.out.drew
                clear he0 he1 z5a z5b Z0
                go_wp2_with fail
                go_region_held3 (fun W => W.cell? ed = some (.string a1) ∧ W.cell? { block := ed.block, off := ed.off + 1 } = some (.string b1) ∧ W.cell? ⟨w.heap.size, 0, none⟩ = some (.string a1) ∧ W.cell? ⟨w.heap.size, 1, none⟩ = some (.string b1)) (exact C4.out) (first
                  | (go_at_call 17; refine (CS.out _ _ _ _ _ HT.out HX.out).mono ?_; rintro e v8 ⟨rfl, hb⟩; have C4 : Hid (v8.cell? ed = some (.string a1) ∧ v8.cell? { block := ed.block, off := ed.off + 1 } = some (.string b1) ∧ v8.cell? ⟨w.heap.size, 0, none⟩ = some (.string a1) ∧ v8.cell? ⟨w.heap.size, 1, none⟩ = some (.string b1)) := ⟨cell_kept hb C4.out.1, cell_kept hb C4.out.2.1, cell_kept hb C4.out.2.2.1, cell_kept hb C4.out.2.2.2⟩; have HB := Lib.hid (below_then HB.out hb); clear hb)
                  | (go_at_call 7; refine (CX.out _ HB.out).mono ?_; rintro e v9 ⟨rfl, hb⟩; have C4 : Hid (v9.cell? ed = some (.string a1) ∧ v9.cell? { block := ed.block, off := ed.off + 1 } = some (.string b1) ∧ v9.cell? ⟨w.heap.size, 0, none⟩ = some (.string a1) ∧ v9.cell? ⟨w.heap.size, 1, none⟩ = some (.string b1)) := ⟨cell_kept hb C4.out.1, cell_kept hb C4.out.2.1, cell_kept hb C4.out.2.2.1, cell_kept hb C4.out.2.2.2⟩; have HB := Lib.hid (below_then HB.out hb); clear hb))
                go_wp2_with fail
                go_ret
                exact ⟨rfl, HB.out⟩
              · have HT := Lib.hid (HMM.out.tail hcm)
                clear HL0 HMM
                generalize X.length = n at *
                have HW1 : IntKind.i64.wrap ((n : Int) + 1) = (n : Int) + 1 := by rw [IntKind.wrap_i64]; omega
                have HL1 : ((n + 1 : Nat) : Int) = (n : Int) + 1 := by omega
                have HL2 : (1 : Int) ≤ (n : Int) + 1 := by omega
                have HL3 : (0 : Int) < (n : Int) + 1 := by omega
                have HL4 : (n : Int) + 1 ≤ (c2 : Int) := by omega
                have C4 : Hid (wr.drew.cell? ed = some (.string a1) ∧ wr.drew.cell? { block := ed.block, off := ed.off + 1 } = some (.string b1) ∧ wr.drew.cell? ⟨w.heap.size, 0, none⟩ = some (.string a1) ∧ wr.drew.cell? ⟨w.heap.size, 1, none⟩ = some (.string b1)) := ⟨he0, he1, z5a, z5b⟩
                have HB := Lib.hid HB.out.drew
                have HX := Lib.hid HX.out.drew
                have HT := Lib.hid HT.out.drew
                clear he0 he1 z5a z5b Z0
                go_wp2_with fail
                go_region_held3 (fun W => W.cell? ed = some (.string a1) ∧ W.cell? { block := ed.block, off := ed.off + 1 } = some (.string b1) ∧ W.cell? ⟨w.heap.size, 0, none⟩ = some (.string a1) ∧ W.cell? ⟨w.heap.size, 1, none⟩ = some (.string b1)) (exact C4.out) (first
                  | (go_at_call 17; refine (CS.out _ _ _ _ _ HT.out HX.out).mono ?_; rintro e v8 ⟨rfl, hb⟩; have C4 : Hid (v8.cell? ed = some (.string a1) ∧ v8.cell? { block := ed.block, off := ed.off + 1 } = some (.string b1) ∧ v8.cell? ⟨w.heap.size, 0, none⟩ = some (.string a1) ∧ v8.cell? ⟨w.heap.size, 1, none⟩ = some (.string b1)) := ⟨cell_kept hb C4.out.1, cell_kept hb C4.out.2.1, cell_kept hb C4.out.2.2.1, cell_kept hb C4.out.2.2.2⟩; have HB := Lib.hid (below_then HB.out hb); clear hb)
                  | (go_at_call 7; refine (CX.out _ HB.out).mono ?_; rintro e v9 ⟨rfl, hb⟩; have C4 : Hid (v9.cell? ed = some (.string a1) ∧ v9.cell? { block := ed.block, off := ed.off + 1 } = some (.string b1) ∧ v9.cell? ⟨w.heap.size, 0, none⟩ = some (.string a1) ∧ v9.cell? ⟨w.heap.size, 1, none⟩ = some (.string b1)) := ⟨cell_kept hb C4.out.1, cell_kept hb C4.out.2.1, cell_kept hb C4.out.2.2.1, cell_kept hb C4.out.2.2.2⟩; have HB := Lib.hid (below_then HB.out hb); clear hb))
                go_wp2_with fail
                go_ret
                exact ⟨rfl, HB.out⟩

theorem door_met (os : Os) (args : Array Value) : laidMetH Tryd.prog Rows.hopsMoreRow.laid ((World.laidAll Tryd.prog os Rows.hopsMoreRow.laid).forCall (fun _ _ => 0) ⟨#[], args, []⟩).memory := by
  rw [MakeChecks.laidMetH_plain _ _ _ (by kernel_rfl)]
  exact laidMet_laidAll _ (by kernel_rfl) (by kernel_rfl)

set_option maxRecDepth 100000 in
theorem lifted (os : Os) (started : os.Started) (H : Type) (enc : TypeId × Value → H) :
    ReturnsInHanded {} Tryd.checked os 5 .any (fun w args => (Rows.hopsMoreSpec.pre enc Tryd.prog Tryd.f5 [] false w args ∧ laidMetH Tryd.prog Rows.hopsMoreRow.laid w) ∧ sizedMet enc Tryd.prog Tryd.f5 (OpenSpec.ofChange Rows.hopsMoreSpec) false w args) (Rows.hopsMoreSpec.post enc Tryd.prog Tryd.f5 false true false false) := by
  refine returnsInHanded_of_change_and (C := Tryd.checked) (X := fun w _ => laidMetH Tryd.prog Rows.hopsMoreRow.laid w) (fun _ _ _ hh h => h.of_heap hh) own started (by kernel_rfl) Tryd.func5
    (ChangeSpec.witness_shaped (enc := enc) (C := Tryd.checked) (os := os) (X := fun w _ => laidMetH Tryd.prog Rows.hopsMoreRow.laid w) false (World.laidAll Tryd.prog os Rows.hopsMoreRow.laid) #[.slice none 0 0, .agg #[.string ByteArray.empty, .string ByteArray.empty]] 8 rfl (World.shaped_of_ZipB (by kernel_rfl) (by kernel_rfl)) (by kernel_rfl) (by kernel_rfl) (by kernel_rfl) (door_met os _)) ?_
  intro W base args ds gs before hval0 hW _ _ hL _
  have hval : ∀ (j : Nat) t v, Tryd.f5.params[j]? = some t → args[j]? = some v → Value.okWide Tryd.prog W .any base t v := hval0
  have hW' := hW
  obtain ⟨p, q, hA0, hV, rfl, hfz, hnd⟩ := hW
  have hA : DataW.TrodAll enc Tryd.prog W 0 (fun _ => true) true Tryd.f5.params.toList args.toList ds p := hA0
  rw [Tryd.params5] at hA hval
  obtain ⟨v0, vs0, d0, ds0, p0, q0, hargs, rfl, rfl, h0, r0⟩ := trodAll_cons hA
  obtain ⟨v1, vs1, d1, ds1, p1, q1, rfl, rfl, rfl, h1, r1⟩ := trodAll_cons r0
  obtain ⟨rfl, rfl, rfl⟩ := trodAll_nil r1
  obtain rfl : args = #[v0, v1] := by cases args; simp_all
  obtain ⟨rfl, rfl⟩ := trodVars_none hV
  obtain ⟨a0, len0, cap0, rfl⟩ := okWide_slice Tryd.underlying22 (hval 0 22 v0 rfl rfl)
  have k0 := h0
  have lt0 : ∀ x ∈ p0, x.block < W.heap.size := by obtain ⟨m, hm⟩ := k0; exact DataW.trod_lt m _ _ _ hm
  obtain ⟨z0, w0⟩ := SlF.of_trod Tryd.underlying22 Tryd.underlying33 (by kernel_rfl) rfl rfl (by kernel_rfl) (by kernel_rfl) Tryd.underlying9 Tryd.underlying9 h0
  obtain ⟨f0, f1, y0, y1, m, rfl, rfl, rfl, hy0, hy1⟩ := Go.Joins.open_agg2 Tryd.underlying33 (by kernel_rfl) (by kernel_rfl) (hval 1 33 v1 rfl rfl) h1
  obtain ⟨a1, e0, rfl, wa⟩ := DataW.trod_string Tryd.underlying9 hy0
  obtain ⟨b1, e1, rfl, wb⟩ := DataW.trod_string Tryd.underlying9 hy1
  simp at e0 e1
  subst e0 e1
  have w1 := And.intro wa wb
  clear hA0 hval0
  refine (walk a0 len0 cap0 z0 a1 b1 W w0 w1 hL).mono fun e W' ⟨he, bel⟩ => ?_
  subst he
  exact ⟨_, rfl, _, _, _, [], _, [], hW', trodAll_mk1 (shut_bool Tryd.underlying4 _), (trodAll_cons_mk (Below.trod laidOut (by kernel_rfl) (of_decide_eq_true (by kernel_rfl)) k0 bel lt0) (trodAll_cons_mk (Go.Joins.shut_agg2 Tryd.underlying33 (by kernel_rfl) (by kernel_rfl) (Go.Joins.field_of_Trod (shut_string Tryd.underlying9 w1.1) rfl) (Go.Joins.field_of_Trod (shut_string Tryd.underlying9 w1.2) rfl)) trodAll_mk0)), rfl, bel.frame _, fun h => by cases h⟩

theorem over : Rows.hopsMoreRow.holds Tryd.pinned (OpenSpec.ofChange Rows.hopsMoreSpec) :=
  OpenClaim.holds_of_wide 5 Tryd.f5 rfl rfl rfl rfl rfl rfl rfl ⟨rfl, rfl, rfl, rfl, rfl⟩ rfl rfl rfl rfl rfl (by kernel_rfl) Tryd.func5 (by kernel_rfl)
    (of_decide_eq_true (by kernel_rfl)) (by unfold Func.isWrapper; first | (rw [if_pos (by decide +kernel)]; kernel_rfl) | (rw [if_neg (by decide +kernel)]; exact ⟨rfl, rfl⟩))
    (fun os started H enc _ => lifted os started H enc)

theorem said : Rows.HopsMoreSaid :=
  over

theorem plain (f : FuncId) (fn : Func) (hf : Tryd.pinned.checked.prog.funcNamed "depot/depotlaw16.HopsMore" = some f) (hfn : Tryd.pinned.checked.prog.funcs[f]? = some fn) :
    false = Tryd.pinned.checked.prog.looks [] ∧ ∀ (j : Nat) t, fn.params[j]? = some t → Tryd.pinned.checked.prog.wantsStandIn t = false := by
  obtain rfl : f = 5 := Option.some.inj ((show Tryd.prog.funcNamed "depot/depotlaw16.HopsMore" = some 5 by kernel_rfl).symm.trans hf) |>.symm
  obtain rfl : fn = Tryd.f5 := (Option.some.inj (Tryd.func5.symm.trans hfn)).symm
  refine ⟨by kernel_rfl, fun j t ht => ?_⟩
  rw [Tryd.params5] at ht
  · have hm := Array.mem_of_getElem? ht
    simp only [List.mem_toArray, List.mem_cons, List.not_mem_nil, or_false] at hm
    have all : Tryd.pinned.checked.prog.wantsStandIn 22 = false ∧ Tryd.pinned.checked.prog.wantsStandIn 33 = false := ⟨by kernel_rfl, by kernel_rfl⟩
    rcases hm with rfl | rfl
    all_goals first | with_reducible exact all.1 | with_reducible exact all.2

theorem proved : Rows.HopsMoreCardSaid :=
  Claim7.holds_tied_plain_at .later [] _ _ _ _ said (fun _ h => by cases h) (by kernel_rfl) (fun _ h => by cases h) hopsMore_row_tie rfl ⟨rfl, rfl⟩ (by kernel_rfl) rfl plain (by kernel_rfl)
#print axioms proved
end Go.Proofs.YtmkjjidilfhojaaDoor.hopsMore
