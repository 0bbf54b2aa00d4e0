/-
  The law CondsTold (depotlaw19) returns true for every request and every reply, and leaves what it was given as it was. No condition.
-/
import Derived.Test.YtjkfdjolhmgemaaGreatDoorRows
import Derived.WalkKit
import Derived.ProofKit
import Derived.OpenShut
import Derived.ShutString
import Derived.ChangeOld
import Derived.Below
import Derived.Test.YtjkfdjolhmgemaaGreatDoorMrgB
import Derived.Test.YtjkfdjolhmgemaaGreatDoorMrgD
import Derived.Test.YtjkfdjolhmgemaaGreatDoorMrgE
import Derived.Test.YtjkfdjolhmgemaaGreatDoorMrgF
import Derived.Test.YtjkfdjolhmgemaaGreatDoorMrgG
import Derived.Test.YtjkfdjolhmgemaaGreatDoorMrgI
import Derived.Test.YtjkfdjolhmgemaaGreatDoorMrgR
import Derived.Test.YtjkfdjolhmgemaaGreatDoorMrgT
import Derived.Test.YtjkfdjolhmgemaaGreatDoorMrgU
import Derived.Test.YtjkfdjolhmgemaaGreatDoorMrgX
import Derived.Test.YtjkfdjolhmgemaaGreatDoorMrgAB
import Derived.Test.YtjkfdjolhmgemaaGreatDoorMrgAC
import Derived.Test.YtjkfdjolhmgemaaGreatDoorMrgAD
import Derived.Test.YtjkfdjolhmgemaaGreatDoorMrgAE
import Derived.Test.YtjkfdjolhmgemaaGreatDoorMrgAF
import Derived.Test.YtjkfdjolhmgemaaGreatDoorMrgAI
import Derived.Test.YtjkfdjolhmgemaaGreatDoorMrgAL
import Derived.Test.YtjkfdjolhmgemaaGreatDoorMrgAM
import Derived.Test.YtjkfdjolhmgemaaGreatDoorMrgAN
import Derived.Test.YtjkfdjolhmgemaaGreatDoorMrgAR
import Derived.Test.YtjkfdjolhmgemaaGreatDoorMrgAS
import Derived.Test.YtjkfdjolhmgemaaGreatDoorMrgAT
import Derived.Test.YtjkfdjolhmgemaaGreatDoorMrgAU
import Derived.Test.YtjkfdjolhmgemaaGreatDoorMrgAV
import Derived.Test.YtjkfdjolhmgemaaGreatDoorMrgAW
import Derived.Test.YtjkfdjolhmgemaaGreatDoorMrgAX
import Derived.Deep.RegionHeld3
import Derived.Test.YtjkfdjolhmgemaaGreatDoorCards
import Derived.Test.YtjkfdjolhmgemaaGreatDoorTie
import Derived.LaidMore
import Derived.Lib.LaidTab
import Derived.Stop.Joined
import Derived.Lay
set_option linter.unusedSimpArgs false
set_option linter.unusedVariables false
namespace Go.Proofs.YtjkfdjolhmgemaaGreatDoor.condsTold
open Go.ChangeShapes Go.WideShapes Go.ChangeAt Go.RowKit
open Go.ChangeMaps (open_string shut_string)
set_option linter.unusedVariables false

theorem own : ownKnob Tryz.prog.godebug = none := by kernel_rfl
theorem laidOut : laidOutB Tryz.prog = true := by kernel_rfl

set_option maxHeartbeats 8000000 in
set_option maxRecDepth 100000 in
theorem walk (a0 : Rqst) (A0 : Option Addr) (c0 : Nat) (a1 : Rply) (A1 : Option Addr) (c1 : Nat) (w : World) (w0 : WfQ w a0 A0 c0) (w1 : WfP w a1 A1 c1) (hL : laidMetH Tryz.prog Rows.condsToldRow.laid w) (hsh : w.ShapedOpen Tryz.prog) :
    Calls Tryz.prog 6 #[.agg (rqC a0 A0 c0), .agg (rpC a1 A1 c1)] w fun e w' => e = .returned (.bool true) ∧ Below w.heap.size w w' := by
  have HT := Lib.hid (conTabs hL)
  clear hL hsh
  have CX := Lib.hid (fun W (hW : Below w.heap.size w W) => ex19_any W (HT.out.kept hW))
  have HFQ := Lib.hid (fun W (hW : Below w.heap.size w W) => w0.f.below hW)
  have HFP := Lib.hid (fun W (hW : Below w.heap.size w W) => w1.f.below hW)
  have hQ0 := w0.f
  have hP0 := w1.f
  have kq := fun W (hW : Below w.heap.size w W) => r_fewQ5 a0 A0 c0 W (w0.f.below hW)
  have kp := fun W (hW : Below w.heap.size w W) => r_fewP5 a1 A1 c1 W (w1.f.below hW)
  have hqy := fun h => fwQ5_yes (r := a0) h
  have hpy := fun h => fwP5_yes (p := a1) h
  cases hq : fwQ5 a0 with
  | false =>
    rw [hq] at kq
    have KQ := Lib.hid kq
    clear kq kp hqy hpy hq HFQ HFP hQ0 hP0 w0 w1
    obtain ⟨m, t, v, f, b⟩ := a0
    obtain ⟨pc, pr, pv, g, pb⟩ := a1
    unfold rqC rpC at *
    simp only at *
    have HB : Hid (Below w.heap.size w ((w.alloc (.cells #[.string m, .string t, .int .i64 v, .slice A0 f.length c0, .string b] 24)).alloc (.cells #[.int .i64 pc, .string pr, .int .i64 pv, .slice A1 g.length c1, .string pb] 26))) := ((Below.refl _ _).alloc (Nat.le_refl _) _).alloc (by simp) _
    have ZQ : Hid (((w.alloc (.cells #[.string m, .string t, .int .i64 v, .slice A0 f.length c0, .string b] 24)).alloc (.cells #[.int .i64 pc, .string pr, .int .i64 pv, .slice A1 g.length c1, .string pb] 26)).heap[w.heap.size]? = some (.cells #[.string m, .string t, .int .i64 v, .slice A0 f.length c0, .string b] 24 (0, 0))) := zero_more (heap_alloc_new w _)
    have zt := heap_alloc_new (w.alloc (.cells #[.string m, .string t, .int .i64 v, .slice A0 f.length c0, .string b] 24)) (.cells #[.int .i64 pc, .string pr, .int .i64 pv, .slice A1 g.length c1, .string pb] 26)
    rw [show (w.alloc (.cells #[.string m, .string t, .int .i64 v, .slice A0 f.length c0, .string b] 24)).heap.size = w.heap.size + 1 by simp] at zt
    have ZP := Lib.hid zt
    clear zt
    obtain ⟨qq0, qq1, qq2, qq3, qq4⟩ := cel5r ZQ.out
    obtain ⟨pq0, pq1, pq2, pq3, pq4⟩ := cel5r ZP.out
    go_enter Tryz.func6, Tryz.ntmps6
    go_wp2_with fail
    refine (KQ.out _ HB.out).mono ?_
    rintro e v1 ⟨rfl, hb⟩
    clear qq0 qq1 qq2 qq3 qq4 pq0 pq1 pq2 pq3 pq4
    replace ZQ := Lib.hid (zero_still hb ZQ.out)
    replace ZP := Lib.hid (zero_still hb ZP.out)
    replace HB := Lib.hid (below_then HB.out hb)
    clear hb
    obtain ⟨qq0, qq1, qq2, qq3, qq4⟩ := cel5r ZQ.out
    obtain ⟨pq0, pq1, pq2, pq3, pq4⟩ := cel5r ZP.out
    go_wp2_with fail
    refine (CX.out _ HB.out).mono ?_
    rintro e v99 ⟨rfl, hb⟩
    go_wp2_with fail
    go_ret
    exact ⟨rfl, below_then HB.out hb⟩
  | true =>
    cases hp : fwP5 a1 with
    | false =>
      rw [hq] at kq
      rw [hp] at kp
      have KQ := Lib.hid kq
      have KP := Lib.hid kp
      clear kq kp hqy hpy hq hp HFQ HFP hQ0 hP0 w0 w1
      obtain ⟨m, t, v, f, b⟩ := a0
      obtain ⟨pc, pr, pv, g, pb⟩ := a1
      unfold rqC rpC at *
      simp only at *
      have HB : Hid (Below w.heap.size w ((w.alloc (.cells #[.string m, .string t, .int .i64 v, .slice A0 f.length c0, .string b] 24)).alloc (.cells #[.int .i64 pc, .string pr, .int .i64 pv, .slice A1 g.length c1, .string pb] 26))) := ((Below.refl _ _).alloc (Nat.le_refl _) _).alloc (by simp) _
      have ZQ : Hid (((w.alloc (.cells #[.string m, .string t, .int .i64 v, .slice A0 f.length c0, .string b] 24)).alloc (.cells #[.int .i64 pc, .string pr, .int .i64 pv, .slice A1 g.length c1, .string pb] 26)).heap[w.heap.size]? = some (.cells #[.string m, .string t, .int .i64 v, .slice A0 f.length c0, .string b] 24 (0, 0))) := zero_more (heap_alloc_new w _)
      have zt := heap_alloc_new (w.alloc (.cells #[.string m, .string t, .int .i64 v, .slice A0 f.length c0, .string b] 24)) (.cells #[.int .i64 pc, .string pr, .int .i64 pv, .slice A1 g.length c1, .string pb] 26)
      rw [show (w.alloc (.cells #[.string m, .string t, .int .i64 v, .slice A0 f.length c0, .string b] 24)).heap.size = w.heap.size + 1 by simp] at zt
      have ZP := Lib.hid zt
      clear zt
      obtain ⟨qq0, qq1, qq2, qq3, qq4⟩ := cel5r ZQ.out
      obtain ⟨pq0, pq1, pq2, pq3, pq4⟩ := cel5r ZP.out
      go_enter Tryz.func6, Tryz.ntmps6
      go_wp2_with fail
      refine (KQ.out _ HB.out).mono ?_
      rintro e v2 ⟨rfl, hb⟩
      clear qq0 qq1 qq2 qq3 qq4 pq0 pq1 pq2 pq3 pq4
      replace ZQ := Lib.hid (zero_still hb ZQ.out)
      replace ZP := Lib.hid (zero_still hb ZP.out)
      replace HB := Lib.hid (below_then HB.out hb)
      clear hb
      obtain ⟨qq0, qq1, qq2, qq3, qq4⟩ := cel5r ZQ.out
      obtain ⟨pq0, pq1, pq2, pq3, pq4⟩ := cel5r ZP.out
      go_wp2_with fail
      refine (KP.out _ HB.out).mono ?_
      rintro e v3 ⟨rfl, hb⟩
      clear qq0 qq1 qq2 qq3 qq4 pq0 pq1 pq2 pq3 pq4
      replace ZQ := Lib.hid (zero_still hb ZQ.out)
      replace ZP := Lib.hid (zero_still hb ZP.out)
      replace HB := Lib.hid (below_then HB.out hb)
      clear hb
      obtain ⟨qq0, qq1, qq2, qq3, qq4⟩ := cel5r ZQ.out
      obtain ⟨pq0, pq1, pq2, pq3, pq4⟩ := cel5r ZP.out
      go_wp2_with fail
      refine (CX.out _ HB.out).mono ?_
      rintro e v99 ⟨rfl, hb⟩
      go_wp2_with fail
      go_ret
      exact ⟨rfl, below_then HB.out hb⟩
    | true =>
      rw [hq] at kq
      rw [hp] at kp
      have KQ := Lib.hid kq
      have KP := Lib.hid kp
      have hQ := (hqy hq).1
      have hQn := (hqy hq).2.1
      have hL := (hpy hp).1
      clear kq kp hqy hpy hq hp w0 w1
      have hFA := ask_fwl hQ hQn hL
      have hFN := nt_fwl hL
      have hts := tag_size hL
      have hgot := ask_got a0.f a1.f
      have hjn := ask_join (Q := a0.f) (L := a1.f)
      have hdr := ask_drop a0.f a1.f
      have hsel := fun h => told_sel (L := a1.f) h
      have hsat := fun h => told_sat (Q := a0.f) (L := a1.f) (m := (⟨#[71, 69, 84]⟩ : ByteArray)) (by rw [Lib.toList_data]) h
      have K1 := Lib.hid (fun W (hW : Below w.heap.size w W) => reuG_any a1 A1 c1 W (HFP.out W hW) hL)
      have K2 := Lib.hid (fun W (hW : Below w.heap.size w W) => conN_any a1 A1 c1 W (HFP.out W hW) hL (HT.out.kept hW))
      have K3 := Lib.hid (fun W (hW : Below w.heap.size w W) => conA_any a0 A0 c0 a1 A1 c1 W (HFQ.out W hW) hQ (HFP.out W hW) hL (HT.out.kept hW))
      have hal : (askF a0.f a1.f).length ≤ 1000 := hFA.n
      have K4 := Lib.hid (fun W A c (h : SlF W A (askF a0.f a1.f).length c (askF a0.f a1.f)) => getF_any A _ c (askF a0.f a1.f) nnS W h (by omega) (fwl_bd hFA) (by decide) (by omega))
      have K5 := Lib.hid (fun W => etS_any (rtO a1.f) (by omega) W)
      have K6 := Lib.hid (fun W A c B (h : SlF W A (askF a0.f a1.f).length c (askF a0.f a1.f)) (h' : SlS W B 2 2 cndN) => drop_any A B _ c 2 2 (askF a0.f a1.f) cndN W h (by omega) (fwl_bd hFA) h' (by decide) (by decide))
      have hqn : a0.f.length ≤ 1000 := hQ.n
      have K7 := Lib.hid (fun W B (h : SlF W A0 a0.f.length c0 a0.f) (h' : SlS W B 2 2 cndN) => drop_any A0 B _ c0 2 2 a0.f cndN W h (by omega) (fwl_bd hQ) h' (by decide) (by decide))
      rw [hdr] at K6
      have hdl : (fdDrop a0.f cndN).length ≤ 1000 := Nat.le_trans (List.length_filter_le _ _) hqn
      have hdz : ∀ x ∈ fdDrop a0.f cndN, x.1.size ≤ maxLen ∧ x.2.size ≤ maxLen := fun x hx => hQ0.sz x (List.mem_filter.1 hx).1
      have K8 := Lib.hid (fun W A B c d (h : SlF W A (fdDrop a0.f cndN).length c (fdDrop a0.f cndN)) (h' : SlF W B (fdDrop a0.f cndN).length d (fdDrop a0.f cndN)) => rf_equal A B _ c _ d _ _ W h h' (by omega))
      simp only [bthP_refl eqF eqF_refl] at K8
      have K9 := Lib.hid (fun W t A c (h : SlF W A (askF a0.f a1.f).length c (askF a0.f a1.f)) (hW : SlF W A1 a1.f.length c1 a1.f) (hb : Below w.heap.size w W) => conS_any ⟨⟨#[71, 69, 84]⟩, t, 1, askF a0.f a1.f, ⟨#[]⟩⟩ A c ⟨200, a1.r, a1.v, a1.f, a1.b⟩ A1 c1 W h hFA hW hL (HT.out.kept hb))
      have K10 := Lib.hid (fun W B d (h : SlF W B (ntF a1.f).length d (ntF a1.f)) (hW : SlF W A1 a1.f.length c1 a1.f) => conL_any ⟨200, a1.r, a1.v, a1.f, a1.b⟩ A1 c1 ⟨304, nmodS, 1, ntF a1.f, ⟨#[]⟩⟩ B d W hW hL h hFN)
      have HDZ := Lib.hid hdz
      have HSQ : Hid (SlF w A0 a0.f.length c0 a0.f) := hQ0
      have HSP : Hid (SlF w A1 a1.f.length c1 a1.f) := hP0
      cases hb : rtB a1.f
      · skip
        rw [hb] at hgot
        have hg1 := hgot.1
        simp only [hg1] at K4
        clear K9 K10 K5
        simp only [hb] at K1
        clear hgot hsel hsat hdz hQ0 hP0 hb hFA hFN hts hjn hdr hQ hQn hL hal hqn hdl HFQ HFP hg1
        generalize rtO a1.f = tg at *
        obtain ⟨ta, tb⟩ := tg
        unfold tgV at *
        simp only at *
        generalize tgS (ta, tb) = TT at *
        generalize ntF a1.f = FN at *
        generalize fdGet (askF a0.f a1.f) nnS = GV at *
        generalize askF a0.f a1.f = FA at *
        generalize fdDrop a0.f cndN = FD at *
        obtain ⟨m, t, v, f, b⟩ := a0
        obtain ⟨pc, pr, pv, g, pb⟩ := a1
        unfold rqC rpC at *
        simp only at *
        have e2 : (t.toList != t.toList) = false := by simp
        have HB : Hid (Below w.heap.size w ((w.alloc (.cells #[.string m, .string t, .int .i64 v, .slice A0 f.length c0, .string b] 24)).alloc (.cells #[.int .i64 pc, .string pr, .int .i64 pv, .slice A1 g.length c1, .string pb] 26))) := ((Below.refl _ _).alloc (Nat.le_refl _) _).alloc (by simp) _
        have ZQ : Hid (((w.alloc (.cells #[.string m, .string t, .int .i64 v, .slice A0 f.length c0, .string b] 24)).alloc (.cells #[.int .i64 pc, .string pr, .int .i64 pv, .slice A1 g.length c1, .string pb] 26)).heap[w.heap.size]? = some (.cells #[.string m, .string t, .int .i64 v, .slice A0 f.length c0, .string b] 24 (0, 0))) := zero_more (heap_alloc_new w _)
        have zt := heap_alloc_new (w.alloc (.cells #[.string m, .string t, .int .i64 v, .slice A0 f.length c0, .string b] 24)) (.cells #[.int .i64 pc, .string pr, .int .i64 pv, .slice A1 g.length c1, .string pb] 26)
        rw [show (w.alloc (.cells #[.string m, .string t, .int .i64 v, .slice A0 f.length c0, .string b] 24)).heap.size = w.heap.size + 1 by simp] at zt
        have ZP := Lib.hid zt
        clear zt
        obtain ⟨qq0, qq1, qq2, qq3, qq4⟩ := cel5r ZQ.out
        obtain ⟨pq0, pq1, pq2, pq3, pq4⟩ := cel5r ZP.out
        go_enter Tryz.func6, Tryz.ntmps6
        go_wp2_with fail
        refine (KQ.out _ HB.out).mono ?_
        rintro e v4 ⟨rfl, hb⟩
        clear qq0 qq1 qq2 qq3 qq4 pq0 pq1 pq2 pq3 pq4
        replace ZQ := Lib.hid (zero_still hb ZQ.out)
        replace ZP := Lib.hid (zero_still hb ZP.out)
        replace HB := Lib.hid (below_then HB.out hb)
        clear hb
        obtain ⟨qq0, qq1, qq2, qq3, qq4⟩ := cel5r ZQ.out
        obtain ⟨pq0, pq1, pq2, pq3, pq4⟩ := cel5r ZP.out
        go_wp2_with fail
        refine (KP.out _ HB.out).mono ?_
        rintro e v5 ⟨rfl, hb⟩
        clear qq0 qq1 qq2 qq3 qq4 pq0 pq1 pq2 pq3 pq4
        replace ZQ := Lib.hid (zero_still hb ZQ.out)
        replace ZP := Lib.hid (zero_still hb ZP.out)
        replace HB := Lib.hid (below_then HB.out hb)
        clear hb
        obtain ⟨qq0, qq1, qq2, qq3, qq4⟩ := cel5r ZQ.out
        obtain ⟨pq0, pq1, pq2, pq3, pq4⟩ := cel5r ZP.out
        go_wp2_with fail
        refine (K1.out _ HB.out).mono ?_
        rintro e v6 ⟨rfl, hb⟩
        clear qq0 qq1 qq2 qq3 qq4 pq0 pq1 pq2 pq3 pq4
        replace ZQ := Lib.hid (zero_still hb ZQ.out)
        replace ZP := Lib.hid (zero_still hb ZP.out)
        replace HB := Lib.hid (below_then HB.out hb)
        clear hb
        have hbu : Below v6.heap.size v6 (v6.alloc (.cells #[.bool ta, .string tb] 49)) := (Below.refl _ _).alloc (Nat.le_refl _) _
        have nZQbt : w.heap.size < v6.heap.size := (Array.getElem?_eq_some_iff.1 ZQ.out).1
        have nZPbt : w.heap.size + 1 < v6.heap.size := (Array.getElem?_eq_some_iff.1 ZP.out).1
        replace ZQ := Lib.hid (zero_still hbu ZQ.out)
        replace ZP := Lib.hid (zero_still hbu ZP.out)
        replace HB := Lib.hid (below_then HB.out hbu)
        have zn := heap_alloc_new v6 (.cells #[.bool ta, .string tb] 49)
        obtain ⟨bt, hbt⟩ : ∃ q, v6.heap.size = q := ⟨_, rfl⟩
        rw [hbt] at zn
        rw [hbt] at nZQbt
        rw [hbt] at nZPbt
        have ZT := Lib.hid zn
        clear hbu zn
        obtain ⟨qq0, qq1, qq2, qq3, qq4⟩ := cel5r ZQ.out
        obtain ⟨pq0, pq1, pq2, pq3, pq4⟩ := cel5r ZP.out
        obtain ⟨tq0, tq1⟩ := zero_two ZT.out
        go_wp2_with fail
        refine (K2.out _ HB.out).mono ?_
        rintro e v7 ⟨A3, c3, rfl, hs, hf, hb⟩
        have DN := Lib.hid (hf.dis FN.length (Array.getElem?_eq_some_iff.1 ZP.out).1)
        clear qq0 qq1 qq2 qq3 qq4 pq0 pq1 pq2 pq3 pq4 tq0 tq1
        replace ZQ := Lib.hid (zero_still hb ZQ.out)
        replace ZP := Lib.hid (zero_still hb ZP.out)
        replace ZT := Lib.hid (zero_still hb ZT.out)
        replace HB := Lib.hid (below_then HB.out hb)
        have SN := Lib.hid hs
        clear hs
        clear hb
        clear hf
        have hbu : Below v7.heap.size v7 (v7.alloc (.cells #[.int .i64 304, .string nmodS, .int .i64 1, .slice A3 FN.length c3, .string ⟨#[]⟩] 26)) := (Below.refl _ _).alloc (Nat.le_refl _) _
        have dSNbn : DisA A3 FN.length v7.heap.size := SN.out.dis (Nat.le_refl _)
        clear dSNbn
        have nZQbn : w.heap.size < v7.heap.size := (Array.getElem?_eq_some_iff.1 ZQ.out).1
        have nZPbn : w.heap.size + 1 < v7.heap.size := (Array.getElem?_eq_some_iff.1 ZP.out).1
        have nZTbn : bt < v7.heap.size := (Array.getElem?_eq_some_iff.1 ZT.out).1
        replace ZQ := Lib.hid (zero_still hbu ZQ.out)
        replace ZP := Lib.hid (zero_still hbu ZP.out)
        replace ZT := Lib.hid (zero_still hbu ZT.out)
        replace SN := Lib.hid (SN.out.below hbu)
        replace HB := Lib.hid (below_then HB.out hbu)
        have zn := heap_alloc_new v7 (.cells #[.int .i64 304, .string nmodS, .int .i64 1, .slice A3 FN.length c3, .string ⟨#[]⟩] 26)
        obtain ⟨bn, hbn⟩ : ∃ q, v7.heap.size = q := ⟨_, rfl⟩
        rw [hbn] at zn
        rw [hbn] at nZQbn
        rw [hbn] at nZPbn
        rw [hbn] at nZTbn
        have ZN := Lib.hid zn
        clear hbu zn
        obtain ⟨qq0, qq1, qq2, qq3, qq4⟩ := cel5r ZQ.out
        obtain ⟨pq0, pq1, pq2, pq3, pq4⟩ := cel5r ZP.out
        obtain ⟨tq0, tq1⟩ := zero_two ZT.out
        obtain ⟨nq0, nq1, nq2, nq3, nq4⟩ := cel5r ZN.out
        go_wp2_with fail
        refine (K3.out _ HB.out).mono ?_
        rintro e v8 ⟨A4, c4, rfl, hs, hf, hb⟩
        have DA := Lib.hid (hf.dis FA.length (Array.getElem?_eq_some_iff.1 ZP.out).1)
        clear qq0 qq1 qq2 qq3 qq4 pq0 pq1 pq2 pq3 pq4 tq0 tq1 nq0 nq1 nq2 nq3 nq4
        replace ZQ := Lib.hid (zero_still hb ZQ.out)
        replace ZP := Lib.hid (zero_still hb ZP.out)
        replace ZT := Lib.hid (zero_still hb ZT.out)
        replace ZN := Lib.hid (zero_still hb ZN.out)
        replace SN := Lib.hid (SN.out.below hb)
        replace HB := Lib.hid (below_then HB.out hb)
        have SA := Lib.hid hs
        clear hs
        clear hb
        clear hf
        have hbu : Below v8.heap.size v8 (v8.alloc (.cells #[.string ⟨#[71, 69, 84]⟩, .string t, .int .i64 1, .slice A4 FA.length c4, .string ⟨#[]⟩] 24)) := (Below.refl _ _).alloc (Nat.le_refl _) _
        have dSNba : DisA A3 FN.length v8.heap.size := SN.out.dis (Nat.le_refl _)
        clear dSNba
        have dSAba : DisA A4 FA.length v8.heap.size := SA.out.dis (Nat.le_refl _)
        clear dSAba
        have nZQba : w.heap.size < v8.heap.size := (Array.getElem?_eq_some_iff.1 ZQ.out).1
        have nZPba : w.heap.size + 1 < v8.heap.size := (Array.getElem?_eq_some_iff.1 ZP.out).1
        have nZTba : bt < v8.heap.size := (Array.getElem?_eq_some_iff.1 ZT.out).1
        have nZNba : bn < v8.heap.size := (Array.getElem?_eq_some_iff.1 ZN.out).1
        replace ZQ := Lib.hid (zero_still hbu ZQ.out)
        replace ZP := Lib.hid (zero_still hbu ZP.out)
        replace ZT := Lib.hid (zero_still hbu ZT.out)
        replace ZN := Lib.hid (zero_still hbu ZN.out)
        replace SN := Lib.hid (SN.out.below hbu)
        replace SA := Lib.hid (SA.out.below hbu)
        replace HB := Lib.hid (below_then HB.out hbu)
        have zn := heap_alloc_new v8 (.cells #[.string ⟨#[71, 69, 84]⟩, .string t, .int .i64 1, .slice A4 FA.length c4, .string ⟨#[]⟩] 24)
        obtain ⟨ba, hba⟩ : ∃ q, v8.heap.size = q := ⟨_, rfl⟩
        rw [hba] at zn
        rw [hba] at nZQba
        rw [hba] at nZPba
        rw [hba] at nZTba
        rw [hba] at nZNba
        have ZA := Lib.hid zn
        clear hbu zn
        obtain ⟨qq0, qq1, qq2, qq3, qq4⟩ := cel5r ZQ.out
        obtain ⟨pq0, pq1, pq2, pq3, pq4⟩ := cel5r ZP.out
        obtain ⟨tq0, tq1⟩ := zero_two ZT.out
        obtain ⟨nq0, nq1, nq2, nq3, nq4⟩ := cel5r ZN.out
        obtain ⟨aq0, aq1, aq2, aq3, aq4⟩ := cel5r ZA.out
        go_wp2_with fail
        refine (K4.out _ _ _ SA.out).mono ?_
        rintro e v9 ⟨rfl, hb⟩
        clear qq0 qq1 qq2 qq3 qq4 pq0 pq1 pq2 pq3 pq4 tq0 tq1 nq0 nq1 nq2 nq3 nq4 aq0 aq1 aq2 aq3 aq4
        replace ZQ := Lib.hid (zero_still hb ZQ.out)
        replace ZP := Lib.hid (zero_still hb ZP.out)
        replace ZT := Lib.hid (zero_still hb ZT.out)
        replace ZN := Lib.hid (zero_still hb ZN.out)
        replace ZA := Lib.hid (zero_still hb ZA.out)
        replace SN := Lib.hid (SN.out.below hb)
        replace SA := Lib.hid (SA.out.below hb)
        replace HB := Lib.hid (below_then HB.out hb)
        clear hb
        obtain ⟨qq0, qq1, qq2, qq3, qq4⟩ := cel5r ZQ.out
        obtain ⟨pq0, pq1, pq2, pq3, pq4⟩ := cel5r ZP.out
        obtain ⟨tq0, tq1⟩ := zero_two ZT.out
        obtain ⟨nq0, nq1, nq2, nq3, nq4⟩ := cel5r ZN.out
        obtain ⟨aq0, aq1, aq2, aq3, aq4⟩ := cel5r ZA.out
        go_upto_region 9 with fail
        clear qq0 qq1 qq2 qq3 qq4 pq0 pq1 pq2 pq3 pq4 tq0 tq1 nq0 nq1 nq2 nq3 nq4 aq0 aq1 aq2 aq3 aq4
        obtain ⟨W0, hW0⟩ : ∃ W, W = v9 := ⟨_, rfl⟩
        rw [← hW0] at HB ZQ ZP ZT ZN ZA SN SA ⊢
        clear hW0
        have SQ := Lib.hid (HSQ.out.below HB.out)
        go_cut [74] (fun s wx => s = .bool false ∧ Hid (wx.heap[w.heap.size]? = some (.cells #[.string m, .string t, .int .i64 v, .slice A0 f.length c0, .string b] 24 (0, 0))) ∧ Hid (wx.heap[w.heap.size + 1]? = some (.cells #[.int .i64 pc, .string pr, .int .i64 pv, .slice A1 g.length c1, .string pb] 26 (0, 0))) ∧ Hid (wx.heap[bt]? = some (.cells #[.bool ta, .string tb] 49 (0, 0))) ∧ Hid (wx.heap[bn]? = some (.cells #[.int .i64 304, .string nmodS, .int .i64 1, .slice A3 FN.length c3, .string ⟨#[]⟩] 26 (0, 0))) ∧ Hid (wx.heap[ba]? = some (.cells #[.string ⟨#[71, 69, 84]⟩, .string t, .int .i64 1, .slice A4 FA.length c4, .string ⟨#[]⟩] 24 (0, 0))) ∧ Hid (SlF wx A3 FN.length c3 FN) ∧ Hid (SlF wx A4 FA.length c4 FA) ∧ Hid (Below w.heap.size w wx))
        case first =>
          go_wp2_with fail
          obtain ⟨u1, hu1⟩ : ∃ W, W0.drew = W := ⟨_, rfl⟩
          replace ZQ : Hid (u1.heap[w.heap.size]? = some (.cells #[.string m, .string t, .int .i64 v, .slice A0 f.length c0, .string b] 24 (0, 0))) := (by show _ = _; rw [← hu1]; exact ZQ.out)
          replace ZP : Hid (u1.heap[w.heap.size + 1]? = some (.cells #[.int .i64 pc, .string pr, .int .i64 pv, .slice A1 g.length c1, .string pb] 26 (0, 0))) := (by show _ = _; rw [← hu1]; exact ZP.out)
          replace ZT : Hid (u1.heap[bt]? = some (.cells #[.bool ta, .string tb] 49 (0, 0))) := (by show _ = _; rw [← hu1]; exact ZT.out)
          replace ZN : Hid (u1.heap[bn]? = some (.cells #[.int .i64 304, .string nmodS, .int .i64 1, .slice A3 FN.length c3, .string ⟨#[]⟩] 26 (0, 0))) := (by show _ = _; rw [← hu1]; exact ZN.out)
          replace ZA : Hid (u1.heap[ba]? = some (.cells #[.string ⟨#[71, 69, 84]⟩, .string t, .int .i64 1, .slice A4 FA.length c4, .string ⟨#[]⟩] 24 (0, 0))) := (by show _ = _; rw [← hu1]; exact ZA.out)
          replace HB : Hid (Below w.heap.size w u1) := (by show Below _ _ _; rw [← hu1]; exact HB.out.drew)
          replace SN := Lib.hid SN.out.drew
          rw [hu1] at SN
          replace SA := Lib.hid SA.out.drew
          rw [hu1] at SA
          replace SQ := Lib.hid SQ.out.drew
          rw [hu1] at SQ
          refine wp_region_held_drew (S := fun W => W.cell? ⟨ba, 3, none⟩ = some (.slice A4 FA.length c4) ∧ W.cell? ⟨w.heap.size, 3, none⟩ = some (.slice A0 f.length c0)) (by kernel_rfl) (by rw [hu1]; exact ⟨(cel5r ZA.out).2.2.2.1, (cel5r ZQ.out).2.2.2.1⟩) (fun hHeld => ?_)
          rw [hu1] at hHeld ⊢
          clear hu1
          refine takeY (i := 0) (v := ?_) rfl rfl (by kernel_rfl) (by kernel_rfl) (by kernel_rfl) (by rfl) (fun _ _ _ h => h) ?y1 (by assumption) ?r1
          case y1 => (intro w hSw; (try dsimp only at hSw); go_simp; try with_reducible rfl)
          try simp only [Act.put, List.setIfInBounds_toArray, List.set_cons_zero, List.set_cons_succ]
          refine takeY (i := 1) (v := ?_) rfl rfl (by kernel_rfl) (by kernel_rfl) (by kernel_rfl) (by rfl) (fun _ _ _ h => h) ?y2 (by assumption) ?r2
          case y2 => (intro w hSw; (try dsimp only at hSw); go_simp; try with_reducible rfl)
          try simp only [Act.put, List.setIfInBounds_toArray, List.set_cons_zero, List.set_cons_succ]
          refine takeY (i := 4) (v := ?_) rfl rfl (by kernel_rfl) (by kernel_rfl) (by kernel_rfl) (by rfl) (fun _ _ _ h => h) ?y3 (by assumption) ?r3
          case y3 => (intro w hSw; (try dsimp only at hSw); go_simp; try with_reducible rfl)
          try simp only [Act.put, List.setIfInBounds_toArray, List.set_cons_zero, List.set_cons_succ]
          refine takeY (i := 5) (v := ?_) rfl rfl (by kernel_rfl) (by kernel_rfl) (by kernel_rfl) (by rfl) (fun _ _ _ h => h) ?y4 (by assumption) ?r4
          case y4 => (intro w hSw; (try dsimp only at hSw); go_simp; try with_reducible rfl)
          try simp only [Act.put, List.setIfInBounds_toArray, List.set_cons_zero, List.set_cons_succ]
          refine wpAnyH_ready (rs := [2, 6]) (by kernel_rfl) (by simp) (AllReadyH.cons rfl (fun K hK => ?_) (AllReadyH.cons rfl (fun K hK => ?_) AllReadyH.nil))
          · go_simp
            obtain ⟨u2, hu2⟩ : ∃ W, u1.alloc (.cells #[.string ⟨#[73, 102, 45, 78, 111, 110, 101, 45, 77, 97, 116, 99, 104]⟩, .string ⟨#[73, 102, 45, 77, 111, 100, 105, 102, 105, 101, 100, 45, 83, 105, 110, 99, 101]⟩] 9) = W := ⟨_, rfl⟩
            obtain ⟨ga, hga⟩ : ∃ g, u1.heap.size = g := ⟨_, rfl⟩
            rw [hu2, hga]
            have nZQga : w.heap.size < ga := (by rw [← hga]; exact (Array.getElem?_eq_some_iff.1 ZQ.out).1)
            have nZPga : w.heap.size + 1 < ga := (by rw [← hga]; exact (Array.getElem?_eq_some_iff.1 ZP.out).1)
            have nZTga : bt < ga := (by rw [← hga]; exact (Array.getElem?_eq_some_iff.1 ZT.out).1)
            have nZNga : bn < ga := (by rw [← hga]; exact (Array.getElem?_eq_some_iff.1 ZN.out).1)
            have nZAga : ba < ga := (by rw [← hga]; exact (Array.getElem?_eq_some_iff.1 ZA.out).1)
            replace ZQ : Hid (u2.heap[w.heap.size]? = some (.cells #[.string m, .string t, .int .i64 v, .slice A0 f.length c0, .string b] 24 (0, 0))) := (by show _ = _; rw [← hu2]; exact zero_more ZQ.out)
            replace ZP : Hid (u2.heap[w.heap.size + 1]? = some (.cells #[.int .i64 pc, .string pr, .int .i64 pv, .slice A1 g.length c1, .string pb] 26 (0, 0))) := (by show _ = _; rw [← hu2]; exact zero_more ZP.out)
            replace ZT : Hid (u2.heap[bt]? = some (.cells #[.bool ta, .string tb] 49 (0, 0))) := (by show _ = _; rw [← hu2]; exact zero_more ZT.out)
            replace ZN : Hid (u2.heap[bn]? = some (.cells #[.int .i64 304, .string nmodS, .int .i64 1, .slice A3 FN.length c3, .string ⟨#[]⟩] 26 (0, 0))) := (by show _ = _; rw [← hu2]; exact zero_more ZN.out)
            replace ZA : Hid (u2.heap[ba]? = some (.cells #[.string ⟨#[71, 69, 84]⟩, .string t, .int .i64 1, .slice A4 FA.length c4, .string ⟨#[]⟩] 24 (0, 0))) := (by show _ = _; rw [← hu2]; exact zero_more ZA.out)
            have Tga : Hid (u2.heap[ga]? = some (.cells #[.string ⟨#[73, 102, 45, 78, 111, 110, 101, 45, 77, 97, 116, 99, 104]⟩, .string ⟨#[73, 102, 45, 77, 111, 100, 105, 102, 105, 101, 100, 45, 83, 105, 110, 99, 101]⟩] 9 (0, 0))) := (by show _ = _; rw [← hu2, ← hga]; exact heap_alloc_new u1 _)
            have dSNga : DisA A3 FN.length ga := SN.out.dis (by rw [← hga]; exact Nat.le_refl _)
            replace SN := Lib.hid (SN.out.alloc (.cells #[.string ⟨#[73, 102, 45, 78, 111, 110, 101, 45, 77, 97, 116, 99, 104]⟩, .string ⟨#[73, 102, 45, 77, 111, 100, 105, 102, 105, 101, 100, 45, 83, 105, 110, 99, 101]⟩] 9))
            rw [hu2] at SN
            have dSAga : DisA A4 FA.length ga := SA.out.dis (by rw [← hga]; exact Nat.le_refl _)
            replace SA := Lib.hid (SA.out.alloc (.cells #[.string ⟨#[73, 102, 45, 78, 111, 110, 101, 45, 77, 97, 116, 99, 104]⟩, .string ⟨#[73, 102, 45, 77, 111, 100, 105, 102, 105, 101, 100, 45, 83, 105, 110, 99, 101]⟩] 9))
            rw [hu2] at SA
            have dSQga : DisA A0 f.length ga := SQ.out.dis (by rw [← hga]; exact Nat.le_refl _)
            replace SQ := Lib.hid (SQ.out.alloc (.cells #[.string ⟨#[73, 102, 45, 78, 111, 110, 101, 45, 77, 97, 116, 99, 104]⟩, .string ⟨#[73, 102, 45, 77, 111, 100, 105, 102, 105, 101, 100, 45, 83, 105, 110, 99, 101]⟩] 9))
            rw [hu2] at SQ
            have nbga : w.heap.size ≤ ga := (by rw [← hga]; exact HB.out.size)
            replace HB : Hid (Below w.heap.size w u2) := (by show Below _ _ _; rw [← hu2]; exact HB.out.alloc HB.out.size _)
            clear hu2 hga
            refine hK.out _ _ (⟨(cel5r ZA.out).2.2.2.1, (cel5r ZQ.out).2.2.2.1⟩) (fun hHeld => ?_)
            clear hK
            try simp only [Act.put, List.setIfInBounds_toArray, List.set_cons_zero, List.set_cons_succ]
            refine wpAnyH_ready (rs := [3, 6]) (by kernel_rfl) (by simp) (AllReadyH.cons rfl (fun K hK => ?_) (AllReadyH.cons rfl (fun K hK => ?_) AllReadyH.nil))
            · have hxga : ga < u2.heap.size := (Array.getElem?_eq_some_iff.1 Tga.out).1
              go_simp
              go_at_call 24
              refine (K6.out _ _ _ _ SA.out (SlS.ofRow Tga.out [⟨#[73, 102, 45, 78, 111, 110, 101, 45, 77, 97, 116, 99, 104]⟩, ⟨#[73, 102, 45, 77, 111, 100, 105, 102, 105, 101, 100, 45, 83, 105, 110, 99, 101]⟩] rfl (by decide))).mono ?_
              rintro e u3 ⟨ov, rfl, ho, hb⟩
              obtain ⟨D1, e1, rfl, hS1⟩ := ho.slf HDZ.out
              clear ho
              replace ZQ := Lib.hid (zero_still hb ZQ.out)
              replace ZP := Lib.hid (zero_still hb ZP.out)
              replace ZT := Lib.hid (zero_still hb ZT.out)
              replace ZN := Lib.hid (zero_still hb ZN.out)
              replace ZA := Lib.hid (zero_still hb ZA.out)
              replace Tga := Lib.hid (zero_still hb Tga.out)
              replace SN := Lib.hid (SN.out.below hb)
              replace SA := Lib.hid (SA.out.below hb)
              replace SQ := Lib.hid (SQ.out.below hb)
              have S1 := Lib.hid hS1
              clear hS1
              replace HB := Lib.hid (below_then HB.out hb)
              clear hb
              try go_wp2_with fail
              refine hK.out _ _ (⟨(cel5r ZA.out).2.2.2.1, (cel5r ZQ.out).2.2.2.1⟩) (fun hHeld => ?_)
              clear hK
              try simp only [Act.put, List.setIfInBounds_toArray, List.set_cons_zero, List.set_cons_succ]
              refine wpAnyH_ready (rs := [6]) (by kernel_rfl) (by simp) (AllReadyH.cons rfl (fun K hK => ?_) AllReadyH.nil)
              go_simp
              obtain ⟨u4, hu4⟩ : ∃ W, u3.alloc (.cells #[.string ⟨#[73, 102, 45, 78, 111, 110, 101, 45, 77, 97, 116, 99, 104]⟩, .string ⟨#[73, 102, 45, 77, 111, 100, 105, 102, 105, 101, 100, 45, 83, 105, 110, 99, 101]⟩] 9) = W := ⟨_, rfl⟩
              obtain ⟨gb, hgb⟩ : ∃ g, u3.heap.size = g := ⟨_, rfl⟩
              rw [hu4, hgb]
              have nZQgb : w.heap.size < gb := (by rw [← hgb]; exact (Array.getElem?_eq_some_iff.1 ZQ.out).1)
              have nZPgb : w.heap.size + 1 < gb := (by rw [← hgb]; exact (Array.getElem?_eq_some_iff.1 ZP.out).1)
              have nZTgb : bt < gb := (by rw [← hgb]; exact (Array.getElem?_eq_some_iff.1 ZT.out).1)
              have nZNgb : bn < gb := (by rw [← hgb]; exact (Array.getElem?_eq_some_iff.1 ZN.out).1)
              have nZAgb : ba < gb := (by rw [← hgb]; exact (Array.getElem?_eq_some_iff.1 ZA.out).1)
              have nTgagb : ga < gb := (by rw [← hgb]; exact (Array.getElem?_eq_some_iff.1 Tga.out).1)
              replace ZQ : Hid (u4.heap[w.heap.size]? = some (.cells #[.string m, .string t, .int .i64 v, .slice A0 f.length c0, .string b] 24 (0, 0))) := (by show _ = _; rw [← hu4]; exact zero_more ZQ.out)
              replace ZP : Hid (u4.heap[w.heap.size + 1]? = some (.cells #[.int .i64 pc, .string pr, .int .i64 pv, .slice A1 g.length c1, .string pb] 26 (0, 0))) := (by show _ = _; rw [← hu4]; exact zero_more ZP.out)
              replace ZT : Hid (u4.heap[bt]? = some (.cells #[.bool ta, .string tb] 49 (0, 0))) := (by show _ = _; rw [← hu4]; exact zero_more ZT.out)
              replace ZN : Hid (u4.heap[bn]? = some (.cells #[.int .i64 304, .string nmodS, .int .i64 1, .slice A3 FN.length c3, .string ⟨#[]⟩] 26 (0, 0))) := (by show _ = _; rw [← hu4]; exact zero_more ZN.out)
              replace ZA : Hid (u4.heap[ba]? = some (.cells #[.string ⟨#[71, 69, 84]⟩, .string t, .int .i64 1, .slice A4 FA.length c4, .string ⟨#[]⟩] 24 (0, 0))) := (by show _ = _; rw [← hu4]; exact zero_more ZA.out)
              replace Tga : Hid (u4.heap[ga]? = some (.cells #[.string ⟨#[73, 102, 45, 78, 111, 110, 101, 45, 77, 97, 116, 99, 104]⟩, .string ⟨#[73, 102, 45, 77, 111, 100, 105, 102, 105, 101, 100, 45, 83, 105, 110, 99, 101]⟩] 9 (0, 0))) := (by show _ = _; rw [← hu4]; exact zero_more Tga.out)
              have Tgb : Hid (u4.heap[gb]? = some (.cells #[.string ⟨#[73, 102, 45, 78, 111, 110, 101, 45, 77, 97, 116, 99, 104]⟩, .string ⟨#[73, 102, 45, 77, 111, 100, 105, 102, 105, 101, 100, 45, 83, 105, 110, 99, 101]⟩] 9 (0, 0))) := (by show _ = _; rw [← hu4, ← hgb]; exact heap_alloc_new u3 _)
              have dSNgb : DisA A3 FN.length gb := SN.out.dis (by rw [← hgb]; exact Nat.le_refl _)
              replace SN := Lib.hid (SN.out.alloc (.cells #[.string ⟨#[73, 102, 45, 78, 111, 110, 101, 45, 77, 97, 116, 99, 104]⟩, .string ⟨#[73, 102, 45, 77, 111, 100, 105, 102, 105, 101, 100, 45, 83, 105, 110, 99, 101]⟩] 9))
              rw [hu4] at SN
              have dSAgb : DisA A4 FA.length gb := SA.out.dis (by rw [← hgb]; exact Nat.le_refl _)
              replace SA := Lib.hid (SA.out.alloc (.cells #[.string ⟨#[73, 102, 45, 78, 111, 110, 101, 45, 77, 97, 116, 99, 104]⟩, .string ⟨#[73, 102, 45, 77, 111, 100, 105, 102, 105, 101, 100, 45, 83, 105, 110, 99, 101]⟩] 9))
              rw [hu4] at SA
              have dSQgb : DisA A0 f.length gb := SQ.out.dis (by rw [← hgb]; exact Nat.le_refl _)
              replace SQ := Lib.hid (SQ.out.alloc (.cells #[.string ⟨#[73, 102, 45, 78, 111, 110, 101, 45, 77, 97, 116, 99, 104]⟩, .string ⟨#[73, 102, 45, 77, 111, 100, 105, 102, 105, 101, 100, 45, 83, 105, 110, 99, 101]⟩] 9))
              rw [hu4] at SQ
              have dS1gb : DisA D1 FD.length gb := S1.out.dis (by rw [← hgb]; exact Nat.le_refl _)
              replace S1 := Lib.hid (S1.out.alloc (.cells #[.string ⟨#[73, 102, 45, 78, 111, 110, 101, 45, 77, 97, 116, 99, 104]⟩, .string ⟨#[73, 102, 45, 77, 111, 100, 105, 102, 105, 101, 100, 45, 83, 105, 110, 99, 101]⟩] 9))
              rw [hu4] at S1
              have nbgb : w.heap.size ≤ gb := (by rw [← hgb]; exact HB.out.size)
              replace HB : Hid (Below w.heap.size w u4) := (by show Below _ _ _; rw [← hu4]; exact HB.out.alloc HB.out.size _)
              clear hu4 hgb
              refine hK.out _ _ (⟨(cel5r ZA.out).2.2.2.1, (cel5r ZQ.out).2.2.2.1⟩) (fun hHeld => ?_)
              clear hK
              try simp only [Act.put, List.setIfInBounds_toArray, List.set_cons_zero, List.set_cons_succ]
              refine wpAnyH_ready (rs := [7]) (by kernel_rfl) (by simp) (AllReadyH.cons rfl (fun K hK => ?_) AllReadyH.nil)
              have hxga : ga < u4.heap.size := (Array.getElem?_eq_some_iff.1 Tga.out).1
              have hxgb : gb < u4.heap.size := (Array.getElem?_eq_some_iff.1 Tgb.out).1
              go_simp
              go_at_call 24
              refine (K7.out _ _ SQ.out (SlS.ofRow Tgb.out [⟨#[73, 102, 45, 78, 111, 110, 101, 45, 77, 97, 116, 99, 104]⟩, ⟨#[73, 102, 45, 77, 111, 100, 105, 102, 105, 101, 100, 45, 83, 105, 110, 99, 101]⟩] rfl (by decide))).mono ?_
              rintro e u5 ⟨ov, rfl, ho, hb⟩
              obtain ⟨D2, e2, rfl, hS2⟩ := ho.slf HDZ.out
              clear ho
              replace ZQ := Lib.hid (zero_still hb ZQ.out)
              replace ZP := Lib.hid (zero_still hb ZP.out)
              replace ZT := Lib.hid (zero_still hb ZT.out)
              replace ZN := Lib.hid (zero_still hb ZN.out)
              replace ZA := Lib.hid (zero_still hb ZA.out)
              replace Tga := Lib.hid (zero_still hb Tga.out)
              replace Tgb := Lib.hid (zero_still hb Tgb.out)
              replace SN := Lib.hid (SN.out.below hb)
              replace SA := Lib.hid (SA.out.below hb)
              replace SQ := Lib.hid (SQ.out.below hb)
              replace S1 := Lib.hid (S1.out.below hb)
              have S2 := Lib.hid hS2
              clear hS2
              replace HB := Lib.hid (below_then HB.out hb)
              clear hb
              try go_wp2_with fail
              refine hK.out _ _ (⟨(cel5r ZA.out).2.2.2.1, (cel5r ZQ.out).2.2.2.1⟩) (fun hHeld => ?_)
              clear hK
              try simp only [Act.put, List.setIfInBounds_toArray, List.set_cons_zero, List.set_cons_succ]
              refine wpAnyH_ready (rs := [8]) (by kernel_rfl) (by simp) (AllReadyH.cons rfl (fun K hK => ?_) AllReadyH.nil)
              go_simp
              go_at_call 28
              refine (K8.out _ _ _ _ _ S1.out S2.out).mono ?_
              rintro e u6 ⟨rfl, hb⟩
              replace ZQ := Lib.hid (zero_still hb ZQ.out)
              replace ZP := Lib.hid (zero_still hb ZP.out)
              replace ZT := Lib.hid (zero_still hb ZT.out)
              replace ZN := Lib.hid (zero_still hb ZN.out)
              replace ZA := Lib.hid (zero_still hb ZA.out)
              replace Tga := Lib.hid (zero_still hb Tga.out)
              replace Tgb := Lib.hid (zero_still hb Tgb.out)
              replace SN := Lib.hid (SN.out.below hb)
              replace SA := Lib.hid (SA.out.below hb)
              replace SQ := Lib.hid (SQ.out.below hb)
              replace S1 := Lib.hid (S1.out.below hb)
              replace S2 := Lib.hid (S2.out.below hb)
              replace HB := Lib.hid (below_then HB.out hb)
              clear hb
              try go_wp2_with fail
              refine hK.out _ _ (⟨(cel5r ZA.out).2.2.2.1, (cel5r ZQ.out).2.2.2.1⟩) (fun hHeld => ?_)
              clear hK
              try simp only [Act.put, List.setIfInBounds_toArray, List.set_cons_zero, List.set_cons_succ]
              refine takeY (i := 9) (v := ?_) rfl rfl (by kernel_rfl) (by kernel_rfl) (by kernel_rfl) (by rfl) (fun _ _ _ h => h) ?y5 (by assumption) ?r5
              case y5 => (intro w hSw; (try dsimp only at hSw); go_simp; try with_reducible rfl)
              try simp only [Act.put, List.setIfInBounds_toArray, List.set_cons_zero, List.set_cons_succ]
              refine wpAnyH_done (by kernel_rfl) ?_ _
              go_wp2_with fail
              go_meet
              exact ⟨rfl, ZQ.out, ZP.out, ZT.out, ZN.out, ZA.out, SN.out, SA.out, HB.out⟩
            · go_simp
              obtain ⟨u7, hu7⟩ : ∃ W, u2.alloc (.cells #[.string ⟨#[73, 102, 45, 78, 111, 110, 101, 45, 77, 97, 116, 99, 104]⟩, .string ⟨#[73, 102, 45, 77, 111, 100, 105, 102, 105, 101, 100, 45, 83, 105, 110, 99, 101]⟩] 9) = W := ⟨_, rfl⟩
              obtain ⟨gb, hgb⟩ : ∃ g, u2.heap.size = g := ⟨_, rfl⟩
              rw [hu7, hgb]
              have nZQgb : w.heap.size < gb := (by rw [← hgb]; exact (Array.getElem?_eq_some_iff.1 ZQ.out).1)
              have nZPgb : w.heap.size + 1 < gb := (by rw [← hgb]; exact (Array.getElem?_eq_some_iff.1 ZP.out).1)
              have nZTgb : bt < gb := (by rw [← hgb]; exact (Array.getElem?_eq_some_iff.1 ZT.out).1)
              have nZNgb : bn < gb := (by rw [← hgb]; exact (Array.getElem?_eq_some_iff.1 ZN.out).1)
              have nZAgb : ba < gb := (by rw [← hgb]; exact (Array.getElem?_eq_some_iff.1 ZA.out).1)
              have nTgagb : ga < gb := (by rw [← hgb]; exact (Array.getElem?_eq_some_iff.1 Tga.out).1)
              replace ZQ : Hid (u7.heap[w.heap.size]? = some (.cells #[.string m, .string t, .int .i64 v, .slice A0 f.length c0, .string b] 24 (0, 0))) := (by show _ = _; rw [← hu7]; exact zero_more ZQ.out)
              replace ZP : Hid (u7.heap[w.heap.size + 1]? = some (.cells #[.int .i64 pc, .string pr, .int .i64 pv, .slice A1 g.length c1, .string pb] 26 (0, 0))) := (by show _ = _; rw [← hu7]; exact zero_more ZP.out)
              replace ZT : Hid (u7.heap[bt]? = some (.cells #[.bool ta, .string tb] 49 (0, 0))) := (by show _ = _; rw [← hu7]; exact zero_more ZT.out)
              replace ZN : Hid (u7.heap[bn]? = some (.cells #[.int .i64 304, .string nmodS, .int .i64 1, .slice A3 FN.length c3, .string ⟨#[]⟩] 26 (0, 0))) := (by show _ = _; rw [← hu7]; exact zero_more ZN.out)
              replace ZA : Hid (u7.heap[ba]? = some (.cells #[.string ⟨#[71, 69, 84]⟩, .string t, .int .i64 1, .slice A4 FA.length c4, .string ⟨#[]⟩] 24 (0, 0))) := (by show _ = _; rw [← hu7]; exact zero_more ZA.out)
              replace Tga : Hid (u7.heap[ga]? = some (.cells #[.string ⟨#[73, 102, 45, 78, 111, 110, 101, 45, 77, 97, 116, 99, 104]⟩, .string ⟨#[73, 102, 45, 77, 111, 100, 105, 102, 105, 101, 100, 45, 83, 105, 110, 99, 101]⟩] 9 (0, 0))) := (by show _ = _; rw [← hu7]; exact zero_more Tga.out)
              have Tgb : Hid (u7.heap[gb]? = some (.cells #[.string ⟨#[73, 102, 45, 78, 111, 110, 101, 45, 77, 97, 116, 99, 104]⟩, .string ⟨#[73, 102, 45, 77, 111, 100, 105, 102, 105, 101, 100, 45, 83, 105, 110, 99, 101]⟩] 9 (0, 0))) := (by show _ = _; rw [← hu7, ← hgb]; exact heap_alloc_new u2 _)
              have dSNgb : DisA A3 FN.length gb := SN.out.dis (by rw [← hgb]; exact Nat.le_refl _)
              replace SN := Lib.hid (SN.out.alloc (.cells #[.string ⟨#[73, 102, 45, 78, 111, 110, 101, 45, 77, 97, 116, 99, 104]⟩, .string ⟨#[73, 102, 45, 77, 111, 100, 105, 102, 105, 101, 100, 45, 83, 105, 110, 99, 101]⟩] 9))
              rw [hu7] at SN
              have dSAgb : DisA A4 FA.length gb := SA.out.dis (by rw [← hgb]; exact Nat.le_refl _)
              replace SA := Lib.hid (SA.out.alloc (.cells #[.string ⟨#[73, 102, 45, 78, 111, 110, 101, 45, 77, 97, 116, 99, 104]⟩, .string ⟨#[73, 102, 45, 77, 111, 100, 105, 102, 105, 101, 100, 45, 83, 105, 110, 99, 101]⟩] 9))
              rw [hu7] at SA
              have dSQgb : DisA A0 f.length gb := SQ.out.dis (by rw [← hgb]; exact Nat.le_refl _)
              replace SQ := Lib.hid (SQ.out.alloc (.cells #[.string ⟨#[73, 102, 45, 78, 111, 110, 101, 45, 77, 97, 116, 99, 104]⟩, .string ⟨#[73, 102, 45, 77, 111, 100, 105, 102, 105, 101, 100, 45, 83, 105, 110, 99, 101]⟩] 9))
              rw [hu7] at SQ
              have nbgb : w.heap.size ≤ gb := (by rw [← hgb]; exact HB.out.size)
              replace HB : Hid (Below w.heap.size w u7) := (by show Below _ _ _; rw [← hu7]; exact HB.out.alloc HB.out.size _)
              clear hu7 hgb
              refine hK.out _ _ (⟨(cel5r ZA.out).2.2.2.1, (cel5r ZQ.out).2.2.2.1⟩) (fun hHeld => ?_)
              clear hK
              try simp only [Act.put, List.setIfInBounds_toArray, List.set_cons_zero, List.set_cons_succ]
              refine wpAnyH_ready (rs := [3]) (by kernel_rfl) (by simp) (AllReadyH.cons rfl (fun K hK => ?_) AllReadyH.nil)
              have hxga : ga < u7.heap.size := (Array.getElem?_eq_some_iff.1 Tga.out).1
              have hxgb : gb < u7.heap.size := (Array.getElem?_eq_some_iff.1 Tgb.out).1
              go_simp
              go_at_call 24
              refine (K6.out _ _ _ _ SA.out (SlS.ofRow Tga.out [⟨#[73, 102, 45, 78, 111, 110, 101, 45, 77, 97, 116, 99, 104]⟩, ⟨#[73, 102, 45, 77, 111, 100, 105, 102, 105, 101, 100, 45, 83, 105, 110, 99, 101]⟩] rfl (by decide))).mono ?_
              rintro e u8 ⟨ov, rfl, ho, hb⟩
              obtain ⟨D1, e1, rfl, hS1⟩ := ho.slf HDZ.out
              clear ho
              replace ZQ := Lib.hid (zero_still hb ZQ.out)
              replace ZP := Lib.hid (zero_still hb ZP.out)
              replace ZT := Lib.hid (zero_still hb ZT.out)
              replace ZN := Lib.hid (zero_still hb ZN.out)
              replace ZA := Lib.hid (zero_still hb ZA.out)
              replace Tga := Lib.hid (zero_still hb Tga.out)
              replace Tgb := Lib.hid (zero_still hb Tgb.out)
              replace SN := Lib.hid (SN.out.below hb)
              replace SA := Lib.hid (SA.out.below hb)
              replace SQ := Lib.hid (SQ.out.below hb)
              have S1 := Lib.hid hS1
              clear hS1
              replace HB := Lib.hid (below_then HB.out hb)
              clear hb
              try go_wp2_with fail
              refine hK.out _ _ (⟨(cel5r ZA.out).2.2.2.1, (cel5r ZQ.out).2.2.2.1⟩) (fun hHeld => ?_)
              clear hK
              try simp only [Act.put, List.setIfInBounds_toArray, List.set_cons_zero, List.set_cons_succ]
              refine wpAnyH_ready (rs := [7]) (by kernel_rfl) (by simp) (AllReadyH.cons rfl (fun K hK => ?_) AllReadyH.nil)
              have hxga : ga < u8.heap.size := (Array.getElem?_eq_some_iff.1 Tga.out).1
              have hxgb : gb < u8.heap.size := (Array.getElem?_eq_some_iff.1 Tgb.out).1
              go_simp
              go_at_call 24
              refine (K7.out _ _ SQ.out (SlS.ofRow Tgb.out [⟨#[73, 102, 45, 78, 111, 110, 101, 45, 77, 97, 116, 99, 104]⟩, ⟨#[73, 102, 45, 77, 111, 100, 105, 102, 105, 101, 100, 45, 83, 105, 110, 99, 101]⟩] rfl (by decide))).mono ?_
              rintro e u9 ⟨ov, rfl, ho, hb⟩
              obtain ⟨D2, e2, rfl, hS2⟩ := ho.slf HDZ.out
              clear ho
              replace ZQ := Lib.hid (zero_still hb ZQ.out)
              replace ZP := Lib.hid (zero_still hb ZP.out)
              replace ZT := Lib.hid (zero_still hb ZT.out)
              replace ZN := Lib.hid (zero_still hb ZN.out)
              replace ZA := Lib.hid (zero_still hb ZA.out)
              replace Tga := Lib.hid (zero_still hb Tga.out)
              replace Tgb := Lib.hid (zero_still hb Tgb.out)
              replace SN := Lib.hid (SN.out.below hb)
              replace SA := Lib.hid (SA.out.below hb)
              replace SQ := Lib.hid (SQ.out.below hb)
              replace S1 := Lib.hid (S1.out.below hb)
              have S2 := Lib.hid hS2
              clear hS2
              replace HB := Lib.hid (below_then HB.out hb)
              clear hb
              try go_wp2_with fail
              refine hK.out _ _ (⟨(cel5r ZA.out).2.2.2.1, (cel5r ZQ.out).2.2.2.1⟩) (fun hHeld => ?_)
              clear hK
              try simp only [Act.put, List.setIfInBounds_toArray, List.set_cons_zero, List.set_cons_succ]
              refine wpAnyH_ready (rs := [8]) (by kernel_rfl) (by simp) (AllReadyH.cons rfl (fun K hK => ?_) AllReadyH.nil)
              go_simp
              go_at_call 28
              refine (K8.out _ _ _ _ _ S1.out S2.out).mono ?_
              rintro e u10 ⟨rfl, hb⟩
              replace ZQ := Lib.hid (zero_still hb ZQ.out)
              replace ZP := Lib.hid (zero_still hb ZP.out)
              replace ZT := Lib.hid (zero_still hb ZT.out)
              replace ZN := Lib.hid (zero_still hb ZN.out)
              replace ZA := Lib.hid (zero_still hb ZA.out)
              replace Tga := Lib.hid (zero_still hb Tga.out)
              replace Tgb := Lib.hid (zero_still hb Tgb.out)
              replace SN := Lib.hid (SN.out.below hb)
              replace SA := Lib.hid (SA.out.below hb)
              replace SQ := Lib.hid (SQ.out.below hb)
              replace S1 := Lib.hid (S1.out.below hb)
              replace S2 := Lib.hid (S2.out.below hb)
              replace HB := Lib.hid (below_then HB.out hb)
              clear hb
              try go_wp2_with fail
              refine hK.out _ _ (⟨(cel5r ZA.out).2.2.2.1, (cel5r ZQ.out).2.2.2.1⟩) (fun hHeld => ?_)
              clear hK
              try simp only [Act.put, List.setIfInBounds_toArray, List.set_cons_zero, List.set_cons_succ]
              refine takeY (i := 9) (v := ?_) rfl rfl (by kernel_rfl) (by kernel_rfl) (by kernel_rfl) (by rfl) (fun _ _ _ h => h) ?y6 (by assumption) ?r6
              case y6 => (intro w hSw; (try dsimp only at hSw); go_simp; try with_reducible rfl)
              try simp only [Act.put, List.setIfInBounds_toArray, List.set_cons_zero, List.set_cons_succ]
              refine wpAnyH_done (by kernel_rfl) ?_ _
              go_wp2_with fail
              go_meet
              exact ⟨rfl, ZQ.out, ZP.out, ZT.out, ZN.out, ZA.out, SN.out, SA.out, HB.out⟩
          · go_simp
            obtain ⟨u11, hu11⟩ : ∃ W, u1.alloc (.cells #[.string ⟨#[73, 102, 45, 78, 111, 110, 101, 45, 77, 97, 116, 99, 104]⟩, .string ⟨#[73, 102, 45, 77, 111, 100, 105, 102, 105, 101, 100, 45, 83, 105, 110, 99, 101]⟩] 9) = W := ⟨_, rfl⟩
            obtain ⟨gb, hgb⟩ : ∃ g, u1.heap.size = g := ⟨_, rfl⟩
            rw [hu11, hgb]
            have nZQgb : w.heap.size < gb := (by rw [← hgb]; exact (Array.getElem?_eq_some_iff.1 ZQ.out).1)
            have nZPgb : w.heap.size + 1 < gb := (by rw [← hgb]; exact (Array.getElem?_eq_some_iff.1 ZP.out).1)
            have nZTgb : bt < gb := (by rw [← hgb]; exact (Array.getElem?_eq_some_iff.1 ZT.out).1)
            have nZNgb : bn < gb := (by rw [← hgb]; exact (Array.getElem?_eq_some_iff.1 ZN.out).1)
            have nZAgb : ba < gb := (by rw [← hgb]; exact (Array.getElem?_eq_some_iff.1 ZA.out).1)
            replace ZQ : Hid (u11.heap[w.heap.size]? = some (.cells #[.string m, .string t, .int .i64 v, .slice A0 f.length c0, .string b] 24 (0, 0))) := (by show _ = _; rw [← hu11]; exact zero_more ZQ.out)
            replace ZP : Hid (u11.heap[w.heap.size + 1]? = some (.cells #[.int .i64 pc, .string pr, .int .i64 pv, .slice A1 g.length c1, .string pb] 26 (0, 0))) := (by show _ = _; rw [← hu11]; exact zero_more ZP.out)
            replace ZT : Hid (u11.heap[bt]? = some (.cells #[.bool ta, .string tb] 49 (0, 0))) := (by show _ = _; rw [← hu11]; exact zero_more ZT.out)
            replace ZN : Hid (u11.heap[bn]? = some (.cells #[.int .i64 304, .string nmodS, .int .i64 1, .slice A3 FN.length c3, .string ⟨#[]⟩] 26 (0, 0))) := (by show _ = _; rw [← hu11]; exact zero_more ZN.out)
            replace ZA : Hid (u11.heap[ba]? = some (.cells #[.string ⟨#[71, 69, 84]⟩, .string t, .int .i64 1, .slice A4 FA.length c4, .string ⟨#[]⟩] 24 (0, 0))) := (by show _ = _; rw [← hu11]; exact zero_more ZA.out)
            have Tgb : Hid (u11.heap[gb]? = some (.cells #[.string ⟨#[73, 102, 45, 78, 111, 110, 101, 45, 77, 97, 116, 99, 104]⟩, .string ⟨#[73, 102, 45, 77, 111, 100, 105, 102, 105, 101, 100, 45, 83, 105, 110, 99, 101]⟩] 9 (0, 0))) := (by show _ = _; rw [← hu11, ← hgb]; exact heap_alloc_new u1 _)
            have dSNgb : DisA A3 FN.length gb := SN.out.dis (by rw [← hgb]; exact Nat.le_refl _)
            replace SN := Lib.hid (SN.out.alloc (.cells #[.string ⟨#[73, 102, 45, 78, 111, 110, 101, 45, 77, 97, 116, 99, 104]⟩, .string ⟨#[73, 102, 45, 77, 111, 100, 105, 102, 105, 101, 100, 45, 83, 105, 110, 99, 101]⟩] 9))
            rw [hu11] at SN
            have dSAgb : DisA A4 FA.length gb := SA.out.dis (by rw [← hgb]; exact Nat.le_refl _)
            replace SA := Lib.hid (SA.out.alloc (.cells #[.string ⟨#[73, 102, 45, 78, 111, 110, 101, 45, 77, 97, 116, 99, 104]⟩, .string ⟨#[73, 102, 45, 77, 111, 100, 105, 102, 105, 101, 100, 45, 83, 105, 110, 99, 101]⟩] 9))
            rw [hu11] at SA
            have dSQgb : DisA A0 f.length gb := SQ.out.dis (by rw [← hgb]; exact Nat.le_refl _)
            replace SQ := Lib.hid (SQ.out.alloc (.cells #[.string ⟨#[73, 102, 45, 78, 111, 110, 101, 45, 77, 97, 116, 99, 104]⟩, .string ⟨#[73, 102, 45, 77, 111, 100, 105, 102, 105, 101, 100, 45, 83, 105, 110, 99, 101]⟩] 9))
            rw [hu11] at SQ
            have nbgb : w.heap.size ≤ gb := (by rw [← hgb]; exact HB.out.size)
            replace HB : Hid (Below w.heap.size w u11) := (by show Below _ _ _; rw [← hu11]; exact HB.out.alloc HB.out.size _)
            clear hu11 hgb
            refine hK.out _ _ (⟨(cel5r ZA.out).2.2.2.1, (cel5r ZQ.out).2.2.2.1⟩) (fun hHeld => ?_)
            clear hK
            try simp only [Act.put, List.setIfInBounds_toArray, List.set_cons_zero, List.set_cons_succ]
            refine wpAnyH_ready (rs := [2]) (by kernel_rfl) (by simp) (AllReadyH.cons rfl (fun K hK => ?_) AllReadyH.nil)
            go_simp
            obtain ⟨u12, hu12⟩ : ∃ W, u11.alloc (.cells #[.string ⟨#[73, 102, 45, 78, 111, 110, 101, 45, 77, 97, 116, 99, 104]⟩, .string ⟨#[73, 102, 45, 77, 111, 100, 105, 102, 105, 101, 100, 45, 83, 105, 110, 99, 101]⟩] 9) = W := ⟨_, rfl⟩
            obtain ⟨ga, hga⟩ : ∃ g, u11.heap.size = g := ⟨_, rfl⟩
            rw [hu12, hga]
            have nZQga : w.heap.size < ga := (by rw [← hga]; exact (Array.getElem?_eq_some_iff.1 ZQ.out).1)
            have nZPga : w.heap.size + 1 < ga := (by rw [← hga]; exact (Array.getElem?_eq_some_iff.1 ZP.out).1)
            have nZTga : bt < ga := (by rw [← hga]; exact (Array.getElem?_eq_some_iff.1 ZT.out).1)
            have nZNga : bn < ga := (by rw [← hga]; exact (Array.getElem?_eq_some_iff.1 ZN.out).1)
            have nZAga : ba < ga := (by rw [← hga]; exact (Array.getElem?_eq_some_iff.1 ZA.out).1)
            have nTgbga : gb < ga := (by rw [← hga]; exact (Array.getElem?_eq_some_iff.1 Tgb.out).1)
            replace ZQ : Hid (u12.heap[w.heap.size]? = some (.cells #[.string m, .string t, .int .i64 v, .slice A0 f.length c0, .string b] 24 (0, 0))) := (by show _ = _; rw [← hu12]; exact zero_more ZQ.out)
            replace ZP : Hid (u12.heap[w.heap.size + 1]? = some (.cells #[.int .i64 pc, .string pr, .int .i64 pv, .slice A1 g.length c1, .string pb] 26 (0, 0))) := (by show _ = _; rw [← hu12]; exact zero_more ZP.out)
            replace ZT : Hid (u12.heap[bt]? = some (.cells #[.bool ta, .string tb] 49 (0, 0))) := (by show _ = _; rw [← hu12]; exact zero_more ZT.out)
            replace ZN : Hid (u12.heap[bn]? = some (.cells #[.int .i64 304, .string nmodS, .int .i64 1, .slice A3 FN.length c3, .string ⟨#[]⟩] 26 (0, 0))) := (by show _ = _; rw [← hu12]; exact zero_more ZN.out)
            replace ZA : Hid (u12.heap[ba]? = some (.cells #[.string ⟨#[71, 69, 84]⟩, .string t, .int .i64 1, .slice A4 FA.length c4, .string ⟨#[]⟩] 24 (0, 0))) := (by show _ = _; rw [← hu12]; exact zero_more ZA.out)
            replace Tgb : Hid (u12.heap[gb]? = some (.cells #[.string ⟨#[73, 102, 45, 78, 111, 110, 101, 45, 77, 97, 116, 99, 104]⟩, .string ⟨#[73, 102, 45, 77, 111, 100, 105, 102, 105, 101, 100, 45, 83, 105, 110, 99, 101]⟩] 9 (0, 0))) := (by show _ = _; rw [← hu12]; exact zero_more Tgb.out)
            have Tga : Hid (u12.heap[ga]? = some (.cells #[.string ⟨#[73, 102, 45, 78, 111, 110, 101, 45, 77, 97, 116, 99, 104]⟩, .string ⟨#[73, 102, 45, 77, 111, 100, 105, 102, 105, 101, 100, 45, 83, 105, 110, 99, 101]⟩] 9 (0, 0))) := (by show _ = _; rw [← hu12, ← hga]; exact heap_alloc_new u11 _)
            have dSNga : DisA A3 FN.length ga := SN.out.dis (by rw [← hga]; exact Nat.le_refl _)
            replace SN := Lib.hid (SN.out.alloc (.cells #[.string ⟨#[73, 102, 45, 78, 111, 110, 101, 45, 77, 97, 116, 99, 104]⟩, .string ⟨#[73, 102, 45, 77, 111, 100, 105, 102, 105, 101, 100, 45, 83, 105, 110, 99, 101]⟩] 9))
            rw [hu12] at SN
            have dSAga : DisA A4 FA.length ga := SA.out.dis (by rw [← hga]; exact Nat.le_refl _)
            replace SA := Lib.hid (SA.out.alloc (.cells #[.string ⟨#[73, 102, 45, 78, 111, 110, 101, 45, 77, 97, 116, 99, 104]⟩, .string ⟨#[73, 102, 45, 77, 111, 100, 105, 102, 105, 101, 100, 45, 83, 105, 110, 99, 101]⟩] 9))
            rw [hu12] at SA
            have dSQga : DisA A0 f.length ga := SQ.out.dis (by rw [← hga]; exact Nat.le_refl _)
            replace SQ := Lib.hid (SQ.out.alloc (.cells #[.string ⟨#[73, 102, 45, 78, 111, 110, 101, 45, 77, 97, 116, 99, 104]⟩, .string ⟨#[73, 102, 45, 77, 111, 100, 105, 102, 105, 101, 100, 45, 83, 105, 110, 99, 101]⟩] 9))
            rw [hu12] at SQ
            have nbga : w.heap.size ≤ ga := (by rw [← hga]; exact HB.out.size)
            replace HB : Hid (Below w.heap.size w u12) := (by show Below _ _ _; rw [← hu12]; exact HB.out.alloc HB.out.size _)
            clear hu12 hga
            refine hK.out _ _ (⟨(cel5r ZA.out).2.2.2.1, (cel5r ZQ.out).2.2.2.1⟩) (fun hHeld => ?_)
            clear hK
            try simp only [Act.put, List.setIfInBounds_toArray, List.set_cons_zero, List.set_cons_succ]
            refine wpAnyH_ready (rs := [3]) (by kernel_rfl) (by simp) (AllReadyH.cons rfl (fun K hK => ?_) AllReadyH.nil)
            have hxgb : gb < u12.heap.size := (Array.getElem?_eq_some_iff.1 Tgb.out).1
            have hxga : ga < u12.heap.size := (Array.getElem?_eq_some_iff.1 Tga.out).1
            go_simp
            go_at_call 24
            refine (K6.out _ _ _ _ SA.out (SlS.ofRow Tga.out [⟨#[73, 102, 45, 78, 111, 110, 101, 45, 77, 97, 116, 99, 104]⟩, ⟨#[73, 102, 45, 77, 111, 100, 105, 102, 105, 101, 100, 45, 83, 105, 110, 99, 101]⟩] rfl (by decide))).mono ?_
            rintro e u13 ⟨ov, rfl, ho, hb⟩
            obtain ⟨D1, e1, rfl, hS1⟩ := ho.slf HDZ.out
            clear ho
            replace ZQ := Lib.hid (zero_still hb ZQ.out)
            replace ZP := Lib.hid (zero_still hb ZP.out)
            replace ZT := Lib.hid (zero_still hb ZT.out)
            replace ZN := Lib.hid (zero_still hb ZN.out)
            replace ZA := Lib.hid (zero_still hb ZA.out)
            replace Tgb := Lib.hid (zero_still hb Tgb.out)
            replace Tga := Lib.hid (zero_still hb Tga.out)
            replace SN := Lib.hid (SN.out.below hb)
            replace SA := Lib.hid (SA.out.below hb)
            replace SQ := Lib.hid (SQ.out.below hb)
            have S1 := Lib.hid hS1
            clear hS1
            replace HB := Lib.hid (below_then HB.out hb)
            clear hb
            try go_wp2_with fail
            refine hK.out _ _ (⟨(cel5r ZA.out).2.2.2.1, (cel5r ZQ.out).2.2.2.1⟩) (fun hHeld => ?_)
            clear hK
            try simp only [Act.put, List.setIfInBounds_toArray, List.set_cons_zero, List.set_cons_succ]
            refine wpAnyH_ready (rs := [7]) (by kernel_rfl) (by simp) (AllReadyH.cons rfl (fun K hK => ?_) AllReadyH.nil)
            have hxgb : gb < u13.heap.size := (Array.getElem?_eq_some_iff.1 Tgb.out).1
            have hxga : ga < u13.heap.size := (Array.getElem?_eq_some_iff.1 Tga.out).1
            go_simp
            go_at_call 24
            refine (K7.out _ _ SQ.out (SlS.ofRow Tgb.out [⟨#[73, 102, 45, 78, 111, 110, 101, 45, 77, 97, 116, 99, 104]⟩, ⟨#[73, 102, 45, 77, 111, 100, 105, 102, 105, 101, 100, 45, 83, 105, 110, 99, 101]⟩] rfl (by decide))).mono ?_
            rintro e u14 ⟨ov, rfl, ho, hb⟩
            obtain ⟨D2, e2, rfl, hS2⟩ := ho.slf HDZ.out
            clear ho
            replace ZQ := Lib.hid (zero_still hb ZQ.out)
            replace ZP := Lib.hid (zero_still hb ZP.out)
            replace ZT := Lib.hid (zero_still hb ZT.out)
            replace ZN := Lib.hid (zero_still hb ZN.out)
            replace ZA := Lib.hid (zero_still hb ZA.out)
            replace Tgb := Lib.hid (zero_still hb Tgb.out)
            replace Tga := Lib.hid (zero_still hb Tga.out)
            replace SN := Lib.hid (SN.out.below hb)
            replace SA := Lib.hid (SA.out.below hb)
            replace SQ := Lib.hid (SQ.out.below hb)
            replace S1 := Lib.hid (S1.out.below hb)
            have S2 := Lib.hid hS2
            clear hS2
            replace HB := Lib.hid (below_then HB.out hb)
            clear hb
            try go_wp2_with fail
            refine hK.out _ _ (⟨(cel5r ZA.out).2.2.2.1, (cel5r ZQ.out).2.2.2.1⟩) (fun hHeld => ?_)
            clear hK
            try simp only [Act.put, List.setIfInBounds_toArray, List.set_cons_zero, List.set_cons_succ]
            refine wpAnyH_ready (rs := [8]) (by kernel_rfl) (by simp) (AllReadyH.cons rfl (fun K hK => ?_) AllReadyH.nil)
            go_simp
            go_at_call 28
            refine (K8.out _ _ _ _ _ S1.out S2.out).mono ?_
            rintro e u15 ⟨rfl, hb⟩
            replace ZQ := Lib.hid (zero_still hb ZQ.out)
            replace ZP := Lib.hid (zero_still hb ZP.out)
            replace ZT := Lib.hid (zero_still hb ZT.out)
            replace ZN := Lib.hid (zero_still hb ZN.out)
            replace ZA := Lib.hid (zero_still hb ZA.out)
            replace Tgb := Lib.hid (zero_still hb Tgb.out)
            replace Tga := Lib.hid (zero_still hb Tga.out)
            replace SN := Lib.hid (SN.out.below hb)
            replace SA := Lib.hid (SA.out.below hb)
            replace SQ := Lib.hid (SQ.out.below hb)
            replace S1 := Lib.hid (S1.out.below hb)
            replace S2 := Lib.hid (S2.out.below hb)
            replace HB := Lib.hid (below_then HB.out hb)
            clear hb
            try go_wp2_with fail
            refine hK.out _ _ (⟨(cel5r ZA.out).2.2.2.1, (cel5r ZQ.out).2.2.2.1⟩) (fun hHeld => ?_)
            clear hK
            try simp only [Act.put, List.setIfInBounds_toArray, List.set_cons_zero, List.set_cons_succ]
            refine takeY (i := 9) (v := ?_) rfl rfl (by kernel_rfl) (by kernel_rfl) (by kernel_rfl) (by rfl) (fun _ _ _ h => h) ?y7 (by assumption) ?r7
            case y7 => (intro w hSw; (try dsimp only at hSw); go_simp; try with_reducible rfl)
            try simp only [Act.put, List.setIfInBounds_toArray, List.set_cons_zero, List.set_cons_succ]
            refine wpAnyH_done (by kernel_rfl) ?_ _
            go_wp2_with fail
            go_meet
            exact ⟨rfl, ZQ.out, ZP.out, ZT.out, ZN.out, ZA.out, SN.out, SA.out, HB.out⟩
        case rest =>
          clear K1 K2 K3 K4 K6 K7 K8 KQ KP SN SA SQ HB ZQ ZP ZT ZN ZA
          obtain ⟨rfl, ZQ, ZP, ZT, ZN, ZA, SN, SA, HB⟩ := hcut
          obtain ⟨qq0, qq1, qq2, qq3, qq4⟩ := cel5r ZQ.out
          obtain ⟨pq0, pq1, pq2, pq3, pq4⟩ := cel5r ZP.out
          obtain ⟨tq0, tq1⟩ := zero_two ZT.out
          obtain ⟨nq0, nq1, nq2, nq3, nq4⟩ := cel5r ZN.out
          obtain ⟨aq0, aq1, aq2, aq3, aq4⟩ := cel5r ZA.out
          go_wp2_with fail
          refine (CX.out _ HB.out).mono ?_
          rintro e v99 ⟨rfl, hb⟩
          go_wp2_with fail
          go_ret
          exact ⟨rfl, below_then HB.out hb⟩
      · skip
        rw [hb] at hgot
        have hg2 := hgot.2 rfl
        have hg1 := hgot.1
        have hsa := hsat hb
        have hse := hsel hb
        simp only [hg1, hg2] at K4
        simp only [hsa] at K9
        simp only [hse] at K10
        simp only [hb] at K1
        clear hgot hsel hsat hdz hQ0 hP0 hb hFA hFN hts hjn hdr hQ hQn hL hal hqn hdl HFQ HFP hg1 hg2 hsa hse
        generalize rtO a1.f = tg at *
        obtain ⟨ta, tb⟩ := tg
        unfold tgV at *
        simp only at *
        generalize tgS (ta, tb) = TT at *
        generalize ntF a1.f = FN at *
        skip
        generalize askF a0.f a1.f = FA at *
        generalize fdDrop a0.f cndN = FD at *
        obtain ⟨m, t, v, f, b⟩ := a0
        obtain ⟨pc, pr, pv, g, pb⟩ := a1
        unfold rqC rpC at *
        simp only at *
        have e1 : (TT.toList != TT.toList) = false := by simp
        have e2 : (t.toList != t.toList) = false := by simp
        have HB : Hid (Below w.heap.size w ((w.alloc (.cells #[.string m, .string t, .int .i64 v, .slice A0 f.length c0, .string b] 24)).alloc (.cells #[.int .i64 pc, .string pr, .int .i64 pv, .slice A1 g.length c1, .string pb] 26))) := ((Below.refl _ _).alloc (Nat.le_refl _) _).alloc (by simp) _
        have ZQ : Hid (((w.alloc (.cells #[.string m, .string t, .int .i64 v, .slice A0 f.length c0, .string b] 24)).alloc (.cells #[.int .i64 pc, .string pr, .int .i64 pv, .slice A1 g.length c1, .string pb] 26)).heap[w.heap.size]? = some (.cells #[.string m, .string t, .int .i64 v, .slice A0 f.length c0, .string b] 24 (0, 0))) := zero_more (heap_alloc_new w _)
        have zt := heap_alloc_new (w.alloc (.cells #[.string m, .string t, .int .i64 v, .slice A0 f.length c0, .string b] 24)) (.cells #[.int .i64 pc, .string pr, .int .i64 pv, .slice A1 g.length c1, .string pb] 26)
        rw [show (w.alloc (.cells #[.string m, .string t, .int .i64 v, .slice A0 f.length c0, .string b] 24)).heap.size = w.heap.size + 1 by simp] at zt
        have ZP := Lib.hid zt
        clear zt
        obtain ⟨qq0, qq1, qq2, qq3, qq4⟩ := cel5r ZQ.out
        obtain ⟨pq0, pq1, pq2, pq3, pq4⟩ := cel5r ZP.out
        go_enter Tryz.func6, Tryz.ntmps6
        go_wp2_with fail
        refine (KQ.out _ HB.out).mono ?_
        rintro e v10 ⟨rfl, hb⟩
        clear qq0 qq1 qq2 qq3 qq4 pq0 pq1 pq2 pq3 pq4
        replace ZQ := Lib.hid (zero_still hb ZQ.out)
        replace ZP := Lib.hid (zero_still hb ZP.out)
        replace HB := Lib.hid (below_then HB.out hb)
        clear hb
        obtain ⟨qq0, qq1, qq2, qq3, qq4⟩ := cel5r ZQ.out
        obtain ⟨pq0, pq1, pq2, pq3, pq4⟩ := cel5r ZP.out
        go_wp2_with fail
        refine (KP.out _ HB.out).mono ?_
        rintro e v11 ⟨rfl, hb⟩
        clear qq0 qq1 qq2 qq3 qq4 pq0 pq1 pq2 pq3 pq4
        replace ZQ := Lib.hid (zero_still hb ZQ.out)
        replace ZP := Lib.hid (zero_still hb ZP.out)
        replace HB := Lib.hid (below_then HB.out hb)
        clear hb
        obtain ⟨qq0, qq1, qq2, qq3, qq4⟩ := cel5r ZQ.out
        obtain ⟨pq0, pq1, pq2, pq3, pq4⟩ := cel5r ZP.out
        go_wp2_with fail
        refine (K1.out _ HB.out).mono ?_
        rintro e v12 ⟨rfl, hb⟩
        clear qq0 qq1 qq2 qq3 qq4 pq0 pq1 pq2 pq3 pq4
        replace ZQ := Lib.hid (zero_still hb ZQ.out)
        replace ZP := Lib.hid (zero_still hb ZP.out)
        replace HB := Lib.hid (below_then HB.out hb)
        clear hb
        have hbu : Below v12.heap.size v12 (v12.alloc (.cells #[.bool ta, .string tb] 49)) := (Below.refl _ _).alloc (Nat.le_refl _) _
        have nZQbt : w.heap.size < v12.heap.size := (Array.getElem?_eq_some_iff.1 ZQ.out).1
        have nZPbt : w.heap.size + 1 < v12.heap.size := (Array.getElem?_eq_some_iff.1 ZP.out).1
        replace ZQ := Lib.hid (zero_still hbu ZQ.out)
        replace ZP := Lib.hid (zero_still hbu ZP.out)
        replace HB := Lib.hid (below_then HB.out hbu)
        have zn := heap_alloc_new v12 (.cells #[.bool ta, .string tb] 49)
        obtain ⟨bt, hbt⟩ : ∃ q, v12.heap.size = q := ⟨_, rfl⟩
        rw [hbt] at zn
        rw [hbt] at nZQbt
        rw [hbt] at nZPbt
        have ZT := Lib.hid zn
        clear hbu zn
        obtain ⟨qq0, qq1, qq2, qq3, qq4⟩ := cel5r ZQ.out
        obtain ⟨pq0, pq1, pq2, pq3, pq4⟩ := cel5r ZP.out
        obtain ⟨tq0, tq1⟩ := zero_two ZT.out
        go_wp2_with fail
        refine (K2.out _ HB.out).mono ?_
        rintro e v13 ⟨A3, c3, rfl, hs, hf, hb⟩
        have DN := Lib.hid (hf.dis FN.length (Array.getElem?_eq_some_iff.1 ZP.out).1)
        clear qq0 qq1 qq2 qq3 qq4 pq0 pq1 pq2 pq3 pq4 tq0 tq1
        replace ZQ := Lib.hid (zero_still hb ZQ.out)
        replace ZP := Lib.hid (zero_still hb ZP.out)
        replace ZT := Lib.hid (zero_still hb ZT.out)
        replace HB := Lib.hid (below_then HB.out hb)
        have SN := Lib.hid hs
        clear hs
        clear hb
        clear hf
        have hbu : Below v13.heap.size v13 (v13.alloc (.cells #[.int .i64 304, .string nmodS, .int .i64 1, .slice A3 FN.length c3, .string ⟨#[]⟩] 26)) := (Below.refl _ _).alloc (Nat.le_refl _) _
        have dSNbn : DisA A3 FN.length v13.heap.size := SN.out.dis (Nat.le_refl _)
        clear dSNbn
        have nZQbn : w.heap.size < v13.heap.size := (Array.getElem?_eq_some_iff.1 ZQ.out).1
        have nZPbn : w.heap.size + 1 < v13.heap.size := (Array.getElem?_eq_some_iff.1 ZP.out).1
        have nZTbn : bt < v13.heap.size := (Array.getElem?_eq_some_iff.1 ZT.out).1
        replace ZQ := Lib.hid (zero_still hbu ZQ.out)
        replace ZP := Lib.hid (zero_still hbu ZP.out)
        replace ZT := Lib.hid (zero_still hbu ZT.out)
        replace SN := Lib.hid (SN.out.below hbu)
        replace HB := Lib.hid (below_then HB.out hbu)
        have zn := heap_alloc_new v13 (.cells #[.int .i64 304, .string nmodS, .int .i64 1, .slice A3 FN.length c3, .string ⟨#[]⟩] 26)
        obtain ⟨bn, hbn⟩ : ∃ q, v13.heap.size = q := ⟨_, rfl⟩
        rw [hbn] at zn
        rw [hbn] at nZQbn
        rw [hbn] at nZPbn
        rw [hbn] at nZTbn
        have ZN := Lib.hid zn
        clear hbu zn
        obtain ⟨qq0, qq1, qq2, qq3, qq4⟩ := cel5r ZQ.out
        obtain ⟨pq0, pq1, pq2, pq3, pq4⟩ := cel5r ZP.out
        obtain ⟨tq0, tq1⟩ := zero_two ZT.out
        obtain ⟨nq0, nq1, nq2, nq3, nq4⟩ := cel5r ZN.out
        go_wp2_with fail
        refine (K3.out _ HB.out).mono ?_
        rintro e v14 ⟨A4, c4, rfl, hs, hf, hb⟩
        have DA := Lib.hid (hf.dis FA.length (Array.getElem?_eq_some_iff.1 ZP.out).1)
        clear qq0 qq1 qq2 qq3 qq4 pq0 pq1 pq2 pq3 pq4 tq0 tq1 nq0 nq1 nq2 nq3 nq4
        replace ZQ := Lib.hid (zero_still hb ZQ.out)
        replace ZP := Lib.hid (zero_still hb ZP.out)
        replace ZT := Lib.hid (zero_still hb ZT.out)
        replace ZN := Lib.hid (zero_still hb ZN.out)
        replace SN := Lib.hid (SN.out.below hb)
        replace HB := Lib.hid (below_then HB.out hb)
        have SA := Lib.hid hs
        clear hs
        clear hb
        clear hf
        have hbu : Below v14.heap.size v14 (v14.alloc (.cells #[.string ⟨#[71, 69, 84]⟩, .string t, .int .i64 1, .slice A4 FA.length c4, .string ⟨#[]⟩] 24)) := (Below.refl _ _).alloc (Nat.le_refl _) _
        have dSNba : DisA A3 FN.length v14.heap.size := SN.out.dis (Nat.le_refl _)
        clear dSNba
        have dSAba : DisA A4 FA.length v14.heap.size := SA.out.dis (Nat.le_refl _)
        clear dSAba
        have nZQba : w.heap.size < v14.heap.size := (Array.getElem?_eq_some_iff.1 ZQ.out).1
        have nZPba : w.heap.size + 1 < v14.heap.size := (Array.getElem?_eq_some_iff.1 ZP.out).1
        have nZTba : bt < v14.heap.size := (Array.getElem?_eq_some_iff.1 ZT.out).1
        have nZNba : bn < v14.heap.size := (Array.getElem?_eq_some_iff.1 ZN.out).1
        replace ZQ := Lib.hid (zero_still hbu ZQ.out)
        replace ZP := Lib.hid (zero_still hbu ZP.out)
        replace ZT := Lib.hid (zero_still hbu ZT.out)
        replace ZN := Lib.hid (zero_still hbu ZN.out)
        replace SN := Lib.hid (SN.out.below hbu)
        replace SA := Lib.hid (SA.out.below hbu)
        replace HB := Lib.hid (below_then HB.out hbu)
        have zn := heap_alloc_new v14 (.cells #[.string ⟨#[71, 69, 84]⟩, .string t, .int .i64 1, .slice A4 FA.length c4, .string ⟨#[]⟩] 24)
        obtain ⟨ba, hba⟩ : ∃ q, v14.heap.size = q := ⟨_, rfl⟩
        rw [hba] at zn
        rw [hba] at nZQba
        rw [hba] at nZPba
        rw [hba] at nZTba
        rw [hba] at nZNba
        have ZA := Lib.hid zn
        clear hbu zn
        obtain ⟨qq0, qq1, qq2, qq3, qq4⟩ := cel5r ZQ.out
        obtain ⟨pq0, pq1, pq2, pq3, pq4⟩ := cel5r ZP.out
        obtain ⟨tq0, tq1⟩ := zero_two ZT.out
        obtain ⟨nq0, nq1, nq2, nq3, nq4⟩ := cel5r ZN.out
        obtain ⟨aq0, aq1, aq2, aq3, aq4⟩ := cel5r ZA.out
        go_wp2_with fail
        refine (K4.out _ _ _ SA.out).mono ?_
        rintro e v15 ⟨rfl, hb⟩
        clear qq0 qq1 qq2 qq3 qq4 pq0 pq1 pq2 pq3 pq4 tq0 tq1 nq0 nq1 nq2 nq3 nq4 aq0 aq1 aq2 aq3 aq4
        replace ZQ := Lib.hid (zero_still hb ZQ.out)
        replace ZP := Lib.hid (zero_still hb ZP.out)
        replace ZT := Lib.hid (zero_still hb ZT.out)
        replace ZN := Lib.hid (zero_still hb ZN.out)
        replace ZA := Lib.hid (zero_still hb ZA.out)
        replace SN := Lib.hid (SN.out.below hb)
        replace SA := Lib.hid (SA.out.below hb)
        replace HB := Lib.hid (below_then HB.out hb)
        clear hb
        obtain ⟨qq0, qq1, qq2, qq3, qq4⟩ := cel5r ZQ.out
        obtain ⟨pq0, pq1, pq2, pq3, pq4⟩ := cel5r ZP.out
        obtain ⟨tq0, tq1⟩ := zero_two ZT.out
        obtain ⟨nq0, nq1, nq2, nq3, nq4⟩ := cel5r ZN.out
        obtain ⟨aq0, aq1, aq2, aq3, aq4⟩ := cel5r ZA.out
        go_wp2_with fail
        refine (K5.out _).mono ?_
        rintro e v16 ⟨rfl, hb⟩
        clear qq0 qq1 qq2 qq3 qq4 pq0 pq1 pq2 pq3 pq4 tq0 tq1 nq0 nq1 nq2 nq3 nq4 aq0 aq1 aq2 aq3 aq4
        replace ZQ := Lib.hid (zero_still hb ZQ.out)
        replace ZP := Lib.hid (zero_still hb ZP.out)
        replace ZT := Lib.hid (zero_still hb ZT.out)
        replace ZN := Lib.hid (zero_still hb ZN.out)
        replace ZA := Lib.hid (zero_still hb ZA.out)
        replace SN := Lib.hid (SN.out.below hb)
        replace SA := Lib.hid (SA.out.below hb)
        replace HB := Lib.hid (below_then HB.out hb)
        clear hb
        obtain ⟨qq0, qq1, qq2, qq3, qq4⟩ := cel5r ZQ.out
        obtain ⟨pq0, pq1, pq2, pq3, pq4⟩ := cel5r ZP.out
        obtain ⟨tq0, tq1⟩ := zero_two ZT.out
        obtain ⟨nq0, nq1, nq2, nq3, nq4⟩ := cel5r ZN.out
        obtain ⟨aq0, aq1, aq2, aq3, aq4⟩ := cel5r ZA.out
        go_upto_region 9 with fail
        clear qq0 qq1 qq2 qq3 qq4 pq0 pq1 pq2 pq3 pq4 tq0 tq1 nq0 nq1 nq2 nq3 nq4 aq0 aq1 aq2 aq3 aq4
        obtain ⟨W0, hW0⟩ : ∃ W, W = v16 := ⟨_, rfl⟩
        rw [← hW0] at HB ZQ ZP ZT ZN ZA SN SA ⊢
        clear hW0
        have SQ := Lib.hid (HSQ.out.below HB.out)
        go_cut [74] (fun s wx => s = .bool false ∧ Hid (wx.heap[w.heap.size]? = some (.cells #[.string m, .string t, .int .i64 v, .slice A0 f.length c0, .string b] 24 (0, 0))) ∧ Hid (wx.heap[w.heap.size + 1]? = some (.cells #[.int .i64 pc, .string pr, .int .i64 pv, .slice A1 g.length c1, .string pb] 26 (0, 0))) ∧ Hid (wx.heap[bt]? = some (.cells #[.bool ta, .string tb] 49 (0, 0))) ∧ Hid (wx.heap[bn]? = some (.cells #[.int .i64 304, .string nmodS, .int .i64 1, .slice A3 FN.length c3, .string ⟨#[]⟩] 26 (0, 0))) ∧ Hid (wx.heap[ba]? = some (.cells #[.string ⟨#[71, 69, 84]⟩, .string t, .int .i64 1, .slice A4 FA.length c4, .string ⟨#[]⟩] 24 (0, 0))) ∧ Hid (SlF wx A3 FN.length c3 FN) ∧ Hid (SlF wx A4 FA.length c4 FA) ∧ Hid (Below w.heap.size w wx))
        case first =>
          go_wp2_with fail
          obtain ⟨u1, hu1⟩ : ∃ W, W0.drew = W := ⟨_, rfl⟩
          replace ZQ : Hid (u1.heap[w.heap.size]? = some (.cells #[.string m, .string t, .int .i64 v, .slice A0 f.length c0, .string b] 24 (0, 0))) := (by show _ = _; rw [← hu1]; exact ZQ.out)
          replace ZP : Hid (u1.heap[w.heap.size + 1]? = some (.cells #[.int .i64 pc, .string pr, .int .i64 pv, .slice A1 g.length c1, .string pb] 26 (0, 0))) := (by show _ = _; rw [← hu1]; exact ZP.out)
          replace ZT : Hid (u1.heap[bt]? = some (.cells #[.bool ta, .string tb] 49 (0, 0))) := (by show _ = _; rw [← hu1]; exact ZT.out)
          replace ZN : Hid (u1.heap[bn]? = some (.cells #[.int .i64 304, .string nmodS, .int .i64 1, .slice A3 FN.length c3, .string ⟨#[]⟩] 26 (0, 0))) := (by show _ = _; rw [← hu1]; exact ZN.out)
          replace ZA : Hid (u1.heap[ba]? = some (.cells #[.string ⟨#[71, 69, 84]⟩, .string t, .int .i64 1, .slice A4 FA.length c4, .string ⟨#[]⟩] 24 (0, 0))) := (by show _ = _; rw [← hu1]; exact ZA.out)
          replace HB : Hid (Below w.heap.size w u1) := (by show Below _ _ _; rw [← hu1]; exact HB.out.drew)
          replace SN := Lib.hid SN.out.drew
          rw [hu1] at SN
          replace SA := Lib.hid SA.out.drew
          rw [hu1] at SA
          replace SQ := Lib.hid SQ.out.drew
          rw [hu1] at SQ
          refine wp_region_held_drew (S := fun W => W.cell? ⟨ba, 3, none⟩ = some (.slice A4 FA.length c4) ∧ W.cell? ⟨w.heap.size, 3, none⟩ = some (.slice A0 f.length c0)) (by kernel_rfl) (by rw [hu1]; exact ⟨(cel5r ZA.out).2.2.2.1, (cel5r ZQ.out).2.2.2.1⟩) (fun hHeld => ?_)
          rw [hu1] at hHeld ⊢
          clear hu1
          refine takeY (i := 0) (v := ?_) rfl rfl (by kernel_rfl) (by kernel_rfl) (by kernel_rfl) (by rfl) (fun _ _ _ h => h) ?yt1 (by assumption) ?rt1
          case yt1 => (intro w hSw; (try dsimp only at hSw); go_simp; try with_reducible rfl)
          try simp only [Act.put, List.setIfInBounds_toArray, List.set_cons_zero, List.set_cons_succ]
          refine takeY (i := 1) (v := ?_) rfl rfl (by kernel_rfl) (by kernel_rfl) (by kernel_rfl) (by rfl) (fun _ _ _ h => h) ?yt2 (by assumption) ?rt2
          case yt2 => (intro w hSw; (try dsimp only at hSw); go_simp; try with_reducible rfl)
          try simp only [Act.put, List.setIfInBounds_toArray, List.set_cons_zero, List.set_cons_succ]
          refine takeY (i := 4) (v := ?_) rfl rfl (by kernel_rfl) (by kernel_rfl) (by kernel_rfl) (by rfl) (fun _ _ _ h => h) ?yt3 (by assumption) ?rt3
          case yt3 => (intro w hSw; (try dsimp only at hSw); go_simp; try with_reducible rfl)
          try simp only [Act.put, List.setIfInBounds_toArray, List.set_cons_zero, List.set_cons_succ]
          refine takeY (i := 5) (v := ?_) rfl rfl (by kernel_rfl) (by kernel_rfl) (by kernel_rfl) (by rfl) (fun _ _ _ h => h) ?yt4 (by assumption) ?rt4
          case yt4 => (intro w hSw; (try dsimp only at hSw); go_simp; try with_reducible rfl)
          try simp only [Act.put, List.setIfInBounds_toArray, List.set_cons_zero, List.set_cons_succ]
          refine wpAnyH_ready (rs := [2, 6]) (by kernel_rfl) (by simp) (AllReadyH.cons rfl (fun K hK => ?_) (AllReadyH.cons rfl (fun K hK => ?_) AllReadyH.nil))
          · go_simp
            obtain ⟨u2, hu2⟩ : ∃ W, u1.alloc (.cells #[.string ⟨#[73, 102, 45, 78, 111, 110, 101, 45, 77, 97, 116, 99, 104]⟩, .string ⟨#[73, 102, 45, 77, 111, 100, 105, 102, 105, 101, 100, 45, 83, 105, 110, 99, 101]⟩] 9) = W := ⟨_, rfl⟩
            obtain ⟨ga, hga⟩ : ∃ g, u1.heap.size = g := ⟨_, rfl⟩
            rw [hu2, hga]
            have nZQga : w.heap.size < ga := (by rw [← hga]; exact (Array.getElem?_eq_some_iff.1 ZQ.out).1)
            have nZPga : w.heap.size + 1 < ga := (by rw [← hga]; exact (Array.getElem?_eq_some_iff.1 ZP.out).1)
            have nZTga : bt < ga := (by rw [← hga]; exact (Array.getElem?_eq_some_iff.1 ZT.out).1)
            have nZNga : bn < ga := (by rw [← hga]; exact (Array.getElem?_eq_some_iff.1 ZN.out).1)
            have nZAga : ba < ga := (by rw [← hga]; exact (Array.getElem?_eq_some_iff.1 ZA.out).1)
            replace ZQ : Hid (u2.heap[w.heap.size]? = some (.cells #[.string m, .string t, .int .i64 v, .slice A0 f.length c0, .string b] 24 (0, 0))) := (by show _ = _; rw [← hu2]; exact zero_more ZQ.out)
            replace ZP : Hid (u2.heap[w.heap.size + 1]? = some (.cells #[.int .i64 pc, .string pr, .int .i64 pv, .slice A1 g.length c1, .string pb] 26 (0, 0))) := (by show _ = _; rw [← hu2]; exact zero_more ZP.out)
            replace ZT : Hid (u2.heap[bt]? = some (.cells #[.bool ta, .string tb] 49 (0, 0))) := (by show _ = _; rw [← hu2]; exact zero_more ZT.out)
            replace ZN : Hid (u2.heap[bn]? = some (.cells #[.int .i64 304, .string nmodS, .int .i64 1, .slice A3 FN.length c3, .string ⟨#[]⟩] 26 (0, 0))) := (by show _ = _; rw [← hu2]; exact zero_more ZN.out)
            replace ZA : Hid (u2.heap[ba]? = some (.cells #[.string ⟨#[71, 69, 84]⟩, .string t, .int .i64 1, .slice A4 FA.length c4, .string ⟨#[]⟩] 24 (0, 0))) := (by show _ = _; rw [← hu2]; exact zero_more ZA.out)
            have Tga : Hid (u2.heap[ga]? = some (.cells #[.string ⟨#[73, 102, 45, 78, 111, 110, 101, 45, 77, 97, 116, 99, 104]⟩, .string ⟨#[73, 102, 45, 77, 111, 100, 105, 102, 105, 101, 100, 45, 83, 105, 110, 99, 101]⟩] 9 (0, 0))) := (by show _ = _; rw [← hu2, ← hga]; exact heap_alloc_new u1 _)
            have dSNga : DisA A3 FN.length ga := SN.out.dis (by rw [← hga]; exact Nat.le_refl _)
            replace SN := Lib.hid (SN.out.alloc (.cells #[.string ⟨#[73, 102, 45, 78, 111, 110, 101, 45, 77, 97, 116, 99, 104]⟩, .string ⟨#[73, 102, 45, 77, 111, 100, 105, 102, 105, 101, 100, 45, 83, 105, 110, 99, 101]⟩] 9))
            rw [hu2] at SN
            have dSAga : DisA A4 FA.length ga := SA.out.dis (by rw [← hga]; exact Nat.le_refl _)
            replace SA := Lib.hid (SA.out.alloc (.cells #[.string ⟨#[73, 102, 45, 78, 111, 110, 101, 45, 77, 97, 116, 99, 104]⟩, .string ⟨#[73, 102, 45, 77, 111, 100, 105, 102, 105, 101, 100, 45, 83, 105, 110, 99, 101]⟩] 9))
            rw [hu2] at SA
            have dSQga : DisA A0 f.length ga := SQ.out.dis (by rw [← hga]; exact Nat.le_refl _)
            replace SQ := Lib.hid (SQ.out.alloc (.cells #[.string ⟨#[73, 102, 45, 78, 111, 110, 101, 45, 77, 97, 116, 99, 104]⟩, .string ⟨#[73, 102, 45, 77, 111, 100, 105, 102, 105, 101, 100, 45, 83, 105, 110, 99, 101]⟩] 9))
            rw [hu2] at SQ
            have nbga : w.heap.size ≤ ga := (by rw [← hga]; exact HB.out.size)
            replace HB : Hid (Below w.heap.size w u2) := (by show Below _ _ _; rw [← hu2]; exact HB.out.alloc HB.out.size _)
            clear hu2 hga
            refine hK.out _ _ (⟨(cel5r ZA.out).2.2.2.1, (cel5r ZQ.out).2.2.2.1⟩) (fun hHeld => ?_)
            clear hK
            try simp only [Act.put, List.setIfInBounds_toArray, List.set_cons_zero, List.set_cons_succ]
            refine wpAnyH_ready (rs := [3, 6]) (by kernel_rfl) (by simp) (AllReadyH.cons rfl (fun K hK => ?_) (AllReadyH.cons rfl (fun K hK => ?_) AllReadyH.nil))
            · have hxga : ga < u2.heap.size := (Array.getElem?_eq_some_iff.1 Tga.out).1
              go_simp
              go_at_call 24
              refine (K6.out _ _ _ _ SA.out (SlS.ofRow Tga.out [⟨#[73, 102, 45, 78, 111, 110, 101, 45, 77, 97, 116, 99, 104]⟩, ⟨#[73, 102, 45, 77, 111, 100, 105, 102, 105, 101, 100, 45, 83, 105, 110, 99, 101]⟩] rfl (by decide))).mono ?_
              rintro e u3 ⟨ov, rfl, ho, hb⟩
              obtain ⟨D1, e1, rfl, hS1⟩ := ho.slf HDZ.out
              clear ho
              replace ZQ := Lib.hid (zero_still hb ZQ.out)
              replace ZP := Lib.hid (zero_still hb ZP.out)
              replace ZT := Lib.hid (zero_still hb ZT.out)
              replace ZN := Lib.hid (zero_still hb ZN.out)
              replace ZA := Lib.hid (zero_still hb ZA.out)
              replace Tga := Lib.hid (zero_still hb Tga.out)
              replace SN := Lib.hid (SN.out.below hb)
              replace SA := Lib.hid (SA.out.below hb)
              replace SQ := Lib.hid (SQ.out.below hb)
              have S1 := Lib.hid hS1
              clear hS1
              replace HB := Lib.hid (below_then HB.out hb)
              clear hb
              try go_wp2_with fail
              refine hK.out _ _ (⟨(cel5r ZA.out).2.2.2.1, (cel5r ZQ.out).2.2.2.1⟩) (fun hHeld => ?_)
              clear hK
              try simp only [Act.put, List.setIfInBounds_toArray, List.set_cons_zero, List.set_cons_succ]
              refine wpAnyH_ready (rs := [6]) (by kernel_rfl) (by simp) (AllReadyH.cons rfl (fun K hK => ?_) AllReadyH.nil)
              go_simp
              obtain ⟨u4, hu4⟩ : ∃ W, u3.alloc (.cells #[.string ⟨#[73, 102, 45, 78, 111, 110, 101, 45, 77, 97, 116, 99, 104]⟩, .string ⟨#[73, 102, 45, 77, 111, 100, 105, 102, 105, 101, 100, 45, 83, 105, 110, 99, 101]⟩] 9) = W := ⟨_, rfl⟩
              obtain ⟨gb, hgb⟩ : ∃ g, u3.heap.size = g := ⟨_, rfl⟩
              rw [hu4, hgb]
              have nZQgb : w.heap.size < gb := (by rw [← hgb]; exact (Array.getElem?_eq_some_iff.1 ZQ.out).1)
              have nZPgb : w.heap.size + 1 < gb := (by rw [← hgb]; exact (Array.getElem?_eq_some_iff.1 ZP.out).1)
              have nZTgb : bt < gb := (by rw [← hgb]; exact (Array.getElem?_eq_some_iff.1 ZT.out).1)
              have nZNgb : bn < gb := (by rw [← hgb]; exact (Array.getElem?_eq_some_iff.1 ZN.out).1)
              have nZAgb : ba < gb := (by rw [← hgb]; exact (Array.getElem?_eq_some_iff.1 ZA.out).1)
              have nTgagb : ga < gb := (by rw [← hgb]; exact (Array.getElem?_eq_some_iff.1 Tga.out).1)
              replace ZQ : Hid (u4.heap[w.heap.size]? = some (.cells #[.string m, .string t, .int .i64 v, .slice A0 f.length c0, .string b] 24 (0, 0))) := (by show _ = _; rw [← hu4]; exact zero_more ZQ.out)
              replace ZP : Hid (u4.heap[w.heap.size + 1]? = some (.cells #[.int .i64 pc, .string pr, .int .i64 pv, .slice A1 g.length c1, .string pb] 26 (0, 0))) := (by show _ = _; rw [← hu4]; exact zero_more ZP.out)
              replace ZT : Hid (u4.heap[bt]? = some (.cells #[.bool ta, .string tb] 49 (0, 0))) := (by show _ = _; rw [← hu4]; exact zero_more ZT.out)
              replace ZN : Hid (u4.heap[bn]? = some (.cells #[.int .i64 304, .string nmodS, .int .i64 1, .slice A3 FN.length c3, .string ⟨#[]⟩] 26 (0, 0))) := (by show _ = _; rw [← hu4]; exact zero_more ZN.out)
              replace ZA : Hid (u4.heap[ba]? = some (.cells #[.string ⟨#[71, 69, 84]⟩, .string t, .int .i64 1, .slice A4 FA.length c4, .string ⟨#[]⟩] 24 (0, 0))) := (by show _ = _; rw [← hu4]; exact zero_more ZA.out)
              replace Tga : Hid (u4.heap[ga]? = some (.cells #[.string ⟨#[73, 102, 45, 78, 111, 110, 101, 45, 77, 97, 116, 99, 104]⟩, .string ⟨#[73, 102, 45, 77, 111, 100, 105, 102, 105, 101, 100, 45, 83, 105, 110, 99, 101]⟩] 9 (0, 0))) := (by show _ = _; rw [← hu4]; exact zero_more Tga.out)
              have Tgb : Hid (u4.heap[gb]? = some (.cells #[.string ⟨#[73, 102, 45, 78, 111, 110, 101, 45, 77, 97, 116, 99, 104]⟩, .string ⟨#[73, 102, 45, 77, 111, 100, 105, 102, 105, 101, 100, 45, 83, 105, 110, 99, 101]⟩] 9 (0, 0))) := (by show _ = _; rw [← hu4, ← hgb]; exact heap_alloc_new u3 _)
              have dSNgb : DisA A3 FN.length gb := SN.out.dis (by rw [← hgb]; exact Nat.le_refl _)
              replace SN := Lib.hid (SN.out.alloc (.cells #[.string ⟨#[73, 102, 45, 78, 111, 110, 101, 45, 77, 97, 116, 99, 104]⟩, .string ⟨#[73, 102, 45, 77, 111, 100, 105, 102, 105, 101, 100, 45, 83, 105, 110, 99, 101]⟩] 9))
              rw [hu4] at SN
              have dSAgb : DisA A4 FA.length gb := SA.out.dis (by rw [← hgb]; exact Nat.le_refl _)
              replace SA := Lib.hid (SA.out.alloc (.cells #[.string ⟨#[73, 102, 45, 78, 111, 110, 101, 45, 77, 97, 116, 99, 104]⟩, .string ⟨#[73, 102, 45, 77, 111, 100, 105, 102, 105, 101, 100, 45, 83, 105, 110, 99, 101]⟩] 9))
              rw [hu4] at SA
              have dSQgb : DisA A0 f.length gb := SQ.out.dis (by rw [← hgb]; exact Nat.le_refl _)
              replace SQ := Lib.hid (SQ.out.alloc (.cells #[.string ⟨#[73, 102, 45, 78, 111, 110, 101, 45, 77, 97, 116, 99, 104]⟩, .string ⟨#[73, 102, 45, 77, 111, 100, 105, 102, 105, 101, 100, 45, 83, 105, 110, 99, 101]⟩] 9))
              rw [hu4] at SQ
              have dS1gb : DisA D1 FD.length gb := S1.out.dis (by rw [← hgb]; exact Nat.le_refl _)
              replace S1 := Lib.hid (S1.out.alloc (.cells #[.string ⟨#[73, 102, 45, 78, 111, 110, 101, 45, 77, 97, 116, 99, 104]⟩, .string ⟨#[73, 102, 45, 77, 111, 100, 105, 102, 105, 101, 100, 45, 83, 105, 110, 99, 101]⟩] 9))
              rw [hu4] at S1
              have nbgb : w.heap.size ≤ gb := (by rw [← hgb]; exact HB.out.size)
              replace HB : Hid (Below w.heap.size w u4) := (by show Below _ _ _; rw [← hu4]; exact HB.out.alloc HB.out.size _)
              clear hu4 hgb
              refine hK.out _ _ (⟨(cel5r ZA.out).2.2.2.1, (cel5r ZQ.out).2.2.2.1⟩) (fun hHeld => ?_)
              clear hK
              try simp only [Act.put, List.setIfInBounds_toArray, List.set_cons_zero, List.set_cons_succ]
              refine wpAnyH_ready (rs := [7]) (by kernel_rfl) (by simp) (AllReadyH.cons rfl (fun K hK => ?_) AllReadyH.nil)
              have hxga : ga < u4.heap.size := (Array.getElem?_eq_some_iff.1 Tga.out).1
              have hxgb : gb < u4.heap.size := (Array.getElem?_eq_some_iff.1 Tgb.out).1
              go_simp
              go_at_call 24
              refine (K7.out _ _ SQ.out (SlS.ofRow Tgb.out [⟨#[73, 102, 45, 78, 111, 110, 101, 45, 77, 97, 116, 99, 104]⟩, ⟨#[73, 102, 45, 77, 111, 100, 105, 102, 105, 101, 100, 45, 83, 105, 110, 99, 101]⟩] rfl (by decide))).mono ?_
              rintro e u5 ⟨ov, rfl, ho, hb⟩
              obtain ⟨D2, e2, rfl, hS2⟩ := ho.slf HDZ.out
              clear ho
              replace ZQ := Lib.hid (zero_still hb ZQ.out)
              replace ZP := Lib.hid (zero_still hb ZP.out)
              replace ZT := Lib.hid (zero_still hb ZT.out)
              replace ZN := Lib.hid (zero_still hb ZN.out)
              replace ZA := Lib.hid (zero_still hb ZA.out)
              replace Tga := Lib.hid (zero_still hb Tga.out)
              replace Tgb := Lib.hid (zero_still hb Tgb.out)
              replace SN := Lib.hid (SN.out.below hb)
              replace SA := Lib.hid (SA.out.below hb)
              replace SQ := Lib.hid (SQ.out.below hb)
              replace S1 := Lib.hid (S1.out.below hb)
              have S2 := Lib.hid hS2
              clear hS2
              replace HB := Lib.hid (below_then HB.out hb)
              clear hb
              try go_wp2_with fail
              refine hK.out _ _ (⟨(cel5r ZA.out).2.2.2.1, (cel5r ZQ.out).2.2.2.1⟩) (fun hHeld => ?_)
              clear hK
              try simp only [Act.put, List.setIfInBounds_toArray, List.set_cons_zero, List.set_cons_succ]
              refine wpAnyH_ready (rs := [8]) (by kernel_rfl) (by simp) (AllReadyH.cons rfl (fun K hK => ?_) AllReadyH.nil)
              go_simp
              go_at_call 28
              refine (K8.out _ _ _ _ _ S1.out S2.out).mono ?_
              rintro e u6 ⟨rfl, hb⟩
              replace ZQ := Lib.hid (zero_still hb ZQ.out)
              replace ZP := Lib.hid (zero_still hb ZP.out)
              replace ZT := Lib.hid (zero_still hb ZT.out)
              replace ZN := Lib.hid (zero_still hb ZN.out)
              replace ZA := Lib.hid (zero_still hb ZA.out)
              replace Tga := Lib.hid (zero_still hb Tga.out)
              replace Tgb := Lib.hid (zero_still hb Tgb.out)
              replace SN := Lib.hid (SN.out.below hb)
              replace SA := Lib.hid (SA.out.below hb)
              replace SQ := Lib.hid (SQ.out.below hb)
              replace S1 := Lib.hid (S1.out.below hb)
              replace S2 := Lib.hid (S2.out.below hb)
              replace HB := Lib.hid (below_then HB.out hb)
              clear hb
              try go_wp2_with fail
              refine hK.out _ _ (⟨(cel5r ZA.out).2.2.2.1, (cel5r ZQ.out).2.2.2.1⟩) (fun hHeld => ?_)
              clear hK
              try simp only [Act.put, List.setIfInBounds_toArray, List.set_cons_zero, List.set_cons_succ]
              refine takeY (i := 9) (v := ?_) rfl rfl (by kernel_rfl) (by kernel_rfl) (by kernel_rfl) (by rfl) (fun _ _ _ h => h) ?yt5 (by assumption) ?rt5
              case yt5 => (intro w hSw; (try dsimp only at hSw); go_simp; try with_reducible rfl)
              try simp only [Act.put, List.setIfInBounds_toArray, List.set_cons_zero, List.set_cons_succ]
              refine wpAnyH_done (by kernel_rfl) ?_ _
              go_wp2_with fail
              go_meet
              exact ⟨rfl, ZQ.out, ZP.out, ZT.out, ZN.out, ZA.out, SN.out, SA.out, HB.out⟩
            · go_simp
              obtain ⟨u7, hu7⟩ : ∃ W, u2.alloc (.cells #[.string ⟨#[73, 102, 45, 78, 111, 110, 101, 45, 77, 97, 116, 99, 104]⟩, .string ⟨#[73, 102, 45, 77, 111, 100, 105, 102, 105, 101, 100, 45, 83, 105, 110, 99, 101]⟩] 9) = W := ⟨_, rfl⟩
              obtain ⟨gb, hgb⟩ : ∃ g, u2.heap.size = g := ⟨_, rfl⟩
              rw [hu7, hgb]
              have nZQgb : w.heap.size < gb := (by rw [← hgb]; exact (Array.getElem?_eq_some_iff.1 ZQ.out).1)
              have nZPgb : w.heap.size + 1 < gb := (by rw [← hgb]; exact (Array.getElem?_eq_some_iff.1 ZP.out).1)
              have nZTgb : bt < gb := (by rw [← hgb]; exact (Array.getElem?_eq_some_iff.1 ZT.out).1)
              have nZNgb : bn < gb := (by rw [← hgb]; exact (Array.getElem?_eq_some_iff.1 ZN.out).1)
              have nZAgb : ba < gb := (by rw [← hgb]; exact (Array.getElem?_eq_some_iff.1 ZA.out).1)
              have nTgagb : ga < gb := (by rw [← hgb]; exact (Array.getElem?_eq_some_iff.1 Tga.out).1)
              replace ZQ : Hid (u7.heap[w.heap.size]? = some (.cells #[.string m, .string t, .int .i64 v, .slice A0 f.length c0, .string b] 24 (0, 0))) := (by show _ = _; rw [← hu7]; exact zero_more ZQ.out)
              replace ZP : Hid (u7.heap[w.heap.size + 1]? = some (.cells #[.int .i64 pc, .string pr, .int .i64 pv, .slice A1 g.length c1, .string pb] 26 (0, 0))) := (by show _ = _; rw [← hu7]; exact zero_more ZP.out)
              replace ZT : Hid (u7.heap[bt]? = some (.cells #[.bool ta, .string tb] 49 (0, 0))) := (by show _ = _; rw [← hu7]; exact zero_more ZT.out)
              replace ZN : Hid (u7.heap[bn]? = some (.cells #[.int .i64 304, .string nmodS, .int .i64 1, .slice A3 FN.length c3, .string ⟨#[]⟩] 26 (0, 0))) := (by show _ = _; rw [← hu7]; exact zero_more ZN.out)
              replace ZA : Hid (u7.heap[ba]? = some (.cells #[.string ⟨#[71, 69, 84]⟩, .string t, .int .i64 1, .slice A4 FA.length c4, .string ⟨#[]⟩] 24 (0, 0))) := (by show _ = _; rw [← hu7]; exact zero_more ZA.out)
              replace Tga : Hid (u7.heap[ga]? = some (.cells #[.string ⟨#[73, 102, 45, 78, 111, 110, 101, 45, 77, 97, 116, 99, 104]⟩, .string ⟨#[73, 102, 45, 77, 111, 100, 105, 102, 105, 101, 100, 45, 83, 105, 110, 99, 101]⟩] 9 (0, 0))) := (by show _ = _; rw [← hu7]; exact zero_more Tga.out)
              have Tgb : Hid (u7.heap[gb]? = some (.cells #[.string ⟨#[73, 102, 45, 78, 111, 110, 101, 45, 77, 97, 116, 99, 104]⟩, .string ⟨#[73, 102, 45, 77, 111, 100, 105, 102, 105, 101, 100, 45, 83, 105, 110, 99, 101]⟩] 9 (0, 0))) := (by show _ = _; rw [← hu7, ← hgb]; exact heap_alloc_new u2 _)
              have dSNgb : DisA A3 FN.length gb := SN.out.dis (by rw [← hgb]; exact Nat.le_refl _)
              replace SN := Lib.hid (SN.out.alloc (.cells #[.string ⟨#[73, 102, 45, 78, 111, 110, 101, 45, 77, 97, 116, 99, 104]⟩, .string ⟨#[73, 102, 45, 77, 111, 100, 105, 102, 105, 101, 100, 45, 83, 105, 110, 99, 101]⟩] 9))
              rw [hu7] at SN
              have dSAgb : DisA A4 FA.length gb := SA.out.dis (by rw [← hgb]; exact Nat.le_refl _)
              replace SA := Lib.hid (SA.out.alloc (.cells #[.string ⟨#[73, 102, 45, 78, 111, 110, 101, 45, 77, 97, 116, 99, 104]⟩, .string ⟨#[73, 102, 45, 77, 111, 100, 105, 102, 105, 101, 100, 45, 83, 105, 110, 99, 101]⟩] 9))
              rw [hu7] at SA
              have dSQgb : DisA A0 f.length gb := SQ.out.dis (by rw [← hgb]; exact Nat.le_refl _)
              replace SQ := Lib.hid (SQ.out.alloc (.cells #[.string ⟨#[73, 102, 45, 78, 111, 110, 101, 45, 77, 97, 116, 99, 104]⟩, .string ⟨#[73, 102, 45, 77, 111, 100, 105, 102, 105, 101, 100, 45, 83, 105, 110, 99, 101]⟩] 9))
              rw [hu7] at SQ
              have nbgb : w.heap.size ≤ gb := (by rw [← hgb]; exact HB.out.size)
              replace HB : Hid (Below w.heap.size w u7) := (by show Below _ _ _; rw [← hu7]; exact HB.out.alloc HB.out.size _)
              clear hu7 hgb
              refine hK.out _ _ (⟨(cel5r ZA.out).2.2.2.1, (cel5r ZQ.out).2.2.2.1⟩) (fun hHeld => ?_)
              clear hK
              try simp only [Act.put, List.setIfInBounds_toArray, List.set_cons_zero, List.set_cons_succ]
              refine wpAnyH_ready (rs := [3]) (by kernel_rfl) (by simp) (AllReadyH.cons rfl (fun K hK => ?_) AllReadyH.nil)
              have hxga : ga < u7.heap.size := (Array.getElem?_eq_some_iff.1 Tga.out).1
              have hxgb : gb < u7.heap.size := (Array.getElem?_eq_some_iff.1 Tgb.out).1
              go_simp
              go_at_call 24
              refine (K6.out _ _ _ _ SA.out (SlS.ofRow Tga.out [⟨#[73, 102, 45, 78, 111, 110, 101, 45, 77, 97, 116, 99, 104]⟩, ⟨#[73, 102, 45, 77, 111, 100, 105, 102, 105, 101, 100, 45, 83, 105, 110, 99, 101]⟩] rfl (by decide))).mono ?_
              rintro e u8 ⟨ov, rfl, ho, hb⟩
              obtain ⟨D1, e1, rfl, hS1⟩ := ho.slf HDZ.out
              clear ho
              replace ZQ := Lib.hid (zero_still hb ZQ.out)
              replace ZP := Lib.hid (zero_still hb ZP.out)
              replace ZT := Lib.hid (zero_still hb ZT.out)
              replace ZN := Lib.hid (zero_still hb ZN.out)
              replace ZA := Lib.hid (zero_still hb ZA.out)
              replace Tga := Lib.hid (zero_still hb Tga.out)
              replace Tgb := Lib.hid (zero_still hb Tgb.out)
              replace SN := Lib.hid (SN.out.below hb)
              replace SA := Lib.hid (SA.out.below hb)
              replace SQ := Lib.hid (SQ.out.below hb)
              have S1 := Lib.hid hS1
              clear hS1
              replace HB := Lib.hid (below_then HB.out hb)
              clear hb
              try go_wp2_with fail
              refine hK.out _ _ (⟨(cel5r ZA.out).2.2.2.1, (cel5r ZQ.out).2.2.2.1⟩) (fun hHeld => ?_)
              clear hK
              try simp only [Act.put, List.setIfInBounds_toArray, List.set_cons_zero, List.set_cons_succ]
              refine wpAnyH_ready (rs := [7]) (by kernel_rfl) (by simp) (AllReadyH.cons rfl (fun K hK => ?_) AllReadyH.nil)
              have hxga : ga < u8.heap.size := (Array.getElem?_eq_some_iff.1 Tga.out).1
              have hxgb : gb < u8.heap.size := (Array.getElem?_eq_some_iff.1 Tgb.out).1
              go_simp
              go_at_call 24
              refine (K7.out _ _ SQ.out (SlS.ofRow Tgb.out [⟨#[73, 102, 45, 78, 111, 110, 101, 45, 77, 97, 116, 99, 104]⟩, ⟨#[73, 102, 45, 77, 111, 100, 105, 102, 105, 101, 100, 45, 83, 105, 110, 99, 101]⟩] rfl (by decide))).mono ?_
              rintro e u9 ⟨ov, rfl, ho, hb⟩
              obtain ⟨D2, e2, rfl, hS2⟩ := ho.slf HDZ.out
              clear ho
              replace ZQ := Lib.hid (zero_still hb ZQ.out)
              replace ZP := Lib.hid (zero_still hb ZP.out)
              replace ZT := Lib.hid (zero_still hb ZT.out)
              replace ZN := Lib.hid (zero_still hb ZN.out)
              replace ZA := Lib.hid (zero_still hb ZA.out)
              replace Tga := Lib.hid (zero_still hb Tga.out)
              replace Tgb := Lib.hid (zero_still hb Tgb.out)
              replace SN := Lib.hid (SN.out.below hb)
              replace SA := Lib.hid (SA.out.below hb)
              replace SQ := Lib.hid (SQ.out.below hb)
              replace S1 := Lib.hid (S1.out.below hb)
              have S2 := Lib.hid hS2
              clear hS2
              replace HB := Lib.hid (below_then HB.out hb)
              clear hb
              try go_wp2_with fail
              refine hK.out _ _ (⟨(cel5r ZA.out).2.2.2.1, (cel5r ZQ.out).2.2.2.1⟩) (fun hHeld => ?_)
              clear hK
              try simp only [Act.put, List.setIfInBounds_toArray, List.set_cons_zero, List.set_cons_succ]
              refine wpAnyH_ready (rs := [8]) (by kernel_rfl) (by simp) (AllReadyH.cons rfl (fun K hK => ?_) AllReadyH.nil)
              go_simp
              go_at_call 28
              refine (K8.out _ _ _ _ _ S1.out S2.out).mono ?_
              rintro e u10 ⟨rfl, hb⟩
              replace ZQ := Lib.hid (zero_still hb ZQ.out)
              replace ZP := Lib.hid (zero_still hb ZP.out)
              replace ZT := Lib.hid (zero_still hb ZT.out)
              replace ZN := Lib.hid (zero_still hb ZN.out)
              replace ZA := Lib.hid (zero_still hb ZA.out)
              replace Tga := Lib.hid (zero_still hb Tga.out)
              replace Tgb := Lib.hid (zero_still hb Tgb.out)
              replace SN := Lib.hid (SN.out.below hb)
              replace SA := Lib.hid (SA.out.below hb)
              replace SQ := Lib.hid (SQ.out.below hb)
              replace S1 := Lib.hid (S1.out.below hb)
              replace S2 := Lib.hid (S2.out.below hb)
              replace HB := Lib.hid (below_then HB.out hb)
              clear hb
              try go_wp2_with fail
              refine hK.out _ _ (⟨(cel5r ZA.out).2.2.2.1, (cel5r ZQ.out).2.2.2.1⟩) (fun hHeld => ?_)
              clear hK
              try simp only [Act.put, List.setIfInBounds_toArray, List.set_cons_zero, List.set_cons_succ]
              refine takeY (i := 9) (v := ?_) rfl rfl (by kernel_rfl) (by kernel_rfl) (by kernel_rfl) (by rfl) (fun _ _ _ h => h) ?yt6 (by assumption) ?rt6
              case yt6 => (intro w hSw; (try dsimp only at hSw); go_simp; try with_reducible rfl)
              try simp only [Act.put, List.setIfInBounds_toArray, List.set_cons_zero, List.set_cons_succ]
              refine wpAnyH_done (by kernel_rfl) ?_ _
              go_wp2_with fail
              go_meet
              exact ⟨rfl, ZQ.out, ZP.out, ZT.out, ZN.out, ZA.out, SN.out, SA.out, HB.out⟩
          · go_simp
            obtain ⟨u11, hu11⟩ : ∃ W, u1.alloc (.cells #[.string ⟨#[73, 102, 45, 78, 111, 110, 101, 45, 77, 97, 116, 99, 104]⟩, .string ⟨#[73, 102, 45, 77, 111, 100, 105, 102, 105, 101, 100, 45, 83, 105, 110, 99, 101]⟩] 9) = W := ⟨_, rfl⟩
            obtain ⟨gb, hgb⟩ : ∃ g, u1.heap.size = g := ⟨_, rfl⟩
            rw [hu11, hgb]
            have nZQgb : w.heap.size < gb := (by rw [← hgb]; exact (Array.getElem?_eq_some_iff.1 ZQ.out).1)
            have nZPgb : w.heap.size + 1 < gb := (by rw [← hgb]; exact (Array.getElem?_eq_some_iff.1 ZP.out).1)
            have nZTgb : bt < gb := (by rw [← hgb]; exact (Array.getElem?_eq_some_iff.1 ZT.out).1)
            have nZNgb : bn < gb := (by rw [← hgb]; exact (Array.getElem?_eq_some_iff.1 ZN.out).1)
            have nZAgb : ba < gb := (by rw [← hgb]; exact (Array.getElem?_eq_some_iff.1 ZA.out).1)
            replace ZQ : Hid (u11.heap[w.heap.size]? = some (.cells #[.string m, .string t, .int .i64 v, .slice A0 f.length c0, .string b] 24 (0, 0))) := (by show _ = _; rw [← hu11]; exact zero_more ZQ.out)
            replace ZP : Hid (u11.heap[w.heap.size + 1]? = some (.cells #[.int .i64 pc, .string pr, .int .i64 pv, .slice A1 g.length c1, .string pb] 26 (0, 0))) := (by show _ = _; rw [← hu11]; exact zero_more ZP.out)
            replace ZT : Hid (u11.heap[bt]? = some (.cells #[.bool ta, .string tb] 49 (0, 0))) := (by show _ = _; rw [← hu11]; exact zero_more ZT.out)
            replace ZN : Hid (u11.heap[bn]? = some (.cells #[.int .i64 304, .string nmodS, .int .i64 1, .slice A3 FN.length c3, .string ⟨#[]⟩] 26 (0, 0))) := (by show _ = _; rw [← hu11]; exact zero_more ZN.out)
            replace ZA : Hid (u11.heap[ba]? = some (.cells #[.string ⟨#[71, 69, 84]⟩, .string t, .int .i64 1, .slice A4 FA.length c4, .string ⟨#[]⟩] 24 (0, 0))) := (by show _ = _; rw [← hu11]; exact zero_more ZA.out)
            have Tgb : Hid (u11.heap[gb]? = some (.cells #[.string ⟨#[73, 102, 45, 78, 111, 110, 101, 45, 77, 97, 116, 99, 104]⟩, .string ⟨#[73, 102, 45, 77, 111, 100, 105, 102, 105, 101, 100, 45, 83, 105, 110, 99, 101]⟩] 9 (0, 0))) := (by show _ = _; rw [← hu11, ← hgb]; exact heap_alloc_new u1 _)
            have dSNgb : DisA A3 FN.length gb := SN.out.dis (by rw [← hgb]; exact Nat.le_refl _)
            replace SN := Lib.hid (SN.out.alloc (.cells #[.string ⟨#[73, 102, 45, 78, 111, 110, 101, 45, 77, 97, 116, 99, 104]⟩, .string ⟨#[73, 102, 45, 77, 111, 100, 105, 102, 105, 101, 100, 45, 83, 105, 110, 99, 101]⟩] 9))
            rw [hu11] at SN
            have dSAgb : DisA A4 FA.length gb := SA.out.dis (by rw [← hgb]; exact Nat.le_refl _)
            replace SA := Lib.hid (SA.out.alloc (.cells #[.string ⟨#[73, 102, 45, 78, 111, 110, 101, 45, 77, 97, 116, 99, 104]⟩, .string ⟨#[73, 102, 45, 77, 111, 100, 105, 102, 105, 101, 100, 45, 83, 105, 110, 99, 101]⟩] 9))
            rw [hu11] at SA
            have dSQgb : DisA A0 f.length gb := SQ.out.dis (by rw [← hgb]; exact Nat.le_refl _)
            replace SQ := Lib.hid (SQ.out.alloc (.cells #[.string ⟨#[73, 102, 45, 78, 111, 110, 101, 45, 77, 97, 116, 99, 104]⟩, .string ⟨#[73, 102, 45, 77, 111, 100, 105, 102, 105, 101, 100, 45, 83, 105, 110, 99, 101]⟩] 9))
            rw [hu11] at SQ
            have nbgb : w.heap.size ≤ gb := (by rw [← hgb]; exact HB.out.size)
            replace HB : Hid (Below w.heap.size w u11) := (by show Below _ _ _; rw [← hu11]; exact HB.out.alloc HB.out.size _)
            clear hu11 hgb
            refine hK.out _ _ (⟨(cel5r ZA.out).2.2.2.1, (cel5r ZQ.out).2.2.2.1⟩) (fun hHeld => ?_)
            clear hK
            try simp only [Act.put, List.setIfInBounds_toArray, List.set_cons_zero, List.set_cons_succ]
            refine wpAnyH_ready (rs := [2]) (by kernel_rfl) (by simp) (AllReadyH.cons rfl (fun K hK => ?_) AllReadyH.nil)
            go_simp
            obtain ⟨u12, hu12⟩ : ∃ W, u11.alloc (.cells #[.string ⟨#[73, 102, 45, 78, 111, 110, 101, 45, 77, 97, 116, 99, 104]⟩, .string ⟨#[73, 102, 45, 77, 111, 100, 105, 102, 105, 101, 100, 45, 83, 105, 110, 99, 101]⟩] 9) = W := ⟨_, rfl⟩
            obtain ⟨ga, hga⟩ : ∃ g, u11.heap.size = g := ⟨_, rfl⟩
            rw [hu12, hga]
            have nZQga : w.heap.size < ga := (by rw [← hga]; exact (Array.getElem?_eq_some_iff.1 ZQ.out).1)
            have nZPga : w.heap.size + 1 < ga := (by rw [← hga]; exact (Array.getElem?_eq_some_iff.1 ZP.out).1)
            have nZTga : bt < ga := (by rw [← hga]; exact (Array.getElem?_eq_some_iff.1 ZT.out).1)
            have nZNga : bn < ga := (by rw [← hga]; exact (Array.getElem?_eq_some_iff.1 ZN.out).1)
            have nZAga : ba < ga := (by rw [← hga]; exact (Array.getElem?_eq_some_iff.1 ZA.out).1)
            have nTgbga : gb < ga := (by rw [← hga]; exact (Array.getElem?_eq_some_iff.1 Tgb.out).1)
            replace ZQ : Hid (u12.heap[w.heap.size]? = some (.cells #[.string m, .string t, .int .i64 v, .slice A0 f.length c0, .string b] 24 (0, 0))) := (by show _ = _; rw [← hu12]; exact zero_more ZQ.out)
            replace ZP : Hid (u12.heap[w.heap.size + 1]? = some (.cells #[.int .i64 pc, .string pr, .int .i64 pv, .slice A1 g.length c1, .string pb] 26 (0, 0))) := (by show _ = _; rw [← hu12]; exact zero_more ZP.out)
            replace ZT : Hid (u12.heap[bt]? = some (.cells #[.bool ta, .string tb] 49 (0, 0))) := (by show _ = _; rw [← hu12]; exact zero_more ZT.out)
            replace ZN : Hid (u12.heap[bn]? = some (.cells #[.int .i64 304, .string nmodS, .int .i64 1, .slice A3 FN.length c3, .string ⟨#[]⟩] 26 (0, 0))) := (by show _ = _; rw [← hu12]; exact zero_more ZN.out)
            replace ZA : Hid (u12.heap[ba]? = some (.cells #[.string ⟨#[71, 69, 84]⟩, .string t, .int .i64 1, .slice A4 FA.length c4, .string ⟨#[]⟩] 24 (0, 0))) := (by show _ = _; rw [← hu12]; exact zero_more ZA.out)
            replace Tgb : Hid (u12.heap[gb]? = some (.cells #[.string ⟨#[73, 102, 45, 78, 111, 110, 101, 45, 77, 97, 116, 99, 104]⟩, .string ⟨#[73, 102, 45, 77, 111, 100, 105, 102, 105, 101, 100, 45, 83, 105, 110, 99, 101]⟩] 9 (0, 0))) := (by show _ = _; rw [← hu12]; exact zero_more Tgb.out)
            have Tga : Hid (u12.heap[ga]? = some (.cells #[.string ⟨#[73, 102, 45, 78, 111, 110, 101, 45, 77, 97, 116, 99, 104]⟩, .string ⟨#[73, 102, 45, 77, 111, 100, 105, 102, 105, 101, 100, 45, 83, 105, 110, 99, 101]⟩] 9 (0, 0))) := (by show _ = _; rw [← hu12, ← hga]; exact heap_alloc_new u11 _)
            have dSNga : DisA A3 FN.length ga := SN.out.dis (by rw [← hga]; exact Nat.le_refl _)
            replace SN := Lib.hid (SN.out.alloc (.cells #[.string ⟨#[73, 102, 45, 78, 111, 110, 101, 45, 77, 97, 116, 99, 104]⟩, .string ⟨#[73, 102, 45, 77, 111, 100, 105, 102, 105, 101, 100, 45, 83, 105, 110, 99, 101]⟩] 9))
            rw [hu12] at SN
            have dSAga : DisA A4 FA.length ga := SA.out.dis (by rw [← hga]; exact Nat.le_refl _)
            replace SA := Lib.hid (SA.out.alloc (.cells #[.string ⟨#[73, 102, 45, 78, 111, 110, 101, 45, 77, 97, 116, 99, 104]⟩, .string ⟨#[73, 102, 45, 77, 111, 100, 105, 102, 105, 101, 100, 45, 83, 105, 110, 99, 101]⟩] 9))
            rw [hu12] at SA
            have dSQga : DisA A0 f.length ga := SQ.out.dis (by rw [← hga]; exact Nat.le_refl _)
            replace SQ := Lib.hid (SQ.out.alloc (.cells #[.string ⟨#[73, 102, 45, 78, 111, 110, 101, 45, 77, 97, 116, 99, 104]⟩, .string ⟨#[73, 102, 45, 77, 111, 100, 105, 102, 105, 101, 100, 45, 83, 105, 110, 99, 101]⟩] 9))
            rw [hu12] at SQ
            have nbga : w.heap.size ≤ ga := (by rw [← hga]; exact HB.out.size)
            replace HB : Hid (Below w.heap.size w u12) := (by show Below _ _ _; rw [← hu12]; exact HB.out.alloc HB.out.size _)
            clear hu12 hga
            refine hK.out _ _ (⟨(cel5r ZA.out).2.2.2.1, (cel5r ZQ.out).2.2.2.1⟩) (fun hHeld => ?_)
            clear hK
            try simp only [Act.put, List.setIfInBounds_toArray, List.set_cons_zero, List.set_cons_succ]
            refine wpAnyH_ready (rs := [3]) (by kernel_rfl) (by simp) (AllReadyH.cons rfl (fun K hK => ?_) AllReadyH.nil)
            have hxgb : gb < u12.heap.size := (Array.getElem?_eq_some_iff.1 Tgb.out).1
            have hxga : ga < u12.heap.size := (Array.getElem?_eq_some_iff.1 Tga.out).1
            go_simp
            go_at_call 24
            refine (K6.out _ _ _ _ SA.out (SlS.ofRow Tga.out [⟨#[73, 102, 45, 78, 111, 110, 101, 45, 77, 97, 116, 99, 104]⟩, ⟨#[73, 102, 45, 77, 111, 100, 105, 102, 105, 101, 100, 45, 83, 105, 110, 99, 101]⟩] rfl (by decide))).mono ?_
            rintro e u13 ⟨ov, rfl, ho, hb⟩
            obtain ⟨D1, e1, rfl, hS1⟩ := ho.slf HDZ.out
            clear ho
            replace ZQ := Lib.hid (zero_still hb ZQ.out)
            replace ZP := Lib.hid (zero_still hb ZP.out)
            replace ZT := Lib.hid (zero_still hb ZT.out)
            replace ZN := Lib.hid (zero_still hb ZN.out)
            replace ZA := Lib.hid (zero_still hb ZA.out)
            replace Tgb := Lib.hid (zero_still hb Tgb.out)
            replace Tga := Lib.hid (zero_still hb Tga.out)
            replace SN := Lib.hid (SN.out.below hb)
            replace SA := Lib.hid (SA.out.below hb)
            replace SQ := Lib.hid (SQ.out.below hb)
            have S1 := Lib.hid hS1
            clear hS1
            replace HB := Lib.hid (below_then HB.out hb)
            clear hb
            try go_wp2_with fail
            refine hK.out _ _ (⟨(cel5r ZA.out).2.2.2.1, (cel5r ZQ.out).2.2.2.1⟩) (fun hHeld => ?_)
            clear hK
            try simp only [Act.put, List.setIfInBounds_toArray, List.set_cons_zero, List.set_cons_succ]
            refine wpAnyH_ready (rs := [7]) (by kernel_rfl) (by simp) (AllReadyH.cons rfl (fun K hK => ?_) AllReadyH.nil)
            have hxgb : gb < u13.heap.size := (Array.getElem?_eq_some_iff.1 Tgb.out).1
            have hxga : ga < u13.heap.size := (Array.getElem?_eq_some_iff.1 Tga.out).1
            go_simp
            go_at_call 24
            refine (K7.out _ _ SQ.out (SlS.ofRow Tgb.out [⟨#[73, 102, 45, 78, 111, 110, 101, 45, 77, 97, 116, 99, 104]⟩, ⟨#[73, 102, 45, 77, 111, 100, 105, 102, 105, 101, 100, 45, 83, 105, 110, 99, 101]⟩] rfl (by decide))).mono ?_
            rintro e u14 ⟨ov, rfl, ho, hb⟩
            obtain ⟨D2, e2, rfl, hS2⟩ := ho.slf HDZ.out
            clear ho
            replace ZQ := Lib.hid (zero_still hb ZQ.out)
            replace ZP := Lib.hid (zero_still hb ZP.out)
            replace ZT := Lib.hid (zero_still hb ZT.out)
            replace ZN := Lib.hid (zero_still hb ZN.out)
            replace ZA := Lib.hid (zero_still hb ZA.out)
            replace Tgb := Lib.hid (zero_still hb Tgb.out)
            replace Tga := Lib.hid (zero_still hb Tga.out)
            replace SN := Lib.hid (SN.out.below hb)
            replace SA := Lib.hid (SA.out.below hb)
            replace SQ := Lib.hid (SQ.out.below hb)
            replace S1 := Lib.hid (S1.out.below hb)
            have S2 := Lib.hid hS2
            clear hS2
            replace HB := Lib.hid (below_then HB.out hb)
            clear hb
            try go_wp2_with fail
            refine hK.out _ _ (⟨(cel5r ZA.out).2.2.2.1, (cel5r ZQ.out).2.2.2.1⟩) (fun hHeld => ?_)
            clear hK
            try simp only [Act.put, List.setIfInBounds_toArray, List.set_cons_zero, List.set_cons_succ]
            refine wpAnyH_ready (rs := [8]) (by kernel_rfl) (by simp) (AllReadyH.cons rfl (fun K hK => ?_) AllReadyH.nil)
            go_simp
            go_at_call 28
            refine (K8.out _ _ _ _ _ S1.out S2.out).mono ?_
            rintro e u15 ⟨rfl, hb⟩
            replace ZQ := Lib.hid (zero_still hb ZQ.out)
            replace ZP := Lib.hid (zero_still hb ZP.out)
            replace ZT := Lib.hid (zero_still hb ZT.out)
            replace ZN := Lib.hid (zero_still hb ZN.out)
            replace ZA := Lib.hid (zero_still hb ZA.out)
            replace Tgb := Lib.hid (zero_still hb Tgb.out)
            replace Tga := Lib.hid (zero_still hb Tga.out)
            replace SN := Lib.hid (SN.out.below hb)
            replace SA := Lib.hid (SA.out.below hb)
            replace SQ := Lib.hid (SQ.out.below hb)
            replace S1 := Lib.hid (S1.out.below hb)
            replace S2 := Lib.hid (S2.out.below hb)
            replace HB := Lib.hid (below_then HB.out hb)
            clear hb
            try go_wp2_with fail
            refine hK.out _ _ (⟨(cel5r ZA.out).2.2.2.1, (cel5r ZQ.out).2.2.2.1⟩) (fun hHeld => ?_)
            clear hK
            try simp only [Act.put, List.setIfInBounds_toArray, List.set_cons_zero, List.set_cons_succ]
            refine takeY (i := 9) (v := ?_) rfl rfl (by kernel_rfl) (by kernel_rfl) (by kernel_rfl) (by rfl) (fun _ _ _ h => h) ?yt7 (by assumption) ?rt7
            case yt7 => (intro w hSw; (try dsimp only at hSw); go_simp; try with_reducible rfl)
            try simp only [Act.put, List.setIfInBounds_toArray, List.set_cons_zero, List.set_cons_succ]
            refine wpAnyH_done (by kernel_rfl) ?_ _
            go_wp2_with fail
            go_meet
            exact ⟨rfl, ZQ.out, ZP.out, ZT.out, ZN.out, ZA.out, SN.out, SA.out, HB.out⟩
        case rest =>
          clear K1 K2 K3 K4 K6 K7 K8 KQ KP SN SA SQ HB ZQ ZP ZT ZN ZA
          obtain ⟨rfl, ZQ, ZP, ZT, ZN, ZA, SN, SA, HB⟩ := hcut
          obtain ⟨qq0, qq1, qq2, qq3, qq4⟩ := cel5r ZQ.out
          obtain ⟨pq0, pq1, pq2, pq3, pq4⟩ := cel5r ZP.out
          obtain ⟨tq0, tq1⟩ := zero_two ZT.out
          obtain ⟨nq0, nq1, nq2, nq3, nq4⟩ := cel5r ZN.out
          obtain ⟨aq0, aq1, aq2, aq3, aq4⟩ := cel5r ZA.out
          have hfz : wc.frozen? ⟨w.heap.size + 1, 0, none⟩ = false := frozen_of_row _ _ _ _ _ ZP.out
          go_upto_region 14 with fail
          clear qq0 qq1 qq2 qq3 qq4 pq0 pq1 pq2 pq3 pq4 tq0 tq1 nq0 nq1 nq2 nq3 nq4 aq0 aq1 aq2 aq3 aq4
          clear hfz
          have hlt := (Array.getElem?_eq_some_iff.1 ZP.out).1
          replace ZQ : Hid ((wc.setCell ⟨w.heap.size + 1, 0, none⟩ (.int .i64 200)).heap[w.heap.size]? = some (.cells #[.string m, .string t, .int .i64 v, .slice A0 f.length c0, .string b] 24 (0, 0))) := row_setCell ZQ.out (by omega) _
          replace ZP : Hid ((wc.setCell ⟨w.heap.size + 1, 0, none⟩ (.int .i64 200)).heap[w.heap.size + 1]? = some (.cells #[.int .i64 200, .string pr, .int .i64 pv, .slice A1 g.length c1, .string pb] 26 (0, 0))) := heap_setCell_same _ _ _ _ _ _ ZP.out
          replace ZT : Hid ((wc.setCell ⟨w.heap.size + 1, 0, none⟩ (.int .i64 200)).heap[bt]? = some (.cells #[.bool ta, .string tb] 49 (0, 0))) := row_setCell ZT.out (by omega) _
          replace ZN : Hid ((wc.setCell ⟨w.heap.size + 1, 0, none⟩ (.int .i64 200)).heap[bn]? = some (.cells #[.int .i64 304, .string nmodS, .int .i64 1, .slice A3 FN.length c3, .string ⟨#[]⟩] 26 (0, 0))) := row_setCell ZN.out (by omega) _
          replace ZA : Hid ((wc.setCell ⟨w.heap.size + 1, 0, none⟩ (.int .i64 200)).heap[ba]? = some (.cells #[.string ⟨#[71, 69, 84]⟩, .string t, .int .i64 1, .slice A4 FA.length c4, .string ⟨#[]⟩] 24 (0, 0))) := row_setCell ZA.out (by omega) _
          replace SN := Lib.hid (SN.out.setCellD (k := 0) DN.out (.int .i64 200))
          replace SA := Lib.hid (SA.out.setCellD (k := 0) DA.out (.int .i64 200))
          replace HB : Hid (Below w.heap.size w (wc.setCell ⟨w.heap.size + 1, 0, none⟩ (.int .i64 200))) := HB.out.setCell (by show w.heap.size ≤ w.heap.size + 1; omega) _
          generalize (wc.setCell ⟨w.heap.size + 1, 0, none⟩ (.int .i64 200)) = wd at *
          obtain ⟨qq0, qq1, qq2, qq3, qq4⟩ := cel5r ZQ.out
          obtain ⟨pq0, pq1, pq2, pq3, pq4⟩ := cel5r ZP.out
          obtain ⟨tq0, tq1⟩ := zero_two ZT.out
          obtain ⟨nq0, nq1, nq2, nq3, nq4⟩ := cel5r ZN.out
          obtain ⟨aq0, aq1, aq2, aq3, aq4⟩ := cel5r ZA.out
          go_wp2_with fail
          refine (K9.out _ _ _ _ SA.out (HSP.out.below HB.out) HB.out).mono ?_
          rintro e v17 ⟨rfl, hb⟩
          clear qq0 qq1 qq2 qq3 qq4 pq0 pq1 pq2 pq3 pq4 tq0 tq1 nq0 nq1 nq2 nq3 nq4 aq0 aq1 aq2 aq3 aq4
          replace ZQ := Lib.hid (zero_still hb ZQ.out)
          replace ZP := Lib.hid (zero_still hb ZP.out)
          replace ZT := Lib.hid (zero_still hb ZT.out)
          replace ZN := Lib.hid (zero_still hb ZN.out)
          replace ZA := Lib.hid (zero_still hb ZA.out)
          replace SN := Lib.hid (SN.out.below hb)
          replace SA := Lib.hid (SA.out.below hb)
          replace HB := Lib.hid (below_then HB.out hb)
          clear hb
          obtain ⟨qq0, qq1, qq2, qq3, qq4⟩ := cel5r ZQ.out
          obtain ⟨pq0, pq1, pq2, pq3, pq4⟩ := cel5r ZP.out
          obtain ⟨tq0, tq1⟩ := zero_two ZT.out
          obtain ⟨nq0, nq1, nq2, nq3, nq4⟩ := cel5r ZN.out
          obtain ⟨aq0, aq1, aq2, aq3, aq4⟩ := cel5r ZA.out
          go_wp2_with fail
          refine (K10.out _ _ _ SN.out (HSP.out.below HB.out)).mono ?_
          rintro e v18 ⟨rfl, hb⟩
          clear qq0 qq1 qq2 qq3 qq4 pq0 pq1 pq2 pq3 pq4 tq0 tq1 nq0 nq1 nq2 nq3 nq4 aq0 aq1 aq2 aq3 aq4
          replace ZQ := Lib.hid (zero_still hb ZQ.out)
          replace ZP := Lib.hid (zero_still hb ZP.out)
          replace ZT := Lib.hid (zero_still hb ZT.out)
          replace ZN := Lib.hid (zero_still hb ZN.out)
          replace ZA := Lib.hid (zero_still hb ZA.out)
          replace SN := Lib.hid (SN.out.below hb)
          replace SA := Lib.hid (SA.out.below hb)
          replace HB := Lib.hid (below_then HB.out hb)
          clear hb
          obtain ⟨qq0, qq1, qq2, qq3, qq4⟩ := cel5r ZQ.out
          obtain ⟨pq0, pq1, pq2, pq3, pq4⟩ := cel5r ZP.out
          obtain ⟨tq0, tq1⟩ := zero_two ZT.out
          obtain ⟨nq0, nq1, nq2, nq3, nq4⟩ := cel5r ZN.out
          obtain ⟨aq0, aq1, aq2, aq3, aq4⟩ := cel5r ZA.out
          go_wp2_with fail
          refine (CX.out _ HB.out).mono ?_
          rintro e v99 ⟨rfl, hb⟩
          go_wp2_with fail
          go_ret
          exact ⟨rfl, below_then HB.out hb⟩

theorem door_met (os : Os) (args : Array Value) : laidMetH Tryz.prog Rows.condsToldRow.laid ((World.laidAll Tryz.prog os Rows.condsToldRow.laid).forCall (fun _ _ => 0) ⟨#[], args, []⟩).memory := by
  rw [MakeChecks.laidMetH_plain _ _ _ (by kernel_rfl)]
  exact laidMet_laidAll _ (by kernel_rfl) (by kernel_rfl)

set_option maxRecDepth 100000 in
theorem lifted (os : Os) (started : os.Started) (H : Type) (enc : TypeId × Value → H) :
    ReturnsInHanded {} Tryz.checked os 6 .any (fun w args => (Rows.condsToldSpec.pre enc Tryz.prog Tryz.f6 [] false w args ∧ laidMetH Tryz.prog Rows.condsToldRow.laid w) ∧ sizedMet enc Tryz.prog Tryz.f6 (OpenSpec.ofChange Rows.condsToldSpec) false w args) (Rows.condsToldSpec.post enc Tryz.prog Tryz.f6 false true false false) := by
  refine returns_and_shaped (C := Tryz.checked) (X := fun w _ => laidMetH Tryz.prog Rows.condsToldRow.laid w) (fun _ _ _ hh h => h.of_heap hh) own started (by kernel_rfl) Tryz.func6
    (ChangeSpec.witness_shaped (enc := enc) (C := Tryz.checked) (os := os) (X := fun w _ => laidMetH Tryz.prog Rows.condsToldRow.laid w) false (World.laidAll Tryz.prog os Rows.condsToldRow.laid) #[.agg #[.string ByteArray.empty, .string ByteArray.empty, .int .i64 0, .slice none 0 0, .string ByteArray.empty], .agg #[.int .i64 0, .string ByteArray.empty, .int .i64 0, .slice none 0 0, .string ByteArray.empty]] 8 rfl (World.shaped_of_ZipB (by kernel_rfl) (by kernel_rfl)) (by kernel_rfl) (by kernel_rfl) (by kernel_rfl) (door_met os _)) ?_
  intro W base args ds gs before hval0 hW hL hsh
  have hval : ∀ (j : Nat) t v, Tryz.f6.params[j]? = some t → args[j]? = some v → Value.okWide Tryz.prog W .any base t v := hval0
  have hW' := hW
  obtain ⟨p, q, hA0, hV, rfl, hfz, hnd⟩ := hW
  have hA : DataW.TrodAll enc Tryz.prog W 0 (fun _ => true) true Tryz.f6.params.toList args.toList ds p := hA0
  rw [Tryz.params6] at hA hval
  obtain ⟨v0, vs0, d0, ds0, p0, q0, hargs, rfl, rfl, h0, r0⟩ := trodAll_cons hA
  obtain ⟨v1, vs1, d1, ds1, p1, q1, rfl, rfl, rfl, h1, r1⟩ := trodAll_cons r0
  obtain ⟨rfl, rfl, rfl⟩ := trodAll_nil r1
  obtain rfl : args = #[v0, v1] := by cases args; simp_all
  obtain ⟨rfl, rfl⟩ := trodVars_none hV
  have k0 := h0
  have lt0 : ∀ x ∈ p0, x.block < W.heap.size := by obtain ⟨m, hm⟩ := k0; exact DataW.trod_lt m _ _ _ hm
  obtain ⟨a0, A0, c0, rfl, w0⟩ := WfQ.of_trod Tryz.underlying24 (by kernel_rfl) (by kernel_rfl) Tryz.underlying9 Tryz.underlying9 Tryz.underlying3 Tryz.underlying22 Tryz.underlying9 Tryz.underlying43 (by kernel_rfl) rfl rfl (by kernel_rfl) (by kernel_rfl) Tryz.underlying9 Tryz.underlying9 (hval 0 24 v0 rfl rfl) h0
  have k1 := h1
  have lt1 : ∀ x ∈ p1, x.block < W.heap.size := by obtain ⟨m, hm⟩ := k1; exact DataW.trod_lt m _ _ _ hm
  obtain ⟨a1, A1, c1, rfl, w1⟩ := WfP.of_trod Tryz.underlying26 (by kernel_rfl) (by kernel_rfl) Tryz.underlying3 Tryz.underlying9 Tryz.underlying3 Tryz.underlying22 Tryz.underlying9 Tryz.underlying43 (by kernel_rfl) rfl rfl (by kernel_rfl) (by kernel_rfl) Tryz.underlying9 Tryz.underlying9 (hval 1 26 v1 rfl rfl) h1
  clear hA0 hval0
  refine (walk a0 A0 c0 a1 A1 c1 W w0 w1 hL hsh).mono fun e W' ⟨he, bel⟩ => ?_
  subst he
  exact ⟨_, rfl, _, _, _, [], _, [], hW', trodAll_mk1 (shut_bool Tryz.underlying4 _), (trodAll_cons_mk (Below.trod laidOut (by kernel_rfl) (of_decide_eq_true (by kernel_rfl)) k0 bel lt0) (trodAll_cons_mk (Below.trod laidOut (by kernel_rfl) (of_decide_eq_true (by kernel_rfl)) k1 bel lt1) trodAll_mk0)), rfl, bel.frame _, fun h => by cases h⟩

theorem over : Rows.condsToldRow.holds Tryz.pinned (OpenSpec.ofChange Rows.condsToldSpec) :=
  OpenClaim.holds_of_wide 6 Tryz.f6 rfl rfl rfl rfl rfl rfl rfl ⟨rfl, rfl, rfl, rfl, rfl⟩ rfl rfl rfl rfl rfl (by kernel_rfl) Tryz.func6 (by kernel_rfl)
    (of_decide_eq_true (by kernel_rfl)) (by unfold Func.isWrapper; first | (rw [if_pos (by decide +kernel)]; kernel_rfl) | (rw [if_neg (by decide +kernel)]; exact ⟨rfl, rfl⟩))
    (fun os started H enc _ => lifted os started H enc)

theorem said : Rows.CondsToldSaid :=
  over

theorem plain (f : FuncId) (fn : Func) (hf : Tryz.pinned.checked.prog.funcNamed "depot/depotlaw19.CondsTold" = some f) (hfn : Tryz.pinned.checked.prog.funcs[f]? = some fn) :
    false = Tryz.pinned.checked.prog.looks [] ∧ ∀ (j : Nat) t, fn.params[j]? = some t → Tryz.pinned.checked.prog.wantsStandIn t = false := by
  obtain rfl : f = 6 := Option.some.inj ((show Tryz.prog.funcNamed "depot/depotlaw19.CondsTold" = some 6 by kernel_rfl).symm.trans hf) |>.symm
  obtain rfl : fn = Tryz.f6 := (Option.some.inj (Tryz.func6.symm.trans hfn)).symm
  refine ⟨by kernel_rfl, fun j t ht => ?_⟩
  rw [Tryz.params6] at ht
  · have hm := Array.mem_of_getElem? ht
    simp only [List.mem_toArray, List.mem_cons, List.not_mem_nil, or_false] at hm
    have all : Tryz.pinned.checked.prog.wantsStandIn 24 = false ∧ Tryz.pinned.checked.prog.wantsStandIn 26 = false := ⟨by kernel_rfl, by kernel_rfl⟩
    rcases hm with rfl | rfl
    all_goals first | with_reducible exact all.1 | with_reducible exact all.2

theorem proved : Rows.CondsToldCardSaid :=
  Claim7.holds_tied_plain_at .later [] _ _ _ _ said (fun _ h => by cases h) (by kernel_rfl) (fun _ h => by cases h) condsTold_row_tie rfl ⟨rfl, rfl⟩ (by kernel_rfl) rfl plain (by kernel_rfl)
#print axioms proved
end Go.Proofs.YtjkfdjolhmgemaaGreatDoor.condsTold
