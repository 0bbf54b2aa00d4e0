/-
  The law LifeShared (depotlaw17) returns true for every stored reply and every two integers, and leaves what it was given as it was. No condition but that the tables of the program and of the library hold what their initialisers lay.
-/
import Derived.Test.YtfmaaghmbnhikaaGreatDoorRows
import Derived.WalkKit
import Derived.ProofKit
import Derived.OpenShut
import Derived.ShutString
import Derived.ChangeOld
import Derived.Below
import Derived.Test.YtfmaaghmbnhikaaGreatDoorMrgA
import Derived.Test.YtfmaaghmbnhikaaGreatDoorMrgB
import Derived.Test.YtfmaaghmbnhikaaGreatDoorMrgC
import Derived.Test.YtfmaaghmbnhikaaGreatDoorMrgD
import Derived.Test.YtfmaaghmbnhikaaGreatDoorMrgE
import Derived.Test.YtfmaaghmbnhikaaGreatDoorMrgF
import Derived.Test.YtfmaaghmbnhikaaGreatDoorMrgG
import Derived.Test.YtfmaaghmbnhikaaGreatDoorMrgH
import Derived.Test.YtfmaaghmbnhikaaGreatDoorMrgI
import Derived.Test.YtfmaaghmbnhikaaGreatDoorMrgJ
import Derived.Test.YtfmaaghmbnhikaaGreatDoorMrgK
import Derived.Test.YtfmaaghmbnhikaaGreatDoorMrgL
import Derived.Test.YtfmaaghmbnhikaaGreatDoorMrgM
import Derived.Test.YtfmaaghmbnhikaaGreatDoorMrgN
import Derived.Test.YtfmaaghmbnhikaaGreatDoorMrgO
import Derived.Test.YtfmaaghmbnhikaaGreatDoorMrgP
import Derived.Test.YtfmaaghmbnhikaaGreatDoorMrgQ
import Derived.Test.YtfmaaghmbnhikaaGreatDoorMrgR
import Derived.Test.YtfmaaghmbnhikaaGreatDoorMrgS
import Derived.Test.YtfmaaghmbnhikaaGreatDoorMrgT
import Derived.Test.YtfmaaghmbnhikaaGreatDoorMrgU
import Derived.Test.YtfmaaghmbnhikaaGreatDoorMrgV
import Derived.Test.YtfmaaghmbnhikaaGreatDoorMrgW
import Derived.Test.YtfmaaghmbnhikaaGreatDoorMrgX
import Derived.Test.YtfmaaghmbnhikaaGreatDoorMrgY
import Derived.Test.YtfmaaghmbnhikaaGreatDoorMrgZ
import Derived.Test.YtfmaaghmbnhikaaGreatDoorMrgAA
import Derived.Test.YtfmaaghmbnhikaaGreatDoorMrgAB
import Derived.Test.YtfmaaghmbnhikaaGreatDoorMrgAC
import Derived.Test.YtfmaaghmbnhikaaGreatDoorMrgAD
import Derived.Test.YtfmaaghmbnhikaaGreatDoorMrgAE
import Derived.Test.YtfmaaghmbnhikaaGreatDoorMrgAF
import Derived.Test.YtfmaaghmbnhikaaGreatDoorMrgAG
import Derived.Test.YtfmaaghmbnhikaaGreatDoorMrgAH
import Derived.Test.YtfmaaghmbnhikaaGreatDoorMrgAI
import Derived.Test.YtfmaaghmbnhikaaGreatDoorMrgAJ
import Derived.Test.YtfmaaghmbnhikaaGreatDoorMrgAK
import Derived.Test.YtfmaaghmbnhikaaGreatDoorMrgAL
import Derived.Test.YtfmaaghmbnhikaaGreatDoorMrgAM
import Derived.Test.YtfmaaghmbnhikaaGreatDoorMrgAN
import Derived.Test.YtfmaaghmbnhikaaGreatDoorMrgAO
import Derived.Test.YtfmaaghmbnhikaaGreatDoorMrgAP
import Derived.Test.YtfmaaghmbnhikaaGreatDoorMrgAQ
import Derived.Test.YtfmaaghmbnhikaaGreatDoorMrgAR
import Derived.Test.YtfmaaghmbnhikaaGreatDoorMrgAS
import Derived.Test.YtfmaaghmbnhikaaGreatDoorMrgAT
import Derived.Test.YtfmaaghmbnhikaaGreatDoorMrgAU
import Derived.Test.YtfmaaghmbnhikaaGreatDoorMrgAV
import Derived.Test.YtfmaaghmbnhikaaGreatDoorMrgAW
import Derived.Test.YtfmaaghmbnhikaaGreatDoorMrgAX
import Derived.Test.YtfmaaghmbnhikaaGreatDoorMrgAY
import Derived.Test.YtfmaaghmbnhikaaGreatDoorMrgAZ
import Derived.Test.YtfmaaghmbnhikaaGreatDoorMrgBA
import Derived.Deep.RegionHeld3
import Derived.Deep.DeepCutAuto
import Derived.IntWalk
import Derived.Test.YtfmaaghmbnhikaaGreatDoorCards
import Derived.Test.YtfmaaghmbnhikaaGreatDoorTie
import Derived.LaidMore
import Derived.Lib.LaidTab
import Derived.Stop.Joined
import Derived.Lay
namespace Go.Proofs.YtfmaaghmbnhikaaGreatDoor.lifeShared
open Go.ChangeShapes Go.WideShapes Go.ChangeAt Go.RowKit
open Go.ChangeMaps (open_string shut_string)
set_option linter.unusedVariables false

theorem own : ownKnob Tryz.prog.godebug = none := by kernel_rfl
theorem laidOut : laidOutB Tryz.prog = true := by kernel_rfl

set_option maxHeartbeats 8000000 in
set_option maxRecDepth 100000 in
theorem walk (a0 : Stor) (A0 : Option Addr) (c0 : Nat) (B0 : Option Addr) (n0 m0 : Nat) (a1 : Int) (a2 : Int) (w : World) (w0 : WfS w a0 A0 c0) (w1 : (Lit.int .i64 a1).wf = true) (w2 : (Lit.int .i64 a2).wf = true) (hL : laidMetH Tryz.prog Rows.lifeSharedRow.laid w) (hsh : w.ShapedOpen Tryz.prog) :
    Calls Tryz.prog 6 #[.agg (stC a0 A0 c0 B0 n0 m0), .int .i64 a1, .int .i64 a2] w fun e w' => e = .returned (.bool true) ∧ Below w.heap.size w w' := by
  have HT := Lib.hid (lifTabs hL)
  clear hL hsh
  have CX := Lib.hid (fun W (hW : Below w.heap.size w W) => ex17_any W (HT.out.kept hW))
  have HF := Lib.hid (fun W (hW : Below w.heap.size w W) => w0.f.below hW)
  have kf := fun W (hW : Below w.heap.size w W) => r_fewR a0 A0 c0 W (w0.f.below hW)
  have hfy := fun h => fwR_yes (s := a0) h
  obtain ⟨sc, sr, sv, sf, sb, st⟩ := a0
  unfold stC at *
  unfold srC at *
  simp only at *
  have HB : Hid (Below w.heap.size w (w.alloc (.cells #[.int .i64 sc, .string sr, .int .i64 sv, .slice A0 sf.length c0, .string sb, .int .i64 st, .slice B0 n0 m0] 27))) := (Below.refl _ _).alloc (Nat.le_refl _) _
  have Z0 : Hid ((w.alloc (.cells #[.int .i64 sc, .string sr, .int .i64 sv, .slice A0 sf.length c0, .string sb, .int .i64 st, .slice B0 n0 m0] 27)).heap[w.heap.size]? = some (.cells #[.int .i64 sc, .string sr, .int .i64 sv, .slice A0 sf.length c0, .string sb, .int .i64 st, .slice B0 n0 m0] 27 (0, 0))) := heap_alloc_new w _
  obtain ⟨q0, q1, q2, q3, q4, q5, q6⟩ := cel7 Z0.out
  cases hfw : fwR ⟨sc, sr, sv, sf, sb, st⟩ with
  | false =>
    rw [hfw] at kf
    have KF := Lib.hid kf
    clear w0 hfy hfw kf HF
    go_enter Tryz.func6, Tryz.ntmps6
    go_wp2_with fail
    refine (KF.out _ HB.out).mono ?_
    rintro e v1 ⟨rfl, hb⟩
    have Z0 := Lib.hid (zero_still hb Z0.out)
    have HB := Lib.hid (below_then HB.out hb)
    clear hb q0 q1 q2 q3 q4 q5 q6
    obtain ⟨q0, q1, q2, q3, q4, q5, q6⟩ := cel7 Z0.out
    go_wp2_with fail
    refine (CX.out _ HB.out).mono ?_
    rintro e v9 ⟨rfl, hb⟩
    go_wp2_with fail
    go_ret
    exact ⟨rfl, below_then HB.out hb⟩
  | true =>
    rw [hfw] at kf
    have KF := Lib.hid kf
    have hL := (hfy hfw).1
    clear w0 hfy hfw kf
    by_cases g1 : 60 < (sf.length : Int)
    · clear hL HF
      go_enter Tryz.func6, Tryz.ntmps6
      go_wp2_with fail
      refine (KF.out _ HB.out).mono ?_
      rintro e v1 ⟨rfl, hb⟩
      have Z0 := Lib.hid (zero_still hb Z0.out)
      have HB := Lib.hid (below_then HB.out hb)
      clear hb q0 q1 q2 q3 q4 q5 q6
      obtain ⟨q0, q1, q2, q3, q4, q5, q6⟩ := cel7 Z0.out
      go_wp2_with fail
      refine (CX.out _ HB.out).mono ?_
      rintro e v9 ⟨rfl, hb⟩
      go_wp2_with fail
      go_ret
      exact ⟨rfl, below_then HB.out hb⟩
    by_cases g2 : a1 < 0
    · clear hL HF
      go_enter Tryz.func6, Tryz.ntmps6
      go_wp2_with fail
      refine (KF.out _ HB.out).mono ?_
      rintro e v1 ⟨rfl, hb⟩
      have Z0 := Lib.hid (zero_still hb Z0.out)
      have HB := Lib.hid (below_then HB.out hb)
      clear hb q0 q1 q2 q3 q4 q5 q6
      obtain ⟨q0, q1, q2, q3, q4, q5, q6⟩ := cel7 Z0.out
      go_wp2_with fail
      refine (CX.out _ HB.out).mono ?_
      rintro e v9 ⟨rfl, hb⟩
      go_wp2_with fail
      go_ret
      exact ⟨rfl, below_then HB.out hb⟩
    by_cases g3 : a2 < 0
    · clear hL HF
      go_enter Tryz.func6, Tryz.ntmps6
      go_wp2_with fail
      refine (KF.out _ HB.out).mono ?_
      rintro e v1 ⟨rfl, hb⟩
      have Z0 := Lib.hid (zero_still hb Z0.out)
      have HB := Lib.hid (below_then HB.out hb)
      clear hb q0 q1 q2 q3 q4 q5 q6
      obtain ⟨q0, q1, q2, q3, q4, q5, q6⟩ := cel7 Z0.out
      go_wp2_with fail
      refine (CX.out _ HB.out).mono ?_
      rintro e v9 ⟨rfl, hb⟩
      go_wp2_with fail
      go_ret
      exact ⟨rfl, below_then HB.out hb⟩
    by_cases g4 : 9 < a1
    · clear hL HF
      go_enter Tryz.func6, Tryz.ntmps6
      go_wp2_with fail
      refine (KF.out _ HB.out).mono ?_
      rintro e v1 ⟨rfl, hb⟩
      have Z0 := Lib.hid (zero_still hb Z0.out)
      have HB := Lib.hid (below_then HB.out hb)
      clear hb q0 q1 q2 q3 q4 q5 q6
      obtain ⟨q0, q1, q2, q3, q4, q5, q6⟩ := cel7 Z0.out
      go_wp2_with fail
      refine (CX.out _ HB.out).mono ?_
      rintro e v9 ⟨rfl, hb⟩
      go_wp2_with fail
      go_ret
      exact ⟨rfl, below_then HB.out hb⟩
    by_cases g5 : 9 < a2
    · clear hL HF
      go_enter Tryz.func6, Tryz.ntmps6
      go_wp2_with fail
      refine (KF.out _ HB.out).mono ?_
      rintro e v1 ⟨rfl, hb⟩
      have Z0 := Lib.hid (zero_still hb Z0.out)
      have HB := Lib.hid (below_then HB.out hb)
      clear hb q0 q1 q2 q3 q4 q5 q6
      obtain ⟨q0, q1, q2, q3, q4, q5, q6⟩ := cel7 Z0.out
      go_wp2_with fail
      refine (CX.out _ HB.out).mono ?_
      rintro e v9 ⟨rfl, hb⟩
      go_wp2_with fail
      go_ret
      exact ⟨rfl, below_then HB.out hb⟩
    go_enter Tryz.func6, Tryz.ntmps6
    go_wp2_with fail
    refine (KF.out _ HB.out).mono ?_
    rintro e v1 ⟨rfl, hb⟩
    have Z0 := Lib.hid (zero_still hb Z0.out)
    have HB := Lib.hid (below_then HB.out hb)
    clear hb q0 q1 q2 q3 q4 q5 q6
    obtain ⟨q0, q1, q2, q3, q4, q5, q6⟩ := cel7 Z0.out
    go_wp2_with fail
    go_loopw [7, 8] (fun v i wr => ∃ k : Nat, k ≤ sf.length ∧ i = .int .i64 (k : Int) ∧ Hid (OwnF wr v1.heap.size 40 v ((sf.take k).filter no13)) ∧ Below v1.heap.size v1 wr) (fun _ i _ => sf.length - (intOf i).toNat)
    case atStart => exact ⟨0, Nat.zero_le _, rfl, OwnF.nil _ _ _, Below.refl _ _⟩
    case round =>
      obtain ⟨k, hk, rfl, hown, hbel⟩ := hrel
      have q3 := cell_kept hbel (cel7 Z0.out).2.2.2.1
      by_cases hlt : k < sf.length
      · have hFr := HF.out wr (HB.out.trans (hbel.mono HB.out.size))
        obtain ⟨ad, rfl, hc⟩ := hFr.at_ (by omega)
        obtain ⟨hc0, hc1⟩ := hc k sf[k] (List.getElem?_eq_getElem hlt)
        have hc1 := fd_snd hc1
        have hz := hFr.sz _ (List.getElem_mem hlt)
        have HFS := Lib.hid (filter_snoc no13 (sf.take k) sf[k])
        rw [← take_fd sf k hlt] at HFS
        have hXl : ((sf.take k).filter no13).length ≤ k := Nat.le_trans (List.length_filter_le _ _) (by rw [List.length_take]; omega)
        generalize sf[k] = x at *
        obtain ⟨xa, xb⟩ := x
        simp only at hc0 hc1 hz
        generalize (sf.take k).filter no13 = X at *
        have hi0 : (0 : Int) ≤ (k : Int) := by omega
        have hi1 : (k : Int) < (sf.length : Int) := by omega
        have hs1 := hbel.size
        have hk60 : k ≤ 60 := by omega
        clear hc hFr
        by_cases hn : xa.size = 13
        · have HR : Hid ((sf.take (k + 1)).filter no13 = X) := by show _ = _; rw [HFS.out, if_neg (by simp [no13, hn])]
          have hn' : (xa.size : Int) = 13 := by omega
          clear hn HFS
          go_wp2_with fail
          go_roundw
          case rel => exact ⟨k + 1, by omega, by go_num, by show OwnF _ _ _ _ _; rw [HR.out]; exact hown.out.alloc _, hbel.alloc hs1 _⟩
          case measure => simp [intOf]; omega
        · have HR : Hid ((sf.take (k + 1)).filter no13 = X ++ [(xa, xb)]) := by show _ = _; rw [HFS.out, if_pos (by simp [no13, hn])]
          have hn' : ¬ (xa.size : Int) = 13 := by omega
          clear hn HFS
          go_wp2_with (at_builtin; refine wpList_append_slf rfl _ _ _ rfl v1.heap.size 40 Tryz.underlying22 (by kernel_rfl) _ rfl X ((hown.out.alloc _).alloc _) _ _ _ rfl [(xa, xb)] (slf_oneA _ _ (xa, xb) hz (by simp)) (by simp; omega) (by simp; omega) v1 ((hbel.alloc hs1 _).alloc (by simp; omega) _) ?_; intro u1 w4 ho4 hb4 hz4)
          go_roundw
          case rel => exact ⟨k + 1, by omega, by go_num, by show OwnF _ _ _ _ _; rw [HR.out]; exact ho4.out, hb4⟩
          case measure => simp [intOf]; omega
      · rw [List.take_of_length_le (show sf.length ≤ k by omega)] at hown
        have hXl : (sf.filter no13).length ≤ 60 := Nat.le_trans (List.length_filter_le _ _) (by omega)
        have hXn : ∀ x ∈ sf.filter no13, no13 x = true := fun x hx => (List.mem_filter.1 hx).2
        have hXs : ∀ x ∈ sf.filter no13, x ∈ sf := fun x hx => (List.mem_filter.1 hx).1
        have hFX : ∀ x ∈ sf.filter no13, x.1.size ≤ 10000 ∧ x.2.size ≤ 10000 := fun x hx => ⟨hL.m x (hXs x hx), hL.v x (hXs x hx)⟩
        obtain ⟨A5, c5, rfl, hFl⟩ := hown.out.slf (fun x hx => by have := hFX x hx; unfold maxLen; omega)
        generalize sf.filter no13 = X at *
        have HX := Lib.hid hFl
        have HXN := Lib.hid hXn
        have HFX := Lib.hid hFX
        have HB := Lib.hid (below_then HB.out hbel)
        have Z0 := Lib.hid (zero_still hbel Z0.out)
        have hi1 : ¬ (k : Int) < (sf.length : Int) := by omega
        obtain ⟨q0, q1, q2, q3, q4, q5, q6⟩ := cel7 Z0.out
        clear hown hXn hXs hFX hFl hbel
        go_upto_region 11 with fail
        go_cut [11, 12] (fun x y wx => ∃ R1 R2, x = .pointer (some ⟨R1, 0, none⟩) ∧ y = .pointer (some ⟨R2, 0, none⟩) ∧ Hid (R1 ≠ R2 ∧ wr.heap.size ≤ R1 ∧ wr.heap.size ≤ R2 ∧ wx.heap[R1]? = some (.cells #[.int .i64 sc, .string sr, .int .i64 sv, .slice A0 sf.length c0, .string sb, .int .i64 st, .slice B0 n0 m0] 27 (0, 0)) ∧ wx.heap[R2]? = some (.cells #[.int .i64 sc, .string sr, .int .i64 sv, .slice A0 sf.length c0, .string sb, .int .i64 st, .slice B0 n0 m0] 27 (0, 0)) ∧ Below wr.heap.size wr wx))
        case first =>
          have Z1 : Hid (wr.drew.heap[w.heap.size]? = some (.cells #[.int .i64 sc, .string sr, .int .i64 sv, .slice A0 sf.length c0, .string sb, .int .i64 st, .slice B0 n0 m0] 27 (0, 0))) := Z0.out
          have n0' := World.new_ne wr.drew ⟨w.heap.size, 0, none⟩ (cel7 Z1.out).1
          have t1 : Hid ((((wr.alloc (.cells #[.int .i64 sc, .string sr, .int .i64 sv, .slice A0 sf.length c0, .string sb, .int .i64 st, .slice B0 n0 m0] 27)).alloc (.cells #[.int .i64 sc, .string sr, .int .i64 sv, .slice A0 sf.length c0, .string sb, .int .i64 st, .slice B0 n0 m0] 27)).drew).heap[wr.heap.size]? = some (.cells #[.int .i64 sc, .string sr, .int .i64 sv, .slice A0 sf.length c0, .string sb, .int .i64 st, .slice B0 n0 m0] 27 (0, 0))) := zero_more (heap_alloc_new wr _)
          have t2 : Hid ((((wr.alloc (.cells #[.int .i64 sc, .string sr, .int .i64 sv, .slice A0 sf.length c0, .string sb, .int .i64 st, .slice B0 n0 m0] 27)).alloc (.cells #[.int .i64 sc, .string sr, .int .i64 sv, .slice A0 sf.length c0, .string sb, .int .i64 st, .slice B0 n0 m0] 27)).drew).heap[wr.heap.size + 1]? = some (.cells #[.int .i64 sc, .string sr, .int .i64 sv, .slice A0 sf.length c0, .string sb, .int .i64 st, .slice B0 n0 m0] 27 (0, 0))) := by
            have := heap_alloc_new (wr.alloc (.cells #[.int .i64 sc, .string sr, .int .i64 sv, .slice A0 sf.length c0, .string sb, .int .i64 st, .slice B0 n0 m0] 27)) (.cells #[.int .i64 sc, .string sr, .int .i64 sv, .slice A0 sf.length c0, .string sb, .int .i64 st, .slice B0 n0 m0] 27)
            rwa [show (wr.alloc (.cells #[.int .i64 sc, .string sr, .int .i64 sv, .slice A0 sf.length c0, .string sb, .int .i64 st, .slice B0 n0 m0] 27)).heap.size = wr.heap.size + 1 by simp] at this
          have tb1 := (Below.refl wr.heap.size wr).alloc (Nat.le_refl _) (.cells #[.int .i64 sc, .string sr, .int .i64 sv, .slice A0 sf.length c0, .string sb, .int .i64 st, .slice B0 n0 m0] 27)
          have tb : Hid (Below wr.heap.size wr (((wr.alloc (.cells #[.int .i64 sc, .string sr, .int .i64 sv, .slice A0 sf.length c0, .string sb, .int .i64 st, .slice B0 n0 m0] 27)).alloc (.cells #[.int .i64 sc, .string sr, .int .i64 sv, .slice A0 sf.length c0, .string sb, .int .i64 st, .slice B0 n0 m0] 27)).drew)) := (tb1.alloc tb1.size _).drew
          clear tb1
          go_wp2_with fail
          go_region_held3 (fun W => W.cell? ⟨w.heap.size, 0, none⟩ = some (.int .i64 sc) ∧ W.cell? ⟨w.heap.size, 1, none⟩ = some (.string sr) ∧ W.cell? ⟨w.heap.size, 2, none⟩ = some (.int .i64 sv) ∧ W.cell? ⟨w.heap.size, 3, none⟩ = some (.slice A0 sf.length c0) ∧ W.cell? ⟨w.heap.size, 4, none⟩ = some (.string sb) ∧ W.cell? ⟨w.heap.size, 5, none⟩ = some (.int .i64 st) ∧ W.cell? ⟨w.heap.size, 6, none⟩ = some (.slice B0 n0 m0)) (first | exact cel7 Z1.out | exact cel7 (zero_more Z1.out) | exact cel7 (zero_more (zero_more Z1.out)) | go_keep) (fail)
          all_goals
            go_wp2_with fail
            go_meet
            first
            | exact ⟨wr.heap.size, wr.heap.size + 1, rfl, rfl, by omega, by omega, by omega, t1.out, t2.out, tb.out⟩
            | exact ⟨wr.heap.size + 1, wr.heap.size, rfl, rfl, by omega, by omega, by omega, t2.out, t1.out, tb.out⟩
        case rest =>
          obtain ⟨R1, R2, rfl, rfl, HC⟩ := hcut
          have HX := Lib.hid (HX.out.below HC.out.2.2.2.2.2)
          have HB := Lib.hid (below_then HB.out HC.out.2.2.2.2.2)
          have hl1 : R1 < wc.heap.size := (Array.getElem?_eq_some_iff.1 HC.out.2.2.2.1).1
          have hl2 : R2 < wc.heap.size := (Array.getElem?_eq_some_iff.1 HC.out.2.2.2.2.1).1
          have HNE := Lib.hid HC.out.1
          have ROW1 := Lib.hid HC.out.2.2.2.1
          have ROW2 := Lib.hid HC.out.2.2.2.2.1
          have hA : 0 ≤ a1 ∧ a1 ≤ 9 := by omega
          have hB2 : 0 ≤ a2 ∧ a2 ≤ 9 := by omega
          have HS1 := Lib.hid (shared_one hA HXN.out sc st)
          have HS2 := Lib.hid (shared_two hA hB2 HXN.out sc st)
          have he1 : (⟨#[48, 49, 50, 51, 52, 53, 54, 55, 56, 57]⟩ : ByteArray).extract a1.toNat (a1 + 1).toNat = mkS [dgB a1] := dg_cut hA
          have he2 : (⟨#[48, 49, 50, 51, 52, 53, 54, 55, 56, 57]⟩ : ByteArray).extract a2.toNat (a2 + 1).toNat = mkS [dgB a2] := dg_cut hB2
          have hw1 : IntKind.i64.wrap (a1 + 1) = a1 + 1 := by rw [IntKind.wrap_i64]; omega
          have hw2 : IntKind.i64.wrap (a2 + 1) = a2 + 1 := by rw [IntKind.wrap_i64]; omega
          have b1 : (0 : Int) ≤ a1 := by omega
          have b2 : a1 ≤ a1 + 1 := by omega
          have b3 : a1 + 1 ≤ 10 := by omega
          have b4 : (0 : Int) ≤ a2 := by omega
          have b5 : a2 ≤ a2 + 1 := by omega
          have b6 : a2 + 1 ≤ 10 := by omega
          have HMX : Hid (∀ x ∈ [(ccS, maX a1)] ++ X, x.1.size ≤ 10000 ∧ x.2.size ≤ 10000) := fun x hx => by
            rcases List.mem_append.1 hx with h | h
            · rw [List.mem_singleton] at h; subst h; exact ⟨by show ccS.size ≤ _; decide, by show (maE ++ mkS [dgB a1]).size ≤ _; rw [ByteArray.size_append, mkS_size]; show 8 + 1 ≤ _; decide⟩
            · exact HFX.out x h
          have HMY : Hid (∀ x ∈ [(ccL, smX a2)] ++ ([(ccS, maX a1)] ++ X), x.1.size ≤ 10000 ∧ x.2.size ≤ 10000) := fun x hx => by
            rcases List.mem_append.1 hx with h | h
            · rw [List.mem_singleton] at h; subst h; exact ⟨by show ccL.size ≤ _; decide, by show (smE ++ mkS [dgB a2]).size ≤ _; rw [ByteArray.size_append, mkS_size]; show 9 + 1 ≤ _; decide⟩
            · exact HMX.out x h
          have hwr : w.heap.size ≤ wr.heap.size := by have := (Array.getElem?_eq_some_iff.1 Z0.out).1; omega
          have HR1 : Hid (w.heap.size ≤ R1) := Nat.le_trans hwr HC.out.2.1
          have HR2 : Hid (w.heap.size ≤ R2) := Nat.le_trans hwr HC.out.2.2.1
          clear hwr
          clear Z0 q0 q1 q2 q3 q4 q5 q6 HC hA hB2 HXN HFX hL g1 g2 g3 g4 g5
          go_wp2_with (at_builtin; refine wpList_append_slf rfl _ _ 22 rfl wc.heap.size 40 Tryz.underlying22 (by kernel_rfl) _ rfl [(ccS, maX a1)] (ownF_lit1 wc 40 (ccS, maX a1) (Nat.le_refl _)) A5 X.length c5 rfl X (HX.out.alloc _) (by simp; omega) (by simp) wc ((Below.refl _ _).alloc (Nat.le_refl _) _) ?_; intro v5 w5 ho5 hb5 hz5; obtain ⟨A6, c6, hv5, hF6⟩ := ho5.out.slf (fun x hx => ⟨by have := (HMX.out x hx).1; unfold maxLen; omega, by have := (HMX.out x hx).2; unfold maxLen; omega⟩); subst hv5; have HF6 := Lib.hid hF6; have HFR6 := Lib.hid ho5.out.freshL; have HB5 := Lib.hid hb5; have r1 : Hid (w5.heap[R1]? = some (.cells #[.int .i64 sc, .string sr, .int .i64 sv, .slice A0 sf.length c0, .string sb, .int .i64 st, .slice B0 n0 m0] 27 (0, 0))) := (hb5.block R1 hl1).trans ROW1.out; have r2 : Hid (w5.heap[R2]? = some (.cells #[.int .i64 sc, .string sr, .int .i64 sv, .slice A0 sf.length c0, .string sb, .int .i64 st, .slice B0 n0 m0] 27 (0, 0))) := (hb5.block R2 hl2).trans ROW2.out; obtain ⟨p3, pf⟩ := row_at r1.out 3 _ rfl; clear hb5 hF6 ho5)
          obtain ⟨ad6, rfl, _⟩ := HF6.out.at_ (by simp)
          have HK6 : Hid (wc.heap.size ≤ ad6.block ∧ R2 < wc.heap.size) := ⟨HFR6.out ad6 rfl, hl2⟩
          have hne6 : ∀ ad, some ad6 = some ad → ad.block ≠ R1 := fun ad h e => by have := HFR6.out ad h; omega
          have F6 : Hid (SlF (w5.setCell ⟨R1, 3, none⟩ (.slice (some ad6) (X.length + 1) c6)) (some ad6) (X.length + 1) c6 ((ccS, maX a1) :: X)) := SlF.setFar HF6.out hne6 _
          have r1b : Hid ((w5.setCell ⟨R1, 3, none⟩ (.slice (some ad6) (X.length + 1) c6)).heap[R1]? = some (.cells #[.int .i64 sc, .string sr, .int .i64 sv, .slice (some ad6) (X.length + 1) c6, .string sb, .int .i64 st, .slice B0 n0 m0] 27 (0, 0))) := row_set r1.out _
          have r2b : Hid ((w5.setCell ⟨R1, 3, none⟩ (.slice (some ad6) (X.length + 1) c6)).heap[R2]? = some (.cells #[.int .i64 sc, .string sr, .int .i64 sv, .slice A0 sf.length c0, .string sb, .int .i64 st, .slice B0 n0 m0] 27 (0, 0))) := by
            show _ = _
            rw [Below.heap_setCell _ _ _ _ HNE.out.symm]
            exact r2.out
          have B6 : Hid (Below w.heap.size w (w5.setCell ⟨R1, 3, none⟩ (.slice (some ad6) (X.length + 1) c6))) := (below_then HB.out HB5.out).setCell (p := ⟨R1, 3, none⟩) HR1.out _
          clear r1 r2 HF6 HFR6 HB HB5 p3 pf hne6 hl1 hl2 hz5 HX ROW1 ROW2
          generalize World.setCell w5 ⟨R1, 3, none⟩ (.slice (some ad6) (X.length + 1) c6) = W6 at *
          have p3 := (row_at r1b.out 3 _ rfl).1
          have p3a : ∀ o, (W6.alloc o).cell? ⟨R1, 3, none⟩ = some (.slice (some ad6) (X.length + 1) c6) := fun o => Lib.cell?_alloc_some o p3
          have p3c : ∀ o, (W6.alloc o).drew.cell? ⟨R1, 3, none⟩ = some (.slice (some ad6) (X.length + 1) c6) := fun o => Lib.cell?_alloc_some o p3
          have n3 := World.new_ne W6 ⟨R1, 3, none⟩ p3
          have p3b : W6.drew.cell? ⟨R1, 3, none⟩ = some (.slice (some ad6) (X.length + 1) c6) := p3
          have hs9 : ¬ 9223372036854775807 < 9 + (mkS [dgB a2]).size := by rw [mkS_size]; simp
          go_wp2_with fail
          go_region_law (refine step_append_slf (by rfl) _ _ 22 (by rfl) W6.heap.size 40 Tryz.underlying22 (by kernel_rfl) _ (by rfl) [(ccL, smX a2)] ((ownF_lit1 W6 40 (ccL, smX a2) (Nat.le_refl _)).drew) ad6 (X.length + 1) c6 (by rfl) ((ccS, maX a1) :: X) ((F6.out.alloc _).drew) (by omega) (by simp; omega) (by simp) W6 (((Below.refl _ _).alloc (Nat.le_refl _) _).drew) ?_; intro v7 w7 ho7 hb7 hz7; obtain ⟨A7, c7, hv7, hF7⟩ := ho7.out.slf (fun x hx => ⟨by have := (HMY.out x hx).1; unfold maxLen; omega, by have := (HMY.out x hx).2; unfold maxLen; omega⟩); subst hv7; have HF7 := Lib.hid hF7; have HFR7 := Lib.hid ho7.out.freshL; have HB7 := Lib.hid hb7; have s1 := Lib.hid (zero_still hb7 r1b.out); have s2 := Lib.hid (zero_still hb7 r2b.out); obtain ⟨p3', pf'⟩ := row_at s2.out 3 _ rfl; clear hF7 ho7)
          all_goals
            have hR2 : R2 < W6.heap.size := (Array.getElem?_eq_some_iff.1 r2b.out).1
            have hne7 : ∀ ad, A7 = some ad → ad.block ≠ R2 := fun ad h e => by have := HFR7.out ad h; omega
            have hne8 : ∀ ad, some ad6 = some ad → ad.block ≠ R2 := fun ad h e => by cases h; have := HK6.out; omega
            have G7 : Hid (SlF (w7.setCell ⟨R2, 3, none⟩ (.slice A7 (X.length + 1 + 1) c7)) A7 (X.length + 1 + 1) c7 ((ccL, smX a2) :: (ccS, maX a1) :: X)) := SlF.setFar HF7.out hne7 _
            have G6 : Hid (SlF (w7.setCell ⟨R2, 3, none⟩ (.slice A7 (X.length + 1 + 1) c7)) (some ad6) (X.length + 1) c6 ((ccS, maX a1) :: X)) := SlF.setFar (F6.out.below HB7.out) hne8 _
            have t1 : Hid ((w7.setCell ⟨R2, 3, none⟩ (.slice A7 (X.length + 1 + 1) c7)).heap[R1]? = some (.cells #[.int .i64 sc, .string sr, .int .i64 sv, .slice (some ad6) (X.length + 1) c6, .string sb, .int .i64 st, .slice B0 n0 m0] 27 (0, 0))) := by
              show _ = _
              rw [Below.heap_setCell _ _ _ _ HNE.out]
              exact s1.out
            have t2 : Hid ((w7.setCell ⟨R2, 3, none⟩ (.slice A7 (X.length + 1 + 1) c7)).heap[R2]? = some (.cells #[.int .i64 sc, .string sr, .int .i64 sv, .slice A7 (X.length + 1 + 1) c7, .string sb, .int .i64 st, .slice B0 n0 m0] 27 (0, 0))) := row_set s2.out _
            have HB8 : Hid (Below w.heap.size w (w7.setCell ⟨R2, 3, none⟩ (.slice A7 (X.length + 1 + 1) c7))) := (below_then B6.out HB7.out).setCell (p := ⟨R2, 3, none⟩) HR2.out _
            have fw1 : FwL ((ccS, maX a1) :: X) := ⟨by rw [List.length_cons]; omega, fun x hx => (HMX.out x hx).2, fun x hx => (HMX.out x hx).1⟩
            have fw2 : FwL ((ccL, smX a2) :: (ccS, maX a1) :: X) := ⟨by rw [List.length_cons, List.length_cons]; omega, fun x hx => (HMY.out x hx).2, fun x hx => (HMY.out x hx).1⟩
            have k1 := fun W (h : SlF W (some ad6) (X.length + 1) c6 ((ccS, maX a1) :: X)) (hT : LifTabs W) => lifL_any ⟨sc, sr, sv, (ccS, maX a1) :: X, sb, st⟩ (some ad6) c6 B0 n0 m0 W h fw1 hT
            have k2 := fun W (h : SlF W A7 (X.length + 1 + 1) c7 ((ccL, smX a2) :: (ccS, maX a1) :: X)) (hT : LifTabs W) => lifL_any ⟨sc, sr, sv, (ccL, smX a2) :: (ccS, maX a1) :: X, sb, st⟩ A7 c7 B0 n0 m0 W h fw2 hT
            unfold stC at k1 k2
            simp only [HS1.out, HS2.out, List.length_cons] at k1 k2
            have K1 := Lib.hid k1
            have K2 := Lib.hid k2
            have e1 : (a1 == a1) = true := by simp
            have e2 : (a2 == a2) = true := by simp
            clear hR2 hne7 hne8 HF7 HFR7 HB7 s1 s2 p3' pf' F6 r1b r2b B6 p3 p3a p3b p3c n3 hs9 hb7 hz7 fw1 fw2 k1 k2 HK6 HMX HMY HS1 HS2
            generalize World.setCell w7 ⟨R2, 3, none⟩ (.slice A7 (X.length + 1 + 1) c7) = w8 at *
            obtain ⟨q0, q1, q2, q3, q4, q5, q6⟩ := cel7 t1.out
            go_wp2_with fail
            refine (K1.out _ G6.out (HT.out.kept HB8.out)).mono ?_
            rintro e v8 ⟨rfl, hb⟩
            have t2 := Lib.hid (zero_still hb t2.out)
            have G7 := Lib.hid (G7.out.below hb)
            have HB8 := Lib.hid (below_then HB8.out hb)
            clear hb q0 q1 q2 q3 q4 q5 q6 t1 G6
            obtain ⟨q0, q1, q2, q3, q4, q5, q6⟩ := cel7 t2.out
            go_wp2_with fail
            refine (K2.out _ G7.out (HT.out.kept HB8.out)).mono ?_
            rintro e v9 ⟨rfl, hb⟩
            have HB8 := Lib.hid (below_then HB8.out hb)
            clear hb q0 q1 q2 q3 q4 q5 q6 t2 G7
            go_wp2_with fail
            refine (CX.out _ HB8.out).mono ?_
            rintro e v10 ⟨rfl, hb⟩
            go_wp2_with fail
            go_ret
            exact ⟨rfl, below_then HB8.out hb⟩

theorem door_met (os : Os) (args : Array Value) : laidMetH Tryz.prog Rows.lifeSharedRow.laid ((World.laidAll Tryz.prog os Rows.lifeSharedRow.laid).forCall (fun _ _ => 0) ⟨#[], args, []⟩).memory := by
  rw [MakeChecks.laidMetH_plain _ _ _ (by kernel_rfl)]
  exact laidMet_laidAll _ (by kernel_rfl) (by kernel_rfl)

set_option maxRecDepth 100000 in
theorem lifted (os : Os) (started : os.Started) (H : Type) (enc : TypeId × Value → H) :
    ReturnsInHanded {} Tryz.checked os 6 .any (fun w args => (Rows.lifeSharedSpec.pre enc Tryz.prog Tryz.f6 [] false w args ∧ laidMetH Tryz.prog Rows.lifeSharedRow.laid w) ∧ sizedMet enc Tryz.prog Tryz.f6 (OpenSpec.ofChange Rows.lifeSharedSpec) false w args) (Rows.lifeSharedSpec.post enc Tryz.prog Tryz.f6 false true false false) := by
  refine returns_and_shaped (C := Tryz.checked) (X := fun w _ => laidMetH Tryz.prog Rows.lifeSharedRow.laid w) (fun _ _ _ hh h => h.of_heap hh) own started (by kernel_rfl) Tryz.func6
    (ChangeSpec.witness_shaped (enc := enc) (C := Tryz.checked) (os := os) (X := fun w _ => laidMetH Tryz.prog Rows.lifeSharedRow.laid w) false (World.laidAll Tryz.prog os Rows.lifeSharedRow.laid) #[.agg #[.int .i64 0, .string ByteArray.empty, .int .i64 0, .slice none 0 0, .string ByteArray.empty, .int .i64 0, .slice none 0 0], .int .i64 0, .int .i64 0] 8 rfl (World.shaped_of_ZipB (by kernel_rfl) (by kernel_rfl)) (by kernel_rfl) (by kernel_rfl) (by kernel_rfl) (door_met os _)) ?_
  intro W base args ds gs before hval0 hW hL hsh
  have hval : ∀ (j : Nat) t v, Tryz.f6.params[j]? = some t → args[j]? = some v → Value.okWide Tryz.prog W .any base t v := hval0
  have hW' := hW
  obtain ⟨p, q, hA0, hV, rfl, hfz, hnd⟩ := hW
  have hA : DataW.TrodAll enc Tryz.prog W 0 (fun _ => true) true Tryz.f6.params.toList args.toList ds p := hA0
  rw [Tryz.params6] at hA hval
  obtain ⟨v0, vs0, d0, ds0, p0, q0, hargs, rfl, rfl, h0, r0⟩ := trodAll_cons hA
  obtain ⟨v1, vs1, d1, ds1, p1, q1, rfl, rfl, rfl, h1, r1⟩ := trodAll_cons r0
  obtain ⟨v2, vs2, d2, ds2, p2, q2, rfl, rfl, rfl, h2, r2⟩ := trodAll_cons r1
  obtain ⟨rfl, rfl, rfl⟩ := trodAll_nil r2
  obtain rfl : args = #[v0, v1, v2] := by cases args; simp_all
  obtain ⟨rfl, rfl⟩ := trodVars_none hV
  have k0 := h0
  have lt0 : ∀ x ∈ p0, x.block < W.heap.size := by obtain ⟨m, hm⟩ := k0; exact DataW.trod_lt m _ _ _ hm
  obtain ⟨a0, A0, c0, B0, n0, m0, rfl, w0⟩ := WfS.of_trod Tryz.underlying27 (by kernel_rfl) rfl rfl rfl (by kernel_rfl) (by kernel_rfl) (by kernel_rfl) Tryz.underlying24 Tryz.underlying3 Tryz.underlying25 rfl rfl rfl rfl rfl (by kernel_rfl) (by kernel_rfl) (by kernel_rfl) (by kernel_rfl) (by kernel_rfl) Tryz.underlying3 Tryz.underlying9 Tryz.underlying3 Tryz.underlying22 Tryz.underlying9 Tryz.underlying40 (by kernel_rfl) rfl rfl (by kernel_rfl) (by kernel_rfl) Tryz.underlying9 Tryz.underlying9 (hval 0 27 v0 rfl rfl) h0
  obtain ⟨a1, rfl, rfl, rfl, w1⟩ := open_int Tryz.underlying3 (hval 1 3 v1 rfl rfl) h1
  obtain ⟨a2, rfl, rfl, rfl, w2⟩ := open_int Tryz.underlying3 (hval 2 3 v2 rfl rfl) h2
  clear hA0 hval0
  refine (walk a0 A0 c0 B0 n0 m0 a1 a2 W w0 w1 w2 hL hsh).mono fun e W' ⟨he, bel⟩ => ?_
  subst he
  exact ⟨_, rfl, _, _, _, [], _, [], hW', trodAll_mk1 (shut_bool Tryz.underlying4 _), (trodAll_cons_mk (Below.trod laidOut (by kernel_rfl) (of_decide_eq_true (by kernel_rfl)) k0 bel lt0) (trodAll_cons_mk (shut_int Tryz.underlying3 w1) (trodAll_cons_mk (shut_int Tryz.underlying3 w2) trodAll_mk0))), rfl, bel.frame _, fun h => by cases h⟩

theorem over : Rows.lifeSharedRow.holds Tryz.pinned (OpenSpec.ofChange Rows.lifeSharedSpec) :=
  OpenClaim.holds_of_wide 6 Tryz.f6 rfl rfl rfl rfl rfl rfl rfl ⟨rfl, rfl, rfl, rfl, rfl⟩ rfl rfl rfl rfl rfl (by kernel_rfl) Tryz.func6 (by kernel_rfl)
    (of_decide_eq_true (by kernel_rfl)) (by unfold Func.isWrapper; first | (rw [if_pos (by decide +kernel)]; kernel_rfl) | (rw [if_neg (by decide +kernel)]; exact ⟨rfl, rfl⟩))
    (fun os started H enc _ => lifted os started H enc)

theorem said : Rows.LifeSharedSaid :=
  over

theorem plain (f : FuncId) (fn : Func) (hf : Tryz.pinned.checked.prog.funcNamed "depot/depotlaw17.LifeShared" = some f) (hfn : Tryz.pinned.checked.prog.funcs[f]? = some fn) :
    false = Tryz.pinned.checked.prog.looks [] ∧ ∀ (j : Nat) t, fn.params[j]? = some t → Tryz.pinned.checked.prog.wantsStandIn t = false := by
  obtain rfl : f = 6 := Option.some.inj ((show Tryz.prog.funcNamed "depot/depotlaw17.LifeShared" = some 6 by kernel_rfl).symm.trans hf) |>.symm
  obtain rfl : fn = Tryz.f6 := (Option.some.inj (Tryz.func6.symm.trans hfn)).symm
  refine ⟨by kernel_rfl, fun j t ht => ?_⟩
  rw [Tryz.params6] at ht
  · have hm := Array.mem_of_getElem? ht
    simp only [List.mem_toArray, List.mem_cons, List.not_mem_nil, or_false] at hm
    have all : Tryz.pinned.checked.prog.wantsStandIn 3 = false ∧ Tryz.pinned.checked.prog.wantsStandIn 27 = false := ⟨by kernel_rfl, by kernel_rfl⟩
    rcases hm with rfl | rfl | rfl
    all_goals first | with_reducible exact all.1 | with_reducible exact all.2

theorem proved : Rows.LifeSharedCardSaid :=
  Claim7.holds_tied_plain_at .later [] _ _ _ _ said (fun _ h => by cases h) (by kernel_rfl) (fun _ h => by cases h) lifeShared_row_tie rfl ⟨rfl, rfl⟩ (by kernel_rfl) rfl plain (by kernel_rfl)
#print axioms proved
end Go.Proofs.YtfmaaghmbnhikaaGreatDoor.lifeShared
