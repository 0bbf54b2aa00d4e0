/-
  Texts that the laws of this seat lean on, one behind the other.
-/
import Derived.Test.YtnembpklidcgoaaGreatDoorMrhAC
import Derived.Test.YtnembpklidcgoaaGreatDoorMrhAE
import Derived.Test.YtnembpklidcgoaaGreatDoorMrhAB
import Derived.Deep.RegionHeld3
import Derived.Deep.DeepCutAuto
import Derived.Test.YtnembpklidcgoaaGreatDoorMrhAA
import Derived.Test.YtnembpklidcgoaaGreatDoorMrhT
set_option linter.unusedSimpArgs false
set_option linter.unusedVariables false
/-
  Contracts of the reference's Storable, Verdict (layer 18).
-/
section
namespace Go.Proofs.YtnembpklidcgoaaGreatDoor
open Go.RowKit
set_option linter.unusedSimpArgs false

theorem cel9r {W : World} {g t : Nat} {c0 c1 c2 c3 c4 c5 c6 c7 c8 : Value} (h : W.heap[g]? = some (.cells #[c0, c1, c2, c3, c4, c5, c6, c7, c8] t (0, 0))) :
    W.cell? ⟨g, 0, none⟩ = some c0 ∧ W.cell? ⟨g, 1, none⟩ = some c1 ∧ W.cell? ⟨g, 2, none⟩ = some c2 ∧ W.cell? ⟨g, 3, none⟩ = some c3 ∧ W.cell? ⟨g, 4, none⟩ = some c4 ∧ W.cell? ⟨g, 5, none⟩ = some c5 ∧ W.cell? ⟨g, 6, none⟩ = some c6 ∧ W.cell? ⟨g, 7, none⟩ = some c7 ∧ W.cell? ⟨g, 8, none⟩ = some c8 := by
  refine ⟨?_, ?_, ?_, ?_, ?_, ?_, ?_, ?_, ?_⟩ <;> (rw [cell_of_row W g _ _ _ _ h]; rfl)
theorem both_of : ∀ t : Bool, t = true ∨ t = false := fun t => by cases t <;> simp

set_option maxHeartbeats 16000000 in
set_option maxRecDepth 100000 in
theorem r_rsto (r : Rqst) (A : Option Addr) (c : Nat) (p : Rply) (B : Option Addr) (d : Nat) (now : Int) (w : World) (h : SlF w A r.f.length c r.f) (hQ : FwL r.f) (h' : SlF w B p.f.length d p.f) (hL : FwL p.f) :
    Calls Tryz.prog 13 #[.agg (rqC r A c), .agg (rpC p B d), .int .i64 now] w fun e w' => e = .returned (.bool (stoB r.m r.f p.f p.c now)) ∧ Below w.heap.size w w' := by
  have B0 := both_of
  obtain ⟨m, t, v, f, b⟩ := r
  obtain ⟨pc, pr, pv, g, pb⟩ := p
  have C1 := Lib.hid (fun W (hW : Below w.heap.size w W) => r_rpas ⟨m, t, v, f, b⟩ A c W (h.below hW) hQ.n)
  have C2 := Lib.hid (fun W (hW : Below w.heap.size w W) => r_ctlAsked A f.length c f W (h.below hW) hQ.n hQ.v)
  have C3 := Lib.hid (fun W (hW : Below w.heap.size w W) => r_ctlParse B g.length d g W (h'.below hW) hL.n hL.v)
  have C4 := Lib.hid (fun W (hW : Below w.heap.size w W) => r_rhas A f.length c f auS W (h.below hW) (by have := hQ.n; simp only at this; omega) reu_le.2.2.2.2.2)
  have C5 := Lib.hid (fun W (hW : Below w.heap.size w W) => r_names_w B g.length d g W (h'.below hW) hL.n hL.v)
  have C6 := Lib.hid (fun W (hW : Below w.heap.size w W) => r_rhas B g.length d g exS W (h'.below hW) (by have := hL.n; simp only at this; omega) exS_le)
  have C7 := Lib.hid (fun W (hW : Below w.heap.size w W) => r_lusual pc W)
  have C8 := Lib.hid (fun W (hW : Below w.heap.size w W) => r_rval ⟨pc, pr, pv, g, pb⟩ B d W (h'.below hW) hL)
  have C9 := Lib.hid (fun W (hW : Below w.heap.size w W) => r_fresh ⟨pc, pr, pv, g, pb, now⟩ B d none 0 0 now W (h'.below hW) hL)
  have hD : stoB m f g pc now = ((m.toList == [71, 69, 84] && (!pasB f && !(ctA f).ns)) && ((!(ctP g).ns && (!(ctP g).pv && (!(pc == 206) && !(pc == 304)))) && ((!fdGot f auS || ((ctP g).pu || ((ctP g).mc || decide (0 ≤ (ctP g).sh)))) && (namB g && ((decide (0 ≤ (ctP g).sh) || (decide (0 ≤ (ctP g).ma) || ((ctP g).pu || (fdGot g exS || usuB pc)))) && (valB g || frsB g pc now now)))))) := rfl
  obtain ⟨R, hR⟩ : ∃ R, R = stoB m f g pc now := ⟨_, rfl⟩
  simp only at h h' hQ hL
  show Calls _ _ _ _ fun e w' => e = .returned (.bool (stoB m f g pc now)) ∧ _
  rw [← hR] at hD ⊢
  unfold rqC rpC stC at *
  simp only at *
  generalize pasB f = bp at *
  generalize ctA f = ca at *
  generalize ctP g = cp at *
  generalize fdGot f auS = ba at *
  generalize fdGot g exS = bx at *
  generalize usuB pc = bu at *
  generalize valB g = bv at *
  generalize frsB g pc now now = bf at *
  unfold IsNm at C5
  generalize namB g = bn at *
  generalize namL g = nl at *
  obtain ⟨ans, anc, apv, apu, amc, aoi, ama, ash, amf⟩ := ca
  obtain ⟨ns, nc, pv', pu, mc, oi, ma, sh, mf⟩ := cp
  unfold ctC at *
  unfold auS at C4
  unfold exS at C6
  simp only at hD C2 C3
  obtain ⟨E1, hE1⟩ : ∃ E, E = (m.toList == [71, 69, 84] && (!bp && !ans)) := ⟨_, rfl⟩
  obtain ⟨E2, hE2⟩ : ∃ E, E = (!ns && (!pv' && (!(pc == 206) && !(pc == 304)))) := ⟨_, rfl⟩
  obtain ⟨E3, hE3⟩ : ∃ E, E = (!ba || (pu || (mc || decide (0 ≤ sh)))) := ⟨_, rfl⟩
  obtain ⟨E5, hE5⟩ : ∃ E, E = (decide (0 ≤ sh) || (decide (0 ≤ ma) || (pu || (bx || bu)))) := ⟨_, rfl⟩
  rw [← hE1, ← hE2, ← hE3, ← hE5] at hD
  have HE1 := Lib.hid hE1
  have HE2 := Lib.hid hE2
  have HE3 := Lib.hid hE3
  have HE5 := Lib.hid hE5
  have HD := Lib.hid hD
  have HB : Hid (Below w.heap.size w ((w.alloc (.cells #[.string m, .string t, .int .i64 v, .slice A f.length c, .string b] 24)).alloc (.cells #[.int .i64 pc, .string pr, .int .i64 pv, .slice B g.length d, .string pb] 26))) := ((Below.refl _ _).alloc (Nat.le_refl _) _).alloc (by simp) _
  have ZQ : Hid (((w.alloc (.cells #[.string m, .string t, .int .i64 v, .slice A f.length c, .string b] 24)).alloc (.cells #[.int .i64 pc, .string pr, .int .i64 pv, .slice B g.length d, .string pb] 26)).heap[w.heap.size]? = some (.cells #[.string m, .string t, .int .i64 v, .slice A f.length c, .string b] 24 (0, 0))) := zero_more (heap_alloc_new w _)
  have zt := heap_alloc_new (w.alloc (.cells #[.string m, .string t, .int .i64 v, .slice A f.length c, .string b] 24)) (.cells #[.int .i64 pc, .string pr, .int .i64 pv, .slice B g.length d, .string pb] 26)
  rw [show (w.alloc (.cells #[.string m, .string t, .int .i64 v, .slice A f.length c, .string b] 24)).heap.size = w.heap.size + 1 by simp] at zt
  have ZP := Lib.hid zt
  clear zt h h' hQ hL hR hD hE1 hE2 hE3 hE5
  obtain ⟨q0, q1, q2, q3, q4⟩ := cel5r ZQ.out
  obtain ⟨p0, p1, p2, p3, p4⟩ := cel5r ZP.out
  go_enter Tryz.func13, Tryz.ntmps13
  go_upto_region 1 with fail
  go_cut [22] (fun s wx => s = .bool (!E1) ∧ Hid (wx.heap[w.heap.size]? = some (.cells #[.string m, .string t, .int .i64 v, .slice A f.length c, .string b] 24 (0, 0))) ∧ Hid (wx.heap[w.heap.size + 1]? = some (.cells #[.int .i64 pc, .string pr, .int .i64 pv, .slice B g.length d, .string pb] 26 (0, 0))) ∧ Hid (Below w.heap.size w wx))
  case first =>
    rcases B0 (m.toList == [71, 69, 84]) with hm | hm
    · rw [hm] at HE1
      go_wp2_with fail
      refine (C1.out _ HB.out).mono ?_
      rintro e w2 ⟨rfl, hb⟩
      clear q0 q1 q2 q3 q4 p0 p1 p2 p3 p4
      replace ZQ := Lib.hid (zero_still hb ZQ.out)
      replace ZP := Lib.hid (zero_still hb ZP.out)
      replace HB := Lib.hid (below_then HB.out hb)
      clear hb
      obtain ⟨q0, q1, q2, q3, q4⟩ := cel5r ZQ.out
      obtain ⟨p0, p1, p2, p3, p4⟩ := cel5r ZP.out
      cases bp with
      | true =>
        go_wp2_with fail
        go_meet
        exact ⟨by rw [HE1.out]; rfl, ZQ.out, ZP.out, HB.out⟩
      | false =>
        go_wp2_with fail
        refine (C2.out _ HB.out).mono ?_
        rintro e w3 ⟨rfl, hb⟩
        clear q0 q1 q2 q3 q4 p0 p1 p2 p3 p4
        replace ZQ := Lib.hid (zero_still hb ZQ.out)
        replace ZP := Lib.hid (zero_still hb ZP.out)
        replace HB := Lib.hid (below_then HB.out hb)
        clear hb
        obtain ⟨q0, q1, q2, q3, q4⟩ := cel5r ZQ.out
        obtain ⟨p0, p1, p2, p3, p4⟩ := cel5r ZP.out
        have hfd : ∀ W, (Instr.field 44 (.agg #[.bool ans, .bool anc, .bool apv, .bool apu, .bool amc, .bool aoi, .int .i64 ama, .int .i64 ash, .int .i64 amf]) 0).run Tryz.prog W = .ok (.bool ans) W := fun _ => by kernel_rfl
        cases ans
        all_goals
          go_wp2_with fail
          go_meet
          exact ⟨by rw [HE1.out]; rfl, ZQ.out, ZP.out, HB.out⟩
    · rw [hm] at HE1
      go_wp2_with fail
      go_meet
      exact ⟨by rw [HE1.out]; rfl, ZQ.out, ZP.out, HB.out⟩
  case rest =>
    clear q0 q1 q2 q3 q4 p0 p1 p2 p3 p4
    clear ZQ ZP HB
    obtain ⟨rfl, ZQ, ZP, HB⟩ := hcut
    clear HE1 C1 C2
    obtain ⟨q0, q1, q2, q3, q4⟩ := cel5r ZQ.out
    obtain ⟨p0, p1, p2, p3, p4⟩ := cel5r ZP.out
    cases E1 with
    | false =>
      replace HD := HD.out
      subst HD
      go_wp2_with fail
      go_ret
      exact ⟨rfl, HB.out⟩
    | true =>
      go_wp2_with fail
      refine (C3.out _ HB.out).mono ?_
      rintro e w4 ⟨rfl, hb⟩
      clear q0 q1 q2 q3 q4 p0 p1 p2 p3 p4
      replace ZQ := Lib.hid (zero_still hb ZQ.out)
      replace ZP := Lib.hid (zero_still hb ZP.out)
      replace HB := Lib.hid (below_then HB.out hb)
      clear hb
      replace ZQ := Lib.hid (zero_more (o' := .cells #[.bool ns, .bool nc, .bool pv', .bool pu, .bool mc, .bool oi, .int .i64 ma, .int .i64 sh, .int .i64 mf] 44) ZQ.out)
      replace ZP := Lib.hid (zero_more (o' := .cells #[.bool ns, .bool nc, .bool pv', .bool pu, .bool mc, .bool oi, .int .i64 ma, .int .i64 sh, .int .i64 mf] 44) ZP.out)
      have zc := heap_alloc_new w4 (.cells #[.bool ns, .bool nc, .bool pv', .bool pu, .bool mc, .bool oi, .int .i64 ma, .int .i64 sh, .int .i64 mf] 44)
      obtain ⟨gc, hgc⟩ : ∃ g, w4.heap.size = g := ⟨_, rfl⟩
      rw [hgc] at zc
      have ZC := Lib.hid zc
      replace HB := Lib.hid (HB.out.alloc HB.out.size (.cells #[.bool ns, .bool nc, .bool pv', .bool pu, .bool mc, .bool oi, .int .i64 ma, .int .i64 sh, .int .i64 mf] 44))
      clear zc C3
      obtain ⟨q0, q1, q2, q3, q4⟩ := cel5r ZQ.out
      obtain ⟨p0, p1, p2, p3, p4⟩ := cel5r ZP.out
      obtain ⟨x0, x1, x2, x3, x4, x5, x6, x7, x8⟩ := cel9r ZC.out
      go_upto_region 4 with fail
      go_cut [41] (fun s wx => s = .bool (!E2) ∧ Hid (wx.heap[w.heap.size]? = some (.cells #[.string m, .string t, .int .i64 v, .slice A f.length c, .string b] 24 (0, 0))) ∧ Hid (wx.heap[w.heap.size + 1]? = some (.cells #[.int .i64 pc, .string pr, .int .i64 pv, .slice B g.length d, .string pb] 26 (0, 0))) ∧ Hid (wx.heap[gc]? = some (.cells #[.bool ns, .bool nc, .bool pv', .bool pu, .bool mc, .bool oi, .int .i64 ma, .int .i64 sh, .int .i64 mf] 44 (0, 0))) ∧ Hid (Below w.heap.size w wx))
      case first =>
        cases ns with
        | true =>
          go_wp2_with fail
          go_meet
          exact ⟨by rw [HE2.out]; rfl, ZQ.out, ZP.out, ZC.out, HB.out⟩
        | false =>
          cases pv' with
          | true =>
            go_wp2_with fail
            go_meet
            exact ⟨by rw [HE2.out]; rfl, ZQ.out, ZP.out, ZC.out, HB.out⟩
          | false =>
            rcases B0 (pc == 206) with k1 | k1
            · rw [k1] at HE2
              go_wp2_with fail
              go_meet
              exact ⟨by rw [HE2.out]; rfl, ZQ.out, ZP.out, ZC.out, HB.out⟩
            · rcases B0 (pc == 304) with k2 | k2
              all_goals
                rw [k1, k2] at HE2
                go_wp2_with fail
                go_meet
                exact ⟨by rw [HE2.out]; rfl, ZQ.out, ZP.out, ZC.out, HB.out⟩
      case rest =>
        clear q0 q1 q2 q3 q4 p0 p1 p2 p3 p4 x0 x1 x2 x3 x4 x5 x6 x7 x8
        clear ZQ ZP HB ZC
        obtain ⟨rfl, ZQ, ZP, ZC, HB⟩ := hcut
        clear HE2
        obtain ⟨q0, q1, q2, q3, q4⟩ := cel5r ZQ.out
        obtain ⟨p0, p1, p2, p3, p4⟩ := cel5r ZP.out
        obtain ⟨x0, x1, x2, x3, x4, x5, x6, x7, x8⟩ := cel9r ZC.out
        cases E2 with
        | false =>
          replace HD := HD.out
          subst HD
          go_wp2_with fail
          go_ret
          exact ⟨rfl, HB.out⟩
        | true =>
          go_upto_region 6 with fail
          go_cut [59] (fun s wx => s = .bool (!E3) ∧ Hid (wx.heap[w.heap.size]? = some (.cells #[.string m, .string t, .int .i64 v, .slice A f.length c, .string b] 24 (0, 0))) ∧ Hid (wx.heap[w.heap.size + 1]? = some (.cells #[.int .i64 pc, .string pr, .int .i64 pv, .slice B g.length d, .string pb] 26 (0, 0))) ∧ Hid (wx.heap[gc]? = some (.cells #[.bool ns, .bool nc, .bool pv', .bool pu, .bool mc, .bool oi, .int .i64 ma, .int .i64 sh, .int .i64 mf] 44 (0, 0))) ∧ Hid (Below w.heap.size w wx))
          case first =>
            go_wp2_with fail
            refine (C4.out _ HB.out).mono ?_
            rintro e w7 ⟨rfl, hb⟩
            clear q0 q1 q2 q3 q4 p0 p1 p2 p3 p4 x0 x1 x2 x3 x4 x5 x6 x7 x8
            replace ZQ := Lib.hid (zero_still hb ZQ.out)
            replace ZP := Lib.hid (zero_still hb ZP.out)
            replace ZC := Lib.hid (zero_still hb ZC.out)
            replace HB := Lib.hid (below_then HB.out hb)
            clear hb
            obtain ⟨q0, q1, q2, q3, q4⟩ := cel5r ZQ.out
            obtain ⟨p0, p1, p2, p3, p4⟩ := cel5r ZP.out
            obtain ⟨x0, x1, x2, x3, x4, x5, x6, x7, x8⟩ := cel9r ZC.out
            cases ba with
            | false =>
              go_wp2_with fail
              go_meet
              exact ⟨by rw [HE3.out]; rfl, ZQ.out, ZP.out, ZC.out, HB.out⟩
            | true =>
              cases pu with
              | true =>
                go_wp2_with fail
                go_meet
                exact ⟨by rw [HE3.out]; rfl, ZQ.out, ZP.out, ZC.out, HB.out⟩
              | false =>
                cases mc with
                | true =>
                  go_wp2_with fail
                  go_meet
                  exact ⟨by rw [HE3.out]; rfl, ZQ.out, ZP.out, ZC.out, HB.out⟩
                | false =>
                  by_cases hs : sh < 0
                  · rw [decide_eq_false (show ¬ 0 ≤ sh by omega)] at HE3
                    go_wp2_with fail
                    go_meet
                    exact ⟨by rw [HE3.out]; rfl, ZQ.out, ZP.out, ZC.out, HB.out⟩
                  · rw [decide_eq_true (show 0 ≤ sh by omega)] at HE3
                    go_wp2_with fail
                    go_meet
                    exact ⟨by rw [HE3.out, decide_eq_false (show ¬ sh < 0 by omega)]; rfl, ZQ.out, ZP.out, ZC.out, HB.out⟩
          case rest =>
            clear q0 q1 q2 q3 q4 p0 p1 p2 p3 p4 x0 x1 x2 x3 x4 x5 x6 x7 x8
            clear ZQ ZP HB ZC
            obtain ⟨rfl, ZQ, ZP, ZC, HB⟩ := hcut
            clear HE3 C4
            obtain ⟨q0, q1, q2, q3, q4⟩ := cel5r ZQ.out
            obtain ⟨p0, p1, p2, p3, p4⟩ := cel5r ZP.out
            obtain ⟨x0, x1, x2, x3, x4, x5, x6, x7, x8⟩ := cel9r ZC.out
            cases E3 with
            | false =>
              replace HD := HD.out
              subst HD
              go_wp2_with fail
              go_ret
              exact ⟨rfl, HB.out⟩
            | true =>
              go_wp2_with fail
              refine (C5.out _ HB.out).mono ?_
              rintro e w8 ⟨A5, c5, rfl, _, _, hb⟩
              clear q0 q1 q2 q3 q4 p0 p1 p2 p3 p4 x0 x1 x2 x3 x4 x5 x6 x7 x8
              replace ZQ := Lib.hid (zero_still hb ZQ.out)
              replace ZP := Lib.hid (zero_still hb ZP.out)
              replace ZC := Lib.hid (zero_still hb ZC.out)
              replace HB := Lib.hid (below_then HB.out hb)
              clear hb C5
              obtain ⟨q0, q1, q2, q3, q4⟩ := cel5r ZQ.out
              obtain ⟨p0, p1, p2, p3, p4⟩ := cel5r ZP.out
              obtain ⟨x0, x1, x2, x3, x4, x5, x6, x7, x8⟩ := cel9r ZC.out
              cases bn with
              | false =>
                replace HD := HD.out
                subst HD
                go_wp2_with fail
                go_ret
                exact ⟨rfl, HB.out⟩
              | true =>
                go_upto_region 11 with fail
                go_cut [92] (fun s wx => s = .bool (!E5) ∧ Hid (wx.heap[w.heap.size]? = some (.cells #[.string m, .string t, .int .i64 v, .slice A f.length c, .string b] 24 (0, 0))) ∧ Hid (wx.heap[w.heap.size + 1]? = some (.cells #[.int .i64 pc, .string pr, .int .i64 pv, .slice B g.length d, .string pb] 26 (0, 0))) ∧ Hid (wx.heap[gc]? = some (.cells #[.bool ns, .bool nc, .bool pv', .bool pu, .bool mc, .bool oi, .int .i64 ma, .int .i64 sh, .int .i64 mf] 44 (0, 0))) ∧ Hid (Below w.heap.size w wx))
                case first =>
                  by_cases hs : sh < 0
                  · rw [decide_eq_false (show ¬ 0 ≤ sh by omega)] at HE5
                    by_cases hm : ma < 0
                    · rw [decide_eq_false (show ¬ 0 ≤ ma by omega)] at HE5
                      cases pu with
                      | true =>
                        go_wp2_with fail
                        go_meet
                        exact ⟨by rw [HE5.out]; rfl, ZQ.out, ZP.out, ZC.out, HB.out⟩
                      | false =>
                        go_wp2_with fail
                        refine (C6.out _ HB.out).mono ?_
                        rintro e w10 ⟨rfl, hb⟩
                        clear q0 q1 q2 q3 q4 p0 p1 p2 p3 p4 x0 x1 x2 x3 x4 x5 x6 x7 x8
                        replace ZQ := Lib.hid (zero_still hb ZQ.out)
                        replace ZP := Lib.hid (zero_still hb ZP.out)
                        replace ZC := Lib.hid (zero_still hb ZC.out)
                        replace HB := Lib.hid (below_then HB.out hb)
                        clear hb
                        obtain ⟨q0, q1, q2, q3, q4⟩ := cel5r ZQ.out
                        obtain ⟨p0, p1, p2, p3, p4⟩ := cel5r ZP.out
                        obtain ⟨x0, x1, x2, x3, x4, x5, x6, x7, x8⟩ := cel9r ZC.out
                        cases bx with
                        | true =>
                          go_wp2_with fail
                          go_meet
                          exact ⟨by rw [HE5.out]; rfl, ZQ.out, ZP.out, ZC.out, HB.out⟩
                        | false =>
                          go_wp2_with fail
                          refine (C7.out _ HB.out).mono ?_
                          rintro e w11 ⟨rfl, hb⟩
                          clear q0 q1 q2 q3 q4 p0 p1 p2 p3 p4 x0 x1 x2 x3 x4 x5 x6 x7 x8
                          replace ZQ := Lib.hid (zero_still hb ZQ.out)
                          replace ZP := Lib.hid (zero_still hb ZP.out)
                          replace ZC := Lib.hid (zero_still hb ZC.out)
                          replace HB := Lib.hid (below_then HB.out hb)
                          clear hb
                          obtain ⟨q0, q1, q2, q3, q4⟩ := cel5r ZQ.out
                          obtain ⟨p0, p1, p2, p3, p4⟩ := cel5r ZP.out
                          obtain ⟨x0, x1, x2, x3, x4, x5, x6, x7, x8⟩ := cel9r ZC.out
                          cases bu
                          all_goals
                            go_wp2_with fail
                            go_meet
                            exact ⟨by rw [HE5.out]; rfl, ZQ.out, ZP.out, ZC.out, HB.out⟩
                    · rw [decide_eq_true (show 0 ≤ ma by omega)] at HE5
                      go_wp2_with fail
                      go_meet
                      exact ⟨by rw [HE5.out]; rfl, ZQ.out, ZP.out, ZC.out, HB.out⟩
                  · rw [decide_eq_true (show 0 ≤ sh by omega)] at HE5
                    go_wp2_with fail
                    go_meet
                    exact ⟨by rw [HE5.out]; rfl, ZQ.out, ZP.out, ZC.out, HB.out⟩
                case rest =>
                  clear q0 q1 q2 q3 q4 p0 p1 p2 p3 p4 x0 x1 x2 x3 x4 x5 x6 x7 x8
                  clear ZQ ZP HB ZC
                  obtain ⟨rfl, ZQ, ZP, ZC, HB⟩ := hcut
                  clear HE5 C6 C7
                  obtain ⟨q0, q1, q2, q3, q4⟩ := cel5r ZQ.out
                  obtain ⟨p0, p1, p2, p3, p4⟩ := cel5r ZP.out
                  obtain ⟨x0, x1, x2, x3, x4, x5, x6, x7, x8⟩ := cel9r ZC.out
                  cases E5 with
                  | false =>
                    replace HD := HD.out
                    subst HD
                    go_wp2_with fail
                    go_ret
                    exact ⟨rfl, HB.out⟩
                  | true =>
                    replace HD := HD.out
                    go_wp2_with fail
                    refine (C8.out _ HB.out).mono ?_
                    rintro e w12 ⟨rfl, hb⟩
                    clear q0 q1 q2 q3 q4 p0 p1 p2 p3 p4 x0 x1 x2 x3 x4 x5 x6 x7 x8
                    replace ZQ := Lib.hid (zero_still hb ZQ.out)
                    replace ZP := Lib.hid (zero_still hb ZP.out)
                    replace ZC := Lib.hid (zero_still hb ZC.out)
                    replace HB := Lib.hid (below_then HB.out hb)
                    clear hb
                    obtain ⟨q0, q1, q2, q3, q4⟩ := cel5r ZQ.out
                    obtain ⟨p0, p1, p2, p3, p4⟩ := cel5r ZP.out
                    obtain ⟨x0, x1, x2, x3, x4, x5, x6, x7, x8⟩ := cel9r ZC.out
                    cases bv with
                    | true =>
                      subst HD
                      go_wp2_with fail
                      go_ret
                      exact ⟨rfl, HB.out⟩
                    | false =>
                      subst HD
                      go_wp2_with fail
                      refine (C9.out _ HB.out).mono ?_
                      rintro e w13 ⟨rfl, hb⟩
                      clear q0 q1 q2 q3 q4 p0 p1 p2 p3 p4 x0 x1 x2 x3 x4 x5 x6 x7 x8
                      replace ZQ := Lib.hid (zero_still hb ZQ.out)
                      replace ZP := Lib.hid (zero_still hb ZP.out)
                      replace ZC := Lib.hid (zero_still hb ZC.out)
                      replace HB := Lib.hid (below_then HB.out hb)
                      clear hb
                      go_wp2_with fail
                      go_ret
                      exact ⟨rfl, HB.out⟩

end Go.Proofs.YtnembpklidcgoaaGreatDoor
end

/-
  Plain facts of layer 17: lifetimes are durations; an age grows second by second; what is left.
-/
section
namespace Go.Proofs.YtnembpklidcgoaaGreatDoor
open Go.RowKit

theorem lstD_all (nm : ByteArray) : ∀ (D : List Dv) (n : Int), -1 ≤ n ∧ n ≤ 2147483648 → -1 ≤ D.foldl (lstS nm) n ∧ D.foldl (lstS nm) n ≤ 2147483648
  | [], _, h => h
  | d :: D, n, h => lstD_all nm D _ (lst_bd nm n d h)
theorem lifN_bd (L : List Fd) (code t : Int) : 0 ≤ lifN L code t ∧ lifN L code t ≤ 2147483648 := by
  have h1 : (ctP L).sh ≤ 2147483648 := (lstD_all smS (dvs (fdAll L ccS)) (-1) (by omega)).2
  have h2 : (ctP L).ma ≤ 2147483648 := (lstD_all maS (dvs (fdAll L ccS)) (-1) (by omega)).2
  have h3 := aprN_bd (whnV L exS) (datN L t)
  have h4 := aprN_bd (datN L t) (whnV L lmS)
  unfold lifN
  generalize (ctP L).sh = x at *
  generalize (ctP L).ma = y at *
  generalize aprN (whnV L exS) (datN L t) = p at *
  generalize aprN (datN L t) (whnV L lmS) = q at *
  split
  · omega
  split
  · omega
  split
  · split <;> omega
  split
  · omega
  · omega
theorem lef_eq (L : List Fd) (code t now : Int) (h : 0 ≤ ageN L t now ∧ ageN L t now ≤ 2147483648) : lefN L code t now = if ageN L t now < lifN L code t then lifN L code t - ageN L t now else 0 := by
  have h1 := lifN_bd L code t
  unfold lefN lessI clampI
  generalize ageN L t now = a at *
  generalize lifN L code t = l at *
  repeat' split
  all_goals omega

end Go.Proofs.YtnembpklidcgoaaGreatDoor
end

/-
  Plain facts of layer 18: what may be used is fresh and as the request asks; what may not be used now may not be used later.
-/
section
namespace Go.Proofs.YtnembpklidcgoaaGreatDoor
open Go.RowKit

theorem age_bd (L : List Fd) (t now : Int) : 0 ≤ ageN L t now ∧ ageN L t now ≤ 2147483648 := by
  have h1 := tolN_bd L
  have h2 := aprN_bd t (datN L t)
  have h3 := aprN_bd now t
  unfold ageN
  generalize tolN L = x at *
  generalize aprN t (datN L t) = y at *
  generalize aprN now t = z at *
  unfold addI clampI
  repeat' split
  all_goals omega
theorem ver_two (Q L : List Fd) (code t now : Int) : verN Q L code t now = 1 ∨ verN Q L code t now = 2 := by
  unfold verN
  split <;> simp
/-- When a reply may be used. -/
def VerOk (Q L : List Fd) (code t now : Int) : Prop :=
  lefN L code t now ≠ 0 ∧ (ctA Q).nc = false ∧ (ctP L).nc = false ∧ ((ctA Q).ma < 0 ∨ ageN L t now ≤ (ctA Q).ma) ∧ ((ctA Q).mf < 0 ∨ (ctA Q).mf ≤ lefN L code t now)
theorem ver_iff (Q L : List Fd) (code t now : Int) : verN Q L code t now = 1 ↔ VerOk Q L code t now := by
  have e : verN Q L code t now = 1 ↔ verB Q L code t now = false := by
    unfold verN
    cases verB Q L code t now <;> simp
  rw [e]
  unfold verB VerOk
  generalize lefN L code t now = lf
  generalize ageN L t now = ag
  generalize (ctA Q).ma = ma
  generalize (ctA Q).mf = mf
  simp only [Bool.or_eq_false_iff, Bool.and_eq_false_iff, decide_eq_false_iff_not]
  constructor
  · rintro ⟨h1, h2, h3, h4, h5⟩
    exact ⟨h1, h2, h3, by omega, by omega⟩
  · rintro ⟨h1, h2, h3, h4, h5⟩
    exact ⟨h1, h2, h3, by omega, by omega⟩
end Go.Proofs.YtnembpklidcgoaaGreatDoor
end
