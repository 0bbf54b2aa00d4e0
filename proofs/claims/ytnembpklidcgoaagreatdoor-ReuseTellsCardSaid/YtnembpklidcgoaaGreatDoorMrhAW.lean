/-
  Texts that the laws of this seat lean on, one behind the other.
-/
import Derived.Test.YtnembpklidcgoaaGreatDoorMrhAV
import Derived.Test.YtnembpklidcgoaaGreatDoorMrhAG
import Derived.BigQuiet
import Derived.Deep.RegionHeld3
import Derived.Test.YtnembpklidcgoaaGreatDoorMrhX
import Derived.Deep.DeepCutAuto
set_option linter.unusedSimpArgs false
set_option linter.unusedVariables false
/-
  Package reuse: contracts of common, named, meant and of the conditions that Storable and Verdict list.
-/
section
namespace Go.Proofs.YtnembpklidcgoaaGreatDoor
open Go.RowKit
set_option linter.unusedSimpArgs false

set_option maxHeartbeats 2000000 in
set_option maxRecDepth 100000 in
theorem cmn_any (x : Ctl) (w : World) :
    Calls Tryz.prog 38 #[.agg (ctC x)] w fun e w' => e = .returned (.bool (x.pu || (x.mc || decide (0 ≤ x.sh)))) ∧ Below w.heap.size w w' := by
  obtain ⟨ns, nc, pv', pu, mc, oi, ma, sh, mf⟩ := x
  unfold ctC
  simp only
  have HB : Hid (Below w.heap.size w (w.alloc (.cells #[.bool ns, .bool nc, .bool pv', .bool pu, .bool mc, .bool oi, .int .i64 ma, .int .i64 sh, .int .i64 mf] 44))) := (Below.refl _ _).alloc (Nat.le_refl _) _
  obtain ⟨c0, c1, c2, c3, c4, c5, c6, c7, c8⟩ := cel9r (heap_alloc_new w (.cells #[.bool ns, .bool nc, .bool pv', .bool pu, .bool mc, .bool oi, .int .i64 ma, .int .i64 sh, .int .i64 mf] 44))
  cases pu <;> cases mc <;> by_cases hs : (0 : Int) ≤ sh
  all_goals
    first | rw [decide_eq_true hs] | rw [decide_eq_false hs]
    go_enter Tryz.func38, Tryz.ntmps38
    go_wp2_with fail
    go_ret
    exact ⟨rfl, HB.out⟩

set_option maxHeartbeats 2000000 in
set_option maxRecDepth 100000 in
theorem rnm_any (r : Rply) (B : Option Addr) (d : Nat) (w : World) (h : SlF w B r.f.length d r.f) (hL : FwL r.f) :
    Calls Tryz.prog 41 #[.agg (rpC r B d)] w fun e w' => e = .returned (.bool (namB r.f)) ∧ Below w.heap.size w w' := by
  have C1 := Lib.hid (fun W (hW : Below w.heap.size w W) => varNw_any B d r.f W (h.below hW) ⟨hL.n, fun x hx => ⟨hL.v x hx, hL.m x hx⟩⟩)
  obtain ⟨pc, pr, pv, g, pb⟩ := r
  unfold rpC IsNm at *
  simp only at *
  generalize namB g = bn at *
  generalize namL g = nl at *
  have HB : Hid (Below w.heap.size w (w.alloc (.cells #[.int .i64 pc, .string pr, .int .i64 pv, .slice B g.length d, .string pb] 26))) := (Below.refl _ _).alloc (Nat.le_refl _) _
  have ZP : Hid ((w.alloc (.cells #[.int .i64 pc, .string pr, .int .i64 pv, .slice B g.length d, .string pb] 26)).heap[w.heap.size]? = some (.cells #[.int .i64 pc, .string pr, .int .i64 pv, .slice B g.length d, .string pb] 26 (0, 0))) := heap_alloc_new w _
  obtain ⟨q0, q1, q2, q3, q4⟩ := cel5r ZP.out
  clear h hL
  go_enter Tryz.func41, Tryz.ntmps41
  go_wp2_with fail
  refine (C1.out _ HB.out).mono ?_
  rintro e w1 ⟨A1, c1, rfl, _, _, hb⟩
  go_wp2_with fail
  go_ret
  exact ⟨rfl, below_then HB.out hb⟩

set_option maxHeartbeats 4000000 in
set_option maxRecDepth 100000 in
theorem mea_any (r : Rply) (B : Option Addr) (d : Nat) (x : Ctl) (w : World) (h : SlF w B r.f.length d r.f) (hL : FwL r.f) (HT : ReuTabs w) :
    Calls Tryz.prog 43 #[.agg (rpC r B d), .agg (ctC x)] w fun e w' => e = .returned (.bool (decide (0 ≤ x.sh) || (decide (0 ≤ x.ma) || (x.pu || (fdGot r.f exS || usuB r.c))))) ∧ Below w.heap.size w w' := by
  have C1 := Lib.hid (fun W g (hW : Below w.heap.size w W) (h' : SlS W (some ⟨g, 0, none⟩) 1 1 [exS.data.toList]) => given_any B d r.f g 1 _ W (h.below hW) hL h' (by decide) (by decide))
  have C2 := Lib.hid (fun W (hW : Below w.heap.size w W) => lifU_any r.c W (HT.kept hW).lif)
  simp only [List.any_cons, List.any_nil, Bool.or_false, mkS_self] at C1
  obtain ⟨pc, pr, pv, g, pb⟩ := r
  obtain ⟨ns, nc, pv', pu, mc, oi, ma, sh, mf⟩ := x
  unfold rpC ctC at *
  simp only at *
  generalize fdGot g exS = bx at *
  generalize usuB pc = bu at *
  have HB : Hid (Below w.heap.size w ((w.alloc (.cells #[.int .i64 pc, .string pr, .int .i64 pv, .slice B g.length d, .string pb] 26)).alloc (.cells #[.bool ns, .bool nc, .bool pv', .bool pu, .bool mc, .bool oi, .int .i64 ma, .int .i64 sh, .int .i64 mf] 44))) := ((Below.refl _ _).alloc (Nat.le_refl _) _).alloc (by simp) _
  have ZP : Hid (((w.alloc (.cells #[.int .i64 pc, .string pr, .int .i64 pv, .slice B g.length d, .string pb] 26)).alloc (.cells #[.bool ns, .bool nc, .bool pv', .bool pu, .bool mc, .bool oi, .int .i64 ma, .int .i64 sh, .int .i64 mf] 44)).heap[w.heap.size]? = some (.cells #[.int .i64 pc, .string pr, .int .i64 pv, .slice B g.length d, .string pb] 26 (0, 0))) := zero_more (heap_alloc_new w _)
  have zt := heap_alloc_new (w.alloc (.cells #[.int .i64 pc, .string pr, .int .i64 pv, .slice B g.length d, .string pb] 26)) (.cells #[.bool ns, .bool nc, .bool pv', .bool pu, .bool mc, .bool oi, .int .i64 ma, .int .i64 sh, .int .i64 mf] 44)
  rw [show (w.alloc (.cells #[.int .i64 pc, .string pr, .int .i64 pv, .slice B g.length d, .string pb] 26)).heap.size = w.heap.size + 1 by simp] at zt
  obtain ⟨q0, q1, q2, q3, q4⟩ := cel5r ZP.out
  obtain ⟨c0, c1, c2, c3, c4, c5, c6, c7, c8⟩ := cel9r zt
  have hs1 := SlS.text ((w.alloc (.cells #[.int .i64 pc, .string pr, .int .i64 pv, .slice B g.length d, .string pb] 26)).alloc (.cells #[.bool ns, .bool nc, .bool pv', .bool pu, .bool mc, .bool oi, .int .i64 ma, .int .i64 sh, .int .i64 mf] 44)) 9 exS
  rw [show ((w.alloc (.cells #[.int .i64 pc, .string pr, .int .i64 pv, .slice B g.length d, .string pb] 26)).alloc (.cells #[.bool ns, .bool nc, .bool pv', .bool pu, .bool mc, .bool oi, .int .i64 ma, .int .i64 sh, .int .i64 mf] 44)).heap.size = w.heap.size + 2 by simp] at hs1
  have HS := Lib.hid hs1
  have HB2 := Lib.hid (HB.out.alloc HB.out.size (.cells #[.string exS] 9))
  have ZP2 := Lib.hid (zero_more (o' := .cells #[.string exS] 9) ZP.out)
  unfold exS at HS HB2 ZP2 C1
  clear h hL HT zt hs1
  by_cases hs : (0 : Int) ≤ sh
  · rw [decide_eq_true hs]
    go_enter Tryz.func43, Tryz.ntmps43
    go_wp2_with fail
    go_ret
    exact ⟨rfl, HB.out⟩
  rw [decide_eq_false hs]
  by_cases hm : (0 : Int) ≤ ma
  · rw [decide_eq_true hm]
    go_enter Tryz.func43, Tryz.ntmps43
    go_wp2_with fail
    go_ret
    exact ⟨rfl, HB.out⟩
  rw [decide_eq_false hm]
  cases pu with
  | true =>
    go_enter Tryz.func43, Tryz.ntmps43
    go_wp2_with fail
    go_ret
    exact ⟨rfl, HB.out⟩
  | false =>
    go_enter Tryz.func43, Tryz.ntmps43
    go_wp2_with fail
    refine (C1.out _ _ HB2.out HS.out).mono ?_
    rintro e w1 ⟨rfl, hb⟩
    have ZP := Lib.hid (zero_still hb ZP2.out)
    have HB := Lib.hid (below_then HB2.out hb)
    clear hb q0 q1 q2 q3 q4 c0 c1 c2 c3 c4 c5 c6 c7 c8
    obtain ⟨q0, q1, q2, q3, q4⟩ := cel5r ZP.out
    cases bx with
    | true =>
      go_wp2_with fail
      go_ret
      exact ⟨rfl, HB.out⟩
    | false =>
      go_wp2_with fail
      refine (C2.out _ HB.out).mono ?_
      rintro e w2 ⟨rfl, hb⟩
      have HB := Lib.hid (below_then HB.out hb)
      clear hb
      go_wp2_with fail
      go_ret
      exact ⟨rfl, HB.out⟩

set_option maxHeartbeats 4000000 in
set_option maxRecDepth 100000 in
theorem sto1_any (r : Rqst) (A : Option Addr) (c gq : Nat) (w : World) (ZQ : w.heap[gq]? = some (.cells (rqC r A c) 24 (0, 0))) (h : SlF w A r.f.length c r.f) (hQ : FwL r.f) :
    Calls Tryz.prog 33 #[.pointer (some ⟨gq, 0, none⟩)] w fun e w' => e = .returned (.bool (r.m.toList == [71, 69, 84] && !pasB r.f)) ∧ Below w.heap.size w w' := by
  have C1 := Lib.hid (reuP_any r A c w h hQ)
  obtain ⟨m, t, v, f, b⟩ := r
  unfold rqC at *
  simp only at *
  generalize pasB f = bp at *
  obtain ⟨q0, q1, q2, q3, q4⟩ := cel5r ZQ
  clear h hQ ZQ
  rcases both_of (m.toList == [71, 69, 84]) with hm | hm
  · rw [hm]
    go_enter Tryz.func33, Tryz.ntmps33
    go_wp2_with fail
    refine C1.out.mono ?_
    rintro e w1 ⟨rfl, hb⟩
    go_wp2_with fail
    go_ret
    exact ⟨rfl, hb⟩
  · rw [hm]
    go_enter Tryz.func33, Tryz.ntmps33
    go_wp2_with fail
    go_ret
    exact ⟨rfl, Below.refl _ _⟩

set_option maxHeartbeats 4000000 in
set_option maxRecDepth 100000 in
theorem sto2_any (x : Ctl) (gc : Nat) (w : World) (ZC : w.heap[gc]? = some (.cells (ctC x) 44 (0, 0))) :
    Calls Tryz.prog 34 #[.pointer (some ⟨gc, 0, none⟩)] w fun e w' => e = .returned (.bool (!x.ns)) ∧ Below w.heap.size w w' := by
  obtain ⟨ns, nc, pv', pu, mc, oi, ma, sh, mf⟩ := x
  unfold ctC at *
  simp only at *
  obtain ⟨c0, c1, c2, c3, c4, c5, c6, c7, c8⟩ := cel9r ZC
  clear ZC
  cases ns
  all_goals
    go_enter Tryz.func34, Tryz.ntmps34
    go_wp2_with fail
    go_ret
    exact ⟨rfl, Below.refl _ _⟩

set_option maxHeartbeats 4000000 in
set_option maxRecDepth 100000 in
theorem sto3_any (x : Ctl) (gc : Nat) (w : World) (ZC : w.heap[gc]? = some (.cells (ctC x) 44 (0, 0))) :
    Calls Tryz.prog 35 #[.pointer (some ⟨gc, 0, none⟩)] w fun e w' => e = .returned (.bool (!x.ns && !x.pv)) ∧ Below w.heap.size w w' := by
  obtain ⟨ns, nc, pv', pu, mc, oi, ma, sh, mf⟩ := x
  unfold ctC at *
  simp only at *
  obtain ⟨c0, c1, c2, c3, c4, c5, c6, c7, c8⟩ := cel9r ZC
  clear ZC
  cases ns <;> cases pv'
  all_goals
    go_enter Tryz.func35, Tryz.ntmps35
    go_wp2_with fail
    go_ret
    exact ⟨rfl, Below.refl _ _⟩

set_option maxHeartbeats 4000000 in
set_option maxRecDepth 100000 in
theorem sto4_any (r : Rqst) (A : Option Addr) (c gq : Nat) (x : Ctl) (gc : Nat) (w : World) (ZQ : w.heap[gq]? = some (.cells (rqC r A c) 24 (0, 0))) (ZC : w.heap[gc]? = some (.cells (ctC x) 44 (0, 0))) (h : SlF w A r.f.length c r.f) (hQ : FwL r.f) :
    Calls Tryz.prog 36 #[.pointer (some ⟨gq, 0, none⟩), .pointer (some ⟨gc, 0, none⟩)] w fun e w' => e = .returned (.bool (!fdGot r.f auS || (x.pu || (x.mc || decide (0 ≤ x.sh))))) ∧ Below w.heap.size w w' := by
  have C1 := Lib.hid (fun W g (hW : Below w.heap.size w W) (h' : SlS W (some ⟨g, 0, none⟩) 1 1 [auS.data.toList]) => given_any A c r.f g 1 _ W (h.below hW) hQ h' (by decide) (by decide))
  simp only [List.any_cons, List.any_nil, Bool.or_false, mkS_self] at C1
  have C2 := Lib.hid (fun W => cmn_any x W)
  obtain ⟨m, t, v, f, b⟩ := r
  obtain ⟨ns, nc, pv', pu, mc, oi, ma, sh, mf⟩ := x
  unfold rqC ctC at *
  simp only at *
  generalize fdGot f auS = ba at *
  generalize (pu || (mc || decide (0 ≤ sh))) = R at *
  obtain ⟨q0, q1, q2, q3, q4⟩ := cel5r ZQ
  have HS := Lib.hid (SlS.text w 9 auS)
  have HB2 : Hid (Below w.heap.size w (w.alloc (.cells #[.string auS] 9))) := (Below.refl _ _).alloc (Nat.le_refl _) _
  have ZC2 := Lib.hid (zero_more (o' := .cells #[.string auS] 9) ZC)
  unfold auS at HS HB2 ZC2 C1
  clear h hQ ZQ ZC
  go_enter Tryz.func36, Tryz.ntmps36
  go_wp2_with fail
  refine (C1.out _ _ HB2.out HS.out).mono ?_
  rintro e w1 ⟨rfl, hb⟩
  have ZC := Lib.hid (zero_still hb ZC2.out)
  have HB := Lib.hid (below_then HB2.out hb)
  clear hb q0 q1 q2 q3 q4
  obtain ⟨c0, c1, c2, c3, c4, c5, c6, c7, c8⟩ := cel9r ZC.out
  cases ba with
  | false =>
    go_wp2_with fail
    go_ret
    exact ⟨rfl, HB.out⟩
  | true =>
    go_wp2_with fail
    refine (C2.out _).mono ?_
    rintro e w2 ⟨rfl, hb⟩
    go_wp2_with fail
    go_ret
    exact ⟨rfl, below_then HB.out hb⟩

set_option maxHeartbeats 4000000 in
set_option maxRecDepth 100000 in
theorem sto5_any (p : Rply) (B : Option Addr) (d gp : Nat) (w : World) (ZP : w.heap[gp]? = some (.cells (rpC p B d) 26 (0, 0))) :
    Calls Tryz.prog 39 #[.pointer (some ⟨gp, 0, none⟩)] w fun e w' => e = .returned (.bool (!(p.c == 206) && !(p.c == 304))) ∧ Below w.heap.size w w' := by
  obtain ⟨pc, pr, pv, g, pb⟩ := p
  unfold rpC at *
  simp only at *
  obtain ⟨p0, p1, p2, p3, p4⟩ := cel5r ZP
  clear ZP
  by_cases h1 : pc = 206
  · subst h1
    go_enter Tryz.func39, Tryz.ntmps39
    go_wp2_with fail
    go_ret
    exact ⟨rfl, Below.refl _ _⟩
  · rw [show (pc == 206) = false by simp [h1]]
    by_cases h2 : pc = 304
    · subst h2
      go_enter Tryz.func39, Tryz.ntmps39
      go_wp2_with fail
      go_ret
      exact ⟨rfl, Below.refl _ _⟩
    · rw [show (pc == 304) = false by simp [h2]]
      go_enter Tryz.func39, Tryz.ntmps39
      go_wp2_with fail
      go_ret
      exact ⟨by simp [h1, h2], Below.refl _ _⟩

set_option maxHeartbeats 4000000 in
set_option maxRecDepth 100000 in
theorem sto6_any (p : Rply) (B : Option Addr) (d gp : Nat) (w : World) (ZP : w.heap[gp]? = some (.cells (rpC p B d) 26 (0, 0))) (h : SlF w B p.f.length d p.f) (hL : FwL p.f) :
    Calls Tryz.prog 40 #[.pointer (some ⟨gp, 0, none⟩)] w fun e w' => e = .returned (.bool (namB p.f)) ∧ Below w.heap.size w w' := by
  have C1 := Lib.hid (rnm_any p B d w h hL)
  generalize namB p.f = R at *
  obtain ⟨pc, pr, pv, g, pb⟩ := p
  unfold rpC at *
  simp only at *
  obtain ⟨p0, p1, p2, p3, p4⟩ := cel5r ZP
  clear ZP h hL
  go_enter Tryz.func40, Tryz.ntmps40
  go_wp2_with fail
  refine C1.out.mono ?_
  rintro e w1 ⟨rfl, hb⟩
  go_wp2_with fail
  go_ret
  exact ⟨rfl, hb⟩

set_option maxHeartbeats 4000000 in
set_option maxRecDepth 100000 in
theorem sto7_any (p : Rply) (B : Option Addr) (d gp : Nat) (x : Ctl) (gc : Nat) (w : World) (ZP : w.heap[gp]? = some (.cells (rpC p B d) 26 (0, 0))) (ZC : w.heap[gc]? = some (.cells (ctC x) 44 (0, 0))) (h : SlF w B p.f.length d p.f) (hL : FwL p.f) (HT : ReuTabs w) :
    Calls Tryz.prog 42 #[.pointer (some ⟨gp, 0, none⟩), .pointer (some ⟨gc, 0, none⟩)] w fun e w' => e = .returned (.bool (decide (0 ≤ x.sh) || (decide (0 ≤ x.ma) || (x.pu || (fdGot p.f exS || usuB p.c))))) ∧ Below w.heap.size w w' := by
  have C1 := Lib.hid (mea_any p B d x w h hL HT)
  generalize (decide (0 ≤ x.sh) || (decide (0 ≤ x.ma) || (x.pu || (fdGot p.f exS || usuB p.c)))) = R at *
  obtain ⟨pc, pr, pv, g, pb⟩ := p
  obtain ⟨ns, nc, pv', pu, mc, oi, ma, sh, mf⟩ := x
  unfold rpC ctC at *
  simp only at *
  obtain ⟨p0, p1, p2, p3, p4⟩ := cel5r ZP
  obtain ⟨c0, c1, c2, c3, c4, c5, c6, c7, c8⟩ := cel9r ZC
  clear ZP ZC h hL HT
  go_enter Tryz.func42, Tryz.ntmps42
  go_wp2_with fail
  refine C1.out.mono ?_
  rintro e w1 ⟨rfl, hb⟩
  go_wp2_with fail
  go_ret
  exact ⟨rfl, hb⟩

set_option maxHeartbeats 4000000 in
set_option maxRecDepth 100000 in
theorem sto8_any (p : Rply) (B : Option Addr) (d gp : Nat) (now : Int) (gn : Nat) (w : World) (ZP : w.heap[gp]? = some (.cells (rpC p B d) 26 (0, 0))) (ZN : w.heap[gn]? = some (.cells #[.int .i64 now] 3 (0, 0))) (h : SlF w B p.f.length d p.f) (hL : FwL p.f) (HT : ReuTabs w) :
    Calls Tryz.prog 44 #[.pointer (some ⟨gp, 0, none⟩), .pointer (some ⟨gn, 0, none⟩)] w fun e w' => e = .returned (.bool (valB p.f || frsB p.f p.c now now)) ∧ Below w.heap.size w w' := by
  have C1 := Lib.hid (reuV_any p B d w h hL HT)
  have C2 := Lib.hid (fun W (hW : Below w.heap.size w W) => lifF_any ⟨p.c, p.r, p.v, p.f, p.b, now⟩ B d none 0 0 now W (h.below hW) hL (HT.kept hW).lif)
  generalize valB p.f = bv at *
  obtain ⟨pc, pr, pv, g, pb⟩ := p
  unfold rpC stC at *
  simp only at *
  generalize frsB g pc now now = bf at *
  obtain ⟨p0, p1, p2, p3, p4⟩ := cel5r ZP
  have ZPh := Lib.hid ZP
  have ZNh := Lib.hid ZN
  clear ZP ZN h hL HT
  go_enter Tryz.func44, Tryz.ntmps44
  go_wp2_with fail
  refine C1.out.mono ?_
  rintro e w1 ⟨rfl, hb⟩
  have ZPh := Lib.hid (zero_still hb ZPh.out)
  have n0 := zero_one (zero_still hb ZNh.out)
  have HB := Lib.hid hb
  clear hb p0 p1 p2 p3 p4
  obtain ⟨p0, p1, p2, p3, p4⟩ := cel5r ZPh.out
  cases bv with
  | true =>
    go_wp2_with fail
    go_ret
    exact ⟨rfl, HB.out⟩
  | false =>
    go_wp2_with fail
    refine (C2.out _ HB.out).mono ?_
    rintro e w2 ⟨rfl, hb⟩
    go_wp2_with fail
    go_ret
    exact ⟨rfl, below_then HB.out hb⟩

set_option maxHeartbeats 4000000 in
set_option maxRecDepth 100000 in
theorem ver1_any (s : Stor) (B : Option Addr) (d : Nat) (D : Option Addr) (n k gs : Nat) (now : Int) (gn : Nat) (w : World) (ZS : w.heap[gs]? = some (.cells (stC s B d D n k) 40 (0, 0))) (ZN : w.heap[gn]? = some (.cells #[.int .i64 now] 3 (0, 0))) (h : SlF w B s.f.length d s.f) (hL : FwL s.f) (HT : ReuTabs w) :
    Calls Tryz.prog 55 #[.pointer (some ⟨gs, 0, none⟩), .pointer (some ⟨gn, 0, none⟩)] w fun e w' => e = .returned (.bool (frsB s.f s.c s.t now)) ∧ Below w.heap.size w w' := by
  have C1 := Lib.hid (lifF_any s B d D n k now w h hL HT.lif)
  generalize frsB s.f s.c s.t now = R at *
  obtain ⟨pc, pr, pv, g, pb, st⟩ := s
  unfold stC at *
  simp only at *
  obtain ⟨p0, p1, p2, p3, p4, p5, p6⟩ := cel7 ZS
  have n0 := zero_one ZN
  clear ZS ZN h hL HT
  go_enter Tryz.func55, Tryz.ntmps55
  go_wp2_with fail
  refine C1.out.mono ?_
  rintro e w1 ⟨rfl, hb⟩
  go_wp2_with fail
  go_ret
  exact ⟨rfl, hb⟩

set_option maxHeartbeats 4000000 in
set_option maxRecDepth 100000 in
theorem ver2_any (x : Ctl) (gc : Nat) (w : World) (ZC : w.heap[gc]? = some (.cells (ctC x) 44 (0, 0))) :
    Calls Tryz.prog 56 #[.pointer (some ⟨gc, 0, none⟩)] w fun e w' => e = .returned (.bool (!x.nc)) ∧ Below w.heap.size w w' := by
  obtain ⟨ns, nc, pv', pu, mc, oi, ma, sh, mf⟩ := x
  unfold ctC at *
  simp only at *
  obtain ⟨c0, c1, c2, c3, c4, c5, c6, c7, c8⟩ := cel9r ZC
  clear ZC
  cases nc
  all_goals
    go_enter Tryz.func56, Tryz.ntmps56
    go_wp2_with fail
    go_ret
    exact ⟨rfl, Below.refl _ _⟩

set_option maxHeartbeats 4000000 in
set_option maxRecDepth 100000 in
theorem ver3_any (x : Ctl) (gc : Nat) (w : World) (ZC : w.heap[gc]? = some (.cells (ctC x) 44 (0, 0))) :
    Calls Tryz.prog 57 #[.pointer (some ⟨gc, 0, none⟩)] w fun e w' => e = .returned (.bool (!x.nc)) ∧ Below w.heap.size w w' := by
  obtain ⟨ns, nc, pv', pu, mc, oi, ma, sh, mf⟩ := x
  unfold ctC at *
  simp only at *
  obtain ⟨c0, c1, c2, c3, c4, c5, c6, c7, c8⟩ := cel9r ZC
  clear ZC
  cases nc
  all_goals
    go_enter Tryz.func57, Tryz.ntmps57
    go_wp2_with fail
    go_ret
    exact ⟨rfl, Below.refl _ _⟩

set_option maxHeartbeats 4000000 in
set_option maxRecDepth 100000 in
theorem ver4_any (s : Stor) (B : Option Addr) (d : Nat) (D : Option Addr) (n k gs : Nat) (now : Int) (gn : Nat) (x : Ctl) (gc : Nat) (w : World) (ZS : w.heap[gs]? = some (.cells (stC s B d D n k) 40 (0, 0))) (ZN : w.heap[gn]? = some (.cells #[.int .i64 now] 3 (0, 0))) (ZC : w.heap[gc]? = some (.cells (ctC x) 44 (0, 0))) (h : SlF w B s.f.length d s.f) (hL : FwL s.f) (HT : ReuTabs w) :
    Calls Tryz.prog 58 #[.pointer (some ⟨gc, 0, none⟩), .pointer (some ⟨gs, 0, none⟩), .pointer (some ⟨gn, 0, none⟩)] w fun e w' => e = .returned (.bool (decide (x.ma < 0) || decide (ageN s.f s.t now ≤ x.ma))) ∧ Below w.heap.size w w' := by
  have C1 := Lib.hid (fun W (hW : Below w.heap.size w W) => lifA_any s B d D n k now W (h.below hW) hL (HT.kept hW).lif)
  generalize ageN s.f s.t now = ag at *
  obtain ⟨pc, pr, pv, g, pb, st⟩ := s
  obtain ⟨ns, nc, pv', pu, mc, oi, ma, sh, mf⟩ := x
  unfold stC ctC at *
  simp only at *
  obtain ⟨p0, p1, p2, p3, p4, p5, p6⟩ := cel7 ZS
  obtain ⟨c0, c1, c2, c3, c4, c5, c6, c7, c8⟩ := cel9r ZC
  have n0 := zero_one ZN
  have KS : Hid (∀ W, Below w.heap.size w W → W.cell? ⟨gc, 6, none⟩ = some (.int .i64 ma) ∧ W.cell? ⟨gs, 0, none⟩ = some (.int .i64 pc) ∧ W.cell? ⟨gs, 1, none⟩ = some (.string pr) ∧ W.cell? ⟨gs, 2, none⟩ = some (.int .i64 pv) ∧ W.cell? ⟨gs, 3, none⟩ = some (.slice B g.length d) ∧ W.cell? ⟨gs, 4, none⟩ = some (.string pb) ∧ W.cell? ⟨gs, 5, none⟩ = some (.int .i64 st) ∧ W.cell? ⟨gs, 6, none⟩ = some (.slice D n k) ∧ W.cell? ⟨gn, 0, none⟩ = some (.int .i64 now)) := fun W hW => ⟨cell_kept hW c6, cell_kept hW p0, cell_kept hW p1, cell_kept hW p2, cell_kept hW p3, cell_kept hW p4, cell_kept hW p5, cell_kept hW p6, cell_kept hW n0⟩
  have HB : Hid (Below w.heap.size w w.drew) := (Below.refl _ _).drew
  clear ZS ZN ZC h hL HT
  by_cases hm : ma < 0
  · rw [decide_eq_true hm]
    clear KS C1
    go_enter Tryz.func58, Tryz.ntmps58
    go_wp2_with fail
    go_quiet (fail)
    go_wp2_with fail
    go_ret
    exact ⟨rfl, below_drawn (Below.refl _ _) _⟩
  · have hm' : decide (ma < 0) = false := decide_eq_false hm
    rw [hm']
    clear c0 c1 c2 c3 c4 c5 c6 c7 c8 p0 p1 p2 p3 p4 p5 p6 n0
    go_enter Tryz.func58, Tryz.ntmps58
    go_wp2_with fail
    go_region_held3 (fun W => W.cell? ⟨gc, 6, none⟩ = some (.int .i64 ma) ∧ W.cell? ⟨gs, 0, none⟩ = some (.int .i64 pc) ∧ W.cell? ⟨gs, 1, none⟩ = some (.string pr) ∧ W.cell? ⟨gs, 2, none⟩ = some (.int .i64 pv) ∧ W.cell? ⟨gs, 3, none⟩ = some (.slice B g.length d) ∧ W.cell? ⟨gs, 4, none⟩ = some (.string pb) ∧ W.cell? ⟨gs, 5, none⟩ = some (.int .i64 st) ∧ W.cell? ⟨gs, 6, none⟩ = some (.slice D n k) ∧ W.cell? ⟨gn, 0, none⟩ = some (.int .i64 now)) (exact KS.out _ HB.out) ((go_at_call 25; refine (C1.out _ HB.out).mono ?_; rintro e w1 ⟨rfl, hb⟩; have HB := Lib.hid (below_then HB.out hb); clear hb))
    go_wp2_with fail
    go_ret
    exact ⟨rfl, HB.out⟩

set_option maxHeartbeats 4000000 in
set_option maxRecDepth 100000 in
theorem ver5_any (s : Stor) (B : Option Addr) (d : Nat) (D : Option Addr) (n k gs : Nat) (now : Int) (gn : Nat) (x : Ctl) (gc : Nat) (w : World) (ZS : w.heap[gs]? = some (.cells (stC s B d D n k) 40 (0, 0))) (ZN : w.heap[gn]? = some (.cells #[.int .i64 now] 3 (0, 0))) (ZC : w.heap[gc]? = some (.cells (ctC x) 44 (0, 0))) (h : SlF w B s.f.length d s.f) (hL : FwL s.f) (HT : ReuTabs w) :
    Calls Tryz.prog 59 #[.pointer (some ⟨gc, 0, none⟩), .pointer (some ⟨gs, 0, none⟩), .pointer (some ⟨gn, 0, none⟩)] w fun e w' => e = .returned (.bool (decide (x.mf ≤ lefN s.f s.c s.t now))) ∧ Below w.heap.size w w' := by
  have C1 := Lib.hid (fun W (hW : Below w.heap.size w W) => lifE_any s B d D n k now W (h.below hW) hL (HT.kept hW).lif)
  generalize lefN s.f s.c s.t now = lf at *
  obtain ⟨pc, pr, pv, g, pb, st⟩ := s
  obtain ⟨ns, nc, pv', pu, mc, oi, ma, sh, mf⟩ := x
  unfold stC ctC at *
  simp only at *
  obtain ⟨p0, p1, p2, p3, p4, p5, p6⟩ := cel7 ZS
  obtain ⟨c0, c1, c2, c3, c4, c5, c6, c7, c8⟩ := cel9r ZC
  have n0 := zero_one ZN
  have KS : Hid (∀ W, Below w.heap.size w W → W.cell? ⟨gc, 8, none⟩ = some (.int .i64 mf) ∧ W.cell? ⟨gs, 0, none⟩ = some (.int .i64 pc) ∧ W.cell? ⟨gs, 1, none⟩ = some (.string pr) ∧ W.cell? ⟨gs, 2, none⟩ = some (.int .i64 pv) ∧ W.cell? ⟨gs, 3, none⟩ = some (.slice B g.length d) ∧ W.cell? ⟨gs, 4, none⟩ = some (.string pb) ∧ W.cell? ⟨gs, 5, none⟩ = some (.int .i64 st) ∧ W.cell? ⟨gs, 6, none⟩ = some (.slice D n k) ∧ W.cell? ⟨gn, 0, none⟩ = some (.int .i64 now)) := fun W hW => ⟨cell_kept hW c8, cell_kept hW p0, cell_kept hW p1, cell_kept hW p2, cell_kept hW p3, cell_kept hW p4, cell_kept hW p5, cell_kept hW p6, cell_kept hW n0⟩
  have HB : Hid (Below w.heap.size w w.drew) := (Below.refl _ _).drew
  clear ZS ZN ZC h hL HT
  clear c0 c1 c2 c3 c4 c5 c6 c7 c8 p0 p1 p2 p3 p4 p5 p6 n0
  go_enter Tryz.func59, Tryz.ntmps59
  go_wp2_with fail
  go_region_held3 (fun W => W.cell? ⟨gc, 8, none⟩ = some (.int .i64 mf) ∧ W.cell? ⟨gs, 0, none⟩ = some (.int .i64 pc) ∧ W.cell? ⟨gs, 1, none⟩ = some (.string pr) ∧ W.cell? ⟨gs, 2, none⟩ = some (.int .i64 pv) ∧ W.cell? ⟨gs, 3, none⟩ = some (.slice B g.length d) ∧ W.cell? ⟨gs, 4, none⟩ = some (.string pb) ∧ W.cell? ⟨gs, 5, none⟩ = some (.int .i64 st) ∧ W.cell? ⟨gs, 6, none⟩ = some (.slice D n k) ∧ W.cell? ⟨gn, 0, none⟩ = some (.int .i64 now)) (exact KS.out _ HB.out) ((go_at_call 26; refine (C1.out _ HB.out).mono ?_; rintro e w1 ⟨rfl, hb⟩; have HB := Lib.hid (below_then HB.out hb); clear hb))
  go_wp2_with fail
  go_ret
  exact ⟨rfl, HB.out⟩

end Go.Proofs.YtnembpklidcgoaaGreatDoor
end

/-
  Package reuse: what the conditions say together.
-/
section
namespace Go.Proofs.YtnembpklidcgoaaGreatDoor
open Go.RowKit
set_option linter.unusedSimpArgs false

def stoL (m : ByteArray) (Q L : List Fd) (code now : Int) : List Bool :=
  [m.toList == [71, 69, 84] && !pasB Q, !(ctA Q).ns, !(ctP L).ns && !(ctP L).pv, !fdGot Q auS || ((ctP L).pu || ((ctP L).mc || decide (0 ≤ (ctP L).sh))), !(code == 206) && !(code == 304), namB L,
    decide (0 ≤ (ctP L).sh) || (decide (0 ≤ (ctP L).ma) || ((ctP L).pu || (fdGot L exS || usuB code))), valB L || frsB L code now now]
theorem sto_all (m : ByteArray) (Q L : List Fd) (code now : Int) : (stoL m Q L code now).all id = stoB m Q L code now := by
  unfold stoL stoB rstQ stP stA stU
  simp only [List.all_cons, List.all_nil, id, Bool.and_true]
  ac_rfl
def verL (Q L : List Fd) (code t now : Int) : List Bool :=
  [frsB L code t now, !(ctP L).nc, !(ctA Q).nc, decide ((ctA Q).ma < 0) || decide (ageN L t now ≤ (ctA Q).ma), decide ((ctA Q).mf ≤ lefN L code t now)]
theorem ver_all (Q L : List Fd) (code t now : Int) : verN Q L code t now = if (verL Q L code t now).all id = true then 1 else 2 := by
  have h1 := ver_iff Q L code t now
  have h2 := ver_two Q L code t now
  have h3 : (verL Q L code t now).all id = true ↔ VerOk Q L code t now := by
    have h4 := lef_eq L code t now (age_bd L t now)
    unfold verL VerOk frsB
    generalize lefN L code t now = lf at *
    generalize ageN L t now = ag at *
    generalize lifN L code t = li at *
    generalize (ctA Q).ma = ma
    generalize (ctA Q).mf = mf
    simp only [List.all_cons, List.all_nil, id, Bool.and_true, Bool.and_eq_true, decide_eq_true_eq, Bool.not_eq_true', Bool.or_eq_true]
    constructor
    · rintro ⟨a1, a2, a3, a4, a5⟩
      rw [if_pos a1] at h4
      exact ⟨by omega, a3, a2, a4, .inr a5⟩
    · rintro ⟨a1, a2, a3, a4, a5⟩
      by_cases h5 : ag < li
      · rw [if_pos h5] at h4
        exact ⟨h5, a3, a2, a4, by omega⟩
      · rw [if_neg h5] at h4
        exact absurd h4 a1
  by_cases h : (verL Q L code t now).all id = true
  · rw [if_pos h]; exact h1.2 (h3.1 h)
  · rw [if_neg h]
    rcases h2 with e | e
    · exact absurd (h3.2 (h1.1 e)) h
    · exact e
theorem cnd_of {w : World} {g : Nat} {caps : Array Value} {b : Bool} {fn : Func} {c : Code} (hf : Tryz.prog.funcs[g]? = some fn) (hn : (fn.name == "runtime.NumGoroutine") = false) (hb : fn.body = some c)
    (h : ∀ W, Below w.heap.size w W → Calls Tryz.prog g caps W fun e w' => e = .returned (.bool b) ∧ Below W.heap.size W w') : Cnd w (.func (.func g) #[] caps) b :=
  ⟨g, caps, rfl, Go.Proofs.enters_of hf hn hb, fun W hW => by
    exact (h W hW).mono fun e w' ⟨h1, h2⟩ => ⟨h1, below_then hW h2⟩⟩

end Go.Proofs.YtnembpklidcgoaaGreatDoor
end
