/-
  Texts that the laws of this seat lean on, one behind the other.
-/
import Derived.Test.YtnembpklidcgoaaGreatDoorMrhAW
set_option linter.unusedSimpArgs false
set_option linter.unusedVariables false
/-
  Package reuse: contract of Storable.
-/
section
namespace Go.Proofs.YtnembpklidcgoaaGreatDoor
open Go.RowKit
set_option linter.unusedSimpArgs false

set_option maxHeartbeats 16000000 in
set_option maxRecDepth 100000 in
theorem reuS_any (r : Rqst) (A : Option Addr) (c : Nat) (p : Rply) (B : Option Addr) (d : Nat) (now : Int) (w : World) (h : SlF w A r.f.length c r.f) (hQ : FwL r.f) (h' : SlF w B p.f.length d p.f) (hL : FwL p.f) (HT : ReuTabs w) :
    Calls Tryz.prog 12 #[.agg (rqC r A c), .agg (rpC p B d), .int .i64 now] w fun e w' => e = .returned (.bool (stoB r.m r.f p.f p.c now)) ∧ Below w.heap.size w w' := by
  obtain ⟨m, t, v, f, b⟩ := r
  obtain ⟨pc, pr, pv, g, pb⟩ := p
  simp only at h h' hQ hL
  have C1 := Lib.hid (fun W (hW : Below w.heap.size w W) => ctlA_any A f.length c f W (h.below hW) hQ.n hQ.v (fwl_bd hQ))
  have C2 := Lib.hid (fun W (hW : Below w.heap.size w W) => ctlP_any B g.length d g W (h'.below hW) hL.n hL.v (fwl_bd hL))
  have HQF := Lib.hid (fun W (hW : Below w.heap.size w W) => h.below hW)
  have HPF := Lib.hid (fun W (hW : Below w.heap.size w W) => h'.below hW)
  have HLS := Lib.hid (And.intro hQ (And.intro hL HT))
  have hs := sto_all m f g pc now
  unfold stoL at hs
  obtain ⟨LB, hLB⟩ : ∃ L : List Bool, L = [m.toList == [71, 69, 84] && !pasB f, !(ctA f).ns, !(ctP g).ns && !(ctP g).pv, !fdGot f auS || ((ctP g).pu || ((ctP g).mc || decide (0 ≤ (ctP g).sh))), !(pc == 206) && !(pc == 304), namB g,
    decide (0 ≤ (ctP g).sh) || (decide (0 ≤ (ctP g).ma) || ((ctP g).pu || (fdGot g exS || usuB pc))), valB g || frsB g pc now now] := ⟨_, rfl⟩
  rw [← hLB] at hs
  have HEQ := Lib.hid (And.intro hLB hs)
  clear hLB hs
  unfold rqC rpC at *
  simp only at *
  obtain ⟨ca, hca⟩ : ∃ x, x = ctA f := ⟨_, rfl⟩
  obtain ⟨cp, hcp⟩ : ∃ x, x = ctP g := ⟨_, rfl⟩
  rw [← hca] at C1 HEQ
  rw [← hcp] at C2 HEQ
  clear hca hcp
  obtain ⟨ans, anc, apv, apu, amc, aoi, ama, ash, amf⟩ := ca
  obtain ⟨ns, nc, pv', pu, mc, oi, ma, sh, mf⟩ := cp
  unfold ctC at C1 C2
  simp only at C1 C2
  have HB : Hid (Below w.heap.size w (((w.alloc (.cells #[.string m, .string t, .int .i64 v, .slice A f.length c, .string b] 24)).alloc (.cells #[.int .i64 pc, .string pr, .int .i64 pv, .slice B g.length d, .string pb] 26)).alloc (.cells #[.int .i64 now] 3))) := (((Below.refl _ _).alloc (Nat.le_refl _) _).alloc (by simp) _).alloc (by simp; omega) _
  have ZQ : Hid ((((w.alloc (.cells #[.string m, .string t, .int .i64 v, .slice A f.length c, .string b] 24)).alloc (.cells #[.int .i64 pc, .string pr, .int .i64 pv, .slice B g.length d, .string pb] 26)).alloc (.cells #[.int .i64 now] 3)).heap[w.heap.size]? = some (.cells #[.string m, .string t, .int .i64 v, .slice A f.length c, .string b] 24 (0, 0))) := zero_more (zero_more (heap_alloc_new w _))
  have zt := zero_more (o' := .cells #[.int .i64 now] 3) (heap_alloc_new (w.alloc (.cells #[.string m, .string t, .int .i64 v, .slice A f.length c, .string b] 24)) (.cells #[.int .i64 pc, .string pr, .int .i64 pv, .slice B g.length d, .string pb] 26))
  rw [show (w.alloc (.cells #[.string m, .string t, .int .i64 v, .slice A f.length c, .string b] 24)).heap.size = w.heap.size + 1 by simp] at zt
  have ZP := Lib.hid zt
  have zn := heap_alloc_new ((w.alloc (.cells #[.string m, .string t, .int .i64 v, .slice A f.length c, .string b] 24)).alloc (.cells #[.int .i64 pc, .string pr, .int .i64 pv, .slice B g.length d, .string pb] 26)) (.cells #[.int .i64 now] 3)
  rw [show ((w.alloc (.cells #[.string m, .string t, .int .i64 v, .slice A f.length c, .string b] 24)).alloc (.cells #[.int .i64 pc, .string pr, .int .i64 pv, .slice B g.length d, .string pb] 26)).heap.size = w.heap.size + 2 by simp] at zn
  have ZN := Lib.hid zn
  clear zt zn h h' hQ hL HT
  obtain ⟨W0, hW0⟩ : ∃ W, W = (((w.alloc (.cells #[.string m, .string t, .int .i64 v, .slice A f.length c, .string b] 24)).alloc (.cells #[.int .i64 pc, .string pr, .int .i64 pv, .slice B g.length d, .string pb] 26)).alloc (.cells #[.int .i64 now] 3)) := ⟨_, rfl⟩
  have hmf : ∀ (fn : Fn) (first cap : Array Value) (w : World), (Instr.makeFunc fn first cap).run Tryz.prog w = .ok (.func fn first cap) w := fun _ _ _ _ => rfl
  go_enter Tryz.func12, Tryz.ntmps12
  go_upto_region 1 with fail
  rw [← hW0] at HB ZQ ZP ZN ⊢
  clear hW0
  go_cut [7, 8] (fun x y wx => ∃ R1 R2, x = .pointer (some ⟨R1, 0, none⟩) ∧ y = .pointer (some ⟨R2, 0, none⟩) ∧ Hid (wx.heap[R1]? = some (.cells #[.bool ans, .bool anc, .bool apv, .bool apu, .bool amc, .bool aoi, .int .i64 ama, .int .i64 ash, .int .i64 amf] 44 (0, 0)) ∧ wx.heap[R2]? = some (.cells #[.bool ns, .bool nc, .bool pv', .bool pu, .bool mc, .bool oi, .int .i64 ma, .int .i64 sh, .int .i64 mf] 44 (0, 0)) ∧ wx.heap[w.heap.size]? = some (.cells #[.string m, .string t, .int .i64 v, .slice A f.length c, .string b] 24 (0, 0)) ∧ wx.heap[w.heap.size + 1]? = some (.cells #[.int .i64 pc, .string pr, .int .i64 pv, .slice B g.length d, .string pb] 26 (0, 0)) ∧ wx.heap[w.heap.size + 2]? = some (.cells #[.int .i64 now] 3 (0, 0)) ∧ Below w.heap.size w wx))
  case first =>
    clear HEQ HQF HPF HLS
    go_wp2_with fail
    obtain ⟨u1, hu1⟩ : ∃ W, W0.drew = W := ⟨_, rfl⟩
    replace ZQ : Hid (u1.heap[w.heap.size]? = some (.cells #[.string m, .string t, .int .i64 v, .slice A f.length c, .string b] 24 (0, 0))) := (by show _ = _; rw [← hu1]; exact ZQ.out)
    replace ZP : Hid (u1.heap[w.heap.size + 1]? = some (.cells #[.int .i64 pc, .string pr, .int .i64 pv, .slice B g.length d, .string pb] 26 (0, 0))) := (by show _ = _; rw [← hu1]; exact ZP.out)
    replace ZN : Hid (u1.heap[w.heap.size + 2]? = some (.cells #[.int .i64 now] 3 (0, 0))) := (by show _ = _; rw [← hu1]; exact ZN.out)
    replace HB : Hid (Below w.heap.size w u1) := (by show Below _ _ _; rw [← hu1]; exact HB.out.drew)
    refine wp_region_held_drew (S := fun W => W.cell? ⟨w.heap.size, 3, none⟩ = some (.slice A f.length c) ∧ W.cell? ⟨w.heap.size + 1, 3, none⟩ = some (.slice B g.length d)) (by kernel_rfl) (by rw [hu1]; exact ⟨(cel5r ZQ.out).2.2.2.1, (cel5r ZP.out).2.2.2.1⟩) (fun hHeld => ?_)
    rw [hu1] at hHeld ⊢
    clear hu1
    refine takeY (i := 0) (v := ?_) rfl rfl (by kernel_rfl) (by kernel_rfl) (by kernel_rfl) (by rfl) (fun _ _ _ h => h) ?y1 (by assumption) ?r1
    case y1 => (intro w hSw; (try dsimp only at hSw); go_simp; try with_reducible rfl)
    try simp only [Act.put, List.setIfInBounds_toArray, List.set_cons_zero, List.set_cons_succ]
    refine takeY (i := 1) (v := ?_) rfl rfl (by kernel_rfl) (by kernel_rfl) (by kernel_rfl) (by rfl) (fun _ _ _ h => h) ?y2 (by assumption) ?r2
    case y2 => (intro w hSw; (try dsimp only at hSw); go_simp; try with_reducible rfl)
    try simp only [Act.put, List.setIfInBounds_toArray, List.set_cons_zero, List.set_cons_succ]
    refine takeY (i := 3) (v := ?_) rfl rfl (by kernel_rfl) (by kernel_rfl) (by kernel_rfl) (by rfl) (fun _ _ _ h => h) ?y3 (by assumption) ?r3
    case y3 => (intro w hSw; (try dsimp only at hSw); go_simp; try with_reducible rfl)
    try simp only [Act.put, List.setIfInBounds_toArray, List.set_cons_zero, List.set_cons_succ]
    refine takeY (i := 4) (v := ?_) rfl rfl (by kernel_rfl) (by kernel_rfl) (by kernel_rfl) (by rfl) (fun _ _ _ h => h) ?y4 (by assumption) ?r4
    case y4 => (intro w hSw; (try dsimp only at hSw); go_simp; try with_reducible rfl)
    try simp only [Act.put, List.setIfInBounds_toArray, List.set_cons_zero, List.set_cons_succ]
    refine wpAnyH_ready (rs := [2, 6, 7]) (by kernel_rfl) (by simp) (AllReadyH.cons rfl (fun K hK => ?_) (AllReadyH.cons rfl (fun K hK => ?_) (AllReadyH.cons rfl (fun K hK => ?_) AllReadyH.nil)))
    · go_simp
      go_at_call 22
      refine (C1.out _ HB.out).mono ?_
      rintro e u2 ⟨rfl, hb⟩
      replace ZQ := Lib.hid (zero_still hb ZQ.out)
      replace ZP := Lib.hid (zero_still hb ZP.out)
      replace ZN := Lib.hid (zero_still hb ZN.out)
      replace HB := Lib.hid (below_then HB.out hb)
      clear hb
      try go_wp2_with fail
      refine hK.out _ _ (⟨(cel5r ZQ.out).2.2.2.1, (cel5r ZP.out).2.2.2.1⟩) (fun hHeld => ?_)
      clear hK
      try simp only [Act.put, List.setIfInBounds_toArray, List.set_cons_zero, List.set_cons_succ]
      refine wpAnyH_ready (rs := [5, 6, 7]) (by kernel_rfl) (by simp) (AllReadyH.cons rfl (fun K hK => ?_) (AllReadyH.cons rfl (fun K hK => ?_) (AllReadyH.cons rfl (fun K hK => ?_) AllReadyH.nil)))
      · go_simp
        go_at_call 23
        refine (C2.out _ HB.out).mono ?_
        rintro e u3 ⟨rfl, hb⟩
        replace ZQ := Lib.hid (zero_still hb ZQ.out)
        replace ZP := Lib.hid (zero_still hb ZP.out)
        replace ZN := Lib.hid (zero_still hb ZN.out)
        replace HB := Lib.hid (below_then HB.out hb)
        clear hb
        try go_wp2_with fail
        refine hK.out _ _ (⟨(cel5r ZQ.out).2.2.2.1, (cel5r ZP.out).2.2.2.1⟩) (fun hHeld => ?_)
        clear hK
        try simp only [Act.put, List.setIfInBounds_toArray, List.set_cons_zero, List.set_cons_succ]
        refine wpAnyH_ready (rs := [6, 7]) (by kernel_rfl) (by simp) (AllReadyH.cons rfl (fun K hK => ?_) (AllReadyH.cons rfl (fun K hK => ?_) AllReadyH.nil))
        · go_simp
          obtain ⟨u4, hu4⟩ : ∃ W, u3.alloc (.cells #[.bool false, .bool false, .bool false, .bool false, .bool false, .bool false, .int .i64 0, .int .i64 0, .int .i64 0] 44) = W := ⟨_, rfl⟩
          obtain ⟨ga, hga⟩ : ∃ g, u3.heap.size = g := ⟨_, rfl⟩
          rw [hu4, hga]
          have nZQga : w.heap.size < ga := (by rw [← hga]; exact (Array.getElem?_eq_some_iff.1 ZQ.out).1)
          have nZPga : w.heap.size + 1 < ga := (by rw [← hga]; exact (Array.getElem?_eq_some_iff.1 ZP.out).1)
          have nZNga : w.heap.size + 2 < ga := (by rw [← hga]; exact (Array.getElem?_eq_some_iff.1 ZN.out).1)
          replace ZQ : Hid (u4.heap[w.heap.size]? = some (.cells #[.string m, .string t, .int .i64 v, .slice A f.length c, .string b] 24 (0, 0))) := (by show _ = _; rw [← hu4]; exact zero_more ZQ.out)
          replace ZP : Hid (u4.heap[w.heap.size + 1]? = some (.cells #[.int .i64 pc, .string pr, .int .i64 pv, .slice B g.length d, .string pb] 26 (0, 0))) := (by show _ = _; rw [← hu4]; exact zero_more ZP.out)
          replace ZN : Hid (u4.heap[w.heap.size + 2]? = some (.cells #[.int .i64 now] 3 (0, 0))) := (by show _ = _; rw [← hu4]; exact zero_more ZN.out)
          have Tga : Hid (u4.heap[ga]? = some (.cells #[.bool false, .bool false, .bool false, .bool false, .bool false, .bool false, .int .i64 0, .int .i64 0, .int .i64 0] 44 (0, 0))) := (by show _ = _; rw [← hu4, ← hga]; exact heap_alloc_new u3 _)
          have nbga : w.heap.size ≤ ga := (by rw [← hga]; exact HB.out.size)
          replace HB : Hid (Below w.heap.size w u4) := (by show Below _ _ _; rw [← hu4]; exact HB.out.alloc HB.out.size _)
          clear hu4 hga
          refine hK.out _ _ (⟨(cel5r ZQ.out).2.2.2.1, (cel5r ZP.out).2.2.2.1⟩) (fun hHeld => ?_)
          clear hK
          try simp only [Act.put, List.setIfInBounds_toArray, List.set_cons_zero, List.set_cons_succ]
          refine wpAnyH_ready (rs := [7]) (by kernel_rfl) (by simp) (AllReadyH.cons rfl (fun K hK => ?_) AllReadyH.nil)
          go_simp
          obtain ⟨u5, hu5⟩ : ∃ W, u4.alloc (.cells #[.bool false, .bool false, .bool false, .bool false, .bool false, .bool false, .int .i64 0, .int .i64 0, .int .i64 0] 44) = W := ⟨_, rfl⟩
          obtain ⟨gb, hgb⟩ : ∃ g, u4.heap.size = g := ⟨_, rfl⟩
          rw [hu5, hgb]
          have nZQgb : w.heap.size < gb := (by rw [← hgb]; exact (Array.getElem?_eq_some_iff.1 ZQ.out).1)
          have nZPgb : w.heap.size + 1 < gb := (by rw [← hgb]; exact (Array.getElem?_eq_some_iff.1 ZP.out).1)
          have nZNgb : w.heap.size + 2 < gb := (by rw [← hgb]; exact (Array.getElem?_eq_some_iff.1 ZN.out).1)
          have nTgagb : ga < gb := (by rw [← hgb]; exact (Array.getElem?_eq_some_iff.1 Tga.out).1)
          replace ZQ : Hid (u5.heap[w.heap.size]? = some (.cells #[.string m, .string t, .int .i64 v, .slice A f.length c, .string b] 24 (0, 0))) := (by show _ = _; rw [← hu5]; exact zero_more ZQ.out)
          replace ZP : Hid (u5.heap[w.heap.size + 1]? = some (.cells #[.int .i64 pc, .string pr, .int .i64 pv, .slice B g.length d, .string pb] 26 (0, 0))) := (by show _ = _; rw [← hu5]; exact zero_more ZP.out)
          replace ZN : Hid (u5.heap[w.heap.size + 2]? = some (.cells #[.int .i64 now] 3 (0, 0))) := (by show _ = _; rw [← hu5]; exact zero_more ZN.out)
          replace Tga : Hid (u5.heap[ga]? = some (.cells #[.bool false, .bool false, .bool false, .bool false, .bool false, .bool false, .int .i64 0, .int .i64 0, .int .i64 0] 44 (0, 0))) := (by show _ = _; rw [← hu5]; exact zero_more Tga.out)
          have Tgb : Hid (u5.heap[gb]? = some (.cells #[.bool false, .bool false, .bool false, .bool false, .bool false, .bool false, .int .i64 0, .int .i64 0, .int .i64 0] 44 (0, 0))) := (by show _ = _; rw [← hu5, ← hgb]; exact heap_alloc_new u4 _)
          have nbgb : w.heap.size ≤ gb := (by rw [← hgb]; exact HB.out.size)
          replace HB : Hid (Below w.heap.size w u5) := (by show Below _ _ _; rw [← hu5]; exact HB.out.alloc HB.out.size _)
          clear hu5 hgb
          refine hK.out _ _ (⟨(cel5r ZQ.out).2.2.2.1, (cel5r ZP.out).2.2.2.1⟩) (fun hHeld => ?_)
          clear hK
          try simp only [Act.put, List.setIfInBounds_toArray, List.set_cons_zero, List.set_cons_succ]
          refine wpAnyH_ready (rs := [8]) (by kernel_rfl) (by simp) (AllReadyH.cons rfl (fun K hK => ?_) AllReadyH.nil)
          refine step_store_row rfl _ _ _ rfl ga #[.bool ans, .bool anc, .bool apv, .bool apu, .bool amc, .bool aoi, .int .i64 ama, .int .i64 ash, .int .i64 amf] rfl rfl 44 #[.bool false, .bool false, .bool false, .bool false, .bool false, .bool false, .int .i64 0, .int .i64 0, .int .i64 0] Tga.out (by kernel_rfl) rfl (by simp [Value.oneCell']) ?_
          obtain ⟨u6, hu6⟩ : ∃ W, u5.setRow ga #[.bool ans, .bool anc, .bool apv, .bool apu, .bool amc, .bool aoi, .int .i64 ama, .int .i64 ash, .int .i64 amf] = W := ⟨_, rfl⟩
          rw [hu6]
          replace ZQ : Hid (u6.heap[w.heap.size]? = some (.cells #[.string m, .string t, .int .i64 v, .slice A f.length c, .string b] 24 (0, 0))) := (by show _ = _; rw [← hu6, setRow_other _ _ _ _ (by omega)]; exact ZQ.out)
          replace ZP : Hid (u6.heap[w.heap.size + 1]? = some (.cells #[.int .i64 pc, .string pr, .int .i64 pv, .slice B g.length d, .string pb] 26 (0, 0))) := (by show _ = _; rw [← hu6, setRow_other _ _ _ _ (by omega)]; exact ZP.out)
          replace ZN : Hid (u6.heap[w.heap.size + 2]? = some (.cells #[.int .i64 now] 3 (0, 0))) := (by show _ = _; rw [← hu6, setRow_other _ _ _ _ (by omega)]; exact ZN.out)
          replace Tgb : Hid (u6.heap[gb]? = some (.cells #[.bool false, .bool false, .bool false, .bool false, .bool false, .bool false, .int .i64 0, .int .i64 0, .int .i64 0] 44 (0, 0))) := (by show _ = _; rw [← hu6, setRow_other _ _ _ _ (by omega)]; exact Tgb.out)
          replace Tga : Hid (u6.heap[ga]? = some (.cells #[.bool ans, .bool anc, .bool apv, .bool apu, .bool amc, .bool aoi, .int .i64 ama, .int .i64 ash, .int .i64 amf] 44 (0, 0))) := (by show _ = _; rw [← hu6]; exact setRow_heap _ _ _ _ _ _ Tga.out)
          replace HB : Hid (Below w.heap.size w u6) := (by show Below _ _ _; rw [← hu6]; exact below_setRow HB.out nbga _)
          clear hu6
          refine hK.out _ _ (⟨(cel5r ZQ.out).2.2.2.1, (cel5r ZP.out).2.2.2.1⟩) (fun hHeld => ?_)
          clear hK
          try simp only [Act.put, List.setIfInBounds_toArray, List.set_cons_zero, List.set_cons_succ]
          refine wpAnyH_ready (rs := [9]) (by kernel_rfl) (by simp) (AllReadyH.cons rfl (fun K hK => ?_) AllReadyH.nil)
          refine step_store_row rfl _ _ _ rfl gb #[.bool ns, .bool nc, .bool pv', .bool pu, .bool mc, .bool oi, .int .i64 ma, .int .i64 sh, .int .i64 mf] rfl rfl 44 #[.bool false, .bool false, .bool false, .bool false, .bool false, .bool false, .int .i64 0, .int .i64 0, .int .i64 0] Tgb.out (by kernel_rfl) rfl (by simp [Value.oneCell']) ?_
          obtain ⟨u7, hu7⟩ : ∃ W, u6.setRow gb #[.bool ns, .bool nc, .bool pv', .bool pu, .bool mc, .bool oi, .int .i64 ma, .int .i64 sh, .int .i64 mf] = W := ⟨_, rfl⟩
          rw [hu7]
          replace ZQ : Hid (u7.heap[w.heap.size]? = some (.cells #[.string m, .string t, .int .i64 v, .slice A f.length c, .string b] 24 (0, 0))) := (by show _ = _; rw [← hu7, setRow_other _ _ _ _ (by omega)]; exact ZQ.out)
          replace ZP : Hid (u7.heap[w.heap.size + 1]? = some (.cells #[.int .i64 pc, .string pr, .int .i64 pv, .slice B g.length d, .string pb] 26 (0, 0))) := (by show _ = _; rw [← hu7, setRow_other _ _ _ _ (by omega)]; exact ZP.out)
          replace ZN : Hid (u7.heap[w.heap.size + 2]? = some (.cells #[.int .i64 now] 3 (0, 0))) := (by show _ = _; rw [← hu7, setRow_other _ _ _ _ (by omega)]; exact ZN.out)
          replace Tga : Hid (u7.heap[ga]? = some (.cells #[.bool ans, .bool anc, .bool apv, .bool apu, .bool amc, .bool aoi, .int .i64 ama, .int .i64 ash, .int .i64 amf] 44 (0, 0))) := (by show _ = _; rw [← hu7, setRow_other _ _ _ _ (by omega)]; exact Tga.out)
          replace Tgb : Hid (u7.heap[gb]? = some (.cells #[.bool ns, .bool nc, .bool pv', .bool pu, .bool mc, .bool oi, .int .i64 ma, .int .i64 sh, .int .i64 mf] 44 (0, 0))) := (by show _ = _; rw [← hu7]; exact setRow_heap _ _ _ _ _ _ Tgb.out)
          replace HB : Hid (Below w.heap.size w u7) := (by show Below _ _ _; rw [← hu7]; exact below_setRow HB.out nbgb _)
          clear hu7
          refine hK.out _ _ (⟨(cel5r ZQ.out).2.2.2.1, (cel5r ZP.out).2.2.2.1⟩) (fun hHeld => ?_)
          clear hK
          try simp only [Act.put, List.setIfInBounds_toArray, List.set_cons_zero, List.set_cons_succ]
          refine wpAnyH_done (by kernel_rfl) ?_ _
          go_wp2_with fail
          go_meet
          exact ⟨ga, gb, rfl, rfl, Tga.out, Tgb.out, ZQ.out, ZP.out, ZN.out, HB.out⟩
        · go_simp
          obtain ⟨u8, hu8⟩ : ∃ W, u3.alloc (.cells #[.bool false, .bool false, .bool false, .bool false, .bool false, .bool false, .int .i64 0, .int .i64 0, .int .i64 0] 44) = W := ⟨_, rfl⟩
          obtain ⟨gb, hgb⟩ : ∃ g, u3.heap.size = g := ⟨_, rfl⟩
          rw [hu8, hgb]
          have nZQgb : w.heap.size < gb := (by rw [← hgb]; exact (Array.getElem?_eq_some_iff.1 ZQ.out).1)
          have nZPgb : w.heap.size + 1 < gb := (by rw [← hgb]; exact (Array.getElem?_eq_some_iff.1 ZP.out).1)
          have nZNgb : w.heap.size + 2 < gb := (by rw [← hgb]; exact (Array.getElem?_eq_some_iff.1 ZN.out).1)
          replace ZQ : Hid (u8.heap[w.heap.size]? = some (.cells #[.string m, .string t, .int .i64 v, .slice A f.length c, .string b] 24 (0, 0))) := (by show _ = _; rw [← hu8]; exact zero_more ZQ.out)
          replace ZP : Hid (u8.heap[w.heap.size + 1]? = some (.cells #[.int .i64 pc, .string pr, .int .i64 pv, .slice B g.length d, .string pb] 26 (0, 0))) := (by show _ = _; rw [← hu8]; exact zero_more ZP.out)
          replace ZN : Hid (u8.heap[w.heap.size + 2]? = some (.cells #[.int .i64 now] 3 (0, 0))) := (by show _ = _; rw [← hu8]; exact zero_more ZN.out)
          have Tgb : Hid (u8.heap[gb]? = some (.cells #[.bool false, .bool false, .bool false, .bool false, .bool false, .bool false, .int .i64 0, .int .i64 0, .int .i64 0] 44 (0, 0))) := (by show _ = _; rw [← hu8, ← hgb]; exact heap_alloc_new u3 _)
          have nbgb : w.heap.size ≤ gb := (by rw [← hgb]; exact HB.out.size)
          replace HB : Hid (Below w.heap.size w u8) := (by show Below _ _ _; rw [← hu8]; exact HB.out.alloc HB.out.size _)
          clear hu8 hgb
          refine hK.out _ _ (⟨(cel5r ZQ.out).2.2.2.1, (cel5r ZP.out).2.2.2.1⟩) (fun hHeld => ?_)
          clear hK
          try simp only [Act.put, List.setIfInBounds_toArray, List.set_cons_zero, List.set_cons_succ]
          refine wpAnyH_ready (rs := [6]) (by kernel_rfl) (by simp) (AllReadyH.cons rfl (fun K hK => ?_) AllReadyH.nil)
          go_simp
          obtain ⟨u9, hu9⟩ : ∃ W, u8.alloc (.cells #[.bool false, .bool false, .bool false, .bool false, .bool false, .bool false, .int .i64 0, .int .i64 0, .int .i64 0] 44) = W := ⟨_, rfl⟩
          obtain ⟨ga, hga⟩ : ∃ g, u8.heap.size = g := ⟨_, rfl⟩
          rw [hu9, hga]
          have nZQga : w.heap.size < ga := (by rw [← hga]; exact (Array.getElem?_eq_some_iff.1 ZQ.out).1)
          have nZPga : w.heap.size + 1 < ga := (by rw [← hga]; exact (Array.getElem?_eq_some_iff.1 ZP.out).1)
          have nZNga : w.heap.size + 2 < ga := (by rw [← hga]; exact (Array.getElem?_eq_some_iff.1 ZN.out).1)
          have nTgbga : gb < ga := (by rw [← hga]; exact (Array.getElem?_eq_some_iff.1 Tgb.out).1)
          replace ZQ : Hid (u9.heap[w.heap.size]? = some (.cells #[.string m, .string t, .int .i64 v, .slice A f.length c, .string b] 24 (0, 0))) := (by show _ = _; rw [← hu9]; exact zero_more ZQ.out)
          replace ZP : Hid (u9.heap[w.heap.size + 1]? = some (.cells #[.int .i64 pc, .string pr, .int .i64 pv, .slice B g.length d, .string pb] 26 (0, 0))) := (by show _ = _; rw [← hu9]; exact zero_more ZP.out)
          replace ZN : Hid (u9.heap[w.heap.size + 2]? = some (.cells #[.int .i64 now] 3 (0, 0))) := (by show _ = _; rw [← hu9]; exact zero_more ZN.out)
          replace Tgb : Hid (u9.heap[gb]? = some (.cells #[.bool false, .bool false, .bool false, .bool false, .bool false, .bool false, .int .i64 0, .int .i64 0, .int .i64 0] 44 (0, 0))) := (by show _ = _; rw [← hu9]; exact zero_more Tgb.out)
          have Tga : Hid (u9.heap[ga]? = some (.cells #[.bool false, .bool false, .bool false, .bool false, .bool false, .bool false, .int .i64 0, .int .i64 0, .int .i64 0] 44 (0, 0))) := (by show _ = _; rw [← hu9, ← hga]; exact heap_alloc_new u8 _)
          have nbga : w.heap.size ≤ ga := (by rw [← hga]; exact HB.out.size)
          replace HB : Hid (Below w.heap.size w u9) := (by show Below _ _ _; rw [← hu9]; exact HB.out.alloc HB.out.size _)
          clear hu9 hga
          refine hK.out _ _ (⟨(cel5r ZQ.out).2.2.2.1, (cel5r ZP.out).2.2.2.1⟩) (fun hHeld => ?_)
          clear hK
          try simp only [Act.put, List.setIfInBounds_toArray, List.set_cons_zero, List.set_cons_succ]
          refine wpAnyH_ready (rs := [8]) (by kernel_rfl) (by simp) (AllReadyH.cons rfl (fun K hK => ?_) AllReadyH.nil)
          refine step_store_row rfl _ _ _ rfl ga #[.bool ans, .bool anc, .bool apv, .bool apu, .bool amc, .bool aoi, .int .i64 ama, .int .i64 ash, .int .i64 amf] rfl rfl 44 #[.bool false, .bool false, .bool false, .bool false, .bool false, .bool false, .int .i64 0, .int .i64 0, .int .i64 0] Tga.out (by kernel_rfl) rfl (by simp [Value.oneCell']) ?_
          obtain ⟨u10, hu10⟩ : ∃ W, u9.setRow ga #[.bool ans, .bool anc, .bool apv, .bool apu, .bool amc, .bool aoi, .int .i64 ama, .int .i64 ash, .int .i64 amf] = W := ⟨_, rfl⟩
          rw [hu10]
          replace ZQ : Hid (u10.heap[w.heap.size]? = some (.cells #[.string m, .string t, .int .i64 v, .slice A f.length c, .string b] 24 (0, 0))) := (by show _ = _; rw [← hu10, setRow_other _ _ _ _ (by omega)]; exact ZQ.out)
          replace ZP : Hid (u10.heap[w.heap.size + 1]? = some (.cells #[.int .i64 pc, .string pr, .int .i64 pv, .slice B g.length d, .string pb] 26 (0, 0))) := (by show _ = _; rw [← hu10, setRow_other _ _ _ _ (by omega)]; exact ZP.out)
          replace ZN : Hid (u10.heap[w.heap.size + 2]? = some (.cells #[.int .i64 now] 3 (0, 0))) := (by show _ = _; rw [← hu10, setRow_other _ _ _ _ (by omega)]; exact ZN.out)
          replace Tgb : Hid (u10.heap[gb]? = some (.cells #[.bool false, .bool false, .bool false, .bool false, .bool false, .bool false, .int .i64 0, .int .i64 0, .int .i64 0] 44 (0, 0))) := (by show _ = _; rw [← hu10, setRow_other _ _ _ _ (by omega)]; exact Tgb.out)
          replace Tga : Hid (u10.heap[ga]? = some (.cells #[.bool ans, .bool anc, .bool apv, .bool apu, .bool amc, .bool aoi, .int .i64 ama, .int .i64 ash, .int .i64 amf] 44 (0, 0))) := (by show _ = _; rw [← hu10]; exact setRow_heap _ _ _ _ _ _ Tga.out)
          replace HB : Hid (Below w.heap.size w u10) := (by show Below _ _ _; rw [← hu10]; exact below_setRow HB.out nbga _)
          clear hu10
          refine hK.out _ _ (⟨(cel5r ZQ.out).2.2.2.1, (cel5r ZP.out).2.2.2.1⟩) (fun hHeld => ?_)
          clear hK
          try simp only [Act.put, List.setIfInBounds_toArray, List.set_cons_zero, List.set_cons_succ]
          refine wpAnyH_ready (rs := [9]) (by kernel_rfl) (by simp) (AllReadyH.cons rfl (fun K hK => ?_) AllReadyH.nil)
          refine step_store_row rfl _ _ _ rfl gb #[.bool ns, .bool nc, .bool pv', .bool pu, .bool mc, .bool oi, .int .i64 ma, .int .i64 sh, .int .i64 mf] rfl rfl 44 #[.bool false, .bool false, .bool false, .bool false, .bool false, .bool false, .int .i64 0, .int .i64 0, .int .i64 0] Tgb.out (by kernel_rfl) rfl (by simp [Value.oneCell']) ?_
          obtain ⟨u11, hu11⟩ : ∃ W, u10.setRow gb #[.bool ns, .bool nc, .bool pv', .bool pu, .bool mc, .bool oi, .int .i64 ma, .int .i64 sh, .int .i64 mf] = W := ⟨_, rfl⟩
          rw [hu11]
          replace ZQ : Hid (u11.heap[w.heap.size]? = some (.cells #[.string m, .string t, .int .i64 v, .slice A f.length c, .string b] 24 (0, 0))) := (by show _ = _; rw [← hu11, setRow_other _ _ _ _ (by omega)]; exact ZQ.out)
          replace ZP : Hid (u11.heap[w.heap.size + 1]? = some (.cells #[.int .i64 pc, .string pr, .int .i64 pv, .slice B g.length d, .string pb] 26 (0, 0))) := (by show _ = _; rw [← hu11, setRow_other _ _ _ _ (by omega)]; exact ZP.out)
          replace ZN : Hid (u11.heap[w.heap.size + 2]? = some (.cells #[.int .i64 now] 3 (0, 0))) := (by show _ = _; rw [← hu11, setRow_other _ _ _ _ (by omega)]; exact ZN.out)
          replace Tga : Hid (u11.heap[ga]? = some (.cells #[.bool ans, .bool anc, .bool apv, .bool apu, .bool amc, .bool aoi, .int .i64 ama, .int .i64 ash, .int .i64 amf] 44 (0, 0))) := (by show _ = _; rw [← hu11, setRow_other _ _ _ _ (by omega)]; exact Tga.out)
          replace Tgb : Hid (u11.heap[gb]? = some (.cells #[.bool ns, .bool nc, .bool pv', .bool pu, .bool mc, .bool oi, .int .i64 ma, .int .i64 sh, .int .i64 mf] 44 (0, 0))) := (by show _ = _; rw [← hu11]; exact setRow_heap _ _ _ _ _ _ Tgb.out)
          replace HB : Hid (Below w.heap.size w u11) := (by show Below _ _ _; rw [← hu11]; exact below_setRow HB.out nbgb _)
          clear hu11
          refine hK.out _ _ (⟨(cel5r ZQ.out).2.2.2.1, (cel5r ZP.out).2.2.2.1⟩) (fun hHeld => ?_)
          clear hK
          try simp only [Act.put, List.setIfInBounds_toArray, List.set_cons_zero, List.set_cons_succ]
          refine wpAnyH_done (by kernel_rfl) ?_ _
          go_wp2_with fail
          go_meet
          exact ⟨ga, gb, rfl, rfl, Tga.out, Tgb.out, ZQ.out, ZP.out, ZN.out, HB.out⟩
      · go_simp
        obtain ⟨u12, hu12⟩ : ∃ W, u2.alloc (.cells #[.bool false, .bool false, .bool false, .bool false, .bool false, .bool false, .int .i64 0, .int .i64 0, .int .i64 0] 44) = W := ⟨_, rfl⟩
        obtain ⟨ga, hga⟩ : ∃ g, u2.heap.size = g := ⟨_, rfl⟩
        rw [hu12, hga]
        have nZQga : w.heap.size < ga := (by rw [← hga]; exact (Array.getElem?_eq_some_iff.1 ZQ.out).1)
        have nZPga : w.heap.size + 1 < ga := (by rw [← hga]; exact (Array.getElem?_eq_some_iff.1 ZP.out).1)
        have nZNga : w.heap.size + 2 < ga := (by rw [← hga]; exact (Array.getElem?_eq_some_iff.1 ZN.out).1)
        replace ZQ : Hid (u12.heap[w.heap.size]? = some (.cells #[.string m, .string t, .int .i64 v, .slice A f.length c, .string b] 24 (0, 0))) := (by show _ = _; rw [← hu12]; exact zero_more ZQ.out)
        replace ZP : Hid (u12.heap[w.heap.size + 1]? = some (.cells #[.int .i64 pc, .string pr, .int .i64 pv, .slice B g.length d, .string pb] 26 (0, 0))) := (by show _ = _; rw [← hu12]; exact zero_more ZP.out)
        replace ZN : Hid (u12.heap[w.heap.size + 2]? = some (.cells #[.int .i64 now] 3 (0, 0))) := (by show _ = _; rw [← hu12]; exact zero_more ZN.out)
        have Tga : Hid (u12.heap[ga]? = some (.cells #[.bool false, .bool false, .bool false, .bool false, .bool false, .bool false, .int .i64 0, .int .i64 0, .int .i64 0] 44 (0, 0))) := (by show _ = _; rw [← hu12, ← hga]; exact heap_alloc_new u2 _)
        have nbga : w.heap.size ≤ ga := (by rw [← hga]; exact HB.out.size)
        replace HB : Hid (Below w.heap.size w u12) := (by show Below _ _ _; rw [← hu12]; exact HB.out.alloc HB.out.size _)
        clear hu12 hga
        refine hK.out _ _ (⟨(cel5r ZQ.out).2.2.2.1, (cel5r ZP.out).2.2.2.1⟩) (fun hHeld => ?_)
        clear hK
        try simp only [Act.put, List.setIfInBounds_toArray, List.set_cons_zero, List.set_cons_succ]
        refine wpAnyH_ready (rs := [5, 7]) (by kernel_rfl) (by simp) (AllReadyH.cons rfl (fun K hK => ?_) (AllReadyH.cons rfl (fun K hK => ?_) AllReadyH.nil))
        · go_simp
          go_at_call 23
          refine (C2.out _ HB.out).mono ?_
          rintro e u13 ⟨rfl, hb⟩
          replace ZQ := Lib.hid (zero_still hb ZQ.out)
          replace ZP := Lib.hid (zero_still hb ZP.out)
          replace ZN := Lib.hid (zero_still hb ZN.out)
          replace Tga := Lib.hid (zero_still hb Tga.out)
          replace HB := Lib.hid (below_then HB.out hb)
          clear hb
          try go_wp2_with fail
          refine hK.out _ _ (⟨(cel5r ZQ.out).2.2.2.1, (cel5r ZP.out).2.2.2.1⟩) (fun hHeld => ?_)
          clear hK
          try simp only [Act.put, List.setIfInBounds_toArray, List.set_cons_zero, List.set_cons_succ]
          refine wpAnyH_ready (rs := [7]) (by kernel_rfl) (by simp) (AllReadyH.cons rfl (fun K hK => ?_) AllReadyH.nil)
          go_simp
          obtain ⟨u14, hu14⟩ : ∃ W, u13.alloc (.cells #[.bool false, .bool false, .bool false, .bool false, .bool false, .bool false, .int .i64 0, .int .i64 0, .int .i64 0] 44) = W := ⟨_, rfl⟩
          obtain ⟨gb, hgb⟩ : ∃ g, u13.heap.size = g := ⟨_, rfl⟩
          rw [hu14, hgb]
          have nZQgb : w.heap.size < gb := (by rw [← hgb]; exact (Array.getElem?_eq_some_iff.1 ZQ.out).1)
          have nZPgb : w.heap.size + 1 < gb := (by rw [← hgb]; exact (Array.getElem?_eq_some_iff.1 ZP.out).1)
          have nZNgb : w.heap.size + 2 < gb := (by rw [← hgb]; exact (Array.getElem?_eq_some_iff.1 ZN.out).1)
          have nTgagb : ga < gb := (by rw [← hgb]; exact (Array.getElem?_eq_some_iff.1 Tga.out).1)
          replace ZQ : Hid (u14.heap[w.heap.size]? = some (.cells #[.string m, .string t, .int .i64 v, .slice A f.length c, .string b] 24 (0, 0))) := (by show _ = _; rw [← hu14]; exact zero_more ZQ.out)
          replace ZP : Hid (u14.heap[w.heap.size + 1]? = some (.cells #[.int .i64 pc, .string pr, .int .i64 pv, .slice B g.length d, .string pb] 26 (0, 0))) := (by show _ = _; rw [← hu14]; exact zero_more ZP.out)
          replace ZN : Hid (u14.heap[w.heap.size + 2]? = some (.cells #[.int .i64 now] 3 (0, 0))) := (by show _ = _; rw [← hu14]; exact zero_more ZN.out)
          replace Tga : Hid (u14.heap[ga]? = some (.cells #[.bool false, .bool false, .bool false, .bool false, .bool false, .bool false, .int .i64 0, .int .i64 0, .int .i64 0] 44 (0, 0))) := (by show _ = _; rw [← hu14]; exact zero_more Tga.out)
          have Tgb : Hid (u14.heap[gb]? = some (.cells #[.bool false, .bool false, .bool false, .bool false, .bool false, .bool false, .int .i64 0, .int .i64 0, .int .i64 0] 44 (0, 0))) := (by show _ = _; rw [← hu14, ← hgb]; exact heap_alloc_new u13 _)
          have nbgb : w.heap.size ≤ gb := (by rw [← hgb]; exact HB.out.size)
          replace HB : Hid (Below w.heap.size w u14) := (by show Below _ _ _; rw [← hu14]; exact HB.out.alloc HB.out.size _)
          clear hu14 hgb
          refine hK.out _ _ (⟨(cel5r ZQ.out).2.2.2.1, (cel5r ZP.out).2.2.2.1⟩) (fun hHeld => ?_)
          clear hK
          try simp only [Act.put, List.setIfInBounds_toArray, List.set_cons_zero, List.set_cons_succ]
          refine wpAnyH_ready (rs := [8]) (by kernel_rfl) (by simp) (AllReadyH.cons rfl (fun K hK => ?_) AllReadyH.nil)
          refine step_store_row rfl _ _ _ rfl ga #[.bool ans, .bool anc, .bool apv, .bool apu, .bool amc, .bool aoi, .int .i64 ama, .int .i64 ash, .int .i64 amf] rfl rfl 44 #[.bool false, .bool false, .bool false, .bool false, .bool false, .bool false, .int .i64 0, .int .i64 0, .int .i64 0] Tga.out (by kernel_rfl) rfl (by simp [Value.oneCell']) ?_
          obtain ⟨u15, hu15⟩ : ∃ W, u14.setRow ga #[.bool ans, .bool anc, .bool apv, .bool apu, .bool amc, .bool aoi, .int .i64 ama, .int .i64 ash, .int .i64 amf] = W := ⟨_, rfl⟩
          rw [hu15]
          replace ZQ : Hid (u15.heap[w.heap.size]? = some (.cells #[.string m, .string t, .int .i64 v, .slice A f.length c, .string b] 24 (0, 0))) := (by show _ = _; rw [← hu15, setRow_other _ _ _ _ (by omega)]; exact ZQ.out)
          replace ZP : Hid (u15.heap[w.heap.size + 1]? = some (.cells #[.int .i64 pc, .string pr, .int .i64 pv, .slice B g.length d, .string pb] 26 (0, 0))) := (by show _ = _; rw [← hu15, setRow_other _ _ _ _ (by omega)]; exact ZP.out)
          replace ZN : Hid (u15.heap[w.heap.size + 2]? = some (.cells #[.int .i64 now] 3 (0, 0))) := (by show _ = _; rw [← hu15, setRow_other _ _ _ _ (by omega)]; exact ZN.out)
          replace Tgb : Hid (u15.heap[gb]? = some (.cells #[.bool false, .bool false, .bool false, .bool false, .bool false, .bool false, .int .i64 0, .int .i64 0, .int .i64 0] 44 (0, 0))) := (by show _ = _; rw [← hu15, setRow_other _ _ _ _ (by omega)]; exact Tgb.out)
          replace Tga : Hid (u15.heap[ga]? = some (.cells #[.bool ans, .bool anc, .bool apv, .bool apu, .bool amc, .bool aoi, .int .i64 ama, .int .i64 ash, .int .i64 amf] 44 (0, 0))) := (by show _ = _; rw [← hu15]; exact setRow_heap _ _ _ _ _ _ Tga.out)
          replace HB : Hid (Below w.heap.size w u15) := (by show Below _ _ _; rw [← hu15]; exact below_setRow HB.out nbga _)
          clear hu15
          refine hK.out _ _ (⟨(cel5r ZQ.out).2.2.2.1, (cel5r ZP.out).2.2.2.1⟩) (fun hHeld => ?_)
          clear hK
          try simp only [Act.put, List.setIfInBounds_toArray, List.set_cons_zero, List.set_cons_succ]
          refine wpAnyH_ready (rs := [9]) (by kernel_rfl) (by simp) (AllReadyH.cons rfl (fun K hK => ?_) AllReadyH.nil)
          refine step_store_row rfl _ _ _ rfl gb #[.bool ns, .bool nc, .bool pv', .bool pu, .bool mc, .bool oi, .int .i64 ma, .int .i64 sh, .int .i64 mf] rfl rfl 44 #[.bool false, .bool false, .bool false, .bool false, .bool false, .bool false, .int .i64 0, .int .i64 0, .int .i64 0] Tgb.out (by kernel_rfl) rfl (by simp [Value.oneCell']) ?_
          obtain ⟨u16, hu16⟩ : ∃ W, u15.setRow gb #[.bool ns, .bool nc, .bool pv', .bool pu, .bool mc, .bool oi, .int .i64 ma, .int .i64 sh, .int .i64 mf] = W := ⟨_, rfl⟩
          rw [hu16]
          replace ZQ : Hid (u16.heap[w.heap.size]? = some (.cells #[.string m, .string t, .int .i64 v, .slice A f.length c, .string b] 24 (0, 0))) := (by show _ = _; rw [← hu16, setRow_other _ _ _ _ (by omega)]; exact ZQ.out)
          replace ZP : Hid (u16.heap[w.heap.size + 1]? = some (.cells #[.int .i64 pc, .string pr, .int .i64 pv, .slice B g.length d, .string pb] 26 (0, 0))) := (by show _ = _; rw [← hu16, setRow_other _ _ _ _ (by omega)]; exact ZP.out)
          replace ZN : Hid (u16.heap[w.heap.size + 2]? = some (.cells #[.int .i64 now] 3 (0, 0))) := (by show _ = _; rw [← hu16, setRow_other _ _ _ _ (by omega)]; exact ZN.out)
          replace Tga : Hid (u16.heap[ga]? = some (.cells #[.bool ans, .bool anc, .bool apv, .bool apu, .bool amc, .bool aoi, .int .i64 ama, .int .i64 ash, .int .i64 amf] 44 (0, 0))) := (by show _ = _; rw [← hu16, setRow_other _ _ _ _ (by omega)]; exact Tga.out)
          replace Tgb : Hid (u16.heap[gb]? = some (.cells #[.bool ns, .bool nc, .bool pv', .bool pu, .bool mc, .bool oi, .int .i64 ma, .int .i64 sh, .int .i64 mf] 44 (0, 0))) := (by show _ = _; rw [← hu16]; exact setRow_heap _ _ _ _ _ _ Tgb.out)
          replace HB : Hid (Below w.heap.size w u16) := (by show Below _ _ _; rw [← hu16]; exact below_setRow HB.out nbgb _)
          clear hu16
          refine hK.out _ _ (⟨(cel5r ZQ.out).2.2.2.1, (cel5r ZP.out).2.2.2.1⟩) (fun hHeld => ?_)
          clear hK
          try simp only [Act.put, List.setIfInBounds_toArray, List.set_cons_zero, List.set_cons_succ]
          refine wpAnyH_done (by kernel_rfl) ?_ _
          go_wp2_with fail
          go_meet
          exact ⟨ga, gb, rfl, rfl, Tga.out, Tgb.out, ZQ.out, ZP.out, ZN.out, HB.out⟩
        · go_simp
          obtain ⟨u17, hu17⟩ : ∃ W, u12.alloc (.cells #[.bool false, .bool false, .bool false, .bool false, .bool false, .bool false, .int .i64 0, .int .i64 0, .int .i64 0] 44) = W := ⟨_, rfl⟩
          obtain ⟨gb, hgb⟩ : ∃ g, u12.heap.size = g := ⟨_, rfl⟩
          rw [hu17, hgb]
          have nZQgb : w.heap.size < gb := (by rw [← hgb]; exact (Array.getElem?_eq_some_iff.1 ZQ.out).1)
          have nZPgb : w.heap.size + 1 < gb := (by rw [← hgb]; exact (Array.getElem?_eq_some_iff.1 ZP.out).1)
          have nZNgb : w.heap.size + 2 < gb := (by rw [← hgb]; exact (Array.getElem?_eq_some_iff.1 ZN.out).1)
          have nTgagb : ga < gb := (by rw [← hgb]; exact (Array.getElem?_eq_some_iff.1 Tga.out).1)
          replace ZQ : Hid (u17.heap[w.heap.size]? = some (.cells #[.string m, .string t, .int .i64 v, .slice A f.length c, .string b] 24 (0, 0))) := (by show _ = _; rw [← hu17]; exact zero_more ZQ.out)
          replace ZP : Hid (u17.heap[w.heap.size + 1]? = some (.cells #[.int .i64 pc, .string pr, .int .i64 pv, .slice B g.length d, .string pb] 26 (0, 0))) := (by show _ = _; rw [← hu17]; exact zero_more ZP.out)
          replace ZN : Hid (u17.heap[w.heap.size + 2]? = some (.cells #[.int .i64 now] 3 (0, 0))) := (by show _ = _; rw [← hu17]; exact zero_more ZN.out)
          replace Tga : Hid (u17.heap[ga]? = some (.cells #[.bool false, .bool false, .bool false, .bool false, .bool false, .bool false, .int .i64 0, .int .i64 0, .int .i64 0] 44 (0, 0))) := (by show _ = _; rw [← hu17]; exact zero_more Tga.out)
          have Tgb : Hid (u17.heap[gb]? = some (.cells #[.bool false, .bool false, .bool false, .bool false, .bool false, .bool false, .int .i64 0, .int .i64 0, .int .i64 0] 44 (0, 0))) := (by show _ = _; rw [← hu17, ← hgb]; exact heap_alloc_new u12 _)
          have nbgb : w.heap.size ≤ gb := (by rw [← hgb]; exact HB.out.size)
          replace HB : Hid (Below w.heap.size w u17) := (by show Below _ _ _; rw [← hu17]; exact HB.out.alloc HB.out.size _)
          clear hu17 hgb
          refine hK.out _ _ (⟨(cel5r ZQ.out).2.2.2.1, (cel5r ZP.out).2.2.2.1⟩) (fun hHeld => ?_)
          clear hK
          try simp only [Act.put, List.setIfInBounds_toArray, List.set_cons_zero, List.set_cons_succ]
          refine wpAnyH_ready (rs := [5]) (by kernel_rfl) (by simp) (AllReadyH.cons rfl (fun K hK => ?_) AllReadyH.nil)
          go_simp
          go_at_call 23
          refine (C2.out _ HB.out).mono ?_
          rintro e u18 ⟨rfl, hb⟩
          replace ZQ := Lib.hid (zero_still hb ZQ.out)
          replace ZP := Lib.hid (zero_still hb ZP.out)
          replace ZN := Lib.hid (zero_still hb ZN.out)
          replace Tga := Lib.hid (zero_still hb Tga.out)
          replace Tgb := Lib.hid (zero_still hb Tgb.out)
          replace HB := Lib.hid (below_then HB.out hb)
          clear hb
          try go_wp2_with fail
          refine hK.out _ _ (⟨(cel5r ZQ.out).2.2.2.1, (cel5r ZP.out).2.2.2.1⟩) (fun hHeld => ?_)
          clear hK
          try simp only [Act.put, List.setIfInBounds_toArray, List.set_cons_zero, List.set_cons_succ]
          refine wpAnyH_ready (rs := [8]) (by kernel_rfl) (by simp) (AllReadyH.cons rfl (fun K hK => ?_) AllReadyH.nil)
          refine step_store_row rfl _ _ _ rfl ga #[.bool ans, .bool anc, .bool apv, .bool apu, .bool amc, .bool aoi, .int .i64 ama, .int .i64 ash, .int .i64 amf] rfl rfl 44 #[.bool false, .bool false, .bool false, .bool false, .bool false, .bool false, .int .i64 0, .int .i64 0, .int .i64 0] Tga.out (by kernel_rfl) rfl (by simp [Value.oneCell']) ?_
          obtain ⟨u19, hu19⟩ : ∃ W, u18.setRow ga #[.bool ans, .bool anc, .bool apv, .bool apu, .bool amc, .bool aoi, .int .i64 ama, .int .i64 ash, .int .i64 amf] = W := ⟨_, rfl⟩
          rw [hu19]
          replace ZQ : Hid (u19.heap[w.heap.size]? = some (.cells #[.string m, .string t, .int .i64 v, .slice A f.length c, .string b] 24 (0, 0))) := (by show _ = _; rw [← hu19, setRow_other _ _ _ _ (by omega)]; exact ZQ.out)
          replace ZP : Hid (u19.heap[w.heap.size + 1]? = some (.cells #[.int .i64 pc, .string pr, .int .i64 pv, .slice B g.length d, .string pb] 26 (0, 0))) := (by show _ = _; rw [← hu19, setRow_other _ _ _ _ (by omega)]; exact ZP.out)
          replace ZN : Hid (u19.heap[w.heap.size + 2]? = some (.cells #[.int .i64 now] 3 (0, 0))) := (by show _ = _; rw [← hu19, setRow_other _ _ _ _ (by omega)]; exact ZN.out)
          replace Tgb : Hid (u19.heap[gb]? = some (.cells #[.bool false, .bool false, .bool false, .bool false, .bool false, .bool false, .int .i64 0, .int .i64 0, .int .i64 0] 44 (0, 0))) := (by show _ = _; rw [← hu19, setRow_other _ _ _ _ (by omega)]; exact Tgb.out)
          replace Tga : Hid (u19.heap[ga]? = some (.cells #[.bool ans, .bool anc, .bool apv, .bool apu, .bool amc, .bool aoi, .int .i64 ama, .int .i64 ash, .int .i64 amf] 44 (0, 0))) := (by show _ = _; rw [← hu19]; exact setRow_heap _ _ _ _ _ _ Tga.out)
          replace HB : Hid (Below w.heap.size w u19) := (by show Below _ _ _; rw [← hu19]; exact below_setRow HB.out nbga _)
          clear hu19
          refine hK.out _ _ (⟨(cel5r ZQ.out).2.2.2.1, (cel5r ZP.out).2.2.2.1⟩) (fun hHeld => ?_)
          clear hK
          try simp only [Act.put, List.setIfInBounds_toArray, List.set_cons_zero, List.set_cons_succ]
          refine wpAnyH_ready (rs := [9]) (by kernel_rfl) (by simp) (AllReadyH.cons rfl (fun K hK => ?_) AllReadyH.nil)
          refine step_store_row rfl _ _ _ rfl gb #[.bool ns, .bool nc, .bool pv', .bool pu, .bool mc, .bool oi, .int .i64 ma, .int .i64 sh, .int .i64 mf] rfl rfl 44 #[.bool false, .bool false, .bool false, .bool false, .bool false, .bool false, .int .i64 0, .int .i64 0, .int .i64 0] Tgb.out (by kernel_rfl) rfl (by simp [Value.oneCell']) ?_
          obtain ⟨u20, hu20⟩ : ∃ W, u19.setRow gb #[.bool ns, .bool nc, .bool pv', .bool pu, .bool mc, .bool oi, .int .i64 ma, .int .i64 sh, .int .i64 mf] = W := ⟨_, rfl⟩
          rw [hu20]
          replace ZQ : Hid (u20.heap[w.heap.size]? = some (.cells #[.string m, .string t, .int .i64 v, .slice A f.length c, .string b] 24 (0, 0))) := (by show _ = _; rw [← hu20, setRow_other _ _ _ _ (by omega)]; exact ZQ.out)
          replace ZP : Hid (u20.heap[w.heap.size + 1]? = some (.cells #[.int .i64 pc, .string pr, .int .i64 pv, .slice B g.length d, .string pb] 26 (0, 0))) := (by show _ = _; rw [← hu20, setRow_other _ _ _ _ (by omega)]; exact ZP.out)
          replace ZN : Hid (u20.heap[w.heap.size + 2]? = some (.cells #[.int .i64 now] 3 (0, 0))) := (by show _ = _; rw [← hu20, setRow_other _ _ _ _ (by omega)]; exact ZN.out)
          replace Tga : Hid (u20.heap[ga]? = some (.cells #[.bool ans, .bool anc, .bool apv, .bool apu, .bool amc, .bool aoi, .int .i64 ama, .int .i64 ash, .int .i64 amf] 44 (0, 0))) := (by show _ = _; rw [← hu20, setRow_other _ _ _ _ (by omega)]; exact Tga.out)
          replace Tgb : Hid (u20.heap[gb]? = some (.cells #[.bool ns, .bool nc, .bool pv', .bool pu, .bool mc, .bool oi, .int .i64 ma, .int .i64 sh, .int .i64 mf] 44 (0, 0))) := (by show _ = _; rw [← hu20]; exact setRow_heap _ _ _ _ _ _ Tgb.out)
          replace HB : Hid (Below w.heap.size w u20) := (by show Below _ _ _; rw [← hu20]; exact below_setRow HB.out nbgb _)
          clear hu20
          refine hK.out _ _ (⟨(cel5r ZQ.out).2.2.2.1, (cel5r ZP.out).2.2.2.1⟩) (fun hHeld => ?_)
          clear hK
          try simp only [Act.put, List.setIfInBounds_toArray, List.set_cons_zero, List.set_cons_succ]
          refine wpAnyH_done (by kernel_rfl) ?_ _
          go_wp2_with fail
          go_meet
          exact ⟨ga, gb, rfl, rfl, Tga.out, Tgb.out, ZQ.out, ZP.out, ZN.out, HB.out⟩
      · go_simp
        obtain ⟨u21, hu21⟩ : ∃ W, u2.alloc (.cells #[.bool false, .bool false, .bool false, .bool false, .bool false, .bool false, .int .i64 0, .int .i64 0, .int .i64 0] 44) = W := ⟨_, rfl⟩
        obtain ⟨gb, hgb⟩ : ∃ g, u2.heap.size = g := ⟨_, rfl⟩
        rw [hu21, hgb]
        have nZQgb : w.heap.size < gb := (by rw [← hgb]; exact (Array.getElem?_eq_some_iff.1 ZQ.out).1)
        have nZPgb : w.heap.size + 1 < gb := (by rw [← hgb]; exact (Array.getElem?_eq_some_iff.1 ZP.out).1)
        have nZNgb : w.heap.size + 2 < gb := (by rw [← hgb]; exact (Array.getElem?_eq_some_iff.1 ZN.out).1)
        replace ZQ : Hid (u21.heap[w.heap.size]? = some (.cells #[.string m, .string t, .int .i64 v, .slice A f.length c, .string b] 24 (0, 0))) := (by show _ = _; rw [← hu21]; exact zero_more ZQ.out)
        replace ZP : Hid (u21.heap[w.heap.size + 1]? = some (.cells #[.int .i64 pc, .string pr, .int .i64 pv, .slice B g.length d, .string pb] 26 (0, 0))) := (by show _ = _; rw [← hu21]; exact zero_more ZP.out)
        replace ZN : Hid (u21.heap[w.heap.size + 2]? = some (.cells #[.int .i64 now] 3 (0, 0))) := (by show _ = _; rw [← hu21]; exact zero_more ZN.out)
        have Tgb : Hid (u21.heap[gb]? = some (.cells #[.bool false, .bool false, .bool false, .bool false, .bool false, .bool false, .int .i64 0, .int .i64 0, .int .i64 0] 44 (0, 0))) := (by show _ = _; rw [← hu21, ← hgb]; exact heap_alloc_new u2 _)
        have nbgb : w.heap.size ≤ gb := (by rw [← hgb]; exact HB.out.size)
        replace HB : Hid (Below w.heap.size w u21) := (by show Below _ _ _; rw [← hu21]; exact HB.out.alloc HB.out.size _)
        clear hu21 hgb
        refine hK.out _ _ (⟨(cel5r ZQ.out).2.2.2.1, (cel5r ZP.out).2.2.2.1⟩) (fun hHeld => ?_)
        clear hK
        try simp only [Act.put, List.setIfInBounds_toArray, List.set_cons_zero, List.set_cons_succ]
        refine wpAnyH_ready (rs := [5, 6]) (by kernel_rfl) (by simp) (AllReadyH.cons rfl (fun K hK => ?_) (AllReadyH.cons rfl (fun K hK => ?_) AllReadyH.nil))
        · go_simp
          go_at_call 23
          refine (C2.out _ HB.out).mono ?_
          rintro e u22 ⟨rfl, hb⟩
          replace ZQ := Lib.hid (zero_still hb ZQ.out)
          replace ZP := Lib.hid (zero_still hb ZP.out)
          replace ZN := Lib.hid (zero_still hb ZN.out)
          replace Tgb := Lib.hid (zero_still hb Tgb.out)
          replace HB := Lib.hid (below_then HB.out hb)
          clear hb
          try go_wp2_with fail
          refine hK.out _ _ (⟨(cel5r ZQ.out).2.2.2.1, (cel5r ZP.out).2.2.2.1⟩) (fun hHeld => ?_)
          clear hK
          try simp only [Act.put, List.setIfInBounds_toArray, List.set_cons_zero, List.set_cons_succ]
          refine wpAnyH_ready (rs := [6]) (by kernel_rfl) (by simp) (AllReadyH.cons rfl (fun K hK => ?_) AllReadyH.nil)
          go_simp
          obtain ⟨u23, hu23⟩ : ∃ W, u22.alloc (.cells #[.bool false, .bool false, .bool false, .bool false, .bool false, .bool false, .int .i64 0, .int .i64 0, .int .i64 0] 44) = W := ⟨_, rfl⟩
          obtain ⟨ga, hga⟩ : ∃ g, u22.heap.size = g := ⟨_, rfl⟩
          rw [hu23, hga]
          have nZQga : w.heap.size < ga := (by rw [← hga]; exact (Array.getElem?_eq_some_iff.1 ZQ.out).1)
          have nZPga : w.heap.size + 1 < ga := (by rw [← hga]; exact (Array.getElem?_eq_some_iff.1 ZP.out).1)
          have nZNga : w.heap.size + 2 < ga := (by rw [← hga]; exact (Array.getElem?_eq_some_iff.1 ZN.out).1)
          have nTgbga : gb < ga := (by rw [← hga]; exact (Array.getElem?_eq_some_iff.1 Tgb.out).1)
          replace ZQ : Hid (u23.heap[w.heap.size]? = some (.cells #[.string m, .string t, .int .i64 v, .slice A f.length c, .string b] 24 (0, 0))) := (by show _ = _; rw [← hu23]; exact zero_more ZQ.out)
          replace ZP : Hid (u23.heap[w.heap.size + 1]? = some (.cells #[.int .i64 pc, .string pr, .int .i64 pv, .slice B g.length d, .string pb] 26 (0, 0))) := (by show _ = _; rw [← hu23]; exact zero_more ZP.out)
          replace ZN : Hid (u23.heap[w.heap.size + 2]? = some (.cells #[.int .i64 now] 3 (0, 0))) := (by show _ = _; rw [← hu23]; exact zero_more ZN.out)
          replace Tgb : Hid (u23.heap[gb]? = some (.cells #[.bool false, .bool false, .bool false, .bool false, .bool false, .bool false, .int .i64 0, .int .i64 0, .int .i64 0] 44 (0, 0))) := (by show _ = _; rw [← hu23]; exact zero_more Tgb.out)
          have Tga : Hid (u23.heap[ga]? = some (.cells #[.bool false, .bool false, .bool false, .bool false, .bool false, .bool false, .int .i64 0, .int .i64 0, .int .i64 0] 44 (0, 0))) := (by show _ = _; rw [← hu23, ← hga]; exact heap_alloc_new u22 _)
          have nbga : w.heap.size ≤ ga := (by rw [← hga]; exact HB.out.size)
          replace HB : Hid (Below w.heap.size w u23) := (by show Below _ _ _; rw [← hu23]; exact HB.out.alloc HB.out.size _)
          clear hu23 hga
          refine hK.out _ _ (⟨(cel5r ZQ.out).2.2.2.1, (cel5r ZP.out).2.2.2.1⟩) (fun hHeld => ?_)
          clear hK
          try simp only [Act.put, List.setIfInBounds_toArray, List.set_cons_zero, List.set_cons_succ]
          refine wpAnyH_ready (rs := [8]) (by kernel_rfl) (by simp) (AllReadyH.cons rfl (fun K hK => ?_) AllReadyH.nil)
          refine step_store_row rfl _ _ _ rfl ga #[.bool ans, .bool anc, .bool apv, .bool apu, .bool amc, .bool aoi, .int .i64 ama, .int .i64 ash, .int .i64 amf] rfl rfl 44 #[.bool false, .bool false, .bool false, .bool false, .bool false, .bool false, .int .i64 0, .int .i64 0, .int .i64 0] Tga.out (by kernel_rfl) rfl (by simp [Value.oneCell']) ?_
          obtain ⟨u24, hu24⟩ : ∃ W, u23.setRow ga #[.bool ans, .bool anc, .bool apv, .bool apu, .bool amc, .bool aoi, .int .i64 ama, .int .i64 ash, .int .i64 amf] = W := ⟨_, rfl⟩
          rw [hu24]
          replace ZQ : Hid (u24.heap[w.heap.size]? = some (.cells #[.string m, .string t, .int .i64 v, .slice A f.length c, .string b] 24 (0, 0))) := (by show _ = _; rw [← hu24, setRow_other _ _ _ _ (by omega)]; exact ZQ.out)
          replace ZP : Hid (u24.heap[w.heap.size + 1]? = some (.cells #[.int .i64 pc, .string pr, .int .i64 pv, .slice B g.length d, .string pb] 26 (0, 0))) := (by show _ = _; rw [← hu24, setRow_other _ _ _ _ (by omega)]; exact ZP.out)
          replace ZN : Hid (u24.heap[w.heap.size + 2]? = some (.cells #[.int .i64 now] 3 (0, 0))) := (by show _ = _; rw [← hu24, setRow_other _ _ _ _ (by omega)]; exact ZN.out)
          replace Tgb : Hid (u24.heap[gb]? = some (.cells #[.bool false, .bool false, .bool false, .bool false, .bool false, .bool false, .int .i64 0, .int .i64 0, .int .i64 0] 44 (0, 0))) := (by show _ = _; rw [← hu24, setRow_other _ _ _ _ (by omega)]; exact Tgb.out)
          replace Tga : Hid (u24.heap[ga]? = some (.cells #[.bool ans, .bool anc, .bool apv, .bool apu, .bool amc, .bool aoi, .int .i64 ama, .int .i64 ash, .int .i64 amf] 44 (0, 0))) := (by show _ = _; rw [← hu24]; exact setRow_heap _ _ _ _ _ _ Tga.out)
          replace HB : Hid (Below w.heap.size w u24) := (by show Below _ _ _; rw [← hu24]; exact below_setRow HB.out nbga _)
          clear hu24
          refine hK.out _ _ (⟨(cel5r ZQ.out).2.2.2.1, (cel5r ZP.out).2.2.2.1⟩) (fun hHeld => ?_)
          clear hK
          try simp only [Act.put, List.setIfInBounds_toArray, List.set_cons_zero, List.set_cons_succ]
          refine wpAnyH_ready (rs := [9]) (by kernel_rfl) (by simp) (AllReadyH.cons rfl (fun K hK => ?_) AllReadyH.nil)
          refine step_store_row rfl _ _ _ rfl gb #[.bool ns, .bool nc, .bool pv', .bool pu, .bool mc, .bool oi, .int .i64 ma, .int .i64 sh, .int .i64 mf] rfl rfl 44 #[.bool false, .bool false, .bool false, .bool false, .bool false, .bool false, .int .i64 0, .int .i64 0, .int .i64 0] Tgb.out (by kernel_rfl) rfl (by simp [Value.oneCell']) ?_
          obtain ⟨u25, hu25⟩ : ∃ W, u24.setRow gb #[.bool ns, .bool nc, .bool pv', .bool pu, .bool mc, .bool oi, .int .i64 ma, .int .i64 sh, .int .i64 mf] = W := ⟨_, rfl⟩
          rw [hu25]
          replace ZQ : Hid (u25.heap[w.heap.size]? = some (.cells #[.string m, .string t, .int .i64 v, .slice A f.length c, .string b] 24 (0, 0))) := (by show _ = _; rw [← hu25, setRow_other _ _ _ _ (by omega)]; exact ZQ.out)
          replace ZP : Hid (u25.heap[w.heap.size + 1]? = some (.cells #[.int .i64 pc, .string pr, .int .i64 pv, .slice B g.length d, .string pb] 26 (0, 0))) := (by show _ = _; rw [← hu25, setRow_other _ _ _ _ (by omega)]; exact ZP.out)
          replace ZN : Hid (u25.heap[w.heap.size + 2]? = some (.cells #[.int .i64 now] 3 (0, 0))) := (by show _ = _; rw [← hu25, setRow_other _ _ _ _ (by omega)]; exact ZN.out)
          replace Tga : Hid (u25.heap[ga]? = some (.cells #[.bool ans, .bool anc, .bool apv, .bool apu, .bool amc, .bool aoi, .int .i64 ama, .int .i64 ash, .int .i64 amf] 44 (0, 0))) := (by show _ = _; rw [← hu25, setRow_other _ _ _ _ (by omega)]; exact Tga.out)
          replace Tgb : Hid (u25.heap[gb]? = some (.cells #[.bool ns, .bool nc, .bool pv', .bool pu, .bool mc, .bool oi, .int .i64 ma, .int .i64 sh, .int .i64 mf] 44 (0, 0))) := (by show _ = _; rw [← hu25]; exact setRow_heap _ _ _ _ _ _ Tgb.out)
          replace HB : Hid (Below w.heap.size w u25) := (by show Below _ _ _; rw [← hu25]; exact below_setRow HB.out nbgb _)
          clear hu25
          refine hK.out _ _ (⟨(cel5r ZQ.out).2.2.2.1, (cel5r ZP.out).2.2.2.1⟩) (fun hHeld => ?_)
          clear hK
          try simp only [Act.put, List.setIfInBounds_toArray, List.set_cons_zero, List.set_cons_succ]
          refine wpAnyH_done (by kernel_rfl) ?_ _
          go_wp2_with fail
          go_meet
          exact ⟨ga, gb, rfl, rfl, Tga.out, Tgb.out, ZQ.out, ZP.out, ZN.out, HB.out⟩
        · go_simp
          obtain ⟨u26, hu26⟩ : ∃ W, u21.alloc (.cells #[.bool false, .bool false, .bool false, .bool false, .bool false, .bool false, .int .i64 0, .int .i64 0, .int .i64 0] 44) = W := ⟨_, rfl⟩
          obtain ⟨ga, hga⟩ : ∃ g, u21.heap.size = g := ⟨_, rfl⟩
          rw [hu26, hga]
          have nZQga : w.heap.size < ga := (by rw [← hga]; exact (Array.getElem?_eq_some_iff.1 ZQ.out).1)
          have nZPga : w.heap.size + 1 < ga := (by rw [← hga]; exact (Array.getElem?_eq_some_iff.1 ZP.out).1)
          have nZNga : w.heap.size + 2 < ga := (by rw [← hga]; exact (Array.getElem?_eq_some_iff.1 ZN.out).1)
          have nTgbga : gb < ga := (by rw [← hga]; exact (Array.getElem?_eq_some_iff.1 Tgb.out).1)
          replace ZQ : Hid (u26.heap[w.heap.size]? = some (.cells #[.string m, .string t, .int .i64 v, .slice A f.length c, .string b] 24 (0, 0))) := (by show _ = _; rw [← hu26]; exact zero_more ZQ.out)
          replace ZP : Hid (u26.heap[w.heap.size + 1]? = some (.cells #[.int .i64 pc, .string pr, .int .i64 pv, .slice B g.length d, .string pb] 26 (0, 0))) := (by show _ = _; rw [← hu26]; exact zero_more ZP.out)
          replace ZN : Hid (u26.heap[w.heap.size + 2]? = some (.cells #[.int .i64 now] 3 (0, 0))) := (by show _ = _; rw [← hu26]; exact zero_more ZN.out)
          replace Tgb : Hid (u26.heap[gb]? = some (.cells #[.bool false, .bool false, .bool false, .bool false, .bool false, .bool false, .int .i64 0, .int .i64 0, .int .i64 0] 44 (0, 0))) := (by show _ = _; rw [← hu26]; exact zero_more Tgb.out)
          have Tga : Hid (u26.heap[ga]? = some (.cells #[.bool false, .bool false, .bool false, .bool false, .bool false, .bool false, .int .i64 0, .int .i64 0, .int .i64 0] 44 (0, 0))) := (by show _ = _; rw [← hu26, ← hga]; exact heap_alloc_new u21 _)
          have nbga : w.heap.size ≤ ga := (by rw [← hga]; exact HB.out.size)
          replace HB : Hid (Below w.heap.size w u26) := (by show Below _ _ _; rw [← hu26]; exact HB.out.alloc HB.out.size _)
          clear hu26 hga
          refine hK.out _ _ (⟨(cel5r ZQ.out).2.2.2.1, (cel5r ZP.out).2.2.2.1⟩) (fun hHeld => ?_)
          clear hK
          try simp only [Act.put, List.setIfInBounds_toArray, List.set_cons_zero, List.set_cons_succ]
          refine wpAnyH_ready (rs := [5]) (by kernel_rfl) (by simp) (AllReadyH.cons rfl (fun K hK => ?_) AllReadyH.nil)
          go_simp
          go_at_call 23
          refine (C2.out _ HB.out).mono ?_
          rintro e u27 ⟨rfl, hb⟩
          replace ZQ := Lib.hid (zero_still hb ZQ.out)
          replace ZP := Lib.hid (zero_still hb ZP.out)
          replace ZN := Lib.hid (zero_still hb ZN.out)
          replace Tgb := Lib.hid (zero_still hb Tgb.out)
          replace Tga := Lib.hid (zero_still hb Tga.out)
          replace HB := Lib.hid (below_then HB.out hb)
          clear hb
          try go_wp2_with fail
          refine hK.out _ _ (⟨(cel5r ZQ.out).2.2.2.1, (cel5r ZP.out).2.2.2.1⟩) (fun hHeld => ?_)
          clear hK
          try simp only [Act.put, List.setIfInBounds_toArray, List.set_cons_zero, List.set_cons_succ]
          refine wpAnyH_ready (rs := [8]) (by kernel_rfl) (by simp) (AllReadyH.cons rfl (fun K hK => ?_) AllReadyH.nil)
          refine step_store_row rfl _ _ _ rfl ga #[.bool ans, .bool anc, .bool apv, .bool apu, .bool amc, .bool aoi, .int .i64 ama, .int .i64 ash, .int .i64 amf] rfl rfl 44 #[.bool false, .bool false, .bool false, .bool false, .bool false, .bool false, .int .i64 0, .int .i64 0, .int .i64 0] Tga.out (by kernel_rfl) rfl (by simp [Value.oneCell']) ?_
          obtain ⟨u28, hu28⟩ : ∃ W, u27.setRow ga #[.bool ans, .bool anc, .bool apv, .bool apu, .bool amc, .bool aoi, .int .i64 ama, .int .i64 ash, .int .i64 amf] = W := ⟨_, rfl⟩
          rw [hu28]
          replace ZQ : Hid (u28.heap[w.heap.size]? = some (.cells #[.string m, .string t, .int .i64 v, .slice A f.length c, .string b] 24 (0, 0))) := (by show _ = _; rw [← hu28, setRow_other _ _ _ _ (by omega)]; exact ZQ.out)
          replace ZP : Hid (u28.heap[w.heap.size + 1]? = some (.cells #[.int .i64 pc, .string pr, .int .i64 pv, .slice B g.length d, .string pb] 26 (0, 0))) := (by show _ = _; rw [← hu28, setRow_other _ _ _ _ (by omega)]; exact ZP.out)
          replace ZN : Hid (u28.heap[w.heap.size + 2]? = some (.cells #[.int .i64 now] 3 (0, 0))) := (by show _ = _; rw [← hu28, setRow_other _ _ _ _ (by omega)]; exact ZN.out)
          replace Tgb : Hid (u28.heap[gb]? = some (.cells #[.bool false, .bool false, .bool false, .bool false, .bool false, .bool false, .int .i64 0, .int .i64 0, .int .i64 0] 44 (0, 0))) := (by show _ = _; rw [← hu28, setRow_other _ _ _ _ (by omega)]; exact Tgb.out)
          replace Tga : Hid (u28.heap[ga]? = some (.cells #[.bool ans, .bool anc, .bool apv, .bool apu, .bool amc, .bool aoi, .int .i64 ama, .int .i64 ash, .int .i64 amf] 44 (0, 0))) := (by show _ = _; rw [← hu28]; exact setRow_heap _ _ _ _ _ _ Tga.out)
          replace HB : Hid (Below w.heap.size w u28) := (by show Below _ _ _; rw [← hu28]; exact below_setRow HB.out nbga _)
          clear hu28
          refine hK.out _ _ (⟨(cel5r ZQ.out).2.2.2.1, (cel5r ZP.out).2.2.2.1⟩) (fun hHeld => ?_)
          clear hK
          try simp only [Act.put, List.setIfInBounds_toArray, List.set_cons_zero, List.set_cons_succ]
          refine wpAnyH_ready (rs := [9]) (by kernel_rfl) (by simp) (AllReadyH.cons rfl (fun K hK => ?_) AllReadyH.nil)
          refine step_store_row rfl _ _ _ rfl gb #[.bool ns, .bool nc, .bool pv', .bool pu, .bool mc, .bool oi, .int .i64 ma, .int .i64 sh, .int .i64 mf] rfl rfl 44 #[.bool false, .bool false, .bool false, .bool false, .bool false, .bool false, .int .i64 0, .int .i64 0, .int .i64 0] Tgb.out (by kernel_rfl) rfl (by simp [Value.oneCell']) ?_
          obtain ⟨u29, hu29⟩ : ∃ W, u28.setRow gb #[.bool ns, .bool nc, .bool pv', .bool pu, .bool mc, .bool oi, .int .i64 ma, .int .i64 sh, .int .i64 mf] = W := ⟨_, rfl⟩
          rw [hu29]
          replace ZQ : Hid (u29.heap[w.heap.size]? = some (.cells #[.string m, .string t, .int .i64 v, .slice A f.length c, .string b] 24 (0, 0))) := (by show _ = _; rw [← hu29, setRow_other _ _ _ _ (by omega)]; exact ZQ.out)
          replace ZP : Hid (u29.heap[w.heap.size + 1]? = some (.cells #[.int .i64 pc, .string pr, .int .i64 pv, .slice B g.length d, .string pb] 26 (0, 0))) := (by show _ = _; rw [← hu29, setRow_other _ _ _ _ (by omega)]; exact ZP.out)
          replace ZN : Hid (u29.heap[w.heap.size + 2]? = some (.cells #[.int .i64 now] 3 (0, 0))) := (by show _ = _; rw [← hu29, setRow_other _ _ _ _ (by omega)]; exact ZN.out)
          replace Tga : Hid (u29.heap[ga]? = some (.cells #[.bool ans, .bool anc, .bool apv, .bool apu, .bool amc, .bool aoi, .int .i64 ama, .int .i64 ash, .int .i64 amf] 44 (0, 0))) := (by show _ = _; rw [← hu29, setRow_other _ _ _ _ (by omega)]; exact Tga.out)
          replace Tgb : Hid (u29.heap[gb]? = some (.cells #[.bool ns, .bool nc, .bool pv', .bool pu, .bool mc, .bool oi, .int .i64 ma, .int .i64 sh, .int .i64 mf] 44 (0, 0))) := (by show _ = _; rw [← hu29]; exact setRow_heap _ _ _ _ _ _ Tgb.out)
          replace HB : Hid (Below w.heap.size w u29) := (by show Below _ _ _; rw [← hu29]; exact below_setRow HB.out nbgb _)
          clear hu29
          refine hK.out _ _ (⟨(cel5r ZQ.out).2.2.2.1, (cel5r ZP.out).2.2.2.1⟩) (fun hHeld => ?_)
          clear hK
          try simp only [Act.put, List.setIfInBounds_toArray, List.set_cons_zero, List.set_cons_succ]
          refine wpAnyH_done (by kernel_rfl) ?_ _
          go_wp2_with fail
          go_meet
          exact ⟨ga, gb, rfl, rfl, Tga.out, Tgb.out, ZQ.out, ZP.out, ZN.out, HB.out⟩
    · go_simp
      obtain ⟨u30, hu30⟩ : ∃ W, u1.alloc (.cells #[.bool false, .bool false, .bool false, .bool false, .bool false, .bool false, .int .i64 0, .int .i64 0, .int .i64 0] 44) = W := ⟨_, rfl⟩
      obtain ⟨ga, hga⟩ : ∃ g, u1.heap.size = g := ⟨_, rfl⟩
      rw [hu30, hga]
      have nZQga : w.heap.size < ga := (by rw [← hga]; exact (Array.getElem?_eq_some_iff.1 ZQ.out).1)
      have nZPga : w.heap.size + 1 < ga := (by rw [← hga]; exact (Array.getElem?_eq_some_iff.1 ZP.out).1)
      have nZNga : w.heap.size + 2 < ga := (by rw [← hga]; exact (Array.getElem?_eq_some_iff.1 ZN.out).1)
      replace ZQ : Hid (u30.heap[w.heap.size]? = some (.cells #[.string m, .string t, .int .i64 v, .slice A f.length c, .string b] 24 (0, 0))) := (by show _ = _; rw [← hu30]; exact zero_more ZQ.out)
      replace ZP : Hid (u30.heap[w.heap.size + 1]? = some (.cells #[.int .i64 pc, .string pr, .int .i64 pv, .slice B g.length d, .string pb] 26 (0, 0))) := (by show _ = _; rw [← hu30]; exact zero_more ZP.out)
      replace ZN : Hid (u30.heap[w.heap.size + 2]? = some (.cells #[.int .i64 now] 3 (0, 0))) := (by show _ = _; rw [← hu30]; exact zero_more ZN.out)
      have Tga : Hid (u30.heap[ga]? = some (.cells #[.bool false, .bool false, .bool false, .bool false, .bool false, .bool false, .int .i64 0, .int .i64 0, .int .i64 0] 44 (0, 0))) := (by show _ = _; rw [← hu30, ← hga]; exact heap_alloc_new u1 _)
      have nbga : w.heap.size ≤ ga := (by rw [← hga]; exact HB.out.size)
      replace HB : Hid (Below w.heap.size w u30) := (by show Below _ _ _; rw [← hu30]; exact HB.out.alloc HB.out.size _)
      clear hu30 hga
      refine hK.out _ _ (⟨(cel5r ZQ.out).2.2.2.1, (cel5r ZP.out).2.2.2.1⟩) (fun hHeld => ?_)
      clear hK
      try simp only [Act.put, List.setIfInBounds_toArray, List.set_cons_zero, List.set_cons_succ]
      refine wpAnyH_ready (rs := [2, 7]) (by kernel_rfl) (by simp) (AllReadyH.cons rfl (fun K hK => ?_) (AllReadyH.cons rfl (fun K hK => ?_) AllReadyH.nil))
      · go_simp
        go_at_call 22
        refine (C1.out _ HB.out).mono ?_
        rintro e u31 ⟨rfl, hb⟩
        replace ZQ := Lib.hid (zero_still hb ZQ.out)
        replace ZP := Lib.hid (zero_still hb ZP.out)
        replace ZN := Lib.hid (zero_still hb ZN.out)
        replace Tga := Lib.hid (zero_still hb Tga.out)
        replace HB := Lib.hid (below_then HB.out hb)
        clear hb
        try go_wp2_with fail
        refine hK.out _ _ (⟨(cel5r ZQ.out).2.2.2.1, (cel5r ZP.out).2.2.2.1⟩) (fun hHeld => ?_)
        clear hK
        try simp only [Act.put, List.setIfInBounds_toArray, List.set_cons_zero, List.set_cons_succ]
        refine wpAnyH_ready (rs := [5, 7]) (by kernel_rfl) (by simp) (AllReadyH.cons rfl (fun K hK => ?_) (AllReadyH.cons rfl (fun K hK => ?_) AllReadyH.nil))
        · go_simp
          go_at_call 23
          refine (C2.out _ HB.out).mono ?_
          rintro e u32 ⟨rfl, hb⟩
          replace ZQ := Lib.hid (zero_still hb ZQ.out)
          replace ZP := Lib.hid (zero_still hb ZP.out)
          replace ZN := Lib.hid (zero_still hb ZN.out)
          replace Tga := Lib.hid (zero_still hb Tga.out)
          replace HB := Lib.hid (below_then HB.out hb)
          clear hb
          try go_wp2_with fail
          refine hK.out _ _ (⟨(cel5r ZQ.out).2.2.2.1, (cel5r ZP.out).2.2.2.1⟩) (fun hHeld => ?_)
          clear hK
          try simp only [Act.put, List.setIfInBounds_toArray, List.set_cons_zero, List.set_cons_succ]
          refine wpAnyH_ready (rs := [7]) (by kernel_rfl) (by simp) (AllReadyH.cons rfl (fun K hK => ?_) AllReadyH.nil)
          go_simp
          obtain ⟨u33, hu33⟩ : ∃ W, u32.alloc (.cells #[.bool false, .bool false, .bool false, .bool false, .bool false, .bool false, .int .i64 0, .int .i64 0, .int .i64 0] 44) = W := ⟨_, rfl⟩
          obtain ⟨gb, hgb⟩ : ∃ g, u32.heap.size = g := ⟨_, rfl⟩
          rw [hu33, hgb]
          have nZQgb : w.heap.size < gb := (by rw [← hgb]; exact (Array.getElem?_eq_some_iff.1 ZQ.out).1)
          have nZPgb : w.heap.size + 1 < gb := (by rw [← hgb]; exact (Array.getElem?_eq_some_iff.1 ZP.out).1)
          have nZNgb : w.heap.size + 2 < gb := (by rw [← hgb]; exact (Array.getElem?_eq_some_iff.1 ZN.out).1)
          have nTgagb : ga < gb := (by rw [← hgb]; exact (Array.getElem?_eq_some_iff.1 Tga.out).1)
          replace ZQ : Hid (u33.heap[w.heap.size]? = some (.cells #[.string m, .string t, .int .i64 v, .slice A f.length c, .string b] 24 (0, 0))) := (by show _ = _; rw [← hu33]; exact zero_more ZQ.out)
          replace ZP : Hid (u33.heap[w.heap.size + 1]? = some (.cells #[.int .i64 pc, .string pr, .int .i64 pv, .slice B g.length d, .string pb] 26 (0, 0))) := (by show _ = _; rw [← hu33]; exact zero_more ZP.out)
          replace ZN : Hid (u33.heap[w.heap.size + 2]? = some (.cells #[.int .i64 now] 3 (0, 0))) := (by show _ = _; rw [← hu33]; exact zero_more ZN.out)
          replace Tga : Hid (u33.heap[ga]? = some (.cells #[.bool false, .bool false, .bool false, .bool false, .bool false, .bool false, .int .i64 0, .int .i64 0, .int .i64 0] 44 (0, 0))) := (by show _ = _; rw [← hu33]; exact zero_more Tga.out)
          have Tgb : Hid (u33.heap[gb]? = some (.cells #[.bool false, .bool false, .bool false, .bool false, .bool false, .bool false, .int .i64 0, .int .i64 0, .int .i64 0] 44 (0, 0))) := (by show _ = _; rw [← hu33, ← hgb]; exact heap_alloc_new u32 _)
          have nbgb : w.heap.size ≤ gb := (by rw [← hgb]; exact HB.out.size)
          replace HB : Hid (Below w.heap.size w u33) := (by show Below _ _ _; rw [← hu33]; exact HB.out.alloc HB.out.size _)
          clear hu33 hgb
          refine hK.out _ _ (⟨(cel5r ZQ.out).2.2.2.1, (cel5r ZP.out).2.2.2.1⟩) (fun hHeld => ?_)
          clear hK
          try simp only [Act.put, List.setIfInBounds_toArray, List.set_cons_zero, List.set_cons_succ]
          refine wpAnyH_ready (rs := [8]) (by kernel_rfl) (by simp) (AllReadyH.cons rfl (fun K hK => ?_) AllReadyH.nil)
          refine step_store_row rfl _ _ _ rfl ga #[.bool ans, .bool anc, .bool apv, .bool apu, .bool amc, .bool aoi, .int .i64 ama, .int .i64 ash, .int .i64 amf] rfl rfl 44 #[.bool false, .bool false, .bool false, .bool false, .bool false, .bool false, .int .i64 0, .int .i64 0, .int .i64 0] Tga.out (by kernel_rfl) rfl (by simp [Value.oneCell']) ?_
          obtain ⟨u34, hu34⟩ : ∃ W, u33.setRow ga #[.bool ans, .bool anc, .bool apv, .bool apu, .bool amc, .bool aoi, .int .i64 ama, .int .i64 ash, .int .i64 amf] = W := ⟨_, rfl⟩
          rw [hu34]
          replace ZQ : Hid (u34.heap[w.heap.size]? = some (.cells #[.string m, .string t, .int .i64 v, .slice A f.length c, .string b] 24 (0, 0))) := (by show _ = _; rw [← hu34, setRow_other _ _ _ _ (by omega)]; exact ZQ.out)
          replace ZP : Hid (u34.heap[w.heap.size + 1]? = some (.cells #[.int .i64 pc, .string pr, .int .i64 pv, .slice B g.length d, .string pb] 26 (0, 0))) := (by show _ = _; rw [← hu34, setRow_other _ _ _ _ (by omega)]; exact ZP.out)
          replace ZN : Hid (u34.heap[w.heap.size + 2]? = some (.cells #[.int .i64 now] 3 (0, 0))) := (by show _ = _; rw [← hu34, setRow_other _ _ _ _ (by omega)]; exact ZN.out)
          replace Tgb : Hid (u34.heap[gb]? = some (.cells #[.bool false, .bool false, .bool false, .bool false, .bool false, .bool false, .int .i64 0, .int .i64 0, .int .i64 0] 44 (0, 0))) := (by show _ = _; rw [← hu34, setRow_other _ _ _ _ (by omega)]; exact Tgb.out)
          replace Tga : Hid (u34.heap[ga]? = some (.cells #[.bool ans, .bool anc, .bool apv, .bool apu, .bool amc, .bool aoi, .int .i64 ama, .int .i64 ash, .int .i64 amf] 44 (0, 0))) := (by show _ = _; rw [← hu34]; exact setRow_heap _ _ _ _ _ _ Tga.out)
          replace HB : Hid (Below w.heap.size w u34) := (by show Below _ _ _; rw [← hu34]; exact below_setRow HB.out nbga _)
          clear hu34
          refine hK.out _ _ (⟨(cel5r ZQ.out).2.2.2.1, (cel5r ZP.out).2.2.2.1⟩) (fun hHeld => ?_)
          clear hK
          try simp only [Act.put, List.setIfInBounds_toArray, List.set_cons_zero, List.set_cons_succ]
          refine wpAnyH_ready (rs := [9]) (by kernel_rfl) (by simp) (AllReadyH.cons rfl (fun K hK => ?_) AllReadyH.nil)
          refine step_store_row rfl _ _ _ rfl gb #[.bool ns, .bool nc, .bool pv', .bool pu, .bool mc, .bool oi, .int .i64 ma, .int .i64 sh, .int .i64 mf] rfl rfl 44 #[.bool false, .bool false, .bool false, .bool false, .bool false, .bool false, .int .i64 0, .int .i64 0, .int .i64 0] Tgb.out (by kernel_rfl) rfl (by simp [Value.oneCell']) ?_
          obtain ⟨u35, hu35⟩ : ∃ W, u34.setRow gb #[.bool ns, .bool nc, .bool pv', .bool pu, .bool mc, .bool oi, .int .i64 ma, .int .i64 sh, .int .i64 mf] = W := ⟨_, rfl⟩
          rw [hu35]
          replace ZQ : Hid (u35.heap[w.heap.size]? = some (.cells #[.string m, .string t, .int .i64 v, .slice A f.length c, .string b] 24 (0, 0))) := (by show _ = _; rw [← hu35, setRow_other _ _ _ _ (by omega)]; exact ZQ.out)
          replace ZP : Hid (u35.heap[w.heap.size + 1]? = some (.cells #[.int .i64 pc, .string pr, .int .i64 pv, .slice B g.length d, .string pb] 26 (0, 0))) := (by show _ = _; rw [← hu35, setRow_other _ _ _ _ (by omega)]; exact ZP.out)
          replace ZN : Hid (u35.heap[w.heap.size + 2]? = some (.cells #[.int .i64 now] 3 (0, 0))) := (by show _ = _; rw [← hu35, setRow_other _ _ _ _ (by omega)]; exact ZN.out)
          replace Tga : Hid (u35.heap[ga]? = some (.cells #[.bool ans, .bool anc, .bool apv, .bool apu, .bool amc, .bool aoi, .int .i64 ama, .int .i64 ash, .int .i64 amf] 44 (0, 0))) := (by show _ = _; rw [← hu35, setRow_other _ _ _ _ (by omega)]; exact Tga.out)
          replace Tgb : Hid (u35.heap[gb]? = some (.cells #[.bool ns, .bool nc, .bool pv', .bool pu, .bool mc, .bool oi, .int .i64 ma, .int .i64 sh, .int .i64 mf] 44 (0, 0))) := (by show _ = _; rw [← hu35]; exact setRow_heap _ _ _ _ _ _ Tgb.out)
          replace HB : Hid (Below w.heap.size w u35) := (by show Below _ _ _; rw [← hu35]; exact below_setRow HB.out nbgb _)
          clear hu35
          refine hK.out _ _ (⟨(cel5r ZQ.out).2.2.2.1, (cel5r ZP.out).2.2.2.1⟩) (fun hHeld => ?_)
          clear hK
          try simp only [Act.put, List.setIfInBounds_toArray, List.set_cons_zero, List.set_cons_succ]
          refine wpAnyH_done (by kernel_rfl) ?_ _
          go_wp2_with fail
          go_meet
          exact ⟨ga, gb, rfl, rfl, Tga.out, Tgb.out, ZQ.out, ZP.out, ZN.out, HB.out⟩
        · go_simp
          obtain ⟨u36, hu36⟩ : ∃ W, u31.alloc (.cells #[.bool false, .bool false, .bool false, .bool false, .bool false, .bool false, .int .i64 0, .int .i64 0, .int .i64 0] 44) = W := ⟨_, rfl⟩
          obtain ⟨gb, hgb⟩ : ∃ g, u31.heap.size = g := ⟨_, rfl⟩
          rw [hu36, hgb]
          have nZQgb : w.heap.size < gb := (by rw [← hgb]; exact (Array.getElem?_eq_some_iff.1 ZQ.out).1)
          have nZPgb : w.heap.size + 1 < gb := (by rw [← hgb]; exact (Array.getElem?_eq_some_iff.1 ZP.out).1)
          have nZNgb : w.heap.size + 2 < gb := (by rw [← hgb]; exact (Array.getElem?_eq_some_iff.1 ZN.out).1)
          have nTgagb : ga < gb := (by rw [← hgb]; exact (Array.getElem?_eq_some_iff.1 Tga.out).1)
          replace ZQ : Hid (u36.heap[w.heap.size]? = some (.cells #[.string m, .string t, .int .i64 v, .slice A f.length c, .string b] 24 (0, 0))) := (by show _ = _; rw [← hu36]; exact zero_more ZQ.out)
          replace ZP : Hid (u36.heap[w.heap.size + 1]? = some (.cells #[.int .i64 pc, .string pr, .int .i64 pv, .slice B g.length d, .string pb] 26 (0, 0))) := (by show _ = _; rw [← hu36]; exact zero_more ZP.out)
          replace ZN : Hid (u36.heap[w.heap.size + 2]? = some (.cells #[.int .i64 now] 3 (0, 0))) := (by show _ = _; rw [← hu36]; exact zero_more ZN.out)
          replace Tga : Hid (u36.heap[ga]? = some (.cells #[.bool false, .bool false, .bool false, .bool false, .bool false, .bool false, .int .i64 0, .int .i64 0, .int .i64 0] 44 (0, 0))) := (by show _ = _; rw [← hu36]; exact zero_more Tga.out)
          have Tgb : Hid (u36.heap[gb]? = some (.cells #[.bool false, .bool false, .bool false, .bool false, .bool false, .bool false, .int .i64 0, .int .i64 0, .int .i64 0] 44 (0, 0))) := (by show _ = _; rw [← hu36, ← hgb]; exact heap_alloc_new u31 _)
          have nbgb : w.heap.size ≤ gb := (by rw [← hgb]; exact HB.out.size)
          replace HB : Hid (Below w.heap.size w u36) := (by show Below _ _ _; rw [← hu36]; exact HB.out.alloc HB.out.size _)
          clear hu36 hgb
          refine hK.out _ _ (⟨(cel5r ZQ.out).2.2.2.1, (cel5r ZP.out).2.2.2.1⟩) (fun hHeld => ?_)
          clear hK
          try simp only [Act.put, List.setIfInBounds_toArray, List.set_cons_zero, List.set_cons_succ]
          refine wpAnyH_ready (rs := [5]) (by kernel_rfl) (by simp) (AllReadyH.cons rfl (fun K hK => ?_) AllReadyH.nil)
          go_simp
          go_at_call 23
          refine (C2.out _ HB.out).mono ?_
          rintro e u37 ⟨rfl, hb⟩
          replace ZQ := Lib.hid (zero_still hb ZQ.out)
          replace ZP := Lib.hid (zero_still hb ZP.out)
          replace ZN := Lib.hid (zero_still hb ZN.out)
          replace Tga := Lib.hid (zero_still hb Tga.out)
          replace Tgb := Lib.hid (zero_still hb Tgb.out)
          replace HB := Lib.hid (below_then HB.out hb)
          clear hb
          try go_wp2_with fail
          refine hK.out _ _ (⟨(cel5r ZQ.out).2.2.2.1, (cel5r ZP.out).2.2.2.1⟩) (fun hHeld => ?_)
          clear hK
          try simp only [Act.put, List.setIfInBounds_toArray, List.set_cons_zero, List.set_cons_succ]
          refine wpAnyH_ready (rs := [8]) (by kernel_rfl) (by simp) (AllReadyH.cons rfl (fun K hK => ?_) AllReadyH.nil)
          refine step_store_row rfl _ _ _ rfl ga #[.bool ans, .bool anc, .bool apv, .bool apu, .bool amc, .bool aoi, .int .i64 ama, .int .i64 ash, .int .i64 amf] rfl rfl 44 #[.bool false, .bool false, .bool false, .bool false, .bool false, .bool false, .int .i64 0, .int .i64 0, .int .i64 0] Tga.out (by kernel_rfl) rfl (by simp [Value.oneCell']) ?_
          obtain ⟨u38, hu38⟩ : ∃ W, u37.setRow ga #[.bool ans, .bool anc, .bool apv, .bool apu, .bool amc, .bool aoi, .int .i64 ama, .int .i64 ash, .int .i64 amf] = W := ⟨_, rfl⟩
          rw [hu38]
          replace ZQ : Hid (u38.heap[w.heap.size]? = some (.cells #[.string m, .string t, .int .i64 v, .slice A f.length c, .string b] 24 (0, 0))) := (by show _ = _; rw [← hu38, setRow_other _ _ _ _ (by omega)]; exact ZQ.out)
          replace ZP : Hid (u38.heap[w.heap.size + 1]? = some (.cells #[.int .i64 pc, .string pr, .int .i64 pv, .slice B g.length d, .string pb] 26 (0, 0))) := (by show _ = _; rw [← hu38, setRow_other _ _ _ _ (by omega)]; exact ZP.out)
          replace ZN : Hid (u38.heap[w.heap.size + 2]? = some (.cells #[.int .i64 now] 3 (0, 0))) := (by show _ = _; rw [← hu38, setRow_other _ _ _ _ (by omega)]; exact ZN.out)
          replace Tgb : Hid (u38.heap[gb]? = some (.cells #[.bool false, .bool false, .bool false, .bool false, .bool false, .bool false, .int .i64 0, .int .i64 0, .int .i64 0] 44 (0, 0))) := (by show _ = _; rw [← hu38, setRow_other _ _ _ _ (by omega)]; exact Tgb.out)
          replace Tga : Hid (u38.heap[ga]? = some (.cells #[.bool ans, .bool anc, .bool apv, .bool apu, .bool amc, .bool aoi, .int .i64 ama, .int .i64 ash, .int .i64 amf] 44 (0, 0))) := (by show _ = _; rw [← hu38]; exact setRow_heap _ _ _ _ _ _ Tga.out)
          replace HB : Hid (Below w.heap.size w u38) := (by show Below _ _ _; rw [← hu38]; exact below_setRow HB.out nbga _)
          clear hu38
          refine hK.out _ _ (⟨(cel5r ZQ.out).2.2.2.1, (cel5r ZP.out).2.2.2.1⟩) (fun hHeld => ?_)
          clear hK
          try simp only [Act.put, List.setIfInBounds_toArray, List.set_cons_zero, List.set_cons_succ]
          refine wpAnyH_ready (rs := [9]) (by kernel_rfl) (by simp) (AllReadyH.cons rfl (fun K hK => ?_) AllReadyH.nil)
          refine step_store_row rfl _ _ _ rfl gb #[.bool ns, .bool nc, .bool pv', .bool pu, .bool mc, .bool oi, .int .i64 ma, .int .i64 sh, .int .i64 mf] rfl rfl 44 #[.bool false, .bool false, .bool false, .bool false, .bool false, .bool false, .int .i64 0, .int .i64 0, .int .i64 0] Tgb.out (by kernel_rfl) rfl (by simp [Value.oneCell']) ?_
          obtain ⟨u39, hu39⟩ : ∃ W, u38.setRow gb #[.bool ns, .bool nc, .bool pv', .bool pu, .bool mc, .bool oi, .int .i64 ma, .int .i64 sh, .int .i64 mf] = W := ⟨_, rfl⟩
          rw [hu39]
          replace ZQ : Hid (u39.heap[w.heap.size]? = some (.cells #[.string m, .string t, .int .i64 v, .slice A f.length c, .string b] 24 (0, 0))) := (by show _ = _; rw [← hu39, setRow_other _ _ _ _ (by omega)]; exact ZQ.out)
          replace ZP : Hid (u39.heap[w.heap.size + 1]? = some (.cells #[.int .i64 pc, .string pr, .int .i64 pv, .slice B g.length d, .string pb] 26 (0, 0))) := (by show _ = _; rw [← hu39, setRow_other _ _ _ _ (by omega)]; exact ZP.out)
          replace ZN : Hid (u39.heap[w.heap.size + 2]? = some (.cells #[.int .i64 now] 3 (0, 0))) := (by show _ = _; rw [← hu39, setRow_other _ _ _ _ (by omega)]; exact ZN.out)
          replace Tga : Hid (u39.heap[ga]? = some (.cells #[.bool ans, .bool anc, .bool apv, .bool apu, .bool amc, .bool aoi, .int .i64 ama, .int .i64 ash, .int .i64 amf] 44 (0, 0))) := (by show _ = _; rw [← hu39, setRow_other _ _ _ _ (by omega)]; exact Tga.out)
          replace Tgb : Hid (u39.heap[gb]? = some (.cells #[.bool ns, .bool nc, .bool pv', .bool pu, .bool mc, .bool oi, .int .i64 ma, .int .i64 sh, .int .i64 mf] 44 (0, 0))) := (by show _ = _; rw [← hu39]; exact setRow_heap _ _ _ _ _ _ Tgb.out)
          replace HB : Hid (Below w.heap.size w u39) := (by show Below _ _ _; rw [← hu39]; exact below_setRow HB.out nbgb _)
          clear hu39
          refine hK.out _ _ (⟨(cel5r ZQ.out).2.2.2.1, (cel5r ZP.out).2.2.2.1⟩) (fun hHeld => ?_)
          clear hK
          try simp only [Act.put, List.setIfInBounds_toArray, List.set_cons_zero, List.set_cons_succ]
          refine wpAnyH_done (by kernel_rfl) ?_ _
          go_wp2_with fail
          go_meet
          exact ⟨ga, gb, rfl, rfl, Tga.out, Tgb.out, ZQ.out, ZP.out, ZN.out, HB.out⟩
      · go_simp
        obtain ⟨u40, hu40⟩ : ∃ W, u30.alloc (.cells #[.bool false, .bool false, .bool false, .bool false, .bool false, .bool false, .int .i64 0, .int .i64 0, .int .i64 0] 44) = W := ⟨_, rfl⟩
        obtain ⟨gb, hgb⟩ : ∃ g, u30.heap.size = g := ⟨_, rfl⟩
        rw [hu40, hgb]
        have nZQgb : w.heap.size < gb := (by rw [← hgb]; exact (Array.getElem?_eq_some_iff.1 ZQ.out).1)
        have nZPgb : w.heap.size + 1 < gb := (by rw [← hgb]; exact (Array.getElem?_eq_some_iff.1 ZP.out).1)
        have nZNgb : w.heap.size + 2 < gb := (by rw [← hgb]; exact (Array.getElem?_eq_some_iff.1 ZN.out).1)
        have nTgagb : ga < gb := (by rw [← hgb]; exact (Array.getElem?_eq_some_iff.1 Tga.out).1)
        replace ZQ : Hid (u40.heap[w.heap.size]? = some (.cells #[.string m, .string t, .int .i64 v, .slice A f.length c, .string b] 24 (0, 0))) := (by show _ = _; rw [← hu40]; exact zero_more ZQ.out)
        replace ZP : Hid (u40.heap[w.heap.size + 1]? = some (.cells #[.int .i64 pc, .string pr, .int .i64 pv, .slice B g.length d, .string pb] 26 (0, 0))) := (by show _ = _; rw [← hu40]; exact zero_more ZP.out)
        replace ZN : Hid (u40.heap[w.heap.size + 2]? = some (.cells #[.int .i64 now] 3 (0, 0))) := (by show _ = _; rw [← hu40]; exact zero_more ZN.out)
        replace Tga : Hid (u40.heap[ga]? = some (.cells #[.bool false, .bool false, .bool false, .bool false, .bool false, .bool false, .int .i64 0, .int .i64 0, .int .i64 0] 44 (0, 0))) := (by show _ = _; rw [← hu40]; exact zero_more Tga.out)
        have Tgb : Hid (u40.heap[gb]? = some (.cells #[.bool false, .bool false, .bool false, .bool false, .bool false, .bool false, .int .i64 0, .int .i64 0, .int .i64 0] 44 (0, 0))) := (by show _ = _; rw [← hu40, ← hgb]; exact heap_alloc_new u30 _)
        have nbgb : w.heap.size ≤ gb := (by rw [← hgb]; exact HB.out.size)
        replace HB : Hid (Below w.heap.size w u40) := (by show Below _ _ _; rw [← hu40]; exact HB.out.alloc HB.out.size _)
        clear hu40 hgb
        refine hK.out _ _ (⟨(cel5r ZQ.out).2.2.2.1, (cel5r ZP.out).2.2.2.1⟩) (fun hHeld => ?_)
        clear hK
        try simp only [Act.put, List.setIfInBounds_toArray, List.set_cons_zero, List.set_cons_succ]
        refine wpAnyH_ready (rs := [2]) (by kernel_rfl) (by simp) (AllReadyH.cons rfl (fun K hK => ?_) AllReadyH.nil)
        go_simp
        go_at_call 22
        refine (C1.out _ HB.out).mono ?_
        rintro e u41 ⟨rfl, hb⟩
        replace ZQ := Lib.hid (zero_still hb ZQ.out)
        replace ZP := Lib.hid (zero_still hb ZP.out)
        replace ZN := Lib.hid (zero_still hb ZN.out)
        replace Tga := Lib.hid (zero_still hb Tga.out)
        replace Tgb := Lib.hid (zero_still hb Tgb.out)
        replace HB := Lib.hid (below_then HB.out hb)
        clear hb
        try go_wp2_with fail
        refine hK.out _ _ (⟨(cel5r ZQ.out).2.2.2.1, (cel5r ZP.out).2.2.2.1⟩) (fun hHeld => ?_)
        clear hK
        try simp only [Act.put, List.setIfInBounds_toArray, List.set_cons_zero, List.set_cons_succ]
        refine wpAnyH_ready (rs := [5]) (by kernel_rfl) (by simp) (AllReadyH.cons rfl (fun K hK => ?_) AllReadyH.nil)
        go_simp
        go_at_call 23
        refine (C2.out _ HB.out).mono ?_
        rintro e u42 ⟨rfl, hb⟩
        replace ZQ := Lib.hid (zero_still hb ZQ.out)
        replace ZP := Lib.hid (zero_still hb ZP.out)
        replace ZN := Lib.hid (zero_still hb ZN.out)
        replace Tga := Lib.hid (zero_still hb Tga.out)
        replace Tgb := Lib.hid (zero_still hb Tgb.out)
        replace HB := Lib.hid (below_then HB.out hb)
        clear hb
        try go_wp2_with fail
        refine hK.out _ _ (⟨(cel5r ZQ.out).2.2.2.1, (cel5r ZP.out).2.2.2.1⟩) (fun hHeld => ?_)
        clear hK
        try simp only [Act.put, List.setIfInBounds_toArray, List.set_cons_zero, List.set_cons_succ]
        refine wpAnyH_ready (rs := [8]) (by kernel_rfl) (by simp) (AllReadyH.cons rfl (fun K hK => ?_) AllReadyH.nil)
        refine step_store_row rfl _ _ _ rfl ga #[.bool ans, .bool anc, .bool apv, .bool apu, .bool amc, .bool aoi, .int .i64 ama, .int .i64 ash, .int .i64 amf] rfl rfl 44 #[.bool false, .bool false, .bool false, .bool false, .bool false, .bool false, .int .i64 0, .int .i64 0, .int .i64 0] Tga.out (by kernel_rfl) rfl (by simp [Value.oneCell']) ?_
        obtain ⟨u43, hu43⟩ : ∃ W, u42.setRow ga #[.bool ans, .bool anc, .bool apv, .bool apu, .bool amc, .bool aoi, .int .i64 ama, .int .i64 ash, .int .i64 amf] = W := ⟨_, rfl⟩
        rw [hu43]
        replace ZQ : Hid (u43.heap[w.heap.size]? = some (.cells #[.string m, .string t, .int .i64 v, .slice A f.length c, .string b] 24 (0, 0))) := (by show _ = _; rw [← hu43, setRow_other _ _ _ _ (by omega)]; exact ZQ.out)
        replace ZP : Hid (u43.heap[w.heap.size + 1]? = some (.cells #[.int .i64 pc, .string pr, .int .i64 pv, .slice B g.length d, .string pb] 26 (0, 0))) := (by show _ = _; rw [← hu43, setRow_other _ _ _ _ (by omega)]; exact ZP.out)
        replace ZN : Hid (u43.heap[w.heap.size + 2]? = some (.cells #[.int .i64 now] 3 (0, 0))) := (by show _ = _; rw [← hu43, setRow_other _ _ _ _ (by omega)]; exact ZN.out)
        replace Tgb : Hid (u43.heap[gb]? = some (.cells #[.bool false, .bool false, .bool false, .bool false, .bool false, .bool false, .int .i64 0, .int .i64 0, .int .i64 0] 44 (0, 0))) := (by show _ = _; rw [← hu43, setRow_other _ _ _ _ (by omega)]; exact Tgb.out)
        replace Tga : Hid (u43.heap[ga]? = some (.cells #[.bool ans, .bool anc, .bool apv, .bool apu, .bool amc, .bool aoi, .int .i64 ama, .int .i64 ash, .int .i64 amf] 44 (0, 0))) := (by show _ = _; rw [← hu43]; exact setRow_heap _ _ _ _ _ _ Tga.out)
        replace HB : Hid (Below w.heap.size w u43) := (by show Below _ _ _; rw [← hu43]; exact below_setRow HB.out nbga _)
        clear hu43
        refine hK.out _ _ (⟨(cel5r ZQ.out).2.2.2.1, (cel5r ZP.out).2.2.2.1⟩) (fun hHeld => ?_)
        clear hK
        try simp only [Act.put, List.setIfInBounds_toArray, List.set_cons_zero, List.set_cons_succ]
        refine wpAnyH_ready (rs := [9]) (by kernel_rfl) (by simp) (AllReadyH.cons rfl (fun K hK => ?_) AllReadyH.nil)
        refine step_store_row rfl _ _ _ rfl gb #[.bool ns, .bool nc, .bool pv', .bool pu, .bool mc, .bool oi, .int .i64 ma, .int .i64 sh, .int .i64 mf] rfl rfl 44 #[.bool false, .bool false, .bool false, .bool false, .bool false, .bool false, .int .i64 0, .int .i64 0, .int .i64 0] Tgb.out (by kernel_rfl) rfl (by simp [Value.oneCell']) ?_
        obtain ⟨u44, hu44⟩ : ∃ W, u43.setRow gb #[.bool ns, .bool nc, .bool pv', .bool pu, .bool mc, .bool oi, .int .i64 ma, .int .i64 sh, .int .i64 mf] = W := ⟨_, rfl⟩
        rw [hu44]
        replace ZQ : Hid (u44.heap[w.heap.size]? = some (.cells #[.string m, .string t, .int .i64 v, .slice A f.length c, .string b] 24 (0, 0))) := (by show _ = _; rw [← hu44, setRow_other _ _ _ _ (by omega)]; exact ZQ.out)
        replace ZP : Hid (u44.heap[w.heap.size + 1]? = some (.cells #[.int .i64 pc, .string pr, .int .i64 pv, .slice B g.length d, .string pb] 26 (0, 0))) := (by show _ = _; rw [← hu44, setRow_other _ _ _ _ (by omega)]; exact ZP.out)
        replace ZN : Hid (u44.heap[w.heap.size + 2]? = some (.cells #[.int .i64 now] 3 (0, 0))) := (by show _ = _; rw [← hu44, setRow_other _ _ _ _ (by omega)]; exact ZN.out)
        replace Tga : Hid (u44.heap[ga]? = some (.cells #[.bool ans, .bool anc, .bool apv, .bool apu, .bool amc, .bool aoi, .int .i64 ama, .int .i64 ash, .int .i64 amf] 44 (0, 0))) := (by show _ = _; rw [← hu44, setRow_other _ _ _ _ (by omega)]; exact Tga.out)
        replace Tgb : Hid (u44.heap[gb]? = some (.cells #[.bool ns, .bool nc, .bool pv', .bool pu, .bool mc, .bool oi, .int .i64 ma, .int .i64 sh, .int .i64 mf] 44 (0, 0))) := (by show _ = _; rw [← hu44]; exact setRow_heap _ _ _ _ _ _ Tgb.out)
        replace HB : Hid (Below w.heap.size w u44) := (by show Below _ _ _; rw [← hu44]; exact below_setRow HB.out nbgb _)
        clear hu44
        refine hK.out _ _ (⟨(cel5r ZQ.out).2.2.2.1, (cel5r ZP.out).2.2.2.1⟩) (fun hHeld => ?_)
        clear hK
        try simp only [Act.put, List.setIfInBounds_toArray, List.set_cons_zero, List.set_cons_succ]
        refine wpAnyH_done (by kernel_rfl) ?_ _
        go_wp2_with fail
        go_meet
        exact ⟨ga, gb, rfl, rfl, Tga.out, Tgb.out, ZQ.out, ZP.out, ZN.out, HB.out⟩
    · go_simp
      obtain ⟨u45, hu45⟩ : ∃ W, u1.alloc (.cells #[.bool false, .bool false, .bool false, .bool false, .bool false, .bool false, .int .i64 0, .int .i64 0, .int .i64 0] 44) = W := ⟨_, rfl⟩
      obtain ⟨gb, hgb⟩ : ∃ g, u1.heap.size = g := ⟨_, rfl⟩
      rw [hu45, hgb]
      have nZQgb : w.heap.size < gb := (by rw [← hgb]; exact (Array.getElem?_eq_some_iff.1 ZQ.out).1)
      have nZPgb : w.heap.size + 1 < gb := (by rw [← hgb]; exact (Array.getElem?_eq_some_iff.1 ZP.out).1)
      have nZNgb : w.heap.size + 2 < gb := (by rw [← hgb]; exact (Array.getElem?_eq_some_iff.1 ZN.out).1)
      replace ZQ : Hid (u45.heap[w.heap.size]? = some (.cells #[.string m, .string t, .int .i64 v, .slice A f.length c, .string b] 24 (0, 0))) := (by show _ = _; rw [← hu45]; exact zero_more ZQ.out)
      replace ZP : Hid (u45.heap[w.heap.size + 1]? = some (.cells #[.int .i64 pc, .string pr, .int .i64 pv, .slice B g.length d, .string pb] 26 (0, 0))) := (by show _ = _; rw [← hu45]; exact zero_more ZP.out)
      replace ZN : Hid (u45.heap[w.heap.size + 2]? = some (.cells #[.int .i64 now] 3 (0, 0))) := (by show _ = _; rw [← hu45]; exact zero_more ZN.out)
      have Tgb : Hid (u45.heap[gb]? = some (.cells #[.bool false, .bool false, .bool false, .bool false, .bool false, .bool false, .int .i64 0, .int .i64 0, .int .i64 0] 44 (0, 0))) := (by show _ = _; rw [← hu45, ← hgb]; exact heap_alloc_new u1 _)
      have nbgb : w.heap.size ≤ gb := (by rw [← hgb]; exact HB.out.size)
      replace HB : Hid (Below w.heap.size w u45) := (by show Below _ _ _; rw [← hu45]; exact HB.out.alloc HB.out.size _)
      clear hu45 hgb
      refine hK.out _ _ (⟨(cel5r ZQ.out).2.2.2.1, (cel5r ZP.out).2.2.2.1⟩) (fun hHeld => ?_)
      clear hK
      try simp only [Act.put, List.setIfInBounds_toArray, List.set_cons_zero, List.set_cons_succ]
      refine wpAnyH_ready (rs := [2, 6]) (by kernel_rfl) (by simp) (AllReadyH.cons rfl (fun K hK => ?_) (AllReadyH.cons rfl (fun K hK => ?_) AllReadyH.nil))
      · go_simp
        go_at_call 22
        refine (C1.out _ HB.out).mono ?_
        rintro e u46 ⟨rfl, hb⟩
        replace ZQ := Lib.hid (zero_still hb ZQ.out)
        replace ZP := Lib.hid (zero_still hb ZP.out)
        replace ZN := Lib.hid (zero_still hb ZN.out)
        replace Tgb := Lib.hid (zero_still hb Tgb.out)
        replace HB := Lib.hid (below_then HB.out hb)
        clear hb
        try go_wp2_with fail
        refine hK.out _ _ (⟨(cel5r ZQ.out).2.2.2.1, (cel5r ZP.out).2.2.2.1⟩) (fun hHeld => ?_)
        clear hK
        try simp only [Act.put, List.setIfInBounds_toArray, List.set_cons_zero, List.set_cons_succ]
        refine wpAnyH_ready (rs := [5, 6]) (by kernel_rfl) (by simp) (AllReadyH.cons rfl (fun K hK => ?_) (AllReadyH.cons rfl (fun K hK => ?_) AllReadyH.nil))
        · go_simp
          go_at_call 23
          refine (C2.out _ HB.out).mono ?_
          rintro e u47 ⟨rfl, hb⟩
          replace ZQ := Lib.hid (zero_still hb ZQ.out)
          replace ZP := Lib.hid (zero_still hb ZP.out)
          replace ZN := Lib.hid (zero_still hb ZN.out)
          replace Tgb := Lib.hid (zero_still hb Tgb.out)
          replace HB := Lib.hid (below_then HB.out hb)
          clear hb
          try go_wp2_with fail
          refine hK.out _ _ (⟨(cel5r ZQ.out).2.2.2.1, (cel5r ZP.out).2.2.2.1⟩) (fun hHeld => ?_)
          clear hK
          try simp only [Act.put, List.setIfInBounds_toArray, List.set_cons_zero, List.set_cons_succ]
          refine wpAnyH_ready (rs := [6]) (by kernel_rfl) (by simp) (AllReadyH.cons rfl (fun K hK => ?_) AllReadyH.nil)
          go_simp
          obtain ⟨u48, hu48⟩ : ∃ W, u47.alloc (.cells #[.bool false, .bool false, .bool false, .bool false, .bool false, .bool false, .int .i64 0, .int .i64 0, .int .i64 0] 44) = W := ⟨_, rfl⟩
          obtain ⟨ga, hga⟩ : ∃ g, u47.heap.size = g := ⟨_, rfl⟩
          rw [hu48, hga]
          have nZQga : w.heap.size < ga := (by rw [← hga]; exact (Array.getElem?_eq_some_iff.1 ZQ.out).1)
          have nZPga : w.heap.size + 1 < ga := (by rw [← hga]; exact (Array.getElem?_eq_some_iff.1 ZP.out).1)
          have nZNga : w.heap.size + 2 < ga := (by rw [← hga]; exact (Array.getElem?_eq_some_iff.1 ZN.out).1)
          have nTgbga : gb < ga := (by rw [← hga]; exact (Array.getElem?_eq_some_iff.1 Tgb.out).1)
          replace ZQ : Hid (u48.heap[w.heap.size]? = some (.cells #[.string m, .string t, .int .i64 v, .slice A f.length c, .string b] 24 (0, 0))) := (by show _ = _; rw [← hu48]; exact zero_more ZQ.out)
          replace ZP : Hid (u48.heap[w.heap.size + 1]? = some (.cells #[.int .i64 pc, .string pr, .int .i64 pv, .slice B g.length d, .string pb] 26 (0, 0))) := (by show _ = _; rw [← hu48]; exact zero_more ZP.out)
          replace ZN : Hid (u48.heap[w.heap.size + 2]? = some (.cells #[.int .i64 now] 3 (0, 0))) := (by show _ = _; rw [← hu48]; exact zero_more ZN.out)
          replace Tgb : Hid (u48.heap[gb]? = some (.cells #[.bool false, .bool false, .bool false, .bool false, .bool false, .bool false, .int .i64 0, .int .i64 0, .int .i64 0] 44 (0, 0))) := (by show _ = _; rw [← hu48]; exact zero_more Tgb.out)
          have Tga : Hid (u48.heap[ga]? = some (.cells #[.bool false, .bool false, .bool false, .bool false, .bool false, .bool false, .int .i64 0, .int .i64 0, .int .i64 0] 44 (0, 0))) := (by show _ = _; rw [← hu48, ← hga]; exact heap_alloc_new u47 _)
          have nbga : w.heap.size ≤ ga := (by rw [← hga]; exact HB.out.size)
          replace HB : Hid (Below w.heap.size w u48) := (by show Below _ _ _; rw [← hu48]; exact HB.out.alloc HB.out.size _)
          clear hu48 hga
          refine hK.out _ _ (⟨(cel5r ZQ.out).2.2.2.1, (cel5r ZP.out).2.2.2.1⟩) (fun hHeld => ?_)
          clear hK
          try simp only [Act.put, List.setIfInBounds_toArray, List.set_cons_zero, List.set_cons_succ]
          refine wpAnyH_ready (rs := [8]) (by kernel_rfl) (by simp) (AllReadyH.cons rfl (fun K hK => ?_) AllReadyH.nil)
          refine step_store_row rfl _ _ _ rfl ga #[.bool ans, .bool anc, .bool apv, .bool apu, .bool amc, .bool aoi, .int .i64 ama, .int .i64 ash, .int .i64 amf] rfl rfl 44 #[.bool false, .bool false, .bool false, .bool false, .bool false, .bool false, .int .i64 0, .int .i64 0, .int .i64 0] Tga.out (by kernel_rfl) rfl (by simp [Value.oneCell']) ?_
          obtain ⟨u49, hu49⟩ : ∃ W, u48.setRow ga #[.bool ans, .bool anc, .bool apv, .bool apu, .bool amc, .bool aoi, .int .i64 ama, .int .i64 ash, .int .i64 amf] = W := ⟨_, rfl⟩
          rw [hu49]
          replace ZQ : Hid (u49.heap[w.heap.size]? = some (.cells #[.string m, .string t, .int .i64 v, .slice A f.length c, .string b] 24 (0, 0))) := (by show _ = _; rw [← hu49, setRow_other _ _ _ _ (by omega)]; exact ZQ.out)
          replace ZP : Hid (u49.heap[w.heap.size + 1]? = some (.cells #[.int .i64 pc, .string pr, .int .i64 pv, .slice B g.length d, .string pb] 26 (0, 0))) := (by show _ = _; rw [← hu49, setRow_other _ _ _ _ (by omega)]; exact ZP.out)
          replace ZN : Hid (u49.heap[w.heap.size + 2]? = some (.cells #[.int .i64 now] 3 (0, 0))) := (by show _ = _; rw [← hu49, setRow_other _ _ _ _ (by omega)]; exact ZN.out)
          replace Tgb : Hid (u49.heap[gb]? = some (.cells #[.bool false, .bool false, .bool false, .bool false, .bool false, .bool false, .int .i64 0, .int .i64 0, .int .i64 0] 44 (0, 0))) := (by show _ = _; rw [← hu49, setRow_other _ _ _ _ (by omega)]; exact Tgb.out)
          replace Tga : Hid (u49.heap[ga]? = some (.cells #[.bool ans, .bool anc, .bool apv, .bool apu, .bool amc, .bool aoi, .int .i64 ama, .int .i64 ash, .int .i64 amf] 44 (0, 0))) := (by show _ = _; rw [← hu49]; exact setRow_heap _ _ _ _ _ _ Tga.out)
          replace HB : Hid (Below w.heap.size w u49) := (by show Below _ _ _; rw [← hu49]; exact below_setRow HB.out nbga _)
          clear hu49
          refine hK.out _ _ (⟨(cel5r ZQ.out).2.2.2.1, (cel5r ZP.out).2.2.2.1⟩) (fun hHeld => ?_)
          clear hK
          try simp only [Act.put, List.setIfInBounds_toArray, List.set_cons_zero, List.set_cons_succ]
          refine wpAnyH_ready (rs := [9]) (by kernel_rfl) (by simp) (AllReadyH.cons rfl (fun K hK => ?_) AllReadyH.nil)
          refine step_store_row rfl _ _ _ rfl gb #[.bool ns, .bool nc, .bool pv', .bool pu, .bool mc, .bool oi, .int .i64 ma, .int .i64 sh, .int .i64 mf] rfl rfl 44 #[.bool false, .bool false, .bool false, .bool false, .bool false, .bool false, .int .i64 0, .int .i64 0, .int .i64 0] Tgb.out (by kernel_rfl) rfl (by simp [Value.oneCell']) ?_
          obtain ⟨u50, hu50⟩ : ∃ W, u49.setRow gb #[.bool ns, .bool nc, .bool pv', .bool pu, .bool mc, .bool oi, .int .i64 ma, .int .i64 sh, .int .i64 mf] = W := ⟨_, rfl⟩
          rw [hu50]
          replace ZQ : Hid (u50.heap[w.heap.size]? = some (.cells #[.string m, .string t, .int .i64 v, .slice A f.length c, .string b] 24 (0, 0))) := (by show _ = _; rw [← hu50, setRow_other _ _ _ _ (by omega)]; exact ZQ.out)
          replace ZP : Hid (u50.heap[w.heap.size + 1]? = some (.cells #[.int .i64 pc, .string pr, .int .i64 pv, .slice B g.length d, .string pb] 26 (0, 0))) := (by show _ = _; rw [← hu50, setRow_other _ _ _ _ (by omega)]; exact ZP.out)
          replace ZN : Hid (u50.heap[w.heap.size + 2]? = some (.cells #[.int .i64 now] 3 (0, 0))) := (by show _ = _; rw [← hu50, setRow_other _ _ _ _ (by omega)]; exact ZN.out)
          replace Tga : Hid (u50.heap[ga]? = some (.cells #[.bool ans, .bool anc, .bool apv, .bool apu, .bool amc, .bool aoi, .int .i64 ama, .int .i64 ash, .int .i64 amf] 44 (0, 0))) := (by show _ = _; rw [← hu50, setRow_other _ _ _ _ (by omega)]; exact Tga.out)
          replace Tgb : Hid (u50.heap[gb]? = some (.cells #[.bool ns, .bool nc, .bool pv', .bool pu, .bool mc, .bool oi, .int .i64 ma, .int .i64 sh, .int .i64 mf] 44 (0, 0))) := (by show _ = _; rw [← hu50]; exact setRow_heap _ _ _ _ _ _ Tgb.out)
          replace HB : Hid (Below w.heap.size w u50) := (by show Below _ _ _; rw [← hu50]; exact below_setRow HB.out nbgb _)
          clear hu50
          refine hK.out _ _ (⟨(cel5r ZQ.out).2.2.2.1, (cel5r ZP.out).2.2.2.1⟩) (fun hHeld => ?_)
          clear hK
          try simp only [Act.put, List.setIfInBounds_toArray, List.set_cons_zero, List.set_cons_succ]
          refine wpAnyH_done (by kernel_rfl) ?_ _
          go_wp2_with fail
          go_meet
          exact ⟨ga, gb, rfl, rfl, Tga.out, Tgb.out, ZQ.out, ZP.out, ZN.out, HB.out⟩
        · go_simp
          obtain ⟨u51, hu51⟩ : ∃ W, u46.alloc (.cells #[.bool false, .bool false, .bool false, .bool false, .bool false, .bool false, .int .i64 0, .int .i64 0, .int .i64 0] 44) = W := ⟨_, rfl⟩
          obtain ⟨ga, hga⟩ : ∃ g, u46.heap.size = g := ⟨_, rfl⟩
          rw [hu51, hga]
          have nZQga : w.heap.size < ga := (by rw [← hga]; exact (Array.getElem?_eq_some_iff.1 ZQ.out).1)
          have nZPga : w.heap.size + 1 < ga := (by rw [← hga]; exact (Array.getElem?_eq_some_iff.1 ZP.out).1)
          have nZNga : w.heap.size + 2 < ga := (by rw [← hga]; exact (Array.getElem?_eq_some_iff.1 ZN.out).1)
          have nTgbga : gb < ga := (by rw [← hga]; exact (Array.getElem?_eq_some_iff.1 Tgb.out).1)
          replace ZQ : Hid (u51.heap[w.heap.size]? = some (.cells #[.string m, .string t, .int .i64 v, .slice A f.length c, .string b] 24 (0, 0))) := (by show _ = _; rw [← hu51]; exact zero_more ZQ.out)
          replace ZP : Hid (u51.heap[w.heap.size + 1]? = some (.cells #[.int .i64 pc, .string pr, .int .i64 pv, .slice B g.length d, .string pb] 26 (0, 0))) := (by show _ = _; rw [← hu51]; exact zero_more ZP.out)
          replace ZN : Hid (u51.heap[w.heap.size + 2]? = some (.cells #[.int .i64 now] 3 (0, 0))) := (by show _ = _; rw [← hu51]; exact zero_more ZN.out)
          replace Tgb : Hid (u51.heap[gb]? = some (.cells #[.bool false, .bool false, .bool false, .bool false, .bool false, .bool false, .int .i64 0, .int .i64 0, .int .i64 0] 44 (0, 0))) := (by show _ = _; rw [← hu51]; exact zero_more Tgb.out)
          have Tga : Hid (u51.heap[ga]? = some (.cells #[.bool false, .bool false, .bool false, .bool false, .bool false, .bool false, .int .i64 0, .int .i64 0, .int .i64 0] 44 (0, 0))) := (by show _ = _; rw [← hu51, ← hga]; exact heap_alloc_new u46 _)
          have nbga : w.heap.size ≤ ga := (by rw [← hga]; exact HB.out.size)
          replace HB : Hid (Below w.heap.size w u51) := (by show Below _ _ _; rw [← hu51]; exact HB.out.alloc HB.out.size _)
          clear hu51 hga
          refine hK.out _ _ (⟨(cel5r ZQ.out).2.2.2.1, (cel5r ZP.out).2.2.2.1⟩) (fun hHeld => ?_)
          clear hK
          try simp only [Act.put, List.setIfInBounds_toArray, List.set_cons_zero, List.set_cons_succ]
          refine wpAnyH_ready (rs := [5]) (by kernel_rfl) (by simp) (AllReadyH.cons rfl (fun K hK => ?_) AllReadyH.nil)
          go_simp
          go_at_call 23
          refine (C2.out _ HB.out).mono ?_
          rintro e u52 ⟨rfl, hb⟩
          replace ZQ := Lib.hid (zero_still hb ZQ.out)
          replace ZP := Lib.hid (zero_still hb ZP.out)
          replace ZN := Lib.hid (zero_still hb ZN.out)
          replace Tgb := Lib.hid (zero_still hb Tgb.out)
          replace Tga := Lib.hid (zero_still hb Tga.out)
          replace HB := Lib.hid (below_then HB.out hb)
          clear hb
          try go_wp2_with fail
          refine hK.out _ _ (⟨(cel5r ZQ.out).2.2.2.1, (cel5r ZP.out).2.2.2.1⟩) (fun hHeld => ?_)
          clear hK
          try simp only [Act.put, List.setIfInBounds_toArray, List.set_cons_zero, List.set_cons_succ]
          refine wpAnyH_ready (rs := [8]) (by kernel_rfl) (by simp) (AllReadyH.cons rfl (fun K hK => ?_) AllReadyH.nil)
          refine step_store_row rfl _ _ _ rfl ga #[.bool ans, .bool anc, .bool apv, .bool apu, .bool amc, .bool aoi, .int .i64 ama, .int .i64 ash, .int .i64 amf] rfl rfl 44 #[.bool false, .bool false, .bool false, .bool false, .bool false, .bool false, .int .i64 0, .int .i64 0, .int .i64 0] Tga.out (by kernel_rfl) rfl (by simp [Value.oneCell']) ?_
          obtain ⟨u53, hu53⟩ : ∃ W, u52.setRow ga #[.bool ans, .bool anc, .bool apv, .bool apu, .bool amc, .bool aoi, .int .i64 ama, .int .i64 ash, .int .i64 amf] = W := ⟨_, rfl⟩
          rw [hu53]
          replace ZQ : Hid (u53.heap[w.heap.size]? = some (.cells #[.string m, .string t, .int .i64 v, .slice A f.length c, .string b] 24 (0, 0))) := (by show _ = _; rw [← hu53, setRow_other _ _ _ _ (by omega)]; exact ZQ.out)
          replace ZP : Hid (u53.heap[w.heap.size + 1]? = some (.cells #[.int .i64 pc, .string pr, .int .i64 pv, .slice B g.length d, .string pb] 26 (0, 0))) := (by show _ = _; rw [← hu53, setRow_other _ _ _ _ (by omega)]; exact ZP.out)
          replace ZN : Hid (u53.heap[w.heap.size + 2]? = some (.cells #[.int .i64 now] 3 (0, 0))) := (by show _ = _; rw [← hu53, setRow_other _ _ _ _ (by omega)]; exact ZN.out)
          replace Tgb : Hid (u53.heap[gb]? = some (.cells #[.bool false, .bool false, .bool false, .bool false, .bool false, .bool false, .int .i64 0, .int .i64 0, .int .i64 0] 44 (0, 0))) := (by show _ = _; rw [← hu53, setRow_other _ _ _ _ (by omega)]; exact Tgb.out)
          replace Tga : Hid (u53.heap[ga]? = some (.cells #[.bool ans, .bool anc, .bool apv, .bool apu, .bool amc, .bool aoi, .int .i64 ama, .int .i64 ash, .int .i64 amf] 44 (0, 0))) := (by show _ = _; rw [← hu53]; exact setRow_heap _ _ _ _ _ _ Tga.out)
          replace HB : Hid (Below w.heap.size w u53) := (by show Below _ _ _; rw [← hu53]; exact below_setRow HB.out nbga _)
          clear hu53
          refine hK.out _ _ (⟨(cel5r ZQ.out).2.2.2.1, (cel5r ZP.out).2.2.2.1⟩) (fun hHeld => ?_)
          clear hK
          try simp only [Act.put, List.setIfInBounds_toArray, List.set_cons_zero, List.set_cons_succ]
          refine wpAnyH_ready (rs := [9]) (by kernel_rfl) (by simp) (AllReadyH.cons rfl (fun K hK => ?_) AllReadyH.nil)
          refine step_store_row rfl _ _ _ rfl gb #[.bool ns, .bool nc, .bool pv', .bool pu, .bool mc, .bool oi, .int .i64 ma, .int .i64 sh, .int .i64 mf] rfl rfl 44 #[.bool false, .bool false, .bool false, .bool false, .bool false, .bool false, .int .i64 0, .int .i64 0, .int .i64 0] Tgb.out (by kernel_rfl) rfl (by simp [Value.oneCell']) ?_
          obtain ⟨u54, hu54⟩ : ∃ W, u53.setRow gb #[.bool ns, .bool nc, .bool pv', .bool pu, .bool mc, .bool oi, .int .i64 ma, .int .i64 sh, .int .i64 mf] = W := ⟨_, rfl⟩
          rw [hu54]
          replace ZQ : Hid (u54.heap[w.heap.size]? = some (.cells #[.string m, .string t, .int .i64 v, .slice A f.length c, .string b] 24 (0, 0))) := (by show _ = _; rw [← hu54, setRow_other _ _ _ _ (by omega)]; exact ZQ.out)
          replace ZP : Hid (u54.heap[w.heap.size + 1]? = some (.cells #[.int .i64 pc, .string pr, .int .i64 pv, .slice B g.length d, .string pb] 26 (0, 0))) := (by show _ = _; rw [← hu54, setRow_other _ _ _ _ (by omega)]; exact ZP.out)
          replace ZN : Hid (u54.heap[w.heap.size + 2]? = some (.cells #[.int .i64 now] 3 (0, 0))) := (by show _ = _; rw [← hu54, setRow_other _ _ _ _ (by omega)]; exact ZN.out)
          replace Tga : Hid (u54.heap[ga]? = some (.cells #[.bool ans, .bool anc, .bool apv, .bool apu, .bool amc, .bool aoi, .int .i64 ama, .int .i64 ash, .int .i64 amf] 44 (0, 0))) := (by show _ = _; rw [← hu54, setRow_other _ _ _ _ (by omega)]; exact Tga.out)
          replace Tgb : Hid (u54.heap[gb]? = some (.cells #[.bool ns, .bool nc, .bool pv', .bool pu, .bool mc, .bool oi, .int .i64 ma, .int .i64 sh, .int .i64 mf] 44 (0, 0))) := (by show _ = _; rw [← hu54]; exact setRow_heap _ _ _ _ _ _ Tgb.out)
          replace HB : Hid (Below w.heap.size w u54) := (by show Below _ _ _; rw [← hu54]; exact below_setRow HB.out nbgb _)
          clear hu54
          refine hK.out _ _ (⟨(cel5r ZQ.out).2.2.2.1, (cel5r ZP.out).2.2.2.1⟩) (fun hHeld => ?_)
          clear hK
          try simp only [Act.put, List.setIfInBounds_toArray, List.set_cons_zero, List.set_cons_succ]
          refine wpAnyH_done (by kernel_rfl) ?_ _
          go_wp2_with fail
          go_meet
          exact ⟨ga, gb, rfl, rfl, Tga.out, Tgb.out, ZQ.out, ZP.out, ZN.out, HB.out⟩
      · go_simp
        obtain ⟨u55, hu55⟩ : ∃ W, u45.alloc (.cells #[.bool false, .bool false, .bool false, .bool false, .bool false, .bool false, .int .i64 0, .int .i64 0, .int .i64 0] 44) = W := ⟨_, rfl⟩
        obtain ⟨ga, hga⟩ : ∃ g, u45.heap.size = g := ⟨_, rfl⟩
        rw [hu55, hga]
        have nZQga : w.heap.size < ga := (by rw [← hga]; exact (Array.getElem?_eq_some_iff.1 ZQ.out).1)
        have nZPga : w.heap.size + 1 < ga := (by rw [← hga]; exact (Array.getElem?_eq_some_iff.1 ZP.out).1)
        have nZNga : w.heap.size + 2 < ga := (by rw [← hga]; exact (Array.getElem?_eq_some_iff.1 ZN.out).1)
        have nTgbga : gb < ga := (by rw [← hga]; exact (Array.getElem?_eq_some_iff.1 Tgb.out).1)
        replace ZQ : Hid (u55.heap[w.heap.size]? = some (.cells #[.string m, .string t, .int .i64 v, .slice A f.length c, .string b] 24 (0, 0))) := (by show _ = _; rw [← hu55]; exact zero_more ZQ.out)
        replace ZP : Hid (u55.heap[w.heap.size + 1]? = some (.cells #[.int .i64 pc, .string pr, .int .i64 pv, .slice B g.length d, .string pb] 26 (0, 0))) := (by show _ = _; rw [← hu55]; exact zero_more ZP.out)
        replace ZN : Hid (u55.heap[w.heap.size + 2]? = some (.cells #[.int .i64 now] 3 (0, 0))) := (by show _ = _; rw [← hu55]; exact zero_more ZN.out)
        replace Tgb : Hid (u55.heap[gb]? = some (.cells #[.bool false, .bool false, .bool false, .bool false, .bool false, .bool false, .int .i64 0, .int .i64 0, .int .i64 0] 44 (0, 0))) := (by show _ = _; rw [← hu55]; exact zero_more Tgb.out)
        have Tga : Hid (u55.heap[ga]? = some (.cells #[.bool false, .bool false, .bool false, .bool false, .bool false, .bool false, .int .i64 0, .int .i64 0, .int .i64 0] 44 (0, 0))) := (by show _ = _; rw [← hu55, ← hga]; exact heap_alloc_new u45 _)
        have nbga : w.heap.size ≤ ga := (by rw [← hga]; exact HB.out.size)
        replace HB : Hid (Below w.heap.size w u55) := (by show Below _ _ _; rw [← hu55]; exact HB.out.alloc HB.out.size _)
        clear hu55 hga
        refine hK.out _ _ (⟨(cel5r ZQ.out).2.2.2.1, (cel5r ZP.out).2.2.2.1⟩) (fun hHeld => ?_)
        clear hK
        try simp only [Act.put, List.setIfInBounds_toArray, List.set_cons_zero, List.set_cons_succ]
        refine wpAnyH_ready (rs := [2]) (by kernel_rfl) (by simp) (AllReadyH.cons rfl (fun K hK => ?_) AllReadyH.nil)
        go_simp
        go_at_call 22
        refine (C1.out _ HB.out).mono ?_
        rintro e u56 ⟨rfl, hb⟩
        replace ZQ := Lib.hid (zero_still hb ZQ.out)
        replace ZP := Lib.hid (zero_still hb ZP.out)
        replace ZN := Lib.hid (zero_still hb ZN.out)
        replace Tgb := Lib.hid (zero_still hb Tgb.out)
        replace Tga := Lib.hid (zero_still hb Tga.out)
        replace HB := Lib.hid (below_then HB.out hb)
        clear hb
        try go_wp2_with fail
        refine hK.out _ _ (⟨(cel5r ZQ.out).2.2.2.1, (cel5r ZP.out).2.2.2.1⟩) (fun hHeld => ?_)
        clear hK
        try simp only [Act.put, List.setIfInBounds_toArray, List.set_cons_zero, List.set_cons_succ]
        refine wpAnyH_ready (rs := [5]) (by kernel_rfl) (by simp) (AllReadyH.cons rfl (fun K hK => ?_) AllReadyH.nil)
        go_simp
        go_at_call 23
        refine (C2.out _ HB.out).mono ?_
        rintro e u57 ⟨rfl, hb⟩
        replace ZQ := Lib.hid (zero_still hb ZQ.out)
        replace ZP := Lib.hid (zero_still hb ZP.out)
        replace ZN := Lib.hid (zero_still hb ZN.out)
        replace Tgb := Lib.hid (zero_still hb Tgb.out)
        replace Tga := Lib.hid (zero_still hb Tga.out)
        replace HB := Lib.hid (below_then HB.out hb)
        clear hb
        try go_wp2_with fail
        refine hK.out _ _ (⟨(cel5r ZQ.out).2.2.2.1, (cel5r ZP.out).2.2.2.1⟩) (fun hHeld => ?_)
        clear hK
        try simp only [Act.put, List.setIfInBounds_toArray, List.set_cons_zero, List.set_cons_succ]
        refine wpAnyH_ready (rs := [8]) (by kernel_rfl) (by simp) (AllReadyH.cons rfl (fun K hK => ?_) AllReadyH.nil)
        refine step_store_row rfl _ _ _ rfl ga #[.bool ans, .bool anc, .bool apv, .bool apu, .bool amc, .bool aoi, .int .i64 ama, .int .i64 ash, .int .i64 amf] rfl rfl 44 #[.bool false, .bool false, .bool false, .bool false, .bool false, .bool false, .int .i64 0, .int .i64 0, .int .i64 0] Tga.out (by kernel_rfl) rfl (by simp [Value.oneCell']) ?_
        obtain ⟨u58, hu58⟩ : ∃ W, u57.setRow ga #[.bool ans, .bool anc, .bool apv, .bool apu, .bool amc, .bool aoi, .int .i64 ama, .int .i64 ash, .int .i64 amf] = W := ⟨_, rfl⟩
        rw [hu58]
        replace ZQ : Hid (u58.heap[w.heap.size]? = some (.cells #[.string m, .string t, .int .i64 v, .slice A f.length c, .string b] 24 (0, 0))) := (by show _ = _; rw [← hu58, setRow_other _ _ _ _ (by omega)]; exact ZQ.out)
        replace ZP : Hid (u58.heap[w.heap.size + 1]? = some (.cells #[.int .i64 pc, .string pr, .int .i64 pv, .slice B g.length d, .string pb] 26 (0, 0))) := (by show _ = _; rw [← hu58, setRow_other _ _ _ _ (by omega)]; exact ZP.out)
        replace ZN : Hid (u58.heap[w.heap.size + 2]? = some (.cells #[.int .i64 now] 3 (0, 0))) := (by show _ = _; rw [← hu58, setRow_other _ _ _ _ (by omega)]; exact ZN.out)
        replace Tgb : Hid (u58.heap[gb]? = some (.cells #[.bool false, .bool false, .bool false, .bool false, .bool false, .bool false, .int .i64 0, .int .i64 0, .int .i64 0] 44 (0, 0))) := (by show _ = _; rw [← hu58, setRow_other _ _ _ _ (by omega)]; exact Tgb.out)
        replace Tga : Hid (u58.heap[ga]? = some (.cells #[.bool ans, .bool anc, .bool apv, .bool apu, .bool amc, .bool aoi, .int .i64 ama, .int .i64 ash, .int .i64 amf] 44 (0, 0))) := (by show _ = _; rw [← hu58]; exact setRow_heap _ _ _ _ _ _ Tga.out)
        replace HB : Hid (Below w.heap.size w u58) := (by show Below _ _ _; rw [← hu58]; exact below_setRow HB.out nbga _)
        clear hu58
        refine hK.out _ _ (⟨(cel5r ZQ.out).2.2.2.1, (cel5r ZP.out).2.2.2.1⟩) (fun hHeld => ?_)
        clear hK
        try simp only [Act.put, List.setIfInBounds_toArray, List.set_cons_zero, List.set_cons_succ]
        refine wpAnyH_ready (rs := [9]) (by kernel_rfl) (by simp) (AllReadyH.cons rfl (fun K hK => ?_) AllReadyH.nil)
        refine step_store_row rfl _ _ _ rfl gb #[.bool ns, .bool nc, .bool pv', .bool pu, .bool mc, .bool oi, .int .i64 ma, .int .i64 sh, .int .i64 mf] rfl rfl 44 #[.bool false, .bool false, .bool false, .bool false, .bool false, .bool false, .int .i64 0, .int .i64 0, .int .i64 0] Tgb.out (by kernel_rfl) rfl (by simp [Value.oneCell']) ?_
        obtain ⟨u59, hu59⟩ : ∃ W, u58.setRow gb #[.bool ns, .bool nc, .bool pv', .bool pu, .bool mc, .bool oi, .int .i64 ma, .int .i64 sh, .int .i64 mf] = W := ⟨_, rfl⟩
        rw [hu59]
        replace ZQ : Hid (u59.heap[w.heap.size]? = some (.cells #[.string m, .string t, .int .i64 v, .slice A f.length c, .string b] 24 (0, 0))) := (by show _ = _; rw [← hu59, setRow_other _ _ _ _ (by omega)]; exact ZQ.out)
        replace ZP : Hid (u59.heap[w.heap.size + 1]? = some (.cells #[.int .i64 pc, .string pr, .int .i64 pv, .slice B g.length d, .string pb] 26 (0, 0))) := (by show _ = _; rw [← hu59, setRow_other _ _ _ _ (by omega)]; exact ZP.out)
        replace ZN : Hid (u59.heap[w.heap.size + 2]? = some (.cells #[.int .i64 now] 3 (0, 0))) := (by show _ = _; rw [← hu59, setRow_other _ _ _ _ (by omega)]; exact ZN.out)
        replace Tga : Hid (u59.heap[ga]? = some (.cells #[.bool ans, .bool anc, .bool apv, .bool apu, .bool amc, .bool aoi, .int .i64 ama, .int .i64 ash, .int .i64 amf] 44 (0, 0))) := (by show _ = _; rw [← hu59, setRow_other _ _ _ _ (by omega)]; exact Tga.out)
        replace Tgb : Hid (u59.heap[gb]? = some (.cells #[.bool ns, .bool nc, .bool pv', .bool pu, .bool mc, .bool oi, .int .i64 ma, .int .i64 sh, .int .i64 mf] 44 (0, 0))) := (by show _ = _; rw [← hu59]; exact setRow_heap _ _ _ _ _ _ Tgb.out)
        replace HB : Hid (Below w.heap.size w u59) := (by show Below _ _ _; rw [← hu59]; exact below_setRow HB.out nbgb _)
        clear hu59
        refine hK.out _ _ (⟨(cel5r ZQ.out).2.2.2.1, (cel5r ZP.out).2.2.2.1⟩) (fun hHeld => ?_)
        clear hK
        try simp only [Act.put, List.setIfInBounds_toArray, List.set_cons_zero, List.set_cons_succ]
        refine wpAnyH_done (by kernel_rfl) ?_ _
        go_wp2_with fail
        go_meet
        exact ⟨ga, gb, rfl, rfl, Tga.out, Tgb.out, ZQ.out, ZP.out, ZN.out, HB.out⟩
  case rest =>
    clear C1 C2 ZQ ZP ZN HB
    obtain ⟨R1, R2, rfl, rfl, HC⟩ := hcut
    have HH : Hid (Calls Tryz.prog 32 #[.slice (some ⟨wc.heap.size, 0, none⟩) 8 8] (wc.alloc (.cells #[.func (.func 33) #[] #[.pointer (some ⟨w.heap.size, 0, none⟩)], .func (.func 34) #[] #[.pointer (some ⟨R1, 0, none⟩)], .func (.func 35) #[] #[.pointer (some ⟨R2, 0, none⟩)], .func (.func 36) #[] #[.pointer (some ⟨w.heap.size, 0, none⟩), .pointer (some ⟨R2, 0, none⟩)], .func (.func 39) #[] #[.pointer (some ⟨w.heap.size + 1, 0, none⟩)], .func (.func 40) #[] #[.pointer (some ⟨w.heap.size + 1, 0, none⟩)], .func (.func 42) #[] #[.pointer (some ⟨w.heap.size + 1, 0, none⟩), .pointer (some ⟨R2, 0, none⟩)], .func (.func 44) #[] #[.pointer (some ⟨w.heap.size + 1, 0, none⟩), .pointer (some ⟨w.heap.size + 2, 0, none⟩)]] 29)) fun e w' => e = .returned (.bool (LB.all id)) ∧ Below (wc.alloc (.cells #[.func (.func 33) #[] #[.pointer (some ⟨w.heap.size, 0, none⟩)], .func (.func 34) #[] #[.pointer (some ⟨R1, 0, none⟩)], .func (.func 35) #[] #[.pointer (some ⟨R2, 0, none⟩)], .func (.func 36) #[] #[.pointer (some ⟨w.heap.size, 0, none⟩), .pointer (some ⟨R2, 0, none⟩)], .func (.func 39) #[] #[.pointer (some ⟨w.heap.size + 1, 0, none⟩)], .func (.func 40) #[] #[.pointer (some ⟨w.heap.size + 1, 0, none⟩)], .func (.func 42) #[] #[.pointer (some ⟨w.heap.size + 1, 0, none⟩), .pointer (some ⟨R2, 0, none⟩)], .func (.func 44) #[] #[.pointer (some ⟨w.heap.size + 1, 0, none⟩), .pointer (some ⟨w.heap.size + 2, 0, none⟩)]] 29)).heap.size (wc.alloc (.cells #[.func (.func 33) #[] #[.pointer (some ⟨w.heap.size, 0, none⟩)], .func (.func 34) #[] #[.pointer (some ⟨R1, 0, none⟩)], .func (.func 35) #[] #[.pointer (some ⟨R2, 0, none⟩)], .func (.func 36) #[] #[.pointer (some ⟨w.heap.size, 0, none⟩), .pointer (some ⟨R2, 0, none⟩)], .func (.func 39) #[] #[.pointer (some ⟨w.heap.size + 1, 0, none⟩)], .func (.func 40) #[] #[.pointer (some ⟨w.heap.size + 1, 0, none⟩)], .func (.func 42) #[] #[.pointer (some ⟨w.heap.size + 1, 0, none⟩), .pointer (some ⟨R2, 0, none⟩)], .func (.func 44) #[] #[.pointer (some ⟨w.heap.size + 1, 0, none⟩), .pointer (some ⟨w.heap.size + 2, 0, none⟩)]] 29)) w') := by
      obtain ⟨ZA, ZC, ZQ, ZP, ZN, HB⟩ := HC.out
      obtain ⟨hQ, hL, HT⟩ := HLS.out
      have hb2 := HB.alloc HB.size (.cells #[.func (.func 33) #[] #[.pointer (some ⟨w.heap.size, 0, none⟩)], .func (.func 34) #[] #[.pointer (some ⟨R1, 0, none⟩)], .func (.func 35) #[] #[.pointer (some ⟨R2, 0, none⟩)], .func (.func 36) #[] #[.pointer (some ⟨w.heap.size, 0, none⟩), .pointer (some ⟨R2, 0, none⟩)], .func (.func 39) #[] #[.pointer (some ⟨w.heap.size + 1, 0, none⟩)], .func (.func 40) #[] #[.pointer (some ⟨w.heap.size + 1, 0, none⟩)], .func (.func 42) #[] #[.pointer (some ⟨w.heap.size + 1, 0, none⟩), .pointer (some ⟨R2, 0, none⟩)], .func (.func 44) #[] #[.pointer (some ⟨w.heap.size + 1, 0, none⟩), .pointer (some ⟨w.heap.size + 2, 0, none⟩)]] 29)
      obtain rfl := HEQ.out.1
      refine hold_any _ _ _ _ rfl (by decide) fun j hj => ?_
      match j, hj with
      | 0, _ => exact ⟨_, cell_of_row _ _ _ _ _ _ (heap_alloc_new _ _), cnd_of Tryz.func33 (by kernel_rfl) rfl (fun W hW => sto1_any ⟨m, t, v, f, b⟩ A c _ W (zero_still hW (zero_more ZQ)) (HQF.out W (below_then hb2 hW)) hQ)⟩
      | 1, _ => exact ⟨_, cell_of_row _ _ _ _ _ _ (heap_alloc_new _ _), cnd_of Tryz.func34 (by kernel_rfl) rfl (fun W hW => sto2_any ⟨ans, anc, apv, apu, amc, aoi, ama, ash, amf⟩ _ W (zero_still hW (zero_more ZA)))⟩
      | 2, _ => exact ⟨_, cell_of_row _ _ _ _ _ _ (heap_alloc_new _ _), cnd_of Tryz.func35 (by kernel_rfl) rfl (fun W hW => sto3_any ⟨ns, nc, pv', pu, mc, oi, ma, sh, mf⟩ _ W (zero_still hW (zero_more ZC)))⟩
      | 3, _ => exact ⟨_, cell_of_row _ _ _ _ _ _ (heap_alloc_new _ _), cnd_of Tryz.func36 (by kernel_rfl) rfl (fun W hW => sto4_any ⟨m, t, v, f, b⟩ A c _ ⟨ns, nc, pv', pu, mc, oi, ma, sh, mf⟩ _ W (zero_still hW (zero_more ZQ)) (zero_still hW (zero_more ZC)) (HQF.out W (below_then hb2 hW)) hQ)⟩
      | 4, _ => exact ⟨_, cell_of_row _ _ _ _ _ _ (heap_alloc_new _ _), cnd_of Tryz.func39 (by kernel_rfl) rfl (fun W hW => sto5_any ⟨pc, pr, pv, g, pb⟩ B d _ W (zero_still hW (zero_more ZP)))⟩
      | 5, _ => exact ⟨_, cell_of_row _ _ _ _ _ _ (heap_alloc_new _ _), cnd_of Tryz.func40 (by kernel_rfl) rfl (fun W hW => sto6_any ⟨pc, pr, pv, g, pb⟩ B d _ W (zero_still hW (zero_more ZP)) (HPF.out W (below_then hb2 hW)) hL)⟩
      | 6, _ => exact ⟨_, cell_of_row _ _ _ _ _ _ (heap_alloc_new _ _), cnd_of Tryz.func42 (by kernel_rfl) rfl (fun W hW => sto7_any ⟨pc, pr, pv, g, pb⟩ B d _ ⟨ns, nc, pv', pu, mc, oi, ma, sh, mf⟩ _ W (zero_still hW (zero_more ZP)) (zero_still hW (zero_more ZC)) (HPF.out W (below_then hb2 hW)) hL (HT.kept (below_then hb2 hW)))⟩
      | 7, _ => exact ⟨_, cell_of_row _ _ _ _ _ _ (heap_alloc_new _ _), cnd_of Tryz.func44 (by kernel_rfl) rfl (fun W hW => sto8_any ⟨pc, pr, pv, g, pb⟩ B d _ now _ W (zero_still hW (zero_more ZP)) (zero_still hW (zero_more ZN)) (HPF.out W (below_then hb2 hW)) hL (HT.kept (below_then hb2 hW)))⟩
      | (_ + 8), hj => exact absurd hj (by simp)
    have HBB := Lib.hid (HC.out.2.2.2.2.2.alloc HC.out.2.2.2.2.2.size (.cells #[.func (.func 33) #[] #[.pointer (some ⟨w.heap.size, 0, none⟩)], .func (.func 34) #[] #[.pointer (some ⟨R1, 0, none⟩)], .func (.func 35) #[] #[.pointer (some ⟨R2, 0, none⟩)], .func (.func 36) #[] #[.pointer (some ⟨w.heap.size, 0, none⟩), .pointer (some ⟨R2, 0, none⟩)], .func (.func 39) #[] #[.pointer (some ⟨w.heap.size + 1, 0, none⟩)], .func (.func 40) #[] #[.pointer (some ⟨w.heap.size + 1, 0, none⟩)], .func (.func 42) #[] #[.pointer (some ⟨w.heap.size + 1, 0, none⟩), .pointer (some ⟨R2, 0, none⟩)], .func (.func 44) #[] #[.pointer (some ⟨w.heap.size + 1, 0, none⟩), .pointer (some ⟨w.heap.size + 2, 0, none⟩)]] 29))
    have HD := Lib.hid HEQ.out.2
    clear HC HEQ HQF HPF HLS
    generalize LB.all id = RB at *
    go_wp2_with fail
    refine HH.out.mono ?_
    rintro e w2 ⟨rfl, hb⟩
    have HB := Lib.hid (below_then HBB.out hb)
    clear hb
    go_wp2_with fail
    go_ret
    exact ⟨by show _ = Ending.returned (.bool (stoB m f g pc now)); rw [← HD.out]; rfl, HB.out⟩

end Go.Proofs.YtnembpklidcgoaaGreatDoor
end
