/-
  Texts that the laws of this seat lean on, one behind the other.
-/
import Derived.Test.YtjkfdjolhmgemaaGreatDoorMrgAT
import Derived.Test.YtjkfdjolhmgemaaGreatDoorMrgAF
import Derived.Test.YtjkfdjolhmgemaaGreatDoorMrgAG
import Derived.Test.YtjkfdjolhmgemaaGreatDoorMrgAU
import Derived.Test.YtjkfdjolhmgemaaGreatDoorMrgAB
import Derived.Test.YtjkfdjolhmgemaaGreatDoorMrgX
import Derived.Deep.RegionHeld3
set_option linter.unusedSimpArgs false
set_option linter.unusedVariables false
/-
  Package conds: contracts of NotModified, conditions, others, Ask.
-/
section
namespace Go.Proofs.YtjkfdjolhmgemaaGreatDoor
open Go.RowKit
set_option linter.unusedSimpArgs false

theorem sls_row {w : World} {g e : Nat} (N : List ByteArray) (cs : Array Value) (hg : w.heap[g]? = some (.cells cs e (0, 0))) (hcs : cs = (N.map Value.string).toArray) (hm : N.length ≤ maxLen) : SlS w (some ⟨g, 0, none⟩) N.length N.length (N.map fun x => x.data.toList) := by
  subst hcs
  refine RowE.sls (e := e) ?_ (by rw [List.length_map]) hm
  show w.heap[g]? = some (.cells ((N.map fun x => x.data.toList).map fun x => [stV x]).flatten.toArray e (0, 0))
  rw [flat_ones, List.map_map, hg]
  have hm : N.map Value.string = N.map (stV ∘ fun x => x.data.toList) := List.map_congr_left fun x _ => by
    show Value.string x = Value.string (mkS x.data.toList)
    rw [mkS_self]
  rw [hm]
theorem ntF_nmd (L : List Fd) : L.filter (nmd (ntN.map fun x => x.data.toList)) = ntF L := by
  unfold ntF
  refine congrArg (fun p => L.filter p) (funext fun x => ?_)
  unfold nmd ntB
  rw [List.any_map]
  refine congrArg (fun p => ntN.any p) (funext fun n => ?_)
  show sameB x.1 (mkS n.data.toList) = sameB n x.1
  rw [mkS_self]
  exact same_symm _ _
/-- keep, with names in a row of their own. -/
theorem keepS_any (B : Option Addr) (d : Nat) (g : List Fd) (ga n : Nat) (N : List ByteArray) (w : World) (h : SlF w B g.length d g) (hL : FwL g) (hs : SlS w (some ⟨ga, 0, none⟩) n n (N.map fun x => x.data.toList)) (hn : n ≤ 1000) (hy : ∀ y ∈ N, y.size ≤ 1000) :
    Calls Tryz.prog 38 #[.slice B g.length d, .slice (some ⟨ga, 0, none⟩) n n] w fun e w' => ∃ A c, e = .returned (.slice A (g.filter (nmd (N.map fun x => x.data.toList))).length c) ∧ SlF w' A (g.filter (nmd (N.map fun x => x.data.toList))).length c (g.filter (nmd (N.map fun x => x.data.toList))) ∧ FreshA w A ∧ Below w.heap.size w w' := by
  refine (keep_any B _ g.length d n n g _ w h (by have := hL.n; omega) hs (by omega) (fun y hy' => ?_)).mono ?_
  · obtain ⟨x, hx, rfl⟩ := List.mem_map.1 hy'
    have := hy x hx
    rw [← Lib.size_eq]
    omega
  · rintro e w' ⟨v, rfl, ho, hb⟩
    obtain ⟨A, c, rfl, hS⟩ := ho.slf (fun x hx => ⟨(fwl_bd hL x (List.mem_filter.1 hx).1).one, (fwl_bd hL x (List.mem_filter.1 hx).1).two⟩)
    exact ⟨A, c, rfl, hS, ho.freshL, hb⟩
theorem ntN_small : ∀ y ∈ ntN, y.size ≤ 1000 := by decide
theorem cel10 {W : World} {g t : Nat} {c0 c1 c2 c3 c4 c5 c6 c7 c8 c9 : Value} (h : W.heap[g]? = some (.cells #[c0, c1, c2, c3, c4, c5, c6, c7, c8, c9] t (0, 0))) :
    W.cell? ⟨g, 0, none⟩ = some c0 ∧ W.cell? ⟨g, 1, none⟩ = some c1 ∧ W.cell? ⟨g, 2, none⟩ = some c2 ∧ W.cell? ⟨g, 3, none⟩ = some c3 ∧ W.cell? ⟨g, 4, none⟩ = some c4 ∧ W.cell? ⟨g, 5, none⟩ = some c5 ∧ W.cell? ⟨g, 6, none⟩ = some c6 ∧ W.cell? ⟨g, 7, none⟩ = some c7 ∧ W.cell? ⟨g, 8, none⟩ = some c8 ∧ W.cell? ⟨g, 9, none⟩ = some c9 := by
  refine ⟨?_, ?_, ?_, ?_, ?_, ?_, ?_, ?_, ?_, ?_⟩ <;> (rw [cell_of_row W g _ _ _ _ h]; rfl)

set_option maxHeartbeats 16000000 in
set_option maxRecDepth 100000 in
theorem conN_any (p : Rply) (B : Option Addr) (d : Nat) (w : World) (h' : SlF w B p.f.length d p.f) (hL : FwL p.f) (HT : ConTabs w) :
    Calls Tryz.prog 13 #[.agg (rpC p B d)] w fun e w' => ∃ A' c', e = .returned (.agg (rpC ⟨304, nmodS, 1, ntF p.f, ⟨#[]⟩⟩ A' c')) ∧ SlF w' A' (ntF p.f).length c' (ntF p.f) ∧ FreshA w A' ∧ Below w.heap.size w w' := by
  have C1 := Lib.hid (fun W (hW : Below w.heap.size w W) => usu1_any 304 W (HT.kept hW).rea)
  have C2 := Lib.hid (fun W ga (hW : Below w.heap.size w W) (hr : W.heap[ga]? = some (.cells #[.string ⟨#[67, 97, 99, 104, 101, 45, 67, 111, 110, 116, 114, 111, 108]⟩, .string ⟨#[67, 111, 110, 116, 101, 110, 116, 45, 76, 111, 99, 97, 116, 105, 111, 110]⟩, .string ⟨#[68, 97, 116, 101]⟩, .string ⟨#[69, 84, 97, 103]⟩, .string ⟨#[69, 120, 112, 105, 114, 101, 115]⟩, .string ⟨#[86, 97, 114, 121]⟩, .string ⟨#[65, 103, 101]⟩] 9 (0, 0))) => keepS_any B d p.f ga 7 ntN W (h'.below hW) hL (sls_row ntN _ hr rfl (by decide)) (by decide) ntN_small)
  rw [ntF_nmd] at C2
  rw [show usuS 304 = nmodS from by kernel_rfl] at C1
  obtain ⟨pc, pr, pv, g, pb⟩ := p
  simp only at *
  unfold rpC
  simp only
  generalize ntF g = F at *
  generalize nmodS = nm at *
  clear h' hL HT
  obtain ⟨W0, hW0⟩ : ∃ W, ((w.alloc (.cells #[.int .i64 pc, .string pr, .int .i64 pv, .slice B g.length d, .string pb] 26)).alloc (.cells #[.int .i64 0, .string ⟨#[]⟩, .int .i64 0, .slice none 0 0, .string ⟨#[]⟩] 26)) = W := ⟨_, rfl⟩
  have HB : Hid (Below w.heap.size w W0) := (by show Below _ _ _; rw [← hW0]; exact alls_below [.cells #[.int .i64 pc, .string pr, .int .i64 pv, .slice B g.length d, .string pb] 26, .cells #[.int .i64 0, .string ⟨#[]⟩, .int .i64 0, .slice none 0 0, .string ⟨#[]⟩] 26] w)
  have HS0 : Hid (W0.heap.size = w.heap.size + 1 + 1) := (by show _ = _; rw [← hW0]; simp)
  have ZP : Hid (W0.heap[w.heap.size]? = some (.cells #[.int .i64 pc, .string pr, .int .i64 pv, .slice B g.length d, .string pb] 26 (0, 0))) := (by show _ = _; rw [← hW0]; exact alls_at [.cells #[.int .i64 pc, .string pr, .int .i64 pv, .slice B g.length d, .string pb] 26, .cells #[.int .i64 0, .string ⟨#[]⟩, .int .i64 0, .slice none 0 0, .string ⟨#[]⟩] 26] w 0 _ rfl)
  have Tgr : Hid (W0.heap[w.heap.size + 1]? = some (.cells #[.int .i64 0, .string ⟨#[]⟩, .int .i64 0, .slice none 0 0, .string ⟨#[]⟩] 26 (0, 0))) := (by show _ = _; rw [← hW0]; exact alls_at [.cells #[.int .i64 pc, .string pr, .int .i64 pv, .slice B g.length d, .string pb] 26, .cells #[.int .i64 0, .string ⟨#[]⟩, .int .i64 0, .slice none 0 0, .string ⟨#[]⟩] 26] w 1 _ rfl)
  obtain ⟨p0, p1, p2, p3, p4⟩ := cel5r ZP.out
  go_enter Tryz.func13, Tryz.ntmps13
  go_upto_region 1 with fail
  clear p0 p1 p2 p3 p4
  try rw [hW0]
  clear hW0
  obtain ⟨gr, hgr⟩ : ∃ q, w.heap.size + 1 = q := ⟨_, rfl⟩
  rw [hgr] at Tgr ⊢
  have nbgr : w.heap.size ≤ gr := (by omega)
  obtain ⟨u1, hu1⟩ : ∃ W, W0.drew = W := ⟨_, rfl⟩
  replace ZP : Hid (u1.heap[w.heap.size]? = some (.cells #[.int .i64 pc, .string pr, .int .i64 pv, .slice B g.length d, .string pb] 26 (0, 0))) := (by show _ = _; rw [← hu1]; exact ZP.out)
  replace Tgr : Hid (u1.heap[gr]? = some (.cells #[.int .i64 0, .string ⟨#[]⟩, .int .i64 0, .slice none 0 0, .string ⟨#[]⟩] 26 (0, 0))) := (by show _ = _; rw [← hu1]; exact Tgr.out)
  replace HB : Hid (Below w.heap.size w u1) := (by show Below _ _ _; rw [← hu1]; exact HB.out.drew)
  refine wp_region_held_drew (S := fun W => W.cell? ⟨w.heap.size, 3, none⟩ = some (.slice B g.length d)) (by kernel_rfl) (by rw [hu1]; exact (cel5r ZP.out).2.2.2.1) (fun hHeld => ?_)
  rw [hu1] at hHeld ⊢
  clear hu1
  refine takeY (i := 1) (v := ?_) rfl rfl (by kernel_rfl) (by kernel_rfl) (by kernel_rfl) (by rfl) (fun _ _ _ h => h) ?y1 (by assumption) ?r1
  case y1 => (intro w hSw; (try dsimp only at hSw); go_simp; try with_reducible rfl)
  try simp only [Act.put, List.setIfInBounds_toArray, List.set_cons_zero, List.set_cons_succ]
  refine takeY (i := 2) (v := ?_) rfl rfl (by kernel_rfl) (by kernel_rfl) (by kernel_rfl) (by rfl) (fun _ _ _ h => h) ?y2 (by assumption) ?r2
  case y2 => (intro w hSw; (try dsimp only at hSw); go_simp; try with_reducible rfl)
  try simp only [Act.put, List.setIfInBounds_toArray, List.set_cons_zero, List.set_cons_succ]
  refine wpAnyH_ready (rs := [0, 3]) (by kernel_rfl) (by simp) (AllReadyH.cons rfl (fun K hK => ?_) (AllReadyH.cons rfl (fun K hK => ?_) AllReadyH.nil))
  · go_simp
    go_at_call 37
    refine (C1.out _ HB.out).mono ?_
    rintro e u2 ⟨rfl, hb⟩
    replace ZP := Lib.hid (zero_still hb ZP.out)
    replace Tgr := Lib.hid (zero_still hb Tgr.out)
    replace HB := Lib.hid (below_then HB.out hb)
    clear hb
    try go_wp2_with fail
    refine hK.out _ _ ((cel5r ZP.out).2.2.2.1) (fun hHeld => ?_)
    clear hK
    try simp only [Act.put, List.setIfInBounds_toArray, List.set_cons_zero, List.set_cons_succ]
    refine wpAnyH_ready (rs := [3]) (by kernel_rfl) (by simp) (AllReadyH.cons rfl (fun K hK => ?_) AllReadyH.nil)
    go_simp
    obtain ⟨u3, hu3⟩ : ∃ W, u2.alloc (.cells #[.string ⟨#[67, 97, 99, 104, 101, 45, 67, 111, 110, 116, 114, 111, 108]⟩, .string ⟨#[67, 111, 110, 116, 101, 110, 116, 45, 76, 111, 99, 97, 116, 105, 111, 110]⟩, .string ⟨#[68, 97, 116, 101]⟩, .string ⟨#[69, 84, 97, 103]⟩, .string ⟨#[69, 120, 112, 105, 114, 101, 115]⟩, .string ⟨#[86, 97, 114, 121]⟩, .string ⟨#[65, 103, 101]⟩] 9) = W := ⟨_, rfl⟩
    obtain ⟨ga, hga⟩ : ∃ g, u2.heap.size = g := ⟨_, rfl⟩
    rw [hu3, hga]
    have nZPga : w.heap.size < ga := (by rw [← hga]; exact (Array.getElem?_eq_some_iff.1 ZP.out).1)
    have nTgrga : gr < ga := (by rw [← hga]; exact (Array.getElem?_eq_some_iff.1 Tgr.out).1)
    replace ZP : Hid (u3.heap[w.heap.size]? = some (.cells #[.int .i64 pc, .string pr, .int .i64 pv, .slice B g.length d, .string pb] 26 (0, 0))) := (by show _ = _; rw [← hu3]; exact zero_more ZP.out)
    replace Tgr : Hid (u3.heap[gr]? = some (.cells #[.int .i64 0, .string ⟨#[]⟩, .int .i64 0, .slice none 0 0, .string ⟨#[]⟩] 26 (0, 0))) := (by show _ = _; rw [← hu3]; exact zero_more Tgr.out)
    have Tga : Hid (u3.heap[ga]? = some (.cells #[.string ⟨#[67, 97, 99, 104, 101, 45, 67, 111, 110, 116, 114, 111, 108]⟩, .string ⟨#[67, 111, 110, 116, 101, 110, 116, 45, 76, 111, 99, 97, 116, 105, 111, 110]⟩, .string ⟨#[68, 97, 116, 101]⟩, .string ⟨#[69, 84, 97, 103]⟩, .string ⟨#[69, 120, 112, 105, 114, 101, 115]⟩, .string ⟨#[86, 97, 114, 121]⟩, .string ⟨#[65, 103, 101]⟩] 9 (0, 0))) := (by show _ = _; rw [← hu3, ← hga]; exact heap_alloc_new u2 _)
    have nbga : w.heap.size ≤ ga := (by rw [← hga]; exact HB.out.size)
    replace HB : Hid (Below w.heap.size w u3) := (by show Below _ _ _; rw [← hu3]; exact HB.out.alloc HB.out.size _)
    clear hu3 hga
    refine hK.out _ _ ((cel5r ZP.out).2.2.2.1) (fun hHeld => ?_)
    clear hK
    try simp only [Act.put, List.setIfInBounds_toArray, List.set_cons_zero, List.set_cons_succ]
    refine wpAnyH_ready (rs := [4]) (by kernel_rfl) (by simp) (AllReadyH.cons rfl (fun K hK => ?_) AllReadyH.nil)
    have hxgr : gr < u3.heap.size := (Array.getElem?_eq_some_iff.1 Tgr.out).1
    have hxga : ga < u3.heap.size := (Array.getElem?_eq_some_iff.1 Tga.out).1
    go_simp
    go_at_call 38
    have hsz := HB.out.size
    refine (C2.out _ ga HB.out Tga.out).mono ?_
    rintro e u4 ⟨A1, c1, rfl, hS, fs, hb⟩
    have fw : FreshA w A1 := fun ad e => Nat.le_trans hsz (fs ad e)
    replace ZP := Lib.hid (zero_still hb ZP.out)
    replace Tgr := Lib.hid (zero_still hb Tgr.out)
    replace Tga := Lib.hid (zero_still hb Tga.out)
    have dSgr : DisA A1 F.length gr := fs.dis _ hxgr
    have dSga : DisA A1 F.length ga := fs.dis _ hxga
    have S := Lib.hid hS
    clear hS
    replace HB := Lib.hid (below_then HB.out hb)
    clear hb
    try go_wp2_with fail
    refine hK.out _ _ ((cel5r ZP.out).2.2.2.1) (fun hHeld => ?_)
    clear hK
    try simp only [Act.put, List.setIfInBounds_toArray, List.set_cons_zero, List.set_cons_succ]
    refine takeY (i := 5) (v := ?_) rfl rfl (by kernel_rfl) (by kernel_rfl) (by kernel_rfl) (by rfl) (fun _ _ _ h => h) ?y3 (by assumption) ?r3
    case y3 => (intro w hSw; (try dsimp only at hSw); go_simp; try with_reducible rfl)
    try simp only [Act.put, List.setIfInBounds_toArray, List.set_cons_zero, List.set_cons_succ]
    refine wpAnyH_ready (rs := [6]) (by kernel_rfl) (by simp) (AllReadyH.cons rfl (fun K hK => ?_) AllReadyH.nil)
    refine step_store_row rfl _ _ _ rfl gr #[.int .i64 304, .string nm, .int .i64 1, .slice A1 F.length c1, .string ⟨#[]⟩] rfl rfl 26 #[.int .i64 0, .string ⟨#[]⟩, .int .i64 0, .slice none 0 0, .string ⟨#[]⟩] Tgr.out (by kernel_rfl) rfl (by simp [Value.oneCell']) ?_
    obtain ⟨u5, hu5⟩ : ∃ W, u4.setRow gr #[.int .i64 304, .string nm, .int .i64 1, .slice A1 F.length c1, .string ⟨#[]⟩] = W := ⟨_, rfl⟩
    rw [hu5]
    replace ZP : Hid (u5.heap[w.heap.size]? = some (.cells #[.int .i64 pc, .string pr, .int .i64 pv, .slice B g.length d, .string pb] 26 (0, 0))) := (by show _ = _; rw [← hu5, setRow_other _ _ _ _ (by omega)]; exact ZP.out)
    replace Tga : Hid (u5.heap[ga]? = some (.cells #[.string ⟨#[67, 97, 99, 104, 101, 45, 67, 111, 110, 116, 114, 111, 108]⟩, .string ⟨#[67, 111, 110, 116, 101, 110, 116, 45, 76, 111, 99, 97, 116, 105, 111, 110]⟩, .string ⟨#[68, 97, 116, 101]⟩, .string ⟨#[69, 84, 97, 103]⟩, .string ⟨#[69, 120, 112, 105, 114, 101, 115]⟩, .string ⟨#[86, 97, 114, 121]⟩, .string ⟨#[65, 103, 101]⟩] 9 (0, 0))) := (by show _ = _; rw [← hu5, setRow_other _ _ _ _ (by omega)]; exact Tga.out)
    replace S := Lib.hid (S.out.setRowD dSgr #[.int .i64 304, .string nm, .int .i64 1, .slice A1 F.length c1, .string ⟨#[]⟩])
    rw [hu5] at S
    replace Tgr : Hid (u5.heap[gr]? = some (.cells #[.int .i64 304, .string nm, .int .i64 1, .slice A1 F.length c1, .string ⟨#[]⟩] 26 (0, 0))) := (by show _ = _; rw [← hu5]; exact setRow_heap _ _ _ _ _ _ Tgr.out)
    replace HB : Hid (Below w.heap.size w u5) := (by show Below _ _ _; rw [← hu5]; exact below_setRow HB.out nbgr _)
    clear hu5
    refine hK.out _ _ ((cel5r ZP.out).2.2.2.1) (fun hHeld => ?_)
    clear hK
    try simp only [Act.put, List.setIfInBounds_toArray, List.set_cons_zero, List.set_cons_succ]
    refine wpAnyH_done (by kernel_rfl) ?_ _
    go_wp2_with fail
    refine bodyPost_ret (results_cell_row rfl _ _ gr 26 #[.int .i64 304, .string nm, .int .i64 1, .slice A1 F.length c1, .string ⟨#[]⟩] (0, 0) _ rfl Tgr.out Tryz.underlying26 rfl (by kernel_rfl)) rfl ?_
    exact ⟨A1, c1, rfl, S.out, fw, HB.out⟩
  · go_simp
    obtain ⟨u6, hu6⟩ : ∃ W, u1.alloc (.cells #[.string ⟨#[67, 97, 99, 104, 101, 45, 67, 111, 110, 116, 114, 111, 108]⟩, .string ⟨#[67, 111, 110, 116, 101, 110, 116, 45, 76, 111, 99, 97, 116, 105, 111, 110]⟩, .string ⟨#[68, 97, 116, 101]⟩, .string ⟨#[69, 84, 97, 103]⟩, .string ⟨#[69, 120, 112, 105, 114, 101, 115]⟩, .string ⟨#[86, 97, 114, 121]⟩, .string ⟨#[65, 103, 101]⟩] 9) = W := ⟨_, rfl⟩
    obtain ⟨ga, hga⟩ : ∃ g, u1.heap.size = g := ⟨_, rfl⟩
    rw [hu6, hga]
    have nZPga : w.heap.size < ga := (by rw [← hga]; exact (Array.getElem?_eq_some_iff.1 ZP.out).1)
    have nTgrga : gr < ga := (by rw [← hga]; exact (Array.getElem?_eq_some_iff.1 Tgr.out).1)
    replace ZP : Hid (u6.heap[w.heap.size]? = some (.cells #[.int .i64 pc, .string pr, .int .i64 pv, .slice B g.length d, .string pb] 26 (0, 0))) := (by show _ = _; rw [← hu6]; exact zero_more ZP.out)
    replace Tgr : Hid (u6.heap[gr]? = some (.cells #[.int .i64 0, .string ⟨#[]⟩, .int .i64 0, .slice none 0 0, .string ⟨#[]⟩] 26 (0, 0))) := (by show _ = _; rw [← hu6]; exact zero_more Tgr.out)
    have Tga : Hid (u6.heap[ga]? = some (.cells #[.string ⟨#[67, 97, 99, 104, 101, 45, 67, 111, 110, 116, 114, 111, 108]⟩, .string ⟨#[67, 111, 110, 116, 101, 110, 116, 45, 76, 111, 99, 97, 116, 105, 111, 110]⟩, .string ⟨#[68, 97, 116, 101]⟩, .string ⟨#[69, 84, 97, 103]⟩, .string ⟨#[69, 120, 112, 105, 114, 101, 115]⟩, .string ⟨#[86, 97, 114, 121]⟩, .string ⟨#[65, 103, 101]⟩] 9 (0, 0))) := (by show _ = _; rw [← hu6, ← hga]; exact heap_alloc_new u1 _)
    have nbga : w.heap.size ≤ ga := (by rw [← hga]; exact HB.out.size)
    replace HB : Hid (Below w.heap.size w u6) := (by show Below _ _ _; rw [← hu6]; exact HB.out.alloc HB.out.size _)
    clear hu6 hga
    refine hK.out _ _ ((cel5r ZP.out).2.2.2.1) (fun hHeld => ?_)
    clear hK
    try simp only [Act.put, List.setIfInBounds_toArray, List.set_cons_zero, List.set_cons_succ]
    refine wpAnyH_ready (rs := [0]) (by kernel_rfl) (by simp) (AllReadyH.cons rfl (fun K hK => ?_) AllReadyH.nil)
    go_simp
    go_at_call 37
    refine (C1.out _ HB.out).mono ?_
    rintro e u7 ⟨rfl, hb⟩
    replace ZP := Lib.hid (zero_still hb ZP.out)
    replace Tgr := Lib.hid (zero_still hb Tgr.out)
    replace Tga := Lib.hid (zero_still hb Tga.out)
    replace HB := Lib.hid (below_then HB.out hb)
    clear hb
    try go_wp2_with fail
    refine hK.out _ _ ((cel5r ZP.out).2.2.2.1) (fun hHeld => ?_)
    clear hK
    try simp only [Act.put, List.setIfInBounds_toArray, List.set_cons_zero, List.set_cons_succ]
    refine wpAnyH_ready (rs := [4]) (by kernel_rfl) (by simp) (AllReadyH.cons rfl (fun K hK => ?_) AllReadyH.nil)
    have hxgr : gr < u7.heap.size := (Array.getElem?_eq_some_iff.1 Tgr.out).1
    have hxga : ga < u7.heap.size := (Array.getElem?_eq_some_iff.1 Tga.out).1
    go_simp
    go_at_call 38
    have hsz := HB.out.size
    refine (C2.out _ ga HB.out Tga.out).mono ?_
    rintro e u8 ⟨A1, c1, rfl, hS, fs, hb⟩
    have fw : FreshA w A1 := fun ad e => Nat.le_trans hsz (fs ad e)
    replace ZP := Lib.hid (zero_still hb ZP.out)
    replace Tgr := Lib.hid (zero_still hb Tgr.out)
    replace Tga := Lib.hid (zero_still hb Tga.out)
    have dSgr : DisA A1 F.length gr := fs.dis _ hxgr
    have dSga : DisA A1 F.length ga := fs.dis _ hxga
    have S := Lib.hid hS
    clear hS
    replace HB := Lib.hid (below_then HB.out hb)
    clear hb
    try go_wp2_with fail
    refine hK.out _ _ ((cel5r ZP.out).2.2.2.1) (fun hHeld => ?_)
    clear hK
    try simp only [Act.put, List.setIfInBounds_toArray, List.set_cons_zero, List.set_cons_succ]
    refine takeY (i := 5) (v := ?_) rfl rfl (by kernel_rfl) (by kernel_rfl) (by kernel_rfl) (by rfl) (fun _ _ _ h => h) ?y4 (by assumption) ?r4
    case y4 => (intro w hSw; (try dsimp only at hSw); go_simp; try with_reducible rfl)
    try simp only [Act.put, List.setIfInBounds_toArray, List.set_cons_zero, List.set_cons_succ]
    refine wpAnyH_ready (rs := [6]) (by kernel_rfl) (by simp) (AllReadyH.cons rfl (fun K hK => ?_) AllReadyH.nil)
    refine step_store_row rfl _ _ _ rfl gr #[.int .i64 304, .string nm, .int .i64 1, .slice A1 F.length c1, .string ⟨#[]⟩] rfl rfl 26 #[.int .i64 0, .string ⟨#[]⟩, .int .i64 0, .slice none 0 0, .string ⟨#[]⟩] Tgr.out (by kernel_rfl) rfl (by simp [Value.oneCell']) ?_
    obtain ⟨u9, hu9⟩ : ∃ W, u8.setRow gr #[.int .i64 304, .string nm, .int .i64 1, .slice A1 F.length c1, .string ⟨#[]⟩] = W := ⟨_, rfl⟩
    rw [hu9]
    replace ZP : Hid (u9.heap[w.heap.size]? = some (.cells #[.int .i64 pc, .string pr, .int .i64 pv, .slice B g.length d, .string pb] 26 (0, 0))) := (by show _ = _; rw [← hu9, setRow_other _ _ _ _ (by omega)]; exact ZP.out)
    replace Tga : Hid (u9.heap[ga]? = some (.cells #[.string ⟨#[67, 97, 99, 104, 101, 45, 67, 111, 110, 116, 114, 111, 108]⟩, .string ⟨#[67, 111, 110, 116, 101, 110, 116, 45, 76, 111, 99, 97, 116, 105, 111, 110]⟩, .string ⟨#[68, 97, 116, 101]⟩, .string ⟨#[69, 84, 97, 103]⟩, .string ⟨#[69, 120, 112, 105, 114, 101, 115]⟩, .string ⟨#[86, 97, 114, 121]⟩, .string ⟨#[65, 103, 101]⟩] 9 (0, 0))) := (by show _ = _; rw [← hu9, setRow_other _ _ _ _ (by omega)]; exact Tga.out)
    replace S := Lib.hid (S.out.setRowD dSgr #[.int .i64 304, .string nm, .int .i64 1, .slice A1 F.length c1, .string ⟨#[]⟩])
    rw [hu9] at S
    replace Tgr : Hid (u9.heap[gr]? = some (.cells #[.int .i64 304, .string nm, .int .i64 1, .slice A1 F.length c1, .string ⟨#[]⟩] 26 (0, 0))) := (by show _ = _; rw [← hu9]; exact setRow_heap _ _ _ _ _ _ Tgr.out)
    replace HB : Hid (Below w.heap.size w u9) := (by show Below _ _ _; rw [← hu9]; exact below_setRow HB.out nbgr _)
    clear hu9
    refine hK.out _ _ ((cel5r ZP.out).2.2.2.1) (fun hHeld => ?_)
    clear hK
    try simp only [Act.put, List.setIfInBounds_toArray, List.set_cons_zero, List.set_cons_succ]
    refine wpAnyH_done (by kernel_rfl) ?_ _
    go_wp2_with fail
    refine bodyPost_ret (results_cell_row rfl _ _ gr 26 #[.int .i64 304, .string nm, .int .i64 1, .slice A1 F.length c1, .string ⟨#[]⟩] (0, 0) _ rfl Tgr.out Tryz.underlying26 rfl (by kernel_rfl)) rfl ?_
    exact ⟨A1, c1, rfl, S.out, fw, HB.out⟩

def qnC (p : Rply) (B : Option Addr) (d : Nat) (r : Rqst) (A : Option Addr) (c : Nat) : Array Value := #[.int .i64 p.c, .string p.r, .int .i64 p.v, .slice B p.f.length d, .string p.b, .string r.m, .string r.t, .int .i64 r.v, .slice A r.f.length c, .string r.b]
def cndF (L : List Fd) : List Fd := (if rtB L then [(nnS, tgS (rtO L))] else []) ++ (if whnB L lmS then [(imsS, fdGet L lmS)] else [])
theorem ask_two (Q L : List Fd) : askF Q L = fdDrop Q cndN ++ cndF L := by unfold askF cndF; rw [List.append_assoc]
set_option maxHeartbeats 16000000 in
set_option maxRecDepth 100000 in
theorem cnd_any (r : Rqst) (A : Option Addr) (c : Nat) (p : Rply) (B : Option Addr) (d : Nat) (w : World) (h' : SlF w B p.f.length d p.f) (hL : FwL p.f) (HT : ConTabs w) :
    Calls Tryz.prog 42 #[.agg (qnC p B d r A c)] w fun e w' => ∃ A' c', e = .returned (.slice A' (cndF p.f).length c') ∧ SlF w' A' (cndF p.f).length c' (cndF p.f) ∧ FreshA w A' ∧ Below w.heap.size w w' := by
  have hgl := get_le hL lmS
  have hto := rto_le hL
  obtain ⟨m, t, v, f, b⟩ := r
  obtain ⟨pc, pr, pv, g, pb⟩ := p
  simp only at h' hL hgl hto
  unfold qnC
  simp only
  obtain ⟨W0, hW0⟩ : ∃ W, (w.alloc (.cells #[.int .i64 pc, .string pr, .int .i64 pv, .slice B g.length d, .string pb, .string m, .string t, .int .i64 v, .slice A f.length c, .string b] 66)) = W := ⟨_, rfl⟩
  have HB : Hid (Below w.heap.size w W0) := (by show Below _ _ _; rw [← hW0]; exact alls_below [.cells #[.int .i64 pc, .string pr, .int .i64 pv, .slice B g.length d, .string pb, .string m, .string t, .int .i64 v, .slice A f.length c, .string b] 66] w)
  have HS0 : Hid (W0.heap.size = w.heap.size + 1) := (by show _ = _; rw [← hW0]; simp)
  have ZK : Hid (W0.heap[w.heap.size]? = some (.cells #[.int .i64 pc, .string pr, .int .i64 pv, .slice B g.length d, .string pb, .string m, .string t, .int .i64 v, .slice A f.length c, .string b] 66 (0, 0))) := (by show _ = _; rw [← hW0]; exact alls_at [.cells #[.int .i64 pc, .string pr, .int .i64 pv, .slice B g.length d, .string pb, .string m, .string t, .int .i64 v, .slice A f.length c, .string b] 66] w 0 _ rfl)
  have HB0 := HB
  replace HB : Hid (Below W0.heap.size W0 W0) := Below.refl _ _
  replace h' := h'.below HB0.out
  replace HT := HT.kept HB0.out
  have C2 := Lib.hid (fun W (hW : Below W0.heap.size W0 W) => reuG_any ⟨pc, pr, pv, g, pb⟩ B d W (h'.below hW) hL)
  have C3 := Lib.hid (fun W => etS_any (rtO g) (Nat.le_trans hto (by decide)) W)
  have C4 := Lib.hid (fun W (hW : Below W0.heap.size W0 W) => lifW_dat B d g lmS W (h'.below hW) hL con_le2.2.2.1 (HT.kept hW).dat)
  have C5 := Lib.hid (fun W (hW : Below W0.heap.size W0 W) => getF_any B g.length d g lmS W (h'.below hW) (by have := hL.n; omega) (fwl_bd hL) con_le2.2.1 (join_ok hL _))
  have hD : cndF g = (if rtB g then [(nnS, tgS (rtO g))] else []) ++ (if whnB g lmS then [(imsS, fdGet g lmS)] else []) := rfl
  have htz : (tgS (rtO g)).size ≤ maxLen := tgs_le hto
  have hgz : (fdGet g lmS).size ≤ maxLen := Nat.le_trans hgl (by decide)
  obtain ⟨F, hF⟩ : ∃ F, F = cndF g := ⟨_, rfl⟩
  rw [← hF] at hD ⊢
  unfold rpC at C2
  simp only at C2
  generalize rtB g = tb at *
  generalize hx2 : tgS (rtO g) = tx at *
  generalize rtO g = tg at *
  generalize whnB g lmS = wb at *
  generalize whnV g lmS = wv at *
  generalize fdGet g lmS = gx at *
  generalize fdGot g lmS = gb at *
  obtain ⟨ta, ts⟩ := tg
  unfold tgV at *
  unfold lmS at C4 C5
  obtain ⟨nn, hnn⟩ : ∃ x, x = nnS := ⟨_, rfl⟩
  obtain ⟨im, him⟩ : ∃ x, x = imsS := ⟨_, rfl⟩
  rw [← hnn, ← him] at hD
  have hnn2 : (⟨#[73, 102, 45, 78, 111, 110, 101, 45, 77, 97, 116, 99, 104]⟩ : ByteArray) = nn := by rw [hnn]; rfl
  have him2 : (⟨#[73, 102, 45, 77, 111, 100, 105, 102, 105, 101, 100, 45, 83, 105, 110, 99, 101]⟩ : ByteArray) = im := by rw [him]; rfl
  have hnz : nn.size ≤ maxLen := by rw [hnn]; decide
  have hiz : im.size ≤ maxLen := by rw [him]; decide
  have HD := Lib.hid hD
  clear h' hL hgl hto hD hF hx2 hnn him HT
  have HO : Hid (OwnF W0 W0.heap.size 43 (.slice none 0 0) []) := OwnF.nil _ _ _
  obtain ⟨q0, q1, q2, q3, q4, q5, q6, q7, q8, q9⟩ := cel10 (zero_still HB.out ZK.out)
  go_enter Tryz.func42, Tryz.ntmps42
  rw [hnn2, him2] at *
  clear hnn2 him2
  go_wp2_with fail
  try rw [hW0]
  refine (C2.out _ HB.out).mono ?_
  rintro e w2 ⟨rfl, hb⟩
  clear q0 q1 q2 q3 q4 q5 q6 q7 q8 q9
  replace HO := Lib.hid (HO.out.below hb)
  replace HB := Lib.hid (below_then HB.out hb)
  clear hb
  obtain ⟨q0, q1, q2, q3, q4, q5, q6, q7, q8, q9⟩ := cel10 (zero_still HB.out ZK.out)
  obtain ⟨U, hU⟩ : ∃ W, w2.alloc (.cells #[.bool ta, .string ts] 49) = W := ⟨_, rfl⟩
  obtain ⟨gt, hgt⟩ : ∃ g, w2.heap.size = g := ⟨_, rfl⟩
  have ZT : Hid (U.heap[gt]? = some (.cells #[.bool ta, .string ts] 49 (0, 0))) := (by show _ = _; rw [← hU, ← hgt]; exact heap_alloc_new w2 _)
  replace HO : Hid (OwnF U W0.heap.size 43 (.slice none 0 0) []) := OwnF.nil _ _ _
  replace HB : Hid (Below W0.heap.size W0 U) := (by show Below _ _ _; rw [← hU]; exact HB.out.alloc HB.out.size _)
  clear q0 q1 q2 q3 q4 q5 q6 q7 q8 q9
  obtain ⟨q0, q1, q2, q3, q4, q5, q6, q7, q8, q9⟩ := cel10 (zero_still HB.out ZK.out)
  obtain ⟨t0, t1⟩ := zero_two ZT.out
  cases tb with
  | false =>
    go_wp2_with fail
    try rw [hW0]
    refine (C4.out _ HB.out).mono ?_
    rintro e w5 ⟨rfl, hb⟩
    clear q0 q1 q2 q3 q4 q5 q6 q7 q8 q9
    replace HO := Lib.hid (HO.out.below hb)
    replace HB := Lib.hid (below_then HB.out hb)
    clear hb
    obtain ⟨q0, q1, q2, q3, q4, q5, q6, q7, q8, q9⟩ := cel10 (zero_still HB.out ZK.out)
    cases wb with
    | false =>
      clear q0 q1 q2 q3 q4 q5 q6 q7 q8 q9
      have hF : F = [] := by rw [HD.out]; simp
      clear HD
      subst hF
      go_wp2_with fail
      go_ret
      exact ⟨none, 0, rfl, SlF.none_ _, fun ad e => (by cases e), HB0.out.trans (HB.out.mono HB0.out.size)⟩
    | true =>
      go_wp2_with fail
      try rw [hW0]
      refine (C5.out _ HB.out).mono ?_
      rintro e w6 ⟨rfl, hb⟩
      clear q0 q1 q2 q3 q4 q5 q6 q7 q8 q9
      replace HO := Lib.hid (HO.out.below hb)
      replace HB := Lib.hid (below_then HB.out hb)
      clear hb
      obtain ⟨q0, q1, q2, q3, q4, q5, q6, q7, q8, q9⟩ := cel10 (zero_still HB.out ZK.out)
      have hzz := HB.out.size
      go_upto_region 9 with (at_builtin; refine wpList_append_slf rfl _ _ 22 rfl W0.heap.size 43 Tryz.underlying22 (by kernel_rfl) _ rfl [] (HO.out.alloc _) _ 1 1 rfl [(im, gx)] (SlF.one w6 43 (im, gx) ⟨hiz, hgz⟩) (by simp) (by simp; omega) W0 (HB.out.alloc HB.out.size _) ?_; intro v7 u7 ho hb hz0; obtain ⟨A7, n7, k7, rfl⟩ : ∃ A n c, v7 = .slice A n c := (by obtain ⟨A, c, e⟩ := ho.out.form; exact ⟨A, _, c, e⟩); replace HO := ho; replace HB := Lib.hid hb; clear ho hb hz0)
      clear hzz
      clear q0 q1 q2 q3 q4 q5 q6 q7 q8 q9
      obtain ⟨q0, q1, q2, q3, q4, q5, q6, q7, q8, q9⟩ := cel10 (zero_still HB.out ZK.out)
      have hF : F = [(im, gx)] := by rw [HD.out]; simp
      obtain ⟨AA, cc, hv, hsl⟩ := HO.out.slf (mem_snoc (a := (im, gx)) (fun x hx => by cases hx) ⟨hiz, hgz⟩)
      rw [← hF] at hsl hv
      have hfr := HO.out.freshL
      have HSL := Lib.hid hsl
      have HFR := Lib.hid hfr
      injection hv with e1 e2 e3
      subst e1 e2 e3
      clear hsl hfr hF
      go_wp2_with fail
      go_ret
      exact ⟨A7, k7, rfl, HSL.out, fun ad e => by have := HFR.out ad e; have := HS0.out; omega, HB0.out.trans (HB.out.mono HB0.out.size)⟩
  | true =>
    go_wp2_with fail
    try rw [hU]
    try rw [hgt]
    refine (C3.out _).mono ?_
    rintro e w4 ⟨rfl, hb⟩
    clear q0 q1 q2 q3 q4 q5 q6 q7 q8 q9
    replace HO := Lib.hid (HO.out.below hb)
    replace HB := Lib.hid (below_then HB.out hb)
    clear hb t0 t1
    obtain ⟨q0, q1, q2, q3, q4, q5, q6, q7, q8, q9⟩ := cel10 (zero_still HB.out ZK.out)
    have hzz := HB.out.size
    go_upto_region 5 with (at_builtin; refine wpList_append_slf rfl _ _ 22 rfl W0.heap.size 43 Tryz.underlying22 (by kernel_rfl) _ rfl [] (HO.out.alloc _) _ 1 1 rfl [(nn, tx)] (SlF.one w4 43 (nn, tx) ⟨hnz, htz⟩) (by simp) (by simp; omega) W0 (HB.out.alloc HB.out.size _) ?_; intro v6 u6 ho hb hz0; obtain ⟨A6, n6, k6, rfl⟩ : ∃ A n c, v6 = .slice A n c := (by obtain ⟨A, c, e⟩ := ho.out.form; exact ⟨A, _, c, e⟩); replace HO := ho; replace HB := Lib.hid hb; clear ho hb hz0)
    clear hzz
    clear q0 q1 q2 q3 q4 q5 q6 q7 q8 q9
    obtain ⟨q0, q1, q2, q3, q4, q5, q6, q7, q8, q9⟩ := cel10 (zero_still HB.out ZK.out)
    go_wp2_with fail
    try rw [hW0]
    refine (C4.out _ HB.out).mono ?_
    rintro e w5 ⟨rfl, hb⟩
    clear q0 q1 q2 q3 q4 q5 q6 q7 q8 q9
    replace HO := Lib.hid (HO.out.below hb)
    replace HB := Lib.hid (below_then HB.out hb)
    clear hb
    obtain ⟨q0, q1, q2, q3, q4, q5, q6, q7, q8, q9⟩ := cel10 (zero_still HB.out ZK.out)
    cases wb with
    | false =>
      clear q0 q1 q2 q3 q4 q5 q6 q7 q8 q9
      have hF : F = [(nn, tx)] := by rw [HD.out]; simp
      obtain ⟨AA, cc, hv, hsl⟩ := HO.out.slf (mem_snoc (X := []) (a := (nn, tx)) (fun x hx => by cases hx) ⟨hnz, htz⟩)
      rw [← hF] at hsl hv
      have hfr := HO.out.freshL
      have HSL := Lib.hid hsl
      have HFR := Lib.hid hfr
      injection hv with e1 e2 e3
      subst e1 e2 e3
      clear hsl hfr hF
      go_wp2_with fail
      go_ret
      exact ⟨A6, k6, rfl, HSL.out, fun ad e => by have := HFR.out ad e; have := HS0.out; omega, HB0.out.trans (HB.out.mono HB0.out.size)⟩
    | true =>
      go_wp2_with fail
      try rw [hW0]
      refine (C5.out _ HB.out).mono ?_
      rintro e w6 ⟨rfl, hb⟩
      clear q0 q1 q2 q3 q4 q5 q6 q7 q8 q9
      replace HO := Lib.hid (HO.out.below hb)
      replace HB := Lib.hid (below_then HB.out hb)
      clear hb
      obtain ⟨q0, q1, q2, q3, q4, q5, q6, q7, q8, q9⟩ := cel10 (zero_still HB.out ZK.out)
      have hzz := HB.out.size
      go_upto_region 9 with (at_builtin; refine wpList_append_slf rfl _ _ 22 rfl W0.heap.size 43 Tryz.underlying22 (by kernel_rfl) _ rfl [(nn, tx)] (HO.out.alloc _) _ 1 1 rfl [(im, gx)] (SlF.one w6 43 (im, gx) ⟨hiz, hgz⟩) (by simp) (by simp; omega) W0 (HB.out.alloc HB.out.size _) ?_; intro v7 u7 ho hb hz0; obtain ⟨A7, n7, k7, rfl⟩ : ∃ A n c, v7 = .slice A n c := (by obtain ⟨A, c, e⟩ := ho.out.form; exact ⟨A, _, c, e⟩); replace HO := ho; replace HB := Lib.hid hb; clear ho hb hz0)
      clear hzz
      clear q0 q1 q2 q3 q4 q5 q6 q7 q8 q9
      obtain ⟨q0, q1, q2, q3, q4, q5, q6, q7, q8, q9⟩ := cel10 (zero_still HB.out ZK.out)
      have hF : F = ([(nn, tx)] ++ [(im, gx)]) := by rw [HD.out]; simp
      obtain ⟨AA, cc, hv, hsl⟩ := HO.out.slf (mem_snoc (a := (im, gx)) (mem_snoc (X := []) (a := (nn, tx)) (fun x hx => by cases hx) ⟨hnz, htz⟩) ⟨hiz, hgz⟩)
      rw [← hF] at hsl hv
      have hfr := HO.out.freshL
      have HSL := Lib.hid hsl
      have HFR := Lib.hid hfr
      injection hv with e1 e2 e3
      subst e1 e2 e3
      clear hsl hfr hF
      go_wp2_with fail
      go_ret
      exact ⟨A7, k7, rfl, HSL.out, fun ad e => by have := HFR.out ad e; have := HS0.out; omega, HB0.out.trans (HB.out.mono HB0.out.size)⟩

set_option maxHeartbeats 8000000 in
set_option maxRecDepth 100000 in
theorem oth_any (r : Rqst) (A : Option Addr) (c : Nat) (p : Rply) (B : Option Addr) (d : Nat) (w : World) (h : SlF w A r.f.length c r.f) (hQ : FwL r.f) :
    Calls Tryz.prog 41 #[.agg (qnC p B d r A c)] w fun e w' => ∃ A' c', e = .returned (.slice A' (fdDrop r.f cndN).length c') ∧ SlF w' A' (fdDrop r.f cndN).length c' (fdDrop r.f cndN) ∧ FreshA w A' ∧ Below w.heap.size w w' := by
  have hbf := fwl_bd hQ
  obtain ⟨m, t, v, f, b⟩ := r
  obtain ⟨pc, pr, pv, g, pb⟩ := p
  simp only at h hQ hbf
  unfold qnC
  simp only
  obtain ⟨W0, hW0⟩ : ∃ W, (w.alloc (.cells #[.int .i64 pc, .string pr, .int .i64 pv, .slice B g.length d, .string pb, .string m, .string t, .int .i64 v, .slice A f.length c, .string b] 66)) = W := ⟨_, rfl⟩
  have HB : Hid (Below w.heap.size w W0) := (by show Below _ _ _; rw [← hW0]; exact alls_below [.cells #[.int .i64 pc, .string pr, .int .i64 pv, .slice B g.length d, .string pb, .string m, .string t, .int .i64 v, .slice A f.length c, .string b] 66] w)
  have HS0 : Hid (W0.heap.size = w.heap.size + 1) := (by show _ = _; rw [← hW0]; simp)
  have ZK : Hid (W0.heap[w.heap.size]? = some (.cells #[.int .i64 pc, .string pr, .int .i64 pv, .slice B g.length d, .string pb, .string m, .string t, .int .i64 v, .slice A f.length c, .string b] 66 (0, 0))) := (by show _ = _; rw [← hW0]; exact alls_at [.cells #[.int .i64 pc, .string pr, .int .i64 pv, .slice B g.length d, .string pb, .string m, .string t, .int .i64 v, .slice A f.length c, .string b] 66] w 0 _ rfl)
  have C1 := Lib.hid (drop_any A (some ⟨W0.heap.size, 0, none⟩) f.length c 2 2 f cndN (W0.alloc (.cells #[.string ⟨#[73, 102, 45, 78, 111, 110, 101, 45, 77, 97, 116, 99, 104]⟩, .string ⟨#[73, 102, 45, 77, 111, 100, 105, 102, 105, 101, 100, 45, 83, 105, 110, 99, 101]⟩] 9)) ((h.below HB.out).alloc _) (by have := hQ.n; omega) hbf (SlS.texts W0 9 [nnS, imsS] (by decide)) (by decide) (by omega))
  have hXz : ∀ x ∈ fdDrop f cndN, x.1.size ≤ maxLen ∧ x.2.size ≤ maxLen := fun x hx => ⟨(hbf x (List.mem_filter.1 hx).1).one, (hbf x (List.mem_filter.1 hx).1).two⟩
  generalize fdDrop f cndN = X at *
  clear h hQ hbf
  obtain ⟨q0, q1, q2, q3, q4, q5, q6, q7, q8, q9⟩ := cel10 ZK.out
  go_enter Tryz.func41, Tryz.ntmps41
  go_wp2_with fail
  try rw [hW0]
  refine C1.out.mono ?_
  rintro e w1 ⟨v1, rfl, ho, hb⟩
  obtain ⟨A1, k1, rfl, hX⟩ := ho.slf hXz
  have HX := Lib.hid hX
  have HF : Hid (FreshA w A1) := fun ad e => Nat.le_trans HB.out.size (Nat.le_trans (by simp) (ho.freshL ad e))
  replace HB := Lib.hid (below_then HB.out (zero_then hb))
  clear hb ho hX C1 hW0 q0 q1 q2 q3 q4 q5 q6 q7 q8 q9
  go_wp2_with fail
  go_ret
  exact ⟨A1, k1, rfl, HX.out, HF.out, HB.out⟩

theorem concatS_any (B : Nat) (A1 A2 : Option Addr) (c1 c2 : Nat) (X Y Z : List Fd) (hZ : Z = X ++ Y) (w : World) (hg : w.heap[B]? = some (.cells #[.slice A1 X.length c1, .slice A2 Y.length c2] 22 (0, 0)))
    (h1 : SlF w A1 X.length c1 X) (h2 : SlF w A2 Y.length c2 Y) (hs : X.length + Y.length ≤ 1000000) :
    Calls Tryz.prog 40 #[.slice (some ⟨B, 0, none⟩) 2 2] w fun e w' => ∃ A c, e = .returned (.slice A Z.length c) ∧ SlF w' A Z.length c Z ∧ FreshA w A ∧ Below w.heap.size w w' := by
  subst hZ
  refine (concatF_any B A1 A2 _ c1 _ c2 X Y w (zero_two hg).1 (zero_two hg).2 h1 h2 hs).mono ?_
  rintro e w' ⟨v, rfl, ho, hb⟩
  obtain ⟨A, c, rfl, hS⟩ := ho.slf (fun x hx => by rcases List.mem_append.1 hx with hx | hx; exact h1.sz x hx; exact h2.sz x hx)
  exact ⟨A, c, rfl, hS, ho.freshL, hb⟩
theorem cnd_len (L : List Fd) : (cndF L).length ≤ 2 := by unfold cndF; split <;> split <;> simp

set_option maxHeartbeats 16000000 in
set_option maxRecDepth 100000 in
theorem conA_any (r : Rqst) (A : Option Addr) (c : Nat) (p : Rply) (B : Option Addr) (d : Nat) (w : World) (h : SlF w A r.f.length c r.f) (hQ : FwL r.f) (h' : SlF w B p.f.length d p.f) (hL : FwL p.f) (HT : ConTabs w) :
    Calls Tryz.prog 16 #[.agg (rqC r A c), .agg (rpC p B d)] w fun e w' => ∃ A' c', e = .returned (.agg (rqC ⟨⟨#[71, 69, 84]⟩, r.t, 1, askF r.f p.f, ⟨#[]⟩⟩ A' c')) ∧ SlF w' A' (askF r.f p.f).length c' (askF r.f p.f) ∧ FreshA w A' ∧ Below w.heap.size w w' := by
  have C1 := Lib.hid (fun W (hW : Below w.heap.size w W) => oth_any r A c p B d W (h.below hW) hQ)
  have C2 := Lib.hid (fun W (hW : Below w.heap.size w W) => cnd_any r A c p B d W (h'.below hW) hL (HT.kept hW))
  have hXl : (fdDrop r.f cndN).length ≤ 1000 := Nat.le_trans (List.length_filter_le _ _) hQ.n
  have hYl := cnd_len p.f
  rw [ask_two]
  obtain ⟨m, t, v, f, b⟩ := r
  obtain ⟨pc, pr, pv, g, pb⟩ := p
  simp only at *
  unfold qnC at C1 C2
  unfold rqC rpC
  simp only at *
  generalize fdDrop f cndN = X at *
  generalize cndF g = Y at *
  obtain ⟨Z, hZ⟩ : ∃ Z, Z = X ++ Y := ⟨_, rfl⟩
  rw [← hZ]
  have HZ := Lib.hid hZ
  clear h hQ h' hL HT hZ
  obtain ⟨W0, hW0⟩ : ∃ W, ((((w.alloc (.cells #[.string m, .string t, .int .i64 v, .slice A f.length c, .string b] 24)).alloc (.cells #[.int .i64 pc, .string pr, .int .i64 pv, .slice B g.length d, .string pb] 26)).alloc (.cells #[.string ⟨#[]⟩, .string ⟨#[]⟩, .int .i64 0, .slice none 0 0, .string ⟨#[]⟩] 24)).alloc (.cells #[.int .i64 pc, .string pr, .int .i64 pv, .slice B g.length d, .string pb, .string m, .string t, .int .i64 v, .slice A f.length c, .string b] 66)) = W := ⟨_, rfl⟩
  have HB : Hid (Below w.heap.size w W0) := (by show Below _ _ _; rw [← hW0]; exact alls_below [.cells #[.string m, .string t, .int .i64 v, .slice A f.length c, .string b] 24, .cells #[.int .i64 pc, .string pr, .int .i64 pv, .slice B g.length d, .string pb] 26, .cells #[.string ⟨#[]⟩, .string ⟨#[]⟩, .int .i64 0, .slice none 0 0, .string ⟨#[]⟩] 24, .cells #[.int .i64 pc, .string pr, .int .i64 pv, .slice B g.length d, .string pb, .string m, .string t, .int .i64 v, .slice A f.length c, .string b] 66] w)
  have HS0 : Hid (W0.heap.size = w.heap.size + 1 + 1 + 1 + 1) := (by show _ = _; rw [← hW0]; simp)
  have ZQ : Hid (W0.heap[w.heap.size]? = some (.cells #[.string m, .string t, .int .i64 v, .slice A f.length c, .string b] 24 (0, 0))) := (by show _ = _; rw [← hW0]; exact alls_at [.cells #[.string m, .string t, .int .i64 v, .slice A f.length c, .string b] 24, .cells #[.int .i64 pc, .string pr, .int .i64 pv, .slice B g.length d, .string pb] 26, .cells #[.string ⟨#[]⟩, .string ⟨#[]⟩, .int .i64 0, .slice none 0 0, .string ⟨#[]⟩] 24, .cells #[.int .i64 pc, .string pr, .int .i64 pv, .slice B g.length d, .string pb, .string m, .string t, .int .i64 v, .slice A f.length c, .string b] 66] w 0 _ rfl)
  have ZP : Hid (W0.heap[w.heap.size + 1]? = some (.cells #[.int .i64 pc, .string pr, .int .i64 pv, .slice B g.length d, .string pb] 26 (0, 0))) := (by show _ = _; rw [← hW0]; exact alls_at [.cells #[.string m, .string t, .int .i64 v, .slice A f.length c, .string b] 24, .cells #[.int .i64 pc, .string pr, .int .i64 pv, .slice B g.length d, .string pb] 26, .cells #[.string ⟨#[]⟩, .string ⟨#[]⟩, .int .i64 0, .slice none 0 0, .string ⟨#[]⟩] 24, .cells #[.int .i64 pc, .string pr, .int .i64 pv, .slice B g.length d, .string pb, .string m, .string t, .int .i64 v, .slice A f.length c, .string b] 66] w 1 _ rfl)
  have Tgr : Hid (W0.heap[w.heap.size + 1 + 1]? = some (.cells #[.string ⟨#[]⟩, .string ⟨#[]⟩, .int .i64 0, .slice none 0 0, .string ⟨#[]⟩] 24 (0, 0))) := (by show _ = _; rw [← hW0]; exact alls_at [.cells #[.string m, .string t, .int .i64 v, .slice A f.length c, .string b] 24, .cells #[.int .i64 pc, .string pr, .int .i64 pv, .slice B g.length d, .string pb] 26, .cells #[.string ⟨#[]⟩, .string ⟨#[]⟩, .int .i64 0, .slice none 0 0, .string ⟨#[]⟩] 24, .cells #[.int .i64 pc, .string pr, .int .i64 pv, .slice B g.length d, .string pb, .string m, .string t, .int .i64 v, .slice A f.length c, .string b] 66] w 2 _ rfl)
  have ZK : Hid (W0.heap[w.heap.size + 1 + 1 + 1]? = some (.cells #[.int .i64 pc, .string pr, .int .i64 pv, .slice B g.length d, .string pb, .string m, .string t, .int .i64 v, .slice A f.length c, .string b] 66 (0, 0))) := (by show _ = _; rw [← hW0]; exact alls_at [.cells #[.string m, .string t, .int .i64 v, .slice A f.length c, .string b] 24, .cells #[.int .i64 pc, .string pr, .int .i64 pv, .slice B g.length d, .string pb] 26, .cells #[.string ⟨#[]⟩, .string ⟨#[]⟩, .int .i64 0, .slice none 0 0, .string ⟨#[]⟩] 24, .cells #[.int .i64 pc, .string pr, .int .i64 pv, .slice B g.length d, .string pb, .string m, .string t, .int .i64 v, .slice A f.length c, .string b] 66] w 3 _ rfl)
  obtain ⟨q0, q1, q2, q3, q4⟩ := cel5r ZQ.out
  obtain ⟨p0, p1, p2, p3, p4⟩ := cel5r ZP.out
  have a0 := fun i o h => alls_at [.cells #[.string m, .string t, .int .i64 v, .slice A f.length c, .string b] 24, .cells #[.int .i64 pc, .string pr, .int .i64 pv, .slice B g.length d, .string pb] 26, .cells #[.string ⟨#[]⟩, .string ⟨#[]⟩, .int .i64 0, .slice none 0 0, .string ⟨#[]⟩] 24] w i o h
  obtain ⟨x0, x1, x2, x3, x4⟩ := cel5r (a0 0 _ rfl)
  obtain ⟨y0, y1, y2, y3, y4⟩ := cel5r (a0 1 _ rfl)
  go_enter Tryz.func16, Tryz.ntmps16
  go_upto_region 2 with fail
  clear q0 q1 q2 q3 q4 p0 p1 p2 p3 p4 x0 x1 x2 x3 x4 y0 y1 y2 y3 y4 a0
  try rw [hW0]
  clear hW0
  obtain ⟨gr, hgr⟩ : ∃ q, w.heap.size + 1 + 1 = q := ⟨_, rfl⟩
  have HGR := Lib.hid hgr
  have nbgr : w.heap.size ≤ gr := (by omega)
  obtain ⟨gk, hgk⟩ : ∃ q, w.heap.size + 1 + 1 + 1 = q := ⟨_, rfl⟩
  rw [hgk] at ZK ⊢
  rw [hgr] at Tgr ⊢
  rw [hgr] at hgk
  obtain ⟨u1, hu1⟩ : ∃ W, W0.drew = W := ⟨_, rfl⟩
  replace ZQ : Hid (u1.heap[w.heap.size]? = some (.cells #[.string m, .string t, .int .i64 v, .slice A f.length c, .string b] 24 (0, 0))) := (by show _ = _; rw [← hu1]; exact ZQ.out)
  replace ZP : Hid (u1.heap[w.heap.size + 1]? = some (.cells #[.int .i64 pc, .string pr, .int .i64 pv, .slice B g.length d, .string pb] 26 (0, 0))) := (by show _ = _; rw [← hu1]; exact ZP.out)
  replace ZK : Hid (u1.heap[gk]? = some (.cells #[.int .i64 pc, .string pr, .int .i64 pv, .slice B g.length d, .string pb, .string m, .string t, .int .i64 v, .slice A f.length c, .string b] 66 (0, 0))) := (by show _ = _; rw [← hu1]; exact ZK.out)
  replace Tgr : Hid (u1.heap[gr]? = some (.cells #[.string ⟨#[]⟩, .string ⟨#[]⟩, .int .i64 0, .slice none 0 0, .string ⟨#[]⟩] 24 (0, 0))) := (by show _ = _; rw [← hu1]; exact Tgr.out)
  replace HB : Hid (Below w.heap.size w u1) := (by show Below _ _ _; rw [← hu1]; exact HB.out.drew)
  refine wp_region_held_drew (S := fun W => W.cell? ⟨w.heap.size, 1, none⟩ = some (.string t) ∧ W.cell? ⟨gk, 0, none⟩ = some (.int .i64 pc) ∧ W.cell? ⟨gk, 1, none⟩ = some (.string pr) ∧ W.cell? ⟨gk, 2, none⟩ = some (.int .i64 pv) ∧ W.cell? ⟨gk, 3, none⟩ = some (.slice B g.length d) ∧ W.cell? ⟨gk, 4, none⟩ = some (.string pb) ∧ W.cell? ⟨gk, 5, none⟩ = some (.string m) ∧ W.cell? ⟨gk, 6, none⟩ = some (.string t) ∧ W.cell? ⟨gk, 7, none⟩ = some (.int .i64 v) ∧ W.cell? ⟨gk, 8, none⟩ = some (.slice A f.length c) ∧ W.cell? ⟨gk, 9, none⟩ = some (.string b)) (by kernel_rfl) (by rw [hu1]; exact ⟨(cel5r ZQ.out).2.1, cel10 ZK.out⟩) (fun hHeld => ?_)
  rw [hu1] at hHeld ⊢
  clear hu1
  refine takeY (i := 0) (v := ?_) rfl rfl (by kernel_rfl) (by kernel_rfl) (by kernel_rfl) (by rfl) (fun _ _ _ h => h) ?y1 (by assumption) ?r1
  case y1 => (intro w hSw; (try dsimp only at hSw); go_simp; try with_reducible rfl)
  try simp only [Act.put, List.setIfInBounds_toArray, List.set_cons_zero, List.set_cons_succ]
  refine takeY (i := 1) (v := ?_) rfl rfl (by kernel_rfl) (by kernel_rfl) (by kernel_rfl) (by rfl) (fun _ _ _ h => h) ?y2 (by assumption) ?r2
  case y2 => (intro w hSw; (try dsimp only at hSw); go_simp; try with_reducible rfl)
  try simp only [Act.put, List.setIfInBounds_toArray, List.set_cons_zero, List.set_cons_succ]
  refine takeY (i := 2) (v := ?_) rfl rfl (by kernel_rfl) (by kernel_rfl) (by kernel_rfl) (by rfl) (fun _ _ _ h => h) ?y3 (by assumption) ?r3
  case y3 => (intro w hSw; (try dsimp only at hSw); go_simp; try with_reducible rfl)
  try simp only [Act.put, List.setIfInBounds_toArray, List.set_cons_zero, List.set_cons_succ]
  refine takeY (i := 4) (v := ?_) rfl rfl (by kernel_rfl) (by kernel_rfl) (by kernel_rfl) (by rfl) (fun _ _ _ h => h) ?y4 (by assumption) ?r4
  case y4 => (intro w hSw; (try dsimp only at hSw); go_simp; try with_reducible rfl)
  try simp only [Act.put, List.setIfInBounds_toArray, List.set_cons_zero, List.set_cons_succ]
  refine wpAnyH_ready (rs := [3]) (by kernel_rfl) (by simp) (AllReadyH.cons rfl (fun K hK => ?_) AllReadyH.nil)
  have hxgr : gr < u1.heap.size := (Array.getElem?_eq_some_iff.1 Tgr.out).1
  go_simp
  go_at_call 41
  have hsz := HB.out.size
  refine (C1.out _ HB.out).mono ?_
  rintro e u2 ⟨A1, c1, rfl, hS1, fs1, hb⟩
  replace ZQ := Lib.hid (zero_still hb ZQ.out)
  replace ZP := Lib.hid (zero_still hb ZP.out)
  replace ZK := Lib.hid (zero_still hb ZK.out)
  replace Tgr := Lib.hid (zero_still hb Tgr.out)
  have dS1gr : DisA A1 X.length gr := fs1.dis _ hxgr
  have S1 := Lib.hid hS1
  clear hS1
  replace HB := Lib.hid (below_then HB.out hb)
  clear hb
  try go_wp2_with fail
  refine hK.out _ _ (⟨(cel5r ZQ.out).2.1, cel10 ZK.out⟩) (fun hHeld => ?_)
  clear hK
  try simp only [Act.put, List.setIfInBounds_toArray, List.set_cons_zero, List.set_cons_succ]
  refine wpAnyH_ready (rs := [5]) (by kernel_rfl) (by simp) (AllReadyH.cons rfl (fun K hK => ?_) AllReadyH.nil)
  have hxgr : gr < u2.heap.size := (Array.getElem?_eq_some_iff.1 Tgr.out).1
  go_simp
  go_at_call 42
  have hsz := HB.out.size
  refine (C2.out _ HB.out).mono ?_
  rintro e u3 ⟨A2, c2, rfl, hS2, fs2, hb⟩
  replace ZQ := Lib.hid (zero_still hb ZQ.out)
  replace ZP := Lib.hid (zero_still hb ZP.out)
  replace ZK := Lib.hid (zero_still hb ZK.out)
  replace Tgr := Lib.hid (zero_still hb Tgr.out)
  replace S1 := Lib.hid (S1.out.below hb)
  have dS2gr : DisA A2 Y.length gr := fs2.dis _ hxgr
  have S2 := Lib.hid hS2
  clear hS2
  replace HB := Lib.hid (below_then HB.out hb)
  clear hb
  try go_wp2_with fail
  refine hK.out _ _ (⟨(cel5r ZQ.out).2.1, cel10 ZK.out⟩) (fun hHeld => ?_)
  clear hK
  try simp only [Act.put, List.setIfInBounds_toArray, List.set_cons_zero, List.set_cons_succ]
  refine wpAnyH_ready (rs := [6]) (by kernel_rfl) (by simp) (AllReadyH.cons rfl (fun K hK => ?_) AllReadyH.nil)
  go_simp
  obtain ⟨u4, hu4⟩ : ∃ W, u3.alloc (.cells #[.slice A1 X.length c1, .slice A2 Y.length c2] 22) = W := ⟨_, rfl⟩
  obtain ⟨ga, hga⟩ : ∃ g, u3.heap.size = g := ⟨_, rfl⟩
  rw [hu4, hga]
  have nZQga : w.heap.size < ga := (by rw [← hga]; exact (Array.getElem?_eq_some_iff.1 ZQ.out).1)
  have nZPga : w.heap.size + 1 < ga := (by rw [← hga]; exact (Array.getElem?_eq_some_iff.1 ZP.out).1)
  have nZKga : gk < ga := (by rw [← hga]; exact (Array.getElem?_eq_some_iff.1 ZK.out).1)
  have nTgrga : gr < ga := (by rw [← hga]; exact (Array.getElem?_eq_some_iff.1 Tgr.out).1)
  replace ZQ : Hid (u4.heap[w.heap.size]? = some (.cells #[.string m, .string t, .int .i64 v, .slice A f.length c, .string b] 24 (0, 0))) := (by show _ = _; rw [← hu4]; exact zero_more ZQ.out)
  replace ZP : Hid (u4.heap[w.heap.size + 1]? = some (.cells #[.int .i64 pc, .string pr, .int .i64 pv, .slice B g.length d, .string pb] 26 (0, 0))) := (by show _ = _; rw [← hu4]; exact zero_more ZP.out)
  replace ZK : Hid (u4.heap[gk]? = some (.cells #[.int .i64 pc, .string pr, .int .i64 pv, .slice B g.length d, .string pb, .string m, .string t, .int .i64 v, .slice A f.length c, .string b] 66 (0, 0))) := (by show _ = _; rw [← hu4]; exact zero_more ZK.out)
  replace Tgr : Hid (u4.heap[gr]? = some (.cells #[.string ⟨#[]⟩, .string ⟨#[]⟩, .int .i64 0, .slice none 0 0, .string ⟨#[]⟩] 24 (0, 0))) := (by show _ = _; rw [← hu4]; exact zero_more Tgr.out)
  have Tga : Hid (u4.heap[ga]? = some (.cells #[.slice A1 X.length c1, .slice A2 Y.length c2] 22 (0, 0))) := (by show _ = _; rw [← hu4, ← hga]; exact heap_alloc_new u3 _)
  have dS1ga : DisA A1 X.length ga := S1.out.dis (by rw [← hga]; exact Nat.le_refl _)
  replace S1 := Lib.hid (S1.out.alloc (.cells #[.slice A1 X.length c1, .slice A2 Y.length c2] 22))
  rw [hu4] at S1
  have dS2ga : DisA A2 Y.length ga := S2.out.dis (by rw [← hga]; exact Nat.le_refl _)
  replace S2 := Lib.hid (S2.out.alloc (.cells #[.slice A1 X.length c1, .slice A2 Y.length c2] 22))
  rw [hu4] at S2
  have nbga : w.heap.size ≤ ga := (by rw [← hga]; exact HB.out.size)
  replace HB : Hid (Below w.heap.size w u4) := (by show Below _ _ _; rw [← hu4]; exact HB.out.alloc HB.out.size _)
  clear hu4 hga
  refine hK.out _ _ (⟨(cel5r ZQ.out).2.1, cel10 ZK.out⟩) (fun hHeld => ?_)
  clear hK
  try simp only [Act.put, List.setIfInBounds_toArray, List.set_cons_zero, List.set_cons_succ]
  refine wpAnyH_ready (rs := [7]) (by kernel_rfl) (by simp) (AllReadyH.cons rfl (fun K hK => ?_) AllReadyH.nil)
  have hxgr : gr < u4.heap.size := (Array.getElem?_eq_some_iff.1 Tgr.out).1
  have hxga : ga < u4.heap.size := (Array.getElem?_eq_some_iff.1 Tga.out).1
  go_simp
  go_at_call 40
  have hsz := HB.out.size
  refine (concatS_any ga A1 A2 c1 c2 X Y Z HZ.out _ Tga.out S1.out S2.out (by omega)).mono ?_
  rintro e u5 ⟨A3, c3, rfl, hS3, fs3, hb⟩
  have fw : FreshA w A3 := fun ad e => Nat.le_trans hsz (fs3 ad e)
  replace ZQ := Lib.hid (zero_still hb ZQ.out)
  replace ZP := Lib.hid (zero_still hb ZP.out)
  replace ZK := Lib.hid (zero_still hb ZK.out)
  replace Tgr := Lib.hid (zero_still hb Tgr.out)
  replace Tga := Lib.hid (zero_still hb Tga.out)
  replace S1 := Lib.hid (S1.out.below hb)
  replace S2 := Lib.hid (S2.out.below hb)
  have dS3gr : DisA A3 Z.length gr := fs3.dis _ hxgr
  have dS3ga : DisA A3 Z.length ga := fs3.dis _ hxga
  have S3 := Lib.hid hS3
  clear hS3
  replace HB := Lib.hid (below_then HB.out hb)
  clear hb
  try go_wp2_with fail
  refine hK.out _ _ (⟨(cel5r ZQ.out).2.1, cel10 ZK.out⟩) (fun hHeld => ?_)
  clear hK
  try simp only [Act.put, List.setIfInBounds_toArray, List.set_cons_zero, List.set_cons_succ]
  refine takeY (i := 8) (v := ?_) rfl rfl (by kernel_rfl) (by kernel_rfl) (by kernel_rfl) (by rfl) (fun _ _ _ h => h) ?y5 (by assumption) ?r5
  case y5 => (intro w hSw; (try dsimp only at hSw); go_simp; try with_reducible rfl)
  try simp only [Act.put, List.setIfInBounds_toArray, List.set_cons_zero, List.set_cons_succ]
  refine wpAnyH_ready (rs := [9]) (by kernel_rfl) (by simp) (AllReadyH.cons rfl (fun K hK => ?_) AllReadyH.nil)
  refine step_store_row rfl _ _ _ rfl gr #[.string ⟨#[71, 69, 84]⟩, .string t, .int .i64 1, .slice A3 Z.length c3, .string ⟨#[]⟩] rfl rfl 24 #[.string ⟨#[]⟩, .string ⟨#[]⟩, .int .i64 0, .slice none 0 0, .string ⟨#[]⟩] Tgr.out (by kernel_rfl) rfl (by simp [Value.oneCell']) ?_
  obtain ⟨u6, hu6⟩ : ∃ W, u5.setRow gr #[.string ⟨#[71, 69, 84]⟩, .string t, .int .i64 1, .slice A3 Z.length c3, .string ⟨#[]⟩] = W := ⟨_, rfl⟩
  rw [hu6]
  replace ZQ : Hid (u6.heap[w.heap.size]? = some (.cells #[.string m, .string t, .int .i64 v, .slice A f.length c, .string b] 24 (0, 0))) := (by show _ = _; rw [← hu6, setRow_other _ _ _ _ (by omega)]; exact ZQ.out)
  replace ZP : Hid (u6.heap[w.heap.size + 1]? = some (.cells #[.int .i64 pc, .string pr, .int .i64 pv, .slice B g.length d, .string pb] 26 (0, 0))) := (by show _ = _; rw [← hu6, setRow_other _ _ _ _ (by omega)]; exact ZP.out)
  replace ZK : Hid (u6.heap[gk]? = some (.cells #[.int .i64 pc, .string pr, .int .i64 pv, .slice B g.length d, .string pb, .string m, .string t, .int .i64 v, .slice A f.length c, .string b] 66 (0, 0))) := (by show _ = _; rw [← hu6, setRow_other _ _ _ _ (by omega)]; exact ZK.out)
  replace Tga : Hid (u6.heap[ga]? = some (.cells #[.slice A1 X.length c1, .slice A2 Y.length c2] 22 (0, 0))) := (by show _ = _; rw [← hu6, setRow_other _ _ _ _ (by omega)]; exact Tga.out)
  replace S1 := Lib.hid (S1.out.setRowD dS1gr #[.string ⟨#[71, 69, 84]⟩, .string t, .int .i64 1, .slice A3 Z.length c3, .string ⟨#[]⟩])
  rw [hu6] at S1
  replace S2 := Lib.hid (S2.out.setRowD dS2gr #[.string ⟨#[71, 69, 84]⟩, .string t, .int .i64 1, .slice A3 Z.length c3, .string ⟨#[]⟩])
  rw [hu6] at S2
  replace S3 := Lib.hid (S3.out.setRowD dS3gr #[.string ⟨#[71, 69, 84]⟩, .string t, .int .i64 1, .slice A3 Z.length c3, .string ⟨#[]⟩])
  rw [hu6] at S3
  replace Tgr : Hid (u6.heap[gr]? = some (.cells #[.string ⟨#[71, 69, 84]⟩, .string t, .int .i64 1, .slice A3 Z.length c3, .string ⟨#[]⟩] 24 (0, 0))) := (by show _ = _; rw [← hu6]; exact setRow_heap _ _ _ _ _ _ Tgr.out)
  replace HB : Hid (Below w.heap.size w u6) := (by show Below _ _ _; rw [← hu6]; exact below_setRow HB.out nbgr _)
  clear hu6
  refine hK.out _ _ (⟨(cel5r ZQ.out).2.1, cel10 ZK.out⟩) (fun hHeld => ?_)
  clear hK
  try simp only [Act.put, List.setIfInBounds_toArray, List.set_cons_zero, List.set_cons_succ]
  refine wpAnyH_done (by kernel_rfl) ?_ _
  go_wp2_with fail
  refine bodyPost_ret (results_cell_row rfl _ _ gr 24 #[.string ⟨#[71, 69, 84]⟩, .string t, .int .i64 1, .slice A3 Z.length c3, .string ⟨#[]⟩] (0, 0) _ rfl Tgr.out Tryz.underlying24 rfl (by kernel_rfl)) rfl ?_
  exact ⟨A3, c3, rfl, S3.out, fw, HB.out⟩

end Go.Proofs.YtjkfdjolhmgemaaGreatDoor
end
