/-
  Texts that the laws of this seat lean on, one behind the other.
-/
import Derived.Test.YtjkfdjolhmgemaaGreatDoorMrgAV
import Derived.Test.YtjkfdjolhmgemaaGreatDoorMrgAH
import Derived.Test.YtjkfdjolhmgemaaGreatDoorMrgAU
import Derived.Test.YtjkfdjolhmgemaaGreatDoorMrgAS
import Derived.Test.YtjkfdjolhmgemaaGreatDoorMrgAD
import Derived.Test.YtjkfdjolhmgemaaGreatDoorRows
import Derived.Test.YtjkfdjolhmgemaaGreatDoorMrgAJ
import Derived.Test.YtjkfdjolhmgemaaGreatDoorMrgC
import Derived.Test.YtjkfdjolhmgemaaGreatDoorMrgAT
import Derived.Test.YtjkfdjolhmgemaaGreatDoorMrgAR
import Derived.Test.YtjkfdjolhmgemaaGreatDoorMrgAI
import Derived.Test.YtjkfdjolhmgemaaGreatDoorMrgAB
set_option linter.unusedSimpArgs false
set_option linter.unusedVariables false
/-
  Package conds: contract of Merge; what the rows' list of variables gives the walks of layer 19.
-/
section
namespace Go.Proofs.YtjkfdjolhmgemaaGreatDoor
open Go.RowKit
set_option linter.unusedSimpArgs false

theorem set67 {W : World} {g t : Nat} {c0 c1 c2 c3 c4 c5 c6 u : Value} (h : W.heap[g]? = some (.cells #[c0, c1, c2, c3, c4, c5, c6] t (0, 0))) : (W.setCell ⟨g, 6, none⟩ u).heap[g]? = some (.cells #[c0, c1, c2, c3, c4, c5, u] t (0, 0)) := by
  simp [World.setCell, Array.getElem?_modify, h]
theorem drop_swap (L : List Fd) (a b : List (List UInt8)) : fdDrop L (a ++ b) = fdDrop L (b ++ a) := by
  unfold fdDrop
  refine congrArg (fun p => L.filter p) (funext fun x => ?_)
  unfold nmd
  rw [List.any_append, List.any_append, Bool.or_comm]
theorem mrg_swap (L N : List Fd) : mrgF L N = fdDrop L (nmsF (comF N) ++ c2N) ++ comF N := by unfold mrgF nmsF; rw [drop_swap]
theorem nn_le {Y : List Fd} (h : ∀ x ∈ Y, x.1.size ≤ 10000) : ∀ x ∈ nmsF Y ++ c2N, x.length ≤ maxLen := fun x hx => by
  unfold nmsF at hx
  rcases List.mem_append.1 hx with hx | hx
  · obtain ⟨y, hy, rfl⟩ := List.mem_map.1 hx
    have := h y hy
    rw [← Lib.size_eq]
    unfold maxLen
    omega
  · exact (show ∀ x ∈ c2N, x.length ≤ maxLen by decide) x hx

set_option maxHeartbeats 16000000 in
set_option maxRecDepth 100000 in
theorem conM_any (s : Stor) (A : Option Addr) (c : Nat) (D : Option Addr) (n k : Nat) (p : Rply) (B : Option Addr) (d : Nat) (now : Int) (K : List Pk) (w : World) (h : SlF w A s.f.length c s.f) (hQ : FwL s.f) (hK : SlK w D n k K) (h' : SlF w B p.f.length d p.f) (hL : FwL p.f) (hKn : n ≤ 100000000) (HT : ConTabs w) :
    Calls Tryz.prog 19 #[.agg (stC s A c D n k), .agg (rpC p B d), .int .i64 now] w fun e w' => ∃ A' c' D' n' k', e = .returned (.agg (stC ⟨s.c, s.r, s.v, mrgF s.f p.f, s.b, now⟩ A' c' D' n' k')) ∧ SlF w' A' (mrgF s.f p.f).length c' (mrgF s.f p.f) ∧ FreshA w A' ∧ SlK w' D' n' k' K ∧ (D' = D ∨ FreshA w D') ∧ Below w.heap.size w w' := by
  obtain ⟨sc, sr, sv, f, sb, st⟩ := s
  obtain ⟨pc, pr, pv, g, pb⟩ := p
  simp only at h h' hQ hL
  have hbf := fwl_bd hQ
  have hbg := fwl_bd hL
  obtain ⟨W0, hW0⟩ : ∃ W, (((w.alloc (.cells #[.int .i64 sc, .string sr, .int .i64 sv, .slice A f.length c, .string sb, .int .i64 st, .slice D n k] 37)).alloc (.cells #[.int .i64 pc, .string pr, .int .i64 pv, .slice B g.length d, .string pb] 26)).alloc (.cells #[.int .i64 0, .string ⟨#[]⟩, .int .i64 0, .slice none 0 0, .string ⟨#[]⟩, .int .i64 0, .slice none 0 0] 37)) = W := ⟨_, rfl⟩
  have HB : Hid (Below w.heap.size w W0) := (by show Below _ _ _; rw [← hW0]; exact alls_below [.cells #[.int .i64 sc, .string sr, .int .i64 sv, .slice A f.length c, .string sb, .int .i64 st, .slice D n k] 37, .cells #[.int .i64 pc, .string pr, .int .i64 pv, .slice B g.length d, .string pb] 26, .cells #[.int .i64 0, .string ⟨#[]⟩, .int .i64 0, .slice none 0 0, .string ⟨#[]⟩, .int .i64 0, .slice none 0 0] 37] w)
  have HS0 : Hid (W0.heap.size = w.heap.size + 1 + 1 + 1) := (by show _ = _; rw [← hW0]; simp)
  have ZA : Hid (W0.heap[w.heap.size]? = some (.cells #[.int .i64 sc, .string sr, .int .i64 sv, .slice A f.length c, .string sb, .int .i64 st, .slice D n k] 37 (0, 0))) := (by show _ = _; rw [← hW0]; exact alls_at [.cells #[.int .i64 sc, .string sr, .int .i64 sv, .slice A f.length c, .string sb, .int .i64 st, .slice D n k] 37, .cells #[.int .i64 pc, .string pr, .int .i64 pv, .slice B g.length d, .string pb] 26, .cells #[.int .i64 0, .string ⟨#[]⟩, .int .i64 0, .slice none 0 0, .string ⟨#[]⟩, .int .i64 0, .slice none 0 0] 37] w 0 _ rfl)
  have ZP : Hid (W0.heap[w.heap.size + 1]? = some (.cells #[.int .i64 pc, .string pr, .int .i64 pv, .slice B g.length d, .string pb] 26 (0, 0))) := (by show _ = _; rw [← hW0]; exact alls_at [.cells #[.int .i64 sc, .string sr, .int .i64 sv, .slice A f.length c, .string sb, .int .i64 st, .slice D n k] 37, .cells #[.int .i64 pc, .string pr, .int .i64 pv, .slice B g.length d, .string pb] 26, .cells #[.int .i64 0, .string ⟨#[]⟩, .int .i64 0, .slice none 0 0, .string ⟨#[]⟩, .int .i64 0, .slice none 0 0] 37] w 1 _ rfl)
  have ZR : Hid (W0.heap[w.heap.size + 1 + 1]? = some (.cells #[.int .i64 0, .string ⟨#[]⟩, .int .i64 0, .slice none 0 0, .string ⟨#[]⟩, .int .i64 0, .slice none 0 0] 37 (0, 0))) := (by show _ = _; rw [← hW0]; exact alls_at [.cells #[.int .i64 sc, .string sr, .int .i64 sv, .slice A f.length c, .string sb, .int .i64 st, .slice D n k] 37, .cells #[.int .i64 pc, .string pr, .int .i64 pv, .slice B g.length d, .string pb] 26, .cells #[.int .i64 0, .string ⟨#[]⟩, .int .i64 0, .slice none 0 0, .string ⟨#[]⟩, .int .i64 0, .slice none 0 0] 37] w 2 _ rfl)
  have HB0 := HB
  clear HB
  have HFS := Lib.hid (h.below HB0.out)
  have HFP := Lib.hid (h'.below HB0.out)
  have HKS := Lib.hid (hK.below HB0.out)
  have HF0 := Lib.hid h
  have HK0 := Lib.hid hK
  have C1 := Lib.hid (stp_any B g.length d g W0 HFP.out hL.n hL.v hbg (HT.kept HB0.out).hop)
  have hbs : ∀ x ∈ stpL g, Bd x := fun x hx => hbg x (stp_mem hx)
  have hsl : (stpL g).length ≤ 1000 := Nat.le_trans (stp_lenle g) hL.n
  have hcz : ∀ x ∈ comF g, x.1.size ≤ maxLen ∧ x.2.size ≤ maxLen := fun x hx => ⟨(hbs x (List.mem_filter.1 hx).1).one, (hbs x (List.mem_filter.1 hx).1).two⟩
  have hcl : (comF g).length ≤ 1000 := Nat.le_trans (List.length_filter_le _ _) hsl
  have hnz : ∀ x ∈ nmsF (comF g) ++ c2N, x.length ≤ maxLen := nn_le fun x hx => hL.m x (stp_mem (List.mem_filter.1 hx).1)
  have hnl : (nmsF (comF g) ++ c2N).length ≤ 1002 := by rw [List.length_append]; unfold nmsF; rw [List.length_map]; exact Nat.add_le_add hcl (Nat.le_refl 2)
  have hfl : f.length ≤ 1000 := hQ.n
  have hdl : (fdDrop f (nmsF (comF g) ++ c2N)).length ≤ 1000 := Nat.le_trans (List.length_filter_le _ _) hfl
  have hdz : ∀ x ∈ fdDrop f (nmsF (comF g) ++ c2N), x.1.size ≤ maxLen ∧ x.2.size ≤ maxLen := fun x hx => ⟨(hbf x (List.mem_filter.1 hx).1).one, (hbf x (List.mem_filter.1 hx).1).two⟩
  have HCD := Lib.hid (show comF g = fdDrop (stpL g) c3N from rfl)
  have HMD := Lib.hid (mrg_swap f g)
  obtain ⟨Z, hZ⟩ : ∃ Z, Z = mrgF f g := ⟨_, rfl⟩
  rw [← hZ] at HMD ⊢
  clear hZ
  unfold rpC stC IsFs at *
  simp only at *
  clear h h' hQ hL hK hbg HT
  generalize stpL g = X at *
  generalize comF g = Y at *
  obtain ⟨y0, y1, y2, y3, y4⟩ := cel5r ZP.out
  go_enter Tryz.func19, Tryz.ntmps19
  go_wp2_with fail
  try rw [hW0]
  refine C1.out.mono ?_
  rintro e w1 ⟨A1, k1, rfl, hX, hb⟩
  have HX := Lib.hid hX
  have HB := Lib.hid hb
  clear hb hX C1 hW0 y0 y1 y2 y3 y4
  have C2 := Lib.hid (drop_any A1 (some ⟨w1.heap.size, 0, none⟩) X.length k1 3 3 X c3N (w1.alloc (.cells #[.string ⟨#[67, 111, 110, 116, 101, 110, 116, 45, 69, 110, 99, 111, 100, 105, 110, 103]⟩, .string ⟨#[67, 111, 110, 116, 101, 110, 116, 45, 84, 121, 112, 101]⟩, .string ⟨#[67, 111, 110, 116, 101, 110, 116, 45, 82, 97, 110, 103, 101]⟩] 9)) (HX.out.alloc _) (by omega) hbs (SlS.texts w1 9 [(⟨#[67, 111, 110, 116, 101, 110, 116, 45, 69, 110, 99, 111, 100, 105, 110, 103]⟩ : ByteArray), (⟨#[67, 111, 110, 116, 101, 110, 116, 45, 84, 121, 112, 101]⟩ : ByteArray), (⟨#[67, 111, 110, 116, 101, 110, 116, 45, 82, 97, 110, 103, 101]⟩ : ByteArray)] (by decide)) (by decide) (by omega))
  rw [← HCD.out] at C2
  go_wp2_with fail
  refine C2.out.mono ?_
  rintro e w2 ⟨v2, rfl, ho, hb⟩
  obtain ⟨A2, k2, rfl, hY⟩ := ho.slf hcz
  have HY := Lib.hid hY
  replace HB := Lib.hid (below_then HB.out (zero_then hb))
  clear hb ho hY C2 HX HCD hbs hsl
  have C3 := Lib.hid (fNames_any A2 Y.length k2 Y w2 HY.out hcl)
  go_wp2_with fail
  refine C3.out.mono ?_
  rintro e w3 ⟨v3, rfl, ho, hb⟩
  have HO := Lib.hid ho
  have HB3 := Lib.hid hb
  have hz3 : w2.heap.size ≤ w3.heap.size := hb.size
  have hnl0 : (nmsF Y).length ≤ 1000 := (by unfold nmsF; rw [List.length_map]; exact hcl)
  clear hb ho C3
  obtain ⟨A3, n3, k3, rfl⟩ : ∃ A n c, v3 = .slice A n c := (by obtain ⟨A, c, e, _⟩ := HO.out.sls; exact ⟨A, _, c, e⟩)
  go_upto_region 3 with (at_builtin; refine wpList_append_sls rfl _ _ _ rfl w2.heap.size 9 Tryz.underlying64 (by kernel_rfl) _ rfl (nmsF Y) (HO.out.alloc _) _ 2 2 rfl c2N (SlS.texts w3 9 [(⟨#[65, 103, 101]⟩ : ByteArray), (⟨#[68, 97, 116, 101]⟩ : ByteArray)] (by decide)) (by show _ + 2 ≤ _; omega) (by simp; omega) w2 (HB3.out.alloc hz3 _) ?_; intro v4 u4 ho hb hz0; obtain ⟨A4, n4, k4, rfl⟩ : ∃ A n c, v4 = .slice A n c := (by obtain ⟨A, c, e, _⟩ := ho.out.sls; exact ⟨A, _, c, e⟩); have HO4 := ho; have HB4 := Lib.hid hb; clear ho hb hz0)
  obtain ⟨AA, cc, hv, hS, _⟩ := HO4.out.sls
  injection hv with e1 e2 e3
  subst e1 e2 e3
  have HS4 := Lib.hid hS
  replace HB := Lib.hid (HB.out.trans (HB4.out.mono HB.out.size))
  have HY4 := Lib.hid (HY.out.below HB4.out)
  clear hS HO HO4 HB3 HB4 HY hz3
  generalize nmsF Y ++ c2N = NN at *
  obtain ⟨U, hU⟩ : ∃ W, u4.alloc (.cells #[.int .i64 sc, .string sr, .int .i64 sv, .slice A f.length c, .string sb, .int .i64 now, .slice D n k] 37) = W := ⟨_, rfl⟩
  obtain ⟨go, hgo⟩ : ∃ q, u4.heap.size = q := ⟨_, rfl⟩
  have ZO : Hid (U.heap[go]? = some (.cells #[.int .i64 sc, .string sr, .int .i64 sv, .slice A f.length c, .string sb, .int .i64 now, .slice D n k] 37 (0, 0))) := (by show _ = _; rw [← hU, ← hgo]; exact heap_alloc_new u4 _)
  have hbu : Below u4.heap.size u4 U := (by rw [← hU]; exact (Below.refl _ _).alloc (Nat.le_refl _) _)
  have HBU := Lib.hid hbu
  have HB2 := Lib.hid (below_then HB.out hbu)
  have HGO : Hid (W0.heap.size ≤ go ∧ go < U.heap.size) := ⟨by rw [← hgo]; exact HB.out.size, (Array.getElem?_eq_some_iff.1 ZO.out).1⟩
  have C5 := Lib.hid (cloneK_any D n k K U (HKS.out.below HB2.out) hKn)
  obtain ⟨x0, x1, x2, x3, x4, x5, x6⟩ := cel7 (zero_still HB.out ZA.out)
  obtain ⟨y0, y1, y2, y3, y4, y5, y6⟩ := cel7 (zero_still HB2.out ZA.out)
  clear hbu
  go_wp2_with fail
  try rw [hU]
  refine C5.out.mono ?_
  rintro e w5 ⟨A5, k5, rfl, hK5, f5, hb⟩
  clear x0 x1 x2 x3 x4 x5 x6 y0 y1 y2 y3 y4 y5 y6 C5 hU
  have HK5 := Lib.hid hK5
  have HF5 := Lib.hid f5
  have HB5 := Lib.hid hb
  obtain ⟨z6, zf⟩ := row_at (zero_still hb ZO.out) 6 _ rfl
  have zo := zero_still hb ZO.out
  clear hK5 f5 hb
  go_upto_region 6 with fail
  clear z6 zf
  have ZO2 : Hid ((w5.setCell ⟨go, 6, none⟩ (.slice A5 n k5)).heap[go]? = some (.cells #[.int .i64 sc, .string sr, .int .i64 sv, .slice A f.length c, .string sb, .int .i64 now, .slice A5 n k5] 37 (0, 0))) := set67 zo
  have HBV : Hid (Below W0.heap.size W0 (w5.setCell ⟨go, 6, none⟩ (.slice A5 n k5))) := (HB2.out.trans (HB5.out.mono HB2.out.size)).setCell (p := ⟨go, 6, none⟩) HGO.out.1 _
  have HBG : Hid (Below u4.heap.size u4 (w5.setCell ⟨go, 6, none⟩ (.slice A5 n k5))) := (HBU.out.trans (HB5.out.mono HBU.out.size)).setCell (p := ⟨go, 6, none⟩) (by show _ ≤ go; omega) _
  have hd5 : DisA A5 n go := HF5.out.dis _ HGO.out.2
  have HKV := Lib.hid (HK5.out.setCellD hd5 6 (.slice A5 n k5))
  have hsz5 : w5.heap.size = (w5.setCell ⟨go, 6, none⟩ (.slice A5 n k5)).heap.size := by simp
  have hU5 : U.heap.size ≤ w5.heap.size := HB5.out.size
  obtain ⟨V, hV⟩ : ∃ V, w5.setCell ⟨go, 6, none⟩ (.slice A5 n k5) = V := ⟨_, rfl⟩
  rw [hV] at ZO2 HBV HBG HKV hsz5
  try rw [hV]
  clear hV zo HB5 HB2 HBU HK5
  have hgv : go < V.heap.size := by have := HGO.out.2; omega
  have C6 := Lib.hid (drop_any A A4 f.length c NN.length k4 f NN V (HFS.out.below HBV.out) (by omega) hbf (HS4.out.below HBG.out) hnz (by omega))
  have HYV := Lib.hid (HY4.out.below HBG.out)
  obtain ⟨x0, x1, x2, x3, x4, x5, x6⟩ := cel7 (zero_still HBV.out ZA.out)
  go_wp2_with fail
  refine C6.out.mono ?_
  rintro e w7 ⟨v7, rfl, ho, hb⟩
  clear x0 x1 x2 x3 x4 x5 x6 C6
  obtain ⟨A7, k7, rfl, hX7⟩ := ho.slf hdz
  have HX7 := Lib.hid hX7
  have HB7 := Lib.hid hb
  have HY7 := Lib.hid (HYV.out.below hb)
  clear ho hb hX7 HYV
  generalize fdDrop f NN = X7 at *
  obtain ⟨V1, hV1⟩ : ∃ W, w7.alloc (.cells #[.slice A7 X7.length k7, .slice A2 Y.length k2] 22) = W := ⟨_, rfl⟩
  obtain ⟨gc, hgc⟩ : ∃ q, w7.heap.size = q := ⟨_, rfl⟩
  have ZC : V1.heap[gc]? = some (.cells #[.slice A7 X7.length k7, .slice A2 Y.length k2] 22 (0, 0)) := (by rw [← hV1, ← hgc]; exact heap_alloc_new w7 _)
  have hb1 : Below w7.heap.size w7 V1 := (by rw [← hV1]; exact (Below.refl _ _).alloc (Nat.le_refl _) _)
  have HB8 := Lib.hid (below_then HB7.out hb1)
  have HV1 : Hid (V.heap.size ≤ V1.heap.size) := HB8.out.size
  have C8 := Lib.hid (concatS_any gc A7 A2 k7 k2 X7 Y Z HMD.out V1 ZC (HX7.out.below hb1) (HY7.out.below hb1) (by omega))
  clear ZC hb1
  go_wp2_with fail
  try rw [hV1]
  try rw [hgc]
  refine C8.out.mono ?_
  rintro e w8 ⟨A8, c8, rfl, hS, hf, hb⟩
  clear C8 hV1 hgc
  replace HB8 := Lib.hid (below_then HB8.out hb)
  have HS8 := Lib.hid hS
  have HF8 := Lib.hid hf
  clear hS hf
  have zo := zero_still HB8.out ZO2.out
  obtain ⟨z3, zf⟩ := row_at zo 3 _ rfl
  clear hb
  go_upto_region 7 with fail
  clear z3 zf
  have ZO3 : Hid ((w8.setCell ⟨go, 3, none⟩ (.slice A8 Z.length c8)).heap[go]? = some (.cells #[.int .i64 sc, .string sr, .int .i64 sv, .slice A8 Z.length c8, .string sb, .int .i64 now, .slice A5 n k5] 37 (0, 0))) := set37 zo
  have HB9 : Hid (Below W0.heap.size W0 (w8.setCell ⟨go, 3, none⟩ (.slice A8 Z.length c8))) := (HBV.out.trans (HB8.out.mono HBV.out.size)).setCell (p := ⟨go, 3, none⟩) HGO.out.1 _
  have hd8 : ∀ ad, A8 = some ad → ad.block ≠ go := fun ad e => by have := HF8.out ad e; have := HGO.out.2; have := HV1.out; omega
  have HS9 := Lib.hid (SlF.setFar HS8.out hd8 (k := 3) (.slice A8 Z.length c8))
  have HK9 := Lib.hid ((HKV.out.below HB8.out).setCellD hd5 3 (.slice A8 Z.length c8))
  obtain ⟨V2, hV2⟩ : ∃ V, w8.setCell ⟨go, 3, none⟩ (.slice A8 Z.length c8) = V := ⟨_, rfl⟩
  rw [hV2] at ZO3 HB9 HS9 HK9
  try rw [hV2]
  clear hV2 zo
  have ZR2 := Lib.hid (zero_still HB9.out ZR.out)
  obtain ⟨x0, x1, x2, x3, x4, x5, x6⟩ := cel7 ZO3.out
  go_wp2_with (refine wpList_store_row rfl _ _ _ rfl (w.heap.size + 1 + 1) #[.int .i64 sc, .string sr, .int .i64 sv, .slice A8 Z.length c8, .string sb, .int .i64 now, .slice A5 n k5] rfl rfl 37 _ ZR2.out (by kernel_rfl) rfl (by simp [Value.oneCell']) ?_)
  refine bodyPost_ret (results_cell_row rfl _ _ (w.heap.size + 1 + 1) 37 #[.int .i64 sc, .string sr, .int .i64 sv, .slice A8 Z.length c8, .string sb, .int .i64 now, .slice A5 n k5] (0, 0) _ rfl (setRow_heap _ _ _ _ _ _ ZR2.out) Tryz.underlying37 rfl (by kernel_rfl)) rfl ?_
  have h0 := HS0.out
  have h1 := HGO.out
  have h2 := HV1.out
  refine ⟨A8, c8, A5, n, k5, rfl, HS9.out.setRow (fun ad e => by have := HF8.out ad e; omega) _, fun ad e => by have := HF8.out ad e; omega, HK9.out.setRowD (fun _ ad e => by have := HF5.out ad e; omega) _, .inr fun ad e => by have := HF5.out ad e; omega, ?_⟩
  exact below_setRow (HB0.out.trans (HB9.out.mono HB0.out.size)) (by omega) _

theorem ntm_at (p : Rply) (B : Option Addr) (d : Nat) (w : World) (h : SlF w B p.f.length d p.f) (hL : FwL p.f) :
    Calls Tryz.prog 14 #[.agg (rpC p B d)] w fun e w' => ∃ A c, e = .returned (.agg (rpC ⟨304, nmodS, 1, ntF p.f, ⟨#[]⟩⟩ A c)) ∧ SlF w' A (ntF p.f).length c (ntF p.f) ∧ FreshA w A ∧ Below w.heap.size w w' := r_ntm p B d w h hL
theorem ask_at (r : Rqst) (A : Option Addr) (c : Nat) (p : Rply) (B : Option Addr) (d : Nat) (w : World) (h : SlF w A r.f.length c r.f) (hQ : FwL r.f) (h' : SlF w B p.f.length d p.f) (hL : FwL p.f) :
    Calls Tryz.prog 17 #[.agg (rqC r A c), .agg (rpC p B d)] w fun e w' => ∃ A c, e = .returned (.agg (rqC ⟨⟨#[71, 69, 84]⟩, r.t, 1, askF r.f p.f, ⟨#[]⟩⟩ A c)) ∧ SlF w' A (askF r.f p.f).length c (askF r.f p.f) ∧ FreshA w A ∧ Below w.heap.size w w' := r_ask r A c p B d w h hQ h' hL

theorem cnPow_data : (Rows.laid_internal_strconv_uint64pow10 : DataW Unit) = Lib.tabData .u64 Lib.pow10Tab := by kernel_rfl
theorem conTabs {W : World} (h : laidMetH Tryz.prog Rows.condsTellsRow.laid W) : ConTabs W := by
  rw [MakeChecks.laidMetH_plain _ _ _ (by kernel_rfl)] at h
  exact ⟨⟨tab_in (n := 20) h (.tail _ (.tail _ (.head _))) cnPow_data (g := 8) (by kernel_rfl) (t := 209) (by kernel_rfl) Tryz.underlying209 Tryz.underlying154 (by kernel_rfl) (by kernel_rfl),
    var_in h (.tail _ (.tail _ (.tail _ (.tail _ (.head _))))) (g := 4) (by kernel_rfl) (t := 167) (by kernel_rfl) (by kernel_rfl),
    var_in h (.tail _ (.tail _ (.tail _ (.tail _ (.tail _ (.head _)))))) (g := 3) (by kernel_rfl) (t := 165) (by kernel_rfl) (by kernel_rfl),
    var_in h (.tail _ (.tail _ (.tail _ (.tail _ (.tail _ (.tail _ (.head _))))))) (g := 1) (by kernel_rfl) (t := 127) (by kernel_rfl) (by kernel_rfl)⟩,
    var_in h (.tail _ (.tail _ (.tail _ (.tail _ (.tail _ (.tail _ (.tail _ (.head _)))))))) (g := 2) (by kernel_rfl) (t := 139) (by kernel_rfl) (by kernel_rfl),
    var_in h (.tail _ (.tail _ (.tail _ (.tail _ (.tail _ (.tail _ (.tail _ (.tail _ (.head _))))))))) (g := 0) (by kernel_rfl) (t := 91) (by kernel_rfl) (by kernel_rfl)⟩

end Go.Proofs.YtjkfdjolhmgemaaGreatDoor
end

/-
  The page's example (asks) of layer 19.
-/
section
namespace Go.Proofs.YtjkfdjolhmgemaaGreatDoor
open Go.RowKit
set_option linter.unusedSimpArgs false

def l19q : List Fd := [(⟨#[73, 102, 45, 78, 111, 110, 101, 45, 77, 97, 116, 99, 104]⟩, ⟨#[34, 97, 34]⟩)]
def l19r : List Fd := [(⟨#[69, 84, 97, 103]⟩, ⟨#[87, 47, 34, 97, 34]⟩)]
def l19a : List Fd := [(⟨#[73, 102, 45, 78, 111, 110, 101, 45, 77, 97, 116, 99, 104]⟩, ⟨#[87, 47, 34, 97, 34]⟩)]
theorem f19q : FwL l19q := fwl_few _ (by decide)
theorem f19r : FwL l19r := fwl_few _ (by decide)
theorem x19a : ntF l19r = l19r ∧ askF l19q l19r = l19a ∧ mrgF l19r l19r = l19r := by refine ⟨?_, ?_, ?_⟩ <;> kernel_rfl
theorem x19b : satB ⟨#[71, 69, 84]⟩ l19q l19r 200 = true ∧ selB l19r l19r = true ∧ selB [] l19r = false := by refine ⟨?_, ?_, ?_⟩ <;> kernel_rfl

/-- What stands in memory at each step. -/
structure Kw19 (w W : World) : Prop where
  q : W.heap[w.heap.size + 1]? = some (.cells #[.string ⟨#[71, 69, 84]⟩, .string ⟨#[47]⟩, .int .i64 1, .slice (some ⟨w.heap.size, 0, none⟩) 1 1, .string ⟨#[]⟩] 24 (0, 0))
  r : W.heap[w.heap.size + 1 + 1 + 1]? = some (.cells #[.int .i64 200, .string ⟨#[]⟩, .int .i64 1, .slice (some ⟨w.heap.size + 1 + 1, 0, none⟩) 1 1, .string ⟨#[98]⟩] 26 (0, 0))
  fq : SlF W (some ⟨w.heap.size, 0, none⟩) 1 1 l19q
  fr : SlF W (some ⟨w.heap.size + 1 + 1, 0, none⟩) 1 1 l19r
  h : Below w.heap.size w W
theorem Kw19.below {w W W' : World} (k : Kw19 w W) (hb : Below W.heap.size W W') : Kw19 w W' :=
  ⟨zero_still hb k.q, zero_still hb k.r, k.fq.below hb, k.fr.below hb, below_then k.h hb⟩
theorem kw19_new (w : World) : Kw19 w ((((w.alloc (.cells #[.string ⟨#[73, 102, 45, 78, 111, 110, 101, 45, 77, 97, 116, 99, 104]⟩, .string ⟨#[34, 97, 34]⟩] 43)).alloc (.cells #[.string ⟨#[71, 69, 84]⟩, .string ⟨#[47]⟩, .int .i64 1, .slice (some ⟨w.heap.size, 0, none⟩) 1 1, .string ⟨#[]⟩] 24)).alloc (.cells #[.string ⟨#[69, 84, 97, 103]⟩, .string ⟨#[87, 47, 34, 97, 34]⟩] 43)).alloc (.cells #[.int .i64 200, .string ⟨#[]⟩, .int .i64 1, .slice (some ⟨w.heap.size + 1 + 1, 0, none⟩) 1 1, .string ⟨#[98]⟩] 26)) := by
  have e := fun i o h => alls_at [.cells #[.string ⟨#[73, 102, 45, 78, 111, 110, 101, 45, 77, 97, 116, 99, 104]⟩, .string ⟨#[34, 97, 34]⟩] 43, .cells #[.string ⟨#[71, 69, 84]⟩, .string ⟨#[47]⟩, .int .i64 1, .slice (some ⟨w.heap.size, 0, none⟩) 1 1, .string ⟨#[]⟩] 24, .cells #[.string ⟨#[69, 84, 97, 103]⟩, .string ⟨#[87, 47, 34, 97, 34]⟩] 43, .cells #[.int .i64 200, .string ⟨#[]⟩, .int .i64 1, .slice (some ⟨w.heap.size + 1 + 1, 0, none⟩) 1 1, .string ⟨#[98]⟩] 26] w i o h
  have hq : ((((w.alloc (.cells #[.string ⟨#[73, 102, 45, 78, 111, 110, 101, 45, 77, 97, 116, 99, 104]⟩, .string ⟨#[34, 97, 34]⟩] 43)).alloc (.cells #[.string ⟨#[71, 69, 84]⟩, .string ⟨#[47]⟩, .int .i64 1, .slice (some ⟨w.heap.size, 0, none⟩) 1 1, .string ⟨#[]⟩] 24)).alloc (.cells #[.string ⟨#[69, 84, 97, 103]⟩, .string ⟨#[87, 47, 34, 97, 34]⟩] 43)).alloc (.cells #[.int .i64 200, .string ⟨#[]⟩, .int .i64 1, .slice (some ⟨w.heap.size + 1 + 1, 0, none⟩) 1 1, .string ⟨#[98]⟩] 26)).heap[w.heap.size + 1]? = some (.cells #[.string ⟨#[71, 69, 84]⟩, .string ⟨#[47]⟩, .int .i64 1, .slice (some ⟨w.heap.size, 0, none⟩) 1 1, .string ⟨#[]⟩] 24 (0, 0)) := e 1 _ rfl
  have hr : ((((w.alloc (.cells #[.string ⟨#[73, 102, 45, 78, 111, 110, 101, 45, 77, 97, 116, 99, 104]⟩, .string ⟨#[34, 97, 34]⟩] 43)).alloc (.cells #[.string ⟨#[71, 69, 84]⟩, .string ⟨#[47]⟩, .int .i64 1, .slice (some ⟨w.heap.size, 0, none⟩) 1 1, .string ⟨#[]⟩] 24)).alloc (.cells #[.string ⟨#[69, 84, 97, 103]⟩, .string ⟨#[87, 47, 34, 97, 34]⟩] 43)).alloc (.cells #[.int .i64 200, .string ⟨#[]⟩, .int .i64 1, .slice (some ⟨w.heap.size + 1 + 1, 0, none⟩) 1 1, .string ⟨#[98]⟩] 26)).heap[w.heap.size + 1 + 1 + 1]? = some (.cells #[.int .i64 200, .string ⟨#[]⟩, .int .i64 1, .slice (some ⟨w.heap.size + 1 + 1, 0, none⟩) 1 1, .string ⟨#[98]⟩] 26 (0, 0)) := e 3 _ rfl
  have h0 : ((((w.alloc (.cells #[.string ⟨#[73, 102, 45, 78, 111, 110, 101, 45, 77, 97, 116, 99, 104]⟩, .string ⟨#[34, 97, 34]⟩] 43)).alloc (.cells #[.string ⟨#[71, 69, 84]⟩, .string ⟨#[47]⟩, .int .i64 1, .slice (some ⟨w.heap.size, 0, none⟩) 1 1, .string ⟨#[]⟩] 24)).alloc (.cells #[.string ⟨#[69, 84, 97, 103]⟩, .string ⟨#[87, 47, 34, 97, 34]⟩] 43)).alloc (.cells #[.int .i64 200, .string ⟨#[]⟩, .int .i64 1, .slice (some ⟨w.heap.size + 1 + 1, 0, none⟩) 1 1, .string ⟨#[98]⟩] 26)).heap[w.heap.size]? = some (.cells #[.string ⟨#[73, 102, 45, 78, 111, 110, 101, 45, 77, 97, 116, 99, 104]⟩, .string ⟨#[34, 97, 34]⟩] 43 (0, 0)) := e 0 _ rfl
  have h2 : ((((w.alloc (.cells #[.string ⟨#[73, 102, 45, 78, 111, 110, 101, 45, 77, 97, 116, 99, 104]⟩, .string ⟨#[34, 97, 34]⟩] 43)).alloc (.cells #[.string ⟨#[71, 69, 84]⟩, .string ⟨#[47]⟩, .int .i64 1, .slice (some ⟨w.heap.size, 0, none⟩) 1 1, .string ⟨#[]⟩] 24)).alloc (.cells #[.string ⟨#[69, 84, 97, 103]⟩, .string ⟨#[87, 47, 34, 97, 34]⟩] 43)).alloc (.cells #[.int .i64 200, .string ⟨#[]⟩, .int .i64 1, .slice (some ⟨w.heap.size + 1 + 1, 0, none⟩) 1 1, .string ⟨#[98]⟩] 26)).heap[w.heap.size + 1 + 1]? = some (.cells #[.string ⟨#[69, 84, 97, 103]⟩, .string ⟨#[87, 47, 34, 97, 34]⟩] 43 (0, 0)) := e 2 _ rfl
  exact ⟨hq, hr, slf_row (L := l19q) rfl h0 (by decide) (by decide), slf_row (L := l19r) rfl h2 (by decide) (by decide), alls_below [.cells #[.string ⟨#[73, 102, 45, 78, 111, 110, 101, 45, 77, 97, 116, 99, 104]⟩, .string ⟨#[34, 97, 34]⟩] 43, .cells #[.string ⟨#[71, 69, 84]⟩, .string ⟨#[47]⟩, .int .i64 1, .slice (some ⟨w.heap.size, 0, none⟩) 1 1, .string ⟨#[]⟩] 24, .cells #[.string ⟨#[69, 84, 97, 103]⟩, .string ⟨#[87, 47, 34, 97, 34]⟩] 43, .cells #[.int .i64 200, .string ⟨#[]⟩, .int .i64 1, .slice (some ⟨w.heap.size + 1 + 1, 0, none⟩) 1 1, .string ⟨#[98]⟩] 26] w⟩

theorem e19n (w W : World) (k : Kw19 w W) (HT : ConTabs W) : Calls Tryz.prog 13 #[.agg #[.int .i64 200, .string ⟨#[]⟩, .int .i64 1, .slice (some ⟨w.heap.size + 1 + 1, 0, none⟩) 1 1, .string ⟨#[98]⟩]] W fun e w' => ∃ A c, e = .returned (.agg #[.int .i64 304, .string nmodS, .int .i64 1, .slice A 1 c, .string ⟨#[]⟩]) ∧ SlF w' A 1 c l19r ∧ Below W.heap.size W w' := by
  have h2 := conN_any ⟨200, ⟨#[]⟩, 1, l19r, ⟨#[98]⟩⟩ (some ⟨w.heap.size + 1 + 1, 0, none⟩) 1 W k.fr f19r HT
  simp only [x19a.1] at h2
  exact h2.mono fun e w' ⟨A, c, h1, h3, _, h4⟩ => ⟨A, c, h1, h3, h4⟩
theorem e19a (w W : World) (k : Kw19 w W) (HT : ConTabs W) : Calls Tryz.prog 16 #[.agg #[.string ⟨#[71, 69, 84]⟩, .string ⟨#[47]⟩, .int .i64 1, .slice (some ⟨w.heap.size, 0, none⟩) 1 1, .string ⟨#[]⟩], .agg #[.int .i64 200, .string ⟨#[]⟩, .int .i64 1, .slice (some ⟨w.heap.size + 1 + 1, 0, none⟩) 1 1, .string ⟨#[98]⟩]] W fun e w' => ∃ A c, e = .returned (.agg #[.string ⟨#[71, 69, 84]⟩, .string ⟨#[47]⟩, .int .i64 1, .slice A 1 c, .string ⟨#[]⟩]) ∧ SlF w' A 1 c l19a ∧ Below W.heap.size W w' := by
  have h2 := conA_any ⟨⟨#[71, 69, 84]⟩, ⟨#[47]⟩, 1, l19q, ⟨#[]⟩⟩ (some ⟨w.heap.size, 0, none⟩) 1 ⟨200, ⟨#[]⟩, 1, l19r, ⟨#[98]⟩⟩ (some ⟨w.heap.size + 1 + 1, 0, none⟩) 1 W k.fq f19q k.fr f19r HT
  simp only [x19a.2.1] at h2
  exact h2.mono fun e w' ⟨A, c, h1, h3, _, h4⟩ => ⟨A, c, h1, h3, h4⟩
theorem e19m (w W : World) (k : Kw19 w W) (HT : ConTabs W) (A1 : Option Addr) (c1 : Nat) (hn : SlF W A1 1 c1 l19r) : Calls Tryz.prog 19 #[.agg #[.int .i64 200, .string ⟨#[]⟩, .int .i64 1, .slice (some ⟨w.heap.size + 1 + 1, 0, none⟩) 1 1, .string ⟨#[98]⟩, .int .i64 0, .slice none 0 0], .agg #[.int .i64 304, .string nmodS, .int .i64 1, .slice A1 1 c1, .string ⟨#[]⟩], .int .i64 5] W fun e w' => ∃ A c D n k, e = .returned (.agg #[.int .i64 200, .string ⟨#[]⟩, .int .i64 1, .slice A 1 c, .string ⟨#[98]⟩, .int .i64 5, .slice D n k]) ∧ Below W.heap.size W w' := by
  have h2 := conM_any ⟨200, ⟨#[]⟩, 1, l19r, ⟨#[98]⟩, 0⟩ (some ⟨w.heap.size + 1 + 1, 0, none⟩) 1 none 0 0 ⟨304, nmodS, 1, l19r, ⟨#[]⟩⟩ A1 c1 5 [] W k.fr f19r (SlK.none_ W) hn f19r (by decide) HT
  simp only [x19a.2.2] at h2
  exact h2.mono fun e w' ⟨A, c, D, n, k, h1, _, _, _, _, h4⟩ => ⟨A, c, D, n, k, h1, h4⟩
theorem e19s (w W : World) (k : Kw19 w W) (HT : ConTabs W) : Calls Tryz.prog 10 #[.agg #[.string ⟨#[71, 69, 84]⟩, .string ⟨#[47]⟩, .int .i64 1, .slice (some ⟨w.heap.size, 0, none⟩) 1 1, .string ⟨#[]⟩], .agg #[.int .i64 200, .string ⟨#[]⟩, .int .i64 1, .slice (some ⟨w.heap.size + 1 + 1, 0, none⟩) 1 1, .string ⟨#[98]⟩]] W fun e w' => e = .returned (.bool true) ∧ Below W.heap.size W w' := by
  have h2 := conS_any ⟨⟨#[71, 69, 84]⟩, ⟨#[47]⟩, 1, l19q, ⟨#[]⟩⟩ (some ⟨w.heap.size, 0, none⟩) 1 ⟨200, ⟨#[]⟩, 1, l19r, ⟨#[98]⟩⟩ (some ⟨w.heap.size + 1 + 1, 0, none⟩) 1 W k.fq f19q k.fr f19r HT
  simp only [x19b.1] at h2
  exact h2
theorem e19l (w W : World) (k : Kw19 w W) (A1 : Option Addr) (c1 : Nat) (hn : SlF W A1 1 c1 l19r) : Calls Tryz.prog 21 #[.agg #[.int .i64 200, .string ⟨#[]⟩, .int .i64 1, .slice (some ⟨w.heap.size + 1 + 1, 0, none⟩) 1 1, .string ⟨#[98]⟩], .agg #[.int .i64 304, .string nmodS, .int .i64 1, .slice A1 1 c1, .string ⟨#[]⟩]] W fun e w' => e = .returned (.bool true) ∧ Below W.heap.size W w' := by
  have h2 := conL_any ⟨200, ⟨#[]⟩, 1, l19r, ⟨#[98]⟩⟩ (some ⟨w.heap.size + 1 + 1, 0, none⟩) 1 ⟨304, nmodS, 1, l19r, ⟨#[]⟩⟩ A1 c1 W k.fr f19r hn f19r
  simp only [x19b.2.1] at h2
  exact h2
theorem e19k (W : World) (A1 : Option Addr) (c1 : Nat) (hn : SlF W A1 1 c1 l19r) : Calls Tryz.prog 21 #[.agg #[.int .i64 0, .string ⟨#[]⟩, .int .i64 0, .slice none 0 0, .string ⟨#[]⟩], .agg #[.int .i64 304, .string nmodS, .int .i64 1, .slice A1 1 c1, .string ⟨#[]⟩]] W fun e w' => e = .returned (.bool false) ∧ Below W.heap.size W w' := by
  have h2 := conL_any ⟨0, ⟨#[]⟩, 0, [], ⟨#[]⟩⟩ none 0 ⟨304, nmodS, 1, l19r, ⟨#[]⟩⟩ A1 c1 W (SlF.none_ W) f18n hn f19r
  simp only [x19b.2.2] at h2
  exact h2

set_option maxHeartbeats 16000000 in
set_option maxRecDepth 100000 in
theorem ex19_any (w : World) (HT : ConTabs w) : Calls Tryz.prog 9 #[] w fun e w' => e = .returned (.bool true) ∧ Below w.heap.size w w' := by
  have HK := Lib.hid (kw19_new w)
  replace HT := Lib.hid HT
  obtain ⟨q0, q1, q2, q3, q4⟩ := cel5r HK.out.q
  obtain ⟨r0, r1, r2, r3, r4⟩ := cel5r HK.out.r
  go_enter Tryz.func9, Tryz.ntmps9
  go_wp2_with fail
  refine (e19n _ _ HK.out (HT.out.kept HK.out.h)).mono ?_
  rintro e v1 ⟨A1, c1, rfl, hs1, hb⟩
  clear q0 q1 q2 q3 q4 r0 r1 r2 r3 r4
  replace HK := Lib.hid (HK.out.below hb)
  have S1 := Lib.hid hs1
  clear hs1
  clear hb
  have hbu : Below v1.heap.size v1 (v1.alloc (.cells #[.int .i64 304, .string nmodS, .int .i64 1, .slice A1 1 c1, .string ⟨#[]⟩] 26)) := (Below.refl _ _).alloc (Nat.le_refl _) _
  replace HK := Lib.hid (HK.out.below hbu)
  replace S1 := Lib.hid (S1.out.below hbu)
  have zn := heap_alloc_new v1 (.cells #[.int .i64 304, .string nmodS, .int .i64 1, .slice A1 1 c1, .string ⟨#[]⟩] 26)
  obtain ⟨bzn, hbzn⟩ : ∃ q, v1.heap.size = q := ⟨_, rfl⟩
  rw [hbzn] at zn
  have ZN := Lib.hid zn
  clear hbu zn
  obtain ⟨q0, q1, q2, q3, q4⟩ := cel5r HK.out.q
  obtain ⟨r0, r1, r2, r3, r4⟩ := cel5r HK.out.r
  obtain ⟨zn0, zn1, zn2, zn3, zn4⟩ := cel5r ZN.out
  go_wp2_with fail
  refine (e19a _ _ HK.out (HT.out.kept HK.out.h)).mono ?_
  rintro e v2 ⟨A2, c2, rfl, hs2, hb⟩
  clear q0 q1 q2 q3 q4 r0 r1 r2 r3 r4 zn0 zn1 zn2 zn3 zn4
  replace HK := Lib.hid (HK.out.below hb)
  replace ZN := Lib.hid (zero_still hb ZN.out)
  replace S1 := Lib.hid (S1.out.below hb)
  have S2 := Lib.hid hs2
  clear hs2
  clear hb
  have hbu : Below v2.heap.size v2 (v2.alloc (.cells #[.string ⟨#[71, 69, 84]⟩, .string ⟨#[47]⟩, .int .i64 1, .slice A2 1 c2, .string ⟨#[]⟩] 24)) := (Below.refl _ _).alloc (Nat.le_refl _) _
  replace HK := Lib.hid (HK.out.below hbu)
  replace ZN := Lib.hid (zero_still hbu ZN.out)
  replace S1 := Lib.hid (S1.out.below hbu)
  replace S2 := Lib.hid (S2.out.below hbu)
  have zn := heap_alloc_new v2 (.cells #[.string ⟨#[71, 69, 84]⟩, .string ⟨#[47]⟩, .int .i64 1, .slice A2 1 c2, .string ⟨#[]⟩] 24)
  obtain ⟨bza, hbza⟩ : ∃ q, v2.heap.size = q := ⟨_, rfl⟩
  rw [hbza] at zn
  have ZA := Lib.hid zn
  clear hbu zn
  obtain ⟨q0, q1, q2, q3, q4⟩ := cel5r HK.out.q
  obtain ⟨r0, r1, r2, r3, r4⟩ := cel5r HK.out.r
  obtain ⟨zn0, zn1, zn2, zn3, zn4⟩ := cel5r ZN.out
  obtain ⟨za0, za1, za2, za3, za4⟩ := cel5r ZA.out
  go_wp2_with fail
  refine (e19m _ _ HK.out (HT.out.kept HK.out.h) _ _ S1.out).mono ?_
  rintro e v3 ⟨A3, c3, D3, n3, k3, rfl, hb⟩
  clear q0 q1 q2 q3 q4 r0 r1 r2 r3 r4 zn0 zn1 zn2 zn3 zn4 za0 za1 za2 za3 za4
  replace HK := Lib.hid (HK.out.below hb)
  replace ZN := Lib.hid (zero_still hb ZN.out)
  replace ZA := Lib.hid (zero_still hb ZA.out)
  replace S1 := Lib.hid (S1.out.below hb)
  replace S2 := Lib.hid (S2.out.below hb)
  clear hb
  have hbu : Below v3.heap.size v3 (v3.alloc (.cells #[.int .i64 200, .string ⟨#[]⟩, .int .i64 1, .slice A3 1 c3, .string ⟨#[98]⟩, .int .i64 5, .slice D3 n3 k3] 37)) := (Below.refl _ _).alloc (Nat.le_refl _) _
  replace HK := Lib.hid (HK.out.below hbu)
  replace ZN := Lib.hid (zero_still hbu ZN.out)
  replace ZA := Lib.hid (zero_still hbu ZA.out)
  replace S1 := Lib.hid (S1.out.below hbu)
  replace S2 := Lib.hid (S2.out.below hbu)
  have zn := heap_alloc_new v3 (.cells #[.int .i64 200, .string ⟨#[]⟩, .int .i64 1, .slice A3 1 c3, .string ⟨#[98]⟩, .int .i64 5, .slice D3 n3 k3] 37)
  obtain ⟨bzm, hbzm⟩ : ∃ q, v3.heap.size = q := ⟨_, rfl⟩
  rw [hbzm] at zn
  have ZM := Lib.hid zn
  clear hbu zn
  obtain ⟨q0, q1, q2, q3, q4⟩ := cel5r HK.out.q
  obtain ⟨r0, r1, r2, r3, r4⟩ := cel5r HK.out.r
  obtain ⟨zn0, zn1, zn2, zn3, zn4⟩ := cel5r ZN.out
  obtain ⟨za0, za1, za2, za3, za4⟩ := cel5r ZA.out
  obtain ⟨zm0, zm1, zm2, zm3, zm4, zm5, zm6⟩ := cel7 ZM.out
  go_wp2_with fail
  refine (e19s _ _ HK.out (HT.out.kept HK.out.h)).mono ?_
  rintro e v4 ⟨rfl, hb⟩
  clear q0 q1 q2 q3 q4 r0 r1 r2 r3 r4 zn0 zn1 zn2 zn3 zn4 za0 za1 za2 za3 za4 zm0 zm1 zm2 zm3 zm4 zm5 zm6
  replace HK := Lib.hid (HK.out.below hb)
  replace ZN := Lib.hid (zero_still hb ZN.out)
  replace ZA := Lib.hid (zero_still hb ZA.out)
  replace ZM := Lib.hid (zero_still hb ZM.out)
  replace S1 := Lib.hid (S1.out.below hb)
  replace S2 := Lib.hid (S2.out.below hb)
  clear hb
  obtain ⟨q0, q1, q2, q3, q4⟩ := cel5r HK.out.q
  obtain ⟨r0, r1, r2, r3, r4⟩ := cel5r HK.out.r
  obtain ⟨zn0, zn1, zn2, zn3, zn4⟩ := cel5r ZN.out
  obtain ⟨za0, za1, za2, za3, za4⟩ := cel5r ZA.out
  obtain ⟨zm0, zm1, zm2, zm3, zm4, zm5, zm6⟩ := cel7 ZM.out
  obtain ⟨ad, rfl, hc⟩ := S2.out.at_ (by omega)
  have hc1 := fd_snd (hc 0 _ rfl).2
  simp only [Nat.zero_mul, Addr.add_zero'] at hc1
  go_wp2_with fail
  refine (e19l _ _ HK.out _ _ S1.out).mono ?_
  rintro e v5 ⟨rfl, hb⟩
  clear q0 q1 q2 q3 q4 r0 r1 r2 r3 r4 zn0 zn1 zn2 zn3 zn4 za0 za1 za2 za3 za4 zm0 zm1 zm2 zm3 zm4 zm5 zm6
  replace HK := Lib.hid (HK.out.below hb)
  replace ZN := Lib.hid (zero_still hb ZN.out)
  replace ZA := Lib.hid (zero_still hb ZA.out)
  replace ZM := Lib.hid (zero_still hb ZM.out)
  replace S1 := Lib.hid (S1.out.below hb)
  replace S2 := Lib.hid (S2.out.below hb)
  clear hb
  clear hc hc1
  obtain ⟨q0, q1, q2, q3, q4⟩ := cel5r HK.out.q
  obtain ⟨r0, r1, r2, r3, r4⟩ := cel5r HK.out.r
  obtain ⟨zn0, zn1, zn2, zn3, zn4⟩ := cel5r ZN.out
  obtain ⟨za0, za1, za2, za3, za4⟩ := cel5r ZA.out
  obtain ⟨zm0, zm1, zm2, zm3, zm4, zm5, zm6⟩ := cel7 ZM.out
  go_wp2_with fail
  refine (e19k _ _ _ S1.out).mono ?_
  rintro e v6 ⟨rfl, hb⟩
  clear q0 q1 q2 q3 q4 r0 r1 r2 r3 r4 zn0 zn1 zn2 zn3 zn4 za0 za1 za2 za3 za4 zm0 zm1 zm2 zm3 zm4 zm5 zm6
  replace HK := Lib.hid (HK.out.below hb)
  replace ZN := Lib.hid (zero_still hb ZN.out)
  replace ZA := Lib.hid (zero_still hb ZA.out)
  replace ZM := Lib.hid (zero_still hb ZM.out)
  replace S1 := Lib.hid (S1.out.below hb)
  replace S2 := Lib.hid (S2.out.below hb)
  clear hb
  obtain ⟨q0, q1, q2, q3, q4⟩ := cel5r HK.out.q
  obtain ⟨r0, r1, r2, r3, r4⟩ := cel5r HK.out.r
  obtain ⟨zn0, zn1, zn2, zn3, zn4⟩ := cel5r ZN.out
  obtain ⟨za0, za1, za2, za3, za4⟩ := cel5r ZA.out
  obtain ⟨zm0, zm1, zm2, zm3, zm4, zm5, zm6⟩ := cel7 ZM.out
  go_wp2_with fail
  go_ret
  exact ⟨rfl, HK.out.h⟩

end Go.Proofs.YtjkfdjolhmgemaaGreatDoor
end

/-
  The questions that the laws of layer 18 ask of a request's and a reply's size.
-/
section
namespace Go.Proofs.YtjkfdjolhmgemaaGreatDoor
open Go.RowKit
set_option linter.unusedSimpArgs false

def fwP5 (p : Rply) : Bool := fwR ⟨p.c, p.r, p.v, p.f, p.b, 0⟩
theorem fwP5_yes {p : Rply} (h : fwP5 p = true) : FwL p.f ∧ p.f.length ≤ 70 ∧ ∀ x ∈ p.f, x.1.size ≤ 500 ∧ x.2.size ≤ 500 := fwR_yes (s := ⟨p.c, p.r, p.v, p.f, p.b, 0⟩) h
theorem r_fewP5 (p : Rply) (A : Option Addr) (c : Nat) (w : World) (h : SlF w A p.f.length c p.f) :
    Calls Tryz.prog 8 #[.agg (rpC p A c), .int .i64 500] w fun e w' => e = .returned (.bool (fwP5 p)) ∧ Below w.heap.size w w' :=
  r_fewR ⟨p.c, p.r, p.v, p.f, p.b, 0⟩ A c w h
def fwQ5 (r : Rqst) : Bool := decide (r.m.size ≤ 500) && (decide (r.t.size ≤ 500) && (decide (r.b.size ≤ 500) && fewB r.f 70 500))
theorem fwQ5_yes {r : Rqst} (h : fwQ5 r = true) : FwL r.f ∧ r.f.length ≤ 70 ∧ ∀ x ∈ r.f, x.1.size ≤ 500 ∧ x.2.size ≤ 500 := by
  unfold fwQ5 at h
  rw [Bool.and_eq_true, Bool.and_eq_true, Bool.and_eq_true] at h
  obtain ⟨g1, g2⟩ := few_yes h.2.2.2
  exact ⟨⟨by omega, fun x hx => by have := (g2 x hx).2; omega, fun x hx => by have := (g2 x hx).1; omega⟩, g1, g2⟩
set_option maxHeartbeats 4000000 in
set_option maxRecDepth 100000 in
theorem r_fewQ5 (r : Rqst) (A : Option Addr) (c : Nat) (w : World) (h : SlF w A r.f.length c r.f) :
    Calls Tryz.prog 7 #[.agg (rqC r A c), .int .i64 500] w fun e w' => e = .returned (.bool (fwQ5 r)) ∧ Below w.heap.size w w' := by
  have C1 := Lib.hid (fun W (hW : Below w.heap.size w W) => rf_few A _ c 70 500 r.f W (h.below hW) (by omega))
  have C1 := Lib.hid (fun W hW => show Calls Tryz.prog 29 #[.slice A r.f.length c, .int .i64 70, .int .i64 500] W (fun e w' => e = .returned (.bool (fewB r.f 70 500)) ∧ W = w') from C1.out W hW)
  obtain ⟨m, t, v, f, b⟩ := r
  have hD : fwQ5 ⟨m, t, v, f, b⟩ = (decide (m.size ≤ 500) && (decide (t.size ≤ 500) && (decide (b.size ≤ 500) && fewB f 70 500))) := rfl
  unfold rqC
  simp only at *
  generalize fwQ5 ⟨m, t, v, f, b⟩ = R at *
  generalize fewB f 70 500 = fw at *
  have HB1 : Hid (Below w.heap.size w (w.alloc (.cells #[.string m, .string t, .int .i64 v, .slice A f.length c, .string b] 24))) := (Below.refl _ _).alloc (Nat.le_refl _) _
  clear h
  by_cases hm : m.size ≤ 500
  · have hm' : (m.size : Int) ≤ 500 := by omega
    rw [decide_eq_true hm] at hD
    by_cases ht : t.size ≤ 500
    · have ht' : (t.size : Int) ≤ 500 := by omega
      rw [decide_eq_true ht] at hD
      by_cases hb : b.size ≤ 500
      · have hb' : (b.size : Int) ≤ 500 := by omega
        rw [decide_eq_true hb] at hD
        have HR : Hid (R = fw) := hD
        clear hD
        go_enter Tryz.func7, Tryz.ntmps7
        go_wp2_with fail
        refine (C1.out _ HB1.out).mono ?_
        rintro e w1 ⟨rfl, rfl⟩
        go_wp2_with fail
        go_ret
        exact ⟨by rw [HR.out]; rfl, HB1.out⟩
      · have hb' : ¬ (b.size : Int) ≤ 500 := by omega
        rw [decide_eq_false hb] at hD
        have HR : Hid (R = false) := hD
        clear hD C1
        go_enter Tryz.func7, Tryz.ntmps7
        go_wp2_with fail
        go_ret
        exact ⟨by rw [HR.out]; rfl, HB1.out⟩
    · have ht' : ¬ (t.size : Int) ≤ 500 := by omega
      rw [decide_eq_false ht] at hD
      have HR : Hid (R = false) := hD
      clear hD C1
      go_enter Tryz.func7, Tryz.ntmps7
      go_wp2_with fail
      go_ret
      exact ⟨by rw [HR.out]; rfl, HB1.out⟩
  · have hm' : ¬ (m.size : Int) ≤ 500 := by omega
    rw [decide_eq_false hm] at hD
    have HR : Hid (R = false) := hD
    clear hD C1
    go_enter Tryz.func7, Tryz.ntmps7
    go_wp2_with fail
    go_ret
    exact ⟨by rw [HR.out]; rfl, HB1.out⟩

end Go.Proofs.YtjkfdjolhmgemaaGreatDoor
end

/-
  Sizes of joined values, and a field that is copied into a block of its own.
-/
section
namespace Go.Proofs.YtjkfdjolhmgemaaGreatDoor
open Go.RowKit

theorem fwl_join {L : List Fd} (h : FwL L) (n : ByteArray) : (Lib.join (fdAll L n) [44, 32]).length ≤ 1000000000000 := by
  obtain ⟨h1, h2⟩ := fwl_all h n
  exact Nat.le_trans (join_le _ 1000 10000 h1 h2) (by decide)
/-- A block of one field behind another. -/
theorem SlF.one2 (w : World) (t t' : TypeId) (x : Fd) (hz : x.1.size ≤ maxLen ∧ x.2.size ≤ maxLen) : SlF ((w.alloc (.cells #[.string x.1, .string x.2] t')).alloc (.cells #[.string x.1, .string x.2] t)) (some ⟨(w.alloc (.cells #[.string x.1, .string x.2] t')).heap.size, 0, none⟩) 1 1 [x] :=
  SlF.one _ t x hz

end Go.Proofs.YtjkfdjolhmgemaaGreatDoor
end
