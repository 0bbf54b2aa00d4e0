/-
  Texts that the laws of this seat lean on, one behind the other.
-/
import Derived.Test.YtjkfdjolhmgemaaGreatDoorMrgAC
import Derived.Test.YtjkfdjolhmgemaaGreatDoorMrgH
import Derived.Test.YtjkfdjolhmgemaaGreatDoorMrgAD
import Derived.Test.YtjkfdjolhmgemaaGreatDoorMrgAB
import Derived.Test.YtjkfdjolhmgemaaGreatDoorMrgR
import Derived.Test.YtjkfdjolhmgemaaGreatDoorMrgX
import Derived.Deep.RegionHeld3
import Derived.Deep.AppendLies
set_option linter.unusedSimpArgs false
set_option linter.unusedVariables false
/-
  Contract of the reference's Merge (layer 19).
-/
section
namespace Go.Proofs.YtjkfdjolhmgemaaGreatDoor
open Go.RowKit
set_option linter.unusedSimpArgs false

theorem ownS_two (w : World) (t : TypeId) (a b : ByteArray) : OwnS (w.alloc (.cells #[.string a, .string b] t)) w.heap.size t (.slice (some ⟨w.heap.size, 0, none⟩) 2 2) [a.data.toList, b.data.toList] := by
  refine ⟨rfl, .inr ⟨w.heap.size, 2, _, rfl, Nat.le_refl _, heap_alloc_new w _, Nat.le_refl _, by decide, rfl, ?_⟩⟩
  show _ = [Value.string (mkS a.data.toList), Value.string (mkS b.data.toList)]
  rw [mkS_self, mkS_self]; rfl
theorem sls_one_text (w : World) (t : TypeId) (x : ByteArray) : SlS (w.alloc (.cells #[.string x] t)) (some ⟨w.heap.size, 0, none⟩) 1 1 [x.data.toList] := SlS.texts w t [x] (show 1 ≤ maxLen by decide)
theorem stp_mem {L : List Fd} {x : Fd} (h : x ∈ stpL L) : x ∈ L := (List.mem_filter.1 (List.mem_filter.1 h).1).1
theorem stp_lenle (L : List Fd) : (stpL L).length ≤ L.length := Nat.le_trans (List.length_filter_le _ _) (List.length_filter_le _ _)
theorem c2_le {Y : List Fd} (h : ∀ x ∈ Y, x.1.size ≤ 10000) : ∀ x ∈ c2N ++ Y.map fun x => x.1.data.toList, x.length ≤ maxLen := fun x hx => by
  rcases List.mem_append.1 hx with hx | hx
  · exact (show ∀ x ∈ c2N, x.length ≤ maxLen by decide) x hx
  · obtain ⟨y, hy, rfl⟩ := List.mem_map.1 hx
    have := h y hy
    rw [← Lib.size_eq]
    exact Nat.le_trans this (by decide)
theorem set37 {W : World} {g t : Nat} {c0 c1 c2 c3 c4 c5 c6 u : Value} (h : W.heap[g]? = some (.cells #[c0, c1, c2, c3, c4, c5, c6] t (0, 0))) : (W.setCell ⟨g, 3, none⟩ u).heap[g]? = some (.cells #[c0, c1, c2, u, c4, c5, c6] t (0, 0)) := by
  simp [World.setCell, Array.getElem?_modify, h]
theorem setFar7 {W : World} {g k j : Nat} {u : Value} {o : Obj} (hk : k ≠ g) (h : W.heap[k]? = some o) : (W.setCell ⟨g, j, none⟩ u).heap[k]? = some o := by
  simp [World.setCell, Array.getElem?_modify, h, Ne.symm hk]

set_option maxHeartbeats 16000000 in
set_option maxRecDepth 100000 in
theorem r_mrg (s : Stor) (A : Option Addr) (c : Nat) (D : Option Addr) (n k : Nat) (p : Rply) (B : Option Addr) (d : Nat) (now : Int) (w : World) (h : SlF w A s.f.length c s.f) (hQ : FwL s.f) (h' : SlF w B p.f.length d p.f) (hL : FwL p.f) :
    Calls Tryz.prog 20 #[.agg (stC s A c D n k), .agg (rpC p B d), .int .i64 now] w fun e w' => ∃ A' c', e = .returned (.agg (stC ⟨s.c, s.r, s.v, mrgF s.f p.f, s.b, now⟩ A' c' D n k)) ∧ SlF w' A' (mrgF s.f p.f).length c' (mrgF s.f p.f) ∧ FreshA w A' ∧ Below w.heap.size w w' := by
  obtain ⟨sc, sr, sv, f, sb, st⟩ := s
  obtain ⟨pc, pr, pv, g, pb⟩ := p
  simp only at h h' hQ hL
  have hbf := fwl_bd hQ
  have hfz : ∀ x ∈ f, x.1.size ≤ maxLen ∧ x.2.size ≤ maxLen := fun x hx => ⟨(hbf x hx).one, (hbf x hx).two⟩
  have hbg := fwl_bd hL
  obtain ⟨W0, hW0⟩ : ∃ W, (((w.alloc (.cells #[.int .i64 sc, .string sr, .int .i64 sv, .slice A f.length c, .string sb, .int .i64 st, .slice D n k] 37)).alloc (.cells #[.int .i64 pc, .string pr, .int .i64 pv, .slice B g.length d, .string pb] 26)).alloc (.cells #[.int .i64 0, .string ⟨#[]⟩, .int .i64 0, .slice none 0 0, .string ⟨#[]⟩, .int .i64 0, .slice none 0 0] 37)) = W := ⟨_, rfl⟩
  have HB0 : Hid (Below w.heap.size w W0) := (by show Below _ _ _; rw [← hW0]; exact alls_below [.cells #[.int .i64 sc, .string sr, .int .i64 sv, .slice A f.length c, .string sb, .int .i64 st, .slice D n k] 37, .cells #[.int .i64 pc, .string pr, .int .i64 pv, .slice B g.length d, .string pb] 26, .cells #[.int .i64 0, .string ⟨#[]⟩, .int .i64 0, .slice none 0 0, .string ⟨#[]⟩, .int .i64 0, .slice none 0 0] 37] w)
  have ZS : Hid (W0.heap[w.heap.size]? = some (.cells #[.int .i64 sc, .string sr, .int .i64 sv, .slice A f.length c, .string sb, .int .i64 st, .slice D n k] 37 (0, 0))) := (by show _ = _; rw [← hW0]; exact alls_at [.cells #[.int .i64 sc, .string sr, .int .i64 sv, .slice A f.length c, .string sb, .int .i64 st, .slice D n k] 37, .cells #[.int .i64 pc, .string pr, .int .i64 pv, .slice B g.length d, .string pb] 26, .cells #[.int .i64 0, .string ⟨#[]⟩, .int .i64 0, .slice none 0 0, .string ⟨#[]⟩, .int .i64 0, .slice none 0 0] 37] w 0 _ rfl)
  have ZP : Hid (W0.heap[w.heap.size + 1]? = some (.cells #[.int .i64 pc, .string pr, .int .i64 pv, .slice B g.length d, .string pb] 26 (0, 0))) := (by show _ = _; rw [← hW0]; exact alls_at [.cells #[.int .i64 sc, .string sr, .int .i64 sv, .slice A f.length c, .string sb, .int .i64 st, .slice D n k] 37, .cells #[.int .i64 pc, .string pr, .int .i64 pv, .slice B g.length d, .string pb] 26, .cells #[.int .i64 0, .string ⟨#[]⟩, .int .i64 0, .slice none 0 0, .string ⟨#[]⟩, .int .i64 0, .slice none 0 0] 37] w 1 _ rfl)
  have ZR : Hid (W0.heap[w.heap.size + 1 + 1]? = some (.cells #[.int .i64 0, .string ⟨#[]⟩, .int .i64 0, .slice none 0 0, .string ⟨#[]⟩, .int .i64 0, .slice none 0 0] 37 (0, 0))) := (by show _ = _; rw [← hW0]; exact alls_at [.cells #[.int .i64 sc, .string sr, .int .i64 sv, .slice A f.length c, .string sb, .int .i64 st, .slice D n k] 37, .cells #[.int .i64 pc, .string pr, .int .i64 pv, .slice B g.length d, .string pb] 26, .cells #[.int .i64 0, .string ⟨#[]⟩, .int .i64 0, .slice none 0 0, .string ⟨#[]⟩, .int .i64 0, .slice none 0 0] 37] w 2 _ rfl)
  have HS0 : Hid (W0.heap.size = w.heap.size + 1 + 1 + 1) := (by show _ = _; rw [← hW0]; simp)
  have HFS := Lib.hid (h.below HB0.out)
  have HFP := Lib.hid (h'.below HB0.out)
  have C1 := Lib.hid (r_strip B g.length d g W0 HFP.out hL.n hL.v)
  have hsz : ∀ x ∈ stpL g, x.1.size ≤ maxLen ∧ x.2.size ≤ maxLen := fun x hx => ⟨(hbg x (stp_mem hx)).one, (hbg x (stp_mem hx)).two⟩
  have hsl : (stpL g).length ≤ 1000 := Nat.le_trans (stp_lenle g) hL.n
  have hcz : ∀ x ∈ comF g, x.1.size ≤ maxLen ∧ x.2.size ≤ maxLen := fun x hx => hsz x (List.mem_filter.1 hx).1
  have hcl : (comF g).length ≤ 1000 := Nat.le_trans (List.length_filter_le _ _) hsl
  have hnz : ∀ x ∈ comF g, x.1.size ≤ 10000 := fun x hx => hL.m x (stp_mem (List.mem_filter.1 hx).1)
  have hfl : f.length ≤ 1000 := hQ.n
  have HCD := Lib.hid (show comF g = fdDrop (stpL g) c3N from rfl)
  have HMD := Lib.hid (show mrgF f g = fdDrop f (c2N ++ (comF g).map fun x => x.1.data.toList) ++ comF g from rfl)
  unfold rpC stC
  simp only
  clear h h' hQ hL hbf
  generalize stpL g = X at *
  generalize comF g = Y at *
  obtain ⟨p0, p1, p2, p3, p4⟩ := cel5r ZP.out
  go_enter Tryz.func20, Tryz.ntmps20
  go_wp2_with fail
  refine C1.out.mono ?_
  rintro e w1 ⟨v1, rfl, ho, hb⟩
  obtain ⟨A1, k1, rfl, hX⟩ := ho.slf hsz
  have HX := Lib.hid hX
  have HB := Lib.hid hb
  clear hb ho hX C1 hW0 p0 p1 p2 p3 p4
  have C2 := Lib.hid (rf_drop A1 (some ⟨w1.heap.size, 0, none⟩) X.length k1 3 3 X c3N (w1.alloc (.cells #[.string ⟨#[67, 111, 110, 116, 101, 110, 116, 45, 69, 110, 99, 111, 100, 105, 110, 103]⟩, .string ⟨#[67, 111, 110, 116, 101, 110, 116, 45, 84, 121, 112, 101]⟩, .string ⟨#[67, 111, 110, 116, 101, 110, 116, 45, 82, 97, 110, 103, 101]⟩] 9)) (HX.out.alloc _) (by omega) (SlS.texts w1 9 [(⟨#[67, 111, 110, 116, 101, 110, 116, 45, 69, 110, 99, 111, 100, 105, 110, 103]⟩ : ByteArray), (⟨#[67, 111, 110, 116, 101, 110, 116, 45, 84, 121, 112, 101]⟩ : ByteArray), (⟨#[67, 111, 110, 116, 101, 110, 116, 45, 82, 97, 110, 103, 101]⟩ : ByteArray)] (by decide)) (by decide) (by omega))
  rw [← HCD.out] at C2
  go_wp2_with fail
  refine C2.out.mono ?_
  rintro e w2 ⟨v2, rfl, ho, hb⟩
  obtain ⟨A2, k2, rfl, hY⟩ := ho.slf hcz
  have HY := Lib.hid hY
  replace HB := Lib.hid (below_then HB.out (zero_then hb))
  clear hb ho hY C2 HX HCD hsz hsl
  have HO : Hid (OwnS (w2.alloc (.cells #[.string ⟨#[65, 103, 101]⟩, .string ⟨#[68, 97, 116, 101]⟩] 9)) w2.heap.size 9 (.slice (some ⟨w2.heap.size, 0, none⟩) 2 2) c2N) := ownS_two w2 9 ⟨#[65, 103, 101]⟩ ⟨#[68, 97, 116, 101]⟩
  have HBL : Hid (Below w2.heap.size w2 (w2.alloc (.cells #[.string ⟨#[65, 103, 101]⟩, .string ⟨#[68, 97, 116, 101]⟩] 9))) := (Below.refl _ _).alloc (Nat.le_refl _) _
  have HC2 := Lib.hid (show c2N.length = 2 from rfl)
  go_wp2_with fail
  go_loopw [8, 9] (fun v i wr => ∃ j : Nat, j ≤ Y.length ∧ i = .int .i64 (j : Int) ∧ Hid (OwnS wr w2.heap.size 9 v (c2N ++ (Y.take j).map fun x => x.1.data.toList)) ∧ Hid (Below w2.heap.size w2 wr)) (fun _ i _ => Y.length - (intOf i).toNat)
  case atStart => exact ⟨0, Nat.zero_le _, rfl, by show OwnS _ _ _ _ (c2N ++ []); rw [List.append_nil]; exact HO.out, HBL.out⟩
  case round =>
    clear HO HBL
    obtain ⟨j, hj, rfl, HO, HBL⟩ := hrel
    by_cases hlt : j < Y.length
    · obtain ⟨ad, rfl, hc⟩ := (HY.out.below HBL.out).at_ (by omega)
      obtain ⟨hc0, hc1⟩ := hc j Y[j] (List.getElem?_eq_getElem hlt)
      have hnx : (c2N ++ (Y.take (j + 1)).map fun x => x.1.data.toList) = (c2N ++ (Y.take j).map fun x => x.1.data.toList) ++ [Y[j].1.data.toList] := by rw [List.take_succ_eq_append_getElem hlt, List.map_append, ← List.append_assoc]; rfl
      have hxl : (c2N ++ (Y.take j).map fun x => x.1.data.toList).length ≤ 2 + j := by rw [List.length_append, List.length_map, List.length_take, HC2.out]; omega
      have hx1 := (hcz _ (List.getElem_mem hlt)).1
      have HNX := Lib.hid hnx
      clear hc hnx hc1
      generalize Y[j] = x at *
      obtain ⟨xa, xb⟩ := x
      simp only at *
      generalize (c2N ++ (Y.take j).map fun x => x.1.data.toList) = NN at *
      have hi0 : (0 : Int) ≤ (j : Int) := by omega
      have hi1 : (j : Int) < (Y.length : Int) := by omega
      have hzz := HBL.out.size
      go_wp2_with (at_builtin; refine wpList_append_sls rfl _ _ _ rfl w2.heap.size 9 Tryz.underlying64 (by kernel_rfl) _ rfl NN (HO.out.alloc _) _ _ _ rfl [xa.data.toList] (sls_one_text wr 9 xa) (by simp; omega) (by simp; omega) w2 (HBL.out.alloc hzz _) ?_; intro v3 w3 ho3 hb3 hz3)
      go_roundw
      case rel => exact ⟨j + 1, by omega, by go_num, by show OwnS _ _ _ _ _; rw [HNX.out]; exact ho3.out, hb3⟩
      case measure => simp [intOf]; omega
    · have hi1 : ¬ (j : Int) < (Y.length : Int) := by omega
      have hfull : (c2N ++ (Y.take j).map fun x => x.1.data.toList) = c2N ++ Y.map fun x => x.1.data.toList := by rw [List.take_of_length_le (by omega)]
      rw [hfull] at HO
      have hnl : (c2N ++ Y.map fun x => x.1.data.toList).length ≤ 1002 := by rw [List.length_append, List.length_map, HC2.out]; omega
      have hnn : ∀ x ∈ c2N ++ Y.map fun x => x.1.data.toList, x.length ≤ maxLen := c2_le hnz
      obtain ⟨A4, k4, rfl, hS, _⟩ := HO.out.sls
      have HB2 := Lib.hid (HB.out.trans (HBL.out.mono HB.out.size))
      have HY2 := Lib.hid (HY.out.below HBL.out)
      have HS := Lib.hid hS
      clear HO hfull
      generalize c2N ++ Y.map (fun x => x.1.data.toList) = NN at *
      have HS := HS
      clear HBL HB HY HC2
      obtain ⟨U, hU⟩ : ∃ W, wr.alloc (.cells #[.int .i64 sc, .string sr, .int .i64 sv, .slice A f.length c, .string sb, .int .i64 now, .slice D n k] 37) = W := ⟨_, rfl⟩
      obtain ⟨go, hgo⟩ : ∃ q, wr.heap.size = q := ⟨_, rfl⟩
      have ZO : Hid (U.heap[go]? = some (.cells #[.int .i64 sc, .string sr, .int .i64 sv, .slice A f.length c, .string sb, .int .i64 now, .slice D n k] 37 (0, 0))) := (by show _ = _; rw [← hU, ← hgo]; exact heap_alloc_new wr _)
      have hbu : Below wr.heap.size wr U := (by rw [← hU]; exact (Below.refl _ _).alloc (Nat.le_refl _) _)
      have HB3 := Lib.hid (below_then HB2.out hbu)
      have HY3 := Lib.hid (HY2.out.below hbu)
      have HGO : Hid (W0.heap.size ≤ go) := (by show _ ≤ _; rw [← hgo]; exact HB2.out.size)
      have C5 := Lib.hid (rf_drop A A4 f.length c NN.length k4 f NN U (HFS.out.below HB3.out) (by omega) (HS.out.below hbu) hnn (by omega))
      obtain ⟨x0, x1, x2, x3, x4, x5, x6⟩ := cel7 (zero_still HB2.out ZS.out)
      have y0 := (cel7 (zero_still HB3.out ZS.out)).2.2.2.1
      clear hbu HS
      go_wp2_with fail
      try rw [hU]
      refine C5.out.mono ?_
      rintro e w5 ⟨v5, rfl, ho, hb⟩
      clear x0 x1 x2 x3 x4 x5 x6 y0 hU hgo C5
      have HO := Lib.hid ho
      have HBU := Lib.hid hb
      have HY5 := Lib.hid (HY3.out.below hb)
      have hlo : U.heap.size ≤ w5.heap.size := hb.size
      have hgu : go < U.heap.size := (Array.getElem?_eq_some_iff.1 ZO.out).1
      have hdl : (fdDrop f NN).length ≤ 1000 := Nat.le_trans (List.length_filter_le _ _) hfl
      clear ho hb
      obtain ⟨A5, n5, k5, rfl⟩ : ∃ A n c, v5 = .slice A n c := (by obtain ⟨A, c, e⟩ := HO.out.form; exact ⟨A, _, c, e⟩)
      go_upto_region 10 with (at_builtin; refine wpList_append_slf rfl _ _ 22 rfl U.heap.size 43 Tryz.underlying22 (by kernel_rfl) _ rfl (fdDrop f NN) HO.out A2 Y.length k2 rfl Y HY5.out (by omega) hlo U HBU.out ?_; intro v6 u6 ho hb hz0; obtain ⟨A6, n6, k6, rfl⟩ : ∃ A n c, v6 = .slice A n c := (by obtain ⟨A, c, e⟩ := ho.out.form; exact ⟨A, _, c, e⟩); have HO6 := ho; have HB6 := Lib.hid hb; have zo := (hb.block _ hgu).trans ZO.out; obtain ⟨z3, zf⟩ := row_at zo 3 _ rfl; clear ho hb hz0)
      clear z3 zf
      have hmz : ∀ x ∈ fdDrop f NN ++ Y, x.1.size ≤ maxLen ∧ x.2.size ≤ maxLen := fun x hx => by
        rcases List.mem_append.1 hx with hx | hx
        · exact hfz x (List.mem_filter.1 hx).1
        · exact hcz x hx
      obtain ⟨AA, cc, hv, hsl⟩ := HO6.out.slf hmz
      have hfr := HO6.out.freshL
      injection hv with e1 e2 e3
      subst e1 e2 e3
      rw [← HMD.out] at hsl
      have HLN := Lib.hid (congrArg List.length HMD.out)
      have ZO2 : Hid ((u6.setCell ⟨go, 3, none⟩ (.slice A6 (fdDrop f NN ++ Y).length k6)).heap[go]? = some (.cells #[.int .i64 sc, .string sr, .int .i64 sv, .slice A6 (fdDrop f NN ++ Y).length k6, .string sb, .int .i64 now, .slice D n k] 37 (0, 0))) := set37 zo
      have HB7 : Hid (Below w.heap.size w (u6.setCell ⟨go, 3, none⟩ (.slice A6 (fdDrop f NN ++ Y).length k6))) := ((HB0.out.trans ((HB3.out.trans (HB6.out.mono HB3.out.size)).mono HB0.out.size)).setCell (p := ⟨go, 3, none⟩) (by show _ ≤ go; have := HS0.out; have := HGO.out; omega) _)
      have ZR2 : Hid ((u6.setCell ⟨go, 3, none⟩ (.slice A6 (fdDrop f NN ++ Y).length k6)).heap[w.heap.size + 1 + 1]? = some (.cells #[.int .i64 0, .string ⟨#[]⟩, .int .i64 0, .slice none 0 0, .string ⟨#[]⟩, .int .i64 0, .slice none 0 0] 37 (0, 0))) := setFar7 (by have := HS0.out; have := HGO.out; omega) (zero_still (HB3.out.trans (HB6.out.mono HB3.out.size)) ZR.out)
      have hne : ∀ ad, A6 = some ad → ad.block ≠ go := fun ad e hh => by have := hfr ad e; omega
      have HSL := Lib.hid (SlF.setFar hsl hne (k := 3) (.slice A6 (fdDrop f NN ++ Y).length k6))
      have HFR := Lib.hid hfr
      clear hsl hfr hne zo HO6 HO HB6 HBU
      generalize hm : (fdDrop f NN ++ Y).length = ml at *
      obtain ⟨V, hV⟩ : ∃ V, u6.setCell ⟨go, 3, none⟩ (.slice A6 ml k6) = V := ⟨_, rfl⟩
      rw [hV] at ZO2 HB7 ZR2 HSL
      try rw [hV]
      clear hV
      obtain ⟨x0, x1, x2, x3, x4, x5, x6⟩ := cel7 ZO2.out
      go_wp2_with (refine wpList_store_row rfl _ _ _ rfl (w.heap.size + 1 + 1) #[.int .i64 sc, .string sr, .int .i64 sv, .slice A6 ml k6, .string sb, .int .i64 now, .slice D n k] rfl rfl 37 _ ZR2.out (by kernel_rfl) rfl (by simp [Value.oneCell']) ?_)
      refine bodyPost_ret (results_cell_row rfl _ _ (w.heap.size + 1 + 1) 37 #[.int .i64 sc, .string sr, .int .i64 sv, .slice A6 ml k6, .string sb, .int .i64 now, .slice D n k] (0, 0) _ rfl (setRow_heap _ _ _ _ _ _ ZR2.out) Tryz.underlying37 rfl (by kernel_rfl)) rfl ?_
      have hml : (mrgF f g).length = ml := HLN.out
      have hne2 : ∀ ad, A6 = some ad → ad.block ≠ w.heap.size + 1 + 1 := fun ad e hh => by have := HFR.out ad e; have := HS0.out; have := HGO.out; omega
      refine ⟨A6, k6, by rw [hml], ?_, fun ad e => by have := HFR.out ad e; have := HS0.out; have := HGO.out; omega, below_setRow HB7.out (by omega) _⟩
      exact HSL.out.setRow hne2 _

end Go.Proofs.YtjkfdjolhmgemaaGreatDoor
end

/-
  Plain facts on written lists of fields (layers 18 and 19).
-/
section
namespace Go.Proofs.YtjkfdjolhmgemaaGreatDoor

theorem fwl_few (L : List Fd) (h : (decide (L.length ≤ 1000) && (L.all fun x => decide (x.1.size ≤ 10000) && decide (x.2.size ≤ 10000))) = true) : FwL L := by
  rw [Bool.and_eq_true, decide_eq_true_eq, List.all_eq_true] at h
  refine ⟨h.1, fun x hx => ?_, fun x hx => ?_⟩
  all_goals
    have := h.2 x hx
    rw [Bool.and_eq_true, decide_eq_true_eq, decide_eq_true_eq] at this
    omega
theorem f18n : FwL [] := fwl_few _ (by decide)

end Go.Proofs.YtjkfdjolhmgemaaGreatDoor
end

/-
  Plain facts of layer 19: how many fields are asked with.
-/
section
namespace Go.Proofs.YtjkfdjolhmgemaaGreatDoor
open Go.RowKit

theorem ask_len {Q L : List Fd} (h : Q.length ≤ 1000) : (askF Q L).length ≤ 100000000 := by
  have h1 : (fdDrop Q cndN).length ≤ 1000 := Nat.le_trans (List.length_filter_le _ _) h
  unfold askF
  rw [List.length_append, List.length_append]
  split <;> split <;> simp <;> omega

end Go.Proofs.YtjkfdjolhmgemaaGreatDoor
end

/-
  Contracts of the reference's SameRequest, SameReply, of the very same message (layer 12).
-/
section
namespace Go.Proofs.YtjkfdjolhmgemaaGreatDoor
open Go.RowKit

theorem r_sameQ (r : Rqst) (A B : Option Addr) (c d : Nat) (w : World) (h : SlF w A r.f.length c r.f) (h' : SlF w B r.f.length d r.f) (hm : r.f.length ≤ 100000000) :
    Calls Tryz.prog 15 #[.agg (rqC r A c), .agg (rqC r B d)] w fun e w' => e = .returned (.bool true) ∧ Below w.heap.size w w' := by
  have C1 := Lib.hid (fun W (hW : Below w.heap.size w W) => rf_equal A B _ c _ d r.f r.f W (h.below hW) (h'.below hW) hm)
  have hE : bthP eqF r.f r.f = true := bthP_refl eqF eqF_refl r.f
  rw [hE] at C1
  unfold rqC
  obtain ⟨m, t, v, f, b⟩ := r
  simp only at *
  have HB1 : Hid (Below w.heap.size w ((w.alloc (.cells #[.string m, .string t, .int .i64 v, .slice A f.length c, .string b] 24)).alloc (.cells #[.string m, .string t, .int .i64 v, .slice B f.length d, .string b] 24))) := ((Below.refl _ _).alloc (Nat.le_refl _) _).alloc (by simp) _
  have e1 : (m.toList == m.toList) = true := by simp
  have e2 : (t.toList == t.toList) = true := by simp
  have e3 : (b.toList == b.toList) = true := by simp
  clear h h' hm hE
  go_enter Tryz.func15, Tryz.ntmps15
  go_wp2_with fail
  refine (C1.out _ HB1.out).mono ?_
  rintro e w1 ⟨rfl, hb⟩
  go_wp2_with fail
  go_ret
  exact ⟨rfl, below_then HB1.out hb⟩

set_option maxHeartbeats 4000000 in
set_option maxRecDepth 100000 in
theorem r_sameP (r : Rply) (A B : Option Addr) (c d : Nat) (w : World) (h : SlF w A r.f.length c r.f) (h' : SlF w B r.f.length d r.f) (hm : r.f.length ≤ 100000000) :
    Calls Tryz.prog 12 #[.agg (rpC r A c), .agg (rpC r B d)] w fun e w' => e = .returned (.bool true) ∧ Below w.heap.size w w' := by
  have C1 := Lib.hid (fun W (hW : Below w.heap.size w W) => rf_equal A B _ c _ d r.f r.f W (h.below hW) (h'.below hW) hm)
  have hE : bthP eqF r.f r.f = true := bthP_refl eqF eqF_refl r.f
  rw [hE] at C1
  unfold rpC
  obtain ⟨m, t, v, f, b⟩ := r
  simp only at *
  have HB1 : Hid (Below w.heap.size w ((w.alloc (.cells #[.int .i64 m, .string t, .int .i64 v, .slice A f.length c, .string b] 26)).alloc (.cells #[.int .i64 m, .string t, .int .i64 v, .slice B f.length d, .string b] 26))) := ((Below.refl _ _).alloc (Nat.le_refl _) _).alloc (by simp) _
  have e1 : (m == m) = true := by simp
  have e2 : (t.toList == t.toList) = true := by simp
  have e3 : (b.toList == b.toList) = true := by simp
  clear h h' hm hE
  go_enter Tryz.func12, Tryz.ntmps12
  go_wp2_with fail
  refine (C1.out _ HB1.out).mono ?_
  rintro e w1 ⟨rfl, hb⟩
  go_wp2_with fail
  go_ret
  exact ⟨rfl, below_then HB1.out hb⟩

end Go.Proofs.YtjkfdjolhmgemaaGreatDoor
end

/-
  Contracts of the reference's Same, Picks, Match, Few, FewNames (layer 15).
-/
section
namespace Go.Proofs.YtjkfdjolhmgemaaGreatDoor
open Go.RowKit
set_option linter.unusedSimpArgs false

theorem pk_at1 {w : World} {ad : Addr} {m : Nat} {v : Value} (h : w.cell? (ad.add (m + 1)) = some v) : w.cell? { block := (ad.add m).block, off := (ad.add m).off + 1 } = some v := by
  rw [← Go.Addr.add_add] at h
  rwa [Addr.add_succ'] at h
theorem pk_at2 {w : World} {ad : Addr} {m : Nat} {v : Value} (h : w.cell? (ad.add (m + 2)) = some v) : w.cell? { block := (ad.add m).block, off := (ad.add m).off + 2 } = some v := by
  rw [← Go.Addr.add_add, show (2 : Nat) = 1 + 1 from rfl] at h
  rwa [Addr.add_succ'] at h
theorem pksB_len : ∀ (L M : List Pk), L.length ≠ M.length → pksB L M = false
  | [], [], h => absurd rfl h
  | [], _ :: _, _ => rfl
  | _ :: _, [], _ => rfl
  | x :: a, y :: b, h => by
    unfold pksB
    rw [pksB_len a b (fun e => h (by simp [e]))]; simp
theorem pksB_drop (L M : List Pk) (k : Nat) (h : k < L.length) (g : k < M.length) : pksB (L.drop k) (M.drop k) = (pkE L[k] M[k] && pksB (L.drop (k + 1)) (M.drop (k + 1))) := by
  rw [List.drop_eq_getElem_cons h, List.drop_eq_getElem_cons g]; rfl
theorem pkE_refl (x : Pk) : pkE x x = true := by simp [pkE]
theorem pksB_refl : ∀ L : List Pk, pksB L L = true
  | [] => rfl
  | x :: L => by unfold pksB; rw [pkE_refl, pksB_refl L]; rfl

set_option maxHeartbeats 8000000 in
set_option maxRecDepth 100000 in
theorem r_pkSame (A B : Option Addr) (n c m d : Nat) (L M : List Pk) (w : World) (h : SlK w A n c L) (h' : SlK w B m d M) (hn : n ≤ 100000000) :
    Calls Tryz.prog 23 #[.slice A n c, .slice B m d] w fun e w' => e = .returned (.bool (pksB L M)) ∧ Below w.heap.size w w' := by
  have hlen := h.len
  have hlem := h'.len
  subst hlen hlem
  by_cases hl : L.length = M.length
  · have hlb : ((L.length : Int) == (M.length : Int)) = true := by rw [hl]; simp
    have hlc : ((L.length : Int) != (M.length : Int)) = false := by rw [hl]; simp
    have HLM := Lib.hid hl
    clear hl
    go_enter Tryz.func23, Tryz.ntmps23
    go_wp2_with fail
    go_loopw [5] (fun i wr => ∃ k : Nat, k ≤ L.length ∧ i = .int .i64 k ∧ Hid (pksB L M = pksB (L.drop k) (M.drop k)) ∧ Below w.heap.size w wr) (fun i _ => L.length - (intOf i).toNat)
    case atStart => exact ⟨0, Nat.zero_le _, rfl, rfl, Below.refl _ _⟩
    case round =>
      obtain ⟨k, hk, rfl, hf, hbel⟩ := hrel
      by_cases hlt : k < L.length
      · have hlt2 : k < M.length := by have := HLM.out; omega
        obtain ⟨ad, rfl, hc⟩ := h.at_ (by omega)
        obtain ⟨bd, rfl, hd⟩ := h'.at_ (by omega)
        obtain ⟨hc0, hc1, hc2⟩ := hc k L[k] (List.getElem?_eq_getElem hlt)
        obtain ⟨hd0, hd1, hd2⟩ := hd k M[k] (List.getElem?_eq_getElem hlt2)
        have HS := Lib.hid (pksB_drop L M k hlt hlt2)
        generalize L[k] = x at *
        generalize M[k] = y at *
        obtain ⟨xn, xh, xv⟩ := x
        obtain ⟨yn, yh, yv⟩ := y
        have HC0 := Lib.hid (cell_kept hbel.drew hc0)
        have HC1 := Lib.hid (pk_at1 (cell_kept hbel.drew hc1))
        have HC2 := Lib.hid (pk_at2 (cell_kept hbel.drew hc2))
        have HD0 := Lib.hid (cell_kept hbel.drew hd0)
        have HD1 := Lib.hid (pk_at1 (cell_kept hbel.drew hd1))
        have HD2 := Lib.hid (pk_at2 (cell_kept hbel.drew hd2))
        have hA : pkE ⟨xn, xh, xv⟩ ⟨yn, yh, yv⟩ = ((xn.toList == yn.toList) && (xh == yh) && (xv.toList == yv.toList)) := rfl
        rw [hA] at HS
        have hi0 : (0 : Int) ≤ (k : Int) := by omega
        have hi1 : (k : Int) < (L.length : Int) := by omega
        have hi2 : (k : Int) < (M.length : Int) := by omega
        have hbel := hbel.drew
        clear hc hd hc0 hc1 hc2 hd0 hd1 hd2 hA
        have both : ∀ t : Bool, t = true ∨ t = false := fun t => by cases t <;> simp
        cases xh with
        | true =>
          cases yh with
          | true =>
            rcases both (xn.toList == yn.toList) with hT | hT
            · rcases both (xv.toList == yv.toList) with hS | hS
              · have HR : Hid (pksB L M = pksB (L.drop (k + 1)) (M.drop (k + 1))) := by
                  show _ = _
                  rw [hf.out, HS.out, hS, hT]; simp
                clear HS hf
                go_wp2_with fail
                go_region_held3 (fun W => W.cell? (ad.add (k * 3)) = some (.string xn) ∧ W.cell? { block := (ad.add (k * 3)).block, off := (ad.add (k * 3)).off + 1 } = some (.bool true) ∧ W.cell? { block := (ad.add (k * 3)).block, off := (ad.add (k * 3)).off + 2 } = some (.string xv) ∧ W.cell? (bd.add (k * 3)) = some (.string yn) ∧ W.cell? { block := (bd.add (k * 3)).block, off := (bd.add (k * 3)).off + 1 } = some (.bool true) ∧ W.cell? { block := (bd.add (k * 3)).block, off := (bd.add (k * 3)).off + 2 } = some (.string yv)) (exact ⟨HC0.out, HC1.out, HC2.out, HD0.out, HD1.out, HD2.out⟩) (fail)
                go_wp2_with fail
                go_roundw
                case rel => exact ⟨k + 1, by omega, by go_num, HR, hbel⟩
                case measure => simp [intOf]; omega
              · skip
                have HR : Hid (pksB L M = false) := by
                  show _ = _
                  rw [hf.out, HS.out, hS]; simp
                clear HS hf
                go_wp2_with fail
                go_region_held3 (fun W => W.cell? (ad.add (k * 3)) = some (.string xn) ∧ W.cell? { block := (ad.add (k * 3)).block, off := (ad.add (k * 3)).off + 1 } = some (.bool true) ∧ W.cell? { block := (ad.add (k * 3)).block, off := (ad.add (k * 3)).off + 2 } = some (.string xv) ∧ W.cell? (bd.add (k * 3)) = some (.string yn) ∧ W.cell? { block := (bd.add (k * 3)).block, off := (bd.add (k * 3)).off + 1 } = some (.bool true) ∧ W.cell? { block := (bd.add (k * 3)).block, off := (bd.add (k * 3)).off + 2 } = some (.string yv)) (exact ⟨HC0.out, HC1.out, HC2.out, HD0.out, HD1.out, HD2.out⟩) (fail)
                go_wp2_with fail
                go_ret
                exact ⟨by rw [HR.out]; rfl, hbel⟩
            · skip
              have HR : Hid (pksB L M = false) := by
                show _ = _
                rw [hf.out, HS.out, hT]; simp
              clear HS hf
              go_wp2_with fail
              go_region_held3 (fun W => W.cell? (ad.add (k * 3)) = some (.string xn) ∧ W.cell? { block := (ad.add (k * 3)).block, off := (ad.add (k * 3)).off + 1 } = some (.bool true) ∧ W.cell? { block := (ad.add (k * 3)).block, off := (ad.add (k * 3)).off + 2 } = some (.string xv) ∧ W.cell? (bd.add (k * 3)) = some (.string yn) ∧ W.cell? { block := (bd.add (k * 3)).block, off := (bd.add (k * 3)).off + 1 } = some (.bool true) ∧ W.cell? { block := (bd.add (k * 3)).block, off := (bd.add (k * 3)).off + 2 } = some (.string yv)) (exact ⟨HC0.out, HC1.out, HC2.out, HD0.out, HD1.out, HD2.out⟩) (fail)
              go_wp2_with fail
              go_ret
              exact ⟨by rw [HR.out]; rfl, hbel⟩
          | false =>
            have HR : Hid (pksB L M = false) := by
              show _ = _
              rw [hf.out, HS.out]; simp
            clear HS hf
            go_wp2_with fail
            go_region_held3 (fun W => W.cell? (ad.add (k * 3)) = some (.string xn) ∧ W.cell? { block := (ad.add (k * 3)).block, off := (ad.add (k * 3)).off + 1 } = some (.bool true) ∧ W.cell? { block := (ad.add (k * 3)).block, off := (ad.add (k * 3)).off + 2 } = some (.string xv) ∧ W.cell? (bd.add (k * 3)) = some (.string yn) ∧ W.cell? { block := (bd.add (k * 3)).block, off := (bd.add (k * 3)).off + 1 } = some (.bool false) ∧ W.cell? { block := (bd.add (k * 3)).block, off := (bd.add (k * 3)).off + 2 } = some (.string yv)) (exact ⟨HC0.out, HC1.out, HC2.out, HD0.out, HD1.out, HD2.out⟩) (fail)
            go_wp2_with fail
            go_ret
            exact ⟨by rw [HR.out]; rfl, hbel⟩
        | false =>
          cases yh with
          | true =>
            have HR : Hid (pksB L M = false) := by
              show _ = _
              rw [hf.out, HS.out]; simp
            clear HS hf
            go_wp2_with fail
            go_region_held3 (fun W => W.cell? (ad.add (k * 3)) = some (.string xn) ∧ W.cell? { block := (ad.add (k * 3)).block, off := (ad.add (k * 3)).off + 1 } = some (.bool false) ∧ W.cell? { block := (ad.add (k * 3)).block, off := (ad.add (k * 3)).off + 2 } = some (.string xv) ∧ W.cell? (bd.add (k * 3)) = some (.string yn) ∧ W.cell? { block := (bd.add (k * 3)).block, off := (bd.add (k * 3)).off + 1 } = some (.bool true) ∧ W.cell? { block := (bd.add (k * 3)).block, off := (bd.add (k * 3)).off + 2 } = some (.string yv)) (exact ⟨HC0.out, HC1.out, HC2.out, HD0.out, HD1.out, HD2.out⟩) (fail)
            go_wp2_with fail
            go_ret
            exact ⟨by rw [HR.out]; rfl, hbel⟩
          | false =>
            rcases both (xn.toList == yn.toList) with hT | hT
            · rcases both (xv.toList == yv.toList) with hS | hS
              · have HR : Hid (pksB L M = pksB (L.drop (k + 1)) (M.drop (k + 1))) := by
                  show _ = _
                  rw [hf.out, HS.out, hS, hT]; simp
                clear HS hf
                go_wp2_with fail
                go_region_held3 (fun W => W.cell? (ad.add (k * 3)) = some (.string xn) ∧ W.cell? { block := (ad.add (k * 3)).block, off := (ad.add (k * 3)).off + 1 } = some (.bool false) ∧ W.cell? { block := (ad.add (k * 3)).block, off := (ad.add (k * 3)).off + 2 } = some (.string xv) ∧ W.cell? (bd.add (k * 3)) = some (.string yn) ∧ W.cell? { block := (bd.add (k * 3)).block, off := (bd.add (k * 3)).off + 1 } = some (.bool false) ∧ W.cell? { block := (bd.add (k * 3)).block, off := (bd.add (k * 3)).off + 2 } = some (.string yv)) (exact ⟨HC0.out, HC1.out, HC2.out, HD0.out, HD1.out, HD2.out⟩) (fail)
                go_wp2_with fail
                go_roundw
                case rel => exact ⟨k + 1, by omega, by go_num, HR, hbel⟩
                case measure => simp [intOf]; omega
              · skip
                have HR : Hid (pksB L M = false) := by
                  show _ = _
                  rw [hf.out, HS.out, hS]; simp
                clear HS hf
                go_wp2_with fail
                go_region_held3 (fun W => W.cell? (ad.add (k * 3)) = some (.string xn) ∧ W.cell? { block := (ad.add (k * 3)).block, off := (ad.add (k * 3)).off + 1 } = some (.bool false) ∧ W.cell? { block := (ad.add (k * 3)).block, off := (ad.add (k * 3)).off + 2 } = some (.string xv) ∧ W.cell? (bd.add (k * 3)) = some (.string yn) ∧ W.cell? { block := (bd.add (k * 3)).block, off := (bd.add (k * 3)).off + 1 } = some (.bool false) ∧ W.cell? { block := (bd.add (k * 3)).block, off := (bd.add (k * 3)).off + 2 } = some (.string yv)) (exact ⟨HC0.out, HC1.out, HC2.out, HD0.out, HD1.out, HD2.out⟩) (fail)
                go_wp2_with fail
                go_ret
                exact ⟨by rw [HR.out]; rfl, hbel⟩
            · skip
              have HR : Hid (pksB L M = false) := by
                show _ = _
                rw [hf.out, HS.out, hT]; simp
              clear HS hf
              go_wp2_with fail
              go_region_held3 (fun W => W.cell? (ad.add (k * 3)) = some (.string xn) ∧ W.cell? { block := (ad.add (k * 3)).block, off := (ad.add (k * 3)).off + 1 } = some (.bool false) ∧ W.cell? { block := (ad.add (k * 3)).block, off := (ad.add (k * 3)).off + 2 } = some (.string xv) ∧ W.cell? (bd.add (k * 3)) = some (.string yn) ∧ W.cell? { block := (bd.add (k * 3)).block, off := (bd.add (k * 3)).off + 1 } = some (.bool false) ∧ W.cell? { block := (bd.add (k * 3)).block, off := (bd.add (k * 3)).off + 2 } = some (.string yv)) (exact ⟨HC0.out, HC1.out, HC2.out, HD0.out, HD1.out, HD2.out⟩) (fail)
              go_wp2_with fail
              go_ret
              exact ⟨by rw [HR.out]; rfl, hbel⟩
      · have HR : Hid (pksB L M = true) := by
          show _ = _
          rw [hf.out, List.drop_eq_nil_of_le (by omega), List.drop_eq_nil_of_le (by have := HLM.out; omega)]; rfl
        clear hf
        go_wp2_with fail
        go_ret
        exact ⟨by rw [HR.out]; rfl, hbel⟩
  · have hlb : ((L.length : Int) == (M.length : Int)) = false := by rw [beq_eq_false_iff_ne]; omega
    have HR := Lib.hid (pksB_len L M hl)
    clear hl
    go_enter Tryz.func23, Tryz.ntmps23
    go_wp2_with fail
    go_ret
    exact ⟨by rw [HR.out]; rfl, Below.refl _ _⟩


/-- Fields that are few and short, names too. -/
def FwF (L : List Fd) : Prop := L.length ≤ 1000 ∧ ∀ x ∈ L, x.2.size ≤ 1000 ∧ x.1.size ≤ 10000
def FwN (N : List (List UInt8)) : Prop := N.length ≤ 1000 ∧ ∀ x ∈ N, x.length ≤ 10000
/-- The answer is picks. -/
def IsPk (w : World) (X : List Pk) (e : Ending) (w' : World) : Prop := ∃ A c, e = .returned (.slice A X.length c) ∧ SlK w' A X.length c X ∧ Below w.heap.size w w'

end Go.Proofs.YtjkfdjolhmgemaaGreatDoor
end
