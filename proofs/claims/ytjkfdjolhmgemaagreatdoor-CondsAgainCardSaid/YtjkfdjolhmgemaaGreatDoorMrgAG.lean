/-
  Texts that the laws of this seat lean on, one behind the other.
-/
import Derived.Test.YtjkfdjolhmgemaaGreatDoorMrgAC
import Derived.Test.YtjkfdjolhmgemaaGreatDoorMrgH
import Derived.Test.YtjkfdjolhmgemaaGreatDoorMrgAD
import Derived.Test.YtjkfdjolhmgemaaGreatDoorMrgZ
import Derived.Test.YtjkfdjolhmgemaaGreatDoorMrgF
import Derived.Test.YtjkfdjolhmgemaaGreatDoorMrgX
import Derived.Test.YtjkfdjolhmgemaaGreatDoorMrgD
import Derived.Test.YtjkfdjolhmgemaaGreatDoorMrgR
import Derived.Lib.AppendZeros
import Derived.Laws.AppendOwnNone
set_option linter.unusedSimpArgs false
set_option linter.unusedVariables false
/-
  Contract of the reference's Ask (layer 19).
-/
section
namespace Go.Proofs.YtjkfdjolhmgemaaGreatDoor
open Go.RowKit
set_option linter.unusedSimpArgs false

theorem rto_le {L : List Fd} (h : FwL L) : (rtO L).2.size ≤ 10000 := by
  unfold rtO
  split
  · rename_i h1
    obtain ⟨x, hx⟩ : ∃ x, fdAll L etS = [x] := by
      match fdAll L etS, h1 with
      | [x], _ => exact ⟨x, rfl⟩
    have hz := (fwl_all h etS).2 x (by rw [hx]; simp)
    rw [hx]
    have := tgO_le (mkS x)
    rw [mkS_size] at this
    exact Nat.le_trans this hz
  · exact Nat.zero_le _
theorem tgs_le {t : Tg} (h : t.2.size ≤ 10000) : (tgS t).size ≤ maxLen := by
  obtain ⟨a, b⟩ := t
  have h' : b.size ≤ 10000 := h
  unfold tgS maxLen
  cases a
  all_goals
    simp only [ByteArray.size_append, if_true, if_false, Bool.false_eq_true]
    have e1 : (⟨#[34]⟩ : ByteArray).size = 1 := rfl
    have e2 : (⟨#[87, 47, 34]⟩ : ByteArray).size = 3 := rfl
    omega
theorem mem_snoc {X : List Fd} {a : Fd} (h : ∀ x ∈ X, x.1.size ≤ maxLen ∧ x.2.size ≤ maxLen) (ha : a.1.size ≤ maxLen ∧ a.2.size ≤ maxLen) : ∀ x ∈ X ++ [a], x.1.size ≤ maxLen ∧ x.2.size ≤ maxLen := fun x hx => by
  rw [List.mem_append, List.mem_singleton] at hx
  rcases hx with hx | rfl
  · exact h x hx
  · exact ha

set_option maxHeartbeats 16000000 in
set_option maxRecDepth 100000 in
theorem r_ask (r : Rqst) (A : Option Addr) (c : Nat) (p : Rply) (B : Option Addr) (d : Nat) (w : World) (h : SlF w A r.f.length c r.f) (hQ : FwL r.f) (h' : SlF w B p.f.length d p.f) (hL : FwL p.f) :
    Calls Tryz.prog 17 #[.agg (rqC r A c), .agg (rpC p B d)] w fun e w' => ∃ A c, e = .returned (.agg (rqC (askR r.t r.f p.f) A c)) ∧ SlF w' A (askF r.f p.f).length c (askF r.f p.f) ∧ FreshA w A ∧ Below w.heap.size w w' := by
  obtain ⟨m, t, v, f, b⟩ := r
  obtain ⟨pc, pr, pv, g, pb⟩ := p
  simp only at h h' hQ hL
  have hbf := fwl_bd hQ
  have hgl := get_le hL lmS
  have hto := rto_le hL
  obtain ⟨W0, hW0⟩ : ∃ W, (((w.alloc (.cells #[.string m, .string t, .int .i64 v, .slice A f.length c, .string b] 24)).alloc (.cells #[.int .i64 pc, .string pr, .int .i64 pv, .slice B g.length d, .string pb] 26)).alloc (.cells #[.string ⟨#[]⟩, .string ⟨#[]⟩, .int .i64 0, .slice none 0 0, .string ⟨#[]⟩] 24)) = W := ⟨_, rfl⟩
  have HB0 : Hid (Below w.heap.size w W0) := (by show Below _ _ _; rw [← hW0]; exact alls_below [.cells #[.string m, .string t, .int .i64 v, .slice A f.length c, .string b] 24, .cells #[.int .i64 pc, .string pr, .int .i64 pv, .slice B g.length d, .string pb] 26, .cells #[.string ⟨#[]⟩, .string ⟨#[]⟩, .int .i64 0, .slice none 0 0, .string ⟨#[]⟩] 24] w)
  have ZQ : Hid (W0.heap[w.heap.size]? = some (.cells #[.string m, .string t, .int .i64 v, .slice A f.length c, .string b] 24 (0, 0))) := (by show _ = _; rw [← hW0]; exact alls_at [.cells #[.string m, .string t, .int .i64 v, .slice A f.length c, .string b] 24, .cells #[.int .i64 pc, .string pr, .int .i64 pv, .slice B g.length d, .string pb] 26, .cells #[.string ⟨#[]⟩, .string ⟨#[]⟩, .int .i64 0, .slice none 0 0, .string ⟨#[]⟩] 24] w 0 _ rfl)
  have ZP : Hid (W0.heap[w.heap.size + 1]? = some (.cells #[.int .i64 pc, .string pr, .int .i64 pv, .slice B g.length d, .string pb] 26 (0, 0))) := (by show _ = _; rw [← hW0]; exact alls_at [.cells #[.string m, .string t, .int .i64 v, .slice A f.length c, .string b] 24, .cells #[.int .i64 pc, .string pr, .int .i64 pv, .slice B g.length d, .string pb] 26, .cells #[.string ⟨#[]⟩, .string ⟨#[]⟩, .int .i64 0, .slice none 0 0, .string ⟨#[]⟩] 24] w 1 _ rfl)
  have ZR : Hid (W0.heap[w.heap.size + 1 + 1]? = some (.cells #[.string ⟨#[]⟩, .string ⟨#[]⟩, .int .i64 0, .slice none 0 0, .string ⟨#[]⟩] 24 (0, 0))) := (by show _ = _; rw [← hW0]; exact alls_at [.cells #[.string m, .string t, .int .i64 v, .slice A f.length c, .string b] 24, .cells #[.int .i64 pc, .string pr, .int .i64 pv, .slice B g.length d, .string pb] 26, .cells #[.string ⟨#[]⟩, .string ⟨#[]⟩, .int .i64 0, .slice none 0 0, .string ⟨#[]⟩] 24] w 2 _ rfl)
  have HS0 : Hid (W0.heap.size = w.heap.size + 1 + 1 + 1) := (by show _ = _; rw [← hW0]; simp)
  have HFQ := Lib.hid (h.below HB0.out)
  have HFP := Lib.hid (h'.below HB0.out)
  obtain ⟨nn, hnn⟩ : ∃ x, x = nnS := ⟨_, rfl⟩
  obtain ⟨im, him⟩ : ∃ x, x = imsS := ⟨_, rfl⟩
  have C1 := Lib.hid (rf_drop A (some ⟨W0.heap.size, 0, none⟩) f.length c 2 2 f cndN (W0.alloc (.cells #[.string nn, .string im] 9)) (HFQ.out.below ((Below.refl _ _).alloc (Nat.le_refl _) _)) (by have := hQ.n; omega) (by rw [hnn, him]; exact SlS.texts W0 9 [nnS, imsS] (by decide)) (by decide) (by omega))
  have C2 := Lib.hid (fun W (hW : Below W0.heap.size W0 W) => r_rtag ⟨pc, pr, pv, g, pb⟩ B d W (HFP.out.below hW) hL)
  have C3 := Lib.hid (fun W => r_etText (rtO g) (Nat.le_trans hto (by decide)) W)
  have C4 := Lib.hid (fun W (hW : Below W0.heap.size W0 W) => r_when B d g lmS W (HFP.out.below hW) hL lmS_le)
  have C5 := Lib.hid (fun W (hW : Below W0.heap.size W0 W) => rf_get B g.length d g lmS W (HFP.out.below hW) (by have := hL.n; omega) lmS_le hL.v)
  have hD : askF f g = fdDrop f cndN ++ (if rtB g then [(nnS, tgS (rtO g))] else []) ++ (if whnB g lmS then [(imsS, fdGet g lmS)] else []) := rfl
  have htz : (tgS (rtO g)).size ≤ maxLen := tgs_le hto
  have hgz : (fdGet g lmS).size ≤ maxLen := Nat.le_trans hgl (by decide)
  have hXz : ∀ x ∈ fdDrop f cndN, x.1.size ≤ maxLen ∧ x.2.size ≤ maxLen := fun x hx => ⟨(hbf x (List.mem_filter.1 hx).1).one, (hbf x (List.mem_filter.1 hx).1).two⟩
  have hXl : (fdDrop f cndN).length ≤ 1000 := Nat.le_trans (List.length_filter_le _ _) hQ.n
  unfold rqC rpC
  simp only
  show Calls _ _ _ _ fun e w' => ∃ A c, e = .returned (.agg (rqC (askR t f g) A c)) ∧ SlF w' A (askF f g).length c (askF f g) ∧ FreshA w A ∧ Below w.heap.size w w'
  obtain ⟨F, hF⟩ : ∃ F, F = askF f g := ⟨_, rfl⟩
  have hr : ∀ A c, rqC (askR t f g) A c = #[.string ⟨#[71, 69, 84]⟩, .string t, .int .i64 1, .slice A F.length c, .string ⟨#[]⟩] := fun A c => by rw [hF]; rfl
  rw [← hF] at hD ⊢
  simp only [hr]
  unfold rpC at C2
  simp only at C2
  generalize hx1 : fdDrop f cndN = X at *
  generalize rtB g = tb at *
  generalize hx2 : tgS (rtO g) = tx at *
  generalize rtO g = tg at *
  generalize whnB g lmS = wb at *
  generalize whnV g lmS = wv at *
  generalize fdGet g lmS = gx at *
  generalize fdGot g lmS = gb at *
  obtain ⟨ta, ts⟩ := tg
  unfold tgV at *
  unfold lmS at C4 C5
  rw [← hnn, ← him] at hD
  have hnn2 : (⟨#[73, 102, 45, 78, 111, 110, 101, 45, 77, 97, 116, 99, 104]⟩ : ByteArray) = nn := by rw [hnn]; rfl
  have him2 : (⟨#[73, 102, 45, 77, 111, 100, 105, 102, 105, 101, 100, 45, 83, 105, 110, 99, 101]⟩ : ByteArray) = im := by rw [him]; rfl
  have hnz : nn.size ≤ maxLen := by rw [hnn]; decide
  have hiz : im.size ≤ maxLen := by rw [him]; decide
  have HD := Lib.hid hD
  clear h h' hQ hL hbf hgl hto hD hF hr hx1 hx2 hnn him
  obtain ⟨q0, q1, q2, q3, q4⟩ := cel5r ZQ.out
  go_enter Tryz.func17, Tryz.ntmps17
  rw [hnn2, him2] at *
  clear hnn2 him2
  go_wp2_with fail
  refine C1.out.mono ?_
  rintro e w1 ⟨v1, rfl, ho, hb⟩
  obtain ⟨A1, n1, k1, rfl⟩ : ∃ A n c, v1 = .slice A n c := (by obtain ⟨A, c, e⟩ := ho.form; exact ⟨A, _, c, e⟩)
  have HO := Lib.hid (OwnF.wide ho (show W0.heap.size ≤ _ by simp))
  have HB := Lib.hid (zero_then hb)
  clear hb ho C1 hW0 q0 q1 q2 q3 q4
  obtain ⟨q0, q1, q2, q3, q4⟩ := cel5r (zero_still HB.out ZQ.out)
  obtain ⟨p0, p1, p2, p3, p4⟩ := cel5r (zero_still HB.out ZP.out)
  go_wp2_with fail
  refine (C2.out _ HB.out).mono ?_
  rintro e w2 ⟨rfl, hb⟩
  clear q0 q1 q2 q3 q4 p0 p1 p2 p3 p4
  replace HO := Lib.hid (HO.out.below hb)
  replace HB := Lib.hid (below_then HB.out hb)
  clear hb C2
  obtain ⟨U, hU⟩ : ∃ W, w2.alloc (.cells #[.bool ta, .string ts] 49) = W := ⟨_, rfl⟩
  obtain ⟨gt, hgt⟩ : ∃ g, w2.heap.size = g := ⟨_, rfl⟩
  have ZT : Hid (U.heap[gt]? = some (.cells #[.bool ta, .string ts] 49 (0, 0))) := (by show _ = _; rw [← hU, ← hgt]; exact heap_alloc_new w2 _)
  replace HO : Hid (OwnF U W0.heap.size 43 (.slice A1 n1 k1) X) := (by show OwnF _ _ _ _ _; rw [← hU]; exact HO.out.alloc _)
  replace HB : Hid (Below W0.heap.size W0 U) := (by show Below _ _ _; rw [← hU]; exact HB.out.alloc HB.out.size _)
  obtain ⟨q0, q1, q2, q3, q4⟩ := cel5r (zero_still HB.out ZQ.out)
  obtain ⟨p0, p1, p2, p3, p4⟩ := cel5r (zero_still HB.out ZP.out)
  obtain ⟨t0, t1⟩ := zero_two ZT.out
  cases tb with
  | false =>
    go_wp2_with fail
    refine (C4.out _ HB.out).mono ?_
    rintro e w5 ⟨rfl, hb⟩
    replace HO := Lib.hid (HO.out.below hb)
    replace HB := Lib.hid (below_then HB.out hb)
    clear hb q0 q1 q2 q3 q4 p0 p1 p2 p3 p4
    obtain ⟨q0, q1, q2, q3, q4⟩ := cel5r (zero_still HB.out ZQ.out)
    obtain ⟨p0, p1, p2, p3, p4⟩ := cel5r (zero_still HB.out ZP.out)
    cases wb with
    | false =>
      have hF : F = X := by rw [HD.out]; simp
      obtain ⟨AA, cc, hv, hsl⟩ := HO.out.slf hXz
      rw [← hF] at hsl hv
      have hfr := HO.out.freshL
      have ZR2 := Lib.hid (zero_still HB.out ZR.out)
      have HSL := Lib.hid hsl
      have HFR := Lib.hid hfr
      injection hv with e1 e2 e3
      subst e1 e2 e3
      clear hsl hfr hF
      go_wp2_with (refine wpList_store_row rfl _ _ _ rfl (w.heap.size + 1 + 1) #[.string ⟨#[71, 69, 84]⟩, .string t, .int .i64 1, .slice A1 F.length k1, .string ⟨#[]⟩] rfl rfl 24 _ ZR2.out (by kernel_rfl) rfl (by simp [Value.oneCell']) ?_)
      refine bodyPost_ret (results_cell_row rfl _ _ (w.heap.size + 1 + 1) 24 #[.string ⟨#[71, 69, 84]⟩, .string t, .int .i64 1, .slice A1 F.length k1, .string ⟨#[]⟩] (0, 0) _ rfl (setRow_heap _ _ _ _ _ _ ZR2.out) Tryz.underlying24 rfl (by kernel_rfl)) rfl ?_
      have hne : ∀ ad, A1 = some ad → ad.block ≠ w.heap.size + 1 + 1 := fun ad e h => by have := HFR.out ad e; have := HS0.out; omega
      exact ⟨A1, k1, rfl, HSL.out.setRow hne _, fun ad e => by have := HFR.out ad e; have := HS0.out; omega, below_setRow (HB0.out.trans (HB.out.mono HB0.out.size)) (by omega) _⟩
    | true =>
      go_wp2_with fail
      refine (C5.out _ HB.out).mono ?_
      rintro e w6 ⟨rfl, hb⟩
      replace HO := Lib.hid (HO.out.below hb)
      replace HB := Lib.hid (below_then HB.out hb)
      clear hb q0 q1 q2 q3 q4 p0 p1 p2 p3 p4
      obtain ⟨q0, q1, q2, q3, q4⟩ := cel5r (zero_still HB.out ZQ.out)
      obtain ⟨p0, p1, p2, p3, p4⟩ := cel5r (zero_still HB.out ZP.out)
      have hzz := HB.out.size
      go_upto_region 9 with (at_builtin; refine wpList_append_slf rfl _ _ 22 rfl W0.heap.size 43 Tryz.underlying22 (by kernel_rfl) _ rfl X (HO.out.alloc _) _ 1 1 rfl [(im, gx)] (SlF.one w6 43 (im, gx) ⟨hiz, hgz⟩) (by simp; omega) (by simp; omega) W0 (HB.out.alloc HB.out.size _) ?_; intro v7 u7 ho hb hz0; obtain ⟨A7, n7, k7, rfl⟩ : ∃ A n c, v7 = .slice A n c := (by obtain ⟨A, c, e⟩ := ho.out.form; exact ⟨A, _, c, e⟩); replace HO := ho; replace HB := Lib.hid hb; clear ho hb hz0)
      clear hzz
      clear q0 q1 q2 q3 q4 p0 p1 p2 p3 p4
      obtain ⟨q0, q1, q2, q3, q4⟩ := cel5r (zero_still HB.out ZQ.out)
      obtain ⟨p0, p1, p2, p3, p4⟩ := cel5r (zero_still HB.out ZP.out)
      have hF : F = (X ++ [(im, gx)]) := by rw [HD.out]; simp
      obtain ⟨AA, cc, hv, hsl⟩ := HO.out.slf (mem_snoc (a := (im, gx)) hXz ⟨hiz, hgz⟩)
      rw [← hF] at hsl hv
      have hfr := HO.out.freshL
      have ZR2 := Lib.hid (zero_still HB.out ZR.out)
      have HSL := Lib.hid hsl
      have HFR := Lib.hid hfr
      injection hv with e1 e2 e3
      subst e1 e2 e3
      clear hsl hfr hF
      go_wp2_with (refine wpList_store_row rfl _ _ _ rfl (w.heap.size + 1 + 1) #[.string ⟨#[71, 69, 84]⟩, .string t, .int .i64 1, .slice A7 F.length k7, .string ⟨#[]⟩] rfl rfl 24 _ ZR2.out (by kernel_rfl) rfl (by simp [Value.oneCell']) ?_)
      refine bodyPost_ret (results_cell_row rfl _ _ (w.heap.size + 1 + 1) 24 #[.string ⟨#[71, 69, 84]⟩, .string t, .int .i64 1, .slice A7 F.length k7, .string ⟨#[]⟩] (0, 0) _ rfl (setRow_heap _ _ _ _ _ _ ZR2.out) Tryz.underlying24 rfl (by kernel_rfl)) rfl ?_
      have hne : ∀ ad, A7 = some ad → ad.block ≠ w.heap.size + 1 + 1 := fun ad e h => by have := HFR.out ad e; have := HS0.out; omega
      exact ⟨A7, k7, rfl, HSL.out.setRow hne _, fun ad e => by have := HFR.out ad e; have := HS0.out; omega, below_setRow (HB0.out.trans (HB.out.mono HB0.out.size)) (by omega) _⟩
  | true =>
    go_wp2_with fail
    try rw [hU]
    try rw [hgt]
    refine (C3.out _).mono ?_
    rintro e w4 ⟨rfl, hb⟩
    replace HO := Lib.hid (HO.out.below hb)
    replace HB := Lib.hid (below_then HB.out hb)
    clear hb q0 q1 q2 q3 q4 p0 p1 p2 p3 p4 t0 t1
    obtain ⟨q0, q1, q2, q3, q4⟩ := cel5r (zero_still HB.out ZQ.out)
    obtain ⟨p0, p1, p2, p3, p4⟩ := cel5r (zero_still HB.out ZP.out)
    have hzz := HB.out.size
    go_upto_region 5 with (at_builtin; refine wpList_append_slf rfl _ _ 22 rfl W0.heap.size 43 Tryz.underlying22 (by kernel_rfl) _ rfl X (HO.out.alloc _) _ 1 1 rfl [(nn, tx)] (SlF.one w4 43 (nn, tx) ⟨hnz, htz⟩) (by simp; omega) (by simp; omega) W0 (HB.out.alloc HB.out.size _) ?_; intro v6 u6 ho hb hz0; obtain ⟨A6, n6, k6, rfl⟩ : ∃ A n c, v6 = .slice A n c := (by obtain ⟨A, c, e⟩ := ho.out.form; exact ⟨A, _, c, e⟩); replace HO := ho; replace HB := Lib.hid hb; clear ho hb hz0)
    clear hzz
    clear q0 q1 q2 q3 q4 p0 p1 p2 p3 p4
    obtain ⟨q0, q1, q2, q3, q4⟩ := cel5r (zero_still HB.out ZQ.out)
    obtain ⟨p0, p1, p2, p3, p4⟩ := cel5r (zero_still HB.out ZP.out)
    go_wp2_with fail
    refine (C4.out _ HB.out).mono ?_
    rintro e w5 ⟨rfl, hb⟩
    replace HO := Lib.hid (HO.out.below hb)
    replace HB := Lib.hid (below_then HB.out hb)
    clear hb q0 q1 q2 q3 q4 p0 p1 p2 p3 p4
    obtain ⟨q0, q1, q2, q3, q4⟩ := cel5r (zero_still HB.out ZQ.out)
    obtain ⟨p0, p1, p2, p3, p4⟩ := cel5r (zero_still HB.out ZP.out)
    cases wb with
    | false =>
      have hF : F = (X ++ [(nn, tx)]) := by rw [HD.out]; simp
      obtain ⟨AA, cc, hv, hsl⟩ := HO.out.slf (mem_snoc (a := (nn, tx)) hXz ⟨hnz, htz⟩)
      rw [← hF] at hsl hv
      have hfr := HO.out.freshL
      have ZR2 := Lib.hid (zero_still HB.out ZR.out)
      have HSL := Lib.hid hsl
      have HFR := Lib.hid hfr
      injection hv with e1 e2 e3
      subst e1 e2 e3
      clear hsl hfr hF
      go_wp2_with (refine wpList_store_row rfl _ _ _ rfl (w.heap.size + 1 + 1) #[.string ⟨#[71, 69, 84]⟩, .string t, .int .i64 1, .slice A6 F.length k6, .string ⟨#[]⟩] rfl rfl 24 _ ZR2.out (by kernel_rfl) rfl (by simp [Value.oneCell']) ?_)
      refine bodyPost_ret (results_cell_row rfl _ _ (w.heap.size + 1 + 1) 24 #[.string ⟨#[71, 69, 84]⟩, .string t, .int .i64 1, .slice A6 F.length k6, .string ⟨#[]⟩] (0, 0) _ rfl (setRow_heap _ _ _ _ _ _ ZR2.out) Tryz.underlying24 rfl (by kernel_rfl)) rfl ?_
      have hne : ∀ ad, A6 = some ad → ad.block ≠ w.heap.size + 1 + 1 := fun ad e h => by have := HFR.out ad e; have := HS0.out; omega
      exact ⟨A6, k6, rfl, HSL.out.setRow hne _, fun ad e => by have := HFR.out ad e; have := HS0.out; omega, below_setRow (HB0.out.trans (HB.out.mono HB0.out.size)) (by omega) _⟩
    | true =>
      go_wp2_with fail
      refine (C5.out _ HB.out).mono ?_
      rintro e w6 ⟨rfl, hb⟩
      replace HO := Lib.hid (HO.out.below hb)
      replace HB := Lib.hid (below_then HB.out hb)
      clear hb q0 q1 q2 q3 q4 p0 p1 p2 p3 p4
      obtain ⟨q0, q1, q2, q3, q4⟩ := cel5r (zero_still HB.out ZQ.out)
      obtain ⟨p0, p1, p2, p3, p4⟩ := cel5r (zero_still HB.out ZP.out)
      have hzz := HB.out.size
      go_upto_region 9 with (at_builtin; refine wpList_append_slf rfl _ _ 22 rfl W0.heap.size 43 Tryz.underlying22 (by kernel_rfl) _ rfl (X ++ [(nn, tx)]) (HO.out.alloc _) _ 1 1 rfl [(im, gx)] (SlF.one w6 43 (im, gx) ⟨hiz, hgz⟩) (by simp; omega) (by simp; omega) W0 (HB.out.alloc HB.out.size _) ?_; intro v7 u7 ho hb hz0; obtain ⟨A7, n7, k7, rfl⟩ : ∃ A n c, v7 = .slice A n c := (by obtain ⟨A, c, e⟩ := ho.out.form; exact ⟨A, _, c, e⟩); replace HO := ho; replace HB := Lib.hid hb; clear ho hb hz0)
      clear hzz
      clear q0 q1 q2 q3 q4 p0 p1 p2 p3 p4
      obtain ⟨q0, q1, q2, q3, q4⟩ := cel5r (zero_still HB.out ZQ.out)
      obtain ⟨p0, p1, p2, p3, p4⟩ := cel5r (zero_still HB.out ZP.out)
      have hF : F = ((X ++ [(nn, tx)]) ++ [(im, gx)]) := by rw [HD.out]; simp
      obtain ⟨AA, cc, hv, hsl⟩ := HO.out.slf (mem_snoc (a := (im, gx)) (mem_snoc (a := (nn, tx)) hXz ⟨hnz, htz⟩) ⟨hiz, hgz⟩)
      rw [← hF] at hsl hv
      have hfr := HO.out.freshL
      have ZR2 := Lib.hid (zero_still HB.out ZR.out)
      have HSL := Lib.hid hsl
      have HFR := Lib.hid hfr
      injection hv with e1 e2 e3
      subst e1 e2 e3
      clear hsl hfr hF
      go_wp2_with (refine wpList_store_row rfl _ _ _ rfl (w.heap.size + 1 + 1) #[.string ⟨#[71, 69, 84]⟩, .string t, .int .i64 1, .slice A7 F.length k7, .string ⟨#[]⟩] rfl rfl 24 _ ZR2.out (by kernel_rfl) rfl (by simp [Value.oneCell']) ?_)
      refine bodyPost_ret (results_cell_row rfl _ _ (w.heap.size + 1 + 1) 24 #[.string ⟨#[71, 69, 84]⟩, .string t, .int .i64 1, .slice A7 F.length k7, .string ⟨#[]⟩] (0, 0) _ rfl (setRow_heap _ _ _ _ _ _ ZR2.out) Tryz.underlying24 rfl (by kernel_rfl)) rfl ?_
      have hne : ∀ ad, A7 = some ad → ad.block ≠ w.heap.size + 1 + 1 := fun ad e h => by have := HFR.out ad e; have := HS0.out; omega
      exact ⟨A7, k7, rfl, HSL.out.setRow hne _, fun ad e => by have := HFR.out ad e; have := HS0.out; omega, below_setRow (HB0.out.trans (HB.out.mono HB0.out.size)) (by omega) _⟩

end Go.Proofs.YtjkfdjolhmgemaaGreatDoor
end

/-
  Contracts of slices.Grow and slices.Concat on fields.
-/
section
namespace Go.Proofs.YtjkfdjolhmgemaaGreatDoor
open Go.RowKit

theorem Tryz.infoFd : (Tryz.prog.info? 43).map (fun i => (i.zero, i.size, i.bytes)) = some (some (.agg #[.string ⟨#[]⟩, .string ⟨#[]⟩]), 2, 32) := by kernel_rfl

set_option maxHeartbeats 1000000 in
set_option maxRecDepth 100000 in
theorem growF_any (k : Nat) (w : World) (hk : k ≤ 1000000) :
    Calls Tryz.prog 70 #[.slice none 0 0, .int .i64 k] w fun e w' => ∃ v, e = .returned v ∧ OwnF w' w.heap.size 43 v [] ∧ Below w.heap.size w w' := by
  by_cases h0 : k = 0
  · subst h0
    go_enter Tryz.func70, Tryz.ntmps70
    go_wp2_with fail
    go_ret
    exact ⟨_, rfl, OwnF.nil _ _ _, Below.refl _ _⟩
  · have hk1 : (0 : Int) < (k : Int) := by omega
    obtain ⟨i0, hi, hz0, hz1, hz2⟩ := info_parts Tryz.infoFd
    have hr := Lib.hid (Lib.run_append_nil_zeros (P := Tryz.prog) w 22 3 22 43 i0 (.agg #[.string ⟨#[]⟩, .string ⟨#[]⟩]) .i64 .i64 Tryz.underlying22 Tryz.underlying3 hi hz0 k (by omega) (by omega) (by omega) (by rw [hz2]; omega))
    have hgc := grownCap_ge w k 0 43
    have hgm := grownCap_le_maxLen w k 0 43 (by unfold maxLen; omega)
    have HO : Hid (OwnF (w.drew.alloc (.cells (Builtin.zeroCells (Value.agg #[.string ⟨#[]⟩, .string ⟨#[]⟩]).cells k ++ Builtin.zeroCells (Value.agg #[.string ⟨#[]⟩, .string ⟨#[]⟩]).cells (grownCap w k 0 43 - k)) 43)) w.heap.size 43 (.slice (some ⟨w.heap.size, 0, none⟩) 0 (grownCap w k 0 43)) []) :=
      World.ownsRow_made w.drew _ _ (Nat.le_refl _) hgm (by simp only [Array.size_append, size_zeroCells]; show k * 2 + (_ - k) * 2 = _ * 2; omega)
    clear hgc hgm hi hz0 hz1 hz2
    go_enter Tryz.func70, Tryz.ntmps70
    go_wp2_with (at_builtin; refine Lib.wpList_append_run _ rfl _ _ _ _ rfl _ _ rfl rfl _ _ hr.out ?_)
    go_ret
    exact ⟨_, rfl, HO.out, (Below.refl _ _).drew.alloc (Nat.le_refl _) _⟩

set_option maxHeartbeats 2000000 in
set_option maxRecDepth 100000 in
/-- Two slices put together. -/
theorem concatF_any (B : Nat) (A1 A2 : Option Addr) (n1 c1 n2 c2 : Nat) (X Y : List Fd) (w : World) (hg1 : w.cell? ⟨B, 0, none⟩ = some (.slice A1 n1 c1)) (hg2 : w.cell? ⟨B, 1, none⟩ = some (.slice A2 n2 c2))
    (h1 : SlF w A1 n1 c1 X) (h2 : SlF w A2 n2 c2 Y) (hs : X.length + Y.length ≤ 1000000) :
    Calls Tryz.prog 40 #[.slice (some ⟨B, 0, none⟩) 2 2] w fun e w' => ∃ v, e = .returned v ∧ OwnF w' w.heap.size 43 v (X ++ Y) ∧ Below w.heap.size w w' := by
  have hn1 := h1.len
  have hn2 := h2.len
  subst hn1 hn2
  have H1 := Lib.hid h1
  have H2 := Lib.hid h2
  have G1 := Lib.hid hg1
  have G2 := Lib.hid hg2
  clear h1 h2
  go_enter Tryz.func40, Tryz.ntmps40
  go_wp2_with fail
  go_loop [3, 11] (fun s i => (i = .int .i64 0 ∧ s = .int .i64 0) ∨ (i = .int .i64 1 ∧ s = .int .i64 X.length) ∨ (i = .int .i64 2 ∧ s = .int .i64 ((X.length : Int) + Y.length))) (fun _ i => 2 - (intOf i).toNat)
  case atStart => exact .inl ⟨rfl, rfl⟩
  case round =>
    rcases hrel with ⟨rfl, rfl⟩ | ⟨rfl, rfl⟩ | ⟨rfl, rfl⟩
    · go_wp2_with fail
      go_round
      case rel => exact .inr (.inl ⟨rfl, by go_num⟩)
      case measure => simp [intOf]
    · go_wp2_with fail
      go_round
      case rel => exact .inr (.inr ⟨rfl, by go_num⟩)
      case measure => simp [intOf]
    · go_wp2_with fail
      refine (growF_any (X.length + Y.length) _ ?hh).mono ?_
      case hh => omega
      rintro e w1 ⟨v0, rfl, hown, hb1⟩
      have K1 := Lib.hid (H1.out.below hb1)
      have K2 := Lib.hid (H2.out.below hb1)
      have HO := Lib.hid hown
      have HB := Lib.hid hb1
      have hx1 := cell_kept hb1 G1.out
      have hx2 := cell_kept hb1 G2.out
      clear hg1 hg2 hown hb1
      go_wp2_with fail
      go_loopw [6, 27] (fun v i wr => ∃ (k : Nat) (Z : List Fd), ((k = 0 ∧ Z = []) ∨ (k = 1 ∧ Z = X) ∨ (k = 2 ∧ Z = X ++ Y)) ∧ i = .int .i64 k ∧ OwnF wr w.heap.size 43 v Z ∧ Below w.heap.size w wr) (fun _ i _ => 2 - (intOf i).toNat)
      case atStart => exact ⟨0, [], .inl ⟨rfl, rfl⟩, rfl, HO.out, HB.out⟩
      case round =>
        clear K1 K2 HO HB hx1 hx2
        obtain ⟨k, Z, hk, rfl, hown, hbel⟩ := hrel
        have K1 := Lib.hid (H1.out.below hbel)
        have K2 := Lib.hid (H2.out.below hbel)
        have hx1 := cell_kept hbel G1.out
        have hx2 := cell_kept hbel G2.out
        have HO := Lib.hid hown
        have HB := Lib.hid hbel
        have HS := Lib.hid hbel.size
        clear hown hbel
        rcases hk with ⟨rfl, rfl⟩ | ⟨rfl, rfl⟩ | ⟨rfl, rfl⟩
        · go_wp2_with (at_builtin; refine wpList_append_slf rfl _ _ 22 rfl w.heap.size 43 Tryz.underlying22 Tryz.infoFd _ rfl [] HO.out A1 X.length c1 rfl X K1.out (by simp; omega) HS.out w HB.out ?_)
          intro v' w2 ho2 hb2 _
          have HO2 := Lib.hid ho2
          have HB2 := Lib.hid hb2
          clear ho2 hb2
          go_wp2_with fail
          go_roundw
          case rel => exact ⟨1, X, .inr (.inl ⟨rfl, rfl⟩), rfl, HO2.out.out, HB2.out⟩
          case measure => simp [intOf]
        · go_wp2_with (at_builtin; refine wpList_append_slf rfl _ _ 22 rfl w.heap.size 43 Tryz.underlying22 Tryz.infoFd _ rfl Z HO.out A2 Y.length c2 rfl Y K2.out (by omega) HS.out w HB.out ?_)
          intro v' w2 ho2 hb2 _
          have HO2 := Lib.hid ho2
          have HB2 := Lib.hid hb2
          clear ho2 hb2
          go_wp2_with fail
          go_roundw
          case rel => exact ⟨2, Z ++ Y, .inr (.inr ⟨rfl, rfl⟩), rfl, HO2.out.out, HB2.out⟩
          case measure => simp [intOf]
        · go_wp2_with fail
          go_ret
          exact ⟨_, rfl, HO.out, HB.out⟩

end Go.Proofs.YtjkfdjolhmgemaaGreatDoor
end
