/-
  Texts that the laws of this seat lean on, one behind the other.
-/
import Derived.Test.YthhlcecojeaalaaDoorMrgAN
import Derived.Test.YthhlcecojeaalaaDoorMrgK
import Derived.Test.YthhlcecojeaalaaDoorMrgAD
import Derived.Test.YthhlcecojeaalaaDoorMrgAH
import Derived.Test.YthhlcecojeaalaaDoorMrgH
import Derived.Test.YthhlcecojeaalaaDoorMrgAM
import Derived.Test.YthhlcecojeaalaaDoorMrgF
set_option linter.unusedSimpArgs false
set_option linter.unusedVariables false
/-
  Contract of package variant's Put.
-/
section
namespace Go.Proofs.YthhlcecojeaalaaDoor
open Go.RowKit
set_option linter.unusedSimpArgs false

/-- A store into a row, and what the world is then. -/
theorem wpList_storeW {P : Program} {ops : Array Oper} {rest : List Oper} {o : Oper} {a : Act} {w : World} {Q : Exit → Act → World → Prop} (hgd : o.guard = none) (ty : TypeId) (x y : Operand) (ho : o.op = .store ty x y) (ad : Addr) (hx : a.eval x = .pointer (some ad))
    (g e k m : Nat) (had : ad = ⟨g, k * m, none⟩) (v : Value) (hy : a.eval y = v) (vs : List Value) (hv : v.cells = vs.toArray) (hm : vs.length = m) (hi : (P.info? ty).map (·.size) = some m) (h1 : ∀ u ∈ vs, u.oneCell' = true)
    (L : List (List Value)) (hg : RowE w g e L) (hL : ∀ l ∈ L, l.length = m) (hk : k < L.length)
    (h : wpList P ops Q rest (a.put o.dst undef) (w.setRow g (L.set k vs).flatten.toArray)) : wpList P ops Q (o :: rest) a w :=
  wpList_plain hgd fun _ hK => wp_storeE ty x y ho ad hx g e k m had v hy vs hv hm hi h1 L hg hL hk (hK _ _ h)
theorem RowE.sld {w : World} {g e n : Nat} {L : List Sd} (hg : RowE w g e (L.map sdC)) (hl : L.length = n) (hm : n ≤ maxLen) (ha : ∀ y ∈ L, SdAt w y) (hz : ∀ x ∈ L, x.x.s.r.size ≤ maxLen ∧ x.x.s.b.size ≤ maxLen) : SlD w (some ⟨g, 0, none⟩) n n L := by
  subst hl
  have hf : (L.map sdC).flatten = sdR L := by unfold sdR; rw [List.flatMap_def]
  have hg : w.heap[g]? = some (.cells (sdR L).toArray e (0, 0)) := by rw [← hf]; exact hg
  refine ⟨rfl, Nat.le_refl _, hm, (fun e => by cases e), fun _ => ⟨_, rfl, fun j x hx => ?_⟩, ha, hz⟩
  rw [addr_add, cell_of_row _ _ _ _ _ _ hg]
  simpa using hx
def zer7 : List Value := [.int .i64 0, .string ⟨#[]⟩, .int .i64 0, .slice none 0 0, .string ⟨#[]⟩, .int .i64 0, .slice none 0 0]
theorem row7_len {X : List Sd} {r : Nat} : ∀ l ∈ X.map sdC ++ List.replicate r zer7, l.length = 7 := fun l hl => by
  rcases List.mem_append.1 hl with h | h
  · obtain ⟨z, _, rfl⟩ := List.mem_map.1 h; rfl
  · rw [(List.mem_replicate.1 h).2]; rfl
theorem row_sd_end {w0 w : World} {g e n : Nat} {X : List Sd} (hg : RowE w g e (X.map sdC ++ List.replicate (n - X.length) zer7)) (hl : X.length = n) (hm : n ≤ maxLen) (h : AllTy w X) (hb : Below w0.heap.size w0 w) : IsSd w0 (X.map fun z => z.x) (.returned (.slice (some ⟨g, 0, none⟩) n n)) w := by
  rw [hl, Nat.sub_self, List.replicate_zero, List.append_nil] at hg
  have hS := hg.sld hl hm (fun y hy => (h y hy).1.a) (fun y hy => (h y hy).2)
  subst hl
  exact ⟨_, _, X, rfl, hS, rfl, hb⟩
/-- .. as a store into a row of stored replies leaves. -/
theorem AllTy.setRow {w : World} {g : Nat} {X : List Sd} {cs0 cs : Array Value} {e : Nat} (h : AllTy w X) (hg : w.heap[g]? = some (.cells cs0 e (0, 0))) (h1 : (62 == e) = false) (h2 : (53 == e) = false) : AllTy (w.setRow g cs) X :=
  fun z hz => ⟨(h z hz).1.keep (fun ad ha => rowOther ((h z hz).1.f.ne hg h1 ad ha) _) (fun ad ha => rowOther ((h z hz).1.k.ne hg h2 ad ha) _), (h z hz).2⟩
theorem putV_at (l : List Sv) (k : Int) (s : Sv) (j : Nat) (hj : j < l.length) : (putV l k s)[j]? = some (if (j : Int) = k then s else l[j]) := by
  unfold putV
  by_cases h : 0 ≤ k ∧ k < (l.length : Int)
  · rw [if_pos h, List.getElem?_set]
    by_cases e : (j : Int) = k
    · rw [if_pos e, if_pos (by omega), if_pos (by omega)]
    · rw [if_neg e, if_neg (by omega), List.getElem?_eq_getElem hj]
  · rw [if_neg h, if_neg (by omega), List.getElem?_eq_getElem hj]
theorem putV_len (l : List Sv) (k : Int) (s : Sv) : (putV l k s).length = l.length := by
  unfold putV
  split
  · rw [List.length_set]
  · rfl
theorem take_at {α : Type} {D : List α} {j : Nat} {x : α} (h : D[j]? = some x) : D.take (j + 1) = D.take j ++ [x] := by
  have hj := (List.getElem?_eq_some_iff.1 h).1
  rw [List.take_succ_eq_append_getElem hj, (List.getElem?_eq_some_iff.1 h).2]

set_option maxHeartbeats 16000000 in
set_option maxRecDepth 100000 in
theorem vntP_any (A : Option Addr) (n c : Nat) (L : List Sd) (kk : Int) (y : Sd) (w : World) (h : SlD w A n c L) (hy : SdAt w y) (hn : n ≤ 100000000) (hp : ∀ z ∈ L, z.x.p.length ≤ 100000000 ∧ z.x.s.f.length ≤ 100000000) (hyp : y.x.p.length ≤ 100000000 ∧ y.x.s.f.length ≤ 100000000) (hyz : y.x.s.r.size ≤ maxLen ∧ y.x.s.b.size ≤ maxLen) :
    Calls Tryd.prog 16 #[.slice A n c, .int .i64 kk, .agg (sdA y)] w (IsSd w (putV (L.map fun z => z.x) kk y.x)) := by
  have hlen := h.len
  subst hlen
  obtain ⟨D, hD⟩ : ∃ D, D = putV (L.map fun z => z.x) kk y.x := ⟨_, rfl⟩
  rw [← hD]
  have HDL : Hid (D.length = L.length) := by
    show _ = _
    rw [hD, putV_len, List.length_map]
  have HDA : Hid (∀ j (hj : j < L.length), D[j]? = some (if (j : Int) = kk then y.x else L[j].x)) := fun j hj => by
    rw [hD, putV_at _ _ _ j (by rw [List.length_map]; exact hj), List.getElem_map]
  have HYZ := Lib.hid hyz
  have CC := Lib.hid (fun (W : World) (z : Sd) (hz : SdAt W z) (hp : z.x.p.length ≤ 100000000 ∧ z.x.s.f.length ≤ 100000000) => copied_any z W hz hp.2 hp.1)
  have HY := Lib.hid hy
  have HYP := Lib.hid hyp
  clear hD hy hyz hyp
  obtain ⟨⟨⟨sc, sr, sv, f, sb, st⟩, p⟩, fa, fc, pa, pc⟩ := y
  rw [show sdA ⟨⟨⟨sc, sr, sv, f, sb, st⟩, p⟩, fa, fc, pa, pc⟩ = #[.int .i64 sc, .string sr, .int .i64 sv, .slice fa f.length fc, .string sb, .int .i64 st, .slice pa p.length pc] from rfl]
  simp only at HYZ HDA HYP
  obtain ⟨V0, hV0⟩ : ∃ V, V = w.alloc (.cells #[.int .i64 sc, .string sr, .int .i64 sv, .slice fa f.length fc, .string sb, .int .i64 st, .slice pa p.length pc] 28) := ⟨_, rfl⟩
  have HB0 : Hid (Below w.heap.size w V0) := by
    show Below _ _ _
    rw [hV0]
    exact (Below.refl _ _).alloc (Nat.le_refl _) _
  have Z0 : Hid (V0.heap[w.heap.size]? = some (.cells #[.int .i64 sc, .string sr, .int .i64 sv, .slice fa f.length fc, .string sb, .int .i64 st, .slice pa p.length pc] 28 (0, 0))) := by
    show _ = _
    rw [hV0]
    exact heap_alloc_new w _
  have HS0 : Hid (V0.heap.size = w.heap.size + 1) := by
    show _ = _
    rw [hV0]; simp
  obtain ⟨w1, hmk, hrow, hbm⟩ := run_makeE (P := Tryd.prog) V0 22 28 (.agg #[.int .i64 0, .string ⟨#[]⟩, .int .i64 0, .slice none 0 0, .string ⟨#[]⟩, .int .i64 0, .slice none 0 0]) zer7 104 L.length Tryd.underlying22 (by kernel_rfl) rfl (by decide) (by omega) (by unfold maxLen; omega)
  have HR1 := Lib.hid hrow
  have HB1 := Lib.hid (below_then HB0.out hbm)
  have Z1 := Lib.hid (zero_still hbm Z0.out)
  obtain ⟨g, hg⟩ : ∃ g, g = V0.heap.size := ⟨_, rfl⟩
  rw [← hg] at hmk HR1
  have HG : Hid (w.heap.size < g) := by show _ < _; have := HS0.out; omega
  clear hrow hbm hg
  go_enter Tryd.func16, Tryd.ntmps16
  go_upto_region 1 with fail
  rw [← hV0]
  clear hV0
  go_wp2_with fail
  go_loopw [8, 15] (fun _ i wr => ∃ (k : Nat) (X : List Sd), k ≤ L.length ∧ X.length = k ∧ i = .int .i64 k ∧ Hid (RowE wr g 28 (X.map sdC ++ List.replicate (L.length - X.length) zer7)) ∧ Hid (AllTy wr X) ∧ Hid ((X.map fun z => z.x) = D.take k) ∧ Hid (wr.heap[w.heap.size]? = some (.cells #[.int .i64 sc, .string sr, .int .i64 sv, .slice fa f.length fc, .string sb, .int .i64 st, .slice pa p.length pc] 28 (0, 0))) ∧ Hid (Below w.heap.size w wr)) (fun _ i _ => L.length - (intOf i).toNat)
  case atStart =>
    exact ⟨0, [], Nat.zero_le _, rfl, rfl, HR1.out, (fun z hz => by cases hz), rfl, Z1.out, HB1.out⟩
  case round =>
    clear HR1 HB1 Z1 HB0 Z0 HS0 hmk
    obtain ⟨k, X, hk, hX, rfl, HR, HT, HX, ZB, HB⟩ := hrel
    by_cases hlt : k < L.length
    · have hi0 : (0 : Int) ≤ (k : Int) := by omega
      have hi1 : (k : Int) < (L.length : Int) := by omega
      have hw := h.below HB.out
      obtain ⟨ad, rfl, _⟩ := h.at_ (by omega)
      obtain ⟨e0, e1, e2, e3, e4, e5, e6⟩ := hw.elem hlt
      have hz := hw.all _ (List.getElem_mem hlt)
      have hzz := hw.sz _ (List.getElem_mem hlt)
      have hzp := hp _ (List.getElem_mem hlt)
      have HDK := Lib.hid (take_at (HDA.out k hlt))
      have hlX : L.length - X.length = (L.length - (X.length + 1)) + 1 := by omega
      obtain ⟨r, hr⟩ : ∃ r, r = L.length - (X.length + 1) := ⟨_, rfl⟩
      rw [hlX, ← hr] at HR
      have HRR := Lib.hid hr
      have HXK := Lib.hid hX
      clear hlX hr hX
      generalize L[k] = z at HDK e0 e1 e2 e3 e4 e5 e6 hz hzp hzz
      have HZ := Lib.hid hz
      have HZP := Lib.hid hzp
      clear hw hz hzp
      obtain ⟨V, hV⟩ : ∃ V, V = wr.alloc (.cells (sdA z) 28) := ⟨_, rfl⟩
      have HBV : Hid (Below wr.heap.size wr V) := by
        show Below _ _ _
        rw [hV]
        exact (Below.refl _ _).alloc (Nat.le_refl _) _
      have ZV : Hid (V.heap[wr.heap.size]? = some (.cells (sdA z) 28 (0, 0))) := by
        show _ = _
        rw [hV]
        exact heap_alloc_new wr _
      have ZBV := Lib.hid (zero_still HBV.out ZB.out)
      have HSB : Hid (w.heap.size < wr.heap.size) := (Array.getElem?_eq_some_iff.1 ZB.out).1
      obtain ⟨zx, zfa, zfc, zpa, zpc⟩ := z
      obtain ⟨⟨zc, zr, zv, zf, zb, zt⟩, zp⟩ := zx
      have HSZ := Lib.hid hzz
      rw [show sdA ⟨⟨⟨zc, zr, zv, zf, zb, zt⟩, zp⟩, zfa, zfc, zpa, zpc⟩ = #[.int .i64 zc, .string zr, .int .i64 zv, .slice zfa zf.length zfc, .string zb, .int .i64 zt, .slice zpa zp.length zpc] from rfl] at hV ZV
      simp only at e0 e1 e2 e3 e4 e5 e6 HSZ HDK
      clear hzz
      go_upto_region 5 with fail
      rw [← hV]
      clear hV e0 e1 e2 e3 e4 e5 e6
      by_cases hkk : (k : Int) = kk
      · have HN : Hid (D.take (k + 1) = D.take k ++ [(⟨⟨sc, sr, sv, f, sb, st⟩, p⟩ : Sv)]) := by
          show _ = _
          rw [HDK.out, if_pos hkk]
        clear HDK
        obtain ⟨b0, b1, b2, b3, b4, b5, b6⟩ := cel7 ZBV.out
        obtain ⟨V2, hV2⟩ : ∃ V2, V2 = V.setRow wr.heap.size #[.int .i64 sc, .string sr, .int .i64 sv, .slice fa f.length fc, .string sb, .int .i64 st, .slice pa p.length pc] := ⟨_, rfl⟩
        have Z2 : Hid (V2.heap[wr.heap.size]? = some (.cells #[.int .i64 sc, .string sr, .int .i64 sv, .slice fa f.length fc, .string sb, .int .i64 st, .slice pa p.length pc] 28 (0, 0))) := by
          show _ = _
          rw [hV2]
          exact setRow_heap _ _ _ _ _ _ ZV.out
        have HB2 : Hid (Below wr.heap.size wr V2) := by
          show Below _ _ _
          rw [hV2]
          exact below_setRow HBV.out (Nat.le_refl _) _
        have CY := Lib.hid (CC.out V2 _ ((HY.out.below HB.out).below HB2.out) HYP.out)
        rw [show sdA ⟨⟨⟨sc, sr, sv, f, sb, st⟩, p⟩, fa, fc, pa, pc⟩ = #[.int .i64 sc, .string sr, .int .i64 sv, .slice fa f.length fc, .string sb, .int .i64 st, .slice pa p.length pc] from rfl] at CY
        subst hkk
        go_upto_region 7 with (refine wpList_store_row rfl _ _ _ rfl wr.heap.size #[.int .i64 sc, .string sr, .int .i64 sv, .slice fa f.length fc, .string sb, .int .i64 st, .slice pa p.length pc] rfl rfl 28 _ ZV.out (by kernel_rfl) rfl (by simp [Value.oneCell']) ?_)
        rw [← hV2]
        clear hV2 b0 b1 b2 b3 b4 b5 b6
        obtain ⟨p0, p1, p2, p3, p4, p5, p6⟩ := cel7 Z2.out
        go_wp2_with fail
        refine CY.out.mono ?_
        rintro e w3 ⟨⟨x3, ya, yb, yc, yd⟩, rfl, hx3, t3, _, _, hb3⟩
        simp only at hx3
        subst hx3
        rw [show sdA ⟨⟨⟨sc, sr, sv, f, sb, st⟩, p⟩, ya, yb, yc, yd⟩ = #[.int .i64 sc, .string sr, .int .i64 sv, .slice ya f.length yb, .string sb, .int .i64 st, .slice yc p.length yd] from rfl]
        clear CY p0 p1 p2 p3 p4 p5 p6
        have HW3 := Lib.hid (HB2.out.trans (hb3.mono HB2.out.size))
        have Z3 := Lib.hid (zero_still HW3.out ZB.out)
        have HR3 := Lib.hid (HR.out.below HW3.out)
        have HT3 := Lib.hid ((HT.out.below HW3.out).snoc t3 HYZ.out)
        have HB3 := Lib.hid (below_then HB.out HW3.out)
        clear hb3 t3
        have hkl : k < (X.map sdC ++ List.replicate (r + 1) zer7).length := by rw [List.length_append, List.length_map, HXK.out, List.length_replicate]; omega
        have HKL := Lib.hid hkl
        clear hkl
        go_wp2_with (refine wpList_storeW (by rfl) _ _ _ (by rfl) _ (by rfl) g 28 k 7 (by simp) _ (by rfl) (sdC ⟨⟨⟨sc, sr, sv, f, sb, st⟩, p⟩, ya, yb, yc, yd⟩) (by rfl) rfl (by kernel_rfl) (sdC_ones _) _ HR3.out row7_len HKL.out ?_)
        have HSN := set_next sdC zer7 X ⟨⟨⟨sc, sr, sv, f, sb, st⟩, p⟩, ya, yb, yc, yd⟩ r
        rw [HXK.out] at HSN
        rw [HSN]
        have HR4 : Hid (RowE (w3.setRow g ((X ++ [(⟨⟨⟨sc, sr, sv, f, sb, st⟩, p⟩, ya, yb, yc, yd⟩ : Sd)]).map sdC ++ List.replicate r zer7).flatten.toArray) g 28 _) := RowE.set HR3.out _
        have HT4 : Hid (AllTy (w3.setRow g ((X ++ [(⟨⟨⟨sc, sr, sv, f, sb, st⟩, p⟩, ya, yb, yc, yd⟩ : Sd)]).map sdC ++ List.replicate r zer7).flatten.toArray) _) := HT3.out.setRow HR3.out (by kernel_rfl) (by kernel_rfl)
        have HB4 := Lib.hid (below_setRow HB3.out (Nat.le_of_lt HG.out) ((X ++ [(⟨⟨⟨sc, sr, sv, f, sb, st⟩, p⟩, ya, yb, yc, yd⟩ : Sd)]).map sdC ++ List.replicate r zer7).flatten.toArray)
        have Z4 : Hid ((w3.setRow g ((X ++ [(⟨⟨⟨sc, sr, sv, f, sb, st⟩, p⟩, ya, yb, yc, yd⟩ : Sd)]).map sdC ++ List.replicate r zer7).flatten.toArray).heap[w.heap.size]? = _) := (rowOther (by have := HG.out; omega) _).trans Z3.out
        clear HSN
        generalize w3.setRow g ((X ++ [(⟨⟨⟨sc, sr, sv, f, sb, st⟩, p⟩, ya, yb, yc, yd⟩ : Sd)]).map sdC ++ List.replicate r zer7).flatten.toArray = w4 at *
        go_wp2_with fail
        go_roundw
        case rel => exact ⟨k + 1, X ++ [(⟨⟨⟨sc, sr, sv, f, sb, st⟩, p⟩, ya, yb, yc, yd⟩ : Sd)], by omega, by rw [List.length_append, HXK.out, List.length_singleton], by go_num, by show RowE _ _ _ _; rw [List.length_append, List.length_singleton, ← HRR.out]; exact HR4.out, HT4.out, by show _ = _; rw [List.map_append, HX.out, HN.out]; rfl, Z4.out, HB4.out⟩
        case measure => simp [intOf]; omega
      · have HN : Hid (D.take (k + 1) = D.take k ++ [(⟨⟨zc, zr, zv, zf, zb, zt⟩, zp⟩ : Sv)]) := by
          show _ = _
          rw [HDK.out, if_neg hkk]
        clear HDK
        have CY := Lib.hid (CC.out V _ (HZ.out.below HBV.out) HZP.out)
        rw [show sdA ⟨⟨⟨zc, zr, zv, zf, zb, zt⟩, zp⟩, zfa, zfc, zpa, zpc⟩ = #[.int .i64 zc, .string zr, .int .i64 zv, .slice zfa zf.length zfc, .string zb, .int .i64 zt, .slice zpa zp.length zpc] from rfl] at CY
        have hkb : ((k : Int) == kk) = false := by simpa using hkk
        clear hkk
        obtain ⟨p0, p1, p2, p3, p4, p5, p6⟩ := cel7 ZV.out
        go_wp2_with fail
        refine CY.out.mono ?_
        rintro e w3 ⟨⟨x3, ya, yb, yc, yd⟩, rfl, hx3, t3, _, _, hb3⟩
        simp only at hx3
        subst hx3
        rw [show sdA ⟨⟨⟨zc, zr, zv, zf, zb, zt⟩, zp⟩, ya, yb, yc, yd⟩ = #[.int .i64 zc, .string zr, .int .i64 zv, .slice ya zf.length yb, .string zb, .int .i64 zt, .slice yc zp.length yd] from rfl]
        clear CY p0 p1 p2 p3 p4 p5 p6
        have HW3 := Lib.hid (HBV.out.trans (hb3.mono HBV.out.size))
        have Z3 := Lib.hid (zero_still HW3.out ZB.out)
        have HR3 := Lib.hid (HR.out.below HW3.out)
        have HT3 := Lib.hid ((HT.out.below HW3.out).snoc t3 HSZ.out)
        have HB3 := Lib.hid (below_then HB.out HW3.out)
        clear hb3 t3
        have hkl : k < (X.map sdC ++ List.replicate (r + 1) zer7).length := by rw [List.length_append, List.length_map, HXK.out, List.length_replicate]; omega
        have HKL := Lib.hid hkl
        clear hkl
        go_wp2_with (refine wpList_storeW (by rfl) _ _ _ (by rfl) _ (by rfl) g 28 k 7 (by simp) _ (by rfl) (sdC ⟨⟨⟨zc, zr, zv, zf, zb, zt⟩, zp⟩, ya, yb, yc, yd⟩) (by rfl) rfl (by kernel_rfl) (sdC_ones _) _ HR3.out row7_len HKL.out ?_)
        have HSN := set_next sdC zer7 X ⟨⟨⟨zc, zr, zv, zf, zb, zt⟩, zp⟩, ya, yb, yc, yd⟩ r
        rw [HXK.out] at HSN
        rw [HSN]
        have HR4 : Hid (RowE (w3.setRow g ((X ++ [(⟨⟨⟨zc, zr, zv, zf, zb, zt⟩, zp⟩, ya, yb, yc, yd⟩ : Sd)]).map sdC ++ List.replicate r zer7).flatten.toArray) g 28 _) := RowE.set HR3.out _
        have HT4 : Hid (AllTy (w3.setRow g ((X ++ [(⟨⟨⟨zc, zr, zv, zf, zb, zt⟩, zp⟩, ya, yb, yc, yd⟩ : Sd)]).map sdC ++ List.replicate r zer7).flatten.toArray) _) := HT3.out.setRow HR3.out (by kernel_rfl) (by kernel_rfl)
        have HB4 := Lib.hid (below_setRow HB3.out (Nat.le_of_lt HG.out) ((X ++ [(⟨⟨⟨zc, zr, zv, zf, zb, zt⟩, zp⟩, ya, yb, yc, yd⟩ : Sd)]).map sdC ++ List.replicate r zer7).flatten.toArray)
        have Z4 : Hid ((w3.setRow g ((X ++ [(⟨⟨⟨zc, zr, zv, zf, zb, zt⟩, zp⟩, ya, yb, yc, yd⟩ : Sd)]).map sdC ++ List.replicate r zer7).flatten.toArray).heap[w.heap.size]? = _) := (rowOther (by have := HG.out; omega) _).trans Z3.out
        clear HSN
        generalize w3.setRow g ((X ++ [(⟨⟨⟨zc, zr, zv, zf, zb, zt⟩, zp⟩, ya, yb, yc, yd⟩ : Sd)]).map sdC ++ List.replicate r zer7).flatten.toArray = w4 at *
        go_wp2_with fail
        go_roundw
        case rel => exact ⟨k + 1, X ++ [(⟨⟨⟨zc, zr, zv, zf, zb, zt⟩, zp⟩, ya, yb, yc, yd⟩ : Sd)], by omega, by rw [List.length_append, HXK.out, List.length_singleton], by go_num, by show RowE _ _ _ _; rw [List.length_append, List.length_singleton, ← HRR.out]; exact HR4.out, HT4.out, by show _ = _; rw [List.map_append, HX.out, HN.out]; rfl, Z4.out, HB4.out⟩
        case measure => simp [intOf]; omega
    · have hi1 : ¬ (k : Int) < (L.length : Int) := by omega
      have HN : Hid ((X.map fun z => z.x) = D) := by
        show _ = _
        rw [HX.out, List.take_of_length_le (by have := HDL.out; omega)]
      have HXL : Hid (X.length = L.length) := by show _ = _; omega
      go_wp2_with fail
      go_ret
      rw [← HN.out]
      exact row_sd_end HR.out HXL.out (by unfold maxLen; omega) HT.out HB.out

end Go.Proofs.YthhlcecojeaalaaDoor
end

/-
  Package variant: its table; a fault, what a number may be; the encoder's parts.
-/
section
namespace Go.Proofs.YthhlcecojeaalaaDoor
open Go.RowKit
set_option linter.unusedSimpArgs false

def spaVs : List Value := [.int .i64 1, .int .i64 0, .int .i64 4, .int .i64 4, .int .i64 5, .int .i64 0, .int .i64 253402300799, .int .i64 3, .int .i64 2, .int .i64 200, .int .i64 599, .int .i64 3, .int .i64 1, .int .i64 0, .int .i64 1, .int .i64 3, .int .i64 1, .int .i64 0, .int .i64 64, .int .i64 4]
/-- The package's table. -/
def VntTabs (w : World) : Prop := w.var? Tryd.prog "depot/variant.spans" = some spaVs.toArray
theorem VntTabs.kept {w w' : World} (h : VntTabs w) (hb : Below w.heap.size w w') : VntTabs w' := var_below h hb
/-- Row i of the table: how many bytes, from what to what, the fault otherwise. -/
def SpA (w : World) (i k : Nat) (lo hi er : Int) : Prop :=
  w.cell? ⟨0, i * 4, none⟩ = some (.int .i64 k) ∧ w.cell? ⟨0, i * 4 + 1, none⟩ = some (.int .i64 lo) ∧ w.cell? ⟨0, i * 4 + 2, none⟩ = some (.int .i64 hi) ∧ w.cell? ⟨0, i * 4 + 3, none⟩ = some (.int .i64 er)
theorem VntTabs.at_ {w : World} (h : VntTabs w) (j : Nat) (u : Value) (hu : spaVs[j]? = some u) : w.cell? ⟨0, j, none⟩ = some u := by
  rw [World.var?_cell (by kernel_rfl) h j]
  simpa using hu
theorem VntTabs.s0 {w : World} (h : VntTabs w) : SpA w 0 1 0 4 4 := ⟨h.at_ 0 _ rfl, h.at_ 1 _ rfl, h.at_ 2 _ rfl, h.at_ 3 _ rfl⟩
theorem VntTabs.s1 {w : World} (h : VntTabs w) : SpA w 1 5 0 253402300799 3 := ⟨h.at_ 4 _ rfl, h.at_ 5 _ rfl, h.at_ 6 _ rfl, h.at_ 7 _ rfl⟩
theorem VntTabs.s2 {w : World} (h : VntTabs w) : SpA w 2 2 200 599 3 := ⟨h.at_ 8 _ rfl, h.at_ 9 _ rfl, h.at_ 10 _ rfl, h.at_ 11 _ rfl⟩
theorem VntTabs.s3 {w : World} (h : VntTabs w) : SpA w 3 1 0 1 3 := ⟨h.at_ 12 _ rfl, h.at_ 13 _ rfl, h.at_ 14 _ rfl, h.at_ 15 _ rfl⟩
theorem VntTabs.s4 {w : World} (h : VntTabs w) : SpA w 4 1 0 64 4 := ⟨h.at_ 16 _ rfl, h.at_ 17 _ rfl, h.at_ 18 _ rfl, h.at_ 19 _ rfl⟩

theorem found_any (c : Int) (w : World) :
    Calls Tryd.prog 35 #[.agg #[.int .i64 c]] w fun e w' => e = .returned (.bool (!(c == 0))) ∧ Below w.heap.size w w' := by
  have HB : Hid (Below w.heap.size w (w.alloc (.cells #[.int .i64 c] 67))) := (Below.refl _ _).alloc (Nat.le_refl _) _
  have hc := zero_one (heap_alloc_new w (.cells #[.int .i64 c] 67))
  by_cases h0 : c = 0
  · subst h0
    go_enter Tryd.func35, Tryd.ntmps35
    go_wp2_with fail
    go_ret
    exact ⟨rfl, HB.out⟩
  · have h1 : (c == 0) = false := by simpa using h0
    have HE : Hid ((!(c == 0)) = true) := by show _ = _; rw [h1]; rfl
    obtain ⟨t, ht⟩ : ∃ t, t = !(c == 0) := ⟨_, rfl⟩
    rw [← ht] at HE ⊢
    clear ht
    go_enter Tryd.func35, Tryd.ntmps35
    go_wp2_with fail
    go_ret
    exact ⟨by rw [HE.out]; rfl, HB.out⟩

theorem allows_any (k : Int) (lo hi er n : Int) (w : World) :
    Calls Tryd.prog 72 #[.agg #[.int .i64 k, .int .i64 lo, .int .i64 hi, .int .i64 er], .int .i64 n] w fun e w' => e = .returned (.bool (decide (lo ≤ n ∧ n ≤ hi))) ∧ Below w.heap.size w w' := by
  have HB : Hid (Below w.heap.size w (w.alloc (.cells #[.int .i64 k, .int .i64 lo, .int .i64 hi, .int .i64 er] 115))) := (Below.refl _ _).alloc (Nat.le_refl _) _
  have hr := heap_alloc_new w (.cells #[.int .i64 k, .int .i64 lo, .int .i64 hi, .int .i64 er] 115)
  obtain ⟨h1, _⟩ := rowAt hr 1 _ rfl
  obtain ⟨h2, _⟩ := rowAt hr 2 _ rfl
  clear hr
  obtain ⟨t, ht⟩ : ∃ t, t = decide (lo ≤ n ∧ n ≤ hi) := ⟨_, rfl⟩
  have HT := Lib.hid ht
  rw [← ht]
  clear ht
  by_cases h0 : lo ≤ n
  · by_cases h3 : n ≤ hi
    · have HD : Hid (t = true) := by show _ = _; rw [HT.out]; simp [h0, h3]
      go_enter Tryd.func72, Tryd.ntmps72
      go_wp2_with fail
      go_ret
      exact ⟨by rw [HD.out]; rfl, HB.out⟩
    · have HD : Hid (t = false) := by show _ = _; rw [HT.out]; simp [h3]
      go_enter Tryd.func72, Tryd.ntmps72
      go_wp2_with fail
      go_ret
      exact ⟨by rw [HD.out]; rfl, HB.out⟩
  · have HD : Hid (t = false) := by show _ = _; rw [HT.out]; simp [h0]
    go_enter Tryd.func72, Tryd.ntmps72
    go_wp2_with fail
    go_ret
    exact ⟨by rw [HD.out]; rfl, HB.out⟩

/-- Block E is an encoder that has gathered x.1, unless the code x.2 tells a fault. -/
def IsE (w : World) (E : Nat) (x : WS) : Prop :=
  ∃ v l, w.heap[E]? = some (.cells #[v, .int .i64 x.2] 69 (0, 0)) ∧ Own8 w (E + 1) 5 v l ∧ (x.2 = 0 → l = x.1)
theorem IsE.lt {w : World} {E : Nat} {x : WS} (h : IsE w E x) : E < w.heap.size := by
  obtain ⟨_, _, h1, _⟩ := h
  exact (Array.getElem?_eq_some_iff.1 h1).1
theorem IsE.below {w w' : World} {E : Nat} {x : WS} (h : IsE w E x) (hb : Below w.heap.size w w') : IsE w' E x := by
  obtain ⟨v, l, h1, h2, h3⟩ := h
  exact ⟨v, l, zero_still hb h1, h2.below hb, h3⟩
theorem IsE.to {w : World} {E : Nat} {x y : WS} (h : IsE w E x) (h1 : x.2 = y.2) (h2 : y.2 = 0 → x.1 = y.1) : IsE w E y := by
  obtain ⟨v, l, a, b, c⟩ := h
  exact ⟨v, l, by rw [← h1]; exact a, b, fun e => (c (h1.trans e)).trans (h2 e)⟩
def partW (m : List UInt8) (code : Int) (x : WS) : WS := if x.2 ≠ 0 then x else (x.1 ++ m, code)
/-- What lies below E is as it was, and so are all other blocks but E's own and rows of bytes. -/
structure Chg (E : Nat) (w w' : World) : Prop where
  b : Below E w w'
  f : ∀ k t cs, w.heap[k]? = some (.cells cs t (0, 0)) → k ≠ E → (t == 5) = false → w'.heap[k]? = w.heap[k]?
theorem Chg.trans {E : Nat} {w w1 w2 : World} (h : Chg E w w1) (h' : Chg E w1 w2) : Chg E w w2 :=
  ⟨h.b.trans h'.b, fun k t cs hk hE ht => by
    have e1 := h.f k t cs hk hE ht
    exact (h'.f k t cs (e1.trans hk) hE ht).trans e1⟩
theorem Chg.of_below {E : Nat} {w w' : World} (h : Below w.heap.size w w') (hE : E ≤ w.heap.size) : Chg E w w' :=
  ⟨h.mono hE, fun k _ _ hk _ _ => h.block k (Array.getElem?_eq_some_iff.1 hk).1⟩
theorem Chg.refl {E : Nat} (w : World) : Chg E w w := ⟨Below.refl _ _, fun _ _ _ _ _ _ => rfl⟩
/-- A call on the encoder: what it answers, what the encoder is then, what else has changed. -/
def Enc (E : Nat) (v : Value) (x : WS) (w : World) (e : Ending) (w' : World) : Prop := e = .returned v ∧ IsE w' E x ∧ Chg E w w'
/-- 'append(out, xs...)' on bytes, and which block changes. -/
theorem wpList_append_sl8G {P : Program} {ops : Array Oper} {rest : List Oper} {o : Oper} {a : Act} {w : World} {Q : Exit → Act → World → Prop} (hgd : o.guard = none) (s x : Operand) (t : TypeId)
    (ho : o.op = .call { callee := .builtin .append, args := #[s, x], argTypes := #[t, t] }) (base e : Nat) (ht : P.underlying t = some (.slice e))
    (hI : (P.info? e).map (fun i => (i.zero, i.size, i.bytes)) = some (some (.int .u8 0), 1, 1)) (v : Value) (hs : a.eval s = v) (X : List UInt8) (hown : Own8 w base e v X)
    (A : Option Addr) (m c : Nat) (hx : a.eval x = .slice A m c) (Y : List UInt8) (hY : Sl8 w A m c Y) (hlen : X.length + Y.length ≤ 1000000000) (hbase : base ≤ w.heap.size)
    (h : ∀ v' w', Hid (Own8 w' base e v' (X ++ Y)) → Below base w w' → Hid (∀ k, k < w.heap.size → some k ≠ v.ownBlock → w'.heap[k]? = w.heap[k]?) → wpList P ops Q rest (a.put o.dst v') w') : wpList P ops Q (o :: rest) a w := by
  obtain ⟨i0, hi, hz0, hz1, hz2⟩ := info_parts hI
  rcases A with _ | ad
  · obtain ⟨rfl, rfl, rfl⟩ := hY.none_eq
    refine wpList_append_own_none hgd s x t ho base e i0 1 ht hi v _ _ hs hown hx ?_
    exact h v w (by rw [List.append_nil]; exact hown) (Below.refl _ _) fun _ _ _ => rfl
  · have hl := hY.len
    refine wpList_append_own w hgd s x t ho base e i0 (.int .u8 0) 1 1 ht hi hz0 hz1 hz2 rfl (by decide) v _ _ hs hown ad m c (Y.map byV) hx (by rw [List.length_map, hl, Nat.mul_one]) hY.news (byV_ones _) (by unfold maxLen; omega) (by omega) hbase ?_
    intro v' w' hown' hgrow _
    refine h v' w' ?_ ((Below.refl _ _).grown hgrow hbase (fun k hk => (hown.lt k hk).1)) fun k hk hv => hgrow.block k hk hv
    show World.ownsRow _ _ _ _ _ _ _
    rw [List.length_append, hl, List.map_append]
    exact hown'

set_option maxHeartbeats 4000000 in
set_option maxRecDepth 100000 in
theorem part_any (E : Nat) (x : WS) (A : Option Addr) (n c : Nat) (m : List UInt8) (code : Int) (w : World) (h : IsE w E x) (hm : Sl8 w A n c m) (hx : x.2 = 0 → x.1.length + m.length ≤ 1000000000) :
    Calls Tryd.prog 73 #[.pointer (some ⟨E, 0, none⟩), .slice A n c, .int .i64 code] w (Enc E (.tuple #[]) (partW m code x) w) := by
  obtain ⟨l, er⟩ := x
  obtain ⟨v, l', hg, ho, hl⟩ := h
  simp only at hg hl hx
  obtain ⟨d0, f0⟩ := rowAt hg 0 _ rfl
  obtain ⟨d1, f1⟩ := rowAt hg 1 _ rfl
  have hE := (Array.getElem?_eq_some_iff.1 hg).1
  have C := Lib.hid (found_any er w)
  by_cases h0 : er = 0
  · subst h0
    obtain rfl := hl rfl
    have HX : Hid (l'.length + m.length ≤ 1000000000) := hx rfl
    rw [show (!((0 : Int) == 0)) = false from rfl] at C
    have HG := Lib.hid hg
    have HO := Lib.hid ho
    have HM := Lib.hid hm
    have HP : Hid (partW m code (l', 0) = (l' ++ m, code)) := by show _ = _; unfold partW; rw [if_neg (by simp)]
    clear hl hx hg ho hm
    go_enter Tryd.func73, Tryd.ntmps73
    go_wp2_with fail
    refine C.out.mono ?_
    rintro e w1 ⟨rfl, hb1⟩
    clear C d0 f0 d1 f1
    have HG1 := Lib.hid (zero_still hb1 HG.out)
    have HO1 := Lib.hid (HO.out.below hb1)
    have HM1 := Lib.hid (HM.out.below hb1)
    have HB1 := Lib.hid hb1
    have hE1 : E + 1 ≤ w1.heap.size := by have := hb1.size; omega
    have HE1 := Lib.hid hE1
    obtain ⟨d0, f0⟩ := rowAt HG1.out 0 _ rfl
    obtain ⟨d1, f1⟩ := rowAt HG1.out 1 _ rfl
    clear hb1
    go_upto_region 1 with fail
    go_wp2_with (at_builtin; refine wpList_append_sl8G rfl _ _ _ rfl (E + 1) 5 Tryd.underlying37 (by kernel_rfl) _ rfl l' HO1.out _ _ _ rfl m HM1.out HX.out HE1.out ?_; intro v2 w2 ho2 hb2 hz2; obtain ⟨A2, c2, rfl, hS2⟩ := ho2.out.sl8; clear hS2; generalize (l' ++ m).length = q at *; have HG2 := Lib.hid ((hb2.block E (by omega)).trans HG1.out); obtain ⟨d2, f2⟩ := rowAt HG2.out 0 _ rfl; obtain ⟨d3, f3⟩ := rowAt HG2.out 1 _ rfl; clear d0 f0 d1 f1)
    go_end0
    rw [HP.out]
    have HG3 := w_set1 (w_set0 HG2.out (.slice A2 q c2)) (.int .i64 code)
    have hb3 : Below E w2 ((w2.setCell ⟨E, 0, none⟩ (.slice A2 q c2)).setCell ⟨E, 1, none⟩ (.int .i64 code)) := ((Below.refl E w2).setCell (p := ⟨E, 0, none⟩) (Nat.le_refl _) _).setCell (p := ⟨E, 1, none⟩) (Nat.le_refl _) _
    refine ⟨rfl, ⟨_, l' ++ m, HG3, ?_, fun _ => rfl⟩, ((Chg.of_below HB1.out (Nat.le_of_lt hE)).trans ⟨hb2.mono (by omega), fun k t cs hk _ ht => hz2.out k (Array.getElem?_eq_some_iff.1 hk).1 fun q => ?_⟩).trans ⟨hb3, fun k t cs hk hne _ => (setOther hne).trans (setOther hne)⟩⟩
    rotate_left
    · obtain ⟨cur, hc⟩ := ownBlock_row HO1.out q.symm
      rw [hk] at hc
      simp only [Option.some.injEq, Obj.cells.injEq] at hc
      rw [hc.2.1] at ht
      simp at ht
    exact (own_but ho2.out (Nat.lt_succ_self E) (((ButB.refl E w2).setCell 0 _).setCell 1 _))
  · have h1 : (er == 0) = false := by simpa using h0
    rw [h1] at C
    have HG := Lib.hid hg
    have HO := Lib.hid ho
    have HP : Hid (partW m code (l, er) = (l, er)) := by show _ = _; unfold partW; rw [if_pos (by simpa using h0)]
    have HL := Lib.hid hl
    clear hl hx hg ho hm h0 h1
    go_enter Tryd.func73, Tryd.ntmps73
    go_wp2_with fail
    refine C.out.mono ?_
    rintro e w1 ⟨rfl, hb1⟩
    go_wp2_with fail
    go_end0
    rw [HP.out]
    exact ⟨rfl, IsE.below ⟨v, l', HG.out, HO.out, HL.out⟩ hb1, Chg.of_below hb1 (Nat.le_of_lt hE)⟩

end Go.Proofs.YthhlcecojeaalaaDoor
end
