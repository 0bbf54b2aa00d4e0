/-
  Texts that the laws of this seat lean on, one behind the other.
-/
import Derived.Test.YtfmaaghmbnhikaaGreatDoorMrgAI
/-
  Contracts of the reference's Parse, Asked (layer 13).
-/
section
namespace Go.Proofs.YtfmaaghmbnhikaaGreatDoor
open Go.RowKit

theorem has_map (D : List Dv) (nm : ByteArray) : hsN (D.map (·.1)) nm = hasD D nm := by
  unfold hsN hasD
  rw [List.any_map]
  rfl
theorem unqR_le : ∀ (l : List UInt8) (q : Nat) (t r : List UInt8), unqR q t l = some r → r.length ≤ t.length + l.length
  | [], q, t, r, h => by simp [unqR] at h
  | c :: l, q, t, r, h => by
    unfold unqR at h
    rw [List.length_cons]
    split at h
    · split at h
      · have e : t = r := by simpa using h
        rw [e]; omega
      · cases h
    · split at h
      · have := unqR_le l _ _ _ h
        omega
      · have := unqR_le l _ _ _ h
        rw [List.length_append, List.length_singleton] at this
        omega
theorem unqO_le (l : List UInt8) : (unqO l).length ≤ l.length := by
  unfold unqO
  cases l with
  | nil => exact Nat.zero_le _
  | cons c l =>
    cases e : unqL (c :: l) with
    | none => exact Nat.zero_le _
    | some r =>
      show r.length ≤ _
      have e2 : (if c = 34 then unqR 1 [] l else none) = some r := e
      by_cases hc : c = 34
      · rw [if_pos hc] at e2
        have := unqR_le _ _ _ _ e2
        simp only [List.length_nil] at this
        rw [List.length_cons]; omega
      · rw [if_neg hc] at e2; cases e2
theorem par_sz (s : ByteArray) : (parV s).size ≤ s.size := by
  unfold parV
  split
  · unfold valO
    split
    · exact flZ_le s 61
    · rw [mkS_size]
      exact Nat.le_trans (unqO_le _) (by rw [← Lib.size_eq]; exact flZ_le s 61)
  · exact Nat.zero_le _
theorem dvs_vals {V : List (List UInt8)} (h : ∀ v ∈ V, v.length ≤ 10000) : ∀ d ∈ dvs V, d.2.length ≤ 1000000 := fun d hd => by
  unfold dvs at hd
  obtain ⟨v, hv, hd2⟩ := List.mem_flatMap.1 hd
  unfold dvV at hd2
  obtain ⟨e, he, hd3⟩ := List.mem_filterMap.1 hd2
  have hz := (spl_sz (h v hv)).2 e he
  unfold dvO at hd3
  split at hd3
  · simp only [Option.some.injEq] at hd3
    rw [← hd3]
    show (parV (mkS e)).data.toList.length ≤ _
    rw [← Lib.size_eq]
    have h1 : (parV (mkS e)).size ≤ (mkS e).size := par_sz _
    rw [mkS_size] at h1
    omega
  · cases hd3

theorem all_small {L : List Fd} {nm : ByteArray} (hB : ∀ x ∈ L, x.2.size ≤ 10000) : ∀ v ∈ fdAll L nm, v.length ≤ 10000 := fun x hx => by
  unfold fdAll at hx
  obtain ⟨y, hy, rfl⟩ := List.mem_map.1 hx
  rw [← Lib.size_eq]
  exact hB y (List.mem_filter.1 hy).1
theorem all_many {L : List Fd} {nm : ByteArray} {n : Nat} (h : L.length ≤ n) : (fdAll L nm).length ≤ n := by
  unfold fdAll
  rw [List.length_map]
  exact Nat.le_trans (List.length_filter_le _ _) h

set_option maxHeartbeats 16000000 in
set_option maxRecDepth 100000 in
theorem r_ctlParse (A : Option Addr) (n c : Nat) (L : List Fd) (w : World) (h : SlF w A n c L) (hn : n ≤ 1000) (hB : ∀ x ∈ L, x.2.size ≤ 10000) :
    Calls Tryz.prog 35 #[.slice A n c] w fun e w' => e = .returned (.agg (ctC (ctP L))) ∧ Below w.heap.size w w' := by
  have C1 := Lib.hid (fun W (hW : Below w.heap.size w W) => r_elements A n c L W (h.below hW) hn hB)
  have hdv := dvs_vals (all_small (nm := ccS) hB)
  have hlen : (dvs (fdAll L ccS)).length ≤ 1000000000 := by
    refine Nat.le_trans (dvs_len _ (all_small hB)) ?_
    have := all_many (L := L) (nm := ccS) (n := 1000) (by rw [h.len]; exact hn)
    omega
  have hD : ctP L = ctD (dvs (fdAll L ccS)) (fnV (fdAll L ccS)) := rfl
  rw [hD]
  clear hD
  generalize dvs (fdAll L ccS) = D at *
  generalize fnV (fdAll L ccS) = fine at *
  have Cns := Lib.hid (fun W A c (hW : SlS W A D.length c (D.map (·.1))) => r_has13 A D.length c (D.map (·.1)) nsS W hW hlen)
  have Cnsv := Lib.hid (has_map D nsS)
  have Cnc := Lib.hid (fun W A c (hW : SlS W A D.length c (D.map (·.1))) => r_has13 A D.length c (D.map (·.1)) ncS W hW hlen)
  have Cncv := Lib.hid (has_map D ncS)
  have Cpv := Lib.hid (fun W A c (hW : SlS W A D.length c (D.map (·.1))) => r_has13 A D.length c (D.map (·.1)) pvS W hW hlen)
  have Cpvv := Lib.hid (has_map D pvS)
  have Cpu := Lib.hid (fun W A c (hW : SlS W A D.length c (D.map (·.1))) => r_has13 A D.length c (D.map (·.1)) puS W hW hlen)
  have Cpuv := Lib.hid (has_map D puS)
  have Cmr := Lib.hid (fun W A c (hW : SlS W A D.length c (D.map (·.1))) => r_has13 A D.length c (D.map (·.1)) mrS W hW hlen)
  have Cmrv := Lib.hid (has_map D mrS)
  have Cxr := Lib.hid (fun W A c (hW : SlS W A D.length c (D.map (·.1))) => r_has13 A D.length c (D.map (·.1)) xrS W hW hlen)
  have Cxrv := Lib.hid (has_map D xrS)
  have Coi := Lib.hid (fun W A c (hW : SlS W A D.length c (D.map (·.1))) => r_has13 A D.length c (D.map (·.1)) oiS W hW hlen)
  have Coiv := Lib.hid (has_map D oiS)
  have Cma := Lib.hid (fun W A B c d (hW : SlS W A D.length c (D.map (·.1))) (hW2 : SlS W B D.length d (D.map (·.2))) => r_lstS A B D.length c d D maS W hW hW2 hlen hdv)
  have Csm := Lib.hid (fun W A B c d (hW : SlS W A D.length c (D.map (·.1))) (hW2 : SlS W B D.length d (D.map (·.2))) => r_lstS A B D.length c d D smS W hW hW2 hlen hdv)
  have Cmf := Lib.hid (fun W A B c d (hW : SlS W A D.length c (D.map (·.1))) (hW2 : SlS W B D.length d (D.map (·.2))) => r_grtS A B D.length c d D mfS W hW hW2 hlen hdv)
  have hctd : ctC (ctD D fine) = #[.bool (!fine || hasD D nsS), .bool (!fine || hasD D ncS), .bool (hasD D pvS), .bool (hasD D puS), .bool (hasD D mrS || hasD D xrS), .bool (hasD D oiS), .int .i64 (D.foldl (lstS maS) (-1)), .int .i64 (D.foldl (lstS smS) (-1)), .int .i64 (D.foldl (grtS mfS) (-1))] := rfl
  rw [hctd]
  clear hctd h hB hn hlen hdv
  generalize hsN (D.map (·.1)) nsS = hnsS at *
  generalize hsN (D.map (·.1)) ncS = hncS at *
  generalize hsN (D.map (·.1)) pvS = hpvS at *
  generalize hsN (D.map (·.1)) puS = hpuS at *
  generalize hsN (D.map (·.1)) mrS = hmrS at *
  generalize hsN (D.map (·.1)) xrS = hxrS at *
  generalize hsN (D.map (·.1)) oiS = hoiS at *
  generalize hasD D nsS = ns at *
  generalize hasD D ncS = nc at *
  generalize hasD D pvS = pv at *
  generalize hasD D puS = pu at *
  generalize hasD D mrS = mr at *
  generalize hasD D xrS = xr at *
  generalize hasD D oiS = oi at *
  generalize hma : D.foldl (lstS maS) (-1) = ma at *
  generalize hsm : D.foldl (lstS smS) (-1) = sm at *
  generalize hmf : D.foldl (grtS mfS) (-1) = mf at *
  unfold nsS ncS pvS puS mrS xrS oiS maS smS mfS at *
  have HZ : Hid ((w.alloc (.cells #[.bool false, .bool false, .bool false, .bool false, .bool false, .bool false, .int .i64 0, .int .i64 0, .int .i64 0] 45)).heap[w.heap.size]? = some (.cells #[.bool false, .bool false, .bool false, .bool false, .bool false, .bool false, .int .i64 0, .int .i64 0, .int .i64 0] 45 (0, 0))) := heap_alloc_new w _
  have HB : Hid (Below w.heap.size w (w.alloc (.cells #[.bool false, .bool false, .bool false, .bool false, .bool false, .bool false, .int .i64 0, .int .i64 0, .int .i64 0] 45))) := (Below.refl _ _).alloc (Nat.le_refl _) _
  cases fine with
  | true =>
    cases mr with
    | true =>
      have HR : Hid ((#[.bool (!true || ns), .bool (!true || nc), .bool pv, .bool pu, .bool (true || xr), .bool oi, .int .i64 ma, .int .i64 sm, .int .i64 mf] : Array Value) = #[.bool ns, .bool nc, .bool pv, .bool pu, .bool true, .bool oi, .int .i64 ma, .int .i64 sm, .int .i64 mf]) := rfl
      go_enter Tryz.func35, Tryz.ntmps35
      go_wp2_with fail
      refine (C1.out _ HB.out).mono ?_
      rintro e w1 ⟨A1, c1, A2, c2, rfl, hA1, hA2, hb⟩
      have HZ1 := Lib.hid (zero_still hb HZ.out)
      have HB1 := Lib.hid (below_then HB.out hb)
      have HA := Lib.hid hA1
      have HB2 := Lib.hid hA2
      clear hb hA1 hA2
      go_wp2_with fail
      refine (Cns.out _ _ _ HA.out).mono ?_
      rintro e w2 ⟨he, rfl⟩
      rw [Cnsv.out] at he
      subst he
      go_wp2_with fail
      refine (Cnc.out _ _ _ HA.out).mono ?_
      rintro e w2 ⟨he, rfl⟩
      rw [Cncv.out] at he
      subst he
      go_wp2_with fail
      refine (Cpv.out _ _ _ HA.out).mono ?_
      rintro e w2 ⟨he, rfl⟩
      rw [Cpvv.out] at he
      subst he
      go_wp2_with fail
      refine (Cpu.out _ _ _ HA.out).mono ?_
      rintro e w2 ⟨he, rfl⟩
      rw [Cpuv.out] at he
      subst he
      go_wp2_with fail
      refine (Cmr.out _ _ _ HA.out).mono ?_
      rintro e w2 ⟨he, rfl⟩
      rw [Cmrv.out] at he
      subst he
      go_wp2_with fail
      refine (Coi.out _ _ _ HA.out).mono ?_
      rintro e w2 ⟨he, rfl⟩
      rw [Coiv.out] at he
      subst he
      go_wp2_with fail
      refine (Cma.out _ _ _ _ _ HA.out HB2.out).mono ?_
      rintro e w2 ⟨rfl, rfl⟩
      go_wp2_with fail
      refine (Csm.out _ _ _ _ _ HA.out HB2.out).mono ?_
      rintro e w2 ⟨rfl, rfl⟩
      go_wp2_with fail
      refine (Cmf.out _ _ _ _ _ HA.out HB2.out).mono ?_
      rintro e w2 ⟨rfl, rfl⟩
      go_wp2_with (refine wpList_store_row rfl _ _ _ rfl w.heap.size #[.bool ns, .bool nc, .bool pv, .bool pu, .bool true, .bool oi, .int .i64 ma, .int .i64 sm, .int .i64 mf] rfl rfl 45 _ HZ1.out (by kernel_rfl) rfl (by simp [Value.oneCell']) ?_)
      refine bodyPost_ret (results_cell_row rfl _ _ w.heap.size 45 #[.bool ns, .bool nc, .bool pv, .bool pu, .bool true, .bool oi, .int .i64 ma, .int .i64 sm, .int .i64 mf] (0, 0) _ rfl (setRow_heap _ _ _ _ _ _ HZ1.out) Tryz.underlying45 rfl (by kernel_rfl)) rfl ?_
      exact ⟨by rw [HR.out], below_setRow HB1.out (Nat.le_refl _) _⟩
    | false =>
      have HR : Hid ((#[.bool (!true || ns), .bool (!true || nc), .bool pv, .bool pu, .bool (false || xr), .bool oi, .int .i64 ma, .int .i64 sm, .int .i64 mf] : Array Value) = #[.bool ns, .bool nc, .bool pv, .bool pu, .bool xr, .bool oi, .int .i64 ma, .int .i64 sm, .int .i64 mf]) := rfl
      go_enter Tryz.func35, Tryz.ntmps35
      go_wp2_with fail
      refine (C1.out _ HB.out).mono ?_
      rintro e w1 ⟨A1, c1, A2, c2, rfl, hA1, hA2, hb⟩
      have HZ1 := Lib.hid (zero_still hb HZ.out)
      have HB1 := Lib.hid (below_then HB.out hb)
      have HA := Lib.hid hA1
      have HB2 := Lib.hid hA2
      clear hb hA1 hA2
      go_wp2_with fail
      refine (Cns.out _ _ _ HA.out).mono ?_
      rintro e w2 ⟨he, rfl⟩
      rw [Cnsv.out] at he
      subst he
      go_wp2_with fail
      refine (Cnc.out _ _ _ HA.out).mono ?_
      rintro e w2 ⟨he, rfl⟩
      rw [Cncv.out] at he
      subst he
      go_wp2_with fail
      refine (Cpv.out _ _ _ HA.out).mono ?_
      rintro e w2 ⟨he, rfl⟩
      rw [Cpvv.out] at he
      subst he
      go_wp2_with fail
      refine (Cpu.out _ _ _ HA.out).mono ?_
      rintro e w2 ⟨he, rfl⟩
      rw [Cpuv.out] at he
      subst he
      go_wp2_with fail
      refine (Cmr.out _ _ _ HA.out).mono ?_
      rintro e w2 ⟨he, rfl⟩
      rw [Cmrv.out] at he
      subst he
      go_wp2_with fail
      refine (Cxr.out _ _ _ HA.out).mono ?_
      rintro e w2 ⟨he, rfl⟩
      rw [Cxrv.out] at he
      subst he
      go_wp2_with fail
      refine (Coi.out _ _ _ HA.out).mono ?_
      rintro e w2 ⟨he, rfl⟩
      rw [Coiv.out] at he
      subst he
      go_wp2_with fail
      refine (Cma.out _ _ _ _ _ HA.out HB2.out).mono ?_
      rintro e w2 ⟨rfl, rfl⟩
      go_wp2_with fail
      refine (Csm.out _ _ _ _ _ HA.out HB2.out).mono ?_
      rintro e w2 ⟨rfl, rfl⟩
      go_wp2_with fail
      refine (Cmf.out _ _ _ _ _ HA.out HB2.out).mono ?_
      rintro e w2 ⟨rfl, rfl⟩
      go_wp2_with (refine wpList_store_row rfl _ _ _ rfl w.heap.size #[.bool ns, .bool nc, .bool pv, .bool pu, .bool xr, .bool oi, .int .i64 ma, .int .i64 sm, .int .i64 mf] rfl rfl 45 _ HZ1.out (by kernel_rfl) rfl (by simp [Value.oneCell']) ?_)
      refine bodyPost_ret (results_cell_row rfl _ _ w.heap.size 45 #[.bool ns, .bool nc, .bool pv, .bool pu, .bool xr, .bool oi, .int .i64 ma, .int .i64 sm, .int .i64 mf] (0, 0) _ rfl (setRow_heap _ _ _ _ _ _ HZ1.out) Tryz.underlying45 rfl (by kernel_rfl)) rfl ?_
      exact ⟨by rw [HR.out], below_setRow HB1.out (Nat.le_refl _) _⟩
  | false =>
    cases mr with
    | true =>
      have HR : Hid ((#[.bool (!false || ns), .bool (!false || nc), .bool pv, .bool pu, .bool (true || xr), .bool oi, .int .i64 ma, .int .i64 sm, .int .i64 mf] : Array Value) = #[.bool true, .bool true, .bool pv, .bool pu, .bool true, .bool oi, .int .i64 ma, .int .i64 sm, .int .i64 mf]) := rfl
      go_enter Tryz.func35, Tryz.ntmps35
      go_wp2_with fail
      refine (C1.out _ HB.out).mono ?_
      rintro e w1 ⟨A1, c1, A2, c2, rfl, hA1, hA2, hb⟩
      have HZ1 := Lib.hid (zero_still hb HZ.out)
      have HB1 := Lib.hid (below_then HB.out hb)
      have HA := Lib.hid hA1
      have HB2 := Lib.hid hA2
      clear hb hA1 hA2
      go_wp2_with fail
      refine (Cpv.out _ _ _ HA.out).mono ?_
      rintro e w2 ⟨he, rfl⟩
      rw [Cpvv.out] at he
      subst he
      go_wp2_with fail
      refine (Cpu.out _ _ _ HA.out).mono ?_
      rintro e w2 ⟨he, rfl⟩
      rw [Cpuv.out] at he
      subst he
      go_wp2_with fail
      refine (Cmr.out _ _ _ HA.out).mono ?_
      rintro e w2 ⟨he, rfl⟩
      rw [Cmrv.out] at he
      subst he
      go_wp2_with fail
      refine (Coi.out _ _ _ HA.out).mono ?_
      rintro e w2 ⟨he, rfl⟩
      rw [Coiv.out] at he
      subst he
      go_wp2_with fail
      refine (Cma.out _ _ _ _ _ HA.out HB2.out).mono ?_
      rintro e w2 ⟨rfl, rfl⟩
      go_wp2_with fail
      refine (Csm.out _ _ _ _ _ HA.out HB2.out).mono ?_
      rintro e w2 ⟨rfl, rfl⟩
      go_wp2_with fail
      refine (Cmf.out _ _ _ _ _ HA.out HB2.out).mono ?_
      rintro e w2 ⟨rfl, rfl⟩
      go_wp2_with (refine wpList_store_row rfl _ _ _ rfl w.heap.size #[.bool true, .bool true, .bool pv, .bool pu, .bool true, .bool oi, .int .i64 ma, .int .i64 sm, .int .i64 mf] rfl rfl 45 _ HZ1.out (by kernel_rfl) rfl (by simp [Value.oneCell']) ?_)
      refine bodyPost_ret (results_cell_row rfl _ _ w.heap.size 45 #[.bool true, .bool true, .bool pv, .bool pu, .bool true, .bool oi, .int .i64 ma, .int .i64 sm, .int .i64 mf] (0, 0) _ rfl (setRow_heap _ _ _ _ _ _ HZ1.out) Tryz.underlying45 rfl (by kernel_rfl)) rfl ?_
      exact ⟨by rw [HR.out], below_setRow HB1.out (Nat.le_refl _) _⟩
    | false =>
      have HR : Hid ((#[.bool (!false || ns), .bool (!false || nc), .bool pv, .bool pu, .bool (false || xr), .bool oi, .int .i64 ma, .int .i64 sm, .int .i64 mf] : Array Value) = #[.bool true, .bool true, .bool pv, .bool pu, .bool xr, .bool oi, .int .i64 ma, .int .i64 sm, .int .i64 mf]) := rfl
      go_enter Tryz.func35, Tryz.ntmps35
      go_wp2_with fail
      refine (C1.out _ HB.out).mono ?_
      rintro e w1 ⟨A1, c1, A2, c2, rfl, hA1, hA2, hb⟩
      have HZ1 := Lib.hid (zero_still hb HZ.out)
      have HB1 := Lib.hid (below_then HB.out hb)
      have HA := Lib.hid hA1
      have HB2 := Lib.hid hA2
      clear hb hA1 hA2
      go_wp2_with fail
      refine (Cpv.out _ _ _ HA.out).mono ?_
      rintro e w2 ⟨he, rfl⟩
      rw [Cpvv.out] at he
      subst he
      go_wp2_with fail
      refine (Cpu.out _ _ _ HA.out).mono ?_
      rintro e w2 ⟨he, rfl⟩
      rw [Cpuv.out] at he
      subst he
      go_wp2_with fail
      refine (Cmr.out _ _ _ HA.out).mono ?_
      rintro e w2 ⟨he, rfl⟩
      rw [Cmrv.out] at he
      subst he
      go_wp2_with fail
      refine (Cxr.out _ _ _ HA.out).mono ?_
      rintro e w2 ⟨he, rfl⟩
      rw [Cxrv.out] at he
      subst he
      go_wp2_with fail
      refine (Coi.out _ _ _ HA.out).mono ?_
      rintro e w2 ⟨he, rfl⟩
      rw [Coiv.out] at he
      subst he
      go_wp2_with fail
      refine (Cma.out _ _ _ _ _ HA.out HB2.out).mono ?_
      rintro e w2 ⟨rfl, rfl⟩
      go_wp2_with fail
      refine (Csm.out _ _ _ _ _ HA.out HB2.out).mono ?_
      rintro e w2 ⟨rfl, rfl⟩
      go_wp2_with fail
      refine (Cmf.out _ _ _ _ _ HA.out HB2.out).mono ?_
      rintro e w2 ⟨rfl, rfl⟩
      go_wp2_with (refine wpList_store_row rfl _ _ _ rfl w.heap.size #[.bool true, .bool true, .bool pv, .bool pu, .bool xr, .bool oi, .int .i64 ma, .int .i64 sm, .int .i64 mf] rfl rfl 45 _ HZ1.out (by kernel_rfl) rfl (by simp [Value.oneCell']) ?_)
      refine bodyPost_ret (results_cell_row rfl _ _ w.heap.size 45 #[.bool true, .bool true, .bool pv, .bool pu, .bool xr, .bool oi, .int .i64 ma, .int .i64 sm, .int .i64 mf] (0, 0) _ rfl (setRow_heap _ _ _ _ _ _ HZ1.out) Tryz.underlying45 rfl (by kernel_rfl)) rfl ?_
      exact ⟨by rw [HR.out], below_setRow HB1.out (Nat.le_refl _) _⟩

theorem ct_set {W : World} {g t : Nat} {c0 c1 c2 c3 c4 c5 c6 c7 c8 b : Value} (h : W.heap[g]? = some (.cells #[c0, c1, c2, c3, c4, c5, c6, c7, c8] t (0, 0))) : (W.setCell ⟨g, 1, none⟩ b).heap[g]? = some (.cells #[c0, b, c2, c3, c4, c5, c6, c7, c8] t (0, 0)) := by
  simp [World.setCell, Array.getElem?_modify, h]
theorem ct_set_other {W : World} {g k : Nat} {b : Value} {o : Obj} (hk : k ≠ g) (h : W.heap[k]? = some o) : (W.setCell ⟨g, 1, none⟩ b).heap[k]? = some o := by
  simp [World.setCell, Array.getElem?_modify, h, Ne.symm hk]
theorem prS_le : prS.size ≤ maxLen := by decide
theorem ncS_le : ncS.size ≤ maxLen := by decide
end Go.Proofs.YtfmaaghmbnhikaaGreatDoor
end
