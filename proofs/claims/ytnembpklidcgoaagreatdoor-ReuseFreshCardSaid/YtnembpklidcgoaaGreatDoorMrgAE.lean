/-
  Texts that the laws of this seat lean on, one behind the other.
-/
import Derived.Test.YtnembpklidcgoaaGreatDoorMrgAD
import Derived.Test.YtnembpklidcgoaaGreatDoorMrgT
import Derived.Test.YtnembpklidcgoaaGreatDoorMrgAA
import Derived.Test.YtnembpklidcgoaaGreatDoorMrgK
/-
  Contracts of package control's Parse and Asked.
-/
section
namespace Go.Proofs.YtnembpklidcgoaaGreatDoor
open Go.RowKit

theorem ctP_fold (L : List Fd) : ctP L = if fnV (fdAll L ccS) = true then (dvs (fdAll L ccS)).foldl stepC ct0 else { (dvs (fdAll L ccS)).foldl stepC ct0 with ns := true, nc := true } := ctD_fold _ _
set_option maxHeartbeats 16000000 in
set_option maxRecDepth 100000 in
theorem ctlP_any (A : Option Addr) (n c : Nat) (L : List Fd) (w : World) (h : SlF w A n c L) (hn : n ≤ 1000) (hB : ∀ x ∈ L, x.2.size ≤ 10000) (hBd : ∀ x ∈ L, Bd x) :
    Calls Tryz.prog 23 #[.slice A n c] w fun e w' => e = .returned (.agg (ctC (ctP L))) ∧ Below w.heap.size w w' := by
  have HZ : Hid ((w.alloc (.cells #[.bool false, .bool false, .bool false, .bool false, .bool false, .bool false, .int .i64 0, .int .i64 0, .int .i64 0] 44)).heap[w.heap.size]? = some (.cells #[.bool false, .bool false, .bool false, .bool false, .bool false, .bool false, .int .i64 0, .int .i64 0, .int .i64 0] 44 (0, 0))) := heap_alloc_new w _
  have HB : Hid (Below w.heap.size w (w.alloc (.cells #[.bool false, .bool false, .bool false, .bool false, .bool false, .bool false, .int .i64 0, .int .i64 0, .int .i64 0] 44))) := (Below.refl _ _).alloc (Nat.le_refl _) _
  have hctP := ctP_fold L
  have hVz : ∀ x ∈ fdAll L ccS, x.length ≤ 10000 := fun x hx => by
    unfold fdAll at hx
    obtain ⟨y, hy, rfl⟩ := List.mem_map.1 hx
    rw [← Lib.size_eq]
    exact hB y (List.mem_filter.1 hy).1
  have hVn : (fdAll L ccS).length ≤ 1000 := by
    unfold fdAll
    rw [List.length_map]
    exact Nat.le_trans (List.length_filter_le _ _) (by rw [h.len]; exact hn)
  have CA := Lib.hid (fun W (hW : Below w.heap.size w W) => all_any A n c L ccS W (h.below hW) (by omega) hBd ccS_le)
  unfold ccS at CA
  have hcc : (⟨#[67, 97, 99, 104, 101, 45, 67, 111, 110, 116, 114, 111, 108]⟩ : ByteArray) = ccS := rfl
  generalize hV : fdAll L ccS = V at *
  rw [hcc, hV] at CA
  unfold ccS at CA
  clear hcc hV
  obtain ⟨Z, hZ⟩ : ∃ Z, Z = ctP L := ⟨_, rfl⟩
  rw [← hZ] at hctP ⊢
  have HCT := Lib.hid hctP
  have CV := Lib.hid (fun (A' : Option Addr) d R D W hS hh hR => visit_any A' V.length d V R D ct0 W hS hh hR hVn hVz)
  generalize (dvs V).foldl stepC ct0 = cf at *
  clear hctP hZ h hn hB hBd hVz
  have mixed : Tryz.prog.follows .mixedOrders = true := by kernel_rfl
  go_enter Tryz.func23, Tryz.ntmps23
  go_wp2_with fail
  refine (dirs_any _).mono ?_
  rintro e w1 ⟨D, hD0, hD1, rfl, hT, hb1⟩
  have HZ1 := Lib.hid (zero_still hb1 HZ.out)
  have HB1 := Lib.hid (below_then HB.out hb1)
  have HT1 := Lib.hid hT
  have HD1 := Lib.hid hD1
  clear hb1 hT hD0 hD1
  go_wp2_with fail
  have HBA := Lib.hid (HB1.out.alloc HB1.out.size (.cells (rdC D ct0) 73))
  refine (CA.out _ HBA.out).mono ?_
  rintro e w2 ⟨A1, c1, rfl, hS2, hh2, hb2⟩
  have hR0 : CtRdr (w1.alloc (.cells (rdC D ct0) 73)) w1.heap.size D ct0 := ⟨heap_alloc_new w1 _, fun j x hx => Lib.cell?_alloc_some _ (HT1.out j x hx), Nat.ne_of_lt HD1.out⟩
  have HR2 := Lib.hid (hR0.below hb2)
  have HZ2 := Lib.hid (zero_still hb2 (zero_more HZ1.out))
  have HB2 := Lib.hid (below_then HBA.out hb2)
  have HS2 := Lib.hid hS2
  have HH2 := Lib.hid hh2
  clear hR0 hb2 hS2 hh2
  go_wp2_with fail
  refine (CV.out A1 c1 _ D _ HS2.out HH2.out HR2.out).mono ?_
  rintro e w3 ⟨rfl, hR3, hbt⟩
  have hP : w.heap.size < w1.heap.size := (Array.getElem?_eq_some_iff.1 HZ1.out).1
  have HZ3 := Lib.hid ((hbt.block _ (Array.getElem?_eq_some_iff.1 HZ2.out).1 (Nat.ne_of_lt hP)).trans HZ2.out)
  have HB3 := Lib.hid (HB2.out.trans (hbt.below HB2.out.size (Nat.le_of_lt hP)))
  have HP := Lib.hid hP
  generalize w1.heap.size = R at *
  obtain ⟨ns, nc, pv, pu, mc, oi, ma, sh, mf⟩ := cf
  have row : w3.heap[R]? = some (.cells #[.slice (some ⟨D, 0, none⟩) 10 10, .bool ns, .bool nc, .bool pv, .bool pu, .bool mc, .bool oi, .int .i64 ma, .int .i64 sh, .int .i64 mf] 73 (0, 0)) := hR3.row
  have ROW := Lib.hid row
  clear hbt hR3 hP row CV CA HR2 HS2 HH2 HZ2 HB2 HBA HZ1 HB1 HT1 HD1 HB HZ
  cases hf : fnV V with
  | true =>
    rw [hf] at HCT
    rw [if_pos rfl] at HCT
    obtain ⟨k1, f1⟩ := ctRd_at ROW.out 1 _ rfl
    obtain ⟨k2, f2⟩ := ctRd_at ROW.out 2 _ rfl
    obtain ⟨k3, f3⟩ := ctRd_at ROW.out 3 _ rfl
    obtain ⟨k4, f4⟩ := ctRd_at ROW.out 4 _ rfl
    obtain ⟨k5, f5⟩ := ctRd_at ROW.out 5 _ rfl
    obtain ⟨k6, f6⟩ := ctRd_at ROW.out 6 _ rfl
    obtain ⟨k7, f7⟩ := ctRd_at ROW.out 7 _ rfl
    obtain ⟨k8, f8⟩ := ctRd_at ROW.out 8 _ rfl
    obtain ⟨k9, f9⟩ := ctRd_at ROW.out 9 _ rfl
    clear hf
    go_wp2_with (refine wpList_store_row rfl _ _ _ rfl w.heap.size #[.bool ns, .bool nc, .bool pv, .bool pu, .bool mc, .bool oi, .int .i64 ma, .int .i64 sh, .int .i64 mf] rfl rfl 44 _ HZ3.out (by kernel_rfl) rfl (by simp [Value.oneCell']) ?_)
    try simp only [Exit.inBlock, Exit.then]
    refine bodyPost_ret (results_cell_row rfl _ _ w.heap.size 44 #[.bool ns, .bool nc, .bool pv, .bool pu, .bool mc, .bool oi, .int .i64 ma, .int .i64 sh, .int .i64 mf] (0, 0) _ rfl (setRow_heap _ _ _ _ _ _ HZ3.out) Tryz.underlying44 rfl (by kernel_rfl)) rfl ?_
    exact ⟨by rw [HCT.out]; rfl, below_setRow HB3.out (Nat.le_refl _) _⟩
  | false =>
    rw [hf] at HCT
    rw [if_neg (by simp)] at HCT
    obtain ⟨k1, f1⟩ := ctRd_at ROW.out 1 _ rfl
    obtain ⟨k2, f2⟩ := ctRd_at ROW.out 2 _ rfl
    obtain ⟨k3, f3⟩ := ctRd_at ROW.out 3 _ rfl
    obtain ⟨k4, f4⟩ := ctRd_at ROW.out 4 _ rfl
    obtain ⟨k5, f5⟩ := ctRd_at ROW.out 5 _ rfl
    obtain ⟨k6, f6⟩ := ctRd_at ROW.out 6 _ rfl
    obtain ⟨k7, f7⟩ := ctRd_at ROW.out 7 _ rfl
    obtain ⟨k8, f8⟩ := ctRd_at ROW.out 8 _ rfl
    obtain ⟨k9, f9⟩ := ctRd_at ROW.out 9 _ rfl
    have hne : R ≠ w.heap.size := Nat.ne_of_gt HP.out
    have HZ4 : Hid (((w3.setCell ⟨R, 1, none⟩ (.bool true)).setCell ⟨R, 2, none⟩ (.bool true)).heap[w.heap.size]? = some (.cells #[.bool false, .bool false, .bool false, .bool false, .bool false, .bool false, .int .i64 0, .int .i64 0, .int .i64 0] 44 (0, 0))) := by
      show _ = _
      rw [Below.heap_setCell _ _ _ _ (Ne.symm hne), Below.heap_setCell _ _ _ _ (Ne.symm hne)]
      exact HZ3.out
    have HB4 : Hid (Below w.heap.size w ((w3.setCell ⟨R, 1, none⟩ (.bool true)).setCell ⟨R, 2, none⟩ (.bool true))) := (HB3.out.setCell (p := ⟨R, 1, none⟩) (Nat.le_of_lt HP.out) _).setCell (p := ⟨R, 2, none⟩) (Nat.le_of_lt HP.out) _
    clear hf hne
    go_wp2_with (refine wpList_store_row rfl _ _ _ rfl w.heap.size #[.bool true, .bool true, .bool pv, .bool pu, .bool mc, .bool oi, .int .i64 ma, .int .i64 sh, .int .i64 mf] rfl rfl 44 _ HZ4.out (by kernel_rfl) rfl (by simp [Value.oneCell']) ?_)
    try simp only [Exit.inBlock, Exit.then]
    refine bodyPost_ret (results_cell_row rfl _ _ w.heap.size 44 #[.bool true, .bool true, .bool pv, .bool pu, .bool mc, .bool oi, .int .i64 ma, .int .i64 sh, .int .i64 mf] (0, 0) _ rfl (setRow_heap _ _ _ _ _ _ HZ4.out) Tryz.underlying44 rfl (by kernel_rfl)) rfl ?_
    exact ⟨by rw [HCT.out]; rfl, below_setRow HB4.out (Nat.le_refl _) _⟩

set_option maxHeartbeats 16000000 in
set_option maxRecDepth 100000 in
theorem ctlA_any (A : Option Addr) (n c : Nat) (L : List Fd) (w : World) (h : SlF w A n c L) (hn : n ≤ 1000) (hB : ∀ x ∈ L, x.2.size ≤ 10000) (hBd : ∀ x ∈ L, Bd x) :
    Calls Tryz.prog 22 #[.slice A n c] w fun e w' => e = .returned (.agg (ctC (ctA L))) ∧ Below w.heap.size w w' := by
  have HZ : Hid ((w.alloc (.cells #[.bool false, .bool false, .bool false, .bool false, .bool false, .bool false, .int .i64 0, .int .i64 0, .int .i64 0] 44)).heap[w.heap.size]? = some (.cells #[.bool false, .bool false, .bool false, .bool false, .bool false, .bool false, .int .i64 0, .int .i64 0, .int .i64 0] 44 (0, 0))) := heap_alloc_new w _
  have HB : Hid (Below w.heap.size w (w.alloc (.cells #[.bool false, .bool false, .bool false, .bool false, .bool false, .bool false, .int .i64 0, .int .i64 0, .int .i64 0] 44))) := (Below.refl _ _).alloc (Nat.le_refl _) _
  have hVz : ∀ x ∈ fdAll L ccS, x.length ≤ 10000 := fun x hx => by
    unfold fdAll at hx
    obtain ⟨y, hy, rfl⟩ := List.mem_map.1 hx
    rw [← Lib.size_eq]
    exact hB y (List.mem_filter.1 hy).1
  have hVn : (fdAll L ccS).length ≤ 1000 := by
    unfold fdAll
    rw [List.length_map]
    exact Nat.le_trans (List.length_filter_le _ _) (by rw [h.len]; exact hn)
  have hJ : (Lib.join (fdAll L ccS) [44, 32]).length ≤ 1000000000000 := Nat.le_trans (join_le _ 1000 10000 hVn hVz) (by decide)
  have hA : ctA L = if fdGot L ccS = false ∧ fdHas L prS ncS = true then { ctP L with nc := true } else ctP L := by
    unfold ctA fdGot
    cases fdAll L ccS <;> simp
  have C1 := Lib.hid (fun W (hW : Below w.heap.size w W) => ctlP_any A n c L W (h.below hW) hn hB hBd)
  have C2 := Lib.hid (fun W (hW : Below w.heap.size w W) => getF_any A n c L ccS W (h.below hW) (by omega) hBd ccS_le hJ)
  have C3 := Lib.hid (fun W (hW : Below w.heap.size w W) => hasF_any A n c L prS ncS W (h.below hW) (by omega) hBd (by decide) (by decide))
  generalize fdGot L ccS = got at *
  generalize fdGet L ccS = gtt at *
  generalize fdHas L prS ncS = has at *
  generalize ctP L = P at *
  unfold ccS at C2
  unfold prS ncS at C3
  obtain ⟨Z, hZ⟩ : ∃ Z, Z = ctA L := ⟨_, rfl⟩
  rw [← hZ] at hA ⊢
  have HA := Lib.hid hA
  clear h hn hB hBd hVz hVn hJ hA hZ
  obtain ⟨ns, nc, pv, pu, mc, oi, ma, sh, mf⟩ := P
  unfold ctC at C1
  simp only at C1
  go_enter Tryz.func22, Tryz.ntmps22
  go_wp2_with fail
  refine (C1.out _ HB.out).mono ?_
  rintro e w1 ⟨rfl, hb1⟩
  have HZ1 := Lib.hid (zero_still hb1 HZ.out)
  have HB1 := Lib.hid (below_then HB.out hb1)
  clear hb1 C1
  go_wp2_with fail
  have HBA := Lib.hid (HB1.out.alloc HB1.out.size (.cells #[.bool ns, .bool nc, .bool pv, .bool pu, .bool mc, .bool oi, .int .i64 ma, .int .i64 sh, .int .i64 mf] 44))
  refine (C2.out _ HBA.out).mono ?_
  rintro e w2 ⟨rfl, hb2⟩
  have HC2 : Hid (w2.heap[w1.heap.size]? = some (.cells #[.bool ns, .bool nc, .bool pv, .bool pu, .bool mc, .bool oi, .int .i64 ma, .int .i64 sh, .int .i64 mf] 44 (0, 0))) := zero_still hb2 (heap_alloc_new w1 _)
  have HZ2 := Lib.hid (zero_still hb2 (zero_more HZ1.out))
  have HB2 := Lib.hid (below_then HBA.out hb2)
  have HP := Lib.hid (show w.heap.size < w1.heap.size from (Array.getElem?_eq_some_iff.1 HZ1.out).1)
  clear hb2 C2 HBA HB1 HZ1 HZ HB
  generalize w1.heap.size = R at *
  cases got with
  | true =>
    have HAF : Hid (Z = ⟨ns, nc, pv, pu, mc, oi, ma, sh, mf⟩) := by
      have := HA.out
      rwa [if_neg (by simp)] at this
    obtain ⟨k0, f0⟩ := ctRd_at HC2.out 0 _ rfl
    obtain ⟨k1, f1⟩ := ctRd_at HC2.out 1 _ rfl
    obtain ⟨k2, f2⟩ := ctRd_at HC2.out 2 _ rfl
    obtain ⟨k3, f3⟩ := ctRd_at HC2.out 3 _ rfl
    obtain ⟨k4, f4⟩ := ctRd_at HC2.out 4 _ rfl
    obtain ⟨k5, f5⟩ := ctRd_at HC2.out 5 _ rfl
    obtain ⟨k6, f6⟩ := ctRd_at HC2.out 6 _ rfl
    obtain ⟨k7, f7⟩ := ctRd_at HC2.out 7 _ rfl
    obtain ⟨k8, f8⟩ := ctRd_at HC2.out 8 _ rfl
    clear HA C3
    go_wp2_with (refine wpList_store_row rfl _ _ _ rfl w.heap.size #[.bool ns, .bool nc, .bool pv, .bool pu, .bool mc, .bool oi, .int .i64 ma, .int .i64 sh, .int .i64 mf] rfl rfl 44 _ HZ2.out (by kernel_rfl) rfl (by simp [Value.oneCell']) ?_)
    try simp only [Exit.inBlock, Exit.then]
    refine bodyPost_ret (results_cell_row rfl _ _ w.heap.size 44 #[.bool ns, .bool nc, .bool pv, .bool pu, .bool mc, .bool oi, .int .i64 ma, .int .i64 sh, .int .i64 mf] (0, 0) _ rfl (setRow_heap _ _ _ _ _ _ HZ2.out) Tryz.underlying44 rfl (by kernel_rfl)) rfl ?_
    exact ⟨by rw [HAF.out]; rfl, below_setRow HB2.out (Nat.le_refl _) _⟩
  | false =>
    go_wp2_with fail
    refine (C3.out _ HB2.out).mono ?_
    rintro e w3 ⟨rfl, hb3⟩
    have HC3 := Lib.hid (zero_still hb3 HC2.out)
    have HZ3 := Lib.hid (zero_still hb3 HZ2.out)
    have HB3 := Lib.hid (below_then HB2.out hb3)
    clear hb3 C3 HC2 HZ2 HB2
    cases has with
    | false =>
      have HAF : Hid (Z = ⟨ns, nc, pv, pu, mc, oi, ma, sh, mf⟩) := by
        have := HA.out
        rwa [if_neg (by simp)] at this
      obtain ⟨k0, f0⟩ := ctRd_at HC3.out 0 _ rfl
      obtain ⟨k1, f1⟩ := ctRd_at HC3.out 1 _ rfl
      obtain ⟨k2, f2⟩ := ctRd_at HC3.out 2 _ rfl
      obtain ⟨k3, f3⟩ := ctRd_at HC3.out 3 _ rfl
      obtain ⟨k4, f4⟩ := ctRd_at HC3.out 4 _ rfl
      obtain ⟨k5, f5⟩ := ctRd_at HC3.out 5 _ rfl
      obtain ⟨k6, f6⟩ := ctRd_at HC3.out 6 _ rfl
      obtain ⟨k7, f7⟩ := ctRd_at HC3.out 7 _ rfl
      obtain ⟨k8, f8⟩ := ctRd_at HC3.out 8 _ rfl
      clear HA
      go_wp2_with (refine wpList_store_row rfl _ _ _ rfl w.heap.size #[.bool ns, .bool nc, .bool pv, .bool pu, .bool mc, .bool oi, .int .i64 ma, .int .i64 sh, .int .i64 mf] rfl rfl 44 _ HZ3.out (by kernel_rfl) rfl (by simp [Value.oneCell']) ?_)
      try simp only [Exit.inBlock, Exit.then]
      refine bodyPost_ret (results_cell_row rfl _ _ w.heap.size 44 #[.bool ns, .bool nc, .bool pv, .bool pu, .bool mc, .bool oi, .int .i64 ma, .int .i64 sh, .int .i64 mf] (0, 0) _ rfl (setRow_heap _ _ _ _ _ _ HZ3.out) Tryz.underlying44 rfl (by kernel_rfl)) rfl ?_
      exact ⟨by rw [HAF.out]; rfl, below_setRow HB3.out (Nat.le_refl _) _⟩
    | true =>
      have HAF : Hid (Z = ⟨ns, true, pv, pu, mc, oi, ma, sh, mf⟩) := by
        have := HA.out
        rwa [if_pos (by simp)] at this
      obtain ⟨k0, f0⟩ := ctRd_at HC3.out 0 _ rfl
      obtain ⟨k1, f1⟩ := ctRd_at HC3.out 1 _ rfl
      obtain ⟨k2, f2⟩ := ctRd_at HC3.out 2 _ rfl
      obtain ⟨k3, f3⟩ := ctRd_at HC3.out 3 _ rfl
      obtain ⟨k4, f4⟩ := ctRd_at HC3.out 4 _ rfl
      obtain ⟨k5, f5⟩ := ctRd_at HC3.out 5 _ rfl
      obtain ⟨k6, f6⟩ := ctRd_at HC3.out 6 _ rfl
      obtain ⟨k7, f7⟩ := ctRd_at HC3.out 7 _ rfl
      obtain ⟨k8, f8⟩ := ctRd_at HC3.out 8 _ rfl
      have hne : R ≠ w.heap.size := Nat.ne_of_gt HP.out
      have HZ4 : Hid ((w3.setCell ⟨R, 1, none⟩ (.bool true)).heap[w.heap.size]? = some (.cells #[.bool false, .bool false, .bool false, .bool false, .bool false, .bool false, .int .i64 0, .int .i64 0, .int .i64 0] 44 (0, 0))) := by
        show _ = _
        rw [Below.heap_setCell _ _ _ _ (Ne.symm hne)]
        exact HZ3.out
      have HB4 : Hid (Below w.heap.size w (w3.setCell ⟨R, 1, none⟩ (.bool true))) := HB3.out.setCell (p := ⟨R, 1, none⟩) (Nat.le_of_lt HP.out) _
      clear hne HA
      go_wp2_with (refine wpList_store_row rfl _ _ _ rfl w.heap.size #[.bool ns, .bool true, .bool pv, .bool pu, .bool mc, .bool oi, .int .i64 ma, .int .i64 sh, .int .i64 mf] rfl rfl 44 _ HZ4.out (by kernel_rfl) rfl (by simp [Value.oneCell']) ?_)
      try simp only [Exit.inBlock, Exit.then]
      refine bodyPost_ret (results_cell_row rfl _ _ w.heap.size 44 #[.bool ns, .bool true, .bool pv, .bool pu, .bool mc, .bool oi, .int .i64 ma, .int .i64 sh, .int .i64 mf] (0, 0) _ rfl (setRow_heap _ _ _ _ _ _ HZ4.out) Tryz.underlying44 rfl (by kernel_rfl)) rfl ?_
      exact ⟨by rw [HAF.out]; rfl, below_setRow HB4.out (Nat.le_refl _) _⟩

end Go.Proofs.YtnembpklidcgoaaGreatDoor
end

/-
  Contracts of the reference's put, Names (layer 15).
-/
section
namespace Go.Proofs.YtnembpklidcgoaaGreatDoor
open Go.RowKit
set_option linter.unusedSimpArgs false

theorem nme_step (out : List (List UInt8)) (E : List (List UInt8)) (j : Nat) (h : j < E.length) : nmE out (E.drop j) = if E[j] = [42] ∨ (E[j].isEmpty || !allB tokB E[j]) then none else nmE (putL (lowL E[j]) out) (E.drop (j + 1)) := by
  rw [List.drop_eq_getElem_cons h]; rfl
theorem nmv_step (out : List (List UInt8)) (V : List (List UInt8)) (k : Nat) (h : k < V.length) : nmV out (V.drop k) = match splitL V[k] with | none => none | some E => match nmE out E with | none => none | some o => nmV o (V.drop (k + 1)) := by
  rw [List.drop_eq_getElem_cons h]; rfl
theorem low_len (l : List UInt8) : (lowL l).length = l.length := by simp [lowL]
/-- What Names answers. -/
def IsNm (w : World) (L : List (List UInt8)) (ok : Bool) (e : Ending) (w' : World) : Prop := ∃ A c, e = .returned (.tuple #[.slice A L.length c, .bool ok]) ∧ SlS w' A L.length c L ∧ Head w' A ∧ Below w.heap.size w w'

end Go.Proofs.YtnembpklidcgoaaGreatDoor
end
