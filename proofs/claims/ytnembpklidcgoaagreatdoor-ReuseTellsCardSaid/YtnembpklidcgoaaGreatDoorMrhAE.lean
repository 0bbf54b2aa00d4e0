/-
  Texts that the laws of this seat lean on, one behind the other.
-/
import Derived.Test.YtnembpklidcgoaaGreatDoorMrhAD
import Derived.Test.YtnembpklidcgoaaGreatDoorMrhT
import Derived.Test.YtnembpklidcgoaaGreatDoorMrhAA
import Derived.Test.YtnembpklidcgoaaGreatDoorMrhK
set_option linter.unusedSimpArgs false
set_option linter.unusedVariables false
/-
  Contracts of package control's Parse and Asked.
-/
section
namespace Go.Proofs.YtnembpklidcgoaaGreatDoor
open Go.RowKit

theorem ctP_fold (L : List Fd) : ctP L = if fnV (fdAll L ccS) = true then (dvs (fdAll L ccS)).foldl stepC ct0 else { (dvs (fdAll L ccS)).foldl stepC ct0 with ns := true, nc := true } := ctD_fold _ _
set_option maxHeartbeats 16000000 in
set_option maxRecDepth 100000 in
theorem ctlP_any (A : Option Addr) (n c : Nat) (L : List Fd) (w : World) (h : SlF w A n c L) (hn : n ≤ 1000) (hB : ∀ x ∈ L, x.2.size ≤ 10000) (hBd : ∀ x ∈ L, Bd x) :
    Calls Tryz.prog 23 #[.slice A n c] w fun e w' => e = .returned (.agg (ctC (ctP L))) ∧ Below w.heap.size w w' := by
  have HZ : Hid ((w.alloc (.cells #[.bool false, .bool false, .bool false, .bool false, .bool false, .bool false, .int .i64 0, .int .i64 0, .int .i64 0] 44)).heap[w.heap.size]? = some (.cells #[.bool false, .bool false, .bool false, .bool false, .bool false, .bool false, .int .i64 0, .int .i64 0, .int .i64 0] 44 (0, 0))) := heap_alloc_new w _
  have HB : Hid (Below w.heap.size w (w.alloc (.cells #[.bool false, .bool false, .bool false, .bool false, .bool false, .bool false, .int .i64 0, .int .i64 0, .int .i64 0] 44))) := (Below.refl _ _).alloc (Nat.le_refl _) _
  have hctP := ctP_fold L
  have hVz : ∀ x ∈ fdAll L ccS, x.length ≤ 10000 := fun x hx => by
    unfold fdAll at hx
    obtain ⟨y, hy, rfl⟩ := List.mem_map.1 hx
    rw [← Lib.size_eq]
    exact hB y (List.mem_filter.1 hy).1
  have hVn : (fdAll L ccS).length ≤ 1000 := by
    unfold fdAll
    rw [List.length_map]
    exact Nat.le_trans (List.length_filter_le _ _) (by rw [h.len]; exact hn)
  have CA := Lib.hid (fun W (hW : Below w.heap.size w W) => all_any A n c L ccS W (h.below hW) (by omega) hBd ccS_le)
  unfold ccS at CA
  have hcc : (⟨#[67, 97, 99, 104, 101, 45, 67, 111, 110, 116, 114, 111, 108]⟩ : ByteArray) = ccS := rfl
  generalize hV : fdAll L ccS = V at *
  rw [hcc, hV] at CA
  unfold ccS at CA
  clear hcc hV
  obtain ⟨Z, hZ⟩ : ∃ Z, Z = ctP L := ⟨_, rfl⟩
  rw [← hZ] at hctP ⊢
  have HCT := Lib.hid hctP
  have CV := Lib.hid (fun (A' : Option Addr) d R D W hS hh hR => visit_any A' V.length d V R D ct0 W hS hh hR hVn hVz)
  generalize (dvs V).foldl stepC ct0 = cf at *
  clear hctP hZ h hn hB hBd hVz
  have mixed : Tryz.prog.follows .mixedOrders = true := by kernel_rfl
  go_enter Tryz.func23, Tryz.ntmps23
  go_wp2_with fail
  refine (dirs_any _).mono ?_
  rintro e w1 ⟨D, hD0, hD1, rfl, hT, hb1⟩
  have HZ1 := Lib.hid (zero_still hb1 HZ.out)
  have HB1 := Lib.hid (below_then HB.out hb1)
  have HT1 := Lib.hid hT
  have HD1 := Lib.hid hD1
  clear hb1 hT hD0 hD1
  go_wp2_with fail
  have HBA := Lib.hid (HB1.out.alloc HB1.out.size (.cells (rdC D ct0) 73))
  refine (CA.out _ HBA.out).mono ?_
  rintro e w2 ⟨A1, c1, rfl, hS2, hh2, hb2⟩
  have hR0 : CtRdr (w1.alloc (.cells (rdC D ct0) 73)) w1.heap.size D ct0 := ⟨heap_alloc_new w1 _, fun j x hx => Lib.cell?_alloc_some _ (HT1.out j x hx), Nat.ne_of_lt HD1.out⟩
  have HR2 := Lib.hid (hR0.below hb2)
  have HZ2 := Lib.hid (zero_still hb2 (zero_more HZ1.out))
  have HB2 := Lib.hid (below_then HBA.out hb2)
  have HS2 := Lib.hid hS2
  have HH2 := Lib.hid hh2
  clear hR0 hb2 hS2 hh2
  go_wp2_with fail
  refine (CV.out A1 c1 _ D _ HS2.out HH2.out HR2.out).mono ?_
  rintro e w3 ⟨rfl, hR3, hbt⟩
  have hP : w.heap.size < w1.heap.size := (Array.getElem?_eq_some_iff.1 HZ1.out).1
  have HZ3 := Lib.hid ((hbt.block _ (Array.getElem?_eq_some_iff.1 HZ2.out).1 (Nat.ne_of_lt hP)).trans HZ2.out)
  have HB3 := Lib.hid (HB2.out.trans (hbt.below HB2.out.size (Nat.le_of_lt hP)))
  have HP := Lib.hid hP
  generalize w1.heap.size = R at *
  obtain ⟨ns, nc, pv, pu, mc, oi, ma, sh, mf⟩ := cf
  have row : w3.heap[R]? = some (.cells #[.slice (some ⟨D, 0, none⟩) 10 10, .bool ns, .bool nc, .bool pv, .bool pu, .bool mc, .bool oi, .int .i64 ma, .int .i64 sh, .int .i64 mf] 73 (0, 0)) := hR3.row
  have ROW := Lib.hid row
  clear hbt hR3 hP row CV CA HR2 HS2 HH2 HZ2 HB2 HBA HZ1 HB1 HT1 HD1 HB HZ
  cases hf : fnV V with
  | true =>
    rw [hf] at HCT
    rw [if_pos rfl] at HCT
    obtain ⟨k1, f1⟩ := ctRd_at ROW.out 1 _ rfl
    obtain ⟨k2, f2⟩ := ctRd_at ROW.out 2 _ rfl
    obtain ⟨k3, f3⟩ := ctRd_at ROW.out 3 _ rfl
    obtain ⟨k4, f4⟩ := ctRd_at ROW.out 4 _ rfl
    obtain ⟨k5, f5⟩ := ctRd_at ROW.out 5 _ rfl
    obtain ⟨k6, f6⟩ := ctRd_at ROW.out 6 _ rfl
    obtain ⟨k7, f7⟩ := ctRd_at ROW.out 7 _ rfl
    obtain ⟨k8, f8⟩ := ctRd_at ROW.out 8 _ rfl
    obtain ⟨k9, f9⟩ := ctRd_at ROW.out 9 _ rfl
    clear hf
    go_wp2_with (refine wpList_store_row rfl _ _ _ rfl w.heap.size #[.bool ns, .bool nc, .bool pv, .bool pu, .bool mc, .bool oi, .int .i64 ma, .int .i64 sh, .int .i64 mf] rfl rfl 44 _ HZ3.out (by kernel_rfl) rfl (by simp [Value.oneCell']) ?_)
    try simp only [Exit.inBlock, Exit.then]
    refine bodyPost_ret (results_cell_row rfl _ _ w.heap.size 44 #[.bool ns, .bool nc, .bool pv, .bool pu, .bool mc, .bool oi, .int .i64 ma, .int .i64 sh, .int .i64 mf] (0, 0) _ rfl (setRow_heap _ _ _ _ _ _ HZ3.out) Tryz.underlying44 rfl (by kernel_rfl)) rfl ?_
    exact ⟨by rw [HCT.out]; rfl, below_setRow HB3.out (Nat.le_refl _) _⟩
  | false =>
    rw [hf] at HCT
    rw [if_neg (by simp)] at HCT
    obtain ⟨k1, f1⟩ := ctRd_at ROW.out 1 _ rfl
    obtain ⟨k2, f2⟩ := ctRd_at ROW.out 2 _ rfl
    obtain ⟨k3, f3⟩ := ctRd_at ROW.out 3 _ rfl
    obtain ⟨k4, f4⟩ := ctRd_at ROW.out 4 _ rfl
    obtain ⟨k5, f5⟩ := ctRd_at ROW.out 5 _ rfl
    obtain ⟨k6, f6⟩ := ctRd_at ROW.out 6 _ rfl
    obtain ⟨k7, f7⟩ := ctRd_at ROW.out 7 _ rfl
    obtain ⟨k8, f8⟩ := ctRd_at ROW.out 8 _ rfl
    obtain ⟨k9, f9⟩ := ctRd_at ROW.out 9 _ rfl
    have hne : R ≠ w.heap.size := Nat.ne_of_gt HP.out
    have HZ4 : Hid (((w3.setCell ⟨R, 1, none⟩ (.bool true)).setCell ⟨R, 2, none⟩ (.bool true)).heap[w.heap.size]? = some (.cells #[.bool false, .bool false, .bool false, .bool false, .bool false, .bool false, .int .i64 0, .int .i64 0, .int .i64 0] 44 (0, 0))) := by
      show _ = _
      rw [Below.heap_setCell _ _ _ _ (Ne.symm hne), Below.heap_setCell _ _ _ _ (Ne.symm hne)]
      exact HZ3.out
    have HB4 : Hid (Below w.heap.size w ((w3.setCell ⟨R, 1, none⟩ (.bool true)).setCell ⟨R, 2, none⟩ (.bool true))) := (HB3.out.setCell (p := ⟨R, 1, none⟩) (Nat.le_of_lt HP.out) _).setCell (p := ⟨R, 2, none⟩) (Nat.le_of_lt HP.out) _
    clear hf hne
    go_wp2_with (refine wpList_store_row rfl _ _ _ rfl w.heap.size #[.bool true, .bool true, .bool pv, .bool pu, .bool mc, .bool oi, .int .i64 ma, .int .i64 sh, .int .i64 mf] rfl rfl 44 _ HZ4.out (by kernel_rfl) rfl (by simp [Value.oneCell']) ?_)
    try simp only [Exit.inBlock, Exit.then]
    refine bodyPost_ret (results_cell_row rfl _ _ w.heap.size 44 #[.bool true, .bool true, .bool pv, .bool pu, .bool mc, .bool oi, .int .i64 ma, .int .i64 sh, .int .i64 mf] (0, 0) _ rfl (setRow_heap _ _ _ _ _ _ HZ4.out) Tryz.underlying44 rfl (by kernel_rfl)) rfl ?_
    exact ⟨by rw [HCT.out]; rfl, below_setRow HB4.out (Nat.le_refl _) _⟩

set_option maxHeartbeats 16000000 in
set_option maxRecDepth 100000 in
theorem ctlA_any (A : Option Addr) (n c : Nat) (L : List Fd) (w : World) (h : SlF w A n c L) (hn : n ≤ 1000) (hB : ∀ x ∈ L, x.2.size ≤ 10000) (hBd : ∀ x ∈ L, Bd x) :
    Calls Tryz.prog 22 #[.slice A n c] w fun e w' => e = .returned (.agg (ctC (ctA L))) ∧ Below w.heap.size w w' := by
  have HZ : Hid ((w.alloc (.cells #[.bool false, .bool false, .bool false, .bool false, .bool false, .bool false, .int .i64 0, .int .i64 0, .int .i64 0] 44)).heap[w.heap.size]? = some (.cells #[.bool false, .bool false, .bool false, .bool false, .bool false, .bool false, .int .i64 0, .int .i64 0, .int .i64 0] 44 (0, 0))) := heap_alloc_new w _
  have HB : Hid (Below w.heap.size w (w.alloc (.cells #[.bool false, .bool false, .bool false, .bool false, .bool false, .bool false, .int .i64 0, .int .i64 0, .int .i64 0] 44))) := (Below.refl _ _).alloc (Nat.le_refl _) _
  have hVz : ∀ x ∈ fdAll L ccS, x.length ≤ 10000 := fun x hx => by
    unfold fdAll at hx
    obtain ⟨y, hy, rfl⟩ := List.mem_map.1 hx
    rw [← Lib.size_eq]
    exact hB y (List.mem_filter.1 hy).1
  have hVn : (fdAll L ccS).length ≤ 1000 := by
    unfold fdAll
    rw [List.length_map]
    exact Nat.le_trans (List.length_filter_le _ _) (by rw [h.len]; exact hn)
  have hJ : (Lib.join (fdAll L ccS) [44, 32]).length ≤ 1000000000000 := Nat.le_trans (join_le _ 1000 10000 hVn hVz) (by decide)
  have hA : ctA L = if fdGot L ccS = false ∧ fdHas L prS ncS = true then { ctP L with nc := true } else ctP L := by
    unfold ctA fdGot
    cases fdAll L ccS <;> simp
  have C1 := Lib.hid (fun W (hW : Below w.heap.size w W) => ctlP_any A n c L W (h.below hW) hn hB hBd)
  have C2 := Lib.hid (fun W (hW : Below w.heap.size w W) => getF_any A n c L ccS W (h.below hW) (by omega) hBd ccS_le hJ)
  have C3 := Lib.hid (fun W (hW : Below w.heap.size w W) => hasF_any A n c L prS ncS W (h.below hW) (by omega) hBd (by decide) (by decide))
  generalize fdGot L ccS = got at *
  generalize fdGet L ccS = gtt at *
  generalize fdHas L prS ncS = has at *
  generalize ctP L = P at *
  unfold ccS at C2
  unfold prS ncS at C3
  obtain ⟨Z, hZ⟩ : ∃ Z, Z = ctA L := ⟨_, rfl⟩
  rw [← hZ] at hA ⊢
  have HA := Lib.hid hA
  clear h hn hB hBd hVz hVn hJ hA hZ
  obtain ⟨ns, nc, pv, pu, mc, oi, ma, sh, mf⟩ := P
  unfold ctC at C1
  simp only at C1
  go_enter Tryz.func22, Tryz.ntmps22
  go_wp2_with fail
  refine (C1.out _ HB.out).mono ?_
  rintro e w1 ⟨rfl, hb1⟩
  have HZ1 := Lib.hid (zero_still hb1 HZ.out)
  have HB1 := Lib.hid (below_then HB.out hb1)
  clear hb1 C1
  go_wp2_with fail
  have HBA := Lib.hid (HB1.out.alloc HB1.out.size (.cells #[.bool ns, .bool nc, .bool pv, .bool pu, .bool mc, .bool oi, .int .i64 ma, .int .i64 sh, .int .i64 mf] 44))
  refine (C2.out _ HBA.out).mono ?_
  rintro e w2 ⟨rfl, hb2⟩
  have HC2 : Hid (w2.heap[w1.heap.size]? = some (.cells #[.bool ns, .bool nc, .bool pv, .bool pu, .bool mc, .bool oi, .int .i64 ma, .int .i64 sh, .int .i64 mf] 44 (0, 0))) := zero_still hb2 (heap_alloc_new w1 _)
  have HZ2 := Lib.hid (zero_still hb2 (zero_more HZ1.out))
  have HB2 := Lib.hid (below_then HBA.out hb2)
  have HP := Lib.hid (show w.heap.size < w1.heap.size from (Array.getElem?_eq_some_iff.1 HZ1.out).1)
  clear hb2 C2 HBA HB1 HZ1 HZ HB
  generalize w1.heap.size = R at *
  cases got with
  | true =>
    have HAF : Hid (Z = ⟨ns, nc, pv, pu, mc, oi, ma, sh, mf⟩) := by
      have := HA.out
      rwa [if_neg (by simp)] at this
    obtain ⟨k0, f0⟩ := ctRd_at HC2.out 0 _ rfl
    obtain ⟨k1, f1⟩ := ctRd_at HC2.out 1 _ rfl
    obtain ⟨k2, f2⟩ := ctRd_at HC2.out 2 _ rfl
    obtain ⟨k3, f3⟩ := ctRd_at HC2.out 3 _ rfl
    obtain ⟨k4, f4⟩ := ctRd_at HC2.out 4 _ rfl
    obtain ⟨k5, f5⟩ := ctRd_at HC2.out 5 _ rfl
    obtain ⟨k6, f6⟩ := ctRd_at HC2.out 6 _ rfl
    obtain ⟨k7, f7⟩ := ctRd_at HC2.out 7 _ rfl
    obtain ⟨k8, f8⟩ := ctRd_at HC2.out 8 _ rfl
    clear HA C3
    go_wp2_with (refine wpList_store_row rfl _ _ _ rfl w.heap.size #[.bool ns, .bool nc, .bool pv, .bool pu, .bool mc, .bool oi, .int .i64 ma, .int .i64 sh, .int .i64 mf] rfl rfl 44 _ HZ2.out (by kernel_rfl) rfl (by simp [Value.oneCell']) ?_)
    try simp only [Exit.inBlock, Exit.then]
    refine bodyPost_ret (results_cell_row rfl _ _ w.heap.size 44 #[.bool ns, .bool nc, .bool pv, .bool pu, .bool mc, .bool oi, .int .i64 ma, .int .i64 sh, .int .i64 mf] (0, 0) _ rfl (setRow_heap _ _ _ _ _ _ HZ2.out) Tryz.underlying44 rfl (by kernel_rfl)) rfl ?_
    exact ⟨by rw [HAF.out]; rfl, below_setRow HB2.out (Nat.le_refl _) _⟩
  | false =>
    go_wp2_with fail
    refine (C3.out _ HB2.out).mono ?_
    rintro e w3 ⟨rfl, hb3⟩
    have HC3 := Lib.hid (zero_still hb3 HC2.out)
    have HZ3 := Lib.hid (zero_still hb3 HZ2.out)
    have HB3 := Lib.hid (below_then HB2.out hb3)
    clear hb3 C3 HC2 HZ2 HB2
    cases has with
    | false =>
      have HAF : Hid (Z = ⟨ns, nc, pv, pu, mc, oi, ma, sh, mf⟩) := by
        have := HA.out
        rwa [if_neg (by simp)] at this
      obtain ⟨k0, f0⟩ := ctRd_at HC3.out 0 _ rfl
      obtain ⟨k1, f1⟩ := ctRd_at HC3.out 1 _ rfl
      obtain ⟨k2, f2⟩ := ctRd_at HC3.out 2 _ rfl
      obtain ⟨k3, f3⟩ := ctRd_at HC3.out 3 _ rfl
      obtain ⟨k4, f4⟩ := ctRd_at HC3.out 4 _ rfl
      obtain ⟨k5, f5⟩ := ctRd_at HC3.out 5 _ rfl
      obtain ⟨k6, f6⟩ := ctRd_at HC3.out 6 _ rfl
      obtain ⟨k7, f7⟩ := ctRd_at HC3.out 7 _ rfl
      obtain ⟨k8, f8⟩ := ctRd_at HC3.out 8 _ rfl
      clear HA
      go_wp2_with (refine wpList_store_row rfl _ _ _ rfl w.heap.size #[.bool ns, .bool nc, .bool pv, .bool pu, .bool mc, .bool oi, .int .i64 ma, .int .i64 sh, .int .i64 mf] rfl rfl 44 _ HZ3.out (by kernel_rfl) rfl (by simp [Value.oneCell']) ?_)
      try simp only [Exit.inBlock, Exit.then]
      refine bodyPost_ret (results_cell_row rfl _ _ w.heap.size 44 #[.bool ns, .bool nc, .bool pv, .bool pu, .bool mc, .bool oi, .int .i64 ma, .int .i64 sh, .int .i64 mf] (0, 0) _ rfl (setRow_heap _ _ _ _ _ _ HZ3.out) Tryz.underlying44 rfl (by kernel_rfl)) rfl ?_
      exact ⟨by rw [HAF.out]; rfl, below_setRow HB3.out (Nat.le_refl _) _⟩
    | true =>
      have HAF : Hid (Z = ⟨ns, true, pv, pu, mc, oi, ma, sh, mf⟩) := by
        have := HA.out
        rwa [if_pos (by simp)] at this
      obtain ⟨k0, f0⟩ := ctRd_at HC3.out 0 _ rfl
      obtain ⟨k1, f1⟩ := ctRd_at HC3.out 1 _ rfl
      obtain ⟨k2, f2⟩ := ctRd_at HC3.out 2 _ rfl
      obtain ⟨k3, f3⟩ := ctRd_at HC3.out 3 _ rfl
      obtain ⟨k4, f4⟩ := ctRd_at HC3.out 4 _ rfl
      obtain ⟨k5, f5⟩ := ctRd_at HC3.out 5 _ rfl
      obtain ⟨k6, f6⟩ := ctRd_at HC3.out 6 _ rfl
      obtain ⟨k7, f7⟩ := ctRd_at HC3.out 7 _ rfl
      obtain ⟨k8, f8⟩ := ctRd_at HC3.out 8 _ rfl
      have hne : R ≠ w.heap.size := Nat.ne_of_gt HP.out
      have HZ4 : Hid ((w3.setCell ⟨R, 1, none⟩ (.bool true)).heap[w.heap.size]? = some (.cells #[.bool false, .bool false, .bool false, .bool false, .bool false, .bool false, .int .i64 0, .int .i64 0, .int .i64 0] 44 (0, 0))) := by
        show _ = _
        rw [Below.heap_setCell _ _ _ _ (Ne.symm hne)]
        exact HZ3.out
      have HB4 : Hid (Below w.heap.size w (w3.setCell ⟨R, 1, none⟩ (.bool true))) := HB3.out.setCell (p := ⟨R, 1, none⟩) (Nat.le_of_lt HP.out) _
      clear hne HA
      go_wp2_with (refine wpList_store_row rfl _ _ _ rfl w.heap.size #[.bool ns, .bool true, .bool pv, .bool pu, .bool mc, .bool oi, .int .i64 ma, .int .i64 sh, .int .i64 mf] rfl rfl 44 _ HZ4.out (by kernel_rfl) rfl (by simp [Value.oneCell']) ?_)
      try simp only [Exit.inBlock, Exit.then]
      refine bodyPost_ret (results_cell_row rfl _ _ w.heap.size 44 #[.bool ns, .bool true, .bool pv, .bool pu, .bool mc, .bool oi, .int .i64 ma, .int .i64 sh, .int .i64 mf] (0, 0) _ rfl (setRow_heap _ _ _ _ _ _ HZ4.out) Tryz.underlying44 rfl (by kernel_rfl)) rfl ?_
      exact ⟨by rw [HAF.out]; rfl, below_setRow HB4.out (Nat.le_refl _) _⟩

end Go.Proofs.YtnembpklidcgoaaGreatDoor
end

/-
  Contracts of the reference's put, Names (layer 15).
-/
section
namespace Go.Proofs.YtnembpklidcgoaaGreatDoor
open Go.RowKit
set_option linter.unusedSimpArgs false

theorem put_step (s : List UInt8) (L : List (List UInt8)) (k : Nat) (h : k < L.length) : putL s (L.drop k) = if lesL L[k] s then L[k] :: putL s (L.drop (k + 1)) else if L[k] = s then L[k] :: L.drop (k + 1) else s :: L[k] :: L.drop (k + 1) := by
  rw [List.drop_eq_getElem_cons h]; rfl
theorem put_len (s : List UInt8) : ∀ L : List (List UInt8), (putL s L).length ≤ L.length + 1
  | [] => Nat.le_refl _
  | x :: r => by
    have := put_len s r
    unfold putL
    repeat' split
    all_goals simp only [List.length_cons]; omega
theorem put_mem (s : List UInt8) : ∀ (L : List (List UInt8)) (x : List UInt8), x ∈ putL s L → x = s ∨ x ∈ L
  | [], x, h => .inl (by simpa [putL] using h)
  | y :: r, x, h => by
    unfold putL at h
    split at h
    · rw [List.mem_cons] at h
      rcases h with rfl | h
      · exact .inr (List.mem_cons_self ..)
      · exact (put_mem s r x h).imp_right fun g => List.mem_cons_of_mem _ g
    · split at h
      · exact .inr h
      · rw [List.mem_cons] at h
        exact h
theorem ownS_wide {w : World} {base base' e : Nat} {v : Value} {X : List (List UInt8)} (h : OwnS w base e v X) (hb : base' ≤ base) : OwnS w base' e v X := by
  refine ⟨h.1, ?_⟩
  rcases h.2 with h2 | ⟨g, cap, cur, h1, h2, h3⟩
  · exact .inl h2
  · exact .inr ⟨g, cap, cur, h1, by omega, h3⟩

set_option maxHeartbeats 16000000 in
set_option maxRecDepth 100000 in
theorem r_put (A : Option Addr) (n c : Nat) (L : List (List UInt8)) (s : ByteArray) (w : World) (h : SlS w A n c L) (hn : n ≤ 100000000) (hz : ∀ x ∈ L, x.length ≤ 100000000) (hs : s.size ≤ 100000000) :
    Calls Tryz.prog 89 #[.slice A n c, .string s] w fun e w' => ∃ v, e = .returned v ∧ OwnS w' w.heap.size 9 v (putL s.data.toList L) ∧ Below w.heap.size w w' := by
  have hlen := h.len
  subst hlen
  generalize hD : putL s.data.toList L = D
  have HD := Lib.hid hD
  clear hD
  go_enter Tryz.func89, Tryz.ntmps89
  go_wp2_with fail
  go_loopw [5, 6, 7] (fun v q i wr => ∃ (k : Nat) (b : Bool) (X : List (List UInt8)), k ≤ L.length ∧ X.length ≤ k + (if b then 1 else 0) ∧ q = .bool b ∧ i = .int .i64 k ∧ Hid (OwnS wr w.heap.size 9 v X) ∧ Hid (D = X ++ (if b then L.drop k else putL s.data.toList (L.drop k))) ∧ Hid (Below w.heap.size w wr)) (fun _ _ i _ => L.length - (intOf i).toNat)
  case atStart => exact ⟨0, false, [], Nat.zero_le _, Nat.zero_le _, rfl, rfl, OwnS.nil _ _ _, HD.out.symm, Below.refl _ _⟩
  case round =>
    obtain ⟨k, b, X, hk, hX, rfl, rfl, HO, hf, HB⟩ := hrel
    have hX2 : X.length ≤ k + 1 := by split at hX <;> omega
    by_cases hlt : k < L.length
    · obtain ⟨ad, rfl, hc⟩ := h.at_ (by omega)
      have hcw := hc k L[k] (List.getElem?_eq_getElem hlt)
      have hcell := cell_kept HB.out hcw
      have hi0 : (0 : Int) ≤ (k : Int) := by omega
      have hi1 : (k : Int) < (L.length : Int) := by omega
      have hst := put_step s.data.toList L k hlt
      have hdr : L.drop k = L[k] :: L.drop (k + 1) := List.drop_eq_getElem_cons hlt
      have hxs := hz _ (List.getElem_mem hlt)
      have hms : (mkS L[k]).size ≤ 100000000 := by rw [mkS_size]; exact hxs
      have CB := Lib.hid (fun W => r_before (mkS L[k]) s hms hs W)
      rw [mkS_list] at CB
      generalize hx : L[k] = x at *
      have hmk : (mkS x).data.toList = x := mkS_list x
      obtain ⟨y, hy⟩ : ∃ y, mkS x = y := ⟨_, rfl⟩
      rw [hy] at hcell hcw CB hmk
      have HCW := Lib.hid hcw
      clear hcw
      have hyl : x = y.data.toList := hmk.symm
      clear hc hx hy hmk hms hxs
      subst hyl
      cases b with
      | true =>
        have HN : Hid (D = (X ++ [y.data.toList]) ++ (if true then L.drop (k + 1) else putL s.data.toList (L.drop (k + 1)))) := by
          show _ = _
          rw [hf.out, if_pos rfl, if_pos rfl, hdr]; simp
        clear hf hst hdr
        go_wp2_with (at_builtin; refine wpList_append_sls rfl _ _ _ rfl w.heap.size 9 Tryz.underlying52 (by kernel_rfl) _ rfl X (HO.out.alloc _) _ _ _ rfl [(y).data.toList] (SlS.text _ _ _) (by simp; omega) (by simp; have := HB.out.size; omega) w (HB.out.alloc HB.out.size _) ?_; intro v1 w1 ho1 hb1 hz1)
        go_roundw
        case rel => exact ⟨k + 1, true, X ++ [y.data.toList], by omega, by simp at hX ⊢; omega, rfl, by go_num, ho1, HN, hb1⟩
        case measure => simp [intOf]; omega
      | false =>
        cases hq : lesL y.data.toList s.data.toList with
        | true =>
          have HN : Hid (D = (X ++ [y.data.toList]) ++ (if false then L.drop (k + 1) else putL s.data.toList (L.drop (k + 1)))) := by
            show _ = _
            rw [hf.out, if_neg (by decide), if_neg (by decide), hst, if_pos hq]; simp
          rw [hq] at CB
          clear hf hst hdr hq
          go_wp2_with fail
          refine (CB.out _).mono ?_
          rintro e w0 ⟨rfl, hb⟩
          have HO := Lib.hid (HO.out.below hb)
          have HB := Lib.hid (below_then HB.out hb)
          have hcell := cell_kept hb hcell
          clear hb
          go_wp2_with (at_builtin; refine wpList_append_sls rfl _ _ _ rfl w.heap.size 9 Tryz.underlying52 (by kernel_rfl) _ rfl X (HO.out.alloc _) _ _ _ rfl [(y).data.toList] (SlS.text _ _ _) (by simp; omega) (by simp; have := HB.out.size; omega) w (HB.out.alloc HB.out.size _) ?_; intro v1 w1 ho1 hb1 hz1)
          go_roundw
          case rel => exact ⟨k + 1, false, X ++ [y.data.toList], by omega, by simp at hX ⊢; omega, rfl, by go_num, ho1, HN, hb1⟩
          case measure => simp [intOf]; omega
        | false =>
          rw [hq] at CB
          by_cases he : y.data.toList = s.data.toList
          · have HN : Hid (D = (X ++ [y.data.toList]) ++ (if true then L.drop (k + 1) else putL s.data.toList (L.drop (k + 1)))) := by
              show _ = _
              rw [hf.out, if_neg (by decide), if_pos rfl, hst, if_neg (by rw [hq]; decide), if_pos he]; simp
            have hne : (y.toList == s.toList) = true := by rw [Lib.toList_data, Lib.toList_data, he]; simp
            have hne2 : (y.toList != s.toList) = false := by rw [bne, hne]; rfl
            clear hf hst hdr hq he
            go_wp2_with fail
            refine (CB.out _).mono ?_
            rintro e w0 ⟨rfl, hb⟩
            have HO := Lib.hid (HO.out.below hb)
            have HB := Lib.hid (below_then HB.out hb)
            have hcell := cell_kept hb hcell
            clear hb
            go_wp2_with (at_builtin; refine wpList_append_sls rfl _ _ _ rfl w.heap.size 9 Tryz.underlying52 (by kernel_rfl) _ rfl X (HO.out.alloc _) _ _ _ rfl [(y).data.toList] (SlS.text _ _ _) (by simp; omega) (by simp; have := HB.out.size; omega) w (HB.out.alloc HB.out.size _) ?_; intro v1 w1 ho1 hb1 hz1)
            go_roundw
            case rel => exact ⟨k + 1, true, X ++ [y.data.toList], by omega, by simp at hX ⊢; omega, rfl, by go_num, ho1, HN, hb1⟩
            case measure => simp [intOf]; omega
          · have HN : Hid (D = ((X ++ [s.data.toList]) ++ [y.data.toList]) ++ (if true then L.drop (k + 1) else putL s.data.toList (L.drop (k + 1)))) := by
              show _ = _
              rw [hf.out, if_neg (by decide), if_pos rfl, hst, if_neg (by rw [hq]; decide), if_neg he]; simp
            have hne : (y.toList == s.toList) = false := by
              rw [Lib.toList_data, Lib.toList_data, beq_eq_false_iff_ne]
              exact he
            have hne2 : (y.toList != s.toList) = true := by rw [bne, hne]; rfl
            clear hf hst hdr hq he
            go_wp2_with fail
            refine (CB.out _).mono ?_
            rintro e w0 ⟨rfl, hb⟩
            have HO := Lib.hid (HO.out.below hb)
            have HB := Lib.hid (below_then HB.out hb)
            have hcell := cell_kept hb hcell
            clear hb
            go_wp2_with (first
              | (at_builtin; refine wpList_append_sls rfl _ _ _ rfl w.heap.size 9 Tryz.underlying52 (by kernel_rfl) _ rfl X (HO.out.alloc _) _ _ _ rfl [(s).data.toList] (SlS.text _ _ _) (by simp; omega) (by simp; have := HB.out.size; omega) w (HB.out.alloc HB.out.size _) ?_; intro v1 w1 ho1 hb1 hz1; have hcell := cell_kept hb1 HCW.out)
              | (at_builtin; refine wpList_append_sls rfl _ _ _ rfl w.heap.size 9 Tryz.underlying52 (by kernel_rfl) _ rfl (X ++ [s.data.toList]) (ho1.out.alloc _) _ _ _ rfl [(y).data.toList] (SlS.text _ _ _) (by simp; omega) (by simp; have := hb1.size; omega) w (hb1.alloc hb1.size _) ?_; intro v2 w2 ho2 hb2 hz2))
            go_roundw
            case rel => exact ⟨k + 1, true, (X ++ [s.data.toList]) ++ [y.data.toList], by omega, by simp at hX ⊢; omega, rfl, by go_num, ho2, HN, hb2⟩
            case measure => simp [intOf]; omega
    · have hlast : L.drop k = [] := List.drop_eq_nil_of_le (by omega)
      have hi1 : ¬ (k : Int) < (L.length : Int) := by omega
      cases b with
      | true =>
        have HN : Hid (X = D) := by show _ = _; rw [hf.out, if_pos rfl, hlast]; simp
        clear hf
        go_wp2_with fail
        go_ret
        exact ⟨_, rfl, by show OwnS _ _ _ _ _; rw [← HN.out]; exact HO.out, HB.out⟩
      | false =>
        have HN : Hid (X ++ [s.data.toList] = D) := by show _ = _; rw [hf.out, if_neg (by decide), hlast]; rfl
        clear hf
        go_wp2_with (at_builtin; refine wpList_append_sls rfl _ _ _ rfl w.heap.size 9 Tryz.underlying52 (by kernel_rfl) _ rfl X (HO.out.alloc _) _ _ _ rfl [(s).data.toList] (SlS.text _ _ _) (by simp; omega) (by simp; have := HB.out.size; omega) w (HB.out.alloc HB.out.size _) ?_; intro v1 w1 ho1 hb1 hz1)
        go_ret
        exact ⟨_, rfl, by show OwnS _ _ _ _ _; rw [← HN.out]; exact ho1.out, hb1⟩

theorem nme_step (out : List (List UInt8)) (E : List (List UInt8)) (j : Nat) (h : j < E.length) : nmE out (E.drop j) = if E[j] = [42] ∨ (E[j].isEmpty || !allB tokB E[j]) then none else nmE (putL (lowL E[j]) out) (E.drop (j + 1)) := by
  rw [List.drop_eq_getElem_cons h]; rfl
theorem nmv_step (out : List (List UInt8)) (V : List (List UInt8)) (k : Nat) (h : k < V.length) : nmV out (V.drop k) = match splitL V[k] with | none => none | some E => match nmE out E with | none => none | some o => nmV o (V.drop (k + 1)) := by
  rw [List.drop_eq_getElem_cons h]; rfl
theorem low_len (l : List UInt8) : (lowL l).length = l.length := by simp [lowL]
/-- What Names answers. -/
def IsNm (w : World) (L : List (List UInt8)) (ok : Bool) (e : Ending) (w' : World) : Prop := ∃ A c, e = .returned (.tuple #[.slice A L.length c, .bool ok]) ∧ SlS w' A L.length c L ∧ Head w' A ∧ Below w.heap.size w w'

set_option maxHeartbeats 16000000 in
set_option maxRecDepth 100000 in
theorem r_names_w (A : Option Addr) (n c : Nat) (L : List Fd) (w : World) (h : SlF w A n c L) (hn : n ≤ 1000) (hB : ∀ x ∈ L, x.2.size ≤ 10000) :
    Calls Tryz.prog 48 #[.slice A n c] w (IsNm w (namL L) (namB L)) := by
  have C1 := Lib.hid (rf_all A n c L vaS w h (by omega) (by decide))
  have hD : namO L = nmV [] (fdAll L vaS) := rfl
  have hL : namL L = (namO L).getD [] := rfl
  have hO : namB L = (namO L).isSome := rfl
  have hVl : (fdAll L vaS).length ≤ 1000 := by
    have h1 : (fdAll L vaS).length ≤ L.length := by unfold fdAll; rw [List.length_map]; exact List.length_filter_le _ _
    have := h.len
    omega
  have hVs : ∀ x ∈ fdAll L vaS, x.length ≤ 10000 := fun x hx => by
    unfold fdAll at hx
    obtain ⟨y, hy, rfl⟩ := List.mem_map.1 hx
    rw [← Lib.size_eq]
    exact hB y (List.mem_filter.1 hy).1
  unfold Vals at C1
  generalize fdAll L vaS = V at *
  unfold vaS at C1
  generalize namO L = O at *
  rw [hL, hO]
  have HD := Lib.hid hD
  have HVS := Lib.hid hVs
  clear hD hL hO h hB hVs
  have none_ret : ∀ wr : World, O = none → Below w.heap.size w wr → IsNm w (O.getD []) O.isSome (.returned (.tuple #[.slice none 0 0, .bool false])) wr := fun wr e hb => by
    subst e
    exact ⟨none, 0, rfl, SlS.none_ _, Head.none_ _, hb⟩
  have HNR := Lib.hid none_ret
  clear none_ret
  go_enter Tryz.func48, Tryz.ntmps48
  go_wp2_with fail
  refine C1.out.mono ?_
  rintro e w1 ⟨A1, c1, rfl, hS, _, hb⟩
  have HS := Lib.hid hS
  have HB1 := Lib.hid hb
  clear hS hb
  go_wp2_with fail
  go_loopw [4, 6] (fun v i wr => ∃ (k : Nat) (X : List (List UInt8)), k ≤ V.length ∧ X.length ≤ k * 10001 ∧ i = .int .i64 k ∧ Hid (OwnS wr w.heap.size 9 v X) ∧ Hid (∀ x ∈ X, x.length ≤ 10000) ∧ Hid (O = nmV X (V.drop k)) ∧ Hid (SlS wr A1 V.length c1 V) ∧ Hid (Below w.heap.size w wr)) (fun _ i _ => V.length - (intOf i).toNat)
  case atStart => exact ⟨0, [], Nat.zero_le _, Nat.zero_le _, rfl, OwnS.nil _ _ _, (fun _ h => absurd h (by simp)), HD.out, HS.out, HB1.out⟩
  case round =>
    clear HS HB1 HD
    obtain ⟨k, X, hk, hX, rfl, HO, HX, hf, HS, HB⟩ := hrel
    by_cases hlt : k < V.length
    · obtain ⟨ad, rfl, hc⟩ := HS.out.at_ (by omega)
      have hcell := hc k V[k] (List.getElem?_eq_getElem hlt)
      have hi0 : (0 : Int) ≤ (k : Int) := by omega
      have hi1 : (k : Int) < (V.length : Int) := by omega
      have hst := nmv_step X V k hlt
      have hvs := HVS.out _ (List.getElem_mem hlt)
      have CS := Lib.hid (fun W => r_split (mkS V[k]) W (by rw [mkS_size]; omega))
      rw [mkS_list] at CS
      generalize hv : V[k] = v at *
      clear hc hv
      cases hsp : splitL v with
      | none =>
        have hON : O = none := by rw [hf.out, hst, hsp]
        rw [(spl_bad v hsp).1, (spl_bad v hsp).2] at CS
        have HON := Lib.hid hON
        clear hf hst hsp hvs hON
        unfold Strs2 at CS
        go_wp2_with fail
        refine (CS.out _).mono ?_
        rintro e w2 ⟨A2, c2, rfl, _, _, hb⟩
        have HB := Lib.hid (below_then HB.out hb)
        clear hb
        go_wp2_with fail
        go_ret2
        exact HNR.out _ HON.out HB.out
      | some E =>
        have hgd := split_good hsp
        have hfe : O = match nmE X E with | none => none | some o => nmV o (V.drop (k + 1)) := by rw [hf.out, hst, hsp]
        rw [(spl_out v E hsp).1, (spl_out v E hsp).2] at CS
        have hEl : E.length ≤ 10001 := by have := hgd.2; omega
        have HES : Hid (∀ x ∈ E, x.length ≤ 10000) := fun x hx => by have := (hgd.1 x hx).2; omega
        have HFE := Lib.hid hfe
        clear hf hst hsp hvs hgd hfe
        unfold Strs2 at CS
        go_wp2_with fail
        refine (CS.out _).mono ?_
        rintro e w2 ⟨A2, c2, rfl, hE, _, hb⟩
        have HE := Lib.hid hE
        have HO := Lib.hid (HO.out.below hb)
        have HS := Lib.hid (HS.out.below hb)
        have HB := Lib.hid (below_then HB.out hb)
        clear hb hE hcell
        go_wp2_with fail
        go_loopw [4, 9] (fun v i wr => ∃ (j : Nat) (Y : List (List UInt8)), j ≤ E.length ∧ Y.length ≤ k * 10001 + j ∧ i = .int .i64 j ∧ Hid (OwnS wr w.heap.size 9 v Y) ∧ Hid (∀ x ∈ Y, x.length ≤ 10000) ∧ Hid (O = match nmE Y (E.drop j) with | none => none | some o => nmV o (V.drop (k + 1))) ∧ Hid (SlS wr A2 E.length c2 E) ∧ Hid (SlS wr (some ad) V.length c1 V) ∧ Hid (Below w.heap.size w wr)) (fun _ i _ => E.length - (intOf i).toNat)
        case atStart => exact ⟨0, X, Nat.zero_le _, hX, rfl, HO.out, HX.out, HFE.out, HE.out, HS.out, HB.out⟩
        case round =>
          clear HO HX HFE HE HS HB
          obtain ⟨j, Y, hj, hY, rfl, HO, HX, hf, HE, HS, HB⟩ := hrel
          by_cases hjl : j < E.length
          · obtain ⟨bd, rfl, hd⟩ := HE.out.at_ (by omega)
            have hcell := hd j E[j] (List.getElem?_eq_getElem hjl)
            have hj0 : (0 : Int) ≤ (j : Int) := by omega
            have hj1 : (j : Int) < (E.length : Int) := by omega
            have hst := nme_step Y E j hjl
            have hes := HES.out _ (List.getElem_mem hjl)
            generalize hv : E[j] = v at *
            have hms : (mkS v).size ≤ 10000 := by rw [mkS_size]; exact hes
            have hle : (mkS v).size ≤ maxLen := Nat.le_trans hms (by decide)
            have CT := Lib.hid (fun W => r_isToken (mkS v) W hle)
            have hemp : (mkS v).toList.isEmpty = v.isEmpty := by rw [Lib.toList_data, mkS_list]
            rw [mkS_list, hemp] at CT
            have CL := Lib.hid (fun W => r_lower (mkS v) W hle)
            rw [mkS_list] at CL
            have h42 : ((mkS v).toList == [42]) = (v == [42]) := by rw [Lib.toList_data, mkS_list]
            obtain ⟨A3, c3, hv3, hSY, _⟩ := HO.out.sls
            subst hv3
            have CP := Lib.hid (fun W (hW : SlS W A3 Y.length c3 Y) => r_put A3 Y.length c3 Y (mkS (lowL v)) W hW (by have : V.length ≤ 1000 := hVl; have := Nat.mul_le_mul_right 10001 (show k ≤ 1000 by omega); omega) (fun x hx => by have := HX.out x hx; omega) (by rw [mkS_size, low_len]; omega))
            rw [mkS_list] at CP
            have HSY := Lib.hid hSY
            have HPL : Hid ((putL (lowL v) Y).length ≤ k * 10001 + (j + 1)) := by show _ ≤ _; have := put_len (lowL v) Y; omega
            have HPM : Hid (∀ x ∈ putL (lowL v) Y, x.length ≤ 10000) := fun x hx => by
              rcases put_mem _ _ _ hx with rfl | hx
              · rw [low_len]; exact hes
              · exact HX.out x hx
            clear hd hv hms hle hemp hSY hes
            cases hq : (v == [42]) with
            | true =>
              rw [hq] at h42
              have hON : O = none := by rw [hf.out, hst, if_pos (.inl (by simpa using hq))]
              have HON := Lib.hid hON
              clear hf hst hON hq CT CL CP
              go_wp2_with fail
              go_ret2
              exact HNR.out _ HON.out HB.out
            | false =>
              rw [hq] at h42
              have hq2 : ¬ v = [42] := by simpa using hq
              cases ht : (!v.isEmpty && allB tokB v) with
              | false =>
                have hON : O = none := by
                  have : (v.isEmpty || !allB tokB v) = true := by
                    revert ht
                    cases v.isEmpty <;> cases allB tokB v <;> simp
                  rw [hf.out, hst, if_pos (.inr this)]
                have HON := Lib.hid hON
                rw [ht] at CT
                clear hf hst hON hq ht CL CP hq2
                go_wp2_with fail
                refine (CT.out _).mono ?_
                rintro e w3 ⟨rfl, rfl⟩
                go_wp2_with fail
                go_ret2
                exact HNR.out _ HON.out HB.out
              | true =>
                have HN : Hid (O = match nmE (putL (lowL v) Y) (E.drop (j + 1)) with | none => none | some o => nmV o (V.drop (k + 1))) := by
                  have : ¬ (v.isEmpty || !allB tokB v) = true := by
                    revert ht
                    cases v.isEmpty <;> cases allB tokB v <;> simp
                  show _ = _
                  rw [hf.out, hst, if_neg (by rintro (e | e); exact hq2 e; exact this e)]
                rw [ht] at CT
                clear hf hst hq ht hq2
                generalize mkS (lowL v) = lv at *
                generalize mkS v = vv at *
                go_wp2_with fail
                refine (CT.out _).mono ?_
                rintro e w3 ⟨rfl, rfl⟩
                go_wp2_with fail
                refine (CL.out _).mono ?_
                rintro e w4 ⟨rfl, hb⟩
                have HSY := Lib.hid (HSY.out.below hb)
                have HE := Lib.hid (HE.out.below hb)
                have HS := Lib.hid (HS.out.below hb)
                have HB := Lib.hid (below_then HB.out hb)
                clear hb hcell HO
                go_wp2_with fail
                refine (CP.out _ HSY.out).mono ?_
                rintro e w5 ⟨v5, rfl, ho, hb⟩
                have HO := Lib.hid (ownS_wide ho HB.out.size)
                have HE := Lib.hid (HE.out.below hb)
                have HS := Lib.hid (HS.out.below hb)
                have HB := Lib.hid (below_then HB.out hb)
                clear hb ho HSY
                go_wp2_with fail
                go_roundw
                case rel => exact ⟨j + 1, _, by omega, HPL.out, by go_num, HO.out, HPM.out, HN, HE.out, HS.out, HB.out⟩
                case measure => simp [intOf]; omega
          · have hj1 : ¬ (j : Int) < (E.length : Int) := by omega
            have HN : Hid (O = nmV Y (V.drop (k + 1))) := by
              show _ = _
              rw [hf.out, List.drop_eq_nil_of_le (by omega)]; rfl
            clear hf
            go_wp2_with fail
            go_roundw
            case rel => exact ⟨k + 1, Y, by omega, by have := hEl; rw [Nat.add_mul]; omega, by go_num, HO.out, HX.out, HN, HS.out, HB.out⟩
            case measure => simp [intOf]; omega
    · have hON : O = some X := by rw [hf.out, List.drop_eq_nil_of_le (by omega)]; rfl
      have hi1 : ¬ (k : Int) < (V.length : Int) := by omega
      have HON := Lib.hid hON
      obtain ⟨A3, c3, hv3, hSY, hH⟩ := HO.out.sls
      subst hv3
      have HSY := Lib.hid hSY
      have HH := Lib.hid hH
      clear hf hON hSY hH
      go_wp2_with fail
      go_ret2
      show IsNm _ _ _ _ _
      rw [HON.out]
      exact ⟨A3, c3, rfl, HSY.out, HH.out, HB.out⟩

end Go.Proofs.YtnembpklidcgoaaGreatDoor
end
