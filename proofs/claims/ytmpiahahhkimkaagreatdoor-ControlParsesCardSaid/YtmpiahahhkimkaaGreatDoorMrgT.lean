/-
  Texts that the laws of this seat lean on, one behind the other.
-/
import Derived.Test.YtmpiahahhkimkaaGreatDoorMrgS
import Derived.Test.YtmpiahahhkimkaaGreatDoorMrgO
import Derived.Test.YtmpiahahhkimkaaGreatDoorMrgR
import Derived.Test.YtmpiahahhkimkaaGreatDoorMrgK
import Derived.Test.YtmpiahahhkimkaaGreatDoorRows
import Derived.Test.YtmpiahahhkimkaaGreatDoorMrgB
/-
  Contracts of package control's Parse and Asked.
-/
section
namespace Go.Proofs.YtmpiahahhkimkaaGreatDoor
open Go.RowKit

theorem ctP_fold (L : List Fd) : ctP L = if fnV (fdAll L ccS) = true then (dvs (fdAll L ccS)).foldl stepC ct0 else { (dvs (fdAll L ccS)).foldl stepC ct0 with ns := true, nc := true } := ctD_fold _ _
set_option maxHeartbeats 16000000 in
set_option maxRecDepth 100000 in
theorem ctlP_any (A : Option Addr) (n c : Nat) (L : List Fd) (w : World) (h : SlF w A n c L) (hn : n ≤ 1000) (hB : ∀ x ∈ L, x.2.size ≤ 10000) (hBd : ∀ x ∈ L, Bd x) :
    Calls Tryz.prog 6 #[.slice A n c] w fun e w' => e = .returned (.agg (ctC (ctP L))) ∧ Below w.heap.size w w' := by
  have HZ : Hid ((w.alloc (.cells #[.bool false, .bool false, .bool false, .bool false, .bool false, .bool false, .int .i64 0, .int .i64 0, .int .i64 0] 26)).heap[w.heap.size]? = some (.cells #[.bool false, .bool false, .bool false, .bool false, .bool false, .bool false, .int .i64 0, .int .i64 0, .int .i64 0] 26 (0, 0))) := heap_alloc_new w _
  have HB : Hid (Below w.heap.size w (w.alloc (.cells #[.bool false, .bool false, .bool false, .bool false, .bool false, .bool false, .int .i64 0, .int .i64 0, .int .i64 0] 26))) := (Below.refl _ _).alloc (Nat.le_refl _) _
  have hctP := ctP_fold L
  have hVz : ∀ x ∈ fdAll L ccS, x.length ≤ 10000 := fun x hx => by
    unfold fdAll at hx
    obtain ⟨y, hy, rfl⟩ := List.mem_map.1 hx
    rw [← Lib.size_eq]
    exact hB y (List.mem_filter.1 hy).1
  have hVn : (fdAll L ccS).length ≤ 1000 := by
    unfold fdAll
    rw [List.length_map]
    exact Nat.le_trans (List.length_filter_le _ _) (by rw [h.len]; exact hn)
  have CA := Lib.hid (fun W (hW : Below w.heap.size w W) => all_any A n c L ccS W (h.below hW) (by omega) hBd ccS_le)
  unfold ccS at CA
  have hcc : (⟨#[67, 97, 99, 104, 101, 45, 67, 111, 110, 116, 114, 111, 108]⟩ : ByteArray) = ccS := rfl
  generalize hV : fdAll L ccS = V at *
  rw [hcc, hV] at CA
  unfold ccS at CA
  clear hcc hV
  obtain ⟨Z, hZ⟩ : ∃ Z, Z = ctP L := ⟨_, rfl⟩
  rw [← hZ] at hctP ⊢
  have HCT := Lib.hid hctP
  have CV := Lib.hid (fun (A' : Option Addr) d R D W hS hh hR => visit_any A' V.length d V R D ct0 W hS hh hR hVn hVz)
  generalize (dvs V).foldl stepC ct0 = cf at *
  clear hctP hZ h hn hB hBd hVz
  have mixed : Tryz.prog.follows .mixedOrders = true := by kernel_rfl
  go_enter Tryz.func6, Tryz.ntmps6
  go_wp2_with fail
  refine (dirs_any _).mono ?_
  rintro e w1 ⟨D, hD0, hD1, rfl, hT, hb1⟩
  have HZ1 := Lib.hid (zero_still hb1 HZ.out)
  have HB1 := Lib.hid (below_then HB.out hb1)
  have HT1 := Lib.hid hT
  have HD1 := Lib.hid hD1
  clear hb1 hT hD0 hD1
  go_wp2_with fail
  have HBA := Lib.hid (HB1.out.alloc HB1.out.size (.cells (rdC D ct0) 37))
  refine (CA.out _ HBA.out).mono ?_
  rintro e w2 ⟨A1, c1, rfl, hS2, hh2, hb2⟩
  have hR0 : Rdr (w1.alloc (.cells (rdC D ct0) 37)) w1.heap.size D ct0 := ⟨heap_alloc_new w1 _, fun j x hx => Lib.cell?_alloc_some _ (HT1.out j x hx), Nat.ne_of_lt HD1.out⟩
  have HR2 := Lib.hid (hR0.below hb2)
  have HZ2 := Lib.hid (zero_still hb2 (zero_more HZ1.out))
  have HB2 := Lib.hid (below_then HBA.out hb2)
  have HS2 := Lib.hid hS2
  have HH2 := Lib.hid hh2
  clear hR0 hb2 hS2 hh2
  go_wp2_with fail
  refine (CV.out A1 c1 _ D _ HS2.out HH2.out HR2.out).mono ?_
  rintro e w3 ⟨rfl, hR3, hbt⟩
  have hP : w.heap.size < w1.heap.size := (Array.getElem?_eq_some_iff.1 HZ1.out).1
  have HZ3 := Lib.hid ((hbt.block _ (Array.getElem?_eq_some_iff.1 HZ2.out).1 (Nat.ne_of_lt hP)).trans HZ2.out)
  have HB3 := Lib.hid (HB2.out.trans (hbt.below HB2.out.size (Nat.le_of_lt hP)))
  have HP := Lib.hid hP
  generalize w1.heap.size = R at *
  obtain ⟨ns, nc, pv, pu, mc, oi, ma, sh, mf⟩ := cf
  have row : w3.heap[R]? = some (.cells #[.slice (some ⟨D, 0, none⟩) 10 10, .bool ns, .bool nc, .bool pv, .bool pu, .bool mc, .bool oi, .int .i64 ma, .int .i64 sh, .int .i64 mf] 37 (0, 0)) := hR3.row
  have ROW := Lib.hid row
  clear hbt hR3 hP row CV CA HR2 HS2 HH2 HZ2 HB2 HBA HZ1 HB1 HT1 HD1 HB HZ
  cases hf : fnV V with
  | true =>
    rw [hf] at HCT
    rw [if_pos rfl] at HCT
    obtain ⟨k1, f1⟩ := rd_at ROW.out 1 _ rfl
    obtain ⟨k2, f2⟩ := rd_at ROW.out 2 _ rfl
    obtain ⟨k3, f3⟩ := rd_at ROW.out 3 _ rfl
    obtain ⟨k4, f4⟩ := rd_at ROW.out 4 _ rfl
    obtain ⟨k5, f5⟩ := rd_at ROW.out 5 _ rfl
    obtain ⟨k6, f6⟩ := rd_at ROW.out 6 _ rfl
    obtain ⟨k7, f7⟩ := rd_at ROW.out 7 _ rfl
    obtain ⟨k8, f8⟩ := rd_at ROW.out 8 _ rfl
    obtain ⟨k9, f9⟩ := rd_at ROW.out 9 _ rfl
    clear hf
    go_wp2_with (refine wpList_store_row rfl _ _ _ rfl w.heap.size #[.bool ns, .bool nc, .bool pv, .bool pu, .bool mc, .bool oi, .int .i64 ma, .int .i64 sh, .int .i64 mf] rfl rfl 26 _ HZ3.out (by kernel_rfl) rfl (by simp [Value.oneCell']) ?_)
    try simp only [Exit.inBlock, Exit.then]
    refine bodyPost_ret (results_cell_row rfl _ _ w.heap.size 26 #[.bool ns, .bool nc, .bool pv, .bool pu, .bool mc, .bool oi, .int .i64 ma, .int .i64 sh, .int .i64 mf] (0, 0) _ rfl (setRow_heap _ _ _ _ _ _ HZ3.out) Tryz.underlying26 rfl (by kernel_rfl)) rfl ?_
    exact ⟨by rw [HCT.out]; rfl, below_setRow HB3.out (Nat.le_refl _) _⟩
  | false =>
    rw [hf] at HCT
    rw [if_neg (by simp)] at HCT
    obtain ⟨k1, f1⟩ := rd_at ROW.out 1 _ rfl
    obtain ⟨k2, f2⟩ := rd_at ROW.out 2 _ rfl
    obtain ⟨k3, f3⟩ := rd_at ROW.out 3 _ rfl
    obtain ⟨k4, f4⟩ := rd_at ROW.out 4 _ rfl
    obtain ⟨k5, f5⟩ := rd_at ROW.out 5 _ rfl
    obtain ⟨k6, f6⟩ := rd_at ROW.out 6 _ rfl
    obtain ⟨k7, f7⟩ := rd_at ROW.out 7 _ rfl
    obtain ⟨k8, f8⟩ := rd_at ROW.out 8 _ rfl
    obtain ⟨k9, f9⟩ := rd_at ROW.out 9 _ rfl
    have hne : R ≠ w.heap.size := Nat.ne_of_gt HP.out
    have HZ4 : Hid (((w3.setCell ⟨R, 1, none⟩ (.bool true)).setCell ⟨R, 2, none⟩ (.bool true)).heap[w.heap.size]? = some (.cells #[.bool false, .bool false, .bool false, .bool false, .bool false, .bool false, .int .i64 0, .int .i64 0, .int .i64 0] 26 (0, 0))) := by
      show _ = _
      rw [Below.heap_setCell _ _ _ _ (Ne.symm hne), Below.heap_setCell _ _ _ _ (Ne.symm hne)]
      exact HZ3.out
    have HB4 : Hid (Below w.heap.size w ((w3.setCell ⟨R, 1, none⟩ (.bool true)).setCell ⟨R, 2, none⟩ (.bool true))) := (HB3.out.setCell (p := ⟨R, 1, none⟩) (Nat.le_of_lt HP.out) _).setCell (p := ⟨R, 2, none⟩) (Nat.le_of_lt HP.out) _
    clear hf hne
    go_wp2_with (refine wpList_store_row rfl _ _ _ rfl w.heap.size #[.bool true, .bool true, .bool pv, .bool pu, .bool mc, .bool oi, .int .i64 ma, .int .i64 sh, .int .i64 mf] rfl rfl 26 _ HZ4.out (by kernel_rfl) rfl (by simp [Value.oneCell']) ?_)
    try simp only [Exit.inBlock, Exit.then]
    refine bodyPost_ret (results_cell_row rfl _ _ w.heap.size 26 #[.bool true, .bool true, .bool pv, .bool pu, .bool mc, .bool oi, .int .i64 ma, .int .i64 sh, .int .i64 mf] (0, 0) _ rfl (setRow_heap _ _ _ _ _ _ HZ4.out) Tryz.underlying26 rfl (by kernel_rfl)) rfl ?_
    exact ⟨by rw [HCT.out]; rfl, below_setRow HB4.out (Nat.le_refl _) _⟩

set_option maxHeartbeats 16000000 in
set_option maxRecDepth 100000 in
theorem ctlA_any (A : Option Addr) (n c : Nat) (L : List Fd) (w : World) (h : SlF w A n c L) (hn : n ≤ 1000) (hB : ∀ x ∈ L, x.2.size ≤ 10000) (hBd : ∀ x ∈ L, Bd x) :
    Calls Tryz.prog 8 #[.slice A n c] w fun e w' => e = .returned (.agg (ctC (ctA L))) ∧ Below w.heap.size w w' := by
  have HZ : Hid ((w.alloc (.cells #[.bool false, .bool false, .bool false, .bool false, .bool false, .bool false, .int .i64 0, .int .i64 0, .int .i64 0] 26)).heap[w.heap.size]? = some (.cells #[.bool false, .bool false, .bool false, .bool false, .bool false, .bool false, .int .i64 0, .int .i64 0, .int .i64 0] 26 (0, 0))) := heap_alloc_new w _
  have HB : Hid (Below w.heap.size w (w.alloc (.cells #[.bool false, .bool false, .bool false, .bool false, .bool false, .bool false, .int .i64 0, .int .i64 0, .int .i64 0] 26))) := (Below.refl _ _).alloc (Nat.le_refl _) _
  have hVz : ∀ x ∈ fdAll L ccS, x.length ≤ 10000 := fun x hx => by
    unfold fdAll at hx
    obtain ⟨y, hy, rfl⟩ := List.mem_map.1 hx
    rw [← Lib.size_eq]
    exact hB y (List.mem_filter.1 hy).1
  have hVn : (fdAll L ccS).length ≤ 1000 := by
    unfold fdAll
    rw [List.length_map]
    exact Nat.le_trans (List.length_filter_le _ _) (by rw [h.len]; exact hn)
  have hJ : (Lib.join (fdAll L ccS) [44, 32]).length ≤ 1000000000000 := Nat.le_trans (join_le _ 1000 10000 hVn hVz) (by decide)
  have hA : ctA L = if fdGot L ccS = false ∧ fdHas L prS ncS = true then { ctP L with nc := true } else ctP L := by
    unfold ctA fdGot
    cases fdAll L ccS <;> simp
  have C1 := Lib.hid (fun W (hW : Below w.heap.size w W) => ctlP_any A n c L W (h.below hW) hn hB hBd)
  have C2 := Lib.hid (fun W (hW : Below w.heap.size w W) => getF_any A n c L ccS W (h.below hW) (by omega) hBd ccS_le hJ)
  have C3 := Lib.hid (fun W (hW : Below w.heap.size w W) => hasF_any A n c L prS ncS W (h.below hW) (by omega) hBd (by decide) (by decide))
  generalize fdGot L ccS = got at *
  generalize fdGet L ccS = gtt at *
  generalize fdHas L prS ncS = has at *
  generalize ctP L = P at *
  unfold ccS at C2
  unfold prS ncS at C3
  obtain ⟨Z, hZ⟩ : ∃ Z, Z = ctA L := ⟨_, rfl⟩
  rw [← hZ] at hA ⊢
  have HA := Lib.hid hA
  clear h hn hB hBd hVz hVn hJ hA hZ
  obtain ⟨ns, nc, pv, pu, mc, oi, ma, sh, mf⟩ := P
  unfold ctC at C1
  simp only at C1
  go_enter Tryz.func8, Tryz.ntmps8
  go_wp2_with fail
  refine (C1.out _ HB.out).mono ?_
  rintro e w1 ⟨rfl, hb1⟩
  have HZ1 := Lib.hid (zero_still hb1 HZ.out)
  have HB1 := Lib.hid (below_then HB.out hb1)
  clear hb1 C1
  go_wp2_with fail
  have HBA := Lib.hid (HB1.out.alloc HB1.out.size (.cells #[.bool ns, .bool nc, .bool pv, .bool pu, .bool mc, .bool oi, .int .i64 ma, .int .i64 sh, .int .i64 mf] 26))
  refine (C2.out _ HBA.out).mono ?_
  rintro e w2 ⟨rfl, hb2⟩
  have HC2 : Hid (w2.heap[w1.heap.size]? = some (.cells #[.bool ns, .bool nc, .bool pv, .bool pu, .bool mc, .bool oi, .int .i64 ma, .int .i64 sh, .int .i64 mf] 26 (0, 0))) := zero_still hb2 (heap_alloc_new w1 _)
  have HZ2 := Lib.hid (zero_still hb2 (zero_more HZ1.out))
  have HB2 := Lib.hid (below_then HBA.out hb2)
  have HP := Lib.hid (show w.heap.size < w1.heap.size from (Array.getElem?_eq_some_iff.1 HZ1.out).1)
  clear hb2 C2 HBA HB1 HZ1 HZ HB
  generalize w1.heap.size = R at *
  cases got with
  | true =>
    have HAF : Hid (Z = ⟨ns, nc, pv, pu, mc, oi, ma, sh, mf⟩) := by
      have := HA.out
      rwa [if_neg (by simp)] at this
    obtain ⟨k0, f0⟩ := rd_at HC2.out 0 _ rfl
    obtain ⟨k1, f1⟩ := rd_at HC2.out 1 _ rfl
    obtain ⟨k2, f2⟩ := rd_at HC2.out 2 _ rfl
    obtain ⟨k3, f3⟩ := rd_at HC2.out 3 _ rfl
    obtain ⟨k4, f4⟩ := rd_at HC2.out 4 _ rfl
    obtain ⟨k5, f5⟩ := rd_at HC2.out 5 _ rfl
    obtain ⟨k6, f6⟩ := rd_at HC2.out 6 _ rfl
    obtain ⟨k7, f7⟩ := rd_at HC2.out 7 _ rfl
    obtain ⟨k8, f8⟩ := rd_at HC2.out 8 _ rfl
    clear HA C3
    go_wp2_with (refine wpList_store_row rfl _ _ _ rfl w.heap.size #[.bool ns, .bool nc, .bool pv, .bool pu, .bool mc, .bool oi, .int .i64 ma, .int .i64 sh, .int .i64 mf] rfl rfl 26 _ HZ2.out (by kernel_rfl) rfl (by simp [Value.oneCell']) ?_)
    try simp only [Exit.inBlock, Exit.then]
    refine bodyPost_ret (results_cell_row rfl _ _ w.heap.size 26 #[.bool ns, .bool nc, .bool pv, .bool pu, .bool mc, .bool oi, .int .i64 ma, .int .i64 sh, .int .i64 mf] (0, 0) _ rfl (setRow_heap _ _ _ _ _ _ HZ2.out) Tryz.underlying26 rfl (by kernel_rfl)) rfl ?_
    exact ⟨by rw [HAF.out]; rfl, below_setRow HB2.out (Nat.le_refl _) _⟩
  | false =>
    go_wp2_with fail
    refine (C3.out _ HB2.out).mono ?_
    rintro e w3 ⟨rfl, hb3⟩
    have HC3 := Lib.hid (zero_still hb3 HC2.out)
    have HZ3 := Lib.hid (zero_still hb3 HZ2.out)
    have HB3 := Lib.hid (below_then HB2.out hb3)
    clear hb3 C3 HC2 HZ2 HB2
    cases has with
    | false =>
      have HAF : Hid (Z = ⟨ns, nc, pv, pu, mc, oi, ma, sh, mf⟩) := by
        have := HA.out
        rwa [if_neg (by simp)] at this
      obtain ⟨k0, f0⟩ := rd_at HC3.out 0 _ rfl
      obtain ⟨k1, f1⟩ := rd_at HC3.out 1 _ rfl
      obtain ⟨k2, f2⟩ := rd_at HC3.out 2 _ rfl
      obtain ⟨k3, f3⟩ := rd_at HC3.out 3 _ rfl
      obtain ⟨k4, f4⟩ := rd_at HC3.out 4 _ rfl
      obtain ⟨k5, f5⟩ := rd_at HC3.out 5 _ rfl
      obtain ⟨k6, f6⟩ := rd_at HC3.out 6 _ rfl
      obtain ⟨k7, f7⟩ := rd_at HC3.out 7 _ rfl
      obtain ⟨k8, f8⟩ := rd_at HC3.out 8 _ rfl
      clear HA
      go_wp2_with (refine wpList_store_row rfl _ _ _ rfl w.heap.size #[.bool ns, .bool nc, .bool pv, .bool pu, .bool mc, .bool oi, .int .i64 ma, .int .i64 sh, .int .i64 mf] rfl rfl 26 _ HZ3.out (by kernel_rfl) rfl (by simp [Value.oneCell']) ?_)
      try simp only [Exit.inBlock, Exit.then]
      refine bodyPost_ret (results_cell_row rfl _ _ w.heap.size 26 #[.bool ns, .bool nc, .bool pv, .bool pu, .bool mc, .bool oi, .int .i64 ma, .int .i64 sh, .int .i64 mf] (0, 0) _ rfl (setRow_heap _ _ _ _ _ _ HZ3.out) Tryz.underlying26 rfl (by kernel_rfl)) rfl ?_
      exact ⟨by rw [HAF.out]; rfl, below_setRow HB3.out (Nat.le_refl _) _⟩
    | true =>
      have HAF : Hid (Z = ⟨ns, true, pv, pu, mc, oi, ma, sh, mf⟩) := by
        have := HA.out
        rwa [if_pos (by simp)] at this
      obtain ⟨k0, f0⟩ := rd_at HC3.out 0 _ rfl
      obtain ⟨k1, f1⟩ := rd_at HC3.out 1 _ rfl
      obtain ⟨k2, f2⟩ := rd_at HC3.out 2 _ rfl
      obtain ⟨k3, f3⟩ := rd_at HC3.out 3 _ rfl
      obtain ⟨k4, f4⟩ := rd_at HC3.out 4 _ rfl
      obtain ⟨k5, f5⟩ := rd_at HC3.out 5 _ rfl
      obtain ⟨k6, f6⟩ := rd_at HC3.out 6 _ rfl
      obtain ⟨k7, f7⟩ := rd_at HC3.out 7 _ rfl
      obtain ⟨k8, f8⟩ := rd_at HC3.out 8 _ rfl
      have hne : R ≠ w.heap.size := Nat.ne_of_gt HP.out
      have HZ4 : Hid ((w3.setCell ⟨R, 1, none⟩ (.bool true)).heap[w.heap.size]? = some (.cells #[.bool false, .bool false, .bool false, .bool false, .bool false, .bool false, .int .i64 0, .int .i64 0, .int .i64 0] 26 (0, 0))) := by
        show _ = _
        rw [Below.heap_setCell _ _ _ _ (Ne.symm hne)]
        exact HZ3.out
      have HB4 : Hid (Below w.heap.size w (w3.setCell ⟨R, 1, none⟩ (.bool true))) := HB3.out.setCell (p := ⟨R, 1, none⟩) (Nat.le_of_lt HP.out) _
      clear hne HA
      go_wp2_with (refine wpList_store_row rfl _ _ _ rfl w.heap.size #[.bool ns, .bool true, .bool pv, .bool pu, .bool mc, .bool oi, .int .i64 ma, .int .i64 sh, .int .i64 mf] rfl rfl 26 _ HZ4.out (by kernel_rfl) rfl (by simp [Value.oneCell']) ?_)
      try simp only [Exit.inBlock, Exit.then]
      refine bodyPost_ret (results_cell_row rfl _ _ w.heap.size 26 #[.bool ns, .bool true, .bool pv, .bool pu, .bool mc, .bool oi, .int .i64 ma, .int .i64 sh, .int .i64 mf] (0, 0) _ rfl (setRow_heap _ _ _ _ _ _ HZ4.out) Tryz.underlying26 rfl (by kernel_rfl)) rfl ?_
      exact ⟨by rw [HAF.out]; rfl, below_setRow HB4.out (Nat.le_refl _) _⟩

end Go.Proofs.YtmpiahahhkimkaaGreatDoor
end

/-
  Contracts of package control's numbered and Print.
-/
section
namespace Go.Proofs.YtmpiahahhkimkaaGreatDoor
open Go.RowKit

theorem cel9a {W : World} {g t : Nat} {c0 c1 c2 c3 c4 c5 c6 c7 c8 : Value} (h : W.heap[g]? = some (.cells #[c0, c1, c2, c3, c4, c5, c6, c7, c8] t (0, 0))) :
    W.cell? ⟨g, 0, none⟩ = some c0 ∧ W.cell? ⟨g, 1, none⟩ = some c1 ∧ W.cell? ⟨g, 2, none⟩ = some c2 ∧ W.cell? ⟨g, 3, none⟩ = some c3 ∧ W.cell? ⟨g, 4, none⟩ = some c4 ∧ W.cell? ⟨g, 5, none⟩ = some c5 ∧ W.cell? ⟨g, 6, none⟩ = some c6 ∧ W.cell? ⟨g, 7, none⟩ = some c7 ∧ W.cell? ⟨g, 8, none⟩ = some c8 := by
  refine ⟨?_, ?_, ?_, ?_, ?_, ?_, ?_, ?_, ?_⟩ <;> (rw [cell_of_row W g _ _ _ _ h]; rfl)
theorem powL_kept {w w' : World} (h : Pow10 w) (hb : Below w.heap.size w w') : Pow10 w' := tab_below h hb
/-- A directive with its number. -/
def numS (nm : ByteArray) (n : Int) : ByteArray := nm ++ ⟨#[61]⟩ ++ mkS (plainL n)
theorem numS_size (nm : ByteArray) (n : Int) (h : nm.size ≤ 100) (hn : -9223372036854775808 ≤ n ∧ n ≤ 9223372036854775807) : (numS nm n).size ≤ 130 := by
  unfold numS
  have := plainL_short n hn.1 hn.2
  rw [ByteArray.size_append, ByteArray.size_append, mkS_size]
  show nm.size + 1 + _ ≤ _
  omega

theorem numd_any (nm : ByteArray) (n : Int) (h : nm.size ≤ 100) (hn : -9223372036854775808 ≤ n ∧ n ≤ 9223372036854775807) (w : World) (ht : Pow10 w) :
    Calls Tryz.prog 25 #[.string nm, .int .i64 n] w fun e w' => e = .returned (.string (numS nm n)) ∧ Below w.heap.size w w' := by
  have CP := Lib.hid (plain_any n hn.1 hn.2 w ht)
  have hz : (mkS (plainL n)).size ≤ 20 := by rw [mkS_size]; exact plainL_short n hn.1 hn.2
  unfold numS
  generalize mkS (plainL n) = D at *
  have hs1 : (⟨#[61]⟩ : ByteArray).size = 1 := rfl
  have k1 : ¬ 9223372036854775807 < nm.size + 1 := by omega
  have k2 : ¬ 9223372036854775807 < nm.size + 1 + D.size := by omega
  clear hn ht
  go_enter Tryz.func25, Tryz.ntmps25
  go_wp2_with fail
  refine CP.out.mono ?_
  rintro e w1 ⟨rfl, hb1⟩
  go_wp2_with fail
  go_ret
  exact ⟨rfl, hb1⟩

/-- The rows of what may be printed. -/
def prL (c : Ctl) (s1 s2 s3 : ByteArray) : List (Bool × ByteArray) := [(c.ns, nsS), (c.nc, ncS), (c.pv, pvS), (c.pu, puS), (c.mc, mrS), (c.oi, oiS), (decide (0 ≤ c.ma), s1), (decide (0 ≤ c.sh), s2), (decide (0 ≤ c.mf), s3)]
def prF (p : Bool × ByteArray) : List (List UInt8) := if p.1 then [p.2.data.toList] else []
theorem prL_eq (c : Ctl) : (prL c (numS maS c.ma) (numS smS c.sh) (numS mfS c.mf)).flatMap prF = ctL c := by
  have h1 : (numS maS c.ma).data.toList = maE.data.toList ++ plainL c.ma := by
    unfold numS; rw [append_list, append_list, mkS_list]; rfl
  have h2 : (numS smS c.sh).data.toList = smE.data.toList ++ plainL c.sh := by
    unfold numS; rw [append_list, append_list, mkS_list]; rfl
  have h3 : (numS mfS c.mf).data.toList = mfE.data.toList ++ plainL c.mf := by
    unfold numS; rw [append_list, append_list, mkS_list]; rfl
  unfold prL ctL
  simp only [List.flatMap_cons, List.flatMap_nil, prF, h1, h2, h3, decide_eq_true_eq, List.append_nil, List.append_assoc]
theorem prF_len (L : List (Bool × ByteArray)) : (L.flatMap prF).length ≤ L.length := by
  induction L with
  | nil => exact Nat.le_refl _
  | cons p L ih =>
    rw [List.flatMap_cons, List.length_append, List.length_cons]
    have : (prF p).length ≤ 1 := by unfold prF; split <;> simp
    omega
theorem prF_snoc (L : List (Bool × ByteArray)) (k : Nat) (h : k < L.length) : (L.take (k + 1)).flatMap prF = (L.take k).flatMap prF ++ prF L[k] := by
  rw [List.take_succ_eq_append_getElem h, List.flatMap_append]
  simp
def prC (L : List (Bool × ByteArray)) : List Value := L.flatMap fun p => [.bool p.1, .string p.2]
theorem prC_at : ∀ (L : List (Bool × ByteArray)) (j : Nat) (x : Bool × ByteArray), L[j]? = some x → (prC L)[j * 2]? = some (.bool x.1) ∧ (prC L)[j * 2 + 1]? = some (.string x.2)
  | [], j, x, h => by simp at h
  | y :: L, 0, x, h => by
    simp only [List.getElem?_cons_zero, Option.some.injEq] at h
    subst h
    exact ⟨rfl, rfl⟩
  | y :: L, j + 1, x, h => by
    rw [List.getElem?_cons_succ] at h
    have := prC_at L j x h
    have e : prC (y :: L) = .bool y.1 :: .string y.2 :: prC L := rfl
    rw [e, show (j + 1) * 2 = j * 2 + 1 + 1 by omega, show j * 2 + 1 + 1 + 1 = (j * 2 + 1) + 1 + 1 by omega]
    simpa using this

set_option maxHeartbeats 16000000 in
set_option maxRecDepth 100000 in
theorem ctlS_any (c : Ctl) (h : CtB c) (w : World) (ht : Pow10 w) :
    Calls Tryz.prog 11 #[.agg (ctC c)] w fun e w' => e = .returned (.string (ctS c)) ∧ Below w.heap.size w w' := by
  have hS : ctS c = mkS (Lib.join ((prL c (numS maS c.ma) (numS smS c.sh) (numS mfS c.mf)).flatMap prF) [44, 32]) := by unfold ctS; rw [prL_eq]
  rw [hS]
  have z1 := numS_size maS c.ma (by decide) h.1
  have z2 := numS_size smS c.sh (by decide) h.2.1
  have z3 := numS_size mfS c.mf (by decide) h.2.2
  have C1 := Lib.hid (fun W (hW : Below w.heap.size w W) => numd_any maS c.ma (by decide) h.1 W (powL_kept ht hW))
  have C2 := Lib.hid (fun W (hW : Below w.heap.size w W) => numd_any smS c.sh (by decide) h.2.1 W (powL_kept ht hW))
  have C3 := Lib.hid (fun W (hW : Below w.heap.size w W) => numd_any mfS c.mf (by decide) h.2.2 W (powL_kept ht hW))
  generalize numS maS c.ma = s1 at *
  generalize numS smS c.sh = s2 at *
  generalize numS mfS c.mf = s3 at *
  have hPz : ∀ p ∈ prL c s1 s2 s3, p.2.size ≤ 130 := fun p hp => by
    simp only [prL, List.mem_cons, List.not_mem_nil, or_false] at hp
    rcases hp with rfl | rfl | rfl | rfl | rfl | rfl | rfl | rfl | rfl
    iterate 6 (dsimp only; decide)
    · exact z1
    · exact z2
    · exact z3
  have hPl : (prL c s1 s2 s3).length = 9 := rfl
  obtain ⟨ns, nc, pv, pu, mc, oi, ma, sh, mf⟩ := c
  have hPC : (prC (prL ⟨ns, nc, pv, pu, mc, oi, ma, sh, mf⟩ s1 s2 s3)).toArray = #[.bool ns, .string ⟨#[110, 111, 45, 115, 116, 111, 114, 101]⟩, .bool nc, .string ⟨#[110, 111, 45, 99, 97, 99, 104, 101]⟩, .bool pv, .string ⟨#[112, 114, 105, 118, 97, 116, 101]⟩, .bool pu, .string ⟨#[112, 117, 98, 108, 105, 99]⟩, .bool mc, .string ⟨#[109, 117, 115, 116, 45, 114, 101, 118, 97, 108, 105, 100, 97, 116, 101]⟩, .bool oi, .string ⟨#[111, 110, 108, 121, 45, 105, 102, 45, 99, 97, 99, 104, 101, 100]⟩, .bool (decide (0 ≤ ma)), .string s1, .bool (decide (0 ≤ sh)), .string s2, .bool (decide (0 ≤ mf)), .string s3] := rfl
  unfold ctC
  simp only at C1 C2 C3 h ⊢
  unfold maS at C1
  unfold smS at C2
  unfold mfS at C3
  generalize prL ⟨ns, nc, pv, pu, mc, oi, ma, sh, mf⟩ s1 s2 s3 = PL at *
  have Z0 : Hid ((w.alloc (.cells #[.bool ns, .bool nc, .bool pv, .bool pu, .bool mc, .bool oi, .int .i64 ma, .int .i64 sh, .int .i64 mf] 26)).drew.heap[w.heap.size]? = some (.cells #[.bool ns, .bool nc, .bool pv, .bool pu, .bool mc, .bool oi, .int .i64 ma, .int .i64 sh, .int .i64 mf] 26 (0, 0))) := heap_alloc_new w _
  have HB : Hid (Below w.heap.size w (w.alloc (.cells #[.bool ns, .bool nc, .bool pv, .bool pu, .bool mc, .bool oi, .int .i64 ma, .int .i64 sh, .int .i64 mf] 26)).drew) := ((Below.refl _ _).alloc (Nat.le_refl _) _).drew
  have HPC := Lib.hid hPC
  have HPL := Lib.hid hPl
  have HPZ := Lib.hid hPz
  clear h ht hS z1 z2 z3 hPC hPl hPz
  go_enter Tryz.func11, Tryz.ntmps11
  go_wp2_with fail
  go_region_held3 (fun W => W.cell? ⟨w.heap.size, 0, none⟩ = some (.bool ns) ∧ W.cell? ⟨w.heap.size, 1, none⟩ = some (.bool nc) ∧ W.cell? ⟨w.heap.size, 2, none⟩ = some (.bool pv) ∧ W.cell? ⟨w.heap.size, 3, none⟩ = some (.bool pu) ∧ W.cell? ⟨w.heap.size, 4, none⟩ = some (.bool mc) ∧ W.cell? ⟨w.heap.size, 5, none⟩ = some (.bool oi) ∧ W.cell? ⟨w.heap.size, 6, none⟩ = some (.int .i64 ma) ∧ W.cell? ⟨w.heap.size, 7, none⟩ = some (.int .i64 sh) ∧ W.cell? ⟨w.heap.size, 8, none⟩ = some (.int .i64 mf)) (first | exact cel9a Z0.out | exact cel9a (zero_more Z0.out)) (first
    | (go_at_call 25; refine (by first | exact C1.out _ HB.out | exact C2.out _ HB.out | exact C3.out _ HB.out : Calls _ _ _ _ _).mono ?_; rintro e w5 ⟨rfl, hb⟩; have HB := Lib.hid (below_then HB.out hb); have Z0 := Lib.hid (zero_still hb Z0.out); clear hb))
  have hCS : ∀ (j : Nat) (x : Value), (prC PL)[j]? = some x → (prC PL).toArray[j]? = some x := fun j x hx => by simpa using hx
  rw [HPC.out] at hCS
  have hT := SlV.new w5 49 hCS
  have hB6 := HB.out.alloc HB.out.size (.cells (prC PL).toArray 49)
  rw [HPC.out] at hB6
  generalize World.alloc w5 (.cells _ 49) = W at *
  have HT := Lib.hid hT
  have HB6 := Lib.hid hB6
  have hP0 : PL.length = 9 := HPL.out
  obtain ⟨q0, q1⟩ := prC_at PL 0 _ (List.getElem?_eq_getElem (by omega))
  have hG : w5.heap.size < W.heap.size := World.block_lt_of_cell? W _ (hT _ _ q0)
  have HG := Lib.hid hG
  clear q0 q1 hT hB6 hCS HB Z0 C1 C2 C3 HPC hP0 hG
  generalize w5.heap.size = G at *
  go_wp2_with fail
  go_loopw [3, 47] (fun v i wr => ∃ k : Nat, k ≤ 9 ∧ i = .int .i64 (k : Int) ∧ Hid (OwnS wr W.heap.size 9 v ((PL.take k).flatMap prF)) ∧ Below W.heap.size W wr) (fun _ i _ => 9 - (intOf i).toNat)
  case atStart => exact ⟨0, Nat.zero_le _, rfl, OwnS.nil _ _ _, Below.refl _ _⟩
  case round =>
    obtain ⟨k, hk, rfl, hown, hbel⟩ := hrel
    by_cases hlt : k < 9
    · have hkP : k < PL.length := by have := HPL.out; omega
      obtain ⟨q0, q1⟩ := prC_at PL k _ (List.getElem?_eq_getElem hkP)
      have hcell0 := cell_kept hbel (HT.out _ _ q0)
      have hcell1 := cell_kept hbel (HT.out _ _ q1)
      have hst := prF_snoc PL k hkP
      have hXl : ((PL.take k).flatMap prF).length ≤ 9 := Nat.le_trans (prF_len _) (by rw [List.length_take]; omega)
      generalize PL[k] = p at *
      obtain ⟨fl, ms⟩ := p
      simp only at hcell0 hcell1 hst
      generalize (PL.take k).flatMap prF = X at *
      have hi0 : (0 : Int) ≤ (k : Int) := by omega
      have hi1 : (k : Int) < 9 := by omega
      have hsz := hbel.size
      clear q0 q1
      cases fl with
      | true =>
        have HS : Hid ((PL.take (k + 1)).flatMap prF = X ++ [ms.data.toList]) := by show _ = _; rw [hst]; rfl
        clear hst
        go_wp2_with (at_builtin; refine wpList_append_sls rfl _ _ _ rfl W.heap.size 9 Tryz.underlying39 (by kernel_rfl) _ rfl X ((hown.out.alloc _).alloc _) _ _ _ rfl [ms.data.toList] (SlS.textAt _ _ ms (by simp)) (by simp; omega) (by simp; omega) W ((hbel.alloc hbel.size _).alloc (by simp; omega) _) ?_; intro v1 w2 ho2 hb2 hs2)
        go_roundw
        case rel => exact ⟨k + 1, by omega, by go_num, by show OwnS _ _ _ _ _; rw [HS.out]; exact ho2.out, hb2⟩
        case measure => simp [intOf]; omega
      | false =>
        have HS : Hid ((PL.take (k + 1)).flatMap prF = X) := by show _ = _; rw [hst]; simp [prF]
        clear hst
        go_wp2_with fail
        go_roundw
        case rel => exact ⟨k + 1, by omega, by go_num, by show OwnS _ _ _ _ _; rw [HS.out]; exact hown.out.alloc _, hbel.alloc hbel.size _⟩
        case measure => simp [intOf]; omega
    · have hPk := HPL.out
      rw [List.take_of_length_le (show PL.length ≤ k by omega)] at hown
      have hXl : (PL.flatMap prF).length ≤ 9 := Nat.le_trans (prF_len _) (by omega)
      have hXz : ∀ x ∈ PL.flatMap prF, x.length ≤ 130 := fun x hx => by
        obtain ⟨p, hp, hq⟩ := List.mem_flatMap.1 hx
        have := HPZ.out p hp
        unfold prF at hq
        split at hq
        · rw [List.mem_singleton] at hq; rw [hq, ← Lib.size_eq]; exact this
        · cases hq
      obtain ⟨A2, c2, e2, hA2, hH2⟩ := hown.out.sls
      subst e2
      have CJ := Lib.hid (join_any A2 _ c2 _ wr hA2 hH2 (by omega) (Nat.le_trans (join_le _ 9 130 hXl hXz) (by decide)))
      have HBX := Lib.hid hbel
      obtain ⟨ANS, hANS⟩ : ∃ ANS, ANS = mkS (Lib.join (PL.flatMap prF) [44, 32]) := ⟨_, rfl⟩
      rw [← hANS] at CJ
      have HANS := Lib.hid hANS
      clear hANS
      generalize (PL.flatMap prF).length = n at *
      have hi1 : ¬ (k : Int) < 9 := by omega
      clear hown hXz hXl hA2 hH2 hPk
      go_wp2_with fail
      refine CJ.out.mono ?_
      rintro e w6 ⟨rfl, hb6⟩
      go_wp2_with fail
      go_ret
      exact ⟨by rw [HANS.out]; rfl, (HB6.out.trans (HBX.out.mono HB6.out.size)).trans (hb6.mono (Nat.le_trans HB6.out.size HBX.out.size))⟩

end Go.Proofs.YtmpiahahhkimkaaGreatDoor
end

/-
  The contracts of package control's functions, as the laws of layer 13 use them, and the library's table that printing reads.
-/
section
namespace Go.Proofs.YtmpiahahhkimkaaGreatDoor
open Go.RowKit

theorem lea_any (a b : Int) (w : World) :
    Calls Tryz.prog 12 #[.int .i64 a, .int .i64 b] w fun e w' => e = .returned (.int .i64 (leaN a b)) ∧ Below w.heap.size w w' :=
  (lst_any a b w).mono fun e w' ⟨h1, h2⟩ => ⟨h1, by subst h2; exact Below.refl _ _⟩

theorem pow13_data : (Rows.laid_internal_strconv_uint64pow10 : DataW Unit) = Lib.tabData .u64 Lib.pow10Tab := by kernel_rfl
theorem ctlPow {W : World} (h : laidMetH Tryz.prog Rows.controlParsesRow.laid W) : Pow10 W := by
  rw [MakeChecks.laidMetH_plain _ _ _ (by kernel_rfl)] at h
  exact tab_in (n := 20) h (.tail _ (.tail _ (.head _))) pow13_data (g := 1) (by kernel_rfl) (t := 126) (by kernel_rfl) Tryz.underlying126 Tryz.underlying119 (by kernel_rfl) (by kernel_rfl)

end Go.Proofs.YtmpiahahhkimkaaGreatDoor
end

/-
  The page's example (directives) of layer 13.
-/
section
namespace Go.Proofs.YtmpiahahhkimkaaGreatDoor
open Go.RowKit

theorem cel9 {W : World} {g t : Nat} {c0 c1 c2 c3 c4 c5 c6 c7 c8 : Value} (h : W.heap[g]? = some (.cells #[c0, c1, c2, c3, c4, c5, c6, c7, c8] t (0, 0))) :
    W.cell? ⟨g, 0, none⟩ = some c0 ∧ W.cell? ⟨g, 1, none⟩ = some c1 ∧ W.cell? ⟨g, 2, none⟩ = some c2 ∧ W.cell? ⟨g, 3, none⟩ = some c3 ∧ W.cell? ⟨g, 4, none⟩ = some c4 ∧ W.cell? ⟨g, 5, none⟩ = some c5 ∧ W.cell? ⟨g, 6, none⟩ = some c6 ∧ W.cell? ⟨g, 7, none⟩ = some c7 ∧ W.cell? ⟨g, 8, none⟩ = some c8 := by
  refine ⟨?_, ?_, ?_, ?_, ?_, ?_, ?_, ?_, ?_⟩ <;> (rw [cell_of_row W g _ _ _ _ h]; rfl)
theorem one_any (s : ByteArray) (hs : s.size ≤ maxLen) (w : World) :
    Calls Tryz.prog 10 #[.string s] w fun e w' => e = .returned (.slice (some ⟨w.heap.size, 0, none⟩) 1 1) ∧ SlF w' (some ⟨w.heap.size, 0, none⟩) 1 1 [(ccS, s)] ∧ Below w.heap.size w w' := by
  have hS := SlF.one w 30 (ccS, s) ⟨ccS_le, hs⟩
  have HS : Hid (SlF (w.alloc (.cells #[.string ⟨#[67, 97, 99, 104, 101, 45, 67, 111, 110, 116, 114, 111, 108]⟩, .string s] 30)) (some ⟨w.heap.size, 0, none⟩) 1 1 [(ccS, s)]) := hS
  clear hS
  go_enter Tryz.func10, Tryz.ntmps10
  go_wp2_with fail
  go_ret
  exact ⟨rfl, HS.out, (Below.refl _ _).alloc (Nat.le_refl _) _⟩

theorem x13a_ok : ctP [(ccS, ⟨#[109, 97, 120, 45, 97, 103, 101, 61, 54, 48, 44, 32, 80, 114, 105, 118, 97, 116, 101, 61, 34, 120, 34, 44, 32, 109, 97, 120, 45, 97, 103, 101, 61, 53]⟩)] = ⟨false, false, true, false, false, false, 5, -1, -1⟩ := by kernel_rfl
theorem x13b_ok : ctP [(ccS, ⟨#[109, 97, 120, 45, 97, 103, 101, 61, 97]⟩)] = ⟨false, false, false, false, false, false, 0, -1, -1⟩ := by kernel_rfl
theorem x13c_ok : ctP [(ccS, ⟨#[34]⟩)] = ⟨true, true, false, false, false, false, -1, -1, -1⟩ := by kernel_rfl
theorem x13d_ok : ctA [(⟨#[80, 114, 97, 103, 109, 97]⟩, ⟨#[110, 111, 45, 99, 97, 99, 104, 101]⟩)] = ⟨false, true, false, false, false, false, -1, -1, -1⟩ := by kernel_rfl
theorem x13_print : ctS ⟨false, false, true, false, false, false, 5, -1, -1⟩ = ⟨#[112, 114, 105, 118, 97, 116, 101, 44, 32, 109, 97, 120, 45, 97, 103, 101, 61, 53]⟩ := by kernel_rfl
theorem x13_least : leaN (-1) 3 = 3 := by decide
theorem e13a (A : Option Addr) (c : Nat) (w : World) (h : SlF w A 1 c [(ccS, ⟨#[109, 97, 120, 45, 97, 103, 101, 61, 54, 48, 44, 32, 80, 114, 105, 118, 97, 116, 101, 61, 34, 120, 34, 44, 32, 109, 97, 120, 45, 97, 103, 101, 61, 53]⟩)]) : Calls Tryz.prog 6 #[.slice A 1 c] w fun e w' => e = .returned (.agg #[.bool false, .bool false, .bool true, .bool false, .bool false, .bool false, .int .i64 5, .int .i64 (-1), .int .i64 (-1)]) ∧ Below w.heap.size w w' := by
  have h2 := ctlP_any A 1 c _ w h (by omega) (fun x hx => by rw [List.mem_singleton] at hx; subst hx; dsimp only; decide) (fun x hx => by rw [List.mem_singleton] at hx; subst hx; exact ⟨by decide, by decide⟩)
  rw [x13a_ok] at h2
  exact h2
theorem e13b (A : Option Addr) (c : Nat) (w : World) (h : SlF w A 1 c [(ccS, ⟨#[109, 97, 120, 45, 97, 103, 101, 61, 97]⟩)]) : Calls Tryz.prog 6 #[.slice A 1 c] w fun e w' => e = .returned (.agg #[.bool false, .bool false, .bool false, .bool false, .bool false, .bool false, .int .i64 0, .int .i64 (-1), .int .i64 (-1)]) ∧ Below w.heap.size w w' := by
  have h2 := ctlP_any A 1 c _ w h (by omega) (fun x hx => by rw [List.mem_singleton] at hx; subst hx; dsimp only; decide) (fun x hx => by rw [List.mem_singleton] at hx; subst hx; exact ⟨by decide, by decide⟩)
  rw [x13b_ok] at h2
  exact h2
theorem e13c (A : Option Addr) (c : Nat) (w : World) (h : SlF w A 1 c [(ccS, ⟨#[34]⟩)]) : Calls Tryz.prog 6 #[.slice A 1 c] w fun e w' => e = .returned (.agg #[.bool true, .bool true, .bool false, .bool false, .bool false, .bool false, .int .i64 (-1), .int .i64 (-1), .int .i64 (-1)]) ∧ Below w.heap.size w w' := by
  have h2 := ctlP_any A 1 c _ w h (by omega) (fun x hx => by rw [List.mem_singleton] at hx; subst hx; dsimp only; decide) (fun x hx => by rw [List.mem_singleton] at hx; subst hx; exact ⟨by decide, by decide⟩)
  rw [x13c_ok] at h2
  exact h2
theorem e13d (A : Option Addr) (c : Nat) (w : World) (h : SlF w A 1 c [(⟨#[80, 114, 97, 103, 109, 97]⟩, ⟨#[110, 111, 45, 99, 97, 99, 104, 101]⟩)]) : Calls Tryz.prog 8 #[.slice A 1 c] w fun e w' => e = .returned (.agg #[.bool false, .bool true, .bool false, .bool false, .bool false, .bool false, .int .i64 (-1), .int .i64 (-1), .int .i64 (-1)]) ∧ Below w.heap.size w w' := by
  have h2 := ctlA_any A 1 c _ w h (by omega) (fun x hx => by rw [List.mem_singleton] at hx; subst hx; dsimp only; decide) (fun x hx => by rw [List.mem_singleton] at hx; subst hx; exact ⟨by decide, by decide⟩)
  rw [x13d_ok] at h2
  exact h2
theorem e13p (w : World) (ht : Pow10 w) : Calls Tryz.prog 11 #[.agg #[.bool false, .bool false, .bool true, .bool false, .bool false, .bool false, .int .i64 5, .int .i64 (-1), .int .i64 (-1)]] w fun e w' => e = .returned (.string ⟨#[112, 114, 105, 118, 97, 116, 101, 44, 32, 109, 97, 120, 45, 97, 103, 101, 61, 53]⟩) ∧ Below w.heap.size w w' := by
  have h2 := ctlS_any ⟨false, false, true, false, false, false, 5, -1, -1⟩ ⟨by decide, by decide, by decide⟩ w ht
  rw [x13_print] at h2
  exact h2
theorem e13l (w : World) : Calls Tryz.prog 12 #[.int .i64 (-1), .int .i64 3] w fun e w' => e = .returned (.int .i64 3) ∧ Below w.heap.size w w' := by
  have h2 := lea_any (-1) 3 w
  rw [x13_least] at h2
  exact h2

set_option maxHeartbeats 16000000 in
set_option maxRecDepth 100000 in
theorem ex13_any (w : World) (ht : Pow10 w) : Calls Tryz.prog 5 #[] w fun e w' => e = .returned (.bool true) ∧ Below w.heap.size w w' := by
  have K1 := Lib.hid (fun W => one_any ⟨#[109, 97, 120, 45, 97, 103, 101, 61, 54, 48, 44, 32, 80, 114, 105, 118, 97, 116, 101, 61, 34, 120, 34, 44, 32, 109, 97, 120, 45, 97, 103, 101, 61, 53]⟩ (by decide) W)
  have K2 := Lib.hid (fun W => one_any ⟨#[109, 97, 120, 45, 97, 103, 101, 61, 97]⟩ (by decide) W)
  have K3 := Lib.hid (fun W => one_any ⟨#[34]⟩ (by decide) W)
  have C1 := Lib.hid (fun W A c h => e13a A c W h)
  have C2 := Lib.hid (fun W A c h => e13b A c W h)
  have C3 := Lib.hid (fun W A c h => e13c A c W h)
  have C4 := Lib.hid (fun W A c h => e13d A c W h)
  have C5 := Lib.hid (fun W (hW : Below w.heap.size w W) => e13p W (powL_kept ht hW))
  have C6 := Lib.hid (fun W => e13l W)
  have HB : Hid (Below w.heap.size w w) := Below.refl _ _
  clear ht
  go_enter Tryz.func5, Tryz.ntmps5
  go_wp2_with fail
  refine (K1.out _).mono ?_
  rintro e u1 ⟨rfl, hF, hb⟩
  have HF := Lib.hid hF
  have HB := Lib.hid (below_then HB.out hb)
  clear hF hb
  go_wp2_with fail
  refine (C1.out _ _ _ HF.out).mono ?_
  rintro e w1 ⟨rfl, hb⟩
  have hbb := below_then HB.out hb
  have HB := Lib.hid (hbb.alloc hbb.size (.cells #[.bool false, .bool false, .bool true, .bool false, .bool false, .bool false, .int .i64 5, .int .i64 (-1), .int .i64 (-1)] 26))
  have Z1 := Lib.hid (heap_alloc_new w1 (.cells #[.bool false, .bool false, .bool true, .bool false, .bool false, .bool false, .int .i64 5, .int .i64 (-1), .int .i64 (-1)] 26))
  clear hb hbb HF
  go_wp2_with fail
  refine (K2.out _).mono ?_
  rintro e u2 ⟨rfl, hF, hb⟩
  rw [show (w1.alloc (.cells #[.bool false, .bool false, .bool true, .bool false, .bool false, .bool false, .int .i64 5, .int .i64 (-1), .int .i64 (-1)] 26)).heap.size = w1.heap.size + 1 by simp] at hF
  have HF := Lib.hid hF
  have HB := Lib.hid (below_then HB.out hb)
  have Z1 := Lib.hid (zero_still hb Z1.out)
  clear hF hb
  go_wp2_with fail
  refine (C2.out _ _ _ HF.out).mono ?_
  rintro e w2 ⟨rfl, hb⟩
  have hbb := below_then HB.out hb
  have HB := Lib.hid (hbb.alloc hbb.size (.cells #[.bool false, .bool false, .bool false, .bool false, .bool false, .bool false, .int .i64 0, .int .i64 (-1), .int .i64 (-1)] 26))
  have Z1 := Lib.hid (zero_more (o' := .cells #[.bool false, .bool false, .bool false, .bool false, .bool false, .bool false, .int .i64 0, .int .i64 (-1), .int .i64 (-1)] 26) (zero_still hb Z1.out))
  have Z2 := Lib.hid (heap_alloc_new w2 (.cells #[.bool false, .bool false, .bool false, .bool false, .bool false, .bool false, .int .i64 0, .int .i64 (-1), .int .i64 (-1)] 26))
  clear hb hbb HF
  go_wp2_with fail
  refine (K3.out _).mono ?_
  rintro e u3 ⟨rfl, hF, hb⟩
  rw [show (w2.alloc (.cells #[.bool false, .bool false, .bool false, .bool false, .bool false, .bool false, .int .i64 0, .int .i64 (-1), .int .i64 (-1)] 26)).heap.size = w2.heap.size + 1 by simp] at hF
  have HF := Lib.hid hF
  have HB := Lib.hid (below_then HB.out hb)
  have Z1 := Lib.hid (zero_still hb Z1.out)
  have Z2 := Lib.hid (zero_still hb Z2.out)
  clear hF hb
  go_wp2_with fail
  refine (C3.out _ _ _ HF.out).mono ?_
  rintro e w3 ⟨rfl, hb⟩
  have hbb := below_then HB.out hb
  have HB := Lib.hid (hbb.alloc hbb.size (.cells #[.bool true, .bool true, .bool false, .bool false, .bool false, .bool false, .int .i64 (-1), .int .i64 (-1), .int .i64 (-1)] 26))
  have Z1 := Lib.hid (zero_more (o' := .cells #[.bool true, .bool true, .bool false, .bool false, .bool false, .bool false, .int .i64 (-1), .int .i64 (-1), .int .i64 (-1)] 26) (zero_still hb Z1.out))
  have Z2 := Lib.hid (zero_more (o' := .cells #[.bool true, .bool true, .bool false, .bool false, .bool false, .bool false, .int .i64 (-1), .int .i64 (-1), .int .i64 (-1)] 26) (zero_still hb Z2.out))
  have Z3 := Lib.hid (heap_alloc_new w3 (.cells #[.bool true, .bool true, .bool false, .bool false, .bool false, .bool false, .int .i64 (-1), .int .i64 (-1), .int .i64 (-1)] 26))
  clear hb hbb HF
  have hF := SlF.one (w3.alloc (.cells #[.bool true, .bool true, .bool false, .bool false, .bool false, .bool false, .int .i64 (-1), .int .i64 (-1), .int .i64 (-1)] 26)) 30 (⟨#[80, 114, 97, 103, 109, 97]⟩, ⟨#[110, 111, 45, 99, 97, 99, 104, 101]⟩) ⟨by decide, by decide⟩
  rw [show (w3.alloc (.cells #[.bool true, .bool true, .bool false, .bool false, .bool false, .bool false, .int .i64 (-1), .int .i64 (-1), .int .i64 (-1)] 26)).heap.size = w3.heap.size + 1 by simp] at hF
  have HF := Lib.hid hF
  have HB := Lib.hid (HB.out.alloc HB.out.size (.cells #[.string ⟨#[80, 114, 97, 103, 109, 97]⟩, .string ⟨#[110, 111, 45, 99, 97, 99, 104, 101]⟩] 30))
  have Z1 := Lib.hid (zero_more (o' := .cells #[.string ⟨#[80, 114, 97, 103, 109, 97]⟩, .string ⟨#[110, 111, 45, 99, 97, 99, 104, 101]⟩] 30) Z1.out)
  have Z2 := Lib.hid (zero_more (o' := .cells #[.string ⟨#[80, 114, 97, 103, 109, 97]⟩, .string ⟨#[110, 111, 45, 99, 97, 99, 104, 101]⟩] 30) Z2.out)
  have Z3 := Lib.hid (zero_more (o' := .cells #[.string ⟨#[80, 114, 97, 103, 109, 97]⟩, .string ⟨#[110, 111, 45, 99, 97, 99, 104, 101]⟩] 30) Z3.out)
  clear hF
  go_wp2_with fail
  refine (C4.out _ _ _ HF.out).mono ?_
  rintro e w4 ⟨rfl, hb⟩
  have hbb := below_then HB.out hb
  have HB := Lib.hid (hbb.alloc hbb.size (.cells #[.bool false, .bool true, .bool false, .bool false, .bool false, .bool false, .int .i64 (-1), .int .i64 (-1), .int .i64 (-1)] 26))
  have Z1 := Lib.hid (zero_more (o' := .cells #[.bool false, .bool true, .bool false, .bool false, .bool false, .bool false, .int .i64 (-1), .int .i64 (-1), .int .i64 (-1)] 26) (zero_still hb Z1.out))
  have Z2 := Lib.hid (zero_more (o' := .cells #[.bool false, .bool true, .bool false, .bool false, .bool false, .bool false, .int .i64 (-1), .int .i64 (-1), .int .i64 (-1)] 26) (zero_still hb Z2.out))
  have Z3 := Lib.hid (zero_more (o' := .cells #[.bool false, .bool true, .bool false, .bool false, .bool false, .bool false, .int .i64 (-1), .int .i64 (-1), .int .i64 (-1)] 26) (zero_still hb Z3.out))
  have Z4 := Lib.hid (heap_alloc_new w4 (.cells #[.bool false, .bool true, .bool false, .bool false, .bool false, .bool false, .int .i64 (-1), .int .i64 (-1), .int .i64 (-1)] 26))
  clear hb hbb HF
  obtain ⟨z1_0, z1_1, z1_2, z1_3, z1_4, z1_5, z1_6, z1_7, z1_8⟩ := cel9 Z1.out
  obtain ⟨z2_0, z2_1, z2_2, z2_3, z2_4, z2_5, z2_6, z2_7, z2_8⟩ := cel9 Z2.out
  obtain ⟨z3_0, z3_1, z3_2, z3_3, z3_4, z3_5, z3_6, z3_7, z3_8⟩ := cel9 Z3.out
  obtain ⟨z4_0, z4_1, z4_2, z4_3, z4_4, z4_5, z4_6, z4_7, z4_8⟩ := cel9 Z4.out
  go_wp2_with fail
  refine (C5.out _ HB.out).mono ?_
  rintro e w5 ⟨rfl, hb5⟩
  have HB := Lib.hid (below_then HB.out hb5)
  clear hb5
  go_wp2_with fail
  refine (C6.out _).mono ?_
  rintro e w6 ⟨rfl, hb6⟩
  go_wp2_with fail
  go_ret
  exact ⟨rfl, below_then HB.out hb6⟩

end Go.Proofs.YtmpiahahhkimkaaGreatDoor
end
