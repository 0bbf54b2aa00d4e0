/-
  Contracts of the reference's All, Get, Has, Set (layer 9).
-/
import Derived.Test.YteiihnniodkjbaaFldR
namespace Go.Proofs.Yteiihnniodkjbaa
open Go.RowKit

set_option maxHeartbeats 4000000 in
set_option maxRecDepth 100000 in
theorem rf_all (A : Option Addr) (n c : Nat) (L : List Fd) (name : ByteArray) (w : World) (h : SlF w A n c L) (hn : n ≤ 100000000) (hz : name.size ≤ maxLen) :
    Calls Try.prog 20 #[.slice A n c, .string name] w (Vals w (fdAll L name)) := by
  have hlen := h.len
  subst hlen
  have hD : fdAll L name = (L.filter fun x => sameB x.1 name).map fun x => x.2.data.toList := rfl
  rw [hD]
  go_enter Try.func20, Try.ntmps20
  go_wp2_with fail
  go_loopw [5, 6] (fun v i wr => ∃ k : Nat, k ≤ L.length ∧ i = .int .i64 k ∧ Hid (OwnS wr w.heap.size 9 v (((L.take k).filter fun x => sameB x.1 name).map fun x => x.2.data.toList)) ∧ Below w.heap.size w wr) (fun _ i _ => L.length - (intOf i).toNat)
  case atStart => exact ⟨0, Nat.zero_le _, rfl, OwnS.nil _ _ _, Below.refl _ _⟩
  case round =>
    obtain ⟨k, hk, rfl, hown, hbel⟩ := hrel
    by_cases hlt : k < L.length
    · obtain ⟨ad, rfl, hc⟩ := h.at_ (by omega)
      obtain ⟨hc0, hc1⟩ := hc k L[k] (List.getElem?_eq_getElem hlt)
      have hcell0 := cell_kept hbel hc0
      have hc1' := fd_snd hc1
      have hz1 := (h.sz _ (List.getElem_mem hlt)).1
      have hlx : (((L.take k).filter fun x => sameB x.1 name).map fun x => x.2.data.toList).length ≤ k := by
        rw [List.length_map]
        exact Nat.le_trans (List.length_filter_le _ _) (by rw [List.length_take]; omega)
      have HF := filter_snoc (fun x => sameB x.1 name) (L.take k) L[k]
      rw [← take_fd L k hlt] at HF
      generalize L[k] = x at *
      obtain ⟨a, b⟩ := x
      have hi0 : (0 : Int) ≤ (k : Int) := by omega
      have hi1 : (k : Int) < (L.length : Int) := by omega
      have hs4 := hbel.size
      cases hsm : sameB a name with
      | true =>
        have HS : Hid (((L.take (k + 1)).filter fun x => sameB x.1 name).map (fun x => x.2.data.toList) = ((L.take k).filter fun x => sameB x.1 name).map (fun x => x.2.data.toList) ++ [b.data.toList]) := by
          show _ = _
          rw [HF, if_pos hsm, List.map_append]; rfl
        generalize hX : (((L.take k).filter fun x => sameB x.1 name).map fun x => x.2.data.toList) = X at *
        have HSM := Lib.hid hsm
        clear hc hc0 hc1 hX HF hsm
        go_wp2_with fail
        refine (r_same a name _ hz1 hz).mono ?_
        rintro e w1 ⟨he, hb1⟩
        rw [HSM.out] at he
        subst he
        have hcell1 := cell_kept (hbel.trans (hb1.mono hs4)) hc1'
        have HO := Lib.hid (hown.out.below hb1)
        have HB := Lib.hid (hbel.trans (hb1.mono hs4))
        have hs5 := HB.out.size
        clear hb1 hown
        go_wp2_with (at_builtin; refine wpList_append_sls rfl _ _ _ rfl w.heap.size 9 Try.underlying39 (by kernel_rfl) _ rfl X (HO.out.alloc _) _ _ _ rfl [b.data.toList] (SlS.textAt _ _ b rfl) (by simp; omega) (by simp; omega) w (HB.out.alloc hs5 _) ?_; intro v1 w2 ho2 hb2 hz2)
        go_roundw
        case rel => exact ⟨k + 1, by omega, by go_num, by show OwnS _ _ _ _ _; rw [HS.out]; exact ho2.out, hb2⟩
        case measure => simp [intOf]; omega
      | false =>
        have HS : Hid (((L.take (k + 1)).filter fun x => sameB x.1 name).map (fun x => x.2.data.toList) = ((L.take k).filter fun x => sameB x.1 name).map (fun x => x.2.data.toList)) := by
          show _ = _
          rw [HF, if_neg (by simp [hsm])]
        have HSM := Lib.hid hsm
        clear hc hc0 hc1 HF hsm hlx
        go_wp2_with fail
        refine (r_same a name _ hz1 hz).mono ?_
        rintro e w1 ⟨he, hb1⟩
        rw [HSM.out] at he
        subst he
        go_wp2_with fail
        go_roundw
        case rel => exact ⟨k + 1, by omega, by go_num, by show OwnS _ _ _ _ _; rw [HS.out]; exact hown.out.below hb1, hbel.trans (hb1.mono hs4)⟩
        case measure => simp [intOf]; omega
    · have HE : Hid (((L.take k).filter fun x => sameB x.1 name).map (fun x => x.2.data.toList) = (L.filter fun x => sameB x.1 name).map fun x => x.2.data.toList) := by
        show _ = _
        rw [List.take_of_length_le (by omega)]
      rw [HE.out] at hown
      go_wp2_with fail
      go_ret
      obtain ⟨A2, c2, rfl, hA, hH⟩ := hown.out.sls
      exact ⟨A2, c2, rfl, hA, hH, hbel⟩

theorem rf_get (A : Option Addr) (n c : Nat) (L : List Fd) (name : ByteArray) (w : World) (h : SlF w A n c L) (hn : n ≤ 10000) (hz : name.size ≤ maxLen) (hB : ∀ x ∈ L, x.2.size ≤ 10000) :
    Calls Try.prog 17 #[.slice A n c, .string name] w fun e w' => e = .returned (.tuple #[.string (fdGet L name), .bool (fdGot L name)]) ∧ Below w.heap.size w w' := by
  have hq := rf_all A n c L name w h (by omega) hz
  have hD : fdGet L name = mkS (Lib.join (fdAll L name) [44, 32]) := rfl
  have hE : fdGot L name = decide ((0 : Int) < ((fdAll L name).length : Int)) := by
    unfold fdGot
    cases fdAll L name with
    | nil => rfl
    | cons x r => simp
  have hl : (fdAll L name).length ≤ 10000 := by
    unfold fdAll
    rw [List.length_map]
    exact Nat.le_trans (List.length_filter_le _ _) (by have := h.len; omega)
  have hx : ∀ x ∈ fdAll L name, x.length ≤ 10000 := fun x hx => by
    unfold fdAll at hx
    obtain ⟨y, hy, rfl⟩ := List.mem_map.1 hx
    rw [← Lib.size_eq]
    exact hB y (List.mem_filter.1 hy).1
  rw [hD, hE]
  generalize fdAll L name = X at *
  have HQ := Lib.hid hq
  have cj := fun A c W (hs : SlS W A X.length c X) => r_join A X.length c X W hs hl hx
  generalize mkS (Lib.join X [44, 32]) = J at *
  have CJ := Lib.hid cj
  clear hq hD hE cj hx
  go_enter Try.func17, Try.ntmps17
  go_wp2_with fail
  refine HQ.out.mono ?_
  unfold Vals
  rintro e w1 ⟨A1, c1, rfl, hA, hH, hb1⟩
  go_wp2_with fail
  refine (CJ.out _ _ _ hA).mono ?_
  rintro e w2 ⟨rfl, rfl⟩
  by_cases h0 : (0 : Int) < (X.length : Int)
  all_goals
    go_wp2_with fail
    go_ret2
    exact ⟨by simp_all, hb1⟩

theorem rf_has (A : Option Addr) (n c : Nat) (L : List Fd) (name item : ByteArray) (w : World) (h : SlF w A n c L) (hn : n ≤ 10000) (hz : name.size ≤ maxLen) (hi : item.size ≤ maxLen) (hB : ∀ x ∈ L, x.2.size ≤ 10000) :
    Calls Try.prog 22 #[.slice A n c, .string name, .string item] w fun e w' => e = .returned (.bool (fdHas L name item)) ∧ Below w.heap.size w w' := by
  have hq := rf_all A n c L name w h (by omega) hz
  have hD : fdHas L name item = (fdAll L name).any fun v => hasL (splO v) item := rfl
  have hl : (fdAll L name).length ≤ 10000 := by
    unfold fdAll
    rw [List.length_map]
    exact Nat.le_trans (List.length_filter_le _ _) (by have := h.len; omega)
  have hx : ∀ x ∈ fdAll L name, x.length ≤ 10000 := fun x hx => by
    unfold fdAll at hx
    obtain ⟨y, hy, rfl⟩ := List.mem_map.1 hx
    rw [← Lib.size_eq]
    exact hB y (List.mem_filter.1 hy).1
  rw [hD]
  generalize fdAll L name = X at *
  have HQ := Lib.hid hq
  have HX := Lib.hid hx
  clear hq hD hx
  go_enter Try.func22, Try.ntmps22
  go_wp2_with fail
  refine HQ.out.mono ?_
  unfold Vals
  rintro e w1 ⟨A1, c1, rfl, hA, hH, hb1⟩
  go_wp2_with fail
  go_loopw [8] (fun i wr => ∃ k : Nat, k ≤ X.length ∧ i = .int .i64 k ∧ Hid ((X.take k).any (fun v => hasL (splO v) item) = false) ∧ Below w1.heap.size w1 wr) (fun i _ => X.length - (intOf i).toNat)
  case atStart => exact ⟨0, Nat.zero_le _, rfl, rfl, Below.refl _ _⟩
  case round =>
    obtain ⟨k, hk, rfl, hf, hbel⟩ := hrel
    by_cases hlt : k < X.length
    · obtain ⟨ad, rfl, hc⟩ := hA.at_ (by omega)
      have hcell := cell_kept hbel (hc k X[k] (List.getElem?_eq_getElem hlt))
      have HT : Hid ((X.take (k + 1)).any (fun v => hasL (splO v) item) = hasL (splO X[k]) item) := by
        show _ = _
        rw [List.take_succ_eq_append_getElem hlt, List.any_append, hf.out]; simp
      have HM : Hid (hasL (splO X[k]) item = true → X.any (fun v => hasL (splO v) item) = true) := fun h => List.any_eq_true.2 ⟨X[k], List.getElem_mem hlt, h⟩
      have cc := fun W => r_has (mkS X[k]) item W (by rw [mkS_size]; have := HX.out _ (List.getElem_mem hlt); omega) hi
      have e1 : (mkS X[k]).data.toList = X[k] := rfl
      rw [e1] at cc
      obtain ⟨x, hx⟩ : ∃ x, x = mkS X[k] := ⟨_, rfl⟩
      rw [← hx] at hcell cc
      generalize hasL (splO X[k]) item = q at *
      have CC := Lib.hid cc
      have hi0 : (0 : Int) ≤ (k : Int) := by omega
      have hi1 : (k : Int) < (X.length : Int) := by omega
      clear hx hf hc e1 cc
      cases q with
      | true =>
        have HR := Lib.hid (HM.out rfl)
        clear HM HT
        go_wp2_with fail
        refine (CC.out _).mono ?_
        rintro e w2 ⟨rfl, hb2⟩
        go_wp2_with fail
        go_ret
        exact ⟨by rw [HR.out]; rfl, below_then hb1 (hbel.trans (hb2.mono hbel.size))⟩
      | false =>
        have HR := Lib.hid HT.out
        clear HM HT
        go_wp2_with fail
        refine (CC.out _).mono ?_
        rintro e w2 ⟨rfl, hb2⟩
        go_wp2_with fail
        go_roundw
        case rel => exact ⟨k + 1, by omega, by go_num, HR, hbel.trans (hb2.mono hbel.size)⟩
        case measure => simp [intOf]; omega
    · have HR : Hid (X.any (fun v => hasL (splO v) item) = false) := by
        have := hf.out
        rwa [List.take_of_length_le (by omega)] at this
      clear hf
      go_wp2_with fail
      go_ret
      exact ⟨by rw [HR.out]; rfl, below_then hb1 hbel⟩

/-! ### Set -/
theorem setR_drop (f : Fd) (L : List Fd) (k : Nat) (h : k < L.length) (b : Bool) : setR f b (L.drop k) = if sameB L[k].1 f.1 then (if b then setR f true (L.drop (k + 1)) else f :: setR f true (L.drop (k + 1))) else L[k] :: setR f b (L.drop (k + 1)) := by
  rw [List.drop_eq_getElem_cons h]; rfl

set_option maxHeartbeats 8000000 in
set_option maxRecDepth 100000 in
theorem rf_set (A : Option Addr) (n c : Nat) (L : List Fd) (f : Fd) (w : World) (h : SlF w A n c L) (hn : n ≤ 10000000) (hf : f.1.size ≤ maxLen ∧ f.2.size ≤ maxLen) :
    Calls Try.prog 27 #[.slice A n c, fdV f] w fun e w' => ∃ v, e = .returned v ∧ OwnF w' w.heap.size 26 v (fdSet L f) ∧ Below w.heap.size w w' := by
  have hlen := h.len
  subst hlen
  obtain ⟨fa, fb⟩ := f
  have hb0 : Below w.heap.size w (w.alloc (.cells #[.string fa, .string fb] 26)) := (Below.refl _ _).alloc (Nat.le_refl _) _
  have h0 := heap_alloc_new w (.cells #[.string fa, .string fb] 26)
  unfold fdV
  go_enter Try.func27, Try.ntmps27
  go_wp2_with fail
  go_loopw [5, 6, 7] (fun v p i wr => ∃ (k : Nat) (b : Bool) (X : List Fd), k ≤ L.length ∧ i = .int .i64 k ∧ p = .bool b ∧ X.length ≤ k + 1 ∧ Hid (OwnF wr (w.heap.size + 1) 26 v X) ∧ Hid (fdSet L (fa, fb) = X ++ setR (fa, fb) b (L.drop k)) ∧
      Hid (wr.heap[w.heap.size]? = some (.cells #[.string fa, .string fb] 26 (0, 0))) ∧ Below w.heap.size w wr ∧ w.heap.size + 1 ≤ wr.heap.size) (fun _ _ i _ => L.length - (intOf i).toNat)
  case atStart => exact ⟨0, false, [], Nat.zero_le _, rfl, rfl, Nat.zero_le _, OwnF.nil _ _ _, rfl, h0, hb0, by simp⟩
  case round =>
    obtain ⟨k, b, X, hk, rfl, rfl, hXl, hown, hset, hZ, hbel, hsw⟩ := hrel
    by_cases hlt : k < L.length
    · obtain ⟨ad, rfl, hc⟩ := h.at_ (by omega)
      obtain ⟨hc0, hc1⟩ := hc k L[k] (List.getElem?_eq_getElem hlt)
      have hz1 := h.sz _ (List.getElem_mem hlt)
      have HS := setR_drop (fa, fb) L k hlt b
      rw [HS] at hset
      clear HS
      generalize L[k] = x at *
      obtain ⟨xa, xb⟩ := x
      have hi0 : (0 : Int) ≤ (k : Int) := by omega
      have hi1 : (k : Int) < (L.length : Int) := by omega
      have HC0 := Lib.hid (cell_kept hbel hc0)
      have HC1 := Lib.hid (fd_snd (cell_kept hbel hc1))
      have cs := fun W => r_same xa fa W hz1.1 hf.1
      clear hc hc0 hc1
      have hown := Lib.hid hown.out.drew
      have hZ : Hid (wr.drew.heap[w.heap.size]? = some (.cells #[.string fa, .string fb] 26 (0, 0))) := hZ.out
      have HC0 : Hid (wr.drew.cell? (ad.add (k * 2)) = some (.string xa)) := HC0.out
      have HC1 : Hid (wr.drew.cell? { block := (ad.add (k * 2)).block, off := (ad.add (k * 2)).off + 1 } = some (.string xb)) := HC1.out
      have hbel := hbel.drew
      have hsw : w.heap.size + 1 ≤ wr.drew.heap.size := hsw
      generalize sameB xa fa = q at *
      have CS := Lib.hid cs
      clear cs
      cases q with
      | true =>
        cases b with
        | true =>
          rw [if_pos rfl, if_pos rfl] at hset
          go_wp2_with fail
          go_region_held3 (fun W => W.cell? (ad.add (k * 2)) = some (.string xa) ∧ W.cell? ⟨w.heap.size, 0, none⟩ = some (.string fa)) (exact ⟨HC0.out, (zero_two hZ.out).1⟩) (first
            | (go_at_call 45; refine (CS.out _).mono ?_; rintro e w1 ⟨rfl, hb1⟩; have HC0 := Lib.hid (cell_kept hb1 HC0.out); have HC1 := Lib.hid (cell_kept hb1 HC1.out); have hZ := Lib.hid (zero_still hb1 hZ.out); have hown := Lib.hid (hown.out.below hb1); have hbel := hbel.trans (hb1.mono hbel.size); have hsw := Nat.le_trans hsw hb1.size; clear hb1))
          go_wp2_with fail
          go_roundw
          case rel => exact ⟨k + 1, true, X, by omega, by go_num, rfl, by omega, hown, hset, hZ, hbel, hsw⟩
          case measure => simp [intOf]; omega
        | false =>
          rw [if_pos rfl, if_neg (by simp)] at hset
          have HS : Hid (fdSet L (fa, fb) = (X ++ [(fa, fb)]) ++ setR (fa, fb) true (L.drop (k + 1))) := by
            show _ = _
            rw [hset.out, List.append_assoc]; rfl
          clear hset
          go_wp2_with fail
          go_region_held3 (fun W => W.cell? (ad.add (k * 2)) = some (.string xa) ∧ W.cell? ⟨w.heap.size, 0, none⟩ = some (.string fa)) (exact ⟨HC0.out, (zero_two hZ.out).1⟩) (first
            | (go_at_call 45; refine (CS.out _).mono ?_; rintro e w1 ⟨rfl, hb1⟩; have HC0 := Lib.hid (cell_kept hb1 HC0.out); have HC1 := Lib.hid (cell_kept hb1 HC1.out); have hZ := Lib.hid (zero_still hb1 hZ.out); have hown := Lib.hid (hown.out.below hb1); have hbel := hbel.trans (hb1.mono hbel.size); have hsw := Nat.le_trans hsw hb1.size; clear hb1))
          obtain ⟨z0, z1⟩ := zero_two hZ.out
          go_wp2_with (at_builtin; refine wpList_append_slf rfl _ _ _ rfl (w.heap.size + 1) 26 Try.underlying22 (by kernel_rfl) _ rfl X (hown.out.alloc _) _ _ _ rfl [(fa, fb)] (SlF.one _ _ (fa, fb) hf) (by simp; omega) (by simp; omega) _ ((Below.refl _ _).mono hsw |>.alloc hsw _) ?_; intro v1 w2 ho2 hb2 hz2)
          go_roundw
          case rel => exact ⟨k + 1, true, X ++ [(fa, fb)], by omega, by go_num, rfl, by simp; omega, ho2, HS, Lib.hid ((hb2.block _ (by omega)).trans hZ.out), hbel.trans (hb2.mono (by omega)), Nat.le_trans hsw hb2.size⟩
          case measure => simp [intOf]; omega
      | false =>
        rw [if_neg (by simp)] at hset
        have HS : Hid (fdSet L (fa, fb) = (X ++ [(xa, xb)]) ++ setR (fa, fb) b (L.drop (k + 1))) := by
          show _ = _
          rw [hset.out, List.append_assoc]; rfl
        clear hset
        cases b
        all_goals
          go_wp2_with fail
          go_region_held3 (fun W => W.cell? (ad.add (k * 2)) = some (.string xa) ∧ W.cell? ⟨w.heap.size, 0, none⟩ = some (.string fa)) (exact ⟨HC0.out, (zero_two hZ.out).1⟩) (first
            | (go_at_call 45; refine (CS.out _).mono ?_; rintro e w1 ⟨rfl, hb1⟩; have HC0 := Lib.hid (cell_kept hb1 HC0.out); have HC1 := Lib.hid (cell_kept hb1 HC1.out); have hZ := Lib.hid (zero_still hb1 hZ.out); have hown := Lib.hid (hown.out.below hb1); have hbel := hbel.trans (hb1.mono hbel.size); have hsw := Nat.le_trans hsw hb1.size; clear hb1))
          obtain ⟨z0, z1⟩ := zero_two hZ.out
          have hcell0 := HC0.out
          have hcell1 := HC1.out
          go_wp2_with (at_builtin; refine wpList_append_slf rfl _ _ _ rfl (w.heap.size + 1) 26 Try.underlying22 (by kernel_rfl) _ rfl X (hown.out.alloc _) _ _ _ rfl [(xa, xb)] (SlF.one _ _ (xa, xb) hz1) (by simp; omega) (by simp; omega) _ ((Below.refl _ _).mono hsw |>.alloc hsw _) ?_; intro v1 w2 ho2 hb2 hz2)
          go_roundw
          case rel => exact ⟨k + 1, _, X ++ [(xa, xb)], by omega, by go_num, rfl, by simp; omega, ho2, HS, Lib.hid ((hb2.block _ (by omega)).trans hZ.out), hbel.trans (hb2.mono (by omega)), Nat.le_trans hsw hb2.size⟩
          case measure => simp [intOf]; omega
    · have HE : Hid (fdSet L (fa, fb) = if b then X else X ++ [(fa, fb)]) := by
        show _ = _
        rw [hset.out, List.drop_eq_nil_of_le (by omega)]
        cases b <;> simp [setR]
      clear hset
      cases b with
      | true =>
        rw [if_pos rfl] at HE
        go_wp2_with fail
        go_ret
        exact ⟨_, rfl, by rw [HE.out]; exact hown.out.wide (by omega), hbel⟩
      | false =>
        rw [if_neg (by simp)] at HE
        obtain ⟨z0, z1⟩ := zero_two hZ.out
        go_wp2_with (at_builtin; refine wpList_append_slf rfl _ _ _ rfl (w.heap.size + 1) 26 Try.underlying22 (by kernel_rfl) _ rfl X (hown.out.alloc _) _ _ _ rfl [(fa, fb)] (SlF.one _ _ (fa, fb) hf) (by simp; omega) (by simp; omega) _ ((Below.refl _ _).mono hsw |>.alloc hsw _) ?_; intro v1 w2 ho2 hb2 hz2)
        go_ret
        exact ⟨_, rfl, by rw [HE.out]; exact ho2.out.wide (by omega), hbel.trans (hb2.mono (by omega))⟩

end Go.Proofs.Yteiihnniodkjbaa
