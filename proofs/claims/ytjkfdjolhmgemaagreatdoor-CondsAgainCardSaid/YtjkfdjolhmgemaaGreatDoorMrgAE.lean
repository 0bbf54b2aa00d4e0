/-
  Texts that the laws of this seat lean on, one behind the other.
-/
import Derived.Test.YtjkfdjolhmgemaaGreatDoorMrgAD
import Derived.Test.YtjkfdjolhmgemaaGreatDoorMrgJ
import Derived.Test.YtjkfdjolhmgemaaGreatDoorMrgAB
import Derived.Test.YtjkfdjolhmgemaaGreatDoorMrgAC
import Derived.Shelf.Abstract
import Derived.WalkMore
set_option linter.unusedSimpArgs false
set_option linter.unusedVariables false
/-
  Contracts of package etag's Parse and cut.
-/
section
namespace Go.Proofs.YtjkfdjolhmgemaaGreatDoor
open Go.RowKit
set_option linter.unusedSimpArgs false

set_option maxHeartbeats 4000000 in
set_option maxRecDepth 100000 in
theorem etP_any (s : ByteArray) (w : World) (hs : s.size ≤ 100000000) :
    Calls Tryz.prog 57 #[.string s] w fun e w' => e = .returned (.tuple #[tgV (tgO s), .bool (tgB s)]) ∧ Below w.heap.size w w' := by
  have both : ∀ t : Bool, t = true ∨ t = false := fun t => by cases t <;> simp
  have c1 : ∀ W, Calls Tryz.prog 79 #[.string s, .string ⟨#[87, 47]⟩] W fun e w' => e = .returned (.tuple #[.string (offW s), .bool (wkB s)]) ∧ w' = W := fun W => by
    rw [← pre_wk, ← pre_off]
    exact Tryz.strings_CutPrefix s ⟨#[87, 47]⟩ W
  have c2 := fun W => unq_any' (offW s) W (by have := offW_le s; omega)
  have C1 := Lib.hid c1
  clear c1
  rcases both (unB (offW s)) with hu | hu
  · rw [tgO_yes hu, tgB_un, hu]
    rw [hu] at c2
    have C2 := Lib.hid c2
    clear c2 hu
    generalize unO (offW s) = M at *
    generalize wkB s = b at *
    generalize offW s = R at *
    unfold tgV
    have HZ : Hid ((w.alloc (.cells #[.bool b, .string M] 49)).heap[w.heap.size]? = some (.cells #[.bool b, .string M] 49 (0, 0))) := heap_alloc_new w _
    have HB : Hid (Below w.heap.size w (w.alloc (.cells #[.bool b, .string M] 49))) := (Below.refl _ _).alloc (Nat.le_refl _) _
    go_enter Tryz.func57, Tryz.ntmps57
    go_wp2_with (first
      | (go_at_call 79; refine (C1.out _).mono ?_; rintro e w1 ⟨rfl, rfl⟩)
      | (go_at_call 80; refine (C2.out _).mono ?_; rintro e w1 ⟨rfl, rfl⟩))
    refine bodyPost_ret (results_cell_row_tmp rfl _ _ w.heap.size 49 #[.bool b, .string M] (0, 0) _ rfl HZ.out Tryz.underlying49 rfl (by kernel_rfl)) rfl ?_
    exact ⟨rfl, HB.out⟩
  · rw [tgO_no hu, tgB_un, hu]
    rw [hu] at c2
    have C2 := Lib.hid c2
    clear c2 hu
    generalize unO (offW s) = M at *
    generalize wkB s = b at *
    generalize offW s = R at *
    unfold tgV
    have HZ : Hid ((w.alloc (.cells #[.bool false, .string ⟨#[]⟩] 49)).heap[w.heap.size]? = some (.cells #[.bool false, .string ⟨#[]⟩] 49 (0, 0))) := heap_alloc_new w _
    have HB : Hid (Below w.heap.size w (w.alloc (.cells #[.bool false, .string ⟨#[]⟩] 49))) := (Below.refl _ _).alloc (Nat.le_refl _) _
    go_enter Tryz.func57, Tryz.ntmps57
    go_wp2_with (first
      | (go_at_call 79; refine (C1.out _).mono ?_; rintro e w1 ⟨rfl, rfl⟩)
      | (go_at_call 80; refine (C2.out _).mono ?_; rintro e w1 ⟨rfl, rfl⟩))
    refine bodyPost_ret (results_cell_row_tmp rfl _ _ w.heap.size 49 #[.bool false, .string ⟨#[]⟩] (0, 0) _ rfl HZ.out Tryz.underlying49 rfl (by kernel_rfl)) rfl ?_
    exact ⟨rfl, HB.out⟩

theorem ext_take (s : ByteArray) (k : Nat) : (s.extract 0 k).data.toList = s.data.toList.take k := by
  rw [piece_ext, mkS_list]; unfold piece; simp
theorem ext_drop (s : ByteArray) (k : Nat) : s.extract k s.size = mkS (s.data.toList.drop k) := by
  rw [piece_ext, piece_all]

set_option maxHeartbeats 8000000 in
set_option maxRecDepth 100000 in
theorem ecut_any (s : ByteArray) (w : World) (hs : s.size ≤ 100000000) :
    Calls Tryz.prog 82 #[.string s] w fun e w' => e = .returned (.tuple #[.string (nxE s), .string (nxR s), .bool (nxM s)]) ∧ Below w.heap.size w w' := by
  obtain ⟨D, hD⟩ : ∃ D, cuL false [] s.data.toList = D := ⟨_, rfl⟩
  have hE : nxE s = mkS (trimL D.1) := by rw [← hD]; rfl
  have hR : nxR s = mkS (D.2.getD []) := by rw [← hD]; rfl
  have hM : nxM s = D.2.isSome := by rw [← hD]; rfl
  have HD : Hid (D = cuS false s 0) := by show _ = _; rw [← hD]; unfold cuS; simp
  have HE := Lib.hid hE
  have HR := Lib.hid hR
  have HM := Lib.hid hM
  clear hD hE hR hM
  generalize nxE s = E at *
  generalize nxR s = R at *
  generalize nxM s = M at *
  have CT := Lib.hid (fun (x : ByteArray) (hx : x.size ≤ 100000000) W => trim_any x W (show x.size ≤ maxLen by unfold maxLen; omega))
  go_enter Tryz.func82, Tryz.ntmps82
  go_wp2_with fail
  go_loopw [5, 10] (fun q i wr => ∃ (k : Nat) (b : Bool), k ≤ s.size ∧ q = .bool b ∧ i = .int .i64 k ∧ Hid (D = cuS b s k) ∧ Below w.heap.size w wr) (fun _ i _ => s.size - (intOf i).toNat)
  case atStart => exact ⟨0, false, Nat.zero_le _, rfl, rfl, HD.out, Below.refl _ _⟩
  case round =>
    clear HD
    obtain ⟨k, b, hk, rfl, rfl, hf, hbel⟩ := hrel
    by_cases hlt : k < s.size
    · have hx1 : (k : Int) + 1 ≤ (s.size : Int) := by omega
      have hx0 : (k : Int) ≤ (k : Int) + 1 := by omega
      have q34 := one_is s k hlt 34
      have q44 := one_is s k hlt 44
      by_cases hc : s[k] = 34
      · have e1 : ((s.extract k (k + 1)).toList == [34]) = true := by rw [q34, hc]; rfl
        have HN : Hid (D = cuS (!b) s (k + 1)) := hf.out.trans (cuS_quote hlt hc)
        clear hf hc q34 q44
        cases b
        all_goals
          go_wp2_with fail
          go_roundw
          case rel => exact ⟨k + 1, _, by omega, rfl, by go_num, HN, hbel⟩
          case measure => simp [intOf]; omega
      · have e1 : ((s.extract k (k + 1)).toList == [34]) = false := by rw [q34, beq_eq_false_iff_ne]; exact hc
        by_cases h4 : s[k] = 44
        · have e2 : ((s.extract k (k + 1)).toList == [44]) = true := by rw [q44, h4]; rfl
          cases b with
          | true =>
            have HN : Hid (D = cuS true s (k + 1)) := hf.out.trans (cuS_other hlt hc (.inr rfl))
            clear hf hc h4 q34 q44
            go_wp2_with fail
            go_roundw
            case rel => exact ⟨k + 1, _, by omega, rfl, by go_num, HN, hbel⟩
            case measure => simp [intOf]; omega
          | false =>
            have hd := hf.out.trans (cuS_comma hlt h4)
            have hz : (s.extract 0 k).size ≤ 100000000 := by simp; omega
            have ct := CT.out (s.extract 0 k) hz
            rw [ext_take] at ct
            have r1 := HE.out
            have r2 := HR.out
            have r3 := HM.out
            rw [hd] at r1 r2 r3
            have r4 := (ext_drop s (k + 1)).trans r2.symm
            rw [show mkS (trimL (List.take k s.data.toList)) = E from r1.symm] at ct
            have CX := Lib.hid ct
            have H3 := Lib.hid r3
            have H4 := Lib.hid r4
            have hi0 : (0 : Int) ≤ (k : Int) := by omega
            have hi1 : (k : Int) ≤ (s.size : Int) := by omega
            have hi2 : (0 : Int) ≤ (k : Int) + 1 := by omega
            have hx3 : IntKind.i64.wrap ((k : Int) + 1) = (k : Int) + 1 := IntWalk.i64_in _ (by omega)
            clear hf hc h4 q34 q44 ct r1 r2 r3 r4 hd HE HR HM CT hz
            go_wp2_with fail
            go_region_held3 (fun _ => True) (trivial) ((go_at_call 81; refine (CX.out _).mono ?_; rintro e w1 ⟨rfl, hb1⟩; have HB := Lib.hid (below_then hbel.drew hb1); clear hb1))
            go_wp2_with fail
            go_ret3
            exact ⟨by rw [H3.out, ← H4.out]; rfl, HB.out⟩
        · have e2 : ((s.extract k (k + 1)).toList == [44]) = false := by rw [q44, beq_eq_false_iff_ne]; exact h4
          have HN : Hid (D = cuS b s (k + 1)) := hf.out.trans (cuS_other hlt hc (.inl h4))
          clear hf hc h4 q34 q44
          go_wp2_with fail
          go_roundw
          case rel => exact ⟨k + 1, _, by omega, rfl, by go_num, HN, hbel⟩
          case measure => simp [intOf]; omega
    · have hd := hf.out.trans (cuS_end (by omega))
      have ct := CT.out s hs
      have r1 := HE.out
      have r2 := HR.out
      have r3 := HM.out
      rw [hd] at r1 r2 r3
      rw [show mkS (trimL s.data.toList) = E from r1.symm] at ct
      have CX := Lib.hid ct
      have H2 := Lib.hid r2
      have H3 := Lib.hid r3
      clear hf ct r1 r2 r3 hd HE HR HM CT
      go_wp2_with (go_at_call 81; refine (CX.out _).mono ?_; rintro e w1 ⟨rfl, hb1⟩; have HB := Lib.hid (below_then hbel hb1); clear hb1)
      go_ret3
      exact ⟨by rw [H2.out, H3.out]; rfl, HB.out⟩

end Go.Proofs.YtjkfdjolhmgemaaGreatDoor
end

/-
  Package reuse: contract of Tag.
-/
section
namespace Go.Proofs.YtjkfdjolhmgemaaGreatDoor
open Go.RowKit
set_option linter.unusedSimpArgs false

set_option maxHeartbeats 4000000 in
set_option maxRecDepth 100000 in
theorem reuG_any (r : Rply) (A : Option Addr) (c : Nat) (w : World) (h : SlF w A r.f.length c r.f) (hL : FwL r.f) :
    Calls Tryz.prog 26 #[.agg (rpC r A c)] w fun e w' => e = .returned (.tuple #[tgV (rtO r.f), .bool (rtB r.f)]) ∧ Below w.heap.size w w' := by
  obtain ⟨pc, pr, pv, f, pb⟩ := r
  unfold rpC
  simp only at *
  have C1 := Lib.hid (fun W (hW : Below w.heap.size w W) => all_any A f.length c f etS W (h.below hW) (by have := hL.n; omega) (fwl_bd hL) reu_le.1)
  have hvz := (fwl_all hL etS).2
  have hV : rtO f = if (fdAll f etS).length = 1 then tgO (mkS ((fdAll f etS).headD [])) else (false, ⟨#[]⟩) := rfl
  have hB : rtB f = if (fdAll f etS).length = 1 then tgB (mkS ((fdAll f etS).headD [])) else false := rfl
  generalize rtO f = V at *
  generalize rtB f = bb at *
  generalize fdAll f etS = X at *
  unfold Vals etS at C1
  have HB : Hid (Below w.heap.size w ((w.alloc (.cells #[.int .i64 pc, .string pr, .int .i64 pv, .slice A f.length c, .string pb] 26)).alloc (.cells #[.bool false, .string ⟨#[]⟩] 49))) := ((Below.refl _ _).alloc (Nat.le_refl _) _).alloc (by simp) _
  have ZP : Hid (((w.alloc (.cells #[.int .i64 pc, .string pr, .int .i64 pv, .slice A f.length c, .string pb] 26)).alloc (.cells #[.bool false, .string ⟨#[]⟩] 49)).heap[w.heap.size]? = some (.cells #[.int .i64 pc, .string pr, .int .i64 pv, .slice A f.length c, .string pb] 26 (0, 0))) := zero_more (heap_alloc_new w _)
  have zt := heap_alloc_new (w.alloc (.cells #[.int .i64 pc, .string pr, .int .i64 pv, .slice A f.length c, .string pb] 26)) (.cells #[.bool false, .string ⟨#[]⟩] 49)
  rw [show (w.alloc (.cells #[.int .i64 pc, .string pr, .int .i64 pv, .slice A f.length c, .string pb] 26)).heap.size = w.heap.size + 1 by simp] at zt
  have ZT := Lib.hid zt
  obtain ⟨q0, q1, q2, q3, q4⟩ := cel5r ZP.out
  clear h zt
  by_cases h1 : X.length = 1
  · rw [if_pos h1] at hV hB
    obtain ⟨x, rfl⟩ : ∃ x, X = [x] := by
      match X, h1 with
      | [x], _ => exact ⟨x, rfl⟩
    replace hV : V = tgO (mkS x) := hV
    replace hB : bb = tgB (mkS x) := hB
    have hxz := hvz x (List.mem_singleton.2 rfl)
    have CP := Lib.hid (fun W => etP_any (mkS x) W (by rw [mkS_size]; omega))
    rw [← hV, ← hB] at CP
    obtain ⟨xs, hxs⟩ : ∃ xs, xs = mkS x := ⟨_, rfl⟩
    rw [← hxs] at CP
    have HX := Lib.hid hxs
    obtain ⟨va, vb⟩ := V
    unfold tgV at *
    clear hV hB hvz hxs hxz
    simp only [List.length_singleton] at C1
    go_enter Tryz.func26, Tryz.ntmps26
    go_wp2_with fail
    refine (C1.out _ HB.out).mono ?_
    rintro e w1 ⟨A1, c1, rfl, hS, _, hb⟩
    obtain ⟨ad, rfl, hc⟩ := hS.at_ (by omega)
    have hcell := hc 0 x rfl
    rw [Addr.add_zero', ← HX.out] at hcell
    have ZT := Lib.hid (zero_still hb ZT.out)
    have HB := Lib.hid (below_then HB.out hb)
    clear hS hc hb C1 q0 q1 q2 q3 q4
    go_wp2_with fail
    refine (CP.out _).mono ?_
    rintro e w2 ⟨rfl, hb⟩
    have ZT := Lib.hid (zero_still hb ZT.out)
    have HB := Lib.hid (below_then HB.out hb)
    clear hb
    go_wp2_with (refine wpList_store_row rfl _ _ _ rfl (w.heap.size + 1) #[.bool va, .string vb] rfl rfl 49 _ ZT.out (by kernel_rfl) rfl (by simp [Value.oneCell']) ?_)
    refine bodyPost_ret (results_cell_row_tmp rfl _ _ (w.heap.size + 1) 49 #[.bool va, .string vb] (0, 0) _ rfl (setRow_heap _ _ _ _ _ _ ZT.out) Tryz.underlying49 rfl (by kernel_rfl)) rfl ?_
    exact ⟨rfl, below_setRow HB.out (by omega) _⟩
  · rw [if_neg h1] at hV hB
    subst hV hB
    have h1' : ¬ (X.length : Int) = 1 := by omega
    generalize X.length = n at *
    unfold tgV
    clear h1 hvz
    go_enter Tryz.func26, Tryz.ntmps26
    go_wp2_with fail
    refine (C1.out _ HB.out).mono ?_
    rintro e w1 ⟨A1, c1, rfl, _, _, hb⟩
    have ZT := Lib.hid (zero_still hb ZT.out)
    have HB := Lib.hid (below_then HB.out hb)
    clear hb q0 q1 q2 q3 q4
    go_wp2_with (refine wpList_store_row rfl _ _ _ rfl (w.heap.size + 1) #[.bool false, .string ⟨#[]⟩] rfl rfl 49 _ ZT.out (by kernel_rfl) rfl (by simp [Value.oneCell']) ?_)
    refine bodyPost_ret (results_cell_row_tmp rfl _ _ (w.heap.size + 1) 49 #[.bool false, .string ⟨#[]⟩] (0, 0) _ rfl (setRow_heap _ _ _ _ _ _ ZT.out) Tryz.underlying49 rfl (by kernel_rfl)) rfl ?_
    exact ⟨rfl, below_setRow HB.out (by omega) _⟩

end Go.Proofs.YtjkfdjolhmgemaaGreatDoor
end

/-
  Contracts of package etag's Text, Strong, Weak, and of slices.IndexFunc and ContainsFunc on tags, for any test that is handed in.
-/
section
namespace Go.Proofs.YtjkfdjolhmgemaaGreatDoor
open Go.RowKit
set_option linter.unusedSimpArgs false

theorem etS_any (a : Tg) (h : a.2.size ≤ 1000000000) (w : World) :
    Calls Tryz.prog 27 #[tgV a] w fun e w' => e = .returned (.string (tgS a)) ∧ Below w.heap.size w w' := by
  obtain ⟨a1, a2⟩ := a
  unfold tgV
  have hb : Below w.heap.size w (w.alloc (.cells #[.bool a1, .string a2] 49)) := (Below.refl _ _).alloc (Nat.le_refl _) _
  have hA : (w.alloc (.cells #[.bool a1, .string a2] 49)).heap[w.heap.size]? = some (.cells #[.bool a1, .string a2] 49 (0, 0)) := heap_alloc_new w _
  obtain ⟨hA0, hA1⟩ := zero_two hA
  have hs : a2.size ≤ 1000000000 := h
  have HB := Lib.hid hb
  have z1 : ((⟨#[34]⟩ : ByteArray) ++ a2).size = 1 + a2.size := by rw [ByteArray.size_append]; rfl
  have z2 : ((⟨#[34]⟩ : ByteArray) ++ a2 ++ (⟨#[34]⟩ : ByteArray)).size = 1 + a2.size + 1 := by rw [ByteArray.size_append, z1]; rfl
  have k1 : ¬ 9223372036854775807 < 1 + a2.size := by omega
  have k2 : ¬ 9223372036854775807 < 1 + a2.size + 1 := by omega
  have k3 : ¬ 9223372036854775807 < 2 + (1 + a2.size + 1) := by omega
  clear hb hA h
  cases a1
  · have hr : tgS (false, a2) = (⟨#[34]⟩ : ByteArray) ++ a2 ++ (⟨#[34]⟩ : ByteArray) := rfl
    rw [hr]
    clear hr
    go_enter Tryz.func27, Tryz.ntmps27
    go_wp2_with fail
    go_ret
    exact ⟨rfl, HB.out⟩
  · have hr : tgS (true, a2) = (⟨#[87, 47]⟩ : ByteArray) ++ ((⟨#[34]⟩ : ByteArray) ++ a2 ++ (⟨#[34]⟩ : ByteArray)) := by
      show (⟨#[87, 47, 34]⟩ : ByteArray) ++ a2 ++ (⟨#[34]⟩ : ByteArray) = _
      rw [← ByteArray.append_assoc, ← ByteArray.append_assoc]
      rfl
    rw [hr]
    clear hr
    go_enter Tryz.func27, Tryz.ntmps27
    go_wp2_with fail
    go_ret
    exact ⟨rfl, HB.out⟩

theorem etW_any (a b : Tg) (w : World) :
    Calls Tryz.prog 75 #[tgV a, tgV b] w fun e w' => e = .returned (.bool (wekB a b)) ∧ Below w.heap.size w w' := by
  obtain ⟨a1, a2⟩ := a
  obtain ⟨b1, b2⟩ := b
  have hr : wekB (a1, a2) (b1, b2) = (a2.toList == b2.toList) := rfl
  rw [hr]
  unfold tgV
  have hb : Below w.heap.size w ((w.alloc (.cells #[.bool a1, .string a2] 49)).alloc (.cells #[.bool b1, .string b2] 49)) := ((Below.refl _ _).alloc (Nat.le_refl _) _).alloc (by simp) _
  have hA : ((w.alloc (.cells #[.bool a1, .string a2] 49)).alloc (.cells #[.bool b1, .string b2] 49)).heap[w.heap.size]? = some (.cells #[.bool a1, .string a2] 49 (0, 0)) := zero_more (heap_alloc_new w _)
  have hB : ((w.alloc (.cells #[.bool a1, .string a2] 49)).alloc (.cells #[.bool b1, .string b2] 49)).heap[w.heap.size + 1]? = some (.cells #[.bool b1, .string b2] 49 (0, 0)) := by
    have := heap_alloc_new (w.alloc (.cells #[.bool a1, .string a2] 49)) (.cells #[.bool b1, .string b2] 49)
    rwa [show (w.alloc (.cells #[.bool a1, .string a2] 49)).heap.size = w.heap.size + 1 by simp] at this
  have hA := (zero_two hA).2
  have hB := (zero_two hB).2
  have HB := Lib.hid hb
  clear hb hr
  go_enter Tryz.func75, Tryz.ntmps75
  go_wp2_with fail
  go_ret
  exact ⟨rfl, HB.out⟩

/-- The place of the first tag that passes the test, or -1. -/
def ixT (p : Tg → Bool) (L : List Tg) : Int := if L.any p then (L.findIdx p : Int) else -1
theorem ixT_hit {p : Tg → Bool} {L : List Tg} {k : Nat} (hk : k < L.length) (h : p L[k] = true) (hm : ∀ j (hj : j < L.length), j < k → p L[j] = false) : ixT p L = k := by
  unfold ixT
  rw [if_pos (List.any_eq_true.2 ⟨L[k], List.getElem_mem hk, h⟩), (List.findIdx_eq hk).2 ⟨h, fun j hj => hm j (by omega) hj⟩]
theorem ixT_miss {p : Tg → Bool} {L : List Tg} (hm : ∀ j (hj : j < L.length), p L[j] = false) : ixT p L = -1 := by
  have h : L.any p = false := by
    rw [List.any_eq_false]
    intro x hx
    obtain ⟨j, hj, rfl⟩ := List.getElem_of_mem hx
    simp [hm j hj]
  unfold ixT
  rw [if_neg (by rw [h]; simp)]
theorem ixT_any (p : Tg → Bool) (L : List Tg) : decide (0 ≤ ixT p L) = L.any p := by
  unfold ixT
  by_cases h : L.any p = true
  · rw [if_pos h, h]; simp
  · rw [if_neg h, Bool.eq_false_iff.2 h]; simp

/-- A test of tags: function g with the captured cells caps answers p. -/
def PredG (w : World) (g : Nat) (caps : Array Value) (p : Tg → Bool) : Prop :=
  ∀ (W : World) (x : Tg), Below w.heap.size w W → Calls Tryz.prog g (#[tgV x] ++ caps) W fun e w' => e = .returned (.bool (p x)) ∧ Below W.heap.size W w'

theorem idxG_any (A : Option Addr) (n c : Nat) (L : List Tg) (w : World) (h : SlT w A n c L) (hn : n ≤ 1000000000) (g : Nat) (caps : Array Value) (p : Tg → Bool)
    (eg : ∀ args W, (callFunc g args).run Tryz.prog W = .ok (.enter g args) W) (hp : PredG w g caps p) :
    Calls Tryz.prog 108 #[.slice A n c, .func (.func g) #[] caps] w fun e w' => e = .returned (.int .i64 (ixT p L)) ∧ Below w.heap.size w w' := by
  have hlen := h.len
  subst hlen
  have HP := Lib.hid hp
  clear hp
  go_enter Tryz.func108, Tryz.ntmps108
  go_wp2_with fail
  go_loopw [5, 8] (fun _ i wr => ∃ k : Nat, k ≤ L.length ∧ i = .int .i64 k ∧ Hid (∀ j (hj : j < L.length), j < k → p L[j] = false) ∧ Below w.heap.size w wr) (fun _ i _ => L.length - (intOf i).toNat)
  case atStart => exact ⟨0, Nat.zero_le _, rfl, (fun j hj h0 => absurd h0 (by omega)), Below.refl _ _⟩
  case round =>
    obtain ⟨k, hk, rfl, hf, hbel⟩ := hrel
    by_cases hlt : k < L.length
    · obtain ⟨ad, rfl, hc⟩ := h.at_ (by omega)
      have HN : Hid (p L[k] = true → ixT p L = k) := fun hp => ixT_hit hlt hp hf.out
      have HM : Hid (p L[k] = false → ∀ j (hj : j < L.length), j < k + 1 → p L[j] = false) := fun hp j hj hjk => by
        by_cases e : j = k
        · subst e; exact hp
        · exact hf.out j hj (by omega)
      obtain ⟨hc0, hc1⟩ := hc k L[k] (List.getElem?_eq_getElem hlt)
      have hcell0 := cell_kept hbel hc0
      have hcell1 := fd_snd (cell_kept hbel hc1)
      generalize L[k] = x at HN HM hc0 hc1 hcell0 hcell1
      obtain ⟨a, b⟩ := x
      have hcall := HP.out wr (a, b) hbel
      unfold tgV at hcall
      clear hc hc0 hc1
      have HC := Lib.hid hcall
      have hi0 : (0 : Int) ≤ (k : Int) := by omega
      have hi1 : (k : Int) < (L.length : Int) := by omega
      clear hcall hf
      cases hq : p (a, b) with
      | true =>
        have HR := Lib.hid (HN.out hq)
        clear HN HM
        rw [hq] at HC
        clear hq
        go_wp2_with fail
        refine HC.out.mono ?_
        rintro e w1 ⟨rfl, hb1⟩
        clear HC
        go_wp2_with fail
        go_ret
        exact ⟨by rw [HR.out]; rfl, hbel.trans (hb1.mono hbel.size)⟩
      | false =>
        have HR := Lib.hid (HM.out hq)
        clear HN HM
        rw [hq] at HC
        clear hq
        go_wp2_with fail
        refine HC.out.mono ?_
        rintro e w1 ⟨rfl, hb1⟩
        clear HC
        go_wp2_with fail
        go_roundw
        case rel => exact ⟨k + 1, by omega, by go_num, HR.out, hbel.trans (hb1.mono hbel.size)⟩
        case measure => simp [intOf]; omega
    · have HE : Hid (ixT p L = -1) := ixT_miss fun j hj => hf.out j hj (by omega)
      go_wp2_with fail
      go_ret
      exact ⟨by rw [HE.out]; rfl, hbel⟩

theorem idxG_has (A : Option Addr) (n c : Nat) (L : List Tg) (w : World) (h : SlT w A n c L) (hn : n ≤ 1000000000) (g : Nat) (caps : Array Value) (p : Tg → Bool)
    (eg : ∀ args W, (callFunc g args).run Tryz.prog W = .ok (.enter g args) W) (hp : PredG w g caps p) :
    Calls Tryz.prog 83 #[.slice A n c, .func (.func g) #[] caps] w fun e w' => e = .returned (.bool (L.any p)) ∧ Below w.heap.size w w' := by
  have HQ := Lib.hid (idxG_any A n c L w h hn g caps p eg hp)
  have HE := Lib.hid (ixT_any p L)
  clear h hp eg
  generalize ixT p L = r at *
  go_enter Tryz.func83, Tryz.ntmps83
  go_wp2_with fail
  refine HQ.out.mono ?_
  rintro e w1 ⟨rfl, hb1⟩
  clear HQ
  go_wp2_with fail
  all_goals
    go_ret
    exact ⟨by rw [← HE.out]; simp_all, hb1⟩

end Go.Proofs.YtjkfdjolhmgemaaGreatDoor
end

/-
  Contract of package etag's List.
-/
section
namespace Go.Proofs.YtjkfdjolhmgemaaGreatDoor
open Go.RowKit
set_option linter.unusedSimpArgs false

/-- What is left to be read of a list. -/
def lsMs : Value → Value → Nat
  | .string r, .bool true => r.size + 1
  | _, _ => 0

set_option maxHeartbeats 16000000 in
set_option maxRecDepth 100000 in
theorem etL_any (s : ByteArray) (w : World) (hs : s.size ≤ 100000000) :
    Calls Tryz.prog 58 #[.string s] w (IsTs w (lsL s) (lsA s) (lsE s)) := by
  have hms : s.size ≤ maxLen := by unfold maxLen; omega
  have CT := Lib.hid (fun W => trim_any s W hms)
  have hA : lsA s = ((mkS (trimL s.data.toList)).toList == [42]) := rfl
  unfold IsTs
  clear hms
  cases hl : lsA s with
  | true =>
    have h1 : lsL s = [] := by unfold lsL; rw [hl]; rfl
    have h2 : lsE s = 0 := by unfold lsE; rw [hl]; rfl
    rw [h1, h2]
    rw [hl] at hA
    replace hA := hA.symm
    clear h1 h2 hl
    generalize mkS (trimL s.data.toList) = TS at *
    go_enter Tryz.func58, Tryz.ntmps58
    go_wp2_with fail
    go_step3
    go_wp2_with (go_at_call 81; refine (CT.out _).mono ?_; rintro e w1 ⟨rfl, hb1⟩)
    simp +zetaDelta only [Exit.inBlock, Exit.then, Exit.noGoto_ret]
    go_ret3
    exact ⟨none, 0, rfl, SlT.none_ _, hb1⟩
  | false =>
    have h1 : lsL s = lsP s := by unfold lsL; rw [hl]; rfl
    have h2 : lsE s = if (lsP s).isEmpty then 5 else 0 := by unfold lsE; rw [hl]; rfl
    have hLP : lsP s = (lsR false [] [] s.data.toList).getD [] := rfl
    rw [h1]
    rw [hl] at hA
    replace hA := hA.symm
    clear h1 hl
    have HE2 := Lib.hid h2
    clear h2
    generalize lsE s = EE at *
    obtain ⟨D, hD⟩ : ∃ D, lsR false [] [] s.data.toList = D := ⟨_, rfl⟩
    rw [hD] at hLP
    have HLP := Lib.hid hLP
    have HD : Hid (D = lsN true [] s) := by show _ = _; rw [← hD]; rfl
    clear hLP hD
    generalize lsP s = LP at *
    generalize mkS (trimL s.data.toList) = TS at *
    go_enter Tryz.func58, Tryz.ntmps58
    go_wp2_with fail
    go_step3
    go_wp2_with (go_at_call 81; refine (CT.out _).mono ?_; rintro e w1 ⟨rfl, hb1⟩)
    go_step3
    go_wp2_with fail
    go_loopw [5, 6, 7] (fun v r m wr => ∃ (b : Bool) (R : ByteArray) (X : List Tg), r = .string R ∧ m = .bool b ∧ R.size ≤ s.size ∧ X.length + lsMs r m ≤ s.size + 1 ∧ Hid (OwnT wr w.heap.size 49 v X) ∧ Hid (∀ x ∈ X, x.2.size ≤ maxLen) ∧ Hid (D = lsN b X R) ∧ Below w.heap.size w wr) (fun _ r m _ => lsMs r m)
    case atStart => exact ⟨true, s, [], rfl, rfl, Nat.le_refl _, by simp [lsMs], OwnT.nil _ _ _, (fun _ h => absurd h (by simp)), HD.out, hb1⟩
    case round =>
      clear HD
      obtain ⟨b, R, X, rfl, rfl, hR, hX, ho, hz, hf, hbel⟩ := hrel
      cases b with
      | true =>
        have hX1 : X.length + (R.size + 1) ≤ s.size + 1 := hX
        have cc := fun W => ecut_any R W (by omega)
        have hE1 := nxE_le R
        have hR1 := nxR_le R
        have cg := fun W => etP_any (nxE R) W (by omega)
        have hms : lsMs (.string (nxR R)) (.bool (nxM R)) ≤ R.size := by
          cases hm : nxM R with
          | true => have := nxR_lt hm; show (nxR R).size + 1 ≤ _; omega
          | false => exact Nat.zero_le _
        have CC := Lib.hid cc
        clear cc
        cases ht : tgB (nxE R) with
        | true =>
          have HN : Hid (D = lsN (nxM R) (X ++ [tgO (nxE R)]) (nxR R)) := hf.out.trans (nx_tag X ht)
          have htz := tgO_le (nxE R)
          have hm1 : (100000000 : Nat) ≤ maxLen := by decide
          have hz2 : ∀ x ∈ X ++ [tgO (nxE R)], x.2.size ≤ maxLen := fun x hx => by
            rw [List.mem_append, List.mem_singleton] at hx
            rcases hx with hx | rfl
            · exact hz.out x hx
            · omega
          have HZ2 := Lib.hid hz2
          have HT1 := Lib.hid (show (tgO (nxE R)).2.size ≤ maxLen from hz2 _ (by simp))
          rw [ht] at cg
          have CG := Lib.hid cg
          have HMS := Lib.hid hms
          clear hf ht cg htz hz2 hms hE1 hm1
          generalize tgO (nxE R) = tg at *
          obtain ⟨ta, tb⟩ := tg
          unfold tgV at CG
          generalize nxE R = E at *
          generalize nxR R = R1 at *
          generalize nxM R = b1 at *
          go_wp2_with (go_at_call 82; refine (CC.out _).mono ?_; rintro e w2 ⟨rfl, hb2⟩)
          have hbel2 := below_then hbel hb2
          have ho2 := ho.out.below hb2
          refine (CG.out _).mono ?_
          rintro e w3 ⟨rfl, hb3⟩
          have HB3 := Lib.hid (below_then hbel2 hb3)
          have HO3 := Lib.hid (ho2.below hb3)
          clear hb2 hb3 hbel hbel2 ho ho2
          generalize hW4 : w3.alloc (.cells #[.bool ta, .string tb] 49) = W4 at *
          have HB4 : Hid (Below w.heap.size w W4) := by show Below _ _ _; rw [← hW4]; exact HB3.out.alloc HB3.out.size _
          have ho4 := HO3.out.alloc (.cells #[.bool ta, .string tb] 49)
          rw [hW4] at ho4
          have HO4 := Lib.hid ho4
          clear ho4
          have hsz4 : w.heap.size ≤ W4.heap.size := HB4.out.size
          have qz : W4.heap[w3.heap.size]? = some (.cells #[.bool ta, .string tb] 49 (0, 0)) := by rw [← hW4]; exact heap_alloc_new w3 _
          have qa := (zero_two qz).1
          have qb := (zero_two qz).2
          go_wp2_with (at_builtin; refine wpList_append_slt rfl _ _ 56 rfl w.heap.size 49 Tryz.underlying56 (by kernel_rfl) _ rfl X (HO4.out.alloc _) _ 1 1 rfl [(ta, tb)] (SlT.one W4 49 (ta, tb) HT1.out) (by simp; omega) (by simp; omega) w (HB4.out.alloc hsz4 _) ?_; intro v1 w5 ho1 hb1 hz1)
          go_roundw
          case rel => exact ⟨b1, R1, X ++ [(ta, tb)], rfl, rfl, by omega, by have := HMS.out; simp; omega, ho1, HZ2.out, HN, hb1⟩
          case measure => have := HMS.out; show lsMs _ _ < R.size + 1; omega
        | false =>
          rw [ht] at cg
          have both : ∀ t : Bool, t = true ∨ t = false := fun t => by cases t <;> simp
          rcases both ((nxE R).toList.isEmpty) with he | he
          · have HN : Hid (D = lsN (nxM R) X (nxR R)) := hf.out.trans (nx_keep X he)
            have CG := Lib.hid cg
            have HMS := Lib.hid hms
            clear hf ht cg hms hE1
            generalize tgO (nxE R) = tg at *
            obtain ⟨ta, tb⟩ := tg
            unfold tgV at CG
            generalize nxE R = E at *
            generalize nxR R = R1 at *
            generalize nxM R = b1 at *
            go_wp2_with (go_at_call 82; refine (CC.out _).mono ?_; rintro e w2 ⟨rfl, hb2⟩)
            have hbel2 := below_then hbel hb2
            have ho2 := ho.out.below hb2
            refine (CG.out _).mono ?_
            rintro e w3 ⟨rfl, hb3⟩
            have HB3 := Lib.hid (below_then hbel2 hb3)
            have HO3 := Lib.hid (ho2.below hb3)
            clear hb2 hb3 hbel hbel2 ho ho2
            go_wp2_with fail
            go_roundw
            case rel => exact ⟨b1, R1, X, rfl, rfl, by omega, by have := HMS.out; omega, HO3.out.alloc _, hz, HN, HB3.out.alloc HB3.out.size _⟩
            case measure => have := HMS.out; show lsMs _ _ < R.size + 1; omega
          · have hn := hf.out.trans (nx_bad X he ht)
            have hLE : LP = [] := by rw [HLP.out, hn]; rfl
            have CG := Lib.hid cg
            have HLE := Lib.hid hLE
            clear hf ht cg hms hE1 hn hLE HLP
            generalize tgO (nxE R) = tg at *
            obtain ⟨ta, tb⟩ := tg
            unfold tgV at CG
            generalize nxE R = E at *
            generalize nxR R = R1 at *
            generalize nxM R = b1 at *
            go_wp2_with (go_at_call 82; refine (CC.out _).mono ?_; rintro e w2 ⟨rfl, hb2⟩)
            have hbel2 := below_then hbel hb2
            refine (CG.out _).mono ?_
            rintro e w3 ⟨rfl, hb3⟩
            have HB3 := Lib.hid (below_then hbel2 hb3)
            clear hb2 hb3 hbel hbel2 ho
            go_wp2_with fail
            simp +zetaDelta only [Exit.inBlock, Exit.then, Exit.noGoto_ret]
            go_ret3
            rw [HE2.out, HLE.out]
            exact ⟨none, 0, rfl, SlT.none_ _, HB3.out.alloc HB3.out.size _⟩
      | false =>
        have hLX : LP = X := by rw [HLP.out, hf.out]; rfl
        have HLX := Lib.hid hLX
        clear hf hLX HLP
        obtain ⟨A1, c1, rfl, hF⟩ := ho.out.slt hz.out
        have HF := Lib.hid hF
        clear hF
        have hX2 : X.length ≤ s.size + 1 := by have : X.length + 0 ≤ s.size + 1 := hX; omega
        cases X with
        | nil =>
          go_wp2_with fail
          simp +zetaDelta only [Exit.inBlock, Exit.then, Exit.noGoto_ret]
          go_ret3
          rw [HE2.out, HLX.out]
          exact ⟨none, 0, rfl, SlT.none_ _, hbel⟩
        | cons x X =>
          have hne : ((X.length : Int) + 1 == 0) = false := by rw [beq_eq_false_iff_ne]; omega
          go_wp2_with fail
          simp +zetaDelta only [Exit.inBlock, Exit.then, Exit.noGoto_ret]
          go_ret3
          rw [HE2.out, HLX.out]
          exact ⟨A1, c1, rfl, HF.out, hbel⟩

end Go.Proofs.YtjkfdjolhmgemaaGreatDoor
end

/-
  Contract of package etag's Match; with it all contracts of the package are there (etP_any, etL_any, etM_any, etS_any, etW_any, etT_any).
-/
section
namespace Go.Proofs.YtjkfdjolhmgemaaGreatDoor
open Go.RowKit
set_option linter.unusedSimpArgs false

theorem enters_like : ∀ args W, (callFunc 84 args).run Tryz.prog W = .ok (.enter 84 args) W := Go.Proofs.enters_of Tryz.func84 (by kernel_rfl) rfl

/-- The test that Match hands in. -/
theorem like_any (x t : Tg) (P : Nat) (w : World) (hP : w.heap[P]? = some (.cells #[.bool t.1, .string t.2] 49 (0, 0))) :
    Calls Tryz.prog 84 #[tgV x, .pointer (some ⟨P, 0, none⟩)] w fun e w' => e = .returned (.bool (wekB x t)) ∧ Below w.heap.size w w' := by
  have cw := fun W => etW_any x t W
  obtain ⟨x1, x2⟩ := x
  obtain ⟨t1, t2⟩ := t
  unfold tgV at *
  generalize wekB (x1, x2) (t1, t2) = R at *
  have CW := Lib.hid cw
  have HB : Hid (Below w.heap.size w (w.alloc (.cells #[.bool x1, .string x2] 49))) := (Below.refl _ _).alloc (Nat.le_refl _) _
  obtain ⟨p0, p1⟩ := zero_two (show (w.alloc (.cells #[.bool x1, .string x2] 49)).heap[P]? = some (.cells #[.bool t1, .string t2] 49 (0, 0)) from zero_more hP)
  obtain ⟨q0, q1⟩ := zero_two (heap_alloc_new w (.cells #[.bool x1, .string x2] 49))
  clear cw hP
  go_enter Tryz.func84, Tryz.ntmps84
  go_wp2_with fail
  refine (CW.out _).mono ?_
  rintro e w1 ⟨rfl, hb1⟩
  go_wp2_with fail
  go_ret
  exact ⟨rfl, below_then HB.out hb1⟩

set_option maxHeartbeats 4000000 in
set_option maxRecDepth 100000 in
theorem etM_any (s : ByteArray) (a : Tg) (w : World) (hs : s.size ≤ 100000000) :
    Calls Tryz.prog 59 #[.string s, tgV a] w fun e w' => e = .returned (.bool (mtB s a)) ∧ Below w.heap.size w w' := by
  have hmf : ∀ (fn : Fn) (first cap : Array Value) (w : World), (Instr.makeFunc fn first cap).run Tryz.prog w = .ok (.func fn first cap) w := fun _ _ _ _ => rfl
  have cl := etL_any s (w.alloc (.cells #[.bool a.1, .string a.2] 49)) hs
  have hD : mtB s a = (lsA s || (lsL s).any fun x => wekB x a) := rfl
  have hle := ls_len s
  unfold IsTs at cl
  rw [hD]
  have HZ : Hid ((w.alloc (.cells #[.bool a.1, .string a.2] 49)).heap[w.heap.size]? = some (.cells #[.bool a.1, .string a.2] 49 (0, 0))) := heap_alloc_new w _
  have HB : Hid (Below w.heap.size w (w.alloc (.cells #[.bool a.1, .string a.2] 49))) := (Below.refl _ _).alloc (Nat.le_refl _) _
  generalize lsL s = L at *
  generalize lsE s = E at *
  have cj := fun A c W (hc : W.heap[w.heap.size]? = some (.cells #[.bool a.1, .string a.2] 49 (0, 0))) (hs : SlT W A L.length c L) =>
    idxG_has A L.length c L W hs (by omega) 84 #[.pointer (some ⟨w.heap.size, 0, none⟩)] (fun x => wekB x a) enters_like (fun W' x hb' => like_any x a w.heap.size W' (zero_still hb' hc))
  generalize (L.any fun x => wekB x a) = Q at *
  obtain ⟨a1, a2⟩ := a
  unfold tgV
  have CL := Lib.hid cl
  have CJ := Lib.hid cj
  clear cl cj hD hle
  cases hl : lsA s with
  | true =>
    rw [hl] at CL
    clear hl
    go_enter Tryz.func59, Tryz.ntmps59
    go_wp2_with fail
    refine CL.out.mono ?_
    rintro e w1 ⟨A, c, rfl, hF, hb1⟩
    have HB1 := Lib.hid (below_then HB.out hb1)
    clear hF hb1
    go_wp2_with fail
    go_ret
    exact ⟨rfl, HB1.out⟩
  | false =>
    rw [hl] at CL
    clear hl
    go_enter Tryz.func59, Tryz.ntmps59
    go_wp2_with fail
    refine CL.out.mono ?_
    rintro e w1 ⟨A, c, rfl, hF, hb1⟩
    have HB1 := Lib.hid (below_then HB.out hb1)
    have HC := Lib.hid (CJ.out A c w1 (zero_still hb1 HZ.out) hF)
    clear hF hb1
    go_wp2_with fail
    refine HC.out.mono ?_
    rintro e w2 ⟨rfl, hb2⟩
    have HB2 := Lib.hid (below_then HB1.out hb2)
    clear hb2
    go_wp2_with fail
    go_ret
    exact ⟨rfl, HB2.out⟩

end Go.Proofs.YtjkfdjolhmgemaaGreatDoor
end
