/-
  Contracts of package etag's Parse and cut.
-/
import Derived.Test.YtdaoliobmgcmoaaEtpA
import Derived.Test.YtdaoliobmgcmoaaOctTr
namespace Go.Proofs.Ytdaoliobmgcmoaa
open Go.RowKit
set_option linter.unusedSimpArgs false

set_option maxHeartbeats 4000000 in
set_option maxRecDepth 100000 in
theorem etP_any (s : ByteArray) (w : World) (hs : s.size ≤ 100000000) :
    Calls Try.prog 8 #[.string s] w fun e w' => e = .returned (.tuple #[tgV (tgO s), .bool (tgB s)]) ∧ Below w.heap.size w w' := by
  have both : ∀ t : Bool, t = true ∨ t = false := fun t => by cases t <;> simp
  have c1 : ∀ W, Calls Try.prog 21 #[.string s, .string ⟨#[87, 47]⟩] W fun e w' => e = .returned (.tuple #[.string (offW s), .bool (wkB s)]) ∧ w' = W := fun W => by
    rw [← pre_wk, ← pre_off]
    exact Try.strings_CutPrefix s ⟨#[87, 47]⟩ W
  have c2 := fun W => unq_any' (offW s) W (by have := offW_le s; omega)
  have C1 := Lib.hid c1
  clear c1
  rcases both (unB (offW s)) with hu | hu
  · rw [tgO_yes hu, tgB_un, hu]
    rw [hu] at c2
    have C2 := Lib.hid c2
    clear c2 hu
    generalize unO (offW s) = M at *
    generalize wkB s = b at *
    generalize offW s = R at *
    unfold tgV
    have HZ : Hid ((w.alloc (.cells #[.bool b, .string M] 23)).heap[w.heap.size]? = some (.cells #[.bool b, .string M] 23 (0, 0))) := heap_alloc_new w _
    have HB : Hid (Below w.heap.size w (w.alloc (.cells #[.bool b, .string M] 23))) := (Below.refl _ _).alloc (Nat.le_refl _) _
    go_enter Try.func8, Try.ntmps8
    go_wp2_with (first
      | (go_at_call 21; refine (C1.out _).mono ?_; rintro e w1 ⟨rfl, rfl⟩)
      | (go_at_call 22; refine (C2.out _).mono ?_; rintro e w1 ⟨rfl, rfl⟩))
    refine bodyPost_ret (results_cell_row_tmp rfl _ _ w.heap.size 23 #[.bool b, .string M] (0, 0) _ rfl HZ.out Try.underlying23 rfl (by kernel_rfl)) rfl ?_
    exact ⟨rfl, HB.out⟩
  · rw [tgO_no hu, tgB_un, hu]
    rw [hu] at c2
    have C2 := Lib.hid c2
    clear c2 hu
    generalize unO (offW s) = M at *
    generalize wkB s = b at *
    generalize offW s = R at *
    unfold tgV
    have HZ : Hid ((w.alloc (.cells #[.bool false, .string ⟨#[]⟩] 23)).heap[w.heap.size]? = some (.cells #[.bool false, .string ⟨#[]⟩] 23 (0, 0))) := heap_alloc_new w _
    have HB : Hid (Below w.heap.size w (w.alloc (.cells #[.bool false, .string ⟨#[]⟩] 23))) := (Below.refl _ _).alloc (Nat.le_refl _) _
    go_enter Try.func8, Try.ntmps8
    go_wp2_with (first
      | (go_at_call 21; refine (C1.out _).mono ?_; rintro e w1 ⟨rfl, rfl⟩)
      | (go_at_call 22; refine (C2.out _).mono ?_; rintro e w1 ⟨rfl, rfl⟩))
    refine bodyPost_ret (results_cell_row_tmp rfl _ _ w.heap.size 23 #[.bool false, .string ⟨#[]⟩] (0, 0) _ rfl HZ.out Try.underlying23 rfl (by kernel_rfl)) rfl ?_
    exact ⟨rfl, HB.out⟩

theorem ext_take (s : ByteArray) (k : Nat) : (s.extract 0 k).data.toList = s.data.toList.take k := by
  rw [piece_ext, mkS_list]; unfold piece; simp
theorem ext_drop (s : ByteArray) (k : Nat) : s.extract k s.size = mkS (s.data.toList.drop k) := by
  rw [piece_ext, piece_all]

set_option maxHeartbeats 8000000 in
set_option maxRecDepth 100000 in
theorem ecut_any (s : ByteArray) (w : World) (hs : s.size ≤ 100000000) :
    Calls Try.prog 25 #[.string s] w fun e w' => e = .returned (.tuple #[.string (nxE s), .string (nxR s), .bool (nxM s)]) ∧ Below w.heap.size w w' := by
  obtain ⟨D, hD⟩ : ∃ D, cuL false [] s.data.toList = D := ⟨_, rfl⟩
  have hE : nxE s = mkS (trimL D.1) := by rw [← hD]; rfl
  have hR : nxR s = mkS (D.2.getD []) := by rw [← hD]; rfl
  have hM : nxM s = D.2.isSome := by rw [← hD]; rfl
  have HD : Hid (D = cuS false s 0) := by show _ = _; rw [← hD]; unfold cuS; simp
  have HE := Lib.hid hE
  have HR := Lib.hid hR
  have HM := Lib.hid hM
  clear hD hE hR hM
  generalize nxE s = E at *
  generalize nxR s = R at *
  generalize nxM s = M at *
  have CT := Lib.hid (fun (x : ByteArray) (hx : x.size ≤ 100000000) W => trim_any x W (show x.size ≤ maxLen by unfold maxLen; omega))
  go_enter Try.func25, Try.ntmps25
  go_wp2_with fail
  go_loopw [5, 10] (fun q i wr => ∃ (k : Nat) (b : Bool), k ≤ s.size ∧ q = .bool b ∧ i = .int .i64 k ∧ Hid (D = cuS b s k) ∧ Below w.heap.size w wr) (fun _ i _ => s.size - (intOf i).toNat)
  case atStart => exact ⟨0, false, Nat.zero_le _, rfl, rfl, HD.out, Below.refl _ _⟩
  case round =>
    clear HD
    obtain ⟨k, b, hk, rfl, rfl, hf, hbel⟩ := hrel
    by_cases hlt : k < s.size
    · have hx1 : (k : Int) + 1 ≤ (s.size : Int) := by omega
      have hx0 : (k : Int) ≤ (k : Int) + 1 := by omega
      have q34 := one_is s k hlt 34
      have q44 := one_is s k hlt 44
      by_cases hc : s[k] = 34
      · have e1 : ((s.extract k (k + 1)).toList == [34]) = true := by rw [q34, hc]; rfl
        have HN : Hid (D = cuS (!b) s (k + 1)) := hf.out.trans (cuS_quote hlt hc)
        clear hf hc q34 q44
        cases b
        all_goals
          go_wp2_with fail
          go_roundw
          case rel => exact ⟨k + 1, _, by omega, rfl, by go_num, HN, hbel⟩
          case measure => simp [intOf]; omega
      · have e1 : ((s.extract k (k + 1)).toList == [34]) = false := by rw [q34, beq_eq_false_iff_ne]; exact hc
        by_cases h4 : s[k] = 44
        · have e2 : ((s.extract k (k + 1)).toList == [44]) = true := by rw [q44, h4]; rfl
          cases b with
          | true =>
            have HN : Hid (D = cuS true s (k + 1)) := hf.out.trans (cuS_other hlt hc (.inr rfl))
            clear hf hc h4 q34 q44
            go_wp2_with fail
            go_roundw
            case rel => exact ⟨k + 1, _, by omega, rfl, by go_num, HN, hbel⟩
            case measure => simp [intOf]; omega
          | false =>
            have hd := hf.out.trans (cuS_comma hlt h4)
            have hz : (s.extract 0 k).size ≤ 100000000 := by simp; omega
            have ct := CT.out (s.extract 0 k) hz
            rw [ext_take] at ct
            have r1 := HE.out
            have r2 := HR.out
            have r3 := HM.out
            rw [hd] at r1 r2 r3
            have r4 := (ext_drop s (k + 1)).trans r2.symm
            rw [show mkS (trimL (List.take k s.data.toList)) = E from r1.symm] at ct
            have CX := Lib.hid ct
            have H3 := Lib.hid r3
            have H4 := Lib.hid r4
            have hi0 : (0 : Int) ≤ (k : Int) := by omega
            have hi1 : (k : Int) ≤ (s.size : Int) := by omega
            have hi2 : (0 : Int) ≤ (k : Int) + 1 := by omega
            have hx3 : IntKind.i64.wrap ((k : Int) + 1) = (k : Int) + 1 := IntWalk.i64_in _ (by omega)
            clear hf hc h4 q34 q44 ct r1 r2 r3 r4 hd HE HR HM CT hz
            go_wp2_with fail
            go_region_held3 (fun _ => True) (trivial) ((go_at_call 24; refine (CX.out _).mono ?_; rintro e w1 ⟨rfl, hb1⟩; have HB := Lib.hid (below_then hbel.drew hb1); clear hb1))
            go_wp2_with fail
            go_ret3
            exact ⟨by rw [H3.out, ← H4.out]; rfl, HB.out⟩
        · have e2 : ((s.extract k (k + 1)).toList == [44]) = false := by rw [q44, beq_eq_false_iff_ne]; exact h4
          have HN : Hid (D = cuS b s (k + 1)) := hf.out.trans (cuS_other hlt hc (.inl h4))
          clear hf hc h4 q34 q44
          go_wp2_with fail
          go_roundw
          case rel => exact ⟨k + 1, _, by omega, rfl, by go_num, HN, hbel⟩
          case measure => simp [intOf]; omega
    · have hd := hf.out.trans (cuS_end (by omega))
      have ct := CT.out s hs
      have r1 := HE.out
      have r2 := HR.out
      have r3 := HM.out
      rw [hd] at r1 r2 r3
      rw [show mkS (trimL s.data.toList) = E from r1.symm] at ct
      have CX := Lib.hid ct
      have H2 := Lib.hid r2
      have H3 := Lib.hid r3
      clear hf ct r1 r2 r3 hd HE HR HM CT
      go_wp2_with (go_at_call 24; refine (CX.out _).mono ?_; rintro e w1 ⟨rfl, hb1⟩; have HB := Lib.hid (below_then hbel hb1); clear hb1)
      go_ret3
      exact ⟨by rw [H2.out, H3.out]; rfl, HB.out⟩

end Go.Proofs.Ytdaoliobmgcmoaa
