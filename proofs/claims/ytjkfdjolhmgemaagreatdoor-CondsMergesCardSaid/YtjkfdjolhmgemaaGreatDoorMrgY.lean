/-
  Texts that the laws of this seat lean on, one behind the other.
-/
import Derived.Test.YtjkfdjolhmgemaaGreatDoorMrgF
import Derived.Test.YtjkfdjolhmgemaaGreatDoorMrgI
import Derived.Test.YtjkfdjolhmgemaaGreatDoorMrgJ
import Derived.Test.YtjkfdjolhmgemaaGreatDoorMrgX
import Derived.Deep.RegionHeld3
set_option linter.unusedSimpArgs false
set_option linter.unusedVariables false
/-
  Contracts of package fields' proper and Parse.
-/
section
namespace Go.Proofs.YtjkfdjolhmgemaaGreatDoor
open Go.RowKit
set_option linter.unusedSimpArgs false

/-! ### One operation of a region that draws, taken by hand: one that is wanted, one that is not -/
theorem take_yes {P : Program} {ops : Array Oper} {Q : Exit → Act → World → Prop} {md : Region.Mode} {S : World → Prop} {i d : Nat} {oi : Oper} {v : Value} {fuel : Nat} {listed : Array Bool} {a : Act} {w : World} (hi : ops[i]? = some oi) (hd : oi.dst = some d)
    (hs : Region.noSelect ops = true) (hf : Region.free md ops listed i = true) (hr : (Region.ready md ops listed).contains i = true)
    (hw : Region.wanted oi (yielded ops a.tmps) = true) (hQ : ∀ c a w, Q (.panic c) (a.put oi.dst v) w → Q (.panic c) a w) (hy : ∀ w, S w → (execOp a.eval oi).run P w = .ok (.value v) w) (hS : S w)
    (h : wpAnyH P md ops Q S fuel (listed.setIfInBounds i true) (a.put (some d) v) w) : wpAnyH P md ops Q S (fuel + 1) listed a w :=
  wpAnyH_take hi hs hf hr hQ (.inl ⟨hw, hy⟩) hS (by rw [hd]; exact h)
theorem take_not {P : Program} {ops : Array Oper} {Q : Exit → Act → World → Prop} {md : Region.Mode} {S : World → Prop} {i d : Nat} {oi : Oper} {fuel : Nat} {listed : Array Bool} {a : Act} {w : World} (hi : ops[i]? = some oi) (hd : oi.dst = some d)
    (hs : Region.noSelect ops = true) (hf : Region.free md ops listed i = true) (hr : (Region.ready md ops listed).contains i = true)
    (hw : Region.wanted oi (yielded ops a.tmps) = false) (hQ : ∀ c a w, Q (.panic c) (a.put oi.dst undef) w → Q (.panic c) a w) (hS : S w)
    (h : wpAnyH P md ops Q S fuel (listed.setIfInBounds i true) (a.put (some d) undef) w) : wpAnyH P md ops Q S (fuel + 1) listed a w :=
  wpAnyH_take hi hs hf hr hQ (.inr ⟨hw, rfl⟩) hS (by rw [hd]; exact h)

end Go.Proofs.YtjkfdjolhmgemaaGreatDoor
end

/-
  Contract of the reference's Parse (layer 9).
-/
section
namespace Go.Proofs.YtjkfdjolhmgemaaGreatDoor
open Go.RowKit

end Go.Proofs.YtjkfdjolhmgemaaGreatDoor
end

/-
  Contracts of the reference's inner, Weak, Strong, Text (layer 14).
-/
section
namespace Go.Proofs.YtjkfdjolhmgemaaGreatDoor
open Go.RowKit
set_option linter.unusedSimpArgs false

theorem r_inner (c : Int) (w : World) :
    Calls Tryz.prog 87 #[.int .u8 c] w fun e w' => e = .returned (.bool (innB c)) ∧ w = w' := by
  have both : ∀ t : Bool, t = true ∨ t = false := fun t => by cases t <;> simp
  rcases both (c == 33) with h1 | h1
  · have hr : innB c = true := by unfold innB; rw [h1]; rfl
    rw [hr]
    clear hr
    go_enter Tryz.func87, Tryz.ntmps87
    go_wp2_with fail
    go_ret
    exact ⟨rfl, rfl⟩
  · by_cases h2 : (35 : Int) ≤ c
    · rcases both (c == 127) with h3 | h3
      · have hr : innB c = false := by unfold innB; rw [h1, h3]; simp
        have h4 : (c != 127) = false := by rw [bne, h3]; rfl
        rw [hr]
        clear hr
        go_enter Tryz.func87, Tryz.ntmps87
        go_wp2_with fail
        go_ret
        exact ⟨rfl, rfl⟩
      · have hr : innB c = true := by unfold innB; rw [h1, h3]; simp [h2]
        have h4 : (c != 127) = true := by rw [bne, h3]; rfl
        rw [hr]
        clear hr
        go_enter Tryz.func87, Tryz.ntmps87
        go_wp2_with fail
        go_ret
        exact ⟨rfl, rfl⟩
    · have hr : innB c = false := by unfold innB; rw [h1, decide_eq_false h2]; rfl
      rw [hr]
      clear hr
      go_enter Tryz.func87, Tryz.ntmps87
      go_wp2_with fail
      go_ret
      exact ⟨rfl, rfl⟩

theorem r_etWeak (a b : Tg) (w : World) :
    Calls Tryz.prog 51 #[tgV a, tgV b] w fun e w' => e = .returned (.bool (wekB a b)) ∧ Below w.heap.size w w' := by
  obtain ⟨a1, a2⟩ := a
  obtain ⟨b1, b2⟩ := b
  have hr : wekB (a1, a2) (b1, b2) = (a2.toList == b2.toList) := rfl
  rw [hr]
  unfold tgV
  have hb : Below w.heap.size w ((w.alloc (.cells #[.bool a1, .string a2] 49)).alloc (.cells #[.bool b1, .string b2] 49)) := ((Below.refl _ _).alloc (Nat.le_refl _) _).alloc (by simp) _
  have hA : ((w.alloc (.cells #[.bool a1, .string a2] 49)).alloc (.cells #[.bool b1, .string b2] 49)).heap[w.heap.size]? = some (.cells #[.bool a1, .string a2] 49 (0, 0)) := zero_more (heap_alloc_new w _)
  have hB : ((w.alloc (.cells #[.bool a1, .string a2] 49)).alloc (.cells #[.bool b1, .string b2] 49)).heap[w.heap.size + 1]? = some (.cells #[.bool b1, .string b2] 49 (0, 0)) := by
    have := heap_alloc_new (w.alloc (.cells #[.bool a1, .string a2] 49)) (.cells #[.bool b1, .string b2] 49)
    rwa [show (w.alloc (.cells #[.bool a1, .string a2] 49)).heap.size = w.heap.size + 1 by simp] at this
  have hA := (zero_two hA).2
  have hB := (zero_two hB).2
  have HB := Lib.hid hb
  clear hb hr
  go_enter Tryz.func51, Tryz.ntmps51
  go_wp2_with fail
  go_ret
  exact ⟨rfl, HB.out⟩

theorem r_etText (a : Tg) (h : a.2.size ≤ 1000000000) (w : World) :
    Calls Tryz.prog 44 #[tgV a] w fun e w' => e = .returned (.string (tgS a)) ∧ Below w.heap.size w w' := by
  obtain ⟨a1, a2⟩ := a
  unfold tgV
  have hb : Below w.heap.size w (w.alloc (.cells #[.bool a1, .string a2] 49)) := (Below.refl _ _).alloc (Nat.le_refl _) _
  have hA : (w.alloc (.cells #[.bool a1, .string a2] 49)).heap[w.heap.size]? = some (.cells #[.bool a1, .string a2] 49 (0, 0)) := heap_alloc_new w _
  obtain ⟨hA0, hA1⟩ := zero_two hA
  have hs : a2.size ≤ 1000000000 := h
  have HB := Lib.hid hb
  clear hb hA h
  cases a1
  · have hr : tgS (false, a2) = (⟨#[34]⟩ : ByteArray) ++ a2 ++ (⟨#[34]⟩ : ByteArray) := rfl
    rw [hr]
    clear hr
    go_enter Tryz.func44, Tryz.ntmps44
    go_wp2_with fail
    go_ret
    exact ⟨rfl, HB.out⟩
  · have hr : tgS (true, a2) = (⟨#[87, 47, 34]⟩ : ByteArray) ++ a2 ++ (⟨#[34]⟩ : ByteArray) := rfl
    rw [hr]
    clear hr
    go_enter Tryz.func44, Tryz.ntmps44
    go_wp2_with fail
    go_ret
    exact ⟨rfl, HB.out⟩

end Go.Proofs.YtjkfdjolhmgemaaGreatDoor
end

/-
  Contract of the reference's Parse (layer 14).
-/
section
namespace Go.Proofs.YtjkfdjolhmgemaaGreatDoor
open Go.RowKit
set_option linter.unusedSimpArgs false

theorem tg_no {s : ByteArray} (h : tgB s = false) : tgB s = false ∧ tgO s = (false, ⟨#[]⟩) := ⟨h, by unfold tgO; rw [h]; rfl⟩
theorem frm_at (r : ByteArray) (m : Nat) (h2 : 2 ≤ r.size) (hm : r.size = m + 1) : frmB r = ((r[0]'(by omega)).toNat == 34 && (r[m]'(by omega)).toNat == 34) := by
  unfold frmB
  rw [dif_pos h2]
  have e : r.size - 1 = m := by omega
  congr 3
  · simp only [e]
theorem nat34 {b : UInt8} (h : ((b.toNat : Int) == 34) = true) : (b.toNat == 34) = true := by
  rw [beq_iff_eq] at h ⊢; omega
theorem nat34f {b : UInt8} (h : ((b.toNat : Int) == 34) = false) : (b.toNat == 34) = false := by
  rw [beq_eq_false_iff_ne] at h ⊢; omega
theorem tg_yes {s r : ByteArray} {m : Nat} (ho : offW s = r) (hm : r.size = m + 1) (hf : frmB r = true) : tgB s = allB innB (r.extract 1 m).data.toList ∧ (tgB s = true → tgO s = (wkB s, r.extract 1 m)) := by
  have e : midL r = r.extract 1 m := by unfold midL; rw [hm, Nat.add_sub_cancel]
  refine ⟨by unfold tgB; rw [ho, hf, e]; rfl, fun h => ?_⟩
  unfold tgO
  rw [h, if_pos rfl, ho, e]

set_option maxHeartbeats 16000000 in
set_option maxRecDepth 100000 in
theorem r_etParse (s : ByteArray) (w : World) (hs : s.size ≤ 1000000000) :
    Calls Tryz.prog 64 #[.string s] w fun e w' => e = .returned (.tuple #[tgV (tgO s), .bool (tgB s)]) ∧ Below w.heap.size w w' := by
  have both : ∀ t : Bool, t = true ∨ t = false := fun t => by cases t <;> simp
  unfold tgV
  by_cases h2s : 2 ≤ s.size
  · have h2si : (2 : Int) ≤ (s.size : Int) := by omega
    have h0i : (0 : Int) ≤ 2 := by omega
    rcases both ((s.extract 0 2).toList == [87, 47]) with hx | hx
    · have hwk : wkB s = true := by unfold wkB; rw [hx, decide_eq_true h2s]; rfl
      obtain ⟨r, hr⟩ : ∃ r, s.extract 2 s.size = r := ⟨_, rfl⟩
      have hoff : offW s = r := by unfold offW; rw [hwk, if_pos rfl, hr]
      have hrs : r.size ≤ 1000000000 := by rw [← hr]; simp; omega
      by_cases h2 : 2 ≤ r.size
      · have h2i : ¬ (r.size : Int) < 2 := by omega
        obtain ⟨m, hm⟩ : ∃ m, r.size = m + 1 := ⟨r.size - 1, by omega⟩
        have hmi : (r.size : Int) - 1 = (m : Int) := by omega
        have hw : IntKind.i64.wrap ((r.size : Int) - 1) = (m : Int) := by rw [IntKind.wrap_i64]; omega
        have hm0 : (0 : Int) ≤ (m : Int) := by omega
        have hm1 : (m : Int) < (r.size : Int) := by omega
        have hm2 : (1 : Int) ≤ (m : Int) := by omega
        have hm3 : (m : Int) ≤ (r.size : Int) := by omega
        have h0s : (0 : Int) < (r.size : Int) := by omega
        have hq0 : 0 < r.size := by omega
        have hq1 : m < r.size := by omega
        have hfr : frmB r = ((r[0]'hq0).toNat == 34 && (r[m]'hq1).toNat == 34) := frm_at r m h2 hm
        rcases both (((r[0]'hq0).toNat : Int) == 34) with e0 | e0
        · have e0n : (((r[0]'hq0).toNat : Int) != 34) = false := by rw [bne, e0]; rfl
          rcases both (((r[m]'hq1).toNat : Int) == 34) with e1 | e1
          · have e1n : (((r[m]'hq1).toNat : Int) != 34) = false := by rw [bne, e1]; rfl
            have hfy : frmB r = true := by rw [hfr, nat34 e0, nat34 e1]; rfl
            obtain ⟨M, hM⟩ : ∃ M, r.extract 1 m = M := ⟨_, rfl⟩
            have hyn := tg_yes (s := s) (r := r) (m := m) hoff hm hfy
            rw [hM, hwk] at hyn
            have HY := Lib.hid hyn
            have hMs : M.size ≤ 1000000000 := by rw [← hM]; simp; omega
            have HZ2 : Hid (((w.alloc (.cells #[.bool false, .string ⟨#[]⟩] 49)).alloc (.cells #[.bool true, .string M] 49)).heap[w.heap.size]? = some (.cells #[.bool false, .string ⟨#[]⟩] 49 (0, 0))) := zero_more (heap_alloc_new w _)
            have HB2 : Hid (Below w.heap.size w ((w.alloc (.cells #[.bool false, .string ⟨#[]⟩] 49)).alloc (.cells #[.bool true, .string M] 49))) := ((Below.refl _ _).alloc (Nat.le_refl _) _).alloc (by simp) _
            have HZ3 : Hid (((w.alloc (.cells #[.bool true, .string M] 49)).alloc (.cells #[.bool true, .string M] 49)).heap[w.heap.size]? = some (.cells #[.bool true, .string M] 49 (0, 0))) := zero_more (heap_alloc_new w _)
            have HB3 : Hid (Below w.heap.size w ((w.alloc (.cells #[.bool true, .string M] 49)).alloc (.cells #[.bool true, .string M] 49))) := ((Below.refl _ _).alloc (Nat.le_refl _) _).alloc (by simp) _
            clear hyn hfr hfy hwk hoff hm
            go_enter Tryz.func64, Tryz.ntmps64
            go_wp2_with fail
            clear e0 e1 e0n e1n
            go_loop [5] (fun i => ∃ k : Nat, k ≤ M.size ∧ i = .int .i64 k ∧ Hid (allB innB (M.data.toList.take k) = true)) (fun i => M.size - (intOf i).toNat)
            case atStart => exact ⟨0, Nat.zero_le _, rfl, rfl⟩
            case round =>
              obtain ⟨k, hk, rfl, hf⟩ := hrel
              by_cases hlt : k < M.size
              · rcases both (innB (M[k].toNat : Int)) with hin | hin
                · have HA : Hid (allB innB (M.data.toList.take (k + 1)) = true) := by show _ = _; rw [allB_take innB M k hlt, hf.out, hin]; rfl
                  have HI := Lib.hid hin
                  clear hin hf
                  go_wp2_with (go_at_call 87; refine (r_inner _ _).mono ?_; rintro e w1 ⟨he, rfl⟩; rw [HI.out] at he; subst he)
                  go_round
                  case rel => exact ⟨k + 1, by omega, by go_num, HA⟩
                  case measure => simp [intOf]; omega
                · have HA : Hid (allB innB M.data.toList = false) := allB_false innB M k hlt hin
                  have HI := Lib.hid hin
                  have HN := Lib.hid (tg_no (HY.out.1.trans HA.out))
                  clear hin hf
                  go_wp2_with (go_at_call 87; refine (r_inner _ _).mono ?_; rintro e w1 ⟨he, rfl⟩; rw [HI.out] at he; subst he)
                  refine bodyPost_ret (results_cell_row_tmp rfl _ _ w.heap.size 49 #[.bool false, .string ⟨#[]⟩] (0, 0) _ rfl HZ2.out Tryz.underlying49 rfl (by kernel_rfl)) rfl ?_
                  exact ⟨by rw [HN.out.1, HN.out.2]; rfl, HB2.out⟩
              · have HA : Hid (allB innB M.data.toList = true) := allB_full innB M k (by omega) hf.out
                have HN := Lib.hid (HY.out.1.trans HA.out)
                clear hf
                go_wp2_with fail
                refine bodyPost_ret (results_cell_row_tmp rfl _ _ w.heap.size 49 #[.bool true, .string M] (0, 0) _ rfl HZ3.out Tryz.underlying49 rfl (by kernel_rfl)) rfl ?_
                exact ⟨by rw [HN.out, HY.out.2 HN.out]; rfl, HB3.out⟩
          · have e1n : (((r[m]'hq1).toNat : Int) != 34) = true := by rw [bne, e1]; rfl
            have hno : tgB s = false := by unfold tgB; rw [hoff, hfr, nat34f e1, Bool.and_false]; rfl
            clear hfr hm
            have HZ : Hid (((w.alloc (.cells #[.bool false, .string ⟨#[]⟩] 49)).alloc (.cells #[.bool true, .string ⟨#[]⟩] 49)).heap[w.heap.size]? = some (.cells #[.bool false, .string ⟨#[]⟩] 49 (0, 0))) := zero_more (heap_alloc_new w _)
            have HB : Hid (Below w.heap.size w ((w.alloc (.cells #[.bool false, .string ⟨#[]⟩] 49)).alloc (.cells #[.bool true, .string ⟨#[]⟩] 49))) := ((Below.refl _ _).alloc (Nat.le_refl _) _).alloc (by simp) _
            have HA := Lib.hid (tg_no hno)
            clear hno
            go_enter Tryz.func64, Tryz.ntmps64
            go_wp2_with fail
            refine bodyPost_ret (results_cell_row_tmp rfl _ _ w.heap.size 49 #[.bool false, .string ⟨#[]⟩] (0, 0) _ rfl HZ.out Tryz.underlying49 rfl (by kernel_rfl)) rfl ?_
            exact ⟨by rw [HA.out.1, HA.out.2]; rfl, HB.out⟩
        · have e0n : (((r[0]'hq0).toNat : Int) != 34) = true := by rw [bne, e0]; rfl
          have hno : tgB s = false := by unfold tgB; rw [hoff, hfr, nat34f e0]; rfl
          clear hfr hm
          have HZ : Hid (((w.alloc (.cells #[.bool false, .string ⟨#[]⟩] 49)).alloc (.cells #[.bool true, .string ⟨#[]⟩] 49)).heap[w.heap.size]? = some (.cells #[.bool false, .string ⟨#[]⟩] 49 (0, 0))) := zero_more (heap_alloc_new w _)
          have HB : Hid (Below w.heap.size w ((w.alloc (.cells #[.bool false, .string ⟨#[]⟩] 49)).alloc (.cells #[.bool true, .string ⟨#[]⟩] 49))) := ((Below.refl _ _).alloc (Nat.le_refl _) _).alloc (by simp) _
          have HA := Lib.hid (tg_no hno)
          clear hno
          go_enter Tryz.func64, Tryz.ntmps64
          go_wp2_with fail
          refine bodyPost_ret (results_cell_row_tmp rfl _ _ w.heap.size 49 #[.bool false, .string ⟨#[]⟩] (0, 0) _ rfl HZ.out Tryz.underlying49 rfl (by kernel_rfl)) rfl ?_
          exact ⟨by rw [HA.out.1, HA.out.2]; rfl, HB.out⟩
      · have h2i : (r.size : Int) < 2 := by omega
        have hno : tgB s = false := by unfold tgB; rw [hoff]; unfold frmB; rw [dif_neg h2]; rfl
        have HZ : Hid (((w.alloc (.cells #[.bool false, .string ⟨#[]⟩] 49)).alloc (.cells #[.bool true, .string ⟨#[]⟩] 49)).heap[w.heap.size]? = some (.cells #[.bool false, .string ⟨#[]⟩] 49 (0, 0))) := zero_more (heap_alloc_new w _)
        have HB : Hid (Below w.heap.size w ((w.alloc (.cells #[.bool false, .string ⟨#[]⟩] 49)).alloc (.cells #[.bool true, .string ⟨#[]⟩] 49))) := ((Below.refl _ _).alloc (Nat.le_refl _) _).alloc (by simp) _
        have HA := Lib.hid (tg_no hno)
        clear hno
        go_enter Tryz.func64, Tryz.ntmps64
        go_wp2_with fail
        refine bodyPost_ret (results_cell_row_tmp rfl _ _ w.heap.size 49 #[.bool false, .string ⟨#[]⟩] (0, 0) _ rfl HZ.out Tryz.underlying49 rfl (by kernel_rfl)) rfl ?_
        exact ⟨by rw [HA.out.1, HA.out.2]; rfl, HB.out⟩
    · have hwk : wkB s = false := by unfold wkB; rw [hx]; simp
      have hoff : offW s = s := by unfold offW; rw [hwk]; rfl
      by_cases h2 : 2 ≤ s.size
      · have h2i : ¬ (s.size : Int) < 2 := by omega
        obtain ⟨m, hm⟩ : ∃ m, s.size = m + 1 := ⟨s.size - 1, by omega⟩
        have hmi : (s.size : Int) - 1 = (m : Int) := by omega
        have hw : IntKind.i64.wrap ((s.size : Int) - 1) = (m : Int) := by rw [IntKind.wrap_i64]; omega
        have hm0 : (0 : Int) ≤ (m : Int) := by omega
        have hm1 : (m : Int) < (s.size : Int) := by omega
        have hm2 : (1 : Int) ≤ (m : Int) := by omega
        have hm3 : (m : Int) ≤ (s.size : Int) := by omega
        have h0s : (0 : Int) < (s.size : Int) := by omega
        have hq0 : 0 < s.size := by omega
        have hq1 : m < s.size := by omega
        have hfr : frmB s = ((s[0]'hq0).toNat == 34 && (s[m]'hq1).toNat == 34) := frm_at s m h2 hm
        rcases both (((s[0]'hq0).toNat : Int) == 34) with e0 | e0
        · have e0n : (((s[0]'hq0).toNat : Int) != 34) = false := by rw [bne, e0]; rfl
          rcases both (((s[m]'hq1).toNat : Int) == 34) with e1 | e1
          · have e1n : (((s[m]'hq1).toNat : Int) != 34) = false := by rw [bne, e1]; rfl
            have hfy : frmB s = true := by rw [hfr, nat34 e0, nat34 e1]; rfl
            obtain ⟨M, hM⟩ : ∃ M, s.extract 1 m = M := ⟨_, rfl⟩
            have hyn := tg_yes (s := s) (r := s) (m := m) hoff hm hfy
            rw [hM, hwk] at hyn
            have HY := Lib.hid hyn
            have hMs : M.size ≤ 1000000000 := by rw [← hM]; simp; omega
            have HZ2 : Hid (((w.alloc (.cells #[.bool false, .string ⟨#[]⟩] 49)).alloc (.cells #[.bool false, .string M] 49)).heap[w.heap.size]? = some (.cells #[.bool false, .string ⟨#[]⟩] 49 (0, 0))) := zero_more (heap_alloc_new w _)
            have HB2 : Hid (Below w.heap.size w ((w.alloc (.cells #[.bool false, .string ⟨#[]⟩] 49)).alloc (.cells #[.bool false, .string M] 49))) := ((Below.refl _ _).alloc (Nat.le_refl _) _).alloc (by simp) _
            have HZ3 : Hid (((w.alloc (.cells #[.bool false, .string M] 49)).alloc (.cells #[.bool false, .string M] 49)).heap[w.heap.size]? = some (.cells #[.bool false, .string M] 49 (0, 0))) := zero_more (heap_alloc_new w _)
            have HB3 : Hid (Below w.heap.size w ((w.alloc (.cells #[.bool false, .string M] 49)).alloc (.cells #[.bool false, .string M] 49))) := ((Below.refl _ _).alloc (Nat.le_refl _) _).alloc (by simp) _
            clear hyn hfr hfy hwk hoff hm
            go_enter Tryz.func64, Tryz.ntmps64
            go_wp2_with fail
            clear e0 e1 e0n e1n
            go_loop [5] (fun i => ∃ k : Nat, k ≤ M.size ∧ i = .int .i64 k ∧ Hid (allB innB (M.data.toList.take k) = true)) (fun i => M.size - (intOf i).toNat)
            case atStart => exact ⟨0, Nat.zero_le _, rfl, rfl⟩
            case round =>
              obtain ⟨k, hk, rfl, hf⟩ := hrel
              by_cases hlt : k < M.size
              · rcases both (innB (M[k].toNat : Int)) with hin | hin
                · have HA : Hid (allB innB (M.data.toList.take (k + 1)) = true) := by show _ = _; rw [allB_take innB M k hlt, hf.out, hin]; rfl
                  have HI := Lib.hid hin
                  clear hin hf
                  go_wp2_with (go_at_call 87; refine (r_inner _ _).mono ?_; rintro e w1 ⟨he, rfl⟩; rw [HI.out] at he; subst he)
                  go_round
                  case rel => exact ⟨k + 1, by omega, by go_num, HA⟩
                  case measure => simp [intOf]; omega
                · have HA : Hid (allB innB M.data.toList = false) := allB_false innB M k hlt hin
                  have HI := Lib.hid hin
                  have HN := Lib.hid (tg_no (HY.out.1.trans HA.out))
                  clear hin hf
                  go_wp2_with (go_at_call 87; refine (r_inner _ _).mono ?_; rintro e w1 ⟨he, rfl⟩; rw [HI.out] at he; subst he)
                  refine bodyPost_ret (results_cell_row_tmp rfl _ _ w.heap.size 49 #[.bool false, .string ⟨#[]⟩] (0, 0) _ rfl HZ2.out Tryz.underlying49 rfl (by kernel_rfl)) rfl ?_
                  exact ⟨by rw [HN.out.1, HN.out.2]; rfl, HB2.out⟩
              · have HA : Hid (allB innB M.data.toList = true) := allB_full innB M k (by omega) hf.out
                have HN := Lib.hid (HY.out.1.trans HA.out)
                clear hf
                go_wp2_with fail
                refine bodyPost_ret (results_cell_row_tmp rfl _ _ w.heap.size 49 #[.bool false, .string M] (0, 0) _ rfl HZ3.out Tryz.underlying49 rfl (by kernel_rfl)) rfl ?_
                exact ⟨by rw [HN.out, HY.out.2 HN.out]; rfl, HB3.out⟩
          · have e1n : (((s[m]'hq1).toNat : Int) != 34) = true := by rw [bne, e1]; rfl
            have hno : tgB s = false := by unfold tgB; rw [hoff, hfr, nat34f e1, Bool.and_false]; rfl
            clear hfr hm
            have HZ : Hid (((w.alloc (.cells #[.bool false, .string ⟨#[]⟩] 49)).alloc (.cells #[.bool false, .string ⟨#[]⟩] 49)).heap[w.heap.size]? = some (.cells #[.bool false, .string ⟨#[]⟩] 49 (0, 0))) := zero_more (heap_alloc_new w _)
            have HB : Hid (Below w.heap.size w ((w.alloc (.cells #[.bool false, .string ⟨#[]⟩] 49)).alloc (.cells #[.bool false, .string ⟨#[]⟩] 49))) := ((Below.refl _ _).alloc (Nat.le_refl _) _).alloc (by simp) _
            have HA := Lib.hid (tg_no hno)
            clear hno
            go_enter Tryz.func64, Tryz.ntmps64
            go_wp2_with fail
            refine bodyPost_ret (results_cell_row_tmp rfl _ _ w.heap.size 49 #[.bool false, .string ⟨#[]⟩] (0, 0) _ rfl HZ.out Tryz.underlying49 rfl (by kernel_rfl)) rfl ?_
            exact ⟨by rw [HA.out.1, HA.out.2]; rfl, HB.out⟩
        · have e0n : (((s[0]'hq0).toNat : Int) != 34) = true := by rw [bne, e0]; rfl
          have hno : tgB s = false := by unfold tgB; rw [hoff, hfr, nat34f e0]; rfl
          clear hfr hm
          have HZ : Hid (((w.alloc (.cells #[.bool false, .string ⟨#[]⟩] 49)).alloc (.cells #[.bool false, .string ⟨#[]⟩] 49)).heap[w.heap.size]? = some (.cells #[.bool false, .string ⟨#[]⟩] 49 (0, 0))) := zero_more (heap_alloc_new w _)
          have HB : Hid (Below w.heap.size w ((w.alloc (.cells #[.bool false, .string ⟨#[]⟩] 49)).alloc (.cells #[.bool false, .string ⟨#[]⟩] 49))) := ((Below.refl _ _).alloc (Nat.le_refl _) _).alloc (by simp) _
          have HA := Lib.hid (tg_no hno)
          clear hno
          go_enter Tryz.func64, Tryz.ntmps64
          go_wp2_with fail
          refine bodyPost_ret (results_cell_row_tmp rfl _ _ w.heap.size 49 #[.bool false, .string ⟨#[]⟩] (0, 0) _ rfl HZ.out Tryz.underlying49 rfl (by kernel_rfl)) rfl ?_
          exact ⟨by rw [HA.out.1, HA.out.2]; rfl, HB.out⟩
      · exact absurd h2s h2
  · have h2si : (s.size : Int) < 2 := by omega
    have hwk : wkB s = false := by unfold wkB; rw [decide_eq_false h2s]; rfl
    have hoff : offW s = s := by unfold offW; rw [hwk]; rfl
    have hno : tgB s = false := by unfold tgB; rw [hoff]; unfold frmB; rw [dif_neg h2s]; rfl
    have HZ : Hid (((w.alloc (.cells #[.bool false, .string ⟨#[]⟩] 49)).alloc (.cells #[.bool false, .string ⟨#[]⟩] 49)).heap[w.heap.size]? = some (.cells #[.bool false, .string ⟨#[]⟩] 49 (0, 0))) := zero_more (heap_alloc_new w _)
    have HB : Hid (Below w.heap.size w ((w.alloc (.cells #[.bool false, .string ⟨#[]⟩] 49)).alloc (.cells #[.bool false, .string ⟨#[]⟩] 49))) := ((Below.refl _ _).alloc (Nat.le_refl _) _).alloc (by simp) _
    have HA := Lib.hid (tg_no hno)
    clear hno
    go_enter Tryz.func64, Tryz.ntmps64
    go_wp2_with fail
    refine bodyPost_ret (results_cell_row_tmp rfl _ _ w.heap.size 49 #[.bool false, .string ⟨#[]⟩] (0, 0) _ rfl HZ.out Tryz.underlying49 rfl (by kernel_rfl)) rfl ?_
    exact ⟨by rw [HA.out.1, HA.out.2]; rfl, HB.out⟩

end Go.Proofs.YtjkfdjolhmgemaaGreatDoor
end
