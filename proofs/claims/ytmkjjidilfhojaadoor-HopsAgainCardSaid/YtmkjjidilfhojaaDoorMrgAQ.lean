/-
  Texts that the laws of this seat lean on, one behind the other.
-/
import Derived.Test.YtmkjjidilfhojaaDoorMrgAP
import Derived.Deep.QuietTactic
import Derived.BigQuiet
/-
  Contracts of the reference's Drop, Same, Equal, Check (layer 9).
-/
section
namespace Go.Proofs.YtmkjjidilfhojaaDoor
open Go.RowKit
set_option linter.unusedSimpArgs false

set_option maxHeartbeats 8000000 in
set_option maxRecDepth 100000 in
theorem rf_drop (A B : Option Addr) (n c m d : Nat) (L : List Fd) (names : List (List UInt8)) (w : World) (h : SlF w A n c L) (hn : n ≤ 100000000) (h' : SlS w B m d names) (hz : ∀ x ∈ names, x.length ≤ maxLen) (hm : m ≤ 1000000000) :
    Calls Tryd.prog 19 #[.slice A n c, .slice B m d] w fun e w' => ∃ v, e = .returned v ∧ OwnF w' w.heap.size 33 v (fdDrop L names) ∧ Below w.heap.size w w' := by
  have hlen := h.len
  have hlem := h'.len
  subst hlen hlem
  have hD : fdDrop L names = L.filter fun x => !nmd names x := rfl
  rw [hD]
  go_enter Tryd.func19, Tryd.ntmps19
  go_wp2_with fail
  go_loopw [5, 6] (fun v i wr => ∃ k : Nat, k ≤ L.length ∧ i = .int .i64 k ∧ Hid (OwnF wr w.heap.size 33 v ((L.take k).filter fun x => !nmd names x)) ∧ Below w.heap.size w wr) (fun _ i _ => L.length - (intOf i).toNat)
  case atStart => exact ⟨0, Nat.zero_le _, rfl, OwnF.nil _ _ _, Below.refl _ _⟩
  case round =>
    obtain ⟨k, hk, rfl, hown, hbel⟩ := hrel
    by_cases hlt : k < L.length
    · obtain ⟨ad, rfl, hc⟩ := h.at_ (by omega)
      obtain ⟨hc0, hc1⟩ := hc k L[k] (List.getElem?_eq_getElem hlt)
      have hz1 := h.sz _ (List.getElem_mem hlt)
      have hxl : ((L.take k).filter fun x => !nmd names x).length ≤ k := Nat.le_trans (List.length_filter_le _ _) (by rw [List.length_take]; omega)
      have HF := Lib.hid (filter_snoc (fun x => !nmd names x) (L.take k) L[k])
      rw [← take_fd L k hlt] at HF
      generalize L[k] = x at *
      obtain ⟨xa, xb⟩ := x
      generalize hX : ((L.take k).filter fun x => !nmd names x) = X at *
      have hi0 : (0 : Int) ≤ (k : Int) := by omega
      have hi1 : (k : Int) < (L.length : Int) := by omega
      have HC0 := Lib.hid (cell_kept hbel hc0)
      have HC1 := Lib.hid (fd_snd (cell_kept hbel hc1))
      have hsw := hbel.size
      clear hc hc0 hc1 hX
      go_wp2_with fail
      go_loopw [7, 8] (fun g i wi => ∃ (m : Nat) (q : Bool), m ≤ names.length ∧ i = .int .i64 m ∧ g = .bool q ∧ Hid (q = (names.take m).any fun y => sameB xa (mkS y)) ∧ Below wr.heap.size wr wi) (fun _ i _ => names.length - (intOf i).toNat)
      case atStart => exact ⟨0, false, Nat.zero_le _, rfl, rfl, rfl, Below.refl _ _⟩
      case round =>
        obtain ⟨j, q, hj, rfl, rfl, hq, hin⟩ := hrel
        by_cases hjl : j < names.length
        · obtain ⟨bd, rfl, hd⟩ := h'.at_ (by omega)
          have HD0 := Lib.hid (cell_kept (hbel.trans (hin.mono hsw)) (hd j names[j] (List.getElem?_eq_getElem hjl)))
          have HE0 := Lib.hid (cell_kept hin HC0.out)
          have hys : (mkS names[j]).size ≤ maxLen := by rw [mkS_size]; exact hz _ (List.getElem_mem hjl)
          have HT : Hid ((names.take (j + 1)).any (fun y => sameB xa (mkS y)) = (q || sameB xa (mkS names[j]))) := by
            show _ = _
            rw [List.take_succ_eq_append_getElem hjl, List.any_append, ← hq.out]; simp
          obtain ⟨y, hy⟩ : ∃ y, y = mkS names[j] := ⟨_, rfl⟩
          rw [← hy] at HD0 HT hys
          have cs := fun W => r_same xa y W hz1.1 hys
          generalize sameB xa y = s at *
          have CS := Lib.hid cs
          have hj0 : (0 : Int) ≤ (j : Int) := by omega
          have hj1 : (j : Int) < (names.length : Int) := by omega
          have HD0 : Hid (wr.drew.cell? (bd.add j) = some (.string y)) := HD0.out
          have HE0 : Hid (wr.drew.cell? (ad.add (k * 2)) = some (.string xa)) := HE0.out
          have hin := hin.drew
          clear hy hd hq cs
          cases q with
          | false =>
            go_wp2_with fail
            go_region_held3 (fun W => W.cell? (ad.add (k * 2)) = some (.string xa) ∧ W.cell? (bd.add j) = some (.string y)) (exact ⟨HE0.out, HD0.out⟩) (first
              | (go_at_call 24; refine (CS.out _).mono ?_; rintro e w1 ⟨rfl, hb1⟩; have HE0 := Lib.hid (cell_kept hb1 HE0.out); have HD0 := Lib.hid (cell_kept hb1 HD0.out); have hin := hin.trans (hb1.mono hin.size); clear hb1))
            go_wp2_with fail
            go_roundw
            case rel => exact ⟨j + 1, s, by omega, by go_num, rfl, HT.out.symm, hin⟩
            case measure => simp [intOf]; omega
          | true =>
            go_wp2_with fail
            refine wp_region_held_drew (S := fun _ => True) (by kernel_rfl) trivial (fun hHeld => ?_)
            refine take_yes (i := 0) (v := ?_) rfl rfl (by kernel_rfl) (by kernel_rfl) (by kernel_rfl) (by rfl) (fun _ _ _ h => h) ?y14 (by assumption) ?r14
            case y14 => (intro w hSw; (try dsimp only at hSw); go_simp; try with_reducible rfl)
            try simp only [Act.put, List.setIfInBounds_toArray, List.set_cons_zero, List.set_cons_succ]
            refine take_yes (i := 1) (v := ?_) rfl rfl (by kernel_rfl) (by kernel_rfl) (by kernel_rfl) (by rfl) (fun _ _ _ h => h) ?y15 (by assumption) ?r15
            case y15 => (intro w hSw; (try dsimp only at hSw); go_simp; try with_reducible rfl)
            try simp only [Act.put, List.setIfInBounds_toArray, List.set_cons_zero, List.set_cons_succ]
            refine take_not (i := 2) rfl rfl (by kernel_rfl) (by kernel_rfl) (by kernel_rfl) (by rfl) (fun _ _ _ h => h) (by assumption) ?_
            try simp only [Act.put, List.setIfInBounds_toArray, List.set_cons_zero, List.set_cons_succ]
            refine take_not (i := 3) rfl rfl (by kernel_rfl) (by kernel_rfl) (by kernel_rfl) (by rfl) (fun _ _ _ h => h) (by assumption) ?_
            try simp only [Act.put, List.setIfInBounds_toArray, List.set_cons_zero, List.set_cons_succ]
            refine take_not (i := 4) rfl rfl (by kernel_rfl) (by kernel_rfl) (by kernel_rfl) (by rfl) (fun _ _ _ h => h) (by assumption) ?_
            try simp only [Act.put, List.setIfInBounds_toArray, List.set_cons_zero, List.set_cons_succ]
            refine take_not (i := 5) rfl rfl (by kernel_rfl) (by kernel_rfl) (by kernel_rfl) (by rfl) (fun _ _ _ h => h) (by assumption) ?_
            try simp only [Act.put, List.setIfInBounds_toArray, List.set_cons_zero, List.set_cons_succ]
            refine take_not (i := 6) rfl rfl (by kernel_rfl) (by kernel_rfl) (by kernel_rfl) (by rfl) (fun _ _ _ h => h) (by assumption) ?_
            try simp only [Act.put, List.setIfInBounds_toArray, List.set_cons_zero, List.set_cons_succ]
            refine take_not (i := 7) rfl rfl (by kernel_rfl) (by kernel_rfl) (by kernel_rfl) (by rfl) (fun _ _ _ h => h) (by assumption) ?_
            try simp only [Act.put, List.setIfInBounds_toArray, List.set_cons_zero, List.set_cons_succ]
            refine take_not (i := 8) rfl rfl (by kernel_rfl) (by kernel_rfl) (by kernel_rfl) (by rfl) (fun _ _ _ h => h) (by assumption) ?_
            try simp only [Act.put, List.setIfInBounds_toArray, List.set_cons_zero, List.set_cons_succ]
            refine take_not (i := 9) rfl rfl (by kernel_rfl) (by kernel_rfl) (by kernel_rfl) (by rfl) (fun _ _ _ h => h) (by assumption) ?_
            try simp only [Act.put, List.setIfInBounds_toArray, List.set_cons_zero, List.set_cons_succ]
            refine take_not (i := 10) rfl rfl (by kernel_rfl) (by kernel_rfl) (by kernel_rfl) (by rfl) (fun _ _ _ h => h) (by assumption) ?_
            try simp only [Act.put, List.setIfInBounds_toArray, List.set_cons_zero, List.set_cons_succ]
            refine take_not (i := 11) rfl rfl (by kernel_rfl) (by kernel_rfl) (by kernel_rfl) (by rfl) (fun _ _ _ h => h) (by assumption) ?_
            try simp only [Act.put, List.setIfInBounds_toArray, List.set_cons_zero, List.set_cons_succ]
            refine take_yes (i := 12) (v := ?_) rfl rfl (by kernel_rfl) (by kernel_rfl) (by kernel_rfl) (by rfl) (fun _ _ _ h => h) ?y16 (by assumption) ?r16
            case y16 => (intro w hSw; (try dsimp only at hSw); go_simp; try with_reducible rfl)
            try simp only [Act.put, List.setIfInBounds_toArray, List.set_cons_zero, List.set_cons_succ]
            refine wpAnyH_ready (rs := [13]) (by kernel_rfl) (by simp) (AllReadyH.cons rfl (fun K hK => ?_) AllReadyH.nil)
            go_simp
            refine hK.out _ _ (trivial) (fun hHeld => ?_)
            clear hK
            try simp only [Act.put, List.setIfInBounds_toArray, List.set_cons_zero, List.set_cons_succ]
            refine wpAnyH_done (by kernel_rfl) ?_ _
            go_wp2_with fail
            go_roundw
            case rel => exact ⟨j + 1, true, by omega, by go_num, rfl, by show _ = _; rw [HT.out]; rfl, hin⟩
            case measure => simp [intOf]; omega
        · have HQ : Hid (q = nmd names (xa, xb)) := by
            have := hq.out
            rwa [List.take_of_length_le (by omega)] at this
          have hbw := hbel.trans (hin.mono hsw)
          have HC0 := Lib.hid (cell_kept hin HC0.out)
          have HC1 := Lib.hid (cell_kept hin HC1.out)
          have HO := Lib.hid (hown.out.below hin)
          have hs2 := hbw.size
          clear hq
          cases q with
          | false =>
            have HS : Hid ((L.take (k + 1)).filter (fun x => !nmd names x) = X ++ [(xa, xb)]) := by
              show _ = _
              rw [HF.out, if_pos (by rw [← HQ.out]; rfl)]
            have hcell0 := HC0.out
            have hcell1 := HC1.out
            clear HF HQ
            go_wp2_with (at_builtin; refine wpList_append_slf rfl _ _ _ rfl w.heap.size 33 Tryd.underlying22 (by kernel_rfl) _ rfl X (HO.out.alloc _) _ _ _ rfl [(xa, xb)] (SlF.one _ _ (xa, xb) hz1) (by simp; omega) (by simp; omega) w (hbw.alloc hs2 _) ?_; intro v1 w2 ho2 hb2 hz2)
            go_roundw
            case rel => exact ⟨k + 1, by omega, by go_num, by show OwnF _ _ _ _ _; rw [HS.out]; exact ho2.out, hb2⟩
            case measure => simp [intOf]; omega
          | true =>
            have HS : Hid ((L.take (k + 1)).filter (fun x => !nmd names x) = X) := by
              show _ = _
              rw [HF.out, if_neg (by rw [← HQ.out]; simp)]
            clear HF HQ
            go_wp2_with fail
            go_roundw
            case rel => exact ⟨k + 1, by omega, by go_num, by show OwnF _ _ _ _ _; rw [HS.out]; exact HO.out, hbw⟩
            case measure => simp [intOf]; omega
    · have HE : Hid ((L.take k).filter (fun x => !nmd names x) = L.filter fun x => !nmd names x) := by
        show _ = _
        rw [List.take_of_length_le (by omega)]
      rw [HE.out] at hown
      go_wp2_with fail
      go_ret
      exact ⟨_, rfl, hown.out, hbel⟩

/-- The very same field. -/
def eqF (x y : Fd) : Bool := (x.1.toList == y.1.toList) && (x.2.toList == y.2.toList)
theorem eqF_refl (x : Fd) : eqF x x = true := by simp [eqF]
theorem bthP_refl {α : Type} (p : α → α → Bool) (hp : ∀ x, p x x = true) : ∀ L : List α, bthP p L L = true
  | [] => rfl
  | x :: L => by unfold bthP; rw [hp, bthP_refl p hp L]; rfl

set_option maxHeartbeats 8000000 in
set_option maxRecDepth 100000 in
theorem rf_equal (A B : Option Addr) (n c m d : Nat) (L M : List Fd) (w : World) (h : SlF w A n c L) (h' : SlF w B m d M) (hn : n ≤ 100000000) :
    Calls Tryd.prog 8 #[.slice A n c, .slice B m d] w fun e w' => e = .returned (.bool (bthP eqF L M)) ∧ Below w.heap.size w w' := by
  have hlen := h.len
  have hlem := h'.len
  subst hlen hlem
  by_cases hl : L.length = M.length
  · have hlb : ((L.length : Int) == (M.length : Int)) = true := by rw [hl]; simp
    have hlc : ((L.length : Int) != (M.length : Int)) = false := by rw [hl]; simp
    have HLM := Lib.hid hl
    clear hl
    go_enter Tryd.func8, Tryd.ntmps8
    go_wp2_with fail
    go_loopw [5] (fun i wr => ∃ k : Nat, k ≤ L.length ∧ i = .int .i64 k ∧ Hid (bthP eqF L M = bthP eqF (L.drop k) (M.drop k)) ∧ Below w.heap.size w wr) (fun i _ => L.length - (intOf i).toNat)
    case atStart => exact ⟨0, Nat.zero_le _, rfl, rfl, Below.refl _ _⟩
    case round =>
      obtain ⟨k, hk, rfl, hf, hbel⟩ := hrel
      by_cases hlt : k < L.length
      · have hlt2 : k < M.length := by have := HLM.out; omega
        obtain ⟨ad, rfl, hc⟩ := h.at_ (by omega)
        obtain ⟨bd, rfl, hd⟩ := h'.at_ (by omega)
        obtain ⟨hc0, hc1⟩ := hc k L[k] (List.getElem?_eq_getElem hlt)
        obtain ⟨hd0, hd1⟩ := hd k M[k] (List.getElem?_eq_getElem hlt2)
        have HS := Lib.hid (bthP_drop eqF L M k hlt hlt2)
        generalize L[k] = x at *
        generalize M[k] = y at *
        obtain ⟨xa, xb⟩ := x
        obtain ⟨ya, yb⟩ := y
        have HC0 := Lib.hid (cell_kept hbel.drew hc0)
        have HC1 := Lib.hid (fd_snd (cell_kept hbel.drew hc1))
        have HD0 := Lib.hid (cell_kept hbel.drew hd0)
        have HD1 := Lib.hid (fd_snd (cell_kept hbel.drew hd1))
        have hA : eqF (xa, xb) (ya, yb) = ((xa.toList == ya.toList) && (xb.toList == yb.toList)) := rfl
        rw [hA] at HS
        have hi0 : (0 : Int) ≤ (k : Int) := by omega
        have hi1 : (k : Int) < (L.length : Int) := by omega
        have hi2 : (k : Int) < (M.length : Int) := by omega
        have hbel := hbel.drew
        clear hc hd hc0 hc1 hd0 hd1 hA
        have both : ∀ t : Bool, t = true ∨ t = false := fun t => by cases t <;> simp
        rcases both (xa.toList == ya.toList) with hT | hT
        · rcases both (xb.toList == yb.toList) with hS | hS
          · have HR : Hid (bthP eqF L M = bthP eqF (L.drop (k + 1)) (M.drop (k + 1))) := by
              show _ = _
              rw [hf.out, HS.out, hS, hT]; rfl
            clear HS hf
            go_wp2_with fail
            go_region_held3 (fun W => W.cell? (ad.add (k * 2)) = some (.string xa) ∧ W.cell? { block := (ad.add (k * 2)).block, off := (ad.add (k * 2)).off + 1 } = some (.string xb) ∧ W.cell? (bd.add (k * 2)) = some (.string ya) ∧ W.cell? { block := (bd.add (k * 2)).block, off := (bd.add (k * 2)).off + 1 } = some (.string yb)) (exact ⟨HC0.out, HC1.out, HD0.out, HD1.out⟩) (fail)
            go_wp2_with fail
            go_roundw
            case rel => exact ⟨k + 1, by omega, by go_num, HR, hbel⟩
            case measure => simp [intOf]; omega
          · have HR : Hid (bthP eqF L M = false) := by
              show _ = _
              rw [hf.out, HS.out, hS, Bool.and_false]; rfl
            clear HS hf
            go_wp2_with fail
            go_region_held3 (fun W => W.cell? (ad.add (k * 2)) = some (.string xa) ∧ W.cell? { block := (ad.add (k * 2)).block, off := (ad.add (k * 2)).off + 1 } = some (.string xb) ∧ W.cell? (bd.add (k * 2)) = some (.string ya) ∧ W.cell? { block := (bd.add (k * 2)).block, off := (bd.add (k * 2)).off + 1 } = some (.string yb)) (exact ⟨HC0.out, HC1.out, HD0.out, HD1.out⟩) (fail)
            go_wp2_with fail
            go_ret
            exact ⟨by rw [HR.out]; rfl, hbel⟩
        · have HR : Hid (bthP eqF L M = false) := by
            show _ = _
            rw [hf.out, HS.out, hT]; rfl
          clear HS hf
          go_wp2_with fail
          go_region_held3 (fun W => W.cell? (ad.add (k * 2)) = some (.string xa) ∧ W.cell? { block := (ad.add (k * 2)).block, off := (ad.add (k * 2)).off + 1 } = some (.string xb) ∧ W.cell? (bd.add (k * 2)) = some (.string ya) ∧ W.cell? { block := (bd.add (k * 2)).block, off := (bd.add (k * 2)).off + 1 } = some (.string yb)) (exact ⟨HC0.out, HC1.out, HD0.out, HD1.out⟩) (fail)
          go_wp2_with fail
          go_ret
          exact ⟨by rw [HR.out]; rfl, hbel⟩
      · have HR : Hid (bthP eqF L M = true) := by
          show _ = _
          rw [hf.out, List.drop_eq_nil_of_le (by omega), List.drop_eq_nil_of_le (by have := HLM.out; omega)]; rfl
        clear hf
        go_wp2_with fail
        go_ret
        exact ⟨by rw [HR.out]; rfl, hbel⟩
  · have hlb : ((L.length : Int) == (M.length : Int)) = false := by rw [beq_eq_false_iff_ne]; omega
    have HR := Lib.hid (bthP_len eqF L M hl)
    clear hl
    go_enter Tryd.func8, Tryd.ntmps8
    go_wp2_with fail
    go_ret
    exact ⟨by rw [HR.out]; rfl, Below.refl _ _⟩


end Go.Proofs.YtmkjjidilfhojaaDoor
end
