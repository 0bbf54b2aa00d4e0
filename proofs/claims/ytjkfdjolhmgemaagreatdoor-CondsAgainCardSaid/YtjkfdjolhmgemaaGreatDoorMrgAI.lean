/-
  Texts that the laws of this seat lean on, one behind the other.
-/
import Derived.Test.YtjkfdjolhmgemaaGreatDoorMrgAH
import Derived.Test.YtjkfdjolhmgemaaGreatDoorMrgAD
import Derived.Test.YtjkfdjolhmgemaaGreatDoorMrgAA
set_option linter.unusedSimpArgs false
set_option linter.unusedVariables false
/-
  Contracts of the reference's Match, Few, FewNames (layer 15).
-/
section
namespace Go.Proofs.YtjkfdjolhmgemaaGreatDoor
open Go.RowKit
set_option linter.unusedSimpArgs false

def nmP (P : List Pk) : List (List UInt8) := P.map fun x => x.n.data.toList
def FwP (P : List Pk) : Prop := P.length ≤ 1000 ∧ ∀ x ∈ P, x.n.size ≤ 10000
/-- Few picks, and short ones; few names, and short ones. -/
def fewK (P : List Pk) : Bool := decide (P.length ≤ 30) && P.all fun x => decide (x.n.size ≤ 500) && decide (x.v.size ≤ 500)
def fewN (N : List (List UInt8)) : Bool := decide (N.length ≤ 30) && N.all fun x => decide (x.length ≤ 500)
theorem fewK_no {P : List Pk} {x : Pk} (hx : x ∈ P) (h : ¬ (x.n.size ≤ 500 ∧ x.v.size ≤ 500)) : fewK P = false := by
  unfold fewK
  rw [Bool.and_eq_false_iff]
  right
  rw [List.all_eq_false]
  exact ⟨x, hx, by simp only [Bool.and_eq_true, decide_eq_true_eq]; exact h⟩
set_option maxHeartbeats 8000000 in
set_option maxRecDepth 100000 in
theorem r_few (A : Option Addr) (n c : Nat) (P : List Pk) (w : World) (h : SlK w A n c P) :
    Calls Tryz.prog 18 #[.slice A n c, .int .i64 30, .int .i64 500] w fun e w' => e = .returned (.bool (fewK P)) ∧ Below w.heap.size w w' := by
  have hlen := h.len
  have hle := h.le
  unfold maxLen at hle
  subst hlen
  go_enter Tryz.func18, Tryz.ntmps18
  go_wp2_with fail
  go_loopw [7] (fun i wr => ∃ k : Nat, k ≤ P.length ∧ k ≤ 31 ∧ i = .int .i64 k ∧ Hid (∀ x ∈ P.take k, x.n.size ≤ 500 ∧ x.v.size ≤ 500) ∧ Hid (Below w.heap.size w wr)) (fun i _ => P.length - (intOf i).toNat)
  case atStart => exact ⟨0, Nat.zero_le _, Nat.zero_le _, rfl, (fun x hx => absurd hx (by simp)), Below.refl _ _⟩
  case round =>
    obtain ⟨k, hk, hk31, rfl, hf, HB⟩ := hrel
    have hi0 : (0 : Int) ≤ (k : Int) := by omega
    by_cases hlt : k < P.length
    · have hi1 : (k : Int) < (P.length : Int) := by omega
      by_cases hm : k ≤ 30
      · have hi2 : (k : Int) ≤ 30 := by omega
        obtain ⟨ad, rfl, hc⟩ := h.at_ (by omega)
        obtain ⟨hc0, _, hc2⟩ := hc k P[k] (List.getElem?_eq_getElem hlt)
        have hcell0 := cell_kept HB.out hc0
        have hcell2 := pk_at2 (cell_kept HB.out hc2)
        have hmem : P[k] ∈ P := List.getElem_mem hlt
        have HST : Hid (P[k].n.size ≤ 500 ∧ P[k].v.size ≤ 500 → ∀ x ∈ P.take (k + 1), x.n.size ≤ 500 ∧ x.v.size ≤ 500) := fun hx x hm => by
          rw [List.take_succ_eq_append_getElem hlt, List.mem_append, List.mem_singleton] at hm
          rcases hm with hm | rfl
          · exact hf.out x hm
          · exact hx
        have HNO : Hid (¬ (P[k].n.size ≤ 500 ∧ P[k].v.size ≤ 500) → fewK P = false) := fun hn => fewK_no hmem hn
        generalize P[k] = x at *
        obtain ⟨xn, xh, xv⟩ := x
        simp only at hcell0 hcell2 HST HNO
        clear hc hc0 hc2 hmem hf
        by_cases h1 : xn.size ≤ 500
        · have h1i : ¬ (500 : Int) < (xn.size : Int) := by omega
          by_cases h2 : xv.size ≤ 500
          · have h2i : ¬ (500 : Int) < (xv.size : Int) := by omega
            have HN := Lib.hid (HST.out ⟨h1, h2⟩)
            clear h1 h2 HST HNO
            go_wp2_with fail
            go_roundw
            case rel => exact ⟨k + 1, by omega, by omega, by go_num, HN.out, HB.out⟩
            case measure => simp [intOf]; omega
          · have h2i : (500 : Int) < (xv.size : Int) := by omega
            have HN := Lib.hid (HNO.out (fun q => h2 q.2))
            clear h1 h2 HST HNO
            go_wp2_with fail
            go_ret
            exact ⟨by rw [HN.out]; rfl, HB.out⟩
        · have h1i : (500 : Int) < (xn.size : Int) := by omega
          have HN := Lib.hid (HNO.out (fun q => h1 q.1))
          clear h1 HST HNO
          go_wp2_with fail
          go_ret
          exact ⟨by rw [HN.out]; rfl, HB.out⟩
      · have hi2 : ¬ (k : Int) ≤ 30 := by omega
        have hi3 : ¬ (P.length : Int) ≤ 30 := by omega
        have HN : Hid (fewK P = false) := by show _ = _; unfold fewK; rw [decide_eq_false (by omega)]; rfl
        clear hf
        go_wp2_with fail
        go_ret
        exact ⟨by rw [HN.out]; rfl, HB.out⟩
    · have hi1 : ¬ (k : Int) < (P.length : Int) := by omega
      rw [List.take_of_length_le (by omega)] at hf
      by_cases hm : P.length ≤ 30
      · have hi3 : (P.length : Int) ≤ 30 := by omega
        have HN : Hid (fewK P = true) := by
          show _ = _
          unfold fewK
          rw [decide_eq_true hm, Bool.true_and, List.all_eq_true]
          intro x hx
          have := hf.out x hx
          simp only [Bool.and_eq_true, decide_eq_true_eq]
          exact this
        clear hf
        go_wp2_with fail
        go_ret
        exact ⟨by rw [HN.out]; rfl, HB.out⟩
      · have hi3 : ¬ (P.length : Int) ≤ 30 := by omega
        have HN : Hid (fewK P = false) := by show _ = _; unfold fewK; rw [decide_eq_false hm]; rfl
        clear hf
        go_wp2_with fail
        go_ret
        exact ⟨by rw [HN.out]; rfl, HB.out⟩

end Go.Proofs.YtjkfdjolhmgemaaGreatDoor
end

/-
  Contract of the reference's Check (layer 9).
-/
section
namespace Go.Proofs.YtjkfdjolhmgemaaGreatDoor
open Go.RowKit
set_option linter.unusedSimpArgs false

end Go.Proofs.YtjkfdjolhmgemaaGreatDoor
end

/-
  The page's example (heads) of layer 9.
-/
section
namespace Go.Proofs.YtjkfdjolhmgemaaGreatDoor
open Go.RowKit

theorem SlF.lit {w : World} {g t : Nat} {fr : Nat × Nat} {cs : Array Value} (L : List Fd) (hg : w.heap[g]? = some (.cells cs t fr)) (hcs : cs = (fdC L).toArray) (hm : L.length ≤ maxLen) (hz : ∀ x ∈ L, x.1.size ≤ maxLen ∧ x.2.size ≤ maxLen) : SlF w (some ⟨g, 0, none⟩) L.length L.length L := by
  subst hcs
  refine ⟨rfl, Nat.le_refl _, hm, (fun e => by cases e), fun _ => ⟨_, rfl, fun j x hx => ?_⟩, hz⟩
  obtain ⟨h0, h1⟩ := fdC_at L j x hx
  rw [addr_add, addr_add, cell_of_row _ _ _ _ _ _ hg, cell_of_row _ _ _ _ _ _ hg]
  exact ⟨by simpa using h0, by simpa using h1⟩

def exV : ByteArray := ⟨#[86, 97, 114, 121, 58, 32, 32, 97, 44, 32, 66, 32]⟩
def exG : ByteArray := ⟨#[97, 32, 98, 58, 32, 99]⟩
def exF : Fd := (⟨#[86, 97, 114, 121]⟩, ⟨#[97, 44, 32, 66]⟩)
def exL : List Fd := [(⟨#[97]⟩, ⟨#[49]⟩), (⟨#[98]⟩, ⟨#[120, 44, 32, 89]⟩), (⟨#[65]⟩, ⟨#[50]⟩)]
end Go.Proofs.YtjkfdjolhmgemaaGreatDoor
end

/-
  Plain facts of layer 9: what is parsed may be; a field's line is parsed as the field; what dropping and setting leave (P9.4).
-/
section
namespace Go.Proofs.YtjkfdjolhmgemaaGreatDoor
open Go.RowKit

/-! ### Lines -/
/-! ### Drop, Set -/
theorem same_self (a : ByteArray) : sameB a a = true := by unfold sameB; simp
end Go.Proofs.YtjkfdjolhmgemaaGreatDoor
end

/-
  Plain facts of layer 19: merging twice is merging once, what a 304 doesn't name stays; what is asked, told and selected.
-/
section
namespace Go.Proofs.YtjkfdjolhmgemaaGreatDoor
open Go.RowKit

theorem same_via {a b c : ByteArray} (h : sameB a b = true) (g : sameB c b = true) : sameB a c = true := by
  unfold sameB at *
  rw [beq_iff_eq] at *
  rw [h, g]
theorem drop_app (L M : List Fd) (ns : List (List UInt8)) : fdDrop (L ++ M) ns = fdDrop L ns ++ fdDrop M ns := List.filter_append ..
theorem drop_twice (L : List Fd) (ns : List (List UInt8)) : fdDrop (fdDrop L ns) ns = fdDrop L ns := by
  unfold fdDrop
  rw [List.filter_filter]
  refine List.filter_congr fun x _ => ?_
  exact Bool.and_self _
theorem drop_named {M : List Fd} {ns : List (List UInt8)} (h : ∀ x ∈ M, x.1.data.toList ∈ ns) : fdDrop M ns = [] := by
  unfold fdDrop
  rw [List.filter_eq_nil_iff]
  intro x hx
  have : nmd ns x = true := List.any_eq_true.2 ⟨_, h x hx, by rw [mkS_self]; exact same_self _⟩
  simp [this]
def mrgN (N : List Fd) : List (List UInt8) := c2N ++ (comF N).map fun x => x.1.data.toList
theorem mrg_eq (L N : List Fd) : mrgF L N = fdDrop L (mrgN N) ++ comF N := rfl
theorem mrg_again (L N : List Fd) : mrgF (mrgF L N) N = mrgF L N := by
  rw [mrg_eq, mrg_eq, drop_app, drop_twice, drop_named (M := comF N) (ns := mrgN N) fun x hx => List.mem_append.2 (.inr (List.mem_map.2 ⟨x, hx, rfl⟩)), List.append_nil]
theorem fewK_len {P : List Pk} (h : fewK P = true) : P.length ≤ 30 := by
  unfold fewK at h
  rw [Bool.and_eq_true, decide_eq_true_eq] at h
  exact h.1
theorem com_mem {N : List Fd} {x : Fd} (h : x ∈ comF N) : x ∈ N := (List.mem_filter.1 (List.mem_filter.1 (List.mem_filter.1 h).1).1).1
theorem com_len (N : List Fd) : (comF N).length ≤ N.length := Nat.le_trans (List.length_filter_le _ _) (stp_len N)
theorem mrg_len (L N : List Fd) : (mrgF L N).length ≤ L.length + N.length := by
  rw [mrg_eq, List.length_append]
  have h1 : (fdDrop L (mrgN N)).length ≤ L.length := List.length_filter_le _ _
  have h2 := com_len N
  omega
theorem mrg_mem {L N : List Fd} {x : Fd} (h : x ∈ mrgF L N) : x ∈ L ∨ x ∈ N := by
  rw [mrg_eq, List.mem_append] at h
  rcases h with h | h
  · exact .inl (List.mem_filter.1 h).1
  · exact .inr (com_mem h)
theorem cAll_app (L M : List Fd) (o : ByteArray) : fdAll (L ++ M) o = fdAll L o ++ fdAll M o := by unfold fdAll; rw [List.filter_append, List.map_append]
theorem all_none {M : List Fd} {o : ByteArray} (h : ∀ x ∈ M, sameB x.1 o = false) : fdAll M o = [] := by
  have e : (M.filter fun x => sameB x.1 o) = [] := List.filter_eq_nil_iff.2 fun x hx => by rw [h x hx]; simp
  unfold fdAll
  rw [e]; rfl
theorem got_none {M : List Fd} {o : ByteArray} (h : fdGot M o = false) : ∀ x ∈ M, sameB x.1 o = false := fun x hx => by
  cases hq : sameB x.1 o with
  | false => rfl
  | true =>
    have h1 : x.2.data.toList ∈ fdAll M o := List.mem_map.2 ⟨x, List.mem_filter.2 ⟨hx, hq⟩, rfl⟩
    unfold fdGot at h
    cases ha : fdAll M o with
    | nil => rw [ha] at h1; cases h1
    | cons a r => rw [ha] at h; cases h
theorem cDrop_all {L : List Fd} {ns : List (List UInt8)} {o : ByteArray} (h : ∀ n ∈ ns, sameB o (mkS n) = false) : fdAll (fdDrop L ns) o = fdAll L o := by
  unfold fdAll fdDrop
  rw [List.filter_filter]
  congr 1
  refine List.filter_congr fun x _ => ?_
  cases hq : sameB x.1 o with
  | false => rfl
  | true =>
    have : nmd ns x = false := by
      unfold nmd
      rw [List.any_eq_false]
      intro n hn
      have := h n hn
      intro hc
      rw [same_via (by rw [same_symm]; exact hq) (by rw [same_symm]; exact hc)] at this
      cases this
    rw [this]; rfl
/-- A name that neither the 304 nor the merge names has what it had. -/
theorem mrg_other {L N : List Fd} {o : ByteArray} (h1 : ∀ n ∈ c2N, sameB o (mkS n) = false) (h2 : fdGot N o = false) : fdGet (mrgF L N) o = fdGet L o ∧ fdAll (mrgF L N) o = fdAll L o := by
  have hc : ∀ x ∈ comF N, sameB x.1 o = false := fun x hx => got_none h2 x (com_mem hx)
  have : fdAll (mrgF L N) o = fdAll L o := by
    rw [mrg_eq, cAll_app, all_none hc, List.append_nil]
    refine cDrop_all fun n hn => ?_
    rcases List.mem_append.1 hn with hn | hn
    · exact h1 n hn
    · obtain ⟨x, hx, rfl⟩ := List.mem_map.1 hn
      rw [mkS_self, same_symm]
      exact hc x hx
  exact ⟨by unfold fdGet; rw [this], this⟩

/-! ### What is asked and told -/
theorem cnd_nn : ∀ x : Fd, sameB x.1 nnS = true → nmd cndN x = true := fun x h => List.any_eq_true.2 ⟨_, by unfold cndN; exact List.mem_cons_self .., by rw [mkS_self]; exact h⟩
theorem drop_cnd (Q : List Fd) : fdAll (fdDrop Q cndN) nnS = [] := by
  refine all_none fun x hx => ?_
  have := (List.mem_filter.1 hx).2
  cases hq : sameB x.1 nnS with
  | false => rfl
  | true => rw [cnd_nn x hq] at this; cases this
theorem nn_ims : sameB imsS nnS = false := by decide +kernel
theorem ask_all (Q L : List Fd) : fdAll (askF Q L) nnS = if rtB L then [(tgS (rtO L)).data.toList] else [] := by
  unfold askF
  rw [cAll_app, cAll_app, drop_cnd, List.nil_append]
  have h2 : fdAll (if whnB L lmS then [(imsS, fdGet L lmS)] else []) nnS = [] := all_none fun x hx => by
    split at hx
    · simp only [List.mem_singleton] at hx; subst hx; exact nn_ims
    · cases hx
  rw [h2, List.append_nil]
  cases rtB L with
  | false => rfl
  | true =>
    show fdAll [(nnS, tgS (rtO L))] nnS = _
    unfold fdAll
    rw [List.filter_cons, same_self]; rfl
theorem ask_got (Q L : List Fd) : fdGot (askF Q L) nnS = rtB L ∧ (rtB L = true → fdGet (askF Q L) nnS = tgS (rtO L)) := by
  unfold fdGot fdGet
  rw [ask_all]
  cases rtB L with
  | false => exact ⟨rfl, fun h => by cases h⟩
  | true => exact ⟨rfl, fun _ => by
    have e : Lib.join [(tgS (rtO L)).data.toList] [44, 32] = (tgS (rtO L)).data.toList := Lib.join_one _ _
    show mkS (Lib.join [(tgS (rtO L)).data.toList] [44, 32]) = _
    rw [e, mkS_self]⟩
theorem rt_tag {L : List Fd} (h : rtB L = true) : ∃ s, tgB s = true ∧ rtO L = tgO s ∧ fdGot L etS = true := by
  unfold rtB at h
  unfold rtO
  split at h
  · rename_i hl
    rw [if_pos hl]
    refine ⟨_, h, rfl, ?_⟩
    unfold fdGot
    cases ha : fdAll L etS with
    | nil => rw [ha] at hl; cases hl
    | cons a r => rfl
  · cases h
theorem told_sat {m : ByteArray} {Q L : List Fd} (hm : m.toList = [71, 69, 84]) (h : rtB L = true) : satB m (askF Q L) L 200 = true := by
  obtain ⟨s, hs, ho, _⟩ := rt_tag h
  have hg := ask_got Q L
  have : satA (askF Q L) L = true := by
    unfold satA
    rw [if_pos (hg.1.trans h), hg.2 h, h, ho, tg_text hs, match_self hs]
    simp
  unfold satB
  rw [this, hm]; rfl
theorem nt_all (L : List Fd) : fdAll (ntF L) etS = fdAll L etS := by
  unfold fdAll ntF
  rw [List.filter_filter]
  congr 1
  refine List.filter_congr fun x _ => ?_
  cases hq : sameB x.1 etS with
  | false => rfl
  | true =>
    have : ntB x.1 = true := List.any_eq_true.2 ⟨etS, by unfold ntN etS; simp, by rw [same_symm]; exact hq⟩
    rw [this]; rfl
theorem told_sel {L : List Fd} (h : rtB L = true) : selB L (ntF L) = true := by
  obtain ⟨s, hs, ho, hg⟩ := rt_tag h
  have h1 : rtB (ntF L) = rtB L := by unfold rtB; rw [nt_all]
  have h2 : rtO (ntF L) = rtO L := by unfold rtO; rw [nt_all]
  have h3 : fdGot (ntF L) etS = true := by unfold fdGot at hg ⊢; rw [nt_all]; exact hg
  unfold selB
  rw [if_pos h3, h1, h2, h, wek_refl]; rfl
theorem ask_drop (Q L : List Fd) : fdDrop (askF Q L) cndN = fdDrop Q cndN := by
  unfold askF
  rw [drop_app, drop_app, drop_twice]
  have h1 : fdDrop (if rtB L then [(nnS, tgS (rtO L))] else []) cndN = [] := by
    split
    · exact drop_named fun x hx => by simp only [List.mem_singleton] at hx; subst hx; unfold cndN; exact List.mem_cons_self ..
    · rfl
  have h2 : fdDrop (if whnB L lmS then [(imsS, fdGet L lmS)] else []) cndN = [] := by
    split
    · exact drop_named fun x hx => by simp only [List.mem_singleton] at hx; subst hx; unfold cndN; exact List.mem_cons_of_mem _ (List.mem_cons_self ..)
    · rfl
  rw [h1, h2, List.append_nil, List.append_nil]

/-! ### Sizes -/
theorem one_val {L : List Fd} {name : ByteArray} (h : (fdAll L name).length = 1) : ∃ x ∈ L, fdAll L name = [x.2.data.toList] ∧ fdGet L name = x.2 := by
  cases ha : fdAll L name with
  | nil => rw [ha] at h; cases h
  | cons v r =>
    rw [ha] at h
    obtain rfl : r = [] := List.eq_nil_of_length_eq_zero (by simpa using h)
    have hv : v ∈ fdAll L name := by rw [ha]; exact List.mem_cons_self ..
    obtain ⟨x, hx, rfl⟩ := List.mem_map.1 hv
    exact ⟨x, (List.mem_filter.1 hx).1, rfl, by unfold fdGet; rw [ha, Lib.join_one, mkS_self]⟩
theorem ask_fwl {Q L : List Fd} (hQ : FwL Q) (hn : Q.length ≤ 70) (hL : FwL L) : FwL (askF Q L) := by
  have h1 : (fdDrop Q cndN).length ≤ 70 := Nat.le_trans (List.length_filter_le _ _) hn
  have key : ∀ x ∈ askF Q L, x.2.size ≤ 10000 ∧ x.1.size ≤ 10000 := fun x hx => by
    unfold askF at hx
    rcases List.mem_append.1 hx with hx | hx
    · rcases List.mem_append.1 hx with hx | hx
      · have := (List.mem_filter.1 hx).1
        exact ⟨hQ.v x this, hQ.m x this⟩
      · split at hx
        · rename_i hb
          simp only [List.mem_singleton] at hx
          subst hx
          refine ⟨?_, by show nnS.size ≤ _; decide⟩
          show (tgS (rtO L)).size ≤ 10000
          unfold rtB at hb
          unfold rtO
          split at hb
          · rename_i hl
            rw [if_pos hl]
            obtain ⟨y, hy, ha, _⟩ := one_val hl
            rw [ha] at hb ⊢
            have hs : mkS (([y.2.data.toList] : List (List UInt8)).headD []) = y.2 := mkS_self _
            rw [hs] at hb ⊢
            rw [tg_text hb]
            exact hL.v y hy
          · cases hb
        · cases hx
    · split at hx
      · rename_i hb
        simp only [List.mem_singleton] at hx
        subst hx
        refine ⟨?_, by show imsS.size ≤ _; decide⟩
        show (fdGet L lmS).size ≤ 10000
        unfold whnB at hb
        split at hb
        · rename_i hl
          obtain ⟨y, hy, _, hg⟩ := one_val hl
          rw [hg]
          exact hL.v y hy
        · cases hb
      · cases hx
  refine ⟨?_, fun x hx => (key x hx).1, fun x hx => (key x hx).2⟩
  unfold askF
  rw [List.length_append, List.length_append]
  have h2 : (if rtB L then [(nnS, tgS (rtO L))] else []).length ≤ 1 := by split <;> simp
  have h3 : (if whnB L lmS then [(imsS, fdGet L lmS)] else []).length ≤ 1 := by split <;> simp
  omega
theorem nt_fwl {L : List Fd} (h : FwL L) : FwL (ntF L) := ⟨Nat.le_trans (List.length_filter_le _ _) h.n, fun x hx => h.v x (List.mem_filter.1 hx).1, fun x hx => h.m x (List.mem_filter.1 hx).1⟩
theorem ask_join {Q L : List Fd} : (Lib.join (fdAll (askF Q L) nnS) [44, 32]).length ≤ (tgS (rtO L)).size := by
  rw [ask_all]
  split
  · rw [Lib.join_one, ← Lib.size_eq]; exact Nat.le_refl _
  · exact Nat.zero_le _
theorem tag_size {L : List Fd} (h : FwL L) : (rtO L).2.size ≤ 10000 ∧ (tgS (rtO L)).size ≤ 10010 := by
  have hs : ∀ t : Tg, t.2.size ≤ 10000 → (tgS t).size ≤ 10010 := fun t ht => by
    unfold tgS
    rw [ByteArray.size_append, ByteArray.size_append]
    split
    · show 3 + t.2.size + 1 ≤ _; omega
    · show 1 + t.2.size + 1 ≤ _; omega
  have key : (rtO L).2.size ≤ 10000 := by
    unfold rtO
    split
    · rename_i hl
      obtain ⟨y, hy, ha, _⟩ := one_val hl
      rw [ha]
      have e : mkS (([y.2.data.toList] : List (List UInt8)).headD []) = y.2 := mkS_self _
      rw [e]
      have hv := h.v y hy
      unfold tgO
      split
      · show (midL (offW y.2)).size ≤ _
        have h1 := offW_le y.2
        have h2 : (midL (offW y.2)).size ≤ (offW y.2).size := by unfold midL; rw [ByteArray.size_extract]; omega
        omega
      · exact Nat.zero_le _
    · exact Nat.zero_le _
  exact ⟨key, hs _ key⟩

end Go.Proofs.YtjkfdjolhmgemaaGreatDoor
end
