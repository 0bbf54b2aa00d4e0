/-
  Texts that the laws of this seat lean on, one behind the other.
-/
import Derived.Test.YtmpgenflohdghaaMrgN
import Derived.Test.YtmpgenflohdghaaMrgP
import Derived.Test.YtmpgenflohdghaaMrgK
import Derived.Deep.RegionHeld3
import Derived.Test.YtmpgenflohdghaaMrgM
import Derived.Test.YtmpgenflohdghaaMrgO
import Derived.Deep.AppendLies
/-
  Contracts of package fields' Line, long, alike; the tests that choose, IndexFunc and ContainsFunc are handed.
-/
section
namespace Go.Proofs.Ytmpgenflohdghaa
open Go.RowKit

/-! ### The tests -/
theorem enters_named : ∀ args W, (callFunc 56 args).run Try.prog W = .ok (.enter 56 args) W := Go.Proofs.enters_of Try.func56 (by kernel_rfl) rfl
theorem named_pred (w : World) (a : Nat) (A : Option Addr) (n c : Nat) (names : List (List UInt8)) (ha : w.cell? ⟨a, 0, none⟩ = some (.slice A n c)) (h : SlS w A n c names) (hz : ∀ x ∈ names, x.length ≤ maxLen) (hn : n ≤ 1000000000) :
    PredF w 56 #[.pointer (some ⟨a, 0, none⟩)] (nmd names) := fun W x hb h1 =>
  named_in a A n c names W (cell_kept hb ha) (h.below hb) hz hn x h1.one
end Go.Proofs.Ytmpgenflohdghaa
end

/-
  Contracts of package fields' Drop, All, Get, Has.
-/
section
namespace Go.Proofs.Ytmpgenflohdghaa
open Go.RowKit

theorem SlS.textAt (w : World) (t : TypeId) (x : ByteArray) {g : Nat} (hg : w.heap.size = g) : SlS (w.alloc (.cells #[.string x] t)) (some ⟨g, 0, none⟩) 1 1 [x.data.toList] := by
  subst hg
  exact SlS.text w t x
/-- What All answers. -/
def Vals (w : World) (X : List (List UInt8)) (e : Ending) (w' : World) : Prop :=
  ∃ A c, e = .returned (.slice A X.length c) ∧ SlS w' A X.length c X ∧ Head w' A ∧ Below w.heap.size w w'

set_option maxHeartbeats 4000000 in
set_option maxRecDepth 100000 in
theorem all_any (A : Option Addr) (n c : Nat) (L : List Fd) (name : ByteArray) (w : World) (h : SlF w A n c L) (hn : n ≤ 100000000) (hB : ∀ x ∈ L, Bd x) (hz : name.size ≤ maxLen) :
    Calls Try.prog 23 #[.slice A n c, .string name] w (Vals w (fdAll L name)) := by
  have hb1 : Below w.heap.size w (w.alloc (.cells #[.string name] 9)) := (Below.refl _ _).alloc (Nat.le_refl _) _
  have hb2 : Below w.heap.size w ((w.alloc (.cells #[.string name] 9)).alloc (.cells #[.slice (some ⟨w.heap.size, 0, none⟩) 1 1] 25)) := hb1.alloc (by simp) _
  have p1 : PredF ((w.alloc (.cells #[.string name] 9)).alloc (.cells #[.slice (some ⟨w.heap.size, 0, none⟩) 1 1] 25)) 56 #[.pointer (some ⟨w.heap.size + 1, 0, none⟩)] (nmd [name.data.toList]) :=
    named_pred _ (w.heap.size + 1) _ 1 1 [name.data.toList] (zero_one (heap_alloc2_new w _ _)) ((SlS.text w 9 name).alloc _) (fun x hx => by
      simp only [List.mem_singleton] at hx
      subst hx
      rw [← Lib.size_eq]; exact hz) (by decide)
  rw [nmd_one'] at p1
  have hq := choose_any A n c L _ (h.below hb2) hn hB 56 _ _ enters_named p1
  have hs2 : ((w.alloc (.cells #[.string name] 9)).alloc (.cells #[.slice (some ⟨w.heap.size, 0, none⟩) 1 1] 25)).heap.size = w.heap.size + 2 := by simp
  have HQ := Lib.hid hq
  have HB2 := Lib.hid hb2
  have HS2 := Lib.hid hs2
  have hD : fdAll L name = (L.filter fun x => sameB x.1 name).map fun x => x.2.data.toList := rfl
  rw [hD]
  have hlen : (L.filter fun x => sameB x.1 name).length ≤ 100000000 := Nat.le_trans (List.length_filter_le _ _) (by have := h.len; omega)
  have hsz : ∀ x ∈ (L.filter fun x => sameB x.1 name), x.1.size ≤ maxLen ∧ x.2.size ≤ maxLen := fun x hx => h.sz x ((List.mem_filter.1 hx).1)
  generalize (L.filter fun x => sameB x.1 name) = R at *
  clear hq hb1 hb2 hs2 p1 hD
  go_enter Try.func23, Try.ntmps23
  go_wp2_with fail
  refine (named_any _ 1 1 _ rfl _).mono ?_
  rintro e w1 ⟨rfl, rfl⟩
  go_wp2_with fail
  refine HQ.out.mono ?_
  rintro e w1 ⟨v, rfl, ho, hb⟩
  have hbw := HB2.out.trans (hb.mono (by rw [HS2.out]; omega))
  obtain ⟨A1, c1, rfl, hF⟩ := ho.slf hsz
  have HF := Lib.hid hF
  have HB := Lib.hid hbw
  clear ho hb hF hbw HQ HB2 HS2
  go_wp2_with fail
  go_loopw [5, 14] (fun v i wr => ∃ k : Nat, k ≤ R.length ∧ i = .int .i64 k ∧ Hid (OwnS wr w1.heap.size 9 v ((R.take k).map fun x => x.2.data.toList)) ∧ Below w1.heap.size w1 wr) (fun _ i _ => R.length - (intOf i).toNat)
  case atStart => exact ⟨0, Nat.zero_le _, rfl, OwnS.nil _ _ _, Below.refl _ _⟩
  case round =>
    obtain ⟨k, hk, rfl, hown, hbel⟩ := hrel
    by_cases hlt : k < R.length
    · obtain ⟨ad, rfl, hc⟩ := HF.out.at_ (by omega)
      obtain ⟨hc0, hc1⟩ := hc k R[k] (List.getElem?_eq_getElem hlt)
      have hcell0 := cell_kept hbel hc0
      have hcell1 := fd_snd (cell_kept hbel hc1)
      have HS : Hid ((R.take (k + 1)).map (fun x => x.2.data.toList) = (R.take k).map (fun x => x.2.data.toList) ++ [R[k].2.data.toList]) := by
        show _ = _
        rw [take_fd R k hlt, List.map_append]; rfl
      have hlx : ((R.take k).map fun x => x.2.data.toList).length ≤ k := by rw [List.length_map, List.length_take]; omega
      generalize R[k] = x at *
      obtain ⟨a, b⟩ := x
      generalize hX : ((R.take k).map fun x => x.2.data.toList) = X at *
      have hi0 : (0 : Int) ≤ (k : Int) := by omega
      have hi1 : (k : Int) < (R.length : Int) := by omega
      have HO := Lib.hid (hown.out.alloc (.cells #[.string a, .string b] 38))
      have HB5 := Lib.hid (hbel.alloc hbel.size (.cells #[.string a, .string b] 38))
      have hs5 := HB5.out.size
      have hs4 := hbel.size
      clear hc hc0 hc1 hown hX
      go_wp2_with (at_builtin; refine wpList_append_sls rfl _ _ _ rfl w1.heap.size 9 Try.underlying25 (by kernel_rfl) _ rfl X (HO.out.alloc _) _ _ _ rfl [b.data.toList] (SlS.textAt _ _ b (by simp)) (by simp; omega) (by simp; omega) w1 (HB5.out.alloc hs5 _) ?_; intro v1 w2 ho2 hb2 hz2)
      go_roundw
      case rel => exact ⟨k + 1, by omega, by go_num, by show OwnS _ _ _ _ _; rw [HS.out]; exact ho2.out, hb2⟩
      case measure => simp [intOf]; omega
    · have HE : Hid ((R.take k).map (fun x => x.2.data.toList) = R.map fun x => x.2.data.toList) := by
        show _ = _
        rw [List.take_of_length_le (by omega)]
      rw [HE.out] at hown
      go_wp2_with fail
      go_ret
      obtain ⟨A2, c2, rfl, hA, hH⟩ := hown.out.sls
      exact ⟨A2, c2, rfl, hA, hH, below_then HB.out hbel⟩

theorem getF_any (A : Option Addr) (n c : Nat) (L : List Fd) (name : ByteArray) (w : World) (h : SlF w A n c L) (hn : n ≤ 100000000) (hB : ∀ x ∈ L, Bd x) (hz : name.size ≤ maxLen) (hj : (Lib.join (fdAll L name) [44, 32]).length ≤ 1000000000000) :
    Calls Try.prog 33 #[.slice A n c, .string name] w fun e w' => e = .returned (.tuple #[.string (fdGet L name), .bool (fdGot L name)]) ∧ Below w.heap.size w w' := by
  have hq := all_any A n c L name w h hn hB hz
  have hD : fdGet L name = mkS (Lib.join (fdAll L name) [44, 32]) := rfl
  have hE : fdGot L name = decide ((0 : Int) < ((fdAll L name).length : Int)) := by
    unfold fdGot
    cases fdAll L name with
    | nil => rfl
    | cons x r => simp
  have hl : (fdAll L name).length ≤ 100000000 := by
    unfold fdAll
    rw [List.length_map]
    exact Nat.le_trans (List.length_filter_le _ _) (by have := h.len; omega)
  rw [hD, hE]
  generalize fdAll L name = X at *
  have HQ := Lib.hid hq
  have cj := fun A c W (hs : SlS W A X.length c X) hH => join_any A X.length c X W hs hH (by omega) hj
  generalize mkS (Lib.join X [44, 32]) = J at *
  have CJ := Lib.hid cj
  clear hq hD hE cj hj
  go_enter Try.func33, Try.ntmps33
  go_wp2_with fail
  refine HQ.out.mono ?_
  unfold Vals
  rintro e w1 ⟨A1, c1, rfl, hA, hH, hb1⟩
  go_wp2_with fail
  refine (CJ.out _ _ _ hA hH).mono ?_
  rintro e w2 ⟨rfl, hb2⟩
  by_cases h0 : (0 : Int) < (X.length : Int)
  all_goals
    go_wp2_with fail
    go_ret2
    exact ⟨by simp_all, below_then hb1 hb2⟩

end Go.Proofs.Ytmpgenflohdghaa
end

/-
  Contracts of package fields' Set, Same, Check.
-/
section
namespace Go.Proofs.Ytmpgenflohdghaa
open Go.RowKit

/-! ### Set -/
theorem set_place (L : List Fd) (f : Fd) : (idxP (fun x => sameB x.1 f.1) L = -1 ∧ fdSet L f = (fdDrop L [f.1.data.toList]).take (fdDrop L [f.1.data.toList]).length ++ [f] ++ (fdDrop L [f.1.data.toList]).drop (fdDrop L [f.1.data.toList]).length) ∨
    ∃ i : Nat, idxP (fun x => sameB x.1 f.1) L = i ∧ i ≤ (fdDrop L [f.1.data.toList]).length ∧ fdSet L f = (fdDrop L [f.1.data.toList]).take i ++ [f] ++ (fdDrop L [f.1.data.toList]).drop i := by
  have hD : fdDrop L [f.1.data.toList] = L.filter fun x => !sameB x.1 f.1 := by
    unfold fdDrop
    rw [nmd_one']
  rw [hD]
  rcases idxP_cases (fun x => sameB x.1 f.1) L with ⟨h1, h2⟩ | ⟨i, hi, h1, h2, h3⟩
  · refine .inl ⟨h1, ?_⟩
    rw [List.take_length, List.drop_length, List.append_nil]
    exact set_none f L h2
  · obtain ⟨h4, h5⟩ := set_at f L i hi h3 h2
    exact .inr ⟨i, h1, h4, h5⟩

end Go.Proofs.Ytmpgenflohdghaa
end

/-
  Contracts of the reference's Few, Line (layer 9).
-/
section
namespace Go.Proofs.Ytmpgenflohdghaa
open Go.RowKit

def okF (b : Nat) (x : Fd) : Bool := decide (x.1.size ≤ b) && decide (x.2.size ≤ b)
def fewB (L : List Fd) (m b : Nat) : Bool := (L.take (m + 1)).all (okF b) && decide (L.length ≤ m)
theorem few_bad {L : List Fd} {m b k : Nat} (hk : k < L.length) (hm : k ≤ m) (h : okF b L[k] = false) : fewB L m b = false := by
  unfold fewB
  have : (L.take (m + 1)).all (okF b) = false := by
    rw [List.all_eq_false]
    exact ⟨L[k], List.mem_take_iff_getElem.2 ⟨k, by omega, rfl⟩, by simp [h]⟩
  rw [this]; rfl
theorem few_all {L : List Fd} {m b k : Nat} (hk : L.length ≤ k) (h : (L.take k).all (okF b) = true) : fewB L m b = decide (L.length ≤ m) := by
  unfold fewB
  rw [List.take_of_length_le hk] at h
  have : (L.take (m + 1)).all (okF b) = true := by
    rw [List.all_eq_true] at h ⊢
    exact fun x hx => h x (List.mem_of_mem_take hx)
  rw [this, Bool.true_and]
theorem few_many {L : List Fd} {m b : Nat} (h : m < L.length) : fewB L m b = false := by
  unfold fewB
  rw [decide_eq_false (by omega), Bool.and_false]
/-- What the law's guard leaves. -/
theorem few_yes {L : List Fd} {m b : Nat} (h : fewB L m b = true) : L.length ≤ m ∧ ∀ x ∈ L, x.1.size ≤ b ∧ x.2.size ≤ b := by
  unfold fewB at h
  rw [Bool.and_eq_true, decide_eq_true_eq, List.all_eq_true] at h
  refine ⟨h.2, fun x hx => ?_⟩
  have := h.1 x (by rw [List.take_of_length_le (by omega)]; exact hx)
  simpa [okF] using this

theorem rf_few (A : Option Addr) (n c m b : Nat) (L : List Fd) (w : World) (h : SlF w A n c L) (hm : m ≤ 1000) :
    Calls Try.prog 7 #[.slice A n c, .int .i64 m, .int .i64 b] w fun e w' => e = .returned (.bool (fewB L m b)) ∧ w = w' := by
  have hlen := h.len
  subst hlen
  go_enter Try.func7, Try.ntmps7
  go_wp2_with fail
  go_loop [7] (fun i => ∃ k : Nat, k ≤ L.length ∧ k ≤ m + 1 ∧ i = .int .i64 k ∧ Hid ((L.take k).all (okF b) = true)) (fun i => L.length - (intOf i).toNat)
  case atStart => exact ⟨0, Nat.zero_le _, Nat.zero_le _, rfl, rfl⟩
  case round =>
    obtain ⟨k, hk, hkm, rfl, hf⟩ := hrel
    by_cases hlt : k < L.length
    · by_cases hle : k ≤ m
      · obtain ⟨ad, rfl, hc⟩ := h.at_ (by omega)
        obtain ⟨hc0, hc1⟩ := hc k L[k] (List.getElem?_eq_getElem hlt)
        have hcell1 := fd_snd hc1
        have HN : Hid (okF b L[k] = false → fewB L m b = false) := fun hh => few_bad hlt hle hh
        have HY : Hid (okF b L[k] = true → (L.take (k + 1)).all (okF b) = true) := fun hh => by
          rw [take_fd L k hlt, List.all_append, hf.out]; simp [hh]
        generalize L[k] = x at *
        obtain ⟨f, v⟩ := x
        have hi0 : (0 : Int) ≤ (k : Int) := by omega
        have hi1 : (k : Int) < (L.length : Int) := by omega
        have hi2 : (k : Int) ≤ (m : Int) := by omega
        clear hc hf
        by_cases h1 : (b : Int) < (f.size : Int)
        · have HR := Lib.hid (HN.out (by simp [okF]; omega))
          clear HN HY
          go_wp2_with fail
          go_ret
          exact ⟨by rw [HR.out]; rfl, rfl⟩
        · by_cases h2 : (b : Int) < (v.size : Int)
          · have HR := Lib.hid (HN.out (by simp [okF]; omega))
            clear HN HY
            go_wp2_with fail
            go_ret
            exact ⟨by rw [HR.out]; rfl, rfl⟩
          · have HR := Lib.hid (HY.out (by simp [okF]; omega))
            clear HN HY
            go_wp2_with fail
            go_round
            case rel => exact ⟨k + 1, by omega, by omega, by go_num, HR⟩
            case measure => simp [intOf]; omega
      · have hi1 : (k : Int) < (L.length : Int) := by omega
        have hi2 : ¬ (k : Int) ≤ (m : Int) := by omega
        have hi3 : ¬ (L.length : Int) ≤ (m : Int) := by omega
        have HR := Lib.hid (few_many (L := L) (m := m) (b := b) (by omega))
        clear hf
        go_wp2_with fail
        go_ret
        exact ⟨by rw [HR.out]; rfl, rfl⟩
    · have hi1 : ¬ (k : Int) < (L.length : Int) := by omega
      have HR := Lib.hid (few_all (L := L) (m := m) (b := b) (k := k) (by omega) hf.out)
      clear hf
      by_cases h3 : (L.length : Int) ≤ (m : Int)
      · have e : decide (L.length ≤ m) = true := decide_eq_true (by omega)
        rw [e] at HR
        clear e
        go_wp2_with fail
        go_ret
        exact ⟨by rw [HR.out]; rfl, rfl⟩
      · have e : decide (L.length ≤ m) = false := decide_eq_false (by omega)
        rw [e] at HR
        clear e
        go_wp2_with fail
        go_ret
        exact ⟨by rw [HR.out]; rfl, rfl⟩

end Go.Proofs.Ytmpgenflohdghaa
end

/-
  Contracts of the reference's All, Get, Has, Set (layer 9).
-/
section
namespace Go.Proofs.Ytmpgenflohdghaa
open Go.RowKit

set_option maxHeartbeats 4000000 in
set_option maxRecDepth 100000 in
theorem rf_all (A : Option Addr) (n c : Nat) (L : List Fd) (name : ByteArray) (w : World) (h : SlF w A n c L) (hn : n ≤ 100000000) (hz : name.size ≤ maxLen) :
    Calls Try.prog 27 #[.slice A n c, .string name] w (Vals w (fdAll L name)) := by
  have hlen := h.len
  subst hlen
  have hD : fdAll L name = (L.filter fun x => sameB x.1 name).map fun x => x.2.data.toList := rfl
  rw [hD]
  go_enter Try.func27, Try.ntmps27
  go_wp2_with fail
  go_loopw [5, 6] (fun v i wr => ∃ k : Nat, k ≤ L.length ∧ i = .int .i64 k ∧ Hid (OwnS wr w.heap.size 9 v (((L.take k).filter fun x => sameB x.1 name).map fun x => x.2.data.toList)) ∧ Below w.heap.size w wr) (fun _ i _ => L.length - (intOf i).toNat)
  case atStart => exact ⟨0, Nat.zero_le _, rfl, OwnS.nil _ _ _, Below.refl _ _⟩
  case round =>
    obtain ⟨k, hk, rfl, hown, hbel⟩ := hrel
    by_cases hlt : k < L.length
    · obtain ⟨ad, rfl, hc⟩ := h.at_ (by omega)
      obtain ⟨hc0, hc1⟩ := hc k L[k] (List.getElem?_eq_getElem hlt)
      have hcell0 := cell_kept hbel hc0
      have hc1' := fd_snd hc1
      have hz1 := (h.sz _ (List.getElem_mem hlt)).1
      have hlx : (((L.take k).filter fun x => sameB x.1 name).map fun x => x.2.data.toList).length ≤ k := by
        rw [List.length_map]
        exact Nat.le_trans (List.length_filter_le _ _) (by rw [List.length_take]; omega)
      have HF := filter_snoc (fun x => sameB x.1 name) (L.take k) L[k]
      rw [← take_fd L k hlt] at HF
      generalize L[k] = x at *
      obtain ⟨a, b⟩ := x
      have hi0 : (0 : Int) ≤ (k : Int) := by omega
      have hi1 : (k : Int) < (L.length : Int) := by omega
      have hs4 := hbel.size
      cases hsm : sameB a name with
      | true =>
        have HS : Hid (((L.take (k + 1)).filter fun x => sameB x.1 name).map (fun x => x.2.data.toList) = ((L.take k).filter fun x => sameB x.1 name).map (fun x => x.2.data.toList) ++ [b.data.toList]) := by
          show _ = _
          rw [HF, if_pos hsm, List.map_append]; rfl
        generalize hX : (((L.take k).filter fun x => sameB x.1 name).map fun x => x.2.data.toList) = X at *
        have HSM := Lib.hid hsm
        clear hc hc0 hc1 hX HF hsm
        go_wp2_with fail
        refine (r_same a name _ hz1 hz).mono ?_
        rintro e w1 ⟨he, hb1⟩
        rw [HSM.out] at he
        subst he
        have hcell1 := cell_kept (hbel.trans (hb1.mono hs4)) hc1'
        have HO := Lib.hid (hown.out.below hb1)
        have HB := Lib.hid (hbel.trans (hb1.mono hs4))
        have hs5 := HB.out.size
        clear hb1 hown
        go_wp2_with (at_builtin; refine wpList_append_sls rfl _ _ _ rfl w.heap.size 9 Try.underlying25 (by kernel_rfl) _ rfl X (HO.out.alloc _) _ _ _ rfl [b.data.toList] (SlS.textAt _ _ b rfl) (by simp; omega) (by simp; omega) w (HB.out.alloc hs5 _) ?_; intro v1 w2 ho2 hb2 hz2)
        go_roundw
        case rel => exact ⟨k + 1, by omega, by go_num, by show OwnS _ _ _ _ _; rw [HS.out]; exact ho2.out, hb2⟩
        case measure => simp [intOf]; omega
      | false =>
        have HS : Hid (((L.take (k + 1)).filter fun x => sameB x.1 name).map (fun x => x.2.data.toList) = ((L.take k).filter fun x => sameB x.1 name).map (fun x => x.2.data.toList)) := by
          show _ = _
          rw [HF, if_neg (by simp [hsm])]
        have HSM := Lib.hid hsm
        clear hc hc0 hc1 HF hsm hlx
        go_wp2_with fail
        refine (r_same a name _ hz1 hz).mono ?_
        rintro e w1 ⟨he, hb1⟩
        rw [HSM.out] at he
        subst he
        go_wp2_with fail
        go_roundw
        case rel => exact ⟨k + 1, by omega, by go_num, by show OwnS _ _ _ _ _; rw [HS.out]; exact hown.out.below hb1, hbel.trans (hb1.mono hs4)⟩
        case measure => simp [intOf]; omega
    · have HE : Hid (((L.take k).filter fun x => sameB x.1 name).map (fun x => x.2.data.toList) = (L.filter fun x => sameB x.1 name).map fun x => x.2.data.toList) := by
        show _ = _
        rw [List.take_of_length_le (by omega)]
      rw [HE.out] at hown
      go_wp2_with fail
      go_ret
      obtain ⟨A2, c2, rfl, hA, hH⟩ := hown.out.sls
      exact ⟨A2, c2, rfl, hA, hH, hbel⟩

/-! ### Set -/
theorem setR_drop (f : Fd) (L : List Fd) (k : Nat) (h : k < L.length) (b : Bool) : setR f b (L.drop k) = if sameB L[k].1 f.1 then (if b then setR f true (L.drop (k + 1)) else f :: setR f true (L.drop (k + 1))) else L[k] :: setR f b (L.drop (k + 1)) := by
  rw [List.drop_eq_getElem_cons h]; rfl

end Go.Proofs.Ytmpgenflohdghaa
end

/-
  Contracts of the reference's put, Names (layer 15).
-/
section
namespace Go.Proofs.Ytmpgenflohdghaa
open Go.RowKit
set_option linter.unusedSimpArgs false

theorem put_step (s : List UInt8) (L : List (List UInt8)) (k : Nat) (h : k < L.length) : putL s (L.drop k) = if lesL L[k] s then L[k] :: putL s (L.drop (k + 1)) else if L[k] = s then L[k] :: L.drop (k + 1) else s :: L[k] :: L.drop (k + 1) := by
  rw [List.drop_eq_getElem_cons h]; rfl
theorem put_len (s : List UInt8) : ∀ L : List (List UInt8), (putL s L).length ≤ L.length + 1
  | [] => Nat.le_refl _
  | x :: r => by
    have := put_len s r
    unfold putL
    repeat' split
    all_goals simp only [List.length_cons]; omega
theorem put_mem (s : List UInt8) : ∀ (L : List (List UInt8)) (x : List UInt8), x ∈ putL s L → x = s ∨ x ∈ L
  | [], x, h => .inl (by simpa [putL] using h)
  | y :: r, x, h => by
    unfold putL at h
    split at h
    · rw [List.mem_cons] at h
      rcases h with rfl | h
      · exact .inr (List.mem_cons_self ..)
      · exact (put_mem s r x h).imp_right fun g => List.mem_cons_of_mem _ g
    · split at h
      · exact .inr h
      · rw [List.mem_cons] at h
        exact h
theorem ownS_wide {w : World} {base base' e : Nat} {v : Value} {X : List (List UInt8)} (h : OwnS w base e v X) (hb : base' ≤ base) : OwnS w base' e v X := by
  refine ⟨h.1, ?_⟩
  rcases h.2 with h2 | ⟨g, cap, cur, h1, h2, h3⟩
  · exact .inl h2
  · exact .inr ⟨g, cap, cur, h1, by omega, h3⟩

set_option maxHeartbeats 16000000 in
set_option maxRecDepth 100000 in
theorem r_put (A : Option Addr) (n c : Nat) (L : List (List UInt8)) (s : ByteArray) (w : World) (h : SlS w A n c L) (hn : n ≤ 100000000) (hz : ∀ x ∈ L, x.length ≤ 100000000) (hs : s.size ≤ 100000000) :
    Calls Try.prog 30 #[.slice A n c, .string s] w fun e w' => ∃ v, e = .returned v ∧ OwnS w' w.heap.size 9 v (putL s.data.toList L) ∧ Below w.heap.size w w' := by
  have hlen := h.len
  subst hlen
  generalize hD : putL s.data.toList L = D
  have HD := Lib.hid hD
  clear hD
  go_enter Try.func30, Try.ntmps30
  go_wp2_with fail
  go_loopw [5, 6, 7] (fun v q i wr => ∃ (k : Nat) (b : Bool) (X : List (List UInt8)), k ≤ L.length ∧ X.length ≤ k + (if b then 1 else 0) ∧ q = .bool b ∧ i = .int .i64 k ∧ Hid (OwnS wr w.heap.size 9 v X) ∧ Hid (D = X ++ (if b then L.drop k else putL s.data.toList (L.drop k))) ∧ Hid (Below w.heap.size w wr)) (fun _ _ i _ => L.length - (intOf i).toNat)
  case atStart => exact ⟨0, false, [], Nat.zero_le _, Nat.zero_le _, rfl, rfl, OwnS.nil _ _ _, HD.out.symm, Below.refl _ _⟩
  case round =>
    obtain ⟨k, b, X, hk, hX, rfl, rfl, HO, hf, HB⟩ := hrel
    have hX2 : X.length ≤ k + 1 := by split at hX <;> omega
    by_cases hlt : k < L.length
    · obtain ⟨ad, rfl, hc⟩ := h.at_ (by omega)
      have hcw := hc k L[k] (List.getElem?_eq_getElem hlt)
      have hcell := cell_kept HB.out hcw
      have hi0 : (0 : Int) ≤ (k : Int) := by omega
      have hi1 : (k : Int) < (L.length : Int) := by omega
      have hst := put_step s.data.toList L k hlt
      have hdr : L.drop k = L[k] :: L.drop (k + 1) := List.drop_eq_getElem_cons hlt
      have hxs := hz _ (List.getElem_mem hlt)
      have hms : (mkS L[k]).size ≤ 100000000 := by rw [mkS_size]; exact hxs
      have CB := Lib.hid (fun W => r_before (mkS L[k]) s hms hs W)
      rw [mkS_list] at CB
      generalize hx : L[k] = x at *
      have hmk : (mkS x).data.toList = x := mkS_list x
      obtain ⟨y, hy⟩ : ∃ y, mkS x = y := ⟨_, rfl⟩
      rw [hy] at hcell hcw CB hmk
      have HCW := Lib.hid hcw
      clear hcw
      have hyl : x = y.data.toList := hmk.symm
      clear hc hx hy hmk hms hxs
      subst hyl
      cases b with
      | true =>
        have HN : Hid (D = (X ++ [y.data.toList]) ++ (if true then L.drop (k + 1) else putL s.data.toList (L.drop (k + 1)))) := by
          show _ = _
          rw [hf.out, if_pos rfl, if_pos rfl, hdr]; simp
        clear hf hst hdr
        go_wp2_with (at_builtin; refine wpList_append_sls rfl _ _ _ rfl w.heap.size 9 Try.underlying25 (by kernel_rfl) _ rfl X (HO.out.alloc _) _ _ _ rfl [(y).data.toList] (SlS.text _ _ _) (by simp; omega) (by simp; have := HB.out.size; omega) w (HB.out.alloc HB.out.size _) ?_; intro v1 w1 ho1 hb1 hz1)
        go_roundw
        case rel => exact ⟨k + 1, true, X ++ [y.data.toList], by omega, by simp at hX ⊢; omega, rfl, by go_num, ho1, HN, hb1⟩
        case measure => simp [intOf]; omega
      | false =>
        cases hq : lesL y.data.toList s.data.toList with
        | true =>
          have HN : Hid (D = (X ++ [y.data.toList]) ++ (if false then L.drop (k + 1) else putL s.data.toList (L.drop (k + 1)))) := by
            show _ = _
            rw [hf.out, if_neg (by decide), if_neg (by decide), hst, if_pos hq]; simp
          rw [hq] at CB
          clear hf hst hdr hq
          go_wp2_with fail
          refine (CB.out _).mono ?_
          rintro e w0 ⟨rfl, hb⟩
          have HO := Lib.hid (HO.out.below hb)
          have HB := Lib.hid (below_then HB.out hb)
          have hcell := cell_kept hb hcell
          clear hb
          go_wp2_with (at_builtin; refine wpList_append_sls rfl _ _ _ rfl w.heap.size 9 Try.underlying25 (by kernel_rfl) _ rfl X (HO.out.alloc _) _ _ _ rfl [(y).data.toList] (SlS.text _ _ _) (by simp; omega) (by simp; have := HB.out.size; omega) w (HB.out.alloc HB.out.size _) ?_; intro v1 w1 ho1 hb1 hz1)
          go_roundw
          case rel => exact ⟨k + 1, false, X ++ [y.data.toList], by omega, by simp at hX ⊢; omega, rfl, by go_num, ho1, HN, hb1⟩
          case measure => simp [intOf]; omega
        | false =>
          rw [hq] at CB
          by_cases he : y.data.toList = s.data.toList
          · have HN : Hid (D = (X ++ [y.data.toList]) ++ (if true then L.drop (k + 1) else putL s.data.toList (L.drop (k + 1)))) := by
              show _ = _
              rw [hf.out, if_neg (by decide), if_pos rfl, hst, if_neg (by rw [hq]; decide), if_pos he]; simp
            have hne : (y.toList == s.toList) = true := by rw [Lib.toList_data, Lib.toList_data, he]; simp
            have hne2 : (y.toList != s.toList) = false := by rw [bne, hne]; rfl
            clear hf hst hdr hq he
            go_wp2_with fail
            refine (CB.out _).mono ?_
            rintro e w0 ⟨rfl, hb⟩
            have HO := Lib.hid (HO.out.below hb)
            have HB := Lib.hid (below_then HB.out hb)
            have hcell := cell_kept hb hcell
            clear hb
            go_wp2_with (at_builtin; refine wpList_append_sls rfl _ _ _ rfl w.heap.size 9 Try.underlying25 (by kernel_rfl) _ rfl X (HO.out.alloc _) _ _ _ rfl [(y).data.toList] (SlS.text _ _ _) (by simp; omega) (by simp; have := HB.out.size; omega) w (HB.out.alloc HB.out.size _) ?_; intro v1 w1 ho1 hb1 hz1)
            go_roundw
            case rel => exact ⟨k + 1, true, X ++ [y.data.toList], by omega, by simp at hX ⊢; omega, rfl, by go_num, ho1, HN, hb1⟩
            case measure => simp [intOf]; omega
          · have HN : Hid (D = ((X ++ [s.data.toList]) ++ [y.data.toList]) ++ (if true then L.drop (k + 1) else putL s.data.toList (L.drop (k + 1)))) := by
              show _ = _
              rw [hf.out, if_neg (by decide), if_pos rfl, hst, if_neg (by rw [hq]; decide), if_neg he]; simp
            have hne : (y.toList == s.toList) = false := by
              rw [Lib.toList_data, Lib.toList_data, beq_eq_false_iff_ne]
              exact he
            have hne2 : (y.toList != s.toList) = true := by rw [bne, hne]; rfl
            clear hf hst hdr hq he
            go_wp2_with fail
            refine (CB.out _).mono ?_
            rintro e w0 ⟨rfl, hb⟩
            have HO := Lib.hid (HO.out.below hb)
            have HB := Lib.hid (below_then HB.out hb)
            have hcell := cell_kept hb hcell
            clear hb
            go_wp2_with (first
              | (at_builtin; refine wpList_append_sls rfl _ _ _ rfl w.heap.size 9 Try.underlying25 (by kernel_rfl) _ rfl X (HO.out.alloc _) _ _ _ rfl [(s).data.toList] (SlS.text _ _ _) (by simp; omega) (by simp; have := HB.out.size; omega) w (HB.out.alloc HB.out.size _) ?_; intro v1 w1 ho1 hb1 hz1; have hcell := cell_kept hb1 HCW.out)
              | (at_builtin; refine wpList_append_sls rfl _ _ _ rfl w.heap.size 9 Try.underlying25 (by kernel_rfl) _ rfl (X ++ [s.data.toList]) (ho1.out.alloc _) _ _ _ rfl [(y).data.toList] (SlS.text _ _ _) (by simp; omega) (by simp; have := hb1.size; omega) w (hb1.alloc hb1.size _) ?_; intro v2 w2 ho2 hb2 hz2))
            go_roundw
            case rel => exact ⟨k + 1, true, (X ++ [s.data.toList]) ++ [y.data.toList], by omega, by simp at hX ⊢; omega, rfl, by go_num, ho2, HN, hb2⟩
            case measure => simp [intOf]; omega
    · have hlast : L.drop k = [] := List.drop_eq_nil_of_le (by omega)
      have hi1 : ¬ (k : Int) < (L.length : Int) := by omega
      cases b with
      | true =>
        have HN : Hid (X = D) := by show _ = _; rw [hf.out, if_pos rfl, hlast]; simp
        clear hf
        go_wp2_with fail
        go_ret
        exact ⟨_, rfl, by show OwnS _ _ _ _ _; rw [← HN.out]; exact HO.out, HB.out⟩
      | false =>
        have HN : Hid (X ++ [s.data.toList] = D) := by show _ = _; rw [hf.out, if_neg (by decide), hlast]; rfl
        clear hf
        go_wp2_with (at_builtin; refine wpList_append_sls rfl _ _ _ rfl w.heap.size 9 Try.underlying25 (by kernel_rfl) _ rfl X (HO.out.alloc _) _ _ _ rfl [(s).data.toList] (SlS.text _ _ _) (by simp; omega) (by simp; have := HB.out.size; omega) w (HB.out.alloc HB.out.size _) ?_; intro v1 w1 ho1 hb1 hz1)
        go_ret
        exact ⟨_, rfl, by show OwnS _ _ _ _ _; rw [← HN.out]; exact ho1.out, hb1⟩

theorem nme_step (out : List (List UInt8)) (E : List (List UInt8)) (j : Nat) (h : j < E.length) : nmE out (E.drop j) = if E[j] = [42] ∨ (E[j].isEmpty || !allB tokB E[j]) then none else nmE (putL (lowL E[j]) out) (E.drop (j + 1)) := by
  rw [List.drop_eq_getElem_cons h]; rfl
theorem nmv_step (out : List (List UInt8)) (V : List (List UInt8)) (k : Nat) (h : k < V.length) : nmV out (V.drop k) = match splitL V[k] with | none => none | some E => match nmE out E with | none => none | some o => nmV o (V.drop (k + 1)) := by
  rw [List.drop_eq_getElem_cons h]; rfl
theorem low_len (l : List UInt8) : (lowL l).length = l.length := by simp [lowL]
/-- What Names answers. -/
def IsNm (w : World) (L : List (List UInt8)) (ok : Bool) (e : Ending) (w' : World) : Prop := ∃ A c, e = .returned (.tuple #[.slice A L.length c, .bool ok]) ∧ SlS w' A L.length c L ∧ Head w' A ∧ Below w.heap.size w w'

set_option maxHeartbeats 16000000 in
set_option maxRecDepth 100000 in
theorem r_names_w (A : Option Addr) (n c : Nat) (L : List Fd) (w : World) (h : SlF w A n c L) (hn : n ≤ 1000) (hB : ∀ x ∈ L, x.2.size ≤ 10000) :
    Calls Try.prog 10 #[.slice A n c] w (IsNm w (namL L) (namB L)) := by
  have C1 := Lib.hid (rf_all A n c L vaS w h (by omega) (by decide))
  have hD : namO L = nmV [] (fdAll L vaS) := rfl
  have hL : namL L = (namO L).getD [] := rfl
  have hO : namB L = (namO L).isSome := rfl
  have hVl : (fdAll L vaS).length ≤ 1000 := by
    have h1 : (fdAll L vaS).length ≤ L.length := by unfold fdAll; rw [List.length_map]; exact List.length_filter_le _ _
    have := h.len
    omega
  have hVs : ∀ x ∈ fdAll L vaS, x.length ≤ 10000 := fun x hx => by
    unfold fdAll at hx
    obtain ⟨y, hy, rfl⟩ := List.mem_map.1 hx
    rw [← Lib.size_eq]
    exact hB y (List.mem_filter.1 hy).1
  unfold Vals at C1
  generalize fdAll L vaS = V at *
  unfold vaS at C1
  generalize namO L = O at *
  rw [hL, hO]
  have HD := Lib.hid hD
  have HVS := Lib.hid hVs
  clear hD hL hO h hB hVs
  have none_ret : ∀ wr : World, O = none → Below w.heap.size w wr → IsNm w (O.getD []) O.isSome (.returned (.tuple #[.slice none 0 0, .bool false])) wr := fun wr e hb => by
    subst e
    exact ⟨none, 0, rfl, SlS.none_ _, Head.none_ _, hb⟩
  have HNR := Lib.hid none_ret
  clear none_ret
  go_enter Try.func10, Try.ntmps10
  go_wp2_with fail
  refine C1.out.mono ?_
  rintro e w1 ⟨A1, c1, rfl, hS, _, hb⟩
  have HS := Lib.hid hS
  have HB1 := Lib.hid hb
  clear hS hb
  go_wp2_with fail
  go_loopw [4, 6] (fun v i wr => ∃ (k : Nat) (X : List (List UInt8)), k ≤ V.length ∧ X.length ≤ k * 10001 ∧ i = .int .i64 k ∧ Hid (OwnS wr w.heap.size 9 v X) ∧ Hid (∀ x ∈ X, x.length ≤ 10000) ∧ Hid (O = nmV X (V.drop k)) ∧ Hid (SlS wr A1 V.length c1 V) ∧ Hid (Below w.heap.size w wr)) (fun _ i _ => V.length - (intOf i).toNat)
  case atStart => exact ⟨0, [], Nat.zero_le _, Nat.zero_le _, rfl, OwnS.nil _ _ _, (fun _ h => absurd h (by simp)), HD.out, HS.out, HB1.out⟩
  case round =>
    clear HS HB1 HD
    obtain ⟨k, X, hk, hX, rfl, HO, HX, hf, HS, HB⟩ := hrel
    by_cases hlt : k < V.length
    · obtain ⟨ad, rfl, hc⟩ := HS.out.at_ (by omega)
      have hcell := hc k V[k] (List.getElem?_eq_getElem hlt)
      have hi0 : (0 : Int) ≤ (k : Int) := by omega
      have hi1 : (k : Int) < (V.length : Int) := by omega
      have hst := nmv_step X V k hlt
      have hvs := HVS.out _ (List.getElem_mem hlt)
      have CS := Lib.hid (fun W => r_split (mkS V[k]) W (by rw [mkS_size]; omega))
      rw [mkS_list] at CS
      generalize hv : V[k] = v at *
      clear hc hv
      cases hsp : splitL v with
      | none =>
        have hON : O = none := by rw [hf.out, hst, hsp]
        rw [(spl_bad v hsp).1, (spl_bad v hsp).2] at CS
        have HON := Lib.hid hON
        clear hf hst hsp hvs hON
        unfold Strs2 at CS
        go_wp2_with fail
        refine (CS.out _).mono ?_
        rintro e w2 ⟨A2, c2, rfl, _, _, hb⟩
        have HB := Lib.hid (below_then HB.out hb)
        clear hb
        go_wp2_with fail
        go_ret2
        exact HNR.out _ HON.out HB.out
      | some E =>
        have hgd := split_good hsp
        have hfe : O = match nmE X E with | none => none | some o => nmV o (V.drop (k + 1)) := by rw [hf.out, hst, hsp]
        rw [(spl_out v E hsp).1, (spl_out v E hsp).2] at CS
        have hEl : E.length ≤ 10001 := by have := hgd.2; omega
        have HES : Hid (∀ x ∈ E, x.length ≤ 10000) := fun x hx => by have := (hgd.1 x hx).2; omega
        have HFE := Lib.hid hfe
        clear hf hst hsp hvs hgd hfe
        unfold Strs2 at CS
        go_wp2_with fail
        refine (CS.out _).mono ?_
        rintro e w2 ⟨A2, c2, rfl, hE, _, hb⟩
        have HE := Lib.hid hE
        have HO := Lib.hid (HO.out.below hb)
        have HS := Lib.hid (HS.out.below hb)
        have HB := Lib.hid (below_then HB.out hb)
        clear hb hE hcell
        go_wp2_with fail
        go_loopw [4, 9] (fun v i wr => ∃ (j : Nat) (Y : List (List UInt8)), j ≤ E.length ∧ Y.length ≤ k * 10001 + j ∧ i = .int .i64 j ∧ Hid (OwnS wr w.heap.size 9 v Y) ∧ Hid (∀ x ∈ Y, x.length ≤ 10000) ∧ Hid (O = match nmE Y (E.drop j) with | none => none | some o => nmV o (V.drop (k + 1))) ∧ Hid (SlS wr A2 E.length c2 E) ∧ Hid (SlS wr (some ad) V.length c1 V) ∧ Hid (Below w.heap.size w wr)) (fun _ i _ => E.length - (intOf i).toNat)
        case atStart => exact ⟨0, X, Nat.zero_le _, hX, rfl, HO.out, HX.out, HFE.out, HE.out, HS.out, HB.out⟩
        case round =>
          clear HO HX HFE HE HS HB
          obtain ⟨j, Y, hj, hY, rfl, HO, HX, hf, HE, HS, HB⟩ := hrel
          by_cases hjl : j < E.length
          · obtain ⟨bd, rfl, hd⟩ := HE.out.at_ (by omega)
            have hcell := hd j E[j] (List.getElem?_eq_getElem hjl)
            have hj0 : (0 : Int) ≤ (j : Int) := by omega
            have hj1 : (j : Int) < (E.length : Int) := by omega
            have hst := nme_step Y E j hjl
            have hes := HES.out _ (List.getElem_mem hjl)
            generalize hv : E[j] = v at *
            have hms : (mkS v).size ≤ 10000 := by rw [mkS_size]; exact hes
            have hle : (mkS v).size ≤ maxLen := Nat.le_trans hms (by decide)
            have CT := Lib.hid (fun W => r_isToken (mkS v) W hle)
            have hemp : (mkS v).toList.isEmpty = v.isEmpty := by rw [Lib.toList_data, mkS_list]
            rw [mkS_list, hemp] at CT
            have CL := Lib.hid (fun W => r_lower (mkS v) W hle)
            rw [mkS_list] at CL
            have h42 : ((mkS v).toList == [42]) = (v == [42]) := by rw [Lib.toList_data, mkS_list]
            obtain ⟨A3, c3, hv3, hSY, _⟩ := HO.out.sls
            subst hv3
            have CP := Lib.hid (fun W (hW : SlS W A3 Y.length c3 Y) => r_put A3 Y.length c3 Y (mkS (lowL v)) W hW (by have : V.length ≤ 1000 := hVl; have := Nat.mul_le_mul_right 10001 (show k ≤ 1000 by omega); omega) (fun x hx => by have := HX.out x hx; omega) (by rw [mkS_size, low_len]; omega))
            rw [mkS_list] at CP
            have HSY := Lib.hid hSY
            have HPL : Hid ((putL (lowL v) Y).length ≤ k * 10001 + (j + 1)) := by show _ ≤ _; have := put_len (lowL v) Y; omega
            have HPM : Hid (∀ x ∈ putL (lowL v) Y, x.length ≤ 10000) := fun x hx => by
              rcases put_mem _ _ _ hx with rfl | hx
              · rw [low_len]; exact hes
              · exact HX.out x hx
            clear hd hv hms hle hemp hSY hes
            cases hq : (v == [42]) with
            | true =>
              rw [hq] at h42
              have hON : O = none := by rw [hf.out, hst, if_pos (.inl (by simpa using hq))]
              have HON := Lib.hid hON
              clear hf hst hON hq CT CL CP
              go_wp2_with fail
              go_ret2
              exact HNR.out _ HON.out HB.out
            | false =>
              rw [hq] at h42
              have hq2 : ¬ v = [42] := by simpa using hq
              cases ht : (!v.isEmpty && allB tokB v) with
              | false =>
                have hON : O = none := by
                  have : (v.isEmpty || !allB tokB v) = true := by
                    revert ht
                    cases v.isEmpty <;> cases allB tokB v <;> simp
                  rw [hf.out, hst, if_pos (.inr this)]
                have HON := Lib.hid hON
                rw [ht] at CT
                clear hf hst hON hq ht CL CP hq2
                go_wp2_with fail
                refine (CT.out _).mono ?_
                rintro e w3 ⟨rfl, rfl⟩
                go_wp2_with fail
                go_ret2
                exact HNR.out _ HON.out HB.out
              | true =>
                have HN : Hid (O = match nmE (putL (lowL v) Y) (E.drop (j + 1)) with | none => none | some o => nmV o (V.drop (k + 1))) := by
                  have : ¬ (v.isEmpty || !allB tokB v) = true := by
                    revert ht
                    cases v.isEmpty <;> cases allB tokB v <;> simp
                  show _ = _
                  rw [hf.out, hst, if_neg (by rintro (e | e); exact hq2 e; exact this e)]
                rw [ht] at CT
                clear hf hst hq ht hq2
                generalize mkS (lowL v) = lv at *
                generalize mkS v = vv at *
                go_wp2_with fail
                refine (CT.out _).mono ?_
                rintro e w3 ⟨rfl, rfl⟩
                go_wp2_with fail
                refine (CL.out _).mono ?_
                rintro e w4 ⟨rfl, hb⟩
                have HSY := Lib.hid (HSY.out.below hb)
                have HE := Lib.hid (HE.out.below hb)
                have HS := Lib.hid (HS.out.below hb)
                have HB := Lib.hid (below_then HB.out hb)
                clear hb hcell HO
                go_wp2_with fail
                refine (CP.out _ HSY.out).mono ?_
                rintro e w5 ⟨v5, rfl, ho, hb⟩
                have HO := Lib.hid (ownS_wide ho HB.out.size)
                have HE := Lib.hid (HE.out.below hb)
                have HS := Lib.hid (HS.out.below hb)
                have HB := Lib.hid (below_then HB.out hb)
                clear hb ho HSY
                go_wp2_with fail
                go_roundw
                case rel => exact ⟨j + 1, _, by omega, HPL.out, by go_num, HO.out, HPM.out, HN, HE.out, HS.out, HB.out⟩
                case measure => simp [intOf]; omega
          · have hj1 : ¬ (j : Int) < (E.length : Int) := by omega
            have HN : Hid (O = nmV Y (V.drop (k + 1))) := by
              show _ = _
              rw [hf.out, List.drop_eq_nil_of_le (by omega)]; rfl
            clear hf
            go_wp2_with fail
            go_roundw
            case rel => exact ⟨k + 1, Y, by omega, by have := hEl; rw [Nat.add_mul]; omega, by go_num, HO.out, HX.out, HN, HS.out, HB.out⟩
            case measure => simp [intOf]; omega
    · have hON : O = some X := by rw [hf.out, List.drop_eq_nil_of_le (by omega)]; rfl
      have hi1 : ¬ (k : Int) < (V.length : Int) := by omega
      have HON := Lib.hid hON
      obtain ⟨A3, c3, hv3, hSY, hH⟩ := HO.out.sls
      subst hv3
      have HSY := Lib.hid hSY
      have HH := Lib.hid hH
      clear hf hON hSY hH
      go_wp2_with fail
      go_ret2
      show IsNm _ _ _ _ _
      rw [HON.out]
      exact ⟨A3, c3, rfl, HSY.out, HH.out, HB.out⟩

theorem r_names (A : Option Addr) (n c : Nat) (L : List Fd) (w : World) (h : SlF w A n c L) (hn : n ≤ 1000) (hB : ∀ x ∈ L, x.2.size ≤ 1000) :
    Calls Try.prog 10 #[.slice A n c] w (IsNm w (namL L) (namB L)) :=
  r_names_w A n c L w h hn fun x hx => Nat.le_trans (hB x hx) (by decide)

end Go.Proofs.Ytmpgenflohdghaa
end

/-
  Contracts of the reference's Same, Picks, Match, Few, FewNames (layer 15).
-/
section
namespace Go.Proofs.Ytmpgenflohdghaa
open Go.RowKit
set_option linter.unusedSimpArgs false

theorem pk_at1 {w : World} {ad : Addr} {m : Nat} {v : Value} (h : w.cell? (ad.add (m + 1)) = some v) : w.cell? { block := (ad.add m).block, off := (ad.add m).off + 1 } = some v := by
  rw [← Go.Addr.add_add] at h
  rwa [Addr.add_succ'] at h
theorem pk_at2 {w : World} {ad : Addr} {m : Nat} {v : Value} (h : w.cell? (ad.add (m + 2)) = some v) : w.cell? { block := (ad.add m).block, off := (ad.add m).off + 2 } = some v := by
  rw [← Go.Addr.add_add, show (2 : Nat) = 1 + 1 from rfl] at h
  rwa [Addr.add_succ'] at h
theorem pksB_len : ∀ (L M : List Pk), L.length ≠ M.length → pksB L M = false
  | [], [], h => absurd rfl h
  | [], _ :: _, _ => rfl
  | _ :: _, [], _ => rfl
  | x :: a, y :: b, h => by
    unfold pksB
    rw [pksB_len a b (fun e => h (by simp [e]))]; simp
theorem pksB_drop (L M : List Pk) (k : Nat) (h : k < L.length) (g : k < M.length) : pksB (L.drop k) (M.drop k) = (pkE L[k] M[k] && pksB (L.drop (k + 1)) (M.drop (k + 1))) := by
  rw [List.drop_eq_getElem_cons h, List.drop_eq_getElem_cons g]; rfl
theorem pkE_refl (x : Pk) : pkE x x = true := by simp [pkE]
theorem pksB_refl : ∀ L : List Pk, pksB L L = true
  | [] => rfl
  | x :: L => by unfold pksB; rw [pkE_refl, pksB_refl L]; rfl

set_option maxHeartbeats 8000000 in
set_option maxRecDepth 100000 in
theorem r_pkSame (A B : Option Addr) (n c m d : Nat) (L M : List Pk) (w : World) (h : SlK w A n c L) (h' : SlK w B m d M) (hn : n ≤ 100000000) :
    Calls Try.prog 14 #[.slice A n c, .slice B m d] w fun e w' => e = .returned (.bool (pksB L M)) ∧ Below w.heap.size w w' := by
  have hlen := h.len
  have hlem := h'.len
  subst hlen hlem
  by_cases hl : L.length = M.length
  · have hlb : ((L.length : Int) == (M.length : Int)) = true := by rw [hl]; simp
    have hlc : ((L.length : Int) != (M.length : Int)) = false := by rw [hl]; simp
    have HLM := Lib.hid hl
    clear hl
    go_enter Try.func14, Try.ntmps14
    go_wp2_with fail
    go_loopw [5] (fun i wr => ∃ k : Nat, k ≤ L.length ∧ i = .int .i64 k ∧ Hid (pksB L M = pksB (L.drop k) (M.drop k)) ∧ Below w.heap.size w wr) (fun i _ => L.length - (intOf i).toNat)
    case atStart => exact ⟨0, Nat.zero_le _, rfl, rfl, Below.refl _ _⟩
    case round =>
      obtain ⟨k, hk, rfl, hf, hbel⟩ := hrel
      by_cases hlt : k < L.length
      · have hlt2 : k < M.length := by have := HLM.out; omega
        obtain ⟨ad, rfl, hc⟩ := h.at_ (by omega)
        obtain ⟨bd, rfl, hd⟩ := h'.at_ (by omega)
        obtain ⟨hc0, hc1, hc2⟩ := hc k L[k] (List.getElem?_eq_getElem hlt)
        obtain ⟨hd0, hd1, hd2⟩ := hd k M[k] (List.getElem?_eq_getElem hlt2)
        have HS := Lib.hid (pksB_drop L M k hlt hlt2)
        generalize L[k] = x at *
        generalize M[k] = y at *
        obtain ⟨xn, xh, xv⟩ := x
        obtain ⟨yn, yh, yv⟩ := y
        have HC0 := Lib.hid (cell_kept hbel.drew hc0)
        have HC1 := Lib.hid (pk_at1 (cell_kept hbel.drew hc1))
        have HC2 := Lib.hid (pk_at2 (cell_kept hbel.drew hc2))
        have HD0 := Lib.hid (cell_kept hbel.drew hd0)
        have HD1 := Lib.hid (pk_at1 (cell_kept hbel.drew hd1))
        have HD2 := Lib.hid (pk_at2 (cell_kept hbel.drew hd2))
        have hA : pkE ⟨xn, xh, xv⟩ ⟨yn, yh, yv⟩ = ((xn.toList == yn.toList) && (xh == yh) && (xv.toList == yv.toList)) := rfl
        rw [hA] at HS
        have hi0 : (0 : Int) ≤ (k : Int) := by omega
        have hi1 : (k : Int) < (L.length : Int) := by omega
        have hi2 : (k : Int) < (M.length : Int) := by omega
        have hbel := hbel.drew
        clear hc hd hc0 hc1 hc2 hd0 hd1 hd2 hA
        have both : ∀ t : Bool, t = true ∨ t = false := fun t => by cases t <;> simp
        cases xh with
        | true =>
          cases yh with
          | true =>
            rcases both (xn.toList == yn.toList) with hT | hT
            · rcases both (xv.toList == yv.toList) with hS | hS
              · have HR : Hid (pksB L M = pksB (L.drop (k + 1)) (M.drop (k + 1))) := by
                  show _ = _
                  rw [hf.out, HS.out, hS, hT]; simp
                clear HS hf
                go_wp2_with fail
                go_region_held3 (fun W => W.cell? (ad.add (k * 3)) = some (.string xn) ∧ W.cell? { block := (ad.add (k * 3)).block, off := (ad.add (k * 3)).off + 1 } = some (.bool true) ∧ W.cell? { block := (ad.add (k * 3)).block, off := (ad.add (k * 3)).off + 2 } = some (.string xv) ∧ W.cell? (bd.add (k * 3)) = some (.string yn) ∧ W.cell? { block := (bd.add (k * 3)).block, off := (bd.add (k * 3)).off + 1 } = some (.bool true) ∧ W.cell? { block := (bd.add (k * 3)).block, off := (bd.add (k * 3)).off + 2 } = some (.string yv)) (exact ⟨HC0.out, HC1.out, HC2.out, HD0.out, HD1.out, HD2.out⟩) (fail)
                go_wp2_with fail
                go_roundw
                case rel => exact ⟨k + 1, by omega, by go_num, HR, hbel⟩
                case measure => simp [intOf]; omega
              · skip
                have HR : Hid (pksB L M = false) := by
                  show _ = _
                  rw [hf.out, HS.out, hS]; simp
                clear HS hf
                go_wp2_with fail
                go_region_held3 (fun W => W.cell? (ad.add (k * 3)) = some (.string xn) ∧ W.cell? { block := (ad.add (k * 3)).block, off := (ad.add (k * 3)).off + 1 } = some (.bool true) ∧ W.cell? { block := (ad.add (k * 3)).block, off := (ad.add (k * 3)).off + 2 } = some (.string xv) ∧ W.cell? (bd.add (k * 3)) = some (.string yn) ∧ W.cell? { block := (bd.add (k * 3)).block, off := (bd.add (k * 3)).off + 1 } = some (.bool true) ∧ W.cell? { block := (bd.add (k * 3)).block, off := (bd.add (k * 3)).off + 2 } = some (.string yv)) (exact ⟨HC0.out, HC1.out, HC2.out, HD0.out, HD1.out, HD2.out⟩) (fail)
                go_wp2_with fail
                go_ret
                exact ⟨by rw [HR.out]; rfl, hbel⟩
            · skip
              have HR : Hid (pksB L M = false) := by
                show _ = _
                rw [hf.out, HS.out, hT]; simp
              clear HS hf
              go_wp2_with fail
              go_region_held3 (fun W => W.cell? (ad.add (k * 3)) = some (.string xn) ∧ W.cell? { block := (ad.add (k * 3)).block, off := (ad.add (k * 3)).off + 1 } = some (.bool true) ∧ W.cell? { block := (ad.add (k * 3)).block, off := (ad.add (k * 3)).off + 2 } = some (.string xv) ∧ W.cell? (bd.add (k * 3)) = some (.string yn) ∧ W.cell? { block := (bd.add (k * 3)).block, off := (bd.add (k * 3)).off + 1 } = some (.bool true) ∧ W.cell? { block := (bd.add (k * 3)).block, off := (bd.add (k * 3)).off + 2 } = some (.string yv)) (exact ⟨HC0.out, HC1.out, HC2.out, HD0.out, HD1.out, HD2.out⟩) (fail)
              go_wp2_with fail
              go_ret
              exact ⟨by rw [HR.out]; rfl, hbel⟩
          | false =>
            have HR : Hid (pksB L M = false) := by
              show _ = _
              rw [hf.out, HS.out]; simp
            clear HS hf
            go_wp2_with fail
            go_region_held3 (fun W => W.cell? (ad.add (k * 3)) = some (.string xn) ∧ W.cell? { block := (ad.add (k * 3)).block, off := (ad.add (k * 3)).off + 1 } = some (.bool true) ∧ W.cell? { block := (ad.add (k * 3)).block, off := (ad.add (k * 3)).off + 2 } = some (.string xv) ∧ W.cell? (bd.add (k * 3)) = some (.string yn) ∧ W.cell? { block := (bd.add (k * 3)).block, off := (bd.add (k * 3)).off + 1 } = some (.bool false) ∧ W.cell? { block := (bd.add (k * 3)).block, off := (bd.add (k * 3)).off + 2 } = some (.string yv)) (exact ⟨HC0.out, HC1.out, HC2.out, HD0.out, HD1.out, HD2.out⟩) (fail)
            go_wp2_with fail
            go_ret
            exact ⟨by rw [HR.out]; rfl, hbel⟩
        | false =>
          cases yh with
          | true =>
            have HR : Hid (pksB L M = false) := by
              show _ = _
              rw [hf.out, HS.out]; simp
            clear HS hf
            go_wp2_with fail
            go_region_held3 (fun W => W.cell? (ad.add (k * 3)) = some (.string xn) ∧ W.cell? { block := (ad.add (k * 3)).block, off := (ad.add (k * 3)).off + 1 } = some (.bool false) ∧ W.cell? { block := (ad.add (k * 3)).block, off := (ad.add (k * 3)).off + 2 } = some (.string xv) ∧ W.cell? (bd.add (k * 3)) = some (.string yn) ∧ W.cell? { block := (bd.add (k * 3)).block, off := (bd.add (k * 3)).off + 1 } = some (.bool true) ∧ W.cell? { block := (bd.add (k * 3)).block, off := (bd.add (k * 3)).off + 2 } = some (.string yv)) (exact ⟨HC0.out, HC1.out, HC2.out, HD0.out, HD1.out, HD2.out⟩) (fail)
            go_wp2_with fail
            go_ret
            exact ⟨by rw [HR.out]; rfl, hbel⟩
          | false =>
            rcases both (xn.toList == yn.toList) with hT | hT
            · rcases both (xv.toList == yv.toList) with hS | hS
              · have HR : Hid (pksB L M = pksB (L.drop (k + 1)) (M.drop (k + 1))) := by
                  show _ = _
                  rw [hf.out, HS.out, hS, hT]; simp
                clear HS hf
                go_wp2_with fail
                go_region_held3 (fun W => W.cell? (ad.add (k * 3)) = some (.string xn) ∧ W.cell? { block := (ad.add (k * 3)).block, off := (ad.add (k * 3)).off + 1 } = some (.bool false) ∧ W.cell? { block := (ad.add (k * 3)).block, off := (ad.add (k * 3)).off + 2 } = some (.string xv) ∧ W.cell? (bd.add (k * 3)) = some (.string yn) ∧ W.cell? { block := (bd.add (k * 3)).block, off := (bd.add (k * 3)).off + 1 } = some (.bool false) ∧ W.cell? { block := (bd.add (k * 3)).block, off := (bd.add (k * 3)).off + 2 } = some (.string yv)) (exact ⟨HC0.out, HC1.out, HC2.out, HD0.out, HD1.out, HD2.out⟩) (fail)
                go_wp2_with fail
                go_roundw
                case rel => exact ⟨k + 1, by omega, by go_num, HR, hbel⟩
                case measure => simp [intOf]; omega
              · skip
                have HR : Hid (pksB L M = false) := by
                  show _ = _
                  rw [hf.out, HS.out, hS]; simp
                clear HS hf
                go_wp2_with fail
                go_region_held3 (fun W => W.cell? (ad.add (k * 3)) = some (.string xn) ∧ W.cell? { block := (ad.add (k * 3)).block, off := (ad.add (k * 3)).off + 1 } = some (.bool false) ∧ W.cell? { block := (ad.add (k * 3)).block, off := (ad.add (k * 3)).off + 2 } = some (.string xv) ∧ W.cell? (bd.add (k * 3)) = some (.string yn) ∧ W.cell? { block := (bd.add (k * 3)).block, off := (bd.add (k * 3)).off + 1 } = some (.bool false) ∧ W.cell? { block := (bd.add (k * 3)).block, off := (bd.add (k * 3)).off + 2 } = some (.string yv)) (exact ⟨HC0.out, HC1.out, HC2.out, HD0.out, HD1.out, HD2.out⟩) (fail)
                go_wp2_with fail
                go_ret
                exact ⟨by rw [HR.out]; rfl, hbel⟩
            · skip
              have HR : Hid (pksB L M = false) := by
                show _ = _
                rw [hf.out, HS.out, hT]; simp
              clear HS hf
              go_wp2_with fail
              go_region_held3 (fun W => W.cell? (ad.add (k * 3)) = some (.string xn) ∧ W.cell? { block := (ad.add (k * 3)).block, off := (ad.add (k * 3)).off + 1 } = some (.bool false) ∧ W.cell? { block := (ad.add (k * 3)).block, off := (ad.add (k * 3)).off + 2 } = some (.string xv) ∧ W.cell? (bd.add (k * 3)) = some (.string yn) ∧ W.cell? { block := (bd.add (k * 3)).block, off := (bd.add (k * 3)).off + 1 } = some (.bool false) ∧ W.cell? { block := (bd.add (k * 3)).block, off := (bd.add (k * 3)).off + 2 } = some (.string yv)) (exact ⟨HC0.out, HC1.out, HC2.out, HD0.out, HD1.out, HD2.out⟩) (fail)
              go_wp2_with fail
              go_ret
              exact ⟨by rw [HR.out]; rfl, hbel⟩
      · have HR : Hid (pksB L M = true) := by
          show _ = _
          rw [hf.out, List.drop_eq_nil_of_le (by omega), List.drop_eq_nil_of_le (by have := HLM.out; omega)]; rfl
        clear hf
        go_wp2_with fail
        go_ret
        exact ⟨by rw [HR.out]; rfl, hbel⟩
  · have hlb : ((L.length : Int) == (M.length : Int)) = false := by rw [beq_eq_false_iff_ne]; omega
    have HR := Lib.hid (pksB_len L M hl)
    clear hl
    go_enter Try.func14, Try.ntmps14
    go_wp2_with fail
    go_ret
    exact ⟨by rw [HR.out]; rfl, Below.refl _ _⟩


/-- 'append(out, xs...)' on picks at a step of a region that draws its order: out the call's own, xs not nil. -/
theorem step_append_slk {P : Program} {ops : Array Oper} {o : Oper} {a : Act} {w : World} {K : Act → World → Prop} {Q : Exit → Act → World → Prop} {E : Prop} (hgd : o.guard = none) (s x : Operand) (t : TypeId)
    (ho : o.op = .call { callee := .builtin .append, args := #[s, x], argTypes := #[t, t] }) (base e : Nat) (ht : P.underlying t = some (.slice e))
    (hI : (P.info? e).map (fun i => (i.zero, i.size, i.bytes)) = some (some (.agg #[.string ⟨#[]⟩, .bool false, .string ⟨#[]⟩]), 3, 40)) (v : Value) (hs : a.eval s = v) (X : List Pk) (hown : OwnK w base e v X)
    (ad : Addr) (m c : Nat) (hx : a.eval x = .slice (some ad) m c) (Y : List Pk) (hY : SlK w (some ad) m c Y) (hm : 0 < m) (hlen : X.length + Y.length ≤ 100000000) (hbase : base ≤ w.heap.size) (w0 : World) (hb : Below base w0 w)
    (h : ∀ v' w', Hid (OwnK w' base e v' (X ++ Y)) → Below base w0 w' → w.heap.size ≤ w'.heap.size → K (a.put o.dst v') w') :
    if Region.wanted o (yielded ops a.tmps) = true then Oper.wp P o a w K Q else E := by
  obtain ⟨i0, hi, hz0, hz1, hz2⟩ := info_parts hI
  have hl := hY.len
  refine step_append_lies w hgd s x t ho base e i0 (.agg #[.string ⟨#[]⟩, .bool false, .string ⟨#[]⟩]) 3 40 ht hi hz0 hz1 hz2 rfl (by decide) v _ _ hs hown ad m c (pkC Y) hx (by rw [pkC_len, hl]) hY.news (pkC_ones _) hm (by unfold maxLen; omega) (by omega) hbase _ rfl ?_
  intro g cap w' hown' hgrow _ _
  refine h _ w' ?_ (hb.grown hgrow hbase (fun k hk => (hown.lt k hk).1)) hgrow.size
  show World.ownsRow _ _ _ _ _ _ _
  rw [List.length_append, hl, pkC_append]
  exact hown'
theorem SlK.oneAt (w : World) (t : TypeId) (x : Pk) (hz : x.n.size ≤ maxLen ∧ x.v.size ≤ maxLen) {g : Nat} (hg : w.heap.size = g) : SlK (w.alloc (.cells #[.string x.n, .bool x.h, .string x.v] t)) (some ⟨g, 0, none⟩) 1 1 [x] := by
  subst hg
  exact SlK.one w t x hz
theorem pks_snoc (N : List (List UInt8)) (L : List Fd) (k : Nat) (h : k < N.length) : pksL (N.take (k + 1)) L = pksL (N.take k) L ++ [pkOf L N[k]] := by
  unfold pksL
  rw [List.take_succ_eq_append_getElem h, List.map_append]; rfl
theorem sgl_snoc (V : List (List UInt8)) (j : Nat) (h : j < V.length) : (V.take (j + 1)).map (sglL false) = (V.take j).map (sglL false) ++ [sglL false V[j]] := by
  rw [List.take_succ_eq_append_getElem h, List.map_append]; rfl
/-- Fields that are few and short, names too. -/
def FwF (L : List Fd) : Prop := L.length ≤ 1000 ∧ ∀ x ∈ L, x.2.size ≤ 1000 ∧ x.1.size ≤ 10000
def FwN (N : List (List UInt8)) : Prop := N.length ≤ 1000 ∧ ∀ x ∈ N, x.length ≤ 10000
theorem fw_all {L : List Fd} (h : FwF L) (name : ByteArray) : (fdAll L name).length ≤ 1000 ∧ ∀ x ∈ fdAll L name, x.length ≤ 1000 := by
  refine ⟨?_, fun x hx => ?_⟩
  · have h1 : (fdAll L name).length ≤ L.length := by unfold fdAll; rw [List.length_map]; exact List.length_filter_le _ _
    have := h.1
    omega
  · unfold fdAll at hx
    obtain ⟨y, hy, rfl⟩ := List.mem_map.1 hx
    rw [← Lib.size_eq]
    exact (h.2 y (List.mem_filter.1 hy).1).1
theorem pk_sz {L : List Fd} (h : FwF L) {name : List UInt8} (hn : name.length ≤ 10000) : (pkOf L name).n.size ≤ 10000 ∧ (pkOf L name).v.size ≤ 1002000 := by
  obtain ⟨h1, h2⟩ := fw_all h (mkS name)
  refine ⟨by show (mkS name).size ≤ _; rw [mkS_size]; exact hn, ?_⟩
  show (mkS _).size ≤ _
  rw [mkS_size]
  refine Nat.le_trans (join_le _ 1000 1000 (by rw [List.length_map]; exact h1) fun x hx => ?_) (by decide)
  obtain ⟨y, hy, rfl⟩ := List.mem_map.1 hx
  exact Nat.le_trans (sgl_le _ _) (h2 y hy)
theorem pks_sz {L : List Fd} (h : FwF L) {N : List (List UInt8)} (hn : FwN N) : ∀ x ∈ pksL N L, x.n.size ≤ maxLen ∧ x.v.size ≤ maxLen := fun x hx => by
  obtain ⟨y, hy, rfl⟩ := List.mem_map.1 hx
  have := pk_sz h (hn.2 y hy)
  have : (1002000 : Nat) ≤ maxLen := by decide
  omega
/-- The answer is picks. -/
def IsPk (w : World) (X : List Pk) (e : Ending) (w' : World) : Prop := ∃ A c, e = .returned (.slice A X.length c) ∧ SlK w' A X.length c X ∧ Below w.heap.size w w'

set_option maxHeartbeats 16000000 in
set_option maxRecDepth 100000 in
theorem r_picks (A B : Option Addr) (n c m d : Nat) (N : List (List UInt8)) (L : List Fd) (w : World) (h : SlS w A n c N) (h' : SlF w B m d L) (hN : FwN N) (hL : FwF L) :
    Calls Try.prog 16 #[.slice A n c, .slice B m d] w (IsPk w (pksL N L)) := by
  have hlen := h.len
  have hlem := h'.len
  subst hlen hlem
  have hNl := hN.1
  have HPZ := Lib.hid (pks_sz hL hN)
  have HF0 := Lib.hid h'
  have HN0 := Lib.hid hN
  have HL0 := Lib.hid hL
  unfold IsPk
  clear h' hN hL
  go_enter Try.func16, Try.ntmps16
  go_wp2_with fail
  go_loopw [5, 6] (fun v i wr => ∃ k : Nat, k ≤ N.length ∧ i = .int .i64 k ∧ Hid (OwnK wr w.heap.size 44 v (pksL (N.take k) L)) ∧ Hid (Below w.heap.size w wr)) (fun _ i _ => N.length - (intOf i).toNat)
  case atStart => exact ⟨0, Nat.zero_le _, rfl, OwnK.nil _ _ _, Below.refl _ _⟩
  case round =>
    obtain ⟨k, hk, rfl, HK, HB⟩ := hrel
    by_cases hlt : k < N.length
    · obtain ⟨ad, rfl, hc⟩ := h.at_ (by omega)
      have hcw := hc k N[k] (List.getElem?_eq_getElem hlt)
      have hcell := cell_kept HB.out hcw
      have hi0 : (0 : Int) ≤ (k : Int) := by omega
      have hi1 : (k : Int) < (N.length : Int) := by omega
      have hsn := pks_snoc N L k hlt
      have hzn := HN0.out.2 _ (List.getElem_mem hlt)
      have hps := pk_sz HL0.out hzn
      have hlX : (pksL (N.take k) L).length ≤ 1000 := by unfold pksL; rw [List.length_map, List.length_take]; omega
      generalize N[k] = name at *
      have hms : (mkS name).size ≤ 10000 := by rw [mkS_size]; exact hzn
      have hml : (mkS name).size ≤ maxLen := Nat.le_trans hms (by decide)
      have CA := Lib.hid (fun W (hW : SlF W B L.length d L) => rf_all B L.length d L (mkS name) W hW (by have := HL0.out.1; omega) hml)
      obtain ⟨hv1, hv2⟩ := fw_all HL0.out (mkS name)
      have hpk : pkOf L name = ⟨mkS name, !(fdAll L (mkS name)).isEmpty, mkS (Lib.join ((fdAll L (mkS name)).map (sglL false)) [44, 32])⟩ := rfl
      have HSN := Lib.hid hsn
      have HPS := Lib.hid hps
      have HPK := Lib.hid hpk
      have HV2 := Lib.hid hv2
      have HCW := Lib.hid hcw
      unfold Vals at CA
      generalize fdAll L (mkS name) = V at *
      generalize mkS name = nm at *
      clear hc hsn hzn hps hpk hv2 hcw hms hml
      go_wp2_with fail
      refine (CA.out _ (HF0.out.below HB.out)).mono ?_
      rintro e w1 ⟨A1, c1, rfl, hS, _, hb⟩
      have HS := Lib.hid hS
      have HK := Lib.hid (HK.out.below hb)
      have HB := Lib.hid (below_then HB.out hb)
      clear hS hb hcell
      go_wp2_with fail
      go_loopw [8, 9] (fun v i wr => ∃ j : Nat, j ≤ V.length ∧ i = .int .i64 j ∧ Hid (OwnS wr w1.heap.size 9 v ((V.take j).map (sglL false))) ∧ Hid (Below w1.heap.size w1 wr)) (fun _ i _ => V.length - (intOf i).toNat)
      case atStart => exact ⟨0, Nat.zero_le _, rfl, OwnS.nil _ _ _, Below.refl _ _⟩
      case round =>
        obtain ⟨j, hj, rfl, HO, HQ⟩ := hrel
        by_cases hjl : j < V.length
        · obtain ⟨bd, rfl, hd⟩ := HS.out.at_ (by omega)
          have hcell := cell_kept HQ.out (hd j V[j] (List.getElem?_eq_getElem hjl))
          have hj0 : (0 : Int) ≤ (j : Int) := by omega
          have hj1 : (j : Int) < (V.length : Int) := by omega
          have HT := Lib.hid (sgl_snoc V j hjl)
          have hz := HV2.out _ (List.getElem_mem hjl)
          have hXl : ((V.take j).map (sglL false)).length ≤ 1000 := by rw [List.length_map, List.length_take]; omega
          generalize V[j] = v at *
          have CS := Lib.hid (fun W => r_single (mkS v) (by rw [mkS_size]; omega) W)
          rw [mkS_list] at CS
          generalize mkS v = vv at *
          generalize (V.take j).map (sglL false) = X at *
          obtain ⟨sv, hsv⟩ : ∃ sv, mkS (sglL false v) = sv := ⟨_, rfl⟩
          have hsl : sglL false v = sv.data.toList := by rw [← hsv, mkS_list]
          rw [hsv] at CS
          rw [hsl] at HT
          clear hd hz hsv hsl
          go_wp2_with (first
            | (go_at_call 34; refine (CS.out _).mono ?_; rintro e w2 ⟨rfl, rfl⟩)
            | (at_builtin; refine wpList_append_sls rfl _ _ _ rfl w1.heap.size 9 Try.underlying25 (by kernel_rfl) _ rfl X (HO.out.alloc _) _ _ _ rfl [sv.data.toList] (SlS.text _ _ _) (by simp; omega) (by simp; have := HQ.out.size; omega) w1 (HQ.out.alloc HQ.out.size _) ?_; intro v1 w3 ho1 hb1 hz1))
          go_roundw
          case rel => exact ⟨j + 1, by omega, by go_num, by show OwnS _ _ _ _ _; rw [HT.out]; exact ho1.out, hb1⟩
          case measure => simp [intOf]; omega
        · have hj1 : ¬ (j : Int) < (V.length : Int) := by omega
          rw [List.take_of_length_le (by omega)] at HO
          obtain ⟨A2, c2, hv2, hSX, _⟩ := HO.out.sls
          subst hv2
          have hXl : (V.map (sglL false)).length ≤ 1000 := by rw [List.length_map]; omega
          have CJ := Lib.hid (fun W (hW : SlS W A2 (V.map (sglL false)).length c2 (V.map (sglL false))) => r_join A2 _ c2 _ W hW (by omega) (fun x hx => by
            obtain ⟨y, hy, rfl⟩ := List.mem_map.1 hx
            have h1 := sgl_le y false
            have h2 := HV2.out y hy
            omega))
          have CJ := Lib.hid (fun W (hW : SlS W A2 (V.map (sglL false)).length c2 (V.map (sglL false))) => (CJ.out W hW).mono (fun e w' h => (⟨h.1, h.2 ▸ Below.refl _ _⟩ : e = .returned (.string (mkS (Lib.join (V.map (sglL false)) [44, 32]))) ∧ Below W.heap.size W w')))
          have HSX := Lib.hid hSX.drew
          have HK := Lib.hid (HK.out.below HQ.out).drew
          have HB := Lib.hid (below_then HB.out HQ.out).drew
          have hPS := HPS.out
          rw [HPK.out] at hPS
          obtain ⟨J, hJ⟩ : ∃ J, mkS (Lib.join (V.map (sglL false)) [44, 32]) = J := ⟨_, rfl⟩
          rw [hJ] at CJ hPS
          have HJ := Lib.hid hJ
          simp only at hPS
          have hXX : pkOf L name = ⟨nm, !V.isEmpty, J⟩ := by rw [HPK.out, hJ]
          have hml2 : (1002000 : Nat) ≤ maxLen := by decide
          have hpz : nm.size ≤ maxLen ∧ J.size ≤ maxLen := ⟨by omega, by omega⟩
          have HPZ1 := Lib.hid hpz
          have hSnoc := HSN.out
          rw [hXX] at hSnoc
          generalize (V.map (sglL false)).length = vl at *
          generalize V.map (sglL false) = VX at *
          generalize pksL (N.take k) L = X at *
          clear hJ hSX hPS hXX hml2 hpz HO
          rcases Nat.eq_zero_or_pos V.length with hv0 | hv0
          · have hg : ¬ (0 : Int) < (V.length : Int) := by omega
            have hvE : (!V.isEmpty) = false := by cases V <;> simp at hv0 ⊢
            rw [hvE] at hSnoc
            have HSS := Lib.hid hSnoc
            clear hSnoc hvE
            go_wp2_with fail
            go_region_held3 (fun W => W.cell? (ad.add k) = some (.string nm)) (first | exact cell_kept HB.out HCW.out | exact Lib.cell?_alloc_some _ (cell_kept HB.out HCW.out) | go_keep) (first
              | (go_at_call 35; refine (CJ.out _ HSX.out).mono ?_; rintro e w3 ⟨rfl, hb⟩; have HK := Lib.hid (HK.out.below hb); have HB := Lib.hid (below_then HB.out hb); clear hb)
              | (refine step_append_slk (by rfl) _ _ 30 (by rfl) w.heap.size 44 Try.underlying30 (by kernel_rfl) _ (by rfl) X (HK.out.alloc _) _ 1 1 (by rfl) [⟨nm, false, J⟩] (SlK.oneAt _ _ ⟨nm, false, J⟩ HPZ1.out rfl) (by omega) (by simp; omega) (Nat.le_trans HB.out.size (by simp)) w (HB.out.alloc HB.out.size _) ?_; intro v2 w4 ho4 hb4 hs4; have HB := Lib.hid hb4))
            go_wp2_with fail
            go_roundw
            case rel => exact ⟨k + 1, by omega, by go_num, by show OwnK _ _ _ _ _; rw [HSS.out]; exact ho4.out, HB.out⟩
            case measure => simp [intOf]; omega
          · have hg : (0 : Int) < (V.length : Int) := by omega
            have hvE : (!V.isEmpty) = true := by cases V <;> simp at hv0 ⊢
            rw [hvE] at hSnoc
            have HSS := Lib.hid hSnoc
            clear hSnoc hvE
            go_wp2_with fail
            go_region_held3 (fun W => W.cell? (ad.add k) = some (.string nm)) (first | exact cell_kept HB.out HCW.out | exact Lib.cell?_alloc_some _ (cell_kept HB.out HCW.out) | go_keep) (first
              | (go_at_call 35; refine (CJ.out _ HSX.out).mono ?_; rintro e w3 ⟨rfl, hb⟩; have HK := Lib.hid (HK.out.below hb); have HB := Lib.hid (below_then HB.out hb); clear hb)
              | (refine step_append_slk (by rfl) _ _ 30 (by rfl) w.heap.size 44 Try.underlying30 (by kernel_rfl) _ (by rfl) X (HK.out.alloc _) _ 1 1 (by rfl) [⟨nm, true, J⟩] (SlK.oneAt _ _ ⟨nm, true, J⟩ HPZ1.out rfl) (by omega) (by simp; omega) (Nat.le_trans HB.out.size (by simp)) w (HB.out.alloc HB.out.size _) ?_; intro v2 w4 ho4 hb4 hs4; have HB := Lib.hid hb4))
            go_wp2_with fail
            go_roundw
            case rel => exact ⟨k + 1, by omega, by go_num, by show OwnK _ _ _ _ _; rw [HSS.out]; exact ho4.out, HB.out⟩
            case measure => simp [intOf]; omega
    · have hTk : N.take k = N := List.take_of_length_le (by omega)
      rw [hTk] at HK
      obtain ⟨A1, c1, hv, hF⟩ := HK.out.slk HPZ.out
      subst hv
      have HF := Lib.hid hF
      have hi1 : ¬ (k : Int) < (N.length : Int) := by omega
      clear hF
      go_wp2_with fail
      go_ret
      exact ⟨A1, c1, rfl, HF.out, HB.out⟩
end Go.Proofs.Ytmpgenflohdghaa
end

/-
  Plain facts of layer 15: names are told in order, each once, with small letters, however they are told.
-/
section
namespace Go.Proofs.Ytmpgenflohdghaa
open Go.RowKit

theorem les_bytes : ∀ x y : List UInt8, lesL x y = Op.bytesLess x y
  | [], [] => rfl
  | [], _ :: _ => rfl
  | _ :: _, [] => rfl
  | a :: x, b :: y => by
    show (if a ≠ b then decide (a.toNat < b.toNat) else lesL x y) = (decide (a < b) || (a == b && Op.bytesLess x y))
    rw [les_bytes x y]
    by_cases h : a = b
    · subst h
      rw [if_neg (by simp), decide_eq_false (by exact fun h => absurd h (by simp)), beq_self_eq_true]; rfl
    · rw [if_pos h, beq_eq_false_iff_ne.2 h, Bool.false_and, Bool.or_false]; rfl
theorem les_irrefl : ∀ x : List UInt8, lesL x x = false
  | [] => rfl
  | a :: x => by
    show (if a ≠ a then _ else lesL x x) = false
    rw [if_neg (by simp), les_irrefl x]
theorem les_trans : ∀ {x y z : List UInt8}, lesL x y = true → lesL y z = true → lesL x z = true
  | [], [], _, h, _ => by cases h
  | _ :: _, [], _, h, _ => by cases h
  | _, _ :: _, [], _, h => by cases h
  | [], _ :: _, _ :: _, _, _ => rfl
  | a :: x, b :: y, c :: z, h, g => by
    have h : (if a ≠ b then decide (a.toNat < b.toNat) else lesL x y) = true := h
    have g : (if b ≠ c then decide (b.toNat < c.toNat) else lesL y z) = true := g
    show (if a ≠ c then decide (a.toNat < c.toNat) else lesL x z) = true
    by_cases e1 : a = b
    · subst e1
      rw [if_neg (by simp)] at h
      by_cases e2 : a = c
      · subst e2
        rw [if_neg (by simp)] at g ⊢
        exact les_trans h g
      · rw [if_pos e2] at g ⊢
        exact g
    · rw [if_pos e1, decide_eq_true_eq] at h
      by_cases e2 : b = c
      · subst e2
        rw [if_pos e1, decide_eq_true_eq]
        exact h
      · rw [if_pos e2, decide_eq_true_eq] at g
        have : a ≠ c := fun e => by subst e; omega
        rw [if_pos this, decide_eq_true_eq]
        omega
theorem les_total : ∀ {x y : List UInt8}, lesL x y = false → x ≠ y → lesL y x = true
  | [], [], _, h => absurd rfl h
  | [], _ :: _, h, _ => by cases h
  | _ :: _, [], _, _ => rfl
  | a :: x, b :: y, h, g => by
    have h : (if a ≠ b then decide (a.toNat < b.toNat) else lesL x y) = false := h
    show (if b ≠ a then decide (b.toNat < a.toNat) else lesL y x) = true
    by_cases e : a = b
    · subst e
      rw [if_neg (by simp)] at h ⊢
      exact les_total h (fun q => g (by rw [q]))
    · rw [if_pos e, decide_eq_false_iff_not] at h
      rw [if_pos (fun q => e q.symm), decide_eq_true_eq]
      have : a.toNat ≠ b.toNat := fun q => e (UInt8.toNat_inj.1 q)
      omega
theorem les_asymm {x y : List UInt8} (h : lesL x y = true) : lesL y x = false ∧ x ≠ y := by
  refine ⟨?_, fun e => by subst e; rw [les_irrefl] at h; cases h⟩
  cases g : lesL y x with
  | false => rfl
  | true =>
    have := les_trans h g
    rw [les_irrefl] at this
    cases this

/-- In order, each once. -/
def Srt (L : List (List UInt8)) : Prop := L.Pairwise fun a b => lesL a b = true
theorem put_iff (s : List UInt8) : ∀ (L : List (List UInt8)) (x : List UInt8), x ∈ putL s L ↔ x = s ∨ x ∈ L
  | [], x => by simp [putL]
  | y :: r, x => by
    have ih := put_iff s r x
    unfold putL
    split
    · rw [List.mem_cons, ih, List.mem_cons]
      constructor
      · rintro (h | h | h)
        · exact .inr (.inl h)
        · exact .inl h
        · exact .inr (.inr h)
      · rintro (h | h | h)
        · exact .inr (.inl h)
        · exact .inl h
        · exact .inr (.inr h)
    · split
      · rename_i h
        subst h
        rw [List.mem_cons]
        constructor
        · rintro (h | h)
          · exact .inl h
          · exact .inr (.inr h)
        · rintro (h | h | h)
          · exact .inl h
          · exact .inl h
          · exact .inr h
      · rw [List.mem_cons]
theorem put_srt (s : List UInt8) : ∀ {L : List (List UInt8)}, Srt L → Srt (putL s L)
  | [], _ => by unfold putL Srt; simp
  | y :: r, h => by
    have h := List.pairwise_cons.1 h
    unfold putL
    split
    · rename_i hy
      refine List.pairwise_cons.2 ⟨fun x hx => ?_, put_srt s h.2⟩
      rcases (put_iff s r x).1 hx with rfl | hx
      · exact hy
      · exact h.1 x hx
    · rename_i hy
      split
      · exact List.pairwise_cons.2 h
      · rename_i hne
        have hs : lesL s y = true := les_total (by simpa using hy) hne
        refine List.pairwise_cons.2 ⟨fun x hx => ?_, List.pairwise_cons.2 h⟩
        rw [List.mem_cons] at hx
        rcases hx with rfl | hx
        · exact hs
        · exact les_trans hs (h.1 x hx)
theorem srt_uniq : ∀ {L M : List (List UInt8)}, Srt L → Srt M → (∀ x, x ∈ L ↔ x ∈ M) → L = M
  | [], [], _, _, _ => rfl
  | [], y :: M, _, _, h => absurd ((h y).2 (List.mem_cons_self ..)) (by simp)
  | x :: L, [], _, _, h => absurd ((h x).1 (List.mem_cons_self ..)) (by simp)
  | x :: L, y :: M, hL, hM, h => by
    have hL := List.pairwise_cons.1 hL
    have hM := List.pairwise_cons.1 hM
    have hx : x ∉ L := fun q => by have := hL.1 x q; rw [les_irrefl] at this; cases this
    have hy : y ∉ M := fun q => by have := hM.1 y q; rw [les_irrefl] at this; cases this
    have e : x = y := by
      have h1 := (h x).1 (List.mem_cons_self ..)
      have h2 := (h y).2 (List.mem_cons_self ..)
      rw [List.mem_cons] at h1 h2
      rcases h1 with h1 | h1
      · exact h1
      · rcases h2 with h2 | h2
        · exact h2.symm
        · have a1 := hM.1 x h1
          have a2 := hL.1 y h2
          exact absurd (les_asymm a1).1 (by rw [a2]; simp)
    subst e
    rw [srt_uniq hL.2 hM.2 fun z => ?_]
    constructor
    · intro hz
      have := (h z).1 (List.mem_cons_of_mem _ hz)
      rw [List.mem_cons] at this
      rcases this with rfl | this
      · exact absurd hz hx
      · exact this
    · intro hz
      have := (h z).2 (List.mem_cons_of_mem _ hz)
      rw [List.mem_cons] at this
      rcases this with rfl | this
      · exact absurd hz hy
      · exact this
/-- May an element not be a name? -/
def badE (e : List UInt8) : Prop := e = [42] ∨ (e.isEmpty || !allB tokB e) = true
theorem nme_spec : ∀ (E out : List (List UInt8)), (nmE out E = none ∧ ∃ e ∈ E, badE e) ∨ ∃ o, nmE out E = some o ∧ (∀ e ∈ E, ¬ badE e) ∧ (Srt out → Srt o) ∧ ∀ x, x ∈ o ↔ x ∈ out ∨ ∃ e ∈ E, x = lowL e
  | [], out => .inr ⟨out, rfl, fun _ h => absurd h (by simp), id, fun x => by simp⟩
  | e :: r, out => by
    show ((if e = [42] ∨ (e.isEmpty || !allB tokB e) = true then none else nmE (putL (lowL e) out) r) = none ∧ _) ∨ _
    by_cases hb : badE e
    · exact .inl ⟨if_pos hb, e, List.mem_cons_self .., hb⟩
    · rcases nme_spec r (putL (lowL e) out) with ⟨h1, e2, h2, h3⟩ | ⟨o, h1, h2, h3, h4⟩
      · exact .inl ⟨(if_neg hb).trans h1, e2, List.mem_cons_of_mem _ h2, h3⟩
      · refine .inr ⟨o, ?_, fun q hq => ?_, fun hs => h3 (put_srt _ hs), fun x => ?_⟩
        · exact (if_neg hb).trans h1
        · rw [List.mem_cons] at hq
          rcases hq with rfl | hq
          · exact hb
          · exact h2 q hq
        · rw [h4 x, put_iff]
          constructor
          · rintro ((h | h) | ⟨q, hq, h⟩)
            · exact .inr ⟨e, List.mem_cons_self .., h⟩
            · exact .inl h
            · exact .inr ⟨q, List.mem_cons_of_mem _ hq, h⟩
          · rintro (h | ⟨q, hq, h⟩)
            · exact .inl (.inr h)
            · rw [List.mem_cons] at hq
              rcases hq with rfl | hq
              · exact .inl (.inl h)
              · exact .inr ⟨q, hq, h⟩
/-- A value that may not be. -/
def badV (v : List UInt8) : Prop := splitL v = none ∨ ∃ E, splitL v = some E ∧ ∃ e ∈ E, badE e
def inV (V : List (List UInt8)) (x : List UInt8) : Prop := ∃ v ∈ V, ∃ E, splitL v = some E ∧ ∃ e ∈ E, x = lowL e
theorem nmv_spec : ∀ (V out : List (List UInt8)), (nmV out V = none ∧ ∃ v ∈ V, badV v) ∨ ∃ o, nmV out V = some o ∧ (∀ v ∈ V, ¬ badV v) ∧ (Srt out → Srt o) ∧ ∀ x, x ∈ o ↔ x ∈ out ∨ inV V x
  | [], out => .inr ⟨out, rfl, fun _ h => absurd h (by simp), id, fun x => by simp [inV]⟩
  | v :: r, out => by
    cases hE : splitL v with
    | none =>
      refine .inl ⟨?_, v, List.mem_cons_self .., .inl hE⟩
      unfold nmV; rw [hE]
    | some E =>
      rcases nme_spec E out with ⟨h1, h2⟩ | ⟨o, h1, h2, h3, h4⟩
      · refine .inl ⟨?_, v, List.mem_cons_self .., .inr ⟨E, hE, h2⟩⟩
        unfold nmV; rw [hE]; simp only [h1]
      · have e : nmV out (v :: r) = nmV o r := by
          show (match splitL v with | none => none | some E => match nmE out E with | none => none | some o => nmV o r) = _
          rw [hE]; simp only [h1]
        rw [e]
        have hgood : ¬ badV v := by
          rintro (q | ⟨F, q, f, hf, hb⟩)
          · rw [hE] at q; cases q
          · rw [hE] at q; cases q; exact h2 f hf hb
        rcases nmv_spec r o with ⟨k1, u, k2, k3⟩ | ⟨p, k1, k2, k3, k4⟩
        · exact .inl ⟨k1, u, List.mem_cons_of_mem _ k2, k3⟩
        · refine .inr ⟨p, k1, fun q hq => ?_, fun hs => k3 (h3 hs), fun x => ?_⟩
          · rw [List.mem_cons] at hq
            rcases hq with rfl | hq
            · exact hgood
            · exact k2 q hq
          · rw [k4 x, h4 x]
            constructor
            · rintro ((h | ⟨q, hq, h⟩) | ⟨u, hu, h⟩)
              · exact .inl h
              · exact .inr ⟨v, List.mem_cons_self .., E, hE, q, hq, h⟩
              · exact .inr ⟨u, List.mem_cons_of_mem _ hu, h⟩
            · rintro (h | ⟨u, hu, F, hF, h⟩)
              · exact .inl (.inl h)
              · rw [List.mem_cons] at hu
                rcases hu with rfl | hu
                · rw [hE] at hF; cases hF
                  exact .inl (.inr h)
                · exact .inr ⟨u, hu, F, hF, h⟩
theorem all_back (L : List Fd) (name : ByteArray) : fdAll (L.reverse ++ L) name = (fdAll L name).reverse ++ fdAll L name := by
  unfold fdAll
  rw [List.filter_append, List.map_append, List.filter_reverse, List.map_reverse]
theorem nam_back (L : List Fd) : namL (L.reverse ++ L) = namL L ∧ namB (L.reverse ++ L) = namB L := by
  unfold namL namB namO
  rw [all_back]
  generalize fdAll L vaS = V
  have hm : ∀ v, v ∈ V.reverse ++ V ↔ v ∈ V := fun v => by rw [List.mem_append, List.mem_reverse]; exact or_self_iff
  have hin : ∀ x, inV (V.reverse ++ V) x ↔ inV V x := fun x => by
    constructor
    · rintro ⟨v, hv, h⟩; exact ⟨v, (hm v).1 hv, h⟩
    · rintro ⟨v, hv, h⟩; exact ⟨v, (hm v).2 hv, h⟩
  rcases nmv_spec V [] with ⟨h1, v, h2, h3⟩ | ⟨o, h1, h2, h3, h4⟩
  · rcases nmv_spec (V.reverse ++ V) [] with ⟨g1, _⟩ | ⟨p, g1, g2, _⟩
    · rw [h1, g1]; exact ⟨rfl, rfl⟩
    · exact absurd h3 (g2 v ((hm v).2 h2))
  · rcases nmv_spec (V.reverse ++ V) [] with ⟨g1, v, g2, g3⟩ | ⟨p, g1, g2, g3, g4⟩
    · exact absurd g3 (h2 v ((hm v).1 g2))
    · have e : p = o := srt_uniq (g3 List.Pairwise.nil) (h3 List.Pairwise.nil) fun x => by rw [g4 x, h4 x, hin x]
      rw [h1, g1, e]; exact ⟨rfl, rfl⟩
theorem tok_lowL {e : List UInt8} (h : allB tokB e = true) : allB tokB (lowL e) = true := by
  unfold allB lowL at *
  rw [List.all_eq_true] at h ⊢
  intro c hc
  obtain ⟨d, hd, rfl⟩ := List.mem_map.1 hc
  show tokB ((lowU d).toNat : Int) = true
  rw [tok_low]
  exact h d hd
/-- What is told of names: in order, small, tokens; none where there are none. -/
theorem nam_told (L : List Fd) : Srt (namL L) ∧ (∀ x ∈ namL L, lowL x = x ∧ (!x.isEmpty && allB tokB x) = true) ∧ (namB L = false → namL L = []) := by
  unfold namL namB namO
  rcases nmv_spec (fdAll L vaS) [] with ⟨h1, _⟩ | ⟨o, h1, h2, h3, h4⟩
  · rw [h1]
    exact ⟨List.Pairwise.nil, (fun _ h => absurd h (by simp)), fun _ => rfl⟩
  · rw [h1]
    refine ⟨h3 List.Pairwise.nil, fun x hx => ?_, fun h => by cases h⟩
    rcases (h4 x).1 hx with h | ⟨v, hv, E, hE, e, he, rfl⟩
    · cases h
    · have hg : ¬ badE e := fun hb => h2 v hv (.inr ⟨E, hE, e, he, hb⟩)
      unfold badE at hg
      refine ⟨lowL_twice e, ?_⟩
      have h5 : e.isEmpty = false ∧ allB tokB e = true := by
        cases h6 : e.isEmpty <;> cases h7 : allB tokB e <;> simp_all
      rw [tok_lowL h5.2, Bool.and_true]
      cases e with
      | nil => exact absurd h5.1 (by decide)
      | cons a r => rfl
theorem srt_at {L : List (List UInt8)} (h : Srt L) (j : Nat) (hj : j + 1 < L.length) : lesL L[j] L[j + 1] = true := List.pairwise_iff_getElem.1 h j (j + 1) (by omega) hj (by omega)

theorem nam_sz {L : List Fd} (h : FwF L) : ∀ x ∈ namL L, x.length ≤ 1000 := fun x hx => by
  unfold namL namO at hx
  obtain ⟨_, hv⟩ := fw_all h vaS
  rcases nmv_spec (fdAll L vaS) [] with ⟨h1, _⟩ | ⟨o, h1, h2, h3, h4⟩
  · rw [h1] at hx; cases hx
  · rw [h1] at hx
    rcases (h4 x).1 hx with q | ⟨v, hvm, E, hE, e, he, rfl⟩
    · cases q
    · have := ((split_good hE).1 e he).2
      have := hv v hvm
      rw [low_len]; omega
theorem not_leq {x y : List UInt8} (h : lesL x y = true) : (Op.bytesLess (mkS y).toList (mkS x).toList || ((mkS y).toList == (mkS x).toList)) = false := by
  obtain ⟨h1, h2⟩ := les_asymm h
  rw [Lib.toList_data, Lib.toList_data, mkS_list, mkS_list, ← les_bytes, h1, Bool.false_or, beq_eq_false_iff_ne]
  exact fun e => h2 e.symm

end Go.Proofs.Ytmpgenflohdghaa
end

/-
  Contracts of the reference's Match, Few, FewNames (layer 15).
-/
section
namespace Go.Proofs.Ytmpgenflohdghaa
open Go.RowKit
set_option linter.unusedSimpArgs false

def nmP (P : List Pk) : List (List UInt8) := P.map fun x => x.n.data.toList
theorem nmP_snoc (P : List Pk) (k : Nat) (h : k < P.length) : nmP (P.take (k + 1)) = nmP (P.take k) ++ [P[k].n.data.toList] := by
  unfold nmP
  rw [List.take_succ_eq_append_getElem h, List.map_append]; rfl
def FwP (P : List Pk) : Prop := P.length ≤ 1000 ∧ ∀ x ∈ P, x.n.size ≤ 10000
theorem fw_np {P : List Pk} (h : FwP P) : FwN (nmP P) := by
  refine ⟨by unfold nmP; rw [List.length_map]; exact h.1, fun x hx => ?_⟩
  obtain ⟨y, hy, rfl⟩ := List.mem_map.1 hx
  rw [← Lib.size_eq]
  exact h.2 y hy

set_option maxHeartbeats 8000000 in
set_option maxRecDepth 100000 in
theorem r_pkMatch (A B : Option Addr) (n c m d : Nat) (P : List Pk) (L : List Fd) (w : World) (h : SlK w A n c P) (h' : SlF w B m d L) (hP : FwP P) (hL : FwF L) :
    Calls Try.prog 18 #[.slice A n c, .slice B m d] w fun e w' => e = .returned (.bool (pkM P L)) ∧ Below w.heap.size w w' := by
  have hlen := h.len
  have hlem := h'.len
  subst hlen hlem
  have hD : pkM P L = pksB (pksL (nmP P) L) P := rfl
  have HD := Lib.hid hD
  have HF := Lib.hid h'
  have hPl := hP.1
  have HPK := Lib.hid h
  have hpl2 : (pksL (nmP P) L).length ≤ 1000 := by unfold pksL nmP; rw [List.length_map, List.length_map]; exact hPl
  have C1 := Lib.hid (fun W A' c' (hW : SlS W A' (nmP P).length c' (nmP P)) (hF : SlF W B L.length d L) => r_picks A' B (nmP P).length c' L.length d (nmP P) L W hW hF (fw_np hP) hL)
  have C2 := Lib.hid (fun W A' c' (hW : SlK W A' (pksL (nmP P) L).length c' (pksL (nmP P) L)) (hK : SlK W A P.length c P) => r_pkSame A' A _ c' _ c (pksL (nmP P) L) P W hW hK (by omega))
  have HPZ := Lib.hid hP
  unfold IsPk at C1
  clear hD h' hL hP
  generalize pkM P L = R at *
  generalize hPX : pksL (nmP P) L = PX at *
  clear hPX
  go_enter Try.func18, Try.ntmps18
  go_wp2_with fail
  go_loopw [5, 6] (fun v i wr => ∃ k : Nat, k ≤ P.length ∧ i = .int .i64 k ∧ Hid (OwnS wr w.heap.size 9 v (nmP (P.take k))) ∧ Hid (Below w.heap.size w wr)) (fun _ i _ => P.length - (intOf i).toNat)
  case atStart => exact ⟨0, Nat.zero_le _, rfl, OwnS.nil _ _ _, Below.refl _ _⟩
  case round =>
    obtain ⟨k, hk, rfl, HO, HB⟩ := hrel
    by_cases hlt : k < P.length
    · obtain ⟨ad, rfl, hc⟩ := h.at_ (by omega)
      have hcell := cell_kept HB.out (hc k P[k] (List.getElem?_eq_getElem hlt)).1
      have hi0 : (0 : Int) ≤ (k : Int) := by omega
      have hi1 : (k : Int) < (P.length : Int) := by omega
      have HT := Lib.hid (nmP_snoc P k hlt)
      have hXl : (nmP (P.take k)).length ≤ 1000 := by unfold nmP; rw [List.length_map, List.length_take]; omega
      generalize P[k] = x at *
      obtain ⟨xn, xh, xv⟩ := x
      simp only at hcell HT
      generalize nmP (P.take k) = X at *
      clear hc
      go_wp2_with (at_builtin; refine wpList_append_sls rfl _ _ _ rfl w.heap.size 9 Try.underlying25 (by kernel_rfl) _ rfl X (HO.out.alloc _) _ _ _ rfl [xn.data.toList] (SlS.text _ _ _) (by simp; omega) (by simp; have := HB.out.size; omega) w (HB.out.alloc HB.out.size _) ?_; intro v1 w3 ho1 hb1 hz1)
      go_roundw
      case rel => exact ⟨k + 1, by omega, by go_num, by show OwnS _ _ _ _ _; rw [HT.out]; exact ho1.out, hb1⟩
      case measure => simp [intOf]; omega
    · have hTk : P.take k = P := List.take_of_length_le (by omega)
      rw [hTk] at HO
      obtain ⟨A1, c1, hv, hS, _⟩ := HO.out.sls
      subst hv
      have HS := Lib.hid hS
      have hi1 : ¬ (k : Int) < (P.length : Int) := by omega
      clear hS HO
      go_wp2_with fail
      refine (C1.out _ _ _ HS.out (HF.out.below HB.out)).mono ?_
      rintro e w2 ⟨A2, c2, rfl, hK, hb⟩
      have HK := Lib.hid hK
      have HB := Lib.hid (below_then HB.out hb)
      clear hK hb
      go_wp2_with fail
      refine (C2.out _ _ _ HK.out (HPK.out.below HB.out)).mono ?_
      rintro e w3 ⟨rfl, hb⟩
      have HB := Lib.hid (below_then HB.out hb)
      clear hb
      go_wp2_with fail
      go_ret
      exact ⟨by rw [HD.out]; rfl, HB.out⟩

/-- Few picks, and short ones; few names, and short ones. -/
def fewK (P : List Pk) : Bool := decide (P.length ≤ 30) && P.all fun x => decide (x.n.size ≤ 500) && decide (x.v.size ≤ 500)
def fewN (N : List (List UInt8)) : Bool := decide (N.length ≤ 30) && N.all fun x => decide (x.length ≤ 500)
theorem fewK_no {P : List Pk} {x : Pk} (hx : x ∈ P) (h : ¬ (x.n.size ≤ 500 ∧ x.v.size ≤ 500)) : fewK P = false := by
  unfold fewK
  rw [Bool.and_eq_false_iff]
  right
  rw [List.all_eq_false]
  exact ⟨x, hx, by simp only [Bool.and_eq_true, decide_eq_true_eq]; exact h⟩
theorem fewN_no {N : List (List UInt8)} {x : List UInt8} (hx : x ∈ N) (h : ¬ x.length ≤ 500) : fewN N = false := by
  unfold fewN
  rw [Bool.and_eq_false_iff]
  right
  rw [List.all_eq_false]
  exact ⟨x, hx, by simp only [decide_eq_true_eq]; exact h⟩

set_option maxHeartbeats 8000000 in
set_option maxRecDepth 100000 in
theorem r_few (A : Option Addr) (n c : Nat) (P : List Pk) (w : World) (h : SlK w A n c P) :
    Calls Try.prog 13 #[.slice A n c, .int .i64 30, .int .i64 500] w fun e w' => e = .returned (.bool (fewK P)) ∧ Below w.heap.size w w' := by
  have hlen := h.len
  have hle := h.le
  unfold maxLen at hle
  subst hlen
  go_enter Try.func13, Try.ntmps13
  go_wp2_with fail
  go_loopw [7] (fun i wr => ∃ k : Nat, k ≤ P.length ∧ k ≤ 31 ∧ i = .int .i64 k ∧ Hid (∀ x ∈ P.take k, x.n.size ≤ 500 ∧ x.v.size ≤ 500) ∧ Hid (Below w.heap.size w wr)) (fun i _ => P.length - (intOf i).toNat)
  case atStart => exact ⟨0, Nat.zero_le _, Nat.zero_le _, rfl, (fun x hx => absurd hx (by simp)), Below.refl _ _⟩
  case round =>
    obtain ⟨k, hk, hk31, rfl, hf, HB⟩ := hrel
    have hi0 : (0 : Int) ≤ (k : Int) := by omega
    by_cases hlt : k < P.length
    · have hi1 : (k : Int) < (P.length : Int) := by omega
      by_cases hm : k ≤ 30
      · have hi2 : (k : Int) ≤ 30 := by omega
        obtain ⟨ad, rfl, hc⟩ := h.at_ (by omega)
        obtain ⟨hc0, _, hc2⟩ := hc k P[k] (List.getElem?_eq_getElem hlt)
        have hcell0 := cell_kept HB.out hc0
        have hcell2 := pk_at2 (cell_kept HB.out hc2)
        have hmem : P[k] ∈ P := List.getElem_mem hlt
        have HST : Hid (P[k].n.size ≤ 500 ∧ P[k].v.size ≤ 500 → ∀ x ∈ P.take (k + 1), x.n.size ≤ 500 ∧ x.v.size ≤ 500) := fun hx x hm => by
          rw [List.take_succ_eq_append_getElem hlt, List.mem_append, List.mem_singleton] at hm
          rcases hm with hm | rfl
          · exact hf.out x hm
          · exact hx
        have HNO : Hid (¬ (P[k].n.size ≤ 500 ∧ P[k].v.size ≤ 500) → fewK P = false) := fun hn => fewK_no hmem hn
        generalize P[k] = x at *
        obtain ⟨xn, xh, xv⟩ := x
        simp only at hcell0 hcell2 HST HNO
        clear hc hc0 hc2 hmem hf
        by_cases h1 : xn.size ≤ 500
        · have h1i : ¬ (500 : Int) < (xn.size : Int) := by omega
          by_cases h2 : xv.size ≤ 500
          · have h2i : ¬ (500 : Int) < (xv.size : Int) := by omega
            have HN := Lib.hid (HST.out ⟨h1, h2⟩)
            clear h1 h2 HST HNO
            go_wp2_with fail
            go_roundw
            case rel => exact ⟨k + 1, by omega, by omega, by go_num, HN.out, HB.out⟩
            case measure => simp [intOf]; omega
          · have h2i : (500 : Int) < (xv.size : Int) := by omega
            have HN := Lib.hid (HNO.out (fun q => h2 q.2))
            clear h1 h2 HST HNO
            go_wp2_with fail
            go_ret
            exact ⟨by rw [HN.out]; rfl, HB.out⟩
        · have h1i : (500 : Int) < (xn.size : Int) := by omega
          have HN := Lib.hid (HNO.out (fun q => h1 q.1))
          clear h1 HST HNO
          go_wp2_with fail
          go_ret
          exact ⟨by rw [HN.out]; rfl, HB.out⟩
      · have hi2 : ¬ (k : Int) ≤ 30 := by omega
        have hi3 : ¬ (P.length : Int) ≤ 30 := by omega
        have HN : Hid (fewK P = false) := by show _ = _; unfold fewK; rw [decide_eq_false (by omega)]; rfl
        clear hf
        go_wp2_with fail
        go_ret
        exact ⟨by rw [HN.out]; rfl, HB.out⟩
    · have hi1 : ¬ (k : Int) < (P.length : Int) := by omega
      rw [List.take_of_length_le (by omega)] at hf
      by_cases hm : P.length ≤ 30
      · have hi3 : (P.length : Int) ≤ 30 := by omega
        have HN : Hid (fewK P = true) := by
          show _ = _
          unfold fewK
          rw [decide_eq_true hm, Bool.true_and, List.all_eq_true]
          intro x hx
          have := hf.out x hx
          simp only [Bool.and_eq_true, decide_eq_true_eq]
          exact this
        clear hf
        go_wp2_with fail
        go_ret
        exact ⟨by rw [HN.out]; rfl, HB.out⟩
      · have hi3 : ¬ (P.length : Int) ≤ 30 := by omega
        have HN : Hid (fewK P = false) := by show _ = _; unfold fewK; rw [decide_eq_false hm]; rfl
        clear hf
        go_wp2_with fail
        go_ret
        exact ⟨by rw [HN.out]; rfl, HB.out⟩

set_option maxHeartbeats 8000000 in
set_option maxRecDepth 100000 in
theorem r_fewN (A : Option Addr) (n c : Nat) (N : List (List UInt8)) (w : World) (h : SlS w A n c N) :
    Calls Try.prog 12 #[.slice A n c, .int .i64 30, .int .i64 500] w fun e w' => e = .returned (.bool (fewN N)) ∧ Below w.heap.size w w' := by
  have hlen := h.len
  have hle := h.le
  unfold maxLen at hle
  subst hlen
  go_enter Try.func12, Try.ntmps12
  go_wp2_with fail
  go_loopw [7] (fun i wr => ∃ k : Nat, k ≤ N.length ∧ k ≤ 31 ∧ i = .int .i64 k ∧ Hid (∀ x ∈ N.take k, x.length ≤ 500) ∧ Hid (Below w.heap.size w wr)) (fun i _ => N.length - (intOf i).toNat)
  case atStart => exact ⟨0, Nat.zero_le _, Nat.zero_le _, rfl, (fun x hx => absurd hx (by simp)), Below.refl _ _⟩
  case round =>
    obtain ⟨k, hk, hk31, rfl, hf, HB⟩ := hrel
    have hi0 : (0 : Int) ≤ (k : Int) := by omega
    by_cases hlt : k < N.length
    · have hi1 : (k : Int) < (N.length : Int) := by omega
      by_cases hm : k ≤ 30
      · have hi2 : (k : Int) ≤ 30 := by omega
        obtain ⟨ad, rfl, hc⟩ := h.at_ (by omega)
        have hcell := cell_kept HB.out (hc k N[k] (List.getElem?_eq_getElem hlt))
        have hmem : N[k] ∈ N := List.getElem_mem hlt
        have HST : Hid (N[k].length ≤ 500 → ∀ x ∈ N.take (k + 1), x.length ≤ 500) := fun hx x hm => by
          rw [List.take_succ_eq_append_getElem hlt, List.mem_append, List.mem_singleton] at hm
          rcases hm with hm | rfl
          · exact hf.out x hm
          · exact hx
        have HNO : Hid (¬ N[k].length ≤ 500 → fewN N = false) := fun hn => fewN_no hmem hn
        generalize N[k] = x at *
        have hxs := mkS_size x
        generalize mkS x = xs at *
        clear hc hmem hf
        by_cases h1 : x.length ≤ 500
        · have h1i : ¬ (500 : Int) < (xs.size : Int) := by omega
          have HN := Lib.hid (HST.out h1)
          clear h1 HST HNO hxs
          go_wp2_with fail
          go_roundw
          case rel => exact ⟨k + 1, by omega, by omega, by go_num, HN.out, HB.out⟩
          case measure => simp [intOf]; omega
        · have h1i : (500 : Int) < (xs.size : Int) := by omega
          have HN := Lib.hid (HNO.out h1)
          clear h1 HST HNO hxs
          go_wp2_with fail
          go_ret
          exact ⟨by rw [HN.out]; rfl, HB.out⟩
      · have hi2 : ¬ (k : Int) ≤ 30 := by omega
        have hi3 : ¬ (N.length : Int) ≤ 30 := by omega
        have HN : Hid (fewN N = false) := by show _ = _; unfold fewN; rw [decide_eq_false (by omega)]; rfl
        clear hf
        go_wp2_with fail
        go_ret
        exact ⟨by rw [HN.out]; rfl, HB.out⟩
    · have hi1 : ¬ (k : Int) < (N.length : Int) := by omega
      rw [List.take_of_length_le (by omega)] at hf
      by_cases hm : N.length ≤ 30
      · have hi3 : (N.length : Int) ≤ 30 := by omega
        have HN : Hid (fewN N = true) := by
          show _ = _
          unfold fewN
          rw [decide_eq_true hm, Bool.true_and, List.all_eq_true]
          intro x hx
          have := hf.out x hx
          simp only [decide_eq_true_eq]
          exact this
        clear hf
        go_wp2_with fail
        go_ret
        exact ⟨by rw [HN.out]; rfl, HB.out⟩
      · have hi3 : ¬ (N.length : Int) ≤ 30 := by omega
        have HN : Hid (fewN N = false) := by show _ = _; unfold fewN; rw [decide_eq_false hm]; rfl
        clear hf
        go_wp2_with fail
        go_ret
        exact ⟨by rw [HN.out]; rfl, HB.out⟩

end Go.Proofs.Ytmpgenflohdghaa
end

/-
  Plain facts of layer 15: a request matches its own picks, with names in small letters and one more field too.
-/
section
namespace Go.Proofs.Ytmpgenflohdghaa
open Go.RowKit

theorem nm_pks (N : List (List UInt8)) (L : List Fd) : nmP (pksL N L) = N := by
  unfold nmP pksL
  rw [List.map_map]
  conv => rhs; rw [← List.map_id N]
  refine List.map_congr_left fun x _ => ?_
  show (mkS x).data.toList = x
  exact mkS_list x
theorem own_match (N : List (List UInt8)) (L : List Fd) : pkM (pksL N L) L = true := by
  have : pkM (pksL N L) L = pksB (pksL (nmP (pksL N L)) L) (pksL N L) := rfl
  rw [this, nm_pks]
  exact pksB_refl _
theorem none_match (L : List Fd) : pkM [] L = true := rfl
/-- A field with its name in small letters. -/
def loF (x : Fd) : Fd := (mkS (lowL x.1.data.toList), x.2)
theorem lo_same (x : Fd) (name : ByteArray) : sameB (loF x).1 name = sameB x.1 name := by
  unfold sameB loF
  simp only [mkS_list]
  rw [lowL_twice]
theorem lo_all (L : List Fd) (name : ByteArray) : fdAll (L.map loF) name = fdAll L name := by
  induction L with
  | nil => rfl
  | cons x L ih =>
    unfold fdAll at ih ⊢
    rw [List.map_cons, List.filter_cons, List.filter_cons, lo_same]
    cases sameB x.1 name
    · exact ih
    · simp only [if_true, List.map_cons]
      rw [ih]; rfl
theorem more_all (f : Fd) (L : List Fd) (name : ByteArray) (h : sameB name f.1 = false) : fdAll (f :: L.map loF) name = fdAll L name := by
  have h2 : sameB f.1 name = false := by rw [same_symm]; exact h
  have : fdAll (f :: L.map loF) name = fdAll (L.map loF) name := by
    unfold fdAll
    rw [List.filter_cons, h2]; rfl
  rw [this, lo_all]
theorem more_match (N : List (List UInt8)) (f : Fd) (L : List Fd) (h : ∀ x ∈ N, sameB (mkS x) f.1 = false) : pkM (pksL N L) (f :: L.map loF) = true := by
  have : pkM (pksL N L) (f :: L.map loF) = pksB (pksL (nmP (pksL N L)) (f :: L.map loF)) (pksL N L) := rfl
  rw [this, nm_pks]
  have e : pksL N (f :: L.map loF) = pksL N L := by
    unfold pksL
    refine List.map_congr_left fun x hx => ?_
    unfold pkOf
    rw [more_all f L (mkS x) (h x hx)]
  rw [e]
  exact pksB_refl _
theorem pks_fw {N : List (List UInt8)} (h : FwN N) (L : List Fd) : FwP (pksL N L) := by
  refine ⟨by unfold pksL; rw [List.length_map]; exact h.1, fun x hx => ?_⟩
  obtain ⟨y, hy, rfl⟩ := List.mem_map.1 hx
  show (mkS y).size ≤ _
  rw [mkS_size]
  exact h.2 y hy
theorem lo_take (L : List Fd) (k : Nat) (h : k < L.length) : (L.take (k + 1)).map loF = (L.take k).map loF ++ [loF L[k]] := by
  rw [List.take_succ_eq_append_getElem h, List.map_append]; rfl
/-- A literal of one field is the call's own. -/
theorem ownF_one (w : World) (t : TypeId) (x : Fd) {base : Nat} (hb : base ≤ w.heap.size) : OwnF (w.alloc (.cells #[.string x.1, .string x.2] t)) base t (.slice (some ⟨w.heap.size, 0, none⟩) 1 1) [x] :=
  ⟨rfl, .inr ⟨w.heap.size, 1, _, rfl, hb, heap_alloc_new w _, Nat.le_refl _, by decide, rfl, rfl⟩⟩
theorem slf_oneAt (w : World) (t : TypeId) (x : Fd) (hz : x.1.size ≤ maxLen ∧ x.2.size ≤ maxLen) {g : Nat} (hg : w.heap.size = g) : SlF (w.alloc (.cells #[.string x.1, .string x.2] t)) (some ⟨g, 0, none⟩) 1 1 [x] := by
  subst hg
  exact SlF.one w t x hz
theorem fd_set0 {W : World} {g t : Nat} {c0 c1 b : Value} (h : W.heap[g]? = some (.cells #[c0, c1] t (0, 0))) : (W.setCell ⟨g, 0, none⟩ b).heap[g]? = some (.cells #[b, c1] t (0, 0)) := by
  simp [World.setCell, Array.getElem?_modify, h]
theorem fd_fz {W : World} {g k t : Nat} {cs : Array Value} (h : W.heap[g]? = some (.cells cs t (0, 0))) : W.frozen? ⟨g, k, none⟩ = false := by simp [World.frozen?, h]

end Go.Proofs.Ytmpgenflohdghaa
end
