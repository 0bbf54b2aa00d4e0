/-
  Texts that the laws of this seat lean on, one behind the other.
-/
import Derived.Test.YtjcomlklmfeimaaGreatDoorMrgP
import Derived.Test.YtjcomlklmfeimaaGreatDoorMrgR
import Derived.Test.YtjcomlklmfeimaaGreatDoorMrgK
import Derived.Deep.RegionHeld3
import Derived.Test.YtjcomlklmfeimaaGreatDoorMrgM
/-
  Contracts of package fields' Line, long, alike; the tests that choose, IndexFunc and ContainsFunc are handed.
-/
section
namespace Go.Proofs.YtjcomlklmfeimaaGreatDoor
open Go.RowKit

theorem line_any (x : Fd) (hz : x.1.size + 2 + x.2.size ≤ 9223372036854775807) (w : World) :
    Calls Tryz.prog 83 #[fdV x] w fun e w' => e = .returned (.string (lineS x)) ∧ Below w.heap.size w w' := by
  obtain ⟨a, b⟩ := x
  have hD : lineS (a, b) = a ++ (⟨#[58, 32]⟩ : ByteArray) ++ b := rfl
  rw [hD]
  unfold fdV
  have hy : a.size + 2 + b.size ≤ 9223372036854775807 := hz
  clear hz
  have zz : (a ++ (⟨#[58, 32]⟩ : ByteArray)).size = a.size + 2 := by rw [ByteArray.size_append]; rfl
  have k1 : ¬ 9223372036854775807 < a.size + 2 := by omega
  have k2 : ¬ 9223372036854775807 < a.size + 2 + b.size := by omega
  go_enter Tryz.func83, Tryz.ntmps83
  go_wp2_with fail
  go_ret
  exact ⟨rfl, (Below.refl _ _).alloc (Nat.le_refl _) _⟩

theorem long_any (x : Fd) (hz : x.1.size + 2 + x.2.size ≤ 9223372036854775807) (w : World) :
    Calls Tryz.prog 122 #[fdV x] w fun e w' => e = .returned (.bool (lngF x)) ∧ Below w.heap.size w w' := by
  have cl := fun W => line_any x hz W
  have hS := line_size x
  have hD : lngF x = decide ((8192 : Int) < ((lineS x).size : Int)) := by
    unfold lngF
    rw [hS]
    by_cases h : 8192 < x.1.size + 2 + x.2.size
    · rw [decide_eq_true h, decide_eq_true (by omega)]
    · rw [decide_eq_false h, decide_eq_false (by omega)]
  rw [hD]
  generalize lineS x = S at *
  obtain ⟨a, b⟩ := x
  unfold fdV at *
  have hb0 : Below w.heap.size w (w.alloc (.cells #[.string a, .string b] 105)) := (Below.refl _ _).alloc (Nat.le_refl _) _
  have CL := Lib.hid cl
  clear cl hS hD
  go_enter Tryz.func122, Tryz.ntmps122
  go_wp2_with fail
  refine (CL.out _).mono ?_
  rintro e w1 ⟨rfl, hb1⟩
  go_wp2_with fail
  all_goals
    go_ret
    exact ⟨by simp_all, below_then hb0 hb1⟩

/-! ### The tests -/
theorem enters_named : ∀ args W, (callFunc 158 args).run Tryz.prog W = .ok (.enter 158 args) W := Go.Proofs.enters_of Tryz.func158 (by kernel_rfl) rfl
theorem enters_not : ∀ args W, (callFunc 148 args).run Tryz.prog W = .ok (.enter 148 args) W := Go.Proofs.enters_of Tryz.func148 (by kernel_rfl) rfl
theorem enters_long : ∀ args W, (callFunc 122 args).run Tryz.prog W = .ok (.enter 122 args) W := Go.Proofs.enters_of Tryz.func122 (by kernel_rfl) rfl
theorem enters_proper : ∀ args W, (callFunc 100 args).run Tryz.prog W = .ok (.enter 100 args) W := Go.Proofs.enters_of Tryz.func100 (by kernel_rfl) rfl
theorem named_pred (w : World) (a : Nat) (A : Option Addr) (n c : Nat) (names : List (List UInt8)) (ha : w.cell? ⟨a, 0, none⟩ = some (.slice A n c)) (h : SlS w A n c names) (hz : ∀ x ∈ names, x.length ≤ maxLen) (hn : n ≤ 1000000000) :
    PredF w 158 #[.pointer (some ⟨a, 0, none⟩)] (nmd names) := fun W x hb h1 =>
  named_in a A n c names W (cell_kept hb ha) (h.below hb) hz hn x h1.one
theorem long_pred (w : World) : PredF w 122 #[] lngF := fun W x _ h1 => long_any x (by have := h1.1; have := h1.2; omega) W
theorem proper_pred (w : World) : PredF w 100 #[] prpF := fun W x _ h1 => proper_any x h1.one h1.two W
theorem not_pred (w : World) (a : Nat) (g : Nat) (caps : Array Value) (p : Fd → Bool) (ha : w.cell? ⟨a, 0, none⟩ = some (.func (.func g) #[] caps))
    (eg : ∀ args W, (callFunc g args).run Tryz.prog W = .ok (.enter g args) W) (hp : PredF w g caps p) :
    PredF w 148 #[.pointer (some ⟨a, 0, none⟩)] (fun x => !p x) := fun W x hb h1 => by
  have ha' := cell_kept hb ha
  have hb0 : Below W.heap.size W (W.alloc (.cells #[.string x.1, .string x.2] 105)) := (Below.refl _ _).alloc (Nat.le_refl _) _
  have hcall := hp (W.alloc (.cells #[.string x.1, .string x.2] 105)) x (hb.alloc hb.size _) h1
  have ha2 := Lib.cell?_alloc_some (.cells #[.string x.1, .string x.2] 105) ha'
  obtain ⟨f, v⟩ := x
  show Calls Tryz.prog 148 #[fdV (f, v), .pointer (some ⟨a, 0, none⟩)] W (fun e w' => e = .returned (.bool (!p (f, v))) ∧ Below W.heap.size W w')
  unfold fdV at *
  have HC := Lib.hid hcall
  clear hcall hp
  generalize p (f, v) = q at *
  cases q
  all_goals
    go_enter Tryz.func148, Tryz.ntmps148
    go_wp2_with fail
    refine HC.out.mono ?_
    rintro e w1 ⟨rfl, hb1⟩
    go_wp2_with fail
    go_ret
    exact ⟨rfl, below_then hb0 hb1⟩

end Go.Proofs.YtjcomlklmfeimaaGreatDoor
end

/-
  Contracts of package fields' Drop, All, Get, Has.
-/
section
namespace Go.Proofs.YtjcomlklmfeimaaGreatDoor
open Go.RowKit

theorem drop_any (A B : Option Addr) (n c m d : Nat) (L : List Fd) (names : List (List UInt8)) (w : World) (h : SlF w A n c L) (hn : n ≤ 100000000) (hB : ∀ x ∈ L, Bd x)
    (h' : SlS w B m d names) (hz : ∀ x ∈ names, x.length ≤ maxLen) (hm : m ≤ 1000000000) :
    Calls Tryz.prog 105 #[.slice A n c, .slice B m d] w fun e w' => ∃ v, e = .returned v ∧ OwnF w' w.heap.size 105 v (fdDrop L names) ∧ Below w.heap.size w w' := by
  have hb1 : Below w.heap.size w (w.alloc (.cells #[.slice B m d] 57)) := (Below.refl _ _).alloc (Nat.le_refl _) _
  have hb2 : Below w.heap.size w ((w.alloc (.cells #[.slice B m d] 57)).alloc (.cells #[.func (.func 158) #[] #[.pointer (some ⟨w.heap.size, 0, none⟩)]] 138)) := hb1.alloc (by simp) _
  have p1 : PredF ((w.alloc (.cells #[.slice B m d] 57)).alloc (.cells #[.func (.func 158) #[] #[.pointer (some ⟨w.heap.size, 0, none⟩)]] 138)) 158 #[.pointer (some ⟨w.heap.size, 0, none⟩)] (nmd names) :=
    named_pred _ w.heap.size B m d names (Lib.cell?_alloc_some _ (zero_one (heap_alloc_new w _))) (h'.below hb2) hz hm
  have p2 := not_pred ((w.alloc (.cells #[.slice B m d] 57)).alloc (.cells #[.func (.func 158) #[] #[.pointer (some ⟨w.heap.size, 0, none⟩)]] 138)) (w.heap.size + 1) 158 _ _ (zero_one (heap_alloc2_new w _ _)) enters_named p1
  have hq := choose_any A n c L _ (h.below hb2) hn hB 148 _ _ enters_not p2
  have hs2 : ((w.alloc (.cells #[.slice B m d] 57)).alloc (.cells #[.func (.func 158) #[] #[.pointer (some ⟨w.heap.size, 0, none⟩)]] 138)).heap.size = w.heap.size + 2 := by simp
  have HQ := Lib.hid hq
  have HB2 := Lib.hid hb2
  have HS2 := Lib.hid hs2
  have hD : fdDrop L names = L.filter fun x => !nmd names x := rfl
  rw [hD]
  generalize (L.filter fun x => !nmd names x) = R at *
  clear hq hb1 hb2 hs2 p1 p2 hD
  go_enter Tryz.func105, Tryz.ntmps105
  go_wp2_with fail
  refine (named_any B m d _ rfl _).mono ?_
  rintro e w1 ⟨rfl, rfl⟩
  go_wp2_with fail
  refine (not_any _ _ _ rfl _).mono ?_
  rintro e w1 ⟨rfl, rfl⟩
  go_wp2_with fail
  refine HQ.out.mono ?_
  rintro e w1 ⟨v, rfl, ho, hb⟩
  rw [HS2.out] at ho
  have HO := Lib.hid ho
  have HB := Lib.hid (HB2.out.trans (hb.mono (by rw [HS2.out]; omega)))
  clear ho hb
  go_wp2_with fail
  go_ret
  exact ⟨v, rfl, HO.out.wide (by omega), HB.out⟩

theorem SlS.textAt (w : World) (t : TypeId) (x : ByteArray) {g : Nat} (hg : w.heap.size = g) : SlS (w.alloc (.cells #[.string x] t)) (some ⟨g, 0, none⟩) 1 1 [x.data.toList] := by
  subst hg
  exact SlS.text w t x
/-- What All answers. -/
def Vals (w : World) (X : List (List UInt8)) (e : Ending) (w' : World) : Prop :=
  ∃ A c, e = .returned (.slice A X.length c) ∧ SlS w' A X.length c X ∧ Head w' A ∧ Below w.heap.size w w'

set_option maxHeartbeats 4000000 in
set_option maxRecDepth 100000 in
theorem all_any (A : Option Addr) (n c : Nat) (L : List Fd) (name : ByteArray) (w : World) (h : SlF w A n c L) (hn : n ≤ 100000000) (hB : ∀ x ∈ L, Bd x) (hz : name.size ≤ maxLen) :
    Calls Tryz.prog 101 #[.slice A n c, .string name] w (Vals w (fdAll L name)) := by
  have hb1 : Below w.heap.size w (w.alloc (.cells #[.string name] 9)) := (Below.refl _ _).alloc (Nat.le_refl _) _
  have hb2 : Below w.heap.size w ((w.alloc (.cells #[.string name] 9)).alloc (.cells #[.slice (some ⟨w.heap.size, 0, none⟩) 1 1] 57)) := hb1.alloc (by simp) _
  have p1 : PredF ((w.alloc (.cells #[.string name] 9)).alloc (.cells #[.slice (some ⟨w.heap.size, 0, none⟩) 1 1] 57)) 158 #[.pointer (some ⟨w.heap.size + 1, 0, none⟩)] (nmd [name.data.toList]) :=
    named_pred _ (w.heap.size + 1) _ 1 1 [name.data.toList] (zero_one (heap_alloc2_new w _ _)) ((SlS.text w 9 name).alloc _) (fun x hx => by
      simp only [List.mem_singleton] at hx
      subst hx
      rw [← Lib.size_eq]; exact hz) (by decide)
  rw [nmd_one'] at p1
  have hq := choose_any A n c L _ (h.below hb2) hn hB 158 _ _ enters_named p1
  have hs2 : ((w.alloc (.cells #[.string name] 9)).alloc (.cells #[.slice (some ⟨w.heap.size, 0, none⟩) 1 1] 57)).heap.size = w.heap.size + 2 := by simp
  have HQ := Lib.hid hq
  have HB2 := Lib.hid hb2
  have HS2 := Lib.hid hs2
  have hD : fdAll L name = (L.filter fun x => sameB x.1 name).map fun x => x.2.data.toList := rfl
  rw [hD]
  have hlen : (L.filter fun x => sameB x.1 name).length ≤ 100000000 := Nat.le_trans (List.length_filter_le _ _) (by have := h.len; omega)
  have hsz : ∀ x ∈ (L.filter fun x => sameB x.1 name), x.1.size ≤ maxLen ∧ x.2.size ≤ maxLen := fun x hx => h.sz x ((List.mem_filter.1 hx).1)
  generalize (L.filter fun x => sameB x.1 name) = R at *
  clear hq hb1 hb2 hs2 p1 hD
  go_enter Tryz.func101, Tryz.ntmps101
  go_wp2_with fail
  refine (named_any _ 1 1 _ rfl _).mono ?_
  rintro e w1 ⟨rfl, rfl⟩
  go_wp2_with fail
  refine HQ.out.mono ?_
  rintro e w1 ⟨v, rfl, ho, hb⟩
  have hbw := HB2.out.trans (hb.mono (by rw [HS2.out]; omega))
  obtain ⟨A1, c1, rfl, hF⟩ := ho.slf hsz
  have HF := Lib.hid hF
  have HB := Lib.hid hbw
  clear ho hb hF hbw HQ HB2 HS2
  go_wp2_with fail
  go_loopw [5, 14] (fun v i wr => ∃ k : Nat, k ≤ R.length ∧ i = .int .i64 k ∧ Hid (OwnS wr w1.heap.size 9 v ((R.take k).map fun x => x.2.data.toList)) ∧ Below w1.heap.size w1 wr) (fun _ i _ => R.length - (intOf i).toNat)
  case atStart => exact ⟨0, Nat.zero_le _, rfl, OwnS.nil _ _ _, Below.refl _ _⟩
  case round =>
    obtain ⟨k, hk, rfl, hown, hbel⟩ := hrel
    by_cases hlt : k < R.length
    · obtain ⟨ad, rfl, hc⟩ := HF.out.at_ (by omega)
      obtain ⟨hc0, hc1⟩ := hc k R[k] (List.getElem?_eq_getElem hlt)
      have hcell0 := cell_kept hbel hc0
      have hcell1 := fd_snd (cell_kept hbel hc1)
      have HS : Hid ((R.take (k + 1)).map (fun x => x.2.data.toList) = (R.take k).map (fun x => x.2.data.toList) ++ [R[k].2.data.toList]) := by
        show _ = _
        rw [take_fd R k hlt, List.map_append]; rfl
      have hlx : ((R.take k).map fun x => x.2.data.toList).length ≤ k := by rw [List.length_map, List.length_take]; omega
      generalize R[k] = x at *
      obtain ⟨a, b⟩ := x
      generalize hX : ((R.take k).map fun x => x.2.data.toList) = X at *
      have hi0 : (0 : Int) ≤ (k : Int) := by omega
      have hi1 : (k : Int) < (R.length : Int) := by omega
      have HO := Lib.hid (hown.out.alloc (.cells #[.string a, .string b] 105))
      have HB5 := Lib.hid (hbel.alloc hbel.size (.cells #[.string a, .string b] 105))
      have hs5 := HB5.out.size
      have hs4 := hbel.size
      clear hc hc0 hc1 hown hX
      go_wp2_with (at_builtin; refine wpList_append_sls rfl _ _ _ rfl w1.heap.size 9 Tryz.underlying57 (by kernel_rfl) _ rfl X (HO.out.alloc _) _ _ _ rfl [b.data.toList] (SlS.textAt _ _ b (by simp)) (by simp; omega) (by simp; omega) w1 (HB5.out.alloc hs5 _) ?_; intro v1 w2 ho2 hb2 hz2)
      go_roundw
      case rel => exact ⟨k + 1, by omega, by go_num, by show OwnS _ _ _ _ _; rw [HS.out]; exact ho2.out, hb2⟩
      case measure => simp [intOf]; omega
    · have HE : Hid ((R.take k).map (fun x => x.2.data.toList) = R.map fun x => x.2.data.toList) := by
        show _ = _
        rw [List.take_of_length_le (by omega)]
      rw [HE.out] at hown
      go_wp2_with fail
      go_ret
      obtain ⟨A2, c2, rfl, hA, hH⟩ := hown.out.sls
      exact ⟨A2, c2, rfl, hA, hH, below_then HB.out hbel⟩

end Go.Proofs.YtjcomlklmfeimaaGreatDoor
end
