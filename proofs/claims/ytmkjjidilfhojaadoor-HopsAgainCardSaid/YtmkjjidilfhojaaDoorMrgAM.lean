/-
  Texts that the laws of this seat lean on, one behind the other.
-/
import Derived.Test.YtmkjjidilfhojaaDoorMrgAL
import Derived.Test.YtmkjjidilfhojaaDoorMrgW
/-
  Contracts of package fields' Drop, All, Get, Has.
-/
section
namespace Go.Proofs.YtmkjjidilfhojaaDoor
open Go.RowKit

theorem drop_any (A B : Option Addr) (n c m d : Nat) (L : List Fd) (names : List (List UInt8)) (w : World) (h : SlF w A n c L) (hn : n ≤ 100000000) (hB : ∀ x ∈ L, Bd x)
    (h' : SlS w B m d names) (hz : ∀ x ∈ names, x.length ≤ maxLen) (hm : m ≤ 1000000000) :
    Calls Tryd.prog 29 #[.slice A n c, .slice B m d] w fun e w' => ∃ v, e = .returned v ∧ OwnF w' w.heap.size 33 v (fdDrop L names) ∧ Below w.heap.size w w' := by
  have hb1 : Below w.heap.size w (w.alloc (.cells #[.slice B m d] 28)) := (Below.refl _ _).alloc (Nat.le_refl _) _
  have hb2 : Below w.heap.size w ((w.alloc (.cells #[.slice B m d] 28)).alloc (.cells #[.func (.func 40) #[] #[.pointer (some ⟨w.heap.size, 0, none⟩)]] 50)) := hb1.alloc (by simp) _
  have p1 : PredF ((w.alloc (.cells #[.slice B m d] 28)).alloc (.cells #[.func (.func 40) #[] #[.pointer (some ⟨w.heap.size, 0, none⟩)]] 50)) 40 #[.pointer (some ⟨w.heap.size, 0, none⟩)] (nmd names) :=
    named_pred _ w.heap.size B m d names (Lib.cell?_alloc_some _ (zero_one (heap_alloc_new w _))) (h'.below hb2) hz hm
  have p2 := not_pred ((w.alloc (.cells #[.slice B m d] 28)).alloc (.cells #[.func (.func 40) #[] #[.pointer (some ⟨w.heap.size, 0, none⟩)]] 50)) (w.heap.size + 1) 40 _ _ (zero_one (heap_alloc2_new w _ _)) enters_named p1
  have hq := choose_any A n c L _ (h.below hb2) hn hB 46 _ _ enters_not p2
  have hs2 : ((w.alloc (.cells #[.slice B m d] 28)).alloc (.cells #[.func (.func 40) #[] #[.pointer (some ⟨w.heap.size, 0, none⟩)]] 50)).heap.size = w.heap.size + 2 := by simp
  have HQ := Lib.hid hq
  have HB2 := Lib.hid hb2
  have HS2 := Lib.hid hs2
  have hD : fdDrop L names = L.filter fun x => !nmd names x := rfl
  rw [hD]
  generalize (L.filter fun x => !nmd names x) = R at *
  clear hq hb1 hb2 hs2 p1 p2 hD
  go_enter Tryd.func29, Tryd.ntmps29
  go_wp2_with fail
  refine (named_any B m d _ rfl _).mono ?_
  rintro e w1 ⟨rfl, rfl⟩
  go_wp2_with fail
  refine (not_any _ _ _ rfl _).mono ?_
  rintro e w1 ⟨rfl, rfl⟩
  go_wp2_with fail
  refine HQ.out.mono ?_
  rintro e w1 ⟨v, rfl, ho, hb⟩
  rw [HS2.out] at ho
  have HO := Lib.hid ho
  have HB := Lib.hid (HB2.out.trans (hb.mono (by rw [HS2.out]; omega)))
  clear ho hb
  go_wp2_with fail
  go_ret
  exact ⟨v, rfl, HO.out.wide (by omega), HB.out⟩

theorem SlS.textAt (w : World) (t : TypeId) (x : ByteArray) {g : Nat} (hg : w.heap.size = g) : SlS (w.alloc (.cells #[.string x] t)) (some ⟨g, 0, none⟩) 1 1 [x.data.toList] := by
  subst hg
  exact SlS.text w t x
/-- What All answers. -/
def Vals (w : World) (X : List (List UInt8)) (e : Ending) (w' : World) : Prop :=
  ∃ A c, e = .returned (.slice A X.length c) ∧ SlS w' A X.length c X ∧ Head w' A ∧ Below w.heap.size w w'

set_option maxHeartbeats 4000000 in
set_option maxRecDepth 100000 in
theorem all_any (A : Option Addr) (n c : Nat) (L : List Fd) (name : ByteArray) (w : World) (h : SlF w A n c L) (hn : n ≤ 100000000) (hB : ∀ x ∈ L, Bd x) (hz : name.size ≤ maxLen) :
    Calls Tryd.prog 20 #[.slice A n c, .string name] w (Vals w (fdAll L name)) := by
  have hb1 : Below w.heap.size w (w.alloc (.cells #[.string name] 9)) := (Below.refl _ _).alloc (Nat.le_refl _) _
  have hb2 : Below w.heap.size w ((w.alloc (.cells #[.string name] 9)).alloc (.cells #[.slice (some ⟨w.heap.size, 0, none⟩) 1 1] 28)) := hb1.alloc (by simp) _
  have p1 : PredF ((w.alloc (.cells #[.string name] 9)).alloc (.cells #[.slice (some ⟨w.heap.size, 0, none⟩) 1 1] 28)) 40 #[.pointer (some ⟨w.heap.size + 1, 0, none⟩)] (nmd [name.data.toList]) :=
    named_pred _ (w.heap.size + 1) _ 1 1 [name.data.toList] (zero_one (heap_alloc2_new w _ _)) ((SlS.text w 9 name).alloc _) (fun x hx => by
      simp only [List.mem_singleton] at hx
      subst hx
      rw [← Lib.size_eq]; exact hz) (by decide)
  rw [nmd_one'] at p1
  have hq := choose_any A n c L _ (h.below hb2) hn hB 40 _ _ enters_named p1
  have hs2 : ((w.alloc (.cells #[.string name] 9)).alloc (.cells #[.slice (some ⟨w.heap.size, 0, none⟩) 1 1] 28)).heap.size = w.heap.size + 2 := by simp
  have HQ := Lib.hid hq
  have HB2 := Lib.hid hb2
  have HS2 := Lib.hid hs2
  have hD : fdAll L name = (L.filter fun x => sameB x.1 name).map fun x => x.2.data.toList := rfl
  rw [hD]
  have hlen : (L.filter fun x => sameB x.1 name).length ≤ 100000000 := Nat.le_trans (List.length_filter_le _ _) (by have := h.len; omega)
  have hsz : ∀ x ∈ (L.filter fun x => sameB x.1 name), x.1.size ≤ maxLen ∧ x.2.size ≤ maxLen := fun x hx => h.sz x ((List.mem_filter.1 hx).1)
  generalize (L.filter fun x => sameB x.1 name) = R at *
  clear hq hb1 hb2 hs2 p1 hD
  go_enter Tryd.func20, Tryd.ntmps20
  go_wp2_with fail
  refine (named_any _ 1 1 _ rfl _).mono ?_
  rintro e w1 ⟨rfl, rfl⟩
  go_wp2_with fail
  refine HQ.out.mono ?_
  rintro e w1 ⟨v, rfl, ho, hb⟩
  have hbw := HB2.out.trans (hb.mono (by rw [HS2.out]; omega))
  obtain ⟨A1, c1, rfl, hF⟩ := ho.slf hsz
  have HF := Lib.hid hF
  have HB := Lib.hid hbw
  clear ho hb hF hbw HQ HB2 HS2
  go_wp2_with fail
  go_loopw [5, 14] (fun v i wr => ∃ k : Nat, k ≤ R.length ∧ i = .int .i64 k ∧ Hid (OwnS wr w1.heap.size 9 v ((R.take k).map fun x => x.2.data.toList)) ∧ Below w1.heap.size w1 wr) (fun _ i _ => R.length - (intOf i).toNat)
  case atStart => exact ⟨0, Nat.zero_le _, rfl, OwnS.nil _ _ _, Below.refl _ _⟩
  case round =>
    obtain ⟨k, hk, rfl, hown, hbel⟩ := hrel
    by_cases hlt : k < R.length
    · obtain ⟨ad, rfl, hc⟩ := HF.out.at_ (by omega)
      obtain ⟨hc0, hc1⟩ := hc k R[k] (List.getElem?_eq_getElem hlt)
      have hcell0 := cell_kept hbel hc0
      have hcell1 := fd_snd (cell_kept hbel hc1)
      have HS : Hid ((R.take (k + 1)).map (fun x => x.2.data.toList) = (R.take k).map (fun x => x.2.data.toList) ++ [R[k].2.data.toList]) := by
        show _ = _
        rw [take_fd R k hlt, List.map_append]; rfl
      have hlx : ((R.take k).map fun x => x.2.data.toList).length ≤ k := by rw [List.length_map, List.length_take]; omega
      generalize R[k] = x at *
      obtain ⟨a, b⟩ := x
      generalize hX : ((R.take k).map fun x => x.2.data.toList) = X at *
      have hi0 : (0 : Int) ≤ (k : Int) := by omega
      have hi1 : (k : Int) < (R.length : Int) := by omega
      have HO := Lib.hid (hown.out.alloc (.cells #[.string a, .string b] 33))
      have HB5 := Lib.hid (hbel.alloc hbel.size (.cells #[.string a, .string b] 33))
      have hs5 := HB5.out.size
      have hs4 := hbel.size
      clear hc hc0 hc1 hown hX
      go_wp2_with (at_builtin; refine wpList_append_sls rfl _ _ _ rfl w1.heap.size 9 Tryd.underlying28 (by kernel_rfl) _ rfl X (HO.out.alloc _) _ _ _ rfl [b.data.toList] (SlS.textAt _ _ b (by simp)) (by simp; omega) (by simp; omega) w1 (HB5.out.alloc hs5 _) ?_; intro v1 w2 ho2 hb2 hz2)
      go_roundw
      case rel => exact ⟨k + 1, by omega, by go_num, by show OwnS _ _ _ _ _; rw [HS.out]; exact ho2.out, hb2⟩
      case measure => simp [intOf]; omega
    · have HE : Hid ((R.take k).map (fun x => x.2.data.toList) = R.map fun x => x.2.data.toList) := by
        show _ = _
        rw [List.take_of_length_le (by omega)]
      rw [HE.out] at hown
      go_wp2_with fail
      go_ret
      obtain ⟨A2, c2, rfl, hA, hH⟩ := hown.out.sls
      exact ⟨A2, c2, rfl, hA, hH, below_then HB.out hbel⟩

end Go.Proofs.YtmkjjidilfhojaaDoor
end
