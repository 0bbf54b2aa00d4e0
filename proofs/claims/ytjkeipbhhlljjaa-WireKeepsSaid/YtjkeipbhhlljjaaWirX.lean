/-
  The page's example answers true (the law's 'carries').
-/
import Derived.Test.YtjkeipbhhlljjaaWirF
import Derived.Test.YtjkeipbhhlljjaaWirT
import Derived.Test.YtjkeipbhhlljjaaWirU
namespace Go.Proofs.Ytjkeipbhhlljjaa
open Go.RowKit

theorem ex1 : putL [] 258 2 = [2, 1] ∧ putE 258 2 = 0 := by decide +kernel
theorem ex2 : getV [2, 1] 0 2 = 258 ∧ getE [2, 1] 0 2 = 0 := by decide +kernel
theorem ex3 : ptL [] [97, 98] = [2, 0, 0, 0, 97, 98] ∧ ptE [97, 98] = 0 := by decide +kernel
theorem ex4 : putL [] 256 1 = [] ∧ putE 256 1 = 3 := by decide +kernel
theorem ex5 : textV [2, 0, 0, 0, 97, 98] = [97, 98] ∧ textE [2, 0, 0, 0, 97, 98] = 0 ∧ textK [2, 0, 0, 0, 97, 98] = 6 := by decide +kernel

theorem Sl8.lit {w : World} {g t : Nat} {l : List UInt8} {cs : Array Value} (hg : w.heap[g]? = some (.cells cs t (0, 0))) (hcs : cs = (l.map byV).toArray) (hl : l.length ≤ maxLen) : Sl8 w (some ⟨g, 0, none⟩) l.length l.length l := by
  subst hcs
  exact Blk8.sl8 (t := t) hg hl

set_option maxHeartbeats 2000000 in
set_option maxRecDepth 100000 in
theorem ex_any (w : World) : Calls Try.prog 7 #[] w fun e w' => e = .returned (.bool true) ∧ Below w.heap.size w w' := by
  go_enter Try.func7, Try.ntmps7
  go_wp2_with fail
  refine (put_any none 0 0 [] 258 2 _ (Sl8.none_ _) (by simp) (by omega) (by omega) (by omega) (by omega)).mono ?_
  rintro e w1 ⟨A1, n1, c1, he, hs1, hb1⟩
  rw [ex1.2] at he
  rw [ex1.1] at hs1
  subst he
  go_wp2_with fail
  refine (get_any A1 n1 c1 [2, 1] 0 2 _ hs1 (by omega) (by omega) (by omega) (by omega)).mono ?_
  rintro e w2 ⟨he, hb2⟩
  rw [ex2.1, ex2.2] at he
  subst he
  have hs1 := hs1.below hb2
  have hb := below_then hb1 hb2
  clear hb1 hb2
  go_wp2_with fail
  refine (puttext_any none 0 0 [] ⟨#[97, 98]⟩ _ (Sl8.none_ _) (by simp) (by decide)).mono ?_
  rintro e w3 ⟨A3, n3, c3, he, hs3, hb3⟩
  rw [show (⟨#[97, 98]⟩ : ByteArray).data.toList = [97, 98] from rfl, ex3.2] at he
  rw [show (⟨#[97, 98]⟩ : ByteArray).data.toList = [97, 98] from rfl, ex3.1] at hs3
  subst he
  have hs1 := hs1.below hb3
  have hb := below_then hb hb3
  clear hb3
  go_wp2_with fail
  refine (put_any none 0 0 [] 256 1 _ (Sl8.none_ _) (by simp) (by omega) (by omega) (by omega) (by omega)).mono ?_
  rintro e w4 ⟨A4, n4, c4, he, _, hb4⟩
  rw [ex4.2] at he
  subst he
  have hs1 := hs1.below hb4
  have hs3 := hs3.below hb4
  have hb := below_then hb hb4
  clear hb4
  go_wp2_with fail
  refine (new_any A3 n3 c3 _ _ hs3 (by simp)).mono ?_
  rintro e w5 ⟨R, rfl, hR, hh5, hb5⟩
  have hs1 := hs1.below hb5
  have hs3 := hs3.below hb5
  have hRw : w.heap.size ≤ R := Nat.le_trans hb.size hR
  have hb := below_then hb hb5
  clear hb5 hR
  go_wp2_with fail
  refine (text_any R _ _ hh5 (by simp)).mono ?_
  rintro e w6 ⟨he, hh6, hb6⟩
  rw [ex5.1, ex5.2.1, show mkS [97, 98] = ⟨#[97, 98]⟩ from rfl] at he
  rw [ex5.2.2] at hh6
  subst he
  obtain ⟨_, _, _, hg5, _⟩ := hh5
  have hs1 := hs1.but hg5 hb6
  have hs3 := hs3.but hg5 hb6
  have hb := hb.trans (hb6.below hb.size hRw)
  clear hb6 hg5
  go_wp2_with fail
  refine (num_nil 1 _).mono ?_
  rintro e w7 ⟨rfl, rfl⟩
  have HB := Lib.hid hb
  clear hb
  go_wp2_with fail
  refine (r_same _ _ _ _ _ _ [2, 1] [2, 1] _ (hs1.alloc _) (Sl8.lit (cs := #[Value.int .u8 2, Value.int .u8 1]) (heap_alloc_new _ _) rfl (by decide))).mono ?_
  rintro e w8 ⟨he, rfl⟩
  rw [show ([2, 1] : List UInt8) == [2, 1] from by decide +kernel] at he
  subst he
  have hs3 := (hs3.alloc (Obj.cells #[Value.int IntKind.u8 2, Value.int IntKind.u8 1] 5))
  have hh6 := hh6.below ((Below.refl _ w6).alloc (Nat.le_refl _) (Obj.cells #[Value.int IntKind.u8 2, Value.int IntKind.u8 1] 5))
  have HB := Lib.hid (HB.out.alloc HB.out.size (Obj.cells #[Value.int IntKind.u8 2, Value.int IntKind.u8 1] 5))
  go_wp2_with fail
  refine (r_same _ _ _ _ _ _ [2, 0, 0, 0, 97, 98] [2, 0, 0, 0, 97, 98] _ (hs3.alloc _) (Sl8.lit (cs := #[Value.int .u8 2, Value.int .u8 0, Value.int .u8 0, Value.int .u8 0, Value.int .u8 97, Value.int .u8 98]) (heap_alloc2_new _ _ _) rfl (by decide))).mono ?_
  rintro e w8 ⟨he, rfl⟩
  rw [show ([2, 0, 0, 0, 97, 98] : List UInt8) == [2, 0, 0, 0, 97, 98] from by decide +kernel] at he
  subst he
  have hh6 := hh6.below ((Below.refl _ _).alloc (Nat.le_refl _) (Obj.cells #[Value.int IntKind.u8 2, Value.int IntKind.u8 0, Value.int IntKind.u8 0, Value.int IntKind.u8 0, Value.int IntKind.u8 97, Value.int IntKind.u8 98] 5))
  have HB := Lib.hid (HB.out.alloc HB.out.size (Obj.cells #[Value.int IntKind.u8 2, Value.int IntKind.u8 0, Value.int IntKind.u8 0, Value.int IntKind.u8 0, Value.int IntKind.u8 97, Value.int IntKind.u8 98] 5))
  go_wp2_with fail
  refine (left_any R _ _ hh6).mono ?_
  rintro e w8 ⟨rfl, rfl⟩
  go_wp2_with fail
  refine (left_nil _).mono ?_
  rintro e w8 ⟨rfl, rfl⟩
  go_wp2_with fail
  go_ret
  exact ⟨rfl, HB.out⟩

end Go.Proofs.Ytjkeipbhhlljjaa
