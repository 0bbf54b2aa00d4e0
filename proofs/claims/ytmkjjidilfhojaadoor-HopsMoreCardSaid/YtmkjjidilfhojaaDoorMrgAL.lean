/-
  Texts that the laws of this seat lean on, one behind the other.
-/
import Derived.Test.YtmkjjidilfhojaaDoorMrgAJ
import Derived.Test.YtmkjjidilfhojaaDoorMrgAK
import Derived.Test.YtmkjjidilfhojaaDoorMrgT
import Derived.Deep.RegionHeld3
/-
  Contracts of package fields' Line, long, alike; the tests that choose, IndexFunc and ContainsFunc are handed.
-/
section
namespace Go.Proofs.YtmkjjidilfhojaaDoor
open Go.RowKit

theorem alike_any (x y : Fd) (hz1 : x.1.size ≤ maxLen) (hz3 : y.1.size ≤ maxLen) (w : World) :
    Calls Tryd.prog 27 #[fdV x, fdV y] w fun e w' => e = .returned (.bool (alk x y)) ∧ Below w.heap.size w w' := by
  obtain ⟨a, b⟩ := x
  obtain ⟨a', b'⟩ := y
  have hD : alk (a, b) (a', b') = (sameB a a' && (b.toList == b'.toList)) := rfl
  have cs := fun W => same_any a a' W hz1 hz3
  rw [hD]
  clear hD
  unfold fdV
  have hb0 : Below w.heap.size w ((w.alloc (.cells #[.string a, .string b] 33)).alloc (.cells #[.string a', .string b'] 33)) := ((Below.refl _ _).alloc (Nat.le_refl _) _).alloc (by simp) _
  have g0 : ((w.alloc (.cells #[.string a, .string b] 33)).alloc (.cells #[.string a', .string b'] 33)).heap[w.heap.size]? = some (.cells #[.string a, .string b] 33 (0, 0)) := heap_alloc2_old w _ _
  have g1 : ((w.alloc (.cells #[.string a, .string b] 33)).alloc (.cells #[.string a', .string b'] 33)).heap[w.heap.size + 1]? = some (.cells #[.string a', .string b'] 33 (0, 0)) := heap_alloc2_new w _ _
  have HB0 := Lib.hid hb0
  have G0 := Lib.hid g0
  have G1 := Lib.hid g1
  generalize sameB a a' = T at *
  have CS := Lib.hid cs
  clear cs hb0 g0 g1
  have both : ∀ t : Bool, t = true ∨ t = false := fun t => by cases t <;> simp
  rcases both T with rfl | rfl
  · rcases both (b.toList == b'.toList) with hS | hS
    all_goals
      go_enter Tryd.func27, Tryd.ntmps27
      go_wp2_with fail
      refine (CS.out _).mono ?_
      rintro e w1 ⟨rfl, hb1⟩
      obtain ⟨u0, u1⟩ := zero_two (zero_still hb1 G0.out)
      obtain ⟨v0, v1⟩ := zero_two (zero_still hb1 G1.out)
      go_wp2_with fail
      go_ret
      exact ⟨by simp [hS], below_then HB0.out hb1⟩
  · go_enter Tryd.func27, Tryd.ntmps27
    go_wp2_with fail
    refine (CS.out _).mono ?_
    rintro e w1 ⟨rfl, hb1⟩
    go_wp2_with fail
    go_ret
    exact ⟨by simp, below_then HB0.out hb1⟩

/-! ### The tests -/
theorem enters_named : ∀ args W, (callFunc 40 args).run Tryd.prog W = .ok (.enter 40 args) W := Go.Proofs.enters_of Tryd.func40 (by kernel_rfl) rfl
theorem enters_not : ∀ args W, (callFunc 46 args).run Tryd.prog W = .ok (.enter 46 args) W := Go.Proofs.enters_of Tryd.func46 (by kernel_rfl) rfl
theorem enters_alike : ∀ args W, (callFunc 27 args).run Tryd.prog W = .ok (.enter 27 args) W := Go.Proofs.enters_of Tryd.func27 (by kernel_rfl) rfl
theorem named_pred (w : World) (a : Nat) (A : Option Addr) (n c : Nat) (names : List (List UInt8)) (ha : w.cell? ⟨a, 0, none⟩ = some (.slice A n c)) (h : SlS w A n c names) (hz : ∀ x ∈ names, x.length ≤ maxLen) (hn : n ≤ 1000000000) :
    PredF w 40 #[.pointer (some ⟨a, 0, none⟩)] (nmd names) := fun W x hb h1 =>
  named_in a A n c names W (cell_kept hb ha) (h.below hb) hz hn x h1.one
theorem alike_pred (w : World) : PredT w 27 #[] alk := fun W x y _ h1 h3 => alike_any x y h1.one h3.one W
theorem not_pred (w : World) (a : Nat) (g : Nat) (caps : Array Value) (p : Fd → Bool) (ha : w.cell? ⟨a, 0, none⟩ = some (.func (.func g) #[] caps))
    (eg : ∀ args W, (callFunc g args).run Tryd.prog W = .ok (.enter g args) W) (hp : PredF w g caps p) :
    PredF w 46 #[.pointer (some ⟨a, 0, none⟩)] (fun x => !p x) := fun W x hb h1 => by
  have ha' := cell_kept hb ha
  have hb0 : Below W.heap.size W (W.alloc (.cells #[.string x.1, .string x.2] 33)) := (Below.refl _ _).alloc (Nat.le_refl _) _
  have hcall := hp (W.alloc (.cells #[.string x.1, .string x.2] 33)) x (hb.alloc hb.size _) h1
  have ha2 := Lib.cell?_alloc_some (.cells #[.string x.1, .string x.2] 33) ha'
  obtain ⟨f, v⟩ := x
  show Calls Tryd.prog 46 #[fdV (f, v), .pointer (some ⟨a, 0, none⟩)] W (fun e w' => e = .returned (.bool (!p (f, v))) ∧ Below W.heap.size W w')
  unfold fdV at *
  have HC := Lib.hid hcall
  clear hcall hp
  generalize p (f, v) = q at *
  cases q
  all_goals
    go_enter Tryd.func46, Tryd.ntmps46
    go_wp2_with fail
    refine HC.out.mono ?_
    rintro e w1 ⟨rfl, hb1⟩
    go_wp2_with fail
    go_ret
    exact ⟨rfl, below_then hb0 hb1⟩

end Go.Proofs.YtmkjjidilfhojaaDoor
end
