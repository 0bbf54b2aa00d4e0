/-
  Contracts of the reference's inner, Weak, Strong, Text (layer 14).
-/
import Derived.Test.YtdaoliobmgcmoaaEtgM
import Derived.Test.YtdaoliobmgcmoaaComX
import Derived.Test.YtdaoliobmgcmoaaOctRt
namespace Go.Proofs.Ytdaoliobmgcmoaa
open Go.RowKit
set_option linter.unusedSimpArgs false

theorem r_inner (c : Int) (w : World) :
    Calls Try.prog 23 #[.int .u8 c] w fun e w' => e = .returned (.bool (innB c)) ∧ w = w' := by
  have both : ∀ t : Bool, t = true ∨ t = false := fun t => by cases t <;> simp
  rcases both (c == 33) with h1 | h1
  · have hr : innB c = true := by unfold innB; rw [h1]; rfl
    rw [hr]
    clear hr
    go_enter Try.func23, Try.ntmps23
    go_wp2_with fail
    go_ret
    exact ⟨rfl, rfl⟩
  · by_cases h2 : (35 : Int) ≤ c
    · rcases both (c == 127) with h3 | h3
      · have hr : innB c = false := by unfold innB; rw [h1, h3]; simp
        have h4 : (c != 127) = false := by rw [bne, h3]; rfl
        rw [hr]
        clear hr
        go_enter Try.func23, Try.ntmps23
        go_wp2_with fail
        go_ret
        exact ⟨rfl, rfl⟩
      · have hr : innB c = true := by unfold innB; rw [h1, h3]; simp [h2]
        have h4 : (c != 127) = true := by rw [bne, h3]; rfl
        rw [hr]
        clear hr
        go_enter Try.func23, Try.ntmps23
        go_wp2_with fail
        go_ret
        exact ⟨rfl, rfl⟩
    · have hr : innB c = false := by unfold innB; rw [h1, decide_eq_false h2]; rfl
      rw [hr]
      clear hr
      go_enter Try.func23, Try.ntmps23
      go_wp2_with fail
      go_ret
      exact ⟨rfl, rfl⟩

theorem r_etWeak (a b : Tg) (w : World) :
    Calls Try.prog 20 #[tgV a, tgV b] w fun e w' => e = .returned (.bool (wekB a b)) ∧ Below w.heap.size w w' := by
  obtain ⟨a1, a2⟩ := a
  obtain ⟨b1, b2⟩ := b
  have hr : wekB (a1, a2) (b1, b2) = (a2.toList == b2.toList) := rfl
  rw [hr]
  unfold tgV
  have hb : Below w.heap.size w ((w.alloc (.cells #[.bool a1, .string a2] 23)).alloc (.cells #[.bool b1, .string b2] 23)) := ((Below.refl _ _).alloc (Nat.le_refl _) _).alloc (by simp) _
  have hA : ((w.alloc (.cells #[.bool a1, .string a2] 23)).alloc (.cells #[.bool b1, .string b2] 23)).heap[w.heap.size]? = some (.cells #[.bool a1, .string a2] 23 (0, 0)) := zero_more (heap_alloc_new w _)
  have hB : ((w.alloc (.cells #[.bool a1, .string a2] 23)).alloc (.cells #[.bool b1, .string b2] 23)).heap[w.heap.size + 1]? = some (.cells #[.bool b1, .string b2] 23 (0, 0)) := by
    have := heap_alloc_new (w.alloc (.cells #[.bool a1, .string a2] 23)) (.cells #[.bool b1, .string b2] 23)
    rwa [show (w.alloc (.cells #[.bool a1, .string a2] 23)).heap.size = w.heap.size + 1 by simp] at this
  have hA := (zero_two hA).2
  have hB := (zero_two hB).2
  have HB := Lib.hid hb
  clear hb hr
  go_enter Try.func20, Try.ntmps20
  go_wp2_with fail
  go_ret
  exact ⟨rfl, HB.out⟩

theorem r_etStrong (a b : Tg) (w : World) :
    Calls Try.prog 18 #[tgV a, tgV b] w fun e w' => e = .returned (.bool (strB a b)) ∧ Below w.heap.size w w' := by
  obtain ⟨a1, a2⟩ := a
  obtain ⟨b1, b2⟩ := b
  have hr : strB (a1, a2) (b1, b2) = (!a1 && !b1 && (a2.toList == b2.toList)) := rfl
  rw [hr]
  unfold tgV
  have hb : Below w.heap.size w ((w.alloc (.cells #[.bool a1, .string a2] 23)).alloc (.cells #[.bool b1, .string b2] 23)) := ((Below.refl _ _).alloc (Nat.le_refl _) _).alloc (by simp) _
  have hA : ((w.alloc (.cells #[.bool a1, .string a2] 23)).alloc (.cells #[.bool b1, .string b2] 23)).heap[w.heap.size]? = some (.cells #[.bool a1, .string a2] 23 (0, 0)) := zero_more (heap_alloc_new w _)
  have hB : ((w.alloc (.cells #[.bool a1, .string a2] 23)).alloc (.cells #[.bool b1, .string b2] 23)).heap[w.heap.size + 1]? = some (.cells #[.bool b1, .string b2] 23 (0, 0)) := by
    have := heap_alloc_new (w.alloc (.cells #[.bool a1, .string a2] 23)) (.cells #[.bool b1, .string b2] 23)
    rwa [show (w.alloc (.cells #[.bool a1, .string a2] 23)).heap.size = w.heap.size + 1 by simp] at this
  obtain ⟨hA0, hA1⟩ := zero_two hA
  obtain ⟨hB0, hB1⟩ := zero_two hB
  have HB := Lib.hid hb
  clear hb hr hA hB
  cases a1 <;> cases b1
  all_goals
    go_enter Try.func18, Try.ntmps18
    go_wp2_with fail
    go_ret
    exact ⟨rfl, HB.out⟩

theorem r_etText (a : Tg) (h : a.2.size ≤ 1000000000) (w : World) :
    Calls Try.prog 16 #[tgV a] w fun e w' => e = .returned (.string (tgS a)) ∧ Below w.heap.size w w' := by
  obtain ⟨a1, a2⟩ := a
  unfold tgV
  have hb : Below w.heap.size w (w.alloc (.cells #[.bool a1, .string a2] 23)) := (Below.refl _ _).alloc (Nat.le_refl _) _
  have hA : (w.alloc (.cells #[.bool a1, .string a2] 23)).heap[w.heap.size]? = some (.cells #[.bool a1, .string a2] 23 (0, 0)) := heap_alloc_new w _
  obtain ⟨hA0, hA1⟩ := zero_two hA
  have hs : a2.size ≤ 1000000000 := h
  have HB := Lib.hid hb
  clear hb hA h
  cases a1
  · have hr : tgS (false, a2) = (⟨#[34]⟩ : ByteArray) ++ a2 ++ (⟨#[34]⟩ : ByteArray) := rfl
    rw [hr]
    clear hr
    go_enter Try.func16, Try.ntmps16
    go_wp2_with fail
    go_ret
    exact ⟨rfl, HB.out⟩
  · have hr : tgS (true, a2) = (⟨#[87, 47, 34]⟩ : ByteArray) ++ a2 ++ (⟨#[34]⟩ : ByteArray) := rfl
    rw [hr]
    clear hr
    go_enter Try.func16, Try.ntmps16
    go_wp2_with fail
    go_ret
    exact ⟨rfl, HB.out⟩

end Go.Proofs.Ytdaoliobmgcmoaa
