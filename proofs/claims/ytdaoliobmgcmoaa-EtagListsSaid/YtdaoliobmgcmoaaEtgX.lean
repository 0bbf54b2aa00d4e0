/-
  The page's example (tags) of layer 14.
-/
import Derived.Test.YtdaoliobmgcmoaaEtgSc
namespace Go.Proofs.Ytdaoliobmgcmoaa
open Go.RowKit
set_option linter.unusedSimpArgs false

theorem x14a : tgB ⟨#[87, 47, 34, 97, 34]⟩ = true ∧ tgO ⟨#[87, 47, 34, 97, 34]⟩ = (true, ⟨#[97]⟩) := by constructor <;> kernel_rfl
theorem x14b : tgB ⟨#[97]⟩ = false ∧ tgO ⟨#[97]⟩ = (false, ⟨#[]⟩) := by constructor <;> kernel_rfl
theorem x14c : lsL ⟨#[32, 42, 32]⟩ = [] ∧ lsA ⟨#[32, 42, 32]⟩ = true ∧ lsE ⟨#[32, 42, 32]⟩ = 0 := by refine ⟨?_, ?_, ?_⟩ <;> kernel_rfl
theorem x14d : lsL ⟨#[44]⟩ = [] ∧ lsA ⟨#[44]⟩ = false ∧ lsE ⟨#[44]⟩ = 5 := by refine ⟨?_, ?_, ?_⟩ <;> kernel_rfl
theorem x14e : mtB ⟨#[87, 47, 34, 120, 34, 32, 44, 32, 34, 97, 44, 98, 34, 44, 32, 34, 121, 34]⟩ (false, ⟨#[97, 44, 98]⟩) = true := by kernel_rfl
theorem x14f : tgS (true, ⟨#[97]⟩) = ⟨#[87, 47, 34, 97, 34]⟩ := by kernel_rfl
theorem x14g : wekB (true, ⟨#[97]⟩) (false, ⟨#[97]⟩) = true ∧ strB (true, ⟨#[97]⟩) (true, ⟨#[97]⟩) = false ∧ strB (false, ⟨#[97, 44, 98]⟩) (false, ⟨#[97, 44, 98]⟩) = true := by refine ⟨?_, ?_, ?_⟩ <;> kernel_rfl

theorem e14a (w : World) : Calls Try.prog 8 #[.string ⟨#[87, 47, 34, 97, 34]⟩] w fun e w' => e = .returned (.tuple #[.agg #[.bool true, .string ⟨#[97]⟩], .bool true]) ∧ Below w.heap.size w w' := by
  have h := etP_any ⟨#[87, 47, 34, 97, 34]⟩ w (by decide)
  rw [x14a.1, x14a.2] at h
  exact h
theorem e14b (w : World) : Calls Try.prog 8 #[.string ⟨#[97]⟩] w fun e w' => e = .returned (.tuple #[.agg #[.bool false, .string ⟨#[]⟩], .bool false]) ∧ Below w.heap.size w w' := by
  have h := etP_any ⟨#[97]⟩ w (by decide)
  rw [x14b.1, x14b.2] at h
  exact h
theorem e14c (w : World) : Calls Try.prog 10 #[.string ⟨#[32, 42, 32]⟩] w fun e w' => ∃ A n c, e = .returned (.tuple #[.slice A n c, .bool true, .int .i64 0]) ∧ Below w.heap.size w w' := by
  have h := etL_any ⟨#[32, 42, 32]⟩ w (by decide)
  rw [x14c.1, x14c.2.1, x14c.2.2] at h
  refine h.mono ?_
  rintro e w' ⟨A, c, he, _, hb⟩
  exact ⟨_, _, _, he, hb⟩
theorem e14d (w : World) : Calls Try.prog 10 #[.string ⟨#[44]⟩] w fun e w' => ∃ A n c, e = .returned (.tuple #[.slice A n c, .bool false, .int .i64 5]) ∧ Below w.heap.size w w' := by
  have h := etL_any ⟨#[44]⟩ w (by decide)
  rw [x14d.1, x14d.2.1, x14d.2.2] at h
  refine h.mono ?_
  rintro e w' ⟨A, c, he, _, hb⟩
  exact ⟨_, _, _, he, hb⟩
theorem e14e (w : World) : Calls Try.prog 13 #[.string ⟨#[87, 47, 34, 120, 34, 32, 44, 32, 34, 97, 44, 98, 34, 44, 32, 34, 121, 34]⟩, .agg #[.bool false, .string ⟨#[97, 44, 98]⟩]] w fun e w' => e = .returned (.bool true) ∧ Below w.heap.size w w' := by
  have h := etM_any ⟨#[87, 47, 34, 120, 34, 32, 44, 32, 34, 97, 44, 98, 34, 44, 32, 34, 121, 34]⟩ (false, ⟨#[97, 44, 98]⟩) w (by decide)
  rw [x14e] at h
  exact h
theorem e14f (w : World) : Calls Try.prog 15 #[.agg #[.bool true, .string ⟨#[97]⟩]] w fun e w' => e = .returned (.string ⟨#[87, 47, 34, 97, 34]⟩) ∧ Below w.heap.size w w' := by
  have h := etS_any (true, ⟨#[97]⟩) (by decide) w
  rw [x14f] at h
  exact h
theorem e14g (w : World) : Calls Try.prog 19 #[.agg #[.bool true, .string ⟨#[97]⟩], .agg #[.bool false, .string ⟨#[97]⟩]] w fun e w' => e = .returned (.bool true) ∧ Below w.heap.size w w' := by
  have h := etW_any (true, ⟨#[97]⟩) (false, ⟨#[97]⟩) w
  rw [x14g.1] at h
  exact h
theorem e14h (w : World) : Calls Try.prog 17 #[.agg #[.bool true, .string ⟨#[97]⟩], .agg #[.bool true, .string ⟨#[97]⟩]] w fun e w' => e = .returned (.bool false) ∧ Below w.heap.size w w' := by
  have h := etT_any (true, ⟨#[97]⟩) (true, ⟨#[97]⟩) w
  rw [x14g.2.1] at h
  exact h
theorem e14i (w : World) : Calls Try.prog 17 #[.agg #[.bool false, .string ⟨#[97, 44, 98]⟩], .agg #[.bool false, .string ⟨#[97, 44, 98]⟩]] w fun e w' => e = .returned (.bool true) ∧ Below w.heap.size w w' := by
  have h := etT_any (false, ⟨#[97, 44, 98]⟩) (false, ⟨#[97, 44, 98]⟩) w
  rw [x14g.2.2] at h
  exact h

set_option maxHeartbeats 16000000 in
set_option maxRecDepth 100000 in
theorem ex14_any (w : World) : Calls Try.prog 7 #[] w fun e w' => e = .returned (.bool true) ∧ Below w.heap.size w w' := by
  have C1 := Lib.hid (fun W => e14a W)
  have C2 := Lib.hid (fun W => e14b W)
  have C3 := Lib.hid (fun W => e14c W)
  have C4 := Lib.hid (fun W => e14d W)
  have C5 := Lib.hid (fun W => e14e W)
  have C6 := Lib.hid (fun W => e14f W)
  have C7 := Lib.hid (fun W => e14g W)
  have C8 := Lib.hid (fun W => e14h W)
  have C9 := Lib.hid (fun W => e14i W)
  go_enter Try.func7, Try.ntmps7
  go_wp2_with fail
  refine (C1.out _).mono ?_
  rintro e w1 ⟨rfl, hb1⟩
  have HB := Lib.hid (hb1.alloc hb1.size (.cells #[.bool true, .string ⟨#[97]⟩] 23))
  have Z1 := Lib.hid (heap_alloc_new w1 (.cells #[.bool true, .string ⟨#[97]⟩] 23))
  clear hb1
  go_wp2_with fail
  refine (C2.out _).mono ?_
  rintro e w2 ⟨rfl, hb2⟩
  have hb := below_then HB.out hb2
  have HB := Lib.hid ((hb.alloc hb.size (.cells #[.bool false, .string ⟨#[]⟩] 23)).alloc (by simp; exact Nat.le_succ_of_le hb.size) (.cells #[.bool false, .string ⟨#[97, 44, 98]⟩] 23))
  have Z1 := Lib.hid (zero_more (o' := .cells #[.bool false, .string ⟨#[97, 44, 98]⟩] 23) (zero_more (o' := .cells #[.bool false, .string ⟨#[]⟩] 23) (zero_still hb2 Z1.out)))
  have z5 := heap_alloc_new (w2.alloc (.cells #[.bool false, .string ⟨#[]⟩] 23)) (.cells #[.bool false, .string ⟨#[97, 44, 98]⟩] 23)
  rw [show (w2.alloc (.cells #[.bool false, .string ⟨#[]⟩] 23)).heap.size = w2.heap.size + 1 by simp] at z5
  have Z5 := Lib.hid z5
  clear hb2 hb z5
  go_wp2_with fail
  refine (C3.out _).mono ?_
  rintro e v ⟨A3, n3, c3, rfl, hb⟩
  have HB := Lib.hid (below_then HB.out hb)
  have Z1 := Lib.hid (zero_still hb Z1.out)
  have Z5 := Lib.hid (zero_still hb Z5.out)
  clear hb
  go_wp2_with fail
  refine (C4.out _).mono ?_
  rintro e v ⟨A4, n4, c4, rfl, hb⟩
  have HB := Lib.hid (below_then HB.out hb)
  have Z1 := Lib.hid (zero_still hb Z1.out)
  have Z5 := Lib.hid (zero_still hb Z5.out)
  clear hb
  obtain ⟨p0, p1⟩ := zero_two Z1.out
  obtain ⟨q0, q1⟩ := zero_two Z5.out
  go_wp2_with fail
  refine (C5.out _).mono ?_
  rintro e v ⟨rfl, hb⟩
  have HB := Lib.hid (below_then HB.out hb)
  have Z1 := Lib.hid (zero_still hb Z1.out)
  have Z5 := Lib.hid (zero_still hb Z5.out)
  clear hb
  clear p0 p1 q0 q1
  obtain ⟨p0, p1⟩ := zero_two Z1.out
  obtain ⟨q0, q1⟩ := zero_two Z5.out
  go_wp2_with fail
  refine (C6.out _).mono ?_
  rintro e v ⟨rfl, hb⟩
  have HB := Lib.hid (below_then HB.out hb)
  have Z1 := Lib.hid (zero_still hb Z1.out)
  have Z5 := Lib.hid (zero_still hb Z5.out)
  clear hb
  clear p0 p1 q0 q1
  obtain ⟨p0, p1⟩ := zero_two Z1.out
  obtain ⟨q0, q1⟩ := zero_two Z5.out
  go_wp2_with fail
  refine (C7.out _).mono ?_
  rintro e v ⟨rfl, hb⟩
  have HB := Lib.hid (below_then HB.out hb)
  have Z1 := Lib.hid (zero_still hb Z1.out)
  have Z5 := Lib.hid (zero_still hb Z5.out)
  clear hb
  clear p0 p1 q0 q1
  obtain ⟨p0, p1⟩ := zero_two Z1.out
  obtain ⟨q0, q1⟩ := zero_two Z5.out
  go_wp2_with fail
  refine (C8.out _).mono ?_
  rintro e v ⟨rfl, hb⟩
  have HB := Lib.hid (below_then HB.out hb)
  have Z1 := Lib.hid (zero_still hb Z1.out)
  have Z5 := Lib.hid (zero_still hb Z5.out)
  clear hb
  clear p0 p1 q0 q1
  obtain ⟨p0, p1⟩ := zero_two Z1.out
  obtain ⟨q0, q1⟩ := zero_two Z5.out
  go_wp2_with fail
  refine (C9.out _).mono ?_
  rintro e v ⟨rfl, hb⟩
  have HB := Lib.hid (below_then HB.out hb)
  have Z1 := Lib.hid (zero_still hb Z1.out)
  have Z5 := Lib.hid (zero_still hb Z5.out)
  clear hb
  clear p0 p1 q0 q1
  go_wp2_with fail
  go_ret
  exact ⟨rfl, HB.out⟩

end Go.Proofs.Ytdaoliobmgcmoaa
