/-
  The page's example answers true (the law's 'mixes').
-/
import Derived.Test.YtlmolmbcpignkaaMixR
namespace Go.Proofs.Ytlmolmbcpignkaa
open Go.RowKit

theorem mx1 : mixB 0 1 = 1099511630259 := by decide +kernel
theorem mx2 : undoN 1099511630259 1 = 0 := by decide +kernel
theorem mx3 : setN 7 4 = 3 := by decide +kernel
theorem mx4 : setN 7 0 = 0 := by decide +kernel
theorem mx5 : hashN 1 [97] = 5854916149039743699 := by decide +kernel
theorem mx6 : hashN 2 [97] = 15571623951673784950 := by decide +kernel

set_option maxHeartbeats 2000000 in
set_option maxRecDepth 100000 in
theorem ex_any (w : World) : Calls Try.prog 6 #[] w fun e w' => e = .returned (.bool true) ∧ Below w.heap.size w w' := by
  go_enter Try.func6, Try.ntmps6
  go_wp2_with fail
  refine (step_any 0 (by omega) 1 _).mono ?_
  rintro e w1 ⟨he, hb⟩
  rw [mx1] at he
  subst he
  go_wp2_with fail
  refine (undo_any 1099511630259 (by omega) 1 _).mono ?_
  rintro e w2 ⟨he, rfl⟩
  rw [mx2] at he
  subst he
  go_wp2_with fail
  refine (set_any 7 (by omega) 4 (by omega) _).mono ?_
  rintro e w2 ⟨he, rfl⟩
  rw [mx3] at he
  subst he
  go_wp2_with fail
  refine (set_any 7 (by omega) 0 (by omega) _).mono ?_
  rintro e w2 ⟨he, rfl⟩
  rw [mx4] at he
  subst he
  go_wp2_with fail
  refine (part_any 281474976710656 (by omega) _).mono ?_
  rintro e w2 ⟨rfl, rfl⟩
  go_wp2_with fail
  refine (hash_any 1 (mkS [97]) (by decide) _).mono ?_
  rintro e w2 ⟨he, hb2⟩
  rw [mkS_list, mx5] at he
  subst he
  have hb := below_then hb hb2
  clear hb2
  go_wp2_with fail
  refine (hash_any 2 (mkS [97]) (by decide) _).mono ?_
  rintro e w3 ⟨he, hb3⟩
  rw [mkS_list, mx6] at he
  subst he
  have hb := below_then hb hb3
  clear hb3
  go_wp2_with fail
  go_ret
  exact ⟨rfl, hb⟩

end Go.Proofs.Ytlmolmbcpignkaa
