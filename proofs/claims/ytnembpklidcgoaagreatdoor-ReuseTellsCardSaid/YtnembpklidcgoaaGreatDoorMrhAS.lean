/-
  Texts that the laws of this seat lean on, one behind the other.
-/
import Derived.Test.YtnembpklidcgoaaGreatDoorMrhW
import Derived.Test.YtnembpklidcgoaaGreatDoorMrhA
import Derived.Lib.Hide
import Derived.Test.YtnembpklidcgoaaGreatDoorMrhAI
import Derived.Test.YtnembpklidcgoaaGreatDoorMrhX
/-
  Contract of package line's Safe.
-/
section
namespace Go.Proofs.YtnembpklidcgoaaGreatDoor
open Go.RowKit

def safVs : List Value := [.string ⟨#[71, 69, 84]⟩, .string ⟨#[72, 69, 65, 68]⟩, .string ⟨#[79, 80, 84, 73, 79, 78, 83]⟩, .string ⟨#[84, 82, 65, 67, 69]⟩]
theorem saf_index (W : World) (k : Int) (h0 : 0 ≤ k) (h1 : k < 4) {v : Value} (h : safVs.toArray[k.toNat]? = some v) : (Instr.index 101 (.agg safVs.toArray) (.int .i64 k)).run Tryz.prog W = .ok v W :=
  run_index_one Tryz.underlying101 Tryz.underlying9 rfl (by kernel_rfl) _ _ _ h0 h1 _ h _
set_option maxHeartbeats 2000000 in
theorem safe1_any (m : ByteArray) (w : World) (HT : w.var? Tryz.prog "depot/line.safe" = some safVs.toArray) :
    Calls Tryz.prog 53 #[.string m] w fun e w' => e = .returned (.bool (safeB m)) ∧ Below w.heap.size w w' := by
  obtain ⟨ty, fr, hblk⟩ := var_block (g := 0) (by kernel_rfl) HT
  have HM : Hid ((Tryz.prog.info? 101).map (·.size) = some safVs.toArray.size) := by show _ = _; rw [show safVs.toArray.size = 4 from rfl]; kernel_rfl
  have HB := Lib.hid hblk
  have HS : Hid (safeB m = ((((m.toList == [71, 69, 84] || m.toList == [72, 69, 65, 68]) || m.toList == [79, 80, 84, 73, 79, 78, 83]) || m.toList == [84, 82, 65, 67, 69]))) := rfl
  generalize safeB m = S at *
  have hi0 := fun W => saf_index W 0 (by decide) (by decide) (show _ = some (Value.string ⟨#[71, 69, 84]⟩) from rfl)
  have hi1 := fun W => saf_index W 1 (by decide) (by decide) (show _ = some (Value.string ⟨#[72, 69, 65, 68]⟩) from rfl)
  have hi2 := fun W => saf_index W 2 (by decide) (by decide) (show _ = some (Value.string ⟨#[79, 80, 84, 73, 79, 78, 83]⟩) from rfl)
  have hi3 := fun W => saf_index W 3 (by decide) (by decide) (show _ = some (Value.string ⟨#[84, 82, 65, 67, 69]⟩) from rfl)
  generalize safVs.toArray = LA at *
  have both : ∀ t : Bool, t = true ∨ t = false := fun t => by cases t <;> simp
  clear hblk HT
  go_enter Tryz.func53, Tryz.ntmps53
  go_wp2_with (refine wpList_load_row rfl _ _ rfl 0 rfl ty LA fr _ HB.out Tryz.underlying101 rfl HM.out ?_)
  go_loopw [6] (fun i wr => ∃ k : Int, 0 ≤ k ∧ k ≤ 4 ∧ i = .int .i64 k ∧ Hid ((0 < k → (m.toList == [71, 69, 84]) = false) ∧ (1 < k → (m.toList == [72, 69, 65, 68]) = false) ∧ (2 < k → (m.toList == [79, 80, 84, 73, 79, 78, 83]) = false) ∧ (3 < k → (m.toList == [84, 82, 65, 67, 69]) = false)) ∧ wr = w) (fun i _ => 4 - (intOf i).toNat)
  case atStart => exact ⟨0, by decide, by decide, rfl, ⟨fun h => by omega, fun h => by omega, fun h => by omega, fun h => by omega⟩, rfl⟩
  case round =>
    obtain ⟨k, hk0, hk1, rfl, hf, rfl⟩ := hrel
    have hk : k = 0 ∨ k = 1 ∨ k = 2 ∨ k = 3 ∨ k = 4 := by omega
    rcases hk with rfl | rfl | rfl | rfl | rfl
    · rcases both (m.toList == [71, 69, 84]) with h | h
      · have HR : Hid (S = true) := by show _ = _; rw [HS.out, h]; simp
        clear hf
        go_wp2_with fail
        go_ret
        exact ⟨by rw [HR.out]; rfl, Below.refl _ _⟩
      · have HN : Hid ((0 < (0 : Int) + 1 → (m.toList == [71, 69, 84]) = false) ∧ (1 < (0 : Int) + 1 → (m.toList == [72, 69, 65, 68]) = false) ∧ (2 < (0 : Int) + 1 → (m.toList == [79, 80, 84, 73, 79, 78, 83]) = false) ∧ (3 < (0 : Int) + 1 → (m.toList == [84, 82, 65, 67, 69]) = false)) := ⟨fun _ => h, fun h => by omega, fun h => by omega, fun h => by omega⟩
        clear hf
        go_wp2_with fail
        go_roundw
        case rel => exact ⟨0 + 1, by decide, by decide, by go_num, HN, trivial⟩
        case measure => decide
    · rcases both (m.toList == [72, 69, 65, 68]) with h | h
      · have HR : Hid (S = true) := by show _ = _; rw [HS.out, h]; simp
        clear hf
        go_wp2_with fail
        go_ret
        exact ⟨by rw [HR.out]; rfl, Below.refl _ _⟩
      · have HN : Hid ((0 < (1 : Int) + 1 → (m.toList == [71, 69, 84]) = false) ∧ (1 < (1 : Int) + 1 → (m.toList == [72, 69, 65, 68]) = false) ∧ (2 < (1 : Int) + 1 → (m.toList == [79, 80, 84, 73, 79, 78, 83]) = false) ∧ (3 < (1 : Int) + 1 → (m.toList == [84, 82, 65, 67, 69]) = false)) := ⟨fun h => hf.out.1 (by decide), fun _ => h, fun h => by omega, fun h => by omega⟩
        clear hf
        go_wp2_with fail
        go_roundw
        case rel => exact ⟨1 + 1, by decide, by decide, by go_num, HN, trivial⟩
        case measure => decide
    · rcases both (m.toList == [79, 80, 84, 73, 79, 78, 83]) with h | h
      · have HR : Hid (S = true) := by show _ = _; rw [HS.out, h]; simp
        clear hf
        go_wp2_with fail
        go_ret
        exact ⟨by rw [HR.out]; rfl, Below.refl _ _⟩
      · have HN : Hid ((0 < (2 : Int) + 1 → (m.toList == [71, 69, 84]) = false) ∧ (1 < (2 : Int) + 1 → (m.toList == [72, 69, 65, 68]) = false) ∧ (2 < (2 : Int) + 1 → (m.toList == [79, 80, 84, 73, 79, 78, 83]) = false) ∧ (3 < (2 : Int) + 1 → (m.toList == [84, 82, 65, 67, 69]) = false)) := ⟨fun h => hf.out.1 (by decide), fun h => hf.out.2.1 (by decide), fun _ => h, fun h => by omega⟩
        clear hf
        go_wp2_with fail
        go_roundw
        case rel => exact ⟨2 + 1, by decide, by decide, by go_num, HN, trivial⟩
        case measure => decide
    · rcases both (m.toList == [84, 82, 65, 67, 69]) with h | h
      · have HR : Hid (S = true) := by show _ = _; rw [HS.out, h]; simp
        clear hf
        go_wp2_with fail
        go_ret
        exact ⟨by rw [HR.out]; rfl, Below.refl _ _⟩
      · have HN : Hid ((0 < (3 : Int) + 1 → (m.toList == [71, 69, 84]) = false) ∧ (1 < (3 : Int) + 1 → (m.toList == [72, 69, 65, 68]) = false) ∧ (2 < (3 : Int) + 1 → (m.toList == [79, 80, 84, 73, 79, 78, 83]) = false) ∧ (3 < (3 : Int) + 1 → (m.toList == [84, 82, 65, 67, 69]) = false)) := ⟨fun h => hf.out.1 (by decide), fun h => hf.out.2.1 (by decide), fun h => hf.out.2.2.1 (by decide), fun _ => h⟩
        clear hf
        go_wp2_with fail
        go_roundw
        case rel => exact ⟨3 + 1, by decide, by decide, by go_num, HN, trivial⟩
        case measure => decide
    · have HR : Hid (S = false) := by
        obtain ⟨f0, f1, f2, f3⟩ := hf.out
        show _ = _
        rw [HS.out, f0 (by decide), f1 (by decide), f2 (by decide), f3 (by decide)]; rfl
      clear hf
      go_wp2_with fail
      go_ret
      exact ⟨by rw [HR.out]; rfl, Below.refl _ _⟩

end Go.Proofs.YtnembpklidcgoaaGreatDoor
end
