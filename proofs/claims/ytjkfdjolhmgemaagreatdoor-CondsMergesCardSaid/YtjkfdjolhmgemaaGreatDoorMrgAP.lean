/-
  Texts that the laws of this seat lean on, one behind the other.
-/
import Derived.Test.YtjkfdjolhmgemaaGreatDoorMrgW
import Derived.Test.YtjkfdjolhmgemaaGreatDoorMrgA
import Derived.Lib.Hide
import Derived.Test.YtjkfdjolhmgemaaGreatDoorMrgAJ
import Derived.Test.YtjkfdjolhmgemaaGreatDoorMrgX
set_option linter.unusedSimpArgs false
set_option linter.unusedVariables false
/-
  Contract of package line's Usual.
-/
section
namespace Go.Proofs.YtjkfdjolhmgemaaGreatDoor
open Go.RowKit

def reaVs : List Value := [.int .i64 200, .string ⟨#[79, 75]⟩, .int .i64 304, .string ⟨#[78, 111, 116, 32, 77, 111, 100, 105, 102, 105, 101, 100]⟩, .int .i64 400, .string ⟨#[66, 97, 100, 32, 82, 101, 113, 117, 101, 115, 116]⟩, .int .i64 502, .string ⟨#[66, 97, 100, 32, 71, 97, 116, 101, 119, 97, 121]⟩, .int .i64 504, .string ⟨#[71, 97, 116, 101, 119, 97, 121, 32, 84, 105, 109, 101, 111, 117, 116]⟩]
theorem rea_index (W : World) (k : Int) (h0 : 0 ≤ k) (h1 : k < 5) {cs : Array Value} (h : reaVs.toArray.extract (k.toNat * 2) (k.toNat * 2 + 2) = cs) : (Instr.index 91 (.agg reaVs.toArray) (.int .i64 k)).run Tryz.prog W = .ok (.agg cs) W := by
  rw [run_index_agg (m := 2) Tryz.underlying91 Tryz.underlying90 rfl (by kernel_rfl) _ _ _ h0 h1, h]
set_option maxHeartbeats 4000000 in
set_option maxRecDepth 100000 in
theorem usu1_any (c : Int) (w : World) (HT : w.var? Tryz.prog "depot/line.reasons" = some reaVs.toArray) :
    Calls Tryz.prog 37 #[.int .i64 c] w fun e w' => e = .returned (.string (usuS c)) ∧ Below w.heap.size w w' := by
  obtain ⟨ty, fr, hblk⟩ := var_block (g := 0) (by kernel_rfl) HT
  have HM : Hid ((Tryz.prog.info? 91).map (·.size) = some reaVs.toArray.size) := by show _ = _; rw [show reaVs.toArray.size = 10 from rfl]; kernel_rfl
  have HB := Lib.hid hblk
  have HS : Hid (usuS c = (if c = 200 then (⟨#[79, 75]⟩ : ByteArray) else if c = 304 then (⟨#[78, 111, 116, 32, 77, 111, 100, 105, 102, 105, 101, 100]⟩ : ByteArray) else if c = 400 then (⟨#[66, 97, 100, 32, 82, 101, 113, 117, 101, 115, 116]⟩ : ByteArray) else if c = 502 then (⟨#[66, 97, 100, 32, 71, 97, 116, 101, 119, 97, 121]⟩ : ByteArray) else if c = 504 then (⟨#[71, 97, 116, 101, 119, 97, 121, 32, 84, 105, 109, 101, 111, 117, 116]⟩ : ByteArray) else ⟨#[]⟩)) := rfl
  generalize usuS c = S at *
  have hi0 := fun W => rea_index W 0 (by decide) (by decide) (show _ = #[Value.int .i64 200, Value.string ⟨#[79, 75]⟩] from rfl)
  have hi1 := fun W => rea_index W 1 (by decide) (by decide) (show _ = #[Value.int .i64 304, Value.string ⟨#[78, 111, 116, 32, 77, 111, 100, 105, 102, 105, 101, 100]⟩] from rfl)
  have hi2 := fun W => rea_index W 2 (by decide) (by decide) (show _ = #[Value.int .i64 400, Value.string ⟨#[66, 97, 100, 32, 82, 101, 113, 117, 101, 115, 116]⟩] from rfl)
  have hi3 := fun W => rea_index W 3 (by decide) (by decide) (show _ = #[Value.int .i64 502, Value.string ⟨#[66, 97, 100, 32, 71, 97, 116, 101, 119, 97, 121]⟩] from rfl)
  have hi4 := fun W => rea_index W 4 (by decide) (by decide) (show _ = #[Value.int .i64 504, Value.string ⟨#[71, 97, 116, 101, 119, 97, 121, 32, 84, 105, 109, 101, 111, 117, 116]⟩] from rfl)
  generalize reaVs.toArray = LA at *
  clear hblk HT
  go_enter Tryz.func37, Tryz.ntmps37
  go_wp2_with (refine wpList_load_row rfl _ _ rfl 0 rfl ty LA fr _ HB.out Tryz.underlying91 rfl HM.out ?_)
  go_loopw [6] (fun i wr => ∃ k : Int, 0 ≤ k ∧ k ≤ 5 ∧ i = .int .i64 k ∧ Hid ((0 < k → ¬ c = 200) ∧ (1 < k → ¬ c = 304) ∧ (2 < k → ¬ c = 400) ∧ (3 < k → ¬ c = 502) ∧ (4 < k → ¬ c = 504)) ∧ Below w.heap.size w wr) (fun i _ => 5 - (intOf i).toNat)
  case atStart => exact ⟨0, by decide, by decide, rfl, ⟨fun h => by omega, fun h => by omega, fun h => by omega, fun h => by omega, fun h => by omega⟩, Below.refl _ _⟩
  case round =>
    obtain ⟨k, hk0, hk1, rfl, hf, hbel⟩ := hrel
    have hk : k = 0 ∨ k = 1 ∨ k = 2 ∨ k = 3 ∨ k = 4 ∨ k = 5 := by omega
    rcases hk with rfl | rfl | rfl | rfl | rfl | rfl
    · have hbx := hbel.alloc hbel.size (.cells #[.int .i64 200, .string ⟨#[79, 75]⟩] 90)
      have HBX := Lib.hid hbx
      clear hbx
      by_cases h : c = 200
      · have HR : Hid (S = ⟨#[79, 75]⟩) := by show _ = _; rw [HS.out, h]; rfl
        have h' : (200 : Int) = c := h.symm
        clear hf HS
        subst h
        go_wp2_with fail
        go_ret
        exact ⟨by rw [HR.out]; rfl, HBX.out⟩
      · have HN : Hid ((0 < (0 : Int) + 1 → ¬ c = 200) ∧ (1 < (0 : Int) + 1 → ¬ c = 304) ∧ (2 < (0 : Int) + 1 → ¬ c = 400) ∧ (3 < (0 : Int) + 1 → ¬ c = 502) ∧ (4 < (0 : Int) + 1 → ¬ c = 504)) := ⟨fun _ => h, fun h => by omega, fun h => by omega, fun h => by omega, fun h => by omega⟩
        have h' : ¬ (200 : Int) = c := fun e => h e.symm
        clear hf HS
        go_wp2_with fail
        go_roundw
        case rel => exact ⟨0 + 1, by decide, by decide, by go_num, HN, HBX.out⟩
        case measure => decide
    · have hbx := hbel.alloc hbel.size (.cells #[.int .i64 304, .string ⟨#[78, 111, 116, 32, 77, 111, 100, 105, 102, 105, 101, 100]⟩] 90)
      have HBX := Lib.hid hbx
      clear hbx
      by_cases h : c = 304
      · have HR : Hid (S = ⟨#[78, 111, 116, 32, 77, 111, 100, 105, 102, 105, 101, 100]⟩) := by show _ = _; rw [HS.out, h]; rfl
        have h' : (304 : Int) = c := h.symm
        clear hf HS
        subst h
        go_wp2_with fail
        go_ret
        exact ⟨by rw [HR.out]; rfl, HBX.out⟩
      · have HN : Hid ((0 < (1 : Int) + 1 → ¬ c = 200) ∧ (1 < (1 : Int) + 1 → ¬ c = 304) ∧ (2 < (1 : Int) + 1 → ¬ c = 400) ∧ (3 < (1 : Int) + 1 → ¬ c = 502) ∧ (4 < (1 : Int) + 1 → ¬ c = 504)) := ⟨fun h => hf.out.1 (by decide), fun _ => h, fun h => by omega, fun h => by omega, fun h => by omega⟩
        have h' : ¬ (304 : Int) = c := fun e => h e.symm
        clear hf HS
        go_wp2_with fail
        go_roundw
        case rel => exact ⟨1 + 1, by decide, by decide, by go_num, HN, HBX.out⟩
        case measure => decide
    · have hbx := hbel.alloc hbel.size (.cells #[.int .i64 400, .string ⟨#[66, 97, 100, 32, 82, 101, 113, 117, 101, 115, 116]⟩] 90)
      have HBX := Lib.hid hbx
      clear hbx
      by_cases h : c = 400
      · have HR : Hid (S = ⟨#[66, 97, 100, 32, 82, 101, 113, 117, 101, 115, 116]⟩) := by show _ = _; rw [HS.out, h]; rfl
        have h' : (400 : Int) = c := h.symm
        clear hf HS
        subst h
        go_wp2_with fail
        go_ret
        exact ⟨by rw [HR.out]; rfl, HBX.out⟩
      · have HN : Hid ((0 < (2 : Int) + 1 → ¬ c = 200) ∧ (1 < (2 : Int) + 1 → ¬ c = 304) ∧ (2 < (2 : Int) + 1 → ¬ c = 400) ∧ (3 < (2 : Int) + 1 → ¬ c = 502) ∧ (4 < (2 : Int) + 1 → ¬ c = 504)) := ⟨fun h => hf.out.1 (by decide), fun h => hf.out.2.1 (by decide), fun _ => h, fun h => by omega, fun h => by omega⟩
        have h' : ¬ (400 : Int) = c := fun e => h e.symm
        clear hf HS
        go_wp2_with fail
        go_roundw
        case rel => exact ⟨2 + 1, by decide, by decide, by go_num, HN, HBX.out⟩
        case measure => decide
    · have hbx := hbel.alloc hbel.size (.cells #[.int .i64 502, .string ⟨#[66, 97, 100, 32, 71, 97, 116, 101, 119, 97, 121]⟩] 90)
      have HBX := Lib.hid hbx
      clear hbx
      by_cases h : c = 502
      · have HR : Hid (S = ⟨#[66, 97, 100, 32, 71, 97, 116, 101, 119, 97, 121]⟩) := by show _ = _; rw [HS.out, h]; rfl
        have h' : (502 : Int) = c := h.symm
        clear hf HS
        subst h
        go_wp2_with fail
        go_ret
        exact ⟨by rw [HR.out]; rfl, HBX.out⟩
      · have HN : Hid ((0 < (3 : Int) + 1 → ¬ c = 200) ∧ (1 < (3 : Int) + 1 → ¬ c = 304) ∧ (2 < (3 : Int) + 1 → ¬ c = 400) ∧ (3 < (3 : Int) + 1 → ¬ c = 502) ∧ (4 < (3 : Int) + 1 → ¬ c = 504)) := ⟨fun h => hf.out.1 (by decide), fun h => hf.out.2.1 (by decide), fun h => hf.out.2.2.1 (by decide), fun _ => h, fun h => by omega⟩
        have h' : ¬ (502 : Int) = c := fun e => h e.symm
        clear hf HS
        go_wp2_with fail
        go_roundw
        case rel => exact ⟨3 + 1, by decide, by decide, by go_num, HN, HBX.out⟩
        case measure => decide
    · have hbx := hbel.alloc hbel.size (.cells #[.int .i64 504, .string ⟨#[71, 97, 116, 101, 119, 97, 121, 32, 84, 105, 109, 101, 111, 117, 116]⟩] 90)
      have HBX := Lib.hid hbx
      clear hbx
      by_cases h : c = 504
      · have HR : Hid (S = ⟨#[71, 97, 116, 101, 119, 97, 121, 32, 84, 105, 109, 101, 111, 117, 116]⟩) := by show _ = _; rw [HS.out, h]; rfl
        have h' : (504 : Int) = c := h.symm
        clear hf HS
        subst h
        go_wp2_with fail
        go_ret
        exact ⟨by rw [HR.out]; rfl, HBX.out⟩
      · have HN : Hid ((0 < (4 : Int) + 1 → ¬ c = 200) ∧ (1 < (4 : Int) + 1 → ¬ c = 304) ∧ (2 < (4 : Int) + 1 → ¬ c = 400) ∧ (3 < (4 : Int) + 1 → ¬ c = 502) ∧ (4 < (4 : Int) + 1 → ¬ c = 504)) := ⟨fun h => hf.out.1 (by decide), fun h => hf.out.2.1 (by decide), fun h => hf.out.2.2.1 (by decide), fun h => hf.out.2.2.2.1 (by decide), fun _ => h⟩
        have h' : ¬ (504 : Int) = c := fun e => h e.symm
        clear hf HS
        go_wp2_with fail
        go_roundw
        case rel => exact ⟨4 + 1, by decide, by decide, by go_num, HN, HBX.out⟩
        case measure => decide
    · have HR : Hid (S = ⟨#[]⟩) := by
        obtain ⟨f0, f1, f2, f3, f4⟩ := hf.out
        show _ = _
        rw [HS.out, if_neg (f0 (by decide)), if_neg (f1 (by decide)), if_neg (f2 (by decide)), if_neg (f3 (by decide)), if_neg (f4 (by decide))]
      clear hf HS
      go_wp2_with fail
      go_ret
      exact ⟨by rw [HR.out]; rfl, hbel⟩


end Go.Proofs.YtjkfdjolhmgemaaGreatDoor
end
