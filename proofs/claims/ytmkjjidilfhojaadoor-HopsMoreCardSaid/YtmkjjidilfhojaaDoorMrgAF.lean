/-
  Texts that the laws of this seat lean on, one behind the other.
-/
import Derived.Test.YtmkjjidilfhojaaDoorMrgAB
import Derived.Test.YtmkjjidilfhojaaDoorMrgAD
import Derived.Test.YtmkjjidilfhojaaDoorMrgT
import Derived.Test.YtmkjjidilfhojaaDoorMrgB
import Derived.Test.YtmkjjidilfhojaaDoorMrgAE
import Derived.Deep.RegionLaw
import Derived.Test.YtmkjjidilfhojaaDoorRows
/-
  Contracts of package hops' table of names and of Hop.
-/
section
namespace Go.Proofs.YtmkjjidilfhojaaDoor
open Go.RowKit
set_option linter.unusedSimpArgs false

def hopVs : List Value := hopN.map Value.string
/-- The package's table. -/
def HopTabs (w : World) : Prop := w.var? Tryd.prog "depot/hops.hopNames" = some hopVs.toArray
theorem HopTabs.kept {w w' : World} (h : HopTabs w) (hb : Below w.heap.size w w') : HopTabs w' := var_below h hb
theorem hop_index (W : World) (k : Nat) (hk : k < hopN.length) : (Instr.index 45 (.agg hopVs.toArray) (.int .i64 (k : Int))).run Tryd.prog W = .ok (.string hopN[k]) W :=
  run_index_one Tryd.underlying45 Tryd.underlying9 rfl (by kernel_rfl) _ _ _ (by omega) (by have : hopN.length = 10 := rfl; omega) _ (by
    show hopVs.toArray[(k : Int).toNat]? = _
    rw [Int.toNat_natCast, List.getElem?_toArray]
    unfold hopVs
    rw [List.getElem?_map, List.getElem?_eq_getElem hk]; rfl) _

set_option maxHeartbeats 2000000 in
set_option maxRecDepth 100000 in
theorem hop_any (name : ByteArray) (hz : name.size ≤ maxLen) (w : World) (HT : HopTabs w) :
    Calls Tryd.prog 14 #[.string name] w fun e w' => e = .returned (.bool (hopB name)) ∧ Below w.heap.size w w' := by
  obtain ⟨ty, fr, hblk⟩ := var_block (g := 0) (by kernel_rfl) HT
  have HM : Hid ((Tryd.prog.info? 45).map (·.size) = some hopVs.toArray.size) := by show _ = _; rw [show hopVs.toArray.size = 10 from rfl]; kernel_rfl
  have HB := Lib.hid hblk
  have HL := Lib.hid (show hopN.length = 10 from rfl)
  have HLE := Lib.hid hopN_le
  have HD := Lib.hid (show hopB name = hopN.any fun n => sameB n name from rfl)
  have HI := Lib.hid (fun W k hk => hop_index W k hk)
  generalize hopB name = R at *
  generalize hopVs.toArray = LA at *
  generalize hopN = N at *
  clear hblk HT
  go_enter Tryd.func14, Tryd.ntmps14
  go_wp2_with (refine wpList_load_row rfl _ _ rfl 0 rfl ty LA fr _ HB.out Tryd.underlying45 rfl HM.out ?_)
  go_loopw [6] (fun i wr => ∃ k : Nat, k ≤ 10 ∧ i = .int .i64 (k : Int) ∧ Hid (∀ j (hj : j < N.length), j < k → sameB N[j] name = false) ∧ Below w.heap.size w wr) (fun i _ => 10 - (intOf i).toNat)
  case atStart => exact ⟨0, Nat.zero_le _, rfl, fun j hj h0 => absurd h0 (by omega), Below.refl _ _⟩
  case round =>
    obtain ⟨k, hk, rfl, hf, hbel⟩ := hrel
    by_cases hlt : k < 10
    · have hkN : k < N.length := by have := HL.out; omega
      have hix := fun W => HI.out W k hkN
      have hle := HLE.out _ (List.getElem_mem hkN)
      have HH : Hid (sameB N[k] name = true → R = true) := fun h => by rw [HD.out]; exact List.any_eq_true.2 ⟨N[k], List.getElem_mem hkN, h⟩
      have HN : Hid (sameB N[k] name = false → ∀ j (hj : j < N.length), j < k + 1 → sameB N[j] name = false) := fun h j hj hjk => by
        by_cases e : j = k
        · subst e; exact h
        · exact hf.out j hj (by omega)
      generalize N[k] = nm at *
      have CS := Lib.hid (same_any name nm wr hz hle)
      rw [same_symm] at CS
      have hi0 : (0 : Int) ≤ (k : Int) := by omega
      have hi1 : (k : Int) < 10 := by omega
      clear hf HI
      cases hq : sameB nm name with
      | true =>
        have HR := Lib.hid (HH.out hq)
        rw [hq] at CS
        clear hq HH HN
        go_wp2_with fail
        refine CS.out.mono ?_
        rintro e w1 ⟨rfl, hb1⟩
        go_wp2_with fail
        go_ret
        exact ⟨by rw [HR.out]; rfl, hbel.trans (hb1.mono hbel.size)⟩
      | false =>
        have HR := Lib.hid (HN.out hq)
        rw [hq] at CS
        clear hq HH HN
        go_wp2_with fail
        refine CS.out.mono ?_
        rintro e w1 ⟨rfl, hb1⟩
        go_wp2_with fail
        go_roundw
        case rel => exact ⟨k + 1, by omega, by go_num, HR.out, hbel.trans (hb1.mono hbel.size)⟩
        case measure => simp [intOf]; omega
    · have HR : Hid (R = false) := by
        show _ = _
        rw [HD.out, List.any_eq_false]
        intro n hn
        obtain ⟨j, hj, rfl⟩ := List.getElem_of_mem hn
        have := HL.out
        simp [hf.out j hj (by omega)]
      have hi1 : ¬ (k : Int) < 10 := by omega
      go_wp2_with fail
      go_ret
      exact ⟨by rw [HR.out]; rfl, hbel⟩

end Go.Proofs.YtmkjjidilfhojaaDoor
end

/-
  What the rows' list of variables gives the walks of layer 16: the program's table of names.
-/
section
namespace Go.Proofs.YtmkjjidilfhojaaDoor
open Go.RowKit

theorem hopTabs {W : World} (h : laidMetH Tryd.prog Rows.hopsStripsRow.laid W) : HopTabs W := by
  rw [MakeChecks.laidMetH_plain _ _ _ (by kernel_rfl)] at h
  exact var_in h (.head _) (g := 0) (by kernel_rfl) (t := 45) (by kernel_rfl) (by kernel_rfl)

end Go.Proofs.YtmkjjidilfhojaaDoor
end
