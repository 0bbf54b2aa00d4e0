/-
  Texts that the laws of this seat lean on, one behind the other.
-/
import Derived.Test.YtnembpklidcgoaaGreatDoorMrhAA
import Derived.Test.YtnembpklidcgoaaGreatDoorMrhAK
import Derived.Test.YtnembpklidcgoaaGreatDoorMrhAI
import Derived.Test.YtnembpklidcgoaaGreatDoorMrhX
import Derived.Laws.Cover1
import Derived.Lib.MinMax
import Derived.IntWalk
import Derived.Test.YtnembpklidcgoaaGreatDoorMrhAM
import Derived.Test.YtnembpklidcgoaaGreatDoorMrhAC
set_option linter.unusedSimpArgs false
set_option linter.unusedVariables false
/-
  Package life's table of codes; contracts of greatest, clamp, between, Usual.
-/
section
namespace Go.Proofs.YtnembpklidcgoaaGreatDoor
open Go.RowKit
set_option linter.unusedSimpArgs false

def usuVs : List Value := usuL.map (Value.int .i64)
/-- The package's table, and date's. -/
structure LifTabs (w : World) : Prop where
  dat : DatTabs w
  usu : w.var? Tryz.prog "depot/life.usualCodes" = some usuVs.toArray
theorem LifTabs.kept {w w' : World} (h : LifTabs w) (hb : Below w.heap.size w w') : LifTabs w' := ⟨h.dat.kept hb, var_below h.usu hb⟩
theorem usu_index (W : World) (k : Nat) (hk : k < usuL.length) : (Instr.index 124 (.agg usuVs.toArray) (.int .i64 (k : Int))).run Tryz.prog W = .ok (.int .i64 usuL[k]) W :=
  run_index_one Tryz.underlying124 Tryz.underlying3 rfl (by kernel_rfl) _ _ _ (by omega) (by have : usuL.length = 11 := rfl; omega) _ (by
    show usuVs.toArray[(k : Int).toNat]? = _
    rw [Int.toNat_natCast, List.getElem?_toArray]
    unfold usuVs
    rw [List.getElem?_map, List.getElem?_eq_getElem hk]; rfl) _

theorem clp_any (n m : Int) (w : World) :
    Calls Tryz.prog 120 #[.int .i64 n, .int .i64 m] w fun e w' => e = .returned (.int .i64 (max 0 (min n m))) ∧ w = w' := by
  obtain ⟨R, hR⟩ : ∃ R, R = max 0 (min n m) := ⟨_, rfl⟩
  rw [← hR]
  have HR := Lib.hid hR
  clear hR
  go_enter Tryz.func120, Tryz.ntmps120
  go_wp2_with fail
  go_ret
  exact ⟨by rw [HR.out]; rfl, rfl⟩
theorem clp_clk (n : Int) : max 0 (min n 253402300799) = clkN n := by unfold clkN; omega
theorem clp_apr (a b : Int) : max 0 (min (clkN a - clkN b) 2147483648) = aprN a b := by unfold aprN; omega

theorem btw_any (a b : Int) (w : World) :
    Calls Tryz.prog 70 #[.int .i64 b, .int .i64 a] w fun e w' => e = .returned (.int .i64 (aprN a b)) ∧ w = w' := by
  have C1 := Lib.hid (fun W => clp_any a 253402300799 W)
  have C2 := Lib.hid (fun W => clp_any b 253402300799 W)
  rw [clp_clk] at C1 C2
  obtain ⟨x0, x1⟩ := clkN_bd a
  obtain ⟨y0, y1⟩ := clkN_bd b
  have C3 := Lib.hid (fun W => clp_any (clkN a - clkN b) 2147483648 W)
  rw [clp_apr] at C3
  generalize aprN a b = R at *
  generalize clkN a = x at *
  generalize clkN b = y at *
  go_enter Tryz.func70, Tryz.ntmps70
  go_wp2_with fail
  refine (C1.out _).mono ?_
  rintro e w1 ⟨rfl, rfl⟩
  go_wp2_with fail
  refine (C2.out _).mono ?_
  rintro e w2 ⟨rfl, rfl⟩
  go_wp2_with fail
  refine (C3.out _).mono ?_
  rintro e w3 ⟨rfl, rfl⟩
  go_wp2_with fail
  go_ret
  exact ⟨rfl, rfl⟩

theorem grt_any (a c : Int) (b : Nat) (w : World) (hc : w.cell? ⟨b, 0, none⟩ = some (.int .i64 c)) :
    Calls Tryz.prog 68 #[.int .i64 a, .slice (some ⟨b, 0, none⟩) 1 1] w fun e w' => e = .returned (.int .i64 (max a c)) ∧ w = w' := by
  obtain ⟨m, hm⟩ : ∃ m, max a c = m := ⟨_, rfl⟩
  rw [hm]
  have HM := Lib.hid hm
  clear hm
  go_enter Tryz.func68, Tryz.ntmps68
  go_wp2
  go_loop [0, 9] (fun x i => (i = .int .i64 0 ∧ x = .int .i64 a) ∨ (i = .int .i64 1 ∧ x = .int .i64 m)) (fun _ i => 1 - (intOf i).toNat)
  case atStart => exact .inl ⟨rfl, rfl⟩
  case round =>
    rcases hrel with ⟨rfl, rfl⟩ | ⟨rfl, rfl⟩
    · by_cases h : a < c
      · have hmc : m = c := by have := HM.out; omega
        subst hmc
        go_wp2
        go_round
        case rel => exact .inr ⟨rfl, rfl⟩
        case measure => simp [intOf]
      · have hmc : m = a := by have := HM.out; omega
        subst hmc
        go_wp2
        go_round
        case rel => exact .inr ⟨rfl, rfl⟩
        case measure => simp [intOf]
    · go_wp2
      go_ret
      exact ⟨rfl, rfl⟩

set_option maxHeartbeats 2000000 in
set_option maxRecDepth 100000 in
theorem lifU_any (c : Int) (w : World) (HT : LifTabs w) :
    Calls Tryz.prog 81 #[.int .i64 c] w fun e w' => e = .returned (.bool (usuB c)) ∧ Below w.heap.size w w' := by
  obtain ⟨ty, fr, hblk⟩ := var_block (g := 1) (by kernel_rfl) HT.usu
  have HM : Hid ((Tryz.prog.info? 124).map (·.size) = some usuVs.toArray.size) := by show _ = _; rw [show usuVs.toArray.size = 11 from rfl]; kernel_rfl
  have HB := Lib.hid hblk
  have HL := Lib.hid (show usuL.length = 11 from rfl)
  have HD := Lib.hid (show usuB c = usuL.any fun x => x == c from rfl)
  have HI := Lib.hid (fun W k hk => usu_index W k hk)
  generalize usuB c = R at *
  generalize usuVs.toArray = LA at *
  generalize usuL = N at *
  clear hblk HT
  go_enter Tryz.func81, Tryz.ntmps81
  go_wp2_with (refine wpList_load_row rfl _ _ rfl 1 rfl ty LA fr _ HB.out Tryz.underlying124 rfl HM.out ?_)
  go_loopw [6] (fun i wr => ∃ k : Nat, k ≤ 11 ∧ i = .int .i64 (k : Int) ∧ Hid (∀ j (hj : j < N.length), j < k → (N[j] == c) = false) ∧ Below w.heap.size w wr) (fun i _ => 11 - (intOf i).toNat)
  case atStart => exact ⟨0, Nat.zero_le _, rfl, fun j hj h0 => absurd h0 (by omega), Below.refl _ _⟩
  case round =>
    obtain ⟨k, hk, rfl, hf, hbel⟩ := hrel
    by_cases hlt : k < 11
    · have hkN : k < N.length := by have := HL.out; omega
      have hix := fun W => HI.out W k hkN
      have HH : Hid ((N[k] == c) = true → R = true) := fun h => by rw [HD.out]; exact List.any_eq_true.2 ⟨N[k], List.getElem_mem hkN, h⟩
      have HN : Hid ((N[k] == c) = false → ∀ j (hj : j < N.length), j < k + 1 → (N[j] == c) = false) := fun h j hj hjk => by
        by_cases e : j = k
        · subst e; exact h
        · exact hf.out j hj (by omega)
      generalize N[k] = z at *
      have hi0 : (0 : Int) ≤ (k : Int) := by omega
      have hi1 : (k : Int) < 11 := by omega
      clear hf HI
      cases hq : (z == c) with
      | true =>
        have HR := Lib.hid (HH.out hq)
        have hq' : (c == z) = true := by rw [Bool.beq_comm]; exact hq
        clear HH HN
        go_wp2_with fail
        go_ret
        exact ⟨by rw [HR.out]; rfl, hbel⟩
      | false =>
        have HR := Lib.hid (HN.out hq)
        have hq' : (c == z) = false := by rw [Bool.beq_comm]; exact hq
        clear HH HN
        go_wp2_with fail
        go_roundw
        case rel => exact ⟨k + 1, by omega, by go_num, HR.out, hbel⟩
        case measure => simp [intOf]; omega
    · have HR : Hid (R = false) := by
        show _ = _
        rw [HD.out, List.any_eq_false]
        intro n hn
        obtain ⟨j, hj, rfl⟩ := List.getElem_of_mem hn
        have := HL.out
        simp only [hf.out j hj (by omega), Bool.false_eq_true, not_false_eq_true]
      have hi1 : ¬ (k : Int) < 11 := by omega
      go_wp2_with fail
      go_ret
      exact ⟨by rw [HR.out]; rfl, hbel⟩

end Go.Proofs.YtnembpklidcgoaaGreatDoor
end

/-
  Contracts of package life's When, times and the function that times makes.
-/
section
namespace Go.Proofs.YtnembpklidcgoaaGreatDoor
open Go.RowKit

set_option maxHeartbeats 2000000 in
set_option maxRecDepth 100000 in
theorem lifW_any (A : Option Addr) (c : Nat) (L : List Fd) (name : ByteArray) (w : World) (h : SlF w A L.length c L) (hL : FwL L) (hz : name.size ≤ 1000000) (HT : LifTabs w) :
    Calls Tryz.prog 51 #[.slice A L.length c, .string name] w fun e w' => e = .returned (.tuple #[.int .i64 (whnV L name), .bool (whnB L name)]) ∧ Below w.heap.size w w' := by
  have C1 := Lib.hid (all_any A L.length c L name w h (by have := hL.n; omega) (fwl_bd hL) (by unfold maxLen; omega))
  have HT := Lib.hid HT
  have hvz := (fwl_all hL name).2
  have hV : whnV L name = if (fdAll L name).length = 1 then (parT (mkS ((fdAll L name).headD []))).1 else 0 := rfl
  have hB : whnB L name = if (fdAll L name).length = 1 then decide ((parT (mkS ((fdAll L name).headD []))).2 = 0) else false := rfl
  generalize whnV L name = V at *
  generalize whnB L name = b at *
  generalize fdAll L name = X at *
  clear h hL hz
  unfold Vals at C1
  by_cases h1 : X.length = 1
  · rw [if_pos h1] at hV hB
    obtain ⟨x, rfl⟩ : ∃ x, X = [x] := by
      match X, h1 with
      | [x], _ => exact ⟨x, rfl⟩
    replace hV : V = (parT (mkS x)).1 := hV
    replace hB : b = decide ((parT (mkS x)).2 = 0) := hB
    have hxz := hvz x (List.mem_singleton.2 rfl)
    have CP := Lib.hid (fun W (hW : DatTabs W) => dParse_any (mkS x) (by rw [mkS_size]; omega) W hW)
    rw [← hV] at CP
    obtain ⟨q, hq⟩ : ∃ q, q = (parT (mkS x)).2 := ⟨_, rfl⟩
    rw [← hq] at CP
    replace hB : b = decide (q = 0) := by rw [hB, hq]
    clear hq
    obtain ⟨xs, hxs⟩ : ∃ xs, xs = mkS x := ⟨_, rfl⟩
    rw [← hxs] at CP
    have HX := Lib.hid hxs
    have HB := Lib.hid hB
    clear hV hB hvz hxs hxz
    simp only [List.length_singleton] at C1
    go_enter Tryz.func51, Tryz.ntmps51
    go_wp2_with fail
    refine C1.out.mono ?_
    rintro e w1 ⟨A1, c1, rfl, hS, _, hb1⟩
    obtain ⟨ad, rfl, hc⟩ := hS.at_ (by omega)
    have hcell := hc 0 x rfl
    rw [Addr.add_zero', ← HX.out] at hcell
    have HB1 := Lib.hid hb1
    clear hS hc hb1 C1
    go_wp2_with fail
    refine (CP.out _ (HT.out.kept HB1.out).dat).mono ?_
    rintro e w2 ⟨rfl, hb2⟩
    go_wp2_with fail
    go_ret2
    exact ⟨by rw [HB.out]; first | done | rfl, below_then HB1.out hb2⟩
  · rw [if_neg h1] at hV hB
    subst hV hB
    have h1' : ¬ (X.length : Int) = 1 := by omega
    generalize X.length = n at *
    clear h1 hvz
    go_enter Tryz.func51, Tryz.ntmps51
    go_wp2_with fail
    refine C1.out.mono ?_
    rintro e w1 ⟨A1, c1, rfl, _, _, hb1⟩
    go_wp2_with fail
    go_ret2
    exact ⟨rfl, hb1⟩

theorem tms_any (R : Array Value) (w : World) (g : Nat) (hg : w.heap.size = g) :
    Calls Tryz.prog 121 #[.agg R] w fun e w' => e = .returned (.func (.func 157) #[] #[.pointer (some ⟨g, 0, none⟩)]) ∧ w.alloc (.cells R 26) = w' := by
  subst hg
  have hmf : ∀ (fn : Fn) (first cap : Array Value) (w : World), (Instr.makeFunc fn first cap).run Tryz.prog w = .ok (.func fn first cap) w := fun _ _ _ _ => rfl
  go_enter Tryz.func121, Tryz.ntmps121
  go_wp2
  go_ret
  exact ⟨rfl, rfl⟩

theorem tol1_any (g : Nat) (A : Option Addr) (c : Nat) (L : List Fd) (name : ByteArray) (w : World) (hg : w.cell? ⟨g, 3, none⟩ = some (.slice A L.length c)) (h : SlF w A L.length c L) (hL : FwL L) (hz : name.size ≤ 1000000) (HT : LifTabs w) :
    Calls Tryz.prog 157 #[.string name, .pointer (some ⟨g, 0, none⟩)] w fun e w' => e = .returned (.tuple #[.int .i64 (whnV L name), .bool (whnB L name)]) ∧ Below w.heap.size w w' := by
  have C := Lib.hid (lifW_any A c L name w h hL hz HT)
  generalize whnV L name = V at *
  generalize whnB L name = b at *
  generalize L.length = n at *
  clear h hL HT
  go_enter Tryz.func157, Tryz.ntmps157
  go_wp2_with fail
  refine C.out.mono ?_
  rintro e w1 ⟨rfl, hb⟩
  go_wp2_with fail
  go_ret2
  exact ⟨rfl, hb⟩

end Go.Proofs.YtnembpklidcgoaaGreatDoor
end
