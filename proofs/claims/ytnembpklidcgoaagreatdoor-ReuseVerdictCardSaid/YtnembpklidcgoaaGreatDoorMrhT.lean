/-
  Texts that the laws of this seat lean on, one behind the other.
-/
import Derived.Test.YtnembpklidcgoaaGreatDoorMrhS
import Derived.Shelf.RegionOpenPlain
import Derived.Lib.Overlaps
import Derived.Lib.AppendZerosOnto
import Derived.Laws.CopyRow
import Derived.Laws.CopyOwn
import Derived.Laws.Externs
import Derived.Laws.NewBlocks
import Derived.Test.YtnembpklidcgoaaGreatDoorMrhM
import Derived.Laws.Cover1
import Derived.Lib.MinMax
import Derived.Test.YtnembpklidcgoaaGreatDoorMrhB
import Derived.Test.YtnembpklidcgoaaGreatDoorMrhL
import Derived.IntWalk
import Derived.Test.YtnembpklidcgoaaGreatDoorMrhO
import Derived.Deep.QuietTactic
import Derived.BigQuiet
set_option linter.unusedSimpArgs false
set_option linter.unusedVariables false
/-
  Contract of slices.Insert of one field into a row of the call's own.
-/
section
namespace Go.Proofs.YtnembpklidcgoaaGreatDoor
open Go.RowKit

end Go.Proofs.YtnembpklidcgoaaGreatDoor
end

/-
  Contracts of the reference's Least, has, least, greatest (layer 13).
-/
section
namespace Go.Proofs.YtnembpklidcgoaaGreatDoor
open Go.RowKit

theorem r_least (a b : Int) (w : World) :
    Calls Tryz.prog 134 #[.int .i64 a, .int .i64 b] w fun e w' => e = .returned (.int .i64 (leaN a b)) ∧ w = w' := by
  have hD : leaN a b = if a < 0 ∨ b < 0 then max (max a b) (-1) else min a b := rfl
  generalize leaN a b = R at *
  by_cases h1 : a < 0 ∨ b < 0
  · rw [if_pos h1] at hD
    have km : ∀ (W : World) (ts : Array TypeId) (t : TypeId), (Builtin.max_ ts t #[.int .i64 a, .int .i64 b, .int .i64 (-1)]).run Tryz.prog W = .ok (.int .i64 R) W := fun W ts t => by
      rw [run_max_int3, hD]
      congr 2
      repeat' split
      all_goals omega
    clear hD
    rcases h1 with h1 | h1
    · go_enter Tryz.func134, Tryz.ntmps134
      go_wp2_with fail
      go_ret
      exact ⟨rfl, rfl⟩
    · by_cases h2 : a < 0
      all_goals
        go_enter Tryz.func134, Tryz.ntmps134
        go_wp2_with fail
        go_ret
        exact ⟨rfl, rfl⟩
  · rw [if_neg h1] at hD
    have HR := Lib.hid hD
    clear hD
    have h2 : ¬ a < 0 := fun h => h1 (.inl h)
    have h3 : ¬ b < 0 := fun h => h1 (.inr h)
    clear h1
    go_enter Tryz.func134, Tryz.ntmps134
    go_wp2_with fail
    go_ret
    exact ⟨by rw [HR.out]; rfl, rfl⟩

/-! ### Names in a slice -/
def hsN (N : List (List UInt8)) (nm : ByteArray) : Bool := N.any fun x => x == nm.data.toList
theorem hsN_step (N : List (List UInt8)) (nm : ByteArray) (k : Nat) (h : k < N.length) : hsN (N.take (k + 1)) nm = (hsN (N.take k) nm || (N[k] == nm.data.toList)) := by
  unfold hsN
  rw [List.take_succ_eq_append_getElem h, List.any_append]
  simp
theorem hsN_hit (N : List (List UInt8)) (nm : ByteArray) (k : Nat) (h : k < N.length) (g : (N[k] == nm.data.toList) = true) : hsN N nm = true := by
  unfold hsN
  exact List.any_eq_true.2 ⟨N[k], List.getElem_mem h, g⟩

theorem r_has13 (A : Option Addr) (n c : Nat) (N : List (List UInt8)) (nm : ByteArray) (w : World) (h : SlS w A n c N) (hn : n ≤ 1000000000) :
    Calls Tryz.prog 84 #[.slice A n c, .string nm] w fun e w' => e = .returned (.bool (hsN N nm)) ∧ w = w' := by
  have hlen := h.len
  subst hlen
  go_enter Tryz.func84, Tryz.ntmps84
  go_wp2_with fail
  go_loop [5] (fun i => ∃ k : Nat, k ≤ N.length ∧ i = .int .i64 (k : Int) ∧ Hid (hsN (N.take k) nm = false)) (fun i => N.length - (intOf i).toNat)
  case atStart => exact ⟨0, Nat.zero_le _, rfl, rfl⟩
  case round =>
    obtain ⟨k, hk, rfl, hf⟩ := hrel
    by_cases hlt : k < N.length
    · obtain ⟨ad, rfl, hc⟩ := h.at_ (by omega)
      have hcell := hc k N[k] (List.getElem?_eq_getElem hlt)
      have hst := hsN_step N nm k hlt
      have hhit := hsN_hit N nm k hlt
      have heq : ((mkS N[k]).toList == nm.toList) = (N[k] == nm.data.toList) := by rw [Lib.toList_data, Lib.toList_data, mkS_list]
      generalize mkS N[k] = x at *
      rw [← heq] at hst hhit
      have hi0 : (0 : Int) ≤ (k : Int) := by omega
      have hi1 : (k : Int) < (N.length : Int) := by omega
      clear hc heq
      rcases Bool.eq_false_or_eq_true (x.toList == nm.toList) with e | e
      · have HR := Lib.hid (hhit e)
        clear hst hhit hf
        go_wp2_with fail
        go_ret
        exact ⟨by rw [HR.out]; rfl, rfl⟩
      · have HR : Hid (hsN (N.take (k + 1)) nm = false) := by show _ = _; rw [hst, hf.out, e]; rfl
        clear hst hhit hf
        go_wp2_with fail
        go_round
        case rel => exact ⟨k + 1, by omega, by go_num, HR⟩
        case measure => simp [intOf]; omega
    · have HR : Hid (hsN N nm = false) := by
        have := hf.out
        rwa [List.take_of_length_le (by omega)] at this
      have hi1 : ¬ (k : Int) < (N.length : Int) := by omega
      clear hf
      go_wp2_with fail
      go_ret
      exact ⟨by rw [HR.out]; rfl, rfl⟩

/-! ### The least and the greatest number of a name -/
theorem sec_bd (l : List UInt8) : 0 ≤ secN l ∧ secN l ≤ 2147483648 := by
  unfold secN
  split
  · exact ⟨cutV_nn (by decide) (by decide) l, cutV_le (by decide) l⟩
  · exact ⟨Int.le_refl _, by decide⟩
theorem lst_bd (nm : ByteArray) (n : Int) (d : Dv) (h : -1 ≤ n ∧ n ≤ 2147483648) : -1 ≤ lstS nm n d ∧ lstS nm n d ≤ 2147483648 := by
  have := sec_bd d.2
  unfold lstS leaN
  repeat' split
  all_goals omega
theorem grt_bd (nm : ByteArray) (n : Int) (d : Dv) (h : -1 ≤ n ∧ n ≤ 2147483648) : -1 ≤ grtS nm n d ∧ grtS nm n d ≤ 2147483648 := by
  have := sec_bd d.2
  unfold grtS
  repeat' split
  all_goals omega
theorem fold_at {α β : Type} (f : β → α → β) (b : β) (D : List α) (k : Nat) (h : k < D.length) : (D.take (k + 1)).foldl f b = f ((D.take k).foldl f b) D[k] := by
  rw [List.take_succ_eq_append_getElem h, List.foldl_append]; rfl

set_option maxHeartbeats 4000000 in
set_option maxRecDepth 100000 in
theorem r_lstS (A B : Option Addr) (n c d : Nat) (D : List Dv) (nm : ByteArray) (w : World) (h : SlS w A n c (D.map (·.1))) (h' : SlS w B n d (D.map (·.2))) (hn : n ≤ 1000000000) (hz : ∀ x ∈ D, x.2.length ≤ 1000000) :
    Calls Tryz.prog 85 #[.slice A n c, .slice B n d, .string nm] w fun e w' => e = .returned (.int .i64 (D.foldl (lstS nm) (-1))) ∧ w = w' := by
  have hlen := h.len
  rw [List.length_map] at hlen
  subst hlen
  go_enter Tryz.func85, Tryz.ntmps85
  go_wp2_with fail
  go_loop [7, 8] (fun u i => ∃ (k : Nat) (m : Int), k ≤ D.length ∧ i = .int .i64 (k : Int) ∧ u = .int .i64 m ∧ -1 ≤ m ∧ m ≤ 2147483648 ∧ Hid ((D.take k).foldl (lstS nm) (-1) = m)) (fun _ i => D.length - (intOf i).toNat)
  case atStart => exact ⟨0, -1, Nat.zero_le _, rfl, rfl, by decide, by decide, rfl⟩
  case round =>
    obtain ⟨k, m, hk, rfl, rfl, hm0, hm1, hf⟩ := hrel
    by_cases hlt : k < D.length
    · obtain ⟨ad, rfl, hc⟩ := h.at_ (by omega)
      obtain ⟨bd, rfl, hd⟩ := h'.at_ (by omega)
      have hcell := hc k D[k].1 (by rw [List.getElem?_map, List.getElem?_eq_getElem hlt]; rfl)
      have hcell2 := hd k D[k].2 (by rw [List.getElem?_map, List.getElem?_eq_getElem hlt]; rfl)
      have hst := fold_at (lstS nm) (-1) D k hlt
      have hzz := hz _ (List.getElem_mem hlt)
      have hbd := lst_bd nm m D[k] ⟨hm0, hm1⟩
      rw [hf.out] at hst
      have heq : ((mkS D[k].1).toList == nm.toList) = (D[k].1 == nm.data.toList) := by rw [Lib.toList_data, Lib.toList_data, mkS_list]
      generalize D[k] = x at *
      obtain ⟨x1, x2⟩ := x
      simp only at *
      unfold lstS at hst hbd
      simp only at hst hbd
      rw [← heq] at hst hbd
      have CS := Lib.hid (fun W => r_seconds (mkS x2) W (by rw [mkS_size]; have : (1000000 : Nat) ≤ maxLen := by decide
                                                            omega))
      rw [mkS_list] at CS
      have hsb := sec_bd x2
      generalize mkS x1 = y1 at *
      generalize mkS x2 = y2 at *
      generalize secN x2 = sn at *
      generalize secB x2 = sb at *
      have hi0 : (0 : Int) ≤ (k : Int) := by omega
      have hi1 : (k : Int) < (D.length : Int) := by omega
      clear hc hd heq hzz hf
      rcases Bool.eq_false_or_eq_true (y1.toList == nm.toList) with e | e
      · rw [e, if_pos rfl] at hst hbd
        have HQ := Lib.hid hst
        have CL := Lib.hid (fun W => r_least m sn W)
        generalize leaN m sn = q at *
        clear hst
        go_wp2_with fail
        refine (CS.out _).mono ?_
        rintro e w1 ⟨rfl, rfl⟩
        go_wp2_with fail
        refine (CL.out _).mono ?_
        rintro e w1 ⟨rfl, rfl⟩
        go_wp2_with fail
        go_round
        case rel => exact ⟨k + 1, q, by omega, by go_num, rfl, hbd.1, hbd.2, HQ⟩
        case measure => simp [intOf]; omega
      · rw [e, if_neg (by simp)] at hst
        have HQ := Lib.hid hst
        clear hst hbd CS
        go_wp2_with fail
        go_round
        case rel => exact ⟨k + 1, m, by omega, by go_num, rfl, hm0, hm1, HQ⟩
        case measure => simp [intOf]; omega
    · have HR : Hid (D.foldl (lstS nm) (-1) = m) := by
        have := hf.out
        rwa [List.take_of_length_le (by omega)] at this
      have hi1 : ¬ (k : Int) < (D.length : Int) := by omega
      clear hf
      go_wp2_with fail
      go_ret
      exact ⟨by rw [HR.out]; rfl, rfl⟩

set_option maxHeartbeats 4000000 in
set_option maxRecDepth 100000 in
theorem r_grtS (A B : Option Addr) (n c d : Nat) (D : List Dv) (nm : ByteArray) (w : World) (h : SlS w A n c (D.map (·.1))) (h' : SlS w B n d (D.map (·.2))) (hn : n ≤ 1000000000) (hz : ∀ x ∈ D, x.2.length ≤ 1000000) :
    Calls Tryz.prog 86 #[.slice A n c, .slice B n d, .string nm] w fun e w' => e = .returned (.int .i64 (D.foldl (grtS nm) (-1))) ∧ w = w' := by
  have hlen := h.len
  rw [List.length_map] at hlen
  subst hlen
  go_enter Tryz.func86, Tryz.ntmps86
  go_wp2_with fail
  go_loop [7, 8] (fun u i => ∃ (k : Nat) (m : Int), k ≤ D.length ∧ i = .int .i64 (k : Int) ∧ u = .int .i64 m ∧ -1 ≤ m ∧ m ≤ 2147483648 ∧ Hid ((D.take k).foldl (grtS nm) (-1) = m)) (fun _ i => D.length - (intOf i).toNat)
  case atStart => exact ⟨0, -1, Nat.zero_le _, rfl, rfl, by decide, by decide, rfl⟩
  case round =>
    obtain ⟨k, m, hk, rfl, rfl, hm0, hm1, hf⟩ := hrel
    by_cases hlt : k < D.length
    · obtain ⟨ad, rfl, hc⟩ := h.at_ (by omega)
      obtain ⟨bd, rfl, hd⟩ := h'.at_ (by omega)
      have hcell := hc k D[k].1 (by rw [List.getElem?_map, List.getElem?_eq_getElem hlt]; rfl)
      have hcell2 := hd k D[k].2 (by rw [List.getElem?_map, List.getElem?_eq_getElem hlt]; rfl)
      have hst := fold_at (grtS nm) (-1) D k hlt
      have hzz := hz _ (List.getElem_mem hlt)
      have hbd := grt_bd nm m D[k] ⟨hm0, hm1⟩
      rw [hf.out] at hst
      have heq : ((mkS D[k].1).toList == nm.toList) = (D[k].1 == nm.data.toList) := by rw [Lib.toList_data, Lib.toList_data, mkS_list]
      generalize D[k] = x at *
      obtain ⟨x1, x2⟩ := x
      simp only at *
      unfold grtS at hst hbd
      simp only at hst hbd
      rw [← heq] at hst hbd
      have CS := Lib.hid (fun W => r_seconds (mkS x2) W (by rw [mkS_size]; have : (1000000 : Nat) ≤ maxLen := by decide
                                                            omega))
      rw [mkS_list] at CS
      have hsb := sec_bd x2
      generalize mkS x1 = y1 at *
      generalize mkS x2 = y2 at *
      generalize secN x2 = sn at *
      generalize secB x2 = sb at *
      have hi0 : (0 : Int) ≤ (k : Int) := by omega
      have hi1 : (k : Int) < (D.length : Int) := by omega
      clear hc hd heq hzz hf
      rcases Bool.eq_false_or_eq_true (y1.toList == nm.toList) with e | e
      · rw [e, if_pos rfl] at hst hbd
        cases sb with
        | true =>
          rw [if_pos rfl] at hst hbd
          have HQ := Lib.hid hst
          clear hst
          go_wp2_with fail
          refine (CS.out _).mono ?_
          rintro e w1 ⟨rfl, rfl⟩
          go_wp2_with fail
          go_round
          case rel => exact ⟨k + 1, max m sn, by omega, by go_num, rfl, hbd.1, hbd.2, HQ⟩
          case measure => simp [intOf]; omega
        | false =>
          rw [if_neg (by simp)] at hst hbd
          have HQ := Lib.hid hst
          clear hst
          go_wp2_with fail
          refine (CS.out _).mono ?_
          rintro e w1 ⟨rfl, rfl⟩
          go_wp2_with fail
          go_round
          case rel => exact ⟨k + 1, max m 2147483648, by omega, by go_num, rfl, hbd.1, hbd.2, HQ⟩
          case measure => simp [intOf]; omega
      · rw [e, if_neg (by simp)] at hst
        have HQ := Lib.hid hst
        clear hst hbd CS
        go_wp2_with fail
        go_round
        case rel => exact ⟨k + 1, m, by omega, by go_num, rfl, hm0, hm1, HQ⟩
        case measure => simp [intOf]; omega
    · have HR : Hid (D.foldl (grtS nm) (-1) = m) := by
        have := hf.out
        rwa [List.take_of_length_le (by omega)] at this
      have hi1 : ¬ (k : Int) < (D.length : Int) := by omega
      clear hf
      go_wp2_with fail
      go_ret
      exact ⟨by rw [HR.out]; rfl, rfl⟩

end Go.Proofs.YtnembpklidcgoaaGreatDoor
end

/-
  Plain functions of layer 13's program, without the program: a table of directives, row by row.
-/
section
namespace Go.Proofs.YtnembpklidcgoaaGreatDoor
open Go.RowKit

theorem sec_or (v : List UInt8) : (if secB v = true then secN v else 0) = secN v := by
  unfold secB secN
  cases h : allB (isD 10) v with
  | false => simp
  | true =>
    cases v with
    | nil => simp; decide
    | cons x v => simp

/-- The table's names. -/
def rowN : Nat → ByteArray
  | 0 => nsS | 1 => ncS | 2 => pvS | 3 => puS | 4 => mrS | 5 => xrS | 6 => oiS | 7 => maS | 8 => smS | _ => mfS
/-- A row's effect. -/
def effC : Nat → Ctl → List UInt8 → Ctl
  | 0, c, _ => { c with ns := true }
  | 1, c, _ => { c with nc := true }
  | 2, c, _ => { c with pv := true }
  | 3, c, _ => { c with pu := true }
  | 4, c, _ => { c with mc := true }
  | 5, c, _ => { c with mc := true }
  | 6, c, _ => { c with oi := true }
  | 7, c, v => { c with ma := leaN c.ma (secN v) }
  | 8, c, v => { c with sh := leaN c.sh (secN v) }
  | _, c, v => { c with mf := max c.mf (if secB v then secN v else 2147483648) }
/-- A row at a directive. -/
def rowC (i : Nat) (d : Dv) (c : Ctl) : Ctl := if d.1 = (rowN i).data.toList then effC i c d.2 else c
/-- The first rows. -/
def rowsC (d : Dv) (c : Ctl) : Nat → Ctl
  | 0 => c
  | k + 1 => rowC k d (rowsC d c k)
/-- The whole table. -/
def stepC (c : Ctl) (d : Dv) : Ctl := rowsC d c 10
def readC (c : Ctl) (e : List UInt8) : Ctl := match dvO e with | some d => stepC c d | none => c

/-- The numbers are a word's. -/
def CtB (c : Ctl) : Prop := (-9223372036854775808 ≤ c.ma ∧ c.ma ≤ 9223372036854775807) ∧ (-9223372036854775808 ≤ c.sh ∧ c.sh ≤ 9223372036854775807) ∧ (-9223372036854775808 ≤ c.mf ∧ c.mf ≤ 9223372036854775807)

theorem rowC_0 (d : Dv) (c : Ctl) : rowC 0 d c = { c with ns := c.ns || (d.1 == nsS.data.toList) } := by
  show (if d.1 = nsS.data.toList then ({ c with ns := true } : Ctl) else c) = _
  by_cases h : d.1 = nsS.data.toList
  · rw [if_pos h, beq_iff_eq.2 h, Bool.or_true]
  · rw [if_neg h, beq_eq_false_iff_ne.2 h, Bool.or_false]
theorem rowC_1 (d : Dv) (c : Ctl) : rowC 1 d c = { c with nc := c.nc || (d.1 == ncS.data.toList) } := by
  show (if d.1 = ncS.data.toList then ({ c with nc := true } : Ctl) else c) = _
  by_cases h : d.1 = ncS.data.toList
  · rw [if_pos h, beq_iff_eq.2 h, Bool.or_true]
  · rw [if_neg h, beq_eq_false_iff_ne.2 h, Bool.or_false]
theorem rowC_2 (d : Dv) (c : Ctl) : rowC 2 d c = { c with pv := c.pv || (d.1 == pvS.data.toList) } := by
  show (if d.1 = pvS.data.toList then ({ c with pv := true } : Ctl) else c) = _
  by_cases h : d.1 = pvS.data.toList
  · rw [if_pos h, beq_iff_eq.2 h, Bool.or_true]
  · rw [if_neg h, beq_eq_false_iff_ne.2 h, Bool.or_false]
theorem rowC_3 (d : Dv) (c : Ctl) : rowC 3 d c = { c with pu := c.pu || (d.1 == puS.data.toList) } := by
  show (if d.1 = puS.data.toList then ({ c with pu := true } : Ctl) else c) = _
  by_cases h : d.1 = puS.data.toList
  · rw [if_pos h, beq_iff_eq.2 h, Bool.or_true]
  · rw [if_neg h, beq_eq_false_iff_ne.2 h, Bool.or_false]
theorem rowC_4 (d : Dv) (c : Ctl) : rowC 4 d c = { c with mc := c.mc || (d.1 == mrS.data.toList) } := by
  show (if d.1 = mrS.data.toList then ({ c with mc := true } : Ctl) else c) = _
  by_cases h : d.1 = mrS.data.toList
  · rw [if_pos h, beq_iff_eq.2 h, Bool.or_true]
  · rw [if_neg h, beq_eq_false_iff_ne.2 h, Bool.or_false]
theorem rowC_5 (d : Dv) (c : Ctl) : rowC 5 d c = { c with mc := c.mc || (d.1 == xrS.data.toList) } := by
  show (if d.1 = xrS.data.toList then ({ c with mc := true } : Ctl) else c) = _
  by_cases h : d.1 = xrS.data.toList
  · rw [if_pos h, beq_iff_eq.2 h, Bool.or_true]
  · rw [if_neg h, beq_eq_false_iff_ne.2 h, Bool.or_false]
theorem rowC_6 (d : Dv) (c : Ctl) : rowC 6 d c = { c with oi := c.oi || (d.1 == oiS.data.toList) } := by
  show (if d.1 = oiS.data.toList then ({ c with oi := true } : Ctl) else c) = _
  by_cases h : d.1 = oiS.data.toList
  · rw [if_pos h, beq_iff_eq.2 h, Bool.or_true]
  · rw [if_neg h, beq_eq_false_iff_ne.2 h, Bool.or_false]
theorem rowC_7 (d : Dv) (c : Ctl) : rowC 7 d c = { c with ma := lstS maS c.ma d } := by
  show (if d.1 = maS.data.toList then ({ c with ma := leaN c.ma (secN d.2) } : Ctl) else c) = _
  unfold lstS
  by_cases h : d.1 = maS.data.toList
  · rw [if_pos h, if_pos (beq_iff_eq.2 h)]
  · rw [if_neg h, if_neg (by rw [beq_eq_false_iff_ne.2 h]; simp)]
theorem rowC_8 (d : Dv) (c : Ctl) : rowC 8 d c = { c with sh := lstS smS c.sh d } := by
  show (if d.1 = smS.data.toList then ({ c with sh := leaN c.sh (secN d.2) } : Ctl) else c) = _
  unfold lstS
  by_cases h : d.1 = smS.data.toList
  · rw [if_pos h, if_pos (beq_iff_eq.2 h)]
  · rw [if_neg h, if_neg (by rw [beq_eq_false_iff_ne.2 h]; simp)]
theorem rowC_9 (d : Dv) (c : Ctl) : rowC 9 d c = { c with mf := grtS mfS c.mf d } := by
  show (if d.1 = mfS.data.toList then ({ c with mf := max c.mf (if secB d.2 then secN d.2 else 2147483648) } : Ctl) else c) = _
  unfold grtS
  by_cases h : d.1 = mfS.data.toList
  · rw [if_pos h, if_pos (beq_iff_eq.2 h)]
  · rw [if_neg h, if_neg (by rw [beq_eq_false_iff_ne.2 h]; simp)]

theorem stepC_eq (c : Ctl) (d : Dv) : stepC c d =
    ⟨c.ns || (d.1 == nsS.data.toList), c.nc || (d.1 == ncS.data.toList), c.pv || (d.1 == pvS.data.toList), c.pu || (d.1 == puS.data.toList), (c.mc || (d.1 == mrS.data.toList)) || (d.1 == xrS.data.toList), c.oi || (d.1 == oiS.data.toList), lstS maS c.ma d, lstS smS c.sh d, grtS mfS c.mf d⟩ := by
  unfold stepC
  simp only [rowsC, rowC_0, rowC_1, rowC_2, rowC_3, rowC_4, rowC_5, rowC_6, rowC_7, rowC_8, rowC_9]

theorem hasD_cons (d : Dv) (D : List Dv) (nm : ByteArray) : hasD (d :: D) nm = ((d.1 == nm.data.toList) || hasD D nm) := rfl
theorem fold_stepC : ∀ (D : List Dv) (c : Ctl), D.foldl stepC c =
    ⟨c.ns || hasD D nsS, c.nc || hasD D ncS, c.pv || hasD D pvS, c.pu || hasD D puS, c.mc || (hasD D mrS || hasD D xrS), c.oi || hasD D oiS, D.foldl (lstS maS) c.ma, D.foldl (lstS smS) c.sh, D.foldl (grtS mfS) c.mf⟩
  | [], c => by simp [hasD]
  | d :: D, c => by
    rw [List.foldl_cons, fold_stepC D, stepC_eq]
    simp only [List.foldl_cons, hasD_cons, Ctl.mk.injEq, Bool.or_assoc, true_and, and_true]
    rw [Bool.or_left_comm (d.1 == xrS.data.toList)]

theorem fold_readC : ∀ (E : List (List UInt8)) (c : Ctl), E.foldl readC c = (E.filterMap dvO).foldl stepC c
  | [], _ => rfl
  | e :: E, c => by
    rw [List.foldl_cons, fold_readC E, List.filterMap_cons]
    unfold readC
    cases dvO e <;> rfl

def ct0 : Ctl := ⟨false, false, false, false, false, false, -1, -1, -1⟩
theorem ctD_fold (D : List Dv) (fine : Bool) : ctD D fine = if fine = true then D.foldl stepC ct0 else { D.foldl stepC ct0 with ns := true, nc := true } := by
  rw [fold_stepC]
  unfold ctD ct0 lstD grtD
  cases fine <;> simp

end Go.Proofs.YtnembpklidcgoaaGreatDoor
end

/-
  Contracts of package control's Least and seconds.
-/
section
namespace Go.Proofs.YtnembpklidcgoaaGreatDoor
open Go.RowKit

theorem lst_any (a b : Int) (w : World) :
    Calls Tryz.prog 111 #[.int .i64 a, .int .i64 b] w fun e w' => e = .returned (.int .i64 (leaN a b)) ∧ w = w' := by
  unfold leaN
  by_cases ha : a < 0
  · by_cases hb : b < 0
    · rw [if_pos (.inl ha)]
      have hm : max (max a b) (-1) = -1 := by omega
      rw [hm]
      go_enter Tryz.func111, Tryz.ntmps111
      go_wp2_with fail
      go_ret
      exact ⟨rfl, rfl⟩
    · rw [if_pos (.inl ha)]
      have hm : max (max a b) (-1) = b := by omega
      rw [hm]
      go_enter Tryz.func111, Tryz.ntmps111
      go_wp2_with fail
      go_ret
      exact ⟨rfl, rfl⟩
  · by_cases hb : b < 0
    · rw [if_pos (.inr hb)]
      have hm : max (max a b) (-1) = a := by omega
      rw [hm]
      go_enter Tryz.func111, Tryz.ntmps111
      go_wp2_with fail
      go_ret
      exact ⟨rfl, rfl⟩
    · rw [if_neg (by omega)]
      obtain ⟨m, hm⟩ : ∃ m, m = min a b := ⟨_, rfl⟩
      rw [← hm]
      have HR := Lib.hid hm
      clear hm
      go_enter Tryz.func111, Tryz.ntmps111
      go_wp2_with fail
      go_ret
      exact ⟨by rw [HR.out]; rfl, rfl⟩

theorem secs_any (v : ByteArray) (o : Int) (w : World) :
    Calls Tryz.prog 112 #[.string v, .int .i64 o] w fun e w' => e = .returned (.int .i64 (if secB v.data.toList = true then secN v.data.toList else o)) ∧ Below w.heap.size w w' := by
  have C := Lib.hid (seconds_any v w)
  generalize secN v.data.toList = n at *
  generalize secB v.data.toList = b at *
  cases b
  all_goals
    simp only [if_true, if_false, Bool.false_eq_true]
    go_enter Tryz.func112, Tryz.ntmps112
    go_wp2_with fail
    refine C.out.mono ?_
    rintro e w1 ⟨rfl, hb1⟩
    go_wp2_with fail
    go_ret
    exact ⟨rfl, hb1⟩

end Go.Proofs.YtnembpklidcgoaaGreatDoor
end

/-
  Contracts of the reference's before, single (layer 15).
-/
section
namespace Go.Proofs.YtnembpklidcgoaaGreatDoor
open Go.RowKit
set_option linter.unusedSimpArgs false

theorem les_step (a b : ByteArray) (k : Nat) (h : k < a.size) (g : k < b.size) : lesL (a.data.toList.drop k) (b.data.toList.drop k) = if a[k] ≠ b[k] then decide (a[k].toNat < b[k].toNat) else lesL (a.data.toList.drop (k + 1)) (b.data.toList.drop (k + 1)) := by
  rw [drop_at a k h, drop_at b k g]; rfl
theorem les_end (a b : ByteArray) (k : Nat) (ha : k ≤ a.size) (hb : k ≤ b.size) (h : ¬ (k < a.size ∧ k < b.size)) : lesL (a.data.toList.drop k) (b.data.toList.drop k) = decide (a.size < b.size) := by
  by_cases h1 : k < a.size
  · have h2 : ¬ k < b.size := fun g => h ⟨h1, g⟩
    have e : b.data.toList.drop k = [] := List.drop_eq_nil_of_le (by rw [← Lib.size_eq]; omega)
    rw [drop_at a k h1, e, decide_eq_false (by omega)]; rfl
  · have e : a.data.toList.drop k = [] := List.drop_eq_nil_of_le (by rw [← Lib.size_eq]; omega)
    rw [e]
    by_cases h2 : k < b.size
    · rw [drop_at b k h2, decide_eq_true (by omega)]; rfl
    · have e2 : b.data.toList.drop k = [] := List.drop_eq_nil_of_le (by rw [← Lib.size_eq]; omega)
      rw [e2, decide_eq_false (by omega)]; rfl

set_option maxHeartbeats 4000000 in
set_option maxRecDepth 100000 in
theorem r_before (a b : ByteArray) (ha : a.size ≤ 100000000) (hb : b.size ≤ 100000000) (w : World) :
    Calls Tryz.prog 137 #[.string a, .string b] w fun e w' => e = .returned (.bool (lesL a.data.toList b.data.toList)) ∧ Below w.heap.size w w' := by
  generalize hD : lesL a.data.toList b.data.toList = D
  have HD := Lib.hid hD
  clear hD
  go_enter Tryz.func137, Tryz.ntmps137
  go_wp2_with fail
  go_loopw [5] (fun i wr => ∃ k : Nat, k ≤ a.size ∧ k ≤ b.size ∧ i = .int .i64 k ∧ Hid (D = lesL (a.data.toList.drop k) (b.data.toList.drop k)) ∧ Below w.heap.size w wr) (fun i _ => a.size - (intOf i).toNat)
  case atStart => exact ⟨0, Nat.zero_le _, Nat.zero_le _, rfl, HD.out.symm, Below.refl _ _⟩
  case round =>
    obtain ⟨k, hk1, hk2, rfl, hf, hbel⟩ := hrel
    have hi0 : (0 : Int) ≤ (k : Int) := by omega
    by_cases h1 : k < a.size
    · by_cases h2 : k < b.size
      · have hi1 : (k : Int) < (a.size : Int) := by omega
        have hi2 : (k : Int) < (b.size : Int) := by omega
        have hst := les_step a b k h1 h2
        by_cases he : a[k] = b[k]
        · have HN : Hid (D = lesL (a.data.toList.drop (k + 1)) (b.data.toList.drop (k + 1))) := by show _ = _; rw [hf.out, hst, if_neg (by simp [he])]
          have e1 : ((a[k].toNat : Int) != (b[k].toNat : Int)) = false := by rw [he]; simp
          clear hf hst he
          go_wp2_with fail
          go_quiet (fail)
          go_wp2_with fail
          go_roundw
          case rel => exact ⟨k + 1, by omega, by omega, by go_num, HN, below_drawn hbel _⟩
          case measure => simp [intOf]; omega
        · have HN : Hid (D = decide (a[k].toNat < b[k].toNat)) := by
            show _ = _
            rw [hf.out, hst, if_pos he]
          have e1 : ((a[k].toNat : Int) != (b[k].toNat : Int)) = true := by
            rw [bne_iff_ne]
            intro e
            exact he (UInt8.toNat_inj.1 (by omega))
          clear hf hst he
          go_wp2_with fail
          go_quiet (fail)
          go_wp2_with fail
          go_quiet (fail)
          go_wp2_with fail
          go_ret
          exact ⟨by rw [HN.out]; rfl, below_drawn (below_drawn hbel _) _⟩
      · have HN : Hid (D = decide (a.size < b.size)) := by show _ = _; rw [hf.out, les_end a b k hk1 hk2 (by omega)]
        have hi1 : (k : Int) < (a.size : Int) := by omega
        have hi2 : ¬ (k : Int) < (b.size : Int) := by omega
        clear hf
        go_wp2_with fail
        go_ret
        exact ⟨by rw [HN.out]; rfl, hbel⟩
    · have HN : Hid (D = decide (a.size < b.size)) := by show _ = _; rw [hf.out, les_end a b k hk1 hk2 (by omega)]
      have hi1 : ¬ (k : Int) < (a.size : Int) := by omega
      clear hf
      go_wp2_with fail
      go_ret
      exact ⟨by rw [HN.out]; rfl, hbel⟩

end Go.Proofs.YtnembpklidcgoaaGreatDoor
end

/-
  Contracts of package vary's blank, squeeze.
-/
section
namespace Go.Proofs.YtnembpklidcgoaaGreatDoor
open Go.RowKit
set_option linter.unusedSimpArgs false

end Go.Proofs.YtnembpklidcgoaaGreatDoor
end
