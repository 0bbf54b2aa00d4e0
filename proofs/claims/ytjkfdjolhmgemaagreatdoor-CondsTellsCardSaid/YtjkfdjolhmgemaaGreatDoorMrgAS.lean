/-
  Texts that the laws of this seat lean on, one behind the other.
-/
import Derived.Test.YtjkfdjolhmgemaaGreatDoorMrgAB
import Derived.Test.YtjkfdjolhmgemaaGreatDoorMrgAL
import Derived.Test.YtjkfdjolhmgemaaGreatDoorMrgAJ
import Derived.Test.YtjkfdjolhmgemaaGreatDoorMrgX
import Derived.Laws.Cover1
import Derived.Lib.MinMax
import Derived.IntWalk
import Derived.Test.YtjkfdjolhmgemaaGreatDoorMrgAO
import Derived.Test.YtjkfdjolhmgemaaGreatDoorMrgAC
import Derived.Test.YtjkfdjolhmgemaaGreatDoorMrgAD
import Derived.Test.YtjkfdjolhmgemaaGreatDoorMrgO
import Derived.Test.YtjkfdjolhmgemaaGreatDoorMrgL
import Derived.Deep.RegionHeld3
import Derived.Test.YtjkfdjolhmgemaaGreatDoorMrgR
import Derived.Test.YtjkfdjolhmgemaaGreatDoorMrgK
import Derived.Test.YtjkfdjolhmgemaaGreatDoorMrgA
import Derived.Deep.RegionLaw
import Derived.Test.YtjkfdjolhmgemaaGreatDoorMrgT
import Derived.Test.YtjkfdjolhmgemaaGreatDoorMrgAP
import Derived.Test.YtjkfdjolhmgemaaGreatDoorMrgG
import Derived.Test.YtjkfdjolhmgemaaGreatDoorMrgH
import Derived.Shelf.Abstract
set_option linter.unusedSimpArgs false
set_option linter.unusedVariables false
/-
  Package life's table of codes; contracts of greatest, clamp, between, Usual.
-/
section
namespace Go.Proofs.YtjkfdjolhmgemaaGreatDoor
open Go.RowKit
set_option linter.unusedSimpArgs false

def usuVs : List Value := usuL.map (Value.int .i64)
/-- The package's table, and date's. -/
structure LifTabs (w : World) : Prop where
  dat : DatTabs w
  usu : w.var? Tryz.prog "depot/life.usualCodes" = some usuVs.toArray
theorem LifTabs.kept {w w' : World} (h : LifTabs w) (hb : Below w.heap.size w w') : LifTabs w' := ⟨h.dat.kept hb, var_below h.usu hb⟩
end Go.Proofs.YtjkfdjolhmgemaaGreatDoor
end

/-
  Contracts of package life's When, times and the function that times makes.
-/
section
namespace Go.Proofs.YtjkfdjolhmgemaaGreatDoor
open Go.RowKit

set_option maxHeartbeats 2000000 in
set_option maxRecDepth 100000 in
theorem lifW_dat (A : Option Addr) (c : Nat) (L : List Fd) (name : ByteArray) (w : World) (h : SlF w A L.length c L) (hL : FwL L) (hz : name.size ≤ 1000000) (HT : DatTabs w) :
    Calls Tryz.prog 60 #[.slice A L.length c, .string name] w fun e w' => e = .returned (.tuple #[.int .i64 (whnV L name), .bool (whnB L name)]) ∧ Below w.heap.size w w' := by
  have C1 := Lib.hid (all_any A L.length c L name w h (by have := hL.n; omega) (fwl_bd hL) (by unfold maxLen; omega))
  have HT := Lib.hid HT
  have hvz := (fwl_all hL name).2
  have hV : whnV L name = if (fdAll L name).length = 1 then (parT (mkS ((fdAll L name).headD []))).1 else 0 := rfl
  have hB : whnB L name = if (fdAll L name).length = 1 then decide ((parT (mkS ((fdAll L name).headD []))).2 = 0) else false := rfl
  generalize whnV L name = V at *
  generalize whnB L name = b at *
  generalize fdAll L name = X at *
  clear h hL hz
  unfold Vals at C1
  by_cases h1 : X.length = 1
  · rw [if_pos h1] at hV hB
    obtain ⟨x, rfl⟩ : ∃ x, X = [x] := by
      match X, h1 with
      | [x], _ => exact ⟨x, rfl⟩
    replace hV : V = (parT (mkS x)).1 := hV
    replace hB : b = decide ((parT (mkS x)).2 = 0) := hB
    have hxz := hvz x (List.mem_singleton.2 rfl)
    have CP := Lib.hid (fun W (hW : DatTabs W) => dParse_any (mkS x) (by rw [mkS_size]; omega) W hW)
    rw [← hV] at CP
    obtain ⟨q, hq⟩ : ∃ q, q = (parT (mkS x)).2 := ⟨_, rfl⟩
    rw [← hq] at CP
    replace hB : b = decide (q = 0) := by rw [hB, hq]
    clear hq
    obtain ⟨xs, hxs⟩ : ∃ xs, xs = mkS x := ⟨_, rfl⟩
    rw [← hxs] at CP
    have HX := Lib.hid hxs
    have HB := Lib.hid hB
    clear hV hB hvz hxs hxz
    simp only [List.length_singleton] at C1
    go_enter Tryz.func60, Tryz.ntmps60
    go_wp2_with fail
    refine C1.out.mono ?_
    rintro e w1 ⟨A1, c1, rfl, hS, _, hb1⟩
    obtain ⟨ad, rfl, hc⟩ := hS.at_ (by omega)
    have hcell := hc 0 x rfl
    rw [Addr.add_zero', ← HX.out] at hcell
    have HB1 := Lib.hid hb1
    clear hS hc hb1 C1
    go_wp2_with fail
    refine (CP.out _ (HT.out.kept HB1.out)).mono ?_
    rintro e w2 ⟨rfl, hb2⟩
    go_wp2_with fail
    go_ret2
    exact ⟨by rw [HB.out]; first | done | rfl, below_then HB1.out hb2⟩
  · rw [if_neg h1] at hV hB
    subst hV hB
    have h1' : ¬ (X.length : Int) = 1 := by omega
    generalize X.length = n at *
    clear h1 hvz
    go_enter Tryz.func60, Tryz.ntmps60
    go_wp2_with fail
    refine C1.out.mono ?_
    rintro e w1 ⟨A1, c1, rfl, _, _, hb1⟩
    go_wp2_with fail
    go_ret2
    exact ⟨rfl, hb1⟩

end Go.Proofs.YtjkfdjolhmgemaaGreatDoor
end

/-
  Contracts of package life's Date, expiry, unsaid, Lifetime, Told, Age, Fresh, Left; with them all contracts of the package are there.
-/
section
namespace Go.Proofs.YtjkfdjolhmgemaaGreatDoor
open Go.RowKit

end Go.Proofs.YtjkfdjolhmgemaaGreatDoor
end

/-
  Contracts of package hops' table of names and of Hop.
-/
section
namespace Go.Proofs.YtjkfdjolhmgemaaGreatDoor
open Go.RowKit
set_option linter.unusedSimpArgs false

def hopVs : List Value := hopN.map Value.string
/-- The package's table. -/
def HopTabs (w : World) : Prop := w.var? Tryz.prog "depot/hops.hopNames" = some hopVs.toArray
theorem HopTabs.kept {w w' : World} (h : HopTabs w) (hb : Below w.heap.size w w') : HopTabs w' := var_below h hb
theorem hop_index (W : World) (k : Nat) (hk : k < hopN.length) : (Instr.index 139 (.agg hopVs.toArray) (.int .i64 (k : Int))).run Tryz.prog W = .ok (.string hopN[k]) W :=
  run_index_one Tryz.underlying139 Tryz.underlying9 rfl (by kernel_rfl) _ _ _ (by omega) (by have : hopN.length = 10 := rfl; omega) _ (by
    show hopVs.toArray[(k : Int).toNat]? = _
    rw [Int.toNat_natCast, List.getElem?_toArray]
    unfold hopVs
    rw [List.getElem?_map, List.getElem?_eq_getElem hk]; rfl) _

set_option maxHeartbeats 2000000 in
set_option maxRecDepth 100000 in
theorem hop_any (name : ByteArray) (hz : name.size ≤ maxLen) (w : World) (HT : HopTabs w) :
    Calls Tryz.prog 98 #[.string name] w fun e w' => e = .returned (.bool (hopB name)) ∧ Below w.heap.size w w' := by
  obtain ⟨ty, fr, hblk⟩ := var_block (g := 2) (by kernel_rfl) HT
  have HM : Hid ((Tryz.prog.info? 139).map (·.size) = some hopVs.toArray.size) := by show _ = _; rw [show hopVs.toArray.size = 10 from rfl]; kernel_rfl
  have HB := Lib.hid hblk
  have HL := Lib.hid (show hopN.length = 10 from rfl)
  have HLE := Lib.hid hopN_le
  have HD := Lib.hid (show hopB name = hopN.any fun n => sameB n name from rfl)
  have HI := Lib.hid (fun W k hk => hop_index W k hk)
  generalize hopB name = R at *
  generalize hopVs.toArray = LA at *
  generalize hopN = N at *
  clear hblk HT
  go_enter Tryz.func98, Tryz.ntmps98
  go_wp2_with (refine wpList_load_row rfl _ _ rfl 2 rfl ty LA fr _ HB.out Tryz.underlying139 rfl HM.out ?_)
  go_loopw [6] (fun i wr => ∃ k : Nat, k ≤ 10 ∧ i = .int .i64 (k : Int) ∧ Hid (∀ j (hj : j < N.length), j < k → sameB N[j] name = false) ∧ Below w.heap.size w wr) (fun i _ => 10 - (intOf i).toNat)
  case atStart => exact ⟨0, Nat.zero_le _, rfl, fun j hj h0 => absurd h0 (by omega), Below.refl _ _⟩
  case round =>
    obtain ⟨k, hk, rfl, hf, hbel⟩ := hrel
    by_cases hlt : k < 10
    · have hkN : k < N.length := by have := HL.out; omega
      have hix := fun W => HI.out W k hkN
      have hle := HLE.out _ (List.getElem_mem hkN)
      have HH : Hid (sameB N[k] name = true → R = true) := fun h => by rw [HD.out]; exact List.any_eq_true.2 ⟨N[k], List.getElem_mem hkN, h⟩
      have HN : Hid (sameB N[k] name = false → ∀ j (hj : j < N.length), j < k + 1 → sameB N[j] name = false) := fun h j hj hjk => by
        by_cases e : j = k
        · subst e; exact h
        · exact hf.out j hj (by omega)
      generalize N[k] = nm at *
      have CS := Lib.hid (same_any name nm wr hz hle)
      rw [same_symm] at CS
      have hi0 : (0 : Int) ≤ (k : Int) := by omega
      have hi1 : (k : Int) < 10 := by omega
      clear hf HI
      cases hq : sameB nm name with
      | true =>
        have HR := Lib.hid (HH.out hq)
        rw [hq] at CS
        clear hq HH HN
        go_wp2_with fail
        refine CS.out.mono ?_
        rintro e w1 ⟨rfl, hb1⟩
        go_wp2_with fail
        go_ret
        exact ⟨by rw [HR.out]; rfl, hbel.trans (hb1.mono hbel.size)⟩
      | false =>
        have HR := Lib.hid (HN.out hq)
        rw [hq] at CS
        clear hq HH HN
        go_wp2_with fail
        refine CS.out.mono ?_
        rintro e w1 ⟨rfl, hb1⟩
        go_wp2_with fail
        go_roundw
        case rel => exact ⟨k + 1, by omega, by go_num, HR.out, hbel.trans (hb1.mono hbel.size)⟩
        case measure => simp [intOf]; omega
    · have HR : Hid (R = false) := by
        show _ = _
        rw [HD.out, List.any_eq_false]
        intro n hn
        obtain ⟨j, hj, rfl⟩ := List.getElem_of_mem hn
        have := HL.out
        simp [hf.out j hj (by omega)]
      have hi1 : ¬ (k : Int) < 10 := by omega
      go_wp2_with fail
      go_ret
      exact ⟨by rw [HR.out]; rfl, hbel⟩

end Go.Proofs.YtjkfdjolhmgemaaGreatDoor
end

/-
  Contracts of package hops' Nominated, without, Strip; with them all contracts of the package are there (hop_any, nom_any, stp_any).
-/
section
namespace Go.Proofs.YtjkfdjolhmgemaaGreatDoor
open Go.RowKit
set_option linter.unusedSimpArgs false

def IsFs (w : World) (X : List Fd) (e : Ending) (w' : World) : Prop := ∃ A c, e = .returned (.slice A X.length c) ∧ SlF w' A X.length c X ∧ Below w.heap.size w w'
set_option maxHeartbeats 4000000 in
set_option maxRecDepth 100000 in
theorem nom_any (A : Option Addr) (n c : Nat) (L : List Fd) (w : World) (h : SlF w A n c L) (hn : n ≤ 1000) (hB : ∀ x ∈ L, x.2.size ≤ 10000) (hBd : ∀ x ∈ L, Bd x) :
    Calls Tryz.prog 72 #[.slice A n c] w (Vals w (nomL L)) := by
  have hln : L.length ≤ 1000 := by rw [h.len]; exact hn
  have C1 := Lib.hid (all_any A n c L cnS w h (by omega) hBd cnS_le)
  obtain ⟨hVn, hVz⟩ := all_sz (name := cnS) hB
  have hnl : nomL L = (fdAll L cnS).flatMap splO := rfl
  rw [hnl]
  generalize fdAll L cnS = V at *
  unfold cnS at C1
  have hVn : V.length ≤ 1000 := Nat.le_trans hVn hln
  clear h hn hB hBd hnl hln
  go_enter Tryz.func72, Tryz.ntmps72
  go_wp2_with fail
  refine C1.out.mono ?_
  rintro e w1 ⟨A0, c0, rfl, hS, _, hb1⟩
  have HS := Lib.hid hS
  have HB := Lib.hid hb1
  clear hb1 hS C1
  go_wp2_with fail
  go_loopw [3, 11] (fun v i wr => ∃ k : Nat, k ≤ V.length ∧ i = .int .i64 (k : Int) ∧ Hid (OwnS wr w1.heap.size 9 v ((V.take k).flatMap splO)) ∧ Below w1.heap.size w1 wr) (fun _ i _ => V.length - (intOf i).toNat)
  case atStart => exact ⟨0, Nat.zero_le _, rfl, OwnS.nil _ _ _, Below.refl _ _⟩
  case round =>
    obtain ⟨k, hk, rfl, hown, hbel⟩ := hrel
    by_cases hlt : k < V.length
    · obtain ⟨ad, rfl, hc⟩ := HS.out.at_ (by omega)
      have hcell := cell_kept hbel (hc k V[k] (List.getElem?_eq_getElem hlt))
      have hvz := hVz _ (List.getElem_mem hlt)
      have hsn := fmS_snoc V k hlt
      have hPl := fm_split_len (V.take k) (fun x hx => hVz x (List.mem_of_mem_take hx))
      have hPk : (V.take k).length ≤ 1000 := by rw [List.length_take]; omega
      have hEl := (splO_sz hvz).1
      have CS := Lib.hid (fun W => split_any (mkS V[k]) W (by rw [mkS_size]; omega))
      rw [mkS_list] at CS
      unfold Strs2 at CS
      generalize splO V[k] = E at *
      generalize splE V[k] = se at *
      generalize mkS V[k] = ms at *
      generalize (V.take k).flatMap splO = P at *
      have hPlen : P.length ≤ 10001000 := Nat.le_trans hPl (by have := Nat.mul_le_mul_right 10001 hPk; omega)
      have hi0 : (0 : Int) ≤ (k : Int) := by omega
      have hi1 : (k : Int) < (V.length : Int) := by omega
      have HSN := Lib.hid hsn
      have hsz := hbel.size
      clear hc hvz hPl hPk hsn
      go_wp2_with fail
      refine (CS.out _).mono ?_
      rintro e w2 ⟨A2, c2, rfl, hS2, _, hb2⟩
      have HS2 := Lib.hid hS2
      have HO := Lib.hid (hown.out.below hb2)
      have HB2 := Lib.hid (hbel.trans (hb2.mono hsz))
      have hs2 := HB2.out.size
      clear hb2 hS2 hown
      go_wp2_with (at_builtin; refine wpList_append_sls rfl _ _ _ rfl w1.heap.size 9 Tryz.underlying64 (by kernel_rfl) _ rfl P HO.out _ _ _ rfl E HS2.out (by omega) hs2 w1 HB2.out ?_; intro v1 w3 ho3 hb3 hz3)
      go_roundw
      case rel => exact ⟨k + 1, by omega, by go_num, by show OwnS _ _ _ _ _; rw [HSN.out]; exact ho3.out, hb3⟩
      case measure => simp [intOf]; omega
    · rw [List.take_of_length_le (show V.length ≤ k by omega)] at hown
      obtain ⟨A1, c1, e1, hA1, hH1⟩ := hown.out.sls
      subst e1
      have hb := below_then HB.out hbel
      have hi1 : ¬ (k : Int) < (V.length : Int) := by omega
      have HA1 := Lib.hid hA1
      have HH1 := Lib.hid hH1
      obtain ⟨q, hq⟩ : ∃ q, (V.flatMap splO).length = q := ⟨_, rfl⟩
      have HQ := Lib.hid hq
      unfold Vals
      rw [hq] at HA1 ⊢
      clear hown hA1 hH1 hq
      go_wp2_with fail
      go_ret
      exact ⟨A1, c1, by rw [HQ.out]; rfl, by rw [HQ.out]; exact HA1.out, HH1.out, hb⟩

/-- The test that Strip hands on. -/
theorem goes_any (x : Fd) (hz : x.1.size ≤ maxLen) (w : World) (HT : HopTabs w) :
    Calls Tryz.prog 97 #[fdV x] w fun e w' => e = .returned (.bool (hopB x.1)) ∧ Below w.heap.size w w' := by
  obtain ⟨a, b⟩ := x
  unfold fdV
  have hb0 : Below w.heap.size w (w.alloc (.cells #[.string a, .string b] 43)) := (Below.refl _ _).alloc (Nat.le_refl _) _
  have C := Lib.hid (fun W (hW : Below w.heap.size w W) => hop_any a hz W (HT.kept hW))
  show Calls _ _ _ _ fun e w' => e = .returned (.bool (hopB a)) ∧ _
  generalize hopB a = r at *
  have HB := Lib.hid hb0
  clear hb0 HT
  go_enter Tryz.func97, Tryz.ntmps97
  go_wp2_with fail
  refine (C.out _ HB.out).mono ?_
  rintro e w1 ⟨rfl, hb1⟩
  go_wp2_with fail
  go_ret
  exact ⟨rfl, below_then HB.out hb1⟩

set_option maxHeartbeats 4000000 in
set_option maxRecDepth 100000 in
theorem without_any (A B : Option Addr) (n c m d : Nat) (L : List Fd) (names : List (List UInt8)) (w : World) (h : SlF w A n c L) (hn : n ≤ 1000) (hB : ∀ x ∈ L, Bd x)
    (h' : SlS w B m d names) (hz : ∀ x ∈ names, x.length ≤ maxLen) (hm : m ≤ 1000000000) (HT : HopTabs w) :
    Calls Tryz.prog 71 #[.slice A n c, .slice B m d] w (IsFs w ((fdDrop L names).filter fun x => !hopB x.1)) := by
  have eg : ∀ args W, (callFunc 97 args).run Tryz.prog W = .ok (.enter 97 args) W := fun _ _ => by kernel_rfl
  have C1 := Lib.hid (drop_any A B n c m d L names w h (by omega) hB h' hz hm)
  have hln : L.length ≤ 1000 := by rw [h.len]; exact hn
  have hdl : (fdDrop L names).length ≤ 1000 := Nat.le_trans (List.length_filter_le _ _) hln
  have hdb : ∀ x ∈ fdDrop L names, Bd x := fun x hx => hB x (List.mem_filter.1 hx).1
  generalize fdDrop L names = D at *
  have hp : PredO w.heap.size w 97 #[] (fun x => hopB x.1) := fun W x hW hx => goes_any x hx.one W (HT.kept hW)
  have C2 := Lib.hid (fun v w1 (h1 : OwnF w1 w.heap.size 43 v D) (hb : Below w.heap.size w w1) => del_any v D w.heap.size w w1 h1 (Nat.le_refl _) hb (by omega) hdb _ _ _ eg hp)
  generalize (D.filter fun x => !hopB x.1) = X at *
  obtain ⟨q, hq⟩ : ∃ q, X.length = q := ⟨_, rfl⟩
  have HQ := Lib.hid hq
  unfold IsFs
  rw [hq] at C2 ⊢
  clear h h' hB hz hm hn hln hdl hdb hp HT hq
  go_enter Tryz.func71, Tryz.ntmps71
  go_wp2_with fail
  refine C1.out.mono ?_
  rintro e w1 ⟨v, rfl, ho, hb1⟩
  obtain ⟨A1, c1, rfl⟩ := ho.form
  have HO := Lib.hid ho
  have HB := Lib.hid hb1
  clear ho hb1 C1
  go_wp2_with fail
  refine (C2.out _ _ HO.out HB.out).mono ?_
  rintro e w2 ⟨A2, c2, rfl, hF, hb2⟩
  have HF := Lib.hid hF
  have HB2 := Lib.hid hb2
  clear hF hb2 C2 HO
  go_wp2_with fail
  go_ret
  exact ⟨A2, c2, rfl, HF.out, HB2.out⟩

set_option maxHeartbeats 4000000 in
set_option maxRecDepth 100000 in
theorem stp_any (A : Option Addr) (n c : Nat) (L : List Fd) (w : World) (h : SlF w A n c L) (hn : n ≤ 1000) (hB : ∀ x ∈ L, x.2.size ≤ 10000) (hBd : ∀ x ∈ L, Bd x) (HT : HopTabs w) :
    Calls Tryz.prog 45 #[.slice A n c] w (IsFs w (stpL L)) := by
  have hln : L.length ≤ 1000 := by rw [h.len]; exact hn
  obtain ⟨hNn, hNz⟩ := nom_sz hln hB
  have C1 := Lib.hid (nom_any A n c L w h hn hB hBd)
  have C2 := Lib.hid (fun B d W (hW : Below w.heap.size w W) (hS : SlS W B (nomL L).length d (nomL L)) => without_any A B n c (nomL L).length d L (nomL L) W (h.below hW) hn hBd hS (fun x hx => by have := hNz x hx; unfold maxLen; omega) (by omega) (HT.kept hW))
  have hsl : stpL L = (fdDrop L (nomL L)).filter fun x => !hopB x.1 := rfl
  rw [← hsl] at C2
  generalize nomL L = NL at *
  generalize stpL L = X at *
  obtain ⟨q, hq⟩ : ∃ q, X.length = q := ⟨_, rfl⟩
  have HQ := Lib.hid hq
  obtain ⟨r, hr⟩ : ∃ r, NL.length = r := ⟨_, rfl⟩
  unfold IsFs Vals at *
  rw [hq] at C2 ⊢
  rw [hr] at C1 C2
  clear h hB hBd hn hln hNn hNz hsl HT hq hr
  go_enter Tryz.func45, Tryz.ntmps45
  go_wp2_with fail
  refine C1.out.mono ?_
  rintro e w1 ⟨B, d, rfl, hS, _, hb1⟩
  have HS := Lib.hid hS
  have HB := Lib.hid hb1
  clear hS hb1 C1
  go_wp2_with fail
  refine (C2.out _ _ _ HB.out HS.out).mono ?_
  rintro e w2 ⟨A2, c2, rfl, hF, hb2⟩
  have HF := Lib.hid hF
  have HB2 := Lib.hid (below_then HB.out hb2)
  clear hF hb2 C2 HS
  go_wp2_with fail
  go_ret
  exact ⟨A2, c2, rfl, HF.out, HB2.out⟩

end Go.Proofs.YtjkfdjolhmgemaaGreatDoor
end

/-
  Package conds: the tables that it leans on; contracts of keep, namesOf, others, of slices.Clone on picks.
-/
section
namespace Go.Proofs.YtjkfdjolhmgemaaGreatDoor
open Go.RowKit
set_option linter.unusedSimpArgs false

structure ConTabs (w : World) : Prop where
  dat : DatTabs w
  hop : HopTabs w
  rea : w.var? Tryz.prog "depot/line.reasons" = some reaVs.toArray
theorem ConTabs.kept {w w' : World} (h : ConTabs w) (hb : Below w.heap.size w w') : ConTabs w' := ⟨h.dat.kept hb, h.hop.kept hb, var_below h.rea hb⟩

theorem enters_keep : ∀ args W, (callFunc 67 args).run Tryz.prog W = .ok (.enter 67 args) W := Go.Proofs.enters_of Tryz.func67 (by kernel_rfl) rfl
theorem keep_in (a : Nat) (x : Fd) (y : List UInt8) (W : World) (h0 : W.cell? ⟨a, 0, none⟩ = some (.string x.1)) (h1 : W.cell? ⟨a, 1, none⟩ = some (.string x.2)) (hx : x.1.size ≤ maxLen) (hy : y.length ≤ 1000000000) :
    Calls Tryz.prog 67 #[.string (mkS y), .pointer (some ⟨a, 0, none⟩)] W fun e w' => e = .returned (.bool (sameB x.1 (mkS y))) ∧ Below W.heap.size W w' := by
  have cc := Lib.hid (same_any x.1 (mkS y) W hx (by rw [mkS_size]; unfold maxLen; omega))
  generalize sameB x.1 (mkS y) = q at *
  generalize mkS y = s at *
  obtain ⟨xa, xb⟩ := x
  simp only at *
  go_enter Tryz.func67, Tryz.ntmps67
  go_wp2_with fail
  refine cc.out.mono ?_
  rintro e w1 ⟨rfl, hb1⟩
  go_wp2_with fail
  go_ret
  exact ⟨rfl, hb1⟩

set_option maxHeartbeats 8000000 in
set_option maxRecDepth 100000 in
theorem keep_any (A B : Option Addr) (n c m d : Nat) (L : List Fd) (names : List (List UInt8)) (w : World) (h : SlF w A n c L) (hn : n ≤ 100000000) (h' : SlS w B m d names) (hm : m ≤ 1000000000) (hy : ∀ y ∈ names, y.length ≤ 1000000000) :
    Calls Tryz.prog 38 #[.slice A n c, .slice B m d] w fun e w' => ∃ v, e = .returned v ∧ OwnF w' w.heap.size 43 v (L.filter (nmd names)) ∧ Below w.heap.size w w' := by
  have hmf : ∀ (fn : Fn) (first cap : Array Value) (w : World), (Instr.makeFunc fn first cap).run Tryz.prog w = .ok (.func fn first cap) w := fun _ _ _ _ => rfl
  have hlen := h.len
  subst hlen
  have HP := Lib.hid (fun (W : World) (g : Nat) (x : Fd) (hW : Below w.heap.size w W) (h0 : W.cell? ⟨g, 0, none⟩ = some (.string x.1)) (h1 : W.cell? ⟨g, 1, none⟩ = some (.string x.2)) (hx : x.1.size ≤ maxLen) =>
    idxS_has B m d names W (h'.below hW) hm hy 67 #[.pointer (some ⟨g, 0, none⟩)] (fun y => sameB x.1 (mkS y)) enters_keep (fun W' y hb' hy' => keep_in g x y W' (cell_kept hb' h0) (cell_kept hb' h1) hx hy'))
  have HQ := Lib.hid (show ∀ x : Fd, (names.any fun y => sameB x.1 (mkS y)) = nmd names x from fun x => rfl)
  generalize nmd names = p at *
  clear hy h'
  go_enter Tryz.func38, Tryz.ntmps38
  go_wp2_with fail
  go_loopw [5, 10] (fun v i wr => ∃ k : Nat, k ≤ L.length ∧ i = .int .i64 k ∧ Hid (OwnF wr w.heap.size 43 v ((L.take k).filter p)) ∧ Below w.heap.size w wr) (fun _ i _ => L.length - (intOf i).toNat)
  case atStart => exact ⟨0, Nat.zero_le _, rfl, OwnF.nil _ _ _, Below.refl _ _⟩
  case round =>
    obtain ⟨k, hk, rfl, hown, hbel⟩ := hrel
    by_cases hlt : k < L.length
    · obtain ⟨ad, rfl, hc⟩ := h.at_ (by omega)
      obtain ⟨hc0, hc1⟩ := hc k L[k] (List.getElem?_eq_getElem hlt)
      have hcell0 := cell_kept hbel hc0
      have hcell1 := fd_snd (cell_kept hbel hc1)
      obtain ⟨hz1, hz2⟩ := h.sz _ (List.getElem_mem hlt)
      have HS := take_fd L k hlt
      generalize L[k] = x at *
      obtain ⟨a, b⟩ := x
      simp only at hz1 hz2
      have HF := filter_snoc p (L.take k) (a, b)
      rw [← HS] at HF
      clear HS hc hc0 hc1
      have hl2 : ((L.take k).filter p).length ≤ k := Nat.le_trans (List.length_filter_le _ _) (by rw [List.length_take]; omega)
      generalize hX : (L.take k).filter p = X at *
      obtain ⟨q0, q1⟩ := zero_two (heap_alloc_new wr (.cells #[.string a, .string b] 43))
      have HC := Lib.hid (HP.out (wr.alloc (.cells #[.string a, .string b] 43)) wr.heap.size (a, b) (hbel.alloc hbel.size _) q0 q1 hz1)
      rw [HQ.out (a, b)] at HC
      clear q0 q1
      have hsz1 := hbel.size
      have hi0 : (0 : Int) ≤ (k : Int) := by omega
      have hi1 : (k : Int) < (L.length : Int) := by omega
      cases hq : p (a, b) with
      | true =>
        rw [hq, if_pos rfl] at HF
        rw [hq] at HC
        have HR := Lib.hid HF
        clear HF hq
        go_wp2_with fail
        refine HC.out.mono ?_
        rintro e w1 ⟨rfl, hb1⟩
        have HZ := Lib.hid (zero_at hb1)
        have HB := Lib.hid (zero_then hb1)
        have HO := Lib.hid (hown.out.below HB.out)
        have hs1 := HB.out.size
        obtain ⟨z0, z1⟩ := zero_two HZ.out
        clear hb1 hown HC
        go_wp2_with (at_builtin; refine wpList_append_slf rfl _ _ _ rfl w.heap.size 43 Tryz.underlying22 (by kernel_rfl) _ rfl X (HO.out.alloc _) _ _ _ rfl [(a, b)] (SlF.one _ _ (a, b) ⟨hz1, hz2⟩) (by simp; omega) (by simp; omega) w ((hbel.trans (HB.out.mono hsz1)).alloc (by omega) _) ?_; intro v1 w2 ho2 hb2 hz2)
        go_roundw
        case rel => exact ⟨k + 1, by omega, by go_num, by show OwnF _ _ _ _ _; rw [HR.out]; exact ho2.out, hb2⟩
        case measure => simp [intOf]; omega
      | false =>
        rw [hq, if_neg (by simp)] at HF
        rw [hq] at HC
        have HR := Lib.hid HF
        clear HF hq
        go_wp2_with fail
        refine HC.out.mono ?_
        rintro e w1 ⟨rfl, hb1⟩
        have HB := Lib.hid (zero_then hb1)
        clear hb1
        go_wp2_with fail
        go_roundw
        case rel => exact ⟨k + 1, by omega, by go_num, by show OwnF _ _ _ _ _; rw [HR.out]; exact hown.out.below HB.out, hbel.trans (HB.out.mono hsz1)⟩
        case measure => simp [intOf]; omega
    · have HE : Hid ((L.take k).filter p = L.filter p) := by
        show _ = _
        rw [List.take_of_length_le (by omega)]
      rw [HE.out] at hown
      go_wp2_with fail
      go_ret
      exact ⟨_, rfl, hown.out, hbel⟩

def fnC (x : Fd) : List Value := [.string x.1]
theorem fnC_len {P : List Fd} {r : Nat} : ∀ l ∈ P.map fnC ++ List.replicate r [Value.string ⟨#[]⟩], l.length = 1 := fun l hl => by
  rcases List.mem_append.1 hl with h | h
  · obtain ⟨x, _, rfl⟩ := List.mem_map.1 h; rfl
  · rw [(List.mem_replicate.1 h).2]; rfl
def nmsF (L : List Fd) : List (List UInt8) := L.map fun x => x.1.data.toList
theorem fnC_st (P : List Fd) : (nmsF P).map (fun x => [stV x]) = P.map fnC := by
  unfold nmsF
  rw [List.map_map]
  refine List.map_congr_left fun x _ => ?_
  show [Value.string (mkS x.1.data.toList)] = [Value.string x.1]
  rw [mkS_self]
theorem RowE.ownS {w : World} {g e n base : Nat} {L : List (List UInt8)} (hg : RowE w g e (L.map fun x => [stV x])) (hl : L.length = n) (hm : n ≤ maxLen) (hb : base ≤ g) : OwnS w base e (.slice (some ⟨g, 0, none⟩) n n) L := by
  subst hl
  have hf := flat_ones L
  have hg : w.heap[g]? = some (.cells (L.map stV).toArray e (0, 0)) := by rw [← hf]; exact hg
  exact ⟨by simp, .inr ⟨g, L.length, _, rfl, hb, hg, Nat.le_refl _, hm, by simp, by show ((L.map stV).toArray.toList.take (L.length * 1)) = _; rw [Nat.mul_one, List.take_of_length_le (by simp)]⟩⟩

set_option maxHeartbeats 8000000 in
set_option maxRecDepth 100000 in
theorem fNames_any (A : Option Addr) (n c : Nat) (P : List Fd) (w : World) (h : SlF w A n c P) (hn : n ≤ 1000) :
    Calls Tryz.prog 46 #[.slice A n c] w fun e w' => ∃ v, e = .returned v ∧ OwnS w' w.heap.size 9 v (nmsF P) ∧ Below w.heap.size w w' := by
  have hlen := h.len
  subst hlen
  obtain ⟨w1, hmk, hrow, hbm⟩ := run_makeE (P := Tryz.prog) w 64 9 (.string ⟨#[]⟩) [.string ⟨#[]⟩] 16 P.length Tryz.underlying64 (by kernel_rfl) rfl (by decide) (by omega) (by unfold maxLen; omega)
  have HR0 := Lib.hid hrow
  have HB0 := Lib.hid hbm
  obtain ⟨g, hg⟩ : ∃ g, g = w.heap.size := ⟨_, rfl⟩
  rw [← hg] at hmk HR0
  have HG : Hid (w.heap.size ≤ g) := by show _ ≤ _; omega
  clear hrow hbm hg
  go_enter Tryz.func46, Tryz.ntmps46
  go_wp2_with fail
  go_loopw [11] (fun i wr => ∃ k : Nat, k ≤ P.length ∧ i = .int .i64 k ∧ Hid (RowE wr g 9 ((P.take k).map fnC ++ List.replicate (P.length - k) [Value.string ⟨#[]⟩])) ∧ Hid (Below w.heap.size w wr)) (fun i _ => P.length - (intOf i).toNat)
  case atStart => exact ⟨0, Nat.zero_le _, rfl, HR0.out, HB0.out⟩
  case round =>
    clear HR0 HB0 hmk
    obtain ⟨k, hk, rfl, HR, HB⟩ := hrel
    by_cases hlt : k < P.length
    · obtain ⟨ad, rfl, hc⟩ := h.at_ (by omega)
      obtain ⟨hc0, hc1⟩ := hc k P[k] (List.getElem?_eq_getElem hlt)
      have hc0 := cell_kept HB.out hc0
      have hc1 := fd_snd (cell_kept HB.out hc1)
      have hi0 : (0 : Int) ≤ (k : Int) := by omega
      have hi1 : (k : Int) < (P.length : Int) := by omega
      obtain ⟨X, hX⟩ : ∃ X, X = P.take k := ⟨_, rfl⟩
      have hXl : X.length = k := by rw [hX, List.length_take]; omega
      have HN : Hid (P.take (k + 1) = X ++ [P[k]]) := by
        show _ = _
        rw [List.take_succ_eq_append_getElem hlt, hX]
      obtain ⟨r, hr⟩ : ∃ r, P.length - k = r + 1 := ⟨P.length - k - 1, by omega⟩
      have HRR : Hid (P.length - (k + 1) = r) := by show _ = _; omega
      rw [← hX, hr] at HR
      generalize P[k] = f at *
      obtain ⟨fa, fb⟩ := f
      clear hc hX hr hk
      have HSN : Hid ((X.map fnC ++ List.replicate (r + 1) [Value.string ⟨#[]⟩]).set k [.string fa] = (X ++ [((fa, fb) : Fd)]).map fnC ++ List.replicate r [Value.string ⟨#[]⟩]) := by
        show _ = _
        rw [← hXl]; exact set_next fnC [.string ⟨#[]⟩] X (fa, fb) r
      have hkl : k < (X.map fnC ++ List.replicate (r + 1) [Value.string ⟨#[]⟩]).length := by rw [List.length_append, List.length_map, hXl, List.length_replicate]; omega
      have HKL := Lib.hid hkl
      clear hkl
      obtain ⟨q0, q1⟩ := zero_two (heap_alloc_new wr (.cells #[.string fa, .string fb] 43))
      go_wp2_with (refine wpList_storeE (by rfl) _ _ _ (by rfl) _ (by rfl) g 9 k 1 (by rw [Nat.mul_one]) _ (by rfl) [.string fa] (by rfl) rfl (by kernel_rfl) (fun u hu => by rw [List.mem_singleton] at hu; subst hu; rfl) _ (HR.out.alloc _) fnC_len HKL.out w.heap.size w (HB.out.alloc HB.out.size _) HG.out ?_; intro w2 hr2 hb2 hz2)
      go_roundw
      case rel =>
        refine ⟨k + 1, by omega, by go_num, ?_, hb2⟩
        show RowE _ _ _ _
        rw [HN.out, HRR.out, ← HSN.out]
        exact hr2.out
      case measure => simp [intOf]; omega
    · have hi1 : ¬ (k : Int) < (P.length : Int) := by omega
      have hkl : k = P.length := by omega
      subst hkl
      have HF : Hid (OwnS wr w.heap.size 9 (.slice (some ⟨g, 0, none⟩) P.length P.length) (nmsF P)) := by
        have hr := HR.out
        rw [List.take_length, Nat.sub_self, List.replicate_zero, List.append_nil, ← fnC_st] at hr
        exact hr.ownS (by unfold nmsF; rw [List.length_map]) (by unfold maxLen; omega) HG.out
      go_wp2_with fail
      go_ret
      exact ⟨_, rfl, HF.out, HB.out⟩

theorem OwnK.freshK {w : World} {base e n c : Nat} {A : Option Addr} {X : List Pk} (h : OwnK w base e (.slice A n c) X) : ∀ ad, A = some ad → base ≤ ad.block := fun ad hA => by
  rcases h.2 with ⟨h1, _⟩ | ⟨g, cap, cur, h1, h2, _⟩
  · cases h1; cases hA
  · cases h1; cases hA; exact h2

set_option maxHeartbeats 8000000 in
set_option maxRecDepth 100000 in
/-- slices.Clone on picks. -/
theorem cloneK_any (A : Option Addr) (n c : Nat) (L : List Pk) (w : World) (h : SlK w A n c L) (hn : n ≤ 100000000) :
    Calls Tryz.prog 47 #[.slice A n c] w fun e w' => ∃ A' c', e = .returned (.slice A' n c') ∧ SlK w' A' n c' L ∧ FreshA w A' ∧ Below w.heap.size w w' := by
  have hlen := h.len
  subst hlen
  have hsz := h.sz
  have q := fun (w : World) (a : Option Addr) (n c n' c' : Nat) => Lib.run_eql_slice_nil (P := Tryz.prog) w _ _ a n c n' c' Tryz.underlying35
  cases A with
  | none =>
    obtain ⟨hn0, hc0, rfl⟩ := h.none_eq
    subst hc0
    go_enter Tryz.func47, Tryz.ntmps47
    go_wp2_with fail
    go_ret
    exact ⟨none, 0, rfl, SlK.none_ _, fun ad e => (by cases e), Below.refl _ _⟩
  | some ad =>
    have HK := Lib.hid (h.alloc (.cells #[] 71))
    have HO : Hid (OwnK (w.alloc (.cells #[] 71)) w.heap.size 71 (.slice (some ⟨w.heap.size, 0, none⟩) 0 0) []) := World.ownsRow_made w _ 0 (Nat.le_refl _) (by decide) (by simp)
    have HB : Hid (Below w.heap.size w (w.alloc (.cells #[] 71))) := (Below.refl _ _).alloc (Nat.le_refl _) _
    have hb1 : w.heap.size ≤ (w.alloc (.cells #[] 71)).heap.size := HB.out.size
    clear h
    go_enter Tryz.func47, Tryz.ntmps47
    go_wp2_with (at_builtin; refine wpList_append_slk rfl _ _ _ rfl w.heap.size 71 Tryz.underlying35 (by kernel_rfl) _ rfl [] HO.out _ _ _ rfl L HK.out (by simpa using hn) hb1 w HB.out ?_; intro v1 w2 ho2 hb2 hz2)
    obtain ⟨A1, c1, rfl, hS⟩ := ho2.out.slk (by simpa using hsz)
    have hfr := OwnK.freshK ho2.out
    simp only [List.nil_append] at hS hfr ⊢
    go_wp2_with fail
    go_ret
    exact ⟨A1, c1, rfl, hS, hfr, hb2⟩

end Go.Proofs.YtjkfdjolhmgemaaGreatDoor
end
