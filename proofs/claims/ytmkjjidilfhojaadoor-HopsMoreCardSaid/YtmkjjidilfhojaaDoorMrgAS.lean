/-
  Texts that the laws of this seat lean on, one behind the other.
-/
import Derived.Test.YtmkjjidilfhojaaDoorMrgAF
import Derived.Test.YtmkjjidilfhojaaDoorMrgAI
import Derived.Test.YtmkjjidilfhojaaDoorMrgAM
import Derived.Test.YtmkjjidilfhojaaDoorMrgW
import Derived.Test.YtmkjjidilfhojaaDoorMrgAR
/-
  Contracts of package hops' Nominated, without, Strip; with them all contracts of the package are there (hop_any, nom_any, stp_any).
-/
section
namespace Go.Proofs.YtmkjjidilfhojaaDoor
open Go.RowKit
set_option linter.unusedSimpArgs false

def IsFs (w : World) (X : List Fd) (e : Ending) (w' : World) : Prop := ∃ A c, e = .returned (.slice A X.length c) ∧ SlF w' A X.length c X ∧ Below w.heap.size w w'
theorem stp_sz {L : List Fd} (h : ∀ x ∈ L, x.1.size ≤ maxLen ∧ x.2.size ≤ maxLen) : ∀ x ∈ stpL L, x.1.size ≤ maxLen ∧ x.2.size ≤ maxLen := fun x hx => h x (List.mem_filter.1 (List.mem_filter.1 hx).1).1

set_option maxHeartbeats 4000000 in
set_option maxRecDepth 100000 in
theorem nom_any (A : Option Addr) (n c : Nat) (L : List Fd) (w : World) (h : SlF w A n c L) (hn : n ≤ 1000) (hB : ∀ x ∈ L, x.2.size ≤ 10000) (hBd : ∀ x ∈ L, Bd x) :
    Calls Tryd.prog 12 #[.slice A n c] w (Vals w (nomL L)) := by
  have hln : L.length ≤ 1000 := by rw [h.len]; exact hn
  have C1 := Lib.hid (all_any A n c L cnS w h (by omega) hBd cnS_le)
  obtain ⟨hVn, hVz⟩ := all_sz (name := cnS) hB
  have hnl : nomL L = (fdAll L cnS).flatMap splO := rfl
  rw [hnl]
  generalize fdAll L cnS = V at *
  unfold cnS at C1
  have hVn : V.length ≤ 1000 := Nat.le_trans hVn hln
  clear h hn hB hBd hnl hln
  go_enter Tryd.func12, Tryd.ntmps12
  go_wp2_with fail
  refine C1.out.mono ?_
  rintro e w1 ⟨A0, c0, rfl, hS, _, hb1⟩
  have HS := Lib.hid hS
  have HB := Lib.hid hb1
  clear hb1 hS C1
  go_wp2_with fail
  go_loopw [3, 11] (fun v i wr => ∃ k : Nat, k ≤ V.length ∧ i = .int .i64 (k : Int) ∧ Hid (OwnS wr w1.heap.size 9 v ((V.take k).flatMap splO)) ∧ Below w1.heap.size w1 wr) (fun _ i _ => V.length - (intOf i).toNat)
  case atStart => exact ⟨0, Nat.zero_le _, rfl, OwnS.nil _ _ _, Below.refl _ _⟩
  case round =>
    obtain ⟨k, hk, rfl, hown, hbel⟩ := hrel
    by_cases hlt : k < V.length
    · obtain ⟨ad, rfl, hc⟩ := HS.out.at_ (by omega)
      have hcell := cell_kept hbel (hc k V[k] (List.getElem?_eq_getElem hlt))
      have hvz := hVz _ (List.getElem_mem hlt)
      have hsn := fmS_snoc V k hlt
      have hPl := fm_split_len (V.take k) (fun x hx => hVz x (List.mem_of_mem_take hx))
      have hPk : (V.take k).length ≤ 1000 := by rw [List.length_take]; omega
      have hEl := (splO_sz hvz).1
      have CS := Lib.hid (fun W => split_any (mkS V[k]) W (by rw [mkS_size]; omega))
      rw [mkS_list] at CS
      unfold Strs2 at CS
      generalize splO V[k] = E at *
      generalize splE V[k] = se at *
      generalize mkS V[k] = ms at *
      generalize (V.take k).flatMap splO = P at *
      have hPlen : P.length ≤ 10001000 := Nat.le_trans hPl (by have := Nat.mul_le_mul_right 10001 hPk; omega)
      have hi0 : (0 : Int) ≤ (k : Int) := by omega
      have hi1 : (k : Int) < (V.length : Int) := by omega
      have HSN := Lib.hid hsn
      have hsz := hbel.size
      clear hc hvz hPl hPk hsn
      go_wp2_with fail
      refine (CS.out _).mono ?_
      rintro e w2 ⟨A2, c2, rfl, hS2, _, hb2⟩
      have HS2 := Lib.hid hS2
      have HO := Lib.hid (hown.out.below hb2)
      have HB2 := Lib.hid (hbel.trans (hb2.mono hsz))
      have hs2 := HB2.out.size
      clear hb2 hS2 hown
      go_wp2_with (at_builtin; refine wpList_append_sls rfl _ _ _ rfl w1.heap.size 9 Tryd.underlying28 (by kernel_rfl) _ rfl P HO.out _ _ _ rfl E HS2.out (by omega) hs2 w1 HB2.out ?_; intro v1 w3 ho3 hb3 hz3)
      go_roundw
      case rel => exact ⟨k + 1, by omega, by go_num, by show OwnS _ _ _ _ _; rw [HSN.out]; exact ho3.out, hb3⟩
      case measure => simp [intOf]; omega
    · rw [List.take_of_length_le (show V.length ≤ k by omega)] at hown
      obtain ⟨A1, c1, e1, hA1, hH1⟩ := hown.out.sls
      subst e1
      have hb := below_then HB.out hbel
      have hi1 : ¬ (k : Int) < (V.length : Int) := by omega
      have HA1 := Lib.hid hA1
      have HH1 := Lib.hid hH1
      obtain ⟨q, hq⟩ : ∃ q, (V.flatMap splO).length = q := ⟨_, rfl⟩
      have HQ := Lib.hid hq
      unfold Vals
      rw [hq] at HA1 ⊢
      clear hown hA1 hH1 hq
      go_wp2_with fail
      go_ret
      exact ⟨A1, c1, by rw [HQ.out]; rfl, by rw [HQ.out]; exact HA1.out, HH1.out, hb⟩

/-- The test that Strip hands on. -/
theorem goes_any (x : Fd) (hz : x.1.size ≤ maxLen) (w : World) (HT : HopTabs w) :
    Calls Tryd.prog 30 #[fdV x] w fun e w' => e = .returned (.bool (hopB x.1)) ∧ Below w.heap.size w w' := by
  obtain ⟨a, b⟩ := x
  unfold fdV
  have hb0 : Below w.heap.size w (w.alloc (.cells #[.string a, .string b] 33)) := (Below.refl _ _).alloc (Nat.le_refl _) _
  have C := Lib.hid (fun W (hW : Below w.heap.size w W) => hop_any a hz W (HT.kept hW))
  show Calls _ _ _ _ fun e w' => e = .returned (.bool (hopB a)) ∧ _
  generalize hopB a = r at *
  have HB := Lib.hid hb0
  clear hb0 HT
  go_enter Tryd.func30, Tryd.ntmps30
  go_wp2_with fail
  refine (C.out _ HB.out).mono ?_
  rintro e w1 ⟨rfl, hb1⟩
  go_wp2_with fail
  go_ret
  exact ⟨rfl, below_then HB.out hb1⟩

set_option maxHeartbeats 4000000 in
set_option maxRecDepth 100000 in
theorem without_any (A B : Option Addr) (n c m d : Nat) (L : List Fd) (names : List (List UInt8)) (w : World) (h : SlF w A n c L) (hn : n ≤ 1000) (hB : ∀ x ∈ L, Bd x)
    (h' : SlS w B m d names) (hz : ∀ x ∈ names, x.length ≤ maxLen) (hm : m ≤ 1000000000) (HT : HopTabs w) :
    Calls Tryd.prog 18 #[.slice A n c, .slice B m d] w (IsFs w ((fdDrop L names).filter fun x => !hopB x.1)) := by
  have eg : ∀ args W, (callFunc 30 args).run Tryd.prog W = .ok (.enter 30 args) W := fun _ _ => by kernel_rfl
  have C1 := Lib.hid (drop_any A B n c m d L names w h (by omega) hB h' hz hm)
  have hln : L.length ≤ 1000 := by rw [h.len]; exact hn
  have hdl : (fdDrop L names).length ≤ 1000 := Nat.le_trans (List.length_filter_le _ _) hln
  have hdb : ∀ x ∈ fdDrop L names, Bd x := fun x hx => hB x (List.mem_filter.1 hx).1
  generalize fdDrop L names = D at *
  have hp : PredO w.heap.size w 30 #[] (fun x => hopB x.1) := fun W x hW hx => goes_any x hx.one W (HT.kept hW)
  have C2 := Lib.hid (fun v w1 (h1 : OwnF w1 w.heap.size 33 v D) (hb : Below w.heap.size w w1) => del_any v D w.heap.size w w1 h1 (Nat.le_refl _) hb (by omega) hdb _ _ _ eg hp)
  generalize (D.filter fun x => !hopB x.1) = X at *
  obtain ⟨q, hq⟩ : ∃ q, X.length = q := ⟨_, rfl⟩
  have HQ := Lib.hid hq
  unfold IsFs
  rw [hq] at C2 ⊢
  clear h h' hB hz hm hn hln hdl hdb hp HT hq
  go_enter Tryd.func18, Tryd.ntmps18
  go_wp2_with fail
  refine C1.out.mono ?_
  rintro e w1 ⟨v, rfl, ho, hb1⟩
  obtain ⟨A1, c1, rfl⟩ := ho.form
  have HO := Lib.hid ho
  have HB := Lib.hid hb1
  clear ho hb1 C1
  go_wp2_with fail
  refine (C2.out _ _ HO.out HB.out).mono ?_
  rintro e w2 ⟨A2, c2, rfl, hF, hb2⟩
  have HF := Lib.hid hF
  have HB2 := Lib.hid hb2
  clear hF hb2 C2 HO
  go_wp2_with fail
  go_ret
  exact ⟨A2, c2, rfl, HF.out, HB2.out⟩

set_option maxHeartbeats 4000000 in
set_option maxRecDepth 100000 in
theorem stp_any (A : Option Addr) (n c : Nat) (L : List Fd) (w : World) (h : SlF w A n c L) (hn : n ≤ 1000) (hB : ∀ x ∈ L, x.2.size ≤ 10000) (hBd : ∀ x ∈ L, Bd x) (HT : HopTabs w) :
    Calls Tryd.prog 9 #[.slice A n c] w (IsFs w (stpL L)) := by
  have hln : L.length ≤ 1000 := by rw [h.len]; exact hn
  obtain ⟨hNn, hNz⟩ := nom_sz hln hB
  have C1 := Lib.hid (nom_any A n c L w h hn hB hBd)
  have C2 := Lib.hid (fun B d W (hW : Below w.heap.size w W) (hS : SlS W B (nomL L).length d (nomL L)) => without_any A B n c (nomL L).length d L (nomL L) W (h.below hW) hn hBd hS (fun x hx => by have := hNz x hx; unfold maxLen; omega) (by omega) (HT.kept hW))
  have hsl : stpL L = (fdDrop L (nomL L)).filter fun x => !hopB x.1 := rfl
  rw [← hsl] at C2
  generalize nomL L = NL at *
  generalize stpL L = X at *
  obtain ⟨q, hq⟩ : ∃ q, X.length = q := ⟨_, rfl⟩
  have HQ := Lib.hid hq
  obtain ⟨r, hr⟩ : ∃ r, NL.length = r := ⟨_, rfl⟩
  unfold IsFs Vals at *
  rw [hq] at C2 ⊢
  rw [hr] at C1 C2
  clear h hB hBd hn hln hNn hNz hsl HT hq hr
  go_enter Tryd.func9, Tryd.ntmps9
  go_wp2_with fail
  refine C1.out.mono ?_
  rintro e w1 ⟨B, d, rfl, hS, _, hb1⟩
  have HS := Lib.hid hS
  have HB := Lib.hid hb1
  clear hS hb1 C1
  go_wp2_with fail
  refine (C2.out _ _ _ HB.out HS.out).mono ?_
  rintro e w2 ⟨A2, c2, rfl, hF, hb2⟩
  have HF := Lib.hid hF
  have HB2 := Lib.hid (below_then HB.out hb2)
  clear hF hb2 C2 HS
  go_wp2_with fail
  go_ret
  exact ⟨A2, c2, rfl, HF.out, HB2.out⟩

end Go.Proofs.YtmkjjidilfhojaaDoor
end
