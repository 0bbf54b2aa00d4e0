/-
  Texts that the laws of this seat lean on, one behind the other.
-/
import Derived.Test.YtmkjjidilfhojaaDoorMrgAB
import Derived.Test.YtmkjjidilfhojaaDoorMrgAQ
import Derived.Test.YtmkjjidilfhojaaDoorMrgX
/-
  Contracts of the reference's Hop, Nominated, Strip (layer 16).
-/
section
namespace Go.Proofs.YtmkjjidilfhojaaDoor
open Go.RowKit

set_option maxRecDepth 100000 in
theorem r_hop (name : ByteArray) (hz : name.size ≤ maxLen) (w : World) :
    Calls Tryd.prog 15 #[.string name] w fun e w' => e = .returned (.bool (hopB name)) ∧ Below w.heap.size w w' := by
  have HS := Lib.hid (SlS.texts w 9 hopN (by decide))
  have HB0 : Hid (Below w.heap.size w (w.alloc (.cells (hopN.map Value.string).toArray 9))) := (Below.refl _ _).alloc (Nat.le_refl _) _
  have HL := Lib.hid (show hopN.length = 10 from rfl)
  have HLE := Lib.hid hopN_le
  have HD := Lib.hid (show hopB name = hopN.any fun n => sameB n name from rfl)
  generalize hopB name = R at *
  have HC := Lib.hid (show (hopN.map Value.string).toArray = #[.string ⟨#[67, 111, 110, 110, 101, 99, 116, 105, 111, 110]⟩, .string ⟨#[75, 101, 101, 112, 45, 65, 108, 105, 118, 101]⟩, .string ⟨#[80, 114, 111, 120, 121, 45, 67, 111, 110, 110, 101, 99, 116, 105, 111, 110]⟩, .string ⟨#[80, 114, 111, 120, 121, 45, 65, 117, 116, 104, 101, 110, 116, 105, 99, 97, 116, 101]⟩, .string ⟨#[80, 114, 111, 120, 121, 45, 65, 117, 116, 104, 111, 114, 105, 122, 97, 116, 105, 111, 110]⟩, .string ⟨#[84, 69]⟩, .string ⟨#[84, 114, 97, 105, 108, 101, 114]⟩, .string ⟨#[84, 114, 97, 110, 115, 102, 101, 114, 45, 69, 110, 99, 111, 100, 105, 110, 103]⟩, .string ⟨#[85, 112, 103, 114, 97, 100, 101]⟩, .string ⟨#[67, 111, 110, 116, 101, 110, 116, 45, 76, 101, 110, 103, 116, 104]⟩] from rfl)
  rw [HC.out] at HS HB0
  generalize hopN = N at *
  clear HC
  go_enter Tryd.func15, Tryd.ntmps15
  go_wp2_with fail
  go_loopw [4] (fun i wr => ∃ k : Nat, k ≤ 10 ∧ i = .int .i64 (k : Int) ∧ Hid (∀ j (hj : j < N.length), j < k → sameB N[j] name = false) ∧ Below w.heap.size w wr ∧ Hid (SlS wr (some ⟨w.heap.size, 0, none⟩) N.length N.length (N.map fun x => x.data.toList))) (fun i _ => 10 - (intOf i).toNat)
  case atStart => exact ⟨0, Nat.zero_le _, rfl, fun j hj h0 => absurd h0 (by omega), HB0.out, HS.out⟩
  case round =>
    clear HS HB0
    obtain ⟨k, hk, rfl, hf, hbel, HSr⟩ := hrel
    by_cases hlt : k < 10
    · have hkN : k < N.length := by have := HL.out; omega
      have hcell := HSr.out.cells k N[k].data.toList (by rw [List.getElem?_map, List.getElem?_eq_getElem hkN]; rfl)
      rw [mkS_self, addr_add] at hcell
      have hle := HLE.out _ (List.getElem_mem hkN)
      have HH : Hid (sameB N[k] name = true → R = true) := fun h => by rw [HD.out]; exact List.any_eq_true.2 ⟨N[k], List.getElem_mem hkN, h⟩
      have HN : Hid (sameB N[k] name = false → ∀ j (hj : j < N.length), j < k + 1 → sameB N[j] name = false) := fun h j hj hjk => by
        by_cases e : j = k
        · subst e; exact h
        · exact hf.out j hj (by omega)
      generalize N[k] = nm at *
      have CS := Lib.hid (r_same nm name wr hle hz)
      have hi0 : (0 : Int) ≤ (k : Int) := by omega
      have hi1 : (k : Int) < 10 := by omega
      clear hf
      cases hq : sameB nm name with
      | true =>
        have HR := Lib.hid (HH.out hq)
        rw [hq] at CS
        clear hq HH HN
        go_wp2_with fail
        refine CS.out.mono ?_
        rintro e w1 ⟨rfl, hb1⟩
        go_wp2_with fail
        go_ret
        exact ⟨by rw [HR.out]; rfl, hbel.trans (hb1.mono hbel.size)⟩
      | false =>
        have HR := Lib.hid (HN.out hq)
        rw [hq] at CS
        clear hq HH HN
        go_wp2_with fail
        refine CS.out.mono ?_
        rintro e w1 ⟨rfl, hb1⟩
        go_wp2_with fail
        go_roundw
        case rel => exact ⟨k + 1, by omega, by go_num, HR.out, hbel.trans (hb1.mono hbel.size), HSr.out.below hb1⟩
        case measure => simp [intOf]; omega
    · have HR : Hid (R = false) := by
        show _ = _
        rw [HD.out, List.any_eq_false]
        intro n hn
        obtain ⟨j, hj, rfl⟩ := List.getElem_of_mem hn
        have := HL.out
        simp [hf.out j hj (by omega)]
      have hi1 : ¬ (k : Int) < 10 := by omega
      go_wp2_with fail
      go_ret
      exact ⟨by rw [HR.out]; rfl, hbel⟩

set_option maxHeartbeats 4000000 in
set_option maxRecDepth 100000 in
theorem r_nom (A : Option Addr) (n c : Nat) (L : List Fd) (w : World) (h : SlF w A n c L) (hn : n ≤ 1000) (hB : ∀ x ∈ L, x.2.size ≤ 10000) :
    Calls Tryd.prog 13 #[.slice A n c] w (Vals w (nomL L)) := by
  have hln : L.length ≤ 1000 := by rw [h.len]; exact hn
  have C1 := Lib.hid (rf_all A n c L cnS w h (by omega) cnS_le)
  obtain ⟨hVn, hVz⟩ := all_sz (name := cnS) hB
  have hnl : nomL L = (fdAll L cnS).flatMap splO := rfl
  rw [hnl]
  generalize fdAll L cnS = V at *
  unfold cnS at C1
  have hVn : V.length ≤ 1000 := Nat.le_trans hVn hln
  clear h hn hB hnl hln
  go_enter Tryd.func13, Tryd.ntmps13
  go_wp2_with fail
  refine C1.out.mono ?_
  rintro e w1 ⟨A0, c0, rfl, hS, _, hb1⟩
  have HS := Lib.hid hS
  have HB := Lib.hid hb1
  clear hb1 hS C1
  go_wp2_with fail
  go_loopw [3, 5] (fun v i wr => ∃ k : Nat, k ≤ V.length ∧ i = .int .i64 (k : Int) ∧ Hid (OwnS wr w1.heap.size 9 v ((V.take k).flatMap splO)) ∧ Below w1.heap.size w1 wr) (fun _ i _ => V.length - (intOf i).toNat)
  case atStart => exact ⟨0, Nat.zero_le _, rfl, OwnS.nil _ _ _, Below.refl _ _⟩
  case round =>
    obtain ⟨k, hk, rfl, hown, hbel⟩ := hrel
    by_cases hlt : k < V.length
    · obtain ⟨ad, rfl, hc⟩ := HS.out.at_ (by omega)
      have hcell := cell_kept hbel (hc k V[k] (List.getElem?_eq_getElem hlt))
      have hvz := hVz _ (List.getElem_mem hlt)
      have hsn := fmS_snoc V k hlt
      have hPl := fm_split_len (V.take k) (fun x hx => hVz x (List.mem_of_mem_take hx))
      have hPk : (V.take k).length ≤ 1000 := by rw [List.length_take]; omega
      have hEl := (splO_sz hvz).1
      have CS := Lib.hid (fun W => r_split_f (mkS V[k]) W (by rw [mkS_size]; omega))
      rw [mkS_list] at CS
      generalize splO V[k] = E at *
      generalize splE V[k] = se at *
      generalize mkS V[k] = ms at *
      generalize (V.take k).flatMap splO = P at *
      have hPlen : P.length ≤ 10001000 := Nat.le_trans hPl (by have := Nat.mul_le_mul_right 10001 hPk; omega)
      have hi0 : (0 : Int) ≤ (k : Int) := by omega
      have hi1 : (k : Int) < (V.length : Int) := by omega
      have HSN := Lib.hid hsn
      have hsz := hbel.size
      clear hc hvz hPl hPk hsn
      go_wp2_with fail
      refine (CS.out _).mono ?_
      rintro e w2 ⟨A2, c2, rfl, hS2, _, _, hb2⟩
      have HS2 := Lib.hid hS2
      have HO := Lib.hid (hown.out.below hb2)
      have HB2 := Lib.hid (hbel.trans (hb2.mono hsz))
      have hs2 := HB2.out.size
      clear hb2 hS2 hown
      go_wp2_with (at_builtin; refine wpList_append_sls rfl _ _ _ rfl w1.heap.size 9 Tryd.underlying28 (by kernel_rfl) _ rfl P HO.out _ _ _ rfl E HS2.out (by omega) hs2 w1 HB2.out ?_; intro v1 w3 ho3 hb3 hz3)
      go_roundw
      case rel => exact ⟨k + 1, by omega, by go_num, by show OwnS _ _ _ _ _; rw [HSN.out]; exact ho3.out, hb3⟩
      case measure => simp [intOf]; omega
    · rw [List.take_of_length_le (show V.length ≤ k by omega)] at hown
      obtain ⟨A1, c1, e1, hA1, hH1⟩ := hown.out.sls
      subst e1
      have hb := below_then HB.out hbel
      have hi1 : ¬ (k : Int) < (V.length : Int) := by omega
      have HA1 := Lib.hid hA1
      have HH1 := Lib.hid hH1
      obtain ⟨q, hq⟩ : ∃ q, (V.flatMap splO).length = q := ⟨_, rfl⟩
      have HQ := Lib.hid hq
      unfold Vals
      rw [hq] at HA1 ⊢
      clear hown hA1 hH1 hq
      go_wp2_with fail
      go_ret
      exact ⟨A1, c1, by rw [HQ.out]; rfl, by rw [HQ.out]; exact HA1.out, HH1.out, hb⟩

set_option maxHeartbeats 8000000 in
set_option maxRecDepth 100000 in
theorem r_strip (A : Option Addr) (n c : Nat) (L : List Fd) (w : World) (h : SlF w A n c L) (hn : n ≤ 1000) (hB : ∀ x ∈ L, x.2.size ≤ 10000) :
    Calls Tryd.prog 10 #[.slice A n c] w fun e w' => ∃ v, e = .returned v ∧ OwnF w' w.heap.size 33 v (stpL L) ∧ Below w.heap.size w w' := by
  have C1 := Lib.hid (r_nom A n c L w h hn hB)
  have hln : L.length ≤ 1000 := by rw [h.len]; exact hn
  obtain ⟨hNn, hNz⟩ := nom_sz hln hB
  have hsz := h.sz
  have HF0 := Lib.hid h
  have hsl : stpL L = (fdDrop L (nomL L)).filter fun x => !hopB x.1 := rfl
  rw [hsl]
  generalize nomL L = NL at *
  have hDl : (fdDrop L NL).length ≤ 1000 := Nat.le_trans (List.length_filter_le _ _) hln
  have hDz : ∀ x ∈ fdDrop L NL, x.1.size ≤ maxLen ∧ x.2.size ≤ maxLen := fun x hx => hsz x (List.mem_filter.1 hx).1
  have C2 := Lib.hid (fun B d W (hW : Below w.heap.size w W) (hS : SlS W B NL.length d NL) => rf_drop A B n c NL.length d L NL W (HF0.out.below hW) (by omega) hS (fun x hx => by have := hNz x hx; unfold maxLen; omega) (by omega))
  generalize fdDrop L NL = D at *
  clear h hn hB hln hNn hNz hsz hsl HF0
  go_enter Tryd.func10, Tryd.ntmps10
  go_wp2_with fail
  refine C1.out.mono ?_
  rintro e w1 ⟨A1, c1, rfl, hS, _, hb1⟩
  have HS := Lib.hid hS
  have HB1 := Lib.hid hb1
  clear hb1 hS C1
  go_wp2_with fail
  refine (C2.out A1 c1 _ HB1.out HS.out).mono ?_
  rintro e w2 ⟨v2, rfl, ho, hb2⟩
  obtain ⟨A2, c2, rfl, hF2⟩ := ho.slf hDz
  have HF2 := Lib.hid hF2
  have HB2 := Lib.hid (below_then HB1.out hb2)
  clear ho hb2 hF2 C2 HS
  go_wp2_with fail
  go_loopw [3, 5] (fun v i wr => ∃ k : Nat, k ≤ D.length ∧ i = .int .i64 (k : Int) ∧ Hid (OwnF wr w2.heap.size 33 v ((D.take k).filter fun x => !hopB x.1)) ∧ Below w2.heap.size w2 wr) (fun _ i _ => D.length - (intOf i).toNat)
  case atStart => exact ⟨0, Nat.zero_le _, rfl, OwnF.nil _ _ _, Below.refl _ _⟩
  case round =>
    obtain ⟨k, hk, rfl, hown, hbel⟩ := hrel
    by_cases hlt : k < D.length
    · obtain ⟨ad, rfl, hc⟩ := HF2.out.at_ (by omega)
      obtain ⟨hc0, hc1⟩ := hc k D[k] (List.getElem?_eq_getElem hlt)
      have HC0 := Lib.hid (cell_kept hbel hc0)
      have HC1 := Lib.hid (fd_snd (cell_kept hbel hc1))
      have hz := hDz _ (List.getElem_mem hlt)
      have HFS := Lib.hid (filter_snoc (fun x : Fd => !hopB x.1) (D.take k) D[k])
      rw [← take_fd D k hlt] at HFS
      have hXl : ((D.take k).filter fun x => !hopB x.1).length ≤ k := Nat.le_trans (List.length_filter_le _ _) (by rw [List.length_take]; omega)
      generalize D[k] = x at *
      obtain ⟨xa, xb⟩ := x
      simp only at HC0 HC1 hz HFS
      generalize ((D.take k).filter fun x => !hopB x.1) = X at *
      have CH := Lib.hid (fun W => r_hop xa hz.1 W)
      have hcell0 := HC0.out
      have hi0 : (0 : Int) ≤ (k : Int) := by omega
      have hi1 : (k : Int) < (D.length : Int) := by omega
      have hs1 := hbel.size
      clear hc hc0 hc1
      cases hq : hopB xa with
      | true =>
        rw [hq] at CH HFS
        have HR : Hid ((D.take (k + 1)).filter (fun x => !hopB x.1) = X) := by show _ = _; rw [HFS.out, if_neg (by simp)]
        clear hq HFS
        go_wp2_with fail
        refine (CH.out _).mono ?_
        rintro e w3 ⟨rfl, hb3⟩
        go_wp2_with fail
        go_roundw
        case rel => exact ⟨k + 1, by omega, by go_num, by show OwnF _ _ _ _ _; rw [HR.out]; exact hown.out.below hb3, hbel.trans (hb3.mono hs1)⟩
        case measure => simp [intOf]; omega
      | false =>
        rw [hq] at CH HFS
        have HR : Hid ((D.take (k + 1)).filter (fun x => !hopB x.1) = X ++ [(xa, xb)]) := by show _ = _; rw [HFS.out, if_pos (by simp)]
        clear hq HFS
        go_wp2_with fail
        refine (CH.out _).mono ?_
        rintro e w3 ⟨rfl, hb3⟩
        have hcell0 := cell_kept hb3 HC0.out
        have hcell1 := cell_kept hb3 HC1.out
        have HO := Lib.hid (hown.out.below hb3)
        have HB3 := Lib.hid (hbel.trans (hb3.mono hs1))
        have hs3 := HB3.out.size
        clear hb3 hown
        go_wp2_with (at_builtin; refine wpList_append_slf rfl _ _ _ rfl w2.heap.size 33 Tryd.underlying22 (by kernel_rfl) _ rfl X (HO.out.alloc _) _ _ _ rfl [(xa, xb)] (SlF.one _ _ (xa, xb) hz) (by simp; omega) (by simp; omega) w2 (HB3.out.alloc hs3 _) ?_; intro v1 w4 ho4 hb4 hz4)
        go_roundw
        case rel => exact ⟨k + 1, by omega, by go_num, by show OwnF _ _ _ _ _; rw [HR.out]; exact ho4.out, hb4⟩
        case measure => simp [intOf]; omega
    · rw [List.take_of_length_le (show D.length ≤ k by omega)] at hown
      have hi1 : ¬ (k : Int) < (D.length : Int) := by omega
      have HO := Lib.hid (hown.out.wide (base' := w.heap.size) HB2.out.size)
      have HBZ := Lib.hid (below_then HB2.out hbel)
      clear hown
      go_wp2_with fail
      go_ret
      exact ⟨_, rfl, HO.out, HBZ.out⟩

end Go.Proofs.YtmkjjidilfhojaaDoor
end
