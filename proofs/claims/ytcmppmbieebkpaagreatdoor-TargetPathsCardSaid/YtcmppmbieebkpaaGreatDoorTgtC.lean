/-
  Contracts of escaped and unescape of package target.
-/
import Derived.Test.YtcmppmbieebkpaaGreatDoorTgtA
import Derived.Test.YtcmppmbieebkpaaGreatDoorComZ
import Derived.Test.YtcmppmbieebkpaaGreatDoorOctBy
import Derived.Test.YtcmppmbieebkpaaGreatDoorTarP
import Derived.Test.YtcmppmbieebkpaaGreatDoorShTgt
namespace Go.Proofs.YtcmppmbieebkpaaGreatDoor
open Go.RowKit

theorem or_four : ∀ a : Nat, a < 16 → ∀ b : Nat, b < 16 → bits .or .i64 ((a : Int) * 16) (b : Int) % 256 = 16 * (a : Int) + (b : Int) := by decide +kernel

/-- What escaped answers. -/
def escV (s : ByteArray) : Int := if h : 3 ≤ s.size then 16 * hexN (s[1].toNat : Int) + hexN (s[2].toNat : Int) else 0
def escB (s : ByteArray) : Bool := if h : 3 ≤ s.size then hexB (s[1].toNat : Int) && hexB (s[2].toNat : Int) else false

set_option maxHeartbeats 2000000 in
set_option maxRecDepth 100000 in
theorem escaped_any (s : ByteArray) (w : World) :
    Calls Tryz.prog 41 #[.string s] w fun e w' => e = .returned (.tuple #[.int .u8 (escV s), .bool (escB s)]) ∧ Below w.heap.size w w' := by
  by_cases h : 3 ≤ s.size
  · have HV : Hid (escV s = 16 * hexN (s[1].toNat : Int) + hexN (s[2].toNat : Int)) := by show _ = _; unfold escV; rw [dif_pos h]
    have HB : Hid (escB s = (hexB (s[1].toNat : Int) && hexB (s[2].toNat : Int))) := by show _ = _; unfold escB; rw [dif_pos h]
    have h1 : ¬ (s.size : Int) < 3 := by omega
    have a1 : (1 : Int) < (s.size : Int) := by omega
    have a2 : (2 : Int) < (s.size : Int) := by omega
    have c1 := fun W => hex_any (s[1].toNat : Int) (by omega) (by have := s[1].toNat_lt; omega) W
    have c2 := fun W => hex_any (s[2].toNat : Int) (by omega) (by have := s[2].toNat_lt; omega) W
    have b1 := hexN_lt s[1]
    have b2 := hexN_lt s[2]
    obtain ⟨x, hx⟩ : ∃ x, s[1] = x := ⟨_, rfl⟩
    obtain ⟨y, hy⟩ : ∃ y, s[2] = y := ⟨_, rfl⟩
    rw [hx] at HV HB c1 b1
    rw [hy] at HV HB c2 b2
    obtain ⟨A, hA⟩ := Int.eq_ofNat_of_zero_le b1.1
    obtain ⟨B, hB⟩ := Int.eq_ofNat_of_zero_le b2.1
    rw [hA] at HV c1 b1
    rw [hB] at HV c2 b2
    generalize hexB (x.toNat : Int) = p at *
    generalize hexB (y.toNat : Int) = q at *
    have C1 := Lib.hid c1
    have C2 := Lib.hid c2
    have ho := Lib.hid (or_four A (by have := b1.2; omega) B (by have := b2.2; omega))
    have k1 : (A : Int) ≤ 15 := b1.2
    have k2 : (B : Int) ≤ 15 := b2.2
    clear c1 c2 b1 b2 hA hB
    cases p with
    | true =>
      go_enter Tryz.func41, Tryz.ntmps41
      go_wp2_with fail
      refine (C1.out _).mono ?_
      rintro e w1 ⟨rfl, hb1⟩
      go_wp2_with fail
      refine (C2.out _).mono ?_
      rintro e w2 ⟨rfl, hb2⟩
      go_wp2_with fail
      all_goals (
        go_ret2
        exact ⟨by rw [HV.out, HB.out, ho.out]; simp, below_then hb1 hb2⟩)
    | false =>
      go_enter Tryz.func41, Tryz.ntmps41
      go_wp2_with fail
      refine (C1.out _).mono ?_
      rintro e w1 ⟨rfl, hb1⟩
      go_wp2_with fail
      refine (C2.out _).mono ?_
      rintro e w2 ⟨rfl, hb2⟩
      go_wp2_with fail
      all_goals (
        go_ret2
        exact ⟨by rw [HV.out, HB.out, ho.out]; simp, below_then hb1 hb2⟩)
  · have HV : Hid (escV s = 0 ∧ escB s = false) := by
      refine ⟨?_, ?_⟩
      · unfold escV; rw [dif_neg h]
      · unfold escB; rw [dif_neg h]
    have h1 : (s.size : Int) < 3 := by omega
    go_enter Tryz.func41, Tryz.ntmps41
    go_wp2_with fail
    go_ret2
    exact ⟨by rw [HV.out.1, HV.out.2]; rfl, Below.refl _ _⟩

theorem upper_hex : ∀ n : Nat, n < 256 → hexB n = true → Lib.upperB (UInt8.ofNat n) = hexD (hexN n).toNat ∧ n < 128 := by decide +kernel
theorem upper_hex' (x : UInt8) (h : hexB (x.toNat : Int) = true) : Lib.upperB x = hexD (hexN (x.toNat : Int)).toNat ∧ x.toNat < 128 := by
  have := upper_hex x.toNat x.toNat_lt h
  rwa [UInt8.ofNat_toNat] at this
theorem ext_get (s : ByteArray) (k j : Nat) (h : k + j < s.size) : ∃ h2 : j < (s.extract k s.size).size, (s.extract k s.size)[j] = s[k + j] := by
  have e : (s.extract k s.size).data.toList = s.data.toList.drop k := by
    rw [Lib.extract_data, List.take_of_length_le (by rw [List.length_drop, ← Lib.size_eq]; omega)]
  have hz : (s.extract k s.size).size = s.size - k := by rw [Lib.size_eq, e, List.length_drop, ← Lib.size_eq]
  refine ⟨by omega, ?_⟩
  have h1 := Lib.data_getElem? (s.extract k s.size) j (by omega)
  rw [e, List.getElem?_drop, Lib.data_getElem? s (k + j) h] at h1
  exact (Option.some.inj h1).symm
theorem extr_size (s : ByteArray) (k : Nat) : (s.extract k s.size).size = s.size - k := by
  rw [Lib.size_eq, Lib.extract_data, List.take_of_length_le (by rw [List.length_drop, ← Lib.size_eq]; omega), List.length_drop, ← Lib.size_eq]
/-- Three bytes of a text, made great. -/
theorem up_three (s : ByteArray) (k : Nat) (h : k + 2 < s.size) (h1 : s[k] = 37) (h2 : hexB (s[k + 1].toNat : Int) = true) (h3 : hexB (s[k + 2].toNat : Int) = true) (w : World) :
    Calls Tryz.prog 42 #[.string (s.extract k (k + 3))] w fun e w' => e = .returned (.string (mkS [37, hexD (hexN (s[k + 1].toNat : Int)).toNat, hexD (hexN (s[k + 2].toNat : Int)).toNat])) ∧ Below w.heap.size w w' := by
  have e : (s.extract k (k + 3)).data.toList = [s[k], s[k + 1], s[k + 2]] := by
    rw [Lib.extract_data, show k + 3 - k = 3 by omega, drop_at s k (by omega), drop_at s (k + 1) (by omega), drop_at s (k + 2) h]; rfl
  have u2 := upper_hex' _ h2
  have u3 := upper_hex' _ h3
  have c := Tryz.strings_ToUpper_ascii (s.extract k (k + 3)) w (by rw [Lib.size_eq, e]; simp) (fun j b hj => by
    rw [e] at hj
    rcases j with _ | _ | _ | j
    · simp only [List.getElem?_cons_zero, Option.some.injEq] at hj
      rw [← hj, h1]; decide
    · simp only [List.getElem?_cons_succ, List.getElem?_cons_zero, Option.some.injEq] at hj
      rw [← hj]; exact u2.2
    · simp only [List.getElem?_cons_succ, List.getElem?_cons_zero, Option.some.injEq] at hj
      rw [← hj]; exact u3.2
    · simp at hj)
  have e2 : Lib.toUpperA (s.extract k (k + 3)).data.toList = [37, hexD (hexN (s[k + 1].toNat : Int)).toNat, hexD (hexN (s[k + 2].toNat : Int)).toNat] := by
    rw [e, ← u2.1, ← u3.1, h1]; rfl
  rw [e2] at c
  exact c

set_option maxHeartbeats 8000000 in
set_option maxRecDepth 100000 in
theorem unescape_any (more : List UInt8) (LA LP : List (List UInt8)) (hA : ∀ n : Nat, n < 256 → anyB LA n = (letB n || hasB more n)) (hP : ∀ n : Nat, n < 256 → anyB LP n = softB n) (s : ByteArray) (w : World) (hs : s.size ≤ 1000000)
    (p1 n1 c1 p2 n2 c2 : Nat) (A1 A2 : Option Addr) (hp1 : w.cell? ⟨p1, 0, none⟩ = some (.slice A1 n1 c1)) (hL1 : SlS w A1 n1 c1 LP) (hp2 : w.cell? ⟨p2, 0, none⟩ = some (.slice A2 n2 c2)) (hL2 : SlS w A2 n2 c2 LA) :
    Calls Tryz.prog 21 #[.string s, .func (.func 39) #[] #[.pointer (some ⟨p1, 0, none⟩)], .func (.func 39) #[] #[.pointer (some ⟨p2, 0, none⟩)]] w fun e w' =>
      e = .returned (.tuple #[.string (mkS (plnS more s)), .bool (plnB more s)]) ∧ Below w.heap.size w w' := by
  have CP := Lib.hid (fun (x : UInt8) W (hb : Below w.heap.size w W) => by
    have := any8_in LP A1 n1 c1 p1 (x.toNat : Int) W (cell_kept hb hp1) (hL1.below hb)
    rwa [hP x.toNat x.toNat_lt] at this)
  have CA := Lib.hid (fun (x : UInt8) W (hb : Below w.heap.size w W) => by
    have := any8_in LA A2 n2 c2 p2 (x.toNat : Int) W (cell_kept hb hp2) (hL2.below hb)
    rwa [hA x.toNat x.toNat_lt] at this)
  clear hp1 hL1 hp2 hL2 hA hP
  obtain ⟨w1, hmk, hown, hbm⟩ := make8 (P := Tryz.prog) w 64 5 Tryz.underlying64 (by kernel_rfl) s.size (by omega)
  have HO1 := Lib.hid hown
  have HB1 := Lib.hid hbm
  clear hown hbm
  go_enter Tryz.func21, Tryz.ntmps21
  go_wp2_with fail
  clear hmk
  go_loopw [8, 9] (fun v i wr => ∃ (k : Nat) (X : List UInt8), k ≤ s.size ∧ X.length ≤ k ∧ i = .int .i64 (k : Int) ∧ Hid (plnK more s (mkS X) k) ∧ Own8 wr w.heap.size 5 v X ∧ Below w.heap.size w wr) (fun _ i _ => s.size - (intOf i).toNat)
  case atStart => exact ⟨0, [], Nat.zero_le _, Nat.le_refl _, rfl, plnK_zero _ _, HO1.out, HB1.out⟩
  case round =>
    obtain ⟨k, X, hk, hX, rfl, hf, ho, hbel⟩ := hrel
    have HB := Lib.hid hbel
    have HO := Lib.hid ho
    have hsz := hbel.size
    clear hbel ho
    by_cases hlt : k < s.size
    · by_cases h37 : s[k] = 37
      · have hbn : ((s[k].toNat : Int) != 37) = false := by rw [h37]; rfl
        have ce := escaped_any (s.extract k s.size) wr
        have hTz := extr_size s k
        by_cases h3 : k + 2 < s.size
        · obtain ⟨g1, e1⟩ := ext_get s k 1 (by omega)
          obtain ⟨g2, e2⟩ := ext_get s k 2 (by omega)
          have hV : escV (s.extract k s.size) = 16 * hexN (s[k + 1].toNat : Int) + hexN (s[k + 2].toNat : Int) := by unfold escV; rw [dif_pos (by omega), e1, e2]; rfl
          have hB : escB (s.extract k s.size) = (hexB (s[k + 1].toNat : Int) && hexB (s[k + 2].toNat : Int)) := by unfold escB; rw [dif_pos (by omega), e1, e2]
          rw [hV, hB] at ce
          clear hV hB e1 e2 g1 g2 hTz
          rcases Bool.eq_false_or_eq_true (hexB (s[k + 1].toNat : Int) && hexB (s[k + 2].toNat : Int)) with e | e
          · have e3 := e
            rw [Bool.and_eq_true] at e3
            have hv : 16 * hexN (s[k + 1].toNat : Int) + hexN (s[k + 2].toNat : Int) = ((hexV s[k + 1] s[k + 2] : Nat) : Int) := by
              have b1 := hexN_lt s[k + 1]
              have b2 := hexN_lt s[k + 2]
              unfold hexV; omega
            have hvl := hexV_lt s[k + 1] s[k + 2]
            rw [e, hv] at ce
            have cp := CP.out (UInt8.ofNat (hexV s[k + 1] s[k + 2]))
            rw [ofNat_toNat8 hvl] at cp
            have hup := Lib.hid (fun W => up_three s k h3 h37 e3.1 e3.2 W)
            have HN := Lib.hid (fun (Y : List UInt8) (hY : Y = escL8 s[k + 1] s[k + 2]) => plnK_esc hf.out h3 h37 e3.1 e3.2 (Q := mkS (X ++ Y)) (by rw [mkS_list, mkS_list, hY]))
            have hsoft : Hid (softB (hexV s[k + 1] s[k + 2] : Nat) = true → escL8 s[k + 1] s[k + 2] = [UInt8.ofNat (hexV s[k + 1] s[k + 2])]) := fun h => by unfold escL8; rw [if_pos h]
            have hhard : Hid (softB (hexV s[k + 1] s[k + 2] : Nat) = false → escL8 s[k + 1] s[k + 2] = [37, hexD (hexN (s[k + 1].toNat : Int)).toNat, hexD (hexN (s[k + 2].toNat : Int)).toNat]) := fun h => by unfold escL8; rw [if_neg (by simp [h])]
            generalize hexV s[k + 1] s[k + 2] = V at *
            generalize hexD (hexN (s[k + 1].toNat : Int)).toNat = A at *
            generalize hexD (hexN (s[k + 2].toNat : Int)).toNat = B at *
            generalize escL8 s[k + 1] s[k + 2] = EL at *
            have HCP := Lib.hid cp
            have CE := Lib.hid ce
            have z1 : IntKind.i64.wrap ((k : Int) + 2) = (k : Int) + 2 := IntWalk.i64_in _ (by omega)
            have z2 : IntKind.i64.wrap ((k : Int) + 2 + 1) = (k : Int) + 3 := by rw [IntWalk.i64_in _ (by omega)]; omega
            have z3 : IntKind.i64.wrap ((k : Int) + 3) = (k : Int) + 3 := IntWalk.i64_in _ (by omega)
            have z4 : ((k : Int) + 3).toNat = k + 3 := by omega
            have z5 : (k : Int) + 3 ≤ (s.size : Int) := by omega
            have z6 : (k : Int) ≤ (k : Int) + 3 := by omega
            have z7 : (0 : Int) ≤ (k : Int) + 3 := by omega
            clear cp ce hv e e3 hf h37
            rcases Bool.eq_false_or_eq_true (softB (V : Int)) with e | e
            · have HY := Lib.hid (HN.out [UInt8.ofNat V] (hsoft.out e).symm)
              have HE := Lib.hid e
              clear HN hsoft hhard hup e
              go_wp2_with fail
              refine (CE.out).mono ?_
              rintro e w2 ⟨rfl, hb2⟩
              have hbb := Lib.hid (below_then HB.out hb2)
              have HO2 := Lib.hid (HO.out.below hb2)
              have hsz2 := hbb.out.size
              clear hb2
              go_wp2_with fail
              refine (HCP.out w2 hbb.out).mono ?_
              rintro e w' ⟨he, rfl⟩
              rw [HE.out] at he
              subst he
              go_wp2_with (at_builtin; refine wpList_append_sl8 rfl _ _ _ rfl w.heap.size 5 Tryz.underlying64 (by kernel_rfl) _ rfl X (HO2.out.alloc _) _ _ _ rfl [UInt8.ofNat V] (Sl8.one _ _ (UInt8.ofNat V) (by rw [ofNat_toNat8 hvl])) (by simp; omega) (by simp; omega) w2 ((Below.refl _ _).alloc hsz2 _) ?_; intro v' w4 ho4 hb4 hz4)
              go_roundw
              case rel => exact ⟨k + 3, X ++ [UInt8.ofNat V], by omega, by simp; omega, by go_num, HY, ho4.out, hbb.out.trans hb4⟩
              case measure => simp [intOf]; omega
            · have HY := Lib.hid (HN.out [37, A, B] (hhard.out e).symm)
              have HE := Lib.hid e
              clear HN hsoft hhard e
              go_wp2_with fail
              refine (CE.out).mono ?_
              rintro e w2 ⟨rfl, hb2⟩
              have hbb := Lib.hid (below_then HB.out hb2)
              have HO2 := Lib.hid (HO.out.below hb2)
              have hsz2 := hbb.out.size
              clear hb2
              go_wp2_with fail
              refine (HCP.out w2 hbb.out).mono ?_
              rintro e w' ⟨he, rfl⟩
              rw [HE.out] at he
              subst he
              go_wp2_with fail
              refine (hup.out _).mono ?_
              rintro e w3 ⟨rfl, hb3⟩
              have HO3 := Lib.hid (HO2.out.below hb3)
              have hbb3 := Lib.hid (below_then hbb.out hb3)
              have hsz3 := hbb3.out.size
              clear hb3
              go_wp2_with (at_builtin; refine wpList_append_text rfl _ _ 64 9 rfl w.heap.size 5 Tryz.underlying64 Tryz.underlying9 (by kernel_rfl) _ rfl X HO3.out (mkS [37, A, B]) rfl (by rw [mkS_size]; simp; omega) hsz3 w3 (Below.refl _ _) ?_; intro v' w4 ho4 hb4 hz4)
              go_roundw
              case rel => exact ⟨k + 3, X ++ [37, A, B], by omega, by simp; omega, by go_num, HY, ho4.out, hbb3.out.trans (hb4.mono (Nat.le_refl _))⟩
              case measure => simp [intOf]; omega
          · have HR := Lib.hid (pln_none (plnK_noesc hf.out h3 h37 e))
            rw [e] at ce
            have CE := Lib.hid ce
            generalize 16 * hexN (s[k + 1].toNat : Int) + hexN (s[k + 2].toNat : Int) = V at *
            clear ce hf e h37
            go_wp2_with fail
            refine (CE.out).mono ?_
            rintro e w2 ⟨rfl, hb2⟩
            go_wp2_with fail
            go_ret2
            exact ⟨by rw [HR.out.1, HR.out.2]; rfl, below_then HB.out hb2⟩
        · have HR := Lib.hid (pln_none (plnK_short hf.out hlt h37 (by omega)))
          have hB : escB (s.extract k s.size) = false := by unfold escB; rw [dif_neg (by omega)]
          rw [hB] at ce
          have CE := Lib.hid ce
          generalize escV (s.extract k s.size) = V at *
          clear ce hf h37 hB hTz
          go_wp2_with fail
          refine (CE.out).mono ?_
          rintro e w2 ⟨rfl, hb2⟩
          go_wp2_with fail
          go_ret2
          exact ⟨by rw [HR.out.1, HR.out.2]; rfl, below_then HB.out hb2⟩
      · have hbn : ((s[k].toNat : Int) != 37) = true := by
          rw [bne_iff_ne]; intro e; exact h37 (UInt8.toNat_inj.1 (by show _ = 37; omega))
        have ca := CA.out s[k] wr HB.out
        rcases Bool.eq_false_or_eq_true (letB (s[k].toNat : Int) || hasB more (s[k].toNat : Int)) with e | e
        · rw [e] at ca
          have HN : Hid (plnK more s (mkS (X ++ [s[k]])) (k + 1)) := by
            have := plnK_byte hf.out hlt h37 e
            have e2 : mkS X ++ s.extract k (k + 1) = mkS (X ++ [s[k]]) := by
              rw [← mkS_append, piece_ext, piece_snoc s k k (Nat.le_refl _) hlt, piece_none]; rfl
            rwa [e2] at this
          have C := Lib.hid ca
          clear ca hf e
          go_wp2_with fail
          refine (C.out).mono ?_
          rintro e w' ⟨rfl, rfl⟩
          go_wp2_with (at_builtin; refine wpList_append_sl8 rfl _ _ _ rfl w.heap.size 5 Tryz.underlying64 (by kernel_rfl) _ rfl X (HO.out.alloc _) _ _ _ rfl [s[k]] (Sl8.one _ _ s[k] rfl) (by simp; omega) (by simp; omega) wr ((Below.refl _ _).alloc hsz _) ?_; intro v' w4 ho4 hb4 hz4)
          go_roundw
          case rel => exact ⟨k + 1, X ++ [s[k]], by omega, by simp; omega, by go_num, HN, ho4.out, HB.out.trans hb4⟩
          case measure => simp [intOf]; omega
        · rw [e] at ca
          have HR := Lib.hid (pln_none (plnK_bad hf.out hlt h37 e))
          have C := Lib.hid ca
          clear ca hf e
          go_wp2_with (go_at_call 39; refine (C.out).mono ?_; rintro e w' ⟨rfl, rfl⟩)
          go_ret2
          exact ⟨by rw [HR.out.1, HR.out.2]; rfl, HB.out⟩
    · have HR := Lib.hid (pln_some (plnK_end hf.out (by omega)))
      obtain ⟨A, c, rfl, hA⟩ := HO.out.sl8
      have hcv := run_str Tryz.prog wr 64 5 Tryz.underlying64 Tryz.underlying5 hA 9 Tryz.underlying9
      clear hf
      go_wp2_with fail
      go_ret2
      exact ⟨by rw [HR.out.1, HR.out.2]; rfl, HB.out⟩

end Go.Proofs.YtcmppmbieebkpaaGreatDoor
