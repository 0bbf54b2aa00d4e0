/-
  Contract of the reference's plain (layer 8): bytes checked, escapes made plain.
-/
import Derived.Test.YtcmppmbieebkpaaGreatDoorTarA
import Derived.Test.YtcmppmbieebkpaaGreatDoorComT
import Derived.Deep.QuietTactic
import Derived.BigQuiet
import Derived.Deep.RegionHeld3
import Derived.IntWalk
namespace Go.Proofs.YtcmppmbieebkpaaGreatDoor
open Go.RowKit

def plnS (more : List UInt8) (s : ByteArray) : List UInt8 := (plnO more s.data.toList).getD []
def plnB (more : List UInt8) (s : ByteArray) : Bool := (plnO more s.data.toList).isSome
theorem pln_none {more : List UInt8} {s : ByteArray} (h : plnO more s.data.toList = none) : plnS more s = [] ∧ plnB more s = false := by simp [plnS, plnB, h]
theorem pln_some {more : List UInt8} {s : ByteArray} {x : List UInt8} (h : plnO more s.data.toList = some x) : plnS more s = x ∧ plnB more s = true := by simp [plnS, plnB, h]
/-- What is left to be made plain. -/
def plnK (more : List UInt8) (s P : ByteArray) (k : Nat) : Prop := plnO more s.data.toList = (plnO more (s.data.toList.drop k)).map fun x => P.data.toList ++ x
theorem plnK_zero (more : List UInt8) (s : ByteArray) : plnK more s ⟨#[]⟩ 0 := by
  unfold plnK
  rw [List.drop_zero]
  cases plnO more s.data.toList <;> simp
theorem plnK_end {more : List UInt8} {s P : ByteArray} {k : Nat} (h : plnK more s P k) (hk : s.size ≤ k) : plnO more s.data.toList = some P.data.toList := by
  rw [h, List.drop_eq_nil_of_le (by rw [← Lib.size_eq]; exact hk), plnO_nil]; simp
theorem plnK_byte {more : List UInt8} {s P : ByteArray} {k : Nat} (h : plnK more s P k) (hk : k < s.size) (h1 : s[k] ≠ 37) (h2 : (letB (s[k].toNat : Int) || hasB more (s[k].toNat : Int)) = true) : plnK more s (P ++ s.extract k (k + 1)) (k + 1) := by
  unfold plnK at h ⊢
  have e : (P ++ s.extract k (k + 1)).data.toList = P.data.toList ++ [s[k]] := by
    rw [append_list, piece_ext, mkS_list, piece_snoc s k k (Nat.le_refl _) hk, piece_none]; rfl
  rw [h, drop_at s k hk, plnO_byte h1 h2, e]
  cases plnO more (s.data.toList.drop (k + 1)) <;> simp
theorem plnK_bad {more : List UInt8} {s P : ByteArray} {k : Nat} (h : plnK more s P k) (hk : k < s.size) (h1 : s[k] ≠ 37) (h2 : (letB (s[k].toNat : Int) || hasB more (s[k].toNat : Int)) = false) : plnO more s.data.toList = none := by
  unfold plnK at h
  rw [h, drop_at s k hk, plnO_bad h1 h2]; rfl
theorem plnK_short {more : List UInt8} {s P : ByteArray} {k : Nat} (h : plnK more s P k) (hk : k < s.size) (h1 : s[k] = 37) (h2 : s.size ≤ k + 2) : plnO more s.data.toList = none := by
  unfold plnK at h
  rw [h, drop_at s k hk, h1, plnO_short]; rfl
  rw [List.length_drop, ← Lib.size_eq]; omega
theorem plnK_esc {more : List UInt8} {s P : ByteArray} {k : Nat} (h : plnK more s P k) (hk : k + 2 < s.size) (h1 : s[k] = 37) (h2 : hexB (s[k + 1].toNat : Int) = true) (h3 : hexB (s[k + 2].toNat : Int) = true) {Q : ByteArray} (hQ : Q.data.toList = P.data.toList ++ escL8 s[k + 1] s[k + 2]) : plnK more s Q (k + 3) := by
  unfold plnK at h ⊢
  rw [h, drop_at s k (by omega), drop_at s (k + 1) (by omega), drop_at s (k + 2) hk, h1, plnO_esc h2 h3, hQ]
  cases plnO more (s.data.toList.drop (k + 2 + 1)) <;> simp
theorem plnK_noesc {more : List UInt8} {s P : ByteArray} {k : Nat} (h : plnK more s P k) (hk : k + 2 < s.size) (h1 : s[k] = 37) (h2 : (hexB (s[k + 1].toNat : Int) && hexB (s[k + 2].toNat : Int)) = false) : plnO more s.data.toList = none := by
  unfold plnK at h
  rw [h, drop_at s k (by omega), drop_at s (k + 1) (by omega), drop_at s (k + 2) hk, h1, plnO_noesc h2]; rfl
theorem ret_sb {a b : ByteArray} {c d : Bool} (h : a = b) (g : c = d) : Ending.returned (.tuple #[.string a, .bool c]) = .returned (.tuple #[.string b, .bool d]) := by rw [h, g]
theorem great_cut : ∀ n : Nat, n < 16 → (⟨#[48, 49, 50, 51, 52, 53, 54, 55, 56, 57, 65, 66, 67, 68, 69, 70]⟩ : ByteArray).extract n (n + 1) = mkS [hexD n] := by decide +kernel

set_option maxHeartbeats 4000000 in
set_option maxRecDepth 100000 in
theorem r_pln (s m : ByteArray) (w : World) (hs : s.size ≤ 1000000) (hm : m.size ≤ 1000) :
    Calls Tryz.prog 24 #[.string s, .string m] w fun e w' => e = .returned (.tuple #[.string (mkS (plnS m.data.toList s)), .bool (plnB m.data.toList s)]) ∧ Below w.heap.size w w' := by
  have ci := fun (n : Nat) W => r_in n m W (by omega)
  obtain ⟨more, hmo⟩ : ∃ more, more = m.data.toList := ⟨_, rfl⟩
  rw [← hmo] at ci ⊢
  clear hmo
  have CI := Lib.hid ci
  clear ci
  go_enter Tryz.func24, Tryz.ntmps24
  go_wp2_with fail
  go_loopw [6, 7] (fun p i wr => ∃ (k : Nat) (P : ByteArray), k ≤ s.size ∧ P.size ≤ k ∧ i = .int .i64 (k : Int) ∧ p = .string P ∧ Hid (plnK more s P k) ∧ Below w.heap.size w wr) (fun _ i _ => s.size - (intOf i).toNat)
  case atStart => exact ⟨0, ⟨#[]⟩, Nat.zero_le _, Nat.le_refl _, rfl, rfl, plnK_zero more s, Below.refl _ _⟩
  case round =>
    obtain ⟨k, P, hk, hP, rfl, rfl, hf, hbel⟩ := hrel
    by_cases hlt : k < s.size
    · have hx1 : (k : Int) + 1 ≤ (s.size : Int) := by omega
      have hx0 : (k : Int) ≤ (k : Int) + 1 := by omega
      by_cases e37 : ((s[k].toNat : Int) != 37) = true
      · have hne : s[k] ≠ 37 := by
          intro e
          rw [e] at e37
          cases e37
        have HB : Hid ((letB (s[k].toNat : Int) || hasB more (s[k].toNat : Int)) = true → plnK more s (P ++ s.extract k (k + 1)) (k + 1)) := fun h => plnK_byte hf.out hlt hne h
        have HN : Hid ((letB (s[k].toNat : Int) || hasB more (s[k].toNat : Int)) = false → plnO more s.data.toList = none) := fun h => plnK_bad hf.out hlt hne h
        have hPz : (P ++ s.extract k (k + 1)).size ≤ k + 1 := by rw [ByteArray.size_append, ByteArray.size_extract]; omega
        have c1 := fun W => r_letter s[k].toNat W
        have c2 := fun W => CI.out s[k].toNat W
        clear hf hne
        rcases Bool.eq_false_or_eq_true (letB (s[k].toNat : Int)) with e | e
        · rw [e] at c1
          have HR := Lib.hid (HB.out (by rw [e]; rfl))
          have C1 := Lib.hid c1
          clear c1 c2 HB HN e
          go_wp2_with (go_at_call 30; refine (C1.out _).mono ?_; rintro e w' ⟨rfl, rfl⟩)
          go_roundw
          case rel => exact ⟨k + 1, _, by omega, hPz, by go_num, rfl, HR, hbel⟩
          case measure => simp [intOf]; omega
        · rw [e] at c1
          rcases Bool.eq_false_or_eq_true (hasB more (s[k].toNat : Int)) with e3 | e3
          · rw [e3] at c2
            have HR := Lib.hid (HB.out (by rw [e3]; simp))
            have C1 := Lib.hid c1
            have C2 := Lib.hid c2
            clear c1 c2 HB HN e e3
            go_wp2_with (first | (go_at_call 30; refine (C1.out _).mono ?_; rintro e w' ⟨rfl, rfl⟩) | (go_at_call 31; refine (C2.out _).mono ?_; rintro e w' ⟨rfl, rfl⟩))
            go_roundw
            case rel => exact ⟨k + 1, _, by omega, hPz, by go_num, rfl, HR, hbel⟩
            case measure => simp [intOf]; omega
          · rw [e3] at c2
            have HR := Lib.hid (pln_none (HN.out (by rw [e, e3]; rfl)))
            have C1 := Lib.hid c1
            have C2 := Lib.hid c2
            clear c1 c2 HB HN e e3
            go_wp2_with (first | (go_at_call 30; refine (C1.out _).mono ?_; rintro e w' ⟨rfl, rfl⟩) | (go_at_call 31; refine (C2.out _).mono ?_; rintro e w' ⟨rfl, rfl⟩))
            go_ret2
            exact ⟨by rw [HR.out.1, HR.out.2]; rfl, hbel⟩
      · have e37' : ((s[k].toNat : Int) != 37) = false := by simpa using e37
        have he : s[k] = 37 := by
          have : (s[k].toNat : Int) = 37 := by simpa using e37'
          rw [← UInt8.toNat_inj]
          exact Int.ofNat.inj this
        clear e37
        by_cases hsh : s.size ≤ k + 2
        · have HR := Lib.hid (pln_none (plnK_short hf.out hlt he hsh))
          have hsh' : (s.size : Int) ≤ (k : Int) + 2 := by omega
          clear hf he
          go_wp2_with fail
          go_ret2
          exact ⟨by rw [HR.out.1, HR.out.2]; rfl, hbel⟩
        · have hk1 : k + 1 < s.size := by omega
          have hk2 : k + 2 < s.size := by omega
          have hsh' : ¬ (s.size : Int) ≤ (k : Int) + 2 := by omega
          have h1 := hexN_lt s[k + 1]
          have h2 := hexN_lt s[k + 2]
          have c1 := fun W => r_hex s[k + 1].toNat s[k + 1].toNat_lt W
          have c2 := fun W => r_hex s[k + 2].toNat s[k + 2].toNat_lt W
          have HNo : Hid ((hexB (s[k + 1].toNat : Int) && hexB (s[k + 2].toNat : Int)) = false → plnO more s.data.toList = none) := fun h => plnK_noesc hf.out hk2 he h
          have HYes : Hid (hexB (s[k + 1].toNat : Int) = true → hexB (s[k + 2].toNat : Int) = true → ∀ Q : ByteArray, Q.data.toList = P.data.toList ++ escL8 s[k + 1] s[k + 2] → plnK more s Q (k + 3)) := fun a b Q hQ => plnK_esc hf.out hk2 he a b hQ
          have hesc : escL8 s[k + 1] s[k + 2] = if softB (hexV s[k + 1] s[k + 2] : Nat) then [UInt8.ofNat (hexV s[k + 1] s[k + 2])] else [37, hexD (hexN (s[k + 1].toNat : Int)).toNat, hexD (hexN (s[k + 2].toNat : Int)).toNat] := rfl
          have hV : hexV s[k + 1] s[k + 2] = (16 * hexN (s[k + 1].toNat : Int) + hexN (s[k + 2].toNat : Int)).toNat := rfl
          generalize escL8 s[k + 1] s[k + 2] = EL at *
          generalize hexV s[k + 1] s[k + 2] = V at *
          generalize hexN (s[k + 1].toNat : Int) = A at *
          generalize hexN (s[k + 2].toNat : Int) = B at *
          generalize hexB (s[k + 1].toNat : Int) = BA at *
          generalize hexB (s[k + 2].toNat : Int) = BB at *
          obtain ⟨A, rfl⟩ := Int.eq_ofNat_of_zero_le h1.1
          obtain ⟨B, rfl⟩ := Int.eq_ofNat_of_zero_le h2.1
          have C1 := Lib.hid c1
          have C2 := Lib.hid c2
          clear c1 c2 hf he
          have hx2 : (0 : Int) ≤ (k : Int) + 1 := by omega
          have hx3 : (k : Int) + 1 < (s.size : Int) := by omega
          have hx4 : ((k : Int) + 1).toNat = k + 1 := by omega
          have hx5 : (0 : Int) ≤ (k : Int) + 2 := by omega
          have hx6 : (k : Int) + 2 < (s.size : Int) := by omega
          have hx7 : ((k : Int) + 2).toNat = k + 2 := by omega
          cases BA with
          | false =>
            have HR := Lib.hid (pln_none (HNo.out rfl))
            clear HYes HNo hesc hV
            go_wp2_with fail
            refine (C1.out _).mono ?_
            rintro e w' ⟨rfl, rfl⟩
            go_wp2_with fail
            refine (C2.out _).mono ?_
            rintro e w' ⟨rfl, rfl⟩
            go_wp2_with fail
            go_ret2
            exact ⟨by rw [HR.out.1, HR.out.2]; rfl, hbel⟩
          | true =>
            cases BB with
            | false =>
              have HR := Lib.hid (pln_none (HNo.out rfl))
              clear HYes HNo hesc hV
              go_wp2_with fail
              refine (C1.out _).mono ?_
              rintro e w' ⟨rfl, rfl⟩
              go_wp2_with fail
              refine (C2.out _).mono ?_
              rintro e w' ⟨rfl, rfl⟩
              go_wp2_with fail
              go_ret2
              exact ⟨by rw [HR.out.1, HR.out.2]; rfl, hbel⟩
            | true =>
              clear HNo
              have hVb : V < 256 := by omega
              have hVi : (V : Int) = 16 * (A : Int) + (B : Int) := by omega
              have c3 := fun W => r_letter V W
              have c4 := fun W => r_in V ⟨#[45, 46, 95, 126]⟩ W (by decide)
              have e4 : (⟨#[45, 46, 95, 126]⟩ : ByteArray).data.toList = [45, 46, 95, 126] := rfl
              rw [e4] at c4
              have hso : softB (V : Int) = (letB (V : Int) || hasB [45, 46, 95, 126] (V : Int)) := rfl
              have hP3 : ∀ Q : ByteArray, Q.data.toList = P.data.toList ++ EL → Q.size ≤ k + 3 := fun Q hQ => by
                have : EL.length ≤ 3 := by rw [hesc]; split <;> simp
                rw [Lib.size_eq, hQ, List.length_append, ← Lib.size_eq]
                omega
              rw [hso] at hesc
              have hW : Below wr.heap.size wr (wr.alloc (.cells #[.int .u8 (16 * (A : Int) + (B : Int))] 5)) := (Below.refl _ _).alloc (Nat.le_refl _) _
              have hcv := run_str Tryz.prog (wr.alloc (.cells #[.int .u8 (16 * (A : Int) + (B : Int))] 5)) 64 5 Tryz.underlying64 Tryz.underlying5 (Sl8.one wr 5 (UInt8.ofNat V) (by rw [ofNat_toNat8 hVb, hVi])) 9 Tryz.underlying9
              have hbel2 := hbel.trans (hW.mono hbel.size)
              have h16 : (16 * (A : Int) + (B : Int)) < 256 := by omega
              have HL : Hid (letB (V : Int) = true ∨ letB (V : Int) = false) := by
                show _ ∨ _
                cases letB (V : Int) <;> simp
              rw [hVi] at c3 c4 hesc HL
              obtain ⟨X, hX⟩ : ∃ X, X = mkS [UInt8.ofNat V] := ⟨_, rfl⟩
              rw [← hX] at hcv
              have hX1 : X.size = 1 := by rw [hX]; rfl
              have HX := Lib.hid hX
              clear hV hX hVb hVi hW hso e4
              rcases HL.out with e | e
              · rw [e] at c3 hesc
                have HQ := Lib.hid (HYes.out rfl rfl (P ++ X) (by rw [append_list, HX.out, hesc]; rfl))
                have hQ3 := hP3 (P ++ X) (by rw [append_list, HX.out, hesc]; rfl)
                have C3 := Lib.hid c3
                clear c3 c4 HYes hesc hP3 e HL
                go_wp2_with fail
                refine (C1.out _).mono ?_
                rintro e w' ⟨rfl, rfl⟩
                go_wp2_with fail
                refine (C2.out _).mono ?_
                rintro e w' ⟨rfl, rfl⟩
                go_wp2_with fail
                refine (C3.out _).mono ?_
                rintro e w' ⟨rfl, rfl⟩
                go_wp2_with fail
                go_roundw
                case rel => exact ⟨k + 3, _, by omega, hQ3, by go_num, rfl, HQ, hbel2⟩
                case measure => simp [intOf]; omega
              · rw [e] at c3 hesc
                rw [Bool.false_or] at hesc
                have HH : Hid (hasB [45, 46, 95, 126] (16 * (A : Int) + (B : Int)) = true ∨ hasB [45, 46, 95, 126] (16 * (A : Int) + (B : Int)) = false) := by
                  show _ ∨ _
                  cases hasB [45, 46, 95, 126] (16 * (A : Int) + (B : Int)) <;> simp
                rcases HH.out with e3 | e3
                · rw [e3] at c4 hesc
                  have HQ := Lib.hid (HYes.out rfl rfl (P ++ X) (by rw [append_list, HX.out, hesc]; rfl))
                  have hQ3 := hP3 (P ++ X) (by rw [append_list, HX.out, hesc]; rfl)
                  have C3 := Lib.hid c3
                  have C4 := Lib.hid c4
                  clear c3 c4 HYes hesc hP3 e e3 HL HH
                  go_wp2_with fail
                  refine (C1.out _).mono ?_
                  rintro e w' ⟨rfl, rfl⟩
                  go_wp2_with fail
                  refine (C2.out _).mono ?_
                  rintro e w' ⟨rfl, rfl⟩
                  go_wp2_with fail
                  refine (C3.out _).mono ?_
                  rintro e w' ⟨rfl, rfl⟩
                  go_wp2_with fail
                  refine (C4.out _).mono ?_
                  rintro e w' ⟨rfl, rfl⟩
                  go_wp2_with fail
                  go_roundw
                  case rel => exact ⟨k + 3, _, by omega, hQ3, by go_num, rfl, HQ, hbel2⟩
                  case measure => simp [intOf]; omega
                · rw [e3] at c4 hesc
                  have hQl : (P ++ (⟨#[37]⟩ : ByteArray) ++ mkS [hexD A] ++ mkS [hexD B]).data.toList = P.data.toList ++ EL := by
                    rw [append_list, append_list, append_list, hesc]
                    simp [mkS]
                  have HQ := Lib.hid (HYes.out rfl rfl _ hQl)
                  have hQ3 := hP3 _ hQl
                  have gA := great_cut A (by omega)
                  have gB := great_cut B (by omega)
                  obtain ⟨YA, hYA⟩ : ∃ Y, Y = mkS [hexD A] := ⟨_, rfl⟩
                  obtain ⟨YB, hYB⟩ : ∃ Y, Y = mkS [hexD B] := ⟨_, rfl⟩
                  have zA : YA.size = 1 := by rw [hYA]; rfl
                  have zB : YB.size = 1 := by rw [hYB]; rfl
                  rw [← hYA] at gA HQ hQ3
                  rw [← hYB] at gB HQ hQ3
                  have C3 := Lib.hid c3
                  have C4 := Lib.hid c4
                  have sA : ∀ W, (Instr.slice 9 (.string ⟨#[48, 49, 50, 51, 52, 53, 54, 55, 56, 57, 65, 66, 67, 68, 69, 70]⟩) (some (.int .i64 (A : Int))) (some (.int .i64 ((A : Int) + 1))) none).run Tryz.prog W = .ok (.string YA) W := fun W => by
                    rw [run_slice_string W 9 _ .i64 .i64 (A : Int) ((A : Int) + 1) Tryz.underlying9 (by omega) (by omega) (by show (A : Int) + 1 ≤ 16; omega), show ((A : Int) + 1).toNat = A + 1 by omega, Int.toNat_natCast, gA]
                  have sB : ∀ W, (Instr.slice 9 (.string ⟨#[48, 49, 50, 51, 52, 53, 54, 55, 56, 57, 65, 66, 67, 68, 69, 70]⟩) (some (.int .i64 (B : Int))) (some (.int .i64 ((B : Int) + 1))) none).run Tryz.prog W = .ok (.string YB) W := fun W => by
                    rw [run_slice_string W 9 _ .i64 .i64 (B : Int) ((B : Int) + 1) Tryz.underlying9 (by omega) (by omega) (by show (B : Int) + 1 ≤ 16; omega), show ((B : Int) + 1).toNat = B + 1 by omega, Int.toNat_natCast, gB]
                  clear c3 c4 HYes hesc hP3 e e3 HL HH hQl hYA hYB gA gB
                  go_wp2_with fail
                  refine (C1.out _).mono ?_
                  rintro e w' ⟨rfl, rfl⟩
                  go_wp2_with fail
                  refine (C2.out _).mono ?_
                  rintro e w' ⟨rfl, rfl⟩
                  go_wp2_with fail
                  refine (C3.out _).mono ?_
                  rintro e w' ⟨rfl, rfl⟩
                  go_wp2_with fail
                  refine (C4.out _).mono ?_
                  rintro e w' ⟨rfl, rfl⟩
                  go_wp2_with fail
                  have wA : IntKind.i64.wrap ((A : Int) + 1) = (A : Int) + 1 := IntWalk.i64_in _ (by omega)
                  have wB : IntKind.i64.wrap ((B : Int) + 1) = (B : Int) + 1 := IntWalk.i64_in _ (by omega)
                  have zP : (P.size : Int) ≤ 1000000 := by omega
                  go_quiet (fail)
                  clear wA wB sA sB
                  go_wp2_with fail
                  go_roundw
                  case rel => exact ⟨k + 3, _, by omega, hQ3, by go_num, rfl, HQ, below_drewN hbel _⟩
                  case measure => simp [intOf]; omega
    · have HR := Lib.hid (pln_some (plnK_end hf.out (by omega)))
      have HP := Lib.hid (mkS_self P)
      clear hf
      go_wp2_with fail
      go_ret2
      exact ⟨by rw [HR.out.1, HR.out.2, HP.out]; rfl, hbel⟩

end Go.Proofs.YtcmppmbieebkpaaGreatDoor
