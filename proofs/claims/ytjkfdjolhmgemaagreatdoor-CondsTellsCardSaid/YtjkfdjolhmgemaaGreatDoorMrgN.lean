/-
  Texts that the laws of this seat lean on, one behind the other.
-/
import Derived.Test.YtjkfdjolhmgemaaGreatDoorMrgB
import Derived.Test.YtjkfdjolhmgemaaGreatDoorMrgJ
import Derived.Test.YtjkfdjolhmgemaaGreatDoorMrgK
import Derived.Test.YtjkfdjolhmgemaaGreatDoorMrgC
import Derived.Test.YtjkfdjolhmgemaaGreatDoorMrgM
set_option linter.unusedSimpArgs false
set_option linter.unusedVariables false
/-
  Contracts of quotedEnd and elementEnd of package items, for every text and every place in it.
-/
section
namespace Go.Proofs.YtjkfdjolhmgemaaGreatDoor
open Go.RowKit

def posOk (o : Option Nat) : Bool := o.isSome
def posN (o : Option Nat) : Int := ((o.getD 0 : Nat) : Int)
theorem pos_some (m : Nat) : Ending.returned (.tuple #[.int .i64 (posN (some m)), .bool (posOk (some m))]) = .returned (.tuple #[.int .i64 (m : Int), .bool true]) := rfl
theorem byte_eq {c : UInt8} {n : Nat} (hn : n < 256) (h : ((c.toNat : Int) == (n : Int)) = true) : c = UInt8.ofNat n := by
  rw [beq_iff_eq] at h
  rw [← UInt8.toNat_inj, UInt8.toNat_ofNat']
  omega
theorem byte_ne {c : UInt8} {n : Nat} (hn : n < 256) (h : ((c.toNat : Int) == (n : Int)) = false) : c ≠ UInt8.ofNat n := by
  rintro rfl
  rw [UInt8.toNat_ofNat', Nat.mod_eq_of_lt (by omega)] at h
  simp at h

theorem quotedEnd_any (s : ByteArray) (k : Nat) (w : World) (hs : s.size ≤ 1000000000) (hk : k < s.size) :
    Calls Tryz.prog 165 #[.string s, .int .i64 k] w fun e w' => e = .returned (.tuple #[.int .i64 (posN (qPos s (k + 1))), .bool (posOk (qPos s (k + 1)))]) ∧ w = w' := by
  obtain ⟨R, hR⟩ : ∃ R, qPos s (k + 1) = R := ⟨_, rfl⟩
  rw [hR]
  have HR := Lib.hid hR
  clear hR
  go_enter Tryz.func165, Tryz.ntmps165
  go_wp2
  go_loop [6] (fun i => ∃ m : Nat, k + 1 ≤ m ∧ m ≤ s.size + 1 ∧ i = .int .i64 m ∧ Hid (qPos s m = R)) (fun i => s.size + 1 - (intOf i).toNat)
  case atStart => exact ⟨k + 1, Nat.le_refl _, by omega, by go_num, HR⟩
  case round =>
    clear HR
    obtain ⟨m, hm, hm2, rfl, hf⟩ := hrel
    by_cases hlt : m < s.size
    · by_cases e1 : ((s[m].toNat : Int) == 34) = true
      · have HF : Hid (R = some (m + 1)) := hf.out.symm.trans (qPos_close s m hlt (byte_eq (n := 34) (by omega) e1))
        clear hf
        go_wp2
        go_ret2
        exact ⟨by rw [HF.out]; rfl, rfl⟩
      · have e1' : ((s[m].toNat : Int) == 34) = false := by simpa using e1
        clear e1
        by_cases e2 : ((s[m].toNat : Int) == 92) = true
        · have HF : Hid (qPos s (m + 2) = R) := (qPos_esc s m hlt (byte_eq (n := 92) (by omega) e2)).symm.trans hf.out
          clear hf
          go_wp2
          go_round
          case rel => exact ⟨m + 2, by omega, by omega, by go_num, HF⟩
          case measure => simp [intOf]; omega
        · have e2' : ((s[m].toNat : Int) == 92) = false := by simpa using e2
          have HF : Hid (qPos s (m + 1) = R) := (qPos_in s m hlt (byte_ne (n := 34) (by omega) e1') (byte_ne (n := 92) (by omega) e2')).symm.trans hf.out
          clear hf e2
          go_wp2
          go_round
          case rel => exact ⟨m + 1, by omega, by omega, by go_num, HF⟩
          case measure => simp [intOf]; omega
    · have HF : Hid (R = none) := hf.out.symm.trans (qPos_none s m (by omega))
      clear hf
      go_wp2
      go_ret2
      exact ⟨by rw [HF.out]; rfl, rfl⟩

theorem elementEnd_any (s : ByteArray) (k : Nat) (w : World) (hs : s.size ≤ 1000000000) (hk : k ≤ s.size) :
    Calls Tryz.prog 144 #[.string s, .int .i64 k] w fun e w' => e = .returned (.tuple #[.int .i64 (posN (ePos s k)), .bool (posOk (ePos s k))]) ∧ w = w' := by
  obtain ⟨R, hR⟩ : ∃ R, ePos s k = R := ⟨_, rfl⟩
  rw [hR]
  have HR := Lib.hid hR
  clear hR
  go_enter Tryz.func144, Tryz.ntmps144
  go_wp2
  go_loop [6] (fun i => ∃ m : Nat, k ≤ m ∧ m ≤ s.size ∧ i = .int .i64 m ∧ Hid (ePos s m = R)) (fun i => s.size + 1 - (intOf i).toNat)
  case atStart => exact ⟨k, Nat.le_refl _, by omega, by go_num, HR⟩
  case round =>
    clear HR
    obtain ⟨m, hm, hm2, rfl, hf⟩ := hrel
    by_cases hlt : m < s.size
    · by_cases e1 : ((s[m].toNat : Int) == 44) = true
      · have HF : Hid (R = some m) := hf.out.symm.trans (ePos_comma s m hlt (byte_eq (n := 44) (by omega) e1))
        clear hf
        go_wp2
        go_ret2
        exact ⟨by rw [HF.out]; rfl, rfl⟩
      · have e1' : ((s[m].toNat : Int) == 44) = false := by simpa using e1
        clear e1
        by_cases e2 : ((s[m].toNat : Int) == 34) = true
        · have HF : Hid ((qPos s (m + 1)).bind (ePos s) = R) := (ePos_open s m hlt (byte_eq (n := 34) (by omega) e2)).symm.trans hf.out
          clear hf
          cases hq : qPos s (m + 1) with
          | none =>
            have HN : Hid (R = none) := by
              have := HF.out
              rw [hq] at this
              exact this.symm
            have HQ := Lib.hid hq
            clear hq HF
            go_wp2_with (go_at_call 165; refine (quotedEnd_any s m _ hs hlt).mono ?_; rintro e w' ⟨he, rfl⟩; rw [HQ.out] at he; subst he)
            go_ret2
            exact ⟨by rw [HN.out]; rfl, rfl⟩
          | some e0 =>
            have HN : Hid (ePos s e0 = R) := by
              have := HF.out
              rw [hq] at this
              exact this
            have hle := qPos_le s (m + 1) e0 hq
            have HQ := Lib.hid hq
            clear hq HF
            go_wp2_with (go_at_call 165; refine (quotedEnd_any s m _ hs hlt).mono ?_; rintro e w' ⟨he, rfl⟩; rw [HQ.out, pos_some] at he; subst he)
            go_round
            case rel => exact ⟨e0, by omega, by omega, by go_num, HN⟩
            case measure => simp [intOf]; omega
        · have e2' : ((s[m].toNat : Int) == 34) = false := by simpa using e2
          have HF : Hid (ePos s (m + 1) = R) := (ePos_out s m hlt (byte_ne (n := 34) (by omega) e2') (byte_ne (n := 44) (by omega) e1')).symm.trans hf.out
          clear hf e2
          go_wp2
          go_round
          case rel => exact ⟨m + 1, by omega, by omega, by go_num, HF⟩
          case measure => simp [intOf]; omega
    · have HF : Hid (R = some m) := hf.out.symm.trans (ePos_end s m (by omega))
      clear hf
      go_wp2
      go_ret2
      exact ⟨by rw [HF.out]; rfl, rfl⟩

theorem elements_any (s : ByteArray) (w : World) :
    Calls Tryz.prog 125 #[.string s] w fun e w' => e = .returned (.func (.func 143) #[] #[.pointer (some ⟨w.heap.size + 1, 0, none⟩), .pointer (some ⟨w.heap.size, 0, none⟩)]) ∧
      (w.alloc (.cells #[.string s] 9)).alloc (.cells #[.int .i64 0] 3) = w' := by
  have hmf : ∀ (fn : Fn) (first cap : Array Value) (w : World), (Instr.makeFunc fn first cap).run Tryz.prog w = .ok (.func fn first cap) w := fun _ _ _ _ => rfl
  go_enter Tryz.func125, Tryz.ntmps125
  go_wp2
  go_ret
  exact ⟨rfl, rfl⟩

/-- The closure behind the list's last element. -/
theorem next_end (s : ByteArray) (w : World) (P Q k : Nat) (hp : w.cell? ⟨P, 0, none⟩ = some (.string s)) (hq : w.cell? ⟨Q, 0, none⟩ = some (.int .i64 k)) (hk : s.size ≤ k) :
    Calls Tryz.prog 143 #[.pointer (some ⟨Q, 0, none⟩), .pointer (some ⟨P, 0, none⟩)] w fun e w' => e = .returned (.tuple #[.string ⟨#[]⟩, .bool false, .int .i64 0]) ∧ w = w' := by
  go_enter Tryz.func143, Tryz.ntmps143
  go_wp2_with fail
  go_ret3
  exact ⟨rfl, rfl⟩
/-- The closure at a quoted part that isn't ended. -/
theorem next_none (s : ByteArray) (w : World) (hs : s.size ≤ 1000000000) (P Q k : Nat) (hp : w.cell? ⟨P, 0, none⟩ = some (.string s)) (hq : w.cell? ⟨Q, 0, none⟩ = some (.int .i64 k)) (hk : k < s.size) (hn : ePos s k = none) :
    Calls Tryz.prog 143 #[.pointer (some ⟨Q, 0, none⟩), .pointer (some ⟨P, 0, none⟩)] w fun e w' => e = .returned (.tuple #[.string ⟨#[]⟩, .bool false, .int .i64 5]) ∧ w = w' := by
  have HN := Lib.hid hn
  clear hn
  go_enter Tryz.func143, Tryz.ntmps143
  go_wp2_with (go_at_call 144; refine (elementEnd_any s k _ hs (by omega)).mono ?_; rintro e w' ⟨he, rfl⟩; rw [HN.out] at he; subst he)
  go_ret3
  exact ⟨rfl, rfl⟩
/-- The closure at an element. -/
theorem next_some (s : ByteArray) (w : World) (hs : s.size ≤ 1000000000) (P Q k m : Nat) (hp : w.cell? ⟨P, 0, none⟩ = some (.string s)) (hq : w.cell? ⟨Q, 0, none⟩ = some (.int .i64 k)) (hfr : w.frozen? ⟨Q, 0, none⟩ = false) (hQ : Q < w.heap.size) (hk : k < s.size) (hn : ePos s k = some m) :
    Calls Tryz.prog 143 #[.pointer (some ⟨Q, 0, none⟩), .pointer (some ⟨P, 0, none⟩)] w fun e w' => e = .returned (.tuple #[.string (mkS (trimL (piece s k m))), .bool true, .int .i64 0]) ∧
      ∃ w1, Below w.heap.size w w1 ∧ w1.setCell ⟨Q, 0, none⟩ (.int .i64 ((m : Int) + 1)) = w' := by
  have hle := ePos_le s k m hn (by omega)
  have hx1 : (k : Int) ≤ (m : Int) := by omega
  have hx2 : (m : Int) ≤ (s.size : Int) := by omega
  have HN := Lib.hid hn
  have hT : Hid ((s.extract k m).data.toList = piece s k m) := by
    show _ = _
    rw [piece_ext]; rfl
  clear hn
  go_enter Tryz.func143, Tryz.ntmps143
  go_wp2_with (go_at_call 144; refine (elementEnd_any s k _ hs (by omega)).mono ?_; rintro e w' ⟨he, rfl⟩; rw [HN.out, pos_some] at he; subst he)
  refine (trim_any (s.extract k m) _ ?hsz).mono ?_
  case hsz => unfold maxLen; simp; omega
  rintro e w1 ⟨he, hb1⟩
  rw [hT.out] at he
  subst he
  have hq1 := (hb1.cell (p := ⟨Q, 0, none⟩) hQ).trans hq
  have hf1 := (hb1.frozen (p := ⟨Q, 0, none⟩) hQ).trans hfr
  obtain ⟨X, hX⟩ : ∃ X, X = mkS (trimL (piece s k m)) := ⟨_, rfl⟩
  rw [← hX]
  have HX := Lib.hid hX
  clear hX
  go_wp2
  go_ret3
  exact ⟨by rw [HX.out]; rfl, w1, hb1, rfl⟩

end Go.Proofs.YtjkfdjolhmgemaaGreatDoor
end

/-
  Contracts of the reference's names and forms (layer 7): day, month, clock, Format, Old, Plain.
-/
section
namespace Go.Proofs.YtjkfdjolhmgemaaGreatDoor
open Go.RowKit

def dayVs : List Value := [.string ⟨#[83, 117, 110, 100, 97, 121]⟩, .string ⟨#[77, 111, 110, 100, 97, 121]⟩, .string ⟨#[84, 117, 101, 115, 100, 97, 121]⟩, .string ⟨#[87, 101, 100, 110, 101, 115, 100, 97, 121]⟩, .string ⟨#[84, 104, 117, 114, 115, 100, 97, 121]⟩, .string ⟨#[70, 114, 105, 100, 97, 121]⟩, .string ⟨#[83, 97, 116, 117, 114, 100, 97, 121]⟩]
theorem dayVs_at : ∀ n : Nat, n < 7 → dayVs[n]? = some (.string (mkS (dayL n)))
  | 0, _ | 1, _ | 2, _ | 3, _ | 4, _ | 5, _ | 6, _ => rfl
  | n + 7, h => by omega

theorem r_day (n : Nat) (h : n < 7) (w : World) :
    Calls Tryz.prog 117 #[.int .i64 n] w fun e w' => e = .returned (.string (mkS (dayL n))) ∧ Below w.heap.size w w' := by
  have ht := dayVs_at n h
  unfold dayVs at ht
  obtain ⟨x, hx⟩ : ∃ x, x = mkS (dayL n) := ⟨_, rfl⟩
  rw [← hx] at ht ⊢
  clear hx
  go_enter Tryz.func117, Tryz.ntmps117
  go_wp2
  go_ret
  exact ⟨congrArg Ending.returned (List.getElem?_eq_some_iff.1 ht).2, (Below.refl _ _).alloc (Nat.le_refl _) _⟩

def monB : ByteArray := ⟨#[74, 97, 110, 70, 101, 98, 77, 97, 114, 65, 112, 114, 77, 97, 121, 74, 117, 110, 74, 117, 108, 65, 117, 103, 83, 101, 112, 79, 99, 116, 78, 111, 118, 68, 101, 99]⟩
theorem mon_ext (m : Nat) (h0 : 1 ≤ m) : monB.extract (3 * m - 3) (3 * m) = mkS (monL m) := by
  rw [piece_ext]
  congr 1
  unfold piece monL
  rw [show 3 * m - (3 * m - 3) = 3 by omega]; rfl
theorem slice_mon (W : World) (m : Nat) (h0 : 1 ≤ m) (h1 : m ≤ 12) : (Instr.slice 9 (.string ⟨#[74, 97, 110, 70, 101, 98, 77, 97, 114, 65, 112, 114, 77, 97, 121, 74, 117, 110, 74, 117, 108, 65, 117, 103, 83, 101, 112, 79, 99, 116, 78, 111, 118, 68, 101, 99]⟩) (some (.int .i64 (3 * (m : Int) - 3))) (some (.int .i64 (3 * (m : Int)))) none).run Tryz.prog W = .ok (.string (mkS (monL m))) W := by
  have hz : (⟨#[74, 97, 110, 70, 101, 98, 77, 97, 114, 65, 112, 114, 77, 97, 121, 74, 117, 110, 74, 117, 108, 65, 117, 103, 83, 101, 112, 79, 99, 116, 78, 111, 118, 68, 101, 99]⟩ : ByteArray).size = 36 := rfl
  rw [run_slice_string W 9 _ .i64 .i64 (3 * (m : Int) - 3) (3 * (m : Int)) Tryz.underlying9 (by omega) (by omega) (by rw [hz]; omega)]
  rw [show (3 * (m : Int) - 3).toNat = 3 * m - 3 by omega, show (3 * (m : Int)).toNat = 3 * m by omega]
  have := mon_ext m h0
  unfold monB at this
  rw [this]
theorem r_month (m : Nat) (h0 : 1 ≤ m) (h1 : m ≤ 12) (w : World) :
    Calls Tryz.prog 113 #[.int .i64 m] w fun e w' => e = .returned (.string (mkS (monL m))) ∧ w = w' := by
  have hsl := fun W => slice_mon W m h0 h1
  go_enter Tryz.func113, Tryz.ntmps113
  go_wp2
  go_ret
  exact ⟨rfl, rfl⟩

theorem pad2_size (n : Nat) (h : n < 100) : (mkS (padL (n : Int) 2)).size = 2 := by rw [mkS_size, pad_two h]; rfl

theorem r_clock (t : Nat) (h : t ≤ 253402300799) (w : World) :
    Calls Tryz.prog 120 #[.int .i64 t] w fun e w' => e = .returned (.string (mkS (clkL t))) ∧ Below w.heap.size w w' := by
  have a1 := pad2_size (t % 86400 / 3600) (by omega)
  have a2 := pad2_size (t % 86400 / 60 % 60) (by omega)
  have a3 := pad2_size (t % 86400 % 60) (by omega)
  have HR : Hid (mkS (clkL t) = mkS (padL ((t % 86400 / 3600 : Nat) : Int) 2) ++ (⟨#[58]⟩ : ByteArray) ++ mkS (padL ((t % 86400 / 60 % 60 : Nat) : Int) 2) ++ (⟨#[58]⟩ : ByteArray) ++ mkS (padL ((t % 86400 % 60 : Nat) : Int) 2)) := by
    show _ = _
    rw [show (⟨#[58]⟩ : ByteArray) = mkS [58] from rfl, mkS_append, mkS_append, mkS_append, mkS_append]; rfl
  go_enter Tryz.func120, Tryz.ntmps120
  go_wp2_with fail
  refine (r_pad _ _ (by omega) (by omega) _).mono ?_
  rintro e w1 ⟨he, hb⟩
  rw [show (t : Int) % 86400 / 3600 = ((t % 86400 / 3600 : Nat) : Int) by omega] at he
  generalize mkS (padL ((t % 86400 / 3600 : Nat) : Int) 2) = A at *
  subst he
  go_wp2_with fail
  refine (r_pad _ _ (by omega) (by omega) _).mono ?_
  rintro e w2 ⟨he, hb2⟩
  have hb := below_then hb hb2
  clear hb2
  rw [show (t : Int) % 86400 / 60 % 60 = ((t % 86400 / 60 % 60 : Nat) : Int) by omega] at he
  generalize mkS (padL ((t % 86400 / 60 % 60 : Nat) : Int) 2) = B at *
  subst he
  go_wp2_with fail
  refine (r_pad _ _ (by omega) (by omega) _).mono ?_
  rintro e w3 ⟨he, hb3⟩
  have hb := below_then hb hb3
  clear hb3
  rw [show (t : Int) % 60 = ((t % 86400 % 60 : Nat) : Int) by omega] at he
  generalize mkS (padL ((t % 86400 % 60 : Nat) : Int) 2) = C at *
  subst he
  go_wp2_with fail
  go_ret
  exact ⟨by rw [HR.out]; rfl, hb⟩

end Go.Proofs.YtjkfdjolhmgemaaGreatDoor
end

/-
  Contracts of the reference's version, Request (layer 10).
-/
section
namespace Go.Proofs.YtjkfdjolhmgemaaGreatDoor
open Go.RowKit

end Go.Proofs.YtjkfdjolhmgemaaGreatDoor
end
