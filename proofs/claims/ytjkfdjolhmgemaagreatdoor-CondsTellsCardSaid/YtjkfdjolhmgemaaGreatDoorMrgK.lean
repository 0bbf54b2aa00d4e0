/-
  Texts that the laws of this seat lean on, one behind the other.
-/
import Derived.Test.YtjkfdjolhmgemaaGreatDoorMrgI
import Derived.Test.YtjkfdjolhmgemaaGreatDoorMrgA
import Derived.WalkSmall
import Derived.Test.YtjkfdjolhmgemaaGreatDoorMrgD
import Derived.Test.YtjkfdjolhmgemaaGreatDoorRows
import Derived.Test.YtjkfdjolhmgemaaGreatDoorMrgB
import Derived.Lib.Hide
set_option linter.unusedSimpArgs false
set_option linter.unusedVariables false
/-
  Contracts of Lower and Same of package octet, for every text.
-/
section
namespace Go.Proofs.YtjkfdjolhmgemaaGreatDoor
open Go.RowKit

/-- What '[]byte(s)' makes. -/
theorem Row8.made (w : World) (s : ByteArray) (cap : Nat) (t : TypeId) : Row8 (w.alloc (.cells (bytesRow s cap) t ((bytesRow s cap).size, (bytesRow s cap).size + 1))) w.heap.size s.data.toList := by
  have hl : s.size = s.data.toList.length := Lib.size_eq s
  refine ⟨by simp, fun j hj => ?_, fun j hj => ?_⟩
  · rw [World.cell?_alloc_mark, bytesRow_at s cap j (by simpa using hj)]; simp
  · rw [World.frozen?_alloc_mark]
    have : ¬ (bytesRow s cap).size ≤ j := by
      have : s.data.size ≤ (bytesRow s cap).size := by unfold bytesRow; simp
      have : j < s.data.size := by simpa using hj
      omega
    simp [this]

theorem lower_any (s : ByteArray) (w : World) (hs : s.size ≤ maxLen) :
    Calls Tryz.prog 94 #[.string s] w fun e w' => e = .returned (.string (mkS (lowL s.data.toList))) ∧ Below w.heap.size w w' := by
  unfold maxLen at hs
  have kc := fun W => run_bytes_of_string (P := Tryz.prog) W 9 115 5 s Tryz.underlying9 Tryz.underlying115 Tryz.underlying5
  go_enter Tryz.func94, Tryz.ntmps94
  go_wp2
  clear kc
  have H0 := (Row8.made w s (grownCap w s.size 0 5) 5).below ((Below.refl _ _).drew)
  have hsz := Lib.hid (Lib.size_eq s)
  go_loopw [10] (fun i wr => ∃ k : Nat, k ≤ s.size ∧ i = .int .i64 k ∧ Row8 wr w.heap.size (lowK s.data.toList k) ∧ Below w.heap.size w wr) (fun i _ => s.size - (intOf i).toNat)
  case atStart => exact ⟨0, Nat.zero_le _, rfl, by rw [lowK_zero]; exact H0, ((Below.refl _ _).alloc (Nat.le_refl _) _).drew⟩
  case round =>
    clear H0
    obtain ⟨k, hk, rfl, hrow, hbel⟩ := hrel
    by_cases hlt : k < s.size
    · obtain ⟨hcell, hfree⟩ := hrow.at (lowK_at s k hlt)
      have hB := hrow.size
      have hbd := byte_wf s[k]
      have hlen : k < (lowK s.data.toList k).length := by rw [lowK_len, ← hsz.out]; exact hlt
      by_cases hin : rng 65 90 (s[k].toNat : Int) = true
      · have HI := Lib.hid hin
        have hr := rng_true.1 hin
        have HR := Lib.hid (lowU_yes s[k] hin)
        clear hin
        go_wp2_with (go_at_call 123; refine (span_any _ _ _).mono ?_; rintro e w' ⟨rfl, rfl⟩)
        refine (in_one 65 90 _ _ _ _ _ rfl ⟨wr.heap.size, wr.heap.size + 1, ?_, ?_, ?_⟩).mono ?_
        · go_simp
        · go_simp
        · go_simp
        rintro e w' ⟨he, rfl⟩
        rw [HI.out] at he
        subst he
        have hbx : Below wr.heap.size wr (((wr.alloc (.cells #[.int .u8 65] 5)).alloc (.cells #[.int .u8 90] 5)).alloc (.cells #[.func (.func 142) #[] #[.pointer (some ⟨wr.heap.size, 0, none⟩), .pointer (some ⟨wr.heap.size + 1, 0, none⟩)]] 136)) :=
          (((Below.refl _ _).alloc (Nat.le_refl _) _).alloc (by simp) _).alloc (by simp <;> omega) _
        obtain ⟨hc3, hf3⟩ := (hrow.below hbx).at (lowK_at s k hlt)
        have hrow2 := (hrow.below hbx).set k hlen (lowU s[k]) (n := (s[k].toNat : Int) + 32) HR.out.symm
        rw [← lowK_succ s k hlt] at hrow2
        have hbel2 := (hbel.trans (hbx.mono hbel.size)).setCell (p := ⟨w.heap.size, k, none⟩) (Nat.le_refl _) (.int .u8 ((s[k].toNat : Int) + 32))
        go_wp2
        go_roundw
        case rel => exact ⟨k + 1, by omega, by go_num, hrow2, hbel2⟩
        case measure => simp [intOf]; omega
      · have hin' : rng 65 90 (s[k].toNat : Int) = false := by simpa using hin
        have HI := Lib.hid hin'
        have HR := Lib.hid (lowU_no s[k] hin')
        clear hin hin'
        go_wp2_with (go_at_call 123; refine (span_any _ _ _).mono ?_; rintro e w' ⟨rfl, rfl⟩)
        refine (in_one 65 90 _ _ _ _ _ rfl ⟨wr.heap.size, wr.heap.size + 1, ?_, ?_, ?_⟩).mono ?_
        · go_simp
        · go_simp
        · go_simp
        rintro e w' ⟨he, rfl⟩
        rw [HI.out] at he
        subst he
        have hbx : Below wr.heap.size wr (((wr.alloc (.cells #[.int .u8 65] 5)).alloc (.cells #[.int .u8 90] 5)).alloc (.cells #[.func (.func 142) #[] #[.pointer (some ⟨wr.heap.size, 0, none⟩), .pointer (some ⟨wr.heap.size + 1, 0, none⟩)]] 136)) :=
          (((Below.refl _ _).alloc (Nat.le_refl _) _).alloc (by simp) _).alloc (by simp <;> omega) _
        have hrow2 := hrow.below hbx
        rw [← lowK_same s k hlt HR.out] at hrow2
        go_wp2
        go_roundw
        case rel => exact ⟨k + 1, by omega, by go_num, hrow2, hbel.trans (hbx.mono hbel.size)⟩
        case measure => simp [intOf]; omega
    · have hll : s.data.toList.length ≤ k := by rw [← hsz.out]; omega
      rw [lowK_full _ _ hll] at hrow
      have kb := run_convert_bytes_back (P := Tryz.prog) wr 115 9 5 ⟨w.heap.size, 0, none⟩ (grownCap w s.size 0 5) (lowL s.data.toList) Tryz.underlying115 Tryz.underlying5 Tryz.underlying9
        (fun j hj => by rw [addr_add]; exact hrow.cell j hj)
      rw [lowL_len, ← hsz.out] at kb
      clear hrow hll
      go_wp2
      go_ret
      exact ⟨rfl, hbel⟩

theorem same_any (a b : ByteArray) (w : World) (ha : a.size ≤ maxLen) (hb : b.size ≤ maxLen) :
    Calls Tryz.prog 68 #[.string a, .string b] w fun e w' => e = .returned (.bool (sameB a b)) ∧ Below w.heap.size w w' := by
  by_cases h : ((a.size : Int) == (b.size : Int)) = true
  · go_enter Tryz.func68, Tryz.ntmps68
    go_wp2_with fail
    refine (lower_any a _ ha).mono ?_
    rintro e w1 ⟨rfl, hb1⟩
    go_wp2_with fail
    refine (lower_any b _ hb).mono ?_
    rintro e w2 ⟨rfl, hb2⟩
    have hl := Lib.hid (same_list (lowL a.data.toList) (lowL b.data.toList))
    go_wp2
    go_ret
    exact ⟨ret_bool hl.out, hb1.trans (hb2.mono hb1.size)⟩
  · have h2 : ((a.size : Int) == (b.size : Int)) = false := by simpa using h
    have H : Hid (sameB a b = false) := by
      show _ = _
      cases hs : sameB a b with
      | false => rfl
      | true => exact absurd (same_len hs) (by simp at h2; omega)
    go_enter Tryz.func68, Tryz.ntmps68
    go_wp2_with fail
    go_ret
    exact ⟨by rw [H.out]; rfl, Below.refl _ _⟩

end Go.Proofs.YtjkfdjolhmgemaaGreatDoor
end

/-
  Contracts of the reference's Lower and Same (layer 1), for every text.
-/
section
namespace Go.Proofs.YtjkfdjolhmgemaaGreatDoor
open Go.RowKit

theorem r_lower (s : ByteArray) (w : World) (hs : s.size ≤ maxLen) :
    Calls Tryz.prog 95 #[.string s] w fun e w' => e = .returned (.string (mkS (lowL s.data.toList))) ∧ Below w.heap.size w w' := by
  unfold maxLen at hs
  have kc := fun W => run_bytes_of_string (P := Tryz.prog) W 9 115 5 s Tryz.underlying9 Tryz.underlying115 Tryz.underlying5
  go_enter Tryz.func95, Tryz.ntmps95
  go_wp2
  clear kc
  have H0 := (Row8.made w s (grownCap w s.size 0 5) 5).below ((Below.refl _ _).drew)
  have hsz := Lib.hid (Lib.size_eq s)
  go_loopw [4] (fun i wr => ∃ k : Nat, k ≤ s.size ∧ i = .int .i64 k ∧ Row8 wr w.heap.size (lowK s.data.toList k) ∧ Below w.heap.size w wr) (fun i _ => s.size - (intOf i).toNat)
  case atStart => exact ⟨0, Nat.zero_le _, rfl, by rw [lowK_zero]; exact H0, ((Below.refl _ _).alloc (Nat.le_refl _) _).drew⟩
  case round =>
    clear H0
    obtain ⟨k, hk, rfl, hrow, hbel⟩ := hrel
    by_cases hlt : k < s.size
    · obtain ⟨hcell, hfree⟩ := hrow.at (lowK_at s k hlt)
      have hlen : k < (lowK s.data.toList k).length := by rw [lowK_len, ← hsz.out]; exact hlt
      by_cases hin : rng 65 90 (s[k].toNat : Int) = true
      · have hr := rng_true.1 hin
        have hr1 := hr.1
        have hr2 := hr.2
        have hrow2 := hrow.set k hlen (lowU s[k]) (n := (s[k].toNat : Int) + 32) (lowU_yes s[k] hin).symm
        rw [← lowK_succ s k hlt] at hrow2
        have hbel2 := hbel.setCell (p := ⟨w.heap.size, k, none⟩) (Nat.le_refl _) (.int .u8 ((s[k].toNat : Int) + 32))
        clear hin hr
        go_wp2
        go_roundw
        case rel => exact ⟨k + 1, by omega, by go_num, hrow2, hbel2⟩
        case measure => simp [intOf]; omega
      · have hin' : rng 65 90 (s[k].toNat : Int) = false := by simpa using hin
        have hrow2 := hrow
        rw [← lowK_same s k hlt (lowU_no s[k] hin')] at hrow2
        have hr := rng_false.1 hin'
        clear hin hin'
        by_cases h65 : (65 : Int) ≤ (s[k].toNat : Int)
        · have h90 : ¬ (s[k].toNat : Int) ≤ 90 := fun h => hr ⟨h65, h⟩
          clear hr
          go_wp2
          go_roundw
          case rel => exact ⟨k + 1, by omega, by go_num, hrow2, hbel⟩
          case measure => simp [intOf]; omega
        · clear hr
          go_wp2
          go_roundw
          case rel => exact ⟨k + 1, by omega, by go_num, hrow2, hbel⟩
          case measure => simp [intOf]; omega
    · have hll : s.data.toList.length ≤ k := by rw [← hsz.out]; omega
      rw [lowK_full _ _ hll] at hrow
      have kb := run_convert_bytes_back (P := Tryz.prog) wr 115 9 5 ⟨w.heap.size, 0, none⟩ (grownCap w s.size 0 5) (lowL s.data.toList) Tryz.underlying115 Tryz.underlying5 Tryz.underlying9
        (fun j hj => by rw [addr_add]; exact hrow.cell j hj)
      rw [lowL_len, ← hsz.out] at kb
      clear hrow hll
      go_wp2
      go_ret
      exact ⟨rfl, hbel⟩

theorem r_same (a b : ByteArray) (w : World) (ha : a.size ≤ maxLen) (hb : b.size ≤ maxLen) :
    Calls Tryz.prog 69 #[.string a, .string b] w fun e w' => e = .returned (.bool (sameB a b)) ∧ Below w.heap.size w w' := by
  go_enter Tryz.func69, Tryz.ntmps69
  go_wp2_with fail
  refine (r_lower a _ ha).mono ?_
  rintro e w1 ⟨rfl, hb1⟩
  go_wp2_with fail
  refine (r_lower b _ hb).mono ?_
  rintro e w2 ⟨rfl, hb2⟩
  have hl := Lib.hid (same_list (lowL a.data.toList) (lowL b.data.toList))
  go_wp2
  go_ret
  exact ⟨ret_bool hl.out, hb1.trans (hb2.mono hb1.size)⟩

end Go.Proofs.YtjkfdjolhmgemaaGreatDoor
end

/-
  Contracts of the reference's calendar (layer 7): leap, long, year, Days, Civil, Weekday.
-/
section
namespace Go.Proofs.YtjkfdjolhmgemaaGreatDoor
open Go.RowKit

theorem tm_nat (m b : Nat) : (m : Int).tmod (b : Int) = ((m % b : Nat) : Int) := by
  rw [Int.tmod_eq_emod_of_nonneg (by omega)]; rfl
theorem tm_yes {m b : Nat} (h : m % b = 0) : (m : Int).tmod (b : Int) = 0 := by rw [tm_nat, h]; rfl
theorem tm_no {m b : Nat} (h : ¬ m % b = 0) : ¬ (m : Int).tmod (b : Int) = 0 := by rw [tm_nat]; omega

theorem r_leap (y : Nat) (w : World) :
    Calls Tryz.prog 163 #[.int .i64 y] w fun e w' => e = .returned (.bool (leapN y)) ∧ w = w' := by
  by_cases h4 : y % 4 = 0
  · have e4 : (y : Int).tmod 4 = 0 := tm_yes h4
    by_cases h100 : y % 100 = 0
    · have e100 : (y : Int).tmod 100 = 0 := tm_yes h100
      by_cases h400 : y % 400 = 0
      · have e400 : ((y : Int).tmod 400 == 0) = true := by rw [beq_iff_eq]; exact tm_yes h400
        have HL : Hid (leapN y = true) := by show _ = _; simp [leapN, h4, h100, h400]
        clear h4 h100 h400
        go_enter Tryz.func163, Tryz.ntmps163
        go_wp2
        go_ret
        exact ⟨by rw [HL.out]; exact congrArg (fun b => Ending.returned (.bool b)) e400, rfl⟩
      · have e400 : ((y : Int).tmod 400 == 0) = false := by rw [beq_eq_false_iff_ne]; exact tm_no h400
        have HL : Hid (leapN y = false) := by show _ = _; simp [leapN, h4, h100, h400]
        clear h4 h100 h400
        go_enter Tryz.func163, Tryz.ntmps163
        go_wp2
        go_ret
        exact ⟨by rw [HL.out]; exact congrArg (fun b => Ending.returned (.bool b)) e400, rfl⟩
    · have e100 : ¬ (y : Int).tmod 100 = 0 := tm_no h100
      have HL : Hid (leapN y = true) := by show _ = _; simp [leapN, h4, h100]
      clear h4 h100
      go_enter Tryz.func163, Tryz.ntmps163
      go_wp2
      go_ret
      exact ⟨by rw [HL.out]; rfl, rfl⟩
  · have e4 : ¬ (y : Int).tmod 4 = 0 := tm_no h4
    have HL : Hid (leapN y = false) := by show _ = _; simp [leapN, h4]
    clear h4
    go_enter Tryz.func163, Tryz.ntmps163
    go_wp2
    go_ret
    exact ⟨by rw [HL.out]; rfl, rfl⟩

theorem r_year (y : Nat) (w : World) :
    Calls Tryz.prog 139 #[.int .i64 y] w fun e w' => e = .returned (.int .i64 (yearN y)) ∧ w = w' := by
  rcases Bool.eq_false_or_eq_true (leapN y) with h | h
  · have HN : Hid (yearN y = 366) := by show _ = _; simp [yearN, h]
    have HL := Lib.hid h
    clear h
    go_enter Tryz.func139, Tryz.ntmps139
    go_wp2_with (go_at_call 163; refine (r_leap y _).mono ?_; rintro e w' ⟨he, rfl⟩; rw [HL.out] at he; subst he)
    go_ret
    exact ⟨by rw [HN.out]; rfl, rfl⟩
  · have HN : Hid (yearN y = 365) := by show _ = _; simp [yearN, h]
    have HL := Lib.hid h
    clear h
    go_enter Tryz.func139, Tryz.ntmps139
    go_wp2_with (go_at_call 163; refine (r_leap y _).mono ?_; rintro e w' ⟨he, rfl⟩; rw [HL.out] at he; subst he)
    go_ret
    exact ⟨by rw [HN.out]; rfl, rfl⟩

def longV : List Value := [.int .i64 31, .int .i64 28, .int .i64 31, .int .i64 30, .int .i64 31, .int .i64 30, .int .i64 31, .int .i64 31, .int .i64 30, .int .i64 31, .int .i64 30, .int .i64 31]
theorem longV_at : ∀ k : Nat, k < 12 → longV[k]? = some (.int .i64 ((longs.getD k 0 : Nat) : Int))
  | 0, _ | 1, _ | 2, _ | 3, _ | 4, _ | 5, _ | 6, _ | 7, _ | 8, _ | 9, _ | 10, _ | 11, _ => rfl
  | n + 12, h => by omega

theorem r_long (y m : Nat) (h0 : 1 ≤ m) (h1 : m ≤ 12) (w : World) :
    Calls Tryz.prog 138 #[.int .i64 y, .int .i64 m] w fun e w' => e = .returned (.int .i64 (longN y m)) ∧ Below w.heap.size w w' := by
  by_cases h2 : m = 2
  · subst h2
    rcases Bool.eq_false_or_eq_true (leapN y) with h | h
    · have HN : Hid (longN y 2 = 29) := by show _ = _; simp [longN, h]
      have HL := Lib.hid h
      clear h
      go_enter Tryz.func138, Tryz.ntmps138
      go_wp2_with (go_at_call 163; refine (r_leap y _).mono ?_; rintro e w' ⟨he, rfl⟩; rw [HL.out] at he; subst he)
      go_ret
      exact ⟨by rw [HN.out]; rfl, Below.refl _ _⟩
    · have HN : Hid (longN y 2 = 28) := by show _ = _; simp [longN, h, longs]
      have HL := Lib.hid h
      clear h
      go_enter Tryz.func138, Tryz.ntmps138
      go_wp2_with (go_at_call 163; refine (r_leap y _).mono ?_; rintro e w' ⟨he, rfl⟩; rw [HL.out] at he; subst he)
      go_ret
      exact ⟨by rw [HN.out]; rfl, (Below.refl _ _).alloc (Nat.le_refl _) _⟩
  · have HN : Hid (longN y m = longs.getD (m - 1) 0) := by show _ = _; simp [longN, h2]
    have h2b : ((m : Int) == 2) = false := by rw [beq_eq_false_iff_ne]; omega
    obtain ⟨V, hV⟩ : ∃ V : Nat, V = longs.getD (m - 1) 0 := ⟨_, rfl⟩
    have ht := longV_at (m - 1) (by omega)
    unfold longV at ht
    rw [← hV] at ht HN
    clear h2 hV
    go_enter Tryz.func138, Tryz.ntmps138
    go_wp2
    go_ret
    exact ⟨by rw [HN.out]; rfl, (Below.refl _ _).alloc (Nat.le_refl _) _⟩

/-- Is there such a date, and which day is it? -/
def ValidI (y m d : Int) : Prop := 1970 ≤ y ∧ y ≤ 9999 ∧ 1 ≤ m ∧ m ≤ 12 ∧ 1 ≤ d ∧ d ≤ (longN y.toNat m.toNat : Int)
instance (y m d : Int) : Decidable (ValidI y m d) := by unfold ValidI; infer_instance
def dayB (y m d : Int) : Bool := decide (ValidI y m d)
def dayV (y m d : Int) : Int := if ValidI y m d then (daysN y.toNat m.toNat d.toNat : Int) else 0
theorem day_no {y m d : Int} (h : ¬ ValidI y m d) : dayV y m d = 0 ∧ dayB y m d = false := by simp [dayV, dayB, h]
theorem day_yes {y m d : Int} (h : ValidI y m d) : dayV y m d = (daysN y.toNat m.toNat d.toNat : Int) ∧ dayB y m d = true := by simp [dayV, dayB, h]
theorem ValidI.nat {y m d : Int} (h : ValidI y m d) : Valid y.toNat m.toNat d.toNat := by
  obtain ⟨h1, h2, h3, h4, h5, h6⟩ := h
  exact ⟨by omega, by omega, by omega, by omega, by omega, by omega⟩

theorem ysum_bd (n : Nat) : ysum n ≤ 366 * n := by
  induction n with
  | zero => exact Nat.le_refl _
  | succ n ih =>
    have := yearN_cs (1970 + n)
    rw [ysum_succ]; omega

set_option maxHeartbeats 1000000 in
theorem r_days (y m d : Int) (hy : -9223372036854775808 ≤ y ∧ y ≤ 9223372036854775807) (hm : -9223372036854775808 ≤ m ∧ m ≤ 9223372036854775807) (hd : -9223372036854775808 ≤ d ∧ d ≤ 9223372036854775807) (w : World) :
    Calls Tryz.prog 114 #[.int .i64 y, .int .i64 m, .int .i64 d] w fun e w' => e = .returned (.tuple #[.int .i64 (dayV y m d), .bool (dayB y m d)]) ∧ Below w.heap.size w w' := by
  by_cases k1 : y < 1970
  · have HR := Lib.hid (day_no (y := y) (m := m) (d := d) (fun h => by have := h.1; omega))
    go_enter Tryz.func114, Tryz.ntmps114
    go_wp2_with fail
    go_ret2
    exact ⟨by rw [HR.out.1, HR.out.2]; rfl, Below.refl _ _⟩
  by_cases k2 : 9999 < y
  · have HR := Lib.hid (day_no (y := y) (m := m) (d := d) (fun h => by have := h.2.1; omega))
    go_enter Tryz.func114, Tryz.ntmps114
    go_wp2_with fail
    go_ret2
    exact ⟨by rw [HR.out.1, HR.out.2]; rfl, Below.refl _ _⟩
  by_cases k3 : m < 1
  · have HR := Lib.hid (day_no (y := y) (m := m) (d := d) (fun h => by have := h.2.2.1; omega))
    go_enter Tryz.func114, Tryz.ntmps114
    go_wp2_with fail
    go_ret2
    exact ⟨by rw [HR.out.1, HR.out.2]; rfl, Below.refl _ _⟩
  by_cases k4 : 12 < m
  · have HR := Lib.hid (day_no (y := y) (m := m) (d := d) (fun h => by have := h.2.2.2.1; omega))
    go_enter Tryz.func114, Tryz.ntmps114
    go_wp2_with fail
    go_ret2
    exact ⟨by rw [HR.out.1, HR.out.2]; rfl, Below.refl _ _⟩
  by_cases k5 : d < 1
  · have HR := Lib.hid (day_no (y := y) (m := m) (d := d) (fun h => by have := h.2.2.2.2.1; omega))
    go_enter Tryz.func114, Tryz.ntmps114
    go_wp2_with fail
    go_ret2
    exact ⟨by rw [HR.out.1, HR.out.2]; rfl, Below.refl _ _⟩
  obtain ⟨Y, rfl⟩ := Int.eq_ofNat_of_zero_le (show 0 ≤ y by omega)
  obtain ⟨M, rfl⟩ := Int.eq_ofNat_of_zero_le (show 0 ≤ m by omega)
  have hb := long_bd Y M (by omega) (by omega)
  by_cases k6 : (longN Y M : Int) < d
  · have HR := Lib.hid (day_no (y := Y) (m := M) (d := d) (fun h => by have := h.2.2.2.2.2; simp only [Int.toNat_natCast] at this; omega))
    go_enter Tryz.func114, Tryz.ntmps114
    go_wp2_with (go_at_call 138; refine (r_long Y M (by omega) (by omega) _).mono ?_; rintro e w1 ⟨rfl, hb1⟩)
    go_ret2
    exact ⟨by rw [HR.out.1, HR.out.2]; rfl, hb1⟩
  obtain ⟨D, rfl⟩ := Int.eq_ofNat_of_zero_le (show 0 ≤ d by omega)
  have HR := day_yes (y := Y) (m := M) (d := D) ⟨by omega, by omega, by omega, by omega, by omega, by simp only [Int.toNat_natCast]; omega⟩
  simp only [Int.toNat_natCast] at HR
  have HR := Lib.hid HR
  go_enter Tryz.func114, Tryz.ntmps114
  go_wp2_with (go_at_call 138; refine (r_long Y M (by omega) (by omega) _).mono ?_; rintro e w1 ⟨rfl, hb1⟩)
  have HB := Lib.hid hb1
  clear hb1
  have hdc : decide (longN Y M < D) = false := decide_eq_false (by omega)
  rw [hdc]
  clear hdc
  go_loopw [8, 9] (fun n k wr => ∃ j S : Nat, j ≤ Y - 1970 ∧ S ≤ 31 + 366 * j ∧ k = .int .i64 ((1970 + j : Nat) : Int) ∧ n = .int .i64 (S : Int) ∧ Hid (S = D - 1 + ysum j) ∧ Below w.heap.size w wr) (fun _ k _ => Y - (intOf k).toNat)
  case atStart => exact ⟨0, D - 1, by omega, by omega, rfl, by rw [show ((D - 1 : Nat) : Int) = (D : Int) - 1 by omega], rfl, HB.out⟩
  case round =>
    clear HB
    obtain ⟨j, S, hj, hS, rfl, rfl, hf, hbw⟩ := hrel
    by_cases hlt : j < Y - 1970
    · have hc : ((1970 + j : Nat) : Int) < (Y : Int) := by omega
      have HN : Hid (S + yearN (1970 + j) = D - 1 + ysum (j + 1)) := by
        show _ = _
        rw [hf.out, ysum_succ]; omega
      have hyn := yearN_cs (1970 + j)
      have hyr := fun W => r_year (1970 + j) W
      generalize yearN (1970 + j) = Z at *
      have HY := Lib.hid hyr
      clear hyr hf
      obtain ⟨K, hK⟩ : ∃ K, K = 1970 + j := ⟨_, rfl⟩
      rw [← hK] at hc HY
      have hKi : ((1970 + j : Nat) : Int) = (K : Int) := by omega
      rw [hKi]
      go_wp2_with (go_at_call 139; refine (HY.out _).mono ?_; rintro e w' ⟨rfl, rfl⟩)
      go_roundw
      case rel => exact ⟨j + 1, S + Z, by omega, by omega, by go_num, by go_num, HN, hbw⟩
      case measure => simp [intOf]; omega
    · have hc : ¬ ((1970 + j : Nat) : Int) < (Y : Int) := by omega
      have hKi : ((1970 + j : Nat) : Int) = (Y : Int) := by omega
      have hfe : Hid (S = D - 1 + ysum (Y - 1970)) := by
        show _ = _
        rw [hf.out, show j = Y - 1970 by omega]
      rw [hKi]
      clear hc hKi hf
      have hS2 : S ≤ 3000000 := by omega
      go_wp2_with fail
      go_loopw [8, 10] (fun n k wr => ∃ j T : Nat, j ≤ M - 1 ∧ T ≤ S + 31 * j ∧ k = .int .i64 ((1 + j : Nat) : Int) ∧ n = .int .i64 (T : Int) ∧ Hid (T = S + msum Y j) ∧ Below w.heap.size w wr) (fun _ k _ => M - (intOf k).toNat)
      case atStart => exact ⟨0, S, by omega, by omega, rfl, rfl, rfl, hbw⟩
      case round =>
        obtain ⟨j, T, hj, hT, rfl, rfl, hg, hbel⟩ := hrel
        by_cases hlt : j < M - 1
        · have hc : ((1 + j : Nat) : Int) < (M : Int) := by omega
          have HN : Hid (T + longN Y (1 + j) = S + msum Y (j + 1)) := by
            show _ = _
            rw [hg.out, msum_succ, Nat.add_comm 1 j]; omega
          have hyn := (long_bd Y (1 + j) (by omega) (by omega)).2
          have hyr := fun W => r_long Y (1 + j) (by omega) (by omega) W
          generalize longN Y (1 + j) = Z at *
          have HY := Lib.hid hyr
          clear hyr hg
          obtain ⟨K, hK⟩ : ∃ K, K = 1 + j := ⟨_, rfl⟩
          rw [← hK] at hc HY
          have hKi : ((1 + j : Nat) : Int) = (K : Int) := by omega
          rw [hKi]
          go_wp2_with (go_at_call 138; refine (HY.out _).mono ?_; rintro e w2 ⟨rfl, hb2⟩)
          go_roundw
          case rel => exact ⟨j + 1, T + Z, by omega, by omega, by go_num, by go_num, HN, hbel.trans (hb2.mono hbel.size)⟩
          case measure => simp [intOf]; omega
        · have HF : Hid (T = daysN Y M D) := by
            show _ = _
            unfold daysN
            rw [hg.out, hfe.out, show j = M - 1 by omega]; omega
          have hc : ¬ ((1 + j : Nat) : Int) < (M : Int) := by omega
          have hKi : ((1 + j : Nat) : Int) = (M : Int) := by omega
          rw [hKi]
          clear hc hKi hg
          go_wp2_with fail
          go_ret2
          exact ⟨by rw [HR.out.1, HR.out.2, ← HF.out]; rfl, hbel⟩

end Go.Proofs.YtjkfdjolhmgemaaGreatDoor
end

/-
  Contracts of the reference's Civil and Weekday (layer 7).
-/
section
namespace Go.Proofs.YtjkfdjolhmgemaaGreatDoor
open Go.RowKit


def civB (n : Int) : Bool := decide (0 ≤ n ∧ n ≤ 2932896)
def civ1 (n : Int) : Int := if civB n then ((civ n.toNat).1 : Int) else 0
def civ2 (n : Int) : Int := if civB n then ((civ n.toNat).2.1 : Int) else 0
def civ3 (n : Int) : Int := if civB n then ((civ n.toNat).2.2 : Int) else 0
theorem civ_no {n : Int} (h : ¬ (0 ≤ n ∧ n ≤ 2932896)) : civ1 n = 0 ∧ civ2 n = 0 ∧ civ3 n = 0 ∧ civB n = false := by
  have e : civB n = false := by simp [civB]; omega
  simp [civ1, civ2, civ3, e]
theorem civ_is {y m d n : Nat} (h : IsDate y m d n) (hn : n ≤ 2932896) : civ1 n = y ∧ civ2 n = m ∧ civ3 n = d ∧ civB n = true := by
  have e : civB n = true := by simp [civB]; omega
  simp [civ1, civ2, civ3, e, civ_of h hn]

theorem year_lt {Y R n : Nat} (h : ysum (Y - 1970) + R = n) (hn : n ≤ 2932896) : Y - 1970 < 8030 := by
  refine Classical.byContradiction fun hc => ?_
  have := ysum_le (show 8030 ≤ Y - 1970 by omega)
  rw [ysum_all] at this
  omega
theorem month_le {y m r R : Nat} (h : msum y (m - 1) + r = R) (hR : R < yearN y) : m ≤ 12 := by
  refine Classical.byContradiction fun hc => ?_
  have := msum_le (y := y) (show 12 ≤ m - 1 by omega)
  rw [msum_year] at this
  omega

set_option maxHeartbeats 1000000 in
theorem r_civil (n : Int) (w : World) :
    Calls Tryz.prog 116 #[.int .i64 n] w fun e w' => e = .returned (.tuple #[.int .i64 (civ1 n), .int .i64 (civ2 n), .int .i64 (civ3 n), .bool (civB n)]) ∧ Below w.heap.size w w' := by
  by_cases h0 : n < 0
  · have HR := Lib.hid (civ_no (n := n) (fun h => by omega))
    go_enter Tryz.func116, Tryz.ntmps116
    go_wp2_with fail
    (try simp only [Exit.inBlock, Exit.then]); refine bodyPost_ret (results_tmp4 rfl _ _ _) rfl ?_
    exact ⟨by rw [HR.out.1, HR.out.2.1, HR.out.2.2.1, HR.out.2.2.2]; rfl, Below.refl _ _⟩
  by_cases h1 : 2932896 < n
  · have HR := Lib.hid (civ_no (n := n) (fun h => by omega))
    go_enter Tryz.func116, Tryz.ntmps116
    go_wp2_with fail
    (try simp only [Exit.inBlock, Exit.then]); refine bodyPost_ret (results_tmp4 rfl _ _ _) rfl ?_
    exact ⟨by rw [HR.out.1, HR.out.2.1, HR.out.2.2.1, HR.out.2.2.2]; rfl, Below.refl _ _⟩
  obtain ⟨N, rfl⟩ := Int.eq_ofNat_of_zero_le (show 0 ≤ n by omega)
  have hN : N ≤ 2932896 := by omega
  go_enter Tryz.func116, Tryz.ntmps116
  go_wp2_with fail
  have hd1 : decide ((N : Int) < 0) = false := decide_eq_false (by omega)
  have hd2 : decide (2932896 < (N : Int)) = false := decide_eq_false (by omega)
  try rw [hd1]
  try rw [hd2]
  clear hd1 hd2
  go_loopw [0, 6] (fun d y wr => ∃ Y R : Nat, 1970 ≤ Y ∧ d = .int .i64 (R : Int) ∧ y = .int .i64 (Y : Int) ∧ Hid (ysum (Y - 1970) + R = N) ∧ Below w.heap.size w wr) (fun d _ _ => (intOf d).toNat)
  case atStart => exact ⟨1970, N, by omega, rfl, rfl, by show _ = _; simp [ysum], Below.refl _ _⟩
  case round =>
    obtain ⟨Y, R, hY, rfl, rfl, hf, hbel⟩ := hrel
    have hYl := year_lt hf.out hN
    have hR : R ≤ 2932896 := by have := hf.out; omega
    have hyr := fun W => r_year Y W
    have hyc := yearN_cs Y
    obtain ⟨Z, hZ⟩ : ∃ Z, Z = yearN Y := ⟨_, rfl⟩
    rw [← hZ] at hyr hyc
    have HY := Lib.hid hyr
    have HZ := Lib.hid hZ
    clear hyr hZ
    by_cases hle : Z ≤ R
    · have HN : Hid (ysum (Y + 1 - 1970) + (R - Z) = N) := by
        show _ = _
        rw [show Y + 1 - 1970 = Y - 1970 + 1 by omega, ysum_succ, show 1970 + (Y - 1970) = Y by omega, ← HZ.out, ← hf.out]
        omega
      clear hf
      go_wp2_with (go_at_call 139; refine (HY.out _).mono ?_; rintro e w' ⟨rfl, rfl⟩)
      go_roundw
      case rel => exact ⟨Y + 1, R - Z, by omega, by go_num, by go_num, HN, hbel⟩
      case measure => simp [intOf]; omega
    · have hlt : R < Z := by omega
      go_wp2_with (go_at_call 139; refine (HY.out _).mono ?_; rintro e w' ⟨rfl, rfl⟩)
      go_loopw [0, 7] (fun d m wx => ∃ M T : Nat, 1 ≤ M ∧ d = .int .i64 (T : Int) ∧ m = .int .i64 (M : Int) ∧ Hid (msum Y (M - 1) + T = R) ∧ Below w.heap.size w wx) (fun d _ _ => (intOf d).toNat)
      case atStart => exact ⟨1, R, by omega, rfl, rfl, by show _ = _; simp [msum], hbel⟩
      case round =>
        clear hbel
        obtain ⟨M, T, hM, rfl, rfl, hg, hbel⟩ := hrel
        have hM2 := month_le (y := Y) hg.out (by rw [← HZ.out]; exact hlt)
        have hT : T ≤ R := by have := hg.out; omega
        have hlr := fun W => r_long Y M hM hM2 W
        have hlb := long_bd Y M hM hM2
        obtain ⟨X, hX⟩ : ∃ X, X = longN Y M := ⟨_, rfl⟩
        rw [← hX] at hlr hlb
        have HL := Lib.hid hlr
        have HX := Lib.hid hX
        clear hlr hX
        by_cases hle2 : X ≤ T
        · have HN : Hid (msum Y (M + 1 - 1) + (T - X) = R) := by
            show _ = _
            rw [show M + 1 - 1 = M - 1 + 1 by omega, msum_succ, show M - 1 + 1 = M by omega, ← HX.out, ← hg.out]
            omega
          clear hg
          go_wp2_with fail
          refine (HL.out _).mono ?_
          rintro e w2 ⟨rfl, hb2⟩
          have hbel := hbel.trans (hb2.mono hbel.size)
          clear hb2
          go_wp2_with fail
          refine (HL.out _).mono ?_
          rintro e w3 ⟨rfl, hb3⟩
          have hbel := hbel.trans (hb3.mono hbel.size)
          clear hb3
          go_wp2_with fail
          go_roundw
          case rel => exact ⟨M + 1, T - X, by omega, by go_num, by go_num, HN, hbel⟩
          case measure => simp [intOf]; omega
        · have HF := Lib.hid (civ_is (y := Y) (m := M) (d := T + 1) (n := N) ⟨⟨hY, by omega, hM, hM2, by omega, by rw [← HX.out]; omega⟩, by unfold daysN; rw [← hf.out, ← hg.out]; omega⟩ hN)
          clear hf hg
          go_wp2_with (go_at_call 138; refine (HL.out _).mono ?_; rintro e w2 ⟨rfl, hb2⟩)
          (try simp only [Exit.inBlock, Exit.then]); refine bodyPost_ret (results_tmp4 rfl _ _ _) rfl ?_
          exact ⟨by rw [HF.out.1, HF.out.2.1, HF.out.2.2.1, HF.out.2.2.2]; rfl, hbel.trans (hb2.mono hbel.size)⟩

theorem r_weekday (n : Int) (h1 : n ≤ 9223372036854775807) (w : World) :
    Calls Tryz.prog 118 #[.int .i64 n] w fun e w' => e = .returned (.int .i64 (wdN n)) ∧ w = w' := by
  by_cases h0 : n < 0
  · have HR : Hid (wdN n = 0) := by show _ = _; simp [wdN, h0]
    go_enter Tryz.func118, Tryz.ntmps118
    go_wp2_with fail
    go_ret
    exact ⟨by rw [HR.out]; rfl, rfl⟩
  · obtain ⟨N, rfl⟩ := Int.eq_ofNat_of_zero_le (show 0 ≤ n by omega)
    have HR : Hid (wdN (N : Int) = ((N : Int) + 4) % 7) := by
      show _ = _
      unfold wdN
      rw [if_neg (by omega)]
      omega
    go_enter Tryz.func118, Tryz.ntmps118
    go_wp2_with fail
    go_ret
    exact ⟨by rw [HR.out]; rfl, rfl⟩

end Go.Proofs.YtjkfdjolhmgemaaGreatDoor
end
