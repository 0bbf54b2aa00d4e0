/-
  Texts that the laws of this seat lean on, one behind the other.
-/
import Derived.Test.YtnembpklidcgoaaGreatDoorMrgI
import Derived.Test.YtnembpklidcgoaaGreatDoorMrgA
import Derived.WalkSmall
import Derived.Test.YtnembpklidcgoaaGreatDoorMrgD
import Derived.Test.YtnembpklidcgoaaGreatDoorRows
import Derived.Test.YtnembpklidcgoaaGreatDoorMrgB
import Derived.Lib.Hide
/-
  Contracts of Lower and Same of package octet, for every text.
-/
section
namespace Go.Proofs.YtnembpklidcgoaaGreatDoor
open Go.RowKit

/-- What '[]byte(s)' makes. -/
theorem Row8.made (w : World) (s : ByteArray) (cap : Nat) (t : TypeId) : Row8 (w.alloc (.cells (bytesRow s cap) t ((bytesRow s cap).size, (bytesRow s cap).size + 1))) w.heap.size s.data.toList := by
  have hl : s.size = s.data.toList.length := Lib.size_eq s
  refine ⟨by simp, fun j hj => ?_, fun j hj => ?_⟩
  · rw [World.cell?_alloc_mark, bytesRow_at s cap j (by simpa using hj)]; simp
  · rw [World.frozen?_alloc_mark]
    have : ¬ (bytesRow s cap).size ≤ j := by
      have : s.data.size ≤ (bytesRow s cap).size := by unfold bytesRow; simp
      have : j < s.data.size := by simpa using hj
      omega
    simp [this]

theorem lower_any (s : ByteArray) (w : World) (hs : s.size ≤ maxLen) :
    Calls Tryz.prog 154 #[.string s] w fun e w' => e = .returned (.string (mkS (lowL s.data.toList))) ∧ Below w.heap.size w w' := by
  unfold maxLen at hs
  have kc := fun W => run_bytes_of_string (P := Tryz.prog) W 9 127 5 s Tryz.underlying9 Tryz.underlying127 Tryz.underlying5
  go_enter Tryz.func154, Tryz.ntmps154
  go_wp2
  clear kc
  have H0 := (Row8.made w s (grownCap w s.size 0 5) 5).below ((Below.refl _ _).drew)
  have hsz := Lib.hid (Lib.size_eq s)
  go_loopw [10] (fun i wr => ∃ k : Nat, k ≤ s.size ∧ i = .int .i64 k ∧ Row8 wr w.heap.size (lowK s.data.toList k) ∧ Below w.heap.size w wr) (fun i _ => s.size - (intOf i).toNat)
  case atStart => exact ⟨0, Nat.zero_le _, rfl, by rw [lowK_zero]; exact H0, ((Below.refl _ _).alloc (Nat.le_refl _) _).drew⟩
  case round =>
    clear H0
    obtain ⟨k, hk, rfl, hrow, hbel⟩ := hrel
    by_cases hlt : k < s.size
    · obtain ⟨hcell, hfree⟩ := hrow.at (lowK_at s k hlt)
      have hB := hrow.size
      have hbd := byte_wf s[k]
      have hlen : k < (lowK s.data.toList k).length := by rw [lowK_len, ← hsz.out]; exact hlt
      by_cases hin : rng 65 90 (s[k].toNat : Int) = true
      · have HI := Lib.hid hin
        have hr := rng_true.1 hin
        have HR := Lib.hid (lowU_yes s[k] hin)
        clear hin
        go_wp2_with (go_at_call 194; refine (span_any _ _ _).mono ?_; rintro e w' ⟨rfl, rfl⟩)
        refine (in_one 65 90 _ _ _ _ _ rfl ⟨wr.heap.size, wr.heap.size + 1, ?_, ?_, ?_⟩).mono ?_
        · go_simp
        · go_simp
        · go_simp
        rintro e w' ⟨he, rfl⟩
        rw [HI.out] at he
        subst he
        have hbx : Below wr.heap.size wr (((wr.alloc (.cells #[.int .u8 65] 5)).alloc (.cells #[.int .u8 90] 5)).alloc (.cells #[.func (.func 225) #[] #[.pointer (some ⟨wr.heap.size, 0, none⟩), .pointer (some ⟨wr.heap.size + 1, 0, none⟩)]] 172)) :=
          (((Below.refl _ _).alloc (Nat.le_refl _) _).alloc (by simp) _).alloc (by simp <;> omega) _
        obtain ⟨hc3, hf3⟩ := (hrow.below hbx).at (lowK_at s k hlt)
        have hrow2 := (hrow.below hbx).set k hlen (lowU s[k]) (n := (s[k].toNat : Int) + 32) HR.out.symm
        rw [← lowK_succ s k hlt] at hrow2
        have hbel2 := (hbel.trans (hbx.mono hbel.size)).setCell (p := ⟨w.heap.size, k, none⟩) (Nat.le_refl _) (.int .u8 ((s[k].toNat : Int) + 32))
        go_wp2
        go_roundw
        case rel => exact ⟨k + 1, by omega, by go_num, hrow2, hbel2⟩
        case measure => simp [intOf]; omega
      · have hin' : rng 65 90 (s[k].toNat : Int) = false := by simpa using hin
        have HI := Lib.hid hin'
        have HR := Lib.hid (lowU_no s[k] hin')
        clear hin hin'
        go_wp2_with (go_at_call 194; refine (span_any _ _ _).mono ?_; rintro e w' ⟨rfl, rfl⟩)
        refine (in_one 65 90 _ _ _ _ _ rfl ⟨wr.heap.size, wr.heap.size + 1, ?_, ?_, ?_⟩).mono ?_
        · go_simp
        · go_simp
        · go_simp
        rintro e w' ⟨he, rfl⟩
        rw [HI.out] at he
        subst he
        have hbx : Below wr.heap.size wr (((wr.alloc (.cells #[.int .u8 65] 5)).alloc (.cells #[.int .u8 90] 5)).alloc (.cells #[.func (.func 225) #[] #[.pointer (some ⟨wr.heap.size, 0, none⟩), .pointer (some ⟨wr.heap.size + 1, 0, none⟩)]] 172)) :=
          (((Below.refl _ _).alloc (Nat.le_refl _) _).alloc (by simp) _).alloc (by simp <;> omega) _
        have hrow2 := hrow.below hbx
        rw [← lowK_same s k hlt HR.out] at hrow2
        go_wp2
        go_roundw
        case rel => exact ⟨k + 1, by omega, by go_num, hrow2, hbel.trans (hbx.mono hbel.size)⟩
        case measure => simp [intOf]; omega
    · have hll : s.data.toList.length ≤ k := by rw [← hsz.out]; omega
      rw [lowK_full _ _ hll] at hrow
      have kb := run_convert_bytes_back (P := Tryz.prog) wr 127 9 5 ⟨w.heap.size, 0, none⟩ (grownCap w s.size 0 5) (lowL s.data.toList) Tryz.underlying127 Tryz.underlying5 Tryz.underlying9
        (fun j hj => by rw [addr_add]; exact hrow.cell j hj)
      rw [lowL_len, ← hsz.out] at kb
      clear hrow hll
      go_wp2
      go_ret
      exact ⟨rfl, hbel⟩

theorem same_any (a b : ByteArray) (w : World) (ha : a.size ≤ maxLen) (hb : b.size ≤ maxLen) :
    Calls Tryz.prog 124 #[.string a, .string b] w fun e w' => e = .returned (.bool (sameB a b)) ∧ Below w.heap.size w w' := by
  by_cases h : ((a.size : Int) == (b.size : Int)) = true
  · go_enter Tryz.func124, Tryz.ntmps124
    go_wp2_with fail
    refine (lower_any a _ ha).mono ?_
    rintro e w1 ⟨rfl, hb1⟩
    go_wp2_with fail
    refine (lower_any b _ hb).mono ?_
    rintro e w2 ⟨rfl, hb2⟩
    have hl := Lib.hid (same_list (lowL a.data.toList) (lowL b.data.toList))
    go_wp2
    go_ret
    exact ⟨ret_bool hl.out, hb1.trans (hb2.mono hb1.size)⟩
  · have h2 : ((a.size : Int) == (b.size : Int)) = false := by simpa using h
    have H : Hid (sameB a b = false) := by
      show _ = _
      cases hs : sameB a b with
      | false => rfl
      | true => exact absurd (same_len hs) (by simp at h2; omega)
    go_enter Tryz.func124, Tryz.ntmps124
    go_wp2_with fail
    go_ret
    exact ⟨by rw [H.out]; rfl, Below.refl _ _⟩

end Go.Proofs.YtnembpklidcgoaaGreatDoor
end

/-
  Contracts of the reference's Lower and Same (layer 1), for every text.
-/
section
namespace Go.Proofs.YtnembpklidcgoaaGreatDoor
open Go.RowKit

end Go.Proofs.YtnembpklidcgoaaGreatDoor
end

/-
  Contracts of the reference's calendar (layer 7): leap, long, year, Days, Civil, Weekday.
-/
section
namespace Go.Proofs.YtnembpklidcgoaaGreatDoor
open Go.RowKit

def longV : List Value := [.int .i64 31, .int .i64 28, .int .i64 31, .int .i64 30, .int .i64 31, .int .i64 30, .int .i64 31, .int .i64 31, .int .i64 30, .int .i64 31, .int .i64 30, .int .i64 31]
/-- Is there such a date, and which day is it? -/
def ValidI (y m d : Int) : Prop := 1970 ≤ y ∧ y ≤ 9999 ∧ 1 ≤ m ∧ m ≤ 12 ∧ 1 ≤ d ∧ d ≤ (longN y.toNat m.toNat : Int)
instance (y m d : Int) : Decidable (ValidI y m d) := by unfold ValidI; infer_instance
def dayB (y m d : Int) : Bool := decide (ValidI y m d)
def dayV (y m d : Int) : Int := if ValidI y m d then (daysN y.toNat m.toNat d.toNat : Int) else 0
theorem day_no {y m d : Int} (h : ¬ ValidI y m d) : dayV y m d = 0 ∧ dayB y m d = false := by simp [dayV, dayB, h]
theorem day_yes {y m d : Int} (h : ValidI y m d) : dayV y m d = (daysN y.toNat m.toNat d.toNat : Int) ∧ dayB y m d = true := by simp [dayV, dayB, h]
theorem ValidI.nat {y m d : Int} (h : ValidI y m d) : Valid y.toNat m.toNat d.toNat := by
  obtain ⟨h1, h2, h3, h4, h5, h6⟩ := h
  exact ⟨by omega, by omega, by omega, by omega, by omega, by omega⟩

theorem ysum_bd (n : Nat) : ysum n ≤ 366 * n := by
  induction n with
  | zero => exact Nat.le_refl _
  | succ n ih =>
    have := yearN_cs (1970 + n)
    rw [ysum_succ]; omega

end Go.Proofs.YtnembpklidcgoaaGreatDoor
end

/-
  Contracts of the reference's Civil and Weekday (layer 7).
-/
section
namespace Go.Proofs.YtnembpklidcgoaaGreatDoor
open Go.RowKit


def civB (n : Int) : Bool := decide (0 ≤ n ∧ n ≤ 2932896)
def civ1 (n : Int) : Int := if civB n then ((civ n.toNat).1 : Int) else 0
def civ2 (n : Int) : Int := if civB n then ((civ n.toNat).2.1 : Int) else 0
def civ3 (n : Int) : Int := if civB n then ((civ n.toNat).2.2 : Int) else 0
theorem civ_no {n : Int} (h : ¬ (0 ≤ n ∧ n ≤ 2932896)) : civ1 n = 0 ∧ civ2 n = 0 ∧ civ3 n = 0 ∧ civB n = false := by
  have e : civB n = false := by simp [civB]; omega
  simp [civ1, civ2, civ3, e]
theorem civ_is {y m d n : Nat} (h : IsDate y m d n) (hn : n ≤ 2932896) : civ1 n = y ∧ civ2 n = m ∧ civ3 n = d ∧ civB n = true := by
  have e : civB n = true := by simp [civB]; omega
  simp [civ1, civ2, civ3, e, civ_of h hn]

theorem year_lt {Y R n : Nat} (h : ysum (Y - 1970) + R = n) (hn : n ≤ 2932896) : Y - 1970 < 8030 := by
  refine Classical.byContradiction fun hc => ?_
  have := ysum_le (show 8030 ≤ Y - 1970 by omega)
  rw [ysum_all] at this
  omega
theorem month_le {y m r R : Nat} (h : msum y (m - 1) + r = R) (hR : R < yearN y) : m ≤ 12 := by
  refine Classical.byContradiction fun hc => ?_
  have := msum_le (y := y) (show 12 ≤ m - 1 by omega)
  rw [msum_year] at this
  omega

end Go.Proofs.YtnembpklidcgoaaGreatDoor
end
