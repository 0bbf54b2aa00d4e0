/-
  Texts that the laws of this seat lean on, one behind the other.
-/
import Derived.Test.YthhlcecojeaalaaDoorMrgL
import Derived.Test.YthhlcecojeaalaaDoorMrgA
import Derived.WalkSmall
import Derived.Test.YthhlcecojeaalaaDoorMrgE
import Derived.Test.YthhlcecojeaalaaDoorRows
import Derived.Test.YthhlcecojeaalaaDoorMrgC
import Derived.Lib.Hide
set_option linter.unusedSimpArgs false
set_option linter.unusedVariables false
/-
  Contracts of Lower and Same of package octet, for every text.
-/
section
namespace Go.Proofs.YthhlcecojeaalaaDoor
open Go.RowKit

/-- What '[]byte(s)' makes. -/
theorem Row8.made (w : World) (s : ByteArray) (cap : Nat) (t : TypeId) : Row8 (w.alloc (.cells (bytesRow s cap) t ((bytesRow s cap).size, (bytesRow s cap).size + 1))) w.heap.size s.data.toList := by
  have hl : s.size = s.data.toList.length := Lib.size_eq s
  refine ⟨by simp, fun j hj => ?_, fun j hj => ?_⟩
  · rw [World.cell?_alloc_mark, bytesRow_at s cap j (by simpa using hj)]; simp
  · rw [World.frozen?_alloc_mark]
    have : ¬ (bytesRow s cap).size ≤ j := by
      have : s.data.size ≤ (bytesRow s cap).size := by unfold bytesRow; simp
      have : j < s.data.size := by simpa using hj
      omega
    simp [this]

theorem lower_any (s : ByteArray) (w : World) (hs : s.size ≤ maxLen) :
    Calls Tryd.prog 99 #[.string s] w fun e w' => e = .returned (.string (mkS (lowL s.data.toList))) ∧ Below w.heap.size w w' := by
  unfold maxLen at hs
  have kc := fun W => run_bytes_of_string (P := Tryd.prog) W 9 37 5 s Tryd.underlying9 Tryd.underlying37 Tryd.underlying5
  go_enter Tryd.func99, Tryd.ntmps99
  go_wp2
  clear kc
  have H0 := (Row8.made w s (grownCap w s.size 0 5) 5).below ((Below.refl _ _).drew)
  have hsz := Lib.hid (Lib.size_eq s)
  go_loopw [10] (fun i wr => ∃ k : Nat, k ≤ s.size ∧ i = .int .i64 k ∧ Row8 wr w.heap.size (lowK s.data.toList k) ∧ Below w.heap.size w wr) (fun i _ => s.size - (intOf i).toNat)
  case atStart => exact ⟨0, Nat.zero_le _, rfl, by rw [lowK_zero]; exact H0, ((Below.refl _ _).alloc (Nat.le_refl _) _).drew⟩
  case round =>
    clear H0
    obtain ⟨k, hk, rfl, hrow, hbel⟩ := hrel
    by_cases hlt : k < s.size
    · obtain ⟨hcell, hfree⟩ := hrow.at (lowK_at s k hlt)
      have hB := hrow.size
      have hbd := byte_wf s[k]
      have hlen : k < (lowK s.data.toList k).length := by rw [lowK_len, ← hsz.out]; exact hlt
      by_cases hin : rng 65 90 (s[k].toNat : Int) = true
      · have HI := Lib.hid hin
        have hr := rng_true.1 hin
        have HR := Lib.hid (lowU_yes s[k] hin)
        clear hin
        go_wp2_with (go_at_call 104; refine (span_any _ _ _).mono ?_; rintro e w' ⟨rfl, rfl⟩)
        refine (in_one 65 90 _ _ _ _ _ rfl ⟨wr.heap.size, wr.heap.size + 1, ?_, ?_, ?_⟩).mono ?_
        · go_simp
        · go_simp
        · go_simp
        rintro e w' ⟨he, rfl⟩
        rw [HI.out] at he
        subst he
        have hbx : Below wr.heap.size wr (((wr.alloc (.cells #[.int .u8 65] 5)).alloc (.cells #[.int .u8 90] 5)).alloc (.cells #[.func (.func 107) #[] #[.pointer (some ⟨wr.heap.size, 0, none⟩), .pointer (some ⟨wr.heap.size + 1, 0, none⟩)]] 152)) :=
          (((Below.refl _ _).alloc (Nat.le_refl _) _).alloc (by simp) _).alloc (by simp <;> omega) _
        obtain ⟨hc3, hf3⟩ := (hrow.below hbx).at (lowK_at s k hlt)
        have hrow2 := (hrow.below hbx).set k hlen (lowU s[k]) (n := (s[k].toNat : Int) + 32) HR.out.symm
        rw [← lowK_succ s k hlt] at hrow2
        have hbel2 := (hbel.trans (hbx.mono hbel.size)).setCell (p := ⟨w.heap.size, k, none⟩) (Nat.le_refl _) (.int .u8 ((s[k].toNat : Int) + 32))
        go_wp2
        go_roundw
        case rel => exact ⟨k + 1, by omega, by go_num, hrow2, hbel2⟩
        case measure => simp [intOf]; omega
      · have hin' : rng 65 90 (s[k].toNat : Int) = false := by simpa using hin
        have HI := Lib.hid hin'
        have HR := Lib.hid (lowU_no s[k] hin')
        clear hin hin'
        go_wp2_with (go_at_call 104; refine (span_any _ _ _).mono ?_; rintro e w' ⟨rfl, rfl⟩)
        refine (in_one 65 90 _ _ _ _ _ rfl ⟨wr.heap.size, wr.heap.size + 1, ?_, ?_, ?_⟩).mono ?_
        · go_simp
        · go_simp
        · go_simp
        rintro e w' ⟨he, rfl⟩
        rw [HI.out] at he
        subst he
        have hbx : Below wr.heap.size wr (((wr.alloc (.cells #[.int .u8 65] 5)).alloc (.cells #[.int .u8 90] 5)).alloc (.cells #[.func (.func 107) #[] #[.pointer (some ⟨wr.heap.size, 0, none⟩), .pointer (some ⟨wr.heap.size + 1, 0, none⟩)]] 152)) :=
          (((Below.refl _ _).alloc (Nat.le_refl _) _).alloc (by simp) _).alloc (by simp <;> omega) _
        have hrow2 := hrow.below hbx
        rw [← lowK_same s k hlt HR.out] at hrow2
        go_wp2
        go_roundw
        case rel => exact ⟨k + 1, by omega, by go_num, hrow2, hbel.trans (hbx.mono hbel.size)⟩
        case measure => simp [intOf]; omega
    · have hll : s.data.toList.length ≤ k := by rw [← hsz.out]; omega
      rw [lowK_full _ _ hll] at hrow
      have kb := run_convert_bytes_back (P := Tryd.prog) wr 37 9 5 ⟨w.heap.size, 0, none⟩ (grownCap w s.size 0 5) (lowL s.data.toList) Tryd.underlying37 Tryd.underlying5 Tryd.underlying9
        (fun j hj => by rw [addr_add]; exact hrow.cell j hj)
      rw [lowL_len, ← hsz.out] at kb
      clear hrow hll
      go_wp2
      go_ret
      exact ⟨rfl, hbel⟩

theorem same_any (a b : ByteArray) (w : World) (ha : a.size ≤ maxLen) (hb : b.size ≤ maxLen) :
    Calls Tryd.prog 92 #[.string a, .string b] w fun e w' => e = .returned (.bool (sameB a b)) ∧ Below w.heap.size w w' := by
  by_cases h : ((a.size : Int) == (b.size : Int)) = true
  · go_enter Tryd.func92, Tryd.ntmps92
    go_wp2_with fail
    refine (lower_any a _ ha).mono ?_
    rintro e w1 ⟨rfl, hb1⟩
    go_wp2_with fail
    refine (lower_any b _ hb).mono ?_
    rintro e w2 ⟨rfl, hb2⟩
    have hl := Lib.hid (same_list (lowL a.data.toList) (lowL b.data.toList))
    go_wp2
    go_ret
    exact ⟨ret_bool hl.out, hb1.trans (hb2.mono hb1.size)⟩
  · have h2 : ((a.size : Int) == (b.size : Int)) = false := by simpa using h
    have H : Hid (sameB a b = false) := by
      show _ = _
      cases hs : sameB a b with
      | false => rfl
      | true => exact absurd (same_len hs) (by simp at h2; omega)
    go_enter Tryd.func92, Tryd.ntmps92
    go_wp2_with fail
    go_ret
    exact ⟨by rw [H.out]; rfl, Below.refl _ _⟩

end Go.Proofs.YthhlcecojeaalaaDoor
end

/-
  Contracts of the reference's Lower and Same (layer 1), for every text.
-/
section
namespace Go.Proofs.YthhlcecojeaalaaDoor
open Go.RowKit

theorem r_lower (s : ByteArray) (w : World) (hs : s.size ≤ maxLen) :
    Calls Tryd.prog 96 #[.string s] w fun e w' => e = .returned (.string (mkS (lowL s.data.toList))) ∧ Below w.heap.size w w' := by
  unfold maxLen at hs
  have kc := fun W => run_bytes_of_string (P := Tryd.prog) W 9 37 5 s Tryd.underlying9 Tryd.underlying37 Tryd.underlying5
  go_enter Tryd.func96, Tryd.ntmps96
  go_wp2
  clear kc
  have H0 := (Row8.made w s (grownCap w s.size 0 5) 5).below ((Below.refl _ _).drew)
  have hsz := Lib.hid (Lib.size_eq s)
  go_loopw [4] (fun i wr => ∃ k : Nat, k ≤ s.size ∧ i = .int .i64 k ∧ Row8 wr w.heap.size (lowK s.data.toList k) ∧ Below w.heap.size w wr) (fun i _ => s.size - (intOf i).toNat)
  case atStart => exact ⟨0, Nat.zero_le _, rfl, by rw [lowK_zero]; exact H0, ((Below.refl _ _).alloc (Nat.le_refl _) _).drew⟩
  case round =>
    clear H0
    obtain ⟨k, hk, rfl, hrow, hbel⟩ := hrel
    by_cases hlt : k < s.size
    · obtain ⟨hcell, hfree⟩ := hrow.at (lowK_at s k hlt)
      have hlen : k < (lowK s.data.toList k).length := by rw [lowK_len, ← hsz.out]; exact hlt
      by_cases hin : rng 65 90 (s[k].toNat : Int) = true
      · have hr := rng_true.1 hin
        have hr1 := hr.1
        have hr2 := hr.2
        have hrow2 := hrow.set k hlen (lowU s[k]) (n := (s[k].toNat : Int) + 32) (lowU_yes s[k] hin).symm
        rw [← lowK_succ s k hlt] at hrow2
        have hbel2 := hbel.setCell (p := ⟨w.heap.size, k, none⟩) (Nat.le_refl _) (.int .u8 ((s[k].toNat : Int) + 32))
        clear hin hr
        go_wp2
        go_roundw
        case rel => exact ⟨k + 1, by omega, by go_num, hrow2, hbel2⟩
        case measure => simp [intOf]; omega
      · have hin' : rng 65 90 (s[k].toNat : Int) = false := by simpa using hin
        have hrow2 := hrow
        rw [← lowK_same s k hlt (lowU_no s[k] hin')] at hrow2
        have hr := rng_false.1 hin'
        clear hin hin'
        by_cases h65 : (65 : Int) ≤ (s[k].toNat : Int)
        · have h90 : ¬ (s[k].toNat : Int) ≤ 90 := fun h => hr ⟨h65, h⟩
          clear hr
          go_wp2
          go_roundw
          case rel => exact ⟨k + 1, by omega, by go_num, hrow2, hbel⟩
          case measure => simp [intOf]; omega
        · clear hr
          go_wp2
          go_roundw
          case rel => exact ⟨k + 1, by omega, by go_num, hrow2, hbel⟩
          case measure => simp [intOf]; omega
    · have hll : s.data.toList.length ≤ k := by rw [← hsz.out]; omega
      rw [lowK_full _ _ hll] at hrow
      have kb := run_convert_bytes_back (P := Tryd.prog) wr 37 9 5 ⟨w.heap.size, 0, none⟩ (grownCap w s.size 0 5) (lowL s.data.toList) Tryd.underlying37 Tryd.underlying5 Tryd.underlying9
        (fun j hj => by rw [addr_add]; exact hrow.cell j hj)
      rw [lowL_len, ← hsz.out] at kb
      clear hrow hll
      go_wp2
      go_ret
      exact ⟨rfl, hbel⟩

theorem r_same (a b : ByteArray) (w : World) (ha : a.size ≤ maxLen) (hb : b.size ≤ maxLen) :
    Calls Tryd.prog 84 #[.string a, .string b] w fun e w' => e = .returned (.bool (sameB a b)) ∧ Below w.heap.size w w' := by
  go_enter Tryd.func84, Tryd.ntmps84
  go_wp2_with fail
  refine (r_lower a _ ha).mono ?_
  rintro e w1 ⟨rfl, hb1⟩
  go_wp2_with fail
  refine (r_lower b _ hb).mono ?_
  rintro e w2 ⟨rfl, hb2⟩
  have hl := Lib.hid (same_list (lowL a.data.toList) (lowL b.data.toList))
  go_wp2
  go_ret
  exact ⟨ret_bool hl.out, hb1.trans (hb2.mono hb1.size)⟩

end Go.Proofs.YthhlcecojeaalaaDoor
end

/-
  Contracts of the reference's calendar (layer 7): leap, long, year, Days, Civil, Weekday.
-/
section
namespace Go.Proofs.YthhlcecojeaalaaDoor
open Go.RowKit

def longV : List Value := [.int .i64 31, .int .i64 28, .int .i64 31, .int .i64 30, .int .i64 31, .int .i64 30, .int .i64 31, .int .i64 31, .int .i64 30, .int .i64 31, .int .i64 30, .int .i64 31]
/-- Is there such a date, and which day is it? -/
def ValidI (y m d : Int) : Prop := 1970 ≤ y ∧ y ≤ 9999 ∧ 1 ≤ m ∧ m ≤ 12 ∧ 1 ≤ d ∧ d ≤ (longN y.toNat m.toNat : Int)
instance (y m d : Int) : Decidable (ValidI y m d) := by unfold ValidI; infer_instance
def dayB (y m d : Int) : Bool := decide (ValidI y m d)
def dayV (y m d : Int) : Int := if ValidI y m d then (daysN y.toNat m.toNat d.toNat : Int) else 0
end Go.Proofs.YthhlcecojeaalaaDoor
end

/-
  Contracts of the reference's Civil and Weekday (layer 7).
-/
section
namespace Go.Proofs.YthhlcecojeaalaaDoor
open Go.RowKit


def civB (n : Int) : Bool := decide (0 ≤ n ∧ n ≤ 2932896)
def civ1 (n : Int) : Int := if civB n then ((civ n.toNat).1 : Int) else 0
def civ2 (n : Int) : Int := if civB n then ((civ n.toNat).2.1 : Int) else 0
def civ3 (n : Int) : Int := if civB n then ((civ n.toNat).2.2 : Int) else 0
end Go.Proofs.YthhlcecojeaalaaDoor
end
