/-
  Texts that the laws of this seat lean on, one behind the other.
-/
import Derived.Test.YtbbppkonjaijhaaDoorRows
import Derived.Test.YtbbppkonjaijhaaDoorMrgD
import Derived.Test.YtbbppkonjaijhaaDoorMrgC
import Derived.WalkKit
import Derived.Lib.Hide
/-
  Contracts of the small functions of package decimal: least, span, digit, Add, Less; and of the reference's held, Add, Less.
-/
section
namespace Go.Proofs.YtbbppkonjaijhaaDoor
open Go.RowKit

def minI (a b : Int) : Int := if b < a then b else a

theorem least_any (a c : Int) (b : Nat) (w : World) (hc : w.cell? ⟨b, 0, none⟩ = some (.int .i64 c)) :
    Calls Tryd.prog 82 #[.int .i64 a, .slice (some ⟨b, 0, none⟩) 1 1] w fun e w' => e = .returned (.int .i64 (minI a c)) ∧ w = w' := by
  obtain ⟨m, hm⟩ : ∃ m, minI a c = m := ⟨_, rfl⟩
  rw [hm]
  have hm' := hm
  unfold minI at hm'
  have HM := Lib.hid hm'
  clear hm hm'
  go_enter Tryd.func82, Tryd.ntmps82
  go_wp2
  go_loop [0, 9] (fun x i => (i = .int .i64 0 ∧ x = .int .i64 a) ∨ (i = .int .i64 1 ∧ x = .int .i64 m)) (fun _ i => 1 - (intOf i).toNat)
  case atStart => exact .inl ⟨rfl, rfl⟩
  case round =>
    rcases hrel with ⟨rfl, rfl⟩ | ⟨rfl, rfl⟩
    · by_cases h : c < a
      · have hmc : m = c := by have := HM.out; rw [if_pos h] at this; exact this.symm
        subst hmc
        go_wp2
        go_round
        case rel => exact .inr ⟨rfl, rfl⟩
        case measure => simp [intOf]
      · have hmc : m = a := by have := HM.out; rw [if_neg h] at this; exact this.symm
        subst hmc
        go_wp2
        go_round
        case rel => exact .inr ⟨rfl, rfl⟩
        case measure => simp [intOf]
    · go_wp2
      go_ret
      exact ⟨rfl, rfl⟩

/-- What digit answers of a character: its worth, if it is a digit to the base. -/
def digN (b r : Int) : Int := if isD b r then digV r else 0

theorem ret_dig {a b : Int} {c d : Bool} (h : a = b) (k : c = d) : Ending.returned (.tuple #[.int .i64 a, .bool c]) = .returned (.tuple #[.int .i64 b, .bool d]) := by rw [h, k]

theorem digitD_any (r b : Int) (h0 : 0 ≤ r) (h1 : r ≤ 2147483647) (hb0 : 10 ≤ b) (hb1 : b ≤ 16) (w : World) :
    Calls Tryd.prog 81 #[.int .i32 r, .int .i64 b] w fun e w' => e = .returned (.tuple #[.int .i64 (digN b r), .bool (isD b r)]) ∧ w = w' := by
  obtain ⟨v, hv⟩ : ∃ v, digN b r = v := ⟨_, rfl⟩
  obtain ⟨o, ho⟩ : ∃ o, isD b r = o := ⟨_, rfl⟩
  rw [hv, ho]
  unfold digN at hv
  rw [ho] at hv
  unfold isD digV at ho
  unfold digV at hv
  have HV := Lib.hid hv
  have HO := Lib.hid ho
  clear hv ho
  by_cases k1 : rng 48 57 r = true
  · have E : Hid (o = true ∧ v = r - 48) := by
      have a := HV.out; have c := HO.out
      have k := rng_true.1 k1
      rw [if_pos k1] at a c
      subst c
      rw [decide_eq_true (by omega), if_pos rfl] at a
      exact ⟨decide_eq_true (by omega), a.symm⟩
    clear HV HO
    obtain ⟨c1, c2⟩ := rng_true.1 k1
    clear k1
    go_enter Tryd.func81, Tryd.ntmps81
    go_wp2
    go_ret2
    exact ⟨ret_dig E.out.2.symm E.out.1.symm, rfl⟩
  · have k1' : rng 48 57 r = false := by simpa using k1
    have n1 := rng_false.1 k1'
    by_cases k2 : rng 97 102 r = true
    · obtain ⟨c1, c2⟩ := rng_true.1 k2
      have c3 : ¬ r ≤ 57 := by omega
      by_cases hd : b ≤ r - 97 + 10
      · have E : Hid (o = false ∧ v = 0) := by
          have a := HV.out; have c := HO.out
          rw [if_neg k1, if_pos k2] at a c
          subst c
          rw [decide_eq_false (by omega), if_neg (by simp)] at a
          exact ⟨decide_eq_false (by omega), a.symm⟩
        clear HV HO k1 k1' n1 k2
        go_enter Tryd.func81, Tryd.ntmps81
        go_wp2
        go_ret2
        exact ⟨ret_dig E.out.2.symm E.out.1.symm, rfl⟩
      · have E : Hid (o = true ∧ v = r - 97 + 10) := by
          have a := HV.out; have c := HO.out
          rw [if_neg k1, if_pos k2] at a c
          subst c
          rw [decide_eq_true (by omega), if_pos rfl] at a
          exact ⟨decide_eq_true (by omega), by omega⟩
        clear HV HO k1 k1' n1 k2
        go_enter Tryd.func81, Tryd.ntmps81
        go_wp2
        go_ret2
        exact ⟨ret_dig E.out.2.symm E.out.1.symm, rfl⟩
    · have k2' : rng 97 102 r = false := by simpa using k2
      have n2 := rng_false.1 k2'
      by_cases k3 : rng 65 70 r = true
      · obtain ⟨c1, c2⟩ := rng_true.1 k3
        have c3 : ¬ r ≤ 57 := by omega
        have c4 : ¬ 97 ≤ r := by omega
        by_cases hd : b ≤ r - 65 + 10
        · have E : Hid (o = false ∧ v = 0) := by
            have a := HV.out; have c := HO.out
            rw [if_neg k1, if_neg k2, if_pos k3] at a c
            subst c
            rw [decide_eq_false (by omega), if_neg (by simp)] at a
            exact ⟨decide_eq_false (by omega), a.symm⟩
          clear HV HO k1 k1' n1 k2 k2' n2 k3
          go_enter Tryd.func81, Tryd.ntmps81
          go_wp2
          go_ret2
          exact ⟨ret_dig E.out.2.symm E.out.1.symm, rfl⟩
        · have E : Hid (o = true ∧ v = r - 65 + 10) := by
            have a := HV.out; have c := HO.out
            rw [if_neg k1, if_neg k2, if_pos k3] at a c
            subst c
            rw [decide_eq_true (by omega), if_pos rfl] at a
            exact ⟨decide_eq_true (by omega), by omega⟩
          clear HV HO k1 k1' n1 k2 k2' n2 k3
          go_enter Tryd.func81, Tryd.ntmps81
          go_wp2
          go_ret2
          exact ⟨ret_dig E.out.2.symm E.out.1.symm, rfl⟩
      · have k3' : rng 65 70 r = false := by simpa using k3
        have n3 := rng_false.1 k3'
        have E : Hid (o = false ∧ v = 0) := by
          have a := HV.out; have c := HO.out
          rw [if_neg k1, if_neg k2, if_neg k3] at a c
          subst c
          rw [decide_eq_false (by omega), if_neg (by simp)] at a
          exact ⟨decide_eq_false (by omega), a.symm⟩
        clear HV HO k1 k1' k2 k2' k3 k3'
        go_enter Tryd.func81, Tryd.ntmps81
        go_wp2
        all_goals first
          | (exfalso; omega)
          | (go_ret2; exact ⟨ret_dig E.out.2.symm E.out.1.symm, rfl⟩)

end Go.Proofs.YtbbppkonjaijhaaDoor
end
