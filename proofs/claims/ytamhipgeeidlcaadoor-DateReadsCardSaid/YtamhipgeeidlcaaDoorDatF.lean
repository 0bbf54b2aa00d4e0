/-
  Contracts of the reference's names and forms (layer 7): day, month, clock, Format, Old, Plain.
-/
import Derived.Test.YtamhipgeeidlcaaDoorDatC
import Derived.Test.YtamhipgeeidlcaaDoorDatN
import Derived.Test.YtamhipgeeidlcaaDoorDecV
namespace Go.Proofs.YtamhipgeeidlcaaDoor
open Go.RowKit

def dayVs : List Value := [.string ⟨#[83, 117, 110, 100, 97, 121]⟩, .string ⟨#[77, 111, 110, 100, 97, 121]⟩, .string ⟨#[84, 117, 101, 115, 100, 97, 121]⟩, .string ⟨#[87, 101, 100, 110, 101, 115, 100, 97, 121]⟩, .string ⟨#[84, 104, 117, 114, 115, 100, 97, 121]⟩, .string ⟨#[70, 114, 105, 100, 97, 121]⟩, .string ⟨#[83, 97, 116, 117, 114, 100, 97, 121]⟩]
theorem dayVs_at : ∀ n : Nat, n < 7 → dayVs[n]? = some (.string (mkS (dayL n)))
  | 0, _ | 1, _ | 2, _ | 3, _ | 4, _ | 5, _ | 6, _ => rfl
  | n + 7, h => by omega

theorem r_day (n : Nat) (h : n < 7) (w : World) :
    Calls Tryd.prog 30 #[.int .i64 n] w fun e w' => e = .returned (.string (mkS (dayL n))) ∧ Below w.heap.size w w' := by
  have ht := dayVs_at n h
  unfold dayVs at ht
  obtain ⟨x, hx⟩ : ∃ x, x = mkS (dayL n) := ⟨_, rfl⟩
  rw [← hx] at ht ⊢
  clear hx
  go_enter Tryd.func30, Tryd.ntmps30
  go_wp2
  go_ret
  exact ⟨congrArg Ending.returned (List.getElem?_eq_some_iff.1 ht).2, (Below.refl _ _).alloc (Nat.le_refl _) _⟩

def monB : ByteArray := ⟨#[74, 97, 110, 70, 101, 98, 77, 97, 114, 65, 112, 114, 77, 97, 121, 74, 117, 110, 74, 117, 108, 65, 117, 103, 83, 101, 112, 79, 99, 116, 78, 111, 118, 68, 101, 99]⟩
theorem mon_ext (m : Nat) (h0 : 1 ≤ m) : monB.extract (3 * m - 3) (3 * m) = mkS (monL m) := by
  rw [piece_ext]
  congr 1
  unfold piece monL
  rw [show 3 * m - (3 * m - 3) = 3 by omega]; rfl
theorem slice_mon (W : World) (m : Nat) (h0 : 1 ≤ m) (h1 : m ≤ 12) : (Instr.slice 9 (.string ⟨#[74, 97, 110, 70, 101, 98, 77, 97, 114, 65, 112, 114, 77, 97, 121, 74, 117, 110, 74, 117, 108, 65, 117, 103, 83, 101, 112, 79, 99, 116, 78, 111, 118, 68, 101, 99]⟩) (some (.int .i64 (3 * (m : Int) - 3))) (some (.int .i64 (3 * (m : Int)))) none).run Tryd.prog W = .ok (.string (mkS (monL m))) W := by
  have hz : (⟨#[74, 97, 110, 70, 101, 98, 77, 97, 114, 65, 112, 114, 77, 97, 121, 74, 117, 110, 74, 117, 108, 65, 117, 103, 83, 101, 112, 79, 99, 116, 78, 111, 118, 68, 101, 99]⟩ : ByteArray).size = 36 := rfl
  rw [run_slice_string W 9 _ .i64 .i64 (3 * (m : Int) - 3) (3 * (m : Int)) Tryd.underlying9 (by omega) (by omega) (by rw [hz]; omega)]
  rw [show (3 * (m : Int) - 3).toNat = 3 * m - 3 by omega, show (3 * (m : Int)).toNat = 3 * m by omega]
  have := mon_ext m h0
  unfold monB at this
  rw [this]
theorem r_month (m : Nat) (h0 : 1 ≤ m) (h1 : m ≤ 12) (w : World) :
    Calls Tryd.prog 32 #[.int .i64 m] w fun e w' => e = .returned (.string (mkS (monL m))) ∧ w = w' := by
  have hsl := fun W => slice_mon W m h0 h1
  go_enter Tryd.func32, Tryd.ntmps32
  go_wp2
  go_ret
  exact ⟨rfl, rfl⟩

theorem pad2_size (n : Nat) (h : n < 100) : (mkS (padL (n : Int) 2)).size = 2 := by rw [mkS_size, pad_two h]; rfl

theorem r_clock (t : Nat) (h : t ≤ 253402300799) (w : World) :
    Calls Tryd.prog 33 #[.int .i64 t] w fun e w' => e = .returned (.string (mkS (clkL t))) ∧ Below w.heap.size w w' := by
  have a1 := pad2_size (t % 86400 / 3600) (by omega)
  have a2 := pad2_size (t % 86400 / 60 % 60) (by omega)
  have a3 := pad2_size (t % 86400 % 60) (by omega)
  have HR : Hid (mkS (clkL t) = mkS (padL ((t % 86400 / 3600 : Nat) : Int) 2) ++ (⟨#[58]⟩ : ByteArray) ++ mkS (padL ((t % 86400 / 60 % 60 : Nat) : Int) 2) ++ (⟨#[58]⟩ : ByteArray) ++ mkS (padL ((t % 86400 % 60 : Nat) : Int) 2)) := by
    show _ = _
    rw [show (⟨#[58]⟩ : ByteArray) = mkS [58] from rfl, mkS_append, mkS_append, mkS_append, mkS_append]; rfl
  go_enter Tryd.func33, Tryd.ntmps33
  go_wp2_with fail
  refine (r_pad _ _ (by omega) (by omega) _).mono ?_
  rintro e w1 ⟨he, hb⟩
  rw [show (t : Int) % 86400 / 3600 = ((t % 86400 / 3600 : Nat) : Int) by omega] at he
  generalize mkS (padL ((t % 86400 / 3600 : Nat) : Int) 2) = A at *
  subst he
  go_wp2_with fail
  refine (r_pad _ _ (by omega) (by omega) _).mono ?_
  rintro e w2 ⟨he, hb2⟩
  have hb := below_then hb hb2
  clear hb2
  rw [show (t : Int) % 86400 / 60 % 60 = ((t % 86400 / 60 % 60 : Nat) : Int) by omega] at he
  generalize mkS (padL ((t % 86400 / 60 % 60 : Nat) : Int) 2) = B at *
  subst he
  go_wp2_with fail
  refine (r_pad _ _ (by omega) (by omega) _).mono ?_
  rintro e w3 ⟨he, hb3⟩
  have hb := below_then hb hb3
  clear hb3
  rw [show (t : Int) % 60 = ((t % 86400 % 60 : Nat) : Int) by omega] at he
  generalize mkS (padL ((t % 86400 % 60 : Nat) : Int) 2) = C at *
  subst he
  go_wp2_with fail
  go_ret
  exact ⟨by rw [HR.out]; rfl, hb⟩

end Go.Proofs.YtamhipgeeidlcaaDoor
