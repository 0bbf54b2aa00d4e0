/-
  Contracts of package date's Format and Old.
-/
import Derived.Test.YtamhipgeeidlcaaDoorDatD
namespace Go.Proofs.YtamhipgeeidlcaaDoor
open Go.RowKit

/-- The five parts that a time is told by, in block g. -/
def Told5 (W : World) (g : Nat) (N B K : ByteArray) (E Y : Int) : Prop :=
  W.cell? ⟨g, 0, none⟩ = some (.string N) ∧ W.cell? ⟨g, 1, none⟩ = some (.string B) ∧ W.cell? ⟨g, 2, none⟩ = some (.string K) ∧ W.cell? ⟨g, 3, none⟩ = some (.int .i64 E) ∧ W.cell? ⟨g, 4, none⟩ = some (.int .i64 Y)
theorem Told5.new (w : World) (N B K : ByteArray) (E Y : Int) (t : Nat) : Told5 (w.alloc (.cells #[.string N, .string B, .string K, .int .i64 E, .int .i64 Y] t)).drew w.heap.size N B K E Y := by
  have h : (w.alloc (.cells #[.string N, .string B, .string K, .int .i64 E, .int .i64 Y] t)).drew.heap[w.heap.size]? = some (.cells #[.string N, .string B, .string K, .int .i64 E, .int .i64 Y] t (0, 0)) := heap_alloc_new w _
  refine ⟨?_, ?_, ?_, ?_, ?_⟩ <;> (rw [cell_of_row _ _ _ _ _ _ h]; rfl)
theorem Told5.kept {w w' : World} {g : Nat} {N B K : ByteArray} {E Y : Int} (hb : Below w.heap.size w w') (h : Told5 w g N B K E Y) : Told5 w' g N B K E Y :=
  ⟨cell_kept hb h.1, cell_kept hb h.2.1, cell_kept hb h.2.2.1, cell_kept hb h.2.2.2.1, cell_kept hb h.2.2.2.2⟩

set_option maxHeartbeats 3000000 in
set_option maxRecDepth 100000 in
theorem format_any (t : Int) (_h0 : -9223372036854775808 ≤ t ∧ t ≤ 9223372036854775807) (w : World) (HT : DatTabs w) :
    Calls Tryd.prog 15 #[.int .i64 t] w fun e w' => e = .returned (.string (mkS (fmtI t))) ∧ Below w.heap.size w w' := by
  by_cases k : t < 0 ∨ 253402300799 < t
  · have HR : Hid (fmtI t = []) := by show _ = _; unfold fmtI; rw [if_neg (by omega)]
    have c := tell_no t 253402300799 k
    unfold toldZ at c
    have C := Lib.hid c
    clear c k HT
    go_enter Tryd.func15, Tryd.ntmps15
    go_wp2_with fail
    refine (C.out _).mono ?_
    rintro e w1 ⟨rfl, hb⟩
    go_wp2_with fail
    go_ret
    exact ⟨by rw [HR.out]; rfl, hb.alloc (hb.size) _⟩
  obtain ⟨T, rfl⟩ := Int.eq_ofNat_of_zero_le (show 0 ≤ t by omega)
  obtain ⟨Y, M, E, hp⟩ := parts_of T (by omega)
  obtain ⟨⟨b1, b2⟩, ⟨b3, b4⟩, b5, b6⟩ := hp.bd
  have hci := hp.civ
  have hwl := wd_lt (T / 86400)
  have HR : Hid (mkS (fmtI (T : Int)) = (mkS (dayL (wdD (T / 86400)))).extract 0 3 ++ (⟨#[44, 32]⟩ : ByteArray) ++ mkS (padL (E : Int) 2) ++ (⟨#[32]⟩ : ByteArray) ++ mkS (monL M) ++ (⟨#[32]⟩ : ByteArray) ++ mkS (padL (Y : Int) 4) ++ (⟨#[32]⟩ : ByteArray) ++ mkS (clkL T) ++ (⟨#[32, 71, 77, 84]⟩ : ByteArray)) := by
    show _ = _
    unfold fmtI
    rw [if_pos ⟨by omega, by omega⟩, Int.toNat_natCast]
    unfold fmtL
    rw [hci, day3, show (⟨#[44, 32]⟩ : ByteArray) = mkS [44, 32] from rfl, show (⟨#[32]⟩ : ByteArray) = mkS [32] from rfl, show (⟨#[32, 71, 77, 84]⟩ : ByteArray) = mkS [32, 71, 77, 84] from rfl]
    simp only [mkS_append]
  have a1 := day_size _ hwl
  have a2 := pad2_size E (by omega)
  have a3 := mon_size M b3 b4
  have a4 := pad4_size Y b1 b2
  have a5 := clk_size T
  have c := fun W (hW : DatTabs W) => tell_yes T Y M E 253402300799 hp (by omega) W hW
  unfold toldR at c
  generalize mkS (dayL (wdD (T / 86400))) = N at *
  generalize hA : mkS (padL (E : Int) 2) = A at *
  have HA := Lib.hid hA
  clear hA
  generalize mkS (monL M) = B at *
  generalize hCC : mkS (padL (Y : Int) 4) = C at *
  have HCC := Lib.hid hCC
  clear hCC
  generalize mkS (clkL T) = K at *
  have HC := Lib.hid c
  have HT := Lib.hid HT
  clear hci hp c hwl
  go_enter Tryd.func15, Tryd.ntmps15
  go_wp2_with fail
  refine (HC.out _ HT.out).mono ?_
  rintro e w1 ⟨rfl, hb⟩
  go_wp2_with fail
  have hs3 : (3 : Int) ≤ (N.size : Int) := by omega
  have hmin : min 3 N.size = 3 := by omega
  have hb := (hb.alloc hb.size (.cells #[.string N, .string B, .string K, .int .i64 (E : Int), .int .i64 (Y : Int)] 41)).drew
  have hS := Told5.new w1 N B K E Y 41
  go_region_held3 (fun W => W.cell? ⟨w1.heap.size, 0, none⟩ = some (.string N) ∧ W.cell? ⟨w1.heap.size, 1, none⟩ = some (.string B) ∧ W.cell? ⟨w1.heap.size, 2, none⟩ = some (.string K) ∧ W.cell? ⟨w1.heap.size, 3, none⟩ = some (.int .i64 (E : Int)) ∧ W.cell? ⟨w1.heap.size, 4, none⟩ = some (.int .i64 (Y : Int))) (exact hS) (first
    | (go_at_call 29; refine (pad_any _ _ (by omega) (by omega) _ (HT.out.kept hb).pow).mono ?_; rintro e w3 ⟨he, hb3⟩; have hS := hS.kept hb3; have hb := below_then hb hb3; clear hb3; first | (rw [HA.out] at he; subst he) | (rw [HCC.out] at he; subst he)))
  go_wp2_with fail
  go_ret
  exact ⟨by rw [HR.out]; rfl, hb⟩

set_option maxHeartbeats 3000000 in
set_option maxRecDepth 100000 in
theorem old_any (t : Int) (_h0 : -9223372036854775808 ≤ t ∧ t ≤ 9223372036854775807) (w : World) (HT : DatTabs w) :
    Calls Tryd.prog 17 #[.int .i64 t] w fun e w' => e = .returned (.string (mkS (oldI t))) ∧ Below w.heap.size w w' := by
  by_cases k : t < 0 ∨ 3155759999 < t
  · have HR : Hid (oldI t = []) := by show _ = _; unfold oldI; rw [if_neg (by omega)]
    have c := tell_no t 3155759999 k
    unfold toldZ at c
    have C := Lib.hid c
    clear c k HT
    go_enter Tryd.func17, Tryd.ntmps17
    go_wp2_with fail
    refine (C.out _).mono ?_
    rintro e w1 ⟨rfl, hb⟩
    go_wp2_with fail
    go_ret
    exact ⟨by rw [HR.out]; rfl, hb.alloc (hb.size) _⟩
  obtain ⟨T, rfl⟩ := Int.eq_ofNat_of_zero_le (show 0 ≤ t by omega)
  obtain ⟨Y, M, E, hp⟩ := parts_of T (by omega)
  obtain ⟨⟨b1, b2⟩, ⟨b3, b4⟩, b5, b6⟩ := hp.bd
  have hci := hp.civ
  have hwl := wd_lt (T / 86400)
  have HR : Hid (mkS (oldI (T : Int)) = mkS (dayL (wdD (T / 86400))) ++ (⟨#[44, 32]⟩ : ByteArray) ++ mkS (padL (E : Int) 2) ++ (⟨#[45]⟩ : ByteArray) ++ mkS (monL M) ++ (⟨#[45]⟩ : ByteArray) ++ mkS (padL ((Y % 100 : Nat) : Int) 2) ++ (⟨#[32]⟩ : ByteArray) ++ mkS (clkL T) ++ (⟨#[32, 71, 77, 84]⟩ : ByteArray)) := by
    show _ = _
    unfold oldI
    rw [if_pos ⟨by omega, by omega⟩, Int.toNat_natCast]
    unfold oldL
    rw [hci, show (⟨#[44, 32]⟩ : ByteArray) = mkS [44, 32] from rfl, show (⟨#[45]⟩ : ByteArray) = mkS [45] from rfl, show (⟨#[32]⟩ : ByteArray) = mkS [32] from rfl, show (⟨#[32, 71, 77, 84]⟩ : ByteArray) = mkS [32, 71, 77, 84] from rfl]
    simp only [mkS_append]
  have a1 := day_size _ hwl
  have a2 := pad2_size E (by omega)
  have a3 := mon_size M b3 b4
  have a4 := pad2_size (Y % 100) (by omega)
  have a5 := clk_size T
  have c := fun W (hW : DatTabs W) => tell_yes T Y M E 3155759999 hp (by omega) W hW
  unfold toldR at c
  generalize mkS (dayL (wdD (T / 86400))) = N at *
  generalize hA : mkS (padL (E : Int) 2) = A at *
  have HA := Lib.hid hA
  clear hA
  generalize mkS (monL M) = B at *
  obtain ⟨q, hq⟩ : ∃ q : Int, q = ((Y % 100 : Nat) : Int) := ⟨_, rfl⟩
  have hq2 : 0 ≤ q ∧ q < 100 := by omega
  rw [← hq] at HR a4
  generalize hCC : mkS (padL q 2) = C at *
  have HCC := Lib.hid hCC
  clear hCC
  generalize mkS (clkL T) = K at *
  have HC := Lib.hid c
  have HT := Lib.hid HT
  clear hci hp c hwl
  have hN : N.size = 6 ∨ N.size = 7 ∨ N.size = 8 ∨ N.size = 9 := by omega
  clear a1
  rcases hN with a1 | a1 | a1 | a1
  all_goals
    go_enter Tryd.func17, Tryd.ntmps17
    go_wp2_with fail
    refine (HC.out _ HT.out).mono ?_
    rintro e w1 ⟨rfl, hb⟩
    go_wp2_with fail
    have i7 : (Y : Int).tmod 100 = q := by rw [Int.tmod_eq_emod_of_nonneg (by omega), hq]; omega
    have i8 : IntKind.i64.wrap q = q := IntWalk.i64_in _ (by omega)
    clear hq
    have hb := (hb.alloc hb.size (.cells #[.string N, .string B, .string K, .int .i64 (E : Int), .int .i64 (Y : Int)] 41)).drew
    have hS := Told5.new w1 N B K E Y 41
    go_region_held3 (fun W => W.cell? ⟨w1.heap.size, 0, none⟩ = some (.string N) ∧ W.cell? ⟨w1.heap.size, 1, none⟩ = some (.string B) ∧ W.cell? ⟨w1.heap.size, 2, none⟩ = some (.string K) ∧ W.cell? ⟨w1.heap.size, 3, none⟩ = some (.int .i64 (E : Int)) ∧ W.cell? ⟨w1.heap.size, 4, none⟩ = some (.int .i64 (Y : Int))) (exact hS) (first
      | (go_at_call 29; refine (pad_any _ _ (by omega) (by omega) _ (HT.out.kept hb).pow).mono ?_; rintro e w3 ⟨he, hb3⟩; have hS := hS.kept hb3; have hb := below_then hb hb3; clear hb3; first | (rw [HA.out] at he; subst he) | (rw [HCC.out] at he; subst he)))
    go_wp2_with fail
    go_ret
    exact ⟨by rw [HR.out]; rfl, hb⟩

end Go.Proofs.YtamhipgeeidlcaaDoor
