/-
  Contract of package date's Plain.
-/
import Derived.Test.YtamhipgeeidlcaaDoorDatE
namespace Go.Proofs.YtamhipgeeidlcaaDoor
open Go.RowKit

set_option maxHeartbeats 3000000 in
set_option maxRecDepth 100000 in
theorem plain7_any (t : Int) (_h0 : -9223372036854775808 ≤ t ∧ t ≤ 9223372036854775807) (w : World) (HT : DatTabs w) :
    Calls Tryd.prog 19 #[.int .i64 t] w fun e w' => e = .returned (.string (mkS (plnI t))) ∧ Below w.heap.size w w' := by
  by_cases k : t < 0 ∨ 253402300799 < t
  · have HR : Hid (plnI t = []) := by show _ = _; unfold plnI; rw [if_neg (by omega)]
    have c := tell_no t 253402300799 k
    unfold toldZ at c
    have C := Lib.hid c
    clear c k HT
    go_enter Tryd.func19, Tryd.ntmps19
    go_wp2_with fail
    refine (C.out _).mono ?_
    rintro e w1 ⟨rfl, hb⟩
    go_wp2_with fail
    go_ret
    exact ⟨by rw [HR.out]; rfl, hb.alloc (hb.size) _⟩
  obtain ⟨T, rfl⟩ := Int.eq_ofNat_of_zero_le (show 0 ≤ t by omega)
  obtain ⟨Y, M, E, hp⟩ := parts_of T (by omega)
  obtain ⟨⟨b1, b2⟩, ⟨b3, b4⟩, b5, b6⟩ := hp.bd
  have hci := hp.civ
  have hwl := wd_lt (T / 86400)
  have HR : Hid (mkS (plnI (T : Int)) = (mkS (dayL (wdD (T / 86400)))).extract 0 3 ++ (⟨#[32]⟩ : ByteArray) ++ mkS (monL M) ++ (⟨#[32]⟩ : ByteArray) ++ mkS (twoL E) ++ (⟨#[32]⟩ : ByteArray) ++ mkS (clkL T) ++ (⟨#[32]⟩ : ByteArray) ++ mkS (padL (Y : Int) 4)) := by
    show _ = _
    unfold plnI
    rw [if_pos ⟨by omega, by omega⟩, Int.toNat_natCast]
    unfold plnL
    rw [hci, day3, show (⟨#[32]⟩ : ByteArray) = mkS [32] from rfl]
    simp only [mkS_append]
  have a1 := day_size _ hwl
  have a3 := mon_size M b3 b4
  have a4 := pad4_size Y b1 b2
  have a5 := clk_size T
  have hs3 : (3 : Int) ≤ ((mkS (dayL (wdD (T / 86400)))).size : Int) := by omega
  have hmin : min 3 (mkS (dayL (wdD (T / 86400)))).size = 3 := by omega
  have c := fun W (hW : DatTabs W) => tell_yes T Y M E 253402300799 hp (by omega) W hW
  unfold toldR at c
  generalize mkS (dayL (wdD (T / 86400))) = N at *
  generalize mkS (monL M) = B at *
  generalize hCC : mkS (padL (Y : Int) 4) = C at *
  have HCC := Lib.hid hCC
  clear hCC
  generalize mkS (clkL T) = K at *
  have HC := Lib.hid c
  have HT := Lib.hid HT
  clear hci hp c hwl
  by_cases h10 : E < 10
  · have hX : mkS (twoL E) = (⟨#[32]⟩ : ByteArray) ++ mkS (plainL (E : Int)) := by
      unfold twoL
      rw [if_pos h10, show (⟨#[32]⟩ : ByteArray) = mkS [32] from rfl, mkS_append]; rfl
    have hXs : (mkS (plainL (E : Int))).size = 1 := by rw [mkS_size, plain_one h10]; rfl
    rw [hX] at HR
    clear hX
    generalize hG : mkS (plainL (E : Int)) = G at *
    have HG := Lib.hid hG
    clear hG h10
    go_enter Tryd.func19, Tryd.ntmps19
    go_wp2_with fail
    refine (HC.out _ HT.out).mono ?_
    rintro e w1 ⟨rfl, hb⟩
    go_wp2_with fail
    have hb := hb.alloc hb.size (.cells #[.string N, .string B, .string K, .int .i64 (E : Int), .int .i64 (Y : Int)] 41)
    have hS := Told5.new w1 N B K E Y 41
    refine (plain_any _ (by omega) (by omega) _ (HT.out.kept hb).pow).mono ?_
    rintro e w2 ⟨he, hb2⟩
    rw [HG.out] at he
    subst he
    have hS := Told5.kept (w' := w2.drew) hb2.drew hS
    have hb := (below_then hb hb2).drew
    clear hb2
    go_wp2_with fail
    go_region_held3 (fun W => W.cell? ⟨w1.heap.size, 0, none⟩ = some (.string N) ∧ W.cell? ⟨w1.heap.size, 1, none⟩ = some (.string B) ∧ W.cell? ⟨w1.heap.size, 2, none⟩ = some (.string K) ∧ W.cell? ⟨w1.heap.size, 3, none⟩ = some (.int .i64 (E : Int)) ∧ W.cell? ⟨w1.heap.size, 4, none⟩ = some (.int .i64 (Y : Int))) (exact hS) (first
      | (go_at_call 29; refine (pad_any _ _ (by omega) (by omega) _ (HT.out.kept hb).pow).mono ?_; rintro e w3 ⟨he, hb3⟩; have hS := hS.kept hb3; have hb := below_then hb hb3; clear hb3; rw [HCC.out] at he; subst he))
    go_wp2_with fail
    go_ret
    exact ⟨by rw [HR.out]; rfl, hb⟩
  · have hX : mkS (twoL E) = mkS (plainL (E : Int)) := by
      unfold twoL
      rw [if_neg h10]
    have hXs : (mkS (plainL (E : Int))).size = 2 := by rw [mkS_size, plain_two (by omega) (by omega)]; rfl
    rw [hX] at HR
    clear hX
    generalize hG : mkS (plainL (E : Int)) = G at *
    have HG := Lib.hid hG
    clear hG h10
    go_enter Tryd.func19, Tryd.ntmps19
    go_wp2_with fail
    refine (HC.out _ HT.out).mono ?_
    rintro e w1 ⟨rfl, hb⟩
    go_wp2_with fail
    have hb := hb.alloc hb.size (.cells #[.string N, .string B, .string K, .int .i64 (E : Int), .int .i64 (Y : Int)] 41)
    have hS := Told5.new w1 N B K E Y 41
    refine (plain_any _ (by omega) (by omega) _ (HT.out.kept hb).pow).mono ?_
    rintro e w2 ⟨he, hb2⟩
    rw [HG.out] at he
    subst he
    have hS := Told5.kept (w' := w2.drew) hb2.drew hS
    have hb := (below_then hb hb2).drew
    clear hb2
    go_wp2_with fail
    go_region_held3 (fun W => W.cell? ⟨w1.heap.size, 0, none⟩ = some (.string N) ∧ W.cell? ⟨w1.heap.size, 1, none⟩ = some (.string B) ∧ W.cell? ⟨w1.heap.size, 2, none⟩ = some (.string K) ∧ W.cell? ⟨w1.heap.size, 3, none⟩ = some (.int .i64 (E : Int)) ∧ W.cell? ⟨w1.heap.size, 4, none⟩ = some (.int .i64 (Y : Int))) (exact hS) (first
      | (go_at_call 29; refine (pad_any _ _ (by omega) (by omega) _ (HT.out.kept hb).pow).mono ?_; rintro e w3 ⟨he, hb3⟩; have hS := hS.kept hb3; have hb := below_then hb hb3; clear hb3; rw [HCC.out] at he; subst he))
    go_wp2_with fail
    go_ret
    exact ⟨by rw [HR.out]; rfl, hb⟩

end Go.Proofs.YtamhipgeeidlcaaDoor
