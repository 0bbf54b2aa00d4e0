/-
  Texts that the laws of this seat lean on, one behind the other.
-/
import Derived.Test.YtfmaaghmbnhikaaGreatDoorMrgAR
import Derived.Test.YtfmaaghmbnhikaaGreatDoorMrgAC
import Derived.Test.YtfmaaghmbnhikaaGreatDoorMrgP
import Derived.Test.YtfmaaghmbnhikaaGreatDoorMrgW
/-
  Contract of package date's Plain.
-/
section
namespace Go.Proofs.YtfmaaghmbnhikaaGreatDoor
open Go.RowKit

set_option maxHeartbeats 3000000 in
set_option maxRecDepth 100000 in
theorem plain7_any (t : Int) (_h0 : -9223372036854775808 ≤ t ∧ t ≤ 9223372036854775807) (w : World) (HT : DatTabs w) :
    Calls Tryz.prog 65 #[.int .i64 t] w fun e w' => e = .returned (.string (mkS (plnI t))) ∧ Below w.heap.size w w' := by
  by_cases k : t < 0 ∨ 253402300799 < t
  · have HR : Hid (plnI t = []) := by show _ = _; unfold plnI; rw [if_neg (by omega)]
    have c := tell_no t 253402300799 k
    unfold toldZ at c
    have C := Lib.hid c
    clear c k HT
    go_enter Tryz.func65, Tryz.ntmps65
    go_wp2_with fail
    refine (C.out _).mono ?_
    rintro e w1 ⟨rfl, hb⟩
    go_wp2_with fail
    go_ret
    exact ⟨by rw [HR.out]; rfl, hb.alloc (hb.size) _⟩
  obtain ⟨T, rfl⟩ := Int.eq_ofNat_of_zero_le (show 0 ≤ t by omega)
  obtain ⟨Y, M, E, hp⟩ := parts_of T (by omega)
  obtain ⟨⟨b1, b2⟩, ⟨b3, b4⟩, b5, b6⟩ := hp.bd
  have hci := hp.civ
  have hwl := wd_lt (T / 86400)
  have HR : Hid (mkS (plnI (T : Int)) = (mkS (dayL (wdD (T / 86400)))).extract 0 3 ++ (⟨#[32]⟩ : ByteArray) ++ mkS (monL M) ++ (⟨#[32]⟩ : ByteArray) ++ mkS (twoL E) ++ (⟨#[32]⟩ : ByteArray) ++ mkS (clkL T) ++ (⟨#[32]⟩ : ByteArray) ++ mkS (padL (Y : Int) 4)) := by
    show _ = _
    unfold plnI
    rw [if_pos ⟨by omega, by omega⟩, Int.toNat_natCast]
    unfold plnL
    rw [hci, day3, show (⟨#[32]⟩ : ByteArray) = mkS [32] from rfl]
    simp only [mkS_append]
  have a1 := day_size _ hwl
  have a3 := mon_size M b3 b4
  have a4 := pad4_size Y b1 b2
  have a5 := clk_size T
  have hs3 : (3 : Int) ≤ ((mkS (dayL (wdD (T / 86400)))).size : Int) := by omega
  have hmin : min 3 (mkS (dayL (wdD (T / 86400)))).size = 3 := by omega
  have c := fun W (hW : DatTabs W) => tell_yes T Y M E 253402300799 hp (by omega) W hW
  unfold toldR at c
  generalize mkS (dayL (wdD (T / 86400))) = N at *
  generalize mkS (monL M) = B at *
  generalize hCC : mkS (padL (Y : Int) 4) = C at *
  have HCC := Lib.hid hCC
  clear hCC
  generalize mkS (clkL T) = K at *
  have HC := Lib.hid c
  have HT := Lib.hid HT
  clear hci hp c hwl
  by_cases h10 : E < 10
  · have hX : mkS (twoL E) = (⟨#[32]⟩ : ByteArray) ++ mkS (plainL (E : Int)) := by
      unfold twoL
      rw [if_pos h10, show (⟨#[32]⟩ : ByteArray) = mkS [32] from rfl, mkS_append]; rfl
    have hXs : (mkS (plainL (E : Int))).size = 1 := by rw [mkS_size, plain_one h10]; rfl
    rw [hX] at HR
    clear hX
    generalize hG : mkS (plainL (E : Int)) = G at *
    have HG := Lib.hid hG
    clear hG h10
    go_enter Tryz.func65, Tryz.ntmps65
    go_wp2_with fail
    refine (HC.out _ HT.out).mono ?_
    rintro e w1 ⟨rfl, hb⟩
    go_wp2_with fail
    have hb := hb.alloc hb.size (.cells #[.string N, .string B, .string K, .int .i64 (E : Int), .int .i64 (Y : Int)] 108)
    have hS := Told5.new w1 N B K E Y 108
    refine (plain_any _ (by omega) (by omega) _ (HT.out.kept hb).pow).mono ?_
    rintro e w2 ⟨he, hb2⟩
    rw [HG.out] at he
    subst he
    have hS := Told5.kept (w' := w2.drew) hb2.drew hS
    have hb := (below_then hb hb2).drew
    clear hb2
    go_wp2_with fail
    go_region_held3 (fun W => W.cell? ⟨w1.heap.size, 0, none⟩ = some (.string N) ∧ W.cell? ⟨w1.heap.size, 1, none⟩ = some (.string B) ∧ W.cell? ⟨w1.heap.size, 2, none⟩ = some (.string K) ∧ W.cell? ⟨w1.heap.size, 3, none⟩ = some (.int .i64 (E : Int)) ∧ W.cell? ⟨w1.heap.size, 4, none⟩ = some (.int .i64 (Y : Int))) (exact hS) (first
      | (go_at_call 101; refine (pad_any _ _ (by omega) (by omega) _ (HT.out.kept hb).pow).mono ?_; rintro e w3 ⟨he, hb3⟩; have hS := hS.kept hb3; have hb := below_then hb hb3; clear hb3; rw [HCC.out] at he; subst he))
    go_wp2_with fail
    go_ret
    exact ⟨by rw [HR.out]; rfl, hb⟩
  · have hX : mkS (twoL E) = mkS (plainL (E : Int)) := by
      unfold twoL
      rw [if_neg h10]
    have hXs : (mkS (plainL (E : Int))).size = 2 := by rw [mkS_size, plain_two (by omega) (by omega)]; rfl
    rw [hX] at HR
    clear hX
    generalize hG : mkS (plainL (E : Int)) = G at *
    have HG := Lib.hid hG
    clear hG h10
    go_enter Tryz.func65, Tryz.ntmps65
    go_wp2_with fail
    refine (HC.out _ HT.out).mono ?_
    rintro e w1 ⟨rfl, hb⟩
    go_wp2_with fail
    have hb := hb.alloc hb.size (.cells #[.string N, .string B, .string K, .int .i64 (E : Int), .int .i64 (Y : Int)] 108)
    have hS := Told5.new w1 N B K E Y 108
    refine (plain_any _ (by omega) (by omega) _ (HT.out.kept hb).pow).mono ?_
    rintro e w2 ⟨he, hb2⟩
    rw [HG.out] at he
    subst he
    have hS := Told5.kept (w' := w2.drew) hb2.drew hS
    have hb := (below_then hb hb2).drew
    clear hb2
    go_wp2_with fail
    go_region_held3 (fun W => W.cell? ⟨w1.heap.size, 0, none⟩ = some (.string N) ∧ W.cell? ⟨w1.heap.size, 1, none⟩ = some (.string B) ∧ W.cell? ⟨w1.heap.size, 2, none⟩ = some (.string K) ∧ W.cell? ⟨w1.heap.size, 3, none⟩ = some (.int .i64 (E : Int)) ∧ W.cell? ⟨w1.heap.size, 4, none⟩ = some (.int .i64 (Y : Int))) (exact hS) (first
      | (go_at_call 101; refine (pad_any _ _ (by omega) (by omega) _ (HT.out.kept hb).pow).mono ?_; rintro e w3 ⟨he, hb3⟩; have hS := hS.kept hb3; have hb := below_then hb hb3; clear hb3; rw [HCC.out] at he; subst he))
    go_wp2_with fail
    go_ret
    exact ⟨by rw [HR.out]; rfl, hb⟩

end Go.Proofs.YtfmaaghmbnhikaaGreatDoor
end

/-
  Contracts of package date's closures (numbers, names) and of fullYear.
-/
section
namespace Go.Proofs.YtfmaaghmbnhikaaGreatDoor
open Go.RowKit

/-- The number that stands in n bytes at a place of a text, behind blanks; 0 if it is none. -/
def nbrN (s : ByteArray) (a n : Nat) : Int := numN 10 18 9999 ((piece s a (a + n)).dropWhile (· == 32))
theorem nbrN_bd (s : ByteArray) (a n : Nat) : 0 ≤ nbrN s a n ∧ nbrN s a n ≤ 9999 := by
  unfold nbrN
  generalize (piece s a (a + n)).dropWhile (· == 32) = l
  have hv := valV_nn (b := 10) (by omega) l
  unfold numN
  split
  · omega
  · rename_i h
    have : ¬ (9999 < valV 10 l) := fun h' => h (.inr (.inr (.inr h')))
    omega

theorem numbers_any (s : ByteArray) (w : World) :
    Calls Tryz.prog 96 #[.string s] w fun e w' => e = .returned (.func (.func 128) #[] #[.pointer (some ⟨w.heap.size, 0, none⟩)]) ∧
      w.alloc (.cells #[.string s] 9) = w' := by
  have hmf : ∀ (fn : Fn) (first cap : Array Value) (w : World), (Instr.makeFunc fn first cap).run Tryz.prog w = .ok (.func fn first cap) w := fun _ _ _ _ => rfl
  go_enter Tryz.func96, Tryz.ntmps96
  go_wp2
  go_ret
  exact ⟨rfl, rfl⟩
theorem names_any (s : ByteArray) (w : World) :
    Calls Tryz.prog 97 #[.string s] w fun e w' => e = .returned (.func (.func 131) #[] #[.pointer (some ⟨w.heap.size, 0, none⟩)]) ∧
      w.alloc (.cells #[.string s] 9) = w' := by
  have hmf : ∀ (fn : Fn) (first cap : Array Value) (w : World), (Instr.makeFunc fn first cap).run Tryz.prog w = .ok (.func fn first cap) w := fun _ _ _ _ => rfl
  go_enter Tryz.func97, Tryz.ntmps97
  go_wp2
  go_ret
  exact ⟨rfl, rfl⟩

theorem p_number (s : ByteArray) (P A n : Nat) (h : A + n ≤ s.size) (hs : s.size ≤ 10000) (w : World) (hp : w.cell? ⟨P, 0, none⟩ = some (.string s)) :
    Calls Tryz.prog 128 #[.int .i64 (A : Int), .int .i64 (n : Int), .pointer (some ⟨P, 0, none⟩)] w fun e w' => e = .returned (.int .i64 (nbrN s A n)) ∧ Below w.heap.size w w' := by
  have hx1 : (A : Int) + n ≤ (s.size : Int) := by omega
  have hx2 : (A : Int) ≤ (A : Int) + n := by omega
  have hx3 : (0 : Int) ≤ (A : Int) + n := by omega
  have hx4 : ((A : Int) + n).toNat = A + n := by omega
  have hl : (s.extract A (A + n)).data.toList = piece s A (A + n) := by rw [piece_ext]; rfl
  have c1 := fun W => Tryz.strings_TrimLeft_one (s.extract A (A + n)) 32 (by decide) W
  unfold Lib.trimLeftB at c1
  rw [hl] at c1
  have HR : Hid (nbrN s A n = numN 10 18 9999 (mkS ((piece s A (A + n)).dropWhile (· == 32))).data.toList) := rfl
  have e1 : (⟨((piece s A (A + n)).dropWhile (· == 32)).toArray⟩ : ByteArray) = mkS ((piece s A (A + n)).dropWhile (· == 32)) := rfl
  rw [e1] at c1
  generalize mkS ((piece s A (A + n)).dropWhile (· == 32)) = X at *
  have C1 := Lib.hid c1
  clear c1 hl e1
  go_enter Tryz.func128, Tryz.ntmps128
  go_wp2_with fail
  refine (C1.out _).mono ?_
  rintro e w1 ⟨rfl, rfl⟩
  go_wp2_with fail
  refine (Number_any _ _ _).mono ?_
  rintro e w2 ⟨he, hb⟩
  rw [← HR.out] at he
  generalize numE 10 18 9999 X.data.toList = G at *
  subst he
  go_wp2_with fail
  go_ret
  exact ⟨rfl, hb⟩

theorem p_fullYear (n : Int) (h : 0 ≤ n ∧ n ≤ 9999) (w : World) :
    Calls Tryz.prog 98 #[.int .i64 n] w fun e w' => e = .returned (.int .i64 (if n + 1900 < 1970 then n + 1900 + 100 else n + 1900)) ∧ w = w' := by
  by_cases h1 : n + 1900 < 1970
  · rw [if_pos h1]
    go_enter Tryz.func98, Tryz.ntmps98
    go_wp2_with fail
    go_ret
    exact ⟨rfl, rfl⟩
  · rw [if_neg h1]
    go_enter Tryz.func98, Tryz.ntmps98
    go_wp2_with fail
    go_ret
    exact ⟨rfl, rfl⟩

theorem mon_cut : ∀ k : Nat, k < 12 → monVs.toArray.extract (k * 2) (k * 2 + 2) = #[.string (mkS (monL (k + 1))), .int .i64 ((longs.getD k 0 : Nat) : Int)]
  | 0, _ | 1, _ | 2, _ | 3, _ | 4, _ | 5, _ | 6, _ | 7, _ | 8, _ | 9, _ | 10, _ | 11, _ => rfl
  | n + 12, h => by omega
theorem mon_index (W : World) (k : Nat) (hk : k < 12) : (Instr.index 139 (.agg monVs.toArray) (.int .i64 (k : Int))).run Tryz.prog W = .ok (.agg #[.string (mkS (monL (k + 1))), .int .i64 ((longs.getD k 0 : Nat) : Int)]) W := by
  rw [run_index_agg (m := 2) Tryz.underlying139 Tryz.underlying138 rfl (by kernel_rfl) _ _ _ (by omega) (by omega), Int.toNat_natCast, mon_cut k hk]

theorem mon_prefix (m : Nat) (h0 : 1 ≤ m) (h1 : m ≤ 12) (l : List UInt8) : Lib.hasPrefix l (monL m) = decide (monL m = l.take 3) := by
  have hl := mon_len m h0 h1
  unfold Lib.hasPrefix
  rw [Bool.eq_iff_iff, List.isPrefixOf_iff_prefix, List.prefix_iff_eq_take, hl, decide_eq_true_iff]
theorem mFind_bd (l : List UInt8) : ∀ f m : Nat, m ≤ mFind l f m ∧ mFind l f m ≤ m + f
  | 0, m => ⟨Nat.le_refl _, Nat.le_refl _⟩
  | f + 1, m => by
    have := mFind_bd l f (m + 1)
    unfold mFind
    split <;> omega

/-- The month whose name stands at a place of a text, or 0. -/
def monN (s : ByteArray) (a : Nat) : Int := if mIdx ((s.data.toList.drop a).take 3) = 13 then 0 else (mIdx ((s.data.toList.drop a).take 3) : Nat)
theorem monN_bd (s : ByteArray) (a : Nat) : 0 ≤ monN s a ∧ monN s a ≤ 12 := by
  have := mFind_bd ((s.data.toList.drop a).take 3) 12 1
  unfold monN mIdx
  split <;> omega

set_option maxHeartbeats 2000000 in
set_option maxRecDepth 100000 in
theorem p_name (s : ByteArray) (P A : Nat) (h : A ≤ s.size) (w : World) (HT : DatTabs w) (hp : w.cell? ⟨P, 0, none⟩ = some (.string s)) :
    Calls Tryz.prog 131 #[.int .i64 (A : Int), .pointer (some ⟨P, 0, none⟩)] w fun e w' => e = .returned (.int .i64 (monN s A)) ∧ Below w.heap.size w w' := by
  obtain ⟨ty, fr, hblk⟩ := var_block (g := 2) (by kernel_rfl) HT.mons
  have hidx := mon_index
  have hsz : monVs.toArray.size = 24 := rfl
  have hms : (Tryz.prog.info? 139).map (·.size) = some monVs.toArray.size := by rw [hsz]; kernel_rfl
  generalize monVs.toArray = MA at *
  have hx1 : (A : Int) ≤ (s.size : Int) := by omega
  have hx0 : (0 : Int) ≤ (A : Int) := by omega
  have hls : (s.extract A s.size).data.toList = s.data.toList.drop A := by
    rw [piece_ext]
    unfold piece
    rw [List.take_of_length_le (by rw [List.length_drop, ← Lib.size_eq]; omega)]; rfl
  obtain ⟨l, hl⟩ : ∃ l, l = (s.data.toList.drop A).take 3 := ⟨_, rfl⟩
  obtain ⟨R, hR⟩ : ∃ R, R = mIdx l := ⟨_, rfl⟩
  have HR : Hid (monN s A = if R = 13 then 0 else (R : Int)) := by
    show _ = _
    rw [hR, hl]; rfl
  have HRR : Hid (mFind l (12 - 0) (0 + 1) = R) := hR.symm
  obtain ⟨X, hX⟩ : ∃ X, X = s.extract A s.size := ⟨_, rfl⟩
  have HX : Hid (∀ m, 1 ≤ m → m ≤ 12 → Lib.hasPrefix X.data.toList (mkS (monL m)).data.toList = decide (monL m = l)) := by
    intro m h0 h1
    rw [hX, hls, mkS_list, hl]
    exact mon_prefix m h0 h1 _
  have HM := Lib.hid hms
  have HB := Lib.hid hblk
  have HI := Lib.hid hidx
  have HXE := Lib.hid hX
  clear hms hblk hidx hR hls hsz HT hX hl
  go_enter Tryz.func131, Tryz.ntmps131
  go_wp2_with (refine wpList_load_row rfl _ _ rfl 2 rfl ty MA fr _ HB.out Tryz.underlying139 rfl HM.out ?_)
  go_loopw [7] (fun i wr => ∃ k : Nat, k ≤ 12 ∧ i = .int .i64 (k : Int) ∧ Hid (mFind l (12 - k) (k + 1) = R) ∧ Below w.heap.size w wr) (fun i _ => 12 - (intOf i).toNat)
  case atStart => exact ⟨0, Nat.zero_le _, rfl, HRR, Below.refl _ _⟩
  case round =>
    obtain ⟨k, hk, rfl, hf, hbel⟩ := hrel
    by_cases hlt : k < 12
    · have hik := fun W => HI.out W k hlt
      have hpx := HX.out (k + 1) (by omega) (by omega)
      have hs3 : (mkS (monL (k + 1))).size = 3 := mon_size (k + 1) (by omega) (by omega)
      have hcp := cell_kept hbel hp
      have HS : Hid (monL (k + 1) = l → R = k + 1) := fun h => by
        have := hf.out
        rw [show 12 - k = 11 - k + 1 by omega, mFind_hit l _ _ h] at this
        exact this.symm
      have HN : Hid (¬ monL (k + 1) = l → mFind l (12 - (k + 1)) (k + 1 + 1) = R) := fun h => by
        have := hf.out
        rw [show 12 - k = 11 - k + 1 by omega, mFind_miss l _ _ h] at this
        rwa [show 12 - (k + 1) = 11 - k by omega]
      have hPl : P < wr.heap.size := World.block_lt_of_cell? wr _ hcp
      have hw1 : (wr.alloc (.cells #[.string (mkS (monL (k + 1))), .int .i64 ((longs.getD k 0 : Nat) : Int)] 138)).drew.cell? ⟨P, 0, none⟩ = some (.string s) := cell_kept (((Below.refl _ _).alloc (Nat.le_refl _) _).drew) hcp
      have hw2 : (wr.alloc (.cells #[.string (mkS (monL (k + 1))), .int .i64 ((longs.getD k 0 : Nat) : Int)] 138)).drew.cell? ⟨wr.heap.size, 0, none⟩ = some (.string (mkS (monL (k + 1)))) := by
        have h := heap_alloc_new wr (.cells #[.string (mkS (monL (k + 1))), .int .i64 ((longs.getD k 0 : Nat) : Int)] 138)
        exact (cell_of_row _ _ 0 _ _ _ h).trans rfl
      have hbx := (hbel.alloc hbel.size (.cells #[.string (mkS (monL (k + 1))), .int .i64 ((longs.getD k 0 : Nat) : Int)] 138)).drew
      have hxs : s.extract A s.size = X := HXE.out.symm
      have c := fun W => Tryz.strings_HasPrefix X (mkS (monL (k + 1))) W
      rw [hpx] at c
      generalize mkS (monL (k + 1)) = N at *
      generalize longs.getD k 0 = L at *
      by_cases he : monL (k + 1) = l
      · rw [decide_eq_true he] at c
        have HR2 := HS.out he
        have HR3 : Hid (monN s A = ((k + 1 : Nat) : Int)) := by
          show _ = _
          rw [HR.out, HR2, if_neg (by omega)]
        have C := Lib.hid c
        have HBX := Lib.hid hbx
        clear he HS HN hf hpx c HR2 hbx hcp hPl
        go_wp2_with fail
        go_region_held3 (fun W => W.cell? ⟨P, 0, none⟩ = some (.string s) ∧ W.cell? ⟨wr.heap.size, 0, none⟩ = some (.string N)) (exact ⟨hw1, hw2⟩) (first | (go_at_call 132; refine (C.out _).mono ?_; rintro e w' ⟨rfl, hww⟩; subst hww))
        go_wp2_with fail
        go_ret
        exact ⟨by rw [HR3.out]; rfl, HBX.out⟩
      · rw [decide_eq_false he] at c
        have HNN := Lib.hid (HN.out he)
        have C := Lib.hid c
        have HBX := Lib.hid hbx
        clear he HS HN hf hpx c hbx hcp hPl
        go_wp2_with fail
        go_region_held3 (fun W => W.cell? ⟨P, 0, none⟩ = some (.string s) ∧ W.cell? ⟨wr.heap.size, 0, none⟩ = some (.string N)) (exact ⟨hw1, hw2⟩) (first | (go_at_call 132; refine (C.out _).mono ?_; rintro e w' ⟨rfl, hww⟩; subst hww))
        go_wp2_with fail
        go_roundw
        case rel => exact ⟨k + 1, by omega, by go_num, HNN, HBX.out⟩
        case measure => simp [intOf]; omega
    · have HR3 : Hid (monN s A = 0) := by
        show _ = _
        have := hf.out
        rw [show k = 12 by omega] at this
        rw [HR.out, if_pos (show R = 13 from this.symm)]
      clear hf
      go_wp2_with fail
      go_ret
      exact ⟨by rw [HR3.out]; rfl, hbel⟩

end Go.Proofs.YtfmaaghmbnhikaaGreatDoor
end
