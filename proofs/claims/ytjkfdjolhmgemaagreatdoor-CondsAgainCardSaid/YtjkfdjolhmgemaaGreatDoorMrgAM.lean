/-
  Texts that the laws of this seat lean on, one behind the other.
-/
import Derived.Test.YtjkfdjolhmgemaaGreatDoorMrgAL
import Derived.Test.YtjkfdjolhmgemaaGreatDoorMrgU
import Derived.Test.YtjkfdjolhmgemaaGreatDoorMrgX
import Derived.Test.YtjkfdjolhmgemaaGreatDoorMrgL
import Derived.Test.YtjkfdjolhmgemaaGreatDoorMrgP
set_option linter.unusedSimpArgs false
set_option linter.unusedVariables false
/-
  Contracts of package date's clock and tell.
-/
section
namespace Go.Proofs.YtjkfdjolhmgemaaGreatDoor
open Go.RowKit

theorem p_clock (S t : Nat) (hS : S = t % 86400) (w : World) (HT : DatTabs w) :
    Calls Tryz.prog 160 #[.int .i64 (S : Int)] w fun e w' => e = .returned (.string (mkS (clkL t))) ∧ Below w.heap.size w w' := by
  have hS2 : S < 86400 := by omega
  have a1 := pad2_size (S / 3600) (by omega)
  have a2 := pad2_size (S / 60 % 60) (by omega)
  have a3 := pad2_size (S % 60) (by omega)
  have HR : Hid (mkS (clkL t) = mkS (padL ((S / 3600 : Nat) : Int) 2) ++ (⟨#[58]⟩ : ByteArray) ++ mkS (padL ((S / 60 % 60 : Nat) : Int) 2) ++ (⟨#[58]⟩ : ByteArray) ++ mkS (padL ((S % 60 : Nat) : Int) 2)) := by
    show _ = _
    rw [show (⟨#[58]⟩ : ByteArray) = mkS [58] from rfl, mkS_append, mkS_append, mkS_append, mkS_append]
    unfold clkL
    rw [← hS]
  have HT := Lib.hid HT
  clear hS
  go_enter Tryz.func160, Tryz.ntmps160
  go_wp2_with fail
  refine (pad_any _ _ (by omega) (by omega) _ HT.out.pow).mono ?_
  rintro e w1 ⟨he, hb⟩
  rw [show (S : Int) / 3600 = ((S / 3600 : Nat) : Int) by omega] at he
  generalize mkS (padL ((S / 3600 : Nat) : Int) 2) = A at *
  subst he
  go_wp2_with fail
  refine (pad_any _ _ (by omega) (by omega) _ (HT.out.kept hb).pow).mono ?_
  rintro e w2 ⟨he, hb2⟩
  have hb := below_then hb hb2
  clear hb2
  rw [show (S : Int) % 3600 / 60 = ((S / 60 % 60 : Nat) : Int) by omega] at he
  generalize mkS (padL ((S / 60 % 60 : Nat) : Int) 2) = B at *
  subst he
  go_wp2_with fail
  refine (pad_any _ _ (by omega) (by omega) _ (HT.out.kept hb).pow).mono ?_
  rintro e w3 ⟨he, hb3⟩
  have hb := below_then hb hb3
  clear hb3
  rw [show (S : Int) % 60 = ((S % 60 : Nat) : Int) by omega] at he
  generalize mkS (padL ((S % 60 : Nat) : Int) 2) = C at *
  subst he
  go_wp2_with fail
  go_ret
  exact ⟨by rw [HR.out]; rfl, hb⟩

theorem DatTabs.day {w : World} (h : DatTabs w) (n : Nat) (hn : n < 7) : w.cell? ⟨4, n, none⟩ = some (.string (mkS (dayL n))) := by
  rw [World.var?_cell (by kernel_rfl) h.days n]
  have := dayVs_at n hn
  simpa using this
theorem DatTabs.lt {w : World} (h : DatTabs w) : 3 < w.heap.size ∧ 4 < w.heap.size := by
  obtain ⟨t, fr, h1⟩ := var_block (g := 3) (by kernel_rfl) h.mons
  obtain ⟨t, fr, h2⟩ := var_block (g := 4) (by kernel_rfl) h.days
  exact ⟨(Array.getElem?_eq_some_iff.1 h1).1, (Array.getElem?_eq_some_iff.1 h2).1⟩

theorem p_weekday (n : Nat) (w : World) (hn : n ≤ 2932896) :
    Calls Tryz.prog 159 #[.int .i64 (n : Int)] w fun e w' => e = .returned (.int .i64 ((wdD n : Nat) : Int)) ∧ w = w' := by
  have HR : Hid (((wdD n : Nat) : Int) = ((n : Int) % 7 + 4) % 7) := by
    show _ = _
    unfold wdD
    omega
  go_enter Tryz.func159, Tryz.ntmps159
  go_wp2_with fail
  go_ret
  exact ⟨by rw [HR.out]; rfl, rfl⟩

/-- What a time is told by, as the cells of a struct. -/
def toldR (T Y M E : Nat) : Array Value := #[.string (mkS (dayL (wdD (T / 86400)))), .string (mkS (monL M)), .string (mkS (clkL T)), .int .i64 (E : Int), .int .i64 (Y : Int)]
def toldZ : Array Value := #[.string ⟨#[]⟩, .string ⟨#[]⟩, .string ⟨#[]⟩, .int .i64 0, .int .i64 0]

theorem told_cells {W : World} {g t : Nat} (h : W.heap[g]? = some (.cells toldZ t (0, 0))) :
    W.cell? ⟨g, 0, none⟩ = some (.string ⟨#[]⟩) ∧ W.cell? ⟨g, 1, none⟩ = some (.string ⟨#[]⟩) ∧ W.cell? ⟨g, 2, none⟩ = some (.string ⟨#[]⟩) ∧ W.cell? ⟨g, 3, none⟩ = some (.int .i64 0) ∧ W.cell? ⟨g, 4, none⟩ = some (.int .i64 0) ∧
    W.frozen? ⟨g, 0, none⟩ = false ∧ W.frozen? ⟨g, 1, none⟩ = false ∧ W.frozen? ⟨g, 2, none⟩ = false ∧ W.frozen? ⟨g, 3, none⟩ = false ∧ W.frozen? ⟨g, 4, none⟩ = false := by
  refine ⟨?_, ?_, ?_, ?_, ?_, ?_, ?_, ?_, ?_, ?_⟩
  any_goals (rw [cell_of_row W g _ _ _ _ h]; rfl)
  all_goals simp [World.frozen?, h]

theorem told_other {W : World} {g b j : Nat} {v c0 c1 c2 c3 c4 : Value} (hn : b ≠ g) (h : W.cell? ⟨b, j, none⟩ = some v) :
    (((((W.setCell ⟨g, 0, none⟩ c0).setCell ⟨g, 1, none⟩ c1).setCell ⟨g, 2, none⟩ c2).setCell ⟨g, 3, none⟩ c3).setCell ⟨g, 4, none⟩ c4).cell? ⟨b, j, none⟩ = some v := by
  have e : ∀ k : Nat, (⟨g, k, none⟩ : Addr) ≠ ⟨b, j, none⟩ := fun k he => hn (congrArg Addr.block he).symm
  rw [World.cell?_setCell_other (h := e 4), World.cell?_setCell_other (h := e 3), World.cell?_setCell_other (h := e 2), World.cell?_setCell_other (h := e 1), World.cell?_setCell_other (h := e 0)]
  exact h
theorem told_set {W : World} {g t : Nat} {c0 c1 c2 c3 c4 : Value} (h : W.heap[g]? = some (.cells toldZ t (0, 0))) :
    (((((W.setCell ⟨g, 0, none⟩ c0).setCell ⟨g, 1, none⟩ c1).setCell ⟨g, 2, none⟩ c2).setCell ⟨g, 3, none⟩ c3).setCell ⟨g, 4, none⟩ c4).heap[g]? = some (.cells #[c0, c1, c2, c3, c4] t (0, 0)) := by
  simp [World.setCell, Array.getElem?_modify, h, toldZ]

set_option maxHeartbeats 3000000 in
set_option maxRecDepth 100000 in
theorem tell_no (t last : Int) (h : t < 0 ∨ last < t) (w : World) :
    Calls Tryz.prog 135 #[.int .i64 t, .int .i64 last] w fun e w' => e = .returned (.tuple #[.agg toldZ, .bool false]) ∧ Below w.heap.size w w' := by
  have HZ : Hid ((w.alloc (.cells toldZ 149)).heap[w.heap.size]? = some (.cells toldZ 149 (0, 0))) := heap_alloc_new _ _
  have hb : Below w.heap.size w (w.alloc (.cells toldZ 149)) := (Below.refl _ _).alloc (Nat.le_refl _) _
  by_cases h0 : t < 0
  · clear h
    go_enter Tryz.func135, Tryz.ntmps135
    go_wp2_with fail
    refine bodyPost_ret (results_cell_row_tmp rfl _ _ w.heap.size 149 toldZ (0, 0) _ rfl HZ.out Tryz.underlying149 rfl (by kernel_rfl)) rfl ?_
    exact ⟨rfl, hb⟩
  · have h1 : last < t := h.resolve_left h0
    clear h
    go_enter Tryz.func135, Tryz.ntmps135
    go_wp2_with fail
    refine bodyPost_ret (results_cell_row_tmp rfl _ _ w.heap.size 149 toldZ (0, 0) _ rfl HZ.out Tryz.underlying149 rfl (by kernel_rfl)) rfl ?_
    exact ⟨rfl, hb⟩

set_option maxHeartbeats 3000000 in
set_option maxRecDepth 100000 in
theorem tell_yes (T Y M E : Nat) (last : Int) (hp : Parts T Y M E) (hl : (T : Int) ≤ last) (w : World) (HT : DatTabs w) :
    Calls Tryz.prog 135 #[.int .i64 (T : Int), .int .i64 last] w fun e w' => e = .returned (.tuple #[.agg (toldR T Y M E), .bool true]) ∧ Below w.heap.size w w' := by
  have hc := hp.civil
  obtain ⟨⟨b1, b2⟩, ⟨b3, b4⟩, b5, b6⟩ := hp.bd
  have hle := hp.le
  have hwl := wd_lt (T / 86400)
  have hlt0 := HT.lt
  have HT2 := HT.kept ((Below.refl w.heap.size w).alloc (Nat.le_refl _) (.cells toldZ 149))
  have hb0 : Below w.heap.size w (w.alloc (.cells toldZ 149)) := (Below.refl _ _).alloc (Nat.le_refl _) _
  have HZ : Hid ((w.alloc (.cells toldZ 149)).heap[w.heap.size]? = some (.cells toldZ 149 (0, 0))) := heap_alloc_new _ _
  have c1 := fun W (hW : DatTabs W) => civil_any ((T : Int) / 86400) (by omega) W hW
  rw [hc.1, hc.2.1, hc.2.2.1, hc.2.2.2] at c1
  have c2 := fun W => p_weekday (T / 86400) W (by omega)
  rw [show ((T / 86400 : Nat) : Int) = (T : Int) / 86400 by omega] at c2
  have c3 := fun W (hW : DatTabs W) => p_clock (T % 86400) T rfl W hW
  rw [show ((T % 86400 : Nat) : Int) = (T : Int) % 86400 by omega] at c3
  have HR : Hid (toldR T Y M E = #[.string (mkS (dayL (wdD (T / 86400)))), .string (mkS (monL M)), .string (mkS (clkL T)), .int .i64 (E : Int), .int .i64 (Y : Int)]) := rfl
  have d1 := fun (W : World) (hW : DatTabs W) => hW.day (wdD (T / 86400)) hwl
  have d2 := fun (W : World) (hW : DatTabs W) => hW.mon_name (M - 1) (by omega)
  rw [show M - 1 + 1 = M by omega] at d2
  generalize mkS (dayL (wdD (T / 86400))) = N at *
  generalize mkS (monL M) = B at *
  generalize mkS (clkL T) = K at *
  generalize wdD (T / 86400) = V at *
  generalize toldR T Y M E = TR at *
  have D1 := Lib.hid d1
  have D2 := Lib.hid d2
  have C1 := Lib.hid c1
  have C2 := Lib.hid c2
  have C3 := Lib.hid c3
  have HT := Lib.hid HT2
  have HB := Lib.hid hb0
  clear hc hp c1 c2 c3 d1 d2 hb0 HT2
  go_enter Tryz.func135, Tryz.ntmps135
  go_wp2_with fail
  refine (C1.out _ HT.out).mono ?_
  rintro e w1 ⟨rfl, hb⟩
  have HT := Lib.hid (HT.out.kept hb)
  have hz : w1.heap[w.heap.size]? = some (.cells toldZ 149 (0, 0)) := (hb.block _ (by simp)).trans HZ.out
  have HB := Lib.hid (HB.out.trans (hb.mono (by simp)))
  clear hb HZ
  have hd1 := D1.out w1.drew (HT.out.kept (Below.refl _ _).drew)
  have hd2 := D2.out w1.drew (HT.out.kept (Below.refl _ _).drew)
  go_wp2_with fail
  have i1 : (0 : Int) ≤ (V : Int) := by omega
  have i2 : (V : Int) < 7 := by omega
  obtain ⟨q, hq⟩ : ∃ q : Int, q = (M : Int) - 1 := ⟨_, rfl⟩
  have i3 : (0 : Int) ≤ q := by omega
  have i4 : q < 12 := by omega
  have i5 : q.toNat = M - 1 := by omega
  have i6 : IntKind.i64.wrap ((M : Int) - 1) = q := (IntWalk.i64_in _ (by omega)).trans hq.symm
  have i7 : (T : Int).tmod 86400 = (T : Int) % 86400 := Int.tmod_eq_emod_of_nonneg (by omega)
  have i8 : IntKind.i64.wrap ((T : Int) % 86400) = (T : Int) % 86400 := IntWalk.i64_in _ (by omega)
  clear hq
  have hn1 := Nat.ne_of_lt hlt0.2
  have hn2 := Nat.ne_of_lt hlt0.1
  have hlt1 : w.heap.size < w1.heap.size := (Array.getElem?_eq_some_iff.1 hz).1
  go_region_held3 (fun w' => w'.cell? ⟨4, V, none⟩ = some (.string N) ∧ w'.cell? ⟨3, (M - 1) * 2, none⟩ = some (.string B)) (first | with_reducible exact ⟨hd1, hd2⟩ | with_reducible exact ⟨cell_kept hb3 hd1, cell_kept hb3 hd2⟩ | with_reducible exact ⟨told_other hn1 (cell_kept hb3 hd1), told_other hn2 (cell_kept hb3 hd2)⟩) (first
    | (go_at_call 159; refine (C2.out _).mono ?_; rintro e w' ⟨rfl, rfl⟩)
    | (go_at_call 160; refine (C3.out _ (HT.out.kept (Below.refl _ _).drew)).mono ?_; rintro e w3 ⟨rfl, hb3⟩; have hz3 := (hb3.block _ hlt1).trans hz; obtain ⟨z0, z1, z2, z3, z4, y0, y1, y2, y3, y4⟩ := told_cells hz3))
  go_wp2_with fail
  refine bodyPost_ret (results_cell_row_tmp rfl _ _ w.heap.size 149 #[.string N, .string B, .string K, .int .i64 (E : Int), .int .i64 (Y : Int)] (0, 0) _ rfl (told_set hz3) Tryz.underlying149 rfl (by kernel_rfl)) rfl ?_
  refine ⟨by rw [HR.out]; rfl, ?_⟩
  have hb4 := HB.out.drew.trans (hb3.mono (Nat.le_of_lt hlt1))
  exact ((((hb4.setCell (Nat.le_refl _) _).setCell (Nat.le_refl _) _).setCell (Nat.le_refl _) _).setCell (Nat.le_refl _) _).setCell (Nat.le_refl _) _

end Go.Proofs.YtjkfdjolhmgemaaGreatDoor
end

/-
  Contracts of package date's Format and Old.
-/
section
namespace Go.Proofs.YtjkfdjolhmgemaaGreatDoor
open Go.RowKit

/-- The five parts that a time is told by, in block g. -/
def Told5 (W : World) (g : Nat) (N B K : ByteArray) (E Y : Int) : Prop :=
  W.cell? ⟨g, 0, none⟩ = some (.string N) ∧ W.cell? ⟨g, 1, none⟩ = some (.string B) ∧ W.cell? ⟨g, 2, none⟩ = some (.string K) ∧ W.cell? ⟨g, 3, none⟩ = some (.int .i64 E) ∧ W.cell? ⟨g, 4, none⟩ = some (.int .i64 Y)
theorem Told5.new (w : World) (N B K : ByteArray) (E Y : Int) (t : Nat) : Told5 (w.alloc (.cells #[.string N, .string B, .string K, .int .i64 E, .int .i64 Y] t)).drew w.heap.size N B K E Y := by
  have h : (w.alloc (.cells #[.string N, .string B, .string K, .int .i64 E, .int .i64 Y] t)).drew.heap[w.heap.size]? = some (.cells #[.string N, .string B, .string K, .int .i64 E, .int .i64 Y] t (0, 0)) := heap_alloc_new w _
  refine ⟨?_, ?_, ?_, ?_, ?_⟩ <;> (rw [cell_of_row _ _ _ _ _ _ h]; rfl)
theorem Told5.kept {w w' : World} {g : Nat} {N B K : ByteArray} {E Y : Int} (hb : Below w.heap.size w w') (h : Told5 w g N B K E Y) : Told5 w' g N B K E Y :=
  ⟨cell_kept hb h.1, cell_kept hb h.2.1, cell_kept hb h.2.2.1, cell_kept hb h.2.2.2.1, cell_kept hb h.2.2.2.2⟩

set_option maxHeartbeats 3000000 in
set_option maxRecDepth 100000 in
theorem format_any (t : Int) (_h0 : -9223372036854775808 ≤ t ∧ t ≤ 9223372036854775807) (w : World) (HT : DatTabs w) :
    Calls Tryz.prog 110 #[.int .i64 t] w fun e w' => e = .returned (.string (mkS (fmtI t))) ∧ Below w.heap.size w w' := by
  by_cases k : t < 0 ∨ 253402300799 < t
  · have HR : Hid (fmtI t = []) := by show _ = _; unfold fmtI; rw [if_neg (by omega)]
    have c := tell_no t 253402300799 k
    unfold toldZ at c
    have C := Lib.hid c
    clear c k HT
    go_enter Tryz.func110, Tryz.ntmps110
    go_wp2_with fail
    refine (C.out _).mono ?_
    rintro e w1 ⟨rfl, hb⟩
    go_wp2_with fail
    go_ret
    exact ⟨by rw [HR.out]; rfl, hb.alloc (hb.size) _⟩
  obtain ⟨T, rfl⟩ := Int.eq_ofNat_of_zero_le (show 0 ≤ t by omega)
  obtain ⟨Y, M, E, hp⟩ := parts_of T (by omega)
  obtain ⟨⟨b1, b2⟩, ⟨b3, b4⟩, b5, b6⟩ := hp.bd
  have hci := hp.civ
  have hwl := wd_lt (T / 86400)
  have HR : Hid (mkS (fmtI (T : Int)) = (mkS (dayL (wdD (T / 86400)))).extract 0 3 ++ (⟨#[44, 32]⟩ : ByteArray) ++ mkS (padL (E : Int) 2) ++ (⟨#[32]⟩ : ByteArray) ++ mkS (monL M) ++ (⟨#[32]⟩ : ByteArray) ++ mkS (padL (Y : Int) 4) ++ (⟨#[32]⟩ : ByteArray) ++ mkS (clkL T) ++ (⟨#[32, 71, 77, 84]⟩ : ByteArray)) := by
    show _ = _
    unfold fmtI
    rw [if_pos ⟨by omega, by omega⟩, Int.toNat_natCast]
    unfold fmtL
    rw [hci, day3, show (⟨#[44, 32]⟩ : ByteArray) = mkS [44, 32] from rfl, show (⟨#[32]⟩ : ByteArray) = mkS [32] from rfl, show (⟨#[32, 71, 77, 84]⟩ : ByteArray) = mkS [32, 71, 77, 84] from rfl]
    simp only [mkS_append]
  have a1 := day_size _ hwl
  have a2 := pad2_size E (by omega)
  have a3 := mon_size M b3 b4
  have a4 := pad4_size Y b1 b2
  have a5 := clk_size T
  have c := fun W (hW : DatTabs W) => tell_yes T Y M E 253402300799 hp (by omega) W hW
  unfold toldR at c
  generalize mkS (dayL (wdD (T / 86400))) = N at *
  generalize hA : mkS (padL (E : Int) 2) = A at *
  have HA := Lib.hid hA
  clear hA
  generalize mkS (monL M) = B at *
  generalize hCC : mkS (padL (Y : Int) 4) = C at *
  have HCC := Lib.hid hCC
  clear hCC
  generalize mkS (clkL T) = K at *
  have HC := Lib.hid c
  have HT := Lib.hid HT
  clear hci hp c hwl
  go_enter Tryz.func110, Tryz.ntmps110
  go_wp2_with fail
  refine (HC.out _ HT.out).mono ?_
  rintro e w1 ⟨rfl, hb⟩
  go_wp2_with fail
  have hs3 : (3 : Int) ≤ (N.size : Int) := by omega
  have hmin : min 3 N.size = 3 := by omega
  have hb := (hb.alloc hb.size (.cells #[.string N, .string B, .string K, .int .i64 (E : Int), .int .i64 (Y : Int)] 149)).drew
  have hS := Told5.new w1 N B K E Y 149
  go_region_held3 (fun W => W.cell? ⟨w1.heap.size, 0, none⟩ = some (.string N) ∧ W.cell? ⟨w1.heap.size, 1, none⟩ = some (.string B) ∧ W.cell? ⟨w1.heap.size, 2, none⟩ = some (.string K) ∧ W.cell? ⟨w1.heap.size, 3, none⟩ = some (.int .i64 (E : Int)) ∧ W.cell? ⟨w1.heap.size, 4, none⟩ = some (.int .i64 (Y : Int))) (exact hS) (first
    | (go_at_call 136; refine (pad_any _ _ (by omega) (by omega) _ (HT.out.kept hb).pow).mono ?_; rintro e w3 ⟨he, hb3⟩; have hS := hS.kept hb3; have hb := below_then hb hb3; clear hb3; first | (rw [HA.out] at he; subst he) | (rw [HCC.out] at he; subst he)))
  go_wp2_with fail
  go_ret
  exact ⟨by rw [HR.out]; rfl, hb⟩

set_option maxHeartbeats 3000000 in
set_option maxRecDepth 100000 in
theorem old_any (t : Int) (_h0 : -9223372036854775808 ≤ t ∧ t ≤ 9223372036854775807) (w : World) (HT : DatTabs w) :
    Calls Tryz.prog 111 #[.int .i64 t] w fun e w' => e = .returned (.string (mkS (oldI t))) ∧ Below w.heap.size w w' := by
  by_cases k : t < 0 ∨ 3155759999 < t
  · have HR : Hid (oldI t = []) := by show _ = _; unfold oldI; rw [if_neg (by omega)]
    have c := tell_no t 3155759999 k
    unfold toldZ at c
    have C := Lib.hid c
    clear c k HT
    go_enter Tryz.func111, Tryz.ntmps111
    go_wp2_with fail
    refine (C.out _).mono ?_
    rintro e w1 ⟨rfl, hb⟩
    go_wp2_with fail
    go_ret
    exact ⟨by rw [HR.out]; rfl, hb.alloc (hb.size) _⟩
  obtain ⟨T, rfl⟩ := Int.eq_ofNat_of_zero_le (show 0 ≤ t by omega)
  obtain ⟨Y, M, E, hp⟩ := parts_of T (by omega)
  obtain ⟨⟨b1, b2⟩, ⟨b3, b4⟩, b5, b6⟩ := hp.bd
  have hci := hp.civ
  have hwl := wd_lt (T / 86400)
  have HR : Hid (mkS (oldI (T : Int)) = mkS (dayL (wdD (T / 86400))) ++ (⟨#[44, 32]⟩ : ByteArray) ++ mkS (padL (E : Int) 2) ++ (⟨#[45]⟩ : ByteArray) ++ mkS (monL M) ++ (⟨#[45]⟩ : ByteArray) ++ mkS (padL ((Y % 100 : Nat) : Int) 2) ++ (⟨#[32]⟩ : ByteArray) ++ mkS (clkL T) ++ (⟨#[32, 71, 77, 84]⟩ : ByteArray)) := by
    show _ = _
    unfold oldI
    rw [if_pos ⟨by omega, by omega⟩, Int.toNat_natCast]
    unfold oldL
    rw [hci, show (⟨#[44, 32]⟩ : ByteArray) = mkS [44, 32] from rfl, show (⟨#[45]⟩ : ByteArray) = mkS [45] from rfl, show (⟨#[32]⟩ : ByteArray) = mkS [32] from rfl, show (⟨#[32, 71, 77, 84]⟩ : ByteArray) = mkS [32, 71, 77, 84] from rfl]
    simp only [mkS_append]
  have a1 := day_size _ hwl
  have a2 := pad2_size E (by omega)
  have a3 := mon_size M b3 b4
  have a4 := pad2_size (Y % 100) (by omega)
  have a5 := clk_size T
  have c := fun W (hW : DatTabs W) => tell_yes T Y M E 3155759999 hp (by omega) W hW
  unfold toldR at c
  generalize mkS (dayL (wdD (T / 86400))) = N at *
  generalize hA : mkS (padL (E : Int) 2) = A at *
  have HA := Lib.hid hA
  clear hA
  generalize mkS (monL M) = B at *
  obtain ⟨q, hq⟩ : ∃ q : Int, q = ((Y % 100 : Nat) : Int) := ⟨_, rfl⟩
  have hq2 : 0 ≤ q ∧ q < 100 := by omega
  rw [← hq] at HR a4
  generalize hCC : mkS (padL q 2) = C at *
  have HCC := Lib.hid hCC
  clear hCC
  generalize mkS (clkL T) = K at *
  have HC := Lib.hid c
  have HT := Lib.hid HT
  clear hci hp c hwl
  have hN : N.size = 6 ∨ N.size = 7 ∨ N.size = 8 ∨ N.size = 9 := by omega
  clear a1
  rcases hN with a1 | a1 | a1 | a1
  all_goals
    go_enter Tryz.func111, Tryz.ntmps111
    go_wp2_with fail
    refine (HC.out _ HT.out).mono ?_
    rintro e w1 ⟨rfl, hb⟩
    go_wp2_with fail
    have i7 : (Y : Int).tmod 100 = q := by rw [Int.tmod_eq_emod_of_nonneg (by omega), hq]; omega
    have i8 : IntKind.i64.wrap q = q := IntWalk.i64_in _ (by omega)
    clear hq
    have hb := (hb.alloc hb.size (.cells #[.string N, .string B, .string K, .int .i64 (E : Int), .int .i64 (Y : Int)] 149)).drew
    have hS := Told5.new w1 N B K E Y 149
    go_region_held3 (fun W => W.cell? ⟨w1.heap.size, 0, none⟩ = some (.string N) ∧ W.cell? ⟨w1.heap.size, 1, none⟩ = some (.string B) ∧ W.cell? ⟨w1.heap.size, 2, none⟩ = some (.string K) ∧ W.cell? ⟨w1.heap.size, 3, none⟩ = some (.int .i64 (E : Int)) ∧ W.cell? ⟨w1.heap.size, 4, none⟩ = some (.int .i64 (Y : Int))) (exact hS) (first
      | (go_at_call 136; refine (pad_any _ _ (by omega) (by omega) _ (HT.out.kept hb).pow).mono ?_; rintro e w3 ⟨he, hb3⟩; have hS := hS.kept hb3; have hb := below_then hb hb3; clear hb3; first | (rw [HA.out] at he; subst he) | (rw [HCC.out] at he; subst he)))
    go_wp2_with fail
    go_ret
    exact ⟨by rw [HR.out]; rfl, hb⟩

end Go.Proofs.YtjkfdjolhmgemaaGreatDoor
end

/-
  Contract of package date's Plain.
-/
section
namespace Go.Proofs.YtjkfdjolhmgemaaGreatDoor
open Go.RowKit

set_option maxHeartbeats 3000000 in
set_option maxRecDepth 100000 in
theorem plain7_any (t : Int) (_h0 : -9223372036854775808 ≤ t ∧ t ≤ 9223372036854775807) (w : World) (HT : DatTabs w) :
    Calls Tryz.prog 112 #[.int .i64 t] w fun e w' => e = .returned (.string (mkS (plnI t))) ∧ Below w.heap.size w w' := by
  by_cases k : t < 0 ∨ 253402300799 < t
  · have HR : Hid (plnI t = []) := by show _ = _; unfold plnI; rw [if_neg (by omega)]
    have c := tell_no t 253402300799 k
    unfold toldZ at c
    have C := Lib.hid c
    clear c k HT
    go_enter Tryz.func112, Tryz.ntmps112
    go_wp2_with fail
    refine (C.out _).mono ?_
    rintro e w1 ⟨rfl, hb⟩
    go_wp2_with fail
    go_ret
    exact ⟨by rw [HR.out]; rfl, hb.alloc (hb.size) _⟩
  obtain ⟨T, rfl⟩ := Int.eq_ofNat_of_zero_le (show 0 ≤ t by omega)
  obtain ⟨Y, M, E, hp⟩ := parts_of T (by omega)
  obtain ⟨⟨b1, b2⟩, ⟨b3, b4⟩, b5, b6⟩ := hp.bd
  have hci := hp.civ
  have hwl := wd_lt (T / 86400)
  have HR : Hid (mkS (plnI (T : Int)) = (mkS (dayL (wdD (T / 86400)))).extract 0 3 ++ (⟨#[32]⟩ : ByteArray) ++ mkS (monL M) ++ (⟨#[32]⟩ : ByteArray) ++ mkS (twoL E) ++ (⟨#[32]⟩ : ByteArray) ++ mkS (clkL T) ++ (⟨#[32]⟩ : ByteArray) ++ mkS (padL (Y : Int) 4)) := by
    show _ = _
    unfold plnI
    rw [if_pos ⟨by omega, by omega⟩, Int.toNat_natCast]
    unfold plnL
    rw [hci, day3, show (⟨#[32]⟩ : ByteArray) = mkS [32] from rfl]
    simp only [mkS_append]
  have a1 := day_size _ hwl
  have a3 := mon_size M b3 b4
  have a4 := pad4_size Y b1 b2
  have a5 := clk_size T
  have hs3 : (3 : Int) ≤ ((mkS (dayL (wdD (T / 86400)))).size : Int) := by omega
  have hmin : min 3 (mkS (dayL (wdD (T / 86400)))).size = 3 := by omega
  have c := fun W (hW : DatTabs W) => tell_yes T Y M E 253402300799 hp (by omega) W hW
  unfold toldR at c
  generalize mkS (dayL (wdD (T / 86400))) = N at *
  generalize mkS (monL M) = B at *
  generalize hCC : mkS (padL (Y : Int) 4) = C at *
  have HCC := Lib.hid hCC
  clear hCC
  generalize mkS (clkL T) = K at *
  have HC := Lib.hid c
  have HT := Lib.hid HT
  clear hci hp c hwl
  by_cases h10 : E < 10
  · have hX : mkS (twoL E) = (⟨#[32]⟩ : ByteArray) ++ mkS (plainL (E : Int)) := by
      unfold twoL
      rw [if_pos h10, show (⟨#[32]⟩ : ByteArray) = mkS [32] from rfl, mkS_append]; rfl
    have hXs : (mkS (plainL (E : Int))).size = 1 := by rw [mkS_size, plain_one h10]; rfl
    rw [hX] at HR
    clear hX
    generalize hG : mkS (plainL (E : Int)) = G at *
    have HG := Lib.hid hG
    clear hG h10
    go_enter Tryz.func112, Tryz.ntmps112
    go_wp2_with fail
    refine (HC.out _ HT.out).mono ?_
    rintro e w1 ⟨rfl, hb⟩
    go_wp2_with fail
    have hb := hb.alloc hb.size (.cells #[.string N, .string B, .string K, .int .i64 (E : Int), .int .i64 (Y : Int)] 149)
    have hS := Told5.new w1 N B K E Y 149
    refine (plain_any _ (by omega) (by omega) _ (HT.out.kept hb).pow).mono ?_
    rintro e w2 ⟨he, hb2⟩
    rw [HG.out] at he
    subst he
    have hS := Told5.kept (w' := w2.drew) hb2.drew hS
    have hb := (below_then hb hb2).drew
    clear hb2
    go_wp2_with fail
    go_region_held3 (fun W => W.cell? ⟨w1.heap.size, 0, none⟩ = some (.string N) ∧ W.cell? ⟨w1.heap.size, 1, none⟩ = some (.string B) ∧ W.cell? ⟨w1.heap.size, 2, none⟩ = some (.string K) ∧ W.cell? ⟨w1.heap.size, 3, none⟩ = some (.int .i64 (E : Int)) ∧ W.cell? ⟨w1.heap.size, 4, none⟩ = some (.int .i64 (Y : Int))) (exact hS) (first
      | (go_at_call 136; refine (pad_any _ _ (by omega) (by omega) _ (HT.out.kept hb).pow).mono ?_; rintro e w3 ⟨he, hb3⟩; have hS := hS.kept hb3; have hb := below_then hb hb3; clear hb3; rw [HCC.out] at he; subst he))
    go_wp2_with fail
    go_ret
    exact ⟨by rw [HR.out]; rfl, hb⟩
  · have hX : mkS (twoL E) = mkS (plainL (E : Int)) := by
      unfold twoL
      rw [if_neg h10]
    have hXs : (mkS (plainL (E : Int))).size = 2 := by rw [mkS_size, plain_two (by omega) (by omega)]; rfl
    rw [hX] at HR
    clear hX
    generalize hG : mkS (plainL (E : Int)) = G at *
    have HG := Lib.hid hG
    clear hG h10
    go_enter Tryz.func112, Tryz.ntmps112
    go_wp2_with fail
    refine (HC.out _ HT.out).mono ?_
    rintro e w1 ⟨rfl, hb⟩
    go_wp2_with fail
    have hb := hb.alloc hb.size (.cells #[.string N, .string B, .string K, .int .i64 (E : Int), .int .i64 (Y : Int)] 149)
    have hS := Told5.new w1 N B K E Y 149
    refine (plain_any _ (by omega) (by omega) _ (HT.out.kept hb).pow).mono ?_
    rintro e w2 ⟨he, hb2⟩
    rw [HG.out] at he
    subst he
    have hS := Told5.kept (w' := w2.drew) hb2.drew hS
    have hb := (below_then hb hb2).drew
    clear hb2
    go_wp2_with fail
    go_region_held3 (fun W => W.cell? ⟨w1.heap.size, 0, none⟩ = some (.string N) ∧ W.cell? ⟨w1.heap.size, 1, none⟩ = some (.string B) ∧ W.cell? ⟨w1.heap.size, 2, none⟩ = some (.string K) ∧ W.cell? ⟨w1.heap.size, 3, none⟩ = some (.int .i64 (E : Int)) ∧ W.cell? ⟨w1.heap.size, 4, none⟩ = some (.int .i64 (Y : Int))) (exact hS) (first
      | (go_at_call 136; refine (pad_any _ _ (by omega) (by omega) _ (HT.out.kept hb).pow).mono ?_; rintro e w3 ⟨he, hb3⟩; have hS := hS.kept hb3; have hb := below_then hb hb3; clear hb3; rw [HCC.out] at he; subst he))
    go_wp2_with fail
    go_ret
    exact ⟨by rw [HR.out]; rfl, hb⟩

end Go.Proofs.YtjkfdjolhmgemaaGreatDoor
end

/-
  Contracts of package date's closures (numbers, names) and of fullYear.
-/
section
namespace Go.Proofs.YtjkfdjolhmgemaaGreatDoor
open Go.RowKit

/-- The number that stands in n bytes at a place of a text, behind blanks; 0 if it is none. -/
def nbrN (s : ByteArray) (a n : Nat) : Int := numN 10 18 9999 ((piece s a (a + n)).dropWhile (· == 32))
theorem nbrN_bd (s : ByteArray) (a n : Nat) : 0 ≤ nbrN s a n ∧ nbrN s a n ≤ 9999 := by
  unfold nbrN
  generalize (piece s a (a + n)).dropWhile (· == 32) = l
  have hv := valV_nn (b := 10) (by omega) l
  unfold numN
  split
  · omega
  · rename_i h
    have : ¬ (9999 < valV 10 l) := fun h' => h (.inr (.inr (.inr h')))
    omega

theorem numbers_any (s : ByteArray) (w : World) :
    Calls Tryz.prog 131 #[.string s] w fun e w' => e = .returned (.func (.func 150) #[] #[.pointer (some ⟨w.heap.size, 0, none⟩)]) ∧
      w.alloc (.cells #[.string s] 9) = w' := by
  have hmf : ∀ (fn : Fn) (first cap : Array Value) (w : World), (Instr.makeFunc fn first cap).run Tryz.prog w = .ok (.func fn first cap) w := fun _ _ _ _ => rfl
  go_enter Tryz.func131, Tryz.ntmps131
  go_wp2
  go_ret
  exact ⟨rfl, rfl⟩
theorem names_any (s : ByteArray) (w : World) :
    Calls Tryz.prog 132 #[.string s] w fun e w' => e = .returned (.func (.func 153) #[] #[.pointer (some ⟨w.heap.size, 0, none⟩)]) ∧
      w.alloc (.cells #[.string s] 9) = w' := by
  have hmf : ∀ (fn : Fn) (first cap : Array Value) (w : World), (Instr.makeFunc fn first cap).run Tryz.prog w = .ok (.func fn first cap) w := fun _ _ _ _ => rfl
  go_enter Tryz.func132, Tryz.ntmps132
  go_wp2
  go_ret
  exact ⟨rfl, rfl⟩

theorem p_number (s : ByteArray) (P A n : Nat) (h : A + n ≤ s.size) (hs : s.size ≤ 10000) (w : World) (hp : w.cell? ⟨P, 0, none⟩ = some (.string s)) :
    Calls Tryz.prog 150 #[.int .i64 (A : Int), .int .i64 (n : Int), .pointer (some ⟨P, 0, none⟩)] w fun e w' => e = .returned (.int .i64 (nbrN s A n)) ∧ Below w.heap.size w w' := by
  have hx1 : (A : Int) + n ≤ (s.size : Int) := by omega
  have hx2 : (A : Int) ≤ (A : Int) + n := by omega
  have hx3 : (0 : Int) ≤ (A : Int) + n := by omega
  have hx4 : ((A : Int) + n).toNat = A + n := by omega
  have hl : (s.extract A (A + n)).data.toList = piece s A (A + n) := by rw [piece_ext]; rfl
  have c1 := fun W => Tryz.strings_TrimLeft_one (s.extract A (A + n)) 32 (by decide) W
  unfold Lib.trimLeftB at c1
  rw [hl] at c1
  have HR : Hid (nbrN s A n = numN 10 18 9999 (mkS ((piece s A (A + n)).dropWhile (· == 32))).data.toList) := rfl
  have e1 : (⟨((piece s A (A + n)).dropWhile (· == 32)).toArray⟩ : ByteArray) = mkS ((piece s A (A + n)).dropWhile (· == 32)) := rfl
  rw [e1] at c1
  generalize mkS ((piece s A (A + n)).dropWhile (· == 32)) = X at *
  have C1 := Lib.hid c1
  clear c1 hl e1
  go_enter Tryz.func150, Tryz.ntmps150
  go_wp2_with fail
  refine (C1.out _).mono ?_
  rintro e w1 ⟨rfl, rfl⟩
  go_wp2_with fail
  refine (Number_any _ _ _).mono ?_
  rintro e w2 ⟨he, hb⟩
  rw [← HR.out] at he
  generalize numE 10 18 9999 X.data.toList = G at *
  subst he
  go_wp2_with fail
  go_ret
  exact ⟨rfl, hb⟩

theorem p_fullYear (n : Int) (h : 0 ≤ n ∧ n ≤ 9999) (w : World) :
    Calls Tryz.prog 133 #[.int .i64 n] w fun e w' => e = .returned (.int .i64 (if n + 1900 < 1970 then n + 1900 + 100 else n + 1900)) ∧ w = w' := by
  by_cases h1 : n + 1900 < 1970
  · rw [if_pos h1]
    go_enter Tryz.func133, Tryz.ntmps133
    go_wp2_with fail
    go_ret
    exact ⟨rfl, rfl⟩
  · rw [if_neg h1]
    go_enter Tryz.func133, Tryz.ntmps133
    go_wp2_with fail
    go_ret
    exact ⟨rfl, rfl⟩

theorem mon_cut : ∀ k : Nat, k < 12 → monVs.toArray.extract (k * 2) (k * 2 + 2) = #[.string (mkS (monL (k + 1))), .int .i64 ((longs.getD k 0 : Nat) : Int)]
  | 0, _ | 1, _ | 2, _ | 3, _ | 4, _ | 5, _ | 6, _ | 7, _ | 8, _ | 9, _ | 10, _ | 11, _ => rfl
  | n + 12, h => by omega
theorem mon_index (W : World) (k : Nat) (hk : k < 12) : (Instr.index 165 (.agg monVs.toArray) (.int .i64 (k : Int))).run Tryz.prog W = .ok (.agg #[.string (mkS (monL (k + 1))), .int .i64 ((longs.getD k 0 : Nat) : Int)]) W := by
  rw [run_index_agg (m := 2) Tryz.underlying165 Tryz.underlying164 rfl (by kernel_rfl) _ _ _ (by omega) (by omega), Int.toNat_natCast, mon_cut k hk]

theorem mon_prefix (m : Nat) (h0 : 1 ≤ m) (h1 : m ≤ 12) (l : List UInt8) : Lib.hasPrefix l (monL m) = decide (monL m = l.take 3) := by
  have hl := mon_len m h0 h1
  unfold Lib.hasPrefix
  rw [Bool.eq_iff_iff, List.isPrefixOf_iff_prefix, List.prefix_iff_eq_take, hl, decide_eq_true_iff]
theorem mFind_bd (l : List UInt8) : ∀ f m : Nat, m ≤ mFind l f m ∧ mFind l f m ≤ m + f
  | 0, m => ⟨Nat.le_refl _, Nat.le_refl _⟩
  | f + 1, m => by
    have := mFind_bd l f (m + 1)
    unfold mFind
    split <;> omega

/-- The month whose name stands at a place of a text, or 0. -/
def monN (s : ByteArray) (a : Nat) : Int := if mIdx ((s.data.toList.drop a).take 3) = 13 then 0 else (mIdx ((s.data.toList.drop a).take 3) : Nat)
theorem monN_bd (s : ByteArray) (a : Nat) : 0 ≤ monN s a ∧ monN s a ≤ 12 := by
  have := mFind_bd ((s.data.toList.drop a).take 3) 12 1
  unfold monN mIdx
  split <;> omega

set_option maxHeartbeats 2000000 in
set_option maxRecDepth 100000 in
theorem p_name (s : ByteArray) (P A : Nat) (h : A ≤ s.size) (w : World) (HT : DatTabs w) (hp : w.cell? ⟨P, 0, none⟩ = some (.string s)) :
    Calls Tryz.prog 153 #[.int .i64 (A : Int), .pointer (some ⟨P, 0, none⟩)] w fun e w' => e = .returned (.int .i64 (monN s A)) ∧ Below w.heap.size w w' := by
  obtain ⟨ty, fr, hblk⟩ := var_block (g := 3) (by kernel_rfl) HT.mons
  have hidx := mon_index
  have hsz : monVs.toArray.size = 24 := rfl
  have hms : (Tryz.prog.info? 165).map (·.size) = some monVs.toArray.size := by rw [hsz]; kernel_rfl
  generalize monVs.toArray = MA at *
  have hx1 : (A : Int) ≤ (s.size : Int) := by omega
  have hx0 : (0 : Int) ≤ (A : Int) := by omega
  have hls : (s.extract A s.size).data.toList = s.data.toList.drop A := by
    rw [piece_ext]
    unfold piece
    rw [List.take_of_length_le (by rw [List.length_drop, ← Lib.size_eq]; omega)]; rfl
  obtain ⟨l, hl⟩ : ∃ l, l = (s.data.toList.drop A).take 3 := ⟨_, rfl⟩
  obtain ⟨R, hR⟩ : ∃ R, R = mIdx l := ⟨_, rfl⟩
  have HR : Hid (monN s A = if R = 13 then 0 else (R : Int)) := by
    show _ = _
    rw [hR, hl]; rfl
  have HRR : Hid (mFind l (12 - 0) (0 + 1) = R) := hR.symm
  obtain ⟨X, hX⟩ : ∃ X, X = s.extract A s.size := ⟨_, rfl⟩
  have HX : Hid (∀ m, 1 ≤ m → m ≤ 12 → Lib.hasPrefix X.data.toList (mkS (monL m)).data.toList = decide (monL m = l)) := by
    intro m h0 h1
    rw [hX, hls, mkS_list, hl]
    exact mon_prefix m h0 h1 _
  have HM := Lib.hid hms
  have HB := Lib.hid hblk
  have HI := Lib.hid hidx
  have HXE := Lib.hid hX
  clear hms hblk hidx hR hls hsz HT hX hl
  go_enter Tryz.func153, Tryz.ntmps153
  go_wp2_with (refine wpList_load_row rfl _ _ rfl 3 rfl ty MA fr _ HB.out Tryz.underlying165 rfl HM.out ?_)
  go_loopw [7] (fun i wr => ∃ k : Nat, k ≤ 12 ∧ i = .int .i64 (k : Int) ∧ Hid (mFind l (12 - k) (k + 1) = R) ∧ Below w.heap.size w wr) (fun i _ => 12 - (intOf i).toNat)
  case atStart => exact ⟨0, Nat.zero_le _, rfl, HRR, Below.refl _ _⟩
  case round =>
    obtain ⟨k, hk, rfl, hf, hbel⟩ := hrel
    by_cases hlt : k < 12
    · have hik := fun W => HI.out W k hlt
      have hpx := HX.out (k + 1) (by omega) (by omega)
      have hs3 : (mkS (monL (k + 1))).size = 3 := mon_size (k + 1) (by omega) (by omega)
      have hcp := cell_kept hbel hp
      have HS : Hid (monL (k + 1) = l → R = k + 1) := fun h => by
        have := hf.out
        rw [show 12 - k = 11 - k + 1 by omega, mFind_hit l _ _ h] at this
        exact this.symm
      have HN : Hid (¬ monL (k + 1) = l → mFind l (12 - (k + 1)) (k + 1 + 1) = R) := fun h => by
        have := hf.out
        rw [show 12 - k = 11 - k + 1 by omega, mFind_miss l _ _ h] at this
        rwa [show 12 - (k + 1) = 11 - k by omega]
      have hPl : P < wr.heap.size := World.block_lt_of_cell? wr _ hcp
      have hw1 : (wr.alloc (.cells #[.string (mkS (monL (k + 1))), .int .i64 ((longs.getD k 0 : Nat) : Int)] 164)).drew.cell? ⟨P, 0, none⟩ = some (.string s) := cell_kept (((Below.refl _ _).alloc (Nat.le_refl _) _).drew) hcp
      have hw2 : (wr.alloc (.cells #[.string (mkS (monL (k + 1))), .int .i64 ((longs.getD k 0 : Nat) : Int)] 164)).drew.cell? ⟨wr.heap.size, 0, none⟩ = some (.string (mkS (monL (k + 1)))) := by
        have h := heap_alloc_new wr (.cells #[.string (mkS (monL (k + 1))), .int .i64 ((longs.getD k 0 : Nat) : Int)] 164)
        exact (cell_of_row _ _ 0 _ _ _ h).trans rfl
      have hbx := (hbel.alloc hbel.size (.cells #[.string (mkS (monL (k + 1))), .int .i64 ((longs.getD k 0 : Nat) : Int)] 164)).drew
      have hxs : s.extract A s.size = X := HXE.out.symm
      have c := fun W => Tryz.strings_HasPrefix X (mkS (monL (k + 1))) W
      rw [hpx] at c
      generalize mkS (monL (k + 1)) = N at *
      generalize longs.getD k 0 = L at *
      by_cases he : monL (k + 1) = l
      · rw [decide_eq_true he] at c
        have HR2 := HS.out he
        have HR3 : Hid (monN s A = ((k + 1 : Nat) : Int)) := by
          show _ = _
          rw [HR.out, HR2, if_neg (by omega)]
        have C := Lib.hid c
        have HBX := Lib.hid hbx
        clear he HS HN hf hpx c HR2 hbx hcp hPl
        go_wp2_with fail
        go_region_held3 (fun W => W.cell? ⟨P, 0, none⟩ = some (.string s) ∧ W.cell? ⟨wr.heap.size, 0, none⟩ = some (.string N)) (exact ⟨hw1, hw2⟩) (first | (go_at_call 154; refine (C.out _).mono ?_; rintro e w' ⟨rfl, hww⟩; subst hww))
        go_wp2_with fail
        go_ret
        exact ⟨by rw [HR3.out]; rfl, HBX.out⟩
      · rw [decide_eq_false he] at c
        have HNN := Lib.hid (HN.out he)
        have C := Lib.hid c
        have HBX := Lib.hid hbx
        clear he HS HN hf hpx c hbx hcp hPl
        go_wp2_with fail
        go_region_held3 (fun W => W.cell? ⟨P, 0, none⟩ = some (.string s) ∧ W.cell? ⟨wr.heap.size, 0, none⟩ = some (.string N)) (exact ⟨hw1, hw2⟩) (first | (go_at_call 154; refine (C.out _).mono ?_; rintro e w' ⟨rfl, hww⟩; subst hww))
        go_wp2_with fail
        go_roundw
        case rel => exact ⟨k + 1, by omega, by go_num, HNN, HBX.out⟩
        case measure => simp [intOf]; omega
    · have HR3 : Hid (monN s A = 0) := by
        show _ = _
        have := hf.out
        rw [show k = 12 by omega] at this
        rw [HR.out, if_pos (show R = 13 from this.symm)]
      clear hf
      go_wp2_with fail
      go_ret
      exact ⟨by rw [HR3.out]; rfl, hbel⟩

end Go.Proofs.YtjkfdjolhmgemaaGreatDoor
end
