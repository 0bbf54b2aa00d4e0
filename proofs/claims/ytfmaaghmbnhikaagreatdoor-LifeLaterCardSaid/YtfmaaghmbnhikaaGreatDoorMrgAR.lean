/-
  Texts that the laws of this seat lean on, one behind the other.
-/
import Derived.Test.YtfmaaghmbnhikaaGreatDoorMrgAQ
import Derived.Test.YtfmaaghmbnhikaaGreatDoorMrgAB
import Derived.Test.YtfmaaghmbnhikaaGreatDoorMrgAF
/-
  Contracts of package date's clock and tell.
-/
section
namespace Go.Proofs.YtfmaaghmbnhikaaGreatDoor
open Go.RowKit

theorem p_clock (S t : Nat) (hS : S = t % 86400) (w : World) (HT : DatTabs w) :
    Calls Tryz.prog 138 #[.int .i64 (S : Int)] w fun e w' => e = .returned (.string (mkS (clkL t))) ∧ Below w.heap.size w w' := by
  have hS2 : S < 86400 := by omega
  have a1 := pad2_size (S / 3600) (by omega)
  have a2 := pad2_size (S / 60 % 60) (by omega)
  have a3 := pad2_size (S % 60) (by omega)
  have HR : Hid (mkS (clkL t) = mkS (padL ((S / 3600 : Nat) : Int) 2) ++ (⟨#[58]⟩ : ByteArray) ++ mkS (padL ((S / 60 % 60 : Nat) : Int) 2) ++ (⟨#[58]⟩ : ByteArray) ++ mkS (padL ((S % 60 : Nat) : Int) 2)) := by
    show _ = _
    rw [show (⟨#[58]⟩ : ByteArray) = mkS [58] from rfl, mkS_append, mkS_append, mkS_append, mkS_append]
    unfold clkL
    rw [← hS]
  have HT := Lib.hid HT
  clear hS
  go_enter Tryz.func138, Tryz.ntmps138
  go_wp2_with fail
  refine (pad_any _ _ (by omega) (by omega) _ HT.out.pow).mono ?_
  rintro e w1 ⟨he, hb⟩
  rw [show (S : Int) / 3600 = ((S / 3600 : Nat) : Int) by omega] at he
  generalize mkS (padL ((S / 3600 : Nat) : Int) 2) = A at *
  subst he
  go_wp2_with fail
  refine (pad_any _ _ (by omega) (by omega) _ (HT.out.kept hb).pow).mono ?_
  rintro e w2 ⟨he, hb2⟩
  have hb := below_then hb hb2
  clear hb2
  rw [show (S : Int) % 3600 / 60 = ((S / 60 % 60 : Nat) : Int) by omega] at he
  generalize mkS (padL ((S / 60 % 60 : Nat) : Int) 2) = B at *
  subst he
  go_wp2_with fail
  refine (pad_any _ _ (by omega) (by omega) _ (HT.out.kept hb).pow).mono ?_
  rintro e w3 ⟨he, hb3⟩
  have hb := below_then hb hb3
  clear hb3
  rw [show (S : Int) % 60 = ((S % 60 : Nat) : Int) by omega] at he
  generalize mkS (padL ((S % 60 : Nat) : Int) 2) = C at *
  subst he
  go_wp2_with fail
  go_ret
  exact ⟨by rw [HR.out]; rfl, hb⟩

theorem DatTabs.day {w : World} (h : DatTabs w) (n : Nat) (hn : n < 7) : w.cell? ⟨3, n, none⟩ = some (.string (mkS (dayL n))) := by
  rw [World.var?_cell (by kernel_rfl) h.days n]
  have := dayVs_at n hn
  simpa using this
theorem DatTabs.lt {w : World} (h : DatTabs w) : 2 < w.heap.size ∧ 3 < w.heap.size := by
  obtain ⟨t, fr, h1⟩ := var_block (g := 2) (by kernel_rfl) h.mons
  obtain ⟨t, fr, h2⟩ := var_block (g := 3) (by kernel_rfl) h.days
  exact ⟨(Array.getElem?_eq_some_iff.1 h1).1, (Array.getElem?_eq_some_iff.1 h2).1⟩

theorem p_weekday (n : Nat) (w : World) (hn : n ≤ 2932896) :
    Calls Tryz.prog 137 #[.int .i64 (n : Int)] w fun e w' => e = .returned (.int .i64 ((wdD n : Nat) : Int)) ∧ w = w' := by
  have HR : Hid (((wdD n : Nat) : Int) = ((n : Int) % 7 + 4) % 7) := by
    show _ = _
    unfold wdD
    omega
  go_enter Tryz.func137, Tryz.ntmps137
  go_wp2_with fail
  go_ret
  exact ⟨by rw [HR.out]; rfl, rfl⟩

theorem told_one (N B K : ByteArray) (E Y : Int) : (#[Value.string N, .string B, .string K, .int .i64 E, .int .i64 Y] : Array Value).all (·.oneCell') = true := by simp [Value.oneCell']
/-- What a time is told by, as the cells of a struct. -/
def toldR (T Y M E : Nat) : Array Value := #[.string (mkS (dayL (wdD (T / 86400)))), .string (mkS (monL M)), .string (mkS (clkL T)), .int .i64 (E : Int), .int .i64 (Y : Int)]
def toldZ : Array Value := #[.string ⟨#[]⟩, .string ⟨#[]⟩, .string ⟨#[]⟩, .int .i64 0, .int .i64 0]

theorem told_cells {W : World} {g t : Nat} (h : W.heap[g]? = some (.cells toldZ t (0, 0))) :
    W.cell? ⟨g, 0, none⟩ = some (.string ⟨#[]⟩) ∧ W.cell? ⟨g, 1, none⟩ = some (.string ⟨#[]⟩) ∧ W.cell? ⟨g, 2, none⟩ = some (.string ⟨#[]⟩) ∧ W.cell? ⟨g, 3, none⟩ = some (.int .i64 0) ∧ W.cell? ⟨g, 4, none⟩ = some (.int .i64 0) ∧
    W.frozen? ⟨g, 0, none⟩ = false ∧ W.frozen? ⟨g, 1, none⟩ = false ∧ W.frozen? ⟨g, 2, none⟩ = false ∧ W.frozen? ⟨g, 3, none⟩ = false ∧ W.frozen? ⟨g, 4, none⟩ = false := by
  refine ⟨?_, ?_, ?_, ?_, ?_, ?_, ?_, ?_, ?_, ?_⟩
  any_goals (rw [cell_of_row W g _ _ _ _ h]; rfl)
  all_goals simp [World.frozen?, h]

theorem told_other {W : World} {g b j : Nat} {v c0 c1 c2 c3 c4 : Value} (hn : b ≠ g) (h : W.cell? ⟨b, j, none⟩ = some v) :
    (((((W.setCell ⟨g, 0, none⟩ c0).setCell ⟨g, 1, none⟩ c1).setCell ⟨g, 2, none⟩ c2).setCell ⟨g, 3, none⟩ c3).setCell ⟨g, 4, none⟩ c4).cell? ⟨b, j, none⟩ = some v := by
  have e : ∀ k : Nat, (⟨g, k, none⟩ : Addr) ≠ ⟨b, j, none⟩ := fun k he => hn (congrArg Addr.block he).symm
  rw [World.cell?_setCell_other (h := e 4), World.cell?_setCell_other (h := e 3), World.cell?_setCell_other (h := e 2), World.cell?_setCell_other (h := e 1), World.cell?_setCell_other (h := e 0)]
  exact h
theorem told_set {W : World} {g t : Nat} {c0 c1 c2 c3 c4 : Value} (h : W.heap[g]? = some (.cells toldZ t (0, 0))) :
    (((((W.setCell ⟨g, 0, none⟩ c0).setCell ⟨g, 1, none⟩ c1).setCell ⟨g, 2, none⟩ c2).setCell ⟨g, 3, none⟩ c3).setCell ⟨g, 4, none⟩ c4).heap[g]? = some (.cells #[c0, c1, c2, c3, c4] t (0, 0)) := by
  simp [World.setCell, Array.getElem?_modify, h, toldZ]

set_option maxHeartbeats 3000000 in
set_option maxRecDepth 100000 in
theorem tell_no (t last : Int) (h : t < 0 ∨ last < t) (w : World) :
    Calls Tryz.prog 100 #[.int .i64 t, .int .i64 last] w fun e w' => e = .returned (.tuple #[.agg toldZ, .bool false]) ∧ Below w.heap.size w w' := by
  have HZ : Hid ((w.alloc (.cells toldZ 108)).heap[w.heap.size]? = some (.cells toldZ 108 (0, 0))) := heap_alloc_new _ _
  have hb : Below w.heap.size w (w.alloc (.cells toldZ 108)) := (Below.refl _ _).alloc (Nat.le_refl _) _
  by_cases h0 : t < 0
  · clear h
    go_enter Tryz.func100, Tryz.ntmps100
    go_wp2_with fail
    refine bodyPost_ret (results_cell_row_tmp rfl _ _ w.heap.size 108 toldZ (0, 0) _ rfl HZ.out Tryz.underlying108 rfl (by kernel_rfl)) rfl ?_
    exact ⟨rfl, hb⟩
  · have h1 : last < t := h.resolve_left h0
    clear h
    go_enter Tryz.func100, Tryz.ntmps100
    go_wp2_with fail
    refine bodyPost_ret (results_cell_row_tmp rfl _ _ w.heap.size 108 toldZ (0, 0) _ rfl HZ.out Tryz.underlying108 rfl (by kernel_rfl)) rfl ?_
    exact ⟨rfl, hb⟩

set_option maxHeartbeats 3000000 in
set_option maxRecDepth 100000 in
theorem tell_yes (T Y M E : Nat) (last : Int) (hp : Parts T Y M E) (hl : (T : Int) ≤ last) (w : World) (HT : DatTabs w) :
    Calls Tryz.prog 100 #[.int .i64 (T : Int), .int .i64 last] w fun e w' => e = .returned (.tuple #[.agg (toldR T Y M E), .bool true]) ∧ Below w.heap.size w w' := by
  have hc := hp.civil
  obtain ⟨⟨b1, b2⟩, ⟨b3, b4⟩, b5, b6⟩ := hp.bd
  have hle := hp.le
  have hwl := wd_lt (T / 86400)
  have hlt0 := HT.lt
  have HT2 := HT.kept ((Below.refl w.heap.size w).alloc (Nat.le_refl _) (.cells toldZ 108))
  have hb0 : Below w.heap.size w (w.alloc (.cells toldZ 108)) := (Below.refl _ _).alloc (Nat.le_refl _) _
  have HZ : Hid ((w.alloc (.cells toldZ 108)).heap[w.heap.size]? = some (.cells toldZ 108 (0, 0))) := heap_alloc_new _ _
  have c1 := fun W (hW : DatTabs W) => civil_any ((T : Int) / 86400) (by omega) W hW
  rw [hc.1, hc.2.1, hc.2.2.1, hc.2.2.2] at c1
  have c2 := fun W => p_weekday (T / 86400) W (by omega)
  rw [show ((T / 86400 : Nat) : Int) = (T : Int) / 86400 by omega] at c2
  have c3 := fun W (hW : DatTabs W) => p_clock (T % 86400) T rfl W hW
  rw [show ((T % 86400 : Nat) : Int) = (T : Int) % 86400 by omega] at c3
  have HR : Hid (toldR T Y M E = #[.string (mkS (dayL (wdD (T / 86400)))), .string (mkS (monL M)), .string (mkS (clkL T)), .int .i64 (E : Int), .int .i64 (Y : Int)]) := rfl
  have d1 := fun (W : World) (hW : DatTabs W) => hW.day (wdD (T / 86400)) hwl
  have d2 := fun (W : World) (hW : DatTabs W) => hW.mon_name (M - 1) (by omega)
  rw [show M - 1 + 1 = M by omega] at d2
  generalize mkS (dayL (wdD (T / 86400))) = N at *
  generalize mkS (monL M) = B at *
  generalize mkS (clkL T) = K at *
  generalize wdD (T / 86400) = V at *
  generalize toldR T Y M E = TR at *
  have D1 := Lib.hid d1
  have D2 := Lib.hid d2
  have C1 := Lib.hid c1
  have C2 := Lib.hid c2
  have C3 := Lib.hid c3
  have HT := Lib.hid HT2
  have HB := Lib.hid hb0
  clear hc hp c1 c2 c3 d1 d2 hb0 HT2
  go_enter Tryz.func100, Tryz.ntmps100
  go_wp2_with fail
  refine (C1.out _ HT.out).mono ?_
  rintro e w1 ⟨rfl, hb⟩
  have HT := Lib.hid (HT.out.kept hb)
  have hz : w1.heap[w.heap.size]? = some (.cells toldZ 108 (0, 0)) := (hb.block _ (by simp)).trans HZ.out
  have HB := Lib.hid (HB.out.trans (hb.mono (by simp)))
  clear hb HZ
  have hd1 := D1.out w1.drew (HT.out.kept (Below.refl _ _).drew)
  have hd2 := D2.out w1.drew (HT.out.kept (Below.refl _ _).drew)
  go_wp2_with fail
  have i1 : (0 : Int) ≤ (V : Int) := by omega
  have i2 : (V : Int) < 7 := by omega
  obtain ⟨q, hq⟩ : ∃ q : Int, q = (M : Int) - 1 := ⟨_, rfl⟩
  have i3 : (0 : Int) ≤ q := by omega
  have i4 : q < 12 := by omega
  have i5 : q.toNat = M - 1 := by omega
  have i6 : IntKind.i64.wrap ((M : Int) - 1) = q := (IntWalk.i64_in _ (by omega)).trans hq.symm
  have i7 : (T : Int).tmod 86400 = (T : Int) % 86400 := Int.tmod_eq_emod_of_nonneg (by omega)
  have i8 : IntKind.i64.wrap ((T : Int) % 86400) = (T : Int) % 86400 := IntWalk.i64_in _ (by omega)
  clear hq
  have hn1 := Nat.ne_of_lt hlt0.2
  have hn2 := Nat.ne_of_lt hlt0.1
  have hlt1 : w.heap.size < w1.heap.size := (Array.getElem?_eq_some_iff.1 hz).1
  go_region_held3 (fun w' => w'.cell? ⟨3, V, none⟩ = some (.string N) ∧ w'.cell? ⟨2, (M - 1) * 2, none⟩ = some (.string B)) (first | with_reducible exact ⟨hd1, hd2⟩ | with_reducible exact ⟨cell_kept hb3 hd1, cell_kept hb3 hd2⟩ | with_reducible exact ⟨told_other hn1 (cell_kept hb3 hd1), told_other hn2 (cell_kept hb3 hd2)⟩) (first
    | (go_at_call 137; refine (C2.out _).mono ?_; rintro e w' ⟨rfl, rfl⟩)
    | (go_at_call 138; refine (C3.out _ (HT.out.kept (Below.refl _ _).drew)).mono ?_; rintro e w3 ⟨rfl, hb3⟩; have hz3 := (hb3.block _ hlt1).trans hz; obtain ⟨z0, z1, z2, z3, z4, y0, y1, y2, y3, y4⟩ := told_cells hz3))
  go_wp2_with fail
  refine bodyPost_ret (results_cell_row_tmp rfl _ _ w.heap.size 108 #[.string N, .string B, .string K, .int .i64 (E : Int), .int .i64 (Y : Int)] (0, 0) _ rfl (told_set hz3) Tryz.underlying108 rfl (by kernel_rfl)) rfl ?_
  refine ⟨by rw [HR.out]; rfl, ?_⟩
  have hb4 := HB.out.drew.trans (hb3.mono (Nat.le_of_lt hlt1))
  exact ((((hb4.setCell (Nat.le_refl _) _).setCell (Nat.le_refl _) _).setCell (Nat.le_refl _) _).setCell (Nat.le_refl _) _).setCell (Nat.le_refl _) _

end Go.Proofs.YtfmaaghmbnhikaaGreatDoor
end

/-
  Contracts of package date's Format and Old.
-/
section
namespace Go.Proofs.YtfmaaghmbnhikaaGreatDoor
open Go.RowKit

/-- The five parts that a time is told by, in block g. -/
def Told5 (W : World) (g : Nat) (N B K : ByteArray) (E Y : Int) : Prop :=
  W.cell? ⟨g, 0, none⟩ = some (.string N) ∧ W.cell? ⟨g, 1, none⟩ = some (.string B) ∧ W.cell? ⟨g, 2, none⟩ = some (.string K) ∧ W.cell? ⟨g, 3, none⟩ = some (.int .i64 E) ∧ W.cell? ⟨g, 4, none⟩ = some (.int .i64 Y)
theorem Told5.new (w : World) (N B K : ByteArray) (E Y : Int) (t : Nat) : Told5 (w.alloc (.cells #[.string N, .string B, .string K, .int .i64 E, .int .i64 Y] t)).drew w.heap.size N B K E Y := by
  have h : (w.alloc (.cells #[.string N, .string B, .string K, .int .i64 E, .int .i64 Y] t)).drew.heap[w.heap.size]? = some (.cells #[.string N, .string B, .string K, .int .i64 E, .int .i64 Y] t (0, 0)) := heap_alloc_new w _
  refine ⟨?_, ?_, ?_, ?_, ?_⟩ <;> (rw [cell_of_row _ _ _ _ _ _ h]; rfl)
theorem Told5.kept {w w' : World} {g : Nat} {N B K : ByteArray} {E Y : Int} (hb : Below w.heap.size w w') (h : Told5 w g N B K E Y) : Told5 w' g N B K E Y :=
  ⟨cell_kept hb h.1, cell_kept hb h.2.1, cell_kept hb h.2.2.1, cell_kept hb h.2.2.2.1, cell_kept hb h.2.2.2.2⟩

set_option maxHeartbeats 3000000 in
set_option maxRecDepth 100000 in
theorem format_any (t : Int) (_h0 : -9223372036854775808 ≤ t ∧ t ≤ 9223372036854775807) (w : World) (HT : DatTabs w) :
    Calls Tryz.prog 63 #[.int .i64 t] w fun e w' => e = .returned (.string (mkS (fmtI t))) ∧ Below w.heap.size w w' := by
  by_cases k : t < 0 ∨ 253402300799 < t
  · have HR : Hid (fmtI t = []) := by show _ = _; unfold fmtI; rw [if_neg (by omega)]
    have c := tell_no t 253402300799 k
    unfold toldZ at c
    have C := Lib.hid c
    clear c k HT
    go_enter Tryz.func63, Tryz.ntmps63
    go_wp2_with fail
    refine (C.out _).mono ?_
    rintro e w1 ⟨rfl, hb⟩
    go_wp2_with fail
    go_ret
    exact ⟨by rw [HR.out]; rfl, hb.alloc (hb.size) _⟩
  obtain ⟨T, rfl⟩ := Int.eq_ofNat_of_zero_le (show 0 ≤ t by omega)
  obtain ⟨Y, M, E, hp⟩ := parts_of T (by omega)
  obtain ⟨⟨b1, b2⟩, ⟨b3, b4⟩, b5, b6⟩ := hp.bd
  have hci := hp.civ
  have hwl := wd_lt (T / 86400)
  have HR : Hid (mkS (fmtI (T : Int)) = (mkS (dayL (wdD (T / 86400)))).extract 0 3 ++ (⟨#[44, 32]⟩ : ByteArray) ++ mkS (padL (E : Int) 2) ++ (⟨#[32]⟩ : ByteArray) ++ mkS (monL M) ++ (⟨#[32]⟩ : ByteArray) ++ mkS (padL (Y : Int) 4) ++ (⟨#[32]⟩ : ByteArray) ++ mkS (clkL T) ++ (⟨#[32, 71, 77, 84]⟩ : ByteArray)) := by
    show _ = _
    unfold fmtI
    rw [if_pos ⟨by omega, by omega⟩, Int.toNat_natCast]
    unfold fmtL
    rw [hci, day3, show (⟨#[44, 32]⟩ : ByteArray) = mkS [44, 32] from rfl, show (⟨#[32]⟩ : ByteArray) = mkS [32] from rfl, show (⟨#[32, 71, 77, 84]⟩ : ByteArray) = mkS [32, 71, 77, 84] from rfl]
    simp only [mkS_append]
  have a1 := day_size _ hwl
  have a2 := pad2_size E (by omega)
  have a3 := mon_size M b3 b4
  have a4 := pad4_size Y b1 b2
  have a5 := clk_size T
  have c := fun W (hW : DatTabs W) => tell_yes T Y M E 253402300799 hp (by omega) W hW
  unfold toldR at c
  generalize mkS (dayL (wdD (T / 86400))) = N at *
  generalize hA : mkS (padL (E : Int) 2) = A at *
  have HA := Lib.hid hA
  clear hA
  generalize mkS (monL M) = B at *
  generalize hCC : mkS (padL (Y : Int) 4) = C at *
  have HCC := Lib.hid hCC
  clear hCC
  generalize mkS (clkL T) = K at *
  have HC := Lib.hid c
  have HT := Lib.hid HT
  clear hci hp c hwl
  go_enter Tryz.func63, Tryz.ntmps63
  go_wp2_with fail
  refine (HC.out _ HT.out).mono ?_
  rintro e w1 ⟨rfl, hb⟩
  go_wp2_with fail
  have hs3 : (3 : Int) ≤ (N.size : Int) := by omega
  have hmin : min 3 N.size = 3 := by omega
  have hb := (hb.alloc hb.size (.cells #[.string N, .string B, .string K, .int .i64 (E : Int), .int .i64 (Y : Int)] 108)).drew
  have hS := Told5.new w1 N B K E Y 108
  go_region_held3 (fun W => W.cell? ⟨w1.heap.size, 0, none⟩ = some (.string N) ∧ W.cell? ⟨w1.heap.size, 1, none⟩ = some (.string B) ∧ W.cell? ⟨w1.heap.size, 2, none⟩ = some (.string K) ∧ W.cell? ⟨w1.heap.size, 3, none⟩ = some (.int .i64 (E : Int)) ∧ W.cell? ⟨w1.heap.size, 4, none⟩ = some (.int .i64 (Y : Int))) (exact hS) (first
    | (go_at_call 101; refine (pad_any _ _ (by omega) (by omega) _ (HT.out.kept hb).pow).mono ?_; rintro e w3 ⟨he, hb3⟩; have hS := hS.kept hb3; have hb := below_then hb hb3; clear hb3; first | (rw [HA.out] at he; subst he) | (rw [HCC.out] at he; subst he)))
  go_wp2_with fail
  go_ret
  exact ⟨by rw [HR.out]; rfl, hb⟩

set_option maxHeartbeats 3000000 in
set_option maxRecDepth 100000 in
theorem old_any (t : Int) (_h0 : -9223372036854775808 ≤ t ∧ t ≤ 9223372036854775807) (w : World) (HT : DatTabs w) :
    Calls Tryz.prog 64 #[.int .i64 t] w fun e w' => e = .returned (.string (mkS (oldI t))) ∧ Below w.heap.size w w' := by
  by_cases k : t < 0 ∨ 3155759999 < t
  · have HR : Hid (oldI t = []) := by show _ = _; unfold oldI; rw [if_neg (by omega)]
    have c := tell_no t 3155759999 k
    unfold toldZ at c
    have C := Lib.hid c
    clear c k HT
    go_enter Tryz.func64, Tryz.ntmps64
    go_wp2_with fail
    refine (C.out _).mono ?_
    rintro e w1 ⟨rfl, hb⟩
    go_wp2_with fail
    go_ret
    exact ⟨by rw [HR.out]; rfl, hb.alloc (hb.size) _⟩
  obtain ⟨T, rfl⟩ := Int.eq_ofNat_of_zero_le (show 0 ≤ t by omega)
  obtain ⟨Y, M, E, hp⟩ := parts_of T (by omega)
  obtain ⟨⟨b1, b2⟩, ⟨b3, b4⟩, b5, b6⟩ := hp.bd
  have hci := hp.civ
  have hwl := wd_lt (T / 86400)
  have HR : Hid (mkS (oldI (T : Int)) = mkS (dayL (wdD (T / 86400))) ++ (⟨#[44, 32]⟩ : ByteArray) ++ mkS (padL (E : Int) 2) ++ (⟨#[45]⟩ : ByteArray) ++ mkS (monL M) ++ (⟨#[45]⟩ : ByteArray) ++ mkS (padL ((Y % 100 : Nat) : Int) 2) ++ (⟨#[32]⟩ : ByteArray) ++ mkS (clkL T) ++ (⟨#[32, 71, 77, 84]⟩ : ByteArray)) := by
    show _ = _
    unfold oldI
    rw [if_pos ⟨by omega, by omega⟩, Int.toNat_natCast]
    unfold oldL
    rw [hci, show (⟨#[44, 32]⟩ : ByteArray) = mkS [44, 32] from rfl, show (⟨#[45]⟩ : ByteArray) = mkS [45] from rfl, show (⟨#[32]⟩ : ByteArray) = mkS [32] from rfl, show (⟨#[32, 71, 77, 84]⟩ : ByteArray) = mkS [32, 71, 77, 84] from rfl]
    simp only [mkS_append]
  have a1 := day_size _ hwl
  have a2 := pad2_size E (by omega)
  have a3 := mon_size M b3 b4
  have a4 := pad2_size (Y % 100) (by omega)
  have a5 := clk_size T
  have c := fun W (hW : DatTabs W) => tell_yes T Y M E 3155759999 hp (by omega) W hW
  unfold toldR at c
  generalize mkS (dayL (wdD (T / 86400))) = N at *
  generalize hA : mkS (padL (E : Int) 2) = A at *
  have HA := Lib.hid hA
  clear hA
  generalize mkS (monL M) = B at *
  obtain ⟨q, hq⟩ : ∃ q : Int, q = ((Y % 100 : Nat) : Int) := ⟨_, rfl⟩
  have hq2 : 0 ≤ q ∧ q < 100 := by omega
  rw [← hq] at HR a4
  generalize hCC : mkS (padL q 2) = C at *
  have HCC := Lib.hid hCC
  clear hCC
  generalize mkS (clkL T) = K at *
  have HC := Lib.hid c
  have HT := Lib.hid HT
  clear hci hp c hwl
  have hN : N.size = 6 ∨ N.size = 7 ∨ N.size = 8 ∨ N.size = 9 := by omega
  clear a1
  rcases hN with a1 | a1 | a1 | a1
  all_goals
    go_enter Tryz.func64, Tryz.ntmps64
    go_wp2_with fail
    refine (HC.out _ HT.out).mono ?_
    rintro e w1 ⟨rfl, hb⟩
    go_wp2_with fail
    have i7 : (Y : Int).tmod 100 = q := by rw [Int.tmod_eq_emod_of_nonneg (by omega), hq]; omega
    have i8 : IntKind.i64.wrap q = q := IntWalk.i64_in _ (by omega)
    clear hq
    have hb := (hb.alloc hb.size (.cells #[.string N, .string B, .string K, .int .i64 (E : Int), .int .i64 (Y : Int)] 108)).drew
    have hS := Told5.new w1 N B K E Y 108
    go_region_held3 (fun W => W.cell? ⟨w1.heap.size, 0, none⟩ = some (.string N) ∧ W.cell? ⟨w1.heap.size, 1, none⟩ = some (.string B) ∧ W.cell? ⟨w1.heap.size, 2, none⟩ = some (.string K) ∧ W.cell? ⟨w1.heap.size, 3, none⟩ = some (.int .i64 (E : Int)) ∧ W.cell? ⟨w1.heap.size, 4, none⟩ = some (.int .i64 (Y : Int))) (exact hS) (first
      | (go_at_call 101; refine (pad_any _ _ (by omega) (by omega) _ (HT.out.kept hb).pow).mono ?_; rintro e w3 ⟨he, hb3⟩; have hS := hS.kept hb3; have hb := below_then hb hb3; clear hb3; first | (rw [HA.out] at he; subst he) | (rw [HCC.out] at he; subst he)))
    go_wp2_with fail
    go_ret
    exact ⟨by rw [HR.out]; rfl, hb⟩

end Go.Proofs.YtfmaaghmbnhikaaGreatDoor
end
