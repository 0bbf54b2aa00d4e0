/-
  Contracts of package date's clock and tell.
-/
import Derived.Test.YtamhipgeeidlcaaDoorDatB
import Derived.Test.YtamhipgeeidlcaaDoorDatG
import Derived.Test.YtamhipgeeidlcaaDoorComX
namespace Go.Proofs.YtamhipgeeidlcaaDoor
open Go.RowKit

theorem p_clock (S t : Nat) (hS : S = t % 86400) (w : World) (HT : DatTabs w) :
    Calls Tryd.prog 42 #[.int .i64 (S : Int)] w fun e w' => e = .returned (.string (mkS (clkL t))) ∧ Below w.heap.size w w' := by
  have hS2 : S < 86400 := by omega
  have a1 := pad2_size (S / 3600) (by omega)
  have a2 := pad2_size (S / 60 % 60) (by omega)
  have a3 := pad2_size (S % 60) (by omega)
  have HR : Hid (mkS (clkL t) = mkS (padL ((S / 3600 : Nat) : Int) 2) ++ (⟨#[58]⟩ : ByteArray) ++ mkS (padL ((S / 60 % 60 : Nat) : Int) 2) ++ (⟨#[58]⟩ : ByteArray) ++ mkS (padL ((S % 60 : Nat) : Int) 2)) := by
    show _ = _
    rw [show (⟨#[58]⟩ : ByteArray) = mkS [58] from rfl, mkS_append, mkS_append, mkS_append, mkS_append]
    unfold clkL
    rw [← hS]
  have HT := Lib.hid HT
  clear hS
  go_enter Tryd.func42, Tryd.ntmps42
  go_wp2_with fail
  refine (pad_any _ _ (by omega) (by omega) _ HT.out.pow).mono ?_
  rintro e w1 ⟨he, hb⟩
  rw [show (S : Int) / 3600 = ((S / 3600 : Nat) : Int) by omega] at he
  generalize mkS (padL ((S / 3600 : Nat) : Int) 2) = A at *
  subst he
  go_wp2_with fail
  refine (pad_any _ _ (by omega) (by omega) _ (HT.out.kept hb).pow).mono ?_
  rintro e w2 ⟨he, hb2⟩
  have hb := below_then hb hb2
  clear hb2
  rw [show (S : Int) % 3600 / 60 = ((S / 60 % 60 : Nat) : Int) by omega] at he
  generalize mkS (padL ((S / 60 % 60 : Nat) : Int) 2) = B at *
  subst he
  go_wp2_with fail
  refine (pad_any _ _ (by omega) (by omega) _ (HT.out.kept hb).pow).mono ?_
  rintro e w3 ⟨he, hb3⟩
  have hb := below_then hb hb3
  clear hb3
  rw [show (S : Int) % 60 = ((S % 60 : Nat) : Int) by omega] at he
  generalize mkS (padL ((S % 60 : Nat) : Int) 2) = C at *
  subst he
  go_wp2_with fail
  go_ret
  exact ⟨by rw [HR.out]; rfl, hb⟩

theorem DatTabs.day {w : World} (h : DatTabs w) (n : Nat) (hn : n < 7) : w.cell? ⟨2, n, none⟩ = some (.string (mkS (dayL n))) := by
  rw [World.var?_cell (by kernel_rfl) h.days n]
  have := dayVs_at n hn
  simpa using this
theorem DatTabs.lt {w : World} (h : DatTabs w) : 1 < w.heap.size ∧ 2 < w.heap.size := by
  obtain ⟨t, fr, h1⟩ := var_block (g := 1) (by kernel_rfl) h.mons
  obtain ⟨t, fr, h2⟩ := var_block (g := 2) (by kernel_rfl) h.days
  exact ⟨(Array.getElem?_eq_some_iff.1 h1).1, (Array.getElem?_eq_some_iff.1 h2).1⟩

theorem p_weekday (n : Nat) (w : World) (hn : n ≤ 2932896) :
    Calls Tryd.prog 12 #[.int .i64 (n : Int)] w fun e w' => e = .returned (.int .i64 ((wdD n : Nat) : Int)) ∧ w = w' := by
  have HR : Hid (((wdD n : Nat) : Int) = ((n : Int) % 7 + 4) % 7) := by
    show _ = _
    unfold wdD
    omega
  go_enter Tryd.func12, Tryd.ntmps12
  go_wp2_with fail
  go_ret
  exact ⟨by rw [HR.out]; rfl, rfl⟩

theorem told_one (N B K : ByteArray) (E Y : Int) : (#[Value.string N, .string B, .string K, .int .i64 E, .int .i64 Y] : Array Value).all (·.oneCell') = true := by simp [Value.oneCell']
/-- What a time is told by, as the cells of a struct. -/
def toldR (T Y M E : Nat) : Array Value := #[.string (mkS (dayL (wdD (T / 86400)))), .string (mkS (monL M)), .string (mkS (clkL T)), .int .i64 (E : Int), .int .i64 (Y : Int)]
def toldZ : Array Value := #[.string ⟨#[]⟩, .string ⟨#[]⟩, .string ⟨#[]⟩, .int .i64 0, .int .i64 0]

theorem told_cells {W : World} {g t : Nat} (h : W.heap[g]? = some (.cells toldZ t (0, 0))) :
    W.cell? ⟨g, 0, none⟩ = some (.string ⟨#[]⟩) ∧ W.cell? ⟨g, 1, none⟩ = some (.string ⟨#[]⟩) ∧ W.cell? ⟨g, 2, none⟩ = some (.string ⟨#[]⟩) ∧ W.cell? ⟨g, 3, none⟩ = some (.int .i64 0) ∧ W.cell? ⟨g, 4, none⟩ = some (.int .i64 0) ∧
    W.frozen? ⟨g, 0, none⟩ = false ∧ W.frozen? ⟨g, 1, none⟩ = false ∧ W.frozen? ⟨g, 2, none⟩ = false ∧ W.frozen? ⟨g, 3, none⟩ = false ∧ W.frozen? ⟨g, 4, none⟩ = false := by
  refine ⟨?_, ?_, ?_, ?_, ?_, ?_, ?_, ?_, ?_, ?_⟩
  any_goals (rw [cell_of_row W g _ _ _ _ h]; rfl)
  all_goals simp [World.frozen?, h]

theorem told_other {W : World} {g b j : Nat} {v c0 c1 c2 c3 c4 : Value} (hn : b ≠ g) (h : W.cell? ⟨b, j, none⟩ = some v) :
    (((((W.setCell ⟨g, 0, none⟩ c0).setCell ⟨g, 1, none⟩ c1).setCell ⟨g, 2, none⟩ c2).setCell ⟨g, 3, none⟩ c3).setCell ⟨g, 4, none⟩ c4).cell? ⟨b, j, none⟩ = some v := by
  have e : ∀ k : Nat, (⟨g, k, none⟩ : Addr) ≠ ⟨b, j, none⟩ := fun k he => hn (congrArg Addr.block he).symm
  rw [World.cell?_setCell_other (h := e 4), World.cell?_setCell_other (h := e 3), World.cell?_setCell_other (h := e 2), World.cell?_setCell_other (h := e 1), World.cell?_setCell_other (h := e 0)]
  exact h
theorem told_set {W : World} {g t : Nat} {c0 c1 c2 c3 c4 : Value} (h : W.heap[g]? = some (.cells toldZ t (0, 0))) :
    (((((W.setCell ⟨g, 0, none⟩ c0).setCell ⟨g, 1, none⟩ c1).setCell ⟨g, 2, none⟩ c2).setCell ⟨g, 3, none⟩ c3).setCell ⟨g, 4, none⟩ c4).heap[g]? = some (.cells #[c0, c1, c2, c3, c4] t (0, 0)) := by
  simp [World.setCell, Array.getElem?_modify, h, toldZ]

set_option maxHeartbeats 3000000 in
set_option maxRecDepth 100000 in
theorem tell_no (t last : Int) (h : t < 0 ∨ last < t) (w : World) :
    Calls Tryd.prog 28 #[.int .i64 t, .int .i64 last] w fun e w' => e = .returned (.tuple #[.agg toldZ, .bool false]) ∧ Below w.heap.size w w' := by
  have HZ : Hid ((w.alloc (.cells toldZ 41)).heap[w.heap.size]? = some (.cells toldZ 41 (0, 0))) := heap_alloc_new _ _
  have hb : Below w.heap.size w (w.alloc (.cells toldZ 41)) := (Below.refl _ _).alloc (Nat.le_refl _) _
  by_cases h0 : t < 0
  · clear h
    go_enter Tryd.func28, Tryd.ntmps28
    go_wp2_with fail
    refine bodyPost_ret (results_cell_row_tmp rfl _ _ w.heap.size 41 toldZ (0, 0) _ rfl HZ.out Tryd.underlying41 rfl (by kernel_rfl)) rfl ?_
    exact ⟨rfl, hb⟩
  · have h1 : last < t := h.resolve_left h0
    clear h
    go_enter Tryd.func28, Tryd.ntmps28
    go_wp2_with fail
    refine bodyPost_ret (results_cell_row_tmp rfl _ _ w.heap.size 41 toldZ (0, 0) _ rfl HZ.out Tryd.underlying41 rfl (by kernel_rfl)) rfl ?_
    exact ⟨rfl, hb⟩

set_option maxHeartbeats 3000000 in
set_option maxRecDepth 100000 in
theorem tell_yes (T Y M E : Nat) (last : Int) (hp : Parts T Y M E) (hl : (T : Int) ≤ last) (w : World) (HT : DatTabs w) :
    Calls Tryd.prog 28 #[.int .i64 (T : Int), .int .i64 last] w fun e w' => e = .returned (.tuple #[.agg (toldR T Y M E), .bool true]) ∧ Below w.heap.size w w' := by
  have hc := hp.civil
  obtain ⟨⟨b1, b2⟩, ⟨b3, b4⟩, b5, b6⟩ := hp.bd
  have hle := hp.le
  have hwl := wd_lt (T / 86400)
  have hlt0 := HT.lt
  have HT2 := HT.kept ((Below.refl w.heap.size w).alloc (Nat.le_refl _) (.cells toldZ 41))
  have hb0 : Below w.heap.size w (w.alloc (.cells toldZ 41)) := (Below.refl _ _).alloc (Nat.le_refl _) _
  have HZ : Hid ((w.alloc (.cells toldZ 41)).heap[w.heap.size]? = some (.cells toldZ 41 (0, 0))) := heap_alloc_new _ _
  have c1 := fun W (hW : DatTabs W) => civil_any ((T : Int) / 86400) (by omega) W hW
  rw [hc.1, hc.2.1, hc.2.2.1, hc.2.2.2] at c1
  have c2 := fun W => p_weekday (T / 86400) W (by omega)
  rw [show ((T / 86400 : Nat) : Int) = (T : Int) / 86400 by omega] at c2
  have c3 := fun W (hW : DatTabs W) => p_clock (T % 86400) T rfl W hW
  rw [show ((T % 86400 : Nat) : Int) = (T : Int) % 86400 by omega] at c3
  have HR : Hid (toldR T Y M E = #[.string (mkS (dayL (wdD (T / 86400)))), .string (mkS (monL M)), .string (mkS (clkL T)), .int .i64 (E : Int), .int .i64 (Y : Int)]) := rfl
  have d1 := fun (W : World) (hW : DatTabs W) => hW.day (wdD (T / 86400)) hwl
  have d2 := fun (W : World) (hW : DatTabs W) => hW.mon_name (M - 1) (by omega)
  rw [show M - 1 + 1 = M by omega] at d2
  generalize mkS (dayL (wdD (T / 86400))) = N at *
  generalize mkS (monL M) = B at *
  generalize mkS (clkL T) = K at *
  generalize wdD (T / 86400) = V at *
  generalize toldR T Y M E = TR at *
  have D1 := Lib.hid d1
  have D2 := Lib.hid d2
  have C1 := Lib.hid c1
  have C2 := Lib.hid c2
  have C3 := Lib.hid c3
  have HT := Lib.hid HT2
  have HB := Lib.hid hb0
  clear hc hp c1 c2 c3 d1 d2 hb0 HT2
  go_enter Tryd.func28, Tryd.ntmps28
  go_wp2_with fail
  refine (C1.out _ HT.out).mono ?_
  rintro e w1 ⟨rfl, hb⟩
  have HT := Lib.hid (HT.out.kept hb)
  have hz : w1.heap[w.heap.size]? = some (.cells toldZ 41 (0, 0)) := (hb.block _ (by simp)).trans HZ.out
  have HB := Lib.hid (HB.out.trans (hb.mono (by simp)))
  clear hb HZ
  have hd1 := D1.out w1.drew (HT.out.kept (Below.refl _ _).drew)
  have hd2 := D2.out w1.drew (HT.out.kept (Below.refl _ _).drew)
  go_wp2_with fail
  have i1 : (0 : Int) ≤ (V : Int) := by omega
  have i2 : (V : Int) < 7 := by omega
  obtain ⟨q, hq⟩ : ∃ q : Int, q = (M : Int) - 1 := ⟨_, rfl⟩
  have i3 : (0 : Int) ≤ q := by omega
  have i4 : q < 12 := by omega
  have i5 : q.toNat = M - 1 := by omega
  have i6 : IntKind.i64.wrap ((M : Int) - 1) = q := (IntWalk.i64_in _ (by omega)).trans hq.symm
  have i7 : (T : Int).tmod 86400 = (T : Int) % 86400 := Int.tmod_eq_emod_of_nonneg (by omega)
  have i8 : IntKind.i64.wrap ((T : Int) % 86400) = (T : Int) % 86400 := IntWalk.i64_in _ (by omega)
  clear hq
  have hn1 := Nat.ne_of_lt hlt0.2
  have hn2 := Nat.ne_of_lt hlt0.1
  have hlt1 : w.heap.size < w1.heap.size := (Array.getElem?_eq_some_iff.1 hz).1
  go_region_held3 (fun w' => w'.cell? ⟨2, V, none⟩ = some (.string N) ∧ w'.cell? ⟨1, (M - 1) * 2, none⟩ = some (.string B)) (first | with_reducible exact ⟨hd1, hd2⟩ | with_reducible exact ⟨cell_kept hb3 hd1, cell_kept hb3 hd2⟩ | with_reducible exact ⟨told_other hn1 (cell_kept hb3 hd1), told_other hn2 (cell_kept hb3 hd2)⟩) (first
    | (go_at_call 12; refine (C2.out _).mono ?_; rintro e w' ⟨rfl, rfl⟩)
    | (go_at_call 42; refine (C3.out _ (HT.out.kept (Below.refl _ _).drew)).mono ?_; rintro e w3 ⟨rfl, hb3⟩; have hz3 := (hb3.block _ hlt1).trans hz; obtain ⟨z0, z1, z2, z3, z4, y0, y1, y2, y3, y4⟩ := told_cells hz3))
  go_wp2_with fail
  refine bodyPost_ret (results_cell_row_tmp rfl _ _ w.heap.size 41 #[.string N, .string B, .string K, .int .i64 (E : Int), .int .i64 (Y : Int)] (0, 0) _ rfl (told_set hz3) Tryd.underlying41 rfl (by kernel_rfl)) rfl ?_
  refine ⟨by rw [HR.out]; rfl, ?_⟩
  have hb4 := HB.out.drew.trans (hb3.mono (Nat.le_of_lt hlt1))
  exact ((((hb4.setCell (Nat.le_refl _) _).setCell (Nat.le_refl _) _).setCell (Nat.le_refl _) _).setCell (Nat.le_refl _) _).setCell (Nat.le_refl _) _

end Go.Proofs.YtamhipgeeidlcaaDoor
