/-
  Texts that the laws of this seat lean on, one behind the other.
-/
import Derived.Test.YtjcomlklmfeimaaGreatDoorChecked
import Derived.Test.YtjcomlklmfeimaaGreatDoorMrgD
import Derived.Lib.Builder
import Derived.Lib.UnsafeStr
import Derived.Laws.Externs
import Derived.Lib.Walk
/-
  Contracts of the library's strings.Builder over this translation: copyCheck and WriteString walked here (the shelf's text has another body of copyCheck), String by the shelf.
-/
section
namespace Go.Proofs.YtjcomlklmfeimaaGreatDoor
open Go.RowKit

/-- Block b is a builder of pointer p that holds l. -/
def BldP (w : World) (b : Nat) (p : Option Addr) (l : List UInt8) : Prop := ∃ v, w.heap[b]? = some (.cells #[.pointer p, v] 123 (0, 0)) ∧ Own8 w (b + 1) 5 v l
/-- .. fresh, or written. -/
def Bld (w : World) (b : Nat) (l : List UInt8) : Prop := BldP w b none l ∨ BldP w b (some ⟨b, 0, none⟩) l

theorem Own8.same {w w' : World} {base e : Nat} {v : Value} {X : List UInt8} (h : Own8 w base e v X) (hb : ∀ k, base ≤ k → k < w.heap.size → w'.heap[k]? = w.heap[k]?) : Own8 w' base e v X := by
  refine ⟨h.1, ?_⟩
  rcases h.2 with hn | ⟨g, cap, cur, hv, hg, hc, rest⟩
  · exact .inl hn
  · exact .inr ⟨g, cap, cur, hv, hg, (hb g hg (Array.getElem?_eq_some_iff.1 hc).1).trans hc, rest⟩
theorem BldP.size {w : World} {b : Nat} {p : Option Addr} {l : List UInt8} (h : BldP w b p l) : b < w.heap.size := by
  obtain ⟨v, hg, _⟩ := h
  exact (Array.getElem?_eq_some_iff.1 hg).1
theorem BldP.below {w w' : World} {b : Nat} {p : Option Addr} {l : List UInt8} (h : BldP w b p l) (hb : Below w.heap.size w w') : BldP w' b p l := by
  have hlt := h.size
  obtain ⟨v, hg, ho⟩ := h
  exact ⟨v, (hb.block b hlt).trans hg, ho.same fun k _ hk => hb.block k hk⟩
theorem Bld.size {w : World} {b : Nat} {l : List UInt8} (h : Bld w b l) : b < w.heap.size := h.elim BldP.size BldP.size
theorem Bld.below {w w' : World} {b : Nat} {l : List UInt8} (h : Bld w b l) (hb : Below w.heap.size w w') : Bld w' b l := h.imp (fun x => x.below hb) (fun x => x.below hb)
theorem Bld.made (w : World) : Bld (w.alloc (.cells #[.pointer none, .slice none 0 0] 123)) w.heap.size [] :=
  .inl ⟨_, heap_alloc_new w _, ⟨rfl, .inl ⟨rfl, rfl⟩⟩⟩
theorem Bld.lib {w : World} {b : Nat} {l : List UInt8} (h : Bld w b l) : Lib.IsBuilder 123 5 b b (Lib.byteCells l) w := by
  have aux : ∀ p, BldP w b p l → Lib.BuilderAt 123 5 b b (.pointer p) (Lib.byteCells l) w := by
    rintro p ⟨v, hg, ho⟩
    have hbc : Lib.byteCells l = l.map byV := rfl
    refine ⟨Nat.le_refl _, v, hg, ?_, ?_⟩
    · rw [hbc, List.length_map]
      refine ⟨ho.1, ?_⟩
      rcases ho.2 with hn | ⟨g, cap, cur, hv, hg', rest⟩
      · exact .inl hn
      · exact .inr ⟨g, cap, cur, hv, by omega, rest⟩
    · intro e
      have := (World.ownsRow.lt ho b e).1
      omega
  exact h.imp (aux _) (aux _)

set_option maxHeartbeats 1000000 in
set_option maxRecDepth 100000 in
/-- copyCheck: the builder keeps its own address. -/
theorem check_any (b : Nat) (l : List UInt8) (w : World) (h : Bld w b l) :
    Calls Tryz.prog 116 #[.pointer (some ⟨b, 0, none⟩)] w fun e w' => e = .returned (.tuple #[]) ∧ BldP w' b (some ⟨b, 0, none⟩) l ∧ Below b w w' := by
  rcases h with h | h
  · have H := Lib.hid h
    obtain ⟨v, hg, ho⟩ := h
    have h0 : w.cell? ⟨b, 0, none⟩ = some (.pointer none) := by rw [Lib.cell_of_heap hg]; rfl
    have hfz : w.frozen? ⟨b, 0, none⟩ = false := Lib.frozen_of_heap hg 0
    have hsh : w.shape? b = some (123, 2) := by simp [World.shape?, hg]
    have hj : ∃ j, Tryz.prog.info? 123 = some j ∧ j.size = 2 := Option.map_eq_some_iff.1 (show (Tryz.prog.info? 123).map (·.size) = some 2 by kernel_rfl)
    obtain ⟨j, hj1, hj2⟩ := hj
    have HG := Lib.hid hg
    have HO := Lib.hid ho
    clear hg ho
    go_enter Tryz.func116, Tryz.ntmps116
    go_wp2
    rw [Lib.run_to_unsafe w ⟨b, 0, none⟩ Tryz.underlying120 Tryz.underlying171 hj1 (by rw [hj2]; decide) hsh (Nat.zero_lt_succ 1)]
    simp only [Result.andThen]
    rw [Oper.upon_value]
    go_wp2
    rw [run_callFunc_extern Tryz.func143 (by kernel_rfl) (by kernel_rfl) (by kernel_rfl) (e := Extern.AbiNoEscape.same) (by kernel_rfl)]
    rw [Lib.run_noEscape]
    simp only [Result.andThen]
    rw [Oper.upon_value]
    go_wp2
    rw [Lib.run_from_unsafe w ⟨b, 0, none⟩ Tryz.underlying171 Tryz.underlying120 hj1 hsh (by kernel_rfl)]
    simp only [Result.andThen]
    rw [Oper.upon_value]
    go_wp2
    go_end0
    refine ⟨rfl, ⟨v, ?_, HO.out.same fun k hk _ => Below.heap_setCell _ _ _ _ (by simp only; omega)⟩, (Below.refl b w).setCell (p := ⟨b, 0, none⟩) (Nat.le_refl _) _⟩
    simp [World.setCell, Array.getElem?_modify, HG.out]
  · have H := Lib.hid h
    obtain ⟨v, hg, ho⟩ := h
    have h0 : w.cell? ⟨b, 0, none⟩ = some (.pointer (some ⟨b, 0, none⟩)) := by rw [Lib.cell_of_heap hg]; rfl
    have hj : ∃ j, Tryz.prog.info? 123 = some j ∧ j.size = 2 := Option.map_eq_some_iff.1 (show (Tryz.prog.info? 123).map (·.size) = some 2 by kernel_rfl)
    obtain ⟨j, hj1, hj2⟩ := hj
    clear hg ho hj2
    go_enter Tryz.func116, Tryz.ntmps116
    go_wp2
    rw [Lib.run_neq_ptr_same w _ Tryz.underlying120 hj1]
    go_wp2
    go_end0
    exact ⟨rfl, H.out, Below.refl _ _⟩

set_option maxHeartbeats 1000000 in
set_option maxRecDepth 100000 in
/-- WriteString: the text goes in behind. -/
theorem write_any (b : Nat) (l : List UInt8) (s : ByteArray) (w : World) (h : Bld w b l) (hl : l.length + s.size ≤ 1000000000) :
    Calls Tryz.prog 82 #[.pointer (some ⟨b, 0, none⟩), .string s] w fun e w' => e = .returned (.tuple #[.int .i64 s.size, .nilIface]) ∧ Bld w' b (l ++ s.data.toList) ∧ Below b w w' := by
  have hlt := h.size
  have hm : (1000000000 : Nat) ≤ maxLen := by decide
  go_enter Tryz.func82, Tryz.ntmps82
  go_wp2_with fail
  refine (check_any b l w h).mono ?_
  rintro e w1 ⟨rfl, h1, hb1⟩
  have hlt1 := h1.size
  obtain ⟨v, hg, ho⟩ := h1
  obtain ⟨A, c, rfl, hs8⟩ := ho.sl8
  have c0 : w1.cell? ⟨b, 0, none⟩ = some (.pointer (some ⟨b, 0, none⟩)) := by rw [Lib.cell_of_heap hg]; rfl
  have c1 : w1.cell? ⟨b, 1, none⟩ = some (.slice A l.length c) := by rw [Lib.cell_of_heap hg]; rfl
  have HG := Lib.hid hg
  have HO := Lib.hid ho
  have HB1 := Lib.hid hb1
  clear hg ho hs8 hb1
  go_wp2_with (at_builtin; refine wpList_append_text rfl _ _ 121 9 rfl (b + 1) 5 Tryz.underlying121 Tryz.underlying9 (by kernel_rfl) _ rfl l HO.out s rfl hl (by omega) w1 (Below.refl _ _) ?_)
  intro v2 w2 ho2 hb2 _
  obtain ⟨A2, c2, rfl, _⟩ := ho2.out.sl8
  have hg2 : w2.heap[b]? = some (.cells #[.pointer (some ⟨b, 0, none⟩), .slice A l.length c] 123 (0, 0)) := (hb2.block b (by omega)).trans HG.out
  have d1 : w2.cell? ⟨b, 1, none⟩ = some (.slice A l.length c) := by rw [Lib.cell_of_heap hg2]; rfl
  have f1 : w2.frozen? ⟨b, 1, none⟩ = false := Lib.frozen_of_heap hg2 1
  have HG2 := Lib.hid hg2
  have HB2 := Lib.hid hb2
  clear hg2 hb2
  go_wp2_with fail
  go_ret2
  refine ⟨rfl, .inr ⟨_, ?_, ho2.out.same fun k hk _ => Below.heap_setCell _ _ _ _ (by simp only; omega)⟩, (HB1.out.trans (HB2.out.mono (by omega))).setCell (p := ⟨b, 1, none⟩) (Nat.le_refl _) _⟩
  simp [World.setCell, Array.getElem?_modify, HG2.out]

end Go.Proofs.YtjcomlklmfeimaaGreatDoor
end

/-
  The memory of package chunk's reader: what is left, the body so far in memory of the call's own, and the library's variable of which some number is asked.
-/
section
namespace Go.Proofs.YtjcomlklmfeimaaGreatDoor
open Go.RowKit

/-- Block R is a reader. -/
structure Rdr (w : World) (R : Nat) (s : ByteArray) (X : List UInt8) : Prop where
  row : ∃ v, w.heap[R]? = some (.cells #[.string s, v] 165 (0, 0)) ∧ Own8 w (R + 1) 5 v X
  mx : ∃ m, w.cell? ⟨0, 0, none⟩ = some (.int .i64 m)
  lt : 0 < R

section
variable {w w' : World} {R : Nat} {s : ByteArray} {X : List UInt8}
theorem Rdr.size (h : Rdr w R s X) : R < w.heap.size := by
  obtain ⟨v, hg, _⟩ := h.row
  exact (Array.getElem?_eq_some_iff.1 hg).1
theorem Rdr.below (h : Rdr w R s X) (hb : Below w.heap.size w w') : Rdr w' R s X := by
  obtain ⟨v, hg, ho⟩ := h.row
  obtain ⟨m, hm⟩ := h.mx
  exact ⟨⟨v, (hb.block R h.size).trans hg, ho.same fun k _ hk => hb.block k hk⟩, ⟨m, cell_kept hb hm⟩, h.lt⟩
theorem Rdr.drewN (h : Rdr w R s X) (n : Nat) : Rdr (w.drewN n) R s X := h.below (below_drawn (Below.refl _ _) n)
/-- What is left is set. -/
theorem Rdr.left (h : Rdr w R s X) (t : ByteArray) : Rdr (w.setCell ⟨R, 0, none⟩ (.string t)) R t X := by
  obtain ⟨v, hg, ho⟩ := h.row
  obtain ⟨m, hm⟩ := h.mx
  have hlt := h.lt
  refine ⟨⟨v, ?_, ho.same fun k hk _ => Below.heap_setCell _ _ _ _ (by simp only; omega)⟩, ⟨m, ?_⟩, h.lt⟩
  · simp [World.setCell, Array.getElem?_modify, hg]
  · rw [World.cell?_setCell_other _ _ _ _ (by simp only [ne_eq, Addr.mk.injEq]; omega)]; exact hm
/-- The body is set. -/
theorem Rdr.body {v : Value} {Y : List UInt8} (h : Rdr w R s X) (hb : Below (R + 1) w w') (ho : Own8 w' (R + 1) 5 v Y) : Rdr (w'.setCell ⟨R, 1, none⟩ v) R s Y := by
  obtain ⟨u, hg, _⟩ := h.row
  obtain ⟨m, hm⟩ := h.mx
  have hlt := h.lt
  have hg' := (hb.block R (by omega)).trans hg
  refine ⟨⟨v, ?_, ho.same fun k hk _ => Below.heap_setCell _ _ _ _ (by simp only; omega)⟩, ⟨m, ?_⟩, h.lt⟩
  · simp [World.setCell, Array.getElem?_modify, hg']
  · rw [World.cell?_setCell_other _ _ _ _ (by simp only [ne_eq, Addr.mk.injEq]; omega)]
    exact (World.cell?_of_block (w := w) (hb.block _ (by simp only; omega))).trans hm
/-- The cells. -/
theorem Rdr.cells (h : Rdr w R s X) : ∃ A c, Sl8 w A X.length c X ∧ Own8 w (R + 1) 5 (.slice A X.length c) X ∧ w.cell? ⟨R, 0, none⟩ = some (.string s) ∧ w.cell? ⟨R, 1, none⟩ = some (.slice A X.length c) ∧ w.frozen? ⟨R, 0, none⟩ = false ∧ w.frozen? ⟨R, 1, none⟩ = false := by
  obtain ⟨v, hg, ho⟩ := h.row
  obtain ⟨A, c, rfl, hs⟩ := ho.sl8
  refine ⟨A, c, hs, ho, ?_, ?_, by simp [World.frozen?, hg], by simp [World.frozen?, hg]⟩
  · rw [cell_of_row _ _ _ _ _ _ hg]; rfl
  · rw [cell_of_row _ _ _ _ _ _ hg]; rfl
/-- A reader just made. -/
theorem Rdr.made (hm : ∃ m, w.cell? ⟨0, 0, none⟩ = some (.int .i64 m)) (s : ByteArray) : Rdr (w.alloc (.cells #[.string s, .slice none 0 0] 165)) w.heap.size s [] := by
  obtain ⟨m, hc⟩ := hm
  exact ⟨⟨_, heap_alloc_new w _, ⟨rfl, .inl ⟨rfl, rfl⟩⟩⟩, ⟨m, Lib.cell?_alloc_some _ hc⟩, World.block_lt_of_cell? w _ hc⟩
end

end Go.Proofs.YtjcomlklmfeimaaGreatDoor
end
