/-
  Texts that the laws of this seat lean on, one behind the other.
-/
import Derived.Test.YtjcomlklmfeimaaGreatDoorMrgN
import Derived.Test.YtjcomlklmfeimaaGreatDoorMrgE
import Derived.Test.YtjcomlklmfeimaaGreatDoorMrgAA
import Derived.Shelf.Strings.SlTrimAscii
/-
  Contracts of package chunk's line, bytes, ended, and of the library's trimming of blanks.
-/
section
namespace Go.Proofs.YtjcomlklmfeimaaGreatDoor
open Go.RowKit

theorem rtrim_any (s : ByteArray) (w : World) (hs : s.size ≤ maxLen) :
    Calls Tryz.prog 170 #[.string s, .string ⟨#[32, 9]⟩] w fun e w' => e = .returned (.string (mkS (rdw s.data.toList))) ∧ Below w.heap.size w w' := by
  refine (Any.strings_TrimRight_laid Tryz.lays162 (by kernel_rfl) s ⟨#[32, 9]⟩ w (by unfold maxLen at hs; omega) (by decide) ?_).mono ?_
  · intro j b hj
    have hb : b ∈ ([32, 9] : List UInt8) := List.mem_of_getElem? hj
    simp only [List.mem_cons, List.not_mem_nil, or_false] at hb
    rcases hb with rfl | rfl <;> decide
  · rintro e w' ⟨rfl, hb⟩
    refine ⟨?_, hb⟩
    show Ending.returned (.string ⟨(Lib.trimRightS s.data.toList [32, 9]).toArray⟩) = _
    rw [trim_blk]; rfl

set_option maxHeartbeats 1000000 in
set_option maxRecDepth 100000 in
/-- A line that ends. -/
theorem line_hit (w : World) (R : Nat) (s : ByteArray) (X : List UInt8) (h : Rdr w R s X) (hs : s.size ≤ 1000000000) (ln r : List UInt8) (hl : lineL s.data.toList = some (ln, r)) :
    Calls Tryz.prog 161 #[.pointer (some ⟨R, 0, none⟩)] w fun e w' => e = .returned (.tuple #[.string (mkS ln), .bool true]) ∧ Rdr w' R (mkS r) X ∧ Below R w w' := by
  obtain ⟨A, c, _, _, h0, _, f0, _⟩ := h.cells
  obtain ⟨m, hm⟩ := h.mx
  have hc := Tryz.strings_Cut s ⟨#[13, 10]⟩ m w (by omega) hm
  rw [show Lib.cut s.data.toList (⟨#[13, 10]⟩ : ByteArray).data.toList = (ln, r, true) from cut_crlf hl] at hc
  have HC := Lib.hid hc
  have H := Lib.hid h
  clear hc h hl hm hs
  go_enter Tryz.func161, Tryz.ntmps161
  go_wp2_with fail
  refine HC.out.mono ?_
  rintro e w' ⟨rfl, n, rfl⟩
  go_wp2_with fail
  go_ret2
  exact ⟨rfl, (H.out.drewN n).left (mkS r), (below_drawn (Below.refl _ _) n).setCell (p := ⟨R, 0, none⟩) (Nat.le_refl _) _⟩
set_option maxHeartbeats 1000000 in
set_option maxRecDepth 100000 in
/-- No line that ends. -/
theorem line_miss (w : World) (R : Nat) (s : ByteArray) (X : List UInt8) (h : Rdr w R s X) (hs : s.size ≤ 1000000000) (hl : lineL s.data.toList = none) :
    Calls Tryz.prog 161 #[.pointer (some ⟨R, 0, none⟩)] w fun e w' => e = .returned (.tuple #[.string ⟨#[]⟩, .bool false]) ∧ Rdr w' R s X ∧ Below R w w' := by
  obtain ⟨A, c, _, _, h0, _, f0, _⟩ := h.cells
  obtain ⟨m, hm⟩ := h.mx
  have hc := Tryz.strings_Cut s ⟨#[13, 10]⟩ m w (by omega) hm
  rw [show Lib.cut s.data.toList (⟨#[13, 10]⟩ : ByteArray).data.toList = (s.data.toList, [], false) from cut_none hl] at hc
  have HC := Lib.hid hc
  have H := Lib.hid h
  clear hc h hl hm hs
  go_enter Tryz.func161, Tryz.ntmps161
  go_wp2_with fail
  refine HC.out.mono ?_
  rintro e w' ⟨rfl, n, rfl⟩
  go_wp2_with fail
  go_ret2
  exact ⟨rfl, H.out.drewN n, below_drawn (Below.refl _ _) n⟩

set_option maxHeartbeats 1000000 in
set_option maxRecDepth 100000 in
/-- Bytes that are there. -/
theorem bytes_hit (w : World) (R : Nat) (s : ByteArray) (X : List UInt8) (h : Rdr w R s X) (n : Nat) (hn : n ≤ s.size) :
    Calls Tryz.prog 171 #[.pointer (some ⟨R, 0, none⟩), .int .i64 n] w fun e w' => e = .returned (.tuple #[.string (s.extract 0 n), .bool true]) ∧ Rdr w' R (s.extract n s.size) X ∧ Below R w w' := by
  obtain ⟨A, c, _, _, h0, _, f0, _⟩ := h.cells
  have H := Lib.hid h
  have h1 : ¬ (s.size : Int) < (n : Int) := by omega
  have h2 : (n : Int) ≤ (s.size : Int) := by omega
  have h3 : (0 : Int) ≤ (n : Int) := by omega
  clear h hn
  go_enter Tryz.func171, Tryz.ntmps171
  go_wp2_with fail
  go_ret2
  exact ⟨rfl, H.out.left _, (Below.refl _ _).setCell (p := ⟨R, 0, none⟩) (Nat.le_refl _) _⟩
set_option maxHeartbeats 1000000 in
set_option maxRecDepth 100000 in
/-- Fewer bytes than are asked. -/
theorem bytes_miss (w : World) (R : Nat) (s : ByteArray) (X : List UInt8) (h : Rdr w R s X) (n : Nat) (hn : s.size < n) :
    Calls Tryz.prog 171 #[.pointer (some ⟨R, 0, none⟩), .int .i64 n] w fun e w' => e = .returned (.tuple #[.string ⟨#[]⟩, .bool false]) ∧ Rdr w' R s X ∧ Below R w w' := by
  obtain ⟨A, c, _, _, h0, _, f0, _⟩ := h.cells
  have H := Lib.hid h
  have h1 : (s.size : Int) < (n : Int) := by omega
  clear h hn
  go_enter Tryz.func171, Tryz.ntmps171
  go_wp2_with fail
  go_ret2
  exact ⟨rfl, H.out, Below.refl _ _⟩

end Go.Proofs.YtjcomlklmfeimaaGreatDoor
end
