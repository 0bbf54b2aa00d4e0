/-
  Texts that the laws of this seat lean on, one behind the other.
-/
import Derived.Test.YtbbppkonjaijhaaDoorMrgT
import Derived.Test.YtbbppkonjaijhaaDoorMrgU
import Derived.Test.YtbbppkonjaijhaaDoorMrgV
import Derived.Shelf.Strings.SlTrimAscii
/-
  Contracts of package chunk's line, bytes, ended, and of the library's trimming of blanks.
-/
section
namespace Go.Proofs.YtbbppkonjaijhaaDoor
open Go.RowKit

theorem rtrim_any (s : ByteArray) (w : World) (hs : s.size ≤ maxLen) :
    Calls Tryd.prog 37 #[.string s, .string ⟨#[32, 9]⟩] w fun e w' => e = .returned (.string (mkS (rdw s.data.toList))) ∧ Below w.heap.size w w' := by
  refine (Any.strings_TrimRight_laid Tryd.lays162 (by kernel_rfl) s ⟨#[32, 9]⟩ w (by unfold maxLen at hs; omega) (by decide) ?_).mono ?_
  · intro j b hj
    have hb : b ∈ ([32, 9] : List UInt8) := List.mem_of_getElem? hj
    simp only [List.mem_cons, List.not_mem_nil, or_false] at hb
    rcases hb with rfl | rfl <;> decide
  · rintro e w' ⟨rfl, hb⟩
    refine ⟨?_, hb⟩
    show Ending.returned (.string ⟨(Lib.trimRightS s.data.toList [32, 9]).toArray⟩) = _
    rw [trim_blk]; rfl

theorem ended_any (s : ByteArray) (w : World) (hs : s.size ≤ 1000000000) :
    Calls Tryd.prog 18 #[.string s] w fun e w' => e = .returned (.string (s ++ ⟨#[13, 10]⟩)) ∧ Below w.heap.size w w' := by
  have h2 : (⟨#[13, 10]⟩ : ByteArray).size = 2 := rfl
  have hi : (s.size : Int) ≤ 1000000000 := by omega
  go_enter Tryd.func18, Tryd.ntmps18
  go_wp2
  go_ret
  exact ⟨rfl, Below.refl _ _⟩

set_option maxHeartbeats 1000000 in
set_option maxRecDepth 100000 in
/-- A line that ends. -/
theorem line_hit (w : World) (R : Nat) (s : ByteArray) (X : List UInt8) (h : Rdr w R s X) (hs : s.size ≤ 1000000000) (ln r : List UInt8) (hl : lineL s.data.toList = some (ln, r)) :
    Calls Tryd.prog 24 #[.pointer (some ⟨R, 0, none⟩)] w fun e w' => e = .returned (.tuple #[.string (mkS ln), .bool true]) ∧ Rdr w' R (mkS r) X ∧ Below R w w' := by
  obtain ⟨A, c, _, _, h0, _, f0, _⟩ := h.cells
  obtain ⟨m, hm⟩ := h.mx
  have hc := Tryd.strings_Cut s ⟨#[13, 10]⟩ m w (by omega) hm
  rw [show Lib.cut s.data.toList (⟨#[13, 10]⟩ : ByteArray).data.toList = (ln, r, true) from cut_crlf hl] at hc
  have HC := Lib.hid hc
  have H := Lib.hid h
  clear hc h hl hm hs
  go_enter Tryd.func24, Tryd.ntmps24
  go_wp2_with fail
  refine HC.out.mono ?_
  rintro e w' ⟨rfl, n, rfl⟩
  go_wp2_with fail
  go_ret2
  exact ⟨rfl, (H.out.drewN n).left (mkS r), (below_drawn (Below.refl _ _) n).setCell (p := ⟨R, 0, none⟩) (Nat.le_refl _) _⟩
set_option maxHeartbeats 1000000 in
set_option maxRecDepth 100000 in
/-- No line that ends. -/
theorem line_miss (w : World) (R : Nat) (s : ByteArray) (X : List UInt8) (h : Rdr w R s X) (hs : s.size ≤ 1000000000) (hl : lineL s.data.toList = none) :
    Calls Tryd.prog 24 #[.pointer (some ⟨R, 0, none⟩)] w fun e w' => e = .returned (.tuple #[.string ⟨#[]⟩, .bool false]) ∧ Rdr w' R s X ∧ Below R w w' := by
  obtain ⟨A, c, _, _, h0, _, f0, _⟩ := h.cells
  obtain ⟨m, hm⟩ := h.mx
  have hc := Tryd.strings_Cut s ⟨#[13, 10]⟩ m w (by omega) hm
  rw [show Lib.cut s.data.toList (⟨#[13, 10]⟩ : ByteArray).data.toList = (s.data.toList, [], false) from cut_none hl] at hc
  have HC := Lib.hid hc
  have H := Lib.hid h
  clear hc h hl hm hs
  go_enter Tryd.func24, Tryd.ntmps24
  go_wp2_with fail
  refine HC.out.mono ?_
  rintro e w' ⟨rfl, n, rfl⟩
  go_wp2_with fail
  go_ret2
  exact ⟨rfl, H.out.drewN n, below_drawn (Below.refl _ _) n⟩

set_option maxHeartbeats 1000000 in
set_option maxRecDepth 100000 in
/-- Bytes that are there. -/
theorem bytes_hit (w : World) (R : Nat) (s : ByteArray) (X : List UInt8) (h : Rdr w R s X) (n : Nat) (hn : n ≤ s.size) :
    Calls Tryd.prog 38 #[.pointer (some ⟨R, 0, none⟩), .int .i64 n] w fun e w' => e = .returned (.tuple #[.string (s.extract 0 n), .bool true]) ∧ Rdr w' R (s.extract n s.size) X ∧ Below R w w' := by
  obtain ⟨A, c, _, _, h0, _, f0, _⟩ := h.cells
  have H := Lib.hid h
  have h1 : ¬ (s.size : Int) < (n : Int) := by omega
  have h2 : (n : Int) ≤ (s.size : Int) := by omega
  have h3 : (0 : Int) ≤ (n : Int) := by omega
  clear h hn
  go_enter Tryd.func38, Tryd.ntmps38
  go_wp2_with fail
  go_ret2
  exact ⟨rfl, H.out.left _, (Below.refl _ _).setCell (p := ⟨R, 0, none⟩) (Nat.le_refl _) _⟩
set_option maxHeartbeats 1000000 in
set_option maxRecDepth 100000 in
/-- Fewer bytes than are asked. -/
theorem bytes_miss (w : World) (R : Nat) (s : ByteArray) (X : List UInt8) (h : Rdr w R s X) (n : Nat) (hn : s.size < n) :
    Calls Tryd.prog 38 #[.pointer (some ⟨R, 0, none⟩), .int .i64 n] w fun e w' => e = .returned (.tuple #[.string ⟨#[]⟩, .bool false]) ∧ Rdr w' R s X ∧ Below R w w' := by
  obtain ⟨A, c, _, _, h0, _, f0, _⟩ := h.cells
  have H := Lib.hid h
  have h1 : (s.size : Int) < (n : Int) := by omega
  clear h hn
  go_enter Tryd.func38, Tryd.ntmps38
  go_wp2_with fail
  go_ret2
  exact ⟨rfl, H.out, Below.refl _ _⟩

end Go.Proofs.YtbbppkonjaijhaaDoor
end
