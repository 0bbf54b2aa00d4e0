/-
  Texts that the laws of this seat lean on, one behind the other.
-/
import Derived.Test.YtmkjjidilfhojaaDoorMrgO
import Derived.Test.YtmkjjidilfhojaaDoorRows
import Derived.Test.YtmkjjidilfhojaaDoorMrgA
import Derived.WalkKit
import Derived.Lib.Hide
import Derived.Test.YtmkjjidilfhojaaDoorMrgB
/-
  Contracts of the functions on bytes of package octet (Token, Text, Digit, Hex, blank), for every byte.
-/
section
namespace Go.Proofs.YtmkjjidilfhojaaDoor
open Go.RowKit

def tokCls : List Cls := [.span 97 122, .span 65 90, .span 48 57, .set ⟨#[33, 35, 36, 37, 38, 39, 42, 43, 45, 46, 94, 95, 96, 124, 126]⟩]
def txtCls : List Cls := [.span 9 9, .span 32 126, .span 128 255]
def blkCls : List Cls := [.set ⟨#[32, 9]⟩]
theorem tok_cls {c : Int} (h0 : 0 ≤ c) (h1 : c ≤ 255) : (tokCls.any fun k => k.has c) = tokB c := byte_all (p := fun c => tokCls.any fun k => k.has c) (q := tokB) (by decide +kernel) h0 h1
theorem txt_cls {c : Int} (h0 : 0 ≤ c) (h1 : c ≤ 255) : (txtCls.any fun k => k.has c) = txtB c := byte_all (p := fun c => txtCls.any fun k => k.has c) (q := txtB) (by decide +kernel) h0 h1
theorem blk_cls {c : Int} (h0 : 0 ≤ c) (h1 : c ≤ 255) : (blkCls.any fun k => k.has c) = blkB c := byte_all (p := fun c => blkCls.any fun k => k.has c) (q := blkB) (by decide +kernel) h0 h1
theorem one_cls (lo hi c : Int) : ([Cls.span lo hi].any fun k => k.has c) = rng lo hi c := by simp [Cls.has, rng]

theorem span_any (x y : Int) (w : World) :
    Calls Tryd.prog 37 #[.int .u8 x, .int .u8 y] w fun e w' => e = .returned (.func (.func 45) #[] #[.pointer (some ⟨w.heap.size, 0, none⟩), .pointer (some ⟨w.heap.size + 1, 0, none⟩)]) ∧
      (w.alloc (.cells #[.int .u8 x] 5)).alloc (.cells #[.int .u8 y] 5) = w' := by
  have hmf : ∀ (fn : Fn) (first cap : Array Value) (w : World), (Instr.makeFunc fn first cap).run Tryd.prog w = .ok (.func fn first cap) w := fun _ _ _ _ => rfl
  go_enter Tryd.func37, Tryd.ntmps37
  go_wp2
  go_ret
  exact ⟨rfl, rfl⟩

theorem set_any (m : ByteArray) (w : World) :
    Calls Tryd.prog 49 #[.string m] w fun e w' => e = .returned (.func (.func 50) #[] #[.pointer (some ⟨w.heap.size, 0, none⟩)]) ∧
      w.alloc (.cells #[.string m] 9) = w' := by
  have hmf : ∀ (fn : Fn) (first cap : Array Value) (w : World), (Instr.makeFunc fn first cap).run Tryd.prog w = .ok (.func fn first cap) w := fun _ _ _ _ => rfl
  go_enter Tryd.func49, Tryd.ntmps49
  go_wp2
  go_ret
  exact ⟨rfl, rfl⟩

theorem in_one (lo hi : Int) (b len cap : Nat) (c : Int) (w : World) (hl : Hid (len = 1)) (hv : ∃ p q : Nat, w.cell? ⟨b, 0, none⟩ = some (.func (.func 45) #[] #[.pointer (some ⟨p, 0, none⟩), .pointer (some ⟨q, 0, none⟩)]) ∧
      w.cell? ⟨p, 0, none⟩ = some (.int .u8 lo) ∧ w.cell? ⟨q, 0, none⟩ = some (.int .u8 hi)) :
    Calls Tryd.prog 36 #[.int .u8 c, .slice (some ⟨b, 0, none⟩) len cap] w fun e w' => e = .returned (.bool (rng lo hi c)) ∧ w = w' := by
  obtain ⟨p, q, h, hp, hq⟩ := hv
  have := in_row [.span lo hi] b len cap c w hl (by have := hl.out; omega) ⟨⟨_, h, p, q, rfl, hp, hq⟩, trivial⟩
  rwa [one_cls] at this

theorem blank_any (c : Int) (h0 : 0 ≤ c) (h1 : c ≤ 255) (w : World) :
    Calls Tryd.prog 48 #[.int .u8 c] w fun e w' => e = .returned (.bool (blkB c)) ∧ Below w.heap.size w w' := by
  have HQ := Lib.hid (blk_cls h0 h1)
  go_enter Tryd.func48, Tryd.ntmps48
  go_wp2_with (go_at_call 49; refine (set_any _ _).mono ?_; rintro e w' ⟨rfl, rfl⟩)
  refine (in_row blkCls _ _ _ c _ rfl ?hm ?h).mono ?_
  case hm => decide
  case h =>
    refine ⟨⟨_, ?_, w.heap.size, rfl, ?_⟩, trivial⟩
    all_goals go_simp
  rintro e w' ⟨rfl, rfl⟩
  go_wp2
  go_ret
  exact ⟨by rw [HQ.out]; rfl, by repeat (first | exact Below.refl _ _ | (refine Below.alloc ?_ (by simp <;> omega) _))⟩

end Go.Proofs.YtmkjjidilfhojaaDoor
end

/-
  Contracts of the reference's Hex and Digit (layer 1), for every byte.
-/
section
namespace Go.Proofs.YtmkjjidilfhojaaDoor
open Go.RowKit

def sml (k : Nat) : Nat := [48, 49, 50, 51, 52, 53, 54, 55, 56, 57, 97, 98, 99, 100, 101, 102].getD k 0
def grt (k : Nat) : Nat := [48, 49, 50, 51, 52, 53, 54, 55, 56, 57, 65, 66, 67, 68, 69, 70].getD k 0
theorem sml_at : ∀ (k : Nat) (h : k < 16), (⟨#[48, 49, 50, 51, 52, 53, 54, 55, 56, 57, 97, 98, 99, 100, 101, 102]⟩ : ByteArray)[k].toNat = sml k := by decide +kernel
theorem grt_at : ∀ (k : Nat) (h : k < 16), (⟨#[48, 49, 50, 51, 52, 53, 54, 55, 56, 57, 65, 66, 67, 68, 69, 70]⟩ : ByteArray)[k].toNat = grt k := by decide +kernel
theorem hex_hit : ∀ n : Nat, n < 256 → ∀ k : Nat, k < 16 → (sml k = n ∨ grt k = n) → hexN n = k ∧ hexB n = true := by decide +kernel
theorem hex_miss : ∀ n : Nat, n < 256 → (∀ k : Nat, k < 16 → sml k ≠ n ∧ grt k ≠ n) → hexN n = 0 ∧ hexB n = false := by decide +kernel

end Go.Proofs.YtmkjjidilfhojaaDoor
end

/-
  Contracts of the reference's functions on bytes (layer 1), for every byte.
-/
section
namespace Go.Proofs.YtmkjjidilfhojaaDoor
open Go.RowKit

theorem r_blank (c : Int) (w : World) :
    Calls Tryd.prog 44 #[.int .u8 c] w fun e w' => e = .returned (.bool (blkB c)) ∧ w = w' := by
  unfold blkB
  by_cases h : (c == 32) = true
  · go_enter Tryd.func44, Tryd.ntmps44
    go_wp2
    go_ret
    exact ⟨by simp [h], rfl⟩
  · have h' : (c == 32) = false := by simpa using h
    go_enter Tryd.func44, Tryd.ntmps44
    go_wp2
    go_ret
    exact ⟨by simp [h'], rfl⟩

def mrk (k : Nat) : Nat := [33, 35, 36, 37, 38, 39, 42, 43, 45, 46, 94, 95, 96, 124, 126].getD k 0
theorem mrk_at : ∀ (k : Nat) (h : k < 15), (⟨#[33, 35, 36, 37, 38, 39, 42, 43, 45, 46, 94, 95, 96, 124, 126]⟩ : ByteArray)[k].toNat = mrk k := by decide +kernel
theorem tok_hit : ∀ n : Nat, n < 256 → ∀ k : Nat, k < 15 → mrk k = n → tokB n = true := by decide +kernel
theorem tok_miss : ∀ n : Nat, n < 256 → (rng 65 90 n || rng 97 122 n || rng 48 57 n) = false → (∀ k : Nat, k < 15 → mrk k ≠ n) → tokB n = false := by decide +kernel

end Go.Proofs.YtmkjjidilfhojaaDoor
end

/-
  Contracts of the functions on texts of package octet: every, IsToken, IsText, Trim, Cut.
-/
section
namespace Go.Proofs.YtmkjjidilfhojaaDoor
open Go.RowKit

end Go.Proofs.YtmkjjidilfhojaaDoor
end
