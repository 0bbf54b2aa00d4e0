/-
  Contracts of the functions on bytes of package octet (Token, Text, Digit, Hex, blank), for every byte.
-/
import Derived.Test.YtbmlldjkfpekkaaDoorOctIn
namespace Go.Proofs.YtbmlldjkfpekkaaDoor
open Go.RowKit

def tokCls : List Cls := [.span 97 122, .span 65 90, .span 48 57, .set ⟨#[33, 35, 36, 37, 38, 39, 42, 43, 45, 46, 94, 95, 96, 124, 126]⟩]
def txtCls : List Cls := [.span 9 9, .span 32 126, .span 128 255]
def blkCls : List Cls := [.set ⟨#[32, 9]⟩]
theorem tok_cls {c : Int} (h0 : 0 ≤ c) (h1 : c ≤ 255) : (tokCls.any fun k => k.has c) = tokB c := byte_all (p := fun c => tokCls.any fun k => k.has c) (q := tokB) (by decide +kernel) h0 h1
theorem txt_cls {c : Int} (h0 : 0 ≤ c) (h1 : c ≤ 255) : (txtCls.any fun k => k.has c) = txtB c := byte_all (p := fun c => txtCls.any fun k => k.has c) (q := txtB) (by decide +kernel) h0 h1
theorem blk_cls {c : Int} (h0 : 0 ≤ c) (h1 : c ≤ 255) : (blkCls.any fun k => k.has c) = blkB c := byte_all (p := fun c => blkCls.any fun k => k.has c) (q := blkB) (by decide +kernel) h0 h1
theorem one_cls (lo hi c : Int) : ([Cls.span lo hi].any fun k => k.has c) = rng lo hi c := by simp [Cls.has, rng]

theorem span_any (x y : Int) (w : World) :
    Calls Tryd.prog 46 #[.int .u8 x, .int .u8 y] w fun e w' => e = .returned (.func (.func 55) #[] #[.pointer (some ⟨w.heap.size, 0, none⟩), .pointer (some ⟨w.heap.size + 1, 0, none⟩)]) ∧
      (w.alloc (.cells #[.int .u8 x] 5)).alloc (.cells #[.int .u8 y] 5) = w' := by
  have hmf : ∀ (fn : Fn) (first cap : Array Value) (w : World), (Instr.makeFunc fn first cap).run Tryd.prog w = .ok (.func fn first cap) w := fun _ _ _ _ => rfl
  go_enter Tryd.func46, Tryd.ntmps46
  go_wp2
  go_ret
  exact ⟨rfl, rfl⟩

theorem set_any (m : ByteArray) (w : World) :
    Calls Tryd.prog 47 #[.string m] w fun e w' => e = .returned (.func (.func 56) #[] #[.pointer (some ⟨w.heap.size, 0, none⟩)]) ∧
      w.alloc (.cells #[.string m] 9) = w' := by
  have hmf : ∀ (fn : Fn) (first cap : Array Value) (w : World), (Instr.makeFunc fn first cap).run Tryd.prog w = .ok (.func fn first cap) w := fun _ _ _ _ => rfl
  go_enter Tryd.func47, Tryd.ntmps47
  go_wp2
  go_ret
  exact ⟨rfl, rfl⟩

theorem in_one (lo hi : Int) (b len cap : Nat) (c : Int) (w : World) (hl : Hid (len = 1)) (hv : ∃ p q : Nat, w.cell? ⟨b, 0, none⟩ = some (.func (.func 55) #[] #[.pointer (some ⟨p, 0, none⟩), .pointer (some ⟨q, 0, none⟩)]) ∧
      w.cell? ⟨p, 0, none⟩ = some (.int .u8 lo) ∧ w.cell? ⟨q, 0, none⟩ = some (.int .u8 hi)) :
    Calls Tryd.prog 45 #[.int .u8 c, .slice (some ⟨b, 0, none⟩) len cap] w fun e w' => e = .returned (.bool (rng lo hi c)) ∧ w = w' := by
  obtain ⟨p, q, h, hp, hq⟩ := hv
  have := in_row [.span lo hi] b len cap c w hl (by have := hl.out; omega) ⟨⟨_, h, p, q, rfl, hp, hq⟩, trivial⟩
  rwa [one_cls] at this

theorem token_any (c : Int) (h0 : 0 ≤ c) (h1 : c ≤ 255) (w : World) :
    Calls Tryd.prog 35 #[.int .u8 c] w fun e w' => e = .returned (.bool (tokB c)) ∧ Below w.heap.size w w' := by
  have HQ := Lib.hid (tok_cls h0 h1)
  go_enter Tryd.func35, Tryd.ntmps35
  go_wp2_with (first
    | (go_at_call 46; refine (span_any _ _ _).mono ?_; rintro e w' ⟨rfl, rfl⟩)
    | (go_at_call 47; refine (set_any _ _).mono ?_; rintro e w' ⟨rfl, rfl⟩))
  refine (in_row tokCls _ _ _ c _ rfl ?hm ?h).mono ?_
  case hm => decide
  case h =>
    refine ⟨⟨_, ?_, w.heap.size, w.heap.size + 1, rfl, ?_, ?_⟩, ⟨_, ?_, w.heap.size + 2, w.heap.size + 3, rfl, ?_, ?_⟩, ⟨_, ?_, w.heap.size + 4, w.heap.size + 5, rfl, ?_, ?_⟩, ⟨_, ?_, w.heap.size + 6, rfl, ?_⟩, trivial⟩
    all_goals go_simp
  rintro e w' ⟨rfl, rfl⟩
  go_wp2
  go_ret
  exact ⟨by rw [HQ.out]; rfl, by repeat (first | exact Below.refl _ _ | (refine Below.alloc ?_ (by simp <;> omega) _))⟩

theorem text_any (c : Int) (h0 : 0 ≤ c) (h1 : c ≤ 255) (w : World) :
    Calls Tryd.prog 36 #[.int .u8 c] w fun e w' => e = .returned (.bool (txtB c)) ∧ Below w.heap.size w w' := by
  have HQ := Lib.hid (txt_cls h0 h1)
  go_enter Tryd.func36, Tryd.ntmps36
  go_wp2_with (go_at_call 46; refine (span_any _ _ _).mono ?_; rintro e w' ⟨rfl, rfl⟩)
  refine (in_row txtCls _ _ _ c _ rfl ?hm ?h).mono ?_
  case hm => decide
  case h =>
    refine ⟨⟨_, ?_, w.heap.size, w.heap.size + 1, rfl, ?_, ?_⟩, ⟨_, ?_, w.heap.size + 2, w.heap.size + 3, rfl, ?_, ?_⟩, ⟨_, ?_, w.heap.size + 4, w.heap.size + 5, rfl, ?_, ?_⟩, trivial⟩
    all_goals go_simp
  rintro e w' ⟨rfl, rfl⟩
  go_wp2
  go_ret
  exact ⟨by rw [HQ.out]; rfl, by repeat (first | exact Below.refl _ _ | (refine Below.alloc ?_ (by simp <;> omega) _))⟩

end Go.Proofs.YtbmlldjkfpekkaaDoor
