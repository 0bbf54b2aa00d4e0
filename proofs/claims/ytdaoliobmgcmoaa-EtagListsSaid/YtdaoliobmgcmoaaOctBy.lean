/-
  Contracts of the functions on bytes of package octet (Token, Text, Digit, Hex, blank), for every byte.
-/
import Derived.Test.YtdaoliobmgcmoaaOctIn
namespace Go.Proofs.Ytdaoliobmgcmoaa
open Go.RowKit

def tokCls : List Cls := [.span 97 122, .span 65 90, .span 48 57, .set ⟨#[33, 35, 36, 37, 38, 39, 42, 43, 45, 46, 94, 95, 96, 124, 126]⟩]
def txtCls : List Cls := [.span 9 9, .span 32 126, .span 128 255]
def blkCls : List Cls := [.set ⟨#[32, 9]⟩]
theorem tok_cls {c : Int} (h0 : 0 ≤ c) (h1 : c ≤ 255) : (tokCls.any fun k => k.has c) = tokB c := byte_all (p := fun c => tokCls.any fun k => k.has c) (q := tokB) (by decide +kernel) h0 h1
theorem txt_cls {c : Int} (h0 : 0 ≤ c) (h1 : c ≤ 255) : (txtCls.any fun k => k.has c) = txtB c := byte_all (p := fun c => txtCls.any fun k => k.has c) (q := txtB) (by decide +kernel) h0 h1
theorem blk_cls {c : Int} (h0 : 0 ≤ c) (h1 : c ≤ 255) : (blkCls.any fun k => k.has c) = blkB c := byte_all (p := fun c => blkCls.any fun k => k.has c) (q := blkB) (by decide +kernel) h0 h1
theorem one_cls (lo hi c : Int) : ([Cls.span lo hi].any fun k => k.has c) = rng lo hi c := by simp [Cls.has, rng]

theorem set_any (m : ByteArray) (w : World) :
    Calls Try.prog 38 #[.string m] w fun e w' => e = .returned (.func (.func 40) #[] #[.pointer (some ⟨w.heap.size, 0, none⟩)]) ∧
      w.alloc (.cells #[.string m] 9) = w' := by
  have hmf : ∀ (fn : Fn) (first cap : Array Value) (w : World), (Instr.makeFunc fn first cap).run Try.prog w = .ok (.func fn first cap) w := fun _ _ _ _ => rfl
  go_enter Try.func38, Try.ntmps38
  go_wp2
  go_ret
  exact ⟨rfl, rfl⟩

theorem blank_any (c : Int) (h0 : 0 ≤ c) (h1 : c ≤ 255) (w : World) :
    Calls Try.prog 32 #[.int .u8 c] w fun e w' => e = .returned (.bool (blkB c)) ∧ Below w.heap.size w w' := by
  have HQ := Lib.hid (blk_cls h0 h1)
  go_enter Try.func32, Try.ntmps32
  go_wp2_with (go_at_call 38; refine (set_any _ _).mono ?_; rintro e w' ⟨rfl, rfl⟩)
  refine (in_row blkCls _ _ _ c _ rfl ?hm ?h).mono ?_
  case hm => decide
  case h =>
    refine ⟨⟨_, ?_, w.heap.size, rfl, ?_⟩, trivial⟩
    all_goals go_simp
  rintro e w' ⟨rfl, rfl⟩
  go_wp2
  go_ret
  exact ⟨by rw [HQ.out]; rfl, by repeat (first | exact Below.refl _ _ | (refine Below.alloc ?_ (by simp <;> omega) _))⟩

end Go.Proofs.Ytdaoliobmgcmoaa
