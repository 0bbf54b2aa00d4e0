/-
  Contracts of the functions on bytes of package octet (Token, Text, Digit, Hex, blank), for every byte.
-/
import Derived.Test.YtcmppmbieebkpaaGreatDoorOctIn
namespace Go.Proofs.YtcmppmbieebkpaaGreatDoor
open Go.RowKit

def tokCls : List Cls := [.span 97 122, .span 65 90, .span 48 57, .set ⟨#[33, 35, 36, 37, 38, 39, 42, 43, 45, 46, 94, 95, 96, 124, 126]⟩]
def txtCls : List Cls := [.span 9 9, .span 32 126, .span 128 255]
def blkCls : List Cls := [.set ⟨#[32, 9]⟩]
theorem tok_cls {c : Int} (h0 : 0 ≤ c) (h1 : c ≤ 255) : (tokCls.any fun k => k.has c) = tokB c := byte_all (p := fun c => tokCls.any fun k => k.has c) (q := tokB) (by decide +kernel) h0 h1
theorem txt_cls {c : Int} (h0 : 0 ≤ c) (h1 : c ≤ 255) : (txtCls.any fun k => k.has c) = txtB c := byte_all (p := fun c => txtCls.any fun k => k.has c) (q := txtB) (by decide +kernel) h0 h1
theorem blk_cls {c : Int} (h0 : 0 ≤ c) (h1 : c ≤ 255) : (blkCls.any fun k => k.has c) = blkB c := byte_all (p := fun c => blkCls.any fun k => k.has c) (q := blkB) (by decide +kernel) h0 h1
theorem one_cls (lo hi c : Int) : ([Cls.span lo hi].any fun k => k.has c) = rng lo hi c := by simp [Cls.has, rng]

theorem span_any (x y : Int) (w : World) :
    Calls Tryz.prog 49 #[.int .u8 x, .int .u8 y] w fun e w' => e = .returned (.func (.func 68) #[] #[.pointer (some ⟨w.heap.size, 0, none⟩), .pointer (some ⟨w.heap.size + 1, 0, none⟩)]) ∧
      (w.alloc (.cells #[.int .u8 x] 5)).alloc (.cells #[.int .u8 y] 5) = w' := by
  have hmf : ∀ (fn : Fn) (first cap : Array Value) (w : World), (Instr.makeFunc fn first cap).run Tryz.prog w = .ok (.func fn first cap) w := fun _ _ _ _ => rfl
  go_enter Tryz.func49, Tryz.ntmps49
  go_wp2
  go_ret
  exact ⟨rfl, rfl⟩

theorem in_one (lo hi : Int) (b len cap : Nat) (c : Int) (w : World) (hl : Hid (len = 1)) (hv : ∃ p q : Nat, w.cell? ⟨b, 0, none⟩ = some (.func (.func 68) #[] #[.pointer (some ⟨p, 0, none⟩), .pointer (some ⟨q, 0, none⟩)]) ∧
      w.cell? ⟨p, 0, none⟩ = some (.int .u8 lo) ∧ w.cell? ⟨q, 0, none⟩ = some (.int .u8 hi)) :
    Calls Tryz.prog 48 #[.int .u8 c, .slice (some ⟨b, 0, none⟩) len cap] w fun e w' => e = .returned (.bool (rng lo hi c)) ∧ w = w' := by
  obtain ⟨p, q, h, hp, hq⟩ := hv
  have := in_row [.span lo hi] b len cap c w hl (by have := hl.out; omega) ⟨⟨_, h, p, q, rfl, hp, hq⟩, trivial⟩
  rwa [one_cls] at this

theorem digit_any (c : Int) (w : World) :
    Calls Tryz.prog 76 #[.int .u8 c] w fun e w' => e = .returned (.bool (digB c)) ∧ Below w.heap.size w w' := by
  have HQ := Lib.hid (show rng 48 57 c = digB c from rfl)
  go_enter Tryz.func76, Tryz.ntmps76
  go_wp2_with (go_at_call 49; refine (span_any _ _ _).mono ?_; rintro e w' ⟨rfl, rfl⟩)
  refine (in_one 48 57 _ _ _ c _ rfl ⟨w.heap.size, w.heap.size + 1, ?_, ?_, ?_⟩).mono ?_
  · go_simp
  · go_simp
  · go_simp
  rintro e w' ⟨rfl, rfl⟩
  go_wp2
  go_ret
  exact ⟨by rw [HQ.out]; rfl, by repeat (first | exact Below.refl _ _ | (refine Below.alloc ?_ (by simp <;> omega) _))⟩

theorem hex_any (c : Int) (h0 : 0 ≤ c) (h1 : c ≤ 255) (w : World) :
    Calls Tryz.prog 59 #[.int .u8 c] w fun e w' => e = .returned (.tuple #[.int .i64 (hexN c), .bool (hexB c)]) ∧ Below w.heap.size w w' := by
  by_cases k1 : rng 48 57 c = true
  · have HD := Lib.hid (show digB c = true from k1)
    have HN := Lib.hid (show hexN c = c - 48 by simp [hexN, k1])
    have HB := Lib.hid (show hexB c = true by simp [hexB, k1])
    have hb := rng_true.1 k1
    clear k1
    go_enter Tryz.func59, Tryz.ntmps59
    go_wp2_with (go_at_call 76; refine (digit_any _ _).mono ?_; rintro e w' ⟨he, hbel⟩; rw [HD.out] at he; subst he)
    go_ret2
    exact ⟨by rw [HN.out, HB.out]; rfl, hbel⟩
  · have k1' : rng 48 57 c = false := by simpa using k1
    have HD := Lib.hid (show digB c = false from k1')
    by_cases k2 : rng 97 102 c = true
    · have HN := Lib.hid (show hexN c = c - 97 + 10 by simp [hexN, k1', k2]; omega)
      have HB := Lib.hid (show hexB c = true by simp [hexB, k2])
      have K2 := Lib.hid k2
      have hb := rng_true.1 k2
      clear k1 k1' k2
      go_enter Tryz.func59, Tryz.ntmps59
      go_wp2_with (go_at_call 76; refine (digit_any _ _).mono ?_; rintro e w1 ⟨he, hbel⟩; rw [HD.out] at he; subst he)
      refine (span_any _ _ _).mono ?_
      rintro e w' ⟨rfl, rfl⟩
      go_wp2_with fail
      refine (in_one 97 102 _ _ _ c _ rfl ⟨w1.heap.size, w1.heap.size + 1, ?_, ?_, ?_⟩).mono ?_
      · go_simp
      · go_simp
      · go_simp
      rintro e w' ⟨he, rfl⟩
      rw [K2.out] at he
      subst he
      go_wp2
      go_ret2
      exact ⟨by rw [HN.out, HB.out]; rfl, hbel.trans (by repeat (first | exact Below.refl _ _ | (refine Below.alloc ?_ (by have := hbel.size; simp <;> omega) _)))⟩
    · have k2' : rng 97 102 c = false := by simpa using k2
      have K2 := Lib.hid k2'
      by_cases k3 : rng 65 70 c = true
      · have HN := Lib.hid (show hexN c = c - 65 + 10 by simp [hexN, k1', k2', k3]; omega)
        have HB := Lib.hid (show hexB c = true by simp [hexB, k3])
        have K3 := Lib.hid k3
        have hb := rng_true.1 k3
        clear k1 k1' k2 k2' k3
        go_enter Tryz.func59, Tryz.ntmps59
        go_wp2_with (go_at_call 76; refine (digit_any _ _).mono ?_; rintro e w1 ⟨he, hbel⟩; rw [HD.out] at he; subst he)
        refine (span_any _ _ _).mono ?_
        rintro e w' ⟨rfl, rfl⟩
        go_wp2_with fail
        refine (in_one 97 102 _ _ _ c _ rfl ⟨w1.heap.size, w1.heap.size + 1, ?_, ?_, ?_⟩).mono ?_
        · go_simp
        · go_simp
        · go_simp
        rintro e w' ⟨he, rfl⟩
        rw [K2.out] at he
        subst he
        go_wp2_with fail
        refine (span_any _ _ _).mono ?_
        rintro e w' ⟨rfl, rfl⟩
        go_wp2_with fail
        refine (in_one 65 70 _ _ _ c _ rfl ⟨w1.heap.size + 3, w1.heap.size + 4, ?_, ?_, ?_⟩).mono ?_
        · go_simp
        · go_simp
        · go_simp
        rintro e w' ⟨he, rfl⟩
        rw [K3.out] at he
        subst he
        go_wp2
        go_ret2
        exact ⟨by rw [HN.out, HB.out]; rfl, hbel.trans (by repeat (first | exact Below.refl _ _ | (refine Below.alloc ?_ (by have := hbel.size; simp <;> omega) _)))⟩
      · have k3' : rng 65 70 c = false := by simpa using k3
        have K3 := Lib.hid k3'
        have HN := Lib.hid (show hexN c = 0 by simp [hexN, k1', k2', k3'])
        have HB := Lib.hid (show hexB c = false by simp [hexB, k1', k2', k3'])
        clear k1 k1' k2 k2' k3 k3'
        go_enter Tryz.func59, Tryz.ntmps59
        go_wp2_with (go_at_call 76; refine (digit_any _ _).mono ?_; rintro e w1 ⟨he, hbel⟩; rw [HD.out] at he; subst he)
        refine (span_any _ _ _).mono ?_
        rintro e w' ⟨rfl, rfl⟩
        go_wp2_with fail
        refine (in_one 97 102 _ _ _ c _ rfl ⟨w1.heap.size, w1.heap.size + 1, ?_, ?_, ?_⟩).mono ?_
        · go_simp
        · go_simp
        · go_simp
        rintro e w' ⟨he, rfl⟩
        rw [K2.out] at he
        subst he
        go_wp2_with fail
        refine (span_any _ _ _).mono ?_
        rintro e w' ⟨rfl, rfl⟩
        go_wp2_with fail
        refine (in_one 65 70 _ _ _ c _ rfl ⟨w1.heap.size + 3, w1.heap.size + 4, ?_, ?_, ?_⟩).mono ?_
        · go_simp
        · go_simp
        · go_simp
        rintro e w' ⟨he, rfl⟩
        rw [K3.out] at he
        subst he
        go_wp2
        go_ret2
        exact ⟨by rw [HN.out, HB.out]; rfl, hbel.trans (by repeat (first | exact Below.refl _ _ | (refine Below.alloc ?_ (by have := hbel.size; simp <;> omega) _)))⟩

end Go.Proofs.YtcmppmbieebkpaaGreatDoor
