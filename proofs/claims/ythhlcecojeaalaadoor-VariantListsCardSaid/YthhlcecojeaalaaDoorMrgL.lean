/-
  Texts that the laws of this seat lean on, one behind the other.
-/
import Derived.Test.YthhlcecojeaalaaDoorRows
import Derived.WalkKit
import Derived.Lib.Bytealg
import Derived.Lib.Hide
import Derived.Test.YthhlcecojeaalaaDoorMrgA
set_option linter.unusedSimpArgs false
set_option linter.unusedVariables false
/-
  Contracts of the byte classes of package octet: strings.IndexByte, the closures that span and set make, and the function in, which asks a list of such closures. No condition but that a byte is a byte.
-/
section
namespace Go.Proofs.YthhlcecojeaalaaDoor
open Go.RowKit

/-- What a byte's class holds: a span of bytes, or the bytes of a text. -/
inductive Cls where
  | span (lo hi : Int) : Cls
  | set (m : ByteArray) : Cls

def Cls.has : Cls → Int → Bool
  | .span lo hi, c => decide (lo ≤ c) && decide (c ≤ hi)
  | .set m, c => decide (0 ≤ Lib.indexByte m.data.toList c.toNat.toUInt8)

/-- The value v is a closure of the class at world w. -/
def ClsAt (w : World) (v : Value) : Cls → Prop
  | .span lo hi => ∃ a b : Nat, v = .func (.func 107) #[] #[.pointer (some ⟨a, 0, none⟩), .pointer (some ⟨b, 0, none⟩)] ∧ w.cell? ⟨a, 0, none⟩ = some (.int .u8 lo) ∧ w.cell? ⟨b, 0, none⟩ = some (.int .u8 hi)
  | .set _ => False

set_option maxHeartbeats 4000000 in
set_option maxRecDepth 100000 in
theorem span_in (a b : Nat) (lo hi c : Int) (w : World) (ha : w.cell? ⟨a, 0, none⟩ = some (.int .u8 lo)) (hb : w.cell? ⟨b, 0, none⟩ = some (.int .u8 hi)) :
    Calls Tryd.prog 107 #[.int .u8 c, .pointer (some ⟨a, 0, none⟩), .pointer (some ⟨b, 0, none⟩)] w fun e w' => e = .returned (.bool ((Cls.span lo hi).has c)) ∧ w = w' := by
  unfold Cls.has
  by_cases h : lo ≤ c
  · go_enter Tryd.func107, Tryd.ntmps107
    go_wp2
    go_ret
    exact ⟨by simp [h], rfl⟩
  · go_enter Tryd.func107, Tryd.ntmps107
    go_wp2
    go_ret
    exact ⟨by simp; omega, rfl⟩

set_option maxHeartbeats 4000000 in
set_option maxRecDepth 100000 in
/-- The function in: does one of the classes hold the byte? The world is as it was. -/
theorem in_any (cls : List Cls) (b off len cap : Nat) (c : Int) (w : World) (hl : Hid (len = cls.length)) (hm : len ≤ 1000)
    (h : ∀ i, (hi : i < cls.length) → ∃ v, w.cell? ⟨b, off + i, none⟩ = some v ∧ ClsAt w v cls[i]) :
    Calls Tryd.prog 103 #[.int .u8 c, .slice (some ⟨b, off, none⟩) len cap] w fun e w' => e = .returned (.bool (cls.any fun k => k.has c)) ∧ w = w' := by
  go_enter Tryd.func103, Tryd.ntmps103
  go_wp2
  go_loop [4, 9] (fun r i => ∃ k : Nat, k ≤ len ∧ i = .int .i64 k ∧ r = .bool false ∧ Hid ((cls.take k).any (fun x => x.has c) = false)) (fun _ i => len - (intOf i).toNat)
  case atStart => exact ⟨0, Nat.zero_le _, rfl, rfl, rfl⟩
  case round =>
    obtain ⟨k, hk, rfl, rfl, hf⟩ := hrel
    by_cases hlt : k < len
    · have hkc : k < cls.length := by rw [← hl.out]; exact hlt
      obtain ⟨v, hc, hv⟩ := h k hkc
      have HA : Hid ((cls.take (k + 1)).any (fun x => x.has c) = cls[k].has c) := by
        show _ = _
        rw [List.take_succ_eq_append_getElem hkc, List.any_append, hf.out]; simp
      have HT : Hid (cls[k].has c = true → cls.any (fun x => x.has c) = true) := fun hh => List.any_eq_true.2 ⟨cls[k], List.getElem_mem hkc, hh⟩
      generalize cls[k] = cl at *
      clear h
      cases cl with
      | span lo hi =>
        obtain ⟨p, q, rfl, hp, hq⟩ := hv
        by_cases hin : (Cls.span lo hi).has c = true
        · have HH := Lib.hid (HT.out hin)
          have HI := Lib.hid hin
          clear HT hin
          have hs := Lib.hid (span_in p q lo hi c w hp hq)
          clear hp hq
          go_wp2_with (go_at_call 107; refine (hs.out).mono ?_; rintro e w' ⟨he, rfl⟩; rw [HI.out] at he; subst he)
          go_ret
          exact ⟨by rw [HH.out]; rfl, rfl⟩
        · have hin' : (Cls.span lo hi).has c = false := by simpa using hin
          have HI := Lib.hid hin'
          clear HT hin hin'
          have hs := Lib.hid (span_in p q lo hi c w hp hq)
          clear hp hq
          go_wp2_with (go_at_call 107; refine (hs.out).mono ?_; rintro e w' ⟨he, rfl⟩; rw [HI.out] at he; subst he)
          go_round
          case rel => exact ⟨k + 1, by omega, by go_num, rfl, by show _ = _; rw [HA.out, HI.out]⟩
          case measure => simp [intOf]; omega
      | set m => exact hv.elim
    · have hz : k = len := by omega
      have HF : Hid (cls.any (fun x => x.has c) = false) := by
        show _ = _
        have := hf.out
        rw [List.take_of_length_le (by have := hl.out; omega)] at this
        exact this
      clear hf h hz
      go_wp2
      go_ret
      exact ⟨by rw [HF.out]; rfl, rfl⟩

/-- The classes' closures lie one behind the other. -/
def ClsRow (w : World) (b : Nat) : Nat → List Cls → Prop
  | _, [] => True
  | o, k :: ks => (∃ v, w.cell? ⟨b, o, none⟩ = some v ∧ ClsAt w v k) ∧ ClsRow w b (o + 1) ks

theorem ClsRow.at {w : World} {b : Nat} : ∀ {ks : List Cls} {o : Nat}, ClsRow w b o ks → ∀ i, (hi : i < ks.length) → ∃ v, w.cell? ⟨b, o + i, none⟩ = some v ∧ ClsAt w v ks[i]
  | [], _, _, i, hi => absurd hi (by simp)
  | k :: ks, o, h, 0, _ => h.1
  | k :: ks, o, h, i + 1, hi => by
    have := ClsRow.at h.2 i (by simpa using hi)
    rw [show o + (i + 1) = o + 1 + i by omega]
    simpa using this

theorem in_row (cls : List Cls) (b len cap : Nat) (c : Int) (w : World) (hl : Hid (len = cls.length)) (hm : len ≤ 1000) (h : ClsRow w b 0 cls) :
    Calls Tryd.prog 103 #[.int .u8 c, .slice (some ⟨b, 0, none⟩) len cap] w fun e w' => e = .returned (.bool (cls.any fun k => k.has c)) ∧ w = w' :=
  in_any cls b 0 len cap c w hl hm h.at

end Go.Proofs.YthhlcecojeaalaaDoor
end

/-
  Contracts of the functions on bytes of package octet (Token, Text, Digit, Hex, blank), for every byte.
-/
section
namespace Go.Proofs.YthhlcecojeaalaaDoor
open Go.RowKit

def tokCls : List Cls := [.span 97 122, .span 65 90, .span 48 57, .set ⟨#[33, 35, 36, 37, 38, 39, 42, 43, 45, 46, 94, 95, 96, 124, 126]⟩]
def txtCls : List Cls := [.span 9 9, .span 32 126, .span 128 255]
def blkCls : List Cls := [.set ⟨#[32, 9]⟩]
theorem one_cls (lo hi c : Int) : ([Cls.span lo hi].any fun k => k.has c) = rng lo hi c := by simp [Cls.has, rng]

theorem span_any (x y : Int) (w : World) :
    Calls Tryd.prog 104 #[.int .u8 x, .int .u8 y] w fun e w' => e = .returned (.func (.func 107) #[] #[.pointer (some ⟨w.heap.size, 0, none⟩), .pointer (some ⟨w.heap.size + 1, 0, none⟩)]) ∧
      (w.alloc (.cells #[.int .u8 x] 5)).alloc (.cells #[.int .u8 y] 5) = w' := by
  have hmf : ∀ (fn : Fn) (first cap : Array Value) (w : World), (Instr.makeFunc fn first cap).run Tryd.prog w = .ok (.func fn first cap) w := fun _ _ _ _ => rfl
  go_enter Tryd.func104, Tryd.ntmps104
  go_wp2
  go_ret
  exact ⟨rfl, rfl⟩

theorem in_one (lo hi : Int) (b len cap : Nat) (c : Int) (w : World) (hl : Hid (len = 1)) (hv : ∃ p q : Nat, w.cell? ⟨b, 0, none⟩ = some (.func (.func 107) #[] #[.pointer (some ⟨p, 0, none⟩), .pointer (some ⟨q, 0, none⟩)]) ∧
      w.cell? ⟨p, 0, none⟩ = some (.int .u8 lo) ∧ w.cell? ⟨q, 0, none⟩ = some (.int .u8 hi)) :
    Calls Tryd.prog 103 #[.int .u8 c, .slice (some ⟨b, 0, none⟩) len cap] w fun e w' => e = .returned (.bool (rng lo hi c)) ∧ w = w' := by
  obtain ⟨p, q, h, hp, hq⟩ := hv
  have := in_row [.span lo hi] b len cap c w hl (by have := hl.out; omega) ⟨⟨_, h, p, q, rfl, hp, hq⟩, trivial⟩
  rwa [one_cls] at this

end Go.Proofs.YthhlcecojeaalaaDoor
end

/-
  Contracts of the reference's Hex and Digit (layer 1), for every byte.
-/
section
namespace Go.Proofs.YthhlcecojeaalaaDoor
open Go.RowKit

def sml (k : Nat) : Nat := [48, 49, 50, 51, 52, 53, 54, 55, 56, 57, 97, 98, 99, 100, 101, 102].getD k 0
def grt (k : Nat) : Nat := [48, 49, 50, 51, 52, 53, 54, 55, 56, 57, 65, 66, 67, 68, 69, 70].getD k 0
end Go.Proofs.YthhlcecojeaalaaDoor
end

/-
  Contracts of the reference's functions on bytes (layer 1), for every byte.
-/
section
namespace Go.Proofs.YthhlcecojeaalaaDoor
open Go.RowKit

def mrk (k : Nat) : Nat := [33, 35, 36, 37, 38, 39, 42, 43, 45, 46, 94, 95, 96, 124, 126].getD k 0
end Go.Proofs.YthhlcecojeaalaaDoor
end

/-
  Contracts of the functions on texts of package octet: every, IsToken, IsText, Trim, Cut.
-/
section
namespace Go.Proofs.YthhlcecojeaalaaDoor
open Go.RowKit

end Go.Proofs.YthhlcecojeaalaaDoor
end
