/-
  Texts that the laws of this seat lean on, one behind the other.
-/
import Derived.Test.YtmkjjidilfhojaaDoorRows
import Derived.WalkKit
import Derived.Lib.Bytealg
import Derived.Lib.Hide
import Derived.Test.YtmkjjidilfhojaaDoorMrgA
/-
  Contracts of the byte classes of package octet: strings.IndexByte, the closures that span and set make, and the function in, which asks a list of such closures. No condition but that a byte is a byte.
-/
section
namespace Go.Proofs.YtmkjjidilfhojaaDoor
open Go.RowKit

/-- What a byte's class holds: a span of bytes, or the bytes of a text. -/
inductive Cls where
  | span (lo hi : Int) : Cls
  | set (m : ByteArray) : Cls

def Cls.has : Cls → Int → Bool
  | .span lo hi, c => decide (lo ≤ c) && decide (c ≤ hi)
  | .set m, c => decide (0 ≤ Lib.indexByte m.data.toList c.toNat.toUInt8)

/-- The value v is a closure of the class at world w. -/
def ClsAt (w : World) (v : Value) : Cls → Prop
  | .span lo hi => ∃ a b : Nat, v = .func (.func 45) #[] #[.pointer (some ⟨a, 0, none⟩), .pointer (some ⟨b, 0, none⟩)] ∧ w.cell? ⟨a, 0, none⟩ = some (.int .u8 lo) ∧ w.cell? ⟨b, 0, none⟩ = some (.int .u8 hi)
  | .set m => ∃ a : Nat, v = .func (.func 50) #[] #[.pointer (some ⟨a, 0, none⟩)] ∧ w.cell? ⟨a, 0, none⟩ = some (.string m)

set_option maxHeartbeats 4000000 in
set_option maxRecDepth 100000 in
theorem idx_ext (s : ByteArray) (c : Int) (w : World) :
    Calls Tryd.prog 51 #[.string s, .int .u8 c] w fun e w' => e = .returned (.int .i64 (Lib.indexByte s.data.toList c.toNat.toUInt8)) ∧ w = w' := by
  go_enter Tryd.func51, Tryd.ntmps51
  go_wp2
  rw [run_callFunc_extern Tryd.func53 (by kernel_rfl) (by kernel_rfl) (by kernel_rfl) (e := Extern.BytealgIndexByte.indexByte) (by kernel_rfl), Lib.run_indexByteString]
  simp only [Result.andThen]
  rw [Oper.upon_value]
  go_wp2
  go_ret
  exact ⟨rfl, rfl⟩

set_option maxHeartbeats 4000000 in
set_option maxRecDepth 100000 in
theorem span_in (a b : Nat) (lo hi c : Int) (w : World) (ha : w.cell? ⟨a, 0, none⟩ = some (.int .u8 lo)) (hb : w.cell? ⟨b, 0, none⟩ = some (.int .u8 hi)) :
    Calls Tryd.prog 45 #[.int .u8 c, .pointer (some ⟨a, 0, none⟩), .pointer (some ⟨b, 0, none⟩)] w fun e w' => e = .returned (.bool ((Cls.span lo hi).has c)) ∧ w = w' := by
  unfold Cls.has
  by_cases h : lo ≤ c
  · go_enter Tryd.func45, Tryd.ntmps45
    go_wp2
    go_ret
    exact ⟨by simp [h], rfl⟩
  · go_enter Tryd.func45, Tryd.ntmps45
    go_wp2
    go_ret
    exact ⟨by simp; omega, rfl⟩

set_option maxHeartbeats 4000000 in
set_option maxRecDepth 100000 in
theorem set_in (a : Nat) (m : ByteArray) (c : Int) (w : World) (ha : w.cell? ⟨a, 0, none⟩ = some (.string m)) :
    Calls Tryd.prog 50 #[.int .u8 c, .pointer (some ⟨a, 0, none⟩)] w fun e w' => e = .returned (.bool ((Cls.set m).has c)) ∧ w = w' := by
  unfold Cls.has
  go_enter Tryd.func50, Tryd.ntmps50
  go_wp2_with (go_at_call 51; refine (idx_ext _ _ _).mono ?_; rintro e w' ⟨rfl, rfl⟩)
  go_ret
  exact ⟨rfl, rfl⟩

set_option maxHeartbeats 4000000 in
set_option maxRecDepth 100000 in
/-- The function in: does one of the classes hold the byte? The world is as it was. -/
theorem in_any (cls : List Cls) (b off len cap : Nat) (c : Int) (w : World) (hl : Hid (len = cls.length)) (hm : len ≤ 1000)
    (h : ∀ i, (hi : i < cls.length) → ∃ v, w.cell? ⟨b, off + i, none⟩ = some v ∧ ClsAt w v cls[i]) :
    Calls Tryd.prog 36 #[.int .u8 c, .slice (some ⟨b, off, none⟩) len cap] w fun e w' => e = .returned (.bool (cls.any fun k => k.has c)) ∧ w = w' := by
  go_enter Tryd.func36, Tryd.ntmps36
  go_wp2
  go_loop [4, 9] (fun r i => ∃ k : Nat, k ≤ len ∧ i = .int .i64 k ∧ r = .bool false ∧ Hid ((cls.take k).any (fun x => x.has c) = false)) (fun _ i => len - (intOf i).toNat)
  case atStart => exact ⟨0, Nat.zero_le _, rfl, rfl, rfl⟩
  case round =>
    obtain ⟨k, hk, rfl, rfl, hf⟩ := hrel
    by_cases hlt : k < len
    · have hkc : k < cls.length := by rw [← hl.out]; exact hlt
      obtain ⟨v, hc, hv⟩ := h k hkc
      have HA : Hid ((cls.take (k + 1)).any (fun x => x.has c) = cls[k].has c) := by
        show _ = _
        rw [List.take_succ_eq_append_getElem hkc, List.any_append, hf.out]; simp
      have HT : Hid (cls[k].has c = true → cls.any (fun x => x.has c) = true) := fun hh => List.any_eq_true.2 ⟨cls[k], List.getElem_mem hkc, hh⟩
      generalize cls[k] = cl at *
      clear h
      cases cl with
      | span lo hi =>
        obtain ⟨p, q, rfl, hp, hq⟩ := hv
        by_cases hin : (Cls.span lo hi).has c = true
        · have HH := Lib.hid (HT.out hin)
          have HI := Lib.hid hin
          clear HT hin
          have hs := Lib.hid (span_in p q lo hi c w hp hq)
          clear hp hq
          go_wp2_with (go_at_call 45; refine (hs.out).mono ?_; rintro e w' ⟨he, rfl⟩; rw [HI.out] at he; subst he)
          go_ret
          exact ⟨by rw [HH.out]; rfl, rfl⟩
        · have hin' : (Cls.span lo hi).has c = false := by simpa using hin
          have HI := Lib.hid hin'
          clear HT hin hin'
          have hs := Lib.hid (span_in p q lo hi c w hp hq)
          clear hp hq
          go_wp2_with (go_at_call 45; refine (hs.out).mono ?_; rintro e w' ⟨he, rfl⟩; rw [HI.out] at he; subst he)
          go_round
          case rel => exact ⟨k + 1, by omega, by go_num, rfl, by show _ = _; rw [HA.out, HI.out]⟩
          case measure => simp [intOf]; omega
      | set m =>
        obtain ⟨p, rfl, hp⟩ := hv
        by_cases hin : (Cls.set m).has c = true
        · have HH := Lib.hid (HT.out hin)
          have HI := Lib.hid hin
          clear HT hin
          have hs := Lib.hid (set_in p m c w hp)
          clear hp
          go_wp2_with (go_at_call 50; refine (hs.out).mono ?_; rintro e w' ⟨he, rfl⟩; rw [HI.out] at he; subst he)
          go_ret
          exact ⟨by rw [HH.out]; rfl, rfl⟩
        · have hin' : (Cls.set m).has c = false := by simpa using hin
          have HI := Lib.hid hin'
          clear HT hin hin'
          have hs := Lib.hid (set_in p m c w hp)
          clear hp
          go_wp2_with (go_at_call 50; refine (hs.out).mono ?_; rintro e w' ⟨he, rfl⟩; rw [HI.out] at he; subst he)
          go_round
          case rel => exact ⟨k + 1, by omega, by go_num, rfl, by show _ = _; rw [HA.out, HI.out]⟩
          case measure => simp [intOf]; omega
    · have hz : k = len := by omega
      have HF : Hid (cls.any (fun x => x.has c) = false) := by
        show _ = _
        have := hf.out
        rw [List.take_of_length_le (by have := hl.out; omega)] at this
        exact this
      clear hf h hz
      go_wp2
      go_ret
      exact ⟨by rw [HF.out]; rfl, rfl⟩

/-- The classes' closures lie one behind the other. -/
def ClsRow (w : World) (b : Nat) : Nat → List Cls → Prop
  | _, [] => True
  | o, k :: ks => (∃ v, w.cell? ⟨b, o, none⟩ = some v ∧ ClsAt w v k) ∧ ClsRow w b (o + 1) ks

theorem ClsRow.at {w : World} {b : Nat} : ∀ {ks : List Cls} {o : Nat}, ClsRow w b o ks → ∀ i, (hi : i < ks.length) → ∃ v, w.cell? ⟨b, o + i, none⟩ = some v ∧ ClsAt w v ks[i]
  | [], _, _, i, hi => absurd hi (by simp)
  | k :: ks, o, h, 0, _ => h.1
  | k :: ks, o, h, i + 1, hi => by
    have := ClsRow.at h.2 i (by simpa using hi)
    rw [show o + (i + 1) = o + 1 + i by omega]
    simpa using this

theorem in_row (cls : List Cls) (b len cap : Nat) (c : Int) (w : World) (hl : Hid (len = cls.length)) (hm : len ≤ 1000) (h : ClsRow w b 0 cls) :
    Calls Tryd.prog 36 #[.int .u8 c, .slice (some ⟨b, 0, none⟩) len cap] w fun e w' => e = .returned (.bool (cls.any fun k => k.has c)) ∧ w = w' :=
  in_any cls b 0 len cap c w hl hm h.at

end Go.Proofs.YtmkjjidilfhojaaDoor
end
