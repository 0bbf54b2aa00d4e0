/-
  Texts that the laws of this seat lean on, one behind the other.
-/
import Derived.Test.YthhlcecojeaalaaDoorMrgZ
import Derived.Deep.QuietTactic
import Derived.BigQuiet
import Derived.Test.YthhlcecojeaalaaDoorMrgV
import Derived.Test.YthhlcecojeaalaaDoorMrgR
import Derived.Test.YthhlcecojeaalaaDoorMrgP
import Derived.Laws.Cover1
import Derived.Lib.MinMax
import Derived.IntWalk
import Derived.Test.YthhlcecojeaalaaDoorMrgF
import Derived.Deep.RegionHeld3
import Derived.Test.YthhlcecojeaalaaDoorMrgAA
set_option linter.unusedSimpArgs false
set_option linter.unusedVariables false
/-
  Contracts of the reference's Drop, Same, Equal, Check (layer 9).
-/
section
namespace Go.Proofs.YthhlcecojeaalaaDoor
open Go.RowKit
set_option linter.unusedSimpArgs false

/-- The very same field. -/
def eqF (x y : Fd) : Bool := (x.1.toList == y.1.toList) && (x.2.toList == y.2.toList)
theorem eqF_refl (x : Fd) : eqF x x = true := by simp [eqF]
theorem bthP_refl {α : Type} (p : α → α → Bool) (hp : ∀ x, p x x = true) : ∀ L : List α, bthP p L L = true
  | [] => rfl
  | x :: L => by unfold bthP; rw [hp, bthP_refl p hp L]; rfl

set_option maxHeartbeats 8000000 in
set_option maxRecDepth 100000 in
theorem rf_equal (A B : Option Addr) (n c m d : Nat) (L M : List Fd) (w : World) (h : SlF w A n c L) (h' : SlF w B m d M) (hn : n ≤ 100000000) :
    Calls Tryd.prog 68 #[.slice A n c, .slice B m d] w fun e w' => e = .returned (.bool (bthP eqF L M)) ∧ Below w.heap.size w w' := by
  have hlen := h.len
  have hlem := h'.len
  subst hlen hlem
  by_cases hl : L.length = M.length
  · have hlb : ((L.length : Int) == (M.length : Int)) = true := by rw [hl]; simp
    have hlc : ((L.length : Int) != (M.length : Int)) = false := by rw [hl]; simp
    have HLM := Lib.hid hl
    clear hl
    go_enter Tryd.func68, Tryd.ntmps68
    go_wp2_with fail
    go_loopw [5] (fun i wr => ∃ k : Nat, k ≤ L.length ∧ i = .int .i64 k ∧ Hid (bthP eqF L M = bthP eqF (L.drop k) (M.drop k)) ∧ Below w.heap.size w wr) (fun i _ => L.length - (intOf i).toNat)
    case atStart => exact ⟨0, Nat.zero_le _, rfl, rfl, Below.refl _ _⟩
    case round =>
      obtain ⟨k, hk, rfl, hf, hbel⟩ := hrel
      by_cases hlt : k < L.length
      · have hlt2 : k < M.length := by have := HLM.out; omega
        obtain ⟨ad, rfl, hc⟩ := h.at_ (by omega)
        obtain ⟨bd, rfl, hd⟩ := h'.at_ (by omega)
        obtain ⟨hc0, hc1⟩ := hc k L[k] (List.getElem?_eq_getElem hlt)
        obtain ⟨hd0, hd1⟩ := hd k M[k] (List.getElem?_eq_getElem hlt2)
        have HS := Lib.hid (bthP_drop eqF L M k hlt hlt2)
        generalize L[k] = x at *
        generalize M[k] = y at *
        obtain ⟨xa, xb⟩ := x
        obtain ⟨ya, yb⟩ := y
        have HC0 := Lib.hid (cell_kept hbel.drew hc0)
        have HC1 := Lib.hid (fd_snd (cell_kept hbel.drew hc1))
        have HD0 := Lib.hid (cell_kept hbel.drew hd0)
        have HD1 := Lib.hid (fd_snd (cell_kept hbel.drew hd1))
        have hA : eqF (xa, xb) (ya, yb) = ((xa.toList == ya.toList) && (xb.toList == yb.toList)) := rfl
        rw [hA] at HS
        have hi0 : (0 : Int) ≤ (k : Int) := by omega
        have hi1 : (k : Int) < (L.length : Int) := by omega
        have hi2 : (k : Int) < (M.length : Int) := by omega
        have hbel := hbel.drew
        clear hc hd hc0 hc1 hd0 hd1 hA
        have both : ∀ t : Bool, t = true ∨ t = false := fun t => by cases t <;> simp
        rcases both (xa.toList == ya.toList) with hT | hT
        · rcases both (xb.toList == yb.toList) with hS | hS
          · have HR : Hid (bthP eqF L M = bthP eqF (L.drop (k + 1)) (M.drop (k + 1))) := by
              show _ = _
              rw [hf.out, HS.out, hS, hT]; rfl
            clear HS hf
            go_wp2_with fail
            go_region_held3 (fun W => W.cell? (ad.add (k * 2)) = some (.string xa) ∧ W.cell? { block := (ad.add (k * 2)).block, off := (ad.add (k * 2)).off + 1 } = some (.string xb) ∧ W.cell? (bd.add (k * 2)) = some (.string ya) ∧ W.cell? { block := (bd.add (k * 2)).block, off := (bd.add (k * 2)).off + 1 } = some (.string yb)) (exact ⟨HC0.out, HC1.out, HD0.out, HD1.out⟩) (fail)
            go_wp2_with fail
            go_roundw
            case rel => exact ⟨k + 1, by omega, by go_num, HR, hbel⟩
            case measure => simp [intOf]; omega
          · have HR : Hid (bthP eqF L M = false) := by
              show _ = _
              rw [hf.out, HS.out, hS, Bool.and_false]; rfl
            clear HS hf
            go_wp2_with fail
            go_region_held3 (fun W => W.cell? (ad.add (k * 2)) = some (.string xa) ∧ W.cell? { block := (ad.add (k * 2)).block, off := (ad.add (k * 2)).off + 1 } = some (.string xb) ∧ W.cell? (bd.add (k * 2)) = some (.string ya) ∧ W.cell? { block := (bd.add (k * 2)).block, off := (bd.add (k * 2)).off + 1 } = some (.string yb)) (exact ⟨HC0.out, HC1.out, HD0.out, HD1.out⟩) (fail)
            go_wp2_with fail
            go_ret
            exact ⟨by rw [HR.out]; rfl, hbel⟩
        · have HR : Hid (bthP eqF L M = false) := by
            show _ = _
            rw [hf.out, HS.out, hT]; rfl
          clear HS hf
          go_wp2_with fail
          go_region_held3 (fun W => W.cell? (ad.add (k * 2)) = some (.string xa) ∧ W.cell? { block := (ad.add (k * 2)).block, off := (ad.add (k * 2)).off + 1 } = some (.string xb) ∧ W.cell? (bd.add (k * 2)) = some (.string ya) ∧ W.cell? { block := (bd.add (k * 2)).block, off := (bd.add (k * 2)).off + 1 } = some (.string yb)) (exact ⟨HC0.out, HC1.out, HD0.out, HD1.out⟩) (fail)
          go_wp2_with fail
          go_ret
          exact ⟨by rw [HR.out]; rfl, hbel⟩
      · have HR : Hid (bthP eqF L M = true) := by
          show _ = _
          rw [hf.out, List.drop_eq_nil_of_le (by omega), List.drop_eq_nil_of_le (by have := HLM.out; omega)]; rfl
        clear hf
        go_wp2_with fail
        go_ret
        exact ⟨by rw [HR.out]; rfl, hbel⟩
  · have hlb : ((L.length : Int) == (M.length : Int)) = false := by rw [beq_eq_false_iff_ne]; omega
    have HR := Lib.hid (bthP_len eqF L M hl)
    clear hl
    go_enter Tryd.func68, Tryd.ntmps68
    go_wp2_with fail
    go_ret
    exact ⟨by rw [HR.out]; rfl, Below.refl _ _⟩


end Go.Proofs.YthhlcecojeaalaaDoor
end

/-
  Contracts of the reference's SameRequest, SameReply, of the very same message (layer 12).
-/
section
namespace Go.Proofs.YthhlcecojeaalaaDoor
open Go.RowKit

set_option maxHeartbeats 4000000 in
set_option maxRecDepth 100000 in
theorem r_sameP (r : Rply) (A B : Option Addr) (c d : Nat) (w : World) (h : SlF w A r.f.length c r.f) (h' : SlF w B r.f.length d r.f) (hm : r.f.length ≤ 100000000) :
    Calls Tryd.prog 45 #[.agg (rpC r A c), .agg (rpC r B d)] w fun e w' => e = .returned (.bool true) ∧ Below w.heap.size w w' := by
  have C1 := Lib.hid (fun W (hW : Below w.heap.size w W) => rf_equal A B _ c _ d r.f r.f W (h.below hW) (h'.below hW) hm)
  have hE : bthP eqF r.f r.f = true := bthP_refl eqF eqF_refl r.f
  rw [hE] at C1
  unfold rpC
  obtain ⟨m, t, v, f, b⟩ := r
  simp only at *
  have HB1 : Hid (Below w.heap.size w ((w.alloc (.cells #[.int .i64 m, .string t, .int .i64 v, .slice A f.length c, .string b] 25)).alloc (.cells #[.int .i64 m, .string t, .int .i64 v, .slice B f.length d, .string b] 25))) := ((Below.refl _ _).alloc (Nat.le_refl _) _).alloc (by simp) _
  have e1 : (m == m) = true := by simp
  have e2 : (t.toList == t.toList) = true := by simp
  have e3 : (b.toList == b.toList) = true := by simp
  clear h h' hm hE
  go_enter Tryd.func45, Tryd.ntmps45
  go_wp2_with fail
  refine (C1.out _ HB1.out).mono ?_
  rintro e w1 ⟨rfl, hb⟩
  go_wp2_with fail
  go_ret
  exact ⟨rfl, below_then HB1.out hb⟩

end Go.Proofs.YthhlcecojeaalaaDoor
end

/-
  Contracts of the reference's clock, apart, When, Date, Usual, Told (layer 17).
-/
section
namespace Go.Proofs.YthhlcecojeaalaaDoor
open Go.RowKit

end Go.Proofs.YthhlcecojeaalaaDoor
end

/-
  Contract of the reference's elements (layer 13).
-/
section
namespace Go.Proofs.YthhlcecojeaalaaDoor
open Go.RowKit

end Go.Proofs.YthhlcecojeaalaaDoor
end

/-
  Contracts of the reference's Parse, Asked (layer 13).
-/
section
namespace Go.Proofs.YthhlcecojeaalaaDoor
open Go.RowKit

end Go.Proofs.YthhlcecojeaalaaDoor
end

/-
  Contracts of the reference's Date, Told, Lifetime, Age, Fresh, Left (layer 17).
-/
section
namespace Go.Proofs.YthhlcecojeaalaaDoor
open Go.RowKit

theorem cel7 {W : World} {g t : Nat} {c0 c1 c2 c3 c4 c5 c6 : Value} (h : W.heap[g]? = some (.cells #[c0, c1, c2, c3, c4, c5, c6] t (0, 0))) :
    W.cell? ⟨g, 0, none⟩ = some c0 ∧ W.cell? ⟨g, 1, none⟩ = some c1 ∧ W.cell? ⟨g, 2, none⟩ = some c2 ∧ W.cell? ⟨g, 3, none⟩ = some c3 ∧ W.cell? ⟨g, 4, none⟩ = some c4 ∧ W.cell? ⟨g, 5, none⟩ = some c5 ∧ W.cell? ⟨g, 6, none⟩ = some c6 := by
  refine ⟨?_, ?_, ?_, ?_, ?_, ?_, ?_⟩ <;> (rw [cell_of_row W g _ _ _ _ h]; rfl)
/-- What the functions of layer 17 answer, at any world above. -/
structure LifC (w : World) (s : Stor) (A : Option Addr) (c : Nat) (B : Option Addr) (n d : Nat) : Prop where
  f : SlF w A s.f.length c s.f
  l : FwL s.f

end Go.Proofs.YthhlcecojeaalaaDoor
end

/-
  Plain facts of layer 15: a request matches its own picks, with names in small letters and one more field too.
-/
section
namespace Go.Proofs.YthhlcecojeaalaaDoor
open Go.RowKit

theorem nm_pks (N : List (List UInt8)) (L : List Fd) : nmP (pksL N L) = N := by
  unfold nmP pksL
  rw [List.map_map]
  conv => rhs; rw [← List.map_id N]
  refine List.map_congr_left fun x _ => ?_
  show (mkS x).data.toList = x
  exact mkS_list x
theorem own_match (N : List (List UInt8)) (L : List Fd) : pkM (pksL N L) L = true := by
  have : pkM (pksL N L) L = pksB (pksL (nmP (pksL N L)) L) (pksL N L) := rfl
  rw [this, nm_pks]
  exact pksB_refl _
/-- A field with its name in small letters. -/
def loF (x : Fd) : Fd := (mkS (lowL x.1.data.toList), x.2)
theorem pks_fw {N : List (List UInt8)} (h : FwN N) (L : List Fd) : FwP (pksL N L) := by
  refine ⟨by unfold pksL; rw [List.length_map]; exact h.1, fun x hx => ?_⟩
  obtain ⟨y, hy, rfl⟩ := List.mem_map.1 hx
  show (mkS y).size ≤ _
  rw [mkS_size]
  exact h.2 y hy
end Go.Proofs.YthhlcecojeaalaaDoor
end
