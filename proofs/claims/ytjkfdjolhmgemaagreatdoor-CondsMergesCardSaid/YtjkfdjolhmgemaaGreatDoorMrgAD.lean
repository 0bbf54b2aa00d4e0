/-
  Texts that the laws of this seat lean on, one behind the other.
-/
import Derived.Test.YtjkfdjolhmgemaaGreatDoorMrgAC
import Derived.Test.YtjkfdjolhmgemaaGreatDoorMrgAB
import Derived.Shelf.Abstract
import Derived.Laws.EntriesVeiled
import Derived.Test.YtjkfdjolhmgemaaGreatDoorMrgO
import Derived.Deep.QuietTactic
import Derived.BigQuiet
import Derived.Test.YtjkfdjolhmgemaaGreatDoorMrgR
import Derived.Test.YtjkfdjolhmgemaaGreatDoorMrgAA
import Derived.Test.YtjkfdjolhmgemaaGreatDoorMrgP
set_option linter.unusedSimpArgs false
set_option linter.unusedVariables false
/-
  Contracts of package control's reader: a table of directives with their effects, and what an element does to what was read.
-/
section
namespace Go.Proofs.YtjkfdjolhmgemaaGreatDoor
open Go.RowKit

/-- The cells of a reader. -/
def rdC (D : Nat) (c : Ctl) : Array Value := #[.slice (some ⟨D, 0, none⟩) 10 10, .bool c.ns, .bool c.nc, .bool c.pv, .bool c.pu, .bool c.mc, .bool c.oi, .int .i64 c.ma, .int .i64 c.sh, .int .i64 c.mf]
section
variable {w w' : World} {R D : Nat} {c : Ctl}
theorem SlV.but {g : Nat} {L : List Value} (h : SlV w g L) (hne : g ≠ R) (hb : ButB R w w') : SlV w' g L := fun j x hx => by
  have h1 := h j x hx
  exact (World.cell?_of_block (w := w) (hb.block _ (World.block_lt_of_cell? w _ h1) hne)).trans h1
theorem Head.but {A : Option Addr} (h : Head w A) (hb : ButB R w w') : Head w' A := by
  rcases h with h | ⟨g, hg, h⟩
  · exact .inl h
  · exact .inr ⟨g, Nat.lt_of_lt_of_le hg hb.size, h⟩
end

end Go.Proofs.YtjkfdjolhmgemaaGreatDoor
end

/-
  Contracts of package control's directives and visit.
-/
section
namespace Go.Proofs.YtjkfdjolhmgemaaGreatDoor
open Go.RowKit

end Go.Proofs.YtjkfdjolhmgemaaGreatDoor
end

/-
  Contracts of package control's Parse and Asked.
-/
section
namespace Go.Proofs.YtjkfdjolhmgemaaGreatDoor
open Go.RowKit

end Go.Proofs.YtjkfdjolhmgemaaGreatDoor
end

/-
  Contracts of the reference's Drop, Same, Equal, Check (layer 9).
-/
section
namespace Go.Proofs.YtjkfdjolhmgemaaGreatDoor
open Go.RowKit
set_option linter.unusedSimpArgs false

set_option maxHeartbeats 8000000 in
set_option maxRecDepth 100000 in
theorem rf_drop (A B : Option Addr) (n c m d : Nat) (L : List Fd) (names : List (List UInt8)) (w : World) (h : SlF w A n c L) (hn : n ≤ 100000000) (h' : SlS w B m d names) (hz : ∀ x ∈ names, x.length ≤ maxLen) (hm : m ≤ 1000000000) :
    Calls Tryz.prog 43 #[.slice A n c, .slice B m d] w fun e w' => ∃ v, e = .returned v ∧ OwnF w' w.heap.size 43 v (fdDrop L names) ∧ Below w.heap.size w w' := by
  have hlen := h.len
  have hlem := h'.len
  subst hlen hlem
  have hD : fdDrop L names = L.filter fun x => !nmd names x := rfl
  rw [hD]
  go_enter Tryz.func43, Tryz.ntmps43
  go_wp2_with fail
  go_loopw [5, 6] (fun v i wr => ∃ k : Nat, k ≤ L.length ∧ i = .int .i64 k ∧ Hid (OwnF wr w.heap.size 43 v ((L.take k).filter fun x => !nmd names x)) ∧ Below w.heap.size w wr) (fun _ i _ => L.length - (intOf i).toNat)
  case atStart => exact ⟨0, Nat.zero_le _, rfl, OwnF.nil _ _ _, Below.refl _ _⟩
  case round =>
    obtain ⟨k, hk, rfl, hown, hbel⟩ := hrel
    by_cases hlt : k < L.length
    · obtain ⟨ad, rfl, hc⟩ := h.at_ (by omega)
      obtain ⟨hc0, hc1⟩ := hc k L[k] (List.getElem?_eq_getElem hlt)
      have hz1 := h.sz _ (List.getElem_mem hlt)
      have hxl : ((L.take k).filter fun x => !nmd names x).length ≤ k := Nat.le_trans (List.length_filter_le _ _) (by rw [List.length_take]; omega)
      have HF := Lib.hid (filter_snoc (fun x => !nmd names x) (L.take k) L[k])
      rw [← take_fd L k hlt] at HF
      generalize L[k] = x at *
      obtain ⟨xa, xb⟩ := x
      generalize hX : ((L.take k).filter fun x => !nmd names x) = X at *
      have hi0 : (0 : Int) ≤ (k : Int) := by omega
      have hi1 : (k : Int) < (L.length : Int) := by omega
      have HC0 := Lib.hid (cell_kept hbel hc0)
      have HC1 := Lib.hid (fd_snd (cell_kept hbel hc1))
      have hsw := hbel.size
      clear hc hc0 hc1 hX
      go_wp2_with fail
      go_loopw [7, 8] (fun g i wi => ∃ (m : Nat) (q : Bool), m ≤ names.length ∧ i = .int .i64 m ∧ g = .bool q ∧ Hid (q = (names.take m).any fun y => sameB xa (mkS y)) ∧ Below wr.heap.size wr wi) (fun _ i _ => names.length - (intOf i).toNat)
      case atStart => exact ⟨0, false, Nat.zero_le _, rfl, rfl, rfl, Below.refl _ _⟩
      case round =>
        obtain ⟨j, q, hj, rfl, rfl, hq, hin⟩ := hrel
        by_cases hjl : j < names.length
        · obtain ⟨bd, rfl, hd⟩ := h'.at_ (by omega)
          have HD0 := Lib.hid (cell_kept (hbel.trans (hin.mono hsw)) (hd j names[j] (List.getElem?_eq_getElem hjl)))
          have HE0 := Lib.hid (cell_kept hin HC0.out)
          have hys : (mkS names[j]).size ≤ maxLen := by rw [mkS_size]; exact hz _ (List.getElem_mem hjl)
          have HT : Hid ((names.take (j + 1)).any (fun y => sameB xa (mkS y)) = (q || sameB xa (mkS names[j]))) := by
            show _ = _
            rw [List.take_succ_eq_append_getElem hjl, List.any_append, ← hq.out]; simp
          obtain ⟨y, hy⟩ : ∃ y, y = mkS names[j] := ⟨_, rfl⟩
          rw [← hy] at HD0 HT hys
          have cs := fun W => r_same xa y W hz1.1 hys
          generalize sameB xa y = s at *
          have CS := Lib.hid cs
          have hj0 : (0 : Int) ≤ (j : Int) := by omega
          have hj1 : (j : Int) < (names.length : Int) := by omega
          have HD0 : Hid (wr.drew.cell? (bd.add j) = some (.string y)) := HD0.out
          have HE0 : Hid (wr.drew.cell? (ad.add (k * 2)) = some (.string xa)) := HE0.out
          have hin := hin.drew
          clear hy hd hq cs
          cases q with
          | false =>
            go_wp2_with fail
            go_region_held3 (fun W => W.cell? (ad.add (k * 2)) = some (.string xa) ∧ W.cell? (bd.add j) = some (.string y)) (exact ⟨HE0.out, HD0.out⟩) (first
              | (go_at_call 69; refine (CS.out _).mono ?_; rintro e w1 ⟨rfl, hb1⟩; have HE0 := Lib.hid (cell_kept hb1 HE0.out); have HD0 := Lib.hid (cell_kept hb1 HD0.out); have hin := hin.trans (hb1.mono hin.size); clear hb1))
            go_wp2_with fail
            go_roundw
            case rel => exact ⟨j + 1, s, by omega, by go_num, rfl, HT.out.symm, hin⟩
            case measure => simp [intOf]; omega
          | true =>
            go_wp2_with fail
            refine wp_region_held_drew (S := fun _ => True) (by kernel_rfl) trivial (fun hHeld => ?_)
            refine take_yes (i := 0) (v := ?_) rfl rfl (by kernel_rfl) (by kernel_rfl) (by kernel_rfl) (by rfl) (fun _ _ _ h => h) ?y14 (by assumption) ?r14
            case y14 => (intro w hSw; (try dsimp only at hSw); go_simp; try with_reducible rfl)
            try simp only [Act.put, List.setIfInBounds_toArray, List.set_cons_zero, List.set_cons_succ]
            refine take_yes (i := 1) (v := ?_) rfl rfl (by kernel_rfl) (by kernel_rfl) (by kernel_rfl) (by rfl) (fun _ _ _ h => h) ?y15 (by assumption) ?r15
            case y15 => (intro w hSw; (try dsimp only at hSw); go_simp; try with_reducible rfl)
            try simp only [Act.put, List.setIfInBounds_toArray, List.set_cons_zero, List.set_cons_succ]
            refine take_not (i := 2) rfl rfl (by kernel_rfl) (by kernel_rfl) (by kernel_rfl) (by rfl) (fun _ _ _ h => h) (by assumption) ?_
            try simp only [Act.put, List.setIfInBounds_toArray, List.set_cons_zero, List.set_cons_succ]
            refine take_not (i := 3) rfl rfl (by kernel_rfl) (by kernel_rfl) (by kernel_rfl) (by rfl) (fun _ _ _ h => h) (by assumption) ?_
            try simp only [Act.put, List.setIfInBounds_toArray, List.set_cons_zero, List.set_cons_succ]
            refine take_not (i := 4) rfl rfl (by kernel_rfl) (by kernel_rfl) (by kernel_rfl) (by rfl) (fun _ _ _ h => h) (by assumption) ?_
            try simp only [Act.put, List.setIfInBounds_toArray, List.set_cons_zero, List.set_cons_succ]
            refine take_not (i := 5) rfl rfl (by kernel_rfl) (by kernel_rfl) (by kernel_rfl) (by rfl) (fun _ _ _ h => h) (by assumption) ?_
            try simp only [Act.put, List.setIfInBounds_toArray, List.set_cons_zero, List.set_cons_succ]
            refine take_not (i := 6) rfl rfl (by kernel_rfl) (by kernel_rfl) (by kernel_rfl) (by rfl) (fun _ _ _ h => h) (by assumption) ?_
            try simp only [Act.put, List.setIfInBounds_toArray, List.set_cons_zero, List.set_cons_succ]
            refine take_not (i := 7) rfl rfl (by kernel_rfl) (by kernel_rfl) (by kernel_rfl) (by rfl) (fun _ _ _ h => h) (by assumption) ?_
            try simp only [Act.put, List.setIfInBounds_toArray, List.set_cons_zero, List.set_cons_succ]
            refine take_not (i := 8) rfl rfl (by kernel_rfl) (by kernel_rfl) (by kernel_rfl) (by rfl) (fun _ _ _ h => h) (by assumption) ?_
            try simp only [Act.put, List.setIfInBounds_toArray, List.set_cons_zero, List.set_cons_succ]
            refine take_not (i := 9) rfl rfl (by kernel_rfl) (by kernel_rfl) (by kernel_rfl) (by rfl) (fun _ _ _ h => h) (by assumption) ?_
            try simp only [Act.put, List.setIfInBounds_toArray, List.set_cons_zero, List.set_cons_succ]
            refine take_not (i := 10) rfl rfl (by kernel_rfl) (by kernel_rfl) (by kernel_rfl) (by rfl) (fun _ _ _ h => h) (by assumption) ?_
            try simp only [Act.put, List.setIfInBounds_toArray, List.set_cons_zero, List.set_cons_succ]
            refine take_not (i := 11) rfl rfl (by kernel_rfl) (by kernel_rfl) (by kernel_rfl) (by rfl) (fun _ _ _ h => h) (by assumption) ?_
            try simp only [Act.put, List.setIfInBounds_toArray, List.set_cons_zero, List.set_cons_succ]
            refine take_yes (i := 12) (v := ?_) rfl rfl (by kernel_rfl) (by kernel_rfl) (by kernel_rfl) (by rfl) (fun _ _ _ h => h) ?y16 (by assumption) ?r16
            case y16 => (intro w hSw; (try dsimp only at hSw); go_simp; try with_reducible rfl)
            try simp only [Act.put, List.setIfInBounds_toArray, List.set_cons_zero, List.set_cons_succ]
            refine wpAnyH_ready (rs := [13]) (by kernel_rfl) (by simp) (AllReadyH.cons rfl (fun K hK => ?_) AllReadyH.nil)
            go_simp
            refine hK.out _ _ (trivial) (fun hHeld => ?_)
            clear hK
            try simp only [Act.put, List.setIfInBounds_toArray, List.set_cons_zero, List.set_cons_succ]
            refine wpAnyH_done (by kernel_rfl) ?_ _
            go_wp2_with fail
            go_roundw
            case rel => exact ⟨j + 1, true, by omega, by go_num, rfl, by show _ = _; rw [HT.out]; rfl, hin⟩
            case measure => simp [intOf]; omega
        · have HQ : Hid (q = nmd names (xa, xb)) := by
            have := hq.out
            rwa [List.take_of_length_le (by omega)] at this
          have hbw := hbel.trans (hin.mono hsw)
          have HC0 := Lib.hid (cell_kept hin HC0.out)
          have HC1 := Lib.hid (cell_kept hin HC1.out)
          have HO := Lib.hid (hown.out.below hin)
          have hs2 := hbw.size
          clear hq
          cases q with
          | false =>
            have HS : Hid ((L.take (k + 1)).filter (fun x => !nmd names x) = X ++ [(xa, xb)]) := by
              show _ = _
              rw [HF.out, if_pos (by rw [← HQ.out]; rfl)]
            have hcell0 := HC0.out
            have hcell1 := HC1.out
            clear HF HQ
            go_wp2_with (at_builtin; refine wpList_append_slf rfl _ _ _ rfl w.heap.size 43 Tryz.underlying22 (by kernel_rfl) _ rfl X (HO.out.alloc _) _ _ _ rfl [(xa, xb)] (SlF.one _ _ (xa, xb) hz1) (by simp; omega) (by simp; omega) w (hbw.alloc hs2 _) ?_; intro v1 w2 ho2 hb2 hz2)
            go_roundw
            case rel => exact ⟨k + 1, by omega, by go_num, by show OwnF _ _ _ _ _; rw [HS.out]; exact ho2.out, hb2⟩
            case measure => simp [intOf]; omega
          | true =>
            have HS : Hid ((L.take (k + 1)).filter (fun x => !nmd names x) = X) := by
              show _ = _
              rw [HF.out, if_neg (by rw [← HQ.out]; simp)]
            clear HF HQ
            go_wp2_with fail
            go_roundw
            case rel => exact ⟨k + 1, by omega, by go_num, by show OwnF _ _ _ _ _; rw [HS.out]; exact HO.out, hbw⟩
            case measure => simp [intOf]; omega
    · have HE : Hid ((L.take k).filter (fun x => !nmd names x) = L.filter fun x => !nmd names x) := by
        show _ = _
        rw [List.take_of_length_le (by omega)]
      rw [HE.out] at hown
      go_wp2_with fail
      go_ret
      exact ⟨_, rfl, hown.out, hbel⟩

/-- The very same field. -/
def eqF (x y : Fd) : Bool := (x.1.toList == y.1.toList) && (x.2.toList == y.2.toList)
theorem eqF_refl (x : Fd) : eqF x x = true := by simp [eqF]
theorem bthP_refl {α : Type} (p : α → α → Bool) (hp : ∀ x, p x x = true) : ∀ L : List α, bthP p L L = true
  | [] => rfl
  | x :: L => by unfold bthP; rw [hp, bthP_refl p hp L]; rfl

set_option maxHeartbeats 8000000 in
set_option maxRecDepth 100000 in
theorem rf_equal (A B : Option Addr) (n c m d : Nat) (L M : List Fd) (w : World) (h : SlF w A n c L) (h' : SlF w B m d M) (hn : n ≤ 100000000) :
    Calls Tryz.prog 28 #[.slice A n c, .slice B m d] w fun e w' => e = .returned (.bool (bthP eqF L M)) ∧ Below w.heap.size w w' := by
  have hlen := h.len
  have hlem := h'.len
  subst hlen hlem
  by_cases hl : L.length = M.length
  · have hlb : ((L.length : Int) == (M.length : Int)) = true := by rw [hl]; simp
    have hlc : ((L.length : Int) != (M.length : Int)) = false := by rw [hl]; simp
    have HLM := Lib.hid hl
    clear hl
    go_enter Tryz.func28, Tryz.ntmps28
    go_wp2_with fail
    go_loopw [5] (fun i wr => ∃ k : Nat, k ≤ L.length ∧ i = .int .i64 k ∧ Hid (bthP eqF L M = bthP eqF (L.drop k) (M.drop k)) ∧ Below w.heap.size w wr) (fun i _ => L.length - (intOf i).toNat)
    case atStart => exact ⟨0, Nat.zero_le _, rfl, rfl, Below.refl _ _⟩
    case round =>
      obtain ⟨k, hk, rfl, hf, hbel⟩ := hrel
      by_cases hlt : k < L.length
      · have hlt2 : k < M.length := by have := HLM.out; omega
        obtain ⟨ad, rfl, hc⟩ := h.at_ (by omega)
        obtain ⟨bd, rfl, hd⟩ := h'.at_ (by omega)
        obtain ⟨hc0, hc1⟩ := hc k L[k] (List.getElem?_eq_getElem hlt)
        obtain ⟨hd0, hd1⟩ := hd k M[k] (List.getElem?_eq_getElem hlt2)
        have HS := Lib.hid (bthP_drop eqF L M k hlt hlt2)
        generalize L[k] = x at *
        generalize M[k] = y at *
        obtain ⟨xa, xb⟩ := x
        obtain ⟨ya, yb⟩ := y
        have HC0 := Lib.hid (cell_kept hbel.drew hc0)
        have HC1 := Lib.hid (fd_snd (cell_kept hbel.drew hc1))
        have HD0 := Lib.hid (cell_kept hbel.drew hd0)
        have HD1 := Lib.hid (fd_snd (cell_kept hbel.drew hd1))
        have hA : eqF (xa, xb) (ya, yb) = ((xa.toList == ya.toList) && (xb.toList == yb.toList)) := rfl
        rw [hA] at HS
        have hi0 : (0 : Int) ≤ (k : Int) := by omega
        have hi1 : (k : Int) < (L.length : Int) := by omega
        have hi2 : (k : Int) < (M.length : Int) := by omega
        have hbel := hbel.drew
        clear hc hd hc0 hc1 hd0 hd1 hA
        have both : ∀ t : Bool, t = true ∨ t = false := fun t => by cases t <;> simp
        rcases both (xa.toList == ya.toList) with hT | hT
        · rcases both (xb.toList == yb.toList) with hS | hS
          · have HR : Hid (bthP eqF L M = bthP eqF (L.drop (k + 1)) (M.drop (k + 1))) := by
              show _ = _
              rw [hf.out, HS.out, hS, hT]; rfl
            clear HS hf
            go_wp2_with fail
            go_region_held3 (fun W => W.cell? (ad.add (k * 2)) = some (.string xa) ∧ W.cell? { block := (ad.add (k * 2)).block, off := (ad.add (k * 2)).off + 1 } = some (.string xb) ∧ W.cell? (bd.add (k * 2)) = some (.string ya) ∧ W.cell? { block := (bd.add (k * 2)).block, off := (bd.add (k * 2)).off + 1 } = some (.string yb)) (exact ⟨HC0.out, HC1.out, HD0.out, HD1.out⟩) (fail)
            go_wp2_with fail
            go_roundw
            case rel => exact ⟨k + 1, by omega, by go_num, HR, hbel⟩
            case measure => simp [intOf]; omega
          · have HR : Hid (bthP eqF L M = false) := by
              show _ = _
              rw [hf.out, HS.out, hS, Bool.and_false]; rfl
            clear HS hf
            go_wp2_with fail
            go_region_held3 (fun W => W.cell? (ad.add (k * 2)) = some (.string xa) ∧ W.cell? { block := (ad.add (k * 2)).block, off := (ad.add (k * 2)).off + 1 } = some (.string xb) ∧ W.cell? (bd.add (k * 2)) = some (.string ya) ∧ W.cell? { block := (bd.add (k * 2)).block, off := (bd.add (k * 2)).off + 1 } = some (.string yb)) (exact ⟨HC0.out, HC1.out, HD0.out, HD1.out⟩) (fail)
            go_wp2_with fail
            go_ret
            exact ⟨by rw [HR.out]; rfl, hbel⟩
        · have HR : Hid (bthP eqF L M = false) := by
            show _ = _
            rw [hf.out, HS.out, hT]; rfl
          clear HS hf
          go_wp2_with fail
          go_region_held3 (fun W => W.cell? (ad.add (k * 2)) = some (.string xa) ∧ W.cell? { block := (ad.add (k * 2)).block, off := (ad.add (k * 2)).off + 1 } = some (.string xb) ∧ W.cell? (bd.add (k * 2)) = some (.string ya) ∧ W.cell? { block := (bd.add (k * 2)).block, off := (bd.add (k * 2)).off + 1 } = some (.string yb)) (exact ⟨HC0.out, HC1.out, HD0.out, HD1.out⟩) (fail)
          go_wp2_with fail
          go_ret
          exact ⟨by rw [HR.out]; rfl, hbel⟩
      · have HR : Hid (bthP eqF L M = true) := by
          show _ = _
          rw [hf.out, List.drop_eq_nil_of_le (by omega), List.drop_eq_nil_of_le (by have := HLM.out; omega)]; rfl
        clear hf
        go_wp2_with fail
        go_ret
        exact ⟨by rw [HR.out]; rfl, hbel⟩
  · have hlb : ((L.length : Int) == (M.length : Int)) = false := by rw [beq_eq_false_iff_ne]; omega
    have HR := Lib.hid (bthP_len eqF L M hl)
    clear hl
    go_enter Tryz.func28, Tryz.ntmps28
    go_wp2_with fail
    go_ret
    exact ⟨by rw [HR.out]; rfl, Below.refl _ _⟩


end Go.Proofs.YtjkfdjolhmgemaaGreatDoor
end

/-
  Contracts of the reference's Hop, Nominated, Strip (layer 16).
-/
section
namespace Go.Proofs.YtjkfdjolhmgemaaGreatDoor
open Go.RowKit

set_option maxRecDepth 100000 in
theorem r_hop (name : ByteArray) (hz : name.size ≤ maxLen) (w : World) :
    Calls Tryz.prog 74 #[.string name] w fun e w' => e = .returned (.bool (hopB name)) ∧ Below w.heap.size w w' := by
  have HS := Lib.hid (SlS.texts w 9 hopN (by decide))
  have HB0 : Hid (Below w.heap.size w (w.alloc (.cells (hopN.map Value.string).toArray 9))) := (Below.refl _ _).alloc (Nat.le_refl _) _
  have HL := Lib.hid (show hopN.length = 10 from rfl)
  have HLE := Lib.hid hopN_le
  have HD := Lib.hid (show hopB name = hopN.any fun n => sameB n name from rfl)
  generalize hopB name = R at *
  have HC := Lib.hid (show (hopN.map Value.string).toArray = #[.string ⟨#[67, 111, 110, 110, 101, 99, 116, 105, 111, 110]⟩, .string ⟨#[75, 101, 101, 112, 45, 65, 108, 105, 118, 101]⟩, .string ⟨#[80, 114, 111, 120, 121, 45, 67, 111, 110, 110, 101, 99, 116, 105, 111, 110]⟩, .string ⟨#[80, 114, 111, 120, 121, 45, 65, 117, 116, 104, 101, 110, 116, 105, 99, 97, 116, 101]⟩, .string ⟨#[80, 114, 111, 120, 121, 45, 65, 117, 116, 104, 111, 114, 105, 122, 97, 116, 105, 111, 110]⟩, .string ⟨#[84, 69]⟩, .string ⟨#[84, 114, 97, 105, 108, 101, 114]⟩, .string ⟨#[84, 114, 97, 110, 115, 102, 101, 114, 45, 69, 110, 99, 111, 100, 105, 110, 103]⟩, .string ⟨#[85, 112, 103, 114, 97, 100, 101]⟩, .string ⟨#[67, 111, 110, 116, 101, 110, 116, 45, 76, 101, 110, 103, 116, 104]⟩] from rfl)
  rw [HC.out] at HS HB0
  generalize hopN = N at *
  clear HC
  go_enter Tryz.func74, Tryz.ntmps74
  go_wp2_with fail
  go_loopw [4] (fun i wr => ∃ k : Nat, k ≤ 10 ∧ i = .int .i64 (k : Int) ∧ Hid (∀ j (hj : j < N.length), j < k → sameB N[j] name = false) ∧ Below w.heap.size w wr ∧ Hid (SlS wr (some ⟨w.heap.size, 0, none⟩) N.length N.length (N.map fun x => x.data.toList))) (fun i _ => 10 - (intOf i).toNat)
  case atStart => exact ⟨0, Nat.zero_le _, rfl, fun j hj h0 => absurd h0 (by omega), HB0.out, HS.out⟩
  case round =>
    clear HS HB0
    obtain ⟨k, hk, rfl, hf, hbel, HSr⟩ := hrel
    by_cases hlt : k < 10
    · have hkN : k < N.length := by have := HL.out; omega
      have hcell := HSr.out.cells k N[k].data.toList (by rw [List.getElem?_map, List.getElem?_eq_getElem hkN]; rfl)
      rw [mkS_self, addr_add] at hcell
      have hle := HLE.out _ (List.getElem_mem hkN)
      have HH : Hid (sameB N[k] name = true → R = true) := fun h => by rw [HD.out]; exact List.any_eq_true.2 ⟨N[k], List.getElem_mem hkN, h⟩
      have HN : Hid (sameB N[k] name = false → ∀ j (hj : j < N.length), j < k + 1 → sameB N[j] name = false) := fun h j hj hjk => by
        by_cases e : j = k
        · subst e; exact h
        · exact hf.out j hj (by omega)
      generalize N[k] = nm at *
      have CS := Lib.hid (r_same nm name wr hle hz)
      have hi0 : (0 : Int) ≤ (k : Int) := by omega
      have hi1 : (k : Int) < 10 := by omega
      clear hf
      cases hq : sameB nm name with
      | true =>
        have HR := Lib.hid (HH.out hq)
        rw [hq] at CS
        clear hq HH HN
        go_wp2_with fail
        refine CS.out.mono ?_
        rintro e w1 ⟨rfl, hb1⟩
        go_wp2_with fail
        go_ret
        exact ⟨by rw [HR.out]; rfl, hbel.trans (hb1.mono hbel.size)⟩
      | false =>
        have HR := Lib.hid (HN.out hq)
        rw [hq] at CS
        clear hq HH HN
        go_wp2_with fail
        refine CS.out.mono ?_
        rintro e w1 ⟨rfl, hb1⟩
        go_wp2_with fail
        go_roundw
        case rel => exact ⟨k + 1, by omega, by go_num, HR.out, hbel.trans (hb1.mono hbel.size), HSr.out.below hb1⟩
        case measure => simp [intOf]; omega
    · have HR : Hid (R = false) := by
        show _ = _
        rw [HD.out, List.any_eq_false]
        intro n hn
        obtain ⟨j, hj, rfl⟩ := List.getElem_of_mem hn
        have := HL.out
        simp [hf.out j hj (by omega)]
      have hi1 : ¬ (k : Int) < 10 := by omega
      go_wp2_with fail
      go_ret
      exact ⟨by rw [HR.out]; rfl, hbel⟩

set_option maxHeartbeats 4000000 in
set_option maxRecDepth 100000 in
theorem r_nom (A : Option Addr) (n c : Nat) (L : List Fd) (w : World) (h : SlF w A n c L) (hn : n ≤ 1000) (hB : ∀ x ∈ L, x.2.size ≤ 10000) :
    Calls Tryz.prog 73 #[.slice A n c] w (Vals w (nomL L)) := by
  have hln : L.length ≤ 1000 := by rw [h.len]; exact hn
  have C1 := Lib.hid (rf_all A n c L cnS w h (by omega) cnS_le)
  obtain ⟨hVn, hVz⟩ := all_sz (name := cnS) hB
  have hnl : nomL L = (fdAll L cnS).flatMap splO := rfl
  rw [hnl]
  generalize fdAll L cnS = V at *
  unfold cnS at C1
  have hVn : V.length ≤ 1000 := Nat.le_trans hVn hln
  clear h hn hB hnl hln
  go_enter Tryz.func73, Tryz.ntmps73
  go_wp2_with fail
  refine C1.out.mono ?_
  rintro e w1 ⟨A0, c0, rfl, hS, _, hb1⟩
  have HS := Lib.hid hS
  have HB := Lib.hid hb1
  clear hb1 hS C1
  go_wp2_with fail
  go_loopw [3, 5] (fun v i wr => ∃ k : Nat, k ≤ V.length ∧ i = .int .i64 (k : Int) ∧ Hid (OwnS wr w1.heap.size 9 v ((V.take k).flatMap splO)) ∧ Below w1.heap.size w1 wr) (fun _ i _ => V.length - (intOf i).toNat)
  case atStart => exact ⟨0, Nat.zero_le _, rfl, OwnS.nil _ _ _, Below.refl _ _⟩
  case round =>
    obtain ⟨k, hk, rfl, hown, hbel⟩ := hrel
    by_cases hlt : k < V.length
    · obtain ⟨ad, rfl, hc⟩ := HS.out.at_ (by omega)
      have hcell := cell_kept hbel (hc k V[k] (List.getElem?_eq_getElem hlt))
      have hvz := hVz _ (List.getElem_mem hlt)
      have hsn := fmS_snoc V k hlt
      have hPl := fm_split_len (V.take k) (fun x hx => hVz x (List.mem_of_mem_take hx))
      have hPk : (V.take k).length ≤ 1000 := by rw [List.length_take]; omega
      have hEl := (splO_sz hvz).1
      have CS := Lib.hid (fun W => r_split_f (mkS V[k]) W (by rw [mkS_size]; omega))
      rw [mkS_list] at CS
      generalize splO V[k] = E at *
      generalize splE V[k] = se at *
      generalize mkS V[k] = ms at *
      generalize (V.take k).flatMap splO = P at *
      have hPlen : P.length ≤ 10001000 := Nat.le_trans hPl (by have := Nat.mul_le_mul_right 10001 hPk; omega)
      have hi0 : (0 : Int) ≤ (k : Int) := by omega
      have hi1 : (k : Int) < (V.length : Int) := by omega
      have HSN := Lib.hid hsn
      have hsz := hbel.size
      clear hc hvz hPl hPk hsn
      go_wp2_with fail
      refine (CS.out _).mono ?_
      rintro e w2 ⟨A2, c2, rfl, hS2, _, _, hb2⟩
      have HS2 := Lib.hid hS2
      have HO := Lib.hid (hown.out.below hb2)
      have HB2 := Lib.hid (hbel.trans (hb2.mono hsz))
      have hs2 := HB2.out.size
      clear hb2 hS2 hown
      go_wp2_with (at_builtin; refine wpList_append_sls rfl _ _ _ rfl w1.heap.size 9 Tryz.underlying64 (by kernel_rfl) _ rfl P HO.out _ _ _ rfl E HS2.out (by omega) hs2 w1 HB2.out ?_; intro v1 w3 ho3 hb3 hz3)
      go_roundw
      case rel => exact ⟨k + 1, by omega, by go_num, by show OwnS _ _ _ _ _; rw [HSN.out]; exact ho3.out, hb3⟩
      case measure => simp [intOf]; omega
    · rw [List.take_of_length_le (show V.length ≤ k by omega)] at hown
      obtain ⟨A1, c1, e1, hA1, hH1⟩ := hown.out.sls
      subst e1
      have hb := below_then HB.out hbel
      have hi1 : ¬ (k : Int) < (V.length : Int) := by omega
      have HA1 := Lib.hid hA1
      have HH1 := Lib.hid hH1
      obtain ⟨q, hq⟩ : ∃ q, (V.flatMap splO).length = q := ⟨_, rfl⟩
      have HQ := Lib.hid hq
      unfold Vals
      rw [hq] at HA1 ⊢
      clear hown hA1 hH1 hq
      go_wp2_with fail
      go_ret
      exact ⟨A1, c1, by rw [HQ.out]; rfl, by rw [HQ.out]; exact HA1.out, HH1.out, hb⟩

set_option maxHeartbeats 8000000 in
set_option maxRecDepth 100000 in
theorem r_strip (A : Option Addr) (n c : Nat) (L : List Fd) (w : World) (h : SlF w A n c L) (hn : n ≤ 1000) (hB : ∀ x ∈ L, x.2.size ≤ 10000) :
    Calls Tryz.prog 48 #[.slice A n c] w fun e w' => ∃ v, e = .returned v ∧ OwnF w' w.heap.size 43 v (stpL L) ∧ Below w.heap.size w w' := by
  have C1 := Lib.hid (r_nom A n c L w h hn hB)
  have hln : L.length ≤ 1000 := by rw [h.len]; exact hn
  obtain ⟨hNn, hNz⟩ := nom_sz hln hB
  have hsz := h.sz
  have HF0 := Lib.hid h
  have hsl : stpL L = (fdDrop L (nomL L)).filter fun x => !hopB x.1 := rfl
  rw [hsl]
  generalize nomL L = NL at *
  have hDl : (fdDrop L NL).length ≤ 1000 := Nat.le_trans (List.length_filter_le _ _) hln
  have hDz : ∀ x ∈ fdDrop L NL, x.1.size ≤ maxLen ∧ x.2.size ≤ maxLen := fun x hx => hsz x (List.mem_filter.1 hx).1
  have C2 := Lib.hid (fun B d W (hW : Below w.heap.size w W) (hS : SlS W B NL.length d NL) => rf_drop A B n c NL.length d L NL W (HF0.out.below hW) (by omega) hS (fun x hx => by have := hNz x hx; unfold maxLen; omega) (by omega))
  generalize fdDrop L NL = D at *
  clear h hn hB hln hNn hNz hsz hsl HF0
  go_enter Tryz.func48, Tryz.ntmps48
  go_wp2_with fail
  refine C1.out.mono ?_
  rintro e w1 ⟨A1, c1, rfl, hS, _, hb1⟩
  have HS := Lib.hid hS
  have HB1 := Lib.hid hb1
  clear hb1 hS C1
  go_wp2_with fail
  refine (C2.out A1 c1 _ HB1.out HS.out).mono ?_
  rintro e w2 ⟨v2, rfl, ho, hb2⟩
  obtain ⟨A2, c2, rfl, hF2⟩ := ho.slf hDz
  have HF2 := Lib.hid hF2
  have HB2 := Lib.hid (below_then HB1.out hb2)
  clear ho hb2 hF2 C2 HS
  go_wp2_with fail
  go_loopw [3, 5] (fun v i wr => ∃ k : Nat, k ≤ D.length ∧ i = .int .i64 (k : Int) ∧ Hid (OwnF wr w2.heap.size 43 v ((D.take k).filter fun x => !hopB x.1)) ∧ Below w2.heap.size w2 wr) (fun _ i _ => D.length - (intOf i).toNat)
  case atStart => exact ⟨0, Nat.zero_le _, rfl, OwnF.nil _ _ _, Below.refl _ _⟩
  case round =>
    obtain ⟨k, hk, rfl, hown, hbel⟩ := hrel
    by_cases hlt : k < D.length
    · obtain ⟨ad, rfl, hc⟩ := HF2.out.at_ (by omega)
      obtain ⟨hc0, hc1⟩ := hc k D[k] (List.getElem?_eq_getElem hlt)
      have HC0 := Lib.hid (cell_kept hbel hc0)
      have HC1 := Lib.hid (fd_snd (cell_kept hbel hc1))
      have hz := hDz _ (List.getElem_mem hlt)
      have HFS := Lib.hid (filter_snoc (fun x : Fd => !hopB x.1) (D.take k) D[k])
      rw [← take_fd D k hlt] at HFS
      have hXl : ((D.take k).filter fun x => !hopB x.1).length ≤ k := Nat.le_trans (List.length_filter_le _ _) (by rw [List.length_take]; omega)
      generalize D[k] = x at *
      obtain ⟨xa, xb⟩ := x
      simp only at HC0 HC1 hz HFS
      generalize ((D.take k).filter fun x => !hopB x.1) = X at *
      have CH := Lib.hid (fun W => r_hop xa hz.1 W)
      have hcell0 := HC0.out
      have hi0 : (0 : Int) ≤ (k : Int) := by omega
      have hi1 : (k : Int) < (D.length : Int) := by omega
      have hs1 := hbel.size
      clear hc hc0 hc1
      cases hq : hopB xa with
      | true =>
        rw [hq] at CH HFS
        have HR : Hid ((D.take (k + 1)).filter (fun x => !hopB x.1) = X) := by show _ = _; rw [HFS.out, if_neg (by simp)]
        clear hq HFS
        go_wp2_with fail
        refine (CH.out _).mono ?_
        rintro e w3 ⟨rfl, hb3⟩
        go_wp2_with fail
        go_roundw
        case rel => exact ⟨k + 1, by omega, by go_num, by show OwnF _ _ _ _ _; rw [HR.out]; exact hown.out.below hb3, hbel.trans (hb3.mono hs1)⟩
        case measure => simp [intOf]; omega
      | false =>
        rw [hq] at CH HFS
        have HR : Hid ((D.take (k + 1)).filter (fun x => !hopB x.1) = X ++ [(xa, xb)]) := by show _ = _; rw [HFS.out, if_pos (by simp)]
        clear hq HFS
        go_wp2_with fail
        refine (CH.out _).mono ?_
        rintro e w3 ⟨rfl, hb3⟩
        have hcell0 := cell_kept hb3 HC0.out
        have hcell1 := cell_kept hb3 HC1.out
        have HO := Lib.hid (hown.out.below hb3)
        have HB3 := Lib.hid (hbel.trans (hb3.mono hs1))
        have hs3 := HB3.out.size
        clear hb3 hown
        go_wp2_with (at_builtin; refine wpList_append_slf rfl _ _ _ rfl w2.heap.size 43 Tryz.underlying22 (by kernel_rfl) _ rfl X (HO.out.alloc _) _ _ _ rfl [(xa, xb)] (SlF.one _ _ (xa, xb) hz) (by simp; omega) (by simp; omega) w2 (HB3.out.alloc hs3 _) ?_; intro v1 w4 ho4 hb4 hz4)
        go_roundw
        case rel => exact ⟨k + 1, by omega, by go_num, by show OwnF _ _ _ _ _; rw [HR.out]; exact ho4.out, hb4⟩
        case measure => simp [intOf]; omega
    · rw [List.take_of_length_le (show D.length ≤ k by omega)] at hown
      have hi1 : ¬ (k : Int) < (D.length : Int) := by omega
      have HO := Lib.hid (hown.out.wide (base' := w.heap.size) HB2.out.size)
      have HBZ := Lib.hid (below_then HB2.out hbel)
      clear hown
      go_wp2_with fail
      go_ret
      exact ⟨_, rfl, HO.out, HBZ.out⟩

end Go.Proofs.YtjkfdjolhmgemaaGreatDoor
end

/-
  Contracts of package etag's inner, unquoted, Text, Strong, Weak.
-/
section
namespace Go.Proofs.YtjkfdjolhmgemaaGreatDoor
open Go.RowKit
set_option linter.unusedSimpArgs false

theorem inner_any (c : Int) (w : World) (h0 : 0 ≤ c) (h1 : c ≤ 255) :
    Calls Tryz.prog 106 #[.int .u8 c] w fun e w' => e = .returned (.bool (innB c)) ∧ w = w' := by
  have both : ∀ t : Bool, t = true ∨ t = false := fun t => by cases t <;> simp
  rcases both (c == 33) with e1 | e1
  · have hr : innB c = true := by unfold innB; rw [e1]; rfl
    rw [hr]
    clear hr
    go_enter Tryz.func106, Tryz.ntmps106
    go_wp2_with fail
    go_ret
    exact ⟨rfl, rfl⟩
  · by_cases h2 : (35 : Int) ≤ c
    · by_cases h3 : c ≤ (126 : Int)
      · have hr : innB c = true := by
          have h4 : (c == 127) = false := by rw [beq_eq_false_iff_ne]; omega
          unfold innB
          rw [e1, h4, decide_eq_true h2]; rfl
        rw [hr]
        clear hr
        go_enter Tryz.func106, Tryz.ntmps106
        go_wp2_with fail
        go_ret
        exact ⟨rfl, rfl⟩
      · by_cases h5 : (128 : Int) ≤ c
        · have hr : innB c = true := by
            have h4 : (c == 127) = false := by rw [beq_eq_false_iff_ne]; omega
            unfold innB
            rw [e1, h4, decide_eq_true h2]; rfl
          rw [hr]
          clear hr
          go_enter Tryz.func106, Tryz.ntmps106
          go_wp2_with fail
          go_ret
          exact ⟨rfl, rfl⟩
        · have hr : innB c = false := by
            have h4 : (c == 127) = true := by rw [beq_iff_eq]; omega
            unfold innB
            rw [e1, h4]; simp
          rw [hr]
          clear hr
          go_enter Tryz.func106, Tryz.ntmps106
          go_wp2_with fail
          go_ret
          exact ⟨rfl, rfl⟩
    · have h5 : ¬ (128 : Int) ≤ c := by omega
      have hr : innB c = false := by unfold innB; rw [e1, decide_eq_false h2]; rfl
      rw [hr]
      clear hr
      go_enter Tryz.func106, Tryz.ntmps106
      go_wp2_with fail
      go_ret
      exact ⟨rfl, rfl⟩

set_option maxHeartbeats 4000000 in
set_option maxRecDepth 100000 in
theorem unq_any' (s : ByteArray) (w : World) (hs : s.size ≤ 100000000) :
    Calls Tryz.prog 80 #[.string s] w fun e w' => e = .returned (.tuple #[.string (unO s), .bool (unB s)]) ∧ w = w' := by
  have both : ∀ t : Bool, t = true ∨ t = false := fun t => by cases t <;> simp
  have c1 : ∀ W, Calls Tryz.prog 79 #[.string s, .string ⟨#[34]⟩] W fun e w' => e = .returned (.tuple #[.string (opR s), .bool (opB s)]) ∧ w' = W := fun W => Tryz.strings_CutPrefix s ⟨#[34]⟩ W
  have hr := opR_le s
  have c2 : ∀ W, Calls Tryz.prog 105 #[.string (opR s), .string ⟨#[34]⟩] W fun e w' => e = .returned (.tuple #[.string (clR (opR s)), .bool (clB (opR s))]) ∧ w' = W := fun W => Tryz.strings_CutSuffix (opR s) ⟨#[34]⟩ W (by omega)
  have hm := clR_le (opR s)
  rcases both (opB s) with ho | ho
  · rcases both (clB (opR s)) with hc | hc
    · have HY := Lib.hid (un_both ho hc)
      rw [ho] at c1
      rw [hc] at c2
      have hms : (clR (opR s)).size ≤ 100000000 := by omega
      have C1 := Lib.hid c1
      have C2 := Lib.hid c2
      clear c1 c2 ho hc hm hr
      generalize clR (opR s) = M at *
      generalize opR s = R at *
      go_enter Tryz.func80, Tryz.ntmps80
      go_wp2_with (first
        | (go_at_call 79; refine (C1.out _).mono ?_; rintro e w1 ⟨rfl, rfl⟩)
        | (go_at_call 105; refine (C2.out _).mono ?_; rintro e w1 ⟨rfl, rfl⟩))
      go_loop [27] (fun i => ∃ k : Nat, k ≤ M.size ∧ i = .int .i64 k ∧ Hid (allB innB (M.data.toList.take k) = true)) (fun i => M.size - (intOf i).toNat)
      case atStart => exact ⟨0, Nat.zero_le _, rfl, rfl⟩
      case round =>
        obtain ⟨k, hk, rfl, hf⟩ := hrel
        by_cases hlt : k < M.size
        · have hbd := byte_wf M[k]
          have ci := fun W => inner_any (M[k].toNat : Int) W hbd.1 hbd.2
          rcases both (innB (M[k].toNat : Int)) with hin | hin
          · have HA : Hid (allB innB (M.data.toList.take (k + 1)) = true) := by show _ = _; rw [allB_take innB M k hlt, hf.out, hin]; rfl
            rw [hin] at ci
            have CI := Lib.hid ci
            clear hin hf hbd ci
            go_wp2_with (go_at_call 106; refine (CI.out _).mono ?_; rintro e w1 ⟨rfl, rfl⟩)
            go_round
            case rel => exact ⟨k + 1, by omega, by go_num, HA⟩
            case measure => simp [intOf]; omega
          · have HA : Hid (allB innB M.data.toList = false) := allB_false innB M k hlt hin
            have HN := Lib.hid (un_no (HY.out.1.trans HA.out))
            have HN2 := Lib.hid (HY.out.1.trans HA.out)
            rw [hin] at ci
            have CI := Lib.hid ci
            clear hin hf hbd ci
            go_wp2_with (go_at_call 106; refine (CI.out _).mono ?_; rintro e w1 ⟨rfl, rfl⟩)
            go_ret2
            exact ⟨by rw [HN.out, HN2.out]; rfl, rfl⟩
        · have HA : Hid (allB innB M.data.toList = true) := allB_full innB M k (by omega) hf.out
          have HN2 := Lib.hid (HY.out.1.trans HA.out)
          have HN := Lib.hid ((un_yes HN2.out).trans HY.out.2)
          clear hf
          go_wp2_with fail
          go_ret2
          exact ⟨by rw [HN.out, HN2.out]; rfl, rfl⟩
    · have HN2 := Lib.hid (un_cl hc)
      have HN := Lib.hid (un_no HN2.out)
      rw [ho] at c1
      rw [hc] at c2
      have C1 := Lib.hid c1
      have C2 := Lib.hid c2
      clear c1 c2 ho hc hm hr
      generalize clR (opR s) = M at *
      generalize opR s = R at *
      go_enter Tryz.func80, Tryz.ntmps80
      go_wp2_with (first
        | (go_at_call 79; refine (C1.out _).mono ?_; rintro e w1 ⟨rfl, rfl⟩)
        | (go_at_call 105; refine (C2.out _).mono ?_; rintro e w1 ⟨rfl, rfl⟩))
      go_ret2
      exact ⟨by rw [HN.out, HN2.out]; rfl, rfl⟩
  · have HN2 := Lib.hid (un_op ho)
    have HN := Lib.hid (un_no HN2.out)
    rw [ho] at c1
    have C1 := Lib.hid c1
    have C2 := Lib.hid c2
    clear c1 c2 ho hm hr
    generalize clR (opR s) = M at *
    generalize clB (opR s) = b at *
    generalize opR s = R at *
    go_enter Tryz.func80, Tryz.ntmps80
    go_wp2_with (first
      | (go_at_call 79; refine (C1.out _).mono ?_; rintro e w1 ⟨rfl, rfl⟩)
      | (go_at_call 105; refine (C2.out _).mono ?_; rintro e w1 ⟨rfl, rfl⟩))
    go_ret2
    exact ⟨by rw [HN.out, HN2.out]; rfl, rfl⟩

end Go.Proofs.YtjkfdjolhmgemaaGreatDoor
end
