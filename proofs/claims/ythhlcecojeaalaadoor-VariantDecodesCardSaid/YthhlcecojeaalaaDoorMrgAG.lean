/-
  Texts that the laws of this seat lean on, one behind the other.
-/
import Derived.Test.YthhlcecojeaalaaDoorMrgAF
import Derived.Test.YthhlcecojeaalaaDoorMrgAA
import Derived.Test.YthhlcecojeaalaaDoorMrgAB
import Derived.Deep.RegionHeld3
import Derived.Test.YthhlcecojeaalaaDoorMrgAC
import Derived.Test.YthhlcecojeaalaaDoorMrgU
import Derived.Shelf.Abstract
import Derived.Laws.CopyRow
import Derived.Laws.Tables
set_option linter.unusedSimpArgs false
set_option linter.unusedVariables false
/-
  Contracts of the reference's Find, One, Same (layer 20).
-/
section
namespace Go.Proofs.YthhlcecojeaalaaDoor
open Go.RowKit
set_option linter.unusedSimpArgs false

def offV (k : Nat) : Option Nat → Int
  | some j => ((k + j : Nat) : Int)
  | none => -1
theorem off_start (o : Option Nat) : offV 0 o = match o with | some k => (k : Int) | none => -1 := by cases o <;> simp [offV]
theorem off_step (F : List Fd) (L : List Sd) (k : Nat) (h : k < L.length) : offV k (findN F ((L.drop k).map fun y => y.x)) = if pkM L[k].x.p F then (k : Int) else offV (k + 1) (findN F ((L.drop (k + 1)).map fun y => y.x)) := by
  rw [List.drop_eq_getElem_cons h, List.map_cons]
  show offV k (if pkM L[k].x.p F then some 0 else _) = _
  split
  · simp [offV]
  · cases findN F ((L.drop (k + 1)).map fun y => y.x) with
    | none => rfl
    | some j => simp [offV]; omega
theorem SdAt.below {w w' : World} {y : Sd} (h : SdAt w y) (hb : Below w.heap.size w w') : SdAt w' y := h.keep fun _ _ hu => cell_kept hb hu

set_option maxHeartbeats 8000000 in
set_option maxRecDepth 100000 in
theorem r_vfind (A B : Option Addr) (n c m d : Nat) (L : List Sd) (F : List Fd) (w : World) (h : SlD w A n c L) (h' : SlF w B m d F) (hn : n ≤ 100000000) (hP : ∀ y ∈ L, FwP y.x.p) (hF : FwF F) :
    Calls Tryd.prog 12 #[.slice A n c, .slice B m d] w fun e w' => e = .returned (.int .i64 (verF (L.map fun y => y.x) F)) ∧ Below w.heap.size w w' := by
  have hlen := h.len
  have hlem := h'.len
  subst hlen hlem
  obtain ⟨R, hR⟩ : ∃ R, verF (L.map fun y => y.x) F = R := ⟨_, rfl⟩
  rw [hR]
  have HR : Hid (R = offV 0 (findN F ((L.drop 0).map fun y => y.x))) := by
    show _ = _
    rw [← hR, off_start, List.drop_zero]; rfl
  clear hR
  go_enter Tryd.func12, Tryd.ntmps12
  go_wp2_with fail
  go_loopw [5] (fun i wr => ∃ k : Nat, k ≤ L.length ∧ i = .int .i64 k ∧ Hid (R = offV k (findN F ((L.drop k).map fun y => y.x))) ∧ Hid (Below w.heap.size w wr)) (fun i _ => L.length - (intOf i).toNat)
  case atStart => exact ⟨0, Nat.zero_le _, rfl, HR.out, Below.refl _ _⟩
  case round =>
    clear HR
    obtain ⟨k, hk, rfl, hf, HB⟩ := hrel
    by_cases hlt : k < L.length
    · have hw := h.below HB.out
      obtain ⟨ad, rfl, _⟩ := h.at_ (by omega)
      have e6 := (hw.elem hlt).2.2.2.2.2.2
      have hi0 : (0 : Int) ≤ (k : Int) := by omega
      have hi1 : (k : Int) < (L.length : Int) := by omega
      have hst := off_step F L k hlt
      have hy := hw.all _ (List.getElem_mem hlt)
      have hp := hP _ (List.getElem_mem hlt)
      have CM := Lib.hid (r_pkMatch L[k].pa B L[k].x.p.length L[k].pc F.length d L[k].x.p F wr hy.k (h'.below HB.out) hp hF)
      generalize L[k] = y at *
      clear hw hy hp
      cases hq : pkM y.x.p F with
      | true =>
        have HN : Hid (R = (k : Int)) := by show _ = _; rw [hf.out, hst, if_pos hq]
        rw [hq] at CM
        clear hf hst hq
        go_wp2_with fail
        refine CM.out.mono ?_
        rintro e w2 ⟨rfl, hb⟩
        have HB := Lib.hid (below_then HB.out hb)
        clear hb e6
        go_wp2_with fail
        go_ret
        exact ⟨by rw [HN.out]; rfl, HB.out⟩
      | false =>
        have HN : Hid (R = offV (k + 1) (findN F ((L.drop (k + 1)).map fun y => y.x))) := by show _ = _; rw [hf.out, hst, if_neg (by rw [hq]; decide)]
        rw [hq] at CM
        clear hf hst hq
        go_wp2_with fail
        refine CM.out.mono ?_
        rintro e w2 ⟨rfl, hb⟩
        have HB := Lib.hid (below_then HB.out hb)
        clear hb e6
        go_wp2_with fail
        go_roundw
        case rel => exact ⟨k + 1, by omega, by go_num, HN, HB.out⟩
        case measure => simp [intOf]; omega
    · have HN : Hid (R = -1) := by
        show _ = _
        rw [hf.out, List.drop_eq_nil_of_le (by omega)]; rfl
      have hi1 : ¬ (k : Int) < (L.length : Int) := by omega
      clear hf
      go_wp2_with fail
      go_ret
      exact ⟨by rw [HN.out]; rfl, HB.out⟩

set_option maxHeartbeats 4000000 in
set_option maxRecDepth 100000 in
theorem r_one (x : Sv) (fa fb pa pb : Option Addr) (fc fd pc pd : Nat) (w : World) (h : SdAt w ⟨x, fa, fc, pa, pc⟩) (h' : SdAt w ⟨x, fb, fd, pb, pd⟩) (hf : x.s.f.length ≤ 100000000) (hp : x.p.length ≤ 100000000) :
    Calls Tryd.prog 24 #[.agg (sdA ⟨x, fa, fc, pa, pc⟩), .agg (sdA ⟨x, fb, fd, pb, pd⟩)] w fun e w' => e = .returned (.bool true) ∧ Below w.heap.size w w' := by
  obtain ⟨⟨sc, sr, sv, f, sb, st⟩, p⟩ := x
  have C1 := Lib.hid (fun W (hW : Below w.heap.size w W) => r_sameP ⟨sc, sr, sv, f, sb⟩ fa fb fc fd W (h.below hW).f (h'.below hW).f hf)
  have C2 := Lib.hid (fun W (hW : Below w.heap.size w W) => r_pkSame pa pb p.length pc p.length pd p p W (h.below hW).k (h'.below hW).k hp)
  simp only [pksB_refl] at C2
  unfold sdA stC
  unfold rpC at C1
  simp only at *
  clear h h' hf hp
  obtain ⟨a, ha⟩ : ∃ a, a = (Obj.cells #[.int .i64 sc, .string sr, .int .i64 sv, .slice fa f.length fc, .string sb, .int .i64 st, .slice pa p.length pc] 28) := ⟨_, rfl⟩
  obtain ⟨b, hb⟩ : ∃ b, b = (Obj.cells #[.int .i64 sc, .string sr, .int .i64 sv, .slice fb f.length fd, .string sb, .int .i64 st, .slice pb p.length pd] 28) := ⟨_, rfl⟩
  have HB : Hid (Below w.heap.size w ((w.alloc a).alloc b)) := ((Below.refl _ _).alloc (Nat.le_refl _) _).alloc (by simp) _
  have z0 : ((w.alloc a).alloc b).heap[w.heap.size]? = some a := zero_more (heap_alloc_new w _)
  have z1 := heap_alloc_new (w.alloc a) b
  rw [show (w.alloc a).heap.size = w.heap.size + 1 by simp] at z1
  rw [ha, hb] at z0 z1 HB
  have Z0 := Lib.hid z0
  have Z1 := Lib.hid z1
  obtain ⟨q0, q1, q2, q3, q4, q5, q6⟩ := cel7 Z0.out
  obtain ⟨p0, p1, p2, p3, p4, p5, p6⟩ := cel7 Z1.out
  have hst : (st == st) = true := by simp
  clear z0 z1 ha hb a b
  go_enter Tryd.func24, Tryd.ntmps24
  go_wp2_with fail
  refine (C1.out _ HB.out).mono ?_
  rintro e w2 ⟨rfl, hb⟩
  replace Z0 := Lib.hid (zero_still hb Z0.out)
  replace Z1 := Lib.hid (zero_still hb Z1.out)
  replace HB := Lib.hid (below_then HB.out hb)
  clear hb q0 q1 q2 q3 q4 q5 q6 p0 p1 p2 p3 p4 p5 p6
  obtain ⟨q0, q1, q2, q3, q4, q5, q6⟩ := cel7 Z0.out
  obtain ⟨p0, p1, p2, p3, p4, p5, p6⟩ := cel7 Z1.out
  go_wp2_with fail
  refine (C2.out _ HB.out).mono ?_
  rintro e w3 ⟨rfl, hb⟩
  go_wp2_with fail
  go_ret
  exact ⟨rfl, below_then HB.out hb⟩

/-- Lists of stored replies that are the same. -/
def SmD (L M : List Sd) : Prop := L.map (fun y => y.x) = M.map fun y => y.x
theorem SmD.at {L M : List Sd} (h : SmD L M) (k : Nat) (hl : k < L.length) (hm : k < M.length) : L[k].x = M[k].x := by
  have : (L.map fun y => y.x)[k]? = (M.map fun y => y.x)[k]? := by rw [h]
  simpa [hl, hm] using this
theorem SmD.len {L M : List Sd} (h : SmD L M) : L.length = M.length := by
  have := congrArg List.length h
  simpa using this

set_option maxHeartbeats 8000000 in
set_option maxRecDepth 100000 in
theorem r_vsame (A B : Option Addr) (n c m d : Nat) (L M : List Sd) (w : World) (h : SlD w A n c L) (h' : SlD w B m d M) (hs : SmD L M) (hn : n ≤ 100000000) (hz : ∀ y ∈ L, y.x.s.f.length ≤ 100000000 ∧ y.x.p.length ≤ 100000000) :
    Calls Tryd.prog 13 #[.slice A n c, .slice B m d] w fun e w' => e = .returned (.bool true) ∧ Below w.heap.size w w' := by
  have hlen := h.len
  have hlem := h'.len
  have hll := hs.len
  subst hlen hlem
  have hlb : ((L.length : Int) == (M.length : Int)) = true := by rw [hll]; simp
  have hlc : ((L.length : Int) != (M.length : Int)) = false := by rw [hll]; simp
  have HLL := Lib.hid hll
  clear hll
  go_enter Tryd.func13, Tryd.ntmps13
  go_wp2_with fail
  go_loopw [5] (fun i wr => ∃ k : Nat, k ≤ L.length ∧ i = .int .i64 k ∧ Hid (Below w.heap.size w wr)) (fun i _ => L.length - (intOf i).toNat)
  case atStart => exact ⟨0, Nat.zero_le _, rfl, Below.refl _ _⟩
  case round =>
    obtain ⟨k, hk, rfl, HB⟩ := hrel
    by_cases hlt : k < L.length
    · have hlt2 : k < M.length := by have := HLL.out; omega
      have hw := h.below HB.out
      have hw' := h'.below HB.out
      obtain ⟨ad, rfl, _⟩ := h.at_ (by omega)
      obtain ⟨bd, rfl, _⟩ := h'.at_ (by omega)
      have E1 := Lib.hid (hw.elem hlt)
      have E2 := Lib.hid (hw'.elem hlt2)
      have hi0 : (0 : Int) ≤ (k : Int) := by omega
      have hi1 : (k : Int) < (L.length : Int) := by omega
      have hi2 : (k : Int) < (M.length : Int) := by omega
      have hy := hw.all _ (List.getElem_mem hlt)
      have hy' := hw'.all _ (List.getElem_mem hlt2)
      have hz := hz _ (List.getElem_mem hlt)
      have hx := hs.at k hlt hlt2
      generalize L[k] = y at *
      generalize M[k] = z at *
      obtain ⟨x, fa, fc, pa, pc⟩ := y
      obtain ⟨x2, fb, fd, pb, pd⟩ := z
      obtain rfl : x = x2 := hx
      have CO := Lib.hid (r_one x fa fb pa pb fc fd pc pd wr.drew (hy.keep fun _ _ hu => hu) (hy'.keep fun _ _ hu => hu) hz.1 hz.2)
      obtain ⟨⟨sc, sr, sv, f, sb, st⟩, p⟩ := x
      unfold sdA stC at CO
      simp only at CO E1 E2
      clear hw hw' hy hy' hz
      go_wp2_with fail
      go_region_held3 (fun W => W.cell? (ad.add (k * 7)) = some (.int .i64 sc) ∧ W.cell? { block := (ad.add (k * 7)).block, off := (ad.add (k * 7)).off + 1 } = some (.string sr) ∧ W.cell? { block := (ad.add (k * 7)).block, off := (ad.add (k * 7)).off + 2 } = some (.int .i64 sv) ∧ W.cell? { block := (ad.add (k * 7)).block, off := (ad.add (k * 7)).off + 3 } = some (.slice fa f.length fc) ∧ W.cell? { block := (ad.add (k * 7)).block, off := (ad.add (k * 7)).off + 4 } = some (.string sb) ∧ W.cell? { block := (ad.add (k * 7)).block, off := (ad.add (k * 7)).off + 5 } = some (.int .i64 st) ∧ W.cell? { block := (ad.add (k * 7)).block, off := (ad.add (k * 7)).off + 6 } = some (.slice pa p.length pc) ∧ W.cell? (bd.add (k * 7)) = some (.int .i64 sc) ∧ W.cell? { block := (bd.add (k * 7)).block, off := (bd.add (k * 7)).off + 1 } = some (.string sr) ∧ W.cell? { block := (bd.add (k * 7)).block, off := (bd.add (k * 7)).off + 2 } = some (.int .i64 sv) ∧ W.cell? { block := (bd.add (k * 7)).block, off := (bd.add (k * 7)).off + 3 } = some (.slice fb f.length fd) ∧ W.cell? { block := (bd.add (k * 7)).block, off := (bd.add (k * 7)).off + 4 } = some (.string sb) ∧ W.cell? { block := (bd.add (k * 7)).block, off := (bd.add (k * 7)).off + 5 } = some (.int .i64 st) ∧ W.cell? { block := (bd.add (k * 7)).block, off := (bd.add (k * 7)).off + 6 } = some (.slice pb p.length pd))
        (first | exact ⟨E1.out.1, E1.out.2.1, E1.out.2.2.1, E1.out.2.2.2.1, E1.out.2.2.2.2.1, E1.out.2.2.2.2.2.1, E1.out.2.2.2.2.2.2, E2.out.1, E2.out.2.1, E2.out.2.2.1, E2.out.2.2.2.1, E2.out.2.2.2.2.1, E2.out.2.2.2.2.2.1, E2.out.2.2.2.2.2.2⟩ | exact ⟨cell_kept hb E1.out.1, cell_kept hb E1.out.2.1, cell_kept hb E1.out.2.2.1, cell_kept hb E1.out.2.2.2.1, cell_kept hb E1.out.2.2.2.2.1, cell_kept hb E1.out.2.2.2.2.2.1, cell_kept hb E1.out.2.2.2.2.2.2, cell_kept hb E2.out.1, cell_kept hb E2.out.2.1, cell_kept hb E2.out.2.2.1, cell_kept hb E2.out.2.2.2.1, cell_kept hb E2.out.2.2.2.2.1, cell_kept hb E2.out.2.2.2.2.2.1, cell_kept hb E2.out.2.2.2.2.2.2⟩)
        (first | (go_at_call 24; refine CO.out.mono ?_; rintro e w2 ⟨rfl, hb⟩))
      have HB2 : Hid (Below w.heap.size w w2) := below_then HB.out.drew hb
      clear hb
      go_wp2_with fail
      go_roundw
      case rel => exact ⟨k + 1, by omega, by go_num, HB2.out⟩
      case measure => simp [intOf]; omega
    · have hi1 : ¬ (k : Int) < (L.length : Int) := by omega
      go_wp2_with fail
      go_ret
      exact ⟨rfl, HB.out⟩

end Go.Proofs.YthhlcecojeaalaaDoor
end

/-
  Package variant: slices.IndexFunc on stored replies for any test that is handed in; Find.
-/
section
namespace Go.Proofs.YthhlcecojeaalaaDoor
open Go.RowKit
set_option linter.unusedSimpArgs false

theorem findN_idx (F : List Fd) : ∀ l : List Sv, findN F l = if l.any (fun x => pkM x.p F) = true then some (l.findIdx fun x => pkM x.p F) else none
  | [] => rfl
  | x :: r => by
    unfold findN
    rw [findN_idx F r, List.any_cons, List.findIdx_cons]
    cases pkM x.p F with
    | true => rfl
    | false =>
      simp only [Bool.false_or, Bool.false_eq_true, if_false, cond_false]
      split <;> rfl
theorem verF_idx (F : List Fd) (L : List Sd) : verF (L.map fun y => y.x) F = idxP (fun y : Sd => pkM y.x.p F) L := by
  unfold verF idxP
  rw [findN_idx, List.any_map, List.findIdx_map]
  by_cases h : L.any ((fun x : Sv => pkM x.p F) ∘ fun y : Sd => y.x) = true
  · rw [if_pos h]
    rw [if_pos (show L.any (fun y : Sd => pkM y.x.p F) = true from h)]
    rfl
  · rw [if_neg h, if_neg (show ¬ L.any (fun y : Sd => pkM y.x.p F) = true from h)]

set_option maxHeartbeats 8000000 in
set_option maxRecDepth 100000 in
theorem idxD_any (A : Option Addr) (n c : Nat) (L : List Sd) (w : World) (h : SlD w A n c L) (hn : n ≤ 1000000000) (g : Nat) (caps : Array Value) (p : Sd → Bool)
    (eg : ∀ args W, (callFunc g args).run Tryd.prog W = .ok (.enter g args) W)
    (hp : ∀ (W : World) (y : Sd), y ∈ L → Below w.heap.size w W → Calls Tryd.prog g (#[.agg (sdA y)] ++ caps) W fun e w' => e = .returned (.bool (p y)) ∧ Below W.heap.size W w') :
    Calls Tryd.prog 29 #[.slice A n c, .func (.func g) #[] caps] w fun e w' => e = .returned (.int .i64 (idxP p L)) ∧ Below w.heap.size w w' := by
  have hlen := h.len
  subst hlen
  have HP := Lib.hid hp
  clear hp
  go_enter Tryd.func29, Tryd.ntmps29
  go_wp2_with fail
  go_loopw [5, 8] (fun _ i wr => ∃ k : Nat, k ≤ L.length ∧ i = .int .i64 k ∧ Hid (∀ j (hj : j < L.length), j < k → p L[j] = false) ∧ Below w.heap.size w wr) (fun _ i _ => L.length - (intOf i).toNat)
  case atStart => exact ⟨0, Nat.zero_le _, rfl, (fun j hj h0 => absurd h0 (by omega)), Below.refl _ _⟩
  case round =>
    obtain ⟨k, hk, rfl, hf, hbel⟩ := hrel
    by_cases hlt : k < L.length
    · have hw := h.below hbel
      obtain ⟨ad, rfl, _⟩ := h.at_ (by omega)
      have HN : Hid (p L[k] = true → idxP p L = k) := fun hp => idxP_hit hlt hp hf.out
      have HM : Hid (p L[k] = false → ∀ j (hj : j < L.length), j < k + 1 → p L[j] = false) := fun hp j hj hjk => by
        by_cases e : j = k
        · subst e; exact hp
        · exact hf.out j hj (by omega)
      obtain ⟨e0, e1, e2, e3, e4, e5, e6⟩ := hw.elem hlt
      have hcall := HP.out wr L[k] (List.getElem_mem hlt) hbel
      generalize L[k] = y at HN HM e0 e1 e2 e3 e4 e5 e6 hcall
      obtain ⟨⟨⟨sc, sr, sv, f, sb, st⟩, q⟩, fa, fc, pa, pc⟩ := y
      unfold sdA stC at hcall
      simp only at hcall e0 e1 e2 e3 e4 e5 e6
      have HC := Lib.hid hcall
      have hi0 : (0 : Int) ≤ (k : Int) := by omega
      have hi1 : (k : Int) < (L.length : Int) := by omega
      clear hcall hf hw
      generalize p ⟨⟨⟨sc, sr, sv, f, sb, st⟩, q⟩, fa, fc, pa, pc⟩ = t at *
      cases t with
      | true =>
        have HR := Lib.hid (HN.out rfl)
        clear HN HM
        go_wp2_with fail
        refine HC.out.mono ?_
        rintro e w1 ⟨rfl, hb1⟩
        clear HC
        go_wp2_with fail
        go_ret
        exact ⟨by rw [HR.out]; rfl, hbel.trans (hb1.mono hbel.size)⟩
      | false =>
        have HR := Lib.hid (HM.out rfl)
        clear HN HM
        go_wp2_with fail
        refine HC.out.mono ?_
        rintro e w1 ⟨rfl, hb1⟩
        clear HC
        go_wp2_with fail
        go_roundw
        case rel => exact ⟨k + 1, by omega, by go_num, HR.out, hbel.trans (hb1.mono hbel.size)⟩
        case measure => simp [intOf]; omega
    · have HE : Hid (idxP p L = -1) := idxP_miss fun j hj => hf.out j hj (by omega)
      go_wp2_with fail
      go_ret
      exact ⟨by rw [HE.out]; rfl, hbel⟩

theorem enters_find : ∀ args W, (callFunc 30 args).run Tryd.prog W = .ok (.enter 30 args) W := Go.Proofs.enters_of Tryd.func30 (by kernel_rfl) rfl

theorem find_in (B : Option Addr) (d a : Nat) (y : Sd) (F : List Fd) (W : World) (h0 : W.cell? ⟨a, 0, none⟩ = some (.slice B F.length d)) (hy : SdAt W y) (h' : SlF W B F.length d F) (hP : FwP y.x.p) (hF : FwF F) :
    Calls Tryd.prog 30 #[.agg (sdA y), .pointer (some ⟨a, 0, none⟩)] W fun e w' => e = .returned (.bool (pkM y.x.p F)) ∧ Below W.heap.size W w' := by
  obtain ⟨⟨⟨sc, sr, sv, f, sb, st⟩, p⟩, fa, fc, pa, pc⟩ := y
  have C := Lib.hid (fun W' (hW : Below W.heap.size W W') => varM_any pa B pc d p F W' (hy.below hW).k (h'.below hW) hP hF)
  generalize pkM p F = t at *
  unfold sdA stC
  simp only at *
  clear hy h' hP hF
  have HB : Hid (Below W.heap.size W (W.alloc (.cells #[.int .i64 sc, .string sr, .int .i64 sv, .slice fa f.length fc, .string sb, .int .i64 st, .slice pa p.length pc] 28))) := (Below.refl _ _).alloc (Nat.le_refl _) _
  obtain ⟨q0, q1, q2, q3, q4, q5, q6⟩ := cel7 (heap_alloc_new W (.cells #[.int .i64 sc, .string sr, .int .i64 sv, .slice fa f.length fc, .string sb, .int .i64 st, .slice pa p.length pc] 28))
  have hA := cell_kept HB.out h0
  go_enter Tryd.func30, Tryd.ntmps30
  go_wp2_with fail
  refine (C.out _ HB.out).mono ?_
  rintro e w1 ⟨rfl, hb⟩
  go_wp2_with fail
  go_ret
  exact ⟨rfl, below_then HB.out hb⟩

theorem vntF_any (A B : Option Addr) (n c m d : Nat) (L : List Sd) (F : List Fd) (w : World) (h : SlD w A n c L) (h' : SlF w B m d F) (hn : n ≤ 100000000) (hP : ∀ y ∈ L, FwP y.x.p) (hF : FwF F) :
    Calls Tryd.prog 11 #[.slice A n c, .slice B m d] w fun e w' => e = .returned (.int .i64 (verF (L.map fun y => y.x) F)) ∧ Below w.heap.size w w' := by
  have hmf : ∀ (fn : Fn) (first cap : Array Value) (w : World), (Instr.makeFunc fn first cap).run Tryd.prog w = .ok (.func fn first cap) w := fun _ _ _ _ => rfl
  have hm := h'.len
  subst hm
  rw [verF_idx]
  have HB : Hid (Below w.heap.size w (w.alloc (.cells #[.slice B F.length d] 23))) := (Below.refl _ _).alloc (Nat.le_refl _) _
  have hc := zero_one (heap_alloc_new w (.cells #[.slice B F.length d] 23))
  have C := Lib.hid (idxD_any A n c L _ (h.below HB.out) (by omega) 30 #[.pointer (some ⟨w.heap.size, 0, none⟩)] (fun y => pkM y.x.p F) enters_find
    (fun W y hy hb => find_in B d w.heap.size y F W (cell_kept hb hc) (((h.below HB.out).all y hy).below hb) ((h'.below HB.out).below hb) (hP y hy) hF))
  generalize idxP (fun y : Sd => pkM y.x.p F) L = r at *
  clear h h' hP hF hc
  go_enter Tryd.func11, Tryd.ntmps11
  go_wp2_with fail
  refine C.out.mono ?_
  rintro e w1 ⟨rfl, hb⟩
  go_wp2_with fail
  go_ret
  exact ⟨rfl, below_then HB.out hb⟩

end Go.Proofs.YthhlcecojeaalaaDoor
end

/-
  Contracts of the reference's Add, Put (layer 20).
-/
section
namespace Go.Proofs.YthhlcecojeaalaaDoor
open Go.RowKit
set_option linter.unusedSimpArgs false

def addD (L : List Sd) (y : Sd) : List Sd := (y :: L.filter fun z => !pksB z.x.p y.x.p).take 4
theorem addD_map (L : List Sd) (y : Sd) : (addD L y).map (fun z => z.x) = addV (L.map fun z => z.x) y.x := by
  unfold addD addV
  rw [List.map_take, List.map_cons, List.filter_map]; rfl
theorem addD_mem {L : List Sd} {y z : Sd} (h : z ∈ addD L y) : z = y ∨ z ∈ L := by
  rcases List.mem_cons.1 (List.mem_of_mem_take h) with h | h
  · exact .inl h
  · exact .inr (List.mem_filter.1 h).1
/-- The answer is a list of stored replies. -/
def IsSd (w : World) (X : List Sv) (e : Ending) (w' : World) : Prop := ∃ A c M, e = .returned (.slice A M.length c) ∧ SlD w' A M.length c M ∧ M.map (fun z => z.x) = X ∧ Below w.heap.size w w'

theorem add_next (L : List Sd) (y : Sd) (X : List Sd) (k : Nat) (h : k < L.length) (D : List Sd) (hD : D = X ++ ((L.drop k).filter fun z => !pksB z.x.p y.x.p).take (4 - X.length)) (hX : X.length < 4) :
    D = if pksB L[k].x.p y.x.p = true then X ++ ((L.drop (k + 1)).filter fun z => !pksB z.x.p y.x.p).take (4 - X.length) else (X ++ [L[k]]) ++ ((L.drop (k + 1)).filter fun z => !pksB z.x.p y.x.p).take (4 - (X ++ [L[k]]).length) := by
  rw [hD, List.drop_eq_getElem_cons h, List.filter_cons]
  cases hq : pksB L[k].x.p y.x.p with
  | true => simp
  | false =>
    simp only [Bool.not_false, if_true, Bool.false_eq_true, if_false]
    rw [show 4 - X.length = (4 - (X ++ [L[k]]).length) + 1 by rw [List.length_append, List.length_singleton]; omega, List.take_succ_cons, List.append_assoc]; rfl

set_option maxHeartbeats 16000000 in
set_option maxRecDepth 100000 in
theorem r_vadd (A : Option Addr) (n c : Nat) (L : List Sd) (y : Sd) (w : World) (h : SlD w A n c L) (hy : SdAt w y) (hn : n ≤ 100000000) (hp : ∀ z ∈ L, z.x.p.length ≤ 100000000) (hyz : y.x.s.r.size ≤ maxLen ∧ y.x.s.b.size ≤ maxLen) :
    Calls Tryd.prog 15 #[.slice A n c, .agg (sdA y)] w (IsSd w (addV (L.map fun z => z.x) y.x)) := by
  have hlen := h.len
  subst hlen
  rw [← addD_map]
  obtain ⟨D, hD⟩ : ∃ D, D = addD L y := ⟨_, rfl⟩
  have HDm : Hid (∀ z ∈ D, z = y ∨ z ∈ L) := fun z hz => addD_mem (hD ▸ hz)
  have HD : Hid (D = [y] ++ ((L.drop 0).filter fun z => !pksB z.x.p y.x.p).take (4 - [y].length)) := by
    show _ = _
    rw [hD]; rfl
  rw [← hD]
  clear hD
  obtain ⟨⟨⟨sc, sr, sv, f, sb, st⟩, p⟩, fa, fc, pa, pc⟩ := y
  have HY := Lib.hid hy
  have HYZ := Lib.hid hyz
  have HYE : Hid (sdA ⟨⟨⟨sc, sr, sv, f, sb, st⟩, p⟩, fa, fc, pa, pc⟩ = #[.int .i64 sc, .string sr, .int .i64 sv, .slice fa f.length fc, .string sb, .int .i64 st, .slice pa p.length pc]) := rfl
  unfold sdA stC
  simp only
  clear hy hyz
  have HB0 : Hid (Below w.heap.size w (w.alloc (.cells #[.int .i64 sc, .string sr, .int .i64 sv, .slice fa f.length fc, .string sb, .int .i64 st, .slice pa p.length pc] 28))) := (Below.refl _ _).alloc (Nat.le_refl _) _
  have Z0 : Hid ((w.alloc (.cells #[.int .i64 sc, .string sr, .int .i64 sv, .slice fa f.length fc, .string sb, .int .i64 st, .slice pa p.length pc] 28)).heap[w.heap.size]? = some (.cells #[.int .i64 sc, .string sr, .int .i64 sv, .slice fa f.length fc, .string sb, .int .i64 st, .slice pa p.length pc] 28 (0, 0))) := heap_alloc_new w _
  obtain ⟨q0, q1, q2, q3, q4, q5, q6⟩ := cel7 Z0.out
  go_enter Tryd.func15, Tryd.ntmps15
  go_wp2_with fail
  clear q0 q1 q2 q3 q4 q5 q6
  go_loopw [5, 6] (fun v i wr => ∃ (k : Nat) (X : List Sd), k ≤ L.length ∧ X.length ≤ 4 ∧ 1 ≤ X.length ∧ i = .int .i64 k ∧ Hid (OwnD wr (w.heap.size + 1) 28 v X) ∧ Hid (D = X ++ ((L.drop k).filter fun z => !pksB z.x.p p).take (4 - X.length)) ∧ Hid (wr.heap[w.heap.size]? = some (.cells #[.int .i64 sc, .string sr, .int .i64 sv, .slice fa f.length fc, .string sb, .int .i64 st, .slice pa p.length pc] 28 (0, 0))) ∧ Hid (Below w.heap.size w wr)) (fun _ i _ => L.length - (intOf i).toNat)
  case atStart =>
    refine ⟨0, [⟨⟨⟨sc, sr, sv, f, sb, st⟩, p⟩, fa, fc, pa, pc⟩], Nat.zero_le _, by simp, by simp, rfl, ?_, HD.out, zero_more Z0.out, HB0.out.alloc HB0.out.size _⟩
    have := OwnD.one (w.alloc (.cells #[.int .i64 sc, .string sr, .int .i64 sv, .slice fa f.length fc, .string sb, .int .i64 st, .slice pa p.length pc] 28)) 28 ⟨⟨⟨sc, sr, sv, f, sb, st⟩, p⟩, fa, fc, pa, pc⟩ (base := w.heap.size + 1) (by simp)
    rw [show ∀ o : Obj, (w.alloc o).heap.size = w.heap.size + 1 from fun o => by simp] at this
    exact this
  case round =>
    clear HD Z0 HB0
    obtain ⟨k, X, hk, hX4, hX1, rfl, HO, hf, ZB, HB⟩ := hrel
    obtain ⟨A3, c3, hv3⟩ := HO.out.form
    subst hv3
    by_cases hlt : k < L.length
    · have hi0 : (0 : Int) ≤ (k : Int) := by omega
      have hi1 : (k : Int) < (L.length : Int) := by omega
      by_cases h4 : X.length < 4
      · have h4i : (X.length : Int) < 4 := by omega
        have hw := h.below HB.out
        obtain ⟨ad, rfl, _⟩ := h.at_ (by omega)
        have E := Lib.hid (hw.elem hlt)
        have hz := hw.all _ (List.getElem_mem hlt)
        have hzp := hp _ (List.getElem_mem hlt)
        have hst := add_next L ⟨⟨⟨sc, sr, sv, f, sb, st⟩, p⟩, fa, fc, pa, pc⟩ X k hlt D hf.out h4
        have CP := Lib.hid (r_pkSame L[k].pa pa L[k].x.p.length L[k].pc p.length pc L[k].x.p p wr.drew (hz.k.drew) ((HY.out.below HB.out).k.drew) hzp)
        generalize L[k] = z at *
        clear hw hz hzp hf
        have e6 := E.out.2.2.2.2.2.2
        have b6 := (cel7 ZB.out).2.2.2.2.2.2
        have HE6 := Lib.hid e6
        have HB6 := Lib.hid b6
        go_wp2_with fail
        go_region_held3 (fun W => W.cell? { block := (ad.add (k * 7)).block, off := (ad.add (k * 7)).off + 6 } = some (.slice z.pa z.x.p.length z.pc) ∧ W.cell? ⟨w.heap.size, 6, none⟩ = some (.slice pa p.length pc)) (first | exact ⟨HE6.out, HB6.out⟩ | exact ⟨cell_kept hb HE6.out, cell_kept hb HB6.out⟩) (first | (go_at_call 25; refine CP.out.mono ?_; rintro e w2 ⟨rfl, hb⟩))
        replace ZB := Lib.hid (zero_still hb ZB.out)
        replace HO := Lib.hid (HO.out.drew.below hb)
        replace HB := Lib.hid (below_then HB.out.drew hb)
        have E2 := Lib.hid (ElD.below (show ElD wr.drew (ad.add (k * 7)) z from E.out) hb)
        clear E e6 b6 HE6 HB6 hb
        cases hq : pksB z.x.p p with
        | true =>
          have HN : Hid (D = X ++ ((L.drop (k + 1)).filter fun z => !pksB z.x.p p).take (4 - X.length)) := by
            show _ = _
            rw [hst, if_pos hq]
          clear hst E2
          go_wp2_with fail
          go_roundw
          case rel => exact ⟨k + 1, X, by omega, hX4, hX1, by go_num, HO.out, HN, ZB.out, HB.out⟩
          case measure => simp [intOf]; omega
        | false =>
          have HN : Hid (D = (X ++ [z]) ++ ((L.drop (k + 1)).filter fun z => !pksB z.x.p p).take (4 - (X ++ [z]).length)) := by
            show _ = _
            rw [hst, if_neg (by rw [hq]; decide)]
          clear hst
          obtain ⟨c0, c1, c2, c3', c4, c5, c6⟩ := E2.out
          have hlt0 := (Array.getElem?_eq_some_iff.1 ZB.out).1
          go_wp2_with (at_builtin; refine wpList_append_sld rfl _ _ _ rfl (w.heap.size + 1) 28 Tryd.underlying22 (by kernel_rfl) _ rfl X (HO.out.alloc _) _ _ _ rfl [z] rfl (fun e => by cases e) (fun ad e j u hu => by cases e; exact cell_of_own (OwnD.one w2 28 z (Nat.le_refl _)) j u hu) (by simp; omega) (by simp; omega) _ (Below.refl _ _) ?_; intro v1 w1 ho1 hb1 hz1 hb2)
          clear c0 c1 c2 c3' c4 c5 c6
          have HB2 := Lib.hid ((HB.out.alloc HB.out.size (.cells (sdA z) 28)).trans (hb1.mono (by omega)))
          have ZB2 := Lib.hid ((hb1.block w.heap.size (by omega)).trans (zero_more (o' := .cells (sdA z) 28) ZB.out))
          go_roundw
          case rel => exact ⟨k + 1, X ++ [z], by omega, by rw [List.length_append, List.length_singleton]; omega, by rw [List.length_append]; omega, by go_num, ho1, HN, ZB2.out, HB2.out⟩
          case measure => simp [intOf]; omega
      · have h4i : ¬ (X.length : Int) < 4 := by omega
        have HN : Hid (D = X) := by
          show _ = _
          rw [hf.out, show 4 - X.length = 0 by omega, List.take_zero, List.append_nil]
        clear hf
        go_wp2_with fail
        go_ret
        have hsd : ∀ z ∈ X, SdAt wr z := fun z hz => by
          rcases HDm.out z (HN.out ▸ hz) with rfl | hz
          · exact HY.out.below HB.out
          · exact (h.all z hz).below HB.out
        have hsz : ∀ z ∈ X, z.x.s.r.size ≤ maxLen ∧ z.x.s.b.size ≤ maxLen := fun z hz => by
          rcases HDm.out z (HN.out ▸ hz) with rfl | hz
          · exact HYZ.out
          · exact h.sz z hz
        obtain ⟨A5, c5, e5, hS⟩ := HO.out.sld hsd hsz
        cases e5
        exact ⟨_, _, X, rfl, hS, by rw [HN.out], HB.out⟩
    · have hi1 : ¬ (k : Int) < (L.length : Int) := by omega
      have HN : Hid (D = X) := by
        show _ = _
        rw [hf.out, List.drop_eq_nil_of_le (by omega)]; simp
      clear hf
      go_wp2_with fail
      go_ret
      have hsd : ∀ z ∈ X, SdAt wr z := fun z hz => by
        rcases HDm.out z (HN.out ▸ hz) with rfl | hz
        · exact HY.out.below HB.out
        · exact (h.all z hz).below HB.out
      have hsz : ∀ z ∈ X, z.x.s.r.size ≤ maxLen ∧ z.x.s.b.size ≤ maxLen := fun z hz => by
        rcases HDm.out z (HN.out ▸ hz) with rfl | hz
        · exact HYZ.out
        · exact h.sz z hz
      obtain ⟨A5, c5, e5, hS⟩ := HO.out.sld hsd hsz
      cases e5
      exact ⟨_, _, X, rfl, hS, by rw [HN.out], HB.out⟩

end Go.Proofs.YthhlcecojeaalaaDoor
end
