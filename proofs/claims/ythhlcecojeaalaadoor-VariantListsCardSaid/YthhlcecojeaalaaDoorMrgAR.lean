/-
  Texts that the laws of this seat lean on, one behind the other.
-/
import Derived.Test.YthhlcecojeaalaaDoorMrgAQ
import Derived.Test.YthhlcecojeaalaaDoorMrgK
set_option linter.unusedSimpArgs false
set_option linter.unusedVariables false
/-
  Package variant: the decoder's number, end.
-/
section
namespace Go.Proofs.YthhlcecojeaalaaDoor
open Go.RowKit
set_option linter.unusedSimpArgs false

theorem butCell2 {R : Nat} {w w' : World} (hb : ButB R w w') {g k : Nat} {u : Value} (hg : g ≠ R) (h : w.cell? ⟨g, k, none⟩ = some u) : w'.cell? ⟨g, k, none⟩ = some u :=
  (World.cell?_of_block (w := w) (hb.block g (World.block_lt_of_cell? w _ h) hg)).trans h
/-- What a number's reading tells. -/
theorem numR_cs (k : Nat) (lo hi : Int) (l : List UInt8) (I : Nat) (hI : I ≤ l.length) :
    (getE (l.drop I) 0 k ≠ 0 ∧ numR k lo hi l (I, 0) = (0, (I, getE (l.drop I) 0 k))) ∨ (getE (l.drop I) 0 k = 0 ∧ ¬ (lo ≤ getV (l.drop I) 0 k ∧ getV (l.drop I) 0 k ≤ hi) ∧ numR k lo hi l (I, 0) = (0, (I, 5))) ∨
    (getE (l.drop I) 0 k = 0 ∧ (lo ≤ getV (l.drop I) 0 k ∧ getV (l.drop I) 0 k ≤ hi) ∧ numR k lo hi l (I, 0) = (getV (l.drop I) 0 k, (I + k, 0)) ∧ I + k ≤ l.length) := by
  unfold numR numP
  rw [if_neg (by simp)]
  by_cases h0 : getE (l.drop I) 0 k = 0
  · right
    have hk := get_len h0
    rw [List.length_drop] at hk
    rw [if_neg (by simpa using h0)]
    by_cases h1 : getV (l.drop I) 0 k < lo ∨ hi < getV (l.drop I) 0 k
    · rw [if_pos h1]
      exact .inl ⟨h0, by omega, rfl⟩
    · rw [if_neg h1]
      exact .inr ⟨h0, by omega, rfl, by omega⟩
  · rw [if_pos h0]
    exact .inl ⟨h0, rfl⟩

set_option maxHeartbeats 8000000 in
set_option maxRecDepth 100000 in
theorem dNum_any (D R : Nat) (l : List UInt8) (x : RS) (q : Int) (i k : Nat) (lo hi er : Int) (HQ : Hid (q = (i : Int))) (w : World) (h : IsDc w D R l x) (hsp : SpA w i k lo hi er) (hi5 : i < 5) (hk7 : k ≤ 7) :
    Calls Tryd.prog 58 #[.pointer (some ⟨D, 0, none⟩), .int .i64 q] w (Dec D R l (.int .i64 (numR k lo hi l x).1) (numR k lo hi l x).2 w) := by
  have hq := HQ.out
  subst hq
  obtain ⟨I, cd⟩ := x
  obtain ⟨hd, hr, hlt, hne⟩ := h
  simp only at hd hr
  obtain ⟨s0, s1, s2, s3⟩ := hsp
  have hi0 : (0 : Int) ≤ (i : Int) := by omega
  have hi1 : (i : Int) < 5 := by omega
  obtain ⟨d1, f1⟩ := rowAt hd 1 _ rfl
  have C := Lib.hid (found_any cd w)
  have HD := Lib.hid hd
  by_cases hE : cd = 0
  · subst hE
    rw [show (!((0 : Int) == 0)) = false from rfl] at C
    obtain ⟨hR, hI⟩ := hr rfl
    have HCS := Lib.hid (numR_cs k lo hi l I hI)
    have CT := Lib.hid (fun (W : World) (hW : Hold1 W R 100 (l.drop I)) => num_any R (l.drop I) (k : Int) W hW (by omega) (by omega))
    have HGE : Hid (getE (l.drop I) 0 (k : Int) ≠ 0 → getV (l.drop I) 0 (k : Int) = 0) := fun h => get_err h
    have HK : Hid (getE (l.drop I) 0 (k : Int) = 0 → numK (l.drop I) (k : Int) = k) := fun h => by unfold numK; rw [if_pos h, Int.toNat_natCast]
    generalize numR k lo hi l (I, 0) = T at *
    obtain ⟨T1, T2⟩ := T
    simp only at HCS ⊢
    generalize getE (l.drop I) 0 (k : Int) = z at *
    generalize getV (l.drop I) 0 (k : Int) = v at *
    generalize numK (l.drop I) (k : Int) = K at *
    have HRD := Lib.hid hR
    have HL := Lib.hid hlt
    have HN := Lib.hid hne
    clear hr hR hI hd hlt hne hi5 hk7
    go_enter Tryd.func58, Tryd.ntmps58
    go_wp2_with fail
    refine C.out.mono ?_
    rintro e w1 ⟨rfl, hb1⟩
    have HB1 := Lib.hid hb1
    have HD1 := Lib.hid (zero_still hb1 HD.out)
    have HR1 := Lib.hid (HRD.out.below hb1)
    have s0 := cell_kept hb1 s0
    have s1 := cell_kept hb1 s1
    have s2 := cell_kept hb1 s2
    have s3 := cell_kept hb1 s3
    clear d1 f1 C hb1
    obtain ⟨V, hV⟩ : ∃ V, V = w1.alloc (.cells #[.int .i64 k, .int .i64 lo, .int .i64 hi, .int .i64 er] 115) := ⟨_, rfl⟩
    obtain ⟨gs, hgs⟩ : ∃ gs, gs = w1.heap.size := ⟨_, rfl⟩
    have HBV : Hid (Below w1.heap.size w1 V) := by
      show Below _ _ _
      rw [hV]
      exact (Below.refl _ _).alloc (Nat.le_refl _) _
    have ZV : Hid (V.drew.heap[gs]? = some (.cells #[.int .i64 k, .int .i64 lo, .int .i64 hi, .int .i64 er] 115 (0, 0))) := by
      show _ = _
      rw [hV, hgs]
      exact heap_alloc_new w1 _
    have HDV : Hid (V.drew.heap[D]? = some (.cells #[.pointer (some ⟨R, 0, none⟩), .int .i64 0] 79 (0, 0))) := (zero_still HBV.out HD1.out : V.heap[D]? = _)
    have HRV := Lib.hid (HR1.out.below HBV.out).drew
    have HGR : Hid (gs ≠ R) := by show _ ≠ _; have := HRD.out.lt; have := HB1.out.size; omega
    have C2 := Lib.hid (CT.out V.drew HRV.out)
    go_upto_region 4 with fail
    rw [← hV, ← hgs]
    clear hV hgs s0 s1 s2 s3 hi0 hi1 CT
    have K0 := Lib.hid (rowAt ZV.out 0 _ rfl).1
    have K1 := Lib.hid (rowAt HDV.out 0 _ rfl).1
    go_wp2_with fail
    go_region_held3 (fun W => W.cell? ⟨D, 0, none⟩ = some (.pointer (some ⟨R, 0, none⟩)) ∧ W.cell? ⟨gs, 0, none⟩ = some (.int .i64 k)) (first | exact ⟨K1.out, K0.out⟩ | exact ⟨butCell2 hb2 (Ne.symm HN.out) K1.out, butCell2 hb2 HGR.out K0.out⟩) (first | (go_at_call 77; refine C2.out.mono ?_; rintro e w2 ⟨rfl, hh, hb2⟩))
    have HB2 : Hid (But2 D R w w2) := (((But2.of_below HB1.out).trans (But2.of_below HBV.out)).trans (but2_drew D R V)).trans (But2.of_but hb2)
    have HD2 := Lib.hid ((hb2.block D (Array.getElem?_eq_some_iff.1 HDV.out).1 (Ne.symm HN.out)).trans HDV.out)
    have Z2 := Lib.hid ((hb2.block gs (Array.getElem?_eq_some_iff.1 ZV.out).1 HGR.out).trans ZV.out)
    have HH := Lib.hid hh
    have HL2 : Hid (R < w2.heap.size) := Nat.lt_of_lt_of_le HL.out HB2.out.size
    clear C2 K0 K1 HBV ZV HDV HRV HB1 HD1 HR1 hh hb2
    rcases HCS.out with ⟨h0, hT⟩ | ⟨h0, hn, hT⟩ | ⟨h0, hn, hT, hI2⟩
    · obtain ⟨rfl, rfl⟩ := Prod.mk.inj hT
      have hv := HGE.out h0
      subst hv
      have hz : (z == 0) = false := by simpa using h0
      have HZ := Lib.hid h0
      clear hT h0 HCS HGE HK
      obtain ⟨d1, f1⟩ := rowAt HD2.out 1 _ rfl
      go_wp2_with fail
      go_ret
      have hq := dec_set (l := l) (x := (I, z)) HD2.out (fun e => absurd e HZ.out) HL2.out HN.out HB2.out
      exact ⟨rfl, hq.1, hq.2⟩
    · obtain ⟨rfl, rfl⟩ := Prod.mk.inj hT
      subst h0
      have CA := Lib.hid (allows_any k lo hi er v w2)
      rw [show decide (lo ≤ v ∧ v ≤ hi) = false from decide_eq_false hn] at CA
      clear hT hn HCS HGE HK
      obtain ⟨d1, f1⟩ := rowAt HD2.out 1 _ rfl
      obtain ⟨z0, _⟩ := rowAt Z2.out 0 _ rfl
      obtain ⟨z1, _⟩ := rowAt Z2.out 1 _ rfl
      obtain ⟨z2, _⟩ := rowAt Z2.out 2 _ rfl
      obtain ⟨z3, _⟩ := rowAt Z2.out 3 _ rfl
      go_wp2_with fail
      refine CA.out.mono ?_
      rintro e w3 ⟨rfl, hb3⟩
      have HB3 : Hid (But2 D R w w3) := HB2.out.trans (But2.of_below hb3)
      have HD3 := Lib.hid (zero_still hb3 HD2.out)
      have HL3 : Hid (R < w3.heap.size) := Nat.lt_of_lt_of_le HL2.out hb3.size
      clear d1 f1 z0 z1 z2 z3 CA hb3
      obtain ⟨d1, f1⟩ := rowAt HD3.out 1 _ rfl
      go_wp2_with fail
      go_ret
      have hq := dec_set (l := l) (x := (I, 5)) HD3.out (fun e => by cases e) HL3.out HN.out HB3.out
      exact ⟨rfl, hq.1, hq.2⟩
    · obtain ⟨rfl, rfl⟩ := Prod.mk.inj hT
      subst h0
      have CA := Lib.hid (allows_any k lo hi er T1 w2)
      rw [show decide (lo ≤ T1 ∧ T1 ≤ hi) = true from decide_eq_true hn] at CA
      have HKK := Lib.hid (HK.out rfl)
      have HI2 := Lib.hid hI2
      clear hT hn HCS HGE HK hI2
      obtain ⟨d1, f1⟩ := rowAt HD2.out 1 _ rfl
      obtain ⟨z0, _⟩ := rowAt Z2.out 0 _ rfl
      obtain ⟨z1, _⟩ := rowAt Z2.out 1 _ rfl
      obtain ⟨z2, _⟩ := rowAt Z2.out 2 _ rfl
      obtain ⟨z3, _⟩ := rowAt Z2.out 3 _ rfl
      go_wp2_with fail
      refine CA.out.mono ?_
      rintro e w3 ⟨rfl, hb3⟩
      have HB3 : Hid (But2 D R w w3) := HB2.out.trans (But2.of_below hb3)
      have HD3 := Lib.hid (zero_still hb3 HD2.out)
      have HL3 : Hid (R < w3.heap.size) := Nat.lt_of_lt_of_le HL2.out hb3.size
      have HH3 := Lib.hid (HH.out.below hb3)
      clear d1 f1 z0 z1 z2 z3 CA hb3
      obtain ⟨d1, f1⟩ := rowAt HD3.out 1 _ rfl
      go_wp2_with fail
      go_ret
      have hq := dec_set (l := l) (x := (I + k, 0)) HD3.out (fun _ => ⟨by have := HH3.out; rw [HKK.out, List.drop_drop] at this; exact this, HI2.out⟩) HL3.out HN.out HB3.out
      exact ⟨rfl, hq.1, hq.2⟩
  · have h1 : (cd == 0) = false := by simpa using hE
    rw [h1] at C
    have HR := Lib.hid hr
    have HT : Hid (numR k lo hi l (I, cd) = (0, (I, cd))) := by show _ = _; unfold numR; rw [if_pos (by simpa using hE)]
    rw [HT.out]
    clear hr hd hE h1 s0 s1 s2 s3
    go_enter Tryd.func58, Tryd.ntmps58
    go_wp2_with fail
    refine C.out.mono ?_
    rintro e w1 ⟨rfl, hb1⟩
    go_wp2_with fail
    go_ret
    exact ⟨rfl, IsDc.below ⟨HD.out, HR.out, hlt, hne⟩ hb1, But2.of_below hb1⟩

set_option maxHeartbeats 8000000 in
set_option maxRecDepth 100000 in
theorem dEnd_any (D R : Nat) (l : List UInt8) (x : RS) (w : World) (h : IsDc w D R l x) :
    Calls Tryd.prog 40 #[.pointer (some ⟨D, 0, none⟩)] w (Dec D R l (.tuple #[]) (if x.2 = 0 ∧ x.1 < l.length then (x.1, 5) else x) w) := by
  obtain ⟨I, er⟩ := x
  obtain ⟨hd, hr, hlt, hne⟩ := h
  simp only at hd hr
  obtain ⟨d0, _⟩ := rowAt hd 0 _ rfl
  obtain ⟨d1, f1⟩ := rowAt hd 1 _ rfl
  have C := Lib.hid (found_any er w)
  have HD := Lib.hid hd
  by_cases hE : er = 0
  · subst hE
    rw [show (!((0 : Int) == 0)) = false from rfl] at C
    obtain ⟨hR, hI⟩ := hr rfl
    have CT := Lib.hid (fun (W : World) (hW : Below w.heap.size w W) => left_any R (l.drop I) W (hR.below hW))
    have hlen : (l.drop I).length = l.length - I := List.length_drop
    have HRD := Lib.hid hR
    have HI := Lib.hid hI
    have HL := Lib.hid hlt
    have HN := Lib.hid hne
    rw [hlen] at CT
    clear hr hR hI hd hlt hne hlen
    by_cases h1 : I < l.length
    · have HT : Hid ((if ((I, (0 : Int)) : RS).2 = 0 ∧ ((I, (0 : Int)) : RS).1 < l.length then (((I, (0 : Int)) : RS).1, (5 : Int)) else ((I, (0 : Int)) : RS)) = (I, 5)) := by show _ = _; rw [if_pos ⟨rfl, h1⟩]
      rw [HT.out]
      have hp : (0 : Int) < ((l.length - I : Nat) : Int) := by omega
      generalize l.length - I = q at *
      clear h1
      go_enter Tryd.func40, Tryd.ntmps40
      go_wp2_with fail
      refine C.out.mono ?_
      rintro e w1 ⟨rfl, hb1⟩
      have HB1 := Lib.hid hb1
      have C2 := Lib.hid (CT.out w1 hb1)
      have HD1 := Lib.hid (zero_still hb1 HD.out)
      clear d0 d1 f1 C CT hb1
      obtain ⟨d0, _⟩ := rowAt HD1.out 0 _ rfl
      obtain ⟨d1, f1⟩ := rowAt HD1.out 1 _ rfl
      go_wp2_with fail
      refine C2.out.mono ?_
      rintro e w2 ⟨rfl, rfl⟩
      go_wp2_with fail
      go_end0
      have hq := dec_set (l := l) (x := (I, 5)) HD1.out (fun e => by cases e) (Nat.lt_of_lt_of_le HL.out HB1.out.size) HN.out (But2.of_below HB1.out)
      exact ⟨rfl, hq.1, hq.2⟩
    · have HT : Hid ((if ((I, (0 : Int)) : RS).2 = 0 ∧ ((I, (0 : Int)) : RS).1 < l.length then (((I, (0 : Int)) : RS).1, (5 : Int)) else ((I, (0 : Int)) : RS)) = (I, 0)) := by show _ = _; rw [if_neg (fun q => h1 q.2)]
      rw [HT.out]
      have hp : ¬ (0 : Int) < ((l.length - I : Nat) : Int) := by omega
      generalize l.length - I = q at *
      clear h1
      go_enter Tryd.func40, Tryd.ntmps40
      go_wp2_with fail
      refine C.out.mono ?_
      rintro e w1 ⟨rfl, hb1⟩
      have HB1 := Lib.hid hb1
      have C2 := Lib.hid (CT.out w1 hb1)
      have HD1 := Lib.hid (zero_still hb1 HD.out)
      clear d0 d1 f1 C CT hb1
      obtain ⟨d0, _⟩ := rowAt HD1.out 0 _ rfl
      obtain ⟨d1, f1⟩ := rowAt HD1.out 1 _ rfl
      go_wp2_with fail
      refine C2.out.mono ?_
      rintro e w2 ⟨rfl, rfl⟩
      go_wp2_with fail
      go_end0
      exact ⟨rfl, IsDc.below ⟨HD.out, fun _ => ⟨HRD.out, HI.out⟩, HL.out, HN.out⟩ HB1.out, But2.of_below HB1.out⟩
  · have h1 : (er == 0) = false := by simpa using hE
    rw [h1] at C
    have HR := Lib.hid hr
    have HT : Hid ((if ((I, er) : RS).2 = 0 ∧ ((I, er) : RS).1 < l.length then (((I, er) : RS).1, (5 : Int)) else ((I, er) : RS)) = (I, er)) := by show _ = _; rw [if_neg (fun q => hE q.1)]
    rw [HT.out]
    clear hr hd hE h1
    go_enter Tryd.func40, Tryd.ntmps40
    go_wp2_with fail
    refine C.out.mono ?_
    rintro e w1 ⟨rfl, hb1⟩
    go_wp2_with fail
    go_end0
    exact ⟨rfl, IsDc.below ⟨HD.out, HR.out, hlt, hne⟩ hb1, But2.of_below hb1⟩

end Go.Proofs.YthhlcecojeaalaaDoor
end

/-
  Package variant: a row that the decoder fills, cell by cell; its fields and picks.
-/
section
namespace Go.Proofs.YthhlcecojeaalaaDoor
open Go.RowKit
set_option linter.unusedSimpArgs false

def NB (c : List Value) : Prop := ∀ v ∈ c, ∀ y : UInt8, v ≠ byV y
theorem RowE.noB {w : World} {g e : Nat} {L : List (List Value)} (h : RowE w g e L) (hn : ∀ c ∈ L, NB c) : NoB w g :=
  ⟨_, _, h, fun v hv y => by
    obtain ⟨c, hc, hvc⟩ := List.mem_flatten.1 (by simpa using hv)
    exact hn c hc v hvc y⟩
theorem NB.set {c : List Value} (h : NB c) (i : Nat) {u : Value} (hu : ∀ y : UInt8, u ≠ byV y) : NB (c.set i u) := fun v hv y => by
  rcases List.mem_or_eq_of_mem_set hv with h1 | rfl
  · exact h v h1 y
  · exact hu y
theorem RowE.put {w : World} {g e m i j : Nat} {X Z : List (List Value)} {P : List Value} (hg : RowE w g e (X ++ P :: Z)) (hX : ∀ l ∈ X, l.length = m) (hj : j = X.length * m + i) (hi : i < P.length) (u : Value) : RowE (w.setCell ⟨g, j, none⟩ u) g e (X ++ P.set i u :: Z) := by
  have h1 := rowSet (k := j) hg u
  show _ = _
  rw [h1]
  congr 2
  apply Array.ext'
  rw [Array.toList_setIfInBounds]
  have hl := flat_len hX
  simp only [List.flatten_append, List.flatten_cons]
  rw [List.set_append_right _ _ (by rw [hl]; omega), List.set_append_left _ _ (by rw [hl]; omega), hj, hl, Nat.add_sub_cancel_left]
theorem RowE.cellAt {w : World} {g e m i j : Nat} {X Z : List (List Value)} {P : List Value} {u : Value} (hg : RowE w g e (X ++ P :: Z)) (hX : ∀ l ∈ X, l.length = m) (hj : j = X.length * m + i) (hu : P[i]? = some u) : w.cell? ⟨g, j, none⟩ = some u ∧ w.frozen? ⟨g, j, none⟩ = false := by
  have hl := flat_len hX
  have hi := (List.getElem?_eq_some_iff.1 hu).1
  refine ⟨(cell_of_row _ _ _ _ _ _ hg).trans ?_, frozen_of_row _ _ _ _ _ hg⟩
  simp only [List.flatten_append, List.flatten_cons, List.getElem?_toArray]
  rw [List.getElem?_append_right (by rw [hl]; omega), List.getElem?_append_left (by rw [hl]; omega), hj, hl, Nat.add_sub_cancel_left, hu]

/-- The decoder is at work on row G: X is read, P is being filled, Z is to come. -/
structure DS (we : World) (D R : Nat) (l : List UInt8) (G e m : Nat) (X : List (List Value)) (P : List Value) (Z : List (List Value)) (x : RS) (w : World) : Prop where
  i : IsDc w D R l x
  r : RowE w G e (X ++ P :: Z)
  n : ∀ c ∈ X ++ P :: Z, NB c
  b : But2 D R we w
  d : D < we.heap.size ∧ R < we.heap.size ∧ we.heap.size ≤ G
  m : ∀ c ∈ X, c.length = m
/-- .. as it was above row G. -/
structure Kp (G : Nat) (w w' : World) : Prop where
  size : w.heap.size ≤ w'.heap.size
  block : ∀ k, G < k → k < w.heap.size → w'.heap[k]? = w.heap[k]?
theorem Kp.trans {G : Nat} {w w1 w2 : World} (h : Kp G w w1) (k : Kp G w1 w2) : Kp G w w2 := ⟨Nat.le_trans h.size k.size, fun j hj hl => (k.block j hj (Nat.lt_of_lt_of_le hl h.size)).trans (h.block j hj hl)⟩
theorem Kp.refl (G : Nat) (w : World) : Kp G w w := ⟨Nat.le_refl _, fun _ _ _ => rfl⟩
section
variable {we w w' : World} {D R G e m : Nat} {l : List UInt8} {X Z : List (List Value)} {P : List Value} {x x' : RS}
theorem DS.call (h : DS we D R l G e m X P Z x w) (hi : IsDc w' D R l x') (hb : But2 D R w w') : DS we D R l G e m X P Z x' w' ∧ Kp G w w' := by
  have hd := h.d
  have hg := h.r.lt
  refine ⟨⟨hi, (hb.block G hg (by omega) (by omega)).trans h.r, h.n, h.b.trans hb, hd, h.m⟩, hb.size, fun k hk hl => hb.block k hl (by omega) (by omega)⟩
theorem DS.put (h : DS we D R l G e m X P Z x w) {i j : Nat} (hj : j = X.length * m + i) (hi : i < P.length) {u : Value} (hu : ∀ y : UInt8, u ≠ byV y) : DS we D R l G e m X (P.set i u) Z x (w.setCell ⟨G, j, none⟩ u) ∧ Kp G w (w.setCell ⟨G, j, none⟩ u) := by
  have hd := h.d
  have hs : (w.setCell ⟨G, j, none⟩ u).heap.size = w.heap.size := by simp [World.setCell]
  refine ⟨⟨h.i.other (h.r.noB h.n) (by omega) (by omega) (by rw [hs]; exact Nat.le_refl _) (fun k _ hk => setOther hk), h.r.put h.m hj hi u, fun c hc => ?_, ⟨h.b.os, h.b.tape, h.b.output, by rw [hs]; exact h.b.size, fun k hk h1 h2 => (setOther (by omega)).trans (h.b.block k hk h1 h2)⟩, hd, h.m⟩, by rw [hs]; exact Nat.le_refl _, fun k hk _ => setOther (by omega)⟩
  rcases List.mem_append.1 hc with h1 | h1
  · exact h.n c (List.mem_append_left _ h1)
  · rcases List.mem_cons.1 h1 with rfl | h2
    · exact (h.n P (List.mem_append_right _ (List.mem_cons_self ..))).set i hu
    · exact h.n c (List.mem_append_right _ (List.mem_cons_of_mem _ h2))
theorem DS.cell (h : DS we D R l G e m X P Z x w) {i j : Nat} (hj : j = X.length * m + i) {u : Value} (hu : P[i]? = some u) : w.cell? ⟨G, j, none⟩ = some u ∧ w.frozen? ⟨G, j, none⟩ = false := h.r.cellAt h.m hj hu
end
/-- A round of the decoder's loops begins, and ends. -/
theorem DS.begin {α : Type} {we w : World} {D R G e m r : Nat} {l : List UInt8} {f : α → List Value} {z : List Value} {X : List α} {x : RS} (hi : IsDc w D R l x) (hr : RowE w G e (X.map f ++ List.replicate (r + 1) z)) (hb : But2 D R we w) (hd : D < we.heap.size ∧ R < we.heap.size ∧ we.heap.size ≤ G)
    (hf : ∀ a, (f a).length = m ∧ NB (f a)) (hz : NB z) : DS we D R l G e m (X.map f) z (List.replicate r z) x w := by
  rw [List.replicate_succ] at hr
  refine ⟨hi, hr, fun c hc => ?_, hb, hd, fun c hc => ?_⟩
  · rcases List.mem_append.1 hc with h1 | h1
    · obtain ⟨a, _, rfl⟩ := List.mem_map.1 h1; exact (hf a).2
    · rcases List.mem_cons.1 h1 with rfl | h2
      · exact hz
      · rw [(List.mem_replicate.1 h2).2]; exact hz
  · obtain ⟨a, _, rfl⟩ := List.mem_map.1 hc; exact (hf a).1
theorem DS.ends {α : Type} {we w : World} {D R G e m r : Nat} {l : List UInt8} {f : α → List Value} {z : List Value} {X : List α} {a : α} {x : RS} (h : DS we D R l G e m (X.map f) (f a) (List.replicate r z) x w) : RowE w G e ((X ++ [a]).map f ++ List.replicate r z) := by
  have := h.r
  rw [List.map_append, List.append_assoc]
  exact this
def fdQ (x : Fd) : List Value := [.string x.1, .string x.2]
def pkQ (x : Pk) : List Value := [.string x.n, .bool x.h, .string x.v]
def zer2 : List Value := [.string ⟨#[]⟩, .string ⟨#[]⟩]
def zer3 : List Value := [.string ⟨#[]⟩, .bool false, .string ⟨#[]⟩]
theorem fdQ_ok (a : Fd) : (fdQ a).length = 2 ∧ NB (fdQ a) := ⟨rfl, fun v hv y => by
  simp only [fdQ, List.mem_cons, List.not_mem_nil, or_false] at hv
  rcases hv with rfl | rfl <;> simp [byV]⟩
theorem pkQ_ok (a : Pk) : (pkQ a).length = 3 ∧ NB (pkQ a) := ⟨rfl, fun v hv y => by
  simp only [pkQ, List.mem_cons, List.not_mem_nil, or_false] at hv
  rcases hv with rfl | rfl | rfl <;> simp [byV]⟩
theorem zer2_ok : NB zer2 := fun v hv y => by
  simp only [zer2, List.mem_cons, List.not_mem_nil, or_false] at hv
  rcases hv with rfl | rfl <;> simp [byV]
theorem zer3_ok : NB zer3 := fun v hv y => by
  simp only [zer3, List.mem_cons, List.not_mem_nil, or_false] at hv
  rcases hv with rfl | rfl | rfl <;> simp [byV]

/-- What reading fields answers. -/
def DecF {β : Type} (D R : Nat) (l : List UInt8) (V : Except Int (β × List UInt8)) (f : List Fd → Pr β) (w : World) (e : Ending) (w' : World) : Prop :=
  ∃ g X x', e = .returned (.slice (some ⟨g, 0, none⟩) X.length X.length) ∧ w.heap.size ≤ g ∧ g < w'.heap.size ∧ SlF w' (some ⟨g, 0, none⟩) X.length X.length X ∧ IsDc w' D R l x' ∧ At l V x' (f X) ∧ But2 D R w w'

set_option maxHeartbeats 8000000 in
set_option maxRecDepth 100000 in
theorem dFields_any {β : Type} (D R : Nat) (l : List UInt8) (x : RS) (V : Except Int (β × List UInt8)) (f : List Fd → Pr β) (w0 w : World) (hb0 : Below w0.heap.size w0 w) (h : IsDc w D R l x) (hA : At l V x ((numP 1 0 64).bind fun n => (fldP.rep n.toNat).bind f)) (hT : VntTabs w0) (hl : l.length ≤ 1000000) :
    Calls Tryd.prog 60 #[.pointer (some ⟨D, 0, none⟩)] w (DecF D R l V f w) := by
  have C0 := Lib.hid (dNum_any D R l x 4 4 1 0 64 4 rfl w h (hT.kept hb0).s4 (by decide) (by decide))
  have hD := (Array.getElem?_eq_some_iff.1 h.d).1
  have HDR : Hid (D < w.heap.size ∧ R < w.heap.size) := ⟨hD, h.lt⟩
  have hst := num_step hA
  have hbd := numR_bd (k := 1) (lo := 0) (hi := 64) l x
  obtain ⟨y, hy⟩ : ∃ y, y = (numR 1 0 64 l x).2 := ⟨_, rfl⟩
  obtain ⟨n, hn⟩ : ∃ n, n = (numR 1 0 64 l x).1.toNat := ⟨_, rfl⟩
  have hni : (numR 1 0 64 l x).1 = (n : Int) := by omega
  have hn64 : n ≤ 64 := by omega
  rw [← hy, hni] at C0
  rw [← hy, ← hn] at hst
  have HAT : Hid (At l V y (repK fldP f n 0 [])) := hst
  have HL := Lib.hid hl
  clear hst hbd hy hn hni hD h hA hb0 hT hl
  go_enter Tryd.func60, Tryd.ntmps60
  go_wp2_with fail
  refine C0.out.mono ?_
  rintro e w1 ⟨rfl, hI, hb1⟩
  clear C0
  have HI := Lib.hid hI
  have HB1 := Lib.hid hb1
  clear hI hb1
  obtain ⟨w2, hmk, hrow, hbm⟩ := run_makeE (P := Tryd.prog) w1 23 62 (.agg #[.string ⟨#[]⟩, .string ⟨#[]⟩]) zer2 32 n Tryd.underlying23 (by kernel_rfl) rfl (by decide) (by omega) (by unfold maxLen; omega)
  obtain ⟨g, hg⟩ : ∃ g, g = w1.heap.size := ⟨_, rfl⟩
  rw [← hg] at hmk hrow
  have HR2 := Lib.hid hrow
  have HI2 := Lib.hid (HI.out.below hbm)
  have HB2 := Lib.hid (HB1.out.trans (But2.of_below hbm))
  have HG : Hid (w.heap.size ≤ g) := by show _ ≤ _; have := HB1.out.size; omega
  clear hrow hbm hg HI HB1
  go_wp2_with fail
  go_loopw [4, 10] (fun _ i wr => ∃ (k : Nat) (X : List Fd) (xk : RS), k ≤ n ∧ X.length = k ∧ i = .int .i64 k ∧ Hid (IsDc wr D R l xk) ∧ Hid (At l V xk (repK fldP f n k X)) ∧ Hid (RowE wr g 62 (X.map fdQ ++ List.replicate (n - k) zer2)) ∧ Hid (∀ a ∈ X, a.1.size ≤ maxLen ∧ a.2.size ≤ maxLen) ∧ Hid (But2 D R w wr)) (fun _ i _ => n - (intOf i).toNat)
  case atStart => exact ⟨0, [], y, Nat.zero_le _, rfl, rfl, HI2.out, HAT.out, HR2.out, (fun a ha => by cases ha), HB2.out⟩
  case round =>
    clear HI2 HR2 HB2 HAT hmk
    obtain ⟨k, X, xk, hk, hX, rfl, HI, HA, HR, HZ, HB⟩ := hrel
    by_cases hlt : k < n
    · have hi0 : (0 : Int) ≤ (k : Int) := by omega
      have hi1 : (k : Int) < (n : Int) := by omega
      obtain ⟨r, hr⟩ : ∃ r, r = n - (k + 1) := ⟨_, rfl⟩
      rw [show n - k = r + 1 by omega] at HR
      have HRR := Lib.hid hr
      have HXL := Lib.hid hX
      have S0 := Lib.hid (DS.begin HI.out HR.out HB.out ⟨HDR.out.1, HDR.out.2, HG.out⟩ fdQ_ok zer2_ok)
      have A0 := Lib.hid (fld_go HA.out hlt)
      have A1 := Lib.hid (txt_step A0.out)
      have A2 := Lib.hid (txt_step A1.out)
      have z1 := txtR_size l xk
      have z2 := txtR_size l (txtR l xk).2
      have C1 := Lib.hid (dText_any D R l xk wr HI.out HL.out)
      have C2 := Lib.hid (fun (W : World) (hW : IsDc W D R l (txtR l xk).2) => dText_any D R l (txtR l xk).2 W hW HL.out)
      generalize (txtR l (txtR l xk).2).2 = x2 at *
      generalize (txtR l (txtR l xk).2).1 = t2 at *
      generalize (txtR l xk).2 = x1 at *
      generalize (txtR l xk).1 = t1 at *
      have HSZ : Hid (t1.size ≤ maxLen ∧ t2.size ≤ maxLen) := by show _ ∧ _; unfold maxLen; have := HL.out; omega
      clear z1 z2 hr hX HI HR HB HA A0 A1
      go_wp2_with fail
      refine C1.out.mono ?_
      rintro e v1 ⟨rfl, hI, hb⟩
      have S1 := Lib.hid (S0.out.call hI hb).1
      clear C1 S0 hI hb
      obtain ⟨c0, f0⟩ := S1.out.cell (i := 0) (j := k * 2) (by have := HXL.out; rw [List.length_map]; omega) rfl
      go_upto_region 6 with fail
      have S2 := Lib.hid (S1.out.put (i := 0) (j := k * 2) (by have := HXL.out; rw [List.length_map]; omega) (by decide) (u := .string t1) (fun y => by simp [byV])).1
      generalize v1.setCell ⟨g, k * 2, none⟩ (.string t1) = v2 at *
      clear c0 f0 S1
      have C3 := Lib.hid (C2.out v2 S2.out.i)
      clear C2
      go_wp2_with fail
      refine C3.out.mono ?_
      rintro e v3 ⟨rfl, hI, hb⟩
      have S3 := Lib.hid (S2.out.call hI hb).1
      clear C3 S2 hI hb
      obtain ⟨c1, f1⟩ := S3.out.cell (i := 1) (j := k * 2 + 1) (by have := HXL.out; rw [List.length_map]; omega) rfl
      go_upto_region 7 with fail
      have S4 := Lib.hid (S3.out.put (i := 1) (j := k * 2 + 1) (by have := HXL.out; rw [List.length_map]; omega) (by simp [zer2]) (u := .string t2) (fun y => by simp [byV])).1
      generalize v3.setCell ⟨g, k * 2 + 1, none⟩ (.string t2) = v4 at *
      clear c1 f1 S3
      have HE := Lib.hid (DS.ends (a := (t1, t2)) S4.out)
      go_wp2_with fail
      go_roundw
      case rel => exact ⟨k + 1, X ++ [(t1, t2)], x2, by omega, by rw [List.length_append, HXL.out, List.length_singleton], by go_num, S4.out.i, A2.out, by show RowE _ _ _ _; rw [← HRR.out]; exact HE.out, (fun a ha => by
        rcases List.mem_append.1 ha with h1 | h1
        · exact HZ.out a h1
        · obtain rfl := List.mem_singleton.1 h1
          exact HSZ.out), S4.out.b⟩
      case measure => simp [intOf]; omega
    · have hi1 : ¬ (k : Int) < (n : Int) := by omega
      have hkn : k = n := by omega
      subst hkn
      have HXL := Lib.hid hX
      clear hX
      go_wp2_with fail
      go_ret
      have hA := HA.out
      rw [repK_end fldP f X (Nat.le_refl _)] at hA
      have hR := HR.out
      rw [Nat.sub_self, List.replicate_zero, List.append_nil] at hR
      have hS := hR.slf HXL.out (by unfold maxLen; omega) HZ.out
      have e := HXL.out
      subst e
      exact ⟨g, X, xk, rfl, HG.out, hR.lt, hS, HI.out, hA, HB.out⟩

/-- What reading picks answers. -/
def DecK {β : Type} (D R : Nat) (l : List UInt8) (V : Except Int (β × List UInt8)) (f : List Pk → Pr β) (w : World) (e : Ending) (w' : World) : Prop :=
  ∃ g X x', e = .returned (.slice (some ⟨g, 0, none⟩) X.length X.length) ∧ w.heap.size ≤ g ∧ g < w'.heap.size ∧ SlK w' (some ⟨g, 0, none⟩) X.length X.length X ∧ IsDc w' D R l x' ∧ At l V x' (f X) ∧ But2 D R w w'

set_option maxHeartbeats 8000000 in
set_option maxRecDepth 100000 in
theorem dPicks_any {β : Type} (D R : Nat) (l : List UInt8) (x : RS) (V : Except Int (β × List UInt8)) (f : List Pk → Pr β) (w0 w : World) (hb0 : Below w0.heap.size w0 w) (h : IsDc w D R l x) (hA : At l V x ((numP 1 0 64).bind fun n => (pckP.rep n.toNat).bind f)) (hT : VntTabs w0) (hl : l.length ≤ 1000000) :
    Calls Tryd.prog 61 #[.pointer (some ⟨D, 0, none⟩)] w (DecK D R l V f w) := by
  have C0 := Lib.hid (dNum_any D R l x 4 4 1 0 64 4 rfl w h (hT.kept hb0).s4 (by decide) (by decide))
  have hD := (Array.getElem?_eq_some_iff.1 h.d).1
  have HDR : Hid (D < w.heap.size ∧ R < w.heap.size) := ⟨hD, h.lt⟩
  have hst := num_step hA
  have hbd := numR_bd (k := 1) (lo := 0) (hi := 64) l x
  obtain ⟨y, hy⟩ : ∃ y, y = (numR 1 0 64 l x).2 := ⟨_, rfl⟩
  obtain ⟨n, hn⟩ : ∃ n, n = (numR 1 0 64 l x).1.toNat := ⟨_, rfl⟩
  have hni : (numR 1 0 64 l x).1 = (n : Int) := by omega
  have hn64 : n ≤ 64 := by omega
  rw [← hy, hni] at C0
  rw [← hy, ← hn] at hst
  have HAT : Hid (At l V y (repK pckP f n 0 [])) := hst
  have HL := Lib.hid hl
  clear hst hbd hy hn hni hD h hA hb0 hT hl
  go_enter Tryd.func61, Tryd.ntmps61
  go_wp2_with fail
  refine C0.out.mono ?_
  rintro e w1 ⟨rfl, hI, hb1⟩
  clear C0
  have HI := Lib.hid hI
  have HB1 := Lib.hid hb1
  clear hI hb1
  obtain ⟨w2, hmk, hrow, hbm⟩ := run_makeE (P := Tryd.prog) w1 26 53 (.agg #[.string ⟨#[]⟩, .bool false, .string ⟨#[]⟩]) zer3 40 n Tryd.underlying26 (by kernel_rfl) rfl (by decide) (by omega) (by unfold maxLen; omega)
  obtain ⟨g, hg⟩ : ∃ g, g = w1.heap.size := ⟨_, rfl⟩
  rw [← hg] at hmk hrow
  have HR2 := Lib.hid hrow
  have HI2 := Lib.hid (HI.out.below hbm)
  have HB2 := Lib.hid (HB1.out.trans (But2.of_below hbm))
  have HG : Hid (w.heap.size ≤ g) := by show _ ≤ _; have := HB1.out.size; omega
  clear hrow hbm hg HI HB1
  go_wp2_with fail
  go_loopw [4, 10] (fun _ i wr => ∃ (k : Nat) (X : List Pk) (xk : RS), k ≤ n ∧ X.length = k ∧ i = .int .i64 k ∧ Hid (IsDc wr D R l xk) ∧ Hid (At l V xk (repK pckP f n k X)) ∧ Hid (RowE wr g 53 (X.map pkQ ++ List.replicate (n - k) zer3)) ∧ Hid (∀ a ∈ X, a.n.size ≤ maxLen ∧ a.v.size ≤ maxLen) ∧ Hid (But2 D R w wr)) (fun _ i _ => n - (intOf i).toNat)
  case atStart => exact ⟨0, [], y, Nat.zero_le _, rfl, rfl, HI2.out, HAT.out, HR2.out, (fun a ha => by cases ha), HB2.out⟩
  case round =>
    clear HI2 HR2 HB2 HAT hmk
    obtain ⟨k, X, xk, hk, hX, rfl, HI, HA, HR, HZ, HB⟩ := hrel
    by_cases hlt : k < n
    · have hi0 : (0 : Int) ≤ (k : Int) := by omega
      have hi1 : (k : Int) < (n : Int) := by omega
      obtain ⟨r, hr⟩ : ∃ r, r = n - (k + 1) := ⟨_, rfl⟩
      rw [show n - k = r + 1 by omega] at HR
      have HRR := Lib.hid hr
      have HXL := Lib.hid hX
      have S0 := Lib.hid (DS.begin HI.out HR.out HB.out ⟨HDR.out.1, HDR.out.2, HG.out⟩ pkQ_ok zer3_ok)
      have A0 := Lib.hid (pck_go HA.out hlt)
      have A1 := Lib.hid (txt_step A0.out)
      have A2 := Lib.hid (num_step A1.out)
      have A3 := Lib.hid (txt_step A2.out)
      have z1 := txtR_size l xk
      have z2 := txtR_size l (numR 1 0 1 l (txtR l xk).2).2
      have C1 := Lib.hid (dText_any D R l xk wr HI.out HL.out)
      have C2 := Lib.hid (fun (W : World) (hW : IsDc W D R l (txtR l xk).2) => dFlag_any D R l (txtR l xk).2 W hW)
      have C4 := Lib.hid (fun (W : World) (hW : IsDc W D R l (numR 1 0 1 l (txtR l xk).2).2) => dText_any D R l (numR 1 0 1 l (txtR l xk).2).2 W hW HL.out)
      generalize (txtR l (numR 1 0 1 l (txtR l xk).2).2).2 = x3 at *
      generalize (txtR l (numR 1 0 1 l (txtR l xk).2).2).1 = t3 at *
      generalize (numR 1 0 1 l (txtR l xk).2).2 = x2 at *
      generalize ((numR 1 0 1 l (txtR l xk).2).1 == 1) = bb at *
      generalize (txtR l xk).2 = x1 at *
      generalize (txtR l xk).1 = t1 at *
      have HSZ : Hid (t1.size ≤ maxLen ∧ t3.size ≤ maxLen) := by show _ ∧ _; unfold maxLen; have := HL.out; omega
      clear z1 z2 hr hX HI HR HB HA A0 A1 A2
      go_wp2_with fail
      refine C1.out.mono ?_
      rintro e v1 ⟨rfl, hI, hb⟩
      have S1 := Lib.hid (S0.out.call hI hb).1
      clear C1 S0 hI hb
      obtain ⟨c0, f0⟩ := S1.out.cell (i := 0) (j := k * 3) (by have := HXL.out; rw [List.length_map]; omega) rfl
      go_upto_region 6 with fail
      have S2 := Lib.hid (S1.out.put (i := 0) (j := k * 3) (by have := HXL.out; rw [List.length_map]; omega) (by decide) (u := .string t1) (fun y => by simp [byV])).1
      generalize v1.setCell ⟨g, k * 3, none⟩ (.string t1) = v2 at *
      clear c0 f0 S1
      have C3 := Lib.hid (C2.out v2 S2.out.i)
      clear C2
      go_wp2_with fail
      refine C3.out.mono ?_
      rintro e v3 ⟨rfl, hI, hb⟩
      have S3 := Lib.hid (S2.out.call hI hb).1
      clear C3 S2 hI hb
      obtain ⟨c1, f1⟩ := S3.out.cell (i := 1) (j := k * 3 + 1) (by have := HXL.out; rw [List.length_map]; omega) rfl
      go_upto_region 7 with fail
      have S4 := Lib.hid (S3.out.put (i := 1) (j := k * 3 + 1) (by have := HXL.out; rw [List.length_map]; omega) (by simp [zer3]) (u := .bool bb) (fun y => by simp [byV])).1
      generalize v3.setCell ⟨g, k * 3 + 1, none⟩ (.bool bb) = v4 at *
      clear c1 f1 S3
      have C5 := Lib.hid (C4.out v4 S4.out.i)
      clear C4
      go_wp2_with fail
      refine C5.out.mono ?_
      rintro e v5 ⟨rfl, hI, hb⟩
      have S5 := Lib.hid (S4.out.call hI hb).1
      clear C5 S4 hI hb
      obtain ⟨c2, f2⟩ := S5.out.cell (i := 2) (j := k * 3 + 2) (by have := HXL.out; rw [List.length_map]; omega) rfl
      go_upto_region 8 with fail
      have S6 := Lib.hid (S5.out.put (i := 2) (j := k * 3 + 2) (by have := HXL.out; rw [List.length_map]; omega) (by simp [zer3]) (u := .string t3) (fun y => by simp [byV])).1
      generalize v5.setCell ⟨g, k * 3 + 2, none⟩ (.string t3) = v6 at *
      clear c2 f2 S5
      have HE := Lib.hid (DS.ends (a := (⟨t1, bb, t3⟩ : Pk)) S6.out)
      go_wp2_with fail
      go_roundw
      case rel => exact ⟨k + 1, X ++ [(⟨t1, bb, t3⟩ : Pk)], x3, by omega, by rw [List.length_append, HXL.out, List.length_singleton], by go_num, S6.out.i, A3.out, by show RowE _ _ _ _; rw [← HRR.out]; exact HE.out, (fun a ha => by
        rcases List.mem_append.1 ha with h1 | h1
        · exact HZ.out a h1
        · obtain rfl := List.mem_singleton.1 h1
          exact HSZ.out), S6.out.b⟩
      case measure => simp [intOf]; omega
    · have hi1 : ¬ (k : Int) < (n : Int) := by omega
      have hkn : k = n := by omega
      subst hkn
      have HXL := Lib.hid hX
      clear hX
      go_wp2_with fail
      go_ret
      have hA := HA.out
      rw [repK_end pckP f X (Nat.le_refl _)] at hA
      have hR := HR.out
      rw [Nat.sub_self, List.replicate_zero, List.append_nil] at hR
      have hS := hR.slk HXL.out (by unfold maxLen; omega) HZ.out
      have e := HXL.out
      subst e
      exact ⟨g, X, xk, rfl, HG.out, hR.lt, hS, HI.out, hA, HB.out⟩

end Go.Proofs.YthhlcecojeaalaaDoor
end
