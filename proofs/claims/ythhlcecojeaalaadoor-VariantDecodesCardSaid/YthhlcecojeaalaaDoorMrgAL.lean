/-
  Texts that the laws of this seat lean on, one behind the other.
-/
import Derived.Test.YthhlcecojeaalaaDoorMrgAG
import Derived.Test.YthhlcecojeaalaaDoorMrgAA
import Derived.Test.YthhlcecojeaalaaDoorMrgAF
import Derived.Test.YthhlcecojeaalaaDoorMrgAD
import Derived.Test.YthhlcecojeaalaaDoorMrgAI
import Derived.Test.YthhlcecojeaalaaDoorMrgAB
set_option linter.unusedSimpArgs false
set_option linter.unusedVariables false
/-
  Contracts of the references' Few (layers 12, 15 and 20) at any bound.
-/
section
namespace Go.Proofs.YthhlcecojeaalaaDoor
open Go.RowKit
set_option linter.unusedSimpArgs false

def fwRb (bd : Nat) (s : Stor) : Bool := (decide (s.r.size ≤ bd) && decide (s.b.size ≤ bd)) && fewB s.f 70 bd
def fewKb (m bd : Nat) (P : List Pk) : Bool := decide (P.length ≤ m) && P.all fun x => decide (x.n.size ≤ bd) && decide (x.v.size ≤ bd)
theorem fewKb_no {m bd : Nat} {P : List Pk} {x : Pk} (hx : x ∈ P) (h : ¬ (x.n.size ≤ bd ∧ x.v.size ≤ bd)) : fewKb m bd P = false := by
  unfold fewKb
  rw [Bool.and_eq_false_iff]
  right
  rw [List.all_eq_false]
  refine ⟨x, hx, ?_⟩
  simp only [Bool.and_eq_true, decide_eq_true_eq]
  exact h
theorem fewKb_yes {m bd : Nat} {P : List Pk} (h : fewKb m bd P = true) : P.length ≤ m ∧ ∀ x ∈ P, x.n.size ≤ bd ∧ x.v.size ≤ bd := by
  unfold fewKb at h
  rw [Bool.and_eq_true, decide_eq_true_eq, List.all_eq_true] at h
  exact ⟨h.1, fun x hx => by have := h.2 x hx; simpa only [Bool.and_eq_true, decide_eq_true_eq] using this⟩
theorem fwRb_yes {bd : Nat} {s : Stor} (h : fwRb bd s = true) : (s.r.size ≤ bd ∧ s.b.size ≤ bd) ∧ s.f.length ≤ 70 ∧ ∀ x ∈ s.f, x.1.size ≤ bd ∧ x.2.size ≤ bd := by
  unfold fwRb at h
  rw [Bool.and_eq_true, Bool.and_eq_true, decide_eq_true_eq, decide_eq_true_eq] at h
  exact ⟨h.1, few_yes h.2⟩

set_option maxHeartbeats 4000000 in
set_option maxRecDepth 100000 in
theorem r_fewRb (bd : Nat) (q : Int) (HQ : Hid (q = (bd : Int))) (s : Stor) (A : Option Addr) (c : Nat) (w : World) (h : SlF w A s.f.length c s.f) :
    Calls Tryd.prog 27 #[.agg (srC s A c), .int .i64 q] w fun e w' => e = .returned (.bool (fwRb bd s)) ∧ Below w.heap.size w w' := by
  have C1 := Lib.hid (fun W (hW : Below w.heap.size w W) => rf_few A _ c 70 bd s.f W (h.below hW) (by omega))
  have C1 := Lib.hid (fun W (hW : Below w.heap.size w W) => show Calls Tryd.prog 9 #[.slice A s.f.length c, .int .i64 70, .int .i64 q] W (fun e w' => e = .returned (.bool (fewB s.f 70 bd)) ∧ W = w') from by have e := HQ.out; subst e; exact C1.out W hW)
  obtain ⟨m, t, v, f, b, tm⟩ := s
  have hD : fwRb bd ⟨m, t, v, f, b, tm⟩ = ((decide (t.size ≤ bd) && decide (b.size ≤ bd)) && fewB f 70 bd) := rfl
  unfold srC
  simp only at *
  generalize fwRb bd ⟨m, t, v, f, b, tm⟩ = R at *
  generalize fewB f 70 bd = fw at *
  have HB1 : Hid (Below w.heap.size w (w.alloc (.cells #[.int .i64 m, .string t, .int .i64 v, .slice A f.length c, .string b] 25))) := (Below.refl _ _).alloc (Nat.le_refl _) _
  clear h
  by_cases ht : t.size ≤ bd
  · have ht' : (t.size : Int) ≤ q := by have := HQ.out; omega
    by_cases hb : b.size ≤ bd
    · have hb' : (b.size : Int) ≤ q := by have := HQ.out; omega
      have HR : Hid (R = fw) := by show _ = _; rw [hD, decide_eq_true ht, decide_eq_true hb]; rfl
      clear hD
      go_enter Tryd.func27, Tryd.ntmps27
      go_wp2_with fail
      refine (C1.out _ HB1.out).mono ?_
      rintro e w1 ⟨rfl, rfl⟩
      go_wp2_with fail
      go_ret
      exact ⟨by rw [HR.out]; rfl, HB1.out⟩
    · have hb' : ¬ (b.size : Int) ≤ q := by have := HQ.out; omega
      have HR : Hid (R = false) := by show _ = _; rw [hD, decide_eq_true ht, decide_eq_false hb, Bool.and_false]; (try rfl)
      clear hD C1
      go_enter Tryd.func27, Tryd.ntmps27
      go_wp2_with fail
      go_ret
      exact ⟨by rw [HR.out]; rfl, HB1.out⟩
  · have ht' : ¬ (t.size : Int) ≤ q := by have := HQ.out; omega
    have HR : Hid (R = false) := by show _ = _; rw [hD, decide_eq_false ht]; (try rfl)
    clear hD C1
    go_enter Tryd.func27, Tryd.ntmps27
    go_wp2_with fail
    go_ret
    exact ⟨by rw [HR.out]; rfl, HB1.out⟩


set_option maxHeartbeats 8000000 in
set_option maxRecDepth 100000 in
theorem r_fewKb (m bd : Nat) (mq bq : Int) (HMQ : Hid (mq = (m : Int))) (HBQ : Hid (bq = (bd : Int))) (hm1 : m ≤ 1000) (A : Option Addr) (n c : Nat) (P : List Pk) (w : World) (h : SlK w A n c P) :
    Calls Tryd.prog 28 #[.slice A n c, .int .i64 mq, .int .i64 bq] w fun e w' => e = .returned (.bool (fewKb m bd P)) ∧ Below w.heap.size w w' := by
  have hlen := h.len
  have hle := h.le
  unfold maxLen at hle
  subst hlen
  go_enter Tryd.func28, Tryd.ntmps28
  go_wp2_with fail
  go_loopw [7] (fun i wr => ∃ k : Nat, k ≤ P.length ∧ k ≤ m + 1 ∧ i = .int .i64 k ∧ Hid (∀ x ∈ P.take k, x.n.size ≤ bd ∧ x.v.size ≤ bd) ∧ Hid (Below w.heap.size w wr)) (fun i _ => P.length - (intOf i).toNat)
  case atStart => exact ⟨0, Nat.zero_le _, Nat.zero_le _, rfl, (fun x hx => absurd hx (by simp)), Below.refl _ _⟩
  case round =>
    obtain ⟨k, hk, hk31, rfl, hf, HB⟩ := hrel
    have hi0 : (0 : Int) ≤ (k : Int) := by omega
    by_cases hlt : k < P.length
    · have hi1 : (k : Int) < (P.length : Int) := by omega
      by_cases hm : k ≤ m
      · have hi2 : (k : Int) ≤ mq := by have := HMQ.out; omega
        obtain ⟨ad, rfl, hc⟩ := h.at_ (by omega)
        obtain ⟨hc0, _, hc2⟩ := hc k P[k] (List.getElem?_eq_getElem hlt)
        have hcell0 := cell_kept HB.out hc0
        have hcell2 := pk_at2 (cell_kept HB.out hc2)
        have hmem : P[k] ∈ P := List.getElem_mem hlt
        have HST : Hid (P[k].n.size ≤ bd ∧ P[k].v.size ≤ bd → ∀ x ∈ P.take (k + 1), x.n.size ≤ bd ∧ x.v.size ≤ bd) := fun hx x hm0 => by
          rw [List.take_succ_eq_append_getElem hlt, List.mem_append, List.mem_singleton] at hm0
          rcases hm0 with hm0 | rfl
          · exact hf.out x hm0
          · exact hx
        have HNO : Hid (¬ (P[k].n.size ≤ bd ∧ P[k].v.size ≤ bd) → fewKb m bd P = false) := fun hn => fewKb_no hmem hn
        generalize P[k] = x at *
        obtain ⟨xn, xh, xv⟩ := x
        simp only at hcell0 hcell2 HST HNO
        clear hc hc0 hc2 hmem hf
        by_cases h1 : xn.size ≤ bd
        · have h1i : ¬ bq < (xn.size : Int) := by have := HBQ.out; omega
          by_cases h2 : xv.size ≤ bd
          · have h2i : ¬ bq < (xv.size : Int) := by have := HBQ.out; omega
            have HN := Lib.hid (HST.out ⟨h1, h2⟩)
            clear h1 h2 HST HNO
            go_wp2_with fail
            go_roundw
            case rel => exact ⟨k + 1, by omega, by omega, by go_num, HN.out, HB.out⟩
            case measure => simp [intOf]; omega
          · have h2i : bq < (xv.size : Int) := by have := HBQ.out; omega
            have HN := Lib.hid (HNO.out (fun q => h2 q.2))
            clear h1 h2 HST HNO
            go_wp2_with fail
            go_ret
            exact ⟨by rw [HN.out]; rfl, HB.out⟩
        · have h1i : bq < (xn.size : Int) := by have := HBQ.out; omega
          have HN := Lib.hid (HNO.out (fun q => h1 q.1))
          clear h1 HST HNO
          go_wp2_with fail
          go_ret
          exact ⟨by rw [HN.out]; rfl, HB.out⟩
      · have hi2 : ¬ (k : Int) ≤ mq := by have := HMQ.out; omega
        have hi3 : ¬ (P.length : Int) ≤ mq := by have := HMQ.out; omega
        have HN : Hid (fewKb m bd P = false) := by show _ = _; unfold fewKb; rw [decide_eq_false (by omega)]; rfl
        clear hf
        go_wp2_with fail
        go_ret
        exact ⟨by rw [HN.out]; rfl, HB.out⟩
    · have hi1 : ¬ (k : Int) < (P.length : Int) := by omega
      rw [List.take_of_length_le (by omega)] at hf
      by_cases hm : P.length ≤ m
      · have hi3 : (P.length : Int) ≤ mq := by have := HMQ.out; omega
        have HN : Hid (fewKb m bd P = true) := by
          show _ = _
          unfold fewKb
          rw [decide_eq_true hm, Bool.true_and, List.all_eq_true]
          intro x hx
          have := hf.out x hx
          simp only [Bool.and_eq_true, decide_eq_true_eq]
          exact this
        clear hf
        go_wp2_with fail
        go_ret
        exact ⟨by rw [HN.out]; rfl, HB.out⟩
      · have hi3 : ¬ (P.length : Int) ≤ mq := by have := HMQ.out; omega
        have HN : Hid (fewKb m bd P = false) := by show _ = _; unfold fewKb; rw [decide_eq_false hm]; rfl
        clear hf
        go_wp2_with fail
        go_ret
        exact ⟨by rw [HN.out]; rfl, HB.out⟩

def fewS (bd : Nat) (x : Sv) : Bool := fwRb bd x.s && fewKb 70 bd x.p
def fewV (m bd : Nat) (L : List Sd) : Bool := decide (L.length ≤ m) && L.all fun y => fewS bd y.x
theorem fewV_no {m bd : Nat} {L : List Sd} {y : Sd} (hy : y ∈ L) (h : fewS bd y.x = false) : fewV m bd L = false := by
  unfold fewV
  rw [Bool.and_eq_false_iff]
  right
  rw [List.all_eq_false]
  exact ⟨y, hy, by rw [h]; decide⟩
theorem fewV_yes {m bd : Nat} {L : List Sd} (h : fewV m bd L = true) : L.length ≤ m ∧ ∀ y ∈ L, fewS bd y.x = true := by
  unfold fewV at h
  rw [Bool.and_eq_true, decide_eq_true_eq, List.all_eq_true] at h
  exact h

set_option maxHeartbeats 8000000 in
set_option maxRecDepth 100000 in
theorem r_fewV (m bd : Nat) (mq bq : Int) (HMQ : Hid (mq = (m : Int))) (HBQ : Hid (bq = (bd : Int))) (hm1 : m ≤ 1000) (A : Option Addr) (n c : Nat) (L : List Sd) (w : World) (h : SlD w A n c L) :
    Calls Tryd.prog 8 #[.slice A n c, .int .i64 mq, .int .i64 bq] w fun e w' => e = .returned (.bool (fewV m bd L)) ∧ Below w.heap.size w w' := by
  have hlen := h.len
  have hle := h.le
  unfold maxLen at hle
  subst hlen
  go_enter Tryd.func8, Tryd.ntmps8
  go_wp2_with fail
  go_loopw [7] (fun i wr => ∃ k : Nat, k ≤ L.length ∧ k ≤ m + 1 ∧ i = .int .i64 k ∧ Hid (∀ y ∈ L.take k, fewS bd y.x = true) ∧ Hid (Below w.heap.size w wr)) (fun i _ => L.length - (intOf i).toNat)
  case atStart => exact ⟨0, Nat.zero_le _, Nat.zero_le _, rfl, (fun x hx => absurd hx (by simp)), Below.refl _ _⟩
  case round =>
    obtain ⟨k, hk, hk31, rfl, hf, HB⟩ := hrel
    have hi0 : (0 : Int) ≤ (k : Int) := by omega
    by_cases hlt : k < L.length
    · have hi1 : (k : Int) < (L.length : Int) := by omega
      by_cases hm : k ≤ m
      · have hi2 : (k : Int) ≤ mq := by have := HMQ.out; omega
        have hw := h.below HB.out
        obtain ⟨ad, rfl, _⟩ := h.at_ (by omega)
        have E := Lib.hid (hw.elem hlt)
        have hy := hw.all _ (List.getElem_mem hlt)
        have hmem : L[k] ∈ L := List.getElem_mem hlt
        have HST : Hid (fewS bd L[k].x = true → ∀ y ∈ L.take (k + 1), fewS bd y.x = true) := fun hx y hm0 => by
          rw [List.take_succ_eq_append_getElem hlt, List.mem_append, List.mem_singleton] at hm0
          rcases hm0 with hm0 | rfl
          · exact hf.out y hm0
          · exact hx
        have HNO : Hid (fewS bd L[k].x = false → fewV m bd L = false) := fun hn => fewV_no hmem hn
        generalize L[k] = y at *
        have C1 := Lib.hid (r_fewRb bd bq HBQ y.x.s y.fa y.fc wr hy.f)
        have C2 := Lib.hid (fun W (hb : Below wr.heap.size wr W) => r_fewKb 70 bd 70 bq rfl HBQ (by decide) y.pa y.x.p.length y.pc y.x.p W (hy.k.below hb))
        obtain ⟨⟨⟨sc, sr, sv, f, sb, st⟩, p⟩, fa, fc, pa, pc⟩ := y
        have hD : fewS bd ⟨⟨sc, sr, sv, f, sb, st⟩, p⟩ = (fwRb bd ⟨sc, sr, sv, f, sb, st⟩ && fewKb 70 bd p) := rfl
        unfold srC at C1
        simp only at C1 C2 E HST HNO
        rw [hD] at HST HNO
        clear hw hy hmem hf hD
        obtain ⟨c0, c1, c2, c3, c4, c5, c6⟩ := E.out
        cases h1 : fwRb bd ⟨sc, sr, sv, f, sb, st⟩ with
        | false =>
          rw [h1] at C1 HNO
          have HN := Lib.hid (HNO.out rfl)
          clear h1 HST HNO C2 E
          go_wp2_with fail
          refine C1.out.mono ?_
          rintro e w2 ⟨rfl, hb⟩
          have HB := Lib.hid (below_then HB.out hb)
          clear hb c0 c1 c2 c3 c4 c5 c6
          go_wp2_with fail
          go_ret
          exact ⟨by rw [HN.out]; rfl, HB.out⟩
        | true =>
          rw [h1] at C1 HNO HST
          cases h2 : fewKb 70 bd p with
          | false =>
            rw [h2] at C2 HNO
            have HN := Lib.hid (HNO.out rfl)
            clear h1 h2 HST HNO
            go_wp2_with fail
            refine C1.out.mono ?_
            rintro e w2 ⟨rfl, hb⟩
            have HB2 := Lib.hid (below_then HB.out hb)
            have CC := Lib.hid (C2.out w2 hb)
            replace c6 := cell_kept hb c6
            clear hb c0 c1 c2 c3 c4 c5 E C2
            go_wp2_with fail
            refine CC.out.mono ?_
            rintro e w3 ⟨rfl, hb⟩
            have HB3 := Lib.hid (below_then HB2.out hb)
            clear hb c6
            go_wp2_with fail
            go_ret
            exact ⟨by rw [HN.out]; rfl, HB3.out⟩
          | true =>
            rw [h2] at C2 HST
            have HN := Lib.hid (HST.out rfl)
            clear h1 h2 HST HNO
            go_wp2_with fail
            refine C1.out.mono ?_
            rintro e w2 ⟨rfl, hb⟩
            have HB2 := Lib.hid (below_then HB.out hb)
            have CC := Lib.hid (C2.out w2 hb)
            replace c6 := cell_kept hb c6
            clear hb c0 c1 c2 c3 c4 c5 E C2
            go_wp2_with fail
            refine CC.out.mono ?_
            rintro e w3 ⟨rfl, hb⟩
            have HB3 := Lib.hid (below_then HB2.out hb)
            clear hb c6
            go_wp2_with fail
            go_roundw
            case rel => exact ⟨k + 1, by omega, by omega, by go_num, HN.out, HB3.out⟩
            case measure => simp [intOf]; omega
      · have hi2 : ¬ (k : Int) ≤ mq := by have := HMQ.out; omega
        have hi3 : ¬ (L.length : Int) ≤ mq := by have := HMQ.out; omega
        have HN : Hid (fewV m bd L = false) := by show _ = _; unfold fewV; rw [decide_eq_false (by omega)]; rfl
        clear hf
        go_wp2_with fail
        go_ret
        exact ⟨by rw [HN.out]; rfl, HB.out⟩
    · have hi1 : ¬ (k : Int) < (L.length : Int) := by omega
      rw [List.take_of_length_le (by omega)] at hf
      by_cases hm : L.length ≤ m
      · have hi3 : (L.length : Int) ≤ mq := by have := HMQ.out; omega
        have HN : Hid (fewV m bd L = true) := by
          show _ = _
          unfold fewV
          rw [decide_eq_true hm, Bool.true_and, List.all_eq_true]
          exact hf.out
        clear hf
        go_wp2_with fail
        go_ret
        exact ⟨by rw [HN.out]; rfl, HB.out⟩
      · have hi3 : ¬ (L.length : Int) ≤ mq := by have := HMQ.out; omega
        have HN : Hid (fewV m bd L = false) := by show _ = _; unfold fewV; rw [decide_eq_false hm]; rfl
        clear hf
        go_wp2_with fail
        go_ret
        exact ⟨by rw [HN.out]; rfl, HB.out⟩

end Go.Proofs.YthhlcecojeaalaaDoor
end

/-
  Plain facts of layer 20: sizes of what is decoded.
-/
section
namespace Go.Proofs.YthhlcecojeaalaaDoor
open Go.RowKit
set_option linter.unusedSimpArgs false

theorem vd_len (l : List UInt8) : (vdL l).length ≤ 4 ∧ ∀ x ∈ vdL l, x.s.f.length ≤ 64 ∧ x.p.length ≤ 64 := by
  by_cases h : vdE l = 0
  · obtain ⟨h1, h2⟩ := (vd_only h).1
    refine ⟨h1, fun x hx => ?_⟩
    obtain ⟨_, _, _, _, h3, _, h4⟩ := h2 x hx
    exact ⟨h3.1, h4.1⟩
  · rw [vd_none h]
    exact ⟨by decide, fun x hx => by cases hx⟩
theorem few_ok {bd : Nat} {x : Sv} (h : fewS bd x = true) (hb : bd ≤ 1000) : FwE x ∧ FwP x.p := by
  unfold fewS at h
  rw [Bool.and_eq_true] at h
  obtain ⟨⟨h1, h2⟩, h3, h4⟩ := fwRb_yes h.1
  obtain ⟨h5, h6⟩ := fewKb_yes h.2
  exact ⟨⟨by omega, by omega, h3, fun y hy => by have := h4 y hy; omega, h5, fun y hy => by have := h6 y hy; omega⟩, by omega, fun y hy => by have := h6 y hy; omega⟩

theorem fmap_le {α : Type} (f : α → List UInt8) {B : Nat} : ∀ (L : List α), (∀ x ∈ L, (f x).length ≤ B) → (L.flatMap f).length ≤ L.length * B
  | [], _ => by simp
  | a :: L, h => by
    have h1 := fmap_le f L fun x hx => h x (List.mem_cons_of_mem _ hx)
    have h2 := h a (List.mem_cons_self ..)
    rw [List.flatMap_cons, List.length_append, List.length_cons, Nat.add_mul]
    omega
theorem fmap_ge {α : Type} (f : α → List UInt8) : ∀ (L : List α) (x : α), x ∈ L → (f x).length ≤ (L.flatMap f).length
  | a :: L, x, h => by
    rw [List.flatMap_cons, List.length_append]
    rcases List.mem_cons.1 h with rfl | h
    · omega
    · have := fmap_ge f L x h; omega
theorem txtQ_len (s : ByteArray) : (txtQ s).length = 4 + s.size := by unfold txtQ; rw [List.length_append, leL_len, Lib.size_eq]
theorem numQ_len (k : Nat) (n : Int) : (numQ k n).length = k := leL_len _ _
theorem fldQ_len (f : Fd) : (fldQ f).length = 8 + f.1.size + f.2.size := by unfold fldQ; rw [List.length_append, txtQ_len, txtQ_len]; omega
theorem pckQ_len (p : Pk) : (pckQ p).length = 9 + p.n.size + p.v.size := by
  unfold pckQ flgQ
  rw [List.length_append, List.length_append, txtQ_len, txtQ_len, numQ_len]; omega
theorem stoQ_len (y : Sv) : (stoQ y).length = 18 + y.s.r.size + y.s.b.size + (y.s.f.flatMap fldQ).length + (y.p.flatMap pckQ).length := by
  unfold stoQ lstQ
  simp only [List.length_append, txtQ_len, numQ_len]
  omega
/-- What is decoded of few bytes is small. -/
theorem vd_fwe {l : List UInt8} (h : vdE l = 0) (hl : l.length ≤ 3000) : ∀ x ∈ vdL l, FwE x := fun x hx => by
  obtain ⟨⟨_, h2⟩, h3⟩ := vd_only h
  have h4 : (stoQ x).length ≤ 3000 := by
    have := fmap_ge stoQ (vdL l) x hx
    rw [h3] at hl
    unfold vntQ at hl
    rw [List.length_append] at hl
    omega
  rw [stoQ_len] at h4
  obtain ⟨_, _, _, _, ⟨g1, _⟩, _, ⟨g2, _⟩⟩ := h2 x hx
  refine ⟨by omega, by omega, by omega, fun y hy => ?_, by omega, fun y hy => ?_⟩
  · have := fmap_ge fldQ x.s.f y hy
    rw [fldQ_len] at this
    omega
  · have := fmap_ge pckQ x.p y hy
    rw [pckQ_len] at this
    omega
/-- What few stored replies are encoded as is not long. -/
theorem vq_len {L : List Sd} (h : fewV 6 300 L = true) (ho : vntO (L.map fun z => z.x)) : (vntQ (L.map fun z => z.x)).length ≤ 1000000 := by
  have hs : ∀ x ∈ L.map (fun z => z.x), (stoQ x).length ≤ 100000 := fun x hx => by
    obtain ⟨y, hy, rfl⟩ := List.mem_map.1 hx
    have hf := (fewV_yes h).2 y hy
    unfold fewS at hf
    rw [Bool.and_eq_true] at hf
    obtain ⟨⟨h1, h2⟩, h3, h4⟩ := fwRb_yes hf.1
    obtain ⟨h5, h6⟩ := fewKb_yes hf.2
    rw [stoQ_len]
    have g1 := fmap_le fldQ (B := 608) y.x.s.f fun z hz => by have := h4 z hz; rw [fldQ_len]; omega
    have g2 := fmap_le pckQ (B := 609) y.x.p fun z hz => by have := h6 z hz; rw [pckQ_len]; omega
    have g3 := Nat.mul_le_mul_right 608 h3
    have g4 := Nat.mul_le_mul_right 609 h5
    omega
  have g := fmap_le stoQ _ hs
  have g2 := Nat.mul_le_mul_right 100000 ho.1
  unfold vntQ
  rw [List.length_append, numQ_len]
  omega

theorem SlD.single (w : World) (t : TypeId) (y : Sd) (h : SdAt w y) (hz : y.x.s.r.size ≤ maxLen ∧ y.x.s.b.size ≤ maxLen) : SlD (w.alloc (.cells (sdA y) t)) (some ⟨w.heap.size, 0, none⟩) 1 1 [y] := by
  obtain ⟨A, c, q, hs⟩ := SlD.of_own (OwnD.one w t y (Nat.le_refl _)) (fun z hz => by rw [List.mem_singleton] at hz; subst hz; exact h.keep fun _ _ hu => Lib.cell?_alloc_some _ hu) (fun z hz' => by rw [List.mem_singleton] at hz'; subst hz'; exact hz)
  simp only [Value.slice.injEq] at q
  obtain ⟨rfl, _, rfl⟩ := q
  exact hs

/-- Picks lie apart from a stored reply's cells: no cell of those is a bool. -/
theorem SlK.disS {w : World} {A : Option Addr} {n c g t : Nat} {K : List Pk} {x0 x2 x5 : Int} {x1 x4 : ByteArray} {X3 X6 : Option Addr} {a3 b3 a6 b6 : Nat} (h : SlK w A n c K)
    (hg : w.heap[g]? = some (.cells #[.int .i64 x0, .string x1, .int .i64 x2, .slice X3 a3 b3, .string x4, .int .i64 x5, .slice X6 a6 b6] t (0, 0))) : DisA A n g := fun hn ad e hb => by
  obtain ⟨ad', e', hc⟩ := h.at_ hn
  rw [e] at e'
  cases e'
  have hl : 0 < K.length := by have := h.len; omega
  have h1 := (hc 0 K[0] (List.getElem?_eq_getElem hl)).2.1
  rw [Nat.zero_mul, Nat.zero_add, Addr.add_succ' ad 0] at h1
  simp only [World.cell?, hb, hg] at h1
  rcases hk : ad.off with _ | _ | _ | _ | _ | _ | k
  · rw [hk] at h1; simp at h1
  · rw [hk] at h1; simp at h1
  · rw [hk] at h1; simp at h1
  · rw [hk] at h1; simp at h1
  · rw [hk] at h1; simp at h1
  · rw [hk] at h1; simp at h1
  · rw [hk] at h1; simp at h1
theorem SlD.el0 {w : World} {ad : Addr} {n c : Nat} {y : Sd} {T : List Sd} (h : SlD w (some ad) n c (y :: T)) : ElD w ad y := by
  have h0 := h.el (j := 0) (by simp)
  rwa [Nat.zero_mul, Addr.add_zero'] at h0

end Go.Proofs.YthhlcecojeaalaaDoor
end

/-
  Plain facts of layer 20: what is added is found first, others are found as they were.
-/
section
namespace Go.Proofs.YthhlcecojeaalaaDoor
open Go.RowKit
set_option linter.unusedSimpArgs false

theorem bytes_eq {a b : ByteArray} (h : (a.toList == b.toList) = true) : a = b := by
  rw [beq_iff_eq, Lib.toList_data, Lib.toList_data] at h
  obtain ⟨x⟩ := a
  obtain ⟨y⟩ := b
  have : x = y := Array.ext' h
  rw [this]
theorem pkE_eq {x y : Pk} (h : pkE x y = true) : x = y := by
  unfold pkE at h
  rw [Bool.and_eq_true, Bool.and_eq_true] at h
  obtain ⟨⟨h1, h2⟩, h3⟩ := h
  obtain ⟨n, hh, v⟩ := x
  obtain ⟨n', hh', v'⟩ := y
  have e1 := bytes_eq h1
  have e2 := beq_iff_eq.1 h2
  have e3 := bytes_eq h3
  simp only at e1 e2 e3
  rw [e1, e2, e3]
theorem pks_eq : ∀ {P Q : List Pk}, pksB P Q = true → P = Q
  | [], [], _ => rfl
  | [], _ :: _, h => by cases h
  | _ :: _, [], h => by cases h
  | x :: P, y :: Q, h => by
    have h : (pkE x y && pksB P Q) = true := h
    rw [Bool.and_eq_true] at h
    rw [pkE_eq h.1, pks_eq h.2]
theorem findN_filter (F : List Fd) (q : Sv → Bool) : ∀ Z : List Sv, (∀ x ∈ Z, pkM x.p F = true → q x = true) →
    (findN F Z = none → findN F (Z.filter q) = none) ∧ ∀ a, findN F Z = some a → ∃ x, Z[a]? = some x ∧ findN F (Z.filter q) = some ((Z.take a).filter q).length ∧ (Z.filter q)[((Z.take a).filter q).length]? = some x
  | [], _ => ⟨fun _ => rfl, fun a h => by cases h⟩
  | x :: r, hq => by
    obtain ⟨i1, i2⟩ := findN_filter F q r fun y hy => hq y (List.mem_cons_of_mem _ hy)
    have hu : ∀ (y : Sv) (t : List Sv), findN F (y :: t) = if pkM y.p F = true then some 0 else (findN F t).map fun k => k + 1 := fun y t => rfl
    cases hx : pkM x.p F with
    | true =>
      have hqx := hq x (List.mem_cons_self ..) hx
      refine ⟨(fun h => by rw [hu, if_pos hx] at h; cases h), fun a h => ?_⟩
      rw [hu, if_pos hx] at h
      cases h
      refine ⟨x, rfl, ?_, ?_⟩
      · rw [List.filter_cons, if_pos hqx, hu, if_pos hx]; rfl
      · rw [List.filter_cons, if_pos hqx]; rfl
    | false =>
      have hx' : ¬ pkM x.p F = true := by rw [hx]; simp
      refine ⟨fun h => ?_, fun a h => ?_⟩
      · rw [hu, if_neg hx'] at h
        have h0 : findN F r = none := Option.map_eq_none_iff.1 h
        rw [List.filter_cons]
        split
        · rw [hu, if_neg hx', i1 h0]; rfl
        · exact i1 h0
      · rw [hu, if_neg hx'] at h
        cases hr : findN F r with
        | none => rw [hr] at h; cases h
        | some k =>
          rw [hr] at h
          cases h
          obtain ⟨y, g1, g2, g3⟩ := i2 k hr
          refine ⟨y, g1, ?_, ?_⟩
          · rw [List.filter_cons, List.take_succ_cons, List.filter_cons]
            split
            · rw [hu, if_neg hx', g2]; rfl
            · exact g2
          · rw [List.filter_cons, List.take_succ_cons, List.filter_cons]
            split
            · exact g3
            · exact g3
theorem findN_take (F : List Fd) : ∀ (Z : List Sv) (k : Nat), findN F (Z.take k) = match findN F Z with | some c => if c < k then some c else none | none => none
  | [], k => by cases k <;> rfl
  | x :: r, 0 => by
    show none = _
    cases findN F (x :: r) <;> rfl
  | x :: r, k + 1 => by
    have hu : ∀ (y : Sv) (t : List Sv), findN F (y :: t) = if pkM y.p F = true then some 0 else (findN F t).map fun k => k + 1 := fun y t => rfl
    rw [List.take_succ_cons, hu, hu, findN_take F r k]
    by_cases hx : pkM x.p F = true
    · rw [if_pos hx, if_pos hx]
      simp
    · rw [if_neg hx, if_neg hx]
      cases findN F r with
      | none => rfl
      | some c =>
        show Option.map _ (if c < k then some c else none) = if c + 1 < k + 1 then some (c + 1) else none
        by_cases hc : c < k
        · rw [if_pos hc, if_pos (by omega)]; rfl
        · rw [if_neg hc, if_neg (by omega)]; rfl
theorem verF_none {l : List Sv} {F : List Fd} (h : findN F l = none) : verF l F = -1 := by unfold verF; rw [h]
theorem verF_some {l : List Sv} {F : List Fd} {k : Nat} (h : findN F l = some k) : verF l F = k := by unfold verF; rw [h]
/-- What is added stands first, .. -/
theorem addV_cons (Z : List Sv) (s : Sv) : addV Z s = s :: (Z.filter fun x => !pksB x.p s.p).take 3 := rfl
theorem add_first (Z : List Sv) (s : Sv) {F : List Fd} (h : pkM s.p F = true) : verF (addV Z s) F = 0 := by
  rw [addV_cons]
  unfold verF findN
  rw [if_pos h]; rfl
theorem add_len (Z : List Sv) (s : Sv) : 0 < (addV Z s).length ∧ (addV Z s).length ≤ 4 := by
  rw [addV_cons, List.length_cons, List.length_take]; omega
/-- .. no other has its picks, .. -/
theorem add_apart (Z : List Sv) (s : Sv) : ∀ (i : Nat) (x : Sv), (addV Z s)[i + 1]? = some x → pksB x.p s.p = false := fun i x h => by
  rw [addV_cons, List.getElem?_cons_succ] at h
  have := (List.mem_filter.1 (List.mem_of_mem_take (List.mem_of_getElem? h))).2
  simpa using this
/-- .. and others are found as they were, if they are there still. -/
theorem add_other (Z : List Sv) (s : Sv) (F : List Fd) (h : pkM s.p F = false) :
    (verF (addV Z s) F < 0 ∧ (verF Z F < 0 ∨ ((addV Z s).length = 4 ∧ 3 ≤ verF Z F))) ∨
    ∃ a b : Nat, ∃ x, verF Z F = a ∧ verF (addV Z s) F = b ∧ Z[a]? = some x ∧ (addV Z s)[b]? = some x := by
  have hq : ∀ x ∈ Z, pkM x.p F = true → (!pksB x.p s.p) = true := fun x _ hx => by
    cases hp : pksB x.p s.p with
    | false => rfl
    | true => rw [pks_eq hp, h] at hx; cases hx
  obtain ⟨h1, h2⟩ := findN_filter F (fun x => !pksB x.p s.p) Z hq
  have hu : findN F (addV Z s) = (findN F ((Z.filter fun x => !pksB x.p s.p).take 3)).map fun k => k + 1 := by
    rw [addV_cons]
    show (if pkM s.p F = true then some 0 else _) = _
    rw [if_neg (by rw [h]; simp)]
  rw [findN_take] at hu
  cases hz : findN F Z with
  | none =>
    rw [h1 hz] at hu
    exact .inl ⟨by rw [verF_none hu]; decide, .inl (by rw [verF_none hz]; decide)⟩
  | some a =>
    obtain ⟨x, g1, g2, g3⟩ := h2 a hz
    rw [g2] at hu
    have hle : ((Z.take a).filter fun x => !pksB x.p s.p).length ≤ a := Nat.le_trans (List.length_filter_le _ _) (by rw [List.length_take]; omega)
    generalize ((Z.take a).filter fun x => !pksB x.p s.p).length = c at *
    by_cases hc : c < 3
    · right
      have hu : findN F (addV Z s) = some (c + 1) := by rw [hu]; show Option.map _ (if c < 3 then some c else none) = _; rw [if_pos hc]; rfl
      refine ⟨a, c + 1, x, verF_some hz, verF_some hu, g1, ?_⟩
      rw [addV_cons, List.getElem?_cons_succ, List.getElem?_take, if_pos hc]
      exact g3
    · left
      have hu : findN F (addV Z s) = none := by rw [hu]; show Option.map _ (if c < 3 then some c else none) = _; rw [if_neg hc]; rfl
      refine ⟨by rw [verF_none hu]; decide, .inr ⟨?_, by rw [verF_some hz]; omega⟩⟩
      have := (List.getElem?_eq_some_iff.1 g3).1
      rw [addV_cons, List.length_cons, List.length_take]
      omega

end Go.Proofs.YthhlcecojeaalaaDoor
end
