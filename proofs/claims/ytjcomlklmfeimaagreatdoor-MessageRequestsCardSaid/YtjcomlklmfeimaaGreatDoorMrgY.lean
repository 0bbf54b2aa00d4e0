/-
  Texts that the laws of this seat lean on, one behind the other.
-/
import Derived.Test.YtjcomlklmfeimaaGreatDoorMrgX
import Derived.Test.YtjcomlklmfeimaaGreatDoorMrgW
import Derived.Test.YtjcomlklmfeimaaGreatDoorMrgE
import Derived.Test.YtjcomlklmfeimaaGreatDoorMrgV
import Derived.Test.YtjcomlklmfeimaaGreatDoorMrgB
/-
  Contracts of the reference's fits, CheckRequest, CheckReply (layer 12).
-/
section
namespace Go.Proofs.YtjcomlklmfeimaaGreatDoor
open Go.RowKit

theorem bd_of {L : List Fd} (h : SmlF L) : ∀ x ∈ L, Bd x := fun x hx => by
  have := h.2 x hx
  exact ⟨by omega, by omega⟩
theorem r_fits (A : Option Addr) (n c : Nat) (L : List Fd) (w : World) (h : SlF w A n c L) (hm : SmlF L) :
    Calls Tryz.prog 57 #[.slice A n c] w fun e w' => e = .returned (.int .i64 (ftE L)) ∧ Below w.heap.size w w' := by
  have hlen := h.len
  subst hlen
  have C1 := Lib.hid (fun W (hW : Below w.heap.size w W) => rf_check A _ c L W (h.below hW) (by have := hm.1; omega) (bd_of hm))
  have C2 := Lib.hid (fun W => r_framing W)
  have C3 := Lib.hid (fun W B (hW : Below w.heap.size w W) (h2 : SlS W B 3 3 frm) => rf_drop A B _ c 3 3 L frm W (h.below hW) (by have := hm.1; omega) h2 frm_le (by omega))
  have hD : ftE L = if chkN L ≠ 0 then chkN L else if (fdDrop L frm).length ≠ L.length then 21 else 0 := rfl
  generalize ftE L = R at *
  generalize chkN L = E at *
  generalize fdDrop L frm = FD at *
  clear h hm
  by_cases hE : E = 0
  · rw [if_neg (by simp [hE])] at hD
    subst hE
    by_cases hl : FD.length = L.length
    · have HR : Hid (R = 0) := by show _ = _; rw [hD, if_neg (by simp [hl])]
      have hl' : (FD.length : Int) = (L.length : Int) := by omega
      clear hD
      go_enter Tryz.func57, Tryz.ntmps57
      go_wp2_with fail
      refine (C1.out _ (Below.refl _ _)).mono ?_
      rintro e w1 ⟨rfl, hb1⟩
      have HB := Lib.hid hb1
      go_wp2_with fail
      refine (C2.out _).mono ?_
      rintro e w2 ⟨B, rfl, hS, hb2⟩
      have HB := Lib.hid (below_then HB.out hb2)
      go_wp2_with fail
      refine (C3.out _ _ HB.out hS).mono ?_
      rintro e w3 ⟨v, rfl, ho, hb3⟩
      have HB := Lib.hid (below_then HB.out hb3)
      obtain ⟨A7, c7, rfl⟩ := ho.form
      clear hb1 hb2 hb3 ho hS
      go_wp2_with fail
      go_ret
      exact ⟨by rw [HR.out]; rfl, HB.out⟩
    · have HR : Hid (R = 21) := by show _ = _; rw [hD, if_pos hl]
      have hl' : ¬ (FD.length : Int) = (L.length : Int) := by omega
      clear hD
      go_enter Tryz.func57, Tryz.ntmps57
      go_wp2_with fail
      refine (C1.out _ (Below.refl _ _)).mono ?_
      rintro e w1 ⟨rfl, hb1⟩
      have HB := Lib.hid hb1
      go_wp2_with fail
      refine (C2.out _).mono ?_
      rintro e w2 ⟨B, rfl, hS, hb2⟩
      have HB := Lib.hid (below_then HB.out hb2)
      go_wp2_with fail
      refine (C3.out _ _ HB.out hS).mono ?_
      rintro e w3 ⟨v, rfl, ho, hb3⟩
      have HB := Lib.hid (below_then HB.out hb3)
      obtain ⟨A7, c7, rfl⟩ := ho.form
      clear hb1 hb2 hb3 ho hS
      go_wp2_with fail
      go_ret
      exact ⟨by rw [HR.out]; rfl, HB.out⟩
  · have HR : Hid (R = E) := by show _ = _; rw [hD, if_pos hE]
    clear hD C2 C3
    go_enter Tryz.func57, Tryz.ntmps57
    go_wp2_with fail
    refine (C1.out _ (Below.refl _ _)).mono ?_
    rintro e w1 ⟨rfl, hb1⟩
    go_wp2_with fail
    go_ret
    exact ⟨by rw [HR.out]; rfl, hb1⟩

set_option maxHeartbeats 32000000 in
set_option maxRecDepth 100000 in
theorem r_ckQ (r : Rqst) (A : Option Addr) (c : Nat) (w : World) (h : SlF w A r.f.length c r.f) (hm : SmlQ r) :
    Calls Tryz.prog 22 #[.agg (rqC r A c)] w fun e w' => e = .returned (.int .i64 (ckQ r)) ∧ Below w.heap.size w w' := by
  have hD : ckQ r = if r.v < 0 ∨ 1 < r.v then 20 else if lqB r = false then 20 else if ftE r.f ≠ 0 then ftE r.f else if hoB r.f r.v = false then 26
      else if 65536 < (pmQ r).size then 4 else if r.b.size ≠ 0 ∧ 64 ≤ r.f.length then 4 else 0 := rfl
  have hl : lqB r = (((rqE (prqS r.m r.t r.v) == 0) && ((rqA (prqS r.m r.t r.v)).toList == r.m.toList)) && ((rqB (prqS r.m r.t r.v)).toList == r.t.toList)) := rfl
  have C5 := Lib.hid (fun W A' c' (hW : SlF W A' r.f.length c' r.f) => r_pmQ r A' c' W hW hm)
  obtain ⟨g1, g2, g3, g4, g5, g6⟩ := hm
  have hp : (prqS r.m r.t r.v).size ≤ maxLen := by
    have := plainL_short r.v g5 g6
    have h2 : (1000000 : Nat) ≤ maxLen := by decide
    rw [Lib.size_eq, prq_list]
    simp only [List.length_append, List.length_cons, List.length_nil]
    rw [← Lib.size_eq, ← Lib.size_eq]
    omega
  have C1 := Lib.hid (fun W => r_printRequest r.m r.t r.v g5 g6 (by omega) (by omega) W)
  have C2 := Lib.hid (fun W => r_request (prqS r.m r.t r.v) W hp)
  have C3 := Lib.hid (fun W A' c' (hW : SlF W A' r.f.length c' r.f) => r_fits A' _ c' r.f W hW g4)
  have C4 := Lib.hid (fun W A' c' (hW : SlF W A' r.f.length c' r.f) => r_host A' _ c' r.f r.v W hW (by have := g4.1; omega))
  have hfl := g4.1
  unfold rqC at C5 ⊢
  obtain ⟨m, t, v, f, b⟩ := r
  simp only at *
  generalize prqS m t v = P at *
  generalize lqB ⟨m, t, v, f, b⟩ = lq at *
  generalize pmQ ⟨m, t, v, f, b⟩ = PM at *
  generalize ckQ ⟨m, t, v, f, b⟩ = R at *
  generalize rqA P = QA at *
  generalize rqB P = QB at *
  generalize rqV P = QV at *
  generalize rqE P = QE at *
  generalize ftE f = FE at *
  generalize hoB f v = ho at *
  have HZ : Hid ((w.alloc (.cells #[.string m, .string t, .int .i64 v, .slice A f.length c, .string b] 25)).heap[w.heap.size]? = some (.cells #[.string m, .string t, .int .i64 v, .slice A f.length c, .string b] 25 (0, 0))) := heap_alloc_new w _
  have HB : Hid (Below w.heap.size w (w.alloc (.cells #[.string m, .string t, .int .i64 v, .slice A f.length c, .string b] 25))) := (Below.refl _ _).alloc (Nat.le_refl _) _
  have HF : Hid (SlF (w.alloc (.cells #[.string m, .string t, .int .i64 v, .slice A f.length c, .string b] 25)) A f.length c f) := h.alloc _
  clear h g1 g2 g3 g4 g5 g6 hp
  by_cases hv0 : v < 0
  · skip
    have HR : Hid (R = 20) := by show _ = _; rw [hD, if_pos (.inl hv0)]
    clear hD hl C1 C2 C3 C4 C5
    go_enter Tryz.func22, Tryz.ntmps22
    obtain ⟨x0, x1, x2, x3, x4⟩ := cel5 HZ.out
    go_wp2_with fail
    go_ret
    exact ⟨by rw [HR.out]; rfl, HB.out⟩
  · by_cases hv1 : 1 < v
    · skip
      have HR : Hid (R = 20) := by show _ = _; rw [hD, if_pos (.inr hv1)]
      clear hD hl C1 C2 C3 C4 C5
      go_enter Tryz.func22, Tryz.ntmps22
      obtain ⟨x0, x1, x2, x3, x4⟩ := cel5 HZ.out
      go_wp2_with fail
      go_ret
      exact ⟨by rw [HR.out]; rfl, HB.out⟩
    · rw [if_neg (by omega)] at hD
      by_cases hQE : QE = 0
      · subst hQE
        rcases Bool.eq_false_or_eq_true (QA.toList == m.toList) with hA | hA
        · rcases Bool.eq_false_or_eq_true (QB.toList == t.toList) with hB | hB
          · have hlq : lq = true := by rw [hl, hA, hB]; rfl
            rw [if_neg (by simp [hlq])] at hD
            by_cases hFE : FE = 0
            · rw [if_neg (by simp [hFE])] at hD
              subst hFE
              cases ho with
              | false =>
                have HR : Hid (R = 26) := by show _ = _; rw [hD, if_pos rfl]
                clear hD hl hlq C5
                go_enter Tryz.func22, Tryz.ntmps22
                obtain ⟨x0, x1, x2, x3, x4⟩ := cel5 HZ.out
                go_wp2_with fail
                refine (C1.out _).mono ?_
                rintro e w1 ⟨rfl, hb⟩
                have HZ := Lib.hid (zero_still hb HZ.out)
                have HF := Lib.hid (HF.out.below hb)
                have HB := Lib.hid (below_then HB.out hb)
                obtain ⟨x0, x1, x2, x3, x4⟩ := cel5 HZ.out
                clear hb
                go_wp2_with fail
                refine (C2.out _).mono ?_
                rintro e w1 ⟨rfl, hb⟩
                have HZ := Lib.hid (zero_still hb HZ.out)
                have HF := Lib.hid (HF.out.below hb)
                have HB := Lib.hid (below_then HB.out hb)
                obtain ⟨x0, x1, x2, x3, x4⟩ := cel5 HZ.out
                clear hb
                go_wp2_with fail
                refine (C3.out _ _ _ HF.out).mono ?_
                rintro e w1 ⟨rfl, hb⟩
                have HZ := Lib.hid (zero_still hb HZ.out)
                have HF := Lib.hid (HF.out.below hb)
                have HB := Lib.hid (below_then HB.out hb)
                obtain ⟨x0, x1, x2, x3, x4⟩ := cel5 HZ.out
                clear hb
                go_wp2_with fail
                refine (C4.out _ _ _ HF.out).mono ?_
                rintro e w1 ⟨rfl, hb⟩
                have HZ := Lib.hid (zero_still hb HZ.out)
                have HF := Lib.hid (HF.out.below hb)
                have HB := Lib.hid (below_then HB.out hb)
                obtain ⟨x0, x1, x2, x3, x4⟩ := cel5 HZ.out
                clear hb
                go_wp2_with fail
                go_ret
                exact ⟨by rw [HR.out]; rfl, HB.out⟩
              | true =>
                rw [if_neg (by simp)] at hD
                by_cases hs : 65536 < PM.size
                · have hs' : (65536 : Int) < (PM.size : Int) := by omega
                  have HR : Hid (R = 4) := by show _ = _; rw [hD, if_pos hs]
                  clear hD hl hlq hs
                  go_enter Tryz.func22, Tryz.ntmps22
                  obtain ⟨x0, x1, x2, x3, x4⟩ := cel5 HZ.out
                  go_wp2_with fail
                  refine (C1.out _).mono ?_
                  rintro e w1 ⟨rfl, hb⟩
                  have HZ := Lib.hid (zero_still hb HZ.out)
                  have HF := Lib.hid (HF.out.below hb)
                  have HB := Lib.hid (below_then HB.out hb)
                  obtain ⟨x0, x1, x2, x3, x4⟩ := cel5 HZ.out
                  clear hb
                  go_wp2_with fail
                  refine (C2.out _).mono ?_
                  rintro e w1 ⟨rfl, hb⟩
                  have HZ := Lib.hid (zero_still hb HZ.out)
                  have HF := Lib.hid (HF.out.below hb)
                  have HB := Lib.hid (below_then HB.out hb)
                  obtain ⟨x0, x1, x2, x3, x4⟩ := cel5 HZ.out
                  clear hb
                  go_wp2_with fail
                  refine (C3.out _ _ _ HF.out).mono ?_
                  rintro e w1 ⟨rfl, hb⟩
                  have HZ := Lib.hid (zero_still hb HZ.out)
                  have HF := Lib.hid (HF.out.below hb)
                  have HB := Lib.hid (below_then HB.out hb)
                  obtain ⟨x0, x1, x2, x3, x4⟩ := cel5 HZ.out
                  clear hb
                  go_wp2_with fail
                  refine (C4.out _ _ _ HF.out).mono ?_
                  rintro e w1 ⟨rfl, hb⟩
                  have HZ := Lib.hid (zero_still hb HZ.out)
                  have HF := Lib.hid (HF.out.below hb)
                  have HB := Lib.hid (below_then HB.out hb)
                  obtain ⟨x0, x1, x2, x3, x4⟩ := cel5 HZ.out
                  clear hb
                  go_wp2_with (refine wpList_load_row rfl _ _ rfl w.heap.size rfl 25 #[.string m, .string t, .int .i64 v, .slice A f.length c, .string b] (0, 0) _ HZ.out Tryz.underlying25 rfl (by kernel_rfl) ?_)
                  refine (C5.out _ _ _ HF.out).mono ?_
                  rintro e w1 ⟨rfl, hb⟩
                  have HZ := Lib.hid (zero_still hb HZ.out)
                  have HF := Lib.hid (HF.out.below hb)
                  have HB := Lib.hid (below_then HB.out hb)
                  obtain ⟨x0, x1, x2, x3, x4⟩ := cel5 HZ.out
                  clear hb
                  go_wp2_with fail
                  go_ret
                  exact ⟨by rw [HR.out]; rfl, HB.out⟩
                · have hs' : ¬ (65536 : Int) < (PM.size : Int) := by omega
                  rw [if_neg hs] at hD
                  by_cases hz : b.size = 0
                  · have hem := nil_str hz
                    have hem' : (b.toList == []) = true := by simpa using hem
                    have HR : Hid (R = 0) := by show _ = _; rw [hD, if_neg (fun h => h.1 hz)]
                    clear hD hl hlq hs
                    go_enter Tryz.func22, Tryz.ntmps22
                    obtain ⟨x0, x1, x2, x3, x4⟩ := cel5 HZ.out
                    go_wp2_with fail
                    refine (C1.out _).mono ?_
                    rintro e w1 ⟨rfl, hb⟩
                    have HZ := Lib.hid (zero_still hb HZ.out)
                    have HF := Lib.hid (HF.out.below hb)
                    have HB := Lib.hid (below_then HB.out hb)
                    obtain ⟨x0, x1, x2, x3, x4⟩ := cel5 HZ.out
                    clear hb
                    go_wp2_with fail
                    refine (C2.out _).mono ?_
                    rintro e w1 ⟨rfl, hb⟩
                    have HZ := Lib.hid (zero_still hb HZ.out)
                    have HF := Lib.hid (HF.out.below hb)
                    have HB := Lib.hid (below_then HB.out hb)
                    obtain ⟨x0, x1, x2, x3, x4⟩ := cel5 HZ.out
                    clear hb
                    go_wp2_with fail
                    refine (C3.out _ _ _ HF.out).mono ?_
                    rintro e w1 ⟨rfl, hb⟩
                    have HZ := Lib.hid (zero_still hb HZ.out)
                    have HF := Lib.hid (HF.out.below hb)
                    have HB := Lib.hid (below_then HB.out hb)
                    obtain ⟨x0, x1, x2, x3, x4⟩ := cel5 HZ.out
                    clear hb
                    go_wp2_with fail
                    refine (C4.out _ _ _ HF.out).mono ?_
                    rintro e w1 ⟨rfl, hb⟩
                    have HZ := Lib.hid (zero_still hb HZ.out)
                    have HF := Lib.hid (HF.out.below hb)
                    have HB := Lib.hid (below_then HB.out hb)
                    obtain ⟨x0, x1, x2, x3, x4⟩ := cel5 HZ.out
                    clear hb
                    go_wp2_with (refine wpList_load_row rfl _ _ rfl w.heap.size rfl 25 #[.string m, .string t, .int .i64 v, .slice A f.length c, .string b] (0, 0) _ HZ.out Tryz.underlying25 rfl (by kernel_rfl) ?_)
                    refine (C5.out _ _ _ HF.out).mono ?_
                    rintro e w1 ⟨rfl, hb⟩
                    have HZ := Lib.hid (zero_still hb HZ.out)
                    have HF := Lib.hid (HF.out.below hb)
                    have HB := Lib.hid (below_then HB.out hb)
                    obtain ⟨x0, x1, x2, x3, x4⟩ := cel5 HZ.out
                    clear hb
                    go_wp2_with fail
                    go_ret
                    exact ⟨by rw [HR.out]; rfl, HB.out⟩
                  · have hem := non_str hz
                    have hem' : (b.toList == []) = false := by simpa using hem
                    by_cases h64 : 64 ≤ f.length
                    · have h64' : (64 : Int) ≤ (f.length : Int) := by omega
                      have HR : Hid (R = 4) := by show _ = _; rw [hD, if_pos ⟨hz, h64⟩]
                      clear hD hl hlq hs
                      go_enter Tryz.func22, Tryz.ntmps22
                      obtain ⟨x0, x1, x2, x3, x4⟩ := cel5 HZ.out
                      go_wp2_with fail
                      refine (C1.out _).mono ?_
                      rintro e w1 ⟨rfl, hb⟩
                      have HZ := Lib.hid (zero_still hb HZ.out)
                      have HF := Lib.hid (HF.out.below hb)
                      have HB := Lib.hid (below_then HB.out hb)
                      obtain ⟨x0, x1, x2, x3, x4⟩ := cel5 HZ.out
                      clear hb
                      go_wp2_with fail
                      refine (C2.out _).mono ?_
                      rintro e w1 ⟨rfl, hb⟩
                      have HZ := Lib.hid (zero_still hb HZ.out)
                      have HF := Lib.hid (HF.out.below hb)
                      have HB := Lib.hid (below_then HB.out hb)
                      obtain ⟨x0, x1, x2, x3, x4⟩ := cel5 HZ.out
                      clear hb
                      go_wp2_with fail
                      refine (C3.out _ _ _ HF.out).mono ?_
                      rintro e w1 ⟨rfl, hb⟩
                      have HZ := Lib.hid (zero_still hb HZ.out)
                      have HF := Lib.hid (HF.out.below hb)
                      have HB := Lib.hid (below_then HB.out hb)
                      obtain ⟨x0, x1, x2, x3, x4⟩ := cel5 HZ.out
                      clear hb
                      go_wp2_with fail
                      refine (C4.out _ _ _ HF.out).mono ?_
                      rintro e w1 ⟨rfl, hb⟩
                      have HZ := Lib.hid (zero_still hb HZ.out)
                      have HF := Lib.hid (HF.out.below hb)
                      have HB := Lib.hid (below_then HB.out hb)
                      obtain ⟨x0, x1, x2, x3, x4⟩ := cel5 HZ.out
                      clear hb
                      go_wp2_with (refine wpList_load_row rfl _ _ rfl w.heap.size rfl 25 #[.string m, .string t, .int .i64 v, .slice A f.length c, .string b] (0, 0) _ HZ.out Tryz.underlying25 rfl (by kernel_rfl) ?_)
                      refine (C5.out _ _ _ HF.out).mono ?_
                      rintro e w1 ⟨rfl, hb⟩
                      have HZ := Lib.hid (zero_still hb HZ.out)
                      have HF := Lib.hid (HF.out.below hb)
                      have HB := Lib.hid (below_then HB.out hb)
                      obtain ⟨x0, x1, x2, x3, x4⟩ := cel5 HZ.out
                      clear hb
                      go_wp2_with fail
                      go_ret
                      exact ⟨by rw [HR.out]; rfl, HB.out⟩
                    · have h64' : ¬ (64 : Int) ≤ (f.length : Int) := by omega
                      have HR : Hid (R = 0) := by show _ = _; rw [hD, if_neg (fun h => h64 h.2)]
                      clear hD hl hlq hs
                      go_enter Tryz.func22, Tryz.ntmps22
                      obtain ⟨x0, x1, x2, x3, x4⟩ := cel5 HZ.out
                      go_wp2_with fail
                      refine (C1.out _).mono ?_
                      rintro e w1 ⟨rfl, hb⟩
                      have HZ := Lib.hid (zero_still hb HZ.out)
                      have HF := Lib.hid (HF.out.below hb)
                      have HB := Lib.hid (below_then HB.out hb)
                      obtain ⟨x0, x1, x2, x3, x4⟩ := cel5 HZ.out
                      clear hb
                      go_wp2_with fail
                      refine (C2.out _).mono ?_
                      rintro e w1 ⟨rfl, hb⟩
                      have HZ := Lib.hid (zero_still hb HZ.out)
                      have HF := Lib.hid (HF.out.below hb)
                      have HB := Lib.hid (below_then HB.out hb)
                      obtain ⟨x0, x1, x2, x3, x4⟩ := cel5 HZ.out
                      clear hb
                      go_wp2_with fail
                      refine (C3.out _ _ _ HF.out).mono ?_
                      rintro e w1 ⟨rfl, hb⟩
                      have HZ := Lib.hid (zero_still hb HZ.out)
                      have HF := Lib.hid (HF.out.below hb)
                      have HB := Lib.hid (below_then HB.out hb)
                      obtain ⟨x0, x1, x2, x3, x4⟩ := cel5 HZ.out
                      clear hb
                      go_wp2_with fail
                      refine (C4.out _ _ _ HF.out).mono ?_
                      rintro e w1 ⟨rfl, hb⟩
                      have HZ := Lib.hid (zero_still hb HZ.out)
                      have HF := Lib.hid (HF.out.below hb)
                      have HB := Lib.hid (below_then HB.out hb)
                      obtain ⟨x0, x1, x2, x3, x4⟩ := cel5 HZ.out
                      clear hb
                      go_wp2_with (refine wpList_load_row rfl _ _ rfl w.heap.size rfl 25 #[.string m, .string t, .int .i64 v, .slice A f.length c, .string b] (0, 0) _ HZ.out Tryz.underlying25 rfl (by kernel_rfl) ?_)
                      refine (C5.out _ _ _ HF.out).mono ?_
                      rintro e w1 ⟨rfl, hb⟩
                      have HZ := Lib.hid (zero_still hb HZ.out)
                      have HF := Lib.hid (HF.out.below hb)
                      have HB := Lib.hid (below_then HB.out hb)
                      obtain ⟨x0, x1, x2, x3, x4⟩ := cel5 HZ.out
                      clear hb
                      go_wp2_with fail
                      go_ret
                      exact ⟨by rw [HR.out]; rfl, HB.out⟩
            · skip
              have HR : Hid (R = FE) := by show _ = _; rw [hD, if_pos hFE]
              clear hD hl hlq C4 C5
              go_enter Tryz.func22, Tryz.ntmps22
              obtain ⟨x0, x1, x2, x3, x4⟩ := cel5 HZ.out
              go_wp2_with fail
              refine (C1.out _).mono ?_
              rintro e w1 ⟨rfl, hb⟩
              have HZ := Lib.hid (zero_still hb HZ.out)
              have HF := Lib.hid (HF.out.below hb)
              have HB := Lib.hid (below_then HB.out hb)
              obtain ⟨x0, x1, x2, x3, x4⟩ := cel5 HZ.out
              clear hb
              go_wp2_with fail
              refine (C2.out _).mono ?_
              rintro e w1 ⟨rfl, hb⟩
              have HZ := Lib.hid (zero_still hb HZ.out)
              have HF := Lib.hid (HF.out.below hb)
              have HB := Lib.hid (below_then HB.out hb)
              obtain ⟨x0, x1, x2, x3, x4⟩ := cel5 HZ.out
              clear hb
              go_wp2_with fail
              refine (C3.out _ _ _ HF.out).mono ?_
              rintro e w1 ⟨rfl, hb⟩
              have HZ := Lib.hid (zero_still hb HZ.out)
              have HF := Lib.hid (HF.out.below hb)
              have HB := Lib.hid (below_then HB.out hb)
              obtain ⟨x0, x1, x2, x3, x4⟩ := cel5 HZ.out
              clear hb
              go_wp2_with fail
              go_ret
              exact ⟨by rw [HR.out]; rfl, HB.out⟩
          · have hlq : lq = false := by rw [hl, hB, Bool.and_false]
            have HR : Hid (R = 20) := by show _ = _; rw [hD, if_pos hlq]
            clear hD hl hlq C3 C4 C5
            go_enter Tryz.func22, Tryz.ntmps22
            obtain ⟨x0, x1, x2, x3, x4⟩ := cel5 HZ.out
            go_wp2_with fail
            refine (C1.out _).mono ?_
            rintro e w1 ⟨rfl, hb⟩
            have HZ := Lib.hid (zero_still hb HZ.out)
            have HF := Lib.hid (HF.out.below hb)
            have HB := Lib.hid (below_then HB.out hb)
            obtain ⟨x0, x1, x2, x3, x4⟩ := cel5 HZ.out
            clear hb
            go_wp2_with fail
            refine (C2.out _).mono ?_
            rintro e w1 ⟨rfl, hb⟩
            have HZ := Lib.hid (zero_still hb HZ.out)
            have HF := Lib.hid (HF.out.below hb)
            have HB := Lib.hid (below_then HB.out hb)
            obtain ⟨x0, x1, x2, x3, x4⟩ := cel5 HZ.out
            clear hb
            go_wp2_with fail
            go_ret
            exact ⟨by rw [HR.out]; rfl, HB.out⟩
        · have hlq : lq = false := by rw [hl, hA, Bool.and_false, Bool.false_and]
          have HR : Hid (R = 20) := by show _ = _; rw [hD, if_pos hlq]
          clear hD hl hlq C3 C4 C5
          go_enter Tryz.func22, Tryz.ntmps22
          obtain ⟨x0, x1, x2, x3, x4⟩ := cel5 HZ.out
          go_wp2_with fail
          refine (C1.out _).mono ?_
          rintro e w1 ⟨rfl, hb⟩
          have HZ := Lib.hid (zero_still hb HZ.out)
          have HF := Lib.hid (HF.out.below hb)
          have HB := Lib.hid (below_then HB.out hb)
          obtain ⟨x0, x1, x2, x3, x4⟩ := cel5 HZ.out
          clear hb
          go_wp2_with fail
          refine (C2.out _).mono ?_
          rintro e w1 ⟨rfl, hb⟩
          have HZ := Lib.hid (zero_still hb HZ.out)
          have HF := Lib.hid (HF.out.below hb)
          have HB := Lib.hid (below_then HB.out hb)
          obtain ⟨x0, x1, x2, x3, x4⟩ := cel5 HZ.out
          clear hb
          go_wp2_with fail
          go_ret
          exact ⟨by rw [HR.out]; rfl, HB.out⟩
      · have hlq : lq = false := by rw [hl, show (QE == 0) = false by simpa using hQE]; rfl
        have HR : Hid (R = 20) := by show _ = _; rw [hD, if_pos hlq]
        clear hD hl hlq C3 C4 C5
        go_enter Tryz.func22, Tryz.ntmps22
        obtain ⟨x0, x1, x2, x3, x4⟩ := cel5 HZ.out
        go_wp2_with fail
        refine (C1.out _).mono ?_
        rintro e w1 ⟨rfl, hb⟩
        have HZ := Lib.hid (zero_still hb HZ.out)
        have HF := Lib.hid (HF.out.below hb)
        have HB := Lib.hid (below_then HB.out hb)
        obtain ⟨x0, x1, x2, x3, x4⟩ := cel5 HZ.out
        clear hb
        go_wp2_with fail
        refine (C2.out _).mono ?_
        rintro e w1 ⟨rfl, hb⟩
        have HZ := Lib.hid (zero_still hb HZ.out)
        have HF := Lib.hid (HF.out.below hb)
        have HB := Lib.hid (below_then HB.out hb)
        obtain ⟨x0, x1, x2, x3, x4⟩ := cel5 HZ.out
        clear hb
        go_wp2_with fail
        go_ret
        exact ⟨by rw [HR.out]; rfl, HB.out⟩

set_option maxHeartbeats 32000000 in
set_option maxRecDepth 100000 in
theorem r_ckP (r : Rply) (A : Option Addr) (c : Nat) (w : World) (h : SlF w A r.f.length c r.f) (hm : SmlP r) :
    Calls Tryz.prog 24 #[.agg (rpC r A c)] w fun e w' => e = .returned (.int .i64 (ckP r)) ∧ Below w.heap.size w w' := by
  have hD : ckP r = if (r.v < 0 ∨ 1 < r.v) ∨ (r.c < 200 ∨ 599 < r.c) then 20 else if lpB r = false then 20 else if ftE r.f ≠ 0 then ftE r.f
      else if bodL r.c = true ∧ r.b.size ≠ 0 then 22 else if 65536 < (pmP r false).size then 4 else if bodL r.c = false ∧ 64 ≤ r.f.length then 4 else 0 := rfl
  have hl : lpB r = ((stE (pstS r.c r.r r.v) == 0) && ((stB (pstS r.c r.r r.v)).toList == r.r.toList)) := rfl
  have C5 := Lib.hid (fun W A' c' (hW : SlF W A' r.f.length c' r.f) => r_pmP r false A' c' W hW hm)
  obtain ⟨g1, g2, g4, ⟨g5, g6⟩, g7, g8⟩ := hm
  have hp : (pstS r.c r.r r.v).size ≤ maxLen := by
    have := plainL_short r.v g5 g6
    have := plainL_short r.c g7 g8
    have h2 : (1000000 : Nat) ≤ maxLen := by decide
    rw [Lib.size_eq, pst_list]
    simp only [List.length_append, List.length_cons, List.length_nil]
    rw [← Lib.size_eq]
    omega
  have C1 := Lib.hid (fun W => r_printStatus r.c r.r r.v g7 g8 g5 g6 (by omega) W)
  have C2 := Lib.hid (fun W => r_status (pstS r.c r.r r.v) W hp)
  have C3 := Lib.hid (fun W A' c' (hW : SlF W A' r.f.length c' r.f) => r_fits A' _ c' r.f W hW g4)
  have CB := Lib.hid (fun W => r_bodiless r.c W)
  have hfl := g4.1
  unfold rpC at C5 ⊢
  obtain ⟨m, t, v, f, b⟩ := r
  simp only at *
  generalize pstS m t v = P at *
  generalize lpB ⟨m, t, v, f, b⟩ = lq at *
  generalize pmP ⟨m, t, v, f, b⟩ false = PM at *
  generalize ckP ⟨m, t, v, f, b⟩ = R at *
  generalize stN P = QA at *
  generalize stB P = QB at *
  generalize stV' P = QV at *
  generalize stE P = QE at *
  generalize ftE f = FE at *
  generalize bodL m = bl at *
  have HZ : Hid ((w.alloc (.cells #[.int .i64 m, .string t, .int .i64 v, .slice A f.length c, .string b] 34)).heap[w.heap.size]? = some (.cells #[.int .i64 m, .string t, .int .i64 v, .slice A f.length c, .string b] 34 (0, 0))) := heap_alloc_new w _
  have HB : Hid (Below w.heap.size w (w.alloc (.cells #[.int .i64 m, .string t, .int .i64 v, .slice A f.length c, .string b] 34))) := (Below.refl _ _).alloc (Nat.le_refl _) _
  have HF : Hid (SlF (w.alloc (.cells #[.int .i64 m, .string t, .int .i64 v, .slice A f.length c, .string b] 34)) A f.length c f) := h.alloc _
  clear h g1 g2 g4 g5 g6 g7 g8 hp
  by_cases hv0 : v < 0
  · skip
    have HR : Hid (R = 20) := by show _ = _; rw [hD, if_pos (.inl (.inl hv0))]
    clear hD hl C1 C2 C3 CB C5
    go_enter Tryz.func24, Tryz.ntmps24
    obtain ⟨x0, x1, x2, x3, x4⟩ := cel5 HZ.out
    go_wp2_with fail
    go_ret
    exact ⟨by rw [HR.out]; rfl, HB.out⟩
  · by_cases hv1 : 1 < v
    · skip
      have HR : Hid (R = 20) := by show _ = _; rw [hD, if_pos (.inl (.inr hv1))]
      clear hD hl C1 C2 C3 CB C5
      go_enter Tryz.func24, Tryz.ntmps24
      obtain ⟨x0, x1, x2, x3, x4⟩ := cel5 HZ.out
      go_wp2_with fail
      go_ret
      exact ⟨by rw [HR.out]; rfl, HB.out⟩
    · by_cases hc0 : m < 200
      · skip
        have HR : Hid (R = 20) := by show _ = _; rw [hD, if_pos (.inr (.inl hc0))]
        clear hD hl C1 C2 C3 CB C5
        go_enter Tryz.func24, Tryz.ntmps24
        obtain ⟨x0, x1, x2, x3, x4⟩ := cel5 HZ.out
        go_wp2_with fail
        go_ret
        exact ⟨by rw [HR.out]; rfl, HB.out⟩
      · by_cases hc1 : 599 < m
        · skip
          have HR : Hid (R = 20) := by show _ = _; rw [hD, if_pos (.inr (.inr hc1))]
          clear hD hl C1 C2 C3 CB C5
          go_enter Tryz.func24, Tryz.ntmps24
          obtain ⟨x0, x1, x2, x3, x4⟩ := cel5 HZ.out
          go_wp2_with fail
          go_ret
          exact ⟨by rw [HR.out]; rfl, HB.out⟩
        · rw [if_neg (by omega)] at hD
          by_cases hQE : QE = 0
          · subst hQE
            rcases Bool.eq_false_or_eq_true (QB.toList == t.toList) with hB | hB
            · have hlq : lq = true := by rw [hl, hB]; rfl
              rw [if_neg (by simp [hlq])] at hD
              by_cases hFE : FE = 0
              · rw [if_neg (by simp [hFE])] at hD
                subst hFE
                cases bl with
                | true =>
                  by_cases hz : b.size = 0
                  · have hem := nil_str hz
                    have hem' : (b.toList == []) = true := by simpa using hem
                    rw [if_neg (fun h => h.2 hz)] at hD
                    by_cases hs : 65536 < PM.size
                    · have hs' : (65536 : Int) < (PM.size : Int) := by omega
                      have HR : Hid (R = 4) := by show _ = _; rw [hD, if_pos hs]
                      clear hD hl hlq hs
                      go_enter Tryz.func24, Tryz.ntmps24
                      obtain ⟨x0, x1, x2, x3, x4⟩ := cel5 HZ.out
                      go_wp2_with fail
                      refine (C1.out _).mono ?_
                      rintro e w1 ⟨rfl, hb⟩
                      have HZ := Lib.hid (zero_still hb HZ.out)
                      have HF := Lib.hid (HF.out.below hb)
                      have HB := Lib.hid (below_then HB.out hb)
                      obtain ⟨x0, x1, x2, x3, x4⟩ := cel5 HZ.out
                      clear hb
                      go_wp2_with fail
                      refine (C2.out _).mono ?_
                      rintro e w1 ⟨rfl, hb⟩
                      have HZ := Lib.hid (zero_still hb HZ.out)
                      have HF := Lib.hid (HF.out.below hb)
                      have HB := Lib.hid (below_then HB.out hb)
                      obtain ⟨x0, x1, x2, x3, x4⟩ := cel5 HZ.out
                      clear hb
                      go_wp2_with fail
                      refine (C3.out _ _ _ HF.out).mono ?_
                      rintro e w1 ⟨rfl, hb⟩
                      have HZ := Lib.hid (zero_still hb HZ.out)
                      have HF := Lib.hid (HF.out.below hb)
                      have HB := Lib.hid (below_then HB.out hb)
                      obtain ⟨x0, x1, x2, x3, x4⟩ := cel5 HZ.out
                      clear hb
                      go_wp2_with fail
                      refine (CB.out _).mono ?_
                      rintro e wb ⟨rfl, rfl⟩
                      go_wp2_with (refine wpList_load_row rfl _ _ rfl w.heap.size rfl 34 #[.int .i64 m, .string t, .int .i64 v, .slice A f.length c, .string b] (0, 0) _ HZ.out Tryz.underlying34 rfl (by kernel_rfl) ?_)
                      refine (C5.out _ _ _ HF.out).mono ?_
                      rintro e w1 ⟨rfl, hb⟩
                      have HZ := Lib.hid (zero_still hb HZ.out)
                      have HF := Lib.hid (HF.out.below hb)
                      have HB := Lib.hid (below_then HB.out hb)
                      obtain ⟨x0, x1, x2, x3, x4⟩ := cel5 HZ.out
                      clear hb
                      go_wp2_with fail
                      go_ret
                      exact ⟨by rw [HR.out]; rfl, HB.out⟩
                    · have hs' : ¬ (65536 : Int) < (PM.size : Int) := by omega
                      have HR : Hid (R = 0) := by show _ = _; rw [hD, if_neg hs, if_neg (by simp)]
                      clear hD hl hlq hs
                      go_enter Tryz.func24, Tryz.ntmps24
                      obtain ⟨x0, x1, x2, x3, x4⟩ := cel5 HZ.out
                      go_wp2_with fail
                      refine (C1.out _).mono ?_
                      rintro e w1 ⟨rfl, hb⟩
                      have HZ := Lib.hid (zero_still hb HZ.out)
                      have HF := Lib.hid (HF.out.below hb)
                      have HB := Lib.hid (below_then HB.out hb)
                      obtain ⟨x0, x1, x2, x3, x4⟩ := cel5 HZ.out
                      clear hb
                      go_wp2_with fail
                      refine (C2.out _).mono ?_
                      rintro e w1 ⟨rfl, hb⟩
                      have HZ := Lib.hid (zero_still hb HZ.out)
                      have HF := Lib.hid (HF.out.below hb)
                      have HB := Lib.hid (below_then HB.out hb)
                      obtain ⟨x0, x1, x2, x3, x4⟩ := cel5 HZ.out
                      clear hb
                      go_wp2_with fail
                      refine (C3.out _ _ _ HF.out).mono ?_
                      rintro e w1 ⟨rfl, hb⟩
                      have HZ := Lib.hid (zero_still hb HZ.out)
                      have HF := Lib.hid (HF.out.below hb)
                      have HB := Lib.hid (below_then HB.out hb)
                      obtain ⟨x0, x1, x2, x3, x4⟩ := cel5 HZ.out
                      clear hb
                      go_wp2_with fail
                      refine (CB.out _).mono ?_
                      rintro e wb ⟨rfl, rfl⟩
                      go_wp2_with (refine wpList_load_row rfl _ _ rfl w.heap.size rfl 34 #[.int .i64 m, .string t, .int .i64 v, .slice A f.length c, .string b] (0, 0) _ HZ.out Tryz.underlying34 rfl (by kernel_rfl) ?_)
                      refine (C5.out _ _ _ HF.out).mono ?_
                      rintro e w1 ⟨rfl, hb⟩
                      have HZ := Lib.hid (zero_still hb HZ.out)
                      have HF := Lib.hid (HF.out.below hb)
                      have HB := Lib.hid (below_then HB.out hb)
                      obtain ⟨x0, x1, x2, x3, x4⟩ := cel5 HZ.out
                      clear hb
                      go_wp2_with fail
                      refine (CB.out _).mono ?_
                      rintro e wb ⟨rfl, rfl⟩
                      go_wp2_with fail
                      go_ret
                      exact ⟨by rw [HR.out]; rfl, HB.out⟩
                  · have hem := non_str hz
                    have hem' : (b.toList == []) = false := by simpa using hem
                    have HR : Hid (R = 22) := by show _ = _; rw [hD, if_pos ⟨rfl, hz⟩]
                    clear hD hl hlq C5
                    go_enter Tryz.func24, Tryz.ntmps24
                    obtain ⟨x0, x1, x2, x3, x4⟩ := cel5 HZ.out
                    go_wp2_with fail
                    refine (C1.out _).mono ?_
                    rintro e w1 ⟨rfl, hb⟩
                    have HZ := Lib.hid (zero_still hb HZ.out)
                    have HF := Lib.hid (HF.out.below hb)
                    have HB := Lib.hid (below_then HB.out hb)
                    obtain ⟨x0, x1, x2, x3, x4⟩ := cel5 HZ.out
                    clear hb
                    go_wp2_with fail
                    refine (C2.out _).mono ?_
                    rintro e w1 ⟨rfl, hb⟩
                    have HZ := Lib.hid (zero_still hb HZ.out)
                    have HF := Lib.hid (HF.out.below hb)
                    have HB := Lib.hid (below_then HB.out hb)
                    obtain ⟨x0, x1, x2, x3, x4⟩ := cel5 HZ.out
                    clear hb
                    go_wp2_with fail
                    refine (C3.out _ _ _ HF.out).mono ?_
                    rintro e w1 ⟨rfl, hb⟩
                    have HZ := Lib.hid (zero_still hb HZ.out)
                    have HF := Lib.hid (HF.out.below hb)
                    have HB := Lib.hid (below_then HB.out hb)
                    obtain ⟨x0, x1, x2, x3, x4⟩ := cel5 HZ.out
                    clear hb
                    go_wp2_with fail
                    refine (CB.out _).mono ?_
                    rintro e wb ⟨rfl, rfl⟩
                    go_wp2_with fail
                    go_ret
                    exact ⟨by rw [HR.out]; rfl, HB.out⟩
                | false =>
                  rw [if_neg (by simp)] at hD
                  by_cases hs : 65536 < PM.size
                  · have hs' : (65536 : Int) < (PM.size : Int) := by omega
                    have HR : Hid (R = 4) := by show _ = _; rw [hD, if_pos hs]
                    clear hD hl hlq hs
                    go_enter Tryz.func24, Tryz.ntmps24
                    obtain ⟨x0, x1, x2, x3, x4⟩ := cel5 HZ.out
                    go_wp2_with fail
                    refine (C1.out _).mono ?_
                    rintro e w1 ⟨rfl, hb⟩
                    have HZ := Lib.hid (zero_still hb HZ.out)
                    have HF := Lib.hid (HF.out.below hb)
                    have HB := Lib.hid (below_then HB.out hb)
                    obtain ⟨x0, x1, x2, x3, x4⟩ := cel5 HZ.out
                    clear hb
                    go_wp2_with fail
                    refine (C2.out _).mono ?_
                    rintro e w1 ⟨rfl, hb⟩
                    have HZ := Lib.hid (zero_still hb HZ.out)
                    have HF := Lib.hid (HF.out.below hb)
                    have HB := Lib.hid (below_then HB.out hb)
                    obtain ⟨x0, x1, x2, x3, x4⟩ := cel5 HZ.out
                    clear hb
                    go_wp2_with fail
                    refine (C3.out _ _ _ HF.out).mono ?_
                    rintro e w1 ⟨rfl, hb⟩
                    have HZ := Lib.hid (zero_still hb HZ.out)
                    have HF := Lib.hid (HF.out.below hb)
                    have HB := Lib.hid (below_then HB.out hb)
                    obtain ⟨x0, x1, x2, x3, x4⟩ := cel5 HZ.out
                    clear hb
                    go_wp2_with fail
                    refine (CB.out _).mono ?_
                    rintro e wb ⟨rfl, rfl⟩
                    go_wp2_with (refine wpList_load_row rfl _ _ rfl w.heap.size rfl 34 #[.int .i64 m, .string t, .int .i64 v, .slice A f.length c, .string b] (0, 0) _ HZ.out Tryz.underlying34 rfl (by kernel_rfl) ?_)
                    refine (C5.out _ _ _ HF.out).mono ?_
                    rintro e w1 ⟨rfl, hb⟩
                    have HZ := Lib.hid (zero_still hb HZ.out)
                    have HF := Lib.hid (HF.out.below hb)
                    have HB := Lib.hid (below_then HB.out hb)
                    obtain ⟨x0, x1, x2, x3, x4⟩ := cel5 HZ.out
                    clear hb
                    go_wp2_with fail
                    go_ret
                    exact ⟨by rw [HR.out]; rfl, HB.out⟩
                  · have hs' : ¬ (65536 : Int) < (PM.size : Int) := by omega
                    rw [if_neg hs] at hD
                    by_cases h64 : 64 ≤ f.length
                    · have h64' : (64 : Int) ≤ (f.length : Int) := by omega
                      have HR : Hid (R = 4) := by show _ = _; rw [hD, if_pos ⟨rfl, h64⟩]
                      clear hD hl hlq hs
                      go_enter Tryz.func24, Tryz.ntmps24
                      obtain ⟨x0, x1, x2, x3, x4⟩ := cel5 HZ.out
                      go_wp2_with fail
                      refine (C1.out _).mono ?_
                      rintro e w1 ⟨rfl, hb⟩
                      have HZ := Lib.hid (zero_still hb HZ.out)
                      have HF := Lib.hid (HF.out.below hb)
                      have HB := Lib.hid (below_then HB.out hb)
                      obtain ⟨x0, x1, x2, x3, x4⟩ := cel5 HZ.out
                      clear hb
                      go_wp2_with fail
                      refine (C2.out _).mono ?_
                      rintro e w1 ⟨rfl, hb⟩
                      have HZ := Lib.hid (zero_still hb HZ.out)
                      have HF := Lib.hid (HF.out.below hb)
                      have HB := Lib.hid (below_then HB.out hb)
                      obtain ⟨x0, x1, x2, x3, x4⟩ := cel5 HZ.out
                      clear hb
                      go_wp2_with fail
                      refine (C3.out _ _ _ HF.out).mono ?_
                      rintro e w1 ⟨rfl, hb⟩
                      have HZ := Lib.hid (zero_still hb HZ.out)
                      have HF := Lib.hid (HF.out.below hb)
                      have HB := Lib.hid (below_then HB.out hb)
                      obtain ⟨x0, x1, x2, x3, x4⟩ := cel5 HZ.out
                      clear hb
                      go_wp2_with fail
                      refine (CB.out _).mono ?_
                      rintro e wb ⟨rfl, rfl⟩
                      go_wp2_with (refine wpList_load_row rfl _ _ rfl w.heap.size rfl 34 #[.int .i64 m, .string t, .int .i64 v, .slice A f.length c, .string b] (0, 0) _ HZ.out Tryz.underlying34 rfl (by kernel_rfl) ?_)
                      refine (C5.out _ _ _ HF.out).mono ?_
                      rintro e w1 ⟨rfl, hb⟩
                      have HZ := Lib.hid (zero_still hb HZ.out)
                      have HF := Lib.hid (HF.out.below hb)
                      have HB := Lib.hid (below_then HB.out hb)
                      obtain ⟨x0, x1, x2, x3, x4⟩ := cel5 HZ.out
                      clear hb
                      go_wp2_with fail
                      refine (CB.out _).mono ?_
                      rintro e wb ⟨rfl, rfl⟩
                      go_wp2_with fail
                      go_ret
                      exact ⟨by rw [HR.out]; rfl, HB.out⟩
                    · have h64' : ¬ (64 : Int) ≤ (f.length : Int) := by omega
                      have HR : Hid (R = 0) := by show _ = _; rw [hD, if_neg (fun h => h64 h.2)]
                      clear hD hl hlq hs
                      go_enter Tryz.func24, Tryz.ntmps24
                      obtain ⟨x0, x1, x2, x3, x4⟩ := cel5 HZ.out
                      go_wp2_with fail
                      refine (C1.out _).mono ?_
                      rintro e w1 ⟨rfl, hb⟩
                      have HZ := Lib.hid (zero_still hb HZ.out)
                      have HF := Lib.hid (HF.out.below hb)
                      have HB := Lib.hid (below_then HB.out hb)
                      obtain ⟨x0, x1, x2, x3, x4⟩ := cel5 HZ.out
                      clear hb
                      go_wp2_with fail
                      refine (C2.out _).mono ?_
                      rintro e w1 ⟨rfl, hb⟩
                      have HZ := Lib.hid (zero_still hb HZ.out)
                      have HF := Lib.hid (HF.out.below hb)
                      have HB := Lib.hid (below_then HB.out hb)
                      obtain ⟨x0, x1, x2, x3, x4⟩ := cel5 HZ.out
                      clear hb
                      go_wp2_with fail
                      refine (C3.out _ _ _ HF.out).mono ?_
                      rintro e w1 ⟨rfl, hb⟩
                      have HZ := Lib.hid (zero_still hb HZ.out)
                      have HF := Lib.hid (HF.out.below hb)
                      have HB := Lib.hid (below_then HB.out hb)
                      obtain ⟨x0, x1, x2, x3, x4⟩ := cel5 HZ.out
                      clear hb
                      go_wp2_with fail
                      refine (CB.out _).mono ?_
                      rintro e wb ⟨rfl, rfl⟩
                      go_wp2_with (refine wpList_load_row rfl _ _ rfl w.heap.size rfl 34 #[.int .i64 m, .string t, .int .i64 v, .slice A f.length c, .string b] (0, 0) _ HZ.out Tryz.underlying34 rfl (by kernel_rfl) ?_)
                      refine (C5.out _ _ _ HF.out).mono ?_
                      rintro e w1 ⟨rfl, hb⟩
                      have HZ := Lib.hid (zero_still hb HZ.out)
                      have HF := Lib.hid (HF.out.below hb)
                      have HB := Lib.hid (below_then HB.out hb)
                      obtain ⟨x0, x1, x2, x3, x4⟩ := cel5 HZ.out
                      clear hb
                      go_wp2_with fail
                      refine (CB.out _).mono ?_
                      rintro e wb ⟨rfl, rfl⟩
                      go_wp2_with fail
                      go_ret
                      exact ⟨by rw [HR.out]; rfl, HB.out⟩
              · skip
                have HR : Hid (R = FE) := by show _ = _; rw [hD, if_pos hFE]
                clear hD hl hlq CB C5
                go_enter Tryz.func24, Tryz.ntmps24
                obtain ⟨x0, x1, x2, x3, x4⟩ := cel5 HZ.out
                go_wp2_with fail
                refine (C1.out _).mono ?_
                rintro e w1 ⟨rfl, hb⟩
                have HZ := Lib.hid (zero_still hb HZ.out)
                have HF := Lib.hid (HF.out.below hb)
                have HB := Lib.hid (below_then HB.out hb)
                obtain ⟨x0, x1, x2, x3, x4⟩ := cel5 HZ.out
                clear hb
                go_wp2_with fail
                refine (C2.out _).mono ?_
                rintro e w1 ⟨rfl, hb⟩
                have HZ := Lib.hid (zero_still hb HZ.out)
                have HF := Lib.hid (HF.out.below hb)
                have HB := Lib.hid (below_then HB.out hb)
                obtain ⟨x0, x1, x2, x3, x4⟩ := cel5 HZ.out
                clear hb
                go_wp2_with fail
                refine (C3.out _ _ _ HF.out).mono ?_
                rintro e w1 ⟨rfl, hb⟩
                have HZ := Lib.hid (zero_still hb HZ.out)
                have HF := Lib.hid (HF.out.below hb)
                have HB := Lib.hid (below_then HB.out hb)
                obtain ⟨x0, x1, x2, x3, x4⟩ := cel5 HZ.out
                clear hb
                go_wp2_with fail
                go_ret
                exact ⟨by rw [HR.out]; rfl, HB.out⟩
            · have hlq : lq = false := by rw [hl, hB, Bool.and_false]
              have HR : Hid (R = 20) := by show _ = _; rw [hD, if_pos hlq]
              clear hD hl hlq C3 CB C5
              go_enter Tryz.func24, Tryz.ntmps24
              obtain ⟨x0, x1, x2, x3, x4⟩ := cel5 HZ.out
              go_wp2_with fail
              refine (C1.out _).mono ?_
              rintro e w1 ⟨rfl, hb⟩
              have HZ := Lib.hid (zero_still hb HZ.out)
              have HF := Lib.hid (HF.out.below hb)
              have HB := Lib.hid (below_then HB.out hb)
              obtain ⟨x0, x1, x2, x3, x4⟩ := cel5 HZ.out
              clear hb
              go_wp2_with fail
              refine (C2.out _).mono ?_
              rintro e w1 ⟨rfl, hb⟩
              have HZ := Lib.hid (zero_still hb HZ.out)
              have HF := Lib.hid (HF.out.below hb)
              have HB := Lib.hid (below_then HB.out hb)
              obtain ⟨x0, x1, x2, x3, x4⟩ := cel5 HZ.out
              clear hb
              go_wp2_with fail
              go_ret
              exact ⟨by rw [HR.out]; rfl, HB.out⟩
          · have hlq : lq = false := by rw [hl, show (QE == 0) = false by simpa using hQE]; rfl
            have HR : Hid (R = 20) := by show _ = _; rw [hD, if_pos hlq]
            clear hD hl hlq C3 CB C5
            go_enter Tryz.func24, Tryz.ntmps24
            obtain ⟨x0, x1, x2, x3, x4⟩ := cel5 HZ.out
            go_wp2_with fail
            refine (C1.out _).mono ?_
            rintro e w1 ⟨rfl, hb⟩
            have HZ := Lib.hid (zero_still hb HZ.out)
            have HF := Lib.hid (HF.out.below hb)
            have HB := Lib.hid (below_then HB.out hb)
            obtain ⟨x0, x1, x2, x3, x4⟩ := cel5 HZ.out
            clear hb
            go_wp2_with fail
            refine (C2.out _).mono ?_
            rintro e w1 ⟨rfl, hb⟩
            have HZ := Lib.hid (zero_still hb HZ.out)
            have HF := Lib.hid (HF.out.below hb)
            have HB := Lib.hid (below_then HB.out hb)
            obtain ⟨x0, x1, x2, x3, x4⟩ := cel5 HZ.out
            clear hb
            go_wp2_with fail
            go_ret
            exact ⟨by rw [HR.out]; rfl, HB.out⟩

end Go.Proofs.YtjcomlklmfeimaaGreatDoor
end

/-
  Contracts of the reference's SameRequest, SameReply (of the very same message), FewRequest, FewReply (layer 12).
-/
section
namespace Go.Proofs.YtjcomlklmfeimaaGreatDoor
open Go.RowKit

def fwQ (r : Rqst) : Bool := ((decide (r.m.size ≤ 2000) && decide (r.t.size ≤ 2000)) && decide (r.b.size ≤ 2000)) && fewB r.f 70 2000
def fwP (r : Rply) : Bool := (decide (r.r.size ≤ 2000) && decide (r.b.size ≤ 2000)) && fewB r.f 70 2000
theorem fwQ_sml {r : Rqst} (h : fwQ r = true) (hv : -9223372036854775808 ≤ r.v ∧ r.v ≤ 9223372036854775807) : SmlQ r ∧ r.m.size ≤ 2000 ∧ r.t.size ≤ 2000 ∧ r.b.size ≤ 2000 ∧ r.f.length ≤ 70 ∧ ∀ x ∈ r.f, x.1.size ≤ 2000 ∧ x.2.size ≤ 2000 := by
  unfold fwQ at h
  simp only [Bool.and_eq_true, decide_eq_true_eq] at h
  obtain ⟨⟨⟨h1, h2⟩, h3⟩, h4⟩ := h
  obtain ⟨g1, g2⟩ := few_yes h4
  exact ⟨⟨by omega, by omega, by omega, ⟨by omega, fun x hx => by have := g2 x hx; omega⟩, hv⟩, h1, h2, h3, g1, g2⟩
theorem fwP_sml {r : Rply} (h : fwP r = true) (hv : -9223372036854775808 ≤ r.v ∧ r.v ≤ 9223372036854775807) (hc : -9223372036854775808 ≤ r.c ∧ r.c ≤ 9223372036854775807) : SmlP r ∧ r.r.size ≤ 2000 ∧ r.b.size ≤ 2000 ∧ r.f.length ≤ 70 ∧ ∀ x ∈ r.f, x.1.size ≤ 2000 ∧ x.2.size ≤ 2000 := by
  unfold fwP at h
  simp only [Bool.and_eq_true, decide_eq_true_eq] at h
  obtain ⟨⟨h2, h3⟩, h4⟩ := h
  obtain ⟨g1, g2⟩ := few_yes h4
  exact ⟨⟨by omega, by omega, ⟨by omega, fun x hx => by have := g2 x hx; omega⟩, hv, hc⟩, h2, h3, g1, g2⟩

set_option maxHeartbeats 4000000 in
set_option maxRecDepth 100000 in
theorem r_sameQ (r : Rqst) (A B : Option Addr) (c d : Nat) (w : World) (h : SlF w A r.f.length c r.f) (h' : SlF w B r.f.length d r.f) (hm : r.f.length ≤ 100000000) :
    Calls Tryz.prog 11 #[.agg (rqC r A c), .agg (rqC r B d)] w fun e w' => e = .returned (.bool true) ∧ Below w.heap.size w w' := by
  have C1 := Lib.hid (fun W (hW : Below w.heap.size w W) => rf_equal A B _ c _ d r.f r.f W (h.below hW) (h'.below hW) hm)
  have hE : bthP eqF r.f r.f = true := bthP_refl eqF eqF_refl r.f
  rw [hE] at C1
  unfold rqC
  obtain ⟨m, t, v, f, b⟩ := r
  simp only at *
  have HB1 : Hid (Below w.heap.size w ((w.alloc (.cells #[.string m, .string t, .int .i64 v, .slice A f.length c, .string b] 25)).alloc (.cells #[.string m, .string t, .int .i64 v, .slice B f.length d, .string b] 25))) := ((Below.refl _ _).alloc (Nat.le_refl _) _).alloc (by simp) _
  have e1 : (m.toList == m.toList) = true := by simp
  have e2 : (t.toList == t.toList) = true := by simp
  have e3 : (b.toList == b.toList) = true := by simp
  clear h h' hm hE
  go_enter Tryz.func11, Tryz.ntmps11
  go_wp2_with fail
  refine (C1.out _ HB1.out).mono ?_
  rintro e w1 ⟨rfl, hb⟩
  go_wp2_with fail
  go_ret
  exact ⟨rfl, below_then HB1.out hb⟩

set_option maxHeartbeats 4000000 in
set_option maxRecDepth 100000 in
theorem r_sameP (r : Rply) (A B : Option Addr) (c d : Nat) (w : World) (h : SlF w A r.f.length c r.f) (h' : SlF w B r.f.length d r.f) (hm : r.f.length ≤ 100000000) :
    Calls Tryz.prog 14 #[.agg (rpC r A c), .agg (rpC r B d)] w fun e w' => e = .returned (.bool true) ∧ Below w.heap.size w w' := by
  have C1 := Lib.hid (fun W (hW : Below w.heap.size w W) => rf_equal A B _ c _ d r.f r.f W (h.below hW) (h'.below hW) hm)
  have hE : bthP eqF r.f r.f = true := bthP_refl eqF eqF_refl r.f
  rw [hE] at C1
  unfold rpC
  obtain ⟨m, t, v, f, b⟩ := r
  simp only at *
  have HB1 : Hid (Below w.heap.size w ((w.alloc (.cells #[.int .i64 m, .string t, .int .i64 v, .slice A f.length c, .string b] 34)).alloc (.cells #[.int .i64 m, .string t, .int .i64 v, .slice B f.length d, .string b] 34))) := ((Below.refl _ _).alloc (Nat.le_refl _) _).alloc (by simp) _
  have e1 : (m == m) = true := by simp
  have e2 : (t.toList == t.toList) = true := by simp
  have e3 : (b.toList == b.toList) = true := by simp
  clear h h' hm hE
  go_enter Tryz.func14, Tryz.ntmps14
  go_wp2_with fail
  refine (C1.out _ HB1.out).mono ?_
  rintro e w1 ⟨rfl, hb⟩
  go_wp2_with fail
  go_ret
  exact ⟨rfl, below_then HB1.out hb⟩

set_option maxHeartbeats 4000000 in
set_option maxRecDepth 100000 in
theorem r_fewQ (r : Rqst) (A : Option Addr) (c : Nat) (w : World) (h : SlF w A r.f.length c r.f) :
    Calls Tryz.prog 15 #[.agg (rqC r A c), .int .i64 2000] w fun e w' => e = .returned (.bool (fwQ r)) ∧ Below w.heap.size w w' := by
  have C1 := Lib.hid (fun W (hW : Below w.heap.size w W) => rf_few A _ c 70 2000 r.f W (h.below hW) (by omega))
  have C1 := Lib.hid (fun W hW => show Calls Tryz.prog 45 #[.slice A r.f.length c, .int .i64 70, .int .i64 2000] W (fun e w' => e = .returned (.bool (fewB r.f 70 2000)) ∧ W = w') from C1.out W hW)
  obtain ⟨m, t, v, f, b⟩ := r
  have hD : fwQ ⟨m, t, v, f, b⟩ = (((decide (m.size ≤ 2000) && decide (t.size ≤ 2000)) && decide (b.size ≤ 2000)) && fewB f 70 2000) := rfl
  unfold rqC
  simp only at *
  generalize fwQ ⟨m, t, v, f, b⟩ = R at *
  generalize fewB f 70 2000 = fw at *
  have HB1 : Hid (Below w.heap.size w (w.alloc (.cells #[.string m, .string t, .int .i64 v, .slice A f.length c, .string b] 25))) := (Below.refl _ _).alloc (Nat.le_refl _) _
  clear h
  by_cases hm : m.size ≤ 2000
  · have hm' : (m.size : Int) ≤ 2000 := by omega
    by_cases ht : t.size ≤ 2000
    · have ht' : (t.size : Int) ≤ 2000 := by omega
      by_cases hb : b.size ≤ 2000
      · have hb' : (b.size : Int) ≤ 2000 := by omega
        have HR : Hid (R = fw) := by show _ = _; rw [hD, decide_eq_true hm, decide_eq_true ht, decide_eq_true hb]; rfl
        clear hD
        go_enter Tryz.func15, Tryz.ntmps15
        go_wp2_with fail
        refine (C1.out _ HB1.out).mono ?_
        rintro e w1 ⟨rfl, rfl⟩
        go_wp2_with fail
        go_ret
        exact ⟨by rw [HR.out]; rfl, HB1.out⟩
      · have hb' : ¬ (b.size : Int) ≤ 2000 := by omega
        have HR : Hid (R = false) := by show _ = _; rw [hD, decide_eq_true hm, decide_eq_true ht, decide_eq_false hb, Bool.and_false]; (try rfl)
        clear hD C1
        go_enter Tryz.func15, Tryz.ntmps15
        go_wp2_with fail
        go_ret
        exact ⟨by rw [HR.out]; rfl, HB1.out⟩
    · have ht' : ¬ (t.size : Int) ≤ 2000 := by omega
      have HR : Hid (R = false) := by show _ = _; rw [hD, decide_eq_true hm, decide_eq_false ht, Bool.and_false]; (try rfl)
      clear hD C1
      go_enter Tryz.func15, Tryz.ntmps15
      go_wp2_with fail
      go_ret
      exact ⟨by rw [HR.out]; rfl, HB1.out⟩
  · have hm' : ¬ (m.size : Int) ≤ 2000 := by omega
    have HR : Hid (R = false) := by show _ = _; rw [hD, decide_eq_false hm]; (try rfl)
    clear hD C1
    go_enter Tryz.func15, Tryz.ntmps15
    go_wp2_with fail
    go_ret
    exact ⟨by rw [HR.out]; rfl, HB1.out⟩

set_option maxHeartbeats 4000000 in
set_option maxRecDepth 100000 in
theorem r_fewP (r : Rply) (A : Option Addr) (c : Nat) (w : World) (h : SlF w A r.f.length c r.f) :
    Calls Tryz.prog 16 #[.agg (rpC r A c), .int .i64 2000] w fun e w' => e = .returned (.bool (fwP r)) ∧ Below w.heap.size w w' := by
  have C1 := Lib.hid (fun W (hW : Below w.heap.size w W) => rf_few A _ c 70 2000 r.f W (h.below hW) (by omega))
  have C1 := Lib.hid (fun W hW => show Calls Tryz.prog 45 #[.slice A r.f.length c, .int .i64 70, .int .i64 2000] W (fun e w' => e = .returned (.bool (fewB r.f 70 2000)) ∧ W = w') from C1.out W hW)
  obtain ⟨m, t, v, f, b⟩ := r
  have hD : fwP ⟨m, t, v, f, b⟩ = ((decide (t.size ≤ 2000) && decide (b.size ≤ 2000)) && fewB f 70 2000) := rfl
  unfold rpC
  simp only at *
  generalize fwP ⟨m, t, v, f, b⟩ = R at *
  generalize fewB f 70 2000 = fw at *
  have HB1 : Hid (Below w.heap.size w (w.alloc (.cells #[.int .i64 m, .string t, .int .i64 v, .slice A f.length c, .string b] 34))) := (Below.refl _ _).alloc (Nat.le_refl _) _
  clear h
  by_cases ht : t.size ≤ 2000
  · have ht' : (t.size : Int) ≤ 2000 := by omega
    by_cases hb : b.size ≤ 2000
    · have hb' : (b.size : Int) ≤ 2000 := by omega
      have HR : Hid (R = fw) := by show _ = _; rw [hD, decide_eq_true ht, decide_eq_true hb]; rfl
      clear hD
      go_enter Tryz.func16, Tryz.ntmps16
      go_wp2_with fail
      refine (C1.out _ HB1.out).mono ?_
      rintro e w1 ⟨rfl, rfl⟩
      go_wp2_with fail
      go_ret
      exact ⟨by rw [HR.out]; rfl, HB1.out⟩
    · have hb' : ¬ (b.size : Int) ≤ 2000 := by omega
      have HR : Hid (R = false) := by show _ = _; rw [hD, decide_eq_true ht, decide_eq_false hb, Bool.and_false]; (try rfl)
      clear hD C1
      go_enter Tryz.func16, Tryz.ntmps16
      go_wp2_with fail
      go_ret
      exact ⟨by rw [HR.out]; rfl, HB1.out⟩
  · have ht' : ¬ (t.size : Int) ≤ 2000 := by omega
    have HR : Hid (R = false) := by show _ = _; rw [hD, decide_eq_false ht]; (try rfl)
    clear hD C1
    go_enter Tryz.func16, Tryz.ntmps16
    go_wp2_with fail
    go_ret
    exact ⟨by rw [HR.out]; rfl, HB1.out⟩

end Go.Proofs.YtjcomlklmfeimaaGreatDoor
end

/-
  Plain facts of layer 12: sizes of what was parsed.
-/
section
namespace Go.Proofs.YtjcomlklmfeimaaGreatDoor
open Go.RowKit

theorem rsF_len (raw : ByteArray) : (rsF raw).length ≤ 64 := by
  unfold rsF rwF
  split
  · rename_i h
    rw [List.length_map]
    unfold rwE at h
    split at h
    · cases h
    · omega
  · exact Nat.zero_le _
theorem pq_len {raw : ByteArray} : raw.size ≤ 1000000 → (pqR raw).f.length ≤ 100000000 := fun _ => by
  unfold pqR
  split
  · exact Nat.le_trans (List.length_filter_le _ _) (Nat.le_trans (rsF_len raw) (by decide))
  · exact Nat.zero_le _
theorem pp_len {raw meth : ByteArray} : raw.size ≤ 1000000 → (ppR raw meth).f.length ≤ 100000000 := fun _ => by
  unfold ppR
  split
  · exact Nat.le_trans (List.length_filter_le _ _) (Nat.le_trans (rsF_len raw) (by decide))
  · exact Nat.zero_le _

end Go.Proofs.YtjcomlklmfeimaaGreatDoor
end

/-
  The page's example (heads) of layer 9.
-/
section
namespace Go.Proofs.YtjcomlklmfeimaaGreatDoor
open Go.RowKit

theorem SlF.lit {w : World} {g t : Nat} {fr : Nat × Nat} {cs : Array Value} (L : List Fd) (hg : w.heap[g]? = some (.cells cs t fr)) (hcs : cs = (fdC L).toArray) (hm : L.length ≤ maxLen) (hz : ∀ x ∈ L, x.1.size ≤ maxLen ∧ x.2.size ≤ maxLen) : SlF w (some ⟨g, 0, none⟩) L.length L.length L := by
  subst hcs
  refine ⟨rfl, Nat.le_refl _, hm, (fun e => by cases e), fun _ => ⟨_, rfl, fun j x hx => ?_⟩, hz⟩
  obtain ⟨h0, h1⟩ := fdC_at L j x hx
  rw [addr_add, addr_add, cell_of_row _ _ _ _ _ _ hg, cell_of_row _ _ _ _ _ _ hg]
  exact ⟨by simpa using h0, by simpa using h1⟩

/-- Few, as the laws call it. -/
theorem few_70 (b : Nat) (q : Int) (hq : q = (b : Int)) (A : Option Addr) (n c : Nat) (L : List Fd) (w : World) (h : SlF w A n c L) :
    Calls Tryz.prog 45 #[.slice A n c, .int .i64 70, .int .i64 q] w fun e w' => e = .returned (.bool (fewB L 70 b)) ∧ w = w' := by
  subst hq
  exact rf_few A n c 70 b L w h (by decide)
theorem few_1 (b : Nat) (q : Int) (hq : q = (b : Int)) (A : Option Addr) (n c : Nat) (L : List Fd) (w : World) (h : SlF w A n c L) :
    Calls Tryz.prog 45 #[.slice A n c, .int .i64 1, .int .i64 q] w fun e w' => e = .returned (.bool (fewB L 1 b)) ∧ w = w' := by
  subst hq
  exact rf_few A n c 1 b L w h (by decide)
theorem few_bd {L : List Fd} {m b : Nat} (h : fewB L m b = true) (hb : b ≤ 1000000000) : ∀ x ∈ L, Bd x := fun x hx => by
  have := (few_yes h).2 x hx
  exact ⟨by omega, by omega⟩

def exV : ByteArray := ⟨#[86, 97, 114, 121, 58, 32, 32, 97, 44, 32, 66, 32]⟩
def exG : ByteArray := ⟨#[97, 32, 98, 58, 32, 99]⟩
def exF : Fd := (⟨#[86, 97, 114, 121]⟩, ⟨#[97, 44, 32, 66]⟩)
def exL : List Fd := [(⟨#[97]⟩, ⟨#[49]⟩), (⟨#[98]⟩, ⟨#[120, 44, 32, 89]⟩), (⟨#[65]⟩, ⟨#[50]⟩)]
theorem exV_ok : flF exV = exF ∧ flX exV = 0 := by constructor <;> kernel_rfl
theorem exG_ok : flX exG = 21 := by kernel_rfl
theorem exL_get : fdGet exL ⟨#[65]⟩ = ⟨#[49, 44, 32, 50]⟩ ∧ fdGot exL ⟨#[65]⟩ = true := by constructor <;> kernel_rfl
theorem exL_drop : fdDrop exL [[97]] = [(⟨#[98]⟩, ⟨#[120, 44, 32, 89]⟩)] := by kernel_rfl
theorem exL_set : fdSet exL (⟨#[65]⟩, ⟨#[51]⟩) = [(⟨#[65]⟩, ⟨#[51]⟩), (⟨#[98]⟩, ⟨#[120, 44, 32, 89]⟩)] := by kernel_rfl
theorem exL_has : fdHas exL ⟨#[66]⟩ ⟨#[121]⟩ = true := by kernel_rfl
theorem exL_chk : chkN exL = 0 := by kernel_rfl
theorem exF_line : lineS exF = ⟨#[86, 97, 114, 121, 58, 32, 97, 44, 32, 66]⟩ := by kernel_rfl
theorem exL_all : (fdAll exL ⟨#[97]⟩).length = 2 := by kernel_rfl
theorem exL_same : bth exL exL = true := by kernel_rfl
theorem exL_bd : ∀ x ∈ exL, Bd x := by
  intro x hx
  simp only [exL, List.mem_cons, List.not_mem_nil, or_false] at hx
  rcases hx with rfl | rfl | rfl <;> exact ⟨by decide, by decide⟩
theorem exL_join : (Lib.join (fdAll exL ⟨#[65]⟩) [44, 32]).length ≤ 1000000000000 := by
  rw [show (Lib.join (fdAll exL ⟨#[65]⟩) [44, 32]).length = 4 by kernel_rfl]; decide

end Go.Proofs.YtjcomlklmfeimaaGreatDoor
end

/-
  Plain facts of layer 9: what is parsed may be; a field's line is parsed as the field; what dropping and setting leave (P9.4).
-/
section
namespace Go.Proofs.YtjcomlklmfeimaaGreatDoor
open Go.RowKit

/-! ### Lines -/
theorem fl_cut_sizes {s : ByteArray} (h : cutOk s 58 = true) : (cutA s 58).size + 1 + (cutZ s 58).size ≤ s.size := by
  rcases idx_cases s 58 (by decide) (by decide) with ⟨hn, _⟩ | ⟨i, hi, hlt, _, _⟩
  · rw [(cut_miss hn).2.2] at h; cases h
  · obtain ⟨e1, e2, _⟩ := cut_hit hi
    rw [e1, e2, ByteArray.size_extract, ByteArray.size_extract]
    omega
theorem parsed_chk {s : ByteArray} (h : flX s = 0) (hs : s.size ≤ 5000) : chkN [flF s] = 0 := by
  have hl : ¬ 8192 < s.size := by omega
  have ho : flO s = true := by
    cases e : flO s with
    | true => rfl
    | false => rw [(fl_no hl e).2] at h; exact absurd h (by decide)
  rw [(fl_yes hl ho).1]
  have hp := fl_prp s
  rw [ho, Bool.and_eq_true] at hp
  have hz := fl_cut_sizes hp.1
  have h1 : (flT s).1 = cutA s 58 := rfl
  have h2 : (flT s).2.size ≤ (cutZ s 58).size := by
    show (mkS (trimL (cutZ s 58).data.toList)).size ≤ _
    rw [mkS_size, Lib.size_eq]
    exact trim_le _
  have hlg : lngF (flT s) = false := by
    unfold lngF
    rw [h1]
    exact decide_eq_false (by omega)
  unfold chkN
  simp [hp.2, hlg]

theorem chk_zero {L : List Fd} (h : chkN L = 0) : ∀ x ∈ L, prpF x = true ∧ lngF x = false := fun x hx => by
  unfold chkN at h
  split at h
  · cases h
  · split at h
    · cases h
    · split at h
      · cases h
      · rename_i h1 h2 h3
        rw [Bool.not_eq_true, List.any_eq_false] at h2 h3
        exact ⟨by have := h2 x hx; simpa using this, by have := h3 x hx; simpa using this⟩

theorem tok_no_colon (c : UInt8) (h : tokB (c.toNat : Int) = true) : (c.toNat : Int) ≠ 58 := fun e => by
  rw [e] at h
  exact absurd h (by decide)

theorem line_parse {x : Fd} (hp : prpF x = true) (hl : lngF x = false) : flF (lineS x) = x ∧ flX (lineS x) = 0 := by
  obtain ⟨a, b⟩ := x
  have hsz : ¬ 8192 < (lineS (a, b)).size := by
    rw [line_size]
    unfold lngF at hl
    simpa using hl
  unfold prpF at hp
  simp only [Bool.and_eq_true] at hp
  obtain ⟨⟨⟨h1, h2⟩, h3⟩, h4⟩ := hp
  have hlist := line_list (a, b)
  simp only at hlist
  have hlt : a.size < (lineS (a, b)).size := by rw [line_size]; simp only; omega
  have hat : ∀ (k : Nat) (hk : k < (lineS (a, b)).size), ((lineS (a, b))[k]).toNat = (((a.data.toList ++ [58, 32] ++ b.data.toList)[k]?).getD 0).toNat := fun k hk => by
    have : (lineS (a, b)).data.toList[k]? = some (lineS (a, b))[k] := by
      rw [List.getElem?_eq_getElem (by rw [← Lib.size_eq]; exact hk)]; rfl
    rw [← hlist, this]; rfl
  have hla : a.data.toList.length = a.size := (Lib.size_eq a).symm
  have hi : idxOf (lineS (a, b)) 58 = a.size := by
    refine idx_first _ 58 (by decide) (by decide) a.size hlt ?_ fun k hk => ?_
    · rw [hat a.size hlt, List.append_assoc, List.getElem?_append_right (by omega), hla, Nat.sub_self]; rfl
    · have hk2 : k < (lineS (a, b)).size := by omega
      rw [hat k hk2, List.append_assoc, List.getElem?_append_left (by omega), List.getElem?_eq_getElem (by omega)]
      refine tok_no_colon _ ?_
      unfold allB at h2
      rw [List.all_eq_true] at h2
      exact h2 _ (List.getElem_mem _)
  obtain ⟨e1, e2, e3⟩ := cut_hit hi
  have hA : cutA (lineS (a, b)) 58 = a := by
    rw [e1]
    have := piece_ext (lineS (a, b)) 0 a.size
    rw [this]
    have hl2 : piece (lineS (a, b)) 0 a.size = a.data.toList := by
      unfold piece
      rw [List.drop_zero, hlist, List.append_assoc, List.take_append_of_le_length (by omega), List.take_of_length_le (by omega)]
    rw [hl2, mkS_self]
  have hZ : (cutZ (lineS (a, b)) 58).data.toList = 32 :: b.data.toList := by
    rw [e2, piece_ext, mkS_list, piece_all, hlist, List.append_assoc, List.drop_append, hla]
    rw [List.drop_eq_nil_of_le (by omega), show a.size + 1 - a.size = 1 by omega]
    rfl
  have hb : trimL b.data.toList = b.data.toList := by
    have e := eq_of_beq h4
    rw [Lib.toList_data, Lib.toList_data, mkS_list] at e
    exact e
  have hT : flT (lineS (a, b)) = (a, b) := by
    show (cutA (lineS (a, b)) 58, mkS (trimL (cutZ (lineS (a, b)) 58).data.toList)) = _
    have ht : trimL (32 :: b.data.toList) = b.data.toList := by
      have : trimL (32 :: b.data.toList) = trimL b.data.toList := by
        unfold trimL
        rw [List.dropWhile_cons, if_pos (by decide)]
      rw [this, hb]
    rw [hA, hZ, ht, mkS_self]
  have hO : flO (lineS (a, b)) = true := by
    unfold flO
    rw [hT, e3]
    simp [h1, h2, h3]
  rw [(fl_yes hsz hO).1, (fl_yes hsz hO).2, hT]
  exact ⟨rfl, rfl⟩
theorem lines_back {L : List Fd} (h : chkN L = 0) : ∀ x ∈ L, flF (lineS x) = x ∧ flX (lineS x) = 0 := fun x hx => line_parse (chk_zero h x hx).1 (chk_zero h x hx).2

/-! ### Drop, Set -/
theorem same_no {a b c : ByteArray} (h : sameB a b = true) (g : sameB c b = false) : sameB a c = false := by
  unfold sameB at *
  rw [beq_iff_eq] at h
  rw [beq_eq_false_iff_ne] at g ⊢
  rw [h]
  exact fun e => g e.symm
theorem drop_one (L : List Fd) (n : ByteArray) : fdDrop L [n.data.toList] = L.filter fun x => !sameB x.1 n := by
  unfold fdDrop
  rw [nmd_one']
theorem dropped_none (L : List Fd) (n : ByteArray) : fdAll (fdDrop L [n.data.toList]) n = [] := by
  unfold fdAll
  rw [drop_one, List.filter_filter]
  have : (fun x : Fd => sameB x.1 n && !sameB x.1 n) = fun _ => false := by
    funext x
    cases sameB x.1 n <;> rfl
  rw [this]
  simp
theorem dropped_got (L : List Fd) (n : ByteArray) : fdGot (fdDrop L [n.data.toList]) n = false ∧ fdGet (fdDrop L [n.data.toList]) n = ⟨#[]⟩ := by
  unfold fdGot fdGet
  rw [dropped_none]
  exact ⟨rfl, rfl⟩
theorem dropped_other (L : List Fd) (n o : ByteArray) (h : sameB o n = false) : fdAll (fdDrop L [n.data.toList]) o = fdAll L o := by
  unfold fdAll
  rw [drop_one, List.filter_filter]
  congr 2
  funext x
  cases e : sameB x.1 n with
  | false => simp
  | true => simp [same_no e h]
theorem set_split (L : List Fd) (f : Fd) : ∃ i, i ≤ (fdDrop L [f.1.data.toList]).length ∧ fdSet L f = (fdDrop L [f.1.data.toList]).take i ++ [f] ++ (fdDrop L [f.1.data.toList]).drop i := by
  rcases set_place L f with ⟨_, h⟩ | ⟨i, _, hi, h⟩
  · exact ⟨_, Nat.le_refl _, h⟩
  · exact ⟨i, hi, h⟩
theorem set_len (L : List Fd) (f : Fd) : (fdSet L f).length = (fdDrop L [f.1.data.toList]).length + 1 := by
  obtain ⟨i, hi, h⟩ := set_split L f
  rw [h]
  simp only [List.length_append, List.length_take, List.length_drop, List.length_cons, List.length_nil]; omega
theorem same_self (a : ByteArray) : sameB a a = true := by unfold sameB; simp
theorem set_all (L : List Fd) (f : Fd) (p : Fd → Bool) : (fdSet L f).filter p = ((fdDrop L [f.1.data.toList]).take (Classical.choose (set_split L f))).filter p ++ (if p f then [f] else []) ++ ((fdDrop L [f.1.data.toList]).drop (Classical.choose (set_split L f))).filter p := by
  have h := (Classical.choose_spec (set_split L f)).2
  rw [congrArg (List.filter p) h, List.filter_append, List.filter_append]
  congr 2
  by_cases hp : p f = true
  · simp [hp]
  · simp [hp]
theorem set_got (L : List Fd) (f : Fd) : fdGot (fdSet L f) f.1 = true ∧ fdGet (fdSet L f) f.1 = f.2 := by
  have hno : ∀ x ∈ fdDrop L [f.1.data.toList], sameB x.1 f.1 = false := fun x hx => by
    rw [drop_one] at hx
    simpa using (List.mem_filter.1 hx).2
  have h : fdAll (fdSet L f) f.1 = [f.2.data.toList] := by
    unfold fdAll
    rw [set_all, if_pos (same_self _)]
    have e1 : ∀ i, ((fdDrop L [f.1.data.toList]).take i).filter (fun x => sameB x.1 f.1) = [] := fun i => List.filter_eq_nil_iff.2 fun x hx => by simp [hno x (List.mem_of_mem_take hx)]
    have e2 : ∀ i, ((fdDrop L [f.1.data.toList]).drop i).filter (fun x => sameB x.1 f.1) = [] := fun i => List.filter_eq_nil_iff.2 fun x hx => by simp [hno x (List.mem_of_mem_drop hx)]
    rw [e1, e2]; rfl
  unfold fdGot fdGet
  rw [h, Lib.join_one, mkS_self]
  exact ⟨rfl, rfl⟩
theorem set_other (L : List Fd) (f : Fd) (o : ByteArray) (h : sameB o f.1 = false) : fdAll (fdSet L f) o = fdAll L o := by
  rw [← dropped_other L f.1 o h]
  unfold fdAll
  rw [set_all, if_neg (by rw [same_symm, h]; simp), List.append_nil, ← List.filter_append, List.take_append_drop]
theorem set_dropF (L : List Fd) (f : Fd) : fdDrop (fdSet L f) [f.1.data.toList] = fdDrop L [f.1.data.toList] := by
  rw [drop_one (fdSet L f), set_all, if_neg (by simp [same_self]), List.append_nil, ← List.filter_append, List.take_append_drop, drop_one, List.filter_filter]
  simp
theorem alk_self (x : Fd) : alk x x = true := by simp [alk, same_self]
theorem bth_self (L : List Fd) : bth L L = true := bthP_refl alk alk_self L
theorem fd_got_len (L : List Fd) (n : ByteArray) (k : Nat) (h : L.length ≤ k) : (fdAll L n).length ≤ k := by
  unfold fdAll
  rw [List.length_map]
  exact Nat.le_trans (List.length_filter_le _ _) h
theorem fd_join_le (L : List Fd) (n : ByteArray) (h : L.length ≤ 71) (hs : ∀ x ∈ L, x.2.size ≤ 10000) : (Lib.join (fdAll L n) [44, 32]).length ≤ 1000000000000 := by
  refine Nat.le_trans (join_le _ 71 10000 (fd_got_len L n 71 h) ?_) (by decide)
  intro x hx
  unfold fdAll at hx
  obtain ⟨y, hy, rfl⟩ := List.mem_map.1 hx
  rw [← Lib.size_eq]
  exact hs y (List.mem_filter.1 hy).1
theorem drop_mem {L : List Fd} {ns : List (List UInt8)} {x : Fd} (h : x ∈ fdDrop L ns) : x ∈ L := (List.mem_filter.1 h).1
theorem set_mem {L : List Fd} {f x : Fd} (h : x ∈ fdSet L f) : x = f ∨ x ∈ L := by
  obtain ⟨i, _, e⟩ := set_split L f
  rw [e, List.mem_append, List.mem_append] at h
  rcases h with (h | h) | h
  · exact .inr (drop_mem (List.mem_of_mem_take h))
  · exact .inl (by simpa using h)
  · exact .inr (drop_mem (List.mem_of_mem_drop h))
theorem drop_len (L : List Fd) (ns : List (List UInt8)) : (fdDrop L ns).length ≤ L.length := List.length_filter_le _ _

end Go.Proofs.YtjcomlklmfeimaaGreatDoor
end

/-
  Plain facts of layer 12: what is printed is read as its lines, its fields and its length.
-/
section
namespace Go.Proofs.YtjcomlklmfeimaaGreatDoor
open Go.RowKit

def No13 (l : List UInt8) : Prop := ∀ x ∈ l, x ≠ 13
theorem No13.app {a b : List UInt8} (h : No13 a) (g : No13 b) : No13 (a ++ b) := fun x hx => by
  rcases List.mem_append.1 hx with h2 | h2
  · exact h x h2
  · exact g x h2
theorem byte_13 : ∀ n : Nat, n < 256 → (tokB (n : Int) = true → n ≠ 13 ∧ n ≠ 32) ∧ (visB (n : Int) = true → n ≠ 13) ∧ (txtB (n : Int) = true → n ≠ 13) ∧ (isD 10 (n : Int) = true → n ≠ 13 ∧ tokB (n : Int) = true ∧ txtB (n : Int) = true) := by decide +kernel
theorem of_13 {c : UInt8} (h : c.toNat ≠ 13) : c ≠ 13 := fun e => h (by rw [e]; rfl)
theorem tok_13 {l : List UInt8} (h : allB tokB l = true) : No13 l := fun x hx => of_13 ((byte_13 x.toNat x.toNat_lt).1 (by unfold allB at h; exact List.all_eq_true.1 h x hx)).1
theorem vis_13 {l : List UInt8} (h : allB visB l = true) : No13 l := fun x hx => of_13 ((byte_13 x.toNat x.toNat_lt).2.1 (by unfold allB at h; exact List.all_eq_true.1 h x hx))
theorem txt_13 {l : List UInt8} (h : allB txtB l = true) : No13 l := fun x hx => of_13 ((byte_13 x.toNat x.toNat_lt).2.2.1 (by unfold allB at h; exact List.all_eq_true.1 h x hx))
theorem dig_13 {l : List UInt8} (h : allB (isD 10) l = true) : No13 l ∧ allB tokB l = true ∧ allB txtB l = true := by
  have hh : ∀ x ∈ l, isD 10 (x.toNat : Int) = true := by unfold allB at h; exact List.all_eq_true.1 h
  refine ⟨fun x hx => of_13 ((byte_13 x.toNat x.toNat_lt).2.2.2 (hh x hx)).1, ?_, ?_⟩
  · unfold allB; exact List.all_eq_true.2 fun x hx => ((byte_13 x.toNat x.toNat_lt).2.2.2 (hh x hx)).2.1
  · unfold allB; exact List.all_eq_true.2 fun x hx => ((byte_13 x.toNat x.toNat_lt).2.2.2 (hh x hx)).2.2

/-! ### Lines printed are read -/
def lnsP (Ls : List (List UInt8)) : List UInt8 := Ls.flatMap fun x => x ++ [13, 10]
theorem lnsP_cons (x : List UInt8) (Ls : List (List UInt8)) (r : List UInt8) : lnsP (x :: Ls) ++ r = x ++ 13 :: 10 :: (lnsP Ls ++ r) := by simp [lnsP]
theorem lnsP_len : ∀ Ls : List (List UInt8), Ls.length ≤ (lnsP Ls).length
  | [] => Nat.le_refl _
  | x :: Ls => by
    have := lnsP_len Ls
    have h2 := congrArg List.length (lnsP_cons x Ls [])
    simp only [List.length_append, List.length_cons, List.append_nil] at h2 ⊢
    omega
theorem hdr_lines : ∀ (Ls X : List (List UInt8)) (F : Nat) (b : List UInt8), (∀ x ∈ Ls, x ≠ [] ∧ No13 x) → Ls.length < F → hdr F X (lnsP Ls ++ (13 :: 10 :: b)) = some (X ++ Ls, b)
  | [], X, F, b, _, hF => by
    obtain ⟨F, rfl⟩ : ∃ G, F = G + 1 := ⟨F - 1, by simp at hF; omega⟩
    show hdr (F + 1) X (13 :: 10 :: b) = _
    unfold hdr
    rw [lineL_hit]
    simp
  | x :: Ls, X, F, b, h, hF => by
    rw [List.length_cons] at hF
    obtain ⟨F, rfl⟩ : ∃ G, F = G + 1 := ⟨F - 1, by omega⟩
    have hx := h x (List.mem_cons_self ..)
    rw [lnsP_cons, hdr_some (lineL_line x _ hx.2) (by omega), if_neg hx.1]
    show hdr F (X ++ [x]) _ = _
    rw [hdr_lines Ls _ F b (fun y hy => h y (List.mem_cons_of_mem _ hy)) (by omega), List.append_assoc]
    rfl
theorem hd_print {raw : ByteArray} {p : List UInt8} {Ls : List (List UInt8)} {b : List UInt8} (h : raw.data.toList = lnsP (p :: Ls) ++ (13 :: 10 :: b)) (hx : ∀ x ∈ p :: Ls, x ≠ [] ∧ No13 x) :
    hdL raw = p :: Ls ∧ hdR raw = mkS b ∧ hdB raw = true := by
  have hl : (p :: Ls).length < raw.size + 1 := by
    have h1 := lnsP_len (p :: Ls)
    rw [Lib.size_eq, h, List.length_append]
    omega
  have e : hdO raw = some (p :: Ls, b) := by
    unfold hdO
    rw [h, hdr_lines _ _ _ _ hx hl]
    rfl
  obtain ⟨h1, h2, h3⟩ := hd_some e
  exact ⟨h1, h2, by rw [h3]; simp⟩

/-! ### Fields' lines printed are read -/
def lnF (G : List Fd) : List (List UInt8) := G.map fun x => (lineS x).data.toList
theorem lnsL_eq (G : List Fd) : lnsL G = lnsP (lnF G) := by
  unfold lnsL lnsP lnF
  rw [List.flatMap_map]
theorem rw_print {G : List Fd} (hl : G.length ≤ 64) (h : ∀ x ∈ G, flF (lineS x) = x ∧ flX (lineS x) = 0) : rwE (lnF G) = 0 ∧ rwF (lnF G) = G := by
  have hf : ∀ G : List Fd, (∀ x ∈ G, flF (lineS x) = x ∧ flX (lineS x) = 0) → fsE (lnF G) = 0 := by
    intro G h
    induction G with
    | nil => rfl
    | cons x G ih =>
      show (if flX (mkS (lineS x).data.toList) = 0 then fsE (lnF G) else flX (mkS (lineS x).data.toList)) = 0
      rw [mkS_self, if_pos (h x (List.mem_cons_self ..)).2]
      exact ih fun y hy => h y (List.mem_cons_of_mem _ hy)
  have hE : rwE (lnF G) = 0 := by
    unfold rwE
    rw [if_neg (by unfold lnF; rw [List.length_map]; omega)]
    exact hf G h
  refine ⟨hE, ?_⟩
  unfold rwF
  rw [if_pos hE]
  unfold lnF
  rw [List.map_map]
  conv => rhs; rw [← List.map_id G]
  refine List.map_congr_left fun x hx => ?_
  show flF (mkS (lineS x).data.toList) = x
  rw [mkS_self, (h x hx).1]
theorem prp_13 {x : Fd} (h : prpF x = true) : (lineS x).data.toList ≠ [] ∧ No13 (lineS x).data.toList := by
  unfold prpF at h
  simp only [Bool.and_eq_true] at h
  rw [line_list]
  refine ⟨by simp, ?_⟩
  exact ((tok_13 h.1.1.2).app (fun x hx => by simp at hx; rcases hx with rfl | rfl <;> decide)).app (txt_13 h.1.2)

/-! ### The line of the length -/
def cfF (n : Nat) : Fd := (clS, mkS (plainL (n : Int)))
theorem plain_digs (n : Nat) : plainL (n : Int) = digs 10 n := by unfold plainL; rw [if_neg (by omega)]; rfl
theorem plain_facts (n : Nat) : allB (isD 10) (plainL (n : Int)) = true ∧ 1 ≤ (plainL (n : Int)).length ∧ valV 10 (plainL (n : Int)) = n := by
  obtain ⟨h1, h2⟩ := digs_val 10 n (by omega) (by omega)
  rw [plain_digs]
  exact ⟨h2, digs_pos _ _, h1⟩
theorem plain_good (n : Nat) : Good (plainL (n : Int)) := by
  obtain ⟨h1, h2, _⟩ := plain_facts n
  refine good_tok ?_
  unfold tokL
  rw [(dig_13 h1).2.1, Bool.and_true, Bool.not_eq_true', List.isEmpty_eq_false_iff]
  exact fun e => by rw [e] at h2; simp at h2
theorem cl_line (b : ByteArray) : clL b = (lineS (cfF b.size)).data.toList ++ [13, 10] := by
  unfold clL
  rw [line_list]
  show clH.data.toList ++ plainL (b.size : Int) ++ [13, 10] = (clS.data.toList ++ [58, 32] ++ (mkS (plainL (b.size : Int))).data.toList) ++ [13, 10]
  rw [mkS_list]
  rfl
theorem cf_prp (n : Nat) (hn : n ≤ 100000) : prpF (cfF n) = true ∧ lngF (cfF n) = false := by
  obtain ⟨h1, h2, _⟩ := plain_facts n
  have h3 := plainL_short (n : Int) (by omega) (by omega)
  constructor
  · show (((!clS.toList.isEmpty && allB tokB clS.data.toList) && allB txtB (mkS (plainL (n : Int))).data.toList) && ((mkS (trimL (mkS (plainL (n : Int))).data.toList)).toList == (mkS (plainL (n : Int))).toList)) = true
    rw [mkS_list, (dig_13 h1).2.2, (plain_good n).trim, show (!clS.toList.isEmpty && allB tokB clS.data.toList) = true by decide +kernel]
    simp
  · show decide (8192 < clS.size + 2 + (mkS (plainL (n : Int))).size) = false
    rw [mkS_size, show clS.size = 14 by decide]
    exact decide_eq_false (by omega)
theorem cf_back (n : Nat) (hn : n ≤ 100000) : flF (lineS (cfF n)) = cfF n ∧ flX (lineS (cfF n)) = 0 := line_parse (cf_prp n hn).1 (cf_prp n hn).2
theorem ln_cf (n : Nat) (hn : n ≤ 65536) : lnA [plainL (n : Int)] = n ∧ lnB [plainL (n : Int)] = true := by
  obtain ⟨h1, h2, h3⟩ := plain_facts n
  have h4 : (plainL (n : Int)).length ≤ 18 := by
    rw [plain_digs]
    exact digs_len 10 17 n (by omega) (by have : (65536 : Nat) < 10 ^ (17 + 1) := by decide
                                          omega)
  have hs : splitL (plainL (n : Int)) = some [plainL (n : Int)] := by
    have := split_join (L := [plainL (n : Int)]) (fun x hx => by rw [List.mem_singleton] at hx; rw [hx]; exact plain_good n)
    rwa [Lib.join_one] at this
  have h5 : ¬ ((plainL (n : Int)).length = 0 ∨ 18 < (plainL (n : Int)).length ∨ allB (isD 10) (plainL (n : Int)) = false) := by
    rw [h1]; rintro (h | h | h)
    · omega
    · omega
    · cases h
  have hE : numE 10 18 65536 (plainL (n : Int)) = 0 := by
    unfold numE
    rw [if_neg h5, if_neg (by rw [h3]; omega)]
  have hN : numN 10 18 65536 (plainL (n : Int)) = n := by
    unfold numN
    rw [if_neg (by
      rw [h3]
      rintro (h | h | h | h)
      · exact h5 (.inl h)
      · exact h5 (.inr (.inl h))
      · exact h5 (.inr (.inr h))
      · omega), h3]
  have e : lnV (-1) [plainL (n : Int)] = some (n : Int) := by
    unfold lnV
    rw [hs]
    show (match lnI (-1) [plainL (n : Int)] with | none => none | some m => lnV m []) = _
    unfold lnI
    rw [if_neg (by simp [hE]), if_neg (by simp), hN]
    rfl
  obtain ⟨g1, g2⟩ := ln_some e
  exact ⟨g1, by rw [g2]; exact decide_eq_true (by omega)⟩

/-! ### Fields without framing fields -/
theorem same_tr {a b c : ByteArray} (h : sameB a b = true) (g : sameB a c = true) : sameB b c = true := by
  unfold sameB at *
  rw [beq_iff_eq] at *
  rw [← h, g]
theorem frm_nmd {x : Fd} (h : nmd frm x = false) : sameB x.1 clS = false ∧ sameB x.1 teS = false ∧ sameB x.1 trS = false := by
  unfold nmd frm at h
  simp only [List.any_cons, List.any_nil, Bool.or_false, Bool.or_eq_false_iff, mkS_self] at h
  exact ⟨h.1, h.2.1, h.2.2⟩
theorem nmd_host {x : Fd} (h : sameB x.1 hoS = true) : nmd frm x = false := by
  unfold nmd frm
  simp only [List.any_cons, List.any_nil, Bool.or_false, Bool.or_eq_false_iff, mkS_self]
  have no : ∀ c, sameB hoS c = false → sameB x.1 c = false := fun c hc => by
    cases e : sameB x.1 c with
    | false => rfl
    | true => rw [same_tr h e] at hc; cases hc
  exact ⟨no _ (by decide +kernel), no _ (by decide +kernel), no _ (by decide +kernel)⟩
theorem drop_host (F : List Fd) : fdAll (fdDrop F frm) hoS = fdAll F hoS := by
  unfold fdAll fdDrop
  rw [List.filter_filter]
  congr 2
  funext x
  cases e : sameB x.1 hoS with
  | false => rfl
  | true => rw [nmd_host e]; rfl
theorem drop_again (F : List Fd) : fdDrop (fdDrop F frm) frm = fdDrop F frm := by
  unfold fdDrop
  rw [List.filter_filter]
  congr 1
  funext x
  exact Bool.and_self _
theorem none_of_drop {f : List Fd} (h : (fdDrop f frm).length = f.length) : fdDrop f frm = f ∧ fdAll f clS = [] ∧ fdAll f teS = [] := by
  have ha : ∀ x ∈ f, (!nmd frm x) = true := by
    unfold fdDrop at h
    exact List.length_filter_eq_length_iff.1 h
  have hb : ∀ x ∈ f, nmd frm x = false := fun x hx => by simpa using ha x hx
  refine ⟨List.filter_eq_self.2 ha, ?_, ?_⟩
  · unfold fdAll
    rw [List.filter_eq_nil_iff.2 fun x hx => by rw [(frm_nmd (hb x hx)).1]; simp]; rfl
  · unfold fdAll
    rw [List.filter_eq_nil_iff.2 fun x hx => by rw [(frm_nmd (hb x hx)).2.1]; simp]; rfl
theorem all_cf (f : List Fd) (n : Nat) : fdAll (f ++ [cfF n]) clS = fdAll f clS ++ [plainL (n : Int)] ∧ fdAll (f ++ [cfF n]) teS = fdAll f teS ∧ fdAll (f ++ [cfF n]) hoS = fdAll f hoS ∧ fdDrop (f ++ [cfF n]) frm = fdDrop f frm := by
  have h1 : sameB (cfF n).1 clS = true := by show sameB clS clS = true; decide +kernel
  have h2 : sameB (cfF n).1 teS = false := by show sameB clS teS = false; decide +kernel
  have h3 : sameB (cfF n).1 hoS = false := by show sameB clS hoS = false; decide +kernel
  have h4 : nmd frm (cfF n) = true := by unfold nmd frm; simp [mkS_self, h1]
  refine ⟨?_, ?_, ?_, ?_⟩
  · unfold fdAll
    rw [List.filter_append, List.map_append, List.filter_cons, if_pos h1]
    show _ ++ [(mkS (plainL (n : Int))).data.toList] = _
    rw [mkS_list]
  · unfold fdAll
    rw [List.filter_append, List.filter_cons, if_neg (by rw [h2]; simp), List.filter_nil, List.append_nil]
  · unfold fdAll
    rw [List.filter_append, List.filter_cons, if_neg (by rw [h3]; simp), List.filter_nil, List.append_nil]
  · unfold fdDrop
    rw [List.filter_append, List.filter_cons, if_neg (by rw [h4]; simp), List.filter_nil, List.append_nil]
theorem bod_none (s : ByteArray) (v : Int) (op : Bool) (h : op = true ∨ s.size = 0) : bdE [] [] s v op = 0 ∧ bdB [] [] s v op = s := by
  have e : bdE [] [] s v op = 0 := by
    unfold bdE
    rw [if_neg (by simp), if_neg (by simp)]
    rcases h with h | h
    · rw [if_pos h]
    · split
      · rfl
      · first | rfl | rw [if_pos h]
  refine ⟨e, ?_⟩
  unfold bdB
  rw [if_pos e, if_neg (by simp)]
theorem bod_len (s : ByteArray) (v : Int) (op : Bool) (h : s.size ≤ 65536) : bdE [] [plainL (s.size : Int)] s v op = 0 ∧ bdB [] [plainL (s.size : Int)] s v op = s := by
  obtain ⟨h1, h2⟩ := ln_cf s.size h
  have e : bdE [] [plainL (s.size : Int)] s v op = 0 := by
    unfold bdE
    rw [if_neg (by simp), if_pos (by simp), if_pos h2, h1, if_neg (by omega), if_neg (by omega)]
  refine ⟨e, ?_⟩
  unfold bdB
  rw [if_pos e, if_neg (by simp)]

end Go.Proofs.YtjcomlklmfeimaaGreatDoor
end

/-
  Plain facts of layer 12 (P12.5): a message that may be is read of its print as it is; what was read may be, unless it is too long.
-/
section
namespace Go.Proofs.YtjcomlklmfeimaaGreatDoor
open Go.RowKit

/-! ### Start lines -/
theorem plain_injZ {a b : Int} (ha : 0 ≤ a) (hb : 0 ≤ b) (h : plainL a = plainL b) : a = b := by
  obtain ⟨n, rfl⟩ := Int.eq_ofNat_of_zero_le ha
  obtain ⟨m, rfl⟩ := Int.eq_ofNat_of_zero_le hb
  have h1 := (plain_facts n).2.2
  rw [h, (plain_facts m).2.2] at h1
  exact h1.symm
theorem one_len {v : Int} (h0 : 0 ≤ v) (h1 : v ≤ 1) : (plainL v).length = 1 := by
  have : v = 0 ∨ v = 1 := by omega
  rcases this with rfl | rfl <;> decide +kernel
theorem prq_inj {m t : ByteArray} {v v' : Int} (h0 : 0 ≤ v) (g0 : 0 ≤ v') (h : prqS m t v = prqS m t v') : v = v' := by
  have hl := congrArg (fun x : ByteArray => x.data.toList) h
  simp only [prq_list] at hl
  have := List.append_cancel_left hl
  simp only [List.cons.injEq, true_and] at this
  have := List.append_cancel_left this
  simp only [List.cons.injEq, true_and] at this
  exact plain_injZ h0 g0 (List.append_cancel_left this)
theorem pst_inj {c c' : Int} {r : ByteArray} {v v' : Int} (h0 : 0 ≤ v) (h1 : v ≤ 1) (g0 : 0 ≤ v') (g1 : v' ≤ 1) (hc : 0 ≤ c) (hc' : 0 ≤ c') (h : pstS c r v = pstS c' r v') : c = c' ∧ v = v' := by
  have hl := congrArg (fun x : ByteArray => x.data.toList) h
  simp only [pst_list] at hl
  have hlen : ([72, 84, 84, 80, 47, 49, 46] ++ plainL v : List UInt8).length = ([72, 84, 84, 80, 47, 49, 46] ++ plainL v').length := by
    rw [List.length_append, List.length_append, one_len h0 h1, one_len g0 g1]
  obtain ⟨e1, e2⟩ := List.append_inj hl hlen
  have ev := plain_injZ h0 g0 (List.append_cancel_left e1)
  simp only [List.cons.injEq, true_and] at e2
  exact ⟨plain_injZ hc hc' (List.append_cancel_right e2), ev⟩
theorem rq_line {s : ByteArray} (h : rqE s = 0) : s.data.toList ≠ [] ∧ No13 s.data.toList := by
  obtain ⟨e, h0, h1⟩ := rq_back h
  have hl : ¬ 8192 < s.size := fun hl => by rw [(rq_long hl).2.2.2] at h; exact absurd h (by decide)
  have ho : rqO s = true := by
    cases e : rqO s with
    | true => rfl
    | false => rw [(rq_no hl e).2.2.2] at h; exact absurd h (by decide)
  obtain ⟨y1, y2, _, _⟩ := rq_yes hl ho
  rw [y1, y2] at e
  unfold rqO rqH tokS at ho
  simp only [Bool.and_eq_true] at ho
  have hv : No13 (plainL (rqV s)) := by
    obtain ⟨n, hn⟩ := Int.eq_ofNat_of_zero_le h0
    rw [hn]
    exact (dig_13 (plain_facts n).1).1
  rw [← e, prq_list]
  refine ⟨by simp, ?_⟩
  refine (tok_13 ho.1.1.1.2).app ?_
  refine No13.app (a := [32]) (fun x hx => by simp at hx; subst hx; decide) ?_
  refine (vis_13 ho.2).app ?_
  refine No13.app (a := [32]) (fun x hx => by simp at hx; subst hx; decide) ?_
  exact No13.app (a := [72, 84, 84, 80, 47, 49, 46]) (fun x hx => by simp at hx; rcases hx with rfl | rfl | rfl | rfl | rfl | rfl <;> decide) hv
theorem st_line {s : ByteArray} (h : stE s = 0) : s.data.toList ≠ [] ∧ No13 s.data.toList := by
  obtain ⟨e, ⟨h0, h1⟩, hc0, hc1⟩ := st_back h
  have hl : ¬ 8192 < s.size := fun hl => by rw [(st_long hl).2.2.2] at h; exact absurd h (by decide)
  have ho : stO s = true := by
    cases e : stO s with
    | true => rfl
    | false => rw [(st_no hl e).2.2.2] at h; exact absurd h (by decide)
  obtain ⟨_, y2, _, _⟩ := st_yes hl ho
  unfold stO at ho
  simp only [Bool.and_eq_true] at ho
  have ht := ho.2.2
  rw [← y2] at ht
  have hv : No13 (plainL (stV' s)) := by
    obtain ⟨n, hn⟩ := Int.eq_ofNat_of_zero_le h0
    rw [hn]
    exact (dig_13 (plain_facts n).1).1
  have hcd : No13 (plainL (stN s)) := by
    obtain ⟨n, hn⟩ := Int.eq_ofNat_of_zero_le (show 0 ≤ stN s by omega)
    rw [hn]
    exact (dig_13 (plain_facts n).1).1
  rw [← e, pst_list]
  refine ⟨by simp, ?_⟩
  refine No13.app (No13.app (a := [72, 84, 84, 80, 47, 49, 46]) (fun x hx => by simp at hx; rcases hx with rfl | rfl | rfl | rfl | rfl | rfl <;> decide) hv) ?_
  refine No13.app (a := [32]) (fun x hx => by simp at hx; subst hx; decide) ?_
  refine hcd.app ?_
  exact No13.app (a := [32]) (fun x hx => by simp at hx; subst hx; decide) (txt_13 ht)

/-! ### What CheckRequest and CheckReply ask -/
theorem ft_ok {f : List Fd} (h : ftE f = 0) : chkN f = 0 ∧ f.length ≤ 64 ∧ fdDrop f frm = f ∧ fdAll f clS = [] ∧ fdAll f teS = [] := by
  unfold ftE at h
  by_cases hc : chkN f = 0
  · rw [if_neg (by simp [hc])] at h
    have hl : (fdDrop f frm).length = f.length := by
      by_cases e : (fdDrop f frm).length = f.length
      · exact e
      · rw [if_pos e] at h; cases h
    obtain ⟨n1, n2, n3⟩ := none_of_drop hl
    refine ⟨hc, ?_, n1, n2, n3⟩
    unfold chkN at hc
    split at hc
    · cases hc
    · omega
  · rw [if_pos hc] at h
    exact absurd h hc
theorem ckQ_ok {r : Rqst} (h : ckQ r = 0) : (0 ≤ r.v ∧ r.v ≤ 1) ∧ lqB r = true ∧ ftE r.f = 0 ∧ hoB r.f r.v = true ∧ (pmQ r).size ≤ 65536 ∧ (r.b.size ≠ 0 → r.f.length < 64) := by
  unfold ckQ at h
  split at h
  · cases h
  · rename_i h1
    split at h
    · cases h
    · rename_i h2
      split at h
      · rename_i h3; exact absurd h h3
      · rename_i h3
        split at h
        · cases h
        · rename_i h4
          split at h
          · cases h
          · rename_i h5
            split at h
            · cases h
            · rename_i h6
              refine ⟨by omega, by simpa using h2, by simpa using h3, by simpa using h4, by omega, fun hb => ?_⟩
              by_cases e : 64 ≤ r.f.length
              · exact absurd ⟨hb, e⟩ h6
              · omega
theorem ckP_ok {r : Rply} (h : ckP r = 0) : (0 ≤ r.v ∧ r.v ≤ 1) ∧ (200 ≤ r.c ∧ r.c ≤ 599) ∧ lpB r = true ∧ ftE r.f = 0 ∧ (bodL r.c = true → r.b.size = 0) ∧ (pmP r false).size ≤ 65536 ∧ (bodL r.c = false → r.f.length < 64) := by
  unfold ckP at h
  split at h
  · cases h
  · rename_i h1
    split at h
    · cases h
    · rename_i h2
      split at h
      · rename_i h3; exact absurd h h3
      · rename_i h3
        split at h
        · cases h
        · rename_i h4
          split at h
          · cases h
          · rename_i h5
            split at h
            · cases h
            · rename_i h6
              refine ⟨by omega, by omega, by simpa using h2, by simpa using h3, fun hb => ?_, by omega, fun hb => ?_⟩
              · by_cases e : r.b.size = 0
                · exact e
                · exact absurd ⟨hb, e⟩ h4
              · by_cases e : 64 ≤ r.f.length
                · exact absurd ⟨hb, e⟩ h6
                · omega

/-! ### A request's print is read -/
theorem eq_of_toList {a b : ByteArray} (h : (a.toList == b.toList) = true) : a = b := by
  have := eq_of_beq h
  rw [Lib.toList_data, Lib.toList_data] at this
  exact bytes_eq this
theorem zero_bytes {b : ByteArray} (h : b.size = 0) : b = ⟨#[]⟩ := by
  refine bytes_eq ?_
  rw [Lib.size_eq] at h
  exact List.eq_nil_of_length_eq_zero h
theorem back_q {r : Rqst} (h : ckQ r = 0) : pqE (pmQ r) = 0 ∧ pqR (pmQ r) = r := by
  obtain ⟨⟨v0, v1⟩, hl, hf, ho, hsz, h64⟩ := ckQ_ok h
  obtain ⟨hc, hn, hd, hcl, hte⟩ := ft_ok hf
  obtain ⟨m, t, v, f, b⟩ := r
  simp only at *
  unfold lqB at hl
  simp only [Bool.and_eq_true] at hl
  obtain ⟨⟨hE, hA⟩, hB⟩ := hl
  have hE : rqE (prqS m t v) = 0 := eq_of_beq hE
  have hA := eq_of_toList hA
  have hB := eq_of_toList hB
  obtain ⟨hbk, u0, u1⟩ := rq_back hE
  rw [hA, hB] at hbk
  have hV : rqV (prqS m t v) = v := prq_inj u0 v0 hbk
  obtain ⟨G, hG⟩ : ∃ G, G = if b.size = 0 then f else f ++ [cfF b.size] := ⟨_, rfl⟩
  have hb6 : b.size ≤ 65536 := by
    refine Nat.le_trans ?_ hsz
    unfold pmQ
    rw [mkS_size, List.length_append, ← Lib.size_eq]
    dsimp only
    omega
  have hraw : (pmQ ⟨m, t, v, f, b⟩).data.toList = lnsP ((prqS m t v).data.toList :: lnF G) ++ (13 :: 10 :: b.data.toList) := by
    unfold pmQ
    rw [mkS_list, lnsP_cons, lnsL_eq]
    by_cases hz : b.size = 0
    · rw [if_pos hz, hG, if_pos hz]; simp
    · rw [if_neg hz, hG, if_neg hz, cl_line]
      unfold lnF lnsP
      simp
  have hGl : G.length ≤ 64 := by
    rw [hG]
    split
    · exact hn
    · rename_i hz
      have := h64 hz
      rw [List.length_append, List.length_singleton]; omega
  have hGb : ∀ x ∈ G, flF (lineS x) = x ∧ flX (lineS x) = 0 := fun x hx => by
    rw [hG] at hx
    split at hx
    · exact lines_back hc x hx
    · rcases List.mem_append.1 hx with h2 | h2
      · exact lines_back hc x h2
      · rw [List.mem_singleton] at h2
        rw [h2]
        exact cf_back _ (by omega)
  have hG13 : ∀ x ∈ lnF G, x ≠ [] ∧ No13 x := fun x hx => by
    unfold lnF at hx
    obtain ⟨y, hy, rfl⟩ := List.mem_map.1 hx
    rw [hG] at hy
    split at hy
    · exact prp_13 (chk_zero hc y hy).1
    · rcases List.mem_append.1 hy with h2 | h2
      · exact prp_13 (chk_zero hc y h2).1
      · rw [List.mem_singleton] at h2
        rw [h2]
        exact prp_13 (cf_prp _ (by omega)).1
  obtain ⟨k1, k2, k3⟩ := hd_print hraw (fun x hx => by
    rcases List.mem_cons.1 hx with rfl | h2
    · exact rq_line hE
    · exact hG13 x h2)
  obtain ⟨w1, w2⟩ := rw_print hGl hGb
  have e1 : l1S (pmQ ⟨m, t, v, f, b⟩) = prqS m t v := by unfold l1S; rw [k1]; exact mkS_self _
  have e2 : rsF (pmQ ⟨m, t, v, f, b⟩) = G := by unfold rsF; rw [k1]; exact w2
  have e3 : rsE (pmQ ⟨m, t, v, f, b⟩) = 0 := by unfold rsE; rw [k1]; exact w1
  have e4 : hdR (pmQ ⟨m, t, v, f, b⟩) = b := by rw [k2, mkS_self]
  have hGa : fdAll G hoS = fdAll f hoS ∧ fdDrop G frm = f ∧ fdAll G teS = [] ∧ fdAll G clS = (if b.size = 0 then [] else [plainL (b.size : Int)]) := by
    rw [hG]
    split
    · exact ⟨rfl, hd, hte, hcl⟩
    · obtain ⟨q1, q2, q3, q4⟩ := all_cf f b.size
      exact ⟨q3, q4.trans hd, q2.trans hte, by rw [q1, hcl]; rfl⟩
  have hbod : bodE G b v false = 0 ∧ bodB G b v false = b := by
    unfold bodE bodB
    rw [hGa.2.2.1, hGa.2.2.2]
    split
    · rename_i hz; exact bod_none b v false (.inr hz)
    · exact bod_len b v false hb6
  have hho : hoB G v = true := by unfold hoB at ho ⊢; rw [hGa.1]; exact ho
  have hpE : pqE (pmQ ⟨m, t, v, f, b⟩) = 0 := by
    unfold pqE
    rw [if_neg (by omega), if_neg (by rw [k3]; simp), e1, e2, e3, e4, hV, if_neg (by simp [hE]), if_neg (by simp), if_neg (by rw [hho]; simp)]
    exact hbod.1
  refine ⟨hpE, ?_⟩
  unfold pqR
  rw [if_pos hpE, e1, e2, e4, hA, hB, hV, hGa.2.1, hbod.2]

end Go.Proofs.YtjcomlklmfeimaaGreatDoor
end
