/-
  Texts that the laws of this seat lean on, one behind the other.
-/
import Derived.Test.YtjcomlklmfeimaaGreatDoorMrgAG
import Derived.Deep.RegionHeld3
import Derived.Test.YtjcomlklmfeimaaGreatDoorMrgV
import Derived.Test.YtjcomlklmfeimaaGreatDoorMrgW
import Derived.Test.YtjcomlklmfeimaaGreatDoorMrgY
import Derived.Test.YtjcomlklmfeimaaGreatDoorMrgE
import Derived.Test.YtjcomlklmfeimaaGreatDoorRows
import Derived.Test.YtjcomlklmfeimaaGreatDoorMrgB
import Derived.Shelf.Vars
/-
  Contracts of package message's PrintRequest, PrintReply.
-/
section
namespace Go.Proofs.YtjcomlklmfeimaaGreatDoor
open Go.RowKit

theorem ms_sz {L : List Fd} {b : ByteArray} (h : SmlF L) (hb : b.size ≤ 100000) : (msF L b).length ≤ 1001 ∧ ∀ x ∈ msF L b, x.1.size ≤ 10000 ∧ x.2.size ≤ 10000 := by
  refine ⟨by rw [msF_len]; have := h.1; omega, fun x hx => ?_⟩
  unfold msF at hx
  rw [List.mem_append, List.mem_singleton] at hx
  rcases hx with hx | rfl
  · exact h.2 x hx
  · refine ⟨by show clS.size ≤ _; decide, ?_⟩
    show (mkS (plainL (b.size : Int))).size ≤ _
    rw [mkS_size]
    have := plainL_short (b.size : Int) (by omega) (by omega)
    omega
theorem smc_q {r : Rqst} (hm : SmlQ r) : SmC (prqS r.m r.t r.v) (rqfF r) r.b := by
  obtain ⟨g1, g2, g3, g4, g5, g6⟩ := hm
  have hp : (prqS r.m r.t r.v).size ≤ 30000 := by
    have := plainL_short r.v g5 g6
    rw [Lib.size_eq, prq_list]
    simp only [List.length_append, List.length_cons, List.length_nil]
    rw [← Lib.size_eq, ← Lib.size_eq]
    omega
  have h1 := ms_sz g4 g3
  have h2 := g4.1
  unfold rqfF
  split
  · exact ⟨by omega, by omega, g4.2, g3⟩
  · exact ⟨by omega, h1.1, h1.2, g3⟩
theorem smc_p {r : Rply} (hm : SmlP r) (hd : Bool) : SmC (pstS r.c r.r r.v) (rpfF r hd) (if hd || bodL r.c then ⟨#[]⟩ else r.b) := by
  obtain ⟨g1, g3, g4, ⟨g5, g6⟩, g7, g8⟩ := hm
  have hp : (pstS r.c r.r r.v).size ≤ 30000 := by
    have := plainL_short r.v g5 g6
    have := plainL_short r.c g7 g8
    rw [Lib.size_eq, pst_list]
    simp only [List.length_append, List.length_cons, List.length_nil]
    rw [← Lib.size_eq]
    omega
  have h1 := ms_sz g4 g3
  have h2 := g4.1
  have hb : (if hd || bodL r.c then (⟨#[]⟩ : ByteArray) else r.b).size ≤ 100000 := by
    split
    · exact Nat.zero_le _
    · exact g3
  unfold rpfF
  split
  · exact ⟨by omega, by omega, g4.2, hb⟩
  · exact ⟨by omega, h1.1, h1.2, hb⟩

set_option maxHeartbeats 16000000 in
set_option maxRecDepth 100000 in
theorem pmQ_any (r : Rqst) (A : Option Addr) (c : Nat) (w : World) (h : SlF w A r.f.length c r.f) (hm : SmlQ r) (HT : MsgTabs w) :
    Calls Tryz.prog 17 #[.agg (rqC r A c)] w fun e w' => e = .returned (.string (pmQ r)) ∧ Below w.heap.size w w' := by
  have hsc := smc_q hm
  have hq := cmp_q r
  obtain ⟨g1, g2, g3, g4, g5, g6⟩ := hm
  have gl := g4.1
  have C1 := Lib.hid (fun W (hW : Below w.heap.size w W) => printRequest_any r.m r.t r.v g5 g6 (by omega) (by omega) W (HT.kept hW).lin)
  have C2 := Lib.hid (fun W (hW : Below w.heap.size w W) A' c' (hF : SlF W A' r.f.length c' r.f) => requestFields_any r A' c' W hF (by omega) (by omega) (HT.kept hW))
  have C3 := Lib.hid (fun W A' c' (hF : SlF W A' (rqfF r).length c' (rqfF r)) => compose_any (prqS r.m r.t r.v) A' c' (rqfF r) (r.b) W hF hsc)
  rw [hq] at C3
  clear g1 g2 g3 g4 g5 g6 gl hsc hq
  unfold IsFd at *
  unfold rqC at *
  obtain ⟨m, t, v, f, b⟩ := r
  simp only at *
  generalize prqS m t v = ST at *
  generalize rqfF ⟨m, t, v, f, b⟩ = R at *
  generalize pmQ ⟨m, t, v, f, b⟩ = PM at *
  have HZ : Hid ((w.alloc (.cells #[.string m, .string t, .int .i64 v, .slice A f.length c, .string b] 25)).drew.heap[w.heap.size]? = some (.cells #[.string m, .string t, .int .i64 v, .slice A f.length c, .string b] 25 (0, 0))) := heap_alloc_new w _
  have HB : Hid (Below w.heap.size w (w.alloc (.cells #[.string m, .string t, .int .i64 v, .slice A f.length c, .string b] 25)).drew) := ((Below.refl _ _).alloc (Nat.le_refl _) _).drew
  have HF : Hid (SlF (w.alloc (.cells #[.string m, .string t, .int .i64 v, .slice A f.length c, .string b] 25)).drew A f.length c f) := (h.alloc _).drew
  clear h HT
  go_enter Tryz.func17, Tryz.ntmps17
  go_wp2_with fail
  go_region_held3 (fun W => W.cell? ⟨w.heap.size, 0, none⟩ = some (.string m) ∧ W.cell? ⟨w.heap.size, 1, none⟩ = some (.string t) ∧ W.cell? ⟨w.heap.size, 2, none⟩ = some (.int .i64 v) ∧ W.cell? ⟨w.heap.size, 3, none⟩ = some (.slice A f.length c) ∧ W.cell? ⟨w.heap.size, 4, none⟩ = some (.string b)) (exact cel5 HZ.out) (first
    | (go_at_call 47; refine (C1.out _ HB.out).mono ?_; rintro e w1 ⟨rfl, hb1⟩; have HZ := Lib.hid (zero_still hb1 HZ.out); have HF := Lib.hid (HF.out.below hb1); have HB := Lib.hid (below_then HB.out hb1); (try (have HG := Lib.hid (HG.out.below hb1))); clear hb1)
    | (go_at_call 48; refine (C2.out _ HB.out _ _ HF.out).mono ?_; rintro e w2 ⟨A2, c2, rfl, hG, hb2⟩; have HZ := Lib.hid (zero_still hb2 HZ.out); have HF := Lib.hid (HF.out.below hb2); have HB := Lib.hid (below_then HB.out hb2); (try (have HG := Lib.hid (HG.out.below hb2))); clear hb2; have HG := Lib.hid hG; clear hG)
    | (go_at_call 46; refine (C3.out _ _ _ HG.out).mono ?_; rintro e w3 ⟨rfl, hb3⟩; have HZ := Lib.hid (zero_still hb3 HZ.out); have HB := Lib.hid (below_then HB.out hb3); clear hb3))
  all_goals
    go_wp2_with fail
    go_ret
    exact ⟨rfl, HB.out⟩

set_option maxHeartbeats 16000000 in
set_option maxRecDepth 100000 in
theorem pmP_any (r : Rply) (hd : Bool) (A : Option Addr) (c : Nat) (w : World) (h : SlF w A r.f.length c r.f) (hm : SmlP r) (HT : MsgTabs w) :
    Calls Tryz.prog 19 #[.agg (rpC r A c), .bool hd] w fun e w' => e = .returned (.string (pmP r hd)) ∧ Below w.heap.size w w' := by
  have hsc := smc_p hm hd
  have hq := cmp_p r hd
  obtain ⟨g1, g3, g4, ⟨g5, g6⟩, g7, g8⟩ := hm
  have CB := Lib.hid (fun W => bodl_any r.c W)
  have gl := g4.1
  have C1 := Lib.hid (fun W (hW : Below w.heap.size w W) => printStatus_any r.c r.r r.v g7 g8 g5 g6 (by omega) W (HT.kept hW).lin)
  have C2 := Lib.hid (fun W (hW : Below w.heap.size w W) A' c' (hF : SlF W A' r.f.length c' r.f) => replyFields_any r hd A' c' W hF (by omega) (by omega) (HT.kept hW))
  have C3 := Lib.hid (fun W A' c' (hF : SlF W A' (rpfF r hd).length c' (rpfF r hd)) => compose_any (pstS r.c r.r r.v) A' c' (rpfF r hd) (if hd || bodL r.c then ⟨#[]⟩ else r.b) W hF hsc)
  rw [hq] at C3
  clear g1 g3 g4 g5 g6 g7 g8 gl hsc hq
  unfold IsFd at *
  unfold rpC at *
  obtain ⟨m, t, v, f, b⟩ := r
  simp only at *
  generalize pstS m t v = ST at *
  generalize rpfF ⟨m, t, v, f, b⟩ hd = R at *
  generalize pmP ⟨m, t, v, f, b⟩ hd = PM at *
  generalize bodL m = bl at *
  have HZ : Hid ((w.alloc (.cells #[.int .i64 m, .string t, .int .i64 v, .slice A f.length c, .string b] 34)).heap[w.heap.size]? = some (.cells #[.int .i64 m, .string t, .int .i64 v, .slice A f.length c, .string b] 34 (0, 0))) := heap_alloc_new w _
  have HB : Hid (Below w.heap.size w (w.alloc (.cells #[.int .i64 m, .string t, .int .i64 v, .slice A f.length c, .string b] 34))) := (Below.refl _ _).alloc (Nat.le_refl _) _
  have HF : Hid (SlF (w.alloc (.cells #[.int .i64 m, .string t, .int .i64 v, .slice A f.length c, .string b] 34)) A f.length c f) := h.alloc _
  clear h HT
  cases hd with
  | true =>
    simp only [Bool.true_or, if_true] at C3
    go_enter Tryz.func19, Tryz.ntmps19
    obtain ⟨x0, x1, x2, x3, x4⟩ := cel5 HZ.out
    go_wp2_with fail
    have HZ : Hid ((w.alloc (.cells #[.int .i64 m, .string t, .int .i64 v, .slice A f.length c, .string b] 34)).drew.heap[w.heap.size]? = some (.cells #[.int .i64 m, .string t, .int .i64 v, .slice A f.length c, .string b] 34 (0, 0))) := HZ.out
    have HB := Lib.hid HB.out.drew
    have HF := Lib.hid HF.out.drew
    go_region_held3 (fun W => W.cell? ⟨w.heap.size, 0, none⟩ = some (.int .i64 m) ∧ W.cell? ⟨w.heap.size, 1, none⟩ = some (.string t) ∧ W.cell? ⟨w.heap.size, 2, none⟩ = some (.int .i64 v) ∧ W.cell? ⟨w.heap.size, 3, none⟩ = some (.slice A f.length c) ∧ W.cell? ⟨w.heap.size, 4, none⟩ = some (.string b)) (exact cel5 HZ.out) (first
      | (go_at_call 52; refine (C1.out _ HB.out).mono ?_; rintro e w1 ⟨rfl, hb1⟩; have HZ := Lib.hid (zero_still hb1 HZ.out); have HF := Lib.hid (HF.out.below hb1); have HB := Lib.hid (below_then HB.out hb1); (try (have HG := Lib.hid (HG.out.below hb1))); clear hb1)
      | (go_at_call 53; refine (C2.out _ HB.out _ _ HF.out).mono ?_; rintro e w2 ⟨A2, c2, rfl, hG, hb2⟩; have HZ := Lib.hid (zero_still hb2 HZ.out); have HF := Lib.hid (HF.out.below hb2); have HB := Lib.hid (below_then HB.out hb2); (try (have HG := Lib.hid (HG.out.below hb2))); clear hb2; have HG := Lib.hid hG; clear hG)
      | (go_at_call 46; refine (C3.out _ _ _ HG.out).mono ?_; rintro e w3 ⟨rfl, hb3⟩; have HZ := Lib.hid (zero_still hb3 HZ.out); have HB := Lib.hid (below_then HB.out hb3); clear hb3))
    all_goals
      go_wp2_with fail
      go_ret
      exact ⟨rfl, HB.out⟩
  | false =>
    cases bl with
    | true =>
      simp only [Bool.or_true, if_true] at C3
      go_enter Tryz.func19, Tryz.ntmps19
      obtain ⟨x0, x1, x2, x3, x4⟩ := cel5 HZ.out
      go_wp2_with fail
      refine (CB.out _).mono ?_
      rintro e w1 ⟨rfl, hb1⟩
      have HZ := Lib.hid (zero_still hb1 HZ.out)
      have HF := Lib.hid (HF.out.below hb1)
      have HB := Lib.hid (below_then HB.out hb1)
      clear hb1 x0 x1 x2 x3 x4
      obtain ⟨x0, x1, x2, x3, x4⟩ := cel5 HZ.out
      go_wp2_with fail
      have HZ : Hid ((w1).drew.heap[w.heap.size]? = some (.cells #[.int .i64 m, .string t, .int .i64 v, .slice A f.length c, .string b] 34 (0, 0))) := HZ.out
      have HB := Lib.hid HB.out.drew
      have HF := Lib.hid HF.out.drew
      go_region_held3 (fun W => W.cell? ⟨w.heap.size, 0, none⟩ = some (.int .i64 m) ∧ W.cell? ⟨w.heap.size, 1, none⟩ = some (.string t) ∧ W.cell? ⟨w.heap.size, 2, none⟩ = some (.int .i64 v) ∧ W.cell? ⟨w.heap.size, 3, none⟩ = some (.slice A f.length c) ∧ W.cell? ⟨w.heap.size, 4, none⟩ = some (.string b)) (exact cel5 HZ.out) (first
        | (go_at_call 52; refine (C1.out _ HB.out).mono ?_; rintro e w1 ⟨rfl, hb1⟩; have HZ := Lib.hid (zero_still hb1 HZ.out); have HF := Lib.hid (HF.out.below hb1); have HB := Lib.hid (below_then HB.out hb1); (try (have HG := Lib.hid (HG.out.below hb1))); clear hb1)
        | (go_at_call 53; refine (C2.out _ HB.out _ _ HF.out).mono ?_; rintro e w2 ⟨A2, c2, rfl, hG, hb2⟩; have HZ := Lib.hid (zero_still hb2 HZ.out); have HF := Lib.hid (HF.out.below hb2); have HB := Lib.hid (below_then HB.out hb2); (try (have HG := Lib.hid (HG.out.below hb2))); clear hb2; have HG := Lib.hid hG; clear hG)
        | (go_at_call 46; refine (C3.out _ _ _ HG.out).mono ?_; rintro e w3 ⟨rfl, hb3⟩; have HZ := Lib.hid (zero_still hb3 HZ.out); have HB := Lib.hid (below_then HB.out hb3); clear hb3))
      all_goals
        go_wp2_with fail
        go_ret
        exact ⟨rfl, HB.out⟩
    | false =>
      simp only [Bool.or_false, Bool.false_eq_true, if_false] at C3
      go_enter Tryz.func19, Tryz.ntmps19
      obtain ⟨x0, x1, x2, x3, x4⟩ := cel5 HZ.out
      go_wp2_with fail
      refine (CB.out _).mono ?_
      rintro e w1 ⟨rfl, hb1⟩
      have HZ := Lib.hid (zero_still hb1 HZ.out)
      have HF := Lib.hid (HF.out.below hb1)
      have HB := Lib.hid (below_then HB.out hb1)
      clear hb1 x0 x1 x2 x3 x4
      obtain ⟨x0, x1, x2, x3, x4⟩ := cel5 HZ.out
      go_wp2_with fail
      have HZ : Hid ((w1).drew.heap[w.heap.size]? = some (.cells #[.int .i64 m, .string t, .int .i64 v, .slice A f.length c, .string b] 34 (0, 0))) := HZ.out
      have HB := Lib.hid HB.out.drew
      have HF := Lib.hid HF.out.drew
      go_region_held3 (fun W => W.cell? ⟨w.heap.size, 0, none⟩ = some (.int .i64 m) ∧ W.cell? ⟨w.heap.size, 1, none⟩ = some (.string t) ∧ W.cell? ⟨w.heap.size, 2, none⟩ = some (.int .i64 v) ∧ W.cell? ⟨w.heap.size, 3, none⟩ = some (.slice A f.length c) ∧ W.cell? ⟨w.heap.size, 4, none⟩ = some (.string b)) (exact cel5 HZ.out) (first
        | (go_at_call 52; refine (C1.out _ HB.out).mono ?_; rintro e w1 ⟨rfl, hb1⟩; have HZ := Lib.hid (zero_still hb1 HZ.out); have HF := Lib.hid (HF.out.below hb1); have HB := Lib.hid (below_then HB.out hb1); (try (have HG := Lib.hid (HG.out.below hb1))); clear hb1)
        | (go_at_call 53; refine (C2.out _ HB.out _ _ HF.out).mono ?_; rintro e w2 ⟨A2, c2, rfl, hG, hb2⟩; have HZ := Lib.hid (zero_still hb2 HZ.out); have HF := Lib.hid (HF.out.below hb2); have HB := Lib.hid (below_then HB.out hb2); (try (have HG := Lib.hid (HG.out.below hb2))); clear hb2; have HG := Lib.hid hG; clear hG)
        | (go_at_call 46; refine (C3.out _ _ _ HG.out).mono ?_; rintro e w3 ⟨rfl, hb3⟩; have HZ := Lib.hid (zero_still hb3 HZ.out); have HB := Lib.hid (below_then HB.out hb3); clear hb3))
      all_goals
        go_wp2_with fail
        go_ret
        exact ⟨rfl, HB.out⟩

end Go.Proofs.YtjcomlklmfeimaaGreatDoor
end

/-
  Contracts of package message's fieldsError, sizeError, CheckRequest, CheckReply.
-/
section
namespace Go.Proofs.YtjcomlklmfeimaaGreatDoor
open Go.RowKit

set_option maxRecDepth 100000 in
theorem fieldsError_any (A : Option Addr) (c : Nat) (L : List Fd) (w : World) (h : SlF w A L.length c L) (hn : L.length ≤ 100000000) (hB : ∀ x ∈ L, Bd x) :
    Calls Tryz.prog 55 #[.slice A L.length c] w fun e w' => e = .returned (.int .i64 (ftE L)) ∧ Below w.heap.size w w' := by
  have C1 := Lib.hid (fun W (hF : SlF W A L.length c L) => chkF_any A L.length c L W hF hn hB)
  have C2 := Lib.hid (fun W (hF : SlF W A L.length c L) => unframe_any A L.length c L W hF hn hB)
  have hD : ftE L = if chkN L ≠ 0 then chkN L else if (fdDrop L frm).length ≠ L.length then 21 else 0 := rfl
  have hle := drop_le L frm
  have HF := Lib.hid h
  have HN := Lib.hid hn
  clear h hB hn
  generalize ftE L = R at *
  generalize fdDrop L frm = D at *
  generalize chkN L = E at *
  by_cases hE : E = 0
  · rw [if_neg (by simp [hE])] at hD
    subst hE
    by_cases hl : D.length = L.length
    · rw [if_neg (by simp [hl])] at hD
      have HR := Lib.hid hD
      rw [hl, show ((L.length : Int) - (L.length : Int)) = 0 by omega] at C2
      clear hD hle hl
      go_enter Tryz.func55, Tryz.ntmps55
      go_wp2_with fail
      refine (C1.out _ HF.out).mono ?_
      rintro e w1 ⟨rfl, hb1⟩
      have HF1 := Lib.hid (HF.out.below hb1)
      have HB1 := Lib.hid hb1
      clear hb1
      go_wp2_with fail
      refine (C2.out _ HF1.out).mono ?_
      rintro e w2 ⟨v2, rfl, _, hb2⟩
      have HB2 := Lib.hid (below_then HB1.out hb2)
      clear hb2
      go_wp2_with fail
      go_ret
      exact ⟨by rw [HR.out]; rfl, HB2.out⟩
    · rw [if_pos (by simpa using hl)] at hD
      have HR := Lib.hid hD
      obtain ⟨q, hq⟩ : ∃ q : Int, (L.length : Int) - (D.length : Int) = q := ⟨_, rfl⟩
      have hq0 : (0 : Int) < q := by omega
      rw [hq] at C2
      clear hD hle hl hq
      go_enter Tryz.func55, Tryz.ntmps55
      go_wp2_with fail
      refine (C1.out _ HF.out).mono ?_
      rintro e w1 ⟨rfl, hb1⟩
      have HF1 := Lib.hid (HF.out.below hb1)
      have HB1 := Lib.hid hb1
      clear hb1
      go_wp2_with fail
      refine (C2.out _ HF1.out).mono ?_
      rintro e w2 ⟨v2, rfl, _, hb2⟩
      have HB2 := Lib.hid (below_then HB1.out hb2)
      clear hb2
      go_wp2_with fail
      go_ret
      exact ⟨by rw [HR.out]; rfl, HB2.out⟩
  · rw [if_pos (by simpa using hE)] at hD
    subst hD
    have hE1 : (R == 0) = false := by simpa using hE
    clear hE hle C2
    go_enter Tryz.func55, Tryz.ntmps55
    go_wp2_with fail
    refine (C1.out _ HF.out).mono ?_
    rintro e w1 ⟨rfl, hb1⟩
    go_wp2_with fail
    go_ret
    exact ⟨rfl, hb1⟩

set_option maxRecDepth 100000 in
theorem sizeError_any (p : ByteArray) (A : Option Addr) (c : Nat) (L : List Fd) (w : World) :
    Calls Tryz.prog 56 #[.string p, .slice A L.length c] w fun e w' => e = .returned (.int .i64 (sizE p L)) ∧ Below w.heap.size w w' := by
  have hD : sizE p L = if 65536 < p.size ∨ 64 < L.length then 4 else 0 := rfl
  generalize sizE p L = R at *
  generalize L.length = n at *
  by_cases h1 : 65536 < p.size
  · rw [if_pos (.inl h1)] at hD
    have HR := Lib.hid hD
    have h1' : (65536 : Int) < (p.size : Int) := by omega
    clear hD h1
    go_enter Tryz.func56, Tryz.ntmps56
    go_wp2_with fail
    go_ret
    exact ⟨by rw [HR.out]; rfl, Below.refl _ _⟩
  · have h1' : ¬ (65536 : Int) < (p.size : Int) := by omega
    by_cases h2 : 64 < n
    · rw [if_pos (.inr h2)] at hD
      have HR := Lib.hid hD
      have h2' : (64 : Int) < (n : Int) := by omega
      clear hD h1 h2
      go_enter Tryz.func56, Tryz.ntmps56
      go_wp2_with fail
      go_ret
      exact ⟨by rw [HR.out]; rfl, Below.refl _ _⟩
    · rw [if_neg (by omega)] at hD
      have HR := Lib.hid hD
      have h2' : ¬ (64 : Int) < (n : Int) := by omega
      clear hD h1 h2
      go_enter Tryz.func56, Tryz.ntmps56
      go_wp2_with fail
      go_ret
      exact ⟨by rw [HR.out]; rfl, Below.refl _ _⟩

set_option maxHeartbeats 16000000 in
set_option maxRecDepth 100000 in
theorem ckQ_any (r : Rqst) (A : Option Addr) (c : Nat) (w : World) (h : SlF w A r.f.length c r.f) (hm : SmlQ r) (HT : MsgTabs w) :
    Calls Tryz.prog 21 #[.agg (rqC r A c)] w fun e w' => e = .returned (.int .i64 (ckQ r)) ∧ Below w.heap.size w w' := by
  have hst : (prqS r.m r.t r.v).size ≤ maxLen := Nat.le_trans (smc_q hm).st (by decide)
  have C5 := Lib.hid (fun W (hW : Below w.heap.size w W) A' c' (hF : SlF W A' r.f.length c' r.f) => pmQ_any r A' c' W hF hm (HT.kept hW))
  obtain ⟨g1, g2, g3, g4, g5, g6⟩ := hm
  have gl := g4.1
  have gB : ∀ x ∈ r.f, Bd x := fun x hx => by
    have := g4.2 x hx
    exact ⟨by omega, by omega⟩
  have C1 := Lib.hid (fun W (hW : Below w.heap.size w W) => printRequest_any r.m r.t r.v g5 g6 (by omega) (by omega) W (HT.kept hW).lin)
  have C2 := Lib.hid (fun W (hW : Below w.heap.size w W) => request_any (prqS r.m r.t r.v) W hst (HT.kept hW).lin)
  have C3 := Lib.hid (fun W A' c' (hF : SlF W A' r.f.length c' r.f) => fieldsError_any A' c' r.f W hF (by omega) gB)
  have C4 := Lib.hid (fun hv W A' c' (hF : SlF W A' r.f.length c' r.f) => hostError_any A' r.f.length c' r.f r.v hv W hF (by omega) gB)
  have C6 := Lib.hid (fun W (hW : Below w.heap.size w W) A' c' (hF : SlF W A' r.f.length c' r.f) => requestFields_any r A' c' W hF (by omega) (by omega) (HT.kept hW))
  have C7 := Lib.hid (fun W A' c' => sizeError_any (pmQ r) A' c' (rqfF r) W)
  have hline := fun h => ckQ_line (r := r) h
  have hpast := fun h => ckQ_past (r := r) h
  have hsize := fun h => ckQ_size (r := r) h
  have hver := fun h => (lq_read (r := r) h).1
  have hho : hoE r.f r.v = if hoB r.f r.v then 0 else 26 := rfl
  clear g1 g2 g3 g4 g5 g6 gl gB hst
  unfold IsFd at *
  unfold rqC at *
  obtain ⟨m, t, v, f, b⟩ := r
  simp only at *
  generalize prqS m t v = ST at *
  generalize rqA ST = a1 at *
  generalize rqB ST = a2 at *
  generalize rqV ST = a3 at *
  generalize rqE ST = LE at *
  generalize hoE f v = he at *
  generalize hoB f v = ho at *
  generalize pmQ ⟨m, t, v, f, b⟩ = PM at *
  generalize rqfF ⟨m, t, v, f, b⟩ = RF at *
  generalize sizE PM RF = SZ at *
  generalize ckQ ⟨m, t, v, f, b⟩ = R at *
  generalize ftE f = FE at *
  have HZ : Hid ((w.alloc (.cells #[.string m, .string t, .int .i64 v, .slice A f.length c, .string b] 25)).heap[w.heap.size]? = some (.cells #[.string m, .string t, .int .i64 v, .slice A f.length c, .string b] 25 (0, 0))) := heap_alloc_new w _
  have HB : Hid (Below w.heap.size w (w.alloc (.cells #[.string m, .string t, .int .i64 v, .slice A f.length c, .string b] 25))) := (Below.refl _ _).alloc (Nat.le_refl _) _
  have HF : Hid (SlF (w.alloc (.cells #[.string m, .string t, .int .i64 v, .slice A f.length c, .string b] 25)) A f.length c f) := h.alloc _
  clear h HT
  by_cases hLE : LE = 0
  · have hR := hpast hLE
    clear hline hpast
    have hv := hver hLE
    have C4 := Lib.hid (C4.out (by omega))
    clear hver
    subst hLE
    by_cases hFE : FE = 0
    · rw [if_neg (by simp [hFE])] at hR
      have hsz := hsize hFE
      clear hsize
      subst hFE
      cases ho with
      | false =>
        rw [if_pos rfl] at hR
        obtain rfl : he = 26 := hho
        have HR := Lib.hid hR
        clear hR hsz hv C5 C6 C7
        go_enter Tryz.func21, Tryz.ntmps21
        obtain ⟨x0, x1, x2, x3, x4⟩ := cel5 HZ.out
        go_wp2_with fail
        refine (C1.out _ HB.out).mono ?_
        rintro e w1 ⟨rfl, hb1⟩
        have HZ := Lib.hid (zero_still hb1 HZ.out)
        have HF := Lib.hid (HF.out.below hb1)
        have HB := Lib.hid (below_then HB.out hb1)
        clear hb1
        clear x0 x1 x2 x3 x4
        obtain ⟨x0, x1, x2, x3, x4⟩ := cel5 HZ.out
        go_wp2_with fail
        refine (C2.out _ HB.out).mono ?_
        rintro e w1 ⟨rfl, hb1⟩
        have HZ := Lib.hid (zero_still hb1 HZ.out)
        have HF := Lib.hid (HF.out.below hb1)
        have HB := Lib.hid (below_then HB.out hb1)
        clear hb1
        clear x0 x1 x2 x3 x4
        obtain ⟨x0, x1, x2, x3, x4⟩ := cel5 HZ.out
        go_wp2_with fail
        refine (C3.out _ _ _ HF.out).mono ?_
        rintro e w1 ⟨rfl, hb1⟩
        have HZ := Lib.hid (zero_still hb1 HZ.out)
        have HF := Lib.hid (HF.out.below hb1)
        have HB := Lib.hid (below_then HB.out hb1)
        clear hb1
        clear x0 x1 x2 x3 x4
        obtain ⟨x0, x1, x2, x3, x4⟩ := cel5 HZ.out
        go_wp2_with fail
        refine (C4.out _ _ _ HF.out).mono ?_
        rintro e w1 ⟨rfl, hb1⟩
        have HZ := Lib.hid (zero_still hb1 HZ.out)
        have HF := Lib.hid (HF.out.below hb1)
        have HB := Lib.hid (below_then HB.out hb1)
        clear hb1
        clear x0 x1 x2 x3 x4
        obtain ⟨x0, x1, x2, x3, x4⟩ := cel5 HZ.out
        go_wp2_with fail
        go_ret
        exact ⟨by rw [HR.out]; rfl, HB.out⟩
      | true =>
        rw [if_neg (by simp)] at hR
        obtain rfl : he = 0 := hho
        have HR : Hid ((Ending.returned (.int .i64 SZ)) = .returned (.int .i64 R)) := by show _ = _; rw [hR, hsz]
        clear hR hsz hv
        go_enter Tryz.func21, Tryz.ntmps21
        obtain ⟨x0, x1, x2, x3, x4⟩ := cel5 HZ.out
        go_wp2_with fail
        refine (C1.out _ HB.out).mono ?_
        rintro e w1 ⟨rfl, hb1⟩
        have HZ := Lib.hid (zero_still hb1 HZ.out)
        have HF := Lib.hid (HF.out.below hb1)
        have HB := Lib.hid (below_then HB.out hb1)
        clear hb1
        clear x0 x1 x2 x3 x4
        obtain ⟨x0, x1, x2, x3, x4⟩ := cel5 HZ.out
        go_wp2_with fail
        refine (C2.out _ HB.out).mono ?_
        rintro e w1 ⟨rfl, hb1⟩
        have HZ := Lib.hid (zero_still hb1 HZ.out)
        have HF := Lib.hid (HF.out.below hb1)
        have HB := Lib.hid (below_then HB.out hb1)
        clear hb1
        clear x0 x1 x2 x3 x4
        obtain ⟨x0, x1, x2, x3, x4⟩ := cel5 HZ.out
        go_wp2_with fail
        refine (C3.out _ _ _ HF.out).mono ?_
        rintro e w1 ⟨rfl, hb1⟩
        have HZ := Lib.hid (zero_still hb1 HZ.out)
        have HF := Lib.hid (HF.out.below hb1)
        have HB := Lib.hid (below_then HB.out hb1)
        clear hb1
        clear x0 x1 x2 x3 x4
        obtain ⟨x0, x1, x2, x3, x4⟩ := cel5 HZ.out
        go_wp2_with fail
        refine (C4.out _ _ _ HF.out).mono ?_
        rintro e w1 ⟨rfl, hb1⟩
        have HZ := Lib.hid (zero_still hb1 HZ.out)
        have HF := Lib.hid (HF.out.below hb1)
        have HB := Lib.hid (below_then HB.out hb1)
        clear hb1
        clear x0 x1 x2 x3 x4
        obtain ⟨x0, x1, x2, x3, x4⟩ := cel5 HZ.out
        have HB := Lib.hid HB.out.drew
        have HZ : Hid (w1.drew.heap[w.heap.size]? = some (.cells #[.string m, .string t, .int .i64 v, .slice A f.length c, .string b] 25 (0, 0))) := HZ.out
        have HF := Lib.hid HF.out.drew
        go_wp2_with fail
        go_region_held3 (fun W => W.cell? ⟨w.heap.size, 0, none⟩ = some (.string m) ∧ W.cell? ⟨w.heap.size, 1, none⟩ = some (.string t) ∧ W.cell? ⟨w.heap.size, 2, none⟩ = some (.int .i64 v) ∧ W.cell? ⟨w.heap.size, 3, none⟩ = some (.slice A f.length c) ∧ W.cell? ⟨w.heap.size, 4, none⟩ = some (.string b)) (exact cel5 HZ.out) (first
          | (go_at_call 17; refine (C5.out _ HB.out _ _ HF.out).mono ?_; rintro e w5 ⟨rfl, hb1⟩; have HZ := Lib.hid (zero_still hb1 HZ.out); have HF := Lib.hid (HF.out.below hb1); have HB := Lib.hid (below_then HB.out hb1); (try (have HG := Lib.hid (HG.out.below hb1))); clear hb1)
          | (go_at_call 48; refine (C6.out _ HB.out _ _ HF.out).mono ?_; rintro e w6 ⟨A2, c2, rfl, hG, hb1⟩; have HZ := Lib.hid (zero_still hb1 HZ.out); have HF := Lib.hid (HF.out.below hb1); have HB := Lib.hid (below_then HB.out hb1); (try (have HG := Lib.hid (HG.out.below hb1))); clear hb1; have HG := Lib.hid hG; clear hG)
          | (go_at_call 56; refine (C7.out _ _ _).mono ?_; rintro e w7 ⟨rfl, hb1⟩; have HZ := Lib.hid (zero_still hb1 HZ.out); have HB := Lib.hid (below_then HB.out hb1); clear hb1))
        all_goals
          go_wp2_with fail
          go_ret
          exact ⟨HR.out, HB.out⟩
    · rw [if_pos (by simpa using hFE)] at hR
      have hFE1 : (FE == 0) = false := by simpa using hFE
      have HR := Lib.hid hR
      clear hR hsize hFE C5 C6 C7 C4 hv
      go_enter Tryz.func21, Tryz.ntmps21
      obtain ⟨x0, x1, x2, x3, x4⟩ := cel5 HZ.out
      go_wp2_with fail
      refine (C1.out _ HB.out).mono ?_
      rintro e w1 ⟨rfl, hb1⟩
      have HZ := Lib.hid (zero_still hb1 HZ.out)
      have HF := Lib.hid (HF.out.below hb1)
      have HB := Lib.hid (below_then HB.out hb1)
      clear hb1
      clear x0 x1 x2 x3 x4
      obtain ⟨x0, x1, x2, x3, x4⟩ := cel5 HZ.out
      go_wp2_with fail
      refine (C2.out _ HB.out).mono ?_
      rintro e w1 ⟨rfl, hb1⟩
      have HZ := Lib.hid (zero_still hb1 HZ.out)
      have HF := Lib.hid (HF.out.below hb1)
      have HB := Lib.hid (below_then HB.out hb1)
      clear hb1
      clear x0 x1 x2 x3 x4
      obtain ⟨x0, x1, x2, x3, x4⟩ := cel5 HZ.out
      go_wp2_with fail
      refine (C3.out _ _ _ HF.out).mono ?_
      rintro e w1 ⟨rfl, hb1⟩
      have HZ := Lib.hid (zero_still hb1 HZ.out)
      have HF := Lib.hid (HF.out.below hb1)
      have HB := Lib.hid (below_then HB.out hb1)
      clear hb1
      clear x0 x1 x2 x3 x4
      obtain ⟨x0, x1, x2, x3, x4⟩ := cel5 HZ.out
      go_wp2_with fail
      go_ret
      exact ⟨by rw [HR.out]; rfl, HB.out⟩
  · have HR := Lib.hid (hline hLE)
    have hLE1 : (LE == 0) = false := by simpa using hLE
    clear hline hpast hsize hLE C3 C5 C6 C7 C4 hver
    go_enter Tryz.func21, Tryz.ntmps21
    obtain ⟨x0, x1, x2, x3, x4⟩ := cel5 HZ.out
    go_wp2_with fail
    refine (C1.out _ HB.out).mono ?_
    rintro e w1 ⟨rfl, hb1⟩
    have HZ := Lib.hid (zero_still hb1 HZ.out)
    have HF := Lib.hid (HF.out.below hb1)
    have HB := Lib.hid (below_then HB.out hb1)
    clear hb1
    clear x0 x1 x2 x3 x4
    obtain ⟨x0, x1, x2, x3, x4⟩ := cel5 HZ.out
    go_wp2_with fail
    refine (C2.out _ HB.out).mono ?_
    rintro e w1 ⟨rfl, hb1⟩
    have HZ := Lib.hid (zero_still hb1 HZ.out)
    have HF := Lib.hid (HF.out.below hb1)
    have HB := Lib.hid (below_then HB.out hb1)
    clear hb1
    clear x0 x1 x2 x3 x4
    obtain ⟨x0, x1, x2, x3, x4⟩ := cel5 HZ.out
    go_wp2_with fail
    go_ret
    exact ⟨by rw [HR.out]; rfl, HB.out⟩

set_option maxHeartbeats 16000000 in
set_option maxRecDepth 100000 in
theorem ckP_any (r : Rply) (A : Option Addr) (c : Nat) (w : World) (h : SlF w A r.f.length c r.f) (hm : SmlP r) (HT : MsgTabs w) :
    Calls Tryz.prog 23 #[.agg (rpC r A c)] w fun e w' => e = .returned (.int .i64 (ckP r)) ∧ Below w.heap.size w w' := by
  have hst : (pstS r.c r.r r.v).size ≤ maxLen := Nat.le_trans (smc_p hm false).st (by decide)
  have C5 := Lib.hid (fun W (hW : Below w.heap.size w W) A' c' (hF : SlF W A' r.f.length c' r.f) => pmP_any r false A' c' W hF hm (HT.kept hW))
  obtain ⟨g1, g3, g4, ⟨g5, g6⟩, g7, g8⟩ := hm
  have CB := Lib.hid (fun W (_ : Below w.heap.size w W) => bodl_any r.c W)
  have gl := g4.1
  have gB : ∀ x ∈ r.f, Bd x := fun x hx => by
    have := g4.2 x hx
    exact ⟨by omega, by omega⟩
  have C1 := Lib.hid (fun W (hW : Below w.heap.size w W) => printStatus_any r.c r.r r.v g7 g8 g5 g6 (by omega) W (HT.kept hW).lin)
  have C2 := Lib.hid (fun W (hW : Below w.heap.size w W) => mstatus_any (pstS r.c r.r r.v) W hst (HT.kept hW).lin)
  have C3 := Lib.hid (fun W A' c' (hF : SlF W A' r.f.length c' r.f) => fieldsError_any A' c' r.f W hF (by omega) gB)
  have C6 := Lib.hid (fun W (hW : Below w.heap.size w W) A' c' (hF : SlF W A' r.f.length c' r.f) => replyFields_any r false A' c' W hF (by omega) (by omega) (HT.kept hW))
  have C7 := Lib.hid (fun W A' c' => sizeError_any (pmP r false) A' c' (rpfF r false) W)
  have hline := fun h => ckP_line (r := r) h
  have hpast := fun h => ckP_past (r := r) h
  have hsize := fun h => ckP_size (r := r) h
  clear g1 g3 g4 g5 g6 g7 g8 gl gB hst
  unfold IsFd at *
  unfold rpC at *
  obtain ⟨m, t, v, f, b⟩ := r
  simp only at *
  generalize pstS m t v = ST at *
  generalize mstE ST = LE at *
  generalize bodL m = bl at *
  generalize pmP ⟨m, t, v, f, b⟩ false = PM at *
  generalize rpfF ⟨m, t, v, f, b⟩ false = RF at *
  generalize sizE PM RF = SZ at *
  generalize ckP ⟨m, t, v, f, b⟩ = R at *
  generalize ftE f = FE at *
  have HZ : Hid ((w.alloc (.cells #[.int .i64 m, .string t, .int .i64 v, .slice A f.length c, .string b] 34)).heap[w.heap.size]? = some (.cells #[.int .i64 m, .string t, .int .i64 v, .slice A f.length c, .string b] 34 (0, 0))) := heap_alloc_new w _
  have HB : Hid (Below w.heap.size w (w.alloc (.cells #[.int .i64 m, .string t, .int .i64 v, .slice A f.length c, .string b] 34))) := (Below.refl _ _).alloc (Nat.le_refl _) _
  have HF : Hid (SlF (w.alloc (.cells #[.int .i64 m, .string t, .int .i64 v, .slice A f.length c, .string b] 34)) A f.length c f) := h.alloc _
  clear h HT
  by_cases hLE : LE = 0
  · have hR := hpast hLE
    clear hline hpast
    subst hLE
    by_cases hFE : FE = 0
    · rw [if_neg (by simp [hFE])] at hR
      have hsz := hsize hFE
      clear hsize
      subst hFE
      by_cases hz : b.size = 0
      · skip
        have hem := nil_str hz
        have hem' : (b.toList == []) = true := by simpa using hem
        rw [if_neg (by simp [hz])] at hR
        have HR : Hid ((Ending.returned (.int .i64 SZ)) = .returned (.int .i64 R)) := by show _ = _; rw [hR, hsz]
        clear hR hsz
        go_enter Tryz.func23, Tryz.ntmps23
        obtain ⟨x0, x1, x2, x3, x4⟩ := cel5 HZ.out
        go_wp2_with fail
        refine (C1.out _ HB.out).mono ?_
        rintro e w1 ⟨rfl, hb1⟩
        have HZ := Lib.hid (zero_still hb1 HZ.out)
        have HF := Lib.hid (HF.out.below hb1)
        have HB := Lib.hid (below_then HB.out hb1)
        clear hb1
        clear x0 x1 x2 x3 x4
        obtain ⟨x0, x1, x2, x3, x4⟩ := cel5 HZ.out
        go_wp2_with fail
        refine (C2.out _ HB.out).mono ?_
        rintro e w1 ⟨qn, qr, qv, rfl, _, hb1⟩
        have HZ := Lib.hid (zero_still hb1 HZ.out)
        have HF := Lib.hid (HF.out.below hb1)
        have HB := Lib.hid (below_then HB.out hb1)
        clear hb1
        clear x0 x1 x2 x3 x4
        obtain ⟨x0, x1, x2, x3, x4⟩ := cel5 HZ.out
        go_wp2_with fail
        refine (C3.out _ _ _ HF.out).mono ?_
        rintro e w1 ⟨rfl, hb1⟩
        have HZ := Lib.hid (zero_still hb1 HZ.out)
        have HF := Lib.hid (HF.out.below hb1)
        have HB := Lib.hid (below_then HB.out hb1)
        clear hb1
        clear x0 x1 x2 x3 x4
        obtain ⟨x0, x1, x2, x3, x4⟩ := cel5 HZ.out
        have HB := Lib.hid HB.out.drew
        have HZ : Hid (w1.drew.heap[w.heap.size]? = some (.cells #[.int .i64 m, .string t, .int .i64 v, .slice A f.length c, .string b] 34 (0, 0))) := HZ.out
        have HF := Lib.hid HF.out.drew
        go_wp2_with fail
        go_region_held3 (fun W => W.cell? ⟨w.heap.size, 0, none⟩ = some (.int .i64 m) ∧ W.cell? ⟨w.heap.size, 1, none⟩ = some (.string t) ∧ W.cell? ⟨w.heap.size, 2, none⟩ = some (.int .i64 v) ∧ W.cell? ⟨w.heap.size, 3, none⟩ = some (.slice A f.length c) ∧ W.cell? ⟨w.heap.size, 4, none⟩ = some (.string b)) (exact cel5 HZ.out) (first
          | (go_at_call 19; refine (C5.out _ HB.out _ _ HF.out).mono ?_; rintro e w5 ⟨rfl, hb1⟩; have HZ := Lib.hid (zero_still hb1 HZ.out); have HF := Lib.hid (HF.out.below hb1); have HB := Lib.hid (below_then HB.out hb1); (try (have HG := Lib.hid (HG.out.below hb1))); clear hb1)
          | (go_at_call 53; refine (C6.out _ HB.out _ _ HF.out).mono ?_; rintro e w6 ⟨A2, c2, rfl, hG, hb1⟩; have HZ := Lib.hid (zero_still hb1 HZ.out); have HF := Lib.hid (HF.out.below hb1); have HB := Lib.hid (below_then HB.out hb1); (try (have HG := Lib.hid (HG.out.below hb1))); clear hb1; have HG := Lib.hid hG; clear hG)
          | (go_at_call 56; refine (C7.out _ _ _).mono ?_; rintro e w7 ⟨rfl, hb1⟩; have HZ := Lib.hid (zero_still hb1 HZ.out); have HB := Lib.hid (below_then HB.out hb1); clear hb1))
        all_goals
          go_wp2_with fail
          go_ret
          exact ⟨HR.out, HB.out⟩
      · cases bl with
        | true =>
          have hem := non_str hz
          have hem' : (b.toList == []) = false := by simpa using hem
          rw [if_pos ⟨rfl, hz⟩] at hR
          have HR := Lib.hid hR
          clear hR hsz
          go_enter Tryz.func23, Tryz.ntmps23
          obtain ⟨x0, x1, x2, x3, x4⟩ := cel5 HZ.out
          go_wp2_with fail
          refine (C1.out _ HB.out).mono ?_
          rintro e w1 ⟨rfl, hb1⟩
          have HZ := Lib.hid (zero_still hb1 HZ.out)
          have HF := Lib.hid (HF.out.below hb1)
          have HB := Lib.hid (below_then HB.out hb1)
          clear hb1
          clear x0 x1 x2 x3 x4
          obtain ⟨x0, x1, x2, x3, x4⟩ := cel5 HZ.out
          go_wp2_with fail
          refine (C2.out _ HB.out).mono ?_
          rintro e w1 ⟨qn, qr, qv, rfl, _, hb1⟩
          have HZ := Lib.hid (zero_still hb1 HZ.out)
          have HF := Lib.hid (HF.out.below hb1)
          have HB := Lib.hid (below_then HB.out hb1)
          clear hb1
          clear x0 x1 x2 x3 x4
          obtain ⟨x0, x1, x2, x3, x4⟩ := cel5 HZ.out
          go_wp2_with fail
          refine (C3.out _ _ _ HF.out).mono ?_
          rintro e w1 ⟨rfl, hb1⟩
          have HZ := Lib.hid (zero_still hb1 HZ.out)
          have HF := Lib.hid (HF.out.below hb1)
          have HB := Lib.hid (below_then HB.out hb1)
          clear hb1
          clear x0 x1 x2 x3 x4
          obtain ⟨x0, x1, x2, x3, x4⟩ := cel5 HZ.out
          go_wp2_with fail
          refine (CB.out _ HB.out).mono ?_
          rintro e w1 ⟨rfl, hb1⟩
          have HZ := Lib.hid (zero_still hb1 HZ.out)
          have HF := Lib.hid (HF.out.below hb1)
          have HB := Lib.hid (below_then HB.out hb1)
          clear hb1
          clear x0 x1 x2 x3 x4
          obtain ⟨x0, x1, x2, x3, x4⟩ := cel5 HZ.out
          go_wp2_with fail
          go_ret
          exact ⟨by rw [HR.out]; rfl, HB.out⟩
        | false =>
          have hem := non_str hz
          have hem' : (b.toList == []) = false := by simpa using hem
          rw [if_neg (by simp)] at hR
          have HR : Hid ((Ending.returned (.int .i64 SZ)) = .returned (.int .i64 R)) := by show _ = _; rw [hR, hsz]
          clear hR hsz
          go_enter Tryz.func23, Tryz.ntmps23
          obtain ⟨x0, x1, x2, x3, x4⟩ := cel5 HZ.out
          go_wp2_with fail
          refine (C1.out _ HB.out).mono ?_
          rintro e w1 ⟨rfl, hb1⟩
          have HZ := Lib.hid (zero_still hb1 HZ.out)
          have HF := Lib.hid (HF.out.below hb1)
          have HB := Lib.hid (below_then HB.out hb1)
          clear hb1
          clear x0 x1 x2 x3 x4
          obtain ⟨x0, x1, x2, x3, x4⟩ := cel5 HZ.out
          go_wp2_with fail
          refine (C2.out _ HB.out).mono ?_
          rintro e w1 ⟨qn, qr, qv, rfl, _, hb1⟩
          have HZ := Lib.hid (zero_still hb1 HZ.out)
          have HF := Lib.hid (HF.out.below hb1)
          have HB := Lib.hid (below_then HB.out hb1)
          clear hb1
          clear x0 x1 x2 x3 x4
          obtain ⟨x0, x1, x2, x3, x4⟩ := cel5 HZ.out
          go_wp2_with fail
          refine (C3.out _ _ _ HF.out).mono ?_
          rintro e w1 ⟨rfl, hb1⟩
          have HZ := Lib.hid (zero_still hb1 HZ.out)
          have HF := Lib.hid (HF.out.below hb1)
          have HB := Lib.hid (below_then HB.out hb1)
          clear hb1
          clear x0 x1 x2 x3 x4
          obtain ⟨x0, x1, x2, x3, x4⟩ := cel5 HZ.out
          go_wp2_with fail
          refine (CB.out _ HB.out).mono ?_
          rintro e w1 ⟨rfl, hb1⟩
          have HZ := Lib.hid (zero_still hb1 HZ.out)
          have HF := Lib.hid (HF.out.below hb1)
          have HB := Lib.hid (below_then HB.out hb1)
          clear hb1
          clear x0 x1 x2 x3 x4
          obtain ⟨x0, x1, x2, x3, x4⟩ := cel5 HZ.out
          have HB := Lib.hid HB.out.drew
          have HZ : Hid (w1.drew.heap[w.heap.size]? = some (.cells #[.int .i64 m, .string t, .int .i64 v, .slice A f.length c, .string b] 34 (0, 0))) := HZ.out
          have HF := Lib.hid HF.out.drew
          go_wp2_with fail
          go_region_held3 (fun W => W.cell? ⟨w.heap.size, 0, none⟩ = some (.int .i64 m) ∧ W.cell? ⟨w.heap.size, 1, none⟩ = some (.string t) ∧ W.cell? ⟨w.heap.size, 2, none⟩ = some (.int .i64 v) ∧ W.cell? ⟨w.heap.size, 3, none⟩ = some (.slice A f.length c) ∧ W.cell? ⟨w.heap.size, 4, none⟩ = some (.string b)) (exact cel5 HZ.out) (first
            | (go_at_call 19; refine (C5.out _ HB.out _ _ HF.out).mono ?_; rintro e w5 ⟨rfl, hb1⟩; have HZ := Lib.hid (zero_still hb1 HZ.out); have HF := Lib.hid (HF.out.below hb1); have HB := Lib.hid (below_then HB.out hb1); (try (have HG := Lib.hid (HG.out.below hb1))); clear hb1)
            | (go_at_call 53; refine (C6.out _ HB.out _ _ HF.out).mono ?_; rintro e w6 ⟨A2, c2, rfl, hG, hb1⟩; have HZ := Lib.hid (zero_still hb1 HZ.out); have HF := Lib.hid (HF.out.below hb1); have HB := Lib.hid (below_then HB.out hb1); (try (have HG := Lib.hid (HG.out.below hb1))); clear hb1; have HG := Lib.hid hG; clear hG)
            | (go_at_call 56; refine (C7.out _ _ _).mono ?_; rintro e w7 ⟨rfl, hb1⟩; have HZ := Lib.hid (zero_still hb1 HZ.out); have HB := Lib.hid (below_then HB.out hb1); clear hb1))
          all_goals
            go_wp2_with fail
            go_ret
            exact ⟨HR.out, HB.out⟩
    · rw [if_pos (by simpa using hFE)] at hR
      have hFE1 : (FE == 0) = false := by simpa using hFE
      have HR := Lib.hid hR
      clear hR hsize hFE C5 C6 C7
      go_enter Tryz.func23, Tryz.ntmps23
      obtain ⟨x0, x1, x2, x3, x4⟩ := cel5 HZ.out
      go_wp2_with fail
      refine (C1.out _ HB.out).mono ?_
      rintro e w1 ⟨rfl, hb1⟩
      have HZ := Lib.hid (zero_still hb1 HZ.out)
      have HF := Lib.hid (HF.out.below hb1)
      have HB := Lib.hid (below_then HB.out hb1)
      clear hb1
      clear x0 x1 x2 x3 x4
      obtain ⟨x0, x1, x2, x3, x4⟩ := cel5 HZ.out
      go_wp2_with fail
      refine (C2.out _ HB.out).mono ?_
      rintro e w1 ⟨qn, qr, qv, rfl, _, hb1⟩
      have HZ := Lib.hid (zero_still hb1 HZ.out)
      have HF := Lib.hid (HF.out.below hb1)
      have HB := Lib.hid (below_then HB.out hb1)
      clear hb1
      clear x0 x1 x2 x3 x4
      obtain ⟨x0, x1, x2, x3, x4⟩ := cel5 HZ.out
      go_wp2_with fail
      refine (C3.out _ _ _ HF.out).mono ?_
      rintro e w1 ⟨rfl, hb1⟩
      have HZ := Lib.hid (zero_still hb1 HZ.out)
      have HF := Lib.hid (HF.out.below hb1)
      have HB := Lib.hid (below_then HB.out hb1)
      clear hb1
      clear x0 x1 x2 x3 x4
      obtain ⟨x0, x1, x2, x3, x4⟩ := cel5 HZ.out
      go_wp2_with fail
      go_ret
      exact ⟨by rw [HR.out]; rfl, HB.out⟩
  · have HR := Lib.hid (hline hLE)
    have hLE1 : (LE == 0) = false := by simpa using hLE
    clear hline hpast hsize hLE C3 C5 C6 C7
    go_enter Tryz.func23, Tryz.ntmps23
    obtain ⟨x0, x1, x2, x3, x4⟩ := cel5 HZ.out
    go_wp2_with fail
    refine (C1.out _ HB.out).mono ?_
    rintro e w1 ⟨rfl, hb1⟩
    have HZ := Lib.hid (zero_still hb1 HZ.out)
    have HF := Lib.hid (HF.out.below hb1)
    have HB := Lib.hid (below_then HB.out hb1)
    clear hb1
    clear x0 x1 x2 x3 x4
    obtain ⟨x0, x1, x2, x3, x4⟩ := cel5 HZ.out
    go_wp2_with fail
    refine (C2.out _ HB.out).mono ?_
    rintro e w1 ⟨qn, qr, qv, rfl, _, hb1⟩
    have HZ := Lib.hid (zero_still hb1 HZ.out)
    have HF := Lib.hid (HF.out.below hb1)
    have HB := Lib.hid (below_then HB.out hb1)
    clear hb1
    clear x0 x1 x2 x3 x4
    obtain ⟨x0, x1, x2, x3, x4⟩ := cel5 HZ.out
    go_wp2_with fail
    go_ret
    exact ⟨by rw [HR.out]; rfl, HB.out⟩

end Go.Proofs.YtjcomlklmfeimaaGreatDoor
end

/-
  Package message at the real seat: its contracts (MspG, MspL, MspN), and what the rows' list of variables and the world's shape give them.
-/
section
namespace Go.Proofs.YtjcomlklmfeimaaGreatDoor
open Go.RowKit

def brTab : List Int := [0, 1, 56, 2, 57, 49, 28, 3, 61, 58, 42, 50, 38, 29, 17, 4, 62, 47, 59, 36, 45, 43, 51, 22, 53, 39, 33, 30, 24, 18, 12, 5, 63, 55, 48, 27, 60, 41, 37, 16, 46, 35, 44, 21, 52, 32, 23, 11, 54, 26, 40, 15, 34, 20, 31, 10, 25, 14, 19, 9, 13, 8, 7, 6]
theorem pow_data : (Rows.laid_internal_strconv_uint64pow10 : DataW Unit) = Lib.tabData .u64 Lib.pow10Tab := by kernel_rfl
theorem msgTabs {W : World} (h : laidMetH Tryz.prog Rows.messageRequestsRow.laid W) (hsh : W.ShapedOpen Tryz.prog) : MsgTabs W := by
  rw [MakeChecks.laidMetH_plain _ _ _ (by kernel_rfl)] at h
  have hB := tab_in (k := .u8) (zs := brTab) (n := 64) h (.tail _ (.head _)) (by kernel_rfl) (g := 5) (by kernel_rfl) (t := 228) (by kernel_rfl) Tryz.underlying228 Tryz.underlying5 (by kernel_rfl) (by kernel_rfl)
  exact ⟨⟨tab_in (n := 20) h (.tail _ (.tail _ (.head _))) pow_data (g := 3) (by kernel_rfl) (t := 220) (by kernel_rfl) Tryz.underlying220 Tryz.underlying133 (by kernel_rfl) (by kernel_rfl)⟩,
    ⟨hB.cell (by kernel_rfl) 15 (by decide), cell_of_shapedOpen_int (zero := #[.int .i64 0]) (t := 3) hsh (of_decide_eq_true (by kernel_rfl)) (by kernel_rfl) rfl (by kernel_rfl) (by kernel_rfl) Tryz.underlying3⟩⟩

end Go.Proofs.YtjcomlklmfeimaaGreatDoor
end

/-
  The page's example (messages) of layer 12.
-/
section
namespace Go.Proofs.YtjcomlklmfeimaaGreatDoor
open Go.RowKit

def x12a : ByteArray := ⟨#[71, 69, 84, 32, 47, 32, 72, 84, 84, 80, 47, 49, 46, 49, 13, 10, 72, 111, 115, 116, 58, 32, 97, 13, 10, 13, 10]⟩
def x12b : ByteArray := ⟨#[80, 85, 84, 32, 47, 32, 72, 84, 84, 80, 47, 49, 46, 49, 13, 10, 72, 111, 115, 116, 58, 32, 97, 13, 10, 67, 111, 110, 116, 101, 110, 116, 45, 76, 101, 110, 103, 116, 104, 58, 32, 50, 13, 10, 13, 10, 97, 98]⟩
def x12c : ByteArray := ⟨#[80, 85, 84, 32, 47, 32, 72, 84, 84, 80, 47, 49, 46, 49, 13, 10, 72, 111, 115, 116, 58, 32, 97, 13, 10, 67, 111, 110, 116, 101, 110, 116, 45, 76, 101, 110, 103, 116, 104, 58, 32, 50, 13, 10, 84, 114, 97, 110, 115, 102, 101, 114, 45, 69, 110, 99, 111, 100, 105, 110, 103, 58, 32, 99, 104, 117, 110, 107, 101, 100, 13, 10, 13, 10, 97, 98]⟩
def x12d : ByteArray := ⟨#[72, 84, 84, 80, 47, 49, 46, 49, 32, 50, 48, 48, 32, 79, 75, 13, 10, 65, 58, 32, 98, 13, 10, 13, 10, 120, 121, 122]⟩
def x12g : ByteArray := ⟨#[71, 69, 84]⟩
def r12a : Rqst := ⟨⟨#[71, 69, 84]⟩, ⟨#[47]⟩, 1, [(⟨#[72, 111, 115, 116]⟩, ⟨#[97]⟩)], ⟨#[]⟩⟩
def r12b : Rqst := ⟨⟨#[80, 85, 84]⟩, ⟨#[47]⟩, 1, [(⟨#[72, 111, 115, 116]⟩, ⟨#[97]⟩)], ⟨#[97, 98]⟩⟩
def r12d : Rply := ⟨200, ⟨#[79, 75]⟩, 1, [(⟨#[65]⟩, ⟨#[98]⟩)], ⟨#[120, 121, 122]⟩⟩
def x12e : ByteArray := ⟨#[72, 84, 84, 80, 47, 49, 46, 49, 32, 50, 48, 48, 32, 79, 75, 13, 10, 65, 58, 32, 98, 13, 10, 67, 111, 110, 116, 101, 110, 116, 45, 76, 101, 110, 103, 116, 104, 58, 32, 51, 13, 10, 13, 10, 120, 121, 122]⟩
theorem x12a_ok : pqE x12a = 0 ∧ pqR x12a = r12a := by constructor <;> kernel_rfl
theorem x12b_ok : pqE x12b = 0 ∧ pqR x12b = r12b := by constructor <;> kernel_rfl
theorem x12c_ok : pqE x12c = 22 := by kernel_rfl
theorem x12d_ok : ppE x12d x12g = 0 ∧ ppR x12d x12g = r12d := by constructor <;> kernel_rfl
theorem x12_prints : pmQ r12a = x12a ∧ pmP r12d false = x12e := by constructor <;> kernel_rfl
theorem x12_checks : ckQ r12a = 0 ∧ ckP r12d = 0 := by constructor <;> kernel_rfl

/-! ### The walk -/
theorem e12a (w : World) (HT : MsgTabs w) : Calls Tryz.prog 9 #[.string ⟨#[71, 69, 84, 32, 47, 32, 72, 84, 84, 80, 47, 49, 46, 49, 13, 10, 72, 111, 115, 116, 58, 32, 97, 13, 10, 13, 10]⟩] w fun e w' => ∃ A c, e = .returned (.tuple #[.agg #[.string ⟨#[71, 69, 84]⟩, .string ⟨#[47]⟩, .int .i64 1, .slice A 1 c, .string ⟨#[]⟩], .int .i64 0]) ∧ SlF w' A 1 c [(⟨#[72, 111, 115, 116]⟩, ⟨#[97]⟩)] ∧ Below w.heap.size w w' := by
  have h := msgQ_any x12a w (by decide) HT
  rw [x12a_ok.1, x12a_ok.2] at h
  refine h.mono ?_
  rintro e w' ⟨A, c, he, hF, _, hb⟩
  exact ⟨A, c, he, hF, hb⟩
theorem e12b (w : World) (HT : MsgTabs w) : Calls Tryz.prog 9 #[.string ⟨#[80, 85, 84, 32, 47, 32, 72, 84, 84, 80, 47, 49, 46, 49, 13, 10, 72, 111, 115, 116, 58, 32, 97, 13, 10, 67, 111, 110, 116, 101, 110, 116, 45, 76, 101, 110, 103, 116, 104, 58, 32, 50, 13, 10, 13, 10, 97, 98]⟩] w fun e w' => ∃ A c, e = .returned (.tuple #[.agg #[.string ⟨#[80, 85, 84]⟩, .string ⟨#[47]⟩, .int .i64 1, .slice A 1 c, .string ⟨#[97, 98]⟩], .int .i64 0]) ∧ SlF w' A 1 c [(⟨#[72, 111, 115, 116]⟩, ⟨#[97]⟩)] ∧ Below w.heap.size w w' := by
  have h := msgQ_any x12b w (by decide) HT
  rw [x12b_ok.1, x12b_ok.2] at h
  refine h.mono ?_
  rintro e w' ⟨A, c, he, hF, _, hb⟩
  exact ⟨A, c, he, hF, hb⟩
theorem e12d (w : World) (HT : MsgTabs w) : Calls Tryz.prog 12 #[.string ⟨#[72, 84, 84, 80, 47, 49, 46, 49, 32, 50, 48, 48, 32, 79, 75, 13, 10, 65, 58, 32, 98, 13, 10, 13, 10, 120, 121, 122]⟩, .string ⟨#[71, 69, 84]⟩] w fun e w' => ∃ A c, e = .returned (.tuple #[.agg #[.int .i64 200, .string ⟨#[79, 75]⟩, .int .i64 1, .slice A 1 c, .string ⟨#[120, 121, 122]⟩], .int .i64 0]) ∧ SlF w' A 1 c [(⟨#[65]⟩, ⟨#[98]⟩)] ∧ Below w.heap.size w w' := by
  have h := msgP_any x12d x12g w (by decide) HT
  rw [x12d_ok.1, x12d_ok.2] at h
  refine h.mono ?_
  rintro e w' ⟨A, c, he, hF, _, hb⟩
  exact ⟨A, c, he, hF, hb⟩
theorem e12c (w : World) (HT : MsgTabs w) : Calls Tryz.prog 9 #[.string ⟨#[80, 85, 84, 32, 47, 32, 72, 84, 84, 80, 47, 49, 46, 49, 13, 10, 72, 111, 115, 116, 58, 32, 97, 13, 10, 67, 111, 110, 116, 101, 110, 116, 45, 76, 101, 110, 103, 116, 104, 58, 32, 50, 13, 10, 84, 114, 97, 110, 115, 102, 101, 114, 45, 69, 110, 99, 111, 100, 105, 110, 103, 58, 32, 99, 104, 117, 110, 107, 101, 100, 13, 10, 13, 10, 97, 98]⟩] w fun e w' => ∃ c0 c1 c2 c3 c4, e = .returned (.tuple #[.agg #[.string c0, .string c1, .int .i64 c2, c3, .string c4], .int .i64 22]) ∧ (∃ A n c, c3 = .slice A n c) ∧ Below w.heap.size w w' := by
  have h := msgQ_any x12c w (by decide) HT
  rw [x12c_ok] at h
  refine h.mono ?_
  rintro e w' ⟨A, c, he, hF, _, hb⟩
  exact ⟨_, _, _, _, _, he, ⟨_, _, _, rfl⟩, hb⟩
theorem sml12a : SmlQ r12a := ⟨by decide, by decide, by decide, ⟨by decide, fun x hx => by simp only [r12a, List.mem_singleton] at hx; subst hx; decide⟩, by decide, by decide⟩
theorem sml12d : SmlP r12d := ⟨by decide, by decide, ⟨by decide, fun x hx => by simp only [r12d, List.mem_singleton] at hx; subst hx; decide⟩, ⟨by decide, by decide⟩, by decide, by decide⟩
theorem e12p (A : Option Addr) (c : Nat) (w : World) (h : SlF w A 1 c [(⟨#[72, 111, 115, 116]⟩, ⟨#[97]⟩)]) (HT : MsgTabs w) : Calls Tryz.prog 17 #[.agg #[.string ⟨#[71, 69, 84]⟩, .string ⟨#[47]⟩, .int .i64 1, .slice A 1 c, .string ⟨#[]⟩]] w fun e w' => e = .returned (.string ⟨#[71, 69, 84, 32, 47, 32, 72, 84, 84, 80, 47, 49, 46, 49, 13, 10, 72, 111, 115, 116, 58, 32, 97, 13, 10, 13, 10]⟩) ∧ Below w.heap.size w w' := by
  have h2 := pmQ_any r12a A c w h sml12a HT
  rw [x12_prints.1] at h2
  exact h2
theorem e12q (A : Option Addr) (c : Nat) (w : World) (h : SlF w A 1 c [(⟨#[65]⟩, ⟨#[98]⟩)]) (HT : MsgTabs w) : Calls Tryz.prog 19 #[.agg #[.int .i64 200, .string ⟨#[79, 75]⟩, .int .i64 1, .slice A 1 c, .string ⟨#[120, 121, 122]⟩], .bool false] w fun e w' => e = .returned (.string ⟨#[72, 84, 84, 80, 47, 49, 46, 49, 32, 50, 48, 48, 32, 79, 75, 13, 10, 65, 58, 32, 98, 13, 10, 67, 111, 110, 116, 101, 110, 116, 45, 76, 101, 110, 103, 116, 104, 58, 32, 51, 13, 10, 13, 10, 120, 121, 122]⟩) ∧ Below w.heap.size w w' := by
  have h2 := pmP_any r12d false A c w h sml12d HT
  rw [x12_prints.2] at h2
  exact h2
theorem e12k (A : Option Addr) (c : Nat) (w : World) (h : SlF w A 1 c [(⟨#[72, 111, 115, 116]⟩, ⟨#[97]⟩)]) (HT : MsgTabs w) : Calls Tryz.prog 21 #[.agg #[.string ⟨#[71, 69, 84]⟩, .string ⟨#[47]⟩, .int .i64 1, .slice A 1 c, .string ⟨#[]⟩]] w fun e w' => e = .returned (.int .i64 0) ∧ Below w.heap.size w w' := by
  have h2 := ckQ_any r12a A c w h sml12a HT
  rw [x12_checks.1] at h2
  exact h2
theorem e12l (A : Option Addr) (c : Nat) (w : World) (h : SlF w A 1 c [(⟨#[65]⟩, ⟨#[98]⟩)]) (HT : MsgTabs w) : Calls Tryz.prog 23 #[.agg #[.int .i64 200, .string ⟨#[79, 75]⟩, .int .i64 1, .slice A 1 c, .string ⟨#[120, 121, 122]⟩]] w fun e w' => e = .returned (.int .i64 0) ∧ Below w.heap.size w w' := by
  have h2 := ckP_any r12d A c w h sml12d HT
  rw [x12_checks.2] at h2
  exact h2

set_option maxHeartbeats 16000000 in
set_option maxRecDepth 100000 in
theorem ex12_any (w : World) (HT : MsgTabs w) : Calls Tryz.prog 8 #[] w fun e w' => e = .returned (.bool true) ∧ Below w.heap.size w w' := by
  have C1 := Lib.hid (fun W (hW : Below w.heap.size w W) => e12a W (HT.kept hW))
  have C2 := Lib.hid (fun W (hW : Below w.heap.size w W) => e12b W (HT.kept hW))
  have C3 := Lib.hid (fun W (hW : Below w.heap.size w W) => e12c W (HT.kept hW))
  have C4 := Lib.hid (fun W (hW : Below w.heap.size w W) => e12d W (HT.kept hW))
  have C5 := Lib.hid (fun W (hW : Below w.heap.size w W) A c h => e12q A c W h (HT.kept hW))
  have C6 := Lib.hid (fun W (hW : Below w.heap.size w W) A c h => e12p A c W h (HT.kept hW))
  have C7 := Lib.hid (fun W (hW : Below w.heap.size w W) A c h => e12k A c W h (HT.kept hW))
  have C8 := Lib.hid (fun W (hW : Below w.heap.size w W) A c h => e12l A c W h (HT.kept hW))
  have hbl : bodL 304 = true := by decide
  have c9 := fun W => bodl_any 304 W
  rw [hbl] at c9
  have C9 := Lib.hid c9
  clear c9 hbl HT
  have HB : Hid (Below w.heap.size w w) := Below.refl _ _
  go_enter Tryz.func8, Tryz.ntmps8
  go_wp2_with fail
  refine (C1.out _ HB.out).mono ?_
  rintro e w1 ⟨A1, k1, rfl, hF1, hb1⟩
  have HB := Lib.hid (hb1.alloc hb1.size (.cells #[.string ⟨#[71, 69, 84]⟩, .string ⟨#[47]⟩, .int .i64 1, .slice A1 1 k1, .string ⟨#[]⟩] 25))
  have Z1 := Lib.hid (heap_alloc_new w1 (.cells #[.string ⟨#[71, 69, 84]⟩, .string ⟨#[47]⟩, .int .i64 1, .slice A1 1 k1, .string ⟨#[]⟩] 25))
  have F1 := Lib.hid (hF1.alloc (.cells #[.string ⟨#[71, 69, 84]⟩, .string ⟨#[47]⟩, .int .i64 1, .slice A1 1 k1, .string ⟨#[]⟩] 25))
  clear hF1 hb1
  go_wp2_with fail
  refine (C2.out _ HB.out).mono ?_
  rintro e w2 ⟨A2, k2, rfl, hF2, hb2⟩
  have hb := below_then HB.out hb2
  have HB := Lib.hid (hb.alloc hb.size (.cells #[.string ⟨#[80, 85, 84]⟩, .string ⟨#[47]⟩, .int .i64 1, .slice A2 1 k2, .string ⟨#[97, 98]⟩] 25))
  have Z1 := Lib.hid (zero_more (o' := .cells #[.string ⟨#[80, 85, 84]⟩, .string ⟨#[47]⟩, .int .i64 1, .slice A2 1 k2, .string ⟨#[97, 98]⟩] 25) (zero_still hb2 Z1.out))
  have F1 := Lib.hid ((F1.out.below hb2).alloc (.cells #[.string ⟨#[80, 85, 84]⟩, .string ⟨#[47]⟩, .int .i64 1, .slice A2 1 k2, .string ⟨#[97, 98]⟩] 25))
  have Z2 := Lib.hid (heap_alloc_new w2 (.cells #[.string ⟨#[80, 85, 84]⟩, .string ⟨#[47]⟩, .int .i64 1, .slice A2 1 k2, .string ⟨#[97, 98]⟩] 25))
  clear hF2 hb2 hb
  go_wp2_with fail
  refine (C3.out _ HB.out).mono ?_
  rintro e w3 ⟨c0, c1, c2, c3, c4, rfl, ⟨A3, n3, k3, rfl⟩, hb3⟩
  have hb := below_then HB.out hb3
  have HB := Lib.hid (hb.alloc hb.size (.cells #[.string c0, .string c1, .int .i64 c2, .slice A3 n3 k3, .string c4] 25))
  have Z1 := Lib.hid (zero_more (o' := .cells #[.string c0, .string c1, .int .i64 c2, .slice A3 n3 k3, .string c4] 25) (zero_still hb3 Z1.out))
  have Z2 := Lib.hid (zero_more (o' := .cells #[.string c0, .string c1, .int .i64 c2, .slice A3 n3 k3, .string c4] 25) (zero_still hb3 Z2.out))
  have F1 := Lib.hid ((F1.out.below hb3).alloc (.cells #[.string c0, .string c1, .int .i64 c2, .slice A3 n3 k3, .string c4] 25))
  clear hb3 hb
  go_wp2_with fail
  refine (C4.out _ HB.out).mono ?_
  rintro e w4 ⟨A4, k4, rfl, hF4, hb4⟩
  have hb := below_then HB.out hb4
  have HB := Lib.hid (hb.alloc hb.size (.cells #[.int .i64 200, .string ⟨#[79, 75]⟩, .int .i64 1, .slice A4 1 k4, .string ⟨#[120, 121, 122]⟩] 34))
  have Z1 := Lib.hid (zero_more (o' := .cells #[.int .i64 200, .string ⟨#[79, 75]⟩, .int .i64 1, .slice A4 1 k4, .string ⟨#[120, 121, 122]⟩] 34) (zero_still hb4 Z1.out))
  have Z2 := Lib.hid (zero_more (o' := .cells #[.int .i64 200, .string ⟨#[79, 75]⟩, .int .i64 1, .slice A4 1 k4, .string ⟨#[120, 121, 122]⟩] 34) (zero_still hb4 Z2.out))
  have F1 := Lib.hid ((F1.out.below hb4).alloc (.cells #[.int .i64 200, .string ⟨#[79, 75]⟩, .int .i64 1, .slice A4 1 k4, .string ⟨#[120, 121, 122]⟩] 34))
  have F4 := Lib.hid (hF4.alloc (.cells #[.int .i64 200, .string ⟨#[79, 75]⟩, .int .i64 1, .slice A4 1 k4, .string ⟨#[120, 121, 122]⟩] 34))
  have Z4 := Lib.hid (heap_alloc_new w4 (.cells #[.int .i64 200, .string ⟨#[79, 75]⟩, .int .i64 1, .slice A4 1 k4, .string ⟨#[120, 121, 122]⟩] 34))
  clear hF4 hb4 hb
  obtain ⟨x0, x1, x2, x3, x4⟩ := cel5 Z1.out
  obtain ⟨y0, y1, y2, y3, y4⟩ := cel5 Z2.out
  obtain ⟨z0, z1, z2, z3, z4⟩ := cel5 Z4.out
  go_wp2_with fail
  refine (C5.out _ HB.out _ _ F4.out).mono ?_
  rintro e w5 ⟨rfl, hb5⟩
  have HB := Lib.hid (below_then HB.out hb5)
  have Z1 := Lib.hid (zero_still hb5 Z1.out)
  have Z4 := Lib.hid (zero_still hb5 Z4.out)
  have F1 := Lib.hid (F1.out.below hb5)
  have F4 := Lib.hid (F4.out.below hb5)
  clear hb5 x0 x1 x2 x3 x4 y0 y1 y2 y3 y4 z0 z1 z2 z3 z4
  obtain ⟨x0, x1, x2, x3, x4⟩ := cel5 Z1.out
  go_wp2_with fail
  refine (C6.out _ HB.out _ _ F1.out).mono ?_
  rintro e w6 ⟨rfl, hb6⟩
  have HB := Lib.hid (below_then HB.out hb6)
  have Z1 := Lib.hid (zero_still hb6 Z1.out)
  have Z4 := Lib.hid (zero_still hb6 Z4.out)
  have F1 := Lib.hid (F1.out.below hb6)
  have F4 := Lib.hid (F4.out.below hb6)
  clear hb6 x0 x1 x2 x3 x4
  obtain ⟨x0, x1, x2, x3, x4⟩ := cel5 Z1.out
  go_wp2_with fail
  refine (C7.out _ HB.out _ _ F1.out).mono ?_
  rintro e w7 ⟨rfl, hb7⟩
  have HB := Lib.hid (below_then HB.out hb7)
  have Z4 := Lib.hid (zero_still hb7 Z4.out)
  have F4 := Lib.hid (F4.out.below hb7)
  clear hb7 x0 x1 x2 x3 x4
  obtain ⟨z0, z1, z2, z3, z4⟩ := cel5 Z4.out
  go_wp2_with fail
  refine (C8.out _ HB.out _ _ F4.out).mono ?_
  rintro e w8 ⟨rfl, hb8⟩
  have HB := Lib.hid (below_then HB.out hb8)
  clear hb8
  go_wp2_with fail
  refine (C9.out _).mono ?_
  rintro e w9 ⟨rfl, hb9⟩
  go_wp2_with fail
  go_ret
  exact ⟨rfl, below_then HB.out hb9⟩

end Go.Proofs.YtjcomlklmfeimaaGreatDoor
end
