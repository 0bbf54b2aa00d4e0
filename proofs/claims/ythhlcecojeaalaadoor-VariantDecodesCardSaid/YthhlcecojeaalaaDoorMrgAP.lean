/-
  Texts that the laws of this seat lean on, one behind the other.
-/
import Derived.Test.YthhlcecojeaalaaDoorMrgAO
import Derived.Test.YthhlcecojeaalaaDoorMrgH
import Derived.Test.YthhlcecojeaalaaDoorMrgAA
set_option linter.unusedSimpArgs false
set_option linter.unusedVariables false
/-
  Package variant: the encoder's number, text, flag.
-/
section
namespace Go.Proofs.YthhlcecojeaalaaDoor
open Go.RowKit
set_option linter.unusedSimpArgs false

theorem num_in {k : Nat} {lo hi er n : Int} (hk1 : 1 ≤ k) (hk7 : k ≤ 7) (h0 : 0 ≤ lo) (h1 : hi < (256 : Int) ^ k) (hn : lo ≤ n ∧ n ≤ hi) (x : WS) : partW (wPutL [] n k) (putE n k) x = numW k lo hi er n x := by
  have hw : wideB (k : Int) = true := wideB_yes.2 ⟨by omega, by omega⟩
  have hp : putE n k = 0 := by
    unfold putE
    rw [if_neg (by rw [hw]; decide), if_neg (by rw [Int.toNat_natCast]; omega)]
  unfold partW numW wPutL
  rw [hp]
  simp only [if_true, List.nil_append]
  split
  · rfl
  · rw [if_neg (by omega)]
theorem num_out {k : Nat} {lo hi er n : Int} (hn : ¬ (lo ≤ n ∧ n ≤ hi)) (x : WS) : partW [] er x = numW k lo hi er n x := by
  unfold partW numW
  split
  · rfl
  · rw [if_pos (by omega), List.append_nil]
theorem put_short (n : Int) {k : Nat} (hk : k ≤ 7) : (wPutL [] n k).length ≤ 7 := by
  unfold wPutL
  split
  · rw [List.nil_append, leL_len, Int.toNat_natCast]; exact hk
  · exact Nat.zero_le _
theorem txt_short (s : List UInt8) : (ptL [] s).length ≤ 65540 := by
  unfold ptL ptE
  by_cases h : 65536 < s.length
  · rw [if_pos h, if_neg (by decide)]; exact Nat.zero_le _
  · rw [if_neg h, if_pos rfl, List.nil_append, List.length_append, leL_len]; omega

set_option maxHeartbeats 4000000 in
set_option maxRecDepth 100000 in
theorem eText_any (E : Nat) (x : WS) (s : ByteArray) (w : World) (h : IsE w E x) (hx : x.2 = 0 → x.1.length ≤ 100000000) (hs : s.size ≤ maxLen) :
    Calls Tryd.prog 52 #[.pointer (some ⟨E, 0, none⟩), .string s] w (Enc E (.tuple #[]) (txtW s x) w) := by
  have C1 := Lib.hid (puttext_any none 0 0 [] s w (Sl8.none_ w) (by simp) hs)
  have C2 := Lib.hid (fun (W : World) (A : Option Addr) (n c : Nat) (hW : Below w.heap.size w W) (hS : Sl8 W A n c (ptL [] s.data.toList)) => part_any E x A n c _ (ptE s.data.toList) W (h.below hW) hS (fun e => by have := hx e; have := txt_short s.data.toList; omega))
  have HT : Hid (∀ w', IsE w' E (partW (ptL [] s.data.toList) (ptE s.data.toList) x) → IsE w' E (txtW s x)) := fun w' q => by
    have h2 : (partW (ptL [] s.data.toList) (ptE s.data.toList) x).2 = (txtW s x).2 := by unfold partW txtW; split <;> rfl
    refine q.to h2 fun e => ?_
    rw [← h2] at e
    unfold partW txtW at *
    split
    · rfl
    · rename_i hx2
      rw [if_neg hx2] at e
      simp only at e
      unfold ptL
      rw [if_pos e, if_pos e, List.nil_append]
  have HE := Lib.hid h.lt
  generalize partW (ptL [] s.data.toList) (ptE s.data.toList) x = y at *
  generalize txtW s x = z at *
  generalize ptE s.data.toList = er at *
  generalize ptL [] s.data.toList = m at *
  clear h hx hs
  go_enter Tryd.func52, Tryd.ntmps52
  go_wp2_with fail
  refine C1.out.mono ?_
  rintro e w1 ⟨A, n, c, rfl, hS, hb⟩
  have C3 := Lib.hid (C2.out w1 A n c hb hS)
  have HB := Lib.hid hb
  clear hb hS C1 C2
  go_wp2_with fail
  refine C3.out.mono ?_
  rintro e w2 ⟨rfl, hI, hb2⟩
  go_wp2_with fail
  go_end0
  exact ⟨rfl, HT.out _ hI, (Chg.of_below HB.out (Nat.le_of_lt HE.out)).trans hb2⟩

set_option maxHeartbeats 4000000 in
set_option maxRecDepth 100000 in
theorem eFlag_any (E : Nat) (x : WS) (b : Bool) (w : World) (h : IsE w E x) (hx : x.2 = 0 → x.1.length ≤ 100000000) :
    Calls Tryd.prog 76 #[.pointer (some ⟨E, 0, none⟩), .bool b] w (Enc E (.tuple #[]) (numW 1 0 1 3 (if b then 1 else 0) x) w) := by
  have HE := Lib.hid h.lt
  have HI : Hid (partW (wPutL [] (if b then 1 else 0) ((1 : Nat) : Int)) (putE (if b then 1 else 0) ((1 : Nat) : Int)) x = numW 1 0 1 3 (if b then 1 else 0) x) := num_in (by decide) (by decide) (by decide) (by decide) (by cases b <;> decide) x
  have hsh := put_short (if b then 1 else 0) (k := 1) (by decide)
  have C1 := Lib.hid (put_any none 0 0 [] (if b then 1 else 0) ((1 : Nat) : Int) w (Sl8.none_ w) (by simp) (by cases b <;> decide) (by cases b <;> decide) (by decide) (by decide))
  have C2 := Lib.hid (fun (W : World) (A : Option Addr) (n c : Nat) (hW : Below w.heap.size w W) (hS : Sl8 W A n c (wPutL [] (if b then 1 else 0) ((1 : Nat) : Int))) => part_any E x A n c _ (putE (if b then 1 else 0) ((1 : Nat) : Int)) W (h.below hW) hS (fun e => by have := hx e; omega))
  rw [HI.out] at C2
  generalize numW 1 0 1 3 (if b then 1 else 0) x = z at *
  generalize putE (if b then 1 else 0) ((1 : Nat) : Int) = er at *
  generalize wPutL [] (if b then 1 else 0) ((1 : Nat) : Int) = m at *
  clear HI h hx hsh
  cases b with
  | true =>
    simp only [if_true, Int.natCast_one] at C1
    go_enter Tryd.func76, Tryd.ntmps76
    go_wp2_with fail
    refine C1.out.mono ?_
    rintro e w1 ⟨A, n, c, rfl, hS, hb⟩
    have C3 := Lib.hid (C2.out w1 A n c hb hS)
    have HB := Lib.hid hb
    clear hb hS C1 C2
    go_wp2_with fail
    refine C3.out.mono ?_
    rintro e w2 ⟨rfl, hI, hb2⟩
    go_wp2_with fail
    go_end0
    exact ⟨rfl, hI, (Chg.of_below HB.out (Nat.le_of_lt HE.out)).trans hb2⟩
  | false =>
    simp only [Bool.false_eq_true, if_false, Int.natCast_one] at C1
    go_enter Tryd.func76, Tryd.ntmps76
    go_wp2_with fail
    refine C1.out.mono ?_
    rintro e w1 ⟨A, n, c, rfl, hS, hb⟩
    have C3 := Lib.hid (C2.out w1 A n c hb hS)
    have HB := Lib.hid hb
    clear hb hS C1 C2
    go_wp2_with fail
    refine C3.out.mono ?_
    rintro e w2 ⟨rfl, hI, hb2⟩
    go_wp2_with fail
    go_end0
    exact ⟨rfl, hI, (Chg.of_below HB.out (Nat.le_of_lt HE.out)).trans hb2⟩

/-- What a number's call answers: how many things follow. -/
def numA (n : Int) (x : WS) : Int := if x.2 = 0 then n else 0

set_option maxHeartbeats 8000000 in
set_option maxRecDepth 100000 in
theorem eNum_any (E : Nat) (x : WS) (n q : Int) (i k : Nat) (lo hi er : Int) (HQ : Hid (q = (i : Int))) (w : World) (h : IsE w E x) (hx : x.2 = 0 → x.1.length ≤ 100000000) (hsp : SpA w i k lo hi er) (hi5 : i < 5) (hk1 : 1 ≤ k) (hk7 : k ≤ 7) (hl0 : 0 ≤ lo) (hh1 : hi < (256 : Int) ^ k) (hh2 : hi ≤ 9223372036854775807) :
    Calls Tryd.prog 51 #[.pointer (some ⟨E, 0, none⟩), .int .i64 n, .int .i64 q] w (Enc E (.int .i64 (numA n (numW k lo hi er n x))) (numW k lo hi er n x) w) := by
  have hq := HQ.out
  subst hq
  have HE := Lib.hid h.lt
  obtain ⟨s0, s1, s2, s3⟩ := hsp
  have hi0 : (0 : Int) ≤ (i : Int) := by omega
  have hi1 : (i : Int) < 5 := by omega
  obtain ⟨V, hV⟩ : ∃ V, V = w.alloc (.cells #[.int .i64 k, .int .i64 lo, .int .i64 hi, .int .i64 er] 115) := ⟨_, rfl⟩
  have HBV : Hid (Below w.heap.size w V) := by
    show Below _ _ _
    rw [hV]
    exact (Below.refl _ _).alloc (Nat.le_refl _) _
  have ZV : Hid (V.heap[w.heap.size]? = some (.cells #[.int .i64 k, .int .i64 lo, .int .i64 hi, .int .i64 er] 115 (0, 0))) := by
    show _ = _
    rw [hV]
    exact heap_alloc_new w _
  obtain ⟨z0, _⟩ := rowAt ZV.out 0 _ rfl
  obtain ⟨z1, _⟩ := rowAt ZV.out 1 _ rfl
  obtain ⟨z2, _⟩ := rowAt ZV.out 2 _ rfl
  obtain ⟨z3, _⟩ := rowAt ZV.out 3 _ rfl
  have CA := Lib.hid (allows_any k lo hi er n V)
  have HIV := Lib.hid (h.below HBV.out)
  by_cases hin : lo ≤ n ∧ n ≤ hi
  · have HN := Lib.hid (num_in (er := er) hk1 hk7 hl0 hh1 hin x)
    have hn0 : -9223372036854775808 ≤ n := by omega
    have hn1 : n ≤ 9223372036854775807 := by omega
    have hsh := put_short n hk7
    rw [show decide (lo ≤ n ∧ n ≤ hi) = true from decide_eq_true hin] at CA
    have CP := Lib.hid (fun (W : World) => put_any none 0 0 [] n (k : Int) W (Sl8.none_ W) (by simp) hn0 hn1 (by omega) (by omega))
    have CE := Lib.hid (fun (W : World) (A : Option Addr) (m c : Nat) (hW : Below V.heap.size V W) (hS : Sl8 W A m c (wPutL [] n (k : Int))) => part_any E x A m c _ (putE n (k : Int)) W (HIV.out.below hW) hS (fun e => by have := hx e; omega))
    rw [HN.out] at CE
    generalize putE n (k : Int) = pe at *
    generalize wPutL [] n (k : Int) = pl at *
    generalize numW k lo hi er n x = y at *
    clear hin h hx hk1 hk7 hl0 hh1 hh2 hn0 hn1 hi5 hsh HN
    go_enter Tryd.func51, Tryd.ntmps51
    go_upto_region 2 with fail
    rw [← hV]
    clear hV s0 s1 s2 s3 hi0 hi1
    go_wp2_with fail
    refine CA.out.mono ?_
    rintro e w1 ⟨rfl, hb1⟩
    have Z1 := Lib.hid (zero_still hb1 ZV.out)
    have HB1 := Lib.hid hb1
    clear CA z0 z1 z2 z3 hb1
    obtain ⟨z0, _⟩ := rowAt Z1.out 0 _ rfl
    go_wp2_with fail
    refine (CP.out w1).mono ?_
    rintro e w2 ⟨A, m, c, rfl, hS, hb2⟩
    have C3 := Lib.hid (CE.out w2 A m c (HB1.out.trans (hb2.mono HB1.out.size)) hS)
    have HB2 := Lib.hid (HBV.out.trans ((HB1.out.trans (hb2.mono HB1.out.size)).mono HBV.out.size))
    clear z0 hS hb2 CP CE
    go_wp2_with fail
    refine C3.out.mono ?_
    rintro e w3 ⟨rfl, hI, hb3⟩
    have HI := Lib.hid hI
    obtain ⟨v, l, hg, _, _⟩ := hI
    obtain ⟨d1, _⟩ := rowAt hg 1 _ rfl
    have HB3 := Lib.hid ((Chg.of_below HB2.out (Nat.le_of_lt HE.out)).trans hb3)
    have CF := Lib.hid (found_any y.2 w3)
    clear hg hb3 C3
    by_cases h0 : y.2 = 0
    · have HA : Hid (numA n y = n) := by show _ = _; unfold numA; rw [if_pos h0]
      rw [h0] at CF d1
      rw [show (!((0 : Int) == 0)) = false from rfl] at CF
      clear h0
      go_wp2_with fail
      refine CF.out.mono ?_
      rintro e w4 ⟨rfl, hb4⟩
      go_wp2_with fail
      go_ret
      exact ⟨by rw [HA.out]; rfl, HI.out.below hb4, HB3.out.trans (Chg.of_below hb4 (by have := HI.out.lt; omega))⟩
    · have HA : Hid (numA n y = 0) := by show _ = _; unfold numA; rw [if_neg h0]
      have h0' : (y.2 == 0) = false := by simpa using h0
      rw [h0'] at CF
      clear h0 h0'
      go_wp2_with fail
      refine CF.out.mono ?_
      rintro e w4 ⟨rfl, hb4⟩
      go_wp2_with fail
      go_ret
      exact ⟨by rw [HA.out]; rfl, HI.out.below hb4, HB3.out.trans (Chg.of_below hb4 (by have := HI.out.lt; omega))⟩
  · have HN := Lib.hid (num_out (k := k) (er := er) hin x)
    rw [show decide (lo ≤ n ∧ n ≤ hi) = false from decide_eq_false hin] at CA
    have CE := Lib.hid (fun (W : World) (hW : Below V.heap.size V W) => part_any E x none 0 0 [] er W (HIV.out.below hW) (Sl8.none_ W) (fun e => by have := hx e; simp; omega))
    rw [HN.out] at CE
    generalize numW k lo hi er n x = y at *
    clear hin h hx hk1 hk7 hl0 hh1 hh2 hi5 HN
    go_enter Tryd.func51, Tryd.ntmps51
    go_upto_region 2 with fail
    rw [← hV]
    clear hV s0 s1 s2 s3 hi0 hi1
    go_wp2_with fail
    refine CA.out.mono ?_
    rintro e w1 ⟨rfl, hb1⟩
    have Z1 := Lib.hid (zero_still hb1 ZV.out)
    have HB1 := Lib.hid hb1
    clear CA z0 z1 z2 z3 hb1
    obtain ⟨z3, _⟩ := rowAt Z1.out 3 _ rfl
    have C3 := Lib.hid (CE.out w1 HB1.out)
    have HB2 := Lib.hid (HBV.out.trans (HB1.out.mono HBV.out.size))
    clear CE
    go_wp2_with fail
    refine C3.out.mono ?_
    rintro e w3 ⟨rfl, hI, hb3⟩
    have HI := Lib.hid hI
    obtain ⟨v, l, hg, _, _⟩ := hI
    obtain ⟨d1, _⟩ := rowAt hg 1 _ rfl
    have HB3 := Lib.hid ((Chg.of_below HB2.out (Nat.le_of_lt HE.out)).trans hb3)
    have CF := Lib.hid (found_any y.2 w3)
    clear hg hb3 C3
    by_cases h0 : y.2 = 0
    · have HA : Hid (numA n y = n) := by show _ = _; unfold numA; rw [if_pos h0]
      rw [h0] at CF d1
      rw [show (!((0 : Int) == 0)) = false from rfl] at CF
      clear h0
      go_wp2_with fail
      refine CF.out.mono ?_
      rintro e w4 ⟨rfl, hb4⟩
      go_wp2_with fail
      go_ret
      exact ⟨by rw [HA.out]; rfl, HI.out.below hb4, HB3.out.trans (Chg.of_below hb4 (by have := HI.out.lt; omega))⟩
    · have HA : Hid (numA n y = 0) := by show _ = _; unfold numA; rw [if_neg h0]
      have h0' : (y.2 == 0) = false := by simpa using h0
      rw [h0'] at CF
      clear h0 h0'
      go_wp2_with fail
      refine CF.out.mono ?_
      rintro e w4 ⟨rfl, hb4⟩
      go_wp2_with fail
      go_ret
      exact ⟨by rw [HA.out]; rfl, HI.out.below hb4, HB3.out.trans (Chg.of_below hb4 (by have := HI.out.lt; omega))⟩

end Go.Proofs.YthhlcecojeaalaaDoor
end

/-
  Package variant: the encoder's fields.
-/
section
namespace Go.Proofs.YthhlcecojeaalaaDoor
open Go.RowKit
set_option linter.unusedSimpArgs false

set_option maxHeartbeats 8000000 in
set_option maxRecDepth 100000 in
theorem eFields_any (E : Nat) (x : WS) (A : Option Addr) (c : Nat) (F : List Fd) (w0 w : World) (h0 : w0.heap.size ≤ E) (hb0 : Below w0.heap.size w0 w) (h : IsE w E x) (hx : x.1.length ≤ 10000000) (hT : VntTabs w0) (hF : SlF w0 A F.length c F) (hl : F.length ≤ 70) (hs : ∀ x ∈ F, x.1.size ≤ 3000 ∧ x.2.size ≤ 3000) :
    Calls Tryd.prog 53 #[.pointer (some ⟨E, 0, none⟩), .slice A F.length c] w (Enc E (.tuple #[]) (F.foldl fldW (numW 1 0 64 4 F.length x)) w) := by
  have C0 := Lib.hid (eNum_any E x F.length 4 4 1 0 64 4 rfl w h (fun _ => by omega) (hT.kept hb0).s4 (by decide) (by decide) (by decide) (by decide) (by decide) (by decide))
  have hyl := numW_len 1 0 64 4 (F.length : Int) x
  obtain ⟨y, hy⟩ : ∃ y, y = numW 1 0 64 4 (F.length : Int) x := ⟨_, rfl⟩
  rw [← hy] at C0 hyl ⊢
  have HYL : Hid (y.1.length ≤ 10000001) := by show _ ≤ _; omega
  have H0 := Lib.hid h0
  have HB0 := Lib.hid hb0
  have hcap : (F.length : Int) ≤ (c : Int) := by have := hF.cap; omega
  have hc0 : (0 : Int) ≤ (F.length : Int) := by omega
  have hc1 : (0 : Int) ≤ (c : Int) := by omega
  have HE := Lib.hid h.lt
  clear hy hyl h hx hb0 h0
  by_cases hy0 : y.2 = 0
  · rw [show numA (F.length : Int) y = F.length by unfold numA; rw [if_pos hy0]] at C0
    clear hy0
    go_enter Tryd.func53, Tryd.ntmps53
    go_wp2_with fail
    refine C0.out.mono ?_
    rintro e w1 ⟨rfl, hI, hb1⟩
    have HI := Lib.hid hI
    have HB1 := Lib.hid hb1
    clear hI hb1 C0
    go_wp2_with fail
    go_loopw [13] (fun i wr => ∃ k : Nat, k ≤ F.length ∧ i = .int .i64 k ∧ Hid (IsE wr E ((F.take k).foldl fldW y)) ∧ Hid (Chg E w wr)) (fun i _ => F.length - (intOf i).toNat)
    case atStart => exact ⟨0, Nat.zero_le _, rfl, HI.out, HB1.out⟩
    case round =>
      clear HI HB1
      obtain ⟨k, hk, rfl, HI, HB⟩ := hrel
      by_cases hlt : k < F.length
      · have hi0 : (0 : Int) ≤ (k : Int) := by omega
        have hi1 : (k : Int) < (F.length : Int) := by omega
        have HW0 : Hid (Below w0.heap.size w0 wr) := HB0.out.trans (HB.out.b.mono H0.out)
        have hw := hF.below HW0.out
        obtain ⟨ad, rfl, hc⟩ := hw.at_ (by omega)
        obtain ⟨hc0, hc1'⟩ := hc k F[k] (List.getElem?_eq_getElem hlt)
        have hc1 := fd_snd hc1'
        obtain ⟨hz1, hz2⟩ := hs _ (List.getElem_mem hlt)
        have hlen := fields_len (f := F.take k) (by rw [List.length_take]; omega) (fun a ha => hs a (List.mem_of_mem_take ha)) y
        have HST : Hid ((F.take (k + 1)).foldl fldW y = fldW ((F.take k).foldl fldW y) F[k]) := fold_step fldW y F hlt
        obtain ⟨z, hz⟩ : ∃ z, z = (F.take k).foldl fldW y := ⟨_, rfl⟩
        rw [← hz] at HI HST hlen
        have HZL : Hid (z.1.length ≤ 10420561) := by show _ ≤ _; have := HYL.out; omega
        generalize F[k] = f at HST hz1 hz2 hc0 hc1
        obtain ⟨f1, f2⟩ := f
        simp only at hz1 hz2 hc0 hc1
        clear hz hw hc hc1' hlen
        obtain ⟨V, hV⟩ : ∃ V, V = wr.alloc (.cells #[.string f1, .string f2] 62) := ⟨_, rfl⟩
        have HBV : Hid (Below wr.heap.size wr V) := by
          show Below _ _ _
          rw [hV]
          exact (Below.refl _ _).alloc (Nat.le_refl _) _
        have ZV : Hid (V.heap[wr.heap.size]? = some (.cells #[.string f1, .string f2] 62 (0, 0))) := by
          show _ = _
          rw [hV]
          exact heap_alloc_new wr _
        have C1 := Lib.hid (eText_any E z f1 V (HI.out.below HBV.out) (fun _ => by have := HZL.out; omega) (by unfold maxLen; omega))
        have hl1 := txtW_len f1 z
        have C2 := Lib.hid (fun (W : World) (hW : IsE W E (txtW f1 z)) => eText_any E (txtW f1 z) f2 W hW (fun _ => by have := HZL.out; omega) (by unfold maxLen; omega))
        clear hl1 hz1 hz2
        go_upto_region 3 with fail
        rw [← hV]
        clear hV hc0 hc1
        obtain ⟨z0, _⟩ := rowAt ZV.out 0 _ rfl
        go_wp2_with fail
        refine C1.out.mono ?_
        rintro e w1 ⟨rfl, hI1, hb1⟩
        have HGE : Hid (wr.heap.size ≠ E) := by show _ ≠ _; have := HI.out.lt; omega
        have Z1 := Lib.hid ((hb1.f _ _ _ ZV.out HGE.out (by kernel_rfl)).trans ZV.out)
        have HC1 := Lib.hid ((Chg.of_below HBV.out (Nat.le_of_lt HI.out.lt)).trans hb1)
        have C3 := Lib.hid (C2.out w1 hI1)
        clear z0 C1 C2 hI1 hb1
        obtain ⟨z1, _⟩ := rowAt Z1.out 1 _ rfl
        go_wp2_with fail
        refine C3.out.mono ?_
        rintro e w2 ⟨rfl, hI2, hb2⟩
        have HC2 := Lib.hid ((HB.out.trans HC1.out).trans hb2)
        have HI2 := Lib.hid hI2
        clear z1 C3 hI2 hb2
        go_wp2_with fail
        go_roundw
        case rel => exact ⟨k + 1, by omega, by go_num, by show IsE _ _ _; rw [HST.out]; exact HI2.out, HC2.out⟩
        case measure => simp [intOf]; omega
      · have hi1 : ¬ (k : Int) < (F.length : Int) := by omega
        have HN : Hid ((F.take k).foldl fldW y = F.foldl fldW y) := by show _ = _; rw [List.take_of_length_le (by omega)]
        go_wp2_with fail
        go_end0
        exact ⟨rfl, by rw [← HN.out]; exact HI.out, HB.out⟩
  · have HN : Hid (F.foldl fldW y = y) := fold_stuck (fldW_stuck hy0) F
    rw [show numA (F.length : Int) y = 0 by unfold numA; rw [if_neg hy0]] at C0
    rw [HN.out]
    clear hy0
    go_enter Tryd.func53, Tryd.ntmps53
    go_wp2_with fail
    refine C0.out.mono ?_
    rintro e w1 ⟨rfl, hI, hb1⟩
    have HI := Lib.hid hI
    have HB1 := Lib.hid hb1
    clear hI hb1 C0
    go_wp2_with fail
    go_loopw [13] (fun i wr => i = .int .i64 0 ∧ Hid (IsE wr E y) ∧ Hid (Chg E w wr)) (fun _ _ => 0)
    case atStart => exact ⟨rfl, HI.out, HB1.out⟩
    case round =>
      clear HI HB1
      obtain ⟨rfl, HI, HB⟩ := hrel
      go_wp2_with fail
      go_end0
      exact ⟨rfl, HI.out, HB.out⟩

end Go.Proofs.YthhlcecojeaalaaDoor
end

/-
  Package variant: the encoder's picks.
-/
section
namespace Go.Proofs.YthhlcecojeaalaaDoor
open Go.RowKit
set_option linter.unusedSimpArgs false

set_option maxHeartbeats 8000000 in
set_option maxRecDepth 100000 in
theorem ePicks_any (E : Nat) (x : WS) (A : Option Addr) (c : Nat) (F : List Pk) (w0 w : World) (h0 : w0.heap.size ≤ E) (hb0 : Below w0.heap.size w0 w) (h : IsE w E x) (hx : x.1.length ≤ 10000000) (hT : VntTabs w0) (hF : SlK w0 A F.length c F) (hl : F.length ≤ 70) (hs : ∀ x ∈ F, x.n.size ≤ 3000 ∧ x.v.size ≤ 3000) :
    Calls Tryd.prog 54 #[.pointer (some ⟨E, 0, none⟩), .slice A F.length c] w (Enc E (.tuple #[]) (F.foldl pckW (numW 1 0 64 4 F.length x)) w) := by
  have C0 := Lib.hid (eNum_any E x F.length 4 4 1 0 64 4 rfl w h (fun _ => by omega) (hT.kept hb0).s4 (by decide) (by decide) (by decide) (by decide) (by decide) (by decide))
  have hyl := numW_len 1 0 64 4 (F.length : Int) x
  obtain ⟨y, hy⟩ : ∃ y, y = numW 1 0 64 4 (F.length : Int) x := ⟨_, rfl⟩
  rw [← hy] at C0 hyl ⊢
  have HYL : Hid (y.1.length ≤ 10000001) := by show _ ≤ _; omega
  have H0 := Lib.hid h0
  have HB0 := Lib.hid hb0
  have hcap : (F.length : Int) ≤ (c : Int) := by have := hF.cap; omega
  have hc0 : (0 : Int) ≤ (F.length : Int) := by omega
  have hc1 : (0 : Int) ≤ (c : Int) := by omega
  have HE := Lib.hid h.lt
  clear hy hyl h hx hb0 h0
  by_cases hy0 : y.2 = 0
  · rw [show numA (F.length : Int) y = F.length by unfold numA; rw [if_pos hy0]] at C0
    clear hy0
    go_enter Tryd.func54, Tryd.ntmps54
    go_wp2_with fail
    refine C0.out.mono ?_
    rintro e w1 ⟨rfl, hI, hb1⟩
    have HI := Lib.hid hI
    have HB1 := Lib.hid hb1
    clear hI hb1 C0
    go_wp2_with fail
    go_loopw [13] (fun i wr => ∃ k : Nat, k ≤ F.length ∧ i = .int .i64 k ∧ Hid (IsE wr E ((F.take k).foldl pckW y)) ∧ Hid (Chg E w wr)) (fun i _ => F.length - (intOf i).toNat)
    case atStart => exact ⟨0, Nat.zero_le _, rfl, HI.out, HB1.out⟩
    case round =>
      clear HI HB1
      obtain ⟨k, hk, rfl, HI, HB⟩ := hrel
      by_cases hlt : k < F.length
      · have hi0 : (0 : Int) ≤ (k : Int) := by omega
        have hi1 : (k : Int) < (F.length : Int) := by omega
        have HW0 : Hid (Below w0.heap.size w0 wr) := HB0.out.trans (HB.out.b.mono H0.out)
        have hw := hF.below HW0.out
        obtain ⟨ad, rfl, hc⟩ := hw.at_ (by omega)
        obtain ⟨hc0, hc1', hc2'⟩ := hc k F[k] (List.getElem?_eq_getElem hlt)
        have hc1 := pk_at1 hc1'
        have hc2 := pk_at2 hc2'
        obtain ⟨hz1, hz2⟩ := hs _ (List.getElem_mem hlt)
        have hlen := picks_len (p := F.take k) (by rw [List.length_take]; omega) (fun a ha => hs a (List.mem_of_mem_take ha)) y
        have HST : Hid ((F.take (k + 1)).foldl pckW y = pckW ((F.take k).foldl pckW y) F[k]) := fold_step pckW y F hlt
        obtain ⟨z, hz⟩ : ∃ z, z = (F.take k).foldl pckW y := ⟨_, rfl⟩
        rw [← hz] at HI HST hlen
        have HZL : Hid (z.1.length ≤ 10420631) := by show _ ≤ _; have := HYL.out; omega
        generalize F[k] = f at HST hz1 hz2 hc0 hc1 hc2
        obtain ⟨f1, fh, f2⟩ := f
        simp only at hz1 hz2 hc0 hc1 hc2
        clear hz hw hc hc1' hc2' hlen
        obtain ⟨V, hV⟩ : ∃ V, V = wr.alloc (.cells #[.string f1, .bool fh, .string f2] 53) := ⟨_, rfl⟩
        have HBV : Hid (Below wr.heap.size wr V) := by
          show Below _ _ _
          rw [hV]
          exact (Below.refl _ _).alloc (Nat.le_refl _) _
        have ZV : Hid (V.heap[wr.heap.size]? = some (.cells #[.string f1, .bool fh, .string f2] 53 (0, 0))) := by
          show _ = _
          rw [hV]
          exact heap_alloc_new wr _
        have C1 := Lib.hid (eText_any E z f1 V (HI.out.below HBV.out) (fun _ => by have := HZL.out; omega) (by unfold maxLen; omega))
        have hl1 := txtW_len f1 z
        have C2 := Lib.hid (fun (W : World) (hW : IsE W E (txtW f1 z)) => eFlag_any E (txtW f1 z) fh W hW (fun _ => by have := HZL.out; omega))
        have hl2 := numW_len 1 0 1 3 (if fh then 1 else 0) (txtW f1 z)
        have C4 := Lib.hid (fun (W : World) (hW : IsE W E (numW 1 0 1 3 (if fh then 1 else 0) (txtW f1 z))) => eText_any E (numW 1 0 1 3 (if fh then 1 else 0) (txtW f1 z)) f2 W hW (fun _ => by have := HZL.out; omega) (by unfold maxLen; omega))
        have HPW : Hid (pckW z ⟨f1, fh, f2⟩ = txtW f2 (numW 1 0 1 3 (if fh then 1 else 0) (txtW f1 z))) := rfl
        rw [HPW.out] at HST
        generalize numW 1 0 1 3 (if fh then 1 else 0) (txtW f1 z) = z2 at *
        clear hl1 hl2 hz1 hz2 HPW
        go_upto_region 3 with fail
        rw [← hV]
        clear hV hc0 hc1 hc2
        obtain ⟨z0, _⟩ := rowAt ZV.out 0 _ rfl
        go_wp2_with fail
        refine C1.out.mono ?_
        rintro e w1 ⟨rfl, hI1, hb1⟩
        have HGE : Hid (wr.heap.size ≠ E) := by show _ ≠ _; have := HI.out.lt; omega
        have Z1 := Lib.hid ((hb1.f _ _ _ ZV.out HGE.out (by kernel_rfl)).trans ZV.out)
        have HC1 := Lib.hid ((Chg.of_below HBV.out (Nat.le_of_lt HI.out.lt)).trans hb1)
        have C3 := Lib.hid (C2.out w1 hI1)
        clear z0 C1 C2 hI1 hb1
        obtain ⟨z1, _⟩ := rowAt Z1.out 1 _ rfl
        go_wp2_with fail
        refine C3.out.mono ?_
        rintro e w2 ⟨rfl, hI2, hb2⟩
        have HC2 := Lib.hid ((HB.out.trans HC1.out).trans hb2)
        have HI2 := Lib.hid hI2
        have Z2 := Lib.hid ((hb2.f _ _ _ Z1.out HGE.out (by kernel_rfl)).trans Z1.out)
        have C5 := Lib.hid (C4.out w2 hI2)
        clear z1 C3 hI2 hb2
        obtain ⟨z2', _⟩ := rowAt Z2.out 2 _ rfl
        go_wp2_with fail
        refine C5.out.mono ?_
        rintro e w3 ⟨rfl, hI3, hb3⟩
        have HC3 := Lib.hid (HC2.out.trans hb3)
        have HI3 := Lib.hid hI3
        clear z2' C5 hI3 hb3
        go_wp2_with fail
        go_roundw
        case rel => exact ⟨k + 1, by omega, by go_num, by show IsE _ _ _; rw [HST.out]; exact HI3.out, HC3.out⟩
        case measure => simp [intOf]; omega
      · have hi1 : ¬ (k : Int) < (F.length : Int) := by omega
        have HN : Hid ((F.take k).foldl pckW y = F.foldl pckW y) := by show _ = _; rw [List.take_of_length_le (by omega)]
        go_wp2_with fail
        go_end0
        exact ⟨rfl, by rw [← HN.out]; exact HI.out, HB.out⟩
  · have HN : Hid (F.foldl pckW y = y) := fold_stuck (pckW_stuck hy0) F
    rw [show numA (F.length : Int) y = 0 by unfold numA; rw [if_neg hy0]] at C0
    rw [HN.out]
    clear hy0
    go_enter Tryd.func54, Tryd.ntmps54
    go_wp2_with fail
    refine C0.out.mono ?_
    rintro e w1 ⟨rfl, hI, hb1⟩
    have HI := Lib.hid hI
    have HB1 := Lib.hid hb1
    clear hI hb1 C0
    go_wp2_with fail
    go_loopw [13] (fun i wr => i = .int .i64 0 ∧ Hid (IsE wr E y) ∧ Hid (Chg E w wr)) (fun _ _ => 0)
    case atStart => exact ⟨rfl, HI.out, HB1.out⟩
    case round =>
      clear HI HB1
      obtain ⟨rfl, HI, HB⟩ := hrel
      go_wp2_with fail
      go_end0
      exact ⟨rfl, HI.out, HB.out⟩

end Go.Proofs.YthhlcecojeaalaaDoor
end
