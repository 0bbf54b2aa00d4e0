/-
  Texts that the laws of this seat lean on, one behind the other.
-/
import Derived.Test.YthhlcecojeaalaaDoorMrgAP
import Derived.BigQuiet
import Derived.Test.YthhlcecojeaalaaDoorMrgAO
import Derived.Test.YthhlcecojeaalaaDoorMrgAI
import Derived.Test.YthhlcecojeaalaaDoorMrgH
import Derived.Test.YthhlcecojeaalaaDoorMrgG
import Derived.Deep.RegionHeld3
set_option linter.unusedSimpArgs false
set_option linter.unusedVariables false
/-
  Package variant: the encoder's stored replies; Encode.
-/
section
namespace Go.Proofs.YthhlcecojeaalaaDoor
open Go.RowKit
set_option linter.unusedSimpArgs false

set_option maxHeartbeats 16000000 in
set_option maxRecDepth 100000 in
theorem eVariants_any (E : Nat) (x : WS) (A : Option Addr) (c : Nat) (L : List Sd) (w0 w : World) (h0 : w0.heap.size ≤ E) (hb0 : Below w0.heap.size w0 w) (h : IsE w E x) (hx : x.1.length ≤ 0) (hT : VntTabs w0) (hL : SlD w0 A L.length c L) (hl : L.length ≤ 8) (hs : ∀ y ∈ L, FwE y.x) :
    Calls Tryd.prog 34 #[.pointer (some ⟨E, 0, none⟩), .slice A L.length c] w (Enc E (.tuple #[]) ((L.map fun y => y.x).foldl stoW (numW 1 0 4 4 L.length x)) w) := by
  have C0 := Lib.hid (eNum_any E x L.length 0 0 1 0 4 4 rfl w h (fun _ => by omega) (hT.kept hb0).s0 (by decide) (by decide) (by decide) (by decide) (by decide) (by decide))
  have hyl := numW_len 1 0 4 4 (L.length : Int) x
  obtain ⟨y, hy⟩ : ∃ y, y = numW 1 0 4 4 (L.length : Int) x := ⟨_, rfl⟩
  rw [← hy] at C0 hyl ⊢
  have HYL : Hid (y.1.length ≤ 1) := by show _ ≤ _; omega
  have H0 := Lib.hid h0
  have HB0 := Lib.hid hb0
  have hcap : (L.length : Int) ≤ (c : Int) := by have := hL.cap; omega
  have hc0 : (0 : Int) ≤ (L.length : Int) := by omega
  have hc1 : (0 : Int) ≤ (c : Int) := by omega
  have HE := Lib.hid h.lt
  clear hy hyl h hx hb0 h0
  by_cases hy0 : y.2 = 0
  · rw [show numA (L.length : Int) y = L.length by unfold numA; rw [if_pos hy0]] at C0
    clear hy0
    go_enter Tryd.func34, Tryd.ntmps34
    go_wp2_with fail
    refine C0.out.mono ?_
    rintro e w1 ⟨rfl, hI, hb1⟩
    have HI := Lib.hid hI
    have HB1 := Lib.hid hb1
    clear hI hb1 C0
    go_wp2_with fail
    go_loopw [13] (fun i wr => ∃ k : Nat, k ≤ L.length ∧ i = .int .i64 k ∧ Hid (IsE wr E (((L.map fun y => y.x).take k).foldl stoW y)) ∧ Hid (Chg E w wr)) (fun i _ => L.length - (intOf i).toNat)
    case atStart => exact ⟨0, Nat.zero_le _, rfl, HI.out, HB1.out⟩
    case round =>
      clear HI HB1
      obtain ⟨k, hk, rfl, HI, HB⟩ := hrel
      by_cases hlt : k < L.length
      · have hi0 : (0 : Int) ≤ (k : Int) := by omega
        have hi1 : (k : Int) < (L.length : Int) := by omega
        have HW0 : Hid (Below w0.heap.size w0 wr) := HB0.out.trans (HB.out.b.mono H0.out)
        have hw := hL.below HW0.out
        obtain ⟨ad, rfl, _⟩ := hw.at_ (by omega)
        obtain ⟨e0, e1, e2, e3, e4, e5, e6⟩ := hw.elem hlt
        have hsd := hL.all _ (List.getElem_mem hlt)
        have hzz := hL.sz _ (List.getElem_mem hlt)
        have hfw := hs _ (List.getElem_mem hlt)
        have hlen := sto_take (L.map fun y => y.x) (fun a ha => by obtain ⟨b, hb, rfl⟩ := List.mem_map.1 ha; exact hs b hb) (by rw [List.length_map]; exact hl) k y HYL.out
        have hst := fold_step stoW y (L.map fun y => y.x) (k := k) (by rw [List.length_map]; exact hlt)
        rw [List.getElem_map] at hst
        obtain ⟨z, hz⟩ : ∃ z, z = ((L.map fun y => y.x).take k).foldl stoW y := ⟨_, rfl⟩
        rw [← hz] at HI hst hlen
        have HST := Lib.hid hst
        have HZL : Hid (z.1.length ≤ 6800001) := hlen
        generalize L[k] = s at HST e0 e1 e2 e3 e4 e5 e6 hsd hzz hfw
        clear hz hw hlen hst
        obtain ⟨sx, sfa, sfc, spa, spc⟩ := s
        obtain ⟨⟨sc, sr, sv, sf, sb, st⟩, sp⟩ := sx
        have hzr : sr.size ≤ 3000 := hfw.r
        have hzb : sb.size ≤ 3000 := hfw.b
        have hfl : sf.length ≤ 70 := hfw.fl
        have hff : ∀ x ∈ sf, x.1.size ≤ 3000 ∧ x.2.size ≤ 3000 := hfw.f
        have hpl : sp.length ≤ 70 := hfw.pl
        have hpp : ∀ x ∈ sp, x.n.size ≤ 3000 ∧ x.v.size ≤ 3000 := hfw.p
        have hsf : SlF w0 sfa sf.length sfc sf := hsd.f
        have hsk : SlK w0 spa sp.length spc sp := hsd.k
        simp only at e0 e1 e2 e3 e4 e5 e6
        clear hfw hsd hzz
        obtain ⟨V, hV⟩ : ∃ V, V = wr.alloc (.cells #[.int .i64 sc, .string sr, .int .i64 sv, .slice sfa sf.length sfc, .string sb, .int .i64 st, .slice spa sp.length spc] 28) := ⟨_, rfl⟩
        have HBV : Hid (Below wr.heap.size wr V) := by
          show Below _ _ _
          rw [hV]
          exact (Below.refl _ _).alloc (Nat.le_refl _) _
        have ZV : Hid (V.heap[wr.heap.size]? = some (.cells #[.int .i64 sc, .string sr, .int .i64 sv, .slice sfa sf.length sfc, .string sb, .int .i64 st, .slice spa sp.length spc] 28 (0, 0))) := by
          show _ = _
          rw [hV]
          exact heap_alloc_new wr _
        have HGE : Hid (wr.heap.size ≠ E) := by show _ ≠ _; have := HI.out.lt; omega
        have HCV := Lib.hid (HB.out.trans (Chg.of_below HBV.out (Nat.le_of_lt HI.out.lt)))
        have HIV := Lib.hid (HI.out.below HBV.out)
        -- what the encoder holds behind each part
        obtain ⟨z1, q1⟩ : ∃ z1, z1 = numW 5 0 253402300799 3 st z := ⟨_, rfl⟩
        obtain ⟨z2, q2⟩ : ∃ z2, z2 = numW 2 200 599 3 sc z1 := ⟨_, rfl⟩
        obtain ⟨z3, q3⟩ : ∃ z3, z3 = numW 1 0 1 3 sv z2 := ⟨_, rfl⟩
        obtain ⟨z4, q4⟩ : ∃ z4, z4 = txtW sr z3 := ⟨_, rfl⟩
        obtain ⟨z5, q5⟩ : ∃ z5, z5 = sf.foldl fldW (numW 1 0 64 4 sf.length z4) := ⟨_, rfl⟩
        obtain ⟨z6, q6⟩ : ∃ z6, z6 = txtW sb z5 := ⟨_, rfl⟩
        obtain ⟨z7, q7⟩ : ∃ z7, z7 = sp.foldl pckW (numW 1 0 64 4 sp.length z6) := ⟨_, rfl⟩
        have HSW : Hid (stoW z ⟨⟨sc, sr, sv, sf, sb, st⟩, sp⟩ = z7) := by show _ = _; rw [q7, q6, q5, q4, q3, q2, q1]; rfl
        have l1 : z1.1.length ≤ 6800006 := by have := numW_len 5 0 253402300799 3 st z; have := HZL.out; rw [q1]; omega
        have l2 : z2.1.length ≤ 6800008 := by have := numW_len 2 200 599 3 sc z1; rw [q2]; omega
        have l3 : z3.1.length ≤ 6800009 := by have := numW_len 1 0 1 3 sv z2; rw [q3]; omega
        have l4 : z4.1.length ≤ 6803013 := by have := txtW_len sr z3; rw [q4]; omega
        have l5 : z5.1.length ≤ 7223574 := by have := fields_len hfl hff (numW 1 0 64 4 sf.length z4); have := numW_len 1 0 64 4 sf.length z4; rw [q5]; omega
        have l6 : z6.1.length ≤ 7226578 := by have := txtW_len sb z5; rw [q6]; omega
        have D1 := Lib.hid (fun (W : World) (hW : IsE W E z) (hC : Chg E w W) => eNum_any E z st 1 1 5 0 253402300799 3 rfl W hW (fun _ => by have := HZL.out; omega) (hT.kept (HB0.out.trans (hC.b.mono H0.out))).s1 (by decide) (by decide) (by decide) (by decide) (by decide) (by decide))
        have D2 := Lib.hid (fun (W : World) (hW : IsE W E z1) (hC : Chg E w W) => eNum_any E z1 sc 2 2 2 200 599 3 rfl W hW (fun _ => by omega) (hT.kept (HB0.out.trans (hC.b.mono H0.out))).s2 (by decide) (by decide) (by decide) (by decide) (by decide) (by decide))
        have D3 := Lib.hid (fun (W : World) (hW : IsE W E z2) (hC : Chg E w W) => eNum_any E z2 sv 3 3 1 0 1 3 rfl W hW (fun _ => by omega) (hT.kept (HB0.out.trans (hC.b.mono H0.out))).s3 (by decide) (by decide) (by decide) (by decide) (by decide) (by decide))
        have D4 := Lib.hid (fun (W : World) (hW : IsE W E z3) => eText_any E z3 sr W hW (fun _ => by omega) (by unfold maxLen; omega))
        have D5 := Lib.hid (fun (W : World) (hW : IsE W E z4) (hC : Chg E w W) => eFields_any E z4 sfa sfc sf w0 W H0.out (HB0.out.trans (hC.b.mono H0.out)) hW (by omega) hT hsf hfl hff)
        have D6 := Lib.hid (fun (W : World) (hW : IsE W E z5) => eText_any E z5 sb W hW (fun _ => by omega) (by unfold maxLen; omega))
        have D7 := Lib.hid (fun (W : World) (hW : IsE W E z6) (hC : Chg E w W) => ePicks_any E z6 spa spc sp w0 W H0.out (HB0.out.trans (hC.b.mono H0.out)) hW (by omega) hT hsk hpl hpp)
        rw [← q1] at D1
        rw [← q2] at D2
        rw [← q3] at D3
        rw [← q4] at D4
        rw [← q5] at D5
        rw [← q6] at D6
        rw [← q7] at D7
        rw [HSW.out] at HST
        clear q1 q2 q3 q4 q5 q6 q7 l1 l2 l3 l4 l5 l6 hzr hzb hfl hff hpl hpp hsf hsk HSW HZL
        generalize numA st z1 = a1 at *
        generalize numA sc z2 = a2 at *
        generalize numA sv z3 = a3 at *
        go_upto_region 3 with fail
        rw [← hV]
        clear hV e0 e1 e2 e3 e4 e5 e6
        have C1 := Lib.hid (D1.out V HIV.out HCV.out)
        obtain ⟨p0, _⟩ := rowAt ZV.out 5 _ rfl
        go_wp2_with fail
        refine C1.out.mono ?_
        rintro e w1 ⟨rfl, hI, hb⟩
        have Z1 := Lib.hid ((hb.f _ _ _ ZV.out HGE.out (by kernel_rfl)).trans ZV.out)
        have HC1 := Lib.hid (HCV.out.trans hb)
        have C2 := Lib.hid (D2.out w1 hI HC1.out)
        clear p0 C1 D1 hI hb
        obtain ⟨p0, _⟩ := rowAt Z1.out 0 _ rfl
        go_wp2_with fail
        refine C2.out.mono ?_
        rintro e w2 ⟨rfl, hI, hb⟩
        have Z2 := Lib.hid ((hb.f _ _ _ Z1.out HGE.out (by kernel_rfl)).trans Z1.out)
        have HC2 := Lib.hid (HC1.out.trans hb)
        have C3 := Lib.hid (D3.out w2 hI HC2.out)
        clear p0 C2 D2 hI hb
        obtain ⟨p0, _⟩ := rowAt Z2.out 2 _ rfl
        go_wp2_with fail
        refine C3.out.mono ?_
        rintro e w3 ⟨rfl, hI, hb⟩
        have Z3 := Lib.hid ((hb.f _ _ _ Z2.out HGE.out (by kernel_rfl)).trans Z2.out)
        have HC3 := Lib.hid (HC2.out.trans hb)
        have C4 := Lib.hid (D4.out w3 hI)
        clear p0 C3 D3 hI hb
        obtain ⟨p0, _⟩ := rowAt Z3.out 1 _ rfl
        go_wp2_with fail
        refine C4.out.mono ?_
        rintro e w4 ⟨rfl, hI, hb⟩
        have Z4 := Lib.hid ((hb.f _ _ _ Z3.out HGE.out (by kernel_rfl)).trans Z3.out)
        have HC4 := Lib.hid (HC3.out.trans hb)
        have C5 := Lib.hid (D5.out w4 hI HC4.out)
        clear p0 C4 D4 hI hb
        obtain ⟨p0, _⟩ := rowAt Z4.out 3 _ rfl
        go_wp2_with fail
        refine C5.out.mono ?_
        rintro e w5 ⟨rfl, hI, hb⟩
        have Z5 := Lib.hid ((hb.f _ _ _ Z4.out HGE.out (by kernel_rfl)).trans Z4.out)
        have HC5 := Lib.hid (HC4.out.trans hb)
        have C6 := Lib.hid (D6.out w5 hI)
        clear p0 C5 D5 hI hb
        obtain ⟨p0, _⟩ := rowAt Z5.out 4 _ rfl
        go_wp2_with fail
        refine C6.out.mono ?_
        rintro e w6 ⟨rfl, hI, hb⟩
        have Z6 := Lib.hid ((hb.f _ _ _ Z5.out HGE.out (by kernel_rfl)).trans Z5.out)
        have HC6 := Lib.hid (HC5.out.trans hb)
        have C7 := Lib.hid (D7.out w6 hI HC6.out)
        clear p0 C6 D6 hI hb
        obtain ⟨p0, _⟩ := rowAt Z6.out 6 _ rfl
        go_wp2_with fail
        refine C7.out.mono ?_
        rintro e w7 ⟨rfl, hI, hb⟩
        have HC7 := Lib.hid (HC6.out.trans hb)
        have HI7 := Lib.hid hI
        clear p0 C7 D7 hI hb
        go_wp2_with fail
        go_roundw
        case rel => exact ⟨k + 1, by omega, by go_num, by show IsE _ _ _; rw [HST.out]; exact HI7.out, HC7.out⟩
        case measure => simp [intOf]; omega
      · have hi1 : ¬ (k : Int) < (L.length : Int) := by omega
        have HN : Hid (((L.map fun y => y.x).take k).foldl stoW y = (L.map fun y => y.x).foldl stoW y) := by show _ = _; rw [List.take_of_length_le (by rw [List.length_map]; omega)]
        go_wp2_with fail
        go_end0
        exact ⟨rfl, by rw [← HN.out]; exact HI.out, HB.out⟩
  · have HN : Hid ((L.map fun y => y.x).foldl stoW y = y) := fold_stuck (stoW_stuck hy0) _
    rw [show numA (L.length : Int) y = 0 by unfold numA; rw [if_neg hy0]] at C0
    rw [HN.out]
    clear hy0
    go_enter Tryd.func34, Tryd.ntmps34
    go_wp2_with fail
    refine C0.out.mono ?_
    rintro e w1 ⟨rfl, hI, hb1⟩
    have HI := Lib.hid hI
    have HB1 := Lib.hid hb1
    clear hI hb1 C0
    go_wp2_with fail
    go_loopw [13] (fun i wr => i = .int .i64 0 ∧ Hid (IsE wr E y) ∧ Hid (Chg E w wr)) (fun _ _ => 0)
    case atStart => exact ⟨rfl, HI.out, HB1.out⟩
    case round =>
      clear HI HB1
      obtain ⟨rfl, HI, HB⟩ := hrel
      go_wp2_with fail
      go_end0
      exact ⟨rfl, HI.out, HB.out⟩

set_option maxHeartbeats 4000000 in
set_option maxRecDepth 100000 in
theorem vntE_any (A : Option Addr) (n c : Nat) (L : List Sd) (w : World) (h : SlD w A n c L) (hn : n ≤ 8) (hL : ∀ y ∈ L, FwE y.x) (hT : VntTabs w) :
    Calls Tryd.prog 18 #[.slice A n c] w (Bytes2 w (veB (L.map fun z => z.x)) (veE (L.map fun z => z.x))) := by
  have hlen := h.len
  subst hlen
  obtain ⟨V, hV⟩ : ∃ V, V = w.alloc (.cells #[.slice none 0 0, .int .i64 0] 69) := ⟨_, rfl⟩
  have hbv : Below w.heap.size w V := by
    rw [hV]
    exact (Below.refl _ _).alloc (Nat.le_refl _) _
  have zv : V.heap[w.heap.size]? = some (.cells #[.slice none 0 0, .int .i64 0] 69 (0, 0)) := by
    rw [hV]
    exact heap_alloc_new w _
  have hi : IsE V w.heap.size ([], 0) := ⟨_, [], zv, World.ownsRow_nil _ _ _ _, fun _ => rfl⟩
  have C := Lib.hid (eVariants_any w.heap.size ([], 0) A c L w V (Nat.le_refl _) hbv hi (Nat.le_refl _) hT h hn hL)
  obtain ⟨y, hy⟩ : ∃ y, y = (L.map fun z => z.x).foldl stoW (numW 1 0 4 4 L.length ([], 0)) := ⟨_, rfl⟩
  rw [← hy] at C
  have hw : veW (L.map fun z => z.x) = y := by rw [hy]; unfold veW; rw [List.length_map]
  have HE : Hid (veE (L.map fun z => z.x) = y.2) := by show _ = _; unfold veE; rw [hw]
  have HX : Hid (veB (L.map fun z => z.x) = if y.2 = 0 then y.1 else []) := by show _ = _; unfold veB veE; rw [hw]
  have HBV := Lib.hid hbv
  generalize veB (L.map fun z => z.x) = bs at *
  generalize veE (L.map fun z => z.x) = er at *
  unfold Bytes2
  clear hy hw hbv zv hi h hn hL hT
  go_enter Tryd.func18, Tryd.ntmps18
  go_upto_region 2 with fail
  rw [← hV]
  clear hV
  go_wp2_with fail
  refine C.out.mono ?_
  rintro e w1 ⟨rfl, hI, hb⟩
  have HB1 := Lib.hid (HBV.out.trans hb.b)
  obtain ⟨v, l, hg, ho, hl⟩ := hI
  have CF := Lib.hid (found_any y.2 w1)
  obtain ⟨d1, _⟩ := rowAt hg 1 _ rfl
  have HG := Lib.hid hg
  have HO := Lib.hid ho
  clear hb hg ho C
  by_cases h0 : y.2 = 0
  · rw [if_pos h0] at HX
    have HLL := Lib.hid (hl h0)
    rw [h0] at CF HE d1 HG
    rw [show (!((0 : Int) == 0)) = false from rfl] at CF
    clear h0 hl
    go_wp2_with fail
    refine CF.out.mono ?_
    rintro e w2 ⟨rfl, hb2⟩
    have HB2 := Lib.hid (HB1.out.trans (hb2.mono HB1.out.size))
    obtain ⟨A2, c2, rfl, hS⟩ := (HO.out.below hb2).sl8
    have HS := Lib.hid hS
    obtain ⟨d0, _⟩ := rowAt (zero_still hb2 HG.out) 0 _ rfl
    have hll := HLL.out
    subst hll
    clear d1 hS hb2 CF
    go_wp2_with fail
    go_ret2
    rw [HE.out, HX.out]
    exact ⟨A2, _, c2, rfl, HS.out, HB2.out⟩
  · rw [if_neg h0] at HX
    have h0' : (y.2 == 0) = false := by simpa using h0
    rw [h0'] at CF
    clear h0 h0' hl
    go_wp2_with fail
    refine CF.out.mono ?_
    rintro e w2 ⟨rfl, hb2⟩
    have HB2 := Lib.hid (HB1.out.trans (hb2.mono HB1.out.size))
    obtain ⟨d1', _⟩ := rowAt (zero_still hb2 HG.out) 1 _ rfl
    clear d1 hb2 CF
    go_wp2_with fail
    go_quiet (fail)
    go_wp2_with fail
    go_ret2
    rw [HE.out, HX.out]
    exact ⟨none, 0, 0, rfl, Sl8.none_ _, HB2.out.trans (below_drawn (Below.refl _ _) _)⟩

end Go.Proofs.YthhlcecojeaalaaDoor
end

/-
  Package variant: the decoder's number, text, flag.
-/
section
namespace Go.Proofs.YthhlcecojeaalaaDoor
open Go.RowKit
set_option linter.unusedSimpArgs false

/-- Block g holds no bytes. -/
def NoB (w : World) (g : Nat) : Prop := ∃ cs t, w.heap[g]? = some (.cells cs t (0, 0)) ∧ ∀ v ∈ cs.toList, ∀ x : UInt8, v ≠ byV x
theorem NoB.keep {w w' : World} {g : Nat} (h : NoB w g) (hk : w'.heap[g]? = w.heap[g]?) : NoB w' g := by
  obtain ⟨cs, t, h1, h2⟩ := h
  exact ⟨cs, t, hk.trans h1, h2⟩
/-- What is read as bytes lies in no such block. -/
theorem Sl8.noB {w w' : World} {g : Nat} {A : Option Addr} {n c : Nat} {l : List UInt8} (h : Sl8 w A n c l) (hn : NoB w g) (hk : ∀ k, k < w.heap.size → k ≠ g → w'.heap[k]? = w.heap[k]?) : Sl8 w' A n c l := by
  refine ⟨h.len, h.cap, h.cm, h.nil, fun hn0 => ?_⟩
  obtain ⟨ad, e, hc⟩ := h.at_ hn0
  refine ⟨ad, e, fun j x hx => ?_⟩
  have h1 := hc j x hx
  have hlt := World.block_lt_of_cell? w _ h1
  by_cases hR : (ad.add j).block = g
  · exfalso
    obtain ⟨cs, t, hg, hcs⟩ := hn
    simp only [World.cell?, hR, hg] at h1
    split at h1
    · cases h1
    · exact hcs _ (Array.mem_toList_iff.2 (Array.mem_of_getElem? h1)) x rfl
  · exact (World.cell?_of_block (w := w) (hk _ hlt hR)).trans h1
theorem Hold1.noB {w w' : World} {R g t : Nat} {l : List UInt8} (h : Hold1 w R t l) (hn : NoB w g) (hR : R ≠ g) (hk : ∀ k, k < w.heap.size → k ≠ g → w'.heap[k]? = w.heap[k]?) : Hold1 w' R t l := by
  obtain ⟨A, n, c, hg, hs⟩ := h
  exact ⟨A, n, c, (hk R (Array.getElem?_eq_some_iff.1 hg).1 hR).trans hg, hs.noB hn hk⟩
theorem Hold1.drew {w : World} {R t : Nat} {l : List UInt8} (h : Hold1 w R t l) : Hold1 w.drew R t l := by
  obtain ⟨A, n, c, hg, hs⟩ := h
  exact ⟨A, n, c, hg, hs.drew⟩

/-- All but two blocks are as they were. -/
structure But2 (D R : Nat) (w w' : World) : Prop where
  os : w'.os = w.os
  tape : w'.tape = w.tape
  output : w'.output = w.output
  size : w.heap.size ≤ w'.heap.size
  block : ∀ k, k < w.heap.size → k ≠ D → k ≠ R → w'.heap[k]? = w.heap[k]?
theorem But2.refl (D R : Nat) (w : World) : But2 D R w w := ⟨rfl, rfl, rfl, Nat.le_refl _, fun _ _ _ _ => rfl⟩
theorem But2.of_below {D R : Nat} {w w' : World} (h : Below w.heap.size w w') : But2 D R w w' := ⟨h.os, h.tape, h.output, h.size, fun k hk _ _ => h.block k hk⟩
theorem But2.of_but {D R : Nat} {w w' : World} (h : ButB R w w') : But2 D R w w' := ⟨h.os, h.tape, h.output, h.size, fun k hk _ h2 => h.block k hk h2⟩
theorem But2.trans {D R : Nat} {w w1 w2 : World} (h : But2 D R w w1) (k : But2 D R w1 w2) : But2 D R w w2 :=
  ⟨k.os.trans h.os, k.tape.trans h.tape, k.output.trans h.output, Nat.le_trans h.size k.size, fun i hi h1 h2 => (k.block i (Nat.lt_of_lt_of_le hi h.size) h1 h2).trans (h.block i hi h1 h2)⟩
theorem But2.set {D R : Nat} {w w' : World} (h : But2 D R w w') (o : Nat) (u : Value) : But2 D R w (w'.setCell ⟨D, o, none⟩ u) :=
  h.trans ⟨rfl, rfl, rfl, by simp [World.setCell], fun _ _ hk _ => Below.heap_setCell _ _ _ _ hk⟩
theorem But2.below {D R B : Nat} {w w' : World} (h : But2 D R w w') (hB : B ≤ w.heap.size) (hD : B ≤ D) (hR : B ≤ R) : Below B w w' :=
  ⟨h.os, h.tape, h.output, h.size, fun k hk => h.block k (by omega) (by omega) (by omega)⟩
theorem but2_drew (D R : Nat) (w : World) : But2 D R w w.drew := ⟨rfl, rfl, rfl, Nat.le_refl _, fun _ _ _ _ => rfl⟩

/-- Block D is a decoder that reads l by the reader in block R: it stands at x.1, unless the code x.2 tells a fault. -/
structure IsDc (w : World) (D R : Nat) (l : List UInt8) (x : RS) : Prop where
  d : w.heap[D]? = some (.cells #[.pointer (some ⟨R, 0, none⟩), .int .i64 x.2] 79 (0, 0))
  r : x.2 = 0 → Hold1 w R 100 (l.drop x.1) ∧ x.1 ≤ l.length
  lt : R < w.heap.size
  ne : R ≠ D
theorem noB_dec {w : World} {D R t : Nat} {z : Int} (h : w.heap[D]? = some (.cells #[.pointer (some ⟨R, 0, none⟩), .int .i64 z] t (0, 0))) : NoB w D :=
  ⟨_, _, h, fun v hv x => by
    simp only [List.mem_cons, List.not_mem_nil, or_false] at hv
    rcases hv with rfl | rfl <;> simp [byV]⟩
theorem IsDc.below {w w' : World} {D R : Nat} {l : List UInt8} {x : RS} (h : IsDc w D R l x) (hb : Below w.heap.size w w') : IsDc w' D R l x :=
  ⟨zero_still hb h.d, fun e => ⟨(h.r e).1.below hb, (h.r e).2⟩, Nat.lt_of_lt_of_le h.lt hb.size, h.ne⟩
/-- .. as a change of a block that holds no bytes leaves it. -/
theorem IsDc.other {w w' : World} {D R g : Nat} {l : List UInt8} {x : RS} (h : IsDc w D R l x) (hn : NoB w g) (hD : g ≠ D) (hR : g ≠ R) (hs : w.heap.size ≤ w'.heap.size) (hk : ∀ k, k < w.heap.size → k ≠ g → w'.heap[k]? = w.heap[k]?) : IsDc w' D R l x :=
  ⟨(hk D (Array.getElem?_eq_some_iff.1 h.d).1 (Ne.symm hD)).trans h.d, fun e => ⟨(h.r e).1.noB hn (Ne.symm hR) hk, (h.r e).2⟩, Nat.lt_of_lt_of_le h.lt hs, h.ne⟩
/-- A call on the decoder: what it answers, where it stands then, what else has changed. -/
def Dec (D R : Nat) (l : List UInt8) (v : Value) (x : RS) (w : World) (e : Ending) (w' : World) : Prop := e = .returned v ∧ IsDc w' D R l x ∧ But2 D R w w'
/-- Its code is set. -/
theorem dec_set {w w1 : World} {D R : Nat} {l : List UInt8} {z : Int} {x : RS} (hd : w1.heap[D]? = some (.cells #[.pointer (some ⟨R, 0, none⟩), .int .i64 z] 79 (0, 0)))
    (hr : x.2 = 0 → Hold1 w1 R 100 (l.drop x.1) ∧ x.1 ≤ l.length) (hlt : R < w1.heap.size) (hne : R ≠ D) (hb : But2 D R w w1) :
    IsDc (w1.setCell ⟨D, 1, none⟩ (.int .i64 x.2)) D R l x ∧ But2 D R w (w1.setCell ⟨D, 1, none⟩ (.int .i64 x.2)) :=
  ⟨⟨w_set1 hd _, fun e => ⟨(hr e).1.noB (noB_dec hd) hne (fun _ _ h => Below.heap_setCell _ _ _ _ h), (hr e).2⟩, by simpa [World.setCell] using hlt, hne⟩, hb.set _ _⟩

set_option maxHeartbeats 8000000 in
set_option maxRecDepth 100000 in
theorem dText_any (D R : Nat) (l : List UInt8) (x : RS) (w : World) (h : IsDc w D R l x) (hl : l.length ≤ 1000000) :
    Calls Tryd.prog 59 #[.pointer (some ⟨D, 0, none⟩)] w (Dec D R l (.string (txtR l x).1) (txtR l x).2 w) := by
  obtain ⟨I, er⟩ := x
  obtain ⟨hd, hr, hlt, hne⟩ := h
  simp only at hd hr
  obtain ⟨d0, _⟩ := rowAt hd 0 _ rfl
  obtain ⟨d1, f1⟩ := rowAt hd 1 _ rfl
  have C := Lib.hid (found_any er w)
  have HD := Lib.hid hd
  by_cases hE : er = 0
  · subst hE
    rw [show (!((0 : Int) == 0)) = false from rfl] at C
    obtain ⟨hR, hI⟩ := hr rfl
    have CT := Lib.hid (fun (W : World) (hW : Below w.heap.size w W) => wText_any R (l.drop I) W (hR.below hW) (by rw [List.length_drop]; omega))
    have HT : Hid ((txtR l (I, 0)).1 = mkS (textV (l.drop I)) ∧ (txtR l (I, 0)).2.2 = textE (l.drop I) ∧ (textE (l.drop I) = 0 → (txtR l (I, 0)).2.1 = I + textK (l.drop I) ∧ I + textK (l.drop I) ≤ l.length)) := by
      show _ ∧ _ ∧ _
      have hk : textE (l.drop I) = 0 → I + textK (l.drop I) ≤ l.length := fun h0 => by
        have e2 : textK (l.drop I) = 4 + (getV (l.drop I) 0 4).toNat := by unfold textK; rw [if_pos h0]
        rcases text_cs (l.drop I) with ⟨_, h1, _⟩ | ⟨_, _, h1, _⟩ | ⟨_, _, _, h1, _⟩ | ⟨h1, h2, h3, h4, h5, h6⟩
        · omega
        · omega
        · omega
        · have := get_len h1
          rw [List.length_drop] at this h3
          omega
      unfold txtR txtP
      rw [if_neg (by simp)]
      by_cases h0 : textE (l.drop I) = 0
      · rw [if_neg (by simpa using h0)]
        exact ⟨rfl, h0.symm, fun _ => ⟨rfl, hk h0⟩⟩
      · rw [if_pos h0]
        have e1 : textV (l.drop I) = [] := by unfold textV; rw [if_neg h0]
        exact ⟨by rw [e1], rfl, fun q => absurd q h0⟩
    generalize txtR l (I, 0) = T at *
    obtain ⟨T1, T2⟩ := T
    simp only at HT ⊢
    generalize mkS (textV (l.drop I)) = s at *
    generalize textE (l.drop I) = z at *
    generalize textK (l.drop I) = K at *
    have HL := Lib.hid hlt
    have HN := Lib.hid hne
    clear hr hR hI hd hl hlt hne
    go_enter Tryd.func59, Tryd.ntmps59
    go_wp2_with fail
    refine C.out.mono ?_
    rintro e w1 ⟨rfl, hb1⟩
    have HB1 := Lib.hid hb1
    have C2 := Lib.hid (CT.out w1 hb1)
    have HD1 := Lib.hid (zero_still hb1 HD.out)
    clear d0 d1 f1 C CT hb1
    obtain ⟨d0, _⟩ := rowAt HD1.out 0 _ rfl
    obtain ⟨d1, f1⟩ := rowAt HD1.out 1 _ rfl
    go_wp2_with fail
    refine C2.out.mono ?_
    rintro e w2 ⟨rfl, hh, hb2⟩
    have HH := Lib.hid hh
    have HB2 : Hid (But2 D R w w2) := (But2.of_below HB1.out).trans (But2.of_but hb2)
    have HD2 := Lib.hid ((hb2.block D (Array.getElem?_eq_some_iff.1 HD1.out).1 (Ne.symm HN.out)).trans HD1.out)
    clear d0 d1 f1 hh hb2 C2
    obtain ⟨d1, f1⟩ := rowAt HD2.out 1 _ rfl
    go_wp2_with fail
    go_ret
    obtain ⟨t1, t2, t3⟩ := HT.out
    have hq := dec_set (l := l) (x := T2) HD2.out (fun e => by
      rw [t2] at e
      obtain ⟨a, b⟩ := t3 e
      rw [a, ← List.drop_drop]
      exact ⟨HH.out, b⟩) (Nat.lt_of_lt_of_le HL.out HB2.out.size) HN.out HB2.out
    rw [t2] at hq
    rw [t1]
    exact ⟨rfl, hq.1, hq.2⟩
  · have h1 : (er == 0) = false := by simpa using hE
    rw [h1] at C
    have HR := Lib.hid hr
    have HT : Hid (txtR l (I, er) = (mkS [], (I, er))) := by show _ = _; unfold txtR; rw [if_pos (by simpa using hE)]
    rw [HT.out]
    clear hr hd hE h1 hl
    go_enter Tryd.func59, Tryd.ntmps59
    go_wp2_with fail
    refine C.out.mono ?_
    rintro e w1 ⟨rfl, hb1⟩
    go_wp2_with fail
    go_ret
    exact ⟨rfl, IsDc.below ⟨HD.out, HR.out, hlt, hne⟩ hb1, But2.of_below hb1⟩

set_option maxHeartbeats 8000000 in
set_option maxRecDepth 100000 in
theorem dFlag_any (D R : Nat) (l : List UInt8) (x : RS) (w : World) (h : IsDc w D R l x) :
    Calls Tryd.prog 79 #[.pointer (some ⟨D, 0, none⟩)] w (Dec D R l (.bool ((numR 1 0 1 l x).1 == 1)) (numR 1 0 1 l x).2 w) := by
  obtain ⟨I, er⟩ := x
  obtain ⟨hd, hr, hlt, hne⟩ := h
  simp only at hd hr
  obtain ⟨d0, _⟩ := rowAt hd 0 _ rfl
  obtain ⟨d1, f1⟩ := rowAt hd 1 _ rfl
  have C := Lib.hid (found_any er w)
  have HD := Lib.hid hd
  by_cases hE : er = 0
  · subst hE
    rw [show (!((0 : Int) == 0)) = false from rfl] at C
    obtain ⟨hR, hI⟩ := hr rfl
    have CT := Lib.hid (fun (W : World) (hW : Below w.heap.size w W) => flag_any R (l.drop I) W (hR.below hW))
    have HT : Hid (((numR 1 0 1 l (I, 0)).1 == 1) = flagV (l.drop I) ∧ (numR 1 0 1 l (I, 0)).2.2 = flagE (l.drop I) ∧ (flagE (l.drop I) = 0 → (numR 1 0 1 l (I, 0)).2.1 = I + flagK (l.drop I) ∧ I + flagK (l.drop I) ≤ l.length)) := by
      show _ ∧ _ ∧ _
      have hbd := (get_bd (l.drop I) 0 1).1
      unfold numR numP
      rw [if_neg (by simp)]
      have e1 : ((1 : Nat) : Int) = 1 := rfl
      rw [e1]
      by_cases h0 : getE (l.drop I) 0 1 = 0
      · have hk := get_len h0
        rw [List.length_drop] at hk
        rw [if_neg (by simpa using h0)]
        by_cases h1 : 1 < getV (l.drop I) 0 1
        · have f0 : flagE (l.drop I) = 5 := by unfold flagE; rw [if_pos h0, if_pos h1]
          rw [if_pos (.inr h1)]
          exact ⟨by unfold flagV; rw [f0]; rfl, f0.symm, fun q => by rw [f0] at q; cases q⟩
        · have f0 : flagE (l.drop I) = 0 := by unfold flagE; rw [if_pos h0, if_neg h1]
          rw [if_neg (show ¬ (getV (l.drop I) 0 1 < 0 ∨ 1 < getV (l.drop I) 0 1) from by omega)]
          refine ⟨by unfold flagV; rw [if_pos f0], f0.symm, fun _ => ?_⟩
          have hk1 : flagK (l.drop I) = 1 := by unfold flagK; rw [if_pos f0]
          rw [hk1]
          exact ⟨rfl, by omega⟩
      · have f0 : flagE (l.drop I) = getE (l.drop I) 0 1 := by unfold flagE; rw [if_neg h0]
        rw [if_pos h0]
        exact ⟨by unfold flagV; rw [f0, if_neg h0]; rfl, f0.symm, fun q => absurd (f0.symm.trans q) h0⟩
    generalize numR 1 0 1 l (I, 0) = T at *
    obtain ⟨T1, T2⟩ := T
    simp only at HT ⊢
    generalize (T1 == 1) = tb at *
    generalize flagV (l.drop I) = s at *
    generalize flagE (l.drop I) = z at *
    generalize flagK (l.drop I) = K at *
    have HL := Lib.hid hlt
    have HN := Lib.hid hne
    clear hr hR hI hd hlt hne
    go_enter Tryd.func79, Tryd.ntmps79
    go_wp2_with fail
    refine C.out.mono ?_
    rintro e w1 ⟨rfl, hb1⟩
    have HB1 := Lib.hid hb1
    have C2 := Lib.hid (CT.out w1 hb1)
    have HD1 := Lib.hid (zero_still hb1 HD.out)
    clear d0 d1 f1 C CT hb1
    obtain ⟨d0, _⟩ := rowAt HD1.out 0 _ rfl
    obtain ⟨d1, f1⟩ := rowAt HD1.out 1 _ rfl
    go_wp2_with fail
    refine C2.out.mono ?_
    rintro e w2 ⟨rfl, hh, hb2⟩
    have HH := Lib.hid hh
    have HB2 : Hid (But2 D R w w2) := (But2.of_below HB1.out).trans (But2.of_but hb2)
    have HD2 := Lib.hid ((hb2.block D (Array.getElem?_eq_some_iff.1 HD1.out).1 (Ne.symm HN.out)).trans HD1.out)
    clear d0 d1 f1 hh hb2 C2
    obtain ⟨d1, f1⟩ := rowAt HD2.out 1 _ rfl
    go_wp2_with fail
    go_ret
    obtain ⟨t1, t2, t3⟩ := HT.out
    have hq := dec_set (l := l) (x := T2) HD2.out (fun e => by
      rw [t2] at e
      obtain ⟨a, b⟩ := t3 e
      rw [a, ← List.drop_drop]
      exact ⟨HH.out, b⟩) (Nat.lt_of_lt_of_le HL.out HB2.out.size) HN.out HB2.out
    rw [t2] at hq
    rw [t1]
    exact ⟨rfl, hq.1, hq.2⟩
  · have h1 : (er == 0) = false := by simpa using hE
    rw [h1] at C
    have HR := Lib.hid hr
    have HT : Hid (numR 1 0 1 l (I, er) = (0, (I, er))) := by show _ = _; unfold numR; rw [if_pos (by simpa using hE)]
    rw [HT.out]
    clear hr hd hE h1
    go_enter Tryd.func79, Tryd.ntmps79
    go_wp2_with fail
    refine C.out.mono ?_
    rintro e w1 ⟨rfl, hb1⟩
    go_wp2_with fail
    go_ret
    exact ⟨rfl, IsDc.below ⟨HD.out, HR.out, hlt, hne⟩ hb1, But2.of_below hb1⟩

end Go.Proofs.YthhlcecojeaalaaDoor
end
