/-
  Texts that the laws of this seat lean on, one behind the other.
-/
import Derived.Test.YthhlcecojeaalaaDoorMrgAH
import Derived.Test.YthhlcecojeaalaaDoorMrgAD
set_option linter.unusedSimpArgs false
set_option linter.unusedVariables false
/-
  Contract of the reference's Encode (layer 20).
-/
section
namespace Go.Proofs.YthhlcecojeaalaaDoor
open Go.RowKit
set_option linter.unusedSimpArgs false

theorem rw_numX (G : Nat) (x : WS) (n lo hi er kq : Int) (k : Nat) (HK : Hid (kq = (k : Int))) (w : World) (h : IsW w G x) (hl : x.1.length ≤ 10000000) (hlo : -9223372036854775808 ≤ lo) (hhi : hi ≤ 9223372036854775807) (hk0 : 0 ≤ kq) (hk1 : kq ≤ 7) (her : (er == 0) = false) :
    Calls Tryd.prog 36 #[.pointer (some ⟨G, 0, none⟩), .int .i64 n, .int .i64 kq, .int .i64 lo, .int .i64 hi, .int .i64 er] w (Wrote G (numW k lo hi er n x) w) := by
  obtain ⟨l, E⟩ := x
  exact rw_num G l E n lo hi er kq k HK w h hl hlo hhi hk0 hk1 her
theorem rw_textX (G : Nat) (x : WS) (s : ByteArray) (w : World) (h : IsW w G x) (hl : x.1.length ≤ 10000000) (hs : s.size ≤ maxLen) :
    Calls Tryd.prog 37 #[.pointer (some ⟨G, 0, none⟩), .string s] w (Wrote G (txtW s x) w) := by
  obtain ⟨l, E⟩ := x
  exact rw_text G l E s w h hl hs
theorem IsW.new (w : World) : IsW (w.alloc (.cells #[.slice none 0 0, .int .i64 0] 73)) w.heap.size ([], 0) :=
  ⟨none, 0, 0, heap_alloc_new w _, Sl8.none_ _⟩
theorem row5 {w : World} {g t : Nat} {a b c d e : Value} (h : w.heap[g]? = some (.cells #[a, b, c, d, e] t (0, 0))) :
    w.cell? ⟨g, 0, none⟩ = some a ∧ w.cell? ⟨g, 1, none⟩ = some b ∧ w.cell? ⟨g, 2, none⟩ = some c ∧ w.cell? ⟨g, 3, none⟩ = some d ∧ w.cell? ⟨g, 4, none⟩ = some e :=
  ⟨by rw [cell_of_row _ _ _ _ _ _ h]; rfl, by rw [cell_of_row _ _ _ _ _ _ h]; rfl, by rw [cell_of_row _ _ _ _ _ _ h]; rfl, by rw [cell_of_row _ _ _ _ _ _ h]; rfl, by rw [cell_of_row _ _ _ _ _ _ h]; rfl⟩
theorem row3 {w : World} {g t : Nat} {a b c : Value} (h : w.heap[g]? = some (.cells #[a, b, c] t (0, 0))) :
    w.cell? ⟨g, 0, none⟩ = some a ∧ w.cell? ⟨g, 1, none⟩ = some b ∧ w.cell? ⟨g, 2, none⟩ = some c :=
  ⟨by rw [cell_of_row _ _ _ _ _ _ h]; rfl, by rw [cell_of_row _ _ _ _ _ _ h]; rfl, by rw [cell_of_row _ _ _ _ _ _ h]; rfl⟩
theorem IsW.code {w : World} {G : Nat} {x : WS} (h : IsW w G x) : w.cell? ⟨G, 1, none⟩ = some (.int .i64 x.2) := by
  obtain ⟨A, n, c, hg, _⟩ := h
  exact (w_cells hg).2.1

set_option maxHeartbeats 16000000 in
set_option maxRecDepth 100000 in
theorem r_vencode (A : Option Addr) (n c : Nat) (L : List Sd) (w : World) (h : SlD w A n c L) (hn : n ≤ 8) (hL : ∀ y ∈ L, FwE y.x) :
    Calls Tryd.prog 19 #[.slice A n c] w (Bytes2 w (veB (L.map fun z => z.x)) (veE (L.map fun z => z.x))) := by
  have hlen := h.len
  subst hlen
  have HH := Lib.hid h
  have HL := Lib.hid hL
  have HN := Lib.hid hn
  have hn8 : (L.length : Int) ≤ 8 := by omega
  obtain ⟨G, hG⟩ : ∃ G, G = w.heap.size := ⟨_, rfl⟩
  have HG := Lib.hid hG
  clear h hL hn
  go_enter Tryd.func19, Tryd.ntmps19
  go_wp2_with fail
  refine (rw_numX w.heap.size ([], 0) L.length 0 4 4 1 1 rfl _ (IsW.new w) (Nat.zero_le _) (by decide) (by decide) (by decide) (by decide) rfl).mono ?_
  rintro e w1 ⟨rfl, hx, hb⟩
  obtain ⟨x0, hx0⟩ : ∃ x0, x0 = numW 1 0 4 4 L.length ([], 0) := ⟨_, rfl⟩
  rw [← hx0] at hx
  have HX0 := Lib.hid hx0
  have HXL := Lib.hid (show x0.1.length ≤ 1 by rw [hx0]; exact numW_len 1 0 4 4 L.length ([], 0))
  have HX1 := Lib.hid hx
  have HB1 : Hid (Below w.heap.size w w1) := Below.trans ((Below.refl _ _).alloc (Nat.le_refl _) _) (hb.below (Below.alloc (Below.refl w.heap.size w) (Nat.le_refl _) _).size (Nat.le_refl _))
  clear hx0 hx hb
  go_wp2_with fail
  go_loopw [5] (fun i wr => ∃ k : Nat, k ≤ L.length ∧ i = .int .i64 (k : Int) ∧ Hid (IsW wr w.heap.size (((L.map fun z => z.x).take k).foldl stoW x0)) ∧ Hid (Below w.heap.size w wr)) (fun i _ => L.length - (intOf i).toNat)
  case atStart => exact ⟨0, Nat.zero_le _, rfl, HX1.out, HB1.out⟩
  case round =>
    obtain ⟨k, hk, rfl, HX, HB⟩ := hrel
    have hi0 : (0 : Int) ≤ (k : Int) := by omega
    have HLB := Lib.hid (sto_take (L.map fun z => z.x) (fun a ha => by obtain ⟨z, hz, rfl⟩ := List.mem_map.1 ha; exact HL.out z hz) (by rw [List.length_map]; exact HN.out) k x0 HXL.out)
    obtain ⟨⟨l, E⟩, hx⟩ : ∃ x, x = ((L.map fun z => z.x).take k).foldl stoW x0 := ⟨_, rfl⟩
    rw [← hx] at HX HLB
    have HXE := Lib.hid hx
    clear hx HX1 HB1
    have d1 := HX.out.code
    simp only at d1 HLB
    by_cases hlt : k < L.length
    · have hi1 : (k : Int) < (L.length : Int) := by omega
      by_cases hE : E = 0
      · subst hE
        obtain ⟨ad, rfl, _⟩ := HH.out.at_ (by omega)
        have HEL := Lib.hid (HH.out.el hlt)
        have HFE := Lib.hid (HL.out _ (List.getElem_mem hlt))
        have HSA := Lib.hid (HH.out.all _ (List.getElem_mem hlt))
        have HST := Lib.hid (fold_step stoW x0 (L.map fun z => z.x) (k := k) (by rw [List.length_map]; exact hlt))
        rw [List.getElem_map] at HST
        generalize L[k] = y at *
        obtain ⟨⟨⟨sc, sr, sv, f, sb, st⟩, p⟩, fa, fc, pa, pc⟩ := y
        simp only at HFE HST
        rw [← HXE.out] at HST
        obtain ⟨c0, c1, c2, c3, c4, c5, c6⟩ := HEL.out.below HB.out
        simp only at c0 c1 c2 c3 c4 c5 c6
        have c5a := Lib.cell?_alloc_some (.cells #[.int .i64 sc, .string sr, .int .i64 sv, .slice fa f.length fc, .string sb] 25) c5
        have hf70 : (f.length : Int) ≤ 70 := by have : f.length ≤ 70 := HFE.out.fl; omega
        have hp70 : (p.length : Int) ≤ 70 := by have : p.length ≤ 70 := HFE.out.pl; omega
        obtain ⟨gR, hgR⟩ : ∃ g, g = wr.heap.size := ⟨_, rfl⟩
        have HNR := Lib.hid (show gR ≠ w.heap.size by have := HX.out.lt; omega)
        have HR0 := Lib.hid (heap_alloc_new wr (.cells #[.int .i64 sc, .string sr, .int .i64 sv, .slice fa f.length fc, .string sb] 25))
        rw [← hgR] at HR0
        obtain ⟨y0, hy0⟩ : ∃ y, y = ((l, 0) : WS) := ⟨_, rfl⟩
        rw [← hy0] at HX HST
        have HXa := Lib.hid (HX.out.below ((Below.refl _ _).alloc (Nat.le_refl _) (.cells #[.int .i64 sc, .string sr, .int .i64 sv, .slice fa f.length fc, .string sb] 25)))
        have HBa := Lib.hid (HB.out.alloc HB.out.size (.cells #[.int .i64 sc, .string sr, .int .i64 sv, .slice fa f.length fc, .string sb] 25))
        have HLa : Hid (y0.1.length ≤ l.length + 0) := by show _ ≤ _; rw [hy0]; exact Nat.le_refl _
        clear hy0
        go_wp2_with fail
        refine (rw_numX w.heap.size y0 st 0 253402300799 3 5 5 rfl _ HXa.out (by have := HLa.out; have := HLB.out; omega) (by decide) (by decide) (by decide) (by decide) rfl).mono ?_
        rintro e v1 ⟨rfl, hx, hb⟩
        obtain ⟨y1, hxj⟩ : ∃ x, x = numW 5 0 253402300799 3 st y0 := ⟨_, rfl⟩
        rw [← hxj] at hx
        have HE1 := Lib.hid hxj
        have HL1 : Hid (y1.1.length ≤ l.length + 5) := by
          have h1 := numW_len 5 0 253402300799 3 st y0
          have h2 := HLa.out
          
          show _ ≤ _
          rw [hxj]
          omega
        have HX1 := Lib.hid hx
        have HB1 : Hid (Below w.heap.size w v1) := HBa.out.trans (hb.below HBa.out.size (Nat.le_refl _))
        have HR1 : Hid (v1.heap[gR]? = some (.cells #[.int .i64 sc, .string sr, .int .i64 sv, .slice fa f.length fc, .string sb] 25 (0, 0))) := (hb.block _ (Array.getElem?_eq_some_iff.1 HR0.out).1 HNR.out).trans HR0.out
        clear hxj hx hb c0 c1 c2 c3 c4 c5 c5a c6 d1
        have r0 := (row5 HR1.out).1
        rw [hgR] at r0
        go_wp2_with fail
        refine (rw_numX w.heap.size y1 sc 200 599 3 2 2 rfl _ HX1.out (by have := HL1.out; have := HLB.out; omega) (by decide) (by decide) (by decide) (by decide) rfl).mono ?_
        rintro e v2 ⟨rfl, hx, hb⟩
        obtain ⟨y2, hxj⟩ : ∃ x, x = numW 2 200 599 3 sc y1 := ⟨_, rfl⟩
        rw [← hxj] at hx
        have HE2 := Lib.hid hxj
        have HL2 : Hid (y2.1.length ≤ l.length + 7) := by
          have h1 := numW_len 2 200 599 3 sc y1
          have h2 := HL1.out
          
          show _ ≤ _
          rw [hxj]
          omega
        have HX2 := Lib.hid hx
        have HB2 : Hid (Below w.heap.size w v2) := HB1.out.trans (hb.below HB1.out.size (Nat.le_refl _))
        have HR2 : Hid (v2.heap[gR]? = some (.cells #[.int .i64 sc, .string sr, .int .i64 sv, .slice fa f.length fc, .string sb] 25 (0, 0))) := (hb.block _ (Array.getElem?_eq_some_iff.1 HR1.out).1 HNR.out).trans HR1.out
        clear hxj hx hb r0
        have r2 := (row5 HR2.out).2.2.1
        rw [hgR] at r2
        go_wp2_with fail
        refine (rw_numX w.heap.size y2 sv 0 1 3 1 1 rfl _ HX2.out (by have := HL2.out; have := HLB.out; omega) (by decide) (by decide) (by decide) (by decide) rfl).mono ?_
        rintro e v3 ⟨rfl, hx, hb⟩
        obtain ⟨y3, hxj⟩ : ∃ x, x = numW 1 0 1 3 sv y2 := ⟨_, rfl⟩
        rw [← hxj] at hx
        have HE3 := Lib.hid hxj
        have HL3 : Hid (y3.1.length ≤ l.length + 8) := by
          have h1 := numW_len 1 0 1 3 sv y2
          have h2 := HL2.out
          
          show _ ≤ _
          rw [hxj]
          omega
        have HX3 := Lib.hid hx
        have HB3 : Hid (Below w.heap.size w v3) := HB2.out.trans (hb.below HB2.out.size (Nat.le_refl _))
        have HR3 : Hid (v3.heap[gR]? = some (.cells #[.int .i64 sc, .string sr, .int .i64 sv, .slice fa f.length fc, .string sb] 25 (0, 0))) := (hb.block _ (Array.getElem?_eq_some_iff.1 HR2.out).1 HNR.out).trans HR2.out
        clear hxj hx hb r2
        have r1 := (row5 HR3.out).2.1
        rw [hgR] at r1
        go_wp2_with fail
        refine (rw_textX w.heap.size y3 sr _ HX3.out (by have := HL3.out; have := HLB.out; omega) (Nat.le_trans (show sr.size ≤ 3000 from HFE.out.r) (by decide))).mono ?_
        rintro e v4 ⟨rfl, hx, hb⟩
        obtain ⟨y4, hxj⟩ : ∃ x, x = txtW sr y3 := ⟨_, rfl⟩
        rw [← hxj] at hx
        have HE4 := Lib.hid hxj
        have HL4 : Hid (y4.1.length ≤ l.length + 3012) := by
          have h1 := txtW_len sr y3
          have h2 := HL3.out
          have h3 := (show sr.size ≤ 3000 from HFE.out.r)
          show _ ≤ _
          rw [hxj]
          omega
        have HX4 := Lib.hid hx
        have HB4 : Hid (Below w.heap.size w v4) := HB3.out.trans (hb.below HB3.out.size (Nat.le_refl _))
        have HR4 : Hid (v4.heap[gR]? = some (.cells #[.int .i64 sc, .string sr, .int .i64 sv, .slice fa f.length fc, .string sb] 25 (0, 0))) := (hb.block _ (Array.getElem?_eq_some_iff.1 HR3.out).1 HNR.out).trans HR3.out
        clear hxj hx hb r1
        have r3 := (row5 HR4.out).2.2.2.1
        rw [hgR] at r3
        go_wp2_with fail
        refine (rw_numX w.heap.size y4 (f.length : Int) 0 64 4 1 1 rfl _ HX4.out (by have := HL4.out; have := HLB.out; omega) (by decide) (by decide) (by decide) (by decide) rfl).mono ?_
        rintro e v5 ⟨rfl, hx, hb⟩
        obtain ⟨y5, hxj⟩ : ∃ x, x = numW 1 0 64 4 (f.length : Int) y4 := ⟨_, rfl⟩
        rw [← hxj] at hx
        have HE5 := Lib.hid hxj
        have HL5 : Hid (y5.1.length ≤ l.length + 3013) := by
          have h1 := numW_len 1 0 64 4 (f.length : Int) y4
          have h2 := HL4.out
          
          show _ ≤ _
          rw [hxj]
          omega
        have HX5 := Lib.hid hx
        have HB5 : Hid (Below w.heap.size w v5) := HB4.out.trans (hb.below HB4.out.size (Nat.le_refl _))
        have HR5 : Hid (v5.heap[gR]? = some (.cells #[.int .i64 sc, .string sr, .int .i64 sv, .slice fa f.length fc, .string sb] 25 (0, 0))) := (hb.block _ (Array.getElem?_eq_some_iff.1 HR4.out).1 HNR.out).trans HR4.out
        clear hxj hx hb r3
        go_wp2_with fail
        go_loopw [7] (fun i wf => ∃ j : Nat, j ≤ f.length ∧ i = .int .i64 (j : Int) ∧ Hid (IsW wf w.heap.size ((f.take j).foldl fldW y5)) ∧ Hid (Below w.heap.size w wf) ∧ Hid (wf.heap[gR]? = some (.cells #[.int .i64 sc, .string sr, .int .i64 sv, .slice fa f.length fc, .string sb] 25 (0, 0)))) (fun i _ => f.length - (intOf i).toNat)
        case atStart => exact ⟨0, Nat.zero_le _, rfl, HX5.out, HB5.out, HR5.out⟩
        case round =>
          clear HX HB HR0
          obtain ⟨j, hj, rfl, HX, HB, HR0⟩ := hrel
          have hj0 : (0 : Int) ≤ (j : Int) := by omega
          have HLF := Lib.hid (fields_take HFE.out j y5)
          obtain ⟨⟨m, E⟩, hx⟩ : ∃ x, x = (f.take j).foldl fldW y5 := ⟨_, rfl⟩
          have HXF := Lib.hid hx
          simp only at HLF
          rw [← hx] at HX HLF
          clear hx
          have d1 := HX.out.code
          obtain ⟨_, _, _, r3, _⟩ := row5 HR0.out
          rw [hgR] at r3
          simp only at d1
          have HLQ : Hid (m.length ≤ l.length + 423573) := by
            have h1 : m.length ≤ y5.1.length + 420560 := HLF.out
            have h2 := HL5.out
            show _ ≤ _
            omega
          by_cases hjl : j < f.length
          · have hj1 : (j : Int) < (f.length : Int) := by omega
            by_cases hE : E = 0
            · subst hE
              have hk0 : SlF w fa f.length fc f := HSA.out.f
              obtain ⟨fad, hfa, _⟩ := hk0.at_ (by omega)
              rw [hfa] at hk0 r3
              have HFA := Lib.hid hfa
              clear hfa
              have HCC := Lib.hid (hk0.cells j f[j] (List.getElem?_eq_getElem hjl))
              have hz : f[j].1.size ≤ 3000 ∧ f[j].2.size ≤ 3000 := HFE.out.f _ (List.getElem_mem hjl)
              have HFS := Lib.hid (fold_step fldW y5 f hjl)
              rw [← HXF.out] at HFS
              generalize f[j] = z at *
              obtain ⟨fn, fv⟩ := z
              have HZ := Lib.hid hz
              have q0 := cell_kept HB.out HCC.out.1
              obtain ⟨z0, hz0⟩ : ∃ y, y = ((m, 0) : WS) := ⟨_, rfl⟩
              rw [← hz0] at HX HFS
              have HLa : Hid (z0.1.length ≤ m.length + 0) := by show _ ≤ _; rw [hz0]; exact Nat.le_refl _
              clear hz0 hz hk0
              go_wp2_with fail
              refine (rw_textX w.heap.size z0 fn _ HX.out (by have := HLa.out; have := HLB.out; have := HLQ.out; omega) (Nat.le_trans HZ.out.1 (by decide))).mono ?_
              rintro e v6 ⟨rfl, hx, hb⟩
              obtain ⟨y6, hxj⟩ : ∃ x, x = txtW fn z0 := ⟨_, rfl⟩
              rw [← hxj] at hx
              have HE6 := Lib.hid hxj
              have HL6 : Hid (y6.1.length ≤ m.length + 3004) := by
                have h1 := txtW_len fn z0
                have h2 := HLa.out
                have h3 := HZ.out.1
                show _ ≤ _
                rw [hxj]
                omega
              have HX6 := Lib.hid hx
              have HB6 : Hid (Below w.heap.size w v6) := HB.out.trans (hb.below HB.out.size (Nat.le_refl _))
              have HR6 : Hid (v6.heap[gR]? = some (.cells #[.int .i64 sc, .string sr, .int .i64 sv, .slice fa f.length fc, .string sb] 25 (0, 0))) := (hb.block _ (Array.getElem?_eq_some_iff.1 HR0.out).1 HNR.out).trans HR0.out
              clear hxj hx hb q0 r3 d1
              obtain ⟨_, _, _, r3, _⟩ := row5 HR6.out
              rw [hgR, HFA.out] at r3
              have q1 := cell_off (cell_kept HB6.out HCC.out.2)
              have eq1 : 0 + 1 = 1 := rfl
              rw [eq1] at q1
              clear eq1
              go_wp2_with fail
              refine (rw_textX w.heap.size y6 fv _ HX6.out (by have := HL6.out; have := HLB.out; have := HLQ.out; omega) (Nat.le_trans HZ.out.2 (by decide))).mono ?_
              rintro e v7 ⟨rfl, hx, hb⟩
              obtain ⟨y7, hxj⟩ : ∃ x, x = txtW fv y6 := ⟨_, rfl⟩
              rw [← hxj] at hx
              have HE7 := Lib.hid hxj
              have HL7 : Hid (y7.1.length ≤ m.length + 6008) := by
                have h1 := txtW_len fv y6
                have h2 := HL6.out
                have h3 := HZ.out.2
                show _ ≤ _
                rw [hxj]
                omega
              have HX7 := Lib.hid hx
              have HB7 : Hid (Below w.heap.size w v7) := HB6.out.trans (hb.below HB6.out.size (Nat.le_refl _))
              have HR7 : Hid (v7.heap[gR]? = some (.cells #[.int .i64 sc, .string sr, .int .i64 sv, .slice fa f.length fc, .string sb] 25 (0, 0))) := (hb.block _ (Array.getElem?_eq_some_iff.1 HR6.out).1 HNR.out).trans HR6.out
              clear hxj hx hb q1 r3
              go_wp2_with fail
              refine ⟨?_, ?measure⟩
              (repeat apply Exists.intro)
              case roundEnd.w => exact (j + 1)
              case measure => simp [intOf]; omega
              refine ⟨by omega, by go_num, ?_, HB7.out, HR7.out⟩
              show IsW _ _ _
              rw [HFS.out]
              have e := HX7.out
              rw [HE7.out, HE6.out] at e
              exact e
            · have hE' : (E == 0) = false := by simpa using hE
              have HFE2 := Lib.hid (fold_end fldW (fun x h a => fldW_stuck h a) y5 f (k := j) (.inr (by rw [← HXF.out]; exact hE)))
              rw [← HXF.out] at HFE2
              obtain ⟨yf, hyf⟩ : ∃ y, y = ((m, E) : WS) := ⟨_, rfl⟩
              rw [← hyf] at HX HFE2
              have HLf : Hid (yf.1.length ≤ l.length + 423573) := by show _ ≤ _; rw [hyf]; exact HLQ.out
              clear hyf HXF HLF
              obtain ⟨_, _, _, _, r4⟩ := row5 HR0.out
              rw [hgR] at r4
              go_wp2_with fail
              refine (rw_textX w.heap.size yf sb _ HX.out (by have := HLf.out; have := HLB.out; omega) (Nat.le_trans (show sb.size ≤ 3000 from HFE.out.b) (by decide))).mono ?_
              rintro e v6 ⟨rfl, hx, hb⟩
              obtain ⟨y6, hxj⟩ : ∃ x, x = txtW sb yf := ⟨_, rfl⟩
              rw [← hxj] at hx
              have HE6 := Lib.hid hxj
              have HL6 : Hid (y6.1.length ≤ l.length + 426577) := by
                have h1 := txtW_len sb yf
                have h2 := HLf.out
                have h3 := (show sb.size ≤ 3000 from HFE.out.b)
                show _ ≤ _
                rw [hxj]
                omega
              have HX6 := Lib.hid hx
              have HB6 : Hid (Below w.heap.size w v6) := HB.out.trans (hb.below HB.out.size (Nat.le_refl _))
              clear hxj hx hb r3 r4 d1
              have c6 := (HEL.out.below HB6.out).2.2.2.2.2.2
              simp only at c6
              go_wp2_with fail
              refine (rw_numX w.heap.size y6 (p.length : Int) 0 64 4 1 1 rfl _ HX6.out (by have := HL6.out; have := HLB.out; omega) (by decide) (by decide) (by decide) (by decide) rfl).mono ?_
              rintro e v7 ⟨rfl, hx, hb⟩
              obtain ⟨y7, hxj⟩ : ∃ x, x = numW 1 0 64 4 (p.length : Int) y6 := ⟨_, rfl⟩
              rw [← hxj] at hx
              have HE7 := Lib.hid hxj
              have HL7 : Hid (y7.1.length ≤ l.length + 426578) := by
                have h1 := numW_len 1 0 64 4 (p.length : Int) y6
                have h2 := HL6.out
                
                show _ ≤ _
                rw [hxj]
                omega
              have HX7 := Lib.hid hx
              have HB7 : Hid (Below w.heap.size w v7) := HB6.out.trans (hb.below HB6.out.size (Nat.le_refl _))
              clear hxj hx hb c6 HX HB
              go_wp2_with fail
              go_loopw [8] (fun i wg => ∃ j : Nat, j ≤ p.length ∧ i = .int .i64 (j : Int) ∧ Hid (IsW wg w.heap.size ((p.take j).foldl pckW y7)) ∧ Hid (Below w.heap.size w wg)) (fun i _ => p.length - (intOf i).toNat)
              case atStart => exact ⟨0, Nat.zero_le _, rfl, HX7.out, HB7.out⟩
              case round =>
                obtain ⟨j, hj, rfl, HX, HB⟩ := hrel
                have hj0 : (0 : Int) ≤ (j : Int) := by omega
                have HLP := Lib.hid (picks_take HFE.out j y7)
                obtain ⟨⟨q, E⟩, hx⟩ : ∃ x, x = (p.take j).foldl pckW y7 := ⟨_, rfl⟩
                have HXP := Lib.hid hx
                simp only at HLP
                rw [← hx] at HX HLP
                clear hx
                have d1 := HX.out.code
                have c6 := (HEL.out.below HB.out).2.2.2.2.2.2
                simp only at d1 c6
                have HLQ : Hid (q.length ≤ l.length + 847208) := by
                  have h1 : q.length ≤ y7.1.length + 420630 := HLP.out
                  have h2 := HL7.out
                  show _ ≤ _
                  omega
                by_cases hjl : j < p.length
                · have hj1 : (j : Int) < (p.length : Int) := by omega
                  by_cases hE : E = 0
                  · subst hE
                    have hk0 : SlK w pa p.length pc p := HSA.out.k
                    obtain ⟨pad, hpa, _⟩ := hk0.at_ (by omega)
                    rw [hpa] at hk0 c6
                    clear hpa
                    have hcc := (hk0.below HB.out).cells j p[j] (List.getElem?_eq_getElem hjl)
                    have hz : p[j].n.size ≤ 3000 ∧ p[j].v.size ≤ 3000 := HFE.out.p _ (List.getElem_mem hjl)
                    have HFS := Lib.hid (fold_step pckW y7 p hjl)
                    rw [← HXP.out] at HFS
                    generalize p[j] = z at *
                    obtain ⟨pn, ph, pv⟩ := z
                    have HZ := Lib.hid hz
                    obtain ⟨q0, q1', q2'⟩ := hcc
                    have q1 := cell_off q1'
                    have q2 := cell_off q2'
                    have eq1 : 0 + 1 = 1 := rfl
                    have eq2 : 1 + 1 = 2 := rfl
                    rw [eq1] at q1
                    rw [eq2] at q2
                    simp only at q0 q1 q2
                    clear q1' q2' hz hk0 eq1 eq2
                    obtain ⟨gP, hgP⟩ : ∃ g, g = wr.heap.size := ⟨_, rfl⟩
                    have HNP := Lib.hid (show gP ≠ w.heap.size by have := HX.out.lt; omega)
                    have HP0 := Lib.hid (heap_alloc_new wr (.cells #[.string pn, .bool ph, .string pv] 53))
                    obtain ⟨p0, _, _⟩ := row3 HP0.out
                    rw [← hgP] at HP0
                    obtain ⟨z0, hz0⟩ : ∃ y, y = ((q, 0) : WS) := ⟨_, rfl⟩
                    rw [← hz0] at HX HFS
                    have HXa := Lib.hid (HX.out.below ((Below.refl _ _).alloc (Nat.le_refl _) (.cells #[.string pn, .bool ph, .string pv] 53)))
                    have HBa := Lib.hid (HB.out.alloc HB.out.size (.cells #[.string pn, .bool ph, .string pv] 53))
                    have HLa : Hid (z0.1.length ≤ q.length + 0) := by show _ ≤ _; rw [hz0]; exact Nat.le_refl _
                    clear hz0
                    go_wp2_with fail
                    refine (rw_textX w.heap.size z0 pn _ HXa.out (by have := HLa.out; have := HLB.out; have := HLQ.out; omega) (Nat.le_trans HZ.out.1 (by decide))).mono ?_
                    rintro e v8 ⟨rfl, hx, hb⟩
                    obtain ⟨y8, hxj⟩ : ∃ x, x = txtW pn z0 := ⟨_, rfl⟩
                    rw [← hxj] at hx
                    have HE8 := Lib.hid hxj
                    have HL8 : Hid (y8.1.length ≤ q.length + 3004) := by
                      have h1 := txtW_len pn z0
                      have h2 := HLa.out
                      have h3 := HZ.out.1
                      show _ ≤ _
                      rw [hxj]
                      omega
                    have HX8 := Lib.hid hx
                    have HB8 : Hid (Below w.heap.size w v8) := HBa.out.trans (hb.below HBa.out.size (Nat.le_refl _))
                    have HP8 : Hid (v8.heap[gP]? = some (.cells #[.string pn, .bool ph, .string pv] 53 (0, 0))) := (hb.block _ (Array.getElem?_eq_some_iff.1 HP0.out).1 HNP.out).trans HP0.out
                    clear hxj hx hb q0 q1 q2 p0 d1 c6
                    cases ph with
                    | true =>
                      obtain ⟨_, p1, _⟩ := row3 HP8.out
                      rw [hgP] at p1
                      go_wp2_with fail
                      refine (rw_numX w.heap.size y8 1 0 1 3 1 1 rfl _ HX8.out (by have := HL8.out; have := HLB.out; have := HLQ.out; omega) (by decide) (by decide) (by decide) (by decide) rfl).mono ?_
                      rintro e v9 ⟨rfl, hx, hb⟩
                      obtain ⟨y9, hxj⟩ : ∃ x, x = numW 1 0 1 3 1 y8 := ⟨_, rfl⟩
                      rw [← hxj] at hx
                      have HE9 := Lib.hid hxj
                      have HL9 : Hid (y9.1.length ≤ q.length + 3005) := by
                        have h1 := numW_len 1 0 1 3 1 y8
                        have h2 := HL8.out
                        
                        show _ ≤ _
                        rw [hxj]
                        omega
                      have HX9 := Lib.hid hx
                      have HB9 : Hid (Below w.heap.size w v9) := HB8.out.trans (hb.below HB8.out.size (Nat.le_refl _))
                      have HP9 : Hid (v9.heap[gP]? = some (.cells #[.string pn, .bool true, .string pv] 53 (0, 0))) := (hb.block _ (Array.getElem?_eq_some_iff.1 HP8.out).1 HNP.out).trans HP8.out
                      clear hxj hx hb p1
                      obtain ⟨_, _, p2⟩ := row3 HP9.out
                      rw [hgP] at p2
                      go_wp2_with fail
                      refine (rw_textX w.heap.size y9 pv _ HX9.out (by have := HL9.out; have := HLB.out; have := HLQ.out; omega) (Nat.le_trans HZ.out.2 (by decide))).mono ?_
                      rintro e v10 ⟨rfl, hx, hb⟩
                      obtain ⟨y10, hxj⟩ : ∃ x, x = txtW pv y9 := ⟨_, rfl⟩
                      rw [← hxj] at hx
                      have HE10 := Lib.hid hxj
                      have HL10 : Hid (y10.1.length ≤ q.length + 6009) := by
                        have h1 := txtW_len pv y9
                        have h2 := HL9.out
                        have h3 := HZ.out.2
                        show _ ≤ _
                        rw [hxj]
                        omega
                      have HX10 := Lib.hid hx
                      have HB10 : Hid (Below w.heap.size w v10) := HB9.out.trans (hb.below HB9.out.size (Nat.le_refl _))
                      clear hxj hx hb p2
                      go_wp2_with fail
                      refine ⟨?_, ?measure⟩
                      (repeat apply Exists.intro)
                      case roundEnd.w => exact (j + 1)
                      case measure => simp [intOf]; omega
                      refine ⟨by omega, by go_num, ?_, HB10.out⟩
                      show IsW _ _ _
                      rw [HFS.out]
                      have e := HX10.out
                      rw [HE10.out, HE9.out, HE8.out] at e
                      exact e
                    | false =>
                      obtain ⟨_, p1, _⟩ := row3 HP8.out
                      rw [hgP] at p1
                      go_wp2_with fail
                      refine (rw_numX w.heap.size y8 0 0 1 3 1 1 rfl _ HX8.out (by have := HL8.out; have := HLB.out; have := HLQ.out; omega) (by decide) (by decide) (by decide) (by decide) rfl).mono ?_
                      rintro e v9 ⟨rfl, hx, hb⟩
                      obtain ⟨y9, hxj⟩ : ∃ x, x = numW 1 0 1 3 0 y8 := ⟨_, rfl⟩
                      rw [← hxj] at hx
                      have HE9 := Lib.hid hxj
                      have HL9 : Hid (y9.1.length ≤ q.length + 3005) := by
                        have h1 := numW_len 1 0 1 3 0 y8
                        have h2 := HL8.out
                        
                        show _ ≤ _
                        rw [hxj]
                        omega
                      have HX9 := Lib.hid hx
                      have HB9 : Hid (Below w.heap.size w v9) := HB8.out.trans (hb.below HB8.out.size (Nat.le_refl _))
                      have HP9 : Hid (v9.heap[gP]? = some (.cells #[.string pn, .bool false, .string pv] 53 (0, 0))) := (hb.block _ (Array.getElem?_eq_some_iff.1 HP8.out).1 HNP.out).trans HP8.out
                      clear hxj hx hb p1
                      obtain ⟨_, _, p2⟩ := row3 HP9.out
                      rw [hgP] at p2
                      go_wp2_with fail
                      refine (rw_textX w.heap.size y9 pv _ HX9.out (by have := HL9.out; have := HLB.out; have := HLQ.out; omega) (Nat.le_trans HZ.out.2 (by decide))).mono ?_
                      rintro e v10 ⟨rfl, hx, hb⟩
                      obtain ⟨y10, hxj⟩ : ∃ x, x = txtW pv y9 := ⟨_, rfl⟩
                      rw [← hxj] at hx
                      have HE10 := Lib.hid hxj
                      have HL10 : Hid (y10.1.length ≤ q.length + 6009) := by
                        have h1 := txtW_len pv y9
                        have h2 := HL9.out
                        have h3 := HZ.out.2
                        show _ ≤ _
                        rw [hxj]
                        omega
                      have HX10 := Lib.hid hx
                      have HB10 : Hid (Below w.heap.size w v10) := HB9.out.trans (hb.below HB9.out.size (Nat.le_refl _))
                      clear hxj hx hb p2
                      go_wp2_with fail
                      refine ⟨?_, ?measure⟩
                      (repeat apply Exists.intro)
                      case roundEnd.w => exact (j + 1)
                      case measure => simp [intOf]; omega
                      refine ⟨by omega, by go_num, ?_, HB10.out⟩
                      show IsW _ _ _
                      rw [HFS.out]
                      have e := HX10.out
                      rw [HE10.out, HE9.out, HE8.out] at e
                      exact e
                  · have hE' : (E == 0) = false := by simpa using hE
                    have HPE := Lib.hid (fold_end pckW (fun x h a => pckW_stuck h a) y7 p (k := j) (.inr (by rw [← HXP.out]; exact hE)))
                    rw [← HXP.out] at HPE
                    rw [HPE.out] at HX
                    go_wp2_with fail
                    refine ⟨?_, ?measure⟩
                    (repeat apply Exists.intro)
                    case roundEnd.w => exact (k + 1)
                    case measure => simp [intOf]; omega
                    refine ⟨by omega, by go_num, ?_, HB.out⟩
                    show IsW _ _ _
                    rw [HST.out]
                    have e := HX.out
                    rw [HE7.out, HE6.out, HFE2.out, HE5.out, HE4.out, HE3.out, HE2.out, HE1.out] at e
                    exact e
                · have hj1 : ¬ (j : Int) < (p.length : Int) := by omega
                  have HPE := Lib.hid (fold_end pckW (fun x h a => pckW_stuck h a) y7 p (k := j) (.inl (by omega)))
                  rw [← HXP.out] at HPE
                  rw [HPE.out] at HX
                  go_wp2_with fail
                  refine ⟨?_, ?measure⟩
                  (repeat apply Exists.intro)
                  case roundEnd.w => exact (k + 1)
                  case measure => simp [intOf]; omega
                  refine ⟨by omega, by go_num, ?_, HB.out⟩
                  show IsW _ _ _
                  rw [HST.out]
                  have e := HX.out
                  rw [HE7.out, HE6.out, HFE2.out, HE5.out, HE4.out, HE3.out, HE2.out, HE1.out] at e
                  exact e
          · have hj1 : ¬ (j : Int) < (f.length : Int) := by omega
            have HFE2 := Lib.hid (fold_end fldW (fun x h a => fldW_stuck h a) y5 f (k := j) (.inl (by omega)))
            rw [← HXF.out] at HFE2
            obtain ⟨yf, hyf⟩ : ∃ y, y = ((m, E) : WS) := ⟨_, rfl⟩
            rw [← hyf] at HX HFE2
            have HLf : Hid (yf.1.length ≤ l.length + 423573) := by show _ ≤ _; rw [hyf]; exact HLQ.out
            clear hyf HXF HLF
            obtain ⟨_, _, _, _, r4⟩ := row5 HR0.out
            rw [hgR] at r4
            go_wp2_with fail
            refine (rw_textX w.heap.size yf sb _ HX.out (by have := HLf.out; have := HLB.out; omega) (Nat.le_trans (show sb.size ≤ 3000 from HFE.out.b) (by decide))).mono ?_
            rintro e v6 ⟨rfl, hx, hb⟩
            obtain ⟨y6, hxj⟩ : ∃ x, x = txtW sb yf := ⟨_, rfl⟩
            rw [← hxj] at hx
            have HE6 := Lib.hid hxj
            have HL6 : Hid (y6.1.length ≤ l.length + 426577) := by
              have h1 := txtW_len sb yf
              have h2 := HLf.out
              have h3 := (show sb.size ≤ 3000 from HFE.out.b)
              show _ ≤ _
              rw [hxj]
              omega
            have HX6 := Lib.hid hx
            have HB6 : Hid (Below w.heap.size w v6) := HB.out.trans (hb.below HB.out.size (Nat.le_refl _))
            clear hxj hx hb r3 r4 d1
            have c6 := (HEL.out.below HB6.out).2.2.2.2.2.2
            simp only at c6
            go_wp2_with fail
            refine (rw_numX w.heap.size y6 (p.length : Int) 0 64 4 1 1 rfl _ HX6.out (by have := HL6.out; have := HLB.out; omega) (by decide) (by decide) (by decide) (by decide) rfl).mono ?_
            rintro e v7 ⟨rfl, hx, hb⟩
            obtain ⟨y7, hxj⟩ : ∃ x, x = numW 1 0 64 4 (p.length : Int) y6 := ⟨_, rfl⟩
            rw [← hxj] at hx
            have HE7 := Lib.hid hxj
            have HL7 : Hid (y7.1.length ≤ l.length + 426578) := by
              have h1 := numW_len 1 0 64 4 (p.length : Int) y6
              have h2 := HL6.out
              
              show _ ≤ _
              rw [hxj]
              omega
            have HX7 := Lib.hid hx
            have HB7 : Hid (Below w.heap.size w v7) := HB6.out.trans (hb.below HB6.out.size (Nat.le_refl _))
            clear hxj hx hb c6 HX HB
            go_wp2_with fail
            go_loopw [8] (fun i wg => ∃ j : Nat, j ≤ p.length ∧ i = .int .i64 (j : Int) ∧ Hid (IsW wg w.heap.size ((p.take j).foldl pckW y7)) ∧ Hid (Below w.heap.size w wg)) (fun i _ => p.length - (intOf i).toNat)
            case atStart => exact ⟨0, Nat.zero_le _, rfl, HX7.out, HB7.out⟩
            case round =>
              obtain ⟨j, hj, rfl, HX, HB⟩ := hrel
              have hj0 : (0 : Int) ≤ (j : Int) := by omega
              have HLP := Lib.hid (picks_take HFE.out j y7)
              obtain ⟨⟨q, E⟩, hx⟩ : ∃ x, x = (p.take j).foldl pckW y7 := ⟨_, rfl⟩
              have HXP := Lib.hid hx
              simp only at HLP
              rw [← hx] at HX HLP
              clear hx
              have d1 := HX.out.code
              have c6 := (HEL.out.below HB.out).2.2.2.2.2.2
              simp only at d1 c6
              have HLQ : Hid (q.length ≤ l.length + 847208) := by
                have h1 : q.length ≤ y7.1.length + 420630 := HLP.out
                have h2 := HL7.out
                show _ ≤ _
                omega
              by_cases hjl : j < p.length
              · have hj1 : (j : Int) < (p.length : Int) := by omega
                by_cases hE : E = 0
                · subst hE
                  have hk0 : SlK w pa p.length pc p := HSA.out.k
                  obtain ⟨pad, hpa, _⟩ := hk0.at_ (by omega)
                  rw [hpa] at hk0 c6
                  clear hpa
                  have hcc := (hk0.below HB.out).cells j p[j] (List.getElem?_eq_getElem hjl)
                  have hz : p[j].n.size ≤ 3000 ∧ p[j].v.size ≤ 3000 := HFE.out.p _ (List.getElem_mem hjl)
                  have HFS := Lib.hid (fold_step pckW y7 p hjl)
                  rw [← HXP.out] at HFS
                  generalize p[j] = z at *
                  obtain ⟨pn, ph, pv⟩ := z
                  have HZ := Lib.hid hz
                  obtain ⟨q0, q1', q2'⟩ := hcc
                  have q1 := cell_off q1'
                  have q2 := cell_off q2'
                  have eq1 : 0 + 1 = 1 := rfl
                  have eq2 : 1 + 1 = 2 := rfl
                  rw [eq1] at q1
                  rw [eq2] at q2
                  simp only at q0 q1 q2
                  clear q1' q2' hz hk0 eq1 eq2
                  obtain ⟨gP, hgP⟩ : ∃ g, g = wr.heap.size := ⟨_, rfl⟩
                  have HNP := Lib.hid (show gP ≠ w.heap.size by have := HX.out.lt; omega)
                  have HP0 := Lib.hid (heap_alloc_new wr (.cells #[.string pn, .bool ph, .string pv] 53))
                  obtain ⟨p0, _, _⟩ := row3 HP0.out
                  rw [← hgP] at HP0
                  obtain ⟨z0, hz0⟩ : ∃ y, y = ((q, 0) : WS) := ⟨_, rfl⟩
                  rw [← hz0] at HX HFS
                  have HXa := Lib.hid (HX.out.below ((Below.refl _ _).alloc (Nat.le_refl _) (.cells #[.string pn, .bool ph, .string pv] 53)))
                  have HBa := Lib.hid (HB.out.alloc HB.out.size (.cells #[.string pn, .bool ph, .string pv] 53))
                  have HLa : Hid (z0.1.length ≤ q.length + 0) := by show _ ≤ _; rw [hz0]; exact Nat.le_refl _
                  clear hz0
                  go_wp2_with fail
                  refine (rw_textX w.heap.size z0 pn _ HXa.out (by have := HLa.out; have := HLB.out; have := HLQ.out; omega) (Nat.le_trans HZ.out.1 (by decide))).mono ?_
                  rintro e v8 ⟨rfl, hx, hb⟩
                  obtain ⟨y8, hxj⟩ : ∃ x, x = txtW pn z0 := ⟨_, rfl⟩
                  rw [← hxj] at hx
                  have HE8 := Lib.hid hxj
                  have HL8 : Hid (y8.1.length ≤ q.length + 3004) := by
                    have h1 := txtW_len pn z0
                    have h2 := HLa.out
                    have h3 := HZ.out.1
                    show _ ≤ _
                    rw [hxj]
                    omega
                  have HX8 := Lib.hid hx
                  have HB8 : Hid (Below w.heap.size w v8) := HBa.out.trans (hb.below HBa.out.size (Nat.le_refl _))
                  have HP8 : Hid (v8.heap[gP]? = some (.cells #[.string pn, .bool ph, .string pv] 53 (0, 0))) := (hb.block _ (Array.getElem?_eq_some_iff.1 HP0.out).1 HNP.out).trans HP0.out
                  clear hxj hx hb q0 q1 q2 p0 d1 c6
                  cases ph with
                  | true =>
                    obtain ⟨_, p1, _⟩ := row3 HP8.out
                    rw [hgP] at p1
                    go_wp2_with fail
                    refine (rw_numX w.heap.size y8 1 0 1 3 1 1 rfl _ HX8.out (by have := HL8.out; have := HLB.out; have := HLQ.out; omega) (by decide) (by decide) (by decide) (by decide) rfl).mono ?_
                    rintro e v9 ⟨rfl, hx, hb⟩
                    obtain ⟨y9, hxj⟩ : ∃ x, x = numW 1 0 1 3 1 y8 := ⟨_, rfl⟩
                    rw [← hxj] at hx
                    have HE9 := Lib.hid hxj
                    have HL9 : Hid (y9.1.length ≤ q.length + 3005) := by
                      have h1 := numW_len 1 0 1 3 1 y8
                      have h2 := HL8.out
                      
                      show _ ≤ _
                      rw [hxj]
                      omega
                    have HX9 := Lib.hid hx
                    have HB9 : Hid (Below w.heap.size w v9) := HB8.out.trans (hb.below HB8.out.size (Nat.le_refl _))
                    have HP9 : Hid (v9.heap[gP]? = some (.cells #[.string pn, .bool true, .string pv] 53 (0, 0))) := (hb.block _ (Array.getElem?_eq_some_iff.1 HP8.out).1 HNP.out).trans HP8.out
                    clear hxj hx hb p1
                    obtain ⟨_, _, p2⟩ := row3 HP9.out
                    rw [hgP] at p2
                    go_wp2_with fail
                    refine (rw_textX w.heap.size y9 pv _ HX9.out (by have := HL9.out; have := HLB.out; have := HLQ.out; omega) (Nat.le_trans HZ.out.2 (by decide))).mono ?_
                    rintro e v10 ⟨rfl, hx, hb⟩
                    obtain ⟨y10, hxj⟩ : ∃ x, x = txtW pv y9 := ⟨_, rfl⟩
                    rw [← hxj] at hx
                    have HE10 := Lib.hid hxj
                    have HL10 : Hid (y10.1.length ≤ q.length + 6009) := by
                      have h1 := txtW_len pv y9
                      have h2 := HL9.out
                      have h3 := HZ.out.2
                      show _ ≤ _
                      rw [hxj]
                      omega
                    have HX10 := Lib.hid hx
                    have HB10 : Hid (Below w.heap.size w v10) := HB9.out.trans (hb.below HB9.out.size (Nat.le_refl _))
                    clear hxj hx hb p2
                    go_wp2_with fail
                    refine ⟨?_, ?measure⟩
                    (repeat apply Exists.intro)
                    case roundEnd.w => exact (j + 1)
                    case measure => simp [intOf]; omega
                    refine ⟨by omega, by go_num, ?_, HB10.out⟩
                    show IsW _ _ _
                    rw [HFS.out]
                    have e := HX10.out
                    rw [HE10.out, HE9.out, HE8.out] at e
                    exact e
                  | false =>
                    obtain ⟨_, p1, _⟩ := row3 HP8.out
                    rw [hgP] at p1
                    go_wp2_with fail
                    refine (rw_numX w.heap.size y8 0 0 1 3 1 1 rfl _ HX8.out (by have := HL8.out; have := HLB.out; have := HLQ.out; omega) (by decide) (by decide) (by decide) (by decide) rfl).mono ?_
                    rintro e v9 ⟨rfl, hx, hb⟩
                    obtain ⟨y9, hxj⟩ : ∃ x, x = numW 1 0 1 3 0 y8 := ⟨_, rfl⟩
                    rw [← hxj] at hx
                    have HE9 := Lib.hid hxj
                    have HL9 : Hid (y9.1.length ≤ q.length + 3005) := by
                      have h1 := numW_len 1 0 1 3 0 y8
                      have h2 := HL8.out
                      
                      show _ ≤ _
                      rw [hxj]
                      omega
                    have HX9 := Lib.hid hx
                    have HB9 : Hid (Below w.heap.size w v9) := HB8.out.trans (hb.below HB8.out.size (Nat.le_refl _))
                    have HP9 : Hid (v9.heap[gP]? = some (.cells #[.string pn, .bool false, .string pv] 53 (0, 0))) := (hb.block _ (Array.getElem?_eq_some_iff.1 HP8.out).1 HNP.out).trans HP8.out
                    clear hxj hx hb p1
                    obtain ⟨_, _, p2⟩ := row3 HP9.out
                    rw [hgP] at p2
                    go_wp2_with fail
                    refine (rw_textX w.heap.size y9 pv _ HX9.out (by have := HL9.out; have := HLB.out; have := HLQ.out; omega) (Nat.le_trans HZ.out.2 (by decide))).mono ?_
                    rintro e v10 ⟨rfl, hx, hb⟩
                    obtain ⟨y10, hxj⟩ : ∃ x, x = txtW pv y9 := ⟨_, rfl⟩
                    rw [← hxj] at hx
                    have HE10 := Lib.hid hxj
                    have HL10 : Hid (y10.1.length ≤ q.length + 6009) := by
                      have h1 := txtW_len pv y9
                      have h2 := HL9.out
                      have h3 := HZ.out.2
                      show _ ≤ _
                      rw [hxj]
                      omega
                    have HX10 := Lib.hid hx
                    have HB10 : Hid (Below w.heap.size w v10) := HB9.out.trans (hb.below HB9.out.size (Nat.le_refl _))
                    clear hxj hx hb p2
                    go_wp2_with fail
                    refine ⟨?_, ?measure⟩
                    (repeat apply Exists.intro)
                    case roundEnd.w => exact (j + 1)
                    case measure => simp [intOf]; omega
                    refine ⟨by omega, by go_num, ?_, HB10.out⟩
                    show IsW _ _ _
                    rw [HFS.out]
                    have e := HX10.out
                    rw [HE10.out, HE9.out, HE8.out] at e
                    exact e
                · have hE' : (E == 0) = false := by simpa using hE
                  have HPE := Lib.hid (fold_end pckW (fun x h a => pckW_stuck h a) y7 p (k := j) (.inr (by rw [← HXP.out]; exact hE)))
                  rw [← HXP.out] at HPE
                  rw [HPE.out] at HX
                  go_wp2_with fail
                  refine ⟨?_, ?measure⟩
                  (repeat apply Exists.intro)
                  case roundEnd.w => exact (k + 1)
                  case measure => simp [intOf]; omega
                  refine ⟨by omega, by go_num, ?_, HB.out⟩
                  show IsW _ _ _
                  rw [HST.out]
                  have e := HX.out
                  rw [HE7.out, HE6.out, HFE2.out, HE5.out, HE4.out, HE3.out, HE2.out, HE1.out] at e
                  exact e
              · have hj1 : ¬ (j : Int) < (p.length : Int) := by omega
                have HPE := Lib.hid (fold_end pckW (fun x h a => pckW_stuck h a) y7 p (k := j) (.inl (by omega)))
                rw [← HXP.out] at HPE
                rw [HPE.out] at HX
                go_wp2_with fail
                refine ⟨?_, ?measure⟩
                (repeat apply Exists.intro)
                case roundEnd.w => exact (k + 1)
                case measure => simp [intOf]; omega
                refine ⟨by omega, by go_num, ?_, HB.out⟩
                show IsW _ _ _
                rw [HST.out]
                have e := HX.out
                rw [HE7.out, HE6.out, HFE2.out, HE5.out, HE4.out, HE3.out, HE2.out, HE1.out] at e
                exact e
      · have hk : True := trivial
        have HFE2 := Lib.hid (fold_end stoW (fun x h a => stoW_stuck h a) x0 (L.map fun z => z.x) (k := k) (.inr (by rw [← HXE.out]; exact hE)))
        rw [← HXE.out, HX0.out] at HFE2
        have HVE : Hid (veE (L.map fun z => z.x) = E) := by
          show veE _ = _
          unfold veE veW
          rw [List.length_map, ← HFE2.out]
        have HVB : Hid (veB (L.map fun z => z.x) = []) := by
          show veB _ = _
          unfold veB
          rw [HVE.out]
          rw [if_neg hE]
        have hE' : (E == 0) = false := by simpa using hE
        have hE'' : (E != 0) = true := by simpa using hE
        go_wp2_with fail
        go_quiet (fail)
        go_wp2_with fail
        go_ret2
        rw [HVE.out, HVB.out]
        exact ⟨none, 0, 0, rfl, Sl8.none_ _, below_drawn HB.out _⟩
    · have hi1 : ¬ (k : Int) < (L.length : Int) := by omega
      by_cases hE : E = 0
      · subst hE
        have HFE2 := Lib.hid (fold_end stoW (fun x h a => stoW_stuck h a) x0 (L.map fun z => z.x) (k := k) (.inl (by rw [List.length_map]; omega)))
        rw [← HXE.out, HX0.out] at HFE2
        have HVE : Hid (veE (L.map fun z => z.x) = 0) := by
          show veE _ = _
          unfold veE veW
          rw [List.length_map, ← HFE2.out]
        have HVB : Hid (veB (L.map fun z => z.x) = l) := by
          show veB _ = _
          unfold veB
          rw [HVE.out]
          rw [if_pos rfl]; unfold veW; rw [List.length_map, ← HFE2.out]
        obtain ⟨A1, n1, m1, hg, hs⟩ := HX.out
        obtain ⟨d0, _, _, _⟩ := w_cells hg
        have HS := Lib.hid hs
        clear hg hs
        go_wp2_with fail
        go_ret2
        rw [HVE.out, HVB.out]
        exact ⟨A1, n1, m1, rfl, HS.out, HB.out⟩
      · have hk : True := trivial
        have HFE2 := Lib.hid (fold_end stoW (fun x h a => stoW_stuck h a) x0 (L.map fun z => z.x) (k := k) (.inl (by rw [List.length_map]; omega)))
        rw [← HXE.out, HX0.out] at HFE2
        have HVE : Hid (veE (L.map fun z => z.x) = E) := by
          show veE _ = _
          unfold veE veW
          rw [List.length_map, ← HFE2.out]
        have HVB : Hid (veB (L.map fun z => z.x) = []) := by
          show veB _ = _
          unfold veB
          rw [HVE.out]
          rw [if_neg hE]
        have hE' : (E == 0) = false := by simpa using hE
        have hE'' : (E != 0) = true := by simpa using hE
        go_wp2_with fail
        go_quiet (fail)
        go_wp2_with fail
        go_ret2
        rw [HVE.out, HVB.out]
        exact ⟨none, 0, 0, rfl, Sl8.none_ _, below_drawn HB.out _⟩

end Go.Proofs.YthhlcecojeaalaaDoor
end
