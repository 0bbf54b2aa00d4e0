/-
  Texts that the laws of this seat lean on, one behind the other.
-/
import Derived.Test.YthhlcecojeaalaaDoorMrgAR
import Derived.Test.YthhlcecojeaalaaDoorMrgAO
import Derived.BigQuiet
import Derived.Test.YthhlcecojeaalaaDoorMrgAG
import Derived.Test.YthhlcecojeaalaaDoorMrgAN
import Derived.Test.YthhlcecojeaalaaDoorMrgAQ
import Derived.Test.YthhlcecojeaalaaDoorMrgAK
import Derived.Test.YthhlcecojeaalaaDoorMrgAH
import Derived.Test.YthhlcecojeaalaaDoorMrgAM
import Derived.Test.YthhlcecojeaalaaDoorRows
set_option linter.unusedSimpArgs false
set_option linter.unusedVariables false
/-
  Package variant: the decoder's stored replies; Decode.
-/
section
namespace Go.Proofs.YthhlcecojeaalaaDoor
open Go.RowKit
set_option linter.unusedSimpArgs false

/-- Its lists are there, in blocks above G. -/
structure SdN (G : Nat) (w : World) (z : Sd) : Prop where
  a : SdAt w z
  f : ∀ ad, z.fa = some ad → G < ad.block ∧ ad.block < w.heap.size
  k : ∀ ad, z.pa = some ad → G < ad.block ∧ ad.block < w.heap.size
theorem SdN.kp {G : Nat} {w w' : World} {z : Sd} (h : SdN G w z) (hk : Kp G w w') : SdN G w' z :=
  ⟨⟨h.a.f.blocks fun ad e => hk.block _ (h.f ad e).1 (h.f ad e).2, h.a.k.blocks fun ad e => hk.block _ (h.k ad e).1 (h.k ad e).2⟩,
    fun ad e => ⟨(h.f ad e).1, Nat.lt_of_lt_of_le (h.f ad e).2 hk.size⟩, fun ad e => ⟨(h.k ad e).1, Nat.lt_of_lt_of_le (h.k ad e).2 hk.size⟩⟩
def AllN (G : Nat) (w : World) (X : List Sd) : Prop := ∀ z ∈ X, SdN G w z ∧ (z.x.s.r.size ≤ maxLen ∧ z.x.s.b.size ≤ maxLen)
theorem AllN.kp {G : Nat} {w w' : World} {X : List Sd} (h : AllN G w X) (hk : Kp G w w') : AllN G w' X := fun z hz => ⟨(h z hz).1.kp hk, (h z hz).2⟩
theorem sdC_ok (a : Sd) : (sdC a).length = 7 ∧ NB (sdC a) := ⟨rfl, fun v hv y => by
  have hv : v ∈ [Value.int .i64 a.x.s.c, .string a.x.s.r, .int .i64 a.x.s.v, .slice a.fa a.x.s.f.length a.fc, .string a.x.s.b, .int .i64 a.x.s.t, .slice a.pa a.x.p.length a.pc] := hv
  simp only [List.mem_cons, List.not_mem_nil, or_false] at hv
  rcases hv with rfl | rfl | rfl | rfl | rfl | rfl | rfl <;> simp [byV]⟩
theorem zer7_ok : NB zer7 := fun v hv y => by
  simp only [zer7, List.mem_cons, List.not_mem_nil, or_false] at hv
  rcases hv with rfl | rfl | rfl | rfl | rfl | rfl | rfl <;> simp [byV]
/-- What reading stored replies answers. -/
def DecV (D R : Nat) (l : List UInt8) (w : World) (e : Ending) (w' : World) : Prop :=
  ∃ g X x', e = .returned (.slice (some ⟨g, 0, none⟩) X.length X.length) ∧ (∀ W, But2 D R w' W → SlD W (some ⟨g, 0, none⟩) X.length X.length X) ∧ IsDc w' D R l x' ∧ At l (vntP l) x' (Pr.ret (X.map fun z => z.x)) ∧ But2 D R w w'

set_option maxHeartbeats 16000000 in
set_option maxRecDepth 100000 in
theorem dVariants_any (D R : Nat) (l : List UInt8) (w0 w : World) (h0 : w0.heap.size ≤ D ∧ w0.heap.size ≤ R) (hb0 : Below w0.heap.size w0 w) (h : IsDc w D R l (0, 0)) (hT : VntTabs w0) (hl : l.length ≤ 1000000) :
    Calls Tryd.prog 39 #[.pointer (some ⟨D, 0, none⟩)] w (DecV D R l w) := by
  have C0 := Lib.hid (dNum_any D R l (0, 0) 0 0 1 0 4 4 rfl w h (hT.kept hb0).s0 (by decide) (by decide))
  have hD := (Array.getElem?_eq_some_iff.1 h.d).1
  have HDR : Hid (D < w.heap.size ∧ R < w.heap.size) := ⟨hD, h.lt⟩
  have hst := vnt_at l
  have hbd := numR_bd (k := 1) (lo := 0) (hi := 4) l (0, 0)
  obtain ⟨y, hy⟩ : ∃ y, y = (numR 1 0 4 l (0, 0)).2 := ⟨_, rfl⟩
  obtain ⟨n, hn⟩ : ∃ n, n = (numR 1 0 4 l (0, 0)).1.toNat := ⟨_, rfl⟩
  have hni : (numR 1 0 4 l (0, 0)).1 = (n : Int) := by omega
  have hn4 : n ≤ 4 := by omega
  rw [← hy, hni] at C0
  rw [← hy, ← hn] at hst
  have HAT := Lib.hid hst
  have HL := Lib.hid hl
  have HB0 : Hid (∀ W, But2 D R w W → Below w0.heap.size w0 W) := fun W hW => hb0.trans (hW.below hb0.size h0.1 h0.2)
  have HT := Lib.hid hT
  clear hst hbd hy hn hni hD h hb0 hT hl h0
  go_enter Tryd.func39, Tryd.ntmps39
  go_wp2_with fail
  refine C0.out.mono ?_
  rintro e w1 ⟨rfl, hI, hb1⟩
  clear C0
  have HI := Lib.hid hI
  have HB1 := Lib.hid hb1
  clear hI hb1
  obtain ⟨w2, hmk, hrow, hbm⟩ := run_makeE (P := Tryd.prog) w1 22 28 (.agg #[.int .i64 0, .string ⟨#[]⟩, .int .i64 0, .slice none 0 0, .string ⟨#[]⟩, .int .i64 0, .slice none 0 0]) zer7 104 n Tryd.underlying22 (by kernel_rfl) rfl (by decide) (by omega) (by unfold maxLen; omega)
  obtain ⟨g, hg⟩ : ∃ g, g = w1.heap.size := ⟨_, rfl⟩
  rw [← hg] at hmk hrow
  have HR2 := Lib.hid hrow
  have HI2 := Lib.hid (HI.out.below hbm)
  have HB2 := Lib.hid (HB1.out.trans (But2.of_below hbm))
  have HG : Hid (w.heap.size ≤ g) := by show _ ≤ _; have := HB1.out.size; omega
  clear hrow hbm hg HI HB1
  go_wp2_with fail
  go_loopw [4, 10] (fun _ i wr => ∃ (k : Nat) (X : List Sd) (xk : RS), k ≤ n ∧ X.length = k ∧ i = .int .i64 k ∧ Hid (IsDc wr D R l xk) ∧ Hid (At l (vntP l) xk (vntK n k (X.map fun z => z.x))) ∧ Hid (RowE wr g 28 (X.map sdC ++ List.replicate (n - k) zer7)) ∧ Hid (AllN g wr X) ∧ Hid (But2 D R w wr)) (fun _ i _ => n - (intOf i).toNat)
  case atStart => exact ⟨0, [], y, Nat.zero_le _, rfl, rfl, HI2.out, HAT.out, HR2.out, (fun a ha => by cases ha), HB2.out⟩
  case round =>
    clear HI2 HR2 HB2 HAT hmk
    obtain ⟨k, X, xk, hk, hX, rfl, HI, HA, HR, HZ, HB⟩ := hrel
    by_cases hlt : k < n
    · have hi0 : (0 : Int) ≤ (k : Int) := by omega
      have hi1 : (k : Int) < (n : Int) := by omega
      obtain ⟨r, hr⟩ : ∃ r, r = n - (k + 1) := ⟨_, rfl⟩
      rw [show n - k = r + 1 by omega] at HR
      have HRR := Lib.hid hr
      have HXL := Lib.hid hX
      have S0 := Lib.hid (DS.begin HI.out HR.out HB.out ⟨HDR.out.1, HDR.out.2, HG.out⟩ sdC_ok zer7_ok)
      have A0 := Lib.hid (vntK_go HA.out hlt)
      clear hr hX HI HR HB HA
      have HAddr : ∀ i, i < 7 → k * 7 + i = (X.map sdC).length * 7 + i := fun i _ => by have := HXL.out; rw [List.length_map]; omega
      have HAD := Lib.hid HAddr
      clear HAddr
      have C := Lib.hid (dNum_any D R l xk 1 1 5 0 253402300799 3 rfl wr S0.out.i (HT.out.kept (HB0.out _ S0.out.b)).s1 (by decide) (by decide))
      have A1 := Lib.hid (num_step A0.out)
      obtain ⟨x1, hx⟩ : ∃ x, x = (numR 5 0 253402300799 l xk).2 := ⟨_, rfl⟩
      obtain ⟨zt, hz⟩ : ∃ z, z = (numR 5 0 253402300799 l xk).1 := ⟨_, rfl⟩
      rw [← hx, ← hz] at C A1
      clear hx hz A0
      go_wp2_with fail
      refine C.out.mono ?_
      rintro e w3 ⟨rfl, hI, hb⟩
      obtain ⟨S1, kp⟩ := S0.out.call hI hb
      have S1 := Lib.hid S1
      have HZc := Lib.hid (HZ.out.kp kp)
      clear HZ
      clear C S0 hI hb kp
      obtain ⟨c0, f0⟩ := S1.out.cell (i := 5) (j := k * 7 + 5) (HAD.out 5 (by decide)) rfl
      go_upto_region 6 with fail
      obtain ⟨S2, kp⟩ := S1.out.put (i := 5) (j := k * 7 + 5) (HAD.out 5 (by decide)) (by simp [zer7]) (u := .int .i64 zt) (fun y => by simp [byV])
      have S2 := Lib.hid S2
      have HZ := Lib.hid (HZc.out.kp kp)
      clear HZc
      clear kp c0 f0 S1
      generalize w3.setCell ⟨g, k * 7 + 5, none⟩ (.int .i64 zt) = v3 at *
      have C := Lib.hid (dNum_any D R l x1 2 2 2 200 599 3 rfl v3 S2.out.i (HT.out.kept (HB0.out _ S2.out.b)).s2 (by decide) (by decide))
      have A2 := Lib.hid (num_step A1.out)
      obtain ⟨x2, hx⟩ : ∃ x, x = (numR 2 200 599 l x1).2 := ⟨_, rfl⟩
      obtain ⟨zc, hz⟩ : ∃ z, z = (numR 2 200 599 l x1).1 := ⟨_, rfl⟩
      rw [← hx, ← hz] at C A2
      clear hx hz A1
      go_wp2_with fail
      refine C.out.mono ?_
      rintro e w4 ⟨rfl, hI, hb⟩
      obtain ⟨S3, kp⟩ := S2.out.call hI hb
      have S3 := Lib.hid S3
      have HZc := Lib.hid (HZ.out.kp kp)
      clear HZ
      clear C S2 hI hb kp
      obtain ⟨c0, f0⟩ := S3.out.cell (i := 0) (j := k * 7) (HAD.out 0 (by decide)) rfl
      go_upto_region 7 with fail
      obtain ⟨S4, kp⟩ := S3.out.put (i := 0) (j := k * 7) (HAD.out 0 (by decide)) (by simp [zer7]) (u := .int .i64 zc) (fun y => by simp [byV])
      have S4 := Lib.hid S4
      have HZ := Lib.hid (HZc.out.kp kp)
      clear HZc
      clear kp c0 f0 S3
      generalize w4.setCell ⟨g, k * 7, none⟩ (.int .i64 zc) = v4 at *
      have C := Lib.hid (dNum_any D R l x2 3 3 1 0 1 3 rfl v4 S4.out.i (HT.out.kept (HB0.out _ S4.out.b)).s3 (by decide) (by decide))
      have A3 := Lib.hid (num_step A2.out)
      obtain ⟨x3, hx⟩ : ∃ x, x = (numR 1 0 1 l x2).2 := ⟨_, rfl⟩
      obtain ⟨zv, hz⟩ : ∃ z, z = (numR 1 0 1 l x2).1 := ⟨_, rfl⟩
      rw [← hx, ← hz] at C A3
      clear hx hz A2
      go_wp2_with fail
      refine C.out.mono ?_
      rintro e w5 ⟨rfl, hI, hb⟩
      obtain ⟨S5, kp⟩ := S4.out.call hI hb
      have S5 := Lib.hid S5
      have HZc := Lib.hid (HZ.out.kp kp)
      clear HZ
      clear C S4 hI hb kp
      obtain ⟨c0, f0⟩ := S5.out.cell (i := 2) (j := k * 7 + 2) (HAD.out 2 (by decide)) rfl
      go_upto_region 8 with fail
      obtain ⟨S6, kp⟩ := S5.out.put (i := 2) (j := k * 7 + 2) (HAD.out 2 (by decide)) (by simp [zer7]) (u := .int .i64 zv) (fun y => by simp [byV])
      have S6 := Lib.hid S6
      have HZ := Lib.hid (HZc.out.kp kp)
      clear HZc
      clear kp c0 f0 S5
      generalize w5.setCell ⟨g, k * 7 + 2, none⟩ (.int .i64 zv) = v5 at *
      have C := Lib.hid (dText_any D R l x3 v5 S6.out.i HL.out)
      have A4 := Lib.hid (txt_step A3.out)
      have hsz := txtR_size l x3
      obtain ⟨x4, hx⟩ : ∃ x, x = (txtR l x3).2 := ⟨_, rfl⟩
      obtain ⟨zr, hz⟩ : ∃ z, z = (txtR l x3).1 := ⟨_, rfl⟩
      rw [← hx, ← hz] at C A4
      rw [← hz] at hsz
      have HSZzr : Hid (zr.size ≤ maxLen) := by show _ ≤ _; unfold maxLen; have := HL.out; omega
      clear hx hz hsz A3
      go_wp2_with fail
      refine C.out.mono ?_
      rintro e w6 ⟨rfl, hI, hb⟩
      obtain ⟨S7, kp⟩ := S6.out.call hI hb
      have S7 := Lib.hid S7
      have HZc := Lib.hid (HZ.out.kp kp)
      clear HZ
      clear C S6 hI hb kp
      obtain ⟨c0, f0⟩ := S7.out.cell (i := 1) (j := k * 7 + 1) (HAD.out 1 (by decide)) rfl
      go_upto_region 9 with fail
      obtain ⟨S8, kp⟩ := S7.out.put (i := 1) (j := k * 7 + 1) (HAD.out 1 (by decide)) (by simp [zer7]) (u := .string zr) (fun y => by simp [byV])
      have S8 := Lib.hid S8
      have HZ := Lib.hid (HZc.out.kp kp)
      clear HZc
      clear kp c0 f0 S7
      generalize w6.setCell ⟨g, k * 7 + 1, none⟩ (.string zr) = v6 at *
      have C := Lib.hid (dFields_any D R l x4 (vntP l) _ w0 v6 (HB0.out _ S8.out.b) S8.out.i A4.out HT.out HL.out)
      go_wp2_with fail
      refine C.out.mono ?_
      rintro e w7 ⟨gF, F, x5, rfl, hg1, hg2, hSF, hI, hA, hb⟩
      have A5 := Lib.hid hA
      clear hA A4
      have HSF := Lib.hid hSF
      have HGF : Hid (g < gF ∧ gF < w7.heap.size) := ⟨Nat.lt_of_lt_of_le S8.out.r.lt hg1, hg2⟩
      clear hSF hg1 hg2
      obtain ⟨S9, kp⟩ := S8.out.call hI hb
      have S9 := Lib.hid S9
      have HZc := Lib.hid (HZ.out.kp kp)
      clear HZ
      clear C S8 hI hb kp
      obtain ⟨c0, f0⟩ := S9.out.cell (i := 3) (j := k * 7 + 3) (HAD.out 3 (by decide)) rfl
      go_upto_region 10 with fail
      obtain ⟨S10, kp⟩ := S9.out.put (i := 3) (j := k * 7 + 3) (HAD.out 3 (by decide)) (by simp [zer7]) (u := .slice (some ⟨gF, 0, none⟩) F.length F.length) (fun y => by simp [byV])
      have S10 := Lib.hid S10
      have HZ := Lib.hid (HZc.out.kp kp)
      clear HZc
      have HSFd := Lib.hid (HSF.out.blocks fun ad e => by cases e; exact kp.block gF HGF.out.1 HGF.out.2)
      have HGFd : Hid (g < gF ∧ gF < (w7.setCell ⟨g, k * 7 + 3, none⟩ (.slice (some ⟨gF, 0, none⟩) F.length F.length)).heap.size) := ⟨HGF.out.1, Nat.lt_of_lt_of_le HGF.out.2 kp.size⟩
      clear HSF HGF
      have HSF := Lib.hid HSFd.out
      have HGF := Lib.hid HGFd.out
      clear HSFd HGFd
      clear kp c0 f0 S9
      generalize w7.setCell ⟨g, k * 7 + 3, none⟩ (.slice (some ⟨gF, 0, none⟩) F.length F.length) = v7 at *
      have C := Lib.hid (dText_any D R l x5 v7 S10.out.i HL.out)
      have A6 := Lib.hid (txt_step A5.out)
      have hsz := txtR_size l x5
      obtain ⟨x6, hx⟩ : ∃ x, x = (txtR l x5).2 := ⟨_, rfl⟩
      obtain ⟨zb, hz⟩ : ∃ z, z = (txtR l x5).1 := ⟨_, rfl⟩
      rw [← hx, ← hz] at C A6
      rw [← hz] at hsz
      have HSZzb : Hid (zb.size ≤ maxLen) := by show _ ≤ _; unfold maxLen; have := HL.out; omega
      clear hx hz hsz A5
      go_wp2_with fail
      refine C.out.mono ?_
      rintro e w8 ⟨rfl, hI, hb⟩
      obtain ⟨S11, kp⟩ := S10.out.call hI hb
      have S11 := Lib.hid S11
      have HZc := Lib.hid (HZ.out.kp kp)
      clear HZ
      have HSFc := Lib.hid (HSF.out.blocks fun ad e => by cases e; exact kp.block gF HGF.out.1 HGF.out.2)
      have HGFc : Hid (g < gF ∧ gF < w8.heap.size) := ⟨HGF.out.1, Nat.lt_of_lt_of_le HGF.out.2 kp.size⟩
      clear HSF HGF
      clear C S10 hI hb kp
      obtain ⟨c0, f0⟩ := S11.out.cell (i := 4) (j := k * 7 + 4) (HAD.out 4 (by decide)) rfl
      go_upto_region 11 with fail
      obtain ⟨S12, kp⟩ := S11.out.put (i := 4) (j := k * 7 + 4) (HAD.out 4 (by decide)) (by simp [zer7]) (u := .string zb) (fun y => by simp [byV])
      have S12 := Lib.hid S12
      have HZ := Lib.hid (HZc.out.kp kp)
      clear HZc
      have HSFd := Lib.hid (HSFc.out.blocks fun ad e => by cases e; exact kp.block gF HGFc.out.1 HGFc.out.2)
      have HGFd : Hid (g < gF ∧ gF < (w8.setCell ⟨g, k * 7 + 4, none⟩ (.string zb)).heap.size) := ⟨HGFc.out.1, Nat.lt_of_lt_of_le HGFc.out.2 kp.size⟩
      clear HSFc HGFc
      have HSF := Lib.hid HSFd.out
      have HGF := Lib.hid HGFd.out
      clear HSFd HGFd
      clear kp c0 f0 S11
      generalize w8.setCell ⟨g, k * 7 + 4, none⟩ (.string zb) = v8 at *
      have C := Lib.hid (dPicks_any D R l x6 (vntP l) _ w0 v8 (HB0.out _ S12.out.b) S12.out.i A6.out HT.out HL.out)
      go_wp2_with fail
      refine C.out.mono ?_
      rintro e w9 ⟨gK, K, x7, rfl, hg1, hg2, hSK, hI, hA, hb⟩
      have A7 := Lib.hid hA
      clear hA A6
      have HSK := Lib.hid hSK
      have HGK : Hid (g < gK ∧ gK < w9.heap.size) := ⟨Nat.lt_of_lt_of_le S12.out.r.lt hg1, hg2⟩
      clear hSK hg1 hg2
      obtain ⟨S13, kp⟩ := S12.out.call hI hb
      have S13 := Lib.hid S13
      have HZc := Lib.hid (HZ.out.kp kp)
      clear HZ
      have HSFc := Lib.hid (HSF.out.blocks fun ad e => by cases e; exact kp.block gF HGF.out.1 HGF.out.2)
      have HGFc : Hid (g < gF ∧ gF < w9.heap.size) := ⟨HGF.out.1, Nat.lt_of_lt_of_le HGF.out.2 kp.size⟩
      clear HSF HGF
      clear C S12 hI hb kp
      obtain ⟨c0, f0⟩ := S13.out.cell (i := 6) (j := k * 7 + 6) (HAD.out 6 (by decide)) rfl
      go_upto_region 12 with fail
      obtain ⟨S14, kp⟩ := S13.out.put (i := 6) (j := k * 7 + 6) (HAD.out 6 (by decide)) (by simp [zer7]) (u := .slice (some ⟨gK, 0, none⟩) K.length K.length) (fun y => by simp [byV])
      have S14 := Lib.hid S14
      have HZ := Lib.hid (HZc.out.kp kp)
      clear HZc
      have HSFd := Lib.hid (HSFc.out.blocks fun ad e => by cases e; exact kp.block gF HGFc.out.1 HGFc.out.2)
      have HGFd : Hid (g < gF ∧ gF < (w9.setCell ⟨g, k * 7 + 6, none⟩ (.slice (some ⟨gK, 0, none⟩) K.length K.length)).heap.size) := ⟨HGFc.out.1, Nat.lt_of_lt_of_le HGFc.out.2 kp.size⟩
      clear HSFc HGFc
      have HSF := Lib.hid HSFd.out
      have HGF := Lib.hid HGFd.out
      clear HSFd HGFd
      have HSKd := Lib.hid (HSK.out.blocks fun ad e => by cases e; exact kp.block gK HGK.out.1 HGK.out.2)
      have HGKd : Hid (g < gK ∧ gK < (w9.setCell ⟨g, k * 7 + 6, none⟩ (.slice (some ⟨gK, 0, none⟩) K.length K.length)).heap.size) := ⟨HGK.out.1, Nat.lt_of_lt_of_le HGK.out.2 kp.size⟩
      clear HSK HGK
      have HSK := Lib.hid HSKd.out
      have HGK := Lib.hid HGKd.out
      clear HSKd HGKd
      clear kp c0 f0 S13
      generalize w9.setCell ⟨g, k * 7 + 6, none⟩ (.slice (some ⟨gK, 0, none⟩) K.length K.length) = v9 at *
      have HE := Lib.hid (DS.ends (a := (⟨⟨⟨zc, zr, zv, F, zb, zt⟩, K⟩, some ⟨gF, 0, none⟩, F.length, some ⟨gK, 0, none⟩, K.length⟩ : Sd)) S14.out)
      go_wp2_with fail
      go_roundw
      case rel => exact ⟨k + 1, X ++ [(⟨⟨⟨zc, zr, zv, F, zb, zt⟩, K⟩, some ⟨gF, 0, none⟩, F.length, some ⟨gK, 0, none⟩, K.length⟩ : Sd)], x7, by omega, by rw [List.length_append, HXL.out, List.length_singleton], by go_num, S14.out.i, by show At _ _ _ _; rw [List.map_append]; exact A7.out, by show RowE _ _ _ _; rw [← HRR.out]; exact HE.out, (fun a ha => by
        rcases List.mem_append.1 ha with h1 | h1
        · exact HZ.out a h1
        · obtain rfl := List.mem_singleton.1 h1
          exact ⟨⟨⟨HSF.out, HSK.out⟩, fun ad e => by cases e; exact HGF.out, fun ad e => by cases e; exact HGK.out⟩, HSZzr.out, HSZzb.out⟩), S14.out.b⟩
      case measure => simp [intOf]; omega
    · have hi1 : ¬ (k : Int) < (n : Int) := by omega
      have hkn : k = n := by omega
      subst hkn
      have HXL := Lib.hid hX
      clear hX
      go_wp2_with fail
      go_ret
      have hA := HA.out
      rw [vntK_end _ (Nat.le_refl _)] at hA
      have hR := HR.out
      rw [Nat.sub_self, List.replicate_zero, List.append_nil] at hR
      have hDR := HDR.out
      have hG := HG.out
      have hS : ∀ W, But2 D R wr W → SlD W (some ⟨g, 0, none⟩) k k X := fun W hW => by
        have hR' : RowE W g 28 (X.map sdC) := (hW.block g hR.lt (by omega) (by omega)).trans hR
        have hZ' : AllN g W X := HZ.out.kp ⟨hW.size, fun j hj hl => hW.block j hl (by omega) (by omega)⟩
        exact hR'.sld HXL.out (by unfold maxLen; omega) (fun y hy => (hZ' y hy).1.a) (fun y hy => (hZ' y hy).2)
      have e := HXL.out
      subst e
      exact ⟨g, X, xk, rfl, hS, HI.out, hA, HB.out⟩

/-- What Decode answers. -/
def IsDe (w : World) (X : List Sv) (er : Int) (e : Ending) (w' : World) : Prop := ∃ A c M, e = .returned (.tuple #[.slice A M.length c, .int .i64 er]) ∧ SlD w' A M.length c M ∧ M.map (fun z => z.x) = X ∧ Below w.heap.size w w'
theorem vntD_any (A : Option Addr) (n c : Nat) (l : List UInt8) (w : World) (h : Sl8 w A n c l) (hl : l.length ≤ 1000000) (hT : VntTabs w) :
    Calls Tryd.prog 21 #[.slice A n c] w (IsDe w (vdL l) (vdE l)) := by
  have C0 := Lib.hid (new_at A n c l w h hl)
  have HL := Lib.hid hl
  have HT := Lib.hid hT
  obtain ⟨rl, hrl⟩ : ∃ r, r = vdL l := ⟨_, rfl⟩
  obtain ⟨re, hre⟩ : ∃ r, r = vdE l := ⟨_, rfl⟩
  rw [← hrl, ← hre]
  have HRL := Lib.hid hrl
  have HRE := Lib.hid hre
  clear h hl hT hrl hre
  go_enter Tryd.func21, Tryd.ntmps21
  go_wp2_with fail
  refine C0.out.mono ?_
  rintro e w1 ⟨R, A', n', c', rfl, hr0, hr1, hg, hs, hb, _⟩
  have HB1 := Lib.hid hb
  have HR0 := Lib.hid hr0
  have hh : Hold1 w1 R 100 l := ⟨A', n', c', hg, hs⟩
  obtain ⟨V, hV⟩ : ∃ V, V = w1.alloc (.cells #[.pointer (some ⟨R, 0, none⟩), .int .i64 0] 79) := ⟨_, rfl⟩
  obtain ⟨D, hD⟩ : ∃ D, D = w1.heap.size := ⟨_, rfl⟩
  have hbv : Below w1.heap.size w1 V := by
    rw [hV]
    exact (Below.refl _ _).alloc (Nat.le_refl _) _
  have zd : V.heap[D]? = some (.cells #[.pointer (some ⟨R, 0, none⟩), .int .i64 0] 79 (0, 0)) := by
    rw [hV, hD]
    exact heap_alloc_new w1 _
  have hi : IsDc V D R l (0, 0) := ⟨zd, fun _ => ⟨hh.below hbv, Nat.zero_le _⟩, Nat.lt_of_lt_of_le hr1 hbv.size, by omega⟩
  have HBV : Hid (Below w.heap.size w V) := HB1.out.trans (hbv.mono HB1.out.size)
  have HD0 : Hid (w.heap.size ≤ D ∧ w.heap.size ≤ R) := by show _ ∧ _; have := HB1.out.size; omega
  have C1 := Lib.hid (dVariants_any D R l w V HD0.out HBV.out hi HT.out HL.out)
  clear C0 hr0 hr1 hg hs hb hh hbv zd hi
  go_upto_region 2 with fail
  rw [← hV, ← hD]
  clear hV hD
  go_wp2_with fail
  refine C1.out.mono ?_
  rintro e w2 ⟨g, X, x, rfl, hS, hI, hA, hb2⟩
  have HS2 := Lib.hid hS
  have C2 := Lib.hid (dEnd_any D R l x w2 hI)
  have HB2 : Hid (Below w.heap.size w w2) := HBV.out.trans (hb2.below HBV.out.size HD0.out.1 HD0.out.2)
  have HIR := Lib.hid hI.r
  have HA := Lib.hid hA
  clear C1 hS hb2 hI hA
  go_wp2_with fail
  refine C2.out.mono ?_
  rintro e w3 ⟨rfl, hI3, hb3⟩
  have HS3 := Lib.hid (HS2.out w3 hb3)
  have HB3 : Hid (Below w.heap.size w w3) := HB2.out.trans (hb3.below HB2.out.size HD0.out.1 HD0.out.2)
  have HD3 := Lib.hid hI3.d
  clear C2 HS2 HB2 hI3 hb3
  obtain ⟨I, er⟩ := x
  simp only at HD3 HIR
  by_cases h0 : er = 0
  · subst h0
    have hle := (HIR.out rfl).2
    obtain ⟨_, k1, k2⟩ := vd_at HA.out hle
    by_cases h1 : I < l.length
    · rw [if_pos ⟨rfl, h1⟩] at HD3
      obtain ⟨e1, e2⟩ := k1 rfl h1
      have E1 := HRE.out.trans e1
      have E2 := HRL.out.trans e2
      clear e1 e2 k1 k2 h1 hle HA HIR HRE HRL
      subst E1 E2
      have CF := Lib.hid (found_any 5 w3)
      rw [show (!((5 : Int) == 0)) = true from rfl] at CF
      obtain ⟨d1, _⟩ := rowAt HD3.out 1 _ rfl
      go_wp2_with fail
      refine CF.out.mono ?_
      rintro e w4 ⟨rfl, hb4⟩
      have HB4 := Lib.hid (HB3.out.trans (hb4.mono HB3.out.size))
      obtain ⟨d2, _⟩ := rowAt (zero_still hb4 HD3.out) 1 _ rfl
      clear d1 CF hb4
      go_wp2_with fail
      go_quiet (fail)
      go_wp2_with fail
      go_ret2
      exact ⟨none, 0, [], rfl, SlD.none_ _, rfl, HB4.out.trans (below_drawn (Below.refl _ _) _)⟩
    · rw [if_neg (fun q => h1 q.2)] at HD3
      obtain ⟨e1, e2⟩ := k2 rfl h1
      have E1 := HRE.out.trans e1
      have E2 := HRL.out.trans e2
      clear e1 e2 k1 k2 h1 hle HA HIR HRE HRL
      subst E1 E2
      have CF := Lib.hid (found_any 0 w3)
      rw [show (!((0 : Int) == 0)) = false from rfl] at CF
      obtain ⟨d1, _⟩ := rowAt HD3.out 1 _ rfl
      go_wp2_with fail
      refine CF.out.mono ?_
      rintro e w4 ⟨rfl, hb4⟩
      have HB4 := Lib.hid (HB3.out.trans (hb4.mono HB3.out.size))
      have HS4 := Lib.hid (HS3.out.below hb4)
      clear d1 CF hb4
      go_wp2_with fail
      go_ret2
      exact ⟨_, _, X, rfl, HS4.out, rfl, HB4.out⟩
  · rw [if_neg (fun q => h0 q.1)] at HD3
    have hV := HA.out.er h0
    simp only at hV
    have e1 : vdE l = er := by unfold vdE; rw [hV]
    have e2 : vdL l = [] := by unfold vdL; rw [hV]
    have E1 := HRE.out.trans e1
    have E2 := HRL.out.trans e2
    have CF := Lib.hid (found_any er w3)
    rw [show (!(er == 0)) = true by simpa using h0] at CF
    clear e1 e2 hV h0 HA HIR HRE HRL
    subst E1 E2
    obtain ⟨d1, _⟩ := rowAt HD3.out 1 _ rfl
    go_wp2_with fail
    refine CF.out.mono ?_
    rintro e w4 ⟨rfl, hb4⟩
    have HB4 := Lib.hid (HB3.out.trans (hb4.mono HB3.out.size))
    obtain ⟨d2, _⟩ := rowAt (zero_still hb4 HD3.out) 1 _ rfl
    clear d1 CF hb4
    go_wp2_with fail
    go_quiet (fail)
    go_wp2_with fail
    go_ret2
    exact ⟨none, 0, [], rfl, SlD.none_ _, rfl, HB4.out.trans (below_drawn (Below.refl _ _) _)⟩

end Go.Proofs.YthhlcecojeaalaaDoor
end

/-
  The contracts of package variant at hand (vntF_any, vntA_any, vntP_any, vntE_any, vntD_any); its table, from the row's list of variables.
-/
section
namespace Go.Proofs.YthhlcecojeaalaaDoor
open Go.RowKit

theorem vntTabs {W : World} (h : laidMetH Tryd.prog Rows.variantListsRow.laid W) : VntTabs W := by
  rw [MakeChecks.laidMetH_plain _ _ _ (by kernel_rfl)] at h
  exact var_in h (.head _) (g := 0) (by kernel_rfl) (t := 116) (by kernel_rfl) (by kernel_rfl)

end Go.Proofs.YthhlcecojeaalaaDoor
end
