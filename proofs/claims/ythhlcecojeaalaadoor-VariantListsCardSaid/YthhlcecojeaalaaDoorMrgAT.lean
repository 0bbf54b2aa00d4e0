/-
  Texts that the laws of this seat lean on, one behind the other.
-/
import Derived.Test.YthhlcecojeaalaaDoorMrgAS
import Derived.Test.YthhlcecojeaalaaDoorMrgAD
import Derived.Deep.RegionHeld3
import Derived.Deep.QuietTactic
import Derived.BigQuiet
set_option linter.unusedSimpArgs false
set_option linter.unusedVariables false
/-
  The page's example (variants) of layer 20.
-/
section
namespace Go.Proofs.YthhlcecojeaalaaDoor
open Go.RowKit
set_option linter.unusedSimpArgs false

def dgS : ByteArray := ⟨#[48, 49, 50, 51, 52]⟩
def sv20 (k : Nat) : Sv := ⟨⟨200, ⟨#[]⟩, 0, [], ⟨#[]⟩, (k : Int)⟩, [⟨⟨#[97]⟩, true, dgS.extract k (k + 1)⟩]⟩
def vl20 : Nat → List Sv
  | 0 => []
  | k + 1 => addV (vl20 k) (sv20 k)
theorem add_mem {L : List Sv} {y z : Sv} (h : z ∈ addV L y) : z = y ∨ z ∈ L := by
  rcases List.mem_cons.1 (List.mem_of_mem_take h) with h | h
  · exact .inl h
  · exact .inr (List.mem_filter.1 h).1
theorem dg_size (k : Nat) : (dgS.extract k (k + 1)).size ≤ 5 := by
  rw [ByteArray.size_extract]
  have : dgS.size = 5 := rfl
  omega
theorem sv20_ok (k : Nat) : FwE (sv20 k) ∧ FwP (sv20 k).p := by
  have hd := dg_size k
  refine ⟨⟨of_decide_eq_true rfl, of_decide_eq_true rfl, of_decide_eq_true rfl, (fun x hx => by cases hx), of_decide_eq_true rfl, fun x hx => ?_⟩, of_decide_eq_true rfl, fun x hx => ?_⟩
  · simp only [sv20, List.mem_singleton] at hx
    subst hx
    exact ⟨of_decide_eq_true rfl, by show (dgS.extract k (k + 1)).size ≤ 3000; omega⟩
  · simp only [sv20, List.mem_singleton] at hx
    subst hx
    show (⟨#[97]⟩ : ByteArray).size ≤ _
    decide
theorem vl20_ok : ∀ k, ∀ x ∈ vl20 k, FwE x ∧ FwP x.p
  | 0, x, h => by cases h
  | k + 1, x, h => by
    rcases add_mem h with rfl | h
    · exact sv20_ok k
    · exact vl20_ok k x h
theorem vl20_len : ∀ k, (vl20 k).length ≤ 4
  | 0 => by decide
  | k + 1 => by show (List.take 4 _).length ≤ 4; rw [List.length_take]; omega
theorem x20 : vl20 5 = [sv20 4, sv20 3, sv20 2, sv20 1] := by kernel_rfl
theorem x20o : vntO (vl20 5) := by
  rw [x20]
  refine ⟨by decide, fun x hx => ?_⟩
  simp only [List.mem_cons, List.not_mem_nil, or_false] at hx
  have key : ∀ k : Nat, k ≤ 4 → stoO (sv20 k) := fun k hk => by
    have hd := dg_size k
    refine ⟨⟨by show (0 : Int) ≤ (k : Int); omega, by show (k : Int) ≤ _; omega⟩, ⟨by show (200 : Int) ≤ 200; decide, by show (200 : Int) ≤ 599; decide⟩, ⟨by show (0 : Int) ≤ 0; decide, by show (0 : Int) ≤ 1; decide⟩, of_decide_eq_true rfl, ⟨of_decide_eq_true rfl, fun x hx => by cases hx⟩, of_decide_eq_true rfl, ⟨of_decide_eq_true rfl, fun x hx => ?_⟩⟩
    simp only [sv20, List.mem_singleton] at hx
    subst hx
    exact ⟨of_decide_eq_true rfl, by show (dgS.extract k (k + 1)).size ≤ 65536; omega⟩
  rcases hx with rfl | rfl | rfl | rfl <;> exact key _ (by decide)
theorem x20l : (veB (vl20 5)).length ≤ 1000000 := by rw [(ve_yes x20o).2, x20]; decide +kernel
theorem x20a : veB [] = [0] ∧ veE [] = 0 := ⟨by kernel_rfl, by kernel_rfl⟩
theorem x20b : vdE [] = 6 ∧ vdL [] = [] := ⟨by kernel_rfl, by kernel_rfl⟩
theorem x20c : verF (vl20 5) [(⟨#[65]⟩, ⟨#[50]⟩)] = 2 := by kernel_rfl
theorem x20d : verF (vl20 5) [] = -1 := by kernel_rfl
theorem x20e : putV (vl20 5) 1 (sv20 4) = [sv20 4, sv20 4, sv20 2, sv20 1] := by kernel_rfl

theorem sdFour {L : List Sd} {a b c d : Sv} (h : L.map (fun z => z.x) = [a, b, c, d]) : ∃ y0 y1 y2 y3, L = [y0, y1, y2, y3] ∧ y0.x = a ∧ y1.x = b ∧ y2.x = c ∧ y3.x = d := by
  rcases L with _ | ⟨y0, _ | ⟨y1, _ | ⟨y2, _ | ⟨y3, _ | ⟨y4, r⟩⟩⟩⟩⟩ <;> simp at h
  obtain ⟨h0, h1, h2, h3⟩ := h
  exact ⟨y0, y1, y2, y3, rfl, h0, h1, h2, h3⟩
theorem vd20 : vdL (veB (vl20 5)) = vl20 5 ∧ vdE (veB (vl20 5)) = 0 := by
  rw [(ve_yes x20o).2]
  exact vd_back x20o
/-- Two of the time's cells, and the first element whole. -/
theorem cells20 {w : World} {ad : Addr} {c : Nat} {y0 y1 y2 y3 : Sd} (h : SlD w (some ad) 4 c [y0, y1, y2, y3]) :
    ElD w ad y0 ∧ ElD w (ad.add 7) y1 ∧ ElD w (ad.add 21) y3 := by
  have h0 := h.el (j := 0) (by simp)
  rw [Nat.zero_mul, Addr.add_zero'] at h0
  exact ⟨h0, h.el (j := 1) (by simp), h.el (j := 3) (by simp)⟩

/-- A round of the example's loop: what is added. -/
theorem add20 (k : Nat) (W : World) (g : Nat) (hg : W.heap.size = g) (A : Option Addr) (c : Nat) (L : List Sd) (h : SlD W A L.length c L) (hL : L.map (fun z => z.x) = vl20 k) :
    Calls Tryd.prog 14 #[.slice A L.length c, .agg #[.int .i64 200, .string ⟨#[]⟩, .int .i64 0, .slice none 0 0, .string ⟨#[]⟩, .int .i64 (k : Int), .slice (some ⟨g, 0, none⟩) 1 1]] (W.alloc (.cells #[.string ⟨#[97]⟩, .bool true, .string (dgS.extract k (k + 1))] 53)) (fun e w' => ∃ A c M, e = .returned (.slice A M.length c) ∧ SlD w' A M.length c M ∧ M.map (fun z => z.x) = vl20 (k + 1) ∧ Below W.heap.size W w') := by
  have hd := dg_size k
  have hk1 := SlK.oneAt W 53 ⟨⟨#[97]⟩, true, dgS.extract k (k + 1)⟩ ⟨of_decide_eq_true rfl, by show (dgS.extract k (k + 1)).size ≤ _; unfold maxLen; omega⟩ hg
  have hlen : L.length ≤ 4 := by
    have := congrArg List.length hL
    rw [List.length_map] at this
    rw [this]; exact vl20_len k
  have hp : ∀ z ∈ L, z.x.p.length ≤ 100000000 ∧ z.x.s.f.length ≤ 100000000 := fun z hz => by
    have h1 := vl20_ok k z.x (by rw [← hL]; exact List.mem_map.2 ⟨z, hz, rfl⟩)
    have := h1.1.pl
    have := h1.1.fl
    omega
  have := vntA_any A L.length c L ⟨sv20 k, none, 0, some ⟨g, 0, none⟩, 1⟩ (W.alloc (.cells #[.string ⟨#[97]⟩, .bool true, .string (dgS.extract k (k + 1))] 53)) (h.alloc _) ⟨SlF.none_ _, hk1⟩ (by omega) hp ⟨by show 1 ≤ 100000000; decide, by show 0 ≤ 100000000; decide⟩ ⟨of_decide_eq_true rfl, of_decide_eq_true rfl⟩
  refine this.mono ?_
  rintro e w' ⟨A1, c1, M, rfl, hS, hM, hb⟩
  exact ⟨A1, c1, M, rfl, hS, by rw [hM, hL]; rfl, zero_then hb⟩

set_option maxHeartbeats 8000000 in
set_option maxRecDepth 100000 in
theorem ex20_any (w : World) (hT : VntTabs w) : Calls Tryd.prog 10 #[] w fun e w' => e = .returned (.bool true) ∧ Below w.heap.size w w' := by
  have K1 := Lib.hid (vntE_any none 0 0 [] w (SlD.none_ w) (by decide) (fun y hy => by cases hy) hT)
  have HT := Lib.hid hT
  clear hT
  simp only [List.map_nil, x20a.1, x20a.2] at K1
  unfold Bytes2 at K1
  go_enter Tryd.func10, Tryd.ntmps10
  go_wp2_with fail
  refine K1.out.mono ?_
  rintro e w1 ⟨A0, n0, c0, rfl, hB0, hb⟩
  obtain rfl : 1 = n0 := hB0.len
  obtain ⟨a0, rfl, _⟩ := hB0.at_ (by decide)
  have H0 := Lib.hid hB0
  have HB := Lib.hid hb
  clear hB0 hb K1
  go_wp2_with fail
  go_loopw [3, 4] (fun v i wr => ∃ (k : Nat) (A : Option Addr) (c : Nat) (L : List Sd), k ≤ 5 ∧ i = .int .i64 (k : Int) ∧ v = .slice A L.length c ∧ Hid (SlD wr A L.length c L) ∧ Hid (L.map (fun z => z.x) = vl20 k) ∧ Hid (Below w1.heap.size w1 wr)) (fun _ i _ => 5 - (intOf i).toNat)
  case atStart => exact ⟨0, none, 0, [], by decide, rfl, rfl, SlD.none_ _, rfl, Below.refl _ _⟩
  case round =>
    obtain ⟨k, A, c, L, hk, rfl, rfl, HS, HL, HBr⟩ := hrel
    have hi0 : (0 : Int) ≤ (k : Int) := by omega
    by_cases hlt : k < 5
    · have CA := Lib.hid (add20 k wr wr.heap.size rfl A c L HS.out HL.out)
      have hi1 : (k : Int) < 5 := by omega
      obtain ⟨dg, hdg⟩ : ∃ d, d = dgS.extract k (k + 1) := ⟨_, rfl⟩
      have hsl : ∀ W, (Instr.slice 9 (.string ⟨#[48, 49, 50, 51, 52]⟩) (some (.int .i64 (k : Int))) (some (.int .i64 ((k : Int) + 1))) none).run Tryd.prog W = .ok (.string dg) W := fun W => by
        rw [run_slice_string W 9 _ .i64 .i64 (k : Int) ((k : Int) + 1) Tryd.underlying9 (by omega) (by omega) (by show (k : Int) + 1 ≤ 5; omega), show ((k : Int) + 1).toNat = k + 1 by omega, Int.toNat_natCast, hdg]
        rfl
      rw [← hdg] at CA
      obtain ⟨q, hq⟩ : ∃ q, q = L.length := ⟨_, rfl⟩
      rw [← hq] at CA ⊢
      clear hq hdg
      go_wp2_with fail
      refine CA.out.mono ?_
      rintro e w2 ⟨A2, c2, M, rfl, hS2, hM2, hb2⟩
      have HS2 := Lib.hid hS2
      have HM2 := Lib.hid hM2
      have HB2 := Lib.hid (below_then HBr.out hb2)
      clear hS2 hM2 hb2 CA hsl
      obtain ⟨q2, hq2⟩ : ∃ q, q = M.length := ⟨_, rfl⟩
      have HQ2 := Lib.hid hq2
      rw [← hq2]
      clear hq2
      go_wp2_with fail
      go_roundw
      case rel => exact ⟨k + 1, A2, c2, M, by omega, by go_num, by rw [HQ2.out], HS2.out, HM2.out, HB2.out⟩
      case measure => simp [intOf]; omega
    · obtain rfl : k = 5 := by omega
      have HBw := Lib.hid (below_then HB.out HBr.out)
      have H1 := Lib.hid (H0.out.below HBr.out)
      clear H0 HB HBr hlt hi0 hk
      obtain ⟨y0, y1, y2, y3, hLL, e0, e1, e2, e3⟩ := sdFour (HL.out.trans x20)
      subst hLL
      obtain ⟨Z, hZ⟩ : ∃ Z, Z = vl20 5 := ⟨_, rfl⟩
      rw [← hZ] at HL
      have hok : ∀ y ∈ [y0, y1, y2, y3], FwE y.x ∧ FwP y.x.p := fun y hy => vl20_ok 5 y.x (by rw [← hZ, ← HL.out]; exact List.mem_map.2 ⟨y, hy, rfl⟩)
      have K2 := Lib.hid (vntE_any A 4 c [y0, y1, y2, y3] wr HS.out (by decide) (fun y hy => (hok y hy).1) (HT.out.kept HBw.out))
      have hl5 := x20l
      have hd5 := vd20
      have he5 := (ve_yes x20o).1
      rw [← hZ] at hl5 hd5 he5
      rw [HL.out, he5] at K2
      unfold Bytes2 at K2
      obtain ⟨X, hX⟩ : ∃ X, X = veB Z := ⟨_, rfl⟩
      rw [← hX] at K2 hl5 hd5
      have K3 := Lib.hid (fun B n d W (hW : Below w.heap.size w W) (h : Sl8 W B n d X) => vntD_any B n d X W h hl5 (HT.out.kept hW))
      rw [hd5.1, hd5.2] at K3
      have K4 := Lib.hid (fun W (hW : Below w.heap.size w W) => vntD_any none 0 0 [] W (Sl8.none_ W) (by decide) (HT.out.kept hW))
      rw [x20b.1, x20b.2] at K4
      have K5 := Lib.hid (fun B d M W (h : SlD W A 4 c [y0, y1, y2, y3]) (h' : SlD W B (List.length M) d M) (hm : M.map (fun z => z.x) = Z) => r_vsame A B 4 c M.length d [y0, y1, y2, y3] M W h h' (by show _ = _; rw [hm, HL.out]) (by decide) (fun y hy => ⟨by have := (hok y hy).1.fl; omega, by have := (hok y hy).1.pl; omega⟩))
      have K6 := Lib.hid (fun W (h : SlD W A 4 c [y0, y1, y2, y3]) => vntF_any A (some ⟨W.heap.size, 0, none⟩) 4 c 1 1 [y0, y1, y2, y3] [(⟨#[65]⟩, ⟨#[50]⟩)] (W.alloc (.cells #[.string ⟨#[65]⟩, .string ⟨#[50]⟩] 62)) (h.alloc _) (SlF.one W 62 (⟨#[65]⟩, ⟨#[50]⟩) ⟨by decide, by decide⟩) (by decide) (fun y hy => (hok y hy).2) ⟨by decide, fun x hx => by simp only [List.mem_singleton] at hx; subst hx; exact ⟨by decide, by decide⟩⟩)
      have K7 := Lib.hid (fun W (h : SlD W A 4 c [y0, y1, y2, y3]) => vntF_any A none 4 c 0 0 [y0, y1, y2, y3] [] W h (SlF.none_ W) (by decide) (fun y hy => (hok y hy).2) ⟨by decide, fun x hx => by cases hx⟩)
      have hc6 := x20c
      have hc7 := x20d
      have hc8 := x20e
      rw [← hZ] at hc6 hc7 hc8
      rw [HL.out, hc6] at K6
      rw [HL.out, hc7] at K7
      have K8 := Lib.hid (fun W (h : SlD W A 4 c [y0, y1, y2, y3]) => vntP_any A 4 c [y0, y1, y2, y3] 1 y0 W h (h.all y0 (List.mem_cons_self ..)) (by decide) (fun y hy => ⟨by have := (hok y hy).1.pl; omega, by have := (hok y hy).1.fl; omega⟩) ⟨by have := (hok y0 (List.mem_cons_self ..)).1.pl; omega, by have := (hok y0 (List.mem_cons_self ..)).1.fl; omega⟩ (h.sz y0 (List.mem_cons_self ..)))
      rw [HL.out, e0, hc8] at K8
      unfold IsDe at K3 K4
      unfold IsSd at K8
      have hsd : sdA y0 = #[.int .i64 (sv20 4).s.c, .string (sv20 4).s.r, .int .i64 (sv20 4).s.v, .slice y0.fa (sv20 4).s.f.length y0.fc, .string (sv20 4).s.b, .int .i64 (sv20 4).s.t, .slice y0.pa (sv20 4).p.length y0.pc] := by unfold sdA stC; rw [e0]
      rw [hsd] at K8
      have HE0 := Lib.hid e0
      have HE3 := Lib.hid e3
      clear hok hl5 hd5 he5 hX hc6 hc7 hc8 hsd e0 e1 e2 e3 hZ
      obtain ⟨ad, rfl, _⟩ := HS.out.at_ (by simp)
      go_wp2_with fail
      refine K2.out.mono ?_
      rintro e w3 ⟨B, n3, d, rfl, hS3, hb3⟩
      have H3 := Lib.hid hS3
      have HS3 := Lib.hid (HS.out.below hb3)
      have H13 := Lib.hid (H1.out.below hb3)
      have HB3 := Lib.hid (below_then HBw.out hb3)
      clear hS3 hb3 K2 H1 HBw
      go_wp2_with fail
      refine (K3.out _ _ _ _ HB3.out H3.out).mono ?_
      rintro e w4 ⟨B4, d4, M, rfl, hS4, hM, hb4⟩
      have HM4 := Lib.hid hS4
      have HMM := Lib.hid hM
      have HS4 := Lib.hid (HS3.out.below hb4)
      have H14 := Lib.hid (H13.out.below hb4)
      have HB4 := Lib.hid (below_then HB3.out hb4)
      clear hS4 hM hb4 K3 HS3 H13 HB3
      obtain ⟨qm, hqm⟩ : ∃ q, q = M.length := ⟨_, rfl⟩
      have HQM := Lib.hid hqm
      rw [← hqm]
      have K5 := Lib.hid (fun W h h' => K5.out B4 d4 M W h h' HMM.out)
      rw [← hqm] at K5 HM4
      clear hqm
      go_wp2_with fail
      refine (K4.out _ HB4.out).mono ?_
      rintro e w5 ⟨B5, d5, M5, rfl, _, _, hb5⟩
      obtain ⟨q5, hq5⟩ : ∃ q, q = M5.length := ⟨_, rfl⟩
      rw [← hq5]
      clear hq5
      have HM5 := Lib.hid (HM4.out.below hb5)
      have HS5 := Lib.hid (HS4.out.below hb5)
      have H15 := Lib.hid (H14.out.below hb5)
      have HB5 := Lib.hid (below_then HB4.out hb5)
      clear hb5 K4 HS4 H14 HB4 HM4
      have facts := fun (W : World) (h : SlD W (some ad) 4 c [y0, y1, y2, y3]) (hb : Sl8 W (some a0) 1 c0 [0]) => show W.cell? a0 = some (.int .u8 0) ∧ W.cell? { block := ad.block, off := ad.off + 5 } = some (.int .i64 4) ∧ W.cell? { block := ad.block, off := ad.off + 21 + 5 } = some (.int .i64 1) from by
        obtain ⟨g0, _, g3⟩ := cells20 h
        obtain ⟨a1, q, hq⟩ := hb.at_ (by decide)
        cases q
        have h0 := hq 0 0 rfl
        rw [Addr.add_zero'] at h0
        refine ⟨h0, ?_, ?_⟩
        · rw [g0.2.2.2.2.2.1, HE0.out]; rfl
        · have g5 := g3.2.2.2.2.2.1
          rw [show ad.add 21 = { block := ad.block, off := ad.off + 21 } from Addr.add_succ' ad 20] at g5
          exact g5.trans (by rw [HE3.out]; rfl)
      have HFA := Lib.hid facts
      obtain ⟨f0, f1, f2⟩ := facts w5 HS5.out H15.out
      clear facts
      go_wp2_with fail
      refine (K5.out w5 HS5.out HM5.out).mono ?_
      rintro e w6 ⟨rfl, hb6⟩
      clear f0 f1 f2
      have HS6 := Lib.hid (HS5.out.below hb6)
      have H16 := Lib.hid (H15.out.below hb6)
      have HB6 := Lib.hid (below_then HB5.out hb6)
      clear hb6 K5 HS5 H15 HB5 HM5
      go_wp2_with fail
      refine (K6.out w6 HS6.out).mono ?_
      rintro e w7 ⟨rfl, hb7⟩
      have HS7 := Lib.hid (HS6.out.below (zero_then hb7))
      have HB7 := Lib.hid (below_then HB6.out (zero_then hb7))
      clear hb7 K6 HS6 HB6
      go_wp2_with fail
      refine (K7.out w7 HS7.out).mono ?_
      rintro e w8 ⟨rfl, hb8⟩
      have HS8 := Lib.hid (HS7.out.below hb8)
      have HB8 := Lib.hid (below_then HB7.out hb8)
      clear hb8 K7 HS7 HB7
      have hd := (cells20 HS8.out).1
      unfold ElD at hd
      rw [HE0.out] at hd
      obtain ⟨d0, d1, d2, d3, d4, d5, d6⟩ := hd
      go_wp2_with fail
      refine (K8.out w8 HS8.out).mono ?_
      rintro e w9 ⟨A9, c9, M9, rfl, hS9, hM9, hb9⟩
      obtain ⟨z0, z1, z2, z3, rfl, _, e1, _, _⟩ := sdFour hM9
      obtain ⟨a9, rfl, _⟩ := hS9.at_ (by simp)
      have g8 := (cells20 hS9).2.1.2.2.2.2.2.1
      rw [show a9.add 7 = { block := a9.block, off := a9.off + 7 } from Addr.add_succ' a9 6] at g8
      have g9 : w9.cell? { block := a9.block, off := a9.off + 7 + 5 } = some (.int .i64 4) := g8.trans (by rw [e1]; rfl)
      have HB9 := Lib.hid (below_then HB8.out hb9)
      clear hS9 hM9 hb9 e1 K8 g8
      go_wp2_with fail
      go_ret
      exact ⟨rfl, HB9.out⟩

end Go.Proofs.YthhlcecojeaalaaDoor
end
