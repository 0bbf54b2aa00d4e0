/-
  Texts that the laws of this seat lean on, one behind the other.
-/
import Derived.Test.YtnembpklidcgoaaGreatDoorMrhAA
import Derived.Test.YtnembpklidcgoaaGreatDoorMrhAC
import Derived.Test.YtnembpklidcgoaaGreatDoorMrhAQ
import Derived.Test.YtnembpklidcgoaaGreatDoorMrhAS
import Derived.Test.YtnembpklidcgoaaGreatDoorMrhAU
import Derived.Test.YtnembpklidcgoaaGreatDoorMrhAF
import Derived.Test.YtnembpklidcgoaaGreatDoorMrhAE
import Derived.Shelf.Abstract
set_option linter.unusedSimpArgs false
set_option linter.unusedVariables false
/-
  Package reuse: the tables that it leans on; contracts of given, hold, Tag, Validator, Passes.
-/
section
namespace Go.Proofs.YtnembpklidcgoaaGreatDoor
open Go.RowKit
set_option linter.unusedSimpArgs false

structure ReuTabs (w : World) : Prop where
  lif : LifTabs w
  saf : w.var? Tryz.prog "depot/line.safe" = some safVs.toArray
theorem ReuTabs.kept {w w' : World} (h : ReuTabs w) (hb : Below w.heap.size w w') : ReuTabs w' := ⟨h.lif.kept hb, var_below h.saf hb⟩

/-- A condition at hand: a function that answers b, whatever was made since; nothing that was there changes. -/
def Cnd (w : World) (v : Value) (b : Bool) : Prop :=
  ∃ (g : Nat) (caps : Array Value), v = .func (.func g) #[] caps ∧ (∀ args W, (callFunc g args).run Tryz.prog W = .ok (.enter g args) W) ∧
    ∀ W, Below w.heap.size w W → Calls Tryz.prog g caps W fun e w' => e = .returned (.bool b) ∧ Below w.heap.size w w'

set_option maxHeartbeats 2000000 in
set_option maxRecDepth 100000 in
theorem hold_any (g n : Nat) (bs : List Bool) (w : World) (hl : bs.length = n) (hn : n ≤ 100) (h : ∀ k (hk : k < bs.length), ∃ v, w.cell? ⟨g, k, none⟩ = some v ∧ Cnd w v bs[k]) :
    Calls Tryz.prog 32 #[.slice (some ⟨g, 0, none⟩) n n] w fun e w' => e = .returned (.bool (bs.all id)) ∧ Below w.heap.size w w' := by
  have HN := Lib.hid hl
  have HC := Lib.hid h
  obtain ⟨R, hR⟩ : ∃ R, R = bs.all id := ⟨_, rfl⟩
  rw [← hR]
  have HR := Lib.hid hR
  clear h hl hR
  go_enter Tryz.func32, Tryz.ntmps32
  go_wp2_with fail
  go_loopw [7] (fun i wr => ∃ k : Nat, k ≤ n ∧ i = .int .i64 k ∧ Hid ((bs.take k).all id = true) ∧ Below w.heap.size w wr) (fun i _ => n - (intOf i).toNat)
  case atStart => exact ⟨0, Nat.zero_le _, rfl, rfl, Below.refl _ _⟩
  case round =>
    obtain ⟨k, hk, rfl, hf, hbel⟩ := hrel
    by_cases hlt : k < n
    · have hkb : k < bs.length := by rw [HN.out]; exact hlt
      obtain ⟨v, hc, gf, caps, rfl, eg, hcall⟩ := HC.out k hkb
      have hcell := cell_kept hbel hc
      have HCC := Lib.hid (hcall wr hbel)
      have HS : Hid ((bs.take (k + 1)).all id = bs[k]) := by
        show _ = _
        rw [List.take_succ_eq_append_getElem hkb, List.all_append, hf.out]; simp
      have HF : Hid (bs[k] = false → R = false) := fun e => by
        rw [HR.out, List.all_eq_false]
        exact ⟨bs[k], List.getElem_mem hkb, by rw [e]; simp⟩
      generalize bs[k] = bk at *
      clear hc hcall hf
      cases bk with
      | true =>
        go_wp2_with fail
        refine HCC.out.mono ?_
        rintro e w1 ⟨rfl, hb1⟩
        go_wp2_with fail
        go_roundw
        case rel => exact ⟨k + 1, by omega, by go_num, HS.out, hb1⟩
        case measure => simp [intOf]; omega
      | false =>
        have HR0 := Lib.hid (HF.out rfl)
        go_wp2_with fail
        refine HCC.out.mono ?_
        rintro e w1 ⟨rfl, hb1⟩
        go_wp2_with fail
        go_ret
        exact ⟨by rw [HR0.out]; rfl, hb1⟩
    · have HE : Hid (R = true) := by
        show _ = _
        have := hf.out
        rw [List.take_of_length_le (by have := HN.out; omega)] at this
        rw [HR.out, this]
      clear hf
      go_wp2_with fail
      go_ret
      exact ⟨by rw [HE.out]; rfl, hbel⟩

set_option maxHeartbeats 2000000 in
set_option maxRecDepth 100000 in
theorem given_any (A : Option Addr) (c : Nat) (L : List Fd) (g n : Nat) (ns : List (List UInt8)) (w : World) (h : SlF w A L.length c L) (hL : FwL L)
    (h' : SlS w (some ⟨g, 0, none⟩) n n ns) (hn : n ≤ 100) (hz : ∀ x ∈ ns, x.length ≤ 1000) :
    Calls Tryz.prog 37 #[.slice A L.length c, .slice (some ⟨g, 0, none⟩) n n] w fun e w' => e = .returned (.bool (ns.any fun x => fdGot L (mkS x))) ∧ Below w.heap.size w w' := by
  have HL := Lib.hid h'.len
  have HC := Lib.hid (fun j x hx => h'.cells j x hx)
  have C1 := Lib.hid (fun W (hW : Below w.heap.size w W) (name : ByteArray) (hz : name.size ≤ maxLen) => all_any A L.length c L name W (h.below hW) (by have := hL.n; omega) (fwl_bd hL) hz)
  obtain ⟨R, hR⟩ : ∃ R, R = ns.any fun x => fdGot L (mkS x) := ⟨_, rfl⟩
  rw [← hR]
  have HR := Lib.hid hR
  have HZ := Lib.hid hz
  obtain ⟨ln, hln⟩ : ∃ ln, ln = L.length := ⟨_, rfl⟩
  rw [← hln] at C1 ⊢
  clear h' h hR hz hln hL
  go_enter Tryz.func37, Tryz.ntmps37
  go_wp2_with fail
  go_loopw [9] (fun i wr => ∃ k : Nat, k ≤ n ∧ i = .int .i64 k ∧ Hid ((ns.take k).any (fun x => fdGot L (mkS x)) = false) ∧ Below w.heap.size w wr) (fun i _ => n - (intOf i).toNat)
  case atStart => exact ⟨0, Nat.zero_le _, rfl, rfl, Below.refl _ _⟩
  case round =>
    obtain ⟨k, hk, rfl, hf, hbel⟩ := hrel
    by_cases hlt : k < n
    · have hkb : k < ns.length := by rw [HL.out]; exact hlt
      have hcell := cell_kept hbel (HC.out k ns[k] (List.getElem?_eq_getElem hkb))
      rw [addr_add] at hcell
      have hxz := HZ.out _ (List.getElem_mem hkb)
      have HCC := Lib.hid (C1.out wr hbel (mkS ns[k]) (by rw [mkS_size]; unfold maxLen; omega))
      have HS : Hid ((ns.take (k + 1)).any (fun x => fdGot L (mkS x)) = fdGot L (mkS ns[k])) := by
        show _ = _
        rw [List.take_succ_eq_append_getElem hkb, List.any_append, hf.out]; simp
      have HF : Hid (fdGot L (mkS ns[k]) = true → R = true) := fun e => by
        rw [HR.out, List.any_eq_true]
        exact ⟨ns[k], List.getElem_mem hkb, e⟩
      generalize ns[k] = x at *
      rw [got_len] at HS HF
      generalize fdAll L (mkS x) = X at *
      generalize mkS x = xs at *
      unfold Vals at HCC
      clear hf
      by_cases h0 : (0 : Int) < (X.length : Int)
      · have HR0 := Lib.hid (HF.out (decide_eq_true h0))
        go_wp2_with fail
        refine HCC.out.mono ?_
        rintro e w1 ⟨A1, c1, rfl, _, _, hb1⟩
        go_wp2_with fail
        go_ret
        exact ⟨by rw [HR0.out]; rfl, below_then hbel hb1⟩
      · rw [decide_eq_false h0] at HS
        go_wp2_with fail
        refine HCC.out.mono ?_
        rintro e w1 ⟨A1, c1, rfl, _, _, hb1⟩
        go_wp2_with fail
        go_roundw
        case rel => exact ⟨k + 1, by omega, by go_num, HS.out, below_then hbel hb1⟩
        case measure => simp [intOf]; omega
    · have HE : Hid (R = false) := by
        show _ = _
        have := hf.out
        rw [List.take_of_length_le (by have := HL.out; omega)] at this
        rw [HR.out, this]
      clear hf
      go_wp2_with fail
      go_ret
      exact ⟨by rw [HE.out]; rfl, hbel⟩

set_option maxHeartbeats 4000000 in
set_option maxRecDepth 100000 in
theorem reuG_any (r : Rply) (A : Option Addr) (c : Nat) (w : World) (h : SlF w A r.f.length c r.f) (hL : FwL r.f) :
    Calls Tryz.prog 10 #[.agg (rpC r A c)] w fun e w' => e = .returned (.tuple #[tgV (rtO r.f), .bool (rtB r.f)]) ∧ Below w.heap.size w w' := by
  obtain ⟨pc, pr, pv, f, pb⟩ := r
  unfold rpC
  simp only at *
  have C1 := Lib.hid (fun W (hW : Below w.heap.size w W) => all_any A f.length c f etS W (h.below hW) (by have := hL.n; omega) (fwl_bd hL) reu_le.1)
  have hvz := (fwl_all hL etS).2
  have hV : rtO f = if (fdAll f etS).length = 1 then tgO (mkS ((fdAll f etS).headD [])) else (false, ⟨#[]⟩) := rfl
  have hB : rtB f = if (fdAll f etS).length = 1 then tgB (mkS ((fdAll f etS).headD [])) else false := rfl
  generalize rtO f = V at *
  generalize rtB f = bb at *
  generalize fdAll f etS = X at *
  unfold Vals etS at C1
  have HB : Hid (Below w.heap.size w ((w.alloc (.cells #[.int .i64 pc, .string pr, .int .i64 pv, .slice A f.length c, .string pb] 26)).alloc (.cells #[.bool false, .string ⟨#[]⟩] 31))) := ((Below.refl _ _).alloc (Nat.le_refl _) _).alloc (by simp) _
  have ZP : Hid (((w.alloc (.cells #[.int .i64 pc, .string pr, .int .i64 pv, .slice A f.length c, .string pb] 26)).alloc (.cells #[.bool false, .string ⟨#[]⟩] 31)).heap[w.heap.size]? = some (.cells #[.int .i64 pc, .string pr, .int .i64 pv, .slice A f.length c, .string pb] 26 (0, 0))) := zero_more (heap_alloc_new w _)
  have zt := heap_alloc_new (w.alloc (.cells #[.int .i64 pc, .string pr, .int .i64 pv, .slice A f.length c, .string pb] 26)) (.cells #[.bool false, .string ⟨#[]⟩] 31)
  rw [show (w.alloc (.cells #[.int .i64 pc, .string pr, .int .i64 pv, .slice A f.length c, .string pb] 26)).heap.size = w.heap.size + 1 by simp] at zt
  have ZT := Lib.hid zt
  obtain ⟨q0, q1, q2, q3, q4⟩ := cel5r ZP.out
  clear h zt
  by_cases h1 : X.length = 1
  · rw [if_pos h1] at hV hB
    obtain ⟨x, rfl⟩ : ∃ x, X = [x] := by
      match X, h1 with
      | [x], _ => exact ⟨x, rfl⟩
    replace hV : V = tgO (mkS x) := hV
    replace hB : bb = tgB (mkS x) := hB
    have hxz := hvz x (List.mem_singleton.2 rfl)
    have CP := Lib.hid (fun W => etP_any (mkS x) W (by rw [mkS_size]; omega))
    rw [← hV, ← hB] at CP
    obtain ⟨xs, hxs⟩ : ∃ xs, xs = mkS x := ⟨_, rfl⟩
    rw [← hxs] at CP
    have HX := Lib.hid hxs
    obtain ⟨va, vb⟩ := V
    unfold tgV at *
    clear hV hB hvz hxs hxz
    simp only [List.length_singleton] at C1
    go_enter Tryz.func10, Tryz.ntmps10
    go_wp2_with fail
    refine (C1.out _ HB.out).mono ?_
    rintro e w1 ⟨A1, c1, rfl, hS, _, hb⟩
    obtain ⟨ad, rfl, hc⟩ := hS.at_ (by omega)
    have hcell := hc 0 x rfl
    rw [Addr.add_zero', ← HX.out] at hcell
    have ZT := Lib.hid (zero_still hb ZT.out)
    have HB := Lib.hid (below_then HB.out hb)
    clear hS hc hb C1 q0 q1 q2 q3 q4
    go_wp2_with fail
    refine (CP.out _).mono ?_
    rintro e w2 ⟨rfl, hb⟩
    have ZT := Lib.hid (zero_still hb ZT.out)
    have HB := Lib.hid (below_then HB.out hb)
    clear hb
    go_wp2_with (refine wpList_store_row rfl _ _ _ rfl (w.heap.size + 1) #[.bool va, .string vb] rfl rfl 31 _ ZT.out (by kernel_rfl) rfl (by simp [Value.oneCell']) ?_)
    refine bodyPost_ret (results_cell_row_tmp rfl _ _ (w.heap.size + 1) 31 #[.bool va, .string vb] (0, 0) _ rfl (setRow_heap _ _ _ _ _ _ ZT.out) Tryz.underlying31 rfl (by kernel_rfl)) rfl ?_
    exact ⟨rfl, below_setRow HB.out (by omega) _⟩
  · rw [if_neg h1] at hV hB
    subst hV hB
    have h1' : ¬ (X.length : Int) = 1 := by omega
    generalize X.length = n at *
    unfold tgV
    clear h1 hvz
    go_enter Tryz.func10, Tryz.ntmps10
    go_wp2_with fail
    refine (C1.out _ HB.out).mono ?_
    rintro e w1 ⟨A1, c1, rfl, _, _, hb⟩
    have ZT := Lib.hid (zero_still hb ZT.out)
    have HB := Lib.hid (below_then HB.out hb)
    clear hb q0 q1 q2 q3 q4
    go_wp2_with (refine wpList_store_row rfl _ _ _ rfl (w.heap.size + 1) #[.bool false, .string ⟨#[]⟩] rfl rfl 31 _ ZT.out (by kernel_rfl) rfl (by simp [Value.oneCell']) ?_)
    refine bodyPost_ret (results_cell_row_tmp rfl _ _ (w.heap.size + 1) 31 #[.bool false, .string ⟨#[]⟩] (0, 0) _ rfl (setRow_heap _ _ _ _ _ _ ZT.out) Tryz.underlying31 rfl (by kernel_rfl)) rfl ?_
    exact ⟨rfl, below_setRow HB.out (by omega) _⟩

set_option maxHeartbeats 4000000 in
set_option maxRecDepth 100000 in
theorem reuV_any (r : Rply) (A : Option Addr) (c : Nat) (w : World) (h : SlF w A r.f.length c r.f) (hL : FwL r.f) (HT : ReuTabs w) :
    Calls Tryz.prog 16 #[.agg (rpC r A c)] w fun e w' => e = .returned (.bool (valB r.f)) ∧ Below w.heap.size w w' := by
  have C1 := Lib.hid (fun W (hW : Below w.heap.size w W) => reuG_any r A c W (h.below hW) hL)
  have C2 := Lib.hid (fun W (hW : Below w.heap.size w W) => lifW_any A c r.f lmS W (h.below hW) hL (by decide) (HT.kept hW).lif)
  have hD : valB r.f = (rtB r.f || whnB r.f lmS) := rfl
  rw [hD]
  obtain ⟨pc, pr, pv, f, pb⟩ := r
  unfold rpC at *
  simp only at *
  generalize rtB f = b1 at *
  generalize whnB f lmS = b2 at *
  generalize rtO f = t1 at *
  generalize whnV f lmS = t2 at *
  obtain ⟨ta, tb⟩ := t1
  unfold tgV at C1
  unfold lmS at C2
  have HB : Hid (Below w.heap.size w (w.alloc (.cells #[.int .i64 pc, .string pr, .int .i64 pv, .slice A f.length c, .string pb] 26))) := (Below.refl _ _).alloc (Nat.le_refl _) _
  have ZP : Hid ((w.alloc (.cells #[.int .i64 pc, .string pr, .int .i64 pv, .slice A f.length c, .string pb] 26)).heap[w.heap.size]? = some (.cells #[.int .i64 pc, .string pr, .int .i64 pv, .slice A f.length c, .string pb] 26 (0, 0))) := heap_alloc_new w _
  obtain ⟨q0, q1, q2, q3, q4⟩ := cel5r ZP.out
  clear h hL hD HT
  go_enter Tryz.func16, Tryz.ntmps16
  go_wp2_with fail
  refine (C1.out _ HB.out).mono ?_
  rintro e w1 ⟨rfl, hb⟩
  have ZP := Lib.hid (zero_more (o' := .cells #[.bool ta, .string tb] 31) (zero_still hb ZP.out))
  have hbb := below_then HB.out hb
  have HB := Lib.hid (hbb.alloc hbb.size (.cells #[.bool ta, .string tb] 31))
  clear hb hbb q0 q1 q2 q3 q4
  obtain ⟨q0, q1, q2, q3, q4⟩ := cel5r ZP.out
  go_wp2_with fail
  refine (C2.out _ HB.out).mono ?_
  rintro e w2 ⟨rfl, hb⟩
  have HB := Lib.hid (below_then HB.out hb)
  clear hb q0 q1 q2 q3 q4
  cases b1
  all_goals
    go_wp2_with fail
    go_ret
    exact ⟨rfl, HB.out⟩

set_option maxHeartbeats 4000000 in
set_option maxRecDepth 100000 in
theorem reuI_any (r : Rqst) (A : Option Addr) (c : Nat) (p : Rply) (B : Option Addr) (d : Nat) (w : World) (HT : ReuTabs w) :
    Calls Tryz.prog 18 #[.agg (rqC r A c), .agg (rpC p B d)] w fun e w' => e = .returned (.bool (invB r.m p.c)) ∧ Below w.heap.size w w' := by
  obtain ⟨m, t, v, f, b⟩ := r
  obtain ⟨pc, pr, pv, g, pb⟩ := p
  unfold rqC rpC
  simp only at *
  have C1 := Lib.hid (fun W (hW : Below w.heap.size w W) => safe1_any m W (HT.kept hW).saf)
  have hD : invB m pc = (!safeB m && (decide (200 ≤ pc) && decide (pc ≤ 399))) := rfl
  rw [hD]
  generalize safeB m = s at *
  have HB : Hid (Below w.heap.size w ((w.alloc (.cells #[.string m, .string t, .int .i64 v, .slice A f.length c, .string b] 24)).alloc (.cells #[.int .i64 pc, .string pr, .int .i64 pv, .slice B g.length d, .string pb] 26))) := ((Below.refl _ _).alloc (Nat.le_refl _) _).alloc (by simp) _
  have ZQ : Hid (((w.alloc (.cells #[.string m, .string t, .int .i64 v, .slice A f.length c, .string b] 24)).alloc (.cells #[.int .i64 pc, .string pr, .int .i64 pv, .slice B g.length d, .string pb] 26)).heap[w.heap.size]? = some (.cells #[.string m, .string t, .int .i64 v, .slice A f.length c, .string b] 24 (0, 0))) := zero_more (heap_alloc_new w _)
  have zt := heap_alloc_new (w.alloc (.cells #[.string m, .string t, .int .i64 v, .slice A f.length c, .string b] 24)) (.cells #[.int .i64 pc, .string pr, .int .i64 pv, .slice B g.length d, .string pb] 26)
  rw [show (w.alloc (.cells #[.string m, .string t, .int .i64 v, .slice A f.length c, .string b] 24)).heap.size = w.heap.size + 1 by simp] at zt
  obtain ⟨q0, q1, q2, q3, q4⟩ := cel5r ZQ.out
  have ZP := Lib.hid zt
  obtain ⟨p0, p1, p2, p3, p4⟩ := cel5r ZP.out
  clear zt hD HT
  cases s with
  | true =>
    go_enter Tryz.func18, Tryz.ntmps18
    go_wp2_with fail
    refine (C1.out _ HB.out).mono ?_
    rintro e w1 ⟨rfl, hb⟩
    have ZP := Lib.hid (zero_still hb ZP.out)
    have HB := Lib.hid (below_then HB.out hb)
    clear hb q0 q1 q2 q3 q4 p0 p1 p2 p3 p4
    obtain ⟨p0, p1, p2, p3, p4⟩ := cel5r ZP.out
    go_wp2_with fail
    go_ret
    exact ⟨rfl, HB.out⟩
  | false =>
    by_cases h1 : (200 : Int) ≤ pc
    · rw [decide_eq_true h1]
      go_enter Tryz.func18, Tryz.ntmps18
      go_wp2_with fail
      refine (C1.out _ HB.out).mono ?_
      rintro e w1 ⟨rfl, hb⟩
      have ZP := Lib.hid (zero_still hb ZP.out)
      have HB := Lib.hid (below_then HB.out hb)
      clear hb q0 q1 q2 q3 q4 p0 p1 p2 p3 p4
      obtain ⟨p0, p1, p2, p3, p4⟩ := cel5r ZP.out
      go_wp2_with fail
      go_ret
      exact ⟨rfl, HB.out⟩
    · rw [decide_eq_false h1]
      go_enter Tryz.func18, Tryz.ntmps18
      go_wp2_with fail
      refine (C1.out _ HB.out).mono ?_
      rintro e w1 ⟨rfl, hb⟩
      have ZP := Lib.hid (zero_still hb ZP.out)
      have HB := Lib.hid (below_then HB.out hb)
      clear hb q0 q1 q2 q3 q4 p0 p1 p2 p3 p4
      obtain ⟨p0, p1, p2, p3, p4⟩ := cel5r ZP.out
      go_wp2_with fail
      go_ret
      exact ⟨rfl, HB.out⟩

end Go.Proofs.YtnembpklidcgoaaGreatDoor
end

/-
  Package reuse: contract of Passes.
-/
section
namespace Go.Proofs.YtnembpklidcgoaaGreatDoor
open Go.RowKit
set_option linter.unusedSimpArgs false

def pasL : List (List UInt8) := [rgS.data.toList, irS.data.toList, imS.data.toList, iuS.data.toList]
theorem pas_z : ∀ x ∈ pasL, x.length ≤ 1000 := by decide +kernel
theorem pas_any (L : List Fd) : pasB L = pasL.any fun x => fdGot L (mkS x) := by
  unfold pasL
  simp only [List.any_cons, List.any_nil, mkS_self, Bool.or_false]
  rfl

set_option maxHeartbeats 2000000 in
set_option maxRecDepth 100000 in
theorem reuP_any (r : Rqst) (A : Option Addr) (c : Nat) (w : World) (h : SlF w A r.f.length c r.f) (hQ : FwL r.f) :
    Calls Tryz.prog 14 #[.agg (rqC r A c)] w fun e w' => e = .returned (.bool (pasB r.f)) ∧ Below w.heap.size w w' := by
  have C1 := Lib.hid (fun W g (hW : Below w.heap.size w W) (h' : SlS W (some ⟨g, 0, none⟩) 4 4 pasL) => given_any A c r.f g 4 pasL W (h.below hW) hQ h' (by decide) pas_z)
  rw [pas_any r.f]
  generalize (pasL.any fun x => fdGot r.f (mkS x)) = R at *
  obtain ⟨m, t, v, f, b⟩ := r
  unfold rqC at *
  simp only at *
  have HB : Hid (Below w.heap.size w (w.alloc (.cells #[.string m, .string t, .int .i64 v, .slice A f.length c, .string b] 24))) := (Below.refl _ _).alloc (Nat.le_refl _) _
  have ZQ : Hid ((w.alloc (.cells #[.string m, .string t, .int .i64 v, .slice A f.length c, .string b] 24)).heap[w.heap.size]? = some (.cells #[.string m, .string t, .int .i64 v, .slice A f.length c, .string b] 24 (0, 0))) := heap_alloc_new w _
  obtain ⟨W1, hW1⟩ : ∃ W, W = w.alloc (.cells #[.string m, .string t, .int .i64 v, .slice A f.length c, .string b] 24) := ⟨_, rfl⟩
  obtain ⟨q0, q1, q2, q3, q4⟩ := cel5r ZQ.out
  have hs : SlS ((w.alloc (.cells #[.string m, .string t, .int .i64 v, .slice A f.length c, .string b] 24)).alloc (.cells #[.string rgS, .string irS, .string imS, .string iuS] 9)) (some ⟨w.heap.size + 1, 0, none⟩) 4 4 pasL := by
    have h1 := SlS.texts (w.alloc (.cells #[.string m, .string t, .int .i64 v, .slice A f.length c, .string b] 24)) 9 [rgS, irS, imS, iuS] (by decide)
    rw [show (w.alloc (.cells #[.string m, .string t, .int .i64 v, .slice A f.length c, .string b] 24)).heap.size = w.heap.size + 1 by simp] at h1
    exact h1
  have HS := Lib.hid hs
  have HB2 := Lib.hid (HB.out.alloc HB.out.size (.cells #[.string rgS, .string irS, .string imS, .string iuS] 9))
  clear hs
  unfold rgS irS imS iuS at HS HB2
  clear h hW1
  go_enter Tryz.func14, Tryz.ntmps14
  go_wp2_with fail
  refine (C1.out _ _ HB2.out HS.out).mono ?_
  rintro e w1 ⟨rfl, hb⟩
  go_wp2_with fail
  go_ret
  exact ⟨rfl, below_then HB2.out hb⟩

end Go.Proofs.YtnembpklidcgoaaGreatDoor
end
