/-
  Texts that the laws of this seat lean on, one behind the other.
-/
import Derived.Test.YtjkfdjolhmgemaaGreatDoorMrgAB
import Derived.Deep.RegionHeld3
import Derived.Test.YtjkfdjolhmgemaaGreatDoorMrgY
import Derived.Test.YtjkfdjolhmgemaaGreatDoorMrgW
import Derived.Test.YtjkfdjolhmgemaaGreatDoorMrgS
import Derived.Test.YtjkfdjolhmgemaaGreatDoorMrgK
import Derived.Deep.DeepCutAuto
import Derived.Test.YtjkfdjolhmgemaaGreatDoorMrgZ
import Derived.Test.YtjkfdjolhmgemaaGreatDoorMrgF
import Derived.Test.YtjkfdjolhmgemaaGreatDoorMrgE
import Derived.Deep.AppendLies
import Derived.Test.YtjkfdjolhmgemaaGreatDoorMrgM
import Derived.Test.YtjkfdjolhmgemaaGreatDoorMrgQ
set_option linter.unusedSimpArgs false
set_option linter.unusedVariables false
/-
  Contracts of the reference's Parse, Asked (layer 13).
-/
section
namespace Go.Proofs.YtjkfdjolhmgemaaGreatDoor
open Go.RowKit

end Go.Proofs.YtjkfdjolhmgemaaGreatDoor
end

/-
  Contracts of the reference's Date, Told, Lifetime, Age, Fresh, Left (layer 17).
-/
section
namespace Go.Proofs.YtjkfdjolhmgemaaGreatDoor
open Go.RowKit

theorem cel7 {W : World} {g t : Nat} {c0 c1 c2 c3 c4 c5 c6 : Value} (h : W.heap[g]? = some (.cells #[c0, c1, c2, c3, c4, c5, c6] t (0, 0))) :
    W.cell? ⟨g, 0, none⟩ = some c0 ∧ W.cell? ⟨g, 1, none⟩ = some c1 ∧ W.cell? ⟨g, 2, none⟩ = some c2 ∧ W.cell? ⟨g, 3, none⟩ = some c3 ∧ W.cell? ⟨g, 4, none⟩ = some c4 ∧ W.cell? ⟨g, 5, none⟩ = some c5 ∧ W.cell? ⟨g, 6, none⟩ = some c6 := by
  refine ⟨?_, ?_, ?_, ?_, ?_, ?_, ?_⟩ <;> (rw [cell_of_row W g _ _ _ _ h]; rfl)
theorem lmS_le : lmS.size ≤ maxLen := by decide
/-- What the functions of layer 17 answer, at any world above. -/
structure LifC (w : World) (s : Stor) (A : Option Addr) (c : Nat) (B : Option Addr) (n d : Nat) : Prop where
  f : SlF w A s.f.length c s.f
  l : FwL s.f

end Go.Proofs.YtjkfdjolhmgemaaGreatDoor
end

/-
  Contracts of the reference's has, Tag, Validator, Passes, Invalidates (layer 18).
-/
section
namespace Go.Proofs.YtjkfdjolhmgemaaGreatDoor
open Go.RowKit
set_option linter.unusedSimpArgs false

theorem reu_le : etS.size ≤ maxLen ∧ rgS.size ≤ maxLen ∧ irS.size ≤ maxLen ∧ imS.size ≤ maxLen ∧ iuS.size ≤ maxLen ∧ auS.size ≤ maxLen := by decide
theorem cel5r {W : World} {g t : Nat} {c0 c1 c2 c3 c4 : Value} (h : W.heap[g]? = some (.cells #[c0, c1, c2, c3, c4] t (0, 0))) :
    W.cell? ⟨g, 0, none⟩ = some c0 ∧ W.cell? ⟨g, 1, none⟩ = some c1 ∧ W.cell? ⟨g, 2, none⟩ = some c2 ∧ W.cell? ⟨g, 3, none⟩ = some c3 ∧ W.cell? ⟨g, 4, none⟩ = some c4 := by
  refine ⟨?_, ?_, ?_, ?_, ?_⟩ <;> (rw [cell_of_row W g _ _ _ _ h]; rfl)

set_option maxHeartbeats 4000000 in
set_option maxRecDepth 100000 in
theorem r_rtag (r : Rply) (A : Option Addr) (c : Nat) (w : World) (h : SlF w A r.f.length c r.f) (hL : FwL r.f) :
    Calls Tryz.prog 34 #[.agg (rpC r A c)] w fun e w' => e = .returned (.tuple #[tgV (rtO r.f), .bool (rtB r.f)]) ∧ Below w.heap.size w w' := by
  obtain ⟨pc, pr, pv, f, pb⟩ := r
  unfold rpC
  simp only at *
  have C1 := Lib.hid (fun W (hW : Below w.heap.size w W) => rf_all A f.length c f etS W (h.below hW) (by have := hL.n; omega) reu_le.1)
  have hvz := (fwl_all hL etS).2
  have hV : rtO f = if (fdAll f etS).length = 1 then tgO (mkS ((fdAll f etS).headD [])) else (false, ⟨#[]⟩) := rfl
  have hB : rtB f = if (fdAll f etS).length = 1 then tgB (mkS ((fdAll f etS).headD [])) else false := rfl
  generalize rtO f = V at *
  generalize rtB f = bb at *
  generalize fdAll f etS = X at *
  unfold Vals etS at C1
  have HB : Hid (Below w.heap.size w ((w.alloc (.cells #[.int .i64 pc, .string pr, .int .i64 pv, .slice A f.length c, .string pb] 26)).alloc (.cells #[.bool false, .string ⟨#[]⟩] 49))) := ((Below.refl _ _).alloc (Nat.le_refl _) _).alloc (by simp) _
  have ZP : Hid (((w.alloc (.cells #[.int .i64 pc, .string pr, .int .i64 pv, .slice A f.length c, .string pb] 26)).alloc (.cells #[.bool false, .string ⟨#[]⟩] 49)).heap[w.heap.size]? = some (.cells #[.int .i64 pc, .string pr, .int .i64 pv, .slice A f.length c, .string pb] 26 (0, 0))) := zero_more (heap_alloc_new w _)
  have zt := heap_alloc_new (w.alloc (.cells #[.int .i64 pc, .string pr, .int .i64 pv, .slice A f.length c, .string pb] 26)) (.cells #[.bool false, .string ⟨#[]⟩] 49)
  rw [show (w.alloc (.cells #[.int .i64 pc, .string pr, .int .i64 pv, .slice A f.length c, .string pb] 26)).heap.size = w.heap.size + 1 by simp] at zt
  have ZT := Lib.hid zt
  obtain ⟨q0, q1, q2, q3, q4⟩ := cel5r ZP.out
  clear h zt
  by_cases h1 : X.length = 1
  · rw [if_pos h1] at hV hB
    obtain ⟨x, rfl⟩ : ∃ x, X = [x] := by
      match X, h1 with
      | [x], _ => exact ⟨x, rfl⟩
    replace hV : V = tgO (mkS x) := hV
    replace hB : bb = tgB (mkS x) := hB
    have hxz := hvz x (List.mem_singleton.2 rfl)
    have CP := Lib.hid (fun W => r_etParse (mkS x) W (by rw [mkS_size]; omega))
    rw [← hV, ← hB] at CP
    obtain ⟨xs, hxs⟩ : ∃ xs, xs = mkS x := ⟨_, rfl⟩
    rw [← hxs] at CP
    have HX := Lib.hid hxs
    obtain ⟨va, vb⟩ := V
    unfold tgV at *
    clear hV hB hvz hxs hxz
    simp only [List.length_singleton] at C1
    go_enter Tryz.func34, Tryz.ntmps34
    go_wp2_with fail
    refine (C1.out _ HB.out).mono ?_
    rintro e w1 ⟨A1, c1, rfl, hS, _, hb⟩
    obtain ⟨ad, rfl, hc⟩ := hS.at_ (by omega)
    have hcell := hc 0 x rfl
    rw [Addr.add_zero', ← HX.out] at hcell
    have ZT := Lib.hid (zero_still hb ZT.out)
    have HB := Lib.hid (below_then HB.out hb)
    clear hS hc hb C1 q0 q1 q2 q3 q4
    go_wp2_with fail
    refine (CP.out _).mono ?_
    rintro e w2 ⟨rfl, hb⟩
    have ZT := Lib.hid (zero_still hb ZT.out)
    have HB := Lib.hid (below_then HB.out hb)
    clear hb
    go_wp2_with (refine wpList_store_row rfl _ _ _ rfl (w.heap.size + 1) #[.bool va, .string vb] rfl rfl 49 _ ZT.out (by kernel_rfl) rfl (by simp [Value.oneCell']) ?_)
    refine bodyPost_ret (results_cell_row_tmp rfl _ _ (w.heap.size + 1) 49 #[.bool va, .string vb] (0, 0) _ rfl (setRow_heap _ _ _ _ _ _ ZT.out) Tryz.underlying49 rfl (by kernel_rfl)) rfl ?_
    exact ⟨rfl, below_setRow HB.out (by omega) _⟩
  · rw [if_neg h1] at hV hB
    subst hV hB
    have h1' : ¬ (X.length : Int) = 1 := by omega
    generalize X.length = n at *
    unfold tgV
    clear h1 hvz
    go_enter Tryz.func34, Tryz.ntmps34
    go_wp2_with fail
    refine (C1.out _ HB.out).mono ?_
    rintro e w1 ⟨A1, c1, rfl, _, _, hb⟩
    have ZT := Lib.hid (zero_still hb ZT.out)
    have HB := Lib.hid (below_then HB.out hb)
    clear hb q0 q1 q2 q3 q4
    go_wp2_with (refine wpList_store_row rfl _ _ _ rfl (w.heap.size + 1) #[.bool false, .string ⟨#[]⟩] rfl rfl 49 _ ZT.out (by kernel_rfl) rfl (by simp [Value.oneCell']) ?_)
    refine bodyPost_ret (results_cell_row_tmp rfl _ _ (w.heap.size + 1) 49 #[.bool false, .string ⟨#[]⟩] (0, 0) _ rfl (setRow_heap _ _ _ _ _ _ ZT.out) Tryz.underlying49 rfl (by kernel_rfl)) rfl ?_
    exact ⟨rfl, below_setRow HB.out (by omega) _⟩

end Go.Proofs.YtjkfdjolhmgemaaGreatDoor
end

/-
  Contracts of the reference's put, Names (layer 15).
-/
section
namespace Go.Proofs.YtjkfdjolhmgemaaGreatDoor
open Go.RowKit
set_option linter.unusedSimpArgs false

/-- What Names answers. -/
def IsNm (w : World) (L : List (List UInt8)) (ok : Bool) (e : Ending) (w' : World) : Prop := ∃ A c, e = .returned (.tuple #[.slice A L.length c, .bool ok]) ∧ SlS w' A L.length c L ∧ Head w' A ∧ Below w.heap.size w w'

end Go.Proofs.YtjkfdjolhmgemaaGreatDoor
end

/-
  Contracts of the reference's Storable, Verdict (layer 18).
-/
section
namespace Go.Proofs.YtjkfdjolhmgemaaGreatDoor
open Go.RowKit
set_option linter.unusedSimpArgs false

theorem both_of : ∀ t : Bool, t = true ∨ t = false := fun t => by cases t <;> simp

end Go.Proofs.YtjkfdjolhmgemaaGreatDoor
end

/-
  Contracts of the reference's Satisfied, Selects (layer 19).
-/
section
namespace Go.Proofs.YtjkfdjolhmgemaaGreatDoor
open Go.RowKit
set_option linter.unusedSimpArgs false

theorem con_le : nnS.size ≤ maxLen ∧ imsS.size ≤ maxLen := by decide
theorem get_le {L : List Fd} (h : FwL L) (name : ByteArray) : (fdGet L name).size ≤ 100000000 := by
  obtain ⟨h1, h2⟩ := fwl_all h name
  unfold fdGet
  rw [mkS_size]
  exact Nat.le_trans (join_le _ 1000 10000 h1 h2) (by decide)

set_option maxHeartbeats 16000000 in
set_option maxRecDepth 100000 in
theorem r_sat (r : Rqst) (A : Option Addr) (c : Nat) (p : Rply) (B : Option Addr) (d : Nat) (w : World) (h : SlF w A r.f.length c r.f) (hQ : FwL r.f) (h' : SlF w B p.f.length d p.f) (hL : FwL p.f) :
    Calls Tryz.prog 11 #[.agg (rqC r A c), .agg (rpC p B d)] w fun e w' => e = .returned (.bool (satB r.m r.f p.f p.c)) ∧ Below w.heap.size w w' := by
  have B0 := both_of
  have hgz := get_le hQ nnS
  obtain ⟨m, t, v, f, b⟩ := r
  obtain ⟨pc, pr, pv, g, pb⟩ := p
  simp only at h h' hQ hL hgz
  have C1 := Lib.hid (fun W (hW : Below w.heap.size w W) => rf_get A f.length c f nnS W (h.below hW) (by have := hQ.n; omega) con_le.1 hQ.v)
  have C2 := Lib.hid (fun W (hW : Below w.heap.size w W) => r_etList (fdGet f nnS) W hgz)
  have C3 := Lib.hid (fun W (hW : Below w.heap.size w W) => r_rtag ⟨pc, pr, pv, g, pb⟩ B d W (h'.below hW) hL)
  have C4 := Lib.hid (fun W (hW : Below w.heap.size w W) => r_etMatch (fdGet f nnS) (rtO g) W hgz)
  have C5 := Lib.hid (fun W (hW : Below w.heap.size w W) => r_when A c f imsS W (h.below hW) hQ con_le.2)
  have C6 := Lib.hid (fun W (hW : Below w.heap.size w W) => r_when B d g lmS W (h'.below hW) hL lmS_le)
  show Calls _ _ _ _ fun e w' => e = .returned (.bool (satB m f g pc)) ∧ _
  have hD : satB m f g pc = ((m.toList == [71, 69, 84] || m.toList == [72, 69, 65, 68]) && (pc == 200 && (if fdGot f nnS = true then lsA (fdGet f nnS) || (rtB g && mtB (fdGet f nnS) (rtO g)) else whnB f imsS && (whnB g lmS && decide (whnV g lmS ≤ whnV f imsS))))) := rfl
  obtain ⟨R, hR⟩ : ∃ R, R = satB m f g pc := ⟨_, rfl⟩
  rw [← hR] at hD ⊢
  unfold rqC rpC IsTs at *
  simp only at *
  generalize mtB (fdGet f nnS) (rtO g) = mt at *
  generalize lsL (fdGet f nnS) = ll at *
  generalize lsE (fdGet f nnS) = le at *
  generalize lsA (fdGet f nnS) = la at *
  generalize fdGet f nnS = gv at *
  generalize fdGot f nnS = gb at *
  generalize rtO g = tg at *
  generalize rtB g = tb at *
  generalize whnB f imsS = b5 at *
  generalize whnV f imsS = v5 at *
  generalize whnB g lmS = b6 at *
  generalize whnV g lmS = v6 at *
  obtain ⟨ta, ts⟩ := tg
  unfold tgV at *
  unfold nnS at C1
  unfold imsS at C5
  unfold lmS at C6
  clear h h' hQ hL hR hgz
  have HD := Lib.hid hD
  clear hD
  have HB : Hid (Below w.heap.size w ((w.alloc (.cells #[.string m, .string t, .int .i64 v, .slice A f.length c, .string b] 24)).alloc (.cells #[.int .i64 pc, .string pr, .int .i64 pv, .slice B g.length d, .string pb] 26))) := ((Below.refl _ _).alloc (Nat.le_refl _) _).alloc (by simp) _
  have ZQ : Hid (((w.alloc (.cells #[.string m, .string t, .int .i64 v, .slice A f.length c, .string b] 24)).alloc (.cells #[.int .i64 pc, .string pr, .int .i64 pv, .slice B g.length d, .string pb] 26)).heap[w.heap.size]? = some (.cells #[.string m, .string t, .int .i64 v, .slice A f.length c, .string b] 24 (0, 0))) := zero_more (heap_alloc_new w _)
  have zt := heap_alloc_new (w.alloc (.cells #[.string m, .string t, .int .i64 v, .slice A f.length c, .string b] 24)) (.cells #[.int .i64 pc, .string pr, .int .i64 pv, .slice B g.length d, .string pb] 26)
  rw [show (w.alloc (.cells #[.string m, .string t, .int .i64 v, .slice A f.length c, .string b] 24)).heap.size = w.heap.size + 1 by simp] at zt
  have ZP := Lib.hid zt
  clear zt
  obtain ⟨q0, q1, q2, q3, q4⟩ := cel5r ZQ.out
  obtain ⟨p0, p1, p2, p3, p4⟩ := cel5r ZP.out
  go_enter Tryz.func11, Tryz.ntmps11
  obtain ⟨E1, hE1⟩ : ∃ E, E = ((m.toList == [71, 69, 84] || m.toList == [72, 69, 65, 68]) && pc == 200) := ⟨_, rfl⟩
  have HE1 := Lib.hid hE1
  rw [← Bool.and_assoc, ← hE1] at HD
  clear hE1
  go_upto_region 1 with fail
  go_cut [28] (fun s wx => s = .bool (!E1) ∧ Hid (wx.heap[w.heap.size]? = some (.cells #[.string m, .string t, .int .i64 v, .slice A f.length c, .string b] 24 (0, 0))) ∧ Hid (wx.heap[w.heap.size + 1]? = some (.cells #[.int .i64 pc, .string pr, .int .i64 pv, .slice B g.length d, .string pb] 26 (0, 0))) ∧ Hid (Below w.heap.size w wx))
  case first =>
    rcases B0 (pc == 200) with k | k
    all_goals
      have kn : (pc != 200) = !(pc == 200) := rfl
      rw [k] at kn
      rcases B0 (m.toList == [71, 69, 84]) with h1 | h1
      · have n1 : (m.toList != [71, 69, 84]) = false := by rw [bne, h1]; rfl
        rw [h1, k] at HE1
        go_wp2_with fail
        go_meet
        exact ⟨by rw [HE1.out]; rfl, ZQ.out, ZP.out, HB.out⟩
      · have n1 : (m.toList != [71, 69, 84]) = true := by rw [bne, h1]; rfl
        rcases B0 (m.toList == [72, 69, 65, 68]) with h2 | h2
        all_goals
          have n2 : (m.toList != [72, 69, 65, 68]) = !(m.toList == [72, 69, 65, 68]) := rfl
          rw [h2] at n2
          rw [h1, h2, k] at HE1
          go_wp2_with fail
          go_meet
          exact ⟨by rw [HE1.out]; rfl, ZQ.out, ZP.out, HB.out⟩
  case rest =>
    clear q0 q1 q2 q3 q4 p0 p1 p2 p3 p4 ZQ ZP HB
    obtain ⟨rfl, ZQ, ZP, HB⟩ := hcut
    obtain ⟨q0, q1, q2, q3, q4⟩ := cel5r ZQ.out
    obtain ⟨p0, p1, p2, p3, p4⟩ := cel5r ZP.out
    cases E1 with
    | false =>
      replace HD := HD.out
      subst HD
      go_wp2_with fail
      go_ret
      exact ⟨rfl, HB.out⟩
    | true =>
      replace HD := HD.out
      go_wp2_with fail
      refine (C1.out _ HB.out).mono ?_
      rintro e v1 ⟨rfl, hb⟩
      clear q0 q1 q2 q3 q4 p0 p1 p2 p3 p4
      replace ZQ := Lib.hid (zero_still hb ZQ.out)
      replace ZP := Lib.hid (zero_still hb ZP.out)
      replace HB := Lib.hid (below_then HB.out hb)
      clear hb
      obtain ⟨q0, q1, q2, q3, q4⟩ := cel5r ZQ.out
      obtain ⟨p0, p1, p2, p3, p4⟩ := cel5r ZP.out
      cases gb with
      | true =>
        rw [if_pos rfl] at HD
        go_wp2_with fail
        refine (C2.out _ HB.out).mono ?_
        rintro e v2 ⟨A2, c2, rfl, _, hb⟩
        clear q0 q1 q2 q3 q4 p0 p1 p2 p3 p4
        replace ZQ := Lib.hid (zero_still hb ZQ.out)
        replace ZP := Lib.hid (zero_still hb ZP.out)
        replace HB := Lib.hid (below_then HB.out hb)
        clear hb
        obtain ⟨q0, q1, q2, q3, q4⟩ := cel5r ZQ.out
        obtain ⟨p0, p1, p2, p3, p4⟩ := cel5r ZP.out
        go_wp2_with fail
        refine (C3.out _ HB.out).mono ?_
        rintro e v3 ⟨rfl, hb⟩
        clear q0 q1 q2 q3 q4 p0 p1 p2 p3 p4
        replace ZQ := Lib.hid (zero_still hb ZQ.out)
        replace ZP := Lib.hid (zero_still hb ZP.out)
        replace HB := Lib.hid (below_then HB.out hb)
        clear hb
        obtain ⟨Ugt, hUgt⟩ : ∃ W, v3.alloc (.cells #[.bool ta, .string ts] 49) = W := ⟨_, rfl⟩
        obtain ⟨gt, hgt⟩ : ∃ g, v3.heap.size = g := ⟨_, rfl⟩
        replace ZQ : Hid (Ugt.heap[w.heap.size]? = some (.cells #[.string m, .string t, .int .i64 v, .slice A f.length c, .string b] 24 (0, 0))) := (by show _ = _; rw [← hUgt]; exact zero_more ZQ.out)
        replace ZP : Hid (Ugt.heap[w.heap.size + 1]? = some (.cells #[.int .i64 pc, .string pr, .int .i64 pv, .slice B g.length d, .string pb] 26 (0, 0))) := (by show _ = _; rw [← hUgt]; exact zero_more ZP.out)
        have Tgt : Hid (Ugt.heap[gt]? = some (.cells #[.bool ta, .string ts] 49 (0, 0))) := (by show _ = _; rw [← hUgt, ← hgt]; exact heap_alloc_new v3 _)
        replace HB : Hid (Below w.heap.size w Ugt) := (by show Below _ _ _; rw [← hUgt]; exact HB.out.alloc HB.out.size _)
        obtain ⟨q0, q1, q2, q3, q4⟩ := cel5r ZQ.out
        obtain ⟨p0, p1, p2, p3, p4⟩ := cel5r ZP.out
        obtain ⟨gt0', gt1'⟩ := zero_two Tgt.out
        cases la with
        | true =>
          subst HD
          go_wp2_with fail
          go_ret
          exact ⟨rfl, HB.out⟩
        | false =>
          cases tb with
          | false =>
            subst HD
            go_wp2_with fail
            go_ret
            exact ⟨rfl, HB.out⟩
          | true =>
            go_wp2_with fail
            try rw [hUgt]
            refine (C4.out _ HB.out).mono ?_
            rintro e v9 ⟨rfl, hb⟩
            replace HB := Lib.hid (below_then HB.out hb)
            clear hb
            clear q0 q1 q2 q3 q4 p0 p1 p2 p3 p4 gt0' gt1'
            subst HD
            go_wp2_with fail
            go_ret
            exact ⟨rfl, HB.out⟩
      | false =>
        rw [if_neg (by simp)] at HD
        go_wp2_with fail
        refine (C5.out _ HB.out).mono ?_
        rintro e v4 ⟨rfl, hb⟩
        clear q0 q1 q2 q3 q4 p0 p1 p2 p3 p4
        replace ZQ := Lib.hid (zero_still hb ZQ.out)
        replace ZP := Lib.hid (zero_still hb ZP.out)
        replace HB := Lib.hid (below_then HB.out hb)
        clear hb
        obtain ⟨q0, q1, q2, q3, q4⟩ := cel5r ZQ.out
        obtain ⟨p0, p1, p2, p3, p4⟩ := cel5r ZP.out
        go_wp2_with fail
        refine (C6.out _ HB.out).mono ?_
        rintro e v5 ⟨rfl, hb⟩
        clear q0 q1 q2 q3 q4 p0 p1 p2 p3 p4
        replace ZQ := Lib.hid (zero_still hb ZQ.out)
        replace ZP := Lib.hid (zero_still hb ZP.out)
        replace HB := Lib.hid (below_then HB.out hb)
        clear hb
        obtain ⟨q0, q1, q2, q3, q4⟩ := cel5r ZQ.out
        obtain ⟨p0, p1, p2, p3, p4⟩ := cel5r ZP.out
        cases b5 with
        | false =>
          subst HD
          go_wp2_with fail
          go_ret
          exact ⟨rfl, HB.out⟩
        | true =>
          cases b6 with
          | false =>
            subst HD
            go_wp2_with fail
            go_ret
            exact ⟨rfl, HB.out⟩
          | true =>
            subst HD
            go_wp2_with fail
            go_ret
            exact ⟨rfl, HB.out⟩

set_option maxHeartbeats 16000000 in
set_option maxRecDepth 100000 in
theorem r_sel (r : Rply) (A : Option Addr) (c : Nat) (p : Rply) (B : Option Addr) (d : Nat) (w : World) (h : SlF w A r.f.length c r.f) (hQ : FwL r.f) (h' : SlF w B p.f.length d p.f) (hL : FwL p.f) :
    Calls Tryz.prog 22 #[.agg (rpC r A c), .agg (rpC p B d)] w fun e w' => e = .returned (.bool (selB r.f p.f)) ∧ Below w.heap.size w w' := by
  have B0 := both_of
  obtain ⟨rc, rr, rv, f, rb⟩ := r
  obtain ⟨pc, pr, pv, g, pb⟩ := p
  simp only at h h' hQ hL
  have C1 := Lib.hid (fun W (hW : Below w.heap.size w W) => rf_get B g.length d g etS W (h'.below hW) (by have := hL.n; omega) reu_le.1 hL.v)
  have C2 := Lib.hid (fun W (hW : Below w.heap.size w W) => r_rtag ⟨rc, rr, rv, f, rb⟩ A c W (h.below hW) hQ)
  have C3 := Lib.hid (fun W (hW : Below w.heap.size w W) => r_rtag ⟨pc, pr, pv, g, pb⟩ B d W (h'.below hW) hL)
  have C4 := Lib.hid (fun W (hW : Below w.heap.size w W) => r_etWeak (rtO f) (rtO g) W)
  have C5 := Lib.hid (fun W (hW : Below w.heap.size w W) => rf_get B g.length d g lmS W (h'.below hW) (by have := hL.n; omega) lmS_le hL.v)
  have C6 := Lib.hid (fun W (hW : Below w.heap.size w W) => rf_get A f.length c f lmS W (h.below hW) (by have := hQ.n; omega) lmS_le hQ.v)
  show Calls _ _ _ _ fun e w' => e = .returned (.bool (selB f g)) ∧ _
  have hD : selB f g = if fdGot g etS = true then rtB f && (rtB g && wekB (rtO f) (rtO g)) else !fdGot g lmS || (fdGot f lmS && ((fdGet g lmS).toList == (fdGet f lmS).toList)) := rfl
  obtain ⟨R, hR⟩ : ∃ R, R = selB f g := ⟨_, rfl⟩
  rw [← hR] at hD ⊢
  unfold rpC at *
  simp only at *
  generalize wekB (rtO f) (rtO g) = wk at *
  generalize rtO f = t1 at *
  generalize rtB f = b1 at *
  generalize rtO g = t2 at *
  generalize rtB g = b2 at *
  generalize fdGot g etS = g1 at *
  generalize fdGet g etS = s1 at *
  generalize fdGot g lmS = g5 at *
  generalize fdGet g lmS = s5 at *
  generalize fdGot f lmS = g6 at *
  generalize fdGet f lmS = s6 at *
  obtain ⟨ta, ts⟩ := t1
  obtain ⟨ua, us⟩ := t2
  unfold tgV at *
  unfold etS at C1
  unfold lmS at C5 C6
  clear h h' hQ hL hR
  have HD := hD
  clear hD
  have HB : Hid (Below w.heap.size w ((w.alloc (.cells #[.int .i64 rc, .string rr, .int .i64 rv, .slice A f.length c, .string rb] 26)).alloc (.cells #[.int .i64 pc, .string pr, .int .i64 pv, .slice B g.length d, .string pb] 26))) := ((Below.refl _ _).alloc (Nat.le_refl _) _).alloc (by simp) _
  have ZQ : Hid (((w.alloc (.cells #[.int .i64 rc, .string rr, .int .i64 rv, .slice A f.length c, .string rb] 26)).alloc (.cells #[.int .i64 pc, .string pr, .int .i64 pv, .slice B g.length d, .string pb] 26)).heap[w.heap.size]? = some (.cells #[.int .i64 rc, .string rr, .int .i64 rv, .slice A f.length c, .string rb] 26 (0, 0))) := zero_more (heap_alloc_new w _)
  have zt := heap_alloc_new (w.alloc (.cells #[.int .i64 rc, .string rr, .int .i64 rv, .slice A f.length c, .string rb] 26)) (.cells #[.int .i64 pc, .string pr, .int .i64 pv, .slice B g.length d, .string pb] 26)
  rw [show (w.alloc (.cells #[.int .i64 rc, .string rr, .int .i64 rv, .slice A f.length c, .string rb] 26)).heap.size = w.heap.size + 1 by simp] at zt
  have ZP := Lib.hid zt
  clear zt
  obtain ⟨q0, q1, q2, q3, q4⟩ := cel5r ZQ.out
  obtain ⟨p0, p1, p2, p3, p4⟩ := cel5r ZP.out
  go_enter Tryz.func22, Tryz.ntmps22
  go_wp2_with fail
  refine (C1.out _ HB.out).mono ?_
  rintro e v1 ⟨rfl, hb⟩
  clear q0 q1 q2 q3 q4 p0 p1 p2 p3 p4
  replace ZQ := Lib.hid (zero_still hb ZQ.out)
  replace ZP := Lib.hid (zero_still hb ZP.out)
  replace HB := Lib.hid (below_then HB.out hb)
  clear hb
  obtain ⟨q0, q1, q2, q3, q4⟩ := cel5r ZQ.out
  obtain ⟨p0, p1, p2, p3, p4⟩ := cel5r ZP.out
  cases g1 with
  | true =>
    rw [if_pos rfl] at HD
    go_wp2_with fail
    refine (C2.out _ HB.out).mono ?_
    rintro e v2 ⟨rfl, hb⟩
    clear q0 q1 q2 q3 q4 p0 p1 p2 p3 p4
    replace ZQ := Lib.hid (zero_still hb ZQ.out)
    replace ZP := Lib.hid (zero_still hb ZP.out)
    replace HB := Lib.hid (below_then HB.out hb)
    clear hb
    obtain ⟨Uga, hUga⟩ : ∃ W, v2.alloc (.cells #[.bool ta, .string ts] 49) = W := ⟨_, rfl⟩
    obtain ⟨ga, hga⟩ : ∃ g, v2.heap.size = g := ⟨_, rfl⟩
    replace ZQ : Hid (Uga.heap[w.heap.size]? = some (.cells #[.int .i64 rc, .string rr, .int .i64 rv, .slice A f.length c, .string rb] 26 (0, 0))) := (by show _ = _; rw [← hUga]; exact zero_more ZQ.out)
    replace ZP : Hid (Uga.heap[w.heap.size + 1]? = some (.cells #[.int .i64 pc, .string pr, .int .i64 pv, .slice B g.length d, .string pb] 26 (0, 0))) := (by show _ = _; rw [← hUga]; exact zero_more ZP.out)
    have Tga : Hid (Uga.heap[ga]? = some (.cells #[.bool ta, .string ts] 49 (0, 0))) := (by show _ = _; rw [← hUga, ← hga]; exact heap_alloc_new v2 _)
    replace HB : Hid (Below w.heap.size w Uga) := (by show Below _ _ _; rw [← hUga]; exact HB.out.alloc HB.out.size _)
    obtain ⟨q0, q1, q2, q3, q4⟩ := cel5r ZQ.out
    obtain ⟨p0, p1, p2, p3, p4⟩ := cel5r ZP.out
    obtain ⟨ga0', ga1'⟩ := zero_two Tga.out
    go_wp2_with fail
    refine (C3.out _ HB.out).mono ?_
    rintro e v3 ⟨rfl, hb⟩
    clear q0 q1 q2 q3 q4 p0 p1 p2 p3 p4 ga0' ga1'
    replace ZQ := Lib.hid (zero_still hb ZQ.out)
    replace ZP := Lib.hid (zero_still hb ZP.out)
    replace Tga := Lib.hid (zero_still hb Tga.out)
    replace HB := Lib.hid (below_then HB.out hb)
    clear hb
    obtain ⟨Ugb, hUgb⟩ : ∃ W, v3.alloc (.cells #[.bool ua, .string us] 49) = W := ⟨_, rfl⟩
    obtain ⟨gb, hgb⟩ : ∃ g, v3.heap.size = g := ⟨_, rfl⟩
    replace ZQ : Hid (Ugb.heap[w.heap.size]? = some (.cells #[.int .i64 rc, .string rr, .int .i64 rv, .slice A f.length c, .string rb] 26 (0, 0))) := (by show _ = _; rw [← hUgb]; exact zero_more ZQ.out)
    replace ZP : Hid (Ugb.heap[w.heap.size + 1]? = some (.cells #[.int .i64 pc, .string pr, .int .i64 pv, .slice B g.length d, .string pb] 26 (0, 0))) := (by show _ = _; rw [← hUgb]; exact zero_more ZP.out)
    replace Tga : Hid (Ugb.heap[ga]? = some (.cells #[.bool ta, .string ts] 49 (0, 0))) := (by show _ = _; rw [← hUgb]; exact zero_more Tga.out)
    have Tgb : Hid (Ugb.heap[gb]? = some (.cells #[.bool ua, .string us] 49 (0, 0))) := (by show _ = _; rw [← hUgb, ← hgb]; exact heap_alloc_new v3 _)
    replace HB : Hid (Below w.heap.size w Ugb) := (by show Below _ _ _; rw [← hUgb]; exact HB.out.alloc HB.out.size _)
    obtain ⟨q0, q1, q2, q3, q4⟩ := cel5r ZQ.out
    obtain ⟨p0, p1, p2, p3, p4⟩ := cel5r ZP.out
    obtain ⟨ga0', ga1'⟩ := zero_two Tga.out
    obtain ⟨gb0', gb1'⟩ := zero_two Tgb.out
    cases b1 with
    | false =>
      subst HD
      go_wp2_with fail
      go_ret
      exact ⟨rfl, HB.out⟩
    | true =>
      cases b2 with
      | false =>
        subst HD
        go_wp2_with fail
        go_ret
        exact ⟨rfl, HB.out⟩
      | true =>
        go_wp2_with fail
        try rw [hUgb]
        refine (C4.out _ HB.out).mono ?_
        rintro e v9 ⟨rfl, hb⟩
        replace HB := Lib.hid (below_then HB.out hb)
        clear hb
        clear q0 q1 q2 q3 q4 p0 p1 p2 p3 p4 ga0' ga1' gb0' gb1'
        subst HD
        go_wp2_with fail
        go_ret
        exact ⟨rfl, HB.out⟩
  | false =>
    rw [if_neg (by simp)] at HD
    go_wp2_with fail
    refine (C5.out _ HB.out).mono ?_
    rintro e v4 ⟨rfl, hb⟩
    clear q0 q1 q2 q3 q4 p0 p1 p2 p3 p4
    replace ZQ := Lib.hid (zero_still hb ZQ.out)
    replace ZP := Lib.hid (zero_still hb ZP.out)
    replace HB := Lib.hid (below_then HB.out hb)
    clear hb
    obtain ⟨q0, q1, q2, q3, q4⟩ := cel5r ZQ.out
    obtain ⟨p0, p1, p2, p3, p4⟩ := cel5r ZP.out
    go_wp2_with fail
    refine (C6.out _ HB.out).mono ?_
    rintro e v5 ⟨rfl, hb⟩
    clear q0 q1 q2 q3 q4 p0 p1 p2 p3 p4
    replace ZQ := Lib.hid (zero_still hb ZQ.out)
    replace ZP := Lib.hid (zero_still hb ZP.out)
    replace HB := Lib.hid (below_then HB.out hb)
    clear hb
    obtain ⟨q0, q1, q2, q3, q4⟩ := cel5r ZQ.out
    obtain ⟨p0, p1, p2, p3, p4⟩ := cel5r ZP.out
    cases g5 with
    | false =>
      subst HD
      go_wp2_with fail
      go_ret
      exact ⟨rfl, HB.out⟩
    | true =>
      cases g6 with
      | false =>
        subst HD
        go_wp2_with fail
        go_ret
        exact ⟨rfl, HB.out⟩
      | true =>
        subst HD
        go_wp2_with fail
        go_ret
        exact ⟨rfl, HB.out⟩

end Go.Proofs.YtjkfdjolhmgemaaGreatDoor
end

/-
  Contracts of the effects in package control's table of directives: each writes one cell behind the pointer.
-/
section
namespace Go.Proofs.YtjkfdjolhmgemaaGreatDoor
open Go.RowKit

end Go.Proofs.YtjkfdjolhmgemaaGreatDoor
end

/-
  Contract of the reference's Print (layer 13).
-/
section
namespace Go.Proofs.YtjkfdjolhmgemaaGreatDoor
open Go.RowKit

/-- The cells of a block begin with these values. -/
def SlV (w : World) (g : Nat) (L : List Value) : Prop := ∀ (j : Nat) (x : Value), L[j]? = some x → w.cell? ⟨g, j, none⟩ = some x
theorem SlV.new (w : World) (t : TypeId) {L : List Value} {cs : Array Value} (h : ∀ (j : Nat) (x : Value), L[j]? = some x → cs[j]? = some x) : SlV (w.alloc (.cells cs t)) w.heap.size L := fun j x hx => by
  rw [cell_of_row _ _ _ _ _ _ (heap_alloc_new w _)]
  exact h j x hx
theorem SlV.alloc {w : World} {g : Nat} {L : List Value} (h : SlV w g L) (o : Obj) : SlV (w.alloc o) g L := fun j x hx => Lib.cell?_alloc_some o (h j x hx)
theorem SlV.below {w w' : World} {g : Nat} {L : List Value} (h : SlV w g L) (hb : Below w.heap.size w w') : SlV w' g L := fun j x hx => cell_kept hb (h j x hx)
def ctF (c : Ctl) : List (Bool × List UInt8) := [(c.ns, nsS.data.toList), (c.nc, ncS.data.toList), (c.pv, pvS.data.toList), (c.pu, puS.data.toList), (c.mc, mrS.data.toList), (c.oi, oiS.data.toList)]
def ctM (c : Ctl) : List (Int × List UInt8) := [(c.ma, maE.data.toList), (c.sh, smE.data.toList), (c.mf, mfE.data.toList)]
def flS (p : Bool × List UInt8) : List (List UInt8) := if p.1 then [p.2] else []
def nmS (p : Int × List UInt8) : List (List UInt8) := if 0 ≤ p.1 then [p.2 ++ plainL p.1] else []
end Go.Proofs.YtjkfdjolhmgemaaGreatDoor
end
