/-
  The law VariantBack (depotlaw20) returns true for every list of stored replies, every slice of bytes and every integer, and leaves what it was given as it was. No condition.
-/
import Derived.Test.YthhlcecojeaalaaDoorRows
import Derived.WalkKit
import Derived.ProofKit
import Derived.OpenShut
import Derived.ShutString
import Derived.ChangeOld
import Derived.Below
import Derived.Test.YthhlcecojeaalaaDoorMrgC
import Derived.Test.YthhlcecojeaalaaDoorMrgE
import Derived.Test.YthhlcecojeaalaaDoorMrgF
import Derived.Test.YthhlcecojeaalaaDoorMrgH
import Derived.Test.YthhlcecojeaalaaDoorMrgJ
import Derived.Test.YthhlcecojeaalaaDoorMrgK
import Derived.Test.YthhlcecojeaalaaDoorMrgL
import Derived.Test.YthhlcecojeaalaaDoorMrgW
import Derived.Test.YthhlcecojeaalaaDoorMrgZ
import Derived.Test.YthhlcecojeaalaaDoorMrgAD
import Derived.Test.YthhlcecojeaalaaDoorMrgAF
import Derived.Test.YthhlcecojeaalaaDoorMrgAG
import Derived.Test.YthhlcecojeaalaaDoorMrgAH
import Derived.Test.YthhlcecojeaalaaDoorMrgAI
import Derived.Test.YthhlcecojeaalaaDoorMrgAL
import Derived.Test.YthhlcecojeaalaaDoorMrgAN
import Derived.Test.YthhlcecojeaalaaDoorMrgAO
import Derived.Test.YthhlcecojeaalaaDoorMrgAQ
import Derived.Test.YthhlcecojeaalaaDoorMrgAR
import Derived.Test.YthhlcecojeaalaaDoorMrgAS
import Derived.Test.YthhlcecojeaalaaDoorMrgAT
import Derived.Test.YthhlcecojeaalaaDoorCards
import Derived.Test.YthhlcecojeaalaaDoorTie
import Derived.LaidMore
import Derived.Lib.LaidTab
import Derived.Stop.Joined
import Derived.Lay
set_option linter.unusedSimpArgs false
set_option linter.unusedVariables false
namespace Go.Proofs.YthhlcecojeaalaaDoor.variantBack
open Go.ChangeShapes Go.WideShapes Go.ChangeAt Go.RowKit
open Go.ChangeMaps (open_string shut_string)
set_option linter.unusedVariables false

theorem own : ownKnob Tryd.prog.godebug = none := by kernel_rfl
theorem laidOut : laidOutB Tryd.prog = true := by kernel_rfl

def IsRow (k : IntKind) (w : World) (a : Option Addr) (len cap : Nat) (zs : List Int) : Prop :=
  (a = none ∧ len = 0 ∧ cap = 0 ∧ zs = []) ∨
  ∃ x, a = some x ∧ len ≤ cap ∧ cap ≤ maxLen ∧ zs.length = cap ∧ (∀ i, i < zs.length → w.cell? (x.add i) = some (.int k (zs.getD i 0))) ∧ ∀ n ∈ zs, (Lit.int k n).wf = true

set_option maxHeartbeats 8000000 in
set_option maxRecDepth 100000 in
theorem walk (a0 : Option Addr) (len0 cap0 : Nat) (z0 : List Sd) (a1 : Option Addr) (len1 cap1 : Nat) (z1 : List Int) (a2 : Int) (w : World) (w0 : SlD w a0 len0 cap0 z0 ∧ ∀ y ∈ z0, (Lit.int .i64 y.x.s.c).wf = true ∧ (Lit.int .i64 y.x.s.v).wf = true ∧ (Lit.int .i64 y.x.s.t).wf = true) (w1 : IsRow .u8 w a1 len1 cap1 z1) (w2 : (Lit.int .i64 a2).wf = true) (hL : laidMetH Tryd.prog Rows.variantBackRow.laid w) :
    Calls Tryd.prog 6 #[.slice a0 len0 cap0, .slice a1 len1 cap1, .int .i64 a2] w fun e w' => e = .returned (.bool true) ∧ Below w.heap.size w w' := by
  have HT := Lib.hid (vntTabs hL)
  clear hL
  replace w0 := w0.1
  obtain ⟨l, hs⟩ := Sl8.of_row w1
  have hlen := hs.len
  have HB : Hid (Below w.heap.size w w) := Below.refl _ _
  have CX := Lib.hid (fun W (hW : Below w.heap.size w W) => ex20_any W (HT.out.kept hW))
  have K1 := Lib.hid (r_fewV 6 300 6 300 rfl rfl (by decide) a0 len0 cap0 z0 w w0)
  have hvq := fun h ho => vq_len (L := z0) h ho
  have hfy := fun h => fewV_yes (m := 6) (bd := 300) (L := z0) h
  generalize fewV 6 300 z0 = fb at *
  clear w1
  cases fb with
  | false =>
    clear hfy w0 hvq hs hlen
    go_enter Tryd.func6, Tryd.ntmps6
    go_wp2_with fail
    refine K1.out.mono ?_
    rintro e v1 ⟨rfl, hb⟩
    have HB := Lib.hid hb
    clear hb
    go_wp2_with fail
    refine (CX.out _ HB.out).mono ?_
    rintro e u9 ⟨rfl, hb⟩
    go_wp2_with fail
    go_ret
    exact ⟨rfl, below_then HB.out hb⟩
  | true =>
    by_cases k0 : (3000 : Int) < (len1 : Int)
    · skip
      clear hfy w0 hvq hs hlen
      go_enter Tryd.func6, Tryd.ntmps6
      go_wp2_with fail
      refine K1.out.mono ?_
      rintro e v1 ⟨rfl, hb⟩
      have HB := Lib.hid hb
      clear hb
      go_wp2_with fail
      refine (CX.out _ HB.out).mono ?_
      rintro e u9 ⟨rfl, hb⟩
      go_wp2_with fail
      go_ret
      exact ⟨rfl, below_then HB.out hb⟩
    · skip
      obtain ⟨h6, hok⟩ := hfy rfl
      have hl0 := w0.len
      have D1 := Lib.hid (fun W (hW : Below w.heap.size w W) => vntD_any a1 len1 cap1 l W (hs.below hW) (by omega) (HT.out.kept hW))
      have hl4 := vd_len l
      have RB := Lib.hid (fun (hz : vdE l = 0) A c (M : List Sd) W (hW : Below w.heap.size w W) (h : SlD W A M.length c M) (hM : M.map (fun z => z.x) = vdL l) => show Calls Tryd.prog 18 #[.slice A M.length c] W (Bytes2 W l 0) from by
        have hO := vd_only hz
        have hl := congrArg List.length hM
        rw [List.length_map] at hl
        have := vntE_any A M.length c M W h (by omega) (fun y hy => vd_fwe hz (by omega) y.x (by rw [← hM]; exact List.mem_map.2 ⟨y, hy, rfl⟩)) (HT.out.kept hW)
        rw [hM, (ve_yes hO.1).1, (ve_yes hO.1).2, ← hO.2] at this
        exact this)
      have BS := Lib.hid (fun A n c W (hW : Below w.heap.size w W) (h : Sl8 W A n c l) => show Calls Tryd.prog 20 #[.slice a1 len1 cap1, .slice A n c] W (fun e w' => e = .returned (.bool true) ∧ W = w') from by
        have := wR_same a1 A len1 n cap1 c l l W (hs.below hW) h
        rw [show (l == l) = true by simp] at this
        exact this)
      have C1 := Lib.hid (fun W (hW : Below w.heap.size w W) => vntE_any a0 len0 cap0 z0 W (w0.below hW) (by omega) (fun y hy => (few_ok (hok y hy) (by decide)).1) (HT.out.kept hW))
      unfold IsDe at D1
      unfold Bytes2 at C1 RB
      by_cases hE : veE (z0.map fun z => z.x) = 0
      · skip
        have hO := ve_no hE
        have hX := (ve_yes hO).2
        have hXl := hvq rfl hO
        have hbk := vd_back hO
        have hsh := fun k hk => vd_short (k := k) hO hk
        rw [hE, hX] at C1
        obtain ⟨X, hXX⟩ : ∃ X, X = vntQ (z0.map fun z => z.x) := ⟨_, rfl⟩
        rw [← hXX] at C1 hXl hbk hsh
        have C2 := Lib.hid (fun A n c W (hW : Below w.heap.size w W) (h : Sl8 W A n c X) => vntD_any A n c X W h hXl (HT.out.kept hW))
        rw [hbk.1, hbk.2] at C2
        have C3 := Lib.hid (fun A c (M : List Sd) W (hW : Below w.heap.size w W) (h : SlD W A M.length c M) (hM : M.map (fun z => z.x) = z0.map fun z => z.x) => r_vsame a0 A len0 cap0 M.length c z0 M W (w0.below hW) h (by show _ = _; rw [hM]) (by omega) (fun y hy => by have := (few_ok (hok y hy) (by decide)).1.fl; have := (few_ok (hok y hy) (by decide)).1.pl; omega))
        have C4 := Lib.hid (fun A n c W (hW : Below w.heap.size w W) (h : Sl8 W A n c X) (k : Nat) (hk : k < n) => show Calls Tryd.prog 21 #[.slice A k c] W (IsDe W (vdL (X.take k)) 6) from by
          have := vntD_any A k c (X.take k) W (h.upto (by omega)) (by rw [List.length_take]; omega) (HT.out.kept hW)
          rw [hsh k (by have := h.len; omega)] at this
          exact this)
        unfold IsDe at C2 C4
        clear hE hO hX hXl hbk hsh hXX hfy h6 hl0 hvq hlen hl4 hok
        go_enter Tryd.func6, Tryd.ntmps6
        go_wp2_with fail
        refine K1.out.mono ?_
        rintro e v1 ⟨rfl, hb⟩
        have HB := Lib.hid hb
        clear hb
        go_wp2_with fail
        refine (C1.out _ HB.out).mono ?_
        rintro e w2 ⟨A1, n1, c1, rfl, hS, hb⟩
        have H1 := Lib.hid hS
        have hcap := hS.cap
        have hcm := hS.cm
        unfold maxLen at hcm
        have HB := Lib.hid (below_then HB.out hb)
        clear hS hb C1
        go_wp2_with fail
        refine (C2.out _ _ _ _ HB.out H1.out).mono ?_
        rintro e w3 ⟨A2, c2, M2, rfl, hS, hM, hb⟩
        have H2 := Lib.hid hS
        have HM2 := Lib.hid hM
        have H1 := Lib.hid (H1.out.below hb)
        have HB := Lib.hid (below_then HB.out hb)
        clear hS hM hb C2
        have C3 := Lib.hid (fun W hW h => C3.out A2 c2 M2 W hW h HM2.out)
        obtain ⟨q2, hq2⟩ : ∃ q, q = M2.length := ⟨_, rfl⟩
        rw [← hq2] at C3 H2 ⊢
        clear hq2
        go_wp2_with fail
        refine (C3.out _ HB.out H2.out).mono ?_
        rintro e w4 ⟨rfl, hb⟩
        have H1 := Lib.hid (H1.out.below hb)
        have HB := Lib.hid (below_then HB.out hb)
        clear hb C3 H2 HM2
        by_cases k1 : 0 ≤ a2
        · by_cases k2 : a2 < (n1 : Int)
          · skip
            obtain ⟨k, rfl⟩ : ∃ k : Nat, a2 = (k : Int) := ⟨a2.toNat, by omega⟩
            have C4 := Lib.hid (fun W (hW : Below w.heap.size w W) (h : Sl8 W A1 n1 c1 X) => C4.out A1 n1 c1 W hW h k (by omega))
            obtain ⟨ad, rfl, _⟩ := H1.out.at_ (by omega)
            have hk3 : (k : Int) ≤ (c1 : Int) := by omega
            go_wp2_with fail
            refine (C4.out _ HB.out H1.out).mono ?_
            rintro e w4 ⟨A4, c4, M4, rfl, _, _, hb⟩
            have HB := Lib.hid (below_then HB.out hb)
            clear hb C4 H1
            go_wp2_with fail
            refine (D1.out _ HB.out).mono ?_
            rintro e w5 ⟨A5, c5, M5, rfl, hS, hM, hb⟩
            have H5 := Lib.hid hS
            have HM5 := Lib.hid hM
            have HB := Lib.hid (below_then HB.out hb)
            clear hS hM hb
            by_cases hz : vdE l = 0
            · skip
              have hzb : (vdE l != 0) = false := by simp [hz]
              have R1 := Lib.hid (RB.out hz)
              have HM5 := Lib.hid (HM5.out.trans rfl)
              have E1 := Lib.hid (fun W (hW : Below w.heap.size w W) (h : SlD W A5 M5.length c5 M5) => R1.out A5 c5 M5 W hW h HM5.out)
              obtain ⟨q5, hq5⟩ : ∃ q, q = M5.length := ⟨_, rfl⟩
              rw [← hq5] at E1 H5 ⊢
              obtain ⟨z, hz2⟩ : ∃ z, z = vdE l := ⟨_, rfl⟩
              rw [← hz2] at hz hzb ⊢
              subst hz
              clear hq5 hz2 R1 RB
              go_wp2_with fail
              refine (E1.out _ HB.out H5.out).mono ?_
              rintro e w6 ⟨A6, n6, c6, rfl, hS, hb⟩
              have H6 := Lib.hid hS
              have HB := Lib.hid (below_then HB.out hb)
              clear hS hb E1
              go_wp2_with fail
              refine (BS.out _ _ _ _ HB.out H6.out).mono ?_
              rintro e w7 ⟨rfl, rfl⟩
              go_wp2_with fail
              refine (CX.out _ HB.out).mono ?_
              rintro e u9 ⟨rfl, hb⟩
              go_wp2_with fail
              go_ret
              exact ⟨rfl, below_then HB.out hb⟩
            · skip
              have hzb : (vdE l != 0) = true := by simpa using hz
              have hM0 : M5 = [] := by
                have := HM5.out
                rw [vd_none hz] at this
                exact List.map_eq_nil_iff.1 this
              subst hM0
              obtain ⟨z, hz2⟩ : ∃ z, z = vdE l := ⟨_, rfl⟩
              rw [← hz2] at hz hzb ⊢
              clear hz2 RB
              go_wp2_with fail
              refine (CX.out _ HB.out).mono ?_
              rintro e u9 ⟨rfl, hb⟩
              go_wp2_with fail
              go_ret
              exact ⟨rfl, below_then HB.out hb⟩
          · skip
            clear C4 H1
            go_wp2_with fail
            refine (D1.out _ HB.out).mono ?_
            rintro e w5 ⟨A5, c5, M5, rfl, hS, hM, hb⟩
            have H5 := Lib.hid hS
            have HM5 := Lib.hid hM
            have HB := Lib.hid (below_then HB.out hb)
            clear hS hM hb
            by_cases hz : vdE l = 0
            · skip
              have hzb : (vdE l != 0) = false := by simp [hz]
              have R1 := Lib.hid (RB.out hz)
              have HM5 := Lib.hid (HM5.out.trans rfl)
              have E1 := Lib.hid (fun W (hW : Below w.heap.size w W) (h : SlD W A5 M5.length c5 M5) => R1.out A5 c5 M5 W hW h HM5.out)
              obtain ⟨q5, hq5⟩ : ∃ q, q = M5.length := ⟨_, rfl⟩
              rw [← hq5] at E1 H5 ⊢
              obtain ⟨z, hz2⟩ : ∃ z, z = vdE l := ⟨_, rfl⟩
              rw [← hz2] at hz hzb ⊢
              subst hz
              clear hq5 hz2 R1 RB
              go_wp2_with fail
              refine (E1.out _ HB.out H5.out).mono ?_
              rintro e w6 ⟨A6, n6, c6, rfl, hS, hb⟩
              have H6 := Lib.hid hS
              have HB := Lib.hid (below_then HB.out hb)
              clear hS hb E1
              go_wp2_with fail
              refine (BS.out _ _ _ _ HB.out H6.out).mono ?_
              rintro e w7 ⟨rfl, rfl⟩
              go_wp2_with fail
              refine (CX.out _ HB.out).mono ?_
              rintro e u9 ⟨rfl, hb⟩
              go_wp2_with fail
              go_ret
              exact ⟨rfl, below_then HB.out hb⟩
            · skip
              have hzb : (vdE l != 0) = true := by simpa using hz
              have hM0 : M5 = [] := by
                have := HM5.out
                rw [vd_none hz] at this
                exact List.map_eq_nil_iff.1 this
              subst hM0
              obtain ⟨z, hz2⟩ : ∃ z, z = vdE l := ⟨_, rfl⟩
              rw [← hz2] at hz hzb ⊢
              clear hz2 RB
              go_wp2_with fail
              refine (CX.out _ HB.out).mono ?_
              rintro e u9 ⟨rfl, hb⟩
              go_wp2_with fail
              go_ret
              exact ⟨rfl, below_then HB.out hb⟩
        · skip
          clear C4 H1
          go_wp2_with fail
          refine (D1.out _ HB.out).mono ?_
          rintro e w5 ⟨A5, c5, M5, rfl, hS, hM, hb⟩
          have H5 := Lib.hid hS
          have HM5 := Lib.hid hM
          have HB := Lib.hid (below_then HB.out hb)
          clear hS hM hb
          by_cases hz : vdE l = 0
          · skip
            have hzb : (vdE l != 0) = false := by simp [hz]
            have R1 := Lib.hid (RB.out hz)
            have HM5 := Lib.hid (HM5.out.trans rfl)
            have E1 := Lib.hid (fun W (hW : Below w.heap.size w W) (h : SlD W A5 M5.length c5 M5) => R1.out A5 c5 M5 W hW h HM5.out)
            obtain ⟨q5, hq5⟩ : ∃ q, q = M5.length := ⟨_, rfl⟩
            rw [← hq5] at E1 H5 ⊢
            obtain ⟨z, hz2⟩ : ∃ z, z = vdE l := ⟨_, rfl⟩
            rw [← hz2] at hz hzb ⊢
            subst hz
            clear hq5 hz2 R1 RB
            go_wp2_with fail
            refine (E1.out _ HB.out H5.out).mono ?_
            rintro e w6 ⟨A6, n6, c6, rfl, hS, hb⟩
            have H6 := Lib.hid hS
            have HB := Lib.hid (below_then HB.out hb)
            clear hS hb E1
            go_wp2_with fail
            refine (BS.out _ _ _ _ HB.out H6.out).mono ?_
            rintro e w7 ⟨rfl, rfl⟩
            go_wp2_with fail
            refine (CX.out _ HB.out).mono ?_
            rintro e u9 ⟨rfl, hb⟩
            go_wp2_with fail
            go_ret
            exact ⟨rfl, below_then HB.out hb⟩
          · skip
            have hzb : (vdE l != 0) = true := by simpa using hz
            have hM0 : M5 = [] := by
              have := HM5.out
              rw [vd_none hz] at this
              exact List.map_eq_nil_iff.1 this
            subst hM0
            obtain ⟨z, hz2⟩ : ∃ z, z = vdE l := ⟨_, rfl⟩
            rw [← hz2] at hz hzb ⊢
            clear hz2 RB
            go_wp2_with fail
            refine (CX.out _ HB.out).mono ?_
            rintro e u9 ⟨rfl, hb⟩
            go_wp2_with fail
            go_ret
            exact ⟨rfl, below_then HB.out hb⟩
      · skip
        generalize veB (z0.map fun z => z.x) = X at *
        obtain ⟨er, hEr⟩ : ∃ er, er = veE (z0.map fun z => z.x) := ⟨_, rfl⟩
        rw [← hEr] at C1 hE
        have heb : (er == 0) = false := by simpa using hE
        clear hEr hfy h6 hl0 hvq hlen hl4 hok
        go_enter Tryd.func6, Tryd.ntmps6
        go_wp2_with fail
        refine K1.out.mono ?_
        rintro e v1 ⟨rfl, hb⟩
        have HB := Lib.hid hb
        clear hb
        go_wp2_with fail
        refine (C1.out _ HB.out).mono ?_
        rintro e w2 ⟨A1, n1, c1, rfl, hS, hb⟩
        have HB := Lib.hid (below_then HB.out hb)
        clear hS hb C1
        go_wp2_with fail
        refine (D1.out _ HB.out).mono ?_
        rintro e w5 ⟨A5, c5, M5, rfl, hS, hM, hb⟩
        have H5 := Lib.hid hS
        have HM5 := Lib.hid hM
        have HB := Lib.hid (below_then HB.out hb)
        clear hS hM hb
        by_cases hz : vdE l = 0
        · skip
          have hzb : (vdE l != 0) = false := by simp [hz]
          have R1 := Lib.hid (RB.out hz)
          have HM5 := Lib.hid (HM5.out.trans rfl)
          have E1 := Lib.hid (fun W (hW : Below w.heap.size w W) (h : SlD W A5 M5.length c5 M5) => R1.out A5 c5 M5 W hW h HM5.out)
          obtain ⟨q5, hq5⟩ : ∃ q, q = M5.length := ⟨_, rfl⟩
          rw [← hq5] at E1 H5 ⊢
          obtain ⟨z, hz2⟩ : ∃ z, z = vdE l := ⟨_, rfl⟩
          rw [← hz2] at hz hzb ⊢
          subst hz
          clear hq5 hz2 R1 RB
          go_wp2_with fail
          refine (E1.out _ HB.out H5.out).mono ?_
          rintro e w6 ⟨A6, n6, c6, rfl, hS, hb⟩
          have H6 := Lib.hid hS
          have HB := Lib.hid (below_then HB.out hb)
          clear hS hb E1
          go_wp2_with fail
          refine (BS.out _ _ _ _ HB.out H6.out).mono ?_
          rintro e w7 ⟨rfl, rfl⟩
          go_wp2_with fail
          refine (CX.out _ HB.out).mono ?_
          rintro e u9 ⟨rfl, hb⟩
          go_wp2_with fail
          go_ret
          exact ⟨rfl, below_then HB.out hb⟩
        · skip
          have hzb : (vdE l != 0) = true := by simpa using hz
          have hM0 : M5 = [] := by
            have := HM5.out
            rw [vd_none hz] at this
            exact List.map_eq_nil_iff.1 this
          subst hM0
          obtain ⟨z, hz2⟩ : ∃ z, z = vdE l := ⟨_, rfl⟩
          rw [← hz2] at hz hzb ⊢
          clear hz2 RB
          go_wp2_with fail
          refine (CX.out _ HB.out).mono ?_
          rintro e u9 ⟨rfl, hb⟩
          go_wp2_with fail
          go_ret
          exact ⟨rfl, below_then HB.out hb⟩

theorem door_met (os : Os) (args : Array Value) : laidMetH Tryd.prog Rows.variantBackRow.laid ((World.laidAll Tryd.prog os Rows.variantBackRow.laid).forCall (fun _ _ => 0) ⟨#[], args, []⟩).memory := by
  rw [MakeChecks.laidMetH_plain _ _ _ (by kernel_rfl)]
  exact laidMet_laidAll _ (by kernel_rfl) (by kernel_rfl)

set_option maxRecDepth 100000 in
theorem lifted (os : Os) (started : os.Started) (H : Type) (enc : TypeId × Value → H) :
    ReturnsInHanded {} Tryd.checked os 6 .any (fun w args => (Rows.variantBackSpec.pre enc Tryd.prog Tryd.f6 [] false w args ∧ laidMetH Tryd.prog Rows.variantBackRow.laid w) ∧ sizedMet enc Tryd.prog Tryd.f6 (OpenSpec.ofChange Rows.variantBackSpec) false w args) (Rows.variantBackSpec.post enc Tryd.prog Tryd.f6 false true false false) := by
  refine returnsInHanded_of_change_and (C := Tryd.checked) (X := fun w _ => laidMetH Tryd.prog Rows.variantBackRow.laid w) (fun _ _ _ hh h => h.of_heap hh) own started (by kernel_rfl) Tryd.func6
    (ChangeSpec.witness_shaped (enc := enc) (C := Tryd.checked) (os := os) (X := fun w _ => laidMetH Tryd.prog Rows.variantBackRow.laid w) false (World.laidAll Tryd.prog os Rows.variantBackRow.laid) #[.slice none 0 0, .slice none 0 0, .int .i64 0] 8 rfl (World.shaped_of_ZipB (by kernel_rfl) (by kernel_rfl)) (by kernel_rfl) (by kernel_rfl) (by kernel_rfl) (door_met os _)) ?_
  intro W base args ds gs before hval0 hW _ _ hL _
  have hval : ∀ (j : Nat) t v, Tryd.f6.params[j]? = some t → args[j]? = some v → Value.okWide Tryd.prog W .any base t v := hval0
  have hW' := hW
  obtain ⟨p, q, hA0, hV, rfl, hfz, hnd⟩ := hW
  have hA : DataW.TrodAll enc Tryd.prog W 0 (fun _ => true) true Tryd.f6.params.toList args.toList ds p := hA0
  rw [Tryd.params6] at hA hval
  obtain ⟨v0, vs0, d0, ds0, p0, q0, hargs, rfl, rfl, h0, r0⟩ := trodAll_cons hA
  obtain ⟨v1, vs1, d1, ds1, p1, q1, rfl, rfl, rfl, h1, r1⟩ := trodAll_cons r0
  obtain ⟨v2, vs2, d2, ds2, p2, q2, rfl, rfl, rfl, h2, r2⟩ := trodAll_cons r1
  obtain ⟨rfl, rfl, rfl⟩ := trodAll_nil r2
  obtain rfl : args = #[v0, v1, v2] := by cases args; simp_all
  obtain ⟨rfl, rfl⟩ := trodVars_none hV
  obtain ⟨a0, len0, cap0, rfl⟩ := okWide_slice Tryd.underlying22 (hval 0 22 v0 rfl rfl)
  have k0 := h0
  have lt0 : ∀ x ∈ p0, x.block < W.heap.size := by obtain ⟨m, hm⟩ := k0; exact DataW.trod_lt m _ _ _ hm
  obtain ⟨z0, w0⟩ := SlD.of_trod Tryd.underlying22 Tryd.underlying28 (by kernel_rfl) rfl rfl rfl (by kernel_rfl) (by kernel_rfl) (by kernel_rfl) Tryd.underlying25 Tryd.underlying3 Tryd.underlying26 rfl rfl rfl rfl rfl (by kernel_rfl) (by kernel_rfl) (by kernel_rfl) (by kernel_rfl) (by kernel_rfl) Tryd.underlying3 Tryd.underlying9 Tryd.underlying3 Tryd.underlying23 Tryd.underlying9 Tryd.underlying62 (by kernel_rfl) rfl rfl (by kernel_rfl) (by kernel_rfl) Tryd.underlying9 Tryd.underlying9 Tryd.underlying53 (by kernel_rfl) rfl rfl rfl (by kernel_rfl) (by kernel_rfl) (by kernel_rfl) Tryd.underlying9 Tryd.underlying4 Tryd.underlying9 h0
  obtain ⟨a1, len1, cap1, rfl⟩ := okWide_slice Tryd.underlying37 (hval 1 37 v1 rfl rfl)
  have k1 := h1
  have lt1 : ∀ x ∈ p1, x.block < W.heap.size := by obtain ⟨m, hm⟩ := k1; exact DataW.trod_lt m _ _ _ hm
  obtain ⟨z1, w1⟩ : ∃ zs, IsRow .u8 W a1 len1 cap1 zs := by
    obtain ⟨fuel, hf⟩ := h1
    rcases open_ints Tryd.underlying37 Tryd.underlying5 (by kernel_rfl) hf with ⟨hcs, _⟩ | ⟨x, l, c, zs, hcs, _, hl, hm, hz, _, hcell, hwz⟩
    · simp [Value.cells] at hcs
      obtain ⟨rfl, rfl, rfl⟩ := hcs
      exact ⟨[], .inl ⟨rfl, rfl, rfl, rfl⟩⟩
    · simp [Value.cells] at hcs
      obtain ⟨rfl, rfl, rfl⟩ := hcs
      exact ⟨zs, .inr ⟨_, rfl, hl, hm, by simpa using hz, hcell, hwz⟩⟩
  obtain ⟨a2, rfl, rfl, rfl, w2⟩ := open_int Tryd.underlying3 (hval 2 3 v2 rfl rfl) h2
  clear hA0 hval0
  refine (walk a0 len0 cap0 z0 a1 len1 cap1 z1 a2 W w0 w1 w2 hL).mono fun e W' ⟨he, bel⟩ => ?_
  subst he
  exact ⟨_, rfl, _, _, _, [], _, [], hW', trodAll_mk1 (shut_bool Tryd.underlying4 _), (trodAll_cons_mk (Below.trod laidOut (by kernel_rfl) (of_decide_eq_true (by kernel_rfl)) k0 bel lt0) (trodAll_cons_mk (Below.trod laidOut (by kernel_rfl) (of_decide_eq_true (by kernel_rfl)) k1 bel lt1) (trodAll_cons_mk (shut_int Tryd.underlying3 w2) trodAll_mk0))), rfl, bel.frame _, fun h => by cases h⟩

theorem over : Rows.variantBackRow.holds Tryd.pinned (OpenSpec.ofChange Rows.variantBackSpec) :=
  OpenClaim.holds_of_wide 6 Tryd.f6 rfl rfl rfl rfl rfl rfl rfl ⟨rfl, rfl, rfl, rfl, rfl⟩ rfl rfl rfl rfl rfl (by kernel_rfl) Tryd.func6 (by kernel_rfl)
    (of_decide_eq_true (by kernel_rfl)) (by unfold Func.isWrapper; first | (rw [if_pos (by decide +kernel)]; kernel_rfl) | (rw [if_neg (by decide +kernel)]; exact ⟨rfl, rfl⟩))
    (fun os started H enc _ => lifted os started H enc)

theorem said : Rows.VariantBackSaid :=
  over

theorem plain (f : FuncId) (fn : Func) (hf : Tryd.pinned.checked.prog.funcNamed "depot/depotlaw20.VariantBack" = some f) (hfn : Tryd.pinned.checked.prog.funcs[f]? = some fn) :
    false = Tryd.pinned.checked.prog.looks [] ∧ ∀ (j : Nat) t, fn.params[j]? = some t → Tryd.pinned.checked.prog.wantsStandIn t = false := by
  obtain rfl : f = 6 := Option.some.inj ((show Tryd.prog.funcNamed "depot/depotlaw20.VariantBack" = some 6 by kernel_rfl).symm.trans hf) |>.symm
  obtain rfl : fn = Tryd.f6 := (Option.some.inj (Tryd.func6.symm.trans hfn)).symm
  refine ⟨by kernel_rfl, fun j t ht => ?_⟩
  rw [Tryd.params6] at ht
  · have hm := Array.mem_of_getElem? ht
    simp only [List.mem_toArray, List.mem_cons, List.not_mem_nil, or_false] at hm
    have all : Tryd.pinned.checked.prog.wantsStandIn 3 = false ∧ Tryd.pinned.checked.prog.wantsStandIn 22 = false ∧ Tryd.pinned.checked.prog.wantsStandIn 37 = false := ⟨by kernel_rfl, by kernel_rfl, by kernel_rfl⟩
    rcases hm with rfl | rfl | rfl
    all_goals first | with_reducible exact all.1 | with_reducible exact all.2.1 | with_reducible exact all.2.2

theorem proved : Rows.VariantBackCardSaid :=
  Claim7.holds_tied_plain_at .later [] _ _ _ _ said (fun _ h => by cases h) (by kernel_rfl) (fun _ h => by cases h) variantBack_row_tie rfl ⟨rfl, rfl⟩ (by kernel_rfl) rfl plain (by kernel_rfl)
#print axioms proved
end Go.Proofs.YthhlcecojeaalaaDoor.variantBack
