/-
  The law VariantDecodes (depotlaw20) returns true for every slice of bytes and leaves what it was given as it was. No condition.
-/
import Derived.Test.YthhlcecojeaalaaDoorRows
import Derived.WalkKit
import Derived.ProofKit
import Derived.OpenShut
import Derived.ShutString
import Derived.ChangeOld
import Derived.Below
import Derived.Test.YthhlcecojeaalaaDoorMrgC
import Derived.Test.YthhlcecojeaalaaDoorMrgE
import Derived.Test.YthhlcecojeaalaaDoorMrgF
import Derived.Test.YthhlcecojeaalaaDoorMrgH
import Derived.Test.YthhlcecojeaalaaDoorMrgJ
import Derived.Test.YthhlcecojeaalaaDoorMrgK
import Derived.Test.YthhlcecojeaalaaDoorMrgL
import Derived.Test.YthhlcecojeaalaaDoorMrgZ
import Derived.Test.YthhlcecojeaalaaDoorMrgAD
import Derived.Test.YthhlcecojeaalaaDoorMrgAF
import Derived.Test.YthhlcecojeaalaaDoorMrgAG
import Derived.Test.YthhlcecojeaalaaDoorMrgAH
import Derived.Test.YthhlcecojeaalaaDoorMrgAI
import Derived.Test.YthhlcecojeaalaaDoorMrgAK
import Derived.Test.YthhlcecojeaalaaDoorMrgAL
import Derived.Test.YthhlcecojeaalaaDoorMrgAN
import Derived.Test.YthhlcecojeaalaaDoorMrgAO
import Derived.Test.YthhlcecojeaalaaDoorMrgAQ
import Derived.Test.YthhlcecojeaalaaDoorMrgAR
import Derived.Test.YthhlcecojeaalaaDoorMrgAS
import Derived.Test.YthhlcecojeaalaaDoorMrgAT
import Derived.Test.YthhlcecojeaalaaDoorCards
import Derived.Test.YthhlcecojeaalaaDoorTie
import Derived.LaidMore
import Derived.Lib.LaidTab
import Derived.Stop.Joined
import Derived.Lay
set_option linter.unusedSimpArgs false
set_option linter.unusedVariables false
namespace Go.Proofs.YthhlcecojeaalaaDoor.variantDecodes
open Go.ChangeShapes Go.WideShapes Go.ChangeAt Go.RowKit
open Go.ChangeMaps (open_string shut_string)
set_option linter.unusedVariables false

theorem own : ownKnob Tryd.prog.godebug = none := by kernel_rfl
theorem laidOut : laidOutB Tryd.prog = true := by kernel_rfl

def IsRow (k : IntKind) (w : World) (a : Option Addr) (len cap : Nat) (zs : List Int) : Prop :=
  (a = none ∧ len = 0 ∧ cap = 0 ∧ zs = []) ∨
  ∃ x, a = some x ∧ len ≤ cap ∧ cap ≤ maxLen ∧ zs.length = cap ∧ (∀ i, i < zs.length → w.cell? (x.add i) = some (.int k (zs.getD i 0))) ∧ ∀ n ∈ zs, (Lit.int k n).wf = true

set_option maxHeartbeats 8000000 in
set_option maxRecDepth 100000 in
theorem walk (a0 : Option Addr) (len0 cap0 : Nat) (z0 : List Int) (w : World) (w0 : IsRow .u8 w a0 len0 cap0 z0) (hL : laidMetH Tryd.prog Rows.variantDecodesRow.laid w) :
    Calls Tryd.prog 5 #[.slice a0 len0 cap0] w fun e w' => e = .returned (.bool true) ∧ Below w.heap.size w w' := by
  have HT := Lib.hid (vntTabs hL)
  clear hL
  obtain ⟨l, hs⟩ := Sl8.of_row w0
  have hlen := hs.len
  have HB : Hid (Below w.heap.size w w) := Below.refl _ _
  have CX := Lib.hid (fun W (hW : Below w.heap.size w W) => ex20_any W (HT.out.kept hW))
  clear w0
  by_cases k0 : (3000 : Int) < (len0 : Int)
  · clear hlen hs
    go_enter Tryd.func5, Tryd.ntmps5
    go_wp2_with fail
    refine (CX.out _ HB.out).mono ?_
    rintro e w1 ⟨rfl, hb⟩
    go_wp2_with fail
    go_ret
    exact ⟨rfl, hb⟩
  · have C1 := Lib.hid (vntD_any a0 len0 cap0 l w hs (by omega) HT.out)
    have C2 := Lib.hid (fun W (hW : Below w.heap.size w W) => r_vdecode a0 len0 cap0 l W (hs.below hW) (by omega))
    have hok := vd_len l
    have C3 := Lib.hid (fun A B n m c d (L M : List Sd) W (h : SlD W A n c L) (h' : SlD W B m d M) (h1 : L.map (fun z => z.x) = vdL l) (h2 : M.map (fun z => z.x) = vdL l) => r_vsame A B n c m d L M W h h' (h1.trans h2.symm) (by
      have := h.len
      have e1 := congrArg List.length h1
      rw [List.length_map] at e1
      have := hok.1
      omega) (fun y hy => by
      have hm : y.x ∈ vdL l := by rw [← h1]; exact List.mem_map.2 ⟨y, hy, rfl⟩
      have := hok.2 y.x hm
      omega))
    unfold IsDe at C1
    generalize vdL l = X at *
    generalize vdE l = er at *
    have hee : (er == er) = true := by simp
    clear hok hlen hs
    go_enter Tryd.func5, Tryd.ntmps5
    go_wp2_with fail
    refine C1.out.mono ?_
    rintro e w1 ⟨A1, c1, M1, rfl, hS, hM, hb⟩
    have H1 := Lib.hid hS
    have HM1 := Lib.hid hM
    have HB := Lib.hid hb
    clear hS hM hb C1
    obtain ⟨q1, hq1⟩ : ∃ q, q = M1.length := ⟨_, rfl⟩
    rw [← hq1] at H1 ⊢
    clear hq1
    go_wp2_with fail
    refine (C2.out _ HB.out).mono ?_
    rintro e w2 ⟨A2, q2, c2, M2, rfl, hS, hM, hb⟩
    have H2 := Lib.hid hS
    have HM2 := Lib.hid hM
    have H1 := Lib.hid (H1.out.below hb)
    have HB := Lib.hid (below_then HB.out hb)
    clear hS hM hb C2
    go_wp2_with fail
    refine (C3.out _ _ _ _ _ _ _ _ _ H1.out H2.out HM1.out HM2.out).mono ?_
    rintro e w3 ⟨rfl, hb⟩
    have HB := Lib.hid (below_then HB.out hb)
    clear hb C3
    go_wp2_with fail
    refine (CX.out _ HB.out).mono ?_
    rintro e w4 ⟨rfl, hb⟩
    go_wp2_with fail
    go_ret
    exact ⟨rfl, below_then HB.out hb⟩

theorem door_met (os : Os) (args : Array Value) : laidMetH Tryd.prog Rows.variantDecodesRow.laid ((World.laidAll Tryd.prog os Rows.variantDecodesRow.laid).forCall (fun _ _ => 0) ⟨#[], args, []⟩).memory := by
  rw [MakeChecks.laidMetH_plain _ _ _ (by kernel_rfl)]
  exact laidMet_laidAll _ (by kernel_rfl) (by kernel_rfl)

set_option maxRecDepth 100000 in
theorem lifted (os : Os) (started : os.Started) (H : Type) (enc : TypeId × Value → H) :
    ReturnsInHanded {} Tryd.checked os 5 .any (fun w args => (Rows.variantDecodesSpec.pre enc Tryd.prog Tryd.f5 [] false w args ∧ laidMetH Tryd.prog Rows.variantDecodesRow.laid w) ∧ sizedMet enc Tryd.prog Tryd.f5 (OpenSpec.ofChange Rows.variantDecodesSpec) false w args) (Rows.variantDecodesSpec.post enc Tryd.prog Tryd.f5 false true false false) := by
  refine returnsInHanded_of_change_and (C := Tryd.checked) (X := fun w _ => laidMetH Tryd.prog Rows.variantDecodesRow.laid w) (fun _ _ _ hh h => h.of_heap hh) own started (by kernel_rfl) Tryd.func5
    (ChangeSpec.witness_shaped (enc := enc) (C := Tryd.checked) (os := os) (X := fun w _ => laidMetH Tryd.prog Rows.variantDecodesRow.laid w) false (World.laidAll Tryd.prog os Rows.variantDecodesRow.laid) #[.slice none 0 0] 8 rfl (World.shaped_of_ZipB (by kernel_rfl) (by kernel_rfl)) (by kernel_rfl) (by kernel_rfl) (by kernel_rfl) (door_met os _)) ?_
  intro W base args ds gs before hval0 hW _ _ hL _
  have hval : ∀ (j : Nat) t v, Tryd.f5.params[j]? = some t → args[j]? = some v → Value.okWide Tryd.prog W .any base t v := hval0
  have hW' := hW
  obtain ⟨p, q, hA0, hV, rfl, hfz, hnd⟩ := hW
  have hA : DataW.TrodAll enc Tryd.prog W 0 (fun _ => true) true Tryd.f5.params.toList args.toList ds p := hA0
  rw [Tryd.params5] at hA hval
  obtain ⟨v0, vs0, d0, ds0, p0, q0, hargs, rfl, rfl, h0, r0⟩ := trodAll_cons hA
  obtain ⟨rfl, rfl, rfl⟩ := trodAll_nil r0
  obtain rfl : args = #[v0] := by cases args; simp_all
  obtain ⟨rfl, rfl⟩ := trodVars_none hV
  obtain ⟨a0, len0, cap0, rfl⟩ := okWide_slice Tryd.underlying37 (hval 0 37 v0 rfl rfl)
  have k0 := h0
  have lt0 : ∀ x ∈ p0, x.block < W.heap.size := by obtain ⟨m, hm⟩ := k0; exact DataW.trod_lt m _ _ _ hm
  obtain ⟨z0, w0⟩ : ∃ zs, IsRow .u8 W a0 len0 cap0 zs := by
    obtain ⟨fuel, hf⟩ := h0
    rcases open_ints Tryd.underlying37 Tryd.underlying5 (by kernel_rfl) hf with ⟨hcs, _⟩ | ⟨x, l, c, zs, hcs, _, hl, hm, hz, _, hcell, hwz⟩
    · simp [Value.cells] at hcs
      obtain ⟨rfl, rfl, rfl⟩ := hcs
      exact ⟨[], .inl ⟨rfl, rfl, rfl, rfl⟩⟩
    · simp [Value.cells] at hcs
      obtain ⟨rfl, rfl, rfl⟩ := hcs
      exact ⟨zs, .inr ⟨_, rfl, hl, hm, by simpa using hz, hcell, hwz⟩⟩
  clear hA0 hval0
  refine (walk a0 len0 cap0 z0 W w0 hL).mono fun e W' ⟨he, bel⟩ => ?_
  subst he
  exact ⟨_, rfl, _, _, _, [], _, [], hW', trodAll_mk1 (shut_bool Tryd.underlying4 _), (trodAll_cons_mk (Below.trod laidOut (by kernel_rfl) (of_decide_eq_true (by kernel_rfl)) k0 bel lt0) trodAll_mk0), rfl, bel.frame _, fun h => by cases h⟩

theorem over : Rows.variantDecodesRow.holds Tryd.pinned (OpenSpec.ofChange Rows.variantDecodesSpec) :=
  OpenClaim.holds_of_wide 5 Tryd.f5 rfl rfl rfl rfl rfl rfl rfl ⟨rfl, rfl, rfl, rfl, rfl⟩ rfl rfl rfl rfl rfl (by kernel_rfl) Tryd.func5 (by kernel_rfl)
    (of_decide_eq_true (by kernel_rfl)) (by unfold Func.isWrapper; first | (rw [if_pos (by decide +kernel)]; kernel_rfl) | (rw [if_neg (by decide +kernel)]; exact ⟨rfl, rfl⟩))
    (fun os started H enc _ => lifted os started H enc)

theorem said : Rows.VariantDecodesSaid :=
  over

theorem plain (f : FuncId) (fn : Func) (hf : Tryd.pinned.checked.prog.funcNamed "depot/depotlaw20.VariantDecodes" = some f) (hfn : Tryd.pinned.checked.prog.funcs[f]? = some fn) :
    false = Tryd.pinned.checked.prog.looks [] ∧ ∀ (j : Nat) t, fn.params[j]? = some t → Tryd.pinned.checked.prog.wantsStandIn t = false := by
  obtain rfl : f = 5 := Option.some.inj ((show Tryd.prog.funcNamed "depot/depotlaw20.VariantDecodes" = some 5 by kernel_rfl).symm.trans hf) |>.symm
  obtain rfl : fn = Tryd.f5 := (Option.some.inj (Tryd.func5.symm.trans hfn)).symm
  refine ⟨by kernel_rfl, fun j t ht => ?_⟩
  rw [Tryd.params5] at ht
  · obtain rfl : t = 37 := by simpa using Array.mem_of_getElem? ht
    exact (show Tryd.prog.wantsStandIn 37 = false by kernel_rfl)

theorem proved : Rows.VariantDecodesCardSaid :=
  Claim7.holds_tied_plain_at .later [] _ _ _ _ said (fun _ h => by cases h) (by kernel_rfl) (fun _ h => by cases h) variantDecodes_row_tie rfl ⟨rfl, rfl⟩ (by kernel_rfl) rfl plain (by kernel_rfl)
#print axioms proved
end Go.Proofs.YthhlcecojeaalaaDoor.variantDecodes
