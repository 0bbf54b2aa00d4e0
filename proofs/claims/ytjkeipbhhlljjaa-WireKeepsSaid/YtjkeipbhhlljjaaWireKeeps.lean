/-
  The law WireKeeps returns true for every slice of bytes and every width and leaves what it was given as it was. No condition.
-/
import Derived.Test.YtjkeipbhhlljjaaRows
import Derived.WalkKit
import Derived.ProofKit
import Derived.OpenShut
import Derived.ShutString
import Derived.ChangeOld
import Derived.Below
import Derived.Test.YtjkeipbhhlljjaaWirX
namespace Go.Proofs.Ytjkeipbhhlljjaa.wireKeeps
open Go.ChangeShapes Go.WideShapes Go.ChangeAt Go.RowKit
open Go.ChangeMaps (open_string shut_string)
set_option linter.unusedVariables false

theorem own : ownKnob Try.prog.godebug = none := by kernel_rfl
theorem laidOut : laidOutB Try.prog = true := by kernel_rfl

/-- WHAT THE WALK IS TOLD OF A SLICE OF INTEGERS THAT CAME IN: it is nil; or it leads to a row of 'cap' cells, the numbers 'zs' (the first 'len' are its elements, the rest its spare room), each fitting its kind. -/
def IsRow (k : IntKind) (w : World) (a : Option Addr) (len cap : Nat) (zs : List Int) : Prop :=
  (a = none ∧ len = 0 ∧ cap = 0 ∧ zs = []) ∨
  ∃ x, a = some x ∧ len ≤ cap ∧ cap ≤ maxLen ∧ zs.length = cap ∧ (∀ i, i < zs.length → w.cell? (x.add i) = some (.int k (zs.getD i 0))) ∧ ∀ n ∈ zs, (Lit.int k n).wf = true

set_option maxHeartbeats 8000000 in
set_option maxRecDepth 100000 in
theorem walk (a0 : Option Addr) (len0 cap0 : Nat) (z0 : List Int) (a1 : Int) (w : World) (w0 : IsRow .u8 w a0 len0 cap0 z0) (w1 : (Lit.int .i64 a1).wf = true) :
    Calls Try.prog 6 #[.slice a0 len0 cap0, .int .i64 a1] w fun e w' => e = .returned (.bool true) ∧ Below w.heap.size w w' := by
  obtain ⟨l, hs⟩ := Sl8.of_row w0
  obtain ⟨b10, b11⟩ := wf_i64 w1
  have hln := hs.len
  have hcm := hs.cm
  have hcap := hs.cap
  unfold maxLen at hcm
  clear w0 w1
  by_cases k0 : (300 : Int) < (len0 : Int)
  · clear hln
    go_enter Try.func6, Try.ntmps6
    go_wp2_with fail
    refine (ex_any _).mono ?_
    rintro e w1 ⟨rfl, hb⟩
    go_wp2_with fail
    go_ret
    exact ⟨rfl, hb⟩
  · have hl3 : l.length ≤ 300 := by omega
    have HLN := Lib.hid hln
    clear hln
    go_enter Try.func6, Try.ntmps6
    go_wp2_with fail
    refine (new_at a0 len0 cap0 l _ hs (by omega)).mono ?_
    rintro e w1 ⟨R, B1, n1, c1, rfl, hR, hRw, hg1, hs1, hb1, hat1⟩
    have hs := hs.below hb1
    have HR := Lib.hid (And.intro hR (And.intro hRw (And.intro hg1 (And.intro hs1 hat1))))
    have HO := Lib.hid (Own8.start w1 5)
    have hb0 : Below w1.heap.size w1 (w1.alloc (.cells #[] 5)) := (Below.refl _ _).alloc (Nat.le_refl _) _
    clear hR hRw hg1 hs1 hat1
    go_wp2_with (at_builtin; refine wpList_append_sl8 rfl _ _ 22 rfl w1.heap.size 5 Try.underlying22 Try.infoU8 _ rfl [] HO.out a0 len0 cap0 rfl l (hs.alloc _) (by simp; omega) (by simp) w1 hb0 ?_; intro v2 w2 hown hbel hsz2)
    rw [List.nil_append] at hown
    obtain ⟨A2, c2, rfl, hs2, hat2⟩ := hown.out.sl8_at
    obtain ⟨G, hG1, hGA, hGany⟩ := hown.out.any (by have := hsz2; simp at this; omega)
    have HGA := Lib.hid hGA
    have HG2 := Lib.hid hGany
    have HG1 := Lib.hid hG1
    have HB2 := Lib.hid (below_then hb1 hbel)
    have HBEL := Lib.hid hbel
    clear hown hat2 hb0 hsz2 hb1 hbel hGA hGany hG1
    go_wp2_with fail
    refine (new_at A2 _ c2 l _ hs2 (by omega)).mono ?_
    rintro e w3 ⟨S, B3, n3, c3, rfl, hS, hSw, hg3, hs3, hb3, hat3⟩
    have hs2 := hs2.below hb3
    have HSD := Lib.hid (And.intro hS (And.intro hSw (And.intro hg3 (And.intro hs3 hat3))))
    have HB3 := Lib.hid (below_then HB2.out hb3)
    have HB23 := Lib.hid hb3
    clear hS hSw hg3 hs3 hat3 hb3
    go_wp2_with fail
    have HGA3 := Lib.hid (HG2.out.below HB23.out)
    have hGw3 : G < w3.heap.size := HGA3.out.1
    go_loopw [8] (fun i wr => ∃ j : Nat, j ≤ l.length ∧ i = .int .i64 j ∧ Hid (Any8 wr G l.length) ∧ Hid (ButB G w3 wr)) (fun i _ => l.length - (intOf i).toNat)
    case atStart => exact ⟨0, Nat.zero_le _, rfl, HGA3, ButB.refl _ _⟩
    case round =>
      obtain ⟨j, hj, rfl, hany, hbut⟩ := hrel
      by_cases hlt : j < l.length
      · have hA := HGA.out (by omega)
        subst hA
        obtain ⟨x, hcell, hfree⟩ := hany.out.2 j hlt
        have hxy := Lib.hid (xor_byte x)
        have hGr := hany.out.1
        go_wp2_with fail
        go_roundw
        case rel => exact ⟨j + 1, by omega, by go_num, hany.out.set j hxy.out, hbut.out.setCell j _⟩
        case measure => simp [intOf]; omega
      · have hRG : R ≠ G := by have := HG1.out; have := HR.out.2.1; omega
        have hSG : S ≠ G := by have := HG2.out.1; have := HSD.out.1; omega
        have hg1 := (hbut.out.block R (by have := HR.out.2.1; have := HBEL.out.size; have := HB23.out.size; omega) hRG).trans ((HB23.out.block R (by have := HR.out.2.1; have := HBEL.out.size; omega)).trans ((HBEL.out.block R HR.out.2.1).trans HR.out.2.2.1))
        have hs1 := ((HR.out.2.2.2.1.below HBEL.out).below HB23.out).far (fun ad h => by have := (HR.out.2.2.2.2 ad h).2; have := HG1.out; omega) hbut.out
        have hg3 := (hbut.out.block S HSD.out.2.1 hSG).trans HSD.out.2.2.1
        have hs3 := HSD.out.2.2.2.1.far (fun ad h => by have := (HSD.out.2.2.2.2 ad h).1; have := HG2.out.1; omega) hbut.out
        have hhR : Hold1 wr R 63 l := ⟨_, _, _, hg1, hs1⟩
        have hhS : Hold1 wr S 63 l := ⟨_, _, _, hg3, hs3⟩
        have hRS : R ≠ S := by have := HR.out.2.1; have := HSD.out.1; have := HBEL.out.size; omega
        have hwR : w.heap.size ≤ R := HR.out.1
        have hwS : w.heap.size ≤ S := by have := HB2.out.size; have := HSD.out.1; omega
        have hwG : w.heap.size ≤ G := by have := HG1.out; have := HR.out.1; have := HR.out.2.1; omega
        have HB := Lib.hid (HB3.out.trans (hbut.out.below HB3.out.size hwG))
        clear hg1 hs1 hg3 hs3 hany hbut HR HSD HG2 HGA3 HBEL HB23 hGw3 HB2 HB3 hRG hSG
        obtain ⟨E, hE⟩ : ∃ E, E = getE l 0 a1 := ⟨_, rfl⟩
        obtain ⟨V, hV⟩ : ∃ V, V = getV l 0 a1 := ⟨_, rfl⟩
        obtain ⟨M, hM⟩ : ∃ M, M = l.drop (numK l a1) := ⟨_, rfl⟩
        have HE := Lib.hid hE
        have HV := Lib.hid hV
        have HM := Lib.hid hM
        have hMl : M.length ≤ 300 := by rw [hM, List.length_drop]; omega
        clear hE hV hM
        go_wp2_with fail
        refine (num_any R l a1 _ hhR b10 b11).mono ?_
        rintro e w4 ⟨he, hh4, hb4⟩
        rw [← HE.out, ← HV.out] at he
        rw [← HM.out] at hh4
        subst he
        have hhS := hhS.but_other hhR hRS.symm hb4
        have HB := Lib.hid (HB.out.trans (hb4.below HB.out.size hwR))
        clear hb4 hhR
        go_wp2_with fail
        refine (num_any S l a1 _ hhS b10 b11).mono ?_
        rintro e w5 ⟨he, hh5, hb5⟩
        rw [← HE.out, ← HV.out] at he
        rw [← HM.out] at hh5
        subst he
        have hh4 := hh4.but_other hhS hRS hb5
        have HB := Lib.hid (HB.out.trans (hb5.below HB.out.size hwS))
        clear hb5 hhS
        by_cases h0 : E = 0
        · have hlen := get_len (m := l) (k := a1) (by rw [← HE.out]; exact h0)
          have hML : (M.length : Int) = (len0 : Int) - a1 := by
            rw [HM.out, List.length_drop, ← HLN.out]
            unfold numK
            rw [if_pos (by rw [← HE.out]; exact h0)]
            omega
          have t1 : ((M.length : Int) != (len0 : Int) - a1) = false := by rw [hML]; simp
          obtain ⟨hq1, hq2, _⟩ := hlen
          clear hML
          subst h0
          go_wp2_with fail
          refine (left_any R M _ hh4).mono ?_
          rintro e w6 ⟨rfl, rfl⟩
          go_wp2_with fail
          refine (left_any S M _ hh5).mono ?_
          rintro e w6 ⟨rfl, rfl⟩
          go_wp2_with fail
          refine (left_any R M _ hh4).mono ?_
          rintro e w6 ⟨rfl, rfl⟩
          go_wp2_with fail
          refine (left_any R M _ hh4).mono ?_
          rintro e w6 ⟨rfl, rfl⟩
          go_wp2_with fail
          refine (text_any R M _ hh4 (by omega)).mono ?_
          rintro e w6 ⟨he, hh6, hb6⟩
          have HB := Lib.hid (HB.out.trans (hb6.below HB.out.size hwR))
          clear hb6 hh5
          obtain ⟨TE, hTE⟩ : ∃ TE, TE = textE M := ⟨_, rfl⟩
          have HTE := Lib.hid hTE
          rw [← hTE] at he
          clear hTE
          subst he
          by_cases t0 : TE = 0
          · subst t0
            go_wp2_with fail
            refine (ex_any _).mono ?_
            rintro e w7 ⟨rfl, hb7⟩
            have HB := Lib.hid (below_then HB.out hb7)
            clear hb7
            go_wp2_with fail
            go_ret
            exact ⟨rfl, HB.out⟩
          · have t1 : (TE == 0) = false := by simpa using t0
            have hk : textK M = 0 := by unfold textK; rw [if_neg (by rw [← HTE.out]; exact t0)]
            rw [hk, List.drop_zero] at hh6
            clear hk
            go_wp2_with fail
            refine (left_any R M _ hh6).mono ?_
            rintro e w7 ⟨rfl, rfl⟩
            go_wp2_with fail
            refine (ex_any _).mono ?_
            rintro e w7 ⟨rfl, hb7⟩
            have HB := Lib.hid (below_then HB.out hb7)
            clear hb7
            go_wp2_with fail
            go_ret
            exact ⟨rfl, HB.out⟩
        · have u1 : (E == 0) = false := by simpa using h0
          have u2 : (E != 0) = true := by simpa using h0
          have hML : M.length = len0 := by
            rw [HM.out, ← HLN.out]
            unfold numK
            rw [if_neg (by rw [← HE.out]; exact h0)]
            rfl
          have t1 : ((M.length : Int) != (len0 : Int)) = false := by rw [hML]; simp
          clear hML
          go_wp2_with fail
          refine (left_any R M _ hh4).mono ?_
          rintro e w6 ⟨rfl, rfl⟩
          go_wp2_with fail
          refine (left_any S M _ hh5).mono ?_
          rintro e w6 ⟨rfl, rfl⟩
          go_wp2_with fail
          refine (left_any R M _ hh4).mono ?_
          rintro e w6 ⟨rfl, rfl⟩
          go_wp2_with fail
          refine (left_any R M _ hh4).mono ?_
          rintro e w6 ⟨rfl, rfl⟩
          go_wp2_with fail
          refine (text_any R M _ hh4 (by omega)).mono ?_
          rintro e w6 ⟨he, hh6, hb6⟩
          have HB := Lib.hid (HB.out.trans (hb6.below HB.out.size hwR))
          clear hb6 hh5
          obtain ⟨TE, hTE⟩ : ∃ TE, TE = textE M := ⟨_, rfl⟩
          have HTE := Lib.hid hTE
          rw [← hTE] at he
          clear hTE
          subst he
          by_cases t0 : TE = 0
          · subst t0
            go_wp2_with fail
            refine (ex_any _).mono ?_
            rintro e w7 ⟨rfl, hb7⟩
            have HB := Lib.hid (below_then HB.out hb7)
            clear hb7
            go_wp2_with fail
            go_ret
            exact ⟨rfl, HB.out⟩
          · have t1 : (TE == 0) = false := by simpa using t0
            have hk : textK M = 0 := by unfold textK; rw [if_neg (by rw [← HTE.out]; exact t0)]
            rw [hk, List.drop_zero] at hh6
            clear hk
            go_wp2_with fail
            refine (left_any R M _ hh6).mono ?_
            rintro e w7 ⟨rfl, rfl⟩
            go_wp2_with fail
            refine (ex_any _).mono ?_
            rintro e w7 ⟨rfl, hb7⟩
            have HB := Lib.hid (below_then HB.out hb7)
            clear hb7
            go_wp2_with fail
            go_ret
            exact ⟨rfl, HB.out⟩

set_option maxRecDepth 100000 in
theorem lifted (os : Os) (started : os.Started) (H : Type) (enc : TypeId × Value → H) :
    ReturnsInHanded {} Try.checked os 6 .any (Rows.wireKeepsSpec.pre6 enc Try.prog Try.f6 Rows.wireKeepsRow.domain false) (Rows.wireKeepsSpec.post enc Try.prog Try.f6 false true false false) := by
  refine returnsInHanded_of_change (C := Try.checked) own started (by kernel_rfl) Try.func6
    (ChangeSpec.witness6 (enc := enc) (C := Try.checked) false ⟨#[], #[.slice none 0 0, .int .i64 0], []⟩ 8 (by kernel_rfl) (by kernel_rfl) (by kernel_rfl) (by kernel_rfl)) ?_
  intro W base args ds gs before hval0 hW hcnd _
  have hval : ∀ (j : Nat) t v, Try.f6.params[j]? = some t → args[j]? = some v → Value.okWide Try.prog W .any base t v := hval0
  have hW' := hW
  obtain ⟨p, q, hA0, hV, rfl, hfz, hnd⟩ := hW
  have hA : DataW.TrodAll enc Try.prog W 0 (fun _ => true) true Try.f6.params.toList args.toList ds p := hA0
  rw [Try.params6] at hA hval
  obtain ⟨v0, vs0, d0, ds0, p0, q0, hargs, rfl, rfl, h0, r0⟩ := trodAll_cons hA
  obtain ⟨v1, vs1, d1, ds1, p1, q1, rfl, rfl, rfl, h1, r1⟩ := trodAll_cons r0
  obtain ⟨rfl, rfl, rfl⟩ := trodAll_nil r1
  obtain rfl : args = #[v0, v1] := by cases args; simp_all
  obtain ⟨rfl, rfl⟩ := trodVars_none hV
  obtain ⟨a0, len0, cap0, rfl⟩ := okWide_slice Try.underlying22 (hval 0 22 v0 rfl rfl)
  have k0 := h0
  have lt0 : ∀ x ∈ p0, x.block < W.heap.size := by obtain ⟨m, hm⟩ := k0; exact DataW.trod_lt m _ _ _ hm
  obtain ⟨z0, w0⟩ : ∃ zs, IsRow .u8 W a0 len0 cap0 zs := by
    obtain ⟨fuel, hf⟩ := h0
    rcases open_ints Try.underlying22 Try.underlying5 (by kernel_rfl) hf with ⟨hcs, _⟩ | ⟨x, l, c, zs, hcs, _, hl, hm, hz, _, hcell, hwz⟩
    · simp [Value.cells] at hcs
      obtain ⟨rfl, rfl, rfl⟩ := hcs
      exact ⟨[], .inl ⟨rfl, rfl, rfl, rfl⟩⟩
    · simp [Value.cells] at hcs
      obtain ⟨rfl, rfl, rfl⟩ := hcs
      exact ⟨zs, .inr ⟨_, rfl, hl, hm, by simpa using hz, hcell, hwz⟩⟩
  obtain ⟨a1, rfl, rfl, rfl, w1⟩ := open_int Try.underlying3 (hval 1 3 v1 rfl rfl) h1
  clear hA0 hval0
  refine (walk a0 len0 cap0 z0 a1 W w0 w1).mono fun e W' ⟨he, bel⟩ => ?_
  subst he
  exact ⟨_, rfl, _, _, _, [], _, [], hW', trodAll_mk1 (shut_bool Try.underlying4 _), (trodAll_cons_mk (Below.trod laidOut (by kernel_rfl) (of_decide_eq_true (by kernel_rfl)) k0 bel lt0) (trodAll_cons_mk (shut_int Try.underlying3 w1) trodAll_mk0)), rfl, bel.frame _, fun h => by cases h⟩

theorem over : Rows.wireKeepsRow.holds Try.pinned (OpenSpec.ofChange Rows.wireKeepsSpec) :=
  OpenClaim.holds_of_wide 6 Try.f6 rfl rfl rfl rfl rfl rfl rfl ⟨rfl, rfl, rfl, rfl, rfl⟩ rfl rfl rfl rfl rfl (by kernel_rfl) Try.func6 (by kernel_rfl)
    (of_decide_eq_true (by kernel_rfl)) (by unfold Func.isWrapper; first | (rw [if_pos (by decide +kernel)]; kernel_rfl) | (rw [if_neg (by decide +kernel)]; exact ⟨rfl, rfl⟩))
    (fun os started H enc _ => lifted os started H enc)

theorem proved : Rows.WireKeepsSaid := over
#print axioms proved
end Go.Proofs.Ytjkeipbhhlljjaa.wireKeeps
