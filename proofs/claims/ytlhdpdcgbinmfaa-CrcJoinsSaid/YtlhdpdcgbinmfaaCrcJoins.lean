/-
  The law CrcJoins returns true for every two slices of bytes and leaves what it was given as it was. No condition.
-/
import Derived.Test.YtlhdpdcgbinmfaaRows
import Derived.WalkKit
import Derived.ProofKit
import Derived.OpenShut
import Derived.ShutString
import Derived.ChangeOld
import Derived.Below
import Derived.Test.YtlhdpdcgbinmfaaCrcX
namespace Go.Proofs.Ytlhdpdcgbinmfaa.crcJoins
open Go.ChangeShapes Go.WideShapes Go.ChangeAt Go.RowKit
open Go.ChangeMaps (open_string shut_string)
set_option linter.unusedVariables false

theorem own : ownKnob Try.prog.godebug = none := by kernel_rfl
theorem laidOut : laidOutB Try.prog = true := by kernel_rfl

/-- WHAT THE WALK IS TOLD OF A SLICE OF INTEGERS THAT CAME IN: it is nil; or it leads to a row of 'cap' cells, the numbers 'zs' (the first 'len' are its elements, the rest its spare room), each fitting its kind. -/
def IsRow (k : IntKind) (w : World) (a : Option Addr) (len cap : Nat) (zs : List Int) : Prop :=
  (a = none ∧ len = 0 ∧ cap = 0 ∧ zs = []) ∨
  ∃ x, a = some x ∧ len ≤ cap ∧ cap ≤ maxLen ∧ zs.length = cap ∧ (∀ i, i < zs.length → w.cell? (x.add i) = some (.int k (zs.getD i 0))) ∧ ∀ n ∈ zs, (Lit.int k n).wf = true

set_option maxHeartbeats 8000000 in
set_option maxRecDepth 100000 in
theorem walk (a0 : Option Addr) (len0 cap0 : Nat) (z0 : List Int) (a1 : Option Addr) (len1 cap1 : Nat) (z1 : List Int) (w : World) (w0 : IsRow .u8 w a0 len0 cap0 z0) (w1 : IsRow .u8 w a1 len1 cap1 z1) :
    Calls Try.prog 4 #[.slice a0 len0 cap0, .slice a1 len1 cap1] w fun e w' => e = .returned (.bool true) ∧ Below w.heap.size w w' := by
  obtain ⟨l, hs⟩ := Sl8.of_row w0
  obtain ⟨r, ht⟩ := Sl8.of_row w1
  have hln := hs.len
  have hcm := hs.cm
  have hcap := hs.cap
  have hln1 := ht.len
  have hcm1 := ht.cm
  have hcap1 := ht.cap
  unfold maxLen at hcm hcm1
  clear w0 w1
  by_cases k0 : (1000 : Int) < (len0 : Int)
  · clear hln hln1
    go_enter Try.func4, Try.ntmps4
    go_wp2_with fail
    refine (ex_any _).mono ?_
    rintro e w1 ⟨rfl, hb⟩
    go_wp2_with fail
    go_ret
    exact ⟨rfl, hb⟩
  · by_cases k1 : (1000 : Int) < (len1 : Int)
    · clear hln hln1
      go_enter Try.func4, Try.ntmps4
      go_wp2_with fail
      refine (ex_any _).mono ?_
      rintro e w1 ⟨rfl, hb⟩
      go_wp2_with fail
      go_ret
      exact ⟨rfl, hb⟩
    · have hl1 : l.length ≤ 1000 := by omega
      have hr1 : r.length ≤ 1000 := by omega
      have HA := Lib.hid hs
      have HB := Lib.hid ht
      have HO := Lib.hid (Own8.start w 5)
      have hb0 : Below w.heap.size w (w.alloc (.cells #[] 5)) := (Below.refl _ _).alloc (Nat.le_refl _) _
      obtain ⟨n, hn⟩ : ∃ n : Int, n = (sumN (l ++ r) : Int) := ⟨_, rfl⟩
      have hn0 : 0 ≤ n := by rw [hn]; exact Int.natCast_nonneg _
      have hn1 : n < 4294967296 := by rw [hn]; have := sumN_lt (l ++ r); omega
      obtain ⟨m, hm⟩ : ∃ m : Nat, m = sumN l := ⟨_, rfl⟩
      have HN := Lib.hid hn
      have HM := Lib.hid hm
      have HJ := Lib.hid (show (moreN (m : Int) r : Int) = n by rw [hm, hn, more_sum l r])
      have HK := Lib.hid (show moreN (m : Int) [] = m by rw [hm]; exact more_nil l)
      clear hln hln1 hs ht hn hm
      go_enter Try.func4, Try.ntmps4
      go_wp2_with (at_builtin; first | (refine wpList_append_sl8 rfl _ _ 22 rfl w.heap.size 5 Try.underlying22 Try.infoU8 _ rfl [] HO.out a0 len0 cap0 rfl l (HA.out.alloc _) (by simp; omega) (by simp) w hb0 ?_; intro v1 w1 hown1 hbel1 hsz1) | (refine wpList_append_sl8 rfl _ _ 22 rfl w.heap.size 5 Try.underlying22 Try.infoU8 v1 rfl l hown1.out a1 len1 cap1 rfl r (HB.out.below hbel1) (by omega) (by have := hbel1.size; omega) w hbel1 ?_; intro v2 w2 hown2 hbel2 hsz2))
      obtain ⟨A2, c2, rfl, hs2⟩ := hown2.out.sl8
      have hs := HA.out.below hbel2
      have ht := HB.out.below hbel2
      have HB2 := Lib.hid hbel2
      clear hown2 hown1 hbel1 hbel2 hsz1 hsz2 hb0 HA HB HO
      go_wp2_with fail
      refine (sum_any _ _ _ (l ++ r) _ hs2).mono ?_
      rintro e w3 ⟨he, rfl⟩
      rw [← HN.out] at he
      subst he
      go_wp2_with fail
      refine (sum_any _ _ _ l _ hs).mono ?_
      rintro e w3 ⟨he, rfl⟩
      rw [← HM.out] at he
      subst he
      go_wp2_with fail
      refine (more_any _ _ _ r (m : Int) _ ht).mono ?_
      rintro e w3 ⟨he, rfl⟩
      rw [HJ.out] at he
      subst he
      go_wp2_with fail
      refine (sum_any _ _ _ l _ hs).mono ?_
      rintro e w3 ⟨he, rfl⟩
      rw [← HM.out] at he
      subst he
      go_wp2_with fail
      refine (sum_any _ _ _ l _ hs).mono ?_
      rintro e w3 ⟨he, rfl⟩
      rw [← HM.out] at he
      subst he
      go_wp2_with fail
      refine (more_any none 0 0 [] (m : Int) _ (Sl8.none_ _)).mono ?_
      rintro e w3 ⟨he, rfl⟩
      rw [HK.out] at he
      subst he
      go_wp2_with fail
      refine (ex_any _).mono ?_
      rintro e w3 ⟨rfl, hb3⟩
      have hb := below_then HB2.out hb3
      clear hb3
      go_wp2_with fail
      go_ret
      exact ⟨rfl, hb⟩

set_option maxRecDepth 100000 in
theorem lifted (os : Os) (started : os.Started) (H : Type) (enc : TypeId × Value → H) :
    ReturnsInHanded {} Try.checked os 4 .any (Rows.crcJoinsSpec.pre6 enc Try.prog Try.f4 Rows.crcJoinsRow.domain false) (Rows.crcJoinsSpec.post enc Try.prog Try.f4 false true false false) := by
  refine returnsInHanded_of_change (C := Try.checked) own started (by kernel_rfl) Try.func4
    (ChangeSpec.witness6 (enc := enc) (C := Try.checked) false ⟨#[], #[.slice none 0 0, .slice none 0 0], []⟩ 8 (by kernel_rfl) (by kernel_rfl) (by kernel_rfl) (by kernel_rfl)) ?_
  intro W base args ds gs before hval0 hW hcnd _
  have hval : ∀ (j : Nat) t v, Try.f4.params[j]? = some t → args[j]? = some v → Value.okWide Try.prog W .any base t v := hval0
  have hW' := hW
  obtain ⟨p, q, hA0, hV, rfl, hfz, hnd⟩ := hW
  have hA : DataW.TrodAll enc Try.prog W 0 (fun _ => true) true Try.f4.params.toList args.toList ds p := hA0
  rw [Try.params4] at hA hval
  obtain ⟨v0, vs0, d0, ds0, p0, q0, hargs, rfl, rfl, h0, r0⟩ := trodAll_cons hA
  obtain ⟨v1, vs1, d1, ds1, p1, q1, rfl, rfl, rfl, h1, r1⟩ := trodAll_cons r0
  obtain ⟨rfl, rfl, rfl⟩ := trodAll_nil r1
  obtain rfl : args = #[v0, v1] := by cases args; simp_all
  obtain ⟨rfl, rfl⟩ := trodVars_none hV
  obtain ⟨a0, len0, cap0, rfl⟩ := okWide_slice Try.underlying22 (hval 0 22 v0 rfl rfl)
  have k0 := h0
  have lt0 : ∀ x ∈ p0, x.block < W.heap.size := by obtain ⟨m, hm⟩ := k0; exact DataW.trod_lt m _ _ _ hm
  obtain ⟨z0, w0⟩ : ∃ zs, IsRow .u8 W a0 len0 cap0 zs := by
    obtain ⟨fuel, hf⟩ := h0
    rcases open_ints Try.underlying22 Try.underlying5 (by kernel_rfl) hf with ⟨hcs, _⟩ | ⟨x, l, c, zs, hcs, _, hl, hm, hz, _, hcell, hwz⟩
    · simp [Value.cells] at hcs
      obtain ⟨rfl, rfl, rfl⟩ := hcs
      exact ⟨[], .inl ⟨rfl, rfl, rfl, rfl⟩⟩
    · simp [Value.cells] at hcs
      obtain ⟨rfl, rfl, rfl⟩ := hcs
      exact ⟨zs, .inr ⟨_, rfl, hl, hm, by simpa using hz, hcell, hwz⟩⟩
  obtain ⟨a1, len1, cap1, rfl⟩ := okWide_slice Try.underlying22 (hval 1 22 v1 rfl rfl)
  have k1 := h1
  have lt1 : ∀ x ∈ p1, x.block < W.heap.size := by obtain ⟨m, hm⟩ := k1; exact DataW.trod_lt m _ _ _ hm
  obtain ⟨z1, w1⟩ : ∃ zs, IsRow .u8 W a1 len1 cap1 zs := by
    obtain ⟨fuel, hf⟩ := h1
    rcases open_ints Try.underlying22 Try.underlying5 (by kernel_rfl) hf with ⟨hcs, _⟩ | ⟨x, l, c, zs, hcs, _, hl, hm, hz, _, hcell, hwz⟩
    · simp [Value.cells] at hcs
      obtain ⟨rfl, rfl, rfl⟩ := hcs
      exact ⟨[], .inl ⟨rfl, rfl, rfl, rfl⟩⟩
    · simp [Value.cells] at hcs
      obtain ⟨rfl, rfl, rfl⟩ := hcs
      exact ⟨zs, .inr ⟨_, rfl, hl, hm, by simpa using hz, hcell, hwz⟩⟩
  clear hA0 hval0
  refine (walk a0 len0 cap0 z0 a1 len1 cap1 z1 W w0 w1).mono fun e W' ⟨he, bel⟩ => ?_
  subst he
  exact ⟨_, rfl, _, _, _, [], _, [], hW', trodAll_mk1 (shut_bool Try.underlying4 _), (trodAll_cons_mk (Below.trod laidOut (by kernel_rfl) (of_decide_eq_true (by kernel_rfl)) k0 bel lt0) (trodAll_cons_mk (Below.trod laidOut (by kernel_rfl) (of_decide_eq_true (by kernel_rfl)) k1 bel lt1) trodAll_mk0)), rfl, bel.frame _, fun h => by cases h⟩

theorem over : Rows.crcJoinsRow.holds Try.pinned (OpenSpec.ofChange Rows.crcJoinsSpec) :=
  OpenClaim.holds_of_wide 4 Try.f4 rfl rfl rfl rfl rfl rfl rfl ⟨rfl, rfl, rfl, rfl, rfl⟩ rfl rfl rfl rfl rfl (by kernel_rfl) Try.func4 (by kernel_rfl)
    (of_decide_eq_true (by kernel_rfl)) (by unfold Func.isWrapper; first | (rw [if_pos (by decide +kernel)]; kernel_rfl) | (rw [if_neg (by decide +kernel)]; exact ⟨rfl, rfl⟩))
    (fun os started H enc _ => lifted os started H enc)

theorem proved : Rows.CrcJoinsSaid := over
#print axioms proved
end Go.Proofs.Ytlhdpdcgbinmfaa.crcJoins
