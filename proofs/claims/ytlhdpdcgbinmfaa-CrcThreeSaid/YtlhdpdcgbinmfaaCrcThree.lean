/-
  The law CrcThree returns true for every three slices of bytes and leaves what it was given as it was. No condition.
-/
import Derived.Test.YtlhdpdcgbinmfaaRows
import Derived.WalkKit
import Derived.ProofKit
import Derived.OpenShut
import Derived.ShutString
import Derived.ChangeOld
import Derived.Below
import Derived.Test.YtlhdpdcgbinmfaaCrcY
import Derived.Laws.Cover1
namespace Go.Proofs.Ytlhdpdcgbinmfaa.crcThree
open Go.ChangeShapes Go.WideShapes Go.ChangeAt Go.RowKit
open Go.ChangeMaps (open_string shut_string)
set_option linter.unusedVariables false

theorem own : ownKnob Try.prog.godebug = none := by kernel_rfl
theorem laidOut : laidOutB Try.prog = true := by kernel_rfl

/-- WHAT THE WALK IS TOLD OF A SLICE OF INTEGERS THAT CAME IN: it is nil; or it leads to a row of 'cap' cells, the numbers 'zs' (the first 'len' are its elements, the rest its spare room), each fitting its kind. -/
def IsRow (k : IntKind) (w : World) (a : Option Addr) (len cap : Nat) (zs : List Int) : Prop :=
  (a = none ∧ len = 0 ∧ cap = 0 ∧ zs = []) ∨
  ∃ x, a = some x ∧ len ≤ cap ∧ cap ≤ maxLen ∧ zs.length = cap ∧ (∀ i, i < zs.length → w.cell? (x.add i) = some (.int k (zs.getD i 0))) ∧ ∀ n ∈ zs, (Lit.int k n).wf = true

set_option maxHeartbeats 8000000 in
set_option maxRecDepth 100000 in
theorem walk (a0 : Option Addr) (len0 cap0 : Nat) (z0 : List Int) (a1 : Option Addr) (len1 cap1 : Nat) (z1 : List Int) (a2 : Option Addr) (len2 cap2 : Nat) (z2 : List Int) (w : World) (w0 : IsRow .u8 w a0 len0 cap0 z0) (w1 : IsRow .u8 w a1 len1 cap1 z1) (w2 : IsRow .u8 w a2 len2 cap2 z2) :
    Calls Try.prog 5 #[.slice a0 len0 cap0, .slice a1 len1 cap1, .slice a2 len2 cap2] w fun e w' => e = .returned (.bool true) ∧ Below w.heap.size w w' := by
  obtain ⟨la, ha⟩ := Sl8.of_row w0
  obtain ⟨lb, hb⟩ := Sl8.of_row w1
  obtain ⟨lc, hc⟩ := Sl8.of_row w2
  have hna := ha.len
  have hnb := hb.len
  have hnc := hc.len
  have hca := ha.cap
  have hcb := hb.cap
  have hcc := hc.cap
  have hma := ha.cm
  have hmb := hb.cm
  have hmc := hc.cm
  unfold maxLen at hma hmb hmc
  clear w0 w1 w2
  obtain ⟨N, hN, hNa, hNb, hNc⟩ : ∃ N : Nat, (if (len2 : Int) < (if (len1 : Int) < (len0 : Int) then (len1 : Int) else (len0 : Int)) then (len2 : Int) else (if (len1 : Int) < (len0 : Int) then (len1 : Int) else (len0 : Int))) = (N : Int) ∧ N ≤ len0 ∧ N ≤ len1 ∧ N ≤ len2 := ⟨min len0 (min len1 len2), by split <;> split at * <;> omega, by omega, by omega, by omega⟩
  have km : ∀ (W : World) (ts : Array TypeId) (t : TypeId), (Builtin.min_ ts t #[.int .i64 (len0 : Int), .int .i64 (len1 : Int), .int .i64 (len2 : Int)]).run Try.prog W = .ok (.int .i64 (N : Int)) W := fun W ts t => by rw [run_min_int3, hN]
  clear hN
  by_cases k0 : (500 : Int) < (N : Int)
  · clear hna hnb hnc
    go_enter Try.func5, Try.ntmps5
    go_wp2_with fail
    refine (ex_any _).mono ?_
    rintro e w1 ⟨rfl, hb⟩
    go_wp2_with fail
    go_ret
    exact ⟨rfl, hb⟩
  · have HA := Lib.hid ha
    have HB := Lib.hid hb
    have HC := Lib.hid hc
    have HNA := Lib.hid hna
    have HNB := Lib.hid hnb
    have HNC := Lib.hid hnc
    clear ha hb hc hna hnb hnc
    go_enter Try.func5, Try.ntmps5
    go_wp2_with fail
    go_loopw [8, 9] (fun v i wr => ∃ (j : Nat) (X : List UInt8), j ≤ N ∧ i = .int .i64 j ∧ X.length = j ∧ Hid (X = x3L la lb lc j) ∧ Hid (Own8 wr w.heap.size 5 v X) ∧ Below w.heap.size w wr) (fun _ i _ => N - (intOf i).toNat)
    case atStart => exact ⟨0, [], Nat.zero_le _, rfl, rfl, rfl, World.ownsRow_nil _ _ _ _, Below.refl _ _⟩
    case round =>
      obtain ⟨j, X, hj, rfl, hXl, hX, hown, hbel⟩ := hrel
      have hbs := hbel.size
      by_cases hlt : j < N
      · obtain ⟨x, hx⟩ : ∃ x, x = la[j]'(by have := HNA.out; omega) := ⟨_, rfl⟩
        obtain ⟨y, hy⟩ : ∃ y, y = lb[j]'(by have := HNB.out; omega) := ⟨_, rfl⟩
        obtain ⟨z, hz⟩ : ∃ z, z = lc[j]'(by have := HNC.out; omega) := ⟨_, rfl⟩
        have hx2 : la[j]? = some x := by rw [hx]; exact List.getElem?_eq_getElem _
        have hy2 : lb[j]? = some y := by rw [hy]; exact List.getElem?_eq_getElem _
        have hz2 : lc[j]? = some z := by rw [hz]; exact List.getElem?_eq_getElem _
        have wa := HA.out.below hbel
        have wb := HB.out.below hbel
        have wc := HC.out.below hbel
        obtain ⟨ada, rfl, ca⟩ := wa.at_ (by omega)
        obtain ⟨adb, rfl, cb⟩ := wb.at_ (by omega)
        obtain ⟨adc, rfl, cc⟩ := wc.at_ (by omega)
        have ka := ca j x hx2
        have kb := cb j y hy2
        have kc := cc j z hz2
        unfold byV at ka kb kc
        have HX := Lib.hid (show X ++ [x ^^^ y ^^^ z] = x3L la lb lc (j + 1) by rw [hX.out, x3_succ la lb lc j hx2 hy2 hz2])
        have e1 : bits .xor .u8 (x.toNat : Int) (y.toNat : Int) = ((x.toNat ^^^ y.toNat : Nat) : Int) := by rw [xor_u8, UInt8.toNat_xor]
        have e2 : bits .xor .u8 ((x.toNat ^^^ y.toNat : Nat) : Int) (z.toNat : Int) = ((x.toNat ^^^ y.toNat ^^^ z.toNat : Nat) : Int) := by rw [← UInt8.toNat_xor, xor_u8, UInt8.toNat_xor]
        have hbx := byte_wf x
        have hby := byte_wf y
        have hbz := byte_wf z
        have hbxy := byte_wf (x ^^^ y)
        have HBB := Lib.hid (hbel.alloc hbs (Obj.cells #[.int .u8 ((x.toNat ^^^ y.toNat ^^^ z.toNat : Nat) : Int)] 5))
        have HS := Lib.hid (Sl8.one wr 5 (x ^^^ y ^^^ z) (z := ((x.toNat ^^^ y.toNat ^^^ z.toNat : Nat) : Int)) (by rw [UInt8.toNat_xor, UInt8.toNat_xor]))
        have HX2 := Lib.hid hx2
        have HY2 := Lib.hid hy2
        have HZ2 := Lib.hid hz2
        clear hx hy hz hx2 hy2 hz2 wa wb wc ca cb cc
        have i0 : (0 : Int) ≤ (j : Int) := by omega
        have i1 : (j : Int) < (len0 : Int) := by omega
        have i2 : (j : Int) < (len1 : Int) := by omega
        have i3 : (j : Int) < (len2 : Int) := by omega
        go_wp2_with fail
        go_region_held3 (fun w' => w'.cell? (ada.add j) = some (.int .u8 (x.toNat : Int)) ∧ w'.cell? (adb.add j) = some (.int .u8 (y.toNat : Int)) ∧ w'.cell? (adc.add j) = some (.int .u8 (z.toNat : Int))) (first | go_keep | exact ⟨(HA.out.below hbel3).cells j x HX2.out, (HB.out.below hbel3).cells j y HY2.out, (HC.out.below hbel3).cells j z HZ2.out⟩)
          ((refine step_append_sl8 (by rfl) _ _ 22 (by rfl) w.heap.size 5 Try.underlying22 Try.infoU8 _ (by rfl) X ((hown.out.alloc _).drew) _ 1 1 (by rfl) [x ^^^ y ^^^ z] HS.out.drew (by omega) (by simp; omega) (by simp; omega) w HBB.out.drew ?_; intro v2 w3 hown3 hbel3 hsz3))
        go_wp2_with fail
        go_roundw
        case rel => exact ⟨j + 1, X ++ [x ^^^ y ^^^ z], by omega, by go_num, by simp; omega, HX, hown3, hbel3⟩
        case measure => simp [intOf]; omega
      · obtain rfl : N = j := by omega
        obtain ⟨A2, c2, rfl, hs2⟩ := hown.out.sl8
        rw [hXl] at hs2 ⊢
        clear hXl
        have ha := HA.out.below hbel
        have hb := HB.out.below hbel
        have hc := HC.out.below hbel
        have HBL := Lib.hid hbel
        have sa := ha.upto hNa
        have sb := hb.upto hNb
        have sc := hc.upto hNc
        have b0 : (0 : Int) ≤ (N : Int) := by omega
        have b1 : (N : Int) ≤ (cap0 : Int) := by omega
        have b2 : (N : Int) ≤ (cap1 : Int) := by omega
        have b3 : (N : Int) ≤ (cap2 : Int) := by omega
        obtain ⟨p, hp⟩ : ∃ p, p = sumN (la.take N) := ⟨_, rfl⟩
        obtain ⟨q, hq⟩ : ∃ q, q = sumN (lb.take N) := ⟨_, rfl⟩
        obtain ⟨r, hr⟩ : ∃ r, r = sumN (lc.take N) := ⟨_, rfl⟩
        have hpl : p < 4294967296 := by rw [hp]; exact sumN_lt _
        have hql : q < 4294967296 := by rw [hq]; exact sumN_lt _
        have hrl : r < 4294967296 := by rw [hr]; exact sumN_lt _
        have HSX := Lib.hid (show sumN X = p ^^^ q ^^^ r by rw [hX.out, hp, hq, hr]; exact sum_x3 la lb lc N (by have := HNA.out; omega) (by have := HNB.out; omega) (by have := HNC.out; omega))
        have e1 := xor_i64 p q hpl hql
        have e2 := xor_i64 (p ^^^ q) r (Nat.xor_lt_two_pow (n := 32) hpl hql) hrl
        have HP := Lib.hid hp
        have HQ := Lib.hid hq
        have HR := Lib.hid hr
        clear hown hbel hbs ha hb hc hp hq hr hpl hql hrl
        go_wp2_with fail
        go_region_held3 (fun _ => True) (trivial) (first
          | (go_at_call 11; refine (sum_any A2 _ c2 X _ hs2.drew).mono ?_; rintro e w2 ⟨he, rfl⟩; rw [HSX.out] at he; subst he)
          | (go_at_call 11; refine (sum_any a0 _ cap0 _ _ sa.drew).mono ?_; rintro e w2 ⟨he, rfl⟩; rw [← HP.out] at he; subst he)
          | (go_at_call 11; refine (sum_any a1 _ cap1 _ _ sb.drew).mono ?_; rintro e w2 ⟨he, rfl⟩; rw [← HQ.out] at he; subst he)
          | (go_at_call 11; refine (sum_any a2 _ cap2 _ _ sc.drew).mono ?_; rintro e w2 ⟨he, rfl⟩; rw [← HR.out] at he; subst he)
          | (go_at_call 7; refine (ex_any _).mono ?_; rintro e w2 ⟨rfl, hbx⟩))
        have HB2 := Lib.hid (below_then HBL.out.drew hbx)
        clear hbx
        go_wp2_with fail
        go_ret
        exact ⟨rfl, HB2.out⟩

set_option maxRecDepth 100000 in
theorem lifted (os : Os) (started : os.Started) (H : Type) (enc : TypeId × Value → H) :
    ReturnsInHanded {} Try.checked os 5 .any (Rows.crcThreeSpec.pre6 enc Try.prog Try.f5 Rows.crcThreeRow.domain false) (Rows.crcThreeSpec.post enc Try.prog Try.f5 false true false false) := by
  refine returnsInHanded_of_change (C := Try.checked) own started (by kernel_rfl) Try.func5
    (ChangeSpec.witness6 (enc := enc) (C := Try.checked) false ⟨#[], #[.slice none 0 0, .slice none 0 0, .slice none 0 0], []⟩ 8 (by kernel_rfl) (by kernel_rfl) (by kernel_rfl) (by kernel_rfl)) ?_
  intro W base args ds gs before hval0 hW hcnd _
  have hval : ∀ (j : Nat) t v, Try.f5.params[j]? = some t → args[j]? = some v → Value.okWide Try.prog W .any base t v := hval0
  have hW' := hW
  obtain ⟨p, q, hA0, hV, rfl, hfz, hnd⟩ := hW
  have hA : DataW.TrodAll enc Try.prog W 0 (fun _ => true) true Try.f5.params.toList args.toList ds p := hA0
  rw [Try.params5] at hA hval
  obtain ⟨v0, vs0, d0, ds0, p0, q0, hargs, rfl, rfl, h0, r0⟩ := trodAll_cons hA
  obtain ⟨v1, vs1, d1, ds1, p1, q1, rfl, rfl, rfl, h1, r1⟩ := trodAll_cons r0
  obtain ⟨v2, vs2, d2, ds2, p2, q2, rfl, rfl, rfl, h2, r2⟩ := trodAll_cons r1
  obtain ⟨rfl, rfl, rfl⟩ := trodAll_nil r2
  obtain rfl : args = #[v0, v1, v2] := by cases args; simp_all
  obtain ⟨rfl, rfl⟩ := trodVars_none hV
  obtain ⟨a0, len0, cap0, rfl⟩ := okWide_slice Try.underlying22 (hval 0 22 v0 rfl rfl)
  have k0 := h0
  have lt0 : ∀ x ∈ p0, x.block < W.heap.size := by obtain ⟨m, hm⟩ := k0; exact DataW.trod_lt m _ _ _ hm
  obtain ⟨z0, w0⟩ : ∃ zs, IsRow .u8 W a0 len0 cap0 zs := by
    obtain ⟨fuel, hf⟩ := h0
    rcases open_ints Try.underlying22 Try.underlying5 (by kernel_rfl) hf with ⟨hcs, _⟩ | ⟨x, l, c, zs, hcs, _, hl, hm, hz, _, hcell, hwz⟩
    · simp [Value.cells] at hcs
      obtain ⟨rfl, rfl, rfl⟩ := hcs
      exact ⟨[], .inl ⟨rfl, rfl, rfl, rfl⟩⟩
    · simp [Value.cells] at hcs
      obtain ⟨rfl, rfl, rfl⟩ := hcs
      exact ⟨zs, .inr ⟨_, rfl, hl, hm, by simpa using hz, hcell, hwz⟩⟩
  obtain ⟨a1, len1, cap1, rfl⟩ := okWide_slice Try.underlying22 (hval 1 22 v1 rfl rfl)
  have k1 := h1
  have lt1 : ∀ x ∈ p1, x.block < W.heap.size := by obtain ⟨m, hm⟩ := k1; exact DataW.trod_lt m _ _ _ hm
  obtain ⟨z1, w1⟩ : ∃ zs, IsRow .u8 W a1 len1 cap1 zs := by
    obtain ⟨fuel, hf⟩ := h1
    rcases open_ints Try.underlying22 Try.underlying5 (by kernel_rfl) hf with ⟨hcs, _⟩ | ⟨x, l, c, zs, hcs, _, hl, hm, hz, _, hcell, hwz⟩
    · simp [Value.cells] at hcs
      obtain ⟨rfl, rfl, rfl⟩ := hcs
      exact ⟨[], .inl ⟨rfl, rfl, rfl, rfl⟩⟩
    · simp [Value.cells] at hcs
      obtain ⟨rfl, rfl, rfl⟩ := hcs
      exact ⟨zs, .inr ⟨_, rfl, hl, hm, by simpa using hz, hcell, hwz⟩⟩
  obtain ⟨a2, len2, cap2, rfl⟩ := okWide_slice Try.underlying22 (hval 2 22 v2 rfl rfl)
  have k2 := h2
  have lt2 : ∀ x ∈ p2, x.block < W.heap.size := by obtain ⟨m, hm⟩ := k2; exact DataW.trod_lt m _ _ _ hm
  obtain ⟨z2, w2⟩ : ∃ zs, IsRow .u8 W a2 len2 cap2 zs := by
    obtain ⟨fuel, hf⟩ := h2
    rcases open_ints Try.underlying22 Try.underlying5 (by kernel_rfl) hf with ⟨hcs, _⟩ | ⟨x, l, c, zs, hcs, _, hl, hm, hz, _, hcell, hwz⟩
    · simp [Value.cells] at hcs
      obtain ⟨rfl, rfl, rfl⟩ := hcs
      exact ⟨[], .inl ⟨rfl, rfl, rfl, rfl⟩⟩
    · simp [Value.cells] at hcs
      obtain ⟨rfl, rfl, rfl⟩ := hcs
      exact ⟨zs, .inr ⟨_, rfl, hl, hm, by simpa using hz, hcell, hwz⟩⟩
  clear hA0 hval0
  refine (walk a0 len0 cap0 z0 a1 len1 cap1 z1 a2 len2 cap2 z2 W w0 w1 w2).mono fun e W' ⟨he, bel⟩ => ?_
  subst he
  exact ⟨_, rfl, _, _, _, [], _, [], hW', trodAll_mk1 (shut_bool Try.underlying4 _), (trodAll_cons_mk (Below.trod laidOut (by kernel_rfl) (of_decide_eq_true (by kernel_rfl)) k0 bel lt0) (trodAll_cons_mk (Below.trod laidOut (by kernel_rfl) (of_decide_eq_true (by kernel_rfl)) k1 bel lt1) (trodAll_cons_mk (Below.trod laidOut (by kernel_rfl) (of_decide_eq_true (by kernel_rfl)) k2 bel lt2) trodAll_mk0))), rfl, bel.frame _, fun h => by cases h⟩

theorem over : Rows.crcThreeRow.holds Try.pinned (OpenSpec.ofChange Rows.crcThreeSpec) :=
  OpenClaim.holds_of_wide 5 Try.f5 rfl rfl rfl rfl rfl rfl rfl ⟨rfl, rfl, rfl, rfl, rfl⟩ rfl rfl rfl rfl rfl (by kernel_rfl) Try.func5 (by kernel_rfl)
    (of_decide_eq_true (by kernel_rfl)) (by unfold Func.isWrapper; first | (rw [if_pos (by decide +kernel)]; kernel_rfl) | (rw [if_neg (by decide +kernel)]; exact ⟨rfl, rfl⟩))
    (fun os started H enc _ => lifted os started H enc)

theorem proved : Rows.CrcThreeSaid := over
#print axioms proved
end Go.Proofs.Ytlhdpdcgbinmfaa.crcThree
