/-
  The law CrcBurst returns true for every slice of bytes, every integer and every mask and leaves what it was given as it was. No condition.
-/
import Derived.Test.YtlhdpdcgbinmfaaRows
import Derived.WalkKit
import Derived.ProofKit
import Derived.OpenShut
import Derived.ShutString
import Derived.ChangeOld
import Derived.Below
import Derived.Test.YtlhdpdcgbinmfaaCrcZ
namespace Go.Proofs.Ytlhdpdcgbinmfaa.crcBurst
open Go.ChangeShapes Go.WideShapes Go.ChangeAt Go.RowKit
open Go.ChangeMaps (open_string shut_string)
set_option linter.unusedVariables false

theorem own : ownKnob Try.prog.godebug = none := by kernel_rfl
theorem laidOut : laidOutB Try.prog = true := by kernel_rfl

/-- WHAT THE WALK IS TOLD OF A SLICE OF INTEGERS THAT CAME IN: it is nil; or it leads to a row of 'cap' cells, the numbers 'zs' (the first 'len' are its elements, the rest its spare room), each fitting its kind. -/
def IsRow (k : IntKind) (w : World) (a : Option Addr) (len cap : Nat) (zs : List Int) : Prop :=
  (a = none ∧ len = 0 ∧ cap = 0 ∧ zs = []) ∨
  ∃ x, a = some x ∧ len ≤ cap ∧ cap ≤ maxLen ∧ zs.length = cap ∧ (∀ i, i < zs.length → w.cell? (x.add i) = some (.int k (zs.getD i 0))) ∧ ∀ n ∈ zs, (Lit.int k n).wf = true

set_option maxHeartbeats 8000000 in
set_option maxRecDepth 100000 in
theorem walk (a0 : Option Addr) (len0 cap0 : Nat) (z0 : List Int) (a1 : Int) (a2 : Int) (w : World) (w0 : IsRow .u8 w a0 len0 cap0 z0) (w1 : (Lit.int .i64 a1).wf = true) (w2 : (Lit.int .u32 a2).wf = true) :
    Calls Try.prog 6 #[.slice a0 len0 cap0, .int .i64 a1, .int .u32 a2] w fun e w' => e = .returned (.bool true) ∧ Below w.heap.size w w' := by
  obtain ⟨l, hs⟩ := Sl8.of_row w0
  obtain ⟨b10, b11⟩ := wf_i64 w1
  obtain ⟨M, rfl, hM⟩ := u32_of w2
  have hln := hs.len
  have hcm := hs.cm
  have hcap := hs.cap
  unfold maxLen at hcm
  clear w0 w1 w2
  by_cases k0 : (len0 : Int) = 0
  · clear hln
    go_enter Try.func6, Try.ntmps6
    go_wp2_with fail
    refine (ex_any _).mono ?_
    rintro e w1 ⟨rfl, hb⟩
    go_wp2_with fail
    go_ret
    exact ⟨rfl, hb⟩
  · by_cases k1 : (200 : Int) < (len0 : Int)
    · clear hln
      go_enter Try.func6, Try.ntmps6
      go_wp2_with fail
      refine (ex_any _).mono ?_
      rintro e w1 ⟨rfl, hb⟩
      go_wp2_with fail
      go_ret
      exact ⟨rfl, hb⟩
    · have hl2 : l.length ≤ 200 := by omega
      have hl0 : 0 < l.length := by omega
      have HA := Lib.hid hs
      have HO := Lib.hid (Own8.start w 5)
      have hb0 : Below w.heap.size w (w.alloc (.cells #[] 5)) := (Below.refl _ _).alloc (Nat.le_refl _) _
      obtain ⟨t, ht⟩ : ∃ t, t = a1.tmod (8 * (len0 : Int)) := ⟨_, rfl⟩
      have ht0 : -(8 * (len0 : Int)) < t ∧ t < 8 * (len0 : Int) := by
        rw [ht]
        exact ⟨Int.lt_tmod_of_pos a1 (by omega), Int.tmod_lt_of_pos a1 (by omega)⟩
      obtain ⟨f, hf⟩ : ∃ f : Nat, (f : Int) = (t + 8 * (len0 : Int)).tmod (8 * (len0 : Int)) := ⟨((t + 8 * (len0 : Int)).tmod (8 * (len0 : Int))).toNat, Int.toNat_of_nonneg (Int.tmod_nonneg _ (by omega))⟩
      have hf1 : (f : Int) < 8 * (len0 : Int) := by rw [hf]; exact Int.tmod_lt_of_pos _ (by omega)
      have m0 : wrap64 (8 * (len0 : Int)) = 8 * (len0 : Int) := IntWalk.wrap64_in _ (by omega)
      have m1 : ¬ 8 * (len0 : Int) = 0 := by omega
      have m2 := ht.symm
      have m3 := hf.symm
      have HLN := Lib.hid hln
      clear hs ht hf hln
      go_enter Try.func6, Try.ntmps6
      go_wp2_with (at_builtin; refine wpList_append_sl8 rfl _ _ 22 rfl w.heap.size 5 Try.underlying22 Try.infoU8 _ rfl [] HO.out a0 len0 cap0 rfl l (HA.out.alloc _) (by simp; omega) (by simp) w hb0 ?_; intro v2 w2 hown hbel hsz2)
      rw [List.nil_append] at hown
      obtain ⟨A2, c2, rfl, hs2⟩ := hown.out.sl8
      obtain ⟨G, hG, rfl, _, hrow, hc2, hm2⟩ := hown.out.row hl0
      rw [HLN.out] at hc2 ⊢
      have HROW := Lib.hid hrow
      have HG := Lib.hid hG
      clear hown hs2 hb0 hrow hG
      unfold maxLen at hm2
      go_loopw [9, 10] (fun v i wr => ∃ (j : Nat) (tb : Bool) (L : List UInt8), j ≤ 32 ∧ (f : Int) + (j : Int) ≤ 8 * (len0 : Int) ∧ i = .int .i64 j ∧ v = .bool tb ∧ Hid (tb = true ↔ M % 2 ^ j ≠ 0) ∧ Hid (Turned l L M f j) ∧ Hid (Row8 wr G L) ∧ Below w.heap.size w wr) (fun _ i _ => 32 - (intOf i).toNat)
      case atStart => exact ⟨0, false, l, by omega, by omega, rfl, rfl, by simp [Hid, Nat.mod_one], Turned.zero l M f, HROW.out, hbel⟩
      case round =>
        obtain ⟨j, tb, L, hj, hfj, rfl, rfl, htb, htu, hrow, hb⟩ := hrel
        by_cases hlt : j < 32 ∧ (f : Int) + (j : Int) < 8 * (len0 : Int)
        · obtain ⟨hlt1, hlt2⟩ := hlt
          have hkl : (f + j) / 8 < L.length := by rw [htu.out.len, HLN.out]; omega
          cases hbt : M.testBit j with
          | true =>
            have ha1 : bits .and .u32 ((M : Int) / 2 ^ j) 1 = 1 := and_bit M j hM true hbt
            obtain ⟨y, hy⟩ : ∃ y, y = L[(f + j) / 8] := ⟨_, rfl⟩
            obtain ⟨L2, hL2⟩ : ∃ L2, L2 = L.set ((f + j) / 8) (y ^^^ bitB (f + j)) := ⟨_, rfl⟩
            have HT := Lib.hid (show Turned l L2 M f (j + 1) by rw [hL2, hy]; exact htu.out.turn hbt hkl)
            have HM := Lib.hid (mod_turn hbt)
            have hcell : wr.cell? ⟨G, (f + j) / 8, none⟩ = some (.int .u8 (y.toNat : Int)) := by rw [hy]; exact hrow.out.cell _ hkl
            have hfree := hrow.out.free _ hkl
            have hby := byte_wf y
            have HL2 := Lib.hid hL2
            have HK := Lib.hid hkl
            clear hbt hy hkl hL2
            have HV := Lib.hid (turn_byte y (f + j))
            have HR2 := Lib.hid (show Row8 (wr.setCell ⟨G, (f + j) / 8, none⟩ (.int .u8 (bits .xor .u8 (y.toNat : Int) (2 ^ ((f + j) % 8) % 256)))) G L2 by rw [HL2.out]; exact hrow.out.set _ HK.out _ HV.out)
            have HB2 := Lib.hid (hb.setCell (p := ⟨G, (f + j) / 8, none⟩) HG.out (.int .u8 (bits .xor .u8 (y.toNat : Int) (2 ^ ((f + j) % 8) % 256))))
            go_wp2_with fail
            go_roundw
            case rel => exact ⟨j + 1, true, L2, by omega, by omega, by go_num, rfl, by show true = true ↔ _; simp only [true_iff]; exact HM.out, HT, HR2, HB2.out⟩
            case measure => simp [intOf]; omega
          | false =>
            have ha1 : bits .and .u32 ((M : Int) / 2 ^ j) 1 = 0 := and_bit M j hM false hbt
            have HT := Lib.hid (htu.out.skip hbt)
            have HM := Lib.hid (mod_skip hbt)
            clear hbt hkl
            go_wp2_with fail
            go_roundw
            case rel => exact ⟨j + 1, tb, L, by omega, by omega, by go_num, rfl, by show tb = true ↔ _; rw [HM.out]; exact htb.out, HT, hrow, hb⟩
            case measure => simp [intOf]; omega
        · have hLl : L.length = len0 := by rw [htu.out.len, HLN.out]
          have hs2 : Sl8 wr (some ⟨G, 0, none⟩) len0 c2 L := by
            have := hrow.out.sl8 (c := c2) (by omega) (by unfold maxLen; omega)
            rwa [hLl] at this
          have hs := HA.out.below hb
          have HBL := Lib.hid hb
          obtain ⟨p, hp⟩ : ∃ p, p = sumN L := ⟨_, rfl⟩
          obtain ⟨q, hq⟩ : ∃ q, q = sumN l := ⟨_, rfl⟩
          have HPQ := Lib.hid (show p = q ↔ M % 2 ^ j = 0 by rw [hp, hq]; exact htu.out.sums hj (by have := HLN.out; omega))
          have HP := Lib.hid hp
          have HQ := Lib.hid hq
          have HTB := htb
          have hex : j = 32 ∨ (j < 32 ∧ (f : Int) + (j : Int) = 8 * (len0 : Int)) := by omega
          clear hLl hb hp hq htb hlt hbel
          cases tb with
          | true =>
            rcases hex with rfl | ⟨hx1, hx2⟩
            · have hpq : ((p : Int) == (q : Int)) = false := by have h := HPQ.out; have h2 : ¬ p = q := fun e => (HTB.out.1 rfl) (h.1 e); simp; omega
              have hpq2 : ((p : Int) != (q : Int)) = true := by rw [bne, hpq]; rfl
              go_wp2_with fail
              refine (sum_any _ _ _ L _ hs2).mono ?_
              rintro e w3 ⟨he, rfl⟩
              rw [← HP.out] at he
              subst he
              go_wp2_with fail
              refine (sum_any _ _ _ l _ hs).mono ?_
              rintro e w3 ⟨he, rfl⟩
              rw [← HQ.out] at he
              subst he
              go_wp2_with fail
              refine (sum_any _ _ _ l _ hs).mono ?_
              rintro e w3 ⟨he, rfl⟩
              rw [← HQ.out] at he
              subst he
              go_wp2_with fail
              refine (check_any _ _ _ L _ _ hs2).mono ?_
              rintro e w3 ⟨he, rfl⟩
              rw [← HP.out, hpq] at he
              subst he
              go_wp2_with fail
              refine (ex_any _).mono ?_
              rintro e w3 ⟨rfl, hb3⟩
              have HB3 := Lib.hid (below_then HBL.out hb3)
              clear hb3
              go_wp2_with fail
              go_ret
              exact ⟨rfl, HB3.out⟩
            · have hpq : ((p : Int) == (q : Int)) = false := by have h := HPQ.out; have h2 : ¬ p = q := fun e => (HTB.out.1 rfl) (h.1 e); simp; omega
              have hpq2 : ((p : Int) != (q : Int)) = true := by rw [bne, hpq]; rfl
              go_wp2_with fail
              refine (sum_any _ _ _ L _ hs2).mono ?_
              rintro e w3 ⟨he, rfl⟩
              rw [← HP.out] at he
              subst he
              go_wp2_with fail
              refine (sum_any _ _ _ l _ hs).mono ?_
              rintro e w3 ⟨he, rfl⟩
              rw [← HQ.out] at he
              subst he
              go_wp2_with fail
              refine (sum_any _ _ _ l _ hs).mono ?_
              rintro e w3 ⟨he, rfl⟩
              rw [← HQ.out] at he
              subst he
              go_wp2_with fail
              refine (check_any _ _ _ L _ _ hs2).mono ?_
              rintro e w3 ⟨he, rfl⟩
              rw [← HP.out, hpq] at he
              subst he
              go_wp2_with fail
              refine (ex_any _).mono ?_
              rintro e w3 ⟨rfl, hb3⟩
              have HB3 := Lib.hid (below_then HBL.out hb3)
              clear hb3
              go_wp2_with fail
              go_ret
              exact ⟨rfl, HB3.out⟩
          | false =>
            rcases hex with rfl | ⟨hx1, hx2⟩
            · obtain rfl : p = q := HPQ.out.2 (Classical.byContradiction fun h0 => absurd (HTB.out.2 h0) (by decide))
              go_wp2_with fail
              refine (sum_any _ _ _ L _ hs2).mono ?_
              rintro e w3 ⟨he, rfl⟩
              rw [← HP.out] at he
              subst he
              go_wp2_with fail
              refine (sum_any _ _ _ l _ hs).mono ?_
              rintro e w3 ⟨he, rfl⟩
              rw [← HQ.out] at he
              subst he
              go_wp2_with fail
              refine (sum_any _ _ _ l _ hs).mono ?_
              rintro e w3 ⟨he, rfl⟩
              rw [← HQ.out] at he
              subst he
              go_wp2_with fail
              refine (check_any _ _ _ L _ _ hs2).mono ?_
              rintro e w3 ⟨he, rfl⟩
              rw [← HP.out, show ((p : Int) == (p : Int)) = true by simp] at he
              subst he
              go_wp2_with fail
              refine (ex_any _).mono ?_
              rintro e w3 ⟨rfl, hb3⟩
              have HB3 := Lib.hid (below_then HBL.out hb3)
              clear hb3
              go_wp2_with fail
              go_ret
              exact ⟨rfl, HB3.out⟩
            · obtain rfl : p = q := HPQ.out.2 (Classical.byContradiction fun h0 => absurd (HTB.out.2 h0) (by decide))
              go_wp2_with fail
              refine (sum_any _ _ _ L _ hs2).mono ?_
              rintro e w3 ⟨he, rfl⟩
              rw [← HP.out] at he
              subst he
              go_wp2_with fail
              refine (sum_any _ _ _ l _ hs).mono ?_
              rintro e w3 ⟨he, rfl⟩
              rw [← HQ.out] at he
              subst he
              go_wp2_with fail
              refine (sum_any _ _ _ l _ hs).mono ?_
              rintro e w3 ⟨he, rfl⟩
              rw [← HQ.out] at he
              subst he
              go_wp2_with fail
              refine (check_any _ _ _ L _ _ hs2).mono ?_
              rintro e w3 ⟨he, rfl⟩
              rw [← HP.out, show ((p : Int) == (p : Int)) = true by simp] at he
              subst he
              go_wp2_with fail
              refine (ex_any _).mono ?_
              rintro e w3 ⟨rfl, hb3⟩
              have HB3 := Lib.hid (below_then HBL.out hb3)
              clear hb3
              go_wp2_with fail
              go_ret
              exact ⟨rfl, HB3.out⟩

set_option maxRecDepth 100000 in
theorem lifted (os : Os) (started : os.Started) (H : Type) (enc : TypeId × Value → H) :
    ReturnsInHanded {} Try.checked os 6 .any (Rows.crcBurstSpec.pre6 enc Try.prog Try.f6 Rows.crcBurstRow.domain false) (Rows.crcBurstSpec.post enc Try.prog Try.f6 false true false false) := by
  refine returnsInHanded_of_change (C := Try.checked) own started (by kernel_rfl) Try.func6
    (ChangeSpec.witness6 (enc := enc) (C := Try.checked) false ⟨#[], #[.slice none 0 0, .int .i64 0, .int .u32 0], []⟩ 8 (by kernel_rfl) (by kernel_rfl) (by kernel_rfl) (by kernel_rfl)) ?_
  intro W base args ds gs before hval0 hW hcnd _
  have hval : ∀ (j : Nat) t v, Try.f6.params[j]? = some t → args[j]? = some v → Value.okWide Try.prog W .any base t v := hval0
  have hW' := hW
  obtain ⟨p, q, hA0, hV, rfl, hfz, hnd⟩ := hW
  have hA : DataW.TrodAll enc Try.prog W 0 (fun _ => true) true Try.f6.params.toList args.toList ds p := hA0
  rw [Try.params6] at hA hval
  obtain ⟨v0, vs0, d0, ds0, p0, q0, hargs, rfl, rfl, h0, r0⟩ := trodAll_cons hA
  obtain ⟨v1, vs1, d1, ds1, p1, q1, rfl, rfl, rfl, h1, r1⟩ := trodAll_cons r0
  obtain ⟨v2, vs2, d2, ds2, p2, q2, rfl, rfl, rfl, h2, r2⟩ := trodAll_cons r1
  obtain ⟨rfl, rfl, rfl⟩ := trodAll_nil r2
  obtain rfl : args = #[v0, v1, v2] := by cases args; simp_all
  obtain ⟨rfl, rfl⟩ := trodVars_none hV
  obtain ⟨a0, len0, cap0, rfl⟩ := okWide_slice Try.underlying22 (hval 0 22 v0 rfl rfl)
  have k0 := h0
  have lt0 : ∀ x ∈ p0, x.block < W.heap.size := by obtain ⟨m, hm⟩ := k0; exact DataW.trod_lt m _ _ _ hm
  obtain ⟨z0, w0⟩ : ∃ zs, IsRow .u8 W a0 len0 cap0 zs := by
    obtain ⟨fuel, hf⟩ := h0
    rcases open_ints Try.underlying22 Try.underlying5 (by kernel_rfl) hf with ⟨hcs, _⟩ | ⟨x, l, c, zs, hcs, _, hl, hm, hz, _, hcell, hwz⟩
    · simp [Value.cells] at hcs
      obtain ⟨rfl, rfl, rfl⟩ := hcs
      exact ⟨[], .inl ⟨rfl, rfl, rfl, rfl⟩⟩
    · simp [Value.cells] at hcs
      obtain ⟨rfl, rfl, rfl⟩ := hcs
      exact ⟨zs, .inr ⟨_, rfl, hl, hm, by simpa using hz, hcell, hwz⟩⟩
  obtain ⟨a1, rfl, rfl, rfl, w1⟩ := open_int Try.underlying3 (hval 1 3 v1 rfl rfl) h1
  obtain ⟨a2, rfl, rfl, rfl, w2⟩ := open_int Try.underlying31 (hval 2 31 v2 rfl rfl) h2
  clear hA0 hval0
  refine (walk a0 len0 cap0 z0 a1 a2 W w0 w1 w2).mono fun e W' ⟨he, bel⟩ => ?_
  subst he
  exact ⟨_, rfl, _, _, _, [], _, [], hW', trodAll_mk1 (shut_bool Try.underlying4 _), (trodAll_cons_mk (Below.trod laidOut (by kernel_rfl) (of_decide_eq_true (by kernel_rfl)) k0 bel lt0) (trodAll_cons_mk (shut_int Try.underlying3 w1) (trodAll_cons_mk (shut_int Try.underlying31 w2) trodAll_mk0))), rfl, bel.frame _, fun h => by cases h⟩

theorem over : Rows.crcBurstRow.holds Try.pinned (OpenSpec.ofChange Rows.crcBurstSpec) :=
  OpenClaim.holds_of_wide 6 Try.f6 rfl rfl rfl rfl rfl rfl rfl ⟨rfl, rfl, rfl, rfl, rfl⟩ rfl rfl rfl rfl rfl (by kernel_rfl) Try.func6 (by kernel_rfl)
    (of_decide_eq_true (by kernel_rfl)) (by unfold Func.isWrapper; first | (rw [if_pos (by decide +kernel)]; kernel_rfl) | (rw [if_neg (by decide +kernel)]; exact ⟨rfl, rfl⟩))
    (fun os started H enc _ => lifted os started H enc)

theorem proved : Rows.CrcBurstSaid := over
#print axioms proved
end Go.Proofs.Ytlhdpdcgbinmfaa.crcBurst
