/-
  Contract of package etag's List.
-/
import Derived.Test.YtdaoliobmgcmoaaEtpB
import Derived.WalkMore
namespace Go.Proofs.Ytdaoliobmgcmoaa
open Go.RowKit
set_option linter.unusedSimpArgs false

/-- What is left to be read of a list. -/
def lsMs : Value → Value → Nat
  | .string r, .bool true => r.size + 1
  | _, _ => 0

set_option maxHeartbeats 16000000 in
set_option maxRecDepth 100000 in
theorem etL_any (s : ByteArray) (w : World) (hs : s.size ≤ 100000000) :
    Calls Try.prog 10 #[.string s] w (IsTs w (lsL s) (lsA s) (lsE s)) := by
  have hms : s.size ≤ maxLen := by unfold maxLen; omega
  have CT := Lib.hid (fun W => trim_any s W hms)
  have hA : lsA s = ((mkS (trimL s.data.toList)).toList == [42]) := rfl
  unfold IsTs
  clear hms
  cases hl : lsA s with
  | true =>
    have h1 : lsL s = [] := by unfold lsL; rw [hl]; rfl
    have h2 : lsE s = 0 := by unfold lsE; rw [hl]; rfl
    rw [h1, h2]
    rw [hl] at hA
    replace hA := hA.symm
    clear h1 h2 hl
    generalize mkS (trimL s.data.toList) = TS at *
    go_enter Try.func10, Try.ntmps10
    go_wp2_with fail
    go_step3
    go_wp2_with (go_at_call 24; refine (CT.out _).mono ?_; rintro e w1 ⟨rfl, hb1⟩)
    simp +zetaDelta only [Exit.inBlock, Exit.then, Exit.noGoto_ret]
    go_ret3
    exact ⟨none, 0, rfl, SlT.none_ _, hb1⟩
  | false =>
    have h1 : lsL s = lsP s := by unfold lsL; rw [hl]; rfl
    have h2 : lsE s = if (lsP s).isEmpty then 5 else 0 := by unfold lsE; rw [hl]; rfl
    have hLP : lsP s = (lsR false [] [] s.data.toList).getD [] := rfl
    rw [h1]
    rw [hl] at hA
    replace hA := hA.symm
    clear h1 hl
    have HE2 := Lib.hid h2
    clear h2
    generalize lsE s = EE at *
    obtain ⟨D, hD⟩ : ∃ D, lsR false [] [] s.data.toList = D := ⟨_, rfl⟩
    rw [hD] at hLP
    have HLP := Lib.hid hLP
    have HD : Hid (D = lsN true [] s) := by show _ = _; rw [← hD]; rfl
    clear hLP hD
    generalize lsP s = LP at *
    generalize mkS (trimL s.data.toList) = TS at *
    go_enter Try.func10, Try.ntmps10
    go_wp2_with fail
    go_step3
    go_wp2_with (go_at_call 24; refine (CT.out _).mono ?_; rintro e w1 ⟨rfl, hb1⟩)
    go_step3
    go_wp2_with fail
    go_loopw [5, 6, 7] (fun v r m wr => ∃ (b : Bool) (R : ByteArray) (X : List Tg), r = .string R ∧ m = .bool b ∧ R.size ≤ s.size ∧ X.length + lsMs r m ≤ s.size + 1 ∧ Hid (OwnT wr w.heap.size 23 v X) ∧ Hid (∀ x ∈ X, x.2.size ≤ maxLen) ∧ Hid (D = lsN b X R) ∧ Below w.heap.size w wr) (fun _ r m _ => lsMs r m)
    case atStart => exact ⟨true, s, [], rfl, rfl, Nat.le_refl _, by simp [lsMs], OwnT.nil _ _ _, (fun _ h => absurd h (by simp)), HD.out, hb1⟩
    case round =>
      clear HD
      obtain ⟨b, R, X, rfl, rfl, hR, hX, ho, hz, hf, hbel⟩ := hrel
      cases b with
      | true =>
        have hX1 : X.length + (R.size + 1) ≤ s.size + 1 := hX
        have cc := fun W => ecut_any R W (by omega)
        have hE1 := nxE_le R
        have hR1 := nxR_le R
        have cg := fun W => etP_any (nxE R) W (by omega)
        have hms : lsMs (.string (nxR R)) (.bool (nxM R)) ≤ R.size := by
          cases hm : nxM R with
          | true => have := nxR_lt hm; show (nxR R).size + 1 ≤ _; omega
          | false => exact Nat.zero_le _
        have CC := Lib.hid cc
        clear cc
        cases ht : tgB (nxE R) with
        | true =>
          have HN : Hid (D = lsN (nxM R) (X ++ [tgO (nxE R)]) (nxR R)) := hf.out.trans (nx_tag X ht)
          have htz := tgO_le (nxE R)
          have hm1 : (100000000 : Nat) ≤ maxLen := by decide
          have hz2 : ∀ x ∈ X ++ [tgO (nxE R)], x.2.size ≤ maxLen := fun x hx => by
            rw [List.mem_append, List.mem_singleton] at hx
            rcases hx with hx | rfl
            · exact hz.out x hx
            · omega
          have HZ2 := Lib.hid hz2
          have HT1 := Lib.hid (show (tgO (nxE R)).2.size ≤ maxLen from hz2 _ (by simp))
          rw [ht] at cg
          have CG := Lib.hid cg
          have HMS := Lib.hid hms
          clear hf ht cg htz hz2 hms hE1 hm1
          generalize tgO (nxE R) = tg at *
          obtain ⟨ta, tb⟩ := tg
          unfold tgV at CG
          generalize nxE R = E at *
          generalize nxR R = R1 at *
          generalize nxM R = b1 at *
          go_wp2_with (go_at_call 25; refine (CC.out _).mono ?_; rintro e w2 ⟨rfl, hb2⟩)
          have hbel2 := below_then hbel hb2
          have ho2 := ho.out.below hb2
          refine (CG.out _).mono ?_
          rintro e w3 ⟨rfl, hb3⟩
          have HB3 := Lib.hid (below_then hbel2 hb3)
          have HO3 := Lib.hid (ho2.below hb3)
          clear hb2 hb3 hbel hbel2 ho ho2
          generalize hW4 : w3.alloc (.cells #[.bool ta, .string tb] 23) = W4 at *
          have HB4 : Hid (Below w.heap.size w W4) := by show Below _ _ _; rw [← hW4]; exact HB3.out.alloc HB3.out.size _
          have ho4 := HO3.out.alloc (.cells #[.bool ta, .string tb] 23)
          rw [hW4] at ho4
          have HO4 := Lib.hid ho4
          clear ho4
          have hsz4 : w.heap.size ≤ W4.heap.size := HB4.out.size
          have qz : W4.heap[w3.heap.size]? = some (.cells #[.bool ta, .string tb] 23 (0, 0)) := by rw [← hW4]; exact heap_alloc_new w3 _
          have qa := (zero_two qz).1
          have qb := (zero_two qz).2
          go_wp2_with (at_builtin; refine wpList_append_slt rfl _ _ 27 rfl w.heap.size 23 Try.underlying27 (by kernel_rfl) _ rfl X (HO4.out.alloc _) _ 1 1 rfl [(ta, tb)] (SlT.one W4 23 (ta, tb) HT1.out) (by simp; omega) (by simp; omega) w (HB4.out.alloc hsz4 _) ?_; intro v1 w5 ho1 hb1 hz1)
          go_roundw
          case rel => exact ⟨b1, R1, X ++ [(ta, tb)], rfl, rfl, by omega, by have := HMS.out; simp; omega, ho1, HZ2.out, HN, hb1⟩
          case measure => have := HMS.out; show lsMs _ _ < R.size + 1; omega
        | false =>
          rw [ht] at cg
          have both : ∀ t : Bool, t = true ∨ t = false := fun t => by cases t <;> simp
          rcases both ((nxE R).toList.isEmpty) with he | he
          · have HN : Hid (D = lsN (nxM R) X (nxR R)) := hf.out.trans (nx_keep X he)
            have CG := Lib.hid cg
            have HMS := Lib.hid hms
            clear hf ht cg hms hE1
            generalize tgO (nxE R) = tg at *
            obtain ⟨ta, tb⟩ := tg
            unfold tgV at CG
            generalize nxE R = E at *
            generalize nxR R = R1 at *
            generalize nxM R = b1 at *
            go_wp2_with (go_at_call 25; refine (CC.out _).mono ?_; rintro e w2 ⟨rfl, hb2⟩)
            have hbel2 := below_then hbel hb2
            have ho2 := ho.out.below hb2
            refine (CG.out _).mono ?_
            rintro e w3 ⟨rfl, hb3⟩
            have HB3 := Lib.hid (below_then hbel2 hb3)
            have HO3 := Lib.hid (ho2.below hb3)
            clear hb2 hb3 hbel hbel2 ho ho2
            go_wp2_with fail
            go_roundw
            case rel => exact ⟨b1, R1, X, rfl, rfl, by omega, by have := HMS.out; omega, HO3.out.alloc _, hz, HN, HB3.out.alloc HB3.out.size _⟩
            case measure => have := HMS.out; show lsMs _ _ < R.size + 1; omega
          · have hn := hf.out.trans (nx_bad X he ht)
            have hLE : LP = [] := by rw [HLP.out, hn]; rfl
            have CG := Lib.hid cg
            have HLE := Lib.hid hLE
            clear hf ht cg hms hE1 hn hLE HLP
            generalize tgO (nxE R) = tg at *
            obtain ⟨ta, tb⟩ := tg
            unfold tgV at CG
            generalize nxE R = E at *
            generalize nxR R = R1 at *
            generalize nxM R = b1 at *
            go_wp2_with (go_at_call 25; refine (CC.out _).mono ?_; rintro e w2 ⟨rfl, hb2⟩)
            have hbel2 := below_then hbel hb2
            refine (CG.out _).mono ?_
            rintro e w3 ⟨rfl, hb3⟩
            have HB3 := Lib.hid (below_then hbel2 hb3)
            clear hb2 hb3 hbel hbel2 ho
            go_wp2_with fail
            simp +zetaDelta only [Exit.inBlock, Exit.then, Exit.noGoto_ret]
            go_ret3
            rw [HE2.out, HLE.out]
            exact ⟨none, 0, rfl, SlT.none_ _, HB3.out.alloc HB3.out.size _⟩
      | false =>
        have hLX : LP = X := by rw [HLP.out, hf.out]; rfl
        have HLX := Lib.hid hLX
        clear hf hLX HLP
        obtain ⟨A1, c1, rfl, hF⟩ := ho.out.slt hz.out
        have HF := Lib.hid hF
        clear hF
        have hX2 : X.length ≤ s.size + 1 := by have : X.length + 0 ≤ s.size + 1 := hX; omega
        cases X with
        | nil =>
          go_wp2_with fail
          simp +zetaDelta only [Exit.inBlock, Exit.then, Exit.noGoto_ret]
          go_ret3
          rw [HE2.out, HLX.out]
          exact ⟨none, 0, rfl, SlT.none_ _, hbel⟩
        | cons x X =>
          have hne : ((X.length : Int) + 1 == 0) = false := by rw [beq_eq_false_iff_ne]; omega
          go_wp2_with fail
          simp +zetaDelta only [Exit.inBlock, Exit.then, Exit.noGoto_ret]
          go_ret3
          rw [HE2.out, HLX.out]
          exact ⟨A1, c1, rfl, HF.out, hbel⟩

end Go.Proofs.Ytdaoliobmgcmoaa
