/-
  Texts that the laws of this seat lean on, one behind the other.
-/
import Derived.Test.YtjcomlklmfeimaaGreatDoorMrgW
import Derived.Test.YtjcomlklmfeimaaGreatDoorMrgB
/-
  Contract of the reference's ParseReply (layer 12).
-/
section
namespace Go.Proofs.YtjcomlklmfeimaaGreatDoor
open Go.RowKit

theorem rp_cells {W : World} {g t : Nat} {c0 c1 c2 c3 c4 : Value} (h : W.heap[g]? = some (.cells #[c0, c1, c2, c3, c4] t (0, 0))) : W.cell? ⟨g, 4, none⟩ = some c4 ∧ W.frozen? ⟨g, 4, none⟩ = false := by
  refine ⟨?_, by simp [World.frozen?, h]⟩
  rw [cell_of_row W g _ _ _ _ h]; rfl
theorem rp_set {W : World} {g t : Nat} {c0 c1 c2 c3 c4 b : Value} (h : W.heap[g]? = some (.cells #[c0, c1, c2, c3, c4] t (0, 0))) : (W.setCell ⟨g, 4, none⟩ b).heap[g]? = some (.cells #[c0, c1, c2, c3, b] t (0, 0)) := by
  simp [World.setCell, Array.getElem?_modify, h]
theorem rp_set_other {W : World} {g k : Nat} {b : Value} {o : Obj} (hk : k ≠ g) (h : W.heap[k]? = some o) : (W.setCell ⟨g, 4, none⟩ b).heap[k]? = some o := by
  simp [World.setCell, Array.getElem?_modify, h, Ne.symm hk]
theorem r_bodiless (c : Int) (w : World) :
    Calls Tryz.prog 26 #[.int .i64 c] w fun e w' => e = .returned (.bool (bodL c)) ∧ w = w' := by
  by_cases h1 : c = 204
  · have HR : Hid (bodL c = true) := by show _ = _; unfold bodL; rw [decide_eq_true h1]; rfl
    subst h1
    go_enter Tryz.func26, Tryz.ntmps26
    go_wp2_with fail
    go_ret
    exact ⟨by rw [HR.out]; rfl, rfl⟩
  · have h1' : (c == 204) = false := by simpa using h1
    by_cases h2 : c = 304
    · have HR : Hid (bodL c = true) := by show _ = _; unfold bodL; rw [decide_eq_true h2, Bool.or_true]
      subst h2
      go_enter Tryz.func26, Tryz.ntmps26
      go_wp2_with fail
      go_ret
      exact ⟨by rw [HR.out]; rfl, rfl⟩
    · have h2' : (c == 304) = false := by simpa using h2
      have HR : Hid (bodL c = false) := by show _ = _; unfold bodL; rw [decide_eq_false h1, decide_eq_false h2]; rfl
      go_enter Tryz.func26, Tryz.ntmps26
      go_wp2_with fail
      go_ret
      exact ⟨by rw [HR.out]; rfl, rfl⟩

theorem pp_bad {raw meth : ByteArray} {k : Int} (h : ppE raw meth = k) (hk : k ≠ 0) : ppE raw meth = k ∧ ppR raw meth = rp0 := ⟨h, by unfold ppR; rw [h, if_neg hk]⟩
set_option maxHeartbeats 64000000 in
set_option maxRecDepth 100000 in
theorem r_parseReply (raw meth : ByteArray) (w : World) (hs : raw.size ≤ 1000000) :
    Calls Tryz.prog 13 #[.string raw, .string meth] w (IsRp w (ppR raw meth) (ppE raw meth)) := by
  have HZ : Hid ((w.alloc (.cells #[.int .i64 0, .string ⟨#[]⟩, .int .i64 0, .slice none 0 0, .string ⟨#[]⟩] 34)).heap[w.heap.size]? = some (.cells #[.int .i64 0, .string ⟨#[]⟩, .int .i64 0, .slice none 0 0, .string ⟨#[]⟩] 34 (0, 0))) := heap_alloc_new w _
  have HB : Hid (Below w.heap.size w (w.alloc (.cells #[.int .i64 0, .string ⟨#[]⟩, .int .i64 0, .slice none 0 0, .string ⟨#[]⟩] 34))) := (Below.refl _ _).alloc (Nat.le_refl _) _
  have hbad := fun (k : Int) (h : ppE raw meth = k) (hk : k ≠ 0) => pp_bad h hk
  have hE : ppE raw meth = if 65536 < raw.size then 4 else if hdB raw = false then 5 else if stE (l1S raw) ≠ 0 then stE (l1S raw) else if stN (l1S raw) < 200 then 20 else if rsE raw ≠ 0 then rsE raw
      else if heB meth (stN (l1S raw)) then (if (hdR raw).size = 0 then 0 else 22) else bodE (rsF raw) (hdR raw) (stV' (l1S raw)) true := rfl
  have hR : ppE raw meth = 0 → ppR raw meth = ⟨stN (l1S raw), stB (l1S raw), stV' (l1S raw), fdDrop (rsF raw) frm, if heB meth (stN (l1S raw)) then ⟨#[]⟩ else bodB (rsF raw) (hdR raw) (stV' (l1S raw)) true⟩ := fun h => by unfold ppR; rw [if_pos h]
  by_cases hl : 65536 < raw.size
  · rw [if_pos hl] at hE
    have hl' : (65536 : Int) < (raw.size : Int) := by omega
    have HR := Lib.hid (hbad 4 hE (by decide))
    unfold rp0 at HR
    generalize ppE raw meth = PE at *
    generalize ppR raw meth = PR at *
    clear hbad hE hR hl
    go_enter Tryz.func13, Tryz.ntmps13
    go_wp2_with fail
    refine bodyPost_ret (results_cell_row_tmp rfl _ _ w.heap.size 34 #[.int .i64 0, .string ⟨#[]⟩, .int .i64 0, .slice none 0 0, .string ⟨#[]⟩] (0, 0) _ rfl HZ.out Tryz.underlying34 rfl (by kernel_rfl)) rfl ?_
    exact ⟨none, 0, by rw [HR.out.1, HR.out.2]; rfl, by rw [HR.out.2]; exact SlF.none_ _, FreshA.none_ _, HB.out⟩
  · rw [if_neg hl] at hE
    have hl' : ¬ (65536 : Int) < (raw.size : Int) := by omega
    have C1 := Lib.hid (fun W => r_head raw W hs)
    obtain ⟨g1, g2, g3⟩ := hd_le raw
    by_cases hb : hdB raw = false
    · rw [if_pos hb] at hE
      have HR := Lib.hid (hbad 5 hE (by decide))
      unfold rp0 at HR
      rw [hb] at C1
      generalize ppE raw meth = PE at *
      generalize ppR raw meth = PR at *
      clear hbad hE hR hl
      go_enter Tryz.func13, Tryz.ntmps13
      go_wp2_with fail
      refine (C1.out _).mono ?_
      rintro e w1 ⟨A1, c1, rfl, hS1, _, hb1⟩
      have HB1 := Lib.hid (below_then HB.out hb1)
      have HZ1 := Lib.hid (zero_still hb1 HZ.out)
      have HS1 := Lib.hid hS1
      clear hS1
      clear hb1
      go_wp2_with (refine wpList_store_row rfl _ _ _ rfl w.heap.size #[.int .i64 0, .string ⟨#[]⟩, .int .i64 0, .slice none 0 0, .string ⟨#[]⟩] rfl rfl 34 _ HZ1.out (by kernel_rfl) rfl (by simp [Value.oneCell']) ?_)
      refine bodyPost_ret (results_cell_row_tmp rfl _ _ w.heap.size 34 #[.int .i64 0, .string ⟨#[]⟩, .int .i64 0, .slice none 0 0, .string ⟨#[]⟩] (0, 0) _ rfl (setRow_heap _ _ _ _ _ _ HZ1.out) Tryz.underlying34 rfl (by kernel_rfl)) rfl ?_
      exact ⟨none, 0, by rw [HR.out.1, HR.out.2]; rfl, by rw [HR.out.2]; exact SlF.none_ _, FreshA.none_ _, below_setRow HB1.out (Nat.le_refl _) _⟩
    · rw [if_neg hb] at hE
      have hb' : hdB raw = true := by simpa using hb
      rw [hb'] at C1
      obtain ⟨x, tl, hx⟩ := hd_cons hb'
      have e1 : l1S raw = mkS x := by unfold l1S; rw [hx]; rfl
      have e2 : rsF raw = rwF tl := by unfold rsF; rw [hx]; rfl
      have e3 : rsE raw = rwE tl := by unfold rsE; rw [hx]; rfl
      rw [e1, e2, e3] at hE
      rw [e1, e2] at hR
      rw [hx] at C1 g3 g2
      have gx := g3 x (List.mem_cons_self ..)
      have gt : ∀ y ∈ tl, y.length ≤ 1000000 := fun y hy => Nat.le_trans (g3 y (List.mem_cons_of_mem _ hy)) hs
      rw [List.length_cons] at g2
      have hms : (mkS x).size ≤ maxLen := by rw [mkS_size]; have : (1000000 : Nat) ≤ maxLen := by decide
                                             omega
      have C2 := Lib.hid (fun W => r_status (mkS x) W hms)
      have C3 := Lib.hid (fun W A' n' c' (hW : SlS W A' n' c' tl) => r_rows A' n' c' tl W hW (by have := hW.len; omega) gt)
      have gf := rwF_sz gt
      have gl := rwF_le tl
      have HSZ := Lib.hid (fdDrop_sz (N := frm) gf)
      obtain ⟨ms, hmx⟩ : ∃ ms, ms = mkS x := ⟨_, rfl⟩
      have HX := Lib.hid hmx
      rw [← hmx] at C2 hE hR
      have C5 := Lib.hid (fun W A' c' (hW : SlF W A' (rwF tl).length c' (rwF tl)) => r_body A' _ c' (rwF tl) (hdR raw) (stV' ms) true W hW (by omega) (by omega) (fun f hf => (gf f hf).2))
      have C6 := Lib.hid (fun W => r_framing W)
      have C7 := Lib.hid (fun W A' B' c' (hW : SlF W A' (rwF tl).length c' (rwF tl)) (hW2 : SlS W B' 3 3 frm) => rf_drop A' B' _ c' 3 3 (rwF tl) frm W hW (by omega) hW2 frm_le (by omega))
      have CBL := Lib.hid (fun W => r_bodiless (stN ms) W)
      have hhe : heB meth (stN ms) = ((meth.toList == [72, 69, 65, 68]) || bodL (stN ms)) := rfl
      clear e1 e2 e3 hx hmx g1 g2 g3 gx gt gf gl hms hb hb' hl
      generalize ppE raw meth = PE at *
      generalize ppR raw meth = PR at *
      generalize heB meth (stN ms) = hb at *
      generalize hdR raw = rest at *
      generalize stN ms = RN at *
      generalize stB ms = RS at *
      generalize stV' ms = RV at *
      generalize stE ms = RE at *
      generalize rwE tl = WE at *
      generalize bodL RN = bl at *
      generalize fdDrop (rwF tl) frm = FD at *
      generalize bodE (rwF tl) rest RV true = BE at *
      generalize bodB (rwF tl) rest RV true = BB at *
      generalize rwF tl = FL at *
      by_cases hRE : RE = 0
      · rw [if_neg (by simp [hRE])] at hE
        subst hRE
        by_cases hRN : RN < 200
        · rw [if_pos hRN] at hE
          have HR := Lib.hid (hbad 20 hE (by decide))
          unfold rp0 at HR
          clear hbad hE hR C3 C5 C6 C7 CBL hhe
          go_enter Tryz.func13, Tryz.ntmps13
          go_wp2_with fail
          refine (C1.out _).mono ?_
          rintro e w1 ⟨A1, c1, rfl, hS1, _, hb1⟩
          have HB1 := Lib.hid (below_then HB.out hb1)
          have HZ1 := Lib.hid (zero_still hb1 HZ.out)
          have HS1 := Lib.hid hS1
          clear hS1
          clear hb1
          obtain ⟨ad, rfl, hat⟩ := HS1.out.at_ (by simp)
          have hcell := hat 0 x rfl
          rw [show ad.add 0 = ad by simp [Addr.add]] at hcell
          clear hat
          rw [← HX.out] at hcell
          go_wp2_with fail
          refine (C2.out _).mono ?_
          rintro e w2 ⟨rfl, hb2⟩
          have HB2 := Lib.hid (below_then HB1.out hb2)
          have HZ2 := Lib.hid (zero_still hb2 HZ1.out)
          have HS2 := Lib.hid (HS1.out.below hb2)
          clear hb2
          go_wp2_with (refine wpList_store_row rfl _ _ _ rfl w.heap.size #[.int .i64 0, .string ⟨#[]⟩, .int .i64 0, .slice none 0 0, .string ⟨#[]⟩] rfl rfl 34 _ HZ2.out (by kernel_rfl) rfl (by simp [Value.oneCell']) ?_)
          refine bodyPost_ret (results_cell_row_tmp rfl _ _ w.heap.size 34 #[.int .i64 0, .string ⟨#[]⟩, .int .i64 0, .slice none 0 0, .string ⟨#[]⟩] (0, 0) _ rfl (setRow_heap _ _ _ _ _ _ HZ2.out) Tryz.underlying34 rfl (by kernel_rfl)) rfl ?_
          exact ⟨none, 0, by rw [HR.out.1, HR.out.2]; rfl, by rw [HR.out.2]; exact SlF.none_ _, FreshA.none_ _, below_setRow HB2.out (Nat.le_refl _) _⟩
        · rw [if_neg hRN] at hE
          by_cases hWE : WE = 0
          · rw [if_neg (by simp [hWE])] at hE
            subst hWE
            obtain ⟨mh, hmh⟩ : ∃ mh, mh = (meth.toList == [72, 69, 65, 68]) := ⟨_, rfl⟩
            rw [← hmh] at hhe
            replace hmh := hmh.symm
            cases hb with
            | true =>
              rw [if_pos rfl] at hE hR
              replace hhe := hhe.symm
              by_cases hz : rest.size = 0
              · rw [if_pos hz] at hE
                have HR : Hid (PE = 0 ∧ PR = ⟨RN, RS, RV, FD, ⟨#[]⟩⟩) := ⟨hE, hR hE⟩
                have hem := nil_str hz
                have hem' : (rest.toList == []) = true := by simpa using hem
                clear hbad hE hR C5
                rcases Bool.eq_false_or_eq_true mh with hm | hm
                · subst hm
                  clear CBL hhe
                  go_enter Tryz.func13, Tryz.ntmps13
                  go_wp2_with fail
                  refine (C1.out _).mono ?_
                  rintro e w1 ⟨A1, c1, rfl, hS1, _, hb1⟩
                  have HB1 := Lib.hid (below_then HB.out hb1)
                  have HZ1 := Lib.hid (zero_still hb1 HZ.out)
                  have HS1 := Lib.hid hS1
                  clear hS1
                  clear hb1
                  obtain ⟨ad, rfl, hat⟩ := HS1.out.at_ (by simp)
                  have hcell := hat 0 x rfl
                  rw [show ad.add 0 = ad by simp [Addr.add]] at hcell
                  clear hat
                  rw [← HX.out] at hcell
                  go_wp2_with fail
                  refine (C2.out _).mono ?_
                  rintro e w2 ⟨rfl, hb2⟩
                  have HB2 := Lib.hid (below_then HB1.out hb2)
                  have HZ2 := Lib.hid (zero_still hb2 HZ1.out)
                  have HS2 := Lib.hid (HS1.out.below hb2)
                  clear hb2
                  by_cases hc : c1 = 1
                  · subst hc
                    have HS3 := Lib.hid (SlS.tail1 HS2.out)
                    have hcc : (1 : Nat) = 1 := rfl
                    go_wp2_with fail
                    refine (C3.out _ _ _ _ HS3.out).mono ?_
                    rintro e w3 ⟨A3, c3, rfl, hF3, hb3⟩
                    have HB3 := Lib.hid (below_then HB2.out hb3)
                    have HZ3 := Lib.hid (zero_still hb3 HZ2.out)
                    have HF3 := Lib.hid hF3
                    clear hF3
                    clear hb3
                    go_wp2_with fail
                    refine (C6.out _).mono ?_
                    rintro e w6 ⟨A6, rfl, hS6, hb6⟩
                    have HB6 := Lib.hid (below_then HB3.out hb6)
                    have HZ6 := Lib.hid (zero_still hb6 HZ3.out)
                    have HF6 := Lib.hid (HF3.out.below hb6)
                    have HS6 := Lib.hid hS6
                    clear hS6
                    clear hb6
                    go_wp2_with fail
                    refine (C7.out _ _ _ _ HF6.out HS6.out).mono ?_
                    rintro e w7 ⟨v7, rfl, ho7, hb7⟩
                    have HB7 := Lib.hid (below_then HB6.out hb7)
                    have HZ7 := Lib.hid (zero_still hb7 HZ6.out)
                    have HF7 := Lib.hid (HF6.out.below hb7)
                    obtain ⟨A7, c7, rfl, hA7⟩ := ho7.slf HSZ.out
                    have HO7 := Lib.hid ho7
                    have hlt6 := (Array.getElem?_eq_some_iff.1 HZ6.out).1
                    clear ho7 hA7
                    clear hb7
                    have HOZ := Lib.hid (heap_alloc_new w7 (.cells #[.int .i64 RN, .string RS, .int .i64 RV, .slice A7 FD.length c7, .string ⟨#[]⟩] 34))
                    have HZ8 := Lib.hid (zero_more (o' := .cells #[.int .i64 RN, .string RS, .int .i64 RV, .slice A7 FD.length c7, .string ⟨#[]⟩] 34) HZ7.out)
                    have HF8 := Lib.hid (HF7.out.alloc (.cells #[.int .i64 RN, .string RS, .int .i64 RV, .slice A7 FD.length c7, .string ⟨#[]⟩] 34))
                    have HQ8 : Hid (Below w7.heap.size w7 (w7.alloc (.cells #[.int .i64 RN, .string RS, .int .i64 RV, .slice A7 FD.length c7, .string ⟨#[]⟩] 34))) := (Below.refl _ _).alloc (Nat.le_refl _) _
                    have HSZ7 := Lib.hid (show w.heap.size < w7.heap.size from (Array.getElem?_eq_some_iff.1 HZ7.out).1)
                    go_wp2_with (first | (refine wpList_load_row rfl _ _ rfl w7.heap.size rfl 34 #[.int .i64 RN, .string RS, .int .i64 RV, .slice A7 FD.length c7, .string ⟨#[]⟩] (0, 0) _ HOZ.out Tryz.underlying34 rfl (by kernel_rfl) ?_) | (refine wpList_store_row rfl _ _ _ rfl w.heap.size #[.int .i64 RN, .string RS, .int .i64 RV, .slice A7 FD.length c7, .string ⟨#[]⟩] rfl rfl 34 _ HZ8.out (by kernel_rfl) rfl (by simp [Value.oneCell']) ?_))
                    refine bodyPost_ret (results_cell_row_tmp rfl _ _ w.heap.size 34 #[.int .i64 RN, .string RS, .int .i64 RV, .slice A7 FD.length c7, .string ⟨#[]⟩] (0, 0) _ rfl (setRow_heap _ _ _ _ _ _ HZ8.out) Tryz.underlying34 rfl (by kernel_rfl)) rfl ?_
                    obtain ⟨A8, c8, he8, hF8⟩ := ((HO7.out.below HQ8.out).setRow hlt6 #[.int .i64 RN, .string RS, .int .i64 RV, .slice A7 FD.length c7, .string ⟨#[]⟩]).slf HSZ.out
                    cases he8
                    exact ⟨_, _, by rw [HR.out.1, HR.out.2]; rfl, by rw [HR.out.2]; exact hF8, fun ad ha => Nat.le_trans HB6.out.size (HO7.out.fresh ad ha), below_setRow (below_then HB7.out HQ8.out) (Nat.le_refl _) _⟩
                  · have HS3 := Lib.hid (SlS.tail2 HS2.out)
                    go_wp2_with fail
                    refine (C3.out _ _ _ _ HS3.out).mono ?_
                    rintro e w3 ⟨A3, c3, rfl, hF3, hb3⟩
                    have HB3 := Lib.hid (below_then HB2.out hb3)
                    have HZ3 := Lib.hid (zero_still hb3 HZ2.out)
                    have HF3 := Lib.hid hF3
                    clear hF3
                    clear hb3
                    go_wp2_with fail
                    refine (C6.out _).mono ?_
                    rintro e w6 ⟨A6, rfl, hS6, hb6⟩
                    have HB6 := Lib.hid (below_then HB3.out hb6)
                    have HZ6 := Lib.hid (zero_still hb6 HZ3.out)
                    have HF6 := Lib.hid (HF3.out.below hb6)
                    have HS6 := Lib.hid hS6
                    clear hS6
                    clear hb6
                    go_wp2_with fail
                    refine (C7.out _ _ _ _ HF6.out HS6.out).mono ?_
                    rintro e w7 ⟨v7, rfl, ho7, hb7⟩
                    have HB7 := Lib.hid (below_then HB6.out hb7)
                    have HZ7 := Lib.hid (zero_still hb7 HZ6.out)
                    have HF7 := Lib.hid (HF6.out.below hb7)
                    obtain ⟨A7, c7, rfl, hA7⟩ := ho7.slf HSZ.out
                    have HO7 := Lib.hid ho7
                    have hlt6 := (Array.getElem?_eq_some_iff.1 HZ6.out).1
                    clear ho7 hA7
                    clear hb7
                    have HOZ := Lib.hid (heap_alloc_new w7 (.cells #[.int .i64 RN, .string RS, .int .i64 RV, .slice A7 FD.length c7, .string ⟨#[]⟩] 34))
                    have HZ8 := Lib.hid (zero_more (o' := .cells #[.int .i64 RN, .string RS, .int .i64 RV, .slice A7 FD.length c7, .string ⟨#[]⟩] 34) HZ7.out)
                    have HF8 := Lib.hid (HF7.out.alloc (.cells #[.int .i64 RN, .string RS, .int .i64 RV, .slice A7 FD.length c7, .string ⟨#[]⟩] 34))
                    have HQ8 : Hid (Below w7.heap.size w7 (w7.alloc (.cells #[.int .i64 RN, .string RS, .int .i64 RV, .slice A7 FD.length c7, .string ⟨#[]⟩] 34))) := (Below.refl _ _).alloc (Nat.le_refl _) _
                    have HSZ7 := Lib.hid (show w.heap.size < w7.heap.size from (Array.getElem?_eq_some_iff.1 HZ7.out).1)
                    go_wp2_with (first | (refine wpList_load_row rfl _ _ rfl w7.heap.size rfl 34 #[.int .i64 RN, .string RS, .int .i64 RV, .slice A7 FD.length c7, .string ⟨#[]⟩] (0, 0) _ HOZ.out Tryz.underlying34 rfl (by kernel_rfl) ?_) | (refine wpList_store_row rfl _ _ _ rfl w.heap.size #[.int .i64 RN, .string RS, .int .i64 RV, .slice A7 FD.length c7, .string ⟨#[]⟩] rfl rfl 34 _ HZ8.out (by kernel_rfl) rfl (by simp [Value.oneCell']) ?_))
                    refine bodyPost_ret (results_cell_row_tmp rfl _ _ w.heap.size 34 #[.int .i64 RN, .string RS, .int .i64 RV, .slice A7 FD.length c7, .string ⟨#[]⟩] (0, 0) _ rfl (setRow_heap _ _ _ _ _ _ HZ8.out) Tryz.underlying34 rfl (by kernel_rfl)) rfl ?_
                    obtain ⟨A8, c8, he8, hF8⟩ := ((HO7.out.below HQ8.out).setRow hlt6 #[.int .i64 RN, .string RS, .int .i64 RV, .slice A7 FD.length c7, .string ⟨#[]⟩]).slf HSZ.out
                    cases he8
                    exact ⟨_, _, by rw [HR.out.1, HR.out.2]; rfl, by rw [HR.out.2]; exact hF8, fun ad ha => Nat.le_trans HB6.out.size (HO7.out.fresh ad ha), below_setRow (below_then HB7.out HQ8.out) (Nat.le_refl _) _⟩
                · subst hm
                  have hbl : bl = true := by simpa using hhe
                  subst hbl
                  clear hhe
                  go_enter Tryz.func13, Tryz.ntmps13
                  go_wp2_with fail
                  refine (C1.out _).mono ?_
                  rintro e w1 ⟨A1, c1, rfl, hS1, _, hb1⟩
                  have HB1 := Lib.hid (below_then HB.out hb1)
                  have HZ1 := Lib.hid (zero_still hb1 HZ.out)
                  have HS1 := Lib.hid hS1
                  clear hS1
                  clear hb1
                  obtain ⟨ad, rfl, hat⟩ := HS1.out.at_ (by simp)
                  have hcell := hat 0 x rfl
                  rw [show ad.add 0 = ad by simp [Addr.add]] at hcell
                  clear hat
                  rw [← HX.out] at hcell
                  go_wp2_with fail
                  refine (C2.out _).mono ?_
                  rintro e w2 ⟨rfl, hb2⟩
                  have HB2 := Lib.hid (below_then HB1.out hb2)
                  have HZ2 := Lib.hid (zero_still hb2 HZ1.out)
                  have HS2 := Lib.hid (HS1.out.below hb2)
                  clear hb2
                  by_cases hc : c1 = 1
                  · subst hc
                    have HS3 := Lib.hid (SlS.tail1 HS2.out)
                    have hcc : (1 : Nat) = 1 := rfl
                    go_wp2_with fail
                    refine (C3.out _ _ _ _ HS3.out).mono ?_
                    rintro e w3 ⟨A3, c3, rfl, hF3, hb3⟩
                    have HB3 := Lib.hid (below_then HB2.out hb3)
                    have HZ3 := Lib.hid (zero_still hb3 HZ2.out)
                    have HF3 := Lib.hid hF3
                    clear hF3
                    clear hb3
                    go_wp2_with fail
                    refine (C6.out _).mono ?_
                    rintro e w6 ⟨A6, rfl, hS6, hb6⟩
                    have HB6 := Lib.hid (below_then HB3.out hb6)
                    have HZ6 := Lib.hid (zero_still hb6 HZ3.out)
                    have HF6 := Lib.hid (HF3.out.below hb6)
                    have HS6 := Lib.hid hS6
                    clear hS6
                    clear hb6
                    go_wp2_with fail
                    refine (C7.out _ _ _ _ HF6.out HS6.out).mono ?_
                    rintro e w7 ⟨v7, rfl, ho7, hb7⟩
                    have HB7 := Lib.hid (below_then HB6.out hb7)
                    have HZ7 := Lib.hid (zero_still hb7 HZ6.out)
                    have HF7 := Lib.hid (HF6.out.below hb7)
                    obtain ⟨A7, c7, rfl, hA7⟩ := ho7.slf HSZ.out
                    have HO7 := Lib.hid ho7
                    have hlt6 := (Array.getElem?_eq_some_iff.1 HZ6.out).1
                    clear ho7 hA7
                    clear hb7
                    have HOZ := Lib.hid (heap_alloc_new w7 (.cells #[.int .i64 RN, .string RS, .int .i64 RV, .slice A7 FD.length c7, .string ⟨#[]⟩] 34))
                    have HZ8 := Lib.hid (zero_more (o' := .cells #[.int .i64 RN, .string RS, .int .i64 RV, .slice A7 FD.length c7, .string ⟨#[]⟩] 34) HZ7.out)
                    have HF8 := Lib.hid (HF7.out.alloc (.cells #[.int .i64 RN, .string RS, .int .i64 RV, .slice A7 FD.length c7, .string ⟨#[]⟩] 34))
                    have HQ8 : Hid (Below w7.heap.size w7 (w7.alloc (.cells #[.int .i64 RN, .string RS, .int .i64 RV, .slice A7 FD.length c7, .string ⟨#[]⟩] 34))) := (Below.refl _ _).alloc (Nat.le_refl _) _
                    have HSZ7 := Lib.hid (show w.heap.size < w7.heap.size from (Array.getElem?_eq_some_iff.1 HZ7.out).1)
                    go_wp2_with fail
                    refine (CBL.out _).mono ?_
                    rintro e w9 ⟨rfl, rfl⟩
                    go_wp2_with (first | (refine wpList_load_row rfl _ _ rfl w7.heap.size rfl 34 #[.int .i64 RN, .string RS, .int .i64 RV, .slice A7 FD.length c7, .string ⟨#[]⟩] (0, 0) _ HOZ.out Tryz.underlying34 rfl (by kernel_rfl) ?_) | (refine wpList_store_row rfl _ _ _ rfl w.heap.size #[.int .i64 RN, .string RS, .int .i64 RV, .slice A7 FD.length c7, .string ⟨#[]⟩] rfl rfl 34 _ HZ8.out (by kernel_rfl) rfl (by simp [Value.oneCell']) ?_))
                    refine bodyPost_ret (results_cell_row_tmp rfl _ _ w.heap.size 34 #[.int .i64 RN, .string RS, .int .i64 RV, .slice A7 FD.length c7, .string ⟨#[]⟩] (0, 0) _ rfl (setRow_heap _ _ _ _ _ _ HZ8.out) Tryz.underlying34 rfl (by kernel_rfl)) rfl ?_
                    obtain ⟨A8, c8, he8, hF8⟩ := ((HO7.out.below HQ8.out).setRow hlt6 #[.int .i64 RN, .string RS, .int .i64 RV, .slice A7 FD.length c7, .string ⟨#[]⟩]).slf HSZ.out
                    cases he8
                    exact ⟨_, _, by rw [HR.out.1, HR.out.2]; rfl, by rw [HR.out.2]; exact hF8, fun ad ha => Nat.le_trans HB6.out.size (HO7.out.fresh ad ha), below_setRow (below_then HB7.out HQ8.out) (Nat.le_refl _) _⟩
                  · have HS3 := Lib.hid (SlS.tail2 HS2.out)
                    go_wp2_with fail
                    refine (C3.out _ _ _ _ HS3.out).mono ?_
                    rintro e w3 ⟨A3, c3, rfl, hF3, hb3⟩
                    have HB3 := Lib.hid (below_then HB2.out hb3)
                    have HZ3 := Lib.hid (zero_still hb3 HZ2.out)
                    have HF3 := Lib.hid hF3
                    clear hF3
                    clear hb3
                    go_wp2_with fail
                    refine (C6.out _).mono ?_
                    rintro e w6 ⟨A6, rfl, hS6, hb6⟩
                    have HB6 := Lib.hid (below_then HB3.out hb6)
                    have HZ6 := Lib.hid (zero_still hb6 HZ3.out)
                    have HF6 := Lib.hid (HF3.out.below hb6)
                    have HS6 := Lib.hid hS6
                    clear hS6
                    clear hb6
                    go_wp2_with fail
                    refine (C7.out _ _ _ _ HF6.out HS6.out).mono ?_
                    rintro e w7 ⟨v7, rfl, ho7, hb7⟩
                    have HB7 := Lib.hid (below_then HB6.out hb7)
                    have HZ7 := Lib.hid (zero_still hb7 HZ6.out)
                    have HF7 := Lib.hid (HF6.out.below hb7)
                    obtain ⟨A7, c7, rfl, hA7⟩ := ho7.slf HSZ.out
                    have HO7 := Lib.hid ho7
                    have hlt6 := (Array.getElem?_eq_some_iff.1 HZ6.out).1
                    clear ho7 hA7
                    clear hb7
                    have HOZ := Lib.hid (heap_alloc_new w7 (.cells #[.int .i64 RN, .string RS, .int .i64 RV, .slice A7 FD.length c7, .string ⟨#[]⟩] 34))
                    have HZ8 := Lib.hid (zero_more (o' := .cells #[.int .i64 RN, .string RS, .int .i64 RV, .slice A7 FD.length c7, .string ⟨#[]⟩] 34) HZ7.out)
                    have HF8 := Lib.hid (HF7.out.alloc (.cells #[.int .i64 RN, .string RS, .int .i64 RV, .slice A7 FD.length c7, .string ⟨#[]⟩] 34))
                    have HQ8 : Hid (Below w7.heap.size w7 (w7.alloc (.cells #[.int .i64 RN, .string RS, .int .i64 RV, .slice A7 FD.length c7, .string ⟨#[]⟩] 34))) := (Below.refl _ _).alloc (Nat.le_refl _) _
                    have HSZ7 := Lib.hid (show w.heap.size < w7.heap.size from (Array.getElem?_eq_some_iff.1 HZ7.out).1)
                    go_wp2_with fail
                    refine (CBL.out _).mono ?_
                    rintro e w9 ⟨rfl, rfl⟩
                    go_wp2_with (first | (refine wpList_load_row rfl _ _ rfl w7.heap.size rfl 34 #[.int .i64 RN, .string RS, .int .i64 RV, .slice A7 FD.length c7, .string ⟨#[]⟩] (0, 0) _ HOZ.out Tryz.underlying34 rfl (by kernel_rfl) ?_) | (refine wpList_store_row rfl _ _ _ rfl w.heap.size #[.int .i64 RN, .string RS, .int .i64 RV, .slice A7 FD.length c7, .string ⟨#[]⟩] rfl rfl 34 _ HZ8.out (by kernel_rfl) rfl (by simp [Value.oneCell']) ?_))
                    refine bodyPost_ret (results_cell_row_tmp rfl _ _ w.heap.size 34 #[.int .i64 RN, .string RS, .int .i64 RV, .slice A7 FD.length c7, .string ⟨#[]⟩] (0, 0) _ rfl (setRow_heap _ _ _ _ _ _ HZ8.out) Tryz.underlying34 rfl (by kernel_rfl)) rfl ?_
                    obtain ⟨A8, c8, he8, hF8⟩ := ((HO7.out.below HQ8.out).setRow hlt6 #[.int .i64 RN, .string RS, .int .i64 RV, .slice A7 FD.length c7, .string ⟨#[]⟩]).slf HSZ.out
                    cases he8
                    exact ⟨_, _, by rw [HR.out.1, HR.out.2]; rfl, by rw [HR.out.2]; exact hF8, fun ad ha => Nat.le_trans HB6.out.size (HO7.out.fresh ad ha), below_setRow (below_then HB7.out HQ8.out) (Nat.le_refl _) _⟩
              · rw [if_neg hz] at hE
                have HR := Lib.hid (hbad 22 hE (by decide))
                unfold rp0 at HR
                have hem := non_str hz
                have hem' : (rest.toList == []) = false := by simpa using hem
                clear hbad hE hR C5
                rcases Bool.eq_false_or_eq_true mh with hm | hm
                · subst hm
                  clear CBL hhe
                  go_enter Tryz.func13, Tryz.ntmps13
                  go_wp2_with fail
                  refine (C1.out _).mono ?_
                  rintro e w1 ⟨A1, c1, rfl, hS1, _, hb1⟩
                  have HB1 := Lib.hid (below_then HB.out hb1)
                  have HZ1 := Lib.hid (zero_still hb1 HZ.out)
                  have HS1 := Lib.hid hS1
                  clear hS1
                  clear hb1
                  obtain ⟨ad, rfl, hat⟩ := HS1.out.at_ (by simp)
                  have hcell := hat 0 x rfl
                  rw [show ad.add 0 = ad by simp [Addr.add]] at hcell
                  clear hat
                  rw [← HX.out] at hcell
                  go_wp2_with fail
                  refine (C2.out _).mono ?_
                  rintro e w2 ⟨rfl, hb2⟩
                  have HB2 := Lib.hid (below_then HB1.out hb2)
                  have HZ2 := Lib.hid (zero_still hb2 HZ1.out)
                  have HS2 := Lib.hid (HS1.out.below hb2)
                  clear hb2
                  by_cases hc : c1 = 1
                  · subst hc
                    have HS3 := Lib.hid (SlS.tail1 HS2.out)
                    have hcc : (1 : Nat) = 1 := rfl
                    go_wp2_with fail
                    refine (C3.out _ _ _ _ HS3.out).mono ?_
                    rintro e w3 ⟨A3, c3, rfl, hF3, hb3⟩
                    have HB3 := Lib.hid (below_then HB2.out hb3)
                    have HZ3 := Lib.hid (zero_still hb3 HZ2.out)
                    have HF3 := Lib.hid hF3
                    clear hF3
                    clear hb3
                    go_wp2_with fail
                    refine (C6.out _).mono ?_
                    rintro e w6 ⟨A6, rfl, hS6, hb6⟩
                    have HB6 := Lib.hid (below_then HB3.out hb6)
                    have HZ6 := Lib.hid (zero_still hb6 HZ3.out)
                    have HF6 := Lib.hid (HF3.out.below hb6)
                    have HS6 := Lib.hid hS6
                    clear hS6
                    clear hb6
                    go_wp2_with fail
                    refine (C7.out _ _ _ _ HF6.out HS6.out).mono ?_
                    rintro e w7 ⟨v7, rfl, ho7, hb7⟩
                    have HB7 := Lib.hid (below_then HB6.out hb7)
                    have HZ7 := Lib.hid (zero_still hb7 HZ6.out)
                    have HF7 := Lib.hid (HF6.out.below hb7)
                    obtain ⟨A7, c7, rfl, hA7⟩ := ho7.slf HSZ.out
                    have HO7 := Lib.hid ho7
                    have hlt6 := (Array.getElem?_eq_some_iff.1 HZ6.out).1
                    clear ho7 hA7
                    clear hb7
                    have HOZ := Lib.hid (heap_alloc_new w7 (.cells #[.int .i64 RN, .string RS, .int .i64 RV, .slice A7 FD.length c7, .string ⟨#[]⟩] 34))
                    have HZ8 := Lib.hid (zero_more (o' := .cells #[.int .i64 RN, .string RS, .int .i64 RV, .slice A7 FD.length c7, .string ⟨#[]⟩] 34) HZ7.out)
                    have HF8 := Lib.hid (HF7.out.alloc (.cells #[.int .i64 RN, .string RS, .int .i64 RV, .slice A7 FD.length c7, .string ⟨#[]⟩] 34))
                    have HQ8 : Hid (Below w7.heap.size w7 (w7.alloc (.cells #[.int .i64 RN, .string RS, .int .i64 RV, .slice A7 FD.length c7, .string ⟨#[]⟩] 34))) := (Below.refl _ _).alloc (Nat.le_refl _) _
                    have HSZ7 := Lib.hid (show w.heap.size < w7.heap.size from (Array.getElem?_eq_some_iff.1 HZ7.out).1)
                    go_wp2_with (refine wpList_store_row rfl _ _ _ rfl w.heap.size #[.int .i64 0, .string ⟨#[]⟩, .int .i64 0, .slice none 0 0, .string ⟨#[]⟩] rfl rfl 34 _ HZ8.out (by kernel_rfl) rfl (by simp [Value.oneCell']) ?_)
                    refine bodyPost_ret (results_cell_row_tmp rfl _ _ w.heap.size 34 #[.int .i64 0, .string ⟨#[]⟩, .int .i64 0, .slice none 0 0, .string ⟨#[]⟩] (0, 0) _ rfl (setRow_heap _ _ _ _ _ _ HZ8.out) Tryz.underlying34 rfl (by kernel_rfl)) rfl ?_
                    exact ⟨none, 0, by rw [HR.out.1, HR.out.2]; rfl, by rw [HR.out.2]; exact SlF.none_ _, FreshA.none_ _, below_setRow (below_then HB7.out HQ8.out) (Nat.le_refl _) _⟩
                  · have HS3 := Lib.hid (SlS.tail2 HS2.out)
                    go_wp2_with fail
                    refine (C3.out _ _ _ _ HS3.out).mono ?_
                    rintro e w3 ⟨A3, c3, rfl, hF3, hb3⟩
                    have HB3 := Lib.hid (below_then HB2.out hb3)
                    have HZ3 := Lib.hid (zero_still hb3 HZ2.out)
                    have HF3 := Lib.hid hF3
                    clear hF3
                    clear hb3
                    go_wp2_with fail
                    refine (C6.out _).mono ?_
                    rintro e w6 ⟨A6, rfl, hS6, hb6⟩
                    have HB6 := Lib.hid (below_then HB3.out hb6)
                    have HZ6 := Lib.hid (zero_still hb6 HZ3.out)
                    have HF6 := Lib.hid (HF3.out.below hb6)
                    have HS6 := Lib.hid hS6
                    clear hS6
                    clear hb6
                    go_wp2_with fail
                    refine (C7.out _ _ _ _ HF6.out HS6.out).mono ?_
                    rintro e w7 ⟨v7, rfl, ho7, hb7⟩
                    have HB7 := Lib.hid (below_then HB6.out hb7)
                    have HZ7 := Lib.hid (zero_still hb7 HZ6.out)
                    have HF7 := Lib.hid (HF6.out.below hb7)
                    obtain ⟨A7, c7, rfl, hA7⟩ := ho7.slf HSZ.out
                    have HO7 := Lib.hid ho7
                    have hlt6 := (Array.getElem?_eq_some_iff.1 HZ6.out).1
                    clear ho7 hA7
                    clear hb7
                    have HOZ := Lib.hid (heap_alloc_new w7 (.cells #[.int .i64 RN, .string RS, .int .i64 RV, .slice A7 FD.length c7, .string ⟨#[]⟩] 34))
                    have HZ8 := Lib.hid (zero_more (o' := .cells #[.int .i64 RN, .string RS, .int .i64 RV, .slice A7 FD.length c7, .string ⟨#[]⟩] 34) HZ7.out)
                    have HF8 := Lib.hid (HF7.out.alloc (.cells #[.int .i64 RN, .string RS, .int .i64 RV, .slice A7 FD.length c7, .string ⟨#[]⟩] 34))
                    have HQ8 : Hid (Below w7.heap.size w7 (w7.alloc (.cells #[.int .i64 RN, .string RS, .int .i64 RV, .slice A7 FD.length c7, .string ⟨#[]⟩] 34))) := (Below.refl _ _).alloc (Nat.le_refl _) _
                    have HSZ7 := Lib.hid (show w.heap.size < w7.heap.size from (Array.getElem?_eq_some_iff.1 HZ7.out).1)
                    go_wp2_with (refine wpList_store_row rfl _ _ _ rfl w.heap.size #[.int .i64 0, .string ⟨#[]⟩, .int .i64 0, .slice none 0 0, .string ⟨#[]⟩] rfl rfl 34 _ HZ8.out (by kernel_rfl) rfl (by simp [Value.oneCell']) ?_)
                    refine bodyPost_ret (results_cell_row_tmp rfl _ _ w.heap.size 34 #[.int .i64 0, .string ⟨#[]⟩, .int .i64 0, .slice none 0 0, .string ⟨#[]⟩] (0, 0) _ rfl (setRow_heap _ _ _ _ _ _ HZ8.out) Tryz.underlying34 rfl (by kernel_rfl)) rfl ?_
                    exact ⟨none, 0, by rw [HR.out.1, HR.out.2]; rfl, by rw [HR.out.2]; exact SlF.none_ _, FreshA.none_ _, below_setRow (below_then HB7.out HQ8.out) (Nat.le_refl _) _⟩
                · subst hm
                  have hbl : bl = true := by simpa using hhe
                  subst hbl
                  clear hhe
                  go_enter Tryz.func13, Tryz.ntmps13
                  go_wp2_with fail
                  refine (C1.out _).mono ?_
                  rintro e w1 ⟨A1, c1, rfl, hS1, _, hb1⟩
                  have HB1 := Lib.hid (below_then HB.out hb1)
                  have HZ1 := Lib.hid (zero_still hb1 HZ.out)
                  have HS1 := Lib.hid hS1
                  clear hS1
                  clear hb1
                  obtain ⟨ad, rfl, hat⟩ := HS1.out.at_ (by simp)
                  have hcell := hat 0 x rfl
                  rw [show ad.add 0 = ad by simp [Addr.add]] at hcell
                  clear hat
                  rw [← HX.out] at hcell
                  go_wp2_with fail
                  refine (C2.out _).mono ?_
                  rintro e w2 ⟨rfl, hb2⟩
                  have HB2 := Lib.hid (below_then HB1.out hb2)
                  have HZ2 := Lib.hid (zero_still hb2 HZ1.out)
                  have HS2 := Lib.hid (HS1.out.below hb2)
                  clear hb2
                  by_cases hc : c1 = 1
                  · subst hc
                    have HS3 := Lib.hid (SlS.tail1 HS2.out)
                    have hcc : (1 : Nat) = 1 := rfl
                    go_wp2_with fail
                    refine (C3.out _ _ _ _ HS3.out).mono ?_
                    rintro e w3 ⟨A3, c3, rfl, hF3, hb3⟩
                    have HB3 := Lib.hid (below_then HB2.out hb3)
                    have HZ3 := Lib.hid (zero_still hb3 HZ2.out)
                    have HF3 := Lib.hid hF3
                    clear hF3
                    clear hb3
                    go_wp2_with fail
                    refine (C6.out _).mono ?_
                    rintro e w6 ⟨A6, rfl, hS6, hb6⟩
                    have HB6 := Lib.hid (below_then HB3.out hb6)
                    have HZ6 := Lib.hid (zero_still hb6 HZ3.out)
                    have HF6 := Lib.hid (HF3.out.below hb6)
                    have HS6 := Lib.hid hS6
                    clear hS6
                    clear hb6
                    go_wp2_with fail
                    refine (C7.out _ _ _ _ HF6.out HS6.out).mono ?_
                    rintro e w7 ⟨v7, rfl, ho7, hb7⟩
                    have HB7 := Lib.hid (below_then HB6.out hb7)
                    have HZ7 := Lib.hid (zero_still hb7 HZ6.out)
                    have HF7 := Lib.hid (HF6.out.below hb7)
                    obtain ⟨A7, c7, rfl, hA7⟩ := ho7.slf HSZ.out
                    have HO7 := Lib.hid ho7
                    have hlt6 := (Array.getElem?_eq_some_iff.1 HZ6.out).1
                    clear ho7 hA7
                    clear hb7
                    have HOZ := Lib.hid (heap_alloc_new w7 (.cells #[.int .i64 RN, .string RS, .int .i64 RV, .slice A7 FD.length c7, .string ⟨#[]⟩] 34))
                    have HZ8 := Lib.hid (zero_more (o' := .cells #[.int .i64 RN, .string RS, .int .i64 RV, .slice A7 FD.length c7, .string ⟨#[]⟩] 34) HZ7.out)
                    have HF8 := Lib.hid (HF7.out.alloc (.cells #[.int .i64 RN, .string RS, .int .i64 RV, .slice A7 FD.length c7, .string ⟨#[]⟩] 34))
                    have HQ8 : Hid (Below w7.heap.size w7 (w7.alloc (.cells #[.int .i64 RN, .string RS, .int .i64 RV, .slice A7 FD.length c7, .string ⟨#[]⟩] 34))) := (Below.refl _ _).alloc (Nat.le_refl _) _
                    have HSZ7 := Lib.hid (show w.heap.size < w7.heap.size from (Array.getElem?_eq_some_iff.1 HZ7.out).1)
                    go_wp2_with fail
                    refine (CBL.out _).mono ?_
                    rintro e w9 ⟨rfl, rfl⟩
                    go_wp2_with (refine wpList_store_row rfl _ _ _ rfl w.heap.size #[.int .i64 0, .string ⟨#[]⟩, .int .i64 0, .slice none 0 0, .string ⟨#[]⟩] rfl rfl 34 _ HZ8.out (by kernel_rfl) rfl (by simp [Value.oneCell']) ?_)
                    refine bodyPost_ret (results_cell_row_tmp rfl _ _ w.heap.size 34 #[.int .i64 0, .string ⟨#[]⟩, .int .i64 0, .slice none 0 0, .string ⟨#[]⟩] (0, 0) _ rfl (setRow_heap _ _ _ _ _ _ HZ8.out) Tryz.underlying34 rfl (by kernel_rfl)) rfl ?_
                    exact ⟨none, 0, by rw [HR.out.1, HR.out.2]; rfl, by rw [HR.out.2]; exact SlF.none_ _, FreshA.none_ _, below_setRow (below_then HB7.out HQ8.out) (Nat.le_refl _) _⟩
                  · have HS3 := Lib.hid (SlS.tail2 HS2.out)
                    go_wp2_with fail
                    refine (C3.out _ _ _ _ HS3.out).mono ?_
                    rintro e w3 ⟨A3, c3, rfl, hF3, hb3⟩
                    have HB3 := Lib.hid (below_then HB2.out hb3)
                    have HZ3 := Lib.hid (zero_still hb3 HZ2.out)
                    have HF3 := Lib.hid hF3
                    clear hF3
                    clear hb3
                    go_wp2_with fail
                    refine (C6.out _).mono ?_
                    rintro e w6 ⟨A6, rfl, hS6, hb6⟩
                    have HB6 := Lib.hid (below_then HB3.out hb6)
                    have HZ6 := Lib.hid (zero_still hb6 HZ3.out)
                    have HF6 := Lib.hid (HF3.out.below hb6)
                    have HS6 := Lib.hid hS6
                    clear hS6
                    clear hb6
                    go_wp2_with fail
                    refine (C7.out _ _ _ _ HF6.out HS6.out).mono ?_
                    rintro e w7 ⟨v7, rfl, ho7, hb7⟩
                    have HB7 := Lib.hid (below_then HB6.out hb7)
                    have HZ7 := Lib.hid (zero_still hb7 HZ6.out)
                    have HF7 := Lib.hid (HF6.out.below hb7)
                    obtain ⟨A7, c7, rfl, hA7⟩ := ho7.slf HSZ.out
                    have HO7 := Lib.hid ho7
                    have hlt6 := (Array.getElem?_eq_some_iff.1 HZ6.out).1
                    clear ho7 hA7
                    clear hb7
                    have HOZ := Lib.hid (heap_alloc_new w7 (.cells #[.int .i64 RN, .string RS, .int .i64 RV, .slice A7 FD.length c7, .string ⟨#[]⟩] 34))
                    have HZ8 := Lib.hid (zero_more (o' := .cells #[.int .i64 RN, .string RS, .int .i64 RV, .slice A7 FD.length c7, .string ⟨#[]⟩] 34) HZ7.out)
                    have HF8 := Lib.hid (HF7.out.alloc (.cells #[.int .i64 RN, .string RS, .int .i64 RV, .slice A7 FD.length c7, .string ⟨#[]⟩] 34))
                    have HQ8 : Hid (Below w7.heap.size w7 (w7.alloc (.cells #[.int .i64 RN, .string RS, .int .i64 RV, .slice A7 FD.length c7, .string ⟨#[]⟩] 34))) := (Below.refl _ _).alloc (Nat.le_refl _) _
                    have HSZ7 := Lib.hid (show w.heap.size < w7.heap.size from (Array.getElem?_eq_some_iff.1 HZ7.out).1)
                    go_wp2_with fail
                    refine (CBL.out _).mono ?_
                    rintro e w9 ⟨rfl, rfl⟩
                    go_wp2_with (refine wpList_store_row rfl _ _ _ rfl w.heap.size #[.int .i64 0, .string ⟨#[]⟩, .int .i64 0, .slice none 0 0, .string ⟨#[]⟩] rfl rfl 34 _ HZ8.out (by kernel_rfl) rfl (by simp [Value.oneCell']) ?_)
                    refine bodyPost_ret (results_cell_row_tmp rfl _ _ w.heap.size 34 #[.int .i64 0, .string ⟨#[]⟩, .int .i64 0, .slice none 0 0, .string ⟨#[]⟩] (0, 0) _ rfl (setRow_heap _ _ _ _ _ _ HZ8.out) Tryz.underlying34 rfl (by kernel_rfl)) rfl ?_
                    exact ⟨none, 0, by rw [HR.out.1, HR.out.2]; rfl, by rw [HR.out.2]; exact SlF.none_ _, FreshA.none_ _, below_setRow (below_then HB7.out HQ8.out) (Nat.le_refl _) _⟩
            | false =>
              rw [if_neg (by simp)] at hE hR
              have hm : mh = false := by
                cases mh with
                | false => rfl
                | true => simp at hhe
              subst hm
              have hbl : bl = false := by simpa using hhe.symm
              subst hbl
              clear hhe
              by_cases hBE : BE = 0
              · have HR : Hid (PE = 0 ∧ PR = ⟨RN, RS, RV, FD, BB⟩) := ⟨hE.trans hBE, hR (hE.trans hBE)⟩
                subst hBE
                clear hbad hE hR
                go_enter Tryz.func13, Tryz.ntmps13
                go_wp2_with fail
                refine (C1.out _).mono ?_
                rintro e w1 ⟨A1, c1, rfl, hS1, _, hb1⟩
                have HB1 := Lib.hid (below_then HB.out hb1)
                have HZ1 := Lib.hid (zero_still hb1 HZ.out)
                have HS1 := Lib.hid hS1
                clear hS1
                clear hb1
                obtain ⟨ad, rfl, hat⟩ := HS1.out.at_ (by simp)
                have hcell := hat 0 x rfl
                rw [show ad.add 0 = ad by simp [Addr.add]] at hcell
                clear hat
                rw [← HX.out] at hcell
                go_wp2_with fail
                refine (C2.out _).mono ?_
                rintro e w2 ⟨rfl, hb2⟩
                have HB2 := Lib.hid (below_then HB1.out hb2)
                have HZ2 := Lib.hid (zero_still hb2 HZ1.out)
                have HS2 := Lib.hid (HS1.out.below hb2)
                clear hb2
                by_cases hc : c1 = 1
                · subst hc
                  have HS3 := Lib.hid (SlS.tail1 HS2.out)
                  have hcc : (1 : Nat) = 1 := rfl
                  go_wp2_with fail
                  refine (C3.out _ _ _ _ HS3.out).mono ?_
                  rintro e w3 ⟨A3, c3, rfl, hF3, hb3⟩
                  have HB3 := Lib.hid (below_then HB2.out hb3)
                  have HZ3 := Lib.hid (zero_still hb3 HZ2.out)
                  have HF3 := Lib.hid hF3
                  clear hF3
                  clear hb3
                  go_wp2_with fail
                  refine (C6.out _).mono ?_
                  rintro e w6 ⟨A6, rfl, hS6, hb6⟩
                  have HB6 := Lib.hid (below_then HB3.out hb6)
                  have HZ6 := Lib.hid (zero_still hb6 HZ3.out)
                  have HF6 := Lib.hid (HF3.out.below hb6)
                  have HS6 := Lib.hid hS6
                  clear hS6
                  clear hb6
                  go_wp2_with fail
                  refine (C7.out _ _ _ _ HF6.out HS6.out).mono ?_
                  rintro e w7 ⟨v7, rfl, ho7, hb7⟩
                  have HB7 := Lib.hid (below_then HB6.out hb7)
                  have HZ7 := Lib.hid (zero_still hb7 HZ6.out)
                  have HF7 := Lib.hid (HF6.out.below hb7)
                  obtain ⟨A7, c7, rfl, hA7⟩ := ho7.slf HSZ.out
                  have HO7 := Lib.hid ho7
                  have hlt6 := (Array.getElem?_eq_some_iff.1 HZ6.out).1
                  clear ho7 hA7
                  clear hb7
                  have HOZ := Lib.hid (heap_alloc_new w7 (.cells #[.int .i64 RN, .string RS, .int .i64 RV, .slice A7 FD.length c7, .string ⟨#[]⟩] 34))
                  have HZ8 := Lib.hid (zero_more (o' := .cells #[.int .i64 RN, .string RS, .int .i64 RV, .slice A7 FD.length c7, .string ⟨#[]⟩] 34) HZ7.out)
                  have HF8 := Lib.hid (HF7.out.alloc (.cells #[.int .i64 RN, .string RS, .int .i64 RV, .slice A7 FD.length c7, .string ⟨#[]⟩] 34))
                  have HQ8 : Hid (Below w7.heap.size w7 (w7.alloc (.cells #[.int .i64 RN, .string RS, .int .i64 RV, .slice A7 FD.length c7, .string ⟨#[]⟩] 34))) := (Below.refl _ _).alloc (Nat.le_refl _) _
                  have HSZ7 := Lib.hid (show w.heap.size < w7.heap.size from (Array.getElem?_eq_some_iff.1 HZ7.out).1)
                  go_wp2_with fail
                  refine (CBL.out _).mono ?_
                  rintro e w9 ⟨rfl, rfl⟩
                  go_wp2_with fail
                  refine (C5.out _ _ _ HF8.out).mono ?_
                  rintro e w10 ⟨rfl, hb10⟩
                  have HZ10 := Lib.hid (zero_still hb10 HZ8.out)
                  have HOZ10 := Lib.hid (zero_still hb10 HOZ.out)
                  have HQ10 := Lib.hid (below_then HQ8.out hb10)
                  clear hb10
                  obtain ⟨y4, z4⟩ := rp_cells HOZ10.out
                  have HOZ11 := Lib.hid (rp_set (b := .string BB) HOZ10.out)
                  have HZ11 := Lib.hid (rp_set_other (b := .string BB) (Nat.ne_of_lt HSZ7.out) HZ10.out)
                  have HQ11 := Lib.hid (HQ10.out.setCell (p := ⟨w7.heap.size, 4, none⟩) (Nat.le_refl _) (.string BB))
                  go_wp2_with (first | (refine wpList_load_row rfl _ _ rfl w7.heap.size rfl 34 #[.int .i64 RN, .string RS, .int .i64 RV, .slice A7 FD.length c7, .string BB] (0, 0) _ HOZ11.out Tryz.underlying34 rfl (by kernel_rfl) ?_) | (refine wpList_store_row rfl _ _ _ rfl w.heap.size #[.int .i64 RN, .string RS, .int .i64 RV, .slice A7 FD.length c7, .string BB] rfl rfl 34 _ HZ11.out (by kernel_rfl) rfl (by simp [Value.oneCell']) ?_))
                  refine bodyPost_ret (results_cell_row_tmp rfl _ _ w.heap.size 34 #[.int .i64 RN, .string RS, .int .i64 RV, .slice A7 FD.length c7, .string BB] (0, 0) _ rfl (setRow_heap _ _ _ _ _ _ HZ11.out) Tryz.underlying34 rfl (by kernel_rfl)) rfl ?_
                  obtain ⟨A8, c8, he8, hF8⟩ := ((HO7.out.below HQ11.out).setRow hlt6 #[.int .i64 RN, .string RS, .int .i64 RV, .slice A7 FD.length c7, .string BB]).slf HSZ.out
                  cases he8
                  exact ⟨_, _, by rw [HR.out.1, HR.out.2]; rfl, by rw [HR.out.2]; exact hF8, fun ad ha => Nat.le_trans HB6.out.size (HO7.out.fresh ad ha), below_setRow (below_then HB7.out HQ11.out) (Nat.le_refl _) _⟩
                · have HS3 := Lib.hid (SlS.tail2 HS2.out)
                  go_wp2_with fail
                  refine (C3.out _ _ _ _ HS3.out).mono ?_
                  rintro e w3 ⟨A3, c3, rfl, hF3, hb3⟩
                  have HB3 := Lib.hid (below_then HB2.out hb3)
                  have HZ3 := Lib.hid (zero_still hb3 HZ2.out)
                  have HF3 := Lib.hid hF3
                  clear hF3
                  clear hb3
                  go_wp2_with fail
                  refine (C6.out _).mono ?_
                  rintro e w6 ⟨A6, rfl, hS6, hb6⟩
                  have HB6 := Lib.hid (below_then HB3.out hb6)
                  have HZ6 := Lib.hid (zero_still hb6 HZ3.out)
                  have HF6 := Lib.hid (HF3.out.below hb6)
                  have HS6 := Lib.hid hS6
                  clear hS6
                  clear hb6
                  go_wp2_with fail
                  refine (C7.out _ _ _ _ HF6.out HS6.out).mono ?_
                  rintro e w7 ⟨v7, rfl, ho7, hb7⟩
                  have HB7 := Lib.hid (below_then HB6.out hb7)
                  have HZ7 := Lib.hid (zero_still hb7 HZ6.out)
                  have HF7 := Lib.hid (HF6.out.below hb7)
                  obtain ⟨A7, c7, rfl, hA7⟩ := ho7.slf HSZ.out
                  have HO7 := Lib.hid ho7
                  have hlt6 := (Array.getElem?_eq_some_iff.1 HZ6.out).1
                  clear ho7 hA7
                  clear hb7
                  have HOZ := Lib.hid (heap_alloc_new w7 (.cells #[.int .i64 RN, .string RS, .int .i64 RV, .slice A7 FD.length c7, .string ⟨#[]⟩] 34))
                  have HZ8 := Lib.hid (zero_more (o' := .cells #[.int .i64 RN, .string RS, .int .i64 RV, .slice A7 FD.length c7, .string ⟨#[]⟩] 34) HZ7.out)
                  have HF8 := Lib.hid (HF7.out.alloc (.cells #[.int .i64 RN, .string RS, .int .i64 RV, .slice A7 FD.length c7, .string ⟨#[]⟩] 34))
                  have HQ8 : Hid (Below w7.heap.size w7 (w7.alloc (.cells #[.int .i64 RN, .string RS, .int .i64 RV, .slice A7 FD.length c7, .string ⟨#[]⟩] 34))) := (Below.refl _ _).alloc (Nat.le_refl _) _
                  have HSZ7 := Lib.hid (show w.heap.size < w7.heap.size from (Array.getElem?_eq_some_iff.1 HZ7.out).1)
                  go_wp2_with fail
                  refine (CBL.out _).mono ?_
                  rintro e w9 ⟨rfl, rfl⟩
                  go_wp2_with fail
                  refine (C5.out _ _ _ HF8.out).mono ?_
                  rintro e w10 ⟨rfl, hb10⟩
                  have HZ10 := Lib.hid (zero_still hb10 HZ8.out)
                  have HOZ10 := Lib.hid (zero_still hb10 HOZ.out)
                  have HQ10 := Lib.hid (below_then HQ8.out hb10)
                  clear hb10
                  obtain ⟨y4, z4⟩ := rp_cells HOZ10.out
                  have HOZ11 := Lib.hid (rp_set (b := .string BB) HOZ10.out)
                  have HZ11 := Lib.hid (rp_set_other (b := .string BB) (Nat.ne_of_lt HSZ7.out) HZ10.out)
                  have HQ11 := Lib.hid (HQ10.out.setCell (p := ⟨w7.heap.size, 4, none⟩) (Nat.le_refl _) (.string BB))
                  go_wp2_with (first | (refine wpList_load_row rfl _ _ rfl w7.heap.size rfl 34 #[.int .i64 RN, .string RS, .int .i64 RV, .slice A7 FD.length c7, .string BB] (0, 0) _ HOZ11.out Tryz.underlying34 rfl (by kernel_rfl) ?_) | (refine wpList_store_row rfl _ _ _ rfl w.heap.size #[.int .i64 RN, .string RS, .int .i64 RV, .slice A7 FD.length c7, .string BB] rfl rfl 34 _ HZ11.out (by kernel_rfl) rfl (by simp [Value.oneCell']) ?_))
                  refine bodyPost_ret (results_cell_row_tmp rfl _ _ w.heap.size 34 #[.int .i64 RN, .string RS, .int .i64 RV, .slice A7 FD.length c7, .string BB] (0, 0) _ rfl (setRow_heap _ _ _ _ _ _ HZ11.out) Tryz.underlying34 rfl (by kernel_rfl)) rfl ?_
                  obtain ⟨A8, c8, he8, hF8⟩ := ((HO7.out.below HQ11.out).setRow hlt6 #[.int .i64 RN, .string RS, .int .i64 RV, .slice A7 FD.length c7, .string BB]).slf HSZ.out
                  cases he8
                  exact ⟨_, _, by rw [HR.out.1, HR.out.2]; rfl, by rw [HR.out.2]; exact hF8, fun ad ha => Nat.le_trans HB6.out.size (HO7.out.fresh ad ha), below_setRow (below_then HB7.out HQ11.out) (Nat.le_refl _) _⟩
              · have HR := Lib.hid (hbad BE hE hBE)
                unfold rp0 at HR
                clear hbad hE hR
                go_enter Tryz.func13, Tryz.ntmps13
                go_wp2_with fail
                refine (C1.out _).mono ?_
                rintro e w1 ⟨A1, c1, rfl, hS1, _, hb1⟩
                have HB1 := Lib.hid (below_then HB.out hb1)
                have HZ1 := Lib.hid (zero_still hb1 HZ.out)
                have HS1 := Lib.hid hS1
                clear hS1
                clear hb1
                obtain ⟨ad, rfl, hat⟩ := HS1.out.at_ (by simp)
                have hcell := hat 0 x rfl
                rw [show ad.add 0 = ad by simp [Addr.add]] at hcell
                clear hat
                rw [← HX.out] at hcell
                go_wp2_with fail
                refine (C2.out _).mono ?_
                rintro e w2 ⟨rfl, hb2⟩
                have HB2 := Lib.hid (below_then HB1.out hb2)
                have HZ2 := Lib.hid (zero_still hb2 HZ1.out)
                have HS2 := Lib.hid (HS1.out.below hb2)
                clear hb2
                by_cases hc : c1 = 1
                · subst hc
                  have HS3 := Lib.hid (SlS.tail1 HS2.out)
                  have hcc : (1 : Nat) = 1 := rfl
                  go_wp2_with fail
                  refine (C3.out _ _ _ _ HS3.out).mono ?_
                  rintro e w3 ⟨A3, c3, rfl, hF3, hb3⟩
                  have HB3 := Lib.hid (below_then HB2.out hb3)
                  have HZ3 := Lib.hid (zero_still hb3 HZ2.out)
                  have HF3 := Lib.hid hF3
                  clear hF3
                  clear hb3
                  go_wp2_with fail
                  refine (C6.out _).mono ?_
                  rintro e w6 ⟨A6, rfl, hS6, hb6⟩
                  have HB6 := Lib.hid (below_then HB3.out hb6)
                  have HZ6 := Lib.hid (zero_still hb6 HZ3.out)
                  have HF6 := Lib.hid (HF3.out.below hb6)
                  have HS6 := Lib.hid hS6
                  clear hS6
                  clear hb6
                  go_wp2_with fail
                  refine (C7.out _ _ _ _ HF6.out HS6.out).mono ?_
                  rintro e w7 ⟨v7, rfl, ho7, hb7⟩
                  have HB7 := Lib.hid (below_then HB6.out hb7)
                  have HZ7 := Lib.hid (zero_still hb7 HZ6.out)
                  have HF7 := Lib.hid (HF6.out.below hb7)
                  obtain ⟨A7, c7, rfl, hA7⟩ := ho7.slf HSZ.out
                  have HO7 := Lib.hid ho7
                  have hlt6 := (Array.getElem?_eq_some_iff.1 HZ6.out).1
                  clear ho7 hA7
                  clear hb7
                  have HOZ := Lib.hid (heap_alloc_new w7 (.cells #[.int .i64 RN, .string RS, .int .i64 RV, .slice A7 FD.length c7, .string ⟨#[]⟩] 34))
                  have HZ8 := Lib.hid (zero_more (o' := .cells #[.int .i64 RN, .string RS, .int .i64 RV, .slice A7 FD.length c7, .string ⟨#[]⟩] 34) HZ7.out)
                  have HF8 := Lib.hid (HF7.out.alloc (.cells #[.int .i64 RN, .string RS, .int .i64 RV, .slice A7 FD.length c7, .string ⟨#[]⟩] 34))
                  have HQ8 : Hid (Below w7.heap.size w7 (w7.alloc (.cells #[.int .i64 RN, .string RS, .int .i64 RV, .slice A7 FD.length c7, .string ⟨#[]⟩] 34))) := (Below.refl _ _).alloc (Nat.le_refl _) _
                  have HSZ7 := Lib.hid (show w.heap.size < w7.heap.size from (Array.getElem?_eq_some_iff.1 HZ7.out).1)
                  go_wp2_with fail
                  refine (CBL.out _).mono ?_
                  rintro e w9 ⟨rfl, rfl⟩
                  go_wp2_with fail
                  refine (C5.out _ _ _ HF8.out).mono ?_
                  rintro e w10 ⟨rfl, hb10⟩
                  have HZ10 := Lib.hid (zero_still hb10 HZ8.out)
                  have HOZ10 := Lib.hid (zero_still hb10 HOZ.out)
                  have HQ10 := Lib.hid (below_then HQ8.out hb10)
                  clear hb10
                  go_wp2_with (refine wpList_store_row rfl _ _ _ rfl w.heap.size #[.int .i64 0, .string ⟨#[]⟩, .int .i64 0, .slice none 0 0, .string ⟨#[]⟩] rfl rfl 34 _ HZ10.out (by kernel_rfl) rfl (by simp [Value.oneCell']) ?_)
                  refine bodyPost_ret (results_cell_row_tmp rfl _ _ w.heap.size 34 #[.int .i64 0, .string ⟨#[]⟩, .int .i64 0, .slice none 0 0, .string ⟨#[]⟩] (0, 0) _ rfl (setRow_heap _ _ _ _ _ _ HZ10.out) Tryz.underlying34 rfl (by kernel_rfl)) rfl ?_
                  exact ⟨none, 0, by rw [HR.out.1, HR.out.2]; rfl, by rw [HR.out.2]; exact SlF.none_ _, FreshA.none_ _, below_setRow (below_then HB7.out HQ10.out) (Nat.le_refl _) _⟩
                · have HS3 := Lib.hid (SlS.tail2 HS2.out)
                  go_wp2_with fail
                  refine (C3.out _ _ _ _ HS3.out).mono ?_
                  rintro e w3 ⟨A3, c3, rfl, hF3, hb3⟩
                  have HB3 := Lib.hid (below_then HB2.out hb3)
                  have HZ3 := Lib.hid (zero_still hb3 HZ2.out)
                  have HF3 := Lib.hid hF3
                  clear hF3
                  clear hb3
                  go_wp2_with fail
                  refine (C6.out _).mono ?_
                  rintro e w6 ⟨A6, rfl, hS6, hb6⟩
                  have HB6 := Lib.hid (below_then HB3.out hb6)
                  have HZ6 := Lib.hid (zero_still hb6 HZ3.out)
                  have HF6 := Lib.hid (HF3.out.below hb6)
                  have HS6 := Lib.hid hS6
                  clear hS6
                  clear hb6
                  go_wp2_with fail
                  refine (C7.out _ _ _ _ HF6.out HS6.out).mono ?_
                  rintro e w7 ⟨v7, rfl, ho7, hb7⟩
                  have HB7 := Lib.hid (below_then HB6.out hb7)
                  have HZ7 := Lib.hid (zero_still hb7 HZ6.out)
                  have HF7 := Lib.hid (HF6.out.below hb7)
                  obtain ⟨A7, c7, rfl, hA7⟩ := ho7.slf HSZ.out
                  have HO7 := Lib.hid ho7
                  have hlt6 := (Array.getElem?_eq_some_iff.1 HZ6.out).1
                  clear ho7 hA7
                  clear hb7
                  have HOZ := Lib.hid (heap_alloc_new w7 (.cells #[.int .i64 RN, .string RS, .int .i64 RV, .slice A7 FD.length c7, .string ⟨#[]⟩] 34))
                  have HZ8 := Lib.hid (zero_more (o' := .cells #[.int .i64 RN, .string RS, .int .i64 RV, .slice A7 FD.length c7, .string ⟨#[]⟩] 34) HZ7.out)
                  have HF8 := Lib.hid (HF7.out.alloc (.cells #[.int .i64 RN, .string RS, .int .i64 RV, .slice A7 FD.length c7, .string ⟨#[]⟩] 34))
                  have HQ8 : Hid (Below w7.heap.size w7 (w7.alloc (.cells #[.int .i64 RN, .string RS, .int .i64 RV, .slice A7 FD.length c7, .string ⟨#[]⟩] 34))) := (Below.refl _ _).alloc (Nat.le_refl _) _
                  have HSZ7 := Lib.hid (show w.heap.size < w7.heap.size from (Array.getElem?_eq_some_iff.1 HZ7.out).1)
                  go_wp2_with fail
                  refine (CBL.out _).mono ?_
                  rintro e w9 ⟨rfl, rfl⟩
                  go_wp2_with fail
                  refine (C5.out _ _ _ HF8.out).mono ?_
                  rintro e w10 ⟨rfl, hb10⟩
                  have HZ10 := Lib.hid (zero_still hb10 HZ8.out)
                  have HOZ10 := Lib.hid (zero_still hb10 HOZ.out)
                  have HQ10 := Lib.hid (below_then HQ8.out hb10)
                  clear hb10
                  go_wp2_with (refine wpList_store_row rfl _ _ _ rfl w.heap.size #[.int .i64 0, .string ⟨#[]⟩, .int .i64 0, .slice none 0 0, .string ⟨#[]⟩] rfl rfl 34 _ HZ10.out (by kernel_rfl) rfl (by simp [Value.oneCell']) ?_)
                  refine bodyPost_ret (results_cell_row_tmp rfl _ _ w.heap.size 34 #[.int .i64 0, .string ⟨#[]⟩, .int .i64 0, .slice none 0 0, .string ⟨#[]⟩] (0, 0) _ rfl (setRow_heap _ _ _ _ _ _ HZ10.out) Tryz.underlying34 rfl (by kernel_rfl)) rfl ?_
                  exact ⟨none, 0, by rw [HR.out.1, HR.out.2]; rfl, by rw [HR.out.2]; exact SlF.none_ _, FreshA.none_ _, below_setRow (below_then HB7.out HQ10.out) (Nat.le_refl _) _⟩
          · rw [if_pos (by simpa using hWE)] at hE
            have HR := Lib.hid (hbad WE hE hWE)
            unfold rp0 at HR
            clear hbad hE hR C5 C6 C7 CBL hhe
            go_enter Tryz.func13, Tryz.ntmps13
            go_wp2_with fail
            refine (C1.out _).mono ?_
            rintro e w1 ⟨A1, c1, rfl, hS1, _, hb1⟩
            have HB1 := Lib.hid (below_then HB.out hb1)
            have HZ1 := Lib.hid (zero_still hb1 HZ.out)
            have HS1 := Lib.hid hS1
            clear hS1
            clear hb1
            obtain ⟨ad, rfl, hat⟩ := HS1.out.at_ (by simp)
            have hcell := hat 0 x rfl
            rw [show ad.add 0 = ad by simp [Addr.add]] at hcell
            clear hat
            rw [← HX.out] at hcell
            go_wp2_with fail
            refine (C2.out _).mono ?_
            rintro e w2 ⟨rfl, hb2⟩
            have HB2 := Lib.hid (below_then HB1.out hb2)
            have HZ2 := Lib.hid (zero_still hb2 HZ1.out)
            have HS2 := Lib.hid (HS1.out.below hb2)
            clear hb2
            by_cases hc : c1 = 1
            · subst hc
              have HS3 := Lib.hid (SlS.tail1 HS2.out)
              have hcc : (1 : Nat) = 1 := rfl
              go_wp2_with fail
              refine (C3.out _ _ _ _ HS3.out).mono ?_
              rintro e w3 ⟨A3, c3, rfl, hF3, hb3⟩
              have HB3 := Lib.hid (below_then HB2.out hb3)
              have HZ3 := Lib.hid (zero_still hb3 HZ2.out)
              have HF3 := Lib.hid hF3
              clear hF3
              clear hb3
              go_wp2_with (refine wpList_store_row rfl _ _ _ rfl w.heap.size #[.int .i64 0, .string ⟨#[]⟩, .int .i64 0, .slice none 0 0, .string ⟨#[]⟩] rfl rfl 34 _ HZ3.out (by kernel_rfl) rfl (by simp [Value.oneCell']) ?_)
              refine bodyPost_ret (results_cell_row_tmp rfl _ _ w.heap.size 34 #[.int .i64 0, .string ⟨#[]⟩, .int .i64 0, .slice none 0 0, .string ⟨#[]⟩] (0, 0) _ rfl (setRow_heap _ _ _ _ _ _ HZ3.out) Tryz.underlying34 rfl (by kernel_rfl)) rfl ?_
              exact ⟨none, 0, by rw [HR.out.1, HR.out.2]; rfl, by rw [HR.out.2]; exact SlF.none_ _, FreshA.none_ _, below_setRow HB3.out (Nat.le_refl _) _⟩
            · have HS3 := Lib.hid (SlS.tail2 HS2.out)
              go_wp2_with fail
              refine (C3.out _ _ _ _ HS3.out).mono ?_
              rintro e w3 ⟨A3, c3, rfl, hF3, hb3⟩
              have HB3 := Lib.hid (below_then HB2.out hb3)
              have HZ3 := Lib.hid (zero_still hb3 HZ2.out)
              have HF3 := Lib.hid hF3
              clear hF3
              clear hb3
              go_wp2_with (refine wpList_store_row rfl _ _ _ rfl w.heap.size #[.int .i64 0, .string ⟨#[]⟩, .int .i64 0, .slice none 0 0, .string ⟨#[]⟩] rfl rfl 34 _ HZ3.out (by kernel_rfl) rfl (by simp [Value.oneCell']) ?_)
              refine bodyPost_ret (results_cell_row_tmp rfl _ _ w.heap.size 34 #[.int .i64 0, .string ⟨#[]⟩, .int .i64 0, .slice none 0 0, .string ⟨#[]⟩] (0, 0) _ rfl (setRow_heap _ _ _ _ _ _ HZ3.out) Tryz.underlying34 rfl (by kernel_rfl)) rfl ?_
              exact ⟨none, 0, by rw [HR.out.1, HR.out.2]; rfl, by rw [HR.out.2]; exact SlF.none_ _, FreshA.none_ _, below_setRow HB3.out (Nat.le_refl _) _⟩
      · rw [if_pos (by simpa using hRE)] at hE
        have HR := Lib.hid (hbad RE hE hRE)
        unfold rp0 at HR
        clear hbad hE hR C3 C5 C6 C7 CBL hhe
        go_enter Tryz.func13, Tryz.ntmps13
        go_wp2_with fail
        refine (C1.out _).mono ?_
        rintro e w1 ⟨A1, c1, rfl, hS1, _, hb1⟩
        have HB1 := Lib.hid (below_then HB.out hb1)
        have HZ1 := Lib.hid (zero_still hb1 HZ.out)
        have HS1 := Lib.hid hS1
        clear hS1
        clear hb1
        obtain ⟨ad, rfl, hat⟩ := HS1.out.at_ (by simp)
        have hcell := hat 0 x rfl
        rw [show ad.add 0 = ad by simp [Addr.add]] at hcell
        clear hat
        rw [← HX.out] at hcell
        go_wp2_with fail
        refine (C2.out _).mono ?_
        rintro e w2 ⟨rfl, hb2⟩
        have HB2 := Lib.hid (below_then HB1.out hb2)
        have HZ2 := Lib.hid (zero_still hb2 HZ1.out)
        have HS2 := Lib.hid (HS1.out.below hb2)
        clear hb2
        go_wp2_with (refine wpList_store_row rfl _ _ _ rfl w.heap.size #[.int .i64 0, .string ⟨#[]⟩, .int .i64 0, .slice none 0 0, .string ⟨#[]⟩] rfl rfl 34 _ HZ2.out (by kernel_rfl) rfl (by simp [Value.oneCell']) ?_)
        refine bodyPost_ret (results_cell_row_tmp rfl _ _ w.heap.size 34 #[.int .i64 0, .string ⟨#[]⟩, .int .i64 0, .slice none 0 0, .string ⟨#[]⟩] (0, 0) _ rfl (setRow_heap _ _ _ _ _ _ HZ2.out) Tryz.underlying34 rfl (by kernel_rfl)) rfl ?_
        exact ⟨none, 0, by rw [HR.out.1, HR.out.2]; rfl, by rw [HR.out.2]; exact SlF.none_ _, FreshA.none_ _, below_setRow HB2.out (Nat.le_refl _) _⟩

end Go.Proofs.YtjcomlklmfeimaaGreatDoor
end

/-
  Contracts of the reference's lines, PrintRequest, PrintReply (layer 12).
-/
section
namespace Go.Proofs.YtjcomlklmfeimaaGreatDoor
open Go.RowKit

/-- A message's parts are small enough for sums. -/
def SmlF (L : List Fd) : Prop := L.length ≤ 1000 ∧ ∀ x ∈ L, x.1.size ≤ 10000 ∧ x.2.size ≤ 10000
def SmlQ (r : Rqst) : Prop := r.m.size ≤ 10000 ∧ r.t.size ≤ 10000 ∧ r.b.size ≤ 100000 ∧ SmlF r.f ∧ (-9223372036854775808 ≤ r.v ∧ r.v ≤ 9223372036854775807)
def SmlP (r : Rply) : Prop := r.r.size ≤ 10000 ∧ r.b.size ≤ 100000 ∧ SmlF r.f ∧ (-9223372036854775808 ≤ r.v ∧ r.v ≤ 9223372036854775807) ∧ (-9223372036854775808 ≤ r.c ∧ r.c ≤ 9223372036854775807)

theorem cel5 {W : World} {g t : Nat} {c0 c1 c2 c3 c4 : Value} (h : W.heap[g]? = some (.cells #[c0, c1, c2, c3, c4] t (0, 0))) :
    W.cell? ⟨g, 0, none⟩ = some c0 ∧ W.cell? ⟨g, 1, none⟩ = some c1 ∧ W.cell? ⟨g, 2, none⟩ = some c2 ∧ W.cell? ⟨g, 3, none⟩ = some c3 ∧ W.cell? ⟨g, 4, none⟩ = some c4 := by
  refine ⟨?_, ?_, ?_, ?_, ?_⟩ <;> (rw [cell_of_row W g _ _ _ _ h]; rfl)
theorem lnsL_snoc (L : List Fd) (k : Nat) (h : k < L.length) : lnsL (L.take (k + 1)) = lnsL (L.take k) ++ ((lineS L[k]).data.toList ++ [13, 10]) := by
  unfold lnsL
  rw [take_fd L k h, List.flatMap_append]
  simp
theorem lnsL_le : ∀ L : List Fd, (∀ x ∈ L, x.1.size ≤ 10000 ∧ x.2.size ≤ 10000) → (lnsL L).length ≤ L.length * 20004
  | [], _ => Nat.zero_le _
  | x :: L, h => by
    have h1 := lnsL_le L fun y hy => h y (List.mem_cons_of_mem _ hy)
    have h2 := h x (List.mem_cons_self ..)
    have h3 := line_size x
    rw [Lib.size_eq] at h3
    have : lnsL (x :: L) = ((lineS x).data.toList ++ [13, 10]) ++ lnsL L := by unfold lnsL; rfl
    rw [this, List.length_append, List.length_append, List.length_cons]
    simp only [List.length_cons, List.length_nil]
    omega

set_option maxHeartbeats 4000000 in
set_option maxRecDepth 100000 in
theorem r_lines (A : Option Addr) (n c : Nat) (L : List Fd) (w : World) (h : SlF w A n c L) (hm : SmlF L) :
    Calls Tryz.prog 50 #[.slice A n c] w fun e w' => e = .returned (.string (mkS (lnsL L))) ∧ Below w.heap.size w w' := by
  have hlen := h.len
  subst hlen
  obtain ⟨hm1, hm2⟩ := hm
  go_enter Tryz.func50, Tryz.ntmps50
  go_wp2_with fail
  go_loopw [3, 4] (fun u i wr => ∃ (k : Nat) (S : ByteArray), k ≤ L.length ∧ i = .int .i64 (k : Int) ∧ u = .string S ∧ Hid (S.data.toList = lnsL (L.take k)) ∧ Below w.heap.size w wr) (fun _ i _ => L.length - (intOf i).toNat)
  case atStart => exact ⟨0, ⟨#[]⟩, Nat.zero_le _, rfl, rfl, rfl, Below.refl _ _⟩
  case round =>
    obtain ⟨k, S, hk, rfl, rfl, hf, hbel⟩ := hrel
    have hSz : S.size ≤ 20004000 := by
      rw [Lib.size_eq, hf.out]
      refine Nat.le_trans (lnsL_le _ fun x hx => hm2 x (List.mem_of_mem_take hx)) ?_
      rw [List.length_take]
      have : min k L.length ≤ 1000 := by omega
      omega
    by_cases hlt : k < L.length
    · obtain ⟨ad, rfl, hc⟩ := h.at_ (by omega)
      obtain ⟨hc0, hc1⟩ := hc k L[k] (List.getElem?_eq_getElem hlt)
      have hcell0 := cell_kept hbel hc0
      have hcell1 := fd_snd (cell_kept hbel hc1)
      have hsn := lnsL_snoc L k hlt
      have hxz := hm2 _ (List.getElem_mem hlt)
      have hls := line_size L[k]
      have CL := Lib.hid (fun W => rf_line L[k] (by omega) W)
      generalize L[k] = x at *
      have HT : Hid (((S ++ lineS x) ++ (⟨#[13, 10]⟩ : ByteArray)).data.toList = lnsL (L.take (k + 1))) := by
        show _ = _
        rw [append_list, append_list, hf.out, hsn, List.append_assoc]
      generalize lineS x = ls at *
      obtain ⟨xa, xb⟩ := x
      unfold fdV at CL
      simp only at hls hxz
      have hlz : (ls.size : Int) ≤ 30000 := by omega
      have hSi : (S.size : Int) ≤ 20004000 := by omega
      have hi0 : (0 : Int) ≤ (k : Int) := by omega
      have hi1 : (k : Int) < (L.length : Int) := by omega
      clear hc hc0 hc1 hsn hxz hls hf hSz
      go_wp2_with fail
      refine (CL.out _).mono ?_
      rintro e w1 ⟨rfl, hb1⟩
      have hb := below_then hbel hb1
      clear hb1
      go_wp2_with fail
      go_roundw
      case rel => exact ⟨k + 1, _, by omega, by go_num, rfl, HT, hb⟩
      case measure => simp [intOf]; omega
    · have HR : Hid (mkS (lnsL L) = S) := by
        show _ = _
        have := hf.out
        rw [List.take_of_length_le (by omega)] at this
        rw [← this, mkS_self]
      have hi1 : ¬ (k : Int) < (L.length : Int) := by omega
      clear hf hSz
      go_wp2_with fail
      go_ret
      exact ⟨by rw [HR.out]; rfl, hbel⟩

theorem bytes_eq {a b : ByteArray} (h : a.data.toList = b.data.toList) : a = b := by rw [mkS_eq h, mkS_self]
set_option maxHeartbeats 16000000 in
set_option maxRecDepth 100000 in
theorem r_pmQ (r : Rqst) (A : Option Addr) (c : Nat) (w : World) (h : SlF w A r.f.length c r.f) (hm : SmlQ r) :
    Calls Tryz.prog 18 #[.agg (rqC r A c)] w fun e w' => e = .returned (.string (pmQ r)) ∧ Below w.heap.size w w' := by
  obtain ⟨g1, g2, g3, g4, g5, g6⟩ := hm
  have hL : (mkS (lnsL r.f)).size ≤ 20004000 := by
    rw [mkS_size]
    have := lnsL_le r.f g4.2
    have := g4.1
    omega
  have hD : (mkS (plainL (r.b.size : Int))).size ≤ 100 := by
    rw [mkS_size]
    have := plainL_short (r.b.size : Int) (by omega) (by omega)
    omega
  have hp : (prqS r.m r.t r.v).size ≤ 30000 := by
    have := plainL_short r.v g5 g6
    rw [Lib.size_eq, prq_list]
    simp only [List.length_append, List.length_cons, List.length_nil]
    rw [← Lib.size_eq, ← Lib.size_eq]
    omega
  have hR0 : r.b.size = 0 → ((((prqS r.m r.t r.v ++ crS) ++ mkS (lnsL r.f)) ++ crS) ++ r.b) = pmQ r := fun h => by
    refine bytes_eq ?_
    unfold pmQ
    rw [if_pos h, mkS_list]
    simp [mkS_list, crS]
  have hR1 : r.b.size ≠ 0 → (((((((prqS r.m r.t r.v ++ crS) ++ mkS (lnsL r.f)) ++ clH) ++ mkS (plainL (r.b.size : Int))) ++ crS) ++ crS) ++ r.b) = pmQ r := fun h => by
    refine bytes_eq ?_
    unfold pmQ clL
    rw [if_neg h, mkS_list]
    simp [mkS_list, crS]
  have C1 := Lib.hid (fun W => r_printRequest r.m r.t r.v g5 g6 (by omega) (by omega) W)
  have C2 := Lib.hid (fun W A' n' c' (hW : SlF W A' n' c' r.f) => r_lines A' n' c' r.f W hW g4)
  have C3 := Lib.hid (fun W => r_plain (r.b.size : Int) (by omega) (by omega) W)
  unfold rqC
  unfold crS at hR0 hR1
  unfold clH at hR1
  obtain ⟨m, t, v, f, b⟩ := r
  simp only at *
  generalize mkS (plainL (b.size : Int)) = D at *
  generalize mkS (lnsL f) = Ls at *
  generalize prqS m t v = P at *
  generalize pmQ ⟨m, t, v, f, b⟩ = R at *
  have hp1 : (P.size : Int) ≤ 30000 := by omega
  have hL1 : (Ls.size : Int) ≤ 20004000 := by omega
  have hD1 : (D.size : Int) ≤ 100 := by omega
  have hb1 : (b.size : Int) ≤ 100000 := by omega
  have k1 : ¬ 9223372036854775807 < P.size + 2 := by omega
  have k2 : ¬ 9223372036854775807 < P.size + 2 + Ls.size := by omega
  have HZ : Hid ((w.alloc (.cells #[.string m, .string t, .int .i64 v, .slice A f.length c, .string b] 25)).drew.heap[w.heap.size]? = some (.cells #[.string m, .string t, .int .i64 v, .slice A f.length c, .string b] 25 (0, 0))) := heap_alloc_new w _
  have HB : Hid (Below w.heap.size w (w.alloc (.cells #[.string m, .string t, .int .i64 v, .slice A f.length c, .string b] 25)).drew) := ((Below.refl _ _).alloc (Nat.le_refl _) _).drew
  have HF : Hid (SlF (w.alloc (.cells #[.string m, .string t, .int .i64 v, .slice A f.length c, .string b] 25)).drew A f.length c f) := (h.alloc _).drew
  clear h g1 g2 g3 g4 g5 g6 hL hD hp
  by_cases hz : b.size = 0
  · have HR := Lib.hid (hR0 hz)
    have hem := nil_str hz
    have hem' : (b.toList == []) = true := by simpa using hem
    clear hR0 hR1 C3
    go_enter Tryz.func18, Tryz.ntmps18
    go_wp2_with fail
    go_region_held3 (fun W => W.cell? ⟨w.heap.size, 0, none⟩ = some (.string m) ∧ W.cell? ⟨w.heap.size, 1, none⟩ = some (.string t) ∧ W.cell? ⟨w.heap.size, 2, none⟩ = some (.int .i64 v) ∧ W.cell? ⟨w.heap.size, 3, none⟩ = some (.slice A f.length c)) (exact ⟨(cel5 HZ.out).1, (cel5 HZ.out).2.1, (cel5 HZ.out).2.2.1, (cel5 HZ.out).2.2.2.1⟩) (first
      | (go_at_call 49; refine (C1.out _).mono ?_; rintro e w1 ⟨rfl, hb1⟩; have HZ := Lib.hid (zero_still hb1 HZ.out); have HF := Lib.hid (HF.out.below hb1); have HB := Lib.hid (below_then HB.out hb1); clear hb1)
      | (go_at_call 50; refine (C2.out _ _ _ _ HF.out).mono ?_; rintro e w2 ⟨rfl, hb2⟩; have HZ := Lib.hid (zero_still hb2 HZ.out); have HF := Lib.hid (HF.out.below hb2); have HB := Lib.hid (below_then HB.out hb2); clear hb2))
    obtain ⟨x0, x1, x2, x3, x4⟩ := cel5 HZ.out
    go_wp2_with fail
    go_ret
    exact ⟨by rw [← HR.out]; rfl, HB.out⟩
  · have HR := Lib.hid (hR1 hz)
    have hem := non_str hz
    have hem' : (b.toList == []) = false := by simpa using hem
    clear hR0 hR1
    go_enter Tryz.func18, Tryz.ntmps18
    go_wp2_with fail
    go_region_held3 (fun W => W.cell? ⟨w.heap.size, 0, none⟩ = some (.string m) ∧ W.cell? ⟨w.heap.size, 1, none⟩ = some (.string t) ∧ W.cell? ⟨w.heap.size, 2, none⟩ = some (.int .i64 v) ∧ W.cell? ⟨w.heap.size, 3, none⟩ = some (.slice A f.length c)) (exact ⟨(cel5 HZ.out).1, (cel5 HZ.out).2.1, (cel5 HZ.out).2.2.1, (cel5 HZ.out).2.2.2.1⟩) (first
      | (go_at_call 49; refine (C1.out _).mono ?_; rintro e w1 ⟨rfl, hb1⟩; have HZ := Lib.hid (zero_still hb1 HZ.out); have HF := Lib.hid (HF.out.below hb1); have HB := Lib.hid (below_then HB.out hb1); clear hb1)
      | (go_at_call 50; refine (C2.out _ _ _ _ HF.out).mono ?_; rintro e w2 ⟨rfl, hb2⟩; have HZ := Lib.hid (zero_still hb2 HZ.out); have HF := Lib.hid (HF.out.below hb2); have HB := Lib.hid (below_then HB.out hb2); clear hb2))
    obtain ⟨x0, x1, x2, x3, x4⟩ := cel5 HZ.out
    go_wp2_with fail
    refine (C3.out _).mono ?_
    rintro e w3 ⟨rfl, hb3⟩
    have HZ3 := Lib.hid (zero_still hb3 HZ.out)
    have HB := Lib.hid (below_then HB.out hb3)
    obtain ⟨x0, x1, x2, x3, x4⟩ := cel5 HZ3.out
    clear hb3
    go_wp2_with fail
    go_ret
    exact ⟨by rw [← HR.out]; rfl, HB.out⟩

set_option maxHeartbeats 16000000 in
set_option maxRecDepth 100000 in
theorem r_pmP (r : Rply) (hd : Bool) (A : Option Addr) (c : Nat) (w : World) (h : SlF w A r.f.length c r.f) (hm : SmlP r) :
    Calls Tryz.prog 20 #[.agg (rpC r A c), .bool hd] w fun e w' => e = .returned (.string (pmP r hd)) ∧ Below w.heap.size w w' := by
  obtain ⟨g1, g2, g4, ⟨g5, g6⟩, g7, g8⟩ := hm
  have hL : (mkS (lnsL r.f)).size ≤ 20004000 := by
    rw [mkS_size]
    have := lnsL_le r.f g4.2
    have := g4.1
    omega
  have hD : (mkS (plainL (r.b.size : Int))).size ≤ 100 := by
    rw [mkS_size]
    have := plainL_short (r.b.size : Int) (by omega) (by omega)
    omega
  have hp : (pstS r.c r.r r.v).size ≤ 30000 := by
    have := plainL_short r.v g5 g6
    have := plainL_short r.c g7 g8
    rw [Lib.size_eq, pst_list]
    simp only [List.length_append, List.length_cons, List.length_nil]
    rw [← Lib.size_eq]
    omega
  have hR0 : bodL r.c = true → (((pstS r.c r.r r.v ++ crS) ++ mkS (lnsL r.f)) ++ crS) = pmP r hd := fun h => by
    refine bytes_eq ?_
    unfold pmP
    rw [h, if_pos rfl, mkS_list]
    simp [mkS_list, crS]
  have hR1 : bodL r.c = false → hd = true → r.b.size = 0 → (((pstS r.c r.r r.v ++ crS) ++ mkS (lnsL r.f)) ++ crS) = pmP r hd := fun h h2 h3 => by
    refine bytes_eq ?_
    unfold pmP
    rw [h, h2, if_neg (by simp), if_pos (by simp [h3]), mkS_list]
    simp [mkS_list, crS]
  have hR2 : bodL r.c = false → hd = true → r.b.size ≠ 0 → ((((((pstS r.c r.r r.v ++ crS) ++ mkS (lnsL r.f)) ++ clH) ++ mkS (plainL (r.b.size : Int))) ++ crS) ++ crS) = pmP r hd := fun h h2 h3 => by
    refine bytes_eq ?_
    unfold pmP clL
    rw [h, h2, if_neg (by simp), if_neg (by simp [h3]), mkS_list]
    simp [mkS_list, crS]
  have hR3 : bodL r.c = false → hd = false → (((((((pstS r.c r.r r.v ++ crS) ++ mkS (lnsL r.f)) ++ clH) ++ mkS (plainL (r.b.size : Int))) ++ crS) ++ crS) ++ r.b) = pmP r hd := fun h h2 => by
    refine bytes_eq ?_
    unfold pmP clL
    rw [h, h2, if_neg (by simp), if_neg (by simp), mkS_list]
    simp [mkS_list, crS]
  have C1 := Lib.hid (fun W => r_printStatus r.c r.r r.v g7 g8 g5 g6 (by omega) W)
  have C2 := Lib.hid (fun W A' n' c' (hW : SlF W A' n' c' r.f) => r_lines A' n' c' r.f W hW g4)
  have C3 := Lib.hid (fun W => r_plain (r.b.size : Int) (by omega) (by omega) W)
  have CB := Lib.hid (fun W => r_bodiless r.c W)
  unfold rpC
  unfold crS at hR0 hR1 hR2 hR3
  unfold clH at hR2 hR3
  obtain ⟨m, t, v, f, b⟩ := r
  simp only at *
  generalize mkS (plainL (b.size : Int)) = D at *
  generalize mkS (lnsL f) = Ls at *
  generalize pstS m t v = P at *
  generalize pmP ⟨m, t, v, f, b⟩ hd = R at *
  generalize bodL m = bl at *
  have hp1 : (P.size : Int) ≤ 30000 := by omega
  have hL1 : (Ls.size : Int) ≤ 20004000 := by omega
  have hD1 : (D.size : Int) ≤ 100 := by omega
  have hb1 : (b.size : Int) ≤ 100000 := by omega
  have k1 : ¬ 9223372036854775807 < P.size + 2 := by omega
  have k2 : ¬ 9223372036854775807 < P.size + 2 + Ls.size := by omega
  have HZ : Hid ((w.alloc (.cells #[.int .i64 m, .string t, .int .i64 v, .slice A f.length c, .string b] 34)).drew.heap[w.heap.size]? = some (.cells #[.int .i64 m, .string t, .int .i64 v, .slice A f.length c, .string b] 34 (0, 0))) := heap_alloc_new w _
  have HB : Hid (Below w.heap.size w (w.alloc (.cells #[.int .i64 m, .string t, .int .i64 v, .slice A f.length c, .string b] 34)).drew) := ((Below.refl _ _).alloc (Nat.le_refl _) _).drew
  have HF : Hid (SlF (w.alloc (.cells #[.int .i64 m, .string t, .int .i64 v, .slice A f.length c, .string b] 34)).drew A f.length c f) := (h.alloc _).drew
  clear h g1 g2 g4 g5 g6 g7 g8 hL hD hp
  cases bl with
  | true =>
    have HR := Lib.hid (hR0 rfl)
    clear hR0 hR1 hR2 hR3 C3
    go_enter Tryz.func20, Tryz.ntmps20
    go_wp2_with fail
    go_region_held3 (fun W => W.cell? ⟨w.heap.size, 0, none⟩ = some (.int .i64 m) ∧ W.cell? ⟨w.heap.size, 1, none⟩ = some (.string t) ∧ W.cell? ⟨w.heap.size, 2, none⟩ = some (.int .i64 v) ∧ W.cell? ⟨w.heap.size, 3, none⟩ = some (.slice A f.length c)) (exact ⟨(cel5 HZ.out).1, (cel5 HZ.out).2.1, (cel5 HZ.out).2.2.1, (cel5 HZ.out).2.2.2.1⟩) (first
      | (go_at_call 54; refine (C1.out _).mono ?_; rintro e w1 ⟨rfl, hb1⟩; have HZ := Lib.hid (zero_still hb1 HZ.out); have HF := Lib.hid (HF.out.below hb1); have HB := Lib.hid (below_then HB.out hb1); clear hb1)
      | (go_at_call 50; refine (C2.out _ _ _ _ HF.out).mono ?_; rintro e w2 ⟨rfl, hb2⟩; have HZ := Lib.hid (zero_still hb2 HZ.out); have HF := Lib.hid (HF.out.below hb2); have HB := Lib.hid (below_then HB.out hb2); clear hb2))
    obtain ⟨x0, x1, x2, x3, x4⟩ := cel5 HZ.out
    go_wp2_with fail
    refine (CB.out _).mono ?_
    rintro e wb ⟨rfl, rfl⟩
    go_wp2_with fail
    go_ret
    exact ⟨by rw [← HR.out]; rfl, HB.out⟩
  | false =>
    cases hd with
    | true =>
      by_cases hz : b.size = 0
      · have hem := nil_str hz
        have hem' : (b.toList == []) = true := by simpa using hem
        have HR := Lib.hid (hR1 rfl rfl hz)
        clear hR0 hR1 hR2 hR3 C3
        go_enter Tryz.func20, Tryz.ntmps20
        go_wp2_with fail
        go_region_held3 (fun W => W.cell? ⟨w.heap.size, 0, none⟩ = some (.int .i64 m) ∧ W.cell? ⟨w.heap.size, 1, none⟩ = some (.string t) ∧ W.cell? ⟨w.heap.size, 2, none⟩ = some (.int .i64 v) ∧ W.cell? ⟨w.heap.size, 3, none⟩ = some (.slice A f.length c)) (exact ⟨(cel5 HZ.out).1, (cel5 HZ.out).2.1, (cel5 HZ.out).2.2.1, (cel5 HZ.out).2.2.2.1⟩) (first
          | (go_at_call 54; refine (C1.out _).mono ?_; rintro e w1 ⟨rfl, hb1⟩; have HZ := Lib.hid (zero_still hb1 HZ.out); have HF := Lib.hid (HF.out.below hb1); have HB := Lib.hid (below_then HB.out hb1); clear hb1)
          | (go_at_call 50; refine (C2.out _ _ _ _ HF.out).mono ?_; rintro e w2 ⟨rfl, hb2⟩; have HZ := Lib.hid (zero_still hb2 HZ.out); have HF := Lib.hid (HF.out.below hb2); have HB := Lib.hid (below_then HB.out hb2); clear hb2))
        obtain ⟨x0, x1, x2, x3, x4⟩ := cel5 HZ.out
        go_wp2_with fail
        refine (CB.out _).mono ?_
        rintro e wb ⟨rfl, rfl⟩
        go_wp2_with fail
        go_ret
        exact ⟨by rw [← HR.out]; rfl, HB.out⟩
      · have hem := non_str hz
        have hem' : (b.toList == []) = false := by simpa using hem
        have HR := Lib.hid (hR2 rfl rfl hz)
        clear hR0 hR1 hR2 hR3
        go_enter Tryz.func20, Tryz.ntmps20
        go_wp2_with fail
        go_region_held3 (fun W => W.cell? ⟨w.heap.size, 0, none⟩ = some (.int .i64 m) ∧ W.cell? ⟨w.heap.size, 1, none⟩ = some (.string t) ∧ W.cell? ⟨w.heap.size, 2, none⟩ = some (.int .i64 v) ∧ W.cell? ⟨w.heap.size, 3, none⟩ = some (.slice A f.length c)) (exact ⟨(cel5 HZ.out).1, (cel5 HZ.out).2.1, (cel5 HZ.out).2.2.1, (cel5 HZ.out).2.2.2.1⟩) (first
          | (go_at_call 54; refine (C1.out _).mono ?_; rintro e w1 ⟨rfl, hb1⟩; have HZ := Lib.hid (zero_still hb1 HZ.out); have HF := Lib.hid (HF.out.below hb1); have HB := Lib.hid (below_then HB.out hb1); clear hb1)
          | (go_at_call 50; refine (C2.out _ _ _ _ HF.out).mono ?_; rintro e w2 ⟨rfl, hb2⟩; have HZ := Lib.hid (zero_still hb2 HZ.out); have HF := Lib.hid (HF.out.below hb2); have HB := Lib.hid (below_then HB.out hb2); clear hb2))
        obtain ⟨x0, x1, x2, x3, x4⟩ := cel5 HZ.out
        go_wp2_with fail
        refine (CB.out _).mono ?_
        rintro e wb ⟨rfl, rfl⟩
        go_wp2_with fail
        refine (C3.out _).mono ?_
        rintro e w3 ⟨rfl, hb3⟩
        have HZ3 := Lib.hid (zero_still hb3 HZ.out)
        have HB := Lib.hid (below_then HB.out hb3)
        obtain ⟨x0, x1, x2, x3, x4⟩ := cel5 HZ3.out
        clear hb3
        go_wp2_with fail
        go_ret
        exact ⟨by rw [← HR.out]; rfl, HB.out⟩
    | false =>
      have HR := Lib.hid (hR3 rfl rfl)
      clear hR0 hR1 hR2 hR3
      go_enter Tryz.func20, Tryz.ntmps20
      go_wp2_with fail
      go_region_held3 (fun W => W.cell? ⟨w.heap.size, 0, none⟩ = some (.int .i64 m) ∧ W.cell? ⟨w.heap.size, 1, none⟩ = some (.string t) ∧ W.cell? ⟨w.heap.size, 2, none⟩ = some (.int .i64 v) ∧ W.cell? ⟨w.heap.size, 3, none⟩ = some (.slice A f.length c)) (exact ⟨(cel5 HZ.out).1, (cel5 HZ.out).2.1, (cel5 HZ.out).2.2.1, (cel5 HZ.out).2.2.2.1⟩) (first
        | (go_at_call 54; refine (C1.out _).mono ?_; rintro e w1 ⟨rfl, hb1⟩; have HZ := Lib.hid (zero_still hb1 HZ.out); have HF := Lib.hid (HF.out.below hb1); have HB := Lib.hid (below_then HB.out hb1); clear hb1)
        | (go_at_call 50; refine (C2.out _ _ _ _ HF.out).mono ?_; rintro e w2 ⟨rfl, hb2⟩; have HZ := Lib.hid (zero_still hb2 HZ.out); have HF := Lib.hid (HF.out.below hb2); have HB := Lib.hid (below_then HB.out hb2); clear hb2))
      obtain ⟨x0, x1, x2, x3, x4⟩ := cel5 HZ.out
      go_wp2_with fail
      refine (CB.out _).mono ?_
      rintro e wb ⟨rfl, rfl⟩
      go_wp2_with fail
      refine (C3.out _).mono ?_
      rintro e w3 ⟨rfl, hb3⟩
      have HZ3 := Lib.hid (zero_still hb3 HZ.out)
      have HB := Lib.hid (below_then HB.out hb3)
      obtain ⟨x0, x1, x2, x3, x4⟩ := cel5 HZ3.out
      clear hb3
      go_wp2_with fail
      go_ret
      exact ⟨by rw [← HR.out]; rfl, HB.out⟩

end Go.Proofs.YtjcomlklmfeimaaGreatDoor
end
