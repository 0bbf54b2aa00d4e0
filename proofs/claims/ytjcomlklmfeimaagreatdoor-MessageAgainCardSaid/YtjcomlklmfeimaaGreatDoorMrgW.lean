/-
  Texts that the laws of this seat lean on, one behind the other.
-/
import Derived.Test.YtjcomlklmfeimaaGreatDoorMrgV
import Derived.Test.YtjcomlklmfeimaaGreatDoorMrgU
import Derived.Test.YtjcomlklmfeimaaGreatDoorMrgS
import Derived.Test.YtjcomlklmfeimaaGreatDoorMrgO
import Derived.Test.YtjcomlklmfeimaaGreatDoorMrgM
import Derived.Test.YtjcomlklmfeimaaGreatDoorMrgH
/-
  Contracts of the reference's framing, body (layer 12).
-/
section
namespace Go.Proofs.YtjcomlklmfeimaaGreatDoor
open Go.RowKit

theorem frm_vals (w : World) (t : TypeId) : SlS (w.alloc (.cells #[.string clS, .string teS, .string trS] t)) (some ⟨w.heap.size, 0, none⟩) 3 3 frm := SlS.texts w t [clS, teS, trS] (by decide)
theorem r_framing (w : World) :
    Calls Tryz.prog 40 #[] w fun e w' => ∃ A, e = .returned (.slice A 3 3) ∧ SlS w' A 3 3 frm ∧ Below w.heap.size w w' := by
  have hS := frm_vals w 9
  unfold clS teS trS at hS
  have HS := Lib.hid hS
  clear hS
  go_enter Tryz.func40, Tryz.ntmps40
  go_wp2_with fail
  go_ret
  exact ⟨_, rfl, HS.out, (Below.refl _ _).alloc (Nat.le_refl _) _⟩

theorem bd_22 {T C : List (List UInt8)} {s : ByteArray} {v : Int} {op : Bool} {k : Int} (h : bdE T C s v op = k) (hk : k ≠ 0) : bdE T C s v op = k ∧ bdB T C s v op = ⟨#[]⟩ := by
  refine ⟨h, ?_⟩
  unfold bdB
  rw [h, if_neg hk]
theorem bd_ok {T C : List (List UInt8)} {s : ByteArray} {v : Int} {op : Bool} (h : bdE T C s v op = 0) : bdE T C s v op = 0 ∧ bdB T C s v op = if 0 < T.length then decB s else s := by
  refine ⟨h, ?_⟩
  unfold bdB
  rw [if_pos h]
theorem bdE_te {T C : List (List UInt8)} {s : ByteArray} {v : Int} {op : Bool} (h : 0 < T.length) : bdE T C s v op = if teB T C v then (if decE s = 0 then (if decN s = (s.size : Int) then 0 else 22) else decE s) else 22 := by unfold bdE; rw [if_pos h]
theorem bdE_cl {T C : List (List UInt8)} {s : ByteArray} {v : Int} {op : Bool} (h : ¬ 0 < T.length) (g : 0 < C.length) : bdE T C s v op = if lnB C then (if lnA C < (s.size : Int) then 22 else if (s.size : Int) < lnA C then 6 else 0) else 22 := by unfold bdE; rw [if_neg h, if_pos g]
theorem bdE_no {T C : List (List UInt8)} {s : ByteArray} {v : Int} {op : Bool} (h : ¬ 0 < T.length) (g : ¬ 0 < C.length) : bdE T C s v op = if op then 0 else if s.size = 0 then 0 else 22 := by unfold bdE; rw [if_neg h, if_neg g]

theorem teS_le : teS.size ≤ maxLen := by decide
theorem clS_le : clS.size ≤ maxLen := by decide
theorem ckS_le : ckS.size ≤ maxLen := by decide
set_option maxHeartbeats 16000000 in
set_option maxRecDepth 100000 in
theorem r_body (A : Option Addr) (n c : Nat) (L : List Fd) (s : ByteArray) (v : Int) (op : Bool) (w : World) (h : SlF w A n c L) (hn : n ≤ 100000000) (hs : s.size ≤ 1000000) (hB : ∀ x ∈ L, x.2.size ≤ 1000000) :
    Calls Tryz.prog 38 #[.slice A n c, .string s, .int .i64 v, .bool op] w fun e w' => e = .returned (.tuple #[.string (bodB L s v op), .int .i64 (bodE L s v op)]) ∧ Below w.heap.size w w' := by
  have C1 := Lib.hid (fun W (hW : Below w.heap.size w W) => rf_all A n c L teS W (h.below hW) hn teS_le)
  have C2 := Lib.hid (fun W (hW : Below w.heap.size w W) => rf_all A n c L clS W (h.below hW) hn clS_le)
  have hE : bodE L s v op = bdE (fdAll L teS) (fdAll L clS) s v op := rfl
  have hBd : bodB L s v op = bdB (fdAll L teS) (fdAll L clS) s v op := rfl
  have hall : ∀ nm, ∀ x ∈ fdAll L nm, x.length ≤ 1000000 := fun nm x hx => by
    unfold fdAll at hx
    obtain ⟨y, hy, rfl⟩ := List.mem_map.1 hx
    rw [← Lib.size_eq]
    exact hB y (List.mem_filter.1 hy).1
  have hT := hall teS
  have hC := hall clS
  have hln : ∀ nm, (fdAll L nm).length ≤ n := fun nm => by
    unfold fdAll
    rw [List.length_map]
    exact Nat.le_trans (List.length_filter_le _ _) (Nat.le_of_eq h.len)
  have hTn := hln teS
  have hCn := hln clS
  generalize fdAll L teS = T at *
  generalize fdAll L clS = C at *
  unfold teS at C1
  unfold clS at C2
  rw [hE, hBd]
  have CD := Lib.hid (fun W => r_decode s W hs)
  have CL := Lib.hid (fun W A' c' (hW : SlS W A' C.length c' C) => r_length A' C.length c' C W hW (by omega) hC)
  clear hall hln hE hBd
  have h22 := fun (k : Int) (h : bdE T C s v op = k) (hk : k ≠ 0) => bd_22 h hk
  have hok := fun (h : bdE T C s v op = 0) => bd_ok h
  by_cases hT0 : 0 < T.length
  · have hE := bdE_te (C := C) (s := s) (v := v) (op := op) hT0
    have hT1 : (0 : Int) < (T.length : Int) := by omega
    have hteB : teB T C v = (((decide (v = 1) && decide (T.length = 1)) && sameB (mkS (T.headD [])) ckS) && decide (C.length = 0)) := rfl
    rw [if_pos hT0] at hok
    clear CL hC
    generalize bdE T C s v op = RE at *
    generalize bdB T C s v op = RB at *
    generalize teB T C v = tb at *
    have no : tb = false → Hid (RE = 22 ∧ RB = ⟨#[]⟩) := fun h => by
      rw [h] at hE
      exact h22 22 hE (by decide)
    by_cases hv : v = 1
    · subst hv
      have hv : (1 : Int) = 1 := rfl
      by_cases hl : T.length = 1
      · obtain ⟨x, hx⟩ : ∃ x, T = [x] := by
          match T, hl with
          | [x], _ => exact ⟨x, rfl⟩
        subst hx
        have hxs : (mkS x).size ≤ maxLen := by
          have := hT x (List.mem_singleton.2 rfl)
          rw [mkS_size]; have h2 : (1000000 : Nat) ≤ maxLen := by decide
          omega
        have CM := Lib.hid (fun W => r_same (mkS x) ckS W hxs ckS_le)
        have hhd : mkS (([x] : List (List UInt8)).headD []) = mkS x := rfl
        rw [hhd] at hteB
        have hat : ∀ W A' c', SlS W A' 1 c' [x] → ∃ ad, A' = some ad ∧ W.cell? ad = some (.string (mkS x)) := fun W A' c' hh => by
          obtain ⟨ad, e1, e2⟩ := hh.at_ (by decide)
          have := e2 0 x rfl
          exact ⟨ad, e1, by rw [show ad.add 0 = ad by simp [Addr.add]] at this; exact this⟩
        generalize mkS x = ms at *
        generalize sameB ms ckS = sm at *
        unfold ckS at CM
        have HAT := Lib.hid hat
        clear hT hxs hhd hat
        cases sm with
        | false =>
          have HR := no (by rw [hteB, Bool.and_false, Bool.false_and])
          clear hteB h22 hok hE no CD hv hl
          go_enter Tryz.func38, Tryz.ntmps38
          go_wp2_with fail
          refine (C1.out _ (Below.refl _ _)).mono ?_
          rintro e w1 ⟨A1, c1, rfl, hS1, _, hb1⟩
          have HB1 := Lib.hid hb1
          go_wp2_with fail
          refine (C2.out _ HB1.out).mono ?_
          rintro e w2 ⟨A2, c2, rfl, hS2, _, hb2⟩
          have HB2 := Lib.hid (below_then HB1.out hb2)
          have HS1 := Lib.hid (hS1.below hb2)
          have HS2 := Lib.hid hS2
          clear hb1 hb2 hS1 hS2
          obtain ⟨ad, rfl, hcell⟩ := HAT.out _ _ _ HS1.out
          go_wp2_with fail
          refine (CM.out _).mono ?_
          rintro e w3 ⟨rfl, hb3⟩
          have HB3 := Lib.hid (below_then HB2.out hb3)
          clear hb3
          go_wp2_with fail
          go_ret2
          exact ⟨by rw [HR.out.1, HR.out.2]; rfl, HB3.out⟩
        | true =>
          by_cases hc : C.length = 0
          · have htb : tb = true := by rw [hteB, hc]; rfl
            rw [htb, if_pos rfl] at hE
            have hC1 : ¬ (0 : Int) < (C.length : Int) := by omega
            clear hteB no hv hl hc htb
            generalize decE s = E at *
            generalize decN s = N at *
            generalize decB s = B at *
            by_cases he : E = 0
            · by_cases hN : N = (s.size : Int)
              · have HR : Hid (RE = 0 ∧ RB = B) := hok (by rw [hE, if_pos he, if_pos hN])
                subst he hN
                clear h22 hok hE
                go_enter Tryz.func38, Tryz.ntmps38
                go_wp2_with fail
                refine (C1.out _ (Below.refl _ _)).mono ?_
                rintro e w1 ⟨A1, c1, rfl, hS1, _, hb1⟩
                have HB1 := Lib.hid hb1
                go_wp2_with fail
                refine (C2.out _ HB1.out).mono ?_
                rintro e w2 ⟨A2, c2, rfl, hS2, _, hb2⟩
                have HB2 := Lib.hid (below_then HB1.out hb2)
                have HS1 := Lib.hid (hS1.below hb2)
                have HS2 := Lib.hid hS2
                clear hb1 hb2 hS1 hS2
                obtain ⟨ad, rfl, hcell⟩ := HAT.out _ _ _ HS1.out
                go_wp2_with fail
                refine (CM.out _).mono ?_
                rintro e w3 ⟨rfl, hb3⟩
                have HB3 := Lib.hid (below_then HB2.out hb3)
                clear hb3
                go_wp2_with fail
                refine (CD.out _).mono ?_
                rintro e w4 ⟨rfl, hb4⟩
                have HB4 := Lib.hid (below_then HB3.out hb4)
                clear hb4
                go_wp2_with fail
                go_ret2
                exact ⟨by rw [HR.out.1, HR.out.2]; rfl, HB4.out⟩
              · have HR : Hid (RE = 22 ∧ RB = ⟨#[]⟩) := h22 22 (by rw [hE, if_pos he, if_neg hN]) (by decide)
                have hN1 : (N == (s.size : Int)) = false := by simpa using hN
                subst he
                clear h22 hok hE
                go_enter Tryz.func38, Tryz.ntmps38
                go_wp2_with fail
                refine (C1.out _ (Below.refl _ _)).mono ?_
                rintro e w1 ⟨A1, c1, rfl, hS1, _, hb1⟩
                have HB1 := Lib.hid hb1
                go_wp2_with fail
                refine (C2.out _ HB1.out).mono ?_
                rintro e w2 ⟨A2, c2, rfl, hS2, _, hb2⟩
                have HB2 := Lib.hid (below_then HB1.out hb2)
                have HS1 := Lib.hid (hS1.below hb2)
                have HS2 := Lib.hid hS2
                clear hb1 hb2 hS1 hS2
                obtain ⟨ad, rfl, hcell⟩ := HAT.out _ _ _ HS1.out
                go_wp2_with fail
                refine (CM.out _).mono ?_
                rintro e w3 ⟨rfl, hb3⟩
                have HB3 := Lib.hid (below_then HB2.out hb3)
                clear hb3
                go_wp2_with fail
                refine (CD.out _).mono ?_
                rintro e w4 ⟨rfl, hb4⟩
                have HB4 := Lib.hid (below_then HB3.out hb4)
                clear hb4
                go_wp2_with fail
                go_ret2
                exact ⟨by rw [HR.out.1, HR.out.2]; rfl, HB4.out⟩
            · have HR : Hid (RE = E ∧ RB = ⟨#[]⟩) := h22 E (by rw [hE, if_neg he]) he
              have he1 : (E == 0) = false := by simpa using he
              clear h22 hok hE
              go_enter Tryz.func38, Tryz.ntmps38
              go_wp2_with fail
              refine (C1.out _ (Below.refl _ _)).mono ?_
              rintro e w1 ⟨A1, c1, rfl, hS1, _, hb1⟩
              have HB1 := Lib.hid hb1
              go_wp2_with fail
              refine (C2.out _ HB1.out).mono ?_
              rintro e w2 ⟨A2, c2, rfl, hS2, _, hb2⟩
              have HB2 := Lib.hid (below_then HB1.out hb2)
              have HS1 := Lib.hid (hS1.below hb2)
              have HS2 := Lib.hid hS2
              clear hb1 hb2 hS1 hS2
              obtain ⟨ad, rfl, hcell⟩ := HAT.out _ _ _ HS1.out
              go_wp2_with fail
              refine (CM.out _).mono ?_
              rintro e w3 ⟨rfl, hb3⟩
              have HB3 := Lib.hid (below_then HB2.out hb3)
              clear hb3
              go_wp2_with fail
              refine (CD.out _).mono ?_
              rintro e w4 ⟨rfl, hb4⟩
              have HB4 := Lib.hid (below_then HB3.out hb4)
              clear hb4
              go_wp2_with fail
              go_ret2
              exact ⟨by rw [HR.out.1, HR.out.2]; rfl, HB4.out⟩
          · have HR := no (by rw [hteB, decide_eq_false hc, Bool.and_false])
            have hC1 : (0 : Int) < (C.length : Int) := by omega
            clear hteB h22 hok hE no CD hv hl hc
            go_enter Tryz.func38, Tryz.ntmps38
            go_wp2_with fail
            refine (C1.out _ (Below.refl _ _)).mono ?_
            rintro e w1 ⟨A1, c1, rfl, hS1, _, hb1⟩
            have HB1 := Lib.hid hb1
            go_wp2_with fail
            refine (C2.out _ HB1.out).mono ?_
            rintro e w2 ⟨A2, c2, rfl, hS2, _, hb2⟩
            have HB2 := Lib.hid (below_then HB1.out hb2)
            have HS1 := Lib.hid (hS1.below hb2)
            have HS2 := Lib.hid hS2
            clear hb1 hb2 hS1 hS2
            obtain ⟨ad, rfl, hcell⟩ := HAT.out _ _ _ HS1.out
            go_wp2_with fail
            refine (CM.out _).mono ?_
            rintro e w3 ⟨rfl, hb3⟩
            have HB3 := Lib.hid (below_then HB2.out hb3)
            clear hb3
            go_wp2_with fail
            go_ret2
            exact ⟨by rw [HR.out.1, HR.out.2]; rfl, HB3.out⟩
      · have hl1 : ¬ (T.length : Int) = 1 := by omega
        have HR := no (by rw [hteB, decide_eq_false hl, Bool.and_false, Bool.false_and, Bool.false_and])
        clear hteB h22 hok hE no CD hv hl hT
        go_enter Tryz.func38, Tryz.ntmps38
        go_wp2_with fail
        refine (C1.out _ (Below.refl _ _)).mono ?_
        rintro e w1 ⟨A1, c1, rfl, hS1, _, hb1⟩
        have HB1 := Lib.hid hb1
        go_wp2_with fail
        refine (C2.out _ HB1.out).mono ?_
        rintro e w2 ⟨A2, c2, rfl, hS2, _, hb2⟩
        have HB2 := Lib.hid (below_then HB1.out hb2)
        have HS1 := Lib.hid (hS1.below hb2)
        have HS2 := Lib.hid hS2
        clear hb1 hb2 hS1 hS2
        go_wp2_with fail
        go_ret2
        exact ⟨by rw [HR.out.1, HR.out.2]; rfl, HB2.out⟩
    · have hv1 : ¬ v = 1 := hv
      have HR := no (by rw [hteB, decide_eq_false hv]; rfl)
      clear hteB h22 hok hE no CD hT
      go_enter Tryz.func38, Tryz.ntmps38
      go_wp2_with fail
      refine (C1.out _ (Below.refl _ _)).mono ?_
      rintro e w1 ⟨A1, c1, rfl, hS1, _, hb1⟩
      have HB1 := Lib.hid hb1
      go_wp2_with fail
      refine (C2.out _ HB1.out).mono ?_
      rintro e w2 ⟨A2, c2, rfl, hS2, _, hb2⟩
      have HB2 := Lib.hid (below_then HB1.out hb2)
      have HS1 := Lib.hid (hS1.below hb2)
      have HS2 := Lib.hid hS2
      clear hb1 hb2 hS1 hS2
      go_wp2_with fail
      go_ret2
      exact ⟨by rw [HR.out.1, HR.out.2]; rfl, HB2.out⟩
  · have hT1 : ¬ (0 : Int) < (T.length : Int) := by omega
    clear CD hT
    rw [if_neg hT0] at hok
    by_cases hC0 : 0 < C.length
    · have hE := bdE_cl (T := T) (s := s) (v := v) (op := op) hT0 hC0
      have hC1 : (0 : Int) < (C.length : Int) := by omega
      generalize bdE T C s v op = RE at *
      generalize bdB T C s v op = RB at *
      generalize lnA C = N at *
      generalize lnB C = nb at *
      cases nb with
      | false =>
        have HR : Hid (RE = 22 ∧ RB = ⟨#[]⟩) := h22 22 hE (by decide)
        clear h22 hok hE hC
        go_enter Tryz.func38, Tryz.ntmps38
        go_wp2_with fail
        refine (C1.out _ (Below.refl _ _)).mono ?_
        rintro e w1 ⟨A1, c1, rfl, hS1, _, hb1⟩
        have HB1 := Lib.hid hb1
        go_wp2_with fail
        refine (C2.out _ HB1.out).mono ?_
        rintro e w2 ⟨A2, c2, rfl, hS2, _, hb2⟩
        have HB2 := Lib.hid (below_then HB1.out hb2)
        have HS1 := Lib.hid (hS1.below hb2)
        have HS2 := Lib.hid hS2
        clear hb1 hb2 hS1 hS2
        go_wp2_with fail
        refine (CL.out _ _ _ HS2.out).mono ?_
        rintro e w3 ⟨rfl, hb3⟩
        have HB3 := Lib.hid (below_then HB2.out hb3)
        clear hb3
        go_wp2_with fail
        go_ret2
        exact ⟨by rw [HR.out.1, HR.out.2]; rfl, HB3.out⟩
      | true =>
        rw [if_pos rfl] at hE
        by_cases h1 : N < (s.size : Int)
        · have HR : Hid (RE = 22 ∧ RB = ⟨#[]⟩) := h22 22 (by rw [hE, if_pos h1]) (by decide)
          clear h22 hok hE hC
          go_enter Tryz.func38, Tryz.ntmps38
          go_wp2_with fail
          refine (C1.out _ (Below.refl _ _)).mono ?_
          rintro e w1 ⟨A1, c1, rfl, hS1, _, hb1⟩
          have HB1 := Lib.hid hb1
          go_wp2_with fail
          refine (C2.out _ HB1.out).mono ?_
          rintro e w2 ⟨A2, c2, rfl, hS2, _, hb2⟩
          have HB2 := Lib.hid (below_then HB1.out hb2)
          have HS1 := Lib.hid (hS1.below hb2)
          have HS2 := Lib.hid hS2
          clear hb1 hb2 hS1 hS2
          go_wp2_with fail
          refine (CL.out _ _ _ HS2.out).mono ?_
          rintro e w3 ⟨rfl, hb3⟩
          have HB3 := Lib.hid (below_then HB2.out hb3)
          clear hb3
          go_wp2_with fail
          go_ret2
          exact ⟨by rw [HR.out.1, HR.out.2]; rfl, HB3.out⟩
        · by_cases h2 : (s.size : Int) < N
          · have HR : Hid (RE = 6 ∧ RB = ⟨#[]⟩) := h22 6 (by rw [hE, if_neg h1, if_pos h2]) (by decide)
            clear h22 hok hE hC
            go_enter Tryz.func38, Tryz.ntmps38
            go_wp2_with fail
            refine (C1.out _ (Below.refl _ _)).mono ?_
            rintro e w1 ⟨A1, c1, rfl, hS1, _, hb1⟩
            have HB1 := Lib.hid hb1
            go_wp2_with fail
            refine (C2.out _ HB1.out).mono ?_
            rintro e w2 ⟨A2, c2, rfl, hS2, _, hb2⟩
            have HB2 := Lib.hid (below_then HB1.out hb2)
            have HS1 := Lib.hid (hS1.below hb2)
            have HS2 := Lib.hid hS2
            clear hb1 hb2 hS1 hS2
            go_wp2_with fail
            refine (CL.out _ _ _ HS2.out).mono ?_
            rintro e w3 ⟨rfl, hb3⟩
            have HB3 := Lib.hid (below_then HB2.out hb3)
            clear hb3
            go_wp2_with fail
            go_ret2
            exact ⟨by rw [HR.out.1, HR.out.2]; rfl, HB3.out⟩
          · have HR : Hid (RE = 0 ∧ RB = s) := hok (by rw [hE, if_neg h1, if_neg h2])
            clear h22 hok hE hC
            go_enter Tryz.func38, Tryz.ntmps38
            go_wp2_with fail
            refine (C1.out _ (Below.refl _ _)).mono ?_
            rintro e w1 ⟨A1, c1, rfl, hS1, _, hb1⟩
            have HB1 := Lib.hid hb1
            go_wp2_with fail
            refine (C2.out _ HB1.out).mono ?_
            rintro e w2 ⟨A2, c2, rfl, hS2, _, hb2⟩
            have HB2 := Lib.hid (below_then HB1.out hb2)
            have HS1 := Lib.hid (hS1.below hb2)
            have HS2 := Lib.hid hS2
            clear hb1 hb2 hS1 hS2
            go_wp2_with fail
            refine (CL.out _ _ _ HS2.out).mono ?_
            rintro e w3 ⟨rfl, hb3⟩
            have HB3 := Lib.hid (below_then HB2.out hb3)
            clear hb3
            go_wp2_with fail
            go_ret2
            exact ⟨by rw [HR.out.1, HR.out.2]; rfl, HB3.out⟩
    · have hE := bdE_no (s := s) (v := v) (op := op) hT0 hC0
      have hC1 : ¬ (0 : Int) < (C.length : Int) := by omega
      generalize bdE T C s v op = RE at *
      generalize bdB T C s v op = RB at *
      clear CL hC
      cases op with
      | true =>
        have HR : Hid (RE = 0 ∧ RB = s) := hok hE
        clear h22 hok hE
        go_enter Tryz.func38, Tryz.ntmps38
        go_wp2_with fail
        refine (C1.out _ (Below.refl _ _)).mono ?_
        rintro e w1 ⟨A1, c1, rfl, hS1, _, hb1⟩
        have HB1 := Lib.hid hb1
        go_wp2_with fail
        refine (C2.out _ HB1.out).mono ?_
        rintro e w2 ⟨A2, c2, rfl, hS2, _, hb2⟩
        have HB2 := Lib.hid (below_then HB1.out hb2)
        have HS1 := Lib.hid (hS1.below hb2)
        have HS2 := Lib.hid hS2
        clear hb1 hb2 hS1 hS2
        go_wp2_with fail
        go_ret2
        exact ⟨by rw [HR.out.1, HR.out.2]; rfl, HB2.out⟩
      | false =>
        by_cases h0 : s.size = 0
        · have HR : Hid (RE = 0 ∧ RB = s) := hok (by rw [hE, if_pos h0]; rfl)
          have hem := nil_str h0
          have hem' : (s.toList == []) = true := by simpa using hem
          clear h22 hok hE
          go_enter Tryz.func38, Tryz.ntmps38
          go_wp2_with fail
          refine (C1.out _ (Below.refl _ _)).mono ?_
          rintro e w1 ⟨A1, c1, rfl, hS1, _, hb1⟩
          have HB1 := Lib.hid hb1
          go_wp2_with fail
          refine (C2.out _ HB1.out).mono ?_
          rintro e w2 ⟨A2, c2, rfl, hS2, _, hb2⟩
          have HB2 := Lib.hid (below_then HB1.out hb2)
          have HS1 := Lib.hid (hS1.below hb2)
          have HS2 := Lib.hid hS2
          clear hb1 hb2 hS1 hS2
          go_wp2_with fail
          go_ret2
          exact ⟨by rw [HR.out.1, HR.out.2]; rfl, HB2.out⟩
        · have HR : Hid (RE = 22 ∧ RB = ⟨#[]⟩) := h22 22 (by rw [hE, if_neg h0]; rfl) (by decide)
          have hem := non_str h0
          have hem' : (s.toList == []) = false := by simpa using hem
          clear h22 hok hE
          go_enter Tryz.func38, Tryz.ntmps38
          go_wp2_with fail
          refine (C1.out _ (Below.refl _ _)).mono ?_
          rintro e w1 ⟨A1, c1, rfl, hS1, _, hb1⟩
          have HB1 := Lib.hid hb1
          go_wp2_with fail
          refine (C2.out _ HB1.out).mono ?_
          rintro e w2 ⟨A2, c2, rfl, hS2, _, hb2⟩
          have HB2 := Lib.hid (below_then HB1.out hb2)
          have HS1 := Lib.hid (hS1.below hb2)
          have HS2 := Lib.hid hS2
          clear hb1 hb2 hS1 hS2
          go_wp2_with fail
          go_ret2
          exact ⟨by rw [HR.out.1, HR.out.2]; rfl, HB2.out⟩

end Go.Proofs.YtjcomlklmfeimaaGreatDoor
end

/-
  Contracts of the reference's ParseRequest, ParseReply (layer 12).
-/
section
namespace Go.Proofs.YtjcomlklmfeimaaGreatDoor
open Go.RowKit

theorem SlS.tail1 {w : World} {ad : Addr} {n : Nat} {x : List UInt8} {tl : List (List UInt8)} (h : SlS w (some ad) n 1 (x :: tl)) : SlS w (some ad) (n - 1) 0 tl := by
  have h1 := h.len
  have h2 := h.cap
  rw [List.length_cons] at h1
  obtain rfl : tl = [] := List.eq_nil_of_length_eq_zero (by omega)
  exact ⟨by simp; omega, by omega, Nat.zero_le _, fun _ => rfl, fun h => by simp at h1; omega⟩
theorem SlS.tail2 {w : World} {ad : Addr} {n c : Nat} {x : List UInt8} {tl : List (List UInt8)} (h : SlS w (some ad) n c (x :: tl)) : SlS w (some (ad.add 1)) (n - 1) (c - 1) tl := by
  have h1 := h.len
  have h2 := h.cap
  have h3 := h.cm
  rw [List.length_cons] at h1
  refine ⟨by omega, by omega, by omega, (fun e => by cases e), fun _ => ⟨_, rfl, fun j y hy => ?_⟩⟩
  have := h.cells (j + 1) y (by rw [List.getElem?_cons_succ]; exact hy)
  rw [Go.Addr.add_add, Nat.add_comm]
  exact this
theorem hdr_le : ∀ (F : Nat) (X : List (List UInt8)) (l : List UInt8) (Y : List (List UInt8)) (r : List UInt8), hdr F X l = some (Y, r) → r.length ≤ l.length ∧ Y.length ≤ X.length + l.length ∧ ∀ x ∈ Y, x ∈ X ∨ x.length ≤ l.length
  | 0, _, _, _, _, h => by cases h
  | F + 1, X, l, Y, r, h => by
    unfold hdr at h
    split at h
    · cases h
    · rename_i ln q e
      have hl := congrArg List.length (lineL_form e)
      rw [List.length_append, List.length_cons, List.length_cons] at hl
      split at h
      · cases h
        exact ⟨by omega, by omega, fun x hx => .inl hx⟩
      · obtain ⟨h1, h2, h3⟩ := hdr_le F _ _ _ _ h
        rw [List.length_append, List.length_singleton] at h2
        refine ⟨by omega, by omega, fun x hx => ?_⟩
        rcases h3 x hx with h | h
        · rcases List.mem_append.1 h with h | h
          · exact .inl h
          · rw [List.mem_singleton] at h
            subst h
            exact .inr (by omega)
        · exact .inr (by omega)
theorem hd_le (s : ByteArray) : (hdR s).size ≤ s.size ∧ (hdL s).length ≤ s.size ∧ ∀ x ∈ hdL s, x.length ≤ s.size := by
  cases e : hdO s with
  | none =>
    obtain ⟨h1, h2, h3⟩ := hd_none e
    rw [h1, h2]
    exact ⟨Nat.zero_le _, Nat.zero_le _, fun x hx => by cases hx⟩
  | some p =>
    obtain ⟨Y, r⟩ := p
    obtain ⟨h1, h2, h3⟩ := hd_some e
    obtain ⟨g1, g2, g3⟩ := hdr_le _ _ _ _ _ e
    rw [h1, h2]
    rw [← Lib.size_eq] at g1 g2 g3
    refine ⟨by rw [mkS_size]; exact g1, by simpa using g2, fun x hx => ?_⟩
    rcases g3 x hx with h | h
    · cases h
    · exact h
theorem hd_cons {s : ByteArray} (h : hdB s = true) : ∃ x tl, hdL s = x :: tl := by
  cases e : hdO s with
  | none => rw [(hd_none e).2.2] at h; cases h
  | some p =>
    obtain ⟨Y, r⟩ := p
    obtain ⟨h1, h2, h3⟩ := hd_some e
    rw [h3, decide_eq_true_eq] at h
    rw [h1]
    match Y, h with
    | x :: tl, _ => exact ⟨x, tl, rfl⟩
theorem rwF_sz {L : List (List UInt8)} (h : ∀ x ∈ L, x.length ≤ 1000000) : ∀ f ∈ rwF L, f.1.size ≤ 1000000 ∧ f.2.size ≤ 1000000 := fun f hf => by
  unfold rwF at hf
  split at hf
  · obtain ⟨y, hy, rfl⟩ := List.mem_map.1 hf
    have h1 := flF_le (mkS y)
    rw [mkS_size] at h1
    have := h y hy
    exact ⟨by omega, by omega⟩
  · cases hf
theorem rwF_le (L : List (List UInt8)) : (rwF L).length ≤ L.length := by
  unfold rwF
  split
  · rw [List.length_map]; exact Nat.le_refl _
  · exact Nat.zero_le _
/-- A store of a whole struct elsewhere leaves fields of the call's own as they were. -/
theorem OwnF.setRow {w : World} {base e : Nat} {v : Value} {X : List Fd} (h : OwnF w base e v X) {g : Nat} (hg : g < base) (cs : Array Value) : OwnF (w.setRow g cs) base e v X := by
  refine ⟨h.1, ?_⟩
  rcases h.2 with h2 | ⟨g2, cap, cur, h1, h2, h3, h4, h5, h6, h7⟩
  · exact .inl h2
  · exact .inr ⟨g2, cap, cur, h1, h2, by rw [setRow_other _ _ _ _ (by omega)]; exact h3, h4, h5, h6, h7⟩
theorem frm_le : ∀ x ∈ frm, x.length ≤ maxLen := fun x hx => by
  simp only [frm, List.mem_cons, List.not_mem_nil, or_false] at hx
  rcases hx with rfl | rfl | rfl <;> decide
theorem fdDrop_sz {L : List Fd} {N : List (List UInt8)} (h : ∀ f ∈ L, f.1.size ≤ 1000000 ∧ f.2.size ≤ 1000000) : ∀ f ∈ fdDrop L N, f.1.size ≤ maxLen ∧ f.2.size ≤ maxLen := fun f hf => by
  have := h f (List.mem_filter.1 hf).1
  have h2 : (1000000 : Nat) ≤ maxLen := by decide
  exact ⟨by omega, by omega⟩
/-- An empty request (reply), in cells. -/
def zqC : Array Value := #[.string ⟨#[]⟩, .string ⟨#[]⟩, .int .i64 0, .slice none 0 0, .string ⟨#[]⟩]
def zpC : Array Value := #[.int .i64 0, .string ⟨#[]⟩, .int .i64 0, .slice none 0 0, .string ⟨#[]⟩]

theorem pq_bad {raw : ByteArray} {k : Int} (h : pqE raw = k) (hk : k ≠ 0) : pqE raw = k ∧ pqR raw = rq0 := ⟨h, by unfold pqR; rw [h, if_neg hk]⟩
set_option maxHeartbeats 32000000 in
set_option maxRecDepth 100000 in
theorem r_parseRequest (raw : ByteArray) (w : World) (hs : raw.size ≤ 1000000) :
    Calls Tryz.prog 10 #[.string raw] w (IsRq w (pqR raw) (pqE raw)) := by
  have HZ : Hid ((w.alloc (.cells #[.string ⟨#[]⟩, .string ⟨#[]⟩, .int .i64 0, .slice none 0 0, .string ⟨#[]⟩] 25)).heap[w.heap.size]? = some (.cells #[.string ⟨#[]⟩, .string ⟨#[]⟩, .int .i64 0, .slice none 0 0, .string ⟨#[]⟩] 25 (0, 0))) := heap_alloc_new w _
  have HB : Hid (Below w.heap.size w (w.alloc (.cells #[.string ⟨#[]⟩, .string ⟨#[]⟩, .int .i64 0, .slice none 0 0, .string ⟨#[]⟩] 25))) := (Below.refl _ _).alloc (Nat.le_refl _) _
  have hbad := fun (k : Int) (h : pqE raw = k) (hk : k ≠ 0) => pq_bad h hk
  have hE : pqE raw = if 65536 < raw.size then 4 else if hdB raw = false then 5 else if rqE (l1S raw) ≠ 0 then rqE (l1S raw) else if rsE raw ≠ 0 then rsE raw
      else if hoB (rsF raw) (rqV (l1S raw)) = false then 26 else bodE (rsF raw) (hdR raw) (rqV (l1S raw)) false := rfl
  have hR : pqE raw = 0 → pqR raw = ⟨rqA (l1S raw), rqB (l1S raw), rqV (l1S raw), fdDrop (rsF raw) frm, bodB (rsF raw) (hdR raw) (rqV (l1S raw)) false⟩ := fun h => by unfold pqR; rw [if_pos h]
  by_cases hl : 65536 < raw.size
  · rw [if_pos hl] at hE
    have hl' : (65536 : Int) < (raw.size : Int) := by omega
    have HR := Lib.hid (hbad 4 hE (by decide))
    unfold rq0 at HR
    generalize pqE raw = PE at *
    generalize pqR raw = PR at *
    clear hbad hE hR hl
    go_enter Tryz.func10, Tryz.ntmps10
    go_wp2_with fail
    refine bodyPost_ret (results_cell_row_tmp rfl _ _ w.heap.size 25 #[.string ⟨#[]⟩, .string ⟨#[]⟩, .int .i64 0, .slice none 0 0, .string ⟨#[]⟩] (0, 0) _ rfl HZ.out Tryz.underlying25 rfl (by kernel_rfl)) rfl ?_
    exact ⟨none, 0, by rw [HR.out.1, HR.out.2]; rfl, by rw [HR.out.2]; exact SlF.none_ _, FreshA.none_ _, HB.out⟩
  · rw [if_neg hl] at hE
    have hl' : ¬ (65536 : Int) < (raw.size : Int) := by omega
    have C1 := Lib.hid (fun W => r_head raw W hs)
    obtain ⟨g1, g2, g3⟩ := hd_le raw
    by_cases hb : hdB raw = false
    · rw [if_pos hb] at hE
      have HR := Lib.hid (hbad 5 hE (by decide))
      unfold rq0 at HR
      rw [hb] at C1
      generalize pqE raw = PE at *
      generalize pqR raw = PR at *
      clear hbad hE hR hl
      go_enter Tryz.func10, Tryz.ntmps10
      go_wp2_with fail
      refine (C1.out _).mono ?_
      rintro e w1 ⟨A1, c1, rfl, hS1, _, hb1⟩
      have HB1 := Lib.hid (below_then HB.out hb1)
      have HZ1 := Lib.hid (zero_still hb1 HZ.out)
      have HS1 := Lib.hid hS1
      clear hS1
      clear hb1
      go_wp2_with (refine wpList_store_row rfl _ _ _ rfl w.heap.size #[.string ⟨#[]⟩, .string ⟨#[]⟩, .int .i64 0, .slice none 0 0, .string ⟨#[]⟩] rfl rfl 25 _ HZ1.out (by kernel_rfl) rfl (by simp [Value.oneCell']) ?_)
      refine bodyPost_ret (results_cell_row_tmp rfl _ _ w.heap.size 25 #[.string ⟨#[]⟩, .string ⟨#[]⟩, .int .i64 0, .slice none 0 0, .string ⟨#[]⟩] (0, 0) _ rfl (setRow_heap _ _ _ _ _ _ HZ1.out) Tryz.underlying25 rfl (by kernel_rfl)) rfl ?_
      exact ⟨none, 0, by rw [HR.out.1, HR.out.2]; rfl, by rw [HR.out.2]; exact SlF.none_ _, FreshA.none_ _, below_setRow HB1.out (Nat.le_refl _) _⟩
    · rw [if_neg hb] at hE
      have hb' : hdB raw = true := by simpa using hb
      rw [hb'] at C1
      obtain ⟨x, tl, hx⟩ := hd_cons hb'
      have e1 : l1S raw = mkS x := by unfold l1S; rw [hx]; rfl
      have e2 : rsF raw = rwF tl := by unfold rsF; rw [hx]; rfl
      have e3 : rsE raw = rwE tl := by unfold rsE; rw [hx]; rfl
      rw [e1, e2, e3] at hE
      rw [e1, e2] at hR
      rw [hx] at C1 g3 g2
      have gx := g3 x (List.mem_cons_self ..)
      have gt : ∀ y ∈ tl, y.length ≤ 1000000 := fun y hy => Nat.le_trans (g3 y (List.mem_cons_of_mem _ hy)) hs
      rw [List.length_cons] at g2
      have hms : (mkS x).size ≤ maxLen := by rw [mkS_size]; have : (1000000 : Nat) ≤ maxLen := by decide
                                             omega
      have C2 := Lib.hid (fun W => r_request (mkS x) W hms)
      have C3 := Lib.hid (fun W A' n' c' (hW : SlS W A' n' c' tl) => r_rows A' n' c' tl W hW (by have := hW.len; omega) gt)
      have gf := rwF_sz gt
      have gl := rwF_le tl
      have HSZ := Lib.hid (fdDrop_sz (N := frm) gf)
      obtain ⟨ms, hmx⟩ : ∃ ms, ms = mkS x := ⟨_, rfl⟩
      have HX := Lib.hid hmx
      rw [← hmx] at C2 hE hR
      have C4 := Lib.hid (fun W A' c' (hW : SlF W A' (rwF tl).length c' (rwF tl)) => r_host A' _ c' (rwF tl) (rqV ms) W hW (by omega))
      have C5 := Lib.hid (fun W A' c' (hW : SlF W A' (rwF tl).length c' (rwF tl)) => r_body A' _ c' (rwF tl) (hdR raw) (rqV ms) false W hW (by omega) (by omega) (fun f hf => (gf f hf).2))
      have C6 := Lib.hid (fun W => r_framing W)
      have C7 := Lib.hid (fun W A' B' c' (hW : SlF W A' (rwF tl).length c' (rwF tl)) (hW2 : SlS W B' 3 3 frm) => rf_drop A' B' _ c' 3 3 (rwF tl) frm W hW (by omega) hW2 frm_le (by omega))
      clear e1 e2 e3 hx hmx g1 g2 g3 gx gt gf gl hms hb hb' hl
      generalize pqE raw = PE at *
      generalize pqR raw = PR at *
      generalize hdR raw = rest at *
      generalize rqA ms = RA at *
      generalize rqB ms = RB at *
      generalize rqV ms = RV at *
      generalize rqE ms = RE at *
      generalize rwE tl = WE at *
      generalize fdDrop (rwF tl) frm = FD at *
      generalize hoB (rwF tl) RV = ho at *
      generalize bodE (rwF tl) rest RV false = BE at *
      generalize bodB (rwF tl) rest RV false = BB at *
      generalize rwF tl = FL at *
      by_cases hRE : RE = 0
      · rw [if_neg (by simp [hRE])] at hE
        subst hRE
        by_cases hWE : WE = 0
        · rw [if_neg (by simp [hWE])] at hE
          subst hWE
          cases ho with
          | false =>
            rw [if_pos rfl] at hE
            have HR := Lib.hid (hbad 26 hE (by decide))
            unfold rq0 at HR
            clear hbad hE hR C5 C6 C7
            go_enter Tryz.func10, Tryz.ntmps10
            go_wp2_with fail
            refine (C1.out _).mono ?_
            rintro e w1 ⟨A1, c1, rfl, hS1, _, hb1⟩
            have HB1 := Lib.hid (below_then HB.out hb1)
            have HZ1 := Lib.hid (zero_still hb1 HZ.out)
            have HS1 := Lib.hid hS1
            clear hS1
            clear hb1
            obtain ⟨ad, rfl, hat⟩ := HS1.out.at_ (by simp)
            have hcell := hat 0 x rfl
            rw [show ad.add 0 = ad by simp [Addr.add]] at hcell
            clear hat
            rw [← HX.out] at hcell
            go_wp2_with fail
            refine (C2.out _).mono ?_
            rintro e w2 ⟨rfl, hb2⟩
            have HB2 := Lib.hid (below_then HB1.out hb2)
            have HZ2 := Lib.hid (zero_still hb2 HZ1.out)
            have HS2 := Lib.hid (HS1.out.below hb2)
            clear hb2
            by_cases hc : c1 = 1
            · subst hc
              have HS3 := Lib.hid (SlS.tail1 HS2.out)
              have hcc : (1 : Nat) = 1 := rfl
              go_wp2_with fail
              refine (C3.out _ _ _ _ HS3.out).mono ?_
              rintro e w3 ⟨A3, c3, rfl, hF3, hb3⟩
              have HB3 := Lib.hid (below_then HB2.out hb3)
              have HZ3 := Lib.hid (zero_still hb3 HZ2.out)
              have HF3 := Lib.hid hF3
              clear hF3
              clear hb3
              go_wp2_with fail
              refine (C4.out _ _ _ HF3.out).mono ?_
              rintro e w4 ⟨rfl, hb4⟩
              have HB4 := Lib.hid (below_then HB3.out hb4)
              have HZ4 := Lib.hid (zero_still hb4 HZ3.out)
              have HF4 := Lib.hid (HF3.out.below hb4)
              clear hb4
              go_wp2_with (refine wpList_store_row rfl _ _ _ rfl w.heap.size #[.string ⟨#[]⟩, .string ⟨#[]⟩, .int .i64 0, .slice none 0 0, .string ⟨#[]⟩] rfl rfl 25 _ HZ4.out (by kernel_rfl) rfl (by simp [Value.oneCell']) ?_)
              refine bodyPost_ret (results_cell_row_tmp rfl _ _ w.heap.size 25 #[.string ⟨#[]⟩, .string ⟨#[]⟩, .int .i64 0, .slice none 0 0, .string ⟨#[]⟩] (0, 0) _ rfl (setRow_heap _ _ _ _ _ _ HZ4.out) Tryz.underlying25 rfl (by kernel_rfl)) rfl ?_
              exact ⟨none, 0, by rw [HR.out.1, HR.out.2]; rfl, by rw [HR.out.2]; exact SlF.none_ _, FreshA.none_ _, below_setRow HB4.out (Nat.le_refl _) _⟩
            · have HS3 := Lib.hid (SlS.tail2 HS2.out)
              go_wp2_with fail
              refine (C3.out _ _ _ _ HS3.out).mono ?_
              rintro e w3 ⟨A3, c3, rfl, hF3, hb3⟩
              have HB3 := Lib.hid (below_then HB2.out hb3)
              have HZ3 := Lib.hid (zero_still hb3 HZ2.out)
              have HF3 := Lib.hid hF3
              clear hF3
              clear hb3
              go_wp2_with fail
              refine (C4.out _ _ _ HF3.out).mono ?_
              rintro e w4 ⟨rfl, hb4⟩
              have HB4 := Lib.hid (below_then HB3.out hb4)
              have HZ4 := Lib.hid (zero_still hb4 HZ3.out)
              have HF4 := Lib.hid (HF3.out.below hb4)
              clear hb4
              go_wp2_with (refine wpList_store_row rfl _ _ _ rfl w.heap.size #[.string ⟨#[]⟩, .string ⟨#[]⟩, .int .i64 0, .slice none 0 0, .string ⟨#[]⟩] rfl rfl 25 _ HZ4.out (by kernel_rfl) rfl (by simp [Value.oneCell']) ?_)
              refine bodyPost_ret (results_cell_row_tmp rfl _ _ w.heap.size 25 #[.string ⟨#[]⟩, .string ⟨#[]⟩, .int .i64 0, .slice none 0 0, .string ⟨#[]⟩] (0, 0) _ rfl (setRow_heap _ _ _ _ _ _ HZ4.out) Tryz.underlying25 rfl (by kernel_rfl)) rfl ?_
              exact ⟨none, 0, by rw [HR.out.1, HR.out.2]; rfl, by rw [HR.out.2]; exact SlF.none_ _, FreshA.none_ _, below_setRow HB4.out (Nat.le_refl _) _⟩
          | true =>
            rw [if_neg (by simp)] at hE
            by_cases hBE : BE = 0
            · have HR : Hid (PE = 0 ∧ PR = ⟨RA, RB, RV, FD, BB⟩) := ⟨hE.trans hBE, hR (hE.trans hBE)⟩
              subst hBE
              clear hbad hE hR
              go_enter Tryz.func10, Tryz.ntmps10
              go_wp2_with fail
              refine (C1.out _).mono ?_
              rintro e w1 ⟨A1, c1, rfl, hS1, _, hb1⟩
              have HB1 := Lib.hid (below_then HB.out hb1)
              have HZ1 := Lib.hid (zero_still hb1 HZ.out)
              have HS1 := Lib.hid hS1
              clear hS1
              clear hb1
              obtain ⟨ad, rfl, hat⟩ := HS1.out.at_ (by simp)
              have hcell := hat 0 x rfl
              rw [show ad.add 0 = ad by simp [Addr.add]] at hcell
              clear hat
              rw [← HX.out] at hcell
              go_wp2_with fail
              refine (C2.out _).mono ?_
              rintro e w2 ⟨rfl, hb2⟩
              have HB2 := Lib.hid (below_then HB1.out hb2)
              have HZ2 := Lib.hid (zero_still hb2 HZ1.out)
              have HS2 := Lib.hid (HS1.out.below hb2)
              clear hb2
              by_cases hc : c1 = 1
              · subst hc
                have HS3 := Lib.hid (SlS.tail1 HS2.out)
                have hcc : (1 : Nat) = 1 := rfl
                go_wp2_with fail
                refine (C3.out _ _ _ _ HS3.out).mono ?_
                rintro e w3 ⟨A3, c3, rfl, hF3, hb3⟩
                have HB3 := Lib.hid (below_then HB2.out hb3)
                have HZ3 := Lib.hid (zero_still hb3 HZ2.out)
                have HF3 := Lib.hid hF3
                clear hF3
                clear hb3
                go_wp2_with fail
                refine (C4.out _ _ _ HF3.out).mono ?_
                rintro e w4 ⟨rfl, hb4⟩
                have HB4 := Lib.hid (below_then HB3.out hb4)
                have HZ4 := Lib.hid (zero_still hb4 HZ3.out)
                have HF4 := Lib.hid (HF3.out.below hb4)
                clear hb4
                go_wp2_with fail
                refine (C5.out _ _ _ HF4.out).mono ?_
                rintro e w5 ⟨rfl, hb5⟩
                have HB5 := Lib.hid (below_then HB4.out hb5)
                have HZ5 := Lib.hid (zero_still hb5 HZ4.out)
                have HF5 := Lib.hid (HF4.out.below hb5)
                clear hb5
                go_wp2_with fail
                refine (C6.out _).mono ?_
                rintro e w6 ⟨A6, rfl, hS6, hb6⟩
                have HB6 := Lib.hid (below_then HB5.out hb6)
                have HZ6 := Lib.hid (zero_still hb6 HZ5.out)
                have HF6 := Lib.hid (HF5.out.below hb6)
                have HS6 := Lib.hid hS6
                clear hS6
                clear hb6
                go_wp2_with fail
                refine (C7.out _ _ _ _ HF6.out HS6.out).mono ?_
                rintro e w7 ⟨v7, rfl, ho7, hb7⟩
                have HB7 := Lib.hid (below_then HB6.out hb7)
                have HZ7 := Lib.hid (zero_still hb7 HZ6.out)
                obtain ⟨A7, c7, rfl, hA7⟩ := ho7.slf HSZ.out
                have HO7 := Lib.hid ho7
                have hlt6 := (Array.getElem?_eq_some_iff.1 HZ6.out).1
                clear ho7 hA7
                clear hb7
                go_wp2_with (refine wpList_store_row rfl _ _ _ rfl w.heap.size #[.string RA, .string RB, .int .i64 RV, .slice A7 FD.length c7, .string BB] rfl rfl 25 _ HZ7.out (by kernel_rfl) rfl (by simp [Value.oneCell']) ?_)
                refine bodyPost_ret (results_cell_row_tmp rfl _ _ w.heap.size 25 #[.string RA, .string RB, .int .i64 RV, .slice A7 FD.length c7, .string BB] (0, 0) _ rfl (setRow_heap _ _ _ _ _ _ HZ7.out) Tryz.underlying25 rfl (by kernel_rfl)) rfl ?_
                obtain ⟨A8, c8, he8, hF8⟩ := (HO7.out.setRow hlt6 #[.string RA, .string RB, .int .i64 RV, .slice A7 FD.length c7, .string BB]).slf HSZ.out
                cases he8
                exact ⟨_, _, by rw [HR.out.1, HR.out.2]; rfl, by rw [HR.out.2]; exact hF8, fun ad ha => Nat.le_trans HB6.out.size (HO7.out.fresh ad ha), below_setRow HB7.out (Nat.le_refl _) _⟩
              · have HS3 := Lib.hid (SlS.tail2 HS2.out)
                go_wp2_with fail
                refine (C3.out _ _ _ _ HS3.out).mono ?_
                rintro e w3 ⟨A3, c3, rfl, hF3, hb3⟩
                have HB3 := Lib.hid (below_then HB2.out hb3)
                have HZ3 := Lib.hid (zero_still hb3 HZ2.out)
                have HF3 := Lib.hid hF3
                clear hF3
                clear hb3
                go_wp2_with fail
                refine (C4.out _ _ _ HF3.out).mono ?_
                rintro e w4 ⟨rfl, hb4⟩
                have HB4 := Lib.hid (below_then HB3.out hb4)
                have HZ4 := Lib.hid (zero_still hb4 HZ3.out)
                have HF4 := Lib.hid (HF3.out.below hb4)
                clear hb4
                go_wp2_with fail
                refine (C5.out _ _ _ HF4.out).mono ?_
                rintro e w5 ⟨rfl, hb5⟩
                have HB5 := Lib.hid (below_then HB4.out hb5)
                have HZ5 := Lib.hid (zero_still hb5 HZ4.out)
                have HF5 := Lib.hid (HF4.out.below hb5)
                clear hb5
                go_wp2_with fail
                refine (C6.out _).mono ?_
                rintro e w6 ⟨A6, rfl, hS6, hb6⟩
                have HB6 := Lib.hid (below_then HB5.out hb6)
                have HZ6 := Lib.hid (zero_still hb6 HZ5.out)
                have HF6 := Lib.hid (HF5.out.below hb6)
                have HS6 := Lib.hid hS6
                clear hS6
                clear hb6
                go_wp2_with fail
                refine (C7.out _ _ _ _ HF6.out HS6.out).mono ?_
                rintro e w7 ⟨v7, rfl, ho7, hb7⟩
                have HB7 := Lib.hid (below_then HB6.out hb7)
                have HZ7 := Lib.hid (zero_still hb7 HZ6.out)
                obtain ⟨A7, c7, rfl, hA7⟩ := ho7.slf HSZ.out
                have HO7 := Lib.hid ho7
                have hlt6 := (Array.getElem?_eq_some_iff.1 HZ6.out).1
                clear ho7 hA7
                clear hb7
                go_wp2_with (refine wpList_store_row rfl _ _ _ rfl w.heap.size #[.string RA, .string RB, .int .i64 RV, .slice A7 FD.length c7, .string BB] rfl rfl 25 _ HZ7.out (by kernel_rfl) rfl (by simp [Value.oneCell']) ?_)
                refine bodyPost_ret (results_cell_row_tmp rfl _ _ w.heap.size 25 #[.string RA, .string RB, .int .i64 RV, .slice A7 FD.length c7, .string BB] (0, 0) _ rfl (setRow_heap _ _ _ _ _ _ HZ7.out) Tryz.underlying25 rfl (by kernel_rfl)) rfl ?_
                obtain ⟨A8, c8, he8, hF8⟩ := (HO7.out.setRow hlt6 #[.string RA, .string RB, .int .i64 RV, .slice A7 FD.length c7, .string BB]).slf HSZ.out
                cases he8
                exact ⟨_, _, by rw [HR.out.1, HR.out.2]; rfl, by rw [HR.out.2]; exact hF8, fun ad ha => Nat.le_trans HB6.out.size (HO7.out.fresh ad ha), below_setRow HB7.out (Nat.le_refl _) _⟩
            · have HR := Lib.hid (hbad BE hE hBE)
              unfold rq0 at HR
              clear hbad hE hR C6 C7
              go_enter Tryz.func10, Tryz.ntmps10
              go_wp2_with fail
              refine (C1.out _).mono ?_
              rintro e w1 ⟨A1, c1, rfl, hS1, _, hb1⟩
              have HB1 := Lib.hid (below_then HB.out hb1)
              have HZ1 := Lib.hid (zero_still hb1 HZ.out)
              have HS1 := Lib.hid hS1
              clear hS1
              clear hb1
              obtain ⟨ad, rfl, hat⟩ := HS1.out.at_ (by simp)
              have hcell := hat 0 x rfl
              rw [show ad.add 0 = ad by simp [Addr.add]] at hcell
              clear hat
              rw [← HX.out] at hcell
              go_wp2_with fail
              refine (C2.out _).mono ?_
              rintro e w2 ⟨rfl, hb2⟩
              have HB2 := Lib.hid (below_then HB1.out hb2)
              have HZ2 := Lib.hid (zero_still hb2 HZ1.out)
              have HS2 := Lib.hid (HS1.out.below hb2)
              clear hb2
              by_cases hc : c1 = 1
              · subst hc
                have HS3 := Lib.hid (SlS.tail1 HS2.out)
                have hcc : (1 : Nat) = 1 := rfl
                go_wp2_with fail
                refine (C3.out _ _ _ _ HS3.out).mono ?_
                rintro e w3 ⟨A3, c3, rfl, hF3, hb3⟩
                have HB3 := Lib.hid (below_then HB2.out hb3)
                have HZ3 := Lib.hid (zero_still hb3 HZ2.out)
                have HF3 := Lib.hid hF3
                clear hF3
                clear hb3
                go_wp2_with fail
                refine (C4.out _ _ _ HF3.out).mono ?_
                rintro e w4 ⟨rfl, hb4⟩
                have HB4 := Lib.hid (below_then HB3.out hb4)
                have HZ4 := Lib.hid (zero_still hb4 HZ3.out)
                have HF4 := Lib.hid (HF3.out.below hb4)
                clear hb4
                go_wp2_with fail
                refine (C5.out _ _ _ HF4.out).mono ?_
                rintro e w5 ⟨rfl, hb5⟩
                have HB5 := Lib.hid (below_then HB4.out hb5)
                have HZ5 := Lib.hid (zero_still hb5 HZ4.out)
                have HF5 := Lib.hid (HF4.out.below hb5)
                clear hb5
                go_wp2_with (refine wpList_store_row rfl _ _ _ rfl w.heap.size #[.string ⟨#[]⟩, .string ⟨#[]⟩, .int .i64 0, .slice none 0 0, .string ⟨#[]⟩] rfl rfl 25 _ HZ5.out (by kernel_rfl) rfl (by simp [Value.oneCell']) ?_)
                refine bodyPost_ret (results_cell_row_tmp rfl _ _ w.heap.size 25 #[.string ⟨#[]⟩, .string ⟨#[]⟩, .int .i64 0, .slice none 0 0, .string ⟨#[]⟩] (0, 0) _ rfl (setRow_heap _ _ _ _ _ _ HZ5.out) Tryz.underlying25 rfl (by kernel_rfl)) rfl ?_
                exact ⟨none, 0, by rw [HR.out.1, HR.out.2]; rfl, by rw [HR.out.2]; exact SlF.none_ _, FreshA.none_ _, below_setRow HB5.out (Nat.le_refl _) _⟩
              · have HS3 := Lib.hid (SlS.tail2 HS2.out)
                go_wp2_with fail
                refine (C3.out _ _ _ _ HS3.out).mono ?_
                rintro e w3 ⟨A3, c3, rfl, hF3, hb3⟩
                have HB3 := Lib.hid (below_then HB2.out hb3)
                have HZ3 := Lib.hid (zero_still hb3 HZ2.out)
                have HF3 := Lib.hid hF3
                clear hF3
                clear hb3
                go_wp2_with fail
                refine (C4.out _ _ _ HF3.out).mono ?_
                rintro e w4 ⟨rfl, hb4⟩
                have HB4 := Lib.hid (below_then HB3.out hb4)
                have HZ4 := Lib.hid (zero_still hb4 HZ3.out)
                have HF4 := Lib.hid (HF3.out.below hb4)
                clear hb4
                go_wp2_with fail
                refine (C5.out _ _ _ HF4.out).mono ?_
                rintro e w5 ⟨rfl, hb5⟩
                have HB5 := Lib.hid (below_then HB4.out hb5)
                have HZ5 := Lib.hid (zero_still hb5 HZ4.out)
                have HF5 := Lib.hid (HF4.out.below hb5)
                clear hb5
                go_wp2_with (refine wpList_store_row rfl _ _ _ rfl w.heap.size #[.string ⟨#[]⟩, .string ⟨#[]⟩, .int .i64 0, .slice none 0 0, .string ⟨#[]⟩] rfl rfl 25 _ HZ5.out (by kernel_rfl) rfl (by simp [Value.oneCell']) ?_)
                refine bodyPost_ret (results_cell_row_tmp rfl _ _ w.heap.size 25 #[.string ⟨#[]⟩, .string ⟨#[]⟩, .int .i64 0, .slice none 0 0, .string ⟨#[]⟩] (0, 0) _ rfl (setRow_heap _ _ _ _ _ _ HZ5.out) Tryz.underlying25 rfl (by kernel_rfl)) rfl ?_
                exact ⟨none, 0, by rw [HR.out.1, HR.out.2]; rfl, by rw [HR.out.2]; exact SlF.none_ _, FreshA.none_ _, below_setRow HB5.out (Nat.le_refl _) _⟩
        · rw [if_pos (by simpa using hWE)] at hE
          have HR := Lib.hid (hbad WE hE hWE)
          unfold rq0 at HR
          clear hbad hE hR C4 C5 C6 C7
          go_enter Tryz.func10, Tryz.ntmps10
          go_wp2_with fail
          refine (C1.out _).mono ?_
          rintro e w1 ⟨A1, c1, rfl, hS1, _, hb1⟩
          have HB1 := Lib.hid (below_then HB.out hb1)
          have HZ1 := Lib.hid (zero_still hb1 HZ.out)
          have HS1 := Lib.hid hS1
          clear hS1
          clear hb1
          obtain ⟨ad, rfl, hat⟩ := HS1.out.at_ (by simp)
          have hcell := hat 0 x rfl
          rw [show ad.add 0 = ad by simp [Addr.add]] at hcell
          clear hat
          rw [← HX.out] at hcell
          go_wp2_with fail
          refine (C2.out _).mono ?_
          rintro e w2 ⟨rfl, hb2⟩
          have HB2 := Lib.hid (below_then HB1.out hb2)
          have HZ2 := Lib.hid (zero_still hb2 HZ1.out)
          have HS2 := Lib.hid (HS1.out.below hb2)
          clear hb2
          by_cases hc : c1 = 1
          · subst hc
            have HS3 := Lib.hid (SlS.tail1 HS2.out)
            have hcc : (1 : Nat) = 1 := rfl
            go_wp2_with fail
            refine (C3.out _ _ _ _ HS3.out).mono ?_
            rintro e w3 ⟨A3, c3, rfl, hF3, hb3⟩
            have HB3 := Lib.hid (below_then HB2.out hb3)
            have HZ3 := Lib.hid (zero_still hb3 HZ2.out)
            have HF3 := Lib.hid hF3
            clear hF3
            clear hb3
            go_wp2_with (refine wpList_store_row rfl _ _ _ rfl w.heap.size #[.string ⟨#[]⟩, .string ⟨#[]⟩, .int .i64 0, .slice none 0 0, .string ⟨#[]⟩] rfl rfl 25 _ HZ3.out (by kernel_rfl) rfl (by simp [Value.oneCell']) ?_)
            refine bodyPost_ret (results_cell_row_tmp rfl _ _ w.heap.size 25 #[.string ⟨#[]⟩, .string ⟨#[]⟩, .int .i64 0, .slice none 0 0, .string ⟨#[]⟩] (0, 0) _ rfl (setRow_heap _ _ _ _ _ _ HZ3.out) Tryz.underlying25 rfl (by kernel_rfl)) rfl ?_
            exact ⟨none, 0, by rw [HR.out.1, HR.out.2]; rfl, by rw [HR.out.2]; exact SlF.none_ _, FreshA.none_ _, below_setRow HB3.out (Nat.le_refl _) _⟩
          · have HS3 := Lib.hid (SlS.tail2 HS2.out)
            go_wp2_with fail
            refine (C3.out _ _ _ _ HS3.out).mono ?_
            rintro e w3 ⟨A3, c3, rfl, hF3, hb3⟩
            have HB3 := Lib.hid (below_then HB2.out hb3)
            have HZ3 := Lib.hid (zero_still hb3 HZ2.out)
            have HF3 := Lib.hid hF3
            clear hF3
            clear hb3
            go_wp2_with (refine wpList_store_row rfl _ _ _ rfl w.heap.size #[.string ⟨#[]⟩, .string ⟨#[]⟩, .int .i64 0, .slice none 0 0, .string ⟨#[]⟩] rfl rfl 25 _ HZ3.out (by kernel_rfl) rfl (by simp [Value.oneCell']) ?_)
            refine bodyPost_ret (results_cell_row_tmp rfl _ _ w.heap.size 25 #[.string ⟨#[]⟩, .string ⟨#[]⟩, .int .i64 0, .slice none 0 0, .string ⟨#[]⟩] (0, 0) _ rfl (setRow_heap _ _ _ _ _ _ HZ3.out) Tryz.underlying25 rfl (by kernel_rfl)) rfl ?_
            exact ⟨none, 0, by rw [HR.out.1, HR.out.2]; rfl, by rw [HR.out.2]; exact SlF.none_ _, FreshA.none_ _, below_setRow HB3.out (Nat.le_refl _) _⟩
      · rw [if_pos (by simpa using hRE)] at hE
        have HR := Lib.hid (hbad RE hE hRE)
        unfold rq0 at HR
        clear hbad hE hR C3 C4 C5 C6 C7
        go_enter Tryz.func10, Tryz.ntmps10
        go_wp2_with fail
        refine (C1.out _).mono ?_
        rintro e w1 ⟨A1, c1, rfl, hS1, _, hb1⟩
        have HB1 := Lib.hid (below_then HB.out hb1)
        have HZ1 := Lib.hid (zero_still hb1 HZ.out)
        have HS1 := Lib.hid hS1
        clear hS1
        clear hb1
        obtain ⟨ad, rfl, hat⟩ := HS1.out.at_ (by simp)
        have hcell := hat 0 x rfl
        rw [show ad.add 0 = ad by simp [Addr.add]] at hcell
        clear hat
        rw [← HX.out] at hcell
        go_wp2_with fail
        refine (C2.out _).mono ?_
        rintro e w2 ⟨rfl, hb2⟩
        have HB2 := Lib.hid (below_then HB1.out hb2)
        have HZ2 := Lib.hid (zero_still hb2 HZ1.out)
        have HS2 := Lib.hid (HS1.out.below hb2)
        clear hb2
        go_wp2_with (refine wpList_store_row rfl _ _ _ rfl w.heap.size #[.string ⟨#[]⟩, .string ⟨#[]⟩, .int .i64 0, .slice none 0 0, .string ⟨#[]⟩] rfl rfl 25 _ HZ2.out (by kernel_rfl) rfl (by simp [Value.oneCell']) ?_)
        refine bodyPost_ret (results_cell_row_tmp rfl _ _ w.heap.size 25 #[.string ⟨#[]⟩, .string ⟨#[]⟩, .int .i64 0, .slice none 0 0, .string ⟨#[]⟩] (0, 0) _ rfl (setRow_heap _ _ _ _ _ _ HZ2.out) Tryz.underlying25 rfl (by kernel_rfl)) rfl ?_
        exact ⟨none, 0, by rw [HR.out.1, HR.out.2]; rfl, by rw [HR.out.2]; exact SlF.none_ _, FreshA.none_ _, below_setRow HB2.out (Nat.le_refl _) _⟩

end Go.Proofs.YtjcomlklmfeimaaGreatDoor
end

/-
  Contracts of package message's remove, unframe, count, hostError.
-/
section
namespace Go.Proofs.YtjcomlklmfeimaaGreatDoor
open Go.RowKit

theorem drop_le (L : List Fd) (N : List (List UInt8)) : (fdDrop L N).length ≤ L.length := List.length_filter_le _ _
theorem drop_all : ∀ (L : List Fd) (name : ByteArray), L.length = (fdDrop L [name.data.toList]).length + (fdAll L name).length
  | [], _ => rfl
  | x :: L, name => by
    have ih := drop_all L name
    have e : nmd [name.data.toList] x = sameB x.1 name := by
      unfold nmd
      rw [List.any_cons, List.any_nil, Bool.or_false, mkS_self]
    unfold fdDrop fdAll at ih ⊢
    rw [List.filter_cons, List.filter_cons, e]
    cases sameB x.1 name <;> simp at ih ⊢ <;> omega

set_option maxRecDepth 100000 in
theorem remove_any (A B : Option Addr) (n c m d : Nat) (L : List Fd) (names : List (List UInt8)) (w : World) (h : SlF w A n c L) (hn : n ≤ 100000000) (hB : ∀ x ∈ L, Bd x)
    (h' : SlS w B m d names) (hz : ∀ x ∈ names, x.length ≤ maxLen) (hm : m ≤ 1000000000) :
    Calls Tryz.prog 69 #[.slice A n c, .slice B m d] w fun e w' => ∃ v, e = .returned (.tuple #[v, .int .i64 ((L.length : Int) - ((fdDrop L names).length : Int))]) ∧ OwnF w' w.heap.size 105 v (fdDrop L names) ∧ Below w.heap.size w w' := by
  have C := Lib.hid (drop_any A B n c m d L names w h hn hB h' hz hm)
  have hle := drop_le L names
  have hlen := h.len
  subst hlen
  generalize fdDrop L names = R at *
  obtain ⟨k, hk⟩ : ∃ k, R.length = k := ⟨_, rfl⟩
  generalize L.length = n at *
  have HL := Lib.hid (show (k : Int) ≤ (n : Int) by omega)
  have HK := Lib.hid hk
  have hn1 : (n : Int) ≤ 100000000 := by omega
  have hk1 : (k : Int) ≤ 100000000 := by omega
  rw [hk]
  clear h h' hB hz hle hk
  go_enter Tryz.func69, Tryz.ntmps69
  go_wp2_with fail
  refine C.out.mono ?_
  rintro e w1 ⟨v, rfl, ho, hb⟩
  obtain ⟨A2, c2, rfl⟩ := ho.form
  have HO := Lib.hid ho
  rw [HK.out] at HO ⊢
  clear ho
  go_wp2_with fail
  go_ret2
  exact ⟨_, rfl, HO.out, hb⟩

set_option maxRecDepth 100000 in
theorem unframe_any (A : Option Addr) (n c : Nat) (L : List Fd) (w : World) (h : SlF w A n c L) (hn : n ≤ 100000000) (hB : ∀ x ∈ L, Bd x) :
    Calls Tryz.prog 33 #[.slice A n c] w fun e w' => ∃ v, e = .returned (.tuple #[v, .int .i64 ((L.length : Int) - ((fdDrop L frm).length : Int))]) ∧ OwnF w' w.heap.size 105 v (fdDrop L frm) ∧ Below w.heap.size w w' := by
  have hS := SlS.texts w 9 [clS, teS, trS] (by decide)
  have hb0 : Below w.heap.size w (w.alloc (.cells ([clS, teS, trS].map Value.string).toArray 9)) := (Below.refl _ _).alloc (Nat.le_refl _) _
  have C := remove_any A (some ⟨w.heap.size, 0, none⟩) n c 3 3 L frm (w.alloc (.cells ([clS, teS, trS].map Value.string).toArray 9)) (h.alloc _) hn hB hS frm_le (by decide)
  unfold clS teS trS at C hb0
  have C := Lib.hid C
  have HB := Lib.hid hb0
  generalize fdDrop L frm = R at *
  generalize L.length = k at *
  clear h hn hB hS hb0
  go_enter Tryz.func33, Tryz.ntmps33
  go_wp2_with fail
  refine C.out.mono ?_
  rintro e w1 ⟨v, rfl, ho, hb⟩
  obtain ⟨A2, c2, rfl⟩ := ho.form
  have HO := Lib.hid ho
  have HB2 := Lib.hid (below_then HB.out hb)
  clear ho hb
  go_wp2_with fail
  go_ret2
  exact ⟨_, rfl, HO.out.wide (by simp), HB2.out⟩

set_option maxRecDepth 100000 in
theorem count_any (A : Option Addr) (n c : Nat) (L : List Fd) (name : ByteArray) (w : World) (h : SlF w A n c L) (hn : n ≤ 100000000) (hB : ∀ x ∈ L, Bd x) (hz : name.size ≤ maxLen) :
    Calls Tryz.prog 66 #[.slice A n c, .string name] w fun e w' => e = .returned (.int .i64 ((fdAll L name).length : Int)) ∧ Below w.heap.size w w' := by
  have hb0 : Below w.heap.size w (w.alloc (.cells #[.string name] 9)) := (Below.refl _ _).alloc (Nat.le_refl _) _
  have C := remove_any A (some ⟨w.heap.size, 0, none⟩) n c 1 1 L [name.data.toList] (w.alloc (.cells #[.string name] 9)) (h.alloc _) hn hB (SlS.text w 9 name) (fun x hx => by
    simp only [List.mem_singleton] at hx
    subst hx
    rw [← Lib.size_eq]; exact hz) (by decide)
  have hq := drop_all L name
  rw [show ((L.length : Int) - ((fdDrop L [name.data.toList]).length : Int)) = ((fdAll L name).length : Int) by omega] at C
  have C := Lib.hid C
  have HB := Lib.hid hb0
  generalize fdDrop L [name.data.toList] = R at *
  generalize (fdAll L name).length = k at *
  clear h hn hB hq hb0 hz
  go_enter Tryz.func66, Tryz.ntmps66
  go_wp2_with fail
  refine C.out.mono ?_
  rintro e w1 ⟨v, rfl, ho, hb⟩
  have HB2 := Lib.hid (below_then HB.out hb)
  clear ho hb
  go_wp2_with fail
  go_ret
  exact ⟨rfl, HB2.out⟩

def hoE (L : List Fd) (v : Int) : Int := if hoB L v then 0 else 26
set_option maxRecDepth 100000 in
theorem hostError_any (A : Option Addr) (n c : Nat) (L : List Fd) (v : Int) (hv : v = 0 ∨ v = 1) (w : World) (h : SlF w A n c L) (hn : n ≤ 100000000) (hB : ∀ x ∈ L, Bd x) :
    Calls Tryz.prog 30 #[.slice A n c, .int .i64 v] w fun e w' => e = .returned (.int .i64 (hoE L v)) ∧ Below w.heap.size w w' := by
  have C := Lib.hid (count_any A n c L hoS w h hn hB hoS_le)
  have hD : hoE L v = if (decide ((fdAll L hoS).length = 1) || (decide ((fdAll L hoS).length = 0) && decide (v = 0))) = true then 0 else 26 := rfl
  have hle : (fdAll L hoS).length ≤ n := by have := drop_all L hoS; have := h.len; omega
  generalize hoE L v = R at *
  generalize (fdAll L hoS).length = k at *
  unfold hoS at C
  clear h hB
  by_cases h1 : 1 < k
  · have HR : Hid (R = 26) := by show _ = _; rw [hD, decide_eq_false (by omega), decide_eq_false (by omega)]; rfl
    have h1' : (1 : Int) < (k : Int) := by omega
    clear hD h1 hle hv
    go_enter Tryz.func30, Tryz.ntmps30
    go_wp2_with fail
    refine C.out.mono ?_
    rintro e w1 ⟨rfl, hb⟩
    go_wp2_with fail
    go_ret
    exact ⟨by rw [HR.out]; rfl, hb⟩
  · have h1' : ¬ (1 : Int) < (k : Int) := by omega
    by_cases h0 : k = 0
    · subst h0
      rcases hv with rfl | rfl
      · have HR : Hid (R = 0) := by show _ = _; rw [hD]; rfl
        clear hD h1 hle
        go_enter Tryz.func30, Tryz.ntmps30
        go_wp2_with fail
        refine C.out.mono ?_
        rintro e w1 ⟨rfl, hb⟩
        go_wp2_with fail
        go_ret
        exact ⟨by rw [HR.out]; rfl, hb⟩
      · have HR : Hid (R = 26) := by show _ = _; rw [hD]; rfl
        clear hD h1 hle
        go_enter Tryz.func30, Tryz.ntmps30
        go_wp2_with fail
        refine C.out.mono ?_
        rintro e w1 ⟨rfl, hb⟩
        go_wp2_with fail
        go_ret
        exact ⟨by rw [HR.out]; rfl, hb⟩
    · have HR : Hid (R = 0) := by show _ = _; rw [hD, decide_eq_true (by omega)]; rfl
      obtain rfl : k = 1 := by omega
      clear hD h1 hle hv
      go_enter Tryz.func30, Tryz.ntmps30
      go_wp2_with fail
      refine C.out.mono ?_
      rintro e w1 ⟨rfl, hb⟩
      go_wp2_with fail
      go_ret
      exact ⟨by rw [HR.out]; rfl, hb⟩

end Go.Proofs.YtjcomlklmfeimaaGreatDoor
end

/-
  Contract of package message's length.
-/
section
namespace Go.Proofs.YtjcomlklmfeimaaGreatDoor
open Go.RowKit

/-- What length answers: the number, where it is known. -/
def lnP (V : List (List UInt8)) : Int := if lnB V then lnA V else 0
theorem lnp_none {V : List (List UInt8)} (h : lnV (-1) V = none) : lnP V = 0 ∧ lnB V = false := by
  have := (ln_none h).2
  exact ⟨by unfold lnP; rw [this]; rfl, this⟩
theorem lnp_neg {V : List (List UInt8)} (h : lnV (-1) V = some (-1)) : lnP V = 0 ∧ lnB V = false := by
  have h1 : lnB V = false := by rw [(ln_some h).2]; rfl
  exact ⟨by unfold lnP; rw [h1]; rfl, h1⟩
theorem lnp_some {V : List (List UInt8)} {n : Int} (hn : 0 ≤ n) (h : lnV (-1) V = some n) : lnP V = n ∧ lnB V = true := by
  have h1 : lnB V = true := by rw [(ln_some h).2]; exact decide_eq_true hn
  exact ⟨by unfold lnP; rw [h1, (ln_some h).1]; rfl, h1⟩
/-- A length so far, as the program holds it. -/
def LnS (m q : Int) (b : Bool) : Prop := (b = true ∧ m = q ∧ 0 ≤ q) ∨ (b = false ∧ m = -1 ∧ q = 0)

set_option maxHeartbeats 8000000 in
set_option maxRecDepth 100000 in
theorem length_any (w : World) (P : Nat) (st : ByteArray) (A : Option Addr) (n c : Nat) (L : List (List UInt8)) (mi : Int) (A2 : Option Addr) (n2 c2 : Nat) (X : List Fd) (rs : ByteArray) (h : Msg w P st A n c L mi (.slice A2 n2 c2) X rs)
    (hX : SlF w A2 n2 c2 X) (hn : n2 ≤ 1000000) (hB : ∀ x ∈ X, Bd x) :
    Calls Tryz.prog 104 #[.pointer (some ⟨P, 0, none⟩)] w fun e w' => e = .returned (.tuple #[.int .i64 (lnP (fdAll X clS)), .bool (lnB (fdAll X clS))]) ∧ Below w.heap.size w w' := by
  obtain ⟨_, _, _, q3, _, _⟩ := h.cells
  have CA := Lib.hid (all_any A2 n2 c2 X clS w hX (by omega) hB (by decide))
  have hz : ∀ y ∈ fdAll X clS, y.length ≤ 1000000000 := fun y hy => by
    unfold fdAll at hy
    obtain ⟨x, hx, rfl⟩ := List.mem_map.1 hy
    have := (hB x (List.mem_filter.1 hx).1).2
    rw [← Lib.size_eq]; exact this
  have hl : (fdAll X clS).length ≤ 1000000 := by have := drop_all X clS; have := hX.len; omega
  have hNO := fun h => lnp_none (V := fdAll X clS) h
  have hNG := fun h => lnp_neg (V := fdAll X clS) h
  have hYE := fun m hm h => lnp_some (V := fdAll X clS) (n := m) hm h
  generalize fdAll X clS = V at *
  unfold clS at CA
  generalize lnP V = RA at *
  generalize lnB V = RB at *
  obtain ⟨D, hD⟩ : ∃ D, D = lnV (-1) V := ⟨_, rfl⟩
  rw [← hD] at hNO hNG hYE
  have HNO := Lib.hid hNO
  have HNG := Lib.hid hNG
  have HYE := Lib.hid hYE
  have HD := Lib.hid hD
  clear hD hNO hNG hYE h hX hB hn
  go_enter Tryz.func104, Tryz.ntmps104
  go_wp2_with fail
  refine CA.out.mono ?_
  rintro e w1 ⟨A1, c1, rfl, hS1, _, hb1⟩
  have HS1 := Lib.hid hS1
  have HB1 := Lib.hid hb1
  clear hS1 hb1
  go_wp2_with fail
  go_loopw [4, 5, 20] (fun u b i wr => ∃ (k : Nat) (m q : Int) (kn : Bool), k ≤ V.length ∧ i = .int .i64 (k : Int) ∧ u = .int .i64 q ∧ b = .bool kn ∧ Hid (LnS m q kn) ∧ q ≤ 65536 ∧ Hid (D = lnV m (V.drop k)) ∧ Below w1.heap.size w1 wr) (fun _ _ i _ => V.length - (intOf i).toNat)
  case atStart => exact ⟨0, -1, 0, false, Nat.zero_le _, rfl, rfl, rfl, .inr ⟨rfl, rfl, rfl⟩, by decide, HD.out, Below.refl _ _⟩
  case round =>
    obtain ⟨k, m, q, kn, hk, rfl, rfl, rfl, hls, hq, hf, hbel⟩ := hrel
    clear HD
    by_cases hlt : k < V.length
    · obtain ⟨ad, rfl, hc⟩ := HS1.out.at_ (by omega)
      have hcell := cell_kept hbel (hc k V[k] (List.getElem?_eq_getElem hlt))
      have hsz := hz _ (List.getElem_mem hlt)
      have hbad := fun hh => lnV_bad (n := m) hlt hh
      have hst := fun hh => lnV_step (n := m) hlt hh
      have CS := Lib.hid (fun W => split_any (mkS V[k]) W (by rw [mkS_size]; omega))
      rw [mkS_list] at CS
      have hcnt : (splO V[k]).length ≤ 1000000001 := by
        unfold splO
        cases e : splitL V[k] with
        | none => simp
        | some L =>
          obtain ⟨g1, g2⟩ := split_good e
          show L.length ≤ _; omega
      generalize splE V[k] = se at *
      generalize splO V[k] = L at *
      obtain ⟨ms, hms⟩ : ∃ ms, ms = mkS V[k] := ⟨_, rfl⟩
      rw [← hms] at hcell CS
      have hi0 : (0 : Int) ≤ (k : Int) := by omega
      have hi1 : (k : Int) < (V.length : Int) := by omega
      have hs4 := hbel.size
      clear hc hsz hms
      by_cases hse : se = 0
      · have HS := Lib.hid (hst hse)
        subst hse
        clear hst hbad
        go_wp2_with fail
        refine (CS.out _).mono ?_
        rintro e w2 ⟨A3, c3, rfl, hS3, _, hb2⟩
        have HS3 := Lib.hid hS3
        have HB := Lib.hid (hbel.trans (hb2.mono hs4))
        clear hb2 hS3
        go_wp2_with fail
        go_loopw [4, 5, 33] (fun u b i wi => ∃ (j : Nat) (m q : Int) (kn : Bool), j ≤ L.length ∧ i = .int .i64 (j : Int) ∧ u = .int .i64 q ∧ b = .bool kn ∧ Hid (LnS m q kn) ∧ q ≤ 65536 ∧ Hid (D = match lnI m (L.drop j) with | none => none | some m => lnV m (V.drop (k + 1))) ∧ Below w1.heap.size w1 wi ∧ Below w2.heap.size w2 wi) (fun _ _ i _ => L.length - (intOf i).toNat)
        case atStart => exact ⟨0, m, q, kn, Nat.zero_le _, rfl, rfl, rfl, hls.out, hq, by show _ = _; rw [hf.out, HS.out]; rfl, HB.out, Below.refl _ _⟩
        case round =>
          obtain ⟨j, m, q, kn, hj, rfl, rfl, rfl, hls, hq, hg, hbi, hb1⟩ := hrel
          clear hf HS
          by_cases hjl : j < L.length
          · obtain ⟨bd, rfl, hd⟩ := HS3.out.at_ (by omega)
            have hcell2 := cell_kept hb1 (hd j L[j] (List.getElem?_eq_getElem hjl))
            have CN := Lib.hid (fun W => Number_any (mkS L[j]) 65536 W)
            rw [mkS_list] at CN
            have hib := fun hh => lnI_bad (n := m) hjl hh
            have his := fun h1 h2 => lnI_step (n := m) hjl h1 h2
            have hnl := numN_le L[j]
            generalize numN 10 18 65536 L[j] = M at *
            generalize numE 10 18 65536 L[j] = E at *
            obtain ⟨ms2, hms3⟩ : ∃ ms2, ms2 = mkS L[j] := ⟨_, rfl⟩
            rw [← hms3] at hcell2 CN
            have hj0 : (0 : Int) ≤ (j : Int) := by omega
            have hj1 : (j : Int) < (L.length : Int) := by omega
            have hs5 := hbi.size
            have hs6 := hb1.size
            clear hd hms3
            by_cases hE : E = 0
            · rcases hls.out with ⟨rfl, rfl, hq0⟩ | ⟨rfl, rfl, rfl⟩
              · by_cases hM : M = m
                · have HG : Hid (D = match lnI M (L.drop (j + 1)) with | none => none | some m => lnV m (V.drop (k + 1))) := by
                    show _ = _
                    rw [hg.out, his hE (fun h => h.2 hM)]
                  subst hE
                  subst hM
                  clear hib his hg hls
                  go_wp2_with fail
                  refine (CN.out _).mono ?_
                  rintro e w3 ⟨rfl, hb3⟩
                  have HB3 := Lib.hid (hbi.trans (hb3.mono hs5))
                  have HB4 := Lib.hid (hb1.trans (hb3.mono hs6))
                  clear hb3
                  go_wp2_with fail
                  go_roundw
                  case rel => exact ⟨j + 1, M, M, true, by omega, by go_num, rfl, rfl, .inl ⟨rfl, rfl, hnl.1⟩, hnl.2, HG, HB3.out, HB4.out⟩
                  case measure => simp [intOf]; omega
                · have hn := hib (.inr ⟨hq0, hM⟩)
                  have HR := Lib.hid (HNO.out (by rw [hg.out, hn]))
                  subst hE
                  clear hib his hg hn hls
                  go_wp2_with fail
                  refine (CN.out _).mono ?_
                  rintro e w3 ⟨rfl, hb3⟩
                  have HB3 := Lib.hid (HB1.out.trans ((hbi.trans (hb3.mono hs5)).mono HB1.out.size))
                  clear hb3
                  go_wp2_with fail
                  go_ret2
                  exact ⟨by rw [HR.out.1, HR.out.2]; rfl, HB3.out⟩
              · have HG : Hid (D = match lnI M (L.drop (j + 1)) with | none => none | some m => lnV m (V.drop (k + 1))) := by
                  show _ = _
                  rw [hg.out, his hE (fun h => absurd h.1 (by decide))]
                subst hE
                clear hib his hg hls
                go_wp2_with fail
                refine (CN.out _).mono ?_
                rintro e w3 ⟨rfl, hb3⟩
                have HB3 := Lib.hid (hbi.trans (hb3.mono hs5))
                have HB4 := Lib.hid (hb1.trans (hb3.mono hs6))
                clear hb3
                go_wp2_with fail
                go_roundw
                case rel => exact ⟨j + 1, M, M, true, by omega, by go_num, rfl, rfl, .inl ⟨rfl, rfl, hnl.1⟩, hnl.2, HG, HB3.out, HB4.out⟩
                case measure => simp [intOf]; omega
            · have hn := hib (.inl hE)
              have HR := Lib.hid (HNO.out (by rw [hg.out, hn]))
              clear hib his hg hn hls
              go_wp2_with fail
              refine (CN.out _).mono ?_
              rintro e w3 ⟨rfl, hb3⟩
              have HB3 := Lib.hid (HB1.out.trans ((hbi.trans (hb3.mono hs5)).mono HB1.out.size))
              clear hb3
              go_wp2_with fail
              go_ret2
              exact ⟨by rw [HR.out.1, HR.out.2]; rfl, HB3.out⟩
          · have HG : Hid (D = lnV m (V.drop (k + 1))) := by
              show _ = _
              rw [hg.out, List.drop_eq_nil_of_le (by omega)]; rfl
            have hj1 : ¬ (j : Int) < (L.length : Int) := by omega
            clear hg
            go_wp2_with fail
            go_roundw
            case rel => exact ⟨k + 1, m, q, kn, by omega, by go_num, rfl, rfl, hls, hq, HG, hbi⟩
            case measure => simp [intOf]; omega
      · have hn := hbad hse
        have HR := Lib.hid (HNO.out (by rw [hf.out, hn]))
        clear hbad hst hf hn
        go_wp2_with fail
        refine (CS.out _).mono ?_
        rintro e w2 ⟨A3, c3, rfl, _, _, hb2⟩
        have HB := Lib.hid (HB1.out.trans ((hbel.trans (hb2.mono hs4)).mono HB1.out.size))
        go_wp2_with fail
        go_ret2
        exact ⟨by rw [HR.out.1, HR.out.2]; rfl, HB.out⟩
    · have hi1 : ¬ (k : Int) < (V.length : Int) := by omega
      have HB := Lib.hid (below_then HB1.out hbel)
      have hfn : D = some m := by rw [hf.out, List.drop_eq_nil_of_le (by omega)]; rfl
      rcases hls.out with ⟨rfl, rfl, hq0⟩ | ⟨rfl, rfl, rfl⟩
      · have HR := Lib.hid (HYE.out _ hq0 hfn)
        clear hf hfn hls
        go_wp2_with fail
        go_ret2
        exact ⟨by rw [HR.out.1, HR.out.2]; rfl, HB.out⟩
      · have HR := Lib.hid (HNG.out hfn)
        clear hf hfn hls
        go_wp2_with fail
        go_ret2
        exact ⟨by rw [HR.out.1, HR.out.2]; rfl, HB.out⟩

end Go.Proofs.YtjcomlklmfeimaaGreatDoor
end
