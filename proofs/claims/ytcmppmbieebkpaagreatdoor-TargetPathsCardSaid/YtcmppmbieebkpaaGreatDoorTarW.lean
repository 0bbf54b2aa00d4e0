/-
  Contract of the reference's Parse at a target that begins with http:// (layer 8).
-/
import Derived.Test.YtcmppmbieebkpaaGreatDoorTarU
namespace Go.Proofs.YtcmppmbieebkpaaGreatDoor
open Go.RowKit

structure Http8 (t h R H S : ByteArray) (E : Nat) : Prop where
  re : t.extract 7 t.size = R
  a : R.extract 0 E = H
  z : R.extract E R.size = S
  hh : H = parH t h
  ink : ∀ (j : Nat) (hj : j < R.size), j < E → ((R[j].toNat : Int) != 47) = true ∧ ((R[j].toNat : Int) != 63) = true
  er : E ≤ R.size
  rs : R.size ≤ t.size
  hs : H.size ≤ t.size
  ss : S.size ≤ t.size
  em : (S.size = 0 ∧ R.size ≤ E) ∨ (0 < S.size ∧ E < R.size)
  gl : parG t = rest8 S.data.toList
  hd : ∀ (hp : 0 < S.size), (S[0] = 47 ∨ S[0] = 63) ∧ ∀ (hj : E < R.size), R[E] = S[0]
theorem http8 (t h : ByteArray) (hsch : schB t = true) : ∃ R H S E, Http8 t h R H S E := by
  obtain ⟨R, hR⟩ : ∃ R, R = t.extract 7 t.size := ⟨_, rfl⟩
  have hRl : R.data.toList = t.data.toList.drop 7 := by rw [hR, piece_ext, piece_all, mkS_list]
  have hRs : R.size ≤ t.size := by rw [hR, ByteArray.size_extract]; omega
  obtain ⟨ra, hra⟩ : ∃ ra, ra = (t.data.toList.drop 7).takeWhile (fun c => !endB c) := ⟨_, rfl⟩
  obtain ⟨rb, hrb⟩ : ∃ rb, rb = (t.data.toList.drop 7).dropWhile (fun c => !endB c) := ⟨_, rfl⟩
  have hsp : R.data.toList = ra ++ rb := by rw [hRl, hra, hrb, List.takeWhile_append_dropWhile]
  have hno : ∀ c ∈ ra, endB c = false := fun c hc => by
    rw [hra] at hc
    have := List.all_eq_true.1 (List.all_takeWhile (p := fun c => !endB c) (l := t.data.toList.drop 7)) c hc
    simpa using this
  have hst : ∀ c, rb.head? = some c → endB c = true := fun c hc => by
    rw [hrb] at hc
    have := List.head?_dropWhile_not (fun c => !endB c) (t.data.toList.drop 7)
    rw [hc] at this
    simpa using this
  have hRz : R.size = ra.length + rb.length := by rw [Lib.size_eq, hsp, List.length_append]
  have hat : ∀ (j : Nat) (hj : j < R.size), (ra ++ rb)[j]? = some R[j] := fun j hj => by
    rw [← hsp, List.getElem?_eq_getElem (by rw [← Lib.size_eq]; exact hj)]; rfl
  refine ⟨R, mkS ra, mkS rb, ra.length, hR.symm, ?_, ?_, ?_, ?_, by omega, hRs, by rw [mkS_size]; omega, by rw [mkS_size]; omega, ?_, ?_, ?_⟩
  · rw [piece_ext]
    unfold piece
    rw [hsp, List.drop_zero, Nat.sub_zero, List.take_left]
  · rw [piece_ext, piece_all, hsp, List.drop_left]
  · unfold parH; rw [hsch, hra]; rfl
  · intro j hj hje
    have h1 := hat j hj
    rw [List.getElem?_append_left (by omega), List.getElem?_eq_getElem (by omega)] at h1
    have h2 := hno _ (List.getElem_mem (show j < ra.length by omega))
    rw [Option.some.inj h1] at h2
    unfold endB at h2
    rw [Bool.or_eq_false_iff, beq_eq_false_iff_ne, beq_eq_false_iff_ne] at h2
    constructor
    · rw [bne_iff_ne]; intro e; exact h2.1 (UInt8.toNat_inj.1 (Int.ofNat.inj e))
    · rw [bne_iff_ne]; intro e; exact h2.2 (UInt8.toNat_inj.1 (Int.ofNat.inj e))
  · rw [mkS_size]; omega
  · unfold parG; rw [hsch, mkS_list, hrb]; rfl
  · intro hp
    have h0 := head_at hp
    have h1 := hst _ h0
    unfold endB at h1
    rw [Bool.or_eq_true, beq_iff_eq, beq_iff_eq] at h1
    refine ⟨h1, fun hj => ?_⟩
    have h2 := hat ra.length hj
    rw [List.getElem?_append_right (Nat.le_refl _), Nat.sub_self, ← List.head?_eq_getElem?] at h2
    exact Option.some.inj (h2.symm.trans h0)

set_option maxHeartbeats 8000000 in
set_option maxRecDepth 100000 in
theorem r_http_e (t h R H S : ByteArray) (E : Nat) (X : Http8 t h R H S E) (hsch : schB t = true) (w : World) (ht : t.size ≤ 900000) (k0 : S.size = 0) :
    Calls Tryz.prog 11 #[.string t, .string h] w fun e w' => e = .returned (.tuple #[parV t h, .int .i64 (parN8 t h)]) ∧ Below w.heap.size w w' := by
  have HZ : Hid ((w.alloc (.cells #[.string ⟨#[]⟩, .int .i64 0, .string ⟨#[]⟩] 34)).heap[w.heap.size]? = some (.cells #[.string ⟨#[]⟩, .int .i64 0, .string ⟨#[]⟩] 34 (0, 0))) := heap_alloc_new _ _
  have HB : Hid (Below w.heap.size w (w.alloc (.cells #[.string ⟨#[]⟩, .int .i64 0, .string ⟨#[]⟩] 34))) := (Below.refl _ _).alloc (Nat.le_refl _) _
  have hlt0 : w.heap.size < (w.alloc (.cells #[.string ⟨#[]⟩, .int .i64 0, .string ⟨#[]⟩] 34)).heap.size := by simp
  have HV := Lib.hid (show ∀ (a : ByteArray) (p : Int) (b : ByteArray), uriV a p b = .agg #[.string a, .int .i64 p, .string b] from fun _ _ _ => rfl)
  have k7 : 7 ≤ t.size := by
    unfold schB at hsch
    rw [Bool.and_eq_true, decide_eq_true_iff] at hsch
    exact hsch.1
  have k7' : (7 : Int) ≤ (t.size : Int) := by omega
  obtain ⟨Q, hQ⟩ : ∃ Q, Q = t.extract 0 7 := ⟨_, rfl⟩
  have hQl : Q.data.toList = t.data.toList.take 7 := by
    rw [hQ, piece_ext, mkS_list]
    unfold piece
    rw [List.drop_zero]
  have hqs : Q.size ≤ 7 := by rw [hQ, ByteArray.size_extract]; omega
  have cl := fun W => r_lower Q W (by unfold maxLen; omega)
  have e7 : ((mkS (lowL Q.data.toList)).toList == [104, 116, 116, 112, 58, 47, 47]) = true := by
    rw [← hsch]
    unfold schB
    rw [decide_eq_true k7, Bool.true_and, Lib.toList_data, mkS_list, hQl]; rfl
  have hQ' := hQ.symm
  generalize mkS (lowL Q.data.toList) = LQ at *
  have CL := Lib.hid cl
  have hRe := X.re
  have hcA := X.a
  have hcZ := X.z
  have hRs := X.rs
  have hHs := X.hs
  have hSs := X.ss
  have hER := X.er
  have HI := Lib.hid X.ink
  have HH := Lib.hid X.hh
  clear cl hQl hQ hqs
  have hSe : S.toList.isEmpty = true := empty_str k0
  have hSn : S.data.toList = [] := by rw [← List.length_eq_zero_iff, ← Lib.size_eq]; exact k0
  have hRE : R.size ≤ E := by rcases X.em with h | h <;> omega
  obtain ⟨T, hTe⟩ : ∃ T, T = (⟨#[47]⟩ : ByteArray) ++ S := ⟨_, rfl⟩
  have hTl : T.data.toList = 47 :: S.data.toList := by rw [hTe, append_list]; rfl
  have HT : Hid (T.data.toList = parG t) := by
    show _ = _
    rw [hTl, X.gl, hSn]; rfl
  have h1 : T.data.toList.head? = some 47 := by rw [hTl]; rfl
  have hTs : T.size ≤ 1000000 := by rw [hTe, ByteArray.size_append]; show 1 + _ ≤ _; omega
  have hTe2 := hTe.symm
  have kp : 0 < T.size := by rw [hTe, ByteArray.size_append]; show 0 < 1 + _; omega
  have em := full_str (show T.size ≠ 0 by omega)
  have hd := head_at kp
  have e4 : ((T[0].toNat : Int) != 47) = false := by
    rw [h1] at hd
    exact (byte_47 _).2 (Option.some.inj hd).symm
  clear hd hTl hTe
  have H1 := Lib.hid h1
  have CA := Lib.hid (fun W => r_auth H W (by omega))
  have CP0 := Lib.hid (fun W => r_path T W (by omega))
  clear h1 X hsch k7 hSn k0
  go_enter Tryz.func11, Tryz.ntmps11
  go_wp2_with fail
  refine (CL.out _).mono ?_
  rintro e w1 ⟨rfl, hb1⟩
  have hz := (hb1.block _ hlt0).trans HZ.out
  have hb := HB.out.trans (hb1.mono (Nat.le_of_lt hlt0))
  have hlt : w.heap.size < w1.heap.size := (Array.getElem?_eq_some_iff.1 hz).1
  have HHZ := Lib.hid hz
  obtain ⟨z0, z1, z2, y0, y1, y2⟩ := uri_cells hz
  clear hb1 hz
  go_wp2_with fail
  go_loopw [7] (fun i wr => ∃ j : Nat, j ≤ E ∧ i = .int .i64 (j : Int) ∧ w1 = wr) (fun i _ => E - (intOf i).toNat)
  case atStart => exact ⟨0, Nat.zero_le _, rfl, rfl⟩
  case round =>
    obtain ⟨j, hj, rfl, rfl⟩ := hrel
    by_cases hjl : j < E
    · have hjR : j < R.size := by omega
      obtain ⟨q1, q2⟩ := HI.out j hjR hjl
      go_wp2_with fail
      go_roundw
      case rel => exact ⟨j + 1, by omega, by go_num, by trivial⟩
      case measure => simp [intOf]; omega
    · have hjE : j = E := by omega
      subst hjE
      have x1 : (0 : Int) ≤ (j : Int) := by omega
      have x2 : (j : Int) ≤ (R.size : Int) := by omega
      have hl : ¬ j < R.size := by omega
      go_wp2_with fail
      try rw [hTe2]
      refine (CA.out _).mono ?_
      rintro e w2 ⟨he, hb2⟩
      have hz := (hb2.block _ hlt).trans HHZ.out
      have hb := below_then hb hb2
      have hlt2 : w.heap.size < w2.heap.size := (Array.getElem?_eq_some_iff.1 hz).1
      have HHZ2 := Lib.hid hz
      obtain ⟨z20, z21, z22, y20, y21, y22⟩ := uri_cells hz
      clear hb2 hz
      cases hau : authO H with
      | none =>
        have HR := Lib.hid (par_noauth HT.out HH.out H1.out hau)
        rw [(auth_none hau).1, (auth_none hau).2.1, (auth_none hau).2.2] at he
        clear hau
        subst he
        go_wp2_with fail
        refine bodyPost_ret (results_cell_row_tmp rfl _ _ w.heap.size 34 #[.string ⟨#[]⟩, .int .i64 0, .string ⟨#[]⟩] (0, 0) _ rfl (uri_set HHZ2.out) Tryz.underlying34 rfl (by kernel_rfl)) rfl ?_
        exact ⟨by rw [HR.out.1, HR.out.2, HV.out]; rfl, below_set3 hb (Nat.le_refl _)⟩
      | some x =>
        obtain ⟨a, p⟩ := x
        rw [(auth_some hau).1, (auth_some hau).2.1, (auth_some hau).2.2] at he
        subst he
        have HAU := Lib.hid hau
        clear hau
        go_wp2_with fail
        refine (CP0.out _).mono ?_
        rintro e w3 ⟨he, hb3⟩
        have hz := (hb3.block _ hlt2).trans HHZ2.out
        have hb := below_then hb hb3
        have HHZ3 := Lib.hid hz
        obtain ⟨z30, z31, z32, y30, y31, y32⟩ := uri_cells hz
        clear hb3 hz
        by_cases h3 : pathE T = 0
        · have HR := Lib.hid (par_yes HT.out HH.out H1.out HAU.out h3)
          rw [h3] at he
          generalize mkS (pathV T) = PP at *
          subst he
          clear h3
          go_wp2_with fail
          refine bodyPost_ret (results_cell_row_tmp rfl _ _ w.heap.size 34 #[.string (mkS a), .int .i64 p, .string PP] (0, 0) _ rfl (uri_set HHZ3.out) Tryz.underlying34 rfl (by kernel_rfl)) rfl ?_
          exact ⟨by rw [HR.out.1, HR.out.2, HV.out]; rfl, below_set3 hb (Nat.le_refl _)⟩
        · have HR := Lib.hid (par_nopath HT.out HH.out H1.out HAU.out h3)
          generalize mkS (pathV T) = PP at *
          generalize pathE T = EE at *
          have e5 : (EE != 0) = true := by simpa using h3
          subst he
          clear h3
          go_wp2_with fail
          refine bodyPost_ret (results_cell_row_tmp rfl _ _ w.heap.size 34 #[.string ⟨#[]⟩, .int .i64 0, .string ⟨#[]⟩] (0, 0) _ rfl (uri_set HHZ3.out) Tryz.underlying34 rfl (by kernel_rfl)) rfl ?_
          exact ⟨by rw [HR.out.1, HR.out.2, HV.out]; rfl, below_set3 hb (Nat.le_refl _)⟩

set_option maxHeartbeats 8000000 in
set_option maxRecDepth 100000 in
theorem r_http_q (t h R H S : ByteArray) (E : Nat) (X : Http8 t h R H S E) (hsch : schB t = true) (w : World) (ht : t.size ≤ 900000) (kp0 : 0 < S.size) (k63 : S[0] = 63) :
    Calls Tryz.prog 11 #[.string t, .string h] w fun e w' => e = .returned (.tuple #[parV t h, .int .i64 (parN8 t h)]) ∧ Below w.heap.size w w' := by
  have HZ : Hid ((w.alloc (.cells #[.string ⟨#[]⟩, .int .i64 0, .string ⟨#[]⟩] 34)).heap[w.heap.size]? = some (.cells #[.string ⟨#[]⟩, .int .i64 0, .string ⟨#[]⟩] 34 (0, 0))) := heap_alloc_new _ _
  have HB : Hid (Below w.heap.size w (w.alloc (.cells #[.string ⟨#[]⟩, .int .i64 0, .string ⟨#[]⟩] 34))) := (Below.refl _ _).alloc (Nat.le_refl _) _
  have hlt0 : w.heap.size < (w.alloc (.cells #[.string ⟨#[]⟩, .int .i64 0, .string ⟨#[]⟩] 34)).heap.size := by simp
  have HV := Lib.hid (show ∀ (a : ByteArray) (p : Int) (b : ByteArray), uriV a p b = .agg #[.string a, .int .i64 p, .string b] from fun _ _ _ => rfl)
  have k7 : 7 ≤ t.size := by
    unfold schB at hsch
    rw [Bool.and_eq_true, decide_eq_true_iff] at hsch
    exact hsch.1
  have k7' : (7 : Int) ≤ (t.size : Int) := by omega
  obtain ⟨Q, hQ⟩ : ∃ Q, Q = t.extract 0 7 := ⟨_, rfl⟩
  have hQl : Q.data.toList = t.data.toList.take 7 := by
    rw [hQ, piece_ext, mkS_list]
    unfold piece
    rw [List.drop_zero]
  have hqs : Q.size ≤ 7 := by rw [hQ, ByteArray.size_extract]; omega
  have cl := fun W => r_lower Q W (by unfold maxLen; omega)
  have e7 : ((mkS (lowL Q.data.toList)).toList == [104, 116, 116, 112, 58, 47, 47]) = true := by
    rw [← hsch]
    unfold schB
    rw [decide_eq_true k7, Bool.true_and, Lib.toList_data, mkS_list, hQl]; rfl
  have hQ' := hQ.symm
  generalize mkS (lowL Q.data.toList) = LQ at *
  have CL := Lib.hid cl
  have hRe := X.re
  have hcA := X.a
  have hcZ := X.z
  have hRs := X.rs
  have hHs := X.hs
  have hSs := X.ss
  have hER := X.er
  have HI := Lib.hid X.ink
  have HH := Lib.hid X.hh
  clear cl hQl hQ hqs
  have hSe : S.toList.isEmpty = false := full_str (by omega)
  have hRE : E < R.size := by rcases X.em with h | h <;> omega
  have e63 : ((S[0].toNat : Int) == 63) = true := by rw [k63]; rfl
  have hRS := (X.hd kp0).2 hRE
  have Q3 : Hid (((R[E].toNat : Int) != 47) = true ∧ ((R[E].toNat : Int) != 63) = false) := by
    show _ ∧ _
    rw [hRS, k63]; exact ⟨rfl, rfl⟩
  obtain ⟨T, hTe⟩ : ∃ T, T = (⟨#[47]⟩ : ByteArray) ++ S := ⟨_, rfl⟩
  have hTl : T.data.toList = 47 :: S.data.toList := by rw [hTe, append_list]; rfl
  have HT : Hid (T.data.toList = parG t) := by
    show _ = _
    rw [hTl, X.gl]
    unfold rest8
    rw [head_at kp0, k63]; rfl
  have h1 : T.data.toList.head? = some 47 := by rw [hTl]; rfl
  have hTs : T.size ≤ 1000000 := by rw [hTe, ByteArray.size_append]; show 1 + _ ≤ _; omega
  have hTe2 := hTe.symm
  have kp : 0 < T.size := by rw [hTe, ByteArray.size_append]; show 0 < 1 + _; omega
  have em := full_str (show T.size ≠ 0 by omega)
  have hd := head_at kp
  have e4 : ((T[0].toNat : Int) != 47) = false := by
    rw [h1] at hd
    exact (byte_47 _).2 (Option.some.inj hd).symm
  clear hd hTl hTe
  have H1 := Lib.hid h1
  have CA := Lib.hid (fun W => r_auth H W (by omega))
  have CP0 := Lib.hid (fun W => r_path T W (by omega))
  clear h1 X hsch k7 hRS k63
  go_enter Tryz.func11, Tryz.ntmps11
  go_wp2_with fail
  refine (CL.out _).mono ?_
  rintro e w1 ⟨rfl, hb1⟩
  have hz := (hb1.block _ hlt0).trans HZ.out
  have hb := HB.out.trans (hb1.mono (Nat.le_of_lt hlt0))
  have hlt : w.heap.size < w1.heap.size := (Array.getElem?_eq_some_iff.1 hz).1
  have HHZ := Lib.hid hz
  obtain ⟨z0, z1, z2, y0, y1, y2⟩ := uri_cells hz
  clear hb1 hz
  go_wp2_with fail
  go_loopw [7] (fun i wr => ∃ j : Nat, j ≤ E ∧ i = .int .i64 (j : Int) ∧ w1 = wr) (fun i _ => E - (intOf i).toNat)
  case atStart => exact ⟨0, Nat.zero_le _, rfl, rfl⟩
  case round =>
    obtain ⟨j, hj, rfl, rfl⟩ := hrel
    by_cases hjl : j < E
    · have hjR : j < R.size := by omega
      obtain ⟨q1, q2⟩ := HI.out j hjR hjl
      go_wp2_with fail
      go_roundw
      case rel => exact ⟨j + 1, by omega, by go_num, by trivial⟩
      case measure => simp [intOf]; omega
    · have hjE : j = E := by omega
      subst hjE
      have x1 : (0 : Int) ≤ (j : Int) := by omega
      have x2 : (j : Int) ≤ (R.size : Int) := by omega
      obtain ⟨q3, q4⟩ := Q3.out
      go_wp2_with fail
      try rw [hTe2]
      refine (CA.out _).mono ?_
      rintro e w2 ⟨he, hb2⟩
      have hz := (hb2.block _ hlt).trans HHZ.out
      have hb := below_then hb hb2
      have hlt2 : w.heap.size < w2.heap.size := (Array.getElem?_eq_some_iff.1 hz).1
      have HHZ2 := Lib.hid hz
      obtain ⟨z20, z21, z22, y20, y21, y22⟩ := uri_cells hz
      clear hb2 hz
      cases hau : authO H with
      | none =>
        have HR := Lib.hid (par_noauth HT.out HH.out H1.out hau)
        rw [(auth_none hau).1, (auth_none hau).2.1, (auth_none hau).2.2] at he
        clear hau
        subst he
        go_wp2_with fail
        refine bodyPost_ret (results_cell_row_tmp rfl _ _ w.heap.size 34 #[.string ⟨#[]⟩, .int .i64 0, .string ⟨#[]⟩] (0, 0) _ rfl (uri_set HHZ2.out) Tryz.underlying34 rfl (by kernel_rfl)) rfl ?_
        exact ⟨by rw [HR.out.1, HR.out.2, HV.out]; rfl, below_set3 hb (Nat.le_refl _)⟩
      | some x =>
        obtain ⟨a, p⟩ := x
        rw [(auth_some hau).1, (auth_some hau).2.1, (auth_some hau).2.2] at he
        subst he
        have HAU := Lib.hid hau
        clear hau
        go_wp2_with fail
        refine (CP0.out _).mono ?_
        rintro e w3 ⟨he, hb3⟩
        have hz := (hb3.block _ hlt2).trans HHZ2.out
        have hb := below_then hb hb3
        have HHZ3 := Lib.hid hz
        obtain ⟨z30, z31, z32, y30, y31, y32⟩ := uri_cells hz
        clear hb3 hz
        by_cases h3 : pathE T = 0
        · have HR := Lib.hid (par_yes HT.out HH.out H1.out HAU.out h3)
          rw [h3] at he
          generalize mkS (pathV T) = PP at *
          subst he
          clear h3
          go_wp2_with fail
          refine bodyPost_ret (results_cell_row_tmp rfl _ _ w.heap.size 34 #[.string (mkS a), .int .i64 p, .string PP] (0, 0) _ rfl (uri_set HHZ3.out) Tryz.underlying34 rfl (by kernel_rfl)) rfl ?_
          exact ⟨by rw [HR.out.1, HR.out.2, HV.out]; rfl, below_set3 hb (Nat.le_refl _)⟩
        · have HR := Lib.hid (par_nopath HT.out HH.out H1.out HAU.out h3)
          generalize mkS (pathV T) = PP at *
          generalize pathE T = EE at *
          have e5 : (EE != 0) = true := by simpa using h3
          subst he
          clear h3
          go_wp2_with fail
          refine bodyPost_ret (results_cell_row_tmp rfl _ _ w.heap.size 34 #[.string ⟨#[]⟩, .int .i64 0, .string ⟨#[]⟩] (0, 0) _ rfl (uri_set HHZ3.out) Tryz.underlying34 rfl (by kernel_rfl)) rfl ?_
          exact ⟨by rw [HR.out.1, HR.out.2, HV.out]; rfl, below_set3 hb (Nat.le_refl _)⟩

set_option maxHeartbeats 8000000 in
set_option maxRecDepth 100000 in
theorem r_http_p (t h R H S : ByteArray) (E : Nat) (X : Http8 t h R H S E) (hsch : schB t = true) (w : World) (ht : t.size ≤ 900000) (kp0 : 0 < S.size) (k47 : S[0] = 47) :
    Calls Tryz.prog 11 #[.string t, .string h] w fun e w' => e = .returned (.tuple #[parV t h, .int .i64 (parN8 t h)]) ∧ Below w.heap.size w w' := by
  have HZ : Hid ((w.alloc (.cells #[.string ⟨#[]⟩, .int .i64 0, .string ⟨#[]⟩] 34)).heap[w.heap.size]? = some (.cells #[.string ⟨#[]⟩, .int .i64 0, .string ⟨#[]⟩] 34 (0, 0))) := heap_alloc_new _ _
  have HB : Hid (Below w.heap.size w (w.alloc (.cells #[.string ⟨#[]⟩, .int .i64 0, .string ⟨#[]⟩] 34))) := (Below.refl _ _).alloc (Nat.le_refl _) _
  have hlt0 : w.heap.size < (w.alloc (.cells #[.string ⟨#[]⟩, .int .i64 0, .string ⟨#[]⟩] 34)).heap.size := by simp
  have HV := Lib.hid (show ∀ (a : ByteArray) (p : Int) (b : ByteArray), uriV a p b = .agg #[.string a, .int .i64 p, .string b] from fun _ _ _ => rfl)
  have k7 : 7 ≤ t.size := by
    unfold schB at hsch
    rw [Bool.and_eq_true, decide_eq_true_iff] at hsch
    exact hsch.1
  have k7' : (7 : Int) ≤ (t.size : Int) := by omega
  obtain ⟨Q, hQ⟩ : ∃ Q, Q = t.extract 0 7 := ⟨_, rfl⟩
  have hQl : Q.data.toList = t.data.toList.take 7 := by
    rw [hQ, piece_ext, mkS_list]
    unfold piece
    rw [List.drop_zero]
  have hqs : Q.size ≤ 7 := by rw [hQ, ByteArray.size_extract]; omega
  have cl := fun W => r_lower Q W (by unfold maxLen; omega)
  have e7 : ((mkS (lowL Q.data.toList)).toList == [104, 116, 116, 112, 58, 47, 47]) = true := by
    rw [← hsch]
    unfold schB
    rw [decide_eq_true k7, Bool.true_and, Lib.toList_data, mkS_list, hQl]; rfl
  have hQ' := hQ.symm
  generalize mkS (lowL Q.data.toList) = LQ at *
  have CL := Lib.hid cl
  have hRe := X.re
  have hcA := X.a
  have hcZ := X.z
  have hRs := X.rs
  have hHs := X.hs
  have hSs := X.ss
  have hER := X.er
  have HI := Lib.hid X.ink
  have HH := Lib.hid X.hh
  clear cl hQl hQ hqs
  have hSe : S.toList.isEmpty = false := full_str (by omega)
  have hRE : E < R.size := by rcases X.em with h | h <;> omega
  have e63 : ((S[0].toNat : Int) == 63) = false := by rw [k47]; rfl
  have hRS := (X.hd kp0).2 hRE
  have Q3 : Hid (((R[E].toNat : Int) != 47) = false) := by
    show _ = _
    rw [hRS, k47]; rfl
  have HT : Hid (S.data.toList = parG t) := by
    show _ = _
    rw [X.gl]
    unfold rest8
    rw [head_at kp0, k47]; rfl
  have h1 : S.data.toList.head? = some 47 := by rw [head_at kp0, k47]
  have e4 : ((S[0].toNat : Int) != 47) = false := by rw [k47]; rfl
  have H1 := Lib.hid h1
  have CA := Lib.hid (fun W => r_auth H W (by omega))
  have CP0 := Lib.hid (fun W => r_path S W (by omega))
  clear h1 X hsch k7 hRS k47
  go_enter Tryz.func11, Tryz.ntmps11
  go_wp2_with fail
  refine (CL.out _).mono ?_
  rintro e w1 ⟨rfl, hb1⟩
  have hz := (hb1.block _ hlt0).trans HZ.out
  have hb := HB.out.trans (hb1.mono (Nat.le_of_lt hlt0))
  have hlt : w.heap.size < w1.heap.size := (Array.getElem?_eq_some_iff.1 hz).1
  have HHZ := Lib.hid hz
  obtain ⟨z0, z1, z2, y0, y1, y2⟩ := uri_cells hz
  clear hb1 hz
  go_wp2_with fail
  go_loopw [7] (fun i wr => ∃ j : Nat, j ≤ E ∧ i = .int .i64 (j : Int) ∧ w1 = wr) (fun i _ => E - (intOf i).toNat)
  case atStart => exact ⟨0, Nat.zero_le _, rfl, rfl⟩
  case round =>
    obtain ⟨j, hj, rfl, rfl⟩ := hrel
    by_cases hjl : j < E
    · have hjR : j < R.size := by omega
      obtain ⟨q1, q2⟩ := HI.out j hjR hjl
      go_wp2_with fail
      go_roundw
      case rel => exact ⟨j + 1, by omega, by go_num, by trivial⟩
      case measure => simp [intOf]; omega
    · have hjE : j = E := by omega
      subst hjE
      have x1 : (0 : Int) ≤ (j : Int) := by omega
      have x2 : (j : Int) ≤ (R.size : Int) := by omega
      have q3 := Q3.out
      go_wp2_with fail
      refine (CA.out _).mono ?_
      rintro e w2 ⟨he, hb2⟩
      have hz := (hb2.block _ hlt).trans HHZ.out
      have hb := below_then hb hb2
      have hlt2 : w.heap.size < w2.heap.size := (Array.getElem?_eq_some_iff.1 hz).1
      have HHZ2 := Lib.hid hz
      obtain ⟨z20, z21, z22, y20, y21, y22⟩ := uri_cells hz
      clear hb2 hz
      cases hau : authO H with
      | none =>
        have HR := Lib.hid (par_noauth HT.out HH.out H1.out hau)
        rw [(auth_none hau).1, (auth_none hau).2.1, (auth_none hau).2.2] at he
        clear hau
        subst he
        go_wp2_with fail
        refine bodyPost_ret (results_cell_row_tmp rfl _ _ w.heap.size 34 #[.string ⟨#[]⟩, .int .i64 0, .string ⟨#[]⟩] (0, 0) _ rfl (uri_set HHZ2.out) Tryz.underlying34 rfl (by kernel_rfl)) rfl ?_
        exact ⟨by rw [HR.out.1, HR.out.2, HV.out]; rfl, below_set3 hb (Nat.le_refl _)⟩
      | some x =>
        obtain ⟨a, p⟩ := x
        rw [(auth_some hau).1, (auth_some hau).2.1, (auth_some hau).2.2] at he
        subst he
        have HAU := Lib.hid hau
        clear hau
        go_wp2_with fail
        refine (CP0.out _).mono ?_
        rintro e w3 ⟨he, hb3⟩
        have hz := (hb3.block _ hlt2).trans HHZ2.out
        have hb := below_then hb hb3
        have HHZ3 := Lib.hid hz
        obtain ⟨z30, z31, z32, y30, y31, y32⟩ := uri_cells hz
        clear hb3 hz
        by_cases h3 : pathE S = 0
        · have HR := Lib.hid (par_yes HT.out HH.out H1.out HAU.out h3)
          rw [h3] at he
          generalize mkS (pathV S) = PP at *
          subst he
          clear h3
          go_wp2_with fail
          refine bodyPost_ret (results_cell_row_tmp rfl _ _ w.heap.size 34 #[.string (mkS a), .int .i64 p, .string PP] (0, 0) _ rfl (uri_set HHZ3.out) Tryz.underlying34 rfl (by kernel_rfl)) rfl ?_
          exact ⟨by rw [HR.out.1, HR.out.2, HV.out]; rfl, below_set3 hb (Nat.le_refl _)⟩
        · have HR := Lib.hid (par_nopath HT.out HH.out H1.out HAU.out h3)
          generalize mkS (pathV S) = PP at *
          generalize pathE S = EE at *
          have e5 : (EE != 0) = true := by simpa using h3
          subst he
          clear h3
          go_wp2_with fail
          refine bodyPost_ret (results_cell_row_tmp rfl _ _ w.heap.size 34 #[.string ⟨#[]⟩, .int .i64 0, .string ⟨#[]⟩] (0, 0) _ rfl (uri_set HHZ3.out) Tryz.underlying34 rfl (by kernel_rfl)) rfl ?_
          exact ⟨by rw [HR.out.1, HR.out.2, HV.out]; rfl, below_set3 hb (Nat.le_refl _)⟩

theorem r_par (t h : ByteArray) (w : World) (ht : t.size ≤ 900000) (hh : h.size ≤ 1000000) :
    Calls Tryz.prog 11 #[.string t, .string h] w fun e w' => e = .returned (.tuple #[parV t h, .int .i64 (parN8 t h)]) ∧ Below w.heap.size w w' := by
  cases hs : schB t with
  | false => exact r_par_no t h w ht hh hs
  | true =>
    obtain ⟨R, H, S, E, X⟩ := http8 t h hs
    by_cases k0 : S.size = 0
    · exact r_http_e t h R H S E X hs w ht k0
    · have kp : 0 < S.size := by omega
      rcases (X.hd kp).1 with k | k
      · exact r_http_p t h R H S E X hs w ht kp k
      · exact r_http_q t h R H S E X hs w ht kp k

end Go.Proofs.YtcmppmbieebkpaaGreatDoor
