/-
  Contract of the reference's Parse (layer 8).
-/
import Derived.Test.YtcmppmbieebkpaaGreatDoorTarT
namespace Go.Proofs.YtcmppmbieebkpaaGreatDoor
open Go.RowKit

theorem uri_cells {W : World} {g t : Nat} (h : W.heap[g]? = some (.cells #[.string ⟨#[]⟩, .int .i64 0, .string ⟨#[]⟩] t (0, 0))) :
    W.cell? ⟨g, 0, none⟩ = some (.string ⟨#[]⟩) ∧ W.cell? ⟨g, 1, none⟩ = some (.int .i64 0) ∧ W.cell? ⟨g, 2, none⟩ = some (.string ⟨#[]⟩) ∧
    W.frozen? ⟨g, 0, none⟩ = false ∧ W.frozen? ⟨g, 1, none⟩ = false ∧ W.frozen? ⟨g, 2, none⟩ = false := by
  refine ⟨?_, ?_, ?_, ?_, ?_, ?_⟩
  any_goals (rw [cell_of_row W g _ _ _ _ h]; rfl)
  all_goals simp [World.frozen?, h]
theorem uri_set {W : World} {g t : Nat} {c0 c1 c2 : Value} (h : W.heap[g]? = some (.cells #[.string ⟨#[]⟩, .int .i64 0, .string ⟨#[]⟩] t (0, 0))) :
    (((W.setCell ⟨g, 0, none⟩ c0).setCell ⟨g, 1, none⟩ c1).setCell ⟨g, 2, none⟩ c2).heap[g]? = some (.cells #[c0, c1, c2] t (0, 0)) := by
  simp [World.setCell, Array.getElem?_modify, h]
theorem below_set3 {B g : Nat} {w W : World} {c0 c1 c2 : Value} (h : Below B w W) (hg : B ≤ g) : Below B w (((W.setCell ⟨g, 0, none⟩ c0).setCell ⟨g, 1, none⟩ c1).setCell ⟨g, 2, none⟩ c2) :=
  ((h.setCell (p := ⟨g, 0, none⟩) hg _).setCell (p := ⟨g, 1, none⟩) hg _).setCell (p := ⟨g, 2, none⟩) hg _

/-- What Parse answers, as a value and a number. -/
def parV (t h : ByteArray) : Value := uriV (mkS (parR t h).1.1) (parR t h).1.2.1 (mkS (parR t h).1.2.2)
def parN8 (t h : ByteArray) : Int := (parR t h).2
/-- What the end of Parse makes of a target and a host. -/
theorem par_no {t h T : ByteArray} (hT : T.data.toList = parG t) (h1 : T.data.toList.head? ≠ some 47) : parV t h = uriV ⟨#[]⟩ 0 ⟨#[]⟩ ∧ parN8 t h = 23 := by
  unfold parV parN8 parR
  rw [← hT, if_neg h1]; exact ⟨rfl, rfl⟩
theorem par_noauth {t h T H : ByteArray} (hT : T.data.toList = parG t) (hH : H = parH t h) (h1 : T.data.toList.head? = some 47) (h2 : authO H = none) : parV t h = uriV ⟨#[]⟩ 0 ⟨#[]⟩ ∧ parN8 t h = 26 := by
  unfold parV parN8 parR
  rw [← hT, if_pos h1, ← hH, h2]; exact ⟨rfl, rfl⟩
theorem par_nopath {t h T H : ByteArray} {a : List UInt8} {p : Int} (hT : T.data.toList = parG t) (hH : H = parH t h) (h1 : T.data.toList.head? = some 47) (h2 : authO H = some (a, p)) (h3 : pathE T ≠ 0) : parV t h = uriV ⟨#[]⟩ 0 ⟨#[]⟩ ∧ parN8 t h = pathE T := by
  unfold parV parN8 parR
  rw [← hT, if_pos h1, ← hH, h2]
  simp only [mkS_self, if_neg h3]; exact ⟨rfl, trivial⟩
theorem par_yes {t h T H : ByteArray} {a : List UInt8} {p : Int} (hT : T.data.toList = parG t) (hH : H = parH t h) (h1 : T.data.toList.head? = some 47) (h2 : authO H = some (a, p)) (h3 : pathE T = 0) : parV t h = uriV (mkS a) p (mkS (pathV T)) ∧ parN8 t h = 0 := by
  unfold parV parN8 parR
  rw [← hT, if_pos h1, ← hH, h2]
  simp only [mkS_self, if_pos h3]; exact ⟨trivial, trivial⟩
theorem par_len {a : List UInt8} {s : ByteArray} {p : Int} (h : authO s = some (a, p)) : (mkS a).size ≤ 253 := by
  rw [mkS_size]; exact (auth_good h).l1

set_option maxHeartbeats 8000000 in
set_option maxRecDepth 100000 in
theorem r_par_no (t h : ByteArray) (w : World) (ht : t.size ≤ 900000) (hh : h.size ≤ 1000000) (hno : schB t = false) :
    Calls Tryz.prog 11 #[.string t, .string h] w fun e w' => e = .returned (.tuple #[parV t h, .int .i64 (parN8 t h)]) ∧ Below w.heap.size w w' := by
  have HZ : Hid ((w.alloc (.cells #[.string ⟨#[]⟩, .int .i64 0, .string ⟨#[]⟩] 34)).heap[w.heap.size]? = some (.cells #[.string ⟨#[]⟩, .int .i64 0, .string ⟨#[]⟩] 34 (0, 0))) := heap_alloc_new _ _
  have HB : Hid (Below w.heap.size w (w.alloc (.cells #[.string ⟨#[]⟩, .int .i64 0, .string ⟨#[]⟩] 34))) := (Below.refl _ _).alloc (Nat.le_refl _) _
  have hlt0 : w.heap.size < (w.alloc (.cells #[.string ⟨#[]⟩, .int .i64 0, .string ⟨#[]⟩] 34)).heap.size := by simp
  have HV := Lib.hid (show ∀ (a : ByteArray) (p : Int) (b : ByteArray), uriV a p b = .agg #[.string a, .int .i64 p, .string b] from fun _ _ _ => rfl)
  by_cases k7 : t.size < 7
  · have HT : Hid (t.data.toList = parG t) := by
      show _ = _
      unfold parG schB
      rw [decide_eq_false (by omega)]; rfl
    have HH : Hid (h = parH t h) := by
      show _ = _
      unfold parH schB
      rw [decide_eq_false (by omega)]; rfl
    have k7' : ¬ (7 : Int) ≤ (t.size : Int) := by omega
    clear k7
    have ca := fun W => r_auth h W (by omega)
    have cp := fun W => r_path t W (by omega)
    have CP0 := Lib.hid cp
    clear cp
    by_cases h1 : t.data.toList.head? = some 47
    · have kp : 0 < t.size := by
        refine Nat.pos_of_ne_zero fun k0 => ?_
        have : t.data.toList = [] := by rw [← List.length_eq_zero_iff, ← Lib.size_eq]; exact k0
        rw [this] at h1; cases h1
      have em := full_str (show t.size ≠ 0 by omega)
      have hd := head_at kp
      have e4 : ((t[0].toNat : Int) != 47) = false := by
        rw [h1] at hd
        exact (byte_47 _).2 (Option.some.inj hd).symm
      clear hd
      cases hau : authO h with
      | none =>
        have HR := Lib.hid (par_noauth HT.out HH.out h1 hau)
        rw [(auth_none hau).1, (auth_none hau).2.1, (auth_none hau).2.2] at ca
        have CA := Lib.hid ca
        clear ca hau h1
        go_enter Tryz.func11, Tryz.ntmps11
        go_wp2_with fail
        refine (CA.out _).mono ?_
        rintro e w2 ⟨rfl, hb2⟩
        have hz := (hb2.block _ hlt0).trans HZ.out
        have hb := HB.out.trans (hb2.mono (Nat.le_of_lt hlt0))
        have hlt2 : w.heap.size < w2.heap.size := (Array.getElem?_eq_some_iff.1 hz).1
        have HHZ2 := Lib.hid hz
        obtain ⟨z20, z21, z22, y20, y21, y22⟩ := uri_cells hz
        clear hb2 hz
        go_wp2_with fail
        refine bodyPost_ret (results_cell_row_tmp rfl _ _ w.heap.size 34 #[.string ⟨#[]⟩, .int .i64 0, .string ⟨#[]⟩] (0, 0) _ rfl (uri_set HHZ2.out) Tryz.underlying34 rfl (by kernel_rfl)) rfl ?_
        exact ⟨by rw [HR.out.1, HR.out.2, HV.out]; rfl, below_set3 hb (Nat.le_refl _)⟩
      | some x =>
        obtain ⟨a, p⟩ := x
        rw [(auth_some hau).1, (auth_some hau).2.1, (auth_some hau).2.2] at ca
        have CA := Lib.hid ca
        have cp := CP0.out
        by_cases h3 : pathE t = 0
        · have HR := Lib.hid (par_yes HT.out HH.out h1 hau h3)
          rw [h3] at cp
          generalize mkS a = AA at *
          generalize mkS (pathV t) = PP at *
          have CP := Lib.hid cp
          clear ca cp hau h1 h3 CP0
          go_enter Tryz.func11, Tryz.ntmps11
          go_wp2_with fail
          refine (CA.out _).mono ?_
          rintro e w2 ⟨rfl, hb2⟩
          have hz := (hb2.block _ hlt0).trans HZ.out
          have hb := HB.out.trans (hb2.mono (Nat.le_of_lt hlt0))
          have hlt2 : w.heap.size < w2.heap.size := (Array.getElem?_eq_some_iff.1 hz).1
          have HHZ2 := Lib.hid hz
          obtain ⟨z20, z21, z22, y20, y21, y22⟩ := uri_cells hz
          clear hb2 hz
          go_wp2_with fail
          refine (CP.out _).mono ?_
          rintro e w3 ⟨rfl, hb3⟩
          have hz := (hb3.block _ hlt2).trans HHZ2.out
          have hb := below_then hb hb3
          have HHZ3 := Lib.hid hz
          obtain ⟨z30, z31, z32, y30, y31, y32⟩ := uri_cells hz
          clear hb3 hz
          go_wp2_with fail
          refine bodyPost_ret (results_cell_row_tmp rfl _ _ w.heap.size 34 #[.string AA, .int .i64 p, .string PP] (0, 0) _ rfl (uri_set HHZ3.out) Tryz.underlying34 rfl (by kernel_rfl)) rfl ?_
          exact ⟨by rw [HR.out.1, HR.out.2, HV.out]; rfl, below_set3 hb (Nat.le_refl _)⟩
        · have HR := Lib.hid (par_nopath HT.out HH.out h1 hau h3)
          generalize mkS a = AA at *
          generalize mkS (pathV t) = PP at *
          generalize pathE t = EE at *
          have e5 : (EE != 0) = true := by simpa using h3
          have CP := Lib.hid cp
          clear ca cp hau h1 h3 CP0
          go_enter Tryz.func11, Tryz.ntmps11
          go_wp2_with fail
          refine (CA.out _).mono ?_
          rintro e w2 ⟨rfl, hb2⟩
          have hz := (hb2.block _ hlt0).trans HZ.out
          have hb := HB.out.trans (hb2.mono (Nat.le_of_lt hlt0))
          have hlt2 : w.heap.size < w2.heap.size := (Array.getElem?_eq_some_iff.1 hz).1
          have HHZ2 := Lib.hid hz
          obtain ⟨z20, z21, z22, y20, y21, y22⟩ := uri_cells hz
          clear hb2 hz
          go_wp2_with fail
          refine (CP.out _).mono ?_
          rintro e w3 ⟨rfl, hb3⟩
          have hz := (hb3.block _ hlt2).trans HHZ2.out
          have hb := below_then hb hb3
          have HHZ3 := Lib.hid hz
          obtain ⟨z30, z31, z32, y30, y31, y32⟩ := uri_cells hz
          clear hb3 hz
          go_wp2_with fail
          refine bodyPost_ret (results_cell_row_tmp rfl _ _ w.heap.size 34 #[.string ⟨#[]⟩, .int .i64 0, .string ⟨#[]⟩] (0, 0) _ rfl (uri_set HHZ3.out) Tryz.underlying34 rfl (by kernel_rfl)) rfl ?_
          exact ⟨by rw [HR.out.1, HR.out.2, HV.out]; rfl, below_set3 hb (Nat.le_refl _)⟩
    · have HR := Lib.hid (par_no (h := h) HT.out h1)
      have CA := Lib.hid ca
      clear ca
      by_cases k0 : t.size = 0
      · have em := empty_str k0
        clear h1 k0
        go_enter Tryz.func11, Tryz.ntmps11
        go_wp2_with fail
        refine bodyPost_ret (results_cell_row_tmp rfl _ _ w.heap.size 34 #[.string ⟨#[]⟩, .int .i64 0, .string ⟨#[]⟩] (0, 0) _ rfl HZ.out Tryz.underlying34 rfl (by kernel_rfl)) rfl ?_
        exact ⟨by rw [HR.out.1, HR.out.2, HV.out]; rfl, HB.out⟩
      · have em := full_str k0
        have kp : 0 < t.size := by omega
        have hd := head_at kp
        have e4 : ((t[0].toNat : Int) != 47) = true := by
          cases hq : ((t[0].toNat : Int) != 47) with
          | true => rfl
          | false => exact absurd (hd.trans (congrArg some ((byte_47 _).1 hq))) h1
        clear h1 k0 hd
        go_enter Tryz.func11, Tryz.ntmps11
        go_wp2_with fail
        refine bodyPost_ret (results_cell_row_tmp rfl _ _ w.heap.size 34 #[.string ⟨#[]⟩, .int .i64 0, .string ⟨#[]⟩] (0, 0) _ rfl HZ.out Tryz.underlying34 rfl (by kernel_rfl)) rfl ?_
        exact ⟨by rw [HR.out.1, HR.out.2, HV.out]; rfl, HB.out⟩
  have k7' : (7 : Int) ≤ (t.size : Int) := by omega
  obtain ⟨Q, hQ⟩ : ∃ Q, Q = t.extract 0 7 := ⟨_, rfl⟩
  have hQl : Q.data.toList = t.data.toList.take 7 := by
    rw [hQ, piece_ext, mkS_list]
    unfold piece
    rw [List.drop_zero]
  have hqs : Q.size ≤ 7 := by rw [hQ, ByteArray.size_extract]; omega
  have cl := fun W => r_lower Q W (by unfold maxLen; omega)
  have hsch : schB t = ((mkS (lowL Q.data.toList)).toList == [104, 116, 116, 112, 58, 47, 47]) := by
    unfold schB
    rw [decide_eq_true (by omega), Bool.true_and, Lib.toList_data, mkS_list, hQl]; rfl
  have hQ' := hQ.symm
  generalize mkS (lowL Q.data.toList) = LQ at *
  have CL := Lib.hid cl
  clear cl hQl hQ hqs
  rw [hno] at hsch
  have e7 := hsch.symm
  have HT : Hid (t.data.toList = parG t) := by
    show _ = _
    unfold parG
    rw [hno]; rfl
  have HH : Hid (h = parH t h) := by
    show _ = _
    unfold parH
    rw [hno]; rfl
  clear hsch k7
  have ca := fun W => r_auth h W (by omega)
  have cp := fun W => r_path t W (by omega)
  have CP0 := Lib.hid cp
  clear cp
  by_cases h1 : t.data.toList.head? = some 47
  · have kp : 0 < t.size := by
      refine Nat.pos_of_ne_zero fun k0 => ?_
      have : t.data.toList = [] := by rw [← List.length_eq_zero_iff, ← Lib.size_eq]; exact k0
      rw [this] at h1; cases h1
    have em := full_str (show t.size ≠ 0 by omega)
    have hd := head_at kp
    have e4 : ((t[0].toNat : Int) != 47) = false := by
      rw [h1] at hd
      exact (byte_47 _).2 (Option.some.inj hd).symm
    clear hd
    cases hau : authO h with
    | none =>
      have HR := Lib.hid (par_noauth HT.out HH.out h1 hau)
      rw [(auth_none hau).1, (auth_none hau).2.1, (auth_none hau).2.2] at ca
      have CA := Lib.hid ca
      clear ca hau h1
      go_enter Tryz.func11, Tryz.ntmps11
      go_wp2_with fail
      refine (CL.out _).mono ?_
      rintro e w1 ⟨rfl, hb1⟩
      have hz := (hb1.block _ hlt0).trans HZ.out
      have hb := HB.out.trans (hb1.mono (Nat.le_of_lt hlt0))
      have hlt : w.heap.size < w1.heap.size := (Array.getElem?_eq_some_iff.1 hz).1
      have HHZ := Lib.hid hz
      obtain ⟨z0, z1, z2, y0, y1, y2⟩ := uri_cells hz
      clear hb1 hz
      go_wp2_with fail
      refine (CA.out _).mono ?_
      rintro e w2 ⟨rfl, hb2⟩
      have hz := (hb2.block _ hlt).trans HHZ.out
      have hb := below_then hb hb2
      have hlt2 : w.heap.size < w2.heap.size := (Array.getElem?_eq_some_iff.1 hz).1
      have HHZ2 := Lib.hid hz
      obtain ⟨z20, z21, z22, y20, y21, y22⟩ := uri_cells hz
      clear hb2 hz
      go_wp2_with fail
      refine bodyPost_ret (results_cell_row_tmp rfl _ _ w.heap.size 34 #[.string ⟨#[]⟩, .int .i64 0, .string ⟨#[]⟩] (0, 0) _ rfl (uri_set HHZ2.out) Tryz.underlying34 rfl (by kernel_rfl)) rfl ?_
      exact ⟨by rw [HR.out.1, HR.out.2, HV.out]; rfl, below_set3 hb (Nat.le_refl _)⟩
    | some x =>
      obtain ⟨a, p⟩ := x
      rw [(auth_some hau).1, (auth_some hau).2.1, (auth_some hau).2.2] at ca
      have CA := Lib.hid ca
      have cp := CP0.out
      by_cases h3 : pathE t = 0
      · have HR := Lib.hid (par_yes HT.out HH.out h1 hau h3)
        rw [h3] at cp
        generalize mkS a = AA at *
        generalize mkS (pathV t) = PP at *
        have CP := Lib.hid cp
        clear ca cp hau h1 h3 CP0
        go_enter Tryz.func11, Tryz.ntmps11
        go_wp2_with fail
        refine (CL.out _).mono ?_
        rintro e w1 ⟨rfl, hb1⟩
        have hz := (hb1.block _ hlt0).trans HZ.out
        have hb := HB.out.trans (hb1.mono (Nat.le_of_lt hlt0))
        have hlt : w.heap.size < w1.heap.size := (Array.getElem?_eq_some_iff.1 hz).1
        have HHZ := Lib.hid hz
        obtain ⟨z0, z1, z2, y0, y1, y2⟩ := uri_cells hz
        clear hb1 hz
        go_wp2_with fail
        refine (CA.out _).mono ?_
        rintro e w2 ⟨rfl, hb2⟩
        have hz := (hb2.block _ hlt).trans HHZ.out
        have hb := below_then hb hb2
        have hlt2 : w.heap.size < w2.heap.size := (Array.getElem?_eq_some_iff.1 hz).1
        have HHZ2 := Lib.hid hz
        obtain ⟨z20, z21, z22, y20, y21, y22⟩ := uri_cells hz
        clear hb2 hz
        go_wp2_with fail
        refine (CP.out _).mono ?_
        rintro e w3 ⟨rfl, hb3⟩
        have hz := (hb3.block _ hlt2).trans HHZ2.out
        have hb := below_then hb hb3
        have HHZ3 := Lib.hid hz
        obtain ⟨z30, z31, z32, y30, y31, y32⟩ := uri_cells hz
        clear hb3 hz
        go_wp2_with fail
        refine bodyPost_ret (results_cell_row_tmp rfl _ _ w.heap.size 34 #[.string AA, .int .i64 p, .string PP] (0, 0) _ rfl (uri_set HHZ3.out) Tryz.underlying34 rfl (by kernel_rfl)) rfl ?_
        exact ⟨by rw [HR.out.1, HR.out.2, HV.out]; rfl, below_set3 hb (Nat.le_refl _)⟩
      · have HR := Lib.hid (par_nopath HT.out HH.out h1 hau h3)
        generalize mkS a = AA at *
        generalize mkS (pathV t) = PP at *
        generalize pathE t = EE at *
        have e5 : (EE != 0) = true := by simpa using h3
        have CP := Lib.hid cp
        clear ca cp hau h1 h3 CP0
        go_enter Tryz.func11, Tryz.ntmps11
        go_wp2_with fail
        refine (CL.out _).mono ?_
        rintro e w1 ⟨rfl, hb1⟩
        have hz := (hb1.block _ hlt0).trans HZ.out
        have hb := HB.out.trans (hb1.mono (Nat.le_of_lt hlt0))
        have hlt : w.heap.size < w1.heap.size := (Array.getElem?_eq_some_iff.1 hz).1
        have HHZ := Lib.hid hz
        obtain ⟨z0, z1, z2, y0, y1, y2⟩ := uri_cells hz
        clear hb1 hz
        go_wp2_with fail
        refine (CA.out _).mono ?_
        rintro e w2 ⟨rfl, hb2⟩
        have hz := (hb2.block _ hlt).trans HHZ.out
        have hb := below_then hb hb2
        have hlt2 : w.heap.size < w2.heap.size := (Array.getElem?_eq_some_iff.1 hz).1
        have HHZ2 := Lib.hid hz
        obtain ⟨z20, z21, z22, y20, y21, y22⟩ := uri_cells hz
        clear hb2 hz
        go_wp2_with fail
        refine (CP.out _).mono ?_
        rintro e w3 ⟨rfl, hb3⟩
        have hz := (hb3.block _ hlt2).trans HHZ2.out
        have hb := below_then hb hb3
        have HHZ3 := Lib.hid hz
        obtain ⟨z30, z31, z32, y30, y31, y32⟩ := uri_cells hz
        clear hb3 hz
        go_wp2_with fail
        refine bodyPost_ret (results_cell_row_tmp rfl _ _ w.heap.size 34 #[.string ⟨#[]⟩, .int .i64 0, .string ⟨#[]⟩] (0, 0) _ rfl (uri_set HHZ3.out) Tryz.underlying34 rfl (by kernel_rfl)) rfl ?_
        exact ⟨by rw [HR.out.1, HR.out.2, HV.out]; rfl, below_set3 hb (Nat.le_refl _)⟩
  · have HR := Lib.hid (par_no (h := h) HT.out h1)
    have CA := Lib.hid ca
    clear ca
    by_cases k0 : t.size = 0
    · have em := empty_str k0
      clear h1 k0
      go_enter Tryz.func11, Tryz.ntmps11
      go_wp2_with fail
      refine (CL.out _).mono ?_
      rintro e w1 ⟨rfl, hb1⟩
      have hz := (hb1.block _ hlt0).trans HZ.out
      have hb := HB.out.trans (hb1.mono (Nat.le_of_lt hlt0))
      have hlt : w.heap.size < w1.heap.size := (Array.getElem?_eq_some_iff.1 hz).1
      have HHZ := Lib.hid hz
      obtain ⟨z0, z1, z2, y0, y1, y2⟩ := uri_cells hz
      clear hb1 hz
      go_wp2_with fail
      refine bodyPost_ret (results_cell_row_tmp rfl _ _ w.heap.size 34 #[.string ⟨#[]⟩, .int .i64 0, .string ⟨#[]⟩] (0, 0) _ rfl (uri_set HHZ.out) Tryz.underlying34 rfl (by kernel_rfl)) rfl ?_
      exact ⟨by rw [HR.out.1, HR.out.2, HV.out]; rfl, below_set3 hb (Nat.le_refl _)⟩
    · have em := full_str k0
      have kp : 0 < t.size := by omega
      have hd := head_at kp
      have e4 : ((t[0].toNat : Int) != 47) = true := by
        cases hq : ((t[0].toNat : Int) != 47) with
        | true => rfl
        | false => exact absurd (hd.trans (congrArg some ((byte_47 _).1 hq))) h1
      clear h1 k0 hd
      go_enter Tryz.func11, Tryz.ntmps11
      go_wp2_with fail
      refine (CL.out _).mono ?_
      rintro e w1 ⟨rfl, hb1⟩
      have hz := (hb1.block _ hlt0).trans HZ.out
      have hb := HB.out.trans (hb1.mono (Nat.le_of_lt hlt0))
      have hlt : w.heap.size < w1.heap.size := (Array.getElem?_eq_some_iff.1 hz).1
      have HHZ := Lib.hid hz
      obtain ⟨z0, z1, z2, y0, y1, y2⟩ := uri_cells hz
      clear hb1 hz
      go_wp2_with fail
      refine bodyPost_ret (results_cell_row_tmp rfl _ _ w.heap.size 34 #[.string ⟨#[]⟩, .int .i64 0, .string ⟨#[]⟩] (0, 0) _ rfl (uri_set HHZ.out) Tryz.underlying34 rfl (by kernel_rfl)) rfl ?_
      exact ⟨by rw [HR.out.1, HR.out.2, HV.out]; rfl, below_set3 hb (Nat.le_refl _)⟩

end Go.Proofs.YtcmppmbieebkpaaGreatDoor
