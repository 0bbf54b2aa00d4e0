/-
  Contract of the reference's Path (layer 8).
-/
import Derived.Test.YtcmppmbieebkpaaGreatDoorTarD
namespace Go.Proofs.YtcmppmbieebkpaaGreatDoor
open Go.RowKit

theorem cutA_head {s : ByteArray} (h : s.data.toList.head? = some 47) : (cutA s 63).data.toList.head? = some 47 := by
  have e63 : (((63 : UInt8).toNat : Nat) : Int) = 63 := rfl
  rcases cut_form s 63 with ⟨h1, _, h2, h3⟩ | ⟨a, b, hl, ha, h1, h2, h3⟩
  · rw [e63] at h2
    rw [h2]; exact h
  · rw [e63] at h2
    rw [h2, mkS_list]
    rw [hl] at h
    cases a with
    | nil => simp at h
    | cons c a => exact h
theorem pln_head {l p : List UInt8} (h : plnO moreP l = some p) (hl : l.head? = some 47) : p.head? = some 47 := by
  cases l with
  | nil => cases hl
  | cons c r =>
    simp only [List.head?_cons, Option.some.injEq] at hl
    subst hl
    rw [plnO_byte (by decide) (by decide)] at h
    obtain ⟨y, _, rfl⟩ := Option.map_eq_some_iff.1 h
    rfl
theorem head_at {s : ByteArray} (h : 0 < s.size) : s.data.toList.head? = some s[0] := by
  cases hl : s.data.toList with
  | nil => rw [Lib.size_eq, hl] at h; simp at h
  | cons c r =>
    have : s[0] = s.data.toList[0]'(by rw [← Lib.size_eq]; exact h) := rfl
    rw [this]
    simp [hl]
theorem byte_47 (c : UInt8) : ((c.toNat : Int) != 47) = false ↔ c = 47 := by
  rw [bne_eq_false_iff_eq]
  constructor
  · intro h
    rw [← UInt8.toNat_inj]
    exact Int.ofNat.inj h
  · rintro rfl; rfl
theorem pathR_of {s : ByteArray} (h : s.size ≤ 8192) (o : Option (List UInt8)) (ho : pathO s = o) : pathE s = (if o.isSome then 0 else 23) ∧ pathV s = o.getD [] := by
  have hn : ¬ 8192 < s.size := by omega
  refine ⟨?_, ?_⟩
  · unfold pathE; rw [if_neg hn, ho]
  · unfold pathV; rw [if_neg hn, ho]

def mP : ByteArray := ⟨#[45, 46, 95, 126, 33, 36, 38, 39, 40, 41, 42, 43, 44, 59, 61, 58, 64, 47]⟩
def mQ : ByteArray := ⟨#[45, 46, 95, 126, 33, 36, 38, 39, 40, 41, 42, 43, 44, 59, 61, 58, 64, 47, 63]⟩

set_option maxHeartbeats 4000000 in
set_option maxRecDepth 100000 in
theorem r_path (s : ByteArray) (w : World) (hs : s.size ≤ 1000000) :
    Calls Tryz.prog 7 #[.string s] w fun e w' => e = .returned (.tuple #[.string (mkS (pathV s)), .int .i64 (pathE s)]) ∧ Below w.heap.size w w' := by
  by_cases k1 : 8192 < s.size
  · have HR : Hid (pathV s = [] ∧ pathE s = 4) := by
      refine ⟨?_, ?_⟩
      · unfold pathV; rw [if_pos k1]
      · unfold pathE; rw [if_pos k1]
    have k1' : (8192 : Int) < (s.size : Int) := by omega
    go_enter Tryz.func7, Tryz.ntmps7
    go_wp2_with fail
    go_ret2
    exact ⟨by rw [HR.out.1, HR.out.2]; rfl, Below.refl _ _⟩
  have k1' : ¬ (8192 : Int) < (s.size : Int) := by omega
  by_cases k2 : s.size = 0
  · have hO : pathO s = none := by
      unfold pathO
      rw [if_neg]
      intro h
      have : s.data.toList = [] := by rw [← List.length_eq_zero_iff, ← Lib.size_eq]; exact k2
      rw [this] at h; cases h
    have HR := Lib.hid (pathR_of (by omega) _ hO)
    have k2' : ((s.size : Int) == 0) = true := by rw [k2]; rfl
    clear hO k2
    go_enter Tryz.func7, Tryz.ntmps7
    go_wp2_with fail
    go_ret2
    exact ⟨by rw [HR.out.1, HR.out.2]; rfl, Below.refl _ _⟩
  have k2' : ((s.size : Int) == 0) = false := by rw [beq_eq_false_iff_ne]; omega
  have k3 : 0 < s.size := by omega
  have hhd := head_at k3
  by_cases k4 : s[0] = 47
  · rw [k4] at hhd
    have e4 := (byte_47 s[0]).2 k4
    have hA := cutA_head hhd
    have cz := cut_sizes s 63
    rw [show (((63 : UInt8).toNat : Nat) : Int) = 63 from rfl] at cz
    have hO : pathO s = (plnO moreP (cutA s 63).data.toList).bind fun p => (plnO moreQ (cutZ s 63).data.toList).map fun q => dotsL p ++ (if cutOk s 63 then 63 :: q else []) := by
      unfold pathO
      rw [if_pos hhd]
    have cc := fun W => r_cut s 63 W (by unfold maxLen; omega) (by omega) (by omega)
    have HP := pathR_of (s := s) (by omega)
    generalize cutA s 63 = A at *
    generalize cutZ s 63 = Z at *
    generalize cutOk s 63 = K at *
    have cp := fun W => r_pln A mP W (by omega) (by decide)
    have cq := fun W => r_pln Z mQ W (by omega) (by decide)
    rw [show mP.data.toList = moreP from rfl] at cp
    rw [show mQ.data.toList = moreQ from rfl] at cq
    unfold mP at cp
    unfold mQ at cq
    have C := Lib.hid cc
    have HHP := Lib.hid HP
    clear cc HP hhd k4 k2
    cases ha : plnO moreP A.data.toList with
    | none =>
      rw [ha] at hO
      rw [(pln_none ha).1, (pln_none ha).2] at cp
      have HR := Lib.hid (HHP.out _ hO)
      have CP := Lib.hid cp
      generalize plnB moreQ Z = qb at *
      have CQ := Lib.hid cq
      clear cp cq ha hO hA
      go_enter Tryz.func7, Tryz.ntmps7
      go_wp2_with fail
      refine (C.out _).mono ?_
      rintro e w1 ⟨rfl, hb⟩
      go_wp2_with fail
      refine (CP.out _).mono ?_
      rintro e w2 ⟨rfl, hb2⟩
      have hb := below_then hb hb2
      clear hb2
      go_wp2_with fail
      refine (CQ.out _).mono ?_
      rintro e w3 ⟨rfl, hb3⟩
      have hb := below_then hb hb3
      clear hb3
      go_wp2_with fail
      go_ret2
      exact ⟨by rw [HR.out.1, HR.out.2]; rfl, hb⟩
    | some p =>
      rw [(pln_some ha).1, (pln_some ha).2] at cp
      have hph := pln_head ha hA
      have hpl := pln_len8 ha
      rw [← Lib.size_eq] at hpl
      cases hz : plnO moreQ Z.data.toList with
      | none =>
        rw [ha, hz] at hO
        rw [(pln_none hz).1, (pln_none hz).2] at cq
        have HR := Lib.hid (HHP.out _ hO)
        have CP := Lib.hid cp
        have CQ := Lib.hid cq
        clear cp cq ha hz hO hA hph hpl
        go_enter Tryz.func7, Tryz.ntmps7
        go_wp2_with fail
        refine (C.out _).mono ?_
        rintro e w1 ⟨rfl, hb⟩
        go_wp2_with fail
        refine (CP.out _).mono ?_
        rintro e w2 ⟨rfl, hb2⟩
        have hb := below_then hb hb2
        clear hb2
        go_wp2_with fail
        refine (CQ.out _).mono ?_
        rintro e w3 ⟨rfl, hb3⟩
        have hb := below_then hb hb3
        clear hb3
        go_wp2_with fail
        go_ret2
        exact ⟨by rw [HR.out.1, HR.out.2]; rfl, hb⟩
      | some q =>
        rw [(pln_some hz).1, (pln_some hz).2] at cq
        have hql := pln_len8 hz
        rw [← Lib.size_eq] at hql
        rw [ha, hz] at hO
        have hR := HHP.out _ hO
        have hdl : (dotsL p).length ≤ p.length := by
          cases p with
          | nil => cases hph
          | cons c r =>
            simp only [List.head?_cons, Option.some.injEq] at hph
            subst hph
            exact dots_len r
        have cd := fun W => r_dots (mkS p) W (by rw [mkS_size]; omega) hph
        rw [mkS_list] at cd
        have hd1 : (mkS (dotsL p)).size ≤ 1000000 := by rw [mkS_size]; omega
        have hq1 : (mkS q).size ≤ 1000000 := by rw [mkS_size]; omega
        have CP := Lib.hid cp
        have CQ := Lib.hid cq
        have CD := Lib.hid cd
        cases K with
        | false =>
          have HR : Hid (mkS (pathV s) = mkS (dotsL p) ∧ pathE s = 0) := by
            refine ⟨?_, hR.1⟩
            rw [hR.2]; simp
          generalize mkS (dotsL p) = D at *
          clear cp cq cd ha hz hO hA hph hpl hql hdl hR
          go_enter Tryz.func7, Tryz.ntmps7
          go_wp2_with fail
          refine (C.out _).mono ?_
          rintro e w1 ⟨rfl, hb⟩
          go_wp2_with fail
          refine (CP.out _).mono ?_
          rintro e w2 ⟨rfl, hb2⟩
          have hb := below_then hb hb2
          clear hb2
          go_wp2_with fail
          refine (CQ.out _).mono ?_
          rintro e w3 ⟨rfl, hb3⟩
          have hb := below_then hb hb3
          clear hb3
          go_wp2_with fail
          refine (CD.out _).mono ?_
          rintro e w4 ⟨rfl, rfl⟩
          go_wp2_with fail
          go_ret2
          exact ⟨by rw [HR.out.1, HR.out.2]; rfl, hb⟩
        | true =>
          have HR : Hid (mkS (pathV s) = mkS (dotsL p) ++ (⟨#[63]⟩ : ByteArray) ++ mkS q ∧ pathE s = 0) := by
            refine ⟨?_, hR.1⟩
            rw [hR.2, show (⟨#[63]⟩ : ByteArray) = mkS [63] from rfl, mkS_append, mkS_append]; simp
          generalize mkS (dotsL p) = D at *
          generalize mkS q = Q at *
          clear cp cq cd ha hz hO hA hph hpl hql hdl hR
          go_enter Tryz.func7, Tryz.ntmps7
          go_wp2_with fail
          refine (C.out _).mono ?_
          rintro e w1 ⟨rfl, hb⟩
          go_wp2_with fail
          refine (CP.out _).mono ?_
          rintro e w2 ⟨rfl, hb2⟩
          have hb := below_then hb hb2
          clear hb2
          go_wp2_with fail
          refine (CQ.out _).mono ?_
          rintro e w3 ⟨rfl, hb3⟩
          have hb := below_then hb hb3
          clear hb3
          go_wp2_with fail
          refine (CD.out _).mono ?_
          rintro e w4 ⟨rfl, rfl⟩
          go_wp2_with fail
          go_ret2
          exact ⟨by rw [HR.out.1, HR.out.2]; rfl, hb⟩
  · have hO : pathO s = none := by
      unfold pathO
      rw [if_neg]
      rw [hhd]
      intro h
      exact k4 (Option.some.inj h)
    have HR := Lib.hid (pathR_of (by omega) _ hO)
    have e4 : ((s[0].toNat : Int) != 47) = true := by
      cases h : ((s[0].toNat : Int) != 47) with
      | true => rfl
      | false => exact absurd ((byte_47 s[0]).1 h) k4
    clear hO k2 k4 hhd
    go_enter Tryz.func7, Tryz.ntmps7
    go_wp2_with fail
    go_ret2
    exact ⟨by rw [HR.out.1, HR.out.2]; rfl, Below.refl _ _⟩

end Go.Proofs.YtcmppmbieebkpaaGreatDoor
