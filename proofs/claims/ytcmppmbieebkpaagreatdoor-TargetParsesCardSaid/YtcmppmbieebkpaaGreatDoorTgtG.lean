/-
  Contracts of Parse, Text, Key and Resolve of package target.
-/
import Derived.Test.YtcmppmbieebkpaaGreatDoorTgtE
import Derived.Test.YtcmppmbieebkpaaGreatDoorTarV
import Derived.Test.YtcmppmbieebkpaaGreatDoorDecT
namespace Go.Proofs.YtcmppmbieebkpaaGreatDoor
open Go.RowKit

theorem pow_kept {w w' : World} (h : Pow10 w) (hb : Below w.heap.size w w') : Pow10 w' := tab_below h hb

set_option maxHeartbeats 4000000 in
set_option maxRecDepth 100000 in
/-- A target of neither form. -/
theorem parse_no (t h : ByteArray) (w : World) (hR : parV t h = uriV ⟨#[]⟩ 0 ⟨#[]⟩ ∧ parN8 t h = 23) (cd : ∀ W, Calls Tryz.prog 34 #[.string t, .string h] W fun e w' => e = .returned (.tuple #[.string ⟨#[]⟩, .string ⟨#[]⟩, .bool false]) ∧ Below W.heap.size W w') :
    Calls Tryz.prog 10 #[.string t, .string h] w fun e w' => e = .returned (.tuple #[parV t h, .int .i64 (parN8 t h)]) ∧ Below w.heap.size w w' := by
  have HZ : Hid ((w.alloc zeroU).heap[w.heap.size]? = some zeroU) := heap_alloc_new w _
  have HB : Hid (Below w.heap.size w (w.alloc zeroU)) := (Below.refl _ _).alloc (Nat.le_refl _) _
  have HV := Lib.hid (show ∀ (a : ByteArray) (p : Int) (b : ByteArray), uriV a p b = .agg #[.string a, .int .i64 p, .string b] from fun _ _ _ => rfl)
  have HR := Lib.hid hR
  have CD := Lib.hid cd
  clear cd hR
  go_enter Tryz.func10, Tryz.ntmps10
  go_wp2_with fail
  refine (CD.out _).mono ?_
  rintro e w1 ⟨rfl, hb1⟩
  have hz := still_zero hb1 HZ.out
  have hb := below_then HB.out hb1
  have HZ1 := Lib.hid hz
  obtain ⟨z10, z11, z12, y10, y11, y12⟩ := uri_cells hz
  clear hb1 hz
  go_wp2_with fail
  refine bodyPost_ret (results_cell_row_tmp rfl _ _ w.heap.size 34 #[.string ⟨#[]⟩, .int .i64 0, .string ⟨#[]⟩] (0, 0) _ rfl (uri_set HZ1.out) Tryz.underlying34 rfl (by kernel_rfl)) rfl ?_
  exact ⟨by rw [HR.out.1, HR.out.2, HV.out]; rfl, below_set3 hb (Nat.le_refl _)⟩

set_option maxHeartbeats 4000000 in
set_option maxRecDepth 100000 in
/-- A target that is divided into an authority and a path. -/
theorem parse_ok (t h H T : ByteArray) (w : World) (hT : T.data.toList = parG t) (hH : H = parH t h) (h1 : T.data.toList.head? = some 47) (hz : T.size ≤ 1000000) (hz2 : H.size ≤ 1000000) (cd : ∀ W, Calls Tryz.prog 34 #[.string t, .string h] W fun e w' => e = .returned (.tuple #[.string H, .string T, .bool true]) ∧ Below W.heap.size W w') :
    Calls Tryz.prog 10 #[.string t, .string h] w fun e w' => e = .returned (.tuple #[parV t h, .int .i64 (parN8 t h)]) ∧ Below w.heap.size w w' := by
  have HZ : Hid ((w.alloc zeroU).heap[w.heap.size]? = some zeroU) := heap_alloc_new w _
  have HB : Hid (Below w.heap.size w (w.alloc zeroU)) := (Below.refl _ _).alloc (Nat.le_refl _) _
  have HV := Lib.hid (show ∀ (a : ByteArray) (p : Int) (b : ByteArray), uriV a p b = .agg #[.string a, .int .i64 p, .string b] from fun _ _ _ => rfl)
  have CD := Lib.hid cd
  clear cd
  have ca := fun W => authority_any H W (by omega)
  have cp := fun W => path_any T W hz
  cases hau : authO H with
  | none =>
    have HR := Lib.hid (par_noauth hT hH h1 hau)
    rw [(auth_none hau).1, (auth_none hau).2.1, (auth_none hau).2.2] at ca
    have CA := Lib.hid ca
    clear ca hau h1 hT hH cp
    go_enter Tryz.func10, Tryz.ntmps10
    go_wp2_with fail
    refine (CD.out _).mono ?_
    rintro e w1 ⟨rfl, hb1⟩
    have hz := still_zero hb1 HZ.out
    have hb := below_then HB.out hb1
    have HZ1 := Lib.hid hz
    obtain ⟨z10, z11, z12, y10, y11, y12⟩ := uri_cells hz
    clear hb1 hz
    go_wp2_with fail
    refine (CA.out _).mono ?_
    rintro e w2 ⟨rfl, hb2⟩
    have hz := still_zero hb2 HZ1.out
    have hb := below_then hb hb2
    have HZ2 := Lib.hid hz
    obtain ⟨z20, z21, z22, y20, y21, y22⟩ := uri_cells hz
    clear hb2 hz
    go_wp2_with fail
    refine bodyPost_ret (results_cell_row_tmp rfl _ _ w.heap.size 34 #[.string ⟨#[]⟩, .int .i64 0, .string ⟨#[]⟩] (0, 0) _ rfl (uri_set HZ2.out) Tryz.underlying34 rfl (by kernel_rfl)) rfl ?_
    exact ⟨by rw [HR.out.1, HR.out.2, HV.out]; rfl, below_set3 hb (Nat.le_refl _)⟩
  | some x =>
    obtain ⟨a, p⟩ := x
    rw [(auth_some hau).1, (auth_some hau).2.1, (auth_some hau).2.2] at ca
    have CA := Lib.hid ca
    by_cases h3 : pathE T = 0
    · have HR := Lib.hid (par_yes hT hH h1 hau h3)
      rw [h3] at cp
      generalize mkS a = AA at *
      generalize mkS (pathV T) = PP at *
      have CP := Lib.hid cp
      clear ca cp hau h1 h3 hT hH
      go_enter Tryz.func10, Tryz.ntmps10
      go_wp2_with fail
      refine (CD.out _).mono ?_
      rintro e w1 ⟨rfl, hb1⟩
      have hz := still_zero hb1 HZ.out
      have hb := below_then HB.out hb1
      have HZ1 := Lib.hid hz
      obtain ⟨z10, z11, z12, y10, y11, y12⟩ := uri_cells hz
      clear hb1 hz
      go_wp2_with fail
      refine (CA.out _).mono ?_
      rintro e w2 ⟨rfl, hb2⟩
      have hz := still_zero hb2 HZ1.out
      have hb := below_then hb hb2
      have HZ2 := Lib.hid hz
      obtain ⟨z20, z21, z22, y20, y21, y22⟩ := uri_cells hz
      clear hb2 hz
      go_wp2_with fail
      refine (CP.out _).mono ?_
      rintro e w3 ⟨rfl, hb3⟩
      have hz := still_zero hb3 HZ2.out
      have hb := below_then hb hb3
      have HZ3 := Lib.hid hz
      obtain ⟨z30, z31, z32, y30, y31, y32⟩ := uri_cells hz
      clear hb3 hz
      go_wp2_with fail
      refine bodyPost_ret (results_cell_row_tmp rfl _ _ w.heap.size 34 #[.string AA, .int .i64 p, .string PP] (0, 0) _ rfl (uri_set HZ3.out) Tryz.underlying34 rfl (by kernel_rfl)) rfl ?_
      exact ⟨by rw [HR.out.1, HR.out.2, HV.out]; rfl, below_set3 hb (Nat.le_refl _)⟩
    · have HR := Lib.hid (par_nopath hT hH h1 hau h3)
      generalize mkS a = AA at *
      generalize mkS (pathV T) = PP at *
      generalize pathE T = EE at *
      have hne : (EE != 0) = true := by rw [bne_iff_ne]; exact h3
      have CP := Lib.hid cp
      clear ca cp hau h1 h3 hT hH
      go_enter Tryz.func10, Tryz.ntmps10
      go_wp2_with fail
      refine (CD.out _).mono ?_
      rintro e w1 ⟨rfl, hb1⟩
      have hz := still_zero hb1 HZ.out
      have hb := below_then HB.out hb1
      have HZ1 := Lib.hid hz
      obtain ⟨z10, z11, z12, y10, y11, y12⟩ := uri_cells hz
      clear hb1 hz
      go_wp2_with fail
      refine (CA.out _).mono ?_
      rintro e w2 ⟨rfl, hb2⟩
      have hz := still_zero hb2 HZ1.out
      have hb := below_then hb hb2
      have HZ2 := Lib.hid hz
      obtain ⟨z20, z21, z22, y20, y21, y22⟩ := uri_cells hz
      clear hb2 hz
      go_wp2_with fail
      refine (CP.out _).mono ?_
      rintro e w3 ⟨rfl, hb3⟩
      have hz := still_zero hb3 HZ2.out
      have hb := below_then hb hb3
      have HZ3 := Lib.hid hz
      obtain ⟨z30, z31, z32, y30, y31, y32⟩ := uri_cells hz
      clear hb3 hz
      go_wp2_with fail
      refine bodyPost_ret (results_cell_row_tmp rfl _ _ w.heap.size 34 #[.string ⟨#[]⟩, .int .i64 0, .string ⟨#[]⟩] (0, 0) _ rfl (uri_set HZ3.out) Tryz.underlying34 rfl (by kernel_rfl)) rfl ?_
      exact ⟨by rw [HR.out.1, HR.out.2, HV.out]; rfl, below_set3 hb (Nat.le_refl _)⟩

theorem parse8_any (t h : ByteArray) (w : World) (ht : t.size ≤ 900000) (hh : h.size ≤ 1000000) :
    Calls Tryz.prog 10 #[.string t, .string h] w fun e w' => e = .returned (.tuple #[parV t h, .int .i64 (parN8 t h)]) ∧ Below w.heap.size w w' := by
  cases hs : schB t with
  | true =>
    obtain ⟨R, H, S, E, X⟩ := http8 t h hs
    have hg : (parG t).head? = some 47 := by
      rw [X.gl]; unfold rest8
      split
      · assumption
      · rfl
    have hl : (parG t).length ≤ 900001 := by
      rw [X.gl]; unfold rest8
      have := X.ss
      rw [Lib.size_eq S] at this
      split
      · omega
      · rw [List.length_cons]; omega
    refine parse_ok t h (parH t h) (mkS (parG t)) w (mkS_list _) rfl (by rw [mkS_list]; exact hg) (by rw [mkS_size]; omega) (by rw [← X.hh]; have := X.hs; omega) (fun W => divide_c t h W hs ht)
  | false =>
    have hG : t.data.toList = parG t := by unfold parG; rw [hs]; rfl
    have hH : h = parH t h := by unfold parH; rw [hs]; rfl
    by_cases h1 : t.data.toList.head? = some 47
    · exact parse_ok t h h t w hG hH h1 (by omega) hh (fun W => divide_a t h W h1)
    · exact parse_no t h w (par_no hG h1) (fun W => divide_b t h W h1 hs (by omega))

set_option maxHeartbeats 2000000 in
set_option maxRecDepth 100000 in
theorem text8_any (h : ByteArray) (p : Int) (a : ByteArray) (hp : -9223372036854775808 ≤ p ∧ p ≤ 9223372036854775807) (hh : h.size ≤ 1000000) (ha : a.size ≤ 1000000) (w : World) (ht : Pow10 w) :
    Calls Tryz.prog 16 #[uriV h p a] w fun e w' => e = .returned (.string (textS h p a)) ∧ Below w.heap.size w w' := by
  have hlen := plainL_short p hp.1 hp.2
  by_cases h80 : p = 80
  · have HR : Hid (textS h p a = (⟨#[104, 116, 116, 112, 58, 47, 47]⟩ : ByteArray) ++ h ++ a) := by
      show _ = _
      unfold textS textL
      rw [if_pos h80]
      refine (mkS_eq ?_).symm
      rw [append_list, append_list]; simp; rfl
    have e80 : (p == 80) = true := by rw [h80]; rfl
    clear h80 hlen ht
    unfold uriV
    go_enter Tryz.func16, Tryz.ntmps16
    go_wp2_with fail
    go_ret
    exact ⟨by rw [HR.out]; rfl, (Below.refl _ _).alloc (Nat.le_refl _) _⟩
  · have HR : Hid (textS h p a = (⟨#[104, 116, 116, 112, 58, 47, 47]⟩ : ByteArray) ++ h ++ (⟨#[58]⟩ : ByteArray) ++ mkS (plainL p) ++ a) := by
      show _ = _
      unfold textS textL
      rw [if_neg h80]
      refine (mkS_eq ?_).symm
      rw [append_list, append_list, append_list, append_list]; simp [sch8, mkS]
    have e80 : (p == 80) = false := by rw [beq_eq_false_iff_ne]; exact h80
    have hz : (mkS (plainL p)).size ≤ 20 := by rw [mkS_size]; exact hlen
    have c := fun W (hb : Below w.heap.size w W) => plain_any p hp.1 hp.2 W (pow_kept ht hb)
    generalize mkS (plainL p) = D at *
    have C := Lib.hid c
    clear h80 hlen c ht
    unfold uriV
    go_enter Tryz.func16, Tryz.ntmps16
    go_wp2_with fail
    have zh : (h.size : Int) ≤ 1000000 := by omega
    have za : (a.size : Int) ≤ 1000000 := by omega
    have zd : (D.size : Int) ≤ 20 := by omega
    have b0 : (w.alloc (.cells #[.string h, .int .i64 p, .string a] 34)).drew.heap[w.heap.size]? = some (.cells #[.string h, .int .i64 p, .string a] 34 (0, 0)) := heap_alloc_new w _
    have b1 := (cell_of_row _ _ 0 _ _ _ b0).trans rfl
    have b2 := (cell_of_row _ _ 1 _ _ _ b0).trans rfl
    have b3 := (cell_of_row _ _ 2 _ _ _ b0).trans rfl
    have hb : Below w.heap.size w (w.alloc (.cells #[.string h, .int .i64 p, .string a] 34)).drew := ((Below.refl _ _).alloc (Nat.le_refl _) _).drew
    have HU : Hid (Uri3 (w.alloc (.cells #[.string h, .int .i64 p, .string a] 34)).drew w.heap.size h p a) := ⟨b1, b2, b3⟩
    clear b0 b1 b2 b3
    have f1 : ¬ 9223372036854775807 < 7 + h.size := by omega
    have f2 : ¬ 9223372036854775807 < 7 + h.size + 1 := by omega
    have f3 : ¬ 9223372036854775807 < 7 + h.size + 1 + D.size := by omega
    have f4 : ¬ 9223372036854775807 < 7 + h.size + 1 + D.size + a.size := by omega
    go_region_held3 (fun W => W.cell? ⟨w.heap.size, 0, none⟩ = some (.string h) ∧ W.cell? ⟨w.heap.size, 1, none⟩ = some (.int .i64 p) ∧ W.cell? ⟨w.heap.size, 2, none⟩ = some (.string a)) (exact HU.out) (first
      | (go_at_call 35; refine (C.out _ hb).mono ?_; rintro e w2 ⟨rfl, hb2⟩; have HU := Lib.hid (HU.out.kept hb2); have hb := below_then hb hb2; clear hb2))
    go_wp2_with fail
    go_ret
    exact ⟨by rw [HR.out]; rfl, hb⟩

theorem key8_any (h : ByteArray) (p : Int) (a : ByteArray) (hp : -9223372036854775808 ≤ p ∧ p ≤ 9223372036854775807) (hh : h.size ≤ 1000000) (ha : a.size ≤ 1000000) (w : World) (ht : Pow10 w) :
    Calls Tryz.prog 14 #[uriV h p a] w fun e w' => e = .returned (.tuple #[.string (keyS h p a), .int .i64 (keyN h p a)]) ∧ Below w.heap.size w w' := by
  have c := fun W (hb : Below w.heap.size w W) => text8_any h p a hp hh ha W (pow_kept ht hb)
  have hT : (⟨#[71, 69, 84, 32]⟩ : ByteArray) ++ textS h p a = mkS (keyT (h.data.toList, p, a.data.toList)) := by
    refine mkS_eq ?_
    rw [append_list]; rfl
  have hz : (textS h p a).size + 4 = (keyT (h.data.toList, p, a.data.toList)).length := by
    rw [← mkS_size, ← hT, ByteArray.size_append, Nat.add_comm]; rfl
  have hlen := plainL_short p hp.1 hp.2
  have hz1 : (textS h p a).size ≤ 2000100 := by
    unfold textS textL
    rw [mkS_size]
    have e1 : h.data.toList.length = h.size := (Lib.size_eq h).symm
    have e2 : a.data.toList.length = a.size := (Lib.size_eq a).symm
    simp only [List.length_append]
    rw [e1, e2]
    split <;> simp [sch8] <;> omega
  have hK : keyS h p a = mkS (if 255 < (keyT (h.data.toList, p, a.data.toList)).length then [] else keyT (h.data.toList, p, a.data.toList)) := rfl
  have hN : keyN h p a = if 255 < (keyT (h.data.toList, p, a.data.toList)).length then 4 else 0 := rfl
  generalize textS h p a = T at *
  rw [← hz] at hK hN
  unfold uriV at *
  have C := Lib.hid c
  have hb0 := (Below.refl w.heap.size w).alloc (Nat.le_refl _) (.cells #[.string h, .int .i64 p, .string a] 34)
  by_cases k : 255 < T.size + 4
  · rw [if_pos k] at hK hN
    have HR := Lib.hid (And.intro hK hN)
    have zT : (T.size : Int) ≤ 2000100 := by omega
    have k' : (255 : Int) < 4 + (T.size : Int) := by omega
    clear ht hz hT hK hN hlen c k
    go_enter Tryz.func14, Tryz.ntmps14
    go_wp2_with fail
    refine (C.out _ hb0).mono ?_
    rintro e w2 ⟨rfl, hb⟩
    have hb := below_then hb0 hb
    go_wp2_with fail
    go_ret2
    exact ⟨by rw [HR.out.1, HR.out.2]; rfl, hb⟩
  · rw [if_neg k] at hK hN
    rw [← hT] at hK
    have HR := Lib.hid (And.intro hK hN)
    have zT : (T.size : Int) ≤ 2000100 := by omega
    have k' : ¬ (255 : Int) < 4 + (T.size : Int) := by omega
    clear ht hz hT hK hN hlen c k
    go_enter Tryz.func14, Tryz.ntmps14
    go_wp2_with fail
    refine (C.out _ hb0).mono ?_
    rintro e w2 ⟨rfl, hb⟩
    have hb := below_then hb0 hb
    go_wp2_with fail
    go_ret2
    exact ⟨by rw [HR.out.1, HR.out.2]; rfl, hb⟩

set_option maxHeartbeats 8000000 in
set_option maxRecDepth 100000 in
theorem resolve8_any (h : ByteArray) (p : Int) (a s : ByteArray) (hp : -9223372036854775808 ≤ p ∧ p ≤ 9223372036854775807) (hh : h.size ≤ 900000) (hs : s.size ≤ 900000) (w : World) (ht : Pow10 w) :
    Calls Tryz.prog 12 #[uriV h p a, .string s] w fun e w' => e = .returned (.tuple #[resV h p s, .bool (resB h p s)]) ∧ Below w.heap.size w w' := by
  have hlen := plainL_short p hp.1 hp.2
  have hz : (mkS (plainL p)).size ≤ 20 := by rw [mkS_size]; exact hlen
  have c := fun W (hb : Below w.heap.size w W) => plain_any p hp.1 hp.2 W (pow_kept ht hb)
  have hH : hostS h p = h ++ (⟨#[58]⟩ : ByteArray) ++ mkS (plainL p) := rfl
  have cp := fun W => parse8_any s (hostS h p) W hs (by rw [hH, ByteArray.size_append, ByteArray.size_append]; show h.size + 1 + _ ≤ _; omega)
  have hV : resV h p s = parV s (hostS h p) := rfl
  have hB : resB h p s = (parN8 s (hostS h p) == 0) := rfl
  have hu : ∃ x q y, parV s (hostS h p) = .agg #[.string x, .int .i64 q, .string y] := ⟨_, _, _, rfl⟩
  rw [hV, hB]
  obtain ⟨x, q, y, hu⟩ := hu
  rw [hu] at cp ⊢
  generalize parN8 s (hostS h p) = E at *
  rw [hH] at cp
  generalize mkS (plainL p) = D at *
  have C := Lib.hid c
  have CP := Lib.hid cp
  have zh : (h.size : Int) ≤ 1000000 := by omega
  have zd : (D.size : Int) ≤ 20 := by omega
  have f1 : ¬ 9223372036854775807 < h.size + 1 := by omega
  have f2 : ¬ 9223372036854775807 < h.size + 1 + D.size := by omega
  clear hV hB hu cp c hH hlen ht
  have hZ0 : ((w.alloc (.cells #[.string h, .int .i64 p, .string a] 34)).alloc (.cells #[.string ⟨#[]⟩, .int .i64 0, .string ⟨#[]⟩] 34)).drew.heap[w.heap.size + 1]? = some (.cells #[.string ⟨#[]⟩, .int .i64 0, .string ⟨#[]⟩] 34 (0, 0)) := by
    have := heap_alloc_new (w.alloc (.cells #[.string h, .int .i64 p, .string a] 34)) (.cells #[.string ⟨#[]⟩, .int .i64 0, .string ⟨#[]⟩] 34)
    have e : (w.alloc (.cells #[.string h, .int .i64 p, .string a] 34)).heap.size = w.heap.size + 1 := by simp
    rw [e] at this
    exact this
  have HU : Hid (Uri3 ((w.alloc (.cells #[.string h, .int .i64 p, .string a] 34)).alloc (.cells #[.string ⟨#[]⟩, .int .i64 0, .string ⟨#[]⟩] 34)).drew w.heap.size h p a) := by
    have h0 := heap_alloc_new w (.cells #[.string h, .int .i64 p, .string a] 34)
    have hb := ((Below.refl (w.alloc (.cells #[.string h, .int .i64 p, .string a] 34)).heap.size (w.alloc (.cells #[.string h, .int .i64 p, .string a] 34))).alloc (Nat.le_refl _) (.cells #[.string ⟨#[]⟩, .int .i64 0, .string ⟨#[]⟩] 34)).drew
    exact Uri3.kept hb ⟨(cell_of_row _ _ 0 _ _ _ h0).trans rfl, (cell_of_row _ _ 1 _ _ _ h0).trans rfl, (cell_of_row _ _ 2 _ _ _ h0).trans rfl⟩
  have hb0 : Below w.heap.size w ((w.alloc (.cells #[.string h, .int .i64 p, .string a] 34)).alloc (.cells #[.string ⟨#[]⟩, .int .i64 0, .string ⟨#[]⟩] 34)).drew := (((Below.refl _ _).alloc (Nat.le_refl _) _).alloc (by simp) _).drew
  have HS : Hid (Res8 w ((w.alloc (.cells #[.string h, .int .i64 p, .string a] 34)).alloc (.cells #[.string ⟨#[]⟩, .int .i64 0, .string ⟨#[]⟩] 34)).drew h p a) := ⟨HU.out, hZ0, hb0⟩
  clear hZ0 hb0
  unfold uriV
  go_enter Tryz.func12, Tryz.ntmps12
  go_wp2_with fail
  obtain ⟨u0, u1, u2⟩ := HS.out.u
  have n0 := World.new_ne _ _ u0
  have n1 := World.new_ne _ _ u1
  go_region_held3 (fun W => W.cell? ⟨w.heap.size, 0, none⟩ = some (.string h) ∧ W.cell? ⟨w.heap.size, 1, none⟩ = some (.int .i64 p)) (first | go_keep | exact ⟨uri_other (by omega) t0, uri_other (by omega) t1⟩ | exact ⟨uri_other (Ne.symm m0) t0, uri_other (Ne.symm m0) t1⟩) (first
    | (go_at_call 35; refine (C.out _ (by first | with_reducible exact HS.out.b | exact (HS.out.b.alloc HS.out.b.size _))).mono ?_; rintro e w2 ⟨rfl, hb2⟩; (first | (with_reducible have hzA := alloc_zeroD (B := w.heap.size + 1 + 1) hb2 (by simp); have HS := Lib.hid (HS.out.kept (alloc_thenD hb2)); have HZA := Lib.hid hzA; clear hb2 hzA) | (have HS := Lib.hid (HS.out.kept hb2); clear hb2)); have hg2 : w.heap.size + 1 ≠ w2.heap.size := Nat.ne_of_lt (Array.getElem?_eq_some_iff.1 HS.out.z).1; have hg3 : w.heap.size ≤ w2.heap.size := HS.out.b.size; obtain ⟨v0, v1, v2⟩ := HS.out.u; have m0 := World.new_ne _ _ v0; have m1 := World.new_ne _ _ v1)
    | (go_at_call 10; refine (CP.out _).mono ?_; rintro e w3 ⟨rfl, hb3⟩; (first | (with_reducible have hzB := alloc_zero hb3; have HS := Lib.hid (HS.out.kept (alloc_then hb3)); obtain ⟨c0, c1, c2, d0, d1, d2⟩ := uri_cells hzB; have HZB := Lib.hid hzB; clear hb3 hzB) | (have hzB := still_zero hb3 HZA.out; have HS := Lib.hid (HS.out.kept hb3); obtain ⟨c0, c1, c2, d0, d1, d2⟩ := uri_cells hzB; have HZB := Lib.hid hzB; clear hb3 hzB) | (have HS := Lib.hid (HS.out.kept hb3); clear hb3)); obtain ⟨t0, t1, t2⟩ := HS.out.u; have k0 := World.new_ne _ _ t0; have k1 := World.new_ne _ _ t1))
  · obtain ⟨W4, hW4⟩ : ∃ W4, W4 = w3.alloc (.cells #[.string x, .int .i64 q, .string y] 34) := ⟨_, rfl⟩
    rw [← hW4]
    have hB4 : W4.heap[w3.heap.size]? = some (.cells #[.string x, .int .i64 q, .string y] 34 (0, 0)) := by rw [hW4]; exact heap_alloc_new w3 _
    have hG4 : W4.heap[w.heap.size + 1]? = some zeroU := by
      rw [hW4]
      have hz3 := HS.out.z
      exact (Below.heap_alloc w3 _ _ (Array.getElem?_eq_some_iff.1 hz3).1).trans hz3
    have hb4 : Below w.heap.size w W4 := by rw [hW4]; exact HS.out.b.alloc HS.out.b.size _
    have HG4 := Lib.hid hG4
    have HB4 := Lib.hid hb4
    obtain ⟨a0, a1, a2⟩ := uri_full hB4
    obtain ⟨z0, z1, z2, y0, y1, y2⟩ := uri_cells hG4
    clear hG4 hb4 hB4 hW4
    go_wp2_with fail
    refine bodyPost_ret (results_cell_row_tmp rfl _ _ (w.heap.size + 1) 34 #[.string x, .int .i64 q, .string y] (0, 0) _ rfl (uri_set HG4.out) Tryz.underlying34 rfl (by kernel_rfl)) rfl ?_
    exact ⟨rfl, below_set3 HB4.out (Nat.le_succ _)⟩
  · obtain ⟨W4, hW4⟩ : ∃ W4, W4 = (((w3.setCell ⟨w2.heap.size, 0, none⟩ (.string x)).setCell ⟨w2.heap.size, 1, none⟩ (.int .i64 q)).setCell ⟨w2.heap.size, 2, none⟩ (.string y)) := ⟨_, rfl⟩
    rw [← hW4]
    have hB4 : W4.heap[w2.heap.size]? = some (.cells #[.string x, .int .i64 q, .string y] 34 (0, 0)) := by rw [hW4]; exact uri_set HZB.out
    have hG4 : W4.heap[w.heap.size + 1]? = some zeroU := by rw [hW4]; exact uri_far hg2 HS.out.z
    have hb4 : Below w.heap.size w W4 := by rw [hW4]; exact below_set3 HS.out.b hg3
    have HG4 := Lib.hid hG4
    have HB4 := Lib.hid hb4
    obtain ⟨a0, a1, a2⟩ := uri_full hB4
    obtain ⟨z0, z1, z2, y0, y1, y2⟩ := uri_cells hG4
    clear hG4 hb4 hB4 hW4
    go_wp2_with fail
    refine bodyPost_ret (results_cell_row_tmp rfl _ _ (w.heap.size + 1) 34 #[.string x, .int .i64 q, .string y] (0, 0) _ rfl (uri_set HG4.out) Tryz.underlying34 rfl (by kernel_rfl)) rfl ?_
    exact ⟨rfl, below_set3 HB4.out (Nat.le_succ _)⟩
  · obtain ⟨W4, hW4⟩ : ∃ W4, W4 = (((w3.setCell ⟨w.heap.size + 1 + 1, 0, none⟩ (.string x)).setCell ⟨w.heap.size + 1 + 1, 1, none⟩ (.int .i64 q)).setCell ⟨w.heap.size + 1 + 1, 2, none⟩ (.string y)) := ⟨_, rfl⟩
    rw [← hW4]
    have hB4 : W4.heap[w.heap.size + 1 + 1]? = some (.cells #[.string x, .int .i64 q, .string y] 34 (0, 0)) := by rw [hW4]; exact uri_set HZB.out
    have hG4 : W4.heap[w.heap.size + 1]? = some zeroU := by rw [hW4]; exact uri_far (by omega) HS.out.z
    have hb4 : Below w.heap.size w W4 := by rw [hW4]; exact below_set3 HS.out.b (by omega)
    have HG4 := Lib.hid hG4
    have HB4 := Lib.hid hb4
    obtain ⟨a0, a1, a2⟩ := uri_full hB4
    obtain ⟨z0, z1, z2, y0, y1, y2⟩ := uri_cells hG4
    clear hG4 hb4 hB4 hW4
    go_wp2_with fail
    refine bodyPost_ret (results_cell_row_tmp rfl _ _ (w.heap.size + 1) 34 #[.string x, .int .i64 q, .string y] (0, 0) _ rfl (uri_set HG4.out) Tryz.underlying34 rfl (by kernel_rfl)) rfl ?_
    exact ⟨rfl, below_set3 HB4.out (Nat.le_succ _)⟩

end Go.Proofs.YtcmppmbieebkpaaGreatDoor
