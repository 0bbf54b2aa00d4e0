/-
  Texts that the laws of this seat lean on, one behind the other.
-/
import Derived.Test.YtbbppkonjaijhaaDoorMrgW
import Derived.Test.YtbbppkonjaijhaaDoorMrgL
import Derived.Test.YtbbppkonjaijhaaDoorMrgJ
import Derived.Test.YtbbppkonjaijhaaDoorMrgO
import Derived.Deep.RegionHeld3
import Derived.IntWalk
import Derived.Test.YtbbppkonjaijhaaDoorMrgR
import Derived.Test.YtbbppkonjaijhaaDoorMrgU
import Derived.Test.YtbbppkonjaijhaaDoorMrgC
import Derived.Test.YtbbppkonjaijhaaDoorMrgX
import Derived.Deep.QuietTactic
import Derived.BigQuiet
import Derived.Test.YtbbppkonjaijhaaDoorMrgI
/-
  Contracts of package chunk's size: a chunk's line.
-/
section
namespace Go.Proofs.YtbbppkonjaijhaaDoor
open Go.RowKit

theorem cutA_le (s : ByteArray) (c : Int) : (cutA s c).size ≤ s.size := by
  unfold cutA
  split
  · exact Nat.le_refl _
  · rw [ByteArray.size_extract]; omega
theorem cutZ_le (s : ByteArray) (c : Int) : (cutZ s c).size ≤ s.size := by
  unfold cutZ
  split
  · exact Nat.zero_le _
  · rw [ByteArray.size_extract]; omega

set_option maxHeartbeats 4000000 in
set_option maxRecDepth 100000 in
/-- The line of a size that ends. -/
theorem size_hit (w : World) (R : Nat) (s : ByteArray) (X : List UInt8) (h : Rdr w R s X) (hs : s.size ≤ 1000000000) (hX : X.length ≤ 65536) (ln r : List UInt8) (hl : lineL s.data.toList = some (ln, r)) :
    Calls Tryd.prog 22 #[.pointer (some ⟨R, 0, none⟩)] w fun e w' => e = .returned (.tuple #[.int .i64 (szQ X.length (mkS ln)).1, .int .i64 (szQ X.length (mkS ln)).2]) ∧ Rdr w' R (mkS r) X ∧ Below R w w' := by
  have hm : (1000000000 : Nat) ≤ maxLen := by decide
  have hln : (mkS ln).size ≤ 1000000000 := by
    have := congrArg List.length (lineL_form hl)
    rw [← Lib.size_eq, List.length_append] at this
    rw [mkS_size]; omega
  have c1 := fun (_ : Unit) => line_hit w R s X h hs ln r hl
  have c2 := fun W => cut_any (mkS ln) 59 W (by omega) (by decide) (by decide)
  have c3 := fun W => isText_any (cutZ (mkS ln) 59) W (by have := cutZ_le (mkS ln) 59; omega)
  have c4 := fun W => rtrim_any (cutA (mkS ln) 59) W (by have := cutA_le (mkS ln) 59; omega)
  have c5 := fun W => ReadHex_any (mkS (rdw (cutA (mkS ln) 59).data.toList)) (65536 - (X.length : Int)) W
  rw [mkS_list] at c5
  have hsb : szB (mkS ln) = ((numE 16 15 1152921504606846976 (rdw (cutA (mkS ln) 59).data.toList) == 0) && (!cutOk (mkS ln) 59 || allB txtB (cutZ (mkS ln) 59).data.toList)) := rfl
  rw [cut_text] at hsb
  have hsv : szV (mkS ln) = numN 16 15 1152921504606846976 (rdw (cutA (mkS ln) 59).data.toList) := rfl
  have hq1 := fun g => szQ_bad (b := X.length) (s := mkS ln) g
  have hq2 := fun g k => szQ_big (b := X.length) (s := mkS ln) g k
  have hq3 := fun g k => szQ_ok (b := X.length) (s := mkS ln) g k
  have hu := num_under (65536 - (X.length : Int)) (rdw (cutA (mkS ln) 59).data.toList)
  have hdr := fun W (k : Rdr W R (mkS r) X) => k.cells
  have hR := h.size
  generalize szQ X.length (mkS ln) = q at *
  generalize szB (mkS ln) = sb at *
  generalize szV (mkS ln) = sv at *
  generalize mkS ln = LN at *
  generalize cutA LN 59 = CA at *
  generalize cutZ LN 59 = CZ at *
  generalize cutOk LN 59 = CK at *
  generalize allB txtB CZ.data.toList = tx at *
  generalize rdw CA.data.toList = L at *
  generalize numE 16 15 1152921504606846976 L = ET at *
  generalize numN 16 15 1152921504606846976 L = NT at *
  generalize numE 16 15 (65536 - (X.length : Int)) L = EM at *
  generalize numN 16 15 (65536 - (X.length : Int)) L = NM at *
  have C1 := Lib.hid (c1 ())
  have C2 := Lib.hid c2
  have C3 := Lib.hid c3
  have C4 := Lib.hid c4
  have HSB := Lib.hid hsb
  have HSV := Lib.hid hsv
  have HQ1 := Lib.hid hq1
  have HQ2 := Lib.hid hq2
  have HQ3 := Lib.hid hq3
  have HU := Lib.hid hu
  have HDR := Lib.hid hdr
  have HW := Lib.hid (show IntKind.i64.wrap (65536 - (X.length : Int)) = 65536 - (X.length : Int) from Go.IntWalk.i64_in _ (by omega))
  clear c1 c2 c3 c4 hsb hsv hq1 hq2 hq3 hu hdr hl hs h hln hm
  obtain ⟨N, hN⟩ : ∃ N, X.length = N := ⟨_, rfl⟩
  rw [hN] at c5 HW
  have HN := Lib.hid hN
  have C5 := Lib.hid c5
  clear c5
  have fin : ∀ (W : World) (_ : Below R w W) (a b : Int), q = (a, b) → Rdr W R (mkS r) X → (Ending.returned (.tuple #[.int .i64 a, .int .i64 b]) = .returned (.tuple #[.int .i64 q.1, .int .i64 q.2]) ∧ Rdr W R (mkS r) X ∧ Below R w W) := fun W hW a b e k => ⟨by rw [e], k, hW⟩
  have FIN := Lib.hid fin
  clear fin hN hX
  go_enter Tryd.func22, Tryd.ntmps22
  go_wp2_with fail
  refine C1.out.mono ?_
  rintro e w1 ⟨rfl, h1, hb1⟩
  have H1 := Lib.hid h1
  have HB1 := Lib.hid hb1
  clear h1 hb1
  go_wp2_with fail
  refine (C2.out _).mono ?_
  rintro e w2 ⟨rfl, hb2⟩
  have HB2 := Lib.hid hb2
  clear hb2
  go_wp2_with fail
  refine (C3.out _).mono ?_
  rintro e w3 ⟨rfl, hb3⟩
  have HB3 := Lib.hid (below_then HB2.out hb3)
  clear hb3
  have HBR := Lib.hid (HB1.out.trans (HB3.out.mono (Nat.le_of_lt H1.out.size)))
  have H3 := Lib.hid (H1.out.below HB3.out)
  cases tx with
  | false =>
    have e0 := HSB.out
    rw [Bool.and_false] at e0
    have HE := Lib.hid (HQ1.out e0)
    clear e0
    go_wp2_with fail
    go_ret2
    exact FIN.out w3 HBR.out _ _ HE.out H3.out
  | true =>
    obtain ⟨A, c, _, _, _, k1, _, _⟩ := HDR.out _ H3.out
    rw [HN.out] at k1
    have K1 : Hid (w3.drew.cell? ⟨R, 1, none⟩ = some (.slice A N c)) := k1
    clear k1
    have hw := HW.out
    go_wp2_with fail
    go_region_held3 (fun w' => w'.cell? ⟨R, 1, none⟩ = some (.slice A N c)) (first | with_reducible exact K1.out | exact cell_kept hb4 K1.out | exact cell_kept hb5 (cell_kept hb4 K1.out) | go_keep)
      (first
        | ((go_at_call 37; refine (C4.out _).mono ?_; rintro e w4 ⟨rfl, hb4⟩))
        | ((go_at_call 36; refine (C5.out _).mono ?_; rintro e w5 ⟨rfl, hb5⟩)))
    have HX := Lib.hid ((below_drawn (Below.refl w3.heap.size w3) 1).trans ((hb4.trans (hb5.mono hb4.size))))
    have HXR := Lib.hid (HBR.out.trans (HX.out.mono (Nat.le_of_lt H3.out.size)))
    have H5 := Lib.hid (H3.out.below HX.out)
    clear hb4 hb5
    rcases HU.out with ⟨g1, g2, g3⟩ | ⟨g1, g2, g3, g4⟩ | ⟨g1, g2, g3, g4⟩
    · have e0 := HSB.out
      rw [show (ET == 0) = false from by simpa using g1] at e0
      have HE := Lib.hid (HQ1.out e0)
      clear e0 g1
      subst g2 g3
      go_wp2_with fail
      go_ret2
      exact FIN.out w5 HXR.out _ _ HE.out H5.out
    · have e0 := HSB.out
      rw [show (ET == 0) = true from by simpa using g1] at e0
      rw [← HSV.out] at g2
      have HE := Lib.hid (HQ2.out e0 g2)
      clear e0 g1 g2
      subst g3 g4
      go_wp2_with fail
      go_ret2
      exact FIN.out w5 HXR.out _ _ HE.out H5.out
    · have e0 := HSB.out
      rw [show (ET == 0) = true from by simpa using g1] at e0
      rw [← HSV.out] at g2 g4
      have HE := Lib.hid (HQ3.out e0 (by omega))
      clear e0 g1 g2
      subst g3 g4
      go_wp2_with fail
      go_ret2
      exact FIN.out w5 HXR.out _ _ HE.out H5.out

set_option maxHeartbeats 4000000 in
set_option maxRecDepth 100000 in
/-- No line that ends. -/
theorem size_miss (w : World) (R : Nat) (s : ByteArray) (X : List UInt8) (h : Rdr w R s X) (hs : s.size ≤ 1000000000) (hl : lineL s.data.toList = none) :
    Calls Tryd.prog 22 #[.pointer (some ⟨R, 0, none⟩)] w fun e w' => e = .returned (.tuple #[.int .i64 0, .int .i64 25]) ∧ Rdr w' R s X ∧ Below R w w' := by
  have C1 := Lib.hid (line_miss w R s X h hs hl)
  have C2 := Lib.hid (fun W => cut_any ⟨#[]⟩ 59 W (by decide) (by decide) (by decide))
  clear h hs hl
  go_enter Tryd.func22, Tryd.ntmps22
  go_wp2_with fail
  refine C1.out.mono ?_
  rintro e w1 ⟨rfl, h1, hb1⟩
  have H1 := Lib.hid h1
  have HB1 := Lib.hid hb1
  clear h1 hb1
  go_wp2_with fail
  refine (C2.out _).mono ?_
  rintro e w2 ⟨rfl, hb2⟩
  have HB2 := Lib.hid hb2
  clear hb2
  go_wp2_with fail
  go_ret2
  exact ⟨rfl, H1.out.below HB2.out, HB1.out.trans (HB2.out.mono (Nat.le_of_lt H1.out.size))⟩

end Go.Proofs.YtbbppkonjaijhaaDoor
end

/-
  Contracts of package chunk's data: a chunk's bytes.
-/
section
namespace Go.Proofs.YtbbppkonjaijhaaDoor
open Go.RowKit

theorem mkS_ne {l : List UInt8} (h : l ≠ []) : ¬ (mkS l).toList = [] ∧ (mkS l).toList.isEmpty = false := by
  have e : (mkS l).toList = l := by rw [Lib.toList_data, mkS_list]
  rw [e]
  refine ⟨h, ?_⟩
  cases l with
  | nil => exact absurd rfl h
  | cons a r => rfl
theorem rest_list (s : ByteArray) (n : Nat) : (s.extract n s.size).data.toList = s.data.toList.drop n := by
  rw [piece_ext, mkS_list]
  show (s.data.toList.drop n).take (s.size - n) = _
  rw [List.take_of_length_le (by rw [List.length_drop, ← Lib.size_eq]; exact Nat.le_refl _)]
theorem front_list (s : ByteArray) (n : Nat) : (s.extract 0 n).data.toList = s.data.toList.take n := by
  rw [piece_ext, mkS_list]
  show (s.data.toList.drop 0).take (n - 0) = _
  rw [List.drop_zero, Nat.sub_zero]

set_option maxHeartbeats 4000000 in
set_option maxRecDepth 100000 in
/-- A chunk that is whole. -/
theorem data_ok (w : World) (R : Nat) (s : ByteArray) (X : List UInt8) (h : Rdr w R s X) (hs : s.size ≤ 1000000) (hX : X.length ≤ 65536) (n : Nat) (hn : n ≤ s.size) (r : List UInt8) (hl : lineL (s.data.toList.drop n) = some ([], r)) :
    Calls Tryd.prog 23 #[.pointer (some ⟨R, 0, none⟩), .int .i64 n] w fun e w' => e = .returned (.int .i64 0) ∧ Rdr w' R (mkS r) (X ++ s.data.toList.take n) ∧ Below R w w' := by
  have C1 := Lib.hid (bytes_hit w R s X h n hn)
  have c2 := fun W (k : Rdr W R (s.extract n s.size) X) => line_hit W R (s.extract n s.size) X k (by rw [ByteArray.size_extract]; omega) [] r (by rw [rest_list]; exact hl)
  rw [show mkS [] = ⟨#[]⟩ from rfl] at c2
  have hfl := front_list s n
  have hfs : (s.extract 0 n).size ≤ 1000000 := by rw [ByteArray.size_extract]; omega
  generalize s.extract 0 n = Y at *
  generalize s.extract n s.size = Z at *
  rw [← hfl]
  have C2 := Lib.hid c2
  have HXY := Lib.hid (show X.length + Y.size ≤ 1000000000 by omega)
  clear h c2 hfl hfs hl hn hs hX
  go_enter Tryd.func23, Tryd.ntmps23
  go_wp2_with fail
  refine C1.out.mono ?_
  rintro e w1 ⟨rfl, h1, hb1⟩
  have H1 := Lib.hid h1
  have HB1 := Lib.hid hb1
  clear h1 hb1
  go_wp2_with fail
  refine (C2.out _ H1.out).mono ?_
  rintro e w2 ⟨rfl, h2, hb2⟩
  have H2 := Lib.hid h2
  have HB2 := Lib.hid (HB1.out.trans hb2)
  clear hb2
  obtain ⟨A, c, _, ho, k0, k1, f0, f1⟩ := h2.cells
  have HO := Lib.hid ho
  have HR2 := Lib.hid h2.size
  obtain ⟨N, hN⟩ : ∃ N, X.length = N := ⟨_, rfl⟩
  rw [hN] at k1 HO
  clear ho h2 hN
  go_wp2_with (at_builtin; refine wpList_append_text rfl _ _ 38 9 rfl (R + 1) 5 Tryd.underlying38 Tryd.underlying9 (by kernel_rfl) _ rfl X HO.out Y rfl HXY.out HR2.out w2 (Below.refl _ _) ?_)
  intro v3 w3 ho3 hb3 _
  have H3 := Lib.hid (H2.out.body hb3 ho3.out)
  obtain ⟨A3, c3, rfl, _⟩ := ho3.out.sl8
  have d1 : w3.cell? ⟨R, 1, none⟩ = some (.slice A N c) := (World.cell?_of_block (w := w2) (hb3.block _ (by simp only; omega))).trans k1
  have e1 : w3.frozen? ⟨R, 1, none⟩ = false := (hb3.frozen (p := ⟨R, 1, none⟩) (by simp only; omega)).trans f1
  have HB3 := Lib.hid (HB2.out.trans (hb3.mono (Nat.le_succ R)))
  obtain ⟨N3, hN3⟩ : ∃ k, (X ++ Y.data.toList).length = k := ⟨_, rfl⟩
  rw [hN3] at H3 ⊢
  clear hb3 ho3 k0 f0 hN3
  go_wp2_with fail
  go_ret
  exact ⟨rfl, H3.out, HB3.out.setCell (p := ⟨R, 1, none⟩) (Nat.le_refl _) _⟩

set_option maxHeartbeats 4000000 in
set_option maxRecDepth 100000 in
/-- A chunk that is not whole. -/
theorem data_bad (w : World) (R : Nat) (s : ByteArray) (X : List UInt8) (h : Rdr w R s X) (hs : s.size ≤ 1000000) (n : Nat)
    (hb : s.size < n ∨ n ≤ s.size ∧ (lineL (s.data.toList.drop n) = none ∨ ∃ ln r, lineL (s.data.toList.drop n) = some (ln, r) ∧ ln ≠ [])) :
    Calls Tryd.prog 23 #[.pointer (some ⟨R, 0, none⟩), .int .i64 n] w fun e w' => e = .returned (.int .i64 25) ∧ Below R w w' := by
  rcases hb with hn | ⟨hn, hl⟩
  · have C1 := Lib.hid (bytes_miss w R s X h n hn)
    cases hl : lineL s.data.toList with
    | none =>
      have C2 := Lib.hid (fun W (k : Rdr W R s X) => line_miss W R s X k (by omega) hl)
      clear h hl hn hs
      go_enter Tryd.func23, Tryd.ntmps23
      go_wp2_with fail
      refine C1.out.mono ?_
      rintro e w1 ⟨rfl, h1, hb1⟩
      have H1 := Lib.hid h1
      have HB1 := Lib.hid hb1
      clear h1 hb1
      go_wp2_with fail
      refine (C2.out _ H1.out).mono ?_
      rintro e w2 ⟨rfl, _, hb2⟩
      have HB2 := Lib.hid (HB1.out.trans hb2)
      clear hb2
      go_wp2_with fail
      go_ret
      exact ⟨rfl, HB2.out⟩
    | some p =>
      obtain ⟨ln, r⟩ := p
      have C2 := Lib.hid (fun W (k : Rdr W R s X) => line_hit W R s X k (by omega) ln r hl)
      clear h hl hn hs
      go_enter Tryd.func23, Tryd.ntmps23
      go_wp2_with fail
      refine C1.out.mono ?_
      rintro e w1 ⟨rfl, h1, hb1⟩
      have H1 := Lib.hid h1
      have HB1 := Lib.hid hb1
      clear h1 hb1
      go_wp2_with fail
      refine (C2.out _ H1.out).mono ?_
      rintro e w2 ⟨rfl, _, hb2⟩
      have HB2 := Lib.hid (HB1.out.trans hb2)
      clear hb2
      go_wp2_with fail
      go_ret
      exact ⟨rfl, HB2.out⟩
  · have C1 := Lib.hid (bytes_hit w R s X h n hn)
    rcases hl with hl | ⟨ln, r, hl, hne⟩
    · have C2 := Lib.hid (fun W (k : Rdr W R (s.extract n s.size) X) => line_miss W R (s.extract n s.size) X k (by rw [ByteArray.size_extract]; omega) (by rw [rest_list]; exact hl))
      clear h hl hn hs
      generalize s.extract 0 n = Y at *
      generalize s.extract n s.size = Z at *
      go_enter Tryd.func23, Tryd.ntmps23
      go_wp2_with fail
      refine C1.out.mono ?_
      rintro e w1 ⟨rfl, h1, hb1⟩
      have H1 := Lib.hid h1
      have HB1 := Lib.hid hb1
      clear h1 hb1
      go_wp2_with fail
      refine (C2.out _ H1.out).mono ?_
      rintro e w2 ⟨rfl, _, hb2⟩
      have HB2 := Lib.hid (HB1.out.trans hb2)
      clear hb2
      go_wp2_with fail
      go_ret
      exact ⟨rfl, HB2.out⟩
    · have C2 := Lib.hid (fun W (k : Rdr W R (s.extract n s.size) X) => line_hit W R (s.extract n s.size) X k (by rw [ByteArray.size_extract]; omega) ln r (by rw [rest_list]; exact hl))
      obtain ⟨n1, n2⟩ := mkS_ne hne
      clear h hl hn hs hne
      generalize s.extract 0 n = Y at *
      generalize s.extract n s.size = Z at *
      generalize mkS ln = LN at *
      go_enter Tryd.func23, Tryd.ntmps23
      go_wp2_with fail
      refine C1.out.mono ?_
      rintro e w1 ⟨rfl, h1, hb1⟩
      have H1 := Lib.hid h1
      have HB1 := Lib.hid hb1
      clear h1 hb1
      go_wp2_with fail
      refine (C2.out _ H1.out).mono ?_
      rintro e w2 ⟨rfl, _, hb2⟩
      have HB2 := Lib.hid (HB1.out.trans hb2)
      clear hb2
      go_wp2_with fail
      go_ret
      exact ⟨rfl, HB2.out⟩

end Go.Proofs.YtbbppkonjaijhaaDoor
end

/-
  Contract of package chunk's trailer.
-/
section
namespace Go.Proofs.YtbbppkonjaijhaaDoor
open Go.RowKit

/-- What the trailer's reader leaves. -/
def TrlP (w : World) (R : Nat) (X : List UInt8) (T : Int × List UInt8) (e : Ending) (w' : World) : Prop := e = .returned (.int .i64 T.1) ∧ (T.1 = 0 → Rdr w' R (mkS T.2) X) ∧ Below R w w'
theorem TrlP.bad {w w' : World} {R : Nat} {X : List UInt8} {T : Int × List UInt8} {c : Int} {l : List UInt8} (h : T = (c, l)) (hc : c ≠ 0) (hb : Below R w w') : TrlP w R X T (.returned (.int .i64 c)) w' := by
  subst h
  exact ⟨rfl, fun e => absurd e hc, hb⟩
theorem TrlP.good {w w' : World} {R : Nat} {X : List UInt8} {T : Int × List UInt8} {l : List UInt8} (h : T = (0, l)) (hr : Rdr w' R (mkS l) X) (hb : Below R w w') : TrlP w R X T (.returned (.int .i64 0)) w' := by
  subst h
  exact ⟨rfl, fun _ => hr, hb⟩

set_option maxHeartbeats 8000000 in
set_option maxRecDepth 100000 in
theorem trailer_any (w : World) (R : Nat) (s : ByteArray) (X : List UInt8) (h : Rdr w R s X) (hs : s.size ≤ 1000000) (F0 : Nat) (hF0 : s.size + 1 ≤ F0) :
    Calls Tryd.prog 13 #[.pointer (some ⟨R, 0, none⟩)] w (TrlP w R X (trl F0 0 s.data.toList)) := by
  have hmm : (1000000 : Nat) ≤ maxLen := by decide
  obtain ⟨T, hT⟩ : ∃ T, T = trl F0 0 s.data.toList := ⟨_, rfl⟩
  rw [← hT]
  have HT := Lib.hid hT
  have H0 := Lib.hid h
  clear hT h
  go_enter Tryd.func13, Tryd.ntmps13
  go_wp2_with fail
  go_loopw [3] (fun i wr => ∃ (k F : Nat) (t : ByteArray), k ≤ 64 ∧ i = .int .i64 ((k : Int) + 1) ∧ t.size ≤ 1000000 ∧ t.size + 1 ≤ F ∧ Hid (T = trl F k t.data.toList) ∧ Rdr wr R t X ∧ Below R w wr) (fun i _ => 66 - (intOf i).toNat)
  case atStart => exact ⟨0, F0, s, Nat.zero_le _, by go_num, hs, hF0, HT.out, H0.out, Below.refl _ _⟩
  case round =>
    clear HT H0
    obtain ⟨k, F, t, hk, rfl, ht, hF, hf, hr, hb⟩ := hrel
    obtain ⟨F', rfl⟩ : ∃ F', F = F' + 1 := ⟨F - 1, by omega⟩
    have HR := Lib.hid hr
    have HB := Lib.hid hb
    clear hr hb
    cases hln : lineL t.data.toList with
    | none =>
      have HE := Lib.hid (show T = (25, t.data.toList) by rw [hf.out, trl, hln])
      have C1 := Lib.hid (line_miss wr R t X HR.out (by omega) hln)
      have c2 := fun W => parse_any ⟨#[]⟩ W (by decide)
      obtain ⟨⟨p1, p2⟩, hp⟩ : ∃ p, p = flF ⟨#[]⟩ := ⟨_, rfl⟩
      rw [← hp] at c2
      have C2 := Lib.hid c2
      clear hf hln c2 hp hF ht
      go_wp2_with fail
      refine C1.out.mono ?_
      rintro e w1 ⟨rfl, h1, hb1⟩
      have HB1 := Lib.hid (HB.out.trans hb1)
      have HL1 := Lib.hid h1.size
      clear h1 hb1
      go_wp2_with fail
      refine (C2.out _).mono ?_
      rintro e w2 ⟨rfl, hb2⟩
      have HB2 := Lib.hid (HB1.out.trans (hb2.mono (Nat.le_of_lt HL1.out)))
      have HL2 := Lib.hid (Nat.lt_of_lt_of_le HL1.out hb2.size)
      clear hb2
      rw [show fdV (p1, p2) = .agg #[.string p1, .string p2] from rfl]
      go_wp2_with fail
      go_ret
      exact TrlP.bad HE.out (by decide) (HB2.out.alloc (Nat.le_of_lt HL2.out) _)
    | some p =>
      obtain ⟨ln, r⟩ := p
      have hrl : r.length + 2 ≤ t.size := by
        have := congrArg List.length (lineL_form hln)
        rw [← Lib.size_eq, List.length_append, List.length_cons, List.length_cons] at this
        omega
      have hls : (mkS ln).size ≤ maxLen := by
        have := congrArg List.length (lineL_form hln)
        rw [← Lib.size_eq, List.length_append] at this
        rw [mkS_size]; omega
      have hrs : (mkS r).size = r.length := mkS_size r
      have hf2 : T = if ln = [] then (0, r) else if flX (mkS ln) ≠ 0 then (25, t.data.toList) else if 64 ≤ k then (4, t.data.toList) else trl F' (k + 1) r := by rw [hf.out, trl, hln]
      have c1 := fun (_ : Unit) => line_hit wr R t X HR.out (by omega) ln r hln
      have hrl2 : (mkS r).data.toList = r := mkS_list r
      clear hf hln
      by_cases hnil : ln = []
      · subst hnil
        rw [if_pos rfl] at hf2
        rw [show mkS [] = ⟨#[]⟩ from rfl] at c1
        have HE := Lib.hid hf2
        have C1 := Lib.hid (c1 ())
        clear hf2 c1 hrl2 hrs hrl hls hF ht
        go_wp2_with fail
        refine C1.out.mono ?_
        rintro e w1 ⟨rfl, h1, hb1⟩
        have H1 := Lib.hid h1
        have HB1 := Lib.hid (HB.out.trans hb1)
        clear h1 hb1
        go_wp2_with fail
        go_ret
        exact TrlP.good HE.out H1.out HB1.out
      · rw [if_neg hnil] at hf2
        obtain ⟨n1, n2⟩ := mkS_ne hnil
        have c2 := fun W => parse_any (mkS ln) W hls
        obtain ⟨⟨p1, p2⟩, hp⟩ : ∃ p, p = flF (mkS ln) := ⟨_, rfl⟩
        rw [← hp] at c2
        clear hp hls hnil
        generalize flX (mkS ln) = fx at *
        generalize mkS ln = LN at *
        have C1 := Lib.hid (c1 ())
        have C2 := Lib.hid c2
        clear c1 c2
        by_cases hx : fx = 0
        · subst hx
          rw [if_neg (by simp)] at hf2
          by_cases h64 : 64 ≤ k
          · rw [if_pos h64] at hf2
            have HE := Lib.hid hf2
            have hk64 : (64 : Int) < (k : Int) + 1 := by omega
            clear hf2 hrl2 hrs hrl hF ht h64 hk
            go_wp2_with fail
            refine C1.out.mono ?_
            rintro e w1 ⟨rfl, h1, hb1⟩
            have HB1 := Lib.hid (HB.out.trans hb1)
            have HL1 := Lib.hid h1.size
            clear h1 hb1
            go_wp2_with fail
            refine (C2.out _).mono ?_
            rintro e w2 ⟨rfl, hb2⟩
            have HB2 := Lib.hid (HB1.out.trans (hb2.mono (Nat.le_of_lt HL1.out)))
            have HL2 := Lib.hid (Nat.lt_of_lt_of_le HL1.out hb2.size)
            clear hb2
            rw [show fdV (p1, p2) = .agg #[.string p1, .string p2] from rfl]
            go_wp2_with fail
            go_ret
            exact TrlP.bad HE.out (by decide) (HB2.out.alloc (Nat.le_of_lt HL2.out) _)
          · rw [if_neg h64] at hf2
            have HE := Lib.hid hf2
            have hk64 : ¬ (64 : Int) < (k : Int) + 1 := by omega
            have hF2 : (mkS r).size + 1 ≤ F' := by omega
            have ht2 : (mkS r).size ≤ 1000000 := by omega
            have HRL := Lib.hid hrl2
            clear hf2 hrl2 hrs hrl hF ht h64
            go_wp2_with fail
            refine C1.out.mono ?_
            rintro e w1 ⟨rfl, h1, hb1⟩
            have H1 := Lib.hid h1
            have HB1 := Lib.hid (HB.out.trans hb1)
            have HL1 := Lib.hid h1.size
            clear h1 hb1
            go_wp2_with fail
            refine (C2.out _).mono ?_
            rintro e w2 ⟨rfl, hb2⟩
            have HB2 := Lib.hid (HB1.out.trans (hb2.mono (Nat.le_of_lt HL1.out)))
            have HL2 := Lib.hid (Nat.lt_of_lt_of_le HL1.out hb2.size)
            have H2 := Lib.hid (H1.out.below hb2)
            clear hb2
            rw [show fdV (p1, p2) = .agg #[.string p1, .string p2] from rfl]
            go_wp2_with fail
            go_roundw
            case rel => exact ⟨k + 1, F', mkS r, by omega, by go_num, ht2, hF2, by show _ = _; rw [HE.out, HRL.out], H2.out.below ((Below.refl _ _).alloc (Nat.le_refl _) _), HB2.out.alloc (Nat.le_of_lt HL2.out) _⟩
            case measure => simp [intOf]; omega
        · have hxb : (fx != 0) = true := by simpa using hx
          have hxe : ¬ fx = 0 := hx
          rw [if_pos hx] at hf2
          have HE := Lib.hid hf2
          clear hf2 hrl2 hrs hrl hF ht hx
          go_wp2_with fail
          refine C1.out.mono ?_
          rintro e w1 ⟨rfl, h1, hb1⟩
          have HB1 := Lib.hid (HB.out.trans hb1)
          have HL1 := Lib.hid h1.size
          clear h1 hb1
          go_wp2_with fail
          refine (C2.out _).mono ?_
          rintro e w2 ⟨rfl, hb2⟩
          have HB2 := Lib.hid (HB1.out.trans (hb2.mono (Nat.le_of_lt HL1.out)))
          have HL2 := Lib.hid (Nat.lt_of_lt_of_le HL1.out hb2.size)
          clear hb2
          rw [show fdV (p1, p2) = .agg #[.string p1, .string p2] from rfl]
          go_wp2_with fail
          go_ret
          exact TrlP.bad HE.out (by decide) (HB2.out.alloc (Nat.le_of_lt HL2.out) _)

end Go.Proofs.YtbbppkonjaijhaaDoor
end

/-
  Contract of package chunk's chunks: the reading of all chunks, the next one by goto.
-/
section
namespace Go.Proofs.YtbbppkonjaijhaaDoor
open Go.RowKit

/-- What the chunks' reader leaves. -/
def ChkP (w : World) (R : Nat) (D : Int × List UInt8 × List UInt8) (e : Ending) (w' : World) : Prop :=
  Below R w w' ∧ ((∃ c y, c ≠ 0 ∧ e = .returned (.int .i64 c) ∧ D = (c, [], y)) ∨ (e = .returned (.int .i64 0) ∧ ∃ t X, t.size ≤ 1000000 ∧ X.length ≤ 65536 ∧ Rdr w' R t X ∧ D = lastD X t.data.toList))

def leftSz (w : World) (R : Nat) : Nat := match w.cell? ⟨R, 0, none⟩ with | some (.string t) => t.size | _ => 0
theorem Rdr.leftSz {w : World} {R : Nat} {s : ByteArray} {X : List UInt8} (h : Rdr w R s X) : leftSz w R = s.size := by
  obtain ⟨A, c, _, _, h0, _⟩ := h.cells
  unfold Go.Proofs.YtbbppkonjaijhaaDoor.leftSz
  rw [h0]

/-- What holds at the label. -/
def AtNext (w : World) (R : Nat) (D : Int × List UInt8 × List UInt8) (w' : World) : Prop :=
  ∃ (F : Nat) (t : ByteArray) (X : List UInt8), t.size ≤ 1000000 ∧ t.size + 1 ≤ F ∧ X.length ≤ 65536 ∧ D = dcd F X t.data.toList ∧ Rdr w' R t X ∧ Below R w w'

set_option maxHeartbeats 8000000 in
set_option maxRecDepth 1000000 in
theorem chunks_any (w : World) (R : Nat) (s : ByteArray) (h : Rdr w R s []) (hs : s.size ≤ 1000000) :
    Calls Tryd.prog 12 #[.pointer (some ⟨R, 0, none⟩)] w (ChkP w R (dcd (s.size + 1) [] s.data.toList)) := by
  obtain ⟨D, hD⟩ : ∃ D, D = dcd (s.size + 1) [] s.data.toList := ⟨_, rfl⟩
  rw [← hD]
  have HJ := Lib.hid (show AtNext w R D w from ⟨s.size + 1, s, [], hs, Nat.le_refl _, by simp, hD, h, Below.refl _ _⟩)
  clear hD h hs
  go_enter Tryd.func12, Tryd.ntmps12
  go_wp2
  refine wp_scope_from 0 (fun a' w' => AtNext w R D w' ∧ ∃ u1 u3 u4 u5 u6 u7 u8 u9 u10 u11 u12 u13 u14 u15 u16 u17 u18 u19 u20 u21 u22 : Value, a' = { tmps := #[.pointer (some ⟨R, 0, none⟩), u1, .int .i64 0, u3, u4, u5, u6, u7, u8, u9, u10, u11, u12, u13, u14, u15, u16, u17, u18, u19, u20, u21, u22], defers := [] }) (fun _ w' => leftSz w' R) rfl ?_ ?_
  · intro hp
    go_wp2
    go_step3
    rename_i hK
    exact hK _ _ (hp _ _ ⟨HJ.out, _, _, _, _, _, _, _, _, _, _, _, _, _, _, _, _, _, _, _, _, _, rfl⟩)
  · rintro a' w' ⟨⟨F, t, X, ht, hF, hX, hD, hr, hb⟩, u1, u3, u4, u5, u6, u7, u8, u9, u10, u11, u12, u13, u14, u15, u16, u17, u18, u19, u20, u21, u22, rfl⟩
    obtain ⟨F', rfl⟩ : ∃ F', F = F' + 1 := ⟨F - 1, by omega⟩
    have HR := Lib.hid hr
    have HB := Lib.hid hb
    clear hr hb HJ
    cases hln : lineL t.data.toList with
    | none =>
      have HE := Lib.hid (show D = (25, [], t.data.toList) by rw [hD, dcd, hln])
      have C1 := Lib.hid (size_miss w' R t X HR.out (by omega) hln)
      clear hD hln ht hF hX
      go_wp2_with fail
      refine C1.out.mono ?_
      rintro e w1 ⟨rfl, _, hb1⟩
      have HB1 := Lib.hid (HB.out.trans hb1)
      clear hb1
      go_wp2_with fail
      simp only [Exit.jump]
      go_ret
      exact ⟨HB1.out, .inl ⟨25, _, by decide, rfl, HE.out⟩⟩
    | some p =>
      obtain ⟨ln, r⟩ := p
      have hrl : r.length + 2 ≤ t.size := by
        have := congrArg List.length (lineL_form hln)
        rw [← Lib.size_eq, List.length_append, List.length_cons, List.length_cons] at this
        omega
      have c1 := size_hit w' R t X HR.out (by omega) hX ln r hln
      have hrs : (mkS r).size = r.length := mkS_size r
      have hrm : (mkS r).data.toList = r := mkS_list r
      rcases round_cases F' hln hX with ⟨c, q1, q2, q3⟩ | ⟨q1, q3⟩ | ⟨n, q1, q2, q4, q5, q3⟩ | ⟨n, q1, q2, q4, q5, q6, q3⟩
      · rw [q1] at c1
        have HE := Lib.hid (hD.trans q3)
        have C1 := Lib.hid c1
        have e1 : (c != 0) = true := by simpa using q2
        clear c1 q1 q3 hD hln hrs hrm hrl ht hF hX
        have HQ := Lib.hid q2
        go_wp2_with fail
        refine C1.out.mono ?_
        rintro e w1 ⟨rfl, _, hb1⟩
        have HB1 := Lib.hid (HB.out.trans hb1)
        clear hb1
        go_wp2_with fail
        simp only [Exit.jump]
        go_ret
        exact ⟨HB1.out, .inl ⟨c, _, HQ.out, rfl, HE.out⟩⟩
      · rw [q1] at c1
        have HE := Lib.hid (hD.trans q3)
        have C1 := Lib.hid c1
        have HRM := Lib.hid hrm
        have hts : (mkS r).size ≤ 1000000 := by omega
        have HTS := Lib.hid hts
        have HX := Lib.hid hX
        clear c1 q1 q3 hD hln hrs hrm hrl ht hF hX hts
        go_wp2_with fail
        refine C1.out.mono ?_
        rintro e w1 ⟨rfl, h1, hb1⟩
        have H1 := Lib.hid h1
        have HB1 := Lib.hid (HB.out.trans hb1)
        clear h1 hb1
        go_wp2_with fail
        simp only [Exit.jump]
        go_ret
        exact ⟨HB1.out, .inr ⟨rfl, mkS r, X, HTS.out, HX.out, H1.out, by rw [HRM.out]; exact HE.out⟩⟩
      · rw [q1] at c1
        have HE := Lib.hid (hD.trans q3)
        have C1 := Lib.hid c1
        have C2 := Lib.hid (fun W (k : Rdr W R (mkS r) X) => data_bad W R (mkS r) X k (by omega) n (by rw [hrs, hrm]; exact q5))
        have e1 : ((n : Int) == 0) = false := by rw [beq_eq_false_iff_ne]; omega
        clear c1 q1 q2 q3 q4 q5 hD hln hrs hrm hrl ht hF hX
        go_wp2_with fail
        refine C1.out.mono ?_
        rintro e w1 ⟨rfl, h1, hb1⟩
        have H1 := Lib.hid h1
        have HB1 := Lib.hid (HB.out.trans hb1)
        clear h1 hb1
        go_wp2_with fail
        refine (C2.out _ H1.out).mono ?_
        rintro e w2 ⟨rfl, hb2⟩
        have HB2 := Lib.hid (HB1.out.trans hb2)
        clear hb2
        go_wp2_with fail
        simp only [Exit.jump]
        go_ret
        exact ⟨HB2.out, .inl ⟨25, _, by decide, rfl, HE.out⟩⟩
      · rw [q1] at c1
        have HE := Lib.hid (hD.trans q3)
        have C1 := Lib.hid c1
        have C2 := Lib.hid (fun W (k : Rdr W R (mkS r) X) => data_ok W R (mkS r) X k (by omega) hX n (by omega) (r.drop (n + 2)) (by rw [hrm]; exact q6))
        have e1 : ((n : Int) == 0) = false := by rw [beq_eq_false_iff_ne]; omega
        have hds : (mkS (r.drop (n + 2))).size + 2 ≤ t.size := by rw [mkS_size, List.length_drop]; omega
        have HN := Lib.hid (show AtNext w R D = fun W => ∃ (F : Nat) (t : ByteArray) (X : List UInt8), t.size ≤ 1000000 ∧ t.size + 1 ≤ F ∧ X.length ≤ 65536 ∧ D = dcd F X t.data.toList ∧ Rdr W R t X ∧ Below R w W from rfl)
        have hxl : (X ++ r.take n).length ≤ 65536 := by rw [List.length_append, List.length_take]; omega
        have HFIN := Lib.hid (fun W (k : Rdr W R (mkS (r.drop (n + 2))) (X ++ r.take n)) (b : Below R w W) => (show AtNext w R D W ∧ leftSz W R < leftSz w' R from
          ⟨⟨F', mkS (r.drop (n + 2)), X ++ r.take n, by omega, by omega, hxl, by rw [mkS_list]; exact HE.out, k, b⟩, by rw [k.leftSz, HR.out.leftSz]; omega⟩))
        rw [hrm] at C2
        clear c1 q1 q2 q3 q4 q5 q6 hD hln hrs hrm hrl ht hF hX hds hxl HN HE
        go_wp2_with fail
        refine C1.out.mono ?_
        rintro e w1 ⟨rfl, h1, hb1⟩
        have H1 := Lib.hid h1
        have HB1 := Lib.hid (HB.out.trans hb1)
        clear h1 hb1
        go_wp2_with fail
        refine (C2.out _ H1.out).mono ?_
        rintro e w2 ⟨rfl, h2, hb2⟩
        have HF := Lib.hid (HFIN.out w2 h2 (HB1.out.trans hb2))
        clear h2 hb2 HFIN
        go_wp2_with fail
        go_step3
        exact ⟨rfl, ⟨HF.out.1, _, _, _, _, _, _, _, _, _, _, _, _, _, _, _, _, _, _, _, _, _, rfl⟩, HF.out.2⟩

end Go.Proofs.YtbbppkonjaijhaaDoor
end

/-
  Contract of package chunk's Decode.
-/
section
namespace Go.Proofs.YtbbppkonjaijhaaDoor
open Go.RowKit

/-- What package chunk reads of the library's variables. -/
structure ChkTabs (w : World) : Prop where
  br : TabBr w
  mx : ∃ m, w.cell? ⟨1, 0, none⟩ = some (.int .i64 m)
theorem ChkTabs.kept {w w' : World} (h : ChkTabs w) (hb : Below w.heap.size w w') : ChkTabs w' :=
  ⟨cell_kept hb h.br, by obtain ⟨m, hm⟩ := h.mx; exact ⟨m, cell_kept hb hm⟩⟩

set_option maxHeartbeats 4000000 in
set_option maxRecDepth 100000 in
theorem decode_any (s : ByteArray) (w : World) (hs : s.size ≤ 1000000) (HT : ChkTabs w) :
    Calls Tryd.prog 8 #[.string s] w fun e w' => e = .returned (.tuple #[.string (decB s), .int .i64 (decN s), .int .i64 (decE s)]) ∧ Below w.heap.size w w' := by
  have c1 := chunks_any _ _ s (Rdr.made HT.mx s) hs
  have hbad := fun (c : Int) (x y : List UInt8) (h : decD s = (c, x, y)) (hc : c ≠ 0) => dec_bad h hc
  have hok := fun (x y : List UInt8) (h : decD s = (0, x, y)) => dec_ok h
  rw [show dcd (s.size + 1) [] s.data.toList = decD s from rfl] at c1
  generalize decD s = D at *
  generalize decB s = DB at *
  generalize decN s = DN at *
  generalize decE s = DE at *
  have C1 := Lib.hid c1
  have HBAD := Lib.hid hbad
  have HOK := Lib.hid hok
  clear c1 hbad hok HT
  go_enter Tryd.func8, Tryd.ntmps8
  go_wp2_with fail
  refine C1.out.mono ?_
  rintro e w1 ⟨hb1, h1⟩
  have HB1 := Lib.hid (((Below.refl _ _).alloc (Nat.le_refl _) _).trans hb1)
  clear hb1
  rcases h1 with ⟨c, y, hc, rfl, hD⟩ | ⟨rfl, t, X, ht, hX, hr, hD⟩
  · have HR := Lib.hid (HBAD.out c [] y hD hc)
    have e1 : (c != 0) = true := by simpa using hc
    clear hc hD
    go_wp2_with fail
    go_ret3
    exact ⟨by rw [HR.out.1, HR.out.2.1, HR.out.2.2]; rfl, HB1.out⟩
  · have c2 := trailer_any w1 _ t X hr ht (t.size + 1) (Nat.le_refl _)
    unfold lastD at hD
    rw [← Lib.size_eq] at hD
    have htl := trl_le (t.size + 1) 0 t.data.toList
    rw [← Lib.size_eq] at htl
    generalize trl (t.size + 1) 0 t.data.toList = T at *
    have C2 := Lib.hid c2
    have HTL := Lib.hid htl
    have HDD := Lib.hid hD
    have HR1 := Lib.hid hr
    clear c2 hD hr hX htl
    go_wp2_with fail
    refine C2.out.mono ?_
    rintro e w2 ⟨rfl, h2, hb2⟩
    have HB2 := Lib.hid (HB1.out.trans hb2)
    clear hb2
    obtain ⟨c, Z⟩ := T
    by_cases hc : c = 0
    · subst hc
      have hr2 := h2 rfl
      have HR := Lib.hid (HOK.out X Z (by rw [HDD.out]; rfl))
      have htl2 : Z.length ≤ t.size := HTL.out
      have hz : (mkS Z).size = Z.length := mkS_size Z
      clear h2
      generalize mkS Z = ZS at *
      generalize Z.length = N at *
      subst hz
      obtain ⟨A, k, hs8, _, k0, k1, _, _⟩ := hr2.cells
      obtain ⟨M, hM⟩ : ∃ M, X.length = M := ⟨_, rfl⟩
      rw [hM] at hs8 k1
      have kc := fun n : Nat => run_str Tryd.prog (w2.drewN n) 38 5 Tryd.underlying38 Tryd.underlying5 (hs8.below (below_drawn (Below.refl _ _) n)) 9 Tryd.underlying9
      have hwr : IntKind.i64.wrap ((s.size : Int) - (ZS.size : Int)) = (s.size : Int) - (ZS.size : Int) := Go.IntWalk.i64_in _ (by omega)
      generalize mkS X = XS at *
      clear hM hs8 hr2 hs htl2 ht HTL
      go_wp2_with fail
      go_quiet (fail)
      go_wp2_with fail
      go_ret3
      exact ⟨by rw [HR.out.1, HR.out.2.1, HR.out.2.2]; rfl, below_drawn HB2.out _⟩
    · have HR := Lib.hid (HBAD.out c [] Z (by rw [HDD.out]; simp [hc]) hc)
      have e1 : (c != 0) = true := by simpa using hc
      clear hc h2
      go_wp2_with fail
      go_ret3
      exact ⟨by rw [HR.out.1, HR.out.2.1, HR.out.2.2]; rfl, HB2.out⟩

end Go.Proofs.YtbbppkonjaijhaaDoor
end

/-
  Contract of package chunk's Encode.
-/
section
namespace Go.Proofs.YtbbppkonjaijhaaDoor
open Go.RowKit

def strLn : Value → Nat | .string t => t.size | _ => 0
theorem crlf_back (a : ByteArray) : (a ++ (⟨#[13, 10]⟩ : ByteArray)).data.toList = a.data.toList ++ [13, 10] := by rw [append_list]
theorem crlf_long (a : ByteArray) : (a ++ (⟨#[13, 10]⟩ : ByteArray)).size = a.size + 2 := by rw [ByteArray.size_append]; rfl

set_option maxHeartbeats 16000000 in
set_option maxRecDepth 100000 in
theorem encode_any (s : ByteArray) (z : Int) (w : World) (HT0 : ChkTabs w) :
    Calls Tryd.prog 10 #[.string s, .int .i64 z] w fun e w' => e = .returned (.tuple #[.string (encS s z), .int .i64 (encF s z)]) ∧ Below w.heap.size w w' := by
  have hmm : (1000000000 : Nat) ≤ maxLen := by decide
  have HT := Lib.hid HT0
  clear HT0
  by_cases hz : z < 1 ∨ 65536 < z
  · have HR := Lib.hid (enc_arg (s := s) hz)
    by_cases h1 : z < 1
    · clear hz
      go_enter Tryd.func10, Tryd.ntmps10
      go_wp2_with fail
      go_ret2
      exact ⟨by rw [HR.out.1, HR.out.2]; rfl, Below.refl _ _⟩
    · have h2 : 65536 < z := by omega
      clear hz
      go_enter Tryd.func10, Tryd.ntmps10
      go_wp2_with fail
      go_ret2
      exact ⟨by rw [HR.out.1, HR.out.2]; rfl, Below.refl _ _⟩
  · have h1 : ¬ z < 1 := by omega
    have h2 : ¬ 65536 < z := by omega
    by_cases hl : 65536 < s.size
    · have HR := Lib.hid (enc_long (s := s) hz hl)
      have hl' : (65536 : Int) < (s.size : Int) := by omega
      clear hz hl
      go_enter Tryd.func10, Tryd.ntmps10
      go_wp2_with fail
      go_ret2
      exact ⟨by rw [HR.out.1, HR.out.2]; rfl, Below.refl _ _⟩
    · have HR := Lib.hid (enc_fine (s := s) hz hl)
      have hl' : ¬ (65536 : Int) < (s.size : Int) := by omega
      have hl2 : s.size ≤ 65536 := by omega
      clear hz hl
      obtain ⟨q, rfl⟩ : ∃ q : Nat, z = q := ⟨z.toNat, by omega⟩
      have hq1 : 1 ≤ q := by omega
      rw [show ((q : Int)).toNat = q by omega] at HR
      generalize hG : encG (s.size + 1) q s.data.toList = G at *
      have HG := Lib.hid hG
      clear hG
      have HM := Lib.hid (Bld.made w)
      go_enter Tryd.func10, Tryd.ntmps10
      go_wp2_with fail
      go_loopw [7, 8] (fun a _ wr => ∃ (o : List UInt8) (x : ByteArray) (F : Nat), a = .string x ∧ x.size + 1 ≤ F ∧ x.size ≤ 65536 ∧ o.length + 30 * x.size ≤ 2000000 ∧ Hid (G = o ++ encG F q x.data.toList) ∧ Bld wr w.heap.size o ∧ Below w.heap.size w wr) (fun a _ _ => strLn a)
      case atStart => exact ⟨[], s, s.size + 1, rfl, by omega, hl2, by show 0 + 30 * s.size ≤ _; omega, by rw [HG.out]; rfl, HM.out, (Below.refl _ _).alloc (Nat.le_refl _) _⟩
      case round =>
        clear HM HG
        obtain ⟨o, x, F, rfl, hF, hx, ho, hf, hbd, hbel⟩ := hrel
        obtain ⟨F', rfl⟩ : ∃ F', F = F' + 1 := ⟨F - 1, by omega⟩
        have HB := Lib.hid hbel
        have HK := Lib.hid hbd
        clear hbel hbd
        by_cases hx0 : x.size = 0
        · have hxn : x.data.toList = [] := List.eq_nil_of_length_eq_zero (by rw [← Lib.size_eq]; exact hx0)
          have hxe : x.toList = [] := by rw [Lib.toList_data]; exact hxn
          have HE := Lib.hid (show mkS G = mkS (o ++ [48, 13, 10] ++ [13, 10]) by rw [hf.out, hxn, encG_end]; simp)
          have ch := fun W (k : Below w.heap.size w W) => hexD_any 0 (by omega) W (HT.out.kept k).br
          rw [show mkS (hexL 0) = ⟨#[48]⟩ by rw [show hexL 0 = digs 16 0 from rfl, digs_small (by omega)]; rfl] at ch
          have CH := Lib.hid ch
          have C1 := Lib.hid (fun W => ended_any ⟨#[48]⟩ W (by decide))
          have C2 := Lib.hid (fun W (k : Bld W w.heap.size o) => write_any w.heap.size o (⟨#[48]⟩ ++ ⟨#[13, 10]⟩) W k (by show o.length + 3 ≤ _; omega))
          have C3 := Lib.hid (fun W => ended_any ⟨#[]⟩ W (by decide))
          have C4 := Lib.hid (fun W (k : Bld W w.heap.size (o ++ (⟨#[48]⟩ ++ ⟨#[13, 10]⟩ : ByteArray).data.toList)) => write_any w.heap.size _ (⟨#[]⟩ ++ ⟨#[13, 10]⟩) W k (by rw [List.length_append]; show o.length + 3 + 2 ≤ _; omega))
          have C5 := Lib.hid (fun W (k : Bld W w.heap.size (o ++ (⟨#[48]⟩ ++ ⟨#[13, 10]⟩ : ByteArray).data.toList ++ (⟨#[]⟩ ++ ⟨#[13, 10]⟩ : ByteArray).data.toList)) => Tryd.Builder_String_any w.heap.size w.heap.size _ W k.lib (Nat.le_of_lt k.size))
          have HE2 := Lib.hid (show (⟨(o ++ (⟨#[48]⟩ ++ ⟨#[13, 10]⟩ : ByteArray).data.toList ++ (⟨#[]⟩ ++ ⟨#[13, 10]⟩ : ByteArray).data.toList).toArray⟩ : ByteArray) = mkS G from HE.out.symm)
          clear hf hxn ch hx0 HE ho hF hx
          generalize o ++ (⟨#[48]⟩ ++ ⟨#[13, 10]⟩ : ByteArray).data.toList ++ (⟨#[]⟩ ++ ⟨#[13, 10]⟩ : ByteArray).data.toList = O2 at *
          generalize o ++ (⟨#[48]⟩ ++ ⟨#[13, 10]⟩ : ByteArray).data.toList = O1 at *
          generalize (⟨#[48]⟩ ++ ⟨#[13, 10]⟩ : ByteArray) = Y1 at *
          generalize (⟨#[]⟩ ++ ⟨#[13, 10]⟩ : ByteArray) = Y2 at *
          go_wp2_with fail
          refine (CH.out _ HB.out).mono ?_
          rintro e wn ⟨rfl, hb⟩
          have HK := Lib.hid (HK.out.below hb)
          have HB := Lib.hid (below_then HB.out hb)
          clear hb
          go_wp2_with fail
          refine (C1.out _).mono ?_
          rintro e wn ⟨rfl, hb⟩
          have HK := Lib.hid (HK.out.below hb)
          have HB := Lib.hid (below_then HB.out hb)
          clear hb
          go_wp2_with fail
          refine (C2.out _ HK.out).mono ?_
          rintro e wn ⟨rfl, hk, hb⟩
          have HB := Lib.hid (HB.out.trans hb)
          have HK := Lib.hid hk
          clear hk hb
          go_wp2_with fail
          refine (C3.out _).mono ?_
          rintro e wn ⟨rfl, hb⟩
          have HK := Lib.hid (HK.out.below hb)
          have HB := Lib.hid (below_then HB.out hb)
          clear hb
          go_wp2_with fail
          refine (C4.out _ HK.out).mono ?_
          rintro e wn ⟨rfl, hk, hb⟩
          have HB := Lib.hid (HB.out.trans hb)
          have HK := Lib.hid hk
          clear hk hb
          go_wp2_with fail
          refine (C5.out _ HK.out).mono ?_
          rintro e wn ⟨rfl, hb⟩
          have HB := Lib.hid (HB.out.trans hb)
          clear hb
          go_wp2_with fail
          go_ret2
          exact ⟨by rw [HR.out.1, HR.out.2, HE2.out]; rfl, HB.out⟩
        · have hne : ¬ x.toList = [] := by
            rw [Lib.toList_data]
            intro h
            have := congrArg List.length h
            rw [← Lib.size_eq] at this
            exact hx0 this
          have hnb : x.toList.isEmpty = false := by
            cases hh : x.toList with
            | nil => exact absurd hh hne
            | cons a r => rfl
          by_cases hc : x.size < q
          · have hci : (x.size : Int) < (q : Int) := by omega
            obtain ⟨s1, n1, n2, n3, s2, s3⟩ := encG_step (m := F') (x := x) (n := x.size) (by omega) hq1 (by split <;> omega)
            have hdl : (mkS (digs 16 x.size)).size ≤ 5 := by
              have hp : (65536 : Nat) < 16 ^ (4 + 1) := by decide
              rw [mkS_size]; exact digs_len 16 4 x.size (by omega) (by omega)
            have ch := fun W (k : Below w.heap.size w W) => hexD_any ((x.size : Nat) : Int) (by omega) W (HT.out.kept k).br
            have hhx : hexL ((x.size : Nat) : Int) = digs 16 x.size := by unfold hexL; rw [if_neg (by omega)]; rfl
            rw [hhx] at ch
            have eX : x.extract 0 x.size = x := by simp
            have eE : x.extract x.size x.size = ByteArray.empty := by simp
            rw [eX, eE] at s1
            rw [eX] at s2
            rw [eE] at s3
            have HN : Hid (G = (o ++ (mkS (digs 16 x.size) ++ (⟨#[13, 10]⟩ : ByteArray)).data.toList ++ (x ++ (⟨#[13, 10]⟩ : ByteArray)).data.toList) ++ encG F' q ByteArray.empty.data.toList) := by
              show _ = _
              rw [crlf_back, crlf_back, hf.out, s1, mkS_list]
              simp [List.append_assoc]
            generalize mkS (digs 16 x.size) = h at *
            have l1 : (h ++ (⟨#[13, 10]⟩ : ByteArray)).size ≤ 7 := by rw [crlf_long]; omega
            have l2 : (x ++ (⟨#[13, 10]⟩ : ByteArray)).size = x.size + 2 := by rw [crlf_long]
            have C1 := Lib.hid (fun W => ended_any h W (by omega))
            have C3 := Lib.hid (fun W => ended_any x W (by omega))
            generalize h ++ (⟨#[13, 10]⟩ : ByteArray) = H2 at *
            generalize x ++ (⟨#[13, 10]⟩ : ByteArray) = P2 at *
            have C2 := Lib.hid (fun W (k : Bld W w.heap.size o) => write_any w.heap.size o H2 W k (by omega))
            have C4 := Lib.hid (fun W (k : Bld W w.heap.size (o ++ H2.data.toList)) => write_any w.heap.size _ P2 W k (by rw [List.length_append, ← Lib.size_eq]; omega))
            have HL := Lib.hid (show (o ++ H2.data.toList ++ P2.data.toList).length + 30 * ByteArray.empty.size ≤ 2000000 by rw [List.length_append, List.length_append, ← Lib.size_eq, ← Lib.size_eq]; omega)
            have CH := Lib.hid ch
            have hmi : min (q : Int) (x.size : Int) = ((x.size : Nat) : Int) := by omega
            have hn0 : (0 : Int) ≤ ((x.size : Nat) : Int) := by omega
            have hn2 : ((x.size : Nat) : Int) ≤ (x.size : Int) := by omega
            have S3 := Lib.hid s3
            have HF2 := Lib.hid (show ByteArray.empty.size + 1 ≤ F' ∧ ByteArray.empty.size ≤ 65536 ∧ ByteArray.empty.size < x.size by omega)
            clear hf s1 ch s2 s3 hhx l1 l2 hdl hc hx0 ho hF hx n1 n2 n3
            go_wp2_with fail
            refine (CH.out _ HB.out).mono ?_
            rintro e wn ⟨rfl, hb⟩
            have HK := Lib.hid (HK.out.below hb)
            have HB := Lib.hid (below_then HB.out hb)
            clear hb
            go_wp2_with fail
            refine (C1.out _).mono ?_
            rintro e wn ⟨rfl, hb⟩
            have HK := Lib.hid (HK.out.below hb)
            have HB := Lib.hid (below_then HB.out hb)
            clear hb
            go_wp2_with fail
            refine (C2.out _ HK.out).mono ?_
            rintro e wn ⟨rfl, hk, hb⟩
            have HB := Lib.hid (HB.out.trans hb)
            have HK := Lib.hid hk
            clear hk hb
            go_wp2_with fail
            refine (C3.out _).mono ?_
            rintro e wn ⟨rfl, hb⟩
            have HK := Lib.hid (HK.out.below hb)
            have HB := Lib.hid (below_then HB.out hb)
            clear hb
            go_wp2_with fail
            refine (C4.out _ HK.out).mono ?_
            rintro e wn ⟨rfl, hk, hb⟩
            have HB := Lib.hid (HB.out.trans hb)
            have HK := Lib.hid hk
            clear hk hb
            go_wp2_with fail
            go_roundw
            case rel => exact ⟨_, _, F', rfl, HF2.out.1, HF2.out.2.1, HL.out, HN, HK.out, HB.out⟩
            case measure => exact HF2.out.2.2
          · have hci : ¬ (x.size : Int) < (q : Int) := by omega
            obtain ⟨s1, n1, n2, n3, s2, s3⟩ := encG_step (m := F') (x := x) (n := q) (by omega) hq1 (by split <;> omega)
            have hdl : (mkS (digs 16 q)).size ≤ 5 := by
              have hp : (65536 : Nat) < 16 ^ (4 + 1) := by decide
              rw [mkS_size]; exact digs_len 16 4 q (by omega) (by omega)
            have ch := fun W (k : Below w.heap.size w W) => hexD_any ((q : Nat) : Int) (by omega) W (HT.out.kept k).br
            have hhx : hexL ((q : Nat) : Int) = digs 16 q := by unfold hexL; rw [if_neg (by omega)]; rfl
            rw [hhx] at ch
            have hmq : min q x.size = q := by omega
            have HN : Hid (G = (o ++ (mkS (digs 16 q) ++ (⟨#[13, 10]⟩ : ByteArray)).data.toList ++ ((x.extract 0 q) ++ (⟨#[13, 10]⟩ : ByteArray)).data.toList) ++ encG F' q (x.extract q x.size).data.toList) := by
              show _ = _
              rw [crlf_back, crlf_back, hf.out, s1, mkS_list]
              simp [List.append_assoc]
            generalize mkS (digs 16 q) = h at *
            have l1 : (h ++ (⟨#[13, 10]⟩ : ByteArray)).size ≤ 7 := by rw [crlf_long]; omega
            have l2 : ((x.extract 0 q) ++ (⟨#[13, 10]⟩ : ByteArray)).size = q + 2 := by rw [crlf_long, s2]
            have C1 := Lib.hid (fun W => ended_any h W (by omega))
            have C3 := Lib.hid (fun W => ended_any (x.extract 0 q) W (by omega))
            generalize h ++ (⟨#[13, 10]⟩ : ByteArray) = H2 at *
            generalize (x.extract 0 q) ++ (⟨#[13, 10]⟩ : ByteArray) = P2 at *
            have C2 := Lib.hid (fun W (k : Bld W w.heap.size o) => write_any w.heap.size o H2 W k (by omega))
            have C4 := Lib.hid (fun W (k : Bld W w.heap.size (o ++ H2.data.toList)) => write_any w.heap.size _ P2 W k (by rw [List.length_append, ← Lib.size_eq]; omega))
            have HL := Lib.hid (show (o ++ H2.data.toList ++ P2.data.toList).length + 30 * (x.extract q x.size).size ≤ 2000000 by rw [List.length_append, List.length_append, ← Lib.size_eq, ← Lib.size_eq]; omega)
            have CH := Lib.hid ch
            have hmi : min (q : Int) (x.size : Int) = ((q : Nat) : Int) := by omega
            have hn0 : (0 : Int) ≤ ((q : Nat) : Int) := by omega
            have hn2 : ((q : Nat) : Int) ≤ (x.size : Int) := by omega
            have S3 := Lib.hid s3
            have HF2 := Lib.hid (show (x.extract q x.size).size + 1 ≤ F' ∧ (x.extract q x.size).size ≤ 65536 ∧ (x.extract q x.size).size < x.size by omega)
            clear hf s1 ch s2 s3 hhx l1 l2 hdl hc hx0 ho hF hx n1 n2 n3
            go_wp2_with fail
            refine (CH.out _ HB.out).mono ?_
            rintro e wn ⟨rfl, hb⟩
            have HK := Lib.hid (HK.out.below hb)
            have HB := Lib.hid (below_then HB.out hb)
            clear hb
            go_wp2_with fail
            refine (C1.out _).mono ?_
            rintro e wn ⟨rfl, hb⟩
            have HK := Lib.hid (HK.out.below hb)
            have HB := Lib.hid (below_then HB.out hb)
            clear hb
            go_wp2_with fail
            refine (C2.out _ HK.out).mono ?_
            rintro e wn ⟨rfl, hk, hb⟩
            have HB := Lib.hid (HB.out.trans hb)
            have HK := Lib.hid hk
            clear hk hb
            go_wp2_with fail
            refine (C3.out _).mono ?_
            rintro e wn ⟨rfl, hb⟩
            have HK := Lib.hid (HK.out.below hb)
            have HB := Lib.hid (below_then HB.out hb)
            clear hb
            go_wp2_with fail
            refine (C4.out _ HK.out).mono ?_
            rintro e wn ⟨rfl, hk, hb⟩
            have HB := Lib.hid (HB.out.trans hb)
            have HK := Lib.hid hk
            clear hk hb
            go_wp2_with fail
            go_roundw
            case rel => exact ⟨_, _, F', rfl, HF2.out.1, HF2.out.2.1, HL.out, HN, HK.out, HB.out⟩
            case measure => exact HF2.out.2.2

end Go.Proofs.YtbbppkonjaijhaaDoor
end
