/-
  Texts that the laws of this seat lean on, one behind the other.
-/
import Derived.Test.YtjcomlklmfeimaaGreatDoorMrgAB
import Derived.Test.YtjcomlklmfeimaaGreatDoorMrgG
import Derived.Test.YtjcomlklmfeimaaGreatDoorMrgF
import Derived.Test.YtjcomlklmfeimaaGreatDoorMrgH
import Derived.Deep.RegionHeld3
import Derived.IntWalk
import Derived.Test.YtjcomlklmfeimaaGreatDoorMrgR
import Derived.Test.YtjcomlklmfeimaaGreatDoorMrgE
import Derived.Test.YtjcomlklmfeimaaGreatDoorMrgB
import Derived.Test.YtjcomlklmfeimaaGreatDoorMrgK
import Derived.Deep.QuietTactic
import Derived.BigQuiet
import Derived.Test.YtjcomlklmfeimaaGreatDoorMrgO
import Derived.Test.YtjcomlklmfeimaaGreatDoorMrgW
import Derived.Test.YtjcomlklmfeimaaGreatDoorMrgAA
import Derived.Deep.AppendLies
import Derived.Deep.RegionLaw
import Derived.Shelf.Abstract
/-
  Contracts of package chunk's size: a chunk's line.
-/
section
namespace Go.Proofs.YtjcomlklmfeimaaGreatDoor
open Go.RowKit

theorem cutA_le (s : ByteArray) (c : Int) : (cutA s c).size ≤ s.size := by
  unfold cutA
  split
  · exact Nat.le_refl _
  · rw [ByteArray.size_extract]; omega
theorem cutZ_le (s : ByteArray) (c : Int) : (cutZ s c).size ≤ s.size := by
  unfold cutZ
  split
  · exact Nat.zero_le _
  · rw [ByteArray.size_extract]; omega

set_option maxHeartbeats 4000000 in
set_option maxRecDepth 100000 in
/-- The line of a size that ends. -/
theorem size_hit (w : World) (R : Nat) (s : ByteArray) (X : List UInt8) (h : Rdr w R s X) (hs : s.size ≤ 1000000000) (hX : X.length ≤ 65536) (ln r : List UInt8) (hl : lineL s.data.toList = some (ln, r)) :
    Calls Tryz.prog 159 #[.pointer (some ⟨R, 0, none⟩)] w fun e w' => e = .returned (.tuple #[.int .i64 (szQ X.length (mkS ln)).1, .int .i64 (szQ X.length (mkS ln)).2]) ∧ Rdr w' R (mkS r) X ∧ Below R w w' := by
  have hm : (1000000000 : Nat) ≤ maxLen := by decide
  have hln : (mkS ln).size ≤ 1000000000 := by
    have := congrArg List.length (lineL_form hl)
    rw [← Lib.size_eq, List.length_append] at this
    rw [mkS_size]; omega
  have c1 := fun (_ : Unit) => line_hit w R s X h hs ln r hl
  have c2 := fun W => cut_any (mkS ln) 59 W (by omega) (by decide) (by decide)
  have c3 := fun W => isText_any (cutZ (mkS ln) 59) W (by have := cutZ_le (mkS ln) 59; omega)
  have c4 := fun W => rtrim_any (cutA (mkS ln) 59) W (by have := cutA_le (mkS ln) 59; omega)
  have c5 := fun W => ReadHex_any (mkS (rdw (cutA (mkS ln) 59).data.toList)) (65536 - (X.length : Int)) W
  rw [mkS_list] at c5
  have hsb : szB (mkS ln) = ((numE 16 15 1152921504606846976 (rdw (cutA (mkS ln) 59).data.toList) == 0) && (!cutOk (mkS ln) 59 || allB txtB (cutZ (mkS ln) 59).data.toList)) := rfl
  rw [cut_text] at hsb
  have hsv : szV (mkS ln) = numN 16 15 1152921504606846976 (rdw (cutA (mkS ln) 59).data.toList) := rfl
  have hq1 := fun g => szQ_bad (b := X.length) (s := mkS ln) g
  have hq2 := fun g k => szQ_big (b := X.length) (s := mkS ln) g k
  have hq3 := fun g k => szQ_ok (b := X.length) (s := mkS ln) g k
  have hu := num_under (65536 - (X.length : Int)) (rdw (cutA (mkS ln) 59).data.toList)
  have hdr := fun W (k : Rdr W R (mkS r) X) => k.cells
  have hR := h.size
  generalize szQ X.length (mkS ln) = q at *
  generalize szB (mkS ln) = sb at *
  generalize szV (mkS ln) = sv at *
  generalize mkS ln = LN at *
  generalize cutA LN 59 = CA at *
  generalize cutZ LN 59 = CZ at *
  generalize cutOk LN 59 = CK at *
  generalize allB txtB CZ.data.toList = tx at *
  generalize rdw CA.data.toList = L at *
  generalize numE 16 15 1152921504606846976 L = ET at *
  generalize numN 16 15 1152921504606846976 L = NT at *
  generalize numE 16 15 (65536 - (X.length : Int)) L = EM at *
  generalize numN 16 15 (65536 - (X.length : Int)) L = NM at *
  have C1 := Lib.hid (c1 ())
  have C2 := Lib.hid c2
  have C3 := Lib.hid c3
  have C4 := Lib.hid c4
  have HSB := Lib.hid hsb
  have HSV := Lib.hid hsv
  have HQ1 := Lib.hid hq1
  have HQ2 := Lib.hid hq2
  have HQ3 := Lib.hid hq3
  have HU := Lib.hid hu
  have HDR := Lib.hid hdr
  have HW := Lib.hid (show IntKind.i64.wrap (65536 - (X.length : Int)) = 65536 - (X.length : Int) from Go.IntWalk.i64_in _ (by omega))
  clear c1 c2 c3 c4 hsb hsv hq1 hq2 hq3 hu hdr hl hs h hln hm
  obtain ⟨N, hN⟩ : ∃ N, X.length = N := ⟨_, rfl⟩
  rw [hN] at c5 HW
  have HN := Lib.hid hN
  have C5 := Lib.hid c5
  clear c5
  have fin : ∀ (W : World) (_ : Below R w W) (a b : Int), q = (a, b) → Rdr W R (mkS r) X → (Ending.returned (.tuple #[.int .i64 a, .int .i64 b]) = .returned (.tuple #[.int .i64 q.1, .int .i64 q.2]) ∧ Rdr W R (mkS r) X ∧ Below R w W) := fun W hW a b e k => ⟨by rw [e], k, hW⟩
  have FIN := Lib.hid fin
  clear fin hN hX
  go_enter Tryz.func159, Tryz.ntmps159
  go_wp2_with fail
  refine C1.out.mono ?_
  rintro e w1 ⟨rfl, h1, hb1⟩
  have H1 := Lib.hid h1
  have HB1 := Lib.hid hb1
  clear h1 hb1
  go_wp2_with fail
  refine (C2.out _).mono ?_
  rintro e w2 ⟨rfl, hb2⟩
  have HB2 := Lib.hid hb2
  clear hb2
  go_wp2_with fail
  refine (C3.out _).mono ?_
  rintro e w3 ⟨rfl, hb3⟩
  have HB3 := Lib.hid (below_then HB2.out hb3)
  clear hb3
  have HBR := Lib.hid (HB1.out.trans (HB3.out.mono (Nat.le_of_lt H1.out.size)))
  have H3 := Lib.hid (H1.out.below HB3.out)
  cases tx with
  | false =>
    have e0 := HSB.out
    rw [Bool.and_false] at e0
    have HE := Lib.hid (HQ1.out e0)
    clear e0
    go_wp2_with fail
    go_ret2
    exact FIN.out w3 HBR.out _ _ HE.out H3.out
  | true =>
    obtain ⟨A, c, _, _, _, k1, _, _⟩ := HDR.out _ H3.out
    rw [HN.out] at k1
    have K1 : Hid (w3.drew.cell? ⟨R, 1, none⟩ = some (.slice A N c)) := k1
    clear k1
    have hw := HW.out
    go_wp2_with fail
    go_region_held3 (fun w' => w'.cell? ⟨R, 1, none⟩ = some (.slice A N c)) (first | with_reducible exact K1.out | exact cell_kept hb4 K1.out | exact cell_kept hb5 (cell_kept hb4 K1.out) | go_keep)
      (first
        | ((go_at_call 170; refine (C4.out _).mono ?_; rintro e w4 ⟨rfl, hb4⟩))
        | ((go_at_call 169; refine (C5.out _).mono ?_; rintro e w5 ⟨rfl, hb5⟩)))
    have HX := Lib.hid ((below_drawn (Below.refl w3.heap.size w3) 1).trans ((hb4.trans (hb5.mono hb4.size))))
    have HXR := Lib.hid (HBR.out.trans (HX.out.mono (Nat.le_of_lt H3.out.size)))
    have H5 := Lib.hid (H3.out.below HX.out)
    clear hb4 hb5
    rcases HU.out with ⟨g1, g2, g3⟩ | ⟨g1, g2, g3, g4⟩ | ⟨g1, g2, g3, g4⟩
    · have e0 := HSB.out
      rw [show (ET == 0) = false from by simpa using g1] at e0
      have HE := Lib.hid (HQ1.out e0)
      clear e0 g1
      subst g2 g3
      go_wp2_with fail
      go_ret2
      exact FIN.out w5 HXR.out _ _ HE.out H5.out
    · have e0 := HSB.out
      rw [show (ET == 0) = true from by simpa using g1] at e0
      rw [← HSV.out] at g2
      have HE := Lib.hid (HQ2.out e0 g2)
      clear e0 g1 g2
      subst g3 g4
      go_wp2_with fail
      go_ret2
      exact FIN.out w5 HXR.out _ _ HE.out H5.out
    · have e0 := HSB.out
      rw [show (ET == 0) = true from by simpa using g1] at e0
      rw [← HSV.out] at g2 g4
      have HE := Lib.hid (HQ3.out e0 (by omega))
      clear e0 g1 g2
      subst g3 g4
      go_wp2_with fail
      go_ret2
      exact FIN.out w5 HXR.out _ _ HE.out H5.out

set_option maxHeartbeats 4000000 in
set_option maxRecDepth 100000 in
/-- No line that ends. -/
theorem size_miss (w : World) (R : Nat) (s : ByteArray) (X : List UInt8) (h : Rdr w R s X) (hs : s.size ≤ 1000000000) (hl : lineL s.data.toList = none) :
    Calls Tryz.prog 159 #[.pointer (some ⟨R, 0, none⟩)] w fun e w' => e = .returned (.tuple #[.int .i64 0, .int .i64 25]) ∧ Rdr w' R s X ∧ Below R w w' := by
  have C1 := Lib.hid (line_miss w R s X h hs hl)
  have C2 := Lib.hid (fun W => cut_any ⟨#[]⟩ 59 W (by decide) (by decide) (by decide))
  clear h hs hl
  go_enter Tryz.func159, Tryz.ntmps159
  go_wp2_with fail
  refine C1.out.mono ?_
  rintro e w1 ⟨rfl, h1, hb1⟩
  have H1 := Lib.hid h1
  have HB1 := Lib.hid hb1
  clear h1 hb1
  go_wp2_with fail
  refine (C2.out _).mono ?_
  rintro e w2 ⟨rfl, hb2⟩
  have HB2 := Lib.hid hb2
  clear hb2
  go_wp2_with fail
  go_ret2
  exact ⟨rfl, H1.out.below HB2.out, HB1.out.trans (HB2.out.mono (Nat.le_of_lt H1.out.size))⟩

end Go.Proofs.YtjcomlklmfeimaaGreatDoor
end

/-
  Contracts of package chunk's data: a chunk's bytes.
-/
section
namespace Go.Proofs.YtjcomlklmfeimaaGreatDoor
open Go.RowKit

theorem mkS_ne {l : List UInt8} (h : l ≠ []) : ¬ (mkS l).toList = [] ∧ (mkS l).toList.isEmpty = false := by
  have e : (mkS l).toList = l := by rw [Lib.toList_data, mkS_list]
  rw [e]
  refine ⟨h, ?_⟩
  cases l with
  | nil => exact absurd rfl h
  | cons a r => rfl
theorem rest_list (s : ByteArray) (n : Nat) : (s.extract n s.size).data.toList = s.data.toList.drop n := by
  rw [piece_ext, mkS_list]
  show (s.data.toList.drop n).take (s.size - n) = _
  rw [List.take_of_length_le (by rw [List.length_drop, ← Lib.size_eq]; exact Nat.le_refl _)]
theorem front_list (s : ByteArray) (n : Nat) : (s.extract 0 n).data.toList = s.data.toList.take n := by
  rw [piece_ext, mkS_list]
  show (s.data.toList.drop 0).take (n - 0) = _
  rw [List.drop_zero, Nat.sub_zero]

set_option maxHeartbeats 4000000 in
set_option maxRecDepth 100000 in
/-- A chunk that is whole. -/
theorem data_ok (w : World) (R : Nat) (s : ByteArray) (X : List UInt8) (h : Rdr w R s X) (hs : s.size ≤ 1000000) (hX : X.length ≤ 65536) (n : Nat) (hn : n ≤ s.size) (r : List UInt8) (hl : lineL (s.data.toList.drop n) = some ([], r)) :
    Calls Tryz.prog 160 #[.pointer (some ⟨R, 0, none⟩), .int .i64 n] w fun e w' => e = .returned (.int .i64 0) ∧ Rdr w' R (mkS r) (X ++ s.data.toList.take n) ∧ Below R w w' := by
  have C1 := Lib.hid (bytes_hit w R s X h n hn)
  have c2 := fun W (k : Rdr W R (s.extract n s.size) X) => line_hit W R (s.extract n s.size) X k (by rw [ByteArray.size_extract]; omega) [] r (by rw [rest_list]; exact hl)
  rw [show mkS [] = ⟨#[]⟩ from rfl] at c2
  have hfl := front_list s n
  have hfs : (s.extract 0 n).size ≤ 1000000 := by rw [ByteArray.size_extract]; omega
  generalize s.extract 0 n = Y at *
  generalize s.extract n s.size = Z at *
  rw [← hfl]
  have C2 := Lib.hid c2
  have HXY := Lib.hid (show X.length + Y.size ≤ 1000000000 by omega)
  clear h c2 hfl hfs hl hn hs hX
  go_enter Tryz.func160, Tryz.ntmps160
  go_wp2_with fail
  refine C1.out.mono ?_
  rintro e w1 ⟨rfl, h1, hb1⟩
  have H1 := Lib.hid h1
  have HB1 := Lib.hid hb1
  clear h1 hb1
  go_wp2_with fail
  refine (C2.out _ H1.out).mono ?_
  rintro e w2 ⟨rfl, h2, hb2⟩
  have H2 := Lib.hid h2
  have HB2 := Lib.hid (HB1.out.trans hb2)
  clear hb2
  obtain ⟨A, c, _, ho, k0, k1, f0, f1⟩ := h2.cells
  have HO := Lib.hid ho
  have HR2 := Lib.hid h2.size
  obtain ⟨N, hN⟩ : ∃ N, X.length = N := ⟨_, rfl⟩
  rw [hN] at k1 HO
  clear ho h2 hN
  go_wp2_with (at_builtin; refine wpList_append_text rfl _ _ 121 9 rfl (R + 1) 5 Tryz.underlying121 Tryz.underlying9 (by kernel_rfl) _ rfl X HO.out Y rfl HXY.out HR2.out w2 (Below.refl _ _) ?_)
  intro v3 w3 ho3 hb3 _
  have H3 := Lib.hid (H2.out.body hb3 ho3.out)
  obtain ⟨A3, c3, rfl, _⟩ := ho3.out.sl8
  have d1 : w3.cell? ⟨R, 1, none⟩ = some (.slice A N c) := (World.cell?_of_block (w := w2) (hb3.block _ (by simp only; omega))).trans k1
  have e1 : w3.frozen? ⟨R, 1, none⟩ = false := (hb3.frozen (p := ⟨R, 1, none⟩) (by simp only; omega)).trans f1
  have HB3 := Lib.hid (HB2.out.trans (hb3.mono (Nat.le_succ R)))
  obtain ⟨N3, hN3⟩ : ∃ k, (X ++ Y.data.toList).length = k := ⟨_, rfl⟩
  rw [hN3] at H3 ⊢
  clear hb3 ho3 k0 f0 hN3
  go_wp2_with fail
  go_ret
  exact ⟨rfl, H3.out, HB3.out.setCell (p := ⟨R, 1, none⟩) (Nat.le_refl _) _⟩

set_option maxHeartbeats 4000000 in
set_option maxRecDepth 100000 in
/-- A chunk that is not whole. -/
theorem data_bad (w : World) (R : Nat) (s : ByteArray) (X : List UInt8) (h : Rdr w R s X) (hs : s.size ≤ 1000000) (n : Nat)
    (hb : s.size < n ∨ n ≤ s.size ∧ (lineL (s.data.toList.drop n) = none ∨ ∃ ln r, lineL (s.data.toList.drop n) = some (ln, r) ∧ ln ≠ [])) :
    Calls Tryz.prog 160 #[.pointer (some ⟨R, 0, none⟩), .int .i64 n] w fun e w' => e = .returned (.int .i64 25) ∧ Below R w w' := by
  rcases hb with hn | ⟨hn, hl⟩
  · have C1 := Lib.hid (bytes_miss w R s X h n hn)
    cases hl : lineL s.data.toList with
    | none =>
      have C2 := Lib.hid (fun W (k : Rdr W R s X) => line_miss W R s X k (by omega) hl)
      clear h hl hn hs
      go_enter Tryz.func160, Tryz.ntmps160
      go_wp2_with fail
      refine C1.out.mono ?_
      rintro e w1 ⟨rfl, h1, hb1⟩
      have H1 := Lib.hid h1
      have HB1 := Lib.hid hb1
      clear h1 hb1
      go_wp2_with fail
      refine (C2.out _ H1.out).mono ?_
      rintro e w2 ⟨rfl, _, hb2⟩
      have HB2 := Lib.hid (HB1.out.trans hb2)
      clear hb2
      go_wp2_with fail
      go_ret
      exact ⟨rfl, HB2.out⟩
    | some p =>
      obtain ⟨ln, r⟩ := p
      have C2 := Lib.hid (fun W (k : Rdr W R s X) => line_hit W R s X k (by omega) ln r hl)
      clear h hl hn hs
      go_enter Tryz.func160, Tryz.ntmps160
      go_wp2_with fail
      refine C1.out.mono ?_
      rintro e w1 ⟨rfl, h1, hb1⟩
      have H1 := Lib.hid h1
      have HB1 := Lib.hid hb1
      clear h1 hb1
      go_wp2_with fail
      refine (C2.out _ H1.out).mono ?_
      rintro e w2 ⟨rfl, _, hb2⟩
      have HB2 := Lib.hid (HB1.out.trans hb2)
      clear hb2
      go_wp2_with fail
      go_ret
      exact ⟨rfl, HB2.out⟩
  · have C1 := Lib.hid (bytes_hit w R s X h n hn)
    rcases hl with hl | ⟨ln, r, hl, hne⟩
    · have C2 := Lib.hid (fun W (k : Rdr W R (s.extract n s.size) X) => line_miss W R (s.extract n s.size) X k (by rw [ByteArray.size_extract]; omega) (by rw [rest_list]; exact hl))
      clear h hl hn hs
      generalize s.extract 0 n = Y at *
      generalize s.extract n s.size = Z at *
      go_enter Tryz.func160, Tryz.ntmps160
      go_wp2_with fail
      refine C1.out.mono ?_
      rintro e w1 ⟨rfl, h1, hb1⟩
      have H1 := Lib.hid h1
      have HB1 := Lib.hid hb1
      clear h1 hb1
      go_wp2_with fail
      refine (C2.out _ H1.out).mono ?_
      rintro e w2 ⟨rfl, _, hb2⟩
      have HB2 := Lib.hid (HB1.out.trans hb2)
      clear hb2
      go_wp2_with fail
      go_ret
      exact ⟨rfl, HB2.out⟩
    · have C2 := Lib.hid (fun W (k : Rdr W R (s.extract n s.size) X) => line_hit W R (s.extract n s.size) X k (by rw [ByteArray.size_extract]; omega) ln r (by rw [rest_list]; exact hl))
      obtain ⟨n1, n2⟩ := mkS_ne hne
      clear h hl hn hs hne
      generalize s.extract 0 n = Y at *
      generalize s.extract n s.size = Z at *
      generalize mkS ln = LN at *
      go_enter Tryz.func160, Tryz.ntmps160
      go_wp2_with fail
      refine C1.out.mono ?_
      rintro e w1 ⟨rfl, h1, hb1⟩
      have H1 := Lib.hid h1
      have HB1 := Lib.hid hb1
      clear h1 hb1
      go_wp2_with fail
      refine (C2.out _ H1.out).mono ?_
      rintro e w2 ⟨rfl, _, hb2⟩
      have HB2 := Lib.hid (HB1.out.trans hb2)
      clear hb2
      go_wp2_with fail
      go_ret
      exact ⟨rfl, HB2.out⟩

end Go.Proofs.YtjcomlklmfeimaaGreatDoor
end

/-
  Contract of package chunk's trailer.
-/
section
namespace Go.Proofs.YtjcomlklmfeimaaGreatDoor
open Go.RowKit

/-- What the trailer's reader leaves. -/
def TrlP (w : World) (R : Nat) (X : List UInt8) (T : Int × List UInt8) (e : Ending) (w' : World) : Prop := e = .returned (.int .i64 T.1) ∧ (T.1 = 0 → Rdr w' R (mkS T.2) X) ∧ Below R w w'
theorem TrlP.bad {w w' : World} {R : Nat} {X : List UInt8} {T : Int × List UInt8} {c : Int} {l : List UInt8} (h : T = (c, l)) (hc : c ≠ 0) (hb : Below R w w') : TrlP w R X T (.returned (.int .i64 c)) w' := by
  subst h
  exact ⟨rfl, fun e => absurd e hc, hb⟩
theorem TrlP.good {w w' : World} {R : Nat} {X : List UInt8} {T : Int × List UInt8} {l : List UInt8} (h : T = (0, l)) (hr : Rdr w' R (mkS l) X) (hb : Below R w w') : TrlP w R X T (.returned (.int .i64 0)) w' := by
  subst h
  exact ⟨rfl, fun _ => hr, hb⟩

set_option maxHeartbeats 8000000 in
set_option maxRecDepth 100000 in
theorem trailer_any (w : World) (R : Nat) (s : ByteArray) (X : List UInt8) (h : Rdr w R s X) (hs : s.size ≤ 1000000) (F0 : Nat) (hF0 : s.size + 1 ≤ F0) :
    Calls Tryz.prog 136 #[.pointer (some ⟨R, 0, none⟩)] w (TrlP w R X (trl F0 0 s.data.toList)) := by
  have hmm : (1000000 : Nat) ≤ maxLen := by decide
  obtain ⟨T, hT⟩ : ∃ T, T = trl F0 0 s.data.toList := ⟨_, rfl⟩
  rw [← hT]
  have HT := Lib.hid hT
  have H0 := Lib.hid h
  clear hT h
  go_enter Tryz.func136, Tryz.ntmps136
  go_wp2_with fail
  go_loopw [3] (fun i wr => ∃ (k F : Nat) (t : ByteArray), k ≤ 64 ∧ i = .int .i64 ((k : Int) + 1) ∧ t.size ≤ 1000000 ∧ t.size + 1 ≤ F ∧ Hid (T = trl F k t.data.toList) ∧ Rdr wr R t X ∧ Below R w wr) (fun i _ => 66 - (intOf i).toNat)
  case atStart => exact ⟨0, F0, s, Nat.zero_le _, by go_num, hs, hF0, HT.out, H0.out, Below.refl _ _⟩
  case round =>
    clear HT H0
    obtain ⟨k, F, t, hk, rfl, ht, hF, hf, hr, hb⟩ := hrel
    obtain ⟨F', rfl⟩ : ∃ F', F = F' + 1 := ⟨F - 1, by omega⟩
    have HR := Lib.hid hr
    have HB := Lib.hid hb
    clear hr hb
    cases hln : lineL t.data.toList with
    | none =>
      have HE := Lib.hid (show T = (25, t.data.toList) by rw [hf.out, trl, hln])
      have C1 := Lib.hid (line_miss wr R t X HR.out (by omega) hln)
      have c2 := fun W => parse_any ⟨#[]⟩ W (by decide)
      obtain ⟨⟨p1, p2⟩, hp⟩ : ∃ p, p = flF ⟨#[]⟩ := ⟨_, rfl⟩
      rw [← hp] at c2
      have C2 := Lib.hid c2
      clear hf hln c2 hp hF ht
      go_wp2_with fail
      refine C1.out.mono ?_
      rintro e w1 ⟨rfl, h1, hb1⟩
      have HB1 := Lib.hid (HB.out.trans hb1)
      have HL1 := Lib.hid h1.size
      clear h1 hb1
      go_wp2_with fail
      refine (C2.out _).mono ?_
      rintro e w2 ⟨rfl, hb2⟩
      have HB2 := Lib.hid (HB1.out.trans (hb2.mono (Nat.le_of_lt HL1.out)))
      have HL2 := Lib.hid (Nat.lt_of_lt_of_le HL1.out hb2.size)
      clear hb2
      rw [show fdV (p1, p2) = .agg #[.string p1, .string p2] from rfl]
      go_wp2_with fail
      go_ret
      exact TrlP.bad HE.out (by decide) (HB2.out.alloc (Nat.le_of_lt HL2.out) _)
    | some p =>
      obtain ⟨ln, r⟩ := p
      have hrl : r.length + 2 ≤ t.size := by
        have := congrArg List.length (lineL_form hln)
        rw [← Lib.size_eq, List.length_append, List.length_cons, List.length_cons] at this
        omega
      have hls : (mkS ln).size ≤ maxLen := by
        have := congrArg List.length (lineL_form hln)
        rw [← Lib.size_eq, List.length_append] at this
        rw [mkS_size]; omega
      have hrs : (mkS r).size = r.length := mkS_size r
      have hf2 : T = if ln = [] then (0, r) else if flX (mkS ln) ≠ 0 then (25, t.data.toList) else if 64 ≤ k then (4, t.data.toList) else trl F' (k + 1) r := by rw [hf.out, trl, hln]
      have c1 := fun (_ : Unit) => line_hit wr R t X HR.out (by omega) ln r hln
      have hrl2 : (mkS r).data.toList = r := mkS_list r
      clear hf hln
      by_cases hnil : ln = []
      · subst hnil
        rw [if_pos rfl] at hf2
        rw [show mkS [] = ⟨#[]⟩ from rfl] at c1
        have HE := Lib.hid hf2
        have C1 := Lib.hid (c1 ())
        clear hf2 c1 hrl2 hrs hrl hls hF ht
        go_wp2_with fail
        refine C1.out.mono ?_
        rintro e w1 ⟨rfl, h1, hb1⟩
        have H1 := Lib.hid h1
        have HB1 := Lib.hid (HB.out.trans hb1)
        clear h1 hb1
        go_wp2_with fail
        go_ret
        exact TrlP.good HE.out H1.out HB1.out
      · rw [if_neg hnil] at hf2
        obtain ⟨n1, n2⟩ := mkS_ne hnil
        have c2 := fun W => parse_any (mkS ln) W hls
        obtain ⟨⟨p1, p2⟩, hp⟩ : ∃ p, p = flF (mkS ln) := ⟨_, rfl⟩
        rw [← hp] at c2
        clear hp hls hnil
        generalize flX (mkS ln) = fx at *
        generalize mkS ln = LN at *
        have C1 := Lib.hid (c1 ())
        have C2 := Lib.hid c2
        clear c1 c2
        by_cases hx : fx = 0
        · subst hx
          rw [if_neg (by simp)] at hf2
          by_cases h64 : 64 ≤ k
          · rw [if_pos h64] at hf2
            have HE := Lib.hid hf2
            have hk64 : (64 : Int) < (k : Int) + 1 := by omega
            clear hf2 hrl2 hrs hrl hF ht h64 hk
            go_wp2_with fail
            refine C1.out.mono ?_
            rintro e w1 ⟨rfl, h1, hb1⟩
            have HB1 := Lib.hid (HB.out.trans hb1)
            have HL1 := Lib.hid h1.size
            clear h1 hb1
            go_wp2_with fail
            refine (C2.out _).mono ?_
            rintro e w2 ⟨rfl, hb2⟩
            have HB2 := Lib.hid (HB1.out.trans (hb2.mono (Nat.le_of_lt HL1.out)))
            have HL2 := Lib.hid (Nat.lt_of_lt_of_le HL1.out hb2.size)
            clear hb2
            rw [show fdV (p1, p2) = .agg #[.string p1, .string p2] from rfl]
            go_wp2_with fail
            go_ret
            exact TrlP.bad HE.out (by decide) (HB2.out.alloc (Nat.le_of_lt HL2.out) _)
          · rw [if_neg h64] at hf2
            have HE := Lib.hid hf2
            have hk64 : ¬ (64 : Int) < (k : Int) + 1 := by omega
            have hF2 : (mkS r).size + 1 ≤ F' := by omega
            have ht2 : (mkS r).size ≤ 1000000 := by omega
            have HRL := Lib.hid hrl2
            clear hf2 hrl2 hrs hrl hF ht h64
            go_wp2_with fail
            refine C1.out.mono ?_
            rintro e w1 ⟨rfl, h1, hb1⟩
            have H1 := Lib.hid h1
            have HB1 := Lib.hid (HB.out.trans hb1)
            have HL1 := Lib.hid h1.size
            clear h1 hb1
            go_wp2_with fail
            refine (C2.out _).mono ?_
            rintro e w2 ⟨rfl, hb2⟩
            have HB2 := Lib.hid (HB1.out.trans (hb2.mono (Nat.le_of_lt HL1.out)))
            have HL2 := Lib.hid (Nat.lt_of_lt_of_le HL1.out hb2.size)
            have H2 := Lib.hid (H1.out.below hb2)
            clear hb2
            rw [show fdV (p1, p2) = .agg #[.string p1, .string p2] from rfl]
            go_wp2_with fail
            go_roundw
            case rel => exact ⟨k + 1, F', mkS r, by omega, by go_num, ht2, hF2, by show _ = _; rw [HE.out, HRL.out], H2.out.below ((Below.refl _ _).alloc (Nat.le_refl _) _), HB2.out.alloc (Nat.le_of_lt HL2.out) _⟩
            case measure => simp [intOf]; omega
        · have hxb : (fx != 0) = true := by simpa using hx
          have hxe : ¬ fx = 0 := hx
          rw [if_pos hx] at hf2
          have HE := Lib.hid hf2
          clear hf2 hrl2 hrs hrl hF ht hx
          go_wp2_with fail
          refine C1.out.mono ?_
          rintro e w1 ⟨rfl, h1, hb1⟩
          have HB1 := Lib.hid (HB.out.trans hb1)
          have HL1 := Lib.hid h1.size
          clear h1 hb1
          go_wp2_with fail
          refine (C2.out _).mono ?_
          rintro e w2 ⟨rfl, hb2⟩
          have HB2 := Lib.hid (HB1.out.trans (hb2.mono (Nat.le_of_lt HL1.out)))
          have HL2 := Lib.hid (Nat.lt_of_lt_of_le HL1.out hb2.size)
          clear hb2
          rw [show fdV (p1, p2) = .agg #[.string p1, .string p2] from rfl]
          go_wp2_with fail
          go_ret
          exact TrlP.bad HE.out (by decide) (HB2.out.alloc (Nat.le_of_lt HL2.out) _)

end Go.Proofs.YtjcomlklmfeimaaGreatDoor
end

/-
  Contract of package chunk's chunks: the reading of all chunks, the next one by goto.
-/
section
namespace Go.Proofs.YtjcomlklmfeimaaGreatDoor
open Go.RowKit

/-- What the chunks' reader leaves. -/
def ChkP (w : World) (R : Nat) (D : Int × List UInt8 × List UInt8) (e : Ending) (w' : World) : Prop :=
  Below R w w' ∧ ((∃ c y, c ≠ 0 ∧ e = .returned (.int .i64 c) ∧ D = (c, [], y)) ∨ (e = .returned (.int .i64 0) ∧ ∃ t X, t.size ≤ 1000000 ∧ X.length ≤ 65536 ∧ Rdr w' R t X ∧ D = lastD X t.data.toList))

def leftSz (w : World) (R : Nat) : Nat := match w.cell? ⟨R, 0, none⟩ with | some (.string t) => t.size | _ => 0
theorem Rdr.leftSz {w : World} {R : Nat} {s : ByteArray} {X : List UInt8} (h : Rdr w R s X) : leftSz w R = s.size := by
  obtain ⟨A, c, _, _, h0, _⟩ := h.cells
  unfold Go.Proofs.YtjcomlklmfeimaaGreatDoor.leftSz
  rw [h0]

/-- What holds at the label. -/
def AtNext (w : World) (R : Nat) (D : Int × List UInt8 × List UInt8) (w' : World) : Prop :=
  ∃ (F : Nat) (t : ByteArray) (X : List UInt8), t.size ≤ 1000000 ∧ t.size + 1 ≤ F ∧ X.length ≤ 65536 ∧ D = dcd F X t.data.toList ∧ Rdr w' R t X ∧ Below R w w'

set_option maxHeartbeats 8000000 in
set_option maxRecDepth 1000000 in
theorem chunks_any (w : World) (R : Nat) (s : ByteArray) (h : Rdr w R s []) (hs : s.size ≤ 1000000) :
    Calls Tryz.prog 135 #[.pointer (some ⟨R, 0, none⟩)] w (ChkP w R (dcd (s.size + 1) [] s.data.toList)) := by
  obtain ⟨D, hD⟩ : ∃ D, D = dcd (s.size + 1) [] s.data.toList := ⟨_, rfl⟩
  rw [← hD]
  have HJ := Lib.hid (show AtNext w R D w from ⟨s.size + 1, s, [], hs, Nat.le_refl _, by simp, hD, h, Below.refl _ _⟩)
  clear hD h hs
  go_enter Tryz.func135, Tryz.ntmps135
  go_wp2
  refine wp_scope_from 0 (fun a' w' => AtNext w R D w' ∧ ∃ u1 u3 u4 u5 u6 u7 u8 u9 u10 u11 u12 u13 u14 u15 u16 u17 u18 u19 u20 u21 u22 : Value, a' = { tmps := #[.pointer (some ⟨R, 0, none⟩), u1, .int .i64 0, u3, u4, u5, u6, u7, u8, u9, u10, u11, u12, u13, u14, u15, u16, u17, u18, u19, u20, u21, u22], defers := [] }) (fun _ w' => leftSz w' R) rfl ?_ ?_
  · intro hp
    go_wp2
    go_step3
    rename_i hK
    exact hK _ _ (hp _ _ ⟨HJ.out, _, _, _, _, _, _, _, _, _, _, _, _, _, _, _, _, _, _, _, _, _, rfl⟩)
  · rintro a' w' ⟨⟨F, t, X, ht, hF, hX, hD, hr, hb⟩, u1, u3, u4, u5, u6, u7, u8, u9, u10, u11, u12, u13, u14, u15, u16, u17, u18, u19, u20, u21, u22, rfl⟩
    obtain ⟨F', rfl⟩ : ∃ F', F = F' + 1 := ⟨F - 1, by omega⟩
    have HR := Lib.hid hr
    have HB := Lib.hid hb
    clear hr hb HJ
    cases hln : lineL t.data.toList with
    | none =>
      have HE := Lib.hid (show D = (25, [], t.data.toList) by rw [hD, dcd, hln])
      have C1 := Lib.hid (size_miss w' R t X HR.out (by omega) hln)
      clear hD hln ht hF hX
      go_wp2_with fail
      refine C1.out.mono ?_
      rintro e w1 ⟨rfl, _, hb1⟩
      have HB1 := Lib.hid (HB.out.trans hb1)
      clear hb1
      go_wp2_with fail
      simp only [Exit.jump]
      go_ret
      exact ⟨HB1.out, .inl ⟨25, _, by decide, rfl, HE.out⟩⟩
    | some p =>
      obtain ⟨ln, r⟩ := p
      have hrl : r.length + 2 ≤ t.size := by
        have := congrArg List.length (lineL_form hln)
        rw [← Lib.size_eq, List.length_append, List.length_cons, List.length_cons] at this
        omega
      have c1 := size_hit w' R t X HR.out (by omega) hX ln r hln
      have hrs : (mkS r).size = r.length := mkS_size r
      have hrm : (mkS r).data.toList = r := mkS_list r
      rcases round_cases F' hln hX with ⟨c, q1, q2, q3⟩ | ⟨q1, q3⟩ | ⟨n, q1, q2, q4, q5, q3⟩ | ⟨n, q1, q2, q4, q5, q6, q3⟩
      · rw [q1] at c1
        have HE := Lib.hid (hD.trans q3)
        have C1 := Lib.hid c1
        have e1 : (c != 0) = true := by simpa using q2
        clear c1 q1 q3 hD hln hrs hrm hrl ht hF hX
        have HQ := Lib.hid q2
        go_wp2_with fail
        refine C1.out.mono ?_
        rintro e w1 ⟨rfl, _, hb1⟩
        have HB1 := Lib.hid (HB.out.trans hb1)
        clear hb1
        go_wp2_with fail
        simp only [Exit.jump]
        go_ret
        exact ⟨HB1.out, .inl ⟨c, _, HQ.out, rfl, HE.out⟩⟩
      · rw [q1] at c1
        have HE := Lib.hid (hD.trans q3)
        have C1 := Lib.hid c1
        have HRM := Lib.hid hrm
        have hts : (mkS r).size ≤ 1000000 := by omega
        have HTS := Lib.hid hts
        have HX := Lib.hid hX
        clear c1 q1 q3 hD hln hrs hrm hrl ht hF hX hts
        go_wp2_with fail
        refine C1.out.mono ?_
        rintro e w1 ⟨rfl, h1, hb1⟩
        have H1 := Lib.hid h1
        have HB1 := Lib.hid (HB.out.trans hb1)
        clear h1 hb1
        go_wp2_with fail
        simp only [Exit.jump]
        go_ret
        exact ⟨HB1.out, .inr ⟨rfl, mkS r, X, HTS.out, HX.out, H1.out, by rw [HRM.out]; exact HE.out⟩⟩
      · rw [q1] at c1
        have HE := Lib.hid (hD.trans q3)
        have C1 := Lib.hid c1
        have C2 := Lib.hid (fun W (k : Rdr W R (mkS r) X) => data_bad W R (mkS r) X k (by omega) n (by rw [hrs, hrm]; exact q5))
        have e1 : ((n : Int) == 0) = false := by rw [beq_eq_false_iff_ne]; omega
        clear c1 q1 q2 q3 q4 q5 hD hln hrs hrm hrl ht hF hX
        go_wp2_with fail
        refine C1.out.mono ?_
        rintro e w1 ⟨rfl, h1, hb1⟩
        have H1 := Lib.hid h1
        have HB1 := Lib.hid (HB.out.trans hb1)
        clear h1 hb1
        go_wp2_with fail
        refine (C2.out _ H1.out).mono ?_
        rintro e w2 ⟨rfl, hb2⟩
        have HB2 := Lib.hid (HB1.out.trans hb2)
        clear hb2
        go_wp2_with fail
        simp only [Exit.jump]
        go_ret
        exact ⟨HB2.out, .inl ⟨25, _, by decide, rfl, HE.out⟩⟩
      · rw [q1] at c1
        have HE := Lib.hid (hD.trans q3)
        have C1 := Lib.hid c1
        have C2 := Lib.hid (fun W (k : Rdr W R (mkS r) X) => data_ok W R (mkS r) X k (by omega) hX n (by omega) (r.drop (n + 2)) (by rw [hrm]; exact q6))
        have e1 : ((n : Int) == 0) = false := by rw [beq_eq_false_iff_ne]; omega
        have hds : (mkS (r.drop (n + 2))).size + 2 ≤ t.size := by rw [mkS_size, List.length_drop]; omega
        have HN := Lib.hid (show AtNext w R D = fun W => ∃ (F : Nat) (t : ByteArray) (X : List UInt8), t.size ≤ 1000000 ∧ t.size + 1 ≤ F ∧ X.length ≤ 65536 ∧ D = dcd F X t.data.toList ∧ Rdr W R t X ∧ Below R w W from rfl)
        have hxl : (X ++ r.take n).length ≤ 65536 := by rw [List.length_append, List.length_take]; omega
        have HFIN := Lib.hid (fun W (k : Rdr W R (mkS (r.drop (n + 2))) (X ++ r.take n)) (b : Below R w W) => (show AtNext w R D W ∧ leftSz W R < leftSz w' R from
          ⟨⟨F', mkS (r.drop (n + 2)), X ++ r.take n, by omega, by omega, hxl, by rw [mkS_list]; exact HE.out, k, b⟩, by rw [k.leftSz, HR.out.leftSz]; omega⟩))
        rw [hrm] at C2
        clear c1 q1 q2 q3 q4 q5 q6 hD hln hrs hrm hrl ht hF hX hds hxl HN HE
        go_wp2_with fail
        refine C1.out.mono ?_
        rintro e w1 ⟨rfl, h1, hb1⟩
        have H1 := Lib.hid h1
        have HB1 := Lib.hid (HB.out.trans hb1)
        clear h1 hb1
        go_wp2_with fail
        refine (C2.out _ H1.out).mono ?_
        rintro e w2 ⟨rfl, h2, hb2⟩
        have HF := Lib.hid (HFIN.out w2 h2 (HB1.out.trans hb2))
        clear h2 hb2 HFIN
        go_wp2_with fail
        go_step3
        exact ⟨rfl, ⟨HF.out.1, _, _, _, _, _, _, _, _, _, _, _, _, _, _, _, _, _, _, _, _, _, rfl⟩, HF.out.2⟩

end Go.Proofs.YtjcomlklmfeimaaGreatDoor
end

/-
  Contract of package chunk's Decode.
-/
section
namespace Go.Proofs.YtjcomlklmfeimaaGreatDoor
open Go.RowKit

/-- What package chunk reads of the library's variables. -/
structure ChkTabs (w : World) : Prop where
  br : TabBr w
  mx : ∃ m, w.cell? ⟨0, 0, none⟩ = some (.int .i64 m)
theorem ChkTabs.kept {w w' : World} (h : ChkTabs w) (hb : Below w.heap.size w w') : ChkTabs w' :=
  ⟨cell_kept hb h.br, by obtain ⟨m, hm⟩ := h.mx; exact ⟨m, cell_kept hb hm⟩⟩

set_option maxHeartbeats 4000000 in
set_option maxRecDepth 100000 in
theorem decode_any (s : ByteArray) (w : World) (hs : s.size ≤ 1000000) (HT : ChkTabs w) :
    Calls Tryz.prog 103 #[.string s] w fun e w' => e = .returned (.tuple #[.string (decB s), .int .i64 (decN s), .int .i64 (decE s)]) ∧ Below w.heap.size w w' := by
  have c1 := chunks_any _ _ s (Rdr.made HT.mx s) hs
  have hbad := fun (c : Int) (x y : List UInt8) (h : decD s = (c, x, y)) (hc : c ≠ 0) => dec_bad h hc
  have hok := fun (x y : List UInt8) (h : decD s = (0, x, y)) => dec_ok h
  rw [show dcd (s.size + 1) [] s.data.toList = decD s from rfl] at c1
  generalize decD s = D at *
  generalize decB s = DB at *
  generalize decN s = DN at *
  generalize decE s = DE at *
  have C1 := Lib.hid c1
  have HBAD := Lib.hid hbad
  have HOK := Lib.hid hok
  clear c1 hbad hok HT
  go_enter Tryz.func103, Tryz.ntmps103
  go_wp2_with fail
  refine C1.out.mono ?_
  rintro e w1 ⟨hb1, h1⟩
  have HB1 := Lib.hid (((Below.refl _ _).alloc (Nat.le_refl _) _).trans hb1)
  clear hb1
  rcases h1 with ⟨c, y, hc, rfl, hD⟩ | ⟨rfl, t, X, ht, hX, hr, hD⟩
  · have HR := Lib.hid (HBAD.out c [] y hD hc)
    have e1 : (c != 0) = true := by simpa using hc
    clear hc hD
    go_wp2_with fail
    go_ret3
    exact ⟨by rw [HR.out.1, HR.out.2.1, HR.out.2.2]; rfl, HB1.out⟩
  · have c2 := trailer_any w1 _ t X hr ht (t.size + 1) (Nat.le_refl _)
    unfold lastD at hD
    rw [← Lib.size_eq] at hD
    have htl := trl_le (t.size + 1) 0 t.data.toList
    rw [← Lib.size_eq] at htl
    generalize trl (t.size + 1) 0 t.data.toList = T at *
    have C2 := Lib.hid c2
    have HTL := Lib.hid htl
    have HDD := Lib.hid hD
    have HR1 := Lib.hid hr
    clear c2 hD hr hX htl
    go_wp2_with fail
    refine C2.out.mono ?_
    rintro e w2 ⟨rfl, h2, hb2⟩
    have HB2 := Lib.hid (HB1.out.trans hb2)
    clear hb2
    obtain ⟨c, Z⟩ := T
    by_cases hc : c = 0
    · subst hc
      have hr2 := h2 rfl
      have HR := Lib.hid (HOK.out X Z (by rw [HDD.out]; rfl))
      have htl2 : Z.length ≤ t.size := HTL.out
      have hz : (mkS Z).size = Z.length := mkS_size Z
      clear h2
      generalize mkS Z = ZS at *
      generalize Z.length = N at *
      subst hz
      obtain ⟨A, k, hs8, _, k0, k1, _, _⟩ := hr2.cells
      obtain ⟨M, hM⟩ : ∃ M, X.length = M := ⟨_, rfl⟩
      rw [hM] at hs8 k1
      have kc := fun n : Nat => run_str Tryz.prog (w2.drewN n) 121 5 Tryz.underlying121 Tryz.underlying5 (hs8.below (below_drawn (Below.refl _ _) n)) 9 Tryz.underlying9
      have hwr : IntKind.i64.wrap ((s.size : Int) - (ZS.size : Int)) = (s.size : Int) - (ZS.size : Int) := Go.IntWalk.i64_in _ (by omega)
      generalize mkS X = XS at *
      clear hM hs8 hr2 hs htl2 ht HTL
      go_wp2_with fail
      go_quiet (fail)
      go_wp2_with fail
      go_ret3
      exact ⟨by rw [HR.out.1, HR.out.2.1, HR.out.2.2]; rfl, below_drawn HB2.out _⟩
    · have HR := Lib.hid (HBAD.out c [] Z (by rw [HDD.out]; simp [hc]) hc)
      have e1 : (c != 0) = true := by simpa using hc
      clear hc h2
      go_wp2_with fail
      go_ret3
      exact ⟨by rw [HR.out.1, HR.out.2.1, HR.out.2.2]; rfl, HB2.out⟩

end Go.Proofs.YtjcomlklmfeimaaGreatDoor
end

/-
  Contracts of package message's divide.
-/
section
namespace Go.Proofs.YtjcomlklmfeimaaGreatDoor
open Go.RowKit

theorem pre2_has (s : ByteArray) : Lib.hasPrefix s.data.toList (⟨#[13, 10]⟩ : ByteArray).data.toList = [13, 10].isPrefixOf s.data.toList := rfl
theorem cut_bad {s : ByteArray} (h : dvO s = false) : (Lib.cut s.data.toList [13, 10, 13, 10]).2.2 = false := by
  unfold dvO at h
  rw [decide_eq_false_iff_not] at h
  unfold Lib.cut
  rw [if_neg h]
theorem cut_fine {s : ByteArray} (h : dvO s = true) : (Lib.cut s.data.toList [13, 10, 13, 10]).2.2 = true := by
  unfold dvO at h
  rw [decide_eq_true_eq] at h
  unfold Lib.cut
  rw [if_pos h]

/-- The library's split at line ends. -/
theorem split_crlf (s : ByteArray) (w : World) (hs : s.size ≤ 1000000000) (hm : ∃ m, w.cell? ⟨0, 0, none⟩ = some (.int .i64 m)) :
    Calls Tryz.prog 60 #[.string s, .string ⟨#[13, 10]⟩] w fun e w' =>
      e = .returned (.slice (some ⟨w.heap.size, 0, none⟩) (spC s.data.toList).length (spC s.data.toList).length) ∧ SlS w' (some ⟨w.heap.size, 0, none⟩) (spC s.data.toList).length (spC s.data.toList).length (spC s.data.toList) ∧ Below w.heap.size w w' := by
  obtain ⟨m, hm⟩ := hm
  have hle := Lib.countB_le ⟨#[13, 10]⟩ (by decide) s.size s (Nat.le_refl _)
  have hlen := Lib.splitB_all ⟨#[13, 10]⟩ (by decide) 0 _ s rfl
  have hdata := Lib.splitB_data ⟨#[13, 10]⟩ 0 (Lib.countB s ⟨#[13, 10]⟩) s
  have hsp : Lib.splitK (⟨#[13, 10]⟩ : ByteArray).data.toList 0 (Lib.countB s ⟨#[13, 10]⟩) s.data.toList = spC s.data.toList := rfl
  have c := Tryz.strings_Split s ⟨#[13, 10]⟩ m w (by omega) hm (by decide)
  have hL : (spC s.data.toList).length = Lib.countB s ⟨#[13, 10]⟩ + 1 := by
    rw [← hsp, ← hlen, ← List.length_map (f := fun x : ByteArray => x.data.toList), hdata]
  have hS := SlS.texts w 9 (Lib.splitB ⟨#[13, 10]⟩ 0 (Lib.countB s ⟨#[13, 10]⟩) s) (by rw [hlen]; unfold maxLen; omega)
  rw [hdata, hsp, hlen] at hS
  rw [hL]
  refine c.mono ?_
  rintro e w' ⟨rfl, rfl⟩
  exact ⟨rfl, hS, (Below.refl _ _).alloc (Nat.le_refl _) _⟩

set_option maxRecDepth 100000 in
theorem divide_long (raw : ByteArray) (w : World) (hl : 65536 < raw.size) :
    Calls Tryz.prog 27 #[.string raw] w fun e w' => e = .returned (.tuple #[.pointer none, .int .i64 4]) ∧ Below w.heap.size w w' := by
  have hl' : (65536 : Int) < (raw.size : Int) := by omega
  clear hl
  go_enter Tryz.func27, Tryz.ntmps27
  go_wp2_with fail
  go_ret2
  exact ⟨rfl, Below.refl _ _⟩

set_option maxHeartbeats 2000000 in
set_option maxRecDepth 100000 in
theorem divide_bad (raw : ByteArray) (w : World) (hl : ¬ 65536 < raw.size) (HT : ChkTabs w) (hb : hdB raw = false) :
    Calls Tryz.prog 27 #[.string raw] w fun e w' => e = .returned (.tuple #[.pointer none, .int .i64 5]) ∧ Below w.heap.size w w' := by
  have hl' : ¬ (65536 : Int) < (raw.size : Int) := by omega
  obtain ⟨m, hm⟩ := HT.mx
  have C1 := Tryz.strings_Cut raw ⟨#[13, 10, 13, 10]⟩ m w (by omega) hm
  rw [show (⟨#[13, 10, 13, 10]⟩ : ByteArray).data.toList = [13, 10, 13, 10] from rfl] at C1
  have C2 := Lib.hid (fun W => Tryz.strings_HasPrefix raw ⟨#[13, 10]⟩ W)
  rw [pre2_has] at C2
  have hno := cut_bad (s := raw)
  have hye := cut_fine (s := raw)
  have hcs : dvO raw = false ∨ [13, 10].isPrefixOf raw.data.toList = true := by
    by_cases h1 : dvO raw = true
    · by_cases h2 : [13, 10].isPrefixOf raw.data.toList = true
      · exact .inr h2
      · rw [(dv_ok h1 h2).1] at hb; cases hb
    · exact .inl (by simpa using h1)
  generalize Lib.cut raw.data.toList [13, 10, 13, 10] = CU at *
  obtain ⟨c1, c2, c3⟩ := CU
  simp only at C1 hno hye
  have C1 := Lib.hid C1
  generalize [13, 10].isPrefixOf raw.data.toList = hp at *
  generalize dvO raw = dv at *
  generalize (⟨c1.toArray⟩ : ByteArray) = q1 at *
  generalize (⟨c2.toArray⟩ : ByteArray) = q2 at *
  clear hl hm HT hb
  cases dv with
  | false =>
    obtain rfl := hno rfl
    clear hno hye hcs C2
    go_enter Tryz.func27, Tryz.ntmps27
    go_wp2_with fail
    refine C1.out.mono ?_
    rintro e w1 ⟨rfl, k, rfl⟩
    go_wp2_with fail
    go_ret2
    exact ⟨rfl, below_drawn (Below.refl _ _) _⟩
  | true =>
    obtain rfl := hye rfl
    obtain rfl := hcs.resolve_left (by simp)
    clear hno hye hcs
    go_enter Tryz.func27, Tryz.ntmps27
    go_wp2_with fail
    refine C1.out.mono ?_
    rintro e w1 ⟨rfl, k, rfl⟩
    go_wp2_with fail
    refine (C2.out _).mono ?_
    rintro e w1 ⟨rfl, rfl⟩
    go_wp2_with fail
    go_ret2
    exact ⟨rfl, below_drawn (Below.refl _ _) _⟩

/-- What divide answers of a good message. -/
def Dvd (w : World) (raw : ByteArray) (x : List UInt8) (tl : List (List UInt8)) (e : Ending) (w' : World) : Prop :=
  ∃ P A n c, e = .returned (.tuple #[.pointer (some ⟨P, 0, none⟩), .int .i64 0]) ∧ Msg w' P (mkS x) A n c tl 0 (.slice none 0 0) [] (hdR raw) ∧ w.heap.size ≤ P ∧ Below w.heap.size w w'

set_option maxHeartbeats 4000000 in
set_option maxRecDepth 100000 in
theorem divide_good (raw : ByteArray) (w : World) (hl : ¬ 65536 < raw.size) (HT : ChkTabs w) (hb : hdB raw = true) (x : List UInt8) (tl : List (List UInt8)) (hx : hdL raw = x :: tl) :
    Calls Tryz.prog 27 #[.string raw] w (Dvd w raw x tl) := by
  have hl' : ¬ (65536 : Int) < (raw.size : Int) := by omega
  have hdv : dvO raw = true ∧ ¬ [13, 10].isPrefixOf raw.data.toList = true := by
    refine ⟨?_, fun h => by rw [dv_bad (.inr h)] at hb; cases hb⟩
    by_cases h1 : dvO raw = false
    · rw [dv_bad (.inl h1)] at hb; cases hb
    · simpa using h1
  obtain ⟨_, e1, e2⟩ := dv_ok hdv.1 hdv.2
  have hp : [13, 10].isPrefixOf raw.data.toList = false := Bool.eq_false_iff.2 hdv.2
  have hle := dvT_le raw
  have hmx := HT.mx
  obtain ⟨m, hm⟩ := HT.mx
  have C1 := Tryz.strings_Cut raw ⟨#[13, 10, 13, 10]⟩ m w (by omega) hm
  rw [show (⟨#[13, 10, 13, 10]⟩ : ByteArray).data.toList = [13, 10, 13, 10] from rfl, e2] at C1
  have C2 := Lib.hid (fun W => Tryz.strings_HasPrefix raw ⟨#[13, 10]⟩ W)
  rw [pre2_has, hp] at C2
  have C3 := Lib.hid (fun W (hW : Below w.heap.size w W) => split_crlf (mkS (dvT raw)) W (by rw [mkS_size]; omega) (by obtain ⟨m, hm⟩ := hmx; exact ⟨m, cell_kept hW hm⟩))
  rw [mkS_list, ← e1, hx] at C3
  simp only at C1
  rw [show (⟨(dvT raw).toArray⟩ : ByteArray) = mkS (dvT raw) from rfl, show (⟨((hdR raw).data.toList).toArray⟩ : ByteArray) = hdR raw from mkS_self _] at C1
  have C1 := Lib.hid C1
  unfold Dvd
  generalize hdR raw = rs at *
  generalize mkS (dvT raw) = T at *
  have HLN := Lib.hid (show (x :: tl).length = tl.length + 1 from rfl)
  have HBN : Hid (∀ k, Below w.heap.size w (w.drewN k)) := fun k => below_drawn (Below.refl _ _) k
  clear hl hm HT hb e1 e2 hp hle hmx hx hdv
  go_enter Tryz.func27, Tryz.ntmps27
  go_wp2_with fail
  refine C1.out.mono ?_
  rintro e w1 ⟨rfl, k, hk⟩
  have HB1 := Lib.hid (show Below w.heap.size w w1 by rw [hk]; exact HBN.out k)
  clear hk HBN
  go_wp2_with fail
  refine (C2.out _).mono ?_
  rintro e w2 ⟨rfl, rfl⟩
  go_wp2_with fail
  refine (C3.out _ HB1.out).mono ?_
  rintro e w3 ⟨rfl, hS, hb3⟩
  obtain ⟨N, hN⟩ : ∃ N, (x :: tl).length = N := ⟨_, rfl⟩
  have hN2 : N = tl.length + 1 := by rw [← hN]; rfl
  rw [hN] at hS ⊢
  have hN0 : 0 < N := by omega
  have hN1 : (0 : Int) < (N : Int) := by omega
  have hN3 : (1 : Int) ≤ (N : Int) := by omega
  have HB3 := Lib.hid (below_then HB1.out hb3)
  have hg : w2.heap.size < w3.heap.size := by
    obtain ⟨ad, ha, hc⟩ := hS.at_ (by omega)
    cases ha
    exact World.block_lt_of_cell? w3 _ (hc 0 x rfl)
  have HG := Lib.hid hg
  have HSZ := Lib.hid HB1.out.size
  have hc0 : w3.cell? ⟨w2.heap.size, 0, none⟩ = some (.string (mkS x)) := by
    obtain ⟨ad, ha, hc⟩ := hS.at_ (by omega)
    cases ha
    exact hc 0 x rfl
  have HC := Lib.hid hc0
  have HS := Lib.hid hS
  clear hS hb3 hN hN2 hg hc0 HLN
  generalize w2.heap.size = G at *
  by_cases hc : N = 1
  · subst hc
    have HT := Lib.hid (SlS.tail1 HS.out)
    clear HS
    obtain ⟨X1, hX1⟩ : ∃ y, y = mkS x := ⟨_, rfl⟩
    rw [← hX1] at HC
    have HX := Lib.hid hX1
    clear hX1
    go_wp2_with fail
    go_region_held3 (fun W => W.cell? ⟨G, 0, none⟩ = some (.string X1)) (first | exact HC.out | exact Lib.cell?_alloc_some _ HC.out) (first | fail)
    go_wp2_with fail
    go_ret2
    exact ⟨w3.heap.size, _, _, _, rfl, by rw [← HX.out]; exact (Msg.made HT.out (fun ad ha => by cases ha; exact HG.out) X1 rs).drew, Nat.le_trans HSZ.out (Nat.le_of_lt HG.out), (HB3.out.alloc HB3.out.size _).drew⟩
  · have HT := Lib.hid (SlS.tail2 HS.out)
    clear HS
    obtain ⟨X1, hX1⟩ : ∃ y, y = mkS x := ⟨_, rfl⟩
    rw [← hX1] at HC
    have HX := Lib.hid hX1
    clear hX1
    go_wp2_with fail
    go_region_held3 (fun W => W.cell? ⟨G, 0, none⟩ = some (.string X1)) (first | exact HC.out | exact Lib.cell?_alloc_some _ HC.out) (first | fail)
    go_wp2_with fail
    go_ret2
    exact ⟨w3.heap.size, _, _, _, rfl, by rw [← HX.out]; exact (Msg.made HT.out (fun ad ha => by cases ha; exact HG.out) X1 rs).drew, Nat.le_trans HSZ.out (Nat.le_of_lt HG.out), (HB3.out.alloc HB3.out.size _).drew⟩

end Go.Proofs.YtjcomlklmfeimaaGreatDoor
end

/-
  Contract of package message's read: the fields of a head's lines.
-/
section
namespace Go.Proofs.YtjcomlklmfeimaaGreatDoor
open Go.RowKit

/-- 'append(out, xs...)' on fields at a step of a region that draws its order: out the call's own, xs not nil. -/
theorem step_append_slf {P : Program} {ops : Array Oper} {o : Oper} {a : Act} {w : World} {K : Act → World → Prop} {Q : Exit → Act → World → Prop} {E : Prop} (hgd : o.guard = none) (s x : Operand) (t : TypeId)
    (ho : o.op = .call { callee := .builtin .append, args := #[s, x], argTypes := #[t, t] }) (base e : Nat) (ht : P.underlying t = some (.slice e))
    (hI : (P.info? e).map (fun i => (i.zero, i.size, i.bytes)) = some (some (.agg #[.string ⟨#[]⟩, .string ⟨#[]⟩]), 2, 32)) (v : Value) (hs : a.eval s = v) (X : List Fd) (hown : OwnF w base e v X)
    (ad : Addr) (m c : Nat) (hx : a.eval x = .slice (some ad) m c) (Y : List Fd) (hY : SlF w (some ad) m c Y) (hm : 0 < m) (hlen : X.length + Y.length ≤ 1000000000) (hbase : base ≤ w.heap.size) (w0 : World) (hb : Below base w0 w)
    (h : ∀ v' w', Hid (OwnF w' base e v' (X ++ Y)) → Below base w0 w' → w.heap.size ≤ w'.heap.size → Hid (∀ (p : Addr) u, w.cell? p = some u → some p.block ≠ v.ownBlock → w'.cell? p = some u) → K (a.put o.dst v') w') :
    if Region.wanted o (yielded ops a.tmps) = true then Oper.wp P o a w K Q else E := by
  obtain ⟨i0, hi, hz0, hz1, hz2⟩ := info_parts hI
  have hl := hY.len
  refine step_append_lies w hgd s x t ho base e i0 (.agg #[.string ⟨#[]⟩, .string ⟨#[]⟩]) 2 32 ht hi hz0 hz1 hz2 rfl (by decide) v _ _ hs hown ad m c (fdC Y) hx (by rw [fdC_len, hl]) hY.news (fdC_ones _) hm (by unfold maxLen; omega) (by omega) hbase _ rfl ?_
  intro g cap w' hown' hgrow _ _
  refine h _ w' ?_ (hb.grown hgrow hbase (fun k hk => (hown.lt k hk).1)) hgrow.size (fun p u hc hne => hgrow.cell hc hne)
  show World.ownsRow _ _ _ _ _ _ _
  rw [List.length_append, hl, fdC_append]
  exact hown'

set_option maxHeartbeats 8000000 in
set_option maxRecDepth 100000 in
theorem read_any (w : World) (P : Nat) (st : ByteArray) (A : Option Addr) (n c : Nat) (L : List (List UInt8)) (mi : Int) (rs : ByteArray) (h : Msg w P st A n c L mi (.slice none 0 0) [] rs) (hn : L.length ≤ 1000000) (hz : ∀ x ∈ L, x.length ≤ 1000000) :
    Calls Tryz.prog 29 #[.pointer (some ⟨P, 0, none⟩)] w fun e w' => e = .returned (.int .i64 (rwE L)) ∧ (rwE L = 0 → ∃ v, Msg w' P st A n c L mi v (rwF L) rs) ∧ Below P w w' := by
  have hlen := h.lines.len
  subst hlen
  obtain ⟨c0, c1, c2, c3, c4, hfr⟩ := h.cells
  by_cases hl : 64 < L.length
  · have h1 : rwE L = 4 := by unfold rwE; rw [if_pos hl]
    have HR := Lib.hid h1
    have hl' : (64 : Int) < (L.length : Int) := by omega
    clear h1 h c0 c2 c3 c4 hl hz hn hfr
    go_enter Tryz.func29, Tryz.ntmps29
    go_wp2_with fail
    go_ret
    exact ⟨by rw [HR.out]; rfl, (fun h => absurd (HR.out.symm.trans h) (by decide)), Below.refl _ _⟩
  · have hE : rwE L = fsE L := by unfold rwE; rw [if_neg hl]
    have hYes : rwE L = 0 → rwF L = L.map (fun x => flF (mkS x)) := fun h => by unfold rwF; rw [if_pos h]
    have hl' : ¬ (64 : Int) < (L.length : Int) := by omega
    generalize rwE L = E at *
    generalize rwF L = RF at *
    have HE := Lib.hid hE
    have HYE := Lib.hid hYes
    have HM := Lib.hid h
    have hLn := h.lines
    have HLT := Lib.hid h.lt
    have HN := Lib.hid hn
    clear hE hYes hl h c0 c2 c3 c4 hfr hn
    go_enter Tryz.func29, Tryz.ntmps29
    go_wp2_with fail
    go_loopw [18] (fun i wr => ∃ (k : Nat) (v : Value), k ≤ L.length ∧ i = .int .i64 (k : Int) ∧ Hid (Msg wr P st A L.length c L mi v ((L.take k).map fun x => flF (mkS x)) rs) ∧ Hid (E = fsE (L.drop k)) ∧ Below P w wr) (fun i _ => L.length - (intOf i).toNat)
    case atStart => exact ⟨0, _, Nat.zero_le _, rfl, HM.out, HE.out, Below.refl _ _⟩
    case round =>
      obtain ⟨k, v, hk, rfl, hmsg, he, hbel⟩ := hrel
      by_cases hlt : k < L.length
      · obtain ⟨ad, rfl, hc⟩ := hmsg.out.lines.at_ (by omega)
        have hcell := hc k L[k] (List.getElem?_eq_getElem hlt)
        have hst := fsE_step hlt
        have hsz := hz _ (List.getElem_mem hlt)
        have hfl := flF_le (mkS L[k])
        rw [mkS_size] at hfl
        have HT : Hid ((L.take (k + 1)).map (fun x => flF (mkS x)) = (L.take k).map (fun x => flF (mkS x)) ++ [flF (mkS L[k])]) := by
          show _ = _
          rw [take_list L k hlt, List.map_append]; rfl
        have hxl : ((L.take k).map fun x => flF (mkS x)).length ≤ k := by rw [List.length_map, List.length_take]; omega
        generalize hX : ((L.take k).map fun x => flF (mkS x)) = X at *
        have hms : (mkS L[k]).size ≤ maxLen := by rw [mkS_size]; have : (1000000 : Nat) ≤ maxLen := by decide
                                                  omega
        have CP := Lib.hid (fun W => parse_any (mkS L[k]) W hms)
        have hcode := flX_code (mkS L[k])
        generalize flF (mkS L[k]) = fd at *
        generalize flX (mkS L[k]) = fx at *
        generalize mkS L[k] = ms at *
        obtain ⟨fa, fb⟩ := fd
        have hfa : fa.size ≤ maxLen ∧ fb.size ≤ maxLen := by
          have : (1000000 : Nat) ≤ maxLen := by decide
          exact ⟨by have := hfl.1; simp only at this; omega, by have := hfl.2; simp only at this; omega⟩
        unfold fdV at CP
        have hi0 : (0 : Int) ≤ (k : Int) := by omega
        have hi1 : (k : Int) < (L.length : Int) := by omega
        have hsP := hmsg.out.size
        have HN2 := HN.out
        have HXL := Lib.hid (show X.length + 1 ≤ 1000000000 by omega)
        clear hc hX hfl hsz hms HN2 hxl
        by_cases hx0 : fx = 0
        · have HE2 : Hid (E = fsE (L.drop (k + 1))) := by show _ = _; rw [he.out, hst, if_pos hx0]
          subst hx0
          clear he hst hcode HYE HE
          go_wp2_with fail
          refine (CP.out _).mono ?_
          rintro e w1 ⟨rfl, hb1⟩
          have HM1 := Lib.hid (hmsg.out.below hb1)
          have HB1 := Lib.hid (hbel.trans (hb1.mono (Nat.le_of_lt hsP)))
          have HP1 := Lib.hid (Nat.lt_of_lt_of_le hsP hb1.size)
          clear hb1 hmsg hbel hsP
          generalize hW2 : w1.alloc (.cells #[.string fa, .string fb] 105) = W2 at *
          go_wp2_with fail
          have HM2 : Hid (Msg W2 P st (some ad) L.length c L mi v X rs) := by show Msg _ _ _ _ _ _ _ _ _ _ _; rw [← hW2]; exact HM1.out.below ((Below.refl _ _).alloc (Nat.le_refl _) _)
          have HB2 : Hid (Below P w W2) := by show Below _ _ _; rw [← hW2]; exact HB1.out.alloc (Nat.le_of_lt HP1.out) _
          have HP2 : Hid (P + 1 ≤ W2.heap.size) := by show _ ≤ _; rw [← hW2, World.size_alloc]; have := HP1.out; omega
          obtain ⟨_, _, _, q3, _, qf⟩ := HM2.out.cells
          have q3' : (W2.alloc (.cells #[.string fa, .string fb] 105)).cell? ⟨P, 3, none⟩ = some v := Lib.cell?_alloc_some _ q3
          have qz : W2.heap[w1.heap.size]? = some (.cells #[.string fa, .string fb] 105 (0, 0)) := by rw [← hW2]; exact heap_alloc_new w1 _
          have qa := (zero_two qz).1
          have qb := (zero_two qz).2
          have HSL : Hid (SlF (W2.alloc (.cells #[.string fa, .string fb] 105)) (some ⟨W2.heap.size, 0, none⟩) 1 1 [(fa, fb)]) := SlF.one W2 105 (fa, fb) hfa
          have HO2 : Hid (OwnF W2 (P + 1) 105 v X) := HM2.out.own
          clear hW2 hfa HM1 HB1 HP1 qz
          generalize w1.heap.size = G at *
          go_region_law (refine step_append_slf (by rfl) _ _ 23 (by rfl) (P + 1) 105 Tryz.underlying23 (by kernel_rfl) _ (by rfl) X ((HO2.out.alloc _).drew) _ 1 1 (by rfl) [(fa, fb)] HSL.out.drew (by omega) (by show X.length + 1 ≤ _; exact HXL.out) (by simp; have := HP2.out; omega) W2 (((Below.refl _ _).alloc (by have := HP2.out; omega) _).drew) ?_; intro v2 w3 ho3 hb3 hs3 hk3; have HM3 := Lib.hid (HM2.out.fields hb3 ho3.out); have HB3 := Lib.hid (HB2.out.trans (hb3.mono (Nat.le_succ P))); obtain ⟨A3, c3, rfl⟩ := ho3.out.form; have d1 : w3.cell? ⟨P, 3, none⟩ = some v := (World.cell?_of_block (hb3.block P (Nat.lt_succ_self P))).trans q3; have e1 : w3.frozen? ⟨P, 3, none⟩ = false := (hb3.frozen (p := ⟨P, 3, none⟩) (Nat.lt_succ_self P)).trans (qf 3); obtain ⟨N3, hN3⟩ : ∃ k, (X ++ [(fa, fb)]).length = k := ⟨_, rfl⟩; rw [hN3] at HM3 ⊢; clear hb3 hs3 hk3 ho3 hN3)
          all_goals
            go_wp2_with fail
            go_roundw
            case rel => exact ⟨k + 1, _, by omega, by go_num, by show Msg _ _ _ _ _ _ _ _ _ _ _; rw [HT.out]; exact HM3.out, HE2, HB3.out.setCell (p := ⟨P, 3, none⟩) (Nat.le_refl _) _⟩
            case measure => simp [intOf]; omega
        · have hE2 : E = fx := by rw [he.out, hst, if_neg hx0]
          have HE2 := Lib.hid hE2
          have HX0 := Lib.hid hx0
          clear he hst hE2 HYE HE
          go_wp2_with fail
          refine (CP.out _).mono ?_
          rintro e w1 ⟨rfl, hb1⟩
          have HB1 := Lib.hid (hbel.trans (hb1.mono (Nat.le_of_lt hsP)))
          have HP1 := Lib.hid (Nat.lt_of_lt_of_le hsP hb1.size)
          clear hb1 hmsg hbel hsP
          go_wp2_with fail
          go_ret
          exact ⟨by rw [HE2.out]; rfl, (fun h => absurd (HE2.out.symm.trans h) HX0.out), HB1.out.alloc (Nat.le_of_lt HP1.out) _⟩
      · have hE2 : E = 0 := by rw [he.out, List.drop_eq_nil_of_le (by omega)]; rfl
        have hR := HYE.out hE2
        have hT : (L.take k).map (fun x => flF (mkS x)) = RF := by rw [hR, List.take_of_length_le (by omega)]
        rw [hT] at hmsg
        have HE2 := Lib.hid hE2
        have hi1 : ¬ (k : Int) < (L.length : Int) := by omega
        clear he hE2 hR hT HYE HE
        go_wp2_with fail
        go_ret
        exact ⟨by rw [HE2.out]; rfl, fun _ => ⟨v, hmsg.out⟩, hbel⟩

end Go.Proofs.YtjcomlklmfeimaaGreatDoor
end

/-
  Contracts of package message's bodies: none, all, counted, coded, body, replyBody.
-/
section
namespace Go.Proofs.YtjcomlklmfeimaaGreatDoor
open Go.RowKit

theorem decN_le {s : ByteArray} (h : decE s = 0) : decN s ≤ (s.size : Int) := by
  obtain ⟨D, hD⟩ : ∃ D, decD s = D := ⟨_, rfl⟩
  obtain ⟨c, x, y⟩ := D
  by_cases hc : c = 0
  · subst hc
    rw [(dec_ok hD).2.1]; omega
  · rw [(dec_bad hD hc).2.2] at h
    exact absurd h hc

/-- A message being parsed whose fields are known. -/
structure MsgF (w : World) (P : Nat) (L : List Fd) (mi : Int) (A : Option Addr) (c : Nat) (rs : ByteArray) : Prop where
  c2 : w.cell? ⟨P, 2, none⟩ = some (.int .i64 mi)
  c3 : w.cell? ⟨P, 3, none⟩ = some (.slice A L.length c)
  c4 : w.cell? ⟨P, 4, none⟩ = some (.string rs)
  f : SlF w A L.length c L
theorem MsgF.below {w w' : World} {P : Nat} {L : List Fd} {mi : Int} {A : Option Addr} {c : Nat} {rs : ByteArray} (h : MsgF w P L mi A c rs) (hb : Below w.heap.size w w') : MsgF w' P L mi A c rs :=
  ⟨cell_kept hb h.c2, cell_kept hb h.c3, cell_kept hb h.c4, h.f.below hb⟩

theorem none_any (P : Nat) (rs : ByteArray) (w : World) (h : w.cell? ⟨P, 4, none⟩ = some (.string rs)) :
    Calls Tryz.prog 32 #[.pointer (some ⟨P, 0, none⟩)] w fun e w' => e = .returned (.tuple #[.string ⟨#[]⟩, .int .i64 (if rs.size = 0 then 0 else 22)]) ∧ Below w.heap.size w w' := by
  by_cases hz : rs.size = 0
  · have hem := nil_str hz
    rw [if_pos hz]
    go_enter Tryz.func32, Tryz.ntmps32
    go_wp2_with fail
    go_ret2
    exact ⟨rfl, Below.refl _ _⟩
  · have hem := non_str hz
    rw [if_neg hz]
    go_enter Tryz.func32, Tryz.ntmps32
    go_wp2_with fail
    go_ret2
    exact ⟨rfl, Below.refl _ _⟩
theorem allB_any (P : Nat) (rs : ByteArray) (w : World) (h : w.cell? ⟨P, 4, none⟩ = some (.string rs)) :
    Calls Tryz.prog 79 #[.pointer (some ⟨P, 0, none⟩)] w fun e w' => e = .returned (.tuple #[.string rs, .int .i64 0]) ∧ Below w.heap.size w w' := by
  go_enter Tryz.func79, Tryz.ntmps79
  go_wp2_with fail
  go_ret2
  exact ⟨rfl, Below.refl _ _⟩

set_option maxHeartbeats 2000000 in
set_option maxRecDepth 100000 in
theorem counted_any (w : World) (P : Nat) (st : ByteArray) (A : Option Addr) (n c : Nat) (L : List (List UInt8)) (mi : Int) (A2 : Option Addr) (c2 : Nat) (X : List Fd) (rs : ByteArray) (op : Bool) (h : Msg w P st A n c L mi (.slice A2 X.length c2) X rs)
    (hX : SlF w A2 X.length c2 X) (hn : X.length ≤ 1000000) (hB : ∀ x ∈ X, Bd x) (hT : ¬ 0 < (fdAll X teS).length) (hC : 0 < (fdAll X clS).length) :
    Calls Tryz.prog 68 #[.pointer (some ⟨P, 0, none⟩)] w fun e w' => e = .returned (.tuple #[.string (bodB X rs mi op), .int .i64 (bodE X rs mi op)]) ∧ Below w.heap.size w w' := by
  have C1 := Lib.hid (length_any w P st A n c L mi A2 X.length c2 X rs h hX hn hB)
  have hE : bodE X rs mi op = if lnB (fdAll X clS) then (if lnA (fdAll X clS) < (rs.size : Int) then 22 else if (rs.size : Int) < lnA (fdAll X clS) then 6 else 0) else 22 := bdE_cl hT hC
  have hno : ∀ k : Int, bodE X rs mi op = k → k ≠ 0 → bodE X rs mi op = k ∧ bodB X rs mi op = ⟨#[]⟩ := fun k h hk => bd_22 h hk
  have hok : bodE X rs mi op = 0 → bodE X rs mi op = 0 ∧ bodB X rs mi op = if 0 < (fdAll X teS).length then decB rs else rs := fun h => bd_ok h
  rw [if_neg hT] at hok
  obtain ⟨_, _, _, _, q4, _⟩ := h.cells
  have hp : lnB (fdAll X clS) = true → lnP (fdAll X clS) = lnA (fdAll X clS) := fun h => by unfold lnP; rw [h]; rfl
  generalize bodE X rs mi op = RE at *
  generalize bodB X rs mi op = RB at *
  generalize fdAll X clS = V at *
  generalize lnB V = b at *
  generalize lnP V = N at *
  generalize lnA V = M at *
  clear h hX hB hn hT hC
  cases b with
  | false =>
    have HR := Lib.hid (hno 22 hE (by decide))
    clear hno hok hp hE
    go_enter Tryz.func68, Tryz.ntmps68
    go_wp2_with fail
    refine C1.out.mono ?_
    rintro e w1 ⟨rfl, hb1⟩
    have q4' := cell_kept hb1 q4
    have HB1 := Lib.hid hb1
    clear hb1
    go_wp2_with fail
    go_ret2
    exact ⟨by rw [HR.out.1, HR.out.2]; rfl, HB1.out⟩
  | true =>
    obtain rfl := hp rfl
    rw [if_pos rfl] at hE
    by_cases h1 : N < (rs.size : Int)
    · rw [if_pos h1] at hE
      have HR := Lib.hid (hno 22 hE (by decide))
      have h2 : ¬ (rs.size : Int) < N := by omega
      clear hno hok hp hE
      go_enter Tryz.func68, Tryz.ntmps68
      go_wp2_with fail
      refine C1.out.mono ?_
      rintro e w1 ⟨rfl, hb1⟩
      have q4' := cell_kept hb1 q4
      have HB1 := Lib.hid hb1
      clear hb1
      go_wp2_with fail
      go_ret2
      exact ⟨by rw [HR.out.1, HR.out.2]; rfl, HB1.out⟩
    · rw [if_neg h1] at hE
      by_cases h2 : (rs.size : Int) < N
      · rw [if_pos h2] at hE
        have HR := Lib.hid (hno 6 hE (by decide))
        clear hno hok hp hE
        go_enter Tryz.func68, Tryz.ntmps68
        go_wp2_with fail
        refine C1.out.mono ?_
        rintro e w1 ⟨rfl, hb1⟩
        have q4' := cell_kept hb1 q4
        have HB1 := Lib.hid hb1
        clear hb1
        go_wp2_with fail
        go_ret2
        exact ⟨by rw [HR.out.1, HR.out.2]; rfl, HB1.out⟩
      · rw [if_neg h2] at hE
        have HR := Lib.hid (hok hE)
        clear hno hok hp hE
        go_enter Tryz.func68, Tryz.ntmps68
        go_wp2_with fail
        refine C1.out.mono ?_
        rintro e w1 ⟨rfl, hb1⟩
        have q4' := cell_kept hb1 q4
        have HB1 := Lib.hid hb1
        clear hb1
        go_wp2_with fail
        go_ret2
        exact ⟨by rw [HR.out.1, HR.out.2]; rfl, HB1.out⟩

set_option maxHeartbeats 4000000 in
set_option maxRecDepth 100000 in
theorem coded_any (w : World) (P : Nat) (mi : Int) (A2 : Option Addr) (c2 : Nat) (X : List Fd) (rs : ByteArray) (op : Bool) (h : MsgF w P X mi A2 c2 rs)
    (hn : X.length ≤ 1000000) (hB : ∀ x ∈ X, Bd x) (hrs : rs.size ≤ 1000000) (HT : ChkTabs w) (hT : 0 < (fdAll X teS).length) :
    Calls Tryz.prog 67 #[.pointer (some ⟨P, 0, none⟩)] w fun e w' => e = .returned (.tuple #[.string (bodB X rs mi op), .int .i64 (bodE X rs mi op)]) ∧ Below w.heap.size w w' := by
  have C1 := Lib.hid (all_any A2 X.length c2 X teS w h.f (by omega) hB teS_le)
  have C3 := Lib.hid (fun W (hW : Below w.heap.size w W) => count_any A2 X.length c2 X clS W (h.f.below hW) (by omega) hB clS_le)
  have C4 := Lib.hid (fun W (hW : Below w.heap.size w W) => decode_any rs W hrs (HT.kept hW))
  have hE : bodE X rs mi op = if teB (fdAll X teS) (fdAll X clS) mi then (if decE rs = 0 then (if decN rs = (rs.size : Int) then 0 else 22) else decE rs) else 22 := bdE_te hT
  have hno : ∀ k : Int, bodE X rs mi op = k → k ≠ 0 → bodE X rs mi op = k ∧ bodB X rs mi op = ⟨#[]⟩ := fun k h hk => bd_22 h hk
  have hok : bodE X rs mi op = 0 → bodE X rs mi op = 0 ∧ bodB X rs mi op = if 0 < (fdAll X teS).length then decB rs else rs := fun h => bd_ok h
  rw [if_pos hT] at hok
  have hTB : teB (fdAll X teS) (fdAll X clS) mi = (((decide (mi = 1) && decide ((fdAll X teS).length = 1)) && sameB (mkS ((fdAll X teS).headD [])) ckS) && decide ((fdAll X clS).length = 0)) := rfl
  have hz : ∀ y ∈ fdAll X teS, y.length ≤ 1000000000 := fun y hy => by
    unfold fdAll at hy
    obtain ⟨x, hx, rfl⟩ := List.mem_map.1 hy
    have := (hB x (List.mem_filter.1 hx).1).2
    rw [← Lib.size_eq]; exact this
  have hl : (fdAll X clS).length ≤ 1000000 := by have := drop_all X clS; omega
  have hdl := decN_le (s := rs)
  have HM := Lib.hid h
  obtain ⟨m2, m3, m4, _⟩ := h
  generalize bodE X rs mi op = RE at *
  generalize bodB X rs mi op = RB at *
  generalize fdAll X teS = T at *
  generalize (fdAll X clS).length = k at *
  generalize teB T (fdAll X clS) mi = tb at *
  unfold teS at C1
  unfold clS at C3
  clear HT
  by_cases hv : mi = 1
  · subst hv
    by_cases h1 : T.length = 1
    · obtain ⟨x, rfl⟩ : ∃ x, T = [x] := by
        match T, h1 with
        | [x], _ => exact ⟨x, rfl⟩
      have hxz := hz x (List.mem_singleton_self _)
      have C2 := Lib.hid (fun W => same_any (mkS x) ckS W (by rw [mkS_size]; unfold maxLen; omega) ckS_le)
      have hTB2 : tb = (sameB (mkS x) ckS && decide (k = 0)) := by rw [hTB]; rfl
      obtain ⟨mx, hmx⟩ : ∃ mx, mx = mkS x := ⟨_, rfl⟩
      rw [← hmx] at C2 hTB2
      have HX := Lib.hid hmx
      generalize sameB mx ckS = sm at *
      unfold ckS at C2
      clear hTB h1 hz hxz hT hmx
      cases sm with
      | false =>
        subst hTB2
        have HR := Lib.hid (hno 22 hE (by decide))
        clear hno hok hE hdl C3 C4
        go_enter Tryz.func67, Tryz.ntmps67
        go_wp2_with fail
        refine C1.out.mono ?_
        rintro e w1 ⟨A1, c1, rfl, hS1, _, hb1⟩
        have HM1 := Lib.hid (HM.out.below hb1)
        have HB1 := Lib.hid hb1
        have HS1 := Lib.hid hS1
        obtain ⟨m2, m3, m4, _⟩ := HM1.out
        clear hb1 hS1
        have hx0 := HS1.out.at_ (by simp)
        obtain ⟨ad, rfl, hat⟩ := hx0
        have hcell := hat 0 x rfl
        rw [show ad.add 0 = ad by simp [Addr.add], ← HX.out] at hcell
        clear hat
        go_wp2_with fail
        refine (C2.out _).mono ?_
        rintro e w2 ⟨rfl, hb2⟩
        have HM2 := Lib.hid (HM1.out.below hb2)
        have HB2 := Lib.hid (below_then HB1.out hb2)
        clear hb2
        clear m2 m3 m4 hcell
        obtain ⟨m2, m3, m4, _⟩ := HM2.out
        go_wp2_with fail
        go_ret2
        exact ⟨by rw [HR.out.1, HR.out.2]; rfl, HB2.out⟩
      | true =>
        by_cases hk : k = 0
        · obtain rfl : tb = true := by rw [hTB2, decide_eq_true hk]; rfl
          rw [if_pos rfl] at hE
          subst hk
          clear hTB2
          by_cases hD : decE rs = 0
          · rw [if_pos hD] at hE
            have hdl := hdl hD
            rw [hD] at C4
            generalize decN rs = N at *
            generalize decB rs = DB at *
            clear hD
            by_cases hN : N = (rs.size : Int)
            · rw [if_pos hN] at hE
              have HR := Lib.hid (hok hE)
              have hlt : ¬ N < (rs.size : Int) := by omega
              clear hno hok hE hN hdl
              go_enter Tryz.func67, Tryz.ntmps67
              go_wp2_with fail
              refine C1.out.mono ?_
              rintro e w1 ⟨A1, c1, rfl, hS1, _, hb1⟩
              have HM1 := Lib.hid (HM.out.below hb1)
              have HB1 := Lib.hid hb1
              have HS1 := Lib.hid hS1
              obtain ⟨m2, m3, m4, _⟩ := HM1.out
              clear hb1 hS1
              have hx0 := HS1.out.at_ (by simp)
              obtain ⟨ad, rfl, hat⟩ := hx0
              have hcell := hat 0 x rfl
              rw [show ad.add 0 = ad by simp [Addr.add], ← HX.out] at hcell
              clear hat
              go_wp2_with fail
              refine (C2.out _).mono ?_
              rintro e w2 ⟨rfl, hb2⟩
              have HM2 := Lib.hid (HM1.out.below hb2)
              have HB2 := Lib.hid (below_then HB1.out hb2)
              clear hb2
              clear m2 m3 m4 hcell
              obtain ⟨m2, m3, m4, _⟩ := HM2.out
              go_wp2_with fail
              refine (C3.out _ HB2.out).mono ?_
              rintro e w3 ⟨rfl, hb3⟩
              have HM3 := Lib.hid (HM2.out.below hb3)
              have HB3 := Lib.hid (below_then HB2.out hb3)
              clear hb3
              clear m2 m3 m4
              obtain ⟨m2, m3, m4, _⟩ := HM3.out
              go_wp2_with fail
              refine (C4.out _ HB3.out).mono ?_
              rintro e w4 ⟨rfl, hb4⟩
              have HB4 := Lib.hid (below_then HB3.out hb4)
              have m4' := cell_kept hb4 m4
              clear hb4 m2 m3 m4
              go_wp2_with fail
              go_ret2
              exact ⟨by rw [HR.out.1, HR.out.2]; rfl, HB4.out⟩
            · rw [if_neg hN] at hE
              have HR := Lib.hid (hno 22 hE (by decide))
              have hlt : N < (rs.size : Int) := by omega
              clear hno hok hE hN hdl
              go_enter Tryz.func67, Tryz.ntmps67
              go_wp2_with fail
              refine C1.out.mono ?_
              rintro e w1 ⟨A1, c1, rfl, hS1, _, hb1⟩
              have HM1 := Lib.hid (HM.out.below hb1)
              have HB1 := Lib.hid hb1
              have HS1 := Lib.hid hS1
              obtain ⟨m2, m3, m4, _⟩ := HM1.out
              clear hb1 hS1
              have hx0 := HS1.out.at_ (by simp)
              obtain ⟨ad, rfl, hat⟩ := hx0
              have hcell := hat 0 x rfl
              rw [show ad.add 0 = ad by simp [Addr.add], ← HX.out] at hcell
              clear hat
              go_wp2_with fail
              refine (C2.out _).mono ?_
              rintro e w2 ⟨rfl, hb2⟩
              have HM2 := Lib.hid (HM1.out.below hb2)
              have HB2 := Lib.hid (below_then HB1.out hb2)
              clear hb2
              clear m2 m3 m4 hcell
              obtain ⟨m2, m3, m4, _⟩ := HM2.out
              go_wp2_with fail
              refine (C3.out _ HB2.out).mono ?_
              rintro e w3 ⟨rfl, hb3⟩
              have HM3 := Lib.hid (HM2.out.below hb3)
              have HB3 := Lib.hid (below_then HB2.out hb3)
              clear hb3
              clear m2 m3 m4
              obtain ⟨m2, m3, m4, _⟩ := HM3.out
              go_wp2_with fail
              refine (C4.out _ HB3.out).mono ?_
              rintro e w4 ⟨rfl, hb4⟩
              have HB4 := Lib.hid (below_then HB3.out hb4)
              have m4' := cell_kept hb4 m4
              clear hb4 m2 m3 m4
              go_wp2_with fail
              go_ret2
              exact ⟨by rw [HR.out.1, HR.out.2]; rfl, HB4.out⟩
          · rw [if_neg hD] at hE
            have HR := Lib.hid (hno (decE rs) hE hD)
            generalize decE rs = DE at *
            generalize decN rs = N at *
            generalize decB rs = DB at *
            clear hno hok hE hdl
            go_enter Tryz.func67, Tryz.ntmps67
            go_wp2_with fail
            refine C1.out.mono ?_
            rintro e w1 ⟨A1, c1, rfl, hS1, _, hb1⟩
            have HM1 := Lib.hid (HM.out.below hb1)
            have HB1 := Lib.hid hb1
            have HS1 := Lib.hid hS1
            obtain ⟨m2, m3, m4, _⟩ := HM1.out
            clear hb1 hS1
            have hx0 := HS1.out.at_ (by simp)
            obtain ⟨ad, rfl, hat⟩ := hx0
            have hcell := hat 0 x rfl
            rw [show ad.add 0 = ad by simp [Addr.add], ← HX.out] at hcell
            clear hat
            go_wp2_with fail
            refine (C2.out _).mono ?_
            rintro e w2 ⟨rfl, hb2⟩
            have HM2 := Lib.hid (HM1.out.below hb2)
            have HB2 := Lib.hid (below_then HB1.out hb2)
            clear hb2
            clear m2 m3 m4 hcell
            obtain ⟨m2, m3, m4, _⟩ := HM2.out
            go_wp2_with fail
            refine (C3.out _ HB2.out).mono ?_
            rintro e w3 ⟨rfl, hb3⟩
            have HM3 := Lib.hid (HM2.out.below hb3)
            have HB3 := Lib.hid (below_then HB2.out hb3)
            clear hb3
            clear m2 m3 m4
            obtain ⟨m2, m3, m4, _⟩ := HM3.out
            go_wp2_with fail
            refine (C4.out _ HB3.out).mono ?_
            rintro e w4 ⟨rfl, hb4⟩
            have HB4 := Lib.hid (below_then HB3.out hb4)
            have m4' := cell_kept hb4 m4
            clear hb4 m2 m3 m4
            go_wp2_with fail
            go_ret2
            exact ⟨by rw [HR.out.1, HR.out.2]; rfl, HB4.out⟩
        · obtain rfl : tb = false := by rw [hTB2, decide_eq_false hk]; rfl
          have HR := Lib.hid (hno 22 hE (by decide))
          have hk' : (0 : Int) < (k : Int) := by omega
          clear hno hok hE hdl C4 hTB2 hk
          go_enter Tryz.func67, Tryz.ntmps67
          go_wp2_with fail
          refine C1.out.mono ?_
          rintro e w1 ⟨A1, c1, rfl, hS1, _, hb1⟩
          have HM1 := Lib.hid (HM.out.below hb1)
          have HB1 := Lib.hid hb1
          have HS1 := Lib.hid hS1
          obtain ⟨m2, m3, m4, _⟩ := HM1.out
          clear hb1 hS1
          have hx0 := HS1.out.at_ (by simp)
          obtain ⟨ad, rfl, hat⟩ := hx0
          have hcell := hat 0 x rfl
          rw [show ad.add 0 = ad by simp [Addr.add], ← HX.out] at hcell
          clear hat
          go_wp2_with fail
          refine (C2.out _).mono ?_
          rintro e w2 ⟨rfl, hb2⟩
          have HM2 := Lib.hid (HM1.out.below hb2)
          have HB2 := Lib.hid (below_then HB1.out hb2)
          clear hb2
          clear m2 m3 m4 hcell
          obtain ⟨m2, m3, m4, _⟩ := HM2.out
          go_wp2_with fail
          refine (C3.out _ HB2.out).mono ?_
          rintro e w3 ⟨rfl, hb3⟩
          have HM3 := Lib.hid (HM2.out.below hb3)
          have HB3 := Lib.hid (below_then HB2.out hb3)
          clear hb3
          clear m2 m3 m4
          obtain ⟨m2, m3, m4, _⟩ := HM3.out
          go_wp2_with fail
          go_ret2
          exact ⟨by rw [HR.out.1, HR.out.2]; rfl, HB3.out⟩
    · obtain rfl : tb = false := by rw [hTB, decide_eq_false h1]; simp
      have HR := Lib.hid (hno 22 hE (by decide))
      have h1' : ¬ (T.length : Int) = 1 := by omega
      have h1b : ((T.length : Int) != 1) = true := by simpa using h1'
      clear hno hok hE hdl C3 C4 hTB h1 hz hT
      go_enter Tryz.func67, Tryz.ntmps67
      go_wp2_with fail
      refine C1.out.mono ?_
      rintro e w1 ⟨A1, c1, rfl, hS1, _, hb1⟩
      have HM1 := Lib.hid (HM.out.below hb1)
      have HB1 := Lib.hid hb1
      obtain ⟨m2, m3, m4, _⟩ := HM1.out
      clear hb1 hS1
      go_wp2_with fail
      go_ret2
      exact ⟨by rw [HR.out.1, HR.out.2]; rfl, HB1.out⟩
  · obtain rfl : tb = false := by rw [hTB, decide_eq_false hv]; simp
    have HR := Lib.hid (hno 22 hE (by decide))
    clear hno hok hE hdl C3 C4 hTB hz hT
    generalize T.length = TL at *
    go_enter Tryz.func67, Tryz.ntmps67
    go_wp2_with fail
    refine C1.out.mono ?_
    rintro e w1 ⟨A1, c1, rfl, hS1, _, hb1⟩
    have HM1 := Lib.hid (HM.out.below hb1)
    have HB1 := Lib.hid hb1
    obtain ⟨m2, m3, m4, _⟩ := HM1.out
    clear hb1 hS1
    go_wp2_with fail
    go_ret2
    exact ⟨by rw [HR.out.1, HR.out.2]; rfl, HB1.out⟩

set_option maxHeartbeats 4000000 in
set_option maxRecDepth 100000 in
theorem body_none (w : World) (P : Nat) (st : ByteArray) (A : Option Addr) (n c : Nat) (L : List (List UInt8)) (mi : Int) (A2 : Option Addr) (c2 : Nat) (X : List Fd) (rs : ByteArray) (h : Msg w P st A n c L mi (.slice A2 X.length c2) X rs)
    (hX : SlF w A2 X.length c2 X) (hn : X.length ≤ 1000000) (hB : ∀ x ∈ X, Bd x) (hrs : rs.size ≤ 1000000) (HT : ChkTabs w) :
    Calls Tryz.prog 31 #[.pointer (some ⟨P, 0, none⟩), .func (.func 32) #[.pointer (some ⟨P, 0, none⟩)] #[]] w fun e w' => e = .returned (.tuple #[.string (bodB X rs mi false), .int .i64 (bodE X rs mi false)]) ∧ Below w.heap.size w w' := by
  have C1 := Lib.hid (fun W (hW : Below w.heap.size w W) => count_any A2 X.length c2 X teS W (hX.below hW) (by omega) hB teS_le)
  have C2 := Lib.hid (fun W (hW : Below w.heap.size w W) => count_any A2 X.length c2 X clS W (hX.below hW) (by omega) hB clS_le)
  have HF : Hid (MsgF w P X mi A2 c2 rs) := by
    obtain ⟨_, _, q2, q3, q4, _⟩ := h.cells
    exact ⟨q2, q3, q4, hX⟩
  have HM := Lib.hid h
  obtain ⟨m2, m3, m4, _⟩ := HF.out
  have hlT : (fdAll X teS).length ≤ 1000000 := by have := drop_all X teS; omega
  have hlC : (fdAll X clS).length ≤ 1000000 := by have := drop_all X clS; omega
  by_cases hT : 0 < (fdAll X teS).length
  · have CC := Lib.hid (fun W (hW : Below w.heap.size w W) => coded_any W P mi A2 c2 X rs false (HF.out.below hW) hn hB hrs (HT.kept hW) hT)
    generalize bodE X rs mi false = RE at *
    generalize bodB X rs mi false = RB at *
    generalize (fdAll X teS).length = kT at *
    unfold teS at C1
    have hT' : (0 : Int) < (kT : Int) := by omega
    clear h hX hB hn hT HT C2
    go_enter Tryz.func31, Tryz.ntmps31
    go_wp2_with fail
    refine (C1.out _ (Below.refl _ _)).mono ?_
    rintro e w1 ⟨rfl, hb1⟩
    have HM1 := Lib.hid (HM.out.below hb1)
    have HF1 := Lib.hid (HF.out.below hb1)
    have HB1 := Lib.hid hb1
    clear m2 m3 m4
    obtain ⟨m2, m3, m4, _⟩ := HF1.out
    clear hb1
    go_wp2_with fail
    refine (CC.out _ HB1.out).mono ?_
    rintro e w9 ⟨rfl, hb9⟩
    have HB9 := Lib.hid (below_then HB1.out hb9)
    clear hb9
    go_wp2_with fail
    go_ret2
    exact ⟨rfl, HB9.out⟩
  · have hE0 : (fdAll X teS).length = 0 := by omega
    by_cases hC : 0 < (fdAll X clS).length
    · have CC := Lib.hid (fun W (hW : Below w.heap.size w W) => counted_any W P st A n c L mi A2 c2 X rs false (h.below hW) (hX.below hW) hn hB hT hC)
      generalize bodE X rs mi false = RE at *
      generalize bodB X rs mi false = RB at *
      rw [hE0] at C1
      generalize (fdAll X clS).length = kC at *
      unfold teS at C1
      unfold clS at C2
      have hC' : (0 : Int) < (kC : Int) := by omega
      clear h hX hB hn hT hC HT hE0 hlT
      go_enter Tryz.func31, Tryz.ntmps31
      go_wp2_with fail
      refine (C1.out _ (Below.refl _ _)).mono ?_
      rintro e w1 ⟨rfl, hb1⟩
      have HM1 := Lib.hid (HM.out.below hb1)
      have HF1 := Lib.hid (HF.out.below hb1)
      have HB1 := Lib.hid hb1
      clear m2 m3 m4
      obtain ⟨m2, m3, m4, _⟩ := HF1.out
      clear hb1
      go_wp2_with fail
      refine (C2.out _ HB1.out).mono ?_
      rintro e w2 ⟨rfl, hb2⟩
      have HM2 := Lib.hid (HM1.out.below hb2)
      have HF2 := Lib.hid (HF1.out.below hb2)
      have HB2 := Lib.hid (below_then HB1.out hb2)
      clear m2 m3 m4
      obtain ⟨m2, m3, m4, _⟩ := HF2.out
      clear hb2
      go_wp2_with fail
      refine (CC.out _ HB2.out).mono ?_
      rintro e w9 ⟨rfl, hb9⟩
      have HB9 := Lib.hid (below_then HB2.out hb9)
      clear hb9
      go_wp2_with fail
      go_ret2
      exact ⟨rfl, HB9.out⟩
    · have hC0 : (fdAll X clS).length = 0 := by omega
      have hE : bodE X rs mi false = if false then 0 else if rs.size = 0 then 0 else 22 := bdE_no hT hC
      have hno : ∀ k : Int, bodE X rs mi false = k → k ≠ 0 → bodE X rs mi false = k ∧ bodB X rs mi false = ⟨#[]⟩ := fun k h hk => bd_22 h hk
      have hok : bodE X rs mi false = 0 → bodE X rs mi false = 0 ∧ bodB X rs mi false = if 0 < (fdAll X teS).length then decB rs else rs := fun h => bd_ok h
      rw [if_neg hT] at hok
      have hval : bodB X rs mi false = ⟨#[]⟩ ∧ bodE X rs mi false = (if rs.size = 0 then 0 else 22) := by
        rw [if_neg (by decide)] at hE
        by_cases hz : rs.size = 0
        · rw [if_pos hz] at hE ⊢
          refine ⟨(hok hE).2.trans ?_, hE⟩
          rw [← mkS_self rs, show rs.data.toList = [] from List.eq_nil_of_length_eq_zero (by rw [← Lib.size_eq]; exact hz)]; rfl
        · rw [if_neg hz] at hE ⊢
          exact ⟨(hno _ hE (by decide)).2, hE⟩
      rw [hval.1, hval.2]
      have CC := Lib.hid (fun W (hW : W.cell? ⟨P, 4, none⟩ = some (.string rs)) => none_any P rs W hW)
      generalize (if rs.size = 0 then (0 : Int) else 22) = RE at *
      rw [hE0] at C1
      rw [hC0] at C2
      unfold teS at C1
      unfold clS at C2
      have eg : ∀ args W, (callFunc 32 args).run Tryz.prog W = .ok (.enter 32 args) W := Go.Proofs.enters_of Tryz.func32 (by kernel_rfl) rfl
      clear h hX hB hn hT hC HT hE0 hC0 hlT hlC hE hno hok hval
      go_enter Tryz.func31, Tryz.ntmps31
      go_wp2_with fail
      refine (C1.out _ (Below.refl _ _)).mono ?_
      rintro e w1 ⟨rfl, hb1⟩
      have HM1 := Lib.hid (HM.out.below hb1)
      have HF1 := Lib.hid (HF.out.below hb1)
      have HB1 := Lib.hid hb1
      clear m2 m3 m4
      obtain ⟨m2, m3, m4, _⟩ := HF1.out
      clear hb1
      go_wp2_with fail
      refine (C2.out _ HB1.out).mono ?_
      rintro e w2 ⟨rfl, hb2⟩
      have HM2 := Lib.hid (HM1.out.below hb2)
      have HF2 := Lib.hid (HF1.out.below hb2)
      have HB2 := Lib.hid (below_then HB1.out hb2)
      clear m2 m3 m4
      obtain ⟨m2, m3, m4, _⟩ := HF2.out
      clear hb2
      go_wp2_with fail
      refine (CC.out _ m4).mono ?_
      rintro e w9 ⟨rfl, hb9⟩
      have HB9 := Lib.hid (below_then HB2.out hb9)
      clear hb9
      go_wp2_with fail
      go_ret2
      exact ⟨rfl, HB9.out⟩

set_option maxHeartbeats 4000000 in
set_option maxRecDepth 100000 in
theorem body_all (w : World) (P : Nat) (st : ByteArray) (A : Option Addr) (n c : Nat) (L : List (List UInt8)) (mi : Int) (A2 : Option Addr) (c2 : Nat) (X : List Fd) (rs : ByteArray) (h : Msg w P st A n c L mi (.slice A2 X.length c2) X rs)
    (hX : SlF w A2 X.length c2 X) (hn : X.length ≤ 1000000) (hB : ∀ x ∈ X, Bd x) (hrs : rs.size ≤ 1000000) (HT : ChkTabs w) :
    Calls Tryz.prog 31 #[.pointer (some ⟨P, 0, none⟩), .func (.func 79) #[.pointer (some ⟨P, 0, none⟩)] #[]] w fun e w' => e = .returned (.tuple #[.string (bodB X rs mi true), .int .i64 (bodE X rs mi true)]) ∧ Below w.heap.size w w' := by
  have C1 := Lib.hid (fun W (hW : Below w.heap.size w W) => count_any A2 X.length c2 X teS W (hX.below hW) (by omega) hB teS_le)
  have C2 := Lib.hid (fun W (hW : Below w.heap.size w W) => count_any A2 X.length c2 X clS W (hX.below hW) (by omega) hB clS_le)
  have HF : Hid (MsgF w P X mi A2 c2 rs) := by
    obtain ⟨_, _, q2, q3, q4, _⟩ := h.cells
    exact ⟨q2, q3, q4, hX⟩
  have HM := Lib.hid h
  obtain ⟨m2, m3, m4, _⟩ := HF.out
  have hlT : (fdAll X teS).length ≤ 1000000 := by have := drop_all X teS; omega
  have hlC : (fdAll X clS).length ≤ 1000000 := by have := drop_all X clS; omega
  by_cases hT : 0 < (fdAll X teS).length
  · have CC := Lib.hid (fun W (hW : Below w.heap.size w W) => coded_any W P mi A2 c2 X rs true (HF.out.below hW) hn hB hrs (HT.kept hW) hT)
    generalize bodE X rs mi true = RE at *
    generalize bodB X rs mi true = RB at *
    generalize (fdAll X teS).length = kT at *
    unfold teS at C1
    have hT' : (0 : Int) < (kT : Int) := by omega
    clear h hX hB hn hT HT C2
    go_enter Tryz.func31, Tryz.ntmps31
    go_wp2_with fail
    refine (C1.out _ (Below.refl _ _)).mono ?_
    rintro e w1 ⟨rfl, hb1⟩
    have HM1 := Lib.hid (HM.out.below hb1)
    have HF1 := Lib.hid (HF.out.below hb1)
    have HB1 := Lib.hid hb1
    clear m2 m3 m4
    obtain ⟨m2, m3, m4, _⟩ := HF1.out
    clear hb1
    go_wp2_with fail
    refine (CC.out _ HB1.out).mono ?_
    rintro e w9 ⟨rfl, hb9⟩
    have HB9 := Lib.hid (below_then HB1.out hb9)
    clear hb9
    go_wp2_with fail
    go_ret2
    exact ⟨rfl, HB9.out⟩
  · have hE0 : (fdAll X teS).length = 0 := by omega
    by_cases hC : 0 < (fdAll X clS).length
    · have CC := Lib.hid (fun W (hW : Below w.heap.size w W) => counted_any W P st A n c L mi A2 c2 X rs true (h.below hW) (hX.below hW) hn hB hT hC)
      generalize bodE X rs mi true = RE at *
      generalize bodB X rs mi true = RB at *
      rw [hE0] at C1
      generalize (fdAll X clS).length = kC at *
      unfold teS at C1
      unfold clS at C2
      have hC' : (0 : Int) < (kC : Int) := by omega
      clear h hX hB hn hT hC HT hE0 hlT
      go_enter Tryz.func31, Tryz.ntmps31
      go_wp2_with fail
      refine (C1.out _ (Below.refl _ _)).mono ?_
      rintro e w1 ⟨rfl, hb1⟩
      have HM1 := Lib.hid (HM.out.below hb1)
      have HF1 := Lib.hid (HF.out.below hb1)
      have HB1 := Lib.hid hb1
      clear m2 m3 m4
      obtain ⟨m2, m3, m4, _⟩ := HF1.out
      clear hb1
      go_wp2_with fail
      refine (C2.out _ HB1.out).mono ?_
      rintro e w2 ⟨rfl, hb2⟩
      have HM2 := Lib.hid (HM1.out.below hb2)
      have HF2 := Lib.hid (HF1.out.below hb2)
      have HB2 := Lib.hid (below_then HB1.out hb2)
      clear m2 m3 m4
      obtain ⟨m2, m3, m4, _⟩ := HF2.out
      clear hb2
      go_wp2_with fail
      refine (CC.out _ HB2.out).mono ?_
      rintro e w9 ⟨rfl, hb9⟩
      have HB9 := Lib.hid (below_then HB2.out hb9)
      clear hb9
      go_wp2_with fail
      go_ret2
      exact ⟨rfl, HB9.out⟩
    · have hC0 : (fdAll X clS).length = 0 := by omega
      have hE : bodE X rs mi true = if true then 0 else if rs.size = 0 then 0 else 22 := bdE_no hT hC
      have hno : ∀ k : Int, bodE X rs mi true = k → k ≠ 0 → bodE X rs mi true = k ∧ bodB X rs mi true = ⟨#[]⟩ := fun k h hk => bd_22 h hk
      have hok : bodE X rs mi true = 0 → bodE X rs mi true = 0 ∧ bodB X rs mi true = if 0 < (fdAll X teS).length then decB rs else rs := fun h => bd_ok h
      rw [if_neg hT] at hok
      have hval : bodB X rs mi true = rs ∧ bodE X rs mi true = 0 := ⟨(hok hE).2, hE⟩
      rw [hval.1, hval.2]
      have CC := Lib.hid (fun W (hW : W.cell? ⟨P, 4, none⟩ = some (.string rs)) => allB_any P rs W hW)

      rw [hE0] at C1
      rw [hC0] at C2
      unfold teS at C1
      unfold clS at C2
      have eg : ∀ args W, (callFunc 79 args).run Tryz.prog W = .ok (.enter 79 args) W := Go.Proofs.enters_of Tryz.func79 (by kernel_rfl) rfl
      clear h hX hB hn hT hC HT hE0 hC0 hlT hlC hE hno hok hval
      go_enter Tryz.func31, Tryz.ntmps31
      go_wp2_with fail
      refine (C1.out _ (Below.refl _ _)).mono ?_
      rintro e w1 ⟨rfl, hb1⟩
      have HM1 := Lib.hid (HM.out.below hb1)
      have HF1 := Lib.hid (HF.out.below hb1)
      have HB1 := Lib.hid hb1
      clear m2 m3 m4
      obtain ⟨m2, m3, m4, _⟩ := HF1.out
      clear hb1
      go_wp2_with fail
      refine (C2.out _ HB1.out).mono ?_
      rintro e w2 ⟨rfl, hb2⟩
      have HM2 := Lib.hid (HM1.out.below hb2)
      have HF2 := Lib.hid (HF1.out.below hb2)
      have HB2 := Lib.hid (below_then HB1.out hb2)
      clear m2 m3 m4
      obtain ⟨m2, m3, m4, _⟩ := HF2.out
      clear hb2
      go_wp2_with fail
      refine (CC.out _ m4).mono ?_
      rintro e w9 ⟨rfl, hb9⟩
      have HB9 := Lib.hid (below_then HB2.out hb9)
      clear hb9
      go_wp2_with fail
      go_ret2
      exact ⟨rfl, HB9.out⟩

end Go.Proofs.YtjcomlklmfeimaaGreatDoor
end
