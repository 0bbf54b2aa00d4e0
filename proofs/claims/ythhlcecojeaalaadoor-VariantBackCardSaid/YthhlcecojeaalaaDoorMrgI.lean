/-
  Texts that the laws of this seat lean on, one behind the other.
-/
import Derived.Test.YthhlcecojeaalaaDoorMrgH
import Derived.Test.YthhlcecojeaalaaDoorMrgF
set_option linter.unusedSimpArgs false
set_option linter.unusedVariables false
/-
  Contract of the reference's PutText.
-/
section
namespace Go.Proofs.YthhlcecojeaalaaDoor
open Go.RowKit

theorem put_four (l : List UInt8) (n : Nat) (h : n ≤ 65536) : putE (n : Int) 4 = 0 ∧ wPutL l (n : Int) 4 = l ++ leL n 4 :=
  put_ok (n := (n : Int)) (k := 4) rfl (by
    have : (256 : Int) ^ ((4 : Int)).toNat = 4294967296 := rfl
    rw [this]
    omega) l

set_option maxHeartbeats 1000000 in
set_option maxRecDepth 100000 in
theorem r_puttext (A : Option Addr) (n c : Nat) (l : List UInt8) (s : ByteArray) (w : World) (h : Sl8 w A n c l) (hl : l.length ≤ 10000000) (hs : s.size ≤ maxLen) :
    Calls Tryd.prog 56 #[.slice A n c, .string s] w (Bytes2 w (ptL l s.data.toList) (ptE s.data.toList)) := by
  unfold maxLen at hs
  have HSZ := Lib.hid (Lib.size_eq s)
  by_cases hb : 65536 < s.size
  · have HG := Lib.hid (pt_long (s := s.data.toList) (by rw [← HSZ.out]; exact hb) l)
    go_enter Tryd.func56, Tryd.ntmps56
    go_wp2_with fail
    go_ret2
    rw [HG.out.1, HG.out.2]
    exact ⟨none, 0, 0, rfl, Sl8.none_ _, Below.refl _ _⟩
  · have HG := Lib.hid (pt_ok (s := s.data.toList) (by rw [← HSZ.out]; exact hb) l)
    have HP := Lib.hid (put_four l s.size (by omega))
    go_enter Tryd.func56, Tryd.ntmps56
    go_wp2_with fail
    refine (r_put_own A n c l s.size 4 _ h hl (by omega) (by omega) (by omega) (by omega)).mono ?_
    rintro e w1 ⟨v, rfl, hown, hb1⟩
    rw [HP.out.2] at hown
    have hsz := hb1.size
    have HO := Lib.hid hown
    clear hown
    go_wp2_with (at_builtin; refine wpList_append_text rfl _ _ 37 9 rfl w.heap.size 5 Tryd.underlying37 Tryd.underlying9 Tryd.infoU8 _ rfl _ HO.out s rfl (by rw [List.length_append, leL_len]; omega) hsz w hb1 ?_; intro v2 w3 hown3 hbel3 hsz3)
    obtain ⟨A', c', rfl, hA'⟩ := hown3.out.sl8
    go_ret2
    rw [HG.out.1, HG.out.2]
    exact ⟨A', _, c', rfl, by rw [← List.append_assoc, ← HSZ.out]; exact hA', hbel3⟩

end Go.Proofs.YthhlcecojeaalaaDoor
end

/-
  Contracts of the reference's Flag and Text.
-/
section
namespace Go.Proofs.YthhlcecojeaalaaDoor
open Go.RowKit

theorem getE_drop (l : List UInt8) (I : Nat) (k : Int) (h : I ≤ l.length) : getE l I k = getE (l.drop I) 0 k := by
  unfold getE
  rw [List.length_drop]
  by_cases hw : wideB k = false
  · rw [if_pos hw, if_pos hw]
  · rw [if_neg hw, if_neg hw]
    by_cases h1 : (l.length : Int) < I + k
    · rw [if_pos (.inr h1), if_pos (.inr (by omega))]
    · rw [if_neg (by omega), if_neg (by omega)]
theorem getV_drop (l : List UInt8) (I : Nat) (k : Int) (h : I ≤ l.length) : getV l I k = getV (l.drop I) 0 k := by
  unfold getV
  rw [getE_drop l I k h]
  simp

theorem ret_text {a b : ByteArray} {x y z : Int} (h : a = b) (e : x = y) : Ending.returned (.tuple #[.string a, .int .i64 x, .int .i64 z]) = .returned (.tuple #[.string b, .int .i64 y, .int .i64 z]) := by rw [h, e]

set_option maxHeartbeats 1000000 in
set_option maxRecDepth 100000 in
theorem wR_text (A : Option Addr) (n c : Nat) (l : List UInt8) (I : Nat) (w : World) (h : Sl8 w A n c l) (hI : I ≤ l.length) (hl : l.length ≤ 1000000) :
    Calls Tryd.prog 64 #[.slice A n c, .int .i64 I] w fun e w' => e = .returned (.tuple #[.string (mkS (textV (l.drop I))), .int .i64 ((I + textK (l.drop I) : Nat) : Int), .int .i64 (textE (l.drop I))]) ∧ w = w' := by
  obtain ⟨m, hm⟩ : ∃ m, m = l.drop I := ⟨_, rfl⟩
  obtain ⟨E, hE⟩ : ∃ E, E = getE m 0 4 := ⟨_, rfl⟩
  obtain ⟨V, hV⟩ : ∃ V, V = getV m 0 4 := ⟨_, rfl⟩
  have hE2 : getE l I 4 = E := by rw [getE_drop l I 4 hI, ← hm, hE]
  have hV2 : getV l I 4 = V := by rw [getV_drop l I 4 hI, ← hm, hV]
  have hV0 := get_bd m 0 4
  have hcs := text_cs m
  have hml : m.length = l.length - I := by rw [hm, List.length_drop]
  have hln := h.len
  have hcap := h.cap
  have hcm := h.cm
  unfold maxLen at hcm
  rw [← hE, ← hV] at hcs
  rw [← hV] at hV0
  rw [← hm]
  have HE := Lib.hid hE2
  have HV := Lib.hid hV2
  have HM := Lib.hid hm
  rw [hml] at hcs
  clear hE hV hm hE2 hV2 hml
  have hl2 : ∀ V : Int, (((l.length - I : Nat) : Int) - 4 < V ↔ (n : Int) - I - 4 < V) := by intro V; omega
  rw [hl2] at hcs
  clear hl2
  have HLN := Lib.hid hln
  rcases hcs with ⟨h0, h1, h2, h3⟩ | ⟨h0, h1, h2, h3, h4⟩ | ⟨h0, h1, h2, h3, h4, h5⟩ | ⟨h0, h1, h2, h3, h4, h5⟩
  · have h0' : (E == 0) = false := by simpa using h0
    have h0'' : (E != 0) = true := by simpa using h0
    have HC := Lib.hid (And.intro h1 (And.intro h2 h3))
    clear h1 h2 h3 hln
    go_enter Tryd.func64, Tryd.ntmps64
    go_wp2_with fail
    refine (r_get A n c l I 4 _ h (by omega) (by omega) (by omega) (by omega)).mono ?_
    rintro e w1 ⟨he, rfl⟩
    rw [HE.out, HV.out] at he
    subst he
    go_wp2_with fail
    go_ret3
    rw [HC.out.1, HC.out.2.1, HC.out.2.2]
    exact ⟨rfl, rfl⟩
  · have HC := Lib.hid (And.intro h2 (And.intro h3 h4))
    have HZ := Lib.hid h0
    clear h2 h3 h4 h0 hln
    go_enter Tryd.func64, Tryd.ntmps64
    go_wp2_with fail
    refine (r_get A n c l I 4 _ h (by omega) (by omega) (by omega) (by omega)).mono ?_
    rintro e w1 ⟨he, rfl⟩
    rw [HE.out, HV.out, HZ.out] at he
    subst he
    go_wp2_with fail
    go_ret3
    rw [HC.out.1, HC.out.2.1, HC.out.2.2]
    exact ⟨rfl, rfl⟩
  · have HC := Lib.hid (And.intro h3 (And.intro h4 h5))
    have HZ := Lib.hid h0
    clear h3 h4 h5 h0 hln
    go_enter Tryd.func64, Tryd.ntmps64
    go_wp2_with fail
    refine (r_get A n c l I 4 _ h (by omega) (by omega) (by omega) (by omega)).mono ?_
    rintro e w1 ⟨he, rfl⟩
    rw [HE.out, HV.out, HZ.out] at he
    subst he
    go_wp2_with fail
    go_ret3
    rw [HC.out.1, HC.out.2.1, HC.out.2.2]
    exact ⟨rfl, rfl⟩
  · obtain ⟨N, rfl⟩ := Int.eq_ofNat_of_zero_le hV0.1
    have hfit : I + 4 + N ≤ n := by omega
    have hcut := h.cut (i := I + 4) (j := I + 4 + N) (by omega) hfit
    obtain ⟨T, hT⟩ : ∃ T, T = (m.drop 4).take N := ⟨_, rfl⟩
    have hT2 : (l.drop (I + 4)).take (I + 4 + N - (I + 4)) = T := by rw [hT, HM.out, List.drop_drop, show I + 4 + N - (I + 4) = N by omega]
    rw [hT2, show I + 4 + N - (I + 4) = N by omega, Nat.mul_one] at hcut
    have HT := Lib.hid hT
    have HC := Lib.hid (And.intro h3 (And.intro h4 h5))
    have HZ := Lib.hid h0
    clear h3 h4 h5 h0 hV0 hT hT2 hln
    have e1 : 0 ≤ (I : Int) + 4 + (N : Int) := by omega
    have e2 : (I : Int) + 4 + (N : Int) ≤ c := by omega
    go_enter Tryd.func64, Tryd.ntmps64
    go_wp2_with fail
    refine (r_get A n c l I 4 _ h (by omega) (by omega) (by omega) (by omega)).mono ?_
    rintro e w1 ⟨he, rfl⟩
    rw [HE.out, HV.out, HZ.out] at he
    subst he
    have k1 := run_str Tryd.prog w 37 5 Tryd.underlying37 Tryd.underlying5 hcut 9 Tryd.underlying9
    by_cases hcc : c = I + 4
    · rw [if_pos hcc, hcc, Nat.sub_self] at k1
      go_wp2_with fail
      go_ret3
      rw [HC.out.1, HC.out.2.1, HC.out.2.2]
      exact ⟨ret_text (by rw [HT.out]; rfl) (by simp; omega), rfl⟩
    · rw [if_neg hcc, show (fun x : Addr => x.add (I + 4)) = fun x => ⟨x.block, x.off + (I + 3 + 1), none⟩ from funext fun x => Addr.add_succ' x (I + 3)] at k1
      go_wp2_with fail
      go_ret3
      rw [HC.out.1, HC.out.2.1, HC.out.2.2]
      exact ⟨ret_text (by rw [HT.out]; rfl) (by simp; omega), rfl⟩

end Go.Proofs.YthhlcecojeaalaaDoor
end
