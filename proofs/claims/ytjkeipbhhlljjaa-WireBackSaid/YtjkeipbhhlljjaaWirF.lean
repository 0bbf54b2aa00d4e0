/-
  Contracts of the reference's Flag and Text.
-/
import Derived.Test.YtjkeipbhhlljjaaWirO
namespace Go.Proofs.Ytjkeipbhhlljjaa
open Go.RowKit

theorem text_len (m : List UInt8) : textK m ≤ m.length := by
  have hb := get_bd m 0 4
  rcases text_cs m with ⟨_, _, _, h⟩ | ⟨_, _, _, _, h⟩ | ⟨_, _, _, _, _, h⟩ | ⟨h0, _, h2, _, _, h⟩
  · omega
  · omega
  · omega
  · have := get_len h0
    omega
theorem flag_len (m : List UInt8) : flagK m ≤ m.length := by
  rcases flag_cs m with ⟨_, _, _, h⟩ | ⟨_, _, _, _, h⟩ | ⟨h0, _, _, _, h⟩
  · omega
  · omega
  · have := get_len h0
    omega

theorem getE_drop (l : List UInt8) (I : Nat) (k : Int) (h : I ≤ l.length) : getE l I k = getE (l.drop I) 0 k := by
  unfold getE
  rw [List.length_drop]
  by_cases hw : wideB k = false
  · rw [if_pos hw, if_pos hw]
  · rw [if_neg hw, if_neg hw]
    by_cases h1 : (l.length : Int) < I + k
    · rw [if_pos (.inr h1), if_pos (.inr (by omega))]
    · rw [if_neg (by omega), if_neg (by omega)]
theorem getV_drop (l : List UInt8) (I : Nat) (k : Int) (h : I ≤ l.length) : getV l I k = getV (l.drop I) 0 k := by
  unfold getV
  rw [getE_drop l I k h]
  simp

set_option maxHeartbeats 1000000 in
set_option maxRecDepth 100000 in
theorem r_flag (A : Option Addr) (n c : Nat) (l : List UInt8) (I : Nat) (w : World) (h : Sl8 w A n c l) (hI : I ≤ l.length) (hl : l.length ≤ 1000000) :
    Calls Try.prog 19 #[.slice A n c, .int .i64 I] w fun e w' => e = .returned (.tuple #[.bool (flagV (l.drop I)), .int .i64 ((I + flagK (l.drop I) : Nat) : Int), .int .i64 (flagE (l.drop I))]) ∧ w = w' := by
  obtain ⟨m, hm⟩ : ∃ m, m = l.drop I := ⟨_, rfl⟩
  obtain ⟨E, hE⟩ : ∃ E, E = getE m 0 1 := ⟨_, rfl⟩
  obtain ⟨V, hV⟩ : ∃ V, V = getV m 0 1 := ⟨_, rfl⟩
  have hE2 : getE l I 1 = E := by rw [getE_drop l I 1 hI, ← hm, hE]
  have hV2 : getV l I 1 = V := by rw [getV_drop l I 1 hI, ← hm, hV]
  have hcs := flag_cs m
  rw [← hE, ← hV] at hcs
  rw [← hm]
  have HE := Lib.hid hE2
  have HV := Lib.hid hV2
  clear hE hV hm hE2 hV2
  rcases hcs with ⟨h0, h1, h2, h3⟩ | ⟨h0, h1, h2, h3, h4⟩ | ⟨h0, h1, h2, h3, h4⟩
  · have h0' : (E == 0) = false := by simpa using h0
    have h0'' : (E != 0) = true := by simpa using h0
    have HC := Lib.hid (And.intro h1 (And.intro h2 h3))
    clear h1 h2 h3
    go_enter Try.func19, Try.ntmps19
    go_wp2_with fail
    refine (r_get A n c l I 1 _ h (by omega) (by omega) (by omega) (by omega)).mono ?_
    rintro e w1 ⟨he, rfl⟩
    rw [HE.out, HV.out] at he
    subst he
    go_wp2_with fail
    go_ret3
    rw [HC.out.1, HC.out.2.1, HC.out.2.2]
    exact ⟨rfl, rfl⟩
  · have HC := Lib.hid (And.intro h2 (And.intro h3 h4))
    have HZ := Lib.hid h0
    clear h2 h3 h4 h0
    go_enter Try.func19, Try.ntmps19
    go_wp2_with fail
    refine (r_get A n c l I 1 _ h (by omega) (by omega) (by omega) (by omega)).mono ?_
    rintro e w1 ⟨he, rfl⟩
    rw [HE.out, HV.out, HZ.out] at he
    subst he
    go_wp2_with fail
    go_ret3
    rw [HC.out.1, HC.out.2.1, HC.out.2.2]
    exact ⟨rfl, rfl⟩
  · have HC := Lib.hid (And.intro h2 (And.intro h3 h4))
    have HZ := Lib.hid h0
    clear h2 h3 h4 h0
    go_enter Try.func19, Try.ntmps19
    go_wp2_with fail
    refine (r_get A n c l I 1 _ h (by omega) (by omega) (by omega) (by omega)).mono ?_
    rintro e w1 ⟨he, rfl⟩
    rw [HE.out, HV.out, HZ.out] at he
    subst he
    go_wp2_with fail
    go_ret3
    rw [HC.out.1, HC.out.2.1, HC.out.2.2]
    exact ⟨rfl, rfl⟩

theorem ret_text {a b : ByteArray} {x y z : Int} (h : a = b) (e : x = y) : Ending.returned (.tuple #[.string a, .int .i64 x, .int .i64 z]) = .returned (.tuple #[.string b, .int .i64 y, .int .i64 z]) := by rw [h, e]

set_option maxHeartbeats 1000000 in
set_option maxRecDepth 100000 in
theorem r_text (A : Option Addr) (n c : Nat) (l : List UInt8) (I : Nat) (w : World) (h : Sl8 w A n c l) (hI : I ≤ l.length) (hl : l.length ≤ 1000000) :
    Calls Try.prog 17 #[.slice A n c, .int .i64 I] w fun e w' => e = .returned (.tuple #[.string (mkS (textV (l.drop I))), .int .i64 ((I + textK (l.drop I) : Nat) : Int), .int .i64 (textE (l.drop I))]) ∧ w = w' := by
  obtain ⟨m, hm⟩ : ∃ m, m = l.drop I := ⟨_, rfl⟩
  obtain ⟨E, hE⟩ : ∃ E, E = getE m 0 4 := ⟨_, rfl⟩
  obtain ⟨V, hV⟩ : ∃ V, V = getV m 0 4 := ⟨_, rfl⟩
  have hE2 : getE l I 4 = E := by rw [getE_drop l I 4 hI, ← hm, hE]
  have hV2 : getV l I 4 = V := by rw [getV_drop l I 4 hI, ← hm, hV]
  have hV0 := get_bd m 0 4
  have hcs := text_cs m
  have hml : m.length = l.length - I := by rw [hm, List.length_drop]
  have hln := h.len
  have hcap := h.cap
  have hcm := h.cm
  unfold maxLen at hcm
  rw [← hE, ← hV] at hcs
  rw [← hV] at hV0
  rw [← hm]
  have HE := Lib.hid hE2
  have HV := Lib.hid hV2
  have HM := Lib.hid hm
  rw [hml] at hcs
  clear hE hV hm hE2 hV2 hml
  have hl2 : ∀ V : Int, (((l.length - I : Nat) : Int) - 4 < V ↔ (n : Int) - I - 4 < V) := by intro V; omega
  rw [hl2] at hcs
  clear hl2
  have HLN := Lib.hid hln
  rcases hcs with ⟨h0, h1, h2, h3⟩ | ⟨h0, h1, h2, h3, h4⟩ | ⟨h0, h1, h2, h3, h4, h5⟩ | ⟨h0, h1, h2, h3, h4, h5⟩
  · have h0' : (E == 0) = false := by simpa using h0
    have h0'' : (E != 0) = true := by simpa using h0
    have HC := Lib.hid (And.intro h1 (And.intro h2 h3))
    clear h1 h2 h3 hln
    go_enter Try.func17, Try.ntmps17
    go_wp2_with fail
    refine (r_get A n c l I 4 _ h (by omega) (by omega) (by omega) (by omega)).mono ?_
    rintro e w1 ⟨he, rfl⟩
    rw [HE.out, HV.out] at he
    subst he
    go_wp2_with fail
    go_ret3
    rw [HC.out.1, HC.out.2.1, HC.out.2.2]
    exact ⟨rfl, rfl⟩
  · have HC := Lib.hid (And.intro h2 (And.intro h3 h4))
    have HZ := Lib.hid h0
    clear h2 h3 h4 h0 hln
    go_enter Try.func17, Try.ntmps17
    go_wp2_with fail
    refine (r_get A n c l I 4 _ h (by omega) (by omega) (by omega) (by omega)).mono ?_
    rintro e w1 ⟨he, rfl⟩
    rw [HE.out, HV.out, HZ.out] at he
    subst he
    go_wp2_with fail
    go_ret3
    rw [HC.out.1, HC.out.2.1, HC.out.2.2]
    exact ⟨rfl, rfl⟩
  · have HC := Lib.hid (And.intro h3 (And.intro h4 h5))
    have HZ := Lib.hid h0
    clear h3 h4 h5 h0 hln
    go_enter Try.func17, Try.ntmps17
    go_wp2_with fail
    refine (r_get A n c l I 4 _ h (by omega) (by omega) (by omega) (by omega)).mono ?_
    rintro e w1 ⟨he, rfl⟩
    rw [HE.out, HV.out, HZ.out] at he
    subst he
    go_wp2_with fail
    go_ret3
    rw [HC.out.1, HC.out.2.1, HC.out.2.2]
    exact ⟨rfl, rfl⟩
  · obtain ⟨N, rfl⟩ := Int.eq_ofNat_of_zero_le hV0.1
    have hfit : I + 4 + N ≤ n := by omega
    have hcut := h.cut (i := I + 4) (j := I + 4 + N) (by omega) hfit
    obtain ⟨T, hT⟩ : ∃ T, T = (m.drop 4).take N := ⟨_, rfl⟩
    have hT2 : (l.drop (I + 4)).take (I + 4 + N - (I + 4)) = T := by rw [hT, HM.out, List.drop_drop, show I + 4 + N - (I + 4) = N by omega]
    rw [hT2, show I + 4 + N - (I + 4) = N by omega, Nat.mul_one] at hcut
    have HT := Lib.hid hT
    have HC := Lib.hid (And.intro h3 (And.intro h4 h5))
    have HZ := Lib.hid h0
    clear h3 h4 h5 h0 hV0 hT hT2 hln
    have e1 : 0 ≤ (I : Int) + 4 + (N : Int) := by omega
    have e2 : (I : Int) + 4 + (N : Int) ≤ c := by omega
    go_enter Try.func17, Try.ntmps17
    go_wp2_with fail
    refine (r_get A n c l I 4 _ h (by omega) (by omega) (by omega) (by omega)).mono ?_
    rintro e w1 ⟨he, rfl⟩
    rw [HE.out, HV.out, HZ.out] at he
    subst he
    have k1 := run_str Try.prog w 22 5 Try.underlying22 Try.underlying5 hcut 9 Try.underlying9
    by_cases hcc : c = I + 4
    · rw [if_pos hcc, hcc, Nat.sub_self] at k1
      go_wp2_with fail
      go_ret3
      rw [HC.out.1, HC.out.2.1, HC.out.2.2]
      exact ⟨ret_text (by rw [HT.out]; rfl) (by simp; omega), rfl⟩
    · rw [if_neg hcc, show (fun x : Addr => x.add (I + 4)) = fun x => ⟨x.block, x.off + (I + 3 + 1), none⟩ from funext fun x => Addr.add_succ' x (I + 3)] at k1
      go_wp2_with fail
      go_ret3
      rw [HC.out.1, HC.out.2.1, HC.out.2.2]
      exact ⟨ret_text (by rw [HT.out]; rfl) (by simp; omega), rfl⟩

end Go.Proofs.Ytjkeipbhhlljjaa
