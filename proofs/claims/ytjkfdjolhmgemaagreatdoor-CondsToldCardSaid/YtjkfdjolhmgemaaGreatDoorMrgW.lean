/-
  Texts that the laws of this seat lean on, one behind the other.
-/
import Derived.Test.YtjkfdjolhmgemaaGreatDoorMrgN
import Derived.Deep.RegionHeld3
import Derived.Test.YtjkfdjolhmgemaaGreatDoorMrgV
set_option linter.unusedSimpArgs false
set_option linter.unusedVariables false
/-
  Contracts of the reference's Status, PrintRequest, PrintStatus, Safe, Usual (layer 10).
-/
section
namespace Go.Proofs.YtjkfdjolhmgemaaGreatDoor
open Go.RowKit

end Go.Proofs.YtjkfdjolhmgemaaGreatDoor
end

/-
  Plain facts on reading times (layer 7): the reference's Parse answers the time of which a text is a form, and no text is a form of two times (P7.3, P7.4).
-/
section
namespace Go.Proofs.YtjkfdjolhmgemaaGreatDoor

theorem val_dch (d : Nat) (h : d < 10) : digV ((dch d).toNat : Int) = d := dch_val d (by omega)
theorem isD_dch (d : Nat) (h : d < 10) : isD 10 ((dch d).toNat : Int) = true := by rw [isD_true, val_dch d h]; omega
theorem num_of (l : List UInt8) (n : Nat) (h1 : 1 ≤ l.length) (h2 : l.length ≤ 18) (hv : valV 10 l = n) (ha : allB (isD 10) l = true) (hn : n ≤ 9999) : numN 10 18 9999 l = n ∧ numE 10 18 9999 l = 0 := by
  have c : ¬ (l.length = 0 ∨ 18 < l.length ∨ allB (isD 10) l = false) := by
    rintro (h | h | h)
    · omega
    · omega
    · rw [ha] at h; cases h
  have c2 : ¬ (l.length = 0 ∨ 18 < l.length ∨ allB (isD 10) l = false ∨ 9999 < valV 10 l) := by
    rintro (h | h | h | h)
    · omega
    · omega
    · rw [ha] at h; cases h
    · omega
  unfold numN numE
  rw [if_neg c2, if_neg c, hv, if_neg (by omega)]
  exact ⟨rfl, rfl⟩
theorem num_two (n : Nat) (h : n < 100) : numN 10 18 9999 (two n) = n ∧ numE 10 18 9999 (two n) = 0 := by
  refine num_of _ n (by simp [two]) (by simp [two]) ?_ ?_ (by omega)
  · simp only [two, valV, List.foldl_cons, List.foldl_nil, val_dch (n / 10) (by omega), val_dch (n % 10) (by omega)]
    omega
  · simp [two, allB, isD_dch (n / 10) (by omega), isD_dch (n % 10) (by omega)]
theorem num_one (n : Nat) (h : n < 10) : numN 10 18 9999 [dch n] = n ∧ numE 10 18 9999 [dch n] = 0 := by
  refine num_of _ n (by simp) (by simp) ?_ ?_ (by omega)
  · simp only [valV, List.foldl_cons, List.foldl_nil, val_dch n h]
    omega
  · simp [allB, isD_dch n h]
theorem num_four (n : Nat) (h : n < 10000) : numN 10 18 9999 (four n) = n ∧ numE 10 18 9999 (four n) = 0 := by
  refine num_of _ n (by simp [four]) (by simp [four]) ?_ ?_ (by omega)
  · simp only [four, valV, List.foldl_cons, List.foldl_nil, val_dch (n / 1000) (by omega), val_dch (n / 100 % 10) (by omega), val_dch (n / 10 % 10) (by omega), val_dch (n % 10) (by omega)]
    omega
  · simp [four, allB, isD_dch (n / 1000) (by omega), isD_dch (n / 100 % 10) (by omega), isD_dch (n / 10 % 10) (by omega), isD_dch (n % 10) (by omega)]
theorem num_blank (c : UInt8) : numE 10 18 9999 [32, c] = 5 := by
  have : allB (isD 10) [32, c] = false := by
    simp only [allB, List.all_cons]
    rw [show isD 10 (((32 : UInt8).toNat : Nat) : Int) = false by decide]; rfl
  unfold numE
  rw [if_pos (.inr (.inr this))]

/-- What stands at a place of a text. -/
theorem dgt_at {s : ByteArray} {l : List UInt8} (hs : s.data.toList = l) (a : Int) (A n : Nat) (ha : a = A) (h : A + n ≤ l.length) (p : List UInt8) (hp : (l.drop A).take n = p) (v : Nat) (hv : numN 10 18 9999 p = v ∧ numE 10 18 9999 p = 0) : dgtN s a n = v := by
  subst ha
  have hz : s.size = l.length := by rw [Lib.size_eq, hs]
  unfold dgtN
  rw [if_pos ⟨by omega, by rw [hz]; omega⟩, Int.toNat_natCast]
  have e : piece s A (A + n) = p := by
    unfold piece
    rw [hs, Nat.add_sub_cancel_left, hp]
  rw [e, hv.1, hv.2]; simp
theorem dgt_no {s : ByteArray} {l : List UInt8} (hs : s.data.toList = l) (a : Int) (A n : Nat) (ha : a = A) (h : A + n ≤ l.length) (p : List UInt8) (hp : (l.drop A).take n = p) (hv : numE 10 18 9999 p = 5) : dgtN s a n = -1 := by
  subst ha
  have hz : s.size = l.length := by rw [Lib.size_eq, hs]
  unfold dgtN
  rw [if_pos ⟨by omega, by rw [hz]; omega⟩, Int.toNat_natCast]
  have e : piece s A (A + n) = p := by
    unfold piece
    rw [hs, Nat.add_sub_cancel_left, hp]
  rw [e, hv]; simp
theorem mIdx_mon : ∀ m : Nat, m < 13 → 1 ≤ m → mIdx (monL m) = m := by decide +kernel

/-- A time's date and clock, put together. -/
theorem tim_at {s : ByteArray} {l : List UInt8} (hs : s.data.toList = l) {T Y M E : Nat} (hp : Parts T Y M E) (y a d k : Int) (A K : Nat) (hy : y = Y) (ha : a = A) (hd : d = E) (hk : k = K)
    (h1 : A + 3 ≤ l.length) (h2 : K + 8 ≤ l.length) (p1 : (l.drop A).take 3 = monL M) (p2 : (l.drop K).take 2 = two (T % 86400 / 3600)) (p3 : (l.drop (K + 3)).take 2 = two (T % 86400 / 60 % 60)) (p4 : (l.drop (K + 6)).take 2 = two (T % 86400 % 60)) :
    timN s y a d k = T := by
  subst hy ha hd hk
  have hz : s.size = l.length := by rw [Lib.size_eq, hs]
  have v := hp.date.v
  have e1 : piece s A (A + 3) = monL M := by
    unfold piece
    rw [hs, Nat.add_sub_cancel_left, p1]
  have hm := mIdx_mon M (by have := v.m1; omega) v.m0
  have g1 := dgt_at hs (K : Int) K 2 rfl (by omega) _ p2 _ (num_two _ (by omega))
  have g2 := dgt_at hs ((K : Int) + 3) (K + 3) 2 (by omega) (by omega) _ p3 _ (num_two _ (by omega))
  have g3 := dgt_at hs ((K : Int) + 6) (K + 6) 2 (by omega) (by omega) _ p4 _ (num_two _ (by omega))
  have hv : ValidI (Y : Int) (M : Int) (E : Int) := ⟨by have := v.y0; omega, by have := v.y1; omega, by have := v.m0; omega, by have := v.m1; omega, by have := v.d0; omega, by have := v.d1; simp only [Int.toNat_natCast]; omega⟩
  have hday := day_yes hv
  simp only [Int.toNat_natCast] at hday
  have he := hp.date.e
  unfold timN
  rw [if_pos ⟨by omega, by rw [hz]; omega⟩, Int.toNat_natCast, e1, hm, if_neg (by have := v.m1; omega), g1, g2, g3]
  unfold sumN7
  rw [if_pos ⟨hday.2, by omega, by omega, by omega, by omega, by omega, by omega⟩, hday.1, he]
  omega

theorem list3 {l : List UInt8} (h : l.length = 3) : ∃ a b c, l = [a, b, c] := by
  rcases l with _ | ⟨a, _ | ⟨b, _ | ⟨c, _ | ⟨d, r⟩⟩⟩⟩
  · simp at h
  · simp at h
  · simp at h
  · exact ⟨a, b, c, rfl⟩
  · simp at h
theorem fmt_list {T Y M E : Nat} (hp : Parts T Y M E) : ∃ a b c x y z, monL M = [x, y, z] ∧ fmtL T = [a, b, c, 44, 32] ++ two E ++ [32, x, y, z, 32] ++ four Y ++ [32] ++ two (T % 86400 / 3600) ++ [58] ++ two (T % 86400 / 60 % 60) ++ [58] ++ two (T % 86400 % 60) ++ [32, 71, 77, 84] := by
  obtain ⟨⟨b1, b2⟩, ⟨b3, b4⟩, b5, b6⟩ := hp.bd
  obtain ⟨a, b, c, hd⟩ := list3 (day_len _ (wd_lt (T / 86400))).2.2.1
  obtain ⟨x, y, z, hm⟩ := list3 (mon_len M b3 b4)
  refine ⟨a, b, c, x, y, z, hm, ?_⟩
  unfold fmtL
  rw [hp.civ]
  simp only []
  rw [hd, clk_eq, pad_two (n := E) (by omega), pad_four (n := Y) (by omega) (by omega), hm]
  simp
theorem t1_back {s : ByteArray} {T : Nat} (h : T ≤ 253402300799) (hs : s.data.toList = fmtL T) : t1N s = T := by
  obtain ⟨Y, M, E, hp⟩ := parts_of T h
  obtain ⟨⟨b1, b2⟩, ⟨b3, b4⟩, b5, b6⟩ := hp.bd
  obtain ⟨a, b, c, x, y, z, hm, hl⟩ := fmt_list hp
  rw [hl] at hs
  have g1 := dgt_at hs 12 12 4 rfl (by simp [two, four]) (four Y) rfl Y (num_four Y (by omega))
  have g2 := dgt_at hs 5 5 2 rfl (by simp [two, four]) (two E) rfl E (num_two E (by omega))
  unfold t1N
  refine tim_at hs hp _ _ _ _ 8 17 g1 rfl g2 rfl (by simp [two, four]) (by simp [two, four]) ?_ rfl rfl rfl
  rw [hm]; rfl

theorem pln_list {T Y M E : Nat} (hp : Parts T Y M E) : ∃ a b c x y z u v, monL M = [x, y, z] ∧ twoL E = [u, v] ∧ plnL T = [a, b, c, 32, x, y, z, 32, u, v, 32] ++ two (T % 86400 / 3600) ++ [58] ++ two (T % 86400 / 60 % 60) ++ [58] ++ two (T % 86400 % 60) ++ [32] ++ four Y := by
  obtain ⟨⟨b1, b2⟩, ⟨b3, b4⟩, b5, b6⟩ := hp.bd
  obtain ⟨a, b, c, hd⟩ := list3 (day_len _ (wd_lt (T / 86400))).2.2.1
  obtain ⟨x, y, z, hm⟩ := list3 (mon_len M b3 b4)
  obtain ⟨u, v, hu⟩ : ∃ u v, twoL E = [u, v] := by
    have := two_of (d := E) (by omega)
    rcases h : twoL E with _ | ⟨u, _ | ⟨v, _ | ⟨w, r⟩⟩⟩
    · rw [h] at this; simp at this
    · rw [h] at this; simp at this
    · exact ⟨u, v, rfl⟩
    · rw [h] at this; simp at this
  refine ⟨a, b, c, x, y, z, u, v, hm, hu, ?_⟩
  unfold plnL
  rw [hp.civ]
  simp only []
  rw [hd, clk_eq, hu, pad_four (n := Y) (by omega) (by omega), hm]
  simp
theorem t3_back {s : ByteArray} {T : Nat} (h : T ≤ 253402300799) (hs : s.data.toList = plnL T) : t3N s = T := by
  obtain ⟨Y, M, E, hp⟩ := parts_of T h
  obtain ⟨⟨b1, b2⟩, ⟨b3, b4⟩, b5, b6⟩ := hp.bd
  obtain ⟨a, b, c, x, y, z, u, v, hm, hu, hl⟩ := pln_list hp
  rw [hl] at hs
  have g1 := dgt_at hs 20 20 4 rfl (by simp [two, four]) (four Y) rfl Y (num_four Y (by omega))
  have g2 : d3N s = E := by
    unfold d3N
    unfold twoL at hu
    by_cases h10 : E < 10
    · rw [if_pos h10, plain_one h10] at hu
      simp only [List.cons.injEq, and_true] at hu
      obtain ⟨hu1, hu2⟩ := hu
      subst hu1 hu2
      rw [dgt_no hs 8 8 2 rfl (by simp [two, four]) [32, dch E] rfl (num_blank _), if_pos (by omega)]
      exact dgt_at hs 9 9 1 rfl (by simp [two, four]) [dch E] rfl E (num_one E h10)
    · rw [if_neg h10, plain_two (by omega) (by omega)] at hu
      have := dgt_at hs 8 8 2 rfl (by simp [two, four]) [u, v] rfl E (by rw [← hu]; exact num_two E (by omega))
      rw [this, if_neg (by omega)]
  unfold t3N
  refine tim_at hs hp _ _ _ _ 4 11 g1 rfl g2 rfl (by simp [two, four]) (by simp [two, four]) ?_ rfl rfl rfl
  rw [hm]; rfl

theorem ysum_old : ysum 100 = 36525 := by decide +kernel
theorem old_year {T Y M E : Nat} (hp : Parts T Y M E) (h : T ≤ 3155759999) : Y ≤ 2069 := by
  refine Classical.byContradiction fun hc => ?_
  have h1 := ysum_le (show 100 ≤ Y - 1970 by omega)
  have h2 := hp.date.v.within.1
  rw [hp.date.e] at h2
  rw [ysum_old] at h1
  omega
theorem old_list {T Y M E : Nat} (hp : Parts T Y M E) : ∃ x y z, monL M = [x, y, z] ∧ oldL T = dayL (wdD (T / 86400)) ++ ([44, 32] ++ two E ++ [45, x, y, z, 45] ++ two (Y % 100) ++ [32] ++ two (T % 86400 / 3600) ++ [58] ++ two (T % 86400 / 60 % 60) ++ [58] ++ two (T % 86400 % 60) ++ [32, 71, 77, 84]) := by
  obtain ⟨⟨b1, b2⟩, ⟨b3, b4⟩, b5, b6⟩ := hp.bd
  obtain ⟨x, y, z, hm⟩ := list3 (mon_len M b3 b4)
  refine ⟨x, y, z, hm, ?_⟩
  unfold oldL
  rw [hp.civ]
  simp only []
  rw [clk_eq, pad_two (n := E) (by omega), pad_two (n := Y % 100) (by omega), hm]
  simp
theorem com_append : ∀ (d r : List UInt8), d.all (fun c => c != 44) = true → comL (d ++ 44 :: r) = d.length
  | [], r, _ => by simp [comL]
  | c :: d, r, h => by
    simp only [List.all_cons, Bool.and_eq_true] at h
    have hc : c ≠ 44 := by simpa using h.1
    simp only [List.cons_append, comL, hc, if_false, List.length_cons]
    rw [com_append d r h.2]
theorem t2_back {s : ByteArray} {T : Nat} (h : T ≤ 3155759999) (hs : s.data.toList = oldL T) : t2N s = T := by
  obtain ⟨Y, M, E, hp⟩ := parts_of T (by omega)
  obtain ⟨⟨b1, b2⟩, ⟨b3, b4⟩, b5, b6⟩ := hp.bd
  have hY := old_year hp h
  obtain ⟨x, y, z, hm, hl⟩ := old_list hp
  have hd := day_len _ (wd_lt (T / 86400))
  obtain ⟨D, hD⟩ : ∃ D, D = dayL (wdD (T / 86400)) := ⟨_, rfl⟩
  rw [← hD] at hl hd
  obtain ⟨R, hR⟩ : ∃ R, R = [44, 32] ++ two E ++ [45, x, y, z, 45] ++ two (Y % 100) ++ [32] ++ two (T % 86400 / 3600) ++ [58] ++ two (T % 86400 / 60 % 60) ++ [58] ++ two (T % 86400 % 60) ++ [32, 71, 77, 84] := ⟨_, rfl⟩
  rw [← hR] at hl
  have hRl : R.length = 24 := by rw [hR]; simp [two]
  rw [hl] at hs
  have hc : comN s = D.length := by
    unfold comN
    rw [hs, show R = 44 :: R.tail by rw [hR]; rfl]
    exact com_append D _ hd.2.2.2
  have hdr : ∀ k n, ((D ++ R).drop (D.length + k)).take n = (R.drop k).take n := fun k n => by
    rw [List.drop_append, List.drop_eq_nil_of_le (by omega), List.nil_append, Nat.add_sub_cancel_left]
  have hlen : (D ++ R).length = D.length + 24 := by rw [List.length_append, hRl]
  have g1 := dgt_at hs ((D.length : Int) + 9) (D.length + 9) 2 (by omega) (by omega) (two (Y % 100)) (by rw [hdr, hR]; rfl) _ (num_two (Y % 100) (by omega))
  have g2 := dgt_at hs ((D.length : Int) + 2) (D.length + 2) 2 (by omega) (by omega) (two E) (by rw [hdr, hR]; rfl) E (num_two E (by omega))
  have g3 : y2N s = Y := by
    unfold y2N
    rw [hc, g1]
    split <;> omega
  unfold t2N
  rw [hc]
  refine tim_at hs hp _ _ _ _ (D.length + 5) (D.length + 12) g3 (by omega) g2 (by omega) (by omega) (by omega) ?_ ?_ ?_ ?_
  · rw [hdr, hR, hm]; rfl
  · rw [hdr, hR]; rfl
  · rw [Nat.add_assoc, hdr, hR]; rfl
  · rw [Nat.add_assoc, hdr, hR]; rfl

/-- A text is a form of a time. -/
def Reads (l : List UInt8) (t : Nat) : Prop := (t ≤ 253402300799 ∧ (fmtL t = l ∨ plnL t = l)) ∨ (t ≤ 3155759999 ∧ oldL t = l)
theorem fmt_len {t : Nat} (h : t ≤ 253402300799) : (fmtL t).length = 29 := by
  obtain ⟨Y, M, E, hp⟩ := parts_of t h
  obtain ⟨a, b, c, x, y, z, hm, hl⟩ := fmt_list hp
  rw [hl]; simp [two, four]
theorem pln_len {t : Nat} (h : t ≤ 253402300799) : (plnL t).length = 24 := by
  obtain ⟨Y, M, E, hp⟩ := parts_of t h
  obtain ⟨a, b, c, x, y, z, u, v, hm, hu, hl⟩ := pln_list hp
  rw [hl]; simp [two, four]
theorem old_len {t : Nat} (h : t ≤ 3155759999) : 30 ≤ (oldL t).length ∧ (oldL t).length ≤ 33 := by
  obtain ⟨Y, M, E, hp⟩ := parts_of t (by omega)
  obtain ⟨x, y, z, hm, hl⟩ := old_list hp
  have hd := day_len _ (wd_lt (t / 86400))
  rw [hl]; simp [two]; omega
theorem fmt_inj {t u : Nat} (ht : t ≤ 253402300799) (hu : u ≤ 253402300799) (h : fmtL t = fmtL u) : t = u := by
  have h1 := t1_back (s := mkS (fmtL t)) ht rfl
  have h2 := t1_back (s := mkS (fmtL t)) hu h
  omega
theorem pln_inj {t u : Nat} (ht : t ≤ 253402300799) (hu : u ≤ 253402300799) (h : plnL t = plnL u) : t = u := by
  have h1 := t3_back (s := mkS (plnL t)) ht rfl
  have h2 := t3_back (s := mkS (plnL t)) hu h
  omega
theorem old_inj {t u : Nat} (ht : t ≤ 3155759999) (hu : u ≤ 3155759999) (h : oldL t = oldL u) : t = u := by
  have h1 := t2_back (s := mkS (oldL t)) ht rfl
  have h2 := t2_back (s := mkS (oldL t)) hu h
  omega
theorem Reads.uniq {l : List UInt8} {t u : Nat} (h : Reads l t) (g : Reads l u) : t = u := by
  rcases h with ⟨ht, h | h⟩ | ⟨ht, h⟩ <;> rcases g with ⟨hu, g | g⟩ | ⟨hu, g⟩
  · exact fmt_inj ht hu (h.trans g.symm)
  · have := fmt_len ht; have := pln_len hu; rw [h] at *; rw [g] at *; omega
  · have := fmt_len ht; have := old_len hu; rw [h] at *; rw [g] at *; omega
  · have := pln_len ht; have := fmt_len hu; rw [h] at *; rw [g] at *; omega
  · exact pln_inj ht hu (h.trans g.symm)
  · have := pln_len ht; have := old_len hu; rw [h] at *; rw [g] at *; omega
  · have := old_len ht; have := fmt_len hu; rw [h] at *; rw [g] at *; omega
  · have := old_len ht; have := pln_len hu; rw [h] at *; rw [g] at *; omega
  · exact old_inj ht hu (h.trans g.symm)
theorem fmtI_nat (t : Nat) (h : t ≤ 253402300799) : fmtI (t : Int) = fmtL t := by unfold fmtI; rw [if_pos ⟨by omega, by omega⟩, Int.toNat_natCast]
theorem plnI_nat (t : Nat) (h : t ≤ 253402300799) : plnI (t : Int) = plnL t := by unfold plnI; rw [if_pos ⟨by omega, by omega⟩, Int.toNat_natCast]
theorem oldI_nat (t : Nat) (h : t ≤ 3155759999) : oldI (t : Int) = oldL t := by unfold oldI; rw [if_pos ⟨by omega, by omega⟩, Int.toNat_natCast]
theorem oldI_big (t : Int) (h : 3155759999 < t) : oldI t = [] := by unfold oldI; rw [if_neg (by omega)]
theorem t2_empty {s : ByteArray} (h : s.data.toList = []) : t2N s = -1 := by
  have hz : s.size = 0 := by rw [Lib.size_eq, h]; rfl
  unfold t2N timN
  rw [if_neg (by rw [hz]; omega)]

/-- What the reference's Parse answers. -/
theorem parT_spec (s : ByteArray) : (∃ t : Nat, parT s = ((t : Int), 0) ∧ Reads s.data.toList t) ∨ (parT s = (0, 24) ∧ ∀ t, ¬ Reads s.data.toList t) := by
  have b1 : t1N s ≤ 253402300799 := (timN_bd _ _ _ _ _).2
  have b3 : t3N s ≤ 253402300799 := (timN_bd _ _ _ _ _).2
  unfold parT
  by_cases h1 : 0 ≤ t1N s ∧ fmtI (t1N s) = s.data.toList
  · obtain ⟨t, ht⟩ := Int.eq_ofNat_of_zero_le h1.1
    rw [if_pos h1, ht]
    rw [ht] at h1 b1
    rw [fmtI_nat t (by omega)] at h1
    exact .inl ⟨t, rfl, .inl ⟨by omega, .inl h1.2⟩⟩
  rw [if_neg h1]
  by_cases h2 : 0 ≤ t2N s ∧ oldI (t2N s) = s.data.toList
  · obtain ⟨t, ht⟩ := Int.eq_ofNat_of_zero_le h2.1
    rw [if_pos h2, ht]
    by_cases hb : t ≤ 3155759999
    · rw [ht, oldI_nat t hb] at h2
      exact .inl ⟨t, rfl, .inr ⟨hb, h2.2⟩⟩
    · have h3 := h2.2
      rw [ht, oldI_big _ (by omega)] at h3
      have := t2_empty h3.symm
      omega
  rw [if_neg h2]
  by_cases h3 : 0 ≤ t3N s ∧ plnI (t3N s) = s.data.toList
  · obtain ⟨t, ht⟩ := Int.eq_ofNat_of_zero_le h3.1
    rw [if_pos h3, ht]
    rw [ht] at h3 b3
    rw [plnI_nat t (by omega)] at h3
    exact .inl ⟨t, rfl, .inl ⟨by omega, .inr h3.2⟩⟩
  rw [if_neg h3]
  refine .inr ⟨rfl, fun t ht => ?_⟩
  rcases ht with ⟨hb, h | h⟩ | ⟨hb, h⟩
  · have e := t1_back hb h.symm
    exact h1 ⟨by omega, by rw [e, fmtI_nat t hb, h]⟩
  · have e := t3_back hb h.symm
    exact h3 ⟨by omega, by rw [e, plnI_nat t hb, h]⟩
  · have e := t2_back hb h.symm
    exact h2 ⟨by omega, by rw [e, oldI_nat t hb, h]⟩

end Go.Proofs.YtjkfdjolhmgemaaGreatDoor
end
