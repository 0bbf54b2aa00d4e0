/-
  Plain functions of layer 8, without the program: authorities, paths with their queries, targets, their texts; normalization is idempotent (P8.1 to P8.5).
-/
import Derived.Test.YtcmppmbieebkpaaGreatDoorTarM
namespace Go.Proofs.YtcmppmbieebkpaaGreatDoor

/-! ### A text cut at a byte -/
theorem cut_no {l : List UInt8} {c : UInt8} (h : ∀ x ∈ l, x ≠ c) : cutA (mkS l) (c.toNat : Int) = mkS l ∧ cutZ (mkS l) (c.toNat : Int) = mkS [] ∧ cutOk (mkS l) (c.toNat : Int) = false := by
  have hc := c.toNat_lt
  exact cut_miss (idx_none (mkS l) (c.toNat : Int) (by omega) (by omega) (fun k hk e => by
    refine h _ ?_ (UInt8.toNat_inj.1 (Int.ofNat.inj e))
    have : (mkS l)[k] = (mkS l).data.toList[k]'(by rw [← Lib.size_eq]; exact hk) := rfl
    rw [this]
    exact List.getElem_mem _))
theorem cut_yes {a b : List UInt8} {c : UInt8} (h : ∀ x ∈ a, x ≠ c) : cutA (mkS (a ++ c :: b)) (c.toNat : Int) = mkS a ∧ cutZ (mkS (a ++ c :: b)) (c.toNat : Int) = mkS b ∧ cutOk (mkS (a ++ c :: b)) (c.toNat : Int) = true := by
  have hc := c.toNat_lt
  have hz : (mkS (a ++ c :: b)).size = a.length + (b.length + 1) := by rw [mkS_size]; simp
  have hat : ∀ (k : Nat) (hk : k < (mkS (a ++ c :: b)).size), (mkS (a ++ c :: b))[k] = (a ++ c :: b)[k]'(by rw [mkS_size] at hk; exact hk) := fun k hk => rfl
  have hi := idx_first (mkS (a ++ c :: b)) (c.toNat : Int) (by omega) (by omega) a.length (by omega) (by rw [hat]; simp) (fun k hk e => by
    rw [hat, List.getElem_append_left hk] at e
    exact h _ (List.getElem_mem _) (UInt8.toNat_inj.1 (Int.ofNat.inj e)))
  obtain ⟨h1, h2, h3⟩ := cut_hit hi
  refine ⟨h1.trans ?_, h2.trans ?_, h3⟩
  · rw [piece_ext]
    unfold piece
    rw [mkS_list, List.drop_zero, Nat.sub_zero, List.take_left]
  · rw [piece_ext, piece_all, mkS_list, show a.length + 1 = (a ++ [c]).length by simp, show a ++ c :: b = (a ++ [c]) ++ b by simp, List.drop_left]
/-- Any text is cut so. -/
theorem cut_form (s : ByteArray) (c : UInt8) : (cutOk s (c.toNat : Int) = false ∧ (∀ x ∈ s.data.toList, x ≠ c) ∧ cutA s (c.toNat : Int) = s ∧ cutZ s (c.toNat : Int) = mkS []) ∨
    (∃ a b, s.data.toList = a ++ c :: b ∧ (∀ x ∈ a, x ≠ c) ∧ cutOk s (c.toNat : Int) = true ∧ cutA s (c.toNat : Int) = mkS a ∧ cutZ s (c.toNat : Int) = mkS b) := by
  have e := mkS_self s
  generalize s.data.toList = l at *
  subst e
  by_cases h : ∀ x ∈ l, x ≠ c
  · obtain ⟨h1, h2, h3⟩ := cut_no h
    exact .inl ⟨h3, h, h1, h2⟩
  · refine .inr ?_
    have hm : c ∈ l := by
      refine Classical.byContradiction fun hc => h fun x hx e => hc ?_
      rw [← e]; exact hx
    obtain ⟨a, b, hl, ha⟩ : ∃ a b, l = a ++ c :: b ∧ ∀ x ∈ a, x ≠ c := by
      clear h
      induction l with
      | nil => cases hm
      | cons d l ih =>
        by_cases hd : d = c
        · exact ⟨[], l, by rw [hd]; rfl, by simp⟩
        · rcases List.mem_cons.1 hm with h | h
          · exact absurd h.symm hd
          · obtain ⟨a, b, e, ha⟩ := ih h
            refine ⟨d :: a, b, by rw [e]; rfl, fun x hx => ?_⟩
            rcases List.mem_cons.1 hx with rfl | hx
            · exact hd
            · exact ha x hx
    subst hl
    obtain ⟨h1, h2, h3⟩ := cut_yes (b := b) ha
    exact ⟨a, b, rfl, ha, h3, h1, h2⟩

/-! ### Paths (P8.2) -/
def pathO (s : ByteArray) : Option (List UInt8) :=
  if s.data.toList.head? = some 47 then (plnO moreP (cutA s 63).data.toList).bind fun p => (plnO moreQ (cutZ s 63).data.toList).map fun q => dotsL p ++ (if cutOk s 63 then 63 :: q else []) else none
def pathE (s : ByteArray) : Int := if 8192 < s.size then 4 else if (pathO s).isSome then 0 else 23
def pathV (s : ByteArray) : List UInt8 := if 8192 < s.size then [] else (pathO s).getD []

/-- A path that stays. -/
structure Plain8 (v : List UInt8) : Prop where
  form : ∃ x L q, v = joinS (x :: L) ++ q ∧ (∀ y ∈ x :: L, Seg y) ∧ (q = [] ∨ ∃ r, q = 63 :: r) ∧ ∀ c ∈ joinS (x :: L), c ≠ 63
  stays : pathO (mkS v) = some v
theorem plain_head {v : List UInt8} (h : Plain8 v) : v.head? = some 47 := by
  obtain ⟨x, L, q, rfl, _⟩ := h.form
  rw [joinS_cons]; rfl
theorem pln_nilQ : plnO moreQ [] = some [] := plnO_nil _
theorem path_plain {s : ByteArray} {v : List UInt8} (h : pathO s = some v) : Plain8 v ∧ v.length ≤ s.size := by
  unfold pathO at h
  split at h
  · rename_i hh
    obtain ⟨p, hp, h2⟩ := Option.bind_eq_some_iff.1 h
    obtain ⟨q, hq, h3⟩ := Option.map_eq_some_iff.1 h2
    have hsz := Lib.size_eq s
    -- the path's part begins with a slash
    have hA : ∃ a, (cutA s 63).data.toList = 47 :: a ∧ (cutOk s 63 = true → a.length + 1 + (1 + (cutZ s 63).data.toList.length) = s.size) ∧ (cutOk s 63 = false → a.length + 1 = s.size ∧ (cutZ s 63).data.toList = []) := by
      rcases cut_form s 63 with ⟨h1, _, h2, h3⟩ | ⟨a, b, hl, ha, h1, h2, h3⟩
      · have e63 : (((63 : UInt8).toNat : Nat) : Int) = 63 := rfl
        rw [e63] at h1 h2 h3
        rw [h1, h2, h3]
        cases hl : s.data.toList with
        | nil => rw [hl] at hh; cases hh
        | cons c r =>
          rw [hl] at hh hsz
          simp only [List.head?_cons, Option.some.injEq] at hh
          subst hh
          exact ⟨r, rfl, (fun h => by cases h), fun _ => ⟨by simpa using hsz.symm, rfl⟩⟩
      · have e63 : (((63 : UInt8).toNat : Nat) : Int) = 63 := rfl
        rw [e63] at h1 h2 h3
        rw [h1, h2, h3]
        rw [hl] at hh hsz
        cases a with
        | nil => simp at hh
        | cons c a =>
          simp only [List.cons_append, List.head?_cons, Option.some.injEq] at hh
          subst hh
          refine ⟨a, rfl, fun _ => ?_, fun h => by cases h⟩
          rw [mkS_list]
          simp at hsz
          omega
    obtain ⟨a, ha, hl1, hl2⟩ := hA
    rw [ha, plnO_byte (by decide) (by decide)] at hp
    obtain ⟨p', hp', rfl⟩ := Option.map_eq_some_iff.1 hp
    have hfix : plnO moreP (47 :: p') = some (47 :: p') := by
      rw [plnO_byte (by decide) (by decide), pln_fix moreP_ok hp']; rfl
    have hd := dots_fix (more := moreP) (by decide) hfix
    have hq2 := pln_fix moreQ_ok hq
    have l1 := pln_len8 hp'
    have l2 := pln_len8 hq
    have l3 := dots_len p'
    obtain ⟨x, L, hg, hdl, _⟩ := dots_form (47 :: p')
    have hda := dots_again (47 :: p')
    have hnq : ∀ c ∈ dotsL (47 :: p'), c ≠ 63 := fun c hc => pln_quest hd c hc
    have hhd : (dotsL (47 :: p')).head? = some 47 := by rw [hdl, joinS_cons]; rfl
    generalize dotsL (47 :: p') = d at *
    cases hok : cutOk s 63 with
    | false =>
      rw [hok] at h3
      simp only [Bool.false_eq_true, if_false, List.append_nil] at h3
      subst h3
      have hs := (hl2 hok).1
      refine ⟨⟨⟨x, L, [], by rw [hdl, List.append_nil], hg, .inl rfl, by rw [← hdl]; exact hnq⟩, ?_⟩, by simp at l3; omega⟩
      unfold pathO
      have hc := cut_no hnq
      have e63 : (((63 : UInt8).toNat : Nat) : Int) = 63 := rfl
      rw [e63] at hc
      rw [mkS_list, if_pos hhd, hc.1, hc.2.1, hc.2.2, mkS_list, mkS_list, hd, plnO_nil]
      simp [hda]
    | true =>
      rw [hok] at h3
      simp only [if_true] at h3
      subst h3
      have hs := hl1 hok
      refine ⟨⟨⟨x, L, 63 :: q, by rw [hdl], hg, .inr ⟨q, rfl⟩, by rw [← hdl]; exact hnq⟩, ?_⟩, by simp at l3 ⊢; omega⟩
      unfold pathO
      have hc := cut_yes (b := q) hnq
      have e63 : (((63 : UInt8).toNat : Nat) : Int) = 63 := rfl
      rw [e63] at hc
      have hhd2 : (d ++ 63 :: q).head? = some 47 := by rw [List.head?_append, hhd]; rfl
      rw [mkS_list, if_pos hhd2, hc.1, hc.2.1, hc.2.2, mkS_list, mkS_list, hd, hq2]
      simp [hda]
  · cases h
theorem path_cases (s : ByteArray) : (pathE s = 4 ∧ pathV s = [] ∧ 8192 < s.size) ∨ (pathE s = 23 ∧ pathV s = [] ∧ s.size ≤ 8192) ∨ (pathE s = 0 ∧ Plain8 (pathV s) ∧ (pathV s).length ≤ 8192 ∧ pathO s = some (pathV s)) := by
  unfold pathE pathV
  by_cases h : 8192 < s.size
  · rw [if_pos h, if_pos h]; exact .inl ⟨rfl, rfl, h⟩
  · rw [if_neg h, if_neg h]
    cases ho : pathO s with
    | none => exact .inr (.inl ⟨rfl, rfl, by omega⟩)
    | some v =>
      have := path_plain ho
      exact .inr (.inr ⟨rfl, this.1, Nat.le_trans this.2 (by omega), rfl⟩)
theorem path_stays {v : List UInt8} (h : Plain8 v) (hl : v.length ≤ 8192) : pathE (mkS v) = 0 ∧ pathV (mkS v) = v := by
  unfold pathE pathV
  simp only [mkS_size, show ¬ 8192 < v.length by omega, if_false, h.stays]
  exact ⟨rfl, rfl⟩

/-! ### Authorities (P8.1) -/
def authO (s : ByteArray) : Option (List UInt8 × Int) :=
  if (cutA s 58).size < 1 ∨ 253 < (cutA s 58).size ∨ allB hostB (cutA s 58).data.toList = false then none
  else if (cutZ s 58).size = 0 then some (lowL (cutA s 58).data.toList, 80)
  else if numE 10 18 65535 (cutZ s 58).data.toList ≠ 0 ∨ numN 10 18 65535 (cutZ s 58).data.toList < 1 ∨ 5 < (cutZ s 58).size then none
  else some (lowL (cutA s 58).data.toList, numN 10 18 65535 (cutZ s 58).data.toList)
theorem host_low : ∀ n : Nat, n < 256 → hostB n = true → hostB ((lowU (UInt8.ofNat n)).toNat : Int) = true ∧ (lowU (UInt8.ofNat n)).toNat ≠ 58 ∧ (lowU (UInt8.ofNat n)).toNat ≠ 47 ∧ (lowU (UInt8.ofNat n)).toNat ≠ 63 := by decide +kernel
theorem host_low' (c : UInt8) (h : hostB (c.toNat : Int) = true) : hostB ((lowU c).toNat : Int) = true ∧ lowU c ≠ 58 ∧ lowU c ≠ 47 ∧ lowU c ≠ 63 := by
  have := host_low c.toNat c.toNat_lt h
  rw [UInt8.ofNat_toNat] at this
  refine ⟨this.1, fun e => this.2.1 (by rw [e]; rfl), fun e => this.2.2.1 (by rw [e]; rfl), fun e => this.2.2.2 (by rw [e]; rfl)⟩
/-- A host and a port that stay. -/
structure Auth8 (h : List UInt8) (p : Int) : Prop where
  l0 : 1 ≤ h.length
  l1 : h.length ≤ 253
  all : allB hostB h = true
  low : lowL h = h
  no : ∀ c ∈ h, c ≠ 58 ∧ c ≠ 47 ∧ c ≠ 63
  p0 : 1 ≤ p
  p1 : p ≤ 65535
theorem numN_most (l : List UInt8) (most : Int) (h : numE 10 18 most l = 0) : numN 10 18 most l ≤ most := by
  unfold numE at h
  unfold numN
  split at h
  · cases h
  · split at h
    · cases h
    · rename_i h1 h2
      rw [if_neg (by rintro (h3 | h3 | h3 | h3); exact h1 (.inl h3); exact h1 (.inr (.inl h3)); exact h1 (.inr (.inr h3)); exact h2 h3)]
      omega
theorem auth_good {s : ByteArray} {h : List UInt8} {p : Int} (e : authO s = some (h, p)) : Auth8 h p := by
  unfold authO at e
  split at e
  · cases e
  · rename_i hc
    have hl : 1 ≤ (cutA s 58).size ∧ (cutA s 58).size ≤ 253 ∧ allB hostB (cutA s 58).data.toList = true := by
      refine ⟨by omega, by omega, ?_⟩
      cases hb : allB hostB (cutA s 58).data.toList with
      | true => rfl
      | false => exact absurd (.inr (.inr hb)) hc
    obtain ⟨l0, l1, ha⟩ := hl
    rw [Lib.size_eq] at l0 l1
    generalize (cutA s 58).data.toList = a at *
    have hall : ∀ c ∈ lowL a, hostB (c.toNat : Int) = true ∧ c ≠ 58 ∧ c ≠ 47 ∧ c ≠ 63 := by
      intro c hc
      unfold lowL at hc
      obtain ⟨d, hd, rfl⟩ := List.mem_map.1 hc
      unfold allB at ha
      exact host_low' d (List.all_eq_true.1 ha d hd)
    have mk : ∀ p : Int, 1 ≤ p → p ≤ 65535 → Auth8 (lowL a) p := fun p h0 h1 =>
      ⟨by rw [lowL_len]; exact l0, by rw [lowL_len]; exact l1, by unfold allB; rw [List.all_eq_true]; exact fun c hc => (hall c hc).1, lowL_twice a, fun c hc => (hall c hc).2, h0, h1⟩
    split at e
    · cases e; exact mk 80 (by decide) (by decide)
    · split at e
      · cases e
      · rename_i hn
        cases e
        refine mk _ (by omega) (numN_most _ _ ?_)
        refine Classical.byContradiction fun h => hn (.inl h)
theorem plain_port {p : Int} (h0 : 1 ≤ p) (h1 : p ≤ 65535) : numN 10 18 65535 (plainL p) = p ∧ numE 10 18 65535 (plainL p) = 0 ∧ 1 ≤ (plainL p).length ∧ (plainL p).length ≤ 5 ∧ ∀ c ∈ plainL p, c ≠ 47 ∧ c ≠ 63 := by
  obtain ⟨n, rfl⟩ := Int.eq_ofNat_of_zero_le (show 0 ≤ p by omega)
  have e : plainL (n : Int) = digs 10 n := by unfold plainL; rw [if_neg (by omega)]; rfl
  have v1 : valV 10 (digs 10 n) = n := (digs_val 10 n (by omega) (by omega)).1
  have v2 : allB (isD 10) (digs 10 n) = true := (digs_val 10 n (by omega) (by omega)).2
  have v3 := digs_pos 10 n
  have v4 := digs_len 10 4 n (by omega) (by omega)
  rw [e]
  refine ⟨?_, ?_, v3, v4, fun c hc => ?_⟩
  · unfold numN
    rw [if_neg, v1]
    rw [v1, v2]; rintro (h | h | h | h)
    · omega
    · omega
    · cases h
    · omega
  · unfold numE
    rw [if_neg, if_neg (by rw [v1]; omega)]
    rw [v2]; rintro (h | h | h)
    · omega
    · omega
    · cases h
  · unfold allB at v2
    have := List.all_eq_true.1 v2 c hc
    constructor <;> (rintro rfl; revert this; decide)
theorem auth_again {h : List UInt8} {p : Int} (a : Auth8 h p) : authO (mkS (h ++ 58 :: plainL p)) = some (h, p) ∧ authO (mkS h) = some (h, 80) := by
  have e58 : (((58 : UInt8).toNat : Nat) : Int) = 58 := rfl
  have h1 := cut_yes (a := h) (b := plainL p) (c := 58) (fun c hc => (a.no c hc).1)
  have h2 := cut_no (l := h) (c := 58) (fun c hc => (a.no c hc).1)
  rw [e58] at h1 h2
  have pp := plain_port a.p0 a.p1
  have l0 := a.l0
  have l1 := a.l1
  constructor
  · unfold authO
    rw [h1.1, h1.2.1, mkS_size, mkS_size, mkS_list, mkS_list, a.all, a.low, pp.1, pp.2.1, if_neg (by rintro (h | h | h); omega; omega; cases h), if_neg (by omega), if_neg]
    rintro (h | h | h)
    · exact h rfl
    · have := a.p0; omega
    · omega
  · unfold authO
    rw [h2.1, h2.2.1, mkS_size, mkS_size, mkS_list, a.all, a.low, if_neg (by rintro (h | h | h); omega; omega; cases h), if_pos (show ([] : List UInt8).length = 0 from rfl)]

/-! ### Targets, their texts and keys (P8.3, P8.4) -/
abbrev Uri8 := List UInt8 × Int × List UInt8
def sch8 : List UInt8 := [104, 116, 116, 112, 58, 47, 47]
def schB (t : ByteArray) : Bool := decide (7 ≤ t.size) && (lowL (t.data.toList.take 7) == sch8)
def endB (c : UInt8) : Bool := c == 47 || c == 63
def parH (t h : ByteArray) : ByteArray := if schB t then mkS ((t.data.toList.drop 7).takeWhile fun c => !endB c) else h
def rest8 (r : List UInt8) : List UInt8 := if r.head? = some 47 then r else 47 :: r
def parG (t : ByteArray) : List UInt8 := if schB t then rest8 ((t.data.toList.drop 7).dropWhile fun c => !endB c) else t.data.toList
def parR (t h : ByteArray) : Uri8 × Int :=
  if (parG t).head? = some 47 then
    match authO (parH t h) with
    | none => (([], 0, []), 26)
    | some (a, p) => if pathE (mkS (parG t)) = 0 then ((a, p, pathV (mkS (parG t))), 0) else (([], 0, []), pathE (mkS (parG t)))
  else (([], 0, []), 23)
def textL (u : Uri8) : List UInt8 := sch8 ++ u.1 ++ (if u.2.1 = 80 then [] else 58 :: plainL u.2.1) ++ u.2.2
def keyT (u : Uri8) : List UInt8 := [71, 69, 84, 32] ++ textL u
def keyE8 (u : Uri8) : Int := if 255 < (keyT u).length then 4 else 0
def keyL8 (u : Uri8) : List UInt8 := if 255 < (keyT u).length then [] else keyT u
def resR (u : Uri8) (s : ByteArray) : Uri8 × Int := parR s (mkS (u.1 ++ 58 :: plainL u.2.1))

structure Good8 (u : Uri8) : Prop where
  auth : Auth8 u.1 u.2.1
  path : Plain8 u.2.2
  len : u.2.2.length ≤ 8192
theorem par_good (t h : ByteArray) : ((parR t h).2 = 0 ∧ Good8 (parR t h).1) ∨ ((parR t h).2 ≠ 0 ∧ (parR t h).1 = ([], 0, [])) := by
  unfold parR
  split
  · cases ha : authO (parH t h) with
    | none => exact .inr ⟨(show (26 : Int) ≠ 0 by decide), rfl⟩
    | some x =>
      obtain ⟨a, p⟩ := x
      rcases path_cases (mkS (parG t)) with ⟨e, _⟩ | ⟨e, _⟩ | ⟨e, hp, hl, _⟩
      · simp only [e]; exact .inr ⟨(show (4 : Int) ≠ 0 by decide), rfl⟩
      · simp only [e]; exact .inr ⟨(show (23 : Int) ≠ 0 by decide), rfl⟩
      · simp only [e]; exact .inl ⟨rfl, auth_good ha, hp, hl⟩
  · exact .inr ⟨by decide, rfl⟩
theorem par_of {t h : ByteArray} {u : Uri8} (g : Good8 u) (h1 : parG t = u.2.2) (h2 : authO (parH t h) = some (u.1, u.2.1)) : parR t h = (u, 0) := by
  have hs := path_stays g.path g.len
  unfold parR
  rw [h1, if_pos (plain_head g.path), h2]
  simp only [hs.1, hs.2]; rfl
theorem take_pre {p : UInt8 → Bool} {a b : List UInt8} (ha : ∀ c ∈ a, p c = true) (hb : ∀ c, b.head? = some c → p c = false) : (a ++ b).takeWhile p = a ∧ (a ++ b).dropWhile p = b := by
  induction a with
  | nil =>
    cases b with
    | nil => exact ⟨rfl, rfl⟩
    | cons c r =>
      have := hb c rfl
      simp [this]
  | cons c a ih =>
    have hc := ha c (by simp)
    have := ih (fun d hd => ha d (by simp [hd]))
    simp [hc, this]
/-- The text of a target is read as it, whatever the Host. -/
theorem par_text {u : Uri8} (g : Good8 u) (h : ByteArray) : parR (mkS (textL u)) h = (u, 0) := by
  have ag := auth_again g.auth
  have pp := plain_port g.auth.p0 g.auth.p1
  have hd := plain_head g.path
  obtain ⟨H, hH⟩ : ∃ H, H = u.1 ++ (if u.2.1 = 80 then [] else 58 :: plainL u.2.1) := ⟨_, rfl⟩
  have hT : textL u = sch8 ++ (H ++ u.2.2) := by rw [hH]; unfold textL; simp
  have hau : authO (mkS H) = some (u.1, u.2.1) := by
    rw [hH]
    by_cases h80 : u.2.1 = 80
    · rw [if_pos h80, List.append_nil, h80]; exact ag.2
    · rw [if_neg h80]; exact ag.1
  have hno : ∀ c ∈ H, (!endB c) = true := by
    intro c hc
    have : c ≠ 47 ∧ c ≠ 63 := by
      rw [hH] at hc
      rcases List.mem_append.1 hc with hc | hc
      · exact (g.auth.no c hc).2
      · split at hc
        · cases hc
        · rcases List.mem_cons.1 hc with rfl | hc
          · decide
          · exact pp.2.2.2.2 c hc
    simp [endB, this.1, this.2]
  have hend : ∀ c, u.2.2.head? = some c → (!endB c) = false := by
    intro c hc
    rw [hd] at hc
    cases hc; rfl
  have hsb : schB (mkS (textL u)) = true := by
    unfold schB
    rw [mkS_size, mkS_list, hT, List.length_append, show (7 : Nat) = sch8.length from rfl, List.take_left]
    simp
    rfl
  have hdr : (mkS (textL u)).data.toList.drop 7 = H ++ u.2.2 := by
    rw [mkS_list, hT, show (7 : Nat) = sch8.length from rfl, List.drop_left]
  have htk := take_pre hno hend
  refine par_of g ?_ ?_
  · unfold parG
    rw [if_pos hsb, hdr, htk.2]
    unfold rest8
    rw [if_pos hd]
  · unfold parH
    rw [if_pos hsb, hdr, htk.1]
    exact hau
/-- A target beside it that is its path is it. -/
theorem par_path {u : Uri8} (g : Good8 u) : resR u (mkS u.2.2) = (u, 0) := by
  have hd := plain_head g.path
  have hsb : schB (mkS u.2.2) = false := by
    unfold schB
    rw [mkS_list]
    cases hl : u.2.2 with
    | nil => rw [hl] at hd; cases hd
    | cons c r =>
      rw [hl] at hd
      simp only [List.head?_cons, Option.some.injEq] at hd
      subst hd
      have : lowL ((47 :: r).take 7) = 47 :: lowL (r.take 6) := rfl
      rw [this]
      have : (47 :: lowL (r.take 6) == sch8) = false := rfl
      rw [this, Bool.and_false]
  unfold resR
  refine par_of g ?_ ?_
  · unfold parG
    rw [hsb]; rfl
  · unfold parH
    rw [hsb]
    exact (auth_again g.auth).1

end Go.Proofs.YtcmppmbieebkpaaGreatDoor
