/-
  Plain functions of layer 8, without the program: what a path, a host and a target are made of, dot segments, the text of a target (P8.1 to P8.4).
-/
import Derived.Test.YtcmppmbieebkpaaGreatDoorDecM
namespace Go.Proofs.YtcmppmbieebkpaaGreatDoor

def letB (c : Int) : Bool := rng 97 122 c || rng 65 90 c || rng 48 57 c
def hostB (c : Int) : Bool := letB c || hasB [45, 46] c
def softB (c : Int) : Bool := letB c || hasB [45, 46, 95, 126] c
/-- What may stand in a path, and in a query, beside letters and digits. -/
def moreP : List UInt8 := [45, 46, 95, 126, 33, 36, 38, 39, 40, 41, 42, 43, 44, 59, 61, 58, 64, 47]
def moreQ : List UInt8 := [45, 46, 95, 126, 33, 36, 38, 39, 40, 41, 42, 43, 44, 59, 61, 58, 64, 47, 63]
def hexD (n : Nat) : UInt8 := if n < 10 then UInt8.ofNat (48 + n) else UInt8.ofNat (55 + n)
/-- The byte that two hexadecimal digits denote, and what stands in its place. -/
def hexV (a b : UInt8) : Nat := (16 * hexN (a.toNat : Int) + hexN (b.toNat : Int)).toNat
def escL8 (a b : UInt8) : List UInt8 := if softB (hexV a b : Nat) then [UInt8.ofNat (hexV a b)] else [37, hexD (hexN (a.toNat : Int)).toNat, hexD (hexN (b.toNat : Int)).toNat]
/-- A path's or a query's bytes with each % made plain; none: one may not stand there. -/
def plnO (more : List UInt8) : List UInt8 → Option (List UInt8)
  | [] => some []
  | c :: r =>
    if c = 37 then
      match r with
      | a :: b :: r' => if hexB (a.toNat : Int) && hexB (b.toNat : Int) then (plnO more r').map fun x => escL8 a b ++ x else none
      | _ => none
    else if letB (c.toNat : Int) || hasB more (c.toNat : Int) then (plnO more r).map fun x => c :: x else none

theorem plnO_nil (more : List UInt8) : plnO more [] = some [] := by rw [plnO]
theorem plnO_cons (more : List UInt8) (c : UInt8) (r : List UInt8) : plnO more (c :: r) = if c = 37 then (match r with
      | a :: b :: r' => if hexB (a.toNat : Int) && hexB (b.toNat : Int) then (plnO more r').map fun x => escL8 a b ++ x else none
      | _ => none)
    else if letB (c.toNat : Int) || hasB more (c.toNat : Int) then (plnO more r).map fun x => c :: x else none := by
  rw [plnO.eq_def]
theorem plnO_byte {more : List UInt8} {c : UInt8} {r : List UInt8} (h : c ≠ 37) (hc : (letB (c.toNat : Int) || hasB more (c.toNat : Int)) = true) : plnO more (c :: r) = (plnO more r).map fun x => c :: x := by
  rw [plnO_cons, if_neg h, if_pos hc]
theorem plnO_bad {more : List UInt8} {c : UInt8} {r : List UInt8} (h : c ≠ 37) (hc : (letB (c.toNat : Int) || hasB more (c.toNat : Int)) = false) : plnO more (c :: r) = none := by
  rw [plnO_cons, if_neg h, hc]; rfl
theorem plnO_esc {more : List UInt8} {a b : UInt8} {r : List UInt8} (hx : hexB (a.toNat : Int) = true) (hy : hexB (b.toNat : Int) = true) : plnO more (37 :: a :: b :: r) = (plnO more r).map fun x => escL8 a b ++ x := by
  rw [plnO_cons, if_pos rfl]; simp [hx, hy]
theorem plnO_noesc {more : List UInt8} {a b : UInt8} {r : List UInt8} (h : (hexB (a.toNat : Int) && hexB (b.toNat : Int)) = false) : plnO more (37 :: a :: b :: r) = none := by
  rw [plnO_cons, if_pos rfl]; simp only [h]; rfl
theorem plnO_short {more : List UInt8} {r : List UInt8} (h : r.length < 2) : plnO more (37 :: r) = none := by
  rw [plnO_cons, if_pos rfl]
  rcases r with _ | ⟨a, _ | ⟨b, r⟩⟩
  · rfl
  · rfl
  · simp at h; omega

/-! ### What is made plain stays plain -/
theorem hexD_facts : ∀ n : Nat, n < 16 → hexB ((hexD n).toNat : Int) = true ∧ hexN ((hexD n).toNat : Int) = n ∧ hexD n ≠ 37 ∧ hexD n ≠ 47 ∧ hexD n ≠ 63 ∧ letB ((hexD n).toNat : Int) = true := by decide +kernel
theorem hexN_bd : ∀ n : Nat, n < 256 → 0 ≤ hexN n ∧ hexN n ≤ 15 := by decide +kernel
theorem soft_more : ∀ n : Nat, n < 256 → softB n = true → (letB n || hasB moreP n) = true ∧ (letB n || hasB moreQ n) = true ∧ n ≠ 37 ∧ n ≠ 47 ∧ n ≠ 63 := by decide +kernel
theorem hexN_lt (a : UInt8) : 0 ≤ hexN (a.toNat : Int) ∧ hexN (a.toNat : Int) ≤ 15 := hexN_bd a.toNat a.toNat_lt
theorem hexV_lt (a b : UInt8) : hexV a b < 256 := by
  have := hexN_lt a
  have := hexN_lt b
  unfold hexV; omega
theorem ofNat_toNat8 {n : Nat} (h : n < 256) : (UInt8.ofNat n).toNat = n := by rw [UInt8.toNat_ofNat', Nat.mod_eq_of_lt h]

structure More (more : List UInt8) : Prop where
  soft : ∀ n : Nat, n < 256 → softB n = true → (letB n || hasB more n) = true
theorem moreP_ok : More moreP := ⟨fun n h hs => (soft_more n h hs).1⟩
theorem moreQ_ok : More moreQ := ⟨fun n h hs => (soft_more n h hs).2.1⟩

theorem esc_fix {more : List UInt8} (hm : More more) (a b : UInt8) (r x : List UInt8) (h : plnO more r = some x) : plnO more (escL8 a b ++ r) = some (escL8 a b ++ x) := by
  have ha := hexN_lt a
  have hb := hexN_lt b
  have hv := hexV_lt a b
  unfold escL8
  by_cases hs : softB (hexV a b : Nat) = true
  · rw [if_pos hs]
    have e := ofNat_toNat8 hv
    have hne : UInt8.ofNat (hexV a b) ≠ 37 := by
      intro e2
      have := (soft_more _ hv hs).2.2.1
      rw [← e, e2] at this
      exact this rfl
    rw [List.cons_append, List.nil_append, plnO_byte hne (by rw [e]; exact hm.soft _ hv hs), h]; rfl
  · rw [if_neg hs]
    obtain ⟨A, hA⟩ := Int.eq_ofNat_of_zero_le ha.1
    obtain ⟨B, hB⟩ := Int.eq_ofNat_of_zero_le hb.1
    have fA := hexD_facts A (by omega)
    have fB := hexD_facts B (by omega)
    have e1 : (hexN (a.toNat : Int)).toNat = A := by rw [hA]; rfl
    have e2 : (hexN (b.toNat : Int)).toNat = B := by rw [hB]; rfl
    rw [e1, e2]
    have e3 : hexV (hexD A) (hexD B) = hexV a b := by unfold hexV; rw [fA.2.1, fB.2.1, hA, hB]
    have e4 : escL8 (hexD A) (hexD B) = [37, hexD A, hexD B] := by
      unfold escL8
      rw [e3, if_neg hs, fA.2.1, fB.2.1]; rfl
    show plnO more (37 :: hexD A :: hexD B :: r) = _
    rw [plnO_esc fA.1 fB.1, h, e4]; rfl

/-- A list, byte by byte or escape by escape. -/
theorem pln_ind {more : List UInt8} {M : List UInt8 → List UInt8 → Prop} (h0 : M [] []) (h1 : ∀ c r x, c ≠ 37 → (letB (c.toNat : Int) || hasB more (c.toNat : Int)) = true → plnO more r = some x → M r x → M (c :: r) (c :: x))
    (h2 : ∀ a b r x, hexB (a.toNat : Int) = true → hexB (b.toNat : Int) = true → plnO more r = some x → M r x → M (37 :: a :: b :: r) (escL8 a b ++ x)) : ∀ (n : Nat) (l x : List UInt8), l.length ≤ n → plnO more l = some x → M l x
  | n, [], x, _, h => by rw [plnO_nil] at h; cases h; exact h0
  | 0, c :: r, x, hl, _ => by simp at hl
  | n + 1, c :: r, x, hl, h => by
    by_cases hc : c = 37
    · subst hc
      rcases r with _ | ⟨a, _ | ⟨b, r⟩⟩
      · rw [plnO_short (by simp)] at h; cases h
      · rw [plnO_short (by simp)] at h; cases h
      · by_cases hh : (hexB (a.toNat : Int) && hexB (b.toNat : Int)) = true
        · have hh2 := hh
          rw [Bool.and_eq_true] at hh2
          rw [plnO_esc hh2.1 hh2.2] at h
          obtain ⟨y, hy, rfl⟩ := Option.map_eq_some_iff.1 h
          exact h2 a b r y hh2.1 hh2.2 hy (pln_ind h0 h1 h2 n r y (by simp at hl; omega) hy)
        · rw [plnO_noesc (by simpa using hh)] at h; cases h
    · by_cases hh : (letB (c.toNat : Int) || hasB more (c.toNat : Int)) = true
      · rw [plnO_byte hc hh] at h
        obtain ⟨y, hy, rfl⟩ := Option.map_eq_some_iff.1 h
        exact h1 c r y hc hh hy (pln_ind h0 h1 h2 n r y (by simp at hl; omega) hy)
      · rw [plnO_bad hc (by simpa using hh)] at h; cases h

theorem pln_fix {more : List UInt8} (hm : More more) {l x : List UInt8} (h : plnO more l = some x) : plnO more x = some x := by
  refine pln_ind (more := more) (M := fun _ x => plnO more x = some x) (plnO_nil more) ?_ ?_ l.length l x (Nat.le_refl _) h
  · intro c r x hc hh _ hi
    rw [plnO_byte hc hh, hi]; rfl
  · intro a b r x _ _ _ hi
    exact esc_fix hm a b x x hi
theorem esc_len (a b : UInt8) : (escL8 a b).length ≤ 3 := by unfold escL8; split <;> simp
theorem pln_len8 {more : List UInt8} {l x : List UInt8} (h : plnO more l = some x) : x.length ≤ l.length := by
  refine pln_ind (more := more) (M := fun l x => x.length ≤ l.length) (Nat.le_refl _) ?_ ?_ l.length l x (Nat.le_refl _) h
  · intro c r x _ _ _ hi; simpa using hi
  · intro a b r x _ _ _ hi
    have := esc_len a b
    simp; omega
/-- A byte that no escape makes stands there only if it stood there. -/
theorem esc_mem (a b : UInt8) (c : UInt8) (h : c ∈ escL8 a b) : c = 37 ∨ letB (c.toNat : Int) = true ∨ softB (c.toNat : Int) = true := by
  have ha := hexN_lt a
  have hb := hexN_lt b
  have hv := hexV_lt a b
  unfold escL8 at h
  by_cases hs : softB (hexV a b : Nat) = true
  · rw [if_pos hs] at h
    simp only [List.mem_cons, List.not_mem_nil, or_false] at h
    subst h
    exact .inr (.inr (by rw [ofNat_toNat8 hv]; exact hs))
  · rw [if_neg hs] at h
    obtain ⟨A, hA⟩ := Int.eq_ofNat_of_zero_le ha.1
    obtain ⟨B, hB⟩ := Int.eq_ofNat_of_zero_le hb.1
    rw [hA, hB] at h
    simp only [List.mem_cons, List.not_mem_nil, or_false, Int.toNat_natCast] at h
    rcases h with rfl | rfl | rfl
    · exact .inl rfl
    · exact .inr (.inl (hexD_facts A (by omega)).2.2.2.2.2)
    · exact .inr (.inl (hexD_facts B (by omega)).2.2.2.2.2)
theorem pln_mem {more : List UInt8} {l x : List UInt8} (h : plnO more l = some x) (c : UInt8) (hc : c ∈ x) : c = 37 ∨ (letB (c.toNat : Int) || hasB more (c.toNat : Int)) = true ∨ softB (c.toNat : Int) = true := by
  revert c
  refine pln_ind (more := more) (M := fun _ x => ∀ c ∈ x, c = 37 ∨ (letB (c.toNat : Int) || hasB more (c.toNat : Int)) = true ∨ softB (c.toNat : Int) = true) (by simp) ?_ ?_ l.length l x (Nat.le_refl _) h
  · intro d r x _ hh _ hi c hc
    rcases List.mem_cons.1 hc with rfl | hc
    · exact .inr (.inl hh)
    · exact hi c hc
  · intro a b r x _ _ _ hi c hc
    rcases List.mem_append.1 hc with hc | hc
    · rcases esc_mem a b c hc with h | h | h
      · exact .inl h
      · exact .inr (.inl (by rw [h]; rfl))
      · exact .inr (.inr h)
    · exact hi c hc
theorem no_quest : ∀ n : Nat, n < 256 → (letB n || hasB moreP n) = true ∨ softB n = true → n ≠ 63 := by decide +kernel
theorem pln_quest {l x : List UInt8} (h : plnO moreP l = some x) (c : UInt8) (hc : c ∈ x) : c ≠ 63 := by
  rcases pln_mem h c hc with h | h | h
  · rw [h]; decide
  · intro e
    exact no_quest c.toNat c.toNat_lt (.inl h) (by rw [e]; rfl)
  · intro e
    exact no_quest c.toNat c.toNat_lt (.inr h) (by rw [e]; rfl)

/-- A slash parts what is made plain. -/
theorem pln_slash {more : List UInt8} (hs : hasB more 47 = true) (b : List UInt8) : ∀ (n : Nat) (a : List UInt8), a.length ≤ n → plnO more (a ++ 47 :: b) = (plnO more a).bind fun x => (plnO more b).map fun y => x ++ 47 :: y
  | n, [], _ => by
    rw [List.nil_append, plnO_nil, plnO_byte (by decide) (by rw [show ((47 : UInt8).toNat : Int) = 47 from rfl, hs]; simp)]
    cases plnO more b <;> rfl
  | 0, c :: r, hl => by simp at hl
  | n + 1, c :: r, hl => by
    by_cases hc : c = 37
    · subst hc
      rcases r with _ | ⟨x, _ | ⟨y, r⟩⟩
      · rw [plnO_short (r := []) (by simp)]
        show plnO more (37 :: 47 :: b) = none
        rcases b with _ | ⟨z, b⟩
        · exact plnO_short (by simp)
        · exact plnO_noesc rfl
      · rw [plnO_short (r := [x]) (by simp)]
        show plnO more (37 :: x :: 47 :: b) = none
        exact plnO_noesc (by rw [show hexB ((47 : UInt8).toNat : Int) = false from rfl]; simp)
      · by_cases hh : (hexB (x.toNat : Int) && hexB (y.toNat : Int)) = true
        · have hh2 := hh
          rw [Bool.and_eq_true] at hh2
          show plnO more (37 :: x :: y :: (r ++ 47 :: b)) = _
          rw [plnO_esc hh2.1 hh2.2, plnO_esc hh2.1 hh2.2, pln_slash hs b n r (by simp at hl; omega)]
          cases plnO more r with
          | none => rfl
          | some p => cases plnO more b <;> simp
        · show plnO more (37 :: x :: y :: (r ++ 47 :: b)) = _
          rw [plnO_noesc (by simpa using hh), plnO_noesc (by simpa using hh)]; rfl
    · by_cases hh : (letB (c.toNat : Int) || hasB more (c.toNat : Int)) = true
      · rw [List.cons_append, plnO_byte hc hh, plnO_byte hc hh, pln_slash hs b n r (by simp at hl; omega)]
        cases plnO more r with
        | none => rfl
        | some p => cases plnO more b <;> simp
      · rw [List.cons_append, plnO_bad hc (by simpa using hh), plnO_bad hc (by simpa using hh)]; rfl
/-- What is plain is plain on both sides of a slash. -/
theorem fix_slash {more : List UInt8} (hs : hasB more 47 = true) {a b : List UInt8} : plnO more (a ++ 47 :: b) = some (a ++ 47 :: b) ↔ plnO more a = some a ∧ plnO more b = some b := by
  rw [pln_slash hs b a.length a (Nat.le_refl _)]
  constructor
  · intro h
    obtain ⟨x, hx, h2⟩ := Option.bind_eq_some_iff.1 h
    obtain ⟨y, hy, h3⟩ := Option.map_eq_some_iff.1 h2
    have l1 := pln_len8 hx
    have l2 := pln_len8 hy
    have l3 := congrArg List.length h3
    simp only [List.length_append, List.length_cons] at l3
    obtain ⟨e1, e2⟩ := List.append_inj h3 (by omega)
    simp only [List.cons.injEq, true_and] at e2
    subst e1 e2
    exact ⟨hx, hy⟩
  · rintro ⟨h1, h2⟩
    rw [h1, h2]; rfl

/-! ### Dot segments -/
/-- The parts between slashes. -/
def spS : List UInt8 → List (List UInt8)
  | [] => [[]]
  | c :: r => if c = 47 then [] :: spS r else match spS r with
    | [] => [[c]]
    | x :: L => (c :: x) :: L
def joinS (L : List (List UInt8)) : List UInt8 := L.flatMap fun x => 47 :: x
def NoSl (x : List UInt8) : Prop := ∀ c ∈ x, c ≠ 47
theorem spS_ne (l : List UInt8) : spS l ≠ [] := by
  cases l with
  | nil => simp [spS]
  | cons c r =>
    unfold spS
    split
    · simp
    · split <;> simp
theorem joinS_cons (x : List UInt8) (L : List (List UInt8)) : joinS (x :: L) = 47 :: x ++ joinS L := by simp [joinS]
theorem joinS_snoc (x : List UInt8) (L : List (List UInt8)) : joinS (L ++ [x]) = joinS L ++ 47 :: x := by simp [joinS]
theorem join_sp : ∀ l : List UInt8, joinS (spS l) = 47 :: l
  | [] => rfl
  | c :: r => by
    have ih := join_sp r
    unfold spS
    split
    · rename_i h
      subst h
      rw [joinS_cons, ih]; rfl
    · cases h : spS r with
      | nil => exact absurd h (spS_ne r)
      | cons x L =>
        rw [h, joinS_cons] at ih
        simp only [List.cons_append, List.cons.injEq, true_and] at ih
        show joinS ((c :: x) :: L) = _
        rw [joinS_cons, ← ih]; rfl
theorem sp_nosl : ∀ l : List UInt8, ∀ x ∈ spS l, NoSl x
  | [], x, hx => by
    simp only [spS, List.mem_cons, List.not_mem_nil, or_false] at hx
    subst hx
    intro c hc; cases hc
  | c :: r, x, hx => by
    have ih := sp_nosl r
    unfold spS at hx
    split at hx
    · rcases List.mem_cons.1 hx with rfl | hx
      · intro c hc; cases hc
      · exact ih x hx
    · rename_i hc
      cases h : spS r with
      | nil => exact absurd h (spS_ne r)
      | cons y L =>
        rw [h] at hx ih
        rcases List.mem_cons.1 hx with rfl | hx
        · intro d hd
          rcases List.mem_cons.1 hd with rfl | hd
          · exact hc
          · exact ih y (by simp) d hd
        · exact ih x (by simp [hx])
theorem sp_part {x : List UInt8} (hx : NoSl x) (r : List UInt8) : spS (x ++ 47 :: r) = x :: spS r := by
  induction x with
  | nil => simp [spS]
  | cons c x ih =>
    have hc := hx c (by simp)
    have := ih (fun d hd => hx d (by simp [hd]))
    rw [List.cons_append]
    conv => lhs; unfold spS
    rw [if_neg hc, this]
theorem sp_last {x : List UInt8} (hx : NoSl x) : spS x = [x] := by
  induction x with
  | nil => rfl
  | cons c x ih =>
    have hc := hx c (by simp)
    have := ih (fun d hd => hx d (by simp [hd]))
    unfold spS
    rw [if_neg hc, this]
theorem sp_join : ∀ (x : List UInt8) (L : List (List UInt8)), NoSl x → (∀ y ∈ L, NoSl y) → spS (x ++ joinS L) = x :: L
  | x, [], hx, _ => by simp [joinS, sp_last hx]
  | x, y :: L, hx, hL => by
    rw [joinS_cons, List.cons_append, sp_part hx, sp_join y L (hL y (by simp)) (fun z hz => hL z (by simp [hz]))]

def dotS (x : List UInt8) : Bool := x == [46]
def dot2 (x : List UInt8) : Bool := x == [46, 46]
/-- One segment more. -/
def segN (st : List (List UInt8)) (x : List UInt8) (last : Bool) : List (List UInt8) :=
  if x = [46, 46] then (if last then st.dropLast ++ [[]] else st.dropLast)
  else if x = [46] then (if last then st ++ [[]] else st)
  else st ++ [x]
def segF : List (List UInt8) → List (List UInt8) → List (List UInt8)
  | st, [] => st
  | st, [x] => segN st x true
  | st, x :: y :: r => segF (segN st x false) (y :: r)
/-- A path without dot segments. -/
def dotsL (p : List UInt8) : List UInt8 := if joinS (segF [] (spS p.tail)) = [] then [47] else joinS (segF [] (spS p.tail))

structure Seg (x : List UInt8) : Prop where
  sl : NoSl x
  d1 : x ≠ [46]
  d2 : x ≠ [46, 46]
theorem seg_nil : Seg [] := ⟨(fun c hc => by cases hc), by decide, by decide⟩
theorem segN_good {st : List (List UInt8)} {x : List UInt8} (last : Bool) (h : ∀ y ∈ st, Seg y) (hx : NoSl x) : ∀ y ∈ segN st x last, Seg y := by
  intro y hy
  have hd : ∀ y ∈ st.dropLast, Seg y := fun y hy => h y (List.dropLast_subset _ hy)
  unfold segN at hy
  split at hy
  · split at hy
    · rcases List.mem_append.1 hy with hy | hy
      · exact hd y hy
      · simp only [List.mem_cons, List.not_mem_nil, or_false] at hy; subst hy; exact seg_nil
    · exact hd y hy
  · rename_i h2
    split at hy
    · split at hy
      · rcases List.mem_append.1 hy with hy | hy
        · exact h y hy
        · simp only [List.mem_cons, List.not_mem_nil, or_false] at hy; subst hy; exact seg_nil
      · exact h y hy
    · rename_i h1
      rcases List.mem_append.1 hy with hy | hy
      · exact h y hy
      · simp only [List.mem_cons, List.not_mem_nil, or_false] at hy; subst hy; exact ⟨hx, h1, h2⟩
theorem segF_good : ∀ (L st : List (List UInt8)), (∀ y ∈ st, Seg y) → (∀ y ∈ L, NoSl y) → ∀ y ∈ segF st L, Seg y
  | [], st, h, _ => by unfold segF; exact h
  | [x], st, h, hL => by unfold segF; exact segN_good true h (hL x (by simp))
  | x :: z :: r, st, h, hL => by
    unfold segF
    exact segF_good (z :: r) _ (segN_good false h (hL x (by simp))) (fun y hy => hL y (by simp [hy]))
theorem segF_id : ∀ (L st : List (List UInt8)), (∀ y ∈ L, Seg y) → segF st L = st ++ L
  | [], st, _ => by simp [segF]
  | [x], st, h => by
    have hx := h x (by simp)
    simp [segF, segN, hx.d1, hx.d2]
  | x :: z :: r, st, h => by
    have hx := h x (by simp)
    unfold segF
    rw [segF_id (z :: r) _ (fun y hy => h y (by simp [hy]))]
    simp [segN, hx.d1, hx.d2]
theorem joinS_nil {L : List (List UInt8)} (h : joinS L = []) : L = [] := by
  cases L with
  | nil => rfl
  | cons x L => simp [joinS] at h
/-- A path without dot segments is made of good ones; the reverse. -/
theorem dots_form (p : List UInt8) : ∃ x L, (∀ y ∈ x :: L, Seg y) ∧ dotsL p = joinS (x :: L) ∧ ((segF [] (spS p.tail) = [] ∧ x = [] ∧ L = []) ∨ segF [] (spS p.tail) = x :: L) := by
  have hg := segF_good (spS p.tail) [] (by simp) (sp_nosl p.tail)
  unfold dotsL
  cases h : segF [] (spS p.tail) with
  | nil => exact ⟨[], [], by simpa using seg_nil, by simp [joinS], .inl ⟨rfl, rfl, rfl⟩⟩
  | cons x L =>
    rw [h] at hg
    refine ⟨x, L, hg, ?_, .inr rfl⟩
    rw [if_neg]
    intro e
    exact absurd (joinS_nil e) (by simp)
theorem dots_good {x : List UInt8} {L : List (List UInt8)} (h : ∀ y ∈ x :: L, Seg y) : dotsL (joinS (x :: L)) = joinS (x :: L) := by
  have e : (joinS (x :: L)).tail = x ++ joinS L := by rw [joinS_cons]; rfl
  unfold dotsL
  rw [e, sp_join x L (h x (by simp)).sl (fun y hy => (h y (by simp [hy])).sl), segF_id (x :: L) [] h, List.nil_append, if_neg]
  intro e
  exact absurd (joinS_nil e) (by simp)
theorem dots_again (p : List UInt8) : dotsL (dotsL p) = dotsL p := by
  obtain ⟨x, L, h, e, _⟩ := dots_form p
  rw [e, dots_good h]

/-! ### Each segment of a plain path is plain -/
theorem fix_join {more : List UInt8} (hs : hasB more 47 = true) : ∀ L : List (List UInt8), (plnO more (joinS L) = some (joinS L)) ↔ ∀ x ∈ L, plnO more x = some x := by
  intro L
  induction L using snoc_ind with
  | h0 => simp [joinS, plnO_nil]
  | h1 L x ih =>
    rw [joinS_snoc, fix_slash hs, ih]
    constructor
    · rintro ⟨h1, h2⟩ y hy
      rcases List.mem_append.1 hy with hy | hy
      · exact h1 y hy
      · simp only [List.mem_cons, List.not_mem_nil, or_false] at hy; subst hy; exact h2
    · intro h
      exact ⟨fun y hy => h y (by simp [hy]), h x (by simp)⟩
theorem segN_sub {P : List UInt8 → Prop} (h0 : P []) {st : List (List UInt8)} {x : List UInt8} (last : Bool) (h : ∀ y ∈ st, P y) (hx : P x) : ∀ y ∈ segN st x last, P y := by
  intro y hy
  have hd : ∀ y ∈ st.dropLast, P y := fun y hy => h y (List.dropLast_subset _ hy)
  unfold segN at hy
  split at hy
  · split at hy
    · rcases List.mem_append.1 hy with hy | hy
      · exact hd y hy
      · simp only [List.mem_cons, List.not_mem_nil, or_false] at hy; subst hy; exact h0
    · exact hd y hy
  · split at hy
    · split at hy
      · rcases List.mem_append.1 hy with hy | hy
        · exact h y hy
        · simp only [List.mem_cons, List.not_mem_nil, or_false] at hy; subst hy; exact h0
      · exact h y hy
    · rcases List.mem_append.1 hy with hy | hy
      · exact h y hy
      · simp only [List.mem_cons, List.not_mem_nil, or_false] at hy; subst hy; exact hx
theorem segF_sub {P : List UInt8 → Prop} (h0 : P []) : ∀ (L st : List (List UInt8)), (∀ y ∈ st, P y) → (∀ y ∈ L, P y) → ∀ y ∈ segF st L, P y
  | [], st, h, _ => by unfold segF; exact h
  | [x], st, h, hL => by unfold segF; exact segN_sub h0 true h (hL x (by simp))
  | x :: z :: r, st, h, hL => by
    unfold segF
    exact segF_sub h0 (z :: r) _ (segN_sub h0 false h (hL x (by simp))) (fun y hy => hL y (by simp [hy]))
theorem dots_fix {more : List UInt8} (hs : hasB more 47 = true) {r : List UInt8} (h : plnO more (47 :: r) = some (47 :: r)) : plnO more (dotsL (47 :: r)) = some (dotsL (47 :: r)) := by
  have h1 := (fix_join hs (spS r)).1 (by rw [join_sp]; exact h)
  have h2 := segF_sub (P := fun x => plnO more x = some x) (plnO_nil more) (spS r) [] (by simp) h1
  unfold dotsL
  rw [List.tail_cons]
  split
  · rw [plnO_byte (by decide) (by rw [show ((47 : UInt8).toNat : Int) = 47 from rfl, hs]; simp), plnO_nil]; rfl
  · exact (fix_join hs _).2 h2

/-! ### Lengths -/
theorem joinS_dropLast (st : List (List UInt8)) : (joinS st.dropLast).length ≤ (joinS st).length := by
  induction st using snoc_ind with
  | h0 => simp
  | h1 L x _ =>
    rw [List.dropLast_concat, joinS_snoc, List.length_append]
    omega
theorem segN_len (st : List (List UInt8)) (x : List UInt8) (last : Bool) : (joinS (segN st x last)).length ≤ (joinS st).length + x.length + 1 := by
  have := joinS_dropLast st
  unfold segN
  split
  · split
    · rw [joinS_snoc, List.length_append]; simp; omega
    · omega
  · split
    · split
      · rw [joinS_snoc, List.length_append]; simp
      · omega
    · rw [joinS_snoc, List.length_append, List.length_cons]; omega
theorem segF_len : ∀ (L st : List (List UInt8)), (joinS (segF st L)).length ≤ (joinS st).length + (joinS L).length
  | [], st => by simp [segF]
  | [x], st => by
    have := segN_len st x true
    simp only [segF, joinS_cons, List.length_append, List.length_cons]
    omega
  | x :: z :: r, st => by
    have h1 := segN_len st x false
    have h2 := segF_len (z :: r) (segN st x false)
    unfold segF
    rw [joinS_cons x, List.length_append, List.length_cons]
    omega
theorem dots_len (r : List UInt8) : (dotsL (47 :: r)).length ≤ (47 :: r).length := by
  have h := segF_len (spS r) []
  rw [join_sp] at h
  unfold dotsL
  split
  · simp
  · simpa [joinS] using h

end Go.Proofs.YtcmppmbieebkpaaGreatDoor
