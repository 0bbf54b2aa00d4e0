/-
  Texts that the laws of this seat lean on, one behind the other.
-/
import Derived.WalkKit
import Derived.Lib.Bytealg
import Derived.Lib.Strings
import Derived.Lib.IndexBytes
set_option linter.unusedSimpArgs false
set_option linter.unusedVariables false
/-
  Plain functions on bytes, without the program: which bytes a token, a value, a number may hold (P1.1), and small facts about them.
-/
section
namespace Go.Proofs.YthhlcecojeaalaaDoor

def rng (lo hi c : Int) : Bool := decide (lo ≤ c) && decide (c ≤ hi)
def hasB (l : List UInt8) (c : Int) : Bool := l.any fun b => (b.toNat : Int) == c
def marks : List UInt8 := [33, 35, 36, 37, 38, 39, 42, 43, 45, 46, 94, 95, 96, 124, 126]
def tokB (c : Int) : Bool := rng 97 122 c || rng 65 90 c || rng 48 57 c || hasB marks c
def txtB (c : Int) : Bool := rng 9 9 c || rng 32 126 c || rng 128 255 c
def digB (c : Int) : Bool := rng 48 57 c
def hexB (c : Int) : Bool := rng 48 57 c || rng 97 102 c || rng 65 70 c
def hexN (c : Int) : Int := if rng 48 57 c then c - 48 else if rng 97 102 c then c - 87 else if rng 65 70 c then c - 55 else 0
def blkB (c : Int) : Bool := c == 32 || c == 9

theorem rng_true {lo hi c : Int} : rng lo hi c = true ↔ lo ≤ c ∧ c ≤ hi := by simp [rng]
theorem rng_false {lo hi c : Int} : rng lo hi c = false ↔ ¬ (lo ≤ c ∧ c ≤ hi) := by simp [rng]

theorem byte_wf (b : UInt8) : (0 : Int) ≤ (b.toNat : Int) ∧ (b.toNat : Int) ≤ 255 := by
  have := b.toNat_lt
  omega

/-! ### Texts -/
def allB (p : Int → Bool) (l : List UInt8) : Bool := l.all fun b => p (b.toNat : Int)
theorem take_snoc (s : ByteArray) (k : Nat) (h : k < s.size) : s.data.toList.take (k + 1) = s.data.toList.take k ++ [s[k]] := by
  rw [List.take_succ_eq_append_getElem (by simpa using h)]; rfl
end Go.Proofs.YthhlcecojeaalaaDoor
end

/-
  Plain functions on texts, without the program: small letters, blanks off both ends, the two parts of a cut (P1.2, P1.3), and small facts about them.
-/
section
namespace Go.Proofs.YthhlcecojeaalaaDoor

/-- A text out of its bytes. -/
def mkS (l : List UInt8) : ByteArray := ⟨l.toArray⟩
theorem mkS_list (l : List UInt8) : (mkS l).data.toList = l := rfl
theorem mkS_eq {s : ByteArray} {l : List UInt8} (h : s.data.toList = l) : s = mkS l := by
  subst h
  exact (Lib.mk_data s).symm
theorem mkS_size (l : List UInt8) : (mkS l).size = l.length := by rw [Lib.size_eq, mkS_list]
theorem mkS_self (s : ByteArray) : mkS s.data.toList = s := (mkS_eq rfl).symm
theorem drop_at (s : ByteArray) (k : Nat) (h : k < s.size) : s.data.toList.drop k = s[k] :: s.data.toList.drop (k + 1) := by
  rw [List.drop_eq_getElem_cons (by rw [← Lib.size_eq]; exact h)]; rfl

/-! ### Blanks off both ends -/
def blkU (b : UInt8) : Bool := blkB (b.toNat : Int)
def rdw (l : List UInt8) : List UInt8 := (l.reverse.dropWhile blkU).reverse
def trimL (l : List UInt8) : List UInt8 := rdw (l.dropWhile blkU)

/-- The bytes of s from k to m. -/
def piece (s : ByteArray) (k m : Nat) : List UInt8 := (s.data.toList.drop k).take (m - k)
theorem piece_ext (s : ByteArray) (k m : Nat) : s.extract k m = mkS (piece s k m) := Lib.extract_eq s k m
theorem piece_none (s : ByteArray) (k : Nat) : piece s k k = [] := by unfold piece; simp
theorem piece_snoc (s : ByteArray) (k m : Nat) (h : k ≤ m) (hm : m < s.size) : piece s k (m + 1) = piece s k m ++ [s[m]] := by
  unfold piece
  rw [show m + 1 - k = (m - k) + 1 by omega, List.take_succ_eq_append_getElem (by rw [List.length_drop, ← Lib.size_eq]; omega)]
  congr 2
  rw [List.getElem_drop]
  simp only [show k + (m - k) = m by omega]; rfl

/-! ### Small letters -/
def lowU (b : UInt8) : UInt8 := if 65 ≤ b.toNat ∧ b.toNat ≤ 90 then b + 32 else b
def lowL (l : List UInt8) : List UInt8 := l.map lowU

theorem lowU_yes (b : UInt8) (h : rng 65 90 (b.toNat : Int) = true) : ((lowU b).toNat : Int) = (b.toNat : Int) + 32 := by
  rw [rng_true] at h
  unfold lowU
  rw [if_pos (by omega), UInt8.toNat_add]
  have : (32 : UInt8).toNat = 32 := rfl
  omega
theorem lowU_no (b : UInt8) (h : rng 65 90 (b.toNat : Int) = false) : lowU b = b := by
  rw [rng_false] at h
  unfold lowU
  rw [if_neg (by omega)]
/-- The bytes of which the first k are made small. -/
def lowK (l : List UInt8) (k : Nat) : List UInt8 := lowL (l.take k) ++ l.drop k
theorem lowK_zero (l : List UInt8) : lowK l 0 = l := by simp [lowK, lowL]
theorem lowK_full (l : List UInt8) (k : Nat) (h : l.length ≤ k) : lowK l k = lowL l := by simp [lowK, List.take_of_length_le h, List.drop_eq_nil_of_le h]
theorem lowK_len (l : List UInt8) (k : Nat) : (lowK l k).length = l.length := by simp [lowK, lowL]; omega
theorem lowL_len (l : List UInt8) : (lowL l).length = l.length := by simp [lowL]
theorem lowK_at (s : ByteArray) (k : Nat) (h : k < s.size) : (lowK s.data.toList k)[k]? = some s[k] := by
  have hl : s.size = s.data.toList.length := Lib.size_eq s
  have h1 : (lowL (s.data.toList.take k)).length = k := by rw [lowL_len, List.length_take]; omega
  unfold lowK
  rw [List.getElem?_append_right (by omega), h1, Nat.sub_self, drop_at s k h]; rfl
theorem lowK_succ (s : ByteArray) (k : Nat) (h : k < s.size) : lowK s.data.toList (k + 1) = (lowK s.data.toList k).set k (lowU s[k]) := by
  have hl : s.size = s.data.toList.length := Lib.size_eq s
  have h1 : (lowL (s.data.toList.take k)).length = k := by rw [lowL_len, List.length_take]; omega
  unfold lowK
  rw [take_snoc s k h, List.set_append_right _ _ (by omega), h1, Nat.sub_self, drop_at s k h]
  simp [lowL]
theorem lowK_same (s : ByteArray) (k : Nat) (h : k < s.size) (hb : lowU s[k] = s[k]) : lowK s.data.toList (k + 1) = lowK s.data.toList k := by
  have hl : s.size = s.data.toList.length := Lib.size_eq s
  have hk := lowK_at s k h
  rw [lowK_succ s k h, hb]
  rw [List.getElem?_eq_some_iff] at hk
  obtain ⟨a, b⟩ := hk
  have := List.set_getElem_self a
  rw [b] at this
  exact this

def sameB (a b : ByteArray) : Bool := lowL a.data.toList == lowL b.data.toList
theorem same_list (a b : List UInt8) : ((mkS a).toList == (mkS b).toList) = (a == b) := by rw [Lib.toList_data, Lib.toList_data, mkS_list, mkS_list]
theorem same_len {a b : ByteArray} (h : sameB a b = true) : a.size = b.size := by
  unfold sameB at h
  have := congrArg List.length (beq_iff_eq.1 h)
  rw [lowL_len, lowL_len] at this
  rw [Lib.size_eq, Lib.size_eq, this]

/-! ### The two parts of a cut -/
def idxOf (s : ByteArray) (c : Int) : Int := Lib.indexByte s.data.toList c.toNat.toUInt8
def cutA (s : ByteArray) (c : Int) : ByteArray := if idxOf s c = -1 then s else s.extract 0 (idxOf s c).toNat
def cutZ (s : ByteArray) (c : Int) : ByteArray := if idxOf s c = -1 then ⟨#[]⟩ else s.extract ((idxOf s c).toNat + 1) s.size
def cutOk (s : ByteArray) (c : Int) : Bool := !(idxOf s c == -1)
end Go.Proofs.YthhlcecojeaalaaDoor
end

/-
  Readers of bytes, part by part, and what they read: a printed value is read back, what was read is what is printed, a part of it is too short.
-/
section
namespace Go.Proofs.YthhlcecojeaalaaDoor

/-- Reads a value off bytes: the value and the rest, or the first error. -/
abbrev Pr (α : Type) := List UInt8 → Except Int (α × List UInt8)
def Pr.bind {α β : Type} (p : Pr α) (f : α → Pr β) : Pr β := fun m => match p m with
  | .ok (v, t) => f v t
  | .error e => .error e
def Pr.ret {α : Type} (v : α) : Pr α := fun m => .ok (v, m)
/-- n values, one behind the other. -/
def Pr.rep {α : Type} (p : Pr α) : Nat → Pr (List α)
  | 0 => Pr.ret []
  | n + 1 => p.bind fun v => (Pr.rep p n).bind fun r => Pr.ret (v :: r)
theorem Pr.bind_ok {α β : Type} {p : Pr α} {f : α → Pr β} {m t : List UInt8} {v : α} (h : p m = .ok (v, t)) : p.bind f m = f v t := by unfold Pr.bind; rw [h]
theorem Pr.bind_error {α β : Type} {p : Pr α} {f : α → Pr β} {m : List UInt8} {e : Int} (h : p m = .error e) : p.bind f m = .error e := by unfold Pr.bind; rw [h]

/-- What p reads is what q prints, for values of which ok holds. -/
structure PGood {α : Type} (p : Pr α) (q : α → List UInt8) (ok : α → Prop) : Prop where
  back : ∀ v t, ok v → p (q v ++ t) = .ok (v, t)
  only : ∀ m v t, p m = .ok (v, t) → ok v ∧ m = q v ++ t
  short : ∀ v k, ok v → k < (q v).length → p ((q v).take k) = .error 6

theorem PGood.ret {α : Type} (v : α) : PGood (Pr.ret v) (fun _ => []) (fun x => x = v) :=
  ⟨fun x t h => by subst h; rfl, fun m x t h => by cases h; exact ⟨rfl, rfl⟩, fun x k _ h => by simp at h⟩

/-- One part behind another one that tells it. -/
theorem PGood.seq {α β γ : Type} {p : Pr α} {q : α → List UInt8} {ok : α → Prop} (g : PGood p q ok) {f : α → Pr β} {r : α → β → List UInt8} {ok2 : α → β → Prop} (k : ∀ v, ok v → PGood (f v) (r v) (ok2 v))
    (mk : α → β → γ) (a : γ → α) (b : γ → β) (ha : ∀ x y, a (mk x y) = x) (hb : ∀ x y, b (mk x y) = y) (hc : ∀ z, mk (a z) (b z) = z) :
    PGood (p.bind fun v => (f v).bind fun y => Pr.ret (mk v y)) (fun z => q (a z) ++ r (a z) (b z)) (fun z => ok (a z) ∧ ok2 (a z) (b z)) := by
  refine ⟨fun z t h => ?_, fun m z t h => ?_, fun z n h hn => ?_⟩
  · show Pr.bind _ _ _ = _
    rw [List.append_assoc, Pr.bind_ok (g.back _ _ h.1), Pr.bind_ok ((k _ h.1).back _ _ h.2)]
    show Except.ok (mk (a z) (b z), t) = _
    rw [hc]
  · cases hp : p m with
    | error e => rw [Pr.bind_error hp] at h; cases h
    | ok x =>
      obtain ⟨v, m2⟩ := x
      rw [Pr.bind_ok hp] at h
      obtain ⟨h1, h2⟩ := g.only _ _ _ hp
      cases hf : f v m2 with
      | error e => rw [Pr.bind_error hf] at h; cases h
      | ok y =>
        obtain ⟨u, m3⟩ := y
        rw [Pr.bind_ok hf] at h
        obtain ⟨h3, h4⟩ := (k v h1).only _ _ _ hf
        cases h
        rw [ha, hb]
        exact ⟨⟨h1, h3⟩, by rw [h2, h4, List.append_assoc]⟩
  · show Pr.bind _ _ _ = _
    rcases Nat.lt_or_ge n (q (a z)).length with hl | hl
    · have : (q (a z) ++ r (a z) (b z)).take n = (q (a z)).take n := by rw [List.take_append, show n - (q (a z)).length = 0 by omega, List.take_zero, List.append_nil]
      rw [this, Pr.bind_error (g.short _ _ h.1 hl)]
    · have : (q (a z) ++ r (a z) (b z)).take n = q (a z) ++ (r (a z) (b z)).take (n - (q (a z)).length) := by rw [List.take_append, List.take_of_length_le hl]
      rw [this, Pr.bind_ok (g.back _ _ h.1), Pr.bind_error ((k _ h.1).short _ _ h.2 (by rw [List.length_append] at hn; omega))]

/-- n values. -/
theorem PGood.rep {α : Type} {p : Pr α} {q : α → List UInt8} {ok : α → Prop} (g : PGood p q ok) : ∀ n, PGood (p.rep n) (fun l => l.flatMap q) (fun l => l.length = n ∧ ∀ x ∈ l, ok x)
  | 0 => by
    refine ⟨fun v t h => ?_, fun m v t h => ?_, fun v k h hk => ?_⟩
    · obtain rfl := List.eq_nil_of_length_eq_zero h.1; rfl
    · cases h; exact ⟨⟨rfl, fun _ h => absurd h (by simp)⟩, rfl⟩
    · obtain rfl := List.eq_nil_of_length_eq_zero h.1; simp at hk
  | n + 1 => by
    have ih := PGood.rep g n
    refine ⟨fun v t h => ?_, fun m v t h => ?_, fun v k h hk => ?_⟩
    · obtain ⟨hl, ha⟩ := h
      cases v with
      | nil => simp at hl
      | cons x r =>
        show Pr.bind _ _ _ = _
        rw [List.flatMap_cons, List.append_assoc, Pr.bind_ok (g.back _ _ (ha x (List.mem_cons_self ..))), Pr.bind_ok (ih.back _ _ ⟨by simpa using hl, fun y hy => ha y (List.mem_cons_of_mem _ hy)⟩)]
        rfl
    · have h : p.bind (fun v => (p.rep n).bind fun r => Pr.ret (v :: r)) m = .ok (v, t) := h
      cases hp : p m with
      | error e => rw [Pr.bind_error hp] at h; cases h
      | ok x =>
        obtain ⟨x, m2⟩ := x
        rw [Pr.bind_ok hp] at h
        obtain ⟨h1, h2⟩ := g.only _ _ _ hp
        cases hf : p.rep n m2 with
        | error e => rw [Pr.bind_error hf] at h; cases h
        | ok y =>
          obtain ⟨r, m3⟩ := y
          rw [Pr.bind_ok hf] at h
          obtain ⟨h3, h4⟩ := ih.only _ _ _ hf
          cases h
          refine ⟨⟨by simp [h3.1], fun y hy => ?_⟩, by rw [h2, h4, List.flatMap_cons, List.append_assoc]⟩
          rcases List.mem_cons.1 hy with rfl | hy
          · exact h1
          · exact h3.2 y hy
    · obtain ⟨hl, ha⟩ := h
      cases v with
      | nil => simp at hl
      | cons x r =>
        have hx := ha x (List.mem_cons_self ..)
        have hr : r.length = n ∧ ∀ y ∈ r, ok y := ⟨by simpa using hl, fun y hy => ha y (List.mem_cons_of_mem _ hy)⟩
        show Pr.bind _ _ _ = _
        rw [List.flatMap_cons]
        rw [List.flatMap_cons] at hk
        rcases Nat.lt_or_ge k (q x).length with hc | hc
        · have : (q x ++ r.flatMap q).take k = (q x).take k := by rw [List.take_append, show k - (q x).length = 0 by omega, List.take_zero, List.append_nil]
          rw [this, Pr.bind_error (g.short _ _ hx hc)]
        · have : (q x ++ r.flatMap q).take k = q x ++ (r.flatMap q).take (k - (q x).length) := by rw [List.take_append, List.take_of_length_le hc]
          rw [this, Pr.bind_ok (g.back _ _ hx), Pr.bind_error (ih.short _ _ hr (by rw [List.length_append] at hk; omega))]

/-- The same values, told otherwise. -/
theorem PGood.same {α : Type} {p : Pr α} {q q' : α → List UInt8} {ok ok' : α → Prop} (g : PGood p q ok) (hq : ∀ v, ok v → q v = q' v) (ho : ∀ v, ok v ↔ ok' v) : PGood p q' ok' :=
  ⟨fun v t h => by rw [← hq v ((ho v).2 h)]; exact g.back v t ((ho v).2 h), fun m v t h => by
    obtain ⟨h1, h2⟩ := g.only m v t h
    exact ⟨(ho v).1 h1, by rw [← hq v h1]; exact h2⟩, fun v k h hk => by
    rw [← hq v ((ho v).2 h)] at hk ⊢
    exact g.short v k ((ho v).2 h) hk⟩

end Go.Proofs.YthhlcecojeaalaaDoor
end

/-
  Plain functions on bytes, without the program: an integer's bytes, the least significant one first, and the integer that bytes form (P3.1).
-/
section
namespace Go.Proofs.YthhlcecojeaalaaDoor

/-- The first k bytes of n. -/
def leL (n k : Nat) : List UInt8 := (List.range k).map fun i => UInt8.ofNat (n / 256 ^ i)
/-- The integer that bytes form. -/
def deL : List UInt8 → Nat
  | [] => 0
  | x :: r => x.toNat + 256 * deL r

theorem leL_len (n k : Nat) : (leL n k).length = k := by simp [leL]
theorem leL_zero (n : Nat) : leL n 0 = [] := rfl
theorem leL_succ (n k : Nat) : leL n (k + 1) = leL n k ++ [UInt8.ofNat (n / 256 ^ k)] := by simp [leL, List.range_succ]
theorem deL_snoc (l : List UInt8) (x : UInt8) : deL (l ++ [x]) = deL l + x.toNat * 256 ^ l.length := by
  induction l with
  | nil => simp [deL]
  | cons y r ih =>
    simp only [List.cons_append, deL, ih, List.length_cons, Nat.pow_succ, Nat.mul_add]
    rw [Nat.add_assoc]
    congr 2
    rw [← Nat.mul_assoc, Nat.mul_comm 256, Nat.mul_assoc, Nat.mul_comm 256]
theorem deL_lt (l : List UInt8) : deL l < 256 ^ l.length := by
  induction l with
  | nil => simp [deL]
  | cons y r ih =>
    have := y.toNat_lt
    simp only [deL, List.length_cons, Nat.pow_succ]
    omega
theorem deL_zeros (k : Nat) : deL (List.replicate k 0) = 0 := by
  induction k with
  | zero => rfl
  | succ k ih => simp [List.replicate_succ, deL, ih]
theorem deL_append (a b : List UInt8) : deL (a ++ b) = deL a + 256 ^ a.length * deL b := by
  induction a with
  | nil => simp [deL]
  | cons y r ih =>
    simp only [List.cons_append, deL, ih, List.length_cons, Nat.pow_succ, Nat.mul_add]
    rw [Nat.add_assoc, ← Nat.mul_assoc, Nat.mul_comm 256 (256 ^ r.length)]
theorem deL_leL (n k : Nat) : deL (leL n k) = n % 256 ^ k := by
  induction k with
  | zero => simp [leL, deL, Nat.mod_one]
  | succ k ih =>
    rw [leL_succ, deL_snoc, ih, leL_len, Nat.pow_succ, Nat.mod_mul, UInt8.toNat_ofNat']
    rw [Nat.mul_comm]
theorem deL_leL_of_lt {n k : Nat} (h : n < 256 ^ k) : deL (leL n k) = n := by rw [deL_leL, Nat.mod_eq_of_lt h]
theorem ofNat_byte (n : Nat) : ((UInt8.ofNat n).toNat : Int) = ((n % 256 : Nat) : Int) := by rw [UInt8.toNat_ofNat']
theorem pow_256 (k : Nat) : 256 ^ k = 2 ^ (8 * k) := by rw [Nat.pow_mul]
theorem or_put {a b k : Nat} (h : a < 256 ^ k) : a ||| (b <<< (8 * k)) = a + b * 256 ^ k := by
  rw [Nat.or_comm, ← Nat.shiftLeft_add_eq_or_of_lt (by rw [← pow_256]; exact h), Nat.shiftLeft_eq, ← pow_256]
  exact Nat.add_comm _ _
theorem pow_mono {a b : Nat} (h : a ≤ b) : 256 ^ a ≤ 256 ^ b := Nat.pow_le_pow_right (by omega) h
theorem pow_seven {k : Nat} (h : k ≤ 7) : 256 ^ k ≤ 72057594037927936 := pow_mono h

/-! ### What Put and Get answer -/
def wideB (k : Int) : Bool := decide (1 ≤ k) && decide (k ≤ 7)
theorem wideB_yes {k : Int} : wideB k = true ↔ 1 ≤ k ∧ k ≤ 7 := by simp [wideB]
theorem wideB_no {k : Int} : wideB k = false ↔ k < 1 ∨ 7 < k := by
  unfold wideB
  rw [Bool.and_eq_false_iff, decide_eq_false_iff_not, decide_eq_false_iff_not]
  omega
/-- The error of Put; its bytes. -/
def putE (n k : Int) : Int := if wideB k = false then 2 else if n < 0 ∨ (256 : Int) ^ k.toNat ≤ n then 3 else 0
def wPutL (l : List UInt8) (n k : Int) : List UInt8 := if putE n k = 0 then l ++ leL n.toNat k.toNat else []
/-- The error of Get; its integer. -/
def getE (l : List UInt8) (i k : Int) : Int := if wideB k = false then 2 else if i < 0 ∨ (l.length : Int) < i + k then 6 else 0
def getV (l : List UInt8) (i k : Int) : Int := if getE l i k = 0 then (deL ((l.drop i.toNat).take k.toNat) : Int) else 0
/-- The error of PutText; its bytes. -/
def ptE (s : List UInt8) : Int := if 65536 < s.length then 4 else 0
def ptL (l s : List UInt8) : List UInt8 := if ptE s = 0 then l ++ (leL s.length 4 ++ s) else []

theorem put_wide {n k : Int} (h : wideB k = false) (l : List UInt8) : putE n k = 2 ∧ wPutL l n k = [] := by
  have e : putE n k = 2 := by unfold putE; rw [if_pos h]
  exact ⟨e, by unfold wPutL; rw [e]; rfl⟩
theorem put_range {n k : Int} (h : wideB k = true) (hr : n < 0 ∨ (256 : Int) ^ k.toNat ≤ n) (l : List UInt8) : putE n k = 3 ∧ wPutL l n k = [] := by
  have e : putE n k = 3 := by unfold putE; rw [if_neg (by rw [h]; decide), if_pos hr]
  exact ⟨e, by unfold wPutL; rw [e]; rfl⟩
theorem put_ok {n k : Int} (h : wideB k = true) (hr : ¬ (n < 0 ∨ (256 : Int) ^ k.toNat ≤ n)) (l : List UInt8) : putE n k = 0 ∧ wPutL l n k = l ++ leL n.toNat k.toNat := by
  have e : putE n k = 0 := by unfold putE; rw [if_neg (by rw [h]; decide), if_neg hr]
  exact ⟨e, by unfold wPutL; rw [if_pos e]⟩
theorem get_wide {l : List UInt8} {i k : Int} (h : wideB k = false) : getE l i k = 2 ∧ getV l i k = 0 := by
  have e : getE l i k = 2 := by unfold getE; rw [if_pos h]
  exact ⟨e, by unfold getV; rw [e]; rfl⟩
theorem get_short {l : List UInt8} {i k : Int} (h : wideB k = true) (hr : i < 0 ∨ (l.length : Int) < i + k) : getE l i k = 6 ∧ getV l i k = 0 := by
  have e : getE l i k = 6 := by unfold getE; rw [if_neg (by rw [h]; decide), if_pos hr]
  exact ⟨e, by unfold getV; rw [e]; rfl⟩
theorem get_ok {l : List UInt8} {i k : Int} (h : wideB k = true) (hr : ¬ (i < 0 ∨ (l.length : Int) < i + k)) : getE l i k = 0 ∧ getV l i k = (deL ((l.drop i.toNat).take k.toNat) : Int) := by
  have e : getE l i k = 0 := by unfold getE; rw [if_neg (by rw [h]; decide), if_neg hr]
  exact ⟨e, by unfold getV; rw [if_pos e]⟩
theorem get_bd (l : List UInt8) (i k : Int) : 0 ≤ getV l i k ∧ getV l i k < 72057594037927936 := by
  unfold getV
  split
  · rename_i h
    have hk : wideB k = true := by
      cases hw : wideB k with
      | true => rfl
      | false => rw [(get_wide (l := l) (i := i) hw).1] at h; cases h
    obtain ⟨h1, h2⟩ := wideB_yes.1 hk
    have hl : ((l.drop i.toNat).take k.toNat).length ≤ k.toNat := by rw [List.length_take]; omega
    have := deL_lt ((l.drop i.toNat).take k.toNat)
    have := pow_mono hl
    have := pow_seven (k := k.toNat) (by omega)
    omega
  · omega
theorem pow_int (k : Nat) : (256 : Int) ^ k = ((256 ^ k : Nat) : Int) := by simp

end Go.Proofs.YthhlcecojeaalaaDoor
end

/-
  Plain facts on trimmed texts, without the program: a trimmed text has no blank at its ends, and blanks added to it are taken off again (P1.4).
-/
section
namespace Go.Proofs.YthhlcecojeaalaaDoor

/-- No blank stands at an end. -/
structure Edge (l : List UInt8) : Prop where
  front : l.dropWhile blkU = l
  back : rdw l = l

end Go.Proofs.YthhlcecojeaalaaDoor
end
