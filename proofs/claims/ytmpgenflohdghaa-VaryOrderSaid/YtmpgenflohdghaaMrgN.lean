/-
  Texts that the laws of this seat lean on, one behind the other.
-/
import Derived.Test.YtmpgenflohdghaaMrgF
import Derived.Test.YtmpgenflohdghaaMrgM
import Derived.Test.YtmpgenflohdghaaMrgC
import Derived.Test.YtmpgenflohdghaaMrgJ
import Derived.Deep.QuietTactic
import Derived.BigQuiet
import Derived.Shelf.Abstract
import Derived.Shelf.RegionOpenPlain
import Derived.Lib.Overlaps
import Derived.Lib.AppendZerosOnto
import Derived.Laws.CopyRow
import Derived.Laws.CopyOwn
import Derived.Laws.Externs
import Derived.Laws.NewBlocks
/-
  Plain functions of layer 9, without the program: which fields may be, which values a name has, what dropping and setting leave.
-/
section
namespace Go.Proofs.Ytmpgenflohdghaa
open Go.RowKit

def chkN (L : List Fd) : Int := if 64 < L.length then 4 else if L.any (fun x => !prpF x) then 21 else if L.any lngF then 4 else 0
/-- Has it one of the names? -/
def nmd (names : List (List UInt8)) (x : Fd) : Bool := names.any fun n => sameB x.1 (mkS n)
def alk (x y : Fd) : Bool := sameB x.1 y.1 && (x.2.toList == y.2.toList)
def bthP {α : Type} (p : α → α → Bool) : List α → List α → Bool
  | x :: a, y :: b => p x y && bthP p a b
  | [], [] => true
  | _, _ => false
def bth (L M : List Fd) : Bool := bthP alk L M
theorem bthP_len {α : Type} (p : α → α → Bool) : ∀ (L M : List α), L.length ≠ M.length → bthP p L M = false
  | [], [], h => absurd rfl h
  | [], _ :: _, _ => rfl
  | _ :: _, [], _ => rfl
  | x :: a, y :: b, h => by
    unfold bthP
    rw [bthP_len p a b (fun e => h (by simp [e]))]; simp
theorem bthP_drop {α : Type} (p : α → α → Bool) (L M : List α) (k : Nat) (h : k < L.length) (g : k < M.length) : bthP p (L.drop k) (M.drop k) = (p L[k] M[k] && bthP p (L.drop (k + 1)) (M.drop (k + 1))) := by
  rw [List.drop_eq_getElem_cons h, List.drop_eq_getElem_cons g]; rfl
def fdAll (L : List Fd) (name : ByteArray) : List (List UInt8) := (L.filter fun x => sameB x.1 name).map fun x => x.2.data.toList
def fdGet (L : List Fd) (name : ByteArray) : ByteArray := mkS (Lib.join (fdAll L name) [44, 32])
def fdGot (L : List Fd) (name : ByteArray) : Bool := !(fdAll L name).isEmpty
def fdHas (L : List Fd) (name item : ByteArray) : Bool := (fdAll L name).any fun v => hasL (splO v) item
def fdDrop (L : List Fd) (names : List (List UInt8)) : List Fd := L.filter fun x => !nmd names x
/-- The fields with f put at the place of the first of its name; whether that was done. -/
def setR (f : Fd) : Bool → List Fd → List Fd
  | b, [] => if b then [] else [f]
  | b, x :: r => if sameB x.1 f.1 then (if b then setR f true r else f :: setR f true r) else x :: setR f b r
def fdSet (L : List Fd) (f : Fd) : List Fd := setR f false L

theorem nmd_one (n : ByteArray) (x : Fd) : nmd [n.data.toList] x = sameB x.1 n := by simp [nmd, mkS_self]
theorem nmd_one' (n : ByteArray) : nmd [n.data.toList] = fun x => sameB x.1 n := funext fun x => nmd_one n x
theorem setR_true (f : Fd) : ∀ L : List Fd, setR f true L = L.filter fun x => !sameB x.1 f.1
  | [] => rfl
  | x :: r => by
    unfold setR
    rw [setR_true f r]
    by_cases h : sameB x.1 f.1 = true
    · simp [h]
    · simp [h]
/-- The place of the first field of a name. -/
theorem set_none (f : Fd) : ∀ L : List Fd, (∀ x ∈ L, sameB x.1 f.1 = false) → setR f false L = (L.filter fun x => !sameB x.1 f.1) ++ [f]
  | [], _ => rfl
  | x :: r, h => by
    have h1 := h x (List.mem_cons_self ..)
    unfold setR
    rw [set_none f r fun y hy => h y (List.mem_cons_of_mem _ hy)]
    simp [h1]
theorem set_at (f : Fd) : ∀ (L : List Fd) (i : Nat) (hi : i < L.length), (∀ j (hj : j < i), sameB (L[j]'(by omega)).1 f.1 = false) → sameB L[i].1 f.1 = true →
    i ≤ (L.filter fun x => !sameB x.1 f.1).length ∧ setR f false L = (L.filter fun x => !sameB x.1 f.1).take i ++ [f] ++ (L.filter fun x => !sameB x.1 f.1).drop i
  | [], i, hi, _, _ => absurd hi (by simp)
  | x :: r, 0, _, _, h => by
    simp only [List.getElem_cons_zero] at h
    refine ⟨Nat.zero_le _, ?_⟩
    unfold setR
    rw [setR_true]
    simp [h]
  | x :: r, i + 1, hi, hm, h => by
    have h0 := hm 0 (by omega)
    simp only [List.getElem_cons_zero] at h0
    simp only [List.getElem_cons_succ] at h
    obtain ⟨h1, h2⟩ := set_at f r i (by simpa using hi) (fun j hj => by simpa using hm (j + 1) (by omega)) h
    have e : (x :: r).filter (fun x => !sameB x.1 f.1) = x :: r.filter (fun x => !sameB x.1 f.1) := by simp [h0]
    rw [e]
    refine ⟨by simpa using h1, ?_⟩
    unfold setR
    rw [h2]
    simp [h0]
theorem filter_snoc {α : Type} (p : α → Bool) (l : List α) (x : α) : (l ++ [x]).filter p = if p x then l.filter p ++ [x] else l.filter p := by
  rw [List.filter_append]
  by_cases h : p x = true
  · simp [h]
  · simp [h]
theorem take_fd {α : Type} (L : List α) (k : Nat) (h : k < L.length) : L.take (k + 1) = L.take k ++ [L[k]] := List.take_succ_eq_append_getElem h

end Go.Proofs.Ytmpgenflohdghaa
end

/-
  Plain functions of layer 15, without the program: the order of texts, names in order, what a request has of names.
-/
section
namespace Go.Proofs.Ytmpgenflohdghaa
open Go.RowKit

/-- Is a text less than another one, byte by byte? -/
def lesL : List UInt8 → List UInt8 → Bool
  | a :: x, b :: y => if a ≠ b then decide (a.toNat < b.toNat) else lesL x y
  | [], _ :: _ => true
  | _, [] => false
/-- A name among others in order, once. -/
def putL (s : List UInt8) : List (List UInt8) → List (List UInt8)
  | [] => [s]
  | x :: r => if lesL x s then x :: putL s r else if x = s then x :: r else s :: x :: r
/-- The names of one list's elements; none if one may not be a name. -/
def nmE (out : List (List UInt8)) : List (List UInt8) → Option (List (List UInt8))
  | [] => some out
  | e :: r => if e = [42] ∨ (e.isEmpty || !allB tokB e) then none else nmE (putL (lowL e) out) r
def nmV (out : List (List UInt8)) : List (List UInt8) → Option (List (List UInt8))
  | [] => some out
  | v :: r => match splitL v with
    | none => none
    | some E => match nmE out E with
      | none => none
      | some o => nmV o r
def vaS : ByteArray := ⟨#[86, 97, 114, 121]⟩
def namO (L : List Fd) : Option (List (List UInt8)) := nmV [] (fdAll L vaS)
def namL (L : List Fd) : List (List UInt8) := (namO L).getD []
def namB (L : List Fd) : Bool := (namO L).isSome
/-- One blank in the place of blanks side by side. -/
def sglL (p : Bool) : List UInt8 → List UInt8
  | [] => []
  | c :: r => if blkU c then (if p then sglL true r else 32 :: sglL true r) else c :: sglL false r

def pkOf (L : List Fd) (name : List UInt8) : Pk :=
  ⟨mkS name, !(fdAll L (mkS name)).isEmpty, mkS (Lib.join ((fdAll L (mkS name)).map (sglL false)) [44, 32])⟩
def pksL (N : List (List UInt8)) (L : List Fd) : List Pk := N.map (pkOf L)
def pkE (x y : Pk) : Bool := (x.n.toList == y.n.toList) && (x.h == y.h) && (x.v.toList == y.v.toList)
def pksB : List Pk → List Pk → Bool
  | x :: a, y :: b => pkE x y && pksB a b
  | [], [] => true
  | _, _ => false
def pkM (p : List Pk) (L : List Fd) : Bool := pksB (pksL (p.map fun x => x.n.data.toList) L) p

end Go.Proofs.Ytmpgenflohdghaa
end

/-
  Contracts of the reference's before, single (layer 15).
-/
section
namespace Go.Proofs.Ytmpgenflohdghaa
open Go.RowKit
set_option linter.unusedSimpArgs false

theorem les_step (a b : ByteArray) (k : Nat) (h : k < a.size) (g : k < b.size) : lesL (a.data.toList.drop k) (b.data.toList.drop k) = if a[k] ≠ b[k] then decide (a[k].toNat < b[k].toNat) else lesL (a.data.toList.drop (k + 1)) (b.data.toList.drop (k + 1)) := by
  rw [drop_at a k h, drop_at b k g]; rfl
theorem les_end (a b : ByteArray) (k : Nat) (ha : k ≤ a.size) (hb : k ≤ b.size) (h : ¬ (k < a.size ∧ k < b.size)) : lesL (a.data.toList.drop k) (b.data.toList.drop k) = decide (a.size < b.size) := by
  by_cases h1 : k < a.size
  · have h2 : ¬ k < b.size := fun g => h ⟨h1, g⟩
    have e : b.data.toList.drop k = [] := List.drop_eq_nil_of_le (by rw [← Lib.size_eq]; omega)
    rw [drop_at a k h1, e, decide_eq_false (by omega)]; rfl
  · have e : a.data.toList.drop k = [] := List.drop_eq_nil_of_le (by rw [← Lib.size_eq]; omega)
    rw [e]
    by_cases h2 : k < b.size
    · rw [drop_at b k h2, decide_eq_true (by omega)]; rfl
    · have e2 : b.data.toList.drop k = [] := List.drop_eq_nil_of_le (by rw [← Lib.size_eq]; omega)
      rw [e2, decide_eq_false (by omega)]; rfl

set_option maxHeartbeats 4000000 in
set_option maxRecDepth 100000 in
theorem r_before (a b : ByteArray) (ha : a.size ≤ 100000000) (hb : b.size ≤ 100000000) (w : World) :
    Calls Try.prog 51 #[.string a, .string b] w fun e w' => e = .returned (.bool (lesL a.data.toList b.data.toList)) ∧ Below w.heap.size w w' := by
  generalize hD : lesL a.data.toList b.data.toList = D
  have HD := Lib.hid hD
  clear hD
  go_enter Try.func51, Try.ntmps51
  go_wp2_with fail
  go_loopw [5] (fun i wr => ∃ k : Nat, k ≤ a.size ∧ k ≤ b.size ∧ i = .int .i64 k ∧ Hid (D = lesL (a.data.toList.drop k) (b.data.toList.drop k)) ∧ Below w.heap.size w wr) (fun i _ => a.size - (intOf i).toNat)
  case atStart => exact ⟨0, Nat.zero_le _, Nat.zero_le _, rfl, HD.out.symm, Below.refl _ _⟩
  case round =>
    obtain ⟨k, hk1, hk2, rfl, hf, hbel⟩ := hrel
    have hi0 : (0 : Int) ≤ (k : Int) := by omega
    by_cases h1 : k < a.size
    · by_cases h2 : k < b.size
      · have hi1 : (k : Int) < (a.size : Int) := by omega
        have hi2 : (k : Int) < (b.size : Int) := by omega
        have hst := les_step a b k h1 h2
        by_cases he : a[k] = b[k]
        · have HN : Hid (D = lesL (a.data.toList.drop (k + 1)) (b.data.toList.drop (k + 1))) := by show _ = _; rw [hf.out, hst, if_neg (by simp [he])]
          have e1 : ((a[k].toNat : Int) != (b[k].toNat : Int)) = false := by rw [he]; simp
          clear hf hst he
          go_wp2_with fail
          go_quiet (fail)
          go_wp2_with fail
          go_roundw
          case rel => exact ⟨k + 1, by omega, by omega, by go_num, HN, below_drawn hbel _⟩
          case measure => simp [intOf]; omega
        · have HN : Hid (D = decide (a[k].toNat < b[k].toNat)) := by
            show _ = _
            rw [hf.out, hst, if_pos he]
          have e1 : ((a[k].toNat : Int) != (b[k].toNat : Int)) = true := by
            rw [bne_iff_ne]
            intro e
            exact he (UInt8.toNat_inj.1 (by omega))
          clear hf hst he
          go_wp2_with fail
          go_quiet (fail)
          go_wp2_with fail
          go_quiet (fail)
          go_wp2_with fail
          go_ret
          exact ⟨by rw [HN.out]; rfl, below_drawn (below_drawn hbel _) _⟩
      · have HN : Hid (D = decide (a.size < b.size)) := by show _ = _; rw [hf.out, les_end a b k hk1 hk2 (by omega)]
        have hi1 : (k : Int) < (a.size : Int) := by omega
        have hi2 : ¬ (k : Int) < (b.size : Int) := by omega
        clear hf
        go_wp2_with fail
        go_ret
        exact ⟨by rw [HN.out]; rfl, hbel⟩
    · have HN : Hid (D = decide (a.size < b.size)) := by show _ = _; rw [hf.out, les_end a b k hk1 hk2 (by omega)]
      have hi1 : ¬ (k : Int) < (a.size : Int) := by omega
      clear hf
      go_wp2_with fail
      go_ret
      exact ⟨by rw [HN.out]; rfl, hbel⟩

theorem sgl_step (s : ByteArray) (k : Nat) (h : k < s.size) (p : Bool) : sglL p (s.data.toList.drop k) = if blkU s[k] then (if p then sglL true (s.data.toList.drop (k + 1)) else 32 :: sglL true (s.data.toList.drop (k + 1))) else s[k] :: sglL false (s.data.toList.drop (k + 1)) := by
  rw [drop_at s k h]; rfl
theorem sgl_le : ∀ (l : List UInt8) (p : Bool), (sglL p l).length ≤ l.length
  | [], _ => Nat.le_refl _
  | c :: r, p => by
    unfold sglL
    have h1 := sgl_le r true
    have h2 := sgl_le r false
    repeat' split
    all_goals simp only [List.length_cons]; omega
theorem sbyte (c : UInt8) : (blkU c = true ∧ c = 32 ∧ ((c.toNat : Int) != 32) = false) ∨ (blkU c = true ∧ ((c.toNat : Int) != 32) = true ∧ ((c.toNat : Int) != 9) = false) ∨ (blkU c = false ∧ ((c.toNat : Int) != 32) = true ∧ ((c.toNat : Int) != 9) = true) := by
  have hD : blkU c = (((c.toNat : Int) == 32) || ((c.toNat : Int) == 9)) := rfl
  have h32 : ((c.toNat : Int) == 32) = true → c = 32 := fun h => by
    rw [beq_iff_eq] at h
    exact UInt8.toNat_inj.1 (by show c.toNat = 32; omega)
  rw [hD]
  simp only [bne]
  cases h1 : ((c.toNat : Int) == 32) with
  | true => exact .inl ⟨rfl, h32 h1, rfl⟩
  | false =>
    cases h2 : ((c.toNat : Int) == 9) with
    | true => exact .inr (.inl ⟨rfl, rfl, rfl⟩)
    | false => exact .inr (.inr ⟨rfl, rfl, rfl⟩)

theorem prv_step (s : ByteArray) (k : Nat) (h : k < s.size) {p : Bool} (hb : blkU s[k] = p) : ∀ j (_ : j < s.size), k + 1 = j + 1 → p = blkU s[j] := fun j g e => by
  have e2 : j = k := by omega
  subst e2
  exact hb.symm
set_option maxHeartbeats 4000000 in
set_option maxRecDepth 100000 in
theorem r_single (s : ByteArray) (hs : s.size ≤ 100000000) (w : World) :
    Calls Try.prog 34 #[.string s] w fun e w' => e = .returned (.string (mkS (sglL false s.data.toList))) ∧ w = w' := by
  generalize hD : sglL false s.data.toList = D
  have HD := Lib.hid hD
  clear hD
  go_enter Try.func34, Try.ntmps34
  go_wp2_with fail
  go_loop [3, 4] (fun t i => ∃ (k : Nat) (P : ByteArray) (p : Bool), k ≤ s.size ∧ P.size ≤ k ∧ t = .string P ∧ i = .int .i64 k ∧ (k = 0 → p = false) ∧ (∀ j (h : j < s.size), k = j + 1 → p = blkU s[j]) ∧ Hid (D = P.data.toList ++ sglL p (s.data.toList.drop k))) (fun _ i => s.size - (intOf i).toNat)
  case atStart => exact ⟨0, ⟨#[]⟩, false, Nat.zero_le _, Nat.zero_le _, rfl, rfl, fun _ => rfl, fun _ _ h => absurd h (by omega), HD.out.symm⟩
  case round =>
    obtain ⟨k, P, p, hk, hP, rfl, rfl, hp0, hp1, hf⟩ := hrel
    by_cases hlt : k < s.size
    · have hi0 : (0 : Int) ≤ (k : Int) := by omega
      have hi1 : (k : Int) < (s.size : Int) := by omega
      have hx1 : (k : Int) + 1 ≤ (s.size : Int) := by omega
      have hx0 : (k : Int) ≤ (k : Int) + 1 := by omega
      have hst := sgl_step s k hlt p
      have hPi : (P.size : Int) ≤ 100000000 := by omega
      rcases sbyte s[k] with ⟨hb, _, e1⟩ | ⟨hb, e1, e2⟩ | ⟨hb, e1, e2⟩
      · rcases Nat.eq_zero_or_pos k with h0 | h0
        · have hpf := hp0 h0
          have HN : Hid (D = (P ++ (⟨#[32]⟩ : ByteArray)).data.toList ++ sglL true (s.data.toList.drop (k + 1))) := by
            show _ = _
            rw [hf.out, hst, if_pos hb, hpf, if_neg (by decide), append_list]; simp
          have hsz : (P ++ (⟨#[32]⟩ : ByteArray)).size ≤ k + 1 := by rw [ByteArray.size_append]; show P.size + 1 ≤ _; omega
          subst h0
          clear hf hst hp0 hp1
          go_wp2_with fail
          go_round
          case rel => exact ⟨0 + 1, _, true, by omega, hsz, rfl, by go_num, (fun h => absurd h (by omega)), prv_step s _ (by omega) hb, HN⟩
          case measure => simp [intOf]; omega
        · obtain ⟨j, rfl⟩ : ∃ j, k = j + 1 := ⟨k - 1, by omega⟩
          have hjl : j < s.size := by omega
          have hpj := hp1 j hjl rfl
          have hk0 : (((j + 1 : Nat) : Int) == 0) = false := by rw [beq_eq_false_iff_ne]; omega
          have hk1 : ((j + 1 : Nat) : Int) - 1 = (j : Int) := by omega
          have hj0 : (0 : Int) ≤ (j : Int) := by omega
          have hj1 : (j : Int) < (s.size : Int) := by omega
          rcases sbyte s[j] with ⟨qb, _, q1⟩ | ⟨qb, q1, q2⟩ | ⟨qb, q1, q2⟩
          · have hpt : p = true := hpj.trans qb
            have HN : Hid (D = P.data.toList ++ sglL true (s.data.toList.drop (j + 1 + 1))) := by
              show _ = _
              rw [hf.out, hst, if_pos hb, hpt, if_pos rfl]
            have hsz : P.size ≤ j + 1 + 1 := by omega
            clear hf hst hp0 hp1
            go_wp2_with fail
            go_round
            case rel => exact ⟨j + 1 + 1, _, true, by omega, hsz, rfl, by go_num, (fun h => absurd h (by omega)), prv_step s _ (by omega) hb, HN⟩
            case measure => simp [intOf]; omega
          · have hpt : p = true := hpj.trans qb
            have HN : Hid (D = P.data.toList ++ sglL true (s.data.toList.drop (j + 1 + 1))) := by
              show _ = _
              rw [hf.out, hst, if_pos hb, hpt, if_pos rfl]
            have hsz : P.size ≤ j + 1 + 1 := by omega
            clear hf hst hp0 hp1
            go_wp2_with fail
            go_round
            case rel => exact ⟨j + 1 + 1, _, true, by omega, hsz, rfl, by go_num, (fun h => absurd h (by omega)), prv_step s _ (by omega) hb, HN⟩
            case measure => simp [intOf]; omega
          · have hpf : p = false := hpj.trans qb
            have HN : Hid (D = (P ++ (⟨#[32]⟩ : ByteArray)).data.toList ++ sglL true (s.data.toList.drop (j + 1 + 1))) := by
              show _ = _
              rw [hf.out, hst, if_pos hb, hpf, if_neg (by decide), append_list]; simp
            have hsz : (P ++ (⟨#[32]⟩ : ByteArray)).size ≤ j + 1 + 1 := by rw [ByteArray.size_append]; show P.size + 1 ≤ _; omega
            clear hf hst hp0 hp1
            go_wp2_with fail
            go_round
            case rel => exact ⟨j + 1 + 1, _, true, by omega, hsz, rfl, by go_num, (fun h => absurd h (by omega)), prv_step s _ (by omega) hb, HN⟩
            case measure => simp [intOf]; omega
      · rcases Nat.eq_zero_or_pos k with h0 | h0
        · have hpf := hp0 h0
          have HN : Hid (D = (P ++ (⟨#[32]⟩ : ByteArray)).data.toList ++ sglL true (s.data.toList.drop (k + 1))) := by
            show _ = _
            rw [hf.out, hst, if_pos hb, hpf, if_neg (by decide), append_list]; simp
          have hsz : (P ++ (⟨#[32]⟩ : ByteArray)).size ≤ k + 1 := by rw [ByteArray.size_append]; show P.size + 1 ≤ _; omega
          subst h0
          clear hf hst hp0 hp1
          go_wp2_with fail
          go_round
          case rel => exact ⟨0 + 1, _, true, by omega, hsz, rfl, by go_num, (fun h => absurd h (by omega)), prv_step s _ (by omega) hb, HN⟩
          case measure => simp [intOf]; omega
        · obtain ⟨j, rfl⟩ : ∃ j, k = j + 1 := ⟨k - 1, by omega⟩
          have hjl : j < s.size := by omega
          have hpj := hp1 j hjl rfl
          have hk0 : (((j + 1 : Nat) : Int) == 0) = false := by rw [beq_eq_false_iff_ne]; omega
          have hk1 : ((j + 1 : Nat) : Int) - 1 = (j : Int) := by omega
          have hj0 : (0 : Int) ≤ (j : Int) := by omega
          have hj1 : (j : Int) < (s.size : Int) := by omega
          rcases sbyte s[j] with ⟨qb, _, q1⟩ | ⟨qb, q1, q2⟩ | ⟨qb, q1, q2⟩
          · have hpt : p = true := hpj.trans qb
            have HN : Hid (D = P.data.toList ++ sglL true (s.data.toList.drop (j + 1 + 1))) := by
              show _ = _
              rw [hf.out, hst, if_pos hb, hpt, if_pos rfl]
            have hsz : P.size ≤ j + 1 + 1 := by omega
            clear hf hst hp0 hp1
            go_wp2_with fail
            go_round
            case rel => exact ⟨j + 1 + 1, _, true, by omega, hsz, rfl, by go_num, (fun h => absurd h (by omega)), prv_step s _ (by omega) hb, HN⟩
            case measure => simp [intOf]; omega
          · have hpt : p = true := hpj.trans qb
            have HN : Hid (D = P.data.toList ++ sglL true (s.data.toList.drop (j + 1 + 1))) := by
              show _ = _
              rw [hf.out, hst, if_pos hb, hpt, if_pos rfl]
            have hsz : P.size ≤ j + 1 + 1 := by omega
            clear hf hst hp0 hp1
            go_wp2_with fail
            go_round
            case rel => exact ⟨j + 1 + 1, _, true, by omega, hsz, rfl, by go_num, (fun h => absurd h (by omega)), prv_step s _ (by omega) hb, HN⟩
            case measure => simp [intOf]; omega
          · have hpf : p = false := hpj.trans qb
            have HN : Hid (D = (P ++ (⟨#[32]⟩ : ByteArray)).data.toList ++ sglL true (s.data.toList.drop (j + 1 + 1))) := by
              show _ = _
              rw [hf.out, hst, if_pos hb, hpf, if_neg (by decide), append_list]; simp
            have hsz : (P ++ (⟨#[32]⟩ : ByteArray)).size ≤ j + 1 + 1 := by rw [ByteArray.size_append]; show P.size + 1 ≤ _; omega
            clear hf hst hp0 hp1
            go_wp2_with fail
            go_round
            case rel => exact ⟨j + 1 + 1, _, true, by omega, hsz, rfl, by go_num, (fun h => absurd h (by omega)), prv_step s _ (by omega) hb, HN⟩
            case measure => simp [intOf]; omega
      · have HN : Hid (D = (P ++ s.extract k (k + 1)).data.toList ++ sglL false (s.data.toList.drop (k + 1))) := by
          show _ = _
          rw [hf.out, hst, if_neg (by rw [hb]; decide), ext_one s P k hlt]; simp
        have hsz : (P ++ s.extract k (k + 1)).size ≤ k + 1 := by rw [xt_size s P k (k + 1) (by omega) (by omega)]; omega
        clear hf hst
        go_wp2_with fail
        go_round
        case rel => exact ⟨k + 1, _, false, by omega, hsz, rfl, by go_num, (fun h => absurd h (by omega)), prv_step s _ (by omega) hb, HN⟩
        case measure => simp [intOf]; omega
    · have HN : Hid (mkS D = P) := by
        show _ = _
        rw [hf.out, List.drop_eq_nil_of_le (by rw [← Lib.size_eq]; omega)]
        show mkS (P.data.toList ++ []) = P
        rw [List.append_nil, mkS_self]
      have hi1 : ¬ (k : Int) < (s.size : Int) := by omega
      clear hf
      go_wp2_with fail
      go_ret
      exact ⟨by rw [HN.out]; rfl, rfl⟩

end Go.Proofs.Ytmpgenflohdghaa
end

/-
  Contracts of package fields' choose and of slices.IndexFunc and ContainsFunc on fields, for any test that is handed in.
-/
section
namespace Go.Proofs.Ytmpgenflohdghaa
open Go.RowKit

/-- A test of fields: function g with the captured cells caps answers p. -/
def PredF (w : World) (g : Nat) (caps : Array Value) (p : Fd → Bool) : Prop :=
  ∀ (W : World) (x : Fd), Below w.heap.size w W → Bd x → Calls Try.prog g (#[fdV x] ++ caps) W fun e w' => e = .returned (.bool (p x)) ∧ Below W.heap.size W w'

theorem choose_any (A : Option Addr) (n c : Nat) (L : List Fd) (w : World) (h : SlF w A n c L) (hn : n ≤ 100000000) (hB : ∀ x ∈ L, Bd x) (g : Nat) (caps : Array Value) (p : Fd → Bool)
    (eg : ∀ args W, (callFunc g args).run Try.prog W = .ok (.enter g args) W) (hp : PredF w g caps p) :
    Calls Try.prog 42 #[.slice A n c, .func (.func g) #[] caps] w fun e w' => ∃ v, e = .returned v ∧ OwnF w' w.heap.size 38 v (L.filter p) ∧ Below w.heap.size w w' := by
  have hlen := h.len
  subst hlen
  have HP := Lib.hid hp
  clear hp
  go_enter Try.func42, Try.ntmps42
  go_wp2_with fail
  go_loopw [5, 10] (fun v i wr => ∃ k : Nat, k ≤ L.length ∧ i = .int .i64 k ∧ Hid (OwnF wr w.heap.size 38 v ((L.take k).filter p)) ∧ Below w.heap.size w wr) (fun _ i _ => L.length - (intOf i).toNat)
  case atStart => exact ⟨0, Nat.zero_le _, rfl, OwnF.nil _ _ _, Below.refl _ _⟩
  case round =>
    obtain ⟨k, hk, rfl, hown, hbel⟩ := hrel
    by_cases hlt : k < L.length
    · obtain ⟨ad, rfl, hc⟩ := h.at_ (by omega)
      obtain ⟨hc0, hc1⟩ := hc k L[k] (List.getElem?_eq_getElem hlt)
      have hcell0 := cell_kept hbel hc0
      have hcell1 := fd_snd (cell_kept hbel hc1)
      obtain ⟨hz1, hz2⟩ := h.sz _ (List.getElem_mem hlt)
      have hbd := hB _ (List.getElem_mem hlt)
      have HS := take_fd L k hlt
      generalize L[k] = x at *
      obtain ⟨a, b⟩ := x
      have HF := filter_snoc p (L.take k) (a, b)
      rw [← HS] at HF
      clear HS hc hc0 hc1
      have hl2 : ((L.take k).filter p).length ≤ k := Nat.le_trans (List.length_filter_le _ _) (by rw [List.length_take]; omega)
      generalize hX : (L.take k).filter p = X at *
      have hcall := HP.out (wr.alloc (.cells #[.string a, .string b] 38)) (a, b) (hbel.alloc hbel.size _) hbd
      unfold fdV at hcall
      have HC := Lib.hid hcall
      clear hcall
      have hsz1 := hbel.size
      cases hq : p (a, b) with
      | true =>
        rw [hq, if_pos rfl] at HF
        rw [hq] at HC
        have HR := Lib.hid HF
        clear HF hq
        go_wp2_with fail
        refine HC.out.mono ?_
        rintro e w1 ⟨rfl, hb1⟩
        have HZ := Lib.hid (zero_at hb1)
        have HB := Lib.hid (zero_then hb1)
        have HO := Lib.hid (hown.out.below HB.out)
        have hs1 := HB.out.size
        obtain ⟨z0, z1⟩ := zero_two HZ.out
        clear hb1 hown HC
        go_wp2_with (at_builtin; refine wpList_append_slf rfl _ _ _ rfl w.heap.size 38 Try.underlying22 (by kernel_rfl) _ rfl X (HO.out.alloc _) _ _ _ rfl [(a, b)] (SlF.one _ _ (a, b) ⟨hz1, hz2⟩) (by simp; omega) (by simp; omega) w ((hbel.trans (HB.out.mono hsz1)).alloc (by omega) _) ?_; intro v1 w2 ho2 hb2 hz2)
        go_roundw
        case rel => exact ⟨k + 1, by omega, by go_num, by show OwnF _ _ _ _ _; rw [HR.out]; exact ho2.out, hb2⟩
        case measure => simp [intOf]; omega
      | false =>
        rw [hq, if_neg (by simp)] at HF
        rw [hq] at HC
        have HR := Lib.hid HF
        clear HF hq
        go_wp2_with fail
        refine HC.out.mono ?_
        rintro e w1 ⟨rfl, hb1⟩
        have HB := Lib.hid (zero_then hb1)
        clear hb1
        go_wp2_with fail
        go_roundw
        case rel => exact ⟨k + 1, by omega, by go_num, by show OwnF _ _ _ _ _; rw [HR.out]; exact hown.out.below HB.out, hbel.trans (HB.out.mono hsz1)⟩
        case measure => simp [intOf]; omega
    · have HE : Hid ((L.take k).filter p = L.filter p) := by
        show _ = _
        rw [List.take_of_length_le (by omega)]
      rw [HE.out] at hown
      go_wp2_with fail
      go_ret
      exact ⟨_, rfl, hown.out, hbel⟩

end Go.Proofs.Ytmpgenflohdghaa
end

/-
  Contracts of slices.IndexFunc and slices.ContainsFunc on fields and on texts, for any test that is handed in, and of slices.EqualFunc on fields.
-/
section
namespace Go.Proofs.Ytmpgenflohdghaa
open Go.RowKit

/-- The place of the first that passes the test, or -1. -/
def idxP {α : Type} (p : α → Bool) (L : List α) : Int := if L.any p then (L.findIdx p : Int) else -1
theorem idxP_hit {α : Type} {p : α → Bool} {L : List α} {k : Nat} (hk : k < L.length) (h : p L[k] = true) (hm : ∀ j (hj : j < L.length), j < k → p L[j] = false) : idxP p L = k := by
  unfold idxP
  rw [if_pos (List.any_eq_true.2 ⟨L[k], List.getElem_mem hk, h⟩), (List.findIdx_eq hk).2 ⟨h, fun j hj => hm j (by omega) hj⟩]
theorem any_false {α : Type} {p : α → Bool} {L : List α} (hm : ∀ j (hj : j < L.length), p L[j] = false) : L.any p = false := by
  rw [List.any_eq_false]
  intro x hx
  obtain ⟨j, hj, rfl⟩ := List.getElem_of_mem hx
  simp [hm j hj]
theorem idxP_miss {α : Type} {p : α → Bool} {L : List α} (hm : ∀ j (hj : j < L.length), p L[j] = false) : idxP p L = -1 := by
  unfold idxP
  rw [if_neg (by rw [any_false hm]; simp)]
theorem idxP_any {α : Type} (p : α → Bool) (L : List α) : decide (0 ≤ idxP p L) = L.any p := by
  unfold idxP
  by_cases h : L.any p = true
  · rw [if_pos h, h]; simp
  · rw [if_neg h, Bool.eq_false_iff.2 h]; simp
/-- Where the first that passes stands. -/
theorem idxP_cases {α : Type} (p : α → Bool) (L : List α) : (idxP p L = -1 ∧ ∀ x ∈ L, p x = false) ∨ ∃ i, ∃ hi : i < L.length, idxP p L = i ∧ p L[i] = true ∧ ∀ j (hj : j < i), p (L[j]'(by omega)) = false := by
  by_cases h : L.any p = true
  · right
    obtain ⟨x, hx, hp⟩ := List.any_eq_true.1 h
    have hi : L.findIdx p < L.length := List.findIdx_lt_length_of_exists ⟨x, hx, hp⟩
    refine ⟨L.findIdx p, hi, by unfold idxP; rw [if_pos h], List.findIdx_getElem, fun j hj => ?_⟩
    simpa using List.not_of_lt_findIdx hj
  · left
    refine ⟨by unfold idxP; rw [if_neg h], fun x hx => ?_⟩
    rw [Bool.not_eq_true, List.any_eq_false] at h
    simpa using h x hx

/-- A test of texts. -/
def PredS (w : World) (g : Nat) (caps : Array Value) (p : List UInt8 → Bool) : Prop :=
  ∀ (W : World) (x : List UInt8), Below w.heap.size w W → x.length ≤ 1000000000 → Calls Try.prog g (#[.string (mkS x)] ++ caps) W fun e w' => e = .returned (.bool (p x)) ∧ Below W.heap.size W w'
/-- A test of two fields. -/
def PredT (w : World) (g : Nat) (caps : Array Value) (p : Fd → Fd → Bool) : Prop :=
  ∀ (W : World) (x y : Fd), Below w.heap.size w W → Bd x → Bd y → Calls Try.prog g (#[fdV x, fdV y] ++ caps) W fun e w' => e = .returned (.bool (p x y)) ∧ Below W.heap.size W w'

end Go.Proofs.Ytmpgenflohdghaa
end

/-
  Contract of slices.EqualFunc on fields, for any test that is handed in; the closures of package fields: named, not.
-/
section
namespace Go.Proofs.Ytmpgenflohdghaa
open Go.RowKit

/-! ### named, not -/
theorem named_any (A : Option Addr) (n c : Nat) (v : Value) (hv : v = .slice A n c) (w : World) :
    Calls Try.prog 43 #[v] w fun e w' => e = .returned (.func (.func 56) #[] #[.pointer (some ⟨w.heap.size, 0, none⟩)]) ∧ w.alloc (.cells #[v] 25) = w' := by
  have hmf : ∀ (fn : Fn) (first cap : Array Value) (w : World), (Instr.makeFunc fn first cap).run Try.prog w = .ok (.func fn first cap) w := fun _ _ _ _ => rfl
  subst hv
  go_enter Try.func43, Try.ntmps43
  go_wp2
  go_ret
  exact ⟨rfl, rfl⟩

theorem named_in (a : Nat) (A : Option Addr) (n c : Nat) (names : List (List UInt8)) (W : World) (ha : W.cell? ⟨a, 0, none⟩ = some (.slice A n c)) (h : SlS W A n c names) (hz : ∀ x ∈ names, x.length ≤ maxLen) (hn : n ≤ 1000000000) (x : Fd) (hx : x.1.size ≤ maxLen) :
    Calls Try.prog 56 #[fdV x, .pointer (some ⟨a, 0, none⟩)] W fun e w' => e = .returned (.bool (nmd names x)) ∧ Below W.heap.size W w' := by
  have hlen := h.len
  subst hlen
  obtain ⟨f, v⟩ := x
  have hb0 : Below W.heap.size W (W.alloc (.cells #[.string f, .string v] 38)) := (Below.refl _ _).alloc (Nat.le_refl _) _
  have h0 := heap_alloc_new W (.cells #[.string f, .string v] 38)
  have ha0 := Lib.cell?_alloc_some (.cells #[.string f, .string v] 38) ha
  unfold fdV
  go_enter Try.func56, Try.ntmps56
  go_wp2_with fail
  go_loopw [8] (fun i wr => ∃ k : Nat, k ≤ names.length ∧ i = .int .i64 k ∧ Hid ((names.take k).any (fun n => sameB f (mkS n)) = false) ∧ Hid (wr.heap[W.heap.size]? = some (.cells #[.string f, .string v] 38 (0, 0))) ∧ Below W.heap.size W wr) (fun i _ => names.length - (intOf i).toNat)
  case atStart => exact ⟨0, Nat.zero_le _, rfl, rfl, h0, hb0⟩
  case round =>
    obtain ⟨k, hk, rfl, hf, hZ, hbel⟩ := hrel
    by_cases hlt : k < names.length
    · obtain ⟨ad, rfl, hc⟩ := h.at_ (by omega)
      have hcell := cell_kept hbel (hc k names[k] (List.getElem?_eq_getElem hlt))
      obtain ⟨z0, z1⟩ := zero_two hZ.out
      have hxl := hz _ (List.getElem_mem hlt)
      have HT : Hid ((names.take (k + 1)).any (fun n => sameB f (mkS n)) = sameB f (mkS names[k])) := by
        show _ = _
        rw [List.take_succ_eq_append_getElem hlt, List.any_append, hf.out]; simp
      have HM : Hid (sameB f (mkS names[k]) = true → nmd names (f, v) = true) := fun h => List.any_eq_true.2 ⟨names[k], List.getElem_mem hlt, h⟩
      have hys : (mkS names[k]).size ≤ maxLen := by rw [mkS_size]; exact hxl
      obtain ⟨y, hy⟩ : ∃ y, y = mkS names[k] := ⟨_, rfl⟩
      rw [← hy] at hcell HT HM hys
      have hi0 : (0 : Int) ≤ (k : Int) := by omega
      have hi1 : (k : Int) < (names.length : Int) := by omega
      clear hy hf hc
      cases hsm : sameB f y with
      | true =>
        have HS := Lib.hid hsm
        have HR := Lib.hid (HM.out hsm)
        clear hsm HM HT
        go_wp2_with fail
        refine (same_any f y _ hx hys).mono ?_
        rintro e w2 ⟨he, hb2⟩
        rw [HS.out] at he
        subst he
        go_wp2_with fail
        go_ret
        exact ⟨by rw [HR.out]; rfl, hbel.trans (hb2.mono hbel.size)⟩
      | false =>
        have HS := Lib.hid hsm
        have HR := Lib.hid (HT.out.trans hsm)
        clear hsm HM HT
        go_wp2_with fail
        refine (same_any f y _ hx hys).mono ?_
        rintro e w2 ⟨he, hb2⟩
        rw [HS.out] at he
        subst he
        go_wp2_with fail
        go_roundw
        case rel => exact ⟨k + 1, by omega, by go_num, HR, zero_still hb2 hZ.out, hbel.trans (hb2.mono hbel.size)⟩
        case measure => simp [intOf]; omega
    · have HR : Hid (nmd names (f, v) = false) := by
        have := hf.out
        rwa [List.take_of_length_le (by omega)] at this
      clear hf
      go_wp2_with fail
      go_ret
      exact ⟨by rw [HR.out]; rfl, hbel⟩

end Go.Proofs.Ytmpgenflohdghaa
end

/-
  Contract of slices.Insert of one field into a row of the call's own.
-/
section
namespace Go.Proofs.Ytmpgenflohdghaa
open Go.RowKit

/-- 'copy(d, s)' into a block that is known whole, at elements of any size. -/
theorem run_copy_rowK {P : Program} (w : World) (dT sT ty elem : TypeId) (k g o dLen dCap : Nat) (a : Addr) (sLen sCap : Nat) (cur : Array Value) (t : TypeId) (cs : List Value)
    (hu : P.underlying dT = some (.slice elem)) (hs : (P.info? elem).map (·.size) = some k)
    (hg : w.heap[g]? = some (.cells cur t (0, 0))) (m : Nat) (hm : Nat.min sLen dLen = m) (hn : cs.length = m * k)
    (hsrc : ∀ j v, cs[j]? = some v → w.cell? (a.add j) = some v) (hfit : o + cs.length ≤ cur.size) (h1 : ∀ v ∈ cs, v.oneCell' = true) :
    (Builtin.copy_ #[dT, sT] ty #[.slice (some ⟨g, o, none⟩) dLen dCap, .slice (some a) sLen sCap]).run P w =
      .ok (goInt m) (w.setRow g (cur.toList.take o ++ cs ++ cur.toList.drop (o + cs.length)).toArray) := by
  have hl := run_loadCells_list (P := P) w a cs hsrc
  have hst := run_storeCells_at P g o t cs 0 cur w hg (by simpa using hfit) h1
  cases hq : P.info? elem with
  | none => simp [hq] at hs
  | some i =>
    have hi : i.size = k := by simpa [hq] using hs
    rw [hn] at hl
    simp [Builtin.copy_, run_underlying hu, Builtin.lenOf, Builtin.firstCells, sizeOf, typeInfo, hq, hi, hm, hl, hst]

theorem wp_copy_runF (w : World) {P : Program} {o : Oper} {a : Act} {K : Act → World → Prop} {Q : Exit → Act → World → Prop} (d s : Operand) (t t' : TypeId)
    (ho : o.op = .call { callee := .builtin .copy, args := #[d, s], argTypes := #[t, t'] }) (v u : Value) (hd : a.eval d = v) (hs : a.eval s = u) {v' : Value} {w' : World}
    (hr : (Builtin.copy_ #[t, t'] o.type #[v, u]).run P w = .ok v' w') (h : K (a.put o.dst v') w') : o.wp P a w K Q := by
  unfold Oper.wp execOp
  simp only [ho, resolve, invoke, builtin, Sem.run_bind, Sem.run_pure, Result.andThen_ok, List.map_toArray, List.map_cons, List.map_nil, hd, hs, hr]
  exact h
theorem wpList_copy_runF (w : World) {P : Program} {ops : Array Oper} {rest : List Oper} {o : Oper} {a : Act} {Q : Exit → Act → World → Prop} (hgd : o.guard = none) (d s : Operand) (t t' : TypeId)
    (ho : o.op = .call { callee := .builtin .copy, args := #[d, s], argTypes := #[t, t'] }) (v u : Value) (hd : a.eval d = v) (hs : a.eval s = u) {v' : Value} {w' : World}
    (hr : (Builtin.copy_ #[t, t'] o.type #[v, u]).run P w = .ok v' w') (h : wpList P ops Q rest (a.put o.dst v') w') : wpList P ops Q (o :: rest) a w :=
  wpList_plain hgd fun _ hK => wp_copy_runF w d s t t' ho v u hd hs hr (hK _ _ h)
theorem step_copy_runF {P : Program} {ops : Array Oper} {o : Oper} {a : Act} {w : World} {K : Act → World → Prop} {Q : Exit → Act → World → Prop} {E : Prop}
    (hg : o.guard = none) (d x : Operand) (dT sT : TypeId) (hop : o.op = Op.call { callee := Callee.builtin Builtin.copy, args := #[d, x], argTypes := #[dT, sT] })
    (v u : Value) (hd : a.eval d = v) (hx : a.eval x = u) {v' : Value} {w' : World} (hr : (Builtin.copy_ #[dT, sT] o.type #[v, u]).run P w = .ok v' w') (hK : K (a.put o.dst v') w') :
    if Region.wanted o (yielded ops a.tmps) = true then Oper.wp P o a w K Q else E := by
  have hw : Region.wanted o (yielded ops a.tmps) = true := by simp [Region.wanted, hg]
  rw [if_pos hw]
  unfold Oper.wp
  simp [execOp, hop, resolve, invoke, builtin, hd, hx, hr, Result.andThen]
  exact hK

/-- What stands in the row behind the two copies. -/
theorem ins_list {α : Type} (C : List α) (V R : List α) (k : Nat) (a n : Nat) (ha : a ≤ n) (hn : n + k ≤ C.length) (hV : V.length = k) (hR : R.length = n - a) :
    let C1 := C.take (a + k) ++ R ++ C.drop (a + k + R.length)
    let C2 := C1.take a ++ V ++ C1.drop (a + V.length)
    C1.length = C.length ∧ C2.length = C.length ∧ C2.take (n + k) = C.take a ++ V ++ R := by
  intro C1 C2
  have l1 : C1.length = C.length := by
    show (C.take (a + k) ++ R ++ C.drop (a + k + R.length)).length = _
    simp only [List.length_append, List.length_take, List.length_drop]; omega
  have l2 : C2.length = C.length := by
    show (C1.take a ++ V ++ C1.drop (a + V.length)).length = _
    simp only [List.length_append, List.length_take, List.length_drop]; omega
  refine ⟨l1, l2, ?_⟩
  have e1 : C1.take a = C.take a := by
    show (C.take (a + k) ++ R ++ C.drop (a + k + R.length)).take a = _
    rw [List.append_assoc, List.take_append_of_le_length (by rw [List.length_take]; omega), List.take_take, Nat.min_eq_left (by omega)]
  have e2 : C1.drop (a + V.length) = R ++ C.drop (a + k + R.length) := by
    show (C.take (a + k) ++ R ++ C.drop (a + k + R.length)).drop (a + V.length) = _
    rw [hV, List.append_assoc, List.drop_append_of_le_length (by rw [List.length_take]; omega), List.drop_eq_nil_of_le (by rw [List.length_take]; omega), List.nil_append]
  show (C1.take a ++ V ++ C1.drop (a + V.length)).take (n + k) = _
  rw [e1, e2, ← List.append_assoc, List.take_append_of_le_length (by simp only [List.length_append, List.length_take]; omega), List.take_of_length_le (by simp only [List.length_append, List.length_take]; omega)]

theorem fdC_take (X : List Fd) (i : Nat) : fdC (X.take i) = (fdC X).take (i * 2) := by
  by_cases h : i ≤ X.length
  · have e : fdC X = fdC (X.take i) ++ fdC (X.drop i) := by rw [← fdC_append, List.take_append_drop]
    rw [congrArg (List.take (i * 2)) e, List.take_append_of_le_length (by rw [fdC_len, List.length_take]; omega)]
    exact (List.take_of_length_le (by rw [fdC_len, List.length_take]; omega)).symm
  · rw [List.take_of_length_le (by omega), List.take_of_length_le (by rw [fdC_len]; omega)]
theorem fdC_drop_at (X : List Fd) (i j : Nat) (u : Value) (h : (fdC (X.drop i))[j]? = some u) : (fdC X)[i * 2 + j]? = some u := by
  by_cases hi : i ≤ X.length
  · have e : fdC X = fdC (X.take i) ++ fdC (X.drop i) := by rw [← fdC_append, List.take_append_drop]
    have hl : (fdC (X.take i)).length = i * 2 := by rw [fdC_len, List.length_take]; omega
    rw [e, List.getElem?_append_right (by omega), hl, Nat.add_sub_cancel_left]
    exact h
  · rw [List.drop_eq_nil_of_le (by omega)] at h
    simp [fdC] at h

theorem grow_list {α : Type} (C : List α) (V R : List α) (k : Nat) (a n : Nat) (ha : a ≤ n) (hn : n + k ≤ C.length) (hV : V.length = k) (hR : R.length = n - a) :
    let C1 := C.take a ++ V ++ C.drop (a + V.length)
    let C2 := C1.take (a + k) ++ R ++ C1.drop (a + k + R.length)
    C1.length = C.length ∧ C2.length = C.length ∧ C2.take (n + k) = C.take a ++ V ++ R := by
  intro C1 C2
  have l1 : C1.length = C.length := by
    show (C.take a ++ V ++ C.drop (a + V.length)).length = _
    simp only [List.length_append, List.length_take, List.length_drop]; omega
  have l2 : C2.length = C.length := by
    show (C1.take (a + k) ++ R ++ C1.drop (a + k + R.length)).length = _
    simp only [List.length_append, List.length_take, List.length_drop]; omega
  refine ⟨l1, l2, ?_⟩
  have e1 : C1.take (a + k) = C.take a ++ V := by
    show (C.take a ++ V ++ C.drop (a + V.length)).take (a + k) = _
    rw [List.take_append_of_le_length (by simp only [List.length_append, List.length_take]; omega), List.take_of_length_le (by simp only [List.length_append, List.length_take]; omega)]
  show (C1.take (a + k) ++ R ++ C1.drop (a + k + R.length)).take (n + k) = _
  rw [e1, List.take_append_of_le_length (by simp only [List.length_append, List.length_take]; omega), List.take_of_length_le (by simp only [List.length_append, List.length_take]; omega)]

end Go.Proofs.Ytmpgenflohdghaa
end

/-
  Contracts of package vary's blank, squeeze.
-/
section
namespace Go.Proofs.Ytmpgenflohdghaa
open Go.RowKit
set_option linter.unusedSimpArgs false

theorem vblank_any (c : UInt8) (w : World) : Calls Try.prog 62 #[.int .u8 (c.toNat : Int)] w fun e w' => e = .returned (.bool (blkU c)) ∧ w = w' := by
  have hD : blkU c = (((c.toNat : Int) == 32) || ((c.toNat : Int) == 9)) := rfl
  rw [hD]
  generalize (c.toNat : Int) = n
  cases h1 : (n == 32) with
  | true =>
    go_enter Try.func62, Try.ntmps62
    go_wp2_with fail
    go_ret
    exact ⟨rfl, rfl⟩
  | false =>
    cases h2 : (n == 9)
    all_goals
      go_enter Try.func62, Try.ntmps62
      go_wp2_with fail
      go_ret
      exact ⟨rfl, rfl⟩

set_option maxHeartbeats 8000000 in
set_option maxRecDepth 100000 in
theorem squeeze_any (s : ByteArray) (hs : s.size ≤ 100000000) (w : World) :
    Calls Try.prog 52 #[.string s] w fun e w' => e = .returned (.string (mkS (sglL false s.data.toList))) ∧ Below w.heap.size w w' := by
  generalize hD : sglL false s.data.toList = D
  have HD := Lib.hid hD
  clear hD
  go_enter Try.func52, Try.ntmps52
  go_wp2_with (at_make; refine wpList_make8 rfl _ _ _ rfl w.heap.size 5 Try.underlying61 (by kernel_rfl) _ _ _ s.size rfl rfl (by omega) (by omega) (Nat.le_refl _) w (Below.refl _ _) ?_; intro v1 w1 ho1 hb1 hz1)
  go_loopw [3, 10] (fun v i wr => ∃ (k : Nat) (X : List UInt8) (p : Bool), k ≤ s.size ∧ X.length ≤ k ∧ i = .int .i64 k ∧ (k = 0 → p = false) ∧ (∀ j (h : j < s.size), k = j + 1 → p = blkU s[j]) ∧ Hid (D = X ++ sglL p (s.data.toList.drop k)) ∧ Hid (Own8 wr w.heap.size 5 v X) ∧ Hid (Below w.heap.size w wr)) (fun _ i _ => s.size - (intOf i).toNat)
  case atStart => exact ⟨0, [], false, Nat.zero_le _, Nat.zero_le _, rfl, fun _ => rfl, fun _ _ h => absurd h (by omega), HD.out.symm, ho1, hb1⟩
  case round =>
    clear HD ho1 hb1 hz1
    obtain ⟨k, X, p, hk, hX, rfl, hp0, hp1, hf, HO, HB⟩ := hrel
    have hzr := HB.out.size
    by_cases hlt : k < s.size
    · have hi0 : (0 : Int) ≤ (k : Int) := by omega
      have hi1 : (k : Int) < (s.size : Int) := by omega
      have hst := sgl_step s k hlt p
      have CB := Lib.hid (fun W => vblank_any s[k] W)
      have hpn := fun q (hb : blkU s[k] = q) => prv_step s k hlt hb
      cases hb : blkU s[k] with
      | false =>
        rw [hb] at CB
        have hpn := hpn false hb
        obtain ⟨Z, hZ⟩ : ∃ Z, Z = X ++ [s[k]] := ⟨_, rfl⟩
        have HXZ : Hid (X ++ [s[k]] = Z) := hZ.symm
        have HN : Hid (D = Z ++ sglL false (s.data.toList.drop (k + 1))) := by
          show _ = _
          rw [hf.out, hst, hb, hZ]; simp
        have hZk : Z.length ≤ k + 1 := by rw [hZ]; simp; omega
        clear hf hst hp0 hp1 hb hZ
        go_wp2_with fail
        refine (CB.out _).mono ?_
        rintro e w2 ⟨rfl, rfl⟩
        go_wp2_with (at_builtin; refine wpList_append_as rfl _ _ _ rfl w.heap.size 5 Try.underlying61 (by kernel_rfl) _ rfl X (HO.out.alloc _) _ _ _ rfl [s[k]] (Sl8.one _ _ _ rfl) Z HXZ (by simp; omega) (by simp; omega) w (HB.out.alloc hzr _) ?_; intro v1 w1 ho1 hb1 hz1)
        go_roundw
        case rel => exact ⟨k + 1, Z, false, by omega, hZk, by go_num, (fun h => absurd h (by omega)), hpn, HN, ho1, hb1⟩
        case measure => simp [intOf]; omega
      | true =>
        rw [hb] at CB
        have hpn := hpn true hb
        rcases Nat.eq_zero_or_pos k with h0 | h0
        · have hpf := hp0 h0
          obtain ⟨Z, hZ⟩ : ∃ Z, Z = X ++ [(32 : UInt8)] := ⟨_, rfl⟩
          have HXZ : Hid (X ++ [(32 : UInt8)] = Z) := hZ.symm
          have HN : Hid (D = Z ++ sglL true (s.data.toList.drop (k + 1))) := by
            show _ = _
            rw [hf.out, hst, if_pos hb, hpf, if_neg (by decide), hZ]; simp
          have hZk : Z.length ≤ k + 1 := by rw [hZ]; simp; omega
          have hk0 : ((k : Int) == 0) = true := by rw [beq_iff_eq]; omega
          clear hf hst hp0 hp1 hb hZ hpf h0
          go_wp2_with fail
          refine (CB.out _).mono ?_
          rintro e w2 ⟨rfl, rfl⟩
          go_wp2_with (at_builtin; refine wpList_append_as rfl _ _ _ rfl w.heap.size 5 Try.underlying61 (by kernel_rfl) _ rfl X (HO.out.alloc _) _ _ _ rfl [(32 : UInt8)] (Sl8.one _ _ _ rfl) Z HXZ (by simp; omega) (by simp; omega) w (HB.out.alloc hzr _) ?_; intro v1 w1 ho1 hb1 hz1)
          go_roundw
          case rel => exact ⟨k + 1, Z, true, by omega, hZk, by go_num, (fun h => absurd h (by omega)), hpn, HN, ho1, hb1⟩
          case measure => simp [intOf]; omega
        · obtain ⟨j, rfl⟩ : ∃ j, k = j + 1 := ⟨k - 1, by omega⟩
          have hjl : j < s.size := by omega
          have hpj := hp1 j hjl rfl
          have hk0 : (((j + 1 : Nat) : Int) == 0) = false := by rw [beq_eq_false_iff_ne]; omega
          have hk1 : ((j + 1 : Nat) : Int) - 1 = (j : Int) := by omega
          have hj0 : (0 : Int) ≤ (j : Int) := by omega
          have hj1 : (j : Int) < (s.size : Int) := by omega
          have CJ := Lib.hid (fun W => vblank_any s[j] W)
          cases qb : blkU s[j] with
          | true =>
            have hpt : p = true := hpj.trans qb
            rw [qb] at CJ
            have HN : Hid (D = X ++ sglL true (s.data.toList.drop (j + 1 + 1))) := by
              show _ = _
              rw [hf.out, hst, if_pos hb, hpt, if_pos rfl]
            have hXk : X.length ≤ j + 1 + 1 := by omega
            clear hf hst hp0 hp1 hb hpj qb hpt
            go_wp2_with fail
            refine (CB.out _).mono ?_
            rintro e w2 ⟨rfl, rfl⟩
            go_wp2_with fail
            refine (CJ.out _).mono ?_
            rintro e w2 ⟨rfl, rfl⟩
            go_wp2_with fail
            go_roundw
            case rel => exact ⟨j + 1 + 1, X, true, by omega, hXk, by go_num, (fun h => absurd h (by omega)), hpn, HN, HO.out, HB.out⟩
            case measure => simp [intOf]; omega
          | false =>
            have hpt : p = false := hpj.trans qb
            rw [qb] at CJ
            obtain ⟨Z, hZ⟩ : ∃ Z, Z = X ++ [(32 : UInt8)] := ⟨_, rfl⟩
            have HXZ : Hid (X ++ [(32 : UInt8)] = Z) := hZ.symm
            have HN : Hid (D = Z ++ sglL true (s.data.toList.drop (j + 1 + 1))) := by
              show _ = _
              rw [hf.out, hst, if_pos hb, hpt, if_neg (by decide), hZ]; simp
            have hZk : Z.length ≤ j + 1 + 1 := by rw [hZ]; simp; omega
            clear hf hst hp0 hp1 hb hpj qb hpt hZ
            go_wp2_with fail
            refine (CB.out _).mono ?_
            rintro e w2 ⟨rfl, rfl⟩
            go_wp2_with fail
            refine (CJ.out _).mono ?_
            rintro e w2 ⟨rfl, rfl⟩
            go_wp2_with (at_builtin; refine wpList_append_as rfl _ _ _ rfl w.heap.size 5 Try.underlying61 (by kernel_rfl) _ rfl X (HO.out.alloc _) _ _ _ rfl [(32 : UInt8)] (Sl8.one _ _ _ rfl) Z HXZ (by simp; omega) (by simp; omega) w (HB.out.alloc hzr _) ?_; intro v1 w1 ho1 hb1 hz1)
            go_roundw
            case rel => exact ⟨j + 1 + 1, Z, true, by omega, hZk, by go_num, (fun h => absurd h (by omega)), hpn, HN, ho1, hb1⟩
            case measure => simp [intOf]; omega
    · have HX : Hid (D = X) := by
        show _ = _
        rw [hf.out, List.drop_eq_nil_of_le (by rw [← Lib.size_eq]; omega)]
        exact List.append_nil _
      have hi1 : ¬ (k : Int) < (s.size : Int) := by omega
      obtain ⟨A1, c1, rfl, hs1⟩ := HO.out.sl8
      have kc := run_str Try.prog wr 61 5 Try.underlying61 Try.underlying5 hs1 9 Try.underlying9
      clear hf
      go_wp2
      go_ret
      exact ⟨by rw [HX.out]; rfl, HB.out⟩

end Go.Proofs.Ytmpgenflohdghaa
end
