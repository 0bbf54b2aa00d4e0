/-
  Plain functions of layer 9, without the program: which fields may be, which values a name has, what dropping and setting leave.
-/
import Derived.Test.YteiihnniodkjbaaComF
import Derived.Test.YteiihnniodkjbaaItmH
namespace Go.Proofs.Yteiihnniodkjbaa
open Go.RowKit

/-- May a field be, but for its length? -/
def prpF (x : Fd) : Bool := ((!x.1.toList.isEmpty && allB tokB x.1.data.toList) && allB txtB x.2.data.toList) && ((mkS (trimL x.2.data.toList)).toList == x.2.toList)
def lineS (x : Fd) : ByteArray := x.1 ++ (⟨#[58, 32]⟩ : ByteArray) ++ x.2
def lngF (x : Fd) : Bool := decide (8192 < x.1.size + 2 + x.2.size)
def chkN (L : List Fd) : Int := if 64 < L.length then 4 else if L.any (fun x => !prpF x) then 21 else if L.any lngF then 4 else 0
/-- Has it one of the names? -/
def nmd (names : List (List UInt8)) (x : Fd) : Bool := names.any fun n => sameB x.1 (mkS n)
def alk (x y : Fd) : Bool := sameB x.1 y.1 && (x.2.toList == y.2.toList)
def bthP {α : Type} (p : α → α → Bool) : List α → List α → Bool
  | x :: a, y :: b => p x y && bthP p a b
  | [], [] => true
  | _, _ => false
def bth (L M : List Fd) : Bool := bthP alk L M
theorem bthP_len {α : Type} (p : α → α → Bool) : ∀ (L M : List α), L.length ≠ M.length → bthP p L M = false
  | [], [], h => absurd rfl h
  | [], _ :: _, _ => rfl
  | _ :: _, [], _ => rfl
  | x :: a, y :: b, h => by
    unfold bthP
    rw [bthP_len p a b (fun e => h (by simp [e]))]; simp
theorem bthP_drop {α : Type} (p : α → α → Bool) (L M : List α) (k : Nat) (h : k < L.length) (g : k < M.length) : bthP p (L.drop k) (M.drop k) = (p L[k] M[k] && bthP p (L.drop (k + 1)) (M.drop (k + 1))) := by
  rw [List.drop_eq_getElem_cons h, List.drop_eq_getElem_cons g]; rfl
def fdAll (L : List Fd) (name : ByteArray) : List (List UInt8) := (L.filter fun x => sameB x.1 name).map fun x => x.2.data.toList
def fdGet (L : List Fd) (name : ByteArray) : ByteArray := mkS (Lib.join (fdAll L name) [44, 32])
def fdGot (L : List Fd) (name : ByteArray) : Bool := !(fdAll L name).isEmpty
def fdHas (L : List Fd) (name item : ByteArray) : Bool := (fdAll L name).any fun v => hasL (splO v) item
def fdDrop (L : List Fd) (names : List (List UInt8)) : List Fd := L.filter fun x => !nmd names x
/-- The fields with f put at the place of the first of its name; whether that was done. -/
def setR (f : Fd) : Bool → List Fd → List Fd
  | b, [] => if b then [] else [f]
  | b, x :: r => if sameB x.1 f.1 then (if b then setR f true r else f :: setR f true r) else x :: setR f b r
def fdSet (L : List Fd) (f : Fd) : List Fd := setR f false L

theorem nmd_one (n : ByteArray) (x : Fd) : nmd [n.data.toList] x = sameB x.1 n := by simp [nmd, mkS_self]
theorem nmd_one' (n : ByteArray) : nmd [n.data.toList] = fun x => sameB x.1 n := funext fun x => nmd_one n x
theorem line_list (x : Fd) : (lineS x).data.toList = x.1.data.toList ++ [58, 32] ++ x.2.data.toList := by
  unfold lineS
  rw [append_list, append_list]
theorem line_size (x : Fd) : (lineS x).size = x.1.size + 2 + x.2.size := by
  unfold lineS
  rw [ByteArray.size_append, ByteArray.size_append]; rfl

theorem setR_true (f : Fd) : ∀ L : List Fd, setR f true L = L.filter fun x => !sameB x.1 f.1
  | [] => rfl
  | x :: r => by
    unfold setR
    rw [setR_true f r]
    by_cases h : sameB x.1 f.1 = true
    · simp [h]
    · simp [h]
/-- The place of the first field of a name. -/
theorem set_none (f : Fd) : ∀ L : List Fd, (∀ x ∈ L, sameB x.1 f.1 = false) → setR f false L = (L.filter fun x => !sameB x.1 f.1) ++ [f]
  | [], _ => rfl
  | x :: r, h => by
    have h1 := h x (List.mem_cons_self ..)
    unfold setR
    rw [set_none f r fun y hy => h y (List.mem_cons_of_mem _ hy)]
    simp [h1]
theorem set_at (f : Fd) : ∀ (L : List Fd) (i : Nat) (hi : i < L.length), (∀ j (hj : j < i), sameB (L[j]'(by omega)).1 f.1 = false) → sameB L[i].1 f.1 = true →
    i ≤ (L.filter fun x => !sameB x.1 f.1).length ∧ setR f false L = (L.filter fun x => !sameB x.1 f.1).take i ++ [f] ++ (L.filter fun x => !sameB x.1 f.1).drop i
  | [], i, hi, _, _ => absurd hi (by simp)
  | x :: r, 0, _, _, h => by
    simp only [List.getElem_cons_zero] at h
    refine ⟨Nat.zero_le _, ?_⟩
    unfold setR
    rw [setR_true]
    simp [h]
  | x :: r, i + 1, hi, hm, h => by
    have h0 := hm 0 (by omega)
    simp only [List.getElem_cons_zero] at h0
    simp only [List.getElem_cons_succ] at h
    obtain ⟨h1, h2⟩ := set_at f r i (by simpa using hi) (fun j hj => by simpa using hm (j + 1) (by omega)) h
    have e : (x :: r).filter (fun x => !sameB x.1 f.1) = x :: r.filter (fun x => !sameB x.1 f.1) := by simp [h0]
    rw [e]
    refine ⟨by simpa using h1, ?_⟩
    unfold setR
    rw [h2]
    simp [h0]
theorem filter_snoc {α : Type} (p : α → Bool) (l : List α) (x : α) : (l ++ [x]).filter p = if p x then l.filter p ++ [x] else l.filter p := by
  rw [List.filter_append]
  by_cases h : p x = true
  · simp [h]
  · simp [h]
theorem take_fd {α : Type} (L : List α) (k : Nat) (h : k < L.length) : L.take (k + 1) = L.take k ++ [L[k]] := List.take_succ_eq_append_getElem h

end Go.Proofs.Yteiihnniodkjbaa
