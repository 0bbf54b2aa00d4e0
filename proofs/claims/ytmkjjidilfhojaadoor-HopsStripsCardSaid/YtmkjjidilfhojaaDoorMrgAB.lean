/-
  Texts that the laws of this seat lean on, one behind the other.
-/
import Derived.Test.YtmkjjidilfhojaaDoorMrgL
import Derived.Test.YtmkjjidilfhojaaDoorMrgW
import Derived.Test.YtmkjjidilfhojaaDoorMrgD
import Derived.Test.YtmkjjidilfhojaaDoorMrgZ
/-
  Plain functions of layer 9, without the program: which fields may be, which values a name has, what dropping and setting leave.
-/
section
namespace Go.Proofs.YtmkjjidilfhojaaDoor
open Go.RowKit

def chkN (L : List Fd) : Int := if 64 < L.length then 4 else if L.any (fun x => !prpF x) then 21 else if L.any lngF then 4 else 0
/-- Has it one of the names? -/
def nmd (names : List (List UInt8)) (x : Fd) : Bool := names.any fun n => sameB x.1 (mkS n)
def alk (x y : Fd) : Bool := sameB x.1 y.1 && (x.2.toList == y.2.toList)
def bthP {α : Type} (p : α → α → Bool) : List α → List α → Bool
  | x :: a, y :: b => p x y && bthP p a b
  | [], [] => true
  | _, _ => false
def bth (L M : List Fd) : Bool := bthP alk L M
theorem bthP_len {α : Type} (p : α → α → Bool) : ∀ (L M : List α), L.length ≠ M.length → bthP p L M = false
  | [], [], h => absurd rfl h
  | [], _ :: _, _ => rfl
  | _ :: _, [], _ => rfl
  | x :: a, y :: b, h => by
    unfold bthP
    rw [bthP_len p a b (fun e => h (by simp [e]))]; simp
theorem bthP_drop {α : Type} (p : α → α → Bool) (L M : List α) (k : Nat) (h : k < L.length) (g : k < M.length) : bthP p (L.drop k) (M.drop k) = (p L[k] M[k] && bthP p (L.drop (k + 1)) (M.drop (k + 1))) := by
  rw [List.drop_eq_getElem_cons h, List.drop_eq_getElem_cons g]; rfl
def fdAll (L : List Fd) (name : ByteArray) : List (List UInt8) := (L.filter fun x => sameB x.1 name).map fun x => x.2.data.toList
def fdGet (L : List Fd) (name : ByteArray) : ByteArray := mkS (Lib.join (fdAll L name) [44, 32])
def fdGot (L : List Fd) (name : ByteArray) : Bool := !(fdAll L name).isEmpty
def fdHas (L : List Fd) (name item : ByteArray) : Bool := (fdAll L name).any fun v => hasL (splO v) item
def fdDrop (L : List Fd) (names : List (List UInt8)) : List Fd := L.filter fun x => !nmd names x
/-- The fields with f put at the place of the first of its name; whether that was done. -/
def setR (f : Fd) : Bool → List Fd → List Fd
  | b, [] => if b then [] else [f]
  | b, x :: r => if sameB x.1 f.1 then (if b then setR f true r else f :: setR f true r) else x :: setR f b r
def fdSet (L : List Fd) (f : Fd) : List Fd := setR f false L

theorem nmd_one (n : ByteArray) (x : Fd) : nmd [n.data.toList] x = sameB x.1 n := by simp [nmd, mkS_self]
theorem nmd_one' (n : ByteArray) : nmd [n.data.toList] = fun x => sameB x.1 n := funext fun x => nmd_one n x
theorem setR_true (f : Fd) : ∀ L : List Fd, setR f true L = L.filter fun x => !sameB x.1 f.1
  | [] => rfl
  | x :: r => by
    unfold setR
    rw [setR_true f r]
    by_cases h : sameB x.1 f.1 = true
    · simp [h]
    · simp [h]
/-- The place of the first field of a name. -/
theorem set_none (f : Fd) : ∀ L : List Fd, (∀ x ∈ L, sameB x.1 f.1 = false) → setR f false L = (L.filter fun x => !sameB x.1 f.1) ++ [f]
  | [], _ => rfl
  | x :: r, h => by
    have h1 := h x (List.mem_cons_self ..)
    unfold setR
    rw [set_none f r fun y hy => h y (List.mem_cons_of_mem _ hy)]
    simp [h1]
theorem set_at (f : Fd) : ∀ (L : List Fd) (i : Nat) (hi : i < L.length), (∀ j (hj : j < i), sameB (L[j]'(by omega)).1 f.1 = false) → sameB L[i].1 f.1 = true →
    i ≤ (L.filter fun x => !sameB x.1 f.1).length ∧ setR f false L = (L.filter fun x => !sameB x.1 f.1).take i ++ [f] ++ (L.filter fun x => !sameB x.1 f.1).drop i
  | [], i, hi, _, _ => absurd hi (by simp)
  | x :: r, 0, _, _, h => by
    simp only [List.getElem_cons_zero] at h
    refine ⟨Nat.zero_le _, ?_⟩
    unfold setR
    rw [setR_true]
    simp [h]
  | x :: r, i + 1, hi, hm, h => by
    have h0 := hm 0 (by omega)
    simp only [List.getElem_cons_zero] at h0
    simp only [List.getElem_cons_succ] at h
    obtain ⟨h1, h2⟩ := set_at f r i (by simpa using hi) (fun j hj => by simpa using hm (j + 1) (by omega)) h
    have e : (x :: r).filter (fun x => !sameB x.1 f.1) = x :: r.filter (fun x => !sameB x.1 f.1) := by simp [h0]
    rw [e]
    refine ⟨by simpa using h1, ?_⟩
    unfold setR
    rw [h2]
    simp [h0]
theorem filter_snoc {α : Type} (p : α → Bool) (l : List α) (x : α) : (l ++ [x]).filter p = if p x then l.filter p ++ [x] else l.filter p := by
  rw [List.filter_append]
  by_cases h : p x = true
  · simp [h]
  · simp [h]
theorem take_fd {α : Type} (L : List α) (k : Nat) (h : k < L.length) : L.take (k + 1) = L.take k ++ [L[k]] := List.take_succ_eq_append_getElem h

end Go.Proofs.YtmkjjidilfhojaaDoor
end

/-
  Plain functions of layer 16, without the program: names of a hop, names that a message nominates, what is left.
-/
section
namespace Go.Proofs.YtmkjjidilfhojaaDoor
open Go.RowKit

def cnS : ByteArray := ⟨#[67, 111, 110, 110, 101, 99, 116, 105, 111, 110]⟩
def hopN : List ByteArray := [⟨#[67, 111, 110, 110, 101, 99, 116, 105, 111, 110]⟩, ⟨#[75, 101, 101, 112, 45, 65, 108, 105, 118, 101]⟩, ⟨#[80, 114, 111, 120, 121, 45, 67, 111, 110, 110, 101, 99, 116, 105, 111, 110]⟩, ⟨#[80, 114, 111, 120, 121, 45, 65, 117, 116, 104, 101, 110, 116, 105, 99, 97, 116, 101]⟩, ⟨#[80, 114, 111, 120, 121, 45, 65, 117, 116, 104, 111, 114, 105, 122, 97, 116, 105, 111, 110]⟩, ⟨#[84, 69]⟩, ⟨#[84, 114, 97, 105, 108, 101, 114]⟩, ⟨#[84, 114, 97, 110, 115, 102, 101, 114, 45, 69, 110, 99, 111, 100, 105, 110, 103]⟩, ⟨#[85, 112, 103, 114, 97, 100, 101]⟩, ⟨#[67, 111, 110, 116, 101, 110, 116, 45, 76, 101, 110, 103, 116, 104]⟩]
def hopB (name : ByteArray) : Bool := hopN.any fun n => sameB n name
def nomL (L : List Fd) : List (List UInt8) := (fdAll L cnS).flatMap splO
def stpL (L : List Fd) : List Fd := (fdDrop L (nomL L)).filter fun x => !hopB x.1
theorem cnS_le : cnS.size ≤ maxLen := by decide
theorem hopN_le : ∀ n ∈ hopN, n.size ≤ maxLen := by
  intro n hn
  simp only [hopN, List.mem_cons, List.not_mem_nil, or_false] at hn
  rcases hn with rfl | rfl | rfl | rfl | rfl | rfl | rfl | rfl | rfl | rfl <;> decide
theorem splO_sz {v : List UInt8} {B : Nat} (h : v.length ≤ B) : (splO v).length ≤ B + 1 ∧ ∀ x ∈ splO v, x.length ≤ B := by
  unfold splO
  cases e : splitL v with
  | none => exact ⟨by simp, fun x hx => by simp at hx⟩
  | some L =>
    obtain ⟨g1, g2⟩ := split_good e
    exact ⟨by show L.length ≤ _; omega, fun x hx => by have := (g1 x hx).2; omega⟩
theorem fm_split_len : ∀ (V : List (List UInt8)), (∀ v ∈ V, v.length ≤ 10000) → (V.flatMap splO).length ≤ V.length * 10001
  | [], _ => Nat.zero_le _
  | v :: V, h => by
    have h1 := fm_split_len V fun x hx => h x (List.mem_cons_of_mem _ hx)
    have h2 := (splO_sz (h v (List.mem_cons_self ..))).1
    rw [List.flatMap_cons, List.length_append, List.length_cons]
    omega
theorem all_sz {L : List Fd} {name : ByteArray} {B : Nat} (h : ∀ x ∈ L, x.2.size ≤ B) : (fdAll L name).length ≤ L.length ∧ ∀ v ∈ fdAll L name, v.length ≤ B := by
  unfold fdAll
  refine ⟨by rw [List.length_map]; exact List.length_filter_le _ _, fun v hv => ?_⟩
  obtain ⟨y, hy, rfl⟩ := List.mem_map.1 hv
  rw [← Lib.size_eq]
  exact h y (List.mem_filter.1 hy).1
theorem nom_sz {L : List Fd} (hn : L.length ≤ 1000) (h : ∀ x ∈ L, x.2.size ≤ 10000) : (nomL L).length ≤ 10001000 ∧ ∀ v ∈ nomL L, v.length ≤ 10000 := by
  obtain ⟨h1, h2⟩ := all_sz (name := cnS) h
  refine ⟨Nat.le_trans (fm_split_len _ h2) (by have := Nat.mul_le_mul_right 10001 (Nat.le_trans h1 hn); omega), fun v hv => ?_⟩
  unfold nomL at hv
  obtain ⟨u, hu, hv2⟩ := List.mem_flatMap.1 hv
  exact (splO_sz (h2 u hu)).2 v hv2
theorem fmS_snoc (V : List (List UInt8)) (k : Nat) (h : k < V.length) : (V.take (k + 1)).flatMap splO = (V.take k).flatMap splO ++ splO V[k] := by
  rw [List.take_succ_eq_append_getElem h, List.flatMap_append]
  simp
theorem stp_len (L : List Fd) : (stpL L).length ≤ L.length := Nat.le_trans (List.length_filter_le _ _) (List.length_filter_le _ _)

end Go.Proofs.YtmkjjidilfhojaaDoor
end
