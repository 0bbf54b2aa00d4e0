/-
  Texts that the laws of this seat lean on, one behind the other.
-/
import Derived.Test.YtmpiahahhkimkaaDoorMrgF
import Derived.Test.YtmpiahahhkimkaaDoorMrgM
import Derived.Test.YtmpiahahhkimkaaDoorMrgB
import Derived.Test.YtmpiahahhkimkaaDoorMrgK
import Derived.Test.YtmpiahahhkimkaaDoorMrgA
import Derived.Test.YtmpiahahhkimkaaDoorMrgC
import Derived.Laws.Cover1
import Derived.IntWalk
import Derived.Test.YtmpiahahhkimkaaDoorMrgN
import Derived.Shelf.Abstract
import Derived.Shelf.RegionOpenPlain
import Derived.Lib.Overlaps
import Derived.Lib.AppendZerosOnto
import Derived.Laws.CopyRow
import Derived.Laws.CopyOwn
import Derived.Laws.Externs
import Derived.Laws.NewBlocks
/-
  Plain functions of layer 9, without the program: which fields may be, which values a name has, what dropping and setting leave.
-/
section
namespace Go.Proofs.YtmpiahahhkimkaaDoor
open Go.RowKit

def chkN (L : List Fd) : Int := if 64 < L.length then 4 else if L.any (fun x => !prpF x) then 21 else if L.any lngF then 4 else 0
/-- Has it one of the names? -/
def nmd (names : List (List UInt8)) (x : Fd) : Bool := names.any fun n => sameB x.1 (mkS n)
def alk (x y : Fd) : Bool := sameB x.1 y.1 && (x.2.toList == y.2.toList)
def bthP {α : Type} (p : α → α → Bool) : List α → List α → Bool
  | x :: a, y :: b => p x y && bthP p a b
  | [], [] => true
  | _, _ => false
def bth (L M : List Fd) : Bool := bthP alk L M
theorem bthP_len {α : Type} (p : α → α → Bool) : ∀ (L M : List α), L.length ≠ M.length → bthP p L M = false
  | [], [], h => absurd rfl h
  | [], _ :: _, _ => rfl
  | _ :: _, [], _ => rfl
  | x :: a, y :: b, h => by
    unfold bthP
    rw [bthP_len p a b (fun e => h (by simp [e]))]; simp
theorem bthP_drop {α : Type} (p : α → α → Bool) (L M : List α) (k : Nat) (h : k < L.length) (g : k < M.length) : bthP p (L.drop k) (M.drop k) = (p L[k] M[k] && bthP p (L.drop (k + 1)) (M.drop (k + 1))) := by
  rw [List.drop_eq_getElem_cons h, List.drop_eq_getElem_cons g]; rfl
def fdAll (L : List Fd) (name : ByteArray) : List (List UInt8) := (L.filter fun x => sameB x.1 name).map fun x => x.2.data.toList
def fdGet (L : List Fd) (name : ByteArray) : ByteArray := mkS (Lib.join (fdAll L name) [44, 32])
def fdGot (L : List Fd) (name : ByteArray) : Bool := !(fdAll L name).isEmpty
def fdHas (L : List Fd) (name item : ByteArray) : Bool := (fdAll L name).any fun v => hasL (splO v) item
def fdDrop (L : List Fd) (names : List (List UInt8)) : List Fd := L.filter fun x => !nmd names x
/-- The fields with f put at the place of the first of its name; whether that was done. -/
def setR (f : Fd) : Bool → List Fd → List Fd
  | b, [] => if b then [] else [f]
  | b, x :: r => if sameB x.1 f.1 then (if b then setR f true r else f :: setR f true r) else x :: setR f b r
def fdSet (L : List Fd) (f : Fd) : List Fd := setR f false L

theorem nmd_one (n : ByteArray) (x : Fd) : nmd [n.data.toList] x = sameB x.1 n := by simp [nmd, mkS_self]
theorem nmd_one' (n : ByteArray) : nmd [n.data.toList] = fun x => sameB x.1 n := funext fun x => nmd_one n x
theorem setR_true (f : Fd) : ∀ L : List Fd, setR f true L = L.filter fun x => !sameB x.1 f.1
  | [] => rfl
  | x :: r => by
    unfold setR
    rw [setR_true f r]
    by_cases h : sameB x.1 f.1 = true
    · simp [h]
    · simp [h]
/-- The place of the first field of a name. -/
theorem set_none (f : Fd) : ∀ L : List Fd, (∀ x ∈ L, sameB x.1 f.1 = false) → setR f false L = (L.filter fun x => !sameB x.1 f.1) ++ [f]
  | [], _ => rfl
  | x :: r, h => by
    have h1 := h x (List.mem_cons_self ..)
    unfold setR
    rw [set_none f r fun y hy => h y (List.mem_cons_of_mem _ hy)]
    simp [h1]
theorem set_at (f : Fd) : ∀ (L : List Fd) (i : Nat) (hi : i < L.length), (∀ j (hj : j < i), sameB (L[j]'(by omega)).1 f.1 = false) → sameB L[i].1 f.1 = true →
    i ≤ (L.filter fun x => !sameB x.1 f.1).length ∧ setR f false L = (L.filter fun x => !sameB x.1 f.1).take i ++ [f] ++ (L.filter fun x => !sameB x.1 f.1).drop i
  | [], i, hi, _, _ => absurd hi (by simp)
  | x :: r, 0, _, _, h => by
    simp only [List.getElem_cons_zero] at h
    refine ⟨Nat.zero_le _, ?_⟩
    unfold setR
    rw [setR_true]
    simp [h]
  | x :: r, i + 1, hi, hm, h => by
    have h0 := hm 0 (by omega)
    simp only [List.getElem_cons_zero] at h0
    simp only [List.getElem_cons_succ] at h
    obtain ⟨h1, h2⟩ := set_at f r i (by simpa using hi) (fun j hj => by simpa using hm (j + 1) (by omega)) h
    have e : (x :: r).filter (fun x => !sameB x.1 f.1) = x :: r.filter (fun x => !sameB x.1 f.1) := by simp [h0]
    rw [e]
    refine ⟨by simpa using h1, ?_⟩
    unfold setR
    rw [h2]
    simp [h0]
theorem filter_snoc {α : Type} (p : α → Bool) (l : List α) (x : α) : (l ++ [x]).filter p = if p x then l.filter p ++ [x] else l.filter p := by
  rw [List.filter_append]
  by_cases h : p x = true
  · simp [h]
  · simp [h]
theorem take_fd {α : Type} (L : List α) (k : Nat) (h : k < L.length) : L.take (k + 1) = L.take k ++ [L[k]] := List.take_succ_eq_append_getElem h

end Go.Proofs.YtmpiahahhkimkaaDoor
end

/-
  Plain functions of layer 13, without the program: directives, what they say, how they are printed.
-/
section
namespace Go.Proofs.YtmpiahahhkimkaaDoor
open Go.RowKit

def ccS : ByteArray := ⟨#[67, 97, 99, 104, 101, 45, 67, 111, 110, 116, 114, 111, 108]⟩
def prS : ByteArray := ⟨#[80, 114, 97, 103, 109, 97]⟩
def nsS : ByteArray := ⟨#[110, 111, 45, 115, 116, 111, 114, 101]⟩
def ncS : ByteArray := ⟨#[110, 111, 45, 99, 97, 99, 104, 101]⟩
def pvS : ByteArray := ⟨#[112, 114, 105, 118, 97, 116, 101]⟩
def puS : ByteArray := ⟨#[112, 117, 98, 108, 105, 99]⟩
def mrS : ByteArray := ⟨#[109, 117, 115, 116, 45, 114, 101, 118, 97, 108, 105, 100, 97, 116, 101]⟩
def xrS : ByteArray := ⟨#[112, 114, 111, 120, 121, 45, 114, 101, 118, 97, 108, 105, 100, 97, 116, 101]⟩
def oiS : ByteArray := ⟨#[111, 110, 108, 121, 45, 105, 102, 45, 99, 97, 99, 104, 101, 100]⟩
def maS : ByteArray := ⟨#[109, 97, 120, 45, 97, 103, 101]⟩
def smS : ByteArray := ⟨#[115, 45, 109, 97, 120, 97, 103, 101]⟩
def mfS : ByteArray := ⟨#[109, 105, 110, 45, 102, 114, 101, 115, 104]⟩
def maE : ByteArray := ⟨#[109, 97, 120, 45, 97, 103, 101, 61]⟩
def smE : ByteArray := ⟨#[115, 45, 109, 97, 120, 97, 103, 101, 61]⟩
def mfE : ByteArray := ⟨#[109, 105, 110, 45, 102, 114, 101, 115, 104, 61]⟩

/-- P13.2. -/
def leaN (a b : Int) : Int := if a < 0 ∨ b < 0 then max (max a b) (-1) else min a b
/-- The directives of a value; of all values. -/
abbrev Dv := List UInt8 × List UInt8
def dvO (e : List UInt8) : Option Dv := if parE (mkS e) = 0 then some ((parN (mkS e)).data.toList, (parV (mkS e)).data.toList) else none
def dvV (v : List UInt8) : List Dv := (splO v).filterMap dvO
def dvs (V : List (List UInt8)) : List Dv := V.flatMap dvV
def fnV (V : List (List UInt8)) : Bool := V.all fun v => decide (splE v = 0)
def hasD (D : List Dv) (nm : ByteArray) : Bool := D.any fun d => d.1 == nm.data.toList
def lstS (nm : ByteArray) (n : Int) (d : Dv) : Int := if d.1 == nm.data.toList then leaN n (secN d.2) else n
def grtS (nm : ByteArray) (n : Int) (d : Dv) : Int := if d.1 == nm.data.toList then max n (if secB d.2 then secN d.2 else 2147483648) else n
def lstD (D : List Dv) (nm : ByteArray) : Int := D.foldl (lstS nm) (-1)
def grtD (D : List Dv) (nm : ByteArray) : Int := D.foldl (grtS nm) (-1)
structure Ctl where
  ns : Bool
  nc : Bool
  pv : Bool
  pu : Bool
  mc : Bool
  oi : Bool
  ma : Int
  sh : Int
  mf : Int
def ctC (c : Ctl) : Array Value := #[.bool c.ns, .bool c.nc, .bool c.pv, .bool c.pu, .bool c.mc, .bool c.oi, .int .i64 c.ma, .int .i64 c.sh, .int .i64 c.mf]
def ctD (D : List Dv) (fine : Bool) : Ctl := ⟨!fine || hasD D nsS, !fine || hasD D ncS, hasD D pvS, hasD D puS, hasD D mrS || hasD D xrS, hasD D oiS, lstD D maS, lstD D smS, grtD D mfS⟩
def ctP (L : List Fd) : Ctl := ctD (dvs (fdAll L ccS)) (fnV (fdAll L ccS))
def ctA (L : List Fd) : Ctl := if (fdAll L ccS).length = 0 ∧ fdHas L prS ncS = true then { ctP L with nc := true } else ctP L
/-- Printed. -/
def ctL (c : Ctl) : List (List UInt8) :=
  (if c.ns then [nsS.data.toList] else []) ++ (if c.nc then [ncS.data.toList] else []) ++ (if c.pv then [pvS.data.toList] else []) ++ (if c.pu then [puS.data.toList] else []) ++ (if c.mc then [mrS.data.toList] else []) ++ (if c.oi then [oiS.data.toList] else []) ++
  (if 0 ≤ c.ma then [maE.data.toList ++ plainL c.ma] else []) ++ (if 0 ≤ c.sh then [smE.data.toList ++ plainL c.sh] else []) ++ (if 0 ≤ c.mf then [mfE.data.toList ++ plainL c.mf] else [])
def ctS (c : Ctl) : ByteArray := mkS (Lib.join (ctL c) [44, 32])

end Go.Proofs.YtmpiahahhkimkaaDoor
end

/-
  Plain functions of layer 13's program, without the program: a table of directives, row by row.
-/
section
namespace Go.Proofs.YtmpiahahhkimkaaDoor
open Go.RowKit

theorem sec_or (v : List UInt8) : (if secB v = true then secN v else 0) = secN v := by
  unfold secB secN
  cases h : allB (isD 10) v with
  | false => simp
  | true =>
    cases v with
    | nil => simp; decide
    | cons x v => simp

/-- The table's names. -/
def rowN : Nat → ByteArray
  | 0 => nsS | 1 => ncS | 2 => pvS | 3 => puS | 4 => mrS | 5 => xrS | 6 => oiS | 7 => maS | 8 => smS | _ => mfS
/-- A row's effect. -/
def effC : Nat → Ctl → List UInt8 → Ctl
  | 0, c, _ => { c with ns := true }
  | 1, c, _ => { c with nc := true }
  | 2, c, _ => { c with pv := true }
  | 3, c, _ => { c with pu := true }
  | 4, c, _ => { c with mc := true }
  | 5, c, _ => { c with mc := true }
  | 6, c, _ => { c with oi := true }
  | 7, c, v => { c with ma := leaN c.ma (secN v) }
  | 8, c, v => { c with sh := leaN c.sh (secN v) }
  | _, c, v => { c with mf := max c.mf (if secB v then secN v else 2147483648) }
/-- A row at a directive. -/
def rowC (i : Nat) (d : Dv) (c : Ctl) : Ctl := if d.1 = (rowN i).data.toList then effC i c d.2 else c
/-- The first rows. -/
def rowsC (d : Dv) (c : Ctl) : Nat → Ctl
  | 0 => c
  | k + 1 => rowC k d (rowsC d c k)
/-- The whole table. -/
def stepC (c : Ctl) (d : Dv) : Ctl := rowsC d c 10
def readC (c : Ctl) (e : List UInt8) : Ctl := match dvO e with | some d => stepC c d | none => c

/-- The numbers are a word's. -/
def CtB (c : Ctl) : Prop := (-9223372036854775808 ≤ c.ma ∧ c.ma ≤ 9223372036854775807) ∧ (-9223372036854775808 ≤ c.sh ∧ c.sh ≤ 9223372036854775807) ∧ (-9223372036854775808 ≤ c.mf ∧ c.mf ≤ 9223372036854775807)

theorem rowC_0 (d : Dv) (c : Ctl) : rowC 0 d c = { c with ns := c.ns || (d.1 == nsS.data.toList) } := by
  show (if d.1 = nsS.data.toList then ({ c with ns := true } : Ctl) else c) = _
  by_cases h : d.1 = nsS.data.toList
  · rw [if_pos h, beq_iff_eq.2 h, Bool.or_true]
  · rw [if_neg h, beq_eq_false_iff_ne.2 h, Bool.or_false]
theorem rowC_1 (d : Dv) (c : Ctl) : rowC 1 d c = { c with nc := c.nc || (d.1 == ncS.data.toList) } := by
  show (if d.1 = ncS.data.toList then ({ c with nc := true } : Ctl) else c) = _
  by_cases h : d.1 = ncS.data.toList
  · rw [if_pos h, beq_iff_eq.2 h, Bool.or_true]
  · rw [if_neg h, beq_eq_false_iff_ne.2 h, Bool.or_false]
theorem rowC_2 (d : Dv) (c : Ctl) : rowC 2 d c = { c with pv := c.pv || (d.1 == pvS.data.toList) } := by
  show (if d.1 = pvS.data.toList then ({ c with pv := true } : Ctl) else c) = _
  by_cases h : d.1 = pvS.data.toList
  · rw [if_pos h, beq_iff_eq.2 h, Bool.or_true]
  · rw [if_neg h, beq_eq_false_iff_ne.2 h, Bool.or_false]
theorem rowC_3 (d : Dv) (c : Ctl) : rowC 3 d c = { c with pu := c.pu || (d.1 == puS.data.toList) } := by
  show (if d.1 = puS.data.toList then ({ c with pu := true } : Ctl) else c) = _
  by_cases h : d.1 = puS.data.toList
  · rw [if_pos h, beq_iff_eq.2 h, Bool.or_true]
  · rw [if_neg h, beq_eq_false_iff_ne.2 h, Bool.or_false]
theorem rowC_4 (d : Dv) (c : Ctl) : rowC 4 d c = { c with mc := c.mc || (d.1 == mrS.data.toList) } := by
  show (if d.1 = mrS.data.toList then ({ c with mc := true } : Ctl) else c) = _
  by_cases h : d.1 = mrS.data.toList
  · rw [if_pos h, beq_iff_eq.2 h, Bool.or_true]
  · rw [if_neg h, beq_eq_false_iff_ne.2 h, Bool.or_false]
theorem rowC_5 (d : Dv) (c : Ctl) : rowC 5 d c = { c with mc := c.mc || (d.1 == xrS.data.toList) } := by
  show (if d.1 = xrS.data.toList then ({ c with mc := true } : Ctl) else c) = _
  by_cases h : d.1 = xrS.data.toList
  · rw [if_pos h, beq_iff_eq.2 h, Bool.or_true]
  · rw [if_neg h, beq_eq_false_iff_ne.2 h, Bool.or_false]
theorem rowC_6 (d : Dv) (c : Ctl) : rowC 6 d c = { c with oi := c.oi || (d.1 == oiS.data.toList) } := by
  show (if d.1 = oiS.data.toList then ({ c with oi := true } : Ctl) else c) = _
  by_cases h : d.1 = oiS.data.toList
  · rw [if_pos h, beq_iff_eq.2 h, Bool.or_true]
  · rw [if_neg h, beq_eq_false_iff_ne.2 h, Bool.or_false]
theorem rowC_7 (d : Dv) (c : Ctl) : rowC 7 d c = { c with ma := lstS maS c.ma d } := by
  show (if d.1 = maS.data.toList then ({ c with ma := leaN c.ma (secN d.2) } : Ctl) else c) = _
  unfold lstS
  by_cases h : d.1 = maS.data.toList
  · rw [if_pos h, if_pos (beq_iff_eq.2 h)]
  · rw [if_neg h, if_neg (by rw [beq_eq_false_iff_ne.2 h]; simp)]
theorem rowC_8 (d : Dv) (c : Ctl) : rowC 8 d c = { c with sh := lstS smS c.sh d } := by
  show (if d.1 = smS.data.toList then ({ c with sh := leaN c.sh (secN d.2) } : Ctl) else c) = _
  unfold lstS
  by_cases h : d.1 = smS.data.toList
  · rw [if_pos h, if_pos (beq_iff_eq.2 h)]
  · rw [if_neg h, if_neg (by rw [beq_eq_false_iff_ne.2 h]; simp)]
theorem rowC_9 (d : Dv) (c : Ctl) : rowC 9 d c = { c with mf := grtS mfS c.mf d } := by
  show (if d.1 = mfS.data.toList then ({ c with mf := max c.mf (if secB d.2 then secN d.2 else 2147483648) } : Ctl) else c) = _
  unfold grtS
  by_cases h : d.1 = mfS.data.toList
  · rw [if_pos h, if_pos (beq_iff_eq.2 h)]
  · rw [if_neg h, if_neg (by rw [beq_eq_false_iff_ne.2 h]; simp)]

theorem stepC_eq (c : Ctl) (d : Dv) : stepC c d =
    ⟨c.ns || (d.1 == nsS.data.toList), c.nc || (d.1 == ncS.data.toList), c.pv || (d.1 == pvS.data.toList), c.pu || (d.1 == puS.data.toList), (c.mc || (d.1 == mrS.data.toList)) || (d.1 == xrS.data.toList), c.oi || (d.1 == oiS.data.toList), lstS maS c.ma d, lstS smS c.sh d, grtS mfS c.mf d⟩ := by
  unfold stepC
  simp only [rowsC, rowC_0, rowC_1, rowC_2, rowC_3, rowC_4, rowC_5, rowC_6, rowC_7, rowC_8, rowC_9]

theorem hasD_cons (d : Dv) (D : List Dv) (nm : ByteArray) : hasD (d :: D) nm = ((d.1 == nm.data.toList) || hasD D nm) := rfl
theorem fold_stepC : ∀ (D : List Dv) (c : Ctl), D.foldl stepC c =
    ⟨c.ns || hasD D nsS, c.nc || hasD D ncS, c.pv || hasD D pvS, c.pu || hasD D puS, c.mc || (hasD D mrS || hasD D xrS), c.oi || hasD D oiS, D.foldl (lstS maS) c.ma, D.foldl (lstS smS) c.sh, D.foldl (grtS mfS) c.mf⟩
  | [], c => by simp [hasD]
  | d :: D, c => by
    rw [List.foldl_cons, fold_stepC D, stepC_eq]
    simp only [List.foldl_cons, hasD_cons, Ctl.mk.injEq, Bool.or_assoc, true_and, and_true]
    rw [Bool.or_left_comm (d.1 == xrS.data.toList)]

theorem fold_readC : ∀ (E : List (List UInt8)) (c : Ctl), E.foldl readC c = (E.filterMap dvO).foldl stepC c
  | [], _ => rfl
  | e :: E, c => by
    rw [List.foldl_cons, fold_readC E, List.filterMap_cons]
    unfold readC
    cases dvO e <;> rfl

def ct0 : Ctl := ⟨false, false, false, false, false, false, -1, -1, -1⟩
theorem ctD_fold (D : List Dv) (fine : Bool) : ctD D fine = if fine = true then D.foldl stepC ct0 else { D.foldl stepC ct0 with ns := true, nc := true } := by
  rw [fold_stepC]
  unfold ctD ct0 lstD grtD
  cases fine <;> simp

/-- The numbers stay a word's. -/
theorem leaN_B {a b : Int} (h : -9223372036854775808 ≤ a ∧ a ≤ 9223372036854775807) (hb : 0 ≤ b ∧ b ≤ 2147483648) : -9223372036854775808 ≤ leaN a b ∧ leaN a b ≤ 9223372036854775807 := by
  unfold leaN
  split <;> omega

end Go.Proofs.YtmpiahahhkimkaaDoor
end

/-
  Contracts of package control's Least and seconds.
-/
section
namespace Go.Proofs.YtmpiahahhkimkaaDoor
open Go.RowKit

theorem lst_any (a b : Int) (w : World) :
    Calls Tryd.prog 8 #[.int .i64 a, .int .i64 b] w fun e w' => e = .returned (.int .i64 (leaN a b)) ∧ w = w' := by
  unfold leaN
  by_cases ha : a < 0
  · by_cases hb : b < 0
    · rw [if_pos (.inl ha)]
      have hm : max (max a b) (-1) = -1 := by omega
      rw [hm]
      go_enter Tryd.func8, Tryd.ntmps8
      go_wp2_with fail
      go_ret
      exact ⟨rfl, rfl⟩
    · rw [if_pos (.inl ha)]
      have hm : max (max a b) (-1) = b := by omega
      rw [hm]
      go_enter Tryd.func8, Tryd.ntmps8
      go_wp2_with fail
      go_ret
      exact ⟨rfl, rfl⟩
  · by_cases hb : b < 0
    · rw [if_pos (.inr hb)]
      have hm : max (max a b) (-1) = a := by omega
      rw [hm]
      go_enter Tryd.func8, Tryd.ntmps8
      go_wp2_with fail
      go_ret
      exact ⟨rfl, rfl⟩
    · rw [if_neg (by omega)]
      obtain ⟨m, hm⟩ : ∃ m, m = min a b := ⟨_, rfl⟩
      rw [← hm]
      have HR := Lib.hid hm
      clear hm
      go_enter Tryd.func8, Tryd.ntmps8
      go_wp2_with fail
      go_ret
      exact ⟨by rw [HR.out]; rfl, rfl⟩

theorem secs_any (v : ByteArray) (o : Int) (w : World) :
    Calls Tryd.prog 37 #[.string v, .int .i64 o] w fun e w' => e = .returned (.int .i64 (if secB v.data.toList = true then secN v.data.toList else o)) ∧ Below w.heap.size w w' := by
  have C := Lib.hid (seconds_any v w)
  generalize secN v.data.toList = n at *
  generalize secB v.data.toList = b at *
  cases b
  all_goals
    simp only [if_true, if_false, Bool.false_eq_true]
    go_enter Tryd.func37, Tryd.ntmps37
    go_wp2_with fail
    refine C.out.mono ?_
    rintro e w1 ⟨rfl, hb1⟩
    go_wp2_with fail
    go_ret
    exact ⟨rfl, hb1⟩

end Go.Proofs.YtmpiahahhkimkaaDoor
end

/-
  Contracts of the reference's Least, has, least, greatest (layer 13).
-/
section
namespace Go.Proofs.YtmpiahahhkimkaaDoor
open Go.RowKit

theorem r_least (a b : Int) (w : World) :
    Calls Tryd.prog 9 #[.int .i64 a, .int .i64 b] w fun e w' => e = .returned (.int .i64 (leaN a b)) ∧ w = w' := by
  have hD : leaN a b = if a < 0 ∨ b < 0 then max (max a b) (-1) else min a b := rfl
  generalize leaN a b = R at *
  by_cases h1 : a < 0 ∨ b < 0
  · rw [if_pos h1] at hD
    have km : ∀ (W : World) (ts : Array TypeId) (t : TypeId), (Builtin.max_ ts t #[.int .i64 a, .int .i64 b, .int .i64 (-1)]).run Tryd.prog W = .ok (.int .i64 R) W := fun W ts t => by
      rw [run_max_int3, hD]
      congr 2
      repeat' split
      all_goals omega
    clear hD
    rcases h1 with h1 | h1
    · go_enter Tryd.func9, Tryd.ntmps9
      go_wp2_with fail
      go_ret
      exact ⟨rfl, rfl⟩
    · by_cases h2 : a < 0
      all_goals
        go_enter Tryd.func9, Tryd.ntmps9
        go_wp2_with fail
        go_ret
        exact ⟨rfl, rfl⟩
  · rw [if_neg h1] at hD
    have HR := Lib.hid hD
    clear hD
    have h2 : ¬ a < 0 := fun h => h1 (.inl h)
    have h3 : ¬ b < 0 := fun h => h1 (.inr h)
    clear h1
    go_enter Tryd.func9, Tryd.ntmps9
    go_wp2_with fail
    go_ret
    exact ⟨by rw [HR.out]; rfl, rfl⟩

/-! ### Names in a slice -/
def hsN (N : List (List UInt8)) (nm : ByteArray) : Bool := N.any fun x => x == nm.data.toList
theorem hsN_step (N : List (List UInt8)) (nm : ByteArray) (k : Nat) (h : k < N.length) : hsN (N.take (k + 1)) nm = (hsN (N.take k) nm || (N[k] == nm.data.toList)) := by
  unfold hsN
  rw [List.take_succ_eq_append_getElem h, List.any_append]
  simp
theorem hsN_hit (N : List (List UInt8)) (nm : ByteArray) (k : Nat) (h : k < N.length) (g : (N[k] == nm.data.toList) = true) : hsN N nm = true := by
  unfold hsN
  exact List.any_eq_true.2 ⟨N[k], List.getElem_mem h, g⟩

/-! ### The least and the greatest number of a name -/
theorem sec_bd (l : List UInt8) : 0 ≤ secN l ∧ secN l ≤ 2147483648 := by
  unfold secN
  split
  · exact ⟨cutV_nn (by decide) (by decide) l, cutV_le (by decide) l⟩
  · exact ⟨Int.le_refl _, by decide⟩
theorem lst_bd (nm : ByteArray) (n : Int) (d : Dv) (h : -1 ≤ n ∧ n ≤ 2147483648) : -1 ≤ lstS nm n d ∧ lstS nm n d ≤ 2147483648 := by
  have := sec_bd d.2
  unfold lstS leaN
  repeat' split
  all_goals omega
theorem grt_bd (nm : ByteArray) (n : Int) (d : Dv) (h : -1 ≤ n ∧ n ≤ 2147483648) : -1 ≤ grtS nm n d ∧ grtS nm n d ≤ 2147483648 := by
  have := sec_bd d.2
  unfold grtS
  repeat' split
  all_goals omega
theorem fold_at {α β : Type} (f : β → α → β) (b : β) (D : List α) (k : Nat) (h : k < D.length) : (D.take (k + 1)).foldl f b = f ((D.take k).foldl f b) D[k] := by
  rw [List.take_succ_eq_append_getElem h, List.foldl_append]; rfl

end Go.Proofs.YtmpiahahhkimkaaDoor
end

/-
  Contracts of package fields' choose and of slices.IndexFunc and ContainsFunc on fields, for any test that is handed in.
-/
section
namespace Go.Proofs.YtmpiahahhkimkaaDoor
open Go.RowKit

/-- A test of fields: function g with the captured cells caps answers p. -/
def PredF (w : World) (g : Nat) (caps : Array Value) (p : Fd → Bool) : Prop :=
  ∀ (W : World) (x : Fd), Below w.heap.size w W → Bd x → Calls Tryd.prog g (#[fdV x] ++ caps) W fun e w' => e = .returned (.bool (p x)) ∧ Below W.heap.size W w'

theorem choose_any (A : Option Addr) (n c : Nat) (L : List Fd) (w : World) (h : SlF w A n c L) (hn : n ≤ 100000000) (hB : ∀ x ∈ L, Bd x) (g : Nat) (caps : Array Value) (p : Fd → Bool)
    (eg : ∀ args W, (callFunc g args).run Tryd.prog W = .ok (.enter g args) W) (hp : PredF w g caps p) :
    Calls Tryd.prog 40 #[.slice A n c, .func (.func g) #[] caps] w fun e w' => ∃ v, e = .returned v ∧ OwnF w' w.heap.size 37 v (L.filter p) ∧ Below w.heap.size w w' := by
  have hlen := h.len
  subst hlen
  have HP := Lib.hid hp
  clear hp
  go_enter Tryd.func40, Tryd.ntmps40
  go_wp2_with fail
  go_loopw [5, 10] (fun v i wr => ∃ k : Nat, k ≤ L.length ∧ i = .int .i64 k ∧ Hid (OwnF wr w.heap.size 37 v ((L.take k).filter p)) ∧ Below w.heap.size w wr) (fun _ i _ => L.length - (intOf i).toNat)
  case atStart => exact ⟨0, Nat.zero_le _, rfl, OwnF.nil _ _ _, Below.refl _ _⟩
  case round =>
    obtain ⟨k, hk, rfl, hown, hbel⟩ := hrel
    by_cases hlt : k < L.length
    · obtain ⟨ad, rfl, hc⟩ := h.at_ (by omega)
      obtain ⟨hc0, hc1⟩ := hc k L[k] (List.getElem?_eq_getElem hlt)
      have hcell0 := cell_kept hbel hc0
      have hcell1 := fd_snd (cell_kept hbel hc1)
      obtain ⟨hz1, hz2⟩ := h.sz _ (List.getElem_mem hlt)
      have hbd := hB _ (List.getElem_mem hlt)
      have HS := take_fd L k hlt
      generalize L[k] = x at *
      obtain ⟨a, b⟩ := x
      have HF := filter_snoc p (L.take k) (a, b)
      rw [← HS] at HF
      clear HS hc hc0 hc1
      have hl2 : ((L.take k).filter p).length ≤ k := Nat.le_trans (List.length_filter_le _ _) (by rw [List.length_take]; omega)
      generalize hX : (L.take k).filter p = X at *
      have hcall := HP.out (wr.alloc (.cells #[.string a, .string b] 37)) (a, b) (hbel.alloc hbel.size _) hbd
      unfold fdV at hcall
      have HC := Lib.hid hcall
      clear hcall
      have hsz1 := hbel.size
      cases hq : p (a, b) with
      | true =>
        rw [hq, if_pos rfl] at HF
        rw [hq] at HC
        have HR := Lib.hid HF
        clear HF hq
        go_wp2_with fail
        refine HC.out.mono ?_
        rintro e w1 ⟨rfl, hb1⟩
        have HZ := Lib.hid (zero_at hb1)
        have HB := Lib.hid (zero_then hb1)
        have HO := Lib.hid (hown.out.below HB.out)
        have hs1 := HB.out.size
        obtain ⟨z0, z1⟩ := zero_two HZ.out
        clear hb1 hown HC
        go_wp2_with (at_builtin; refine wpList_append_slf rfl _ _ _ rfl w.heap.size 37 Tryd.underlying29 (by kernel_rfl) _ rfl X (HO.out.alloc _) _ _ _ rfl [(a, b)] (SlF.one _ _ (a, b) ⟨hz1, hz2⟩) (by simp; omega) (by simp; omega) w ((hbel.trans (HB.out.mono hsz1)).alloc (by omega) _) ?_; intro v1 w2 ho2 hb2 hz2)
        go_roundw
        case rel => exact ⟨k + 1, by omega, by go_num, by show OwnF _ _ _ _ _; rw [HR.out]; exact ho2.out, hb2⟩
        case measure => simp [intOf]; omega
      | false =>
        rw [hq, if_neg (by simp)] at HF
        rw [hq] at HC
        have HR := Lib.hid HF
        clear HF hq
        go_wp2_with fail
        refine HC.out.mono ?_
        rintro e w1 ⟨rfl, hb1⟩
        have HB := Lib.hid (zero_then hb1)
        clear hb1
        go_wp2_with fail
        go_roundw
        case rel => exact ⟨k + 1, by omega, by go_num, by show OwnF _ _ _ _ _; rw [HR.out]; exact hown.out.below HB.out, hbel.trans (HB.out.mono hsz1)⟩
        case measure => simp [intOf]; omega
    · have HE : Hid ((L.take k).filter p = L.filter p) := by
        show _ = _
        rw [List.take_of_length_le (by omega)]
      rw [HE.out] at hown
      go_wp2_with fail
      go_ret
      exact ⟨_, rfl, hown.out, hbel⟩

end Go.Proofs.YtmpiahahhkimkaaDoor
end

/-
  Contracts of slices.IndexFunc and slices.ContainsFunc on fields and on texts, for any test that is handed in, and of slices.EqualFunc on fields.
-/
section
namespace Go.Proofs.YtmpiahahhkimkaaDoor
open Go.RowKit

/-- The place of the first that passes the test, or -1. -/
def idxP {α : Type} (p : α → Bool) (L : List α) : Int := if L.any p then (L.findIdx p : Int) else -1
theorem idxP_hit {α : Type} {p : α → Bool} {L : List α} {k : Nat} (hk : k < L.length) (h : p L[k] = true) (hm : ∀ j (hj : j < L.length), j < k → p L[j] = false) : idxP p L = k := by
  unfold idxP
  rw [if_pos (List.any_eq_true.2 ⟨L[k], List.getElem_mem hk, h⟩), (List.findIdx_eq hk).2 ⟨h, fun j hj => hm j (by omega) hj⟩]
theorem any_false {α : Type} {p : α → Bool} {L : List α} (hm : ∀ j (hj : j < L.length), p L[j] = false) : L.any p = false := by
  rw [List.any_eq_false]
  intro x hx
  obtain ⟨j, hj, rfl⟩ := List.getElem_of_mem hx
  simp [hm j hj]
theorem idxP_miss {α : Type} {p : α → Bool} {L : List α} (hm : ∀ j (hj : j < L.length), p L[j] = false) : idxP p L = -1 := by
  unfold idxP
  rw [if_neg (by rw [any_false hm]; simp)]
theorem idxP_any {α : Type} (p : α → Bool) (L : List α) : decide (0 ≤ idxP p L) = L.any p := by
  unfold idxP
  by_cases h : L.any p = true
  · rw [if_pos h, h]; simp
  · rw [if_neg h, Bool.eq_false_iff.2 h]; simp
/-- Where the first that passes stands. -/
theorem idxP_cases {α : Type} (p : α → Bool) (L : List α) : (idxP p L = -1 ∧ ∀ x ∈ L, p x = false) ∨ ∃ i, ∃ hi : i < L.length, idxP p L = i ∧ p L[i] = true ∧ ∀ j (hj : j < i), p (L[j]'(by omega)) = false := by
  by_cases h : L.any p = true
  · right
    obtain ⟨x, hx, hp⟩ := List.any_eq_true.1 h
    have hi : L.findIdx p < L.length := List.findIdx_lt_length_of_exists ⟨x, hx, hp⟩
    refine ⟨L.findIdx p, hi, by unfold idxP; rw [if_pos h], List.findIdx_getElem, fun j hj => ?_⟩
    simpa using List.not_of_lt_findIdx hj
  · left
    refine ⟨by unfold idxP; rw [if_neg h], fun x hx => ?_⟩
    rw [Bool.not_eq_true, List.any_eq_false] at h
    simpa using h x hx

/-- A test of texts. -/
def PredS (w : World) (g : Nat) (caps : Array Value) (p : List UInt8 → Bool) : Prop :=
  ∀ (W : World) (x : List UInt8), Below w.heap.size w W → x.length ≤ 1000000000 → Calls Tryd.prog g (#[.string (mkS x)] ++ caps) W fun e w' => e = .returned (.bool (p x)) ∧ Below W.heap.size W w'
/-- A test of two fields. -/
def PredT (w : World) (g : Nat) (caps : Array Value) (p : Fd → Fd → Bool) : Prop :=
  ∀ (W : World) (x y : Fd), Below w.heap.size w W → Bd x → Bd y → Calls Tryd.prog g (#[fdV x, fdV y] ++ caps) W fun e w' => e = .returned (.bool (p x y)) ∧ Below W.heap.size W w'

theorem idxS_any (A : Option Addr) (n c : Nat) (L : List (List UInt8)) (w : World) (h : SlS w A n c L) (hn : n ≤ 1000000000) (hz : ∀ x ∈ L, x.length ≤ 1000000000) (g : Nat) (caps : Array Value) (p : (List UInt8) → Bool)
    (eg : ∀ args W, (callFunc g args).run Tryd.prog W = .ok (.enter g args) W) (hp : PredS w g caps p) :
    Calls Tryd.prog 60 #[.slice A n c, .func (.func g) #[] caps] w fun e w' => e = .returned (.int .i64 (idxP p L)) ∧ Below w.heap.size w w' := by
  have hlen := h.len
  subst hlen
  have HP := Lib.hid hp
  clear hp
  go_enter Tryd.func60, Tryd.ntmps60
  go_wp2_with fail
  go_loopw [5, 8] (fun _ i wr => ∃ k : Nat, k ≤ L.length ∧ i = .int .i64 k ∧ Hid (∀ j (hj : j < L.length), j < k → p L[j] = false) ∧ Below w.heap.size w wr) (fun _ i _ => L.length - (intOf i).toNat)
  case atStart => exact ⟨0, Nat.zero_le _, rfl, (fun j hj h0 => absurd h0 (by omega)), Below.refl _ _⟩
  case round =>
    obtain ⟨k, hk, rfl, hf, hbel⟩ := hrel
    by_cases hlt : k < L.length
    · obtain ⟨ad, rfl, hc⟩ := h.at_ (by omega)
      have HN : Hid (p L[k] = true → idxP p L = k) := fun hp => idxP_hit hlt hp hf.out
      have HM : Hid (p L[k] = false → ∀ j (hj : j < L.length), j < k + 1 → p L[j] = false) := fun hp j hj hjk => by
        by_cases e : j = k
        · subst e; exact hp
        · exact hf.out j hj (by omega)
      have hc0 := hc k L[k] (List.getElem?_eq_getElem hlt)
      have hcell0 := cell_kept hbel hc0
      have hz1 := hz _ (List.getElem_mem hlt)
      generalize L[k] = x at HN HM hc0 hcell0 hz1
      have hcall := HP.out wr x hbel hz1
      obtain ⟨xs, hxs⟩ : ∃ xs, xs = mkS x := ⟨_, rfl⟩
      rw [← hxs] at hcall hcell0
      clear hc hc0 hxs
      have HC := Lib.hid hcall
      have hi0 : (0 : Int) ≤ (k : Int) := by omega
      have hi1 : (k : Int) < (L.length : Int) := by omega
      clear hcall hf
      cases hq : p x with
      | true =>
        have HR := Lib.hid (HN.out hq)
        clear HN HM
        rw [hq] at HC
        clear hq
        go_wp2_with fail
        refine HC.out.mono ?_
        rintro e w1 ⟨rfl, hb1⟩
        clear HC
        go_wp2_with fail
        go_ret
        exact ⟨by rw [HR.out]; rfl, hbel.trans (hb1.mono hbel.size)⟩
      | false =>
        have HR := Lib.hid (HM.out hq)
        clear HN HM
        rw [hq] at HC
        clear hq
        go_wp2_with fail
        refine HC.out.mono ?_
        rintro e w1 ⟨rfl, hb1⟩
        clear HC
        go_wp2_with fail
        go_roundw
        case rel => exact ⟨k + 1, by omega, by go_num, HR.out, hbel.trans (hb1.mono hbel.size)⟩
        case measure => simp [intOf]; omega
    · have HE : Hid (idxP p L = -1) := idxP_miss fun j hj => hf.out j hj (by omega)
      go_wp2_with fail
      go_ret
      exact ⟨by rw [HE.out]; rfl, hbel⟩

theorem idxS_has (A : Option Addr) (n c : Nat) (L : List (List UInt8)) (w : World) (h : SlS w A n c L) (hn : n ≤ 1000000000) (hz : ∀ x ∈ L, x.length ≤ 1000000000) (g : Nat) (caps : Array Value) (p : (List UInt8) → Bool)
    (eg : ∀ args W, (callFunc g args).run Tryd.prog W = .ok (.enter g args) W) (hp : PredS w g caps p) :
    Calls Tryd.prog 43 #[.slice A n c, .func (.func g) #[] caps] w fun e w' => e = .returned (.bool (L.any p)) ∧ Below w.heap.size w w' := by
  have HQ := Lib.hid (idxS_any A n c L w h hn hz g caps p eg hp)
  have HE := Lib.hid (idxP_any p L)
  clear h hp eg
  generalize idxP p L = r at *
  go_enter Tryd.func43, Tryd.ntmps43
  go_wp2_with fail
  refine HQ.out.mono ?_
  rintro e w1 ⟨rfl, hb1⟩
  clear HQ
  go_wp2_with fail
  all_goals
    go_ret
    exact ⟨by rw [← HE.out]; simp_all, hb1⟩

end Go.Proofs.YtmpiahahhkimkaaDoor
end

/-
  Contract of slices.EqualFunc on fields, for any test that is handed in; the closures of package fields: named, not.
-/
section
namespace Go.Proofs.YtmpiahahhkimkaaDoor
open Go.RowKit

/-! ### named, not -/
theorem named_any (A : Option Addr) (n c : Nat) (v : Value) (hv : v = .slice A n c) (w : World) :
    Calls Tryd.prog 41 #[v] w fun e w' => e = .returned (.func (.func 54) #[] #[.pointer (some ⟨w.heap.size, 0, none⟩)]) ∧ w.alloc (.cells #[v] 32) = w' := by
  have hmf : ∀ (fn : Fn) (first cap : Array Value) (w : World), (Instr.makeFunc fn first cap).run Tryd.prog w = .ok (.func fn first cap) w := fun _ _ _ _ => rfl
  subst hv
  go_enter Tryd.func41, Tryd.ntmps41
  go_wp2
  go_ret
  exact ⟨rfl, rfl⟩

theorem named_in (a : Nat) (A : Option Addr) (n c : Nat) (names : List (List UInt8)) (W : World) (ha : W.cell? ⟨a, 0, none⟩ = some (.slice A n c)) (h : SlS W A n c names) (hz : ∀ x ∈ names, x.length ≤ maxLen) (hn : n ≤ 1000000000) (x : Fd) (hx : x.1.size ≤ maxLen) :
    Calls Tryd.prog 54 #[fdV x, .pointer (some ⟨a, 0, none⟩)] W fun e w' => e = .returned (.bool (nmd names x)) ∧ Below W.heap.size W w' := by
  have hlen := h.len
  subst hlen
  obtain ⟨f, v⟩ := x
  have hb0 : Below W.heap.size W (W.alloc (.cells #[.string f, .string v] 37)) := (Below.refl _ _).alloc (Nat.le_refl _) _
  have h0 := heap_alloc_new W (.cells #[.string f, .string v] 37)
  have ha0 := Lib.cell?_alloc_some (.cells #[.string f, .string v] 37) ha
  unfold fdV
  go_enter Tryd.func54, Tryd.ntmps54
  go_wp2_with fail
  go_loopw [8] (fun i wr => ∃ k : Nat, k ≤ names.length ∧ i = .int .i64 k ∧ Hid ((names.take k).any (fun n => sameB f (mkS n)) = false) ∧ Hid (wr.heap[W.heap.size]? = some (.cells #[.string f, .string v] 37 (0, 0))) ∧ Below W.heap.size W wr) (fun i _ => names.length - (intOf i).toNat)
  case atStart => exact ⟨0, Nat.zero_le _, rfl, rfl, h0, hb0⟩
  case round =>
    obtain ⟨k, hk, rfl, hf, hZ, hbel⟩ := hrel
    by_cases hlt : k < names.length
    · obtain ⟨ad, rfl, hc⟩ := h.at_ (by omega)
      have hcell := cell_kept hbel (hc k names[k] (List.getElem?_eq_getElem hlt))
      obtain ⟨z0, z1⟩ := zero_two hZ.out
      have hxl := hz _ (List.getElem_mem hlt)
      have HT : Hid ((names.take (k + 1)).any (fun n => sameB f (mkS n)) = sameB f (mkS names[k])) := by
        show _ = _
        rw [List.take_succ_eq_append_getElem hlt, List.any_append, hf.out]; simp
      have HM : Hid (sameB f (mkS names[k]) = true → nmd names (f, v) = true) := fun h => List.any_eq_true.2 ⟨names[k], List.getElem_mem hlt, h⟩
      have hys : (mkS names[k]).size ≤ maxLen := by rw [mkS_size]; exact hxl
      obtain ⟨y, hy⟩ : ∃ y, y = mkS names[k] := ⟨_, rfl⟩
      rw [← hy] at hcell HT HM hys
      have hi0 : (0 : Int) ≤ (k : Int) := by omega
      have hi1 : (k : Int) < (names.length : Int) := by omega
      clear hy hf hc
      cases hsm : sameB f y with
      | true =>
        have HS := Lib.hid hsm
        have HR := Lib.hid (HM.out hsm)
        clear hsm HM HT
        go_wp2_with fail
        refine (same_any f y _ hx hys).mono ?_
        rintro e w2 ⟨he, hb2⟩
        rw [HS.out] at he
        subst he
        go_wp2_with fail
        go_ret
        exact ⟨by rw [HR.out]; rfl, hbel.trans (hb2.mono hbel.size)⟩
      | false =>
        have HS := Lib.hid hsm
        have HR := Lib.hid (HT.out.trans hsm)
        clear hsm HM HT
        go_wp2_with fail
        refine (same_any f y _ hx hys).mono ?_
        rintro e w2 ⟨he, hb2⟩
        rw [HS.out] at he
        subst he
        go_wp2_with fail
        go_roundw
        case rel => exact ⟨k + 1, by omega, by go_num, HR, zero_still hb2 hZ.out, hbel.trans (hb2.mono hbel.size)⟩
        case measure => simp [intOf]; omega
    · have HR : Hid (nmd names (f, v) = false) := by
        have := hf.out
        rwa [List.take_of_length_le (by omega)] at this
      clear hf
      go_wp2_with fail
      go_ret
      exact ⟨by rw [HR.out]; rfl, hbel⟩

end Go.Proofs.YtmpiahahhkimkaaDoor
end

/-
  Contract of slices.Insert of one field into a row of the call's own.
-/
section
namespace Go.Proofs.YtmpiahahhkimkaaDoor
open Go.RowKit

/-- 'copy(d, s)' into a block that is known whole, at elements of any size. -/
theorem run_copy_rowK {P : Program} (w : World) (dT sT ty elem : TypeId) (k g o dLen dCap : Nat) (a : Addr) (sLen sCap : Nat) (cur : Array Value) (t : TypeId) (cs : List Value)
    (hu : P.underlying dT = some (.slice elem)) (hs : (P.info? elem).map (·.size) = some k)
    (hg : w.heap[g]? = some (.cells cur t (0, 0))) (m : Nat) (hm : Nat.min sLen dLen = m) (hn : cs.length = m * k)
    (hsrc : ∀ j v, cs[j]? = some v → w.cell? (a.add j) = some v) (hfit : o + cs.length ≤ cur.size) (h1 : ∀ v ∈ cs, v.oneCell' = true) :
    (Builtin.copy_ #[dT, sT] ty #[.slice (some ⟨g, o, none⟩) dLen dCap, .slice (some a) sLen sCap]).run P w =
      .ok (goInt m) (w.setRow g (cur.toList.take o ++ cs ++ cur.toList.drop (o + cs.length)).toArray) := by
  have hl := run_loadCells_list (P := P) w a cs hsrc
  have hst := run_storeCells_at P g o t cs 0 cur w hg (by simpa using hfit) h1
  cases hq : P.info? elem with
  | none => simp [hq] at hs
  | some i =>
    have hi : i.size = k := by simpa [hq] using hs
    rw [hn] at hl
    simp [Builtin.copy_, run_underlying hu, Builtin.lenOf, Builtin.firstCells, sizeOf, typeInfo, hq, hi, hm, hl, hst]

theorem wp_copy_runF (w : World) {P : Program} {o : Oper} {a : Act} {K : Act → World → Prop} {Q : Exit → Act → World → Prop} (d s : Operand) (t t' : TypeId)
    (ho : o.op = .call { callee := .builtin .copy, args := #[d, s], argTypes := #[t, t'] }) (v u : Value) (hd : a.eval d = v) (hs : a.eval s = u) {v' : Value} {w' : World}
    (hr : (Builtin.copy_ #[t, t'] o.type #[v, u]).run P w = .ok v' w') (h : K (a.put o.dst v') w') : o.wp P a w K Q := by
  unfold Oper.wp execOp
  simp only [ho, resolve, invoke, builtin, Sem.run_bind, Sem.run_pure, Result.andThen_ok, List.map_toArray, List.map_cons, List.map_nil, hd, hs, hr]
  exact h
theorem wpList_copy_runF (w : World) {P : Program} {ops : Array Oper} {rest : List Oper} {o : Oper} {a : Act} {Q : Exit → Act → World → Prop} (hgd : o.guard = none) (d s : Operand) (t t' : TypeId)
    (ho : o.op = .call { callee := .builtin .copy, args := #[d, s], argTypes := #[t, t'] }) (v u : Value) (hd : a.eval d = v) (hs : a.eval s = u) {v' : Value} {w' : World}
    (hr : (Builtin.copy_ #[t, t'] o.type #[v, u]).run P w = .ok v' w') (h : wpList P ops Q rest (a.put o.dst v') w') : wpList P ops Q (o :: rest) a w :=
  wpList_plain hgd fun _ hK => wp_copy_runF w d s t t' ho v u hd hs hr (hK _ _ h)
theorem step_copy_runF {P : Program} {ops : Array Oper} {o : Oper} {a : Act} {w : World} {K : Act → World → Prop} {Q : Exit → Act → World → Prop} {E : Prop}
    (hg : o.guard = none) (d x : Operand) (dT sT : TypeId) (hop : o.op = Op.call { callee := Callee.builtin Builtin.copy, args := #[d, x], argTypes := #[dT, sT] })
    (v u : Value) (hd : a.eval d = v) (hx : a.eval x = u) {v' : Value} {w' : World} (hr : (Builtin.copy_ #[dT, sT] o.type #[v, u]).run P w = .ok v' w') (hK : K (a.put o.dst v') w') :
    if Region.wanted o (yielded ops a.tmps) = true then Oper.wp P o a w K Q else E := by
  have hw : Region.wanted o (yielded ops a.tmps) = true := by simp [Region.wanted, hg]
  rw [if_pos hw]
  unfold Oper.wp
  simp [execOp, hop, resolve, invoke, builtin, hd, hx, hr, Result.andThen]
  exact hK

/-- What stands in the row behind the two copies. -/
theorem ins_list {α : Type} (C : List α) (V R : List α) (k : Nat) (a n : Nat) (ha : a ≤ n) (hn : n + k ≤ C.length) (hV : V.length = k) (hR : R.length = n - a) :
    let C1 := C.take (a + k) ++ R ++ C.drop (a + k + R.length)
    let C2 := C1.take a ++ V ++ C1.drop (a + V.length)
    C1.length = C.length ∧ C2.length = C.length ∧ C2.take (n + k) = C.take a ++ V ++ R := by
  intro C1 C2
  have l1 : C1.length = C.length := by
    show (C.take (a + k) ++ R ++ C.drop (a + k + R.length)).length = _
    simp only [List.length_append, List.length_take, List.length_drop]; omega
  have l2 : C2.length = C.length := by
    show (C1.take a ++ V ++ C1.drop (a + V.length)).length = _
    simp only [List.length_append, List.length_take, List.length_drop]; omega
  refine ⟨l1, l2, ?_⟩
  have e1 : C1.take a = C.take a := by
    show (C.take (a + k) ++ R ++ C.drop (a + k + R.length)).take a = _
    rw [List.append_assoc, List.take_append_of_le_length (by rw [List.length_take]; omega), List.take_take, Nat.min_eq_left (by omega)]
  have e2 : C1.drop (a + V.length) = R ++ C.drop (a + k + R.length) := by
    show (C.take (a + k) ++ R ++ C.drop (a + k + R.length)).drop (a + V.length) = _
    rw [hV, List.append_assoc, List.drop_append_of_le_length (by rw [List.length_take]; omega), List.drop_eq_nil_of_le (by rw [List.length_take]; omega), List.nil_append]
  show (C1.take a ++ V ++ C1.drop (a + V.length)).take (n + k) = _
  rw [e1, e2, ← List.append_assoc, List.take_append_of_le_length (by simp only [List.length_append, List.length_take]; omega), List.take_of_length_le (by simp only [List.length_append, List.length_take]; omega)]

theorem fdC_take (X : List Fd) (i : Nat) : fdC (X.take i) = (fdC X).take (i * 2) := by
  by_cases h : i ≤ X.length
  · have e : fdC X = fdC (X.take i) ++ fdC (X.drop i) := by rw [← fdC_append, List.take_append_drop]
    rw [congrArg (List.take (i * 2)) e, List.take_append_of_le_length (by rw [fdC_len, List.length_take]; omega)]
    exact (List.take_of_length_le (by rw [fdC_len, List.length_take]; omega)).symm
  · rw [List.take_of_length_le (by omega), List.take_of_length_le (by rw [fdC_len]; omega)]
theorem fdC_drop_at (X : List Fd) (i j : Nat) (u : Value) (h : (fdC (X.drop i))[j]? = some u) : (fdC X)[i * 2 + j]? = some u := by
  by_cases hi : i ≤ X.length
  · have e : fdC X = fdC (X.take i) ++ fdC (X.drop i) := by rw [← fdC_append, List.take_append_drop]
    have hl : (fdC (X.take i)).length = i * 2 := by rw [fdC_len, List.length_take]; omega
    rw [e, List.getElem?_append_right (by omega), hl, Nat.add_sub_cancel_left]
    exact h
  · rw [List.drop_eq_nil_of_le (by omega)] at h
    simp [fdC] at h

theorem grow_list {α : Type} (C : List α) (V R : List α) (k : Nat) (a n : Nat) (ha : a ≤ n) (hn : n + k ≤ C.length) (hV : V.length = k) (hR : R.length = n - a) :
    let C1 := C.take a ++ V ++ C.drop (a + V.length)
    let C2 := C1.take (a + k) ++ R ++ C1.drop (a + k + R.length)
    C1.length = C.length ∧ C2.length = C.length ∧ C2.take (n + k) = C.take a ++ V ++ R := by
  intro C1 C2
  have l1 : C1.length = C.length := by
    show (C.take a ++ V ++ C.drop (a + V.length)).length = _
    simp only [List.length_append, List.length_take, List.length_drop]; omega
  have l2 : C2.length = C.length := by
    show (C1.take (a + k) ++ R ++ C1.drop (a + k + R.length)).length = _
    simp only [List.length_append, List.length_take, List.length_drop]; omega
  refine ⟨l1, l2, ?_⟩
  have e1 : C1.take (a + k) = C.take a ++ V := by
    show (C.take a ++ V ++ C.drop (a + V.length)).take (a + k) = _
    rw [List.take_append_of_le_length (by simp only [List.length_append, List.length_take]; omega), List.take_of_length_le (by simp only [List.length_append, List.length_take]; omega)]
  show (C1.take (a + k) ++ R ++ C1.drop (a + k + R.length)).take (n + k) = _
  rw [e1, List.take_append_of_le_length (by simp only [List.length_append, List.length_take]; omega), List.take_of_length_le (by simp only [List.length_append, List.length_take]; omega)]

end Go.Proofs.YtmpiahahhkimkaaDoor
end
