/-
  Texts that the laws of this seat lean on, one behind the other.
-/
import Derived.Test.YtjcomlklmfeimaaGreatDoorMrgE
import Derived.Test.YtjcomlklmfeimaaGreatDoorMrgM
import Derived.Test.YtjcomlklmfeimaaGreatDoorMrgB
import Derived.Laws.Tables
import Derived.Lib.SplitLaws
import Derived.Lib.CountLaws
import Derived.Test.YtjcomlklmfeimaaGreatDoorMrgD
import Derived.Test.YtjcomlklmfeimaaGreatDoorMrgN
/-
  Plain functions of layer 9, without the program: which fields may be, which values a name has, what dropping and setting leave.
-/
section
namespace Go.Proofs.YtjcomlklmfeimaaGreatDoor
open Go.RowKit

def chkN (L : List Fd) : Int := if 64 < L.length then 4 else if L.any (fun x => !prpF x) then 21 else if L.any lngF then 4 else 0
/-- Has it one of the names? -/
def nmd (names : List (List UInt8)) (x : Fd) : Bool := names.any fun n => sameB x.1 (mkS n)
def alk (x y : Fd) : Bool := sameB x.1 y.1 && (x.2.toList == y.2.toList)
def bthP {α : Type} (p : α → α → Bool) : List α → List α → Bool
  | x :: a, y :: b => p x y && bthP p a b
  | [], [] => true
  | _, _ => false
def bth (L M : List Fd) : Bool := bthP alk L M
theorem bthP_len {α : Type} (p : α → α → Bool) : ∀ (L M : List α), L.length ≠ M.length → bthP p L M = false
  | [], [], h => absurd rfl h
  | [], _ :: _, _ => rfl
  | _ :: _, [], _ => rfl
  | x :: a, y :: b, h => by
    unfold bthP
    rw [bthP_len p a b (fun e => h (by simp [e]))]; simp
theorem bthP_drop {α : Type} (p : α → α → Bool) (L M : List α) (k : Nat) (h : k < L.length) (g : k < M.length) : bthP p (L.drop k) (M.drop k) = (p L[k] M[k] && bthP p (L.drop (k + 1)) (M.drop (k + 1))) := by
  rw [List.drop_eq_getElem_cons h, List.drop_eq_getElem_cons g]; rfl
def fdAll (L : List Fd) (name : ByteArray) : List (List UInt8) := (L.filter fun x => sameB x.1 name).map fun x => x.2.data.toList
def fdGet (L : List Fd) (name : ByteArray) : ByteArray := mkS (Lib.join (fdAll L name) [44, 32])
def fdGot (L : List Fd) (name : ByteArray) : Bool := !(fdAll L name).isEmpty
def fdHas (L : List Fd) (name item : ByteArray) : Bool := (fdAll L name).any fun v => hasL (splO v) item
def fdDrop (L : List Fd) (names : List (List UInt8)) : List Fd := L.filter fun x => !nmd names x
/-- The fields with f put at the place of the first of its name; whether that was done. -/
def setR (f : Fd) : Bool → List Fd → List Fd
  | b, [] => if b then [] else [f]
  | b, x :: r => if sameB x.1 f.1 then (if b then setR f true r else f :: setR f true r) else x :: setR f b r
def fdSet (L : List Fd) (f : Fd) : List Fd := setR f false L

theorem nmd_one (n : ByteArray) (x : Fd) : nmd [n.data.toList] x = sameB x.1 n := by simp [nmd, mkS_self]
theorem nmd_one' (n : ByteArray) : nmd [n.data.toList] = fun x => sameB x.1 n := funext fun x => nmd_one n x
theorem setR_true (f : Fd) : ∀ L : List Fd, setR f true L = L.filter fun x => !sameB x.1 f.1
  | [] => rfl
  | x :: r => by
    unfold setR
    rw [setR_true f r]
    by_cases h : sameB x.1 f.1 = true
    · simp [h]
    · simp [h]
/-- The place of the first field of a name. -/
theorem set_none (f : Fd) : ∀ L : List Fd, (∀ x ∈ L, sameB x.1 f.1 = false) → setR f false L = (L.filter fun x => !sameB x.1 f.1) ++ [f]
  | [], _ => rfl
  | x :: r, h => by
    have h1 := h x (List.mem_cons_self ..)
    unfold setR
    rw [set_none f r fun y hy => h y (List.mem_cons_of_mem _ hy)]
    simp [h1]
theorem set_at (f : Fd) : ∀ (L : List Fd) (i : Nat) (hi : i < L.length), (∀ j (hj : j < i), sameB (L[j]'(by omega)).1 f.1 = false) → sameB L[i].1 f.1 = true →
    i ≤ (L.filter fun x => !sameB x.1 f.1).length ∧ setR f false L = (L.filter fun x => !sameB x.1 f.1).take i ++ [f] ++ (L.filter fun x => !sameB x.1 f.1).drop i
  | [], i, hi, _, _ => absurd hi (by simp)
  | x :: r, 0, _, _, h => by
    simp only [List.getElem_cons_zero] at h
    refine ⟨Nat.zero_le _, ?_⟩
    unfold setR
    rw [setR_true]
    simp [h]
  | x :: r, i + 1, hi, hm, h => by
    have h0 := hm 0 (by omega)
    simp only [List.getElem_cons_zero] at h0
    simp only [List.getElem_cons_succ] at h
    obtain ⟨h1, h2⟩ := set_at f r i (by simpa using hi) (fun j hj => by simpa using hm (j + 1) (by omega)) h
    have e : (x :: r).filter (fun x => !sameB x.1 f.1) = x :: r.filter (fun x => !sameB x.1 f.1) := by simp [h0]
    rw [e]
    refine ⟨by simpa using h1, ?_⟩
    unfold setR
    rw [h2]
    simp [h0]
theorem filter_snoc {α : Type} (p : α → Bool) (l : List α) (x : α) : (l ++ [x]).filter p = if p x then l.filter p ++ [x] else l.filter p := by
  rw [List.filter_append]
  by_cases h : p x = true
  · simp [h]
  · simp [h]
theorem take_fd {α : Type} (L : List α) (k : Nat) (h : k < L.length) : L.take (k + 1) = L.take k ++ [L[k]] := List.take_succ_eq_append_getElem h

end Go.Proofs.YtjcomlklmfeimaaGreatDoor
end

/-
  Plain functions of layer 12, without the program: what a message is, how it is read, printed and checked.
-/
section
namespace Go.Proofs.YtjcomlklmfeimaaGreatDoor
open Go.RowKit

def clS : ByteArray := ⟨#[67, 111, 110, 116, 101, 110, 116, 45, 76, 101, 110, 103, 116, 104]⟩
def teS : ByteArray := ⟨#[84, 114, 97, 110, 115, 102, 101, 114, 45, 69, 110, 99, 111, 100, 105, 110, 103]⟩
def trS : ByteArray := ⟨#[84, 114, 97, 105, 108, 101, 114]⟩
def hoS : ByteArray := ⟨#[72, 111, 115, 116]⟩
def ckS : ByteArray := ⟨#[99, 104, 117, 110, 107, 101, 100]⟩
/-- The framing fields' names. -/
def frm : List (List UInt8) := [clS.data.toList, teS.data.toList, trS.data.toList]
def bodL (c : Int) : Bool := decide (c = 204) || decide (c = 304)

/-! ### The head -/
/-- The lines of a head, and what stands behind it. -/
def hdr : Nat → List (List UInt8) → List UInt8 → Option (List (List UInt8) × List UInt8)
  | 0, _, _ => none
  | m + 1, X, l => match lineL l with
    | none => none
    | some (ln, r) => if ln = [] then some (X, r) else hdr m (X ++ [ln]) r
def hdO (s : ByteArray) : Option (List (List UInt8) × List UInt8) := hdr (s.size + 1) [] s.data.toList
def hdL (s : ByteArray) : List (List UInt8) := match hdO s with | some p => p.1 | none => []
def hdR (s : ByteArray) : ByteArray := match hdO s with | some p => mkS p.2 | none => ⟨#[]⟩
def hdB (s : ByteArray) : Bool := match hdO s with | some p => decide (0 < p.1.length) | none => false
theorem hd_none {s : ByteArray} (h : hdO s = none) : hdL s = [] ∧ hdR s = ⟨#[]⟩ ∧ hdB s = false := by simp [hdL, hdR, hdB, h]
theorem hd_some {s : ByteArray} {X : List (List UInt8)} {r : List UInt8} (h : hdO s = some (X, r)) : hdL s = X ∧ hdR s = mkS r ∧ hdB s = decide (0 < X.length) := by simp [hdL, hdR, hdB, h]

/-! ### Fields of lines -/
def fsE : List (List UInt8) → Int
  | [] => 0
  | x :: r => if flX (mkS x) = 0 then fsE r else flX (mkS x)
def rwE (L : List (List UInt8)) : Int := if 64 < L.length then 4 else fsE L
def rwF (L : List (List UInt8)) : List Fd := if rwE L = 0 then L.map (fun x => flF (mkS x)) else []

/-! ### How many Hosts, which length -/
def hoB (L : List Fd) (v : Int) : Bool := decide ((fdAll L hoS).length = 1) || (decide ((fdAll L hoS).length = 0) && decide (v = 0))
def lnI (n : Int) : List (List UInt8) → Option Int
  | [] => some n
  | x :: r => if numE 10 18 65536 x ≠ 0 then none else if 0 ≤ n ∧ numN 10 18 65536 x ≠ n then none else lnI (numN 10 18 65536 x) r
def lnV (n : Int) : List (List UInt8) → Option Int
  | [] => some n
  | v :: r => match splitL v with
    | none => none
    | some L => match lnI n L with
      | none => none
      | some m => lnV m r
def lnA (V : List (List UInt8)) : Int := match lnV (-1) V with | some n => n | none => 0
def lnB (V : List (List UInt8)) : Bool := match lnV (-1) V with | some n => decide (0 ≤ n) | none => false
theorem ln_none {V : List (List UInt8)} (h : lnV (-1) V = none) : lnA V = 0 ∧ lnB V = false := by simp [lnA, lnB, h]
theorem ln_some {V : List (List UInt8)} {n : Int} (h : lnV (-1) V = some n) : lnA V = n ∧ lnB V = decide (0 ≤ n) := by simp [lnA, lnB, h]

/-! ### The body -/
def teB (T C : List (List UInt8)) (v : Int) : Bool := ((decide (v = 1) && decide (T.length = 1)) && sameB (mkS (T.headD [])) ckS) && decide (C.length = 0)
/-- The body's error, by what Transfer-Encoding and Content-Length there are. -/
def bdE (T C : List (List UInt8)) (s : ByteArray) (v : Int) (op : Bool) : Int :=
  if 0 < T.length then (if teB T C v then (if decE s = 0 then (if decN s = (s.size : Int) then 0 else 22) else decE s) else 22)
  else if 0 < C.length then (if lnB C then (if lnA C < (s.size : Int) then 22 else if (s.size : Int) < lnA C then 6 else 0) else 22)
  else if op then 0 else if s.size = 0 then 0 else 22
def bdB (T C : List (List UInt8)) (s : ByteArray) (v : Int) (op : Bool) : ByteArray := if bdE T C s v op = 0 then (if 0 < T.length then decB s else s) else ⟨#[]⟩
def bodE (L : List Fd) (s : ByteArray) (v : Int) (op : Bool) : Int := bdE (fdAll L teS) (fdAll L clS) s v op
def bodB (L : List Fd) (s : ByteArray) (v : Int) (op : Bool) : ByteArray := bdB (fdAll L teS) (fdAll L clS) s v op

/-! ### Messages -/
structure Rqst where
  m : ByteArray
  t : ByteArray
  v : Int
  f : List Fd
  b : ByteArray
structure Rply where
  c : Int
  r : ByteArray
  v : Int
  f : List Fd
  b : ByteArray
def rq0 : Rqst := ⟨⟨#[]⟩, ⟨#[]⟩, 0, [], ⟨#[]⟩⟩
def rp0 : Rply := ⟨0, ⟨#[]⟩, 0, [], ⟨#[]⟩⟩
def l1S (raw : ByteArray) : ByteArray := mkS ((hdL raw).headD [])
def rsF (raw : ByteArray) : List Fd := rwF (hdL raw).tail
def rsE (raw : ByteArray) : Int := rwE (hdL raw).tail
/-- What ParseRequest answers. -/
def pqE (raw : ByteArray) : Int :=
  if 65536 < raw.size then 4 else if hdB raw = false then 5 else if rqE (l1S raw) ≠ 0 then rqE (l1S raw) else if rsE raw ≠ 0 then rsE raw
  else if hoB (rsF raw) (rqV (l1S raw)) = false then 26 else bodE (rsF raw) (hdR raw) (rqV (l1S raw)) false
def pqR (raw : ByteArray) : Rqst :=
  if pqE raw = 0 then ⟨rqA (l1S raw), rqB (l1S raw), rqV (l1S raw), fdDrop (rsF raw) frm, bodB (rsF raw) (hdR raw) (rqV (l1S raw)) false⟩ else rq0
/-- What ParseReply answers. -/
def heB (meth : ByteArray) (c : Int) : Bool := (meth.toList == [72, 69, 65, 68]) || bodL c
def ppE (raw meth : ByteArray) : Int :=
  if 65536 < raw.size then 4 else if hdB raw = false then 5 else if stE (l1S raw) ≠ 0 then stE (l1S raw) else if stN (l1S raw) < 200 then 20 else if rsE raw ≠ 0 then rsE raw
  else if heB meth (stN (l1S raw)) then (if (hdR raw).size = 0 then 0 else 22) else bodE (rsF raw) (hdR raw) (stV' (l1S raw)) true
def ppR (raw meth : ByteArray) : Rply :=
  if ppE raw meth = 0 then ⟨stN (l1S raw), stB (l1S raw), stV' (l1S raw), fdDrop (rsF raw) frm, if heB meth (stN (l1S raw)) then ⟨#[]⟩ else bodB (rsF raw) (hdR raw) (stV' (l1S raw)) true⟩ else rp0

/-! ### Printed messages -/
def crS : ByteArray := ⟨#[13, 10]⟩
def lnsL (L : List Fd) : List UInt8 := L.flatMap fun x => (lineS x).data.toList ++ [13, 10]
def clH : ByteArray := ⟨#[67, 111, 110, 116, 101, 110, 116, 45, 76, 101, 110, 103, 116, 104, 58, 32]⟩
def clL (b : ByteArray) : List UInt8 := clH.data.toList ++ plainL (b.size : Int) ++ [13, 10]
def pmQ (r : Rqst) : ByteArray := mkS ((prqS r.m r.t r.v).data.toList ++ [13, 10] ++ lnsL r.f ++ (if r.b.size = 0 then [] else clL r.b) ++ [13, 10] ++ r.b.data.toList)
def pmP (r : Rply) (head : Bool) : ByteArray :=
  mkS ((pstS r.c r.r r.v).data.toList ++ [13, 10] ++ lnsL r.f ++ (if bodL r.c then [] else if head && decide (r.b.size = 0) then [] else clL r.b) ++ [13, 10] ++ (if bodL r.c || head then [] else r.b.data.toList))

/-! ### Checks -/
def ftE (L : List Fd) : Int := if chkN L ≠ 0 then chkN L else if (fdDrop L frm).length ≠ L.length then 21 else 0
def lqB (r : Rqst) : Bool := ((rqE (prqS r.m r.t r.v) == 0) && ((rqA (prqS r.m r.t r.v)).toList == r.m.toList)) && ((rqB (prqS r.m r.t r.v)).toList == r.t.toList)
def ckQ (r : Rqst) : Int :=
  if r.v < 0 ∨ 1 < r.v then 20 else if lqB r = false then 20 else if ftE r.f ≠ 0 then ftE r.f else if hoB r.f r.v = false then 26
  else if 65536 < (pmQ r).size then 4 else if r.b.size ≠ 0 ∧ 64 ≤ r.f.length then 4 else 0
def lpB (r : Rply) : Bool := (stE (pstS r.c r.r r.v) == 0) && ((stB (pstS r.c r.r r.v)).toList == r.r.toList)
def ckP (r : Rply) : Int :=
  if (r.v < 0 ∨ 1 < r.v) ∨ (r.c < 200 ∨ 599 < r.c) then 20 else if lpB r = false then 20 else if ftE r.f ≠ 0 then ftE r.f
  else if bodL r.c = true ∧ r.b.size ≠ 0 then 22 else if 65536 < (pmP r false).size then 4 else if bodL r.c = false ∧ 64 ≤ r.f.length then 4 else 0

/-! ### Messages as values -/
def rqC (r : Rqst) (A : Option Addr) (c : Nat) : Array Value := #[.string r.m, .string r.t, .int .i64 r.v, .slice A r.f.length c, .string r.b]
def rpC (r : Rply) (A : Option Addr) (c : Nat) : Array Value := #[.int .i64 r.c, .string r.r, .int .i64 r.v, .slice A r.f.length c, .string r.b]
/-- What lies at A was made since. -/
def FreshA (w : World) (A : Option Addr) : Prop := ∀ ad, A = some ad → w.heap.size ≤ ad.block
theorem FreshA.none_ (w : World) : FreshA w none := fun _ h => by cases h
/-- The answer is a request (a reply) and a code; the fields lie in memory of the call's own. -/
def IsRq (w : World) (r : Rqst) (E : Int) (e : Ending) (w' : World) : Prop := ∃ A c, e = .returned (.tuple #[.agg (rqC r A c), .int .i64 E]) ∧ SlF w' A r.f.length c r.f ∧ FreshA w A ∧ Below w.heap.size w w'
def IsRp (w : World) (r : Rply) (E : Int) (e : Ending) (w' : World) : Prop := ∃ A c, e = .returned (.tuple #[.agg (rpC r A c), .int .i64 E]) ∧ SlF w' A r.f.length c r.f ∧ FreshA w A ∧ Below w.heap.size w w'
theorem OwnF.fresh {w : World} {base e n c : Nat} {A : Option Addr} {X : List Fd} (h : OwnF w base e (.slice A n c) X) : ∀ ad, A = some ad → base ≤ ad.block := fun ad ha => by
  rcases h.2 with ⟨h1, _⟩ | ⟨g, cap, cur, h1, h2, _⟩
  · cases h1; cases ha
  · cases h1; cases ha; exact h2
theorem add_blk (ad : Addr) (k : Nat) : (ad.add k).block = ad.block := by
  unfold Addr.add
  split <;> rfl
theorem SlF.setRow {w : World} {A : Option Addr} {n c : Nat} {L : List Fd} (h : SlF w A n c L) {g : Nat} (hg : ∀ ad, A = some ad → ad.block ≠ g) (cs : Array Value) : SlF (w.setRow g cs) A n c L :=
  ⟨h.len, h.cap, h.cm, h.nil, fun hn => by
    obtain ⟨ad, e, hc⟩ := h.at_ hn
    have hne := hg ad e
    exact ⟨ad, e, fun j x hx => ⟨by rw [cell_setRow_other _ _ _ _ (by rw [add_blk]; exact hne)]; exact (hc j x hx).1, by rw [cell_setRow_other _ _ _ _ (by rw [add_blk]; exact hne)]; exact (hc j x hx).2⟩⟩, h.sz⟩

end Go.Proofs.YtjcomlklmfeimaaGreatDoor
end

/-
  Plain facts that the walks of package message lean on: a head divided by the library's Cut and Split.
-/
section
namespace Go.Proofs.YtjcomlklmfeimaaGreatDoor
open Go.RowKit

theorem pre2_iff (l : List UInt8) : [13, 10].isPrefixOf l = true ↔ ∃ r, l = 13 :: 10 :: r := by
  match l with
  | [] => simp [List.isPrefixOf]
  | [c] => simp [List.isPrefixOf]
  | c :: d :: r =>
    simp only [List.isPrefixOf, Bool.and_true, Bool.and_eq_true, beq_iff_eq, List.cons.injEq]
    constructor
    · rintro ⟨h1, h2⟩; exact ⟨r, h1.symm, h2.symm, rfl⟩
    · rintro ⟨_, h1, h2, _⟩; exact ⟨h1.symm, h2.symm⟩
/-- Where an empty line stands behind another one. -/
theorem index_two : ∀ l : List UInt8, Lib.index l [13, 10, 13, 10] = (match lineL l with
    | none => -1
    | some p => if [13, 10].isPrefixOf p.2 = true then (p.1.length : Int) else if Lib.index p.2 [13, 10, 13, 10] = -1 then -1 else (p.1.length : Int) + 2 + Lib.index p.2 [13, 10, 13, 10])
  | [] => rfl
  | [c] => by simp [Lib.index, lineL, List.isPrefixOf]
  | c :: d :: r => by
    by_cases e : c = 13 ∧ d = 10
    · rw [e.1, e.2, lineL_hit]
      have h1 : [13, 10, 13, 10].isPrefixOf (13 :: 10 :: r) = [13, 10].isPrefixOf r := by simp [List.isPrefixOf]
      have h2 : [13, 10, 13, 10].isPrefixOf (10 :: r) = false := by simp [List.isPrefixOf]
      rw [Lib.index, h1]
      simp only
      by_cases hp : [13, 10].isPrefixOf r = true
      · rw [if_pos hp, if_pos hp]; rfl
      · rw [if_neg hp, if_neg hp, Lib.index, h2]
        have hge := Lib.index_ge r [13, 10, 13, 10]
        by_cases hi : Lib.index r [13, 10, 13, 10] = -1
        · rw [hi]; rfl
        · have a1 : (Lib.index r [13, 10, 13, 10] == -1) = false := by rw [beq_eq_false_iff_ne]; exact hi
          have a2 : (Lib.index r [13, 10, 13, 10] + 1 == -1) = false := by rw [beq_eq_false_iff_ne]; omega
          rw [a1, if_neg hi]
          simp only [Bool.false_eq_true, if_false, a2, List.length_nil]
          omega
    · have hp : [13, 10, 13, 10].isPrefixOf (c :: d :: r) = false := by
        simp only [List.isPrefixOf, Bool.and_eq_false_iff, beq_eq_false_iff_ne]
        by_cases h1 : c = 13
        · exact .inr (.inl (fun h => e ⟨h1, h.symm⟩))
        · exact .inl (fun h => h1 h.symm)
      rw [Lib.index, hp, index_two (d :: r), lineL_step e]
      cases lineL (d :: r) with
      | none => rfl
      | some p =>
        have hge := Lib.index_ge p.2 [13, 10, 13, 10]
        simp only [Option.map_some, Bool.false_eq_true, if_false]
        by_cases hq : [13, 10].isPrefixOf p.2 = true
        · have : ((p.1.length : Int) == -1) = false := by rw [beq_eq_false_iff_ne]; omega
          rw [if_pos hq, if_pos hq, this]
          simp
        · rw [if_neg hq, if_neg hq]
          by_cases hi : Lib.index p.2 [13, 10, 13, 10] = -1
          · rw [if_pos hi, if_pos hi]; rfl
          · have : ((p.1.length : Int) + 2 + Lib.index p.2 [13, 10, 13, 10] == -1) = false := by rw [beq_eq_false_iff_ne]; omega
            rw [if_neg hi, if_neg hi, this]
            simp only [Bool.false_eq_true, if_false, List.length_cons]
            omega
/-- A line's end is where it is, whatever follows. -/
theorem line_put : ∀ {l ln r : List UInt8}, lineL l = some (ln, r) → ∀ t, lineL (ln ++ 13 :: 10 :: t) = some (ln, t)
  | [], _, _, h, _ => by cases h
  | [_], _, _, h, _ => by cases h
  | c :: d :: q, ln, r, h, t => by
    by_cases e : c = 13 ∧ d = 10
    · rw [e.1, e.2, lineL_hit] at h
      cases h
      exact lineL_hit t
    · rw [lineL_step e, Option.map_eq_some_iff] at h
      obtain ⟨⟨a, b⟩, hp, he⟩ := h
      simp only [Prod.mk.injEq] at he
      obtain ⟨rfl, rfl⟩ := he
      have ih := line_put hp t
      have hf := lineL_form hp
      match a, hf, ih with
      | [], hf, ih =>
        obtain ⟨rfl, hq⟩ := List.cons.inj hf
        show lineL (c :: 13 :: 10 :: t) = _
        rw [lineL_step (by rintro ⟨_, h⟩; cases h), lineL_hit]; rfl
      | x :: a, hf, ih =>
        obtain ⟨rfl, hq⟩ := List.cons.inj hf
        show lineL (c :: d :: (a ++ 13 :: 10 :: t)) = _
        rw [lineL_step e, show d :: (a ++ 13 :: 10 :: t) = d :: a ++ 13 :: 10 :: t from rfl, ih]; rfl
theorem line_in : ∀ {l ln r : List UInt8}, lineL l = some (ln, r) → lineL ln = none
  | [], _, _, h => by cases h
  | [_], _, _, h => by cases h
  | c :: d :: q, ln, r, h => by
    by_cases e : c = 13 ∧ d = 10
    · rw [e.1, e.2, lineL_hit] at h
      cases h
      rfl
    · rw [lineL_step e, Option.map_eq_some_iff] at h
      obtain ⟨⟨a, b⟩, hp, he⟩ := h
      simp only [Prod.mk.injEq] at he
      obtain ⟨rfl, rfl⟩ := he
      have ih := line_in hp
      have hf := lineL_form hp
      match a, hf, ih with
      | [], hf, ih => rfl
      | x :: a, hf, ih =>
        obtain ⟨rfl, hq⟩ := List.cons.inj hf
        rw [lineL_step e, ih]; rfl
/-- The library's split at line ends. -/
def spC (s : List UInt8) : List (List UInt8) := Lib.splitK [13, 10] 0 (Lib.count s [13, 10]) s
theorem spC_none {s : List UInt8} (h : lineL s = none) : spC s = [s] := by
  have e := index_crlf s
  rw [h] at e
  unfold spC
  rw [Lib.count_miss e]; rfl
theorem spC_some {s ln r : List UInt8} (h : lineL s = some (ln, r)) : spC s = ln :: spC r := by
  have e := index_crlf s
  rw [h] at e
  have e' : Lib.index s [13, 10] = (ln.length : Int) := e
  have hd : s.drop (ln.length + ([13, 10] : List UInt8).length) = r := by
    rw [lineL_form h]; simp
  have ht : s.take ln.length = ln := by rw [lineL_form h]; simp
  unfold spC
  rw [Lib.count_hit (by simp) e', hd, Nat.add_comm 1, Lib.splitK, e', if_neg (by simp), show ((ln.length : Int)).toNat = ln.length by omega, Nat.add_zero, ht, hd]
/-- A head divided at once, and line by line. -/
theorem hdr_two : ∀ (n : Nat) (l : List UInt8), l.length ≤ n → ¬ [13, 10].isPrefixOf l = true → ∀ (F : Nat) (X : List (List UInt8)), l.length < F →
    hdr F X l = if Lib.index l [13, 10, 13, 10] = -1 then none else some (X ++ spC (l.take (Lib.index l [13, 10, 13, 10]).toNat), l.drop ((Lib.index l [13, 10, 13, 10]).toNat + 4))
  | 0, l, hn, hp, F, X, hF => by
    obtain rfl : l = [] := List.eq_nil_of_length_eq_zero (by omega)
    match F, hF with
    | F + 1, _ => rfl
  | n + 1, l, hn, hp, F + 1, X, hF => by
    have e := index_two l
    unfold hdr
    cases hl : lineL l with
    | none => rw [hl] at e; rw [e]; rfl
    | some p =>
      obtain ⟨ln, r⟩ := p
      rw [hl] at e
      simp only at e
      have hf := lineL_form hl
      have hlen := congrArg List.length hf
      rw [List.length_append, List.length_cons, List.length_cons] at hlen
      have hln : ln ≠ [] := fun h0 => hp (by rw [hf, h0, pre2_iff]; exact ⟨r, rfl⟩)
      simp only [if_neg hln]
      by_cases hq : [13, 10].isPrefixOf r = true
      · rw [if_pos hq] at e
        obtain ⟨t, rfl⟩ := (pre2_iff r).1 hq
        rw [List.length_cons, List.length_cons] at hlen
        obtain ⟨F, rfl⟩ : ∃ k, F = k + 1 := ⟨F - 1, by omega⟩
        unfold hdr
        rw [lineL_hit, e]
        simp only [if_true]
        rw [if_neg (by omega), show ((ln.length : Int)).toNat = ln.length by omega]
        have ht : l.take ln.length = ln := by rw [hf]; simp
        have hd : l.drop (ln.length + 4) = t := by rw [hf]; simp
        rw [ht, hd, spC_none (line_in hl)]
      · rw [if_neg hq] at e
        rw [hdr_two n r (by omega) hq F (X ++ [ln]) (by omega)]
        by_cases hi : Lib.index r [13, 10, 13, 10] = -1
        · rw [if_pos hi] at e
          rw [if_pos hi, if_pos e]
        · rw [if_neg hi] at e
          have hge := Lib.index_ge r [13, 10, 13, 10]
          obtain ⟨j, hj⟩ : ∃ j : Nat, Lib.index r [13, 10, 13, 10] = j := ⟨_, (Int.toNat_of_nonneg (by omega)).symm⟩
          rw [if_neg hi, if_neg (by omega), e, hj, show ((j : Int)).toNat = j by omega, show ((ln.length : Int) + 2 + (j : Int)).toNat = ln.length + (j + 2) by omega]
          have ht : l.take (ln.length + (j + 2)) = ln ++ 13 :: 10 :: r.take j := by
            rw [hf, List.take_length_add_append]; rfl
          have hd : l.drop (ln.length + (j + 2) + 4) = r.drop (j + 4) := by
            rw [hf, Nat.add_assoc, List.drop_length_add_append]; rfl
          rw [ht, hd, spC_some (line_put hl _), List.append_assoc]
          rfl

/-- The parts that divide answers. -/
def dvO (s : ByteArray) : Bool := decide (0 ≤ Lib.index s.data.toList [13, 10, 13, 10])
def dvT (s : ByteArray) : List UInt8 := (Lib.cut s.data.toList [13, 10, 13, 10]).1
theorem dv_bad {s : ByteArray} (h : dvO s = false ∨ [13, 10].isPrefixOf s.data.toList = true) : hdB s = false := by
  by_cases hp : [13, 10].isPrefixOf s.data.toList = true
  · obtain ⟨r, hr⟩ := (pre2_iff _).1 hp
    have : hdO s = some ([], r) := by
      unfold hdO
      rw [hr, hdr, lineL_hit]; rfl
    rw [(hd_some this).2.2]; rfl
  · have hi : Lib.index s.data.toList [13, 10, 13, 10] = -1 := by
      have := Lib.index_ge s.data.toList [13, 10, 13, 10]
      have h2 := h.resolve_right hp
      unfold dvO at h2
      rw [decide_eq_false_iff_not] at h2
      omega
    have : hdO s = none := by
      unfold hdO
      rw [hdr_two _ _ (Nat.le_refl _) hp _ _ (by rw [← Lib.size_eq]; omega), if_pos hi]
    rw [(hd_none this).2.2]
theorem spC_ne (l : List UInt8) : ∃ x tl, spC l = x :: tl := by
  cases h : lineL l with
  | none => exact ⟨l, [], spC_none h⟩
  | some p => obtain ⟨ln, r⟩ := p; exact ⟨ln, spC r, spC_some h⟩
theorem dv_ok {s : ByteArray} (h : dvO s = true) (hp : ¬ [13, 10].isPrefixOf s.data.toList = true) :
    hdB s = true ∧ hdL s = spC (dvT s) ∧ Lib.cut s.data.toList [13, 10, 13, 10] = (dvT s, (hdR s).data.toList, true) := by
  unfold dvO at h
  rw [decide_eq_true_eq] at h
  have hO : hdO s = some (spC (dvT s), s.data.toList.drop ((Lib.index s.data.toList [13, 10, 13, 10]).toNat + 4)) := by
    unfold hdO
    rw [hdr_two _ _ (Nat.le_refl _) hp _ _ (by rw [← Lib.size_eq]; omega), if_neg (by omega), List.nil_append]
    unfold dvT Lib.cut
    rw [if_pos h]
  obtain ⟨h1, h2, h3⟩ := hd_some hO
  obtain ⟨x, tl, hx⟩ := spC_ne (dvT s)
  refine ⟨by rw [h3, hx]; simp, h1, ?_⟩
  rw [h2, mkS_list]
  unfold dvT Lib.cut
  rw [if_pos h]; rfl
theorem dvT_le (s : ByteArray) : (dvT s).length ≤ s.size := by
  unfold dvT Lib.cut
  split
  · rw [List.length_take, ← Lib.size_eq]; exact Nat.min_le_right _ _
  · rw [Lib.size_eq]; exact Nat.le_refl _

end Go.Proofs.YtjcomlklmfeimaaGreatDoor
end

/-
  The memory of package message's message being parsed: its head's lines in memory made ahead of it, its fields in memory made behind it.
-/
section
namespace Go.Proofs.YtjcomlklmfeimaaGreatDoor
open Go.RowKit

/-- Block P is a message being parsed. -/
structure Msg (w : World) (P : Nat) (st : ByteArray) (A : Option Addr) (n c : Nat) (L : List (List UInt8)) (mi : Int) (v : Value) (X : List Fd) (rs : ByteArray) : Prop where
  row : w.heap[P]? = some (.cells #[.string st, .slice A n c, .int .i64 mi, v, .string rs] 61 (0, 0))
  lines : SlS w A n c L
  lt : ∀ ad, A = some ad → ad.block < P
  own : OwnF w (P + 1) 105 v X

section
variable {w w' : World} {P : Nat} {st : ByteArray} {A : Option Addr} {n c : Nat} {L : List (List UInt8)} {mi : Int} {v : Value} {X : List Fd} {rs : ByteArray}
theorem Msg.size (h : Msg w P st A n c L mi v X rs) : P < w.heap.size := (Array.getElem?_eq_some_iff.1 h.row).1
theorem Msg.below (h : Msg w P st A n c L mi v X rs) (hb : Below w.heap.size w w') : Msg w' P st A n c L mi v X rs :=
  ⟨(hb.block P h.size).trans h.row, h.lines.below hb, h.lt, h.own.below hb⟩
theorem Msg.drew (h : Msg w P st A n c L mi v X rs) : Msg w.drew P st A n c L mi v X rs := h.below (Below.refl _ _).drew
/-- The cells. -/
theorem Msg.cells (h : Msg w P st A n c L mi v X rs) : w.cell? ⟨P, 0, none⟩ = some (.string st) ∧ w.cell? ⟨P, 1, none⟩ = some (.slice A n c) ∧ w.cell? ⟨P, 2, none⟩ = some (.int .i64 mi) ∧ w.cell? ⟨P, 3, none⟩ = some v ∧ w.cell? ⟨P, 4, none⟩ = some (.string rs)
    ∧ (∀ j, w.frozen? ⟨P, j, none⟩ = false) := by
  have hg := h.row
  refine ⟨?_, ?_, ?_, ?_, ?_, fun j => by simp [World.frozen?, hg]⟩ <;> (rw [cell_of_row w P _ _ _ _ hg]; rfl)
/-- The fields are set. -/
theorem Msg.fields {v' : Value} {Y : List Fd} (h : Msg w P st A n c L mi v X rs) (hb : Below (P + 1) w w') (ho : OwnF w' (P + 1) 105 v' Y) : Msg (w'.setCell ⟨P, 3, none⟩ v') P st A n c L mi v' Y rs := by
  have hg' := (hb.block P (by omega)).trans h.row
  have hl : SlS w' A n c L := ⟨h.lines.len, h.lines.cap, h.lines.cm, h.lines.nil, fun hn => by
    obtain ⟨ad, e, hc⟩ := h.lines.at_ hn
    have := h.lt ad e
    exact ⟨ad, e, fun j x hx => (World.cell?_of_block (w := w) (hb.block _ (by rw [add_blk]; omega))).trans (hc j x hx)⟩⟩
  refine ⟨?_, ⟨hl.len, hl.cap, hl.cm, hl.nil, fun hn => ?_⟩, h.lt, ?_⟩
  · simp [World.setCell, Array.getElem?_modify, hg']
  · obtain ⟨ad, e, hc⟩ := hl.at_ hn
    have := h.lt ad e
    refine ⟨ad, e, fun j x hx => ?_⟩
    rw [World.cell?_setCell_other _ _ _ _ (by intro h2; have := congrArg Addr.block h2; rw [add_blk] at this; simp only at this; omega)]
    exact hc j x hx
  · refine ⟨ho.1, ?_⟩
    rcases ho.2 with h2 | ⟨g2, cap, cur, h1, h2, h3, h4, h5, h6, h7⟩
    · exact .inl h2
    · exact .inr ⟨g2, cap, cur, h1, h2, by rw [Below.heap_setCell _ _ _ _ (by simp only; omega)]; exact h3, h4, h5, h6, h7⟩
/-- The version is set. -/
theorem Msg.minor (h : Msg w P st A n c L mi v X rs) (m : Int) : Msg (w.setCell ⟨P, 2, none⟩ (.int .i64 m)) P st A n c L m v X rs := by
  refine ⟨?_, ⟨h.lines.len, h.lines.cap, h.lines.cm, h.lines.nil, fun hn => ?_⟩, h.lt, ?_⟩
  · simp [World.setCell, Array.getElem?_modify, h.row]
  · obtain ⟨ad, e, hc⟩ := h.lines.at_ hn
    have := h.lt ad e
    refine ⟨ad, e, fun j x hx => ?_⟩
    rw [World.cell?_setCell_other _ _ _ _ (by intro h2; have := congrArg Addr.block h2; rw [add_blk] at this; simp only at this; omega)]
    exact hc j x hx
  · refine ⟨h.own.1, ?_⟩
    rcases h.own.2 with h2 | ⟨g2, cap, cur, h1, h2, h3, h4, h5, h6, h7⟩
    · exact .inl h2
    · exact .inr ⟨g2, cap, cur, h1, h2, by rw [Below.heap_setCell _ _ _ _ (by simp only; omega)]; exact h3, h4, h5, h6, h7⟩
/-- Just made. -/
theorem Msg.made (h : SlS w A n c L) (hlt : ∀ ad, A = some ad → ad.block < w.heap.size) (st rs : ByteArray) : Msg (w.alloc (.cells #[.string st, .slice A n c, .int .i64 0, .slice none 0 0, .string rs] 61)) w.heap.size st A n c L 0 (.slice none 0 0) [] rs :=
  ⟨heap_alloc_new w _, h.alloc _, hlt, OwnF.nil _ _ _⟩
end

end Go.Proofs.YtjcomlklmfeimaaGreatDoor
end
