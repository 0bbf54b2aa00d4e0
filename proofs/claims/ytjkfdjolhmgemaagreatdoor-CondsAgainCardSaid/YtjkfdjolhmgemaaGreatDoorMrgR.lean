/-
  Texts that the laws of this seat lean on, one behind the other.
-/
import Derived.Test.YtjkfdjolhmgemaaGreatDoorMrgF
import Derived.Test.YtjkfdjolhmgemaaGreatDoorMrgQ
import Derived.Test.YtjkfdjolhmgemaaGreatDoorMrgB
import Derived.Test.YtjkfdjolhmgemaaGreatDoorMrgO
import Derived.Test.YtjkfdjolhmgemaaGreatDoorMrgA
import Derived.Test.YtjkfdjolhmgemaaGreatDoorMrgG
import Derived.Test.YtjkfdjolhmgemaaGreatDoorMrgC
import Derived.Laws.Tables
import Derived.Shelf.Abstract
set_option linter.unusedSimpArgs false
set_option linter.unusedVariables false
/-
  Plain functions of layer 9, without the program: which fields may be, which values a name has, what dropping and setting leave.
-/
section
namespace Go.Proofs.YtjkfdjolhmgemaaGreatDoor
open Go.RowKit

def chkN (L : List Fd) : Int := if 64 < L.length then 4 else if L.any (fun x => !prpF x) then 21 else if L.any lngF then 4 else 0
/-- Has it one of the names? -/
def nmd (names : List (List UInt8)) (x : Fd) : Bool := names.any fun n => sameB x.1 (mkS n)
def alk (x y : Fd) : Bool := sameB x.1 y.1 && (x.2.toList == y.2.toList)
def bthP {α : Type} (p : α → α → Bool) : List α → List α → Bool
  | x :: a, y :: b => p x y && bthP p a b
  | [], [] => true
  | _, _ => false
def bth (L M : List Fd) : Bool := bthP alk L M
theorem bthP_len {α : Type} (p : α → α → Bool) : ∀ (L M : List α), L.length ≠ M.length → bthP p L M = false
  | [], [], h => absurd rfl h
  | [], _ :: _, _ => rfl
  | _ :: _, [], _ => rfl
  | x :: a, y :: b, h => by
    unfold bthP
    rw [bthP_len p a b (fun e => h (by simp [e]))]; simp
theorem bthP_drop {α : Type} (p : α → α → Bool) (L M : List α) (k : Nat) (h : k < L.length) (g : k < M.length) : bthP p (L.drop k) (M.drop k) = (p L[k] M[k] && bthP p (L.drop (k + 1)) (M.drop (k + 1))) := by
  rw [List.drop_eq_getElem_cons h, List.drop_eq_getElem_cons g]; rfl
def fdAll (L : List Fd) (name : ByteArray) : List (List UInt8) := (L.filter fun x => sameB x.1 name).map fun x => x.2.data.toList
def fdGet (L : List Fd) (name : ByteArray) : ByteArray := mkS (Lib.join (fdAll L name) [44, 32])
def fdGot (L : List Fd) (name : ByteArray) : Bool := !(fdAll L name).isEmpty
def fdHas (L : List Fd) (name item : ByteArray) : Bool := (fdAll L name).any fun v => hasL (splO v) item
def fdDrop (L : List Fd) (names : List (List UInt8)) : List Fd := L.filter fun x => !nmd names x
/-- The fields with f put at the place of the first of its name; whether that was done. -/
def setR (f : Fd) : Bool → List Fd → List Fd
  | b, [] => if b then [] else [f]
  | b, x :: r => if sameB x.1 f.1 then (if b then setR f true r else f :: setR f true r) else x :: setR f b r
def fdSet (L : List Fd) (f : Fd) : List Fd := setR f false L

theorem nmd_one (n : ByteArray) (x : Fd) : nmd [n.data.toList] x = sameB x.1 n := by simp [nmd, mkS_self]
theorem nmd_one' (n : ByteArray) : nmd [n.data.toList] = fun x => sameB x.1 n := funext fun x => nmd_one n x
theorem filter_snoc {α : Type} (p : α → Bool) (l : List α) (x : α) : (l ++ [x]).filter p = if p x then l.filter p ++ [x] else l.filter p := by
  rw [List.filter_append]
  by_cases h : p x = true
  · simp [h]
  · simp [h]
theorem take_fd {α : Type} (L : List α) (k : Nat) (h : k < L.length) : L.take (k + 1) = L.take k ++ [L[k]] := List.take_succ_eq_append_getElem h

end Go.Proofs.YtjkfdjolhmgemaaGreatDoor
end

/-
  Plain functions of layer 13, without the program: directives, what they say, how they are printed.
-/
section
namespace Go.Proofs.YtjkfdjolhmgemaaGreatDoor
open Go.RowKit

def ccS : ByteArray := ⟨#[67, 97, 99, 104, 101, 45, 67, 111, 110, 116, 114, 111, 108]⟩
def prS : ByteArray := ⟨#[80, 114, 97, 103, 109, 97]⟩
def nsS : ByteArray := ⟨#[110, 111, 45, 115, 116, 111, 114, 101]⟩
def ncS : ByteArray := ⟨#[110, 111, 45, 99, 97, 99, 104, 101]⟩
def pvS : ByteArray := ⟨#[112, 114, 105, 118, 97, 116, 101]⟩
def puS : ByteArray := ⟨#[112, 117, 98, 108, 105, 99]⟩
def mrS : ByteArray := ⟨#[109, 117, 115, 116, 45, 114, 101, 118, 97, 108, 105, 100, 97, 116, 101]⟩
def xrS : ByteArray := ⟨#[112, 114, 111, 120, 121, 45, 114, 101, 118, 97, 108, 105, 100, 97, 116, 101]⟩
def oiS : ByteArray := ⟨#[111, 110, 108, 121, 45, 105, 102, 45, 99, 97, 99, 104, 101, 100]⟩
def maS : ByteArray := ⟨#[109, 97, 120, 45, 97, 103, 101]⟩
def smS : ByteArray := ⟨#[115, 45, 109, 97, 120, 97, 103, 101]⟩
def mfS : ByteArray := ⟨#[109, 105, 110, 45, 102, 114, 101, 115, 104]⟩
def maE : ByteArray := ⟨#[109, 97, 120, 45, 97, 103, 101, 61]⟩
def smE : ByteArray := ⟨#[115, 45, 109, 97, 120, 97, 103, 101, 61]⟩
def mfE : ByteArray := ⟨#[109, 105, 110, 45, 102, 114, 101, 115, 104, 61]⟩

/-- P13.2. -/
def leaN (a b : Int) : Int := if a < 0 ∨ b < 0 then max (max a b) (-1) else min a b
/-- The directives of a value; of all values. -/
abbrev Dv := List UInt8 × List UInt8
def dvO (e : List UInt8) : Option Dv := if parE (mkS e) = 0 then some ((parN (mkS e)).data.toList, (parV (mkS e)).data.toList) else none
def dvV (v : List UInt8) : List Dv := (splO v).filterMap dvO
def dvs (V : List (List UInt8)) : List Dv := V.flatMap dvV
def fnV (V : List (List UInt8)) : Bool := V.all fun v => decide (splE v = 0)
def hasD (D : List Dv) (nm : ByteArray) : Bool := D.any fun d => d.1 == nm.data.toList
def lstS (nm : ByteArray) (n : Int) (d : Dv) : Int := if d.1 == nm.data.toList then leaN n (secN d.2) else n
def grtS (nm : ByteArray) (n : Int) (d : Dv) : Int := if d.1 == nm.data.toList then max n (if secB d.2 then secN d.2 else 2147483648) else n
def lstD (D : List Dv) (nm : ByteArray) : Int := D.foldl (lstS nm) (-1)
def grtD (D : List Dv) (nm : ByteArray) : Int := D.foldl (grtS nm) (-1)
structure Ctl where
  ns : Bool
  nc : Bool
  pv : Bool
  pu : Bool
  mc : Bool
  oi : Bool
  ma : Int
  sh : Int
  mf : Int
def ctC (c : Ctl) : Array Value := #[.bool c.ns, .bool c.nc, .bool c.pv, .bool c.pu, .bool c.mc, .bool c.oi, .int .i64 c.ma, .int .i64 c.sh, .int .i64 c.mf]
def ctD (D : List Dv) (fine : Bool) : Ctl := ⟨!fine || hasD D nsS, !fine || hasD D ncS, hasD D pvS, hasD D puS, hasD D mrS || hasD D xrS, hasD D oiS, lstD D maS, lstD D smS, grtD D mfS⟩
def ctP (L : List Fd) : Ctl := ctD (dvs (fdAll L ccS)) (fnV (fdAll L ccS))
def ctA (L : List Fd) : Ctl := if (fdAll L ccS).length = 0 ∧ fdHas L prS ncS = true then { ctP L with nc := true } else ctP L
/-- Printed. -/
def ctL (c : Ctl) : List (List UInt8) :=
  (if c.ns then [nsS.data.toList] else []) ++ (if c.nc then [ncS.data.toList] else []) ++ (if c.pv then [pvS.data.toList] else []) ++ (if c.pu then [puS.data.toList] else []) ++ (if c.mc then [mrS.data.toList] else []) ++ (if c.oi then [oiS.data.toList] else []) ++
  (if 0 ≤ c.ma then [maE.data.toList ++ plainL c.ma] else []) ++ (if 0 ≤ c.sh then [smE.data.toList ++ plainL c.sh] else []) ++ (if 0 ≤ c.mf then [mfE.data.toList ++ plainL c.mf] else [])
def ctS (c : Ctl) : ByteArray := mkS (Lib.join (ctL c) [44, 32])

end Go.Proofs.YtjkfdjolhmgemaaGreatDoor
end

/-
  Plain functions of layer 15, without the program: the order of texts, names in order, what a request has of names.
-/
section
namespace Go.Proofs.YtjkfdjolhmgemaaGreatDoor
open Go.RowKit

/-- Is a text less than another one, byte by byte? -/
def lesL : List UInt8 → List UInt8 → Bool
  | a :: x, b :: y => if a ≠ b then decide (a.toNat < b.toNat) else lesL x y
  | [], _ :: _ => true
  | _, [] => false
/-- A name among others in order, once. -/
def putL (s : List UInt8) : List (List UInt8) → List (List UInt8)
  | [] => [s]
  | x :: r => if lesL x s then x :: putL s r else if x = s then x :: r else s :: x :: r
/-- The names of one list's elements; none if one may not be a name. -/
def nmE (out : List (List UInt8)) : List (List UInt8) → Option (List (List UInt8))
  | [] => some out
  | e :: r => if e = [42] ∨ (e.isEmpty || !allB tokB e) then none else nmE (putL (lowL e) out) r
def nmV (out : List (List UInt8)) : List (List UInt8) → Option (List (List UInt8))
  | [] => some out
  | v :: r => match splitL v with
    | none => none
    | some E => match nmE out E with
      | none => none
      | some o => nmV o r
def vaS : ByteArray := ⟨#[86, 97, 114, 121]⟩
def namO (L : List Fd) : Option (List (List UInt8)) := nmV [] (fdAll L vaS)
def namL (L : List Fd) : List (List UInt8) := (namO L).getD []
def namB (L : List Fd) : Bool := (namO L).isSome
/-- One blank in the place of blanks side by side. -/
def sglL (p : Bool) : List UInt8 → List UInt8
  | [] => []
  | c :: r => if blkU c then (if p then sglL true r else 32 :: sglL true r) else c :: sglL false r

def pkOf (L : List Fd) (name : List UInt8) : Pk :=
  ⟨mkS name, !(fdAll L (mkS name)).isEmpty, mkS (Lib.join ((fdAll L (mkS name)).map (sglL false)) [44, 32])⟩
def pksL (N : List (List UInt8)) (L : List Fd) : List Pk := N.map (pkOf L)
def pkE (x y : Pk) : Bool := (x.n.toList == y.n.toList) && (x.h == y.h) && (x.v.toList == y.v.toList)
def pksB : List Pk → List Pk → Bool
  | x :: a, y :: b => pkE x y && pksB a b
  | [], [] => true
  | _, _ => false
def pkM (p : List Pk) (L : List Fd) : Bool := pksB (pksL (p.map fun x => x.n.data.toList) L) p

end Go.Proofs.YtjkfdjolhmgemaaGreatDoor
end

/-
  Plain functions of layer 12, without the program: what a message is, how it is read, printed and checked.
-/
section
namespace Go.Proofs.YtjkfdjolhmgemaaGreatDoor
open Go.RowKit

def clS : ByteArray := ⟨#[67, 111, 110, 116, 101, 110, 116, 45, 76, 101, 110, 103, 116, 104]⟩
def teS : ByteArray := ⟨#[84, 114, 97, 110, 115, 102, 101, 114, 45, 69, 110, 99, 111, 100, 105, 110, 103]⟩
def trS : ByteArray := ⟨#[84, 114, 97, 105, 108, 101, 114]⟩
def hoS : ByteArray := ⟨#[72, 111, 115, 116]⟩
def ckS : ByteArray := ⟨#[99, 104, 117, 110, 107, 101, 100]⟩
/-- The framing fields' names. -/
def frm : List (List UInt8) := [clS.data.toList, teS.data.toList, trS.data.toList]
def bodL (c : Int) : Bool := decide (c = 204) || decide (c = 304)

/-! ### The head -/
/-- The lines of a head, and what stands behind it. -/
def hdr : Nat → List (List UInt8) → List UInt8 → Option (List (List UInt8) × List UInt8)
  | 0, _, _ => none
  | m + 1, X, l => match lineL l with
    | none => none
    | some (ln, r) => if ln = [] then some (X, r) else hdr m (X ++ [ln]) r
def hdO (s : ByteArray) : Option (List (List UInt8) × List UInt8) := hdr (s.size + 1) [] s.data.toList
def hdL (s : ByteArray) : List (List UInt8) := match hdO s with | some p => p.1 | none => []
def hdR (s : ByteArray) : ByteArray := match hdO s with | some p => mkS p.2 | none => ⟨#[]⟩
def hdB (s : ByteArray) : Bool := match hdO s with | some p => decide (0 < p.1.length) | none => false
/-! ### Fields of lines -/
def fsE : List (List UInt8) → Int
  | [] => 0
  | x :: r => if flX (mkS x) = 0 then fsE r else flX (mkS x)
def rwE (L : List (List UInt8)) : Int := if 64 < L.length then 4 else fsE L
def rwF (L : List (List UInt8)) : List Fd := if rwE L = 0 then L.map (fun x => flF (mkS x)) else []

/-! ### How many Hosts, which length -/
def hoB (L : List Fd) (v : Int) : Bool := decide ((fdAll L hoS).length = 1) || (decide ((fdAll L hoS).length = 0) && decide (v = 0))
def lnI (n : Int) : List (List UInt8) → Option Int
  | [] => some n
  | x :: r => if numE 10 18 65536 x ≠ 0 then none else if 0 ≤ n ∧ numN 10 18 65536 x ≠ n then none else lnI (numN 10 18 65536 x) r
def lnV (n : Int) : List (List UInt8) → Option Int
  | [] => some n
  | v :: r => match splitL v with
    | none => none
    | some L => match lnI n L with
      | none => none
      | some m => lnV m r
def lnA (V : List (List UInt8)) : Int := match lnV (-1) V with | some n => n | none => 0
def lnB (V : List (List UInt8)) : Bool := match lnV (-1) V with | some n => decide (0 ≤ n) | none => false
/-! ### The body -/
def teB (T C : List (List UInt8)) (v : Int) : Bool := ((decide (v = 1) && decide (T.length = 1)) && sameB (mkS (T.headD [])) ckS) && decide (C.length = 0)
/-- The body's error, by what Transfer-Encoding and Content-Length there are. -/
def bdE (T C : List (List UInt8)) (s : ByteArray) (v : Int) (op : Bool) : Int :=
  if 0 < T.length then (if teB T C v then (if decE s = 0 then (if decN s = (s.size : Int) then 0 else 22) else decE s) else 22)
  else if 0 < C.length then (if lnB C then (if lnA C < (s.size : Int) then 22 else if (s.size : Int) < lnA C then 6 else 0) else 22)
  else if op then 0 else if s.size = 0 then 0 else 22
def bdB (T C : List (List UInt8)) (s : ByteArray) (v : Int) (op : Bool) : ByteArray := if bdE T C s v op = 0 then (if 0 < T.length then decB s else s) else ⟨#[]⟩
def bodE (L : List Fd) (s : ByteArray) (v : Int) (op : Bool) : Int := bdE (fdAll L teS) (fdAll L clS) s v op
def bodB (L : List Fd) (s : ByteArray) (v : Int) (op : Bool) : ByteArray := bdB (fdAll L teS) (fdAll L clS) s v op

/-! ### Messages -/
structure Rqst where
  m : ByteArray
  t : ByteArray
  v : Int
  f : List Fd
  b : ByteArray
structure Rply where
  c : Int
  r : ByteArray
  v : Int
  f : List Fd
  b : ByteArray
def rq0 : Rqst := ⟨⟨#[]⟩, ⟨#[]⟩, 0, [], ⟨#[]⟩⟩
def rp0 : Rply := ⟨0, ⟨#[]⟩, 0, [], ⟨#[]⟩⟩
def l1S (raw : ByteArray) : ByteArray := mkS ((hdL raw).headD [])
def rsF (raw : ByteArray) : List Fd := rwF (hdL raw).tail
def rsE (raw : ByteArray) : Int := rwE (hdL raw).tail
/-- What ParseRequest answers. -/
def pqE (raw : ByteArray) : Int :=
  if 65536 < raw.size then 4 else if hdB raw = false then 5 else if rqE (l1S raw) ≠ 0 then rqE (l1S raw) else if rsE raw ≠ 0 then rsE raw
  else if hoB (rsF raw) (rqV (l1S raw)) = false then 26 else bodE (rsF raw) (hdR raw) (rqV (l1S raw)) false
def pqR (raw : ByteArray) : Rqst :=
  if pqE raw = 0 then ⟨rqA (l1S raw), rqB (l1S raw), rqV (l1S raw), fdDrop (rsF raw) frm, bodB (rsF raw) (hdR raw) (rqV (l1S raw)) false⟩ else rq0
/-- What ParseReply answers. -/
def heB (meth : ByteArray) (c : Int) : Bool := (meth.toList == [72, 69, 65, 68]) || bodL c
def ppE (raw meth : ByteArray) : Int :=
  if 65536 < raw.size then 4 else if hdB raw = false then 5 else if stE (l1S raw) ≠ 0 then stE (l1S raw) else if stN (l1S raw) < 200 then 20 else if rsE raw ≠ 0 then rsE raw
  else if heB meth (stN (l1S raw)) then (if (hdR raw).size = 0 then 0 else 22) else bodE (rsF raw) (hdR raw) (stV' (l1S raw)) true
def ppR (raw meth : ByteArray) : Rply :=
  if ppE raw meth = 0 then ⟨stN (l1S raw), stB (l1S raw), stV' (l1S raw), fdDrop (rsF raw) frm, if heB meth (stN (l1S raw)) then ⟨#[]⟩ else bodB (rsF raw) (hdR raw) (stV' (l1S raw)) true⟩ else rp0

/-! ### Printed messages -/
def crS : ByteArray := ⟨#[13, 10]⟩
def lnsL (L : List Fd) : List UInt8 := L.flatMap fun x => (lineS x).data.toList ++ [13, 10]
def clH : ByteArray := ⟨#[67, 111, 110, 116, 101, 110, 116, 45, 76, 101, 110, 103, 116, 104, 58, 32]⟩
def clL (b : ByteArray) : List UInt8 := clH.data.toList ++ plainL (b.size : Int) ++ [13, 10]
def pmQ (r : Rqst) : ByteArray := mkS ((prqS r.m r.t r.v).data.toList ++ [13, 10] ++ lnsL r.f ++ (if r.b.size = 0 then [] else clL r.b) ++ [13, 10] ++ r.b.data.toList)
def pmP (r : Rply) (head : Bool) : ByteArray :=
  mkS ((pstS r.c r.r r.v).data.toList ++ [13, 10] ++ lnsL r.f ++ (if bodL r.c then [] else if head && decide (r.b.size = 0) then [] else clL r.b) ++ [13, 10] ++ (if bodL r.c || head then [] else r.b.data.toList))

/-! ### Checks -/
def ftE (L : List Fd) : Int := if chkN L ≠ 0 then chkN L else if (fdDrop L frm).length ≠ L.length then 21 else 0
def lqB (r : Rqst) : Bool := ((rqE (prqS r.m r.t r.v) == 0) && ((rqA (prqS r.m r.t r.v)).toList == r.m.toList)) && ((rqB (prqS r.m r.t r.v)).toList == r.t.toList)
def ckQ (r : Rqst) : Int :=
  if r.v < 0 ∨ 1 < r.v then 20 else if lqB r = false then 20 else if ftE r.f ≠ 0 then ftE r.f else if hoB r.f r.v = false then 26
  else if 65536 < (pmQ r).size then 4 else if r.b.size ≠ 0 ∧ 64 ≤ r.f.length then 4 else 0
def lpB (r : Rply) : Bool := (stE (pstS r.c r.r r.v) == 0) && ((stB (pstS r.c r.r r.v)).toList == r.r.toList)
def ckP (r : Rply) : Int :=
  if (r.v < 0 ∨ 1 < r.v) ∨ (r.c < 200 ∨ 599 < r.c) then 20 else if lpB r = false then 20 else if ftE r.f ≠ 0 then ftE r.f
  else if bodL r.c = true ∧ r.b.size ≠ 0 then 22 else if 65536 < (pmP r false).size then 4 else if bodL r.c = false ∧ 64 ≤ r.f.length then 4 else 0

/-! ### Messages as values -/
def rqC (r : Rqst) (A : Option Addr) (c : Nat) : Array Value := #[.string r.m, .string r.t, .int .i64 r.v, .slice A r.f.length c, .string r.b]
def rpC (r : Rply) (A : Option Addr) (c : Nat) : Array Value := #[.int .i64 r.c, .string r.r, .int .i64 r.v, .slice A r.f.length c, .string r.b]
/-- What lies at A was made since. -/
def FreshA (w : World) (A : Option Addr) : Prop := ∀ ad, A = some ad → w.heap.size ≤ ad.block
theorem FreshA.none_ (w : World) : FreshA w none := fun _ h => by cases h
/-- The answer is a request (a reply) and a code; the fields lie in memory of the call's own. -/
def IsRq (w : World) (r : Rqst) (E : Int) (e : Ending) (w' : World) : Prop := ∃ A c, e = .returned (.tuple #[.agg (rqC r A c), .int .i64 E]) ∧ SlF w' A r.f.length c r.f ∧ FreshA w A ∧ Below w.heap.size w w'
def IsRp (w : World) (r : Rply) (E : Int) (e : Ending) (w' : World) : Prop := ∃ A c, e = .returned (.tuple #[.agg (rpC r A c), .int .i64 E]) ∧ SlF w' A r.f.length c r.f ∧ FreshA w A ∧ Below w.heap.size w w'
theorem OwnF.fresh {w : World} {base e n c : Nat} {A : Option Addr} {X : List Fd} (h : OwnF w base e (.slice A n c) X) : ∀ ad, A = some ad → base ≤ ad.block := fun ad ha => by
  rcases h.2 with ⟨h1, _⟩ | ⟨g, cap, cur, h1, h2, _⟩
  · cases h1; cases ha
  · cases h1; cases ha; exact h2
theorem add_blk (ad : Addr) (k : Nat) : (ad.add k).block = ad.block := by
  unfold Addr.add
  split <;> rfl
theorem SlF.setRow {w : World} {A : Option Addr} {n c : Nat} {L : List Fd} (h : SlF w A n c L) {g : Nat} (hg : ∀ ad, A = some ad → ad.block ≠ g) (cs : Array Value) : SlF (w.setRow g cs) A n c L :=
  ⟨h.len, h.cap, h.cm, h.nil, fun hn => by
    obtain ⟨ad, e, hc⟩ := h.at_ hn
    have hne := hg ad e
    exact ⟨ad, e, fun j x hx => ⟨by rw [cell_setRow_other _ _ _ _ (by rw [add_blk]; exact hne)]; exact (hc j x hx).1, by rw [cell_setRow_other _ _ _ _ (by rw [add_blk]; exact hne)]; exact (hc j x hx).2⟩⟩, h.sz⟩

end Go.Proofs.YtjkfdjolhmgemaaGreatDoor
end

/-
  Plain functions of layer 16, without the program: names of a hop, names that a message nominates, what is left.
-/
section
namespace Go.Proofs.YtjkfdjolhmgemaaGreatDoor
open Go.RowKit

def cnS : ByteArray := ⟨#[67, 111, 110, 110, 101, 99, 116, 105, 111, 110]⟩
def hopN : List ByteArray := [⟨#[67, 111, 110, 110, 101, 99, 116, 105, 111, 110]⟩, ⟨#[75, 101, 101, 112, 45, 65, 108, 105, 118, 101]⟩, ⟨#[80, 114, 111, 120, 121, 45, 67, 111, 110, 110, 101, 99, 116, 105, 111, 110]⟩, ⟨#[80, 114, 111, 120, 121, 45, 65, 117, 116, 104, 101, 110, 116, 105, 99, 97, 116, 101]⟩, ⟨#[80, 114, 111, 120, 121, 45, 65, 117, 116, 104, 111, 114, 105, 122, 97, 116, 105, 111, 110]⟩, ⟨#[84, 69]⟩, ⟨#[84, 114, 97, 105, 108, 101, 114]⟩, ⟨#[84, 114, 97, 110, 115, 102, 101, 114, 45, 69, 110, 99, 111, 100, 105, 110, 103]⟩, ⟨#[85, 112, 103, 114, 97, 100, 101]⟩, ⟨#[67, 111, 110, 116, 101, 110, 116, 45, 76, 101, 110, 103, 116, 104]⟩]
def hopB (name : ByteArray) : Bool := hopN.any fun n => sameB n name
def nomL (L : List Fd) : List (List UInt8) := (fdAll L cnS).flatMap splO
def stpL (L : List Fd) : List Fd := (fdDrop L (nomL L)).filter fun x => !hopB x.1
theorem cnS_le : cnS.size ≤ maxLen := by decide
theorem hopN_le : ∀ n ∈ hopN, n.size ≤ maxLen := by
  intro n hn
  simp only [hopN, List.mem_cons, List.not_mem_nil, or_false] at hn
  rcases hn with rfl | rfl | rfl | rfl | rfl | rfl | rfl | rfl | rfl | rfl <;> decide
theorem splO_sz {v : List UInt8} {B : Nat} (h : v.length ≤ B) : (splO v).length ≤ B + 1 ∧ ∀ x ∈ splO v, x.length ≤ B := by
  unfold splO
  cases e : splitL v with
  | none => exact ⟨by simp, fun x hx => by simp at hx⟩
  | some L =>
    obtain ⟨g1, g2⟩ := split_good e
    exact ⟨by show L.length ≤ _; omega, fun x hx => by have := (g1 x hx).2; omega⟩
theorem fm_split_len : ∀ (V : List (List UInt8)), (∀ v ∈ V, v.length ≤ 10000) → (V.flatMap splO).length ≤ V.length * 10001
  | [], _ => Nat.zero_le _
  | v :: V, h => by
    have h1 := fm_split_len V fun x hx => h x (List.mem_cons_of_mem _ hx)
    have h2 := (splO_sz (h v (List.mem_cons_self ..))).1
    rw [List.flatMap_cons, List.length_append, List.length_cons]
    omega
theorem all_sz {L : List Fd} {name : ByteArray} {B : Nat} (h : ∀ x ∈ L, x.2.size ≤ B) : (fdAll L name).length ≤ L.length ∧ ∀ v ∈ fdAll L name, v.length ≤ B := by
  unfold fdAll
  refine ⟨by rw [List.length_map]; exact List.length_filter_le _ _, fun v hv => ?_⟩
  obtain ⟨y, hy, rfl⟩ := List.mem_map.1 hv
  rw [← Lib.size_eq]
  exact h y (List.mem_filter.1 hy).1
theorem nom_sz {L : List Fd} (hn : L.length ≤ 1000) (h : ∀ x ∈ L, x.2.size ≤ 10000) : (nomL L).length ≤ 10001000 ∧ ∀ v ∈ nomL L, v.length ≤ 10000 := by
  obtain ⟨h1, h2⟩ := all_sz (name := cnS) h
  refine ⟨Nat.le_trans (fm_split_len _ h2) (by have := Nat.mul_le_mul_right 10001 (Nat.le_trans h1 hn); omega), fun v hv => ?_⟩
  unfold nomL at hv
  obtain ⟨u, hu, hv2⟩ := List.mem_flatMap.1 hv
  exact (splO_sz (h2 u hu)).2 v hv2
theorem fmS_snoc (V : List (List UInt8)) (k : Nat) (h : k < V.length) : (V.take (k + 1)).flatMap splO = (V.take k).flatMap splO ++ splO V[k] := by
  rw [List.take_succ_eq_append_getElem h, List.flatMap_append]
  simp
theorem stp_len (L : List Fd) : (stpL L).length ≤ L.length := Nat.le_trans (List.length_filter_le _ _) (List.length_filter_le _ _)

end Go.Proofs.YtjkfdjolhmgemaaGreatDoor
end

/-
  Contracts of package fields' choose and of slices.IndexFunc and ContainsFunc on fields, for any test that is handed in.
-/
section
namespace Go.Proofs.YtjkfdjolhmgemaaGreatDoor
open Go.RowKit

/-- A test of fields: function g with the captured cells caps answers p. -/
def PredF (w : World) (g : Nat) (caps : Array Value) (p : Fd → Bool) : Prop :=
  ∀ (W : World) (x : Fd), Below w.heap.size w W → Bd x → Calls Tryz.prog g (#[fdV x] ++ caps) W fun e w' => e = .returned (.bool (p x)) ∧ Below W.heap.size W w'

theorem choose_any (A : Option Addr) (n c : Nat) (L : List Fd) (w : World) (h : SlF w A n c L) (hn : n ≤ 100000000) (hB : ∀ x ∈ L, Bd x) (g : Nat) (caps : Array Value) (p : Fd → Bool)
    (eg : ∀ args W, (callFunc g args).run Tryz.prog W = .ok (.enter g args) W) (hp : PredF w g caps p) :
    Calls Tryz.prog 52 #[.slice A n c, .func (.func g) #[] caps] w fun e w' => ∃ v, e = .returned v ∧ OwnF w' w.heap.size 43 v (L.filter p) ∧ Below w.heap.size w w' := by
  have hlen := h.len
  subst hlen
  have HP := Lib.hid hp
  clear hp
  go_enter Tryz.func52, Tryz.ntmps52
  go_wp2_with fail
  go_loopw [5, 10] (fun v i wr => ∃ k : Nat, k ≤ L.length ∧ i = .int .i64 k ∧ Hid (OwnF wr w.heap.size 43 v ((L.take k).filter p)) ∧ Below w.heap.size w wr) (fun _ i _ => L.length - (intOf i).toNat)
  case atStart => exact ⟨0, Nat.zero_le _, rfl, OwnF.nil _ _ _, Below.refl _ _⟩
  case round =>
    obtain ⟨k, hk, rfl, hown, hbel⟩ := hrel
    by_cases hlt : k < L.length
    · obtain ⟨ad, rfl, hc⟩ := h.at_ (by omega)
      obtain ⟨hc0, hc1⟩ := hc k L[k] (List.getElem?_eq_getElem hlt)
      have hcell0 := cell_kept hbel hc0
      have hcell1 := fd_snd (cell_kept hbel hc1)
      obtain ⟨hz1, hz2⟩ := h.sz _ (List.getElem_mem hlt)
      have hbd := hB _ (List.getElem_mem hlt)
      have HS := take_fd L k hlt
      generalize L[k] = x at *
      obtain ⟨a, b⟩ := x
      have HF := filter_snoc p (L.take k) (a, b)
      rw [← HS] at HF
      clear HS hc hc0 hc1
      have hl2 : ((L.take k).filter p).length ≤ k := Nat.le_trans (List.length_filter_le _ _) (by rw [List.length_take]; omega)
      generalize hX : (L.take k).filter p = X at *
      have hcall := HP.out (wr.alloc (.cells #[.string a, .string b] 43)) (a, b) (hbel.alloc hbel.size _) hbd
      unfold fdV at hcall
      have HC := Lib.hid hcall
      clear hcall
      have hsz1 := hbel.size
      cases hq : p (a, b) with
      | true =>
        rw [hq, if_pos rfl] at HF
        rw [hq] at HC
        have HR := Lib.hid HF
        clear HF hq
        go_wp2_with fail
        refine HC.out.mono ?_
        rintro e w1 ⟨rfl, hb1⟩
        have HZ := Lib.hid (zero_at hb1)
        have HB := Lib.hid (zero_then hb1)
        have HO := Lib.hid (hown.out.below HB.out)
        have hs1 := HB.out.size
        obtain ⟨z0, z1⟩ := zero_two HZ.out
        clear hb1 hown HC
        go_wp2_with (at_builtin; refine wpList_append_slf rfl _ _ _ rfl w.heap.size 43 Tryz.underlying22 (by kernel_rfl) _ rfl X (HO.out.alloc _) _ _ _ rfl [(a, b)] (SlF.one _ _ (a, b) ⟨hz1, hz2⟩) (by simp; omega) (by simp; omega) w ((hbel.trans (HB.out.mono hsz1)).alloc (by omega) _) ?_; intro v1 w2 ho2 hb2 hz2)
        go_roundw
        case rel => exact ⟨k + 1, by omega, by go_num, by show OwnF _ _ _ _ _; rw [HR.out]; exact ho2.out, hb2⟩
        case measure => simp [intOf]; omega
      | false =>
        rw [hq, if_neg (by simp)] at HF
        rw [hq] at HC
        have HR := Lib.hid HF
        clear HF hq
        go_wp2_with fail
        refine HC.out.mono ?_
        rintro e w1 ⟨rfl, hb1⟩
        have HB := Lib.hid (zero_then hb1)
        clear hb1
        go_wp2_with fail
        go_roundw
        case rel => exact ⟨k + 1, by omega, by go_num, by show OwnF _ _ _ _ _; rw [HR.out]; exact hown.out.below HB.out, hbel.trans (HB.out.mono hsz1)⟩
        case measure => simp [intOf]; omega
    · have HE : Hid ((L.take k).filter p = L.filter p) := by
        show _ = _
        rw [List.take_of_length_le (by omega)]
      rw [HE.out] at hown
      go_wp2_with fail
      go_ret
      exact ⟨_, rfl, hown.out, hbel⟩

end Go.Proofs.YtjkfdjolhmgemaaGreatDoor
end

/-
  Contracts of slices.IndexFunc and slices.ContainsFunc on fields and on texts, for any test that is handed in, and of slices.EqualFunc on fields.
-/
section
namespace Go.Proofs.YtjkfdjolhmgemaaGreatDoor
open Go.RowKit

/-- The place of the first that passes the test, or -1. -/
def idxP {α : Type} (p : α → Bool) (L : List α) : Int := if L.any p then (L.findIdx p : Int) else -1
theorem idxP_hit {α : Type} {p : α → Bool} {L : List α} {k : Nat} (hk : k < L.length) (h : p L[k] = true) (hm : ∀ j (hj : j < L.length), j < k → p L[j] = false) : idxP p L = k := by
  unfold idxP
  rw [if_pos (List.any_eq_true.2 ⟨L[k], List.getElem_mem hk, h⟩), (List.findIdx_eq hk).2 ⟨h, fun j hj => hm j (by omega) hj⟩]
theorem any_false {α : Type} {p : α → Bool} {L : List α} (hm : ∀ j (hj : j < L.length), p L[j] = false) : L.any p = false := by
  rw [List.any_eq_false]
  intro x hx
  obtain ⟨j, hj, rfl⟩ := List.getElem_of_mem hx
  simp [hm j hj]
theorem idxP_miss {α : Type} {p : α → Bool} {L : List α} (hm : ∀ j (hj : j < L.length), p L[j] = false) : idxP p L = -1 := by
  unfold idxP
  rw [if_neg (by rw [any_false hm]; simp)]
theorem idxP_any {α : Type} (p : α → Bool) (L : List α) : decide (0 ≤ idxP p L) = L.any p := by
  unfold idxP
  by_cases h : L.any p = true
  · rw [if_pos h, h]; simp
  · rw [if_neg h, Bool.eq_false_iff.2 h]; simp
/-- Where the first that passes stands. -/
theorem idxP_cases {α : Type} (p : α → Bool) (L : List α) : (idxP p L = -1 ∧ ∀ x ∈ L, p x = false) ∨ ∃ i, ∃ hi : i < L.length, idxP p L = i ∧ p L[i] = true ∧ ∀ j (hj : j < i), p (L[j]'(by omega)) = false := by
  by_cases h : L.any p = true
  · right
    obtain ⟨x, hx, hp⟩ := List.any_eq_true.1 h
    have hi : L.findIdx p < L.length := List.findIdx_lt_length_of_exists ⟨x, hx, hp⟩
    refine ⟨L.findIdx p, hi, by unfold idxP; rw [if_pos h], List.findIdx_getElem, fun j hj => ?_⟩
    simpa using List.not_of_lt_findIdx hj
  · left
    refine ⟨by unfold idxP; rw [if_neg h], fun x hx => ?_⟩
    rw [Bool.not_eq_true, List.any_eq_false] at h
    simpa using h x hx

/-- A test of texts. -/
def PredS (w : World) (g : Nat) (caps : Array Value) (p : List UInt8 → Bool) : Prop :=
  ∀ (W : World) (x : List UInt8), Below w.heap.size w W → x.length ≤ 1000000000 → Calls Tryz.prog g (#[.string (mkS x)] ++ caps) W fun e w' => e = .returned (.bool (p x)) ∧ Below W.heap.size W w'
/-- A test of two fields. -/
def PredT (w : World) (g : Nat) (caps : Array Value) (p : Fd → Fd → Bool) : Prop :=
  ∀ (W : World) (x y : Fd), Below w.heap.size w W → Bd x → Bd y → Calls Tryz.prog g (#[fdV x, fdV y] ++ caps) W fun e w' => e = .returned (.bool (p x y)) ∧ Below W.heap.size W w'

theorem idxF_any (A : Option Addr) (n c : Nat) (L : List Fd) (w : World) (h : SlF w A n c L) (hn : n ≤ 1000000000) (hB : ∀ x ∈ L, Bd x) (g : Nat) (caps : Array Value) (p : Fd → Bool)
    (eg : ∀ args W, (callFunc g args).run Tryz.prog W = .ok (.enter g args) W) (hp : PredF w g caps p) :
    Calls Tryz.prog 124 #[.slice A n c, .func (.func g) #[] caps] w fun e w' => e = .returned (.int .i64 (idxP p L)) ∧ Below w.heap.size w w' := by
  have hlen := h.len
  subst hlen
  have HP := Lib.hid hp
  clear hp
  go_enter Tryz.func124, Tryz.ntmps124
  go_wp2_with fail
  go_loopw [5, 8] (fun _ i wr => ∃ k : Nat, k ≤ L.length ∧ i = .int .i64 k ∧ Hid (∀ j (hj : j < L.length), j < k → p L[j] = false) ∧ Below w.heap.size w wr) (fun _ i _ => L.length - (intOf i).toNat)
  case atStart => exact ⟨0, Nat.zero_le _, rfl, (fun j hj h0 => absurd h0 (by omega)), Below.refl _ _⟩
  case round =>
    obtain ⟨k, hk, rfl, hf, hbel⟩ := hrel
    by_cases hlt : k < L.length
    · obtain ⟨ad, rfl, hc⟩ := h.at_ (by omega)
      have HN : Hid (p L[k] = true → idxP p L = k) := fun hp => idxP_hit hlt hp hf.out
      have HM : Hid (p L[k] = false → ∀ j (hj : j < L.length), j < k + 1 → p L[j] = false) := fun hp j hj hjk => by
        by_cases e : j = k
        · subst e; exact hp
        · exact hf.out j hj (by omega)
      obtain ⟨hc0, hc1⟩ := hc k L[k] (List.getElem?_eq_getElem hlt)
      have hcell0 := cell_kept hbel hc0
      have hcell1 := fd_snd (cell_kept hbel hc1)
      have hbd := hB _ (List.getElem_mem hlt)
      generalize L[k] = x at HN HM hc0 hc1 hcell0 hcell1 hbd
      obtain ⟨a, b⟩ := x
      have hcall := HP.out wr (a, b) hbel hbd
      unfold fdV at hcall
      clear hc hc0 hc1
      have HC := Lib.hid hcall
      have hi0 : (0 : Int) ≤ (k : Int) := by omega
      have hi1 : (k : Int) < (L.length : Int) := by omega
      clear hcall hf
      cases hq : p (a, b) with
      | true =>
        have HR := Lib.hid (HN.out hq)
        clear HN HM
        rw [hq] at HC
        clear hq
        go_wp2_with fail
        refine HC.out.mono ?_
        rintro e w1 ⟨rfl, hb1⟩
        clear HC
        go_wp2_with fail
        go_ret
        exact ⟨by rw [HR.out]; rfl, hbel.trans (hb1.mono hbel.size)⟩
      | false =>
        have HR := Lib.hid (HM.out hq)
        clear HN HM
        rw [hq] at HC
        clear hq
        go_wp2_with fail
        refine HC.out.mono ?_
        rintro e w1 ⟨rfl, hb1⟩
        clear HC
        go_wp2_with fail
        go_roundw
        case rel => exact ⟨k + 1, by omega, by go_num, HR.out, hbel.trans (hb1.mono hbel.size)⟩
        case measure => simp [intOf]; omega
    · have HE : Hid (idxP p L = -1) := idxP_miss fun j hj => hf.out j hj (by omega)
      go_wp2_with fail
      go_ret
      exact ⟨by rw [HE.out]; rfl, hbel⟩

theorem idxS_any (A : Option Addr) (n c : Nat) (L : List (List UInt8)) (w : World) (h : SlS w A n c L) (hn : n ≤ 1000000000) (hz : ∀ x ∈ L, x.length ≤ 1000000000) (g : Nat) (caps : Array Value) (p : (List UInt8) → Bool)
    (eg : ∀ args W, (callFunc g args).run Tryz.prog W = .ok (.enter g args) W) (hp : PredS w g caps p) :
    Calls Tryz.prog 93 #[.slice A n c, .func (.func g) #[] caps] w fun e w' => e = .returned (.int .i64 (idxP p L)) ∧ Below w.heap.size w w' := by
  have hlen := h.len
  subst hlen
  have HP := Lib.hid hp
  clear hp
  go_enter Tryz.func93, Tryz.ntmps93
  go_wp2_with fail
  go_loopw [5, 8] (fun _ i wr => ∃ k : Nat, k ≤ L.length ∧ i = .int .i64 k ∧ Hid (∀ j (hj : j < L.length), j < k → p L[j] = false) ∧ Below w.heap.size w wr) (fun _ i _ => L.length - (intOf i).toNat)
  case atStart => exact ⟨0, Nat.zero_le _, rfl, (fun j hj h0 => absurd h0 (by omega)), Below.refl _ _⟩
  case round =>
    obtain ⟨k, hk, rfl, hf, hbel⟩ := hrel
    by_cases hlt : k < L.length
    · obtain ⟨ad, rfl, hc⟩ := h.at_ (by omega)
      have HN : Hid (p L[k] = true → idxP p L = k) := fun hp => idxP_hit hlt hp hf.out
      have HM : Hid (p L[k] = false → ∀ j (hj : j < L.length), j < k + 1 → p L[j] = false) := fun hp j hj hjk => by
        by_cases e : j = k
        · subst e; exact hp
        · exact hf.out j hj (by omega)
      have hc0 := hc k L[k] (List.getElem?_eq_getElem hlt)
      have hcell0 := cell_kept hbel hc0
      have hz1 := hz _ (List.getElem_mem hlt)
      generalize L[k] = x at HN HM hc0 hcell0 hz1
      have hcall := HP.out wr x hbel hz1
      obtain ⟨xs, hxs⟩ : ∃ xs, xs = mkS x := ⟨_, rfl⟩
      rw [← hxs] at hcall hcell0
      clear hc hc0 hxs
      have HC := Lib.hid hcall
      have hi0 : (0 : Int) ≤ (k : Int) := by omega
      have hi1 : (k : Int) < (L.length : Int) := by omega
      clear hcall hf
      cases hq : p x with
      | true =>
        have HR := Lib.hid (HN.out hq)
        clear HN HM
        rw [hq] at HC
        clear hq
        go_wp2_with fail
        refine HC.out.mono ?_
        rintro e w1 ⟨rfl, hb1⟩
        clear HC
        go_wp2_with fail
        go_ret
        exact ⟨by rw [HR.out]; rfl, hbel.trans (hb1.mono hbel.size)⟩
      | false =>
        have HR := Lib.hid (HM.out hq)
        clear HN HM
        rw [hq] at HC
        clear hq
        go_wp2_with fail
        refine HC.out.mono ?_
        rintro e w1 ⟨rfl, hb1⟩
        clear HC
        go_wp2_with fail
        go_roundw
        case rel => exact ⟨k + 1, by omega, by go_num, HR.out, hbel.trans (hb1.mono hbel.size)⟩
        case measure => simp [intOf]; omega
    · have HE : Hid (idxP p L = -1) := idxP_miss fun j hj => hf.out j hj (by omega)
      go_wp2_with fail
      go_ret
      exact ⟨by rw [HE.out]; rfl, hbel⟩

theorem idxS_has (A : Option Addr) (n c : Nat) (L : List (List UInt8)) (w : World) (h : SlS w A n c L) (hn : n ≤ 1000000000) (hz : ∀ x ∈ L, x.length ≤ 1000000000) (g : Nat) (caps : Array Value) (p : (List UInt8) → Bool)
    (eg : ∀ args W, (callFunc g args).run Tryz.prog W = .ok (.enter g args) W) (hp : PredS w g caps p) :
    Calls Tryz.prog 66 #[.slice A n c, .func (.func g) #[] caps] w fun e w' => e = .returned (.bool (L.any p)) ∧ Below w.heap.size w w' := by
  have HQ := Lib.hid (idxS_any A n c L w h hn hz g caps p eg hp)
  have HE := Lib.hid (idxP_any p L)
  clear h hp eg
  generalize idxP p L = r at *
  go_enter Tryz.func66, Tryz.ntmps66
  go_wp2_with fail
  refine HQ.out.mono ?_
  rintro e w1 ⟨rfl, hb1⟩
  clear HQ
  go_wp2_with fail
  all_goals
    go_ret
    exact ⟨by rw [← HE.out]; simp_all, hb1⟩

end Go.Proofs.YtjkfdjolhmgemaaGreatDoor
end
