/-
  Texts that the laws of this seat lean on, one behind the other.
-/
import Derived.Test.YthhlcecojeaalaaDoorMrgJ
import Derived.Test.YthhlcecojeaalaaDoorMrgT
import Derived.Test.YthhlcecojeaalaaDoorMrgC
import Derived.Test.YthhlcecojeaalaaDoorMrgR
import Derived.Test.YthhlcecojeaalaaDoorMrgB
import Derived.Shelf.Abstract
import Derived.Shelf.RegionOpenPlain
import Derived.Lib.Overlaps
import Derived.Lib.AppendZerosOnto
import Derived.Laws.CopyRow
import Derived.Laws.CopyOwn
import Derived.Laws.Externs
import Derived.Laws.NewBlocks
set_option linter.unusedSimpArgs false
set_option linter.unusedVariables false
/-
  Plain functions of layer 9, without the program: which fields may be, which values a name has, what dropping and setting leave.
-/
section
namespace Go.Proofs.YthhlcecojeaalaaDoor
open Go.RowKit

def chkN (L : List Fd) : Int := if 64 < L.length then 4 else if L.any (fun x => !prpF x) then 21 else if L.any lngF then 4 else 0
/-- Has it one of the names? -/
def nmd (names : List (List UInt8)) (x : Fd) : Bool := names.any fun n => sameB x.1 (mkS n)
def alk (x y : Fd) : Bool := sameB x.1 y.1 && (x.2.toList == y.2.toList)
def bthP {α : Type} (p : α → α → Bool) : List α → List α → Bool
  | x :: a, y :: b => p x y && bthP p a b
  | [], [] => true
  | _, _ => false
def bth (L M : List Fd) : Bool := bthP alk L M
theorem bthP_len {α : Type} (p : α → α → Bool) : ∀ (L M : List α), L.length ≠ M.length → bthP p L M = false
  | [], [], h => absurd rfl h
  | [], _ :: _, _ => rfl
  | _ :: _, [], _ => rfl
  | x :: a, y :: b, h => by
    unfold bthP
    rw [bthP_len p a b (fun e => h (by simp [e]))]; simp
theorem bthP_drop {α : Type} (p : α → α → Bool) (L M : List α) (k : Nat) (h : k < L.length) (g : k < M.length) : bthP p (L.drop k) (M.drop k) = (p L[k] M[k] && bthP p (L.drop (k + 1)) (M.drop (k + 1))) := by
  rw [List.drop_eq_getElem_cons h, List.drop_eq_getElem_cons g]; rfl
def fdAll (L : List Fd) (name : ByteArray) : List (List UInt8) := (L.filter fun x => sameB x.1 name).map fun x => x.2.data.toList
def fdGet (L : List Fd) (name : ByteArray) : ByteArray := mkS (Lib.join (fdAll L name) [44, 32])
def fdGot (L : List Fd) (name : ByteArray) : Bool := !(fdAll L name).isEmpty
def fdHas (L : List Fd) (name item : ByteArray) : Bool := (fdAll L name).any fun v => hasL (splO v) item
def fdDrop (L : List Fd) (names : List (List UInt8)) : List Fd := L.filter fun x => !nmd names x
/-- The fields with f put at the place of the first of its name; whether that was done. -/
def setR (f : Fd) : Bool → List Fd → List Fd
  | b, [] => if b then [] else [f]
  | b, x :: r => if sameB x.1 f.1 then (if b then setR f true r else f :: setR f true r) else x :: setR f b r
def fdSet (L : List Fd) (f : Fd) : List Fd := setR f false L

theorem nmd_one (n : ByteArray) (x : Fd) : nmd [n.data.toList] x = sameB x.1 n := by simp [nmd, mkS_self]
theorem nmd_one' (n : ByteArray) : nmd [n.data.toList] = fun x => sameB x.1 n := funext fun x => nmd_one n x
theorem filter_snoc {α : Type} (p : α → Bool) (l : List α) (x : α) : (l ++ [x]).filter p = if p x then l.filter p ++ [x] else l.filter p := by
  rw [List.filter_append]
  by_cases h : p x = true
  · simp [h]
  · simp [h]
theorem take_fd {α : Type} (L : List α) (k : Nat) (h : k < L.length) : L.take (k + 1) = L.take k ++ [L[k]] := List.take_succ_eq_append_getElem h

end Go.Proofs.YthhlcecojeaalaaDoor
end

/-
  Plain functions of layer 15, without the program: the order of texts, names in order, what a request has of names.
-/
section
namespace Go.Proofs.YthhlcecojeaalaaDoor
open Go.RowKit

/-- Is a text less than another one, byte by byte? -/
def lesL : List UInt8 → List UInt8 → Bool
  | a :: x, b :: y => if a ≠ b then decide (a.toNat < b.toNat) else lesL x y
  | [], _ :: _ => true
  | _, [] => false
/-- A name among others in order, once. -/
def putL (s : List UInt8) : List (List UInt8) → List (List UInt8)
  | [] => [s]
  | x :: r => if lesL x s then x :: putL s r else if x = s then x :: r else s :: x :: r
/-- The names of one list's elements; none if one may not be a name. -/
def nmE (out : List (List UInt8)) : List (List UInt8) → Option (List (List UInt8))
  | [] => some out
  | e :: r => if e = [42] ∨ (e.isEmpty || !allB tokB e) then none else nmE (putL (lowL e) out) r
def nmV (out : List (List UInt8)) : List (List UInt8) → Option (List (List UInt8))
  | [] => some out
  | v :: r => match splitL v with
    | none => none
    | some E => match nmE out E with
      | none => none
      | some o => nmV o r
def vaS : ByteArray := ⟨#[86, 97, 114, 121]⟩
def namO (L : List Fd) : Option (List (List UInt8)) := nmV [] (fdAll L vaS)
def namL (L : List Fd) : List (List UInt8) := (namO L).getD []
def namB (L : List Fd) : Bool := (namO L).isSome
/-- One blank in the place of blanks side by side. -/
def sglL (p : Bool) : List UInt8 → List UInt8
  | [] => []
  | c :: r => if blkU c then (if p then sglL true r else 32 :: sglL true r) else c :: sglL false r

def pkOf (L : List Fd) (name : List UInt8) : Pk :=
  ⟨mkS name, !(fdAll L (mkS name)).isEmpty, mkS (Lib.join ((fdAll L (mkS name)).map (sglL false)) [44, 32])⟩
def pksL (N : List (List UInt8)) (L : List Fd) : List Pk := N.map (pkOf L)
def pkE (x y : Pk) : Bool := (x.n.toList == y.n.toList) && (x.h == y.h) && (x.v.toList == y.v.toList)
def pksB : List Pk → List Pk → Bool
  | x :: a, y :: b => pkE x y && pksB a b
  | [], [] => true
  | _, _ => false
def pkM (p : List Pk) (L : List Fd) : Bool := pksB (pksL (p.map fun x => x.n.data.toList) L) p

end Go.Proofs.YthhlcecojeaalaaDoor
end

/-
  Plain functions of layer 13, without the program: directives, what they say, how they are printed.
-/
section
namespace Go.Proofs.YthhlcecojeaalaaDoor
open Go.RowKit

def ccS : ByteArray := ⟨#[67, 97, 99, 104, 101, 45, 67, 111, 110, 116, 114, 111, 108]⟩
def prS : ByteArray := ⟨#[80, 114, 97, 103, 109, 97]⟩
def nsS : ByteArray := ⟨#[110, 111, 45, 115, 116, 111, 114, 101]⟩
def ncS : ByteArray := ⟨#[110, 111, 45, 99, 97, 99, 104, 101]⟩
def pvS : ByteArray := ⟨#[112, 114, 105, 118, 97, 116, 101]⟩
def puS : ByteArray := ⟨#[112, 117, 98, 108, 105, 99]⟩
def mrS : ByteArray := ⟨#[109, 117, 115, 116, 45, 114, 101, 118, 97, 108, 105, 100, 97, 116, 101]⟩
def xrS : ByteArray := ⟨#[112, 114, 111, 120, 121, 45, 114, 101, 118, 97, 108, 105, 100, 97, 116, 101]⟩
def oiS : ByteArray := ⟨#[111, 110, 108, 121, 45, 105, 102, 45, 99, 97, 99, 104, 101, 100]⟩
def maS : ByteArray := ⟨#[109, 97, 120, 45, 97, 103, 101]⟩
def smS : ByteArray := ⟨#[115, 45, 109, 97, 120, 97, 103, 101]⟩
def mfS : ByteArray := ⟨#[109, 105, 110, 45, 102, 114, 101, 115, 104]⟩
def maE : ByteArray := ⟨#[109, 97, 120, 45, 97, 103, 101, 61]⟩
def smE : ByteArray := ⟨#[115, 45, 109, 97, 120, 97, 103, 101, 61]⟩
def mfE : ByteArray := ⟨#[109, 105, 110, 45, 102, 114, 101, 115, 104, 61]⟩

/-- P13.2. -/
def leaN (a b : Int) : Int := if a < 0 ∨ b < 0 then max (max a b) (-1) else min a b
/-- The directives of a value; of all values. -/
abbrev Dv := List UInt8 × List UInt8
def dvO (e : List UInt8) : Option Dv := if parE (mkS e) = 0 then some ((parN (mkS e)).data.toList, (parV (mkS e)).data.toList) else none
def dvV (v : List UInt8) : List Dv := (splO v).filterMap dvO
def dvs (V : List (List UInt8)) : List Dv := V.flatMap dvV
def fnV (V : List (List UInt8)) : Bool := V.all fun v => decide (splE v = 0)
def hasD (D : List Dv) (nm : ByteArray) : Bool := D.any fun d => d.1 == nm.data.toList
def lstS (nm : ByteArray) (n : Int) (d : Dv) : Int := if d.1 == nm.data.toList then leaN n (secN d.2) else n
def grtS (nm : ByteArray) (n : Int) (d : Dv) : Int := if d.1 == nm.data.toList then max n (if secB d.2 then secN d.2 else 2147483648) else n
def lstD (D : List Dv) (nm : ByteArray) : Int := D.foldl (lstS nm) (-1)
def grtD (D : List Dv) (nm : ByteArray) : Int := D.foldl (grtS nm) (-1)
structure Ctl where
  ns : Bool
  nc : Bool
  pv : Bool
  pu : Bool
  mc : Bool
  oi : Bool
  ma : Int
  sh : Int
  mf : Int
def ctC (c : Ctl) : Array Value := #[.bool c.ns, .bool c.nc, .bool c.pv, .bool c.pu, .bool c.mc, .bool c.oi, .int .i64 c.ma, .int .i64 c.sh, .int .i64 c.mf]
def ctD (D : List Dv) (fine : Bool) : Ctl := ⟨!fine || hasD D nsS, !fine || hasD D ncS, hasD D pvS, hasD D puS, hasD D mrS || hasD D xrS, hasD D oiS, lstD D maS, lstD D smS, grtD D mfS⟩
def ctP (L : List Fd) : Ctl := ctD (dvs (fdAll L ccS)) (fnV (fdAll L ccS))
def ctA (L : List Fd) : Ctl := if (fdAll L ccS).length = 0 ∧ fdHas L prS ncS = true then { ctP L with nc := true } else ctP L
/-- Printed. -/
def ctL (c : Ctl) : List (List UInt8) :=
  (if c.ns then [nsS.data.toList] else []) ++ (if c.nc then [ncS.data.toList] else []) ++ (if c.pv then [pvS.data.toList] else []) ++ (if c.pu then [puS.data.toList] else []) ++ (if c.mc then [mrS.data.toList] else []) ++ (if c.oi then [oiS.data.toList] else []) ++
  (if 0 ≤ c.ma then [maE.data.toList ++ plainL c.ma] else []) ++ (if 0 ≤ c.sh then [smE.data.toList ++ plainL c.sh] else []) ++ (if 0 ≤ c.mf then [mfE.data.toList ++ plainL c.mf] else [])
def ctS (c : Ctl) : ByteArray := mkS (Lib.join (ctL c) [44, 32])

end Go.Proofs.YthhlcecojeaalaaDoor
end

/-
  Contracts of package fields' choose and of slices.IndexFunc and ContainsFunc on fields, for any test that is handed in.
-/
section
namespace Go.Proofs.YthhlcecojeaalaaDoor
open Go.RowKit

/-- A test of fields: function g with the captured cells caps answers p. -/
def PredF (w : World) (g : Nat) (caps : Array Value) (p : Fd → Bool) : Prop :=
  ∀ (W : World) (x : Fd), Below w.heap.size w W → Bd x → Calls Tryd.prog g (#[fdV x] ++ caps) W fun e w' => e = .returned (.bool (p x)) ∧ Below W.heap.size W w'

theorem choose_any (A : Option Addr) (n c : Nat) (L : List Fd) (w : World) (h : SlF w A n c L) (hn : n ≤ 100000000) (hB : ∀ x ∈ L, Bd x) (g : Nat) (caps : Array Value) (p : Fd → Bool)
    (eg : ∀ args W, (callFunc g args).run Tryd.prog W = .ok (.enter g args) W) (hp : PredF w g caps p) :
    Calls Tryd.prog 81 #[.slice A n c, .func (.func g) #[] caps] w fun e w' => ∃ v, e = .returned v ∧ OwnF w' w.heap.size 62 v (L.filter p) ∧ Below w.heap.size w w' := by
  have hlen := h.len
  subst hlen
  have HP := Lib.hid hp
  clear hp
  go_enter Tryd.func81, Tryd.ntmps81
  go_wp2_with fail
  go_loopw [5, 10] (fun v i wr => ∃ k : Nat, k ≤ L.length ∧ i = .int .i64 k ∧ Hid (OwnF wr w.heap.size 62 v ((L.take k).filter p)) ∧ Below w.heap.size w wr) (fun _ i _ => L.length - (intOf i).toNat)
  case atStart => exact ⟨0, Nat.zero_le _, rfl, OwnF.nil _ _ _, Below.refl _ _⟩
  case round =>
    obtain ⟨k, hk, rfl, hown, hbel⟩ := hrel
    by_cases hlt : k < L.length
    · obtain ⟨ad, rfl, hc⟩ := h.at_ (by omega)
      obtain ⟨hc0, hc1⟩ := hc k L[k] (List.getElem?_eq_getElem hlt)
      have hcell0 := cell_kept hbel hc0
      have hcell1 := fd_snd (cell_kept hbel hc1)
      obtain ⟨hz1, hz2⟩ := h.sz _ (List.getElem_mem hlt)
      have hbd := hB _ (List.getElem_mem hlt)
      have HS := take_fd L k hlt
      generalize L[k] = x at *
      obtain ⟨a, b⟩ := x
      have HF := filter_snoc p (L.take k) (a, b)
      rw [← HS] at HF
      clear HS hc hc0 hc1
      have hl2 : ((L.take k).filter p).length ≤ k := Nat.le_trans (List.length_filter_le _ _) (by rw [List.length_take]; omega)
      generalize hX : (L.take k).filter p = X at *
      have hcall := HP.out (wr.alloc (.cells #[.string a, .string b] 62)) (a, b) (hbel.alloc hbel.size _) hbd
      unfold fdV at hcall
      have HC := Lib.hid hcall
      clear hcall
      have hsz1 := hbel.size
      cases hq : p (a, b) with
      | true =>
        rw [hq, if_pos rfl] at HF
        rw [hq] at HC
        have HR := Lib.hid HF
        clear HF hq
        go_wp2_with fail
        refine HC.out.mono ?_
        rintro e w1 ⟨rfl, hb1⟩
        have HZ := Lib.hid (zero_at hb1)
        have HB := Lib.hid (zero_then hb1)
        have HO := Lib.hid (hown.out.below HB.out)
        have hs1 := HB.out.size
        obtain ⟨z0, z1⟩ := zero_two HZ.out
        clear hb1 hown HC
        go_wp2_with (at_builtin; refine wpList_append_slf rfl _ _ _ rfl w.heap.size 62 Tryd.underlying23 (by kernel_rfl) _ rfl X (HO.out.alloc _) _ _ _ rfl [(a, b)] (SlF.one _ _ (a, b) ⟨hz1, hz2⟩) (by simp; omega) (by simp; omega) w ((hbel.trans (HB.out.mono hsz1)).alloc (by omega) _) ?_; intro v1 w2 ho2 hb2 hz2)
        go_roundw
        case rel => exact ⟨k + 1, by omega, by go_num, by show OwnF _ _ _ _ _; rw [HR.out]; exact ho2.out, hb2⟩
        case measure => simp [intOf]; omega
      | false =>
        rw [hq, if_neg (by simp)] at HF
        rw [hq] at HC
        have HR := Lib.hid HF
        clear HF hq
        go_wp2_with fail
        refine HC.out.mono ?_
        rintro e w1 ⟨rfl, hb1⟩
        have HB := Lib.hid (zero_then hb1)
        clear hb1
        go_wp2_with fail
        go_roundw
        case rel => exact ⟨k + 1, by omega, by go_num, by show OwnF _ _ _ _ _; rw [HR.out]; exact hown.out.below HB.out, hbel.trans (HB.out.mono hsz1)⟩
        case measure => simp [intOf]; omega
    · have HE : Hid ((L.take k).filter p = L.filter p) := by
        show _ = _
        rw [List.take_of_length_le (by omega)]
      rw [HE.out] at hown
      go_wp2_with fail
      go_ret
      exact ⟨_, rfl, hown.out, hbel⟩

end Go.Proofs.YthhlcecojeaalaaDoor
end

/-
  Contracts of slices.IndexFunc and slices.ContainsFunc on fields and on texts, for any test that is handed in, and of slices.EqualFunc on fields.
-/
section
namespace Go.Proofs.YthhlcecojeaalaaDoor
open Go.RowKit

/-- The place of the first that passes the test, or -1. -/
def idxP {α : Type} (p : α → Bool) (L : List α) : Int := if L.any p then (L.findIdx p : Int) else -1
theorem idxP_hit {α : Type} {p : α → Bool} {L : List α} {k : Nat} (hk : k < L.length) (h : p L[k] = true) (hm : ∀ j (hj : j < L.length), j < k → p L[j] = false) : idxP p L = k := by
  unfold idxP
  rw [if_pos (List.any_eq_true.2 ⟨L[k], List.getElem_mem hk, h⟩), (List.findIdx_eq hk).2 ⟨h, fun j hj => hm j (by omega) hj⟩]
theorem any_false {α : Type} {p : α → Bool} {L : List α} (hm : ∀ j (hj : j < L.length), p L[j] = false) : L.any p = false := by
  rw [List.any_eq_false]
  intro x hx
  obtain ⟨j, hj, rfl⟩ := List.getElem_of_mem hx
  simp [hm j hj]
theorem idxP_miss {α : Type} {p : α → Bool} {L : List α} (hm : ∀ j (hj : j < L.length), p L[j] = false) : idxP p L = -1 := by
  unfold idxP
  rw [if_neg (by rw [any_false hm]; simp)]
/-- A test of texts. -/
def PredS (w : World) (g : Nat) (caps : Array Value) (p : List UInt8 → Bool) : Prop :=
  ∀ (W : World) (x : List UInt8), Below w.heap.size w W → x.length ≤ 1000000000 → Calls Tryd.prog g (#[.string (mkS x)] ++ caps) W fun e w' => e = .returned (.bool (p x)) ∧ Below W.heap.size W w'
/-- A test of two fields. -/
def PredT (w : World) (g : Nat) (caps : Array Value) (p : Fd → Fd → Bool) : Prop :=
  ∀ (W : World) (x y : Fd), Below w.heap.size w W → Bd x → Bd y → Calls Tryd.prog g (#[fdV x, fdV y] ++ caps) W fun e w' => e = .returned (.bool (p x y)) ∧ Below W.heap.size W w'

end Go.Proofs.YthhlcecojeaalaaDoor
end

/-
  Contract of slices.EqualFunc on fields, for any test that is handed in; the closures of package fields: named, not.
-/
section
namespace Go.Proofs.YthhlcecojeaalaaDoor
open Go.RowKit

/-! ### named, not -/
theorem named_any (A : Option Addr) (n c : Nat) (v : Value) (hv : v = .slice A n c) (w : World) :
    Calls Tryd.prog 82 #[v] w fun e w' => e = .returned (.func (.func 91) #[] #[.pointer (some ⟨w.heap.size, 0, none⟩)]) ∧ w.alloc (.cells #[v] 51) = w' := by
  have hmf : ∀ (fn : Fn) (first cap : Array Value) (w : World), (Instr.makeFunc fn first cap).run Tryd.prog w = .ok (.func fn first cap) w := fun _ _ _ _ => rfl
  subst hv
  go_enter Tryd.func82, Tryd.ntmps82
  go_wp2
  go_ret
  exact ⟨rfl, rfl⟩

theorem named_in (a : Nat) (A : Option Addr) (n c : Nat) (names : List (List UInt8)) (W : World) (ha : W.cell? ⟨a, 0, none⟩ = some (.slice A n c)) (h : SlS W A n c names) (hz : ∀ x ∈ names, x.length ≤ maxLen) (hn : n ≤ 1000000000) (x : Fd) (hx : x.1.size ≤ maxLen) :
    Calls Tryd.prog 91 #[fdV x, .pointer (some ⟨a, 0, none⟩)] W fun e w' => e = .returned (.bool (nmd names x)) ∧ Below W.heap.size W w' := by
  have hlen := h.len
  subst hlen
  obtain ⟨f, v⟩ := x
  have hb0 : Below W.heap.size W (W.alloc (.cells #[.string f, .string v] 62)) := (Below.refl _ _).alloc (Nat.le_refl _) _
  have h0 := heap_alloc_new W (.cells #[.string f, .string v] 62)
  have ha0 := Lib.cell?_alloc_some (.cells #[.string f, .string v] 62) ha
  unfold fdV
  go_enter Tryd.func91, Tryd.ntmps91
  go_wp2_with fail
  go_loopw [8] (fun i wr => ∃ k : Nat, k ≤ names.length ∧ i = .int .i64 k ∧ Hid ((names.take k).any (fun n => sameB f (mkS n)) = false) ∧ Hid (wr.heap[W.heap.size]? = some (.cells #[.string f, .string v] 62 (0, 0))) ∧ Below W.heap.size W wr) (fun i _ => names.length - (intOf i).toNat)
  case atStart => exact ⟨0, Nat.zero_le _, rfl, rfl, h0, hb0⟩
  case round =>
    obtain ⟨k, hk, rfl, hf, hZ, hbel⟩ := hrel
    by_cases hlt : k < names.length
    · obtain ⟨ad, rfl, hc⟩ := h.at_ (by omega)
      have hcell := cell_kept hbel (hc k names[k] (List.getElem?_eq_getElem hlt))
      obtain ⟨z0, z1⟩ := zero_two hZ.out
      have hxl := hz _ (List.getElem_mem hlt)
      have HT : Hid ((names.take (k + 1)).any (fun n => sameB f (mkS n)) = sameB f (mkS names[k])) := by
        show _ = _
        rw [List.take_succ_eq_append_getElem hlt, List.any_append, hf.out]; simp
      have HM : Hid (sameB f (mkS names[k]) = true → nmd names (f, v) = true) := fun h => List.any_eq_true.2 ⟨names[k], List.getElem_mem hlt, h⟩
      have hys : (mkS names[k]).size ≤ maxLen := by rw [mkS_size]; exact hxl
      obtain ⟨y, hy⟩ : ∃ y, y = mkS names[k] := ⟨_, rfl⟩
      rw [← hy] at hcell HT HM hys
      have hi0 : (0 : Int) ≤ (k : Int) := by omega
      have hi1 : (k : Int) < (names.length : Int) := by omega
      clear hy hf hc
      cases hsm : sameB f y with
      | true =>
        have HS := Lib.hid hsm
        have HR := Lib.hid (HM.out hsm)
        clear hsm HM HT
        go_wp2_with fail
        refine (same_any f y _ hx hys).mono ?_
        rintro e w2 ⟨he, hb2⟩
        rw [HS.out] at he
        subst he
        go_wp2_with fail
        go_ret
        exact ⟨by rw [HR.out]; rfl, hbel.trans (hb2.mono hbel.size)⟩
      | false =>
        have HS := Lib.hid hsm
        have HR := Lib.hid (HT.out.trans hsm)
        clear hsm HM HT
        go_wp2_with fail
        refine (same_any f y _ hx hys).mono ?_
        rintro e w2 ⟨he, hb2⟩
        rw [HS.out] at he
        subst he
        go_wp2_with fail
        go_roundw
        case rel => exact ⟨k + 1, by omega, by go_num, HR, zero_still hb2 hZ.out, hbel.trans (hb2.mono hbel.size)⟩
        case measure => simp [intOf]; omega
    · have HR : Hid (nmd names (f, v) = false) := by
        have := hf.out
        rwa [List.take_of_length_le (by omega)] at this
      clear hf
      go_wp2_with fail
      go_ret
      exact ⟨by rw [HR.out]; rfl, hbel⟩

end Go.Proofs.YthhlcecojeaalaaDoor
end

/-
  Contract of slices.Insert of one field into a row of the call's own.
-/
section
namespace Go.Proofs.YthhlcecojeaalaaDoor
open Go.RowKit

end Go.Proofs.YthhlcecojeaalaaDoor
end
