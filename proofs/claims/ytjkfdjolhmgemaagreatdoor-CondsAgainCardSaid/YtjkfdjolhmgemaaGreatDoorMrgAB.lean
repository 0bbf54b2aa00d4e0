/-
  Texts that the laws of this seat lean on, one behind the other.
-/
import Derived.Test.YtjkfdjolhmgemaaGreatDoorMrgR
import Derived.Test.YtjkfdjolhmgemaaGreatDoorMrgV
import Derived.Test.YtjkfdjolhmgemaaGreatDoorMrgF
import Derived.Test.YtjkfdjolhmgemaaGreatDoorMrgC
import Derived.Test.YtjkfdjolhmgemaaGreatDoorMrgS
import Derived.Test.YtjkfdjolhmgemaaGreatDoorMrgY
import Derived.Test.YtjkfdjolhmgemaaGreatDoorMrgK
import Derived.Deep.RegionHeld3
import Derived.Test.YtjkfdjolhmgemaaGreatDoorMrgQ
import Derived.Test.YtjkfdjolhmgemaaGreatDoorMrgX
import Derived.Test.YtjkfdjolhmgemaaGreatDoorMrgO
import Derived.Test.YtjkfdjolhmgemaaGreatDoorMrgM
import Derived.Laws.Cover1
import Derived.Lib.MinMax
import Derived.IntWalk
import Derived.Test.YtjkfdjolhmgemaaGreatDoorMrgE
set_option linter.unusedSimpArgs false
set_option linter.unusedVariables false
/-
  Plain functions of layer 17, without the program: times in fields, ages, lifetimes.
-/
section
namespace Go.Proofs.YtjkfdjolhmgemaaGreatDoor
open Go.RowKit

def dtS : ByteArray := ⟨#[68, 97, 116, 101]⟩
def exS : ByteArray := ⟨#[69, 120, 112, 105, 114, 101, 115]⟩
def lmS : ByteArray := ⟨#[76, 97, 115, 116, 45, 77, 111, 100, 105, 102, 105, 101, 100]⟩
def agS : ByteArray := ⟨#[65, 103, 101]⟩
def clkN (t : Int) : Int := min (max t 0) 253402300799
def aprN (a b : Int) : Int := min (max (clkN a - clkN b) 0) 2147483648
def whnV (L : List Fd) (name : ByteArray) : Int := if (fdAll L name).length = 1 then (parT (mkS ((fdAll L name).headD []))).1 else 0
def whnB (L : List Fd) (name : ByteArray) : Bool := if (fdAll L name).length = 1 then decide ((parT (mkS ((fdAll L name).headD []))).2 = 0) else false
def datN (L : List Fd) (t : Int) : Int := if whnB L dtS = true then whnV L dtS else t
def usuL : List Int := [200, 203, 204, 300, 301, 308, 404, 405, 410, 414, 501]
def usuB (c : Int) : Bool := usuL.any fun x => x == c
def tolF (n : Int) (e : List UInt8) : Int := max n (secN e)
def tolN (L : List Fd) : Int := ((fdAll L agS).flatMap splO).foldl tolF 0
def lifN (L : List Fd) (code t : Int) : Int :=
  if 0 ≤ (ctP L).sh then (ctP L).sh else if 0 ≤ (ctP L).ma then (ctP L).ma
  else if 0 < (fdAll L exS).length then (if whnB L exS = true then aprN (whnV L exS) (datN L t) else 0)
  else if whnB L lmS = true ∧ usuB code = true then min (aprN (datN L t) (whnV L lmS) / 10) 86400 else 0
def ageN (L : List Fd) (t now : Int) : Int := addI (max (tolN L) (aprN t (datN L t))) (aprN now t)
def lefN (L : List Fd) (code t now : Int) : Int := lessI (lifN L code t) (ageN L t now)
def frsB (L : List Fd) (code t now : Int) : Bool := decide (ageN L t now < lifN L code t)
/-- A stored reply, but for its picks. -/
structure Stor where
  c : Int
  r : ByteArray
  v : Int
  f : List Fd
  b : ByteArray
  t : Int
def srC (s : Stor) (A : Option Addr) (c : Nat) : Array Value := #[.int .i64 s.c, .string s.r, .int .i64 s.v, .slice A s.f.length c, .string s.b]
def stC (s : Stor) (A : Option Addr) (c : Nat) (B : Option Addr) (n d : Nat) : Array Value := #[.int .i64 s.c, .string s.r, .int .i64 s.v, .slice A s.f.length c, .string s.b, .int .i64 s.t, .slice B n d]
/-- Fields that the laws of ages look at. -/
structure FwL (L : List Fd) : Prop where
  n : L.length ≤ 1000
  v : ∀ x ∈ L, x.2.size ≤ 10000
  m : ∀ x ∈ L, x.1.size ≤ 10000
theorem fwl_bd {L : List Fd} (h : FwL L) : ∀ x ∈ L, Bd x := fun x hx => ⟨by have := h.m x hx; omega, by have := h.v x hx; omega⟩
theorem fwl_all {L : List Fd} (h : FwL L) (name : ByteArray) : (fdAll L name).length ≤ 1000 ∧ ∀ v ∈ fdAll L name, v.length ≤ 10000 := by
  unfold fdAll
  refine ⟨by rw [List.length_map]; exact Nat.le_trans (List.length_filter_le _ _) h.n, fun v hv => ?_⟩
  obtain ⟨y, hy, rfl⟩ := List.mem_map.1 hv
  rw [← Lib.size_eq]
  exact h.v y (List.mem_filter.1 hy).1
end Go.Proofs.YtjkfdjolhmgemaaGreatDoor
end

/-
  Plain functions of layer 18, without the program: a reply's tag and validator, what passes, what may be stored, what is to be done with it.
-/
section
namespace Go.Proofs.YtjkfdjolhmgemaaGreatDoor
open Go.RowKit

def etS : ByteArray := ⟨#[69, 84, 97, 103]⟩
def rgS : ByteArray := ⟨#[82, 97, 110, 103, 101]⟩
def irS : ByteArray := ⟨#[73, 102, 45, 82, 97, 110, 103, 101]⟩
def imS : ByteArray := ⟨#[73, 102, 45, 77, 97, 116, 99, 104]⟩
def iuS : ByteArray := ⟨#[73, 102, 45, 85, 110, 109, 111, 100, 105, 102, 105, 101, 100, 45, 83, 105, 110, 99, 101]⟩
def auS : ByteArray := ⟨#[65, 117, 116, 104, 111, 114, 105, 122, 97, 116, 105, 111, 110]⟩
/-- P18.1. -/
def rtB (L : List Fd) : Bool := if (fdAll L etS).length = 1 then tgB (mkS ((fdAll L etS).headD [])) else false
def rtO (L : List Fd) : Tg := if (fdAll L etS).length = 1 then tgO (mkS ((fdAll L etS).headD [])) else (false, ⟨#[]⟩)
def valB (L : List Fd) : Bool := rtB L || whnB L lmS
/-- P18.2. -/
def pasB (Q : List Fd) : Bool := fdGot Q rgS || (fdGot Q irS || (fdGot Q imS || fdGot Q iuS))
/-- P18.3: what the request forbids, and what the reply does. -/
def rstQ (m : ByteArray) (Q : List Fd) : Bool := m.toList == [71, 69, 84] && (!pasB Q && !(ctA Q).ns)
def stP (L : List Fd) (code : Int) : Bool := !(ctP L).ns && (!(ctP L).pv && (!(code == 206) && !(code == 304)))
def stA (Q L : List Fd) : Bool := !fdGot Q auS || ((ctP L).pu || ((ctP L).mc || decide (0 ≤ (ctP L).sh)))
def stU (L : List Fd) (code : Int) : Bool := decide (0 ≤ (ctP L).sh) || (decide (0 ≤ (ctP L).ma) || ((ctP L).pu || (fdGot L exS || usuB code)))
def stoB (m : ByteArray) (Q L : List Fd) (code now : Int) : Bool := rstQ m Q && (stP L code && (stA Q L && (namB L && (stU L code && (valB L || frsB L code now now)))))
/-- P18.4. -/
def verB (Q L : List Fd) (code t now : Int) : Bool :=
  decide (lefN L code t now = 0) || ((ctA Q).nc || ((ctP L).nc || ((decide (0 ≤ (ctA Q).ma) && decide ((ctA Q).ma < ageN L t now)) || (decide (0 ≤ (ctA Q).mf) && decide (lefN L code t now < (ctA Q).mf)))))
def verN (Q L : List Fd) (code t now : Int) : Int := if verB Q L code t now then 2 else 1
/-- P18.5. -/
def invB (m : ByteArray) (code : Int) : Bool := !safeB m && (decide (200 ≤ code) && decide (code ≤ 399))
end Go.Proofs.YtjkfdjolhmgemaaGreatDoor
end

/-
  Plain functions of layer 19, without the program: whether a client has a reply, what it is told, what is asked, what a 304 changes.
-/
section
namespace Go.Proofs.YtjkfdjolhmgemaaGreatDoor
open Go.RowKit

def nnS : ByteArray := ⟨#[73, 102, 45, 78, 111, 110, 101, 45, 77, 97, 116, 99, 104]⟩
def imsS : ByteArray := ⟨#[73, 102, 45, 77, 111, 100, 105, 102, 105, 101, 100, 45, 83, 105, 110, 99, 101]⟩
def nmodS : ByteArray := ⟨#[78, 111, 116, 32, 77, 111, 100, 105, 102, 105, 101, 100]⟩
def ntN : List ByteArray := [⟨#[67, 97, 99, 104, 101, 45, 67, 111, 110, 116, 114, 111, 108]⟩, ⟨#[67, 111, 110, 116, 101, 110, 116, 45, 76, 111, 99, 97, 116, 105, 111, 110]⟩, ⟨#[68, 97, 116, 101]⟩, ⟨#[69, 84, 97, 103]⟩, ⟨#[69, 120, 112, 105, 114, 101, 115]⟩, ⟨#[86, 97, 114, 121]⟩, ⟨#[65, 103, 101]⟩]
def cndN : List (List UInt8) := [nnS.data.toList, imsS.data.toList]
def c3N : List (List UInt8) := [(⟨#[67, 111, 110, 116, 101, 110, 116, 45, 69, 110, 99, 111, 100, 105, 110, 103]⟩ : ByteArray).data.toList, (⟨#[67, 111, 110, 116, 101, 110, 116, 45, 84, 121, 112, 101]⟩ : ByteArray).data.toList, (⟨#[67, 111, 110, 116, 101, 110, 116, 45, 82, 97, 110, 103, 101]⟩ : ByteArray).data.toList]
def c2N : List (List UInt8) := [(⟨#[65, 103, 101]⟩ : ByteArray).data.toList, (⟨#[68, 97, 116, 101]⟩ : ByteArray).data.toList]
/-- P19.1. -/
def satA (Q L : List Fd) : Bool :=
  if fdGot Q nnS = true then lsA (fdGet Q nnS) || (rtB L && mtB (fdGet Q nnS) (rtO L))
  else whnB Q imsS && (whnB L lmS && decide (whnV L lmS ≤ whnV Q imsS))
def satB (m : ByteArray) (Q L : List Fd) (code : Int) : Bool := (m.toList == [71, 69, 84] || m.toList == [72, 69, 65, 68]) && (code == 200 && satA Q L)
def ntB (name : ByteArray) : Bool := ntN.any fun n => sameB n name
def ntF (L : List Fd) : List Fd := L.filter fun x => ntB x.1
def ntR (L : List Fd) : Rply := ⟨304, nmodS, 1, ntF L, ⟨#[]⟩⟩
/-- P19.2. -/
def askF (Q L : List Fd) : List Fd := fdDrop Q cndN ++ (if rtB L then [(nnS, tgS (rtO L))] else []) ++ (if whnB L lmS then [(imsS, fdGet L lmS)] else [])
def askR (t : ByteArray) (Q L : List Fd) : Rqst := ⟨⟨#[71, 69, 84]⟩, t, 1, askF Q L, ⟨#[]⟩⟩
/-- P19.3. -/
def selB (R N : List Fd) : Bool :=
  if fdGot N etS = true then rtB R && (rtB N && wekB (rtO R) (rtO N))
  else !fdGot N lmS || (fdGot R lmS && ((fdGet N lmS).toList == (fdGet R lmS).toList))
/-- P19.4. -/
def comF (N : List Fd) : List Fd := fdDrop (stpL N) c3N
def mrgF (L N : List Fd) : List Fd := fdDrop L (c2N ++ (comF N).map fun x => x.1.data.toList) ++ comF N

end Go.Proofs.YtjkfdjolhmgemaaGreatDoor
end

/-
  Contracts of package fields' Line, long, alike; the tests that choose, IndexFunc and ContainsFunc are handed.
-/
section
namespace Go.Proofs.YtjkfdjolhmgemaaGreatDoor
open Go.RowKit

/-! ### The tests -/
theorem enters_named : ∀ args W, (callFunc 77 args).run Tryz.prog W = .ok (.enter 77 args) W := Go.Proofs.enters_of Tryz.func77 (by kernel_rfl) rfl
theorem enters_not : ∀ args W, (callFunc 76 args).run Tryz.prog W = .ok (.enter 76 args) W := Go.Proofs.enters_of Tryz.func76 (by kernel_rfl) rfl
theorem named_pred (w : World) (a : Nat) (A : Option Addr) (n c : Nat) (names : List (List UInt8)) (ha : w.cell? ⟨a, 0, none⟩ = some (.slice A n c)) (h : SlS w A n c names) (hz : ∀ x ∈ names, x.length ≤ maxLen) (hn : n ≤ 1000000000) :
    PredF w 77 #[.pointer (some ⟨a, 0, none⟩)] (nmd names) := fun W x hb h1 =>
  named_in a A n c names W (cell_kept hb ha) (h.below hb) hz hn x h1.one
theorem not_pred (w : World) (a : Nat) (g : Nat) (caps : Array Value) (p : Fd → Bool) (ha : w.cell? ⟨a, 0, none⟩ = some (.func (.func g) #[] caps))
    (eg : ∀ args W, (callFunc g args).run Tryz.prog W = .ok (.enter g args) W) (hp : PredF w g caps p) :
    PredF w 76 #[.pointer (some ⟨a, 0, none⟩)] (fun x => !p x) := fun W x hb h1 => by
  have ha' := cell_kept hb ha
  have hb0 : Below W.heap.size W (W.alloc (.cells #[.string x.1, .string x.2] 43)) := (Below.refl _ _).alloc (Nat.le_refl _) _
  have hcall := hp (W.alloc (.cells #[.string x.1, .string x.2] 43)) x (hb.alloc hb.size _) h1
  have ha2 := Lib.cell?_alloc_some (.cells #[.string x.1, .string x.2] 43) ha'
  obtain ⟨f, v⟩ := x
  show Calls Tryz.prog 76 #[fdV (f, v), .pointer (some ⟨a, 0, none⟩)] W (fun e w' => e = .returned (.bool (!p (f, v))) ∧ Below W.heap.size W w')
  unfold fdV at *
  have HC := Lib.hid hcall
  clear hcall hp
  generalize p (f, v) = q at *
  cases q
  all_goals
    go_enter Tryz.func76, Tryz.ntmps76
    go_wp2_with fail
    refine HC.out.mono ?_
    rintro e w1 ⟨rfl, hb1⟩
    go_wp2_with fail
    go_ret
    exact ⟨rfl, below_then hb0 hb1⟩

end Go.Proofs.YtjkfdjolhmgemaaGreatDoor
end

/-
  Contracts of package fields' Drop, All, Get, Has.
-/
section
namespace Go.Proofs.YtjkfdjolhmgemaaGreatDoor
open Go.RowKit

theorem drop_any (A B : Option Addr) (n c m d : Nat) (L : List Fd) (names : List (List UInt8)) (w : World) (h : SlF w A n c L) (hn : n ≤ 100000000) (hB : ∀ x ∈ L, Bd x)
    (h' : SlS w B m d names) (hz : ∀ x ∈ names, x.length ≤ maxLen) (hm : m ≤ 1000000000) :
    Calls Tryz.prog 24 #[.slice A n c, .slice B m d] w fun e w' => ∃ v, e = .returned v ∧ OwnF w' w.heap.size 43 v (fdDrop L names) ∧ Below w.heap.size w w' := by
  have hb1 : Below w.heap.size w (w.alloc (.cells #[.slice B m d] 64)) := (Below.refl _ _).alloc (Nat.le_refl _) _
  have hb2 : Below w.heap.size w ((w.alloc (.cells #[.slice B m d] 64)).alloc (.cells #[.func (.func 77) #[] #[.pointer (some ⟨w.heap.size, 0, none⟩)]] 77)) := hb1.alloc (by simp) _
  have p1 : PredF ((w.alloc (.cells #[.slice B m d] 64)).alloc (.cells #[.func (.func 77) #[] #[.pointer (some ⟨w.heap.size, 0, none⟩)]] 77)) 77 #[.pointer (some ⟨w.heap.size, 0, none⟩)] (nmd names) :=
    named_pred _ w.heap.size B m d names (Lib.cell?_alloc_some _ (zero_one (heap_alloc_new w _))) (h'.below hb2) hz hm
  have p2 := not_pred ((w.alloc (.cells #[.slice B m d] 64)).alloc (.cells #[.func (.func 77) #[] #[.pointer (some ⟨w.heap.size, 0, none⟩)]] 77)) (w.heap.size + 1) 77 _ _ (zero_one (heap_alloc2_new w _ _)) enters_named p1
  have hq := choose_any A n c L _ (h.below hb2) hn hB 76 _ _ enters_not p2
  have hs2 : ((w.alloc (.cells #[.slice B m d] 64)).alloc (.cells #[.func (.func 77) #[] #[.pointer (some ⟨w.heap.size, 0, none⟩)]] 77)).heap.size = w.heap.size + 2 := by simp
  have HQ := Lib.hid hq
  have HB2 := Lib.hid hb2
  have HS2 := Lib.hid hs2
  have hD : fdDrop L names = L.filter fun x => !nmd names x := rfl
  rw [hD]
  generalize (L.filter fun x => !nmd names x) = R at *
  clear hq hb1 hb2 hs2 p1 p2 hD
  go_enter Tryz.func24, Tryz.ntmps24
  go_wp2_with fail
  refine (named_any B m d _ rfl _).mono ?_
  rintro e w1 ⟨rfl, rfl⟩
  go_wp2_with fail
  refine (not_any _ _ _ rfl _).mono ?_
  rintro e w1 ⟨rfl, rfl⟩
  go_wp2_with fail
  refine HQ.out.mono ?_
  rintro e w1 ⟨v, rfl, ho, hb⟩
  rw [HS2.out] at ho
  have HO := Lib.hid ho
  have HB := Lib.hid (HB2.out.trans (hb.mono (by rw [HS2.out]; omega)))
  clear ho hb
  go_wp2_with fail
  go_ret
  exact ⟨v, rfl, HO.out.wide (by omega), HB.out⟩

theorem SlS.textAt (w : World) (t : TypeId) (x : ByteArray) {g : Nat} (hg : w.heap.size = g) : SlS (w.alloc (.cells #[.string x] t)) (some ⟨g, 0, none⟩) 1 1 [x.data.toList] := by
  subst hg
  exact SlS.text w t x
/-- What All answers. -/
def Vals (w : World) (X : List (List UInt8)) (e : Ending) (w' : World) : Prop :=
  ∃ A c, e = .returned (.slice A X.length c) ∧ SlS w' A X.length c X ∧ Head w' A ∧ Below w.heap.size w w'

set_option maxHeartbeats 4000000 in
set_option maxRecDepth 100000 in
theorem all_any (A : Option Addr) (n c : Nat) (L : List Fd) (name : ByteArray) (w : World) (h : SlF w A n c L) (hn : n ≤ 100000000) (hB : ∀ x ∈ L, Bd x) (hz : name.size ≤ maxLen) :
    Calls Tryz.prog 55 #[.slice A n c, .string name] w (Vals w (fdAll L name)) := by
  have hb1 : Below w.heap.size w (w.alloc (.cells #[.string name] 9)) := (Below.refl _ _).alloc (Nat.le_refl _) _
  have hb2 : Below w.heap.size w ((w.alloc (.cells #[.string name] 9)).alloc (.cells #[.slice (some ⟨w.heap.size, 0, none⟩) 1 1] 64)) := hb1.alloc (by simp) _
  have p1 : PredF ((w.alloc (.cells #[.string name] 9)).alloc (.cells #[.slice (some ⟨w.heap.size, 0, none⟩) 1 1] 64)) 77 #[.pointer (some ⟨w.heap.size + 1, 0, none⟩)] (nmd [name.data.toList]) :=
    named_pred _ (w.heap.size + 1) _ 1 1 [name.data.toList] (zero_one (heap_alloc2_new w _ _)) ((SlS.text w 9 name).alloc _) (fun x hx => by
      simp only [List.mem_singleton] at hx
      subst hx
      rw [← Lib.size_eq]; exact hz) (by decide)
  rw [nmd_one'] at p1
  have hq := choose_any A n c L _ (h.below hb2) hn hB 77 _ _ enters_named p1
  have hs2 : ((w.alloc (.cells #[.string name] 9)).alloc (.cells #[.slice (some ⟨w.heap.size, 0, none⟩) 1 1] 64)).heap.size = w.heap.size + 2 := by simp
  have HQ := Lib.hid hq
  have HB2 := Lib.hid hb2
  have HS2 := Lib.hid hs2
  have hD : fdAll L name = (L.filter fun x => sameB x.1 name).map fun x => x.2.data.toList := rfl
  rw [hD]
  have hlen : (L.filter fun x => sameB x.1 name).length ≤ 100000000 := Nat.le_trans (List.length_filter_le _ _) (by have := h.len; omega)
  have hsz : ∀ x ∈ (L.filter fun x => sameB x.1 name), x.1.size ≤ maxLen ∧ x.2.size ≤ maxLen := fun x hx => h.sz x ((List.mem_filter.1 hx).1)
  generalize (L.filter fun x => sameB x.1 name) = R at *
  clear hq hb1 hb2 hs2 p1 hD
  go_enter Tryz.func55, Tryz.ntmps55
  go_wp2_with fail
  refine (named_any _ 1 1 _ rfl _).mono ?_
  rintro e w1 ⟨rfl, rfl⟩
  go_wp2_with fail
  refine HQ.out.mono ?_
  rintro e w1 ⟨v, rfl, ho, hb⟩
  have hbw := HB2.out.trans (hb.mono (by rw [HS2.out]; omega))
  obtain ⟨A1, c1, rfl, hF⟩ := ho.slf hsz
  have HF := Lib.hid hF
  have HB := Lib.hid hbw
  clear ho hb hF hbw HQ HB2 HS2
  go_wp2_with fail
  go_loopw [5, 14] (fun v i wr => ∃ k : Nat, k ≤ R.length ∧ i = .int .i64 k ∧ Hid (OwnS wr w1.heap.size 9 v ((R.take k).map fun x => x.2.data.toList)) ∧ Below w1.heap.size w1 wr) (fun _ i _ => R.length - (intOf i).toNat)
  case atStart => exact ⟨0, Nat.zero_le _, rfl, OwnS.nil _ _ _, Below.refl _ _⟩
  case round =>
    obtain ⟨k, hk, rfl, hown, hbel⟩ := hrel
    by_cases hlt : k < R.length
    · obtain ⟨ad, rfl, hc⟩ := HF.out.at_ (by omega)
      obtain ⟨hc0, hc1⟩ := hc k R[k] (List.getElem?_eq_getElem hlt)
      have hcell0 := cell_kept hbel hc0
      have hcell1 := fd_snd (cell_kept hbel hc1)
      have HS : Hid ((R.take (k + 1)).map (fun x => x.2.data.toList) = (R.take k).map (fun x => x.2.data.toList) ++ [R[k].2.data.toList]) := by
        show _ = _
        rw [take_fd R k hlt, List.map_append]; rfl
      have hlx : ((R.take k).map fun x => x.2.data.toList).length ≤ k := by rw [List.length_map, List.length_take]; omega
      generalize R[k] = x at *
      obtain ⟨a, b⟩ := x
      generalize hX : ((R.take k).map fun x => x.2.data.toList) = X at *
      have hi0 : (0 : Int) ≤ (k : Int) := by omega
      have hi1 : (k : Int) < (R.length : Int) := by omega
      have HO := Lib.hid (hown.out.alloc (.cells #[.string a, .string b] 43))
      have HB5 := Lib.hid (hbel.alloc hbel.size (.cells #[.string a, .string b] 43))
      have hs5 := HB5.out.size
      have hs4 := hbel.size
      clear hc hc0 hc1 hown hX
      go_wp2_with (at_builtin; refine wpList_append_sls rfl _ _ _ rfl w1.heap.size 9 Tryz.underlying64 (by kernel_rfl) _ rfl X (HO.out.alloc _) _ _ _ rfl [b.data.toList] (SlS.textAt _ _ b (by simp)) (by simp; omega) (by simp; omega) w1 (HB5.out.alloc hs5 _) ?_; intro v1 w2 ho2 hb2 hz2)
      go_roundw
      case rel => exact ⟨k + 1, by omega, by go_num, by show OwnS _ _ _ _ _; rw [HS.out]; exact ho2.out, hb2⟩
      case measure => simp [intOf]; omega
    · have HE : Hid ((R.take k).map (fun x => x.2.data.toList) = R.map fun x => x.2.data.toList) := by
        show _ = _
        rw [List.take_of_length_le (by omega)]
      rw [HE.out] at hown
      go_wp2_with fail
      go_ret
      obtain ⟨A2, c2, rfl, hA, hH⟩ := hown.out.sls
      exact ⟨A2, c2, rfl, hA, hH, below_then HB.out hbel⟩

theorem getF_any (A : Option Addr) (n c : Nat) (L : List Fd) (name : ByteArray) (w : World) (h : SlF w A n c L) (hn : n ≤ 100000000) (hB : ∀ x ∈ L, Bd x) (hz : name.size ≤ maxLen) (hj : (Lib.join (fdAll L name) [44, 32]).length ≤ 1000000000000) :
    Calls Tryz.prog 25 #[.slice A n c, .string name] w fun e w' => e = .returned (.tuple #[.string (fdGet L name), .bool (fdGot L name)]) ∧ Below w.heap.size w w' := by
  have hq := all_any A n c L name w h hn hB hz
  have hD : fdGet L name = mkS (Lib.join (fdAll L name) [44, 32]) := rfl
  have hE : fdGot L name = decide ((0 : Int) < ((fdAll L name).length : Int)) := by
    unfold fdGot
    cases fdAll L name with
    | nil => rfl
    | cons x r => simp
  have hl : (fdAll L name).length ≤ 100000000 := by
    unfold fdAll
    rw [List.length_map]
    exact Nat.le_trans (List.length_filter_le _ _) (by have := h.len; omega)
  rw [hD, hE]
  generalize fdAll L name = X at *
  have HQ := Lib.hid hq
  have cj := fun A c W (hs : SlS W A X.length c X) hH => join_any A X.length c X W hs hH (by omega) hj
  generalize mkS (Lib.join X [44, 32]) = J at *
  have CJ := Lib.hid cj
  clear hq hD hE cj hj
  go_enter Tryz.func25, Tryz.ntmps25
  go_wp2_with fail
  refine HQ.out.mono ?_
  unfold Vals
  rintro e w1 ⟨A1, c1, rfl, hA, hH, hb1⟩
  go_wp2_with fail
  refine (CJ.out _ _ _ hA hH).mono ?_
  rintro e w2 ⟨rfl, hb2⟩
  by_cases h0 : (0 : Int) < (X.length : Int)
  all_goals
    go_wp2_with fail
    go_ret2
    exact ⟨by simp_all, below_then hb1 hb2⟩

end Go.Proofs.YtjkfdjolhmgemaaGreatDoor
end

/-
  Contracts of package fields' Set, Same, Check.
-/
section
namespace Go.Proofs.YtjkfdjolhmgemaaGreatDoor
open Go.RowKit

/-! ### Set -/
end Go.Proofs.YtjkfdjolhmgemaaGreatDoor
end

/-
  Contracts of the reference's Few, Line (layer 9).
-/
section
namespace Go.Proofs.YtjkfdjolhmgemaaGreatDoor
open Go.RowKit

def okF (b : Nat) (x : Fd) : Bool := decide (x.1.size ≤ b) && decide (x.2.size ≤ b)
def fewB (L : List Fd) (m b : Nat) : Bool := (L.take (m + 1)).all (okF b) && decide (L.length ≤ m)
theorem few_bad {L : List Fd} {m b k : Nat} (hk : k < L.length) (hm : k ≤ m) (h : okF b L[k] = false) : fewB L m b = false := by
  unfold fewB
  have : (L.take (m + 1)).all (okF b) = false := by
    rw [List.all_eq_false]
    exact ⟨L[k], List.mem_take_iff_getElem.2 ⟨k, by omega, rfl⟩, by simp [h]⟩
  rw [this]; rfl
theorem few_all {L : List Fd} {m b k : Nat} (hk : L.length ≤ k) (h : (L.take k).all (okF b) = true) : fewB L m b = decide (L.length ≤ m) := by
  unfold fewB
  rw [List.take_of_length_le hk] at h
  have : (L.take (m + 1)).all (okF b) = true := by
    rw [List.all_eq_true] at h ⊢
    exact fun x hx => h x (List.mem_of_mem_take hx)
  rw [this, Bool.true_and]
theorem few_many {L : List Fd} {m b : Nat} (h : m < L.length) : fewB L m b = false := by
  unfold fewB
  rw [decide_eq_false (by omega), Bool.and_false]
/-- What the law's guard leaves. -/
theorem few_yes {L : List Fd} {m b : Nat} (h : fewB L m b = true) : L.length ≤ m ∧ ∀ x ∈ L, x.1.size ≤ b ∧ x.2.size ≤ b := by
  unfold fewB at h
  rw [Bool.and_eq_true, decide_eq_true_eq, List.all_eq_true] at h
  refine ⟨h.2, fun x hx => ?_⟩
  have := h.1 x (by rw [List.take_of_length_le (by omega)]; exact hx)
  simpa [okF] using this

theorem rf_few (A : Option Addr) (n c m b : Nat) (L : List Fd) (w : World) (h : SlF w A n c L) (hm : m ≤ 1000) :
    Calls Tryz.prog 29 #[.slice A n c, .int .i64 m, .int .i64 b] w fun e w' => e = .returned (.bool (fewB L m b)) ∧ w = w' := by
  have hlen := h.len
  subst hlen
  go_enter Tryz.func29, Tryz.ntmps29
  go_wp2_with fail
  go_loop [7] (fun i => ∃ k : Nat, k ≤ L.length ∧ k ≤ m + 1 ∧ i = .int .i64 k ∧ Hid ((L.take k).all (okF b) = true)) (fun i => L.length - (intOf i).toNat)
  case atStart => exact ⟨0, Nat.zero_le _, Nat.zero_le _, rfl, rfl⟩
  case round =>
    obtain ⟨k, hk, hkm, rfl, hf⟩ := hrel
    by_cases hlt : k < L.length
    · by_cases hle : k ≤ m
      · obtain ⟨ad, rfl, hc⟩ := h.at_ (by omega)
        obtain ⟨hc0, hc1⟩ := hc k L[k] (List.getElem?_eq_getElem hlt)
        have hcell1 := fd_snd hc1
        have HN : Hid (okF b L[k] = false → fewB L m b = false) := fun hh => few_bad hlt hle hh
        have HY : Hid (okF b L[k] = true → (L.take (k + 1)).all (okF b) = true) := fun hh => by
          rw [take_fd L k hlt, List.all_append, hf.out]; simp [hh]
        generalize L[k] = x at *
        obtain ⟨f, v⟩ := x
        have hi0 : (0 : Int) ≤ (k : Int) := by omega
        have hi1 : (k : Int) < (L.length : Int) := by omega
        have hi2 : (k : Int) ≤ (m : Int) := by omega
        clear hc hf
        by_cases h1 : (b : Int) < (f.size : Int)
        · have HR := Lib.hid (HN.out (by simp [okF]; omega))
          clear HN HY
          go_wp2_with fail
          go_ret
          exact ⟨by rw [HR.out]; rfl, rfl⟩
        · by_cases h2 : (b : Int) < (v.size : Int)
          · have HR := Lib.hid (HN.out (by simp [okF]; omega))
            clear HN HY
            go_wp2_with fail
            go_ret
            exact ⟨by rw [HR.out]; rfl, rfl⟩
          · have HR := Lib.hid (HY.out (by simp [okF]; omega))
            clear HN HY
            go_wp2_with fail
            go_round
            case rel => exact ⟨k + 1, by omega, by omega, by go_num, HR⟩
            case measure => simp [intOf]; omega
      · have hi1 : (k : Int) < (L.length : Int) := by omega
        have hi2 : ¬ (k : Int) ≤ (m : Int) := by omega
        have hi3 : ¬ (L.length : Int) ≤ (m : Int) := by omega
        have HR := Lib.hid (few_many (L := L) (m := m) (b := b) (by omega))
        clear hf
        go_wp2_with fail
        go_ret
        exact ⟨by rw [HR.out]; rfl, rfl⟩
    · have hi1 : ¬ (k : Int) < (L.length : Int) := by omega
      have HR := Lib.hid (few_all (L := L) (m := m) (b := b) (k := k) (by omega) hf.out)
      clear hf
      by_cases h3 : (L.length : Int) ≤ (m : Int)
      · have e : decide (L.length ≤ m) = true := decide_eq_true (by omega)
        rw [e] at HR
        clear e
        go_wp2_with fail
        go_ret
        exact ⟨by rw [HR.out]; rfl, rfl⟩
      · have e : decide (L.length ≤ m) = false := decide_eq_false (by omega)
        rw [e] at HR
        clear e
        go_wp2_with fail
        go_ret
        exact ⟨by rw [HR.out]; rfl, rfl⟩

end Go.Proofs.YtjkfdjolhmgemaaGreatDoor
end

/-
  Contracts of the reference's All, Get, Has, Set (layer 9).
-/
section
namespace Go.Proofs.YtjkfdjolhmgemaaGreatDoor
open Go.RowKit

set_option maxHeartbeats 4000000 in
set_option maxRecDepth 100000 in
theorem rf_all (A : Option Addr) (n c : Nat) (L : List Fd) (name : ByteArray) (w : World) (h : SlF w A n c L) (hn : n ≤ 100000000) (hz : name.size ≤ maxLen) :
    Calls Tryz.prog 61 #[.slice A n c, .string name] w (Vals w (fdAll L name)) := by
  have hlen := h.len
  subst hlen
  have hD : fdAll L name = (L.filter fun x => sameB x.1 name).map fun x => x.2.data.toList := rfl
  rw [hD]
  go_enter Tryz.func61, Tryz.ntmps61
  go_wp2_with fail
  go_loopw [5, 6] (fun v i wr => ∃ k : Nat, k ≤ L.length ∧ i = .int .i64 k ∧ Hid (OwnS wr w.heap.size 9 v (((L.take k).filter fun x => sameB x.1 name).map fun x => x.2.data.toList)) ∧ Below w.heap.size w wr) (fun _ i _ => L.length - (intOf i).toNat)
  case atStart => exact ⟨0, Nat.zero_le _, rfl, OwnS.nil _ _ _, Below.refl _ _⟩
  case round =>
    obtain ⟨k, hk, rfl, hown, hbel⟩ := hrel
    by_cases hlt : k < L.length
    · obtain ⟨ad, rfl, hc⟩ := h.at_ (by omega)
      obtain ⟨hc0, hc1⟩ := hc k L[k] (List.getElem?_eq_getElem hlt)
      have hcell0 := cell_kept hbel hc0
      have hc1' := fd_snd hc1
      have hz1 := (h.sz _ (List.getElem_mem hlt)).1
      have hlx : (((L.take k).filter fun x => sameB x.1 name).map fun x => x.2.data.toList).length ≤ k := by
        rw [List.length_map]
        exact Nat.le_trans (List.length_filter_le _ _) (by rw [List.length_take]; omega)
      have HF := filter_snoc (fun x => sameB x.1 name) (L.take k) L[k]
      rw [← take_fd L k hlt] at HF
      generalize L[k] = x at *
      obtain ⟨a, b⟩ := x
      have hi0 : (0 : Int) ≤ (k : Int) := by omega
      have hi1 : (k : Int) < (L.length : Int) := by omega
      have hs4 := hbel.size
      cases hsm : sameB a name with
      | true =>
        have HS : Hid (((L.take (k + 1)).filter fun x => sameB x.1 name).map (fun x => x.2.data.toList) = ((L.take k).filter fun x => sameB x.1 name).map (fun x => x.2.data.toList) ++ [b.data.toList]) := by
          show _ = _
          rw [HF, if_pos hsm, List.map_append]; rfl
        generalize hX : (((L.take k).filter fun x => sameB x.1 name).map fun x => x.2.data.toList) = X at *
        have HSM := Lib.hid hsm
        clear hc hc0 hc1 hX HF hsm
        go_wp2_with fail
        refine (r_same a name _ hz1 hz).mono ?_
        rintro e w1 ⟨he, hb1⟩
        rw [HSM.out] at he
        subst he
        have hcell1 := cell_kept (hbel.trans (hb1.mono hs4)) hc1'
        have HO := Lib.hid (hown.out.below hb1)
        have HB := Lib.hid (hbel.trans (hb1.mono hs4))
        have hs5 := HB.out.size
        clear hb1 hown
        go_wp2_with (at_builtin; refine wpList_append_sls rfl _ _ _ rfl w.heap.size 9 Tryz.underlying64 (by kernel_rfl) _ rfl X (HO.out.alloc _) _ _ _ rfl [b.data.toList] (SlS.textAt _ _ b rfl) (by simp; omega) (by simp; omega) w (HB.out.alloc hs5 _) ?_; intro v1 w2 ho2 hb2 hz2)
        go_roundw
        case rel => exact ⟨k + 1, by omega, by go_num, by show OwnS _ _ _ _ _; rw [HS.out]; exact ho2.out, hb2⟩
        case measure => simp [intOf]; omega
      | false =>
        have HS : Hid (((L.take (k + 1)).filter fun x => sameB x.1 name).map (fun x => x.2.data.toList) = ((L.take k).filter fun x => sameB x.1 name).map (fun x => x.2.data.toList)) := by
          show _ = _
          rw [HF, if_neg (by simp [hsm])]
        have HSM := Lib.hid hsm
        clear hc hc0 hc1 HF hsm hlx
        go_wp2_with fail
        refine (r_same a name _ hz1 hz).mono ?_
        rintro e w1 ⟨he, hb1⟩
        rw [HSM.out] at he
        subst he
        go_wp2_with fail
        go_roundw
        case rel => exact ⟨k + 1, by omega, by go_num, by show OwnS _ _ _ _ _; rw [HS.out]; exact hown.out.below hb1, hbel.trans (hb1.mono hs4)⟩
        case measure => simp [intOf]; omega
    · have HE : Hid (((L.take k).filter fun x => sameB x.1 name).map (fun x => x.2.data.toList) = (L.filter fun x => sameB x.1 name).map fun x => x.2.data.toList) := by
        show _ = _
        rw [List.take_of_length_le (by omega)]
      rw [HE.out] at hown
      go_wp2_with fail
      go_ret
      obtain ⟨A2, c2, rfl, hA, hH⟩ := hown.out.sls
      exact ⟨A2, c2, rfl, hA, hH, hbel⟩

theorem rf_get (A : Option Addr) (n c : Nat) (L : List Fd) (name : ByteArray) (w : World) (h : SlF w A n c L) (hn : n ≤ 10000) (hz : name.size ≤ maxLen) (hB : ∀ x ∈ L, x.2.size ≤ 10000) :
    Calls Tryz.prog 32 #[.slice A n c, .string name] w fun e w' => e = .returned (.tuple #[.string (fdGet L name), .bool (fdGot L name)]) ∧ Below w.heap.size w w' := by
  have hq := rf_all A n c L name w h (by omega) hz
  have hD : fdGet L name = mkS (Lib.join (fdAll L name) [44, 32]) := rfl
  have hE : fdGot L name = decide ((0 : Int) < ((fdAll L name).length : Int)) := by
    unfold fdGot
    cases fdAll L name with
    | nil => rfl
    | cons x r => simp
  have hl : (fdAll L name).length ≤ 10000 := by
    unfold fdAll
    rw [List.length_map]
    exact Nat.le_trans (List.length_filter_le _ _) (by have := h.len; omega)
  have hx : ∀ x ∈ fdAll L name, x.length ≤ 10000 := fun x hx => by
    unfold fdAll at hx
    obtain ⟨y, hy, rfl⟩ := List.mem_map.1 hx
    rw [← Lib.size_eq]
    exact hB y (List.mem_filter.1 hy).1
  rw [hD, hE]
  generalize fdAll L name = X at *
  have HQ := Lib.hid hq
  have cj := fun A c W (hs : SlS W A X.length c X) => r_join A X.length c X W hs hl hx
  generalize mkS (Lib.join X [44, 32]) = J at *
  have CJ := Lib.hid cj
  clear hq hD hE cj hx
  go_enter Tryz.func32, Tryz.ntmps32
  go_wp2_with fail
  refine HQ.out.mono ?_
  unfold Vals
  rintro e w1 ⟨A1, c1, rfl, hA, hH, hb1⟩
  go_wp2_with fail
  refine (CJ.out _ _ _ hA).mono ?_
  rintro e w2 ⟨rfl, rfl⟩
  by_cases h0 : (0 : Int) < (X.length : Int)
  all_goals
    go_wp2_with fail
    go_ret2
    exact ⟨by simp_all, hb1⟩

/-! ### Set -/
end Go.Proofs.YtjkfdjolhmgemaaGreatDoor
end

/-
  Contracts of the reference's clock, apart, When, Date, Usual, Told (layer 17).
-/
section
namespace Go.Proofs.YtjkfdjolhmgemaaGreatDoor
open Go.RowKit

set_option maxHeartbeats 4000000 in
set_option maxRecDepth 100000 in
theorem r_when (A : Option Addr) (c : Nat) (L : List Fd) (name : ByteArray) (w : World) (h : SlF w A L.length c L) (hL : FwL L) (hz : name.size ≤ maxLen) :
    Calls Tryz.prog 36 #[.slice A L.length c, .string name] w fun e w' => e = .returned (.tuple #[.int .i64 (whnV L name), .bool (whnB L name)]) ∧ Below w.heap.size w w' := by
  have C1 := Lib.hid (rf_all A L.length c L name w h (by have := hL.n; omega) hz)
  have hvz := (fwl_all hL name).2
  have hV : whnV L name = if (fdAll L name).length = 1 then (parT (mkS ((fdAll L name).headD []))).1 else 0 := rfl
  have hB : whnB L name = if (fdAll L name).length = 1 then decide ((parT (mkS ((fdAll L name).headD []))).2 = 0) else false := rfl
  generalize whnV L name = V at *
  generalize whnB L name = b at *
  generalize fdAll L name = X at *
  clear h hL hz
  unfold Vals at C1
  by_cases h1 : X.length = 1
  · rw [if_pos h1] at hV hB
    obtain ⟨x, rfl⟩ : ∃ x, X = [x] := by
      match X, h1 with
      | [x], _ => exact ⟨x, rfl⟩
    replace hV : V = (parT (mkS x)).1 := hV
    replace hB : b = decide ((parT (mkS x)).2 = 0) := hB
    have hxz := hvz x (List.mem_singleton.2 rfl)
    have CP := Lib.hid (fun W => r_parse (mkS x) (by rw [mkS_size]; omega) W)
    rw [← hV] at CP
    obtain ⟨q, hq⟩ : ∃ q, q = (parT (mkS x)).2 := ⟨_, rfl⟩
    rw [← hq] at CP
    replace hB : b = decide (q = 0) := by rw [hB, hq]
    clear hq
    obtain ⟨xs, hxs⟩ : ∃ xs, xs = mkS x := ⟨_, rfl⟩
    rw [← hxs] at CP
    have HX := Lib.hid hxs
    have HB := Lib.hid hB
    clear hV hB hvz hxs hxz
    simp only [List.length_singleton] at C1
    go_enter Tryz.func36, Tryz.ntmps36
    go_wp2_with fail
    refine C1.out.mono ?_
    rintro e w1 ⟨A1, c1, rfl, hS, _, hb1⟩
    obtain ⟨ad, rfl, hc⟩ := hS.at_ (by omega)
    have hcell := hc 0 x rfl
    rw [Addr.add_zero', ← HX.out] at hcell
    have HB1 := Lib.hid hb1
    clear hS hc hb1 C1
    go_wp2_with fail
    refine (CP.out _).mono ?_
    rintro e w2 ⟨rfl, hb2⟩
    go_wp2_with fail
    go_ret2
    exact ⟨by rw [HB.out]; first | done | rfl, below_then HB1.out hb2⟩
  · rw [if_neg h1] at hV hB
    subst hV hB
    have h1' : ¬ (X.length : Int) = 1 := by omega
    generalize X.length = n at *
    clear h1 hvz
    go_enter Tryz.func36, Tryz.ntmps36
    go_wp2_with fail
    refine C1.out.mono ?_
    rintro e w1 ⟨A1, c1, rfl, _, _, hb1⟩
    go_wp2_with fail
    go_ret2
    exact ⟨rfl, hb1⟩

end Go.Proofs.YtjkfdjolhmgemaaGreatDoor
end

/-
  Contract of the reference's elements (layer 13).
-/
section
namespace Go.Proofs.YtjkfdjolhmgemaaGreatDoor
open Go.RowKit

end Go.Proofs.YtjkfdjolhmgemaaGreatDoor
end
