/-
  Texts that the laws of this seat lean on, one behind the other.
-/
import Derived.Test.YtnembpklidcgoaaGreatDoorMrhS
import Derived.Test.YtnembpklidcgoaaGreatDoorMrhV
import Derived.Test.YtnembpklidcgoaaGreatDoorMrhF
import Derived.Test.YtnembpklidcgoaaGreatDoorMrhC
import Derived.Test.YtnembpklidcgoaaGreatDoorMrhY
import Derived.Test.YtnembpklidcgoaaGreatDoorMrhK
import Derived.Deep.RegionHeld3
import Derived.Test.YtnembpklidcgoaaGreatDoorMrhR
import Derived.Test.YtnembpklidcgoaaGreatDoorMrhT
import Derived.Test.YtnembpklidcgoaaGreatDoorMrhX
import Derived.Test.YtnembpklidcgoaaGreatDoorMrhO
import Derived.Test.YtnembpklidcgoaaGreatDoorMrhM
import Derived.Laws.Cover1
import Derived.Lib.MinMax
import Derived.IntWalk
set_option linter.unusedSimpArgs false
set_option linter.unusedVariables false
/-
  Plain functions of layer 17, without the program: times in fields, ages, lifetimes.
-/
section
namespace Go.Proofs.YtnembpklidcgoaaGreatDoor
open Go.RowKit

def dtS : ByteArray := ⟨#[68, 97, 116, 101]⟩
def exS : ByteArray := ⟨#[69, 120, 112, 105, 114, 101, 115]⟩
def lmS : ByteArray := ⟨#[76, 97, 115, 116, 45, 77, 111, 100, 105, 102, 105, 101, 100]⟩
def agS : ByteArray := ⟨#[65, 103, 101]⟩
def clkN (t : Int) : Int := min (max t 0) 253402300799
def aprN (a b : Int) : Int := min (max (clkN a - clkN b) 0) 2147483648
theorem clkN_bd (t : Int) : 0 ≤ clkN t ∧ clkN t ≤ 253402300799 := by unfold clkN; omega
theorem aprN_bd (a b : Int) : 0 ≤ aprN a b ∧ aprN a b ≤ 2147483648 := by unfold aprN; omega
def whnV (L : List Fd) (name : ByteArray) : Int := if (fdAll L name).length = 1 then (parT (mkS ((fdAll L name).headD []))).1 else 0
def whnB (L : List Fd) (name : ByteArray) : Bool := if (fdAll L name).length = 1 then decide ((parT (mkS ((fdAll L name).headD []))).2 = 0) else false
def datN (L : List Fd) (t : Int) : Int := if whnB L dtS = true then whnV L dtS else t
def usuL : List Int := [200, 203, 204, 300, 301, 308, 404, 405, 410, 414, 501]
def usuB (c : Int) : Bool := usuL.any fun x => x == c
def tolF (n : Int) (e : List UInt8) : Int := max n (secN e)
def tolN (L : List Fd) : Int := ((fdAll L agS).flatMap splO).foldl tolF 0
def lifN (L : List Fd) (code t : Int) : Int :=
  if 0 ≤ (ctP L).sh then (ctP L).sh else if 0 ≤ (ctP L).ma then (ctP L).ma
  else if 0 < (fdAll L exS).length then (if whnB L exS = true then aprN (whnV L exS) (datN L t) else 0)
  else if whnB L lmS = true ∧ usuB code = true then min (aprN (datN L t) (whnV L lmS) / 10) 86400 else 0
def ageN (L : List Fd) (t now : Int) : Int := addI (max (tolN L) (aprN t (datN L t))) (aprN now t)
def lefN (L : List Fd) (code t now : Int) : Int := lessI (lifN L code t) (ageN L t now)
def frsB (L : List Fd) (code t now : Int) : Bool := decide (ageN L t now < lifN L code t)
/-- A stored reply, but for its picks. -/
structure Stor where
  c : Int
  r : ByteArray
  v : Int
  f : List Fd
  b : ByteArray
  t : Int
def srC (s : Stor) (A : Option Addr) (c : Nat) : Array Value := #[.int .i64 s.c, .string s.r, .int .i64 s.v, .slice A s.f.length c, .string s.b]
def stC (s : Stor) (A : Option Addr) (c : Nat) (B : Option Addr) (n d : Nat) : Array Value := #[.int .i64 s.c, .string s.r, .int .i64 s.v, .slice A s.f.length c, .string s.b, .int .i64 s.t, .slice B n d]
/-- Fields that the laws of ages look at. -/
structure FwL (L : List Fd) : Prop where
  n : L.length ≤ 1000
  v : ∀ x ∈ L, x.2.size ≤ 10000
  m : ∀ x ∈ L, x.1.size ≤ 10000
theorem fwl_bd {L : List Fd} (h : FwL L) : ∀ x ∈ L, Bd x := fun x hx => ⟨by have := h.m x hx; omega, by have := h.v x hx; omega⟩
theorem fwl_all {L : List Fd} (h : FwL L) (name : ByteArray) : (fdAll L name).length ≤ 1000 ∧ ∀ v ∈ fdAll L name, v.length ≤ 10000 := by
  unfold fdAll
  refine ⟨by rw [List.length_map]; exact Nat.le_trans (List.length_filter_le _ _) h.n, fun v hv => ?_⟩
  obtain ⟨y, hy, rfl⟩ := List.mem_map.1 hv
  rw [← Lib.size_eq]
  exact h.v y (List.mem_filter.1 hy).1
theorem tol_bd (E : List (List UInt8)) : ∀ n : Int, 0 ≤ n ∧ n ≤ 2147483648 → 0 ≤ E.foldl tolF n ∧ E.foldl tolF n ≤ 2147483648 := by
  induction E with
  | nil => exact fun _ h => h
  | cons e E ih =>
    intro n h
    rw [List.foldl_cons]
    refine ih _ ?_
    unfold tolF secN
    split
    · have h1 := cutV_nn (b := 10) (cut := 2147483648) (by omega) (by omega) e
      have h2 := cutV_le (b := 10) (cut := 2147483648) (by omega) e
      omega
    · omega
theorem tolN_bd (L : List Fd) : 0 ≤ tolN L ∧ tolN L ≤ 2147483648 := tol_bd _ 0 (by omega)

end Go.Proofs.YtnembpklidcgoaaGreatDoor
end

/-
  Plain functions of layer 18, without the program: a reply's tag and validator, what passes, what may be stored, what is to be done with it.
-/
section
namespace Go.Proofs.YtnembpklidcgoaaGreatDoor
open Go.RowKit

def etS : ByteArray := ⟨#[69, 84, 97, 103]⟩
def rgS : ByteArray := ⟨#[82, 97, 110, 103, 101]⟩
def irS : ByteArray := ⟨#[73, 102, 45, 82, 97, 110, 103, 101]⟩
def imS : ByteArray := ⟨#[73, 102, 45, 77, 97, 116, 99, 104]⟩
def iuS : ByteArray := ⟨#[73, 102, 45, 85, 110, 109, 111, 100, 105, 102, 105, 101, 100, 45, 83, 105, 110, 99, 101]⟩
def auS : ByteArray := ⟨#[65, 117, 116, 104, 111, 114, 105, 122, 97, 116, 105, 111, 110]⟩
/-- P18.1. -/
def rtB (L : List Fd) : Bool := if (fdAll L etS).length = 1 then tgB (mkS ((fdAll L etS).headD [])) else false
def rtO (L : List Fd) : Tg := if (fdAll L etS).length = 1 then tgO (mkS ((fdAll L etS).headD [])) else (false, ⟨#[]⟩)
def valB (L : List Fd) : Bool := rtB L || whnB L lmS
/-- P18.2. -/
def pasB (Q : List Fd) : Bool := fdGot Q rgS || (fdGot Q irS || (fdGot Q imS || fdGot Q iuS))
/-- P18.3: what the request forbids, and what the reply does. -/
def rstQ (m : ByteArray) (Q : List Fd) : Bool := m.toList == [71, 69, 84] && (!pasB Q && !(ctA Q).ns)
def stP (L : List Fd) (code : Int) : Bool := !(ctP L).ns && (!(ctP L).pv && (!(code == 206) && !(code == 304)))
def stA (Q L : List Fd) : Bool := !fdGot Q auS || ((ctP L).pu || ((ctP L).mc || decide (0 ≤ (ctP L).sh)))
def stU (L : List Fd) (code : Int) : Bool := decide (0 ≤ (ctP L).sh) || (decide (0 ≤ (ctP L).ma) || ((ctP L).pu || (fdGot L exS || usuB code)))
def stoB (m : ByteArray) (Q L : List Fd) (code now : Int) : Bool := rstQ m Q && (stP L code && (stA Q L && (namB L && (stU L code && (valB L || frsB L code now now)))))
/-- P18.4. -/
def verB (Q L : List Fd) (code t now : Int) : Bool :=
  decide (lefN L code t now = 0) || ((ctA Q).nc || ((ctP L).nc || ((decide (0 ≤ (ctA Q).ma) && decide ((ctA Q).ma < ageN L t now)) || (decide (0 ≤ (ctA Q).mf) && decide (lefN L code t now < (ctA Q).mf)))))
def verN (Q L : List Fd) (code t now : Int) : Int := if verB Q L code t now then 2 else 1
/-- P18.5. -/
def invB (m : ByteArray) (code : Int) : Bool := !safeB m && (decide (200 ≤ code) && decide (code ≤ 399))
theorem got_len (L : List Fd) (name : ByteArray) : fdGot L name = decide ((0 : Int) < ((fdAll L name).length : Int)) := by
  unfold fdGot
  cases fdAll L name with
  | nil => rfl
  | cons a X => simp

end Go.Proofs.YtnembpklidcgoaaGreatDoor
end

/-
  Contracts of package fields' Line, long, alike; the tests that choose, IndexFunc and ContainsFunc are handed.
-/
section
namespace Go.Proofs.YtnembpklidcgoaaGreatDoor
open Go.RowKit

/-! ### The tests -/
theorem enters_named : ∀ args W, (callFunc 123 args).run Tryz.prog W = .ok (.enter 123 args) W := Go.Proofs.enters_of Tryz.func123 (by kernel_rfl) rfl
theorem enters_has : ∀ args W, (callFunc 101 args).run Tryz.prog W = .ok (.enter 101 args) W := Go.Proofs.enters_of Tryz.func101 (by kernel_rfl) rfl

theorem named_pred (w : World) (a : Nat) (A : Option Addr) (n c : Nat) (names : List (List UInt8)) (ha : w.cell? ⟨a, 0, none⟩ = some (.slice A n c)) (h : SlS w A n c names) (hz : ∀ x ∈ names, x.length ≤ maxLen) (hn : n ≤ 1000000000) :
    PredF w 123 #[.pointer (some ⟨a, 0, none⟩)] (nmd names) := fun W x hb h1 =>
  named_in a A n c names W (cell_kept hb ha) (h.below hb) hz hn x h1.one
end Go.Proofs.YtnembpklidcgoaaGreatDoor
end

/-
  Contracts of package fields' Drop, All, Get, Has.
-/
section
namespace Go.Proofs.YtnembpklidcgoaaGreatDoor
open Go.RowKit

theorem SlS.textAt (w : World) (t : TypeId) (x : ByteArray) {g : Nat} (hg : w.heap.size = g) : SlS (w.alloc (.cells #[.string x] t)) (some ⟨g, 0, none⟩) 1 1 [x.data.toList] := by
  subst hg
  exact SlS.text w t x
/-- What All answers. -/
def Vals (w : World) (X : List (List UInt8)) (e : Ending) (w' : World) : Prop :=
  ∃ A c, e = .returned (.slice A X.length c) ∧ SlS w' A X.length c X ∧ Head w' A ∧ Below w.heap.size w w'

set_option maxHeartbeats 4000000 in
set_option maxRecDepth 100000 in
theorem all_any (A : Option Addr) (n c : Nat) (L : List Fd) (name : ByteArray) (w : World) (h : SlF w A n c L) (hn : n ≤ 100000000) (hB : ∀ x ∈ L, Bd x) (hz : name.size ≤ maxLen) :
    Calls Tryz.prog 28 #[.slice A n c, .string name] w (Vals w (fdAll L name)) := by
  have hb1 : Below w.heap.size w (w.alloc (.cells #[.string name] 9)) := (Below.refl _ _).alloc (Nat.le_refl _) _
  have hb2 : Below w.heap.size w ((w.alloc (.cells #[.string name] 9)).alloc (.cells #[.slice (some ⟨w.heap.size, 0, none⟩) 1 1] 52)) := hb1.alloc (by simp) _
  have p1 : PredF ((w.alloc (.cells #[.string name] 9)).alloc (.cells #[.slice (some ⟨w.heap.size, 0, none⟩) 1 1] 52)) 123 #[.pointer (some ⟨w.heap.size + 1, 0, none⟩)] (nmd [name.data.toList]) :=
    named_pred _ (w.heap.size + 1) _ 1 1 [name.data.toList] (zero_one (heap_alloc2_new w _ _)) ((SlS.text w 9 name).alloc _) (fun x hx => by
      simp only [List.mem_singleton] at hx
      subst hx
      rw [← Lib.size_eq]; exact hz) (by decide)
  rw [nmd_one'] at p1
  have hq := choose_any A n c L _ (h.below hb2) hn hB 123 _ _ enters_named p1
  have hs2 : ((w.alloc (.cells #[.string name] 9)).alloc (.cells #[.slice (some ⟨w.heap.size, 0, none⟩) 1 1] 52)).heap.size = w.heap.size + 2 := by simp
  have HQ := Lib.hid hq
  have HB2 := Lib.hid hb2
  have HS2 := Lib.hid hs2
  have hD : fdAll L name = (L.filter fun x => sameB x.1 name).map fun x => x.2.data.toList := rfl
  rw [hD]
  have hlen : (L.filter fun x => sameB x.1 name).length ≤ 100000000 := Nat.le_trans (List.length_filter_le _ _) (by have := h.len; omega)
  have hsz : ∀ x ∈ (L.filter fun x => sameB x.1 name), x.1.size ≤ maxLen ∧ x.2.size ≤ maxLen := fun x hx => h.sz x ((List.mem_filter.1 hx).1)
  generalize (L.filter fun x => sameB x.1 name) = R at *
  clear hq hb1 hb2 hs2 p1 hD
  go_enter Tryz.func28, Tryz.ntmps28
  go_wp2_with fail
  refine (named_any _ 1 1 _ rfl _).mono ?_
  rintro e w1 ⟨rfl, rfl⟩
  go_wp2_with fail
  refine HQ.out.mono ?_
  rintro e w1 ⟨v, rfl, ho, hb⟩
  have hbw := HB2.out.trans (hb.mono (by rw [HS2.out]; omega))
  obtain ⟨A1, c1, rfl, hF⟩ := ho.slf hsz
  have HF := Lib.hid hF
  have HB := Lib.hid hbw
  clear ho hb hF hbw HQ HB2 HS2
  go_wp2_with fail
  go_loopw [5, 14] (fun v i wr => ∃ k : Nat, k ≤ R.length ∧ i = .int .i64 k ∧ Hid (OwnS wr w1.heap.size 9 v ((R.take k).map fun x => x.2.data.toList)) ∧ Below w1.heap.size w1 wr) (fun _ i _ => R.length - (intOf i).toNat)
  case atStart => exact ⟨0, Nat.zero_le _, rfl, OwnS.nil _ _ _, Below.refl _ _⟩
  case round =>
    obtain ⟨k, hk, rfl, hown, hbel⟩ := hrel
    by_cases hlt : k < R.length
    · obtain ⟨ad, rfl, hc⟩ := HF.out.at_ (by omega)
      obtain ⟨hc0, hc1⟩ := hc k R[k] (List.getElem?_eq_getElem hlt)
      have hcell0 := cell_kept hbel hc0
      have hcell1 := fd_snd (cell_kept hbel hc1)
      have HS : Hid ((R.take (k + 1)).map (fun x => x.2.data.toList) = (R.take k).map (fun x => x.2.data.toList) ++ [R[k].2.data.toList]) := by
        show _ = _
        rw [take_fd R k hlt, List.map_append]; rfl
      have hlx : ((R.take k).map fun x => x.2.data.toList).length ≤ k := by rw [List.length_map, List.length_take]; omega
      generalize R[k] = x at *
      obtain ⟨a, b⟩ := x
      generalize hX : ((R.take k).map fun x => x.2.data.toList) = X at *
      have hi0 : (0 : Int) ≤ (k : Int) := by omega
      have hi1 : (k : Int) < (R.length : Int) := by omega
      have HO := Lib.hid (hown.out.alloc (.cells #[.string a, .string b] 50))
      have HB5 := Lib.hid (hbel.alloc hbel.size (.cells #[.string a, .string b] 50))
      have hs5 := HB5.out.size
      have hs4 := hbel.size
      clear hc hc0 hc1 hown hX
      go_wp2_with (at_builtin; refine wpList_append_sls rfl _ _ _ rfl w1.heap.size 9 Tryz.underlying52 (by kernel_rfl) _ rfl X (HO.out.alloc _) _ _ _ rfl [b.data.toList] (SlS.textAt _ _ b (by simp)) (by simp; omega) (by simp; omega) w1 (HB5.out.alloc hs5 _) ?_; intro v1 w2 ho2 hb2 hz2)
      go_roundw
      case rel => exact ⟨k + 1, by omega, by go_num, by show OwnS _ _ _ _ _; rw [HS.out]; exact ho2.out, hb2⟩
      case measure => simp [intOf]; omega
    · have HE : Hid ((R.take k).map (fun x => x.2.data.toList) = R.map fun x => x.2.data.toList) := by
        show _ = _
        rw [List.take_of_length_le (by omega)]
      rw [HE.out] at hown
      go_wp2_with fail
      go_ret
      obtain ⟨A2, c2, rfl, hA, hH⟩ := hown.out.sls
      exact ⟨A2, c2, rfl, hA, hH, below_then HB.out hbel⟩

theorem getF_any (A : Option Addr) (n c : Nat) (L : List Fd) (name : ByteArray) (w : World) (h : SlF w A n c L) (hn : n ≤ 100000000) (hB : ∀ x ∈ L, Bd x) (hz : name.size ≤ maxLen) (hj : (Lib.join (fdAll L name) [44, 32]).length ≤ 1000000000000) :
    Calls Tryz.prog 62 #[.slice A n c, .string name] w fun e w' => e = .returned (.tuple #[.string (fdGet L name), .bool (fdGot L name)]) ∧ Below w.heap.size w w' := by
  have hq := all_any A n c L name w h hn hB hz
  have hD : fdGet L name = mkS (Lib.join (fdAll L name) [44, 32]) := rfl
  have hE : fdGot L name = decide ((0 : Int) < ((fdAll L name).length : Int)) := by
    unfold fdGot
    cases fdAll L name with
    | nil => rfl
    | cons x r => simp
  have hl : (fdAll L name).length ≤ 100000000 := by
    unfold fdAll
    rw [List.length_map]
    exact Nat.le_trans (List.length_filter_le _ _) (by have := h.len; omega)
  rw [hD, hE]
  generalize fdAll L name = X at *
  have HQ := Lib.hid hq
  have cj := fun A c W (hs : SlS W A X.length c X) hH => join_any A X.length c X W hs hH (by omega) hj
  generalize mkS (Lib.join X [44, 32]) = J at *
  have CJ := Lib.hid cj
  clear hq hD hE cj hj
  go_enter Tryz.func62, Tryz.ntmps62
  go_wp2_with fail
  refine HQ.out.mono ?_
  unfold Vals
  rintro e w1 ⟨A1, c1, rfl, hA, hH, hb1⟩
  go_wp2_with fail
  refine (CJ.out _ _ _ hA hH).mono ?_
  rintro e w2 ⟨rfl, hb2⟩
  by_cases h0 : (0 : Int) < (X.length : Int)
  all_goals
    go_wp2_with fail
    go_ret2
    exact ⟨by simp_all, below_then hb1 hb2⟩

theorem has_in (a : Nat) (item : ByteArray) (W : World) (ha : W.cell? ⟨a, 0, none⟩ = some (.string item)) (hi : item.size ≤ maxLen) (x : List UInt8) (hx : x.length ≤ 1000000000) :
    Calls Tryz.prog 101 #[.string (mkS x), .pointer (some ⟨a, 0, none⟩)] W fun e w' => e = .returned (.bool (hasL (splO x) item)) ∧ Below W.heap.size W w' := by
  have cc := has_any (mkS x) item W (by rw [mkS_size]; exact hx) hi
  rw [mkS_list] at cc
  generalize hasL (splO x) item = q at *
  generalize mkS x = s at *
  have CC := Lib.hid cc
  clear cc
  go_enter Tryz.func101, Tryz.ntmps101
  go_wp2_with fail
  refine CC.out.mono ?_
  rintro e w1 ⟨rfl, hb1⟩
  go_wp2_with fail
  go_ret
  exact ⟨rfl, hb1⟩

theorem hasF_any (A : Option Addr) (n c : Nat) (L : List Fd) (name item : ByteArray) (w : World) (h : SlF w A n c L) (hn : n ≤ 100000000) (hB : ∀ x ∈ L, Bd x) (hz : name.size ≤ maxLen) (hi : item.size ≤ maxLen) :
    Calls Tryz.prog 63 #[.slice A n c, .string name, .string item] w fun e w' => e = .returned (.bool (fdHas L name item)) ∧ Below w.heap.size w w' := by
  have hmf : ∀ (fn : Fn) (first cap : Array Value) (w : World), (Instr.makeFunc fn first cap).run Tryz.prog w = .ok (.func fn first cap) w := fun _ _ _ _ => rfl
  have hb1 : Below w.heap.size w (w.alloc (.cells #[.string item] 9)) := (Below.refl _ _).alloc (Nat.le_refl _) _
  have hq := all_any A n c L name (w.alloc (.cells #[.string item] 9)) (h.below hb1) hn hB hz
  have hD : fdHas L name item = (fdAll L name).any fun v => hasL (splO v) item := rfl
  have hl : (fdAll L name).length ≤ 100000000 := by
    unfold fdAll
    rw [List.length_map]
    exact Nat.le_trans (List.length_filter_le _ _) (by have := h.len; omega)
  have hx : ∀ x ∈ fdAll L name, x.length ≤ 1000000000 := fun x hx => by
    unfold fdAll at hx
    obtain ⟨y, hy, rfl⟩ := List.mem_map.1 hx
    rw [← Lib.size_eq]
    exact (hB y ((List.mem_filter.1 hy).1)).2
  rw [hD]
  generalize fdAll L name = X at *
  have cj := fun A c W (hb : Below w.heap.size (w.alloc (.cells #[.string item] 9)) W) (hc : W.cell? ⟨w.heap.size, 0, none⟩ = some (.string item)) (hs : SlS W A X.length c X) =>
    idxS_has A X.length c X W hs (by omega) hx 101 #[.pointer (some ⟨w.heap.size, 0, none⟩)] (fun v => hasL (splO v) item) enters_has (fun W' x hb' hx' => has_in w.heap.size item W' (cell_kept hb' hc) hi x hx')
  generalize (X.any fun v => hasL (splO v) item) = R at *
  have HQ := Lib.hid hq
  have CJ := Lib.hid cj
  clear hq hD cj hx
  go_enter Tryz.func63, Tryz.ntmps63
  go_wp2_with fail
  refine HQ.out.mono ?_
  unfold Vals
  rintro e w1 ⟨A1, c1, rfl, hA, hH, hb2⟩
  have hc := zero_one (zero_at hb2)
  go_wp2_with fail
  refine (CJ.out _ _ _ (hb2.mono (by simp)) hc hA).mono ?_
  rintro e w2 ⟨rfl, hb3⟩
  go_wp2_with fail
  go_ret
  exact ⟨rfl, below_then (zero_then hb2) hb3⟩

end Go.Proofs.YtnembpklidcgoaaGreatDoor
end

/-
  Contracts of package fields' Set, Same, Check.
-/
section
namespace Go.Proofs.YtnembpklidcgoaaGreatDoor
open Go.RowKit

/-! ### Set -/
end Go.Proofs.YtnembpklidcgoaaGreatDoor
end

/-
  Contracts of the reference's Few, Line (layer 9).
-/
section
namespace Go.Proofs.YtnembpklidcgoaaGreatDoor
open Go.RowKit

def okF (b : Nat) (x : Fd) : Bool := decide (x.1.size ≤ b) && decide (x.2.size ≤ b)
def fewB (L : List Fd) (m b : Nat) : Bool := (L.take (m + 1)).all (okF b) && decide (L.length ≤ m)
theorem few_bad {L : List Fd} {m b k : Nat} (hk : k < L.length) (hm : k ≤ m) (h : okF b L[k] = false) : fewB L m b = false := by
  unfold fewB
  have : (L.take (m + 1)).all (okF b) = false := by
    rw [List.all_eq_false]
    exact ⟨L[k], List.mem_take_iff_getElem.2 ⟨k, by omega, rfl⟩, by simp [h]⟩
  rw [this]; rfl
theorem few_all {L : List Fd} {m b k : Nat} (hk : L.length ≤ k) (h : (L.take k).all (okF b) = true) : fewB L m b = decide (L.length ≤ m) := by
  unfold fewB
  rw [List.take_of_length_le hk] at h
  have : (L.take (m + 1)).all (okF b) = true := by
    rw [List.all_eq_true] at h ⊢
    exact fun x hx => h x (List.mem_of_mem_take hx)
  rw [this, Bool.true_and]
theorem few_many {L : List Fd} {m b : Nat} (h : m < L.length) : fewB L m b = false := by
  unfold fewB
  rw [decide_eq_false (by omega), Bool.and_false]
/-- What the law's guard leaves. -/
theorem few_yes {L : List Fd} {m b : Nat} (h : fewB L m b = true) : L.length ≤ m ∧ ∀ x ∈ L, x.1.size ≤ b ∧ x.2.size ≤ b := by
  unfold fewB at h
  rw [Bool.and_eq_true, decide_eq_true_eq, List.all_eq_true] at h
  refine ⟨h.2, fun x hx => ?_⟩
  have := h.1 x (by rw [List.take_of_length_le (by omega)]; exact hx)
  simpa [okF] using this

theorem rf_few (A : Option Addr) (n c m b : Nat) (L : List Fd) (w : World) (h : SlF w A n c L) (hm : m ≤ 1000) :
    Calls Tryz.prog 27 #[.slice A n c, .int .i64 m, .int .i64 b] w fun e w' => e = .returned (.bool (fewB L m b)) ∧ w = w' := by
  have hlen := h.len
  subst hlen
  go_enter Tryz.func27, Tryz.ntmps27
  go_wp2_with fail
  go_loop [7] (fun i => ∃ k : Nat, k ≤ L.length ∧ k ≤ m + 1 ∧ i = .int .i64 k ∧ Hid ((L.take k).all (okF b) = true)) (fun i => L.length - (intOf i).toNat)
  case atStart => exact ⟨0, Nat.zero_le _, Nat.zero_le _, rfl, rfl⟩
  case round =>
    obtain ⟨k, hk, hkm, rfl, hf⟩ := hrel
    by_cases hlt : k < L.length
    · by_cases hle : k ≤ m
      · obtain ⟨ad, rfl, hc⟩ := h.at_ (by omega)
        obtain ⟨hc0, hc1⟩ := hc k L[k] (List.getElem?_eq_getElem hlt)
        have hcell1 := fd_snd hc1
        have HN : Hid (okF b L[k] = false → fewB L m b = false) := fun hh => few_bad hlt hle hh
        have HY : Hid (okF b L[k] = true → (L.take (k + 1)).all (okF b) = true) := fun hh => by
          rw [take_fd L k hlt, List.all_append, hf.out]; simp [hh]
        generalize L[k] = x at *
        obtain ⟨f, v⟩ := x
        have hi0 : (0 : Int) ≤ (k : Int) := by omega
        have hi1 : (k : Int) < (L.length : Int) := by omega
        have hi2 : (k : Int) ≤ (m : Int) := by omega
        clear hc hf
        by_cases h1 : (b : Int) < (f.size : Int)
        · have HR := Lib.hid (HN.out (by simp [okF]; omega))
          clear HN HY
          go_wp2_with fail
          go_ret
          exact ⟨by rw [HR.out]; rfl, rfl⟩
        · by_cases h2 : (b : Int) < (v.size : Int)
          · have HR := Lib.hid (HN.out (by simp [okF]; omega))
            clear HN HY
            go_wp2_with fail
            go_ret
            exact ⟨by rw [HR.out]; rfl, rfl⟩
          · have HR := Lib.hid (HY.out (by simp [okF]; omega))
            clear HN HY
            go_wp2_with fail
            go_round
            case rel => exact ⟨k + 1, by omega, by omega, by go_num, HR⟩
            case measure => simp [intOf]; omega
      · have hi1 : (k : Int) < (L.length : Int) := by omega
        have hi2 : ¬ (k : Int) ≤ (m : Int) := by omega
        have hi3 : ¬ (L.length : Int) ≤ (m : Int) := by omega
        have HR := Lib.hid (few_many (L := L) (m := m) (b := b) (by omega))
        clear hf
        go_wp2_with fail
        go_ret
        exact ⟨by rw [HR.out]; rfl, rfl⟩
    · have hi1 : ¬ (k : Int) < (L.length : Int) := by omega
      have HR := Lib.hid (few_all (L := L) (m := m) (b := b) (k := k) (by omega) hf.out)
      clear hf
      by_cases h3 : (L.length : Int) ≤ (m : Int)
      · have e : decide (L.length ≤ m) = true := decide_eq_true (by omega)
        rw [e] at HR
        clear e
        go_wp2_with fail
        go_ret
        exact ⟨by rw [HR.out]; rfl, rfl⟩
      · have e : decide (L.length ≤ m) = false := decide_eq_false (by omega)
        rw [e] at HR
        clear e
        go_wp2_with fail
        go_ret
        exact ⟨by rw [HR.out]; rfl, rfl⟩

end Go.Proofs.YtnembpklidcgoaaGreatDoor
end

/-
  Contracts of the reference's All, Get, Has, Set (layer 9).
-/
section
namespace Go.Proofs.YtnembpklidcgoaaGreatDoor
open Go.RowKit

set_option maxHeartbeats 4000000 in
set_option maxRecDepth 100000 in
theorem rf_all (A : Option Addr) (n c : Nat) (L : List Fd) (name : ByteArray) (w : World) (h : SlF w A n c L) (hn : n ≤ 100000000) (hz : name.size ≤ maxLen) :
    Calls Tryz.prog 30 #[.slice A n c, .string name] w (Vals w (fdAll L name)) := by
  have hlen := h.len
  subst hlen
  have hD : fdAll L name = (L.filter fun x => sameB x.1 name).map fun x => x.2.data.toList := rfl
  rw [hD]
  go_enter Tryz.func30, Tryz.ntmps30
  go_wp2_with fail
  go_loopw [5, 6] (fun v i wr => ∃ k : Nat, k ≤ L.length ∧ i = .int .i64 k ∧ Hid (OwnS wr w.heap.size 9 v (((L.take k).filter fun x => sameB x.1 name).map fun x => x.2.data.toList)) ∧ Below w.heap.size w wr) (fun _ i _ => L.length - (intOf i).toNat)
  case atStart => exact ⟨0, Nat.zero_le _, rfl, OwnS.nil _ _ _, Below.refl _ _⟩
  case round =>
    obtain ⟨k, hk, rfl, hown, hbel⟩ := hrel
    by_cases hlt : k < L.length
    · obtain ⟨ad, rfl, hc⟩ := h.at_ (by omega)
      obtain ⟨hc0, hc1⟩ := hc k L[k] (List.getElem?_eq_getElem hlt)
      have hcell0 := cell_kept hbel hc0
      have hc1' := fd_snd hc1
      have hz1 := (h.sz _ (List.getElem_mem hlt)).1
      have hlx : (((L.take k).filter fun x => sameB x.1 name).map fun x => x.2.data.toList).length ≤ k := by
        rw [List.length_map]
        exact Nat.le_trans (List.length_filter_le _ _) (by rw [List.length_take]; omega)
      have HF := filter_snoc (fun x => sameB x.1 name) (L.take k) L[k]
      rw [← take_fd L k hlt] at HF
      generalize L[k] = x at *
      obtain ⟨a, b⟩ := x
      have hi0 : (0 : Int) ≤ (k : Int) := by omega
      have hi1 : (k : Int) < (L.length : Int) := by omega
      have hs4 := hbel.size
      cases hsm : sameB a name with
      | true =>
        have HS : Hid (((L.take (k + 1)).filter fun x => sameB x.1 name).map (fun x => x.2.data.toList) = ((L.take k).filter fun x => sameB x.1 name).map (fun x => x.2.data.toList) ++ [b.data.toList]) := by
          show _ = _
          rw [HF, if_pos hsm, List.map_append]; rfl
        generalize hX : (((L.take k).filter fun x => sameB x.1 name).map fun x => x.2.data.toList) = X at *
        have HSM := Lib.hid hsm
        clear hc hc0 hc1 hX HF hsm
        go_wp2_with fail
        refine (r_same a name _ hz1 hz).mono ?_
        rintro e w1 ⟨he, hb1⟩
        rw [HSM.out] at he
        subst he
        have hcell1 := cell_kept (hbel.trans (hb1.mono hs4)) hc1'
        have HO := Lib.hid (hown.out.below hb1)
        have HB := Lib.hid (hbel.trans (hb1.mono hs4))
        have hs5 := HB.out.size
        clear hb1 hown
        go_wp2_with (at_builtin; refine wpList_append_sls rfl _ _ _ rfl w.heap.size 9 Tryz.underlying52 (by kernel_rfl) _ rfl X (HO.out.alloc _) _ _ _ rfl [b.data.toList] (SlS.textAt _ _ b rfl) (by simp; omega) (by simp; omega) w (HB.out.alloc hs5 _) ?_; intro v1 w2 ho2 hb2 hz2)
        go_roundw
        case rel => exact ⟨k + 1, by omega, by go_num, by show OwnS _ _ _ _ _; rw [HS.out]; exact ho2.out, hb2⟩
        case measure => simp [intOf]; omega
      | false =>
        have HS : Hid (((L.take (k + 1)).filter fun x => sameB x.1 name).map (fun x => x.2.data.toList) = ((L.take k).filter fun x => sameB x.1 name).map (fun x => x.2.data.toList)) := by
          show _ = _
          rw [HF, if_neg (by simp [hsm])]
        have HSM := Lib.hid hsm
        clear hc hc0 hc1 HF hsm hlx
        go_wp2_with fail
        refine (r_same a name _ hz1 hz).mono ?_
        rintro e w1 ⟨he, hb1⟩
        rw [HSM.out] at he
        subst he
        go_wp2_with fail
        go_roundw
        case rel => exact ⟨k + 1, by omega, by go_num, by show OwnS _ _ _ _ _; rw [HS.out]; exact hown.out.below hb1, hbel.trans (hb1.mono hs4)⟩
        case measure => simp [intOf]; omega
    · have HE : Hid (((L.take k).filter fun x => sameB x.1 name).map (fun x => x.2.data.toList) = (L.filter fun x => sameB x.1 name).map fun x => x.2.data.toList) := by
        show _ = _
        rw [List.take_of_length_le (by omega)]
      rw [HE.out] at hown
      go_wp2_with fail
      go_ret
      obtain ⟨A2, c2, rfl, hA, hH⟩ := hown.out.sls
      exact ⟨A2, c2, rfl, hA, hH, hbel⟩

theorem rf_has (A : Option Addr) (n c : Nat) (L : List Fd) (name item : ByteArray) (w : World) (h : SlF w A n c L) (hn : n ≤ 10000) (hz : name.size ≤ maxLen) (hi : item.size ≤ maxLen) (hB : ∀ x ∈ L, x.2.size ≤ 10000) :
    Calls Tryz.prog 82 #[.slice A n c, .string name, .string item] w fun e w' => e = .returned (.bool (fdHas L name item)) ∧ Below w.heap.size w w' := by
  have hq := rf_all A n c L name w h (by omega) hz
  have hD : fdHas L name item = (fdAll L name).any fun v => hasL (splO v) item := rfl
  have hl : (fdAll L name).length ≤ 10000 := by
    unfold fdAll
    rw [List.length_map]
    exact Nat.le_trans (List.length_filter_le _ _) (by have := h.len; omega)
  have hx : ∀ x ∈ fdAll L name, x.length ≤ 10000 := fun x hx => by
    unfold fdAll at hx
    obtain ⟨y, hy, rfl⟩ := List.mem_map.1 hx
    rw [← Lib.size_eq]
    exact hB y (List.mem_filter.1 hy).1
  rw [hD]
  generalize fdAll L name = X at *
  have HQ := Lib.hid hq
  have HX := Lib.hid hx
  clear hq hD hx
  go_enter Tryz.func82, Tryz.ntmps82
  go_wp2_with fail
  refine HQ.out.mono ?_
  unfold Vals
  rintro e w1 ⟨A1, c1, rfl, hA, hH, hb1⟩
  go_wp2_with fail
  go_loopw [8] (fun i wr => ∃ k : Nat, k ≤ X.length ∧ i = .int .i64 k ∧ Hid ((X.take k).any (fun v => hasL (splO v) item) = false) ∧ Below w1.heap.size w1 wr) (fun i _ => X.length - (intOf i).toNat)
  case atStart => exact ⟨0, Nat.zero_le _, rfl, rfl, Below.refl _ _⟩
  case round =>
    obtain ⟨k, hk, rfl, hf, hbel⟩ := hrel
    by_cases hlt : k < X.length
    · obtain ⟨ad, rfl, hc⟩ := hA.at_ (by omega)
      have hcell := cell_kept hbel (hc k X[k] (List.getElem?_eq_getElem hlt))
      have HT : Hid ((X.take (k + 1)).any (fun v => hasL (splO v) item) = hasL (splO X[k]) item) := by
        show _ = _
        rw [List.take_succ_eq_append_getElem hlt, List.any_append, hf.out]; simp
      have HM : Hid (hasL (splO X[k]) item = true → X.any (fun v => hasL (splO v) item) = true) := fun h => List.any_eq_true.2 ⟨X[k], List.getElem_mem hlt, h⟩
      have cc := fun W => r_has (mkS X[k]) item W (by rw [mkS_size]; have := HX.out _ (List.getElem_mem hlt); omega) hi
      have e1 : (mkS X[k]).data.toList = X[k] := rfl
      rw [e1] at cc
      obtain ⟨x, hx⟩ : ∃ x, x = mkS X[k] := ⟨_, rfl⟩
      rw [← hx] at hcell cc
      generalize hasL (splO X[k]) item = q at *
      have CC := Lib.hid cc
      have hi0 : (0 : Int) ≤ (k : Int) := by omega
      have hi1 : (k : Int) < (X.length : Int) := by omega
      clear hx hf hc e1 cc
      cases q with
      | true =>
        have HR := Lib.hid (HM.out rfl)
        clear HM HT
        go_wp2_with fail
        refine (CC.out _).mono ?_
        rintro e w2 ⟨rfl, hb2⟩
        go_wp2_with fail
        go_ret
        exact ⟨by rw [HR.out]; rfl, below_then hb1 (hbel.trans (hb2.mono hbel.size))⟩
      | false =>
        have HR := Lib.hid HT.out
        clear HM HT
        go_wp2_with fail
        refine (CC.out _).mono ?_
        rintro e w2 ⟨rfl, hb2⟩
        go_wp2_with fail
        go_roundw
        case rel => exact ⟨k + 1, by omega, by go_num, HR, hbel.trans (hb2.mono hbel.size)⟩
        case measure => simp [intOf]; omega
    · have HR : Hid (X.any (fun v => hasL (splO v) item) = false) := by
        have := hf.out
        rwa [List.take_of_length_le (by omega)] at this
      clear hf
      go_wp2_with fail
      go_ret
      exact ⟨by rw [HR.out]; rfl, below_then hb1 hbel⟩

/-! ### Set -/
end Go.Proofs.YtnembpklidcgoaaGreatDoor
end

/-
  Contracts of the reference's clock, apart, When, Date, Usual, Told (layer 17).
-/
section
namespace Go.Proofs.YtnembpklidcgoaaGreatDoor
open Go.RowKit

theorem r_clk (t : Int) (w : World) :
    Calls Tryz.prog 148 #[.int .i64 t] w fun e w' => e = .returned (.int .i64 (clkN t)) ∧ w = w' := by
  obtain ⟨R, hR⟩ : ∃ R, R = clkN t := ⟨_, rfl⟩
  rw [← hR]
  unfold clkN at hR
  have HR := Lib.hid hR
  clear hR
  go_enter Tryz.func148, Tryz.ntmps148
  go_wp2_with fail
  go_ret
  exact ⟨by rw [HR.out]; rfl, rfl⟩

theorem r_apr (a b : Int) (w : World) :
    Calls Tryz.prog 96 #[.int .i64 a, .int .i64 b] w fun e w' => e = .returned (.int .i64 (aprN a b)) ∧ w = w' := by
  obtain ⟨R, hR⟩ : ∃ R, R = aprN a b := ⟨_, rfl⟩
  rw [← hR]
  unfold aprN at hR
  have C1 := Lib.hid (fun W => r_clk a W)
  have C2 := Lib.hid (fun W => r_clk b W)
  obtain ⟨x0, x1⟩ := clkN_bd a
  obtain ⟨y0, y1⟩ := clkN_bd b
  generalize clkN a = x at *
  generalize clkN b = y at *
  have HR := Lib.hid hR
  clear hR
  go_enter Tryz.func96, Tryz.ntmps96
  go_wp2_with fail
  refine (C1.out _).mono ?_
  rintro e w1 ⟨rfl, rfl⟩
  go_wp2_with fail
  refine (C2.out _).mono ?_
  rintro e w2 ⟨rfl, rfl⟩
  go_wp2_with fail
  go_ret
  exact ⟨by rw [HR.out]; rfl, rfl⟩

set_option maxHeartbeats 4000000 in
set_option maxRecDepth 100000 in
theorem r_when (A : Option Addr) (c : Nat) (L : List Fd) (name : ByteArray) (w : World) (h : SlF w A L.length c L) (hL : FwL L) (hz : name.size ≤ maxLen) :
    Calls Tryz.prog 52 #[.slice A L.length c, .string name] w fun e w' => e = .returned (.tuple #[.int .i64 (whnV L name), .bool (whnB L name)]) ∧ Below w.heap.size w w' := by
  have C1 := Lib.hid (rf_all A L.length c L name w h (by have := hL.n; omega) hz)
  have hvz := (fwl_all hL name).2
  have hV : whnV L name = if (fdAll L name).length = 1 then (parT (mkS ((fdAll L name).headD []))).1 else 0 := rfl
  have hB : whnB L name = if (fdAll L name).length = 1 then decide ((parT (mkS ((fdAll L name).headD []))).2 = 0) else false := rfl
  generalize whnV L name = V at *
  generalize whnB L name = b at *
  generalize fdAll L name = X at *
  clear h hL hz
  unfold Vals at C1
  by_cases h1 : X.length = 1
  · rw [if_pos h1] at hV hB
    obtain ⟨x, rfl⟩ : ∃ x, X = [x] := by
      match X, h1 with
      | [x], _ => exact ⟨x, rfl⟩
    replace hV : V = (parT (mkS x)).1 := hV
    replace hB : b = decide ((parT (mkS x)).2 = 0) := hB
    have hxz := hvz x (List.mem_singleton.2 rfl)
    have CP := Lib.hid (fun W => r_parse (mkS x) (by rw [mkS_size]; omega) W)
    rw [← hV] at CP
    obtain ⟨q, hq⟩ : ∃ q, q = (parT (mkS x)).2 := ⟨_, rfl⟩
    rw [← hq] at CP
    replace hB : b = decide (q = 0) := by rw [hB, hq]
    clear hq
    obtain ⟨xs, hxs⟩ : ∃ xs, xs = mkS x := ⟨_, rfl⟩
    rw [← hxs] at CP
    have HX := Lib.hid hxs
    have HB := Lib.hid hB
    clear hV hB hvz hxs hxz
    simp only [List.length_singleton] at C1
    go_enter Tryz.func52, Tryz.ntmps52
    go_wp2_with fail
    refine C1.out.mono ?_
    rintro e w1 ⟨A1, c1, rfl, hS, _, hb1⟩
    obtain ⟨ad, rfl, hc⟩ := hS.at_ (by omega)
    have hcell := hc 0 x rfl
    rw [Addr.add_zero', ← HX.out] at hcell
    have HB1 := Lib.hid hb1
    clear hS hc hb1 C1
    go_wp2_with fail
    refine (CP.out _).mono ?_
    rintro e w2 ⟨rfl, hb2⟩
    go_wp2_with fail
    go_ret2
    exact ⟨by rw [HB.out]; first | done | rfl, below_then HB1.out hb2⟩
  · rw [if_neg h1] at hV hB
    subst hV hB
    have h1' : ¬ (X.length : Int) = 1 := by omega
    generalize X.length = n at *
    clear h1 hvz
    go_enter Tryz.func52, Tryz.ntmps52
    go_wp2_with fail
    refine C1.out.mono ?_
    rintro e w1 ⟨A1, c1, rfl, _, _, hb1⟩
    go_wp2_with fail
    go_ret2
    exact ⟨rfl, hb1⟩

set_option maxRecDepth 100000 in
theorem r_lusual (c : Int) (w : World) :
    Calls Tryz.prog 49 #[.int .i64 c] w fun e w' => e = .returned (.bool (usuB c)) ∧ Below w.heap.size w w' := by
  have hcell : ∀ (j : Nat) (x : Int), usuL[j]? = some x → (w.alloc (.cells #[.int .i64 200, .int .i64 203, .int .i64 204, .int .i64 300, .int .i64 301, .int .i64 308, .int .i64 404, .int .i64 405, .int .i64 410, .int .i64 414, .int .i64 501] 3)).cell? ⟨w.heap.size, j, none⟩ = some (.int .i64 x) := fun j x hx => by
    rw [cell_of_row _ _ _ _ _ _ (heap_alloc_new w _)]
    have e : (#[.int .i64 200, .int .i64 203, .int .i64 204, .int .i64 300, .int .i64 301, .int .i64 308, .int .i64 404, .int .i64 405, .int .i64 410, .int .i64 414, .int .i64 501] : Array Value) = (usuL.map (Value.int .i64)).toArray := rfl
    rw [e, List.getElem?_toArray, List.getElem?_map, hx]
    rfl
  have HC := Lib.hid hcell
  have HL := Lib.hid (show usuL.length = 11 from rfl)
  have HB0 : Hid (Below w.heap.size w (w.alloc (.cells #[.int .i64 200, .int .i64 203, .int .i64 204, .int .i64 300, .int .i64 301, .int .i64 308, .int .i64 404, .int .i64 405, .int .i64 410, .int .i64 414, .int .i64 501] 3))) := (Below.refl _ _).alloc (Nat.le_refl _) _
  have HD := Lib.hid (show usuB c = usuL.any fun x => x == c from rfl)
  generalize usuB c = R at *
  generalize usuL = N at *
  clear hcell
  go_enter Tryz.func49, Tryz.ntmps49
  go_wp2_with fail
  go_loop [4] (fun i => ∃ k : Nat, k ≤ 11 ∧ i = .int .i64 (k : Int) ∧ Hid (∀ j (hj : j < N.length), j < k → (N[j] == c) = false)) (fun i => 11 - (intOf i).toNat)
  case atStart => exact ⟨0, Nat.zero_le _, rfl, fun j hj h0 => absurd h0 (by omega)⟩
  case round =>
    obtain ⟨k, hk, rfl, hf⟩ := hrel
    by_cases hlt : k < 11
    · have hkN : k < N.length := by have := HL.out; omega
      have hcell := HC.out k N[k] (List.getElem?_eq_getElem hkN)
      have HH : Hid ((N[k] == c) = true → R = true) := fun h => by rw [HD.out]; exact List.any_eq_true.2 ⟨N[k], List.getElem_mem hkN, h⟩
      have HN : Hid ((N[k] == c) = false → ∀ j (hj : j < N.length), j < k + 1 → (N[j] == c) = false) := fun h j hj hjk => by
        by_cases e : j = k
        · subst e; exact h
        · exact hf.out j hj (by omega)
      generalize N[k] = z at *
      have hi0 : (0 : Int) ≤ (k : Int) := by omega
      have hi1 : (k : Int) < 11 := by omega
      clear hf
      cases hq : (z == c) with
      | true =>
        have HR := Lib.hid (HH.out hq)
        clear HH HN
        go_wp2_with fail
        go_ret
        exact ⟨by rw [HR.out]; rfl, HB0.out⟩
      | false =>
        have HR := Lib.hid (HN.out hq)
        clear HH HN
        go_wp2_with fail
        go_round
        case rel => exact ⟨k + 1, by omega, by go_num, HR.out⟩
        case measure => simp [intOf]; omega
    · have HR : Hid (R = false) := by
        show _ = _
        rw [HD.out, List.any_eq_false]
        intro n hn
        obtain ⟨j, hj, rfl⟩ := List.getElem_of_mem hn
        have := HL.out
        simp only [hf.out j hj (by omega), Bool.false_eq_true, not_false_eq_true]
      have hi1 : ¬ (k : Int) < 11 := by omega
      go_wp2_with fail
      go_ret
      exact ⟨by rw [HR.out]; rfl, HB0.out⟩

end Go.Proofs.YtnembpklidcgoaaGreatDoor
end
