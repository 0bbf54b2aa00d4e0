/-
  Texts that the laws of this seat lean on, one behind the other.
-/
import Derived.Test.YthhlcecojeaalaaDoorMrgU
import Derived.Test.YthhlcecojeaalaaDoorMrgW
import Derived.Test.YthhlcecojeaalaaDoorMrgA
import Derived.Test.YthhlcecojeaalaaDoorMrgH
import Derived.Test.YthhlcecojeaalaaDoorMrgY
import Derived.Test.YthhlcecojeaalaaDoorMrgN
import Derived.Deep.RegionHeld3
import Derived.Test.YthhlcecojeaalaaDoorMrgT
import Derived.Test.YthhlcecojeaalaaDoorMrgX
import Derived.Test.YthhlcecojeaalaaDoorMrgV
set_option linter.unusedSimpArgs false
set_option linter.unusedVariables false
/-
  Plain functions of layer 17, without the program: times in fields, ages, lifetimes.
-/
section
namespace Go.Proofs.YthhlcecojeaalaaDoor
open Go.RowKit

def dtS : ByteArray := ⟨#[68, 97, 116, 101]⟩
def exS : ByteArray := ⟨#[69, 120, 112, 105, 114, 101, 115]⟩
def lmS : ByteArray := ⟨#[76, 97, 115, 116, 45, 77, 111, 100, 105, 102, 105, 101, 100]⟩
def agS : ByteArray := ⟨#[65, 103, 101]⟩
def clkN (t : Int) : Int := min (max t 0) 253402300799
def aprN (a b : Int) : Int := min (max (clkN a - clkN b) 0) 2147483648
def whnV (L : List Fd) (name : ByteArray) : Int := if (fdAll L name).length = 1 then (parT (mkS ((fdAll L name).headD []))).1 else 0
def whnB (L : List Fd) (name : ByteArray) : Bool := if (fdAll L name).length = 1 then decide ((parT (mkS ((fdAll L name).headD []))).2 = 0) else false
def datN (L : List Fd) (t : Int) : Int := if whnB L dtS = true then whnV L dtS else t
def usuL : List Int := [200, 203, 204, 300, 301, 308, 404, 405, 410, 414, 501]
def usuB (c : Int) : Bool := usuL.any fun x => x == c
def tolF (n : Int) (e : List UInt8) : Int := max n (secN e)
def tolN (L : List Fd) : Int := ((fdAll L agS).flatMap splO).foldl tolF 0
def lifN (L : List Fd) (code t : Int) : Int :=
  if 0 ≤ (ctP L).sh then (ctP L).sh else if 0 ≤ (ctP L).ma then (ctP L).ma
  else if 0 < (fdAll L exS).length then (if whnB L exS = true then aprN (whnV L exS) (datN L t) else 0)
  else if whnB L lmS = true ∧ usuB code = true then min (aprN (datN L t) (whnV L lmS) / 10) 86400 else 0
def ageN (L : List Fd) (t now : Int) : Int := addI (max (tolN L) (aprN t (datN L t))) (aprN now t)
def lefN (L : List Fd) (code t now : Int) : Int := lessI (lifN L code t) (ageN L t now)
def frsB (L : List Fd) (code t now : Int) : Bool := decide (ageN L t now < lifN L code t)
/-- A stored reply, but for its picks. -/
structure Stor where
  c : Int
  r : ByteArray
  v : Int
  f : List Fd
  b : ByteArray
  t : Int
def srC (s : Stor) (A : Option Addr) (c : Nat) : Array Value := #[.int .i64 s.c, .string s.r, .int .i64 s.v, .slice A s.f.length c, .string s.b]
def stC (s : Stor) (A : Option Addr) (c : Nat) (B : Option Addr) (n d : Nat) : Array Value := #[.int .i64 s.c, .string s.r, .int .i64 s.v, .slice A s.f.length c, .string s.b, .int .i64 s.t, .slice B n d]
/-- Fields that the laws of ages look at. -/
structure FwL (L : List Fd) : Prop where
  n : L.length ≤ 1000
  v : ∀ x ∈ L, x.2.size ≤ 10000
  m : ∀ x ∈ L, x.1.size ≤ 10000
end Go.Proofs.YthhlcecojeaalaaDoor
end

/-
  Plain functions of layer 20, without the program: stored variants in a list, as bytes, and read from bytes.
-/
section
namespace Go.Proofs.YthhlcecojeaalaaDoor
open Go.RowKit

/-- A stored reply: what it says, and its picks. -/
structure Sv where
  s : Stor
  p : List Pk
/-! ### P20.1 -/
def findN (F : List Fd) : List Sv → Option Nat
  | [] => none
  | x :: r => if pkM x.p F then some 0 else (findN F r).map fun k => k + 1
def verF (l : List Sv) (F : List Fd) : Int := match findN F l with
  | some k => (k : Int)
  | none => -1
def addV (l : List Sv) (s : Sv) : List Sv := (s :: l.filter fun x => !pksB x.p s.p).take 4
def putV (l : List Sv) (k : Int) (s : Sv) : List Sv := if 0 ≤ k ∧ k < (l.length : Int) then l.set k.toNat s else l

/-! ### Parts read -/
theorem leL_cons (n k : Nat) : leL n (k + 1) = UInt8.ofNat n :: leL (n / 256) k := by
  unfold leL
  rw [List.range_succ_eq_map, List.map_cons, List.map_map]
  simp only [Nat.pow_zero, Nat.div_one]
  congr 1
  refine List.map_congr_left fun i _ => ?_
  show UInt8.ofNat (n / 256 ^ (i + 1)) = UInt8.ofNat (n / 256 / 256 ^ i)
  rw [Nat.div_div_eq_div_mul, Nat.pow_succ, Nat.mul_comm]
theorem leL_deL : ∀ l : List UInt8, leL (deL l) l.length = l
  | [] => rfl
  | x :: r => by
    have hx := x.toNat_lt
    show leL (x.toNat + 256 * deL r) (r.length + 1) = _
    rw [leL_cons, show (x.toNat + 256 * deL r) / 256 = deL r by omega, leL_deL r]
    congr 1
    apply UInt8.toNat_inj.1
    rw [UInt8.toNat_ofNat']
    omega
def numP (k : Nat) (lo hi : Int) : Pr Int := fun m =>
  if getE m 0 k ≠ 0 then .error (getE m 0 k) else if getV m 0 k < lo ∨ hi < getV m 0 k then .error 5 else .ok (getV m 0 k, m.drop k)
def txtP : Pr ByteArray := fun m => if textE m ≠ 0 then .error (textE m) else .ok (mkS (textV m), m.drop (textK m))
def numQ (k : Nat) (n : Int) : List UInt8 := leL n.toNat k
def txtQ (s : ByteArray) : List UInt8 := leL s.size 4 ++ s.data.toList

theorem num_good {k : Nat} {lo hi : Int} (hk : 1 ≤ k) (hk7 : k ≤ 7) (h0 : 0 ≤ lo) (h1 : hi < (256 ^ k : Nat)) : PGood (numP k lo hi) (numQ k) (fun n => lo ≤ n ∧ n ≤ hi) := by
  refine ⟨fun v t h => ?_, fun m v t h => ?_, fun v j h hj => ?_⟩
  · have g : getE (leL v.toNat k ++ t) 0 k = 0 ∧ getV (leL v.toNat k ++ t) 0 k = (v.toNat : Int) := get_front v.toNat k t hk hk7 (by omega)
    unfold numP numQ
    rw [if_neg (by rw [g.1]; simp), g.2, if_neg (by omega), List.drop_left' (leL_len _ _), show ((v.toNat : Nat) : Int) = v by omega]
  · unfold numP at h
    split at h
    · cases h
    · rename_i he
      have he : getE m 0 k = 0 := by simpa using he
      split at h
      · cases h
      · rename_i hr
        cases h
        have hw : wideB k = true := wideB_yes.2 ⟨by omega, by omega⟩
        have hl : k ≤ m.length := by
          rcases Nat.lt_or_ge m.length k with q | q
          · rw [(get_short hw (by omega)).1] at he; cases he
          · exact q
        have hv := (get_ok hw (l := m) (i := 0) (by omega)).2
        simp only [Int.toNat_zero, List.drop_zero, Int.toNat_natCast] at hv
        refine ⟨by omega, ?_⟩
        unfold numQ
        rw [hv, Int.toNat_natCast]
        have : leL (deL (m.take k)) k = m.take k := by
          have := leL_deL (m.take k)
          rwa [List.length_take, Nat.min_eq_left hl] at this
        rw [this, List.take_append_drop]
  · have hl : (numQ k v).length = k := leL_len _ _
    rw [hl] at hj
    have he := (get_short (l := (numQ k v).take j) (i := 0) (k := k) (wideB_yes.2 ⟨by omega, by omega⟩) (by rw [List.length_take]; omega)).1
    unfold numP
    rw [he]; rfl
theorem txt_good : PGood txtP txtQ (fun s => s.size ≤ 65536) := by
  refine ⟨fun v t h => ?_, fun m v t h => ?_, fun v j h hj => ?_⟩
  · have hz := Lib.size_eq v
    have g := text_front v.data.toList t (by omega)
    unfold txtP txtQ
    rw [List.append_assoc, hz, if_neg (by rw [g.1]; simp), g.2.1, g.2.2, mkS_self]
  · unfold txtP at h
    split at h
    · cases h
    · rename_i he
      have he : textE m = 0 := by simpa using he
      cases h
      rcases text_cs m with ⟨h0, e0, _⟩ | ⟨_, _, e0, _⟩ | ⟨_, _, _, e0, _⟩ | ⟨g0, g1, g2, e0, e1, e2⟩
      · exact absurd (e0.symm.trans he) h0
      · rw [he] at e0; cases e0
      · rw [he] at e0; cases e0
      · have hw : wideB ((4 : Nat) : Int) = true := wideB_yes.2 ⟨by omega, by omega⟩
        have hl : 4 ≤ m.length := by
          rcases Nat.lt_or_ge m.length 4 with q | q
          · rw [show (4 : Int) = ((4 : Nat) : Int) from rfl, (get_short hw (by omega)).1] at g0; cases g0
          · exact q
        have hv := (get_ok hw (l := m) (i := 0) (by omega)).2
        simp only [Int.toNat_zero, List.drop_zero, Int.toNat_natCast] at hv
        have hv : getV m 0 4 = (deL (m.take 4) : Int) := hv
        have hsz : (mkS (textV m)).size = deL (m.take 4) := by
          rw [mkS_size, e1, List.length_take, List.length_drop]
          omega
        refine ⟨by rw [hsz]; omega, ?_⟩
        unfold txtQ
        rw [hsz, mkS_list, e1, e2, hv, Int.toNat_natCast]
        have h4 : leL (deL (m.take 4)) 4 = m.take 4 := by
          have := leL_deL (m.take 4)
          rwa [List.length_take, Nat.min_eq_left hl] at this
        rw [h4, ← List.drop_drop, List.append_assoc, List.take_append_drop, List.take_append_drop]
  · have hz := Lib.size_eq v
    have hql : (txtQ v).length = 4 + v.size := by unfold txtQ; rw [List.length_append, leL_len, hz]
    rw [hql] at hj
    have hE : textE ((txtQ v).take j) = 6 := by
      unfold textE
      rcases Nat.lt_or_ge j 4 with q | q
      · have he := (get_short (l := (txtQ v).take j) (i := 0) (k := ((4 : Nat) : Int)) (wideB_yes.2 ⟨by omega, by omega⟩) (by rw [List.length_take]; omega)).1
        rw [show (4 : Int) = ((4 : Nat) : Int) from rfl, he]; rfl
      · have ht : (txtQ v).take j = leL v.size 4 ++ v.data.toList.take (j - 4) := by
          unfold txtQ
          rw [List.take_append, leL_len, List.take_of_length_le (by rw [leL_len]; exact q)]
        have g := get_front v.size 4 (v.data.toList.take (j - 4)) (by omega) (by omega) (by omega)
        have g0 : getE ((txtQ v).take j) 0 4 = 0 := by rw [ht]; exact g.1
        have g1 : getV ((txtQ v).take j) 0 4 = (v.size : Int) := by rw [ht]; exact g.2
        rw [if_pos g0, g1, if_neg (by omega), if_pos (by rw [List.length_take]; omega)]
    unfold txtP
    rw [hE]; rfl

/-! ### A list of stored replies read -/
theorem Pr.assoc {α β γ : Type} (p : Pr α) (f : α → Pr β) (g : β → Pr γ) : (p.bind f).bind g = p.bind fun v => (f v).bind g := by
  funext m
  unfold Pr.bind
  cases p m with
  | error e => rfl
  | ok x => rfl
theorem Pr.ret_bind {α β : Type} (v : α) (f : α → Pr β) : (Pr.ret v).bind f = f v := rfl
def fldP : Pr Fd := txtP.bind fun a => txtP.bind fun v => Pr.ret (a, v)
def pckP : Pr Pk := txtP.bind fun a => (numP 1 0 1).bind fun h => txtP.bind fun v => Pr.ret ⟨a, h == 1, v⟩
def stoP : Pr Sv := (numP 5 0 253402300799).bind fun t => (numP 2 200 599).bind fun c => (numP 1 0 1).bind fun v => txtP.bind fun r => (numP 1 0 64).bind fun f => (fldP.rep f.toNat).bind fun F =>
  txtP.bind fun b => (numP 1 0 64).bind fun p => (pckP.rep p.toNat).bind fun K => Pr.ret ⟨⟨c, r, v, F, b, t⟩, K⟩
def vntP : Pr (List Sv) := (numP 1 0 4).bind fun n => stoP.rep n.toNat
/-- P20.3: what is read, and the error. -/
def vdL (b : List UInt8) : List Sv := match vntP b with
  | .ok (l, []) => l
  | _ => []
def vdE (b : List UInt8) : Int := match vntP b with
  | .ok (_, []) => 0
  | .ok (_, _ :: _) => 5
  | .error e => e

/-! ### Printed -/
abbrev WS := List UInt8 × Int
def numW (k : Nat) (lo hi er n : Int) (x : WS) : WS := if x.2 ≠ 0 then x else if n < lo ∨ hi < n then (x.1, er) else (wPutL x.1 n k, 0)
def txtW (s : ByteArray) (x : WS) : WS := if x.2 ≠ 0 then x else (ptL x.1 s.data.toList, ptE s.data.toList)
def fldW (x : WS) (f : Fd) : WS := txtW f.2 (txtW f.1 x)
def pckW (x : WS) (p : Pk) : WS := txtW p.v (numW 1 0 1 3 (if p.h then 1 else 0) (txtW p.n x))
def stoW (x : WS) (y : Sv) : WS :=
  y.p.foldl pckW (numW 1 0 64 4 y.p.length (txtW y.s.b (y.s.f.foldl fldW (numW 1 0 64 4 y.s.f.length (txtW y.s.r (numW 1 0 1 3 y.s.v (numW 2 200 599 3 y.s.c (numW 5 0 253402300799 3 y.s.t x))))))))
def veW (l : List Sv) : WS := l.foldl stoW (numW 1 0 4 4 l.length ([], 0))
/-- P20.2: the bytes, and the error. -/
def veE (l : List Sv) : Int := (veW l).2
def veB (l : List Sv) : List UInt8 := if veE l = 0 then (veW l).1 else []

end Go.Proofs.YthhlcecojeaalaaDoor
end

/-
  Contracts of package fields' Line, long, alike; the tests that choose, IndexFunc and ContainsFunc are handed.
-/
section
namespace Go.Proofs.YthhlcecojeaalaaDoor
open Go.RowKit

/-! ### The tests -/
theorem enters_named : ∀ args W, (callFunc 91 args).run Tryd.prog W = .ok (.enter 91 args) W := Go.Proofs.enters_of Tryd.func91 (by kernel_rfl) rfl
theorem named_pred (w : World) (a : Nat) (A : Option Addr) (n c : Nat) (names : List (List UInt8)) (ha : w.cell? ⟨a, 0, none⟩ = some (.slice A n c)) (h : SlS w A n c names) (hz : ∀ x ∈ names, x.length ≤ maxLen) (hn : n ≤ 1000000000) :
    PredF w 91 #[.pointer (some ⟨a, 0, none⟩)] (nmd names) := fun W x hb h1 =>
  named_in a A n c names W (cell_kept hb ha) (h.below hb) hz hn x h1.one
end Go.Proofs.YthhlcecojeaalaaDoor
end

/-
  Contracts of package fields' Drop, All, Get, Has.
-/
section
namespace Go.Proofs.YthhlcecojeaalaaDoor
open Go.RowKit

theorem SlS.textAt (w : World) (t : TypeId) (x : ByteArray) {g : Nat} (hg : w.heap.size = g) : SlS (w.alloc (.cells #[.string x] t)) (some ⟨g, 0, none⟩) 1 1 [x.data.toList] := by
  subst hg
  exact SlS.text w t x
/-- What All answers. -/
def Vals (w : World) (X : List (List UInt8)) (e : Ending) (w' : World) : Prop :=
  ∃ A c, e = .returned (.slice A X.length c) ∧ SlS w' A X.length c X ∧ Head w' A ∧ Below w.heap.size w w'

set_option maxHeartbeats 4000000 in
set_option maxRecDepth 100000 in
theorem all_any (A : Option Addr) (n c : Nat) (L : List Fd) (name : ByteArray) (w : World) (h : SlF w A n c L) (hn : n ≤ 100000000) (hB : ∀ x ∈ L, Bd x) (hz : name.size ≤ maxLen) :
    Calls Tryd.prog 66 #[.slice A n c, .string name] w (Vals w (fdAll L name)) := by
  have hb1 : Below w.heap.size w (w.alloc (.cells #[.string name] 9)) := (Below.refl _ _).alloc (Nat.le_refl _) _
  have hb2 : Below w.heap.size w ((w.alloc (.cells #[.string name] 9)).alloc (.cells #[.slice (some ⟨w.heap.size, 0, none⟩) 1 1] 51)) := hb1.alloc (by simp) _
  have p1 : PredF ((w.alloc (.cells #[.string name] 9)).alloc (.cells #[.slice (some ⟨w.heap.size, 0, none⟩) 1 1] 51)) 91 #[.pointer (some ⟨w.heap.size + 1, 0, none⟩)] (nmd [name.data.toList]) :=
    named_pred _ (w.heap.size + 1) _ 1 1 [name.data.toList] (zero_one (heap_alloc2_new w _ _)) ((SlS.text w 9 name).alloc _) (fun x hx => by
      simp only [List.mem_singleton] at hx
      subst hx
      rw [← Lib.size_eq]; exact hz) (by decide)
  rw [nmd_one'] at p1
  have hq := choose_any A n c L _ (h.below hb2) hn hB 91 _ _ enters_named p1
  have hs2 : ((w.alloc (.cells #[.string name] 9)).alloc (.cells #[.slice (some ⟨w.heap.size, 0, none⟩) 1 1] 51)).heap.size = w.heap.size + 2 := by simp
  have HQ := Lib.hid hq
  have HB2 := Lib.hid hb2
  have HS2 := Lib.hid hs2
  have hD : fdAll L name = (L.filter fun x => sameB x.1 name).map fun x => x.2.data.toList := rfl
  rw [hD]
  have hlen : (L.filter fun x => sameB x.1 name).length ≤ 100000000 := Nat.le_trans (List.length_filter_le _ _) (by have := h.len; omega)
  have hsz : ∀ x ∈ (L.filter fun x => sameB x.1 name), x.1.size ≤ maxLen ∧ x.2.size ≤ maxLen := fun x hx => h.sz x ((List.mem_filter.1 hx).1)
  generalize (L.filter fun x => sameB x.1 name) = R at *
  clear hq hb1 hb2 hs2 p1 hD
  go_enter Tryd.func66, Tryd.ntmps66
  go_wp2_with fail
  refine (named_any _ 1 1 _ rfl _).mono ?_
  rintro e w1 ⟨rfl, rfl⟩
  go_wp2_with fail
  refine HQ.out.mono ?_
  rintro e w1 ⟨v, rfl, ho, hb⟩
  have hbw := HB2.out.trans (hb.mono (by rw [HS2.out]; omega))
  obtain ⟨A1, c1, rfl, hF⟩ := ho.slf hsz
  have HF := Lib.hid hF
  have HB := Lib.hid hbw
  clear ho hb hF hbw HQ HB2 HS2
  go_wp2_with fail
  go_loopw [5, 14] (fun v i wr => ∃ k : Nat, k ≤ R.length ∧ i = .int .i64 k ∧ Hid (OwnS wr w1.heap.size 9 v ((R.take k).map fun x => x.2.data.toList)) ∧ Below w1.heap.size w1 wr) (fun _ i _ => R.length - (intOf i).toNat)
  case atStart => exact ⟨0, Nat.zero_le _, rfl, OwnS.nil _ _ _, Below.refl _ _⟩
  case round =>
    obtain ⟨k, hk, rfl, hown, hbel⟩ := hrel
    by_cases hlt : k < R.length
    · obtain ⟨ad, rfl, hc⟩ := HF.out.at_ (by omega)
      obtain ⟨hc0, hc1⟩ := hc k R[k] (List.getElem?_eq_getElem hlt)
      have hcell0 := cell_kept hbel hc0
      have hcell1 := fd_snd (cell_kept hbel hc1)
      have HS : Hid ((R.take (k + 1)).map (fun x => x.2.data.toList) = (R.take k).map (fun x => x.2.data.toList) ++ [R[k].2.data.toList]) := by
        show _ = _
        rw [take_fd R k hlt, List.map_append]; rfl
      have hlx : ((R.take k).map fun x => x.2.data.toList).length ≤ k := by rw [List.length_map, List.length_take]; omega
      generalize R[k] = x at *
      obtain ⟨a, b⟩ := x
      generalize hX : ((R.take k).map fun x => x.2.data.toList) = X at *
      have hi0 : (0 : Int) ≤ (k : Int) := by omega
      have hi1 : (k : Int) < (R.length : Int) := by omega
      have HO := Lib.hid (hown.out.alloc (.cells #[.string a, .string b] 62))
      have HB5 := Lib.hid (hbel.alloc hbel.size (.cells #[.string a, .string b] 62))
      have hs5 := HB5.out.size
      have hs4 := hbel.size
      clear hc hc0 hc1 hown hX
      go_wp2_with (at_builtin; refine wpList_append_sls rfl _ _ _ rfl w1.heap.size 9 Tryd.underlying51 (by kernel_rfl) _ rfl X (HO.out.alloc _) _ _ _ rfl [b.data.toList] (SlS.textAt _ _ b (by simp)) (by simp; omega) (by simp; omega) w1 (HB5.out.alloc hs5 _) ?_; intro v1 w2 ho2 hb2 hz2)
      go_roundw
      case rel => exact ⟨k + 1, by omega, by go_num, by show OwnS _ _ _ _ _; rw [HS.out]; exact ho2.out, hb2⟩
      case measure => simp [intOf]; omega
    · have HE : Hid ((R.take k).map (fun x => x.2.data.toList) = R.map fun x => x.2.data.toList) := by
        show _ = _
        rw [List.take_of_length_le (by omega)]
      rw [HE.out] at hown
      go_wp2_with fail
      go_ret
      obtain ⟨A2, c2, rfl, hA, hH⟩ := hown.out.sls
      exact ⟨A2, c2, rfl, hA, hH, below_then HB.out hbel⟩

theorem getF_any (A : Option Addr) (n c : Nat) (L : List Fd) (name : ByteArray) (w : World) (h : SlF w A n c L) (hn : n ≤ 100000000) (hB : ∀ x ∈ L, Bd x) (hz : name.size ≤ maxLen) (hj : (Lib.join (fdAll L name) [44, 32]).length ≤ 1000000000000) :
    Calls Tryd.prog 44 #[.slice A n c, .string name] w fun e w' => e = .returned (.tuple #[.string (fdGet L name), .bool (fdGot L name)]) ∧ Below w.heap.size w w' := by
  have hq := all_any A n c L name w h hn hB hz
  have hD : fdGet L name = mkS (Lib.join (fdAll L name) [44, 32]) := rfl
  have hE : fdGot L name = decide ((0 : Int) < ((fdAll L name).length : Int)) := by
    unfold fdGot
    cases fdAll L name with
    | nil => rfl
    | cons x r => simp
  have hl : (fdAll L name).length ≤ 100000000 := by
    unfold fdAll
    rw [List.length_map]
    exact Nat.le_trans (List.length_filter_le _ _) (by have := h.len; omega)
  rw [hD, hE]
  generalize fdAll L name = X at *
  have HQ := Lib.hid hq
  have cj := fun A c W (hs : SlS W A X.length c X) hH => join_any A X.length c X W hs hH (by omega) hj
  generalize mkS (Lib.join X [44, 32]) = J at *
  have CJ := Lib.hid cj
  clear hq hD hE cj hj
  go_enter Tryd.func44, Tryd.ntmps44
  go_wp2_with fail
  refine HQ.out.mono ?_
  unfold Vals
  rintro e w1 ⟨A1, c1, rfl, hA, hH, hb1⟩
  go_wp2_with fail
  refine (CJ.out _ _ _ hA hH).mono ?_
  rintro e w2 ⟨rfl, hb2⟩
  by_cases h0 : (0 : Int) < (X.length : Int)
  all_goals
    go_wp2_with fail
    go_ret2
    exact ⟨by simp_all, below_then hb1 hb2⟩

end Go.Proofs.YthhlcecojeaalaaDoor
end

/-
  Contracts of package fields' Set, Same, Check.
-/
section
namespace Go.Proofs.YthhlcecojeaalaaDoor
open Go.RowKit

/-! ### Set -/
end Go.Proofs.YthhlcecojeaalaaDoor
end

/-
  Contracts of the reference's Few, Line (layer 9).
-/
section
namespace Go.Proofs.YthhlcecojeaalaaDoor
open Go.RowKit

def okF (b : Nat) (x : Fd) : Bool := decide (x.1.size ≤ b) && decide (x.2.size ≤ b)
def fewB (L : List Fd) (m b : Nat) : Bool := (L.take (m + 1)).all (okF b) && decide (L.length ≤ m)
theorem few_bad {L : List Fd} {m b k : Nat} (hk : k < L.length) (hm : k ≤ m) (h : okF b L[k] = false) : fewB L m b = false := by
  unfold fewB
  have : (L.take (m + 1)).all (okF b) = false := by
    rw [List.all_eq_false]
    exact ⟨L[k], List.mem_take_iff_getElem.2 ⟨k, by omega, rfl⟩, by simp [h]⟩
  rw [this]; rfl
theorem few_all {L : List Fd} {m b k : Nat} (hk : L.length ≤ k) (h : (L.take k).all (okF b) = true) : fewB L m b = decide (L.length ≤ m) := by
  unfold fewB
  rw [List.take_of_length_le hk] at h
  have : (L.take (m + 1)).all (okF b) = true := by
    rw [List.all_eq_true] at h ⊢
    exact fun x hx => h x (List.mem_of_mem_take hx)
  rw [this, Bool.true_and]
theorem few_many {L : List Fd} {m b : Nat} (h : m < L.length) : fewB L m b = false := by
  unfold fewB
  rw [decide_eq_false (by omega), Bool.and_false]
/-- What the law's guard leaves. -/
theorem few_yes {L : List Fd} {m b : Nat} (h : fewB L m b = true) : L.length ≤ m ∧ ∀ x ∈ L, x.1.size ≤ b ∧ x.2.size ≤ b := by
  unfold fewB at h
  rw [Bool.and_eq_true, decide_eq_true_eq, List.all_eq_true] at h
  refine ⟨h.2, fun x hx => ?_⟩
  have := h.1 x (by rw [List.take_of_length_le (by omega)]; exact hx)
  simpa [okF] using this

theorem rf_few (A : Option Addr) (n c m b : Nat) (L : List Fd) (w : World) (h : SlF w A n c L) (hm : m ≤ 1000) :
    Calls Tryd.prog 9 #[.slice A n c, .int .i64 m, .int .i64 b] w fun e w' => e = .returned (.bool (fewB L m b)) ∧ w = w' := by
  have hlen := h.len
  subst hlen
  go_enter Tryd.func9, Tryd.ntmps9
  go_wp2_with fail
  go_loop [7] (fun i => ∃ k : Nat, k ≤ L.length ∧ k ≤ m + 1 ∧ i = .int .i64 k ∧ Hid ((L.take k).all (okF b) = true)) (fun i => L.length - (intOf i).toNat)
  case atStart => exact ⟨0, Nat.zero_le _, Nat.zero_le _, rfl, rfl⟩
  case round =>
    obtain ⟨k, hk, hkm, rfl, hf⟩ := hrel
    by_cases hlt : k < L.length
    · by_cases hle : k ≤ m
      · obtain ⟨ad, rfl, hc⟩ := h.at_ (by omega)
        obtain ⟨hc0, hc1⟩ := hc k L[k] (List.getElem?_eq_getElem hlt)
        have hcell1 := fd_snd hc1
        have HN : Hid (okF b L[k] = false → fewB L m b = false) := fun hh => few_bad hlt hle hh
        have HY : Hid (okF b L[k] = true → (L.take (k + 1)).all (okF b) = true) := fun hh => by
          rw [take_fd L k hlt, List.all_append, hf.out]; simp [hh]
        generalize L[k] = x at *
        obtain ⟨f, v⟩ := x
        have hi0 : (0 : Int) ≤ (k : Int) := by omega
        have hi1 : (k : Int) < (L.length : Int) := by omega
        have hi2 : (k : Int) ≤ (m : Int) := by omega
        clear hc hf
        by_cases h1 : (b : Int) < (f.size : Int)
        · have HR := Lib.hid (HN.out (by simp [okF]; omega))
          clear HN HY
          go_wp2_with fail
          go_ret
          exact ⟨by rw [HR.out]; rfl, rfl⟩
        · by_cases h2 : (b : Int) < (v.size : Int)
          · have HR := Lib.hid (HN.out (by simp [okF]; omega))
            clear HN HY
            go_wp2_with fail
            go_ret
            exact ⟨by rw [HR.out]; rfl, rfl⟩
          · have HR := Lib.hid (HY.out (by simp [okF]; omega))
            clear HN HY
            go_wp2_with fail
            go_round
            case rel => exact ⟨k + 1, by omega, by omega, by go_num, HR⟩
            case measure => simp [intOf]; omega
      · have hi1 : (k : Int) < (L.length : Int) := by omega
        have hi2 : ¬ (k : Int) ≤ (m : Int) := by omega
        have hi3 : ¬ (L.length : Int) ≤ (m : Int) := by omega
        have HR := Lib.hid (few_many (L := L) (m := m) (b := b) (by omega))
        clear hf
        go_wp2_with fail
        go_ret
        exact ⟨by rw [HR.out]; rfl, rfl⟩
    · have hi1 : ¬ (k : Int) < (L.length : Int) := by omega
      have HR := Lib.hid (few_all (L := L) (m := m) (b := b) (k := k) (by omega) hf.out)
      clear hf
      by_cases h3 : (L.length : Int) ≤ (m : Int)
      · have e : decide (L.length ≤ m) = true := decide_eq_true (by omega)
        rw [e] at HR
        clear e
        go_wp2_with fail
        go_ret
        exact ⟨by rw [HR.out]; rfl, rfl⟩
      · have e : decide (L.length ≤ m) = false := decide_eq_false (by omega)
        rw [e] at HR
        clear e
        go_wp2_with fail
        go_ret
        exact ⟨by rw [HR.out]; rfl, rfl⟩

end Go.Proofs.YthhlcecojeaalaaDoor
end

/-
  Contracts of the reference's All, Get, Has, Set (layer 9).
-/
section
namespace Go.Proofs.YthhlcecojeaalaaDoor
open Go.RowKit

set_option maxHeartbeats 4000000 in
set_option maxRecDepth 100000 in
theorem rf_all (A : Option Addr) (n c : Nat) (L : List Fd) (name : ByteArray) (w : World) (h : SlF w A n c L) (hn : n ≤ 100000000) (hz : name.size ≤ maxLen) :
    Calls Tryd.prog 69 #[.slice A n c, .string name] w (Vals w (fdAll L name)) := by
  have hlen := h.len
  subst hlen
  have hD : fdAll L name = (L.filter fun x => sameB x.1 name).map fun x => x.2.data.toList := rfl
  rw [hD]
  go_enter Tryd.func69, Tryd.ntmps69
  go_wp2_with fail
  go_loopw [5, 6] (fun v i wr => ∃ k : Nat, k ≤ L.length ∧ i = .int .i64 k ∧ Hid (OwnS wr w.heap.size 9 v (((L.take k).filter fun x => sameB x.1 name).map fun x => x.2.data.toList)) ∧ Below w.heap.size w wr) (fun _ i _ => L.length - (intOf i).toNat)
  case atStart => exact ⟨0, Nat.zero_le _, rfl, OwnS.nil _ _ _, Below.refl _ _⟩
  case round =>
    obtain ⟨k, hk, rfl, hown, hbel⟩ := hrel
    by_cases hlt : k < L.length
    · obtain ⟨ad, rfl, hc⟩ := h.at_ (by omega)
      obtain ⟨hc0, hc1⟩ := hc k L[k] (List.getElem?_eq_getElem hlt)
      have hcell0 := cell_kept hbel hc0
      have hc1' := fd_snd hc1
      have hz1 := (h.sz _ (List.getElem_mem hlt)).1
      have hlx : (((L.take k).filter fun x => sameB x.1 name).map fun x => x.2.data.toList).length ≤ k := by
        rw [List.length_map]
        exact Nat.le_trans (List.length_filter_le _ _) (by rw [List.length_take]; omega)
      have HF := filter_snoc (fun x => sameB x.1 name) (L.take k) L[k]
      rw [← take_fd L k hlt] at HF
      generalize L[k] = x at *
      obtain ⟨a, b⟩ := x
      have hi0 : (0 : Int) ≤ (k : Int) := by omega
      have hi1 : (k : Int) < (L.length : Int) := by omega
      have hs4 := hbel.size
      cases hsm : sameB a name with
      | true =>
        have HS : Hid (((L.take (k + 1)).filter fun x => sameB x.1 name).map (fun x => x.2.data.toList) = ((L.take k).filter fun x => sameB x.1 name).map (fun x => x.2.data.toList) ++ [b.data.toList]) := by
          show _ = _
          rw [HF, if_pos hsm, List.map_append]; rfl
        generalize hX : (((L.take k).filter fun x => sameB x.1 name).map fun x => x.2.data.toList) = X at *
        have HSM := Lib.hid hsm
        clear hc hc0 hc1 hX HF hsm
        go_wp2_with fail
        refine (r_same a name _ hz1 hz).mono ?_
        rintro e w1 ⟨he, hb1⟩
        rw [HSM.out] at he
        subst he
        have hcell1 := cell_kept (hbel.trans (hb1.mono hs4)) hc1'
        have HO := Lib.hid (hown.out.below hb1)
        have HB := Lib.hid (hbel.trans (hb1.mono hs4))
        have hs5 := HB.out.size
        clear hb1 hown
        go_wp2_with (at_builtin; refine wpList_append_sls rfl _ _ _ rfl w.heap.size 9 Tryd.underlying51 (by kernel_rfl) _ rfl X (HO.out.alloc _) _ _ _ rfl [b.data.toList] (SlS.textAt _ _ b rfl) (by simp; omega) (by simp; omega) w (HB.out.alloc hs5 _) ?_; intro v1 w2 ho2 hb2 hz2)
        go_roundw
        case rel => exact ⟨k + 1, by omega, by go_num, by show OwnS _ _ _ _ _; rw [HS.out]; exact ho2.out, hb2⟩
        case measure => simp [intOf]; omega
      | false =>
        have HS : Hid (((L.take (k + 1)).filter fun x => sameB x.1 name).map (fun x => x.2.data.toList) = ((L.take k).filter fun x => sameB x.1 name).map (fun x => x.2.data.toList)) := by
          show _ = _
          rw [HF, if_neg (by simp [hsm])]
        have HSM := Lib.hid hsm
        clear hc hc0 hc1 HF hsm hlx
        go_wp2_with fail
        refine (r_same a name _ hz1 hz).mono ?_
        rintro e w1 ⟨he, hb1⟩
        rw [HSM.out] at he
        subst he
        go_wp2_with fail
        go_roundw
        case rel => exact ⟨k + 1, by omega, by go_num, by show OwnS _ _ _ _ _; rw [HS.out]; exact hown.out.below hb1, hbel.trans (hb1.mono hs4)⟩
        case measure => simp [intOf]; omega
    · have HE : Hid (((L.take k).filter fun x => sameB x.1 name).map (fun x => x.2.data.toList) = (L.filter fun x => sameB x.1 name).map fun x => x.2.data.toList) := by
        show _ = _
        rw [List.take_of_length_le (by omega)]
      rw [HE.out] at hown
      go_wp2_with fail
      go_ret
      obtain ⟨A2, c2, rfl, hA, hH⟩ := hown.out.sls
      exact ⟨A2, c2, rfl, hA, hH, hbel⟩

/-! ### Set -/
end Go.Proofs.YthhlcecojeaalaaDoor
end

/-
  Contracts of the reference's put, Names (layer 15).
-/
section
namespace Go.Proofs.YthhlcecojeaalaaDoor
open Go.RowKit
set_option linter.unusedSimpArgs false

/-- What Names answers. -/
def IsNm (w : World) (L : List (List UInt8)) (ok : Bool) (e : Ending) (w' : World) : Prop := ∃ A c, e = .returned (.tuple #[.slice A L.length c, .bool ok]) ∧ SlS w' A L.length c L ∧ Head w' A ∧ Below w.heap.size w w'

end Go.Proofs.YthhlcecojeaalaaDoor
end
