/-
  Texts that the laws of this seat lean on, one behind the other.
-/
import Derived.Test.YtnembpklidcgoaaGreatDoorMrgAC
import Derived.Test.YtnembpklidcgoaaGreatDoorMrgAE
import Derived.Test.YtnembpklidcgoaaGreatDoorMrgAB
import Derived.Deep.RegionHeld3
import Derived.Deep.DeepCutAuto
import Derived.Test.YtnembpklidcgoaaGreatDoorMrgAA
import Derived.Test.YtnembpklidcgoaaGreatDoorMrgT
/-
  Contracts of the reference's Storable, Verdict (layer 18).
-/
section
namespace Go.Proofs.YtnembpklidcgoaaGreatDoor
open Go.RowKit
set_option linter.unusedSimpArgs false

theorem cel9r {W : World} {g t : Nat} {c0 c1 c2 c3 c4 c5 c6 c7 c8 : Value} (h : W.heap[g]? = some (.cells #[c0, c1, c2, c3, c4, c5, c6, c7, c8] t (0, 0))) :
    W.cell? ⟨g, 0, none⟩ = some c0 ∧ W.cell? ⟨g, 1, none⟩ = some c1 ∧ W.cell? ⟨g, 2, none⟩ = some c2 ∧ W.cell? ⟨g, 3, none⟩ = some c3 ∧ W.cell? ⟨g, 4, none⟩ = some c4 ∧ W.cell? ⟨g, 5, none⟩ = some c5 ∧ W.cell? ⟨g, 6, none⟩ = some c6 ∧ W.cell? ⟨g, 7, none⟩ = some c7 ∧ W.cell? ⟨g, 8, none⟩ = some c8 := by
  refine ⟨?_, ?_, ?_, ?_, ?_, ?_, ?_, ?_, ?_⟩ <;> (rw [cell_of_row W g _ _ _ _ h]; rfl)
theorem both_of : ∀ t : Bool, t = true ∨ t = false := fun t => by cases t <;> simp

end Go.Proofs.YtnembpklidcgoaaGreatDoor
end

/-
  Plain facts of layer 17: lifetimes are durations; an age grows second by second; what is left.
-/
section
namespace Go.Proofs.YtnembpklidcgoaaGreatDoor
open Go.RowKit

theorem lstD_all (nm : ByteArray) : ∀ (D : List Dv) (n : Int), -1 ≤ n ∧ n ≤ 2147483648 → -1 ≤ D.foldl (lstS nm) n ∧ D.foldl (lstS nm) n ≤ 2147483648
  | [], _, h => h
  | d :: D, n, h => lstD_all nm D _ (lst_bd nm n d h)
theorem lifN_bd (L : List Fd) (code t : Int) : 0 ≤ lifN L code t ∧ lifN L code t ≤ 2147483648 := by
  have h1 : (ctP L).sh ≤ 2147483648 := (lstD_all smS (dvs (fdAll L ccS)) (-1) (by omega)).2
  have h2 : (ctP L).ma ≤ 2147483648 := (lstD_all maS (dvs (fdAll L ccS)) (-1) (by omega)).2
  have h3 := aprN_bd (whnV L exS) (datN L t)
  have h4 := aprN_bd (datN L t) (whnV L lmS)
  unfold lifN
  generalize (ctP L).sh = x at *
  generalize (ctP L).ma = y at *
  generalize aprN (whnV L exS) (datN L t) = p at *
  generalize aprN (datN L t) (whnV L lmS) = q at *
  split
  · omega
  split
  · omega
  split
  · split <;> omega
  split
  · omega
  · omega
/-- What an age is made of. -/
theorem age_sum (L : List Fd) (t : Int) (h0 : 0 ≤ t) : ∃ X : Int, 0 ≤ X ∧ X ≤ 2147483648 ∧ ∀ now, t ≤ now → now ≤ 253402300799 → ageN L t now = min (X + (now - t)) 2147483648 := by
  refine ⟨max (tolN L) (aprN t (datN L t)), ?_⟩
  have h1 := tolN_bd L
  have h2 := aprN_bd t (datN L t)
  refine ⟨by omega, by omega, fun now h3 h4 => ?_⟩
  unfold ageN
  generalize tolN L = x at *
  generalize aprN t (datN L t) = y at *
  have h5 : aprN now t = min (now - t) 2147483648 := by unfold aprN clkN; omega
  rw [h5]
  unfold addI clampI
  repeat' split
  all_goals omega
theorem lef_eq (L : List Fd) (code t now : Int) (h : 0 ≤ ageN L t now ∧ ageN L t now ≤ 2147483648) : lefN L code t now = if ageN L t now < lifN L code t then lifN L code t - ageN L t now else 0 := by
  have h1 := lifN_bd L code t
  unfold lefN lessI clampI
  generalize ageN L t now = a at *
  generalize lifN L code t = l at *
  repeat' split
  all_goals omega

end Go.Proofs.YtnembpklidcgoaaGreatDoor
end

/-
  Plain facts of layer 18: what may be used is fresh and as the request asks; what may not be used now may not be used later.
-/
section
namespace Go.Proofs.YtnembpklidcgoaaGreatDoor
open Go.RowKit

theorem age_bd (L : List Fd) (t now : Int) : 0 ≤ ageN L t now ∧ ageN L t now ≤ 2147483648 := by
  have h1 := tolN_bd L
  have h2 := aprN_bd t (datN L t)
  have h3 := aprN_bd now t
  unfold ageN
  generalize tolN L = x at *
  generalize aprN t (datN L t) = y at *
  generalize aprN now t = z at *
  unfold addI clampI
  repeat' split
  all_goals omega
theorem ver_two (Q L : List Fd) (code t now : Int) : verN Q L code t now = 1 ∨ verN Q L code t now = 2 := by
  unfold verN
  split <;> simp
/-- When a reply may be used. -/
def VerOk (Q L : List Fd) (code t now : Int) : Prop :=
  lefN L code t now ≠ 0 ∧ (ctA Q).nc = false ∧ (ctP L).nc = false ∧ ((ctA Q).ma < 0 ∨ ageN L t now ≤ (ctA Q).ma) ∧ ((ctA Q).mf < 0 ∨ (ctA Q).mf ≤ lefN L code t now)
theorem ver_iff (Q L : List Fd) (code t now : Int) : verN Q L code t now = 1 ↔ VerOk Q L code t now := by
  have e : verN Q L code t now = 1 ↔ verB Q L code t now = false := by
    unfold verN
    cases verB Q L code t now <;> simp
  rw [e]
  unfold verB VerOk
  generalize lefN L code t now = lf
  generalize ageN L t now = ag
  generalize (ctA Q).ma = ma
  generalize (ctA Q).mf = mf
  simp only [Bool.or_eq_false_iff, Bool.and_eq_false_iff, decide_eq_false_iff_not]
  constructor
  · rintro ⟨h1, h2, h3, h4, h5⟩
    exact ⟨h1, h2, h3, by omega, by omega⟩
  · rintro ⟨h1, h2, h3, h4, h5⟩
    exact ⟨h1, h2, h3, by omega, by omega⟩
theorem ver_fresh {Q L : List Fd} {code t now : Int} (h : verN Q L code t now = 1) : frsB L code t now = true := by
  have h1 := ((ver_iff ..).1 h).1
  have h2 := lef_eq L code t now (age_bd L t now)
  unfold frsB
  rw [decide_eq_true_eq]
  rw [h2] at h1
  by_cases h3 : ageN L t now < lifN L code t
  · exact h3
  · rw [if_neg h3] at h1
    exact absurd rfl h1
theorem ctA_nil : (ctA []).nc = false ∧ (ctA []).ma = -1 ∧ (ctA []).mf = -1 := by refine ⟨?_, ?_, ?_⟩ <;> kernel_rfl
theorem ver_none {Q L : List Fd} {code t now : Int} (h : verN Q L code t now = 1) : verN [] L code t now = 1 := by
  obtain ⟨h1, _, h3, _, _⟩ := (ver_iff ..).1 h
  obtain ⟨a1, a2, a3⟩ := ctA_nil
  exact (ver_iff ..).2 ⟨h1, a1, h3, .inl (by rw [a2]; omega), .inl (by rw [a3]; omega)⟩
theorem ver_later {Q L : List Fd} {code t now later : Int} (h0 : 0 ≤ t) (h1 : t ≤ now) (h2 : now ≤ 253402300799) (h3 : 0 ≤ later) (h4 : later ≤ 253402300799 - now) (h : verN Q L code t now = 2) : verN Q L code t (now + later) = 2 := by
  rcases ver_two Q L code t (now + later) with e | e
  · exfalso
    obtain ⟨X, hX0, hX1, hX⟩ := age_sum L t h0
    have e1 := hX now h1 h2
    have e2 := hX (now + later) (by omega) (by omega)
    have b := lifN_bd L code t
    have l1 := lef_eq L code t now (age_bd L t now)
    have l2 := lef_eq L code t (now + later) (age_bd L t (now + later))
    obtain ⟨g1, g2, g3, g4, g5⟩ := (ver_iff ..).1 e
    have : verN Q L code t now = 1 := by
      refine (ver_iff ..).2 ⟨?_, g2, g3, ?_, ?_⟩
      · rw [l1]; rw [l2] at g1
        split at g1
        · split <;> omega
        · exact absurd rfl g1
      · omega
      · rw [l1]; rw [l2] at g5
        split at g5
        · split <;> omega
        · split <;> omega
    omega
  · exact e
theorem sfar {W : World} {g k j : Nat} {u : Value} {o : Obj} (hk : k ≠ g) (h : W.heap[k]? = some o) : (W.setCell ⟨g, j, none⟩ u).heap[k]? = some o := by
  simp [World.setCell, Array.getElem?_modify, h, Ne.symm hk]

end Go.Proofs.YtnembpklidcgoaaGreatDoor
end

/-
  Plain facts of layer 18's ReuseShared: a field Cache-Control: no-store ahead of others, and a field Authorization.
-/
section
namespace Go.Proofs.YtnembpklidcgoaaGreatDoor
open Go.RowKit

def noX : Fd := (⟨#[67, 65, 67, 72, 69, 45, 99, 111, 110, 116, 114, 111, 108]⟩, ⟨#[78, 111, 45, 83, 116, 111, 114, 101]⟩)
def auX : Fd := (⟨#[97, 117, 116, 104, 111, 114, 105, 122, 97, 116, 105, 111, 110]⟩, ⟨#[120]⟩)
theorem fwl_cons (x : Fd) {L : List Fd} (h : L.length ≤ 60) (hL : FwL L) (hx : x.1.size ≤ 10000 ∧ x.2.size ≤ 10000) : FwL (x :: L) := by
  refine ⟨by rw [List.length_cons]; omega, fun y hy => ?_, fun y hy => ?_⟩
  all_goals
    rcases List.mem_cons.1 hy with rfl | hy
    · omega
    · first | exact hL.v y hy | exact hL.m y hy
theorem all_cons_yes {x : Fd} {L : List Fd} {nm : ByteArray} (h : sameB x.1 nm = true) : fdAll (x :: L) nm = x.2.data.toList :: fdAll L nm := by
  unfold fdAll
  rw [List.filter_cons, if_pos h, List.map_cons]
theorem all_cons_no {x : Fd} {L : List Fd} {nm : ByteArray} (h : sameB x.1 nm = false) : fdAll (x :: L) nm = fdAll L nm := by
  unfold fdAll
  rw [List.filter_cons, if_neg (by rw [h]; simp)]
theorem no_ctl (L : List Fd) : (ctP (noX :: L)).ns = true := by
  show (!fnV (fdAll (noX :: L) ccS) || hasD (dvs (fdAll (noX :: L) ccS)) nsS) = true
  rw [all_cons_yes (show sameB noX.1 ccS = true by kernel_rfl)]
  have h : hasD (dvs (noX.2.data.toList :: fdAll L ccS)) nsS = true := by
    unfold dvs hasD
    rw [List.flatMap_cons, List.any_append]
    have : (dvV noX.2.data.toList).any (fun d => d.1 == nsS.data.toList) = true := by kernel_rfl
    rw [this]; rfl
  rw [h, Bool.or_true]
theorem ctA_ns (L : List Fd) : (ctA L).ns = (ctP L).ns := by
  unfold ctA
  split <;> rfl
theorem no_ask (L : List Fd) : (ctA (noX :: L)).ns = true := by rw [ctA_ns, no_ctl]
theorem sto_noQ (m : ByteArray) (Q L : List Fd) (code now : Int) : stoB m (noX :: Q) L code now = false := by
  unfold stoB rstQ
  rw [no_ask]
  simp
theorem sto_noP (m : ByteArray) (Q L : List Fd) (code now : Int) : stoB m Q (noX :: L) code now = false := by
  unfold stoB stP
  rw [no_ctl]
  simp
theorem au_pas (Q : List Fd) : pasB (auX :: Q) = pasB Q := by
  unfold pasB fdGot
  rw [all_cons_no (show sameB auX.1 rgS = false by kernel_rfl), all_cons_no (show sameB auX.1 irS = false by kernel_rfl), all_cons_no (show sameB auX.1 imS = false by kernel_rfl), all_cons_no (show sameB auX.1 iuS = false by kernel_rfl)]
theorem au_ctP (Q : List Fd) : ctP (auX :: Q) = ctP Q := by
  unfold ctP
  rw [all_cons_no (show sameB auX.1 ccS = false by kernel_rfl)]
theorem au_ask (Q : List Fd) : (ctA (auX :: Q)).ns = (ctA Q).ns := by rw [ctA_ns, ctA_ns, au_ctP]
theorem au_got (Q : List Fd) : fdGot (auX :: Q) auS = true := by
  unfold fdGot
  rw [all_cons_yes (show sameB auX.1 auS = true by kernel_rfl)]
  rfl
/-- What a storable reply says. -/
theorem sto_says {m : ByteArray} {Q L : List Fd} {code now : Int} (h : stoB m Q L code now = true) :
    (m.toList == [71, 69, 84]) = true ∧ (ctP L).ns = false ∧ (ctP L).pv = false ∧ (frsB L code now now = true ∨ (frsB L code now now = false ∧ valB L = true)) ∧ (code == 206) = false ∧ (code == 304) = false := by
  unfold stoB rstQ stP at h
  simp only [Bool.and_eq_true, Bool.not_eq_true', Bool.or_eq_true] at h
  obtain ⟨⟨h1, _⟩, ⟨h2, h3, h4, h5⟩, _, _, _, h6⟩ := h
  refine ⟨h1, h2, h3, ?_, h4, h5⟩
  cases hf : frsB L code now now with
  | true => exact .inl rfl
  | false =>
    rcases h6 with h6 | h6
    · exact .inr ⟨rfl, h6⟩
    · rw [hf] at h6; cases h6
/-- With a field Authorization a storable reply is one that says so. -/
theorem sto_au {m : ByteArray} {Q L : List Fd} {code now : Int} (h : stoB m Q L code now = true) :
    stoB m (auX :: Q) L code now = ((ctP L).pu || ((ctP L).mc || decide (0 ≤ (ctP L).sh))) := by
  unfold stoB rstQ stA at h ⊢
  rw [au_pas, au_ask, au_got]
  simp only [Bool.and_eq_true] at h
  obtain ⟨⟨h1, h2, h3⟩, h4, _, h5, h6, h7⟩ := h
  rw [h1, h2, h3, h4, h5, h6, h7]
  simp

end Go.Proofs.YtnembpklidcgoaaGreatDoor
end
