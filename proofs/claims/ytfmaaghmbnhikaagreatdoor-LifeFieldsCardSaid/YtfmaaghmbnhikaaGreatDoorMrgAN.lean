/-
  Texts that the laws of this seat lean on, one behind the other.
-/
import Derived.Test.YtfmaaghmbnhikaaGreatDoorMrgAH
import Derived.Test.YtfmaaghmbnhikaaGreatDoorMrgZ
/-
  Plain facts of layer 17: lifetimes are durations; an age grows second by second; what is left.
-/
section
namespace Go.Proofs.YtfmaaghmbnhikaaGreatDoor
open Go.RowKit

theorem lstD_all (nm : ByteArray) : ∀ (D : List Dv) (n : Int), -1 ≤ n ∧ n ≤ 2147483648 → -1 ≤ D.foldl (lstS nm) n ∧ D.foldl (lstS nm) n ≤ 2147483648
  | [], _, h => h
  | d :: D, n, h => lstD_all nm D _ (lst_bd nm n d h)
theorem lifN_bd (L : List Fd) (code t : Int) : 0 ≤ lifN L code t ∧ lifN L code t ≤ 2147483648 := by
  have h1 : (ctP L).sh ≤ 2147483648 := (lstD_all smS (dvs (fdAll L ccS)) (-1) (by omega)).2
  have h2 : (ctP L).ma ≤ 2147483648 := (lstD_all maS (dvs (fdAll L ccS)) (-1) (by omega)).2
  have h3 := aprN_bd (whnV L exS) (datN L t)
  have h4 := aprN_bd (datN L t) (whnV L lmS)
  unfold lifN
  generalize (ctP L).sh = x at *
  generalize (ctP L).ma = y at *
  generalize aprN (whnV L exS) (datN L t) = p at *
  generalize aprN (datN L t) (whnV L lmS) = q at *
  split
  · omega
  split
  · omega
  split
  · split <;> omega
  split
  · omega
  · omega
/-- What an age is made of. -/
theorem age_sum (L : List Fd) (t : Int) (h0 : 0 ≤ t) : ∃ X : Int, 0 ≤ X ∧ X ≤ 2147483648 ∧ ∀ now, t ≤ now → now ≤ 253402300799 → ageN L t now = min (X + (now - t)) 2147483648 := by
  refine ⟨max (tolN L) (aprN t (datN L t)), ?_⟩
  have h1 := tolN_bd L
  have h2 := aprN_bd t (datN L t)
  refine ⟨by omega, by omega, fun now h3 h4 => ?_⟩
  unfold ageN
  generalize tolN L = x at *
  generalize aprN t (datN L t) = y at *
  have h5 : aprN now t = min (now - t) 2147483648 := by unfold aprN clkN; omega
  rw [h5]
  unfold addI clampI
  repeat' split
  all_goals omega
theorem lef_eq (L : List Fd) (code t now : Int) (h : 0 ≤ ageN L t now ∧ ageN L t now ≤ 2147483648) : lefN L code t now = if ageN L t now < lifN L code t then lifN L code t - ageN L t now else 0 := by
  have h1 := lifN_bd L code t
  unfold lefN lessI clampI
  generalize ageN L t now = a at *
  generalize lifN L code t = l at *
  repeat' split
  all_goals omega

end Go.Proofs.YtfmaaghmbnhikaaGreatDoor
end

/-
  Plain facts of layer 17's LifeShared: a field Cache-Control ahead of fields without one.
-/
section
namespace Go.Proofs.YtfmaaghmbnhikaaGreatDoor
open Go.RowKit

def no13 (x : Fd) : Bool := !decide (x.1.size = 13)
theorem all_no {L : List Fd} (h : ∀ x ∈ L, no13 x = true) : fdAll L ccS = [] := by
  unfold fdAll
  rw [List.map_eq_nil_iff, List.filter_eq_nil_iff]
  intro x hx hs
  have := same_len hs
  have h2 := h x hx
  unfold no13 at h2
  rw [show ccS.size = 13 from rfl] at this
  simp [this] at h2
def ccL : ByteArray := ⟨#[99, 97, 99, 104, 101, 45, 99, 111, 110, 116, 114, 111, 108]⟩
def dgB (k : Int) : UInt8 := UInt8.ofNat (48 + k.toNat)
def maX (k : Int) : ByteArray := maE ++ mkS [dgB k]
def smX (k : Int) : ByteArray := smE ++ mkS [dgB k]
theorem ten {k : Int} (h : 0 ≤ k ∧ k ≤ 9) : k = 0 ∨ k = 1 ∨ k = 2 ∨ k = 3 ∨ k = 4 ∨ k = 5 ∨ k = 6 ∨ k = 7 ∨ k = 8 ∨ k = 9 := by omega
theorem ma_dv {k : Int} (h : 0 ≤ k ∧ k ≤ 9) : dvV (maX k).data.toList = [(maS.data.toList, [dgB k])] := by
  rcases ten h with rfl | rfl | rfl | rfl | rfl | rfl | rfl | rfl | rfl | rfl <;> kernel_rfl
theorem sm_dv {k : Int} (h : 0 ≤ k ∧ k ≤ 9) : dvV (smX k).data.toList = [(smS.data.toList, [dgB k])] := by
  rcases ten h with rfl | rfl | rfl | rfl | rfl | rfl | rfl | rfl | rfl | rfl <;> kernel_rfl
theorem dg_sec {k : Int} (h : 0 ≤ k ∧ k ≤ 9) : secN [dgB k] = k := by
  rcases ten h with rfl | rfl | rfl | rfl | rfl | rfl | rfl | rfl | rfl | rfl <;> decide
theorem lea_one {k : Int} (h : 0 ≤ k) : leaN (-1) k = k := by
  unfold leaN
  rw [if_pos (.inl (by omega))]
  omega
theorem shared_one {a : Int} {L : List Fd} (ha : 0 ≤ a ∧ a ≤ 9) (h : ∀ x ∈ L, no13 x = true) (code t : Int) : lifN ((ccS, maX a) :: L) code t = a := by
  have e : fdAll ((ccS, maX a) :: L) ccS = [(maX a).data.toList] := by
    have h1 := all_no h
    unfold fdAll at h1 ⊢
    rw [List.filter_cons, show sameB (ccS, maX a).1 ccS = true by unfold sameB; simp, if_pos rfl, List.map_cons, h1]
  have hd : dvs [(maX a).data.toList] = [(maS.data.toList, [dgB a])] := by unfold dvs; rw [List.flatMap_cons, List.flatMap_nil, ma_dv ha]; rfl
  have h1 : (ctP ((ccS, maX a) :: L)).sh = -1 := by
    show lstD (dvs (fdAll _ ccS)) smS = _
    rw [e, hd]; rfl
  have h2 : (ctP ((ccS, maX a) :: L)).ma = a := by
    show lstD (dvs (fdAll _ ccS)) maS = _
    rw [e, hd]
    unfold lstD
    rw [List.foldl_cons, List.foldl_nil]
    unfold lstS
    rw [if_pos (by simp), dg_sec ha, lea_one ha.1]
  unfold lifN
  rw [h1, h2, if_neg (by omega), if_pos ha.1]
theorem shared_two {a b : Int} {L : List Fd} (ha : 0 ≤ a ∧ a ≤ 9) (hb : 0 ≤ b ∧ b ≤ 9) (h : ∀ x ∈ L, no13 x = true) (code t : Int) : lifN ((ccL, smX b) :: (ccS, maX a) :: L) code t = b := by
  have e : fdAll ((ccL, smX b) :: (ccS, maX a) :: L) ccS = [(smX b).data.toList, (maX a).data.toList] := by
    have h1 := all_no h
    unfold fdAll at h1 ⊢
    rw [List.filter_cons, show sameB (ccL, smX b).1 ccS = true by kernel_rfl, if_pos rfl, List.filter_cons, show sameB (ccS, maX a).1 ccS = true by unfold sameB; simp, if_pos rfl, List.map_cons, List.map_cons, h1]
  have hd : dvs [(smX b).data.toList, (maX a).data.toList] = [(smS.data.toList, [dgB b]), (maS.data.toList, [dgB a])] := by
    unfold dvs
    rw [List.flatMap_cons, List.flatMap_cons, List.flatMap_nil, ma_dv ha, sm_dv hb]; rfl
  have h1 : (ctP ((ccL, smX b) :: (ccS, maX a) :: L)).sh = b := by
    show lstD (dvs (fdAll _ ccS)) smS = _
    rw [e, hd]
    unfold lstD
    rw [List.foldl_cons, List.foldl_cons, List.foldl_nil]
    unfold lstS
    rw [if_neg (show ¬ ((maS.data.toList == smS.data.toList) = true) by decide), if_pos (by simp), dg_sec hb, lea_one hb.1]
  unfold lifN
  rw [h1, if_pos hb.1]
/-- The digit, cut out. -/
def dgS : ByteArray := ⟨#[48, 49, 50, 51, 52, 53, 54, 55, 56, 57]⟩
theorem dg_cut {k : Int} (h : 0 ≤ k ∧ k ≤ 9) : dgS.extract k.toNat (k + 1).toNat = mkS [dgB k] := by
  rcases ten h with rfl | rfl | rfl | rfl | rfl | rfl | rfl | rfl | rfl | rfl <;> kernel_rfl

end Go.Proofs.YtfmaaghmbnhikaaGreatDoor
end
