/-
  Contract of the reference's dots (layer 8): dot segments removed.
-/
import Derived.Test.YtcmppmbieebkpaaDoorTarP
namespace Go.Proofs.YtcmppmbieebkpaaDoor
open Go.RowKit

theorem joinS_len1 (x : List UInt8) (L : List (List UInt8)) : (joinS (x :: L)).length = 1 + x.length + (joinS L).length := by rw [joinS_cons]; simp; omega
/-- The first segment of what is left. -/
structure Head8 (S : ByteArray) (x : List UInt8) (L : List (List UInt8)) : Prop where
  sz : S.size = 1 + x.length + (joinS L).length
  ink : ∀ (j : Nat) (h : j < S.size), 1 ≤ j → j < 1 + x.length → ((S[j].toNat : Int) != 47) = true
  stop : ∀ (h : 1 + x.length < S.size), ((S[1 + x.length].toNat : Int) != 47) = false
  a : S.extract 0 (1 + x.length) = mkS (47 :: x)
  z : S.extract (1 + x.length) S.size = mkS (joinS L)
theorem head8 {S : ByteArray} {x : List UInt8} {L : List (List UInt8)} (h : S.data.toList = joinS (x :: L)) (hx : NoSl x) : Head8 S x L := by
  have e := mkS_eq h
  subst e
  have hz : (mkS (joinS (x :: L))).size = 1 + x.length + (joinS L).length := by rw [mkS_size, joinS_len1]
  have hj : joinS (x :: L) = (47 :: x) ++ joinS L := joinS_cons x L
  have hat : ∀ (k : Nat) (hk : k < (mkS (joinS (x :: L))).size), (mkS (joinS (x :: L)))[k] = (joinS (x :: L))[k]'(by rw [mkS_size] at hk; exact hk) := fun k hk => rfl
  refine ⟨hz, fun j h h1 h2 => ?_, fun h => ?_, ?_, ?_⟩
  · rw [hat]
    have : (joinS (x :: L))[j]'(by rw [mkS_size] at h; exact h) = x[j - 1]'(by omega) := by
      simp only [hj]
      rw [List.getElem_append_left (by rw [List.length_cons]; omega), List.getElem_cons, dif_neg (by omega)]
    rw [this]
    have := hx _ (List.getElem_mem (show j - 1 < x.length by omega))
    rw [bne_iff_ne]
    intro e
    exact this (UInt8.toNat_inj.1 (Int.ofNat.inj e))
  · rw [hat]
    cases L with
    | nil => rw [hz] at h; simp [joinS] at h
    | cons y L =>
      have : (joinS (x :: y :: L))[1 + x.length]'(by rw [mkS_size] at h; exact h) = 47 := by
        simp only [hj]
        rw [List.getElem_append_right (by rw [List.length_cons]; omega)]
        simp [joinS_cons, Nat.add_comm]
      rw [this]; rfl
  · rw [piece_ext]
    unfold piece
    rw [mkS_list, hj, List.drop_zero, Nat.sub_zero, show 1 + x.length = (47 :: x).length from by rw [List.length_cons]; omega, List.take_left]
  · rw [piece_ext, piece_all, mkS_list, hj, show 1 + x.length = (47 :: x).length from by rw [List.length_cons]; omega, List.drop_left]

theorem segF_one (st : List (List UInt8)) (x : List UInt8) (L : List (List UInt8)) : segF st (x :: L) = segF (segN st x L.isEmpty) L := by
  cases L with
  | nil => simp [segF]
  | cons y L => rw [segF]; rfl

end Go.Proofs.YtcmppmbieebkpaaDoor
