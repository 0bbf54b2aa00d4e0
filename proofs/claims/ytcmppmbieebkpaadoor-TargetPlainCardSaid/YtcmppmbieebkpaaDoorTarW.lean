/-
  Contract of the reference's Parse at a target that begins with http:// (layer 8).
-/
import Derived.Test.YtcmppmbieebkpaaDoorTarU
namespace Go.Proofs.YtcmppmbieebkpaaDoor
open Go.RowKit

structure Http8 (t h R H S : ByteArray) (E : Nat) : Prop where
  re : t.extract 7 t.size = R
  a : R.extract 0 E = H
  z : R.extract E R.size = S
  hh : H = parH t h
  ink : ∀ (j : Nat) (hj : j < R.size), j < E → ((R[j].toNat : Int) != 47) = true ∧ ((R[j].toNat : Int) != 63) = true
  er : E ≤ R.size
  rs : R.size ≤ t.size
  hs : H.size ≤ t.size
  ss : S.size ≤ t.size
  em : (S.size = 0 ∧ R.size ≤ E) ∨ (0 < S.size ∧ E < R.size)
  gl : parG t = rest8 S.data.toList
  hd : ∀ (hp : 0 < S.size), (S[0] = 47 ∨ S[0] = 63) ∧ ∀ (hj : E < R.size), R[E] = S[0]
theorem http8 (t h : ByteArray) (hsch : schB t = true) : ∃ R H S E, Http8 t h R H S E := by
  obtain ⟨R, hR⟩ : ∃ R, R = t.extract 7 t.size := ⟨_, rfl⟩
  have hRl : R.data.toList = t.data.toList.drop 7 := by rw [hR, piece_ext, piece_all, mkS_list]
  have hRs : R.size ≤ t.size := by rw [hR, ByteArray.size_extract]; omega
  obtain ⟨ra, hra⟩ : ∃ ra, ra = (t.data.toList.drop 7).takeWhile (fun c => !endB c) := ⟨_, rfl⟩
  obtain ⟨rb, hrb⟩ : ∃ rb, rb = (t.data.toList.drop 7).dropWhile (fun c => !endB c) := ⟨_, rfl⟩
  have hsp : R.data.toList = ra ++ rb := by rw [hRl, hra, hrb, List.takeWhile_append_dropWhile]
  have hno : ∀ c ∈ ra, endB c = false := fun c hc => by
    rw [hra] at hc
    have := List.all_eq_true.1 (List.all_takeWhile (p := fun c => !endB c) (l := t.data.toList.drop 7)) c hc
    simpa using this
  have hst : ∀ c, rb.head? = some c → endB c = true := fun c hc => by
    rw [hrb] at hc
    have := List.head?_dropWhile_not (fun c => !endB c) (t.data.toList.drop 7)
    rw [hc] at this
    simpa using this
  have hRz : R.size = ra.length + rb.length := by rw [Lib.size_eq, hsp, List.length_append]
  have hat : ∀ (j : Nat) (hj : j < R.size), (ra ++ rb)[j]? = some R[j] := fun j hj => by
    rw [← hsp, List.getElem?_eq_getElem (by rw [← Lib.size_eq]; exact hj)]; rfl
  refine ⟨R, mkS ra, mkS rb, ra.length, hR.symm, ?_, ?_, ?_, ?_, by omega, hRs, by rw [mkS_size]; omega, by rw [mkS_size]; omega, ?_, ?_, ?_⟩
  · rw [piece_ext]
    unfold piece
    rw [hsp, List.drop_zero, Nat.sub_zero, List.take_left]
  · rw [piece_ext, piece_all, hsp, List.drop_left]
  · unfold parH; rw [hsch, hra]; rfl
  · intro j hj hje
    have h1 := hat j hj
    rw [List.getElem?_append_left (by omega), List.getElem?_eq_getElem (by omega)] at h1
    have h2 := hno _ (List.getElem_mem (show j < ra.length by omega))
    rw [Option.some.inj h1] at h2
    unfold endB at h2
    rw [Bool.or_eq_false_iff, beq_eq_false_iff_ne, beq_eq_false_iff_ne] at h2
    constructor
    · rw [bne_iff_ne]; intro e; exact h2.1 (UInt8.toNat_inj.1 (Int.ofNat.inj e))
    · rw [bne_iff_ne]; intro e; exact h2.2 (UInt8.toNat_inj.1 (Int.ofNat.inj e))
  · rw [mkS_size]; omega
  · unfold parG; rw [hsch, mkS_list, hrb]; rfl
  · intro hp
    have h0 := head_at hp
    have h1 := hst _ h0
    unfold endB at h1
    rw [Bool.or_eq_true, beq_iff_eq, beq_iff_eq] at h1
    refine ⟨h1, fun hj => ?_⟩
    have h2 := hat ra.length hj
    rw [List.getElem?_append_right (Nat.le_refl _), Nat.sub_self, ← List.head?_eq_getElem?] at h2
    exact Option.some.inj (h2.symm.trans h0)

end Go.Proofs.YtcmppmbieebkpaaDoor
