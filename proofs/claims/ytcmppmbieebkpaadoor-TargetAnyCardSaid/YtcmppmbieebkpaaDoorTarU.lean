/-
  Contract of the reference's Parse (layer 8).
-/
import Derived.Test.YtcmppmbieebkpaaDoorTarT
namespace Go.Proofs.YtcmppmbieebkpaaDoor
open Go.RowKit

theorem uri_cells {W : World} {g t : Nat} (h : W.heap[g]? = some (.cells #[.string ⟨#[]⟩, .int .i64 0, .string ⟨#[]⟩] t (0, 0))) :
    W.cell? ⟨g, 0, none⟩ = some (.string ⟨#[]⟩) ∧ W.cell? ⟨g, 1, none⟩ = some (.int .i64 0) ∧ W.cell? ⟨g, 2, none⟩ = some (.string ⟨#[]⟩) ∧
    W.frozen? ⟨g, 0, none⟩ = false ∧ W.frozen? ⟨g, 1, none⟩ = false ∧ W.frozen? ⟨g, 2, none⟩ = false := by
  refine ⟨?_, ?_, ?_, ?_, ?_, ?_⟩
  any_goals (rw [cell_of_row W g _ _ _ _ h]; rfl)
  all_goals simp [World.frozen?, h]
theorem uri_set {W : World} {g t : Nat} {c0 c1 c2 : Value} (h : W.heap[g]? = some (.cells #[.string ⟨#[]⟩, .int .i64 0, .string ⟨#[]⟩] t (0, 0))) :
    (((W.setCell ⟨g, 0, none⟩ c0).setCell ⟨g, 1, none⟩ c1).setCell ⟨g, 2, none⟩ c2).heap[g]? = some (.cells #[c0, c1, c2] t (0, 0)) := by
  simp [World.setCell, Array.getElem?_modify, h]
theorem below_set3 {B g : Nat} {w W : World} {c0 c1 c2 : Value} (h : Below B w W) (hg : B ≤ g) : Below B w (((W.setCell ⟨g, 0, none⟩ c0).setCell ⟨g, 1, none⟩ c1).setCell ⟨g, 2, none⟩ c2) :=
  ((h.setCell (p := ⟨g, 0, none⟩) hg _).setCell (p := ⟨g, 1, none⟩) hg _).setCell (p := ⟨g, 2, none⟩) hg _

/-- What Parse answers, as a value and a number. -/
def parV (t h : ByteArray) : Value := uriV (mkS (parR t h).1.1) (parR t h).1.2.1 (mkS (parR t h).1.2.2)
def parN8 (t h : ByteArray) : Int := (parR t h).2
/-- What the end of Parse makes of a target and a host. -/
theorem par_no {t h T : ByteArray} (hT : T.data.toList = parG t) (h1 : T.data.toList.head? ≠ some 47) : parV t h = uriV ⟨#[]⟩ 0 ⟨#[]⟩ ∧ parN8 t h = 23 := by
  unfold parV parN8 parR
  rw [← hT, if_neg h1]; exact ⟨rfl, rfl⟩
theorem par_noauth {t h T H : ByteArray} (hT : T.data.toList = parG t) (hH : H = parH t h) (h1 : T.data.toList.head? = some 47) (h2 : authO H = none) : parV t h = uriV ⟨#[]⟩ 0 ⟨#[]⟩ ∧ parN8 t h = 26 := by
  unfold parV parN8 parR
  rw [← hT, if_pos h1, ← hH, h2]; exact ⟨rfl, rfl⟩
theorem par_nopath {t h T H : ByteArray} {a : List UInt8} {p : Int} (hT : T.data.toList = parG t) (hH : H = parH t h) (h1 : T.data.toList.head? = some 47) (h2 : authO H = some (a, p)) (h3 : pathE T ≠ 0) : parV t h = uriV ⟨#[]⟩ 0 ⟨#[]⟩ ∧ parN8 t h = pathE T := by
  unfold parV parN8 parR
  rw [← hT, if_pos h1, ← hH, h2]
  simp only [mkS_self, if_neg h3]; exact ⟨rfl, trivial⟩
theorem par_yes {t h T H : ByteArray} {a : List UInt8} {p : Int} (hT : T.data.toList = parG t) (hH : H = parH t h) (h1 : T.data.toList.head? = some 47) (h2 : authO H = some (a, p)) (h3 : pathE T = 0) : parV t h = uriV (mkS a) p (mkS (pathV T)) ∧ parN8 t h = 0 := by
  unfold parV parN8 parR
  rw [← hT, if_pos h1, ← hH, h2]
  simp only [mkS_self, if_pos h3]; exact ⟨trivial, trivial⟩
theorem par_len {a : List UInt8} {s : ByteArray} {p : Int} (h : authO s = some (a, p)) : (mkS a).size ≤ 253 := by
  rw [mkS_size]; exact (auth_good h).l1

end Go.Proofs.YtcmppmbieebkpaaDoor
