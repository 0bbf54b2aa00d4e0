/-
  Contract of the reference's Path (layer 8).
-/
import Derived.Test.YtcmppmbieebkpaaDoorTarD
namespace Go.Proofs.YtcmppmbieebkpaaDoor
open Go.RowKit

theorem cutA_head {s : ByteArray} (h : s.data.toList.head? = some 47) : (cutA s 63).data.toList.head? = some 47 := by
  have e63 : (((63 : UInt8).toNat : Nat) : Int) = 63 := rfl
  rcases cut_form s 63 with ⟨h1, _, h2, h3⟩ | ⟨a, b, hl, ha, h1, h2, h3⟩
  · rw [e63] at h2
    rw [h2]; exact h
  · rw [e63] at h2
    rw [h2, mkS_list]
    rw [hl] at h
    cases a with
    | nil => simp at h
    | cons c a => exact h
theorem pln_head {l p : List UInt8} (h : plnO moreP l = some p) (hl : l.head? = some 47) : p.head? = some 47 := by
  cases l with
  | nil => cases hl
  | cons c r =>
    simp only [List.head?_cons, Option.some.injEq] at hl
    subst hl
    rw [plnO_byte (by decide) (by decide)] at h
    obtain ⟨y, _, rfl⟩ := Option.map_eq_some_iff.1 h
    rfl
theorem head_at {s : ByteArray} (h : 0 < s.size) : s.data.toList.head? = some s[0] := by
  cases hl : s.data.toList with
  | nil => rw [Lib.size_eq, hl] at h; simp at h
  | cons c r =>
    have : s[0] = s.data.toList[0]'(by rw [← Lib.size_eq]; exact h) := rfl
    rw [this]
    simp [hl]
theorem byte_47 (c : UInt8) : ((c.toNat : Int) != 47) = false ↔ c = 47 := by
  rw [bne_eq_false_iff_eq]
  constructor
  · intro h
    rw [← UInt8.toNat_inj]
    exact Int.ofNat.inj h
  · rintro rfl; rfl
theorem pathR_of {s : ByteArray} (h : s.size ≤ 8192) (o : Option (List UInt8)) (ho : pathO s = o) : pathE s = (if o.isSome then 0 else 23) ∧ pathV s = o.getD [] := by
  have hn : ¬ 8192 < s.size := by omega
  refine ⟨?_, ?_⟩
  · unfold pathE; rw [if_neg hn, ho]
  · unfold pathV; rw [if_neg hn, ho]

def mP : ByteArray := ⟨#[45, 46, 95, 126, 33, 36, 38, 39, 40, 41, 42, 43, 44, 59, 61, 58, 64, 47]⟩
def mQ : ByteArray := ⟨#[45, 46, 95, 126, 33, 36, 38, 39, 40, 41, 42, 43, 44, 59, 61, 58, 64, 47, 63]⟩

end Go.Proofs.YtcmppmbieebkpaaDoor
