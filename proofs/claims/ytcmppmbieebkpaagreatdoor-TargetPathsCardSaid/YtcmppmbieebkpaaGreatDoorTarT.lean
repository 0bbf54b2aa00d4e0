/-
  Contracts of the reference's Text and Key (layer 8).
-/
import Derived.Test.YtcmppmbieebkpaaGreatDoorTarE
import Derived.Test.YtcmppmbieebkpaaGreatDoorDecV
import Derived.Test.YtcmppmbieebkpaaGreatDoorComX
namespace Go.Proofs.YtcmppmbieebkpaaGreatDoor
open Go.RowKit

/-- A target as a value. -/
def uriV (h : ByteArray) (p : Int) (a : ByteArray) : Value := .agg #[.string h, .int .i64 p, .string a]
def textS (h : ByteArray) (p : Int) (a : ByteArray) : ByteArray := mkS (textL (h.data.toList, p, a.data.toList))

/-- A target in block g. -/
def Uri3 (W : World) (g : Nat) (h : ByteArray) (p : Int) (a : ByteArray) : Prop := W.cell? ⟨g, 0, none⟩ = some (.string h) ∧ W.cell? ⟨g, 1, none⟩ = some (.int .i64 p) ∧ W.cell? ⟨g, 2, none⟩ = some (.string a)
theorem Uri3.kept {w w' : World} {g : Nat} {h : ByteArray} {p : Int} {a : ByteArray} (hb : Below w.heap.size w w') (u : Uri3 w g h p a) : Uri3 w' g h p a := ⟨cell_kept hb u.1, cell_kept hb u.2.1, cell_kept hb u.2.2⟩
set_option maxHeartbeats 2000000 in
set_option maxRecDepth 100000 in
theorem r_text8 (h : ByteArray) (p : Int) (a : ByteArray) (hp : -9223372036854775808 ≤ p ∧ p ≤ 9223372036854775807) (hh : h.size ≤ 1000000) (ha : a.size ≤ 1000000) (w : World) :
    Calls Tryz.prog 17 #[uriV h p a] w fun e w' => e = .returned (.string (textS h p a)) ∧ Below w.heap.size w w' := by
  have hlen := plainL_short p hp.1 hp.2
  by_cases h80 : p = 80
  · have HR : Hid (textS h p a = (⟨#[104, 116, 116, 112, 58, 47, 47]⟩ : ByteArray) ++ h ++ a) := by
      show _ = _
      unfold textS textL
      rw [if_pos h80]
      refine (mkS_eq ?_).symm
      rw [append_list, append_list]; simp; rfl
    have e80 : (p == 80) = true := by rw [h80]; rfl
    clear h80 hlen
    unfold uriV
    go_enter Tryz.func17, Tryz.ntmps17
    go_wp2_with fail
    go_ret
    exact ⟨by rw [HR.out]; rfl, (Below.refl _ _).alloc (Nat.le_refl _) _⟩
  · have HR : Hid (textS h p a = (⟨#[104, 116, 116, 112, 58, 47, 47]⟩ : ByteArray) ++ h ++ (⟨#[58]⟩ : ByteArray) ++ mkS (plainL p) ++ a) := by
      show _ = _
      unfold textS textL
      rw [if_neg h80]
      refine (mkS_eq ?_).symm
      rw [append_list, append_list, append_list, append_list]; simp [sch8, mkS]
    have e80 : (p == 80) = false := by rw [beq_eq_false_iff_ne]; exact h80
    have hz : (mkS (plainL p)).size ≤ 20 := by rw [mkS_size]; exact hlen
    have c := fun W => r_plain p hp.1 hp.2 W
    generalize mkS (plainL p) = D at *
    have C := Lib.hid c
    clear h80 hlen c
    unfold uriV
    go_enter Tryz.func17, Tryz.ntmps17
    go_wp2_with fail
    have zh : (h.size : Int) ≤ 1000000 := by omega
    have za : (a.size : Int) ≤ 1000000 := by omega
    have zd : (D.size : Int) ≤ 20 := by omega
    have b0 : (w.alloc (.cells #[.string h, .int .i64 p, .string a] 34)).drew.heap[w.heap.size]? = some (.cells #[.string h, .int .i64 p, .string a] 34 (0, 0)) := heap_alloc_new w _
    have b1 := (cell_of_row _ _ 0 _ _ _ b0).trans rfl
    have b2 := (cell_of_row _ _ 1 _ _ _ b0).trans rfl
    have b3 := (cell_of_row _ _ 2 _ _ _ b0).trans rfl
    have hb : Below w.heap.size w (w.alloc (.cells #[.string h, .int .i64 p, .string a] 34)).drew := ((Below.refl _ _).alloc (Nat.le_refl _) _).drew
    have HU : Hid (Uri3 (w.alloc (.cells #[.string h, .int .i64 p, .string a] 34)).drew w.heap.size h p a) := ⟨b1, b2, b3⟩
    clear b0 b1 b2 b3
    have f1 : ¬ 9223372036854775807 < 7 + h.size := by omega
    have f2 : ¬ 9223372036854775807 < 7 + h.size + 1 := by omega
    have f3 : ¬ 9223372036854775807 < 7 + h.size + 1 + D.size := by omega
    have f4 : ¬ 9223372036854775807 < 7 + h.size + 1 + D.size + a.size := by omega
    go_region_held3 (fun W => W.cell? ⟨w.heap.size, 0, none⟩ = some (.string h) ∧ W.cell? ⟨w.heap.size, 1, none⟩ = some (.int .i64 p) ∧ W.cell? ⟨w.heap.size, 2, none⟩ = some (.string a)) (exact HU.out) (first
      | (go_at_call 36; refine (C.out _).mono ?_; rintro e w2 ⟨rfl, hb2⟩; have HU := Lib.hid (HU.out.kept hb2); have hb := below_then hb hb2; clear hb2))
    go_wp2_with fail
    go_ret
    exact ⟨by rw [HR.out]; rfl, hb⟩

def keyS (h : ByteArray) (p : Int) (a : ByteArray) : ByteArray := mkS (keyL8 (h.data.toList, p, a.data.toList))
def keyN (h : ByteArray) (p : Int) (a : ByteArray) : Int := keyE8 (h.data.toList, p, a.data.toList)
theorem r_key8 (h : ByteArray) (p : Int) (a : ByteArray) (hp : -9223372036854775808 ≤ p ∧ p ≤ 9223372036854775807) (hh : h.size ≤ 1000000) (ha : a.size ≤ 1000000) (w : World) :
    Calls Tryz.prog 15 #[uriV h p a] w fun e w' => e = .returned (.tuple #[.string (keyS h p a), .int .i64 (keyN h p a)]) ∧ Below w.heap.size w w' := by
  have c := fun W => r_text8 h p a hp hh ha W
  have hT : (⟨#[71, 69, 84, 32]⟩ : ByteArray) ++ textS h p a = mkS (keyT (h.data.toList, p, a.data.toList)) := by
    refine mkS_eq ?_
    rw [append_list]; rfl
  have hz : (textS h p a).size + 4 = (keyT (h.data.toList, p, a.data.toList)).length := by
    rw [← mkS_size, ← hT, ByteArray.size_append, Nat.add_comm]; rfl
  have hlen := plainL_short p hp.1 hp.2
  have hz1 : (textS h p a).size ≤ 2000100 := by
    unfold textS textL
    rw [mkS_size]
    have e1 : h.data.toList.length = h.size := (Lib.size_eq h).symm
    have e2 : a.data.toList.length = a.size := (Lib.size_eq a).symm
    simp only [List.length_append]
    rw [e1, e2]
    split <;> simp [sch8] <;> omega
  have hK : keyS h p a = mkS (if 255 < (keyT (h.data.toList, p, a.data.toList)).length then [] else keyT (h.data.toList, p, a.data.toList)) := rfl
  have hN : keyN h p a = if 255 < (keyT (h.data.toList, p, a.data.toList)).length then 4 else 0 := rfl
  generalize textS h p a = T at *
  rw [← hz] at hK hN
  unfold uriV at *
  have C := Lib.hid c
  have hb0 := (Below.refl w.heap.size w).alloc (Nat.le_refl _) (.cells #[.string h, .int .i64 p, .string a] 34)
  by_cases k : 255 < T.size + 4
  · rw [if_pos k] at hK hN
    have HR := Lib.hid (And.intro hK hN)
    have zT : (T.size : Int) ≤ 2000100 := by omega
    have k' : (255 : Int) < 4 + (T.size : Int) := by omega
    clear hz hT hK hN hlen c k
    go_enter Tryz.func15, Tryz.ntmps15
    go_wp2_with fail
    refine (C.out _).mono ?_
    rintro e w2 ⟨rfl, hb⟩
    have hb := below_then hb0 hb
    go_wp2_with fail
    go_ret2
    exact ⟨by rw [HR.out.1, HR.out.2]; rfl, hb⟩
  · rw [if_neg k] at hK hN
    rw [← hT] at hK
    have HR := Lib.hid (And.intro hK hN)
    have zT : (T.size : Int) ≤ 2000100 := by omega
    have k' : ¬ (255 : Int) < 4 + (T.size : Int) := by omega
    clear hz hT hK hN hlen c k
    go_enter Tryz.func15, Tryz.ntmps15
    go_wp2_with fail
    refine (C.out _).mono ?_
    rintro e w2 ⟨rfl, hb⟩
    have hb := below_then hb0 hb
    go_wp2_with fail
    go_ret2
    exact ⟨by rw [HR.out.1, HR.out.2]; rfl, hb⟩

end Go.Proofs.YtcmppmbieebkpaaGreatDoor
