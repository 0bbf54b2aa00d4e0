/-
  The page's example (function plains of the law's package) holds.
-/
import Derived.Test.YtcmppmbieebkpaaGreatDoorTgtG
namespace Go.Proofs.YtcmppmbieebkpaaGreatDoor
open Go.RowKit

def zP : List UInt8 := [47, 97, 47, 46, 47, 98, 47, 46, 46, 47, 99, 37, 55, 101, 37, 50, 102, 63, 120, 61, 37, 50, 101]
def zQ : List UInt8 := [47, 97, 47, 99, 126, 37, 50, 70, 63, 120, 61, 46]
def zU : List UInt8 := [72, 84, 84, 80, 58, 47, 47, 69, 120, 46, 99, 111, 109, 58, 56, 48]
def zH : List UInt8 := [101, 120, 46, 99, 111, 109]
theorem x_path : pathE (mkS zP) = 0 ∧ mkS (pathV (mkS zP)) = mkS zQ := by decide +kernel
theorem x_par : parN8 (mkS zU) ⟨#[]⟩ = 0 ∧ parV (mkS zU) ⟨#[]⟩ = uriV (mkS zH) 80 (mkS [47]) := by
  have h : parR (mkS zU) ⟨#[]⟩ = ((zH, 80, [47]), 0) := by decide +kernel
  unfold parN8 parV
  rw [h]; exact ⟨rfl, rfl⟩
theorem x_star : parN8 (mkS [42]) (mkS [97]) = 23 ∧ parV (mkS [42]) (mkS [97]) = uriV ⟨#[]⟩ 0 ⟨#[]⟩ := by
  have h : parR (mkS [42]) (mkS [97]) = (([], 0, []), 23) := by decide +kernel
  unfold parN8 parV
  rw [h]; exact ⟨rfl, rfl⟩
theorem p80 : plainL 80 = [56, 48] := by
  unfold plainL
  rw [if_neg (by decide), show (80 : Int).toNat = 80 from rfl, digs_big (by decide) (by decide), digs_small (by decide)]; rfl
theorem x_host : hostS (mkS zH) 80 = mkS [101, 120, 46, 99, 111, 109, 58, 56, 48] := by
  unfold hostS
  rw [p80]; rfl
theorem x_res : resB (mkS zH) 80 (mkS [47, 120]) = true ∧ resV (mkS zH) 80 (mkS [47, 120]) = uriV (mkS zH) 80 (mkS [47, 120]) := by
  have h : parR (mkS [47, 120]) (mkS [101, 120, 46, 99, 111, 109, 58, 56, 48]) = ((zH, 80, [47, 120]), 0) := by decide +kernel
  unfold resB resV parN8 parV
  rw [x_host, h]; exact ⟨rfl, rfl⟩
theorem x_text : textS (mkS zH) 80 (mkS [47]) = mkS [104, 116, 116, 112, 58, 47, 47, 101, 120, 46, 99, 111, 109, 47] := by decide +kernel
theorem x_key : keyS (mkS zH) 80 (mkS [47]) = mkS [71, 69, 84, 32, 104, 116, 116, 112, 58, 47, 47, 101, 120, 46, 99, 111, 109, 47] ∧ keyN (mkS zH) 80 (mkS [47]) = 0 := by decide +kernel

set_option maxHeartbeats 4000000 in
set_option maxRecDepth 100000 in
theorem ex_any (w : World) (ht : Pow10 w) :
    Calls Tryz.prog 5 #[] w fun e w' => e = .returned (.bool true) ∧ Below w.heap.size w w' := by
  have HT := Lib.hid ht
  clear ht
  have c1 := fun W => path_any (mkS zP) W (by decide)
  rw [x_path.1, x_path.2] at c1
  have c2 := fun W => parse8_any (mkS zU) ⟨#[]⟩ W (by decide) (by decide)
  rw [x_par.1, x_par.2] at c2
  have c3 := fun W => parse8_any (mkS [42]) (mkS [97]) W (by decide) (by decide)
  rw [x_star.1, x_star.2] at c3
  have c4 := fun W (hb : Below w.heap.size w W) => key8_any (mkS zH) 80 (mkS [47]) (by decide) (by decide) (by decide) W (pow_kept HT.out hb)
  rw [x_key.1, x_key.2] at c4
  have c5 := fun W (hb : Below w.heap.size w W) => resolve8_any (mkS zH) 80 (mkS [47]) (mkS [47, 120]) (by decide) (by decide) (by decide) W (pow_kept HT.out hb)
  rw [x_res.1, x_res.2] at c5
  have c6 := fun W (hb : Below w.heap.size w W) => text8_any (mkS zH) 80 (mkS [47]) (by decide) (by decide) (by decide) W (pow_kept HT.out hb)
  rw [x_text] at c6
  unfold uriV at c2 c3 c4 c5 c6
  unfold zP zQ at c1
  unfold zU zH at c2
  unfold zH at c4 c5 c6
  unfold mkS at *
  have C1 := Lib.hid c1
  have C2 := Lib.hid c2
  have C3 := Lib.hid c3
  have C4 := Lib.hid c4
  have C5 := Lib.hid c5
  have C6 := Lib.hid c6
  clear c1 c2 c3 c4 c5 c6
  go_enter Tryz.func5, Tryz.ntmps5
  go_wp2_with fail
  refine (C1.out _).mono ?_
  rintro e w1 ⟨rfl, hb⟩
  go_wp2_with fail
  refine (C2.out _).mono ?_
  rintro e w2 ⟨rfl, hb2⟩
  have hb := below_then hb hb2
  clear hb2
  go_wp2_with fail
  refine (C3.out _).mono ?_
  rintro e w3 ⟨rfl, hb3⟩
  have hu := alloc_zero hb3
  have hb := below_then hb (alloc_then hb3)
  obtain ⟨a0, a1, a2⟩ := uri_full ((Below.heap_alloc w3 (.cells #[.string ⟨#[]⟩, .int .i64 0, .string ⟨#[]⟩] 34) _ (Array.getElem?_eq_some_iff.1 hu).1).trans hu)
  have HU := Lib.hid hu
  clear hb3 hu
  go_wp2_with fail
  refine (C4.out _ (by first | with_reducible exact hb | with_reducible exact hb2 | exact hb.alloc hb.size _ | with_reducible exact hb0 | exact Below.refl _ _ | exact (Below.refl _ _).alloc (Nat.le_refl _) _)).mono ?_
  rintro e w4 ⟨rfl, hb4⟩
  have hu := still_zero (alloc_then hb4) HU.out
  have hb := below_then hb (alloc_then hb4)
  clear a0 a1 a2
  obtain ⟨a0, a1, a2⟩ := uri_full hu
  have HU := Lib.hid hu
  clear hb4 hu
  go_wp2_with fail
  refine (C5.out _ (by first | with_reducible exact hb | with_reducible exact hb2 | exact hb.alloc hb.size _ | with_reducible exact hb0 | exact Below.refl _ _ | exact (Below.refl _ _).alloc (Nat.le_refl _) _)).mono ?_
  rintro e w5 ⟨rfl, hb5⟩
  have hu := still_zero hb5 HU.out
  have hb := below_then hb hb5
  clear a0 a1 a2
  obtain ⟨a0, a1, a2⟩ := uri_full ((Below.heap_alloc w5 (.cells #[.string ⟨#[101, 120, 46, 99, 111, 109]⟩, .int .i64 80, .string ⟨#[47, 120]⟩] 34) _ (Array.getElem?_eq_some_iff.1 hu).1).trans hu)
  clear hb5 hu
  go_wp2_with fail
  refine (C6.out _ (by first | with_reducible exact hb | with_reducible exact hb2 | exact hb.alloc hb.size _ | with_reducible exact hb0 | exact Below.refl _ _ | exact (Below.refl _ _).alloc (Nat.le_refl _) _)).mono ?_
  rintro e w6 ⟨rfl, hb6⟩
  have hb := below_then hb (alloc_then hb6)
  clear hb6
  go_wp2_with fail
  go_ret
  exact ⟨rfl, hb⟩

end Go.Proofs.YtcmppmbieebkpaaGreatDoor
