/-
  Texts that the laws of this seat lean on, one behind the other.
-/
import Derived.Test.YtmkjjidilfhojaaDoorMrgAS
import Derived.Test.YtmkjjidilfhojaaDoorMrgAA
/-
  The page's example (strips) of layer 16.
-/
section
namespace Go.Proofs.YtmkjjidilfhojaaDoor
open Go.RowKit

theorem hSlf_lit (w : World) (t : TypeId) (L : List Fd) (hm : L.length ≤ maxLen) (hz : ∀ x ∈ L, x.1.size ≤ maxLen ∧ x.2.size ≤ maxLen) : SlF (w.alloc (.cells (fdC L).toArray t)) (some ⟨w.heap.size, 0, none⟩) L.length L.length L :=
  ⟨rfl, Nat.le_refl _, hm, (fun e => by cases e), fun _ => ⟨_, rfl, fun j x hx => by
    have h := fdC_at L j x hx
    rw [addr_add, addr_add, cell_of_row _ _ _ _ _ _ (heap_alloc_new w _), cell_of_row _ _ _ _ _ _ (heap_alloc_new w _)]
    simpa using h⟩, hz⟩
def l16a : List Fd := [(⟨#[67, 111, 110, 110, 101, 99, 116, 105, 111, 110]⟩, ⟨#[99, 108, 111, 115, 101, 44, 32, 88, 45, 97]⟩), (⟨#[120, 45, 65]⟩, ⟨#[49]⟩), (⟨#[66]⟩, ⟨#[50]⟩)]
def l16b : List Fd := [(⟨#[99, 111, 110, 110, 101, 99, 116, 105, 111, 110]⟩, ⟨#[97]⟩), (⟨#[67, 111, 110, 110, 101, 99, 116, 105, 111, 110]⟩, ⟨#[98, 44, 32, 99]⟩)]
theorem l16a_bd : ∀ x ∈ l16a, Bd x ∧ x.2.size ≤ 10000 := by
    intro x hx
    simp only [l16a, List.mem_cons, List.not_mem_nil, or_false] at hx
    rcases hx with rfl | rfl | rfl <;> exact ⟨⟨by decide, by decide⟩, by decide⟩
theorem l16b_bd : ∀ x ∈ l16b, Bd x ∧ x.2.size ≤ 10000 := by
    intro x hx
    simp only [l16b, List.mem_cons, List.not_mem_nil, or_false] at hx
    rcases hx with rfl | rfl <;> exact ⟨⟨by decide, by decide⟩, by decide⟩
theorem x16a : stpL l16a = [(⟨#[66]⟩, ⟨#[50]⟩)] := by kernel_rfl
theorem x16b : nomL l16b = [[97], [98], [99]] := by kernel_rfl
theorem x16c : hopB ⟨#[116, 101]⟩ = true := by kernel_rfl
theorem x16d : hopB ⟨#[84, 101, 45, 120]⟩ = false := by kernel_rfl
theorem e16a (w : World) (HT : HopTabs w) : Calls Tryd.prog 9 #[.slice (some ⟨w.heap.size, 0, none⟩) 3 3] (w.alloc (.cells #[.string ⟨#[67, 111, 110, 110, 101, 99, 116, 105, 111, 110]⟩, .string ⟨#[99, 108, 111, 115, 101, 44, 32, 88, 45, 97]⟩, .string ⟨#[120, 45, 65]⟩, .string ⟨#[49]⟩, .string ⟨#[66]⟩, .string ⟨#[50]⟩] 33)) fun e w' => ∃ ad c, e = .returned (.slice (some ad) 1 c) ∧ w'.cell? ad = some (.string ⟨#[66]⟩) ∧ w'.cell? { block := ad.block, off := ad.off + 1 } = some (.string ⟨#[50]⟩) ∧ Below (w.alloc (.cells #[.string ⟨#[67, 111, 110, 110, 101, 99, 116, 105, 111, 110]⟩, .string ⟨#[99, 108, 111, 115, 101, 44, 32, 88, 45, 97]⟩, .string ⟨#[120, 45, 65]⟩, .string ⟨#[49]⟩, .string ⟨#[66]⟩, .string ⟨#[50]⟩] 33)).heap.size (w.alloc (.cells #[.string ⟨#[67, 111, 110, 110, 101, 99, 116, 105, 111, 110]⟩, .string ⟨#[99, 108, 111, 115, 101, 44, 32, 88, 45, 97]⟩, .string ⟨#[120, 45, 65]⟩, .string ⟨#[49]⟩, .string ⟨#[66]⟩, .string ⟨#[50]⟩] 33)) w' := by
  have h0 := hSlf_lit w 33 l16a (by decide) (fun x hx => ⟨(l16a_bd x hx).1.one, (l16a_bd x hx).1.two⟩)
  have h2 := stp_any _ 3 3 l16a (w.alloc (.cells #[.string ⟨#[67, 111, 110, 110, 101, 99, 116, 105, 111, 110]⟩, .string ⟨#[99, 108, 111, 115, 101, 44, 32, 88, 45, 97]⟩, .string ⟨#[120, 45, 65]⟩, .string ⟨#[49]⟩, .string ⟨#[66]⟩, .string ⟨#[50]⟩] 33)) h0 (by decide) (fun x hx => (l16a_bd x hx).2) (fun x hx => (l16a_bd x hx).1) (HT.kept ((Below.refl _ _).alloc (Nat.le_refl _) _))
  rw [x16a] at h2
  refine h2.mono ?_
  rintro e w1 ⟨A, c, rfl, hF, hb⟩
  obtain ⟨ad, rfl, hc⟩ := hF.at_ (by decide)
  obtain ⟨h3, h4⟩ := hc 0 _ rfl
  refine ⟨ad, c, rfl, ?_, ?_, hb⟩
  · have h5 := h3
    rwa [Nat.zero_mul, Addr.add_zero'] at h5
  · have h5 := fd_snd (k := 0) (ad := ad) h4
    rwa [Nat.zero_mul, Addr.add_zero'] at h5
theorem e16b (w : World) : Calls Tryd.prog 12 #[.slice (some ⟨w.heap.size, 0, none⟩) 2 2] (w.alloc (.cells #[.string ⟨#[99, 111, 110, 110, 101, 99, 116, 105, 111, 110]⟩, .string ⟨#[97]⟩, .string ⟨#[67, 111, 110, 110, 101, 99, 116, 105, 111, 110]⟩, .string ⟨#[98, 44, 32, 99]⟩] 33)) fun e w' => ∃ A c, e = .returned (.slice A 3 c) ∧ SlS w' A 3 c [[97], [98], [99]] ∧ Below (w.alloc (.cells #[.string ⟨#[99, 111, 110, 110, 101, 99, 116, 105, 111, 110]⟩, .string ⟨#[97]⟩, .string ⟨#[67, 111, 110, 110, 101, 99, 116, 105, 111, 110]⟩, .string ⟨#[98, 44, 32, 99]⟩] 33)).heap.size (w.alloc (.cells #[.string ⟨#[99, 111, 110, 110, 101, 99, 116, 105, 111, 110]⟩, .string ⟨#[97]⟩, .string ⟨#[67, 111, 110, 110, 101, 99, 116, 105, 111, 110]⟩, .string ⟨#[98, 44, 32, 99]⟩] 33)) w' := by
  have h0 := hSlf_lit w 33 l16b (by decide) (fun x hx => ⟨(l16b_bd x hx).1.one, (l16b_bd x hx).1.two⟩)
  have h2 := nom_any _ 2 2 l16b (w.alloc (.cells #[.string ⟨#[99, 111, 110, 110, 101, 99, 116, 105, 111, 110]⟩, .string ⟨#[97]⟩, .string ⟨#[67, 111, 110, 110, 101, 99, 116, 105, 111, 110]⟩, .string ⟨#[98, 44, 32, 99]⟩] 33)) h0 (by decide) (fun x hx => (l16b_bd x hx).2) (fun x hx => (l16b_bd x hx).1)
  rw [x16b] at h2
  refine h2.mono ?_
  rintro e w1 ⟨A, c, rfl, hS, _, hb⟩
  exact ⟨A, c, rfl, hS, hb⟩
theorem e16c (w : World) (HT : HopTabs w) : Calls Tryd.prog 14 #[.string ⟨#[116, 101]⟩] w fun e w' => e = .returned (.bool true) ∧ Below w.heap.size w w' := by
  have h2 := hop_any ⟨#[116, 101]⟩ (by decide) w HT
  rw [x16c] at h2
  exact h2
theorem e16d (w : World) (HT : HopTabs w) : Calls Tryd.prog 14 #[.string ⟨#[84, 101, 45, 120]⟩] w fun e w' => e = .returned (.bool false) ∧ Below w.heap.size w w' := by
  have h2 := hop_any ⟨#[84, 101, 45, 120]⟩ (by decide) w HT
  rw [x16d] at h2
  exact h2
theorem e16e (A : Option Addr) (c : Nat) (w : World) (h : SlS w A 3 c [[97], [98], [99]]) : Calls Tryd.prog 11 #[.slice A 3 c, .slice (some ⟨w.heap.size, 0, none⟩) 3 3] (w.alloc (.cells #[.string ⟨#[97]⟩, .string ⟨#[98]⟩, .string ⟨#[99]⟩] 9)) fun e w' => e = .returned (.bool true) ∧ Below (w.alloc (.cells #[.string ⟨#[97]⟩, .string ⟨#[98]⟩, .string ⟨#[99]⟩] 9)).heap.size (w.alloc (.cells #[.string ⟨#[97]⟩, .string ⟨#[98]⟩, .string ⟨#[99]⟩] 9)) w' := by
  have h0 := SlS.texts w 9 [⟨#[97]⟩, ⟨#[98]⟩, ⟨#[99]⟩] (by decide)
  have h2 := r_sames A (some ⟨w.heap.size, 0, none⟩) 3 c 3 3 _ _ (w.alloc (.cells #[.string ⟨#[97]⟩, .string ⟨#[98]⟩, .string ⟨#[99]⟩] 9)) (h.alloc _) h0 (by decide)
  exact h2

set_option maxHeartbeats 8000000 in
set_option maxRecDepth 100000 in
theorem ex16_any (w : World) (HT : HopTabs w) : Calls Tryd.prog 7 #[] w fun e w' => e = .returned (.bool true) ∧ Below w.heap.size w w' := by
  have K1 := Lib.hid (e16a w HT)
  have K2 := Lib.hid (fun W => e16b W)
  have K3 := Lib.hid (fun W (hW : Below w.heap.size w W) => e16c W (HT.kept hW))
  have K4 := Lib.hid (fun W (hW : Below w.heap.size w W) => e16d W (HT.kept hW))
  have K5 := Lib.hid (fun A c W h => e16e A c W h)
  clear HT
  go_enter Tryd.func7, Tryd.ntmps7
  go_wp2_with fail
  refine K1.out.mono ?_
  rintro e w1 ⟨ad, c1, rfl, h1, h2, hb⟩
  have H1 := Lib.hid h1
  have H2 := Lib.hid h2
  have HB := Lib.hid (zero_then hb)
  clear h1 h2 hb
  go_wp2_with fail
  refine (K2.out _).mono ?_
  rintro e w2 ⟨A2, c2, rfl, hS, hb⟩
  have hb0 := zero_then hb
  have h1 := cell_kept hb0 H1.out
  have h2 := cell_kept hb0 H2.out
  have HS := Lib.hid hS
  have HB := Lib.hid (below_then HB.out hb0)
  clear hS hb hb0
  go_wp2_with fail
  refine (K3.out _ HB.out).mono ?_
  rintro e w3 ⟨rfl, hb⟩
  have HS := Lib.hid (HS.out.below hb)
  have HB := Lib.hid (below_then HB.out hb)
  clear hb
  go_wp2_with fail
  refine (K4.out _ HB.out).mono ?_
  rintro e w4 ⟨rfl, hb⟩
  have HS := Lib.hid (HS.out.below hb)
  have HB := Lib.hid (below_then HB.out hb)
  clear hb
  go_wp2_with fail
  refine (K5.out _ _ _ HS.out).mono ?_
  rintro e w5 ⟨rfl, hb⟩
  have HB := Lib.hid (below_then HB.out (zero_then hb))
  clear hb
  go_wp2_with fail
  go_ret
  exact ⟨rfl, HB.out⟩

end Go.Proofs.YtmkjjidilfhojaaDoor
end
