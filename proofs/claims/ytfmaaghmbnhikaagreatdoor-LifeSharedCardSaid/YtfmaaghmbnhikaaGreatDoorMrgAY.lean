/-
  Texts that the laws of this seat lean on, one behind the other.
-/
import Derived.Test.YtfmaaghmbnhikaaGreatDoorMrgAX
import Derived.Test.YtfmaaghmbnhikaaGreatDoorMrgI
import Derived.Deep.AppendLies
/-
  The page's example (lives) of layer 17.
-/
section
namespace Go.Proofs.YtfmaaghmbnhikaaGreatDoor
open Go.RowKit

theorem al5 (w : World) (o1 o2 o3 o4 o5 : Obj) : let W := ((((w.alloc o1).alloc o2).alloc o3).alloc o4).alloc o5
    W.heap[w.heap.size]? = some o1 ∧ W.heap[w.heap.size + 1]? = some o2 ∧ W.heap[w.heap.size + 1 + 1]? = some o3 ∧ W.heap[w.heap.size + 1 + 1 + 1]? = some o4 ∧ W.heap[w.heap.size + 1 + 1 + 1 + 1]? = some o5 ∧ Below w.heap.size w W := by
  intro W
  have e1 : (w.alloc o1).heap.size = w.heap.size + 1 := by simp
  have e2 : ((w.alloc o1).alloc o2).heap.size = w.heap.size + 1 + 1 := by simp
  have e3 : (((w.alloc o1).alloc o2).alloc o3).heap.size = w.heap.size + 1 + 1 + 1 := by simp
  have e4 : ((((w.alloc o1).alloc o2).alloc o3).alloc o4).heap.size = w.heap.size + 1 + 1 + 1 + 1 := by simp
  have h2 := heap_alloc_new (w.alloc o1) o2
  have h3 := heap_alloc_new ((w.alloc o1).alloc o2) o3
  have h4 := heap_alloc_new (((w.alloc o1).alloc o2).alloc o3) o4
  have h5 := heap_alloc_new ((((w.alloc o1).alloc o2).alloc o3).alloc o4) o5
  rw [e1] at h2
  rw [e2] at h3
  rw [e3] at h4
  rw [e4] at h5
  refine ⟨zero_more (zero_more (zero_more (zero_more (heap_alloc_new w o1)))), zero_more (zero_more (zero_more h2)), zero_more (zero_more h3), zero_more h4, h5, ?_⟩
  have b1 := (Below.refl w.heap.size w).alloc (Nat.le_refl _) o1
  have b2 := b1.alloc b1.size o2
  have b3 := b2.alloc b2.size o3
  have b4 := b3.alloc b3.size o4
  exact b4.alloc b4.size o5
theorem slf_at {w : World} {g t : Nat} (x : Fd) (hg : w.heap[g]? = some (.cells #[.string x.1, .string x.2] t (0, 0))) (hz : x.1.size ≤ maxLen ∧ x.2.size ≤ maxLen) : SlF w (some ⟨g, 0, none⟩) 1 1 [x] := by
  refine ⟨rfl, Nat.le_refl _, by decide, (fun e => by cases e), fun _ => ⟨_, rfl, fun j y hy => ?_⟩, fun y hy => ?_⟩
  · rcases j with _ | j
    · simp only [List.getElem?_cons_zero, Option.some.injEq] at hy
      subst hy
      rw [addr_add, addr_add, cell_of_row _ _ _ _ _ _ hg, cell_of_row _ _ _ _ _ _ hg]
      exact ⟨rfl, rfl⟩
    · simp at hy
  · simp only [List.mem_singleton] at hy
    subst hy
    exact hz
def l17a : List Fd := [(⟨#[67, 97, 99, 104, 101, 45, 67, 111, 110, 116, 114, 111, 108]⟩, ⟨#[109, 97, 120, 45, 97, 103, 101, 61, 54, 48]⟩)]
def l17b : List Fd := [(⟨#[65, 103, 101]⟩, ⟨#[53, 48]⟩)]
def l17d : List Fd := [(⟨#[100, 97, 116, 101]⟩, ⟨#[84, 104, 117, 44, 32, 48, 49, 32, 74, 97, 110, 32, 49, 57, 55, 48, 32, 48, 48, 58, 48, 48, 58, 48, 55, 32, 71, 77, 84]⟩)]
def s17a : Stor := ⟨200, ⟨#[]⟩, 0, l17a, ⟨#[]⟩, 100⟩
def s17b : Stor := ⟨200, ⟨#[]⟩, 0, l17b, ⟨#[]⟩, 100⟩
theorem fwl_one (x : Fd) (h1 : x.1.size ≤ 10000) (h2 : x.2.size ≤ 10000) : FwL [x] :=
  ⟨by simp, fun y hy => by rw [List.mem_singleton] at hy; subst hy; exact h2, fun y hy => by rw [List.mem_singleton] at hy; subst hy; exact h1⟩
theorem f17a : FwL l17a := fwl_one _ (by decide) (by decide)
theorem f17b : FwL l17b := fwl_one _ (by decide) (by decide)
theorem f17d : FwL l17d := fwl_one _ (by decide) (by decide)
theorem x17a : ageN l17a 100 130 = 30 ∧ frsB l17a 200 100 130 = true ∧ lefN l17a 200 100 130 = 30 ∧ frsB l17a 200 100 160 = false := by refine ⟨?_, ?_, ?_, ?_⟩ <;> kernel_rfl
theorem x17b : ageN l17b 100 130 = 80 ∧ tolN l17b = 50 ∧ datN l17a 100 = 100 ∧ lifN l17a 200 100 = 60 := by refine ⟨?_, ?_, ?_, ?_⟩ <;> kernel_rfl
theorem x17d : whnV l17d dtS = 7 ∧ whnB l17d dtS = true ∧ usuB 404 = true ∧ usuB 302 = false := by refine ⟨?_, ?_, ?_, ?_⟩ <;> kernel_rfl

theorem e17a (w : World) (A : Option Addr) (h : SlF w A 1 1 l17a) (HT : LifTabs w) : Calls Tryz.prog 9 #[.agg #[.int .i64 200, .string ⟨#[]⟩, .int .i64 0, .slice A 1 1, .string ⟨#[]⟩, .int .i64 100, .slice none 0 0], .int .i64 130] w fun e w' => e = .returned (.int .i64 30) ∧ Below w.heap.size w w' := by
  have h2 := lifA_any s17a A 1 none 0 0 130 w h f17a HT
  rw [show ageN s17a.f s17a.t 130 = 30 from x17a.1] at h2
  exact h2

theorem e17b (w : World) (A : Option Addr) (h : SlF w A 1 1 l17a) (HT : LifTabs w) : Calls Tryz.prog 13 #[.agg #[.int .i64 200, .string ⟨#[]⟩, .int .i64 0, .slice A 1 1, .string ⟨#[]⟩, .int .i64 100, .slice none 0 0], .int .i64 130] w fun e w' => e = .returned (.bool true) ∧ Below w.heap.size w w' := by
  have h2 := lifF_any s17a A 1 none 0 0 130 w h f17a HT
  rw [show frsB s17a.f s17a.c s17a.t 130 = true from x17a.2.1] at h2
  exact h2

theorem e17c (w : World) (A : Option Addr) (h : SlF w A 1 1 l17a) (HT : LifTabs w) : Calls Tryz.prog 15 #[.agg #[.int .i64 200, .string ⟨#[]⟩, .int .i64 0, .slice A 1 1, .string ⟨#[]⟩, .int .i64 100, .slice none 0 0], .int .i64 130] w fun e w' => e = .returned (.int .i64 30) ∧ Below w.heap.size w w' := by
  have h2 := lifE_any s17a A 1 none 0 0 130 w h f17a HT
  rw [show lefN s17a.f s17a.c s17a.t 130 = 30 from x17a.2.2.1] at h2
  exact h2

theorem e17d (w : World) (A : Option Addr) (h : SlF w A 1 1 l17a) (HT : LifTabs w) : Calls Tryz.prog 13 #[.agg #[.int .i64 200, .string ⟨#[]⟩, .int .i64 0, .slice A 1 1, .string ⟨#[]⟩, .int .i64 100, .slice none 0 0], .int .i64 160] w fun e w' => e = .returned (.bool false) ∧ Below w.heap.size w w' := by
  have h2 := lifF_any s17a A 1 none 0 0 160 w h f17a HT
  rw [show frsB s17a.f s17a.c s17a.t 160 = false from x17a.2.2.2] at h2
  exact h2

theorem e17e (w : World) (A : Option Addr) (h : SlF w A 1 1 l17b) (HT : LifTabs w) : Calls Tryz.prog 9 #[.agg #[.int .i64 200, .string ⟨#[]⟩, .int .i64 0, .slice A 1 1, .string ⟨#[]⟩, .int .i64 100, .slice none 0 0], .int .i64 130] w fun e w' => e = .returned (.int .i64 80) ∧ Below w.heap.size w w' := by
  have h2 := lifA_any s17b A 1 none 0 0 130 w h f17b HT
  rw [show ageN s17b.f s17b.t 130 = 80 from x17b.1] at h2
  exact h2

theorem e17f (w : World) (A : Option Addr) (h : SlF w A 1 1 l17b) (HT : LifTabs w) : Calls Tryz.prog 21 #[.agg #[.int .i64 200, .string ⟨#[]⟩, .int .i64 0, .slice A 1 1, .string ⟨#[]⟩]] w fun e w' => e = .returned (.int .i64 50) ∧ Below w.heap.size w w' := by
  have h2 := lifT_any s17b A 1 w h f17b
  rw [show tolN s17b.f = 50 from x17b.2.1] at h2
  exact h2

theorem e17g (w : World) (A : Option Addr) (h : SlF w A 1 1 l17a) (HT : LifTabs w) : Calls Tryz.prog 19 #[.agg #[.int .i64 200, .string ⟨#[]⟩, .int .i64 0, .slice A 1 1, .string ⟨#[]⟩, .int .i64 100, .slice none 0 0]] w fun e w' => e = .returned (.int .i64 100) ∧ Below w.heap.size w w' := by
  have h2 := lifD_any s17a A 1 none 0 0 w h f17a HT
  rw [show datN s17a.f s17a.t = 100 from x17b.2.2.1] at h2
  exact h2

theorem e17h (w : World) (A : Option Addr) (h : SlF w A 1 1 l17a) (HT : LifTabs w) : Calls Tryz.prog 11 #[.agg #[.int .i64 200, .string ⟨#[]⟩, .int .i64 0, .slice A 1 1, .string ⟨#[]⟩, .int .i64 100, .slice none 0 0]] w fun e w' => e = .returned (.int .i64 60) ∧ Below w.heap.size w w' := by
  have h2 := lifL_any s17a A 1 none 0 0 w h f17a HT
  rw [show lifN s17a.f s17a.c s17a.t = 60 from x17b.2.2.2] at h2
  exact h2

theorem e17w (w : World) (A : Option Addr) (h : SlF w A 1 1 l17d) (HT : LifTabs w) : Calls Tryz.prog 17 #[.slice A 1 1, .string ⟨#[68, 97, 116, 101]⟩] w fun e w' => e = .returned (.tuple #[.int .i64 7, .bool true]) ∧ Below w.heap.size w w' := by
  have h2 := lifW_any A 1 l17d dtS w h f17d (by decide) HT
  rw [x17d.1, x17d.2.1] at h2
  exact h2
theorem e17u (w : World) (HT : LifTabs w) : Calls Tryz.prog 23 #[.int .i64 404] w fun e w' => e = .returned (.bool true) ∧ Below w.heap.size w w' := by
  have h2 := lifU_any 404 w HT
  rw [x17d.2.2.1] at h2
  exact h2
theorem e17v (w : World) (HT : LifTabs w) : Calls Tryz.prog 23 #[.int .i64 302] w fun e w' => e = .returned (.bool false) ∧ Below w.heap.size w w' := by
  have h2 := lifU_any 302 w HT
  rw [x17d.2.2.2] at h2
  exact h2

set_option maxHeartbeats 16000000 in
set_option maxRecDepth 100000 in
theorem ex17_any (w : World) (HT : LifTabs w) : Calls Tryz.prog 8 #[] w fun e w' => e = .returned (.bool true) ∧ Below w.heap.size w w' := by
  obtain ⟨g1, g2, g3, g4, g5, gb⟩ := al5 w (.cells #[.string ⟨#[67, 97, 99, 104, 101, 45, 67, 111, 110, 116, 114, 111, 108]⟩, .string ⟨#[109, 97, 120, 45, 97, 103, 101, 61, 54, 48]⟩] 40) (.cells #[.int .i64 200, .string ⟨#[]⟩, .int .i64 0, .slice (some ⟨w.heap.size, 0, none⟩) 1 1, .string ⟨#[]⟩, .int .i64 100, .slice none 0 0] 27) (.cells #[.int .i64 200, .string ⟨#[]⟩, .int .i64 0, .slice (some ⟨w.heap.size + 1 + 1 + 1, 0, none⟩) 1 1, .string ⟨#[]⟩, .int .i64 100, .slice none 0 0] 27) (.cells #[.string ⟨#[65, 103, 101]⟩, .string ⟨#[53, 48]⟩] 40) (.cells #[.string ⟨#[100, 97, 116, 101]⟩, .string ⟨#[84, 104, 117, 44, 32, 48, 49, 32, 74, 97, 110, 32, 49, 57, 55, 48, 32, 48, 48, 58, 48, 48, 58, 48, 55, 32, 71, 77, 84]⟩] 40)
  have F1 : Hid (SlF (((((w.alloc (.cells #[.string ⟨#[67, 97, 99, 104, 101, 45, 67, 111, 110, 116, 114, 111, 108]⟩, .string ⟨#[109, 97, 120, 45, 97, 103, 101, 61, 54, 48]⟩] 40)).alloc (.cells #[.int .i64 200, .string ⟨#[]⟩, .int .i64 0, .slice (some ⟨w.heap.size, 0, none⟩) 1 1, .string ⟨#[]⟩, .int .i64 100, .slice none 0 0] 27)).alloc (.cells #[.int .i64 200, .string ⟨#[]⟩, .int .i64 0, .slice (some ⟨w.heap.size + 1 + 1 + 1, 0, none⟩) 1 1, .string ⟨#[]⟩, .int .i64 100, .slice none 0 0] 27)).alloc (.cells #[.string ⟨#[65, 103, 101]⟩, .string ⟨#[53, 48]⟩] 40)).alloc (.cells #[.string ⟨#[100, 97, 116, 101]⟩, .string ⟨#[84, 104, 117, 44, 32, 48, 49, 32, 74, 97, 110, 32, 49, 57, 55, 48, 32, 48, 48, 58, 48, 48, 58, 48, 55, 32, 71, 77, 84]⟩] 40)) (some ⟨w.heap.size, 0, none⟩) 1 1 l17a) := slf_at (⟨#[67, 97, 99, 104, 101, 45, 67, 111, 110, 116, 114, 111, 108]⟩, ⟨#[109, 97, 120, 45, 97, 103, 101, 61, 54, 48]⟩) g1 ⟨by decide, by decide⟩
  have F2 : Hid (SlF (((((w.alloc (.cells #[.string ⟨#[67, 97, 99, 104, 101, 45, 67, 111, 110, 116, 114, 111, 108]⟩, .string ⟨#[109, 97, 120, 45, 97, 103, 101, 61, 54, 48]⟩] 40)).alloc (.cells #[.int .i64 200, .string ⟨#[]⟩, .int .i64 0, .slice (some ⟨w.heap.size, 0, none⟩) 1 1, .string ⟨#[]⟩, .int .i64 100, .slice none 0 0] 27)).alloc (.cells #[.int .i64 200, .string ⟨#[]⟩, .int .i64 0, .slice (some ⟨w.heap.size + 1 + 1 + 1, 0, none⟩) 1 1, .string ⟨#[]⟩, .int .i64 100, .slice none 0 0] 27)).alloc (.cells #[.string ⟨#[65, 103, 101]⟩, .string ⟨#[53, 48]⟩] 40)).alloc (.cells #[.string ⟨#[100, 97, 116, 101]⟩, .string ⟨#[84, 104, 117, 44, 32, 48, 49, 32, 74, 97, 110, 32, 49, 57, 55, 48, 32, 48, 48, 58, 48, 48, 58, 48, 55, 32, 71, 77, 84]⟩] 40)) (some ⟨w.heap.size + 1 + 1 + 1, 0, none⟩) 1 1 l17b) := slf_at (⟨#[65, 103, 101]⟩, ⟨#[53, 48]⟩) g4 ⟨by decide, by decide⟩
  have F3 : Hid (SlF (((((w.alloc (.cells #[.string ⟨#[67, 97, 99, 104, 101, 45, 67, 111, 110, 116, 114, 111, 108]⟩, .string ⟨#[109, 97, 120, 45, 97, 103, 101, 61, 54, 48]⟩] 40)).alloc (.cells #[.int .i64 200, .string ⟨#[]⟩, .int .i64 0, .slice (some ⟨w.heap.size, 0, none⟩) 1 1, .string ⟨#[]⟩, .int .i64 100, .slice none 0 0] 27)).alloc (.cells #[.int .i64 200, .string ⟨#[]⟩, .int .i64 0, .slice (some ⟨w.heap.size + 1 + 1 + 1, 0, none⟩) 1 1, .string ⟨#[]⟩, .int .i64 100, .slice none 0 0] 27)).alloc (.cells #[.string ⟨#[65, 103, 101]⟩, .string ⟨#[53, 48]⟩] 40)).alloc (.cells #[.string ⟨#[100, 97, 116, 101]⟩, .string ⟨#[84, 104, 117, 44, 32, 48, 49, 32, 74, 97, 110, 32, 49, 57, 55, 48, 32, 48, 48, 58, 48, 48, 58, 48, 55, 32, 71, 77, 84]⟩] 40)) (some ⟨w.heap.size + 1 + 1 + 1 + 1, 0, none⟩) 1 1 l17d) := slf_at (⟨#[100, 97, 116, 101]⟩, ⟨#[84, 104, 117, 44, 32, 48, 49, 32, 74, 97, 110, 32, 49, 57, 55, 48, 32, 48, 48, 58, 48, 48, 58, 48, 55, 32, 71, 77, 84]⟩) g5 ⟨by decide, by decide⟩
  have Z1 := Lib.hid g2
  have Z2 := Lib.hid g3
  have HB := Lib.hid gb
  have K0 := Lib.hid (fun W A h (hT : LifTabs W) => e17w W A h hT)
  have K1 := Lib.hid (fun W A h (hT : LifTabs W) => e17a W A h hT)
  have K2 := Lib.hid (fun W A h (hT : LifTabs W) => e17b W A h hT)
  have K3 := Lib.hid (fun W A h (hT : LifTabs W) => e17c W A h hT)
  have K4 := Lib.hid (fun W A h (hT : LifTabs W) => e17d W A h hT)
  have K5 := Lib.hid (fun W A h (hT : LifTabs W) => e17e W A h hT)
  have K6 := Lib.hid (fun W A h (hT : LifTabs W) => e17f W A h hT)
  have K7 := Lib.hid (fun W (hT : LifTabs W) => e17u W hT)
  have K8 := Lib.hid (fun W (hT : LifTabs W) => e17v W hT)
  have K9 := Lib.hid (fun W A h (hT : LifTabs W) => e17g W A h hT)
  have K10 := Lib.hid (fun W A h (hT : LifTabs W) => e17h W A h hT)
  have HT := Lib.hid HT
  clear g1 g2 g3 g4 g5 gb
  go_enter Tryz.func8, Tryz.ntmps8
  go_wp2_with fail
  refine (K0.out _ _ F3.out (HT.out.kept HB.out)).mono ?_
  rintro e w1 ⟨rfl, hb⟩
  have F1 := Lib.hid (F1.out.below hb)
  have F2 := Lib.hid (F2.out.below hb)
  have Z1 := Lib.hid (zero_still hb Z1.out)
  have Z2 := Lib.hid (zero_still hb Z2.out)
  have HB := Lib.hid (below_then HB.out hb)
  clear hb
  obtain ⟨p0, p1, p2, p3, p4, p5, p6⟩ := cel7 Z1.out
  obtain ⟨r0, r1, r2, r3, r4, r5, r6⟩ := cel7 Z2.out
  go_wp2_with fail
  clear p0 p1 p2 p3 p4 p5 p6 r0 r1 r2 r3 r4 r5 r6
  refine (K1.out _ _ F1.out (HT.out.kept HB.out)).mono ?_
  rintro e w2 ⟨rfl, hb⟩
  have F1 := Lib.hid (F1.out.below hb)
  have F2 := Lib.hid (F2.out.below hb)
  have Z1 := Lib.hid (zero_still hb Z1.out)
  have Z2 := Lib.hid (zero_still hb Z2.out)
  have HB := Lib.hid (below_then HB.out hb)
  clear hb
  obtain ⟨p0, p1, p2, p3, p4, p5, p6⟩ := cel7 Z1.out
  obtain ⟨r0, r1, r2, r3, r4, r5, r6⟩ := cel7 Z2.out
  go_wp2_with fail
  clear p0 p1 p2 p3 p4 p5 p6 r0 r1 r2 r3 r4 r5 r6
  refine (K2.out _ _ F1.out (HT.out.kept HB.out)).mono ?_
  rintro e w3 ⟨rfl, hb⟩
  have F1 := Lib.hid (F1.out.below hb)
  have F2 := Lib.hid (F2.out.below hb)
  have Z1 := Lib.hid (zero_still hb Z1.out)
  have Z2 := Lib.hid (zero_still hb Z2.out)
  have HB := Lib.hid (below_then HB.out hb)
  clear hb
  obtain ⟨p0, p1, p2, p3, p4, p5, p6⟩ := cel7 Z1.out
  obtain ⟨r0, r1, r2, r3, r4, r5, r6⟩ := cel7 Z2.out
  go_wp2_with fail
  clear p0 p1 p2 p3 p4 p5 p6 r0 r1 r2 r3 r4 r5 r6
  refine (K3.out _ _ F1.out (HT.out.kept HB.out)).mono ?_
  rintro e w4 ⟨rfl, hb⟩
  have F1 := Lib.hid (F1.out.below hb)
  have F2 := Lib.hid (F2.out.below hb)
  have Z1 := Lib.hid (zero_still hb Z1.out)
  have Z2 := Lib.hid (zero_still hb Z2.out)
  have HB := Lib.hid (below_then HB.out hb)
  clear hb
  obtain ⟨p0, p1, p2, p3, p4, p5, p6⟩ := cel7 Z1.out
  obtain ⟨r0, r1, r2, r3, r4, r5, r6⟩ := cel7 Z2.out
  go_wp2_with fail
  clear p0 p1 p2 p3 p4 p5 p6 r0 r1 r2 r3 r4 r5 r6
  refine (K4.out _ _ F1.out (HT.out.kept HB.out)).mono ?_
  rintro e w5 ⟨rfl, hb⟩
  have F1 := Lib.hid (F1.out.below hb)
  have F2 := Lib.hid (F2.out.below hb)
  have Z1 := Lib.hid (zero_still hb Z1.out)
  have Z2 := Lib.hid (zero_still hb Z2.out)
  have HB := Lib.hid (below_then HB.out hb)
  clear hb
  obtain ⟨p0, p1, p2, p3, p4, p5, p6⟩ := cel7 Z1.out
  obtain ⟨r0, r1, r2, r3, r4, r5, r6⟩ := cel7 Z2.out
  go_wp2_with fail
  clear p0 p1 p2 p3 p4 p5 p6 r0 r1 r2 r3 r4 r5 r6
  refine (K5.out _ _ F2.out (HT.out.kept HB.out)).mono ?_
  rintro e w6 ⟨rfl, hb⟩
  have F1 := Lib.hid (F1.out.below hb)
  have F2 := Lib.hid (F2.out.below hb)
  have Z1 := Lib.hid (zero_still hb Z1.out)
  have Z2 := Lib.hid (zero_still hb Z2.out)
  have HB := Lib.hid (below_then HB.out hb)
  clear hb
  obtain ⟨p0, p1, p2, p3, p4, p5, p6⟩ := cel7 Z1.out
  obtain ⟨r0, r1, r2, r3, r4, r5, r6⟩ := cel7 Z2.out
  go_wp2_with fail
  clear p0 p1 p2 p3 p4 p5 p6 r0 r1 r2 r3 r4 r5 r6
  refine (K6.out _ _ F2.out (HT.out.kept HB.out)).mono ?_
  rintro e w7 ⟨rfl, hb⟩
  have F1 := Lib.hid (F1.out.below hb)
  have F2 := Lib.hid (F2.out.below hb)
  have Z1 := Lib.hid (zero_still hb Z1.out)
  have Z2 := Lib.hid (zero_still hb Z2.out)
  have HB := Lib.hid (below_then HB.out hb)
  clear hb
  obtain ⟨p0, p1, p2, p3, p4, p5, p6⟩ := cel7 Z1.out
  obtain ⟨r0, r1, r2, r3, r4, r5, r6⟩ := cel7 Z2.out
  go_wp2_with fail
  clear p0 p1 p2 p3 p4 p5 p6 r0 r1 r2 r3 r4 r5 r6
  refine (K7.out _ (HT.out.kept HB.out)).mono ?_
  rintro e w8 ⟨rfl, hb⟩
  have F1 := Lib.hid (F1.out.below hb)
  have F2 := Lib.hid (F2.out.below hb)
  have Z1 := Lib.hid (zero_still hb Z1.out)
  have Z2 := Lib.hid (zero_still hb Z2.out)
  have HB := Lib.hid (below_then HB.out hb)
  clear hb
  obtain ⟨p0, p1, p2, p3, p4, p5, p6⟩ := cel7 Z1.out
  obtain ⟨r0, r1, r2, r3, r4, r5, r6⟩ := cel7 Z2.out
  go_wp2_with fail
  clear p0 p1 p2 p3 p4 p5 p6 r0 r1 r2 r3 r4 r5 r6
  refine (K8.out _ (HT.out.kept HB.out)).mono ?_
  rintro e w9 ⟨rfl, hb⟩
  have F1 := Lib.hid (F1.out.below hb)
  have F2 := Lib.hid (F2.out.below hb)
  have Z1 := Lib.hid (zero_still hb Z1.out)
  have Z2 := Lib.hid (zero_still hb Z2.out)
  have HB := Lib.hid (below_then HB.out hb)
  clear hb
  obtain ⟨p0, p1, p2, p3, p4, p5, p6⟩ := cel7 Z1.out
  obtain ⟨r0, r1, r2, r3, r4, r5, r6⟩ := cel7 Z2.out
  go_wp2_with fail
  clear p0 p1 p2 p3 p4 p5 p6 r0 r1 r2 r3 r4 r5 r6
  refine (K9.out _ _ F1.out (HT.out.kept HB.out)).mono ?_
  rintro e w10 ⟨rfl, hb⟩
  have F1 := Lib.hid (F1.out.below hb)
  have F2 := Lib.hid (F2.out.below hb)
  have Z1 := Lib.hid (zero_still hb Z1.out)
  have Z2 := Lib.hid (zero_still hb Z2.out)
  have HB := Lib.hid (below_then HB.out hb)
  clear hb
  obtain ⟨p0, p1, p2, p3, p4, p5, p6⟩ := cel7 Z1.out
  obtain ⟨r0, r1, r2, r3, r4, r5, r6⟩ := cel7 Z2.out
  go_wp2_with fail
  clear p0 p1 p2 p3 p4 p5 p6 r0 r1 r2 r3 r4 r5 r6
  refine (K10.out _ _ F1.out (HT.out.kept HB.out)).mono ?_
  rintro e w11 ⟨rfl, hb⟩
  have F1 := Lib.hid (F1.out.below hb)
  have F2 := Lib.hid (F2.out.below hb)
  have Z1 := Lib.hid (zero_still hb Z1.out)
  have Z2 := Lib.hid (zero_still hb Z2.out)
  have HB := Lib.hid (below_then HB.out hb)
  clear hb
  obtain ⟨p0, p1, p2, p3, p4, p5, p6⟩ := cel7 Z1.out
  obtain ⟨r0, r1, r2, r3, r4, r5, r6⟩ := cel7 Z2.out
  go_wp2_with fail
  clear p0 p1 p2 p3 p4 p5 p6 r0 r1 r2 r3 r4 r5 r6
  go_ret
  exact ⟨rfl, HB.out⟩

end Go.Proofs.YtfmaaghmbnhikaaGreatDoor
end
