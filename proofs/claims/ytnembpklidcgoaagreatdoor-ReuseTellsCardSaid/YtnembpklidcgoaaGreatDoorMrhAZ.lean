/-
  Texts that the laws of this seat lean on, one behind the other.
-/
import Derived.Test.YtnembpklidcgoaaGreatDoorMrhAX
import Derived.Test.YtnembpklidcgoaaGreatDoorMrhAY
import Derived.Test.YtnembpklidcgoaaGreatDoorMrhH
import Derived.Test.YtnembpklidcgoaaGreatDoorMrhAV
import Derived.Test.YtnembpklidcgoaaGreatDoorRows
import Derived.Test.YtnembpklidcgoaaGreatDoorMrhAI
import Derived.Test.YtnembpklidcgoaaGreatDoorMrhC
set_option linter.unusedSimpArgs false
set_option linter.unusedVariables false
/-
  Package reuse: with Storable and Verdict all contracts of the package are there (reuG_any Tag, reuV_any Validator, reuP_any Passes, reuI_any Invalidates, reuS_any Storable, reuW_any Verdict); all but reuG_any and reuP_any ask ReuTabs.
-/
section
namespace Go.Proofs.YtnembpklidcgoaaGreatDoor
end Go.Proofs.YtnembpklidcgoaaGreatDoor
end

/-
  The page's example (kept) of layer 18.
-/
section
namespace Go.Proofs.YtnembpklidcgoaaGreatDoor
open Go.RowKit
set_option linter.unusedSimpArgs false

def l18a : List Fd := [(⟨#[67, 97, 99, 104, 101, 45, 67, 111, 110, 116, 114, 111, 108]⟩, ⟨#[109, 97, 120, 45, 97, 103, 101, 61, 54, 48]⟩)]
def l18b : List Fd := [(⟨#[67, 97, 99, 104, 101, 45, 67, 111, 110, 116, 114, 111, 108]⟩, ⟨#[110, 111, 45, 115, 116, 111, 114, 101, 44, 32, 109, 97, 120, 45, 97, 103, 101, 61, 54, 48]⟩)]
def l18c : List Fd := [(⟨#[67, 97, 99, 104, 101, 45, 67, 111, 110, 116, 114, 111, 108]⟩, ⟨#[110, 111, 45, 99, 97, 99, 104, 101, 44, 32, 109, 97, 120, 45, 97, 103, 101, 61, 54, 48]⟩), (⟨#[69, 84, 97, 103]⟩, ⟨#[34, 120, 34]⟩)]
def q18 : Rqst := ⟨⟨#[71, 69, 84]⟩, ⟨#[47]⟩, 1, [], ⟨#[]⟩⟩
theorem fwl_few (L : List Fd) (h : (decide (L.length ≤ 1000) && (L.all fun x => decide (x.1.size ≤ 10000) && decide (x.2.size ≤ 10000))) = true) : FwL L := by
  rw [Bool.and_eq_true, decide_eq_true_eq, List.all_eq_true] at h
  refine ⟨h.1, fun x hx => ?_, fun x hx => ?_⟩
  all_goals
    have := h.2 x hx
    rw [Bool.and_eq_true, decide_eq_true_eq, decide_eq_true_eq] at this
    omega
theorem f18a : FwL l18a := fwl_few _ (by decide)
theorem f18b : FwL l18b := fwl_few _ (by decide)
theorem f18c : FwL l18c := fwl_few _ (by decide)
theorem f18n : FwL [] := fwl_few _ (by decide)
theorem x18a : stoB ⟨#[71, 69, 84]⟩ [] l18a 200 5 = true ∧ verN [] l18a 200 5 6 = 1 ∧ stoB ⟨#[71, 69, 84]⟩ [] l18b 200 5 = false := by refine ⟨?_, ?_, ?_⟩ <;> kernel_rfl
theorem x18b : stoB ⟨#[71, 69, 84]⟩ [] l18c 200 5 = true ∧ verN [] l18c 200 5 6 = 2 ∧ valB l18c = true := by refine ⟨?_, ?_, ?_⟩ <;> kernel_rfl
theorem x18c : rtO l18c = (false, ⟨#[120]⟩) ∧ rtB l18c = true ∧ pasB [] = false ∧ invB ⟨#[71, 69, 84]⟩ 200 = false ∧ invB ⟨#[80, 85, 84]⟩ 200 = true := by refine ⟨?_, ?_, ?_, ?_, ?_⟩ <;> kernel_rfl

/-- What stands in memory at each step. -/
structure Kw18 (w W : World) : Prop where
  q : W.heap[w.heap.size]? = some (.cells #[.string ⟨#[71, 69, 84]⟩, .string ⟨#[47]⟩, .int .i64 1, .slice none 0 0, .string ⟨#[]⟩] 24 (0, 0))
  a : W.heap[w.heap.size + 1 + 1]? = some (.cells #[.int .i64 200, .string ⟨#[]⟩, .int .i64 1, .slice (some ⟨w.heap.size + 1, 0, none⟩) 1 1, .string ⟨#[]⟩] 26 (0, 0))
  b : W.heap[w.heap.size + 1 + 1 + 1 + 1]? = some (.cells #[.int .i64 200, .string ⟨#[]⟩, .int .i64 1, .slice (some ⟨w.heap.size + 1 + 1 + 1, 0, none⟩) 1 1, .string ⟨#[]⟩] 26 (0, 0))
  c : W.heap[w.heap.size + 1 + 1 + 1 + 1 + 1 + 1]? = some (.cells #[.int .i64 200, .string ⟨#[]⟩, .int .i64 1, .slice (some ⟨w.heap.size + 1 + 1 + 1 + 1 + 1, 0, none⟩) 2 2, .string ⟨#[]⟩] 26 (0, 0))
  fa : SlF W (some ⟨w.heap.size + 1, 0, none⟩) 1 1 l18a
  fb : SlF W (some ⟨w.heap.size + 1 + 1 + 1, 0, none⟩) 1 1 l18b
  fc : SlF W (some ⟨w.heap.size + 1 + 1 + 1 + 1 + 1, 0, none⟩) 2 2 l18c
  h : Below w.heap.size w W
  t : ReuTabs W
theorem Kw18.below {w W W' : World} (k : Kw18 w W) (hb : Below W.heap.size W W') : Kw18 w W' :=
  ⟨zero_still hb k.q, zero_still hb k.a, zero_still hb k.b, zero_still hb k.c, k.fa.below hb, k.fb.below hb, k.fc.below hb, below_then k.h hb, k.t.kept hb⟩
theorem kw18_new (w : World) (HT : ReuTabs w) : Kw18 w (((((((w.alloc (.cells #[.string ⟨#[71, 69, 84]⟩, .string ⟨#[47]⟩, .int .i64 1, .slice none 0 0, .string ⟨#[]⟩] 24)).alloc (.cells #[.string ⟨#[67, 97, 99, 104, 101, 45, 67, 111, 110, 116, 114, 111, 108]⟩, .string ⟨#[109, 97, 120, 45, 97, 103, 101, 61, 54, 48]⟩] 50)).alloc (.cells #[.int .i64 200, .string ⟨#[]⟩, .int .i64 1, .slice (some ⟨w.heap.size + 1, 0, none⟩) 1 1, .string ⟨#[]⟩] 26)).alloc (.cells #[.string ⟨#[67, 97, 99, 104, 101, 45, 67, 111, 110, 116, 114, 111, 108]⟩, .string ⟨#[110, 111, 45, 115, 116, 111, 114, 101, 44, 32, 109, 97, 120, 45, 97, 103, 101, 61, 54, 48]⟩] 50)).alloc (.cells #[.int .i64 200, .string ⟨#[]⟩, .int .i64 1, .slice (some ⟨w.heap.size + 1 + 1 + 1, 0, none⟩) 1 1, .string ⟨#[]⟩] 26)).alloc (.cells #[.string ⟨#[67, 97, 99, 104, 101, 45, 67, 111, 110, 116, 114, 111, 108]⟩, .string ⟨#[110, 111, 45, 99, 97, 99, 104, 101, 44, 32, 109, 97, 120, 45, 97, 103, 101, 61, 54, 48]⟩, .string ⟨#[69, 84, 97, 103]⟩, .string ⟨#[34, 120, 34]⟩] 50)).alloc (.cells #[.int .i64 200, .string ⟨#[]⟩, .int .i64 1, .slice (some ⟨w.heap.size + 1 + 1 + 1 + 1 + 1, 0, none⟩) 2 2, .string ⟨#[]⟩] 26)) := by
  have e := fun i o h => alls_at [.cells #[.string ⟨#[71, 69, 84]⟩, .string ⟨#[47]⟩, .int .i64 1, .slice none 0 0, .string ⟨#[]⟩] 24, .cells #[.string ⟨#[67, 97, 99, 104, 101, 45, 67, 111, 110, 116, 114, 111, 108]⟩, .string ⟨#[109, 97, 120, 45, 97, 103, 101, 61, 54, 48]⟩] 50, .cells #[.int .i64 200, .string ⟨#[]⟩, .int .i64 1, .slice (some ⟨w.heap.size + 1, 0, none⟩) 1 1, .string ⟨#[]⟩] 26, .cells #[.string ⟨#[67, 97, 99, 104, 101, 45, 67, 111, 110, 116, 114, 111, 108]⟩, .string ⟨#[110, 111, 45, 115, 116, 111, 114, 101, 44, 32, 109, 97, 120, 45, 97, 103, 101, 61, 54, 48]⟩] 50, .cells #[.int .i64 200, .string ⟨#[]⟩, .int .i64 1, .slice (some ⟨w.heap.size + 1 + 1 + 1, 0, none⟩) 1 1, .string ⟨#[]⟩] 26, .cells #[.string ⟨#[67, 97, 99, 104, 101, 45, 67, 111, 110, 116, 114, 111, 108]⟩, .string ⟨#[110, 111, 45, 99, 97, 99, 104, 101, 44, 32, 109, 97, 120, 45, 97, 103, 101, 61, 54, 48]⟩, .string ⟨#[69, 84, 97, 103]⟩, .string ⟨#[34, 120, 34]⟩] 50, .cells #[.int .i64 200, .string ⟨#[]⟩, .int .i64 1, .slice (some ⟨w.heap.size + 1 + 1 + 1 + 1 + 1, 0, none⟩) 2 2, .string ⟨#[]⟩] 26] w i o h
  have hq : (((((((w.alloc (.cells #[.string ⟨#[71, 69, 84]⟩, .string ⟨#[47]⟩, .int .i64 1, .slice none 0 0, .string ⟨#[]⟩] 24)).alloc (.cells #[.string ⟨#[67, 97, 99, 104, 101, 45, 67, 111, 110, 116, 114, 111, 108]⟩, .string ⟨#[109, 97, 120, 45, 97, 103, 101, 61, 54, 48]⟩] 50)).alloc (.cells #[.int .i64 200, .string ⟨#[]⟩, .int .i64 1, .slice (some ⟨w.heap.size + 1, 0, none⟩) 1 1, .string ⟨#[]⟩] 26)).alloc (.cells #[.string ⟨#[67, 97, 99, 104, 101, 45, 67, 111, 110, 116, 114, 111, 108]⟩, .string ⟨#[110, 111, 45, 115, 116, 111, 114, 101, 44, 32, 109, 97, 120, 45, 97, 103, 101, 61, 54, 48]⟩] 50)).alloc (.cells #[.int .i64 200, .string ⟨#[]⟩, .int .i64 1, .slice (some ⟨w.heap.size + 1 + 1 + 1, 0, none⟩) 1 1, .string ⟨#[]⟩] 26)).alloc (.cells #[.string ⟨#[67, 97, 99, 104, 101, 45, 67, 111, 110, 116, 114, 111, 108]⟩, .string ⟨#[110, 111, 45, 99, 97, 99, 104, 101, 44, 32, 109, 97, 120, 45, 97, 103, 101, 61, 54, 48]⟩, .string ⟨#[69, 84, 97, 103]⟩, .string ⟨#[34, 120, 34]⟩] 50)).alloc (.cells #[.int .i64 200, .string ⟨#[]⟩, .int .i64 1, .slice (some ⟨w.heap.size + 1 + 1 + 1 + 1 + 1, 0, none⟩) 2 2, .string ⟨#[]⟩] 26)).heap[w.heap.size]? = some (.cells #[.string ⟨#[71, 69, 84]⟩, .string ⟨#[47]⟩, .int .i64 1, .slice none 0 0, .string ⟨#[]⟩] 24 (0, 0)) := e 0 _ rfl
  have ha : (((((((w.alloc (.cells #[.string ⟨#[71, 69, 84]⟩, .string ⟨#[47]⟩, .int .i64 1, .slice none 0 0, .string ⟨#[]⟩] 24)).alloc (.cells #[.string ⟨#[67, 97, 99, 104, 101, 45, 67, 111, 110, 116, 114, 111, 108]⟩, .string ⟨#[109, 97, 120, 45, 97, 103, 101, 61, 54, 48]⟩] 50)).alloc (.cells #[.int .i64 200, .string ⟨#[]⟩, .int .i64 1, .slice (some ⟨w.heap.size + 1, 0, none⟩) 1 1, .string ⟨#[]⟩] 26)).alloc (.cells #[.string ⟨#[67, 97, 99, 104, 101, 45, 67, 111, 110, 116, 114, 111, 108]⟩, .string ⟨#[110, 111, 45, 115, 116, 111, 114, 101, 44, 32, 109, 97, 120, 45, 97, 103, 101, 61, 54, 48]⟩] 50)).alloc (.cells #[.int .i64 200, .string ⟨#[]⟩, .int .i64 1, .slice (some ⟨w.heap.size + 1 + 1 + 1, 0, none⟩) 1 1, .string ⟨#[]⟩] 26)).alloc (.cells #[.string ⟨#[67, 97, 99, 104, 101, 45, 67, 111, 110, 116, 114, 111, 108]⟩, .string ⟨#[110, 111, 45, 99, 97, 99, 104, 101, 44, 32, 109, 97, 120, 45, 97, 103, 101, 61, 54, 48]⟩, .string ⟨#[69, 84, 97, 103]⟩, .string ⟨#[34, 120, 34]⟩] 50)).alloc (.cells #[.int .i64 200, .string ⟨#[]⟩, .int .i64 1, .slice (some ⟨w.heap.size + 1 + 1 + 1 + 1 + 1, 0, none⟩) 2 2, .string ⟨#[]⟩] 26)).heap[w.heap.size + 1 + 1]? = some (.cells #[.int .i64 200, .string ⟨#[]⟩, .int .i64 1, .slice (some ⟨w.heap.size + 1, 0, none⟩) 1 1, .string ⟨#[]⟩] 26 (0, 0)) := e 2 _ rfl
  have hb : (((((((w.alloc (.cells #[.string ⟨#[71, 69, 84]⟩, .string ⟨#[47]⟩, .int .i64 1, .slice none 0 0, .string ⟨#[]⟩] 24)).alloc (.cells #[.string ⟨#[67, 97, 99, 104, 101, 45, 67, 111, 110, 116, 114, 111, 108]⟩, .string ⟨#[109, 97, 120, 45, 97, 103, 101, 61, 54, 48]⟩] 50)).alloc (.cells #[.int .i64 200, .string ⟨#[]⟩, .int .i64 1, .slice (some ⟨w.heap.size + 1, 0, none⟩) 1 1, .string ⟨#[]⟩] 26)).alloc (.cells #[.string ⟨#[67, 97, 99, 104, 101, 45, 67, 111, 110, 116, 114, 111, 108]⟩, .string ⟨#[110, 111, 45, 115, 116, 111, 114, 101, 44, 32, 109, 97, 120, 45, 97, 103, 101, 61, 54, 48]⟩] 50)).alloc (.cells #[.int .i64 200, .string ⟨#[]⟩, .int .i64 1, .slice (some ⟨w.heap.size + 1 + 1 + 1, 0, none⟩) 1 1, .string ⟨#[]⟩] 26)).alloc (.cells #[.string ⟨#[67, 97, 99, 104, 101, 45, 67, 111, 110, 116, 114, 111, 108]⟩, .string ⟨#[110, 111, 45, 99, 97, 99, 104, 101, 44, 32, 109, 97, 120, 45, 97, 103, 101, 61, 54, 48]⟩, .string ⟨#[69, 84, 97, 103]⟩, .string ⟨#[34, 120, 34]⟩] 50)).alloc (.cells #[.int .i64 200, .string ⟨#[]⟩, .int .i64 1, .slice (some ⟨w.heap.size + 1 + 1 + 1 + 1 + 1, 0, none⟩) 2 2, .string ⟨#[]⟩] 26)).heap[w.heap.size + 1 + 1 + 1 + 1]? = some (.cells #[.int .i64 200, .string ⟨#[]⟩, .int .i64 1, .slice (some ⟨w.heap.size + 1 + 1 + 1, 0, none⟩) 1 1, .string ⟨#[]⟩] 26 (0, 0)) := e 4 _ rfl
  have hc : (((((((w.alloc (.cells #[.string ⟨#[71, 69, 84]⟩, .string ⟨#[47]⟩, .int .i64 1, .slice none 0 0, .string ⟨#[]⟩] 24)).alloc (.cells #[.string ⟨#[67, 97, 99, 104, 101, 45, 67, 111, 110, 116, 114, 111, 108]⟩, .string ⟨#[109, 97, 120, 45, 97, 103, 101, 61, 54, 48]⟩] 50)).alloc (.cells #[.int .i64 200, .string ⟨#[]⟩, .int .i64 1, .slice (some ⟨w.heap.size + 1, 0, none⟩) 1 1, .string ⟨#[]⟩] 26)).alloc (.cells #[.string ⟨#[67, 97, 99, 104, 101, 45, 67, 111, 110, 116, 114, 111, 108]⟩, .string ⟨#[110, 111, 45, 115, 116, 111, 114, 101, 44, 32, 109, 97, 120, 45, 97, 103, 101, 61, 54, 48]⟩] 50)).alloc (.cells #[.int .i64 200, .string ⟨#[]⟩, .int .i64 1, .slice (some ⟨w.heap.size + 1 + 1 + 1, 0, none⟩) 1 1, .string ⟨#[]⟩] 26)).alloc (.cells #[.string ⟨#[67, 97, 99, 104, 101, 45, 67, 111, 110, 116, 114, 111, 108]⟩, .string ⟨#[110, 111, 45, 99, 97, 99, 104, 101, 44, 32, 109, 97, 120, 45, 97, 103, 101, 61, 54, 48]⟩, .string ⟨#[69, 84, 97, 103]⟩, .string ⟨#[34, 120, 34]⟩] 50)).alloc (.cells #[.int .i64 200, .string ⟨#[]⟩, .int .i64 1, .slice (some ⟨w.heap.size + 1 + 1 + 1 + 1 + 1, 0, none⟩) 2 2, .string ⟨#[]⟩] 26)).heap[w.heap.size + 1 + 1 + 1 + 1 + 1 + 1]? = some (.cells #[.int .i64 200, .string ⟨#[]⟩, .int .i64 1, .slice (some ⟨w.heap.size + 1 + 1 + 1 + 1 + 1, 0, none⟩) 2 2, .string ⟨#[]⟩] 26 (0, 0)) := e 6 _ rfl
  have hfa : (((((((w.alloc (.cells #[.string ⟨#[71, 69, 84]⟩, .string ⟨#[47]⟩, .int .i64 1, .slice none 0 0, .string ⟨#[]⟩] 24)).alloc (.cells #[.string ⟨#[67, 97, 99, 104, 101, 45, 67, 111, 110, 116, 114, 111, 108]⟩, .string ⟨#[109, 97, 120, 45, 97, 103, 101, 61, 54, 48]⟩] 50)).alloc (.cells #[.int .i64 200, .string ⟨#[]⟩, .int .i64 1, .slice (some ⟨w.heap.size + 1, 0, none⟩) 1 1, .string ⟨#[]⟩] 26)).alloc (.cells #[.string ⟨#[67, 97, 99, 104, 101, 45, 67, 111, 110, 116, 114, 111, 108]⟩, .string ⟨#[110, 111, 45, 115, 116, 111, 114, 101, 44, 32, 109, 97, 120, 45, 97, 103, 101, 61, 54, 48]⟩] 50)).alloc (.cells #[.int .i64 200, .string ⟨#[]⟩, .int .i64 1, .slice (some ⟨w.heap.size + 1 + 1 + 1, 0, none⟩) 1 1, .string ⟨#[]⟩] 26)).alloc (.cells #[.string ⟨#[67, 97, 99, 104, 101, 45, 67, 111, 110, 116, 114, 111, 108]⟩, .string ⟨#[110, 111, 45, 99, 97, 99, 104, 101, 44, 32, 109, 97, 120, 45, 97, 103, 101, 61, 54, 48]⟩, .string ⟨#[69, 84, 97, 103]⟩, .string ⟨#[34, 120, 34]⟩] 50)).alloc (.cells #[.int .i64 200, .string ⟨#[]⟩, .int .i64 1, .slice (some ⟨w.heap.size + 1 + 1 + 1 + 1 + 1, 0, none⟩) 2 2, .string ⟨#[]⟩] 26)).heap[w.heap.size + 1]? = some (.cells #[.string ⟨#[67, 97, 99, 104, 101, 45, 67, 111, 110, 116, 114, 111, 108]⟩, .string ⟨#[109, 97, 120, 45, 97, 103, 101, 61, 54, 48]⟩] 50 (0, 0)) := e 1 _ rfl
  have hfb : (((((((w.alloc (.cells #[.string ⟨#[71, 69, 84]⟩, .string ⟨#[47]⟩, .int .i64 1, .slice none 0 0, .string ⟨#[]⟩] 24)).alloc (.cells #[.string ⟨#[67, 97, 99, 104, 101, 45, 67, 111, 110, 116, 114, 111, 108]⟩, .string ⟨#[109, 97, 120, 45, 97, 103, 101, 61, 54, 48]⟩] 50)).alloc (.cells #[.int .i64 200, .string ⟨#[]⟩, .int .i64 1, .slice (some ⟨w.heap.size + 1, 0, none⟩) 1 1, .string ⟨#[]⟩] 26)).alloc (.cells #[.string ⟨#[67, 97, 99, 104, 101, 45, 67, 111, 110, 116, 114, 111, 108]⟩, .string ⟨#[110, 111, 45, 115, 116, 111, 114, 101, 44, 32, 109, 97, 120, 45, 97, 103, 101, 61, 54, 48]⟩] 50)).alloc (.cells #[.int .i64 200, .string ⟨#[]⟩, .int .i64 1, .slice (some ⟨w.heap.size + 1 + 1 + 1, 0, none⟩) 1 1, .string ⟨#[]⟩] 26)).alloc (.cells #[.string ⟨#[67, 97, 99, 104, 101, 45, 67, 111, 110, 116, 114, 111, 108]⟩, .string ⟨#[110, 111, 45, 99, 97, 99, 104, 101, 44, 32, 109, 97, 120, 45, 97, 103, 101, 61, 54, 48]⟩, .string ⟨#[69, 84, 97, 103]⟩, .string ⟨#[34, 120, 34]⟩] 50)).alloc (.cells #[.int .i64 200, .string ⟨#[]⟩, .int .i64 1, .slice (some ⟨w.heap.size + 1 + 1 + 1 + 1 + 1, 0, none⟩) 2 2, .string ⟨#[]⟩] 26)).heap[w.heap.size + 1 + 1 + 1]? = some (.cells #[.string ⟨#[67, 97, 99, 104, 101, 45, 67, 111, 110, 116, 114, 111, 108]⟩, .string ⟨#[110, 111, 45, 115, 116, 111, 114, 101, 44, 32, 109, 97, 120, 45, 97, 103, 101, 61, 54, 48]⟩] 50 (0, 0)) := e 3 _ rfl
  have hfc : (((((((w.alloc (.cells #[.string ⟨#[71, 69, 84]⟩, .string ⟨#[47]⟩, .int .i64 1, .slice none 0 0, .string ⟨#[]⟩] 24)).alloc (.cells #[.string ⟨#[67, 97, 99, 104, 101, 45, 67, 111, 110, 116, 114, 111, 108]⟩, .string ⟨#[109, 97, 120, 45, 97, 103, 101, 61, 54, 48]⟩] 50)).alloc (.cells #[.int .i64 200, .string ⟨#[]⟩, .int .i64 1, .slice (some ⟨w.heap.size + 1, 0, none⟩) 1 1, .string ⟨#[]⟩] 26)).alloc (.cells #[.string ⟨#[67, 97, 99, 104, 101, 45, 67, 111, 110, 116, 114, 111, 108]⟩, .string ⟨#[110, 111, 45, 115, 116, 111, 114, 101, 44, 32, 109, 97, 120, 45, 97, 103, 101, 61, 54, 48]⟩] 50)).alloc (.cells #[.int .i64 200, .string ⟨#[]⟩, .int .i64 1, .slice (some ⟨w.heap.size + 1 + 1 + 1, 0, none⟩) 1 1, .string ⟨#[]⟩] 26)).alloc (.cells #[.string ⟨#[67, 97, 99, 104, 101, 45, 67, 111, 110, 116, 114, 111, 108]⟩, .string ⟨#[110, 111, 45, 99, 97, 99, 104, 101, 44, 32, 109, 97, 120, 45, 97, 103, 101, 61, 54, 48]⟩, .string ⟨#[69, 84, 97, 103]⟩, .string ⟨#[34, 120, 34]⟩] 50)).alloc (.cells #[.int .i64 200, .string ⟨#[]⟩, .int .i64 1, .slice (some ⟨w.heap.size + 1 + 1 + 1 + 1 + 1, 0, none⟩) 2 2, .string ⟨#[]⟩] 26)).heap[w.heap.size + 1 + 1 + 1 + 1 + 1]? = some (.cells #[.string ⟨#[67, 97, 99, 104, 101, 45, 67, 111, 110, 116, 114, 111, 108]⟩, .string ⟨#[110, 111, 45, 99, 97, 99, 104, 101, 44, 32, 109, 97, 120, 45, 97, 103, 101, 61, 54, 48]⟩, .string ⟨#[69, 84, 97, 103]⟩, .string ⟨#[34, 120, 34]⟩] 50 (0, 0)) := e 5 _ rfl
  have hall := alls_below [.cells #[.string ⟨#[71, 69, 84]⟩, .string ⟨#[47]⟩, .int .i64 1, .slice none 0 0, .string ⟨#[]⟩] 24, .cells #[.string ⟨#[67, 97, 99, 104, 101, 45, 67, 111, 110, 116, 114, 111, 108]⟩, .string ⟨#[109, 97, 120, 45, 97, 103, 101, 61, 54, 48]⟩] 50, .cells #[.int .i64 200, .string ⟨#[]⟩, .int .i64 1, .slice (some ⟨w.heap.size + 1, 0, none⟩) 1 1, .string ⟨#[]⟩] 26, .cells #[.string ⟨#[67, 97, 99, 104, 101, 45, 67, 111, 110, 116, 114, 111, 108]⟩, .string ⟨#[110, 111, 45, 115, 116, 111, 114, 101, 44, 32, 109, 97, 120, 45, 97, 103, 101, 61, 54, 48]⟩] 50, .cells #[.int .i64 200, .string ⟨#[]⟩, .int .i64 1, .slice (some ⟨w.heap.size + 1 + 1 + 1, 0, none⟩) 1 1, .string ⟨#[]⟩] 26, .cells #[.string ⟨#[67, 97, 99, 104, 101, 45, 67, 111, 110, 116, 114, 111, 108]⟩, .string ⟨#[110, 111, 45, 99, 97, 99, 104, 101, 44, 32, 109, 97, 120, 45, 97, 103, 101, 61, 54, 48]⟩, .string ⟨#[69, 84, 97, 103]⟩, .string ⟨#[34, 120, 34]⟩] 50, .cells #[.int .i64 200, .string ⟨#[]⟩, .int .i64 1, .slice (some ⟨w.heap.size + 1 + 1 + 1 + 1 + 1, 0, none⟩) 2 2, .string ⟨#[]⟩] 26] w
  exact ⟨hq, ha, hb, hc, slf_row (L := l18a) rfl hfa (by decide) (by decide), slf_row (L := l18b) rfl hfb (by decide) (by decide), slf_row (L := l18c) rfl hfc (by decide) (by decide), hall, HT.kept hall⟩

theorem e18t (w W : World) (k : Kw18 w W) : Calls Tryz.prog 10 #[.agg #[.int .i64 200, .string ⟨#[]⟩, .int .i64 1, .slice (some ⟨w.heap.size + 1 + 1 + 1 + 1 + 1, 0, none⟩) 2 2, .string ⟨#[]⟩]] W fun e w' => e = .returned (.tuple #[.agg #[.bool false, .string ⟨#[120]⟩], .bool true]) ∧ Below W.heap.size W w' := by
  have h2 := reuG_any ⟨200, ⟨#[]⟩, 1, l18c, ⟨#[]⟩⟩ (some ⟨w.heap.size + 1 + 1 + 1 + 1 + 1, 0, none⟩) 2 W k.fc f18c
  rw [show rtO (Rply.f ⟨200, ⟨#[]⟩, 1, l18c, ⟨#[]⟩⟩) = (false, ⟨#[120]⟩) from x18c.1, show rtB (Rply.f ⟨200, ⟨#[]⟩, 1, l18c, ⟨#[]⟩⟩) = true from x18c.2.1] at h2
  exact h2
theorem e18a (w W : World) (k : Kw18 w W) : Calls Tryz.prog 12 #[.agg #[.string ⟨#[71, 69, 84]⟩, .string ⟨#[47]⟩, .int .i64 1, .slice none 0 0, .string ⟨#[]⟩], .agg #[.int .i64 200, .string ⟨#[]⟩, .int .i64 1, .slice (some ⟨w.heap.size + 1, 0, none⟩) 1 1, .string ⟨#[]⟩], .int .i64 5] W fun e w' => e = .returned (.bool true) ∧ Below W.heap.size W w' := by
  have h2 := reuS_any q18 none 0 ⟨200, ⟨#[]⟩, 1, l18a, ⟨#[]⟩⟩ (some ⟨w.heap.size + 1, 0, none⟩) 1 5 W (SlF.none_ W) f18n k.fa f18a k.t
  rw [show stoB q18.m q18.f (Rply.f ⟨200, ⟨#[]⟩, 1, l18a, ⟨#[]⟩⟩) (Rply.c ⟨200, ⟨#[]⟩, 1, l18a, ⟨#[]⟩⟩) 5 = true from x18a.1] at h2
  exact h2
theorem e18b (w W : World) (k : Kw18 w W) : Calls Tryz.prog 12 #[.agg #[.string ⟨#[71, 69, 84]⟩, .string ⟨#[47]⟩, .int .i64 1, .slice none 0 0, .string ⟨#[]⟩], .agg #[.int .i64 200, .string ⟨#[]⟩, .int .i64 1, .slice (some ⟨w.heap.size + 1 + 1 + 1, 0, none⟩) 1 1, .string ⟨#[]⟩], .int .i64 5] W fun e w' => e = .returned (.bool false) ∧ Below W.heap.size W w' := by
  have h2 := reuS_any q18 none 0 ⟨200, ⟨#[]⟩, 1, l18b, ⟨#[]⟩⟩ (some ⟨w.heap.size + 1 + 1 + 1, 0, none⟩) 1 5 W (SlF.none_ W) f18n k.fb f18b k.t
  rw [show stoB q18.m q18.f (Rply.f ⟨200, ⟨#[]⟩, 1, l18b, ⟨#[]⟩⟩) (Rply.c ⟨200, ⟨#[]⟩, 1, l18b, ⟨#[]⟩⟩) 5 = false from x18a.2.2] at h2
  exact h2
theorem e18c (w W : World) (k : Kw18 w W) : Calls Tryz.prog 12 #[.agg #[.string ⟨#[71, 69, 84]⟩, .string ⟨#[47]⟩, .int .i64 1, .slice none 0 0, .string ⟨#[]⟩], .agg #[.int .i64 200, .string ⟨#[]⟩, .int .i64 1, .slice (some ⟨w.heap.size + 1 + 1 + 1 + 1 + 1, 0, none⟩) 2 2, .string ⟨#[]⟩], .int .i64 5] W fun e w' => e = .returned (.bool true) ∧ Below W.heap.size W w' := by
  have h2 := reuS_any q18 none 0 ⟨200, ⟨#[]⟩, 1, l18c, ⟨#[]⟩⟩ (some ⟨w.heap.size + 1 + 1 + 1 + 1 + 1, 0, none⟩) 2 5 W (SlF.none_ W) f18n k.fc f18c k.t
  rw [show stoB q18.m q18.f (Rply.f ⟨200, ⟨#[]⟩, 1, l18c, ⟨#[]⟩⟩) (Rply.c ⟨200, ⟨#[]⟩, 1, l18c, ⟨#[]⟩⟩) 5 = true from x18b.1] at h2
  exact h2
theorem e18v (w W : World) (k : Kw18 w W) : Calls Tryz.prog 20 #[.agg #[.string ⟨#[71, 69, 84]⟩, .string ⟨#[47]⟩, .int .i64 1, .slice none 0 0, .string ⟨#[]⟩], .agg #[.int .i64 200, .string ⟨#[]⟩, .int .i64 1, .slice (some ⟨w.heap.size + 1, 0, none⟩) 1 1, .string ⟨#[]⟩, .int .i64 5, .slice none 0 0], .int .i64 6] W fun e w' => e = .returned (.int .i64 1) ∧ Below W.heap.size W w' := by
  have h2 := reuW_any q18 none 0 ⟨200, ⟨#[]⟩, 1, l18a, ⟨#[]⟩, 5⟩ (some ⟨w.heap.size + 1, 0, none⟩) 1 none 0 0 6 W (SlF.none_ W) f18n k.fa f18a k.t
  rw [show verN q18.f (Stor.f ⟨200, ⟨#[]⟩, 1, l18a, ⟨#[]⟩, 5⟩) (Stor.c ⟨200, ⟨#[]⟩, 1, l18a, ⟨#[]⟩, 5⟩) (Stor.t ⟨200, ⟨#[]⟩, 1, l18a, ⟨#[]⟩, 5⟩) 6 = 1 from x18a.2.1] at h2
  exact h2
theorem e18w (w W : World) (k : Kw18 w W) : Calls Tryz.prog 20 #[.agg #[.string ⟨#[71, 69, 84]⟩, .string ⟨#[47]⟩, .int .i64 1, .slice none 0 0, .string ⟨#[]⟩], .agg #[.int .i64 200, .string ⟨#[]⟩, .int .i64 1, .slice (some ⟨w.heap.size + 1 + 1 + 1 + 1 + 1, 0, none⟩) 2 2, .string ⟨#[]⟩, .int .i64 5, .slice none 0 0], .int .i64 6] W fun e w' => e = .returned (.int .i64 2) ∧ Below W.heap.size W w' := by
  have h2 := reuW_any q18 none 0 ⟨200, ⟨#[]⟩, 1, l18c, ⟨#[]⟩, 5⟩ (some ⟨w.heap.size + 1 + 1 + 1 + 1 + 1, 0, none⟩) 2 none 0 0 6 W (SlF.none_ W) f18n k.fc f18c k.t
  rw [show verN q18.f (Stor.f ⟨200, ⟨#[]⟩, 1, l18c, ⟨#[]⟩, 5⟩) (Stor.c ⟨200, ⟨#[]⟩, 1, l18c, ⟨#[]⟩, 5⟩) (Stor.t ⟨200, ⟨#[]⟩, 1, l18c, ⟨#[]⟩, 5⟩) 6 = 2 from x18b.2.1] at h2
  exact h2
theorem e18x (w W : World) (k : Kw18 w W) : Calls Tryz.prog 16 #[.agg #[.int .i64 200, .string ⟨#[]⟩, .int .i64 1, .slice (some ⟨w.heap.size + 1 + 1 + 1 + 1 + 1, 0, none⟩) 2 2, .string ⟨#[]⟩]] W fun e w' => e = .returned (.bool true) ∧ Below W.heap.size W w' := by
  have h2 := reuV_any ⟨200, ⟨#[]⟩, 1, l18c, ⟨#[]⟩⟩ (some ⟨w.heap.size + 1 + 1 + 1 + 1 + 1, 0, none⟩) 2 W k.fc f18c k.t
  rw [show valB (Rply.f ⟨200, ⟨#[]⟩, 1, l18c, ⟨#[]⟩⟩) = true from x18b.2.2] at h2
  exact h2
theorem e18p (w W : World) (_ : Kw18 w W) : Calls Tryz.prog 14 #[.agg #[.string ⟨#[71, 69, 84]⟩, .string ⟨#[47]⟩, .int .i64 1, .slice none 0 0, .string ⟨#[]⟩]] W fun e w' => e = .returned (.bool false) ∧ Below W.heap.size W w' := by
  have h2 := reuP_any q18 none 0 W (SlF.none_ W) f18n
  rw [show pasB q18.f = false from x18c.2.2.1] at h2
  exact h2
theorem e18i (w W : World) (k : Kw18 w W) : Calls Tryz.prog 18 #[.agg #[.string ⟨#[71, 69, 84]⟩, .string ⟨#[47]⟩, .int .i64 1, .slice none 0 0, .string ⟨#[]⟩], .agg #[.int .i64 200, .string ⟨#[]⟩, .int .i64 1, .slice (some ⟨w.heap.size + 1, 0, none⟩) 1 1, .string ⟨#[]⟩]] W fun e w' => e = .returned (.bool false) ∧ Below W.heap.size W w' := by
  have h2 := reuI_any q18 none 0 ⟨200, ⟨#[]⟩, 1, l18a, ⟨#[]⟩⟩ (some ⟨w.heap.size + 1, 0, none⟩) 1 W k.t
  rw [show invB q18.m (Rply.c ⟨200, ⟨#[]⟩, 1, l18a, ⟨#[]⟩⟩) = false from x18c.2.2.2.1] at h2
  exact h2
theorem e18j (w W : World) (k : Kw18 w W) : Calls Tryz.prog 18 #[.agg #[.string ⟨#[80, 85, 84]⟩, .string ⟨#[]⟩, .int .i64 0, .slice none 0 0, .string ⟨#[]⟩], .agg #[.int .i64 200, .string ⟨#[]⟩, .int .i64 1, .slice (some ⟨w.heap.size + 1, 0, none⟩) 1 1, .string ⟨#[]⟩]] W fun e w' => e = .returned (.bool true) ∧ Below W.heap.size W w' := by
  have h2 := reuI_any ⟨⟨#[80, 85, 84]⟩, ⟨#[]⟩, 0, [], ⟨#[]⟩⟩ none 0 ⟨200, ⟨#[]⟩, 1, l18a, ⟨#[]⟩⟩ (some ⟨w.heap.size + 1, 0, none⟩) 1 W k.t
  rw [show invB (Rqst.m ⟨⟨#[80, 85, 84]⟩, ⟨#[]⟩, 0, [], ⟨#[]⟩⟩) (Rply.c ⟨200, ⟨#[]⟩, 1, l18a, ⟨#[]⟩⟩) = true from x18c.2.2.2.2] at h2
  exact h2

set_option maxHeartbeats 16000000 in
set_option maxRecDepth 100000 in
theorem ex18_any (w : World) (HT : ReuTabs w) : Calls Tryz.prog 9 #[] w fun e w' => e = .returned (.bool true) ∧ Below w.heap.size w w' := by
  have HK := Lib.hid (kw18_new w HT)
  clear HT
  obtain ⟨q0, q1, q2, q3, q4⟩ := cel5r HK.out.q
  obtain ⟨c0, c1, c2, c3, c4⟩ := cel5r HK.out.c
  go_enter Tryz.func9, Tryz.ntmps9
  go_wp2_with fail
  refine (e18t _ _ HK.out).mono ?_
  rintro e w1 ⟨rfl, hb⟩
  replace HK := Lib.hid (HK.out.below hb)
  clear hb q0 q1 q2 q3 q4 c0 c1 c2 c3 c4
  obtain ⟨W, hW⟩ : ∃ W, w1.alloc (.cells #[.bool false, .string ⟨#[120]⟩] 31) = W := ⟨_, rfl⟩
  obtain ⟨gt, hgt⟩ : ∃ g, w1.heap.size = g := ⟨_, rfl⟩
  have ZT : Hid (W.heap[gt]? = some (.cells #[.bool false, .string ⟨#[120]⟩] 31 (0, 0))) := by show _ = _; rw [← hW, ← hgt]; exact heap_alloc_new w1 _
  replace HK : Hid (Kw18 w W) := by show Kw18 w W; rw [← hW]; exact HK.out.below ((Below.refl _ _).alloc (Nat.le_refl _) _)
  obtain ⟨q0, q1, q2, q3, q4⟩ := cel5r HK.out.q
  obtain ⟨a0, a1, a2, a3, a4⟩ := cel5r HK.out.a
  obtain ⟨b0, b1, b2, b3, b4⟩ := cel5r HK.out.b
  obtain ⟨c0, c1, c2, c3, c4⟩ := cel5r HK.out.c
  obtain ⟨t0, t1⟩ := zero_two ZT.out
  go_wp2_with fail
  try rw [hW]
  try rw [hgt]
  clear hW hgt
  refine (e18a _ _ HK.out).mono ?_
  rintro e v0 ⟨rfl, hb⟩
  replace HK := Lib.hid (HK.out.below hb)
  replace ZT := Lib.hid (zero_still hb ZT.out)
  clear hb q0 q1 q2 q3 q4 a0 a1 a2 a3 a4 b0 b1 b2 b3 b4 c0 c1 c2 c3 c4 t0 t1
  obtain ⟨q0, q1, q2, q3, q4⟩ := cel5r HK.out.q
  obtain ⟨a0, a1, a2, a3, a4⟩ := cel5r HK.out.a
  obtain ⟨b0, b1, b2, b3, b4⟩ := cel5r HK.out.b
  obtain ⟨c0, c1, c2, c3, c4⟩ := cel5r HK.out.c
  obtain ⟨t0, t1⟩ := zero_two ZT.out
  go_wp2_with fail
  refine (e18v _ _ HK.out).mono ?_
  rintro e v1 ⟨rfl, hb⟩
  replace HK := Lib.hid (HK.out.below hb)
  replace ZT := Lib.hid (zero_still hb ZT.out)
  clear hb q0 q1 q2 q3 q4 a0 a1 a2 a3 a4 b0 b1 b2 b3 b4 c0 c1 c2 c3 c4 t0 t1
  obtain ⟨q0, q1, q2, q3, q4⟩ := cel5r HK.out.q
  obtain ⟨a0, a1, a2, a3, a4⟩ := cel5r HK.out.a
  obtain ⟨b0, b1, b2, b3, b4⟩ := cel5r HK.out.b
  obtain ⟨c0, c1, c2, c3, c4⟩ := cel5r HK.out.c
  obtain ⟨t0, t1⟩ := zero_two ZT.out
  go_wp2_with fail
  refine (e18b _ _ HK.out).mono ?_
  rintro e v2 ⟨rfl, hb⟩
  replace HK := Lib.hid (HK.out.below hb)
  replace ZT := Lib.hid (zero_still hb ZT.out)
  clear hb q0 q1 q2 q3 q4 a0 a1 a2 a3 a4 b0 b1 b2 b3 b4 c0 c1 c2 c3 c4 t0 t1
  obtain ⟨q0, q1, q2, q3, q4⟩ := cel5r HK.out.q
  obtain ⟨a0, a1, a2, a3, a4⟩ := cel5r HK.out.a
  obtain ⟨b0, b1, b2, b3, b4⟩ := cel5r HK.out.b
  obtain ⟨c0, c1, c2, c3, c4⟩ := cel5r HK.out.c
  obtain ⟨t0, t1⟩ := zero_two ZT.out
  go_wp2_with fail
  refine (e18c _ _ HK.out).mono ?_
  rintro e v3 ⟨rfl, hb⟩
  replace HK := Lib.hid (HK.out.below hb)
  replace ZT := Lib.hid (zero_still hb ZT.out)
  clear hb q0 q1 q2 q3 q4 a0 a1 a2 a3 a4 b0 b1 b2 b3 b4 c0 c1 c2 c3 c4 t0 t1
  obtain ⟨q0, q1, q2, q3, q4⟩ := cel5r HK.out.q
  obtain ⟨a0, a1, a2, a3, a4⟩ := cel5r HK.out.a
  obtain ⟨b0, b1, b2, b3, b4⟩ := cel5r HK.out.b
  obtain ⟨c0, c1, c2, c3, c4⟩ := cel5r HK.out.c
  obtain ⟨t0, t1⟩ := zero_two ZT.out
  go_wp2_with fail
  refine (e18w _ _ HK.out).mono ?_
  rintro e v4 ⟨rfl, hb⟩
  replace HK := Lib.hid (HK.out.below hb)
  replace ZT := Lib.hid (zero_still hb ZT.out)
  clear hb q0 q1 q2 q3 q4 a0 a1 a2 a3 a4 b0 b1 b2 b3 b4 c0 c1 c2 c3 c4 t0 t1
  obtain ⟨q0, q1, q2, q3, q4⟩ := cel5r HK.out.q
  obtain ⟨a0, a1, a2, a3, a4⟩ := cel5r HK.out.a
  obtain ⟨b0, b1, b2, b3, b4⟩ := cel5r HK.out.b
  obtain ⟨c0, c1, c2, c3, c4⟩ := cel5r HK.out.c
  obtain ⟨t0, t1⟩ := zero_two ZT.out
  go_wp2_with fail
  refine (e18x _ _ HK.out).mono ?_
  rintro e v5 ⟨rfl, hb⟩
  replace HK := Lib.hid (HK.out.below hb)
  replace ZT := Lib.hid (zero_still hb ZT.out)
  clear hb q0 q1 q2 q3 q4 a0 a1 a2 a3 a4 b0 b1 b2 b3 b4 c0 c1 c2 c3 c4 t0 t1
  obtain ⟨q0, q1, q2, q3, q4⟩ := cel5r HK.out.q
  obtain ⟨a0, a1, a2, a3, a4⟩ := cel5r HK.out.a
  obtain ⟨b0, b1, b2, b3, b4⟩ := cel5r HK.out.b
  obtain ⟨c0, c1, c2, c3, c4⟩ := cel5r HK.out.c
  obtain ⟨t0, t1⟩ := zero_two ZT.out
  go_wp2_with fail
  refine (e18p _ _ HK.out).mono ?_
  rintro e v6 ⟨rfl, hb⟩
  replace HK := Lib.hid (HK.out.below hb)
  replace ZT := Lib.hid (zero_still hb ZT.out)
  clear hb q0 q1 q2 q3 q4 a0 a1 a2 a3 a4 b0 b1 b2 b3 b4 c0 c1 c2 c3 c4 t0 t1
  obtain ⟨q0, q1, q2, q3, q4⟩ := cel5r HK.out.q
  obtain ⟨a0, a1, a2, a3, a4⟩ := cel5r HK.out.a
  obtain ⟨b0, b1, b2, b3, b4⟩ := cel5r HK.out.b
  obtain ⟨c0, c1, c2, c3, c4⟩ := cel5r HK.out.c
  obtain ⟨t0, t1⟩ := zero_two ZT.out
  go_wp2_with fail
  refine (e18i _ _ HK.out).mono ?_
  rintro e v7 ⟨rfl, hb⟩
  replace HK := Lib.hid (HK.out.below hb)
  replace ZT := Lib.hid (zero_still hb ZT.out)
  clear hb q0 q1 q2 q3 q4 a0 a1 a2 a3 a4 b0 b1 b2 b3 b4 c0 c1 c2 c3 c4 t0 t1
  obtain ⟨q0, q1, q2, q3, q4⟩ := cel5r HK.out.q
  obtain ⟨a0, a1, a2, a3, a4⟩ := cel5r HK.out.a
  obtain ⟨b0, b1, b2, b3, b4⟩ := cel5r HK.out.b
  obtain ⟨c0, c1, c2, c3, c4⟩ := cel5r HK.out.c
  obtain ⟨t0, t1⟩ := zero_two ZT.out
  go_wp2_with fail
  refine (e18j _ _ HK.out).mono ?_
  rintro e v8 ⟨rfl, hb⟩
  replace HK := Lib.hid (HK.out.below hb)
  replace ZT := Lib.hid (zero_still hb ZT.out)
  clear hb q0 q1 q2 q3 q4 a0 a1 a2 a3 a4 b0 b1 b2 b3 b4 c0 c1 c2 c3 c4 t0 t1
  obtain ⟨q0, q1, q2, q3, q4⟩ := cel5r HK.out.q
  obtain ⟨a0, a1, a2, a3, a4⟩ := cel5r HK.out.a
  obtain ⟨b0, b1, b2, b3, b4⟩ := cel5r HK.out.b
  obtain ⟨c0, c1, c2, c3, c4⟩ := cel5r HK.out.c
  obtain ⟨t0, t1⟩ := zero_two ZT.out
  go_wp2_with fail
  go_ret
  exact ⟨rfl, HK.out.h⟩

end Go.Proofs.YtnembpklidcgoaaGreatDoor
end

/-
  What the rows' list of variables gives the walks of layer 18: the program's tables (line, life, date) and the library's.
-/
section
namespace Go.Proofs.YtnembpklidcgoaaGreatDoor
open Go.RowKit

theorem lPow_data : (Rows.laid_internal_strconv_uint64pow10 : DataW Unit) = Lib.tabData .u64 Lib.pow10Tab := by kernel_rfl
theorem reuTabs {W : World} (h : laidMetH Tryz.prog Rows.reuseTellsRow.laid W) : ReuTabs W := by
  rw [MakeChecks.laidMetH_plain _ _ _ (by kernel_rfl)] at h
  exact ⟨⟨⟨tab_in (n := 20) h (.tail _ (.tail _ (.head _))) lPow_data (g := 8) (by kernel_rfl) (t := 246) (by kernel_rfl) Tryz.underlying246 Tryz.underlying190 (by kernel_rfl) (by kernel_rfl),
    var_in h (.tail _ (.tail _ (.tail _ (.tail _ (.head _))))) (g := 4) (by kernel_rfl) (t := 186) (by kernel_rfl) (by kernel_rfl),
    var_in h (.tail _ (.tail _ (.tail _ (.tail _ (.tail _ (.head _)))))) (g := 3) (by kernel_rfl) (t := 184) (by kernel_rfl) (by kernel_rfl),
    var_in h (.tail _ (.tail _ (.tail _ (.tail _ (.tail _ (.tail _ (.head _))))))) (g := 2) (by kernel_rfl) (t := 130) (by kernel_rfl) (by kernel_rfl)⟩,
    var_in h (.tail _ (.tail _ (.tail _ (.tail _ (.tail _ (.tail _ (.tail _ (.head _)))))))) (g := 1) (by kernel_rfl) (t := 124) (by kernel_rfl) (by kernel_rfl)⟩,
    var_in h (.tail _ (.tail _ (.tail _ (.tail _ (.tail _ (.tail _ (.tail _ (.tail _ (.head _))))))))) (g := 0) (by kernel_rfl) (t := 101) (by kernel_rfl) (by kernel_rfl)⟩

end Go.Proofs.YtnembpklidcgoaaGreatDoor
end
