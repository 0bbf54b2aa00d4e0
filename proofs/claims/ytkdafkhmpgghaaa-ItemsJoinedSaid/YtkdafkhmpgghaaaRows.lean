/-
  No cell of these rows narrows 'for every input' (looked for: loops, veiled, ifaces, maps, wideKeys, modest, calm, conditions, laid).
  DERIVED. THE GIVEN ROWS OF THIS SEAT. 4 by the template 'for every input the law returns true; each argument reads behind the call as it read before'; 0 by the template 'total and deterministic' (their statements: YtkdafkhmpgghaaaTotals.lean).
  GIVEN WITH THE SEED: the statements are not yours to turn. If you find one false, say at which input.
  Laid BY PROGRAM, IN A SANDBOX (cutbox-rows.mjs): the forced cells as the released guide's own fill.sh prints them over the translation fcef1f23e97e2a6a… (all of the seat's roots in one cut). By AI agents, Wed Nov 11 2026. No macro, syntax, notation, axiom, sorry.
-/
import Derived.Test.YtkdafkhmpgghaaaChecked
import GoSem.Claim
import GoSem.ClaimJoined
import GoSem.ClaimMapViews
import Derived.JoinedTies
import Derived.KernelRfl
namespace Go.Proofs.Ytkdafkhmpgghaaa
/- THE CELL 'sum', in the pinned program and in every row, IS THE sha256 OF THE DUMP (.gsa) THAT YtkdafkhmpgghaaaProg.lean LOADS. Nothing in Lean hashes anything: it is a label: what it is worth is what the hold of that sum in a sandbox is worth. -/
noncomputable def Try.pinned : Pinned := { name := "ytkdafkhmpgghaaa", sum := "fcef1f23e97e2a6ab01963f68bf5b870bdcd207a6d1ab59d94f08adc6378b502", checked := Try.checked }
namespace Rows
def none {H : Type} : Left H := { results := [], args := [] }

/-- 'depotlaw06.ItemsSplits': WHATEVER THE INPUT: true; the input reads as it did. -/
def itemsSplitsSpec : ChangeSpec := { name := "itemsSplits", fn := fun _ => fun
  | [d1, d2] => { results := [.lit (.bool true)], args := [d1, d2] }
  | _ => none }
def itemsSplitsRow : OpenClaim := { program := "ytkdafkhmpgghaaa", sum := "fcef1f23e97e2a6ab01963f68bf5b870bdcd207a6d1ab59d94f08adc6378b502", func := "depot/depotlaw06.ItemsSplits", spec := "itemsSplits", inPlace := ["internal/bytealg.IndexByteString", "internal/abi.NoEscape", "internal/bytealg.MakeNoZero"], unfollowed := true, recurses := true, apart := false }
def ItemsSplitsSaid : Prop := itemsSplitsRow.holds Try.pinned (OpenSpec.ofChange itemsSplitsSpec)

/-- ITS FALSE NEIGHBOUR: 'it returns false'. Refute it at one input. -/
def itemsSplitsWrong : ChangeSpec := { name := "itemsSplits", fn := fun _ => fun
  | [d1, d2] => { results := [.lit (.bool false)], args := [d1, d2] }
  | _ => none }
def ItemsSplitsWrongFalsely : Prop := itemsSplitsRow.holds Try.pinned (OpenSpec.ofChange itemsSplitsWrong)

/-- 'depotlaw06.ItemsQuotes': WHATEVER THE INPUT: true; the input reads as it did. -/
def itemsQuotesSpec : ChangeSpec := { name := "itemsQuotes", fn := fun _ => fun
  | [d] => { results := [.lit (.bool true)], args := [d] }
  | _ => none }
def itemsQuotesRow : OpenClaim := { program := "ytkdafkhmpgghaaa", sum := "fcef1f23e97e2a6ab01963f68bf5b870bdcd207a6d1ab59d94f08adc6378b502", func := "depot/depotlaw06.ItemsQuotes", spec := "itemsQuotes", inPlace := ["internal/bytealg.IndexByteString", "internal/abi.NoEscape", "internal/bytealg.MakeNoZero"], unfollowed := true, recurses := true, apart := false }
def ItemsQuotesSaid : Prop := itemsQuotesRow.holds Try.pinned (OpenSpec.ofChange itemsQuotesSpec)

/-- ITS FALSE NEIGHBOUR: 'it returns false'. Refute it at one input. -/
def itemsQuotesWrong : ChangeSpec := { name := "itemsQuotes", fn := fun _ => fun
  | [d] => { results := [.lit (.bool false)], args := [d] }
  | _ => none }
def ItemsQuotesWrongFalsely : Prop := itemsQuotesRow.holds Try.pinned (OpenSpec.ofChange itemsQuotesWrong)

/-- 'depotlaw06.ItemsBack': WHATEVER THE INPUT: true; the input reads as it did. -/
def itemsBackSpec : ChangeSpec := { name := "itemsBack", fn := fun _ => fun
  | [d1, d2] => { results := [.lit (.bool true)], args := [d1, d2] }
  | _ => none }
def itemsBackRow : OpenClaim := { program := "ytkdafkhmpgghaaa", sum := "fcef1f23e97e2a6ab01963f68bf5b870bdcd207a6d1ab59d94f08adc6378b502", func := "depot/depotlaw06.ItemsBack", spec := "itemsBack", inPlace := ["internal/bytealg.IndexByteString", "internal/abi.NoEscape", "internal/bytealg.MakeNoZero"], unfollowed := true, recurses := true, apart := false }
def ItemsBackSaid : Prop := itemsBackRow.holds Try.pinned (OpenSpec.ofChange itemsBackSpec)

/-- ITS FALSE NEIGHBOUR: 'it returns false'. Refute it at one input. -/
def itemsBackWrong : ChangeSpec := { name := "itemsBack", fn := fun _ => fun
  | [d1, d2] => { results := [.lit (.bool false)], args := [d1, d2] }
  | _ => none }
def ItemsBackWrongFalsely : Prop := itemsBackRow.holds Try.pinned (OpenSpec.ofChange itemsBackWrong)

/-- 'depotlaw06.ItemsJoined': WHATEVER THE INPUT: true; the input reads as it did. -/
def itemsJoinedSpec : ChangeSpec := { name := "itemsJoined", fn := fun _ => fun
  | [d1, d2] => { results := [.lit (.bool true)], args := [d1, d2] }
  | _ => none }
def itemsJoinedRow : OpenClaim := { program := "ytkdafkhmpgghaaa", sum := "fcef1f23e97e2a6ab01963f68bf5b870bdcd207a6d1ab59d94f08adc6378b502", func := "depot/depotlaw06.ItemsJoined", spec := "itemsJoined", inPlace := ["internal/bytealg.IndexByteString", "internal/abi.NoEscape", "internal/bytealg.MakeNoZero"], unfollowed := true, recurses := true, apart := false }
def ItemsJoinedSaid : Prop := itemsJoinedRow.holds Try.pinned (OpenSpec.ofChange itemsJoinedSpec)

/-- ITS FALSE NEIGHBOUR: 'it returns false'. Refute it at one input. -/
def itemsJoinedWrong : ChangeSpec := { name := "itemsJoined", fn := fun _ => fun
  | [d1, d2] => { results := [.lit (.bool false)], args := [d1, d2] }
  | _ => none }
def ItemsJoinedWrongFalsely : Prop := itemsJoinedRow.holds Try.pinned (OpenSpec.ofChange itemsJoinedWrong)

/- THE SECOND FORM. 'bulk': how many values and letters a reading holds, each counted each time it is reached (what is shared counts as often as it is met; a slice's spare places count too). A statement '..UptoSaid' is the law's where the arguments, and the package variables that the reading takes, are together of bulk at most 1048576: NARROWER than '..Said'. Prove '..Said' where nothing that the law and all that it calls make is longer than what came in: it says more and counts as full. Else prove '..UptoSaid'. A law counts once. -/
mutual
def uptoBulk {H : Type} : DataW H → Nat
  | .lit (.string bytes) => bytes.length + 1
  | .lit _ => 1
  | .nil => 1
  | .ptr d => uptoBulk d + 1
  | .slice elems spare => uptoBulkAll elems + uptoBulkAll spare + 1
  | .agg parts => uptoBulkAll parts + 1
  | .iface _ d => uptoBulk d + 1
  | .map entries => uptoBulkEntries entries + 1
  | .held _ => 1
def uptoBulkAll {H : Type} : List (DataW H) → Nat
  | [] => 0
  | d :: r => uptoBulk d + uptoBulkAll r
def uptoBulkEntries {H : Type} : List (Lit × DataW H) → Nat
  | [] => 0
  | x :: r => uptoBulkEntry x + uptoBulkEntries r
def uptoBulkEntry {H : Type} : Lit × DataW H → Nat
  | (.string bytes, d) => bytes.length + uptoBulk d + 1
  | (_, d) => uptoBulk d + 1
 end
def uptoSmall : (H : Type) → List (DataW H) → Bool := fun _ ds => decide (uptoBulkAll ds ≤ 1048576)
def OpenSpec.upto (s : _root_.Go.ChangeSpec) : _root_.Go.OpenSpec := { _root_.Go.OpenSpec.ofChange s with cond := some uptoSmall }

/-- 'depotlaw06.ItemsSplits', WHERE WHAT IT READS IS OF BULK AT MOST 1048576: true; the input reads as it did. -/
def itemsSplitsUptoRow : OpenClaim := { program := "ytkdafkhmpgghaaa", sum := "fcef1f23e97e2a6ab01963f68bf5b870bdcd207a6d1ab59d94f08adc6378b502", func := "depot/depotlaw06.ItemsSplits", spec := "itemsSplits", inPlace := ["internal/bytealg.IndexByteString", "internal/abi.NoEscape", "internal/bytealg.MakeNoZero"], unfollowed := true, recurses := true, apart := false, narrowed := true }
def ItemsSplitsUptoSaid : Prop := itemsSplitsUptoRow.holds Try.pinned (OpenSpec.upto itemsSplitsSpec)

/-- 'depotlaw06.ItemsQuotes', WHERE WHAT IT READS IS OF BULK AT MOST 1048576: true; the input reads as it did. -/
def itemsQuotesUptoRow : OpenClaim := { program := "ytkdafkhmpgghaaa", sum := "fcef1f23e97e2a6ab01963f68bf5b870bdcd207a6d1ab59d94f08adc6378b502", func := "depot/depotlaw06.ItemsQuotes", spec := "itemsQuotes", inPlace := ["internal/bytealg.IndexByteString", "internal/abi.NoEscape", "internal/bytealg.MakeNoZero"], unfollowed := true, recurses := true, apart := false, narrowed := true }
def ItemsQuotesUptoSaid : Prop := itemsQuotesUptoRow.holds Try.pinned (OpenSpec.upto itemsQuotesSpec)

/-- 'depotlaw06.ItemsBack', WHERE WHAT IT READS IS OF BULK AT MOST 1048576: true; the input reads as it did. -/
def itemsBackUptoRow : OpenClaim := { program := "ytkdafkhmpgghaaa", sum := "fcef1f23e97e2a6ab01963f68bf5b870bdcd207a6d1ab59d94f08adc6378b502", func := "depot/depotlaw06.ItemsBack", spec := "itemsBack", inPlace := ["internal/bytealg.IndexByteString", "internal/abi.NoEscape", "internal/bytealg.MakeNoZero"], unfollowed := true, recurses := true, apart := false, narrowed := true }
def ItemsBackUptoSaid : Prop := itemsBackUptoRow.holds Try.pinned (OpenSpec.upto itemsBackSpec)

/-- 'depotlaw06.ItemsJoined', WHERE WHAT IT READS IS OF BULK AT MOST 1048576: true; the input reads as it did. -/
def itemsJoinedUptoRow : OpenClaim := { program := "ytkdafkhmpgghaaa", sum := "fcef1f23e97e2a6ab01963f68bf5b870bdcd207a6d1ab59d94f08adc6378b502", func := "depot/depotlaw06.ItemsJoined", spec := "itemsJoined", inPlace := ["internal/bytealg.IndexByteString", "internal/abi.NoEscape", "internal/bytealg.MakeNoZero"], unfollowed := true, recurses := true, apart := false, narrowed := true }
def ItemsJoinedUptoSaid : Prop := itemsJoinedUptoRow.holds Try.pinned (OpenSpec.upto itemsJoinedSpec)

end Rows
end Go.Proofs.Ytkdafkhmpgghaaa
