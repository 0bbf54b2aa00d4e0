/-
  No cell of these rows narrows 'for every input' (looked for: loops, veiled, ifaces, maps, wideKeys, modest, calm, conditions, laid).
  DERIVED. THE GIVEN ROWS OF THIS SEAT. 5 by the template 'for every input the law returns true; each argument reads behind the call as it read before'; 0 by the template 'total and deterministic' (their statements: YteiihnniodkjbaaTotals.lean).
  GIVEN WITH THE SEED: the statements are not yours to turn. If you find one false, say at which input.
  Laid BY PROGRAM, IN A SANDBOX (cutbox-rows.mjs): the forced cells as the released guide's own fill.sh prints them over the translation ae44ba380a7f5441… (all of the seat's roots in one cut). By AI agents, Wed Nov 11 2026. No macro, syntax, notation, axiom, sorry.
-/
import Derived.Test.YteiihnniodkjbaaChecked
import GoSem.Claim
import GoSem.ClaimJoined
import GoSem.ClaimMapViews
import Derived.JoinedTies
import Derived.KernelRfl
namespace Go.Proofs.Yteiihnniodkjbaa
/- THE CELL 'sum', in the pinned program and in every row, IS THE sha256 OF THE DUMP (.gsa) THAT YteiihnniodkjbaaProg.lean LOADS. Nothing in Lean hashes anything: it is a label: what it is worth is what the hold of that sum in a sandbox is worth. -/
noncomputable def Try.pinned : Pinned := { name := "yteiihnniodkjbaa", sum := "ae44ba380a7f54411664a90f9f77299dff7f1748d15487cd2890a5018f5e647c", checked := Try.checked }
namespace Rows
def none {H : Type} : Left H := { results := [], args := [] }

/-- 'depotlaw09.FieldsParses': WHATEVER THE INPUT: true; the input reads as it did. -/
def fieldsParsesSpec : ChangeSpec := { name := "fieldsParses", fn := fun _ => fun
  | [d1, d2] => { results := [.lit (.bool true)], args := [d1, d2] }
  | _ => none }
def fieldsParsesRow : OpenClaim := { program := "yteiihnniodkjbaa", sum := "ae44ba380a7f54411664a90f9f77299dff7f1748d15487cd2890a5018f5e647c", func := "depot/depotlaw09.FieldsParses", spec := "fieldsParses", inPlace := ["internal/bytealg.IndexByteString", "internal/abi.NoEscape", "internal/bytealg.MakeNoZero", "slices.overlaps[depot/api.Field]"], unfollowed := true, recurses := true, apart := false }
def FieldsParsesSaid : Prop := fieldsParsesRow.holds Try.pinned (OpenSpec.ofChange fieldsParsesSpec)

/-- ITS FALSE NEIGHBOUR: 'it returns false'. Refute it at one input. -/
def fieldsParsesWrong : ChangeSpec := { name := "fieldsParses", fn := fun _ => fun
  | [d1, d2] => { results := [.lit (.bool false)], args := [d1, d2] }
  | _ => none }
def FieldsParsesWrongFalsely : Prop := fieldsParsesRow.holds Try.pinned (OpenSpec.ofChange fieldsParsesWrong)

/-- 'depotlaw09.FieldsAsks': WHATEVER THE INPUT: true; the input reads as it did. -/
def fieldsAsksSpec : ChangeSpec := { name := "fieldsAsks", fn := fun _ => fun
  | [d1, d2, d3] => { results := [.lit (.bool true)], args := [d1, d2, d3] }
  | _ => none }
def fieldsAsksRow : OpenClaim := { program := "yteiihnniodkjbaa", sum := "ae44ba380a7f54411664a90f9f77299dff7f1748d15487cd2890a5018f5e647c", func := "depot/depotlaw09.FieldsAsks", spec := "fieldsAsks", inPlace := ["internal/bytealg.IndexByteString", "internal/abi.NoEscape", "internal/bytealg.MakeNoZero", "slices.overlaps[depot/api.Field]"], unfollowed := true, recurses := true, apart := false }
def FieldsAsksSaid : Prop := fieldsAsksRow.holds Try.pinned (OpenSpec.ofChange fieldsAsksSpec)

/-- ITS FALSE NEIGHBOUR: 'it returns false'. Refute it at one input. -/
def fieldsAsksWrong : ChangeSpec := { name := "fieldsAsks", fn := fun _ => fun
  | [d1, d2, d3] => { results := [.lit (.bool false)], args := [d1, d2, d3] }
  | _ => none }
def FieldsAsksWrongFalsely : Prop := fieldsAsksRow.holds Try.pinned (OpenSpec.ofChange fieldsAsksWrong)

/-- 'depotlaw09.FieldsTurns': WHATEVER THE INPUT: true; the input reads as it did. -/
def fieldsTurnsSpec : ChangeSpec := { name := "fieldsTurns", fn := fun _ => fun
  | [d1, d2, d3, d4] => { results := [.lit (.bool true)], args := [d1, d2, d3, d4] }
  | _ => none }
def fieldsTurnsRow : OpenClaim := { program := "yteiihnniodkjbaa", sum := "ae44ba380a7f54411664a90f9f77299dff7f1748d15487cd2890a5018f5e647c", func := "depot/depotlaw09.FieldsTurns", spec := "fieldsTurns", inPlace := ["internal/bytealg.IndexByteString", "internal/abi.NoEscape", "internal/bytealg.MakeNoZero", "slices.overlaps[depot/api.Field]"], unfollowed := true, recurses := true, apart := false }
def FieldsTurnsSaid : Prop := fieldsTurnsRow.holds Try.pinned (OpenSpec.ofChange fieldsTurnsSpec)

/-- ITS FALSE NEIGHBOUR: 'it returns false'. Refute it at one input. -/
def fieldsTurnsWrong : ChangeSpec := { name := "fieldsTurns", fn := fun _ => fun
  | [d1, d2, d3, d4] => { results := [.lit (.bool false)], args := [d1, d2, d3, d4] }
  | _ => none }
def FieldsTurnsWrongFalsely : Prop := fieldsTurnsRow.holds Try.pinned (OpenSpec.ofChange fieldsTurnsWrong)

/-- 'depotlaw09.FieldsBack': WHATEVER THE INPUT: true; the input reads as it did. -/
def fieldsBackSpec : ChangeSpec := { name := "fieldsBack", fn := fun _ => fun
  | [d1, d2] => { results := [.lit (.bool true)], args := [d1, d2] }
  | _ => none }
def fieldsBackRow : OpenClaim := { program := "yteiihnniodkjbaa", sum := "ae44ba380a7f54411664a90f9f77299dff7f1748d15487cd2890a5018f5e647c", func := "depot/depotlaw09.FieldsBack", spec := "fieldsBack", inPlace := ["internal/bytealg.IndexByteString", "internal/abi.NoEscape", "internal/bytealg.MakeNoZero", "slices.overlaps[depot/api.Field]"], unfollowed := true, recurses := true, apart := false }
def FieldsBackSaid : Prop := fieldsBackRow.holds Try.pinned (OpenSpec.ofChange fieldsBackSpec)

/-- ITS FALSE NEIGHBOUR: 'it returns false'. Refute it at one input. -/
def fieldsBackWrong : ChangeSpec := { name := "fieldsBack", fn := fun _ => fun
  | [d1, d2] => { results := [.lit (.bool false)], args := [d1, d2] }
  | _ => none }
def FieldsBackWrongFalsely : Prop := fieldsBackRow.holds Try.pinned (OpenSpec.ofChange fieldsBackWrong)

/-- 'depotlaw09.FieldsSets': WHATEVER THE INPUT: true; the input reads as it did. -/
def fieldsSetsSpec : ChangeSpec := { name := "fieldsSets", fn := fun _ => fun
  | [d1, d2, d3] => { results := [.lit (.bool true)], args := [d1, d2, d3] }
  | _ => none }
def fieldsSetsRow : OpenClaim := { program := "yteiihnniodkjbaa", sum := "ae44ba380a7f54411664a90f9f77299dff7f1748d15487cd2890a5018f5e647c", func := "depot/depotlaw09.FieldsSets", spec := "fieldsSets", inPlace := ["internal/bytealg.IndexByteString", "internal/abi.NoEscape", "internal/bytealg.MakeNoZero", "slices.overlaps[depot/api.Field]"], unfollowed := true, recurses := true, apart := false }
def FieldsSetsSaid : Prop := fieldsSetsRow.holds Try.pinned (OpenSpec.ofChange fieldsSetsSpec)

/-- ITS FALSE NEIGHBOUR: 'it returns false'. Refute it at one input. -/
def fieldsSetsWrong : ChangeSpec := { name := "fieldsSets", fn := fun _ => fun
  | [d1, d2, d3] => { results := [.lit (.bool false)], args := [d1, d2, d3] }
  | _ => none }
def FieldsSetsWrongFalsely : Prop := fieldsSetsRow.holds Try.pinned (OpenSpec.ofChange fieldsSetsWrong)

/- THE SECOND FORM. 'bulk': how many values and letters a reading holds, each counted each time it is reached (what is shared counts as often as it is met; a slice's spare places count too). A statement '..UptoSaid' is the law's where the arguments, and the package variables that the reading takes, are together of bulk at most 1048576: NARROWER than '..Said'. Prove '..Said' where nothing that the law and all that it calls make is longer than what came in: it says more and counts as full. Else prove '..UptoSaid'. A law counts once. -/
mutual
def uptoBulk {H : Type} : DataW H → Nat
  | .lit (.string bytes) => bytes.length + 1
  | .lit _ => 1
  | .nil => 1
  | .ptr d => uptoBulk d + 1
  | .slice elems spare => uptoBulkAll elems + uptoBulkAll spare + 1
  | .agg parts => uptoBulkAll parts + 1
  | .iface _ d => uptoBulk d + 1
  | .map entries => uptoBulkEntries entries + 1
  | .held _ => 1
def uptoBulkAll {H : Type} : List (DataW H) → Nat
  | [] => 0
  | d :: r => uptoBulk d + uptoBulkAll r
def uptoBulkEntries {H : Type} : List (Lit × DataW H) → Nat
  | [] => 0
  | x :: r => uptoBulkEntry x + uptoBulkEntries r
def uptoBulkEntry {H : Type} : Lit × DataW H → Nat
  | (.string bytes, d) => bytes.length + uptoBulk d + 1
  | (_, d) => uptoBulk d + 1
 end
def uptoSmall : (H : Type) → List (DataW H) → Bool := fun _ ds => decide (uptoBulkAll ds ≤ 1048576)
def OpenSpec.upto (s : _root_.Go.ChangeSpec) : _root_.Go.OpenSpec := { _root_.Go.OpenSpec.ofChange s with cond := some uptoSmall }

/-- 'depotlaw09.FieldsParses', WHERE WHAT IT READS IS OF BULK AT MOST 1048576: true; the input reads as it did. -/
def fieldsParsesUptoRow : OpenClaim := { program := "yteiihnniodkjbaa", sum := "ae44ba380a7f54411664a90f9f77299dff7f1748d15487cd2890a5018f5e647c", func := "depot/depotlaw09.FieldsParses", spec := "fieldsParses", inPlace := ["internal/bytealg.IndexByteString", "internal/abi.NoEscape", "internal/bytealg.MakeNoZero", "slices.overlaps[depot/api.Field]"], unfollowed := true, recurses := true, apart := false, narrowed := true }
def FieldsParsesUptoSaid : Prop := fieldsParsesUptoRow.holds Try.pinned (OpenSpec.upto fieldsParsesSpec)

/-- 'depotlaw09.FieldsAsks', WHERE WHAT IT READS IS OF BULK AT MOST 1048576: true; the input reads as it did. -/
def fieldsAsksUptoRow : OpenClaim := { program := "yteiihnniodkjbaa", sum := "ae44ba380a7f54411664a90f9f77299dff7f1748d15487cd2890a5018f5e647c", func := "depot/depotlaw09.FieldsAsks", spec := "fieldsAsks", inPlace := ["internal/bytealg.IndexByteString", "internal/abi.NoEscape", "internal/bytealg.MakeNoZero", "slices.overlaps[depot/api.Field]"], unfollowed := true, recurses := true, apart := false, narrowed := true }
def FieldsAsksUptoSaid : Prop := fieldsAsksUptoRow.holds Try.pinned (OpenSpec.upto fieldsAsksSpec)

/-- 'depotlaw09.FieldsTurns', WHERE WHAT IT READS IS OF BULK AT MOST 1048576: true; the input reads as it did. -/
def fieldsTurnsUptoRow : OpenClaim := { program := "yteiihnniodkjbaa", sum := "ae44ba380a7f54411664a90f9f77299dff7f1748d15487cd2890a5018f5e647c", func := "depot/depotlaw09.FieldsTurns", spec := "fieldsTurns", inPlace := ["internal/bytealg.IndexByteString", "internal/abi.NoEscape", "internal/bytealg.MakeNoZero", "slices.overlaps[depot/api.Field]"], unfollowed := true, recurses := true, apart := false, narrowed := true }
def FieldsTurnsUptoSaid : Prop := fieldsTurnsUptoRow.holds Try.pinned (OpenSpec.upto fieldsTurnsSpec)

/-- 'depotlaw09.FieldsBack', WHERE WHAT IT READS IS OF BULK AT MOST 1048576: true; the input reads as it did. -/
def fieldsBackUptoRow : OpenClaim := { program := "yteiihnniodkjbaa", sum := "ae44ba380a7f54411664a90f9f77299dff7f1748d15487cd2890a5018f5e647c", func := "depot/depotlaw09.FieldsBack", spec := "fieldsBack", inPlace := ["internal/bytealg.IndexByteString", "internal/abi.NoEscape", "internal/bytealg.MakeNoZero", "slices.overlaps[depot/api.Field]"], unfollowed := true, recurses := true, apart := false, narrowed := true }
def FieldsBackUptoSaid : Prop := fieldsBackUptoRow.holds Try.pinned (OpenSpec.upto fieldsBackSpec)

/-- 'depotlaw09.FieldsSets', WHERE WHAT IT READS IS OF BULK AT MOST 1048576: true; the input reads as it did. -/
def fieldsSetsUptoRow : OpenClaim := { program := "yteiihnniodkjbaa", sum := "ae44ba380a7f54411664a90f9f77299dff7f1748d15487cd2890a5018f5e647c", func := "depot/depotlaw09.FieldsSets", spec := "fieldsSets", inPlace := ["internal/bytealg.IndexByteString", "internal/abi.NoEscape", "internal/bytealg.MakeNoZero", "slices.overlaps[depot/api.Field]"], unfollowed := true, recurses := true, apart := false, narrowed := true }
def FieldsSetsUptoSaid : Prop := fieldsSetsUptoRow.holds Try.pinned (OpenSpec.upto fieldsSetsSpec)

end Rows
end Go.Proofs.Yteiihnniodkjbaa
