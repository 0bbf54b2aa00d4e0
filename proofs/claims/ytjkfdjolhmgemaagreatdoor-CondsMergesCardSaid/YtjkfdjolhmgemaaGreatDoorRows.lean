/-
  NARROWER THAN 'FOR EVERY INPUT', by the rows' own cells (each row's printed sentence says how): CondsTells: laid · CondsMerges: laid · CondsAgain: laid · CondsTold: laid.
  DERIVED. THE GIVEN ROWS OF THIS SEAT. 4 by the template 'for every input the law returns true; each argument reads behind the call as it read before'; 0 by the template 'total and deterministic' (their statements: YtjkfdjolhmgemaaGreatDoorTotals.lean).
  GIVEN WITH THE SEED: the statements are not yours to turn. If you find one false, say at which input.
  Laid BY PROGRAM, IN A SANDBOX (cutbox-rows.mjs): the forced cells as the released guide's own fill.sh prints them over the translation 999c9c86161dbcc3… (all of the seat's roots in one cut). By AI agents, Wed Nov 11 2026. No macro, syntax, notation, axiom, sorry.
-/
import Derived.Test.YtjkfdjolhmgemaaGreatDoorChecked
import GoSem.PinnedTables
import GoSem.Claim
import GoSem.ClaimJoined
import GoSem.ClaimMapViews
import Derived.JoinedTies
import Derived.KernelRfl
namespace Go.Proofs.YtjkfdjolhmgemaaGreatDoor
/- THE CELL 'sum', in the pinned program and in every row, IS THE sha256 OF THE DUMP (.gsa) THAT YtjkfdjolhmgemaaGreatDoorProg.lean LOADS. Nothing in Lean hashes anything: it is a label: what it is worth is what the hold of that sum in a sandbox is worth. -/
noncomputable def Tryz.pinned : Pinned := { name := "ytjkfdjolhmgemaagreatdoor", sum := "999c9c86161dbcc3d9ebaa8fd90b9a2c06f4ee521fdeaa293b80741849f7b7a2", checked := Tryz.checked }
namespace Rows
def none {H : Type} : Left H := { results := [], args := [] }

/- WHAT THE LISTED PACKAGE-LEVEL VARIABLES READ AS WHEN THE CALL BEGINS. Each datum BY PROGRAM (the guide's laid-datum.mjs) off the statement by which the dump's own 'gosem.cut.vars' lays the variable. In a bare row this is a premise. The card (YtjkfdjolhmgemaaGreatDoorCards.lean) ties it to the program's text. -/
def laid_math_bits_deBruijn32tab {H : Type} : DataW H := .agg [.lit (.int .u8 0), .lit (.int .u8 1), .lit (.int .u8 28), .lit (.int .u8 2), .lit (.int .u8 29), .lit (.int .u8 14), .lit (.int .u8 24), .lit (.int .u8 3), .lit (.int .u8 30), .lit (.int .u8 22), .lit (.int .u8 20), .lit (.int .u8 15), .lit (.int .u8 25), .lit (.int .u8 17), .lit (.int .u8 4), .lit (.int .u8 8), .lit (.int .u8 31), .lit (.int .u8 27), .lit (.int .u8 13), .lit (.int .u8 23), .lit (.int .u8 21), .lit (.int .u8 19), .lit (.int .u8 16), .lit (.int .u8 7), .lit (.int .u8 26), .lit (.int .u8 12), .lit (.int .u8 18), .lit (.int .u8 6), .lit (.int .u8 11), .lit (.int .u8 5), .lit (.int .u8 10), .lit (.int .u8 9)]
def laid_math_bits_deBruijn64tab {H : Type} : DataW H := .agg [.lit (.int .u8 0), .lit (.int .u8 1), .lit (.int .u8 56), .lit (.int .u8 2), .lit (.int .u8 57), .lit (.int .u8 49), .lit (.int .u8 28), .lit (.int .u8 3), .lit (.int .u8 61), .lit (.int .u8 58), .lit (.int .u8 42), .lit (.int .u8 50), .lit (.int .u8 38), .lit (.int .u8 29), .lit (.int .u8 17), .lit (.int .u8 4), .lit (.int .u8 62), .lit (.int .u8 47), .lit (.int .u8 59), .lit (.int .u8 36), .lit (.int .u8 45), .lit (.int .u8 43), .lit (.int .u8 51), .lit (.int .u8 22), .lit (.int .u8 53), .lit (.int .u8 39), .lit (.int .u8 33), .lit (.int .u8 30), .lit (.int .u8 24), .lit (.int .u8 18), .lit (.int .u8 12), .lit (.int .u8 5), .lit (.int .u8 63), .lit (.int .u8 55), .lit (.int .u8 48), .lit (.int .u8 27), .lit (.int .u8 60), .lit (.int .u8 41), .lit (.int .u8 37), .lit (.int .u8 16), .lit (.int .u8 46), .lit (.int .u8 35), .lit (.int .u8 44), .lit (.int .u8 21), .lit (.int .u8 52), .lit (.int .u8 32), .lit (.int .u8 23), .lit (.int .u8 11), .lit (.int .u8 54), .lit (.int .u8 26), .lit (.int .u8 40), .lit (.int .u8 15), .lit (.int .u8 34), .lit (.int .u8 20), .lit (.int .u8 31), .lit (.int .u8 10), .lit (.int .u8 25), .lit (.int .u8 14), .lit (.int .u8 19), .lit (.int .u8 9), .lit (.int .u8 13), .lit (.int .u8 8), .lit (.int .u8 7), .lit (.int .u8 6)]
def laid_internal_strconv_uint64pow10 {H : Type} : DataW H := .agg [.lit (.int .u64 1), .lit (.int .u64 10), .lit (.int .u64 100), .lit (.int .u64 1000), .lit (.int .u64 10000), .lit (.int .u64 100000), .lit (.int .u64 1000000), .lit (.int .u64 10000000), .lit (.int .u64 100000000), .lit (.int .u64 1000000000), .lit (.int .u64 10000000000), .lit (.int .u64 100000000000), .lit (.int .u64 1000000000000), .lit (.int .u64 10000000000000), .lit (.int .u64 100000000000000), .lit (.int .u64 1000000000000000), .lit (.int .u64 10000000000000000), .lit (.int .u64 100000000000000000), .lit (.int .u64 1000000000000000000), .lit (.int .u64 10000000000000000000)]
def laid_unicode_utf8_acceptRanges {H : Type} : DataW H := .agg [.agg [.lit (.int .u8 128), .lit (.int .u8 191)], .agg [.lit (.int .u8 160), .lit (.int .u8 191)], .agg [.lit (.int .u8 128), .lit (.int .u8 159)], .agg [.lit (.int .u8 144), .lit (.int .u8 191)], .agg [.lit (.int .u8 128), .lit (.int .u8 143)], .agg [.lit (.int .u8 0), .lit (.int .u8 0)], .agg [.lit (.int .u8 0), .lit (.int .u8 0)], .agg [.lit (.int .u8 0), .lit (.int .u8 0)], .agg [.lit (.int .u8 0), .lit (.int .u8 0)], .agg [.lit (.int .u8 0), .lit (.int .u8 0)], .agg [.lit (.int .u8 0), .lit (.int .u8 0)], .agg [.lit (.int .u8 0), .lit (.int .u8 0)], .agg [.lit (.int .u8 0), .lit (.int .u8 0)], .agg [.lit (.int .u8 0), .lit (.int .u8 0)], .agg [.lit (.int .u8 0), .lit (.int .u8 0)], .agg [.lit (.int .u8 0), .lit (.int .u8 0)]]
def laid_depot_date_weekdays {H : Type} : DataW H := .agg [.lit (.string [83, 117, 110, 100, 97, 121]), .lit (.string [77, 111, 110, 100, 97, 121]), .lit (.string [84, 117, 101, 115, 100, 97, 121]), .lit (.string [87, 101, 100, 110, 101, 115, 100, 97, 121]), .lit (.string [84, 104, 117, 114, 115, 100, 97, 121]), .lit (.string [70, 114, 105, 100, 97, 121]), .lit (.string [83, 97, 116, 117, 114, 100, 97, 121])]
def laid_depot_date_months {H : Type} : DataW H := .agg [.agg [.lit (.string [74, 97, 110]), .lit (.int .i64 31)], .agg [.lit (.string [70, 101, 98]), .lit (.int .i64 28)], .agg [.lit (.string [77, 97, 114]), .lit (.int .i64 31)], .agg [.lit (.string [65, 112, 114]), .lit (.int .i64 30)], .agg [.lit (.string [77, 97, 121]), .lit (.int .i64 31)], .agg [.lit (.string [74, 117, 110]), .lit (.int .i64 30)], .agg [.lit (.string [74, 117, 108]), .lit (.int .i64 31)], .agg [.lit (.string [65, 117, 103]), .lit (.int .i64 31)], .agg [.lit (.string [83, 101, 112]), .lit (.int .i64 30)], .agg [.lit (.string [79, 99, 116]), .lit (.int .i64 31)], .agg [.lit (.string [78, 111, 118]), .lit (.int .i64 30)], .agg [.lit (.string [68, 101, 99]), .lit (.int .i64 31)]]
def laid_depot_date_layouts {H : Type} : DataW H := .agg [.agg [.lit (.int .i64 24), .lit (.int .i64 0), .lit (.int .i64 3), .lit (.int .i64 7), .lit (.int .i64 4), .lit (.int .i64 12)], .agg [.lit (.int .i64 22), .lit (.int .i64 0), .lit (.int .i64 3), .lit (.int .i64 7), .lit (.int .i64 2), .lit (.int .i64 10)], .agg [.lit (.int .i64 20), .lit (.int .i64 4), .lit (.int .i64 0), .lit (.int .i64 16), .lit (.int .i64 4), .lit (.int .i64 7)]]
def laid_depot_hops_hopNames {H : Type} : DataW H := .agg [.lit (.string [67, 111, 110, 110, 101, 99, 116, 105, 111, 110]), .lit (.string [75, 101, 101, 112, 45, 65, 108, 105, 118, 101]), .lit (.string [80, 114, 111, 120, 121, 45, 67, 111, 110, 110, 101, 99, 116, 105, 111, 110]), .lit (.string [80, 114, 111, 120, 121, 45, 65, 117, 116, 104, 101, 110, 116, 105, 99, 97, 116, 101]), .lit (.string [80, 114, 111, 120, 121, 45, 65, 117, 116, 104, 111, 114, 105, 122, 97, 116, 105, 111, 110]), .lit (.string [84, 69]), .lit (.string [84, 114, 97, 105, 108, 101, 114]), .lit (.string [84, 114, 97, 110, 115, 102, 101, 114, 45, 69, 110, 99, 111, 100, 105, 110, 103]), .lit (.string [85, 112, 103, 114, 97, 100, 101]), .lit (.string [67, 111, 110, 116, 101, 110, 116, 45, 76, 101, 110, 103, 116, 104])]
def laid_depot_line_reasons {H : Type} : DataW H := .agg [.agg [.lit (.int .i64 200), .lit (.string [79, 75])], .agg [.lit (.int .i64 304), .lit (.string [78, 111, 116, 32, 77, 111, 100, 105, 102, 105, 101, 100])], .agg [.lit (.int .i64 400), .lit (.string [66, 97, 100, 32, 82, 101, 113, 117, 101, 115, 116])], .agg [.lit (.int .i64 502), .lit (.string [66, 97, 100, 32, 71, 97, 116, 101, 119, 97, 121])], .agg [.lit (.int .i64 504), .lit (.string [71, 97, 116, 101, 119, 97, 121, 32, 84, 105, 109, 101, 111, 117, 116])]]
/-- One of Go's own tables, pinned by name: the form's constant. -/
def laid_unicode_utf8_first : DataW Unit := Go.Pinned.utf8First

/-- 'depotlaw19.CondsTells': WHATEVER THE INPUT: true; the input reads as it did. -/
def condsTellsSpec : ChangeSpec := { name := "condsTells", fn := fun _ => fun
  | [d1, d2] => { results := [.lit (.bool true)], args := [d1, d2] }
  | _ => none }
def condsTellsRow : OpenClaim := { program := "ytjkfdjolhmgemaagreatdoor", sum := "999c9c86161dbcc3d9ebaa8fd90b9a2c06f4ee521fdeaa293b80741849f7b7a2", func := "depot/depotlaw19.CondsTells", spec := "condsTells", inPlace := ["internal/bytealg.IndexByteString", "internal/bytealg.IndexString", "internal/abi.NoEscape", "internal/bytealg.MakeNoZero"], unfollowed := true, recurses := true, named := ["depot/line.reasons", "depot/date.layouts", "unicode/utf8.first", "unicode/utf8.acceptRanges", "depot/date.months", "depot/date.weekdays", "internal/strconv.uint64pow10", "math/bits.deBruijn32tab", "math/bits.deBruijn64tab", "depot/hops.hopNames", "internal/bytealg.MaxLen"], apart := false, laid := [("math/bits.deBruijn32tab", laid_math_bits_deBruijn32tab), ("math/bits.deBruijn64tab", laid_math_bits_deBruijn64tab), ("internal/strconv.uint64pow10", laid_internal_strconv_uint64pow10), ("unicode/utf8.acceptRanges", laid_unicode_utf8_acceptRanges), ("depot/date.weekdays", laid_depot_date_weekdays), ("depot/date.months", laid_depot_date_months), ("depot/date.layouts", laid_depot_date_layouts), ("depot/hops.hopNames", laid_depot_hops_hopNames), ("depot/line.reasons", laid_depot_line_reasons), ("unicode/utf8.first", laid_unicode_utf8_first)] }
def CondsTellsSaid : Prop := condsTellsRow.holds Tryz.pinned (OpenSpec.ofChange condsTellsSpec)

/-- ITS FALSE NEIGHBOUR: 'it returns false'. Refute it at one input. -/
def condsTellsWrong : ChangeSpec := { name := "condsTells", fn := fun _ => fun
  | [d1, d2] => { results := [.lit (.bool false)], args := [d1, d2] }
  | _ => none }
def CondsTellsWrongFalsely : Prop := condsTellsRow.holds Tryz.pinned (OpenSpec.ofChange condsTellsWrong)

/-- 'depotlaw19.CondsMerges': WHATEVER THE INPUT: true; the input reads as it did. -/
def condsMergesSpec : ChangeSpec := { name := "condsMerges", fn := fun _ => fun
  | [d1, d2, d3] => { results := [.lit (.bool true)], args := [d1, d2, d3] }
  | _ => none }
def condsMergesRow : OpenClaim := { program := "ytjkfdjolhmgemaagreatdoor", sum := "999c9c86161dbcc3d9ebaa8fd90b9a2c06f4ee521fdeaa293b80741849f7b7a2", func := "depot/depotlaw19.CondsMerges", spec := "condsMerges", inPlace := ["internal/bytealg.IndexByteString", "internal/bytealg.IndexString", "internal/abi.NoEscape", "internal/bytealg.MakeNoZero"], unfollowed := true, recurses := true, named := ["depot/line.reasons", "depot/date.layouts", "unicode/utf8.first", "unicode/utf8.acceptRanges", "depot/date.months", "depot/date.weekdays", "internal/strconv.uint64pow10", "math/bits.deBruijn32tab", "math/bits.deBruijn64tab", "depot/hops.hopNames", "internal/bytealg.MaxLen"], apart := false, laid := [("math/bits.deBruijn32tab", laid_math_bits_deBruijn32tab), ("math/bits.deBruijn64tab", laid_math_bits_deBruijn64tab), ("internal/strconv.uint64pow10", laid_internal_strconv_uint64pow10), ("unicode/utf8.acceptRanges", laid_unicode_utf8_acceptRanges), ("depot/date.weekdays", laid_depot_date_weekdays), ("depot/date.months", laid_depot_date_months), ("depot/date.layouts", laid_depot_date_layouts), ("depot/hops.hopNames", laid_depot_hops_hopNames), ("depot/line.reasons", laid_depot_line_reasons), ("unicode/utf8.first", laid_unicode_utf8_first)] }
def CondsMergesSaid : Prop := condsMergesRow.holds Tryz.pinned (OpenSpec.ofChange condsMergesSpec)

/-- ITS FALSE NEIGHBOUR: 'it returns false'. Refute it at one input. -/
def condsMergesWrong : ChangeSpec := { name := "condsMerges", fn := fun _ => fun
  | [d1, d2, d3] => { results := [.lit (.bool false)], args := [d1, d2, d3] }
  | _ => none }
def CondsMergesWrongFalsely : Prop := condsMergesRow.holds Tryz.pinned (OpenSpec.ofChange condsMergesWrong)

/-- 'depotlaw19.CondsAgain': WHATEVER THE INPUT: true; the input reads as it did. -/
def condsAgainSpec : ChangeSpec := { name := "condsAgain", fn := fun _ => fun
  | [d1, d2, d3, d4] => { results := [.lit (.bool true)], args := [d1, d2, d3, d4] }
  | _ => none }
def condsAgainRow : OpenClaim := { program := "ytjkfdjolhmgemaagreatdoor", sum := "999c9c86161dbcc3d9ebaa8fd90b9a2c06f4ee521fdeaa293b80741849f7b7a2", func := "depot/depotlaw19.CondsAgain", spec := "condsAgain", inPlace := ["internal/bytealg.IndexByteString", "internal/bytealg.IndexString", "internal/abi.NoEscape", "internal/bytealg.MakeNoZero"], unfollowed := true, recurses := true, named := ["depot/line.reasons", "depot/date.layouts", "unicode/utf8.first", "unicode/utf8.acceptRanges", "depot/date.months", "depot/date.weekdays", "internal/strconv.uint64pow10", "math/bits.deBruijn32tab", "math/bits.deBruijn64tab", "depot/hops.hopNames", "internal/bytealg.MaxLen"], apart := false, laid := [("math/bits.deBruijn32tab", laid_math_bits_deBruijn32tab), ("math/bits.deBruijn64tab", laid_math_bits_deBruijn64tab), ("internal/strconv.uint64pow10", laid_internal_strconv_uint64pow10), ("unicode/utf8.acceptRanges", laid_unicode_utf8_acceptRanges), ("depot/date.weekdays", laid_depot_date_weekdays), ("depot/date.months", laid_depot_date_months), ("depot/date.layouts", laid_depot_date_layouts), ("depot/hops.hopNames", laid_depot_hops_hopNames), ("depot/line.reasons", laid_depot_line_reasons), ("unicode/utf8.first", laid_unicode_utf8_first)] }
def CondsAgainSaid : Prop := condsAgainRow.holds Tryz.pinned (OpenSpec.ofChange condsAgainSpec)

/-- ITS FALSE NEIGHBOUR: 'it returns false'. Refute it at one input. -/
def condsAgainWrong : ChangeSpec := { name := "condsAgain", fn := fun _ => fun
  | [d1, d2, d3, d4] => { results := [.lit (.bool false)], args := [d1, d2, d3, d4] }
  | _ => none }
def CondsAgainWrongFalsely : Prop := condsAgainRow.holds Tryz.pinned (OpenSpec.ofChange condsAgainWrong)

/-- 'depotlaw19.CondsTold': WHATEVER THE INPUT: true; the input reads as it did. -/
def condsToldSpec : ChangeSpec := { name := "condsTold", fn := fun _ => fun
  | [d1, d2] => { results := [.lit (.bool true)], args := [d1, d2] }
  | _ => none }
def condsToldRow : OpenClaim := { program := "ytjkfdjolhmgemaagreatdoor", sum := "999c9c86161dbcc3d9ebaa8fd90b9a2c06f4ee521fdeaa293b80741849f7b7a2", func := "depot/depotlaw19.CondsTold", spec := "condsTold", inPlace := ["internal/bytealg.IndexByteString", "internal/bytealg.IndexString", "internal/abi.NoEscape", "internal/bytealg.MakeNoZero"], unfollowed := true, recurses := true, named := ["depot/line.reasons", "depot/date.layouts", "unicode/utf8.first", "unicode/utf8.acceptRanges", "depot/date.months", "depot/date.weekdays", "internal/strconv.uint64pow10", "math/bits.deBruijn32tab", "math/bits.deBruijn64tab", "depot/hops.hopNames", "internal/bytealg.MaxLen"], apart := false, laid := [("math/bits.deBruijn32tab", laid_math_bits_deBruijn32tab), ("math/bits.deBruijn64tab", laid_math_bits_deBruijn64tab), ("internal/strconv.uint64pow10", laid_internal_strconv_uint64pow10), ("unicode/utf8.acceptRanges", laid_unicode_utf8_acceptRanges), ("depot/date.weekdays", laid_depot_date_weekdays), ("depot/date.months", laid_depot_date_months), ("depot/date.layouts", laid_depot_date_layouts), ("depot/hops.hopNames", laid_depot_hops_hopNames), ("depot/line.reasons", laid_depot_line_reasons), ("unicode/utf8.first", laid_unicode_utf8_first)] }
def CondsToldSaid : Prop := condsToldRow.holds Tryz.pinned (OpenSpec.ofChange condsToldSpec)

/-- ITS FALSE NEIGHBOUR: 'it returns false'. Refute it at one input. -/
def condsToldWrong : ChangeSpec := { name := "condsTold", fn := fun _ => fun
  | [d1, d2] => { results := [.lit (.bool false)], args := [d1, d2] }
  | _ => none }
def CondsToldWrongFalsely : Prop := condsToldRow.holds Tryz.pinned (OpenSpec.ofChange condsToldWrong)

/- THE SECOND FORM. 'bulk': how many values and letters a reading holds, each counted each time it is reached (what is shared counts as often as it is met; a slice's spare places count too). A statement '..UptoSaid' is the law's where the arguments, and the package variables that the reading takes, are together of bulk at most 1048576: NARROWER than '..Said'. Prove '..Said' where nothing that the law and all that it calls make is longer than what came in: it says more and counts as full. Else prove '..UptoSaid'. A law counts once. -/
mutual
def uptoBulk {H : Type} : DataW H → Nat
  | .lit (.string bytes) => bytes.length + 1
  | .lit _ => 1
  | .nil => 1
  | .ptr d => uptoBulk d + 1
  | .slice elems spare => uptoBulkAll elems + uptoBulkAll spare + 1
  | .agg parts => uptoBulkAll parts + 1
  | .iface _ d => uptoBulk d + 1
  | .map entries => uptoBulkEntries entries + 1
  | .held _ => 1
def uptoBulkAll {H : Type} : List (DataW H) → Nat
  | [] => 0
  | d :: r => uptoBulk d + uptoBulkAll r
def uptoBulkEntries {H : Type} : List (Lit × DataW H) → Nat
  | [] => 0
  | x :: r => uptoBulkEntry x + uptoBulkEntries r
def uptoBulkEntry {H : Type} : Lit × DataW H → Nat
  | (.string bytes, d) => bytes.length + uptoBulk d + 1
  | (_, d) => uptoBulk d + 1
 end
def uptoSmall : (H : Type) → List (DataW H) → Bool := fun _ ds => decide (uptoBulkAll ds ≤ 1048576)
def OpenSpec.upto (s : _root_.Go.ChangeSpec) : _root_.Go.OpenSpec := { _root_.Go.OpenSpec.ofChange s with cond := some uptoSmall }

/-- 'depotlaw19.CondsTells', WHERE WHAT IT READS IS OF BULK AT MOST 1048576: true; the input reads as it did. -/
def condsTellsUptoRow : OpenClaim := { program := "ytjkfdjolhmgemaagreatdoor", sum := "999c9c86161dbcc3d9ebaa8fd90b9a2c06f4ee521fdeaa293b80741849f7b7a2", func := "depot/depotlaw19.CondsTells", spec := "condsTells", inPlace := ["internal/bytealg.IndexByteString", "internal/bytealg.IndexString", "internal/abi.NoEscape", "internal/bytealg.MakeNoZero"], unfollowed := true, recurses := true, named := ["depot/line.reasons", "depot/date.layouts", "unicode/utf8.first", "unicode/utf8.acceptRanges", "depot/date.months", "depot/date.weekdays", "internal/strconv.uint64pow10", "math/bits.deBruijn32tab", "math/bits.deBruijn64tab", "depot/hops.hopNames", "internal/bytealg.MaxLen"], apart := false, laid := [("math/bits.deBruijn32tab", laid_math_bits_deBruijn32tab), ("math/bits.deBruijn64tab", laid_math_bits_deBruijn64tab), ("internal/strconv.uint64pow10", laid_internal_strconv_uint64pow10), ("unicode/utf8.acceptRanges", laid_unicode_utf8_acceptRanges), ("depot/date.weekdays", laid_depot_date_weekdays), ("depot/date.months", laid_depot_date_months), ("depot/date.layouts", laid_depot_date_layouts), ("depot/hops.hopNames", laid_depot_hops_hopNames), ("depot/line.reasons", laid_depot_line_reasons), ("unicode/utf8.first", laid_unicode_utf8_first)], narrowed := true }
def CondsTellsUptoSaid : Prop := condsTellsUptoRow.holds Tryz.pinned (OpenSpec.upto condsTellsSpec)

/-- 'depotlaw19.CondsMerges', WHERE WHAT IT READS IS OF BULK AT MOST 1048576: true; the input reads as it did. -/
def condsMergesUptoRow : OpenClaim := { program := "ytjkfdjolhmgemaagreatdoor", sum := "999c9c86161dbcc3d9ebaa8fd90b9a2c06f4ee521fdeaa293b80741849f7b7a2", func := "depot/depotlaw19.CondsMerges", spec := "condsMerges", inPlace := ["internal/bytealg.IndexByteString", "internal/bytealg.IndexString", "internal/abi.NoEscape", "internal/bytealg.MakeNoZero"], unfollowed := true, recurses := true, named := ["depot/line.reasons", "depot/date.layouts", "unicode/utf8.first", "unicode/utf8.acceptRanges", "depot/date.months", "depot/date.weekdays", "internal/strconv.uint64pow10", "math/bits.deBruijn32tab", "math/bits.deBruijn64tab", "depot/hops.hopNames", "internal/bytealg.MaxLen"], apart := false, laid := [("math/bits.deBruijn32tab", laid_math_bits_deBruijn32tab), ("math/bits.deBruijn64tab", laid_math_bits_deBruijn64tab), ("internal/strconv.uint64pow10", laid_internal_strconv_uint64pow10), ("unicode/utf8.acceptRanges", laid_unicode_utf8_acceptRanges), ("depot/date.weekdays", laid_depot_date_weekdays), ("depot/date.months", laid_depot_date_months), ("depot/date.layouts", laid_depot_date_layouts), ("depot/hops.hopNames", laid_depot_hops_hopNames), ("depot/line.reasons", laid_depot_line_reasons), ("unicode/utf8.first", laid_unicode_utf8_first)], narrowed := true }
def CondsMergesUptoSaid : Prop := condsMergesUptoRow.holds Tryz.pinned (OpenSpec.upto condsMergesSpec)

/-- 'depotlaw19.CondsAgain', WHERE WHAT IT READS IS OF BULK AT MOST 1048576: true; the input reads as it did. -/
def condsAgainUptoRow : OpenClaim := { program := "ytjkfdjolhmgemaagreatdoor", sum := "999c9c86161dbcc3d9ebaa8fd90b9a2c06f4ee521fdeaa293b80741849f7b7a2", func := "depot/depotlaw19.CondsAgain", spec := "condsAgain", inPlace := ["internal/bytealg.IndexByteString", "internal/bytealg.IndexString", "internal/abi.NoEscape", "internal/bytealg.MakeNoZero"], unfollowed := true, recurses := true, named := ["depot/line.reasons", "depot/date.layouts", "unicode/utf8.first", "unicode/utf8.acceptRanges", "depot/date.months", "depot/date.weekdays", "internal/strconv.uint64pow10", "math/bits.deBruijn32tab", "math/bits.deBruijn64tab", "depot/hops.hopNames", "internal/bytealg.MaxLen"], apart := false, laid := [("math/bits.deBruijn32tab", laid_math_bits_deBruijn32tab), ("math/bits.deBruijn64tab", laid_math_bits_deBruijn64tab), ("internal/strconv.uint64pow10", laid_internal_strconv_uint64pow10), ("unicode/utf8.acceptRanges", laid_unicode_utf8_acceptRanges), ("depot/date.weekdays", laid_depot_date_weekdays), ("depot/date.months", laid_depot_date_months), ("depot/date.layouts", laid_depot_date_layouts), ("depot/hops.hopNames", laid_depot_hops_hopNames), ("depot/line.reasons", laid_depot_line_reasons), ("unicode/utf8.first", laid_unicode_utf8_first)], narrowed := true }
def CondsAgainUptoSaid : Prop := condsAgainUptoRow.holds Tryz.pinned (OpenSpec.upto condsAgainSpec)

/-- 'depotlaw19.CondsTold', WHERE WHAT IT READS IS OF BULK AT MOST 1048576: true; the input reads as it did. -/
def condsToldUptoRow : OpenClaim := { program := "ytjkfdjolhmgemaagreatdoor", sum := "999c9c86161dbcc3d9ebaa8fd90b9a2c06f4ee521fdeaa293b80741849f7b7a2", func := "depot/depotlaw19.CondsTold", spec := "condsTold", inPlace := ["internal/bytealg.IndexByteString", "internal/bytealg.IndexString", "internal/abi.NoEscape", "internal/bytealg.MakeNoZero"], unfollowed := true, recurses := true, named := ["depot/line.reasons", "depot/date.layouts", "unicode/utf8.first", "unicode/utf8.acceptRanges", "depot/date.months", "depot/date.weekdays", "internal/strconv.uint64pow10", "math/bits.deBruijn32tab", "math/bits.deBruijn64tab", "depot/hops.hopNames", "internal/bytealg.MaxLen"], apart := false, laid := [("math/bits.deBruijn32tab", laid_math_bits_deBruijn32tab), ("math/bits.deBruijn64tab", laid_math_bits_deBruijn64tab), ("internal/strconv.uint64pow10", laid_internal_strconv_uint64pow10), ("unicode/utf8.acceptRanges", laid_unicode_utf8_acceptRanges), ("depot/date.weekdays", laid_depot_date_weekdays), ("depot/date.months", laid_depot_date_months), ("depot/date.layouts", laid_depot_date_layouts), ("depot/hops.hopNames", laid_depot_hops_hopNames), ("depot/line.reasons", laid_depot_line_reasons), ("unicode/utf8.first", laid_unicode_utf8_first)], narrowed := true }
def CondsToldUptoSaid : Prop := condsToldUptoRow.holds Tryz.pinned (OpenSpec.upto condsToldSpec)

end Rows
end Go.Proofs.YtjkfdjolhmgemaaGreatDoor
