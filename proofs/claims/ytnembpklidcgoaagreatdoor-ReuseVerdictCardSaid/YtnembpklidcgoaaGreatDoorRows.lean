/-
  NARROWER THAN 'FOR EVERY INPUT', by the rows' own cells (each row's printed sentence says how): ReuseTells: laid · ReuseVerdict: laid · ReuseFresh: laid · ReuseShared: laid.
  DERIVED. THE GIVEN ROWS OF THIS SEAT. 4 by the template 'for every input the law returns true; each argument reads behind the call as it read before'; 0 by the template 'total and deterministic' (their statements: YtnembpklidcgoaaGreatDoorTotals.lean).
  GIVEN WITH THE SEED: the statements are not yours to turn. If you find one false, say at which input.
  Laid BY PROGRAM, IN A SANDBOX (cutbox-rows.mjs): the forced cells as the released guide's own fill.sh prints them over the translation 7c436de930e32a0d… (all of the seat's roots in one cut). By AI agents, Wed Nov 11 2026. No macro, syntax, notation, axiom, sorry.
-/
import Derived.Test.YtnembpklidcgoaaGreatDoorChecked
import GoSem.PinnedTables
import GoSem.Claim
import GoSem.ClaimJoined
import GoSem.ClaimMapViews
import Derived.JoinedTies
import Derived.KernelRfl
namespace Go.Proofs.YtnembpklidcgoaaGreatDoor
/- THE CELL 'sum', in the pinned program and in every row, IS THE sha256 OF THE DUMP (.gsa) THAT YtnembpklidcgoaaGreatDoorProg.lean LOADS. Nothing in Lean hashes anything: it is a label: what it is worth is what the hold of that sum in a sandbox is worth. -/
noncomputable def Tryz.pinned : Pinned := { name := "ytnembpklidcgoaagreatdoor", sum := "7c436de930e32a0da29ae7f800958e5ebf76973dd09014d8e7cff0bd23d0a011", checked := Tryz.checked }
namespace Rows
def none {H : Type} : Left H := { results := [], args := [] }

/- WHAT THE LISTED PACKAGE-LEVEL VARIABLES READ AS WHEN THE CALL BEGINS. Each datum BY PROGRAM (the guide's laid-datum.mjs) off the statement by which the dump's own 'gosem.cut.vars' lays the variable. In a bare row this is a premise. The card (YtnembpklidcgoaaGreatDoorCards.lean) ties it to the program's text. -/
def laid_math_bits_deBruijn32tab {H : Type} : DataW H := .agg [.lit (.int .u8 0), .lit (.int .u8 1), .lit (.int .u8 28), .lit (.int .u8 2), .lit (.int .u8 29), .lit (.int .u8 14), .lit (.int .u8 24), .lit (.int .u8 3), .lit (.int .u8 30), .lit (.int .u8 22), .lit (.int .u8 20), .lit (.int .u8 15), .lit (.int .u8 25), .lit (.int .u8 17), .lit (.int .u8 4), .lit (.int .u8 8), .lit (.int .u8 31), .lit (.int .u8 27), .lit (.int .u8 13), .lit (.int .u8 23), .lit (.int .u8 21), .lit (.int .u8 19), .lit (.int .u8 16), .lit (.int .u8 7), .lit (.int .u8 26), .lit (.int .u8 12), .lit (.int .u8 18), .lit (.int .u8 6), .lit (.int .u8 11), .lit (.int .u8 5), .lit (.int .u8 10), .lit (.int .u8 9)]
def laid_math_bits_deBruijn64tab {H : Type} : DataW H := .agg [.lit (.int .u8 0), .lit (.int .u8 1), .lit (.int .u8 56), .lit (.int .u8 2), .lit (.int .u8 57), .lit (.int .u8 49), .lit (.int .u8 28), .lit (.int .u8 3), .lit (.int .u8 61), .lit (.int .u8 58), .lit (.int .u8 42), .lit (.int .u8 50), .lit (.int .u8 38), .lit (.int .u8 29), .lit (.int .u8 17), .lit (.int .u8 4), .lit (.int .u8 62), .lit (.int .u8 47), .lit (.int .u8 59), .lit (.int .u8 36), .lit (.int .u8 45), .lit (.int .u8 43), .lit (.int .u8 51), .lit (.int .u8 22), .lit (.int .u8 53), .lit (.int .u8 39), .lit (.int .u8 33), .lit (.int .u8 30), .lit (.int .u8 24), .lit (.int .u8 18), .lit (.int .u8 12), .lit (.int .u8 5), .lit (.int .u8 63), .lit (.int .u8 55), .lit (.int .u8 48), .lit (.int .u8 27), .lit (.int .u8 60), .lit (.int .u8 41), .lit (.int .u8 37), .lit (.int .u8 16), .lit (.int .u8 46), .lit (.int .u8 35), .lit (.int .u8 44), .lit (.int .u8 21), .lit (.int .u8 52), .lit (.int .u8 32), .lit (.int .u8 23), .lit (.int .u8 11), .lit (.int .u8 54), .lit (.int .u8 26), .lit (.int .u8 40), .lit (.int .u8 15), .lit (.int .u8 34), .lit (.int .u8 20), .lit (.int .u8 31), .lit (.int .u8 10), .lit (.int .u8 25), .lit (.int .u8 14), .lit (.int .u8 19), .lit (.int .u8 9), .lit (.int .u8 13), .lit (.int .u8 8), .lit (.int .u8 7), .lit (.int .u8 6)]
def laid_internal_strconv_uint64pow10 {H : Type} : DataW H := .agg [.lit (.int .u64 1), .lit (.int .u64 10), .lit (.int .u64 100), .lit (.int .u64 1000), .lit (.int .u64 10000), .lit (.int .u64 100000), .lit (.int .u64 1000000), .lit (.int .u64 10000000), .lit (.int .u64 100000000), .lit (.int .u64 1000000000), .lit (.int .u64 10000000000), .lit (.int .u64 100000000000), .lit (.int .u64 1000000000000), .lit (.int .u64 10000000000000), .lit (.int .u64 100000000000000), .lit (.int .u64 1000000000000000), .lit (.int .u64 10000000000000000), .lit (.int .u64 100000000000000000), .lit (.int .u64 1000000000000000000), .lit (.int .u64 10000000000000000000)]
def laid_unicode_utf8_acceptRanges {H : Type} : DataW H := .agg [.agg [.lit (.int .u8 128), .lit (.int .u8 191)], .agg [.lit (.int .u8 160), .lit (.int .u8 191)], .agg [.lit (.int .u8 128), .lit (.int .u8 159)], .agg [.lit (.int .u8 144), .lit (.int .u8 191)], .agg [.lit (.int .u8 128), .lit (.int .u8 143)], .agg [.lit (.int .u8 0), .lit (.int .u8 0)], .agg [.lit (.int .u8 0), .lit (.int .u8 0)], .agg [.lit (.int .u8 0), .lit (.int .u8 0)], .agg [.lit (.int .u8 0), .lit (.int .u8 0)], .agg [.lit (.int .u8 0), .lit (.int .u8 0)], .agg [.lit (.int .u8 0), .lit (.int .u8 0)], .agg [.lit (.int .u8 0), .lit (.int .u8 0)], .agg [.lit (.int .u8 0), .lit (.int .u8 0)], .agg [.lit (.int .u8 0), .lit (.int .u8 0)], .agg [.lit (.int .u8 0), .lit (.int .u8 0)], .agg [.lit (.int .u8 0), .lit (.int .u8 0)]]
def laid_depot_date_weekdays {H : Type} : DataW H := .agg [.lit (.string [83, 117, 110, 100, 97, 121]), .lit (.string [77, 111, 110, 100, 97, 121]), .lit (.string [84, 117, 101, 115, 100, 97, 121]), .lit (.string [87, 101, 100, 110, 101, 115, 100, 97, 121]), .lit (.string [84, 104, 117, 114, 115, 100, 97, 121]), .lit (.string [70, 114, 105, 100, 97, 121]), .lit (.string [83, 97, 116, 117, 114, 100, 97, 121])]
def laid_depot_date_months {H : Type} : DataW H := .agg [.agg [.lit (.string [74, 97, 110]), .lit (.int .i64 31)], .agg [.lit (.string [70, 101, 98]), .lit (.int .i64 28)], .agg [.lit (.string [77, 97, 114]), .lit (.int .i64 31)], .agg [.lit (.string [65, 112, 114]), .lit (.int .i64 30)], .agg [.lit (.string [77, 97, 121]), .lit (.int .i64 31)], .agg [.lit (.string [74, 117, 110]), .lit (.int .i64 30)], .agg [.lit (.string [74, 117, 108]), .lit (.int .i64 31)], .agg [.lit (.string [65, 117, 103]), .lit (.int .i64 31)], .agg [.lit (.string [83, 101, 112]), .lit (.int .i64 30)], .agg [.lit (.string [79, 99, 116]), .lit (.int .i64 31)], .agg [.lit (.string [78, 111, 118]), .lit (.int .i64 30)], .agg [.lit (.string [68, 101, 99]), .lit (.int .i64 31)]]
def laid_depot_date_layouts {H : Type} : DataW H := .agg [.agg [.lit (.int .i64 24), .lit (.int .i64 0), .lit (.int .i64 3), .lit (.int .i64 7), .lit (.int .i64 4), .lit (.int .i64 12)], .agg [.lit (.int .i64 22), .lit (.int .i64 0), .lit (.int .i64 3), .lit (.int .i64 7), .lit (.int .i64 2), .lit (.int .i64 10)], .agg [.lit (.int .i64 20), .lit (.int .i64 4), .lit (.int .i64 0), .lit (.int .i64 16), .lit (.int .i64 4), .lit (.int .i64 7)]]
def laid_depot_life_usualCodes {H : Type} : DataW H := .agg [.lit (.int .i64 200), .lit (.int .i64 203), .lit (.int .i64 204), .lit (.int .i64 300), .lit (.int .i64 301), .lit (.int .i64 308), .lit (.int .i64 404), .lit (.int .i64 405), .lit (.int .i64 410), .lit (.int .i64 414), .lit (.int .i64 501)]
def laid_depot_line_safe {H : Type} : DataW H := .agg [.lit (.string [71, 69, 84]), .lit (.string [72, 69, 65, 68]), .lit (.string [79, 80, 84, 73, 79, 78, 83]), .lit (.string [84, 82, 65, 67, 69])]
/-- One of Go's own tables, pinned by name: the form's constant. -/
def laid_unicode_utf8_first : DataW Unit := Go.Pinned.utf8First

/-- 'depotlaw18.ReuseTells': WHATEVER THE INPUT: true; the input reads as it did. -/
def reuseTellsSpec : ChangeSpec := { name := "reuseTells", fn := fun _ => fun
  | [d1, d2, d3] => { results := [.lit (.bool true)], args := [d1, d2, d3] }
  | _ => none }
def reuseTellsRow : OpenClaim := { program := "ytnembpklidcgoaagreatdoor", sum := "7c436de930e32a0da29ae7f800958e5ebf76973dd09014d8e7cff0bd23d0a011", func := "depot/depotlaw18.ReuseTells", spec := "reuseTells", inPlace := ["internal/bytealg.IndexByteString", "internal/abi.NoEscape", "internal/bytealg.MakeNoZero", "internal/bytealg.IndexString"], unfollowed := true, recurses := true, named := ["depot/life.usualCodes", "depot/date.layouts", "unicode/utf8.first", "unicode/utf8.acceptRanges", "depot/date.months", "depot/date.weekdays", "internal/strconv.uint64pow10", "math/bits.deBruijn32tab", "math/bits.deBruijn64tab", "depot/line.safe", "internal/bytealg.MaxLen"], apart := false, laid := [("math/bits.deBruijn32tab", laid_math_bits_deBruijn32tab), ("math/bits.deBruijn64tab", laid_math_bits_deBruijn64tab), ("internal/strconv.uint64pow10", laid_internal_strconv_uint64pow10), ("unicode/utf8.acceptRanges", laid_unicode_utf8_acceptRanges), ("depot/date.weekdays", laid_depot_date_weekdays), ("depot/date.months", laid_depot_date_months), ("depot/date.layouts", laid_depot_date_layouts), ("depot/life.usualCodes", laid_depot_life_usualCodes), ("depot/line.safe", laid_depot_line_safe), ("unicode/utf8.first", laid_unicode_utf8_first)] }
def ReuseTellsSaid : Prop := reuseTellsRow.holds Tryz.pinned (OpenSpec.ofChange reuseTellsSpec)

/-- ITS FALSE NEIGHBOUR: 'it returns false'. Refute it at one input. -/
def reuseTellsWrong : ChangeSpec := { name := "reuseTells", fn := fun _ => fun
  | [d1, d2, d3] => { results := [.lit (.bool false)], args := [d1, d2, d3] }
  | _ => none }
def ReuseTellsWrongFalsely : Prop := reuseTellsRow.holds Tryz.pinned (OpenSpec.ofChange reuseTellsWrong)

/-- 'depotlaw18.ReuseVerdict': WHATEVER THE INPUT: true; the input reads as it did. -/
def reuseVerdictSpec : ChangeSpec := { name := "reuseVerdict", fn := fun _ => fun
  | [d1, d2, d3] => { results := [.lit (.bool true)], args := [d1, d2, d3] }
  | _ => none }
def reuseVerdictRow : OpenClaim := { program := "ytnembpklidcgoaagreatdoor", sum := "7c436de930e32a0da29ae7f800958e5ebf76973dd09014d8e7cff0bd23d0a011", func := "depot/depotlaw18.ReuseVerdict", spec := "reuseVerdict", inPlace := ["internal/bytealg.IndexByteString", "internal/abi.NoEscape", "internal/bytealg.MakeNoZero", "internal/bytealg.IndexString"], unfollowed := true, recurses := true, named := ["depot/life.usualCodes", "depot/date.layouts", "unicode/utf8.first", "unicode/utf8.acceptRanges", "depot/date.months", "depot/date.weekdays", "internal/strconv.uint64pow10", "math/bits.deBruijn32tab", "math/bits.deBruijn64tab", "depot/line.safe", "internal/bytealg.MaxLen"], apart := false, laid := [("math/bits.deBruijn32tab", laid_math_bits_deBruijn32tab), ("math/bits.deBruijn64tab", laid_math_bits_deBruijn64tab), ("internal/strconv.uint64pow10", laid_internal_strconv_uint64pow10), ("unicode/utf8.acceptRanges", laid_unicode_utf8_acceptRanges), ("depot/date.weekdays", laid_depot_date_weekdays), ("depot/date.months", laid_depot_date_months), ("depot/date.layouts", laid_depot_date_layouts), ("depot/life.usualCodes", laid_depot_life_usualCodes), ("depot/line.safe", laid_depot_line_safe), ("unicode/utf8.first", laid_unicode_utf8_first)] }
def ReuseVerdictSaid : Prop := reuseVerdictRow.holds Tryz.pinned (OpenSpec.ofChange reuseVerdictSpec)

/-- ITS FALSE NEIGHBOUR: 'it returns false'. Refute it at one input. -/
def reuseVerdictWrong : ChangeSpec := { name := "reuseVerdict", fn := fun _ => fun
  | [d1, d2, d3] => { results := [.lit (.bool false)], args := [d1, d2, d3] }
  | _ => none }
def ReuseVerdictWrongFalsely : Prop := reuseVerdictRow.holds Tryz.pinned (OpenSpec.ofChange reuseVerdictWrong)

/-- 'depotlaw18.ReuseFresh': WHATEVER THE INPUT: true; the input reads as it did. -/
def reuseFreshSpec : ChangeSpec := { name := "reuseFresh", fn := fun _ => fun
  | [d1, d2, d3, d4] => { results := [.lit (.bool true)], args := [d1, d2, d3, d4] }
  | _ => none }
def reuseFreshRow : OpenClaim := { program := "ytnembpklidcgoaagreatdoor", sum := "7c436de930e32a0da29ae7f800958e5ebf76973dd09014d8e7cff0bd23d0a011", func := "depot/depotlaw18.ReuseFresh", spec := "reuseFresh", inPlace := ["internal/bytealg.IndexByteString", "internal/abi.NoEscape", "internal/bytealg.MakeNoZero", "internal/bytealg.IndexString"], unfollowed := true, recurses := true, named := ["depot/life.usualCodes", "depot/date.layouts", "unicode/utf8.first", "unicode/utf8.acceptRanges", "depot/date.months", "depot/date.weekdays", "internal/strconv.uint64pow10", "math/bits.deBruijn32tab", "math/bits.deBruijn64tab", "depot/line.safe", "internal/bytealg.MaxLen"], apart := false, laid := [("math/bits.deBruijn32tab", laid_math_bits_deBruijn32tab), ("math/bits.deBruijn64tab", laid_math_bits_deBruijn64tab), ("internal/strconv.uint64pow10", laid_internal_strconv_uint64pow10), ("unicode/utf8.acceptRanges", laid_unicode_utf8_acceptRanges), ("depot/date.weekdays", laid_depot_date_weekdays), ("depot/date.months", laid_depot_date_months), ("depot/date.layouts", laid_depot_date_layouts), ("depot/life.usualCodes", laid_depot_life_usualCodes), ("depot/line.safe", laid_depot_line_safe), ("unicode/utf8.first", laid_unicode_utf8_first)] }
def ReuseFreshSaid : Prop := reuseFreshRow.holds Tryz.pinned (OpenSpec.ofChange reuseFreshSpec)

/-- ITS FALSE NEIGHBOUR: 'it returns false'. Refute it at one input. -/
def reuseFreshWrong : ChangeSpec := { name := "reuseFresh", fn := fun _ => fun
  | [d1, d2, d3, d4] => { results := [.lit (.bool false)], args := [d1, d2, d3, d4] }
  | _ => none }
def ReuseFreshWrongFalsely : Prop := reuseFreshRow.holds Tryz.pinned (OpenSpec.ofChange reuseFreshWrong)

/-- 'depotlaw18.ReuseShared': WHATEVER THE INPUT: true; the input reads as it did. -/
def reuseSharedSpec : ChangeSpec := { name := "reuseShared", fn := fun _ => fun
  | [d1, d2, d3] => { results := [.lit (.bool true)], args := [d1, d2, d3] }
  | _ => none }
def reuseSharedRow : OpenClaim := { program := "ytnembpklidcgoaagreatdoor", sum := "7c436de930e32a0da29ae7f800958e5ebf76973dd09014d8e7cff0bd23d0a011", func := "depot/depotlaw18.ReuseShared", spec := "reuseShared", inPlace := ["internal/bytealg.IndexByteString", "internal/abi.NoEscape", "internal/bytealg.MakeNoZero", "internal/bytealg.IndexString"], unfollowed := true, recurses := true, named := ["depot/life.usualCodes", "depot/date.layouts", "unicode/utf8.first", "unicode/utf8.acceptRanges", "depot/date.months", "depot/date.weekdays", "internal/strconv.uint64pow10", "math/bits.deBruijn32tab", "math/bits.deBruijn64tab", "depot/line.safe", "internal/bytealg.MaxLen"], apart := false, laid := [("math/bits.deBruijn32tab", laid_math_bits_deBruijn32tab), ("math/bits.deBruijn64tab", laid_math_bits_deBruijn64tab), ("internal/strconv.uint64pow10", laid_internal_strconv_uint64pow10), ("unicode/utf8.acceptRanges", laid_unicode_utf8_acceptRanges), ("depot/date.weekdays", laid_depot_date_weekdays), ("depot/date.months", laid_depot_date_months), ("depot/date.layouts", laid_depot_date_layouts), ("depot/life.usualCodes", laid_depot_life_usualCodes), ("depot/line.safe", laid_depot_line_safe), ("unicode/utf8.first", laid_unicode_utf8_first)] }
def ReuseSharedSaid : Prop := reuseSharedRow.holds Tryz.pinned (OpenSpec.ofChange reuseSharedSpec)

/-- ITS FALSE NEIGHBOUR: 'it returns false'. Refute it at one input. -/
def reuseSharedWrong : ChangeSpec := { name := "reuseShared", fn := fun _ => fun
  | [d1, d2, d3] => { results := [.lit (.bool false)], args := [d1, d2, d3] }
  | _ => none }
def ReuseSharedWrongFalsely : Prop := reuseSharedRow.holds Tryz.pinned (OpenSpec.ofChange reuseSharedWrong)

/- THE SECOND FORM. 'bulk': how many values and letters a reading holds, each counted each time it is reached (what is shared counts as often as it is met; a slice's spare places count too). A statement '..UptoSaid' is the law's where the arguments, and the package variables that the reading takes, are together of bulk at most 1048576: NARROWER than '..Said'. Prove '..Said' where nothing that the law and all that it calls make is longer than what came in: it says more and counts as full. Else prove '..UptoSaid'. A law counts once. -/
mutual
def uptoBulk {H : Type} : DataW H → Nat
  | .lit (.string bytes) => bytes.length + 1
  | .lit _ => 1
  | .nil => 1
  | .ptr d => uptoBulk d + 1
  | .slice elems spare => uptoBulkAll elems + uptoBulkAll spare + 1
  | .agg parts => uptoBulkAll parts + 1
  | .iface _ d => uptoBulk d + 1
  | .map entries => uptoBulkEntries entries + 1
  | .held _ => 1
def uptoBulkAll {H : Type} : List (DataW H) → Nat
  | [] => 0
  | d :: r => uptoBulk d + uptoBulkAll r
def uptoBulkEntries {H : Type} : List (Lit × DataW H) → Nat
  | [] => 0
  | x :: r => uptoBulkEntry x + uptoBulkEntries r
def uptoBulkEntry {H : Type} : Lit × DataW H → Nat
  | (.string bytes, d) => bytes.length + uptoBulk d + 1
  | (_, d) => uptoBulk d + 1
 end
def uptoSmall : (H : Type) → List (DataW H) → Bool := fun _ ds => decide (uptoBulkAll ds ≤ 1048576)
def OpenSpec.upto (s : _root_.Go.ChangeSpec) : _root_.Go.OpenSpec := { _root_.Go.OpenSpec.ofChange s with cond := some uptoSmall }

/-- 'depotlaw18.ReuseTells', WHERE WHAT IT READS IS OF BULK AT MOST 1048576: true; the input reads as it did. -/
def reuseTellsUptoRow : OpenClaim := { program := "ytnembpklidcgoaagreatdoor", sum := "7c436de930e32a0da29ae7f800958e5ebf76973dd09014d8e7cff0bd23d0a011", func := "depot/depotlaw18.ReuseTells", spec := "reuseTells", inPlace := ["internal/bytealg.IndexByteString", "internal/abi.NoEscape", "internal/bytealg.MakeNoZero", "internal/bytealg.IndexString"], unfollowed := true, recurses := true, named := ["depot/life.usualCodes", "depot/date.layouts", "unicode/utf8.first", "unicode/utf8.acceptRanges", "depot/date.months", "depot/date.weekdays", "internal/strconv.uint64pow10", "math/bits.deBruijn32tab", "math/bits.deBruijn64tab", "depot/line.safe", "internal/bytealg.MaxLen"], apart := false, laid := [("math/bits.deBruijn32tab", laid_math_bits_deBruijn32tab), ("math/bits.deBruijn64tab", laid_math_bits_deBruijn64tab), ("internal/strconv.uint64pow10", laid_internal_strconv_uint64pow10), ("unicode/utf8.acceptRanges", laid_unicode_utf8_acceptRanges), ("depot/date.weekdays", laid_depot_date_weekdays), ("depot/date.months", laid_depot_date_months), ("depot/date.layouts", laid_depot_date_layouts), ("depot/life.usualCodes", laid_depot_life_usualCodes), ("depot/line.safe", laid_depot_line_safe), ("unicode/utf8.first", laid_unicode_utf8_first)], narrowed := true }
def ReuseTellsUptoSaid : Prop := reuseTellsUptoRow.holds Tryz.pinned (OpenSpec.upto reuseTellsSpec)

/-- 'depotlaw18.ReuseVerdict', WHERE WHAT IT READS IS OF BULK AT MOST 1048576: true; the input reads as it did. -/
def reuseVerdictUptoRow : OpenClaim := { program := "ytnembpklidcgoaagreatdoor", sum := "7c436de930e32a0da29ae7f800958e5ebf76973dd09014d8e7cff0bd23d0a011", func := "depot/depotlaw18.ReuseVerdict", spec := "reuseVerdict", inPlace := ["internal/bytealg.IndexByteString", "internal/abi.NoEscape", "internal/bytealg.MakeNoZero", "internal/bytealg.IndexString"], unfollowed := true, recurses := true, named := ["depot/life.usualCodes", "depot/date.layouts", "unicode/utf8.first", "unicode/utf8.acceptRanges", "depot/date.months", "depot/date.weekdays", "internal/strconv.uint64pow10", "math/bits.deBruijn32tab", "math/bits.deBruijn64tab", "depot/line.safe", "internal/bytealg.MaxLen"], apart := false, laid := [("math/bits.deBruijn32tab", laid_math_bits_deBruijn32tab), ("math/bits.deBruijn64tab", laid_math_bits_deBruijn64tab), ("internal/strconv.uint64pow10", laid_internal_strconv_uint64pow10), ("unicode/utf8.acceptRanges", laid_unicode_utf8_acceptRanges), ("depot/date.weekdays", laid_depot_date_weekdays), ("depot/date.months", laid_depot_date_months), ("depot/date.layouts", laid_depot_date_layouts), ("depot/life.usualCodes", laid_depot_life_usualCodes), ("depot/line.safe", laid_depot_line_safe), ("unicode/utf8.first", laid_unicode_utf8_first)], narrowed := true }
def ReuseVerdictUptoSaid : Prop := reuseVerdictUptoRow.holds Tryz.pinned (OpenSpec.upto reuseVerdictSpec)

/-- 'depotlaw18.ReuseFresh', WHERE WHAT IT READS IS OF BULK AT MOST 1048576: true; the input reads as it did. -/
def reuseFreshUptoRow : OpenClaim := { program := "ytnembpklidcgoaagreatdoor", sum := "7c436de930e32a0da29ae7f800958e5ebf76973dd09014d8e7cff0bd23d0a011", func := "depot/depotlaw18.ReuseFresh", spec := "reuseFresh", inPlace := ["internal/bytealg.IndexByteString", "internal/abi.NoEscape", "internal/bytealg.MakeNoZero", "internal/bytealg.IndexString"], unfollowed := true, recurses := true, named := ["depot/life.usualCodes", "depot/date.layouts", "unicode/utf8.first", "unicode/utf8.acceptRanges", "depot/date.months", "depot/date.weekdays", "internal/strconv.uint64pow10", "math/bits.deBruijn32tab", "math/bits.deBruijn64tab", "depot/line.safe", "internal/bytealg.MaxLen"], apart := false, laid := [("math/bits.deBruijn32tab", laid_math_bits_deBruijn32tab), ("math/bits.deBruijn64tab", laid_math_bits_deBruijn64tab), ("internal/strconv.uint64pow10", laid_internal_strconv_uint64pow10), ("unicode/utf8.acceptRanges", laid_unicode_utf8_acceptRanges), ("depot/date.weekdays", laid_depot_date_weekdays), ("depot/date.months", laid_depot_date_months), ("depot/date.layouts", laid_depot_date_layouts), ("depot/life.usualCodes", laid_depot_life_usualCodes), ("depot/line.safe", laid_depot_line_safe), ("unicode/utf8.first", laid_unicode_utf8_first)], narrowed := true }
def ReuseFreshUptoSaid : Prop := reuseFreshUptoRow.holds Tryz.pinned (OpenSpec.upto reuseFreshSpec)

/-- 'depotlaw18.ReuseShared', WHERE WHAT IT READS IS OF BULK AT MOST 1048576: true; the input reads as it did. -/
def reuseSharedUptoRow : OpenClaim := { program := "ytnembpklidcgoaagreatdoor", sum := "7c436de930e32a0da29ae7f800958e5ebf76973dd09014d8e7cff0bd23d0a011", func := "depot/depotlaw18.ReuseShared", spec := "reuseShared", inPlace := ["internal/bytealg.IndexByteString", "internal/abi.NoEscape", "internal/bytealg.MakeNoZero", "internal/bytealg.IndexString"], unfollowed := true, recurses := true, named := ["depot/life.usualCodes", "depot/date.layouts", "unicode/utf8.first", "unicode/utf8.acceptRanges", "depot/date.months", "depot/date.weekdays", "internal/strconv.uint64pow10", "math/bits.deBruijn32tab", "math/bits.deBruijn64tab", "depot/line.safe", "internal/bytealg.MaxLen"], apart := false, laid := [("math/bits.deBruijn32tab", laid_math_bits_deBruijn32tab), ("math/bits.deBruijn64tab", laid_math_bits_deBruijn64tab), ("internal/strconv.uint64pow10", laid_internal_strconv_uint64pow10), ("unicode/utf8.acceptRanges", laid_unicode_utf8_acceptRanges), ("depot/date.weekdays", laid_depot_date_weekdays), ("depot/date.months", laid_depot_date_months), ("depot/date.layouts", laid_depot_date_layouts), ("depot/life.usualCodes", laid_depot_life_usualCodes), ("depot/line.safe", laid_depot_line_safe), ("unicode/utf8.first", laid_unicode_utf8_first)], narrowed := true }
def ReuseSharedUptoSaid : Prop := reuseSharedUptoRow.holds Tryz.pinned (OpenSpec.upto reuseSharedSpec)

end Rows
end Go.Proofs.YtnembpklidcgoaaGreatDoor
