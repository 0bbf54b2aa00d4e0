/-
  NARROWER THAN 'FOR EVERY INPUT', by the rows' own cells (each row's printed sentence says how): HopsStrips: laid · HopsAgain: laid · HopsMore: laid.
  DERIVED. THE GIVEN ROWS OF THIS SEAT. 3 by the template 'for every input the law returns true; each argument reads behind the call as it read before'; 0 by the template 'total and deterministic' (their statements: YtmkjjidilfhojaaDoorTotals.lean).
  GIVEN WITH THE SEED: the statements are not yours to turn. If you find one false, say at which input.
  Laid BY PROGRAM, IN A SANDBOX (cutbox-rows.mjs): the forced cells as the released guide's own fill.sh prints them over the translation 7652d6be859a1d25… (all of the seat's roots in one cut). By AI agents, Wed Nov 11 2026. No macro, syntax, notation, axiom, sorry.
-/
import Derived.Test.YtmkjjidilfhojaaDoorChecked
import GoSem.Claim
import GoSem.ClaimJoined
import GoSem.ClaimMapViews
import Derived.JoinedTies
import Derived.KernelRfl
namespace Go.Proofs.YtmkjjidilfhojaaDoor
/- THE CELL 'sum', in the pinned program and in every row, IS THE sha256 OF THE DUMP (.gsa) THAT YtmkjjidilfhojaaDoorProg.lean LOADS. Nothing in Lean hashes anything: it is a label: what it is worth is what the hold of that sum in a sandbox is worth. -/
noncomputable def Tryd.pinned : Pinned := { name := "ytmkjjidilfhojaadoor", sum := "7652d6be859a1d25c200166f222fbbe3b367615ba1c8f5ff26c9d336d64bd3fb", checked := Tryd.checked }
namespace Rows
def none {H : Type} : Left H := { results := [], args := [] }

/- WHAT THE LISTED PACKAGE-LEVEL VARIABLES READ AS WHEN THE CALL BEGINS. Each datum BY PROGRAM (the guide's laid-datum.mjs) off the statement by which the dump's own 'gosem.cut.vars' lays the variable. In a bare row this is a premise. The card (YtmkjjidilfhojaaDoorCards.lean) ties it to the program's text. -/
def laid_depot_hops_hopNames {H : Type} : DataW H := .agg [.lit (.string [67, 111, 110, 110, 101, 99, 116, 105, 111, 110]), .lit (.string [75, 101, 101, 112, 45, 65, 108, 105, 118, 101]), .lit (.string [80, 114, 111, 120, 121, 45, 67, 111, 110, 110, 101, 99, 116, 105, 111, 110]), .lit (.string [80, 114, 111, 120, 121, 45, 65, 117, 116, 104, 101, 110, 116, 105, 99, 97, 116, 101]), .lit (.string [80, 114, 111, 120, 121, 45, 65, 117, 116, 104, 111, 114, 105, 122, 97, 116, 105, 111, 110]), .lit (.string [84, 69]), .lit (.string [84, 114, 97, 105, 108, 101, 114]), .lit (.string [84, 114, 97, 110, 115, 102, 101, 114, 45, 69, 110, 99, 111, 100, 105, 110, 103]), .lit (.string [85, 112, 103, 114, 97, 100, 101]), .lit (.string [67, 111, 110, 116, 101, 110, 116, 45, 76, 101, 110, 103, 116, 104])]

/-- 'depotlaw16.HopsStrips': WHATEVER THE INPUT: true; the input reads as it did. -/
def hopsStripsSpec : ChangeSpec := { name := "hopsStrips", fn := fun _ => fun
  | [d1, d2] => { results := [.lit (.bool true)], args := [d1, d2] }
  | _ => none }
def hopsStripsRow : OpenClaim := { program := "ytmkjjidilfhojaadoor", sum := "7652d6be859a1d25c200166f222fbbe3b367615ba1c8f5ff26c9d336d64bd3fb", func := "depot/depotlaw16.HopsStrips", spec := "hopsStrips", inPlace := ["internal/bytealg.IndexByteString"], unfollowed := true, recurses := true, named := ["depot/hops.hopNames"], apart := false, laid := [("depot/hops.hopNames", laid_depot_hops_hopNames)] }
def HopsStripsSaid : Prop := hopsStripsRow.holds Tryd.pinned (OpenSpec.ofChange hopsStripsSpec)

/-- ITS FALSE NEIGHBOUR: 'it returns false'. Refute it at one input. -/
def hopsStripsWrong : ChangeSpec := { name := "hopsStrips", fn := fun _ => fun
  | [d1, d2] => { results := [.lit (.bool false)], args := [d1, d2] }
  | _ => none }
def HopsStripsWrongFalsely : Prop := hopsStripsRow.holds Tryd.pinned (OpenSpec.ofChange hopsStripsWrong)

/-- 'depotlaw16.HopsAgain': WHATEVER THE INPUT: true; the input reads as it did. -/
def hopsAgainSpec : ChangeSpec := { name := "hopsAgain", fn := fun _ => fun
  | [d] => { results := [.lit (.bool true)], args := [d] }
  | _ => none }
def hopsAgainRow : OpenClaim := { program := "ytmkjjidilfhojaadoor", sum := "7652d6be859a1d25c200166f222fbbe3b367615ba1c8f5ff26c9d336d64bd3fb", func := "depot/depotlaw16.HopsAgain", spec := "hopsAgain", inPlace := ["internal/bytealg.IndexByteString"], unfollowed := true, recurses := true, named := ["depot/hops.hopNames"], apart := false, laid := [("depot/hops.hopNames", laid_depot_hops_hopNames)] }
def HopsAgainSaid : Prop := hopsAgainRow.holds Tryd.pinned (OpenSpec.ofChange hopsAgainSpec)

/-- ITS FALSE NEIGHBOUR: 'it returns false'. Refute it at one input. -/
def hopsAgainWrong : ChangeSpec := { name := "hopsAgain", fn := fun _ => fun
  | [d] => { results := [.lit (.bool false)], args := [d] }
  | _ => none }
def HopsAgainWrongFalsely : Prop := hopsAgainRow.holds Tryd.pinned (OpenSpec.ofChange hopsAgainWrong)

/-- 'depotlaw16.HopsMore': WHATEVER THE INPUT: true; the input reads as it did. -/
def hopsMoreSpec : ChangeSpec := { name := "hopsMore", fn := fun _ => fun
  | [d1, d2] => { results := [.lit (.bool true)], args := [d1, d2] }
  | _ => none }
def hopsMoreRow : OpenClaim := { program := "ytmkjjidilfhojaadoor", sum := "7652d6be859a1d25c200166f222fbbe3b367615ba1c8f5ff26c9d336d64bd3fb", func := "depot/depotlaw16.HopsMore", spec := "hopsMore", inPlace := ["internal/bytealg.IndexByteString"], unfollowed := true, recurses := true, named := ["depot/hops.hopNames"], apart := false, laid := [("depot/hops.hopNames", laid_depot_hops_hopNames)] }
def HopsMoreSaid : Prop := hopsMoreRow.holds Tryd.pinned (OpenSpec.ofChange hopsMoreSpec)

/-- ITS FALSE NEIGHBOUR: 'it returns false'. Refute it at one input. -/
def hopsMoreWrong : ChangeSpec := { name := "hopsMore", fn := fun _ => fun
  | [d1, d2] => { results := [.lit (.bool false)], args := [d1, d2] }
  | _ => none }
def HopsMoreWrongFalsely : Prop := hopsMoreRow.holds Tryd.pinned (OpenSpec.ofChange hopsMoreWrong)

/- THE SECOND FORM. 'bulk': how many values and letters a reading holds, each counted each time it is reached (what is shared counts as often as it is met; a slice's spare places count too). A statement '..UptoSaid' is the law's where the arguments, and the package variables that the reading takes, are together of bulk at most 1048576: NARROWER than '..Said'. Prove '..Said' where nothing that the law and all that it calls make is longer than what came in: it says more and counts as full. Else prove '..UptoSaid'. A law counts once. -/
mutual
def uptoBulk {H : Type} : DataW H → Nat
  | .lit (.string bytes) => bytes.length + 1
  | .lit _ => 1
  | .nil => 1
  | .ptr d => uptoBulk d + 1
  | .slice elems spare => uptoBulkAll elems + uptoBulkAll spare + 1
  | .agg parts => uptoBulkAll parts + 1
  | .iface _ d => uptoBulk d + 1
  | .map entries => uptoBulkEntries entries + 1
  | .held _ => 1
def uptoBulkAll {H : Type} : List (DataW H) → Nat
  | [] => 0
  | d :: r => uptoBulk d + uptoBulkAll r
def uptoBulkEntries {H : Type} : List (Lit × DataW H) → Nat
  | [] => 0
  | x :: r => uptoBulkEntry x + uptoBulkEntries r
def uptoBulkEntry {H : Type} : Lit × DataW H → Nat
  | (.string bytes, d) => bytes.length + uptoBulk d + 1
  | (_, d) => uptoBulk d + 1
 end
def uptoSmall : (H : Type) → List (DataW H) → Bool := fun _ ds => decide (uptoBulkAll ds ≤ 1048576)
def OpenSpec.upto (s : _root_.Go.ChangeSpec) : _root_.Go.OpenSpec := { _root_.Go.OpenSpec.ofChange s with cond := some uptoSmall }

/-- 'depotlaw16.HopsStrips', WHERE WHAT IT READS IS OF BULK AT MOST 1048576: true; the input reads as it did. -/
def hopsStripsUptoRow : OpenClaim := { program := "ytmkjjidilfhojaadoor", sum := "7652d6be859a1d25c200166f222fbbe3b367615ba1c8f5ff26c9d336d64bd3fb", func := "depot/depotlaw16.HopsStrips", spec := "hopsStrips", inPlace := ["internal/bytealg.IndexByteString"], unfollowed := true, recurses := true, named := ["depot/hops.hopNames"], apart := false, laid := [("depot/hops.hopNames", laid_depot_hops_hopNames)], narrowed := true }
def HopsStripsUptoSaid : Prop := hopsStripsUptoRow.holds Tryd.pinned (OpenSpec.upto hopsStripsSpec)

/-- 'depotlaw16.HopsAgain', WHERE WHAT IT READS IS OF BULK AT MOST 1048576: true; the input reads as it did. -/
def hopsAgainUptoRow : OpenClaim := { program := "ytmkjjidilfhojaadoor", sum := "7652d6be859a1d25c200166f222fbbe3b367615ba1c8f5ff26c9d336d64bd3fb", func := "depot/depotlaw16.HopsAgain", spec := "hopsAgain", inPlace := ["internal/bytealg.IndexByteString"], unfollowed := true, recurses := true, named := ["depot/hops.hopNames"], apart := false, laid := [("depot/hops.hopNames", laid_depot_hops_hopNames)], narrowed := true }
def HopsAgainUptoSaid : Prop := hopsAgainUptoRow.holds Tryd.pinned (OpenSpec.upto hopsAgainSpec)

/-- 'depotlaw16.HopsMore', WHERE WHAT IT READS IS OF BULK AT MOST 1048576: true; the input reads as it did. -/
def hopsMoreUptoRow : OpenClaim := { program := "ytmkjjidilfhojaadoor", sum := "7652d6be859a1d25c200166f222fbbe3b367615ba1c8f5ff26c9d336d64bd3fb", func := "depot/depotlaw16.HopsMore", spec := "hopsMore", inPlace := ["internal/bytealg.IndexByteString"], unfollowed := true, recurses := true, named := ["depot/hops.hopNames"], apart := false, laid := [("depot/hops.hopNames", laid_depot_hops_hopNames)], narrowed := true }
def HopsMoreUptoSaid : Prop := hopsMoreUptoRow.holds Tryd.pinned (OpenSpec.upto hopsMoreSpec)

end Rows
end Go.Proofs.YtmkjjidilfhojaaDoor
