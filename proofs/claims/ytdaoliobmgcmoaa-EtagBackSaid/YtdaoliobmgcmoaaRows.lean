/-
  No cell of these rows narrows 'for every input' (looked for: loops, veiled, ifaces, maps, wideKeys, modest, calm, conditions, laid).
  DERIVED. THE GIVEN ROWS OF THIS SEAT. 4 by the template 'for every input the law returns true; each argument reads behind the call as it read before'; 0 by the template 'total and deterministic' (their statements: YtdaoliobmgcmoaaTotals.lean).
  GIVEN WITH THE SEED: the statements are not yours to turn. If you find one false, say at which input.
  Laid BY PROGRAM, IN A SANDBOX (cutbox-rows.mjs): the forced cells as the released guide's own fill.sh prints them over the translation 714a77c961a55549… (all of the seat's roots in one cut). By AI agents, Wed Nov 11 2026. No macro, syntax, notation, axiom, sorry.
-/
import Derived.Test.YtdaoliobmgcmoaaChecked
import GoSem.Claim
import GoSem.ClaimJoined
import GoSem.ClaimMapViews
import Derived.JoinedTies
import Derived.KernelRfl
namespace Go.Proofs.Ytdaoliobmgcmoaa
/- THE CELL 'sum', in the pinned program and in every row, IS THE sha256 OF THE DUMP (.gsa) THAT YtdaoliobmgcmoaaProg.lean LOADS. Nothing in Lean hashes anything: it is a label: what it is worth is what the hold of that sum in a sandbox is worth. -/
noncomputable def Try.pinned : Pinned := { name := "ytdaoliobmgcmoaa", sum := "714a77c961a55549a3ce47db12a0d091d1a36ada6ba2d81a92a39dcb4eba8b65", checked := Try.checked }
namespace Rows
def none {H : Type} : Left H := { results := [], args := [] }

/-- 'depotlaw14.EtagReads': WHATEVER THE INPUT: true; the input reads as it did. -/
def etagReadsSpec : ChangeSpec := { name := "etagReads", fn := fun _ => fun
  | [d1, d2] => { results := [.lit (.bool true)], args := [d1, d2] }
  | _ => none }
def etagReadsRow : OpenClaim := { program := "ytdaoliobmgcmoaa", sum := "714a77c961a55549a3ce47db12a0d091d1a36ada6ba2d81a92a39dcb4eba8b65", func := "depot/depotlaw14.EtagReads", spec := "etagReads", inPlace := ["internal/bytealg.IndexByteString"], unfollowed := true, recurses := true, apart := false }
def EtagReadsSaid : Prop := etagReadsRow.holds Try.pinned (OpenSpec.ofChange etagReadsSpec)

/-- ITS FALSE NEIGHBOUR: 'it returns false'. Refute it at one input. -/
def etagReadsWrong : ChangeSpec := { name := "etagReads", fn := fun _ => fun
  | [d1, d2] => { results := [.lit (.bool false)], args := [d1, d2] }
  | _ => none }
def EtagReadsWrongFalsely : Prop := etagReadsRow.holds Try.pinned (OpenSpec.ofChange etagReadsWrong)

/-- 'depotlaw14.EtagLikes': WHATEVER THE INPUT: true; the input reads as it did. -/
def etagLikesSpec : ChangeSpec := { name := "etagLikes", fn := fun _ => fun
  | [d1, d2] => { results := [.lit (.bool true)], args := [d1, d2] }
  | _ => none }
def etagLikesRow : OpenClaim := { program := "ytdaoliobmgcmoaa", sum := "714a77c961a55549a3ce47db12a0d091d1a36ada6ba2d81a92a39dcb4eba8b65", func := "depot/depotlaw14.EtagLikes", spec := "etagLikes", inPlace := ["internal/bytealg.IndexByteString"], unfollowed := true, recurses := true, apart := false }
def EtagLikesSaid : Prop := etagLikesRow.holds Try.pinned (OpenSpec.ofChange etagLikesSpec)

/-- ITS FALSE NEIGHBOUR: 'it returns false'. Refute it at one input. -/
def etagLikesWrong : ChangeSpec := { name := "etagLikes", fn := fun _ => fun
  | [d1, d2] => { results := [.lit (.bool false)], args := [d1, d2] }
  | _ => none }
def EtagLikesWrongFalsely : Prop := etagLikesRow.holds Try.pinned (OpenSpec.ofChange etagLikesWrong)

/-- 'depotlaw14.EtagBack': WHATEVER THE INPUT: true; the input reads as it did. -/
def etagBackSpec : ChangeSpec := { name := "etagBack", fn := fun _ => fun
  | [d1, d2] => { results := [.lit (.bool true)], args := [d1, d2] }
  | _ => none }
def etagBackRow : OpenClaim := { program := "ytdaoliobmgcmoaa", sum := "714a77c961a55549a3ce47db12a0d091d1a36ada6ba2d81a92a39dcb4eba8b65", func := "depot/depotlaw14.EtagBack", spec := "etagBack", inPlace := ["internal/bytealg.IndexByteString"], unfollowed := true, recurses := true, apart := false }
def EtagBackSaid : Prop := etagBackRow.holds Try.pinned (OpenSpec.ofChange etagBackSpec)

/-- ITS FALSE NEIGHBOUR: 'it returns false'. Refute it at one input. -/
def etagBackWrong : ChangeSpec := { name := "etagBack", fn := fun _ => fun
  | [d1, d2] => { results := [.lit (.bool false)], args := [d1, d2] }
  | _ => none }
def EtagBackWrongFalsely : Prop := etagBackRow.holds Try.pinned (OpenSpec.ofChange etagBackWrong)

/-- 'depotlaw14.EtagLists': WHATEVER THE INPUT: true; the input reads as it did. -/
def etagListsSpec : ChangeSpec := { name := "etagLists", fn := fun _ => fun
  | [d1, d2] => { results := [.lit (.bool true)], args := [d1, d2] }
  | _ => none }
def etagListsRow : OpenClaim := { program := "ytdaoliobmgcmoaa", sum := "714a77c961a55549a3ce47db12a0d091d1a36ada6ba2d81a92a39dcb4eba8b65", func := "depot/depotlaw14.EtagLists", spec := "etagLists", inPlace := ["internal/bytealg.IndexByteString"], unfollowed := true, recurses := true, apart := false }
def EtagListsSaid : Prop := etagListsRow.holds Try.pinned (OpenSpec.ofChange etagListsSpec)

/-- ITS FALSE NEIGHBOUR: 'it returns false'. Refute it at one input. -/
def etagListsWrong : ChangeSpec := { name := "etagLists", fn := fun _ => fun
  | [d1, d2] => { results := [.lit (.bool false)], args := [d1, d2] }
  | _ => none }
def EtagListsWrongFalsely : Prop := etagListsRow.holds Try.pinned (OpenSpec.ofChange etagListsWrong)

/- THE SECOND FORM. 'bulk': how many values and letters a reading holds, each counted each time it is reached (what is shared counts as often as it is met; a slice's spare places count too). A statement '..UptoSaid' is the law's where the arguments, and the package variables that the reading takes, are together of bulk at most 1048576: NARROWER than '..Said'. Prove '..Said' where nothing that the law and all that it calls make is longer than what came in: it says more and counts as full. Else prove '..UptoSaid'. A law counts once. -/
mutual
def uptoBulk {H : Type} : DataW H → Nat
  | .lit (.string bytes) => bytes.length + 1
  | .lit _ => 1
  | .nil => 1
  | .ptr d => uptoBulk d + 1
  | .slice elems spare => uptoBulkAll elems + uptoBulkAll spare + 1
  | .agg parts => uptoBulkAll parts + 1
  | .iface _ d => uptoBulk d + 1
  | .map entries => uptoBulkEntries entries + 1
  | .held _ => 1
def uptoBulkAll {H : Type} : List (DataW H) → Nat
  | [] => 0
  | d :: r => uptoBulk d + uptoBulkAll r
def uptoBulkEntries {H : Type} : List (Lit × DataW H) → Nat
  | [] => 0
  | x :: r => uptoBulkEntry x + uptoBulkEntries r
def uptoBulkEntry {H : Type} : Lit × DataW H → Nat
  | (.string bytes, d) => bytes.length + uptoBulk d + 1
  | (_, d) => uptoBulk d + 1
 end
def uptoSmall : (H : Type) → List (DataW H) → Bool := fun _ ds => decide (uptoBulkAll ds ≤ 1048576)
def OpenSpec.upto (s : _root_.Go.ChangeSpec) : _root_.Go.OpenSpec := { _root_.Go.OpenSpec.ofChange s with cond := some uptoSmall }

/-- 'depotlaw14.EtagReads', WHERE WHAT IT READS IS OF BULK AT MOST 1048576: true; the input reads as it did. -/
def etagReadsUptoRow : OpenClaim := { program := "ytdaoliobmgcmoaa", sum := "714a77c961a55549a3ce47db12a0d091d1a36ada6ba2d81a92a39dcb4eba8b65", func := "depot/depotlaw14.EtagReads", spec := "etagReads", inPlace := ["internal/bytealg.IndexByteString"], unfollowed := true, recurses := true, apart := false, narrowed := true }
def EtagReadsUptoSaid : Prop := etagReadsUptoRow.holds Try.pinned (OpenSpec.upto etagReadsSpec)

/-- 'depotlaw14.EtagLikes', WHERE WHAT IT READS IS OF BULK AT MOST 1048576: true; the input reads as it did. -/
def etagLikesUptoRow : OpenClaim := { program := "ytdaoliobmgcmoaa", sum := "714a77c961a55549a3ce47db12a0d091d1a36ada6ba2d81a92a39dcb4eba8b65", func := "depot/depotlaw14.EtagLikes", spec := "etagLikes", inPlace := ["internal/bytealg.IndexByteString"], unfollowed := true, recurses := true, apart := false, narrowed := true }
def EtagLikesUptoSaid : Prop := etagLikesUptoRow.holds Try.pinned (OpenSpec.upto etagLikesSpec)

/-- 'depotlaw14.EtagBack', WHERE WHAT IT READS IS OF BULK AT MOST 1048576: true; the input reads as it did. -/
def etagBackUptoRow : OpenClaim := { program := "ytdaoliobmgcmoaa", sum := "714a77c961a55549a3ce47db12a0d091d1a36ada6ba2d81a92a39dcb4eba8b65", func := "depot/depotlaw14.EtagBack", spec := "etagBack", inPlace := ["internal/bytealg.IndexByteString"], unfollowed := true, recurses := true, apart := false, narrowed := true }
def EtagBackUptoSaid : Prop := etagBackUptoRow.holds Try.pinned (OpenSpec.upto etagBackSpec)

/-- 'depotlaw14.EtagLists', WHERE WHAT IT READS IS OF BULK AT MOST 1048576: true; the input reads as it did. -/
def etagListsUptoRow : OpenClaim := { program := "ytdaoliobmgcmoaa", sum := "714a77c961a55549a3ce47db12a0d091d1a36ada6ba2d81a92a39dcb4eba8b65", func := "depot/depotlaw14.EtagLists", spec := "etagLists", inPlace := ["internal/bytealg.IndexByteString"], unfollowed := true, recurses := true, apart := false, narrowed := true }
def EtagListsUptoSaid : Prop := etagListsUptoRow.holds Try.pinned (OpenSpec.upto etagListsSpec)

end Rows
end Go.Proofs.Ytdaoliobmgcmoaa
