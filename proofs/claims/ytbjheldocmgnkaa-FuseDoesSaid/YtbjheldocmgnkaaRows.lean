/-
  No cell of these rows narrows 'for every input' (looked for: loops, veiled, ifaces, maps, wideKeys, modest, calm, conditions, laid).
  DERIVED. THE GIVEN ROWS OF THIS SEAT. 4 by the template 'for every input the law returns true; each argument reads behind the call as it read before'; 0 by the template 'total and deterministic' (their statements: YtbjheldocmgnkaaTotals.lean).
  GIVEN WITH THE SEED: the statements are not yours to turn. If you find one false, say at which input.
  Laid BY PROGRAM, IN A SANDBOX (cutbox-rows.mjs): the forced cells as the released guide's own fill.sh prints them over the translation 6c0c1ec545115baf… (all of the seat's roots in one cut). By AI agents, Wed Nov 11 2026. No macro, syntax, notation, axiom, sorry.
-/
import Derived.Test.YtbjheldocmgnkaaChecked
import GoSem.Claim
import GoSem.ClaimJoined
import GoSem.ClaimMapViews
import Derived.JoinedTies
import Derived.KernelRfl
namespace Go.Proofs.Ytbjheldocmgnkaa
/- THE CELL 'sum', in the pinned program and in every row, IS THE sha256 OF THE DUMP (.gsa) THAT YtbjheldocmgnkaaProg.lean LOADS. Nothing in Lean hashes anything: it is a label: what it is worth is what the hold of that sum in a sandbox is worth. -/
noncomputable def Try.pinned : Pinned := { name := "ytbjheldocmgnkaa", sum := "6c0c1ec545115bafcecfc6706ab8046ddf86b9b1a2222412566824ff2af0c5a3", checked := Try.checked }
namespace Rows
def none {H : Type} : Left H := { results := [], args := [] }

/-- 'sacristanlaw03.FuseDoes': WHATEVER THE INPUT: true; the input reads as it did. -/
def fuseDoesSpec : ChangeSpec := { name := "fuseDoes", fn := fun _ => fun
  | [d] => { results := [.lit (.bool true)], args := [d] }
  | _ => none }
def fuseDoesRow : OpenClaim := { program := "ytbjheldocmgnkaa", sum := "6c0c1ec545115bafcecfc6706ab8046ddf86b9b1a2222412566824ff2af0c5a3", func := "sacristan/sacristanlaw03.FuseDoes", spec := "fuseDoes", unfollowed := true, recurses := true, apart := false }
def FuseDoesSaid : Prop := fuseDoesRow.holds Try.pinned (OpenSpec.ofChange fuseDoesSpec)

/-- ITS FALSE NEIGHBOUR: 'it returns false'. Refute it at one input. -/
def fuseDoesWrong : ChangeSpec := { name := "fuseDoes", fn := fun _ => fun
  | [d] => { results := [.lit (.bool false)], args := [d] }
  | _ => none }
def FuseDoesWrongFalsely : Prop := fuseDoesRow.holds Try.pinned (OpenSpec.ofChange fuseDoesWrong)

/-- 'sacristanlaw03.FuseExamples': WHATEVER THE INPUT: true; the input reads as it did. -/
def fuseExamplesSpec : ChangeSpec := { name := "fuseExamples", fn := fun _ => fun
  | [] => { results := [.lit (.bool true)], args := [] }
  | _ => none }
def fuseExamplesRow : OpenClaim := { program := "ytbjheldocmgnkaa", sum := "6c0c1ec545115bafcecfc6706ab8046ddf86b9b1a2222412566824ff2af0c5a3", func := "sacristan/sacristanlaw03.FuseExamples", spec := "fuseExamples", unfollowed := true, recurses := true, apart := false }
def FuseExamplesSaid : Prop := fuseExamplesRow.holds Try.pinned (OpenSpec.ofChange fuseExamplesSpec)

/-- ITS FALSE NEIGHBOUR: 'it returns false'. Refute it at one input. -/
def fuseExamplesWrong : ChangeSpec := { name := "fuseExamples", fn := fun _ => fun
  | [] => { results := [.lit (.bool false)], args := [] }
  | _ => none }
def FuseExamplesWrongFalsely : Prop := fuseExamplesRow.holds Try.pinned (OpenSpec.ofChange fuseExamplesWrong)

/-- 'sacristanlaw03.FuseCounts': WHATEVER THE INPUT: true; the input reads as it did. -/
def fuseCountsSpec : ChangeSpec := { name := "fuseCounts", fn := fun _ => fun
  | [d1, d2, d3] => { results := [.lit (.bool true)], args := [d1, d2, d3] }
  | _ => none }
def fuseCountsRow : OpenClaim := { program := "ytbjheldocmgnkaa", sum := "6c0c1ec545115bafcecfc6706ab8046ddf86b9b1a2222412566824ff2af0c5a3", func := "sacristan/sacristanlaw03.FuseCounts", spec := "fuseCounts", unfollowed := true, recurses := true, apart := false }
def FuseCountsSaid : Prop := fuseCountsRow.holds Try.pinned (OpenSpec.ofChange fuseCountsSpec)

/-- ITS FALSE NEIGHBOUR: 'it returns false'. Refute it at one input. -/
def fuseCountsWrong : ChangeSpec := { name := "fuseCounts", fn := fun _ => fun
  | [d1, d2, d3] => { results := [.lit (.bool false)], args := [d1, d2, d3] }
  | _ => none }
def FuseCountsWrongFalsely : Prop := fuseCountsRow.holds Try.pinned (OpenSpec.ofChange fuseCountsWrong)

/-- 'sacristanlaw03.FuseCopies': WHATEVER THE INPUT: true; the input reads as it did. -/
def fuseCopiesSpec : ChangeSpec := { name := "fuseCopies", fn := fun _ => fun
  | [d1, d2, d3, d4] => { results := [.lit (.bool true)], args := [d1, d2, d3, d4] }
  | _ => none }
def fuseCopiesRow : OpenClaim := { program := "ytbjheldocmgnkaa", sum := "6c0c1ec545115bafcecfc6706ab8046ddf86b9b1a2222412566824ff2af0c5a3", func := "sacristan/sacristanlaw03.FuseCopies", spec := "fuseCopies", unfollowed := true, recurses := true, apart := false }
def FuseCopiesSaid : Prop := fuseCopiesRow.holds Try.pinned (OpenSpec.ofChange fuseCopiesSpec)

/-- ITS FALSE NEIGHBOUR: 'it returns false'. Refute it at one input. -/
def fuseCopiesWrong : ChangeSpec := { name := "fuseCopies", fn := fun _ => fun
  | [d1, d2, d3, d4] => { results := [.lit (.bool false)], args := [d1, d2, d3, d4] }
  | _ => none }
def FuseCopiesWrongFalsely : Prop := fuseCopiesRow.holds Try.pinned (OpenSpec.ofChange fuseCopiesWrong)

/- THE SECOND FORM. 'bulk': how many values and letters a reading holds, each counted each time it is reached (what is shared counts as often as it is met; a slice's spare places count too). A statement '..UptoSaid' is the law's where the arguments, and the package variables that the reading takes, are together of bulk at most 1048576: NARROWER than '..Said'. Prove '..Said' where nothing that the law and all that it calls make is longer than what came in: it says more and counts as full. Else prove '..UptoSaid'. A law counts once. -/
mutual
def uptoBulk {H : Type} : DataW H → Nat
  | .lit (.string bytes) => bytes.length + 1
  | .lit _ => 1
  | .nil => 1
  | .ptr d => uptoBulk d + 1
  | .slice elems spare => uptoBulkAll elems + uptoBulkAll spare + 1
  | .agg parts => uptoBulkAll parts + 1
  | .iface _ d => uptoBulk d + 1
  | .map entries => uptoBulkEntries entries + 1
  | .held _ => 1
def uptoBulkAll {H : Type} : List (DataW H) → Nat
  | [] => 0
  | d :: r => uptoBulk d + uptoBulkAll r
def uptoBulkEntries {H : Type} : List (Lit × DataW H) → Nat
  | [] => 0
  | x :: r => uptoBulkEntry x + uptoBulkEntries r
def uptoBulkEntry {H : Type} : Lit × DataW H → Nat
  | (.string bytes, d) => bytes.length + uptoBulk d + 1
  | (_, d) => uptoBulk d + 1
 end
def uptoSmall : (H : Type) → List (DataW H) → Bool := fun _ ds => decide (uptoBulkAll ds ≤ 1048576)
def OpenSpec.upto (s : _root_.Go.ChangeSpec) : _root_.Go.OpenSpec := { _root_.Go.OpenSpec.ofChange s with cond := some uptoSmall }

/-- 'sacristanlaw03.FuseDoes', WHERE WHAT IT READS IS OF BULK AT MOST 1048576: true; the input reads as it did. -/
def fuseDoesUptoRow : OpenClaim := { program := "ytbjheldocmgnkaa", sum := "6c0c1ec545115bafcecfc6706ab8046ddf86b9b1a2222412566824ff2af0c5a3", func := "sacristan/sacristanlaw03.FuseDoes", spec := "fuseDoes", unfollowed := true, recurses := true, apart := false, narrowed := true }
def FuseDoesUptoSaid : Prop := fuseDoesUptoRow.holds Try.pinned (OpenSpec.upto fuseDoesSpec)

/-- 'sacristanlaw03.FuseExamples', WHERE WHAT IT READS IS OF BULK AT MOST 1048576: true; the input reads as it did. -/
def fuseExamplesUptoRow : OpenClaim := { program := "ytbjheldocmgnkaa", sum := "6c0c1ec545115bafcecfc6706ab8046ddf86b9b1a2222412566824ff2af0c5a3", func := "sacristan/sacristanlaw03.FuseExamples", spec := "fuseExamples", unfollowed := true, recurses := true, apart := false, narrowed := true }
def FuseExamplesUptoSaid : Prop := fuseExamplesUptoRow.holds Try.pinned (OpenSpec.upto fuseExamplesSpec)

/-- 'sacristanlaw03.FuseCounts', WHERE WHAT IT READS IS OF BULK AT MOST 1048576: true; the input reads as it did. -/
def fuseCountsUptoRow : OpenClaim := { program := "ytbjheldocmgnkaa", sum := "6c0c1ec545115bafcecfc6706ab8046ddf86b9b1a2222412566824ff2af0c5a3", func := "sacristan/sacristanlaw03.FuseCounts", spec := "fuseCounts", unfollowed := true, recurses := true, apart := false, narrowed := true }
def FuseCountsUptoSaid : Prop := fuseCountsUptoRow.holds Try.pinned (OpenSpec.upto fuseCountsSpec)

/-- 'sacristanlaw03.FuseCopies', WHERE WHAT IT READS IS OF BULK AT MOST 1048576: true; the input reads as it did. -/
def fuseCopiesUptoRow : OpenClaim := { program := "ytbjheldocmgnkaa", sum := "6c0c1ec545115bafcecfc6706ab8046ddf86b9b1a2222412566824ff2af0c5a3", func := "sacristan/sacristanlaw03.FuseCopies", spec := "fuseCopies", unfollowed := true, recurses := true, apart := false, narrowed := true }
def FuseCopiesUptoSaid : Prop := fuseCopiesUptoRow.holds Try.pinned (OpenSpec.upto fuseCopiesSpec)

end Rows
end Go.Proofs.Ytbjheldocmgnkaa
