/-
  No cell of these rows narrows 'for every input' (looked for: loops, veiled, ifaces, maps, wideKeys, modest, calm, conditions, laid).
  DERIVED. THE GIVEN ROWS OF THIS SEAT. 5 by the template 'for every input the law returns true; each argument reads behind the call as it read before'; 0 by the template 'total and deterministic' (their statements: YthhmfebnnkcmmaaTotals.lean).
  GIVEN WITH THE SEED: the statements are not yours to turn. If you find one false, say at which input.
  Laid BY PROGRAM, IN A SANDBOX (cutbox-rows.mjs): the forced cells as the released guide's own fill.sh prints them over the translation a85df37c3b9dd01d… (all of the seat's roots in one cut). By AI agents, Wed Nov 11 2026. No macro, syntax, notation, axiom, sorry.
-/
import Derived.Test.YthhmfebnnkcmmaaChecked
import GoSem.Claim
import GoSem.ClaimJoined
import GoSem.ClaimMapViews
import Derived.JoinedTies
import Derived.KernelRfl
namespace Go.Proofs.Ythhmfebnnkcmmaa
/- THE CELL 'sum', in the pinned program and in every row, IS THE sha256 OF THE DUMP (.gsa) THAT YthhmfebnnkcmmaaProg.lean LOADS. Nothing in Lean hashes anything: it is a label: what it is worth is what the hold of that sum in a sandbox is worth. -/
noncomputable def Try.pinned : Pinned := { name := "ythhmfebnnkcmmaa", sum := "a85df37c3b9dd01d57f46b172858c1ee653d9fd36a68fa59fb89bb517261e129", checked := Try.checked }
namespace Rows
def none {H : Type} : Left H := { results := [], args := [] }

/-- 'sacristanlaw11.DelayMatches': WHATEVER THE INPUT: true; the input reads as it did. -/
def delayMatchesSpec : ChangeSpec := { name := "delayMatches", fn := fun _ => fun
  | [d1, d2] => { results := [.lit (.bool true)], args := [d1, d2] }
  | _ => none }
def delayMatchesRow : OpenClaim := { program := "ythhmfebnnkcmmaa", sum := "a85df37c3b9dd01d57f46b172858c1ee653d9fd36a68fa59fb89bb517261e129", func := "sacristan/sacristanlaw11.DelayMatches", spec := "delayMatches", unfollowed := true, recurses := true, apart := false }
def DelayMatchesSaid : Prop := delayMatchesRow.holds Try.pinned (OpenSpec.ofChange delayMatchesSpec)

/-- ITS FALSE NEIGHBOUR: 'it returns false'. Refute it at one input. -/
def delayMatchesWrong : ChangeSpec := { name := "delayMatches", fn := fun _ => fun
  | [d1, d2] => { results := [.lit (.bool false)], args := [d1, d2] }
  | _ => none }
def DelayMatchesWrongFalsely : Prop := delayMatchesRow.holds Try.pinned (OpenSpec.ofChange delayMatchesWrong)

/-- 'sacristanlaw11.DelayExamples': WHATEVER THE INPUT: true; the input reads as it did. -/
def delayExamplesSpec : ChangeSpec := { name := "delayExamples", fn := fun _ => fun
  | [] => { results := [.lit (.bool true)], args := [] }
  | _ => none }
def delayExamplesRow : OpenClaim := { program := "ythhmfebnnkcmmaa", sum := "a85df37c3b9dd01d57f46b172858c1ee653d9fd36a68fa59fb89bb517261e129", func := "sacristan/sacristanlaw11.DelayExamples", spec := "delayExamples", unfollowed := true, recurses := true, apart := false }
def DelayExamplesSaid : Prop := delayExamplesRow.holds Try.pinned (OpenSpec.ofChange delayExamplesSpec)

/-- ITS FALSE NEIGHBOUR: 'it returns false'. Refute it at one input. -/
def delayExamplesWrong : ChangeSpec := { name := "delayExamples", fn := fun _ => fun
  | [] => { results := [.lit (.bool false)], args := [] }
  | _ => none }
def DelayExamplesWrongFalsely : Prop := delayExamplesRow.holds Try.pinned (OpenSpec.ofChange delayExamplesWrong)

/-- 'sacristanlaw11.DelayGrows': WHATEVER THE INPUT: true; the input reads as it did. -/
def delayGrowsSpec : ChangeSpec := { name := "delayGrows", fn := fun _ => fun
  | [d1, d2, d3] => { results := [.lit (.bool true)], args := [d1, d2, d3] }
  | _ => none }
def delayGrowsRow : OpenClaim := { program := "ythhmfebnnkcmmaa", sum := "a85df37c3b9dd01d57f46b172858c1ee653d9fd36a68fa59fb89bb517261e129", func := "sacristan/sacristanlaw11.DelayGrows", spec := "delayGrows", unfollowed := true, recurses := true, apart := false }
def DelayGrowsSaid : Prop := delayGrowsRow.holds Try.pinned (OpenSpec.ofChange delayGrowsSpec)

/-- ITS FALSE NEIGHBOUR: 'it returns false'. Refute it at one input. -/
def delayGrowsWrong : ChangeSpec := { name := "delayGrows", fn := fun _ => fun
  | [d1, d2, d3] => { results := [.lit (.bool false)], args := [d1, d2, d3] }
  | _ => none }
def DelayGrowsWrongFalsely : Prop := delayGrowsRow.holds Try.pinned (OpenSpec.ofChange delayGrowsWrong)

/-- 'sacristanlaw11.DelayAlone': WHATEVER THE INPUT: true; the input reads as it did. -/
def delayAloneSpec : ChangeSpec := { name := "delayAlone", fn := fun _ => fun
  | [d1, d2, d3, d4, d5] => { results := [.lit (.bool true)], args := [d1, d2, d3, d4, d5] }
  | _ => none }
def delayAloneRow : OpenClaim := { program := "ythhmfebnnkcmmaa", sum := "a85df37c3b9dd01d57f46b172858c1ee653d9fd36a68fa59fb89bb517261e129", func := "sacristan/sacristanlaw11.DelayAlone", spec := "delayAlone", unfollowed := true, recurses := true, apart := false }
def DelayAloneSaid : Prop := delayAloneRow.holds Try.pinned (OpenSpec.ofChange delayAloneSpec)

/-- ITS FALSE NEIGHBOUR: 'it returns false'. Refute it at one input. -/
def delayAloneWrong : ChangeSpec := { name := "delayAlone", fn := fun _ => fun
  | [d1, d2, d3, d4, d5] => { results := [.lit (.bool false)], args := [d1, d2, d3, d4, d5] }
  | _ => none }
def DelayAloneWrongFalsely : Prop := delayAloneRow.holds Try.pinned (OpenSpec.ofChange delayAloneWrong)

/-- 'sacristanlaw11.DelayScales': WHATEVER THE INPUT: true; the input reads as it did. -/
def delayScalesSpec : ChangeSpec := { name := "delayScales", fn := fun _ => fun
  | [d1, d2, d3, d4] => { results := [.lit (.bool true)], args := [d1, d2, d3, d4] }
  | _ => none }
def delayScalesRow : OpenClaim := { program := "ythhmfebnnkcmmaa", sum := "a85df37c3b9dd01d57f46b172858c1ee653d9fd36a68fa59fb89bb517261e129", func := "sacristan/sacristanlaw11.DelayScales", spec := "delayScales", unfollowed := true, recurses := true, apart := false }
def DelayScalesSaid : Prop := delayScalesRow.holds Try.pinned (OpenSpec.ofChange delayScalesSpec)

/-- ITS FALSE NEIGHBOUR: 'it returns false'. Refute it at one input. -/
def delayScalesWrong : ChangeSpec := { name := "delayScales", fn := fun _ => fun
  | [d1, d2, d3, d4] => { results := [.lit (.bool false)], args := [d1, d2, d3, d4] }
  | _ => none }
def DelayScalesWrongFalsely : Prop := delayScalesRow.holds Try.pinned (OpenSpec.ofChange delayScalesWrong)

/- THE SECOND FORM. 'bulk': how many values and letters a reading holds, each counted each time it is reached (what is shared counts as often as it is met; a slice's spare places count too). A statement '..UptoSaid' is the law's where the arguments, and the package variables that the reading takes, are together of bulk at most 1048576: NARROWER than '..Said'. Prove '..Said' where nothing that the law and all that it calls make is longer than what came in: it says more and counts as full. Else prove '..UptoSaid'. A law counts once. -/
mutual
def uptoBulk {H : Type} : DataW H → Nat
  | .lit (.string bytes) => bytes.length + 1
  | .lit _ => 1
  | .nil => 1
  | .ptr d => uptoBulk d + 1
  | .slice elems spare => uptoBulkAll elems + uptoBulkAll spare + 1
  | .agg parts => uptoBulkAll parts + 1
  | .iface _ d => uptoBulk d + 1
  | .map entries => uptoBulkEntries entries + 1
  | .held _ => 1
def uptoBulkAll {H : Type} : List (DataW H) → Nat
  | [] => 0
  | d :: r => uptoBulk d + uptoBulkAll r
def uptoBulkEntries {H : Type} : List (Lit × DataW H) → Nat
  | [] => 0
  | x :: r => uptoBulkEntry x + uptoBulkEntries r
def uptoBulkEntry {H : Type} : Lit × DataW H → Nat
  | (.string bytes, d) => bytes.length + uptoBulk d + 1
  | (_, d) => uptoBulk d + 1
 end
def uptoSmall : (H : Type) → List (DataW H) → Bool := fun _ ds => decide (uptoBulkAll ds ≤ 1048576)
def OpenSpec.upto (s : _root_.Go.ChangeSpec) : _root_.Go.OpenSpec := { _root_.Go.OpenSpec.ofChange s with cond := some uptoSmall }

/-- 'sacristanlaw11.DelayMatches', WHERE WHAT IT READS IS OF BULK AT MOST 1048576: true; the input reads as it did. -/
def delayMatchesUptoRow : OpenClaim := { program := "ythhmfebnnkcmmaa", sum := "a85df37c3b9dd01d57f46b172858c1ee653d9fd36a68fa59fb89bb517261e129", func := "sacristan/sacristanlaw11.DelayMatches", spec := "delayMatches", unfollowed := true, recurses := true, apart := false, narrowed := true }
def DelayMatchesUptoSaid : Prop := delayMatchesUptoRow.holds Try.pinned (OpenSpec.upto delayMatchesSpec)

/-- 'sacristanlaw11.DelayExamples', WHERE WHAT IT READS IS OF BULK AT MOST 1048576: true; the input reads as it did. -/
def delayExamplesUptoRow : OpenClaim := { program := "ythhmfebnnkcmmaa", sum := "a85df37c3b9dd01d57f46b172858c1ee653d9fd36a68fa59fb89bb517261e129", func := "sacristan/sacristanlaw11.DelayExamples", spec := "delayExamples", unfollowed := true, recurses := true, apart := false, narrowed := true }
def DelayExamplesUptoSaid : Prop := delayExamplesUptoRow.holds Try.pinned (OpenSpec.upto delayExamplesSpec)

/-- 'sacristanlaw11.DelayGrows', WHERE WHAT IT READS IS OF BULK AT MOST 1048576: true; the input reads as it did. -/
def delayGrowsUptoRow : OpenClaim := { program := "ythhmfebnnkcmmaa", sum := "a85df37c3b9dd01d57f46b172858c1ee653d9fd36a68fa59fb89bb517261e129", func := "sacristan/sacristanlaw11.DelayGrows", spec := "delayGrows", unfollowed := true, recurses := true, apart := false, narrowed := true }
def DelayGrowsUptoSaid : Prop := delayGrowsUptoRow.holds Try.pinned (OpenSpec.upto delayGrowsSpec)

/-- 'sacristanlaw11.DelayAlone', WHERE WHAT IT READS IS OF BULK AT MOST 1048576: true; the input reads as it did. -/
def delayAloneUptoRow : OpenClaim := { program := "ythhmfebnnkcmmaa", sum := "a85df37c3b9dd01d57f46b172858c1ee653d9fd36a68fa59fb89bb517261e129", func := "sacristan/sacristanlaw11.DelayAlone", spec := "delayAlone", unfollowed := true, recurses := true, apart := false, narrowed := true }
def DelayAloneUptoSaid : Prop := delayAloneUptoRow.holds Try.pinned (OpenSpec.upto delayAloneSpec)

/-- 'sacristanlaw11.DelayScales', WHERE WHAT IT READS IS OF BULK AT MOST 1048576: true; the input reads as it did. -/
def delayScalesUptoRow : OpenClaim := { program := "ythhmfebnnkcmmaa", sum := "a85df37c3b9dd01d57f46b172858c1ee653d9fd36a68fa59fb89bb517261e129", func := "sacristan/sacristanlaw11.DelayScales", spec := "delayScales", unfollowed := true, recurses := true, apart := false, narrowed := true }
def DelayScalesUptoSaid : Prop := delayScalesUptoRow.holds Try.pinned (OpenSpec.upto delayScalesSpec)

end Rows
end Go.Proofs.Ythhmfebnnkcmmaa
