/-
  No cell of these rows narrows 'for every input' (looked for: loops, veiled, ifaces, maps, wideKeys, modest, calm, conditions, laid).
  DERIVED. THE GIVEN ROWS OF THIS SEAT. 6 by the template 'for every input the law returns true; each argument reads behind the call as it read before'; 0 by the template 'total and deterministic' (their statements: YtojgbacdniagiaaTotals.lean).
  GIVEN WITH THE SEED: the statements are not yours to turn. If you find one false, say at which input.
  Laid BY PROGRAM, IN A SANDBOX (cutbox-rows.mjs): the forced cells as the released guide's own fill.sh prints them over the translation 0a49f734f68d9e1c… (all of the seat's roots in one cut). By AI agents, Wed Nov 11 2026. No macro, syntax, notation, axiom, sorry.
-/
import Derived.Test.YtojgbacdniagiaaChecked
import GoSem.Claim
import GoSem.ClaimJoined
import GoSem.ClaimMapViews
import Derived.JoinedTies
import Derived.KernelRfl
namespace Go.Proofs.Ytojgbacdniagiaa
/- THE CELL 'sum', in the pinned program and in every row, IS THE sha256 OF THE DUMP (.gsa) THAT YtojgbacdniagiaaProg.lean LOADS. Nothing in Lean hashes anything: it is a label: what it is worth is what the hold of that sum in a sandbox is worth. -/
noncomputable def Try.pinned : Pinned := { name := "ytojgbacdniagiaa", sum := "0a49f734f68d9e1cd1e919dcfd0977ae5b962f12da31c6f20d393bfe54dee4a5", checked := Try.checked }
namespace Rows
def none {H : Type} : Left H := { results := [], args := [] }

/-- 'sacristanlaw12.WindowMatches': WHATEVER THE INPUT: true; the input reads as it did. -/
def windowMatchesSpec : ChangeSpec := { name := "windowMatches", fn := fun _ => fun
  | [d1, d2, d3, d4] => { results := [.lit (.bool true)], args := [d1, d2, d3, d4] }
  | _ => none }
def windowMatchesRow : OpenClaim := { program := "ytojgbacdniagiaa", sum := "0a49f734f68d9e1cd1e919dcfd0977ae5b962f12da31c6f20d393bfe54dee4a5", func := "sacristan/sacristanlaw12.WindowMatches", spec := "windowMatches", apart := false }
def WindowMatchesSaid : Prop := windowMatchesRow.holds Try.pinned (OpenSpec.ofChange windowMatchesSpec)

/-- ITS FALSE NEIGHBOUR: 'it returns false'. Refute it at one input. -/
def windowMatchesWrong : ChangeSpec := { name := "windowMatches", fn := fun _ => fun
  | [d1, d2, d3, d4] => { results := [.lit (.bool false)], args := [d1, d2, d3, d4] }
  | _ => none }
def WindowMatchesWrongFalsely : Prop := windowMatchesRow.holds Try.pinned (OpenSpec.ofChange windowMatchesWrong)

/-- 'sacristanlaw12.WindowExamples': WHATEVER THE INPUT: true; the input reads as it did. -/
def windowExamplesSpec : ChangeSpec := { name := "windowExamples", fn := fun _ => fun
  | [] => { results := [.lit (.bool true)], args := [] }
  | _ => none }
def windowExamplesRow : OpenClaim := { program := "ytojgbacdniagiaa", sum := "0a49f734f68d9e1cd1e919dcfd0977ae5b962f12da31c6f20d393bfe54dee4a5", func := "sacristan/sacristanlaw12.WindowExamples", spec := "windowExamples", apart := false }
def WindowExamplesSaid : Prop := windowExamplesRow.holds Try.pinned (OpenSpec.ofChange windowExamplesSpec)

/-- ITS FALSE NEIGHBOUR: 'it returns false'. Refute it at one input. -/
def windowExamplesWrong : ChangeSpec := { name := "windowExamples", fn := fun _ => fun
  | [] => { results := [.lit (.bool false)], args := [] }
  | _ => none }
def WindowExamplesWrongFalsely : Prop := windowExamplesRow.holds Try.pinned (OpenSpec.ofChange windowExamplesWrong)

/-- 'sacristanlaw12.WindowKeeps': WHATEVER THE INPUT: true; the input reads as it did. -/
def windowKeepsSpec : ChangeSpec := { name := "windowKeeps", fn := fun _ => fun
  | [d1, d2, d3, d4] => { results := [.lit (.bool true)], args := [d1, d2, d3, d4] }
  | _ => none }
def windowKeepsRow : OpenClaim := { program := "ytojgbacdniagiaa", sum := "0a49f734f68d9e1cd1e919dcfd0977ae5b962f12da31c6f20d393bfe54dee4a5", func := "sacristan/sacristanlaw12.WindowKeeps", spec := "windowKeeps", apart := false }
def WindowKeepsSaid : Prop := windowKeepsRow.holds Try.pinned (OpenSpec.ofChange windowKeepsSpec)

/-- ITS FALSE NEIGHBOUR: 'it returns false'. Refute it at one input. -/
def windowKeepsWrong : ChangeSpec := { name := "windowKeeps", fn := fun _ => fun
  | [d1, d2, d3, d4] => { results := [.lit (.bool false)], args := [d1, d2, d3, d4] }
  | _ => none }
def WindowKeepsWrongFalsely : Prop := windowKeepsRow.holds Try.pinned (OpenSpec.ofChange windowKeepsWrong)

/-- 'sacristanlaw12.WindowHolds': WHATEVER THE INPUT: true; the input reads as it did. -/
def windowHoldsSpec : ChangeSpec := { name := "windowHolds", fn := fun _ => fun
  | [d1, d2, d3, d4] => { results := [.lit (.bool true)], args := [d1, d2, d3, d4] }
  | _ => none }
def windowHoldsRow : OpenClaim := { program := "ytojgbacdniagiaa", sum := "0a49f734f68d9e1cd1e919dcfd0977ae5b962f12da31c6f20d393bfe54dee4a5", func := "sacristan/sacristanlaw12.WindowHolds", spec := "windowHolds", apart := false }
def WindowHoldsSaid : Prop := windowHoldsRow.holds Try.pinned (OpenSpec.ofChange windowHoldsSpec)

/-- ITS FALSE NEIGHBOUR: 'it returns false'. Refute it at one input. -/
def windowHoldsWrong : ChangeSpec := { name := "windowHolds", fn := fun _ => fun
  | [d1, d2, d3, d4] => { results := [.lit (.bool false)], args := [d1, d2, d3, d4] }
  | _ => none }
def WindowHoldsWrongFalsely : Prop := windowHoldsRow.holds Try.pinned (OpenSpec.ofChange windowHoldsWrong)

/-- 'sacristanlaw12.WindowAdds': WHATEVER THE INPUT: true; the input reads as it did. -/
def windowAddsSpec : ChangeSpec := { name := "windowAdds", fn := fun _ => fun
  | [d1, d2, d3, d4] => { results := [.lit (.bool true)], args := [d1, d2, d3, d4] }
  | _ => none }
def windowAddsRow : OpenClaim := { program := "ytojgbacdniagiaa", sum := "0a49f734f68d9e1cd1e919dcfd0977ae5b962f12da31c6f20d393bfe54dee4a5", func := "sacristan/sacristanlaw12.WindowAdds", spec := "windowAdds", apart := false }
def WindowAddsSaid : Prop := windowAddsRow.holds Try.pinned (OpenSpec.ofChange windowAddsSpec)

/-- ITS FALSE NEIGHBOUR: 'it returns false'. Refute it at one input. -/
def windowAddsWrong : ChangeSpec := { name := "windowAdds", fn := fun _ => fun
  | [d1, d2, d3, d4] => { results := [.lit (.bool false)], args := [d1, d2, d3, d4] }
  | _ => none }
def WindowAddsWrongFalsely : Prop := windowAddsRow.holds Try.pinned (OpenSpec.ofChange windowAddsWrong)

/-- 'sacristanlaw12.WindowMoves': WHATEVER THE INPUT: true; the input reads as it did. -/
def windowMovesSpec : ChangeSpec := { name := "windowMoves", fn := fun _ => fun
  | [d1, d2, d3, d4] => { results := [.lit (.bool true)], args := [d1, d2, d3, d4] }
  | _ => none }
def windowMovesRow : OpenClaim := { program := "ytojgbacdniagiaa", sum := "0a49f734f68d9e1cd1e919dcfd0977ae5b962f12da31c6f20d393bfe54dee4a5", func := "sacristan/sacristanlaw12.WindowMoves", spec := "windowMoves", apart := false }
def WindowMovesSaid : Prop := windowMovesRow.holds Try.pinned (OpenSpec.ofChange windowMovesSpec)

/-- ITS FALSE NEIGHBOUR: 'it returns false'. Refute it at one input. -/
def windowMovesWrong : ChangeSpec := { name := "windowMoves", fn := fun _ => fun
  | [d1, d2, d3, d4] => { results := [.lit (.bool false)], args := [d1, d2, d3, d4] }
  | _ => none }
def WindowMovesWrongFalsely : Prop := windowMovesRow.holds Try.pinned (OpenSpec.ofChange windowMovesWrong)

/- THE SECOND FORM. 'bulk': how many values and letters a reading holds, each counted each time it is reached (what is shared counts as often as it is met; a slice's spare places count too). A statement '..UptoSaid' is the law's where the arguments, and the package variables that the reading takes, are together of bulk at most 1048576: NARROWER than '..Said'. Prove '..Said' where nothing that the law and all that it calls make is longer than what came in: it says more and counts as full. Else prove '..UptoSaid'. A law counts once. -/
mutual
def uptoBulk {H : Type} : DataW H → Nat
  | .lit (.string bytes) => bytes.length + 1
  | .lit _ => 1
  | .nil => 1
  | .ptr d => uptoBulk d + 1
  | .slice elems spare => uptoBulkAll elems + uptoBulkAll spare + 1
  | .agg parts => uptoBulkAll parts + 1
  | .iface _ d => uptoBulk d + 1
  | .map entries => uptoBulkEntries entries + 1
  | .held _ => 1
def uptoBulkAll {H : Type} : List (DataW H) → Nat
  | [] => 0
  | d :: r => uptoBulk d + uptoBulkAll r
def uptoBulkEntries {H : Type} : List (Lit × DataW H) → Nat
  | [] => 0
  | x :: r => uptoBulkEntry x + uptoBulkEntries r
def uptoBulkEntry {H : Type} : Lit × DataW H → Nat
  | (.string bytes, d) => bytes.length + uptoBulk d + 1
  | (_, d) => uptoBulk d + 1
 end
def uptoSmall : (H : Type) → List (DataW H) → Bool := fun _ ds => decide (uptoBulkAll ds ≤ 1048576)
def OpenSpec.upto (s : _root_.Go.ChangeSpec) : _root_.Go.OpenSpec := { _root_.Go.OpenSpec.ofChange s with cond := some uptoSmall }

/-- 'sacristanlaw12.WindowMatches', WHERE WHAT IT READS IS OF BULK AT MOST 1048576: true; the input reads as it did. -/
def windowMatchesUptoRow : OpenClaim := { program := "ytojgbacdniagiaa", sum := "0a49f734f68d9e1cd1e919dcfd0977ae5b962f12da31c6f20d393bfe54dee4a5", func := "sacristan/sacristanlaw12.WindowMatches", spec := "windowMatches", apart := false, narrowed := true }
def WindowMatchesUptoSaid : Prop := windowMatchesUptoRow.holds Try.pinned (OpenSpec.upto windowMatchesSpec)

/-- 'sacristanlaw12.WindowExamples', WHERE WHAT IT READS IS OF BULK AT MOST 1048576: true; the input reads as it did. -/
def windowExamplesUptoRow : OpenClaim := { program := "ytojgbacdniagiaa", sum := "0a49f734f68d9e1cd1e919dcfd0977ae5b962f12da31c6f20d393bfe54dee4a5", func := "sacristan/sacristanlaw12.WindowExamples", spec := "windowExamples", apart := false, narrowed := true }
def WindowExamplesUptoSaid : Prop := windowExamplesUptoRow.holds Try.pinned (OpenSpec.upto windowExamplesSpec)

/-- 'sacristanlaw12.WindowKeeps', WHERE WHAT IT READS IS OF BULK AT MOST 1048576: true; the input reads as it did. -/
def windowKeepsUptoRow : OpenClaim := { program := "ytojgbacdniagiaa", sum := "0a49f734f68d9e1cd1e919dcfd0977ae5b962f12da31c6f20d393bfe54dee4a5", func := "sacristan/sacristanlaw12.WindowKeeps", spec := "windowKeeps", apart := false, narrowed := true }
def WindowKeepsUptoSaid : Prop := windowKeepsUptoRow.holds Try.pinned (OpenSpec.upto windowKeepsSpec)

/-- 'sacristanlaw12.WindowHolds', WHERE WHAT IT READS IS OF BULK AT MOST 1048576: true; the input reads as it did. -/
def windowHoldsUptoRow : OpenClaim := { program := "ytojgbacdniagiaa", sum := "0a49f734f68d9e1cd1e919dcfd0977ae5b962f12da31c6f20d393bfe54dee4a5", func := "sacristan/sacristanlaw12.WindowHolds", spec := "windowHolds", apart := false, narrowed := true }
def WindowHoldsUptoSaid : Prop := windowHoldsUptoRow.holds Try.pinned (OpenSpec.upto windowHoldsSpec)

/-- 'sacristanlaw12.WindowAdds', WHERE WHAT IT READS IS OF BULK AT MOST 1048576: true; the input reads as it did. -/
def windowAddsUptoRow : OpenClaim := { program := "ytojgbacdniagiaa", sum := "0a49f734f68d9e1cd1e919dcfd0977ae5b962f12da31c6f20d393bfe54dee4a5", func := "sacristan/sacristanlaw12.WindowAdds", spec := "windowAdds", apart := false, narrowed := true }
def WindowAddsUptoSaid : Prop := windowAddsUptoRow.holds Try.pinned (OpenSpec.upto windowAddsSpec)

/-- 'sacristanlaw12.WindowMoves', WHERE WHAT IT READS IS OF BULK AT MOST 1048576: true; the input reads as it did. -/
def windowMovesUptoRow : OpenClaim := { program := "ytojgbacdniagiaa", sum := "0a49f734f68d9e1cd1e919dcfd0977ae5b962f12da31c6f20d393bfe54dee4a5", func := "sacristan/sacristanlaw12.WindowMoves", spec := "windowMoves", apart := false, narrowed := true }
def WindowMovesUptoSaid : Prop := windowMovesUptoRow.holds Try.pinned (OpenSpec.upto windowMovesSpec)

end Rows
end Go.Proofs.Ytojgbacdniagiaa
