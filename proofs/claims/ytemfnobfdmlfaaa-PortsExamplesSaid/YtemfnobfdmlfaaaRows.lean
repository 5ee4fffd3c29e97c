/-
  No cell of these rows narrows 'for every input' (looked for: loops, veiled, ifaces, maps, wideKeys, modest, calm, conditions, laid).
  DERIVED. THE GIVEN ROWS OF THIS SEAT. 6 by the template 'for every input the law returns true; each argument reads behind the call as it read before'; 0 by the template 'total and deterministic' (their statements: YtemfnobfdmlfaaaTotals.lean).
  GIVEN WITH THE SEED: the statements are not yours to turn. If you find one false, say at which input.
  Laid BY PROGRAM, IN A SANDBOX (cutbox-rows.mjs): the forced cells as the released guide's own fill.sh prints them over the translation 6eaa5fe17e69262b… (all of the seat's roots in one cut). By AI agents, Wed Nov 11 2026. No macro, syntax, notation, axiom, sorry.
-/
import Derived.Test.YtemfnobfdmlfaaaChecked
import GoSem.Claim
import GoSem.ClaimJoined
import GoSem.ClaimMapViews
import Derived.JoinedTies
import Derived.KernelRfl
namespace Go.Proofs.Ytemfnobfdmlfaaa
/- THE CELL 'sum', in the pinned program and in every row, IS THE sha256 OF THE DUMP (.gsa) THAT YtemfnobfdmlfaaaProg.lean LOADS. Nothing in Lean hashes anything: it is a label: what it is worth is what the hold of that sum in a sandbox is worth. -/
noncomputable def Try.pinned : Pinned := { name := "ytemfnobfdmlfaaa", sum := "6eaa5fe17e69262b0c29ec741e75e45ddd6321aa386fa4becbdce710710f1ac7", checked := Try.checked }
namespace Rows
def none {H : Type} : Left H := { results := [], args := [] }

/-- 'sacristanlaw10.PortsPairs': WHATEVER THE INPUT: true; the input reads as it did. -/
def portsPairsSpec : ChangeSpec := { name := "portsPairs", fn := fun _ => fun
  | [d1, d2, d3] => { results := [.lit (.bool true)], args := [d1, d2, d3] }
  | _ => none }
def portsPairsRow : OpenClaim := { program := "ytemfnobfdmlfaaa", sum := "6eaa5fe17e69262b0c29ec741e75e45ddd6321aa386fa4becbdce710710f1ac7", func := "sacristan/sacristanlaw10.PortsPairs", spec := "portsPairs", unfollowed := true, recurses := true, apart := false }
def PortsPairsSaid : Prop := portsPairsRow.holds Try.pinned (OpenSpec.ofChange portsPairsSpec)

/-- ITS FALSE NEIGHBOUR: 'it returns false'. Refute it at one input. -/
def portsPairsWrong : ChangeSpec := { name := "portsPairs", fn := fun _ => fun
  | [d1, d2, d3] => { results := [.lit (.bool false)], args := [d1, d2, d3] }
  | _ => none }
def PortsPairsWrongFalsely : Prop := portsPairsRow.holds Try.pinned (OpenSpec.ofChange portsPairsWrong)

/-- 'sacristanlaw10.PortsUnions': WHATEVER THE INPUT: true; the input reads as it did. -/
def portsUnionsSpec : ChangeSpec := { name := "portsUnions", fn := fun _ => fun
  | [d] => { results := [.lit (.bool true)], args := [d] }
  | _ => none }
def portsUnionsRow : OpenClaim := { program := "ytemfnobfdmlfaaa", sum := "6eaa5fe17e69262b0c29ec741e75e45ddd6321aa386fa4becbdce710710f1ac7", func := "sacristan/sacristanlaw10.PortsUnions", spec := "portsUnions", unfollowed := true, recurses := true, apart := false }
def PortsUnionsSaid : Prop := portsUnionsRow.holds Try.pinned (OpenSpec.ofChange portsUnionsSpec)

/-- ITS FALSE NEIGHBOUR: 'it returns false'. Refute it at one input. -/
def portsUnionsWrong : ChangeSpec := { name := "portsUnions", fn := fun _ => fun
  | [d] => { results := [.lit (.bool false)], args := [d] }
  | _ => none }
def PortsUnionsWrongFalsely : Prop := portsUnionsRow.holds Try.pinned (OpenSpec.ofChange portsUnionsWrong)

/-- 'sacristanlaw10.PortsExamples': WHATEVER THE INPUT: true; the input reads as it did. -/
def portsExamplesSpec : ChangeSpec := { name := "portsExamples", fn := fun _ => fun
  | [] => { results := [.lit (.bool true)], args := [] }
  | _ => none }
def portsExamplesRow : OpenClaim := { program := "ytemfnobfdmlfaaa", sum := "6eaa5fe17e69262b0c29ec741e75e45ddd6321aa386fa4becbdce710710f1ac7", func := "sacristan/sacristanlaw10.PortsExamples", spec := "portsExamples", unfollowed := true, recurses := true, apart := false }
def PortsExamplesSaid : Prop := portsExamplesRow.holds Try.pinned (OpenSpec.ofChange portsExamplesSpec)

/-- ITS FALSE NEIGHBOUR: 'it returns false'. Refute it at one input. -/
def portsExamplesWrong : ChangeSpec := { name := "portsExamples", fn := fun _ => fun
  | [] => { results := [.lit (.bool false)], args := [] }
  | _ => none }
def PortsExamplesWrongFalsely : Prop := portsExamplesRow.holds Try.pinned (OpenSpec.ofChange portsExamplesWrong)

/-- 'sacristanlaw10.PortsSets': WHATEVER THE INPUT: true; the input reads as it did. -/
def portsSetsSpec : ChangeSpec := { name := "portsSets", fn := fun _ => fun
  | [d1, d2, d3] => { results := [.lit (.bool true)], args := [d1, d2, d3] }
  | _ => none }
def portsSetsRow : OpenClaim := { program := "ytemfnobfdmlfaaa", sum := "6eaa5fe17e69262b0c29ec741e75e45ddd6321aa386fa4becbdce710710f1ac7", func := "sacristan/sacristanlaw10.PortsSets", spec := "portsSets", unfollowed := true, recurses := true, apart := false }
def PortsSetsSaid : Prop := portsSetsRow.holds Try.pinned (OpenSpec.ofChange portsSetsSpec)

/-- ITS FALSE NEIGHBOUR: 'it returns false'. Refute it at one input. -/
def portsSetsWrong : ChangeSpec := { name := "portsSets", fn := fun _ => fun
  | [d1, d2, d3] => { results := [.lit (.bool false)], args := [d1, d2, d3] }
  | _ => none }
def PortsSetsWrongFalsely : Prop := portsSetsRow.holds Try.pinned (OpenSpec.ofChange portsSetsWrong)

/-- 'sacristanlaw10.PortsOrder': WHATEVER THE INPUT: true; the input reads as it did. -/
def portsOrderSpec : ChangeSpec := { name := "portsOrder", fn := fun _ => fun
  | [d1, d2, d3] => { results := [.lit (.bool true)], args := [d1, d2, d3] }
  | _ => none }
def portsOrderRow : OpenClaim := { program := "ytemfnobfdmlfaaa", sum := "6eaa5fe17e69262b0c29ec741e75e45ddd6321aa386fa4becbdce710710f1ac7", func := "sacristan/sacristanlaw10.PortsOrder", spec := "portsOrder", unfollowed := true, recurses := true, apart := false }
def PortsOrderSaid : Prop := portsOrderRow.holds Try.pinned (OpenSpec.ofChange portsOrderSpec)

/-- ITS FALSE NEIGHBOUR: 'it returns false'. Refute it at one input. -/
def portsOrderWrong : ChangeSpec := { name := "portsOrder", fn := fun _ => fun
  | [d1, d2, d3] => { results := [.lit (.bool false)], args := [d1, d2, d3] }
  | _ => none }
def PortsOrderWrongFalsely : Prop := portsOrderRow.holds Try.pinned (OpenSpec.ofChange portsOrderWrong)

/-- 'sacristanlaw10.PortsParts': WHATEVER THE INPUT: true; the input reads as it did. -/
def portsPartsSpec : ChangeSpec := { name := "portsParts", fn := fun _ => fun
  | [d1, d2, d3] => { results := [.lit (.bool true)], args := [d1, d2, d3] }
  | _ => none }
def portsPartsRow : OpenClaim := { program := "ytemfnobfdmlfaaa", sum := "6eaa5fe17e69262b0c29ec741e75e45ddd6321aa386fa4becbdce710710f1ac7", func := "sacristan/sacristanlaw10.PortsParts", spec := "portsParts", unfollowed := true, recurses := true, apart := false }
def PortsPartsSaid : Prop := portsPartsRow.holds Try.pinned (OpenSpec.ofChange portsPartsSpec)

/-- ITS FALSE NEIGHBOUR: 'it returns false'. Refute it at one input. -/
def portsPartsWrong : ChangeSpec := { name := "portsParts", fn := fun _ => fun
  | [d1, d2, d3] => { results := [.lit (.bool false)], args := [d1, d2, d3] }
  | _ => none }
def PortsPartsWrongFalsely : Prop := portsPartsRow.holds Try.pinned (OpenSpec.ofChange portsPartsWrong)

/- THE SECOND FORM. 'bulk': how many values and letters a reading holds, each counted each time it is reached (what is shared counts as often as it is met; a slice's spare places count too). A statement '..UptoSaid' is the law's where the arguments, and the package variables that the reading takes, are together of bulk at most 1048576: NARROWER than '..Said'. Prove '..Said' where nothing that the law and all that it calls make is longer than what came in: it says more and counts as full. Else prove '..UptoSaid'. A law counts once. -/
mutual
def uptoBulk {H : Type} : DataW H → Nat
  | .lit (.string bytes) => bytes.length + 1
  | .lit _ => 1
  | .nil => 1
  | .ptr d => uptoBulk d + 1
  | .slice elems spare => uptoBulkAll elems + uptoBulkAll spare + 1
  | .agg parts => uptoBulkAll parts + 1
  | .iface _ d => uptoBulk d + 1
  | .map entries => uptoBulkEntries entries + 1
  | .held _ => 1
def uptoBulkAll {H : Type} : List (DataW H) → Nat
  | [] => 0
  | d :: r => uptoBulk d + uptoBulkAll r
def uptoBulkEntries {H : Type} : List (Lit × DataW H) → Nat
  | [] => 0
  | x :: r => uptoBulkEntry x + uptoBulkEntries r
def uptoBulkEntry {H : Type} : Lit × DataW H → Nat
  | (.string bytes, d) => bytes.length + uptoBulk d + 1
  | (_, d) => uptoBulk d + 1
 end
def uptoSmall : (H : Type) → List (DataW H) → Bool := fun _ ds => decide (uptoBulkAll ds ≤ 1048576)
def OpenSpec.upto (s : _root_.Go.ChangeSpec) : _root_.Go.OpenSpec := { _root_.Go.OpenSpec.ofChange s with cond := some uptoSmall }

/-- 'sacristanlaw10.PortsPairs', WHERE WHAT IT READS IS OF BULK AT MOST 1048576: true; the input reads as it did. -/
def portsPairsUptoRow : OpenClaim := { program := "ytemfnobfdmlfaaa", sum := "6eaa5fe17e69262b0c29ec741e75e45ddd6321aa386fa4becbdce710710f1ac7", func := "sacristan/sacristanlaw10.PortsPairs", spec := "portsPairs", unfollowed := true, recurses := true, apart := false, narrowed := true }
def PortsPairsUptoSaid : Prop := portsPairsUptoRow.holds Try.pinned (OpenSpec.upto portsPairsSpec)

/-- 'sacristanlaw10.PortsUnions', WHERE WHAT IT READS IS OF BULK AT MOST 1048576: true; the input reads as it did. -/
def portsUnionsUptoRow : OpenClaim := { program := "ytemfnobfdmlfaaa", sum := "6eaa5fe17e69262b0c29ec741e75e45ddd6321aa386fa4becbdce710710f1ac7", func := "sacristan/sacristanlaw10.PortsUnions", spec := "portsUnions", unfollowed := true, recurses := true, apart := false, narrowed := true }
def PortsUnionsUptoSaid : Prop := portsUnionsUptoRow.holds Try.pinned (OpenSpec.upto portsUnionsSpec)

/-- 'sacristanlaw10.PortsExamples', WHERE WHAT IT READS IS OF BULK AT MOST 1048576: true; the input reads as it did. -/
def portsExamplesUptoRow : OpenClaim := { program := "ytemfnobfdmlfaaa", sum := "6eaa5fe17e69262b0c29ec741e75e45ddd6321aa386fa4becbdce710710f1ac7", func := "sacristan/sacristanlaw10.PortsExamples", spec := "portsExamples", unfollowed := true, recurses := true, apart := false, narrowed := true }
def PortsExamplesUptoSaid : Prop := portsExamplesUptoRow.holds Try.pinned (OpenSpec.upto portsExamplesSpec)

/-- 'sacristanlaw10.PortsSets', WHERE WHAT IT READS IS OF BULK AT MOST 1048576: true; the input reads as it did. -/
def portsSetsUptoRow : OpenClaim := { program := "ytemfnobfdmlfaaa", sum := "6eaa5fe17e69262b0c29ec741e75e45ddd6321aa386fa4becbdce710710f1ac7", func := "sacristan/sacristanlaw10.PortsSets", spec := "portsSets", unfollowed := true, recurses := true, apart := false, narrowed := true }
def PortsSetsUptoSaid : Prop := portsSetsUptoRow.holds Try.pinned (OpenSpec.upto portsSetsSpec)

/-- 'sacristanlaw10.PortsOrder', WHERE WHAT IT READS IS OF BULK AT MOST 1048576: true; the input reads as it did. -/
def portsOrderUptoRow : OpenClaim := { program := "ytemfnobfdmlfaaa", sum := "6eaa5fe17e69262b0c29ec741e75e45ddd6321aa386fa4becbdce710710f1ac7", func := "sacristan/sacristanlaw10.PortsOrder", spec := "portsOrder", unfollowed := true, recurses := true, apart := false, narrowed := true }
def PortsOrderUptoSaid : Prop := portsOrderUptoRow.holds Try.pinned (OpenSpec.upto portsOrderSpec)

/-- 'sacristanlaw10.PortsParts', WHERE WHAT IT READS IS OF BULK AT MOST 1048576: true; the input reads as it did. -/
def portsPartsUptoRow : OpenClaim := { program := "ytemfnobfdmlfaaa", sum := "6eaa5fe17e69262b0c29ec741e75e45ddd6321aa386fa4becbdce710710f1ac7", func := "sacristan/sacristanlaw10.PortsParts", spec := "portsParts", unfollowed := true, recurses := true, apart := false, narrowed := true }
def PortsPartsUptoSaid : Prop := portsPartsUptoRow.holds Try.pinned (OpenSpec.upto portsPartsSpec)

end Rows
end Go.Proofs.Ytemfnobfdmlfaaa
