/-
  No cell of these rows narrows 'for every input' (looked for: loops, veiled, ifaces, maps, wideKeys, modest, calm, conditions, laid).
  DERIVED. THE GIVEN ROWS OF THIS SEAT. 6 by the template 'for every input the law returns true; each argument reads behind the call as it read before'; 0 by the template 'total and deterministic' (their statements: YtngojgocplmedaaRTotals.lean).
  GIVEN WITH THE SEED: the statements are not yours to turn. If you find one false, say at which input.
  Laid BY PROGRAM, IN A SANDBOX (cutbox-rows.mjs): the forced cells as the released guide's own fill.sh prints them over the translation e9b3dc4dac30d7b4… (all of the seat's roots in one cut). By AI agents, Wed Nov 11 2026. No macro, syntax, notation, axiom, sorry.
-/
import Derived.Test.YtngojgocplmedaaRChecked
import GoSem.Claim
import GoSem.ClaimJoined
import GoSem.ClaimMapViews
import Derived.JoinedTies
import Derived.KernelRfl
namespace Go.Proofs.YtngojgocplmedaaR
/- THE CELL 'sum', in the pinned program and in every row, IS THE sha256 OF THE DUMP (.gsa) THAT YtngojgocplmedaaRProg.lean LOADS. Nothing in Lean hashes anything: it is a label: what it is worth is what the hold of that sum in a sandbox is worth. -/
noncomputable def Try.pinned : Pinned := { name := "ytngojgocplmedaar", sum := "e9b3dc4dac30d7b44e6d9f85463a109213b0a7d4437d8bdf119f488aa5ae3d63", checked := Try.checked }
namespace Rows
def none {H : Type} : Left H := { results := [], args := [] }

/-- 'sacristanlaw13.SpecMatches': WHATEVER THE INPUT: true; the input reads as it did. -/
def specMatchesSpec : ChangeSpec := { name := "specMatches", fn := fun _ => fun
  | [d1, d2] => { results := [.lit (.bool true)], args := [d1, d2] }
  | _ => none }
def specMatchesRow : OpenClaim := { program := "ytngojgocplmedaar", sum := "e9b3dc4dac30d7b44e6d9f85463a109213b0a7d4437d8bdf119f488aa5ae3d63", func := "sacristan/sacristanlaw13.SpecMatches", spec := "specMatches", inPlace := ["internal/abi.NoEscape"], unfollowed := true, recurses := true, apart := false }
def SpecMatchesSaid : Prop := specMatchesRow.holds Try.pinned (OpenSpec.ofChange specMatchesSpec)

/-- ITS FALSE NEIGHBOUR: 'it returns false'. Refute it at one input. -/
def specMatchesWrong : ChangeSpec := { name := "specMatches", fn := fun _ => fun
  | [d1, d2] => { results := [.lit (.bool false)], args := [d1, d2] }
  | _ => none }
def SpecMatchesWrongFalsely : Prop := specMatchesRow.holds Try.pinned (OpenSpec.ofChange specMatchesWrong)

/-- 'sacristanlaw13.SpecReads': WHATEVER THE INPUT: true; the input reads as it did. -/
def specReadsSpec : ChangeSpec := { name := "specReads", fn := fun _ => fun
  | [d] => { results := [.lit (.bool true)], args := [d] }
  | _ => none }
def specReadsRow : OpenClaim := { program := "ytngojgocplmedaar", sum := "e9b3dc4dac30d7b44e6d9f85463a109213b0a7d4437d8bdf119f488aa5ae3d63", func := "sacristan/sacristanlaw13.SpecReads", spec := "specReads", inPlace := ["internal/abi.NoEscape"], unfollowed := true, recurses := true, apart := false }
def SpecReadsSaid : Prop := specReadsRow.holds Try.pinned (OpenSpec.ofChange specReadsSpec)

/-- ITS FALSE NEIGHBOUR: 'it returns false'. Refute it at one input. -/
def specReadsWrong : ChangeSpec := { name := "specReads", fn := fun _ => fun
  | [d] => { results := [.lit (.bool false)], args := [d] }
  | _ => none }
def SpecReadsWrongFalsely : Prop := specReadsRow.holds Try.pinned (OpenSpec.ofChange specReadsWrong)

/-- 'sacristanlaw13.SpecConfigs': WHATEVER THE INPUT: true; the input reads as it did. -/
def specConfigsSpec : ChangeSpec := { name := "specConfigs", fn := fun _ => fun
  | [d1, d2] => { results := [.lit (.bool true)], args := [d1, d2] }
  | _ => none }
def specConfigsRow : OpenClaim := { program := "ytngojgocplmedaar", sum := "e9b3dc4dac30d7b44e6d9f85463a109213b0a7d4437d8bdf119f488aa5ae3d63", func := "sacristan/sacristanlaw13.SpecConfigs", spec := "specConfigs", inPlace := ["internal/abi.NoEscape"], unfollowed := true, recurses := true, apart := false }
def SpecConfigsSaid : Prop := specConfigsRow.holds Try.pinned (OpenSpec.ofChange specConfigsSpec)

/-- ITS FALSE NEIGHBOUR: 'it returns false'. Refute it at one input. -/
def specConfigsWrong : ChangeSpec := { name := "specConfigs", fn := fun _ => fun
  | [d1, d2] => { results := [.lit (.bool false)], args := [d1, d2] }
  | _ => none }
def SpecConfigsWrongFalsely : Prop := specConfigsRow.holds Try.pinned (OpenSpec.ofChange specConfigsWrong)

/-- 'sacristanlaw13.SpecBack': WHATEVER THE INPUT: true; the input reads as it did. -/
def specBackSpec : ChangeSpec := { name := "specBack", fn := fun _ => fun
  | [d1, d2] => { results := [.lit (.bool true)], args := [d1, d2] }
  | _ => none }
def specBackRow : OpenClaim := { program := "ytngojgocplmedaar", sum := "e9b3dc4dac30d7b44e6d9f85463a109213b0a7d4437d8bdf119f488aa5ae3d63", func := "sacristan/sacristanlaw13.SpecBack", spec := "specBack", inPlace := ["internal/abi.NoEscape"], unfollowed := true, recurses := true, apart := false }
def SpecBackSaid : Prop := specBackRow.holds Try.pinned (OpenSpec.ofChange specBackSpec)

/-- ITS FALSE NEIGHBOUR: 'it returns false'. Refute it at one input. -/
def specBackWrong : ChangeSpec := { name := "specBack", fn := fun _ => fun
  | [d1, d2] => { results := [.lit (.bool false)], args := [d1, d2] }
  | _ => none }
def SpecBackWrongFalsely : Prop := specBackRow.holds Try.pinned (OpenSpec.ofChange specBackWrong)

/-- 'sacristanlaw13.SpecApart': WHATEVER THE INPUT: true; the input reads as it did. -/
def specApartSpec : ChangeSpec := { name := "specApart", fn := fun _ => fun
  | [d1, d2] => { results := [.lit (.bool true)], args := [d1, d2] }
  | _ => none }
def specApartRow : OpenClaim := { program := "ytngojgocplmedaar", sum := "e9b3dc4dac30d7b44e6d9f85463a109213b0a7d4437d8bdf119f488aa5ae3d63", func := "sacristan/sacristanlaw13.SpecApart", spec := "specApart", inPlace := ["internal/abi.NoEscape"], unfollowed := true, recurses := true, apart := false }
def SpecApartSaid : Prop := specApartRow.holds Try.pinned (OpenSpec.ofChange specApartSpec)

/-- ITS FALSE NEIGHBOUR: 'it returns false'. Refute it at one input. -/
def specApartWrong : ChangeSpec := { name := "specApart", fn := fun _ => fun
  | [d1, d2] => { results := [.lit (.bool false)], args := [d1, d2] }
  | _ => none }
def SpecApartWrongFalsely : Prop := specApartRow.holds Try.pinned (OpenSpec.ofChange specApartWrong)

/-- 'sacristanlaw13.SpecRow': WHATEVER THE INPUT: true; the input reads as it did. -/
def specRowSpec : ChangeSpec := { name := "specRow", fn := fun _ => fun
  | [d] => { results := [.lit (.bool true)], args := [d] }
  | _ => none }
def specRowRow : OpenClaim := { program := "ytngojgocplmedaar", sum := "e9b3dc4dac30d7b44e6d9f85463a109213b0a7d4437d8bdf119f488aa5ae3d63", func := "sacristan/sacristanlaw13.SpecRow", spec := "specRow", inPlace := ["internal/abi.NoEscape"], unfollowed := true, recurses := true, apart := false }
def SpecRowSaid : Prop := specRowRow.holds Try.pinned (OpenSpec.ofChange specRowSpec)

/-- ITS FALSE NEIGHBOUR: 'it returns false'. Refute it at one input. -/
def specRowWrong : ChangeSpec := { name := "specRow", fn := fun _ => fun
  | [d] => { results := [.lit (.bool false)], args := [d] }
  | _ => none }
def SpecRowWrongFalsely : Prop := specRowRow.holds Try.pinned (OpenSpec.ofChange specRowWrong)

/- THE SECOND FORM. 'bulk': how many values and letters a reading holds, each counted each time it is reached (what is shared counts as often as it is met; a slice's spare places count too). A statement '..UptoSaid' is the law's where the arguments, and the package variables that the reading takes, are together of bulk at most 1048576: NARROWER than '..Said'. Prove '..Said' where nothing that the law and all that it calls make is longer than what came in: it says more and counts as full. Else prove '..UptoSaid'. A law counts once. -/
mutual
def uptoBulk {H : Type} : DataW H → Nat
  | .lit (.string bytes) => bytes.length + 1
  | .lit _ => 1
  | .nil => 1
  | .ptr d => uptoBulk d + 1
  | .slice elems spare => uptoBulkAll elems + uptoBulkAll spare + 1
  | .agg parts => uptoBulkAll parts + 1
  | .iface _ d => uptoBulk d + 1
  | .map entries => uptoBulkEntries entries + 1
  | .held _ => 1
def uptoBulkAll {H : Type} : List (DataW H) → Nat
  | [] => 0
  | d :: r => uptoBulk d + uptoBulkAll r
def uptoBulkEntries {H : Type} : List (Lit × DataW H) → Nat
  | [] => 0
  | x :: r => uptoBulkEntry x + uptoBulkEntries r
def uptoBulkEntry {H : Type} : Lit × DataW H → Nat
  | (.string bytes, d) => bytes.length + uptoBulk d + 1
  | (_, d) => uptoBulk d + 1
 end
def uptoSmall : (H : Type) → List (DataW H) → Bool := fun _ ds => decide (uptoBulkAll ds ≤ 1048576)
def OpenSpec.upto (s : _root_.Go.ChangeSpec) : _root_.Go.OpenSpec := { _root_.Go.OpenSpec.ofChange s with cond := some uptoSmall }

/-- 'sacristanlaw13.SpecMatches', WHERE WHAT IT READS IS OF BULK AT MOST 1048576: true; the input reads as it did. -/
def specMatchesUptoRow : OpenClaim := { program := "ytngojgocplmedaar", sum := "e9b3dc4dac30d7b44e6d9f85463a109213b0a7d4437d8bdf119f488aa5ae3d63", func := "sacristan/sacristanlaw13.SpecMatches", spec := "specMatches", inPlace := ["internal/abi.NoEscape"], unfollowed := true, recurses := true, apart := false, narrowed := true }
def SpecMatchesUptoSaid : Prop := specMatchesUptoRow.holds Try.pinned (OpenSpec.upto specMatchesSpec)

/-- 'sacristanlaw13.SpecReads', WHERE WHAT IT READS IS OF BULK AT MOST 1048576: true; the input reads as it did. -/
def specReadsUptoRow : OpenClaim := { program := "ytngojgocplmedaar", sum := "e9b3dc4dac30d7b44e6d9f85463a109213b0a7d4437d8bdf119f488aa5ae3d63", func := "sacristan/sacristanlaw13.SpecReads", spec := "specReads", inPlace := ["internal/abi.NoEscape"], unfollowed := true, recurses := true, apart := false, narrowed := true }
def SpecReadsUptoSaid : Prop := specReadsUptoRow.holds Try.pinned (OpenSpec.upto specReadsSpec)

/-- 'sacristanlaw13.SpecConfigs', WHERE WHAT IT READS IS OF BULK AT MOST 1048576: true; the input reads as it did. -/
def specConfigsUptoRow : OpenClaim := { program := "ytngojgocplmedaar", sum := "e9b3dc4dac30d7b44e6d9f85463a109213b0a7d4437d8bdf119f488aa5ae3d63", func := "sacristan/sacristanlaw13.SpecConfigs", spec := "specConfigs", inPlace := ["internal/abi.NoEscape"], unfollowed := true, recurses := true, apart := false, narrowed := true }
def SpecConfigsUptoSaid : Prop := specConfigsUptoRow.holds Try.pinned (OpenSpec.upto specConfigsSpec)

/-- 'sacristanlaw13.SpecBack', WHERE WHAT IT READS IS OF BULK AT MOST 1048576: true; the input reads as it did. -/
def specBackUptoRow : OpenClaim := { program := "ytngojgocplmedaar", sum := "e9b3dc4dac30d7b44e6d9f85463a109213b0a7d4437d8bdf119f488aa5ae3d63", func := "sacristan/sacristanlaw13.SpecBack", spec := "specBack", inPlace := ["internal/abi.NoEscape"], unfollowed := true, recurses := true, apart := false, narrowed := true }
def SpecBackUptoSaid : Prop := specBackUptoRow.holds Try.pinned (OpenSpec.upto specBackSpec)

/-- 'sacristanlaw13.SpecApart', WHERE WHAT IT READS IS OF BULK AT MOST 1048576: true; the input reads as it did. -/
def specApartUptoRow : OpenClaim := { program := "ytngojgocplmedaar", sum := "e9b3dc4dac30d7b44e6d9f85463a109213b0a7d4437d8bdf119f488aa5ae3d63", func := "sacristan/sacristanlaw13.SpecApart", spec := "specApart", inPlace := ["internal/abi.NoEscape"], unfollowed := true, recurses := true, apart := false, narrowed := true }
def SpecApartUptoSaid : Prop := specApartUptoRow.holds Try.pinned (OpenSpec.upto specApartSpec)

/-- 'sacristanlaw13.SpecRow', WHERE WHAT IT READS IS OF BULK AT MOST 1048576: true; the input reads as it did. -/
def specRowUptoRow : OpenClaim := { program := "ytngojgocplmedaar", sum := "e9b3dc4dac30d7b44e6d9f85463a109213b0a7d4437d8bdf119f488aa5ae3d63", func := "sacristan/sacristanlaw13.SpecRow", spec := "specRow", inPlace := ["internal/abi.NoEscape"], unfollowed := true, recurses := true, apart := false, narrowed := true }
def SpecRowUptoSaid : Prop := specRowUptoRow.holds Try.pinned (OpenSpec.upto specRowSpec)

end Rows
end Go.Proofs.YtngojgocplmedaaR
