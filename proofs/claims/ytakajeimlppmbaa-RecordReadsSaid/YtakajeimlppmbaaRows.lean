/-
  No cell of these rows narrows 'for every input' (looked for: loops, veiled, ifaces, maps, wideKeys, modest, calm, conditions, laid).
  DERIVED. THE GIVEN ROWS OF THIS SEAT. 7 by the template 'for every input the law returns true; each argument reads behind the call as it read before'; 0 by the template 'total and deterministic' (their statements: YtakajeimlppmbaaTotals.lean).
  GIVEN WITH THE SEED: the statements are not yours to turn. If you find one false, say at which input.
  Laid BY PROGRAM, IN A SANDBOX (cutbox-rows.mjs): the forced cells as the released guide's own fill.sh prints them over the translation a9f79f017a911c83… (all of the seat's roots in one cut). By AI agents, Wed Nov 11 2026. No macro, syntax, notation, axiom, sorry.
-/
import Derived.Test.YtakajeimlppmbaaChecked
import GoSem.Claim
import GoSem.ClaimJoined
import GoSem.ClaimMapViews
import Derived.JoinedTies
import Derived.KernelRfl
namespace Go.Proofs.Ytakajeimlppmbaa
/- THE CELL 'sum', in the pinned program and in every row, IS THE sha256 OF THE DUMP (.gsa) THAT YtakajeimlppmbaaProg.lean LOADS. Nothing in Lean hashes anything: it is a label: what it is worth is what the hold of that sum in a sandbox is worth. -/
noncomputable def Try.pinned : Pinned := { name := "ytakajeimlppmbaa", sum := "a9f79f017a911c83115b81d2daaf3b30cd40e8668b5d7d88aebaf60e11dbd56e", checked := Try.checked }
namespace Rows
def none {H : Type} : Left H := { results := [], args := [] }

/-- 'sacristanlaw06.RecordSectors': WHATEVER THE INPUT: true; the input reads as it did. -/
def recordSectorsSpec : ChangeSpec := { name := "recordSectors", fn := fun _ => fun
  | [d1, d2, d3, d4, d5] => { results := [.lit (.bool true)], args := [d1, d2, d3, d4, d5] }
  | _ => none }
def recordSectorsRow : OpenClaim := { program := "ytakajeimlppmbaa", sum := "a9f79f017a911c83115b81d2daaf3b30cd40e8668b5d7d88aebaf60e11dbd56e", func := "sacristan/sacristanlaw06.RecordSectors", spec := "recordSectors", inPlace := ["internal/abi.NoEscape", "internal/bytealg.MakeNoZero"], unfollowed := true, recurses := true, apart := false }
def RecordSectorsSaid : Prop := recordSectorsRow.holds Try.pinned (OpenSpec.ofChange recordSectorsSpec)

/-- ITS FALSE NEIGHBOUR: 'it returns false'. Refute it at one input. -/
def recordSectorsWrong : ChangeSpec := { name := "recordSectors", fn := fun _ => fun
  | [d1, d2, d3, d4, d5] => { results := [.lit (.bool false)], args := [d1, d2, d3, d4, d5] }
  | _ => none }
def RecordSectorsWrongFalsely : Prop := recordSectorsRow.holds Try.pinned (OpenSpec.ofChange recordSectorsWrong)

/-- 'sacristanlaw06.RecordReads': WHATEVER THE INPUT: true; the input reads as it did. -/
def recordReadsSpec : ChangeSpec := { name := "recordReads", fn := fun _ => fun
  | [d1, d2, d3, d4, d5] => { results := [.lit (.bool true)], args := [d1, d2, d3, d4, d5] }
  | _ => none }
def recordReadsRow : OpenClaim := { program := "ytakajeimlppmbaa", sum := "a9f79f017a911c83115b81d2daaf3b30cd40e8668b5d7d88aebaf60e11dbd56e", func := "sacristan/sacristanlaw06.RecordReads", spec := "recordReads", inPlace := ["internal/abi.NoEscape", "internal/bytealg.MakeNoZero"], unfollowed := true, recurses := true, apart := false }
def RecordReadsSaid : Prop := recordReadsRow.holds Try.pinned (OpenSpec.ofChange recordReadsSpec)

/-- ITS FALSE NEIGHBOUR: 'it returns false'. Refute it at one input. -/
def recordReadsWrong : ChangeSpec := { name := "recordReads", fn := fun _ => fun
  | [d1, d2, d3, d4, d5] => { results := [.lit (.bool false)], args := [d1, d2, d3, d4, d5] }
  | _ => none }
def RecordReadsWrongFalsely : Prop := recordReadsRow.holds Try.pinned (OpenSpec.ofChange recordReadsWrong)

/-- 'sacristanlaw06.RecordExamples': WHATEVER THE INPUT: true; the input reads as it did. -/
def recordExamplesSpec : ChangeSpec := { name := "recordExamples", fn := fun _ => fun
  | [] => { results := [.lit (.bool true)], args := [] }
  | _ => none }
def recordExamplesRow : OpenClaim := { program := "ytakajeimlppmbaa", sum := "a9f79f017a911c83115b81d2daaf3b30cd40e8668b5d7d88aebaf60e11dbd56e", func := "sacristan/sacristanlaw06.RecordExamples", spec := "recordExamples", inPlace := ["internal/abi.NoEscape", "internal/bytealg.MakeNoZero"], unfollowed := true, recurses := true, apart := false }
def RecordExamplesSaid : Prop := recordExamplesRow.holds Try.pinned (OpenSpec.ofChange recordExamplesSpec)

/-- ITS FALSE NEIGHBOUR: 'it returns false'. Refute it at one input. -/
def recordExamplesWrong : ChangeSpec := { name := "recordExamples", fn := fun _ => fun
  | [] => { results := [.lit (.bool false)], args := [] }
  | _ => none }
def RecordExamplesWrongFalsely : Prop := recordExamplesRow.holds Try.pinned (OpenSpec.ofChange recordExamplesWrong)

/-- 'sacristanlaw06.RecordBack': WHATEVER THE INPUT: true; the input reads as it did. -/
def recordBackSpec : ChangeSpec := { name := "recordBack", fn := fun _ => fun
  | [d1, d2, d3, d4, d5, d6] => { results := [.lit (.bool true)], args := [d1, d2, d3, d4, d5, d6] }
  | _ => none }
def recordBackRow : OpenClaim := { program := "ytakajeimlppmbaa", sum := "a9f79f017a911c83115b81d2daaf3b30cd40e8668b5d7d88aebaf60e11dbd56e", func := "sacristan/sacristanlaw06.RecordBack", spec := "recordBack", inPlace := ["internal/abi.NoEscape", "internal/bytealg.MakeNoZero"], unfollowed := true, recurses := true, apart := false }
def RecordBackSaid : Prop := recordBackRow.holds Try.pinned (OpenSpec.ofChange recordBackSpec)

/-- ITS FALSE NEIGHBOUR: 'it returns false'. Refute it at one input. -/
def recordBackWrong : ChangeSpec := { name := "recordBack", fn := fun _ => fun
  | [d1, d2, d3, d4, d5, d6] => { results := [.lit (.bool false)], args := [d1, d2, d3, d4, d5, d6] }
  | _ => none }
def RecordBackWrongFalsely : Prop := recordBackRow.holds Try.pinned (OpenSpec.ofChange recordBackWrong)

/-- 'sacristanlaw06.RecordTorn': WHATEVER THE INPUT: true; the input reads as it did. -/
def recordTornSpec : ChangeSpec := { name := "recordTorn", fn := fun _ => fun
  | [d1, d2, d3, d4, d5, d6, d7] => { results := [.lit (.bool true)], args := [d1, d2, d3, d4, d5, d6, d7] }
  | _ => none }
def recordTornRow : OpenClaim := { program := "ytakajeimlppmbaa", sum := "a9f79f017a911c83115b81d2daaf3b30cd40e8668b5d7d88aebaf60e11dbd56e", func := "sacristan/sacristanlaw06.RecordTorn", spec := "recordTorn", inPlace := ["internal/abi.NoEscape", "internal/bytealg.MakeNoZero"], unfollowed := true, recurses := true, apart := false }
def RecordTornSaid : Prop := recordTornRow.holds Try.pinned (OpenSpec.ofChange recordTornSpec)

/-- ITS FALSE NEIGHBOUR: 'it returns false'. Refute it at one input. -/
def recordTornWrong : ChangeSpec := { name := "recordTorn", fn := fun _ => fun
  | [d1, d2, d3, d4, d5, d6, d7] => { results := [.lit (.bool false)], args := [d1, d2, d3, d4, d5, d6, d7] }
  | _ => none }
def RecordTornWrongFalsely : Prop := recordTornRow.holds Try.pinned (OpenSpec.ofChange recordTornWrong)

/-- 'sacristanlaw06.RecordAlone': WHATEVER THE INPUT: true; the input reads as it did. -/
def recordAloneSpec : ChangeSpec := { name := "recordAlone", fn := fun _ => fun
  | [d1, d2, d3] => { results := [.lit (.bool true)], args := [d1, d2, d3] }
  | _ => none }
def recordAloneRow : OpenClaim := { program := "ytakajeimlppmbaa", sum := "a9f79f017a911c83115b81d2daaf3b30cd40e8668b5d7d88aebaf60e11dbd56e", func := "sacristan/sacristanlaw06.RecordAlone", spec := "recordAlone", inPlace := ["internal/abi.NoEscape", "internal/bytealg.MakeNoZero"], unfollowed := true, recurses := true, apart := false }
def RecordAloneSaid : Prop := recordAloneRow.holds Try.pinned (OpenSpec.ofChange recordAloneSpec)

/-- ITS FALSE NEIGHBOUR: 'it returns false'. Refute it at one input. -/
def recordAloneWrong : ChangeSpec := { name := "recordAlone", fn := fun _ => fun
  | [d1, d2, d3] => { results := [.lit (.bool false)], args := [d1, d2, d3] }
  | _ => none }
def RecordAloneWrongFalsely : Prop := recordAloneRow.holds Try.pinned (OpenSpec.ofChange recordAloneWrong)

/-- 'sacristanlaw06.RecordRow': WHATEVER THE INPUT: true; the input reads as it did. -/
def recordRowSpec : ChangeSpec := { name := "recordRow", fn := fun _ => fun
  | [d1, d2, d3] => { results := [.lit (.bool true)], args := [d1, d2, d3] }
  | _ => none }
def recordRowRow : OpenClaim := { program := "ytakajeimlppmbaa", sum := "a9f79f017a911c83115b81d2daaf3b30cd40e8668b5d7d88aebaf60e11dbd56e", func := "sacristan/sacristanlaw06.RecordRow", spec := "recordRow", inPlace := ["internal/abi.NoEscape", "internal/bytealg.MakeNoZero"], unfollowed := true, recurses := true, apart := false }
def RecordRowSaid : Prop := recordRowRow.holds Try.pinned (OpenSpec.ofChange recordRowSpec)

/-- ITS FALSE NEIGHBOUR: 'it returns false'. Refute it at one input. -/
def recordRowWrong : ChangeSpec := { name := "recordRow", fn := fun _ => fun
  | [d1, d2, d3] => { results := [.lit (.bool false)], args := [d1, d2, d3] }
  | _ => none }
def RecordRowWrongFalsely : Prop := recordRowRow.holds Try.pinned (OpenSpec.ofChange recordRowWrong)

/- THE SECOND FORM. 'bulk': how many values and letters a reading holds, each counted each time it is reached (what is shared counts as often as it is met; a slice's spare places count too). A statement '..UptoSaid' is the law's where the arguments, and the package variables that the reading takes, are together of bulk at most 1048576: NARROWER than '..Said'. Prove '..Said' where nothing that the law and all that it calls make is longer than what came in: it says more and counts as full. Else prove '..UptoSaid'. A law counts once. -/
mutual
def uptoBulk {H : Type} : DataW H → Nat
  | .lit (.string bytes) => bytes.length + 1
  | .lit _ => 1
  | .nil => 1
  | .ptr d => uptoBulk d + 1
  | .slice elems spare => uptoBulkAll elems + uptoBulkAll spare + 1
  | .agg parts => uptoBulkAll parts + 1
  | .iface _ d => uptoBulk d + 1
  | .map entries => uptoBulkEntries entries + 1
  | .held _ => 1
def uptoBulkAll {H : Type} : List (DataW H) → Nat
  | [] => 0
  | d :: r => uptoBulk d + uptoBulkAll r
def uptoBulkEntries {H : Type} : List (Lit × DataW H) → Nat
  | [] => 0
  | x :: r => uptoBulkEntry x + uptoBulkEntries r
def uptoBulkEntry {H : Type} : Lit × DataW H → Nat
  | (.string bytes, d) => bytes.length + uptoBulk d + 1
  | (_, d) => uptoBulk d + 1
 end
def uptoSmall : (H : Type) → List (DataW H) → Bool := fun _ ds => decide (uptoBulkAll ds ≤ 1048576)
def OpenSpec.upto (s : _root_.Go.ChangeSpec) : _root_.Go.OpenSpec := { _root_.Go.OpenSpec.ofChange s with cond := some uptoSmall }

/-- 'sacristanlaw06.RecordSectors', WHERE WHAT IT READS IS OF BULK AT MOST 1048576: true; the input reads as it did. -/
def recordSectorsUptoRow : OpenClaim := { program := "ytakajeimlppmbaa", sum := "a9f79f017a911c83115b81d2daaf3b30cd40e8668b5d7d88aebaf60e11dbd56e", func := "sacristan/sacristanlaw06.RecordSectors", spec := "recordSectors", inPlace := ["internal/abi.NoEscape", "internal/bytealg.MakeNoZero"], unfollowed := true, recurses := true, apart := false, narrowed := true }
def RecordSectorsUptoSaid : Prop := recordSectorsUptoRow.holds Try.pinned (OpenSpec.upto recordSectorsSpec)

/-- 'sacristanlaw06.RecordReads', WHERE WHAT IT READS IS OF BULK AT MOST 1048576: true; the input reads as it did. -/
def recordReadsUptoRow : OpenClaim := { program := "ytakajeimlppmbaa", sum := "a9f79f017a911c83115b81d2daaf3b30cd40e8668b5d7d88aebaf60e11dbd56e", func := "sacristan/sacristanlaw06.RecordReads", spec := "recordReads", inPlace := ["internal/abi.NoEscape", "internal/bytealg.MakeNoZero"], unfollowed := true, recurses := true, apart := false, narrowed := true }
def RecordReadsUptoSaid : Prop := recordReadsUptoRow.holds Try.pinned (OpenSpec.upto recordReadsSpec)

/-- 'sacristanlaw06.RecordExamples', WHERE WHAT IT READS IS OF BULK AT MOST 1048576: true; the input reads as it did. -/
def recordExamplesUptoRow : OpenClaim := { program := "ytakajeimlppmbaa", sum := "a9f79f017a911c83115b81d2daaf3b30cd40e8668b5d7d88aebaf60e11dbd56e", func := "sacristan/sacristanlaw06.RecordExamples", spec := "recordExamples", inPlace := ["internal/abi.NoEscape", "internal/bytealg.MakeNoZero"], unfollowed := true, recurses := true, apart := false, narrowed := true }
def RecordExamplesUptoSaid : Prop := recordExamplesUptoRow.holds Try.pinned (OpenSpec.upto recordExamplesSpec)

/-- 'sacristanlaw06.RecordBack', WHERE WHAT IT READS IS OF BULK AT MOST 1048576: true; the input reads as it did. -/
def recordBackUptoRow : OpenClaim := { program := "ytakajeimlppmbaa", sum := "a9f79f017a911c83115b81d2daaf3b30cd40e8668b5d7d88aebaf60e11dbd56e", func := "sacristan/sacristanlaw06.RecordBack", spec := "recordBack", inPlace := ["internal/abi.NoEscape", "internal/bytealg.MakeNoZero"], unfollowed := true, recurses := true, apart := false, narrowed := true }
def RecordBackUptoSaid : Prop := recordBackUptoRow.holds Try.pinned (OpenSpec.upto recordBackSpec)

/-- 'sacristanlaw06.RecordTorn', WHERE WHAT IT READS IS OF BULK AT MOST 1048576: true; the input reads as it did. -/
def recordTornUptoRow : OpenClaim := { program := "ytakajeimlppmbaa", sum := "a9f79f017a911c83115b81d2daaf3b30cd40e8668b5d7d88aebaf60e11dbd56e", func := "sacristan/sacristanlaw06.RecordTorn", spec := "recordTorn", inPlace := ["internal/abi.NoEscape", "internal/bytealg.MakeNoZero"], unfollowed := true, recurses := true, apart := false, narrowed := true }
def RecordTornUptoSaid : Prop := recordTornUptoRow.holds Try.pinned (OpenSpec.upto recordTornSpec)

/-- 'sacristanlaw06.RecordAlone', WHERE WHAT IT READS IS OF BULK AT MOST 1048576: true; the input reads as it did. -/
def recordAloneUptoRow : OpenClaim := { program := "ytakajeimlppmbaa", sum := "a9f79f017a911c83115b81d2daaf3b30cd40e8668b5d7d88aebaf60e11dbd56e", func := "sacristan/sacristanlaw06.RecordAlone", spec := "recordAlone", inPlace := ["internal/abi.NoEscape", "internal/bytealg.MakeNoZero"], unfollowed := true, recurses := true, apart := false, narrowed := true }
def RecordAloneUptoSaid : Prop := recordAloneUptoRow.holds Try.pinned (OpenSpec.upto recordAloneSpec)

/-- 'sacristanlaw06.RecordRow', WHERE WHAT IT READS IS OF BULK AT MOST 1048576: true; the input reads as it did. -/
def recordRowUptoRow : OpenClaim := { program := "ytakajeimlppmbaa", sum := "a9f79f017a911c83115b81d2daaf3b30cd40e8668b5d7d88aebaf60e11dbd56e", func := "sacristan/sacristanlaw06.RecordRow", spec := "recordRow", inPlace := ["internal/abi.NoEscape", "internal/bytealg.MakeNoZero"], unfollowed := true, recurses := true, apart := false, narrowed := true }
def RecordRowUptoSaid : Prop := recordRowUptoRow.holds Try.pinned (OpenSpec.upto recordRowSpec)

end Rows
end Go.Proofs.Ytakajeimlppmbaa
