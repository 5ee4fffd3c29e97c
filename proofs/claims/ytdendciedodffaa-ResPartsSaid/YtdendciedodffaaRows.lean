/-
  No cell of these rows narrows 'for every input' (looked for: loops, veiled, ifaces, maps, wideKeys, modest, calm, conditions, laid).
  DERIVED. THE GIVEN ROWS OF THIS SEAT. 6 by the template 'for every input the law returns true; each argument reads behind the call as it read before'; 0 by the template 'total and deterministic' (their statements: YtdendciedodffaaTotals.lean).
  GIVEN WITH THE SEED: the statements are not yours to turn. If you find one false, say at which input.
  Laid BY PROGRAM, IN A SANDBOX (cutbox-rows.mjs): the forced cells as the released guide's own fill.sh prints them over the translation 00c31b6cea3076dd… (all of the seat's roots in one cut). By AI agents, Wed Nov 11 2026. No macro, syntax, notation, axiom, sorry.
-/
import Derived.Test.YtdendciedodffaaChecked
import GoSem.Claim
import GoSem.ClaimJoined
import GoSem.ClaimMapViews
import Derived.JoinedTies
import Derived.KernelRfl
namespace Go.Proofs.Ytdendciedodffaa
/- THE CELL 'sum', in the pinned program and in every row, IS THE sha256 OF THE DUMP (.gsa) THAT YtdendciedodffaaProg.lean LOADS. Nothing in Lean hashes anything: it is a label: what it is worth is what the hold of that sum in a sandbox is worth. -/
noncomputable def Try.pinned : Pinned := { name := "ytdendciedodffaa", sum := "00c31b6cea3076ddaffd61116458770a0fbe2ee532d7655b55a4c5b52c1e1dda", checked := Try.checked }
namespace Rows
def none {H : Type} : Left H := { results := [], args := [] }

/-- 'sacristanlaw09.ResPairs': WHATEVER THE INPUT: true; the input reads as it did. -/
def resPairsSpec : ChangeSpec := { name := "resPairs", fn := fun _ => fun
  | [d1, d2] => { results := [.lit (.bool true)], args := [d1, d2] }
  | _ => none }
def resPairsRow : OpenClaim := { program := "ytdendciedodffaa", sum := "00c31b6cea3076ddaffd61116458770a0fbe2ee532d7655b55a4c5b52c1e1dda", func := "sacristan/sacristanlaw09.ResPairs", spec := "resPairs", unfollowed := true, recurses := true, apart := false }
def ResPairsSaid : Prop := resPairsRow.holds Try.pinned (OpenSpec.ofChange resPairsSpec)

/-- ITS FALSE NEIGHBOUR: 'it returns false'. Refute it at one input. -/
def resPairsWrong : ChangeSpec := { name := "resPairs", fn := fun _ => fun
  | [d1, d2] => { results := [.lit (.bool false)], args := [d1, d2] }
  | _ => none }
def ResPairsWrongFalsely : Prop := resPairsRow.holds Try.pinned (OpenSpec.ofChange resPairsWrong)

/-- 'sacristanlaw09.ResSums': WHATEVER THE INPUT: true; the input reads as it did. -/
def resSumsSpec : ChangeSpec := { name := "resSums", fn := fun _ => fun
  | [d] => { results := [.lit (.bool true)], args := [d] }
  | _ => none }
def resSumsRow : OpenClaim := { program := "ytdendciedodffaa", sum := "00c31b6cea3076ddaffd61116458770a0fbe2ee532d7655b55a4c5b52c1e1dda", func := "sacristan/sacristanlaw09.ResSums", spec := "resSums", unfollowed := true, recurses := true, apart := false }
def ResSumsSaid : Prop := resSumsRow.holds Try.pinned (OpenSpec.ofChange resSumsSpec)

/-- ITS FALSE NEIGHBOUR: 'it returns false'. Refute it at one input. -/
def resSumsWrong : ChangeSpec := { name := "resSums", fn := fun _ => fun
  | [d] => { results := [.lit (.bool false)], args := [d] }
  | _ => none }
def ResSumsWrongFalsely : Prop := resSumsRow.holds Try.pinned (OpenSpec.ofChange resSumsWrong)

/-- 'sacristanlaw09.ResExamples': WHATEVER THE INPUT: true; the input reads as it did. -/
def resExamplesSpec : ChangeSpec := { name := "resExamples", fn := fun _ => fun
  | [] => { results := [.lit (.bool true)], args := [] }
  | _ => none }
def resExamplesRow : OpenClaim := { program := "ytdendciedodffaa", sum := "00c31b6cea3076ddaffd61116458770a0fbe2ee532d7655b55a4c5b52c1e1dda", func := "sacristan/sacristanlaw09.ResExamples", spec := "resExamples", unfollowed := true, recurses := true, apart := false }
def ResExamplesSaid : Prop := resExamplesRow.holds Try.pinned (OpenSpec.ofChange resExamplesSpec)

/-- ITS FALSE NEIGHBOUR: 'it returns false'. Refute it at one input. -/
def resExamplesWrong : ChangeSpec := { name := "resExamples", fn := fun _ => fun
  | [] => { results := [.lit (.bool false)], args := [] }
  | _ => none }
def ResExamplesWrongFalsely : Prop := resExamplesRow.holds Try.pinned (OpenSpec.ofChange resExamplesWrong)

/-- 'sacristanlaw09.ResBack': WHATEVER THE INPUT: true; the input reads as it did. -/
def resBackSpec : ChangeSpec := { name := "resBack", fn := fun _ => fun
  | [d1, d2] => { results := [.lit (.bool true)], args := [d1, d2] }
  | _ => none }
def resBackRow : OpenClaim := { program := "ytdendciedodffaa", sum := "00c31b6cea3076ddaffd61116458770a0fbe2ee532d7655b55a4c5b52c1e1dda", func := "sacristan/sacristanlaw09.ResBack", spec := "resBack", unfollowed := true, recurses := true, apart := false }
def ResBackSaid : Prop := resBackRow.holds Try.pinned (OpenSpec.ofChange resBackSpec)

/-- ITS FALSE NEIGHBOUR: 'it returns false'. Refute it at one input. -/
def resBackWrong : ChangeSpec := { name := "resBack", fn := fun _ => fun
  | [d1, d2] => { results := [.lit (.bool false)], args := [d1, d2] }
  | _ => none }
def ResBackWrongFalsely : Prop := resBackRow.holds Try.pinned (OpenSpec.ofChange resBackWrong)

/-- 'sacristanlaw09.ResParts': WHATEVER THE INPUT: true; the input reads as it did. -/
def resPartsSpec : ChangeSpec := { name := "resParts", fn := fun _ => fun
  | [d1, d2, d3] => { results := [.lit (.bool true)], args := [d1, d2, d3] }
  | _ => none }
def resPartsRow : OpenClaim := { program := "ytdendciedodffaa", sum := "00c31b6cea3076ddaffd61116458770a0fbe2ee532d7655b55a4c5b52c1e1dda", func := "sacristan/sacristanlaw09.ResParts", spec := "resParts", unfollowed := true, recurses := true, apart := false }
def ResPartsSaid : Prop := resPartsRow.holds Try.pinned (OpenSpec.ofChange resPartsSpec)

/-- ITS FALSE NEIGHBOUR: 'it returns false'. Refute it at one input. -/
def resPartsWrong : ChangeSpec := { name := "resParts", fn := fun _ => fun
  | [d1, d2, d3] => { results := [.lit (.bool false)], args := [d1, d2, d3] }
  | _ => none }
def ResPartsWrongFalsely : Prop := resPartsRow.holds Try.pinned (OpenSpec.ofChange resPartsWrong)

/-- 'sacristanlaw09.ResOrder': WHATEVER THE INPUT: true; the input reads as it did. -/
def resOrderSpec : ChangeSpec := { name := "resOrder", fn := fun _ => fun
  | [d1, d2, d3] => { results := [.lit (.bool true)], args := [d1, d2, d3] }
  | _ => none }
def resOrderRow : OpenClaim := { program := "ytdendciedodffaa", sum := "00c31b6cea3076ddaffd61116458770a0fbe2ee532d7655b55a4c5b52c1e1dda", func := "sacristan/sacristanlaw09.ResOrder", spec := "resOrder", unfollowed := true, recurses := true, apart := false }
def ResOrderSaid : Prop := resOrderRow.holds Try.pinned (OpenSpec.ofChange resOrderSpec)

/-- ITS FALSE NEIGHBOUR: 'it returns false'. Refute it at one input. -/
def resOrderWrong : ChangeSpec := { name := "resOrder", fn := fun _ => fun
  | [d1, d2, d3] => { results := [.lit (.bool false)], args := [d1, d2, d3] }
  | _ => none }
def ResOrderWrongFalsely : Prop := resOrderRow.holds Try.pinned (OpenSpec.ofChange resOrderWrong)

/- THE SECOND FORM. 'bulk': how many values and letters a reading holds, each counted each time it is reached (what is shared counts as often as it is met; a slice's spare places count too). A statement '..UptoSaid' is the law's where the arguments, and the package variables that the reading takes, are together of bulk at most 1048576: NARROWER than '..Said'. Prove '..Said' where nothing that the law and all that it calls make is longer than what came in: it says more and counts as full. Else prove '..UptoSaid'. A law counts once. -/
mutual
def uptoBulk {H : Type} : DataW H → Nat
  | .lit (.string bytes) => bytes.length + 1
  | .lit _ => 1
  | .nil => 1
  | .ptr d => uptoBulk d + 1
  | .slice elems spare => uptoBulkAll elems + uptoBulkAll spare + 1
  | .agg parts => uptoBulkAll parts + 1
  | .iface _ d => uptoBulk d + 1
  | .map entries => uptoBulkEntries entries + 1
  | .held _ => 1
def uptoBulkAll {H : Type} : List (DataW H) → Nat
  | [] => 0
  | d :: r => uptoBulk d + uptoBulkAll r
def uptoBulkEntries {H : Type} : List (Lit × DataW H) → Nat
  | [] => 0
  | x :: r => uptoBulkEntry x + uptoBulkEntries r
def uptoBulkEntry {H : Type} : Lit × DataW H → Nat
  | (.string bytes, d) => bytes.length + uptoBulk d + 1
  | (_, d) => uptoBulk d + 1
 end
def uptoSmall : (H : Type) → List (DataW H) → Bool := fun _ ds => decide (uptoBulkAll ds ≤ 1048576)
def OpenSpec.upto (s : _root_.Go.ChangeSpec) : _root_.Go.OpenSpec := { _root_.Go.OpenSpec.ofChange s with cond := some uptoSmall }

/-- 'sacristanlaw09.ResPairs', WHERE WHAT IT READS IS OF BULK AT MOST 1048576: true; the input reads as it did. -/
def resPairsUptoRow : OpenClaim := { program := "ytdendciedodffaa", sum := "00c31b6cea3076ddaffd61116458770a0fbe2ee532d7655b55a4c5b52c1e1dda", func := "sacristan/sacristanlaw09.ResPairs", spec := "resPairs", unfollowed := true, recurses := true, apart := false, narrowed := true }
def ResPairsUptoSaid : Prop := resPairsUptoRow.holds Try.pinned (OpenSpec.upto resPairsSpec)

/-- 'sacristanlaw09.ResSums', WHERE WHAT IT READS IS OF BULK AT MOST 1048576: true; the input reads as it did. -/
def resSumsUptoRow : OpenClaim := { program := "ytdendciedodffaa", sum := "00c31b6cea3076ddaffd61116458770a0fbe2ee532d7655b55a4c5b52c1e1dda", func := "sacristan/sacristanlaw09.ResSums", spec := "resSums", unfollowed := true, recurses := true, apart := false, narrowed := true }
def ResSumsUptoSaid : Prop := resSumsUptoRow.holds Try.pinned (OpenSpec.upto resSumsSpec)

/-- 'sacristanlaw09.ResExamples', WHERE WHAT IT READS IS OF BULK AT MOST 1048576: true; the input reads as it did. -/
def resExamplesUptoRow : OpenClaim := { program := "ytdendciedodffaa", sum := "00c31b6cea3076ddaffd61116458770a0fbe2ee532d7655b55a4c5b52c1e1dda", func := "sacristan/sacristanlaw09.ResExamples", spec := "resExamples", unfollowed := true, recurses := true, apart := false, narrowed := true }
def ResExamplesUptoSaid : Prop := resExamplesUptoRow.holds Try.pinned (OpenSpec.upto resExamplesSpec)

/-- 'sacristanlaw09.ResBack', WHERE WHAT IT READS IS OF BULK AT MOST 1048576: true; the input reads as it did. -/
def resBackUptoRow : OpenClaim := { program := "ytdendciedodffaa", sum := "00c31b6cea3076ddaffd61116458770a0fbe2ee532d7655b55a4c5b52c1e1dda", func := "sacristan/sacristanlaw09.ResBack", spec := "resBack", unfollowed := true, recurses := true, apart := false, narrowed := true }
def ResBackUptoSaid : Prop := resBackUptoRow.holds Try.pinned (OpenSpec.upto resBackSpec)

/-- 'sacristanlaw09.ResParts', WHERE WHAT IT READS IS OF BULK AT MOST 1048576: true; the input reads as it did. -/
def resPartsUptoRow : OpenClaim := { program := "ytdendciedodffaa", sum := "00c31b6cea3076ddaffd61116458770a0fbe2ee532d7655b55a4c5b52c1e1dda", func := "sacristan/sacristanlaw09.ResParts", spec := "resParts", unfollowed := true, recurses := true, apart := false, narrowed := true }
def ResPartsUptoSaid : Prop := resPartsUptoRow.holds Try.pinned (OpenSpec.upto resPartsSpec)

/-- 'sacristanlaw09.ResOrder', WHERE WHAT IT READS IS OF BULK AT MOST 1048576: true; the input reads as it did. -/
def resOrderUptoRow : OpenClaim := { program := "ytdendciedodffaa", sum := "00c31b6cea3076ddaffd61116458770a0fbe2ee532d7655b55a4c5b52c1e1dda", func := "sacristan/sacristanlaw09.ResOrder", spec := "resOrder", unfollowed := true, recurses := true, apart := false, narrowed := true }
def ResOrderUptoSaid : Prop := resOrderUptoRow.holds Try.pinned (OpenSpec.upto resOrderSpec)

end Rows
end Go.Proofs.Ytdendciedodffaa
