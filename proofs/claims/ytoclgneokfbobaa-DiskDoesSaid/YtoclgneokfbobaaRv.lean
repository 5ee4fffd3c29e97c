/-
  The pair's act, whatever it does.
-/
import Derived.Test.YtoclgneokfbobaaRa0
import Derived.Test.YtoclgneokfbobaaRa1
import Derived.Test.YtoclgneokfbobaaRa2
import Derived.Test.YtoclgneokfbobaaRa3
import Derived.Test.YtoclgneokfbobaaRa4
import Derived.Test.YtoclgneokfbobaaRa5
import Derived.Test.YtoclgneokfbobaaRa6
import Derived.Test.YtoclgneokfbobaaRa7
namespace Go.Proofs.Ytoclgneokfbobaa.Dz
open Go.RowKit Go.ChangeShapes Go.WideShapes Go.ChangeAt Go.Proofs.Ytoclgneokfbobaa.Mem Go.Proofs.Ytoclgneokfbobaa.Fz
theorem act_c {w0 w : World} {X F D G R : Nat} {s : Ds} {L : List As} (h : Own w0 (pair X F D G R s L) w) (hroom : s.pend.length < 4294967295) (d : Nat) (hd2 : d ≤ 255) (i : Int) (hi : i < 9223372036854775808) (b : Nat) (hb : b ≤ 255) (c : Ch) (hc : c.ok) :
    Calls Try.prog 11 #[.pointer (some ⟨X, 0, none⟩), .agg (actCells d i b c)] w fun e w' => Acted w0 X G R s.pend.length e w' := by
  have h8 : d % 8 = 0 ∨ d % 8 = 1 ∨ d % 8 = 2 ∨ d % 8 = 3 ∨ d % 8 = 4 ∨ d % 8 = 5 ∨ d % 8 = 6 ∨ d % 8 = 7 := by omega
  rcases h8 with e | e | e | e | e | e | e | e
  · exact act0_c h hroom d e hd2 i hi b hb c hc
  · exact act1_c h hroom d e hd2 i hi b hb c hc
  · exact act2_c h hroom d e hd2 i hi b hb c hc
  · exact act3_c h hroom d e hd2 i hi b hb c hc
  · exact act4_c h hroom d e hd2 i hi b hb c hc
  · exact act5_c h hroom d e hd2 i hi b hb c hc
  · exact act6_c h hroom d e hd2 i hi b hb c hc
  · exact act7_c h hroom d e hd2 i hi b hb c hc
end Go.Proofs.Ytoclgneokfbobaa.Dz
