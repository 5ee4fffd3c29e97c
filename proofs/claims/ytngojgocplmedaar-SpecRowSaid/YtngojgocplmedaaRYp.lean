/-
  The contracts of package spec, from the program's own code (layer 13).
-/
import Derived.Test.YtngojgocplmedaaRNe
import Derived.Test.YtngojgocplmedaaRNi
import Derived.Test.YtngojgocplmedaaRNj
import Derived.Test.YtngojgocplmedaaRNl
namespace Go.Proofs.YtngojgocplmedaaR.Ls
open Go.RowKit Go.Proofs.YtngojgocplmedaaR.Mem Go.Proofs.YtngojgocplmedaaR.Sp Go.ChangeShapes Go.WideShapes Go.ChangeAt
set_option linter.unusedVariables false

theorem specP : SpecP where
  check := fun h => scheck_c h
  enc := fun h => senc_c h
  dec := fun s w _ => sdec_c s w
  copy := fun h hn hm => scopy_c h hn hm
  eq := fun h k => sequal_c h k
  conf := fun f w => sconf_c f w
  need := fun a w => need_c a w
end Go.Proofs.YtngojgocplmedaaR.Ls
