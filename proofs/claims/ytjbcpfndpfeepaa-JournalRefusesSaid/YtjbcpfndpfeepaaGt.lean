/-
  The fixed record of layer 6's statements.
-/
import Derived.Test.YtjbcpfndpfeepaaGq
namespace Go.Proofs.Ytjbcpfndpfeepaa.Rc
open Go Go.RowKit Go.ChangeShapes Go.WideShapes Go.ChangeAt Go.Proofs.Ytjbcpfndpfeepaa.Mem Go.Proofs.Ytjbcpfndpfeepaa.Pk Go.Proofs.Ytjbcpfndpfeepaa.Fk Go.Proofs.Ytjbcpfndpfeepaa.Dz Go.Proofs.Ytjbcpfndpfeepaa.Fz

def hello : ByteArray := ⟨#[104, 101, 108, 108, 111]⟩
theorem hello_num : num 3 4 := ⟨by decide, by decide, by decide, by decide⟩
theorem hello_parts : parts hello.size = 1 := by decide
theorem hello_secs : secE 3 4 hello = 0 ∧ nS 3 4 hello = 1 := by
  obtain ⟨e1, e2⟩ := secE_ok (d := hello) (by decide) hello_num
  exact ⟨e1, e2.trans hello_parts⟩
end Go.Proofs.Ytjbcpfndpfeepaa.Rc
