/-
  The fixed record of layer 6's statements.
-/
import Derived.Test.YtjbcpfndpfeepaaGreatGq
namespace Go.Proofs.YtjbcpfndpfeepaaGreat.Rc
open Go Go.RowKit Go.ChangeShapes Go.WideShapes Go.ChangeAt Go.Proofs.YtjbcpfndpfeepaaGreat.Mem Go.Proofs.YtjbcpfndpfeepaaGreat.Pk Go.Proofs.YtjbcpfndpfeepaaGreat.Fk Go.Proofs.YtjbcpfndpfeepaaGreat.Dz Go.Proofs.YtjbcpfndpfeepaaGreat.Fz

def hello : ByteArray := ⟨#[104, 101, 108, 108, 111]⟩
theorem hello_num : num 3 4 := ⟨by decide, by decide, by decide, by decide⟩
theorem hello_parts : parts hello.size = 1 := by decide
theorem hello_secs : secE 3 4 hello = 0 ∧ nS 3 4 hello = 1 := by
  obtain ⟨e1, e2⟩ := secE_ok (d := hello) (by decide) hello_num
  exact ⟨e1, e2.trans hello_parts⟩
end Go.Proofs.YtjbcpfndpfeepaaGreat.Rc
