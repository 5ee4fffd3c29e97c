/-
  string(make([]byte, n)): n bytes 0.
-/
import Derived.Test.YtnpjmjnekakgeaaMem
import Derived.Test.YtnpjmjnekakgeaaPu
import Derived.Laws.MakeOwn
import Derived.Deep.OwnRows
namespace Go.Proofs.Ytnpjmjnekakgeaa.Mem
open Go.RowKit
theorem make_bytes (n : Nat) (hn : n ≤ 65536) (w : World) :
    (Instr.makeSlice 36 (.int .i64 (n : Int)) (.int .i64 (n : Int))).run Try.prog w = .ok (.slice (some ⟨w.heap.size, 0, none⟩) n n) (w.alloc (.cells (Array.replicate n (.int .u8 0)) 5)) := by
  have h := run_make_row' (P := Try.prog) 36 5 (.int .u8 0) 1 Try.underlying36 (by kernel_rfl) rfl .i64 .i64 n (by omega) (by omega) w
  have e : madeCells #[Value.int .u8 0] n = Array.replicate n (.int .u8 0) := by
    apply Array.toList_inj.1
    rw [toList_madeCells_one, Array.toList_replicate]
  rw [e] at h
  exact h
theorem bytes_str (n : Nat) (w : World) :
    (convert 36 9 (.slice (some ⟨w.heap.size, 0, none⟩) n n)).run Try.prog (w.alloc (.cells (Array.replicate n (.int .u8 0)) 5)) = .ok (.string (Pk.str (List.replicate n 0))) (w.alloc (.cells (Array.replicate n (.int .u8 0)) 5)) := by
  have h := (Row.start w n 5).str n n (by simp)
  rw [List.take_of_length_le (by simp)] at h
  exact h
end Go.Proofs.Ytnpjmjnekakgeaa.Mem
