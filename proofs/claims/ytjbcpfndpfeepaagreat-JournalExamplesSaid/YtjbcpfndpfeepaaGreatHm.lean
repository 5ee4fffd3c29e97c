/-
  RecordExamples: what its calls return (closed).
-/
import Derived.Test.YtjbcpfndpfeepaaGreatGt
import Derived.Test.YtjbcpfndpfeepaaGreatRb
namespace Go.Proofs.YtjbcpfndpfeepaaGreat.Rc
open Go Go.RowKit Go.ChangeShapes Go.WideShapes Go.ChangeAt Go.Proofs.YtjbcpfndpfeepaaGreat.Mem Go.Proofs.YtjbcpfndpfeepaaGreat.Pk Go.Proofs.YtjbcpfndpfeepaaGreat.Fk Go.Proofs.YtjbcpfndpfeepaaGreat.Dz Go.Proofs.YtjbcpfndpfeepaaGreat.Fz
set_option linter.unusedVariables false

def repB (b n : Nat) : ByteArray := ⟨(List.replicate n (UInt8.ofNat b)).toArray⟩
theorem repB_size (b n : Nat) : (repB b n).size = n := by simp [repB, ByteArray.size]
def repTo (b n k : Nat) : List UInt8 := (List.range n).map fun i => if i < k then UInt8.ofNat b else 0
theorem repTo_len (b n k : Nat) : (repTo b n k).length = n := by simp [repTo]
theorem repTo_zero (b n : Nat) : repTo b n 0 = List.replicate n 0 := by
  apply List.ext_getElem
  · simp [repTo]
  · intro i h1 h2; rw [List.getElem_replicate]; simp [repTo]
theorem repTo_all (b n : Nat) : repTo b n n = List.replicate n (UInt8.ofNat b) := by
  apply List.ext_getElem
  · simp [repTo]
  · intro i h1 h2
    have : i < n := by simpa [repTo] using h1
    rw [List.getElem_replicate]; simp [repTo, this]
theorem repTo_succ (b n k : Nat) : (repTo b n k).set k (UInt8.ofNat b) = repTo b n (k + 1) := by
  apply List.ext_getElem
  · simp [repTo]
  · intro i h1 h2
    rw [List.getElem_set]
    by_cases e : k = i
    · subst e; simp [repTo]
    · have : i < k + 1 ↔ i < k := by omega
      simp [repTo, e, this]
set_option maxRecDepth 100000 in
theorem manyn_c (b n : Nat) (hb : b ≤ 255) (hn : n ≤ 65536) (w : World) : Calls Tryz.prog 27 #[.int .u8 (b : Int), .int .i64 (n : Int)] w fun e w' => e = .returned (.string (repB b n)) ∧ Kept w w' := by
  have hm := make_row n (by omega)
  have hst : Row w w.heap.size (repTo b n 0) (w.alloc (.cells (Array.replicate n (.int .u8 0)) 5)) := by rw [repTo_zero]; exact Row.start w n _
  go_enter Tryz.func27, Tryz.ntmps27
  go_wp2
  go_loopw [6] (fun i wr => ∃ k : Nat, k ≤ n ∧ i = .int .i64 k ∧ Row w w.heap.size (repTo b n k) wr) (fun i _ => n - (intOf i).toNat)
  case atStart => exact ⟨0, by omega, rfl, hst⟩
  case round =>
    clear hst
    obtain ⟨k, hk, rfl, hr⟩ := hrel
    by_cases hlt : k < n
    · obtain ⟨⟨v, hc⟩, hf⟩ := hr.at k (by rw [repTo_len]; exact hlt)
      have Hr := Lib.hid hr
      clear hr
      go_wp2
      go_roundw
      case rel =>
        refine ⟨k + 1, by omega, by go_num, ?_⟩
        rw [← repTo_succ]
        exact Hr.out.set k _ (by rw [UInt8.toNat_ofNat']; omega) (by rw [repTo_len]; exact hlt)
      case measure => simp [intOf]; omega
    · obtain rfl : k = n := by omega
      have hs := hr.str k k (by rw [repTo_len]; exact Nat.le_refl _)
      rw [List.take_of_length_le (by rw [repTo_len]; exact Nat.le_refl _), repTo_all] at hs
      have Hr := Lib.hid hr
      clear hr
      go_wp2
      go_ret
      exact ⟨rfl, Hr.out.keptOf⟩
end Go.Proofs.YtjbcpfndpfeepaaGreat.Rc
