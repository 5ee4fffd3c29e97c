/-
  JournalExamples: calls that are refused at once, and calls on nil.
-/
import Derived.Test.YtjbcpfndpfeepaaGreatJea
namespace Go.Proofs.YtjbcpfndpfeepaaGreat.Jk
open Go Go.RowKit Go.ChangeShapes Go.WideShapes Go.ChangeAt Go.Proofs.YtjbcpfndpfeepaaGreat.Mem Go.Proofs.YtjbcpfndpfeepaaGreat.Pk Go.Proofs.YtjbcpfndpfeepaaGreat.Fk Go.Proofs.YtjbcpfndpfeepaaGreat.Dz Go.Proofs.YtjbcpfndpfeepaaGreat.Fz Go.Proofs.YtjbcpfndpfeepaaGreat.Rc
open Go.Proofs.YtjbcpfndpfeepaaGreat.Hk (Hd saves loads o_save o_load hblock)

set_option maxRecDepth 100000 in
theorem open_nil (w : World) : Calls Tryz.prog 23 #[.pointer none, .int .i64 4] w fun e w' => e = .returned (.tuple #[.pointer none, .slice none 0 0, .slice none 0 0, .int .i64 1]) ∧ Kept w w' := by
  have k0 := Kept.refl w
  go_enter Tryz.func23, Tryz.ntmps23
  go_wp2
  refine bodyPost_ret (v := .tuple #[.pointer none, .slice none 0 0, .slice none 0 0, .int .i64 1]) (by simp [results, Tryz.results23, go_sem]) rfl ?_
  exact ⟨rfl, k0⟩
set_option maxRecDepth 100000 in
theorem open_zero {w0 w : World} {L : List As} {F D : Nat} {s : Ds} (h : Mem.Own w0 (dk F D s :: L) w) : Calls Tryz.prog 23 #[.pointer (some ⟨D, 0, none⟩), .int .i64 0] w fun e w' => e = .returned (.tuple #[.pointer none, .slice none 0 0, .slice none 0 0, .int .i64 2]) ∧ Mem.Own w0 (dk F D s :: L) w' := by
  have H := Lib.hid h
  clear h
  go_enter Tryz.func23, Tryz.ntmps23
  go_wp2
  refine bodyPost_ret (v := .tuple #[.pointer none, .slice none 0 0, .slice none 0 0, .int .i64 2]) (by simp [results, Tryz.results23, go_sem]) rfl ?_
  exact ⟨rfl, H.out⟩
set_option maxRecDepth 100000 in
theorem open_five {w0 w : World} {L : List As} {F D : Nat} {s : Ds} (hn : s.n = 10) (h : Mem.Own w0 (dk F D s :: L) w) : Calls Tryz.prog 23 #[.pointer (some ⟨D, 0, none⟩), .int .i64 5] w fun e w' => e = .returned (.tuple #[.pointer none, .slice none 0 0, .slice none 0 0, .int .i64 2]) ∧ Mem.Own w0 (dk F D s :: L) w' := by
  have hs := o_sectors h 0 rfl
  rw [hn] at hs
  have HS := Lib.hid hs
  clear h hs hn
  go_enter Tryz.func23, Tryz.ntmps23
  go_wp2_with (go_at_call 47; (with_reducible refine HS.out.mono ?_); rintro e u1 ⟨rfl, k1'⟩; have k1 := Lib.hid k1'; clear k1')
  refine bodyPost_ret (v := .tuple #[.pointer none, .slice none 0 0, .slice none 0 0, .int .i64 2]) (by simp [results, Tryz.results23, go_sem]) rfl ?_
  exact ⟨rfl, k1.out⟩
set_option maxRecDepth 100000 in
theorem append_nil (w : World) : Calls Tryz.prog 9 #[.pointer none, .string ⟨#[]⟩] w fun e w' => e = .returned (.int .i64 1) ∧ Kept w w' := by
  have k0 := Kept.refl w
  go_enter Tryz.func9, Tryz.ntmps9
  go_wp2
  go_ret
  exact ⟨rfl, k0⟩
set_option maxRecDepth 100000 in
theorem compact_nil (w : World) : Calls Tryz.prog 12 #[.pointer none, .slice none 0 0] w fun e w' => e = .returned (.int .i64 1) ∧ Kept w w' := by
  have k0 := Kept.refl w
  go_enter Tryz.func12, Tryz.ntmps12
  go_wp2
  go_ret
  exact ⟨rfl, k0⟩
set_option maxRecDepth 100000 in
theorem boot_nil (w : World) : Calls Tryz.prog 24 #[.pointer none] w fun e w' => e = .returned (.int .i64 0) ∧ Kept w w' := by
  have k0 := Kept.refl w
  go_enter Tryz.func24, Tryz.ntmps24
  go_wp2
  go_ret
  exact ⟨rfl, k0⟩
set_option maxRecDepth 100000 in
theorem lsn_nil (w : World) : Calls Tryz.prog 25 #[.pointer none] w fun e w' => e = .returned (.int .i64 0) ∧ Kept w w' := by
  have k0 := Kept.refl w
  go_enter Tryz.func25, Tryz.ntmps25
  go_wp2
  go_ret
  exact ⟨rfl, k0⟩
set_option maxRecDepth 100000 in
theorem room_nil (w : World) : Calls Tryz.prog 26 #[.pointer none] w fun e w' => e = .returned (.int .i64 0) ∧ Kept w w' := by
  have k0 := Kept.refl w
  go_enter Tryz.func26, Tryz.ntmps26
  go_wp2
  go_ret
  exact ⟨rfl, k0⟩
end Go.Proofs.YtjbcpfndpfeepaaGreat.Jk
