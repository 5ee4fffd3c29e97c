/-
  What 'of' and 'known' of layer 2's statements do.
-/
import Derived.Test.YtghnaimpcjbhdaaPs
namespace Go.Proofs.Ytghnaimpcjbhdaa.Pk
open Go.RowKit Go.Proofs.Ytghnaimpcjbhdaa.Mem Go.ChangeShapes Go.WideShapes Go.ChangeAt

theorem of_any (B : Nat) (l : List UInt8) (n : Nat) (w : World) (hn : l.length = n) (hc : ∀ j (h : j < l.length), w.cell? ⟨B, j, none⟩ = some (.int .u8 (l[j].toNat : Int))) :
    Calls Try.prog 26 #[.slice (some ⟨B, 0, none⟩) n n] w fun e w' => e = .returned (.string (str l)) ∧ w = w' := by
  have hcv : (convert 52 9 (.slice (some ⟨B, 0, none⟩) n n)).run Try.prog w = .ok (.string (str l)) w := by
    subst hn
    exact run_convert_bytes_back (P := Try.prog) w 52 9 5 ⟨B, 0, none⟩ l.length l Try.underlying52 Try.underlying5 Try.underlying9 (fun j hj => by
      have e : (⟨B, 0, none⟩ : Addr).add j = ⟨B, j, none⟩ := by rw [add_plain]; simp
      rw [e]; exact hc j hj)
  clear hc
  go_enter Try.func26, Try.ntmps26
  go_wp2
  go_ret
  exact ⟨rfl, rfl⟩
theorem kn_int (w : World) : Calls Try.prog 14 #[.int .i64 (-300)] w fun e w' => e = .returned (.string ⟨#[249, 2, 87]⟩) ∧ Kept w w' := by
  have := int_any (-300) ⟨by decide, by decide⟩ w
  have e : str (num (zig (-300))) = ⟨#[249, 2, 87]⟩ := by decide +kernel
  rw [e] at this; exact this
theorem kn_uv : uv ⟨#[249, 2, 87, 120]⟩ = some (599, ⟨#[120]⟩) := by decide +kernel
theorem kn_unint (w : World) : Calls Try.prog 22 #[.string ⟨#[249, 2, 87, 120]⟩] w fun e w' => e = .returned (.tuple #[.int .i64 (-300), .string ⟨#[120]⟩, .int .i64 0]) ∧ Kept w w' := by
  have := unint_some kn_uv w
  have e : zag 599 = -300 := by decide
  rw [e] at this; exact this
theorem kn_fixed (w : World) : Calls Try.prog 10 #[.int .u64 258, .int .i64 3] w fun e w' => e = .returned (.tuple #[.string ⟨#[0, 1, 2]⟩, .int .i64 0]) ∧ Kept w w' := by
  have := fixed_any 258 3 (by unfold U64; decide) w
  have e : fixS 258 3 = ⟨#[0, 1, 2]⟩ := by decide +kernel
  have e2 : fixE 258 3 = 0 := by decide +kernel
  rw [e, e2] at this; exact this
theorem kn_cat (w : World) : (Op.stringOp .add ⟨#[249, 2, 87]⟩ ⟨#[120]⟩).run Try.prog w = .ok (.string ⟨#[249, 2, 87, 120]⟩) w := by
  rw [run_string_add_sum w _ _ (by decide)]
  have e : (⟨#[249, 2, 87]⟩ : ByteArray) ++ ⟨#[120]⟩ = ⟨#[249, 2, 87, 120]⟩ := by decide +kernel
  rw [e]
theorem of_lit (l : List UInt8) (n : Nat) (cs : Array Value) (x : ByteArray) (hn : l.length = n) (hcs : cs = cellsOf l) (hx : str l = x) (v : World) :
    Calls Try.prog 26 #[.slice (some ⟨v.heap.size, 0, none⟩) n n] (v.alloc (.cells cs 5)) fun e w' => e = .returned (.string x) ∧ Kept v w' := by
  subst hcs hx
  refine (of_any v.heap.size l n _ hn fun j hj => ?_).mono fun e w' h => ?_
  · have e := (MapKept.heap_alloc v (.cells (cellsOf l) 5)).1
    show (match (v.alloc _).heap[v.heap.size]? with | some (.cells c _ _) => c[j]? | _ => none) = _
    rw [e]
    simp [cellsOf, hj]
  · obtain ⟨rfl, rfl⟩ := h
    exact ⟨rfl, (Kept.refl v).alloc _⟩
theorem of_0_1_2 (v : World) : Calls Try.prog 26 #[.slice (some ⟨v.heap.size, 0, none⟩) 3 3] (v.alloc (.cells #[.int .u8 0, .int .u8 1, .int .u8 2] 5)) fun e w' => e = .returned (.string ⟨#[0, 1, 2]⟩) ∧ Kept v w' :=
  of_lit [0, 1, 2] 3 _ _ rfl rfl rfl v
set_option maxHeartbeats 400000 in
set_option maxRecDepth 100000 in
theorem known_any (w : World) : Calls Try.prog 9 #[] w fun e w' => e = .returned (.bool true) ∧ Kept w w' := by
  have hcat := fun u => kn_cat u
  go_enter Try.func9, Try.ntmps9
  go_wp2_with (first
    | (go_at_call 14; (with_reducible refine (kn_int _).mono ?_); rintro e w1 ⟨rfl, hk1⟩)
    | (go_at_call 22; (with_reducible refine (kn_unint _).mono ?_); rintro e w2 ⟨rfl, hk2⟩)
    | (go_at_call 10; (with_reducible refine (kn_fixed _).mono ?_); rintro e w3 ⟨rfl, hk3⟩)
    | (go_at_call 26; (with_reducible refine (of_0_1_2 _).mono ?_); rintro e w4 ⟨rfl, hk4⟩))
  go_ret
  exact ⟨rfl, ((hk1.trans hk2).trans hk3).trans hk4⟩
end Go.Proofs.Ytghnaimpcjbhdaa.Pk
