/-
  The specification's reader of numbers (layer 13): Num.
-/
import Derived.Test.YtngojgocplmedaaRZh
namespace Go.Proofs.YtngojgocplmedaaR.Ls
open Go.RowKit Go.Proofs.YtngojgocplmedaaR.Mem Go.Proofs.YtngojgocplmedaaR.Bx Go.Proofs.YtngojgocplmedaaR.In Go.Proofs.YtngojgocplmedaaR.Sp Go.Proofs.YtngojgocplmedaaR.Nr Go.Proofs.YtngojgocplmedaaR.Pk Go.ChangeShapes Go.WideShapes Go.ChangeAt
set_option linter.unusedVariables false

/-- What reading a number does: from the state (s, b) to the number x and the state (t, c). -/
def NumR (s : ByteArray) (b : Bool) (x : Int) (t : ByteArray) (c : Bool) : Prop :=
  (b = false ∧ c = false ∧ ∃ n : Nat, x = n ∧ n ≤ top ∧ uv s = some (n, t)) ∨ (c = true ∧ x = 0 ∧ t = s ∧ (b = true ∨ reads 1 s = none))
theorem NumR.fit {s t : ByteArray} {b c : Bool} {x : Int} (h : NumR s b x t c) : 0 ≤ x ∧ x ≤ 4611686018427387904 := by
  rcases h with ⟨_, _, n, rfl, hn, _⟩ | ⟨_, rfl, _⟩
  · unfold top at hn; omega
  · decide
theorem reads_one {s t : ByteArray} {n : Nat} (h : uv s = some (n, t)) (hn : n ≤ top) : reads 1 s = some ([n], t) := by
  rw [reads_succ h, if_pos hn]; rfl
theorem reads_big {s t : ByteArray} {n : Nat} (h : uv s = some (n, t)) (hn : ¬ n ≤ top) : reads 1 s = none := by
  rw [reads_succ h, if_neg hn]
theorem box2 {y : World} {F : Nat} {T : TypeId} {a b : Value} (h : y.heap[F]? = some (.cells #[a, b] T (0, 0))) :
    (y.cell? ⟨F, 0, none⟩ = some a ∧ y.cell? ⟨F, 1, none⟩ = some b) ∧ ∀ i, y.frozen? ⟨F, i, none⟩ = false :=
  ⟨⟨cell_of_row _ _ _ _ _ _ h, cell_of_row _ _ _ _ _ _ h⟩, fun i => frozen_of_row y F i _ _ h⟩
set_option maxHeartbeats 1000000 in
set_option maxRecDepth 100000 in
theorem rnum_c {w0 w : World} {L : List As} {G i : Nat} {s : ByteArray} {b : Bool} (h : Own w0 L w) (hi : L[i]? = some (boxA G #[.string s, .bool b] 82)) :
    Calls Try.prog 70 #[.pointer (some ⟨G, 0, none⟩)] w fun e w' => ∃ x t c, e = .returned (.int .i64 x) ∧ NumR s b x t c ∧ Own w0 (L.set i (boxA G #[.string t, .bool c] 82)) w' := by
  obtain ⟨⟨c0, c1⟩, fr⟩ := box2 (h.boxed i hi)
  have f0 := fr 0
  have f1 := fr 1
  clear fr
  have hu := runvar_any s
  have fin : ∀ w1, Kept w w1 → ∀ x t c, NumR s b x t c → (c = true ∧ t = s → ∃ x t c, Ending.returned (.int .i64 0) = .returned (.int .i64 x) ∧ NumR s b x t c ∧ Own w0 (L.set i (boxA G #[.string t, .bool c] 82)) (w1.setCell ⟨G, 1, none⟩ (.bool true))) := by
    rintro w1 k x t c hN ⟨rfl, rfl⟩
    have hx : x = 0 := by
      rcases hN with ⟨_, e, _⟩ | ⟨_, e, _⟩
      · cases e
      · exact e
    subst hx
    exact ⟨0, _, true, rfl, hN, (h.later k).boxset i hi 1 _⟩
  have F := Lib.hid fin
  have H := Lib.hid (And.intro h hi)
  clear fin h hi
  cases b with
  | true =>
    go_enter Try.func70, Try.ntmps70
    go_wp2_with (go_at_call 77; (with_reducible refine (hu _).mono ?_); rintro e w1 ⟨rfl, k1⟩; have d1 : w1.cell? ⟨G, 1, none⟩ = some (.bool true) := ((H.out.1.later k1).boxed i H.out.2 |> box2).1.2; have e1 : w1.frozen? ⟨G, 1, none⟩ = false := ((H.out.1.later k1).boxed i H.out.2 |> box2).2 1)
    go_ret
    exact F.out _ k1 0 s true (.inr ⟨rfl, rfl, rfl, .inl rfl⟩) ⟨rfl, rfl⟩
  | false =>
    rcases hv : uv s with _ | ⟨n, r⟩
    · rw [uvN_none hv, uvR_none hv, uvE_none hv] at hu
      have HV := Lib.hid hv
      clear hv
      go_enter Try.func70, Try.ntmps70
      go_wp2_with (go_at_call 77; (with_reducible refine (hu _).mono ?_); rintro e w1 ⟨rfl, k1⟩; have d1 : w1.cell? ⟨G, 1, none⟩ = some (.bool false) := ((H.out.1.later k1).boxed i H.out.2 |> box2).1.2; have e1 : w1.frozen? ⟨G, 1, none⟩ = false := ((H.out.1.later k1).boxed i H.out.2 |> box2).2 1)
      go_ret
      exact F.out _ k1 0 s true (.inr ⟨rfl, rfl, rfl, .inr (reads_none HV.out)⟩) ⟨rfl, rfl⟩
    · rw [uvN_some hv, uvR_some hv, uvE_some hv] at hu
      have HV := Lib.hid hv
      clear hv
      by_cases hn : n ≤ top
      · have hn' := hn
        unfold top at hn'
        have n1 : decide ((4611686018427387904 : Int) < (n : Int)) = false := decide_eq_false (by omega)
        go_enter Try.func70, Try.ntmps70
        go_wp2_with (go_at_call 77; (with_reducible refine (hu _).mono ?_); rintro e w1 ⟨rfl, k1⟩; have d1 : w1.cell? ⟨G, 1, none⟩ = some (.bool false) := ((H.out.1.later k1).boxed i H.out.2 |> box2).1.2; have e1 : w1.frozen? ⟨G, 0, none⟩ = false := ((H.out.1.later k1).boxed i H.out.2 |> box2).2 0; have e0 : w1.cell? ⟨G, 0, none⟩ = some (.string s) := ((H.out.1.later k1).boxed i H.out.2 |> box2).1.1)
        go_ret
        exact ⟨n, r, false, rfl, .inl ⟨rfl, rfl, n, rfl, hn, HV.out⟩, (H.out.1.later k1).boxset i H.out.2 0 _⟩
      · have hn' := hn
        unfold top at hn'
        have n1 : decide ((4611686018427387904 : Int) < (n : Int)) = true := decide_eq_true (by omega)
        go_enter Try.func70, Try.ntmps70
        go_wp2_with (go_at_call 77; (with_reducible refine (hu _).mono ?_); rintro e w1 ⟨rfl, k1⟩; have d1 : w1.cell? ⟨G, 1, none⟩ = some (.bool false) := ((H.out.1.later k1).boxed i H.out.2 |> box2).1.2; have e1 : w1.frozen? ⟨G, 1, none⟩ = false := ((H.out.1.later k1).boxed i H.out.2 |> box2).2 1)
        go_ret
        exact F.out _ k1 0 s true (.inr ⟨rfl, rfl, rfl, .inr (reads_big HV.out hn)⟩) ⟨rfl, rfl⟩
end Go.Proofs.YtngojgocplmedaaR.Ls
