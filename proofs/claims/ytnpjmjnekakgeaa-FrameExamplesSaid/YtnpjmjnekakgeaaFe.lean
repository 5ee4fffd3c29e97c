/-
  What the calls of package frame do that read a sector: the cursor.
-/
import Derived.Test.YtnpjmjnekakgeaaFd
import Derived.Test.YtnpjmjnekakgeaaBut
namespace Go.Proofs.Ytnpjmjnekakgeaa.Fk
open Go.RowKit Go.Proofs.Ytnpjmjnekakgeaa.Mem Go.Proofs.Ytnpjmjnekakgeaa.Pk

/-- Block B is a cursor before l. -/
def Cur (B : Nat) (l : List UInt8) (w : World) : Prop := w.heap[B]? = some (.cells #[.string (str l)] 58 (0, 0))
theorem Cur.kept {B : Nat} {r : List UInt8} {w w' : World} (h : Cur B r w) (k : Kept w w') : Cur B r w' := k.at h
theorem min_nat (n m : Nat) : (min (n : Int) (m : Int)).toNat = min n m := by omega
theorem first_str (l : List UInt8) (n : Nat) : (str l).extract 0 (min n (str l).size) = str (l.take n) := by
  apply str_inj
  rw [Lib.extract_data, list_str, list_str, size_str]
  simp
theorem rest_str (l : List UInt8) (n : Nat) : (str l).extract (min n (str l).size) (str l).size = str (l.drop n) := by
  apply str_inj
  rw [Lib.extract_data, list_str, list_str, size_str]
  by_cases h : n ≤ l.length
  · rw [Nat.min_eq_left h, List.take_of_length_le (by rw [List.length_drop]; omega)]
  · rw [Nat.min_eq_right (by omega), List.drop_length, List.drop_eq_nil_of_le (by omega), List.take_nil]

set_option maxRecDepth 100000 in
theorem text_c (B : Nat) (l : List UInt8) (n : Nat) (w : World) (h : Cur B l w) :
    Calls Try.prog 34 #[.pointer (some ⟨B, 0, none⟩), .int .i64 n] w fun e w' => e = .returned (.string (str (l.take n))) ∧ Cur B (l.drop n) w' ∧ But B w w' := by
  rw [← first_str]
  unfold Cur at h ⊢
  rw [← rest_str]
  obtain ⟨r, hr⟩ : ∃ r, r = str l := ⟨_, rfl⟩
  rw [← hr] at h ⊢
  have c := cell_of_one h
  have f := free_of_one h
  have H := Lib.hid h
  clear h hr
  go_enter Try.func34, Try.ntmps34
  go_wp2
  go_ret
  rw [min_nat]
  exact ⟨rfl, one_setCell H.out, But.set B 0 w _⟩

theorem uf_str (l : List UInt8) (n : Nat) (hn : n ≤ 8) : ufN (str (l.take n)) = val (l.take n) := by
  unfold ufN
  rw [size_str, list_str]
  split
  · rename_i h
    have e : l.take n = [] := List.eq_nil_of_length_eq_zero (by rw [List.length_take] at h ⊢; omega)
    rw [e]; rfl
  · rfl
set_option maxRecDepth 100000 in
theorem number_c (B : Nat) (l : List UInt8) (n : Nat) (hn : n ≤ 6) (w : World) (h : Cur B l w) :
    Calls Try.prog 33 #[.pointer (some ⟨B, 0, none⟩), .int .i64 n] w fun e w' => e = .returned (.int .i64 (val (l.take n))) ∧ Cur B (l.drop n) w' ∧ But B w w' := by
  have ct := text_c B l n w h
  have cu := unfixed_any (str (l.take n))
  rw [uf_str l n (by omega)] at cu
  have hv : val (l.take n) < 281474976710656 := Nat.lt_of_lt_of_le (val_short (l := l) (k := n)) (Nat.pow_le_pow_right (n := 256) (by decide) hn)
  obtain ⟨E, hE⟩ : ∃ E, E = ufE (str (l.take n)) := ⟨_, rfl⟩
  rw [← hE] at cu
  obtain ⟨v, hV⟩ : ∃ v, v = val (l.take n) := ⟨_, rfl⟩
  rw [← hV] at cu hv ⊢
  obtain ⟨s, hs⟩ : ∃ s, s = str (l.take n) := ⟨_, rfl⟩
  rw [← hs] at cu ct
  clear hE hV hs h
  go_enter Try.func33, Try.ntmps33
  go_wp2_with (first
    | (go_at_call 34; (with_reducible refine ct.mono ?_); rintro e u1 ⟨rfl, k1, b1⟩)
    | (go_at_call 45; (with_reducible refine (cu _).mono ?_); rintro e u2 ⟨rfl, k2⟩))
  go_ret
  exact ⟨rfl, k1.kept k2, b1.trans (k2.but _)⟩
end Go.Proofs.Ytnpjmjnekakgeaa.Fk
