/-
  Package disk's Pending, New, Copy, and its calls on nil.
-/
import Derived.Test.YtoclgneokfbobaaDu
namespace Go.Proofs.Ytoclgneokfbobaa.Dz
open Go.RowKit Go.ChangeShapes Go.WideShapes Go.ChangeAt Go.Proofs.Ytoclgneokfbobaa.Mem Go.Proofs.Ytoclgneokfbobaa.Fz
set_option linter.unusedVariables false

/-- A slice of numbers that lies in memory at or above block b. -/
structure Ints (b : Nat) (ao : Option Addr) (l : List Nat) (w : World) : Prop where
  cell : ∀ k (h : k < l.length), ∃ g, ao = some ⟨g, 0, none⟩ ∧ b ≤ g ∧ g < w.heap.size ∧ w.cell? ⟨g, k, none⟩ = some (.int .i64 (l[k] : Int))
theorem Ints.kept {b : Nat} {ao : Option Addr} {l : List Nat} {w w' : World} (h : Ints b ao l w) (k : Kept w w') : Ints b ao l w' :=
  ⟨fun i hi => by obtain ⟨g, h1, h2, h3, h4⟩ := h.cell i hi; exact ⟨g, h1, h2, Nat.lt_of_lt_of_le h3 k.size, by rw [Kept.cell k h3]; exact h4⟩⟩
def nums (l : List Nat) : List Value := l.map fun (i : Nat) => Value.int .i64 (i : Int)
theorem ints_of {b : Nat} {v : Value} {l : List Nat} {w : World} (h : w.ownsRow b 3 1 v l.length (nums l)) : ∃ ao cap, v = .slice ao l.length cap ∧ Ints b ao l w := by
  rcases h.2 with ⟨rfl, h0⟩ | ⟨g, cap, cur, rfl, hb, hg, _⟩
  · exact ⟨none, 0, by rw [h0], ⟨fun k hk => by omega⟩⟩
  · refine ⟨some ⟨g, 0, none⟩, cap, rfl, ⟨fun k hk => ⟨g, rfl, hb, lt_of_block hg, ?_⟩⟩⟩
    have := h.cells (g := g) rfl k (.int .i64 (l[k] : Int)) (by simp [nums, hk])
    simpa only [add_plain, Nat.zero_add] using this
theorem cell_one_later (w : World) (o : Obj) (x : Value) (t : TypeId) : ∀ j u, [x][j]? = some u → ((w.alloc o).alloc (.cells #[x] t)).cell? ((⟨w.heap.size + 1, 0, none⟩ : Addr).add j) = some u := by
  have h := cell_one_new (w.alloc o) x t
  simpa using h
theorem grown_kept {w a b : World} {row : Option Nat} (h : Kept w a) (k : a.grownBy b row) (hr : ∀ g, row = some g → w.heap.size ≤ g) : Kept w b :=
  Below.trans h ⟨k.os, k.tape, k.output, k.size, fun i hi => k.block i (Nat.lt_of_lt_of_le hi h.size) fun e => by have := hr i e.symm; omega⟩
theorem int_info : (Try.prog.info? 3).map (fun i => (i.zero, i.size, i.bytes)) = some (some (.int .i64 0), 1, 8) := by kernel_rfl
set_option maxHeartbeats 1000000 in
set_option maxRecDepth 100000 in
theorem pending_c (F D M1 M2 : Nat) (pv : Value) (s : Ds) (hroom : s.pend.length < 4294967296) (w : World) (h : Dk F D M1 M2 pv s w) :
    Calls Try.prog 17 #[.pointer (some ⟨D, 0, none⟩)] w fun e w' => ∃ ao cap, e = .returned (.slice ao s.pend.length cap) ∧ Kept w w' ∧ Ints w.heap.size ao (s.pend.map (·.1)) w' := by
  have c4 := h.cell 4
  simp [blockOf] at c4
  have rows : ∃ (ao : Option Addr) (cap : Nat), pv = .slice ao s.pend.length cap ∧ ∀ k (hk : k < s.pend.length), ∃ g, ao = some ⟨g, 0, none⟩ ∧ ∀ W, Kept w W → W.cell? ⟨g, k * 2, none⟩ = some (.int .i64 (s.pend[k].1 : Int)) ∧ W.cell? ⟨g, k * 2 + 1, none⟩ = some (.string s.pend[k].2) := by
    rcases row_slice h.row with rfl | ⟨g, cap, rfl⟩
    · have h0 : s.pend.length = 0 := by
        rcases h.row.2 with ⟨_, h0⟩ | ⟨_, _, _, e, _⟩
        · exact h0
        · simp at e
      exact ⟨none, 0, by rw [h0], fun k hk => by omega⟩
    · refine ⟨some ⟨g, 0, none⟩, cap, rfl, fun k hk => ⟨g, rfl, fun W hW => ?_⟩⟩
      have hg := h.row.cells (g := g) rfl
      have hlt := (h.row.lt g rfl).2
      have q := cells_at s.pend k hk
      have a1 := hg _ _ q.1
      have a2 := hg _ _ q.2
      simp only [add_plain, Nat.zero_add] at a1 a2
      exact ⟨by rw [Kept.cell hW hlt]; exact a1, by rw [Kept.cell hW hlt]; exact a2⟩
  obtain ⟨ao, cap, rfl, hrow⟩ := rows
  have HC := Lib.hid (And.intro hrow hroom)
  obtain ⟨i0, hi, hz0, hz1, hz2⟩ := info_parts int_info
  clear h hrow
  go_enter Try.func17, Try.ntmps17
  go_wp2
  go_loopw [3, 13] (fun v i wr => ∃ k : Nat, k ≤ s.pend.length ∧ i = .int .i64 k ∧ Kept w wr ∧ wr.ownsRow w.heap.size 3 1 v k (nums ((s.pend.take k).map (·.1)))) (fun _ i _ => s.pend.length - (intOf i).toNat)
  case atStart => exact ⟨0, by omega, rfl, Kept.refl _, by simpa [nums] using World.ownsRow_nil _ _ _ _⟩
  case round =>
    clear c4
    obtain ⟨k, hk, rfl, hp, hown⟩ := hrel
    by_cases hlt : k < s.pend.length
    · obtain ⟨g, rfl, hc⟩ := HC.out.1 k hlt
      obtain ⟨r0, r1⟩ := hc wr hp
      obtain ⟨sec, hsec⟩ : ∃ sec, sec = s.pend[k].1 := ⟨_, rfl⟩
      obtain ⟨dat, hdat⟩ : ∃ dat, dat = s.pend[k].2 := ⟨_, rfl⟩
      rw [← hsec] at r0
      rw [← hdat] at r1
      have Hs := Lib.hid hsec
      have Hp := Lib.hid hp
      have Ho := Lib.hid hown
      clear hc hsec hdat hp hown
      go_wp2_with (at_builtin; refine wpList_append_own_at _ rfl _ _ 44 rfl w.heap.size 3 i0 (.int .i64 0) 1 8 Try.underlying44 hi hz0 hz1 hz2 rfl (by decide) _ _ _ rfl ((Ho.out.alloc _).alloc _) ⟨wr.heap.size + 1, 0, none⟩ 1 1 [.int .i64 (sec : Int)] rfl rfl (cell_one_later _ _ _ _) (by intro x hx; simp at hx; subst hx; rfl) (by have := HC.out.2; unfold maxLen; omega) (by have := HC.out.2; omega) (by have := Hp.out.size; simp; omega) ?_; intro v' w1 hown1 hgrow hnil hloc)
      go_roundw
      case rel =>
        refine ⟨k + 1, by omega, by go_num, grown_kept ((Hp.out.alloc _).alloc _) hgrow (fun g hg => (Ho.out.lt g hg).1), ?_⟩
        have e : nums ((s.pend.take (k + 1)).map (·.1)) = nums ((s.pend.take k).map (·.1)) ++ [.int .i64 (sec : Int)] := by
          rw [List.take_succ_eq_append_getElem hlt, List.map_append, Hs.out]; simp [nums]
        rw [e]; exact hown1
      case measure => simp [intOf]; omega
    · obtain rfl : k = s.pend.length := by omega
      have e : s.pend.take s.pend.length = s.pend := List.take_length
      rw [e] at hown
      have hown' : wr.ownsRow w.heap.size 3 1 u3 (s.pend.map (·.1)).length (nums (s.pend.map (·.1))) := by simpa using hown
      have Hx := Lib.hid (And.intro hp (ints_of hown'))
      clear hp hown hown' e
      go_wp2
      go_ret
      obtain ⟨hp, ao, cap', rfl, hi⟩ := Hx.out
      exact ⟨ao, cap', by simp, hp, hi⟩
end Go.Proofs.Ytoclgneokfbobaa.Dz
