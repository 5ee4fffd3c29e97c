/-
  A specification written out as bytes (the specification's Encode of layer 13).
-/
import Derived.Test.YtngojgocplmedaaRZg
import Derived.Test.YtngojgocplmedaaRZe
namespace Go.Proofs.YtngojgocplmedaaR.Ls
open Go.RowKit Go.Proofs.YtngojgocplmedaaR.Mem Go.Proofs.YtngojgocplmedaaR.Bx Go.Proofs.YtngojgocplmedaaR.In Go.Proofs.YtngojgocplmedaaR.Sp Go.Proofs.YtngojgocplmedaaR.Nr Go.Proofs.YtngojgocplmedaaR.Pk Go.ChangeShapes Go.WideShapes Go.ChangeAt
set_option linter.unusedVariables false

theorem ints_row {t : Tsk} (g : t.good) : rowI t = ints t.row := by
  have h1 := g.lim
  have h2 := g.win
  have h3 := g.bas
  have h4 := g.prb
  simp only [rowI, Tsk.row, ints, List.map_cons, List.map_nil, List.cons.injEq, and_true]
  refine ⟨by split <;> rfl, ?_, ?_, ?_, ?_, ?_⟩ <;> omega
theorem ints_rows {l : List Tsk} (h : ∀ t ∈ l, t.good) : l.flatMap rowI = ints (rows l) := by
  induction l with
  | nil => rfl
  | cons t l ih =>
    rw [List.flatMap_cons, ih (fun x hx => h x (by simp [hx])), ints_row (h t (by simp)), rows_cons]
    simp [ints]
theorem numsI_ints {s : Sp} (g : s.good) : numsI s s.tasks.length = ints s.nums := by
  have h1 := g.id
  have h2 := g.c
  have h3 := g.m
  have h4 := g.d
  unfold numsI Sp.nums Sp.head
  rw [List.take_length, ints_rows g.task]
  have e : ints (nats s.ports) = s.ports := ints_nats fun p hp => by have := g.port p hp; omega
  have e1 : ((s.id.toNat : Nat) : Int) = s.id := by omega
  have e2 : ((s.c.toNat : Nat) : Int) = s.c := by omega
  have e3 : ((s.m.toNat : Nat) : Int) = s.m := by omega
  have e4 : ((s.d.toNat : Nat) : Int) = s.d := by omega
  conv => lhs; rw [← e]
  have e5 : (nats s.ports).length = s.ports.length := by simp [nats]
  simp [ints, e1, e2, e3, e4, e5]
theorem nums_length {s : Sp} (g : s.good) : s.nums.length ≤ 38 := by
  have h := numsI_length s (Nat.le_refl s.tasks.length)
  rw [numsI_ints g] at h
  have h1 := g.few
  have h2 := g.most
  simp [ints] at h
  omega
theorem num_short {n : Nat} (h : n ≤ top) : (num n).length ≤ 9 := (num_len n).2
theorem encs_take {l : List Nat} {j n : Nat} (h : l[j]? = some n) : encs (l.take (j + 1)) = encs (l.take j) ++ str (num n) := by
  rw [List.take_add_one, h, encs_append]
  simp [encs]
theorem encs_size_le {l : List Nat} : (encs l).size ≤ 9 * l.length := by
  induction l with
  | nil => simp [encs]
  | cons n l ih =>
    rw [encs, ByteArray.size_append, List.length_cons]
    have := (num_len n).2
    have e : (str (num n)).size = (num n).length := by simp [str, ByteArray.size]
    omega
set_option maxRecDepth 100000 in
theorem renc_bad {w : World} {s : Sp} {p : Pl} (h : SpAt w s p) (g : ¬ s.good) : Calls Try.prog 11 #[.agg (spC s p)] w fun e w' => e = .returned (.tuple #[.string ⟨#[]⟩, .int .i64 (spSays s)]) ∧ Kept w w' := by
  have h0 : Mem.Own w [boxA w.heap.size (spC s p) 27] (w.alloc (.cells (spC s p) 27)) := (Own.nil w).box _ _
  have hc := rspec_c (h.kept h0.kept)
  have hn : spSays s ≠ 0 := fun e => g ((sp_say s).1 e)
  obtain ⟨E, hE⟩ : ∃ E, E = spSays s := ⟨_, rfl⟩
  rw [← hE] at hc hn ⊢
  have n1 : (E != 0) = true := by simpa using hn
  obtain ⟨po, pn, pc, to, tn, tc⟩ := p
  unfold spC at h0 hc ⊢
  clear hn hE h
  go_enter Try.func11, Try.ntmps11
  go_wp2_with (go_at_call 15; (with_reducible refine hc.mono ?_); rintro e w1 ⟨rfl, k1⟩)
  go_ret2
  exact ⟨rfl, h0.kept.trans k1⟩
set_option maxHeartbeats 2000000 in
set_option maxRecDepth 100000 in
theorem renc_good {w : World} {s : Sp} {p : Pl} (h : SpAt w s p) (g : s.good) : Calls Try.prog 11 #[.agg (spC s p)] w fun e w' => e = .returned (.tuple #[.string s.bytes, .int .i64 0]) ∧ Kept w w' := by
  have h0 : Mem.Own w [boxA w.heap.size (spC s p) 27] (w.alloc (.cells (spC s p) 27)) := (Own.nil w).box _ _
  have hc := rspec_c (h.kept h0.kept)
  rw [(sp_say s).2 g] at hc
  have H := Lib.hid (And.intro h g)
  have hL := nums_length g
  have hT := nums_top g
  have HN := Lib.hid (numsI_ints g)
  have HB := Lib.hid (show s.bytes = encs s.nums from rfl)
  obtain ⟨L, hL0⟩ : ∃ L, L = s.nums := ⟨_, rfl⟩
  rw [← hL0] at hL hT HN HB
  have HT := Lib.hid hT
  clear hT hL0 h g
  obtain ⟨n, hn⟩ : ∃ n, n = L.length := ⟨_, rfl⟩
  rw [← hn] at hL
  have Hn := Lib.hid hn
  clear hn
  obtain ⟨po, pn, pc, to, tn, tc⟩ := p
  have hnum := fun w1 (k : Kept (w.alloc (.cells (spC s ⟨po, pn, pc, to, tn, tc⟩) 27)) w1) => nums_c (H.out.1.kept (h0.later k).kept) H.out.2
  unfold spC at h0 hc hnum ⊢
  go_enter Try.func11, Try.ntmps11
  go_wp2_with (first
    | (go_at_call 15; (with_reducible refine hc.mono ?_); rintro e w1 ⟨rfl, k1⟩; obtain ⟨⟨a0, a1, a2, a3, a4, a5⟩, _⟩ := box6 ((h0.later k1).boxed 0 rfl))
    | (go_at_call 30; (with_reducible refine (hnum _ k1).mono ?_); rintro e w2 ⟨ao, n2, cap, rfl, hnew, k2⟩; rw [HN.out] at hnew; obtain rfl : n2 = n := by (rw [Hn.out]; simpa [ints] using hnew.len.symm)))
  have HA := Lib.hid hnew
  have K2 := Lib.hid ((h0.later k1).kept.trans k2)
  clear hnew
  go_loopw [5, 7] (fun out i wr => ∃ (j : Nat) (X : ByteArray), j ≤ n2 ∧ i = .int .i64 j ∧ out = .string X ∧ X = encs (L.take j) ∧ Kept w2 wr) (fun _ i _ => n2 - (RowKit.intOf i).toNat)
  case atStart => exact ⟨0, _, Nat.zero_le _, rfl, rfl, rfl, Kept.refl _⟩
  case round =>
    obtain ⟨j, X, hj, rfl, rfl, hX, hK⟩ := hrel
    have HX := Lib.hid hX
    clear hX
    by_cases hlt : j < n2
    · obtain ⟨x, g, o, hx, hi, e9, hg, hc9⟩ := (HA.out.at.kept hK).get hlt
      subst e9
      obtain ⟨m, hm, rfl⟩ : ∃ m : Nat, L[j]? = some m ∧ (m : Int) = x := by simpa [ints] using hx
      have hm62 := HT.out m (List.mem_of_getElem? hm)
      unfold top at hm62
      have HM := Lib.hid hm
      clear hm hx hi
      have hsz : X.size ≤ 9 * 38 := by
        rw [HX.out]
        exact Nat.le_trans encs_size_le (by rw [List.length_take]; omega)
      obtain ⟨Y, hY⟩ : ∃ Y, Y = str (num m) := ⟨_, rfl⟩
      obtain ⟨Z, hZ⟩ : ∃ Z, Z = X ++ Y := ⟨_, rfl⟩
      have hadd : ∀ W, (Op.stringOp .add X Y).run Try.prog W = .ok (.string Z) W := fun W => by
        have := (num_len m).2
        have e : (str (num m)).size = (num m).length := by simp [str, ByteArray.size]
        rw [hZ]; exact run_string_add_sum W X Y (by rw [hY, e]; omega)
      have hvar : ∀ W, Calls Try.prog 31 #[.int .u64 m] W fun e w' => e = .returned (.string Y) ∧ Kept W w' := fun W => by
        rw [hY]; exact rvar_any m (by unfold U64; omega) W
      have HZ := Lib.hid (And.intro hY hZ)
      clear hY hZ
      go_wp2_with (go_at_call 31; (with_reducible refine (hvar _).mono ?_); rintro e w4 ⟨rfl, k4⟩)
      go_roundw
      case rel => exact ⟨j + 1, _, by omega, by go_num, rfl, by rw [encs_take HM.out, HZ.out.2, HX.out, HZ.out.1], hK.trans k4⟩
      case measure => simp [RowKit.intOf]; omega
    · obtain rfl : j = n2 := by omega
      go_wp2
      go_ret2
      exact ⟨by rw [HB.out, HX.out, Hn.out, List.take_length]; rfl, K2.out.trans hK⟩
end Go.Proofs.YtngojgocplmedaaR.Ls
