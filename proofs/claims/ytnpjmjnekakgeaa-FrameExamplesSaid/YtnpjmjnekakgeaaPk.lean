/-
  What the calls of package pack do.
-/
import Derived.Test.YtnpjmjnekakgeaaPu
import Derived.Test.YtnpjmjnekakgeaaMem
import Derived.RegionTactic
import Derived.Deep.QuietTactic
import Derived.BigQuiet
import Derived.Deep.RegionHeld3
import Derived.Laws.Rows
import Derived.Lib.BufferWrite
import Derived.Laws.CopyOwn
import Derived.Laws.Bits64b
namespace Go.Proofs.Ytnpjmjnekakgeaa.Pk
open Go.RowKit Go.Proofs.Ytnpjmjnekakgeaa.Mem

theorem ret_i {k : IntKind} {a b : Int} (h : a = b) : Ending.returned (.int k a) = .returned (.int k b) := by rw [h]
theorem ret_s {a b : ByteArray} (h : a = b) : Ending.returned (.string a) = .returned (.string b) := by rw [h]
/-- It fits 63 bits. -/
def I63 (n : Nat) : Prop := n < 9223372036854775808

theorem u64_div {c : Nat} (h : U64 c) : U64 (c / 256) := Nat.lt_of_le_of_lt (Nat.div_le_self _ _) h
theorem u64_of {c : Nat} (h : U64 c) : c < 18446744073709551616 := h

set_option maxHeartbeats 400000 in
theorem least_u (n : Nat) (h : U64 n) (w : World) : Calls Try.prog 25 #[.int .u64 n] w fun e w' => e = .returned (.int .i64 (wd n)) ∧ w = w' := by
  go_enter Try.func25, Try.ntmps25
  go_wp2
  go_loop [0, 3] (fun v i => ∃ c m : Nat, v = .int .u64 c ∧ i = .int .i64 m ∧ U64 c ∧ wd n + 1 = wd c + m) (fun v _ => (intOf v).toNat)
  case atStart => exact ⟨n, 1, rfl, rfl, h, rfl⟩
  case round =>
    obtain ⟨c, m, rfl, rfl, hc, hm⟩ := hrel
    have hb := wd_bd n
    have hb2 := wd_bd c
    have hm8 : m ≤ 8 := by omega
    have HM := Lib.hid hm
    clear hm hb
    by_cases hlt : 255 < c
    · go_wp2
      go_round
      case rel => exact ⟨c / 256, m + 1, by go_num, by go_num, u64_div hc, by rw [HM.out, wd_step hlt hc]; omega⟩
      case measure => simp [intOf]; omega
    · go_wp2
      go_ret
      exact ⟨ret_i (by have := HM.out; rw [wd_small (n := c) (by omega)] at this; omega), rfl⟩
theorem i63_div {c : Nat} (h : I63 c) : I63 (c / 256) := Nat.lt_of_le_of_lt (Nat.div_le_self _ _) h
theorem u64_i63 {c : Nat} (h : I63 c) : U64 c := Nat.lt_trans h (by decide)
/-- After j rounds. -/
def Pl (w : World) (n k j : Nat) (wr : World) : Prop :=
  ∃ l : List UInt8, l.length = 8 ∧ Row w w.heap.size l wr ∧ ∀ m, m < j → l.getD (k - 1 - m) 0 = UInt8.ofNat (n / 256 ^ m)
theorem Pl.start (w : World) (n k T : Nat) : Pl w n k 0 (w.alloc (.cells #[.int .u8 0, .int .u8 0, .int .u8 0, .int .u8 0, .int .u8 0, .int .u8 0, .int .u8 0, .int .u8 0] T)) :=
  ⟨List.replicate 8 0, rfl, Row.start w 8 T, fun m hm => absurd hm (by omega)⟩
theorem Pl.at {w wr : World} {n k j : Nat} (h : Pl w n k j wr) (hj : j < k) (h8 : k ≤ 8) : (∃ v, wr.cell? ⟨w.heap.size, k - 1 - j, none⟩ = some (.int .u8 v)) ∧ wr.frozen? ⟨w.heap.size, k - 1 - j, none⟩ = false := by
  obtain ⟨l, hl, hr, _⟩ := h
  exact hr.at _ (by omega)
theorem byte_at (n j : Nat) : (n : Int) / 2 ^ (8 * j) % 256 = ((UInt8.ofNat (n / 256 ^ j)).toNat : Int) := by
  have e : (UInt8.ofNat (n / 256 ^ j)).toNat = n / 256 ^ j % 256 := UInt8.toNat_ofNat'
  rw [e, show (2 : Int) ^ (8 * j) = ((256 ^ j : Nat) : Int) by rw [Int.pow_mul]; simp]
  omega
theorem Pl.next {w wr : World} {n k j : Nat} {v : Int} (h : Pl w n k j wr) (hj : j < k) (h8 : k ≤ 8) (hv : v = ((UInt8.ofNat (n / 256 ^ j)).toNat : Int)) :
    Pl w n k (j + 1) (wr.setCell ⟨w.heap.size, k - 1 - j, none⟩ (.int .u8 v)) := by
  obtain ⟨l, hl, hr, hx⟩ := h
  refine ⟨l.set (k - 1 - j) (UInt8.ofNat (n / 256 ^ j)), by simpa using hl, hr.set _ _ hv (by omega), fun m hm => ?_⟩
  by_cases e : m = j
  · subst e
    have : k - 1 - m < l.length := by omega
    simp [List.getD, this]
  · have e' : ¬ k - 1 - j = k - 1 - m := by omega
    rw [← hx m (by omega)]; simp [List.getD, List.getElem?_set_ne e']
theorem Pl.str {w wr : World} {n k : Nat} (h : Pl w n k k wr) (h8 : k ≤ 8) :
    (convert 36 9 (.slice (some ⟨w.heap.size, 0, none⟩) k 8)).run Try.prog wr = .ok (.string ⟨(be n k).toArray⟩) wr := by
  obtain ⟨l, hl, hr, hx⟩ := h
  rw [hr.str k 8 (by omega), be_take (by omega) hx]
theorem Pl.kept {w wr : World} {n k j : Nat} (h : Pl w n k j wr) : Kept w wr := by
  obtain ⟨l, _, hr, _⟩ := h
  exact hr.keptOf
theorem len8 : Try.prog.arrayLen 62 = 8 := by kernel_rfl
theorem arr8 : Try.prog.underlying 62 = some (.array (Try.prog.arrayLen 62) (Try.prog.elem 62)) := by kernel_rfl
theorem elem8 : Try.prog.elem 62 = 5 := by kernel_rfl
theorem slice8_h (B k : Nat) (h : k ≤ 8) (W : World) : (Instr.sliceAt 62 (.pointer (some ⟨B, 0, none⟩)) none (some (.int .i64 (k : Int))) none).run Try.prog W = .ok (.slice (some ⟨B, 0, none⟩) k 8) W := by
  rw [run_sliceAt_array_h W 62 ⟨B, 0, none⟩ arr8 .i64 (k : Int) (by omega) (by rw [len8]; omega), len8, elem8]
  go_simp
theorem slice8_l (B k : Nat) (h1 : 1 ≤ k) (h : k ≤ 8) (W : World) : (Instr.sliceAt 62 (.pointer (some ⟨B, 0, none⟩)) (some (.int .i64 (8 - (k : Int)))) none none).run Try.prog W = .ok (.slice (some ⟨B, 8 - k, none⟩) k k) W := by
  rw [run_sliceAt_array_l W 62 ⟨B, 0, none⟩ arr8 .i64 (8 - (k : Int)) (by omega) (by rw [len8]; omega), len8, elem8]
  have e : (8 - (k : Int)).toNat = 8 - k := by omega
  have e2 : ¬ 8 = 8 - k := by omega
  have e3 : 8 - (8 - k) = k := by omega
  rw [e]
  go_simp
set_option maxHeartbeats 400000 in
theorem places_u (n k : Nat) (h8 : k ≤ 8) (w : World) :
    Calls Try.prog 26 #[.int .u64 n, .int .i64 k] w fun e w' => e = .returned (.string ⟨(be n k).toArray⟩) ∧ Kept w w' := by
  go_enter Try.func26, Try.ntmps26
  go_wp2
  go_loopw [8] (fun i wr => ∃ j : Nat, j ≤ k ∧ i = .int .i64 j ∧ Pl w n k j wr) (fun i _ => k - (intOf i).toNat)
  case atStart => exact ⟨0, by omega, rfl, Pl.start w n k _⟩
  case round =>
    obtain ⟨j, hj, rfl, hp⟩ := hrel
    by_cases hlt : j < k
    · obtain ⟨⟨v, hc⟩, hf⟩ := hp.at hlt h8
      have i1 : (0 : Int) ≤ (k : Int) - 1 - (j : Int) := by omega
      have i2 : (k : Int) - 1 - (j : Int) < 8 := by omega
      have i3 : ((k : Int) - 1 - (j : Int)).toNat = k - 1 - j := by omega
      go_wp2
      go_roundw
      case rel => exact ⟨j + 1, by omega, by go_num, hp.next hlt h8 (byte_at n j)⟩
      case measure => simp [intOf]; omega
    · obtain rfl : j = k := by omega
      have hcv := hp.str h8
      have HK := Lib.hid hp.kept
      clear hp
      have hsl := slice8_h w.heap.size j h8 wr
      go_wp2
      go_ret
      exact ⟨rfl, HK.out⟩
theorem places_u1 (n : Nat) (w : World) : Calls Try.prog 26 #[.int .u64 n, .int .i64 1] w fun e w' => e = .returned (.string ⟨(be n 1).toArray⟩) ∧ Kept w w' := places_u n 1 (by decide) w
theorem str_append (a b : List UInt8) : (⟨a.toArray⟩ : ByteArray) ++ ⟨b.toArray⟩ = ⟨(a ++ b).toArray⟩ := by
  apply ByteArray.ext; simp
theorem cat_str (a b c : List UInt8) (h : a ++ b = c) (hs : a.length + b.length ≤ 9223372036854775807) (w : World) : (Op.stringOp .add ⟨a.toArray⟩ ⟨b.toArray⟩).run Try.prog w = .ok (.string ⟨c.toArray⟩) w := by
  subst h
  rw [run_string_add_sum w _ _ (by simpa [ByteArray.size] using hs), str_append]
theorem num_cat {n : Nat} (h : ¬ n < 248) (w : World) : (Op.stringOp .add ⟨(be (247 + wd n) 1).toArray⟩ ⟨(be n (wd n)).toArray⟩).run Try.prog w = .ok (.string ⟨(num n).toArray⟩) w :=
  cat_str _ _ _ (by rw [num_great h]; rfl) (by have := wd_bd n; rw [be_length, be_length]; omega) w
/-! Reading: the bytes of a string, joined. -/
theorem ret_un {a b : Int} (h : a = b) : Ending.returned (.int .u64 a) = .returned (.int .u64 b) := by rw [h]
def cellsOf (l : List UInt8) : Array Value := (l.map fun b => Value.int .u8 (b.toNat : Int)).toArray
theorem index_cells (l : List UInt8) (hl : l.length = 8) (i : Nat) (hi : i < 8) (W : World) : (Instr.index 62 (.agg (cellsOf l)) (.int .i64 (i : Int))).run Try.prog W = .ok (.int .u8 ((l.getD i 0).toNat : Int)) W := by
  have hz : ∀ w : World, (Go.sizeOf 5).run Try.prog w = .ok 1 w := fun _ => by kernel_rfl
  have h1 : (cellsOf l)[i]? = some (.int .u8 ((l.getD i 0).toNat : Int)) := by
    have : i < l.length := by omega
    simp [cellsOf, List.getD, this]
  have e : Try.prog.underlying 62 = some (.array 8 5) := by kernel_rfl
  simp [Instr.index, run_underlying e, asIntOf, hz, hi, go_sem]
  rw [h1]
  simp
/-- The row that join reads. -/
def joinRow (s : ByteArray) : List UInt8 := List.replicate (8 - s.size) 0 ++ s.data.toList
theorem join_copy (s : ByteArray) (h1 : 1 ≤ s.size) (h8 : s.size ≤ 8) (w : World) : ∃ w2 : World,
    (Builtin.copy_ #[36, 9] 3 #[.slice (some ⟨w.heap.size, 8 - s.size, none⟩) s.size s.size, .string s]).run Try.prog (w.alloc (.cells #[.int .u8 0, .int .u8 0, .int .u8 0, .int .u8 0, .int .u8 0, .int .u8 0, .int .u8 0, .int .u8 0] 62)) = .ok (.int .i64 s.size) w2 ∧
    w2.heap[w.heap.size]? = some (.cells (cellsOf (joinRow s)) 62 (0, 0)) ∧ Kept w w2 := by
  have hg : (w.alloc (.cells #[.int .u8 0, .int .u8 0, .int .u8 0, .int .u8 0, .int .u8 0, .int .u8 0, .int .u8 0, .int .u8 0] 62)).heap[w.heap.size]? = some (.cells #[.int .u8 0, .int .u8 0, .int .u8 0, .int .u8 0, .int .u8 0, .int .u8 0, .int .u8 0, .int .u8 0] 62 (0, 0)) := (MapKept.heap_alloc w _).1
  have key := Lib.run_copy_row_string (P := Try.prog) _ 36 9 3 5 w.heap.size (8 - s.size) s.size s.size s _ 62 Try.underlying36 (by kernel_rfl) hg (Nat.le_refl _) (by show 8 - s.size + s.size ≤ 8; omega)
  refine ⟨_, key, ?_, ?_⟩
  · have z : (#[.int .u8 0, .int .u8 0, .int .u8 0, .int .u8 0, .int .u8 0, .int .u8 0, .int .u8 0, .int .u8 0] : Array Value).toList = List.replicate 8 (.int .u8 0) := rfl
    rw [setRow_heap _ _ _ _ _ _ hg, z, List.take_replicate, List.drop_eq_nil_of_le (by rw [List.length_replicate]; omega), List.append_nil, Nat.min_eq_left (by omega)]
    unfold cellsOf joinRow Lib.byteCells
    rw [List.map_append, List.map_replicate]
    rfl
  · exact Go.below_setRow ((Below.refl _ _).alloc (Nat.le_refl _) _) (Nat.le_refl _) _
theorem joinRow_len (s : ByteArray) (h8 : s.size ≤ 8) : (joinRow s).length = 8 := by
  have := size_list s
  unfold joinRow; rw [List.length_append, List.length_replicate]; omega
theorem info8 : (Try.prog.info? 62).map (·.size) = some 8 := by kernel_rfl
theorem info_row (s : ByteArray) (h8 : s.size ≤ 8) : (Try.prog.info? 62).map (·.size) = some (cellsOf (joinRow s)).size := by
  have e : (cellsOf (joinRow s)).size = 8 := by unfold cellsOf; rw [List.size_toArray, List.length_map, joinRow_len s h8]
  rw [e]; exact info8
theorem val_un {a b : Int} (h : a = b) : Value.int .u64 a = Value.int .u64 b := by rw [h]
theorem wrap_u64 {x : Nat} (h : x < 18446744073709551616) : IntKind.u64.wrap (x : Int) = (x : Int) := by rw [IntKind.wrap_u64]; omega
theorem or_step (l : List UInt8) (hl : l.length = 8) (j : Nat) (hj : j < 8) :
    bits .or .u64 (IntKind.u64.wrap ((val (l.take j) : Int) * 256)) (IntKind.u64.wrap (((l[j]?.getD 0).toNat : Nat) : Int)) = (val (l.take (j + 1)) : Int) := by
  have hb : (l[j]?.getD 0).toNat < 256 := UInt8.toNat_lt _
  have hv : val (l.take j) < 72057594037927936 := by
    have := val_lt j (l.take j) (by rw [List.length_take]; omega)
    have h2 := Nat.pow_le_pow_right (n := 256) (by decide) (show j ≤ 7 by omega)
    omega
  have ht : l.take (j + 1) = l.take j ++ [l[j]?.getD 0] := by
    have : j < l.length := by omega
    rw [List.take_succ_eq_append_getElem this]; simp [this]
  rw [ht, val_snoc, show (val (l.take j) : Int) * 256 = ((val (l.take j) * 256 : Nat) : Int) by omega, wrap_u64 (by omega), wrap_u64 (by omega), bits_or_u64_nat _ _ (by omega) (by omega)]
  have := Nat.two_pow_add_eq_or_of_lt (i := 8) hb (val (l.take j))
  rw [show (2 : Nat) ^ 8 = 256 from rfl, Nat.mul_comm] at this
  rw [this]
theorem val_zeros (l : List UInt8) (k : Nat) : val (List.replicate k 0 ++ l) = val l := by
  induction k with
  | zero => rfl
  | succ k ih => rw [← ih]; rfl
theorem val_joinRow (s : ByteArray) : val (joinRow s) = val s.data.toList := val_zeros _ _
set_option maxHeartbeats 400000 in
theorem join_any (s : ByteArray) (h1 : 1 ≤ s.size) (h8 : s.size ≤ 8) (w : World) : Calls Try.prog 51 #[.string s] w fun e w' => e = .returned (.int .u64 (val s.data.toList)) ∧ Kept w w' := by
  have i1 : (s.size : Int) ≤ 8 := by omega
  have hsl := fun B W => slice8_l B s.size h1 h8 W
  obtain ⟨w2, hcp, hb2, hk⟩ := join_copy s h1 h8 w
  have HK := Lib.hid hk
  have HB := Lib.hid hb2
  clear hk hb2
  go_enter Try.func51, Try.ntmps51
  go_wp2_with (refine wpList_load_row rfl 62 _ rfl w.heap.size rfl 62 _ (0, 0) (.array 8 5) HB.out (by kernel_rfl) rfl (info_row s h8) ?_)
  clear hsl hcp
  go_loop [4, 14] (fun n i => ∃ j : Nat, j ≤ 8 ∧ i = .int .i64 j ∧ n = .int .u64 (val ((joinRow s).take j))) (fun _ i => 8 - (intOf i).toNat)
  case atStart => exact ⟨0, by omega, rfl, rfl⟩
  case round =>
    obtain ⟨j, hj, rfl, rfl⟩ := hrel
    by_cases hlt : j < 8
    · have hix := index_cells (joinRow s) (joinRow_len s h8) j hlt
      go_wp2
      go_round
      case rel => exact ⟨j + 1, by omega, by go_num, val_un (or_step _ (joinRow_len s h8) j hlt)⟩
      case measure => simp [intOf]; omega
    · obtain rfl : j = 8 := by omega
      go_wp2
      go_ret
      exact ⟨ret_un (by rw [List.take_of_length_le (by rw [joinRow_len s h8]; omega), val_joinRow]), HK.out⟩
end Go.Proofs.Ytnpjmjnekakgeaa.Pk
