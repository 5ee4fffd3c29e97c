/-
  What the calls of layer 2's specification do.
-/
import Derived.Test.YtnpjmjnekakgeaaPs
import Derived.Laws.MakeOwn
namespace Go.Proofs.Ytnpjmjnekakgeaa.Pk
open Go.RowKit Go.Proofs.Ytnpjmjnekakgeaa.Mem

theorem quo_wrap {c : Nat} (h : U64 c) : IntKind.u64.wrap ((c : Int) / 256) = ((c / 256 : Nat) : Int) := by
  have := u64_div h
  rw [show (c : Int) / 256 = ((c / 256 : Nat) : Int) by omega]
  exact wrap_u64 this
set_option maxHeartbeats 400000 in
theorem ref_width (n : Nat) (h : U64 n) (w : World) : Calls Try.prog 43 #[.int .u64 n] w fun e w' => e = .returned (.int .i64 (wd n)) ∧ w = w' := by
  go_enter Try.func43, Try.ntmps43
  go_wp2
  go_loop [0, 3] (fun v i => ∃ c m : Nat, v = .int .u64 c ∧ i = .int .i64 m ∧ U64 c ∧ wd n + 1 = wd c + m) (fun v _ => (intOf v).toNat)
  case atStart => exact ⟨n, 1, rfl, rfl, h, rfl⟩
  case round =>
    obtain ⟨c, m, rfl, rfl, hc, hm⟩ := hrel
    have hb := wd_bd n
    have hb2 := wd_bd c
    have hm8 : m ≤ 8 := by omega
    have HM := Lib.hid hm
    clear hm hb
    by_cases hlt : 255 < c
    · go_wp2
      go_round
      case rel => exact ⟨c / 256, m + 1, val_un (quo_wrap hc), by go_num, u64_div hc, by rw [HM.out, wd_step hlt hc]; omega⟩
      case measure => simp [intOf]; rw [quo_wrap hc]; omega
    · go_wp2
      go_ret
      exact ⟨ret_i (by have := HM.out; rw [wd_small (n := c) (by omega)] at this; omega), rfl⟩

/-- With j places still to come. -/
def Rb (w : World) (n k j : Nat) (wr : World) : Prop :=
  ∃ l : List UInt8, l.length = k ∧ Row w w.heap.size l wr ∧ ∀ m, m < k - j → l.getD (k - 1 - m) 0 = UInt8.ofNat (n / 256 ^ m)
theorem infoB : (Try.prog.info? 5).map (fun i => (i.zero, i.size, i.bytes)) = some (some (.int .u8 0), 1, 1) := by kernel_rfl
theorem row_made {w w1 : World} {n : Nat} (hown : w1.ownsRow w.heap.size 5 1 (.slice (some ⟨w.heap.size, 0, none⟩) n n) n (madeCells (Value.int .u8 0).cells (n * 1)).toList) (hg : w.grownBy w1 none) :
    Row w w.heap.size (List.replicate n 0) w1 := by
  refine ⟨(Below.refl _ _).grown hg (Nat.le_refl _) (by simp), (hown.lt w.heap.size rfl).2, fun j hj => ?_, fun j hj => hown.frozenAt j⟩
  have hj' : j < n := by simpa using hj
  rw [hown.cellAt j (by omega)]
  simp [madeCells, Value.cells, hj', Nat.mod_one]
theorem Rb.at {w wr : World} {n k j : Nat} (h : Rb w n k (j + 1) wr) (hj : j < k) : (∃ v, wr.cell? ⟨w.heap.size, j, none⟩ = some (.int .u8 v)) ∧ wr.frozen? ⟨w.heap.size, j, none⟩ = false := by
  obtain ⟨l, hl, hr, _⟩ := h
  exact hr.at _ (by omega)
theorem Rb.next {w wr : World} {n k j : Nat} {v : Int} (h : Rb w n k (j + 1) wr) (hj : j < k) (hv : v = ((UInt8.ofNat (n / 256 ^ (k - 1 - j))).toNat : Int)) :
    Rb w n k j (wr.setCell ⟨w.heap.size, j, none⟩ (.int .u8 v)) := by
  obtain ⟨l, hl, hr, hx⟩ := h
  refine ⟨l.set j (UInt8.ofNat (n / 256 ^ (k - 1 - j))), by simpa using hl, hr.set _ _ hv (by omega), fun m hm => ?_⟩
  by_cases e : k - 1 - m = j
  · have e2 : k - 1 - j = m := by omega
    rw [e, e2]
    have : j < l.length := by omega
    simp [List.getD, this]
  · have e' : ¬ j = k - 1 - m := fun h => e h.symm
    rw [← hx m (by omega)]; simp [List.getD, List.getElem?_set_ne e']
theorem Rb.str {w wr : World} {n k : Nat} (h : Rb w n k 0 wr) :
    (convert 36 9 (.slice (some ⟨w.heap.size, 0, none⟩) k k)).run Try.prog wr = .ok (.string ⟨(be n k).toArray⟩) wr := by
  obtain ⟨l, hl, hr, hx⟩ := h
  rw [hr.str k k (by omega), be_take (by omega) (fun m hm => hx m (by omega))]
theorem Rb.kept {w wr : World} {n k j : Nat} (h : Rb w n k j wr) : Kept w wr := by
  obtain ⟨l, _, hr, _⟩ := h
  exact hr.keptOf
theorem quo_step {n k i c : Nat} (hi : i < k) (h : c = n / 256 ^ (k - (i + 1))) : c / 256 = n / 256 ^ (k - i) := by
  rw [h, Nat.div_div_eq_div_mul, ← Nat.pow_succ, show (k - (i + 1)).succ = k - i by omega]
theorem byte_low (c : Nat) : (c : Int) % 256 = ((UInt8.ofNat c).toNat : Int) := by
  have e : (UInt8.ofNat c).toNat = c % 256 := UInt8.toNat_ofNat'
  rw [e]; omega
set_option maxHeartbeats 800000 in
set_option maxRecDepth 100000 in
theorem ref_bytes (n k : Nat) (h : U64 n) (h1 : 1 ≤ k) (h8 : k ≤ 8) (w : World) :
    Calls Try.prog 44 #[.int .u64 n, .int .i64 k] w fun e w' => e = .returned (.string ⟨(be n k).toArray⟩) ∧ Kept w w' := by
  obtain ⟨i0, hi, hz0, hz1, hz2⟩ := info_parts infoB
  have hbytes : i0.bytes * k ≤ 281474976710656 := by rw [hz2]; omega
  have hml : k ≤ maxLen := by unfold maxLen; omega
  go_enter Try.func44, Try.ntmps44
  go_wp2_with (at_make; refine wpList_make_full _ rfl _ _ 36 rfl w.heap.size 5 i0 (.int .u8 0) 1 Try.underlying36 hi hz0 hz1 _ _ _ _ k rfl rfl rfl rfl hbytes hml (Nat.le_refl _) ?_; intro wm hown hgr)
  have M0 : Rb w n k k wm := ⟨_, by simp, row_made hown hgr, fun j hj => absurd hj (by omega)⟩
  clear hown hgr hbytes hml hi hz0 hz1 hz2
  go_loopw [0, 6] (fun v i wr => ∃ j c : Nat, j ≤ k ∧ i = .int .i64 ((j : Int) - 1) ∧ v = .int .u64 c ∧ U64 c ∧ c = n / 256 ^ (k - j) ∧ Rb w n k j wr) (fun _ i _ => (intOf i + 1).toNat)
  case atStart => exact ⟨k, n, by omega, rfl, rfl, h, by simp, M0⟩
  case round =>
    clear M0
    obtain ⟨j, c, hj, rfl, rfl, hU, hcc, hp⟩ := hrel
    have HC := Lib.hid hcc
    clear hcc
    by_cases hlt : 1 ≤ j
    · obtain ⟨i, rfl⟩ : ∃ i, j = i + 1 := ⟨j - 1, by omega⟩
      obtain ⟨⟨v, hc⟩, hf⟩ := hp.at (by omega)
      go_wp2
      go_roundw
      case rel => exact ⟨i, c / 256, by omega, by go_num, val_un (quo_wrap hU), u64_div hU, quo_step (by omega) HC.out, hp.next (by omega) (by have e := HC.out; rw [show k - 1 - i = k - (i + 1) by omega, ← e]; exact byte_low c)⟩
      case measure => simp [intOf]
    · obtain rfl : j = 0 := by omega
      have hcv := hp.str
      have HK := Lib.hid hp.kept
      clear hp
      go_wp2
      go_ret
      exact ⟨rfl, HK.out⟩

/-! Fixed. -/
theorem rfixed_arg (n : Nat) (k : Int) (hk : k < 1 ∨ 8 < k) (w : World) : Calls Try.prog 31 #[.int .u64 n, .int .i64 k] w fun e w' => e = .returned (.tuple #[.string ⟨#[]⟩, .int .i64 2]) ∧ Kept w w' := by
  rcases hk with hk | hk
  · go_enter Try.func31, Try.ntmps31
    go_wp2
    go_ret2
    exact ⟨rfl, Kept.refl _⟩
  · have hd : decide (k < 1) = false := by simp; omega
    go_enter Try.func31, Try.ntmps31
    go_wp2
    go_ret2
    exact ⟨rfl, Kept.refl _⟩
theorem rfixed_range (n k : Nat) (h : U64 n) (h1 : 1 ≤ k) (h8 : k ≤ 8) (hw : k < wd n) (w : World) : Calls Try.prog 31 #[.int .u64 n, .int .i64 k] w fun e w' => e = .returned (.tuple #[.string ⟨#[]⟩, .int .i64 3]) ∧ Kept w w' := by
  have H := Lib.hid h
  have hd : decide ((k : Int) < 1) = false := by simp; omega
  have hd2 : decide (8 < (k : Int)) = false := by simp; omega
  have hb := wd_bd n
  clear h h1 h8
  go_enter Try.func31, Try.ntmps31
  go_wp2_with (go_at_call 43; (with_reducible refine (ref_width n H.out _).mono ?_); rintro e w' ⟨rfl, rfl⟩)
  go_ret2
  exact ⟨rfl, Kept.refl _⟩
theorem rfixed_ok (n k : Nat) (h : U64 n) (h1 : 1 ≤ k) (h8 : k ≤ 8) (hw : wd n ≤ k) (w : World) : Calls Try.prog 31 #[.int .u64 n, .int .i64 k] w fun e w' => e = .returned (.tuple #[.string (str (be n k)), .int .i64 0]) ∧ Kept w w' := by
  have H := Lib.hid h
  have H8 := Lib.hid h8
  have H1 := Lib.hid h1
  have hd : decide ((k : Int) < 1) = false := by simp; omega
  have hd2 : decide (8 < (k : Int)) = false := by simp; omega
  have hd3 : decide (k < wd n) = false := by simp; omega
  have hb := wd_bd n
  clear h h1 h8 hw
  go_enter Try.func31, Try.ntmps31
  go_wp2_with (first
    | (go_at_call 43; (with_reducible refine (ref_width n H.out _).mono ?_); rintro e w' ⟨rfl, rfl⟩)
    | (go_at_call 44; (with_reducible refine (ref_bytes n k H.out H1.out H8.out _).mono ?_); rintro e w2 ⟨rfl, hk2⟩))
  go_ret2
  exact ⟨rfl, hk2⟩
theorem rfixed_any (n : Nat) (k : Int) (h : U64 n) (w : World) : Calls Try.prog 31 #[.int .u64 n, .int .i64 k] w fun e w' => e = .returned (.tuple #[.string (fixS n k), .int .i64 (fixE n k)]) ∧ Kept w w' := by
  unfold fixS fixE
  by_cases hk : k < 1 ∨ 8 < k
  · rw [if_pos hk, if_pos hk]; exact rfixed_arg n k hk w
  · obtain ⟨m, rfl⟩ := Int.eq_ofNat_of_zero_le (show 0 ≤ k by omega)
    rw [if_neg hk, if_neg hk, Int.toNat_natCast]
    by_cases hw : m < wd n
    · rw [if_pos hw, if_pos hw]; exact rfixed_range n m h (by omega) (by omega) hw w
    · rw [if_neg hw, if_neg hw]; exact rfixed_ok n m h (by omega) (by omega) (by omega) w


theorem rvar_cat {n : Nat} (h : ¬ n < 248) (w : World) : (Op.stringOp .add ⟨(be (247 + wd n) 1).toArray⟩ ⟨(be n (wd n)).toArray⟩).run Try.prog w = .ok (.string ⟨(num n).toArray⟩) w := num_cat h w
/-- What Var holds: the width, and the two pieces. -/
structure VarG (n k : Nat) (x y : ByteArray) : Prop where
  cl : ∀ w, Calls Try.prog 43 #[.int .u64 n] w fun e w' => e = .returned (.int .i64 k) ∧ w = w'
  ch : ∀ w, Calls Try.prog 44 #[.int .u64 (247 + (k : Int)), .int .i64 1] w fun e w' => e = .returned (.string x) ∧ Kept w w'
  cp : ∀ w, Calls Try.prog 44 #[.int .u64 n, .int .i64 k] w fun e w' => e = .returned (.string y) ∧ Kept w w'
  k8 : k ≤ 8
  cat : ∀ w, (Op.stringOp .add x y).run Try.prog w = .ok (.string ⟨(num n).toArray⟩) w
theorem bytes1 (n : Nat) (h : U64 n) (w : World) : Calls Try.prog 44 #[.int .u64 n, .int .i64 1] w fun e w' => e = .returned (.string ⟨(be n 1).toArray⟩) ∧ Kept w w' := ref_bytes n 1 h (by decide) (by decide) w
theorem varG (n : Nat) (h : U64 n) (hs : ¬ n < 248) : ∃ k x y, VarG n k x y := by
  have hb := wd_bd n
  refine ⟨wd n, _, _, ref_width n h, fun w => ?_, ref_bytes n (wd n) h hb.1 hb.2, hb.2, rvar_cat hs⟩
  rw [show (247 : Int) + (wd n : Int) = ((247 + wd n : Nat) : Int) by omega]
  exact bytes1 _ (by unfold U64; omega) w
end Go.Proofs.Ytnpjmjnekakgeaa.Pk
