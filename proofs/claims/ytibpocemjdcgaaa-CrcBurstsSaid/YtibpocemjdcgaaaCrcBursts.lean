/-
  PROVED: the statement 'CrcBurstsSaid': for every input the law CrcBursts returns true, and each argument reads afterwards as it read before. No condition.
-/
import Derived.Test.YtibpocemjdcgaaaKept
import Derived.Test.YtibpocemjdcgaaaRows
import Derived.WalkKit
import Derived.Test.YtibpocemjdcgaaaRow
import Derived.ProofKit
import Derived.OpenShut
import Derived.ShutString
namespace Go.Proofs.Ytibpocemjdcgaaa.crcBursts
open Go.ChangeShapes Go.WideShapes Go.ChangeAt Go.RowKit
open Go.ChangeMaps (open_string shut_string)
set_option linter.unusedVariables false      -- a walk need not use every 'w<i>' (that an integer argument fits its kind)

theorem own : ownKnob Try.prog.godebug = none := by kernel_rfl

theorem row_conv (s : ByteArray) (w : World) : ∃ cap w1, (convert 9 29 (.string s)).run Try.prog w = .ok (.slice (some ⟨w.heap.size, 0, none⟩) s.size cap) w1 ∧ Row w w.heap.size s.data.toList w1 := by
  refine ⟨_, _, run_bytes_of_string (P := Try.prog) w 9 29 5 s Try.underlying9 Try.underlying29 Try.underlying5, ?_⟩
  generalize grownCap w s.size 0 5 = cap
  refine ⟨(Below.drew (Below.refl _ _)).alloc (Nat.le_refl _) _, by simp, fun j hj => ?_, fun j hj => ?_⟩
  · have hj' : j < s.size := by simpa using hj
    have h := World.cell?_alloc_mark w.drew (bytesRow s cap) 5 ((bytesRow s cap).size, (bytesRow s cap).size + 1) j
    rw [bytesRow_at s cap j hj'] at h
    exact h
  · have hj' : j < s.size := by simpa using hj
    have h := World.frozen?_alloc_mark w.drew (bytesRow s cap) 5 (bytesRow s cap).size ((bytesRow s cap).size + 1) j
    have hsz : s.size ≤ (bytesRow s cap).size := by simp [bytesRow]
    refine h.trans ?_
    have : decide ((bytesRow s cap).size ≤ j) = false := by simp; omega
    rw [this]; rfl
/-- Which bits are to differ after k rounds. -/
def dif (P : BitVec 32) (F k p : Nat) : Bool := decide (F ≤ p ∧ p < F + k) && P.getLsbD (p - F)
def Mid (w : World) (s : ByteArray) (P : BitVec 32) (F k : Nat) (wr : World) : Prop :=
  ∃ l : List UInt8, l.length = s.size ∧ Row w w.heap.size l wr ∧ ∀ p, p < 8 * s.size → bitAt l p = (bitAt s.data.toList p ^^ dif P F k p)
theorem mid_start {w w1 : World} {s : ByteArray} (P : BitVec 32) (F : Nat) (h : Row w w.heap.size s.data.toList w1) : Mid w s P F 0 w1 :=
  ⟨_, by simp, h, fun p _ => by
    have : dif P F 0 p = false := by unfold dif; simp; omega
    rw [this]; simp⟩
theorem dif_succ (P : BitVec 32) (F k p : Nat) : dif P F (k + 1) p = (dif P F k p ^^ (decide (p = F + k) && P.getLsbD k)) := by
  unfold dif
  by_cases e : p = F + k
  · subst e
    have h1 : decide (F ≤ F + k ∧ F + k < F + (k + 1)) = true := by simp
    have h2 : decide (F ≤ F + k ∧ F + k < F + k) = false := by simp
    rw [h1, h2, show F + k - F = k by omega]; simp
  · have h1 : decide (F ≤ p ∧ p < F + (k + 1)) = decide (F ≤ p ∧ p < F + k) := by
      apply decide_eq_decide.mpr; omega
    rw [h1]; simp [e]
theorem mid_skip {w wr : World} {s : ByteArray} {P : BitVec 32} {F k : Nat} (h : Mid w s P F k wr) (hb : P.getLsbD k = false) : Mid w s P F (k + 1) wr := by
  obtain ⟨l, hl, hr, hx⟩ := h
  exact ⟨l, hl, hr, fun p hp => by rw [hx p hp, dif_succ, hb]; simp⟩
theorem pow_byte (e : Nat) (he : e < 8) : (UInt8.ofNat (2 ^ e)).toNat = 2 ^ e := by
  rw [UInt8.toNat_ofNat']
  refine Nat.mod_eq_of_lt ?_
  calc 2 ^ e ≤ 2 ^ 7 := Nat.pow_le_pow_right (by omega) (by omega)
    _ < 2 ^ 8 := by decide
theorem flip_val (v : UInt8) (e : Nat) (he : e < 8) : bits .xor .u8 (v.toNat : Int) ((2 : Int) ^ e % 256) = ((v ^^^ UInt8.ofNat (2 ^ e)).toNat : Int) := by
  have h : (2 : Int) ^ e % 256 = ((UInt8.ofNat (2 ^ e)).toNat : Int) := by
    have hlt : (2 ^ e : Nat) < 256 := by rw [← pow_byte e he]; exact u8_lt _
    have hc : (2 : Int) ^ e = ((2 ^ e : Nat) : Int) := by simp
    rw [pow_byte e he, hc]
    exact Int.emod_eq_of_lt (Int.natCast_nonneg _) (show ((2 ^ e : Nat) : Int) < ((256 : Nat) : Int) from Int.ofNat_lt.mpr hlt)
  rw [h, xor_u8]
theorem bit_pow (e j : Nat) (he : e < 8) : bitOf (UInt8.ofNat (2 ^ e)) j = decide (e = j) := by
  unfold bitOf; rw [pow_byte e he, Nat.testBit_two_pow]
theorem mid_cell {w wr : World} {s : ByteArray} {P : BitVec 32} {F k : Nat} (h : Mid w s P F k wr) (hk : F + k < 8 * s.size) :
    ∃ c : UInt8, wr.cell? ⟨w.heap.size, (F + k) / 8, none⟩ = some (.int .u8 (c.toNat : Int)) ∧ wr.frozen? ⟨w.heap.size, (F + k) / 8, none⟩ = false ∧
      (P.getLsbD k = true → Mid w s P F (k + 1) (wr.setCell ⟨w.heap.size, (F + k) / 8, none⟩ (.int .u8 ((c ^^^ UInt8.ofNat (2 ^ ((F + k) % 8))).toNat : Int)))) := by
  obtain ⟨l, hl, hr, hx⟩ := h
  have hq : (F + k) / 8 < l.length := by omega
  have he : (F + k) % 8 < 8 := Nat.mod_lt _ (by decide)
  refine ⟨l[(F + k) / 8], hr.cell _ hq, hr.free _ hq, fun hb => ⟨l.set ((F + k) / 8) (l[(F + k) / 8] ^^^ UInt8.ofNat (2 ^ ((F + k) % 8))), by simpa using hl, hr.set _ _ rfl hq, fun p hp => ?_⟩⟩
  rw [dif_succ, hb, Bool.and_true, ← Bool.xor_assoc, ← hx p hp]
  have hp8 : p / 8 < l.length := by omega
  rw [bitAt_lt _ p (by simpa using hp8), bitAt_lt l p hp8, List.getElem_set]
  by_cases e : (F + k) / 8 = p / 8
  · rw [if_pos e, bitOf_xor, bit_pow _ _ he]
    have : decide ((F + k) % 8 = p % 8) = decide (p = F + k) := by apply decide_eq_decide.mpr; omega
    rw [this]; congr 1
    simp only [e]
  · rw [if_neg e]
    have : decide (p = F + k) = false := by simp; omega
    rw [this]; simp
theorem test_true (P : BitVec 32) (k : Nat) (hk : k < 32) : (bits .and .u32 (num P / 2 ^ k) 1 == 1) = P.getLsbD k := by
  have hP := P.isLt
  have e : num P / 2 ^ k = ((P.toNat / 2 ^ k : Nat) : Int) := by unfold num; simp
  have hd : P.toNat / 2 ^ k ≤ P.toNat := Nat.div_le_self _ _
  have h1 : (1 : Int) = ((1 : Nat) : Int) := rfl
  rw [e, h1, u32_and_nat _ _ (by omega) (by omega), Nat.and_one_is_mod, bit_low]
  rcases Nat.mod_two_eq_zero_or_one (P.toNat / 2 ^ k) with a | a <;> rw [a] <;> rfl
structure Given (w wr : World) (s : ByteArray) (cap : Nat) (x : ByteArray) (N0 N1 : Int) : Prop where
  bel : Kept w wr
  cv : (convert 29 9 (.slice (some ⟨w.heap.size, 0, none⟩) s.size cap)).run Try.prog wr = .ok (.string x) wr
  c0 : ∀ w, Calls Try.prog 10 #[.string s] w fun e w' => e = .returned (.int .u32 N0) ∧ Kept w w'
  c1 : ∀ w, Calls Try.prog 10 #[.string x] w fun e w' => e = .returned (.int .u32 N1) ∧ Kept w w'
  hn : (N1 != N0) = true
theorem given {w wr : World} {s : ByteArray} {P : BitVec 32} {F k : Nat} (cap : Nat) (h : Mid w s P F k wr) (h0 : P.getLsbD 0 = true) (hF : F < 8 * s.size) (hk0 : 0 < k) (hk : k ≤ 32) (hs : s.size ≤ maxLen) :
    ∃ x N0 N1, Given w wr s cap x N0 N1 := by
  obtain ⟨l, hl, hr, hx⟩ := h
  refine ⟨⟨l.toArray⟩, num (moreB 0 s.data.toList), num (moreB 0 l), hr.bel, hr.str cap s.size hl, fun w => sum_k s w hs, fun w => sum_k ⟨l.toArray⟩ w (by show l.toArray.size ≤ maxLen; rw [List.size_toArray]; omega), ?_⟩
  rw [bne_iff_ne]
  intro he
  have he' := num_inj.mp he
  unfold moreB at he'
  have hrun := BitVec.not_inj.mp he'
  have hsl : s.data.toList.length = s.size := by simp
  rw [run_feed, run_feed s.data.toList, hl, hsl] at hrun
  have hf := feed_xor (bitAt s.data.toList) (dif P F k) (~~~ 0) 0 (8 * s.size)
  rw [xz] at hf
  rw [feed_congr (~~~ 0) (8 * s.size) hx] at hrun
  rw [hf] at hrun
  have hz : feed (dif P F k) 0 (8 * s.size) = 0 := by
    have := congrArg (fun z => feed (bitAt s.data.toList) (~~~ 0) (8 * s.size) ^^^ z) hrun
    simp only [← BitVec.xor_assoc, BitVec.xor_self, BitVec.zero_xor] at this
    exact this
  refine burst (dif P F k) F (8 * s.size) (fun p hp => ?_) ?_ (fun p hp => ?_) hF hz
  · unfold dif; simp; omega
  · unfold dif; rw [Nat.sub_self, h0]; simp; omega
  · unfold dif; simp; omega
theorem or_one (a : BitVec 32) : bits .or .u32 (num a) 1 = num (a ||| 1#32) := by
  have h1 : (1 : Int) = ((1 : Nat) : Int) := rfl
  unfold num
  rw [h1, u32_or_nat _ _ a.isLt (by decide), BitVec.toNat_or]; rfl
theorem or_bit (a : BitVec 32) : (a ||| 1#32).getLsbD 0 = true := by simp
set_option maxHeartbeats 2000000 in
theorem walk (a0 : ByteArray) (a1 : Int) (a2 : Int) (w0 : a0.size ≤ maxLen) (w1 : (Lit.int .u16 a1).wf = true) (w2 : (Lit.int .u32 a2).wf = true) (w : World) :
    Calls Try.prog 6 #[.string a0, .int .u16 a1, .int .u32 a2] w fun e w' => e = .returned (.bool true) ∧ Kept w w' := by
  have b1 := bounds_u16 w1
  have b2 := bounds_u32 w2
  by_cases g : a0.size ≤ 1000 ∧ 0 < a0.size
  · obtain ⟨g1, g2⟩ := g
    clear w1 w2
    obtain ⟨c1, rfl⟩ := Int.eq_ofNat_of_zero_le b1.1
    obtain ⟨c, rfl⟩ : ∃ c : BitVec 32, a2 = num c := ⟨BitVec.ofInt 32 a2, (of_num a2 (by omega) (by omega)).symm⟩
    clear b2
    obtain ⟨F, hF, lF⟩ : ∃ F : Nat, (c1 : Int) % (8 * (a0.size : Int)) = F ∧ F < 8 * a0.size :=
      ⟨c1 % (8 * a0.size), by simp, Nat.mod_lt c1 (by omega)⟩
    obtain ⟨cap, wm, hconv, hrow⟩ := row_conv a0 w
    have hne : ((a0.size : Int) == 0) = false := beq_eq_false_iff_ne.mpr (by omega)
    have hor := or_one c
    obtain ⟨P, hP⟩ : ∃ P, P = c ||| 1#32 := ⟨_, rfl⟩
    have H0 := Lib.hid (or_bit c)
    rw [← hP] at hor H0
    clear hP
    have M0 := Lib.hid (mid_start P F hrow)
    clear hrow
    have Hor := Lib.hid hor
    clear hor
    go_enter Try.func6, Try.ntmps6
    go_wp2
    rw [hF, Hor.out]
    clear hF hconv hne Hor b1
    go_loopw [9] (fun i wr => ∃ k : Nat, k ≤ 32 ∧ F + k ≤ 8 * a0.size ∧ i = .int .i64 k ∧ Mid w a0 P F k wr) (fun i _ => 32 - (intOf i).toNat)
    case atStart => exact ⟨0, by omega, by omega, rfl, M0.out⟩
    case round =>
      clear M0
      obtain ⟨k, hk, hFk, rfl, hm⟩ := hrel
      by_cases hlt : k < 32 ∧ F + k < 8 * a0.size
      · obtain ⟨l1, l2⟩ := hlt
        have ht := test_true P k l1
        by_cases hb : P.getLsbD k = true
        · obtain ⟨v, hc, hf, hM⟩ := mid_cell hm l2
          have HM := Lib.hid (hM hb)
          rw [hb] at ht
          clear hM hb hm
          go_wp2
          go_roundw
          case rel => exact ⟨k + 1, by omega, by omega, by go_num, by rw [flip_val _ _ (Nat.mod_lt _ (by decide))]; exact HM.out⟩
          case measure => simp [intOf]; omega
        · rw [Bool.not_eq_true] at hb
          have HM := Lib.hid (mid_skip hm hb)
          rw [hb] at ht
          clear hb hm
          go_wp2
          go_roundw
          case rel => exact ⟨k + 1, by omega, by omega, by go_num, HM.out⟩
          case measure => simp [intOf]; omega
      · obtain ⟨x, N0, N1, G⟩ := given cap hm H0.out lF (by omega) hk w0
        have hcv := G.cv
        have hn := G.hn
        clear hm
        by_cases l1 : k < 32
        · have l2 : ¬ F + k < 8 * a0.size := fun h => hlt ⟨l1, h⟩
          clear hlt
          go_wp2_with (first
            | (go_at_call 10; (with_reducible refine (G.c0 _).mono ?_); rintro e u ⟨rfl, hg⟩)
            | (go_at_call 10; (with_reducible refine (G.c1 _).mono ?_); rintro e u ⟨rfl, hg⟩)
            | (go_at_call 9; (with_reducible refine (known_k _).mono ?_); rintro e u ⟨rfl, hg⟩))
          go_ret
          refine ⟨rfl, G.bel.trans ?_⟩
          iterate 3 (first | assumption | refine Kept.trans ?_ ‹_›)
        · clear hlt
          go_wp2_with (first
            | (go_at_call 10; (with_reducible refine (G.c0 _).mono ?_); rintro e u ⟨rfl, hg⟩)
            | (go_at_call 10; (with_reducible refine (G.c1 _).mono ?_); rintro e u ⟨rfl, hg⟩)
            | (go_at_call 9; (with_reducible refine (known_k _).mono ?_); rintro e u ⟨rfl, hg⟩))
          go_ret
          refine ⟨rfl, G.bel.trans ?_⟩
          iterate 3 (first | assumption | refine Kept.trans ?_ ‹_›)
  · clear b1 b2
    by_cases g1 : a0.size ≤ 1000
    · have g2 : ((a0.size : Int) == 0) = true := by
        have : a0.size = 0 := by omega
        rw [this]; rfl
      clear g
      go_enter Try.func6, Try.ntmps6
      go_wp2_with (go_at_call 9; refine (known_k _).mono ?_; rintro e u5 ⟨rfl, hg3⟩)
      go_ret
      exact ⟨rfl, hg3⟩
    · clear g
      go_enter Try.func6, Try.ntmps6
      go_wp2_with (go_at_call 9; refine (known_k _).mono ?_; rintro e u5 ⟨rfl, hg3⟩)
      go_ret
      exact ⟨rfl, hg3⟩

/-! ### THE ROW's STEP: WRITTEN OUT: LEAVE IT -/
set_option maxRecDepth 100000 in
theorem lifted (os : Os) (started : os.Started) (H : Type) (enc : TypeId × Value → H) :
    ReturnsInHanded {} Try.checked os 6 .any (Rows.crcBurstsSpec.pre6 enc Try.prog Try.f6 Rows.crcBurstsRow.domain false) (Rows.crcBurstsSpec.post enc Try.prog Try.f6 false true false false) := by
  refine returnsInHanded_of_change (C := Try.checked) own started (by kernel_rfl) Try.func6
    (ChangeSpec.witness6 (enc := enc) (C := Try.checked) false ⟨#[], #[.string ByteArray.empty, .int .u16 0, .int .u32 0], []⟩ 8 (by kernel_rfl) (by kernel_rfl) (by kernel_rfl) (by kernel_rfl)) ?_
  intro W base args ds gs before hval0 hW hcnd _
  have hval : ∀ (j : Nat) t v, Try.f6.params[j]? = some t → args[j]? = some v → Value.okWide Try.prog W .any base t v := hval0
  have hW' := hW
  obtain ⟨p, q, hA0, hV, rfl, hfz, hnd⟩ := hW
  have hA : DataW.TrodAll enc Try.prog W 0 (fun _ => true) true Try.f6.params.toList args.toList ds p := hA0
  rw [Try.params6] at hA hval
  obtain ⟨v0, vs0, d0, ds0, p0, q0, hargs, rfl, rfl, h0, r0⟩ := trodAll_cons hA
  obtain ⟨v1, vs1, d1, ds1, p1, q1, rfl, rfl, rfl, h1, r1⟩ := trodAll_cons r0
  obtain ⟨v2, vs2, d2, ds2, p2, q2, rfl, rfl, rfl, h2, r2⟩ := trodAll_cons r1
  obtain ⟨rfl, rfl, rfl⟩ := trodAll_nil r2
  obtain rfl : args = #[v0, v1, v2] := by cases args; simp_all
  obtain ⟨rfl, rfl⟩ := trodVars_none hV
  obtain ⟨a0, rfl, rfl, rfl, w0⟩ := open_string Try.underlying9 (hval 0 9 v0 rfl rfl) h0
  obtain ⟨a1, rfl, rfl, rfl, w1⟩ := open_int Try.underlying27 (hval 1 27 v1 rfl rfl) h1
  obtain ⟨a2, rfl, rfl, rfl, w2⟩ := open_int Try.underlying22 (hval 2 22 v2 rfl rfl) h2
  clear hA0 hval0
  simp only [List.append_nil] at hW'
  refine (walk a0 a1 a2 w0 w1 w2 W).mono fun e W' ⟨he, hg⟩ => ?_
  subst he
  exact ⟨_, rfl, _, _, _, [], [], [], hW', (trodAll_cons_mk (shut_bool Try.underlying4 _) trodAll_mk0), (trodAll_cons_mk (shut_string Try.underlying9 w0) (trodAll_cons_mk (shut_int Try.underlying27 w1) (trodAll_cons_mk (shut_int Try.underlying22 w2) trodAll_mk0))), rfl, Below.frame hg _, fun h => by cases h⟩

theorem over : Rows.crcBurstsRow.holds Try.pinned (OpenSpec.ofChange Rows.crcBurstsSpec) :=
  OpenClaim.holds_of_wide 6 Try.f6 rfl rfl rfl rfl rfl rfl rfl ⟨rfl, rfl, rfl, rfl, rfl⟩ rfl rfl rfl rfl rfl (by kernel_rfl) Try.func6 (by kernel_rfl)
    (of_decide_eq_true (by kernel_rfl)) (by unfold Func.isWrapper; first | (rw [if_pos (by decide +kernel)]; kernel_rfl) | (rw [if_neg (by decide +kernel)]; exact ⟨rfl, rfl⟩))
    (fun os started H enc _ => lifted os started H enc)

/-- ████ THE STATEMENT ████ -/
theorem proved : Rows.CrcBurstsSaid :=
  over
#print axioms proved
end Go.Proofs.Ytibpocemjdcgaaa.crcBursts
