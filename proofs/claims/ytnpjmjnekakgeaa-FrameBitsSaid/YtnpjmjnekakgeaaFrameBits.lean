/-
  PROVED: the statement 'FrameBitsSaid': for every input the law FrameBits returns true, and each argument reads afterwards as it read before. No condition.
-/
import Derived.Test.YtnpjmjnekakgeaaFi
import Derived.Test.YtnpjmjnekakgeaaFx
import Derived.Test.YtnpjmjnekakgeaaRows
import Derived.WalkKit
import Derived.Deep.RegionHeld3
import Derived.BigQuiet
import Derived.ProofKit
import Derived.OpenShut
import Derived.ShutString
namespace Go.Proofs.Ytnpjmjnekakgeaa.frameBits
open Go.ChangeShapes Go.WideShapes Go.ChangeAt Go.RowKit
open Go.Proofs.Ytnpjmjnekakgeaa.Mem Go.Proofs.Ytnpjmjnekakgeaa.Fk Go.Proofs.Ytnpjmjnekakgeaa.Pk Go.Proofs.Ytnpjmjnekakgeaa.Crc
set_option linter.unusedVariables false

theorem own : ownKnob Try.prog.godebug = none := by kernel_rfl
theorem laidOut : laidOutB Try.prog = true := by kernel_rfl

theorem row80 (s : ByteArray) (h : s.size = 80) (w : World) : ∃ cap w1, (convert 9 36 (.string s)).run Try.prog w = .ok (.slice (some ⟨w.heap.size, 0, none⟩) 80 cap) w1 ∧ Row w w.heap.size s.data.toList w1 := by
  have e := run_bytes_of_string (P := Try.prog) w 9 36 5 s Try.underlying9 Try.underlying36 Try.underlying5
  rw [h] at e
  refine ⟨_, _, e, ?_⟩
  generalize grownCap w 80 0 5 = cap
  refine ⟨(Below.drew (Below.refl _ _)).alloc (Nat.le_refl _) _, by simp, fun j hj => ?_, fun j hj => ?_⟩
  · have hj' : j < s.size := by simpa using hj
    have h := World.cell?_alloc_mark w.drew (bytesRow s cap) 5 ((bytesRow s cap).size, (bytesRow s cap).size + 1) j
    rw [bytesRow_at s cap j hj'] at h
    exact h
  · have hj' : j < s.size := by simpa using hj
    have h := World.frozen?_alloc_mark w.drew (bytesRow s cap) 5 (bytesRow s cap).size ((bytesRow s cap).size + 1) j
    have hsz : s.size ≤ (bytesRow s cap).size := by simp [bytesRow]
    refine h.trans ?_
    have : decide ((bytesRow s cap).size ≤ j) = false := by simp; omega
    rw [this]; rfl
def Mid (w : World) (X : List UInt8) (m : Nat) (P : BitVec 32) (F k : Nat) (wr : World) : Prop := ∃ l : List UInt8, Dif X m P F k l ∧ Row w w.heap.size l wr
theorem Mid.cell {w wr : World} {X : List UInt8} {m : Nat} {P : BitVec 32} {F k K : Nat} (h : Mid w X m P F k wr) (hm : m ≤ 44) (hk : F + k < 8 * (14 + m)) (h13 : (F + k) / 8 ≠ 13) (hK : ph ((F + k) / 8) = K) :
    ∃ c : UInt8, wr.cell? ⟨w.heap.size, K, none⟩ = some (.int .u8 (c.toNat : Int)) ∧ wr.frozen? ⟨w.heap.size, K, none⟩ = false ∧
      (P.getLsbD k = true → Mid w X m P F (k + 1) (wr.setCell ⟨w.heap.size, K, none⟩ (.int .u8 ((c ^^^ UInt8.ofNat (2 ^ ((F + k) % 8))).toNat : Int)))) := by
  obtain ⟨l, hd, hr⟩ := h
  subst hK
  have hq : ph ((F + k) / 8) < l.length := by rw [hd.len]; exact ph_lt hm (by omega)
  exact ⟨l[ph ((F + k) / 8)], hr.cell _ hq, hr.free _ hq, fun hb => ⟨_, hd.flip hm hb h13 hq, hr.set _ _ rfl hq⟩⟩
theorem Mid.skip {w wr : World} {X : List UInt8} {m : Nat} {P : BitVec 32} {F k : Nat} (h : Mid w X m P F k wr) (hb : P.getLsbD k = false ∨ (F + k) / 8 = 13) : Mid w X m P F (k + 1) wr := by
  obtain ⟨l, hd, hr⟩ := h
  exact ⟨l, hd.skip hb, hr⟩
theorem test_zero (P : BitVec 32) (k : Nat) (hk : k < 32) : (bits .and .u32 (Crc.num P / 2 ^ k) 1 == 0) = !P.getLsbD k := by
  have hP := P.isLt
  have e : Crc.num P / 2 ^ k = ((P.toNat / 2 ^ k : Nat) : Int) := by unfold Crc.num; simp
  have hd : P.toNat / 2 ^ k ≤ P.toNat := Nat.div_le_self _ _
  have h1 : (1 : Int) = ((1 : Nat) : Int) := rfl
  rw [e, h1, u32_and_nat _ _ (by omega) (by omega), Nat.and_one_is_mod, bit_low]
  rcases Nat.mod_two_eq_zero_or_one (P.toNat / 2 ^ k) with a | a <;> rw [a] <;> rfl
theorem or_one (a : BitVec 32) : bits .or .u32 (Crc.num a) 1 = Crc.num (a ||| 1#32) := by
  have h1 : (1 : Int) = ((1 : Nat) : Int) := rfl
  unfold Crc.num
  rw [h1, u32_or_nat _ _ a.isLt (by decide), BitVec.toNat_or]; rfl
theorem or_bit (a : BitVec 32) : (a ||| 1#32).getLsbD 0 = true := by simp
structure Given (w wr : World) (cap : Nat) (x : ByteArray) : Prop where
  bel : Kept w wr
  cv : (convert 36 9 (.slice (some ⟨w.heap.size, 0, none⟩) 80 cap)).run Try.prog wr = .ok (.string x) wr
  cd : ∀ w, Calls Try.prog 12 #[.string x] w fun e w' => e = .returned (.tuple #[.agg #[.int .i64 0, .int .i64 0, .int .i64 0, .int .i64 0, .int .u8 0, .string ⟨#[]⟩], .int .i64 12]) ∧ Kept w w'
theorem given {w wr : World} {f : Fr} {P : BitVec 32} {F k : Nat} (cap : Nat) (h : Mid w f.sec f.data.size P F k wr) (hg : f.good) (h0 : P.getLsbD 0 = true) (h13 : F / 8 ≠ 13) (hF : F < 8 * (14 + f.data.size)) (hk0 : 0 < k) (hk : k ≤ 32) : ∃ x, Given w wr cap x := by
  obtain ⟨l, hd, hr⟩ := h
  refine ⟨⟨(l.take 80).toArray⟩, hr.bel, hr.str 80 cap (by rw [hd.len]; exact Nat.le_refl _), fun w => ?_⟩
  have hn := hd.none hg h0 h13 hF hk0 hk
  rw [List.take_of_length_le (by rw [hd.len]; exact Nat.le_refl _)]
  have hc := decode_c (str l) w
  have hE : decE (str l) = 12 := none_E hn
  have hF : decF (str l) = Fr.nil := by unfold decF; rw [hn]; rfl
  rw [hE, hF] at hc
  exact hc
set_option maxRecDepth 100000 in
theorem early (b l p q E : Int) (k a c : Nat) (d X : ByteArray) (t1 : (E != 0) = true) (w : World)
    (ce : ∀ w, Calls Try.prog 10 #[.agg #[.int .i64 b, .int .i64 l, .int .i64 p, .int .i64 q, .int .u8 k, .string d]] w fun e w' => e = .returned (.tuple #[.string X, .int .i64 E]) ∧ Kept w w') :
    Calls Try.prog 7 #[.agg #[.int .i64 b, .int .i64 l, .int .i64 p, .int .i64 q, .int .u8 k, .string d], .int .u16 a, .int .u32 c] w fun e w' => e = .returned (.bool true) ∧ Kept w w' := by
  have hkn : ∀ W, Calls Try.prog 9 #[] W fun e w' => e = .returned (.bool true) ∧ Kept W w' := known_c
  have hk0 := Kept.alloc (Kept.refl w) (.cells #[.int .i64 b, .int .i64 l, .int .i64 p, .int .i64 q, .int .u8 k, .string d] 23)
  have hA := Box.start w 23 b l p q k d
  go_enter Try.func7, Try.ntmps7
  go_wp2_with (first
    | (go_at_call 10; (with_reducible refine (ce _).mono ?_); rintro e u1 ⟨rfl, k1⟩; obtain ⟨_, c0, c1, c2, c3, c4, c5⟩ := hA.kept k1)
    | (go_at_call 9; (with_reducible refine (hkn _).mono ?_); rintro e u4 ⟨rfl, k4⟩))
  all_goals
    go_ret
    exact ⟨rfl, (hk0.trans k1).trans k4⟩
set_option maxHeartbeats 4000000 in
set_option maxRecDepth 100000 in
theorem plain (b l p q : Int) (k a : Nat) (c : BitVec 32) (d X : ByteArray) (Fa F : Nat) (w : World)
    (hX : X.size = 80) (hd : d.size ≤ 44) (ha : a ≤ 65535) (hFa : (a : Int) % (8 * (14 + (d.size : Int))) = (Fa : Int)) (h13 : ((Fa : Int) / 8 == 13) = false) (hFF : Fa = F) (hF13 : F / 8 ≠ 13) (hF : F < 8 * (14 + d.size))
    (fin : ∀ (w wr : World) (k cap : Nat), Mid w X.data.toList d.size (c ||| 1#32) F k wr → 0 < k → k ≤ 32 → ∃ x, Given w wr cap x)
    (ce : ∀ w, Calls Try.prog 10 #[.agg #[.int .i64 b, .int .i64 l, .int .i64 p, .int .i64 q, .int .u8 k, .string d]] w fun e w' => e = .returned (.tuple #[.string X, .int .i64 0]) ∧ Kept w w') :
    Calls Try.prog 7 #[.agg #[.int .i64 b, .int .i64 l, .int .i64 p, .int .i64 q, .int .u8 k, .string d], .int .u16 a, .int .u32 (Crc.num c)] w fun e w' => e = .returned (.bool true) ∧ Kept w w' := by
  subst hFF
  have hkn : ∀ W, Calls Try.prog 9 #[] W fun e w' => e = .returned (.bool true) ∧ Kept W w' := known_c
  have hk0 := Kept.alloc (Kept.refl w) (.cells #[.int .i64 b, .int .i64 l, .int .i64 p, .int .i64 q, .int .u8 k, .string d] 23)
  have hA := Box.start w 23 b l p q k d
  have z1 : ((X.size : Int) != 80) = false := by rw [hX]; rfl
  have z2 : decide (44 < (d.size : Int)) = false := by simp; omega
  have hor := or_one c
  have h0 := or_bit c
  obtain ⟨P, hP⟩ : ∃ P, P = c ||| 1#32 := ⟨_, rfl⟩
  rw [← hP] at hor h0 fin
  clear hP
  have FIN := Lib.hid fin
  clear fin
  have HX := Lib.hid hX
  have HOR := Lib.hid hor
  clear hor
  clear hX
  go_enter Try.func7, Try.ntmps7
  go_wp2_with (go_at_call 10; go_loud ((with_reducible refine (ce _).mono ?_); rintro e u1 ⟨rfl, k1⟩; obtain ⟨cap, wm, hconv, hrow⟩ := row80 X HX.out u1; have hB := (hA.kept k1).kept hrow.keptOf; obtain ⟨_, c0, c1, c2, c3, c4, c5⟩ := hA.kept k1; obtain ⟨_, d0, d1, d2, d3, d4, d5⟩ := hB; have M0 := Lib.hid (show Mid u1 X.data.toList d.size P Fa 0 wm from ⟨_, Dif.start _ _ _ ((size_list X).trans HX.out), hrow⟩); clear hrow))
  rw [hFa]
  clear hFa
  clear hconv c0 c1 c2 c3 c4 c5 d0 d1 d2 d3 d4 d5 z1 z2 hA
  go_loopw [12] (fun i wr => ∃ k : Nat, k ≤ 32 ∧ Fa + k ≤ 8 * (14 + d.size) ∧ i = .int .i64 k ∧ Mid u1 X.data.toList d.size P Fa k wr) (fun i _ => 32 - (intOf i).toNat)
  case atStart => exact ⟨0, by omega, by omega, rfl, M0.out⟩
  case round =>
    clear M0
    obtain ⟨k, hk, hFk, rfl, hm⟩ := hrel
    by_cases hlt : k < 32 ∧ Fa + k < 8 * (14 + d.size)
    · obtain ⟨l1, l2⟩ := hlt
      obtain ⟨K, hKn⟩ : ∃ K, K = (Fa + k) / 8 := ⟨_, rfl⟩
      have hK : ((Fa : Int) + (k : Int)) / 8 = (K : Int) := by omega
      have ht := test_zero P k l1
      have hor := HOR.out
      by_cases hb : P.getLsbD k = true
      · by_cases h3 : K = 13
        · have HM := Lib.hid (hm.skip (.inr (hKn.symm.trans h3)))
          rw [hb] at ht
          clear hb hm hKn
          go_wp2
          go_roundw
          case rel => exact ⟨k + 1, by omega, by omega, by go_num, HM.out⟩
          case measure => simp [intOf]; omega
        · by_cases h4 : 14 ≤ K
          · obtain ⟨v, hc, hf, hM⟩ := hm.cell (K := K + 4) hd l2 (by omega) (by rw [← hKn]; unfold ph; split <;> omega)
            have HM := Lib.hid (hM hb)
            rw [hb] at ht
            have hKl : K < 14 + d.size := by omega
            clear hM hb hm hKn
            go_wp2
            go_roundw
            case rel => exact ⟨k + 1, by omega, by omega, by go_num, by rw [flip_val _ _ (Nat.mod_lt _ (by decide))]; exact HM.out⟩
            case measure => simp [intOf]; omega
          · obtain ⟨v, hc, hf, hM⟩ := hm.cell (K := K) hd l2 (by omega) (by rw [← hKn]; unfold ph; split <;> omega)
            have HM := Lib.hid (hM hb)
            rw [hb] at ht
            clear hM hb hm hKn
            go_wp2
            go_roundw
            case rel => exact ⟨k + 1, by omega, by omega, by go_num, by rw [flip_val _ _ (Nat.mod_lt _ (by decide))]; exact HM.out⟩
            case measure => simp [intOf]; omega
      · rw [Bool.not_eq_true] at hb
        have HM := Lib.hid (hm.skip (.inl hb))
        rw [hb] at ht
        clear hb hm hKn
        go_wp2
        go_roundw
        case rel => exact ⟨k + 1, by omega, by omega, by go_num, HM.out⟩
        case measure => simp [intOf]; omega
    · obtain ⟨x, G⟩ := FIN.out _ _ _ cap hm (by omega) hk
      have hcv := G.cv
      clear hm
      by_cases l1 : k < 32
      · have l2 : ¬ Fa + k < 8 * (14 + d.size) := fun h => hlt ⟨l1, h⟩
        clear hlt
        go_wp2_with (first
          | (go_at_call 12; (with_reducible refine (G.cd _).mono ?_); rintro e u3 ⟨rfl, k3⟩)
          | (go_at_call 9; (with_reducible refine (hkn _).mono ?_); rintro e u4 ⟨rfl, k4⟩))
        go_ret
        exact ⟨rfl, (((hk0.trans k1).trans G.bel).trans (k3.alloc _)).trans k4⟩
      · clear hlt
        go_wp2_with (first
          | (go_at_call 12; (with_reducible refine (G.cd _).mono ?_); rintro e u3 ⟨rfl, k3⟩)
          | (go_at_call 9; (with_reducible refine (hkn _).mono ?_); rintro e u4 ⟨rfl, k4⟩))
        go_ret
        exact ⟨rfl, (((hk0.trans k1).trans G.bel).trans (k3.alloc _)).trans k4⟩
set_option maxHeartbeats 4000000 in
set_option maxRecDepth 100000 in
theorem down (b l p q : Int) (k a : Nat) (c : BitVec 32) (d X : ByteArray) (Fa F : Nat) (w : World)
    (hX : X.size = 80) (hd : d.size ≤ 44) (ha : a ≤ 65535) (hFa : (a : Int) % (8 * (14 + (d.size : Int))) = (Fa : Int)) (h13 : ((Fa : Int) / 8 == 13) = true) (h8 : (Fa : Int) - 8 = (F : Int)) (hF13 : F / 8 ≠ 13) (hF : F < 8 * (14 + d.size))
    (fin : ∀ (w wr : World) (k cap : Nat), Mid w X.data.toList d.size (c ||| 1#32) F k wr → 0 < k → k ≤ 32 → ∃ x, Given w wr cap x)
    (ce : ∀ w, Calls Try.prog 10 #[.agg #[.int .i64 b, .int .i64 l, .int .i64 p, .int .i64 q, .int .u8 k, .string d]] w fun e w' => e = .returned (.tuple #[.string X, .int .i64 0]) ∧ Kept w w') :
    Calls Try.prog 7 #[.agg #[.int .i64 b, .int .i64 l, .int .i64 p, .int .i64 q, .int .u8 k, .string d], .int .u16 a, .int .u32 (Crc.num c)] w fun e w' => e = .returned (.bool true) ∧ Kept w w' := by
  have hkn : ∀ W, Calls Try.prog 9 #[] W fun e w' => e = .returned (.bool true) ∧ Kept W w' := known_c
  have hk0 := Kept.alloc (Kept.refl w) (.cells #[.int .i64 b, .int .i64 l, .int .i64 p, .int .i64 q, .int .u8 k, .string d] 23)
  have hA := Box.start w 23 b l p q k d
  have z1 : ((X.size : Int) != 80) = false := by rw [hX]; rfl
  have z2 : decide (44 < (d.size : Int)) = false := by simp; omega
  have hor := or_one c
  have h0 := or_bit c
  obtain ⟨P, hP⟩ : ∃ P, P = c ||| 1#32 := ⟨_, rfl⟩
  rw [← hP] at hor h0 fin
  clear hP
  have FIN := Lib.hid fin
  clear fin
  have HX := Lib.hid hX
  have HOR := Lib.hid hor
  clear hor
  clear hX
  go_enter Try.func7, Try.ntmps7
  go_wp2_with (go_at_call 10; go_loud ((with_reducible refine (ce _).mono ?_); rintro e u1 ⟨rfl, k1⟩; obtain ⟨cap, wm, hconv, hrow⟩ := row80 X HX.out u1; have hB := (hA.kept k1).kept hrow.keptOf; obtain ⟨_, c0, c1, c2, c3, c4, c5⟩ := hA.kept k1; obtain ⟨_, d0, d1, d2, d3, d4, d5⟩ := hB; have M0 := Lib.hid (show Mid u1 X.data.toList d.size P F 0 wm from ⟨_, Dif.start _ _ _ ((size_list X).trans HX.out), hrow⟩); clear hrow))
  rw [hFa]
  clear hFa
  (try rw [h8])
  clear h8
  clear hconv c0 c1 c2 c3 c4 c5 d0 d1 d2 d3 d4 d5 z1 z2 hA
  go_loopw [12] (fun i wr => ∃ k : Nat, k ≤ 32 ∧ F + k ≤ 8 * (14 + d.size) ∧ i = .int .i64 k ∧ Mid u1 X.data.toList d.size P F k wr) (fun i _ => 32 - (intOf i).toNat)
  case atStart => exact ⟨0, by omega, by omega, rfl, M0.out⟩
  case round =>
    clear M0
    obtain ⟨k, hk, hFk, rfl, hm⟩ := hrel
    by_cases hlt : k < 32 ∧ F + k < 8 * (14 + d.size)
    · obtain ⟨l1, l2⟩ := hlt
      obtain ⟨K, hKn⟩ : ∃ K, K = (F + k) / 8 := ⟨_, rfl⟩
      have hK : ((F : Int) + (k : Int)) / 8 = (K : Int) := by omega
      have ht := test_zero P k l1
      have hor := HOR.out
      by_cases hb : P.getLsbD k = true
      · by_cases h3 : K = 13
        · have HM := Lib.hid (hm.skip (.inr (hKn.symm.trans h3)))
          rw [hb] at ht
          clear hb hm hKn
          go_wp2
          go_roundw
          case rel => exact ⟨k + 1, by omega, by omega, by go_num, HM.out⟩
          case measure => simp [intOf]; omega
        · by_cases h4 : 14 ≤ K
          · obtain ⟨v, hc, hf, hM⟩ := hm.cell (K := K + 4) hd l2 (by omega) (by rw [← hKn]; unfold ph; split <;> omega)
            have HM := Lib.hid (hM hb)
            rw [hb] at ht
            have hKl : K < 14 + d.size := by omega
            clear hM hb hm hKn
            go_wp2
            go_roundw
            case rel => exact ⟨k + 1, by omega, by omega, by go_num, by rw [flip_val _ _ (Nat.mod_lt _ (by decide))]; exact HM.out⟩
            case measure => simp [intOf]; omega
          · obtain ⟨v, hc, hf, hM⟩ := hm.cell (K := K) hd l2 (by omega) (by rw [← hKn]; unfold ph; split <;> omega)
            have HM := Lib.hid (hM hb)
            rw [hb] at ht
            clear hM hb hm hKn
            go_wp2
            go_roundw
            case rel => exact ⟨k + 1, by omega, by omega, by go_num, by rw [flip_val _ _ (Nat.mod_lt _ (by decide))]; exact HM.out⟩
            case measure => simp [intOf]; omega
      · rw [Bool.not_eq_true] at hb
        have HM := Lib.hid (hm.skip (.inl hb))
        rw [hb] at ht
        clear hb hm hKn
        go_wp2
        go_roundw
        case rel => exact ⟨k + 1, by omega, by omega, by go_num, HM.out⟩
        case measure => simp [intOf]; omega
    · obtain ⟨x, G⟩ := FIN.out _ _ _ cap hm (by omega) hk
      have hcv := G.cv
      clear hm
      by_cases l1 : k < 32
      · have l2 : ¬ F + k < 8 * (14 + d.size) := fun h => hlt ⟨l1, h⟩
        clear hlt
        go_wp2_with (first
          | (go_at_call 12; (with_reducible refine (G.cd _).mono ?_); rintro e u3 ⟨rfl, k3⟩)
          | (go_at_call 9; (with_reducible refine (hkn _).mono ?_); rintro e u4 ⟨rfl, k4⟩))
        go_ret
        exact ⟨rfl, (((hk0.trans k1).trans G.bel).trans (k3.alloc _)).trans k4⟩
      · clear hlt
        go_wp2_with (first
          | (go_at_call 12; (with_reducible refine (G.cd _).mono ?_); rintro e u3 ⟨rfl, k3⟩)
          | (go_at_call 9; (with_reducible refine (hkn _).mono ?_); rintro e u4 ⟨rfl, k4⟩))
        go_ret
        exact ⟨rfl, (((hk0.trans k1).trans G.bel).trans (k3.alloc _)).trans k4⟩
theorem walk (w : World) (f : Fr) (hf : f.ok) (a : Nat) (ha : a ≤ 65535) (n : Nat) (hn : n ≤ 4294967295) :
    Calls Try.prog 7 #[.agg #[.int .i64 f.boot, .int .i64 f.lsn, .int .i64 f.part, .int .i64 f.parts, .int .u8 f.kind, .string f.data], .int .u16 a, .int .u32 n] w fun e w' => e = .returned (.bool true) ∧ Kept w w' := by
  have ce := encode_c f hf.k hf.d
  by_cases he : f.err = 0
  · have hg := (Fr.err_zero _).mp he
    have hs := hg.short
    rw [he, Fr.enc_good hg] at ce
    obtain ⟨c, hc⟩ : ∃ c : BitVec 32, (n : Int) = Crc.num c := ⟨BitVec.ofInt 32 n, (of_num n (by omega) (by omega)).symm⟩
    rw [hc]
    have hX : (str f.sec).size = 80 := by rw [size_str, sec_len hs]
    obtain ⟨Fa, e1, e2⟩ : ∃ Fa : Nat, (a : Int) % (8 * (14 + (f.data.size : Int))) = (Fa : Int) ∧ Fa < 8 * (14 + f.data.size) :=
      ⟨a % (8 * (14 + f.data.size)), by simp, Nat.mod_lt a (by omega)⟩
    have fin : ∀ (F : Nat), F / 8 ≠ 13 → F < 8 * (14 + f.data.size) → ∀ (w wr : World) (k cap : Nat), Mid w (str f.sec).data.toList f.data.size (c ||| 1#32) F k wr → 0 < k → k ≤ 32 → ∃ x, Given w wr cap x := by
      intro F h13 hF w wr k cap hm h0 h1
      rw [list_str] at hm
      exact given cap hm hg (or_bit c) h13 hF h0 h1
    by_cases h13 : Fa / 8 = 13
    · exact down _ _ _ _ _ _ c _ _ Fa (Fa - 8) w hX hs ha e1 (by simp; omega) (by omega) (by omega) (by omega) (fin _ (by omega) (by omega)) ce
    · exact plain _ _ _ _ _ _ c _ _ Fa Fa w hX hs ha e1 (by simp; omega) rfl h13 e2 (fin _ h13 e2) ce
  · exact early _ _ _ _ _ _ _ _ _ _ (by simpa using he) w ce

set_option maxRecDepth 100000 in
theorem lifted (os : Os) (started : os.Started) (H : Type) (enc : TypeId × Value → H) :
    ReturnsInHanded {} Try.checked os 7 .any (Rows.frameBitsSpec.pre6 enc Try.prog Try.f7 Rows.frameBitsRow.domain false) (Rows.frameBitsSpec.post enc Try.prog Try.f7 false true false false) := by
  refine returnsInHanded_of_change (C := Try.checked) own started (by kernel_rfl) Try.func7
    (ChangeSpec.witness6 (enc := enc) (C := Try.checked) false ⟨#[], #[.agg #[.int .i64 0, .int .i64 0, .int .i64 0, .int .i64 0, .int .u8 0, .string ByteArray.empty], .int .u16 0, .int .u32 0], []⟩ 8 (by kernel_rfl) (by kernel_rfl) (by kernel_rfl) (by kernel_rfl)) ?_
  intro W base args ds gs before hval0 hW hcnd _
  have hval : ∀ (j : Nat) t v, Try.f7.params[j]? = some t → args[j]? = some v → Value.okWide Try.prog W .any base t v := hval0
  have hW' := hW
  obtain ⟨p, q, hA0, hV, rfl, hfz, hnd⟩ := hW
  have hA : DataW.TrodAll enc Try.prog W 0 (fun _ => true) true Try.f7.params.toList args.toList ds p := hA0
  rw [Try.params7] at hA hval
  obtain ⟨v0, vs0, d0, ds0, p0, q0, hargs0, rfl, rfl, h0, r0⟩ := trodAll_cons hA
  obtain ⟨v1, vs1, d1, ds1, p1, q1, hargs1, rfl, rfl, h1, r1⟩ := trodAll_cons r0
  obtain ⟨v2, vs2, d2, ds2, p2, q2, hargs2, rfl, rfl, h2, r2⟩ := trodAll_cons r1
  obtain ⟨rfl, rfl, rfl⟩ := trodAll_nil r2
  obtain rfl : args = #[v0, v1, v2] := by cases args; simp_all
  obtain ⟨rfl, rfl⟩ := trodVars_none hV
  obtain ⟨n0, b0, e0⟩ := open_frame (hval 0 23 v0 rfl rfl) h0
  obtain ⟨n1, b1, e1⟩ := open_u16 (hval 1 41 v1 rfl rfl) h1
  obtain ⟨n2, b2, e2⟩ := open_u32 (hval 2 34 v2 rfl rfl) h2
  clear hA0 hval0
  simp only [List.append_nil] at hW'
  have hlt0 : ∀ x ∈ p0, x.block < W.heap.size := fun x hx => hW'.lt x (by simp [hx])
  have hlt1 : ∀ x ∈ p1, x.block < W.heap.size := fun x hx => hW'.lt x (by simp [hx])
  have hlt2 : ∀ x ∈ p2, x.block < W.heap.size := fun x hx => hW'.lt x (by simp [hx])
  have hwalk := walk W n0 b0 n1 b1 n2 b2
  rw [← e0, ← e1, ← e2] at hwalk
  refine hwalk.mono fun e W' ⟨he, hg⟩ => ?_
  subst he
  exact ⟨_, rfl, _, _, _, [], _, [], hW', (trodAll_cons_mk (shut_bool Try.underlying4 _) trodAll_mk0), (trodAll_cons_mk (Below.trod laidOut (by kernel_rfl) (of_decide_eq_true (by kernel_rfl)) h0 hg hlt0) (trodAll_cons_mk (Below.trod laidOut (by kernel_rfl) (of_decide_eq_true (by kernel_rfl)) h1 hg hlt1) (trodAll_cons_mk (Below.trod laidOut (by kernel_rfl) (of_decide_eq_true (by kernel_rfl)) h2 hg hlt2) trodAll_mk0))), rfl, Below.frame hg _, fun h => by cases h⟩

theorem over : Rows.frameBitsRow.holds Try.pinned (OpenSpec.ofChange Rows.frameBitsSpec) :=
  OpenClaim.holds_of_wide 7 Try.f7 rfl rfl rfl rfl rfl rfl rfl ⟨rfl, rfl, rfl, rfl, rfl⟩ rfl rfl rfl rfl rfl (by kernel_rfl) Try.func7 (by kernel_rfl)
    (of_decide_eq_true (by kernel_rfl)) (by unfold Func.isWrapper; first | (rw [if_pos (by decide +kernel)]; kernel_rfl) | (rw [if_neg (by decide +kernel)]; exact ⟨rfl, rfl⟩))
    (fun os started H enc _ => lifted os started H enc)

/-- ████ THE STATEMENT ████ -/
theorem proved : Rows.FrameBitsSaid :=
  over
#print axioms proved
end Go.Proofs.Ytnpjmjnekakgeaa.frameBits
