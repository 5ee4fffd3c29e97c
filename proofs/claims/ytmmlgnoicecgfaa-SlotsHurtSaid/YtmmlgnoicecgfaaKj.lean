/-
  One byte of the newest header's sector changed (plain mathematics).
-/
import Derived.Test.YtmmlgnoicecgfaaKi
namespace Go.Proofs.Ytmmlgnoicecgfaa.Hk
open Go Go.Proofs.Ytmmlgnoicecgfaa.Pk Go.Proofs.Ytmmlgnoicecgfaa.Dz Go.Proofs.Ytmmlgnoicecgfaa.Fz
open Go.Proofs.Ytmmlgnoicecgfaa.Crc (bitOf bitAt run_feed feed_xor feed_congr feed burst moreB)

theorem first_of {P : Nat → Prop} : ∀ n, (∃ k, k < n ∧ P k) → ∃ k, k < n ∧ P k ∧ ∀ j, j < k → ¬ P j
  | 0, ⟨k, h, _⟩ => absurd h (by omega)
  | n + 1, ⟨k, h, hk⟩ => by
    by_cases hx : ∃ k, k < n ∧ P k
    · obtain ⟨k, h1, h2, h3⟩ := first_of n hx
      exact ⟨k, by omega, h2, h3⟩
    · exact ⟨k, h, hk, fun j hj hp => hx ⟨j, by omega, hp⟩⟩
theorem bit_ne {u v : UInt8} (h : u ≠ v) : ∃ k, k < 8 ∧ bitOf u k ≠ bitOf v k := by
  refine Classical.byContradiction fun hn => h ?_
  apply UInt8.toNat_inj.mp
  apply Nat.eq_of_testBit_eq
  intro k
  by_cases hk : k < 8
  · exact Classical.byContradiction fun he => hn ⟨k, hk, he⟩
  · have hu := u.toNat_lt; have hv := v.toNat_lt
    have hp : 2 ^ 8 ≤ 2 ^ k := Nat.pow_le_pow_right (by decide) (by omega)
    rw [Nat.testBit_lt_two_pow (by omega), Nat.testBit_lt_two_pow (by omega)]
theorem one_byte {x y : List UInt8} (hl : x.length = y.length) {p : Nat} (hp : p < x.length) (hne : x.getD p 0 ≠ y.getD p 0) (heq : ∀ j, j ≠ p → x.getD j 0 = y.getD j 0) : moreB 0 x ≠ moreB 0 y := by
  intro e
  unfold moreB at e
  have hrun := BitVec.not_inj.mp e
  rw [run_feed, run_feed y, ← hl] at hrun
  obtain ⟨k, hk, hb, hf⟩ := first_of 8 (bit_ne hne)
  have hz := feed_xor (bitAt x) (bitAt y) (~~~ 0) (~~~ 0) (8 * x.length)
  rw [hrun, BitVec.xor_self, BitVec.xor_self] at hz
  have at_p : ∀ j, j < 8 → (bitAt x (8 * p + j) ^^ bitAt y (8 * p + j)) = (bitOf (x.getD p 0) j ^^ bitOf (y.getD p 0) j) := fun j hj => by
    unfold bitAt
    rw [show (8 * p + j) / 8 = p by omega, show (8 * p + j) % 8 = j by omega]
  have off : ∀ q, q / 8 ≠ p → (bitAt x q ^^ bitAt y q) = false := fun q hq => by
    unfold bitAt
    rw [heq _ hq]; simp
  refine burst (fun q => bitAt x q ^^ bitAt y q) (8 * p + k) (8 * x.length) (fun q hq => ?_) ?_ (fun q hq => off q (by omega)) (by omega) hz
  · by_cases hqp : q / 8 = p
    · have := hf (q - 8 * p) (by omega)
      have h2 := at_p (q - 8 * p) (by omega)
      rw [show 8 * p + (q - 8 * p) = q by omega] at h2
      show (bitAt x q ^^ bitAt y q) = false
      rw [h2, Classical.not_not.mp this]; simp
    · exact off q hqp
  · show (bitAt x (8 * p + k) ^^ bitAt y (8 * p + k)) = true
    rw [at_p k hk]
    revert hb
    cases bitOf (x.getD p 0) k <;> cases bitOf (y.getD p 0) k <;> simp
theorem getD_left {a b : List UInt8} {i : Nat} (h : i < a.length) : (a ++ b).getD i 0 = a.getD i 0 := by
  rw [List.getD_eq_getElem?_getD, List.getElem?_append_left h, ← List.getD_eq_getElem?_getD]
theorem getD_right {a b : List UInt8} {i n : Nat} (h : a.length = n) (hi : n ≤ i) : (a ++ b).getD i 0 = b.getD (i - n) 0 := by
  rw [List.getD_eq_getElem?_getD, List.getElem?_append_right (by omega), h, ← List.getD_eq_getElem?_getD]
theorem list_getD {x y : List UInt8} (hl : x.length = y.length) (h : ∀ j, j < x.length → x.getD j 0 = y.getD j 0) : x = y := by
  apply List.ext_getElem hl
  intro p h1 h2
  have := h p h1
  rw [List.getD_eq_getElem?_getD, List.getD_eq_getElem?_getD, List.getElem?_eq_getElem h1, List.getElem?_eq_getElem h2] at this
  simpa using this
theorem sec_head (h : Hd) {i : Nat} (hi : i < 19) : h.sec.getD i 0 = h.head.getD i 0 := by
  unfold Hd.sec; exact getD_left (by rw [head_len]; exact hi)
theorem sec_sum (h : Hd) {i : Nat} (h1 : 19 ≤ i) (h2 : i < 23) : h.sec.getD i 0 = (be h.sum.toNat 4).getD (i - 19) 0 := by
  unfold Hd.sec
  rw [getD_right (head_len h) h1, getD_left (by rw [be_length]; omega)]
theorem sec_zero (h : Hd) {i : Nat} (h1 : 23 ≤ i) (h2 : i < 74) : h.sec.getD i 0 = 0 := by
  unfold Hd.sec
  rw [getD_right (head_len h) (by omega), getD_right (be_length _ _) (by omega), getD_left (by rw [List.length_replicate]; omega)]
  rw [List.getD_eq_getElem?_getD, List.getElem?_replicate]; split <;> rfl
theorem seq_be {m n : Nat} (h : be m 6 = be n 6) (p : Nat) : seqAt m p = seqAt n p := by unfold seqAt; rw [h]
/-- A sector with one byte changed is that of no header. -/
theorem hurt_none {h : Hd} {l : List UInt8} {p : Nat} (hl : l.length = 80) (hp : p < 80) (hne : l.getD p 0 ≠ h.sec.getD p 0) (heq : ∀ j, j ≠ p → l.getD j 0 = h.sec.getD j 0) : dec (str l) = none := by
  cases hd : dec (str l) with
  | none => rfl
  | some c =>
    exfalso
    obtain ⟨_, e⟩ := dec_some hd
    obtain rfl : l = c.sec := by rw [← list_str l, e, list_str]
    clear hd e
    by_cases hs : p < 6 ∨ 74 ≤ p
    · have eb : be c.seq.toNat 6 = be h.seq.toNat 6 := by
        refine list_getD (by rw [be_length, be_length]) fun j hj => ?_
        rw [be_length] at hj
        rcases hs with hs | hs
        · have := heq (74 + j) (by omega)
          rw [sec_seq c (.inr (by omega)), sec_seq h (.inr (by omega))] at this
          unfold seqAt at this
          rw [if_neg (by omega), show 74 + j - 74 = j by omega] at this
          exact this
        · have := heq j (by omega)
          rw [sec_seq c (.inl hj), sec_seq h (.inl hj)] at this
          unfold seqAt at this
          rw [if_pos hj] at this
          exact this
      apply hne
      have hq : inSeq p := by rcases hs with hs | hs; exact .inl hs; exact .inr ⟨hs, hp⟩
      rw [sec_seq c hq, sec_seq h hq]
      exact seq_be eb p
    · by_cases h19 : p < 19
      · have es : c.sum = h.sum := by
          have eb : be c.sum.toNat 4 = be h.sum.toNat 4 := by
            refine list_getD (by rw [be_length, be_length]) fun j hj => ?_
            rw [be_length] at hj
            have := heq (19 + j) (by omega)
            rw [sec_sum c (by omega) (by omega), sec_sum h (by omega) (by omega), show 19 + j - 19 = j by omega] at this
            exact this
          have := congrArg val eb
          rw [val_be_lt (by have := c.sum.isLt; omega), val_be_lt (by have := h.sum.isLt; omega)] at this
          exact BitVec.eq_of_toNat_eq this
        refine one_byte (x := c.head) (y := h.head) (by rw [head_len, head_len]) (p := p) (by rw [head_len]; exact h19) ?_ ?_ es
        · rw [← sec_head c h19, ← sec_head h h19]; exact hne
        · intro j hj
          by_cases hj19 : j < 19
          · rw [← sec_head c hj19, ← sec_head h hj19]; exact heq j hj
          · rw [List.getD_eq_getElem?_getD, List.getD_eq_getElem?_getD, List.getElem?_eq_none (by rw [head_len]; omega), List.getElem?_eq_none (by rw [head_len]; omega)]
      · by_cases h23 : p < 23
        · have eh : c.head = h.head := by
            refine list_getD (by rw [head_len, head_len]) fun j hj => ?_
            rw [head_len] at hj
            have := heq j (by omega)
            rw [sec_head c hj, sec_head h hj] at this
            exact this
          apply hne
          rw [sec_sum c (by omega) h23, sec_sum h (by omega) h23]
          unfold Hd.sum; rw [eh]
        · apply hne
          rw [sec_zero c (by omega) (by omega), sec_zero h (by omega) (by omega)]
/-! The headers of SlotsHurt. -/
def hh (i : Nat) : Hd := ⟨i, i + 3, (i : Int) % 2, 5 * i, i⟩
theorem hh_good {i : Nat} (h1 : 1 ≤ i) (h2 : i ≤ 20) : (hh i).good := ⟨by show 1 ≤ (i : Int); omega, by show (i : Int) ≤ _; omega, by show 1 ≤ 5 * (i : Int); omega, by show 5 * (i : Int) ≤ _; omega, by show 1 ≤ (i : Int) + 3; omega, by show (i : Int) + 3 ≤ _; omega, by show 0 ≤ (i : Int) % 2; omega, by show (i : Int) % 2 ≤ 1; omega, by show 0 ≤ (i : Int); omega, by show (i : Int) ≤ 65535; omega⟩
theorem hh_seq (i : Nat) : (hh i).seq.toNat = i := rfl
/-- The disk when i headers were saved. -/
structure Row (s : Ds) (i : Nat) : Prop where
  n : s.n = 2
  fu : s.fu = .idle
  pend : s.pend = []
  ok : s.ok
  one : 1 ≤ i → s.dur (i % 2) = str (hh i).sec
  two : 2 ≤ i → s.dur ((i - 1) % 2) = str (hh (i - 1)).sec
  none : i = 0 → s.dur 0 = str (List.replicate 80 0)
theorem Row.fresh : Row (fresh 2 .idle) 0 := ⟨rfl, rfl, rfl, ok_fresh (by decide) (by decide) trivial, by omega, by omega, fun _ => rfl⟩
theorem Row.saves {s : Ds} {i : Nat} (r : Row s i) (hi : i < 20) : saves s (hh (i + 1)) = (0, saved s (hh (i + 1))) := saves_idle r.fu (hh_good (by omega) (by omega)) (by rw [r.n]; exact Nat.le_refl _)
theorem dur_size {s : Ds} (h : s.ok) {k : Nat} (hk : k < s.n) : (s.dur k).size = 80 := h.dur k hk
theorem Row.low {s : Ds} {i : Nat} (r : Row s i) (hi : i < 20) : ∀ d, slot s.dur ((i + 2) % 2) = some d → d.seq < ((i + 1 : Nat) : Int) := by
  intro d hd
  by_cases h0 : i = 0
  · subst h0
    unfold slot at hd
    rw [show (0 + 2) % 2 = 0 from rfl, r.none rfl, zeros_dec] at hd
    cases hd
  · have e := r.one (by omega)
    have := slot_sec (hh_good (i := i) (by omega) (by omega)) e (by show (i : Int) % 2 = ((i % 2 : Nat) : Int); omega)
    rw [show (i + 2) % 2 = i % 2 by omega, this] at hd
    obtain rfl : hh i = d := by simpa using hd
    show (i : Int) < _
    omega
theorem Row.next {s : Ds} {i : Nat} (r : Row s i) (hi : i < 20) : Row (saved s (hh (i + 1))) (i + 1) ∧ loads (saved s (hh (i + 1))) = (hh (i + 1), 0) := by
  have g := hh_good (i := i + 1) (by omega) (by omega)
  have p := saved_put r.pend (hh (i + 1))
  have hs : (s.dur ((hh (i + 1)).seq.toNat % 2)).size = 80 := dur_size r.ok (by rw [r.n]; omega)
  have hq := hh_seq (i + 1)
  have here := p.here
  rw [hq] at here hs
  rw [show s.dur ((i + 1) % 2) = str (s.dur ((i + 1) % 2)).data.toList from (str_list _).symm, Hd.enc_good g, mix_80 (sec_len _) ((size_list _).trans hs)] at here
  refine ⟨⟨r.n, r.fu, rfl, saved_ok r.ok g (by rw [r.n]; exact Nat.le_refl _), fun _ => here, fun h2 => ?_, by omega⟩, ?_⟩
  · rw [show i + 1 - 1 = i from rfl, p.away _ (by rw [hq]; omega)]
    exact r.one (by omega)
  · refine loads_some (by show ¬ s.n < 2; rw [r.n]; decide) (by show s.fu.dead = false; rw [r.fu]; rfl) ?_
    rw [saved_look]
    refine put_top g p (by rw [hq]; exact hs) ?_
    rw [hq]
    exact r.low hi
/-- What is found when one byte of the newest sector was changed. -/
theorem Row.hurt {s : Ds} {i : Nat} (r : Row s i) (h2 : 2 ≤ i) (hi : i ≤ 20) {l : List UInt8} {p : Nat} (hl : l.length = 80) (hp : p < 80) (hne : l.getD p 0 ≠ (hh i).sec.getD p 0) (heq : ∀ j, j ≠ p → l.getD j 0 = (hh i).sec.getD j 0) : loads (s.wrote (i % 2) (str l)) = (hh (i - 1), 0) := by
  refine loads_some (by show ¬ s.n < 2; rw [r.n]; decide) (by show s.fu.dead = false; rw [r.fu]; rfl) ?_
  have lk : ∀ j, (s.wrote (i % 2) (str l)).look j = if j = i % 2 then str l else s.dur j := by
    intro j
    unfold Ds.look Ds.wrote
    rw [r.pend]
    by_cases h : j = i % 2
    · rw [if_pos h, h]; simp [last]
    · rw [if_neg h]
      simp [last, h]
  have hs : slot (s.wrote (i % 2) (str l)).look (i % 2) = Option.none := by
    unfold slot; rw [lk, if_pos rfl, hurt_none hl hp hne heq]
  refine Top.newest ⟨hh_good (by omega) (by omega), ?_, fun c hc => ?_⟩
  · rw [hh_seq, lk, if_neg (by omega)]; exact r.two h2
  · rw [hh_seq, show (i - 1 + 1) % 2 = i % 2 by omega, hs] at hc
    cases hc
end Go.Proofs.Ytmmlgnoicecgfaa.Hk
