/-
  The specification of layer 10: Meet and Union.
-/
import Derived.Test.YtemfnobfdmlfaaaWc
namespace Go.Proofs.Ytemfnobfdmlfaaa.In
open Go.RowKit Go.Proofs.Ytemfnobfdmlfaaa.Mem Go.Proofs.Ytemfnobfdmlfaaa.Po Go.ChangeShapes Go.WideShapes Go.ChangeAt

theorem ins_len (x : Int) (l : List Int) : (ins x l).length ≤ l.length + 1 := by
  induction l with
  | nil => simp [ins]
  | cons y l ih =>
    unfold ins
    split
    · simp only [List.length_cons]; omega
    · split
      · simp
      · simp
theorem srt_len (l : List Int) : (srt l).length ≤ l.length := by
  suffices h : ∀ (l o : List Int), (l.foldl (fun o x => ins x o) o).length ≤ o.length + l.length by
    have := h l []; simpa [srt] using this
  intro l
  induction l with
  | nil => intro o; simp
  | cons y l ih =>
    intro o
    have h1 := ih (ins y o)
    have h2 := ins_len y o
    simp only [List.foldl_cons, List.length_cons]; omega
theorem take_in {l : List Int} {p : Int → Bool} {j : Nat} {x : Int} (h : l[j]? = some x) (hp : p x = true) : (l.take (j + 1)).filter p = (l.take j).filter p ++ [x] := by
  rw [List.take_add_one, h]; simp [hp]
theorem take_out {l : List Int} {p : Int → Bool} {j : Nat} {x : Int} (h : l[j]? = some x) (hp : p x = false) : (l.take (j + 1)).filter p = (l.take j).filter p := by
  rw [List.take_add_one, h]; simp [hp]
theorem fit_srt {l : List Int} (h : Fit l) : Fit (srt l) := fun x hx => h x (mem_srt.1 hx)
theorem has_def (b : List Int) : (fun x => has b x) = fun x => decide (x ∈ b) := rfl
theorem Fit.nil : Fit [] := fun x hx => by simp at hx
set_option maxRecDepth 100000 in
theorem rmeet_c {w : World} {ao bo : Option Addr} {n cap m c : Nat} {a b : List Int} (h : At w ao n cap a) (k : At w bo m c b) (hn : n ≤ 1000) :
    Calls Try.prog 12 #[.slice ao n cap, .slice bo m c] w fun e w' => ∃ ro s d, e = .returned (.slice ro s d) ∧ At w' ro s d (meet a b) ∧ Kept w w' := by
  have H := Lib.hid (And.intro h k)
  clear h k
  go_enter Try.func12, Try.ntmps12
  go_wp2
  go_loopw [5, 6] (fun u i wr => ∃ (j : Nat) (ro : Option Addr) (s d : Nat), j ≤ n ∧ i = .int .i64 j ∧ u = .slice ro s d ∧ At wr ro s d (srt ((a.take j).filter (has b))) ∧ Kept w wr) (fun _ i _ => n - (RowKit.intOf i).toNat)
  case atStart => exact ⟨0, none, 0, 0, Nat.zero_le _, rfl, rfl, At.empty w, Kept.refl _⟩
  case round =>
    obtain ⟨j, ro, s, d, hj, rfl, rfl, hs, hk⟩ := hrel
    have HS := Lib.hid hs
    clear hs
    by_cases hlt : j < n
    · obtain ⟨x, g, o, hx, hf, rfl, hg, hc⟩ := (H.out.1.kept hk).get hlt
      have HX := Lib.hid (And.intro hx hf)
      have HP : ∃ q, q = has b x := ⟨_, rfl⟩
      obtain ⟨q, hq⟩ := HP
      have HQ := Lib.hid hq
      clear hx hf hq
      cases q with
      | false =>
        go_wp2_with (go_at_call 16; (with_reducible refine (rhas_c (H.out.2.kept hk) x).mono ?_); rintro e w1 ⟨rfl, k1⟩; rw [← HQ.out])
        go_roundw
        case rel => exact ⟨j + 1, _, _, _, by omega, by go_num, rfl, by rw [take_out HX.out.1 HQ.out.symm]; exact HS.out.kept k1, hk.trans k1⟩
        case measure => simp [RowKit.intOf]; omega
      | true =>
        have hl : s ≤ 100000 := by
          have h1 := HS.out.len
          have h2 := srt_len ((a.take j).filter (has b))
          have h3 := List.length_filter_le (has b) (a.take j)
          rw [List.length_take] at h3
          omega
        go_wp2_with (first
          | (go_at_call 16; (with_reducible refine (rhas_c (H.out.2.kept hk) x).mono ?_); rintro e w1 ⟨rfl, k1⟩; rw [← HQ.out]; have hc1 := (k1.cell (p := ⟨g, _, none⟩) hg).trans hc)
          | (go_at_call 23; (with_reducible refine (with_c (HS.out.kept k1) (asc_srt _) hl x HX.out.2).mono ?_); rintro e w2 ⟨ro2, s2, d2, rfl, ha2, k2⟩))
        go_roundw
        case rel => exact ⟨j + 1, _, _, _, by omega, by go_num, rfl, by rw [take_in HX.out.1 HQ.out.symm, srt_snoc]; exact ha2, (hk.trans k1).trans k2⟩
        case measure => simp [RowKit.intOf]; omega
    · obtain rfl : j = n := by omega
      go_wp2
      go_ret
      refine ⟨_, _, _, rfl, ?_, hk⟩
      have h1 := HS.out
      rw [List.take_of_length_le (Nat.le_of_eq H.out.1.len)] at h1
      exact h1

theorem flat_step {ls : List (List Int)} {l : List Int} {j : Nat} (h : ls[j]? = some l) : (ls.take (j + 1)).flatten = (ls.take j).flatten ++ l := by
  rw [List.take_add_one, h]; simp
theorem flat_le {ls : List (List Int)} {l : List Int} {j : Nat} (h : ls[j]? = some l) (k : Nat) : ((ls.take j).flatten ++ l.take k).length ≤ ls.flatten.length := by
  have h1 : ls.flatten = (ls.take (j + 1)).flatten ++ (ls.drop (j + 1)).flatten := by rw [← List.flatten_append, List.take_append_drop]
  rw [h1, flat_step h, List.length_append, List.length_append, List.length_append, List.length_take]
  omega
theorem flat_part {ls : List (List Int)} {l : List Int} {j k : Nat} {x : Int} (h : l[k]? = some x) : (ls.take j).flatten ++ l.take (k + 1) = ((ls.take j).flatten ++ l.take k) ++ [x] := by
  rw [List.take_add_one, h]; simp
set_option maxRecDepth 100000 in
theorem runion_c {w : World} {ao : Option Addr} {n cap : Nat} {ls : List (List Int)} (h : Ats w ao n cap ls) (hn : ls.flatten.length ≤ 100000) :
    Calls Try.prog 19 #[.slice ao n cap] w fun e w' => ∃ ro s d, e = .returned (.slice ro s d) ∧ At w' ro s d (union ls) ∧ Kept w w' := by
  have hm := h.le
  have hm2 := h.max
  unfold maxLen at hm2
  have H := Lib.hid h
  have HN := Lib.hid hn
  clear h hn
  go_enter Try.func19, Try.ntmps19
  go_wp2
  go_loopw [3, 4] (fun u i wr => ∃ (j : Nat) (ro : Option Addr) (s d : Nat), j ≤ n ∧ i = .int .i64 j ∧ u = .slice ro s d ∧ At wr ro s d (srt (ls.take j).flatten) ∧ Kept w wr) (fun _ i _ => n - (RowKit.intOf i).toNat)
  case atStart => exact ⟨0, none, 0, 0, Nat.zero_le _, rfl, rfl, At.empty w, Kept.refl _⟩
  case round =>
    obtain ⟨j, ro, s, d, hj, rfl, rfl, hs, hk⟩ := hrel
    have HS := Lib.hid hs
    clear hs
    by_cases hlt : j < n
    · obtain ⟨l, g, o, bo, m, c, hl, rfl, hg, hc, hl2⟩ := (H.out.kept hk).get hlt
      have hm3 := hl2.n62
      unfold maxLen at hm3
      have HL := Lib.hid (And.intro hl hl2)
      clear hl hl2
      obtain ⟨wo, hwo⟩ : ∃ wo : World, wo = wr := ⟨_, rfl⟩
      have hko : Kept w wo := by rw [hwo]; exact hk
      have hkr : Kept wo wr := by rw [hwo]; exact Kept.refl _
      have HLo : Hid (ls[j]? = some l ∧ At wo bo m c l) := by rw [hwo]; exact HL
      have hco : wo.cell? ⟨g, o + j, none⟩ = some (.slice bo m c) := by rw [hwo]; exact hc
      have hgo : g < wo.heap.size := by rw [hwo]; exact hg
      have n1 : decide ((j : Int) < (n : Int)) = true := decide_eq_true (by omega)
      clear hwo HL hc hg hk
      go_wp2
      go_loopw [3, 5] (fun u i wq => ∃ (k : Nat) (ro : Option Addr) (s d : Nat), k ≤ m ∧ i = .int .i64 k ∧ u = .slice ro s d ∧ At wq ro s d (srt ((ls.take j).flatten ++ l.take k)) ∧ Kept wo wq) (fun _ i _ => m - (RowKit.intOf i).toNat)
      case atStart => exact ⟨0, ro, s, d, Nat.zero_le _, rfl, rfl, by rw [List.take_zero, List.append_nil]; exact HS.out, hkr⟩
      case round =>
        clear HS hkr
        obtain ⟨k, ro, s, d, hk, rfl, rfl, hs, hkq⟩ := hrel
        have HS := Lib.hid hs
        clear hs
        have hc1 := (hkq.cell (p := ⟨g, _, none⟩) hgo).trans hco
        by_cases hlt2 : k < m
        · obtain ⟨x, g2, o2, hx, hf, rfl, hg2, hc2⟩ := (HLo.out.2.kept hkq).get hlt2
          have HX := Lib.hid (And.intro hx hf)
          clear hx hf
          have hls : s ≤ 100000 := by
            have h1 := HS.out.len
            have h2 := srt_len ((ls.take j).flatten ++ l.take k)
            have h3 := flat_le HLo.out.1 k
            have h4 := HN.out
            omega
          go_wp2_with (go_at_call 23; (with_reducible refine (with_c HS.out (asc_srt _) hls x HX.out.2).mono ?_); rintro e w2 ⟨ro2, s2, d2, rfl, ha2, k2⟩)
          go_roundw
          case rel => exact ⟨k + 1, _, _, _, by omega, by go_num, rfl, by rw [flat_part HX.out.1, srt_snoc]; exact ha2, hkq.trans k2⟩
          case measure => simp [RowKit.intOf]; omega
        · obtain rfl : k = m := by omega
          go_wp2
          go_roundw
          case rel => exact ⟨j + 1, _, _, _, by omega, by go_num, rfl, by
            have h1 := HS.out
            rw [List.take_of_length_le (Nat.le_of_eq HLo.out.2.len), ← flat_step HLo.out.1] at h1
            exact h1, hko.trans hkq⟩
          case measure => simp [RowKit.intOf]; omega
    · obtain rfl : j = n := by omega
      go_wp2
      go_ret
      refine ⟨_, _, _, rfl, ?_, hk⟩
      have h1 := HS.out
      rw [List.take_of_length_le (Nat.le_of_eq H.out.len)] at h1
      exact h1
end Go.Proofs.Ytemfnobfdmlfaaa.In
