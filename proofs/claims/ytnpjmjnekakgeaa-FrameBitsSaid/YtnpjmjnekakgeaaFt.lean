/-
  Torn sectors: what is read of them.
-/
import Derived.Test.YtnpjmjnekakgeaaFp
namespace Go.Proofs.Ytnpjmjnekakgeaa.Fk
open Go Go.Proofs.Ytnpjmjnekakgeaa.Pk

theorem str_inj' {a b : List UInt8} (h : str a = str b) : a = b := by rw [← list_str a, h, list_str]
theorem dec_ends {l : List UInt8} {g : Fr} (h : dec (str l) = some g) : l = g.sec ∧ l.take 11 = g.name ∧ l.take 11 = l.drop 69 ∧ g.good := by
  obtain ⟨gg, _, e⟩ := dec_some h
  have el := str_inj' e
  exact ⟨el, by rw [el, sec_take], by rw [el, sec_take, sec_drop gg.short], gg⟩
theorem torn_none {a c : Fr} (ga : a.good) (gc : c.good) (hne : ¬ (a.boot = c.boot ∧ a.lsn = c.lsn ∧ a.part = c.part)) {n : Nat} (hn : n ≤ 80)
    (h1 : a.sec.take n ++ c.sec.drop n ≠ a.sec) (h2 : a.sec.take n ++ c.sec.drop n ≠ c.sec) : dec (str (a.sec.take n ++ c.sec.drop n)) = none := by
  cases h : dec (str (a.sec.take n ++ c.sec.drop n)) with
  | none => rfl
  | some g =>
    obtain ⟨_, _, he, _⟩ := dec_ends h
    rcases torn (by rw [sec_take, sec_drop ga.short]) (by rw [sec_take, sec_drop gc.short]) (by rw [sec_take, sec_take]; exact fun e => hne (name_inj ga gc e)) (sec_len ga.short) hn he with e | e
    · exact absurd e h1
    · exact absurd e h2
theorem zeros_none : dec (str (List.replicate 80 0)) = none := by
  cases h : dec (str (List.replicate 80 0)) with
  | none => rfl
  | some g =>
    obtain ⟨_, e, _, gg⟩ := dec_ends h
    exact (name_zeros gg (by rw [← e]; rfl)).elim
theorem torn_zero {a : Fr} (ga : a.good) {n : Nat} (hn : n ≤ 80) (h1 : a.sec.take n ++ (List.replicate 80 0).drop n ≠ a.sec) : dec (str (a.sec.take n ++ (List.replicate 80 0).drop n)) = none := by
  cases h : dec (str (a.sec.take n ++ (List.replicate 80 0).drop n)) with
  | none => rfl
  | some g =>
    obtain ⟨_, _, he, _⟩ := dec_ends h
    rcases torn (by rw [sec_take, sec_drop ga.short]) rfl (by rw [sec_take]; exact fun e => name_zeros ga e) (sec_len ga.short) hn he with e | e
    · exact absurd e h1
    · rw [e, zeros_none] at h; cases h
theorem cut_first (l : List UInt8) (n : Nat) : (str l).extract 0 n = str (l.take n) := by
  apply str_inj
  rw [Lib.extract_data, list_str, list_str]; rfl
theorem cut_rest (l : List UInt8) (n : Nat) : (str l).extract n (str l).size = str (l.drop n) := by
  apply str_inj
  rw [Lib.extract_data, list_str, list_str, size_str, List.take_of_length_le (by rw [List.length_drop]; omega)]
theorem none_E {s : ByteArray} (h : dec s = none) : decE s = 12 := by unfold decE; rw [h]; rfl
end Go.Proofs.Ytnpjmjnekakgeaa.Fk
