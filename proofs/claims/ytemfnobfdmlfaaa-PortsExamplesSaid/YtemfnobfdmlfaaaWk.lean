/-
  The calls of the statements of layer 10, over lists that lie in memory: Meet, Union of one, two, three lists just written out; lists cut to a length.
-/
import Derived.Test.YtemfnobfdmlfaaaWi
import Derived.Test.YtemfnobfdmlfaaaWj
namespace Go.Proofs.Ytemfnobfdmlfaaa.In
open Go.RowKit Go.Proofs.Ytemfnobfdmlfaaa.Mem Go.Proofs.Ytemfnobfdmlfaaa.Po Go.ChangeShapes Go.WideShapes Go.ChangeAt

theorem meet_len (a b : List Int) : (meet a b).length ≤ a.length := Nat.le_trans (srt_len _) (List.length_filter_le _ _)
theorem union_len (ls : List (List Int)) : (union ls).length ≤ ls.flatten.length := srt_len _
theorem c_meet {w : World} {ao bo : Option Addr} {n cap m c : Nat} {a b : List Int} (h : At w ao n cap a) (k : At w bo m c b) (hn : n ≤ 1000) (hm : m ≤ 1000) :
    Calls Try.prog 10 #[.slice ao n cap, .slice bo m c] w fun e w' => ∃ ro s d, e = .returned (.slice ro s d) ∧ At w' ro s d (meet a b) ∧ s ≤ n ∧ Kept w w' :=
  (meet_c h k hn hm).mono fun e w' ⟨ro, s, d, he, hnew, hk⟩ => ⟨ro, s, d, he, hnew.at, by rw [← hnew.len, ← h.len]; exact meet_len a b, hk⟩
theorem c_union1 {w : World} {ao : Option Addr} {n cap : Nat} {a : List Int} (h : At w ao n cap a) (hn : n ≤ 1000) :
    Calls Try.prog 18 #[.slice (some ⟨w.heap.size, 0, none⟩) 1 1] (w.alloc (.cells #[.slice ao n cap] 22)) fun e w' => ∃ ro s d, e = .returned (.slice ro s d) ∧ At w' ro s d (union [a]) ∧ s ≤ n ∧ Kept w w' :=
  (union_c (Ats.one h) (by have := h.len; simp; omega)).mono fun e w' ⟨ro, s, d, he, hnew, hk⟩ => ⟨ro, s, d, he, hnew.at, by have h1 := union_len [a]; rw [hnew.len] at h1; have := h.len; simp at h1; omega, ((Kept.refl w).alloc _).trans hk⟩
theorem c_union2 {w : World} {ao bo : Option Addr} {n cap m c : Nat} {a b : List Int} (h : At w ao n cap a) (k : At w bo m c b) (hn : n + m ≤ 1000) :
    Calls Try.prog 18 #[.slice (some ⟨w.heap.size, 0, none⟩) 2 2] (w.alloc (.cells #[.slice ao n cap, .slice bo m c] 22)) fun e w' => ∃ ro s d, e = .returned (.slice ro s d) ∧ At w' ro s d (union [a, b]) ∧ s ≤ n + m ∧ Kept w w' :=
  (union_c (Ats.two h k) (by have := h.len; have := k.len; simp; omega)).mono fun e w' ⟨ro, s, d, he, hnew, hk⟩ => ⟨ro, s, d, he, hnew.at, by have h1 := union_len [a, b]; rw [hnew.len] at h1; have := h.len; have := k.len; simp at h1; omega, ((Kept.refl w).alloc _).trans hk⟩
theorem c_union3 {w : World} {ao bo eo : Option Addr} {n cap m c p q : Nat} {a b l : List Int} (h : At w ao n cap a) (k : At w bo m c b) (j : At w eo p q l) (hn : n + m + p ≤ 1000) :
    Calls Try.prog 18 #[.slice (some ⟨w.heap.size, 0, none⟩) 3 3] (w.alloc (.cells #[.slice ao n cap, .slice bo m c, .slice eo p q] 22)) fun e w' => ∃ ro s d, e = .returned (.slice ro s d) ∧ At w' ro s d (union [a, b, l]) ∧ s ≤ n + m + p ∧ Kept w w' :=
  (union_c (Ats.three h k j) (by have := h.len; have := k.len; have := j.len; simp; omega)).mono fun e w' ⟨ro, s, d, he, hnew, hk⟩ => ⟨ro, s, d, he, hnew.at, by have h1 := union_len [a, b, l]; rw [hnew.len] at h1; have := h.len; have := k.len; have := j.len; simp at h1; omega, ((Kept.refl w).alloc _).trans hk⟩
/-- One number more. -/
theorem wpList_push {B N : Nat} {w : World} {ao : Option Addr} {n cap : Nat} {l : List Int} {y : Int} {ops : Array Oper} {rest : List Oper} {o : Oper} {a : Act} {Q : Exit → Act → World → Prop} (h : New B w ao n cap l) (hy : isI y) (hB : B ≤ w.heap.size) (hN : n + 1 = N) (hb : N ≤ 1000000)
    (hgd : o.guard = none) (p q : Operand) (ho : o.op = .call { callee := .builtin .append, args := #[p, q], argTypes := #[22, 22] }) (hp : a.eval p = .slice ao n cap) (hq : a.eval q = .slice (some ⟨w.heap.size, 0, none⟩) 1 1)
    (K : ∀ ao' cap' w', New B w' ao' N cap' (l ++ [y]) → (∀ u : World, u.heap.size ≤ B → Kept u w → Kept u w') → wpList Try.prog ops Q rest (a.put o.dst (.slice ao' N cap')) w') : wpList Try.prog ops Q (o :: rest) a (w.alloc (.cells #[.int .i64 y] 3)) :=
  wpList_app (h.kept ((Kept.refl w).alloc _)) (lit_at w [y] (fun z hz => by simp at hz; subst hz; exact hy) (by simp)) (Nat.le_trans hB (by simp)) hN hb hgd p q ho hp hq fun ao' cap' w' h1 _ h2 => K ao' cap' w' h1 fun u hu hk => h2 u hu (hk.alloc _)
/-- Cut to at most N numbers. -/
theorem cut_of (n N : Nat) : ∃ M : Nat, min (n : Int) (N : Int) = (M : Int) ∧ M ≤ n ∧ M ≤ N := ⟨min n N, by omega, by omega, by omega⟩
end Go.Proofs.Ytemfnobfdmlfaaa.In
