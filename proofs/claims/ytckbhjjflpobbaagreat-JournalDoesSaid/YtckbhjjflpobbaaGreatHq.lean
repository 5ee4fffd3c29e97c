/-
  Saving a header, whole or cut, and the journal's openings (plain mathematics).
-/
import Derived.Test.YtckbhjjflpobbaaGreatJp
import Derived.Test.YtckbhjjflpobbaaGreatKq
namespace Go.Proofs.YtckbhjjflpobbaaGreat.Jk
open Go Go.Proofs.YtckbhjjflpobbaaGreat.Pk Go.Proofs.YtckbhjjflpobbaaGreat.Fk Go.Proofs.YtckbhjjflpobbaaGreat.Dz Go.Proofs.YtckbhjjflpobbaaGreat.Rc Go.Proofs.YtckbhjjflpobbaaGreat.Fz
open Go.Proofs.YtckbhjjflpobbaaGreat.Hk (Hd Two Non Put)
/-- A journal's disk before its first opening. -/
structure Jn (area : Nat) (S : Nat → ByteArray) : Prop where
  non : Non S
  rest : ∀ i, has area i → S i = Z
theorem Jn.fresh (area n : Nat) (f : St) : Jn area (fresh n f).dur := ⟨Non.fresh n f, fun _ _ => rfl⟩
theorem slot_away {c : Hd} {area i : Nat} (hi : has area i) : i ≠ c.seq.toNat % 2 := by
  have := hi.1
  omega
theorem Jn.opened {area : Nat} {S T : Nat → ByteArray} {c : Hd} (j : Jn area S) (gc : c.good) (hc : c.seq = 1) (hb : c.boot = 1) (ha : c.area = 0) (hs : c.snaps = 0) (p : Put S T c 80) : Jo area T c [] := by
  have zero : ∀ i, has area i → T i = Z := fun i hi => by rw [p.away i (slot_away hi)]; exact j.rest i hi
  have none : ∀ i, has area i → ∀ f, dec (T i) ≠ some f := fun i hi f hf => by rw [zero i hi, Z_str, zeros_none] at hf; cases hf
  have no : ∀ {a : Int} {n boot : Int} {r : Fr}, 0 ≤ a → a ≤ 1 → ¬ rdOk T (beg area a) (beg area a + area) n boot r := fun h0 h1 hr => by
    have hp := parts_pos (by assumption : Fr).data.size
    have hle := hr.2.2.2
    exact none _ (half_has h0 h1 (Nat.le_add_right _ 0) (by omega)) _ (rd_blank hr hp)
  refine ⟨⟨j.non.saved gc hc p, fun i hi => by rw [zero i hi]; exact Low.zero (by omega), ⟨trivial, fun r hr => ?_⟩, by rw [hs]; exact Nat.zero_le _, fun r hr => ?_, fun i hi f hf => absurd hf (none i hi f)⟩, fun i hi => .inl ?_⟩
  · refine absurd ?_ (no (a := c.area) (by omega) (by omega) (r := r) (n := c.first + (0 : Nat)) (boot := 1))
    exact hr
  · exact absurd hr (no (by omega) (by omega))
  · rw [zero i hi, hb]; exact Low.zero (by decide)
theorem Jn.cut {area : Nat} {S T : Nat → ByteArray} {c : Hd} {k : Nat} (j : Jn area S) (gc : c.good) (hc : c.seq = 1) (p : Put S T c k) (hk : k < 80) : Jn area T :=
  ⟨j.non.cut gc hc p hk, fun i hi => by rw [p.away i (slot_away hi)]; exact j.rest i hi⟩
/-- The header that an opening saves. -/
def nextHd (h : Hd) : Hd := ⟨h.seq + 1, h.boot + 1, h.area, h.first, h.snaps⟩
theorem Jv.reopened {area : Nat} {S T : Nat → ByteArray} {h : Hd} {L : List Fr} (j : Jv area S h L) (g : (nextHd h).good) (hm : h.seq + 1 < 281474976710655) (p : Put S T (nextHd h) 80) : Jo area T (nextHd h) L :=
  j.opened (fun i hi => p.away i (slot_away hi)) (j.two.saved g rfl hm p) rfl rfl rfl rfl
/-- An opening that is cut. -/
theorem Jv.cut {area : Nat} {S T : Nat → ByteArray} {h c : Hd} {L : List Fr} {k : Nat} (j : Jv area S h L) (g : c.good) (hc : c.seq = h.seq + 1) (p : Put S T c k) (hk : k < 80) : Jv area T h L :=
  j.heads (fun i hi => p.away i (slot_away hi)) (j.two.cut g hc p hk) (Int.le_refl _) rfl rfl rfl
end Go.Proofs.YtckbhjjflpobbaaGreat.Jk
