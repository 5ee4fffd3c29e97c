/-
  Layer 13: what the contracts of package spec say (SpecP), as a hypothesis of the texts behind this one.
-/
import Derived.Test.YtngojgocplmedaaRZp
namespace Go.Proofs.YtngojgocplmedaaR.Ls
open Go.RowKit Go.Proofs.YtngojgocplmedaaR.Mem Go.Proofs.YtngojgocplmedaaR.Bx Go.Proofs.YtngojgocplmedaaR.In Go.Proofs.YtngojgocplmedaaR.Sp Go.ChangeShapes Go.WideShapes Go.ChangeAt
set_option linter.unusedVariables false

/-- What Encode writes. -/
def encV (s : Sp) : ByteArray := if spSays s = 0 then s.bytes else ⟨#[]⟩
theorem renc_c {w : World} {s : Sp} {p : Pl} (h : SpAt w s p) : Calls Try.prog 11 #[.agg (spC s p)] w fun e w' => e = .returned (.tuple #[.string (encV s), .int .i64 (spSays s)]) ∧ Kept w w' := by
  unfold encV
  by_cases g : s.good
  · have e := (sp_say s).2 g
    rw [if_pos e, e]; exact renc_good h g
  · rw [if_neg (fun e => g ((sp_say s).1 e))]; exact renc_bad h g
/-- What Decode answers. -/
def DecP (w : World) (s : ByteArray) (e : Ending) (w' : World) : Prop :=
  (∃ (S : Sp) (q : Pl) (t : ByteArray), SpRead s S t ∧ e = .returned (.tuple #[.agg (spC S q), .string t, .int .i64 0]) ∧ SpAt w' S q ∧ Kept w w') ∨
  (NoRead s ∧ ∃ q : Pl, e = .returned (.tuple #[.agg (spC zeroS q), .string ⟨#[]⟩, .int .i64 4]) ∧ SpAt w' zeroS q ∧ Kept w w')
theorem DecPost.p {w : World} {s : ByteArray} {e : Ending} {w' : World} (h : DecPost w s e w') : DecP w s e w' := by
  rcases h with h | ⟨h1, h2, h3⟩
  · exact .inl h
  · exact .inr ⟨h1, zeroP, h2, ⟨At.empty _, AtE.empty _ _⟩, h3⟩
theorem rdec_p (s : ByteArray) (w : World) : Calls Try.prog 19 #[.string s] w fun e w' => DecP w s e w' := (rdec_c s w).mono fun _ _ h => h.p
/-- The contracts of package spec. -/
structure SpecP : Prop where
  check : ∀ {w : World} {s : Sp} {p : Pl}, SpAt w s p → Calls Try.prog 14 #[.agg (spC s p)] w fun e w' => e = .returned (.int .i64 (spSays s)) ∧ Kept w w'
  enc : ∀ {w : World} {s : Sp} {p : Pl}, SpAt w s p → Calls Try.prog 10 #[.agg (spC s p)] w fun e w' => e = .returned (.tuple #[.string (encV s), .int .i64 (spSays s)]) ∧ Kept w w'
  dec : ∀ (s : ByteArray) (w : World), s.size ≤ 1000000 → Calls Try.prog 18 #[.string s] w fun e w' => DecP w s e w'
  copy : ∀ {w : World} {s : Sp} {p : Pl}, SpAt w s p → p.pn ≤ 1000000 → p.tn ≤ 1000000 → Calls Try.prog 12 #[.agg (spC s p)] w fun e w' => ∃ q : Pl, e = .returned (.agg (spC s q)) ∧ SpNew w.heap.size w' s q ∧ Kept w w'
  eq : ∀ {w : World} {s t : Sp} {p q : Pl}, SpAt w s p → SpAt w t q → Calls Try.prog 16 #[.agg (spC s p), .agg (spC t q)] w fun e w' => e = .returned (.bool (decide (s = t))) ∧ Kept w w'
  conf : ∀ (f : Cf) (w : World), Calls Try.prog 20 #[.agg (cfC f)] w fun e w' => e = .returned (.int .i64 (cfSays f)) ∧ Kept w w'
  need : ∀ (a : Int) (w : World), Calls Try.prog 22 #[.int .i64 a] w fun e w' => e = .returned (.int .i64 (needV a)) ∧ Kept w w'
end Go.Proofs.YtngojgocplmedaaR.Ls
