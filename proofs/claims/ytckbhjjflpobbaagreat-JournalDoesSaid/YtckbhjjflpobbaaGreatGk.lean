/-
  What the program's function find finds: the frames from a sector on, as long as they are frames, and whether they are those of a record.
-/
import Derived.Test.YtckbhjjflpobbaaGreatGs
import Derived.Test.YtckbhjjflpobbaaGreatFb
import Derived.Test.YtckbhjjflpobbaaGreatDb
import Derived.Lib.AppendStr
import Derived.Lib.BufferRead
namespace Go.Proofs.YtckbhjjflpobbaaGreat.Rc
open Go Go.RowKit Go.ChangeShapes Go.WideShapes Go.ChangeAt Go.Proofs.YtckbhjjflpobbaaGreat.Mem Go.Proofs.YtckbhjjflpobbaaGreat.Pk Go.Proofs.YtckbhjjflpobbaaGreat.Fk

/-! ### mathematics -/
def Pt (S : Nat → ByteArray) (t : Nat) : Nat := (decF (S t)).parts.toNat
def Good (S : Nat → ByteArray) (t k : Nat) : Prop := ∀ i, i < k → decE (S (t + i)) = 0
def fdOk (S : Nat → ByteArray) (t u : Nat) : Prop := Good S t (Pt S t) ∧ decE (S t) = 0 ∧ t + Pt S t ≤ u
def Xs (S : Nat → ByteArray) (t i : Nat) : Fr := decF (S (t + i))
def fnd (S : Nat → ByteArray) (t : Nat) : Fr := { decF (S t) with data := str (joined S t (Pt S t)) }
def fdB (S : Nat → ByteArray) (t : Nat) : Bool := eqF (Pt S t) (Xs S t) (parts (fnd S t).data.size) (frP (fnd S t))
theorem dec_good {s : ByteArray} (h : decE s = 0) : (decF s).good ∧ (decF s).kind < 256 := by
  rcases decE_or s with ⟨_, hd⟩ | ⟨h2, _⟩
  · obtain ⟨hg, hk, _⟩ := dec_some hd
    exact ⟨hg, hk⟩
  · rw [h] at h2; cases h2
theorem frP_fr {r : Fr} (h : r.data.size ≤ 4096) (i : Nat) : frP r i = fr r.boot r.lsn r.kind r.data i := by
  unfold frP fr; rw [(pF_nat h).1]
theorem fd_rec0 {S : Nat → ByteArray} {t u : Nat} {r x : Fr} (hx : decF (S t) = x) (hr1 : r.boot = x.boot) (hr2 : r.lsn = x.lsn) (hr3 : r.part = x.part) (hr4 : r.parts = x.parts) (hr5 : r.kind = x.kind) (h : fdOk S t u) (hb : eqF (Pt S t) (Xs S t) (parts r.data.size) (frP r) = true) : begins S t r ∧ t + parts r.data.size ≤ u := by
  obtain ⟨h1, h2, h3⟩ := h
  obtain ⟨hg, hk⟩ := dec_good h2
  rw [hx] at hg hk
  obtain ⟨e1, e2⟩ := eqF_iff.mp hb
  have hP : Pt S t = x.parts.toNat := by unfold Pt; rw [hx]
  have hp : 1 ≤ Pt S t := by have := hg.q1; rw [hP]; omega
  have f0 : Xs S t 0 = frP r 0 := e2 0 hp
  have x0 : Xs S t 0 = x := hx
  rw [x0] at f0
  have hpF : x.parts = pF r.data.size := by rw [f0]; rfl
  have hsz : r.data.size ≤ 4096 := by
    refine Nat.not_lt.1 fun hlt => ?_
    rw [(pF_big hlt).1] at hpF
    have := hg.q1
    omega
  have hpt : x.part = 0 := by rw [f0]; rfl
  rw [(pF_nat hsz).1] at hpF
  refine ⟨⟨⟨hr1 ▸ hg.b1, hr1 ▸ hg.b2, hr2 ▸ hg.l1, hr2 ▸ hg.l2⟩, hr5 ▸ hk, hsz, hr3.trans hpt, hr4.trans hpF, fun i hi => ?_⟩, by omega⟩
  rw [← e1] at hi
  have hi2 := e2 i hi
  rw [frP_fr hsz] at hi2
  have hd := (enc_dec (h1 i hi)).1
  have hi3 : decF (S (t + i)) = fr r.boot r.lsn r.kind r.data i := hi2
  rw [← hd, hi3]
  rfl
theorem fd_rec {S : Nat → ByteArray} {t u : Nat} (h : fdOk S t u) (hb : fdB S t = true) : begins S t (fnd S t) ∧ t + parts (fnd S t).data.size ≤ u :=
  fd_rec0 (x := decF (S t)) rfl rfl rfl rfl rfl rfl h hb
theorem fd_of {S : Nat → ByteArray} {t u : Nat} {lsn boot : Int} {r : Fr} (h : rdOk S t u lsn boot r) : fdOk S t u ∧ fdB S t = true ∧ fnd S t = r := by
  obtain ⟨hb, h1, h2, h3⟩ := h
  have hp := parts_pos r.data.size
  obtain ⟨e1, e2⟩ := dec_F hb.first
  have hP : Pt S t = parts r.data.size := by unfold Pt; rw [e1]; show ((parts r.data.size : Nat) : Int).toNat = _; omega
  have hf : fnd S t = r := by
    have hc := cand_is hb
    unfold fnd Pt
    rw [← hc]
    unfold cand
    rw [e1]; rfl
  refine ⟨⟨fun i hi => ?_, e2, by rw [hP]; exact h3⟩, ?_, hf⟩
  · rw [hP] at hi
    rw [hb.all i hi]; exact (sec_decF hb.num hb.kind hb.size hi).2
  · unfold fdB
    rw [hf, eqF_iff]
    refine ⟨hP, fun i hi => ?_⟩
    rw [hP] at hi
    unfold Xs
    rw [hb.all i hi, (sec_decF hb.num hb.kind hb.size hi).1, frP_fr hb.size]
/-- What Read says. -/
theorem rd_fd {S : Nat → ByteArray} {t u : Nat} {lsn boot : Int} (h : fdOk S t u) (hb : fdB S t = true) (hl : (fnd S t).lsn = lsn) (hbt : boot ≤ (fnd S t).boot) : rdF S t u lsn boot = fnd S t ∧ rdE S t u lsn boot = 0 :=
  have ⟨h1, h2⟩ := fd_rec h hb
  rdF_ok ⟨h1, hl, hbt, h2⟩
theorem rd_nofd {S : Nat → ByteArray} {t u : Nat} {lsn boot : Int} (h : ¬ fdOk S t u ∨ fdB S t = false ∨ (fnd S t).lsn ≠ lsn ∨ (fnd S t).boot < boot) : rdF S t u lsn boot = Fr.nil ∧ rdE S t u lsn boot = 12 := by
  refine rdF_bad fun r hr => ?_
  obtain ⟨h1, h2, h3⟩ := fd_of hr
  rcases h with h | h | h | h
  · exact h h1
  · rw [h2] at h; cases h
  · rw [h3] at h; exact h hr.2.1
  · rw [h3] at h; have := hr.2.2.1; omega
/-! ### bytes in a row -/
def byteV (b : UInt8) : Value := .int .u8 (b.toNat : Int)
def bytesV (l : List UInt8) : List Value := l.map byteV
theorem bytesV_app (l : List UInt8) (s : ByteArray) : bytesV l ++ Lib.strCells s = bytesV (l ++ s.data.toList) := by
  unfold bytesV; rw [List.map_append]; rfl
theorem row_string {w : World} {base : Nat} {v : Value} {l : List UInt8} (h : w.ownsRow base 5 1 v l.length (bytesV l)) : (convert 130 9 v).run Tryz.prog w = .ok (.string (str l)) w := by
  obtain ⟨ao, cap, rfl, hr⟩ := row_read h
  by_cases h0 : 0 < l.length
  · obtain ⟨g, rfl, _, _, hc⟩ := hr h0
    exact run_convert_bytes_back (P := Tryz.prog) w 130 9 5 ⟨g, 0, none⟩ cap l Tryz.underlying130 Tryz.underlying5 Tryz.underlying9 (fun j hj => by
      rw [add_plain, Nat.zero_add]
      exact hc j _ (by simp [bytesV, byteV, hj]))
  · have e : l = [] := List.eq_nil_of_length_eq_zero (by omega)
    subst e
    cases ao with
    | none => exact Lib.run_convert_nil_bytes w _ _ _ cap Tryz.underlying130 Tryz.underlying5 Tryz.underlying9
    | some a => exact run_convert_bytes_back (P := Tryz.prog) w 130 9 5 a cap [] Tryz.underlying130 Tryz.underlying5 Tryz.underlying9 (fun j hj => absurd hj (by simp))
theorem byte_info : (Tryz.prog.info? 5).map (fun i => (i.zero, i.size, i.bytes)) = some (some (.int .u8 0), 1, 1) := by kernel_rfl
end Go.Proofs.YtckbhjjflpobbaaGreat.Rc
