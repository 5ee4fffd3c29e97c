/-
  A map of the call's own from names of frames to their sectors (JournalOnce).
-/
import Derived.Test.YtjbcpfndpfeepaaGb
import Derived.Test.YtjbcpfndpfeepaaDb
import Derived.DeepKeys4
namespace Go.Proofs.Ytjbcpfndpfeepaa.Jk
open Go Go.RowKit Go.ChangeShapes Go.WideShapes Go.ChangeAt Go.Maps Go.MapKept Go.ChangeMaps Go.Proofs.Ytjbcpfndpfeepaa.Mem Go.Proofs.Ytjbcpfndpfeepaa.Pk Go.Proofs.Ytjbcpfndpfeepaa.Fk Go.Proofs.Ytjbcpfndpfeepaa.Dz Go.Proofs.Ytjbcpfndpfeepaa.Fz Go.Proofs.Ytjbcpfndpfeepaa.Rc

theorem fr_wide : (match Try.prog.underlying 48 with | some (.array _ _) | some (.struct _) => true | _ => false) = true := by rw [Try.underlying48]
theorem fr_laid : laidOutB Try.prog = true := by kernel_rfl
theorem fr_row : (48 : TypeId) < Try.prog.types.size := of_decide_eq_true (by kernel_rfl)
set_option maxRecDepth 100000 in
theorem fr_law : Keyed Try.prog 48 := Keyed.of_law (deep_law_laid fr_laid (m := 2) (by omega) fr_row (by kernel_rfl) fr_wide)
def nameV (b n p : Int) : Value := .agg #[.int .i64 b, .int .i64 n, .int .i64 p, .int .i64 0, .int .u8 0, .string ByteArray.empty]
theorem lit_int (m : Nat) {b : Int} (h : (Lit.int .i64 b).wf = true) : Try.prog.keyLits (m + 1) 3 [.int .i64 b] = some [.int .i64 b] := by
  unfold Program.keyLits
  rw [Try.underlying3]
  simp [h]
theorem lit_u8 (m : Nat) : Try.prog.keyLits (m + 1) 5 [.int .u8 0] = some [.int .u8 0] := by
  unfold Program.keyLits
  rw [Try.underlying5]
  rfl
theorem lit_str (m : Nat) : Try.prog.keyLits (m + 1) 9 [.string ByteArray.empty] = some [.string []] := by
  unfold Program.keyLits
  rw [Try.underlying9]
  rfl
theorem name_key {b n p : Int} (hb : (Lit.int .i64 b).wf = true) (hn : (Lit.int .i64 n).wf = true) (hp : (Lit.int .i64 p).wf = true) : ∃ l, keyOf Try.prog 48 (nameV b n p) = some l := by
  have hk : Try.prog.keyType 48 = true := by kernel_rfl
  have hc : Try.prog.cellsOf 48 = 6 := by kernel_rfl
  have hf : (nameV b n p).formed Try.prog 48 = true := by simp [nameV, Value.formed, Try.underlying48, hc]
  obtain ⟨m, hm⟩ : ∃ m, Try.prog.types.size = m + 1 := ⟨_, (Nat.sub_add_cancel (Nat.lt_of_le_of_lt (Nat.zero_le _) fr_row)).symm⟩
  have hl : ∃ ls, Try.prog.keyLits (Try.prog.types.size + 1) 48 (nameV b n p).cells.toList = some ls := by
    have c1 : Try.prog.cellsOf 3 = 1 := by kernel_rfl
    have c2 : Try.prog.cellsOf 5 = 1 := by kernel_rfl
    have c3 : Try.prog.cellsOf 9 = 1 := by kernel_rfl
    have z0 : ((0 : Int)) = 0 := rfl
    have hz : (Lit.int .i64 0).wf = true := by decide
    rw [hm]
    unfold Program.keyLits
    rw [Try.underlying48]
    simp [nameV, Value.cells, hc, c1, c2, c3, lit_int, lit_u8, lit_str, hb, hn, hp, hz]
  obtain ⟨ls, hl⟩ := hl
  unfold keyOf
  rw [Try.underlying48]
  simp only [hk, hf, hl]
  exact ⟨_, rfl⟩
theorem nameV_inj {b n p b' n' p' : Int} (h : nameV b n p = nameV b' n' p') : b = b' ∧ n = n' ∧ p = p' := by
  unfold nameV at h
  injection h with h
  have h := congrArg Array.toList h
  simp only [List.cons.injEq, Value.int.injEq, true_and, and_true] at h
  exact ⟨h.1, h.2.1, h.2.2⟩
/-- Each entry is a frame's of K: its name, its sector. -/
def Says2 (D : DataW Unit) (K : List Fr) : Prop := ∀ kl, Maps.has D kl = true → ∃ f ∈ K, keyOf Try.prog 48 (nameV f.boot f.lsn f.part) = some kl ∧ ∀ z, D.atKey kl z = .lit (.string (str f.sec).data.toList)
/-- Block m is a map with at most n entries, each a frame's of K. -/
def Seen (m : Nat) (K : List Fr) (n : Nat) (w : World) : Prop := ∃ D : DataW Unit, w.ownsMap Try.prog 48 (plainElem Try.prog 9) m n D ∧ Says2 D K
theorem Seen.mono {m : Nat} {K K' : List Fr} {n n' : Nat} {w : World} (h : Seen m K n w) (hK : ∀ f ∈ K, f ∈ K') (hn : n ≤ n') : Seen m K' n' w := by
  obtain ⟨D, ho, hs⟩ := h
  exact ⟨D, ho.mono hn, fun kl hk => by obtain ⟨f, hf, r⟩ := hs kl hk; exact ⟨f, hK f hf, r⟩⟩
theorem Seen.lt {m : Nat} {K : List Fr} {n : Nat} {w : World} (h : Seen m K n w) : m < w.heap.size := by obtain ⟨D, ho, _⟩ := h; exact ho.lt
theorem Seen.at {m : Nat} {K : List Fr} {n : Nat} {w w' : World} (h : Seen m K n w) (he : w'.heap[m]? = w.heap[m]?) : Seen m K n w' := by
  obtain ⟨D, ⟨es, clock, hb, r⟩, hs⟩ := h
  exact ⟨D, ⟨es, clock, he.trans hb, r⟩, hs⟩
theorem Seen.made (w : World) (K : List Fr) : Seen w.heap.size K 0 (w.alloc (.map #[] 0)) :=
  ⟨.map [], World.ownsMap_made _ _ _ _, fun k hk => by simp [Maps.has_eq] at hk⟩
theorem Seen.look {m : Nat} {K : List Fr} {n : Nat} {w : World} (h : Seen m K n w) {t : TypeId} (ht : Try.prog.underlying t = some (.map 48 9)) {x : Fr} (g : x.good) (hx : x ∈ K) (one : ∀ f ∈ K, ∀ g ∈ K, f.boot = g.boot → f.lsn = g.lsn → f.part = g.part → f = g) :
    ∃ (s : ByteArray) (q : Bool), (Instr.lookup t (.map (some m)) (nameV x.boot x.lsn x.part) true).run Try.prog w = .ok (.tuple #[.string s, .bool q]) w ∧ (q = true → s = str x.sec) := by
  obtain ⟨D, ho, hs⟩ := h
  obtain ⟨kl, hkl⟩ := name_key (WalkArith.wf_i64 (n := x.boot) (by have := g.b1; have := g.b2; omega)) (WalkArith.wf_i64 (n := x.lsn) (by have := g.l1; have := g.l2; omega)) (WalkArith.wf_i64 (n := x.part) (by have := g.p1; have := g.p2; have := g.q2; omega))
  obtain ⟨v, ps, hrun, hv⟩ := ho.look_ok fr_law ht (mp_zero w) (plainElem_string Try.underlying9 (by decide)) hkl
  obtain ⟨s, rfl, hz, _⟩ := plainElem_string_inv Try.underlying9 hv
  refine ⟨s, _, hrun, fun hq => ?_⟩
  obtain ⟨f, hf, hk, hat⟩ := hs kl hq
  obtain ⟨e1, e2, e3⟩ := nameV_inj (fr_law.inj hk hkl)
  have := one f hf x hx e1 e2 e3
  subst this
  rw [hat] at hz
  have e : (str f.sec).data = s.data ∧ ps = [] := by simpa using hz
  have e := e.1
  cases s
  exact congrArg ByteArray.mk e.symm
theorem Seen.store {m : Nat} {K : List Fr} {n : Nat} {w : World} (h : Seen m K n w) {t : TypeId} (ht : Try.prog.underlying t = some (.map 48 9)) {x : Fr} (g : x.good) (hx : x ∈ K) (hs : (str x.sec).size ≤ maxLen) (hn : n < maxLen) :
    ∃ w', (Instr.mapUpdate t (.map (some m)) (nameV x.boot x.lsn x.part) (.string (str x.sec))).run Try.prog w = .ok () w' ∧ Seen m K (n + 1) w' ∧ But m w w' := by
  obtain ⟨D, ho, hsa⟩ := h
  obtain ⟨kl, hkl⟩ := name_key (WalkArith.wf_i64 (n := x.boot) (by have := g.b1; have := g.b2; omega)) (WalkArith.wf_i64 (n := x.lsn) (by have := g.l1; have := g.l2; omega)) (WalkArith.wf_i64 (n := x.part) (by have := g.p1; have := g.p2; have := g.q2; omega))
  obtain ⟨w', hrun, h1, h2⟩ := ho.store fr_law ht hn hkl (plainElem_string Try.underlying9 hs)
  have hM := ho.isMap
  have hkey : WideAt.IsKeyLit kl := fr_law.key hkl
  refine ⟨w', hrun, ⟨_, h1, fun k hk' => ?_⟩, turned_but h2⟩
  by_cases e : k = kl
  · subst e
    exact ⟨x, hx, hkl, fun z => by rw [atKey_put_same hM hkey]⟩
  · rw [has_put_other e] at hk'
    obtain ⟨f, hf, r1, r2⟩ := hsa k hk'
    exact ⟨f, hf, r1, fun z => by rw [atKey_put_other e]; exact r2 z⟩
def seenA (m : Nat) (K : List Fr) (n : Nat) : As where
  p S w := Seen m K n w ∧ S m
  mono := fun _ _ _ ⟨h, h1⟩ hs => ⟨h, hs _ h1⟩
  loc := fun _ _ _ ⟨h, h1⟩ hs => ⟨h.at (hs m h1 h.lt), h1⟩
theorem o_seen {w0 w : World} {L : List As} (h : Mem.Own w0 L w) (i : Nat) {m : Nat} {K : List Fr} {n : Nat} (hi : L[i]? = some (seenA m K n)) : Seen m K n w := by
  obtain ⟨S, hp, _⟩ := h.see i hi
  exact hp.1
theorem o_saw {w0 w w' : World} {L : List As} (h : Mem.Own w0 L w) (i : Nat) {m : Nat} {K : List Fr} {n : Nat} (hi : L[i]? = some (seenA m K n)) {K' : List Fr} {n' : Nat} (hs : Seen m K' n' w') (hb : But m w w') : Mem.Own w0 (L.set i (seenA m K' n')) w' := by
  obtain ⟨S, hp, hlt, back⟩ := h.open i hi
  exact back _ _ (hb.off hp.2) ⟨hs, .inl hp.2⟩
end Go.Proofs.Ytjbcpfndpfeepaa.Jk
