/-
  The calls of packages fuse and disk on disks of the caller's own, several at once ('Own').
-/
import Derived.Test.YtoclgneokfbobaaDx
namespace Go.Proofs.Ytoclgneokfbobaa.Dz
open Go.RowKit Go.ChangeShapes Go.WideShapes Go.ChangeAt Go.Proofs.Ytoclgneokfbobaa.Mem Go.Proofs.Ytoclgneokfbobaa.Fz
set_option linter.unusedVariables false

/-- A row of the call's own, behind the slice v. -/
def rowA (e : TypeId) (size : Nat) (v : Value) (n : Nat) (xs : List Value) : As where
  p S w := w.ownsRow 0 e size v n xs ∧ ∀ g, v.ownBlock = some g → S g
  mono := fun S T w ⟨h, h1⟩ hs => ⟨h, fun g hg => hs _ (h1 g hg)⟩
  loc := fun S w w' ⟨h, h1⟩ hs => ⟨row_at h fun g hg => hs _ (h1 g hg) (h.lt g hg).2, h1⟩
theorem _root_.Go.Proofs.Ytoclgneokfbobaa.Mem.Own.row {w0 w : World} {L : List As} (h : Own w0 L w) (i : Nat) {e : TypeId} {size n : Nat} {v : Value} {xs : List Value} (hi : L[i]? = some (rowA e size v n xs)) : w.ownsRow 0 e size v n xs := by
  obtain ⟨S, hp, _⟩ := h.see i hi
  exact hp.1
/-- Appended to it. -/
theorem _root_.Go.Proofs.Ytoclgneokfbobaa.Mem.Own.appended {w0 w wa w1 : World} {L : List As} (h : Own w0 L w) (i : Nat) {e : TypeId} {size n n' : Nat} {v v' : Value} {xs xs' : List Value} (hi : L[i]? = some (rowA e size v n xs)) (ka : Kept w wa)
    (hrow : w1.ownsRow 0 e size v' n' xs') (hg : wa.grownBy w1 v.ownBlock) (hl : v'.ownBlock = v.ownBlock ∨ v'.ownBlock = some wa.heap.size) : Own w0 (L.set i (rowA e size v' n' xs')) w1 := by
  obtain ⟨S, hp, hs, back⟩ := h.open i hi
  refine back _ _ (grown_off (ka.off S) hg fun g hg' => .inl (hp.2 g hg')) ⟨hrow, fun g hg' => ?_⟩
  rcases hl with e | e
  · exact .inl (hp.2 g (by rw [← e]; exact hg'))
  · have := (hrow.lt g hg').2
    rw [e] at hg'
    obtain rfl : wa.heap.size = g := Option.some.inj hg'
    exact .inr ⟨ka.size, this⟩
theorem _root_.Go.Proofs.Ytoclgneokfbobaa.Mem.Own.newRow {w0 w : World} {L : List As} (h : Own w0 L w) (e : TypeId) (size : Nat) : Own w0 (L ++ [rowA e size (.slice none 0 0) 0 []]) w :=
  h.push (Kept.refl w) ⟨World.ownsRow_nil _ _ _ _, fun g hg => by simp [Value.ownBlock] at hg⟩
/-- A block of the call's own. -/
def boxA (B : Nat) (cs : Array Value) (T : TypeId) : As where
  p S w := w.heap[B]? = some (.cells cs T (0, 0)) ∧ S B
  mono := fun S T w ⟨h, h1⟩ hs => ⟨h, hs _ h1⟩
  loc := fun S w w' ⟨h, h1⟩ hs => ⟨(hs _ h1 (lt_of_block h)).trans h, h1⟩
theorem _root_.Go.Proofs.Ytoclgneokfbobaa.Mem.Own.box {w0 w : World} {L : List As} (h : Own w0 L w) (cs : Array Value) (T : TypeId) : Own w0 (boxA w.heap.size cs T :: L) (w.alloc (.cells cs T)) :=
  (h.push (b := boxA w.heap.size cs T) ((Kept.refl w).alloc _) ⟨heap_alloc_new _ _, .inr ⟨Nat.le_refl _, by simp⟩⟩).front
theorem _root_.Go.Proofs.Ytoclgneokfbobaa.Mem.Own.boxed {w0 w : World} {L : List As} (h : Own w0 L w) (i : Nat) {B : Nat} {cs : Array Value} {T : TypeId} (hi : L[i]? = some (boxA B cs T)) : w.heap[B]? = some (.cells cs T (0, 0)) := by
  obtain ⟨S, hp, _⟩ := h.see i hi
  exact hp.1
theorem _root_.Go.Proofs.Ytoclgneokfbobaa.Mem.Own.boxset {w0 w : World} {L : List As} (h : Own w0 L w) (i : Nat) {B : Nat} {cs : Array Value} {T : TypeId} (hi : L[i]? = some (boxA B cs T)) (j : Nat) (v : Value) : Own w0 (L.set i (boxA B (cs.setIfInBounds j v) T)) (w.setCell ⟨B, j, none⟩ v) := by
  obtain ⟨S, hp, hs, back⟩ := h.open i hi
  exact back _ _ ((Off.refl S w).setc B j v (.inl hp.2)) ⟨heap_setCell_same w B j _ _ v hp.1, .inl hp.2⟩
/-- A disk that a call only looks at. -/
theorem _root_.Go.Proofs.Ytoclgneokfbobaa.Mem.Own.look {P : Program} {fn : Nat} {args : Array Value} {w0 w : World} {L : List As} (h : Own w0 L w) (i : Nat) {F D : Nat} {s : Ds} (hi : L[i]? = some (dk F D s)) {R : Ending → World → Prop}
    (c : ∀ M1 M2 pv, Dk F D M1 M2 pv s w → Calls P fn args w fun e w' => R e w' ∧ Kept w w') : Calls P fn args w fun e w' => R e w' ∧ Own w0 L w' := by
  obtain ⟨S, ⟨M1, M2, pv, hd, _⟩, _⟩ := h.see i hi
  exact (c M1 M2 pv hd).mono fun e w' ⟨hr, hk⟩ => ⟨hr, h.later hk⟩
theorem o_fnew {w0 w : World} {L : List As} (h : Own w0 L w) : Calls Try.prog 21 #[] w fun e w' => ∃ F, e = .returned (.pointer (some ⟨F, 0, none⟩)) ∧ Own w0 (L ++ [fzA F .idle]) w' :=
  (Fz.new_c w).mono fun e w' ⟨he, hk, hf⟩ => ⟨_, he, h.push hk ⟨hf, trivial, .inr ⟨Nat.le_refl _, hf.lt⟩⟩⟩
theorem o_new {w0 w : World} {L : List As} (h : Own w0 L w) (i : Nat) {F : Nat} {st : St} (hi : L[i]? = some (fzA F st)) {n : Nat} (h1 : 1 ≤ n) (h2 : n ≤ 65536) :
    Calls Try.prog 24 #[.int .i64 (n : Int), .pointer (some ⟨F, 0, none⟩)] w fun e w' => ∃ D, e = .returned (.tuple #[.pointer (some ⟨D, 0, none⟩), .int .i64 0]) ∧ Own w0 (L.set i (dk F D (fresh n st))) w' :=
  (h.lift1 i hi fun S ⟨hf, ho, hF⟩ _ => new_c F st n h1 h2 S w hf ho hF).mono fun e w' ⟨he, hk⟩ => ⟨_, he, hk⟩
theorem o_read {w0 w : World} {L : List As} (h : Own w0 L w) (i : Nat) {F D : Nat} {s : Ds} (hi : L[i]? = some (dk F D s)) (k : Int) :
    Calls Try.prog 19 #[.pointer (some ⟨D, 0, none⟩), .int .i64 k] w fun e w' => e = .returned (.tuple #[.string (s.reads k).1, .int .i64 (s.reads k).2]) ∧ Own w0 L w' :=
  h.look i hi fun M1 M2 pv hd => read_c F D M1 M2 pv s k w hd
theorem o_durable {w0 w : World} {L : List As} (h : Own w0 L w) (i : Nat) {F D : Nat} {s : Ds} (hi : L[i]? = some (dk F D s)) (k : Int) :
    Calls Try.prog 18 #[.pointer (some ⟨D, 0, none⟩), .int .i64 k] w fun e w' => e = .returned (.string (s.durs k)) ∧ Own w0 L w' :=
  h.look i hi fun M1 M2 pv hd => durable_c F D M1 M2 pv s k w hd
theorem o_pending {w0 w : World} {L : List As} (h : Own w0 L w) (i : Nat) {F D : Nat} {s : Ds} (hi : L[i]? = some (dk F D s)) (hroom : s.pend.length < 4294967296) :
    Calls Try.prog 17 #[.pointer (some ⟨D, 0, none⟩)] w fun e w' => (∃ ao cap, e = .returned (.slice ao s.pend.length cap) ∧ Ints w.heap.size ao (s.pend.map (·.1)) w') ∧ Own w0 L w' :=
  h.look i hi fun M1 M2 pv hd => (pending_c F D M1 M2 pv s hroom w hd).mono fun e w' ⟨ao, cap, he, hk, hi⟩ => ⟨⟨ao, cap, he, hi⟩, hk⟩
theorem o_sectors {w0 w : World} {L : List As} (h : Own w0 L w) (i : Nat) {F D : Nat} {s : Ds} (hi : L[i]? = some (dk F D s)) :
    Calls Try.prog 28 #[.pointer (some ⟨D, 0, none⟩)] w fun e w' => e = .returned (.int .i64 (s.n : Int)) ∧ Own w0 L w' :=
  h.look i hi fun M1 M2 pv hd => (sectors_c F D M1 M2 pv s w hd).mono fun e w' ⟨he, hw⟩ => ⟨he, hw ▸ Kept.refl _⟩
theorem o_full {w0 w : World} {L : List As} (h : Own w0 L w) (i : Nat) {F D : Nat} {s : Ds} (hi : L[i]? = some (dk F D s)) :
    Calls Try.prog 27 #[.pointer (some ⟨D, 0, none⟩)] w fun e w' => e = .returned (.bool s.full) ∧ Own w0 L w' :=
  h.look i hi fun M1 M2 pv hd => (full_c F D M1 M2 pv s w hd).mono fun e w' ⟨he, hw⟩ => ⟨he, hw ▸ Kept.refl _⟩
theorem o_write {w0 w : World} {L : List As} (h : Own w0 L w) (i : Nat) {F D : Nat} {s : Ds} (hi : L[i]? = some (dk F D s)) (hroom : s.pend.length < 4294967296) (k : Int) (d : ByteArray) :
    Calls Try.prog 15 #[.pointer (some ⟨D, 0, none⟩), .int .i64 k, .string d] w fun e w' => e = .returned (.int .i64 (s.writes k d).1) ∧ Own w0 (L.set i (dk F D (s.writes k d).2)) w' :=
  h.lift1 i hi fun S ⟨M1, M2, pv, hd, hS⟩ _ => write_c F D M1 M2 pv s k d hroom S w hd hS
theorem o_sync {w0 w : World} {L : List As} (h : Own w0 L w) (i : Nat) {F D : Nat} {s : Ds} (hi : L[i]? = some (dk F D s)) :
    Calls Try.prog 23 #[.pointer (some ⟨D, 0, none⟩)] w fun e w' => e = .returned (.int .i64 s.syncs.1) ∧ Own w0 (L.set i (dk F D s.syncs.2)) w' :=
  h.lift1 i hi fun S ⟨M1, M2, pv, hd, hS⟩ _ => sync_c F D M1 M2 pv s S w hd hS
theorem o_crash {w0 w : World} {L : List As} (h : Own w0 L w) (i : Nat) {F D : Nat} {s : Ds} (hi : L[i]? = some (dk F D s)) {c : Ch} (hc : c.ok) :
    Calls Try.prog 22 #[.pointer (some ⟨D, 0, none⟩), .agg c.cells] w fun e w' => e = .returned (.tuple #[]) ∧ Own w0 (L.set i (dk F D (s.settled c.left))) w' :=
  h.lift1 i hi fun S ⟨M1, M2, pv, hd, hS⟩ _ => crash_c c hc F D M1 M2 pv s S w hd hS
theorem o_setfull {w0 w : World} {L : List As} (h : Own w0 L w) (i : Nat) {F D : Nat} {s : Ds} (hi : L[i]? = some (dk F D s)) (b : Bool) :
    Calls Try.prog 26 #[.pointer (some ⟨D, 0, none⟩), .bool b] w fun e w' => e = .returned (.tuple #[]) ∧ Own w0 (L.set i (dk F D { s with full := b })) w' :=
  h.lift1 i hi fun S ⟨M1, M2, pv, hd, h1, h2, h3, h4, h5⟩ _ => (setfull_c F D M1 M2 pv s b w hd).mono fun e w' ⟨he, hk, hd'⟩ => ⟨he, hk.off h2, M1, M2, pv, hd', .inl h1, .inl h2, .inl h3, .inl h4, fun g hg => .inl (h5 g hg)⟩
/-- A call of the disk's fuse. -/
theorem o_fuse {fn : Nat} {args : Array Value} {w0 w : World} {L : List As} (h : Own w0 L w) (i : Nat) {F D : Nat} {s : Ds} (hi : L[i]? = some (dk F D s)) {R : Ending → Prop} {f : St} (hf : f.ok)
    (c : Fz F s.fu w → s.fu.ok → Calls Try.prog fn args w fun e w' => R e ∧ But F w w' ∧ Fz F f w') : Calls Try.prog fn args w fun e w' => R e ∧ Own w0 (L.set i (dk F D { s with fu := f })) w' :=
  h.lift1 i hi fun S ⟨M1, M2, pv, hd, h1, h2, h3, h4, h5⟩ _ => (c hd.fz hd.ok.fu).mono fun e w' ⟨he, hk, hf'⟩ => ⟨he, hk.off h1, M1, M2, pv, hd.burnt hk hf' hf, .inl h1, .inl h2, .inl h3, .inl h4, fun g hg => .inl (h5 g hg)⟩
/-- A copy, whose operations burn the fuse at j. -/
theorem o_copy {w0 w : World} {L : List As} (h : Own w0 L w) (i j : Nat) {F D : Nat} {s : Ds} (hi : L[i]? = some (dk F D s)) {F2 : Nat} {st : St} (hj : L[j]? = some (fzA F2 st)) (hroom : s.pend.length < 4294967296) :
    Calls Try.prog 20 #[.pointer (some ⟨D, 0, none⟩), .pointer (some ⟨F2, 0, none⟩)] w fun e w' => ∃ E, e = .returned (.pointer (some ⟨E, 0, none⟩)) ∧ Own w0 (L.set j (dk F2 E { s with fu := st })) w' := by
  obtain ⟨S, ⟨M1, M2, pv, hd, _⟩, _⟩ := h.see i hi
  obtain ⟨T, ⟨hf, hst, hF⟩, ht, back⟩ := h.open j hj
  refine (copy_c F D M1 M2 pv s F2 st hst hroom w hd hf).mono fun e w' ⟨he, hk, N1, N2, qv, hd', g1, g2, g3⟩ => ⟨_, he, back _ _ (hk.off T) ⟨N1, N2, qv, hd', .inl hF, .inr ⟨Nat.le_refl _, hd'.lts.2.1⟩, .inr ⟨g1, hd'.lts.2.2.1⟩, .inr ⟨g2, hd'.lts.2.2.2.1⟩, fun g hg => .inr ⟨g3 g hg, hd'.lts.2.2.2.2 g hg⟩⟩⟩
/-! An idle fuse. -/
theorem Ds.idle_burnt {s : Ds} (h : s.fu = .idle) : s.burnt = s := by cases s; simp only at h; subst h; rfl
theorem Ds.writes_idle {s : Ds} (h : s.fu = .idle) {i : Nat} (hi : i < s.n) {d : ByteArray} (hd : d.size = 80) : s.writes (i : Int) d = (0, s.wrote i d) := by
  have e : s.fu.says = 0 := by rw [h]; rfl
  simp [Ds.writes, Ds.out_in hi, hd, e, Ds.idle_burnt h]
theorem Ds.syncs_idle {s : Ds} (h : s.fu = .idle) : s.syncs = (0, s.settled fun _ => 80) := by
  have e : s.fu.says = 0 := by rw [h]; rfl
  simp [Ds.syncs, e, Ds.idle_burnt h]
theorem Ds.reads_idle {s : Ds} (h : s.fu = .idle) {i : Nat} (hi : i < s.n) : s.reads (i : Int) = (s.look i, 0) := by
  have e : s.fu.dead = false := by rw [h]; rfl
  simp [Ds.reads, Ds.out_in hi, e]
theorem Ds.durs_in {s : Ds} {i : Nat} (hi : i < s.n) : s.durs (i : Int) = s.dur i := by simp [Ds.durs, Ds.out_in hi]
theorem o_w0 {w0 w : World} {L : List As} {F D : Nat} {s : Ds} (h : Own w0 (dk F D s :: L) w) (hf : s.fu = .idle) (hroom : s.pend.length < 4294967296) {k : Nat} (hk : k < s.n) {d : ByteArray} (hd : d.size = 80) :
    Calls Try.prog 15 #[.pointer (some ⟨D, 0, none⟩), .int .i64 (k : Int), .string d] w fun e w' => e = .returned (.int .i64 0) ∧ Own w0 (dk F D (s.wrote k d) :: L) w' := by
  have q := o_write h 0 rfl hroom (k : Int) d
  rw [Ds.writes_idle hf hk hd] at q
  exact q
theorem o_w1 {w0 w : World} {a : As} {L : List As} {F D : Nat} {s : Ds} (h : Own w0 (a :: dk F D s :: L) w) (hf : s.fu = .idle) (hroom : s.pend.length < 4294967296) {k : Nat} (hk : k < s.n) {d : ByteArray} (hd : d.size = 80) :
    Calls Try.prog 15 #[.pointer (some ⟨D, 0, none⟩), .int .i64 (k : Int), .string d] w fun e w' => e = .returned (.int .i64 0) ∧ Own w0 (a :: dk F D (s.wrote k d) :: L) w' := by
  have q := o_write h 1 rfl hroom (k : Int) d
  rw [Ds.writes_idle hf hk hd] at q
  exact q
theorem o_w2 {w0 w : World} {a b : As} {L : List As} {F D : Nat} {s : Ds} (h : Own w0 (a :: b :: dk F D s :: L) w) (hf : s.fu = .idle) (hroom : s.pend.length < 4294967296) {k : Nat} (hk : k < s.n) {d : ByteArray} (hd : d.size = 80) :
    Calls Try.prog 15 #[.pointer (some ⟨D, 0, none⟩), .int .i64 (k : Int), .string d] w fun e w' => e = .returned (.int .i64 0) ∧ Own w0 (a :: b :: dk F D (s.wrote k d) :: L) w' := by
  have q := o_write h 2 rfl hroom (k : Int) d
  rw [Ds.writes_idle hf hk hd] at q
  exact q
theorem o_w3 {w0 w : World} {a b c : As} {L : List As} {F D : Nat} {s : Ds} (h : Own w0 (a :: b :: c :: dk F D s :: L) w) (hf : s.fu = .idle) (hroom : s.pend.length < 4294967296) {k : Nat} (hk : k < s.n) {d : ByteArray} (hd : d.size = 80) :
    Calls Try.prog 15 #[.pointer (some ⟨D, 0, none⟩), .int .i64 (k : Int), .string d] w fun e w' => e = .returned (.int .i64 0) ∧ Own w0 (a :: b :: c :: dk F D (s.wrote k d) :: L) w' := by
  have q := o_write h 3 rfl hroom (k : Int) d
  rw [Ds.writes_idle hf hk hd] at q
  exact q
theorem o_w4 {w0 w : World} {a b c d0 : As} {L : List As} {F D : Nat} {s : Ds} (h : Own w0 (a :: b :: c :: d0 :: dk F D s :: L) w) (hf : s.fu = .idle) (hroom : s.pend.length < 4294967296) {k : Nat} (hk : k < s.n) {d : ByteArray} (hd : d.size = 80) :
    Calls Try.prog 15 #[.pointer (some ⟨D, 0, none⟩), .int .i64 (k : Int), .string d] w fun e w' => e = .returned (.int .i64 0) ∧ Own w0 (a :: b :: c :: d0 :: dk F D (s.wrote k d) :: L) w' := by
  have q := o_write h 4 rfl hroom (k : Int) d
  rw [Ds.writes_idle hf hk hd] at q
  exact q
theorem o_w5 {w0 w : World} {a b c d0 e0 : As} {L : List As} {F D : Nat} {s : Ds} (h : Own w0 (a :: b :: c :: d0 :: e0 :: dk F D s :: L) w) (hf : s.fu = .idle) (hroom : s.pend.length < 4294967296) {k : Nat} (hk : k < s.n) {d : ByteArray} (hd : d.size = 80) :
    Calls Try.prog 15 #[.pointer (some ⟨D, 0, none⟩), .int .i64 (k : Int), .string d] w fun e w' => e = .returned (.int .i64 0) ∧ Own w0 (a :: b :: c :: d0 :: e0 :: dk F D (s.wrote k d) :: L) w' := by
  have q := o_write h 5 rfl hroom (k : Int) d
  rw [Ds.writes_idle hf hk hd] at q
  exact q
theorem o_s0 {w0 w : World} {L : List As} {F D : Nat} {s : Ds} (h : Own w0 (dk F D s :: L) w) (hf : s.fu = .idle) :
    Calls Try.prog 23 #[.pointer (some ⟨D, 0, none⟩)] w fun e w' => e = .returned (.int .i64 0) ∧ Own w0 (dk F D (s.settled fun _ => 80) :: L) w' := by
  have q := o_sync h 0 rfl
  rw [Ds.syncs_idle hf] at q
  exact q
theorem o_s1 {w0 w : World} {a : As} {L : List As} {F D : Nat} {s : Ds} (h : Own w0 (a :: dk F D s :: L) w) (hf : s.fu = .idle) :
    Calls Try.prog 23 #[.pointer (some ⟨D, 0, none⟩)] w fun e w' => e = .returned (.int .i64 0) ∧ Own w0 (a :: dk F D (s.settled fun _ => 80) :: L) w' := by
  have q := o_sync h 1 rfl
  rw [Ds.syncs_idle hf] at q
  exact q
theorem o_s2 {w0 w : World} {a b : As} {L : List As} {F D : Nat} {s : Ds} (h : Own w0 (a :: b :: dk F D s :: L) w) (hf : s.fu = .idle) :
    Calls Try.prog 23 #[.pointer (some ⟨D, 0, none⟩)] w fun e w' => e = .returned (.int .i64 0) ∧ Own w0 (a :: b :: dk F D (s.settled fun _ => 80) :: L) w' := by
  have q := o_sync h 2 rfl
  rw [Ds.syncs_idle hf] at q
  exact q
theorem o_s3 {w0 w : World} {a b c : As} {L : List As} {F D : Nat} {s : Ds} (h : Own w0 (a :: b :: c :: dk F D s :: L) w) (hf : s.fu = .idle) :
    Calls Try.prog 23 #[.pointer (some ⟨D, 0, none⟩)] w fun e w' => e = .returned (.int .i64 0) ∧ Own w0 (a :: b :: c :: dk F D (s.settled fun _ => 80) :: L) w' := by
  have q := o_sync h 3 rfl
  rw [Ds.syncs_idle hf] at q
  exact q
theorem o_s4 {w0 w : World} {a b c d0 : As} {L : List As} {F D : Nat} {s : Ds} (h : Own w0 (a :: b :: c :: d0 :: dk F D s :: L) w) (hf : s.fu = .idle) :
    Calls Try.prog 23 #[.pointer (some ⟨D, 0, none⟩)] w fun e w' => e = .returned (.int .i64 0) ∧ Own w0 (a :: b :: c :: d0 :: dk F D (s.settled fun _ => 80) :: L) w' := by
  have q := o_sync h 4 rfl
  rw [Ds.syncs_idle hf] at q
  exact q
theorem o_s5 {w0 w : World} {a b c d0 e0 : As} {L : List As} {F D : Nat} {s : Ds} (h : Own w0 (a :: b :: c :: d0 :: e0 :: dk F D s :: L) w) (hf : s.fu = .idle) :
    Calls Try.prog 23 #[.pointer (some ⟨D, 0, none⟩)] w fun e w' => e = .returned (.int .i64 0) ∧ Own w0 (a :: b :: c :: d0 :: e0 :: dk F D (s.settled fun _ => 80) :: L) w' := by
  have q := o_sync h 5 rfl
  rw [Ds.syncs_idle hf] at q
  exact q
theorem o_c0 {w0 w : World} {L : List As} {F D : Nat} {s : Ds} (h : Own w0 (dk F D s :: L) w) {c1 : Ch} (hc : c1.ok) :
    Calls Try.prog 22 #[.pointer (some ⟨D, 0, none⟩), .agg c1.cells] w fun e w' => e = .returned (.tuple #[]) ∧ Own w0 (dk F D (s.settled c1.left) :: L) w' := o_crash h 0 rfl hc
theorem o_c1 {w0 w : World} {a : As} {L : List As} {F D : Nat} {s : Ds} (h : Own w0 (a :: dk F D s :: L) w) {c1 : Ch} (hc : c1.ok) :
    Calls Try.prog 22 #[.pointer (some ⟨D, 0, none⟩), .agg c1.cells] w fun e w' => e = .returned (.tuple #[]) ∧ Own w0 (a :: dk F D (s.settled c1.left) :: L) w' := o_crash h 1 rfl hc
theorem o_c2 {w0 w : World} {a b : As} {L : List As} {F D : Nat} {s : Ds} (h : Own w0 (a :: b :: dk F D s :: L) w) {c1 : Ch} (hc : c1.ok) :
    Calls Try.prog 22 #[.pointer (some ⟨D, 0, none⟩), .agg c1.cells] w fun e w' => e = .returned (.tuple #[]) ∧ Own w0 (a :: b :: dk F D (s.settled c1.left) :: L) w' := o_crash h 2 rfl hc
theorem o_c3 {w0 w : World} {a b c : As} {L : List As} {F D : Nat} {s : Ds} (h : Own w0 (a :: b :: c :: dk F D s :: L) w) {c1 : Ch} (hc : c1.ok) :
    Calls Try.prog 22 #[.pointer (some ⟨D, 0, none⟩), .agg c1.cells] w fun e w' => e = .returned (.tuple #[]) ∧ Own w0 (a :: b :: c :: dk F D (s.settled c1.left) :: L) w' := o_crash h 3 rfl hc
theorem o_c4 {w0 w : World} {a b c d0 : As} {L : List As} {F D : Nat} {s : Ds} (h : Own w0 (a :: b :: c :: d0 :: dk F D s :: L) w) {c1 : Ch} (hc : c1.ok) :
    Calls Try.prog 22 #[.pointer (some ⟨D, 0, none⟩), .agg c1.cells] w fun e w' => e = .returned (.tuple #[]) ∧ Own w0 (a :: b :: c :: d0 :: dk F D (s.settled c1.left) :: L) w' := o_crash h 4 rfl hc
theorem o_c5 {w0 w : World} {a b c d0 e0 : As} {L : List As} {F D : Nat} {s : Ds} (h : Own w0 (a :: b :: c :: d0 :: e0 :: dk F D s :: L) w) {c1 : Ch} (hc : c1.ok) :
    Calls Try.prog 22 #[.pointer (some ⟨D, 0, none⟩), .agg c1.cells] w fun e w' => e = .returned (.tuple #[]) ∧ Own w0 (a :: b :: c :: d0 :: e0 :: dk F D (s.settled c1.left) :: L) w' := o_crash h 5 rfl hc
theorem o_r0 {w0 w : World} {L : List As} {F D : Nat} {s : Ds} (h : Own w0 (dk F D s :: L) w) (hf : s.fu = .idle) {k : Nat} (hk : k < s.n) :
    Calls Try.prog 19 #[.pointer (some ⟨D, 0, none⟩), .int .i64 (k : Int)] w fun e w' => e = .returned (.tuple #[.string (s.look k), .int .i64 0]) ∧ Own w0 (dk F D s :: L) w' := by
  have q := o_read h 0 rfl (k : Int)
  rw [Ds.reads_idle hf hk] at q
  exact q
theorem o_r1 {w0 w : World} {a : As} {L : List As} {F D : Nat} {s : Ds} (h : Own w0 (a :: dk F D s :: L) w) (hf : s.fu = .idle) {k : Nat} (hk : k < s.n) :
    Calls Try.prog 19 #[.pointer (some ⟨D, 0, none⟩), .int .i64 (k : Int)] w fun e w' => e = .returned (.tuple #[.string (s.look k), .int .i64 0]) ∧ Own w0 (a :: dk F D s :: L) w' := by
  have q := o_read h 1 rfl (k : Int)
  rw [Ds.reads_idle hf hk] at q
  exact q
theorem o_r2 {w0 w : World} {a b : As} {L : List As} {F D : Nat} {s : Ds} (h : Own w0 (a :: b :: dk F D s :: L) w) (hf : s.fu = .idle) {k : Nat} (hk : k < s.n) :
    Calls Try.prog 19 #[.pointer (some ⟨D, 0, none⟩), .int .i64 (k : Int)] w fun e w' => e = .returned (.tuple #[.string (s.look k), .int .i64 0]) ∧ Own w0 (a :: b :: dk F D s :: L) w' := by
  have q := o_read h 2 rfl (k : Int)
  rw [Ds.reads_idle hf hk] at q
  exact q
theorem o_r3 {w0 w : World} {a b c : As} {L : List As} {F D : Nat} {s : Ds} (h : Own w0 (a :: b :: c :: dk F D s :: L) w) (hf : s.fu = .idle) {k : Nat} (hk : k < s.n) :
    Calls Try.prog 19 #[.pointer (some ⟨D, 0, none⟩), .int .i64 (k : Int)] w fun e w' => e = .returned (.tuple #[.string (s.look k), .int .i64 0]) ∧ Own w0 (a :: b :: c :: dk F D s :: L) w' := by
  have q := o_read h 3 rfl (k : Int)
  rw [Ds.reads_idle hf hk] at q
  exact q
theorem o_r4 {w0 w : World} {a b c d0 : As} {L : List As} {F D : Nat} {s : Ds} (h : Own w0 (a :: b :: c :: d0 :: dk F D s :: L) w) (hf : s.fu = .idle) {k : Nat} (hk : k < s.n) :
    Calls Try.prog 19 #[.pointer (some ⟨D, 0, none⟩), .int .i64 (k : Int)] w fun e w' => e = .returned (.tuple #[.string (s.look k), .int .i64 0]) ∧ Own w0 (a :: b :: c :: d0 :: dk F D s :: L) w' := by
  have q := o_read h 4 rfl (k : Int)
  rw [Ds.reads_idle hf hk] at q
  exact q
theorem o_r5 {w0 w : World} {a b c d0 e0 : As} {L : List As} {F D : Nat} {s : Ds} (h : Own w0 (a :: b :: c :: d0 :: e0 :: dk F D s :: L) w) (hf : s.fu = .idle) {k : Nat} (hk : k < s.n) :
    Calls Try.prog 19 #[.pointer (some ⟨D, 0, none⟩), .int .i64 (k : Int)] w fun e w' => e = .returned (.tuple #[.string (s.look k), .int .i64 0]) ∧ Own w0 (a :: b :: c :: d0 :: e0 :: dk F D s :: L) w' := by
  have q := o_read h 5 rfl (k : Int)
  rw [Ds.reads_idle hf hk] at q
  exact q
theorem o_d0 {w0 w : World} {L : List As} {F D : Nat} {s : Ds} (h : Own w0 (dk F D s :: L) w) {k : Nat} (hk : k < s.n) :
    Calls Try.prog 18 #[.pointer (some ⟨D, 0, none⟩), .int .i64 (k : Int)] w fun e w' => e = .returned (.string (s.dur k)) ∧ Own w0 (dk F D s :: L) w' := by
  have q := o_durable h 0 rfl (k : Int)
  rw [Ds.durs_in hk] at q
  exact q
theorem o_d1 {w0 w : World} {a : As} {L : List As} {F D : Nat} {s : Ds} (h : Own w0 (a :: dk F D s :: L) w) {k : Nat} (hk : k < s.n) :
    Calls Try.prog 18 #[.pointer (some ⟨D, 0, none⟩), .int .i64 (k : Int)] w fun e w' => e = .returned (.string (s.dur k)) ∧ Own w0 (a :: dk F D s :: L) w' := by
  have q := o_durable h 1 rfl (k : Int)
  rw [Ds.durs_in hk] at q
  exact q
theorem o_d2 {w0 w : World} {a b : As} {L : List As} {F D : Nat} {s : Ds} (h : Own w0 (a :: b :: dk F D s :: L) w) {k : Nat} (hk : k < s.n) :
    Calls Try.prog 18 #[.pointer (some ⟨D, 0, none⟩), .int .i64 (k : Int)] w fun e w' => e = .returned (.string (s.dur k)) ∧ Own w0 (a :: b :: dk F D s :: L) w' := by
  have q := o_durable h 2 rfl (k : Int)
  rw [Ds.durs_in hk] at q
  exact q
theorem o_d3 {w0 w : World} {a b c : As} {L : List As} {F D : Nat} {s : Ds} (h : Own w0 (a :: b :: c :: dk F D s :: L) w) {k : Nat} (hk : k < s.n) :
    Calls Try.prog 18 #[.pointer (some ⟨D, 0, none⟩), .int .i64 (k : Int)] w fun e w' => e = .returned (.string (s.dur k)) ∧ Own w0 (a :: b :: c :: dk F D s :: L) w' := by
  have q := o_durable h 3 rfl (k : Int)
  rw [Ds.durs_in hk] at q
  exact q
theorem o_d4 {w0 w : World} {a b c d0 : As} {L : List As} {F D : Nat} {s : Ds} (h : Own w0 (a :: b :: c :: d0 :: dk F D s :: L) w) {k : Nat} (hk : k < s.n) :
    Calls Try.prog 18 #[.pointer (some ⟨D, 0, none⟩), .int .i64 (k : Int)] w fun e w' => e = .returned (.string (s.dur k)) ∧ Own w0 (a :: b :: c :: d0 :: dk F D s :: L) w' := by
  have q := o_durable h 4 rfl (k : Int)
  rw [Ds.durs_in hk] at q
  exact q
theorem o_d5 {w0 w : World} {a b c d0 e0 : As} {L : List As} {F D : Nat} {s : Ds} (h : Own w0 (a :: b :: c :: d0 :: e0 :: dk F D s :: L) w) {k : Nat} (hk : k < s.n) :
    Calls Try.prog 18 #[.pointer (some ⟨D, 0, none⟩), .int .i64 (k : Int)] w fun e w' => e = .returned (.string (s.dur k)) ∧ Own w0 (a :: b :: c :: d0 :: e0 :: dk F D s :: L) w' := by
  have q := o_durable h 5 rfl (k : Int)
  rw [Ds.durs_in hk] at q
  exact q
end Go.Proofs.Ytoclgneokfbobaa.Dz
