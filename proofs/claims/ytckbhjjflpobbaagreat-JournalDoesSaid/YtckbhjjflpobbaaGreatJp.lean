/-
  The journal's disk: what Open finds, and what becomes of it when a call, whole or cut, writes to it (plain mathematics).
-/
import Derived.Test.YtckbhjjflpobbaaGreatJs
namespace Go.Proofs.YtckbhjjflpobbaaGreat.Jk
open Go Go.Proofs.YtckbhjjflpobbaaGreat.Pk Go.Proofs.YtckbhjjflpobbaaGreat.Fk Go.Proofs.YtckbhjjflpobbaaGreat.Dz Go.Proofs.YtckbhjjflpobbaaGreat.Rc
open Go.Proofs.YtckbhjjflpobbaaGreat.Hk (Hd Two)

/-! ### records one after another -/
def want (m : Nat) : Nat := if 0 < m then 1 else 2
def chain (S : Nat → ByteArray) (u : Nat) : Nat → Int → Int → Nat → List Fr → Prop
  | _, _, _, _, [] => True
  | t, n, boot, m, r :: L => rdOk S t u n boot r ∧ r.kind = want m ∧ chain S u (t + parts r.data.size) (n + 1) r.boot (m - 1) L
def total : List Fr → Nat
  | [] => 0
  | r :: L => parts r.data.size + total L
def bEnd (boot : Int) : List Fr → Int
  | [] => boot
  | r :: L => bEnd r.boot L
def stops (S : Nat → ByteArray) (u t : Nat) (n boot : Int) (m : Nat) : Prop := ∀ r, rdOk S t u n boot r → r.kind ≠ want m
structure Found (S : Nat → ByteArray) (u t : Nat) (n boot : Int) (m : Nat) (L : List Fr) : Prop where
  chain : chain S u t n boot m L
  stop : stops S u (t + total L) (n + L.length) (bEnd boot L) (m - L.length)
theorem total_app (L M : List Fr) : total (L ++ M) = total L + total M := by
  induction L with
  | nil => simp [total]
  | cons r L ih => simp only [List.cons_append, total, ih]; omega
theorem bEnd_app (L M : List Fr) : ∀ boot, bEnd boot (L ++ M) = bEnd (bEnd boot L) M := by
  induction L with
  | nil => intro boot; rfl
  | cons r L ih => intro boot; exact ih _
theorem chain_app {S : Nat → ByteArray} {u : Nat} : ∀ {L M : List Fr} {t : Nat} {n boot : Int} {m : Nat}, chain S u t n boot m (L ++ M) ↔ chain S u t n boot m L ∧ chain S u (t + total L) (n + L.length) (bEnd boot L) (m - L.length) M
  | [], M, t, n, boot, m => by simp [chain, total, bEnd]
  | r :: L, M, t, n, boot, m => by
    show (_ ∧ _ ∧ chain S u _ _ _ _ (L ++ M)) ↔ (_ ∧ _ ∧ chain S u _ _ _ _ L) ∧ _
    rw [chain_app (L := L)]
    have e1 : t + parts r.data.size + total L = t + total (r :: L) := by show _ = t + (_ + _); omega
    have e2 : n + 1 + (L.length : Int) = n + ((r :: L).length : Int) := by rw [List.length_cons]; omega
    have e3 : m - 1 - L.length = m - (r :: L).length := by rw [List.length_cons]; omega
    rw [e1, e2, e3]
    show _ ↔ _ ∧ chain S u _ _ (bEnd r.boot L) _ M
    constructor
    · rintro ⟨a, b, c, d⟩; exact ⟨⟨a, b, c⟩, d⟩
    · rintro ⟨⟨a, b, c⟩, d⟩; exact ⟨a, b, c, d⟩
theorem rdOk_same {S T : Nat → ByteArray} {t u : Nat} {lsn boot : Int} {r : Fr} (h : ∀ i, i < parts r.data.size → S (t + i) = T (t + i)) (hr : rdOk S t u lsn boot r) : rdOk T t u lsn boot r := by
  obtain ⟨hb, h1, h2, h3⟩ := hr
  exact ⟨⟨hb.num, hb.kind, hb.size, hb.part, hb.parts, fun i hi => by rw [← h i hi]; exact hb.all i hi⟩, h1, h2, h3⟩
theorem chain_same {S T : Nat → ByteArray} {u : Nat} : ∀ {L : List Fr} {t : Nat} {n boot : Int} {m : Nat}, (∀ i, t ≤ i → i < t + total L → S i = T i) → chain S u t n boot m L → chain T u t n boot m L
  | [], _, _, _, _, _, _ => trivial
  | r :: L, t, n, boot, m, h, hc => by
    obtain ⟨a, b, c⟩ := hc
    have e : t + total (r :: L) = t + parts r.data.size + total L := by show t + (_ + _) = _; omega
    exact ⟨rdOk_same (fun i hi => h _ (by omega) (by omega)) a, b, chain_same (fun i h1 h2 => h i (by omega) (by omega)) c⟩
theorem chain_le {S : Nat → ByteArray} {u : Nat} : ∀ {L : List Fr} {t : Nat} {n boot : Int} {m : Nat}, t ≤ u → chain S u t n boot m L → t + total L ≤ u
  | [], _, _, _, _, h, _ => h
  | r :: L, t, n, boot, m, _, hc => by
    obtain ⟨a, _, c⟩ := hc
    have := chain_le (L := L) a.2.2.2 c
    show t + (_ + _) ≤ u
    omega
/-- The boots of records, each of them decoded with a boot of at most b. -/
theorem chain_boot {S : Nat → ByteArray} {u : Nat} {b : Int} : ∀ {L : List Fr} {t : Nat} {n boot : Int} {m : Nat}, (∀ i, t ≤ i → i < u → ∀ f, dec (S i) = some f → f.boot ≤ b) → boot ≤ b → chain S u t n boot m L → bEnd boot L ≤ b
  | [], _, _, _, _, _, h, _ => h
  | r :: L, t, n, boot, m, hd, _, hc => by
    obtain ⟨a, _, c⟩ := hc
    have hp := parts_pos r.data.size
    have f := rd_blank a hp
    have hb := hd (t + 0) (by omega) (by have := a.2.2.2; omega) _ f
    exact chain_boot (L := L) (fun i h1 h2 => hd i (by omega) h2) hb c
theorem found_unique {S : Nat → ByteArray} {u : Nat} : ∀ {L M : List Fr} {t : Nat} {n boot : Int} {m : Nat}, Found S u t n boot m L → Found S u t n boot m M → L = M
  | [], [], _, _, _, _, _, _ => rfl
  | [], r :: M, t, n, boot, m, h, g => by
    obtain ⟨a, b, _⟩ := g.chain
    exact absurd b (h.stop r (by simpa [total, bEnd] using a))
  | r :: L, [], t, n, boot, m, h, g => by
    obtain ⟨a, b, _⟩ := h.chain
    exact absurd b (g.stop r (by simpa [total, bEnd] using a))
  | r :: L, q :: M, t, n, boot, m, h, g => by
    obtain ⟨a, b, c⟩ := h.chain
    obtain ⟨a', b', c'⟩ := g.chain
    obtain rfl : r = q := a.1.unique a'.1
    have tail : ∀ {X : List Fr}, Found S u t n boot m (r :: X) → chain S u (t + parts r.data.size) (n + 1) r.boot (m - 1) X → Found S u (t + parts r.data.size) (n + 1) r.boot (m - 1) X := fun {X} f x => ⟨x, by
      have := f.stop
      have e1 : t + total (r :: X) = t + parts r.data.size + total X := by show t + (_ + _) = _; omega
      have e2 : n + ((r :: X).length : Int) = n + 1 + (X.length : Int) := by rw [List.length_cons]; omega
      have e3 : m - (r :: X).length = m - 1 - X.length := by rw [List.length_cons]; omega
      rw [e1, e2, e3] at this
      exact this⟩
    rw [found_unique (tail h c) (tail g c')]

/-! ### the journal -/
def beg (area : Nat) (a : Int) : Nat := 2 + area * a.toNat
def lsnOf (h : Hd) (L : List Fr) : Int := h.first - 1 + L.length
def has (area i : Nat) : Prop := 2 ≤ i ∧ i < 2 + 2 * area
/-- What lies on the disk, when nothing is pending: the newest header is h, the records are L. -/
structure Jv (area : Nat) (S : Nat → ByteArray) (h : Hd) (L : List Fr) : Prop where
  two : Two S h
  low : ∀ i, has area i → Low (h.boot.toNat + 1) (S i)
  found : Found S (beg area h.area + area) (beg area h.area) h.first 1 h.snaps.toNat L
  snap : h.snaps.toNat ≤ L.length
  other : ∀ r, rdOk S (beg area (1 - h.area)) (beg area (1 - h.area) + area) (lsnOf h L + 1) 1 r → r.kind ≠ 2
  next : ∀ i, has area i → ∀ f, dec (S i) = some f → f.kind = 2 → f.lsn ≤ lsnOf h L + 1
/-- The same while a journal with the boot of h is open. -/
structure Jo (area : Nat) (S : Nat → ByteArray) (h : Hd) (L : List Fr) : Prop where
  jv : Jv area S h L
  was : ∀ i, has area i → Was h.boot.toNat (lsnOf h L) (S i)
theorem half_has {area : Nat} {a : Int} (h0 : 0 ≤ a) (h1 : a ≤ 1) {i : Nat} (hi : beg area a ≤ i) (hi2 : i < beg area a + area) : has area i := by
  unfold beg at hi hi2
  rcases (by omega : a = 0 ∨ a = 1) with rfl | rfl
  · have : (0 : Int).toNat = 0 := rfl
    rw [this, Nat.mul_zero] at hi hi2
    exact ⟨by omega, by omega⟩
  · have : (1 : Int).toNat = 1 := rfl
    rw [this, Nat.mul_one] at hi hi2
    exact ⟨by omega, by omega⟩
theorem halves {area : Nat} {a : Int} (h0 : 0 ≤ a) (h1 : a ≤ 1) {i : Nat} (hi : beg area a ≤ i) (hi2 : i < beg area a + area) : ¬ (beg area (1 - a) ≤ i ∧ i < beg area (1 - a) + area) := by
  unfold beg at *
  rcases (by omega : a = 0 ∨ a = 1) with rfl | rfl
  · have e : (0 : Int).toNat = 0 := rfl
    have e' : (1 - 0 : Int).toNat = 1 := rfl
    rw [e, Nat.mul_zero] at hi hi2
    rw [e', Nat.mul_one]; omega
  · have e : (1 : Int).toNat = 1 := rfl
    have e' : (1 - 1 : Int).toNat = 0 := rfl
    rw [e, Nat.mul_one] at hi hi2
    rw [e', Nat.mul_zero]; omega
theorem two_same {S T : Nat → ByteArray} {h : Hd} (t : Two S h) (e : ∀ i, i < 2 → T i = S i) : Two T h := by
  obtain ⟨l, el, hl⟩ := t.other
  exact ⟨t.good, t.next, by rw [e _ (Nat.mod_lt _ (by decide))]; exact t.here, l, by rw [e _ (Nat.mod_lt _ (by decide))]; exact el, hl⟩
/-- Another header in the slots, of the same place and numbers. -/
theorem Jv.heads {area : Nat} {S T : Nat → ByteArray} {h c : Hd} {L : List Fr} (j : Jv area S h L) (e : ∀ i, has area i → T i = S i) (t : Two T c) (hb : h.boot ≤ c.boot) (ha : c.area = h.area) (hf : c.first = h.first) (hs : c.snaps = h.snaps) : Jv area T c L := by
  have a1 := j.two.good.a1; have a2 := j.two.good.a2
  have b1 := j.two.good.b1
  have el : lsnOf c L = lsnOf h L := by unfold lsnOf; rw [hf]
  have hl := chain_le (Nat.le_add_right _ _) j.found.chain
  refine ⟨t, fun i hi => by rw [e i hi]; exact (j.low i hi).mono (by omega), ?_, by rw [hs]; exact j.snap, ?_, ?_⟩
  · rw [ha, hf, hs]
    refine ⟨chain_same (fun i h1 h2 => (e i (half_has a1 a2 h1 (by omega))).symm) j.found.chain, fun r hr => j.found.stop r ?_⟩
    have := hr.2.2.2
    exact rdOk_same (fun i hi => e _ (half_has a1 a2 (by omega) (by omega))) hr
  · rw [ha, el]
    intro r hr
    have := hr.2.2.2
    exact j.other r (rdOk_same (fun i hi => e _ (half_has (by omega) (by omega) (Nat.le_add_right _ _) (by omega))) hr)
  · rw [el]
    intro i hi f hf
    rw [e i hi] at hf
    exact j.next i hi f hf
/-- Opened: the header with the next Seq and the next boot is saved. -/
theorem Jv.opened {area : Nat} {S T : Nat → ByteArray} {h c : Hd} {L : List Fr} (j : Jv area S h L) (e : ∀ i, has area i → T i = S i) (t : Two T c) (hb : c.boot = h.boot + 1) (ha : c.area = h.area) (hf : c.first = h.first) (hs : c.snaps = h.snaps) : Jo area T c L := by
  have b1 := j.two.good.b1
  refine ⟨j.heads e t (by omega) ha hf hs, fun i hi => .inl ?_⟩
  rw [e i hi]
  have := j.low i hi
  rwa [show c.boot.toNat = h.boot.toNat + 1 by omega]
theorem Jv.boots {area : Nat} {S : Nat → ByteArray} {h : Hd} {L : List Fr} (j : Jv area S h L) : bEnd 1 L ≤ h.boot := by
  have a1 := j.two.good.a1; have a2 := j.two.good.a2; have b1 := j.two.good.b1
  refine chain_boot (fun i h1 h2 f hf => ?_) b1 j.found.chain
  have := low_dec (j.low i (half_has a1 a2 h1 h2)) hf
  omega
def recd (b n : Int) (k : Nat) (d : ByteArray) : Fr := ⟨b, n, 0, parts d.size, k, d⟩
/-- Sectors from t on are overwritten by those of frames W, whole or torn, or not at all. -/
structure Over (area : Nat) (S T : Nat → ByteArray) (t : Nat) (W : List Fr) (b : Nat) : Prop where
  slots : ∀ i, i < 2 → T i = S i
  here : ∀ i (hi : i < W.length), Left (str W[i].sec) (S (t + i)) (T (t + i))
  away : ∀ i, has area i → ¬ (t ≤ i ∧ i < t + W.length) → T i = S i
  low : ∀ i, has area i → Low (b + 1) (T i)
theorem Over.cases {area : Nat} {S T : Nat → ByteArray} {t : Nat} {W : List Fr} {b : Nat} (o : Over area S T t W b) {i : Nat} (hi : has area i) {f : Fr} (hf : dec (T i) = some f) : T i = S i ∨ ∃ k, ∃ hk : k < W.length, i = t + k ∧ T i = str W[k].sec := by
  by_cases h : t ≤ i ∧ i < t + W.length
  · obtain ⟨k, rfl⟩ : ∃ k, i = t + k := ⟨i - t, by omega⟩
    have hk : k < W.length := by omega
    rcases o.here k hk with e | e | e
    · exact .inl e
    · exact .inr ⟨k, hk, rfl, e⟩
    · rw [e] at hf; cases hf
  · exact .inl (o.away i hi h)
def frames (b n : Int) (k : Nat) (d : ByteArray) : List Fr := (List.range (parts d.size)).map (fr b n k d)
theorem frames_len (b n : Int) (k : Nat) (d : ByteArray) : (frames b n k d).length = parts d.size := by unfold frames; simp
theorem frames_get {b n : Int} {k : Nat} {d : ByteArray} {i : Nat} (hi : i < (frames b n k d).length) : (frames b n k d)[i] = fr b n k d i := by simp [frames]
/-- P8.5 for Append: cut, the record is there or not, and nothing else has changed. -/
theorem Jo.append {area : Nat} {S T : Nat → ByteArray} {h : Hd} {L : List Fr} (j : Jo area S h L) {d : ByteArray} (hd : d.size ≤ 4096) (hn : num h.boot (lsnOf h L + 1)) (hroom : total L + parts d.size ≤ area)
    (o : Over area S T (beg area h.area + total L) (frames h.boot (lsnOf h L + 1) 2 d) h.boot.toNat) : (¬ (∀ i, i < parts d.size → T (beg area h.area + total L + i) = Rc.sec h.boot (lsnOf h L + 1) 2 d i) ∧ Jv area T h L) ∨ ((∀ i, i < parts d.size → T (beg area h.area + total L + i) = Rc.sec h.boot (lsnOf h L + 1) 2 d i) ∧ Jv area T h (L ++ [recd h.boot (lsnOf h L + 1) 2 d])) := by
  have a1 := j.jv.two.good.a1; have a2 := j.jv.two.good.a2; have b1 := j.jv.two.good.b1
  have hw : want (h.snaps.toNat - L.length) = 2 := by have := j.jv.snap; unfold want; rw [if_neg (by omega)]
  have hN : h.first + (L.length : Int) = lsnOf h L + 1 := by unfold lsnOf; omega
  have hboot := j.jv.boots
  have hfl := frames_len h.boot (lsnOf h L + 1) 2 d
  have hchain : chain T (beg area h.area + area) (beg area h.area) h.first 1 h.snaps.toNat L :=
    chain_same (fun i h1 h2 => (o.away i (half_has a1 a2 h1 (by omega)) (by omega)).symm) j.jv.found.chain
  have hother : ∀ {n : Int} {r : Fr}, rdOk T (beg area (1 - h.area)) (beg area (1 - h.area) + area) n 1 r → rdOk S (beg area (1 - h.area)) (beg area (1 - h.area) + area) n 1 r := fun {n r} hr => by
    have hle := hr.2.2.2
    refine rdOk_same (fun i hi => ?_) hr
    refine o.away _ (half_has (by omega) (by omega) (Nat.le_add_right _ _) (by omega)) fun hx => ?_
    exact halves (a := 1 - h.area) (by omega) (by omega) (i := beg area (1 - h.area) + i) (Nat.le_add_right _ _) (by omega) (by rw [show (1 : Int) - (1 - h.area) = h.area by omega]; omega)
  have hnext : ∀ i, has area i → ∀ f, dec (T i) = some f → f.kind = 2 → f.lsn ≤ lsnOf h L + 1 := by
    intro i hi f hf hk
    rcases o.cases hi hf with e | ⟨k, hk', rfl, e⟩
    · rw [e] at hf; exact j.jv.next i hi f hf hk
    · rw [e, frames_get hk'] at hf
      have := sec_dec (k := 2) hn (by decide) hd (show k < parts d.size by omega)
      unfold Rc.sec at this
      rw [Fr.enc_good (fr_good hn hd (by omega))] at this
      rw [this] at hf
      obtain rfl := Option.some.inj hf
      exact Int.le_refl _
  by_cases hall : ∀ i, i < parts d.size → T (beg area h.area + total L + i) = Rc.sec h.boot (lsnOf h L + 1) 2 d i
  · refine .inr ⟨hall, ?_⟩
    have hrec : rdOk T (beg area h.area + total L) (beg area h.area + area) (lsnOf h L + 1) (bEnd 1 L) (recd h.boot (lsnOf h L + 1) 2 d) := rd_written hn (by decide) hd hall hboot (by omega)
    have elen : lsnOf h (L ++ [recd h.boot (lsnOf h L + 1) 2 d]) = lsnOf h L + 1 := by unfold lsnOf; rw [List.length_append, List.length_singleton]; omega
    refine ⟨two_same j.jv.two o.slots, o.low, ⟨chain_app.mpr ⟨hchain, by rw [hN]; exact ⟨hrec, hw.symm, trivial⟩⟩, ?_⟩, by rw [List.length_append]; have := j.jv.snap; omega, ?_, ?_⟩
    · intro r hr
      exfalso
      have hp := parts_pos r.data.size
      have hb0 := rd_blank hr hp
      have hle := hr.2.2.2
      have hge := hr.2.2.1
      rw [total_app] at hb0 hle
      have et : total [recd h.boot (lsnOf h L + 1) 2 d] = parts d.size := by show parts d.size + 0 = _; rfl
      rw [et] at hb0 hle
      rw [bEnd_app] at hge
      have hge : h.boot ≤ r.boot := hge
      have hin : has area (beg area h.area + (total L + parts d.size) + 0) := half_has a1 a2 (by omega) (by omega)
      have hlow := low_dec (o.low _ hin) hb0
      have hrb : (fr r.boot (h.first + ((L ++ [recd h.boot (lsnOf h L + 1) 2 d]).length : Int)) r.kind r.data 0).boot = r.boot := rfl
      rw [hrb] at hlow
      rw [o.away _ hin (by omega)] at hb0
      have hl := (j.was _ hin).dec hb0 (by rw [hrb]; omega)
      have hrl : (fr r.boot (h.first + ((L ++ [recd h.boot (lsnOf h L + 1) 2 d]).length : Int)) r.kind r.data 0).lsn = h.first + ((L ++ [recd h.boot (lsnOf h L + 1) 2 d]).length : Int) := rfl
      rw [hrl, List.length_append, List.length_singleton] at hl
      unfold lsnOf at hl
      omega
    · rw [elen]
      intro r hr hk
      have hr' := hother hr
      have hp := parts_pos r.data.size
      have hb0 := rd_blank hr' hp
      have hle := hr'.2.2.2
      have := j.jv.next _ (half_has (a := 1 - h.area) (by omega) (by omega) (Nat.le_add_right _ _) (by omega)) _ hb0 hk
      have hl : (fr r.boot (lsnOf h L + 1 + 1) r.kind r.data 0).lsn = lsnOf h L + 1 + 1 := rfl
      omega
    · rw [elen]
      intro i hi f hf hk
      have := hnext i hi f hf hk
      omega
  · refine .inl ⟨hall, ?_⟩
    refine ⟨two_same j.jv.two o.slots, o.low, ⟨hchain, ?_⟩, j.jv.snap, fun r hr => j.jv.other r (hother hr), hnext⟩
    intro r hr
    rw [hw]
    intro hk
    rw [hN] at hr
    have hle := hr.2.2.2
    have hin : ∀ i, i < parts r.data.size → has area (beg area h.area + total L + i) := fun i hi => half_has a1 a2 (by omega) (by omega)
    by_cases hb : r.boot = h.boot
    · have key : ∀ i, i < parts r.data.size → i < parts d.size ∧ T (beg area h.area + total L + i) = Rc.sec h.boot (lsnOf h L + 1) 2 d i := by
        intro i hi
        have hf := rd_blank hr hi
        rcases o.cases (hin i hi) hf with e | ⟨k, hk', ek, e⟩
        · exfalso
          rw [e] at hf
          have hl := (j.was _ (hin i hi)).dec hf (by show r.boot = _; omega)
          have : (fr r.boot (lsnOf h L + 1) r.kind r.data i).lsn = lsnOf h L + 1 := rfl
          omega
        · obtain rfl : i = k := by omega
          refine ⟨by omega, ?_⟩
          rw [e, frames_get hk']
          exact (Fr.enc_good (fr_good hn hd (by omega))).symm
      have hp := parts_pos r.data.size
      have f0 := rd_blank hr hp
      obtain ⟨h0, k0⟩ := key 0 hp
      rw [k0, sec_dec hn (by decide) hd h0] at f0
      have e4 : (fr h.boot (lsnOf h L + 1) 2 d 0).parts = (fr r.boot (lsnOf h L + 1) r.kind r.data 0).parts := congrArg Fr.parts (Option.some.inj f0)
      change (parts d.size : Int) = (parts r.data.size : Int) at e4
      exact hall fun i hi => (key i (by omega)).2
    · have hS : rdOk S (beg area h.area + total L) (beg area h.area + area) (lsnOf h L + 1) (bEnd 1 L) r := by
        refine rdOk_same (fun i hi => ?_) hr
        have hf := rd_blank hr hi
        rcases o.cases (hin i hi) hf with e | ⟨k, hk', ek, e⟩
        · exact e
        · exfalso
          rw [e, frames_get hk'] at hf
          have := sec_dec (k := 2) hn (by decide) hd (show k < parts d.size by omega)
          unfold Rc.sec at this
          rw [Fr.enc_good (fr_good hn hd (by omega))] at this
          rw [this] at hf
          exact hb (congrArg Fr.boot (Option.some.inj hf)).symm
      rw [← hN] at hS
      exact j.jv.found.stop r hS (by rw [hw]; exact hk)
/-- What is written over is overwritten as far as the crash lets it. -/
theorem Jo.over {area : Nat} {s : Ds} {h : Hd} {L : List Fr} (j : Jo area s.dur h L) (hp : s.pend = []) (h256 : h.boot < 256) {W : List Fr} {t : Nat} (hW : ∀ c ∈ W, c.good ∧ c.boot = h.boot ∧ lsnOf h L < c.lsn) (h2 : 2 ≤ t) (hr : t + W.length ≤ 2 + 2 * area)
    {g : Nat → ByteArray} (hg : ∀ i (hi : i < W.length), g i = str W[i].sec) {f : Nat → Nat} (hf : ∀ k, f k ≤ 80) {k : Nat} (hk : k ≤ W.length) :
    Over area s.dur ((laid s t g k).settled f).dur t W h.boot.toNat := by
  have b1 := j.jv.two.good.b1
  have key : ∀ i (_ : i < W.length), i < k → Left (str W[i].sec) (s.dur (t + i)) (((laid s t g k).settled f).dur (t + i)) ∧ Low (h.boot.toNat + 1) (((laid s t g k).settled f).dur (t + i)) := fun i hi hik => by
    obtain ⟨gc, hb, hl⟩ := hW _ (List.getElem_mem hi)
    rw [laid_settled hp, if_pos (by omega), show t + i - t = i by omega, hg i hi]
    exact (j.was (t + i) ⟨by omega, by omega⟩).torn (by omega) gc (by omega) hl (hf i)
  refine ⟨fun i hi => by rw [laid_settled hp, if_neg (by omega)], fun i hi => ?_, fun i _ hn => by rw [laid_settled hp, if_neg (by omega)], fun i hi => ?_⟩
  · by_cases hik : i < k
    · exact (key i hi hik).1
    · left; rw [laid_settled hp, if_neg (by omega)]
  · by_cases hik : t ≤ i ∧ i < t + k
    · have := (key (i - t) (by omega) (by omega)).2
      rwa [show t + (i - t) = i by omega] at this
    · rw [laid_settled hp, if_neg hik]
      exact (j.was i hi).low (by omega)
/-- If all of it is kept, it is there. -/
theorem Jo.whole {area : Nat} {s : Ds} {h : Hd} {L : List Fr} (j : Jo area s.dur h L) (hp : s.pend = []) {W : List Fr} {t : Nat} (hW : ∀ c ∈ W, c.good ∧ c.boot = h.boot ∧ lsnOf h L < c.lsn) (h2 : 2 ≤ t) (hr : t + W.length ≤ 2 + 2 * area)
    {g : Nat → ByteArray} (hg : ∀ i (hi : i < W.length), g i = str W[i].sec) {f : Nat → Nat} (hf : ∀ k, k < W.length → f k = 80) (i : Nat) (hi : i < W.length) : ((laid s t g W.length).settled f).dur (t + i) = str W[i].sec := by
  obtain ⟨gc, _, _⟩ := hW _ (List.getElem_mem hi)
  rw [laid_settled hp, if_pos (by omega), show t + i - t = i by omega, hg i hi, hf i hi]
  exact (j.was (t + i) ⟨by omega, by omega⟩).full gc
theorem frames_mem {b n : Int} {k : Nat} {d : ByteArray} (hn : num b n) (hd : d.size ≤ 4096) {c : Fr} (hc : c ∈ frames b n k d) : c.good ∧ c.boot = b ∧ c.lsn = n ∧ c.kind = k := by
  unfold frames at hc
  obtain ⟨i, hi, rfl⟩ := List.mem_map.1 hc
  exact ⟨fr_good hn hd (List.mem_range.1 hi), rfl, rfl, rfl⟩
/-- A record that was appended, and synced. -/
theorem Jo.appended {area : Nat} {S T : Nat → ByteArray} {h : Hd} {L : List Fr} (j : Jo area S h L) {d : ByteArray} (hd : d.size ≤ 4096) (hn : num h.boot (lsnOf h L + 1)) (hroom : total L + parts d.size ≤ area)
    (o : Over area S T (beg area h.area + total L) (frames h.boot (lsnOf h L + 1) 2 d) h.boot.toNat) (hall : ∀ i, i < parts d.size → T (beg area h.area + total L + i) = Rc.sec h.boot (lsnOf h L + 1) 2 d i) : Jo area T h (L ++ [recd h.boot (lsnOf h L + 1) 2 d]) := by
  have b1 := j.jv.two.good.b1
  rcases j.append hd hn hroom o with ⟨hx, _⟩ | ⟨_, jv⟩
  · exact absurd hall hx
  refine ⟨jv, fun i hi => ?_⟩
  have elen : lsnOf h (L ++ [recd h.boot (lsnOf h L + 1) 2 d]) = lsnOf h L + 1 := by unfold lsnOf; rw [List.length_append, List.length_singleton]; omega
  rw [elen]
  have hfl := frames_len h.boot (lsnOf h L + 1) 2 d
  by_cases hw : beg area h.area + total L ≤ i ∧ i < beg area h.area + total L + (frames h.boot (lsnOf h L + 1) 2 d).length
  · have e := hall (i - (beg area h.area + total L)) (by omega)
    rw [show beg area h.area + total L + (i - (beg area h.area + total L)) = i by omega] at e
    have g := fr_good (k := 2) (i := i - (beg area h.area + total L)) hn hd (by omega)
    exact .inr ⟨_, g, by rw [e]; exact Fr.enc_good g, by show h.boot = _; omega, Int.le_refl _⟩
  · rw [o.away i hi hw]; exact (j.was i hi).mono (by omega)

/-! ### snapshots -/
def snapF (b : Int) : Int → List ByteArray → List Fr
  | _, [] => []
  | n, d :: D => frames b n 1 d ++ snapF b (n + 1) D
def recsOf (b : Int) : Int → List ByteArray → List Fr
  | _, [] => []
  | n, d :: D => recd b n 1 d :: recsOf b (n + 1) D
theorem recsOf_len (b : Int) : ∀ (D : List ByteArray) (n : Int), (recsOf b n D).length = D.length
  | [], _ => rfl
  | _ :: D, n => by show (recsOf b (n + 1) D).length + 1 = _; rw [recsOf_len b D]; rfl
theorem recsOf_data (b : Int) : ∀ (D : List ByteArray) (n : Int), (recsOf b n D).map Fr.data = D
  | [], _ => rfl
  | d :: D, n => by show d :: (recsOf b (n + 1) D).map Fr.data = _; rw [recsOf_data b D]
theorem total_recsOf (b : Int) : ∀ (D : List ByteArray) (n : Int), total (recsOf b n D) = (snapF b n D).length
  | [], _ => rfl
  | d :: D, n => by
    show parts d.size + total (recsOf b (n + 1) D) = (frames b n 1 d ++ snapF b (n + 1) D).length
    rw [total_recsOf b D, List.length_append, frames_len]
theorem snapF_mem {b : Int} (hb : 1 ≤ b ∧ b ≤ 4294967295) : ∀ {D : List ByteArray} {n : Int}, 1 ≤ n → n + D.length ≤ 281474976710656 → (∀ d ∈ D, d.size ≤ 4096) → ∀ {c : Fr}, c ∈ snapF b n D → c.good ∧ c.boot = b ∧ n ≤ c.lsn ∧ c.lsn < n + D.length ∧ c.kind = 1
  | [], _, _, _, _, _, hc => by cases hc
  | d :: D, n, h1, h2, hd, c, hc => by
    have hl : ((d :: D).length : Int) = (D.length : Int) + 1 := by rw [List.length_cons]; omega
    rcases List.mem_append.1 hc with hc | hc
    · obtain ⟨a, e1, e2, e3⟩ := frames_mem ⟨hb.1, hb.2, h1, by omega⟩ (hd d (by simp)) hc
      exact ⟨a, e1, by omega, by omega, e3⟩
    · obtain ⟨a, e1, e2, e3, e4⟩ := snapF_mem hb (D := D) (n := n + 1) (by omega) (by omega) (fun d hd' => hd d (by simp [hd'])) hc
      exact ⟨a, e1, by omega, by omega, e4⟩
theorem chain_recs {T : Nat → ByteArray} {u : Nat} {b : Int} (hb : 1 ≤ b ∧ b ≤ 4294967295) : ∀ {D : List ByteArray} {t : Nat} {n boot : Int}, 1 ≤ n → n + D.length ≤ 281474976710656 → (∀ d ∈ D, d.size ≤ 4096) → boot ≤ b → t + (snapF b n D).length ≤ u →
    (∀ i (hi : i < (snapF b n D).length), T (t + i) = str (snapF b n D)[i].sec) → chain T u t n boot D.length (recsOf b n D)
  | [], _, _, _, _, _, _, _, _, _ => trivial
  | d :: D, t, n, boot, h1, h2, hd, hboot, hu, hT => by
    have hl : ((d :: D).length : Int) = (D.length : Int) + 1 := by rw [List.length_cons]; omega
    have hn : num b n := ⟨hb.1, hb.2, h1, by omega⟩
    have hds := hd d (by simp)
    have hfl := frames_len b n 1 d
    have hsl : (snapF b n (d :: D)).length = parts d.size + (snapF b (n + 1) D).length := by show (frames b n 1 d ++ snapF b (n + 1) D).length = _; rw [List.length_append, hfl]
    refine ⟨rd_written hn (by decide) hds (fun i hi => ?_) hboot (by omega), rfl, ?_⟩
    · rw [hT i (by omega)]
      have e : (snapF b n (d :: D))[i]'(by omega) = fr b n 1 d i := by
        show (frames b n 1 d ++ snapF b (n + 1) D)[i]'(by rw [List.length_append]; omega) = _
        rw [List.getElem_append_left (by omega), frames_get]
      rw [e]
      exact (Fr.enc_good (fr_good hn hds hi)).symm
    · refine chain_recs hb (D := D) (by omega) (by omega) (fun d hd' => hd d (by simp [hd'])) (Int.le_refl _) (by show t + parts d.size + _ ≤ u; omega) fun i hi => ?_
      have := hT (parts d.size + i) (by omega)
      show T (t + parts d.size + i) = _
      rw [Nat.add_assoc, this]
      have e : (snapF b n (d :: D))[parts d.size + i]'(by omega) = (snapF b (n + 1) D)[i] := by
        show (frames b n 1 d ++ snapF b (n + 1) D)[parts d.size + i]'(by rw [List.length_append]; omega) = _
        rw [List.getElem_append_right (by omega)]
        congr 1; omega
      rw [e]
/-- While a snapshot is written, and after a crash in that, all is as before. -/
theorem Jo.snapped {area : Nat} {S T : Nat → ByteArray} {h : Hd} {L : List Fr} (j : Jo area S h L) {D : List ByteArray} (hD : ∀ d ∈ D, d.size ≤ 4096) (hN : lsnOf h L + 1 + D.length ≤ 281474976710656) (hfit : (snapF h.boot (lsnOf h L + 1) D).length ≤ area)
    (o : Over area S T (beg area (1 - h.area)) (snapF h.boot (lsnOf h L + 1) D) h.boot.toNat) : Jv area T h L := by
  have a1 := j.jv.two.good.a1; have a2 := j.jv.two.good.a2; have f1 := j.jv.two.good.f1
  have hb : 1 ≤ h.boot ∧ h.boot ≤ 4294967295 := ⟨j.jv.two.good.b1, j.jv.two.good.b2⟩
  have hn1 : 1 ≤ lsnOf h L + 1 := by unfold lsnOf; omega
  have main : ∀ i, beg area h.area ≤ i → i < beg area h.area + area → T i = S i := fun i h1 h2 => o.away i (half_has a1 a2 h1 h2) fun hx => halves a1 a2 h1 h2 ⟨hx.1, by omega⟩
  have hle := chain_le (Nat.le_add_right _ _) j.jv.found.chain
  refine ⟨two_same j.jv.two o.slots, o.low, ⟨chain_same (fun i h1 h2 => (main i h1 (by omega)).symm) j.jv.found.chain, fun r hr => ?_⟩, j.jv.snap, fun r hr hk => ?_, fun i hi f hf hk => ?_⟩
  · have := hr.2.2.2
    exact j.jv.found.stop r (rdOk_same (fun i hi => main _ (by omega) (by omega)) hr)
  · have hle := hr.2.2.2
    refine j.jv.other r (rdOk_same (fun i hi => ?_) hr) hk
    have hf := rd_blank hr hi
    rcases o.cases (half_has (a := 1 - h.area) (by omega) (by omega) (Nat.le_add_right _ _) (by omega)) hf with e | ⟨k, hk', _, e⟩
    · exact e
    · exfalso
      obtain ⟨g, _, _, _, e1⟩ := snapF_mem hb hn1 hN hD (List.getElem_mem hk')
      rw [e] at hf
      obtain ⟨el, _, _, g'⟩ := dec_ends hf
      have hdd := dec_sec g (by rw [e1]; decide)
      rw [hdd] at hf
      have : ((snapF h.boot (lsnOf h L + 1) D)[k]).kind = (fr r.boot (lsnOf h L + 1) r.kind r.data i).kind := congrArg Fr.kind (Option.some.inj hf)
      change ((snapF h.boot (lsnOf h L + 1) D)[k]).kind = r.kind at this
      omega
  · rcases o.cases hi hf with e | ⟨k, hk', _, e⟩
    · rw [e] at hf; exact j.jv.next i hi f hf hk
    · exfalso
      obtain ⟨g, _, _, _, e1⟩ := snapF_mem hb hn1 hN hD (List.getElem_mem hk')
      rw [e, dec_sec g (by rw [e1]; decide)] at hf
      obtain rfl := Option.some.inj hf
      omega
/-- The snapshot is there, and the header says so. -/
theorem Jo.switched {area : Nat} {S T U : Nat → ByteArray} {h c : Hd} {L : List Fr} (j : Jo area S h L) {D : List ByteArray} (hD : ∀ d ∈ D, d.size ≤ 4096) (hN : lsnOf h L + 1 + D.length ≤ 281474976710656) (hfit : (snapF h.boot (lsnOf h L + 1) D).length ≤ area)
    (o : Over area S T (beg area (1 - h.area)) (snapF h.boot (lsnOf h L + 1) D) h.boot.toNat) (hall : ∀ i (hi : i < (snapF h.boot (lsnOf h L + 1) D).length), T (beg area (1 - h.area) + i) = str (snapF h.boot (lsnOf h L + 1) D)[i].sec)
    (e : ∀ i, has area i → U i = T i) (t : Two U c) (cb : c.boot = h.boot) (ca : c.area = 1 - h.area) (cf : c.first = lsnOf h L + 1) (cs : c.snaps = D.length) : Jo area U c (recsOf h.boot (lsnOf h L + 1) D) := by
  have a1 := j.jv.two.good.a1; have a2 := j.jv.two.good.a2; have f1 := j.jv.two.good.f1
  have hb : 1 ≤ h.boot ∧ h.boot ≤ 4294967295 := ⟨j.jv.two.good.b1, j.jv.two.good.b2⟩
  have hn1 : 1 ≤ lsnOf h L + 1 := by unfold lsnOf; omega
  have jT := j.snapped hD hN hfit o
  have hlen := recsOf_len h.boot D (lsnOf h L + 1)
  have htot := total_recsOf h.boot D (lsnOf h L + 1)
  have el : lsnOf c (recsOf h.boot (lsnOf h L + 1) D) = lsnOf h L + D.length := by unfold lsnOf at *; rw [cf, hlen]; omega
  have hos : ∀ i, beg area (1 - h.area) ≤ i → i < beg area (1 - h.area) + area → has area i := fun i h1 h2 => half_has (a := 1 - h.area) (by omega) (by omega) h1 h2
  have hms : ∀ i, beg area h.area ≤ i → i < beg area h.area + area → has area i := fun i h1 h2 => half_has a1 a2 h1 h2
  have mainT : ∀ i, beg area h.area ≤ i → i < beg area h.area + area → T i = S i := fun i h1 h2 => o.away i (hms i h1 h2) fun hx => halves a1 a2 h1 h2 ⟨hx.1, by omega⟩
  have hle := chain_le (Nat.le_add_right _ _) j.jv.found.chain
  have sn : c.snaps.toNat = D.length := by omega
  have hbe : D ≠ [] → bEnd 1 (recsOf h.boot (lsnOf h L + 1) D) = h.boot := by
    have gen : ∀ (D : List ByteArray) (n boot : Int), D ≠ [] → bEnd boot (recsOf h.boot n D) = h.boot := by
      intro D
      induction D with
      | nil => intro _ _ hx; exact absurd rfl hx
      | cons d D ih =>
        intro n boot _
        show bEnd h.boot (recsOf h.boot (n + 1) D) = _
        cases D with
        | nil => rfl
        | cons d' D => exact ih _ _ (by simp)
    exact gen D _ _
  refine ⟨⟨t, fun i hi => by rw [e i hi, cb]; exact jT.low i hi, ?_, by rw [sn, hlen]; exact Nat.le_refl _, ?_, ?_⟩, ?_⟩
  · rw [ca, cf, sn]
    refine ⟨chain_recs hb hn1 hN hD hb.1 (by omega) fun i hi => by rw [e _ (hos _ (by omega) (by omega))]; exact hall i hi, fun r hr => ?_⟩
    rw [hlen, Nat.sub_self]
    show r.kind ≠ 2
    intro hk
    rw [htot, hlen] at hr
    have hle := hr.2.2.2
    have hp := parts_pos r.data.size
    by_cases hne : D = []
    · subst hne
      refine jT.other r (rdOk_same (S := U) (fun i hi => e _ (hos _ (by omega) (by omega))) ?_) hk
      have hr : rdOk U (beg area (1 - h.area) + 0) (beg area (1 - h.area) + area) (lsnOf h L + 1 + (0 : Nat)) 1 r := hr
      simpa using hr
    · rw [hbe hne] at hr
      have hb0 := rd_blank hr hp
      have hin : has area (beg area (1 - h.area) + (snapF h.boot (lsnOf h L + 1) D).length + 0) := hos _ (by omega) (by omega)
      rw [e _ hin] at hb0
      have hlow := low_dec (jT.low _ hin) hb0
      have hge := hr.2.2.1
      have hrb : (fr r.boot (lsnOf h L + 1 + (D.length : Int)) r.kind r.data 0).boot = r.boot := rfl
      rw [hrb] at hlow
      rw [o.away _ hin (by omega)] at hb0
      have hl := (j.was _ hin).dec hb0 (by rw [hrb]; omega)
      have hrl : (fr r.boot (lsnOf h L + 1 + (D.length : Int)) r.kind r.data 0).lsn = lsnOf h L + 1 + (D.length : Int) := rfl
      omega
  · rw [el, ca, show (1 : Int) - (1 - h.area) = h.area by omega]
    intro r hr hk
    have hle' := hr.2.2.2
    have hp := parts_pos r.data.size
    have hrS : rdOk S (beg area h.area) (beg area h.area + area) (lsnOf h L + D.length + 1) 1 r := rdOk_same (fun i hi => by rw [e _ (hms _ (by omega) (by omega)), mainT _ (by omega) (by omega)]) hr
    have hb0 := rd_blank hrS hp
    have hin : has area (beg area h.area + 0) := hms _ (by omega) (by omega)
    have hnx := j.jv.next _ hin _ hb0 hk
    have hrl : (fr r.boot (lsnOf h L + D.length + 1) r.kind r.data 0).lsn = lsnOf h L + D.length + 1 := rfl
    have hD0 : D.length = 0 := by omega
    have e0 : lsnOf h L + (D.length : Int) + 1 = lsnOf h L + 1 := by omega
    rw [e0] at hrS hb0
    cases hL : L with
    | nil =>
      have st := j.jv.found.stop
      rw [hL] at st
      have hs0 := j.jv.snap
      rw [hL] at hs0
      have hs0 : h.snaps.toNat ≤ 0 := hs0
      refine absurd hk (fun hk => st r ?_ ?_)
      · have e1 : lsnOf h L + 1 = h.first := by unfold lsnOf; rw [hL]; show h.first - 1 + 0 + 1 = _; omega
        rw [e1] at hrS
        show rdOk S (beg area h.area + 0) _ (h.first + (0 : Nat)) 1 r
        simpa using hrS
      · show r.kind = want (h.snaps.toNat - 0)
        unfold want; rw [if_neg (by omega)]; exact hk
    | cons q L' =>
      have hc := j.jv.found.chain
      rw [hL] at hc
      obtain ⟨hq, _, _⟩ := hc
      have hq0 := rd_blank hq (parts_pos q.data.size)
      rw [hq0] at hb0
      have e1 : (fr q.boot h.first q.kind q.data 0).lsn = (fr r.boot (lsnOf h L + 1) r.kind r.data 0).lsn := congrArg Fr.lsn (Option.some.inj hb0)
      have e2 : h.first = lsnOf h L + 1 := e1
      unfold lsnOf at e2
      rw [hL, List.length_cons] at e2
      omega
  · rw [el]
    intro i hi f hf hk
    rw [e i hi] at hf
    have := jT.next i hi f hf hk
    omega
  · intro i hi
    rw [e i hi, el, cb]
    by_cases hw : beg area (1 - h.area) ≤ i ∧ i < beg area (1 - h.area) + (snapF h.boot (lsnOf h L + 1) D).length
    · have ei := hall (i - beg area (1 - h.area)) (by omega)
      rw [show beg area (1 - h.area) + (i - beg area (1 - h.area)) = i by omega] at ei
      obtain ⟨g, g1, _, g3, _⟩ := snapF_mem hb hn1 hN hD (List.getElem_mem (show i - beg area (1 - h.area) < _ by omega))
      exact .inr ⟨_, g, ei, by omega, by omega⟩
    · rw [o.away i hi hw]
      exact (j.was i hi).mono (by omega)
end Go.Proofs.YtckbhjjflpobbaaGreat.Jk
