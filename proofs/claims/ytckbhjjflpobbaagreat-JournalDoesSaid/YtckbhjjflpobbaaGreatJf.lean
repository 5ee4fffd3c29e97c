/-
  Package journal: collect.
-/
import Derived.Test.YtckbhjjflpobbaaGreatJd
import Derived.Test.YtckbhjjflpobbaaGreatJp
import Derived.WalkMore
import Derived.Deep.CutRange
namespace Go.Proofs.YtckbhjjflpobbaaGreat.Jk
open Go Go.RowKit Go.ChangeShapes Go.WideShapes Go.ChangeAt Go.Proofs.YtckbhjjflpobbaaGreat.Mem Go.Proofs.YtckbhjjflpobbaaGreat.Pk Go.Proofs.YtckbhjjflpobbaaGreat.Fk Go.Proofs.YtckbhjjflpobbaaGreat.Dz Go.Proofs.YtckbhjjflpobbaaGreat.Fz Go.Proofs.YtckbhjjflpobbaaGreat.Rc
open Go.Proofs.YtckbhjjflpobbaaGreat.Hk (Hd saves loads o_save o_load hblock)

/-- The data of the records. -/
def xsF (R : List Fr) (i : Nat) : ByteArray := ((R[i]?).map Fr.data).getD ByteArray.empty
theorem take_succ {R : List Fr} {k : Nat} (h : k < R.length) : R.take (k + 1) = R.take k ++ [R[k]] := by
  rw [List.take_add_one, List.getElem?_eq_getElem h]; rfl
/-- What the program finds behind k of the records R. -/
structure Turn (S : Nat → ByteArray) (t u : Nat) (n : Int) (m k : Nat) (R : List Fr) (r : Fr) (E : Int) (p : Nat) : Prop where
  f : rdF S (t + total (R.take k)) u (n + (k : Int)) (bEnd 1 (R.take k)) = r
  e : rdE S (t + total (R.take k)) u (n + (k : Int)) (bEnd 1 (R.take k)) = E
  parts : r.parts = (p : Int)
  small : p ≤ 65536
  kind : r.kind < 256
  way : (k < R.length ∧ E = 0 ∧ r.kind = want (m - k) ∧ r.lsn = n + (k : Int) ∧ xsF R k = r.data ∧ total (R.take (k + 1)) = total (R.take k) + p ∧ bEnd 1 (R.take (k + 1)) = r.boot) ∨ (k = R.length ∧ (E = 12 ∨ E = 0 ∧ r.kind ≠ want (m - k)))
theorem turn {S : Nat → ByteArray} {t u : Nat} {n : Int} {m : Nat} {R : List Fr} (h : Found S u t n 1 m R) {k : Nat} (hk : k ≤ R.length) : ∃ r E p, Turn S t u n m k R r E p := by
  by_cases hlt : k < R.length
  · have e : R = R.take k ++ (R[k] :: R.drop (k + 1)) := by rw [List.getElem_cons_drop]; exact (List.take_append_drop k R).symm
    have hc := h.chain
    rw [e, chain_app] at hc
    obtain ⟨_, hr, hw, _⟩ := hc
    have hl : (R.take k).length = k := by rw [List.length_take]; omega
    rw [hl] at hr hw
    obtain ⟨e1, e2⟩ := rdF_ok hr
    refine ⟨R[k], 0, Rc.parts R[k].data.size, e1, e2, hr.1.parts, ?_, hr.1.kind, .inl ⟨hlt, rfl, hw, hr.2.1, ?_, ?_, ?_⟩⟩
    · have := parts_le hr.1.size; omega
    · unfold xsF; rw [List.getElem?_eq_getElem hlt]; rfl
    · rw [take_succ hlt, total_app]; rfl
    · rw [take_succ hlt, bEnd_app]; rfl
  · obtain rfl : k = R.length := by omega
    have hs := h.stop
    have et : R.take R.length = R := List.take_length
    rcases rd_or S (t + total R) u (n + (R.length : Int)) (bEnd 1 R) with ⟨r, _, h2⟩ | ⟨_, h2⟩
    · obtain ⟨e1, e2⟩ := rdF_ok h2
      exact ⟨r, 0, Rc.parts r.data.size, by rw [et]; exact e1, by rw [et]; exact e2, h2.1.parts, by have := parts_le h2.1.size; omega, h2.1.kind, .inr ⟨rfl, .inr ⟨rfl, hs r h2⟩⟩⟩
    · obtain ⟨e1, e2⟩ := rdF_bad h2
      exact ⟨Fr.nil, 12, 0, by rw [et]; exact e1, by rw [et]; exact e2, rfl, by decide, by decide, .inr ⟨rfl, .inl rfl⟩⟩
def lenV : Value → Nat
  | .slice _ n _ => n
  | _ => 0
abbrev fz6 : Array Value := #[.int .i64 0, .int .i64 0, .int .i64 0, .int .i64 0, .int .u8 0, .string ⟨#[]⟩]
set_option maxRecDepth 100000 in
set_option maxHeartbeats 8000000 in
theorem o_collect {w0 w : World} {L : List As} {J D F : Nat} {j : Jw} {s : Ds} (h : Mem.Own w0 (jA J D j :: dk F D s :: L) w) (hok : s.ok) (hdead : s.fu.dead = false) (A : Nat) (hA : j.h.area = (A : Int)) (hA2 : A < 2) (hb : j.area ≤ 32000) (hn : s.n = 2 + 2 * j.area) (hu : j.used = 0) (m : Nat) (hm : j.h.snaps = (m : Int)) (hm2 : m < 65536) (hn0 : 0 ≤ j.n ∧ j.n < 281474976710656)
    (R : List Fr) (hF : Found s.look (beg j.area j.h.area + j.area) (beg j.area j.h.area) (j.n + 1) 1 m R) :
    Calls Tryz.prog 50 #[.pointer (some ⟨J, 0, none⟩)] w fun e w' => ∃ vS vR, e = .returned (.tuple #[vS, vR]) ∧
      Mem.Own w0 (secA vR (R.length - m) (fun i => xsF R (m + i)) :: secA vS (min R.length m) (xsF R) :: jA J D { j with n := j.n + (R.length : Int), used := total R } :: dk F D s :: L) w' := by
  have hlen : total R ≤ j.area := by
    have := chain_le (Nat.le_add_right _ _) hF.chain
    omega
  have hlenR : R.length ≤ j.area := by
    have key : ∀ X : List Fr, X.length ≤ total X := fun X => by
      induction X with
      | nil => exact Nat.le_refl _
      | cons r X ih => have := parts_pos r.data.size; show X.length + 1 ≤ parts r.data.size + total X; omega
    have := key R
    omega
  have hbeg : (beg j.area j.h.area : Int) = 2 + (j.area : Int) * (A : Int) := by
    unfold beg; rw [hA, Int.toNat_natCast]; push_cast; rfl
  obtain ⟨B, hB⟩ : ∃ B : Nat, B = beg j.area j.h.area := ⟨_, rfl⟩
  rw [← hB] at hF hbeg
  have hBr : 2 ≤ B ∧ B + j.area ≤ s.n := by
    have : A = 0 ∨ A = 1 := by omega
    rcases this with rfl | rfl <;> omega
  have hBc : (A = 0 ∧ (B : Int) = 2) ∨ (A = 1 ∧ (B : Int) = 2 + (j.area : Int)) := by
    have : A = 0 ∨ A = 1 := by omega
    rcases this with rfl | rfl
    · exact .inl ⟨rfl, by omega⟩
    · exact .inr ⟨rfl, by omega⟩
  have hcB : ∀ W, Jat W J D j → W.cell? ⟨J, 2 + A, none⟩ = some (.int .i64 (B : Int)) := fun W hW => by
    obtain ⟨⟨_, _, c2, c3, _⟩, _⟩ := jblock hW
    rcases hBc with ⟨rfl, e⟩ | ⟨rfl, e⟩
    · rw [e]; exact c2
    · rw [e]; exact c3
  obtain ⟨⟨c0, c1, c2, c3, c4, c5, c6, c7, c8, c9, c10, c11⟩, fz⟩ := jblock (own_j h 0 rfl)
  have cB := hcB _ (own_j h 0 rfl)
  have lJ : J < w.heap.size := lt_of_block (own_j h 0 rfl)
  have nJ : ¬ J = w.heap.size := by omega
  have nJ' : ¬ w.heap.size = J := by omega
  rw [hA] at c6
  -- the list between two rounds
  have hstart : Mem.Own w0 (secA (.slice none 0 0) 0 (fun i => xsF R (m + i)) :: secA (.slice none 0 0) 0 (xsF R) :: boxA (w.heap.size + 1) #[.int .i64 1] 3 :: boxA w.heap.size #[.pointer (some ⟨J, 0, none⟩)] 28 :: jA J D { j with n := j.n + ((0 : Nat) : Int), used := 0 } :: dk F D s :: L) ((w.alloc (.cells #[.pointer (some ⟨J, 0, none⟩)] 28)).alloc (.cells #[.int .i64 1] 3)).drew := by
    have ej : { j with n := j.n + ((0 : Nat) : Int), used := 0 } = j := by
      cases j; simp only at hu; subst hu; simp
    rw [ej]
    have h1 := (h.box #[.pointer (some ⟨J, 0, none⟩)] 28).box #[.int .i64 1] 3
    rw [World.size_alloc] at h1
    exact ((h1.newRow 9 1).front.newRow 9 1).front.drew
  have hlook : ∀ (M : List As) k b v3 v2 W, Mem.Own w0 (M ++ (secA v3 (k - m) (fun i => xsF R (m + i)) :: secA v2 (min k m) (xsF R) :: boxA (w.heap.size + 1) #[.int .i64 b] 3 :: boxA w.heap.size #[.pointer (some ⟨J, 0, none⟩)] 28 :: jA J D { j with n := j.n + (k : Int), used := total (R.take k) } :: dk F D s :: L)) W →
      W.cell? ⟨w.heap.size, 0, none⟩ = some (.pointer (some ⟨J, 0, none⟩)) ∧ W.cell? ⟨J, 0, none⟩ = some (.pointer (some ⟨D, 0, none⟩)) ∧ W.cell? ⟨J, 1, none⟩ = some (.int .i64 (j.area : Int)) ∧ W.cell? ⟨J, 8, none⟩ = some (.int .i64 (m : Int)) ∧ W.cell? ⟨J, 9, none⟩ = some (.int .i64 (j.n + (k : Int))) ∧ W.cell? ⟨J, 10, none⟩ = some (.int .i64 (total (R.take k) : Int)) ∧ W.cell? ⟨w.heap.size + 1, 0, none⟩ = some (.int .i64 b) := fun M k b v3 v2 W hW => by
    have at_ : ∀ (i : Nat) (Y : List As), (M ++ Y)[M.length + i]? = Y[i]? := fun i Y => by rw [List.getElem?_append_right (by omega), show M.length + i - M.length = i by omega]
    obtain ⟨⟨c0, c1, _, _, _, _, _, _, c8, c9, c10, _⟩, _⟩ := jblock (own_j hW (M.length + 4) (at_ 4 _))
    have h1 := hW.boxed (M.length + 3) (at_ 3 _)
    have h5 := hW.boxed (M.length + 2) (at_ 2 _)
    exact ⟨cell_of_row _ _ _ _ _ _ h1, c0, c1, by rw [← hm]; exact c8, c9, c10, cell_of_row _ _ _ _ _ _ h5⟩
  have hread : ∀ k (M : List As) b v3 v2 W, k ≤ R.length → Mem.Own w0 (M ++ (secA v3 (k - m) (fun i => xsF R (m + i)) :: secA v2 (min k m) (xsF R) :: boxA (w.heap.size + 1) #[.int .i64 b] 3 :: boxA w.heap.size #[.pointer (some ⟨J, 0, none⟩)] 28 :: jA J D { j with n := j.n + (k : Int), used := total (R.take k) } :: dk F D s :: L)) W →
      Calls Tryz.prog 75 #[.pointer (some ⟨D, 0, none⟩), .int .i64 ((B : Int) + (total (R.take k) : Int)), .int .i64 ((B : Int) + (j.area : Int)), .int .i64 (j.n + (k : Int) + 1), .int .i64 (bEnd 1 (R.take k))] W fun ed w' => ed = .returned (.tuple #[.agg #[.int .i64 (rdF s.look (B + total (R.take k)) (B + j.area) (j.n + 1 + (k : Int)) (bEnd 1 (R.take k))).boot, .int .i64 (rdF s.look (B + total (R.take k)) (B + j.area) (j.n + 1 + (k : Int)) (bEnd 1 (R.take k))).lsn, .int .i64 (rdF s.look (B + total (R.take k)) (B + j.area) (j.n + 1 + (k : Int)) (bEnd 1 (R.take k))).part, .int .i64 (rdF s.look (B + total (R.take k)) (B + j.area) (j.n + 1 + (k : Int)) (bEnd 1 (R.take k))).parts, .int .u8 ((rdF s.look (B + total (R.take k)) (B + j.area) (j.n + 1 + (k : Int)) (bEnd 1 (R.take k))).kind : Int), .string (rdF s.look (B + total (R.take k)) (B + j.area) (j.n + 1 + (k : Int)) (bEnd 1 (R.take k))).data], .int .i64 (rdE s.look (B + total (R.take k)) (B + j.area) (j.n + 1 + (k : Int)) (bEnd 1 (R.take k)))]) ∧
        Mem.Own w0 (M ++ (secA v3 (k - m) (fun i => xsF R (m + i)) :: secA v2 (min k m) (xsF R) :: boxA (w.heap.size + 1) #[.int .i64 b] 3 :: boxA w.heap.size #[.pointer (some ⟨J, 0, none⟩)] 28 :: jA J D { j with n := j.n + (k : Int), used := total (R.take k) } :: dk F D s :: L)) w' := fun k M b v3 v2 W hk hW => by
    have ht : total (R.take k) ≤ total R := by
      have e := total_app (R.take k) (R.drop k)
      rw [List.take_append_drop] at e; omega
    have hi := hok.hi
    have q := o_fetch hW (M.length + 5) (s := s) (F := F) (D := D) (by rw [List.getElem?_append_right (by omega), show M.length + 5 - M.length = 5 by omega]; rfl) hok ((B : Int) + (total (R.take k) : Int)) ((B : Int) + (j.area : Int)) (j.n + (k : Int) + 1) (bEnd 1 (R.take k)) ⟨by omega, by omega⟩ ⟨by omega, by omega⟩
    have e1 : ((B : Int) + (total (R.take k) : Int)) = ((B + total (R.take k) : Nat) : Int) := by push_cast; rfl
    have e2 : ((B : Int) + (j.area : Int)) = ((B + j.area : Nat) : Int) := by push_cast; rfl
    rw [e1, e2, fetch_in (by omega) hBr.2 hdead, show j.n + (k : Int) + 1 = j.n + 1 + (k : Int) by omega] at q
    rw [e1, e2, show j.n + (k : Int) + 1 = j.n + 1 + (k : Int) by omega]
    exact q
  have hturn : ∀ k, k ≤ R.length → ∃ r E p, Turn s.look B (B + j.area) (j.n + 1) m k R r E p := fun k hk => turn hF hk
  have hpush : ∀ (v3 v2 : Value) k b (r : Fr) (p : Nat) W, k < R.length → k < m → xsF R k = r.data → total (R.take (k + 1)) = total (R.take k) + p → bEnd 1 (R.take (k + 1)) = r.boot → r.lsn = j.n + 1 + (k : Int) → r.parts = (p : Int) → p ≤ 65536 →
      Mem.Own w0 (secA v3 (k - m) (fun i => xsF R (m + i)) :: secA v2 (min k m) (xsF R) :: boxA (w.heap.size + 1) #[.int .i64 b] 3 :: boxA w.heap.size #[.pointer (some ⟨J, 0, none⟩)] 28 :: jA J D { j with n := j.n + (k : Int), used := total (R.take k) } :: dk F D s :: L) W →
      Calls Tryz.prog 74 #[v2, .agg #[.int .i64 r.boot, .int .i64 r.lsn, .int .i64 r.part, .int .i64 r.parts, .int .u8 (r.kind : Int), .string r.data], .pointer (some ⟨w.heap.size, 0, none⟩), .pointer (some ⟨w.heap.size + 1, 0, none⟩)] W fun e w' => ∃ v', e = .returned v' ∧
        Mem.Own w0 (secA v3 (k + 1 - m) (fun i => xsF R (m + i)) :: secA v' (min (k + 1) m) (xsF R) :: boxA (w.heap.size + 1) #[.int .i64 (bEnd 1 (R.take (k + 1)))] 3 :: boxA w.heap.size #[.pointer (some ⟨J, 0, none⟩)] 28 :: jA J D { j with n := j.n + ((k + 1 : Nat) : Int), used := total (R.take (k + 1)) } :: dk F D s :: L) w' := fun v3 v2 k b r p W hk hkm hx ht hbe hl hp hp2 hW => by
    have hle : total (R.take k) ≤ total R := by
      have e := total_app (R.take k) (R.drop k)
      rw [List.take_append_drop] at e; omega
    have q := o_add hW 1 2 3 4 (by decide) (by decide) (by decide) rfl (by omega) rfl rfl rfl r.boot r.lsn r.part p r.kind r.data hp2 (by show total (R.take k) ≤ 65536; omega)
    rw [← hp] at q
    refine q.mono ?_
    rintro e w' ⟨v', rfl, hw⟩
    refine ⟨v', rfl, ?_⟩
    have e1 : k + 1 - m = k - m := by omega
    have e2 : min (k + 1) m = min k m + 1 := by omega
    have e3 : j.n + ((k + 1 : Nat) : Int) = r.lsn := by rw [hl]; omega
    rw [e1, e2, e3, ht, hbe]
    unfold secA
    rw [strs_succ, show min k m = k by omega, hx]
    rw [show min k m = k by omega] at hw
    exact hw
  have hpush2 : ∀ (v3 v2 : Value) k b (r : Fr) (p : Nat) W, k < R.length → ¬ k < m → xsF R k = r.data → total (R.take (k + 1)) = total (R.take k) + p → bEnd 1 (R.take (k + 1)) = r.boot → r.lsn = j.n + 1 + (k : Int) → r.parts = (p : Int) → p ≤ 65536 →
      Mem.Own w0 (secA v3 (k - m) (fun i => xsF R (m + i)) :: secA v2 (min k m) (xsF R) :: boxA (w.heap.size + 1) #[.int .i64 b] 3 :: boxA w.heap.size #[.pointer (some ⟨J, 0, none⟩)] 28 :: jA J D { j with n := j.n + (k : Int), used := total (R.take k) } :: dk F D s :: L) W →
      Calls Tryz.prog 74 #[v3, .agg #[.int .i64 r.boot, .int .i64 r.lsn, .int .i64 r.part, .int .i64 r.parts, .int .u8 (r.kind : Int), .string r.data], .pointer (some ⟨w.heap.size, 0, none⟩), .pointer (some ⟨w.heap.size + 1, 0, none⟩)] W fun e w' => ∃ v', e = .returned v' ∧
        Mem.Own w0 (secA v' (k + 1 - m) (fun i => xsF R (m + i)) :: secA v2 (min (k + 1) m) (xsF R) :: boxA (w.heap.size + 1) #[.int .i64 (bEnd 1 (R.take (k + 1)))] 3 :: boxA w.heap.size #[.pointer (some ⟨J, 0, none⟩)] 28 :: jA J D { j with n := j.n + ((k + 1 : Nat) : Int), used := total (R.take (k + 1)) } :: dk F D s :: L) w' := fun v3 v2 k b r p W hk hkm hx ht hbe hl hp hp2 hW => by
    have hle : total (R.take k) ≤ total R := by
      have e := total_app (R.take k) (R.drop k)
      rw [List.take_append_drop] at e; omega
    have q := o_add hW 0 2 3 4 (by decide) (by decide) (by decide) rfl (by omega) rfl rfl rfl r.boot r.lsn r.part p r.kind r.data hp2 (by show total (R.take k) ≤ 65536; omega)
    rw [← hp] at q
    refine q.mono ?_
    rintro e w' ⟨v', rfl, hw⟩
    refine ⟨v', rfl, ?_⟩
    have e1 : k + 1 - m = k - m + 1 := by omega
    have e2 : min (k + 1) m = min k m := by omega
    have e3 : j.n + ((k + 1 : Nat) : Int) = r.lsn := by rw [hl]; omega
    rw [e1, e2, e3, ht, hbe]
    unfold secA at *
    rw [strs_succ, show m + (k - m) = k by omega, hx]
    exact hw
  have hslices : ∀ k b v3 v2 W, Mem.Own w0 (secA v3 (k - m) (fun i => xsF R (m + i)) :: secA v2 (min k m) (xsF R) :: boxA (w.heap.size + 1) #[.int .i64 b] 3 :: boxA w.heap.size #[.pointer (some ⟨J, 0, none⟩)] 28 :: jA J D { j with n := j.n + (k : Int), used := total (R.take k) } :: dk F D s :: L) W →
      (∃ a3 c3, v3 = .slice a3 (k - m) c3) ∧ ∃ a2 c2, v2 = .slice a2 (min k m) c2 := fun k b v3 v2 W hW => ⟨own_slice hW 0 rfl, own_slice hW 1 rfl⟩
  have hfin : ∀ v3 v2 b W, Mem.Own w0 (secA v3 (R.length - m) (fun i => xsF R (m + i)) :: secA v2 (min R.length m) (xsF R) :: boxA (w.heap.size + 1) #[.int .i64 b] 3 :: boxA w.heap.size #[.pointer (some ⟨J, 0, none⟩)] 28 :: jA J D { j with n := j.n + (R.length : Int), used := total (R.take R.length) } :: dk F D s :: L) W →
      Mem.Own w0 (secA v3 (R.length - m) (fun i => xsF R (m + i)) :: secA v2 (min R.length m) (xsF R) :: jA J D { j with n := j.n + (R.length : Int), used := total R } :: dk F D s :: L) W := fun v3 v2 b W hW => by
    rw [List.take_length] at hW
    refine hW.pick (fun i => if i < 2 then i else i + 2) (fun i j _ _ e => by
      by_cases h1 : i < 2 <;> by_cases h2 : j < 2 <;> simp [h1, h2] at e <;> omega) fun i a hi => ?_
    match i, hi with
    | 0, hi => exact hi
    | 1, hi => exact hi
    | i + 2, hi => exact hi
  have HH := Lib.hid (And.intro hlook (And.intro hread (And.intro hturn (And.intro hpush (And.intro hpush2 (And.intro hslices (And.intro hfin hstart)))))))
  have hlen2 := hlen
  have hi := hok.hi
  clear hlook hread hturn hpush hpush2 hslices hfin hstart hcB hBc hbeg hB hF h hok hn
  go_enter Tryz.func50, Tryz.ntmps50
  go_wp2
  go_step3
  go_wp2
  go_region
  go_wp2
  go_step3
  go_wp2
  go_loopw [2, 3] (fun v2 v3 wr => ∃ (k : Nat) (b : Int), k ≤ R.length ∧ b = bEnd 1 (R.take k) ∧ Mem.Own w0 ([] ++ (secA v3 (k - m) (fun i => xsF R (m + i)) :: secA v2 (min k m) (xsF R) :: boxA (w.heap.size + 1) #[.int .i64 b] 3 :: boxA w.heap.size #[.pointer (some ⟨J, 0, none⟩)] 28 :: jA J D { j with n := j.n + (k : Int), used := total (R.take k) } :: dk F D s :: L)) wr) (fun v2 v3 _ => R.length - (lenV v2 + lenV v3))
  case atStart =>
    refine ⟨0, 1, by omega, rfl, ?_⟩
    rw [Nat.zero_sub, Nat.zero_min]
    exact HH.out.2.2.2.2.2.2.2
  case round =>
    obtain ⟨k, b, hk, hbe, hp⟩ := hrel
    obtain ⟨r, E, p, ht⟩ := HH.out.2.2.1 k hk
    obtain ⟨⟨a3, d3, rfl⟩, a2, d2, rfl⟩ := HH.out.2.2.2.2.2.1 k b _ _ _ hp
    have S1 := HH.out.1 [] k b _ _ _ hp
    have S2 := HH.out.1 [] k b _ _ _ hp.drew
    have hr1 := HH.out.2.1 k [] b _ _ _ hk hp.drew
    have hpb : Mem.Own w0 ([boxA wr.heap.size fz6 113] ++ (secA (.slice a3 (k - m) d3) (k - m) (fun i => xsF R (m + i)) :: secA (.slice a2 (min k m) d2) (min k m) (xsF R) :: boxA (w.heap.size + 1) #[.int .i64 b] 3 :: boxA w.heap.size #[.pointer (some ⟨J, 0, none⟩)] 28 :: jA J D { j with n := j.n + (k : Int), used := total (R.take k) } :: dk F D s :: L)) (wr.alloc (.cells fz6 113)).drew := (hp.box fz6 113).drew
    have S3 := HH.out.1 _ k b _ _ _ hpb
    have hr2 := HH.out.2.1 k _ b _ _ _ hk hpb
    rw [ht.f, ht.e, ← hbe] at hr1 hr2
    have hle : total (R.take k) ≤ total R := by
      have e := total_app (R.take k) (R.drop k)
      rw [List.take_append_drop] at e; omega
    have hQ : ∀ u V, Mem.Own w0 ([boxA V fz6 113] ++ (secA (.slice a3 (k - m) d3) (k - m) (fun i => xsF R (m + i)) :: secA (.slice a2 (min k m) d2) (min k m) (xsF R) :: boxA (w.heap.size + 1) #[.int .i64 b] 3 :: boxA w.heap.size #[.pointer (some ⟨J, 0, none⟩)] 28 :: jA J D { j with n := j.n + (k : Int), used := total (R.take k) } :: dk F D s :: L)) u → Mem.Own w0 ([boxA V #[.int .i64 r.boot, .int .i64 r.lsn, .int .i64 r.part, .int .i64 r.parts, .int .u8 (r.kind : Int), .string r.data] 113] ++ (secA (.slice a3 (k - m) d3) (k - m) (fun i => xsF R (m + i)) :: secA (.slice a2 (min k m) d2) (min k m) (xsF R) :: boxA (w.heap.size + 1) #[.int .i64 b] 3 :: boxA w.heap.size #[.pointer (some ⟨J, 0, none⟩)] 28 :: jA J D { j with n := j.n + (k : Int), used := total (R.take k) } :: dk F D s :: L)) ((((((u.setCell ⟨V, 0, none⟩ (.int .i64 r.boot)).setCell ⟨V, 1, none⟩ (.int .i64 r.lsn)).setCell ⟨V, 2, none⟩ (.int .i64 r.part)).setCell ⟨V, 3, none⟩ (.int .i64 r.parts)).setCell ⟨V, 4, none⟩ (.int .u8 (r.kind : Int))).setCell ⟨V, 5, none⟩ (.string r.data)) := fun u V hu =>
      (((((hu.boxset 0 rfl 0 (.int .i64 r.boot)).boxset 0 rfl 1 (.int .i64 r.lsn)).boxset 0 rfl 2 (.int .i64 r.part)).boxset 0 rfl 3 (.int .i64 r.parts)).boxset 0 rfl 4 (.int .u8 (r.kind : Int))).boxset 0 rfl 5 (.string r.data)
    have hB : ∀ u cs, Mem.Own w0 ([] ++ (secA (.slice a3 (k - m) d3) (k - m) (fun i => xsF R (m + i)) :: secA (.slice a2 (min k m) d2) (min k m) (xsF R) :: boxA (w.heap.size + 1) #[.int .i64 b] 3 :: boxA w.heap.size #[.pointer (some ⟨J, 0, none⟩)] 28 :: jA J D { j with n := j.n + (k : Int), used := total (R.take k) } :: dk F D s :: L)) u → Mem.Own w0 ([boxA u.heap.size cs 113] ++ (secA (.slice a3 (k - m) d3) (k - m) (fun i => xsF R (m + i)) :: secA (.slice a2 (min k m) d2) (min k m) (xsF R) :: boxA (w.heap.size + 1) #[.int .i64 b] 3 :: boxA w.heap.size #[.pointer (some ⟨J, 0, none⟩)] 28 :: jA J D { j with n := j.n + (k : Int), used := total (R.take k) } :: dk F D s :: L)) (u.alloc (.cells cs 113)) := fun u cs hu => hu.box cs 113
    have hbx : ∀ u V, Mem.Own w0 ([boxA V fz6 113] ++ (secA (.slice a3 (k - m) d3) (k - m) (fun i => xsF R (m + i)) :: secA (.slice a2 (min k m) d2) (min k m) (xsF R) :: boxA (w.heap.size + 1) #[.int .i64 b] 3 :: boxA w.heap.size #[.pointer (some ⟨J, 0, none⟩)] 28 :: jA J D { j with n := j.n + (k : Int), used := total (R.take k) } :: dk F D s :: L)) u → (u.cell? ⟨V, 0, none⟩ = some (.int .i64 0) ∧ u.cell? ⟨V, 1, none⟩ = some (.int .i64 0) ∧ u.cell? ⟨V, 2, none⟩ = some (.int .i64 0) ∧ u.cell? ⟨V, 3, none⟩ = some (.int .i64 0) ∧ u.cell? ⟨V, 4, none⟩ = some (.int .u8 0) ∧ u.cell? ⟨V, 5, none⟩ = some (.string ⟨#[]⟩)) ∧ ∀ i, u.frozen? ⟨V, i, none⟩ = false := fun u V hu => rblock (hu.boxed 0 rfl)
    have hw1 : IntKind.i64.wrap (j.n + (k : Int) + 1) = j.n + (k : Int) + 1 := by rw [IntKind.wrap_i64]; omega
    have hrb : ∀ u V, Mem.Own w0 ([boxA V #[.int .i64 r.boot, .int .i64 r.lsn, .int .i64 r.part, .int .i64 r.parts, .int .u8 (r.kind : Int), .string r.data] 113] ++ (secA (.slice a3 (k - m) d3) (k - m) (fun i => xsF R (m + i)) :: secA (.slice a2 (min k m) d2) (min k m) (xsF R) :: boxA (w.heap.size + 1) #[.int .i64 b] 3 :: boxA w.heap.size #[.pointer (some ⟨J, 0, none⟩)] 28 :: jA J D { j with n := j.n + (k : Int), used := total (R.take k) } :: dk F D s :: L)) u → (u.cell? ⟨V, 0, none⟩ = some (.int .i64 r.boot) ∧ u.cell? ⟨V, 1, none⟩ = some (.int .i64 r.lsn) ∧ u.cell? ⟨V, 2, none⟩ = some (.int .i64 r.part) ∧ u.cell? ⟨V, 3, none⟩ = some (.int .i64 r.parts) ∧ u.cell? ⟨V, 4, none⟩ = some (.int .u8 (r.kind : Int)) ∧ u.cell? ⟨V, 5, none⟩ = some (.string r.data)) ∧ Mem.Own w0 (secA (.slice a3 (k - m) d3) (k - m) (fun i => xsF R (m + i)) :: secA (.slice a2 (min k m) d2) (min k m) (xsF R) :: boxA (w.heap.size + 1) #[.int .i64 b] 3 :: boxA w.heap.size #[.pointer (some ⟨J, 0, none⟩)] 28 :: jA J D { j with n := j.n + (k : Int), used := total (R.take k) } :: dk F D s :: L) u := fun u V hu => ⟨(rblock (hu.boxed 0 rfl)).1, hu.tail⟩
    have HK := Lib.hid (And.intro hQ (And.intro hB (And.intro hbx (And.intro ht (And.intro hbe (And.intro hp hrb))))))
    have HR := Lib.hid (And.intro hr1 (hr2.mono fun e u h => And.intro h (hbx u _ h.2)))
    have hrb : ∀ u V, Mem.Own w0 ([boxA V #[.int .i64 r.boot, .int .i64 r.lsn, .int .i64 r.part, .int .i64 r.parts, .int .u8 (r.kind : Int), .string r.data] 113] ++ (secA (.slice a3 (k - m) d3) (k - m) (fun i => xsF R (m + i)) :: secA (.slice a2 (min k m) d2) (min k m) (xsF R) :: boxA (w.heap.size + 1) #[.int .i64 b] 3 :: boxA w.heap.size #[.pointer (some ⟨J, 0, none⟩)] 28 :: jA J D { j with n := j.n + (k : Int), used := total (R.take k) } :: dk F D s :: L)) u → (u.cell? ⟨V, 0, none⟩ = some (.int .i64 r.boot) ∧ u.cell? ⟨V, 1, none⟩ = some (.int .i64 r.lsn) ∧ u.cell? ⟨V, 2, none⟩ = some (.int .i64 r.part) ∧ u.cell? ⟨V, 3, none⟩ = some (.int .i64 r.parts) ∧ u.cell? ⟨V, 4, none⟩ = some (.int .u8 (r.kind : Int)) ∧ u.cell? ⟨V, 5, none⟩ = some (.string r.data)) ∧ Mem.Own w0 (secA (.slice a3 (k - m) d3) (k - m) (fun i => xsF R (m + i)) :: secA (.slice a2 (min k m) d2) (min k m) (xsF R) :: boxA (w.heap.size + 1) #[.int .i64 b] 3 :: boxA w.heap.size #[.pointer (some ⟨J, 0, none⟩)] 28 :: jA J D { j with n := j.n + (k : Int), used := total (R.take k) } :: dk F D s :: L) u := fun u V hu => ⟨(rblock (hu.boxed 0 rfl)).1, hu.tail⟩
    have HK := Lib.hid (And.intro hQ (And.intro hB (And.intro hbx (And.intro ht (And.intro hbe (And.intro hp hrb))))))
    obtain ⟨s1, s2, s3, s8, s9, s10, s5⟩ := S1
    have S1 := HH.out.1 [] k b _ _ _ HK.out.2.2.2.2.2.1
    clear hQ hB hbx ht hbe hp hpb hr1 hr2 hrb
    go_wp2
    go_cut [7, 8] from 22 to 81 (fun v7 v8 wx => ∃ B7, v7 = .pointer (some ⟨B7, 0, none⟩) ∧ v8 = .int .i64 E ∧ Mem.Own w0 ([boxA B7 #[.int .i64 r.boot, .int .i64 r.lsn, .int .i64 r.part, .int .i64 r.parts, .int .u8 (r.kind : Int), .string r.data] 113] ++ (secA (.slice a3 (k - m) d3) (k - m) (fun i => xsF R (m + i)) :: secA (.slice a2 (min k m) d2) (min k m) (xsF R) :: boxA (w.heap.size + 1) #[.int .i64 b] 3 :: boxA w.heap.size #[.pointer (some ⟨J, 0, none⟩)] 28 :: jA J D { j with n := j.n + (k : Int), used := total (R.take k) } :: dk F D s :: L)) wx)
    case first =>
      go_region_held3 (fun W => W.cell? ⟨w.heap.size, 0, none⟩ = some (.pointer (some ⟨J, 0, none⟩)) ∧ W.cell? ⟨J, 0, none⟩ = some (.pointer (some ⟨D, 0, none⟩)) ∧ W.cell? ⟨J, 1, none⟩ = some (.int .i64 (j.area : Int)) ∧ W.cell? ⟨J, 8, none⟩ = some (.int .i64 (m : Int)) ∧ W.cell? ⟨J, 9, none⟩ = some (.int .i64 (j.n + (k : Int))) ∧ W.cell? ⟨J, 10, none⟩ = some (.int .i64 (total (R.take k) : Int)) ∧ W.cell? ⟨w.heap.size + 1, 0, none⟩ = some (.int .i64 b))
        (first | with_reducible assumption)
        (first
          | (go_at_call 56; (with_reducible refine (sector_c _ _ ⟨by omega, by omega⟩ _).mono ?_); rintro e u3 ⟨rfl, rfl⟩)
          | (go_at_call 75; (with_reducible refine HR.out.1.mono ?_); rintro e u6 ⟨rfl, k6'⟩; have S4 := HH.out.1 _ k b _ _ _ k6'; have kz := HK.out.2.1 _ fz6 k6'; have S5 := HH.out.1 _ k b _ _ _ kz; have kq := HK.out.2.1 _ #[.int .i64 r.boot, .int .i64 r.lsn, .int .i64 r.part, .int .i64 r.parts, .int .u8 (r.kind : Int), .string r.data] k6'; have S6 := HH.out.1 _ k b _ _ _ kq; have k7 := Lib.hid kq; clear k6' kz kq)
          | (go_at_call 75; (with_reducible refine HR.out.2.mono ?_); rintro e u6 ⟨⟨rfl, k6'⟩, ⟨_, _, _, _, _, _⟩, zz⟩; have fz0 := zz 0; have fz1 := zz 1; have fz2 := zz 2; have fz3 := zz 3; have fz4 := zz 4; have fz5 := zz 5; clear zz; have S4 := HH.out.1 _ k b _ _ _ k6'; have k6q := HK.out.1 _ _ k6'; have S5 := HH.out.1 _ k b _ _ _ k6q; have k6 := Lib.hid k6q; clear k6' k6q))

      all_goals
        go_wp2_with fail
        go_meet
        case rel => first | exact ⟨_, rfl, rfl, k6.out⟩ | exact ⟨_, rfl, rfl, k7.out⟩
    case rest =>
      obtain ⟨B7, rfl, rfl, q7⟩ := hcut
      obtain ⟨⟨x0, x1, x2, x3, x4, x5⟩, q8⟩ := HK.out.2.2.2.2.2.2 _ _ q7
      obtain ⟨y1, y2, y3, y8, y9, y10, y5⟩ := HH.out.1 [] k b _ _ _ q8
      clear q7 s1 s2 s3 s8 s9 s10 s5 S1 S2 S3
      rcases HK.out.2.2.2.1.way with ⟨hlt, rfl, hkind, hl, hx, htot, hbe2⟩ | ⟨hkR, hway⟩
      · by_cases hkm : k < m
        · have tk1 : ((r.kind : Int) == 1) = true := by
            have : r.kind = 1 := by rw [hkind]; unfold want; rw [if_pos (by omega)]
            rw [this]; rfl
          have hcl := HH.out.2.2.2.1 (.slice a3 (k - m) d3) (.slice a2 (min k m) d2) k b r p wc hlt hkm hx htot hbe2 hl HK.out.2.2.2.1.parts HK.out.2.2.2.1.small q8
          have tm : decide (((min k m : Nat) : Int) < (m : Int)) = true := by simp; omega
          have HC := Lib.hid (And.intro hcl (And.intro hlt hkm))
          clear hcl q8 hkind hl hx htot hbe2
          go_wp2_with (go_at_call 74; (with_reducible refine HC.out.1.mono ?_); rintro e u8 ⟨v', rfl, k8'⟩; obtain ⟨_, a5, d5, rfl⟩ := HH.out.2.2.2.2.2.1 _ _ _ _ _ k8'; have k8 := Lib.hid k8'; clear k8')
          go_roundw
          case rel => exact ⟨k + 1, _, by have := HC.out.2.1; omega, rfl, by rw [show k + 1 - m = k - m by have := HC.out.2.2; omega] at *; exact k8.out⟩
          case measure => have h1 := HC.out.2.1; have h2 := HC.out.2.2; simp only [lenV]; omega
        · have tk1 : ((r.kind : Int) == 2) = true := by
            have : r.kind = 2 := by rw [hkind]; unfold want; rw [if_neg (by omega)]
            rw [this]; rfl
          have hcl := HH.out.2.2.2.2.1 (.slice a3 (k - m) d3) (.slice a2 (min k m) d2) k b r p wc hlt hkm hx htot hbe2 hl HK.out.2.2.2.1.parts HK.out.2.2.2.1.small q8
          have tm : decide (((min k m : Nat) : Int) < (m : Int)) = false := by simp; omega
          have HC := Lib.hid (And.intro hcl (And.intro hlt hkm))
          clear hcl q8 hkind hl hx htot hbe2
          go_wp2_with (go_at_call 74; (with_reducible refine HC.out.1.mono ?_); rintro e u8 ⟨v', rfl, k8'⟩; obtain ⟨⟨a5, d5, rfl⟩, _⟩ := HH.out.2.2.2.2.2.1 _ _ _ _ _ k8'; have k8 := Lib.hid k8'; clear k8')
          go_roundw
          case rel => exact ⟨k + 1, _, by have := HC.out.2.1; omega, rfl, by rw [show min (k + 1) m = min k m by have := HC.out.2.2; omega] at *; exact k8.out⟩
          case measure => have h1 := HC.out.2.1; have h2 := HC.out.2.2; simp only [lenV]; omega
      · subst hkR
        have hfin := HH.out.2.2.2.2.2.2.1 _ _ b wc q8
        have HE := Lib.hid (And.intro trivial hfin)
        clear q8 hfin
        rcases hway with rfl | ⟨rfl, hkind⟩
        · go_wp2
          rw [Exit.noGoto_ret]
          go_ret2
          exact ⟨_, _, rfl, HE.out.2⟩
        · by_cases hkm : R.length < m
          · have tm : decide (((min R.length m : Nat) : Int) < (m : Int)) = true := by simp; omega
            have tn : min R.length m < m := by omega
            have tn2 : decide (min R.length m < m) = true := by simp; omega
            have tk1 : ((r.kind : Int) == 1) = false := by
              have : r.kind ≠ 1 := by intro e; apply hkind; rw [e]; unfold want; rw [if_pos (by omega)]
              simp; omega
            have tk2 : ¬ r.kind = 1 := by simp at tk1; omega
            have tk3 : ¬ (r.kind : Int) = 1 := by omega
            have tk4 : decide ((r.kind : Int) = 1) = false := by simp; omega
            have tk5 : decide (r.kind = 1) = false := by simp; omega
            clear hkind hkm
            cases h2 : ((r.kind : Int) == 2) <;> (
              go_wp2
              rw [Exit.noGoto_ret]
              go_ret2
              exact ⟨_, _, rfl, HE.out.2⟩)
          · have tm : decide (((min R.length m : Nat) : Int) < (m : Int)) = false := by simp; omega
            have tn : ¬ min R.length m < m := by omega
            have tn2 : decide (min R.length m < m) = false := by simp; omega
            have tk1 : ((r.kind : Int) == 2) = false := by
              have : r.kind ≠ 2 := by intro e; apply hkind; rw [e]; unfold want; rw [if_neg (by omega)]
              simp; omega
            have tk2 : ¬ r.kind = 2 := by simp at tk1; omega
            have tk3 : ¬ (r.kind : Int) = 2 := by omega
            have tk4 : decide ((r.kind : Int) = 2) = false := by simp; omega
            have tk5 : decide (r.kind = 2) = false := by simp; omega
            clear hkind hkm
            cases h2 : ((r.kind : Int) == 1) <;> (
              go_wp2
              rw [Exit.noGoto_ret]
              go_ret2
              exact ⟨_, _, rfl, HE.out.2⟩)
end Go.Proofs.YtckbhjjflpobbaaGreat.Jk
