/-
  SpecRow (layer 13): its walk. (Written by program.)
-/
import Derived.Test.YtngojgocplmedaaRZy
namespace Go.Proofs.YtngojgocplmedaaR.Ls
open Go.RowKit Go.Proofs.YtngojgocplmedaaR.Mem Go.Proofs.YtngojgocplmedaaR.Bx Go.Proofs.YtngojgocplmedaaR.In Go.Proofs.YtngojgocplmedaaR.Sp Go.Proofs.YtngojgocplmedaaR.Nr Go.ChangeShapes Go.WideShapes Go.ChangeAt
set_option linter.unusedVariables false
/-- A specification as an element of a slice. -/
def elS : El (Sp × Pl) where
  T := 27
  S := 48
  k := 6
  bytes := 80
  zero := .agg #[.int .i64 0, .int .i64 0, .int .i64 0, .int .i64 0, .slice none 0 0, .slice none 0 0]
  cs x := [.int .i64 x.1.id, .int .i64 x.1.c, .int .i64 x.1.m, .int .i64 x.1.d, .slice x.2.po x.2.pn x.2.pc, .slice x.2.to x.2.tn x.2.tc]
theorem elS_fine : elS.fine where
  under := by kernel_rfl
  el := by kernel_rfl
  info := by kernel_rfl
  size := fun _ => by kernel_rfl
  zc := by kernel_rfl
  pos := by decide
  few := by decide
  len := fun _ => rfl
  one := fun x u hu => by
    simp only [elS, List.mem_cons, List.not_mem_nil, or_false] at hu
    rcases hu with rfl | rfl | rfl | rfl | rfl | rfl <;> rfl
/-- A row of another type stays as it is while a row grows. -/
theorem owns_grown {B : Nat} {U V : TypeId} {k m n c cap : Nat} {w w' : World} {ao bo : Option Addr} {xs ys : List Value} (h : w.ownsRow B U k (.slice ao n c) n xs) {j : Nat} (r : w.ownsRow B V j (.slice bo m cap) m ys) (hV : U ≠ V) (g : w.grownBy w' (Value.ownBlock (.slice bo m cap))) : w'.ownsRow B U k (.slice ao n c) n xs := by
  refine ⟨h.1, ?_⟩
  rcases h.2 with h2 | ⟨b, c', cur, e, hb, hh, hr⟩
  · exact .inl h2
  · refine .inr ⟨b, c', cur, e, hb, (g.block b (lt_of_block hh) fun hx => ?_).trans hh, hr⟩
    rcases r.2 with ⟨e2, _⟩ | ⟨b2, c2, cur2, e2, _, hh2, _⟩
    · rw [e2] at hx; simp [Value.ownBlock] at hx
    · rw [e2] at hx
      simp [Value.ownBlock] at hx
      subst hx
      rw [hh] at hh2
      injection hh2 with h3
      injection h3 with _ h4
      exact hV h4
/-- Specifications of the call's own, in a row. -/
structure Lst (B : Nat) (w : World) (ao : Option Addr) (n c : Nat) (l : List (Sp × Pl)) : Prop where
  row : NewE elS B w ao n c l
  each : ∀ x ∈ l, SpNew B w x.1 x.2
theorem Lst.kept {B : Nat} {w w' : World} {ao : Option Addr} {n c : Nat} {l : List (Sp × Pl)} (h : Lst B w ao n c l) (k : Kept w w') : Lst B w' ao n c l := ⟨h.row.kept k, fun x hx => (h.each x hx).kept k⟩
theorem Lst.add {B : Nat} {w w' : World} {ao bo : Option Addr} {n c m d : Nat} {l : List (Sp × Pl)} {x : Sp × Pl} (h : Lst B w ao n c l) (hx : SpNew B w x.1 x.2) (r : NewE elS B w' bo m d (l ++ [x])) (g : w.grownBy w' (Value.ownBlock (.slice ao n c))) : Lst B w' bo m d (l ++ [x]) :=
  ⟨r, fun y hy => by
    have : SpNew B w y.1 y.2 := by
      rcases List.mem_append.1 hy with hy | hy
      · exact h.each y hy
      · rw [List.mem_singleton] at hy; subst hy; exact hx
    exact ⟨⟨owns_grown this.ports.row h.row.2 (by decide) g, this.ports.fit⟩, ⟨this.tasks.1, owns_grown this.tasks.2 h.row.2 (by decide) g⟩⟩⟩
/-- The bytes of specifications, one after another. -/
def catB : List (Sp × Pl) → ByteArray
  | [] => ⟨#[]⟩
  | x :: l => x.1.bytes ++ catB l
theorem catB_snoc (l : List (Sp × Pl)) (x : Sp × Pl) : catB (l ++ [x]) = catB l ++ x.1.bytes := by
  induction l with
  | nil =>
    show x.1.bytes ++ ByteArray.empty = ByteArray.empty ++ x.1.bytes
    rw [ByteArray.empty_append, ByteArray.append_empty]
  | cons y l ih => rw [List.cons_append, catB, ih, catB, ByteArray.append_assoc]
theorem catB_size {l : List (Sp × Pl)} (h : ∀ x ∈ l, x.1.good) : (catB l).size ≤ 200 * l.length := by
  induction l with
  | nil => exact Nat.le_refl _
  | cons y l ih =>
    have h1 := bytes_few (h y (by simp))
    have h2 := ih fun x hx => h x (by simp [hx])
    rw [catB, ByteArray.size_append, List.length_cons, Nat.mul_succ]; omega
theorem bytes_some {x : Sp} : 1 ≤ x.bytes.size := by
  have h1 := (Pk.num_len x.id.toNat).1
  rw [Sp.bytes, size_encs, Sp.nums]
  simp only [Sp.head, List.map_append, List.sum_append, List.map_cons, List.sum_cons]
  omega
theorem catB_drop {l : List (Sp × Pl)} {k : Nat} {x : Sp × Pl} (h : l[k]? = some x) : catB (l.drop k) = x.1.bytes ++ catB (l.drop (k + 1)) := by
  obtain ⟨hj, e⟩ := List.getElem?_eq_some_iff.1 h
  rw [List.drop_eq_getElem_cons hj, e, catB]
set_option maxHeartbeats 16000000 in
set_option maxRecDepth 100000 in
theorem row_core (P : SpecP) (ao : Option Addr) (len cap : Nat) (X : Nat → Sp × Pl) (w : World) (hX : Sps w ao len cap X) : Calls Try.prog 8 #[.slice ao len cap] w fun e w' => e = .returned (.bool true) ∧ Kept w w' := by
  have c1 := fun {u : World} {s : Sp} {p : Pl} (h : SpAt u s p) => P.enc h
  have c2 := fun (s : ByteArray) (u : World) (h : s.size ≤ 1000000) => P.dec s u h
  have c3 : ∀ (u : World) (x : Sp) (q1 : Option Addr) (q2 q3 : Nat) (q4 : Option Addr) (q5 q6 : Nat) (r1 : Option Addr) (r2 r3 : Nat) (r4 : Option Addr) (r5 r6 : Nat), SpAt u x ⟨q1, q2, q3, q4, q5, q6⟩ → SpAt u x ⟨r1, r2, r3, r4, r5, r6⟩ → Calls Try.prog 16 #[.agg #[.int .i64 x.id, .int .i64 x.c, .int .i64 x.m, .int .i64 x.d, .slice q1 q2 q3, .slice q4 q5 q6], .agg #[.int .i64 x.id, .int .i64 x.c, .int .i64 x.m, .int .i64 x.d, .slice r1 r2 r3, .slice r4 r5 r6]] u fun e w' => e = .returned (.bool true) ∧ Kept u w' := fun u x q1 q2 q3 q4 q5 q6 r1 r2 r3 r4 r5 r6 h k => by have := P.eq h k; rwa [decide_eq_true (p := x = x) rfl] at this
  have c4 := awake_c P
  have HP := Lib.hid (And.intro P (And.intro c3 c4))
  clear c1 c2 c3 c4 P
  have hlen : len ≤ maxLen := Nat.le_trans hX.le hX.max
  unfold maxLen at hlen
  have HL := Lib.hid hX
  clear hX
  go_enter Try.func8, Try.ntmps8
  go_wp2_with fail
  go_loopw [3, 4, 5] (fun s g i wr => ∃ (j n c : Nat) (bo : Option Addr) (l : List (Sp × Pl)), j ≤ len ∧ j ≤ 6 ∧ i = .int .i64 j ∧ n ≤ j ∧ s = .string (catB l) ∧ g = .slice bo n c ∧ Lst w.heap.size wr bo n c l ∧ (∀ x ∈ l, x.1.good) ∧ Kept w wr) (fun _ _ i _ => 6 - (RowKit.intOf i).toNat)
  case atStart => exact ⟨0, 0, 0, none, [], Nat.zero_le _, Nat.zero_le _, rfl, Nat.zero_le _, rfl, rfl, ⟨NewE.empty _ _ _, fun x hx => by simp at hx⟩, fun x hx => by simp at hx, Kept.refl _⟩
  case round =>
    obtain ⟨j, n, c, bo, l, hj, hj6, rfl, hnj, rfl, rfl, hlst, hgood, hk⟩ := hrel
    have hbs := catB_size hgood
    have hll : l.length = n := hlst.row.1
    rw [hll] at hbs
    have HR := Lib.hid (And.intro hlst (And.intro hgood (And.intro hk hll)))
    clear hlst hgood hll
    by_cases hlt : j < len ∧ j < 6
    · obtain ⟨hlt, hlt6⟩ := hlt
      have d1 : decide ((j : Int) < (len : Int)) = true := decide_eq_true (by omega)
      have d2 : decide ((j : Int) < 6) = true := decide_eq_true (by omega)
      have j0 : (0 : Int) ≤ (j : Int) := by omega
      have j1 : (j : Int) < (len : Int) := by omega
      obtain ⟨g, o, rfl, hg, hcs, hat⟩ := HL.out.cell j hlt
      have hcw : ∀ W, Kept w W → W.cell? ⟨g, o + j * 6, none⟩ = some (.int .i64 (X j).1.id) ∧ W.cell? ⟨g, o + j * 6 + 1, none⟩ = some (.int .i64 (X j).1.c) ∧ W.cell? ⟨g, o + j * 6 + 2, none⟩ = some (.int .i64 (X j).1.m) ∧ W.cell? ⟨g, o + j * 6 + 3, none⟩ = some (.int .i64 (X j).1.d) ∧ W.cell? ⟨g, o + j * 6 + 4, none⟩ = some (.slice (X j).2.po (X j).2.pn (X j).2.pc) ∧ W.cell? ⟨g, o + j * 6 + 5, none⟩ = some (.slice (X j).2.to (X j).2.tn (X j).2.tc) := fun W k =>
        ⟨(Kept.cell k (p := ⟨g, _, none⟩) hg).trans (hcs 0 _ rfl), (Kept.cell k (p := ⟨g, _, none⟩) hg).trans (hcs 1 _ rfl), (Kept.cell k (p := ⟨g, _, none⟩) hg).trans (hcs 2 _ rfl), (Kept.cell k (p := ⟨g, _, none⟩) hg).trans (hcs 3 _ rfl), (Kept.cell k (p := ⟨g, _, none⟩) hg).trans (hcs 4 _ rfl), (Kept.cell k (p := ⟨g, _, none⟩) hg).trans (hcs 5 _ rfl)⟩
      obtain ⟨⟨x, p⟩, hxp⟩ : ∃ y, X j = y := ⟨_, rfl⟩
      rw [hxp] at hcw hat
      obtain ⟨p1, p2, p3, p4, p5, p6⟩ := p
      have hcw2 := hcw _ hk
      have HC := Lib.hid (And.intro hcw hat)
      clear hcw hat hcs hk
      obtain ⟨m0, m1, m2, m3, m4, m5⟩ := hcw2
      have hF := few6 x p1 p2 p3 p4 p5 p6
      generalize few x = Y at hF
      have HF := Lib.hid hF
      clear hF
      obtain ⟨A, hA⟩ : ∃ A, A = encV Y := ⟨_, rfl⟩
      obtain ⟨E, hE⟩ : ∃ E, E = spSays Y := ⟨_, rfl⟩
      have c1 : Encs Y A E := fun u q1 q2 q3 q4 q5 q6 h => by have := HP.out.1.enc h; rwa [← hA, ← hE] at this
      have HE := Lib.hid c1
      clear c1
      by_cases hE0 : E = 0
      · have gY := (sp_say Y).1 (by rw [← hE]; exact hE0)
        have eA : A = Y.bytes := by rw [hA, encV_good (by rw [← hE]; exact hE0)]
        have hAs : A.size ≤ 200 := by rw [eA]; exact bytes_few gY
        have HY := Lib.hid (And.intro gY eA)
        subst hE0
        clear hA hE gY eA
        have hsum : (catB l).size + A.size ≤ 2000 := by omega
        obtain ⟨Bs, hBs⟩ : ∃ Bs, Bs = catB l := ⟨_, rfl⟩
        rw [← hBs] at hsum hbs ⊢
        have HB := Lib.hid hBs
        clear hBs
        go_wp2_with (first
          | (go_at_call 9; first
            | (have hh := N1.out; clear hh; (with_reducible refine (HF.out _ (HC.out.2.kept K2.out)).mono ?_); rintro e w3 ⟨r1, r2, r3, r4, r5, r6, rfl, n3, k3⟩; clear m0 m1 m2 m3 m4 m5; have N3 := Lib.hid (n3.base K2.out.size); clear n3; have R3 := Lib.hid (HR.out.1.kept ((k1.trans k2).trans k3)); have K3 := Lib.hid (K2.out.trans k3); clear k3)
            | ((with_reducible refine (HF.out _ (HC.out.2.kept HR.out.2.2.1)).mono ?_); rintro e w1 ⟨q1, q2, q3, q4, q5, q6, rfl, n1, k1⟩; have N1 := Lib.hid n1.at; clear n1; have K1 := Lib.hid (HR.out.2.2.1.trans k1)))
          | (go_at_call 10; (with_reducible refine (HE.out _ q1 q2 q3 q4 q5 q6 N1.out).mono ?_); rintro e w2 ⟨rfl, k2⟩; have K2 := Lib.hid (K1.out.trans k2); clear m0 m1 m2 m3 m4 m5; obtain ⟨m0, m1, m2, m3, m4, m5⟩ := HC.out.1 _ K2.out)
          | (at_builtin; (refine wpList_appE (E := elS) (N := n + 1) elS_fine (R3.out.kept ((Kept.refl _).alloc _)).row ((NewE.lit (B := 0) elS_fine w3 (Nat.zero_le _) [(Y, (⟨r1, r2, r3, r4, r5, r6⟩ : Pl))] (by simp [maxLen])).at elS_fine) ((K3.out.alloc _).size) rfl (by omega) rfl _ _ rfl rfl rfl ?_; intro bo' c' w4 m4' g4 f4; have K4 := Lib.hid (f4 w (Nat.le_refl _) (K3.out.alloc _)); have R4 := Lib.hid (Lst.add (x := (Y, (⟨r1, r2, r3, r4, r5, r6⟩ : Pl))) (R3.out.kept ((Kept.refl _).alloc _)) (N3.out.kept ((Kept.refl _).alloc _)) m4' g4); clear m4' g4 f4)))
        go_roundw
        case rel =>
          refine ⟨j + 1, n + 1, c', bo', l ++ [(Y, (⟨r1, r2, r3, r4, r5, r6⟩ : Pl))], by omega, by omega, by go_num, by omega, ?_, rfl, R4.out, fun z hz => ?_, K4.out⟩
          · rw [catB_snoc, ← HB.out, HY.out.2]
          · rcases List.mem_append.1 hz with hz | hz
            · exact HR.out.2.1 z hz
            · rw [List.mem_singleton] at hz; subst hz; exact HY.out.1
        case measure => simp [RowKit.intOf]; omega
      · have n1 : (E == 0) = false := by simpa using hE0
        clear hA hE
        go_wp2_with (first
          | (go_at_call 9; (with_reducible refine (HF.out _ (HC.out.2.kept HR.out.2.2.1)).mono ?_); rintro e w1 ⟨q1, q2, q3, q4, q5, q6, rfl, n1, k1⟩; have N1 := Lib.hid n1.at; clear n1; have K1 := Lib.hid (HR.out.2.2.1.trans k1))
          | (go_at_call 10; (with_reducible refine (HE.out _ q1 q2 q3 q4 q5 q6 N1.out).mono ?_); rintro e w2 ⟨rfl, k2⟩; have K2 := Lib.hid (K1.out.trans k2); clear m0 m1 m2 m3 m4 m5))
        go_roundw
        case rel => exact ⟨j + 1, n, c, bo, l, by omega, by omega, by go_num, by omega, rfl, rfl, HR.out.1.kept (k1.trans k2), HR.out.2.1, K2.out⟩
        case measure => simp [RowKit.intOf]; omega
    · have dd : (j < len ∧ ¬ j < 6) ∨ ¬ j < len := by omega
      have h0 : catB l = catB (l.drop 0) := by rw [List.drop_zero]
      obtain ⟨Bs, hBs⟩ : ∃ Bs, Bs = catB l := ⟨_, rfl⟩
      rw [← hBs] at hbs h0 ⊢
      have HB := Lib.hid h0
      clear h0 hBs hlt hk
      have n62 : (n : Int) ≤ 6 := by omega
      obtain ⟨wo, rfl⟩ : ∃ wo : World, wo = wr := ⟨_, rfl⟩
      rcases dd with ⟨e1, e2⟩ | e1
      all_goals
        first
          | (have d1 : decide ((j : Int) < (len : Int)) = true := decide_eq_true (by omega); have d2 : decide ((j : Int) < 6) = false := decide_eq_false (by omega); clear d2; have d2 : decide ((j : Int) < 6) = false := decide_eq_false (by omega))
          | (have d1 : decide ((j : Int) < (len : Int)) = false := decide_eq_false (by omega))
        go_wp2_with fail
        go_loopw [3, 8] (fun s i wq => ∃ (k : Nat) (Z : ByteArray), k ≤ n ∧ i = .int .i64 k ∧ s = .string Z ∧ Z = catB (l.drop k) ∧ Kept wo wq) (fun _ i _ => n - (RowKit.intOf i).toNat)
        case atStart => exact ⟨0, Bs, Nat.zero_le _, rfl, rfl, HB.out, Kept.refl _⟩
        case round =>
          obtain ⟨k, Z, hkn, rfl, rfl, hZ, hkq⟩ := hrel
          have HK := Lib.hid hkq
          have HZ := Lib.hid hZ
          clear hkq hZ
          by_cases hlt : k < n
          · have d3 : decide ((k : Int) < (n : Int)) = true := decide_eq_true (by omega)
            have k0 : (0 : Int) ≤ (k : Int) := by omega
            have k1 : (k : Int) < (n : Int) := by omega
            obtain ⟨y, g, o, hy, rfl, hg, hcs⟩ := (HR.out.1.row.at elS_fine).get hlt
            have hin := List.mem_of_getElem? hy
            have gY := HR.out.2.1 y hin
            have sY := (HR.out.1.each y hin).at
            have hd := catB_drop hy
            obtain ⟨Y, p1, p2, p3, p4, p5, p6⟩ := y
            obtain ⟨rest, hrest⟩ : ∃ rest, rest = catB (l.drop (k + 1)) := ⟨_, rfl⟩
            have hZ2 : Z = Y.bytes ++ rest := by rw [HZ.out, hrest]; exact hd
            have hsz : rest.size < Z.size := by rw [hZ2, ByteArray.size_append]; have := bytes_some (x := Y); omega
            have hZs : Z.size ≤ 1200 := by
              rw [HZ.out]
              have h1 := catB_size (l := l.drop k) fun z hz => HR.out.2.1 z (List.mem_of_mem_drop hz)
              rw [List.length_drop, HR.out.2.2.2] at h1
              omega
            have cD := dec_is (s := Z) (S := Y) (t := rest) (E := 0) (.inl ⟨rfl, gY, hZ2⟩) (fun u => HP.out.1.dec Z u (by omega))
            have d5 : decide ((Z.size : Int) ≤ (rest.size : Int)) = false := decide_eq_false (by omega)
            have d6 : ¬ Z.size ≤ rest.size := by omega
            have hcw : ∀ W, Kept wo W → W.cell? ⟨g, o + k * 6, none⟩ = some (.int .i64 Y.id) ∧ W.cell? ⟨g, o + k * 6 + 1, none⟩ = some (.int .i64 Y.c) ∧ W.cell? ⟨g, o + k * 6 + 2, none⟩ = some (.int .i64 Y.m) ∧ W.cell? ⟨g, o + k * 6 + 3, none⟩ = some (.int .i64 Y.d) ∧ W.cell? ⟨g, o + k * 6 + 4, none⟩ = some (.slice p1 p2 p3) ∧ W.cell? ⟨g, o + k * 6 + 5, none⟩ = some (.slice p4 p5 p6) := fun W k =>
              ⟨(Kept.cell k (p := ⟨g, _, none⟩) hg).trans (hcs 0 _ rfl), (Kept.cell k (p := ⟨g, _, none⟩) hg).trans (hcs 1 _ rfl), (Kept.cell k (p := ⟨g, _, none⟩) hg).trans (hcs 2 _ rfl), (Kept.cell k (p := ⟨g, _, none⟩) hg).trans (hcs 3 _ rfl), (Kept.cell k (p := ⟨g, _, none⟩) hg).trans (hcs 4 _ rfl), (Kept.cell k (p := ⟨g, _, none⟩) hg).trans (hcs 5 _ rfl)⟩
            have HD := Lib.hid (And.intro cD (And.intro sY (And.intro hcw (And.intro hrest hZs))))
            clear cD sY hcw hrest hd hin hy hcs gY hZ2
            go_upto_region 13 with (go_at_call 18; (with_reducible refine (HD.out.1 _).mono ?_); rintro e w5 ⟨d1', d2', d3', d4', d5', d6', rfl, nd, kd⟩; have ND := Lib.hid nd; clear nd)
            have hS : ∀ W, Kept (w5.alloc (.cells #[.int .i64 Y.id, .int .i64 Y.c, .int .i64 Y.m, .int .i64 Y.d, .slice d1' d2' d3', .slice d4' d5' d6'] 27)) W → (W.cell? ⟨w5.heap.size, 0, none⟩ = some (.int .i64 Y.id) ∧ W.cell? ⟨w5.heap.size, 1, none⟩ = some (.int .i64 Y.c) ∧ W.cell? ⟨w5.heap.size, 2, none⟩ = some (.int .i64 Y.m) ∧ W.cell? ⟨w5.heap.size, 3, none⟩ = some (.int .i64 Y.d) ∧ W.cell? ⟨w5.heap.size, 4, none⟩ = some (.slice d1' d2' d3') ∧ W.cell? ⟨w5.heap.size, 5, none⟩ = some (.slice d4' d5' d6')) ∧ (W.cell? ⟨g, o + k * 6, none⟩ = some (.int .i64 Y.id) ∧ W.cell? ⟨g, o + k * 6 + 1, none⟩ = some (.int .i64 Y.c) ∧ W.cell? ⟨g, o + k * 6 + 2, none⟩ = some (.int .i64 Y.m) ∧ W.cell? ⟨g, o + k * 6 + 3, none⟩ = some (.int .i64 Y.d) ∧ W.cell? ⟨g, o + k * 6 + 4, none⟩ = some (.slice p1 p2 p3) ∧ W.cell? ⟨g, o + k * 6 + 5, none⟩ = some (.slice p4 p5 p6)) := fun W k =>
              ⟨(box6 ((((Own.nil w5).box _ 27).later k).boxed 0 rfl)).1, HD.out.2.2.1 W (((HK.out.trans kd).alloc _).trans k)⟩
            have HS := Lib.hid hS
            have hS0 := hS _ (Kept.refl _)
            clear hS
            go_region_held3 (fun W => (W.cell? ⟨w5.heap.size, 0, none⟩ = some (.int .i64 Y.id) ∧ W.cell? ⟨w5.heap.size, 1, none⟩ = some (.int .i64 Y.c) ∧ W.cell? ⟨w5.heap.size, 2, none⟩ = some (.int .i64 Y.m) ∧ W.cell? ⟨w5.heap.size, 3, none⟩ = some (.int .i64 Y.d) ∧ W.cell? ⟨w5.heap.size, 4, none⟩ = some (.slice d1' d2' d3') ∧ W.cell? ⟨w5.heap.size, 5, none⟩ = some (.slice d4' d5' d6')) ∧ (W.cell? ⟨g, o + k * 6, none⟩ = some (.int .i64 Y.id) ∧ W.cell? ⟨g, o + k * 6 + 1, none⟩ = some (.int .i64 Y.c) ∧ W.cell? ⟨g, o + k * 6 + 2, none⟩ = some (.int .i64 Y.m) ∧ W.cell? ⟨g, o + k * 6 + 3, none⟩ = some (.int .i64 Y.d) ∧ W.cell? ⟨g, o + k * 6 + 4, none⟩ = some (.slice p1 p2 p3) ∧ W.cell? ⟨g, o + k * 6 + 5, none⟩ = some (.slice p4 p5 p6)))
              (first | with_reducible assumption | exact HS.out _ (Kept.refl _).drew)
              (first
                | (go_at_call 16; (with_reducible refine (HP.out.2.1 _ Y d1' d2' d3' d4' d5' d6' p1 p2 p3 p4 p5 p6 (ND.out.kept ((Kept.refl w5).alloc _).drew) (HD.out.2.1.kept ((HK.out.trans kd).alloc _).drew)).mono ?_); rintro e w6 ⟨rfl, k6⟩; have K6 := Lib.hid ((((HK.out.trans kd).alloc _).drew).trans k6); have S6 := HS.out _ ((Kept.refl _).drew.trans k6)))
            all_goals
              go_wp2_with fail
              go_roundw
              case rel => exact ⟨k + 1, rest, by omega, by go_num, rfl, HD.out.2.2.2.1, K6.out⟩
              case measure => simp [RowKit.intOf]; omega
          · have d3 : decide ((k : Int) < (n : Int)) = false := decide_eq_false (by omega)
            have hz : Z = ⟨#[]⟩ := by
              rw [HZ.out, List.drop_of_length_le (by rw [HR.out.2.2.2]; omega)]; rfl
            subst hz
            go_wp2_with (go_at_call 17; (with_reducible refine (HP.out.2.2 _).mono ?_); rintro e w7 ⟨rfl, k7⟩)
            go_ret
            exact ⟨rfl, (HR.out.2.2.1.trans HK.out).trans k7⟩
end Go.Proofs.YtngojgocplmedaaR.Ls
