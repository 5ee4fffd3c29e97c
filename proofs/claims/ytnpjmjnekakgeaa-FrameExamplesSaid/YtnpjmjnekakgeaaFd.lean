/-
  What the calls of package frame do that write a sector: sector, Encode.
-/
import Derived.Test.YtnpjmjnekakgeaaFc
import Derived.Deep.RegionHeld3
import Derived.Lib.BufferWrite
namespace Go.Proofs.Ytnpjmjnekakgeaa.Fk
open Go.RowKit Go.Proofs.Ytnpjmjnekakgeaa.Mem Go.Proofs.Ytnpjmjnekakgeaa.Pk

/-- Behind x: block B holds a frame. -/
structure Box (x : World) (B : Nat) (b l p q : Int) (k : Nat) (d : ByteArray) : Prop where
  lt : B < x.heap.size
  c0 : x.cell? ⟨B, 0, none⟩ = some (.int .i64 b)
  c1 : x.cell? ⟨B, 1, none⟩ = some (.int .i64 l)
  c2 : x.cell? ⟨B, 2, none⟩ = some (.int .i64 p)
  c3 : x.cell? ⟨B, 3, none⟩ = some (.int .i64 q)
  c4 : x.cell? ⟨B, 4, none⟩ = some (.int .u8 k)
  c5 : x.cell? ⟨B, 5, none⟩ = some (.string d)
theorem Box.kept {x y : World} {B : Nat} {b l p q : Int} {k : Nat} {d : ByteArray} (h : Box x B b l p q k d) (g : Kept x y) : Box y B b l p q k d :=
  ⟨Nat.lt_of_lt_of_le h.lt g.size, by rw [g.cell h.lt]; exact h.c0, by rw [g.cell h.lt]; exact h.c1, by rw [g.cell h.lt]; exact h.c2, by rw [g.cell h.lt]; exact h.c3, by rw [g.cell h.lt]; exact h.c4, by rw [g.cell h.lt]; exact h.c5⟩
theorem Box.start (w : World) (T : TypeId) (b l p q : Int) (k : Nat) (d : ByteArray) : Box (w.alloc (.cells #[.int .i64 b, .int .i64 l, .int .i64 p, .int .i64 q, .int .u8 k, .string d] T)) w.heap.size b l p q k d := by
  have e := (MapKept.heap_alloc w (.cells #[.int .i64 b, .int .i64 l, .int .i64 p, .int .i64 q, .int .u8 k, .string d] T)).1
  refine ⟨by simp, ?_, ?_, ?_, ?_, ?_, ?_⟩ <;>
    (show (match (w.alloc _).heap[w.heap.size]? with | some (.cells c _ _) => c[_]? | _ => none) = _; rw [e]; rfl)
/-- What the region's loads read. -/
theorem Box.all {x : World} {B : Nat} {b l p q : Int} {k : Nat} {d : ByteArray} (h : Box x B b l p q k d) :
    x.cell? ⟨B, 0, none⟩ = some (.int .i64 b) ∧ x.cell? ⟨B, 1, none⟩ = some (.int .i64 l) ∧ x.cell? ⟨B, 2, none⟩ = some (.int .i64 p) ∧ x.cell? ⟨B, 3, none⟩ = some (.int .i64 q) ∧ x.cell? ⟨B, 4, none⟩ = some (.int .u8 k) ∧ x.cell? ⟨B, 5, none⟩ = some (.string d) :=
  ⟨h.c0, h.c1, h.c2, h.c3, h.c4, h.c5⟩

/-- What sector's walk takes: the pieces, and what each call returns. -/
structure SecG (b l p q : Int) (k : Nat) (d : ByteArray) (sB sL sP sQ sK sD sBL sN sNQ sNK sH sX sHX sT sZ sTZ sR : ByteArray) (N0 N1 Z : Int) : Prop where
  cB : ∀ w, Calls Try.prog 29 #[.int .i64 b, .int .i64 4] w fun e w' => e = .returned (.string sB) ∧ Kept w w'
  cL : ∀ w, Calls Try.prog 29 #[.int .i64 l, .int .i64 6] w fun e w' => e = .returned (.string sL) ∧ Kept w w'
  cP : ∀ w, Calls Try.prog 29 #[.int .i64 p, .int .i64 1] w fun e w' => e = .returned (.string sP) ∧ Kept w w'
  cQ : ∀ w, Calls Try.prog 29 #[.int .i64 q, .int .i64 1] w fun e w' => e = .returned (.string sQ) ∧ Kept w w'
  cK : ∀ w, Calls Try.prog 29 #[.int .i64 k, .int .i64 1] w fun e w' => e = .returned (.string sK) ∧ Kept w w'
  cD : ∀ w, Calls Try.prog 29 #[.int .i64 d.size, .int .i64 1] w fun e w' => e = .returned (.string sD) ∧ Kept w w'
  aBL : ∀ w, (Op.stringOp .add sB sL).run Try.prog w = .ok (.string sBL) w
  aN : ∀ w, (Op.stringOp .add sBL sP).run Try.prog w = .ok (.string sN) w
  aNQ : ∀ w, (Op.stringOp .add sN sQ).run Try.prog w = .ok (.string sNQ) w
  aNK : ∀ w, (Op.stringOp .add sNQ sK).run Try.prog w = .ok (.string sNK) w
  aH : ∀ w, (Op.stringOp .add sNK sD).run Try.prog w = .ok (.string sH) w
  cS : ∀ w, Calls Try.prog 16 #[.string sH] w fun e w' => e = .returned (.int .u32 N0) ∧ Kept w w'
  cM : ∀ w, Calls Try.prog 27 #[.int .u32 N0, .string d] w fun e w' => e = .returned (.int .u32 N1) ∧ Kept w w'
  n0 : 0 ≤ N1
  n1 : N1 < 4294967296
  cX : ∀ w, Calls Try.prog 29 #[.int .i64 N1, .int .i64 4] w fun e w' => e = .returned (.string sX) ∧ Kept w w'
  aHX : ∀ w, (Op.stringOp .add sH sX).run Try.prog w = .ok (.string sHX) w
  aT : ∀ w, (Op.stringOp .add sHX d).run Try.prog w = .ok (.string sT) w
  t1 : (sT.size : Int) ≤ 62
  tZ : 69 - (sT.size : Int) = Z
  cZ : ∀ w, Calls Try.prog 30 #[.string ⟨#[0]⟩, .int .i64 Z] w fun e w' => e = .returned (.string sZ) ∧ Kept w w'
  aTZ : ∀ w, (Op.stringOp .add sT sZ).run Try.prog w = .ok (.string sTZ) w
  aR : ∀ w, (Op.stringOp .add sTZ sN).run Try.prog w = .ok (.string sR) w

set_option maxHeartbeats 4000000 in
set_option maxRecDepth 100000 in
theorem sector_g {b l p q : Int} {k : Nat} {d sB sL sP sQ sK sD sBL sN sNQ sNK sH sX sHX sT sZ sTZ sR : ByteArray} {N0 N1 Z : Int} (G : SecG b l p q k d sB sL sP sQ sK sD sBL sN sNQ sNK sH sX sHX sT sZ sTZ sR N0 N1 Z) (k0 : k < 256) (w : World) :
    Calls Try.prog 18 #[.agg #[.int .i64 b, .int .i64 l, .int .i64 p, .int .i64 q, .int .u8 k, .string d]] w fun e w' => e = .returned (.string sR) ∧ Kept w w' := by
  have wk : IntKind.i64.wrap (k : Int) = (k : Int) := by rw [IntKind.wrap_i64]; omega
  obtain ⟨cB, cL, cP, cQ, cK, cD, aBL, aN, aNQ, aNK, aH, cS, cM, n0, n1, cX, aHX, aT, t1, tZ, cZ, aTZ, aR⟩ := G
  have wn : IntKind.i64.wrap N1 = N1 := by rw [IntKind.wrap_i64]; omega
  have hb0 := Box.start w 23 b l p q k d
  have hk0 := Kept.alloc (Kept.refl w) (.cells #[.int .i64 b, .int .i64 l, .int .i64 p, .int .i64 q, .int .u8 k, .string d] 23)
  obtain ⟨x, hx⟩ : ∃ x, x = w.alloc (.cells #[.int .i64 b, .int .i64 l, .int .i64 p, .int .i64 q, .int .u8 k, .string d] 23) := ⟨_, rfl⟩
  rw [← hx] at hb0 hk0
  have hB : ∀ W, Kept x W → W.cell? ⟨w.heap.size, 0, none⟩ = some (.int .i64 b) ∧ W.cell? ⟨w.heap.size, 1, none⟩ = some (.int .i64 l) ∧ W.cell? ⟨w.heap.size, 2, none⟩ = some (.int .i64 p) ∧ W.cell? ⟨w.heap.size, 3, none⟩ = some (.int .i64 q) ∧ W.cell? ⟨w.heap.size, 4, none⟩ = some (.int .u8 k) ∧ W.cell? ⟨w.heap.size, 5, none⟩ = some (.string d) := fun W hW => (hb0.kept hW).all
  have HB := Lib.hid hB
  have HK := Lib.hid hk0
  have S1 := hb0.all
  have S1' := (hb0.kept (Kept.refl x).drew).all
  have K1 := Kept.refl x
  have K1' := (Kept.refl x).drew
  clear hb0 hB hk0
  go_enter Try.func18, Try.ntmps18
  go_wp2
  rw [← hx]
  clear hx
  go_region_held3 (fun W => W.cell? ⟨w.heap.size, 0, none⟩ = some (.int .i64 b) ∧ W.cell? ⟨w.heap.size, 1, none⟩ = some (.int .i64 l) ∧ W.cell? ⟨w.heap.size, 2, none⟩ = some (.int .i64 p) ∧ W.cell? ⟨w.heap.size, 3, none⟩ = some (.int .i64 q) ∧ W.cell? ⟨w.heap.size, 4, none⟩ = some (.int .u8 k) ∧ W.cell? ⟨w.heap.size, 5, none⟩ = some (.string d))
    (first | assumption | exact HB.out _ ‹_›)
    (first
      | (go_at_call 29; (with_reducible refine (cB _).mono ?_); rintro e u1 ⟨rfl, k1⟩; have k1 := Kept.trans K1' k1)
      | (go_at_call 29; (with_reducible refine (cL _).mono ?_); rintro e u2 ⟨rfl, k2⟩; have k2 := Kept.trans k1 k2)
      | (go_at_call 29; (with_reducible refine (cP _).mono ?_); rintro e u3 ⟨rfl, k3⟩; have k3 := Kept.trans k2 k3))
  have S1 := HB.out _ k3
  have S1' := HB.out _ k3.drew
  have kd0 := k3.drew
  clear S1 S1' K1 K1' cB cL cP aBL aN k1 k2 k3
  go_wp2_with fail
  go_region_held3 (fun W => W.cell? ⟨w.heap.size, 0, none⟩ = some (.int .i64 b) ∧ W.cell? ⟨w.heap.size, 1, none⟩ = some (.int .i64 l) ∧ W.cell? ⟨w.heap.size, 2, none⟩ = some (.int .i64 p) ∧ W.cell? ⟨w.heap.size, 3, none⟩ = some (.int .i64 q) ∧ W.cell? ⟨w.heap.size, 4, none⟩ = some (.int .u8 k) ∧ W.cell? ⟨w.heap.size, 5, none⟩ = some (.string d))
    (first | assumption | exact HB.out _ ‹_›)
    (first
      | (go_at_call 29; (with_reducible refine (cQ _).mono ?_); rintro e u4 ⟨rfl, k4⟩; have k4 := Kept.trans kd0 k4)
      | (go_at_call 29; (with_reducible refine (cK _).mono ?_); rintro e u5 ⟨rfl, k5⟩; have k5 := Kept.trans k4 k5)
      | (go_at_call 29; (with_reducible refine (cD _).mono ?_); rintro e u6 ⟨rfl, k6⟩; have k6 := Kept.trans k5 k6))
  have S1 := HB.out _ k6
  have S1' := HB.out _ k6.drew
  have kd1 := k6.drew
  clear S1 S1' cQ cK cD aNQ aNK aH k4 k5 k6 kd0
  go_wp2_with fail
  go_region_held3 (fun W => W.cell? ⟨w.heap.size, 0, none⟩ = some (.int .i64 b) ∧ W.cell? ⟨w.heap.size, 1, none⟩ = some (.int .i64 l) ∧ W.cell? ⟨w.heap.size, 2, none⟩ = some (.int .i64 p) ∧ W.cell? ⟨w.heap.size, 3, none⟩ = some (.int .i64 q) ∧ W.cell? ⟨w.heap.size, 4, none⟩ = some (.int .u8 k) ∧ W.cell? ⟨w.heap.size, 5, none⟩ = some (.string d))
    (first | assumption | exact HB.out _ ‹_›)
    (first
      | (go_at_call 16; (with_reducible refine (cS _).mono ?_); rintro e u7 ⟨rfl, k7⟩; have k7 := Kept.trans kd1 k7)
      | (go_at_call 27; (with_reducible refine (cM _).mono ?_); rintro e u8 ⟨rfl, k8⟩; have k8 := Kept.trans k7 k8))
  have S1 := HB.out _ k8
  have S1' := HB.out _ k8.drew
  have kd2 := k8.drew
  clear S1 S1' cS cM k7 k8 kd1
  go_wp2_with fail
  go_region_held3 (fun W => W.cell? ⟨w.heap.size, 0, none⟩ = some (.int .i64 b) ∧ W.cell? ⟨w.heap.size, 1, none⟩ = some (.int .i64 l) ∧ W.cell? ⟨w.heap.size, 2, none⟩ = some (.int .i64 p) ∧ W.cell? ⟨w.heap.size, 3, none⟩ = some (.int .i64 q) ∧ W.cell? ⟨w.heap.size, 4, none⟩ = some (.int .u8 k) ∧ W.cell? ⟨w.heap.size, 5, none⟩ = some (.string d))
    (first | assumption | exact HB.out _ ‹_›)
    (first
      | (go_at_call 29; (with_reducible refine (cX _).mono ?_); rintro e u9 ⟨rfl, k9⟩; have k9 := Kept.trans kd2 k9))
  have k9 := HK.out.trans k9
  clear S1 S1' cX aHX aT kd2
  go_wp2_with (go_at_call 30; (with_reducible refine (cZ _).mono ?_); rintro e u10 ⟨rfl, k10⟩)
  go_ret
  exact ⟨rfl, k9.trans k10⟩

theorem cat_c (a b c : List UInt8) (h : a ++ b = c) (hs : a.length + b.length ≤ 1000) (w : World) : (Op.stringOp .add (str a) (str b)).run Try.prog w = .ok (.string (str c)) w := cat_str a b c h (by omega) w
theorem secG (f : Fr) (h : f.good) (hk : f.kind < 256) : ∃ sB sL sP sQ sK sD sBL sN sNQ sNK sH sX sHX sT sZ sTZ N0 N1 Z, SecG f.boot f.lsn f.part f.parts f.kind f.data sB sL sP sQ sK sD sBL sN sNQ sNK sH sX sHX sT sZ sTZ (str f.sec) N0 N1 Z := by
  have b1 := h.b1; have b2 := h.b2; have c1 := h.l1; have c2 := h.l2; have d1 := h.q1; have d2 := h.q2; have g1 := h.p1; have g2 := h.p2; have z := h.short
  have nl := name_len f
  have hl := head_len f
  have dl := size_list f.data
  have sm := f.sum.isLt
  have ed : f.data = str f.data.data.toList := (str_list f.data).symm
  refine ⟨str (be f.boot.toNat 4), str (be f.lsn.toNat 6), str (be f.part.toNat 1), str (be f.parts.toNat 1), str (be f.kind 1), str (be f.data.size 1), str (be f.boot.toNat 4 ++ be f.lsn.toNat 6), str f.name, str (f.name ++ be f.parts.toNat 1), str (f.name ++ be f.parts.toNat 1 ++ be f.kind 1), str f.head, str (be f.sum.toNat 4), str (f.head ++ be f.sum.toNat 4), str (f.head ++ be f.sum.toNat 4 ++ f.data.data.toList), str (List.replicate (51 - f.data.size) 0), str (f.head ++ be f.sum.toNat 4 ++ f.data.data.toList ++ List.replicate (51 - f.data.size) 0), Crc.num (Crc.moreB 0 f.head), Crc.num f.sum, ((51 - f.data.size : Nat) : Int), ?_⟩
  exact {
    cB := fixed_i f.boot 4 (by omega) (by omega) (by decide) (by decide) (by omega)
    cL := fixed_i f.lsn 6 (by omega) (by omega) (by decide) (by decide) (by omega)
    cP := fixed_i f.part 1 (by omega) (by omega) (by decide) (by decide) (by omega)
    cQ := fixed_i f.parts 1 (by omega) (by omega) (by decide) (by decide) (by omega)
    cK := fixed_n f.kind 1 (by omega) (by decide) (by decide) (by omega)
    cD := fixed_n f.data.size 1 (by omega) (by decide) (by decide) (by omega)
    aBL := cat_c _ _ _ rfl (by rw [be_length, be_length]; omega)
    aN := cat_c _ _ _ (by unfold Fr.name; rw [List.append_assoc]) (by rw [List.length_append, be_length, be_length, be_length]; omega)
    aNQ := cat_c _ _ _ rfl (by rw [nl, be_length]; omega)
    aNK := cat_c _ _ _ rfl (by rw [List.length_append, nl, be_length, be_length]; omega)
    aH := cat_c _ _ _ (by unfold Fr.head; simp only [List.append_assoc]) (by rw [List.length_append, List.length_append, nl, be_length, be_length, be_length]; omega)
    cS := fun w => by
      have := Crc.sum_k (str f.head) w (by rw [size_str, hl]; decide)
      rwa [list_str] at this
    cM := fun w => by
      have := Crc.more_k (Crc.moreB 0 f.head) f.data w (by unfold maxLen; omega)
      rwa [← Crc.more_append] at this
    n0 := Crc.num_lo _
    n1 := Crc.num_hi _
    cX := fun w => fixed_n f.sum.toNat 4 (by omega) (by decide) (by decide) (by omega) w
    aHX := cat_c _ _ _ rfl (by rw [hl, be_length]; omega)
    aT := fun w => by
      have := cat_c (f.head ++ be f.sum.toNat 4) f.data.data.toList _ rfl (by rw [List.length_append, hl, be_length]; omega) w
      rwa [← ed] at this
    t1 := by rw [size_str, List.length_append, List.length_append, hl, be_length]; omega
    tZ := by rw [size_str, List.length_append, List.length_append, hl, be_length]; omega
    cZ := fun w => Sr.repeat_c (51 - f.data.size) (by omega) w
    aTZ := cat_c _ _ _ rfl (by rw [List.length_append, List.length_append, hl, be_length, List.length_replicate]; omega)
    aR := cat_c _ _ _ (by unfold Fr.sec; simp only [List.append_assoc]) (by rw [List.length_append, List.length_append, List.length_append, hl, nl, be_length, List.length_replicate]; omega) }
theorem sector_c (f : Fr) (h : f.good) (hk : f.kind < 256) (w : World) :
    Calls Try.prog 18 #[.agg #[.int .i64 f.boot, .int .i64 f.lsn, .int .i64 f.part, .int .i64 f.parts, .int .u8 f.kind, .string f.data]] w fun e w' => e = .returned (.string (str f.sec)) ∧ Kept w w' := by
  obtain ⟨_, _, _, _, _, _, _, _, _, _, _, _, _, _, _, _, _, _, _, G⟩ := secG f h hk
  exact sector_g G hk w

/-- Encode. -/
theorem encode_c (f : Fr) (hk : f.kind < 256) (hz : f.data.size ≤ maxLen) (w : World) :
    Calls Try.prog 10 #[.agg #[.int .i64 f.boot, .int .i64 f.lsn, .int .i64 f.part, .int .i64 f.parts, .int .u8 f.kind, .string f.data]] w fun e w' => e = .returned (.tuple #[.string f.enc, .int .i64 f.err]) ∧ Kept w w' := by
  unfold maxLen at hz
  have cN := numbered_c f
  by_cases hl : 44 < f.data.size
  · have he : f.err = 5 := by unfold Fr.err; rw [if_pos hl]
    have hc : f.enc = ⟨#[]⟩ := Fr.enc_bad (by rw [he]; decide)
    rw [he, hc]
    clear he hc cN
    obtain ⟨b, l, p, q, k, d⟩ := f
    have hk0 := Kept.alloc (Kept.refl w) (.cells #[.int .i64 b, .int .i64 l, .int .i64 p, .int .i64 q, .int .u8 k, .string d] 23)
    have t1 : decide (44 < (d.size : Int)) = true := by simp at hl ⊢; omega
    clear hl hk hz
    dsimp only
    go_enter Try.func10, Try.ntmps10
    go_wp2
    go_ret2
    exact ⟨rfl, hk0⟩
  · by_cases hn : f.nums = true
    · have he : f.err = 0 := by unfold Fr.err; rw [if_neg hl, if_pos hn]
      have hg := f.err_zero.mp he
      have cS := sector_c f hg hk
      rw [he, Fr.enc_good hg]
      rw [hn] at cN
      obtain ⟨R, hR⟩ : ∃ R, R = str f.sec := ⟨_, rfl⟩
      rw [← hR] at cS ⊢
      clear he hR hg
      obtain ⟨b, l, p, q, k, d⟩ := f
      have hk0 := Kept.alloc (Kept.refl w) (.cells #[.int .i64 b, .int .i64 l, .int .i64 p, .int .i64 q, .int .u8 k, .string d] 23)
      have hb := Box.start w 23 b l p q k d
      have t1 : decide (44 < (d.size : Int)) = false := by simp at hl ⊢; omega
      clear hl hn hk hz
      dsimp only at cN cS
      go_enter Try.func10, Try.ntmps10
      go_wp2_with (first
        | (go_at_call 17; (with_reducible refine (cN _).mono ?_); rintro e u1 ⟨rfl, k1⟩; obtain ⟨_, c0, c1, c2, c3, c4, c5⟩ := hb.kept k1)
        | (go_at_call 18; (with_reducible refine (cS _).mono ?_); rintro e u2 ⟨rfl, k2⟩))
      go_ret2
      exact ⟨rfl, (hk0.trans k1).trans k2⟩
    · have he : f.err = 2 := by unfold Fr.err; rw [if_neg hl, if_neg hn]
      have hc : f.enc = ⟨#[]⟩ := Fr.enc_bad (by rw [he]; decide)
      rw [he, hc]
      rw [show f.nums = false by simpa using hn] at cN
      clear he hc
      obtain ⟨b, l, p, q, k, d⟩ := f
      have hk0 := Kept.alloc (Kept.refl w) (.cells #[.int .i64 b, .int .i64 l, .int .i64 p, .int .i64 q, .int .u8 k, .string d] 23)
      have t1 : decide (44 < (d.size : Int)) = false := by simp at hl ⊢; omega
      clear hl hn hk hz
      dsimp only at cN
      go_enter Try.func10, Try.ntmps10
      go_wp2_with (go_at_call 17; (with_reducible refine (cN _).mono ?_); rintro e u1 ⟨rfl, k1⟩)
      go_ret2
      exact ⟨rfl, hk0.trans k1⟩
end Go.Proofs.Ytnpjmjnekakgeaa.Fk
