/-
  What the calls of package slots do that write a header's sector: between, valid, slot, fixed, sector, Encode.
-/
import Derived.Test.YtckbhjjflpobbaaGreatHp
import Derived.Deep.RegionHeld3
namespace Go.Proofs.YtckbhjjflpobbaaGreat.Hk
open Go.RowKit Go.Proofs.YtckbhjjflpobbaaGreat.Mem Go.Proofs.YtckbhjjflpobbaaGreat.Pk
open Go.Proofs.YtckbhjjflpobbaaGreat.Fk (btw btw_iff cat_c)

theorem between_c (n a b : Int) (w : World) : Calls Tryz.prog 116 #[.int .i64 n, .int .i64 a, .int .i64 b] w fun e w' => e = .returned (.bool (btw n a b)) ∧ w = w' := by
  unfold btw
  go_enter Tryz.func116, Tryz.ntmps116
  go_wp2
  all_goals
    go_ret
    exact ⟨by simp [*] <;> omega, rfl⟩

theorem fixed_n (n k : Nat) (h : n < 9223372036854775808) (h1 : 1 ≤ k) (h8 : k ≤ 8) (hw : n < 256 ^ k) (w : World) :
    Calls Tryz.prog 117 #[.int .i64 n, .int .i64 k] w fun e w' => e = .returned (.string (str (be n k))) ∧ Kept w w' := by
  have hc : ∀ w, Calls Tryz.prog 124 #[.int .u64 n, .int .i64 k] w fun e w' => e = .returned (.tuple #[.string (str (be n k)), .int .i64 0]) ∧ Kept w w' :=
    fixed_ok n k (by unfold U64; omega) h1 h8 (wd_least h1 h8 hw)
  obtain ⟨S, hS⟩ : ∃ S, S = str (be n k) := ⟨_, rfl⟩
  rw [← hS] at hc ⊢
  clear hS hw
  go_enter Tryz.func117, Tryz.ntmps117
  go_wp2_with (go_at_call 124; (with_reducible refine (hc _).mono ?_); rintro e w' ⟨rfl, hk⟩)
  go_ret
  exact ⟨rfl, hk⟩
theorem fixed_i (n : Int) (k : Nat) (h0 : 0 ≤ n) (h : n.toNat < 9223372036854775808) (h1 : 1 ≤ k) (h8 : k ≤ 8) (hw : n.toNat < 256 ^ k) (w : World) :
    Calls Tryz.prog 117 #[.int .i64 n, .int .i64 k] w fun e w' => e = .returned (.string (str (be n.toNat k))) ∧ Kept w w' := by
  have := fixed_n n.toNat k h h1 h8 hw w
  rwa [Int.toNat_of_nonneg h0] at this

/-- A header's cells. -/
def hcells (q b a f n : Int) : Array Value := #[.int .i64 q, .int .i64 b, .int .i64 a, .int .i64 f, .int .i64 n]
/-- Block B holds a header. -/
structure Box (x : World) (B : Nat) (q b a f n : Int) : Prop where
  lt : B < x.heap.size
  c0 : x.cell? ⟨B, 0, none⟩ = some (.int .i64 q)
  c1 : x.cell? ⟨B, 1, none⟩ = some (.int .i64 b)
  c2 : x.cell? ⟨B, 2, none⟩ = some (.int .i64 a)
  c3 : x.cell? ⟨B, 3, none⟩ = some (.int .i64 f)
  c4 : x.cell? ⟨B, 4, none⟩ = some (.int .i64 n)
theorem Box.kept {x y : World} {B : Nat} {q b a f n : Int} (h : Box x B q b a f n) (g : Kept x y) : Box y B q b a f n :=
  ⟨Nat.lt_of_lt_of_le h.lt g.size, by rw [g.cell h.lt]; exact h.c0, by rw [g.cell h.lt]; exact h.c1, by rw [g.cell h.lt]; exact h.c2, by rw [g.cell h.lt]; exact h.c3, by rw [g.cell h.lt]; exact h.c4⟩
theorem Box.start (w : World) (T : TypeId) (q b a f n : Int) : Box (w.alloc (.cells #[.int .i64 q, .int .i64 b, .int .i64 a, .int .i64 f, .int .i64 n] T)) w.heap.size q b a f n := by
  have e := (MapKept.heap_alloc w (.cells #[.int .i64 q, .int .i64 b, .int .i64 a, .int .i64 f, .int .i64 n] T)).1
  refine ⟨by simp, ?_, ?_, ?_, ?_, ?_⟩ <;>
    (show (match (w.alloc _).heap[w.heap.size]? with | some (.cells c _ _) => c[_]? | _ => none) = _; rw [e]; rfl)
theorem Box.all {x : World} {B : Nat} {q b a f n : Int} (h : Box x B q b a f n) :
    x.cell? ⟨B, 0, none⟩ = some (.int .i64 q) ∧ x.cell? ⟨B, 1, none⟩ = some (.int .i64 b) ∧ x.cell? ⟨B, 2, none⟩ = some (.int .i64 a) ∧ x.cell? ⟨B, 3, none⟩ = some (.int .i64 f) ∧ x.cell? ⟨B, 4, none⟩ = some (.int .i64 n) :=
  ⟨h.c0, h.c1, h.c2, h.c3, h.c4⟩

/-- slot. -/
theorem slot_c (q b a f n : Int) (w : World) :
    Calls Tryz.prog 85 #[.agg #[.int .i64 q, .int .i64 b, .int .i64 a, .int .i64 f, .int .i64 n]] w fun e w' => e = .returned (.int .i64 (q.tmod 2)) ∧ Kept w w' := by
  have hk0 := Kept.alloc (Kept.refl w) (.cells #[.int .i64 q, .int .i64 b, .int .i64 a, .int .i64 f, .int .i64 n] 136)
  go_enter Tryz.func85, Tryz.ntmps85
  go_wp2
  go_ret
  exact ⟨rfl, hk0⟩

theorem ok_order (h : Hd) : h.ok = (btw h.seq 1 281474976710655 && (btw h.boot 1 4294967295 && (btw h.area 0 1 && (btw h.first 1 281474976710655 && btw h.snaps 0 65535)))) := by
  unfold Hd.ok
  cases btw h.seq 1 281474976710655 <;> cases btw h.boot 1 4294967295 <;> cases btw h.area 0 1 <;> cases btw h.first 1 281474976710655 <;> cases btw h.snaps 0 65535 <;> rfl
set_option maxHeartbeats 2000000 in
set_option maxRecDepth 100000 in
/-- valid. -/
theorem valid_c (h : Hd) (w : World) :
    Calls Tryz.prog 101 #[.agg #[.int .i64 h.seq, .int .i64 h.boot, .int .i64 h.area, .int .i64 h.first, .int .i64 h.snaps]] w fun e w' => e = .returned (.bool h.ok) ∧ Kept w w' := by
  rw [ok_order]
  obtain ⟨q, b, a, f, n⟩ := h
  dsimp only
  have hk0 := Kept.alloc (Kept.refl w) (.cells #[.int .i64 q, .int .i64 b, .int .i64 a, .int .i64 f, .int .i64 n] 136)
  have cq := fun w => between_c q 1 281474976710655 w
  have cb := fun w => between_c b 1 4294967295 w
  have ca := fun w => between_c a 0 1 w
  have cf := fun w => between_c f 1 281474976710655 w
  have cn := fun w => between_c n 0 65535 w
  generalize btw q 1 281474976710655 = Q at cq ⊢
  generalize btw b 1 4294967295 = B at cb ⊢
  generalize btw a 0 1 = A at ca ⊢
  generalize btw f 1 281474976710655 = F at cf ⊢
  generalize btw n 0 65535 = N at cn ⊢
  cases Q with
  | false =>
    go_enter Tryz.func101, Tryz.ntmps101
    go_wp2_with (go_at_call 116; (with_reducible refine (cq _).mono ?_); rintro e w' ⟨rfl, rfl⟩)
    go_ret
    exact ⟨rfl, hk0⟩
  | true =>
    cases B <;> cases A <;> cases F
    all_goals
      go_enter Tryz.func101, Tryz.ntmps101
      go_wp2_with (first
        | (go_at_call 116; (with_reducible refine (cq _).mono ?_); rintro e w' ⟨rfl, rfl⟩)
        | (go_at_call 116; (with_reducible refine (cb _).mono ?_); rintro e w' ⟨rfl, rfl⟩)
        | (go_at_call 116; (with_reducible refine (ca _).mono ?_); rintro e w' ⟨rfl, rfl⟩)
        | (go_at_call 116; (with_reducible refine (cf _).mono ?_); rintro e w' ⟨rfl, rfl⟩)
        | (go_at_call 116; (with_reducible refine (cn _).mono ?_); rintro e w' ⟨rfl, rfl⟩))
      go_ret
      exact ⟨rfl, hk0⟩

/-- What sector's walk takes: the pieces, and what each call returns. -/
structure SecG (q b a f n : Int) (sQ sB sA sF sN s1 s2 s3 sH sX sHX sZ sHZ sR : ByteArray) (N1 : Int) : Prop where
  cQ : ∀ w, Calls Tryz.prog 117 #[.int .i64 q, .int .i64 6] w fun e w' => e = .returned (.string sQ) ∧ Kept w w'
  cB : ∀ w, Calls Tryz.prog 117 #[.int .i64 b, .int .i64 4] w fun e w' => e = .returned (.string sB) ∧ Kept w w'
  cA : ∀ w, Calls Tryz.prog 117 #[.int .i64 a, .int .i64 1] w fun e w' => e = .returned (.string sA) ∧ Kept w w'
  cF : ∀ w, Calls Tryz.prog 117 #[.int .i64 f, .int .i64 6] w fun e w' => e = .returned (.string sF) ∧ Kept w w'
  cN : ∀ w, Calls Tryz.prog 117 #[.int .i64 n, .int .i64 2] w fun e w' => e = .returned (.string sN) ∧ Kept w w'
  a1 : ∀ w, (Op.stringOp .add sQ sB).run Tryz.prog w = .ok (.string s1) w
  a2 : ∀ w, (Op.stringOp .add s1 sA).run Tryz.prog w = .ok (.string s2) w
  a3 : ∀ w, (Op.stringOp .add s2 sF).run Tryz.prog w = .ok (.string s3) w
  a4 : ∀ w, (Op.stringOp .add s3 sN).run Tryz.prog w = .ok (.string sH) w
  cS : ∀ w, Calls Tryz.prog 114 #[.string sH] w fun e w' => e = .returned (.int .u32 N1) ∧ Kept w w'
  n0 : 0 ≤ N1
  n1 : N1 < 4294967296
  cX : ∀ w, Calls Tryz.prog 117 #[.int .i64 N1, .int .i64 4] w fun e w' => e = .returned (.string sX) ∧ Kept w w'
  aX : ∀ w, (Op.stringOp .add sH sX).run Tryz.prog w = .ok (.string sHX) w
  cZ : ∀ w, Calls Tryz.prog 115 #[.string ⟨#[0]⟩, .int .i64 51] w fun e w' => e = .returned (.string sZ) ∧ Kept w w'
  aZ : ∀ w, (Op.stringOp .add sHX sZ).run Tryz.prog w = .ok (.string sHZ) w
  aR : ∀ w, (Op.stringOp .add sHZ sQ).run Tryz.prog w = .ok (.string sR) w

set_option maxHeartbeats 4000000 in
set_option maxRecDepth 100000 in
theorem sector_g {q b a f n : Int} {sQ sB sA sF sN s1 s2 s3 sH sX sHX sZ sHZ sR : ByteArray} {N1 : Int} (G : SecG q b a f n sQ sB sA sF sN s1 s2 s3 sH sX sHX sZ sHZ sR N1) (w : World) :
    Calls Tryz.prog 102 #[.agg #[.int .i64 q, .int .i64 b, .int .i64 a, .int .i64 f, .int .i64 n]] w fun e w' => e = .returned (.string sR) ∧ Kept w w' := by
  obtain ⟨cQ, cB, cA, cF, cN, a1, a2, a3, a4, cS, n0, n1, cX, aX, cZ, aZ, aR⟩ := G
  have wn : IntKind.i64.wrap N1 = N1 := by rw [IntKind.wrap_i64]; omega
  have hb0 := Box.start w 136 q b a f n
  have hk0 := Kept.alloc (Kept.refl w) (.cells #[.int .i64 q, .int .i64 b, .int .i64 a, .int .i64 f, .int .i64 n] 136)
  obtain ⟨x, hx⟩ : ∃ x, x = w.alloc (.cells #[.int .i64 q, .int .i64 b, .int .i64 a, .int .i64 f, .int .i64 n] 136) := ⟨_, rfl⟩
  rw [← hx] at hb0 hk0
  have hB : ∀ W, Kept x W → W.cell? ⟨w.heap.size, 0, none⟩ = some (.int .i64 q) ∧ W.cell? ⟨w.heap.size, 1, none⟩ = some (.int .i64 b) ∧ W.cell? ⟨w.heap.size, 2, none⟩ = some (.int .i64 a) ∧ W.cell? ⟨w.heap.size, 3, none⟩ = some (.int .i64 f) ∧ W.cell? ⟨w.heap.size, 4, none⟩ = some (.int .i64 n) := fun W hW => (hb0.kept hW).all
  have HB := Lib.hid hB
  have HK := Lib.hid hk0
  have S1 := hb0.all
  clear hb0 hB hk0
  go_enter Tryz.func102, Tryz.ntmps102
  go_wp2_with fail
  rw [← hx]
  clear hx
  obtain ⟨_, _, _, _, _⟩ := S1
  go_wp2_with (go_at_call 117; (with_reducible refine (cQ _).mono ?_); rintro e u0 ⟨rfl, k0⟩)
  have S1 := HB.out _ k0
  have S1' := HB.out _ k0.drew
  have kd0 := k0.drew
  clear cQ
  go_wp2_with fail
  go_region_held3 (fun W => W.cell? ⟨w.heap.size, 0, none⟩ = some (.int .i64 q) ∧ W.cell? ⟨w.heap.size, 1, none⟩ = some (.int .i64 b) ∧ W.cell? ⟨w.heap.size, 2, none⟩ = some (.int .i64 a) ∧ W.cell? ⟨w.heap.size, 3, none⟩ = some (.int .i64 f) ∧ W.cell? ⟨w.heap.size, 4, none⟩ = some (.int .i64 n))
    (first | assumption | exact HB.out _ ‹_›)
    (first
      | (go_at_call 117; (with_reducible refine (cB _).mono ?_); rintro e u1 ⟨rfl, k1⟩; have k1 := Kept.trans kd0 k1)
      | (go_at_call 117; (with_reducible refine (cA _).mono ?_); rintro e u2 ⟨rfl, k2⟩; have k2 := Kept.trans k1 k2)
      | (go_at_call 117; (with_reducible refine (cF _).mono ?_); rintro e u3 ⟨rfl, k3⟩; have k3 := Kept.trans k2 k3)
      | (go_at_call 117; (with_reducible refine (cN _).mono ?_); rintro e u4 ⟨rfl, k4⟩; have k4 := Kept.trans k3 k4))
  have k4 := HK.out.trans k4
  clear S1 S1' cB cA cF cN a1 a2 a3 a4 kd0 k1 k2 k3
  go_wp2_with (first
    | (go_at_call 114; (with_reducible refine (cS _).mono ?_); rintro e u5 ⟨rfl, k5⟩)
    | (go_at_call 117; (with_reducible refine (cX _).mono ?_); rintro e u6 ⟨rfl, k6⟩)
    | (go_at_call 115; (with_reducible refine (cZ _).mono ?_); rintro e u7 ⟨rfl, k7⟩))
  go_ret
  exact ⟨rfl, ((k4.trans k5).trans k6).trans k7⟩

theorem secG (h : Hd) (g : h.good) : ∃ sQ sB sA sF sN s1 s2 s3 sH sX sHX sZ sHZ N1, SecG h.seq h.boot h.area h.first h.snaps sQ sB sA sF sN s1 s2 s3 sH sX sHX sZ sHZ (str h.sec) N1 := by
  have s1 := g.s1; have s2 := g.s2; have f1 := g.f1; have f2 := g.f2; have b1 := g.b1; have b2 := g.b2; have a1 := g.a1; have a2 := g.a2; have n1 := g.n1; have n2 := g.n2
  have hl := head_len h
  have sm := h.sum.isLt
  refine ⟨str (be h.seq.toNat 6), str (be h.boot.toNat 4), str (be h.area.toNat 1), str (be h.first.toNat 6), str (be h.snaps.toNat 2), str (be h.seq.toNat 6 ++ be h.boot.toNat 4), str (be h.seq.toNat 6 ++ be h.boot.toNat 4 ++ be h.area.toNat 1), str (be h.seq.toNat 6 ++ be h.boot.toNat 4 ++ be h.area.toNat 1 ++ be h.first.toNat 6), str h.head, str (be h.sum.toNat 4), str (h.head ++ be h.sum.toNat 4), str (List.replicate 51 0), str (h.head ++ be h.sum.toNat 4 ++ List.replicate 51 0), Crc.num h.sum, ?_⟩
  exact {
    cQ := fixed_i h.seq 6 (by omega) (by omega) (by decide) (by decide) (by omega)
    cB := fixed_i h.boot 4 (by omega) (by omega) (by decide) (by decide) (by omega)
    cA := fixed_i h.area 1 (by omega) (by omega) (by decide) (by decide) (by omega)
    cF := fixed_i h.first 6 (by omega) (by omega) (by decide) (by decide) (by omega)
    cN := fixed_i h.snaps 2 (by omega) (by omega) (by decide) (by decide) (by omega)
    a1 := cat_c _ _ _ rfl (by rw [be_length, be_length]; omega)
    a2 := cat_c _ _ _ rfl (by simp only [List.length_append, be_length]; omega)
    a3 := cat_c _ _ _ rfl (by simp only [List.length_append, be_length]; omega)
    a4 := cat_c _ _ _ (by unfold Hd.head; simp only [List.append_assoc]) (by simp only [List.length_append, be_length]; omega)
    cS := fun w => by
      have := Crc.sum_k (str h.head) w (by rw [size_str, hl]; decide)
      rwa [list_str] at this
    n0 := Crc.num_lo _
    n1 := Crc.num_hi _
    cX := fun w => fixed_n h.sum.toNat 4 (by omega) (by decide) (by decide) (by omega) w
    aX := cat_c _ _ _ rfl (by rw [hl, be_length]; omega)
    cZ := fun w => Sr.repeat_c 51 (by omega) w
    aZ := cat_c _ _ _ rfl (by rw [List.length_append, hl, be_length, List.length_replicate]; omega)
    aR := cat_c _ _ _ (by unfold Hd.sec; simp only [List.append_assoc]) (by rw [List.length_append, List.length_append, hl, be_length, List.length_replicate, be_length]; omega) }
theorem sector_c (h : Hd) (g : h.good) (w : World) :
    Calls Tryz.prog 102 #[.agg #[.int .i64 h.seq, .int .i64 h.boot, .int .i64 h.area, .int .i64 h.first, .int .i64 h.snaps]] w fun e w' => e = .returned (.string (str h.sec)) ∧ Kept w w' := by
  obtain ⟨_, _, _, _, _, _, _, _, _, _, _, _, _, _, G⟩ := secG h g
  exact sector_g G w

set_option maxRecDepth 100000 in
/-- Encode. -/
theorem encode_c (h : Hd) (w : World) :
    Calls Tryz.prog 84 #[.agg #[.int .i64 h.seq, .int .i64 h.boot, .int .i64 h.area, .int .i64 h.first, .int .i64 h.snaps]] w fun e w' => e = .returned (.tuple #[.string h.enc, .int .i64 h.err]) ∧ Kept w w' := by
  have cV := valid_c h
  by_cases hn : h.ok = true
  · have hg := h.ok_iff.mp hn
    have he := h.err_zero.mpr hg
    have cS := sector_c h hg
    rw [he, Hd.enc_good hg]
    rw [hn] at cV
    generalize str h.sec = R at cS ⊢
    clear he hg hn
    obtain ⟨q, b, a, f, n⟩ := h
    have hk0 := Kept.alloc (Kept.refl w) (.cells #[.int .i64 q, .int .i64 b, .int .i64 a, .int .i64 f, .int .i64 n] 74)
    have hb := Box.start w 74 q b a f n
    dsimp only at cV cS ⊢
    go_enter Tryz.func84, Tryz.ntmps84
    go_wp2_with (first
      | (go_at_call 101; (with_reducible refine (cV _).mono ?_); rintro e u1 ⟨rfl, k1⟩; obtain ⟨_, c0, c1, c2, c3, c4⟩ := hb.kept k1)
      | (go_at_call 102; (with_reducible refine (cS _).mono ?_); rintro e u2 ⟨rfl, k2⟩))
    go_ret2
    exact ⟨rfl, (hk0.trans k1).trans k2⟩
  · have hc : h.enc = ⟨#[]⟩ ∧ h.err = 2 := Hd.enc_bad (fun g => hn (h.ok_iff.mpr g))
    rw [hc.1, hc.2]
    rw [show h.ok = false by simpa using hn] at cV
    clear hc hn
    obtain ⟨q, b, a, f, n⟩ := h
    have hk0 := Kept.alloc (Kept.refl w) (.cells #[.int .i64 q, .int .i64 b, .int .i64 a, .int .i64 f, .int .i64 n] 74)
    dsimp only at cV
    go_enter Tryz.func84, Tryz.ntmps84
    go_wp2_with (go_at_call 101; (with_reducible refine (cV _).mono ?_); rintro e u1 ⟨rfl, k1⟩)
    go_ret2
    exact ⟨rfl, hk0.trans k1⟩
end Go.Proofs.YtckbhjjflpobbaaGreat.Hk
