/-
  The walk of PackRow.
-/
import Derived.Test.YtghnaimpcjbhdaaPv
namespace Go.Proofs.Ytghnaimpcjbhdaa.Pk
open Go.RowKit Go.Proofs.Ytghnaimpcjbhdaa.Mem Go.ChangeShapes Go.WideShapes Go.ChangeAt

/-- What is so before each round of the first loop. -/
def Lp1 (w : World) (X : Nat → It) (k : Nat) (wr : World) : Prop := Kept w wr ∧ ∀ j, j < k → (X j).s.size ≤ 300
/-- What region 9 reads stays through calls. -/
theorem cells_kept {w V W : World} {b o : Nat} {K J : Int} {N : Nat} {S : ByteArray} (hb : b < w.heap.size)
    (h : Kept w V ∧ V.cell? ⟨b, o, none⟩ = some (.int .u8 K) ∧ V.cell? ⟨b, o + 1, none⟩ = some (.int .i64 J) ∧ V.cell? ⟨b, o + 2, none⟩ = some (.int .u64 N) ∧ V.cell? ⟨b, o + 3, none⟩ = some (.string S)) (k : Kept V W) :
    Kept w W ∧ W.cell? ⟨b, o, none⟩ = some (.int .u8 K) ∧ W.cell? ⟨b, o + 1, none⟩ = some (.int .i64 J) ∧ W.cell? ⟨b, o + 2, none⟩ = some (.int .u64 N) ∧ W.cell? ⟨b, o + 3, none⟩ = some (.string S) := by
  have hv : b < V.heap.size := Nat.lt_of_lt_of_le hb h.1.size
  exact ⟨h.1.trans k, by rw [Kept.cell k hv]; exact h.2.1, by rw [Kept.cell k hv]; exact h.2.2.1, by rw [Kept.cell k hv]; exact h.2.2.2.1, by rw [Kept.cell k hv]; exact h.2.2.2.2⟩
theorem size_next {X : Nat → It} {k : Nat} {K J : Int} {N : Nat} {S : ByteArray} (h : ∀ j, j < k → (X j).s.size ≤ 300) (e : (⟨K, J, N, S⟩ : It) = X k) (hs : S.size ≤ 300) : ∀ j, j < k + 1 → (X j).s.size ≤ 300 := by
  intro j hj
  by_cases h' : j = k
  · subst h'; rw [← e]; exact hs
  · exact h j (by omega)
theorem cat_cat (X : Nat → It) (k : Nat) {x : It} (E : ByteArray) (h : ∀ j, j < k + 1 → (X j).s.size ≤ 300) (hk : k ≤ 30) (e : x = X k) (hE : E = enc x) (w : World) : (Op.stringOp .add (cat X k) E).run Try.prog w = .ok (.string (cat X (k + 1))) w := by
  subst e hE
  have h1 := cat_size X k fun j hj => h j (by omega)
  have h2 := (enc_size (X k) (h k (by omega))).2
  rw [run_string_add_sum w _ _ (by omega)]
  rfl
set_option maxHeartbeats 4000000 in
set_option maxRecDepth 100000 in
theorem row_walk (b off len cap : Nat) (X : Nat → It) (w : World) (h1 : 1 ≤ len) (h30 : len ≤ 30) (hb : b < w.heap.size) (hX : ∀ i, i < len → (X i).at b (off + i * 4) w) (hok : ∀ i, i < len → (X i).ok) :
    Calls Try.prog 8 #[.slice (some ⟨b, off, none⟩) len cap] w fun e w' => e = .returned (.bool true) ∧ Kept w w' := by
  have i30 : (len : Int) ≤ 30 := by omega
  go_enter Try.func8, Try.ntmps8
  go_wp2
  go_loopw [3, 5] (fun s i wr => ∃ k : Nat, k ≤ len ∧ i = .int .i64 k ∧ s = .string (cat X k) ∧ Lp1 w X k wr) (fun _ i _ => len - (intOf i).toNat)
  case atStart => exact ⟨0, by omega, rfl, rfl, Kept.refl _, fun j hj => absurd hj (by omega)⟩
  case round =>
    obtain ⟨k, hk, rfl, rfl, hL, hsz⟩ := hrel
    by_cases hlt : k < len
    · have hat := (hX k hlt).kept hL hb
      have hx := hok k hlt
      obtain ⟨x, hxx⟩ : ∃ x, x = X k := ⟨_, rfl⟩
      rw [← hxx] at hat hx
      have HX := Lib.hid hxx
      clear hxx
      obtain ⟨K, J, N, S⟩ := x
      have ck := hat.ck
      have ci := hat.ci
      have cn := hat.cn
      have cs := hat.cs
      by_cases h300 : S.size ≤ 300
      · have hS : decide (300 < (S.size : Int)) = false := by simp; omega
        obtain ⟨A, B, C, G⟩ := enc_of _ hx h300
        have hst : Kept w wr ∧ wr.cell? ⟨b, off + k * 4, none⟩ = some (.int .u8 K) ∧ wr.cell? ⟨b, off + k * 4 + 1, none⟩ = some (.int .i64 J) ∧ wr.cell? ⟨b, off + k * 4 + 2, none⟩ = some (.int .u64 N) ∧ wr.cell? ⟨b, off + k * 4 + 3, none⟩ = some (.string S) := ⟨hL, ck, ci, cn, cs⟩
        obtain ⟨E, hE⟩ : ∃ E, E = enc ⟨K, J, N, S⟩ := ⟨_, rfl⟩
        rw [← hE] at G
        have k0 : 0 ≤ K := hx.k0
        have hix : ∀ W, (Instr.index 47 (.agg #[.string A, .string B, .string C]) (.int .u8 (K.tmod 3))).run Try.prog W = .ok (.string E) W := fun W => by rw [Int.tmod_eq_emod_of_nonneg k0]; exact G.ix W
        have HE := Lib.hid hE
        clear hE hat hx
        go_wp2_with fail
        go_region_held3 (fun W => Kept w W ∧ W.cell? ⟨b, off + k * 4, none⟩ = some (.int .u8 K) ∧ W.cell? ⟨b, off + k * 4 + 1, none⟩ = some (.int .i64 J) ∧ W.cell? ⟨b, off + k * 4 + 2, none⟩ = some (.int .u64 N) ∧ W.cell? ⟨b, off + k * 4 + 3, none⟩ = some (.string S)) (first | assumption | exact cells_kept hb hst (Kept.drew (Kept.refl _)) | (refine cells_kept hb ?_ ‹_›; assumption)) (first
          | (go_at_call 14; (with_reducible refine (G.cI _).mono ?_); rintro e u ⟨rfl, hg⟩)
          | (go_at_call 12; (with_reducible refine (G.cN _).mono ?_); rintro e u ⟨rfl, hg⟩)
          | (go_at_call 16; (with_reducible refine (G.cT _).mono ?_); rintro e u ⟨rfl, hg⟩))
        have hcat := cat_cat X k E (size_next hsz HX.out h300) (by omega) HX.out HE.out
        go_wp2_with fail
        go_roundw
        case rel => exact ⟨k + 1, by omega, by go_num, rfl, by first | exact And.left ‹_› | assumption, size_next hsz HX.out h300⟩
        case measure => simp [intOf]; omega
      · have hS : decide (300 < (S.size : Int)) = true := by simp; omega
        go_wp2_with (go_at_call 9; (with_reducible refine (known_any _).mono ?_); rintro e u ⟨rfl, hg⟩)
        go_ret
        exact ⟨rfl, hL.trans hg⟩
    · obtain rfl : len = k := by omega
      go_wp2_with fail
      go_loopw [3, 6] (fun s i wr => ∃ (k : Nat) (T : ByteArray), k ≤ len ∧ i = .int .i64 k ∧ s = .string T ∧ (k < len → T = rest X k (len - k)) ∧ Kept w wr) (fun _ i _ => len - (intOf i).toNat)
      case atStart => exact ⟨0, cat X len, by omega, rfl, rfl, fun _ => cat_all X len, hL⟩
      case round =>
        obtain ⟨wo, rfl⟩ : ∃ wo : World, wo = wr := ⟨_, rfl⟩
        obtain ⟨k, T, hk, rfl, rfl, hT, hL2⟩ := hrel
        clear hL
        by_cases hlt : k < len
        · have hbo : b < wo.heap.size := Nat.lt_of_lt_of_le hb hL2.size
          have hat := (hX k hlt).kept hL2 hb
          have hx := hok k hlt
          have h300 := hsz k hlt
          have hTx := hT hlt
          rw [show len - k = len - k - 1 + 1 by omega] at hTx
          obtain ⟨x, hxx⟩ : ∃ x, x = X k := ⟨_, rfl⟩
          replace hTx : T = enc (X k) ++ rest X (k + 1) (len - k - 1) := hTx
          rw [← hxx] at hat hx h300 hTx
          clear hxx hT
          have h3 : x.k % 3 = 0 ∨ x.k % 3 = 1 ∨ x.k % 3 = 2 := by omega
          have k0 : 0 ≤ x.k := hx.k0
          by_cases hw : k + 1 < len
          · obtain ⟨U, G⟩ := rd_of x hx h300 (rest X (k + 1) (len - k - 1)) false (Nat.le_trans (rest_size X (len - k - 1) (k + 1) fun j hj => hsz j (by omega)) (by omega)) (fun h => by cases h)
            have hwd : decide ((k : Int) < (len : Int) - 1) = true := by simp; omega
            obtain ⟨R, hR⟩ : ∃ R, R = rest X (k + 1) (len - k - 1) := ⟨_, rfl⟩
            rw [← hTx] at G
            rw [← hR] at G
            have HR := Lib.hid hR
            clear hR hTx hsz
            have ef := G.ef
            have t1 := G.t1
            have t2 := G.t2
            rcases h3 with h3 | h3 | h3
            · have c0 := G.c0 h3
              clear G h300
              go_wp2_with fail
              go_loopw [3, 8] (fun s q wi => ∃ m : Nat, m ≤ 2 ∧ q = .int .i64 m ∧ s = .string (if m = 0 then T else R) ∧ Kept wo wi) (fun _ q _ => 2 - (intOf q).toNat)
              case atStart => exact ⟨0, by omega, rfl, rfl, Kept.refl _⟩
              case round =>
                obtain ⟨m, hm, rfl, rfl, hki⟩ := hrel
                have hm3 : m = 0 ∨ m = 1 ∨ m = 2 := by omega
                clear hm
                have hat2 := hat.kept hki hbo
                have ck := hat2.ck
                have ci := hat2.ci
                have cn := hat2.cn
                have cs := hat2.cs
                rcases hm3 with rfl | rfl | rfl
                · go_wp2_with (go_at_call 22; (with_reducible refine (c0 _).mono ?_); rintro e u ⟨rfl, hg⟩; have cu := (hat.kept (hki.trans hg) hbo).ci)
                  go_roundw
                  case rel => exact ⟨1, by omega, rfl, rfl, hki.trans hg⟩
                  case measure => simp [intOf]
                · go_wp2_with fail
                  go_roundw
                  case rel => exact ⟨2, by omega, rfl, rfl, hki⟩
                  case measure => simp [intOf]
                · go_wp2_with fail
                  go_roundw
                  case rel => exact ⟨k + 1, R, by omega, by go_num, rfl, fun _ => by rw [HR.out, Nat.sub_sub], hL2.trans hki⟩
                  case measure => simp [intOf]; omega
            · have c1 := G.c1 h3
              clear G h300
              go_wp2_with fail
              go_loopw [3, 8] (fun s q wi => ∃ m : Nat, m ≤ 2 ∧ q = .int .i64 m ∧ s = .string (if m = 0 then T else R) ∧ Kept wo wi) (fun _ q _ => 2 - (intOf q).toNat)
              case atStart => exact ⟨0, by omega, rfl, rfl, Kept.refl _⟩
              case round =>
                obtain ⟨m, hm, rfl, rfl, hki⟩ := hrel
                have hm3 : m = 0 ∨ m = 1 ∨ m = 2 := by omega
                clear hm
                have hat2 := hat.kept hki hbo
                have ck := hat2.ck
                have ci := hat2.ci
                have cn := hat2.cn
                have cs := hat2.cs
                rcases hm3 with rfl | rfl | rfl
                · go_wp2_with (go_at_call 20; (with_reducible refine (c1 _).mono ?_); rintro e u ⟨rfl, hg⟩; have cu := (hat.kept (hki.trans hg) hbo).cn)
                  go_roundw
                  case rel => exact ⟨1, by omega, rfl, rfl, hki.trans hg⟩
                  case measure => simp [intOf]
                · go_wp2_with fail
                  go_roundw
                  case rel => exact ⟨2, by omega, rfl, rfl, hki⟩
                  case measure => simp [intOf]
                · go_wp2_with fail
                  go_roundw
                  case rel => exact ⟨k + 1, R, by omega, by go_num, rfl, fun _ => by rw [HR.out, Nat.sub_sub], hL2.trans hki⟩
                  case measure => simp [intOf]; omega
            · have c2 := G.c2 h3
              clear G h300
              go_wp2_with fail
              go_loopw [3, 8] (fun s q wi => ∃ m : Nat, m ≤ 2 ∧ q = .int .i64 m ∧ s = .string (if m = 0 then T else R) ∧ Kept wo wi) (fun _ q _ => 2 - (intOf q).toNat)
              case atStart => exact ⟨0, by omega, rfl, rfl, Kept.refl _⟩
              case round =>
                obtain ⟨m, hm, rfl, rfl, hki⟩ := hrel
                have hm3 : m = 0 ∨ m = 1 ∨ m = 2 := by omega
                clear hm
                have hat2 := hat.kept hki hbo
                have ck := hat2.ck
                have ci := hat2.ci
                have cn := hat2.cn
                have cs := hat2.cs
                rcases hm3 with rfl | rfl | rfl
                · go_wp2_with (go_at_call 24; (with_reducible refine (c2 _).mono ?_); rintro e u ⟨rfl, hg⟩; have cu := (hat.kept (hki.trans hg) hbo).cs)
                  go_roundw
                  case rel => exact ⟨1, by omega, rfl, rfl, hki.trans hg⟩
                  case measure => simp [intOf]
                · go_wp2_with fail
                  go_roundw
                  case rel => exact ⟨2, by omega, rfl, rfl, hki⟩
                  case measure => simp [intOf]
                · go_wp2_with fail
                  go_roundw
                  case rel => exact ⟨k + 1, R, by omega, by go_num, rfl, fun _ => by rw [HR.out, Nat.sub_sub], hL2.trans hki⟩
                  case measure => simp [intOf]; omega
          · have e0 : len - k - 1 = 0 := by omega
            rw [e0] at hTx
            replace hTx : T = enc x ++ ⟨#[]⟩ := hTx
            obtain ⟨U, G⟩ := rd_of x hx h300 ⟨#[]⟩ true (Nat.zero_le _) (fun _ => rfl)
            have hwd : decide ((k : Int) < (len : Int) - 1) = false := by simp; omega
            rw [← hTx] at G
            clear hTx hsz e0
            have ef := G.ef
            have t1 := G.t1
            have t2 := G.t2
            have eu := G.eu rfl
            rcases h3 with h3 | h3 | h3
            · have c0 := G.c0 h3
              have d0 := G.d0 rfl h3
              clear G h300
              go_wp2_with fail
              go_loopw [3, 8] (fun s q wi => ∃ m : Nat, m ≤ 2 ∧ q = .int .i64 m ∧ s = .string (if m = 0 then T else T) ∧ Kept wo wi) (fun _ q _ => 2 - (intOf q).toNat)
              case atStart => exact ⟨0, by omega, rfl, rfl, Kept.refl _⟩
              case round =>
                obtain ⟨m, hm, rfl, rfl, hki⟩ := hrel
                have hm3 : m = 0 ∨ m = 1 ∨ m = 2 := by omega
                clear hm
                have hat2 := hat.kept hki hbo
                have ck := hat2.ck
                have ci := hat2.ci
                have cn := hat2.cn
                have cs := hat2.cs
                rcases hm3 with rfl | rfl | rfl
                · go_wp2_with (go_at_call 22; (with_reducible refine (c0 _).mono ?_); rintro e u ⟨rfl, hg⟩; have cu := (hat.kept (hki.trans hg) hbo).ci)
                  go_roundw
                  case rel => exact ⟨1, by omega, rfl, rfl, hki.trans hg⟩
                  case measure => simp [intOf]
                · go_wp2_with (go_at_call 22; (with_reducible refine (d0 _).mono ?_); rintro e u ⟨rfl, hg⟩; have cu := (hat.kept (hki.trans hg) hbo).ci)
                  go_roundw
                  case rel => exact ⟨2, by omega, rfl, rfl, hki.trans hg⟩
                  case measure => simp [intOf]
                · go_wp2_with fail
                  go_roundw
                  case rel => exact ⟨k + 1, T, by omega, by go_num, rfl, fun h => absurd h (by omega), hL2.trans hki⟩
                  case measure => simp [intOf]; omega
            · have c1 := G.c1 h3
              have d1 := G.d1 rfl h3
              clear G h300
              go_wp2_with fail
              go_loopw [3, 8] (fun s q wi => ∃ m : Nat, m ≤ 2 ∧ q = .int .i64 m ∧ s = .string (if m = 0 then T else T) ∧ Kept wo wi) (fun _ q _ => 2 - (intOf q).toNat)
              case atStart => exact ⟨0, by omega, rfl, rfl, Kept.refl _⟩
              case round =>
                obtain ⟨m, hm, rfl, rfl, hki⟩ := hrel
                have hm3 : m = 0 ∨ m = 1 ∨ m = 2 := by omega
                clear hm
                have hat2 := hat.kept hki hbo
                have ck := hat2.ck
                have ci := hat2.ci
                have cn := hat2.cn
                have cs := hat2.cs
                rcases hm3 with rfl | rfl | rfl
                · go_wp2_with (go_at_call 20; (with_reducible refine (c1 _).mono ?_); rintro e u ⟨rfl, hg⟩; have cu := (hat.kept (hki.trans hg) hbo).cn)
                  go_roundw
                  case rel => exact ⟨1, by omega, rfl, rfl, hki.trans hg⟩
                  case measure => simp [intOf]
                · go_wp2_with (go_at_call 20; (with_reducible refine (d1 _).mono ?_); rintro e u ⟨rfl, hg⟩; have cu := (hat.kept (hki.trans hg) hbo).cn)
                  go_roundw
                  case rel => exact ⟨2, by omega, rfl, rfl, hki.trans hg⟩
                  case measure => simp [intOf]
                · go_wp2_with fail
                  go_roundw
                  case rel => exact ⟨k + 1, T, by omega, by go_num, rfl, fun h => absurd h (by omega), hL2.trans hki⟩
                  case measure => simp [intOf]; omega
            · have c2 := G.c2 h3
              have d2 := G.d2 rfl h3
              clear G h300
              go_wp2_with fail
              go_loopw [3, 8] (fun s q wi => ∃ m : Nat, m ≤ 2 ∧ q = .int .i64 m ∧ s = .string (if m = 0 then T else T) ∧ Kept wo wi) (fun _ q _ => 2 - (intOf q).toNat)
              case atStart => exact ⟨0, by omega, rfl, rfl, Kept.refl _⟩
              case round =>
                obtain ⟨m, hm, rfl, rfl, hki⟩ := hrel
                have hm3 : m = 0 ∨ m = 1 ∨ m = 2 := by omega
                clear hm
                have hat2 := hat.kept hki hbo
                have ck := hat2.ck
                have ci := hat2.ci
                have cn := hat2.cn
                have cs := hat2.cs
                rcases hm3 with rfl | rfl | rfl
                · go_wp2_with (go_at_call 24; (with_reducible refine (c2 _).mono ?_); rintro e u ⟨rfl, hg⟩; have cu := (hat.kept (hki.trans hg) hbo).cs)
                  go_roundw
                  case rel => exact ⟨1, by omega, rfl, rfl, hki.trans hg⟩
                  case measure => simp [intOf]
                · go_wp2_with (go_at_call 24; (with_reducible refine (d2 _).mono ?_); rintro e u ⟨rfl, hg⟩; have cu := (hat.kept (hki.trans hg) hbo).cs)
                  go_roundw
                  case rel => exact ⟨2, by omega, rfl, rfl, hki.trans hg⟩
                  case measure => simp [intOf]
                · go_wp2_with fail
                  go_roundw
                  case rel => exact ⟨k + 1, T, by omega, by go_num, rfl, fun h => absurd h (by omega), hL2.trans hki⟩
                  case measure => simp [intOf]; omega
        · go_wp2_with (go_at_call 9; (with_reducible refine (known_any _).mono ?_); rintro e u ⟨rfl, hg⟩)
          go_ret
          exact ⟨rfl, hL2.trans hg⟩
end Go.Proofs.Ytghnaimpcjbhdaa.Pk
