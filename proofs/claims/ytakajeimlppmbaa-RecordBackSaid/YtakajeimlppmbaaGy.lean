/-
  RecordBack's walk, over what its calls do.
-/
import Derived.Test.YtakajeimlppmbaaGt
import Derived.BigQuiet
namespace Go.Proofs.Ytakajeimlppmbaa.Rc
open Go Go.RowKit Go.ChangeShapes Go.WideShapes Go.ChangeAt Go.Proofs.Ytakajeimlppmbaa.Mem Go.Proofs.Ytakajeimlppmbaa.Pk Go.Proofs.Ytakajeimlppmbaa.Fk Go.Proofs.Ytakajeimlppmbaa.Dz Go.Proofs.Ytakajeimlppmbaa.Fz
set_option linter.unusedVariables false

/-- What lies behind the record's first sector is that of no record's beginning. -/
theorem back_next {S : Nat → ByteArray} {t u : Nat} {b l boot : Int} {k : Nat} {d : ByteArray} (hn : num b l) (hk : k < 256) (hd : d.size ≤ 4096) (hS : ∀ i, i < parts d.size → S (t + i) = sec b l k d i) (hz : S (t + parts d.size) = Z) (r : Fr) : ¬ rdOk S (t + 1) u l boot r := by
  have hp := parts_pos d.size
  by_cases h1 : parts d.size = 1
  · refine rd_head (.inr (.inl ?_)) r
    rw [h1] at hz
    rw [hz, Z_str]
    rcases decE_or (str (List.replicate 80 0)) with ⟨_, h⟩ | ⟨h, _⟩
    · rw [zeros_none] at h; cases h
    · rw [h]; decide
  · refine rd_head (.inr (.inr (.inr (.inr (.inl ?_))))) r
    rw [hS 1 (by omega), (sec_decF hn hk hd (by omega)).1]
    show ((1 : Nat) : Int) ≠ 0
    decide
structure BG (w : World) (b l : Int) (k : Nat) (d : ByteArray) (K N : Nat) (z : Nat) (X : Nat → ByteArray) (s1 : Ds) : Prop where
  cs : Calls Try.prog 13 #[.int .i64 b, .int .i64 l, .int .u8 (k : Int), .string d] w fun e w' => ∃ g cap, e = .returned (.tuple #[.slice (some ⟨g, 0, none⟩) N cap, .int .i64 0]) ∧ Mem.Own w [secA (.slice (some ⟨g, 0, none⟩) N cap) N X] w'
  cp : ∀ W, Calls Try.prog 11 #[.int .i64 (d.size : Int)] W fun e w' => e = .returned (.tuple #[.int .i64 (N : Int), .int .i64 0]) ∧ W = w'
  cd : ∀ i W, i < N → Calls Try.prog 25 #[.string (X i)] W fun e w' => e = .returned (.tuple #[.agg #[.int .i64 b, .int .i64 l, .int .i64 (i : Int), .int .i64 (N : Int), .int .u8 (k : Int), .string (piece d i)], .int .i64 0]) ∧ Kept W w'
  full : ∀ i, i + 1 < N → (piece d i).size = 44
  cat : ∀ i W, i < N → (Op.stringOp .add (str (d.data.toList.take (44 * i))) (piece d i)).run Try.prog W = .ok (.string (str (d.data.toList.take (44 * (i + 1))))) W
  all : str (d.data.toList.take (44 * N)) = d
  hfn : ∀ (L : List As) (W : World), Mem.Own w L W → Calls Try.prog 27 #[] W fun e w' => ∃ F, e = .returned (.pointer (some ⟨F, 0, none⟩)) ∧ Mem.Own w (fzA F .idle :: L) w'
  hnew : ∀ (F : Nat) (L : List As) (W : World), Mem.Own w (fzA F .idle :: L) W → Calls Try.prog 26 #[.int .i64 ((N : Int) + (K : Int) + 1), .pointer (some ⟨F, 0, none⟩)] W fun e w' => ∃ D, e = .returned (.tuple #[.pointer (some ⟨D, 0, none⟩), .int .i64 0]) ∧ Mem.Own w (dk F D (fresh (N + K + 1) .idle) :: L) w'
  hwr : ∀ (F D g cap : Nat) (W : World), Mem.Own w [dk F D (fresh (N + K + 1) .idle), secA (.slice (some ⟨g, 0, none⟩) N cap) N X] W → Calls Try.prog 28 #[.pointer (some ⟨D, 0, none⟩), .int .i64 (K : Int), .slice (some ⟨g, 0, none⟩) N cap] W fun e w' => e = .returned (.bool true) ∧ Mem.Own w [dk F D s1] w'
  hrd : ∀ (F D : Nat) (b' : Int) (W : World), b' ≤ b → Mem.Own w [dk F D s1] W → Calls Try.prog 18 #[.pointer (some ⟨D, 0, none⟩), .int .i64 (K : Int), .int .i64 ((N : Int) + (K : Int)), .int .i64 l, .int .i64 b'] W fun ed w' => ed = .returned (.tuple #[.agg #[.int .i64 b, .int .i64 l, .int .i64 0, .int .i64 (N : Int), .int .u8 (k : Int), .string d], .int .i64 0]) ∧ Mem.Own w [dk F D s1] w' ∧ Kept W w'
  hb1 : ∀ (F D : Nat) (W : World), Mem.Own w [dk F D s1] W → Calls Try.prog 18 #[.pointer (some ⟨D, 0, none⟩), .int .i64 (K : Int), .int .i64 ((N : Int) + (K : Int)), .int .i64 l, .int .i64 (b + 1)] W fun ed w' => ed = .returned (.tuple #[.agg #[.int .i64 0, .int .i64 0, .int .i64 0, .int .i64 0, .int .u8 0, .string ⟨#[]⟩], .int .i64 12]) ∧ Mem.Own w [dk F D s1] w'
  hb2 : ∀ (F D : Nat) (W : World), Mem.Own w [dk F D s1] W → Calls Try.prog 18 #[.pointer (some ⟨D, 0, none⟩), .int .i64 (K : Int), .int .i64 ((N : Int) + (K : Int)), .int .i64 (l + 1), .int .i64 b] W fun ed w' => ed = .returned (.tuple #[.agg #[.int .i64 0, .int .i64 0, .int .i64 0, .int .i64 0, .int .u8 0, .string ⟨#[]⟩], .int .i64 12]) ∧ Mem.Own w [dk F D s1] w'
  hb3 : ∀ (F D : Nat) (W : World), Mem.Own w [dk F D s1] W → Calls Try.prog 18 #[.pointer (some ⟨D, 0, none⟩), .int .i64 (K : Int), .int .i64 ((N : Int) + (K : Int) - 1), .int .i64 l, .int .i64 b] W fun ed w' => ed = .returned (.tuple #[.agg #[.int .i64 0, .int .i64 0, .int .i64 0, .int .i64 0, .int .u8 0, .string ⟨#[]⟩], .int .i64 12]) ∧ Mem.Own w [dk F D s1] w'
  hb4 : ∀ (F D : Nat) (W : World), Mem.Own w [dk F D s1] W → Calls Try.prog 18 #[.pointer (some ⟨D, 0, none⟩), .int .i64 ((K : Int) + 1), .int .i64 ((N : Int) + (K : Int) + 1), .int .i64 l, .int .i64 b] W fun ed w' => ed = .returned (.tuple #[.agg #[.int .i64 0, .int .i64 0, .int .i64 0, .int .i64 0, .int .u8 0, .string ⟨#[]⟩], .int .i64 12]) ∧ Mem.Own w [dk F D s1] w'
set_option maxHeartbeats 8000000 in
set_option maxRecDepth 100000 in
theorem back_core (w : World) (b l : Int) (hb : 1 ≤ b ∧ b ≤ 4294967295) (hl : 1 ≤ l ∧ l ≤ 281474976710655) (k : Nat) (hk : k ≤ 255) (d : ByteArray) (hd : d.size ≤ 4096) (a z K N : Nat) (ha : a ≤ 255) (hz : z ≤ 255) (hK : (a : Int) % 4 = (K : Int)) (hK4 : K < 4) (hN1 : 1 ≤ N) (hN : N ≤ 94) (X : Nat → ByteArray) (s1 : Ds) (G : BG w b l k d K N z X s1) :
    Calls Try.prog 6 #[.int .i64 b, .int .i64 l, .int .u8 (k : Int), .string d, .int .u8 (a : Int), .int .u8 (z : Int)] w fun e w' => e = .returned (.bool true) ∧ Kept w w' := by
  have hkn : ∀ W, Calls Try.prog 10 #[] W fun e w' => e = .returned (.bool true) ∧ Kept W w' := known_c
  have tK : (a : Int).tmod 4 = (K : Int) := by rw [Int.tmod_eq_emod_of_nonneg (by omega)]; exact hK
  have t1 : decide (4096 < (d.size : Int)) = false := by simp; omega
  have t1' : decide (4096 < d.size) = false := by simp; omega
  have t2 : decide (b < 1) = false := by simp; omega
  have t3 : decide (4294967296 ≤ b) = false := by simp; omega
  have t4 : decide (l < 1) = false := by simp; omega
  have t5 : decide (281474976710656 ≤ l) = false := by simp; omega
  have t6 : decide ((N : Int) < 1) = false := by simp; omega
  have t6' : decide (N < 1) = false := by simp; omega
  have HG := Lib.hid G
  have hcp := G.cp
  have hcs := G.cs
  clear G hd
  go_enter Try.func6, Try.ntmps6
  go_wp2_with (first
    | (go_at_call 13; (with_reducible refine hcs.mono ?_); rintro e u1 ⟨g, cap, rfl, p1⟩; have P1 := Lib.hid p1; clear p1)
    | (go_at_call 11; (with_reducible refine (hcp _).mono ?_); rintro e u2 ⟨rfl, rfl⟩))
  clear hcs hcp t1 t1' t2 t3 t4 t5 t6 t6'
  go_loopw [17, 18] (fun v i wr => ∃ j : Nat, j ≤ N ∧ i = .int .i64 j ∧ v = .string (str (d.data.toList.take (44 * j))) ∧ Mem.Own w [secA (.slice (some ⟨g, 0, none⟩) N cap) N X] wr) (fun _ i _ => N - (intOf i).toNat)
  case atStart => exact ⟨0, by omega, rfl, rfl, P1.out⟩
  case round =>
    clear P1
    obtain ⟨j, hj, rfl, rfl, hp⟩ := hrel
    by_cases hlt : j < N
    · obtain ⟨g', eg, x0⟩ := own_strs hp 0 rfl j hlt
      cases eg
      have hcd := HG.out.cd j
      have hcat := fun W => HG.out.cat j W hlt
      obtain ⟨XJ, hXJ⟩ : ∃ XJ, XJ = X j := ⟨_, rfl⟩
      obtain ⟨PJ, hPJ⟩ : ∃ PJ, PJ = piece d j := ⟨_, rfl⟩
      obtain ⟨W0, hW0⟩ : ∃ W0, W0 = str (d.data.toList.take (44 * j)) := ⟨_, rfl⟩
      obtain ⟨W1, hW1⟩ : ∃ W1, W1 = str (d.data.toList.take (44 * (j + 1))) := ⟨_, rfl⟩
      rw [← hXJ] at hcd x0
      rw [← hPJ] at hcd hcat
      rw [← hW0, ← hW1] at hcat
      rw [← hW0]
      have P := Lib.hid hp
      have HW := Lib.hid hW1
      have h44 : j + 1 < N → PJ.size = 44 := fun h => by rw [hPJ]; exact HG.out.full j h
      clear hp hXJ hPJ hW0 hW1
      by_cases hl' : j + 1 < N
      · have q1 : decide ((j : Int) < (N : Int) - 1) = true := by simp; omega
        have q2 : ((PJ.size : Int) != 44) = false := by rw [h44 hl']; rfl
        clear h44
        go_wp2_with (go_at_call 25; (with_reducible refine (hcd _ hlt).mono ?_); rintro e u3 ⟨rfl, k3⟩; have K3 := Lib.hid k3; clear k3)
        go_roundw
        case rel => exact ⟨j + 1, by omega, by go_num, by rw [HW.out], (P.out.later K3.out).alloc _⟩
        case measure => simp [intOf]; omega
      · have q1 : decide ((j : Int) < (N : Int) - 1) = false := by simp; omega
        clear h44
        go_wp2_with (go_at_call 25; (with_reducible refine (hcd _ hlt).mono ?_); rintro e u3 ⟨rfl, k3⟩; have K3 := Lib.hid k3; clear k3)
        go_roundw
        case rel => exact ⟨j + 1, by omega, by go_num, by rw [HW.out], (P.out.later K3.out).alloc _⟩
        case measure => simp [intOf]; omega
    · obtain rfl : j = N := by omega
      rw [HG.out.all]
      have P := Lib.hid hp
      clear hp
      go_wp2_with (first
        | (go_at_call 27; refine (HG.out.hfn _ _ P.out).mono ?_; rintro e u3 ⟨F, rfl, p3⟩)
        | (go_at_call 26; (with_reducible refine (HG.out.hnew _ _ _ p3).mono ?_); rintro e u4 ⟨D, rfl, p4⟩; clear p3)
        | (go_at_call 28; (with_reducible refine (HG.out.hwr _ _ _ _ _ p4).mono ?_); rintro e u5 ⟨rfl, p5⟩; have P5 := Lib.hid p5; clear p4 p5))
      obtain ⟨V, hV⟩ : ∃ V, V = (u5.alloc (.cells #[.int .i64 b, .int .i64 l, .int .i64 0, .int .i64 (j : Int), .int .u8 (k : Int), .string d] 38)).alloc (.cells #[.int .i64 b, .int .i64 (b - (z : Int)), .int .i64 0] 3) := ⟨_, rfl⟩
      have PV := Lib.hid (show Mem.Own w [dk F D s1] V by rw [hV]; exact (P5.out.alloc _).alloc _)
      have bW : V.heap[u5.heap.size]? = some (.cells (fcells b l 0 j k d) 38 (0, 0)) := by rw [hV]; exact boxed_two u5 _ _ _
      have bT : V.heap[u5.heap.size + 1]? = some (.cells #[.int .i64 b, .int .i64 (b - (z : Int)), .int .i64 0] 3 (0, 0)) := by
        rw [hV]
        have := World.alloc_heap_new (u5.alloc (.cells #[.int .i64 b, .int .i64 l, .int .i64 0, .int .i64 (j : Int), .int .u8 (k : Int), .string d] 38)) (.cells #[.int .i64 b, .int .i64 (b - (z : Int)), .int .i64 0] 3)
        rwa [World.size_alloc] at this
      have HV := Lib.hid (And.intro bW bT)
      rw [← hV]
      clear hV bW bT
      go_loopw [195] (fun v wr => ∃ i : Nat, i ≤ 3 ∧ v = .int .i64 i ∧ Kept V wr ∧ Mem.Own w [dk F D s1] wr) (fun v _ => 3 - (intOf v).toNat)
      case atStart => exact ⟨0, by omega, rfl, Kept.refl V, PV.out⟩
      case round =>
        clear PV
        obtain ⟨i, hi, rfl, kv, hp⟩ := hrel
        have P := Lib.hid hp
        have KV := Lib.hid kv
        by_cases hlt3 : i < 3
        · obtain ⟨b', hb', hc⟩ : ∃ b' : Int, b' ≤ b ∧ wr.cell? ⟨u5.heap.size + 1, i, none⟩ = some (.int .i64 b') := by
            have hT := kv.block HV.out.2
            have c0 : wr.cell? ⟨u5.heap.size + 1, 0, none⟩ = some (.int .i64 b) := cell_of_row _ _ _ _ _ _ hT
            have c1 : wr.cell? ⟨u5.heap.size + 1, 1, none⟩ = some (.int .i64 (b - (z : Int))) := cell_of_row _ _ _ _ _ _ hT
            have c2 : wr.cell? ⟨u5.heap.size + 1, 2, none⟩ = some (.int .i64 0) := cell_of_row _ _ _ _ _ _ hT
            have : i = 0 ∨ i = 1 ∨ i = 2 := by omega
            rcases this with rfl | rfl | rfl
            · exact ⟨b, Int.le_refl _, c0⟩
            · exact ⟨b - (z : Int), by omega, c1⟩
            · exact ⟨0, by omega, c2⟩
          have hr := HG.out.hrd F D b' wr hb' P.out
          clear hp kv
          go_wp2_with (go_at_call 18; (with_reducible refine hr.mono ?_); rintro e u6 ⟨rfl, p6, k6⟩; have P6 := Lib.hid (And.intro p6 k6); clear p6 k6; obtain ⟨⟨e0, e1, e2, e3, e4, e5⟩, fe⟩ := rblock (((KV.out.trans P6.out.2).alloc (.cells #[.int .i64 b, .int .i64 l, .int .i64 0, .int .i64 (j : Int), .int .u8 (k : Int), .string d] 38)).block HV.out.1))
          go_roundw
          case rel => exact ⟨i + 1, by omega, by go_num, (KV.out.trans P6.out.2).alloc _, P6.out.1.alloc _⟩
          case measure => simp [intOf]; omega
        · clear hp kv
          go_wp2_with (first
            | (go_at_call 18; (with_reducible refine (HG.out.hb1 _ _ _ P.out).mono ?_); rintro e u7 ⟨rfl, p7⟩; have P7 := Lib.hid p7; clear p7)
            | (go_at_call 18; (with_reducible refine (HG.out.hb2 _ _ _ P7.out).mono ?_); rintro e u8 ⟨rfl, p8⟩; have P8 := Lib.hid p8; clear p8)
            | (go_at_call 18; (with_reducible refine (HG.out.hb3 _ _ _ P8.out).mono ?_); rintro e u9 ⟨rfl, p9⟩; have P9 := Lib.hid (p9.alloc (.cells #[.int .i64 0, .int .i64 0, .int .i64 0, .int .i64 0, .int .u8 0, .string ⟨#[]⟩] 38)); clear p9)
            | (go_at_call 18; (with_reducible refine (HG.out.hb4 _ _ _ P9.out).mono ?_); rintro e u10 ⟨rfl, p10⟩; have P10 := Lib.hid p10; clear p10)
            | (go_at_call 10; (with_reducible refine (hkn _).mono ?_); rintro e u11 ⟨rfl, k11⟩))
          go_ret
          exact ⟨rfl, (P10.out.kept.alloc _).trans k11⟩
end Go.Proofs.Ytakajeimlppmbaa.Rc
