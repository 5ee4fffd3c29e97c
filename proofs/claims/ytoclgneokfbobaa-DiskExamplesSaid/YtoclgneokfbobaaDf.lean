/-
  Layer 4's statements: a disk that is filled.
-/
import Derived.Test.YtoclgneokfbobaaDk
import Derived.Test.YtoclgneokfbobaaDa
namespace Go.Proofs.Ytoclgneokfbobaa.Dz
open Go.RowKit Go.ChangeShapes Go.WideShapes Go.ChangeAt Go.Proofs.Ytoclgneokfbobaa.Mem Go.Proofs.Ytoclgneokfbobaa.Fz
set_option linter.unusedVariables false

/-- The disk after k writes, of which the first some are synced. -/
def fillTo (n : Nat) (X : Nat → Put) (some : Nat) : Nat → Ds
  | 0 => fresh n .idle
  | k + 1 => if k + 1 = some then ((fillTo n X some k).wrote ((X k).i % n) (sec (X k).b)).settled (fun _ => 80) else (fillTo n X some k).wrote ((X k).i % n) (sec (X k).b)
structure Full (n k : Nat) (s : Ds) : Prop where
  idle : s.fu = .idle
  n : s.n = n
  ok : s.ok
  len : s.pend.length ≤ k
theorem full_to {n : Nat} {X : Nat → Put} {some : Nat} (h1 : 1 ≤ n) (h2 : n ≤ 65536) : ∀ k, Full n k (fillTo n X some k)
  | 0 => ⟨rfl, rfl, ok_fresh h1 h2 trivial, Nat.le_refl _⟩
  | k + 1 => by
    obtain ⟨e1, e2, e3, e4⟩ := full_to (X := X) (some := some) h1 h2 k
    have hw := e3.wrote (i := (X k).i % n) (by rw [e2]; exact Nat.mod_lt _ (by omega)) (sec_size (X k).b)
    unfold fillTo
    split
    · exact ⟨e1, e2, hw.settled fun _ => Nat.le_refl _, by simp [Ds.settled]⟩
    · exact ⟨e1, e2, hw, by simp [Ds.wrote]; omega⟩
def lks (s : Ds) (k : Nat) : List Value := (List.range k).map fun i => .string (s.look i)
theorem lks_succ (s : Ds) (k : Nat) : lks s (k + 1) = lks s k ++ [.string (s.look k)] := by simp [lks, List.range_succ]
theorem string_info : (Try.prog.info? 9).map (fun i => (i.zero, i.size, i.bytes)) = some (some (.string ByteArray.empty), 1, 16) := by kernel_rfl
set_option maxHeartbeats 4000000 in
set_option maxRecDepth 100000 in
theorem filled_c {w0 w : World} {L : List As} (h : Own w0 L w) (n : Nat) (h1 : 1 ≤ n) (h2 : n ≤ 65536) (ao : Option Addr) (len cap : Nat) (hlen : len < 4294967296) (X : Nat → Put)
    (hX : ∀ i, i < len → ∃ b off, ao = some ⟨b, off, none⟩ ∧ b < w0.heap.size ∧ (X i).at b (off + i * 2) w0) (hok : ∀ i, i < len → (X i).ok) (smany : Nat) (hsm : smany < 4294967296) :
    Calls Try.prog 29 #[.int .i64 (n : Int), .slice ao len cap, .int .i64 (smany : Int)] w fun e w' => ∃ F D v, e = .returned (.tuple #[.pointer (some ⟨D, 0, none⟩), v]) ∧ Own w0 (rowA 9 1 v n (lks (fillTo n X smany len) n) :: dk F D (fillTo n X smany len) :: L) w' := by
  have hH := Lib.hid (And.intro h (And.intro hX (And.intro hok (And.intro h1 h2))))
  clear h hX hok
  have hfn : Calls Try.prog 21 #[] w fun e w' => ∃ F, e = .returned (.pointer (some ⟨F, 0, none⟩)) ∧ Own w0 (fzA F .idle :: L) w' := (o_fnew hH.out.1).mono fun e w' ⟨F, he, hk⟩ => ⟨F, he, hk.front⟩
  have hnew : ∀ {F : Nat} {W : World}, Own w0 (fzA F .idle :: L) W → Calls Try.prog 24 #[.int .i64 (n : Int), .pointer (some ⟨F, 0, none⟩)] W fun e w' => ∃ D, e = .returned (.tuple #[.pointer (some ⟨D, 0, none⟩), .int .i64 0]) ∧ Own w0 (dk F D (fillTo n X smany 0) :: L) w' := fun h => o_new h 0 rfl h1 h2
  clear h1 h2
  go_enter Try.func29, Try.ntmps29
  go_wp2_with (first
    | (go_at_call 21; refine hfn.mono ?_; rintro e u1 ⟨F, rfl, k1⟩)
    | (go_at_call 24; refine (hnew ‹_›).mono ?_; rintro e u2 ⟨D, rfl, k2⟩))
  go_loopw [10] (fun i wr => ∃ k : Nat, k ≤ len ∧ i = .int .i64 k ∧ Own w0 (dk F D (fillTo n X smany k) :: L) wr) (fun i _ => len - (intOf i).toNat)
  case atStart => exact ⟨0, by omega, rfl, k2⟩
  case round =>
    clear k1 k2
    obtain ⟨k, hk, rfl, hp⟩ := hrel
    by_cases hlt : k < len
    · obtain ⟨b, off, rfl, hb, hx⟩ := hH.out.2.1 k hlt
      have h1 := hH.out.2.2.2.1
      have h2 := hH.out.2.2.2.2
      have hfull := full_to (X := X) (some := smany) h1 h2 k
      have hI := (hH.out.2.2.1 k hlt).hi_i
      have hB := (hH.out.2.2.1 k hlt).hi_b
      have hm := Nat.mod_lt (X k).i (Nat.lt_of_lt_of_le Nat.zero_lt_one h1)
      have ci : ∀ W, Kept w0 W → W.cell? ⟨b, off + k * 2, none⟩ = some (.int .u8 ((X k).i : Int)) ∧ W.cell? ⟨b, off + k * 2 + 1, none⟩ = some (.int .u8 ((X k).b : Int)) := fun W hW => by
        have := hx.kept hW hb
        exact ⟨this.ci, this.cb⟩
      obtain ⟨s, hs⟩ : ∃ s, s = fillTo n X smany k := ⟨_, rfl⟩
      have hnext : fillTo n X smany (k + 1) = if k + 1 = smany then (s.wrote ((X k).i % n) (sec (X k).b)).settled (fun _ => 80) else s.wrote ((X k).i % n) (sec (X k).b) := by rw [hs]; rfl
      rw [← hs] at hp hfull
      obtain ⟨I, hI'⟩ : ∃ I, I = (X k).i := ⟨_, rfl⟩
      obtain ⟨B, hB'⟩ : ∃ B, B = (X k).b := ⟨_, rfl⟩
      obtain ⟨m, hm'⟩ : ∃ m, m = (X k).i % n := ⟨_, rfl⟩
      rw [← hI'] at hI
      rw [← hB'] at hB hnext
      rw [← hm'] at hm hnext
      simp only [← hI', ← hB'] at ci
      have hrem : ((I : Int)).tmod (n : Int) = (m : Int) := by rw [Int.tmod_eq_emod_of_nonneg (by omega), hm', ← hI']; rfl
      have hrem2 : ((I : Int)) % (n : Int) = (m : Int) := by rw [hm', ← hI']; rfl
      have hwrap : IntKind.i64.wrap (I : Int) = (I : Int) := by rw [IntKind.wrap_i64]; omega
      have hn0 : ¬ n = 0 := by omega
      have c1 := ci wr hp.kept
      have c1' := ci wr.drew hp.kept.drew
      have hsec : ∀ W, Calls Try.prog 30 #[.int .u8 (B : Int)] W fun e w' => e = .returned (.string (sec B)) ∧ Kept W w' := fun W => sector_c B hB W
      have hwr : ∀ W, Own w0 (dk F D s :: L) W → Calls Try.prog 15 #[.pointer (some ⟨D, 0, none⟩), .int .i64 (m : Int), .string (sec B)] W fun e w' => e = .returned (.int .i64 0) ∧ Own w0 (dk F D (s.wrote m (sec B)) :: L) w' :=
        fun W h => o_w0 h hfull.idle (Nat.lt_of_le_of_lt hfull.len (by omega)) (by rw [hfull.n]; exact hm) (sec_size B)
      have hsy : ∀ W, Own w0 (dk F D (s.wrote m (sec B)) :: L) W → Calls Try.prog 23 #[.pointer (some ⟨D, 0, none⟩)] W fun e w' => e = .returned (.int .i64 0) ∧ Own w0 (dk F D ((s.wrote m (sec B)).settled fun _ => 80) :: L) w' :=
        fun W h => o_s0 h hfull.idle
      obtain ⟨sb, hsb⟩ : ∃ sb, sb = sec B := ⟨_, rfl⟩
      rw [← hsb] at hsec hwr hsy hnext
      have HX := Lib.hid (And.intro ci (And.intro hp hnext))
      have hpd := hp.drew
      clear ci hp hnext hx hs hI' hB' hm' hsb hfull h1 h2
      go_wp2
      go_region_held3 (fun W => W.cell? ⟨b, off + k * 2, none⟩ = some (.int .u8 (I : Int)) ∧ W.cell? ⟨b, off + k * 2 + 1, none⟩ = some (.int .u8 (B : Int)))
        (first | assumption | (refine HX.out.1 _ ?_; exact hpd.kept.trans k3) | (refine HX.out.1 _ ?_; exact k4.kept))
        (first
          | (go_at_call 30; refine (hsec _).mono ?_; rintro e u3 ⟨rfl, k3⟩)
          | (go_at_call 15; refine (hwr _ (hpd.later k3)).mono ?_; rintro e u4 ⟨rfl, k4⟩))
      by_cases hq : k + 1 = smany
      · have hq' : ((k : Int) + 1 == (smany : Int)) = true := by simp; omega
        have Hq := Lib.hid hq
        clear hq
        go_wp2_with (go_at_call 23; refine (hsy _ k4).mono ?_; rintro e u5 ⟨rfl, k5⟩)
        go_roundw
        case rel =>
          refine ⟨k + 1, by omega, by go_num, ?_⟩
          rw [HX.out.2.2, if_pos Hq.out]; exact k5
        case measure => simp [intOf]; omega
      · have hq' : ((k : Int) + 1 == (smany : Int)) = false := by simp; omega
        have Hq := Lib.hid hq
        clear hq
        go_wp2
        go_roundw
        case rel =>
          refine ⟨k + 1, by omega, by go_num, ?_⟩
          rw [HX.out.2.2, if_neg Hq.out]; exact k4
        case measure => simp [intOf]; omega
    · obtain rfl : k = len := by omega
      obtain ⟨s, hs⟩ : ∃ s, s = fillTo n X smany k := ⟨_, rfl⟩
      have hfull := full_to (X := X) (some := smany) hH.out.2.2.2.1 hH.out.2.2.2.2 k
      have h1 := hH.out.2.2.2.1
      have h2 := hH.out.2.2.2.2
      rw [← hs] at hp hfull
      have Hs := Lib.hid (And.intro hs hfull)
      have hst := (hp.newRow 9 1).front
      obtain ⟨i0, hi, hz0, hz1, hz2⟩ := info_parts string_info
      clear hs hlt hk hp
      go_wp2
      go_loopw [11, 12] (fun v i wr => ∃ j : Nat, j ≤ n ∧ i = .int .i64 j ∧ Own w0 (rowA 9 1 v j (lks s j) :: dk F D s :: L) wr) (fun _ i _ => n - (intOf i).toNat)
      case atStart => exact ⟨0, by omega, rfl, hst⟩
      case round =>
        clear hst
        obtain ⟨j, hj, rfl, hp⟩ := hrel
        by_cases hlj : j < n
        · have hrd : Calls Try.prog 19 #[.pointer (some ⟨D, 0, none⟩), .int .i64 (j : Int)] _ fun e w' => e = .returned (.tuple #[.string (s.look j), .int .i64 0]) ∧ Own w0 (rowA 9 1 u11 j (lks s j) :: dk F D s :: L) w' :=
            o_r1 hp Hs.out.2.idle (by rw [Hs.out.2.n]; exact hlj)
          clear hp
          go_wp2_with (first
            | (go_at_call 19; refine hrd.mono ?_; rintro e u6 ⟨rfl, k6⟩; have K6 := Lib.hid k6; clear k6)
            | (at_builtin; refine wpList_append_own_at _ rfl _ _ 59 rfl 0 9 i0 (.string ByteArray.empty) 1 16 Try.underlying59 hi hz0 hz1 hz2 rfl (by decide) _ _ _ rfl ((Own.row K6.out 0 rfl).alloc _) ⟨u6.heap.size, 0, none⟩ 1 1 [.string (s.look j)] rfl rfl (cell_one_new _ _ _) (by intro x hx; simp at hx; subst hx; rfl) (by unfold maxLen; omega) (by omega) (Nat.zero_le _) ?_; intro v' w1 hown1 hgrow hnil hloc))
          go_roundw
          case rel =>
            refine ⟨j + 1, by omega, by go_num, ?_⟩
            rw [lks_succ]
            exact K6.out.appended 0 rfl ((Kept.refl _).alloc _) hown1 hgrow hloc
          case measure => simp [intOf]; omega
        · obtain rfl : j = n := by omega
          have Hp := Lib.hid hp
          clear hp
          go_wp2
          go_ret2
          refine ⟨F, D, u11, rfl, ?_⟩
          rw [← Hs.out.1]; exact Hp.out
end Go.Proofs.Ytoclgneokfbobaa.Dz
