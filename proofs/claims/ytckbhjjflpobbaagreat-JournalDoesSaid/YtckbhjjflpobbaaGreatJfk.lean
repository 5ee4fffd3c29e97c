/-
  An argument that is a slice of sacristan/sacristanlaw08.Act, opened (one of its fields is a slice of strings).
  heavy: whatever it says, where it says no the acts are few and their lists short.
  JournalDoes: the journal while it is open (Up), and when a call was cut (Down), with any fuse and any mark of fullness (plain mathematics).
  JournalDoes: both journals opened on disks that are in the same state.
  JournalDoes: the state between two acts ('Sit'), alive or cut, with any fuse and any mark, and what each act makes of it (plain mathematics).
  JournalDoes: the calls of a round on both journals and both disks (L6), with whatever else lies behind them.
  JournalDoes: its walk.
-/
import Derived.Test.YtckbhjjflpobbaaGreatJq
import Derived.Test.YtckbhjjflpobbaaGreatGw
import Derived.Test.YtckbhjjflpobbaaGreatDh
import Derived.Test.YtckbhjjflpobbaaGreatJeb
import Derived.Test.YtckbhjjflpobbaaGreatJff
import Derived.Test.YtckbhjjflpobbaaGreatJe
import Derived.WalkMore
import Derived.Deep.CutRange
namespace Go.Proofs.YtckbhjjflpobbaaGreat.Jk
set_option maxRecDepth 100000
open Go Go.RowKit Go.ChangeShapes Go.WideShapes Go.ChangeAt Go.Proofs.YtckbhjjflpobbaaGreat.Mem Go.Proofs.YtckbhjjflpobbaaGreat.Dz Go.Proofs.YtckbhjjflpobbaaGreat.Rc

instance : Inhabited Ch := ⟨⟨0, 0, 0⟩⟩
structure Deed where
  d : Nat
  s : ByteArray
  a : Option Addr
  m : Nat
  cap : Nat
  x : Nat → ByteArray
  k : Int
  c : Ch
instance : Inhabited Deed := ⟨⟨0, ByteArray.empty, none, 0, 0, fun _ => ByteArray.empty, 0, ⟨0, 0, 0⟩⟩⟩
structure Deed.ok (x : Deed) (W : World) : Prop where
  d : x.d ≤ 255
  s : x.s.size ≤ maxLen
  c : x.c.ok
  max : x.m ≤ maxLen
  nil : x.a = none → x.m = 0 ∧ x.cap = 0
  row : SAo W x.a x.m x.x
  le : ∀ i, i < x.m → (x.x i).size ≤ maxLen
  k : x.k ≤ 9223372036854775807
/-- The seven cells. -/
def Deed.cells (x : Deed) : List Value := [.int .u8 (x.d : Int), .string x.s, .slice x.a x.m x.cap, .int .i64 x.k, .int .u64 (x.c.keep : Int), .int .i64 x.c.torn, .int .i64 x.c.bytes]
theorem act_fields : fieldsOf Tryz.prog 38 = some [(5, 0), (9, 1), (33, 2), (3, 3), (36, 4)] := by kernel_rfl
theorem act_cells : Tryz.prog.cellsOf 38 = 7 := by kernel_rfl
theorem cells_choice : Tryz.prog.cellsOf 36 = 3 := by kernel_rfl
theorem cells_i64 : Tryz.prog.cellsOf 3 = 1 := by kernel_rfl
theorem cells_u8 : Tryz.prog.cellsOf 5 = 1 := by kernel_rfl
theorem cells_str : Tryz.prog.cellsOf 9 = 1 := by kernel_rfl
theorem cells_strs : Tryz.prog.cellsOf 33 = 1 := by kernel_rfl
theorem act_slice : Tryz.prog.underlying 22 = some (.slice 38) := by kernel_rfl
theorem strs_of {H : Type} {enc : TypeId × Value → H} {W : World} {base : Nat} {spare : Nat → Bool} {held : Bool} {n : Nat} {c0 : Value} {y : DataW H × List MemPlace}
    (h : DataW.trod enc Tryz.prog W base spare held n 33 [c0] = some y) :
    ∃ ao len cap X, c0 = .slice ao len cap ∧ len ≤ maxLen ∧ (ao = none → len = 0 ∧ cap = 0) ∧ SAo W ao len X ∧ ∀ i, i < len → (X i).size ≤ maxLen := by
  rcases Go.Deep.open_slice str_slice h with ⟨hcs, _⟩ | ⟨a, len, cap, m, n, D, Pl, hcs, hb, hl, hm, hmm, hx, hi⟩
  · obtain rfl : c0 = .slice none 0 0 := by simpa using hcs
    exact ⟨none, 0, 0, fun _ => ByteArray.empty, rfl, by decide, fun _ => ⟨rfl, rfl⟩, fun i h => absurd h (by omega), fun i h => absurd h (by omega)⟩
  · obtain rfl : c0 = .slice (some a) len cap := by simpa using hcs
    have hmm2 : len ≤ m := by rw [hmm]; split <;> omega
    have each : ∀ i, i < len → ∃ x : ByteArray, x.size ≤ maxLen ∧ W.cell? ((a.add (i * 1)).add 0) = some (.string x) := by
      intro i hil
      obtain ⟨cs', hc, ht⟩ := hi i (by omega)
      rw [str_cells] at hc
      exact str_one hc ht
    obtain ⟨X, hX⟩ := Go.Deep.choose_lt each
    refine ⟨some a, len, cap, X, rfl, Nat.le_trans hl hm, (fun h => by cases h), fun i hi => ?_, fun i h => (hX i h).1⟩
    have hp := lt_of_cell (hX 0 (by omega)).2
    rw [Nat.zero_mul, add_zero, add_zero] at hp
    have k0 := (hX i hi).2
    obtain ⟨b, off, sp⟩ := a
    obtain ⟨hb2, rfl⟩ := hp
    simp only [add_plain, Nat.mul_one, Nat.add_zero] at k0
    exact ⟨b, off, rfl, k0⟩
theorem act_one {H : Type} {enc : TypeId × Value → H} {W : World} {base : Nat} {spare : Nat → Bool} {held : Bool} {n : Nat} {cs : List Value} {y : DataW H × List MemPlace}
    (hl : cs.length = 7) (h : DataW.trod enc Tryz.prog W base spare held n 38 cs = some y) : ∃ x : Deed, x.ok W ∧ cs = x.cells := by
  obtain ⟨m, _, hq⟩ := trod_fields act_fields h
  match cs, hl with
  | [c0, c1, c2, c3, c4, c5, c6], _ =>
    obtain ⟨y0, h0⟩ := hq 0 _ rfl
    rw [cells_u8] at h0
    obtain ⟨y1, h1⟩ := hq 1 _ rfl
    rw [cells_str] at h1
    obtain ⟨y2, h2⟩ := hq 2 _ rfl
    rw [cells_strs] at h2
    obtain ⟨y3, h3⟩ := hq 3 _ rfl
    rw [cells_i64] at h3
    obtain ⟨y4, h4⟩ := hq 4 _ rfl
    rw [cells_choice] at h4
    obtain ⟨v0, e0, _, w0⟩ := DataW.trod_int Tryz.underlying5 h0
    have b0 := bounds_u8 w0
    obtain ⟨v0, rfl⟩ := Int.eq_ofNat_of_zero_le b0.1
    obtain rfl : c0 = .int .u8 v0 := by simpa using e0
    obtain ⟨v1, e1, _, w1⟩ := DataW.trod_string Tryz.underlying9 h1
    obtain rfl : c1 = .string v1 := by simpa using e1
    obtain ⟨ao, len, cap, X, rfl, g1, g2, g3, g4⟩ := strs_of h2
    obtain ⟨v3, e3, _, w3⟩ := DataW.trod_int Tryz.underlying3 h3
    have b3 := bounds_i64 w3
    obtain rfl : c3 = .int .i64 v3 := by simpa using e3
    obtain ⟨v4, w4, e4⟩ := choice_of h4
    have e4' : c4 = .int .u64 (v4.keep : Int) ∧ c5 = .int .i64 v4.torn ∧ c6 = .int .i64 v4.bytes := by simpa [Ch.cells] using e4
    obtain ⟨rfl, rfl, rfl⟩ := e4'
    exact ⟨⟨v0, v1, ao, len, cap, X, v3, v4⟩, ⟨by show v0 ≤ _; omega, w1, w4, g1, g2, g3, g4, b3.2⟩, rfl⟩
/-- A slice of acts as the call gets it. -/
structure Deeds (W : World) (v : Value) (ao : Option Addr) (len cap : Nat) (X : Nat → Deed) : Prop where
  eq : v = .slice ao len cap
  cell : 0 < len → ∃ b off, ao = some ⟨b, off, none⟩ ∧ b < W.heap.size ∧ ∀ i, i < len → ∀ j u, (X i).cells[j]? = some u → W.cell? ⟨b, off + i * 7 + j, none⟩ = some u
  ok : ∀ i, i < len → (X i).ok W
  max : len ≤ maxLen
theorem open_deeds {H : Type} {enc : TypeId × Value → H} {W : World} {v : Value} {d : DataW H} {p : List MemPlace} {r : Reach} {b0 : Nat} (hv : Value.okWide Tryz.prog W r b0 22 v) (h : DataW.Trod enc Tryz.prog W 0 (fun _ => true) true 22 v d p) :
    ∃ ao len cap X, Deeds W v ao len cap X := by
  obtain ⟨ao, l, c, rfl⟩ := okWide_slice act_slice hv
  obtain ⟨fuel, hf⟩ := h
  rcases Go.Deep.open_slice act_slice hf with ⟨hcs, _⟩ | ⟨a, len, cap, m, n, D, Pl, hcs, hb, hl, hm, hmm, hx, hi⟩
  · simp only [Value.cells, List.cons.injEq, Value.slice.injEq, and_true] at hcs
    obtain ⟨rfl, rfl, rfl⟩ := hcs
    exact ⟨none, 0, 0, fun _ => default, rfl, fun h => absurd h (by omega), fun i h => absurd h (by omega), by decide⟩
  · simp only [Value.cells, List.cons.injEq, Value.slice.injEq, and_true] at hcs
    obtain ⟨rfl, rfl, rfl⟩ := hcs
    have hmc : m = c := by simpa using hmm
    have each : ∀ i, i < l → ∃ x : Deed, x.ok W ∧ ∀ j u, x.cells[j]? = some u → W.cell? ((a.add (i * 7)).add j) = some u := by
      intro i hil
      obtain ⟨cs', hc, ht⟩ := hi i (by omega)
      rw [act_cells] at hc
      obtain ⟨_, hl7, hat⟩ := World.cells?_some hc
      obtain ⟨x, hx, rfl⟩ := act_one hl7 ht
      refine ⟨x, hx, fun j u hj => ?_⟩
      have hlt := (List.getElem?_eq_some_iff.1 hj).1
      have := hat j (by have : x.cells.length = 7 := rfl; omega)
      rw [this, hj]
    obtain ⟨X, hX⟩ := Go.Deep.choose_lt each
    refine ⟨some a, l, c, X, rfl, fun h0 => ?_, fun i h => (hX i h).1, Nat.le_trans hl hm⟩
    have hp := lt_of_cell ((hX 0 h0).2 0 _ rfl)
    rw [Nat.zero_mul, add_zero, add_zero] at hp
    obtain ⟨b, off, sp⟩ := a
    obtain ⟨hb2, rfl⟩ := hp
    refine ⟨b, off, rfl, hb2, fun i h j u hj => ?_⟩
    have k0 := (hX i h).2 j u hj
    simpa only [add_plain] using k0
theorem bytes_slice : Tryz.prog.underlying 130 = some (.slice 5) := by kernel_rfl
/-- A slice of bytes as the call gets it. -/
structure Byts (W : World) (v : Value) (ao : Option Addr) (len cap : Nat) : Prop where
  eq : v = .slice ao len cap
  cell : ∀ i, i < len → ∃ g f y, ao = some ⟨g, f, none⟩ ∧ y ≤ 255 ∧ g < W.heap.size ∧ W.cell? ⟨g, f + i, none⟩ = some (.int .u8 ((y : Nat) : Int))
  max : len ≤ maxLen
  le : len ≤ cap
theorem open_bytes {H : Type} {enc : TypeId × Value → H} {W : World} {v : Value} {d : DataW H} {p : List MemPlace} {r : Reach} {b0 : Nat} (hv : Value.okWide Tryz.prog W r b0 130 v) (h : DataW.Trod enc Tryz.prog W 0 (fun _ => true) true 130 v d p) :
    ∃ ao len cap, Byts W v ao len cap := by
  obtain ⟨ao, l, c, rfl⟩ := okWide_slice bytes_slice hv
  obtain ⟨fuel, hf⟩ := h
  rcases Go.Deep.open_slice bytes_slice hf with ⟨hcs, _⟩ | ⟨a, len, cap, m, n, D, Pl, hcs, hb, hl, hm, hmm, hx, hi⟩
  · simp only [Value.cells, List.cons.injEq, Value.slice.injEq, and_true] at hcs
    obtain ⟨rfl, rfl, rfl⟩ := hcs
    exact ⟨none, 0, 0, rfl, fun i h => absurd h (by omega), by decide, by decide⟩
  · simp only [Value.cells, List.cons.injEq, Value.slice.injEq, and_true] at hcs
    obtain ⟨rfl, rfl, rfl⟩ := hcs
    have hmc : m = c := by simpa using hmm
    have each : ∀ i, i < l → ∃ y : Nat, y ≤ 255 ∧ W.cell? ((a.add (i * 1)).add 0) = some (.int .u8 (y : Int)) := by
      intro i hil
      obtain ⟨cs', hc, ht⟩ := hi i (by omega)
      rw [cells_u8] at hc
      obtain ⟨_, hl1, hat⟩ := World.cells?_some hc
      match cs', hl1 with
      | [c0], _ =>
        obtain ⟨v0, e0, _, w0⟩ := DataW.trod_int Tryz.underlying5 ht
        have b0 := bounds_u8 w0
        obtain ⟨v0, rfl⟩ := Int.eq_ofNat_of_zero_le b0.1
        obtain rfl : c0 = .int .u8 v0 := by simpa using e0
        exact ⟨v0, by omega, hat 0 (by decide)⟩
    refine ⟨some a, l, c, rfl, fun i h => ?_, Nat.le_trans hl hm, hl⟩
    obtain ⟨y0, _, k00⟩ := each 0 (by omega)
    have hp := lt_of_cell k00
    rw [Nat.zero_mul, add_zero, add_zero] at hp
    obtain ⟨b, off, sp⟩ := a
    obtain ⟨hb2, rfl⟩ := hp
    obtain ⟨y, hy, k0⟩ := each i h
    simp only [add_plain, Nat.mul_one, Nat.add_zero] at k0
    exact ⟨b, off, y, rfl, hy, hb2, k0⟩
end Go.Proofs.YtckbhjjflpobbaaGreat.Jk

namespace Go.Proofs.YtckbhjjflpobbaaGreat.Jk
open Go Go.RowKit Go.ChangeShapes Go.WideShapes Go.ChangeAt Go.Proofs.YtckbhjjflpobbaaGreat.Mem Go.Proofs.YtckbhjjflpobbaaGreat.Pk Go.Proofs.YtckbhjjflpobbaaGreat.Fk Go.Proofs.YtckbhjjflpobbaaGreat.Dz Go.Proofs.YtckbhjjflpobbaaGreat.Fz Go.Proofs.YtckbhjjflpobbaaGreat.Rc

set_option maxRecDepth 100000 in
set_option maxHeartbeats 4000000 in
theorem heavy_c {w : World} {v : Value} {ao : Option Addr} {len cap : Nat} {X : Nat → Deed} (h : Deeds w v ao len cap X) :
    Calls Tryz.prog 4 #[.slice ao len cap] w fun e w' => ∃ q : Bool, e = .returned (.bool q) ∧ w' = w ∧ (q = false → len ≤ 60 ∧ ∀ i, i < len → (X i).m ≤ 40) := by
  have H := Lib.hid h
  clear h
  go_enter Tryz.func4, Tryz.ntmps4
  go_wp2
  go_loopw [2, 3, 4, 5] (fun _ n i _ wr => ∃ (z : Nat) (N : Int), z ≤ len ∧ z ≤ 100 ∧ n = .int .i64 N ∧ i = .int .i64 (z : Int) ∧ wr = w ∧ RowKit.Hid (∀ j, j < z → (X j).m ≤ 40)) (fun _ _ i _ _ => 100 - (intOf i).toNat)
  case atStart => exact ⟨0, 0, by omega, by omega, rfl, rfl, rfl, Lib.hid fun j hj => absurd hj (by omega)⟩
  case round =>
    obtain ⟨z, N, hz1, hz2, rfl, rfl, rfl, hs⟩ := hrel
    by_cases hlt : z < len ∧ z < 100
    · obtain ⟨hl1, hl2⟩ := hlt
      obtain ⟨b, off, rfl, hb, hc⟩ := H.out.cell (by omega)
      have y1 := hc z hl1 1 _ rfl
      have y2 := hc z hl1 2 _ rfl
      have ho := H.out.ok z hl1
      obtain ⟨x, hx⟩ : ∃ x, x = X z := ⟨_, rfl⟩
      rw [← hx] at y1 y2 ho
      have Hx := Lib.hid hx
      have hrow := Lib.hid ho.row
      have hmx := ho.max
      obtain ⟨dd, ss, aa, mm, cc, xx, kk, ch⟩ := x
      dsimp only at y1 y2 hrow hmx
      clear hx hc ho
      go_wp2
      go_loopw [3, 5] (fun n i wr2 => ∃ (y : Nat) (N2 : Int), y ≤ mm ∧ y ≤ 100 ∧ n = .int .i64 N2 ∧ i = .int .i64 (y : Int) ∧ wr2 = wr) (fun _ i _ => 100 - (intOf i).toNat)
      case atStart => exact ⟨0, _, by omega, by omega, rfl, rfl, rfl⟩
      case round =>
        obtain ⟨y, N2, hy1, hy2, rfl, rfl, rfl⟩ := hrel
        by_cases hlt : y < mm ∧ y < 100
        · obtain ⟨hm1, hm2⟩ := hlt
          obtain ⟨g, f, rfl, c0⟩ := hrow.out y hm1
          go_wp2
          go_roundw
          case rel => exact ⟨y + 1, _, by omega, by omega, rfl, by go_num, by first | rfl | trivial⟩
          case measure => simp [intOf]; omega
        · rcases (by omega : ¬ y < mm ∨ (y < mm ∧ ¬ y < 100)) with e1 | ⟨e1, e2⟩
          case inr =>
            have h40 : 40 < mm := by omega
            go_wp2
            go_ret
            exact ⟨true, rfl, rfl, fun h => by cases h⟩
          case inl =>
            by_cases h40 : 40 < mm
            · go_wp2
              go_ret
              exact ⟨true, rfl, rfl, fun h => by cases h⟩
            · go_wp2
              go_roundw
              case rel => exact ⟨z + 1, _, by omega, by omega, rfl, by go_num, (by first | rfl | trivial), Lib.hid fun j hj => by
                by_cases e : j = z
                · subst e; rw [← Hx.out]; show mm ≤ 40; omega
                · exact hs.out j (by omega)⟩
              case measure => simp [intOf]; omega
    · rcases (by omega : ¬ z < len ∨ (z < len ∧ ¬ z < 100)) with e1 | ⟨e1, e2⟩
      case inr =>
        have h60 : 60 < len := by omega
        go_wp2
        go_ret
        (first | (dsimp only; exact ⟨true, rfl, rfl, fun h => by cases h⟩) | (simp; done) | trace_state)
      case inl =>
        by_cases h60 : 60 < len
        · go_wp2
          go_ret
          (first | (dsimp only; exact ⟨true, rfl, rfl, fun h => by cases h⟩) | (simp; done) | trace_state)
        · go_wp2
          all_goals go_ret
          all_goals exact ⟨_, rfl, rfl, fun _ => ⟨by omega, fun i hi => hs.out i (by omega)⟩⟩
end Go.Proofs.YtckbhjjflpobbaaGreat.Jk

namespace Go.Proofs.YtckbhjjflpobbaaGreat.Jk
open Go Go.Proofs.YtckbhjjflpobbaaGreat.Pk Go.Proofs.YtckbhjjflpobbaaGreat.Fk Go.Proofs.YtckbhjjflpobbaaGreat.Dz Go.Proofs.YtckbhjjflpobbaaGreat.Rc Go.Proofs.YtckbhjjflpobbaaGreat.Fz
open Go.Proofs.YtckbhjjflpobbaaGreat.Hk (Hd Two Non Put saves saved saves_idle saved_put put_disk enc_size slot_nat look_dur)

def still (s : Ds) : Ds := { s with fu := .idle, full := false }
structure Up (area : Nat) (s : Ds) (c : Hd) (R : List Fr) : Prop where
  live : Live area (still s) c R
  fu : s.fu = .idle ∨ ∃ k, s.fu = .armed k
structure Down (area : Nat) (s : Ds) (c : Hd) (R : List Fr) (c' : Hd) (R' : List Fr) : Prop where
  n : s.n = 2 + 2 * area
  room : s.pend.length < 65536
  lain : ∀ f : Nat → Nat, (∀ i, f i ≤ 80) → Lain area (crashed (sf s false) f) c R ∨ Lain area (crashed (sf s false) f) c' R'
theorem still_of {s : Ds} (hf : s.fu = .idle) (h : s.full = false) : still s = s := by cases s; simp only at hf h; subst hf h; rfl
theorem still_armed {s : Ds} {k : Nat} (hf : s.fu = .armed k) (h : s.full = false) : s = armed (still s) k := by cases s; simp only at hf h; subst hf h; rfl
theorem still_arm {s : Ds} (c : s.fu = .idle) (h : s.full = false) (k : Nat) : still (armed s k) = s := by cases s; simp only at c h; subst c h; rfl
theorem still_sf (s : Ds) (f : Bool) : still (sf s f) = still s := rfl
theorem sf_back (s : Ds) : sf (sf s false) s.full = s := rfl
theorem Live.up {area : Nat} {s : Ds} {c : Hd} {R : List Fr} (l : Live area s c R) : Up area s c R := ⟨by rw [still_of l.calm.fu l.calm.full]; exact l, .inl l.calm.fu⟩
theorem Live.up_armed {area : Nat} {s : Ds} {c : Hd} {R : List Fr} (l : Live area s c R) (k : Nat) : Up area (armed s k) c R := ⟨by rw [still_arm l.calm.fu l.calm.full]; exact l, .inr ⟨k, rfl⟩⟩
theorem Up.mark {area : Nat} {s : Ds} {c : Hd} {R : List Fr} (u : Up area s c R) (f : Bool) : Up area (sf s f) c R := ⟨u.live, u.fu⟩
theorem Up.rearm {area : Nat} {s : Ds} {c : Hd} {R : List Fr} (u : Up area s c R) (k : Nat) : Up area (armed s k) c R := ⟨u.live, .inr ⟨k, rfl⟩⟩
theorem Down.mark {area : Nat} {s : Ds} {c c' : Hd} {R R' : List Fr} (u : Down area s c R c' R') (f : Bool) : Down area (sf s f) c R c' R' := ⟨u.n, u.room, u.lain⟩
theorem Down.refuse {area : Nat} {s : Ds} {c c' : Hd} {R R' : List Fr} (u : Down area s c R c' R') (f : St) : Down area { s with fu := f } c R c' R' := ⟨u.n, u.room, u.lain⟩
/-- A crash while it is open. -/
theorem Up.crash {area : Nat} {s : Ds} {c : Hd} {R : List Fr} (u : Up area s c R) {f : Nat → Nat} (hf : ∀ i, f i ≤ 80) : Lain area (crashed (sf s false) f) c R := by
  refine ⟨u.live.calm.crashed (t := still s) rfl u.live.calm.ok rfl hf, ?_⟩
  have e : (crashed (sf s false) f).dur = (still s).dur := settled_none (s := still s) u.live.calm.pend f
  rw [e]
  exact u.live.jo.jv
theorem compacts_sf3 (j : Jw) (s : Ds) (f : Bool) (x : Nat → ByteArray) (m : Nat) : compacts j (sf s f) x m = ((compacts j s x m).1, (compacts j s x m).2.1, sf (compacts j s x m).2.2 f) := by
  unfold compacts
  by_cases h1 : j.dead = true
  · rw [if_pos h1, if_pos h1]
  rw [if_neg h1, if_neg h1]
  by_cases h2 : fits x m
  case neg => rw [if_pos h2, if_pos h2]
  have h2' : ¬ ¬ fits x m := fun h => h h2
  rw [if_neg h2', if_neg h2']
  by_cases h3 : j.area < pre x m
  · rw [if_pos h3, if_pos h3]
  rw [if_neg h3, if_neg h3, poured_sf]
  by_cases h4 : (poured s (j.base (1 - j.h.area)) (flat j.h.boot (j.n + 1) 1 x m) (pre x m)).1 ≠ 0
  · rw [if_pos h4, if_pos h4]
  rw [if_neg h4, if_neg h4, saves_sf]
  by_cases h5 : (saves (poured s (j.base (1 - j.h.area)) (flat j.h.boot (j.n + 1) 1 x m) (pre x m)).2 (j.next m)).1 ≠ 0
  · rw [if_pos h5, if_pos h5]
  · rw [if_neg h5, if_neg h5]
theorem Up.append {area : Nat} {s : Ds} {c : Hd} {R : List Fr} {b q l : Int} (u : Up area s c R) (k : Bnd b q l c R) (hb : b < 255) (hq : q < 281474976700000) (hl : l < 281474976700000) (d : ByteArray) :
    (∃ E, (E = 5 ∨ E = 9) ∧ appends (jw area c R) s d = (E, jw area c R, s)) ∨
    (∃ s' R', appends (jw area c R) s d = (0, jw area c R', s') ∧ Up area s' c R' ∧ Bnd b (q + 1) (l + 41) c R') ∨
    (∃ s' R', appends (jw area c R) s d = (10, (jw area c R).told 10, s') ∧ Down area s' c R c R' ∧ Bnd b (q + 1) (l + 41) c R') := by
  by_cases hbig : 4096 < d.size
  · refine .inl ⟨5, .inl rfl, ?_⟩
    unfold appends
    rw [if_neg (by show ¬ (false = true); decide), if_pos hbig]
  by_cases hroom : s.full = true ∨ area < total R + parts d.size
  · refine .inl ⟨9, .inr rfl, ?_⟩
    unfold appends
    rw [if_neg (by show ¬ (false = true); decide), if_neg hbig, if_pos (show s.full = true ∨ (jw area c R).area < (jw area c R).used + parts d.size from hroom)]
  have hff : s.full = false := by
    cases hh : s.full
    · rfl
    · exact absurd (.inl hh) hroom
  have hr : ¬ area < total R + parts d.size := fun h => hroom (.inr h)
  obtain ⟨s1, l1, hi, hw, hc⟩ := u.live.append (k.small hb hq hl (m := 1) (by decide)) (d := d) (by omega) (by omega)
  have elsn : lsnOf c (R ++ [recd c.boot (lsnOf c R + 1) 2 d]) = lsnOf c R + 1 := by unfold lsnOf; rw [List.length_append, List.length_singleton]; omega
  have kb : Bnd b (q + 1) (l + 41) c (R ++ [recd c.boot (lsnOf c R + 1) 2 d]) := ⟨k.boot, by have := k.seq; omega, by rw [elsn]; have := k.lsn; omega⟩
  rcases u.fu with hf | ⟨K, hf⟩
  · rw [still_of hf hff] at hi
    exact .inr (.inl ⟨_, _, hi, l1.up, kb⟩)
  · have e := still_armed hf hff
    by_cases hK : parts d.size < K
    · have h1 := hw K hK
      rw [← e] at h1
      exact .inr (.inl ⟨_, _, h1, l1.up_armed _, kb⟩)
    · obtain ⟨s2, h1, h2, h3, h4, h5, h6⟩ := hc K (by omega)
      rw [← e] at h1
      have hp94 : parts d.size ≤ 94 := parts_le (by omega)
      refine .inr (.inr ⟨_, _, h1, ⟨h4.trans u.live.calm.n, by omega, fun f hf80 => ?_⟩, kb⟩)
      have h7 := h6 f hf80
      have hfull : s2.full = false := by
        rcases h7 with h | h
        · exact h.calm.full
        · exact h.calm.full
      have e2 : sf s2 false = s2 := by cases s2; simp only at hfull; subst hfull; rfl
      rw [e2]
      exact h7
theorem Up.compact {area : Nat} {s : Ds} {c : Hd} {R : List Fr} {b q l : Int} (u : Up area s c R) (k : Bnd b q l c R) (hb : b < 255) (hq : q < 281474976700000) (hl : l < 281474976700000) (x : Nat → ByteArray) (m : Nat) (hm : m ≤ 40) :
    (∃ E, (E = 5 ∨ E = 9) ∧ compacts (jw area c R) s x m = (E, jw area c R, s)) ∨
    (∃ s' c' R', compacts (jw area c R) s x m = (0, jw area c' R', s') ∧ Up area s' c' R' ∧ c'.boot = c.boot ∧ Bnd b (q + 1) (l + 41) c' R') ∨
    (∃ j' s' c' R', compacts (jw area c R) s x m = (10, j', s') ∧ j'.dead = true ∧ Down area s' c R c' R' ∧ c'.boot = c.boot ∧ Bnd b (q + 1) (l + 41) c' R') := by
  by_cases hfit : fits x m
  case neg =>
    refine .inl ⟨5, .inl rfl, ?_⟩
    unfold compacts
    rw [if_neg (by show ¬ (false = true); decide), if_pos hfit]
  by_cases hroom : area < pre x m
  · refine .inl ⟨9, .inr rfl, ?_⟩
    unfold compacts
    rw [if_neg (by show ¬ (false = true); decide), if_neg (not_not_intro hfit), if_pos (show (jw area c R).area < pre x m from hroom)]
  obtain ⟨s1, l1, hi, hw, hc, _⟩ := u.live.compact (k.small hb hq hl (m := m) (by omega)) (by omega) hfit (by omega)
  have hlen : (recsOf c.boot (lsnOf c R + 1) (dl x m)).length = m := by rw [recsOf_len, dl_len]
  have kb : Bnd b (q + 1) (l + 41) ((jw area c R).next m) (recsOf c.boot (lsnOf c R + 1) (dl x m)) := ⟨k.boot, by have := k.seq; show c.seq + 1 ≤ _; omega, by
    have := k.lsn
    show (lsnOf c R + 1) - 1 + ((recsOf c.boot (lsnOf c R + 1) (dl x m)).length : Int) ≤ _
    rw [hlen]
    omega⟩
  have es : s = sf (sf s false) s.full := rfl
  have hu : (sf s false).fu = s.fu := rfl
  rcases u.fu with hf | ⟨K, hf⟩
  · have e1 : still s = sf s false := by cases s; simp only at hf; subst hf; rfl
    rw [e1] at hi
    have h1 := compacts_sf3 (jw area c R) (sf s false) s.full x m
    rw [hi] at h1
    exact .inr (.inl ⟨_, _, _, h1, l1.up.mark _, rfl, kb⟩)
  · have e1 : sf s false = armed (still s) K := by cases s; simp only at hf; subst hf; rfl
    have h1 := compacts_sf3 (jw area c R) (sf s false) s.full x m
    rw [e1] at h1
    have e2 : sf (armed (still s) K) s.full = s := by rw [← e1]; rfl
    rw [e2] at h1
    by_cases hK : pre x m + 3 ≤ K
    · rw [hw K hK] at h1
      exact .inr (.inl ⟨_, _, _, h1, (l1.up_armed _).mark _, rfl, kb⟩)
    · obtain ⟨j3, s3, g1, g2, g3, g4, g5, g6⟩ := hc K (by omega)
      rw [g1] at h1
      have hp94 := pre_le hfit
      have hdead : j3.dead = true := by
        have hh : ∀ (j : Jw) (s : Ds) E j' s', compacts j s x m = (E, j', s') → j.dead = false → E = 10 → j'.dead = true := fun j s E j' s' e hd hE => by
          subst hE
          unfold compacts at e
          rw [if_neg (by rw [hd]; decide), if_neg (not_not_intro hfit)] at e
          by_cases a1 : j.area < pre x m
          · rw [if_pos a1] at e
            exact absurd (congrArg Prod.fst e) (show ¬ (9 : Int) = 10 by decide)
          rw [if_neg a1] at e
          by_cases a2 : (poured s (j.base (1 - j.h.area)) (flat j.h.boot (j.n + 1) 1 x m) (pre x m)).1 ≠ 0
          · rw [if_pos a2] at e
            have e1 := congrArg Prod.fst e
            have e3 := congrArg (fun z => z.2.1.dead) e
            have e1 : (poured s (j.base (1 - j.h.area)) (flat j.h.boot (j.n + 1) 1 x m) (pre x m)).1 = 10 := e1
            have e3 : ((poured s (j.base (1 - j.h.area)) (flat j.h.boot (j.n + 1) 1 x m) (pre x m)).1 == 10) = j'.dead := e3
            rw [← e3, e1]; rfl
          rw [if_neg a2] at e
          by_cases a3 : (saves (poured s (j.base (1 - j.h.area)) (flat j.h.boot (j.n + 1) 1 x m) (pre x m)).2 (j.next m)).1 ≠ 0
          · rw [if_pos a3] at e
            have e1 : (saves (poured s (j.base (1 - j.h.area)) (flat j.h.boot (j.n + 1) 1 x m) (pre x m)).2 (j.next m)).1 = 10 := congrArg Prod.fst e
            have e3 : ((saves (poured s (j.base (1 - j.h.area)) (flat j.h.boot (j.n + 1) 1 x m) (pre x m)).2 (j.next m)).1 == 10) = j'.dead := congrArg (fun z => z.2.1.dead) e
            rw [← e3, e1]; rfl
          rw [if_neg a3] at e
          exact absurd (congrArg Prod.fst e) (show ¬ (0 : Int) = 10 by decide)
        exact hh _ _ _ _ _ g1 rfl rfl
      refine .inr (.inr ⟨_, _, (jw area c R).next m, recsOf c.boot (lsnOf c R + 1) (dl x m), h1, hdead, Down.mark ⟨g4.trans u.live.calm.n, by omega, fun f hf80 => ?_⟩ _, rfl, kb⟩)
      have h7 := g6 f hf80
      have hfull : s3.full = false := by
        rcases h7 with h | h
        · exact h.calm.full
        · exact h.calm.full
      have e3 : sf s3 false = s3 := by cases s3; simp only at hfull; subst hfull; rfl
      rw [e3]
      exact h7
/-- The opening behind a crash, whatever the mark. -/
theorem Lain.open2 {area : Nat} {s : Ds} {c : Hd} {R : List Fr} (l : Lain area (sf s false) c R) (ha : 1 ≤ area ∧ area ≤ 32000) (k : c.boot < 4294967295 ∧ c.seq < 281474976710000) : ∃ s1, Opens s area c R c.snaps.toNat s1 ∧ Up area s1 (nextHd c) R := by
  obtain ⟨s1, o, l1⟩ := l.open1 ha k
  have hs : saves s (nextHd c) = (0, sf s1 s.full) := by
    have h1 := saves_sf (sf s false) s.full (nextHd c)
    rw [o.save] at h1
    exact h1
  exact ⟨sf s1 s.full, ⟨⟨o.ok.lo, o.ok.hi, o.ok.fu, o.ok.dur, o.ok.pend⟩, ha, o.n, o.room, (newest_same (s := s) (t := sf s false) rfl rfl rfl).trans o.new, o.hok, o.found, o.most, hs⟩, l1.up.mark _⟩
end Go.Proofs.YtckbhjjflpobbaaGreat.Jk

namespace Go.Proofs.YtckbhjjflpobbaaGreat.Jk
open Go Go.RowKit Go.ChangeShapes Go.WideShapes Go.ChangeAt Go.Proofs.YtckbhjjflpobbaaGreat.Mem Go.Proofs.YtckbhjjflpobbaaGreat.Pk Go.Proofs.YtckbhjjflpobbaaGreat.Fk Go.Proofs.YtckbhjjflpobbaaGreat.Dz Go.Proofs.YtckbhjjflpobbaaGreat.Fz Go.Proofs.YtckbhjjflpobbaaGreat.Rc
open Go.Proofs.YtckbhjjflpobbaaGreat.Hk (Hd saves loads o_save o_load hblock)

/-- Some of the things, in another order. -/
theorem own_pick {w0 w : World} {L M : List As} (h : Mem.Own w0 L w) (g : List Nat) (hn : g.Nodup) (e : g.map (fun k => L[k]?) = M.map some) : Mem.Own w0 M w := by
  have hl : g.length = M.length := by have := congrArg List.length e; simpa using this
  refine h.pick (fun i => g.getD i 0) (fun i j hi hj he => ?_) (fun i a hi => ?_)
  · have h1 : g.getD i 0 = g[i]'(by omega) := by rw [List.getD_eq_getElem?_getD, List.getElem?_eq_getElem (by omega)]; rfl
    have h2 : g.getD j 0 = g[j]'(by omega) := by rw [List.getD_eq_getElem?_getD, List.getElem?_eq_getElem (by omega)]; rfl
    have he : g.getD i 0 = g.getD j 0 := he
    rw [h1, h2] at he
    have hp := List.pairwise_iff_getElem.1 hn
    rcases Nat.lt_trichotomy i j with hlt | e | hlt
    · exact absurd he (hp i j (by omega) (by omega) hlt)
    · exact e
    · exact absurd he.symm (hp j i (by omega) (by omega) hlt)
  · have hi2 : i < g.length := by rw [hl]; exact (List.getElem?_eq_some_iff.1 hi).1
    have h1 : g.getD i 0 = g[i]'hi2 := by rw [List.getD_eq_getElem?_getD, List.getElem?_eq_getElem hi2]; rfl
    have h2 : (g.map (fun k => L[k]?))[i]? = some (some a) := by rw [e, List.getElem?_map, hi]; rfl
    rw [List.getElem?_map, List.getElem?_eq_getElem hi2] at h2
    show L[g.getD i 0]? = some a
    rw [h1]
    simpa using h2
def boxx (x F D G R : Nat) : As := boxA x #[.pointer (some ⟨F, 0, none⟩), .pointer (some ⟨D, 0, none⟩), .pointer (some ⟨G, 0, none⟩), .pointer (some ⟨R, 0, none⟩)] 51
theorem xcells {w0 w : World} {L : List As} (h : Mem.Own w0 L w) (i : Nat) {x F D G R : Nat} (hi : L[i]? = some (boxx x F D G R)) : w.cell? ⟨x, 0, none⟩ = some (.pointer (some ⟨F, 0, none⟩)) ∧ w.cell? ⟨x, 1, none⟩ = some (.pointer (some ⟨D, 0, none⟩)) ∧ w.cell? ⟨x, 2, none⟩ = some (.pointer (some ⟨G, 0, none⟩)) ∧ w.cell? ⟨x, 3, none⟩ = some (.pointer (some ⟨R, 0, none⟩)) := by
  have hb := h.boxed i hi
  exact ⟨cell_of_row _ _ _ _ _ _ hb, cell_of_row _ _ _ _ _ _ hb, cell_of_row _ _ _ _ _ _ hb, cell_of_row _ _ _ _ _ _ hb⟩
set_option maxRecDepth 100000 in
set_option maxHeartbeats 8000000 in
theorem o_bopen {w0 w : World} {X x F D G R area : Nat} {vJ vR : Value} {s s1 : Ds} {c : Hd} {Rl : List Fr} {m : Nat} (h : Mem.Own w0 [boA X x vJ vR, boxx x F D G R, rk G R s, dk F D s] w) (q : Opens s area c Rl m s1) :
    Calls Tryz.prog 7 #[.pointer (some ⟨X, 0, none⟩), .int .i64 (area : Int)] w fun e w' => ∃ J B, e = .returned (.bool true) ∧
      Mem.Own w0 [boA X x (.pointer (some ⟨J, 0, none⟩)) (.pointer (some ⟨B, 0, none⟩)), jA J D (jw area (nextHd c) Rl), rjA B R (jw area (nextHd c) Rl), boxx x F D G R, rk G R s1, dk F D s1] w' := by
  have hop : ∀ W, Mem.Own w0 [boA X x vJ vR, boxx x F D G R, rk G R s, dk F D s] W → Calls Tryz.prog 24 #[.pointer (some ⟨D, 0, none⟩), .int .i64 (area : Int)] W fun e w' =>
      ∃ J aS dS aR dR, e = .returned (.tuple #[.pointer (some ⟨J, 0, none⟩), .slice aS m dS, .slice aR (Rl.length - m) dR, .int .i64 0]) ∧ Mem.Own w0 [boA X x vJ vR, boxx x F D G R, rk G R s, jA J D (jw area (nextHd c) Rl), dk F D s1, secA (.slice aR (Rl.length - m) dR) (Rl.length - m) (fun i => xsF Rl (m + i)), secA (.slice aS m dS) m (xsF Rl)] w' := fun W hW => by
    refine (o_open1 (own_pick (M := [dk F D s, boA X x vJ vR, boxx x F D G R, rk G R s]) hW [3, 0, 1, 2] (by decide) rfl) q).mono ?_
    rintro e w' ⟨J, aS, dS, aR, dR, rfl, hw⟩
    exact ⟨J, aS, dS, aR, dR, rfl, own_pick hw [4, 5, 6, 0, 1, 2, 3] (by decide) rfl⟩
  have hrop : ∀ J aS dS aR dR W, Mem.Own w0 [boA X x vJ vR, boxx x F D G R, rk G R s, jA J D (jw area (nextHd c) Rl), dk F D s1, secA (.slice aR (Rl.length - m) dR) (Rl.length - m) (fun i => xsF Rl (m + i)), secA (.slice aS m dS) m (xsF Rl)] W → Calls Tryz.prog 26 #[.pointer (some ⟨R, 0, none⟩), .int .i64 (area : Int)] W fun e w' =>
      ∃ B ao cp, e = .returned (.tuple #[.pointer (some ⟨B, 0, none⟩), .slice (subA ao cp 0) m cp, .slice (subA ao cp m) (Rl.length - m) (cp - m), .int .i64 0]) ∧ Mem.Own w0 [boA X x vJ vR, jA J D (jw area (nextHd c) Rl), rjA B R (jw area (nextHd c) Rl), boxx x F D G R, rk G R s1, dk F D s1, secA (.slice ao Rl.length cp) Rl.length (xsF Rl), secA (.slice aR (Rl.length - m) dR) (Rl.length - m) (fun i => xsF Rl (m + i)), secA (.slice aS m dS) m (xsF Rl)] w' := fun J aS dS aR dR W hW => by
    refine (o_ropen (own_pick (M := [rk G R s, boA X x vJ vR, boxx x F D G R, jA J D (jw area (nextHd c) Rl), dk F D s1, secA (.slice aR (Rl.length - m) dR) (Rl.length - m) (fun i => xsF Rl (m + i)), secA (.slice aS m dS) m (xsF Rl)]) hW [2, 0, 1, 3, 4, 5, 6] (by decide) rfl) q.ok area q.ar q.n q.room c m q.new q.hok Rl q.found q.most).mono ?_
    rw [q.save]
    rintro e w' ⟨hw0, _⟩
    obtain ⟨B, ao, cp, he, hw1⟩ := hw0 rfl
    exact ⟨B, ao, cp, he, own_pick hw1 [3, 5, 0, 4, 1, 6, 2, 7, 8] (by decide) rfl⟩
  have hlen := q.len
  have har := q.ar
  have hmo := q.most
  have heqs : ∀ J B aS dS aR dR ao cp vJ vR W, Mem.Own w0 [boA X x vJ vR, jA J D (jw area (nextHd c) Rl), rjA B R (jw area (nextHd c) Rl), boxx x F D G R, rk G R s1, dk F D s1, secA (.slice ao Rl.length cp) Rl.length (xsF Rl), secA (.slice aR (Rl.length - m) dR) (Rl.length - m) (fun i => xsF Rl (m + i)), secA (.slice aS m dS) m (xsF Rl)] W →
      (Calls Tryz.prog 13 #[.slice aS m dS, .slice (subA ao cp 0) m cp] W fun e w' => e = .returned (.bool true) ∧ Kept W w') ∧
      (Calls Tryz.prog 13 #[.slice aR (Rl.length - m) dR, .slice (subA ao cp m) (Rl.length - m) (cp - m)] W fun e w' => e = .returned (.bool true) ∧ Kept W w') := fun J B aS dS aR dR ao cp vJ vR W hW => by
    have s1 := wide (own_strs hW 8 rfl)
    have s2 := wide (own_strs hW 7 rfl)
    obtain ⟨_, hsub⟩ := sub_read hW 6 rfl
    have s3 := hsub 0 m (by omega)
    have s4 := hsub m (Rl.length - m) (by omega)
    constructor
    · have h1 := equalsb_c aS (subA ao cp 0) m m dS cp (xsF Rl) (fun i => xsF Rl (0 + i)) (by omega) (by omega) W s1 s3
      rw [eqS_iff.2 ⟨rfl, fun i _ => by rw [Nat.zero_add]⟩] at h1
      exact h1
    · have h1 := equalsb_c aR (subA ao cp m) (Rl.length - m) (Rl.length - m) dR (cp - m) (fun i => xsF Rl (m + i)) (fun i => xsF Rl (m + i)) (by omega) (by omega) W s2 s4
      rw [eqS_iff.2 ⟨rfl, fun i _ => rfl⟩] at h1
      exact h1
  have hb1 := (bocells h 0 rfl).1.1
  have hx1 := xcells h 1 rfl
  obtain ⟨_, c1, _, _⟩ := hx1
  have H := Lib.hid (And.intro h (And.intro hop (And.intro hrop heqs)))
  clear h hop hrop heqs q
  go_enter Tryz.func7, Tryz.ntmps7
  go_wp2_with (first
    | (go_at_call 24; (with_reducible refine (H.out.2.1 _ H.out.1).mono ?_); rintro e u1 ⟨J, aS, dS, aR, dR, rfl, k1'⟩; have hb2 := (bocells k1' 0 rfl).1.1; have c2 := (xcells k1' 1 rfl).2.2.2; have k1 := Lib.hid k1'; clear k1')
    | (go_at_call 26; (with_reducible refine (H.out.2.2.1 _ _ _ _ _ _ k1.out).mono ?_); rintro e u2 ⟨B, ao, cp, rfl, k2'⟩; obtain ⟨⟨_, b1, b2⟩, fz⟩ := bocells k2' 0 rfl; have fz1 := fz 1; have fz2 := fz 2; clear fz; have k2 := Lib.hid (show Mem.Own w0 [boA X x (.pointer (some ⟨J, 0, none⟩)) (.pointer (some ⟨B, 0, none⟩)), jA J D (jw area (nextHd c) Rl), rjA B R (jw area (nextHd c) Rl), boxx x F D G R, rk G R s1, dk F D s1, secA (.slice ao Rl.length cp) Rl.length (xsF Rl), secA (.slice aR (Rl.length - m) dR) (Rl.length - m) (fun i => xsF Rl (m + i)), secA (.slice aS m dS) m (xsF Rl)] _ from (k2'.boxset 0 rfl 1 (.pointer (some ⟨J, 0, none⟩))).boxset 0 rfl 2 (.pointer (some ⟨B, 0, none⟩))); clear k2')
    | (go_at_call 13; first
      | ((with_reducible refine (H.out.2.2.2 _ _ _ _ _ _ _ _ _ _ _ k2.out).1.mono ?_); rintro e u3 ⟨rfl, k3'⟩; have k3 := Lib.hid (k2.out.later k3'); clear k3')
      | ((with_reducible refine (H.out.2.2.2 _ _ _ _ _ _ _ _ _ _ _ k3.out).2.mono ?_); rintro e u4 ⟨rfl, k4'⟩; have k4 := Lib.hid (k3.out.later k4'); clear k4')))
  go_ret
  exact ⟨J, B, rfl, own_pick k4.out [0, 1, 2, 3, 4, 5] (by decide) rfl⟩
end Go.Proofs.YtckbhjjflpobbaaGreat.Jk

namespace Go.Proofs.YtckbhjjflpobbaaGreat.Jk
open Go Go.Proofs.YtckbhjjflpobbaaGreat.Pk Go.Proofs.YtckbhjjflpobbaaGreat.Fk Go.Proofs.YtckbhjjflpobbaaGreat.Dz Go.Proofs.YtckbhjjflpobbaaGreat.Rc Go.Proofs.YtckbhjjflpobbaaGreat.Fz
open Go.Proofs.YtckbhjjflpobbaaGreat.Hk (Hd Two Non Put saves saved saves_idle saved_put put_disk enc_size slot_nat look_dur)

set_option linter.unusedVariables false
structure Sit (area : Nat) (b q l : Int) (j : Jw) (s : Ds) : Prop where
  jok : Jok j s 41
  ar : j.area = area
  n : s.n = 2 + 2 * area
  room : s.pend.length < 65536
  next : ∀ m : Nat, m ≤ 40 → (j.next m).good
  way : (∃ c R, j = jw area c R ∧ Up area s c R ∧ Bnd b q l c R) ∨ (∃ c R c' R', j.dead = true ∧ Down area s c R c' R' ∧ Bnd b q l c R ∧ Bnd b q l c' R')
theorem Bnd.mono {b q l b' q' l' : Int} {c : Hd} {R : List Fr} (k : Bnd b q l c R) (hb : b ≤ b') (hq : q ≤ q') (hl : l ≤ l') : Bnd b' q' l' c R := ⟨Int.le_trans k.boot hb, Int.le_trans k.seq hq, Int.le_trans k.lsn hl⟩
theorem Sit.mono {area : Nat} {b q l b' q' l' : Int} {j : Jw} {s : Ds} (t : Sit area b q l j s) (hb : b ≤ b') (hq : q ≤ q') (hl : l ≤ l') : Sit area b' q' l' j s :=
  ⟨t.jok, t.ar, t.n, t.room, t.next, t.way.imp (fun ⟨c, R, e, u, k⟩ => ⟨c, R, e, u, k.mono hb hq hl⟩) (fun ⟨c, R, c', R', e, u, k, k'⟩ => ⟨c, R, c', R', e, u, k.mono hb hq hl, k'.mono hb hq hl⟩)⟩
theorem jok_of {area : Nat} {s : Ds} {c : Hd} {R : List Fr} {b q l : Int} (ha : area ≤ 32000) (u : Up area s c R) (k : Bnd b q l c R) (hb : b < 255) (hq : q < 281474976700000) (hl : l < 281474976700000) : Jok (jw area c R) (still s) 41 := u.live.jok ha (k.small hb hq hl (by decide)) (still s) rfl
theorem next_of {area : Nat} {s : Ds} {c : Hd} {R : List Fr} {b q l : Int} (u : Up area s c R) (k : Bnd b q l c R) (hb : b < 255) (hq : q < 281474976700000) (hl : l < 281474976700000) (m : Nat) (hm : m ≤ 40) : ((jw area c R).next m).good := by
  have g := u.live.jo.jv.two.good
  have h0 := lsn_pos u.live.jo.jv
  have h1 := k.boot
  have h2 := k.seq
  have h3 := k.lsn
  exact ⟨by show 1 ≤ c.seq + 1; have := g.s1; omega, by show c.seq + 1 ≤ _; omega, by show 1 ≤ lsnOf c R + 1; omega, by show lsnOf c R + 1 ≤ _; omega, g.b1, g.b2, by show 0 ≤ 1 - c.area; have := g.a2; omega, by show 1 - c.area ≤ 1; have := g.a1; omega, by show (0 : Int) ≤ (m : Int); omega, by show (m : Int) ≤ 65535; omega⟩
theorem Up.sit {area : Nat} {s : Ds} {c : Hd} {R : List Fr} {b q l : Int} (ha : area ≤ 32000) (u : Up area s c R) (k : Bnd b q l c R) (hb : b < 255) (hq : q < 281474976700000) (hl : l < 281474976700000) : Sit area b q l (jw area c R) s := by
  have h := jok_of ha u k hb hq hl
  have hp : s.pend = [] := u.live.calm.pend
  exact ⟨⟨h.half, h.area, h.used, h.n0, h.n1, h.boot, h.seq, h.room⟩, rfl, u.live.calm.n, by rw [hp]; decide, fun m hm => next_of u k hb hq hl m hm, .inl ⟨c, R, rfl, u, k⟩⟩
/-- A call was cut. -/
theorem Sit.cut {area : Nat} {s s' : Ds} {c c' : Hd} {R R' : List Fr} {b q l : Int} (ha : area ≤ 32000) (u : Up area s c R) (d : Down area s' c R c' R') (k : Bnd b q l c R) (k' : Bnd b q l c' R') (hb : b < 255) (hq : q < 281474976700000) (hl : l < 281474976700000) : Sit area b q l ((jw area c R).told 10) s' := by
  have h := jok_of ha u k hb hq hl
  exact ⟨⟨h.half, h.area, h.used, h.n0, h.n1, h.boot, h.seq, by have := d.room; omega⟩, rfl, d.n, d.room, fun m hm => next_of u k hb hq hl m hm, .inr ⟨c, R, c', R', rfl, d, k, k'⟩⟩
theorem Sit.append {area : Nat} {b q l : Int} {j : Jw} {s : Ds} (ha : area ≤ 32000) (t : Sit area b q l j s) (hb : b < 255) (hq : q + 1 < 281474976700000) (hl : l + 41 < 281474976700000) (d : ByteArray) :
    ∃ E j' s', appends j s d = (E, j', s') ∧ Sit area b (q + 1) (l + 41) j' s' := by
  rcases t.way with ⟨c, R, rfl, u, k⟩ | ⟨c, R, c', R', hd, u, k, k'⟩
  · rcases u.append k hb (by omega) (by omega) d with ⟨E, _, e⟩ | ⟨s', R', e, u', k'⟩ | ⟨s', R', e, u', k'⟩
    · exact ⟨_, _, _, e, t.mono (Int.le_refl _) (by omega) (by omega)⟩
    · exact ⟨_, _, _, e, u'.sit ha k' hb hq hl⟩
    · exact ⟨_, _, _, e, Sit.cut ha u u' (k.mono (Int.le_refl _) (by omega) (by omega)) k' hb hq hl⟩
  · refine ⟨10, j, s, ?_, t.mono (Int.le_refl _) (by omega) (by omega)⟩
    unfold appends
    rw [if_pos hd]
theorem compacts_told {j j' : Jw} {s s' : Ds} {x : Nat → ByteArray} {m : Nat} (hd : j.dead = false) (e : compacts j s x m = (10, j', s')) : j' = j.told 10 := by
  unfold compacts at e
  rw [if_neg (by rw [hd]; decide)] at e
  by_cases hfit : fits x m
  case neg => rw [if_pos hfit] at e; exact absurd (congrArg Prod.fst e) (show ¬ (5 : Int) = 10 by decide)
  rw [if_neg (not_not_intro hfit)] at e
  by_cases a1 : j.area < pre x m
  · rw [if_pos a1] at e
    exact absurd (congrArg Prod.fst e) (show ¬ (9 : Int) = 10 by decide)
  rw [if_neg a1] at e
  by_cases a2 : (poured s (j.base (1 - j.h.area)) (flat j.h.boot (j.n + 1) 1 x m) (pre x m)).1 ≠ 0
  · rw [if_pos a2] at e
    have e1 : (poured s (j.base (1 - j.h.area)) (flat j.h.boot (j.n + 1) 1 x m) (pre x m)).1 = 10 := congrArg Prod.fst e
    have e3 : j.told (poured s (j.base (1 - j.h.area)) (flat j.h.boot (j.n + 1) 1 x m) (pre x m)).1 = j' := congrArg (fun z => z.2.1) e
    rw [← e3, e1]
  rw [if_neg a2] at e
  by_cases a3 : (saves (poured s (j.base (1 - j.h.area)) (flat j.h.boot (j.n + 1) 1 x m) (pre x m)).2 (j.next m)).1 ≠ 0
  · rw [if_pos a3] at e
    have e1 : (saves (poured s (j.base (1 - j.h.area)) (flat j.h.boot (j.n + 1) 1 x m) (pre x m)).2 (j.next m)).1 = 10 := congrArg Prod.fst e
    have e3 : j.told (saves (poured s (j.base (1 - j.h.area)) (flat j.h.boot (j.n + 1) 1 x m) (pre x m)).2 (j.next m)).1 = j' := congrArg (fun z => z.2.1) e
    rw [← e3, e1]
  · rw [if_neg a3] at e
    exact absurd (congrArg Prod.fst e) (show ¬ (0 : Int) = 10 by decide)
theorem Sit.compact {area : Nat} {b q l : Int} {j : Jw} {s : Ds} (ha : area ≤ 32000) (t : Sit area b q l j s) (hb : b < 255) (hq : q + 1 < 281474976700000) (hl : l + 41 < 281474976700000) (x : Nat → ByteArray) (m : Nat) (hm : m ≤ 40) :
    ∃ E j' s', compacts j s x m = (E, j', s') ∧ Sit area b (q + 1) (l + 41) j' s' := by
  rcases t.way with ⟨c, R, rfl, u, k⟩ | ⟨c, R, c', R', hd, u, k, k'⟩
  · rcases u.compact k hb (by omega) (by omega) x m hm with ⟨E, _, e⟩ | ⟨s', c', R', e, u', _, k'⟩ | ⟨j', s', c', R', e, _, u', _, k'⟩
    · exact ⟨_, _, _, e, t.mono (Int.le_refl _) (by omega) (by omega)⟩
    · exact ⟨_, _, _, e, u'.sit ha k' hb hq hl⟩
    · have e2 := compacts_told rfl e
      subst e2
      exact ⟨_, _, _, e, Sit.cut ha u u' (k.mono (Int.le_refl _) (by omega) (by omega)) k' hb hq hl⟩
  · refine ⟨10, j, s, ?_, t.mono (Int.le_refl _) (by omega) (by omega)⟩
    unfold compacts
    rw [if_pos hd]
theorem Sit.mark {area : Nat} {b q l : Int} {j : Jw} {s : Ds} (t : Sit area b q l j s) (f : Bool) : Sit area b q l j { s with full := f } :=
  ⟨⟨t.jok.half, t.jok.area, t.jok.used, t.jok.n0, t.jok.n1, t.jok.boot, t.jok.seq, t.jok.room⟩, t.ar, t.n, t.room, t.next, t.way.imp (fun ⟨c, R, e, u, k⟩ => ⟨c, R, e, u.mark f, k⟩) (fun ⟨c, R, c', R', e, u, k, k'⟩ => ⟨c, R, c', R', e, u.mark f, k, k'⟩)⟩
theorem Up.arm {area : Nat} {s : Ds} {c : Hd} {R : List Fr} (u : Up area s c R) (k : Int) : Up area { s with fu := s.fu.arm k } c R := by
  refine ⟨u.live, ?_⟩
  show s.fu.arm k = .idle ∨ ∃ n, s.fu.arm k = .armed n
  rcases u.fu with e | ⟨n, e⟩
  · rw [e]
    unfold St.arm
    by_cases h : k < 0
    · simp [h]
    · simp [h]
  · rw [e]
    unfold St.arm
    by_cases h : k < 0
    · simp [h]
    · simp [h]
theorem Sit.arm {area : Nat} {b q l : Int} {j : Jw} {s : Ds} (t : Sit area b q l j s) (k : Int) : Sit area b q l j { s with fu := s.fu.arm k } :=
  ⟨⟨t.jok.half, t.jok.area, t.jok.used, t.jok.n0, t.jok.n1, t.jok.boot, t.jok.seq, t.jok.room⟩, t.ar, t.n, t.room, t.next, t.way.imp (fun ⟨c, R, e, u, kk⟩ => ⟨c, R, e, u.arm k, kk⟩) (fun ⟨c, R, c', R', e, u, kk, k'⟩ => ⟨c, R, c', R', e, u.refuse _, kk, k'⟩)⟩
/-- A crash, and the opening behind it. -/
theorem Sit.crash {area : Nat} {b q l : Int} {j : Jw} {s : Ds} (ha : 1 ≤ area ∧ area ≤ 32000) (t : Sit area b q l j s) (hb : b + 1 < 255) (hq : q + 1 < 281474976700000) (hl : l < 281474976700000) {f : Nat → Nat} (hf : ∀ i, f i ≤ 80) :
    ∃ c R s1, Opens { s.settled f with fu := .idle } area c R c.snaps.toNat s1 ∧ Sit area (b + 1) (q + 1) l (jw area (nextHd c) R) s1 := by
  have key : ∃ c R, Lain area (crashed (sf s false) f) c R ∧ Bnd b q l c R := by
    rcases t.way with ⟨c, R, rfl, u, k⟩ | ⟨c, R, c', R', hd, u, k, k'⟩
    · exact ⟨c, R, u.crash hf, k⟩
    · rcases u.lain f hf with h | h
      · exact ⟨c, R, h, k⟩
      · exact ⟨c', R', h, k'⟩
  obtain ⟨c, R, hl1, k⟩ := key
  have h1 : Lain area (sf (crashed s f) false) c R := hl1
  obtain ⟨s1, o, u⟩ := h1.open2 ha ⟨by have := k.boot; omega, by have := k.seq; omega⟩
  refine ⟨c, R, s1, o, u.sit ha.2 ⟨?_, ?_, ?_⟩ hb hq hl⟩
  · have := k.boot; show c.boot + 1 ≤ _; omega
  · have := k.seq; show c.seq + 1 ≤ _; omega
  · have := k.lsn; show lsnOf (nextHd c) R ≤ _; exact this
/-- The first opening. -/
theorem sit_fresh {area : Nat} (ha : 1 ≤ area ∧ area ≤ 32000) : ∃ s1, Opens (fresh (2 + 2 * area) .idle) area h0 [] 0 s1 ∧ Sit area 1 1 0 (jw area (nextHd h0) []) s1 := by
  obtain ⟨s1, o, l⟩ := fresh_open ha
  refine ⟨s1, o, l.up.sit ha.2 ⟨?_, ?_, ?_⟩ (by decide) (by decide) (by decide)⟩
  · show h11.boot ≤ 1; decide
  · show h11.seq ≤ 1; decide
  · show lsnOf h11 [] ≤ 0; decide
end Go.Proofs.YtckbhjjflpobbaaGreat.Jk

namespace Go.Proofs.YtckbhjjflpobbaaGreat.Jk
open Go Go.RowKit Go.ChangeShapes Go.WideShapes Go.ChangeAt Go.Proofs.YtckbhjjflpobbaaGreat.Mem Go.Proofs.YtckbhjjflpobbaaGreat.Pk Go.Proofs.YtckbhjjflpobbaaGreat.Fk Go.Proofs.YtckbhjjflpobbaaGreat.Dz Go.Proofs.YtckbhjjflpobbaaGreat.Fz Go.Proofs.YtckbhjjflpobbaaGreat.Rc
open Go.Proofs.YtckbhjjflpobbaaGreat.Hk (Hd saves loads o_save o_load hblock)
set_option linter.unusedVariables false

/-- Some of the first things, in another order; those behind them stay. -/
theorem own_pickt {w0 w : World} {L M Z : List As} (h : Mem.Own w0 (L ++ Z) w) (g : List Nat) (hn : g.Nodup) (e : g.map (fun k => L[k]?) = M.map some) : Mem.Own w0 (M ++ Z) w := by
  have hl : g.length = M.length := by have := congrArg List.length e; simpa using this
  have hb : ∀ (i : Nat) (hi : i < g.length), g[i] < L.length := fun i hi => by
    have h2 : (g.map (fun k => L[k]?))[i]? = (M.map some)[i]? := by rw [e]
    rw [List.getElem?_map, List.getElem?_map, List.getElem?_eq_getElem hi, List.getElem?_eq_getElem (show i < M.length by omega)] at h2
    have h3 : L[g[i]]? = some (M[i]'(by omega)) := Option.some.inj h2
    exact (List.getElem?_eq_some_iff.1 h3).1
  have hg : ∀ (i : Nat) (hi : i < M.length), g.getD i 0 = g[i]'(by omega) := fun i hi => by rw [List.getD_eq_getElem?_getD, List.getElem?_eq_getElem (by omega)]; rfl
  refine h.pick (fun i => if i < M.length then g.getD i 0 else i - M.length + L.length) (fun i j hi hj he => ?_) (fun i a hi => ?_)
  · have he : (if i < M.length then g.getD i 0 else i - M.length + L.length) = (if j < M.length then g.getD j 0 else j - M.length + L.length) := he
    by_cases h1 : i < M.length <;> by_cases h2 : j < M.length
    · rw [if_pos h1, if_pos h2, hg i h1, hg j h2] at he
      have hp := List.pairwise_iff_getElem.1 hn
      rcases Nat.lt_trichotomy i j with hlt | e | hlt
      · exact absurd he (hp i j (by omega) (by omega) hlt)
      · exact e
      · exact absurd he.symm (hp j i (by omega) (by omega) hlt)
    · rw [if_pos h1, if_neg h2, hg i h1] at he
      have := hb i (by omega)
      omega
    · rw [if_neg h1, if_pos h2, hg j h2] at he
      have := hb j (by omega)
      omega
    · rw [if_neg h1, if_neg h2] at he
      omega
  · show (L ++ Z)[if i < M.length then g.getD i 0 else i - M.length + L.length]? = some a
    by_cases h1 : i < M.length
    · rw [if_pos h1, hg i h1]
      rw [List.getElem?_append_left h1] at hi
      have h2 : (g.map (fun k => L[k]?))[i]? = some (some a) := by rw [e, List.getElem?_map, hi]; rfl
      rw [List.getElem?_map, List.getElem?_eq_getElem (by omega)] at h2
      rw [List.getElem?_append_left (hb i (by omega))]
      simpa using h2
    · rw [if_neg h1]
      rw [List.getElem?_append_right (by omega)] at hi
      rw [List.getElem?_append_right (by omega), show i - M.length + L.length - L.length = i - M.length by omega]
      exact hi
def L6 (X x F D G R J B : Nat) (j1 j2 : Jw) (s1 s2 : Ds) : List As := [boA X x (.pointer (some ⟨J, 0, none⟩)) (.pointer (some ⟨B, 0, none⟩)), jA J D j1, rjA B R j2, boxx x F D G R, rk G R s2, dk F D s1]
section
variable {w0 w : World} {X x F D G R J B : Nat} {j j1 j2 : Jw} {s s1 s2 : Ds} {Z : List As}
theorem x_app (h : Mem.Own w0 (L6 X x F D G R J B j j2 s s2 ++ Z) w) (hj : Jok j s 1) (d : ByteArray) (hd : d.size ≤ maxLen) {E : Int} {j' : Jw} {s' : Ds} (e : appends j s d = (E, j', s')) :
    Calls Tryz.prog 8 #[.pointer (some ⟨J, 0, none⟩), .string d] w fun e w' => e = .returned (.int .i64 E) ∧ Mem.Own w0 (L6 X x F D G R J B j' j2 s' s2 ++ Z) w' := by
  have q := o_append (L := [boA X x (.pointer (some ⟨J, 0, none⟩)) (.pointer (some ⟨B, 0, none⟩)), rjA B R j2, boxx x F D G R, rk G R s2] ++ Z) (own_pickt (M := [jA J D j, dk F D s, boA X x (.pointer (some ⟨J, 0, none⟩)) (.pointer (some ⟨B, 0, none⟩)), rjA B R j2, boxx x F D G R, rk G R s2]) h [1, 5, 0, 2, 3, 4] (by decide) rfl) hj d hd
  rw [e] at q
  exact q.mono fun e w' ⟨he, hw⟩ => ⟨he, own_pickt (L := [jA J D j', dk F D s', boA X x (.pointer (some ⟨J, 0, none⟩)) (.pointer (some ⟨B, 0, none⟩)), rjA B R j2, boxx x F D G R, rk G R s2]) hw [2, 0, 3, 4, 5, 1] (by decide) rfl⟩
theorem x_rapp (h : Mem.Own w0 (L6 X x F D G R J B j1 j s1 s ++ Z) w) (hj : Jok j s 1) (hn : s.n = 2 + 2 * j.area) (d : ByteArray) (hd : d.size ≤ maxLen) {E : Int} {j' : Jw} {s' : Ds} (e : appends j s d = (E, j', s')) :
    Calls Tryz.prog 9 #[.pointer (some ⟨B, 0, none⟩), .string d] w fun e w' => e = .returned (.int .i64 E) ∧ Mem.Own w0 (L6 X x F D G R J B j1 j' s1 s' ++ Z) w' := by
  have q := o_rappend (L := [boA X x (.pointer (some ⟨J, 0, none⟩)) (.pointer (some ⟨B, 0, none⟩)), jA J D j1, boxx x F D G R, dk F D s1] ++ Z) (own_pickt (M := [rjA B R j, rk G R s, boA X x (.pointer (some ⟨J, 0, none⟩)) (.pointer (some ⟨B, 0, none⟩)), jA J D j1, boxx x F D G R, dk F D s1]) h [2, 4, 0, 1, 3, 5] (by decide) rfl) hj hn d hd
  rw [e] at q
  exact q.mono fun e w' ⟨he, hw⟩ => ⟨he, own_pickt (L := [rjA B R j', rk G R s', boA X x (.pointer (some ⟨J, 0, none⟩)) (.pointer (some ⟨B, 0, none⟩)), jA J D j1, boxx x F D G R, dk F D s1]) hw [2, 3, 0, 4, 1, 5] (by decide) rfl⟩
theorem x_com (h : Mem.Own w0 (L6 X x F D G R J B j j2 s s2 ++ Z) w) (ao : Option Addr) (cap m : Nat) (x3 : Nat → ByteArray) (hm : m < 65536) (hj : Jok j s m) (hx : ∀ i, i < m → (x3 i).size ≤ maxLen) (hs : SAo w ao m x3) {E : Int} {j' : Jw} {s' : Ds} (e : compacts j s x3 m = (E, j', s')) :
    Calls Tryz.prog 11 #[.pointer (some ⟨J, 0, none⟩), .slice ao m cap] w fun e w' => e = .returned (.int .i64 E) ∧ Mem.Own w0 (L6 X x F D G R J B j' j2 s' s2 ++ Z) w' := by
  have q := o_compact (L := [boA X x (.pointer (some ⟨J, 0, none⟩)) (.pointer (some ⟨B, 0, none⟩)), rjA B R j2, boxx x F D G R, rk G R s2] ++ Z) (own_pickt (M := [jA J D j, dk F D s, boA X x (.pointer (some ⟨J, 0, none⟩)) (.pointer (some ⟨B, 0, none⟩)), rjA B R j2, boxx x F D G R, rk G R s2]) h [1, 5, 0, 2, 3, 4] (by decide) rfl) ao cap m x3 hm hj hx hs
  rw [e] at q
  exact q.mono fun e w' ⟨he, hw⟩ => ⟨he, own_pickt (L := [jA J D j', dk F D s', boA X x (.pointer (some ⟨J, 0, none⟩)) (.pointer (some ⟨B, 0, none⟩)), rjA B R j2, boxx x F D G R, rk G R s2]) hw [2, 0, 3, 4, 5, 1] (by decide) rfl⟩
theorem x_rcom (h : Mem.Own w0 (L6 X x F D G R J B j1 j s1 s ++ Z) w) (ao : Option Addr) (cap m : Nat) (x3 : Nat → ByteArray) (hm : m < 65536) (hj : Jok j s m) (hg : (j.next m).good) (hn : s.n = 2 + 2 * j.area) (hx : ∀ i, i < m → (x3 i).size ≤ maxLen) (hs : SAo w0 ao m x3) {E : Int} {j' : Jw} {s' : Ds} (e : compacts j s x3 m = (E, j', s')) :
    Calls Tryz.prog 12 #[.pointer (some ⟨B, 0, none⟩), .slice ao m cap] w fun e w' => e = .returned (.int .i64 E) ∧ Mem.Own w0 (L6 X x F D G R J B j1 j' s1 s' ++ Z) w' := by
  have q := o_rcompact (L := [boA X x (.pointer (some ⟨J, 0, none⟩)) (.pointer (some ⟨B, 0, none⟩)), jA J D j1, boxx x F D G R, dk F D s1] ++ Z) (own_pickt (M := [rjA B R j, rk G R s, boA X x (.pointer (some ⟨J, 0, none⟩)) (.pointer (some ⟨B, 0, none⟩)), jA J D j1, boxx x F D G R, dk F D s1]) h [2, 4, 0, 1, 3, 5] (by decide) rfl) ao cap m x3 hm hj hg hn hx (fun _ _ _ hW => hs.kept hW.kept)
  rw [e] at q
  exact q.mono fun e w' ⟨he, hw⟩ => ⟨he, own_pickt (L := [rjA B R j', rk G R s', boA X x (.pointer (some ⟨J, 0, none⟩)) (.pointer (some ⟨B, 0, none⟩)), jA J D j1, boxx x F D G R, dk F D s1]) hw [2, 3, 0, 4, 1, 5] (by decide) rfl⟩
theorem x_ok (h : Mem.Own w0 (L6 X x F D G R J B j1 j2 s1 s2 ++ Z) w) : s1.ok := by
  obtain ⟨_, ⟨M1, M2, pv, hd, _⟩, _⟩ := h.see 5 rfl
  exact hd.ok
theorem x_arm (h : Mem.Own w0 (L6 X x F D G R J B j1 j2 s s ++ Z) w) (k : Int) (hk : k < 9223372036854775808) :
    Calls Tryz.prog 14 #[.pointer (some ⟨x, 0, none⟩), .int .i64 k] w fun e w' => e = .returned (.bool true) ∧ Mem.Own w0 (L6 X x F D G R J B j1 j2 { s with fu := s.fu.arm k } { s with fu := s.fu.arm k } ++ Z) w' :=
  (barm_c (own_pickt (M := pair x F D G R s [boA X x (.pointer (some ⟨J, 0, none⟩)) (.pointer (some ⟨B, 0, none⟩)), jA J D j1, rjA B R j2]) h [3, 4, 5, 0, 1, 2] (by decide) rfl) (x_ok h).fu k hk).mono fun e w' ⟨he, hw⟩ =>
    ⟨he, own_pickt (L := pair x F D G R { s with fu := s.fu.arm k } [boA X x (.pointer (some ⟨J, 0, none⟩)) (.pointer (some ⟨B, 0, none⟩)), jA J D j1, rjA B R j2]) hw [3, 4, 5, 0, 1, 2] (by decide) rfl⟩
theorem x_crash (h : Mem.Own w0 (L6 X x F D G R J B j1 j2 s s ++ Z) w) {c : Ch} (hc : c.ok) :
    Calls Tryz.prog 15 #[.pointer (some ⟨x, 0, none⟩), .agg c.cells] w fun e w' => e = .returned (.tuple #[]) ∧ Mem.Own w0 (L6 X x F D G R J B j1 j2 { s.settled c.left with fu := .idle } { s.settled c.left with fu := .idle } ++ Z) w' :=
  (bcrash_c (own_pickt (M := pair x F D G R s [boA X x (.pointer (some ⟨J, 0, none⟩)) (.pointer (some ⟨B, 0, none⟩)), jA J D j1, rjA B R j2]) h [3, 4, 5, 0, 1, 2] (by decide) rfl) hc).mono fun e w' ⟨he, hw⟩ =>
    ⟨he, own_pickt (L := pair x F D G R { s.settled c.left with fu := .idle } [boA X x (.pointer (some ⟨J, 0, none⟩)) (.pointer (some ⟨B, 0, none⟩)), jA J D j1, rjA B R j2]) hw [3, 4, 5, 0, 1, 2] (by decide) rfl⟩
theorem x_bsame (h : Mem.Own w0 (L6 X x F D G R J B j1 j2 s s ++ Z) w) (hroom : s.pend.length < 4294967296) :
    Calls Tryz.prog 21 #[.pointer (some ⟨x, 0, none⟩)] w fun e w' => e = .returned (.bool true) ∧ Kept w0 w' :=
  (bsame_c (own_pickt (M := pair x F D G R s [boA X x (.pointer (some ⟨J, 0, none⟩)) (.pointer (some ⟨B, 0, none⟩)), jA J D j1, rjA B R j2]) h [3, 4, 5, 0, 1, 2] (by decide) rfl) hroom).mono fun e w' ⟨he, hw⟩ => ⟨he, hw.kept⟩
theorem x_full (h : Mem.Own w0 (L6 X x F D G R J B j1 j2 s1 s2 ++ Z) w) (b : Bool) :
    Calls Tryz.prog 16 #[.pointer (some ⟨D, 0, none⟩), .bool b] w fun e w' => e = .returned (.tuple #[]) ∧ Mem.Own w0 (L6 X x F D G R J B j1 j2 { s1 with full := b } s2 ++ Z) w' := o_setfull h 5 rfl b
theorem o_rfull {L : List As} (h : Mem.Own w0 L w) (i : Nat) (hi : L[i]? = some (rk G R s)) (b : Bool) : Mem.Own w0 (L.set i (rk G R { s with full := b })) (w.setCell ⟨R, 3, none⟩ (.bool b)) := by
  obtain ⟨S, ⟨Sb, pv, hd, h1, h2, h3, h4⟩, hs, back⟩ := h.open i hi
  refine back _ _ ((Off.refl S w).setc R 3 _ (.inl h2)) ⟨Sb, pv, ?_, .inl h1, .inl h2, .inl h3, fun g hg => .inl (h4 g hg)⟩
  have a := hd.apart
  refine ⟨?_, ?_, ?_, ?_, ⟨hd.ok.lo, hd.ok.hi, hd.ok.fu, hd.ok.dur, hd.ok.pend⟩⟩
  · show (w.setCell _ _).heap[G]? = _
    rw [heap_setCell_other _ _ _ _ a.RG.symm]; exact hd.rf
  · have := heap_setCell_same w R 3 _ _ (.bool b) hd.blk
    simpa [Dz.rblock] using this
  · rw [heap_setCell_other _ _ _ _ a.RS.symm]; exact hd.srow
  · exact row_at hd.prow fun g hg => heap_setCell_other _ _ _ _ (a.p g hg).1
theorem o_rcells {L : List As} (h : Mem.Own w0 L w) (i : Nat) (hi : L[i]? = some (rk G R s)) : w.cell? ⟨R, 3, none⟩ = some (.bool s.full) ∧ w.frozen? ⟨R, 3, none⟩ = false := by
  obtain ⟨S, ⟨Sb, pv, hd, _⟩, _⟩ := h.see i hi
  obtain ⟨_, _, _, h3, hf⟩ := hd.cells w (Off.refl _ _)
  exact ⟨h3, hf 3⟩
theorem x_rfull (h : Mem.Own w0 (L6 X x F D G R J B j1 j2 s1 s2 ++ Z) w) (b : Bool) : Mem.Own w0 (L6 X x F D G R J B j1 j2 s1 { s2 with full := b } ++ Z) (w.setCell ⟨R, 3, none⟩ (.bool b)) := o_rfull h 4 rfl b
theorem x_rcells (h : Mem.Own w0 (L6 X x F D G R J B j1 j2 s1 s2 ++ Z) w) : w.cell? ⟨R, 3, none⟩ = some (.bool s2.full) ∧ w.frozen? ⟨R, 3, none⟩ = false := o_rcells h 4 rfl
theorem x_same (h : Mem.Own w0 (L6 X x F D G R J B j j s1 s2 ++ Z) w) (ha : j.area ≤ 32000) (hu : j.used ≤ j.area) :
    Calls Tryz.prog 17 #[.pointer (some ⟨X, 0, none⟩)] w fun e w' => e = .returned (.bool true) ∧ Mem.Own w0 (L6 X x F D G R J B j j s1 s2 ++ Z) w' := o_same (L := [boxx x F D G R, rk G R s2, dk F D s1] ++ Z) h ha hu
theorem x_pend (h : Mem.Own w0 (L6 X x F D G R J B j1 j2 s1 s2 ++ Z) w) (hroom : s1.pend.length < 4294967296) :
    Calls Tryz.prog 19 #[.pointer (some ⟨D, 0, none⟩)] w fun e w' => (∃ ao cap, e = .returned (.slice ao s1.pend.length cap) ∧ Ints w.heap.size ao (s1.pend.map (·.1)) w') ∧ Mem.Own w0 (L6 X x F D G R J B j1 j2 s1 s2 ++ Z) w' := o_pending h 5 rfl hroom
theorem x_rpend (h : Mem.Own w0 (L6 X x F D G R J B j1 j2 s1 s2 ++ Z) w) (hroom : s2.pend.length < 4294967296) :
    Calls Tryz.prog 20 #[.pointer (some ⟨R, 0, none⟩)] w fun e w' => (∃ ao cap, e = .returned (.slice ao s2.pend.length cap) ∧ Ints w.heap.size ao (s2.pend.map (·.1)) w') ∧ Mem.Own w0 (L6 X x F D G R J B j1 j2 s1 s2 ++ Z) w' := o_rpending h 4 rfl hroom
theorem x_cells (h : Mem.Own w0 (L6 X x F D G R J B j1 j2 s1 s2 ++ Z) w) : w.cell? ⟨X, 0, none⟩ = some (.pointer (some ⟨x, 0, none⟩)) ∧ w.cell? ⟨X, 1, none⟩ = some (.pointer (some ⟨J, 0, none⟩)) ∧ w.cell? ⟨X, 2, none⟩ = some (.pointer (some ⟨B, 0, none⟩)) ∧ w.cell? ⟨x, 1, none⟩ = some (.pointer (some ⟨D, 0, none⟩)) ∧ w.cell? ⟨x, 3, none⟩ = some (.pointer (some ⟨R, 0, none⟩)) := by
  obtain ⟨⟨a0, a1, a2⟩, _⟩ := bocells h 0 rfl
  obtain ⟨_, c1, _, c3⟩ := xcells h 3 rfl
  exact ⟨a0, a1, a2, c1, c3⟩
theorem x_open {area : Nat} {c : Hd} {Rl : List Fr} {m : Nat} {t : Ds} (h : Mem.Own w0 (L6 X x F D G R J B j1 j2 s s ++ Z) w) (q : Opens s area c Rl m t) :
    Calls Tryz.prog 7 #[.pointer (some ⟨X, 0, none⟩), .int .i64 (area : Int)] w fun e w' => ∃ J B, e = .returned (.bool true) ∧
      Mem.Own w0 (L6 X x F D G R J B (jw area (nextHd c) Rl) (jw area (nextHd c) Rl) t t ++ []) w' :=
  (o_bopen (own_pick (M := [boA X x (.pointer (some ⟨J, 0, none⟩)) (.pointer (some ⟨B, 0, none⟩)), boxx x F D G R, rk G R s, dk F D s]) h [0, 3, 4, 5] (by decide) rfl) q).mono fun e w' ⟨J, B, he, hw⟩ => ⟨J, B, he, by rw [List.append_nil]; exact hw⟩
end
theorem ints_c (a1 a2 : Option Addr) (l : List Nat) (n c1 c2 b1 b2 : Nat) (hn : l.length = n) (hl : n < 4294967296) (w : World) (h1 : Ints b1 a1 l w) (h2 : Ints b2 a2 l w) :
    Calls Tryz.prog 18 #[.slice a1 n c1, .slice a2 n c2] w fun e w' => e = .returned (.bool true) ∧ Kept w w' :=
  equalints_c a1 a2 l n c1 c2 hn hl w (fun k h => by obtain ⟨g, e, _, _, h⟩ := h1.cell k h; exact ⟨g, e, h⟩) (fun k h => by obtain ⟨g, e, _, _, h⟩ := h2.cell k h; exact ⟨g, e, h⟩)
end Go.Proofs.YtckbhjjflpobbaaGreat.Jk

namespace Go.Proofs.YtckbhjjflpobbaaGreat.Jk
open Go Go.RowKit Go.ChangeShapes Go.WideShapes Go.ChangeAt Go.Proofs.YtckbhjjflpobbaaGreat.Mem Go.Proofs.YtckbhjjflpobbaaGreat.Pk Go.Proofs.YtckbhjjflpobbaaGreat.Fk Go.Proofs.YtckbhjjflpobbaaGreat.Dz Go.Proofs.YtckbhjjflpobbaaGreat.Fz Go.Proofs.YtckbhjjflpobbaaGreat.Rc
open Go.Proofs.YtckbhjjflpobbaaGreat.Hk (Hd saves loads o_save o_load hblock)
set_option linter.unusedVariables false

theorem Jok.less {j : Jw} {s : Ds} {m m' : Nat} (h : Jok j s m) (hm : m' ≤ m) : Jok j s m' := ⟨h.half, h.area, h.used, h.n0, by have := h.n1; omega, h.boot, h.seq, h.room⟩
theorem x_rpend2 {u w : World} {X x F D G R J B : Nat} {j1 j2 : Jw} {s : Ds} {Z : List As} {b : Nat} {a1 : Option Addr} (h : Mem.Own u (L6 X x F D G R J B j1 j2 s s ++ Z) w) (i1 : Ints b a1 (s.pend.map (·.1)) w) (hroom : s.pend.length < 4294967296) :
    Calls Tryz.prog 20 #[.pointer (some ⟨R, 0, none⟩)] w fun e w' => (∃ ao cap, e = .returned (.slice ao s.pend.length cap) ∧ Ints b a1 (s.pend.map (·.1)) w' ∧ Ints w.heap.size ao (s.pend.map (·.1)) w') ∧ Mem.Own u (L6 X x F D G R J B j1 j2 s s ++ Z) w' := by
  obtain ⟨S, ⟨Sb, pv, hd, _⟩, _⟩ := h.see 4 rfl
  exact (rpending_c R G Sb pv s hroom w hd).mono fun e w' ⟨ao, cap, he, hk, hi⟩ => ⟨⟨ao, cap, he, i1.kept hk, hi⟩, h.later hk⟩
theorem deed_cells {u W : World} {X x F D G R J B BD : Nat} {j1 j2 : Jw} {s1 s2 : Ds} {d : Nat} {sd : ByteArray} {aS : Option Addr} {m cS : Nat} {K : Int} {keep : Nat} {torn bytes : Int} {Z : List As} (h : Mem.Own u (L6 X x F D G R J B j1 j2 s1 s2 ++ boxA BD #[.int .u8 (d : Int), .string sd, .slice aS m cS, .int .i64 K, .int .u64 (keep : Int), .int .i64 torn, .int .i64 bytes] 38 :: Z) W) :
    (W.cell? ⟨X, 0, none⟩ = some (.pointer (some ⟨x, 0, none⟩)) ∧ W.cell? ⟨X, 1, none⟩ = some (.pointer (some ⟨J, 0, none⟩)) ∧ W.cell? ⟨X, 2, none⟩ = some (.pointer (some ⟨B, 0, none⟩)) ∧ W.cell? ⟨x, 1, none⟩ = some (.pointer (some ⟨D, 0, none⟩)) ∧ W.cell? ⟨x, 3, none⟩ = some (.pointer (some ⟨R, 0, none⟩))) ∧ W.cell? ⟨BD, 0, none⟩ = some (.int .u8 (d : Int)) ∧ W.cell? ⟨BD, 1, none⟩ = some (.string sd) ∧ W.cell? ⟨BD, 2, none⟩ = some (.slice aS m cS) ∧ W.cell? ⟨BD, 3, none⟩ = some (.int .i64 K) ∧ W.cell? ⟨BD, 4, none⟩ = some (.int .u64 (keep : Int)) ∧ W.cell? ⟨BD, 5, none⟩ = some (.int .i64 torn) ∧ W.cell? ⟨BD, 6, none⟩ = some (.int .i64 bytes) := by
  have hb := h.boxed 6 rfl
  exact ⟨x_cells h, cell_of_row _ _ _ _ _ _ hb, cell_of_row _ _ _ _ _ _ hb, cell_of_row _ _ _ _ _ _ hb, cell_of_row _ _ _ _ _ _ hb, cell_of_row _ _ _ _ _ _ hb, cell_of_row _ _ _ _ _ _ hb, cell_of_row _ _ _ _ _ _ hb⟩
/-- What lies in memory between two acts. -/
def Mid (u : World) (X x F D G R area : Nat) (z : Int) (w : World) : Prop := ∃ J B j s, Mem.Own u (L6 X x F D G R J B j j s s ++ []) w ∧ Sit area (z + 1) (z + 1) (41 * z) j s
set_option maxRecDepth 100000 in
set_option maxHeartbeats 8000000 in
theorem does_core (w : World) (n : Nat) (hn : n ≤ 255) {aL : Option Addr} {len cap : Nat} {Y : Nat → Deed} (dl : Deeds w (.slice aL len cap) aL len cap Y) :
    Calls Tryz.prog 3 #[.int .u8 (n : Int), .slice aL len cap] w fun e w' => e = .returned (.bool true) ∧ Kept w w' := by
  have H := Lib.hid dl
  have hv := heavy_c dl
  have HVY := Lib.hid hv
  clear dl hv
  obtain ⟨area, hA, hA1, hA2⟩ : ∃ area : Nat, (n : Int) % 40 + 1 = (area : Int) ∧ 1 ≤ area ∧ area ≤ 40 := ⟨n % 40 + 1, by omega, by omega, by omega⟩
  go_enter Tryz.func3, Tryz.ntmps3
  go_upto_if 11 with (go_at_call 4; (with_reducible refine HVY.out.mono ?_); rintro e u1 ⟨qv, rfl, rfl, hq⟩; have HQ := Lib.hid hq; clear hq; cases qv)
  · clear HVY
    obtain ⟨s1, hop, hsit⟩ := sit_fresh (area := area) ⟨hA1, by omega⟩
    have hnew : Calls Tryz.prog 6 #[.int .i64 (2 + 2 * (area : Int))] u1 fun e w' => ∃ x F D G R, e = .returned (.pointer (some ⟨x, 0, none⟩)) ∧ Mem.Own u1 [boxx x F D G R, rk G R (fresh (2 + 2 * area) .idle), dk F D (fresh (2 + 2 * area) .idle)] w' := by
      have h := bnew_c (Mem.Own.nil u1) (2 + 2 * area) (by omega) (by omega)
      rw [show ((2 + 2 * area : Nat) : Int) = 2 + 2 * (area : Int) by push_cast; rfl] at h
      exact h
    have HN := Lib.hid hnew
    have HO := Lib.hid (And.intro hop hsit)
    clear hop hsit hnew
    go_wp2_with (first
      | (go_at_call 6; (with_reducible refine HN.out.mono ?_); rintro e u2 ⟨x, F, D, G, R, rfl, k2'⟩; have k2 := Lib.hid (show Mem.Own u1 [boA u2.heap.size x (.pointer none) (.pointer none), boxx x F D G R, rk G R (fresh (2 + 2 * area) .idle), dk F D (fresh (2 + 2 * area) .idle)] _ from k2'.box #[.pointer (some ⟨x, 0, none⟩), .pointer none, .pointer none] 31); have c0 := (bocells k2.out 0 rfl).1.1; have cd := (bocells k2.out.drew 0 rfl).1.1; clear k2')
      | (go_at_call 7; (with_reducible refine (o_bopen k2.out HO.out.1).mono ?_); rintro e u3 ⟨J0, B0, rfl, k3'⟩; have k3 := Lib.hid (show Mid u1 u2.heap.size x F D G R area 0 u3 from ⟨J0, B0, _, _, (by rw [List.append_nil]; exact k3'), by simpa using HO.out.2⟩); clear k3' c0 cd))
    clear k2 HO HN
    generalize u2.heap.size = X at k3 ⊢
    go_loopw [7] (fun i wr => ∃ z : Nat, z ≤ len ∧ i = .int .i64 (z : Int) ∧ Mid u1 X x F D G R area (z : Int) wr) (fun i _ => len - (intOf i).toNat)
    case atStart => exact ⟨0, by omega, rfl, k3.out⟩
    case round =>
      obtain ⟨z, hz, rfl, hr⟩ := hrel
      clear k3
      have hlen := (HQ.out trivial).1
      by_cases hlt : z < len
      · have tz : decide ((z : Int) < (len : Int)) = true := by simp; omega
        obtain ⟨J, B, j, s, ho, st⟩ := hr
        have hcl : ∀ jj u, (Y z).cells[jj]? = some u → ∃ b off, aL = some ⟨b, off, none⟩ ∧ wr.cell? ⟨b, off + z * 7 + jj, none⟩ = some u := fun jj u hj => by
          obtain ⟨b, off, e, hb, hc⟩ := H.out.cell (by omega)
          exact ⟨b, off, e, (ho.kept.cell hb).trans (hc z hlt jj u hj)⟩
        have hyo := H.out.ok z hlt
        have hm40 := (HQ.out trivial).2 z hlt
        obtain ⟨y, hy⟩ : ∃ y, y = Y z := ⟨_, rfl⟩
        rw [← hy] at hcl hyo hm40
        obtain ⟨d, sd, aS, m, cS, x3, K, ⟨keep, torn, bytes⟩⟩ := y
        obtain ⟨b, off, rfl, y0⟩ := hcl 0 _ rfl
        obtain ⟨_, _, e1, y1⟩ := hcl 1 _ rfl
        cases e1
        obtain ⟨_, _, e2, y2⟩ := hcl 2 _ rfl
        cases e2
        obtain ⟨_, _, e3, y3⟩ := hcl 3 _ rfl
        cases e3
        obtain ⟨_, _, e4, y4⟩ := hcl 4 _ rfl
        cases e4
        obtain ⟨_, _, e5, y5⟩ := hcl 5 _ rfl
        cases e5
        obtain ⟨_, _, e6, y6⟩ := hcl 6 _ rfl
        cases e6
        have z0 : wr.cell? ⟨b, off + z * 7, none⟩ = some (.int .u8 (d : Int)) := y0
        have z1 : wr.cell? ⟨b, off + z * 7 + 1, none⟩ = some (.string sd) := y1
        have z2 : wr.cell? ⟨b, off + z * 7 + 2, none⟩ = some (.slice aS m cS) := y2
        have z3 : wr.cell? ⟨b, off + z * 7 + 3, none⟩ = some (.int .i64 K) := y3
        have z4 : wr.cell? ⟨b, off + z * 7 + 4, none⟩ = some (.int .u64 (keep : Int)) := y4
        have z5 : wr.cell? ⟨b, off + z * 7 + 5, none⟩ = some (.int .i64 torn) := y5
        have z6 : wr.cell? ⟨b, off + z * 7 + 6, none⟩ = some (.int .i64 bytes) := y6
        have hb7 : Mem.Own u1 (L6 X x F D G R J B j j s s ++ [boxA wr.heap.size #[.int .u8 (d : Int), .string sd, .slice aS m cS, .int .i64 K, .int .u64 (keep : Int), .int .i64 torn, .int .i64 bytes] 38]) (wr.alloc (.cells #[.int .u8 (d : Int), .string sd, .slice aS m cS, .int .i64 K, .int .u64 (keep : Int), .int .i64 torn, .int .i64 bytes] 38)) := own_pick (ho.box #[.int .u8 (d : Int), .string sd, .slice aS m cS, .int .i64 K, .int .u64 (keep : Int), .int .i64 torn, .int .i64 bytes] 38) [1, 2, 3, 4, 5, 6, 0] (by decide) rfl
        have P := Lib.hid hb7
        have HY := Lib.hid (And.intro hyo (And.intro hm40 (And.intro hlt hlen)))
        have ST := Lib.hid st
        have hd := hyo.d
        clear hcl y0 y1 y2 y3 y4 y5 y6 hy hyo hm40 ho st hb7
        go_upto_region 14 with fail
        clear z0 z1 z2 z3 z4 z5 z6
        generalize wr.alloc (.cells #[.int .u8 (d : Int), .string sd, .slice aS m cS, .int .i64 K, .int .u64 (keep : Int), .int .i64 torn, .int .i64 bytes] 38) = V at P ⊢
        generalize wr.heap.size = BD at P ⊢
        have hcd := fun W (hW : Mem.Own u1 (L6 X x F D G R J B j j s s ++ [boxA BD #[.int .u8 (d : Int), .string sd, .slice aS m cS, .int .i64 K, .int .u64 (keep : Int), .int .i64 torn, .int .i64 bytes] 38]) W) => deed_cells hW
        rcases (show (d : Int) % 5 = 0 ∨ (d : Int) % 5 = 1 ∨ (d : Int) % 5 = 2 ∨ (d : Int) % 5 = 3 ∨ (d : Int) % 5 = 4 by omega) with hd5 | hd5 | hd5 | hd5 | hd5
        · -- a record
          obtain ⟨E, j', s', he, st'⟩ := ST.out.append (show area ≤ 32000 by omega) (by omega) (by omega) (by omega) sd
          have hA1 : ∀ W, Mem.Own u1 (L6 X x F D G R J B j j s s ++ [boxA BD #[.int .u8 (d : Int), .string sd, .slice aS m cS, .int .i64 K, .int .u64 (keep : Int), .int .i64 torn, .int .i64 bytes] 38]) W → Calls Tryz.prog 8 #[.pointer (some ⟨J, 0, none⟩), .string sd] W fun e w' => e = .returned (.int .i64 E) ∧ Mem.Own u1 (L6 X x F D G R J B j' j s' s ++ [boxA BD #[.int .u8 (d : Int), .string sd, .slice aS m cS, .int .i64 K, .int .u64 (keep : Int), .int .i64 torn, .int .i64 bytes] 38]) w' := fun W hW => x_app hW (ST.out.jok.less (by decide)) sd HY.out.1.s he
          have hB1 : ∀ W, Mem.Own u1 (L6 X x F D G R J B j' j s' s ++ [boxA BD #[.int .u8 (d : Int), .string sd, .slice aS m cS, .int .i64 K, .int .u64 (keep : Int), .int .i64 torn, .int .i64 bytes] 38]) W → Calls Tryz.prog 9 #[.pointer (some ⟨B, 0, none⟩), .string sd] W fun e w' => e = .returned (.int .i64 E) ∧ Mem.Own u1 (L6 X x F D G R J B j' j' s' s' ++ [boxA BD #[.int .u8 (d : Int), .string sd, .slice aS m cS, .int .i64 K, .int .u64 (keep : Int), .int .i64 torn, .int .i64 bytes] 38]) w' := fun W hW => x_rapp hW (ST.out.jok.less (by decide)) (by rw [ST.out.n, ST.out.ar]) sd HY.out.1.s he
          have hE : (E != E) = false := by simp
          have st2 := st'.mono (show (z : Int) + 1 ≤ (z : Int) + 1 + 1 by omega) (Int.le_refl _) (show 41 * (z : Int) + 41 ≤ 41 * ((z : Int) + 1) by omega)
          have HT := Lib.hid (And.intro hA1 (And.intro hB1 st2))
          have S1 := hcd _ P.out
          have S2 := hcd _ P.out.drew
          clear he st' hA1 hB1 st2 hcd
          go_upto_region 15 with fail
          go_region_held3 (fun W => (W.cell? ⟨X, 0, none⟩ = some (.pointer (some ⟨x, 0, none⟩)) ∧ W.cell? ⟨X, 1, none⟩ = some (.pointer (some ⟨J, 0, none⟩)) ∧ W.cell? ⟨X, 2, none⟩ = some (.pointer (some ⟨B, 0, none⟩)) ∧ W.cell? ⟨x, 1, none⟩ = some (.pointer (some ⟨D, 0, none⟩)) ∧ W.cell? ⟨x, 3, none⟩ = some (.pointer (some ⟨R, 0, none⟩))) ∧ W.cell? ⟨BD, 0, none⟩ = some (.int .u8 (d : Int)) ∧ W.cell? ⟨BD, 1, none⟩ = some (.string sd) ∧ W.cell? ⟨BD, 2, none⟩ = some (.slice aS m cS) ∧ W.cell? ⟨BD, 3, none⟩ = some (.int .i64 K) ∧ W.cell? ⟨BD, 4, none⟩ = some (.int .u64 (keep : Int)) ∧ W.cell? ⟨BD, 5, none⟩ = some (.int .i64 torn) ∧ W.cell? ⟨BD, 6, none⟩ = some (.int .i64 bytes))
            (first | with_reducible assumption)
            (first
              | (go_at_call 8; (with_reducible refine (HT.out.1 _ P.out.drew).mono ?_); rintro e u4 ⟨rfl, k4'⟩; have S3 := deed_cells k4'; have k4 := Lib.hid k4'; clear k4')
              | (go_at_call 9; (with_reducible refine (HT.out.2.1 _ k4.out).mono ?_); rintro e u5 ⟨rfl, k5'⟩; have S4 := deed_cells k5'; have k5 := Lib.hid k5'; clear k5'))
          all_goals
            have hmid : Mid u1 X x F D G R area ((z : Int) + 1) _ := ⟨J, B, j', s', own_pick k5.out [0, 1, 2, 3, 4, 5] (by decide) rfl, HT.out.2.2⟩
            clear S1 S2 P ST HY
            obtain ⟨J9, B9, j9, s9, ho, st⟩ := hmid
            have S1 := x_cells ho
            have S2 := x_cells ho.drew
            have P := Lib.hid ho
            have ST := Lib.hid st
            clear ho st
            go_upto_region 28 with fail
            go_region_held3 (fun W => W.cell? ⟨X, 0, none⟩ = some (.pointer (some ⟨x, 0, none⟩)) ∧ W.cell? ⟨X, 1, none⟩ = some (.pointer (some ⟨J9, 0, none⟩)) ∧ W.cell? ⟨X, 2, none⟩ = some (.pointer (some ⟨B9, 0, none⟩)) ∧ W.cell? ⟨x, 1, none⟩ = some (.pointer (some ⟨D, 0, none⟩)) ∧ W.cell? ⟨x, 3, none⟩ = some (.pointer (some ⟨R, 0, none⟩)))
              (first | with_reducible assumption)
              (first
                | (go_at_call 17; (with_reducible refine (x_same P.out.drew ST.out.jok.area ST.out.jok.used).mono ?_); rintro e v1 ⟨rfl, m1'⟩; have S3 := x_cells m1'; have m1 := Lib.hid m1'; clear m1')
                | (go_at_call 19; (with_reducible refine (x_pend m1.out (Nat.lt_trans ST.out.room (by decide))).mono ?_); rintro e v2 ⟨⟨a1, cp1, rfl, i1'⟩, m2'⟩; have S4 := x_cells m2'; have i1 := Lib.hid i1'; have m2 := Lib.hid m2'; clear m2' i1')
                | (go_at_call 20; (with_reducible refine (x_rpend2 m2.out i1.out (Nat.lt_trans ST.out.room (by decide))).mono ?_); rintro e v3 ⟨⟨a2, cp2, rfl, i2', i3'⟩, m3'⟩; have S5 := x_cells m3'; have i2 := Lib.hid (And.intro i2' i3'); have m3 := Lib.hid m3'; clear m3' i2' i3')
                | (go_at_call 18; (with_reducible refine (ints_c _ _ (s9.pend.map (·.1)) _ _ _ _ _ (by simp) (Nat.lt_trans ST.out.room (by decide)) _ i2.out.1 i2.out.2).mono ?_); rintro e v4 ⟨rfl, q4⟩; have S6 := x_cells (m3.out.later q4); have m4 := Lib.hid (m3.out.later q4); clear q4))
            all_goals
              go_wp2_with fail
              go_roundw
              case rel => exact ⟨z + 1, by omega, by go_num, _, _, _, _, m4.out, ST.out⟩
              case measure => simp [intOf]; omega
        · -- a snapshot
          obtain ⟨E, j', s', he, st'⟩ := ST.out.compact (show area ≤ 32000 by omega) (by omega) (by omega) (by omega) x3 m HY.out.2.1
          have hm40 : m ≤ 40 := HY.out.2.1
          have hcp : ∀ W, Mem.Own u1 (L6 X x F D G R J B j j s s ++ [boxA BD #[.int .u8 (d : Int), .string sd, .slice aS m cS, .int .i64 K, .int .u64 (keep : Int), .int .i64 torn, .int .i64 bytes] 38]) W → Calls Tryz.prog 10 #[.slice aS m cS] W fun e w' => ∃ a2 c2, e = .returned (.slice a2 m c2) ∧ Mem.Own u1 (L6 X x F D G R J B j j s s ++ [boxA BD #[.int .u8 (d : Int), .string sd, .slice aS m cS, .int .i64 K, .int .u64 (keep : Int), .int .i64 torn, .int .i64 bytes] 38, secA (.slice a2 m c2) m x3]) w' := fun W hW => by
            refine (o_copys (M := L6 X x F D G R J B j j s s ++ [boxA BD #[.int .u8 (d : Int), .string sd, .slice aS m cS, .int .i64 K, .int .u64 (keep : Int), .int .i64 torn, .int .i64 bytes] 38]) (A := []) (by rw [List.append_nil]; exact hW) (Sees.base HY.out.1.row HY.out.1.nil) (by show m < _; omega)).mono ?_
            rintro e w' ⟨v', rfl, hw⟩
            obtain ⟨a2, c2, rfl⟩ := own_slice hw 0 rfl
            exact ⟨a2, c2, rfl, own_pick hw [1, 2, 3, 4, 5, 6, 7, 0] (by decide) rfl⟩
          have hA1 : ∀ a2 c2 W, Mem.Own u1 (L6 X x F D G R J B j j s s ++ [boxA BD #[.int .u8 (d : Int), .string sd, .slice aS m cS, .int .i64 K, .int .u64 (keep : Int), .int .i64 torn, .int .i64 bytes] 38, secA (.slice a2 m c2) m x3]) W → Calls Tryz.prog 11 #[.pointer (some ⟨J, 0, none⟩), .slice a2 m c2] W fun e w' => e = .returned (.int .i64 E) ∧ Mem.Own u1 (L6 X x F D G R J B j' j s' s ++ [boxA BD #[.int .u8 (d : Int), .string sd, .slice aS m cS, .int .i64 K, .int .u64 (keep : Int), .int .i64 torn, .int .i64 bytes] 38, secA (.slice a2 m c2) m x3]) w' := fun a2 c2 W hW => x_com hW a2 c2 m x3 (by omega) (ST.out.jok.less (by omega)) HY.out.1.le (wide (own_strs hW 7 rfl)) he
          have hB1 : ∀ a2 c2 W, Mem.Own u1 (L6 X x F D G R J B j' j s' s ++ [boxA BD #[.int .u8 (d : Int), .string sd, .slice aS m cS, .int .i64 K, .int .u64 (keep : Int), .int .i64 torn, .int .i64 bytes] 38, secA (.slice a2 m c2) m x3]) W → Calls Tryz.prog 12 #[.pointer (some ⟨B, 0, none⟩), .slice aS m cS] W fun e w' => e = .returned (.int .i64 E) ∧ Mem.Own u1 (L6 X x F D G R J B j' j' s' s' ++ [boxA BD #[.int .u8 (d : Int), .string sd, .slice aS m cS, .int .i64 K, .int .u64 (keep : Int), .int .i64 torn, .int .i64 bytes] 38, secA (.slice a2 m c2) m x3]) w' := fun a2 c2 W hW => x_rcom hW aS cS m x3 (by omega) (ST.out.jok.less (by omega)) (ST.out.next m hm40) (by rw [ST.out.n, ST.out.ar]) HY.out.1.le HY.out.1.row he
          have hQ1 : ∀ a2 c2 W, Mem.Own u1 (L6 X x F D G R J B j' j' s' s' ++ [boxA BD #[.int .u8 (d : Int), .string sd, .slice aS m cS, .int .i64 K, .int .u64 (keep : Int), .int .i64 torn, .int .i64 bytes] 38, secA (.slice a2 m c2) m x3]) W → Calls Tryz.prog 13 #[.slice a2 m c2, .slice aS m cS] W fun e w' => e = .returned (.bool true) ∧ Mem.Own u1 (L6 X x F D G R J B j' j' s' s' ++ [boxA BD #[.int .u8 (d : Int), .string sd, .slice aS m cS, .int .i64 K, .int .u64 (keep : Int), .int .i64 torn, .int .i64 bytes] 38, secA (.slice a2 m c2) m x3]) w' := fun a2 c2 W hW => by
            have h1 := equalsb_c a2 aS m m c2 cS x3 x3 (by omega) (by omega) W (wide (own_strs hW 7 rfl)) ((show SAo u1 aS m x3 from HY.out.1.row).kept hW.kept)
            rw [eqS_iff.2 ⟨rfl, fun i _ => rfl⟩] at h1
            exact h1.mono fun e w' ⟨he, hk⟩ => ⟨he, hW.later hk⟩
          have hE : (E != E) = false := by simp
          have st2 := st'.mono (show (z : Int) + 1 ≤ (z : Int) + 1 + 1 by omega) (Int.le_refl _) (show 41 * (z : Int) + 41 ≤ 41 * ((z : Int) + 1) by omega)
          have HT := Lib.hid (And.intro hA1 (And.intro hB1 (And.intro hQ1 st2)))
          have HCP := Lib.hid (hcp _ P.out)
          have S0 := hcd _ P.out
          clear he st' hA1 hB1 hQ1 st2 hcp hcd hm40
          go_upto_region 19 with (go_at_call 10; (with_reducible refine HCP.out.mono ?_); rintro e u3 ⟨a2, c2, rfl, k3'⟩; have S1 := deed_cells k3'; have S2 := deed_cells k3'.drew; have k3 := Lib.hid k3'; clear k3')
          go_region_held3 (fun W => (W.cell? ⟨X, 0, none⟩ = some (.pointer (some ⟨x, 0, none⟩)) ∧ W.cell? ⟨X, 1, none⟩ = some (.pointer (some ⟨J, 0, none⟩)) ∧ W.cell? ⟨X, 2, none⟩ = some (.pointer (some ⟨B, 0, none⟩)) ∧ W.cell? ⟨x, 1, none⟩ = some (.pointer (some ⟨D, 0, none⟩)) ∧ W.cell? ⟨x, 3, none⟩ = some (.pointer (some ⟨R, 0, none⟩))) ∧ W.cell? ⟨BD, 0, none⟩ = some (.int .u8 (d : Int)) ∧ W.cell? ⟨BD, 1, none⟩ = some (.string sd) ∧ W.cell? ⟨BD, 2, none⟩ = some (.slice aS m cS) ∧ W.cell? ⟨BD, 3, none⟩ = some (.int .i64 K) ∧ W.cell? ⟨BD, 4, none⟩ = some (.int .u64 (keep : Int)) ∧ W.cell? ⟨BD, 5, none⟩ = some (.int .i64 torn) ∧ W.cell? ⟨BD, 6, none⟩ = some (.int .i64 bytes))
            (first | with_reducible assumption)
            (first
              | (go_at_call 11; (with_reducible refine (HT.out.1 _ _ _ k3.out.drew).mono ?_); rintro e u4 ⟨rfl, k4'⟩; have S3 := deed_cells k4'; have k4 := Lib.hid k4'; clear k4')
              | (go_at_call 12; (with_reducible refine (HT.out.2.1 _ _ _ k4.out).mono ?_); rintro e u5 ⟨rfl, k5'⟩; have S4 := deed_cells k5'; have k5 := Lib.hid k5'; clear k5')
              | (go_at_call 13; (with_reducible refine (HT.out.2.2.1 _ _ _ k5.out).mono ?_); rintro e u6 ⟨rfl, k6'⟩; have S5 := deed_cells k6'; have k6 := Lib.hid k6'; clear k6'))
          all_goals
            have hmid : Mid u1 X x F D G R area ((z : Int) + 1) _ := ⟨J, B, j', s', own_pick k6.out [0, 1, 2, 3, 4, 5] (by decide) rfl, HT.out.2.2.2⟩
            clear S1 S2 P ST HY
            obtain ⟨J9, B9, j9, s9, ho, st⟩ := hmid
            have S1 := x_cells ho
            have S2 := x_cells ho.drew
            have P := Lib.hid ho
            have ST := Lib.hid st
            clear ho st
            go_upto_region 28 with fail
            go_region_held3 (fun W => W.cell? ⟨X, 0, none⟩ = some (.pointer (some ⟨x, 0, none⟩)) ∧ W.cell? ⟨X, 1, none⟩ = some (.pointer (some ⟨J9, 0, none⟩)) ∧ W.cell? ⟨X, 2, none⟩ = some (.pointer (some ⟨B9, 0, none⟩)) ∧ W.cell? ⟨x, 1, none⟩ = some (.pointer (some ⟨D, 0, none⟩)) ∧ W.cell? ⟨x, 3, none⟩ = some (.pointer (some ⟨R, 0, none⟩)))
              (first | with_reducible assumption)
              (first
                | (go_at_call 17; (with_reducible refine (x_same P.out.drew ST.out.jok.area ST.out.jok.used).mono ?_); rintro e v1 ⟨rfl, m1'⟩; have S3 := x_cells m1'; have m1 := Lib.hid m1'; clear m1')
                | (go_at_call 19; (with_reducible refine (x_pend m1.out (Nat.lt_trans ST.out.room (by decide))).mono ?_); rintro e v2 ⟨⟨a1, cp1, rfl, i1'⟩, m2'⟩; have S4 := x_cells m2'; have i1 := Lib.hid i1'; have m2 := Lib.hid m2'; clear m2' i1')
                | (go_at_call 20; (with_reducible refine (x_rpend2 m2.out i1.out (Nat.lt_trans ST.out.room (by decide))).mono ?_); rintro e v3 ⟨⟨a2, cp2, rfl, i2', i3'⟩, m3'⟩; have S5 := x_cells m3'; have i2 := Lib.hid (And.intro i2' i3'); have m3 := Lib.hid m3'; clear m3' i2' i3')
                | (go_at_call 18; (with_reducible refine (ints_c _ _ (s9.pend.map (·.1)) _ _ _ _ _ (by simp) (Nat.lt_trans ST.out.room (by decide)) _ i2.out.1 i2.out.2).mono ?_); rintro e v4 ⟨rfl, q4⟩; have S6 := x_cells (m3.out.later q4); have m4 := Lib.hid (m3.out.later q4); clear q4))
            all_goals
              go_wp2_with fail
              go_roundw
              case rel => exact ⟨z + 1, by omega, by go_num, _, _, _, _, m4.out, ST.out⟩
              case measure => simp [intOf]; omega
        · -- the fuse
          have hK : K < 9223372036854775808 := by have := HY.out.1.k; simp only at this; omega
          obtain ⟨t, ht⟩ : ∃ t : Ds, t = { s with fu := s.fu.arm K } := ⟨_, rfl⟩
          have hA1 : ∀ W, Mem.Own u1 (L6 X x F D G R J B j j s s ++ [boxA BD #[.int .u8 (d : Int), .string sd, .slice aS m cS, .int .i64 K, .int .u64 (keep : Int), .int .i64 torn, .int .i64 bytes] 38]) W → Calls Tryz.prog 14 #[.pointer (some ⟨x, 0, none⟩), .int .i64 K] W fun e w' => e = .returned (.bool true) ∧ Mem.Own u1 (L6 X x F D G R J B j j t t ++ [boxA BD #[.int .u8 (d : Int), .string sd, .slice aS m cS, .int .i64 K, .int .u64 (keep : Int), .int .i64 torn, .int .i64 bytes] 38]) w' := fun W hW => by
            rw [ht]; exact x_arm hW K hK
          have st2 : Sit area ((z : Int) + 1 + 1) ((z : Int) + 1 + 1) (41 * ((z : Int) + 1)) j t := by rw [ht]; exact (ST.out.arm K).mono (by omega) (by omega) (by omega)
          have HT := Lib.hid (And.intro hA1 st2)
          have S1 := hcd _ P.out
          have S2 := hcd _ P.out.drew
          clear hA1 st2 ht hcd hK
          go_upto_region 22 with fail
          go_region_held3 (fun W => (W.cell? ⟨X, 0, none⟩ = some (.pointer (some ⟨x, 0, none⟩)) ∧ W.cell? ⟨X, 1, none⟩ = some (.pointer (some ⟨J, 0, none⟩)) ∧ W.cell? ⟨X, 2, none⟩ = some (.pointer (some ⟨B, 0, none⟩)) ∧ W.cell? ⟨x, 1, none⟩ = some (.pointer (some ⟨D, 0, none⟩)) ∧ W.cell? ⟨x, 3, none⟩ = some (.pointer (some ⟨R, 0, none⟩))) ∧ W.cell? ⟨BD, 0, none⟩ = some (.int .u8 (d : Int)) ∧ W.cell? ⟨BD, 1, none⟩ = some (.string sd) ∧ W.cell? ⟨BD, 2, none⟩ = some (.slice aS m cS) ∧ W.cell? ⟨BD, 3, none⟩ = some (.int .i64 K) ∧ W.cell? ⟨BD, 4, none⟩ = some (.int .u64 (keep : Int)) ∧ W.cell? ⟨BD, 5, none⟩ = some (.int .i64 torn) ∧ W.cell? ⟨BD, 6, none⟩ = some (.int .i64 bytes))
            (first | with_reducible assumption)
            (first
              | (go_at_call 14; (with_reducible refine (HT.out.1 _ P.out.drew).mono ?_); rintro e u4 ⟨rfl, k4'⟩; have S3 := deed_cells k4'; have k4 := Lib.hid k4'; clear k4'))
          all_goals
            have hmid : Mid u1 X x F D G R area ((z : Int) + 1) _ := ⟨J, B, j, t, own_pick k4.out [0, 1, 2, 3, 4, 5] (by decide) rfl, HT.out.2⟩
            clear S1 S2 P ST HY
            obtain ⟨J9, B9, j9, s9, ho, st⟩ := hmid
            have S1 := x_cells ho
            have S2 := x_cells ho.drew
            have P := Lib.hid ho
            have ST := Lib.hid st
            clear ho st
            go_upto_region 28 with fail
            go_region_held3 (fun W => W.cell? ⟨X, 0, none⟩ = some (.pointer (some ⟨x, 0, none⟩)) ∧ W.cell? ⟨X, 1, none⟩ = some (.pointer (some ⟨J9, 0, none⟩)) ∧ W.cell? ⟨X, 2, none⟩ = some (.pointer (some ⟨B9, 0, none⟩)) ∧ W.cell? ⟨x, 1, none⟩ = some (.pointer (some ⟨D, 0, none⟩)) ∧ W.cell? ⟨x, 3, none⟩ = some (.pointer (some ⟨R, 0, none⟩)))
              (first | with_reducible assumption)
              (first
                | (go_at_call 17; (with_reducible refine (x_same P.out.drew ST.out.jok.area ST.out.jok.used).mono ?_); rintro e v1 ⟨rfl, m1'⟩; have S3 := x_cells m1'; have m1 := Lib.hid m1'; clear m1')
                | (go_at_call 19; (with_reducible refine (x_pend m1.out (Nat.lt_trans ST.out.room (by decide))).mono ?_); rintro e v2 ⟨⟨a1, cp1, rfl, i1'⟩, m2'⟩; have S4 := x_cells m2'; have i1 := Lib.hid i1'; have m2 := Lib.hid m2'; clear m2' i1')
                | (go_at_call 20; (with_reducible refine (x_rpend2 m2.out i1.out (Nat.lt_trans ST.out.room (by decide))).mono ?_); rintro e v3 ⟨⟨a2, cp2, rfl, i2', i3'⟩, m3'⟩; have S5 := x_cells m3'; have i2 := Lib.hid (And.intro i2' i3'); have m3 := Lib.hid m3'; clear m3' i2' i3')
                | (go_at_call 18; (with_reducible refine (ints_c _ _ (s9.pend.map (·.1)) _ _ _ _ _ (by simp) (Nat.lt_trans ST.out.room (by decide)) _ i2.out.1 i2.out.2).mono ?_); rintro e v4 ⟨rfl, q4⟩; have S6 := x_cells (m3.out.later q4); have m4 := Lib.hid (m3.out.later q4); clear q4))
            all_goals
              go_wp2_with fail
              go_roundw
              case rel => exact ⟨z + 1, by omega, by go_num, _, _, _, _, m4.out, ST.out⟩
              case measure => simp [intOf]; omega
        · -- a crash
          obtain ⟨c, Rl, s1, hop, st'⟩ := ST.out.crash (f := (⟨keep, torn, bytes⟩ : Ch).left) ⟨hA1, by omega⟩ (by omega) (by omega) (by omega) (Ch.left_le _)
          obtain ⟨t, ht⟩ : ∃ t : Ds, t = { s.settled (⟨keep, torn, bytes⟩ : Ch).left with fu := .idle } := ⟨_, rfl⟩
          rw [← ht] at hop
          have hA1 : ∀ W, Mem.Own u1 (L6 X x F D G R J B j j s s ++ [boxA BD #[.int .u8 (d : Int), .string sd, .slice aS m cS, .int .i64 K, .int .u64 (keep : Int), .int .i64 torn, .int .i64 bytes] 38]) W → Calls Tryz.prog 15 #[.pointer (some ⟨x, 0, none⟩), .agg #[.int .u64 (keep : Int), .int .i64 torn, .int .i64 bytes]] W fun e w' => e = .returned (.tuple #[]) ∧ Mem.Own u1 (L6 X x F D G R J B j j t t ++ [boxA BD #[.int .u8 (d : Int), .string sd, .slice aS m cS, .int .i64 K, .int .u64 (keep : Int), .int .i64 torn, .int .i64 bytes] 38]) w' := fun W hW => by
            rw [ht]; exact x_crash hW (c := ⟨keep, torn, bytes⟩) HY.out.1.c
          have st2 := st'.mono (Int.le_refl _) (Int.le_refl _) (show 41 * (z : Int) ≤ 41 * ((z : Int) + 1) by omega)
          have HT := Lib.hid (And.intro hA1 (And.intro hop st2))
          have S1 := hcd _ P.out
          have S2 := hcd _ P.out.drew
          clear hA1 st2 st' hop ht hcd
          go_upto_region 25 with fail
          go_region_held3 (fun W => (W.cell? ⟨X, 0, none⟩ = some (.pointer (some ⟨x, 0, none⟩)) ∧ W.cell? ⟨X, 1, none⟩ = some (.pointer (some ⟨J, 0, none⟩)) ∧ W.cell? ⟨X, 2, none⟩ = some (.pointer (some ⟨B, 0, none⟩)) ∧ W.cell? ⟨x, 1, none⟩ = some (.pointer (some ⟨D, 0, none⟩)) ∧ W.cell? ⟨x, 3, none⟩ = some (.pointer (some ⟨R, 0, none⟩))) ∧ W.cell? ⟨BD, 0, none⟩ = some (.int .u8 (d : Int)) ∧ W.cell? ⟨BD, 1, none⟩ = some (.string sd) ∧ W.cell? ⟨BD, 2, none⟩ = some (.slice aS m cS) ∧ W.cell? ⟨BD, 3, none⟩ = some (.int .i64 K) ∧ W.cell? ⟨BD, 4, none⟩ = some (.int .u64 (keep : Int)) ∧ W.cell? ⟨BD, 5, none⟩ = some (.int .i64 torn) ∧ W.cell? ⟨BD, 6, none⟩ = some (.int .i64 bytes))
            (first | with_reducible assumption)
            (first
              | (go_at_call 15; (with_reducible refine (HT.out.1 _ P.out.drew).mono ?_); rintro e u4 ⟨rfl, k4'⟩; have S3 := deed_cells k4'; have k4 := Lib.hid k4'; clear k4'))
          all_goals
            go_upto_region 28 with (go_at_call 7; (with_reducible refine (x_open k4.out HT.out.2.1).mono ?_); rintro e u5 ⟨J2, B2, rfl, k5'⟩; have k5 := Lib.hid k5'; clear k5')
            have hmid : Mid u1 X x F D G R area ((z : Int) + 1) _ := ⟨J2, B2, _, s1, k5.out, HT.out.2.2⟩
            clear S1 S2 P ST HY
            obtain ⟨J9, B9, j9, s9, ho, st⟩ := hmid
            have S1 := x_cells ho
            have S2 := x_cells ho.drew
            have P := Lib.hid ho
            have ST := Lib.hid st
            clear ho st
            go_upto_region 28 with fail
            go_region_held3 (fun W => W.cell? ⟨X, 0, none⟩ = some (.pointer (some ⟨x, 0, none⟩)) ∧ W.cell? ⟨X, 1, none⟩ = some (.pointer (some ⟨J9, 0, none⟩)) ∧ W.cell? ⟨X, 2, none⟩ = some (.pointer (some ⟨B9, 0, none⟩)) ∧ W.cell? ⟨x, 1, none⟩ = some (.pointer (some ⟨D, 0, none⟩)) ∧ W.cell? ⟨x, 3, none⟩ = some (.pointer (some ⟨R, 0, none⟩)))
              (first | with_reducible assumption)
              (first
                | (go_at_call 17; (with_reducible refine (x_same P.out.drew ST.out.jok.area ST.out.jok.used).mono ?_); rintro e v1 ⟨rfl, m1'⟩; have S3 := x_cells m1'; have m1 := Lib.hid m1'; clear m1')
                | (go_at_call 19; (with_reducible refine (x_pend m1.out (Nat.lt_trans ST.out.room (by decide))).mono ?_); rintro e v2 ⟨⟨a1, cp1, rfl, i1'⟩, m2'⟩; have S4 := x_cells m2'; have i1 := Lib.hid i1'; have m2 := Lib.hid m2'; clear m2' i1')
                | (go_at_call 20; (with_reducible refine (x_rpend2 m2.out i1.out (Nat.lt_trans ST.out.room (by decide))).mono ?_); rintro e v3 ⟨⟨a2, cp2, rfl, i2', i3'⟩, m3'⟩; have S5 := x_cells m3'; have i2 := Lib.hid (And.intro i2' i3'); have m3 := Lib.hid m3'; clear m3' i2' i3')
                | (go_at_call 18; (with_reducible refine (ints_c _ _ (s9.pend.map (·.1)) _ _ _ _ _ (by simp) (Nat.lt_trans ST.out.room (by decide)) _ i2.out.1 i2.out.2).mono ?_); rintro e v4 ⟨rfl, q4⟩; have S6 := x_cells (m3.out.later q4); have m4 := Lib.hid (m3.out.later q4); clear q4))
            all_goals
              go_wp2_with fail
              go_roundw
              case rel => exact ⟨z + 1, by omega, by go_num, _, _, _, _, m4.out, ST.out⟩
              case measure => simp [intOf]; omega
        · -- the mark
          obtain ⟨r2, hr2⟩ : ∃ r2, K.tmod 2 = r2 := ⟨_, rfl⟩
          obtain ⟨q, hq⟩ : ∃ q : Bool, q = (r2 != 0) := ⟨_, rfl⟩
          have hq' : (r2 != 0) = q := hq.symm
          clear hq
          have hA1 : ∀ W, Mem.Own u1 (L6 X x F D G R J B j j s s ++ [boxA BD #[.int .u8 (d : Int), .string sd, .slice aS m cS, .int .i64 K, .int .u64 (keep : Int), .int .i64 torn, .int .i64 bytes] 38]) W → Calls Tryz.prog 16 #[.pointer (some ⟨D, 0, none⟩), .bool q] W fun e w' => e = .returned (.tuple #[]) ∧ Mem.Own u1 (L6 X x F D G R J B j j { s with full := q } s ++ [boxA BD #[.int .u8 (d : Int), .string sd, .slice aS m cS, .int .i64 K, .int .u64 (keep : Int), .int .i64 torn, .int .i64 bytes] 38]) w' := fun W hW => x_full hW q
          have st2 : Sit area ((z : Int) + 1 + 1) ((z : Int) + 1 + 1) (41 * ((z : Int) + 1)) j { s with full := q } := (ST.out.mark q).mono (by omega) (by omega) (by omega)
          have HT := Lib.hid (And.intro hA1 st2)
          have S1 := hcd _ P.out
          have S2 := hcd _ P.out.drew
          clear hA1 st2 hcd
          go_upto_region 12 with fail
          go_region_held3 (fun W => (W.cell? ⟨X, 0, none⟩ = some (.pointer (some ⟨x, 0, none⟩)) ∧ W.cell? ⟨X, 1, none⟩ = some (.pointer (some ⟨J, 0, none⟩)) ∧ W.cell? ⟨X, 2, none⟩ = some (.pointer (some ⟨B, 0, none⟩)) ∧ W.cell? ⟨x, 1, none⟩ = some (.pointer (some ⟨D, 0, none⟩)) ∧ W.cell? ⟨x, 3, none⟩ = some (.pointer (some ⟨R, 0, none⟩))) ∧ W.cell? ⟨BD, 0, none⟩ = some (.int .u8 (d : Int)) ∧ W.cell? ⟨BD, 1, none⟩ = some (.string sd) ∧ W.cell? ⟨BD, 2, none⟩ = some (.slice aS m cS) ∧ W.cell? ⟨BD, 3, none⟩ = some (.int .i64 K) ∧ W.cell? ⟨BD, 4, none⟩ = some (.int .u64 (keep : Int)) ∧ W.cell? ⟨BD, 5, none⟩ = some (.int .i64 torn) ∧ W.cell? ⟨BD, 6, none⟩ = some (.int .i64 bytes))
            (first | with_reducible assumption)
            (first
              | (go_at_call 16; (with_reducible refine (HT.out.1 _ P.out.drew).mono ?_); rintro e u4 ⟨rfl, k4'⟩; have S3 := deed_cells k4'; have k4 := Lib.hid k4'; clear k4'))
          all_goals
            clear S1 S2
            obtain ⟨⟨a0, a1, a2, a3, a4⟩, b0, b1, b2, b3, b4, b5, b6⟩ := deed_cells k4.out
            obtain ⟨f0, f1⟩ := x_rcells k4.out
            go_upto_region 13 with fail
            go_region
            all_goals
              have hmid : Mid u1 X x F D G R area ((z : Int) + 1) _ := ⟨J, B, j, { s with full := q }, own_pick (x_rfull k4.out q).drew [0, 1, 2, 3, 4, 5] (by decide) rfl, HT.out.2⟩
              clear P ST HY
              obtain ⟨J9, B9, j9, s9, ho, st⟩ := hmid
              have S1 := x_cells ho
              have S2 := x_cells ho.drew
              have P := Lib.hid ho
              have ST := Lib.hid st
              clear ho st
              go_upto_region 28 with fail
              go_region_held3 (fun W => W.cell? ⟨X, 0, none⟩ = some (.pointer (some ⟨x, 0, none⟩)) ∧ W.cell? ⟨X, 1, none⟩ = some (.pointer (some ⟨J9, 0, none⟩)) ∧ W.cell? ⟨X, 2, none⟩ = some (.pointer (some ⟨B9, 0, none⟩)) ∧ W.cell? ⟨x, 1, none⟩ = some (.pointer (some ⟨D, 0, none⟩)) ∧ W.cell? ⟨x, 3, none⟩ = some (.pointer (some ⟨R, 0, none⟩)))
                (first | with_reducible assumption)
                (first
                  | (go_at_call 17; (with_reducible refine (x_same P.out.drew ST.out.jok.area ST.out.jok.used).mono ?_); rintro e v1 ⟨rfl, m1'⟩; have S3 := x_cells m1'; have m1 := Lib.hid m1'; clear m1')
                  | (go_at_call 19; (with_reducible refine (x_pend m1.out (Nat.lt_trans ST.out.room (by decide))).mono ?_); rintro e v2 ⟨⟨a1, cp1, rfl, i1'⟩, m2'⟩; have S4 := x_cells m2'; have i1 := Lib.hid i1'; have m2 := Lib.hid m2'; clear m2' i1')
                  | (go_at_call 20; (with_reducible refine (x_rpend2 m2.out i1.out (Nat.lt_trans ST.out.room (by decide))).mono ?_); rintro e v3 ⟨⟨a2, cp2, rfl, i2', i3'⟩, m3'⟩; have S5 := x_cells m3'; have i2 := Lib.hid (And.intro i2' i3'); have m3 := Lib.hid m3'; clear m3' i2' i3')
                  | (go_at_call 18; (with_reducible refine (ints_c _ _ (s9.pend.map (·.1)) _ _ _ _ _ (by simp) (Nat.lt_trans ST.out.room (by decide)) _ i2.out.1 i2.out.2).mono ?_); rintro e v4 ⟨rfl, q4⟩; have S6 := x_cells (m3.out.later q4); have m4 := Lib.hid (m3.out.later q4); clear q4))
              all_goals
                go_wp2_with fail
                go_roundw
                case rel => exact ⟨z + 1, by omega, by go_num, _, _, _, _, m4.out, ST.out⟩
                case measure => simp [intOf]; omega
      · obtain ⟨J, B, j, s, ho, st⟩ := hr
        have S1 := x_cells ho
        have P := Lib.hid ho
        have ST := Lib.hid st
        clear ho st
        go_wp2_with (first
          | (go_at_call 21; (with_reducible refine (x_bsame P.out (Nat.lt_trans ST.out.room (by decide))).mono ?_); rintro e v1 ⟨rfl, k1⟩)
          | (go_at_call 5; (with_reducible refine (Jk.known_c _).mono ?_); rintro e v2 ⟨rfl, k2⟩))
        go_ret
        exact ⟨rfl, k1.trans k2⟩
  · go_wp2_with (go_at_call 5; (with_reducible refine (Jk.known_c _).mono ?_); rintro e u10 ⟨rfl, k10⟩)
    go_ret
    exact ⟨rfl, k10⟩
end Go.Proofs.YtckbhjjflpobbaaGreat.Jk
