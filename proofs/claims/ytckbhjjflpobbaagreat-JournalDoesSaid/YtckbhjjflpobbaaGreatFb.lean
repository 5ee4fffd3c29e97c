/-
  string(make([]byte, n)): n bytes 0.
  Frames and their sectors, as plain mathematics: nothing here speaks of the program.
  Torn sectors: what is read of them.
  What the calls of package frame do that write a sector.
  What the calls of package frame do that write a sector: sector, Encode.
  What the calls of package frame do that read a sector: the cursor.
  What the calls of package frame do that read a sector: fields.
  What the calls of package frame do that read a sector: Decode.
  What the laws of layer 5 share: two frames compared; the fixed frame.
  Arguments opened: frames.
-/
import Derived.Test.YtckbhjjflpobbaaGreatBa
import Derived.Test.YtckbhjjflpobbaaGreatPb
import Derived.Laws.MakeOwn
import Derived.Deep.OwnRows
import Derived.Test.YtckbhjjflpobbaaGreatCb
import Derived.Test.YtckbhjjflpobbaaGreatSr
import Derived.Deep.RegionHeld3
import Derived.Lib.BufferWrite
import Derived.WalkMore
import Derived.ScopeJumps
namespace Go.Proofs.YtckbhjjflpobbaaGreat.Mem
open Go.RowKit
theorem make_bytes (n : Nat) (hn : n ≤ 65536) (w : World) :
    (Instr.makeSlice 130 (.int .i64 (n : Int)) (.int .i64 (n : Int))).run Tryz.prog w = .ok (.slice (some ⟨w.heap.size, 0, none⟩) n n) (w.alloc (.cells (Array.replicate n (.int .u8 0)) 5)) := by
  have h := run_make_row' (P := Tryz.prog) 130 5 (.int .u8 0) 1 Tryz.underlying130 (by kernel_rfl) rfl .i64 .i64 n (by omega) (by omega) w
  have e : madeCells #[Value.int .u8 0] n = Array.replicate n (.int .u8 0) := by
    apply Array.toList_inj.1
    rw [toList_madeCells_one, Array.toList_replicate]
  rw [e] at h
  exact h
theorem bytes_str (n : Nat) (w : World) :
    (convert 130 9 (.slice (some ⟨w.heap.size, 0, none⟩) n n)).run Tryz.prog (w.alloc (.cells (Array.replicate n (.int .u8 0)) 5)) = .ok (.string (Pk.str (List.replicate n 0))) (w.alloc (.cells (Array.replicate n (.int .u8 0)) 5)) := by
  have h := (Row.start w n 5).str n n (by simp)
  rw [List.take_of_length_le (by simp)] at h
  exact h
end Go.Proofs.YtckbhjjflpobbaaGreat.Mem

namespace Go.Proofs.YtckbhjjflpobbaaGreat.Fk
open Go Go.Proofs.YtckbhjjflpobbaaGreat.Pk

structure Fr where
  boot : Int
  lsn : Int
  part : Int
  parts : Int
  kind : Nat
  data : ByteArray
def Fr.nil : Fr := ⟨0, 0, 0, 0, 0, ⟨#[]⟩⟩
def btw (n a b : Int) : Bool := decide (a ≤ n) && decide (n ≤ b)
theorem btw_iff {n a b : Int} : btw n a b = true ↔ a ≤ n ∧ n ≤ b := by unfold btw; simp
namespace Fr
/-- Whether its numbers are valid. -/
def nums (f : Fr) : Bool := btw f.boot 1 4294967295 && (btw f.lsn 1 281474976710655 && (btw f.parts 1 255 && btw f.part 0 (f.parts - 1)))
def name (f : Fr) : List UInt8 := be f.boot.toNat 4 ++ (be f.lsn.toNat 6 ++ be f.part.toNat 1)
def head (f : Fr) : List UInt8 := f.name ++ (be f.parts.toNat 1 ++ (be f.kind 1 ++ be f.data.size 1))
def sum (f : Fr) : BitVec 32 := Crc.moreB 0 (f.head ++ f.data.data.toList)
def sec (f : Fr) : List UInt8 := f.head ++ (be f.sum.toNat 4 ++ (f.data.data.toList ++ (List.replicate (51 - f.data.size) 0 ++ f.name)))
def err (f : Fr) : Int := if 44 < f.data.size then 5 else if f.nums = true then 0 else 2
def enc (f : Fr) : ByteArray := if f.err = 0 then str f.sec else str []
structure good (f : Fr) : Prop where
  short : f.data.size ≤ 44
  b1 : 1 ≤ f.boot
  b2 : f.boot ≤ 4294967295
  l1 : 1 ≤ f.lsn
  l2 : f.lsn ≤ 281474976710655
  q1 : 1 ≤ f.parts
  q2 : f.parts ≤ 255
  p1 : 0 ≤ f.part
  p2 : f.part < f.parts
theorem nums_iff (f : Fr) : f.nums = true ↔ (1 ≤ f.boot ∧ f.boot ≤ 4294967295) ∧ (1 ≤ f.lsn ∧ f.lsn ≤ 281474976710655) ∧ (1 ≤ f.parts ∧ f.parts ≤ 255) ∧ 0 ≤ f.part ∧ f.part ≤ f.parts - 1 := by
  unfold nums; rw [Bool.and_eq_true, Bool.and_eq_true, Bool.and_eq_true, btw_iff, btw_iff, btw_iff, btw_iff]
theorem err_zero (f : Fr) : f.err = 0 ↔ f.good := by
  unfold err
  constructor
  · intro h
    split at h
    · exact absurd h (by decide)
    · split at h
      · rename_i h1 h2
        obtain ⟨a, b, c, d⟩ := f.nums_iff.mp h2
        exact ⟨by omega, a.1, a.2, b.1, b.2, c.1, c.2, d.1, by omega⟩
      · exact absurd h (by decide)
  · intro h
    rw [if_neg (by have := h.short; omega), if_pos (f.nums_iff.mpr ⟨⟨h.b1, h.b2⟩, ⟨h.l1, h.l2⟩, ⟨h.q1, h.q2⟩, h.p1, by have := h.p2; omega⟩)]
theorem enc_good {f : Fr} (h : f.good) : f.enc = str f.sec := by unfold enc; rw [if_pos (f.err_zero.mpr h)]
theorem enc_bad {f : Fr} (h : f.err ≠ 0) : f.enc = str [] := by unfold enc; rw [if_neg h]
theorem err_ne {f : Fr} (h : ¬ f.good) : f.err ≠ 0 := fun e => h (f.err_zero.mp e)
end Fr

/-! The fields of a string. -/
def l1 (s : ByteArray) : List UInt8 := s.data.toList.drop 4
def l2 (s : ByteArray) : List UInt8 := (l1 s).drop 6
def l3 (s : ByteArray) : List UInt8 := (l2 s).drop 1
def l4 (s : ByteArray) : List UInt8 := (l3 s).drop 1
def l5 (s : ByteArray) : List UInt8 := (l4 s).drop 1
def l6 (s : ByteArray) : List UInt8 := (l5 s).drop 1
def l7 (s : ByteArray) : List UInt8 := (l6 s).drop 4
def flds (s : ByteArray) : Fr := ⟨val (s.data.toList.take 4), val ((l1 s).take 6), val ((l2 s).take 1), val ((l3 s).take 1), val ((l4 s).take 1), str ((l7 s).take (val ((l5 s).take 1)))⟩
def dec (s : ByteArray) : Option Fr := if (flds s).err = 0 ∧ (flds s).enc = s then some (flds s) else none
def decF (s : ByteArray) : Fr := (dec s).getD Fr.nil
def decE (s : ByteArray) : Int := if (dec s).isSome = true then 0 else 12

theorem take_app {a b : List UInt8} {n : Nat} (h : a.length = n) : (a ++ b).take n = a := by subst h; simp
theorem drop_app {a b : List UInt8} {n : Nat} (h : a.length = n) : (a ++ b).drop n = b := by subst h; simp
theorem drop_step {l a b : List UInt8} {n : Nat} (h : l = a ++ b) (ha : a.length = n) : l.drop n = b := by subst h; exact drop_app ha
theorem take_whole {a : List UInt8} {n : Nat} (h : a.length = n) : a.take n = a := by subst h; simp
theorem val_short {l : List UInt8} {k : Nat} : val (l.take k) < 256 ^ k := by
  have h := val_lt (l.take k).length (l.take k) rfl
  exact Nat.lt_of_lt_of_le h (Nat.pow_le_pow_right (by decide) (by rw [List.length_take]; omega))

theorem name_len (f : Fr) : f.name.length = 11 := by unfold Fr.name; rw [List.length_append, List.length_append, be_length, be_length, be_length]
theorem head_len (f : Fr) : f.head.length = 14 := by unfold Fr.head; rw [List.length_append, List.length_append, List.length_append, name_len, be_length, be_length, be_length]
theorem sec_len {f : Fr} (h : f.data.size ≤ 44) : f.sec.length = 80 := by
  have := size_list f.data
  unfold Fr.sec; rw [List.length_append, List.length_append, List.length_append, List.length_append, name_len, head_len, be_length, List.length_replicate]; omega
theorem sec_flat (f : Fr) : f.sec = be f.boot.toNat 4 ++ (be f.lsn.toNat 6 ++ (be f.part.toNat 1 ++ (be f.parts.toNat 1 ++ (be f.kind 1 ++ (be f.data.size 1 ++ (be f.sum.toNat 4 ++ (f.data.data.toList ++ (List.replicate (51 - f.data.size) 0 ++ f.name)))))))) := by
  unfold Fr.sec Fr.head Fr.name
  simp only [List.append_assoc]
theorem flds_sec {f : Fr} (h : f.good) (hk : f.kind < 256) : flds (str f.sec) = f := by
  have e0 : (str f.sec).data.toList = _ := (list_str f.sec).trans (sec_flat f)
  have e1 : l1 (str f.sec) = _ := drop_step e0 (be_length _ _)
  have e2 : l2 (str f.sec) = _ := drop_step e1 (be_length _ _)
  have e3 : l3 (str f.sec) = _ := drop_step e2 (be_length _ _)
  have e4 : l4 (str f.sec) = _ := drop_step e3 (be_length _ _)
  have e5 : l5 (str f.sec) = _ := drop_step e4 (be_length _ _)
  have e6 : l6 (str f.sec) = _ := drop_step e5 (be_length _ _)
  have e7 : l7 (str f.sec) = _ := drop_step e6 (be_length _ _)
  have b1 := h.b1; have b2 := h.b2; have c1 := h.l1; have c2 := h.l2; have d1 := h.q1; have d2 := h.q2; have g1 := h.p1; have g2 := h.p2; have z := h.short
  unfold flds
  rw [e0, e1, e2, e3, e4, e5, e7, take_app (be_length _ _), take_app (be_length _ _), take_app (be_length _ _), take_app (be_length _ _), take_app (be_length _ _), take_app (be_length _ _)]
  rw [val_be_lt (by omega : f.boot.toNat < 256 ^ 4), val_be_lt (by omega : f.lsn.toNat < 256 ^ 6), val_be_lt (by omega : f.part.toNat < 256 ^ 1), val_be_lt (by omega : f.parts.toNat < 256 ^ 1), val_be_lt (by omega : f.kind < 256 ^ 1), val_be_lt (by omega : f.data.size < 256 ^ 1)]
  rw [take_app (size_list _), str_list, Int.toNat_of_nonneg (by omega), Int.toNat_of_nonneg (by omega), Int.toNat_of_nonneg (by omega), Int.toNat_of_nonneg (by omega)]
theorem dec_sec {f : Fr} (h : f.good) (hk : f.kind < 256) : dec (str f.sec) = some f := by
  unfold dec
  rw [flds_sec h hk, if_pos ⟨f.err_zero.mpr h, Fr.enc_good h⟩]
theorem dec_some {s : ByteArray} {c : Fr} (h : dec s = some c) : c.good ∧ c.kind < 256 ∧ s = str c.sec := by
  unfold dec at h
  split at h
  · rename_i h1
    obtain rfl : flds s = c := by simpa using h
    have hg := (flds s).err_zero.mp h1.1
    exact ⟨hg, val_short, by rw [← Fr.enc_good hg]; exact h1.2.symm⟩
  · cases h
theorem dec_enc {f : Fr} (h : f.good) (hk : f.kind < 256) : dec f.enc = some f := by rw [Fr.enc_good h]; exact dec_sec h hk
theorem decF_enc {f : Fr} (h : f.good) (hk : f.kind < 256) : decF f.enc = f ∧ decE f.enc = 0 := by
  unfold decF decE; rw [dec_enc h hk]; exact ⟨rfl, rfl⟩
theorem decE_or (s : ByteArray) : decE s = 0 ∧ dec s = some (decF s) ∨ decE s = 12 ∧ dec s = none ∧ decF s = Fr.nil := by
  unfold decE decF
  cases h : dec s with
  | none => exact .inr ⟨rfl, rfl, rfl⟩
  | some c => exact .inl ⟨rfl, rfl⟩
theorem enc_dec {s : ByteArray} (h : decE s = 0) : (decF s).enc = s ∧ (decF s).err = 0 := by
  rcases decE_or s with ⟨_, hd⟩ | ⟨h2, _⟩
  · obtain ⟨hg, _, he⟩ := dec_some hd
    exact ⟨(Fr.enc_good hg).trans he.symm, (Fr.err_zero _).mpr hg⟩
  · rw [h] at h2; cases h2
theorem sec_inj {a b : Fr} (ha : a.good) (hb : b.good) (ka : a.kind < 256) (kb : b.kind < 256) (h : a.enc = b.enc) : a = b := by
  have h1 := dec_enc ha ka
  rw [h, dec_enc hb kb] at h1
  simpa using h1.symm

/-! Torn sectors. -/
theorem sec_take (f : Fr) : f.sec.take 11 = f.name := by unfold Fr.sec Fr.head; rw [List.append_assoc]; exact take_app (name_len f)
theorem sec_drop {f : Fr} (h : f.data.size ≤ 44) : f.sec.drop 69 = f.name := by
  have := size_list f.data
  have e : f.sec = (f.head ++ (be f.sum.toNat 4 ++ (f.data.data.toList ++ List.replicate (51 - f.data.size) 0))) ++ f.name := by unfold Fr.sec; simp only [List.append_assoc]
  rw [e]; refine drop_app ?_
  rw [List.length_append, List.length_append, List.length_append, head_len, be_length, List.length_replicate]; omega
theorem name_inj {a b : Fr} (ha : a.good) (hb : b.good) (h : a.name = b.name) : a.boot = b.boot ∧ a.lsn = b.lsn ∧ a.part = b.part := by
  have b1 := ha.b1; have b2 := ha.b2; have c1 := ha.l1; have c2 := ha.l2; have d2 := ha.q2; have g1 := ha.p1; have g2 := ha.p2
  have b1' := hb.b1; have b2' := hb.b2; have c1' := hb.l1; have c2' := hb.l2; have d2' := hb.q2; have g1' := hb.p1; have g2' := hb.p2
  unfold Fr.name at h
  obtain ⟨h1, h⟩ := List.append_inj h (by rw [be_length, be_length])
  obtain ⟨h2, h3⟩ := List.append_inj h (by rw [be_length, be_length])
  have e1 := congrArg val h1; have e2 := congrArg val h2; have e3 := congrArg val h3
  rw [val_be_lt (by omega), val_be_lt (by omega)] at e1 e2 e3
  omega
theorem name_zeros {a : Fr} (ha : a.good) (h : a.name = List.replicate 11 0) : False := by
  have b1 := ha.b1; have b2 := ha.b2
  have e : val (a.name.take 4) = val ((List.replicate 11 0).take 4) := by rw [h]
  unfold Fr.name at e
  rw [take_app (be_length _ _), val_be_lt (by omega)] at e
  have z : val ((List.replicate 11 (0 : UInt8)).take 4) = 0 := by decide
  omega
theorem torn {x y : List UInt8} {n : Nat} (hx : x.take 11 = x.drop 69) (hy : y.take 11 = y.drop 69) (hne : x.take 11 ≠ y.take 11) (lx : x.length = 80) (hn : n ≤ 80)
    (hs : (x.take n ++ y.drop n).take 11 = (x.take n ++ y.drop n).drop 69) : x.take n ++ y.drop n = x ∨ x.take n ++ y.drop n = y := by
  have lt : (x.take n).length = n := by rw [List.length_take]; omega
  by_cases h : n ≤ 69
  · right
    have hd : (x.take n ++ y.drop n).drop 69 = y.drop 69 := by
      rw [List.drop_append, List.drop_eq_nil_of_le (by omega), List.nil_append, lt, List.drop_drop]
      congr 1; omega
    rw [hd, ← hy] at hs
    by_cases h2 : 11 ≤ n
    · exfalso; apply hne
      rw [← hs, List.take_append, lt, show 11 - n = 0 by omega, List.take_zero, List.append_nil, List.take_take]
      congr 1; omega
    · have e := congrArg (List.take n) hs
      rw [List.take_take, List.take_take, Nat.min_eq_left (by omega), take_app lt] at e
      rw [e, List.take_append_drop]
  · left
    have h1 : (x.take n ++ y.drop n).take 11 = x.take 11 := by
      rw [List.take_append, lt, show 11 - n = 0 by omega, List.take_zero, List.append_nil, List.take_take]
      congr 1; omega
    have h2 : (x.take n ++ y.drop n).drop 69 = (x.drop 69).take (n - 69) ++ y.drop n := by
      rw [List.drop_append, lt, show 69 - n = 0 by omega, List.drop_zero, List.drop_take]
    rw [h1, h2, hx] at hs
    have e : (x.drop 69).drop (n - 69) = y.drop n := by
      have := congrArg (List.drop (n - 69)) hs
      rw [drop_app (by rw [List.length_take, List.length_drop]; omega)] at this
      exact this
    rw [← e, List.drop_drop, show 69 + (n - 69) = n by omega, List.take_append_drop]

/-! Order. -/
theorem val_app (a b : List UInt8) : val (a ++ b) = val a * 256 ^ b.length + val b := by
  show (a ++ b).foldl _ 0 = _
  rw [List.foldl_append]; exact foldl_val b (val a)
theorem lex {K v v' r r' : Nat} (h : r < K) (h' : r' < K) (hne : v ≠ v') : v * K + r < v' * K + r' ↔ v < v' := by
  constructor
  · intro hl
    refine Nat.lt_of_not_le fun hle => ?_
    have : (v' + 1) * K ≤ v * K := Nat.mul_le_mul_right K (by omega)
    rw [Nat.succ_mul] at this; omega
  · intro hl
    have : (v + 1) * K ≤ v' * K := Nat.mul_le_mul_right K (by omega)
    rw [Nat.succ_mul] at this; omega
theorem val_name {a : Fr} (ha : a.good) : (val a.name : Int) = a.boot * 72057594037927936 + (a.lsn * 256 + a.part) := by
  have b1 := ha.b1; have b2 := ha.b2; have c1 := ha.l1; have c2 := ha.l2; have d2 := ha.q2; have g1 := ha.p1; have g2 := ha.p2
  unfold Fr.name
  rw [val_app, val_app, List.length_append, be_length, be_length, val_be_lt (by omega), val_be_lt (by omega), val_be_lt (by omega)]
  omega
theorem less_sec {a b : Fr} (ha : a.good) (hb : b.good) (hne : ¬ (a.boot = b.boot ∧ a.lsn = b.lsn ∧ a.part = b.part)) :
    Op.bytesLess a.sec b.sec = decide (a.boot < b.boot ∨ a.boot = b.boot ∧ (a.lsn < b.lsn ∨ a.lsn = b.lsn ∧ a.part < b.part)) := by
  have sa := sec_len ha.short; have sb := sec_len hb.short
  rw [less_val _ _ (by omega)]
  have ea : a.sec = a.name ++ a.sec.drop 11 := by rw [← sec_take a, List.take_append_drop]
  have eb : b.sec = b.name ++ b.sec.drop 11 := by rw [← sec_take b, List.take_append_drop]
  have la : (a.sec.drop 11).length = 69 := by rw [List.length_drop]; omega
  have lb : (b.sec.drop 11).length = 69 := by rw [List.length_drop]; omega
  have ra := val_lt 69 _ la; have rb := val_lt 69 _ lb
  have va := val_name ha; have vb := val_name hb
  have b1 := ha.b1; have b2 := ha.b2; have c1 := ha.l1; have c2 := ha.l2; have d2 := ha.q2; have g1 := ha.p1; have g2 := ha.p2
  have b1' := hb.b1; have b2' := hb.b2; have c1' := hb.l1; have c2' := hb.l2; have d2' := hb.q2; have g1' := hb.p1; have g2' := hb.p2
  have hn : val a.name ≠ val b.name := by
    intro e
    have : (val a.name : Int) = (val b.name : Int) := by rw [e]
    rw [va, vb] at this
    omega
  rw [ea, eb, val_app, val_app, la, lb]
  apply decide_eq_decide.mpr
  rw [lex ra rb hn]
  omega
theorem ne_sec {a b : Fr} (ha : a.good) (hb : b.good) (hne : ¬ (a.boot = b.boot ∧ a.lsn = b.lsn ∧ a.part = b.part)) : a.sec ≠ b.sec := by
  intro h
  have := congrArg (List.take 11) h
  rw [sec_take, sec_take] at this
  exact hne (name_inj ha hb this)
end Go.Proofs.YtckbhjjflpobbaaGreat.Fk

namespace Go.Proofs.YtckbhjjflpobbaaGreat.Fk
open Go Go.Proofs.YtckbhjjflpobbaaGreat.Pk

theorem str_inj' {a b : List UInt8} (h : str a = str b) : a = b := by rw [← list_str a, h, list_str]
theorem dec_ends {l : List UInt8} {g : Fr} (h : dec (str l) = some g) : l = g.sec ∧ l.take 11 = g.name ∧ l.take 11 = l.drop 69 ∧ g.good := by
  obtain ⟨gg, _, e⟩ := dec_some h
  have el := str_inj' e
  exact ⟨el, by rw [el, sec_take], by rw [el, sec_take, sec_drop gg.short], gg⟩
theorem torn_none {a c : Fr} (ga : a.good) (gc : c.good) (hne : ¬ (a.boot = c.boot ∧ a.lsn = c.lsn ∧ a.part = c.part)) {n : Nat} (hn : n ≤ 80)
    (h1 : a.sec.take n ++ c.sec.drop n ≠ a.sec) (h2 : a.sec.take n ++ c.sec.drop n ≠ c.sec) : dec (str (a.sec.take n ++ c.sec.drop n)) = none := by
  cases h : dec (str (a.sec.take n ++ c.sec.drop n)) with
  | none => rfl
  | some g =>
    obtain ⟨_, _, he, _⟩ := dec_ends h
    rcases torn (by rw [sec_take, sec_drop ga.short]) (by rw [sec_take, sec_drop gc.short]) (by rw [sec_take, sec_take]; exact fun e => hne (name_inj ga gc e)) (sec_len ga.short) hn he with e | e
    · exact absurd e h1
    · exact absurd e h2
theorem zeros_none : dec (str (List.replicate 80 0)) = none := by
  cases h : dec (str (List.replicate 80 0)) with
  | none => rfl
  | some g =>
    obtain ⟨_, e, _, gg⟩ := dec_ends h
    exact (name_zeros gg (by rw [← e]; rfl)).elim
theorem torn_zero {a : Fr} (ga : a.good) {n : Nat} (hn : n ≤ 80) (h1 : a.sec.take n ++ (List.replicate 80 0).drop n ≠ a.sec) : dec (str (a.sec.take n ++ (List.replicate 80 0).drop n)) = none := by
  cases h : dec (str (a.sec.take n ++ (List.replicate 80 0).drop n)) with
  | none => rfl
  | some g =>
    obtain ⟨_, _, he, _⟩ := dec_ends h
    rcases torn (by rw [sec_take, sec_drop ga.short]) rfl (by rw [sec_take]; exact fun e => name_zeros ga e) (sec_len ga.short) hn he with e | e
    · exact absurd e h1
    · rw [e, zeros_none] at h; cases h
theorem cut_first (l : List UInt8) (n : Nat) : (str l).extract 0 n = str (l.take n) := by
  apply str_inj
  rw [Lib.extract_data, list_str, list_str]; rfl
theorem cut_rest (l : List UInt8) (n : Nat) : (str l).extract n (str l).size = str (l.drop n) := by
  apply str_inj
  rw [Lib.extract_data, list_str, list_str, size_str, List.take_of_length_le (by rw [List.length_drop]; omega)]
theorem none_E {s : ByteArray} (h : dec s = none) : decE s = 12 := by unfold decE; rw [h]; rfl
end Go.Proofs.YtckbhjjflpobbaaGreat.Fk

namespace Go.Proofs.YtckbhjjflpobbaaGreat.Fk
open Go.RowKit Go.Proofs.YtckbhjjflpobbaaGreat.Mem Go.Proofs.YtckbhjjflpobbaaGreat.Pk

theorem between_c (n a b : Int) (w : World) : Calls Tryz.prog 111 #[.int .i64 n, .int .i64 a, .int .i64 b] w fun e w' => e = .returned (.bool (btw n a b)) ∧ w = w' := by
  unfold btw
  go_enter Tryz.func111, Tryz.ntmps111
  go_wp2
  all_goals
    go_ret
    exact ⟨by simp [*] <;> omega, rfl⟩

theorem fixed_n (n k : Nat) (h : n < 9223372036854775808) (h1 : 1 ≤ k) (h8 : k ≤ 8) (hw : n < 256 ^ k) (w : World) :
    Calls Tryz.prog 112 #[.int .i64 n, .int .i64 k] w fun e w' => e = .returned (.string (str (be n k))) ∧ Kept w w' := by
  have hc : ∀ w, Calls Tryz.prog 124 #[.int .u64 n, .int .i64 k] w fun e w' => e = .returned (.tuple #[.string (str (be n k)), .int .i64 0]) ∧ Kept w w' :=
    fixed_ok n k (by unfold U64; omega) h1 h8 (wd_least h1 h8 hw)
  obtain ⟨S, hS⟩ : ∃ S, S = str (be n k) := ⟨_, rfl⟩
  rw [← hS] at hc ⊢
  clear hS hw
  go_enter Tryz.func112, Tryz.ntmps112
  go_wp2_with (go_at_call 124; (with_reducible refine (hc _).mono ?_); rintro e w' ⟨rfl, hk⟩)
  go_ret
  exact ⟨rfl, hk⟩
theorem fixed_i (n : Int) (k : Nat) (h0 : 0 ≤ n) (h : n.toNat < 9223372036854775808) (h1 : 1 ≤ k) (h8 : k ≤ 8) (hw : n.toNat < 256 ^ k) (w : World) :
    Calls Tryz.prog 112 #[.int .i64 n, .int .i64 k] w fun e w' => e = .returned (.string (str (be n.toNat k))) ∧ Kept w w' := by
  have := fixed_n n.toNat k h h1 h8 hw w
  rwa [Int.toNat_of_nonneg h0] at this

/-- numbered. -/
theorem numbered_c (f : Fr) (w : World) :
    Calls Tryz.prog 98 #[.agg #[.int .i64 f.boot, .int .i64 f.lsn, .int .i64 f.part, .int .i64 f.parts, .int .u8 f.kind, .string f.data]] w fun e w' => e = .returned (.bool f.nums) ∧ Kept w w' := by
  obtain ⟨b, l, p, q, k, d⟩ := f
  unfold Fr.nums
  dsimp only
  have hk0 := Kept.alloc (Kept.refl w) (.cells #[.int .i64 b, .int .i64 l, .int .i64 p, .int .i64 q, .int .u8 k, .string d] 113)
  have cb := fun w => between_c b 1 4294967295 w
  have cl := fun w => between_c l 1 281474976710655 w
  have cq := fun w => between_c q 1 255 w
  have cp := fun w => between_c p 0 (q - 1) w
  obtain ⟨B, hB⟩ : ∃ B, B = btw b 1 4294967295 := ⟨_, rfl⟩
  obtain ⟨L, hL⟩ : ∃ L, L = btw l 1 281474976710655 := ⟨_, rfl⟩
  obtain ⟨Q, hQ⟩ : ∃ Q, Q = btw q 1 255 := ⟨_, rfl⟩
  obtain ⟨P, hP⟩ : ∃ P, P = btw p 0 (q - 1) := ⟨_, rfl⟩
  rw [← hB, ← hL, ← hQ, ← hP]
  rw [← hB] at cb; rw [← hL] at cl; rw [← hQ] at cq; rw [← hP] at cp
  clear hB hL hP
  cases Q with
  | true =>
    obtain ⟨q1, q2⟩ := btw_iff.mp hQ.symm
    clear hQ
    cases B <;> cases L <;> cases P
    all_goals
      go_enter Tryz.func98, Tryz.ntmps98
      go_wp2_with (first
        | (go_at_call 111; (with_reducible refine (cb _).mono ?_); rintro e w' ⟨rfl, rfl⟩)
        | (go_at_call 111; (with_reducible refine (cl _).mono ?_); rintro e w' ⟨rfl, rfl⟩)
        | (go_at_call 111; (with_reducible refine (cq _).mono ?_); rintro e w' ⟨rfl, rfl⟩)
        | (go_at_call 111; (with_reducible refine (cp _).mono ?_); rintro e w' ⟨rfl, rfl⟩))
      go_ret
      exact ⟨rfl, hk0⟩
  | false =>
    clear hQ cp
    cases B <;> cases L
    all_goals
      go_enter Tryz.func98, Tryz.ntmps98
      go_wp2_with (first
        | (go_at_call 111; (with_reducible refine (cb _).mono ?_); rintro e w' ⟨rfl, rfl⟩)
        | (go_at_call 111; (with_reducible refine (cl _).mono ?_); rintro e w' ⟨rfl, rfl⟩)
        | (go_at_call 111; (with_reducible refine (cq _).mono ?_); rintro e w' ⟨rfl, rfl⟩))
      go_ret
      exact ⟨rfl, hk0⟩
end Go.Proofs.YtckbhjjflpobbaaGreat.Fk

namespace Go.Proofs.YtckbhjjflpobbaaGreat.Fk
open Go.RowKit Go.Proofs.YtckbhjjflpobbaaGreat.Mem Go.Proofs.YtckbhjjflpobbaaGreat.Pk

/-- Behind x: block B holds a frame. -/
structure Box (x : World) (B : Nat) (b l p q : Int) (k : Nat) (d : ByteArray) : Prop where
  lt : B < x.heap.size
  c0 : x.cell? ⟨B, 0, none⟩ = some (.int .i64 b)
  c1 : x.cell? ⟨B, 1, none⟩ = some (.int .i64 l)
  c2 : x.cell? ⟨B, 2, none⟩ = some (.int .i64 p)
  c3 : x.cell? ⟨B, 3, none⟩ = some (.int .i64 q)
  c4 : x.cell? ⟨B, 4, none⟩ = some (.int .u8 k)
  c5 : x.cell? ⟨B, 5, none⟩ = some (.string d)
theorem Box.kept {x y : World} {B : Nat} {b l p q : Int} {k : Nat} {d : ByteArray} (h : Box x B b l p q k d) (g : Kept x y) : Box y B b l p q k d :=
  ⟨Nat.lt_of_lt_of_le h.lt g.size, by rw [g.cell h.lt]; exact h.c0, by rw [g.cell h.lt]; exact h.c1, by rw [g.cell h.lt]; exact h.c2, by rw [g.cell h.lt]; exact h.c3, by rw [g.cell h.lt]; exact h.c4, by rw [g.cell h.lt]; exact h.c5⟩
theorem Box.start (w : World) (T : TypeId) (b l p q : Int) (k : Nat) (d : ByteArray) : Box (w.alloc (.cells #[.int .i64 b, .int .i64 l, .int .i64 p, .int .i64 q, .int .u8 k, .string d] T)) w.heap.size b l p q k d := by
  have e := (MapKept.heap_alloc w (.cells #[.int .i64 b, .int .i64 l, .int .i64 p, .int .i64 q, .int .u8 k, .string d] T)).1
  refine ⟨by simp, ?_, ?_, ?_, ?_, ?_, ?_⟩ <;>
    (show (match (w.alloc _).heap[w.heap.size]? with | some (.cells c _ _) => c[_]? | _ => none) = _; rw [e]; rfl)
/-- What the region's loads read. -/
theorem Box.all {x : World} {B : Nat} {b l p q : Int} {k : Nat} {d : ByteArray} (h : Box x B b l p q k d) :
    x.cell? ⟨B, 0, none⟩ = some (.int .i64 b) ∧ x.cell? ⟨B, 1, none⟩ = some (.int .i64 l) ∧ x.cell? ⟨B, 2, none⟩ = some (.int .i64 p) ∧ x.cell? ⟨B, 3, none⟩ = some (.int .i64 q) ∧ x.cell? ⟨B, 4, none⟩ = some (.int .u8 k) ∧ x.cell? ⟨B, 5, none⟩ = some (.string d) :=
  ⟨h.c0, h.c1, h.c2, h.c3, h.c4, h.c5⟩

/-- What sector's walk takes: the pieces, and what each call returns. -/
structure SecG (b l p q : Int) (k : Nat) (d : ByteArray) (sB sL sP sQ sK sD sBL sN sNQ sNK sH sX sHX sT sZ sTZ sR : ByteArray) (N0 N1 Z : Int) : Prop where
  cB : ∀ w, Calls Tryz.prog 112 #[.int .i64 b, .int .i64 4] w fun e w' => e = .returned (.string sB) ∧ Kept w w'
  cL : ∀ w, Calls Tryz.prog 112 #[.int .i64 l, .int .i64 6] w fun e w' => e = .returned (.string sL) ∧ Kept w w'
  cP : ∀ w, Calls Tryz.prog 112 #[.int .i64 p, .int .i64 1] w fun e w' => e = .returned (.string sP) ∧ Kept w w'
  cQ : ∀ w, Calls Tryz.prog 112 #[.int .i64 q, .int .i64 1] w fun e w' => e = .returned (.string sQ) ∧ Kept w w'
  cK : ∀ w, Calls Tryz.prog 112 #[.int .i64 k, .int .i64 1] w fun e w' => e = .returned (.string sK) ∧ Kept w w'
  cD : ∀ w, Calls Tryz.prog 112 #[.int .i64 d.size, .int .i64 1] w fun e w' => e = .returned (.string sD) ∧ Kept w w'
  aBL : ∀ w, (Op.stringOp .add sB sL).run Tryz.prog w = .ok (.string sBL) w
  aN : ∀ w, (Op.stringOp .add sBL sP).run Tryz.prog w = .ok (.string sN) w
  aNQ : ∀ w, (Op.stringOp .add sN sQ).run Tryz.prog w = .ok (.string sNQ) w
  aNK : ∀ w, (Op.stringOp .add sNQ sK).run Tryz.prog w = .ok (.string sNK) w
  aH : ∀ w, (Op.stringOp .add sNK sD).run Tryz.prog w = .ok (.string sH) w
  cS : ∀ w, Calls Tryz.prog 114 #[.string sH] w fun e w' => e = .returned (.int .u32 N0) ∧ Kept w w'
  cM : ∀ w, Calls Tryz.prog 113 #[.int .u32 N0, .string d] w fun e w' => e = .returned (.int .u32 N1) ∧ Kept w w'
  n0 : 0 ≤ N1
  n1 : N1 < 4294967296
  cX : ∀ w, Calls Tryz.prog 112 #[.int .i64 N1, .int .i64 4] w fun e w' => e = .returned (.string sX) ∧ Kept w w'
  aHX : ∀ w, (Op.stringOp .add sH sX).run Tryz.prog w = .ok (.string sHX) w
  aT : ∀ w, (Op.stringOp .add sHX d).run Tryz.prog w = .ok (.string sT) w
  t1 : (sT.size : Int) ≤ 62
  tZ : 69 - (sT.size : Int) = Z
  cZ : ∀ w, Calls Tryz.prog 115 #[.string ⟨#[0]⟩, .int .i64 Z] w fun e w' => e = .returned (.string sZ) ∧ Kept w w'
  aTZ : ∀ w, (Op.stringOp .add sT sZ).run Tryz.prog w = .ok (.string sTZ) w
  aR : ∀ w, (Op.stringOp .add sTZ sN).run Tryz.prog w = .ok (.string sR) w

set_option maxHeartbeats 4000000 in
set_option maxRecDepth 100000 in
theorem sector_g {b l p q : Int} {k : Nat} {d sB sL sP sQ sK sD sBL sN sNQ sNK sH sX sHX sT sZ sTZ sR : ByteArray} {N0 N1 Z : Int} (G : SecG b l p q k d sB sL sP sQ sK sD sBL sN sNQ sNK sH sX sHX sT sZ sTZ sR N0 N1 Z) (k0 : k < 256) (w : World) :
    Calls Tryz.prog 99 #[.agg #[.int .i64 b, .int .i64 l, .int .i64 p, .int .i64 q, .int .u8 k, .string d]] w fun e w' => e = .returned (.string sR) ∧ Kept w w' := by
  have wk : IntKind.i64.wrap (k : Int) = (k : Int) := by rw [IntKind.wrap_i64]; omega
  obtain ⟨cB, cL, cP, cQ, cK, cD, aBL, aN, aNQ, aNK, aH, cS, cM, n0, n1, cX, aHX, aT, t1, tZ, cZ, aTZ, aR⟩ := G
  have wn : IntKind.i64.wrap N1 = N1 := by rw [IntKind.wrap_i64]; omega
  have hb0 := Box.start w 113 b l p q k d
  have hk0 := Kept.alloc (Kept.refl w) (.cells #[.int .i64 b, .int .i64 l, .int .i64 p, .int .i64 q, .int .u8 k, .string d] 113)
  obtain ⟨x, hx⟩ : ∃ x, x = w.alloc (.cells #[.int .i64 b, .int .i64 l, .int .i64 p, .int .i64 q, .int .u8 k, .string d] 113) := ⟨_, rfl⟩
  rw [← hx] at hb0 hk0
  have hB : ∀ W, Kept x W → W.cell? ⟨w.heap.size, 0, none⟩ = some (.int .i64 b) ∧ W.cell? ⟨w.heap.size, 1, none⟩ = some (.int .i64 l) ∧ W.cell? ⟨w.heap.size, 2, none⟩ = some (.int .i64 p) ∧ W.cell? ⟨w.heap.size, 3, none⟩ = some (.int .i64 q) ∧ W.cell? ⟨w.heap.size, 4, none⟩ = some (.int .u8 k) ∧ W.cell? ⟨w.heap.size, 5, none⟩ = some (.string d) := fun W hW => (hb0.kept hW).all
  have HB := Lib.hid hB
  have HK := Lib.hid hk0
  have S1 := hb0.all
  have S1' := (hb0.kept (Kept.refl x).drew).all
  have K1 := Kept.refl x
  have K1' := (Kept.refl x).drew
  clear hb0 hB hk0
  go_enter Tryz.func99, Tryz.ntmps99
  go_wp2
  rw [← hx]
  clear hx
  go_region_held3 (fun W => W.cell? ⟨w.heap.size, 0, none⟩ = some (.int .i64 b) ∧ W.cell? ⟨w.heap.size, 1, none⟩ = some (.int .i64 l) ∧ W.cell? ⟨w.heap.size, 2, none⟩ = some (.int .i64 p) ∧ W.cell? ⟨w.heap.size, 3, none⟩ = some (.int .i64 q) ∧ W.cell? ⟨w.heap.size, 4, none⟩ = some (.int .u8 k) ∧ W.cell? ⟨w.heap.size, 5, none⟩ = some (.string d))
    (first | assumption | exact HB.out _ ‹_›)
    (first
      | (go_at_call 112; (with_reducible refine (cB _).mono ?_); rintro e u1 ⟨rfl, k1⟩; have k1 := Kept.trans K1' k1)
      | (go_at_call 112; (with_reducible refine (cL _).mono ?_); rintro e u2 ⟨rfl, k2⟩; have k2 := Kept.trans k1 k2)
      | (go_at_call 112; (with_reducible refine (cP _).mono ?_); rintro e u3 ⟨rfl, k3⟩; have k3 := Kept.trans k2 k3))
  have S1 := HB.out _ k3
  have S1' := HB.out _ k3.drew
  have kd0 := k3.drew
  clear S1 S1' K1 K1' cB cL cP aBL aN k1 k2 k3
  go_wp2_with fail
  go_region_held3 (fun W => W.cell? ⟨w.heap.size, 0, none⟩ = some (.int .i64 b) ∧ W.cell? ⟨w.heap.size, 1, none⟩ = some (.int .i64 l) ∧ W.cell? ⟨w.heap.size, 2, none⟩ = some (.int .i64 p) ∧ W.cell? ⟨w.heap.size, 3, none⟩ = some (.int .i64 q) ∧ W.cell? ⟨w.heap.size, 4, none⟩ = some (.int .u8 k) ∧ W.cell? ⟨w.heap.size, 5, none⟩ = some (.string d))
    (first | assumption | exact HB.out _ ‹_›)
    (first
      | (go_at_call 112; (with_reducible refine (cQ _).mono ?_); rintro e u4 ⟨rfl, k4⟩; have k4 := Kept.trans kd0 k4)
      | (go_at_call 112; (with_reducible refine (cK _).mono ?_); rintro e u5 ⟨rfl, k5⟩; have k5 := Kept.trans k4 k5)
      | (go_at_call 112; (with_reducible refine (cD _).mono ?_); rintro e u6 ⟨rfl, k6⟩; have k6 := Kept.trans k5 k6))
  have S1 := HB.out _ k6
  have S1' := HB.out _ k6.drew
  have kd1 := k6.drew
  clear S1 S1' cQ cK cD aNQ aNK aH k4 k5 k6 kd0
  go_wp2_with fail
  go_region_held3 (fun W => W.cell? ⟨w.heap.size, 0, none⟩ = some (.int .i64 b) ∧ W.cell? ⟨w.heap.size, 1, none⟩ = some (.int .i64 l) ∧ W.cell? ⟨w.heap.size, 2, none⟩ = some (.int .i64 p) ∧ W.cell? ⟨w.heap.size, 3, none⟩ = some (.int .i64 q) ∧ W.cell? ⟨w.heap.size, 4, none⟩ = some (.int .u8 k) ∧ W.cell? ⟨w.heap.size, 5, none⟩ = some (.string d))
    (first | assumption | exact HB.out _ ‹_›)
    (first
      | (go_at_call 114; (with_reducible refine (cS _).mono ?_); rintro e u7 ⟨rfl, k7⟩; have k7 := Kept.trans kd1 k7)
      | (go_at_call 113; (with_reducible refine (cM _).mono ?_); rintro e u8 ⟨rfl, k8⟩; have k8 := Kept.trans k7 k8))
  have S1 := HB.out _ k8
  have S1' := HB.out _ k8.drew
  have kd2 := k8.drew
  clear S1 S1' cS cM k7 k8 kd1
  go_wp2_with fail
  go_region_held3 (fun W => W.cell? ⟨w.heap.size, 0, none⟩ = some (.int .i64 b) ∧ W.cell? ⟨w.heap.size, 1, none⟩ = some (.int .i64 l) ∧ W.cell? ⟨w.heap.size, 2, none⟩ = some (.int .i64 p) ∧ W.cell? ⟨w.heap.size, 3, none⟩ = some (.int .i64 q) ∧ W.cell? ⟨w.heap.size, 4, none⟩ = some (.int .u8 k) ∧ W.cell? ⟨w.heap.size, 5, none⟩ = some (.string d))
    (first | assumption | exact HB.out _ ‹_›)
    (first
      | (go_at_call 112; (with_reducible refine (cX _).mono ?_); rintro e u9 ⟨rfl, k9⟩; have k9 := Kept.trans kd2 k9))
  have k9 := HK.out.trans k9
  clear S1 S1' cX aHX aT kd2
  go_wp2_with (go_at_call 115; (with_reducible refine (cZ _).mono ?_); rintro e u10 ⟨rfl, k10⟩)
  go_ret
  exact ⟨rfl, k9.trans k10⟩

theorem cat_c (a b c : List UInt8) (h : a ++ b = c) (hs : a.length + b.length ≤ 1000) (w : World) : (Op.stringOp .add (str a) (str b)).run Tryz.prog w = .ok (.string (str c)) w := cat_str a b c h (by omega) w
theorem secG (f : Fr) (h : f.good) (hk : f.kind < 256) : ∃ sB sL sP sQ sK sD sBL sN sNQ sNK sH sX sHX sT sZ sTZ N0 N1 Z, SecG f.boot f.lsn f.part f.parts f.kind f.data sB sL sP sQ sK sD sBL sN sNQ sNK sH sX sHX sT sZ sTZ (str f.sec) N0 N1 Z := by
  have b1 := h.b1; have b2 := h.b2; have c1 := h.l1; have c2 := h.l2; have d1 := h.q1; have d2 := h.q2; have g1 := h.p1; have g2 := h.p2; have z := h.short
  have nl := name_len f
  have hl := head_len f
  have dl := size_list f.data
  have sm := f.sum.isLt
  have ed : f.data = str f.data.data.toList := (str_list f.data).symm
  refine ⟨str (be f.boot.toNat 4), str (be f.lsn.toNat 6), str (be f.part.toNat 1), str (be f.parts.toNat 1), str (be f.kind 1), str (be f.data.size 1), str (be f.boot.toNat 4 ++ be f.lsn.toNat 6), str f.name, str (f.name ++ be f.parts.toNat 1), str (f.name ++ be f.parts.toNat 1 ++ be f.kind 1), str f.head, str (be f.sum.toNat 4), str (f.head ++ be f.sum.toNat 4), str (f.head ++ be f.sum.toNat 4 ++ f.data.data.toList), str (List.replicate (51 - f.data.size) 0), str (f.head ++ be f.sum.toNat 4 ++ f.data.data.toList ++ List.replicate (51 - f.data.size) 0), Crc.num (Crc.moreB 0 f.head), Crc.num f.sum, ((51 - f.data.size : Nat) : Int), ?_⟩
  exact {
    cB := fixed_i f.boot 4 (by omega) (by omega) (by decide) (by decide) (by omega)
    cL := fixed_i f.lsn 6 (by omega) (by omega) (by decide) (by decide) (by omega)
    cP := fixed_i f.part 1 (by omega) (by omega) (by decide) (by decide) (by omega)
    cQ := fixed_i f.parts 1 (by omega) (by omega) (by decide) (by decide) (by omega)
    cK := fixed_n f.kind 1 (by omega) (by decide) (by decide) (by omega)
    cD := fixed_n f.data.size 1 (by omega) (by decide) (by decide) (by omega)
    aBL := cat_c _ _ _ rfl (by rw [be_length, be_length]; omega)
    aN := cat_c _ _ _ (by unfold Fr.name; rw [List.append_assoc]) (by rw [List.length_append, be_length, be_length, be_length]; omega)
    aNQ := cat_c _ _ _ rfl (by rw [nl, be_length]; omega)
    aNK := cat_c _ _ _ rfl (by rw [List.length_append, nl, be_length, be_length]; omega)
    aH := cat_c _ _ _ (by unfold Fr.head; simp only [List.append_assoc]) (by rw [List.length_append, List.length_append, nl, be_length, be_length, be_length]; omega)
    cS := fun w => by
      have := Crc.sum_k (str f.head) w (by rw [size_str, hl]; decide)
      rwa [list_str] at this
    cM := fun w => by
      have := Crc.more_k (Crc.moreB 0 f.head) f.data w (by unfold maxLen; omega)
      rwa [← Crc.more_append] at this
    n0 := Crc.num_lo _
    n1 := Crc.num_hi _
    cX := fun w => fixed_n f.sum.toNat 4 (by omega) (by decide) (by decide) (by omega) w
    aHX := cat_c _ _ _ rfl (by rw [hl, be_length]; omega)
    aT := fun w => by
      have := cat_c (f.head ++ be f.sum.toNat 4) f.data.data.toList _ rfl (by rw [List.length_append, hl, be_length]; omega) w
      rwa [← ed] at this
    t1 := by rw [size_str, List.length_append, List.length_append, hl, be_length]; omega
    tZ := by rw [size_str, List.length_append, List.length_append, hl, be_length]; omega
    cZ := fun w => Sr.repeat_c (51 - f.data.size) (by omega) w
    aTZ := cat_c _ _ _ rfl (by rw [List.length_append, List.length_append, hl, be_length, List.length_replicate]; omega)
    aR := cat_c _ _ _ (by unfold Fr.sec; simp only [List.append_assoc]) (by rw [List.length_append, List.length_append, List.length_append, hl, nl, be_length, List.length_replicate]; omega) }
theorem sector_c (f : Fr) (h : f.good) (hk : f.kind < 256) (w : World) :
    Calls Tryz.prog 99 #[.agg #[.int .i64 f.boot, .int .i64 f.lsn, .int .i64 f.part, .int .i64 f.parts, .int .u8 f.kind, .string f.data]] w fun e w' => e = .returned (.string (str f.sec)) ∧ Kept w w' := by
  obtain ⟨_, _, _, _, _, _, _, _, _, _, _, _, _, _, _, _, _, _, _, G⟩ := secG f h hk
  exact sector_g G hk w

/-- Encode. -/
theorem encode_c (f : Fr) (hk : f.kind < 256) (hz : f.data.size ≤ maxLen) (w : World) :
    Calls Tryz.prog 79 #[.agg #[.int .i64 f.boot, .int .i64 f.lsn, .int .i64 f.part, .int .i64 f.parts, .int .u8 f.kind, .string f.data]] w fun e w' => e = .returned (.tuple #[.string f.enc, .int .i64 f.err]) ∧ Kept w w' := by
  unfold maxLen at hz
  have cN := numbered_c f
  by_cases hl : 44 < f.data.size
  · have he : f.err = 5 := by unfold Fr.err; rw [if_pos hl]
    have hc : f.enc = ⟨#[]⟩ := Fr.enc_bad (by rw [he]; decide)
    rw [he, hc]
    clear he hc cN
    obtain ⟨b, l, p, q, k, d⟩ := f
    have hk0 := Kept.alloc (Kept.refl w) (.cells #[.int .i64 b, .int .i64 l, .int .i64 p, .int .i64 q, .int .u8 k, .string d] 113)
    have t1 : decide (44 < (d.size : Int)) = true := by simp at hl ⊢; omega
    clear hl hk hz
    dsimp only
    go_enter Tryz.func79, Tryz.ntmps79
    go_wp2
    go_ret2
    exact ⟨rfl, hk0⟩
  · by_cases hn : f.nums = true
    · have he : f.err = 0 := by unfold Fr.err; rw [if_neg hl, if_pos hn]
      have hg := f.err_zero.mp he
      have cS := sector_c f hg hk
      rw [he, Fr.enc_good hg]
      rw [hn] at cN
      obtain ⟨R, hR⟩ : ∃ R, R = str f.sec := ⟨_, rfl⟩
      rw [← hR] at cS ⊢
      clear he hR hg
      obtain ⟨b, l, p, q, k, d⟩ := f
      have hk0 := Kept.alloc (Kept.refl w) (.cells #[.int .i64 b, .int .i64 l, .int .i64 p, .int .i64 q, .int .u8 k, .string d] 113)
      have hb := Box.start w 113 b l p q k d
      have t1 : decide (44 < (d.size : Int)) = false := by simp at hl ⊢; omega
      clear hl hn hk hz
      dsimp only at cN cS
      go_enter Tryz.func79, Tryz.ntmps79
      go_wp2_with (first
        | (go_at_call 98; (with_reducible refine (cN _).mono ?_); rintro e u1 ⟨rfl, k1⟩; obtain ⟨_, c0, c1, c2, c3, c4, c5⟩ := hb.kept k1)
        | (go_at_call 99; (with_reducible refine (cS _).mono ?_); rintro e u2 ⟨rfl, k2⟩))
      go_ret2
      exact ⟨rfl, (hk0.trans k1).trans k2⟩
    · have he : f.err = 2 := by unfold Fr.err; rw [if_neg hl, if_neg hn]
      have hc : f.enc = ⟨#[]⟩ := Fr.enc_bad (by rw [he]; decide)
      rw [he, hc]
      rw [show f.nums = false by simpa using hn] at cN
      clear he hc
      obtain ⟨b, l, p, q, k, d⟩ := f
      have hk0 := Kept.alloc (Kept.refl w) (.cells #[.int .i64 b, .int .i64 l, .int .i64 p, .int .i64 q, .int .u8 k, .string d] 113)
      have t1 : decide (44 < (d.size : Int)) = false := by simp at hl ⊢; omega
      clear hl hn hk hz
      dsimp only at cN
      go_enter Tryz.func79, Tryz.ntmps79
      go_wp2_with (go_at_call 98; (with_reducible refine (cN _).mono ?_); rintro e u1 ⟨rfl, k1⟩)
      go_ret2
      exact ⟨rfl, hk0.trans k1⟩
end Go.Proofs.YtckbhjjflpobbaaGreat.Fk

namespace Go.Proofs.YtckbhjjflpobbaaGreat.Fk
open Go.RowKit Go.Proofs.YtckbhjjflpobbaaGreat.Mem Go.Proofs.YtckbhjjflpobbaaGreat.Pk

/-- Block B is a cursor before l. -/
def Cur (B : Nat) (l : List UInt8) (w : World) : Prop := w.heap[B]? = some (.cells #[.string (str l)] 181 (0, 0))
theorem Cur.kept {B : Nat} {r : List UInt8} {w w' : World} (h : Cur B r w) (k : Kept w w') : Cur B r w' := k.at h
theorem min_nat (n m : Nat) : (min (n : Int) (m : Int)).toNat = min n m := by omega
theorem first_str (l : List UInt8) (n : Nat) : (str l).extract 0 (min n (str l).size) = str (l.take n) := by
  apply str_inj
  rw [Lib.extract_data, list_str, list_str, size_str]
  simp
theorem rest_str (l : List UInt8) (n : Nat) : (str l).extract (min n (str l).size) (str l).size = str (l.drop n) := by
  apply str_inj
  rw [Lib.extract_data, list_str, list_str, size_str]
  by_cases h : n ≤ l.length
  · rw [Nat.min_eq_left h, List.take_of_length_le (by rw [List.length_drop]; omega)]
  · rw [Nat.min_eq_right (by omega), List.drop_length, List.drop_eq_nil_of_le (by omega), List.take_nil]

set_option maxRecDepth 100000 in
theorem text_c (B : Nat) (l : List UInt8) (n : Nat) (w : World) (h : Cur B l w) :
    Calls Tryz.prog 134 #[.pointer (some ⟨B, 0, none⟩), .int .i64 n] w fun e w' => e = .returned (.string (str (l.take n))) ∧ Cur B (l.drop n) w' ∧ But B w w' := by
  rw [← first_str]
  unfold Cur at h ⊢
  rw [← rest_str]
  obtain ⟨r, hr⟩ : ∃ r, r = str l := ⟨_, rfl⟩
  rw [← hr] at h ⊢
  have c := cell_of_one h
  have f := free_of_one h
  have H := Lib.hid h
  clear h hr
  go_enter Tryz.func134, Tryz.ntmps134
  go_wp2
  go_ret
  rw [min_nat]
  exact ⟨rfl, one_setCell H.out, But.set B 0 w _⟩

theorem uf_str (l : List UInt8) (n : Nat) (hn : n ≤ 8) : ufN (str (l.take n)) = val (l.take n) := by
  unfold ufN
  rw [size_str, list_str]
  split
  · rename_i h
    have e : l.take n = [] := List.eq_nil_of_length_eq_zero (by rw [List.length_take] at h ⊢; omega)
    rw [e]; rfl
  · rfl
set_option maxRecDepth 100000 in
theorem number_c (B : Nat) (l : List UInt8) (n : Nat) (hn : n ≤ 6) (w : World) (h : Cur B l w) :
    Calls Tryz.prog 133 #[.pointer (some ⟨B, 0, none⟩), .int .i64 n] w fun e w' => e = .returned (.int .i64 (val (l.take n))) ∧ Cur B (l.drop n) w' ∧ But B w w' := by
  have ct := text_c B l n w h
  have cu := unfixed_any (str (l.take n))
  rw [uf_str l n (by omega)] at cu
  have hv : val (l.take n) < 281474976710656 := Nat.lt_of_lt_of_le (val_short (l := l) (k := n)) (Nat.pow_le_pow_right (n := 256) (by decide) hn)
  obtain ⟨E, hE⟩ : ∃ E, E = ufE (str (l.take n)) := ⟨_, rfl⟩
  rw [← hE] at cu
  obtain ⟨v, hV⟩ : ∃ v, v = val (l.take n) := ⟨_, rfl⟩
  rw [← hV] at cu hv ⊢
  obtain ⟨s, hs⟩ : ∃ s, s = str (l.take n) := ⟨_, rfl⟩
  rw [← hs] at cu ct
  clear hE hV hs h
  go_enter Tryz.func133, Tryz.ntmps133
  go_wp2_with (first
    | (go_at_call 134; (with_reducible refine ct.mono ?_); rintro e u1 ⟨rfl, k1, b1⟩)
    | (go_at_call 121; (with_reducible refine (cu _).mono ?_); rintro e u2 ⟨rfl, k2⟩))
  go_ret
  exact ⟨rfl, k1.kept k2, b1.trans (k2.but _)⟩
end Go.Proofs.YtckbhjjflpobbaaGreat.Fk

namespace Go.Proofs.YtckbhjjflpobbaaGreat.Fk
open Go.RowKit Go.Proofs.YtckbhjjflpobbaaGreat.Mem Go.Proofs.YtckbhjjflpobbaaGreat.Pk

/-- The six fields, as a block's cells. -/
def fcells (b l p q : Int) (k : Int) (d : ByteArray) : Array Value := #[.int .i64 b, .int .i64 l, .int .i64 p, .int .i64 q, .int .u8 k, .string d]
/-- In the midst of fields: the result's block R, the cursor C before r, the frame F; below the first world as it was. -/
structure Fs (w : World) (R C F : Nat) (r : List UInt8) (b l p q k : Int) (d : ByteArray) (W : World) : Prop where
  rc : w.heap.size ≤ R ∧ R < C ∧ C < F
  bel : Below w.heap.size w W
  hR : W.heap[R]? = some (.cells (fcells 0 0 0 0 0 ⟨#[]⟩) 113 (0, 0))
  hC : Cur C r W
  hF : W.heap[F]? = some (.cells (fcells b l p q k d) 113 (0, 0))
theorem Fs.call {w : World} {R C F : Nat} {r r' : List UInt8} {b l p q k : Int} {d : ByteArray} {W W' : World} (h : Fs w R C F r b l p q k d W) (hc : Cur C r' W') (hb : But C W W') : Fs w R C F r' b l p q k d W' :=
  ⟨h.rc, h.bel.trans (hb.below (by have := h.rc; omega) h.bel.size), hb.at h.hR (by have := h.rc; omega), hc, hb.at h.hF (by have := h.rc; omega)⟩
theorem set_block {W : World} {F i : Nat} {cs : Array Value} {T : TypeId} {v : Value} (h : W.heap[F]? = some (.cells cs T (0, 0))) : (W.setCell ⟨F, i, none⟩ v).heap[F]? = some (.cells (cs.setIfInBounds i v) T (0, 0)) := heap_setCell_same _ _ _ _ _ _ h
theorem six {W : World} {R : Nat} {T : TypeId} {b0 l0 p0 q0 k0 b l p q k : Int} {d0 d : ByteArray} (h : W.heap[R]? = some (.cells (fcells b0 l0 p0 q0 k0 d0) T (0, 0))) :
    ((((((W.setCell ⟨R, 0, none⟩ (.int .i64 b)).setCell ⟨R, 1, none⟩ (.int .i64 l)).setCell ⟨R, 2, none⟩ (.int .i64 p)).setCell ⟨R, 3, none⟩ (.int .i64 q)).setCell ⟨R, 4, none⟩ (.int .u8 k)).setCell ⟨R, 5, none⟩ (.string d)).heap[R]? = some (.cells (fcells b l p q k d) T (0, 0)) :=
  set_block (set_block (set_block (set_block (set_block (set_block h)))))
theorem six_below {w W : World} {n R : Nat} {b l p q k : Int} {d : ByteArray} (h : Below n w W) (hn : n ≤ R) :
    Below n w ((((((W.setCell ⟨R, 0, none⟩ (.int .i64 b)).setCell ⟨R, 1, none⟩ (.int .i64 l)).setCell ⟨R, 2, none⟩ (.int .i64 p)).setCell ⟨R, 3, none⟩ (.int .i64 q)).setCell ⟨R, 4, none⟩ (.int .u8 k)).setCell ⟨R, 5, none⟩ (.string d)) :=
  (((((h.setCell hn _).setCell hn _).setCell hn _).setCell hn _).setCell hn _).setCell hn _
theorem six_cells {y : World} {F : Nat} {T : TypeId} {b l p q k : Int} {d : ByteArray} (h : y.heap[F]? = some (.cells (fcells b l p q k d) T (0, 0))) :
    y.cell? ⟨F, 0, none⟩ = some (.int .i64 b) ∧ y.cell? ⟨F, 1, none⟩ = some (.int .i64 l) ∧ y.cell? ⟨F, 2, none⟩ = some (.int .i64 p) ∧ y.cell? ⟨F, 3, none⟩ = some (.int .i64 q) ∧ y.cell? ⟨F, 4, none⟩ = some (.int .u8 k) ∧ y.cell? ⟨F, 5, none⟩ = some (.string d) :=
  ⟨cell_of_row _ _ _ _ _ _ h, cell_of_row _ _ _ _ _ _ h, cell_of_row _ _ _ _ _ _ h, cell_of_row _ _ _ _ _ _ h, cell_of_row _ _ _ _ _ _ h, cell_of_row _ _ _ _ _ _ h⟩
theorem Fs.base {w : World} {R C F : Nat} {r : List UInt8} {b l p q k : Int} {d : ByteArray} {W : World} (h : Fs w R C F r b l p q k d W) (i : Nat) (v : Value) :
    Below w.heap.size w (W.setCell ⟨F, i, none⟩ v) ∧ (W.setCell ⟨F, i, none⟩ v).heap[R]? = some (.cells (fcells 0 0 0 0 0 ⟨#[]⟩) 113 (0, 0)) ∧ Cur C r (W.setCell ⟨F, i, none⟩ v) := by
  have := h.rc
  refine ⟨h.bel.setCell (by show w.heap.size ≤ F; omega) _, ?_, ?_⟩
  · rw [heap_setCell_other _ _ _ _ (by show R ≠ F; omega)]; exact h.hR
  · unfold Cur; rw [heap_setCell_other _ _ _ _ (by show C ≠ F; omega)]; exact h.hC
theorem Fs.s0 {w : World} {R C F : Nat} {r : List UInt8} {b l p q k : Int} {d : ByteArray} {W : World} (h : Fs w R C F r b l p q k d W) (v : Int) : Fs w R C F r v l p q k d (W.setCell ⟨F, 0, none⟩ (.int .i64 v)) :=
  ⟨h.rc, (h.base 0 _).1, (h.base 0 _).2.1, (h.base 0 _).2.2, set_block h.hF⟩
theorem Fs.s1 {w : World} {R C F : Nat} {r : List UInt8} {b l p q k : Int} {d : ByteArray} {W : World} (h : Fs w R C F r b l p q k d W) (v : Int) : Fs w R C F r b v p q k d (W.setCell ⟨F, 1, none⟩ (.int .i64 v)) :=
  ⟨h.rc, (h.base 1 _).1, (h.base 1 _).2.1, (h.base 1 _).2.2, set_block h.hF⟩
theorem Fs.s2 {w : World} {R C F : Nat} {r : List UInt8} {b l p q k : Int} {d : ByteArray} {W : World} (h : Fs w R C F r b l p q k d W) (v : Int) : Fs w R C F r b l v q k d (W.setCell ⟨F, 2, none⟩ (.int .i64 v)) :=
  ⟨h.rc, (h.base 2 _).1, (h.base 2 _).2.1, (h.base 2 _).2.2, set_block h.hF⟩
theorem Fs.s3 {w : World} {R C F : Nat} {r : List UInt8} {b l p q k : Int} {d : ByteArray} {W : World} (h : Fs w R C F r b l p q k d W) (v : Int) : Fs w R C F r b l p v k d (W.setCell ⟨F, 3, none⟩ (.int .i64 v)) :=
  ⟨h.rc, (h.base 3 _).1, (h.base 3 _).2.1, (h.base 3 _).2.2, set_block h.hF⟩
theorem Fs.s4 {w : World} {R C F : Nat} {r : List UInt8} {b l p q k : Int} {d : ByteArray} {W : World} (h : Fs w R C F r b l p q k d W) (v : Int) : Fs w R C F r b l p q v d (W.setCell ⟨F, 4, none⟩ (.int .u8 v)) :=
  ⟨h.rc, (h.base 4 _).1, (h.base 4 _).2.1, (h.base 4 _).2.2, set_block h.hF⟩
theorem Fs.s5 {w : World} {R C F : Nat} {r : List UInt8} {b l p q k : Int} {d : ByteArray} {W : World} (h : Fs w R C F r b l p q k d W) (v : ByteArray) : Fs w R C F r b l p q k v (W.setCell ⟨F, 5, none⟩ (.string v)) :=
  ⟨h.rc, (h.base 5 _).1, (h.base 5 _).2.1, (h.base 5 _).2.2, set_block h.hF⟩
/-- The cells that loads and stores ask for. -/
theorem Fs.cells {w : World} {R C F : Nat} {r : List UInt8} {b l p q k : Int} {d : ByteArray} {W : World} (h : Fs w R C F r b l p q k d W) :
    (W.cell? ⟨F, 0, none⟩ = some (.int .i64 b) ∧ W.cell? ⟨F, 1, none⟩ = some (.int .i64 l) ∧ W.cell? ⟨F, 2, none⟩ = some (.int .i64 p) ∧ W.cell? ⟨F, 3, none⟩ = some (.int .i64 q) ∧ W.cell? ⟨F, 4, none⟩ = some (.int .u8 k) ∧ W.cell? ⟨F, 5, none⟩ = some (.string d)) ∧
    ∀ i, W.frozen? ⟨F, i, none⟩ = false :=
  ⟨⟨cell_of_row _ _ _ _ _ _ h.hF, cell_of_row _ _ _ _ _ _ h.hF, cell_of_row _ _ _ _ _ _ h.hF, cell_of_row _ _ _ _ _ _ h.hF, cell_of_row _ _ _ _ _ _ h.hF, cell_of_row _ _ _ _ _ _ h.hF⟩, fun _ => frozen_of_row _ _ _ _ _ h.hF⟩
theorem Fs.rcells {w : World} {R C F : Nat} {r : List UInt8} {b l p q k : Int} {d : ByteArray} {W : World} (h : Fs w R C F r b l p q k d W) :
    (W.cell? ⟨R, 0, none⟩ = some (.int .i64 0) ∧ W.cell? ⟨R, 1, none⟩ = some (.int .i64 0) ∧ W.cell? ⟨R, 2, none⟩ = some (.int .i64 0) ∧ W.cell? ⟨R, 3, none⟩ = some (.int .i64 0) ∧ W.cell? ⟨R, 4, none⟩ = some (.int .u8 0) ∧ W.cell? ⟨R, 5, none⟩ = some (.string ⟨#[]⟩)) ∧
    ∀ i, W.frozen? ⟨R, i, none⟩ = false :=
  ⟨⟨cell_of_row _ _ _ _ _ _ h.hR, cell_of_row _ _ _ _ _ _ h.hR, cell_of_row _ _ _ _ _ _ h.hR, cell_of_row _ _ _ _ _ _ h.hR, cell_of_row _ _ _ _ _ _ h.hR, cell_of_row _ _ _ _ _ _ h.hR⟩, fun _ => frozen_of_row _ _ _ _ _ h.hR⟩
theorem Fs.start (w : World) (s : List UInt8) :
    Fs w w.heap.size (w.heap.size + 1) (w.heap.size + 1 + 1) s 0 0 0 0 0 ⟨#[]⟩ (((w.alloc (.cells (fcells 0 0 0 0 0 ⟨#[]⟩) 113)).alloc (.cells #[.string (str s)] 181)).alloc (.cells (fcells 0 0 0 0 0 ⟨#[]⟩) 113)) := by
  refine ⟨by omega, (((Kept.refl w).alloc _).alloc _).alloc _, ?_, ?_, ?_⟩
  · exact (((Kept.refl _).alloc _).alloc _).at (MapKept.heap_alloc w _).1
  · have := ((Kept.refl _).alloc (.cells (fcells 0 0 0 0 0 ⟨#[]⟩) 113)).at (MapKept.heap_alloc (w.alloc (.cells (fcells 0 0 0 0 0 ⟨#[]⟩) 113)) (.cells #[.string (str s)] 181)).1
    simpa [Cur] using this
  · have := (MapKept.heap_alloc ((w.alloc (.cells (fcells 0 0 0 0 0 ⟨#[]⟩) 113)).alloc (.cells #[.string (str s)] 181)) (.cells (fcells 0 0 0 0 0 ⟨#[]⟩) 113)).1
    simpa using this

set_option maxHeartbeats 4000000 in
set_option maxRecDepth 100000 in
theorem fields_c (s : ByteArray) (w : World) :
    Calls Tryz.prog 123 #[.string s] w fun e w' => e = .returned (.agg #[.int .i64 (flds s).boot, .int .i64 (flds s).lsn, .int .i64 (flds s).part, .int .i64 (flds s).parts, .int .u8 (flds s).kind, .string (flds s).data]) ∧ Kept w w' := by
  have h0 := Fs.start w s.data.toList
  rw [str_list s] at h0
  have c1 : ∀ C (W : World), Cur C s.data.toList W → Calls Tryz.prog 133 #[.pointer (some ⟨C, 0, none⟩), .int .i64 4] W fun e w' => e = .returned (.int .i64 (val (s.data.toList.take 4))) ∧ Cur C (s.data.toList.drop 4) w' ∧ But C W w' := fun C W h => number_c C s.data.toList 4 (by decide) W h
  have c2 : ∀ C (W : World), Cur C (l1 s) W → Calls Tryz.prog 133 #[.pointer (some ⟨C, 0, none⟩), .int .i64 6] W fun e w' => e = .returned (.int .i64 (val ((l1 s).take 6))) ∧ Cur C ((l1 s).drop 6) w' ∧ But C W w' := fun C W h => number_c C (l1 s) 6 (by decide) W h
  have c3 : ∀ C (W : World), Cur C (l2 s) W → Calls Tryz.prog 133 #[.pointer (some ⟨C, 0, none⟩), .int .i64 1] W fun e w' => e = .returned (.int .i64 (val ((l2 s).take 1))) ∧ Cur C ((l2 s).drop 1) w' ∧ But C W w' := fun C W h => number_c C (l2 s) 1 (by decide) W h
  have c4 : ∀ C (W : World), Cur C (l3 s) W → Calls Tryz.prog 133 #[.pointer (some ⟨C, 0, none⟩), .int .i64 1] W fun e w' => e = .returned (.int .i64 (val ((l3 s).take 1))) ∧ Cur C ((l3 s).drop 1) w' ∧ But C W w' := fun C W h => number_c C (l3 s) 1 (by decide) W h
  have c5 : ∀ C (W : World), Cur C (l4 s) W → Calls Tryz.prog 133 #[.pointer (some ⟨C, 0, none⟩), .int .i64 1] W fun e w' => e = .returned (.int .i64 (val ((l4 s).take 1))) ∧ Cur C ((l4 s).drop 1) w' ∧ But C W w' := fun C W h => number_c C (l4 s) 1 (by decide) W h
  have c6 : ∀ C (W : World), Cur C (l5 s) W → Calls Tryz.prog 133 #[.pointer (some ⟨C, 0, none⟩), .int .i64 1] W fun e w' => e = .returned (.int .i64 (val ((l5 s).take 1))) ∧ Cur C ((l5 s).drop 1) w' ∧ But C W w' := fun C W h => number_c C (l5 s) 1 (by decide) W h
  have c7 : ∀ C (W : World), Cur C (l6 s) W → Calls Tryz.prog 134 #[.pointer (some ⟨C, 0, none⟩), .int .i64 4] W fun e w' => e = .returned (.string (str ((l6 s).take 4))) ∧ Cur C ((l6 s).drop 4) w' ∧ But C W w' := fun C W h => text_c C (l6 s) 4 W h
  have c8 := fun C (W : World) (h : Cur C (l7 s) W) => text_c C (l7 s) (val ((l5 s).take 1)) W h
  have b5 : val ((l4 s).take 1) < 256 := val_short
  have b6 : val ((l5 s).take 1) < 256 := val_short
  unfold flds
  dsimp only
  have e1 : s.data.toList.drop 4 = l1 s := rfl
  have e2 : (l1 s).drop 6 = l2 s := rfl
  have e3 : (l2 s).drop 1 = l3 s := rfl
  have e4 : (l3 s).drop 1 = l4 s := rfl
  have e5 : (l4 s).drop 1 = l5 s := rfl
  have e6 : (l5 s).drop 1 = l6 s := rfl
  have e7 : (l6 s).drop 4 = l7 s := rfl
  rw [e1] at c1; rw [e2] at c2; rw [e3] at c3; rw [e4] at c4; rw [e5] at c5; rw [e6] at c6; rw [e7] at c7
  generalize (l7 s).drop (val ((l5 s).take 1)) = a8 at c8
  generalize hd : str ((l7 s).take (val ((l5 s).take 1))) = d at c8
  generalize val ((l5 s).take 1) = z at *
  generalize str ((l6 s).take 4) = dx at c7
  generalize val ((l4 s).take 1) = v5 at *
  generalize val ((l3 s).take 1) = v4 at *
  generalize val ((l2 s).take 1) = v3 at *
  generalize val ((l1 s).take 6) = v2 at *
  generalize val (s.data.toList.take 4) = v1 at *
  generalize l7 s = a7 at *
  generalize l6 s = a6 at *
  generalize l5 s = a5 at *
  generalize l4 s = a4 at *
  generalize l3 s = a3 at *
  generalize l2 s = a2 at *
  generalize l1 s = a1 at *
  generalize s.data.toList = a0 at *
  clear e1 e2 e3 e4 e5 e6 e7 hd
  unfold fcells at h0
  obtain ⟨x, hx⟩ : ∃ x, x = (((w.alloc (.cells #[.int .i64 0, .int .i64 0, .int .i64 0, .int .i64 0, .int .u8 0, .string ⟨#[]⟩] 113)).alloc (.cells #[.string s] 181)).alloc (.cells #[.int .i64 0, .int .i64 0, .int .i64 0, .int .i64 0, .int .u8 0, .string ⟨#[]⟩] 113)) := ⟨_, rfl⟩
  rw [← hx] at h0
  go_enter Tryz.func123, Tryz.ntmps123
  go_wp2_with fail
  rw [← hx]
  clear hx
  go_wp2_with (first
    | (go_at_call 133; (with_reducible refine (c1 _ _ h0.hC).mono ?_); rintro e u1 ⟨rfl, k1, b1⟩; have g1 := h0.call k1 b1; obtain ⟨⟨_, _, _, _, _, _⟩, _⟩ := g1.cells; have h1 := g1.s0 v1)
    | (go_at_call 133; (with_reducible refine (c2 _ _ h1.hC).mono ?_); rintro e u2 ⟨rfl, k2, b2⟩; have g2 := h1.call k2 b2; obtain ⟨⟨_, _, _, _, _, _⟩, _⟩ := g2.cells; have h2 := g2.s1 v2)
    | (go_at_call 133; (with_reducible refine (c3 _ _ h2.hC).mono ?_); rintro e u3 ⟨rfl, k3, b3⟩; have g3 := h2.call k3 b3; obtain ⟨⟨_, _, _, _, _, _⟩, _⟩ := g3.cells; have h3 := g3.s2 v3)
    | (go_at_call 133; (with_reducible refine (c4 _ _ h3.hC).mono ?_); rintro e u4 ⟨rfl, k4, b4⟩; have g4 := h3.call k4 b4; obtain ⟨⟨_, _, _, _, _, _⟩, _⟩ := g4.cells; have h4 := g4.s3 v4)
    | (go_at_call 133; (with_reducible refine (c5 _ _ h4.hC).mono ?_); rintro e u5 ⟨rfl, k5, b5⟩; have g5 := h4.call k5 b5; obtain ⟨⟨_, _, _, _, _, _⟩, _⟩ := g5.cells; have h5 := g5.s4 v5)
    | (go_at_call 133; (with_reducible refine (c6 _ _ h5.hC).mono ?_); rintro e u6 ⟨rfl, k6, b6⟩; have g6 := h5.call k6 b6; obtain ⟨⟨_, _, _, _, _, _⟩, _⟩ := g6.cells)
    | (go_at_call 134; (with_reducible refine (c7 _ _ g6.hC).mono ?_); rintro e u7 ⟨rfl, k7, b7⟩; have g7 := g6.call k7 b7; obtain ⟨⟨_, _, _, _, _, _⟩, _⟩ := g7.cells)
    | (go_at_call 134; (with_reducible refine (c8 _ _ g7.hC).mono ?_); rintro e u8 ⟨rfl, k8, b8⟩; have g8 := g7.call k8 b8; obtain ⟨⟨_, _, _, _, _, _⟩, _⟩ := g8.cells; have h8 := g8.s5 d; obtain ⟨⟨_, _, _, _, _, _⟩, _⟩ := h8.cells; obtain ⟨⟨_, _, _, _, _, _⟩, _⟩ := h8.rcells))
  have hb := h8.bel
  have hy := six (b := v1) (l := v2) (p := v3) (q := v4) (k := v5) (d := d) h8.hR
  have ky := six_below (b := v1) (l := v2) (p := v3) (q := v4) (k := v5) (d := d) hb (Nat.le_refl _)
  generalize (((((((u8.setCell ⟨w.heap.size + 1 + 1, 5, none⟩ (.string d)).setCell ⟨w.heap.size, 0, none⟩ (.int .i64 v1)).setCell ⟨w.heap.size, 1, none⟩ (.int .i64 v2)).setCell ⟨w.heap.size, 2, none⟩ (.int .i64 v3)).setCell ⟨w.heap.size, 3, none⟩ (.int .i64 v4)).setCell ⟨w.heap.size, 4, none⟩ (.int .u8 v5)).setCell ⟨w.heap.size, 5, none⟩ (.string d)) = y at hy ky ⊢
  obtain ⟨c0, c1, c2, c3, c4, c5⟩ := six_cells hy
  exact bodyPost_ret (v := .agg #[.int .i64 v1, .int .i64 v2, .int .i64 v3, .int .i64 v4, .int .u8 v5, .string d]) (by simp [results, Tryz.results123, go_sem, c0, c1, c2, c3, c4, c5]) rfl ⟨rfl, ky⟩
end Go.Proofs.YtckbhjjflpobbaaGreat.Fk

namespace Go.Proofs.YtckbhjjflpobbaaGreat.Fk
open Go.RowKit Go.Proofs.YtckbhjjflpobbaaGreat.Mem Go.Proofs.YtckbhjjflpobbaaGreat.Pk

theorem dec_bad1 {s : ByteArray} (h : (flds s).err ≠ 0) : decF s = Fr.nil ∧ decE s = 12 := by
  have e : dec s = none := by unfold dec; rw [if_neg (fun h2 => h h2.1)]
  unfold decF decE; rw [e]; exact ⟨rfl, rfl⟩
theorem dec_bad2 {s : ByteArray} (h : (flds s).enc ≠ s) : decF s = Fr.nil ∧ decE s = 12 := by
  have e : dec s = none := by unfold dec; rw [if_neg (fun h2 => h h2.2)]
  unfold decF decE; rw [e]; exact ⟨rfl, rfl⟩
theorem dec_ok {s : ByteArray} (h : (flds s).err = 0) (h2 : (flds s).enc = s) : decF s = flds s ∧ decE s = 0 := by
  have e : dec s = some (flds s) := by unfold dec; rw [if_pos ⟨h, h2⟩]
  unfold decF decE; rw [e]; exact ⟨rfl, rfl⟩
theorem flds_small (s : ByteArray) : (flds s).data.size ≤ 255 := by
  unfold flds
  have h : val ((l5 s).take 1) < 256 := val_short
  rw [size_str, List.length_take]; omega
theorem flds_kind (s : ByteArray) : (flds s).kind < 256 := val_short

theorem rblock {y : World} {F : Nat} {T : TypeId} {b l p q k : Int} {d : ByteArray} (h : y.heap[F]? = some (.cells (fcells b l p q k d) T (0, 0))) :
    (y.cell? ⟨F, 0, none⟩ = some (.int .i64 b) ∧ y.cell? ⟨F, 1, none⟩ = some (.int .i64 l) ∧ y.cell? ⟨F, 2, none⟩ = some (.int .i64 p) ∧ y.cell? ⟨F, 3, none⟩ = some (.int .i64 q) ∧ y.cell? ⟨F, 4, none⟩ = some (.int .u8 k) ∧ y.cell? ⟨F, 5, none⟩ = some (.string d)) ∧ ∀ i, y.frozen? ⟨F, i, none⟩ = false :=
  ⟨six_cells h, fun i => frozen_of_row y F i _ _ h⟩
set_option maxHeartbeats 4000000 in
set_option maxRecDepth 100000 in
theorem decode_g (b l p q : Int) (k : Nat) (d s : ByteArray) (w : World)
    (cf : ∀ w, Calls Tryz.prog 123 #[.string s] w fun e w' => e = .returned (.agg #[.int .i64 b, .int .i64 l, .int .i64 p, .int .i64 q, .int .u8 k, .string d]) ∧ Kept w w')
    (ce : ∀ w, Calls Tryz.prog 79 #[.agg #[.int .i64 b, .int .i64 l, .int .i64 p, .int .i64 q, .int .u8 k, .string d]] w fun e w' => e = .returned (.tuple #[.string s, .int .i64 0]) ∧ Kept w w') :
    Calls Tryz.prog 107 #[.string s] w fun e w' => e = .returned (.tuple #[.agg #[.int .i64 b, .int .i64 l, .int .i64 p, .int .i64 q, .int .u8 k, .string d], .int .i64 0]) ∧ Kept w w' := by
  have hx1 : Kept w (w.alloc (.cells #[.int .i64 0, .int .i64 0, .int .i64 0, .int .i64 0, .int .u8 0, .string ⟨#[]⟩] 113)) := (Kept.refl w).alloc _
  have hR0 := (MapKept.heap_alloc w (.cells (fcells 0 0 0 0 0 ⟨#[]⟩) 113)).1
  go_enter Tryz.func107, Tryz.ntmps107
  go_wp2_with fail
  go_step3
  go_wp2_with (first
    | (go_at_call 123; (with_reducible refine (cf _).mono ?_); rintro e u1 ⟨rfl, k1⟩; have hb := Box.start u1 113 b l p q k d; have hR1 := (k1.alloc (.cells #[.int .i64 b, .int .i64 l, .int .i64 p, .int .i64 q, .int .u8 k, .string d] 113)).at hR0; obtain ⟨_, a0, a1, a2, a3, a4, a5⟩ := hb)
    | (go_at_call 79; (with_reducible refine (ce _).mono ?_); rintro e u2 ⟨rfl, k2⟩; have hR2 := k2.at hR1; have hb2 := Box.kept (Box.start u1 113 b l p q k d) k2; obtain ⟨_, c0, c1, c2, c3, c4, c5⟩ := hb2; obtain ⟨⟨r0, r1, r2, r3, r4, r5⟩, fz⟩ := rblock hR2))
  rw [Exit.noGoto_ret]
  have hy := six (b := b) (l := l) (p := p) (q := q) (k := k) (d := d) hR2
  have ky := six_below (b := b) (l := l) (p := p) (q := q) (k := k) (d := d) (((hx1.trans k1).alloc _).trans k2) (Nat.le_refl w.heap.size)
  clear c0 c1 c2 c3 c4 c5 hR2 k2
  generalize ((((((u2.setCell ⟨w.heap.size, 0, none⟩ (.int .i64 b)).setCell ⟨w.heap.size, 1, none⟩ (.int .i64 l)).setCell ⟨w.heap.size, 2, none⟩ (.int .i64 p)).setCell ⟨w.heap.size, 3, none⟩ (.int .i64 q)).setCell ⟨w.heap.size, 4, none⟩ (.int .u8 k)).setCell ⟨w.heap.size, 5, none⟩ (.string d)) = y at hy ky ⊢
  obtain ⟨c0, c1, c2, c3, c4, c5⟩ := six_cells hy
  exact bodyPost_ret (v := .tuple #[.agg #[.int .i64 b, .int .i64 l, .int .i64 p, .int .i64 q, .int .u8 k, .string d], .int .i64 0]) (by simp [results, Tryz.results107, go_sem, c0, c1, c2, c3, c4, c5]) rfl ⟨rfl, ky⟩
set_option maxHeartbeats 4000000 in
set_option maxRecDepth 100000 in
theorem decode_b (b l p q : Int) (k : Nat) (d s t : ByteArray) (E : Int) (w : World) (h : (E != 0) = true ∨ (E = 0 ∧ (!t.toList == s.toList) = true))
    (cf : ∀ w, Calls Tryz.prog 123 #[.string s] w fun e w' => e = .returned (.agg #[.int .i64 b, .int .i64 l, .int .i64 p, .int .i64 q, .int .u8 k, .string d]) ∧ Kept w w')
    (ce : ∀ w, Calls Tryz.prog 79 #[.agg #[.int .i64 b, .int .i64 l, .int .i64 p, .int .i64 q, .int .u8 k, .string d]] w fun e w' => e = .returned (.tuple #[.string t, .int .i64 E]) ∧ Kept w w') :
    Calls Tryz.prog 107 #[.string s] w fun e w' => e = .returned (.tuple #[.agg #[.int .i64 0, .int .i64 0, .int .i64 0, .int .i64 0, .int .u8 0, .string ⟨#[]⟩], .int .i64 12]) ∧ Kept w w' := by
  have hx1 : Kept w (w.alloc (.cells #[.int .i64 0, .int .i64 0, .int .i64 0, .int .i64 0, .int .u8 0, .string ⟨#[]⟩] 113)) := (Kept.refl w).alloc _
  have hR0 := (MapKept.heap_alloc w (.cells (fcells 0 0 0 0 0 ⟨#[]⟩) 113)).1
  go_enter Tryz.func107, Tryz.ntmps107
  go_wp2_with fail
  refine wp_scope_jumps 0 (fun a' w' => ∃ u4 u5 u6 u7 u8 u9 u10 u11 u12 u13 u14 u15 u16 u17 u18 u19 u20 u21 u22 : Value, a' = { tmps := #[.string s, undef, .pointer (some ⟨w.heap.size, 0, none⟩), .int .i64 0, u4, u5, u6, u7, u8, u9, u10, u11, u12, u13, u14, u15, u16, u17, u18, u19, u20, u21, u22], defers := [] } ∧ w'.heap[w.heap.size]? = some (.cells (fcells 0 0 0 0 0 ⟨#[]⟩) 113 (0, 0)) ∧ Below w.heap.size w w') (fun _ _ => 0) rfl ?_ ?_
  · rcases h with h | ⟨rfl, h⟩
    · go_wp2_with (first
        | (go_at_call 123; (with_reducible refine (cf _).mono ?_); rintro e u1 ⟨rfl, k1⟩; have hb := Box.start u1 113 b l p q k d; have hR1 := (k1.alloc (.cells #[.int .i64 b, .int .i64 l, .int .i64 p, .int .i64 q, .int .u8 k, .string d] 113)).at hR0; obtain ⟨_, a0, a1, a2, a3, a4, a5⟩ := hb)
        | (go_at_call 79; (with_reducible refine (ce _).mono ?_); rintro e u2 ⟨rfl, k2⟩; have hR2 := k2.at hR1; have hb2 := Box.kept (Box.start u1 113 b l p q k d) k2; obtain ⟨_, c0, c1, c2, c3, c4, c5⟩ := hb2; obtain ⟨⟨r0, r1, r2, r3, r4, r5⟩, fz⟩ := rblock hR2))
      go_step3
      exact ⟨rfl, _, _, _, _, _, _, _, _, _, _, _, _, _, _, _, _, _, _, _, rfl, hR2, ((hx1.trans k1).alloc _).trans k2⟩
    · go_wp2_with (first
        | (go_at_call 123; (with_reducible refine (cf _).mono ?_); rintro e u1 ⟨rfl, k1⟩; have hb := Box.start u1 113 b l p q k d; have hR1 := (k1.alloc (.cells #[.int .i64 b, .int .i64 l, .int .i64 p, .int .i64 q, .int .u8 k, .string d] 113)).at hR0; obtain ⟨_, a0, a1, a2, a3, a4, a5⟩ := hb)
        | (go_at_call 79; (with_reducible refine (ce _).mono ?_); rintro e u2 ⟨rfl, k2⟩; have hR2 := k2.at hR1; have hb2 := Box.kept (Box.start u1 113 b l p q k d) k2; obtain ⟨_, c0, c1, c2, c3, c4, c5⟩ := hb2; obtain ⟨⟨r0, r1, r2, r3, r4, r5⟩, fz⟩ := rblock hR2))
      go_step3
      exact ⟨rfl, _, _, _, _, _, _, _, _, _, _, _, _, _, _, _, _, _, _, _, rfl, hR2, ((hx1.trans k1).alloc _).trans k2⟩
  · rintro a' w' ⟨u4, u5, u6, u7, u8, u9, u10, u11, u12, u13, u14, u15, u16, u17, u18, u19, u20, u21, u22, rfl, hR, hB⟩
    obtain ⟨⟨r0, r1, r2, r3, r4, r5⟩, fz⟩ := rblock hR
    go_wp2
    simp only [Exit.jump]
    have hy := six (b := 0) (l := 0) (p := 0) (q := 0) (k := 0) (d := ⟨#[]⟩) hR
    have ky := six_below (b := 0) (l := 0) (p := 0) (q := 0) (k := 0) (d := ⟨#[]⟩) hB (Nat.le_refl w.heap.size)
    clear r0 r1 r2 r3 r4 r5 hR hB
    generalize ((((((w'.setCell ⟨w.heap.size, 0, none⟩ (.int .i64 0)).setCell ⟨w.heap.size, 1, none⟩ (.int .i64 0)).setCell ⟨w.heap.size, 2, none⟩ (.int .i64 0)).setCell ⟨w.heap.size, 3, none⟩ (.int .i64 0)).setCell ⟨w.heap.size, 4, none⟩ (.int .u8 0)).setCell ⟨w.heap.size, 5, none⟩ (.string ⟨#[]⟩)) = y at hy ky ⊢
    obtain ⟨c0, c1, c2, c3, c4, c5⟩ := six_cells hy
    exact bodyPost_ret (v := .tuple #[.agg #[.int .i64 0, .int .i64 0, .int .i64 0, .int .i64 0, .int .u8 0, .string ⟨#[]⟩], .int .i64 12]) (by simp [results, Tryz.results107, go_sem, c0, c1, c2, c3, c4, c5]) rfl ⟨rfl, ky⟩

theorem decode_c (s : ByteArray) (w : World) :
    Calls Tryz.prog 107 #[.string s] w fun e w' => e = .returned (.tuple #[.agg #[.int .i64 (decF s).boot, .int .i64 (decF s).lsn, .int .i64 (decF s).part, .int .i64 (decF s).parts, .int .u8 (decF s).kind, .string (decF s).data], .int .i64 (decE s)]) ∧ Kept w w' := by
  have cf := fields_c s
  have ce := encode_c (flds s) (flds_kind s) (Nat.le_trans (flds_small s) (by decide))
  by_cases h1 : (flds s).err = 0
  · by_cases h2 : (flds s).enc = s
    · obtain ⟨e1, e2⟩ := dec_ok h1 h2
      rw [e1, e2]
      rw [h1, h2] at ce
      exact decode_g _ _ _ _ _ _ s w cf ce
    · obtain ⟨e1, e2⟩ := dec_bad2 h2
      rw [e1, e2]
      refine decode_b _ _ _ _ _ _ s _ _ w (.inr ⟨h1, ?_⟩) cf ce
      simp only [Bool.not_eq_true', beq_eq_false_iff_ne, ne_eq]
      intro h
      refine h2 (str_inj ?_)
      rw [← Lib.toList_data, ← Lib.toList_data]; exact h
  · obtain ⟨e1, e2⟩ := dec_bad1 h1
    rw [e1, e2]
    exact decode_b _ _ _ _ _ _ s _ _ w (.inl (by simpa using h1)) cf ce
end Go.Proofs.YtckbhjjflpobbaaGreat.Fk

namespace Go.Proofs.YtckbhjjflpobbaaGreat.Fk
open Go.RowKit Go.Proofs.YtckbhjjflpobbaaGreat.Mem Go.Proofs.YtckbhjjflpobbaaGreat.Pk

def same (b l p q : Int) (k : Nat) (d : ByteArray) (b' l' p' q' : Int) (k' : Nat) (d' : ByteArray) : Bool :=
  b == b' && (l == l' && (p == p' && (q == q' && ((k : Int) == (k' : Int) && d.toList == d'.toList))))
theorem same_iff {b l p q : Int} {k : Nat} {d : ByteArray} {b' l' p' q' : Int} {k' : Nat} {d' : ByteArray} : same b l p q k d b' l' p' q' k' d' = true ↔ (⟨b, l, p, q, k, d⟩ : Fr) = ⟨b', l', p', q', k', d'⟩ := by
  unfold same
  simp only [Bool.and_eq_true, beq_iff_eq, Fr.mk.injEq]
  constructor
  · rintro ⟨h1, h2, h3, h4, h5, h6⟩
    exact ⟨h1, h2, h3, h4, by omega, str_inj (by rw [← Lib.toList_data, ← Lib.toList_data]; exact h6)⟩
  · rintro ⟨h1, h2, h3, h4, h5, h6⟩
    exact ⟨h1, h2, h3, h4, by omega, by rw [h6]⟩
theorem eqlF (b l p q : Int) (k : Nat) (d : ByteArray) (b' l' p' q' : Int) (k' : Nat) (d' : ByteArray) (w : World) :
    (binOp .eql 113 (.agg #[.int .i64 b, .int .i64 l, .int .i64 p, .int .i64 q, .int .u8 k, .string d]) (.agg #[.int .i64 b', .int .i64 l', .int .i64 p', .int .i64 q', .int .u8 k', .string d'])).run Tryz.prog w = .ok (.bool (same b l p q k d b' l' p' q' k' d')) w := by
  unfold same
  simp [go_sem, Tryz.underlying113]
  (repeat' split) <;> simp_all

end Go.Proofs.YtckbhjjflpobbaaGreat.Fk

namespace Go.Proofs.YtckbhjjflpobbaaGreat.Fk
set_option maxRecDepth 100000
open Go.RowKit Go.Proofs.YtckbhjjflpobbaaGreat.Mem Go.ChangeShapes Go.WideShapes Go.ChangeAt

structure Fr.ok (f : Fr) : Prop where
  b : -9223372036854775808 ≤ f.boot ∧ f.boot ≤ 9223372036854775807
  l : -9223372036854775808 ≤ f.lsn ∧ f.lsn ≤ 9223372036854775807
  p : -9223372036854775808 ≤ f.part ∧ f.part ≤ 9223372036854775807
  q : -9223372036854775808 ≤ f.parts ∧ f.parts ≤ 9223372036854775807
  k : f.kind < 256
  d : f.data.size ≤ maxLen
section
variable {H : Type} {enc : TypeId × Value → H} {W : World} {v : Value} {d : DataW H} {p : List MemPlace} {r : Reach} {b0 : Nat}
theorem frame_fields : fieldsOf Tryz.prog 113 = some [(3, 0), (3, 1), (3, 2), (3, 3), (5, 4), (9, 5)] := by kernel_rfl
theorem frame_cells : Tryz.prog.cellsOf 113 = 6 := by kernel_rfl
theorem cells_u8 : Tryz.prog.cellsOf 5 = 1 := by kernel_rfl
theorem cells_i64 : Tryz.prog.cellsOf 3 = 1 := by kernel_rfl
theorem cells_str : Tryz.prog.cellsOf 9 = 1 := by kernel_rfl
theorem frame_of {base : Nat} {sp : Nat → Bool} {held : Bool} {n : Nat} {cs : List Value} {y : DataW H × List MemPlace} (h : DataW.trod enc Tryz.prog W base sp held n 113 cs = some y) : ∃ f : Fr, f.ok ∧ cs = [.int .i64 f.boot, .int .i64 f.lsn, .int .i64 f.part, .int .i64 f.parts, .int .u8 f.kind, .string f.data] := by
  obtain ⟨m, hl, hq⟩ := trod_fields frame_fields h
  rw [frame_cells] at hl
  match cs, hl with
  | [c0, c1, c2, c3, c4, c5], _ =>
    obtain ⟨y0, h0⟩ := hq 0 _ rfl
    rw [cells_i64] at h0
    obtain ⟨y1, h1⟩ := hq 1 _ rfl
    rw [cells_i64] at h1
    obtain ⟨y2, h2⟩ := hq 2 _ rfl
    rw [cells_i64] at h2
    obtain ⟨y3, h3⟩ := hq 3 _ rfl
    rw [cells_i64] at h3
    obtain ⟨y4, h4⟩ := hq 4 _ rfl
    rw [cells_u8] at h4
    obtain ⟨y5, h5⟩ := hq 5 _ rfl
    rw [cells_str] at h5
    obtain ⟨v0, e0, _, w0⟩ := DataW.trod_int Tryz.underlying3 h0
    have b0 := bounds_i64 w0
    obtain rfl : c0 = .int .i64 v0 := by simpa using e0
    obtain ⟨v1, e1, _, w1⟩ := DataW.trod_int Tryz.underlying3 h1
    have b1 := bounds_i64 w1
    obtain rfl : c1 = .int .i64 v1 := by simpa using e1
    obtain ⟨v2, e2, _, w2⟩ := DataW.trod_int Tryz.underlying3 h2
    have b2 := bounds_i64 w2
    obtain rfl : c2 = .int .i64 v2 := by simpa using e2
    obtain ⟨v3, e3, _, w3⟩ := DataW.trod_int Tryz.underlying3 h3
    have b3 := bounds_i64 w3
    obtain rfl : c3 = .int .i64 v3 := by simpa using e3
    obtain ⟨v4, e4, _, w4⟩ := DataW.trod_int Tryz.underlying5 h4
    have b4 := bounds_u8 w4
    obtain ⟨v4, rfl⟩ := Int.eq_ofNat_of_zero_le b4.1
    obtain rfl : c4 = .int .u8 v4 := by simpa using e4
    obtain ⟨v5, e5, _, w5⟩ := DataW.trod_string Tryz.underlying9 h5
    obtain rfl : c5 = .string v5 := by simpa using e5
    exact ⟨⟨v0, v1, v2, v3, v4, v5⟩, ⟨b0, b1, b2, b3, by show v4 < _; omega, w5⟩, rfl⟩
theorem open_frame (hv : Value.okWide Tryz.prog W r b0 113 v) (h : DataW.Trod enc Tryz.prog W 0 (fun _ => true) true 113 v d p) : ∃ f : Fr, f.ok ∧ v = .agg #[.int .i64 f.boot, .int .i64 f.lsn, .int .i64 f.part, .int .i64 f.parts, .int .u8 f.kind, .string f.data] := by
  obtain ⟨cs, rfl, _⟩ := okWide_struct Tryz.underlying113 hv
  obtain ⟨fuel, hf⟩ := h
  obtain ⟨f, hc, e⟩ := frame_of hf
  have e' : cs = #[.int .i64 f.boot, .int .i64 f.lsn, .int .i64 f.part, .int .i64 f.parts, .int .u8 f.kind, .string f.data] := by
    have : (Value.agg cs).cells = cs := by simp [Value.cells]
    rw [this] at e
    exact Array.toList_inj.1 e
  exact ⟨f, hc, by rw [e']⟩
end
end Go.Proofs.YtckbhjjflpobbaaGreat.Fk
