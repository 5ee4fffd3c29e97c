/-
  RecordTorn's walk, over what its calls do.
-/
import Derived.Test.YtakajeimlppmbaaGt
import Derived.Test.YtakajeimlppmbaaDh
namespace Go.Proofs.Ytakajeimlppmbaa.Rc
open Go Go.RowKit Go.ChangeShapes Go.WideShapes Go.ChangeAt Go.Proofs.Ytakajeimlppmbaa.Mem Go.Proofs.Ytakajeimlppmbaa.Pk Go.Proofs.Ytakajeimlppmbaa.Fk Go.Proofs.Ytakajeimlppmbaa.Dz Go.Proofs.Ytakajeimlppmbaa.Fz

set_option linter.unusedVariables false
theorem box3 {u : World} {B : Nat} {x y z : Value} {T : TypeId} (h : u.heap[B]? = some (.cells #[x, y, z] T (0, 0))) : u.cell? ⟨B, 0, none⟩ = some x ∧ u.cell? ⟨B, 1, none⟩ = some y ∧ u.cell? ⟨B, 2, none⟩ = some z :=
  ⟨cell_of_row _ _ _ _ _ _ h, cell_of_row _ _ _ _ _ _ h, cell_of_row _ _ _ _ _ _ h⟩
/-- The first k writes are kept. -/
def keeps (K : Nat) : Nat → Bool
  | 0 => true
  | k + 1 => keeps K k && K.testBit (k % 64)
theorem keeps_iff {K : Nat} : ∀ {n : Nat}, keeps K n = true ↔ ∀ i, i < n → K.testBit (i % 64) = true
  | 0 => by simp [keeps]
  | n + 1 => by
    rw [keeps, Bool.and_eq_true, keeps_iff]
    constructor
    · rintro ⟨h1, h2⟩ i hi
      by_cases e : i = n
      · rw [e]; exact h2
      · exact h1 i (by omega)
    · exact fun h => ⟨fun i hi => h i (by omega), h n (by omega)⟩
structure TG (wB : World) (p q N M t : Nat) (OB ON : Int) (d o : ByteArray) (X Y : Nat → ByteArray) (s0 s1 s2 s3 : Ds) (c : Ch) (r : Fr) (E : Int) : Prop where
  csX : ∀ (W : World), Mem.Own wB [] W → Calls Try.prog 13 #[.int .i64 ((p : Int) + 2), .int .i64 ((q : Int) + 2), .int .u8 2, .string d] W fun e w' => ∃ ao cap, e = .returned (.tuple #[.slice ao N cap, .int .i64 0]) ∧ Mem.Own wB [secA (.slice ao N cap) N X] w'
  csY : ∀ (ao : Option Addr) (cap : Nat) (W : World), Mem.Own wB [secA (.slice ao N cap) N X] W → Calls Try.prog 13 #[.int .i64 OB, .int .i64 ON, .int .u8 2, .string o] W fun e w' => ∃ ao2 cap2, e = .returned (.tuple #[.slice ao2 M cap2, .int .i64 0]) ∧ Mem.Own wB [secA (.slice ao2 M cap2) M Y, secA (.slice ao N cap) N X] w'
  hfn : ∀ (L : List As) (W : World), Mem.Own wB L W → Calls Try.prog 27 #[] W fun e w' => ∃ F, e = .returned (.pointer (some ⟨F, 0, none⟩)) ∧ Mem.Own wB (fzA F .idle :: L) w'
  hnew : ∀ (F : Nat) (L : List As) (W : World), Mem.Own wB (fzA F .idle :: L) W → Calls Try.prog 26 #[.int .i64 40, .pointer (some ⟨F, 0, none⟩)] W fun e w' => ∃ D, e = .returned (.tuple #[.pointer (some ⟨D, 0, none⟩), .int .i64 0]) ∧ Mem.Own wB (dk F D s0 :: L) w'
  hwY : ∀ (F D : Nat) (ao ao2 : Option Addr) (cap cap2 : Nat) (W : World), Mem.Own wB [dk F D s0, secA (.slice ao2 M cap2) M Y, secA (.slice ao N cap) N X] W → Calls Try.prog 28 #[.pointer (some ⟨D, 0, none⟩), .int .i64 (t : Int), .slice ao2 M cap2] W fun e w' => e = .returned (.bool true) ∧ Mem.Own wB [dk F D (laid s0 t Y M), secA (.slice ao2 M cap2) M Y, secA (.slice ao N cap) N X] w'
  hsy : ∀ (F D : Nat) (L : List As) (W : World), Mem.Own wB (dk F D (laid s0 t Y M) :: L) W → Calls Try.prog 29 #[.pointer (some ⟨D, 0, none⟩)] W fun e w' => e = .returned (.int .i64 0) ∧ Mem.Own wB (dk F D ((laid s0 t Y M).settled fun _ => 80) :: L) w'
  hwX : ∀ (F D : Nat) (ao ao2 : Option Addr) (cap cap2 : Nat) (W : World), Mem.Own wB [dk F D s1, secA (.slice ao2 M cap2) M Y, secA (.slice ao N cap) N X] W → Calls Try.prog 28 #[.pointer (some ⟨D, 0, none⟩), .int .i64 4, .slice ao N cap] W fun e w' => e = .returned (.bool true) ∧ Mem.Own wB [dk F D s2, secA (.slice ao2 M cap2) M Y, secA (.slice ao N cap) N X] w'
  hcrash : ∀ (F D : Nat) (L : List As) (W : World), Mem.Own wB (dk F D s2 :: L) W → Calls Try.prog 30 #[.pointer (some ⟨D, 0, none⟩), .agg c.cells] W fun e w' => e = .returned (.tuple #[]) ∧ Mem.Own wB (dk F D s3 :: L) w'
  hrd : ∀ (F D : Nat) (L : List As) (W : World), Mem.Own wB (dk F D s3 :: L) W → Calls Try.prog 18 #[.pointer (some ⟨D, 0, none⟩), .int .i64 4, .int .i64 40, .int .i64 ((q : Int) + 2), .int .i64 ((p : Int) + 2)] W fun ed w' => ed = .returned (.tuple #[.agg #[.int .i64 r.boot, .int .i64 r.lsn, .int .i64 r.part, .int .i64 r.parts, .int .u8 (r.kind : Int), .string r.data], .int .i64 E]) ∧ Mem.Own wB (dk F D s3 :: L) w'
  hres : (E = 0 ∧ r = ⟨(p : Int) + 2, (q : Int) + 2, 0, (N : Int), 2, d⟩) ∨ (E = 12 ∧ ¬ ((c.torn < 0 ∨ (N : Int) ≤ c.torn) ∧ keeps c.keep N = true))
  kept : ∀ W L, Mem.Own wB L W → Kept wB W
set_option maxHeartbeats 8000000 in
set_option maxRecDepth 100000 in
theorem torn_core (w : World) (p q z f N M t Z3 : Nat) (hp : p ≤ 255) (hq : q ≤ 255) (hzz : z ≤ 255) (hff : f ≤ 255) (hN : N ≤ 14) (hM : M ≤ 14) (e2 : Bool) (e3 : Bool) (OB ON : Int) (d o : ByteArray) (hd : d.size ≤ 600) (ho : o.size ≤ 600) (X Y : Nat → ByteArray) (s0 s1 s2 s3 : Ds) (keep : Nat) (torn bytes : Int) (hc : (⟨keep, torn, bytes⟩ : Ch).ok) (r : Fr) (E : Int)
    (zz2 : (z : Int) % 2 = if e2 then 1 else 0) (zz3 : (z : Int) % 3 = (Z3 : Int)) (t3 : decide (0 < Z3) = e3) (ht : (f : Int) % 16 = (t : Int))
    (hOB : OB = if e2 then (p : Int) + 2 else (p : Int) + 2 - 1) (hON : ON = if e2 then (q : Int) + 2 - 1 else (q : Int) + 2) (hs : e3 = false → s1 = s0) (hs1 : e3 = true → s1 = (laid s0 t Y M).settled fun _ => 80)
    (G : TG (w.alloc (.cells #[.int .u64 (keep : Int), .int .i64 torn, .int .i64 bytes] 66)) p q N M t OB ON d o X Y s0 s1 s2 s3 ⟨keep, torn, bytes⟩ r E) :
    Calls Try.prog 7 #[.int .u8 (p : Int), .int .u8 (q : Int), .string d, .string o, .int .u8 (z : Int), .int .u8 (f : Int), .agg #[.int .u64 (keep : Int), .int .i64 torn, .int .i64 bytes]] w fun e w' => e = .returned (.bool true) ∧ Kept w w' := by
  have hkn : ∀ W, Calls Try.prog 10 #[] W fun e w' => e = .returned (.bool true) ∧ Kept W w' := known_c
  have t1 : decide (600 < (d.size : Int)) = false := by simp; omega
  have t2 : decide (600 < (o.size : Int)) = false := by simp; omega
  have zt2 : (z : Int).tmod 2 = if e2 then 1 else 0 := by rw [Int.tmod_eq_emod_of_nonneg (by omega)]; exact zz2
  have zt3 : (z : Int).tmod 3 = (Z3 : Int) := by rw [Int.tmod_eq_emod_of_nonneg (by omega)]; exact zz3
  have htm : (f : Int).tmod 16 = (t : Int) := by rw [Int.tmod_eq_emod_of_nonneg (by omega)]; exact ht
  obtain ⟨wB, hwB⟩ : ∃ wB, wB = w.alloc (.cells #[.int .u64 (keep : Int), .int .i64 torn, .int .i64 bytes] 66) := ⟨_, rfl⟩
  rw [← hwB] at G
  have kB : Kept w wB := by rw [hwB]; exact (Kept.refl w).alloc _
  have bB : wB.heap[w.heap.size]? = some (.cells #[.int .u64 (keep : Int), .int .i64 torn, .int .i64 bytes] 66 (0, 0)) := by rw [hwB]; exact World.alloc_heap_new w _
  have p0 : Mem.Own wB [] (w.alloc (.cells #[.int .u64 (keep : Int), .int .i64 torn, .int .i64 bytes] 66)) := by rw [hwB]; exact Mem.Own.nil _
  have CK := Lib.hid kB
  have CB := Lib.hid bB
  clear hwB kB bB hd ho
  cases e2 <;> cases e3
  all_goals simp only [if_true, if_false, Bool.false_eq_true] at zz2 zt2 hOB hON
  all_goals subst hOB hON
  · obtain rfl := hs rfl
    have HG := Lib.hid G
    clear G hs hs1
    have hz : Z3 = 0 := by simpa using t3
    clear t3
    rcases (show torn < 0 ∨ 0 ≤ torn by omega) with h | h
    all_goals
     go_enter Try.func7, Try.ntmps7
     go_wp2_with (first
       | (go_at_call 13; (with_reducible refine (HG.out.csX _ p0).mono ?_); rintro e u1 ⟨ao, cap, rfl, p1⟩; clear p0)
       | (go_at_call 13; (with_reducible refine (HG.out.csY _ _ _ p1).mono ?_); rintro e u2 ⟨ao2, cap2, rfl, p2⟩; clear p1)
       | (go_at_call 27; refine (HG.out.hfn _ _ p2).mono ?_; rintro e u3 ⟨F, rfl, p3⟩; clear p2)
       | (go_at_call 26; refine (HG.out.hnew _ _ _ p3).mono ?_; rintro e u4 ⟨D, rfl, p4⟩; clear p3)
       | (go_at_call 28; (with_reducible refine (HG.out.hwX _ _ _ _ _ _ _ p4).mono ?_); rintro e u7 ⟨rfl, p7⟩; clear p4; obtain ⟨b0, b1, b2⟩ := box3 (p7.kept.block CB.out); have P7 := Lib.hid p7; clear p7))
     go_loopw [25, 26] (fun v i wr => ∃ (k : Nat) (x : Bool), k ≤ N ∧ i = .int .i64 k ∧ v = .bool x ∧ (x = true → (torn < 0 ∨ (N : Int) ≤ torn) ∧ keeps keep k = true) ∧ wr = u7) (fun _ i _ => N - (intOf i).toNat)
     case atStart =>
       first | exact ⟨0, true, by omega, rfl, rfl, fun _ => ⟨.inl h, rfl⟩, rfl⟩ | exact ⟨0, (decide (torn < 0) || decide ((N : Int) ≤ torn)), by omega, rfl, rfl, fun hx => ⟨by simpa using hx, rfl⟩, rfl⟩
     case round =>
       obtain ⟨k, x, hk, rfl, rfl, hx, rfl⟩ := hrel
       by_cases hlt : k < N
       · have hk64 : (k : Int) % 64 = (k : Int) := by omega
         have hkt64 : (k : Int).tmod 64 = (k : Int) := by rw [Int.tmod_eq_emod_of_nonneg (by omega)]; exact hk64
         cases x
         · clear hx
           go_wp2
           go_roundw
           case rel => exact ⟨k + 1, false, by omega, by go_num, rfl, (fun h => by cases h), trivial⟩
           case measure => simp [intOf]; omega
         · have hbit := keep_bit keep k hc.keep
           have hnext : keep.testBit k = true → (torn < 0 ∨ (N : Int) ≤ torn) ∧ keeps keep (k + 1) = true := fun hq => ⟨(hx rfl).1, by
             have e : k % 64 = k := by omega
             rw [keeps, (hx rfl).2, e, hq]; rfl⟩
           obtain ⟨q', hq'⟩ : ∃ q', q' = keep.testBit k := ⟨_, rfl⟩
           rw [← hq'] at hbit hnext
           have HN := Lib.hid hnext
           clear hx hq' hnext
           go_wp2
           go_roundw
           case rel => exact ⟨k + 1, q', by omega, by go_num, rfl, HN.out, trivial⟩
           case measure => simp [intOf]; omega
       · obtain rfl : k = N := by omega
         rcases HG.out.hres with ⟨rfl, rfl⟩ | ⟨rfl, hne⟩
         · clear hx
           go_wp2_with (first
             | (go_at_call 30; refine (HG.out.hcrash _ _ _ _ P7.out).mono ?_; rintro e u8 ⟨rfl, p8⟩; have P8 := Lib.hid p8; clear p8)
             | (go_at_call 18; (with_reducible refine (HG.out.hrd _ _ _ _ P8.out).mono ?_); rintro e u9 ⟨rfl, p9⟩; have P9 := Lib.hid p9; clear p9)
             | (go_at_call 10; (with_reducible refine (hkn _).mono ?_); rintro e u10 ⟨rfl, k10⟩))
           go_ret
           exact ⟨rfl, ((CK.out.trans P9.out.kept).alloc _).trans k10⟩
         · obtain rfl : x = false := by
             cases x
             · rfl
             · exact absurd (hx rfl) hne
           clear hx hne
           go_wp2_with (first
             | (go_at_call 30; refine (HG.out.hcrash _ _ _ _ P7.out).mono ?_; rintro e u8 ⟨rfl, p8⟩; have P8 := Lib.hid p8; clear p8)
             | (go_at_call 18; (with_reducible refine (HG.out.hrd _ _ _ _ P8.out).mono ?_); rintro e u9 ⟨rfl, p9⟩; have P9 := Lib.hid p9; clear p9)
             | (go_at_call 10; (with_reducible refine (hkn _).mono ?_); rintro e u10 ⟨rfl, k10⟩))
           go_ret
           exact ⟨rfl, ((CK.out.trans P9.out.kept).alloc _).trans k10⟩
  · obtain rfl := hs1 rfl
    have HG := Lib.hid G
    clear G hs hs1
    have hz : 0 < Z3 := by simpa using t3
    clear t3
    rcases (show torn < 0 ∨ 0 ≤ torn by omega) with h | h
    all_goals
     go_enter Try.func7, Try.ntmps7
     go_wp2_with (first
       | (go_at_call 13; (with_reducible refine (HG.out.csX _ p0).mono ?_); rintro e u1 ⟨ao, cap, rfl, p1⟩; clear p0)
       | (go_at_call 13; (with_reducible refine (HG.out.csY _ _ _ p1).mono ?_); rintro e u2 ⟨ao2, cap2, rfl, p2⟩; clear p1)
       | (go_at_call 27; refine (HG.out.hfn _ _ p2).mono ?_; rintro e u3 ⟨F, rfl, p3⟩; clear p2)
       | (go_at_call 26; refine (HG.out.hnew _ _ _ p3).mono ?_; rintro e u4 ⟨D, rfl, p4⟩; clear p3)
       | (go_at_call 28; (with_reducible refine (HG.out.hwY _ _ _ _ _ _ _ p4).mono ?_); rintro e u5 ⟨rfl, p5⟩; clear p4)
       | (go_at_call 29; (with_reducible refine (HG.out.hsy _ _ _ _ p5).mono ?_); rintro e u6 ⟨rfl, p6⟩; clear p5)
       | (go_at_call 28; (with_reducible refine (HG.out.hwX _ _ _ _ _ _ _ p6).mono ?_); rintro e u7 ⟨rfl, p7⟩; clear p6; obtain ⟨b0, b1, b2⟩ := box3 (p7.kept.block CB.out); have P7 := Lib.hid p7; clear p7))
     go_loopw [25, 26] (fun v i wr => ∃ (k : Nat) (x : Bool), k ≤ N ∧ i = .int .i64 k ∧ v = .bool x ∧ (x = true → (torn < 0 ∨ (N : Int) ≤ torn) ∧ keeps keep k = true) ∧ wr = u7) (fun _ i _ => N - (intOf i).toNat)
     case atStart =>
       first | exact ⟨0, true, by omega, rfl, rfl, fun _ => ⟨.inl h, rfl⟩, rfl⟩ | exact ⟨0, (decide (torn < 0) || decide ((N : Int) ≤ torn)), by omega, rfl, rfl, fun hx => ⟨by simpa using hx, rfl⟩, rfl⟩
     case round =>
       obtain ⟨k, x, hk, rfl, rfl, hx, rfl⟩ := hrel
       by_cases hlt : k < N
       · have hk64 : (k : Int) % 64 = (k : Int) := by omega
         have hkt64 : (k : Int).tmod 64 = (k : Int) := by rw [Int.tmod_eq_emod_of_nonneg (by omega)]; exact hk64
         cases x
         · clear hx
           go_wp2
           go_roundw
           case rel => exact ⟨k + 1, false, by omega, by go_num, rfl, (fun h => by cases h), trivial⟩
           case measure => simp [intOf]; omega
         · have hbit := keep_bit keep k hc.keep
           have hnext : keep.testBit k = true → (torn < 0 ∨ (N : Int) ≤ torn) ∧ keeps keep (k + 1) = true := fun hq => ⟨(hx rfl).1, by
             have e : k % 64 = k := by omega
             rw [keeps, (hx rfl).2, e, hq]; rfl⟩
           obtain ⟨q', hq'⟩ : ∃ q', q' = keep.testBit k := ⟨_, rfl⟩
           rw [← hq'] at hbit hnext
           have HN := Lib.hid hnext
           clear hx hq' hnext
           go_wp2
           go_roundw
           case rel => exact ⟨k + 1, q', by omega, by go_num, rfl, HN.out, trivial⟩
           case measure => simp [intOf]; omega
       · obtain rfl : k = N := by omega
         rcases HG.out.hres with ⟨rfl, rfl⟩ | ⟨rfl, hne⟩
         · clear hx
           go_wp2_with (first
             | (go_at_call 30; refine (HG.out.hcrash _ _ _ _ P7.out).mono ?_; rintro e u8 ⟨rfl, p8⟩; have P8 := Lib.hid p8; clear p8)
             | (go_at_call 18; (with_reducible refine (HG.out.hrd _ _ _ _ P8.out).mono ?_); rintro e u9 ⟨rfl, p9⟩; have P9 := Lib.hid p9; clear p9)
             | (go_at_call 10; (with_reducible refine (hkn _).mono ?_); rintro e u10 ⟨rfl, k10⟩))
           go_ret
           exact ⟨rfl, ((CK.out.trans P9.out.kept).alloc _).trans k10⟩
         · obtain rfl : x = false := by
             cases x
             · rfl
             · exact absurd (hx rfl) hne
           clear hx hne
           go_wp2_with (first
             | (go_at_call 30; refine (HG.out.hcrash _ _ _ _ P7.out).mono ?_; rintro e u8 ⟨rfl, p8⟩; have P8 := Lib.hid p8; clear p8)
             | (go_at_call 18; (with_reducible refine (HG.out.hrd _ _ _ _ P8.out).mono ?_); rintro e u9 ⟨rfl, p9⟩; have P9 := Lib.hid p9; clear p9)
             | (go_at_call 10; (with_reducible refine (hkn _).mono ?_); rintro e u10 ⟨rfl, k10⟩))
           go_ret
           exact ⟨rfl, ((CK.out.trans P9.out.kept).alloc _).trans k10⟩
  · obtain rfl := hs rfl
    have HG := Lib.hid G
    clear G hs hs1
    have hz : Z3 = 0 := by simpa using t3
    clear t3
    rcases (show torn < 0 ∨ 0 ≤ torn by omega) with h | h
    all_goals
     go_enter Try.func7, Try.ntmps7
     go_wp2_with (first
       | (go_at_call 13; (with_reducible refine (HG.out.csX _ p0).mono ?_); rintro e u1 ⟨ao, cap, rfl, p1⟩; clear p0)
       | (go_at_call 13; (with_reducible refine (HG.out.csY _ _ _ p1).mono ?_); rintro e u2 ⟨ao2, cap2, rfl, p2⟩; clear p1)
       | (go_at_call 27; refine (HG.out.hfn _ _ p2).mono ?_; rintro e u3 ⟨F, rfl, p3⟩; clear p2)
       | (go_at_call 26; refine (HG.out.hnew _ _ _ p3).mono ?_; rintro e u4 ⟨D, rfl, p4⟩; clear p3)
       | (go_at_call 28; (with_reducible refine (HG.out.hwX _ _ _ _ _ _ _ p4).mono ?_); rintro e u7 ⟨rfl, p7⟩; clear p4; obtain ⟨b0, b1, b2⟩ := box3 (p7.kept.block CB.out); have P7 := Lib.hid p7; clear p7))
     go_loopw [25, 26] (fun v i wr => ∃ (k : Nat) (x : Bool), k ≤ N ∧ i = .int .i64 k ∧ v = .bool x ∧ (x = true → (torn < 0 ∨ (N : Int) ≤ torn) ∧ keeps keep k = true) ∧ wr = u7) (fun _ i _ => N - (intOf i).toNat)
     case atStart =>
       first | exact ⟨0, true, by omega, rfl, rfl, fun _ => ⟨.inl h, rfl⟩, rfl⟩ | exact ⟨0, (decide (torn < 0) || decide ((N : Int) ≤ torn)), by omega, rfl, rfl, fun hx => ⟨by simpa using hx, rfl⟩, rfl⟩
     case round =>
       obtain ⟨k, x, hk, rfl, rfl, hx, rfl⟩ := hrel
       by_cases hlt : k < N
       · have hk64 : (k : Int) % 64 = (k : Int) := by omega
         have hkt64 : (k : Int).tmod 64 = (k : Int) := by rw [Int.tmod_eq_emod_of_nonneg (by omega)]; exact hk64
         cases x
         · clear hx
           go_wp2
           go_roundw
           case rel => exact ⟨k + 1, false, by omega, by go_num, rfl, (fun h => by cases h), trivial⟩
           case measure => simp [intOf]; omega
         · have hbit := keep_bit keep k hc.keep
           have hnext : keep.testBit k = true → (torn < 0 ∨ (N : Int) ≤ torn) ∧ keeps keep (k + 1) = true := fun hq => ⟨(hx rfl).1, by
             have e : k % 64 = k := by omega
             rw [keeps, (hx rfl).2, e, hq]; rfl⟩
           obtain ⟨q', hq'⟩ : ∃ q', q' = keep.testBit k := ⟨_, rfl⟩
           rw [← hq'] at hbit hnext
           have HN := Lib.hid hnext
           clear hx hq' hnext
           go_wp2
           go_roundw
           case rel => exact ⟨k + 1, q', by omega, by go_num, rfl, HN.out, trivial⟩
           case measure => simp [intOf]; omega
       · obtain rfl : k = N := by omega
         rcases HG.out.hres with ⟨rfl, rfl⟩ | ⟨rfl, hne⟩
         · clear hx
           go_wp2_with (first
             | (go_at_call 30; refine (HG.out.hcrash _ _ _ _ P7.out).mono ?_; rintro e u8 ⟨rfl, p8⟩; have P8 := Lib.hid p8; clear p8)
             | (go_at_call 18; (with_reducible refine (HG.out.hrd _ _ _ _ P8.out).mono ?_); rintro e u9 ⟨rfl, p9⟩; have P9 := Lib.hid p9; clear p9)
             | (go_at_call 10; (with_reducible refine (hkn _).mono ?_); rintro e u10 ⟨rfl, k10⟩))
           go_ret
           exact ⟨rfl, ((CK.out.trans P9.out.kept).alloc _).trans k10⟩
         · obtain rfl : x = false := by
             cases x
             · rfl
             · exact absurd (hx rfl) hne
           clear hx hne
           go_wp2_with (first
             | (go_at_call 30; refine (HG.out.hcrash _ _ _ _ P7.out).mono ?_; rintro e u8 ⟨rfl, p8⟩; have P8 := Lib.hid p8; clear p8)
             | (go_at_call 18; (with_reducible refine (HG.out.hrd _ _ _ _ P8.out).mono ?_); rintro e u9 ⟨rfl, p9⟩; have P9 := Lib.hid p9; clear p9)
             | (go_at_call 10; (with_reducible refine (hkn _).mono ?_); rintro e u10 ⟨rfl, k10⟩))
           go_ret
           exact ⟨rfl, ((CK.out.trans P9.out.kept).alloc _).trans k10⟩
  · obtain rfl := hs1 rfl
    have HG := Lib.hid G
    clear G hs hs1
    have hz : 0 < Z3 := by simpa using t3
    clear t3
    rcases (show torn < 0 ∨ 0 ≤ torn by omega) with h | h
    all_goals
     go_enter Try.func7, Try.ntmps7
     go_wp2_with (first
       | (go_at_call 13; (with_reducible refine (HG.out.csX _ p0).mono ?_); rintro e u1 ⟨ao, cap, rfl, p1⟩; clear p0)
       | (go_at_call 13; (with_reducible refine (HG.out.csY _ _ _ p1).mono ?_); rintro e u2 ⟨ao2, cap2, rfl, p2⟩; clear p1)
       | (go_at_call 27; refine (HG.out.hfn _ _ p2).mono ?_; rintro e u3 ⟨F, rfl, p3⟩; clear p2)
       | (go_at_call 26; refine (HG.out.hnew _ _ _ p3).mono ?_; rintro e u4 ⟨D, rfl, p4⟩; clear p3)
       | (go_at_call 28; (with_reducible refine (HG.out.hwY _ _ _ _ _ _ _ p4).mono ?_); rintro e u5 ⟨rfl, p5⟩; clear p4)
       | (go_at_call 29; (with_reducible refine (HG.out.hsy _ _ _ _ p5).mono ?_); rintro e u6 ⟨rfl, p6⟩; clear p5)
       | (go_at_call 28; (with_reducible refine (HG.out.hwX _ _ _ _ _ _ _ p6).mono ?_); rintro e u7 ⟨rfl, p7⟩; clear p6; obtain ⟨b0, b1, b2⟩ := box3 (p7.kept.block CB.out); have P7 := Lib.hid p7; clear p7))
     go_loopw [25, 26] (fun v i wr => ∃ (k : Nat) (x : Bool), k ≤ N ∧ i = .int .i64 k ∧ v = .bool x ∧ (x = true → (torn < 0 ∨ (N : Int) ≤ torn) ∧ keeps keep k = true) ∧ wr = u7) (fun _ i _ => N - (intOf i).toNat)
     case atStart =>
       first | exact ⟨0, true, by omega, rfl, rfl, fun _ => ⟨.inl h, rfl⟩, rfl⟩ | exact ⟨0, (decide (torn < 0) || decide ((N : Int) ≤ torn)), by omega, rfl, rfl, fun hx => ⟨by simpa using hx, rfl⟩, rfl⟩
     case round =>
       obtain ⟨k, x, hk, rfl, rfl, hx, rfl⟩ := hrel
       by_cases hlt : k < N
       · have hk64 : (k : Int) % 64 = (k : Int) := by omega
         have hkt64 : (k : Int).tmod 64 = (k : Int) := by rw [Int.tmod_eq_emod_of_nonneg (by omega)]; exact hk64
         cases x
         · clear hx
           go_wp2
           go_roundw
           case rel => exact ⟨k + 1, false, by omega, by go_num, rfl, (fun h => by cases h), trivial⟩
           case measure => simp [intOf]; omega
         · have hbit := keep_bit keep k hc.keep
           have hnext : keep.testBit k = true → (torn < 0 ∨ (N : Int) ≤ torn) ∧ keeps keep (k + 1) = true := fun hq => ⟨(hx rfl).1, by
             have e : k % 64 = k := by omega
             rw [keeps, (hx rfl).2, e, hq]; rfl⟩
           obtain ⟨q', hq'⟩ : ∃ q', q' = keep.testBit k := ⟨_, rfl⟩
           rw [← hq'] at hbit hnext
           have HN := Lib.hid hnext
           clear hx hq' hnext
           go_wp2
           go_roundw
           case rel => exact ⟨k + 1, q', by omega, by go_num, rfl, HN.out, trivial⟩
           case measure => simp [intOf]; omega
       · obtain rfl : k = N := by omega
         rcases HG.out.hres with ⟨rfl, rfl⟩ | ⟨rfl, hne⟩
         · clear hx
           go_wp2_with (first
             | (go_at_call 30; refine (HG.out.hcrash _ _ _ _ P7.out).mono ?_; rintro e u8 ⟨rfl, p8⟩; have P8 := Lib.hid p8; clear p8)
             | (go_at_call 18; (with_reducible refine (HG.out.hrd _ _ _ _ P8.out).mono ?_); rintro e u9 ⟨rfl, p9⟩; have P9 := Lib.hid p9; clear p9)
             | (go_at_call 10; (with_reducible refine (hkn _).mono ?_); rintro e u10 ⟨rfl, k10⟩))
           go_ret
           exact ⟨rfl, ((CK.out.trans P9.out.kept).alloc _).trans k10⟩
         · obtain rfl : x = false := by
             cases x
             · rfl
             · exact absurd (hx rfl) hne
           clear hx hne
           go_wp2_with (first
             | (go_at_call 30; refine (HG.out.hcrash _ _ _ _ P7.out).mono ?_; rintro e u8 ⟨rfl, p8⟩; have P8 := Lib.hid p8; clear p8)
             | (go_at_call 18; (with_reducible refine (HG.out.hrd _ _ _ _ P8.out).mono ?_); rintro e u9 ⟨rfl, p9⟩; have P9 := Lib.hid p9; clear p9)
             | (go_at_call 10; (with_reducible refine (hkn _).mono ?_); rintro e u10 ⟨rfl, k10⟩))
           go_ret
           exact ⟨rfl, ((CK.out.trans P9.out.kept).alloc _).trans k10⟩
end Go.Proofs.Ytakajeimlppmbaa.Rc
