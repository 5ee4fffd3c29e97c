/-
  The specification's journal: size, begin, write.
  The specification's journal: Append.
  The specification's journal: Compact.
  JournalDoes: both journals say the same.
  The specification's journal: Open (unfinished: the loop's round and what is behind it).
-/
import Derived.Test.YtckbhjjflpobbaaGreatJn
import Derived.Test.YtckbhjjflpobbaaGreatGr
import Derived.Test.YtckbhjjflpobbaaGreatJc
import Derived.BigQuiet
import Derived.BigRegion
import Derived.Test.YtckbhjjflpobbaaGreatKr
import Derived.Test.YtckbhjjflpobbaaGreatJeb
import Derived.Test.YtckbhjjflpobbaaGreatJg
import Derived.Test.YtckbhjjflpobbaaGreatGo
import Derived.Deep.AppendLies
namespace Go.Proofs.YtckbhjjflpobbaaGreat.Jk
open Go Go.RowKit Go.ChangeShapes Go.WideShapes Go.ChangeAt Go.Proofs.YtckbhjjflpobbaaGreat.Mem Go.Proofs.YtckbhjjflpobbaaGreat.Pk Go.Proofs.YtckbhjjflpobbaaGreat.Fk Go.Proofs.YtckbhjjflpobbaaGreat.Dz Go.Proofs.YtckbhjjflpobbaaGreat.Fz Go.Proofs.YtckbhjjflpobbaaGreat.Rc
open Go.Proofs.YtckbhjjflpobbaaGreat.Hk (Hd saves loads o_save o_load hblock)

def rjc (R : Nat) (j : Jw) : Array Value := #[.pointer (some ⟨R, 0, none⟩), .int .i64 (j.area : Int), .int .i64 j.h.seq, .int .i64 j.h.boot, .int .i64 j.h.area, .int .i64 j.h.first, .int .i64 j.h.snaps, .int .i64 j.n, .int .i64 (j.used : Int), .bool j.dead]
def rjA (B R : Nat) (j : Jw) : As := boxA B (rjc R j) 84
theorem rjblock {w0 w : World} {L : List As} (h : Mem.Own w0 L w) (i : Nat) {B R : Nat} {j : Jw} (hi : L[i]? = some (rjA B R j)) :
    (w.cell? ⟨B, 0, none⟩ = some (.pointer (some ⟨R, 0, none⟩)) ∧ w.cell? ⟨B, 1, none⟩ = some (.int .i64 (j.area : Int)) ∧ w.cell? ⟨B, 2, none⟩ = some (.int .i64 j.h.seq) ∧ w.cell? ⟨B, 3, none⟩ = some (.int .i64 j.h.boot) ∧ w.cell? ⟨B, 4, none⟩ = some (.int .i64 j.h.area) ∧ w.cell? ⟨B, 5, none⟩ = some (.int .i64 j.h.first) ∧ w.cell? ⟨B, 6, none⟩ = some (.int .i64 j.h.snaps) ∧ w.cell? ⟨B, 7, none⟩ = some (.int .i64 j.n) ∧ w.cell? ⟨B, 8, none⟩ = some (.int .i64 (j.used : Int)) ∧ w.cell? ⟨B, 9, none⟩ = some (.bool j.dead)) ∧ ∀ i, w.frozen? ⟨B, i, none⟩ = false := by
  have hb := h.boxed i hi
  exact ⟨⟨cell_of_row _ _ _ _ _ _ hb, cell_of_row _ _ _ _ _ _ hb, cell_of_row _ _ _ _ _ _ hb, cell_of_row _ _ _ _ _ _ hb, cell_of_row _ _ _ _ _ _ hb, cell_of_row _ _ _ _ _ _ hb, cell_of_row _ _ _ _ _ _ hb, cell_of_row _ _ _ _ _ _ hb, cell_of_row _ _ _ _ _ _ hb, cell_of_row _ _ _ _ _ _ hb⟩, fun i => frozen_of_row w B i _ _ hb⟩
set_option maxRecDepth 100000 in
theorem rsize_c (ao : Option Addr) (cap m : Nat) (x : Nat → ByteArray) (hm : m < 4294967296) (hx : ∀ i, i < m → (x i).size ≤ maxLen) (w : World) (h : SAo w ao m x) :
    Calls Tryz.prog 32 #[.slice ao m cap] w fun e w' => e = .returned (.tuple #[.int .i64 (sizeN x m : Int), .int .i64 (sizeE x m)]) ∧ w = w' := by
  have Hx := Lib.hid hx
  clear hx
  go_enter Tryz.func32, Tryz.ntmps32
  go_wp2
  go_loopw [2, 3, 4, 5, 6, 7] (fun _ _ s i _ _ wr => ∃ k : Nat, k ≤ m ∧ s = .int .i64 (pre x k : Int) ∧ i = .int .i64 k ∧ fits x k ∧ wr = w) (fun _ _ _ i _ _ _ => m - (intOf i).toNat)
  case atStart => exact ⟨0, by omega, rfl, rfl, fun i hi => absurd hi (by omega), rfl⟩
  case round =>
    obtain ⟨k, hk, rfl, rfl, hf, rfl⟩ := hrel
    by_cases hlt : k < m
    · obtain ⟨g, o, rfl, x0⟩ := h k hlt
      have hs := Hx.out k hlt
      unfold maxLen at hs
      have hp := pre_le hf
      have hpc := fun w => rparts_c ((x k).size : Int) ⟨by omega, by omega⟩ w
      by_cases hbig : 4096 < (x k).size
      · have e1 : sizeE x m = 5 ∧ sizeN x m = 0 := by
          have : ¬ fits x m := fun hf => by have := hf k hlt; omega
          unfold sizeE sizeN; rw [if_neg this, if_neg this]; exact ⟨rfl, rfl⟩
        rw [(pF_big hbig).1, (pF_big hbig).2] at hpc
        obtain ⟨X, hX⟩ : ∃ X, X = x k := ⟨_, rfl⟩
        rw [← hX] at x0 hpc hs
        have HE := Lib.hid e1
        clear hX h hf hbig e1
        go_wp2_with (go_at_call 60; (with_reducible refine (hpc _).mono ?_); rintro e w' ⟨rfl, rfl⟩)
        go_ret2
        exact ⟨by rw [HE.out.1, HE.out.2]; rfl, rfl⟩
      · rw [(pF_nat (Nat.not_lt.1 hbig)).1, (pF_nat (Nat.not_lt.1 hbig)).2] at hpc
        have hf' : fits x (k + 1) := fun i hi => by
          by_cases e : i = k
          · rw [e]; omega
          · exact hf i (by omega)
        have hpr : pre x (k + 1) = pre x k + parts (x k).size := rfl
        have hpl := parts_le (Nat.not_lt.1 hbig)
        obtain ⟨X, hX⟩ : ∃ X, X = x k := ⟨_, rfl⟩
        rw [← hX] at x0 hpc hs hpr hpl
        obtain ⟨p, hp0⟩ : ∃ p, p = pre x k := ⟨_, rfl⟩
        obtain ⟨p', hp1⟩ : ∃ p', p' = pre x (k + 1) := ⟨_, rfl⟩
        obtain ⟨q, hq⟩ : ∃ q, q = parts X.size := ⟨_, rfl⟩
        rw [← hq] at hpc hpr hpl
        rw [← hp0, ← hp1] at hpr
        rw [← hp0] at hp ⊢
        have HP := Lib.hid (And.intro hp1 hf')
        clear hX h hf hbig hf' hp0 hp1 hq
        go_wp2_with (go_at_call 60; (with_reducible refine (hpc _).mono ?_); rintro e w' ⟨rfl, rfl⟩)
        go_roundw
        case rel => exact ⟨k + 1, by omega, by rw [← HP.out.1, hpr]; go_num, by go_num, HP.out.2, by trivial⟩
        case measure => simp [intOf]; omega
    · obtain rfl : k = m := by omega
      have e1 : sizeE x k = 0 ∧ sizeN x k = pre x k := by unfold sizeE sizeN; rw [if_pos hf, if_pos hf]; exact ⟨rfl, rfl⟩
      have HE := Lib.hid e1
      clear h hf e1
      go_wp2
      go_ret2
      exact ⟨by rw [HE.out.1, HE.out.2]; rfl, rfl⟩
set_option maxRecDepth 100000 in
theorem rbegin_c (a b : Int) (h : -9223372036854775808 ≤ a * b ∧ 2 + a * b ≤ 9223372036854775807) (w : World) : Calls Tryz.prog 34 #[.int .i64 a, .int .i64 b] w fun e w' => e = .returned (.int .i64 (2 + a * b)) ∧ w = w' := by
  obtain ⟨c, hc⟩ : ∃ c, c = a * b := ⟨_, rfl⟩
  rw [← hc] at h ⊢
  have h1 : IntKind.i64.wrap c = c := by rw [IntKind.wrap_i64]; omega
  have h2 : IntKind.i64.wrap (2 + c) = 2 + c := by rw [IntKind.wrap_i64]; omega
  rw [hc] at h1 h2 ⊢
  clear hc h
  go_enter Tryz.func34, Tryz.ntmps34
  go_wp2
  go_ret
  exact ⟨rfl, rfl⟩
theorem o_rsecs {w0 w : World} {L : List As} (h : Mem.Own w0 L w) (b l : Int) (k : Nat) (d : ByteArray) (hk : k < 256) (hd : d.size ≤ maxLen) :
    Calls Tryz.prog 61 #[.int .i64 b, .int .i64 l, .int .u8 (k : Int), .string d] w fun e w' => ∃ ao cap, e = .returned (.tuple #[.slice ao (nS b l d) cap, .int .i64 (secE b l d)]) ∧ Mem.Own w0 (secA (.slice ao (nS b l d) cap) (nS b l d) (sec b l k d) :: L) w' :=
  (rsectors_c b l k d hk hd w).mono fun e w' ⟨v, he, hrow, hk⟩ => by
    obtain ⟨ao, cap, rfl, _⟩ := strings_at hrow
    refine ⟨ao, cap, he, (h.push (b := secA _ _ _) hk ⟨ownsRow_mono hrow (Nat.zero_le _), fun g hg => .inr ⟨ownsRow_base hrow hg, (hrow.lt g hg).2⟩⟩).front⟩
set_option maxRecDepth 100000 in
set_option maxHeartbeats 8000000 in
theorem o_rjwrite {w0 w : World} {L : List As} {B R G : Nat} {j : Jw} {s : Ds} (h : Mem.Own w0 (rjA B R j :: rk G R s :: L) w) (t : Nat) (n : Int) (ht : t ≤ 70000) (hn : 0 ≤ n ∧ n ≤ 281474976710656) (kd : Nat) (hkd : kd < 256) (ao : Option Addr) (cap m : Nat) (x : Nat → ByteArray) (hm : m < 65536) (hfit : fits x m) (hnum : ∀ i : Nat, i < m → num j.h.boot (n + (i : Int)))
    (hst : ∀ Q W s', Mem.Own w0 (Q ++ rjA B R j :: rk G R s' :: L) W → SAo W ao m x) (hroom : s.pend.length + pre x m < 4294967296) :
    Calls Tryz.prog 33 #[.pointer (some ⟨B, 0, none⟩), .int .i64 (t : Int), .int .i64 n, .int .u8 (kd : Int), .slice ao m cap] w fun e w' =>
      ∃ N : Int, e = .returned (.tuple #[.int .i64 N, .int .i64 (poured s (t : Int) (flat j.h.boot n kd x m) (pre x m)).1]) ∧ ((poured s (t : Int) (flat j.h.boot n kd x m) (pre x m)).1 = 0 → N = (pre x m : Int)) ∧ Mem.Own w0 (rjA B R { j with dead := (poured s (t : Int) (flat j.h.boot n kd x m) (pre x m)).1 != 0 } :: rk G R (poured s (t : Int) (flat j.h.boot n kd x m) (pre x m)).2 :: L) w' := by
  obtain ⟨g, hg⟩ : ∃ g, g = flat j.h.boot n kd x m := ⟨_, rfl⟩
  have hgat : ∀ i k, i < m → k < parts (x i).size → g (pre x i + k) = sec j.h.boot (n + (i : Int)) kd (x i) k := fun i k hi hk => by rw [hg]; exact flat_at hk hi
  rw [← hg]
  have hlk : ∀ Q W s', Mem.Own w0 (Q ++ rjA B R j :: rk G R s' :: L) W → (W.cell? ⟨B, 0, none⟩ = some (.pointer (some ⟨R, 0, none⟩)) ∧ W.cell? ⟨B, 3, none⟩ = some (.int .i64 j.h.boot)) := fun Q W s' hW => by
    obtain ⟨⟨c0, _, _, c3, _⟩, _⟩ := rjblock (B := B) (R := R) (j := j) hW Q.length (by rw [List.getElem?_append_right (Nat.le_refl _), Nat.sub_self]; rfl)
    exact ⟨c0, c3⟩
  have hfz : ∀ W s', Mem.Own w0 (rjA B R j :: rk G R s' :: L) W → ∀ i, W.frozen? ⟨B, i, none⟩ = false := fun W s' hW => (rjblock hW 0 rfl).2
  have hset : ∀ W s' (d : Bool), Mem.Own w0 (rjA B R j :: rk G R s' :: L) W → Mem.Own w0 (rjA B R { j with dead := d } :: rk G R s' :: L) (W.setCell ⟨B, 9, none⟩ (.bool d)) := fun W s' d hW => hW.boxset 0 rfl 9 (.bool d)
  have hsec : ∀ (i : Nat) W s', i < m → Mem.Own w0 (rjA B R j :: rk G R s' :: L) W → Calls Tryz.prog 61 #[.int .i64 j.h.boot, .int .i64 (n + (i : Int)), .int .u8 (kd : Int), .string (x i)] W fun e w' => ∃ ao cap, e = .returned (.tuple #[.slice ao (parts (x i).size) cap, .int .i64 0]) ∧ Mem.Own w0 (secA (.slice ao (parts (x i).size) cap) (parts (x i).size) (sec j.h.boot (n + (i : Int)) kd (x i)) :: rjA B R j :: rk G R s' :: L) w' := fun i W s' hi hW => by
    have q := o_rsecs hW j.h.boot (n + (i : Int)) kd (x i) hkd (by have := hfit i hi; unfold maxLen; omega)
    rw [(secE_ok (hfit i hi) (hnum i hi)).1, (secE_ok (hfit i hi) (hnum i hi)).2] at q
    exact q
  have hwr : ∀ (i k : Nat) (v : Value) (W : World), i < m → k < parts (x i).size → Mem.Own w0 (secA v (parts (x i).size) (sec j.h.boot (n + (i : Int)) kd (x i)) :: rjA B R j :: rk G R (pour s (t : Int) g (pre x i + k)).2 :: L) W → Calls Tryz.prog 62 #[.pointer (some ⟨R, 0, none⟩), .int .i64 ((t : Int) + ((pre x i : Int) + (k : Int))), .string (sec j.h.boot (n + (i : Int)) kd (x i) k)] W fun e w' => e = .returned (.int .i64 ((pour s (t : Int) g (pre x i + k)).2.writes ((t : Int) + ((pre x i + k : Nat) : Int)) (g (pre x i + k))).1) ∧ Mem.Own w0 (secA v (parts (x i).size) (sec j.h.boot (n + (i : Int)) kd (x i)) :: rjA B R j :: rk G R ((pour s (t : Int) g (pre x i + k)).2.writes ((t : Int) + ((pre x i + k : Nat) : Int)) (g (pre x i + k))).2 :: L) w' := fun i k v W hi hk hW => by
    have h1 := pour_len s (t : Int) g (pre x i + k)
    have h2 : pre x (i + 1) ≤ pre x m := pre_mono (by omega)
    have h3 : pre x (i + 1) = pre x i + parts (x i).size := rfl
    rw [hgat i k hi hk, show (t : Int) + ((pre x i : Int) + (k : Int)) = (t : Int) + ((pre x i + k : Nat) : Int) by push_cast; rfl]
    exact o_rwrite hW 2 rfl (by omega) _ _
  have hsy : ∀ (W : World) s', Mem.Own w0 (rjA B R j :: rk G R s' :: L) W → Calls Tryz.prog 63 #[.pointer (some ⟨R, 0, none⟩)] W fun e w' => e = .returned (.int .i64 s'.syncs.1) ∧ Mem.Own w0 (rjA B R j :: rk G R s'.syncs.2 :: L) w' := fun W s' hW => o_rsync hW 1 rfl
  have hpm : pre x m ≤ 94 * m := pre_le hfit
  have hpr : ∀ i, i ≤ m → pre x i ≤ pre x m := fun i hi => pre_mono hi
  have HH := Lib.hid (And.intro hlk (And.intro hfz (And.intro hset (And.intro hsec (And.intro hwr (And.intro hsy (And.intro hst (And.intro hfit hpr))))))))
  have h0 := Lib.hid h
  clear hg hgat hlk hfz hset hsec hwr hsy hst hfit hpr hnum hroom h
  go_enter Tryz.func33, Tryz.ntmps33
  go_wp2_with fail
  go_loopw [10, 11, 12, 13, 14, 15, 16] (fun _ _ v12 v13 _ _ _ wr => ∃ i : Nat, i ≤ m ∧ v12 = .int .i64 (pre x i : Int) ∧ v13 = .int .i64 (i : Int) ∧ (pour s (t : Int) g (pre x i)).1 = 0 ∧ Mem.Own w0 (rjA B R j :: rk G R (pour s (t : Int) g (pre x i)).2 :: L) wr) (fun _ _ _ v13 _ _ _ _ => m - (intOf v13).toNat)
  case atStart => exact ⟨0, by omega, rfl, rfl, rfl, h0.out⟩
  case round =>
    clear h0
    obtain ⟨i, hi, rfl, rfl, hp0, ho⟩ := hrel
    have hHp0 := Lib.hid hp0
    have k1 := Lib.hid ho
    have hpi := HH.out.2.2.2.2.2.2.2.2 i hi
    clear hp0 ho
    by_cases hlt : i < m
    · have hpi1 := HH.out.2.2.2.2.2.2.2.2 (i + 1) (by omega)
      have hpe : pre x (i + 1) = pre x i + parts (x i).size := rfl
      have hfi := HH.out.2.2.2.2.2.2.2.1 i hlt
      have hq1 := parts_le hfi
      obtain ⟨gg, o, rfl, x0⟩ := (HH.out.2.2.2.2.2.2.1 [] _ _ k1.out) i hlt
      have hX : ∀ Q W s', Mem.Own w0 (Q ++ rjA B R j :: rk G R s' :: L) W → (W.cell? ⟨B, 3, none⟩ = some (.int .i64 j.h.boot) ∧ W.cell? ⟨gg, o + i, none⟩ = some (.string (x i))) := fun Q W s' hW => by
        obtain ⟨g', o', e', c'⟩ := (HH.out.2.2.2.2.2.2.1 Q W s' hW) i hlt
        cases e'
        exact ⟨(HH.out.1 Q W s' hW).2, c'⟩
      have S1 := hX [] _ _ k1.out
      have S2 := hX [] _ _ k1.out.drew
      have hsc := fun W s' => HH.out.2.2.2.1 i W s' hlt
      have hww := fun k v W => HH.out.2.2.2.2.1 i k v W hlt
      obtain ⟨BT, hBT⟩ : ∃ BT, BT = j.h.boot := ⟨_, rfl⟩
      rw [← hBT] at hX S1 S2 hsc hww
      obtain ⟨X, hXx⟩ : ∃ X, X = x i := ⟨_, rfl⟩
      rw [← hXx] at hX S1 S2 hsc hww hpe hq1
      obtain ⟨P, hP⟩ : ∃ P, P = parts X.size := ⟨_, rfl⟩
      rw [← hP] at hsc hww hpe hq1
      obtain ⟨Y, hY⟩ : ∃ Y, Y = sec BT (n + (i : Int)) kd X := ⟨_, rfl⟩
      rw [← hY] at hsc hww
      obtain ⟨pp, hpp⟩ : ∃ pp, pp = pre x i := ⟨_, rfl⟩
      rw [← hpp] at hHp0 k1 hpi hpe hww ⊢
      have hni : IntKind.i64.wrap (n + (i : Int)) = n + (i : Int) := by rw [IntKind.wrap_i64]; omega
      have HA := Lib.hid (And.intro hX (And.intro hsc (And.intro hww hpe)))
      clear hX hsc hww hpe hBT hXx hP hY hpp hfi x0
      go_upto_region 5 with fail
      go_region_held3 (fun W => W.cell? ⟨B, 3, none⟩ = some (.int .i64 BT) ∧ W.cell? ⟨gg, o + i, none⟩ = some (.string X))
        (first | with_reducible assumption)
        (first
          | (go_at_call 61; (with_reducible refine (HA.out.2.1 _ _ k1.out.drew).mono ?_); rintro e u2 ⟨ao2, cap2, rfl, k2'⟩; have S3 := HA.out.1 [_] _ _ k2'; have k2 := Lib.hid k2'; clear k2'))
      clear S1 S2 S3 hni
      go_wp2_with fail
      go_loopw [10, 11, 12, 15, 16] (fun _ _ v12 _ v16 wr => ∃ k : Nat, k ≤ P ∧ v12 = .int .i64 ((pp : Int) + (k : Int)) ∧ v16 = .int .i64 (k : Int) ∧ (pour s (t : Int) g (pp + k)).1 = 0 ∧ Mem.Own w0 (secA (.slice ao2 P cap2) P Y :: rjA B R j :: rk G R (pour s (t : Int) g (pp + k)).2 :: L) wr) (fun _ _ _ _ v16 _ => P - (intOf v16).toNat)
      case atStart => exact ⟨0, by omega, by simp, rfl, hHp0.out, k2.out⟩
      case round =>
        clear k2 k1
        obtain ⟨k, hk, rfl, rfl, hq0, ho⟩ := hrel
        have hHq0 := Lib.hid hq0
        have k3 := Lib.hid ho
        clear hq0 ho
        by_cases hlk : k < P
        · obtain ⟨g2, rfl, y0⟩ := (own_strs k3.out 0 rfl) k hlk
          have hYc : ∀ s' W, Mem.Own w0 (secA (.slice (some ⟨g2, 0, none⟩) P cap2) P Y :: rjA B R j :: rk G R s' :: L) W → (W.cell? ⟨B, 0, none⟩ = some (.pointer (some ⟨R, 0, none⟩)) ∧ W.cell? ⟨g2, k, none⟩ = some (.string (Y k))) := fun s' W hW => by
            obtain ⟨g', e', c'⟩ := (own_strs hW 0 rfl) k hlk
            cases e'
            exact ⟨(HH.out.1 [_] W s' hW).1, c'⟩
          have S1 := hYc _ _ k3.out
          have S2 := hYc _ _ k3.out.drew
          have hw := HA.out.2.2.1 k (.slice (some ⟨g2, 0, none⟩) P cap2) wr.drew hlk k3.out.drew
          have hpe := HA.out.2.2.2
          have hw1 : IntKind.i64.wrap ((t : Int) + ((pp : Int) + (k : Int))) = (t : Int) + ((pp : Int) + (k : Int)) := by rw [IntKind.wrap_i64]; omega
          have hstep := pour_succ hHq0.out
          have hfail := poured_eq (m := pre x m) (by omega : pp + k < pre x m) hHq0.out
          obtain ⟨RR, hR⟩ : ∃ RR, RR = (pour s (t : Int) g (pp + k)).2.writes ((t : Int) + ((pp + k : Nat) : Int)) (g (pp + k)) := ⟨_, rfl⟩
          rw [← hR] at hw hstep hfail
          obtain ⟨E, hE⟩ : ∃ E, E = RR.1 := ⟨_, rfl⟩
          rw [← hE] at hw hfail
          have HW := Lib.hid hw
          have HY := Lib.hid hYc
          have HK := Lib.hid (And.intro hstep (And.intro hfail hE))
          clear hw hYc hstep hfail hR hE hpe y0
          go_upto_region 11 with fail
          go_region_held3 (fun W => W.cell? ⟨B, 0, none⟩ = some (.pointer (some ⟨R, 0, none⟩)) ∧ W.cell? ⟨g2, k, none⟩ = some (.string (Y k)))
            (first | with_reducible assumption)
            (first
              | (go_at_call 62; (with_reducible refine HW.out.mono ?_); rintro e u4 ⟨rfl, k4'⟩; have S3 := HY.out _ _ k4'; have k4 := Lib.hid k4'; clear k4'))
          clear S1 S2 S3 hw1
          by_cases he : E = 0
          · have te : (E != 0) = false := by simp [he]
            have HE := Lib.hid he
            clear he
            go_wp2_with fail
            go_roundw
            case rel => exact ⟨k + 1, by omega, by go_num, by go_num, by show (pour s (t : Int) g (pp + k + 1)).1 = 0; rw [HK.out.1, ← HK.out.2.2]; exact HE.out, by show Mem.Own w0 (_ :: _ :: rk G R (pour s (t : Int) g (pp + k + 1)).2 :: L) _; rw [HK.out.1]; exact k4.out⟩
            case measure => simp [intOf]; omega
          · have te : (E != 0) = true := by simpa using he
            have HE := Lib.hid (And.intro he te)
            clear he
            have f9 := (rjblock k4.out 1 rfl).2 9
            have f8 := (rjblock k4.out 1 rfl).1.2.2.2.2.2.2.2.2.2
            go_wp2_with fail
            go_ret2
            rw [HK.out.2.1 HE.out.1, ← HK.out.2.2]
            refine ⟨0, rfl, fun h => absurd h HE.out.1, ?_⟩
            rw [HE.out.2]
            exact HH.out.2.2.1 _ _ _ k4.out.tail
        · obtain rfl : k = P := by omega
          have hpe := HA.out.2.2.2
          have hpx := hHq0.out
          rw [← hpe] at hpx
          have k4 := k3.out.tail
          rw [← hpe] at k4
          have k5 := Lib.hid (And.intro hpx k4)
          have hcast : ((pre x (i + 1) : Nat) : Int) = (pp : Int) + (k : Int) := by rw [hpe]; push_cast; rfl
          have HC := Lib.hid hcast
          clear hpe hpx k4 hcast
          go_wp2_with fail
          go_roundw
          case rel => exact ⟨i + 1, by omega, by rw [HC.out], by go_num, k5.out.1, k5.out.2⟩
          case measure => simp [intOf]; omega
    · obtain rfl : i = m := by omega
      have hfin : poured s (t : Int) g (pre x i) = (pour s (t : Int) g (pre x i)).2.syncs := by
        unfold poured; rw [if_neg (by rw [hHp0.out]; decide)]
      have hs := HH.out.2.2.2.2.2.1 _ _ k1.out
      obtain ⟨RR, hR⟩ : ∃ RR, RR = (pour s (t : Int) g (pre x i)).2.syncs := ⟨_, rfl⟩
      rw [← hR] at hs hfin
      have HF := Lib.hid hfin
      have f1 := (HH.out.1 [] _ _ k1.out).1
      obtain ⟨pp, hpp⟩ : ∃ pp, pp = pre x i := ⟨_, rfl⟩
      rw [← hpp] at HF ⊢
      have HS := Lib.hid hs
      have HP := Lib.hid hpp
      clear hfin hs hR hpp hpi
      go_wp2_with (go_at_call 63; (with_reducible refine HS.out.mono ?_); rintro e u2 ⟨rfl, k2'⟩; have f2 := (rjblock k2' 0 rfl).2 9; have f3 := (rjblock k2' 0 rfl).1.2.2.2.2.2.2.2.2.2; have k2 := Lib.hid k2'; clear k2')
      go_ret2
      rw [← HP.out, HF.out]
      exact ⟨_, rfl, fun _ => rfl, HH.out.2.2.1 _ _ _ k2.out⟩
end Go.Proofs.YtckbhjjflpobbaaGreat.Jk

namespace Go.Proofs.YtckbhjjflpobbaaGreat.Jk
open Go Go.RowKit Go.ChangeShapes Go.WideShapes Go.ChangeAt Go.Proofs.YtckbhjjflpobbaaGreat.Mem Go.Proofs.YtckbhjjflpobbaaGreat.Pk Go.Proofs.YtckbhjjflpobbaaGreat.Fk Go.Proofs.YtckbhjjflpobbaaGreat.Dz Go.Proofs.YtckbhjjflpobbaaGreat.Fz Go.Proofs.YtckbhjjflpobbaaGreat.Rc
open Go.Proofs.YtckbhjjflpobbaaGreat.Hk (Hd saves loads o_save o_load hblock)

theorem says_two : ∀ f : St, f.says = 0 ∨ f.says = 10
  | .idle => .inl rfl
  | .armed 0 => .inr rfl
  | .armed (_ + 1) => .inl rfl
  | .blown => .inr rfl
theorem writes_err {s : Ds} {i : Nat} {d : ByteArray} (hi : i < s.n) (hd : d.size = 80) : (s.writes (i : Int) d).1 = 0 ∨ (s.writes (i : Int) d).1 = 10 := by
  unfold Ds.writes
  rw [if_neg (by rw [Ds.out_in hi]; decide), if_neg (by omega)]
  rcases says_two s.fu with e | e
  · rw [if_neg (by rw [e]; decide)]; exact .inl rfl
  · rw [if_pos (by rw [e]; decide)]; exact .inr e
theorem pour_err {s : Ds} {t : Nat} {g : Nat → ByteArray} : ∀ {k : Nat}, (∀ i, i < k → (g i).size = 80) → t + k ≤ s.n → (pour s (t : Int) g k).1 = 0 ∨ (pour s (t : Int) g k).1 = 10
  | 0, _, _ => .inl rfl
  | k + 1, hg, hn => by
    have ih := pour_err (s := s) (t := t) (g := g) (k := k) (fun i hi => hg i (by omega)) (by omega)
    show (if _ then _ else _ : Int × Ds).1 = 0 ∨ (if _ then _ else _ : Int × Ds).1 = 10
    by_cases h : (pour s (t : Int) g k).1 ≠ 0
    · rw [if_pos h]; exact ih
    · rw [if_neg h, show (t : Int) + (k : Int) = ((t + k : Nat) : Int) by push_cast; rfl]
      exact writes_err (by rw [pour_n]; omega) (hg k (by omega))
theorem poured_err {s : Ds} {t : Nat} {g : Nat → ByteArray} {m : Nat} (hg : ∀ i, i < m → (g i).size = 80) (hn : t + m ≤ s.n) : (poured s (t : Int) g m).1 = 0 ∨ (poured s (t : Int) g m).1 = 10 := by
  unfold poured
  by_cases h : (pour s (t : Int) g m).1 ≠ 0
  · rw [if_pos h]; exact pour_err hg hn
  · rw [if_neg h]
    unfold Ds.syncs
    rcases says_two (pour s (t : Int) g m).2.fu with e | e
    · rw [if_neg (by rw [e]; decide)]; exact .inl rfl
    · rw [if_pos (by rw [e]; decide)]; exact .inr e
theorem rk_full {w0 w : World} {L : List As} (h : Mem.Own w0 L w) (i : Nat) {G R : Nat} {s : Ds} (hi : L[i]? = some (rk G R s)) : w.cell? ⟨R, 3, none⟩ = some (.bool s.full) := by
  obtain ⟨S, ⟨Sb, pv, hd, _⟩, _⟩ := h.see i hi
  exact cell_of_row _ _ _ _ _ _ hd.blk
/-- The cells that Append reads. -/
theorem rj_reads {w0 w : World} {L : List As} {B R G : Nat} {j : Jw} {s : Ds} (Q : List As) (h : Mem.Own w0 (Q ++ rjA B R j :: rk G R s :: L) w) : w.cell? ⟨B, 0, none⟩ = some (.pointer (some ⟨R, 0, none⟩)) ∧ w.cell? ⟨B, 1, none⟩ = some (.int .i64 (j.area : Int)) ∧ w.cell? ⟨B, 4, none⟩ = some (.int .i64 j.h.area) ∧ w.cell? ⟨B, 7, none⟩ = some (.int .i64 j.n) ∧ w.cell? ⟨B, 8, none⟩ = some (.int .i64 (j.used : Int)) ∧ w.cell? ⟨R, 3, none⟩ = some (.bool s.full) := by
  have h1 : (Q ++ rjA B R j :: rk G R s :: L)[Q.length]? = some (rjA B R j) := by rw [List.getElem?_append_right (Nat.le_refl _), Nat.sub_self]; rfl
  have h2 : (Q ++ rjA B R j :: rk G R s :: L)[Q.length + 1]? = some (rk G R s) := by rw [List.getElem?_append_right (by omega), show Q.length + 1 - Q.length = 1 by omega]; rfl
  obtain ⟨⟨c0, c1, _, _, c4, _, _, c7, c8, _⟩, _⟩ := rjblock h Q.length h1
  exact ⟨c0, c1, c4, c7, c8, rk_full h (Q.length + 1) h2⟩
theorem rsize1 (d : ByteArray) (hd : d.size ≤ maxLen) (W : World) : Calls Tryz.prog 32 #[.slice (some ⟨W.heap.size, 0, none⟩) 1 1] (W.alloc (.cells #[.string d] 9)) fun e w' => e = .returned (.tuple #[.int .i64 (sizeN (fun _ => d) 1 : Int), .int .i64 (sizeE (fun _ => d) 1)]) ∧ (W.alloc (.cells #[.string d] 9)) = w' :=
  rsize_c _ 1 1 (fun _ => d) (by decide) (fun _ _ => hd) _ (wide (row1 W d))
/-- write, with a row that was just built. -/
theorem rwrite1 {w0 w : World} {L : List As} {B R G : Nat} {j : Jw} {s : Ds} (h : Mem.Own w0 (rjA B R j :: rk G R s :: L) w) (t : Nat) (n : Int) (ht : t ≤ 70000) (hn : 0 ≤ n ∧ n ≤ 281474976710656) (kd : Nat) (hkd : kd < 256) (d : ByteArray) (hfit : d.size ≤ 4096) (hnum : num j.h.boot n) (hroom : s.pend.length + 94 < 4294967296) :
    Calls Tryz.prog 33 #[.pointer (some ⟨B, 0, none⟩), .int .i64 (t : Int), .int .i64 n, .int .u8 (kd : Int), .slice (some ⟨w.heap.size, 0, none⟩) 1 1] (w.alloc (.cells #[.string d] 9)).drew fun e w' =>
      ∃ N : Int, e = .returned (.tuple #[.int .i64 N, .int .i64 (poured s (t : Int) (sec j.h.boot n kd d) (parts d.size)).1]) ∧ ((poured s (t : Int) (sec j.h.boot n kd d) (parts d.size)).1 = 0 → N = (parts d.size : Int)) ∧ Mem.Own w0 (rjA B R { j with dead := (poured s (t : Int) (sec j.h.boot n kd d) (parts d.size)).1 != 0 } :: rk G R (poured s (t : Int) (sec j.h.boot n kd d) (parts d.size)).2 :: L) w' := by
  have hb : Mem.Own w0 (rjA B R j :: rk G R s :: boxA w.heap.size #[.string d] 9 :: L) (w.alloc (.cells #[.string d] 9)).drew := (own_swap (L1 := [_]) (own_swap (L1 := []) (h.box #[.string d] 9))).drew
  have hpre : pre (fun _ => d) 1 = parts d.size := Nat.zero_add _
  have hp94 := parts_le hfit
  have hst : ∀ Q W s', Mem.Own w0 (Q ++ rjA B R j :: rk G R s' :: boxA w.heap.size #[.string d] 9 :: L) W → SAo W (some ⟨w.heap.size, 0, none⟩) 1 (fun _ => d) := fun Q W s' hW i hi => by
    obtain rfl : i = 0 := by omega
    have hr := hW.boxed (Q.length + 2) (by rw [List.getElem?_append_right (by omega), show Q.length + 2 - Q.length = 2 by omega]; rfl)
    exact ⟨_, _, rfl, cell_of_row _ _ _ _ _ _ hr⟩
  have q := o_rjwrite hb t n ht hn kd hkd (some ⟨w.heap.size, 0, none⟩) 1 1 (fun _ => d) (by decide) (fun _ _ => hfit) (fun i hi => by
    obtain rfl : i = 0 := by omega
    simpa using hnum) hst (by rw [hpre]; omega)
  rw [hpre, pour_flat1] at q
  exact q.mono fun e w' ⟨N, he, hN, hw⟩ => ⟨N, he, hN, (own_swap (L1 := []) (own_swap (L1 := [_]) hw)).tail⟩
set_option maxRecDepth 100000 in
set_option maxHeartbeats 8000000 in
theorem o_rappend {w0 w : World} {L : List As} {B R G : Nat} {j : Jw} {s : Ds} (h : Mem.Own w0 (rjA B R j :: rk G R s :: L) w) (hj : Jok j s 1) (hn : s.n = 2 + 2 * j.area) (d : ByteArray) (hd : d.size ≤ maxLen) :
    Calls Tryz.prog 9 #[.pointer (some ⟨B, 0, none⟩), .string d] w fun e w' => e = .returned (.int .i64 (appends j s d).1) ∧ Mem.Own w0 (rjA B R (appends j s d).2.1 :: rk G R (appends j s d).2.2 :: L) w' := by
  obtain ⟨⟨_, _, _, _, _, _, _, _, _, c9⟩, _⟩ := rjblock h 0 rfl
  by_cases hdead : j.dead = true
  · have e : appends j s d = (10, j, s) := by unfold appends; rw [if_pos hdead]
    rw [hdead] at c9
    rw [e]
    have H := Lib.hid h
    clear h hj hn hdead e
    go_enter Tryz.func9, Tryz.ntmps9
    go_wp2_with fail
    go_ret
    exact ⟨rfl, H.out⟩
  have hd9 : j.dead = false := by simpa using hdead
  rw [hd9] at c9
  have hk1 := (Kept.refl w).alloc (.cells #[.string d] 9)
  by_cases hbig : 4096 < d.size
  · have e : appends j s d = (5, j, s) := by unfold appends; rw [if_neg hdead, if_pos hbig]
    have hs := rsize1 d hd w
    have e1 : sizeE (fun _ => d) 1 = 5 ∧ sizeN (fun _ => d) 1 = 0 := by
      have : ¬ fits (fun _ => d) 1 := fun hf => by have : d.size ≤ 4096 := hf 0 (by decide); omega
      unfold sizeE sizeN; rw [if_neg this, if_neg this]; exact ⟨rfl, rfl⟩
    rw [e1.1, e1.2] at hs
    rw [e]
    have H := Lib.hid (And.intro (h.later hk1) hs)
    clear h hj hn hdead e hbig hd9 hk1 e1 hs
    go_enter Tryz.func9, Tryz.ntmps9
    go_wp2_with (go_at_call 32; (with_reducible refine H.out.2.mono ?_); rintro e u1 ⟨rfl, rfl⟩)
    go_ret
    exact ⟨rfl, H.out.1⟩
  have hfit : d.size ≤ 4096 := by omega
  have hs := rsize1 d hd w
  have e1 : sizeE (fun _ => d) 1 = 0 ∧ sizeN (fun _ => d) 1 = parts d.size := by
    have hf : fits (fun _ => d) 1 := fun _ _ => hfit
    unfold sizeE sizeN; rw [if_pos hf, if_pos hf]; exact ⟨rfl, Nat.zero_add _⟩
  rw [e1.1, e1.2] at hs
  have hrd := rj_reads [] (h.later hk1)
  obtain ⟨r0, r1, r4, r7, r8, r3⟩ := hrd
  have hu := hj.used
  have har := hj.area
  have hp94 := parts_le hfit
  have hroom := hj.room
  have hn0 := hj.n0
  have hn1 := hj.n1
  obtain ⟨p, hp⟩ : ∃ p, p = parts d.size := ⟨_, rfl⟩
  rw [← hp] at hs hp94
  by_cases hfr : s.full = true ∨ j.area < j.used + p
  · have e : appends j s d = (9, j, s) := by unfold appends; rw [if_neg hdead, if_neg hbig, ← hp, if_pos hfr]
    rw [e]
    have H := Lib.hid (And.intro (h.later hk1) hs)
    clear h hj hn hdead e hbig hd9 hk1 e1 hs hp hfit
    by_cases hf : s.full = true
    · rw [hf] at r3
      clear hf hfr
      go_enter Tryz.func9, Tryz.ntmps9
      go_upto_region 8 with (go_at_call 32; (with_reducible refine H.out.2.mono ?_); rintro e u1 ⟨rfl, rfl⟩)
      go_quiet (fail)
      go_wp2_with fail
      go_ret
      exact ⟨rfl, H.out.1.later ((Kept.refl _).drewN _)⟩
    · have hff : s.full = false := by simpa using hf
      have hr : j.area < j.used + p := hfr.resolve_left hf
      rw [hff] at r3
      have tB : decide ((j.area : Int) - (j.used : Int) < (p : Int)) = true := by simp; omega
      clear hf hff hfr hr
      go_enter Tryz.func9, Tryz.ntmps9
      go_upto_region 8 with (go_at_call 32; (with_reducible refine H.out.2.mono ?_); rintro e u1 ⟨rfl, rfl⟩)
      go_quiet (fail)
      go_wp2_with fail
      go_ret
      exact ⟨rfl, H.out.1.later ((Kept.refl _).drewN _)⟩
  have hff : s.full = false := by
    cases hh : s.full
    · rfl
    · exact absurd (.inl hh) hfr
  have hr : j.used + p ≤ j.area := by
    rcases Nat.lt_or_ge j.area (j.used + p) with h1 | h1
    · exact absurd (.inr h1) hfr
    · exact h1
  have tB : decide ((j.area : Int) - (j.used : Int) < (p : Int)) = false := by simp; omega
  rw [hff] at r3
  obtain ⟨BB, hBB⟩ : ∃ BB : Nat, (2 : Int) + (j.area : Int) * j.h.area = (BB : Int) ∧ 2 ≤ BB ∧ BB + j.area ≤ 2 + 2 * j.area := ⟨_, base_beg hj.half, beg_le hj.half⟩
  have hnum : num j.h.boot (j.n + 1) := by
    have := hj.num (i := 0) (by decide)
    rwa [show j.n + 1 + ((0 : Nat) : Int) = j.n + 1 by omega] at this
  have hbg : ∀ W, Calls Tryz.prog 34 #[.int .i64 (j.area : Int), .int .i64 j.h.area] W fun e w' => e = .returned (.int .i64 (BB : Int)) ∧ W = w' := fun W => by
    have hab : -9223372036854775808 ≤ (j.area : Int) * j.h.area ∧ 2 + (j.area : Int) * j.h.area ≤ 9223372036854775807 := by
      rcases hj.half with e | e <;> rw [e] <;> omega
    have q := rbegin_c (j.area : Int) j.h.area hab W
    rw [hBB.1] at q
    exact q
  have hsz : ∀ i, i < p → (sec j.h.boot (j.n + 1) 2 d i).size = 80 := fun i hi => sec_size hnum hfit (by omega)
  have herr := poured_err (s := s) (t := BB + j.used) (g := sec j.h.boot (j.n + 1) 2 d) (m := p) hsz (by rw [hn]; omega)
  have hwr : ∀ W, Mem.Own w0 (rjA B R j :: rk G R s :: L) W → Calls Tryz.prog 33 #[.pointer (some ⟨B, 0, none⟩), .int .i64 ((BB : Int) + (j.used : Int)), .int .i64 (j.n + 1), .int .u8 2, .slice (some ⟨W.heap.size, 0, none⟩) 1 1] (W.alloc (.cells #[.string d] 9)).drew fun e w' =>
      ∃ N : Int, e = .returned (.tuple #[.int .i64 N, .int .i64 (poured s ((BB + j.used : Nat) : Int) (sec j.h.boot (j.n + 1) 2 d) p).1]) ∧ ((poured s ((BB + j.used : Nat) : Int) (sec j.h.boot (j.n + 1) 2 d) p).1 = 0 → N = (p : Int)) ∧ Mem.Own w0 (rjA B R { j with dead := (poured s ((BB + j.used : Nat) : Int) (sec j.h.boot (j.n + 1) 2 d) p).1 != 0 } :: rk G R (poured s ((BB + j.used : Nat) : Int) (sec j.h.boot (j.n + 1) 2 d) p).2 :: L) w' := fun W hW => by
    have q := rwrite1 hW (BB + j.used) (j.n + 1) (by omega) ⟨by omega, by omega⟩ 2 (by decide) d hfit hnum (by omega)
    rw [← hp] at q
    rw [show (BB : Int) + (j.used : Int) = ((BB + j.used : Nat) : Int) by push_cast; rfl]
    exact q
  have un : appends j s d = if (poured s ((BB + j.used : Nat) : Int) (sec j.h.boot (j.n + 1) 2 d) p).1 ≠ 0 then ((poured s ((BB + j.used : Nat) : Int) (sec j.h.boot (j.n + 1) 2 d) p).1, j.told (poured s ((BB + j.used : Nat) : Int) (sec j.h.boot (j.n + 1) 2 d) p).1, (poured s ((BB + j.used : Nat) : Int) (sec j.h.boot (j.n + 1) 2 d) p).2) else (0, { j with n := j.n + 1, used := j.used + p, dead := false }, (poured s ((BB + j.used : Nat) : Int) (sec j.h.boot (j.n + 1) 2 d) p).2) := by
    have eb : j.base j.h.area + (j.used : Int) = ((BB + j.used : Nat) : Int) := by unfold Jw.base; rw [hBB.1]; push_cast; rfl
    unfold appends
    rw [if_neg hdead, if_neg hbig, ← hp, if_neg hfr, eb]
  obtain ⟨RR, hR⟩ : ∃ RR, RR = poured s ((BB + j.used : Nat) : Int) (sec j.h.boot (j.n + 1) 2 d) p := ⟨_, rfl⟩
  rw [← hR] at herr hwr un
  obtain ⟨E, s2⟩ := RR
  have herr : E = 0 ∨ E = 10 := herr
  have hX : ∀ W, Mem.Own w0 (rjA B R j :: rk G R s :: L) W → (W.cell? ⟨B, 1, none⟩ = some (.int .i64 (j.area : Int)) ∧ W.cell? ⟨B, 4, none⟩ = some (.int .i64 j.h.area) ∧ W.cell? ⟨B, 7, none⟩ = some (.int .i64 j.n) ∧ W.cell? ⟨B, 8, none⟩ = some (.int .i64 (j.used : Int))) := fun W hW => by
    obtain ⟨_, a1, a4, a7, a8, _⟩ := rj_reads [] hW
    exact ⟨a1, a4, a7, a8⟩
  have hY : ∀ (b : Bool) W, Mem.Own w0 (rjA B R { j with dead := b } :: rk G R s2 :: L) W → (W.cell? ⟨B, 1, none⟩ = some (.int .i64 (j.area : Int)) ∧ W.cell? ⟨B, 4, none⟩ = some (.int .i64 j.h.area) ∧ W.cell? ⟨B, 7, none⟩ = some (.int .i64 j.n) ∧ W.cell? ⟨B, 8, none⟩ = some (.int .i64 (j.used : Int))) := fun b W hW => by
    obtain ⟨_, a1, a4, a7, a8, _⟩ := rj_reads [] hW
    exact ⟨a1, a4, a7, a8⟩
  have hw1 : IntKind.i64.wrap ((BB : Int) + (j.used : Int)) = (BB : Int) + (j.used : Int) := by rw [IntKind.wrap_i64]; omega
  have hw2 : IntKind.i64.wrap (j.n + 1) = j.n + 1 := by rw [IntKind.wrap_i64]; omega
  have H := Lib.hid (And.intro (h.later hk1) (And.intro hs (And.intro hbg (And.intro hwr (And.intro un (And.intro hX hY))))))
  clear h hj hn hdead hbig hd9 hk1 e1 hs hp hfit hfr hff hBB hnum hbg hsz hwr un hX hY hR
  go_enter Tryz.func9, Tryz.ntmps9
  go_upto_region 8 with (go_at_call 32; (with_reducible refine H.out.2.1.mono ?_); rintro e u1 ⟨rfl, rfl⟩)
  go_cut [41] from 22 to 40 (fun v41 wx => v41 = .bool false ∧ Mem.Own w0 (rjA B R j :: rk G R s :: L) wx)
  case first =>
    go_quiet (fail)
    go_wp2_with fail
    go_meet
    exact ⟨rfl, H.out.1.later ((Kept.refl _).drewN _)⟩
  case rest =>
    obtain ⟨rfl, h2⟩ := hcut
    have k2 := Lib.hid h2
    have S1 := H.out.2.2.2.2.2.1 _ h2
    have S2 := H.out.2.2.2.2.2.1 _ h2.drew
    have S3 := H.out.2.2.2.2.2.1 _ (h2.later ((Kept.refl wc).alloc (.cells #[.string d] 9))).drew
    clear h2 r0 r1 r3 r4 r7 r8 tB
    go_upto_region 10 with fail
    go_cut [5, 6] from 42 to 68 (fun v5 v6 wx => ∃ N : Int, v5 = .int .i64 N ∧ v6 = .int .i64 E ∧ (E = 0 → N = (p : Int)) ∧ Mem.Own w0 (rjA B R { j with dead := E != 0 } :: rk G R s2 :: L) wx)
    case first =>
      go_region_held3 (fun W => W.cell? ⟨B, 1, none⟩ = some (.int .i64 (j.area : Int)) ∧ W.cell? ⟨B, 4, none⟩ = some (.int .i64 j.h.area) ∧ W.cell? ⟨B, 7, none⟩ = some (.int .i64 j.n) ∧ W.cell? ⟨B, 8, none⟩ = some (.int .i64 (j.used : Int)))
        (first | with_reducible assumption)
        (first
          | (go_at_call 34; (with_reducible refine (H.out.2.2.1 _).mono ?_); rintro e u3 ⟨rfl, rfl⟩)
          | (go_at_call 33; (with_reducible refine (H.out.2.2.2.1 _ k2.out).mono ?_); rintro e u4 ⟨N, rfl, hN', k4'⟩; have S9 := H.out.2.2.2.2.2.2 _ _ k4'; have k4 := Lib.hid (And.intro hN' k4'); clear k4' hN'))
      all_goals
        go_wp2_with fail
        go_meet
        exact ⟨_, rfl, rfl, k4.out.1, k4.out.2⟩
    case rest =>
      obtain ⟨N, rfl, rfl, hN, h4⟩ := hcut
      clear S1 S2 S3 k2
      have un := H.out.2.2.2.2.1
      rcases herr with rfl | rfl
      · have e : appends j s d = (0, { j with n := j.n + 1, used := j.used + p, dead := false }, s2) := un.trans (if_neg (by decide))
        obtain rfl := hN rfl
        obtain ⟨⟨_, _, _, _, _, _, _, _, _, _⟩, fz⟩ := rjblock h4 0 rfl
        have fz7 := fz 7
        have fz8 := fz 8
        have k4 := Lib.hid h4.drew
        have HE := Lib.hid e
        clear un e h4 fz hN
        go_upto_region 13 with fail
        go_region
        all_goals
          go_wp2_with fail
          go_ret
          rw [HE.out]
          refine ⟨rfl, ?_⟩
          first
            | exact (k4.out.boxset 0 rfl 7 (.int .i64 (j.n + 1))).boxset 0 rfl 8 (.int .i64 ((j.used : Int) + (p : Int)))
            | exact (k4.out.boxset 0 rfl 8 (.int .i64 ((j.used : Int) + (p : Int)))).boxset 0 rfl 7 (.int .i64 (j.n + 1))
      · have e : appends j s d = (10, j.told 10, s2) := un.trans (if_pos (by decide))
        have k4 := Lib.hid h4
        have HE := Lib.hid e
        clear un e h4 hN
        go_wp2_with fail
        go_ret
        rw [HE.out]
        exact ⟨rfl, k4.out⟩
end Go.Proofs.YtckbhjjflpobbaaGreat.Jk

namespace Go.Proofs.YtckbhjjflpobbaaGreat.Jk
open Go Go.RowKit Go.ChangeShapes Go.WideShapes Go.ChangeAt Go.Proofs.YtckbhjjflpobbaaGreat.Mem Go.Proofs.YtckbhjjflpobbaaGreat.Pk Go.Proofs.YtckbhjjflpobbaaGreat.Fk Go.Proofs.YtckbhjjflpobbaaGreat.Dz Go.Proofs.YtckbhjjflpobbaaGreat.Fz Go.Proofs.YtckbhjjflpobbaaGreat.Rc
open Go.Proofs.YtckbhjjflpobbaaGreat.Hk (Hd saves loads o_save o_load hblock o_rsave enc_size slot_nat)

theorem saves_err {s : Ds} {c : Hd} (g : c.good) (hn : 2 ≤ s.n) : (saves s c).1 = 0 ∨ (saves s c).1 = 10 := by
  unfold Hk.saves
  rw [if_neg (by rw [(Hd.err_zero c).mpr g]; decide), if_neg (by omega), slot_nat g]
  by_cases h : (s.writes ((c.seq.toNat % 2 : Nat) : Int) c.enc).1 ≠ 0
  · rw [if_pos h]
    exact writes_err (by omega) (enc_size g)
  · rw [if_neg h]
    unfold Ds.syncs
    rcases says_two (s.writes ((c.seq.toNat % 2 : Nat) : Int) c.enc).2.fu with e | e
    · rw [if_neg (by rw [e]; decide)]; exact .inl rfl
    · rw [if_pos (by rw [e]; decide)]; exact .inr e
theorem poured_n (s : Ds) (t : Int) (g : Nat → ByteArray) (m : Nat) : (poured s t g m).2.n = s.n := by
  unfold poured
  by_cases h : (pour s t g m).1 ≠ 0
  · rw [if_pos h]; exact pour_n s t g m
  · rw [if_neg h]
    have : (pour s t g m).2.syncs.2.n = (pour s t g m).2.n := by unfold Ds.syncs; split <;> rfl
    rw [this]; exact pour_n s t g m
theorem poured_len (s : Ds) (t : Int) (g : Nat → ByteArray) (m : Nat) : (poured s t g m).2.pend.length ≤ s.pend.length + m := by
  have h0 := pour_len s t g m
  unfold poured
  by_cases h : (pour s t g m).1 ≠ 0
  · rw [if_pos h]; exact h0
  · rw [if_neg h]
    have : (pour s t g m).2.syncs.2.pend.length ≤ (pour s t g m).2.pend.length := by
      unfold Ds.syncs
      split
      · exact Nat.le_refl _
      · exact Nat.zero_le _
    omega
def hdA (g : Nat) (c : Hd) : As := boxA g #[.int .i64 c.seq, .int .i64 c.boot, .int .i64 c.area, .int .i64 c.first, .int .i64 c.snaps] 74
set_option maxRecDepth 100000 in
set_option maxHeartbeats 8000000 in
theorem o_rcompact {w0 w : World} {L : List As} {B R G : Nat} {j : Jw} {s : Ds} (h : Mem.Own w0 (rjA B R j :: rk G R s :: L) w) (ao : Option Addr) (cap m : Nat) (x : Nat → ByteArray) (hm : m < 65536) (hj : Jok j s m) (hg : (j.next m).good) (hn : s.n = 2 + 2 * j.area) (hx : ∀ i, i < m → (x i).size ≤ maxLen)
    (hst : ∀ Q W s', Mem.Own w0 (Q ++ rjA B R j :: rk G R s' :: L) W → SAo W ao m x) :
    Calls Tryz.prog 12 #[.pointer (some ⟨B, 0, none⟩), .slice ao m cap] w fun e w' => e = .returned (.int .i64 (compacts j s x m).1) ∧ Mem.Own w0 (rjA B R (compacts j s x m).2.1 :: rk G R (compacts j s x m).2.2 :: L) w' := by
  obtain ⟨⟨_, _, _, _, _, _, _, _, _, c9⟩, _⟩ := rjblock h 0 rfl
  by_cases hdead : j.dead = true
  · have e : compacts j s x m = (10, j, s) := by unfold compacts; rw [if_pos hdead]
    rw [hdead] at c9
    rw [e]
    have H := Lib.hid h
    clear h hj hn hdead e hst hx hg
    go_enter Tryz.func12, Tryz.ntmps12
    go_wp2_with fail
    go_ret
    exact ⟨rfl, H.out⟩
  have hd9 : j.dead = false := by simpa using hdead
  rw [hd9] at c9
  have hs := rsize_c ao cap m x (by omega) hx w (hst [] w s h)
  by_cases hfit : fits x m
  case neg =>
    have e : compacts j s x m = (5, j, s) := by unfold compacts; rw [if_neg hdead, if_pos hfit]
    have e1 : sizeE x m = 5 ∧ sizeN x m = 0 := by unfold sizeE sizeN; rw [if_neg hfit, if_neg hfit]; exact ⟨rfl, rfl⟩
    rw [e1.1, e1.2] at hs
    rw [e]
    have H := Lib.hid (And.intro h hs)
    clear h hj hn hdead e hst hx hg hs e1 hd9 hfit
    go_enter Tryz.func12, Tryz.ntmps12
    go_wp2_with (go_at_call 32; (with_reducible refine H.out.2.mono ?_); rintro e u1 ⟨rfl, rfl⟩)
    go_ret
    exact ⟨rfl, H.out.1⟩
  have e1 : sizeE x m = 0 ∧ sizeN x m = pre x m := by unfold sizeE sizeN; rw [if_pos hfit, if_pos hfit]; exact ⟨rfl, rfl⟩
  rw [e1.1, e1.2] at hs
  have hpl := pre_le hfit
  have hr1 := (rj_reads [] h).2.1
  obtain ⟨p, hp⟩ : ∃ p, p = pre x m := ⟨_, rfl⟩
  rw [← hp] at hs hpl
  by_cases hroom : j.area < p
  · have e : compacts j s x m = (9, j, s) := by unfold compacts; rw [if_neg hdead, if_neg (not_not_intro hfit), ← hp, if_pos hroom]
    have tB : decide ((j.area : Int) < (p : Int)) = true := by simp; omega
    have tB2 : decide (j.area < p) = true := by simp; omega
    rw [e]
    have H := Lib.hid (And.intro h hs)
    clear h hj hn hdead e hst hx hg hs e1 hd9 hfit hp hroom
    go_enter Tryz.func12, Tryz.ntmps12
    go_wp2_with (go_at_call 32; (with_reducible refine H.out.2.mono ?_); rintro e u1 ⟨rfl, rfl⟩)
    go_ret
    exact ⟨rfl, H.out.1⟩
  have tB : decide ((j.area : Int) < (p : Int)) = false := by simp; omega
  have tB2 : decide (j.area < p) = false := by simp; omega
  have har := hj.area
  have hroom2 := hj.room
  have hn0 := hj.n0
  have hn1 := hj.n1
  have hh1 : 1 - j.h.area = 0 ∨ 1 - j.h.area = 1 := by have := hj.half; omega
  obtain ⟨BB, hBB⟩ : ∃ BB : Nat, (2 : Int) + (j.area : Int) * (1 - j.h.area) = (BB : Int) ∧ 2 ≤ BB ∧ BB + j.area ≤ 2 + 2 * j.area := ⟨_, base_beg hh1, beg_le hh1⟩
  have hbg : ∀ W, Calls Tryz.prog 34 #[.int .i64 (j.area : Int), .int .i64 (1 - j.h.area)] W fun e w' => e = .returned (.int .i64 (BB : Int)) ∧ W = w' := fun W => by
    have hab : -9223372036854775808 ≤ (j.area : Int) * (1 - j.h.area) ∧ 2 + (j.area : Int) * (1 - j.h.area) ≤ 9223372036854775807 := by
      rcases hh1 with e | e <;> rw [e] <;> omega
    have q := rbegin_c (j.area : Int) (1 - j.h.area) hab W
    rw [hBB.1] at q
    exact q
  have herr := poured_err (s := s) (t := BB) (g := flat j.h.boot (j.n + 1) 1 x m) (m := p) (fun i hi => flat_size hj.boot (by omega) (by omega) hfit i (by omega)) (by rw [hn]; omega)
  have hwr := fun W (hW : Mem.Own w0 (rjA B R j :: rk G R s :: L) W) => o_rjwrite hW BB (j.n + 1) (by omega) ⟨by omega, by omega⟩ 1 (by decide) ao cap m x hm hfit (fun i hi => hj.num hi) hst (by omega)
  have un : compacts j s x m = if (poured s (BB : Int) (flat j.h.boot (j.n + 1) 1 x m) p).1 ≠ 0 then ((poured s (BB : Int) (flat j.h.boot (j.n + 1) 1 x m) p).1, j.told (poured s (BB : Int) (flat j.h.boot (j.n + 1) 1 x m) p).1, (poured s (BB : Int) (flat j.h.boot (j.n + 1) 1 x m) p).2) else
      if (saves (poured s (BB : Int) (flat j.h.boot (j.n + 1) 1 x m) p).2 (j.next m)).1 ≠ 0 then ((saves (poured s (BB : Int) (flat j.h.boot (j.n + 1) 1 x m) p).2 (j.next m)).1, j.told (saves (poured s (BB : Int) (flat j.h.boot (j.n + 1) 1 x m) p).2 (j.next m)).1, (saves (poured s (BB : Int) (flat j.h.boot (j.n + 1) 1 x m) p).2 (j.next m)).2)
      else (0, { j with h := j.next m, n := j.n + (m : Int), used := p, dead := false }, (saves (poured s (BB : Int) (flat j.h.boot (j.n + 1) 1 x m) p).2 (j.next m)).2) := by
    unfold compacts
    rw [if_neg hdead, if_neg (not_not_intro hfit), ← hp, if_neg hroom]
    unfold Jw.base
    rw [hBB.1]
  rw [← hp] at hwr
  have hns : (poured s (BB : Int) (flat j.h.boot (j.n + 1) 1 x m) p).2.n = s.n := poured_n _ _ _ _
  have hls := poured_len s (BB : Int) (flat j.h.boot (j.n + 1) 1 x m) p
  obtain ⟨RR, hR⟩ : ∃ RR, RR = poured s (BB : Int) (flat j.h.boot (j.n + 1) 1 x m) p := ⟨_, rfl⟩
  rw [← hR] at herr hwr un hns hls
  obtain ⟨E, s2⟩ := RR
  replace herr : E = 0 ∨ E = 10 := herr
  replace hns : s2.n = s.n := hns
  replace hls : s2.pend.length ≤ s.pend.length + p := hls
  replace hwr : ∀ W, Mem.Own w0 (rjA B R j :: rk G R s :: L) W → Calls Tryz.prog 33 #[.pointer (some ⟨B, 0, none⟩), .int .i64 (BB : Int), .int .i64 (j.n + 1), .int .u8 1, .slice ao m cap] W fun e w' => ∃ N : Int, e = .returned (.tuple #[.int .i64 N, .int .i64 E]) ∧ (E = 0 → N = (p : Int)) ∧ Mem.Own w0 (rjA B R { j with dead := E != 0 } :: rk G R s2 :: L) w' := hwr
  have herr2 := saves_err (s := s2) hg (by rw [hns, hn]; omega)
  have hsv : ∀ (g : Nat) (j' : Jw) W, Mem.Own w0 (hdA g (j.next m) :: rjA B R j' :: rk G R s2 :: L) W → Calls Tryz.prog 36 #[.pointer (some ⟨R, 0, none⟩), .agg #[.int .i64 (j.h.seq + 1), .int .i64 j.h.boot, .int .i64 (1 - j.h.area), .int .i64 (j.n + 1), .int .i64 (m : Int)]] W fun e w' => e = .returned (.int .i64 (saves s2 (j.next m)).1) ∧ Mem.Own w0 (hdA g (j.next m) :: rjA B R j' :: rk G R (saves s2 (j.next m)).2 :: L) w' := fun g j' W hW => o_rsave hW 2 rfl (by omega) (j.next m)
  obtain ⟨RR2, hR2⟩ : ∃ RR2, RR2 = saves s2 (j.next m) := ⟨_, rfl⟩
  replace un : compacts j s x m = if E ≠ 0 then (E, j.told E, s2) else if (saves s2 (j.next m)).1 ≠ 0 then ((saves s2 (j.next m)).1, j.told (saves s2 (j.next m)).1, (saves s2 (j.next m)).2) else (0, { j with h := j.next m, n := j.n + (m : Int), used := p, dead := false }, (saves s2 (j.next m)).2) := un
  rw [← hR2] at herr2 hsv un
  obtain ⟨E2, s3⟩ := RR2
  replace herr2 : E2 = 0 ∨ E2 = 10 := herr2
  replace un : compacts j s x m = if E ≠ 0 then (E, j.told E, s2) else if E2 ≠ 0 then (E2, j.told E2, s3) else (0, { j with h := j.next m, n := j.n + (m : Int), used := p, dead := false }, s3) := un
  replace hsv : ∀ (g : Nat) (j' : Jw) W, Mem.Own w0 (hdA g (j.next m) :: rjA B R j' :: rk G R s2 :: L) W → Calls Tryz.prog 36 #[.pointer (some ⟨R, 0, none⟩), .agg #[.int .i64 (j.h.seq + 1), .int .i64 j.h.boot, .int .i64 (1 - j.h.area), .int .i64 (j.n + 1), .int .i64 (m : Int)]] W fun e w' => e = .returned (.int .i64 E2) ∧ Mem.Own w0 (hdA g (j.next m) :: rjA B R j' :: rk G R s3 :: L) w' := hsv
  have hX : ∀ Q b s' W, Mem.Own w0 (Q ++ rjA B R { j with dead := b } :: rk G R s' :: L) W → ((W.cell? ⟨B, 0, none⟩ = some (.pointer (some ⟨R, 0, none⟩)) ∧ W.cell? ⟨B, 1, none⟩ = some (.int .i64 (j.area : Int)) ∧ W.cell? ⟨B, 2, none⟩ = some (.int .i64 j.h.seq) ∧ W.cell? ⟨B, 3, none⟩ = some (.int .i64 j.h.boot) ∧ W.cell? ⟨B, 4, none⟩ = some (.int .i64 j.h.area) ∧ W.cell? ⟨B, 7, none⟩ = some (.int .i64 j.n)) ∧ ∀ i, W.frozen? ⟨B, i, none⟩ = false) := fun Q b s' W hW => by
    have h1 : (Q ++ rjA B R { j with dead := b } :: rk G R s' :: L)[Q.length]? = some (rjA B R { j with dead := b }) := by rw [List.getElem?_append_right (Nat.le_refl _), Nat.sub_self]; rfl
    obtain ⟨⟨c0, c1, c2, c3, c4, _, _, c7, _, _⟩, fz⟩ := rjblock hW Q.length h1
    exact ⟨⟨c0, c1, c2, c3, c4, c7⟩, fz⟩
  have h' : Mem.Own w0 (rjA B R { j with dead := false } :: rk G R s :: L) w := by
    have e : ({ j with dead := false } : Jw) = j := by rw [← hd9]
    rw [e]; exact h
  have hseq := hg.s2
  have hseq1 := hg.s1
  have hseq : j.h.seq + 1 ≤ 281474976710655 := hseq
  have hseq1 : 1 ≤ j.h.seq + 1 := hseq1
  have hw1 : IntKind.i64.wrap (1 - j.h.area) = 1 - j.h.area := by rw [IntKind.wrap_i64]; omega
  have hw2 : IntKind.i64.wrap (j.n + 1) = j.n + 1 := by rw [IntKind.wrap_i64]; omega
  have hw3 : IntKind.i64.wrap (j.h.seq + 1) = j.h.seq + 1 := by rw [IntKind.wrap_i64]; omega
  have hw4 : IntKind.i64.wrap (j.n + (m : Int)) = j.n + (m : Int) := by rw [IntKind.wrap_i64]; omega
  have hwr2 := hwr w h
  have H := Lib.hid (And.intro h' (And.intro hs (And.intro hbg (And.intro (hwr w.drew h.drew) (And.intro hsv (And.intro un hX))))))
  have a1 := (hX [] false s w h').1
  have a1d := (hX [] false s w.drew h'.drew).1
  have S1 : w.cell? ⟨B, 1, none⟩ = some (.int .i64 (j.area : Int)) ∧ w.cell? ⟨B, 4, none⟩ = some (.int .i64 j.h.area) ∧ w.cell? ⟨B, 7, none⟩ = some (.int .i64 j.n) := ⟨a1.2.1, a1.2.2.2.2.1, a1.2.2.2.2.2⟩
  have S2 : w.drew.cell? ⟨B, 1, none⟩ = some (.int .i64 (j.area : Int)) ∧ w.drew.cell? ⟨B, 4, none⟩ = some (.int .i64 j.h.area) ∧ w.drew.cell? ⟨B, 7, none⟩ = some (.int .i64 j.n) := ⟨a1d.2.1, a1d.2.2.2.2.1, a1d.2.2.2.2.2⟩
  clear h h' hj hg hn hdead hst hx hs e1 hd9 hfit hp hroom hBB hbg hwr hwr2 hns hls hsv un hX hR hR2 a1 a1d hh1
  go_enter Tryz.func12, Tryz.ntmps12
  go_upto_region 10 with (go_at_call 32; (with_reducible refine H.out.2.1.mono ?_); rintro e u1 ⟨rfl, rfl⟩)
  go_cut [6] from 28 to 49 (fun v6 wx => v6 = .int .i64 E ∧ Mem.Own w0 (rjA B R { j with dead := E != 0 } :: rk G R s2 :: L) wx)
  case first =>
    go_region_held3 (fun W => W.cell? ⟨B, 1, none⟩ = some (.int .i64 (j.area : Int)) ∧ W.cell? ⟨B, 4, none⟩ = some (.int .i64 j.h.area) ∧ W.cell? ⟨B, 7, none⟩ = some (.int .i64 j.n))
      (first | with_reducible assumption)
      (first
        | (go_at_call 34; (with_reducible refine (H.out.2.2.1 _).mono ?_); rintro e u3 ⟨rfl, rfl⟩)
        | (go_at_call 33; (with_reducible refine H.out.2.2.2.1.mono ?_); rintro e u4 ⟨N, rfl, hN', k4'⟩; have b1 := (H.out.2.2.2.2.2.2 [] _ _ _ k4').1; have S9 : u4.cell? ⟨B, 1, none⟩ = some (.int .i64 (j.area : Int)) ∧ u4.cell? ⟨B, 4, none⟩ = some (.int .i64 j.h.area) ∧ u4.cell? ⟨B, 7, none⟩ = some (.int .i64 j.n) := ⟨b1.2.1, b1.2.2.2.2.1, b1.2.2.2.2.2⟩; have k4 := Lib.hid k4'; clear k4' hN' b1))
    all_goals
      go_wp2_with fail
      go_meet
      exact ⟨rfl, k4.out⟩
  case rest =>
    obtain ⟨rfl, h4⟩ := hcut
    clear S1 S2 c9 hr1 tB tB2
    rcases herr with rfl | rfl
    rotate_left
    · have HE := Lib.hid (H.out.2.2.2.2.2.1.trans (if_pos (by decide)))
      have k4 := Lib.hid h4
      clear h4
      go_wp2_with fail
      go_ret
      rw [HE.out]
      exact ⟨rfl, k4.out⟩
    · have k4 := Lib.hid h4
      have b1 := (H.out.2.2.2.2.2.2 [] _ _ _ h4).1
      have b2 := (H.out.2.2.2.2.2.2 [] _ _ _ h4.drew).1
      have S1 := b1.2.2
      have S2 := b2.2.2
      have S3 := (H.out.2.2.2.2.2.2 [_] _ _ _ (h4.box #[.int .i64 0, .int .i64 0, .int .i64 0, .int .i64 0, .int .i64 0] 74).drew).1.2.2
      have S4 := (H.out.2.2.2.2.2.2 [_] _ _ _ (h4.box #[.int .i64 (j.h.seq + 1), .int .i64 j.h.boot, .int .i64 (1 - j.h.area), .int .i64 (j.n + 1), .int .i64 (m : Int)] 74).drew).1.2.2
      clear h4 b1 b2
      go_upto_region 13 with fail
      go_cut [7] from 53 to 77 (fun v7 wx => ∃ g : Nat, v7 = .pointer (some ⟨g, 0, none⟩) ∧ Mem.Own w0 (hdA g (j.next m) :: rjA B R { j with dead := (0 : Int) != 0 } :: rk G R s2 :: L) wx)
      case first =>
        go_region_held3 (fun W => W.cell? ⟨B, 2, none⟩ = some (.int .i64 j.h.seq) ∧ W.cell? ⟨B, 3, none⟩ = some (.int .i64 j.h.boot) ∧ W.cell? ⟨B, 4, none⟩ = some (.int .i64 j.h.area) ∧ W.cell? ⟨B, 7, none⟩ = some (.int .i64 j.n))
          (first | with_reducible assumption)
          (first | fail)
        all_goals
          go_wp2_with fail
          go_meet
          exact ⟨_, rfl, (k4.out.box #[.int .i64 (j.h.seq + 1), .int .i64 j.h.boot, .int .i64 (1 - j.h.area), .int .i64 (j.n + 1), .int .i64 (m : Int)] 74).drew⟩
      case rest =>
        obtain ⟨g, rfl, h5⟩ := hcut
        have k5 := Lib.hid h5
        have hc := (hblock (h5.boxed 0 rfl)).1
        have hcd := (hblock (h5.drew.boxed 0 rfl)).1
        have S5 := And.intro (H.out.2.2.2.2.2.2 [_] _ _ _ h5).1.1 hc
        have S6 := And.intro (H.out.2.2.2.2.2.2 [_] _ _ _ h5.drew).1.1 hcd
        clear h5 hc hcd S1 S2 S3 S4 k4
        have hsv := H.out.2.2.2.2.1 g { j with dead := (0 : Int) != 0 } _ k5.out.drew
        have un := H.out.2.2.2.2.2.1
        rcases herr2 with rfl | rfl
        · have HE := Lib.hid (un.trans ((if_neg (by decide)).trans (if_neg (by decide))))
          have HV := Lib.hid hsv
          clear un hsv
          go_upto_region 14 with fail
          go_region_held3 (fun W => W.cell? ⟨B, 0, none⟩ = some (.pointer (some ⟨R, 0, none⟩)) ∧ W.cell? ⟨g, 0, none⟩ = some (.int .i64 (j.next m).seq) ∧ W.cell? ⟨g, 1, none⟩ = some (.int .i64 (j.next m).boot) ∧ W.cell? ⟨g, 2, none⟩ = some (.int .i64 (j.next m).area) ∧ W.cell? ⟨g, 3, none⟩ = some (.int .i64 (j.next m).first) ∧ W.cell? ⟨g, 4, none⟩ = some (.int .i64 (j.next m).snaps))
            (first | with_reducible assumption)
            (first
              | (go_at_call 36; (refine HV.out.mono ?_); rintro e u6 ⟨rfl, k6'⟩; have S7 := And.intro (H.out.2.2.2.2.2.2 [_] _ _ _ k6').1.1 (hblock (k6'.boxed 0 rfl)).1; have k7 := Lib.hid k6'; clear k6'))
          clear S5 S6 S7
          obtain ⟨c0, c1, c2, c3, c4⟩ := (hblock (k7.out.boxed 0 rfl)).1
          have q0 : u6.cell? ⟨g, 0, none⟩ = some (.int .i64 (j.h.seq + 1)) := c0
          have q1 : u6.cell? ⟨g, 1, none⟩ = some (.int .i64 j.h.boot) := c1
          have q2 : u6.cell? ⟨g, 2, none⟩ = some (.int .i64 (1 - j.h.area)) := c2
          have q3 : u6.cell? ⟨g, 3, none⟩ = some (.int .i64 (j.n + 1)) := c3
          have q4 : u6.cell? ⟨g, 4, none⟩ = some (.int .i64 (m : Int)) := c4
          have hb := H.out.2.2.2.2.2.2 [_] _ _ _ k7.out
          have r7 := hb.1.2.2.2.2.2
          have fz2 := hb.2 2
          have fz3 := hb.2 3
          have fz4 := hb.2 4
          have fz5 := hb.2 5
          have fz6 := hb.2 6
          have fz7 := hb.2 7
          have fz8 := hb.2 8
          clear c0 c1 c2 c3 c4 hb
          obtain ⟨⟨_, _, _, _, _, _, _, _, _, _⟩, _⟩ := rjblock k7.out 1 rfl
          go_upto_region 18 with fail
          go_region
          all_goals
            go_wp2_with fail
            go_ret
            rw [HE.out]
            refine ⟨rfl, ?_⟩
            exact (((((((k7.out.tail.boxset 0 rfl 2 (.int .i64 (j.next m).seq)).boxset 0 rfl 3 (.int .i64 (j.next m).boot)).boxset 0 rfl 4 (.int .i64 (j.next m).area)).boxset 0 rfl 5 (.int .i64 (j.next m).first)).boxset 0 rfl 6 (.int .i64 (j.next m).snaps)).boxset 0 rfl 7 (.int .i64 (j.n + (m : Int)))).boxset 0 rfl 8 (.int .i64 (p : Int))).drew
        · have HE := Lib.hid (un.trans ((if_neg (by decide)).trans (if_pos (by decide))))
          have HV := Lib.hid hsv
          clear un hsv
          go_upto_region 14 with fail
          go_region_held3 (fun W => W.cell? ⟨B, 0, none⟩ = some (.pointer (some ⟨R, 0, none⟩)) ∧ W.cell? ⟨g, 0, none⟩ = some (.int .i64 (j.next m).seq) ∧ W.cell? ⟨g, 1, none⟩ = some (.int .i64 (j.next m).boot) ∧ W.cell? ⟨g, 2, none⟩ = some (.int .i64 (j.next m).area) ∧ W.cell? ⟨g, 3, none⟩ = some (.int .i64 (j.next m).first) ∧ W.cell? ⟨g, 4, none⟩ = some (.int .i64 (j.next m).snaps))
            (first | with_reducible assumption)
            (first
              | (go_at_call 36; (refine HV.out.mono ?_); rintro e u6 ⟨rfl, k6'⟩; have S7 := And.intro (H.out.2.2.2.2.2.2 [_] _ _ _ k6').1.1 (hblock (k6'.boxed 0 rfl)).1; have k7 := Lib.hid k6'; clear k6'))
          clear S5 S6 S7
          have fz9 := (rjblock k7.out 1 rfl).2 9
          have r9 := (rjblock k7.out 1 rfl).1.2.2.2.2.2.2.2.2.2
          go_wp2_with fail
          go_ret
          rw [HE.out]
          exact ⟨rfl, k7.out.tail.boxset 0 rfl 9 (.bool true)⟩
end Go.Proofs.YtckbhjjflpobbaaGreat.Jk

namespace Go.Proofs.YtckbhjjflpobbaaGreat.Jk
open Go Go.RowKit Go.ChangeShapes Go.WideShapes Go.ChangeAt Go.Proofs.YtckbhjjflpobbaaGreat.Mem Go.Proofs.YtckbhjjflpobbaaGreat.Pk Go.Proofs.YtckbhjjflpobbaaGreat.Fk Go.Proofs.YtckbhjjflpobbaaGreat.Dz Go.Proofs.YtckbhjjflpobbaaGreat.Fz Go.Proofs.YtckbhjjflpobbaaGreat.Rc
open Go.Proofs.YtckbhjjflpobbaaGreat.Hk (Hd saves loads o_save o_load hblock)

def boA (X x : Nat) (vJ vR : Value) : As := boxA X #[.pointer (some ⟨x, 0, none⟩), vJ, vR] 31
theorem bocells {w0 w : World} {L : List As} (h : Mem.Own w0 L w) (i : Nat) {X x : Nat} {vJ vR : Value} (hi : L[i]? = some (boA X x vJ vR)) : (w.cell? ⟨X, 0, none⟩ = some (.pointer (some ⟨x, 0, none⟩)) ∧ w.cell? ⟨X, 1, none⟩ = some vJ ∧ w.cell? ⟨X, 2, none⟩ = some vR) ∧ ∀ i, w.frozen? ⟨X, i, none⟩ = false := by
  have hb := h.boxed i hi
  exact ⟨⟨cell_of_row _ _ _ _ _ _ hb, cell_of_row _ _ _ _ _ _ hb, cell_of_row _ _ _ _ _ _ hb⟩, fun i => frozen_of_row w X i _ _ hb⟩
set_option maxRecDepth 100000 in
set_option maxHeartbeats 4000000 in
theorem same_nil {w0 w : World} {L : List As} {X x : Nat} (h : Mem.Own w0 (boA X x (.pointer none) (.pointer none) :: L) w) :
    Calls Tryz.prog 17 #[.pointer (some ⟨X, 0, none⟩)] w fun e w' => e = .returned (.bool true) ∧ Mem.Own w0 (boA X x (.pointer none) (.pointer none) :: L) w' := by
  obtain ⟨⟨_, f1, f2⟩, _⟩ := bocells h 0 rfl
  have H := Lib.hid h
  clear h
  go_enter Tryz.func17, Tryz.ntmps17
  go_wp2_with (first
    | (go_at_call 43; (with_reducible refine (boot_nil _).mono ?_); rintro e u1 ⟨rfl, k1'⟩; have g1 := (bocells (H.out.later k1') 0 rfl).1.2.1; have k1 := Lib.hid (H.out.later k1'); clear k1')
    | (go_at_call 44; (with_reducible refine (lsn_nil _).mono ?_); rintro e u2 ⟨rfl, k2'⟩; have g2 := (bocells (k1.out.later k2') 0 rfl).1.2.1; have k2 := Lib.hid (k1.out.later k2'); clear k2')
    | (go_at_call 29; (with_reducible refine (room_nil _).mono ?_); rintro e u3 ⟨rfl, k3'⟩; have k3 := Lib.hid (k2.out.later k3'); clear k3'))
  go_ret
  exact ⟨rfl, k3.out⟩
set_option maxRecDepth 100000 in
set_option maxHeartbeats 8000000 in
theorem o_same {w0 w : World} {L : List As} {X x J D B R : Nat} {j : Jw} (h : Mem.Own w0 (boA X x (.pointer (some ⟨J, 0, none⟩)) (.pointer (some ⟨B, 0, none⟩)) :: jA J D j :: rjA B R j :: L) w) (ha : j.area ≤ 32000) (hu : j.used ≤ j.area) :
    Calls Tryz.prog 17 #[.pointer (some ⟨X, 0, none⟩)] w fun e w' => e = .returned (.bool true) ∧ Mem.Own w0 (boA X x (.pointer (some ⟨J, 0, none⟩)) (.pointer (some ⟨B, 0, none⟩)) :: jA J D j :: rjA B R j :: L) w' := by
  obtain ⟨L', hL⟩ : ∃ L', L' = boA X x (.pointer (some ⟨J, 0, none⟩)) (.pointer (some ⟨B, 0, none⟩)) :: jA J D j :: rjA B R j :: L := ⟨_, rfl⟩
  have hX : ∀ W, Mem.Own w0 L' W → (W.cell? ⟨X, 1, none⟩ = some (.pointer (some ⟨J, 0, none⟩)) ∧ W.cell? ⟨X, 2, none⟩ = some (.pointer (some ⟨B, 0, none⟩)) ∧ W.cell? ⟨B, 1, none⟩ = some (.int .i64 (j.area : Int)) ∧ W.cell? ⟨B, 3, none⟩ = some (.int .i64 j.h.boot) ∧ W.cell? ⟨B, 7, none⟩ = some (.int .i64 j.n) ∧ W.cell? ⟨B, 8, none⟩ = some (.int .i64 (j.used : Int))) := fun W hW => by
    rw [hL] at hW
    obtain ⟨⟨_, f1, f2⟩, _⟩ := bocells hW 0 rfl
    obtain ⟨⟨_, c1, _, c3, _, _, _, c7, c8, _⟩, _⟩ := rjblock hW 2 rfl
    exact ⟨f1, f2, c1, c3, c7, c8⟩
  have hb : ∀ W, Mem.Own w0 L' W → Calls Tryz.prog 43 #[.pointer (some ⟨J, 0, none⟩)] W fun e w' => e = .returned (.int .i64 j.h.boot) ∧ Mem.Own w0 L' w' := fun W hW => by
    have h2 := hW
    rw [hL] at h2
    exact (boot_c J D j W (own_j h2 1 rfl)).mono fun e w' ⟨he, hw⟩ => ⟨he, hw ▸ hW⟩
  have hl : ∀ W, Mem.Own w0 L' W → Calls Tryz.prog 44 #[.pointer (some ⟨J, 0, none⟩)] W fun e w' => e = .returned (.int .i64 j.n) ∧ Mem.Own w0 L' w' := fun W hW => by
    have h2 := hW
    rw [hL] at h2
    exact (lsn_c J D j W (own_j h2 1 rfl)).mono fun e w' ⟨he, hw⟩ => ⟨he, hw ▸ hW⟩
  have hr : ∀ W, Mem.Own w0 L' W → Calls Tryz.prog 29 #[.pointer (some ⟨J, 0, none⟩)] W fun e w' => e = .returned (.int .i64 ((j.area : Int) - (j.used : Int))) ∧ Mem.Own w0 L' w' := fun W hW => by
    have h2 := hW
    rw [hL] at h2
    exact (room_c J D j ha hu W (own_j h2 1 rfl)).mono fun e w' ⟨he, hk⟩ => ⟨he, hW.later hk⟩
  rw [← hL] at h ⊢
  have hw1 : IntKind.i64.wrap ((j.area : Int) - (j.used : Int)) = (j.area : Int) - (j.used : Int) := by rw [IntKind.wrap_i64]; omega
  have S1 := hX _ h
  have S2 := hX _ h.drew
  have k0 := Lib.hid h
  have HC := Lib.hid (And.intro hb (And.intro hl (And.intro hr hX)))
  clear h hX hb hl hr hL
  go_enter Tryz.func17, Tryz.ntmps17
  go_upto_region 3 with fail
  go_region_held3 (fun W => W.cell? ⟨X, 1, none⟩ = some (.pointer (some ⟨J, 0, none⟩)) ∧ W.cell? ⟨X, 2, none⟩ = some (.pointer (some ⟨B, 0, none⟩)) ∧ W.cell? ⟨B, 1, none⟩ = some (.int .i64 (j.area : Int)) ∧ W.cell? ⟨B, 3, none⟩ = some (.int .i64 j.h.boot) ∧ W.cell? ⟨B, 7, none⟩ = some (.int .i64 j.n) ∧ W.cell? ⟨B, 8, none⟩ = some (.int .i64 (j.used : Int)))
    (first | with_reducible assumption)
    (first
      | (go_at_call 43; (with_reducible refine (HC.out.1 _ k0.out.drew).mono ?_); rintro e u1 ⟨rfl, k1'⟩; have S3 := HC.out.2.2.2 _ k1'; have k1 := Lib.hid k1'; clear k1')
      | (go_at_call 44; (with_reducible refine (HC.out.2.1 _ k1.out).mono ?_); rintro e u2 ⟨rfl, k2'⟩; have S4 := HC.out.2.2.2 _ k2'; have k2 := Lib.hid k2'; clear k2')
      | (go_at_call 29; (with_reducible refine (HC.out.2.2.1 _ k2.out).mono ?_); rintro e u3 ⟨rfl, k3'⟩; have S5 := HC.out.2.2.2 _ k3'; have k3 := Lib.hid k3'; clear k3'))
  all_goals
    go_wp2_with fail
    go_ret
    exact ⟨rfl, k3.out⟩
end Go.Proofs.YtckbhjjflpobbaaGreat.Jk

namespace Go.Proofs.YtckbhjjflpobbaaGreat.Jk
open Go Go.RowKit Go.ChangeShapes Go.WideShapes Go.ChangeAt Go.Proofs.YtckbhjjflpobbaaGreat.Mem Go.Proofs.YtckbhjjflpobbaaGreat.Pk Go.Proofs.YtckbhjjflpobbaaGreat.Fk Go.Proofs.YtckbhjjflpobbaaGreat.Dz Go.Proofs.YtckbhjjflpobbaaGreat.Fz Go.Proofs.YtckbhjjflpobbaaGreat.Rc
open Go.Proofs.YtckbhjjflpobbaaGreat.Hk (Hd saves loads o_save o_load hblock o_rsave o_rload enc_size slot_nat)

theorem o_rfetch {w0 w : World} {L : List As} (h : Mem.Own w0 L w) (i : Nat) {G R : Nat} {s : Ds} (hi : L[i]? = some (rk G R s)) (hok : s.ok) (a e lsn boot : Int) (ha : -9223372036854775808 ≤ a ∧ a ≤ 9223372036854775807) (he : -9223372036854775808 ≤ e ∧ e ≤ 9223372036854775807) :
    Calls Tryz.prog 53 #[.pointer (some ⟨R, 0, none⟩), .int .i64 a, .int .i64 e, .int .i64 lsn, .int .i64 boot] w fun ed w' => ed = .returned (.tuple #[.agg #[.int .i64 (fetch s a e lsn boot).1.boot, .int .i64 (fetch s a e lsn boot).1.lsn, .int .i64 (fetch s a e lsn boot).1.part, .int .i64 (fetch s a e lsn boot).1.parts, .int .u8 ((fetch s a e lsn boot).1.kind : Int), .string (fetch s a e lsn boot).1.data], .int .i64 (fetch s a e lsn boot).2]) ∧ Mem.Own w0 L w' :=
  h.rlook i hi fun Sb pv hd => rfetch_c R G Sb pv s hok a e lsn boot ha he w hd
theorem fblock {y : World} {F : Nat} {T : TypeId} {a b c d e f : Value} (h : y.heap[F]? = some (.cells #[a, b, c, d, e, f] T (0, 0))) :
    (y.cell? ⟨F, 0, none⟩ = some a ∧ y.cell? ⟨F, 1, none⟩ = some b ∧ y.cell? ⟨F, 2, none⟩ = some c ∧ y.cell? ⟨F, 3, none⟩ = some d ∧ y.cell? ⟨F, 4, none⟩ = some e ∧ y.cell? ⟨F, 5, none⟩ = some f) ∧ ∀ i, y.frozen? ⟨F, i, none⟩ = false :=
  ⟨⟨cell_of_row _ _ _ _ _ _ h, cell_of_row _ _ _ _ _ _ h, cell_of_row _ _ _ _ _ _ h, cell_of_row _ _ _ _ _ _ h, cell_of_row _ _ _ _ _ _ h, cell_of_row _ _ _ _ _ _ h⟩, fun i => frozen_of_row y F i _ _ h⟩
theorem liesR {v : Value} {n g H cap : Nat} (h : v.ownBlock = some g ∨ g = H) : (Value.slice (some ⟨g, 0, none⟩) n cap).ownBlock = v.ownBlock ∨ (Value.slice (some ⟨g, 0, none⟩) n cap).ownBlock = some H := by
  rcases h with h | rfl
  · exact .inl h.symm
  · exact .inr rfl
/-- Where a part of a slice begins. -/
def subA (ao : Option Addr) (c l : Nat) : Option Addr := if c = l then ao else ao.map (·.add (l * 1))
theorem sub_size : ∀ W, (sizeOf (Tryz.prog.elem 33)).run Tryz.prog W = .ok 1 W := fun _ => by kernel_rfl
set_option maxRecDepth 100000 in
theorem sub_h (ao : Option Addr) (n c m : Nat) (h : m ≤ c) (W : World) : (Instr.slice 33 (.slice ao n c) none (some (.int .i64 (m : Int))) none).run Tryz.prog W = .ok (.slice (subA ao c 0) m c) W := by
  rw [run_slice_h W 33 ao n c Tryz.underlying33 .i64 (m : Int) (by omega) (by omega), sub_size]
  show Result.ok (sliced ao 0 (m : Int).toNat c 1) W = _
  unfold sliced subA
  rw [Int.toNat_natCast]; rfl
set_option maxRecDepth 100000 in
theorem sub_l (ao : Option Addr) (n c m : Nat) (h : m ≤ n) (W : World) : (Instr.slice 33 (.slice ao n c) (some (.int .i64 (m : Int))) none none).run Tryz.prog W = .ok (.slice (subA ao c m) (n - m) (c - m)) W := by
  rw [run_slice_l W 33 ao n c Tryz.underlying33 .i64 (m : Int) (by omega) (by omega), sub_size]
  show Result.ok (sliced ao (m : Int).toNat n c 1) W = _
  unfold sliced subA
  rw [Int.toNat_natCast]
theorem sub_read {w0 w : World} {L : List As} (h : Mem.Own w0 L w) (i : Nat) {ao : Option Addr} {n c : Nat} {x : Nat → ByteArray} (hi : L[i]? = some (secA (.slice ao n c) n x)) :
    n ≤ c ∧ ∀ l k, l + k ≤ n → SAo w (subA ao c l) k (fun i => x (l + i)) := by
  have hr := h.row i hi
  have hs := own_strs h i hi
  refine ⟨?_, fun l k hlk j hj => ?_⟩
  · rcases hr.2 with ⟨e, _⟩ | ⟨g, cap, cur, e, _, _, hc, _⟩
    · cases e; omega
    · cases e; exact hc
  · rcases hr.2 with ⟨e, _⟩ | ⟨g, cap, cur, e, _, _, hc, _⟩
    · cases e; omega
    · cases e
      obtain ⟨g', e', h0⟩ := hs (l + j) (by omega)
      cases e'
      refine ⟨g, l, ?_, h0⟩
      unfold subA
      rw [if_neg (by omega)]
      simp [Addr.add]
      omega
/-- The journal that Open fills. -/
def jz (area : Nat) (n : Int) (used : Nat) : Jw := ⟨area, ⟨0, 0, 0, 0, 0⟩, n, used, false⟩
theorem rk_len {w0 w : World} {L : List As} (h : Mem.Own w0 L w) (i : Nat) {G R : Nat} {s : Ds} (hi : L[i]? = some (rk G R s)) : ∃ Sb : Nat, w.cell? ⟨R, 0, none⟩ = some (.slice (some ⟨Sb, 0, none⟩) s.n s.n) := by
  obtain ⟨S, ⟨Sb, pv, hd, _⟩, _⟩ := h.see i hi
  exact ⟨Sb, (hd.cells w (Off.refl _ _)).1⟩
theorem own_none {w0 w : World} {L : List As} (h : Mem.Own w0 L w) (x : Nat → ByteArray) : Mem.Own w0 (secA (.slice none 0 0) 0 x :: L) w :=
  (h.push (b := secA (.slice none 0 0) 0 x) (Kept.refl w) ⟨World.ownsRow_nil _ _ _ _, fun g hg => by cases hg⟩).front
set_option maxRecDepth 100000 in
set_option maxHeartbeats 8000000 in
theorem o_ropen {w0 w : World} {L : List As} {R G : Nat} {s : Ds} (h : Mem.Own w0 (rk G R s :: L) w) (hok : s.ok) (area : Nat) (ha : 1 ≤ area ∧ area ≤ 32000) (hn : s.n = 2 + 2 * area) (hroom : s.pend.length < 4294967296) (c : Hd) (m : Nat) (hc : newestHd s = (c, 0)) (hh : Hok c m) (Rl : List Fr)
    (hF : Found s.look (beg area c.area + area) (beg area c.area) c.first 1 m Rl) (hm : m ≤ Rl.length) :
    Calls Tryz.prog 26 #[.pointer (some ⟨R, 0, none⟩), .int .i64 (area : Int)] w fun e w' =>
      ((saves s (nextHd c)).1 = 0 → ∃ B ao cp, e = .returned (.tuple #[.pointer (some ⟨B, 0, none⟩), .slice (subA ao cp 0) m cp, .slice (subA ao cp m) (Rl.length - m) (cp - m), .int .i64 0]) ∧ Mem.Own w0 (rjA B R (opened area c Rl) :: rk G R (saves s (nextHd c)).2 :: secA (.slice ao Rl.length cp) Rl.length (xsF Rl) :: L) w') ∧
      ((saves s (nextHd c)).1 ≠ 0 → e = .returned (.tuple #[.pointer none, .slice none 0 0, .slice none 0 0, .int .i64 (saves s (nextHd c)).1]) ∧ Mem.Own w0 (rk G R (saves s (nextHd c)).2 :: L) w') := by
  have hdead := newest_alive hc
  obtain ⟨Sb, r0⟩ := rk_len h 0 rfl
  rw [hn] at r0
  have hld := o_rload h 0 rfl
  have hcases : ((loads s).2 = 6 ∧ c = ⟨0, 0, 0, 1, 0⟩) ∨ ((loads s).2 = 0 ∧ (loads s).1 = c) := by
    unfold newestHd at hc
    by_cases h6 : (loads s).2 = 6
    · rw [if_pos h6] at hc
      cases hc
      exact .inl ⟨h6, rfl⟩
    · rw [if_neg h6] at hc
      exact .inr ⟨by rw [hc], by rw [hc]⟩
  obtain ⟨LL, hLL⟩ : ∃ LL, LL = loads s := ⟨_, rfl⟩
  rw [← hLL] at hld hcases
  obtain ⟨c1, E1⟩ := LL
  have hcs : (E1 = 6 ∧ c = ⟨0, 0, 0, 1, 0⟩) ∨ (E1 = 0 ∧ c1 = c) := hcases
  have hld2 : Calls Tryz.prog 52 #[.pointer (some ⟨R, 0, none⟩)] w fun e w' => e = .returned (.tuple #[.agg #[.int .i64 c1.seq, .int .i64 c1.boot, .int .i64 c1.area, .int .i64 c1.first, .int .i64 c1.snaps], .int .i64 E1]) ∧ Mem.Own w0 (rk G R s :: L) w' := hld
  have t1 : decide ((area : Int) < 1) = false := by simp; omega
  have t2 : decide ((32000 : Int) < (area : Int)) = false := by simp; omega
  obtain ⟨BB, hBB, hBe⟩ : ∃ BB : Nat, (2 : Int) + (area : Int) * c.area = (BB : Int) ∧ BB = beg area c.area := ⟨_, base_beg hh.area, rfl⟩
  have hBr := beg_le (area := area) hh.area
  rw [← hBe] at hBr hF
  have hBR2 : BB ≤ 70000 := by omega
  have hlen : total Rl ≤ area := by
    have := chain_le (Nat.le_add_right _ _) hF.chain
    omega
  have hbg : ∀ W, Calls Tryz.prog 34 #[.int .i64 (area : Int), .int .i64 c.area] W fun e w' => e = .returned (.int .i64 (BB : Int)) ∧ W = w' := fun W => by
    have hab : -9223372036854775808 ≤ (area : Int) * c.area ∧ 2 + (area : Int) * c.area ≤ 9223372036854775807 := by
      rcases hh.area with e | e <;> rw [e] <;> omega
    have q := rbegin_c (area : Int) c.area hab W
    rw [hBB] at q
    exact q
  have hread : ∀ k (M : List As) W, k ≤ Rl.length → Mem.Own w0 (M ++ rk G R s :: L) W →
      Calls Tryz.prog 53 #[.pointer (some ⟨R, 0, none⟩), .int .i64 ((BB : Int) + (total (Rl.take k) : Int)), .int .i64 ((BB : Int) + (area : Int)), .int .i64 (c.first - 1 + (k : Int) + 1), .int .i64 (bEnd 1 (Rl.take k))] W fun ed w' => ed = .returned (.tuple #[.agg #[.int .i64 (rdF s.look (BB + total (Rl.take k)) (BB + area) (c.first + (k : Int)) (bEnd 1 (Rl.take k))).boot, .int .i64 (rdF s.look (BB + total (Rl.take k)) (BB + area) (c.first + (k : Int)) (bEnd 1 (Rl.take k))).lsn, .int .i64 (rdF s.look (BB + total (Rl.take k)) (BB + area) (c.first + (k : Int)) (bEnd 1 (Rl.take k))).part, .int .i64 (rdF s.look (BB + total (Rl.take k)) (BB + area) (c.first + (k : Int)) (bEnd 1 (Rl.take k))).parts, .int .u8 ((rdF s.look (BB + total (Rl.take k)) (BB + area) (c.first + (k : Int)) (bEnd 1 (Rl.take k))).kind : Int), .string (rdF s.look (BB + total (Rl.take k)) (BB + area) (c.first + (k : Int)) (bEnd 1 (Rl.take k))).data], .int .i64 (rdE s.look (BB + total (Rl.take k)) (BB + area) (c.first + (k : Int)) (bEnd 1 (Rl.take k)))]) ∧
        Mem.Own w0 (M ++ rk G R s :: L) w' := fun k M W hk hW => by
    have ht : total (Rl.take k) ≤ total Rl := by
      have e := total_app (Rl.take k) (Rl.drop k)
      rw [List.take_append_drop] at e; omega
    have hi := hok.hi
    have q := o_rfetch hW M.length (s := s) (G := G) (R := R) (by rw [List.getElem?_append_right (Nat.le_refl _), Nat.sub_self]; rfl) hok ((BB : Int) + (total (Rl.take k) : Int)) ((BB : Int) + (area : Int)) (c.first - 1 + (k : Int) + 1) (bEnd 1 (Rl.take k)) ⟨by omega, by omega⟩ ⟨by omega, by omega⟩
    have e1 : ((BB : Int) + (total (Rl.take k) : Int)) = ((BB + total (Rl.take k) : Nat) : Int) := by push_cast; rfl
    have e2 : ((BB : Int) + (area : Int)) = ((BB + area : Nat) : Int) := by push_cast; rfl
    rw [e1, e2, fetch_in (by omega) (by rw [hn]; omega) hdead, show c.first - 1 + (k : Int) + 1 = c.first + (k : Int) by omega] at q
    rw [e1, e2, show c.first - 1 + (k : Int) + 1 = c.first + (k : Int) by omega]
    exact q
  have hturn : ∀ k, k ≤ Rl.length → ∃ r E p, Turn s.look BB (BB + area) c.first m k Rl r E p := fun k hk => turn hF hk
  have HR := Lib.hid (And.intro hbg (And.intro hread (And.intro hturn hlen)))
  clear hbg hread hturn hlen hBB hBr
  obtain ⟨V, hV⟩ : ∃ V, V = saves s (nextHd c) := ⟨_, rfl⟩
  rw [← hV]
  obtain ⟨E2, hE2⟩ : ∃ E2, E2 = V.1 := ⟨_, rfl⟩
  rw [← hE2]
  have HF := Lib.hid (And.intro hF (And.intro hm (And.intro hh (And.intro hok (And.intro hn (And.intro hroom (And.intro hV hE2)))))))
  clear hV hE2
  have HL := Lib.hid hld2
  have ha1 := ha.1
  have ha2 := ha.2
  have hf1 := hh.first.1
  have hf2 := hh.first.2
  clear h hok ha hn hroom hc hh hF hm hld hld2 hcases hLL hdead hBe
  go_enter Tryz.func26, Tryz.ntmps26
  go_upto_region 5 with fail
  go_cut [8, 9] from 36 to 40 (fun v8 v9 wx => ∃ g : Nat, v8 = .pointer (some ⟨g, 0, none⟩) ∧ v9 = .int .i64 E1 ∧ Mem.Own w0 (hdA g c1 :: rk G R s :: L) wx)
  case first =>
    go_wp2_with (go_at_call 52; (with_reducible refine HL.out.mono ?_); rintro e u1 ⟨rfl, k1'⟩; have k1 := Lib.hid k1'; clear k1')
    go_meet
    exact ⟨_, rfl, rfl, k1.out.box _ _⟩
  case rest =>
    obtain ⟨g, rfl, rfl, h1⟩ := hcut
    have k1 := Lib.hid h1
    clear h1 r0
    go_upto_if 42 with fail
    go_cut [9] from 42 to 43 (fun v9 wx => v9 = .int .i64 0 ∧ Mem.Own w0 (hdA g c :: rk G R s :: L) wx)
    case first =>
      rcases hcs with ⟨rfl, rfl⟩ | ⟨rfl, rfl⟩
      · obtain ⟨_, _, _, _, _⟩ := (hblock (k1.out.boxed 0 rfl)).1
        have fz := (hblock (k1.out.boxed 0 rfl)).2
        have fz0 := fz 0
        have fz1 := fz 1
        have fz2 := fz 2
        have fz3 := fz 3
        have fz4 := fz 4
        clear fz
        go_wp2_with fail
        go_meet
        exact ⟨rfl, ((((k1.out.boxset 0 rfl 0 (.int .i64 0)).boxset 0 rfl 1 (.int .i64 0)).boxset 0 rfl 2 (.int .i64 0)).boxset 0 rfl 3 (.int .i64 1)).boxset 0 rfl 4 (.int .i64 0)⟩
      · go_wp2_with fail
        go_meet
        exact ⟨rfl, k1.out⟩
    case rest =>
      obtain ⟨rfl, h2⟩ := hcut
      have k2 := Lib.hid h2
      obtain ⟨_, _, _, _, _⟩ := (hblock (h2.boxed 0 rfl)).1
      clear h2 k1 hcs HL
      have hw0 : IntKind.i64.wrap (c.first - 1) = c.first - 1 := by rw [IntKind.wrap_i64]; omega
      go_upto_region 10 with fail
      go_cut [10] from 47 to 53 (fun v10 wx => ∃ B : Nat, v10 = .pointer (some ⟨B, 0, none⟩) ∧ Mem.Own w0 (rjA B R (jz area (c.first - 1) 0) :: hdA g c :: rk G R s :: L) wx)
      case first =>
        go_wp2_with fail
        go_meet
        exact ⟨_, rfl, k2.out.box (rjc R (jz area (c.first - 1) 0)) 84⟩
      case rest =>
        obtain ⟨B, rfl, h3⟩ := hcut
        have k3 := Lib.hid (own_none h3 (xsF Rl))
        clear h3 k2 hw0
        go_wp2_with fail
        go_loopw [11, 12, 13, 14, 15, 16] (fun v11 v12 _ _ _ _ wr => ∃ k : Nat, k ≤ Rl.length ∧ (∃ ao cp, v11 = .slice ao k cp) ∧ v12 = .int .i64 (bEnd 1 (Rl.take k)) ∧ Mem.Own w0 (secA v11 k (xsF Rl) :: rjA B R (jz area (c.first - 1 + (k : Int)) (total (Rl.take k))) :: hdA g c :: rk G R s :: L) wr) (fun v11 _ _ _ _ _ _ => Rl.length + 1 - lenV v11)
        case atStart =>
          refine ⟨0, Nat.zero_le _, ⟨_, _, rfl⟩, rfl, ?_⟩
          have e : c.first - 1 + ((0 : Nat) : Int) = c.first - 1 := by omega
          rw [e]
          exact k3.out
        case round =>
          obtain ⟨k, hk, ⟨ao, cp, rfl⟩, rfl, ho⟩ := hrel
          obtain ⟨r, E, p, T⟩ := HR.out.2.2.1 k hk
          have hrd : ∀ (M : List As) W, Mem.Own w0 (M ++ rk G R s :: L) W → Calls Tryz.prog 53 #[.pointer (some ⟨R, 0, none⟩), .int .i64 ((BB : Int) + (total (Rl.take k) : Int)), .int .i64 ((BB : Int) + (area : Int)), .int .i64 (c.first - 1 + (k : Int) + 1), .int .i64 (bEnd 1 (Rl.take k))] W fun ed w' => ed = .returned (.tuple #[.agg #[.int .i64 r.boot, .int .i64 r.lsn, .int .i64 r.part, .int .i64 r.parts, .int .u8 (r.kind : Int), .string r.data], .int .i64 E]) ∧ Mem.Own w0 (M ++ rk G R s :: L) w' := fun M W hW => by
            have q := HR.out.2.1 k M W hk hW
            rw [T.f, T.e] at q
            exact q
          have hut : total (Rl.take k) ≤ area := by
            have e := total_app (Rl.take k) (Rl.drop k)
            rw [List.take_append_drop] at e
            have := HR.out.2.2.2
            omega
          have hkl : k ≤ 65536 := by
            have key : ∀ X : List Fr, X.length ≤ total X := fun X => by
              induction X with
              | nil => exact Nat.le_refl _
              | cons r X ih => have := parts_pos r.data.size; show X.length + 1 ≤ parts r.data.size + total X; omega
            have := key Rl
            have := HR.out.2.2.2
            omega
          obtain ⟨uu, huu⟩ : ∃ uu, uu = total (Rl.take k) := ⟨_, rfl⟩
          obtain ⟨bo, hbo⟩ : ∃ bo, bo = bEnd 1 (Rl.take k) := ⟨_, rfl⟩
          rw [← huu] at ho hrd hut
          rw [← hbo] at hrd ⊢
          have hw1 : IntKind.i64.wrap ((BB : Int) + (uu : Int)) = (BB : Int) + (uu : Int) := by rw [IntKind.wrap_i64]; omega
          have hw2 : IntKind.i64.wrap ((BB : Int) + (area : Int)) = (BB : Int) + (area : Int) := by rw [IntKind.wrap_i64]; omega
          have hw3 : IntKind.i64.wrap (c.first - 1 + (k : Int) + 1) = c.first - 1 + (k : Int) + 1 := by rw [IntKind.wrap_i64]; omega
          have hX : ∀ Q (v : Value) W, Mem.Own w0 (Q ++ secA v k (xsF Rl) :: rjA B R (jz area (c.first - 1 + (k : Int)) uu) :: hdA g c :: rk G R s :: L) W → (W.cell? ⟨B, 7, none⟩ = some (.int .i64 (c.first - 1 + (k : Int))) ∧ W.cell? ⟨B, 8, none⟩ = some (.int .i64 (uu : Int))) := fun Q v W hW => by
            obtain ⟨⟨_, _, _, _, _, _, _, c7, c8, _⟩, _⟩ := rjblock (B := B) (R := R) hW (Q.length + 1) (by rw [List.getElem?_append_right (by omega), show Q.length + 1 - Q.length = 1 by omega]; rfl)
            exact ⟨c7, c8⟩
          have k4 := Lib.hid ho
          have hc2 := (hblock (ho.boxed 2 rfl)).1.2.2.1
          have S1 := hX [] _ _ ho
          have S2 := hX [] _ _ ho.drew
          have S3 := hX [_] _ _ (ho.box #[.int .i64 0, .int .i64 0, .int .i64 0, .int .i64 0, .int .u8 0, .string ⟨#[]⟩] 113).drew
          have HT := Lib.hid (And.intro T (And.intro huu hbo))
          have HA := Lib.hid (And.intro hrd hX)
          have HQ1 := Lib.hid (hrd [_, _, _] _ ho.drew)
          have HQ2 := Lib.hid (hrd [_, _, _, _] _ (ho.box #[.int .i64 0, .int .i64 0, .int .i64 0, .int .i64 0, .int .u8 0, .string ⟨#[]⟩] 113).drew)
          clear ho T huu hbo hrd hX k3
          go_upto_region 14 with (go_at_call 34; (with_reducible refine (HR.out.1 _).mono ?_); rintro e u1 ⟨rfl, rfl⟩)
          go_cut [14, 15] from 58 to 77 (fun v14 v15 wx => ∃ gF : Nat, v14 = .pointer (some ⟨gF, 0, none⟩) ∧ v15 = .int .i64 E ∧ Mem.Own w0 (boxA gF #[.int .i64 r.boot, .int .i64 r.lsn, .int .i64 r.part, .int .i64 r.parts, .int .u8 (r.kind : Int), .string r.data] 113 :: secA (.slice ao k cp) k (xsF Rl) :: rjA B R (jz area (c.first - 1 + (k : Int)) uu) :: hdA g c :: rk G R s :: L) wx)
          case first =>
            go_region_held3 (fun W => W.cell? ⟨B, 7, none⟩ = some (.int .i64 (c.first - 1 + (k : Int))) ∧ W.cell? ⟨B, 8, none⟩ = some (.int .i64 (uu : Int)))
              (first | with_reducible assumption)
              (first
                | (go_at_call 53; first
                    | ((with_reducible refine HQ1.out.mono ?_); rintro e u5 ⟨rfl, k5'⟩; have S4 := HA.out.2 [] _ _ k5'; have S5 := HA.out.2 [_] _ _ (k5'.box #[.int .i64 0, .int .i64 0, .int .i64 0, .int .i64 0, .int .u8 0, .string ⟨#[]⟩] 113); have S6 := HA.out.2 [_] _ _ (k5'.box #[.int .i64 r.boot, .int .i64 r.lsn, .int .i64 r.part, .int .i64 r.parts, .int .u8 (r.kind : Int), .string r.data] 113); have k5 := Lib.hid k5'; clear k5')
                    | ((with_reducible refine HQ2.out.mono ?_); rintro e u6 ⟨rfl, k6⟩; have S4 := HA.out.2 [_] _ _ k6; obtain ⟨⟨_, _, _, _, _, _⟩, fz⟩ := fblock (Mem.Own.boxed k6 0 rfl); have fz0 := fz 0; have fz1 := fz 1; have fz2 := fz 2; have fz3 := fz 3; have fz4 := fz 4; have fz5 := fz 5; clear fz; have k7' := ((((((k6.boxset 0 rfl 0 (.int .i64 r.boot)).boxset 0 rfl 1 (.int .i64 r.lsn)).boxset 0 rfl 2 (.int .i64 r.part)).boxset 0 rfl 3 (.int .i64 r.parts)).boxset 0 rfl 4 (.int .u8 (r.kind : Int))).boxset 0 rfl 5 (.string r.data)); have S5 := HA.out.2 [_] _ _ k7'; have k7 := Lib.hid k7'; clear k7')))
            all_goals
              go_wp2_with fail
              go_meet
              first
                | exact ⟨_, rfl, rfl, k7.out⟩
                | exact ⟨_, rfl, rfl, k5.out.box _ _⟩
          case rest =>
            obtain ⟨gF, rfl, rfl, h5⟩ := hcut
            clear S1 S2 S3 HQ1 HQ2 k4 hc2
            have T := HT.out.1
            obtain ⟨⟨x0, x1, x2, x3, x4, x5⟩, _⟩ := fblock (h5.boxed 0 rfl)
            have hx4 := (hblock (h5.boxed 3 rfl)).1.2.2.2.2
            have hm2 := HF.out.2.1
            have hh := HF.out.2.2.1
            have hwk : IntKind.i64.wrap (r.kind : Int) = (r.kind : Int) := by have := T.kind; rw [IntKind.wrap_i64]; omega
            rcases T.way with ⟨hlt, rfl, hkind, hl, hx, htot, hbe2⟩ | ⟨hkR, hway⟩
            · have k5 := Lib.hid h5
              obtain ⟨i0, hif, hz0, hz1, hz2⟩ := info_parts string_info'
              have hp := T.parts
              have hp2 := T.small
              have hw4 : IntKind.i64.wrap ((uu : Int) + (p : Int)) = (uu : Int) + (p : Int) := by rw [IntKind.wrap_i64]; omega
              obtain ⟨bt, tm, tk⟩ : ∃ b : Bool, decide ((k : Int) < c.snaps) = b ∧ r.kind = (if b then 1 else 2) := by
                refine ⟨_, rfl, ?_⟩
                rw [hkind, hh.snaps]
                unfold want
                by_cases hkm : k < m
                · rw [if_pos (by omega), if_pos (by simp; omega)]
                · rw [if_neg (by omega), if_neg (by simp; omega)]
              have HH := Lib.hid (And.intro hlt (And.intro hx (And.intro htot (And.intro hbe2 hp))))
              clear h5 hkind hl hx htot hbe2 hm2 hh T
              have hJ : ∀ (g2 cp2 : Nat) (W : World), Mem.Own w0 (boxA gF #[.int .i64 r.boot, .int .i64 r.lsn, .int .i64 r.part, .int .i64 r.parts, .int .u8 (r.kind : Int), .string r.data] 113 :: rowA 9 1 (.slice (some ⟨g2, 0, none⟩) (k + 1) cp2) (k + 1) (strs (xsF Rl) k ++ [.string r.data]) :: rjA B R (jz area (c.first - 1 + (k : Int)) uu) :: hdA g c :: rk G R s :: L) W → Mem.Own w0 (boxA gF #[.int .i64 r.boot, .int .i64 r.lsn, .int .i64 r.part, .int .i64 r.parts, .int .u8 (r.kind : Int), .string r.data] 113 :: secA (.slice (some ⟨g2, 0, none⟩) (k + 1) cp2) (k + 1) (xsF Rl) :: rjA B R (jz area (c.first - 1 + (k : Int)) uu) :: hdA g c :: rk G R s :: L) W := fun _ _ _ hW => by
                unfold secA
                rw [strs_succ, HH.out.2.1]
                exact hW
              have HJ := Lib.hid hJ
              clear hJ
              have k5r := Lib.hid ((Mem.Own.row k5.out 1 rfl).alloc (.cells #[.string r.data] 9))
              have tk1 : ((r.kind : Int) != (if bt then 1 else 2)) = false := by
                rw [tk]
                cases bt <;> rfl
              cases bt <;> (
                replace tk1 := tk1
                go_upto_region 19 with fail
                go_wp2_with (at_builtin; go_loud (refine wpList_append_lies _ rfl _ _ 33 rfl 0 9 i0 (.string ByteArray.empty) 1 16 Tryz.underlying33 hif hz0 hz1 hz2 rfl (by decide) _ _ _ rfl k5r.out ⟨wc.heap.size, 0, none⟩ 1 1 [.string r.data] rfl rfl (cell_one_new _ _ _) (by intro x hx; simp at hx; subst hx; rfl) (by decide) (by unfold maxLen; omega) (by omega) (Nat.zero_le _) _ rfl ?_; intro g2 cp2 w1 hown1 hgrow hloc hlt9; have kz' := k5.out.appended 1 rfl ((Kept.refl _).alloc _) hown1 hgrow (liesR hloc); have kz2 := HJ.out _ _ _ kz'; obtain ⟨⟨_, _, _, y3, _, _⟩, _⟩ := fblock (kz2.boxed 0 rfl); rw [HH.out.2.2.2.2] at y3; obtain ⟨⟨_, _, _, _, _, _, _, y7, y8, _⟩, fzB⟩ := rjblock kz2 2 rfl; have z7 : w1.cell? ⟨B, 7, none⟩ = some (.int .i64 (c.first - 1 + (k : Int))) := y7; have z8 : w1.cell? ⟨B, 8, none⟩ = some (.int .i64 (uu : Int)) := y8; clear y7 y8; have fzB7 := fzB 7; have fzB8 := fzB 8; have kz := Lib.hid kz2; clear hown1 hgrow hloc hlt9 kz' kz2 fzB))
                clear k5 k5r
                go_region
                all_goals
                  go_wp2_with fail
                  go_roundw
                  case rel => exact ⟨k + 1, by have := HH.out.1; omega, ⟨_, _, rfl⟩, by rw [HH.out.2.2.2.1], by
                    have e1 : c.first - 1 + ((k + 1 : Nat) : Int) = c.first - 1 + (k : Int) + 1 := by push_cast; omega
                    rw [HH.out.2.2.1, ← HT.out.2.1, e1]
                    exact ((kz.out.tail.boxset 1 rfl 7 (.int .i64 (c.first - 1 + (k : Int) + 1))).boxset 1 rfl 8 (.int .i64 ((uu : Int) + (p : Int)))).drew⟩
                  case measure => have h1 := HH.out.1; simp only [lenV]; omega)
            · subst hkR
              have tm : decide (((Rl.length : Nat) : Int) < c.snaps) = false := by rw [hh.snaps]; simp; omega
              have h6 := h5.tail
              rw [HT.out.2.1, List.take_length] at h6
              obtain ⟨⟨z0, z1, z2, z3, z4⟩, fzg⟩ := hblock (h6.boxed 2 rfl)
              have fzg0 := fzg 0
              have fzg1 := fzg 1
              have hs1 := hh.seq
              have hs2 := hh.boot
              have hw5 : IntKind.i64.wrap (c.seq + 1) = c.seq + 1 := by rw [IntKind.wrap_i64]; omega
              have hw6 : IntKind.i64.wrap (c.boot + 1) = c.boot + 1 := by rw [IntKind.wrap_i64]; omega
              have h7 : Mem.Own w0 (secA (.slice ao Rl.length cp) Rl.length (xsF Rl) :: rjA B R (jz area (c.first - 1 + (Rl.length : Int)) (total Rl)) :: hdA g (nextHd c) :: rk G R s :: L) _ := (h6.boxset 2 rfl 0 (.int .i64 (c.seq + 1))).boxset 2 rfl 1 (.int .i64 (c.boot + 1))
              have hsv := o_rsave h7 3 rfl HF.out.2.2.2.2.2.1 (nextHd c)
              rw [← HF.out.2.2.2.2.2.2.1, ← HF.out.2.2.2.2.2.2.2] at hsv
              have HV := Lib.hid hsv
              have k5s := Lib.hid h6
              have tk2 : E = 12 ∨ (E = 0 ∧ ((r.kind : Int) != 2) = true) := by
                rcases hway with e | ⟨e, hk2⟩
                · exact .inl e
                · refine .inr ⟨e, ?_⟩
                  have h2 : want (m - Rl.length) = 2 := by unfold want; rw [if_neg (by omega)]
                  rw [h2] at hk2
                  simp; omega
              clear h5 h6 h7 hsv hh hway T fzg
              have hse := sub_read k5s.out 0 rfl
              have hcp := hse.1
              rcases tk2 with rfl | ⟨rfl, tk1⟩ <;> (
                go_upto_region 25 with (go_at_call 36; go_loud (refine HV.out.mono ?_); rintro e u8 ⟨rfl, k8'⟩; obtain ⟨y0, y1, y2, y3, y4⟩ := (hblock (k8'.boxed 2 rfl)).1; have q0 : u8.cell? ⟨g, 0, none⟩ = some (.int .i64 (c.seq + 1)) := y0; have q1 : u8.cell? ⟨g, 1, none⟩ = some (.int .i64 (c.boot + 1)) := y1; have q2 : u8.cell? ⟨g, 2, none⟩ = some (.int .i64 c.area) := y2; have q3 : u8.cell? ⟨g, 3, none⟩ = some (.int .i64 c.first) := y3; have q4 : u8.cell? ⟨g, 4, none⟩ = some (.int .i64 c.snaps) := y4)
                have k8 := Lib.hid k8'
                obtain ⟨_, fzB⟩ := rjblock k8' 1 rfl
                have fzB2 := fzB 2
                have fzB3 := fzB 3
                have fzB4 := fzB 4
                have fzB5 := fzB 5
                have fzB6 := fzB 6
                clear k8' fzB k5s HV y0 y1 y2 y3 y4 z0 z1 z2 z3 z4 fzg0 fzg1 hse
                by_cases hE : E2 = 0
                · subst hE
                  have g1 := sub_h ao Rl.length cp m (by omega)
                  have g2 := sub_l ao Rl.length cp m (by omega)
                  rw [← HF.out.2.2.1.snaps] at g1 g2
                  go_upto_region 28 with fail
                  have k9 : Mem.Own w0 (secA (.slice ao Rl.length cp) Rl.length (xsF Rl) :: rjA B R (opened area c Rl) :: hdA g (nextHd c) :: rk G R V.2 :: L) (((((u8.setCell ⟨B, 2, none⟩ (.int .i64 (c.seq + 1))).setCell ⟨B, 3, none⟩ (.int .i64 (c.boot + 1))).setCell ⟨B, 4, none⟩ (.int .i64 c.area)).setCell ⟨B, 5, none⟩ (.int .i64 c.first)).setCell ⟨B, 6, none⟩ (.int .i64 c.snaps)) := ((((k8.out.boxset 1 rfl 2 (.int .i64 (c.seq + 1))).boxset 1 rfl 3 (.int .i64 (c.boot + 1))).boxset 1 rfl 4 (.int .i64 c.area)).boxset 1 rfl 5 (.int .i64 c.first)).boxset 1 rfl 6 (.int .i64 c.snaps)
                  generalize ((((u8.setCell ⟨B, 2, none⟩ (.int .i64 (c.seq + 1))).setCell ⟨B, 3, none⟩ (.int .i64 (c.boot + 1))).setCell ⟨B, 4, none⟩ (.int .i64 c.area)).setCell ⟨B, 5, none⟩ (.int .i64 c.first)).setCell ⟨B, 6, none⟩ (.int .i64 c.snaps) = W9 at k9 ⊢
                  have z9 : W9.cell? ⟨g, 4, none⟩ = some (.int .i64 c.snaps) := (hblock (k9.boxed 2 rfl)).1.2.2.2.2
                  go_region
                  all_goals
                    go_wp2_with fail
                    try rw [Exit.noGoto_ret]
                    refine bodyPost_ret (v := .tuple #[.pointer (some ⟨B, 0, none⟩), .slice (subA ao cp 0) m cp, .slice (subA ao cp m) (Rl.length - m) (cp - m), .int .i64 0]) (by simp [results, Tryz.results26, go_sem]) rfl ?_
                    first
                      | refine ⟨B, ao, cp, rfl, ?_⟩
                      | refine ⟨fun _ => ⟨B, ao, cp, rfl, ?_⟩, fun h => absurd rfl h⟩
                      | (trace_state; fail)
                    have k10 := own_swap (L1 := []) (own_swap (L1 := [_]) (own_swap (L1 := []) k9))
                    exact (own_swap (L1 := [_]) k10.tail).drew
                · have tE : (E2 != 0) = true := by simpa using hE
                  have HE := Lib.hid hE
                  clear hE
                  go_wp2_with fail
                  try rw [Exit.noGoto_ret]
                  refine bodyPost_ret (v := .tuple #[.pointer none, .slice none 0 0, .slice none 0 0, .int .i64 E2]) (by simp [results, Tryz.results26, go_sem]) rfl ?_
                  exact ⟨fun h => absurd h HE.out, fun _ => ⟨rfl, k8.out.tail.tail.tail⟩⟩)
end Go.Proofs.YtckbhjjflpobbaaGreat.Jk
