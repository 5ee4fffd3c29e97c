/-
  JournalExamples: the journal's states, one after another, and the calls on the list [the pair's box, the journal, its disk] ++ A.
-/
import Derived.Test.YtjbcpfndpfeepaaGreatJeb
import Derived.Test.YtjbcpfndpfeepaaGreatJr
namespace Go.Proofs.YtjbcpfndpfeepaaGreat.Jk
open Go Go.RowKit Go.ChangeShapes Go.WideShapes Go.ChangeAt Go.Proofs.YtjbcpfndpfeepaaGreat.Mem Go.Proofs.YtjbcpfndpfeepaaGreat.Pk Go.Proofs.YtjbcpfndpfeepaaGreat.Fk Go.Proofs.YtjbcpfndpfeepaaGreat.Dz Go.Proofs.YtjbcpfndpfeepaaGreat.Fz Go.Proofs.YtjbcpfndpfeepaaGreat.Rc
open Go.Proofs.YtjbcpfndpfeepaaGreat.Hk (Hd saves loads o_save o_load hblock)

abbrev dA : ByteArray := ⟨#[97]⟩
abbrev dS : ByteArray := ⟨#[115]⟩
abbrev dT : ByteArray := ⟨#[116]⟩
abbrev dB : ByteArray := ⟨#[98]⟩
abbrev dC : ByteArray := ⟨#[99]⟩
abbrev dD : ByteArray := ⟨#[100]⟩
abbrev dE : ByteArray := ⟨#[]⟩
def dL : ByteArray := repB 120 50
def xST (i : Nat) : ByteArray := if i = 0 then dS else dT
def xE (_ : Nat) : ByteArray := dE
def R1 : List Fr := [] ++ [recd h11.boot (lsnOf h11 [] + 1) 2 dA]
def R2 : List Fr := R1 ++ [recd h11.boot (lsnOf h11 R1 + 1) 2 dL]
def cB : Hd := (jw 4 h11 R2).next 2
def RC : List Fr := recsOf h11.boot (lsnOf h11 R2 + 1) (dl xST 2)
def R3 : List Fr := RC ++ [recd cB.boot (lsnOf cB RC + 1) 2 dB]
def cE : Nat → Hd
  | 0 => nextHd cB
  | z + 1 => nextHd (cE z)
def R4 : List Fr := R3 ++ [recd (cE 1).boot (lsnOf (cE 1) R3 + 1) 2 dC]
def RE (z : Nat) : List Fr := if z < 2 then R3 else R4
theorem tot2 : total R2 = 3 := by decide
theorem tot1 : total R1 = 1 := by decide
theorem totC : total RC = 2 := by decide
theorem tot3 : total R3 = 3 := by decide
theorem dL_parts : parts dL.size = 2 := by decide
theorem ex_chain : ∃ s1 s2 s3 s4 s5, Opens (fresh 10 .idle) 4 h0 [] 0 s1 ∧ Live 4 s1 h11 [] ∧ appends (jw 4 h11 []) s1 dA = (0, jw 4 h11 R1, s2) ∧ Live 4 s2 h11 R1 ∧ appends (jw 4 h11 R1) s2 dL = (0, jw 4 h11 R2, s3) ∧ Live 4 s3 h11 R2 ∧
    compacts (jw 4 h11 R2) s3 xST 2 = (0, jw 4 cB RC, s4) ∧ Live 4 s4 cB RC ∧ appends (jw 4 cB RC) s4 dB = (0, jw 4 cB R3, s5) ∧ Live 4 s5 cB R3 := by
  obtain ⟨s1, o1, l1⟩ := fresh_open (area := 4) (by decide)
  obtain ⟨s2, l2, a1, _⟩ := l1.append (small11 1 (by decide)) (d := dA) (by decide) (by decide)
  have l2 : Live 4 s2 h11 R1 := l2
  obtain ⟨s3, l3, a2, _⟩ := l2.append ⟨by decide, by decide, by decide⟩ (d := dL) (by decide) (by rw [tot1, dL_parts]; decide)
  have l3 : Live 4 s3 h11 R2 := l3
  have hf : fits xST 2 := by decide
  obtain ⟨s4, l4, a3, _⟩ := l3.compact (x := xST) (m := 2) ⟨by decide, by decide, by decide⟩ (by decide) hf (by decide)
  have l4 : Live 4 s4 cB RC := l4
  obtain ⟨s5, l5, a4, _⟩ := l4.append ⟨by decide, by decide, by decide⟩ (d := dB) (by decide) (by decide)
  exact ⟨s1, s2, s3, s4, s5, o1, l1, a1, l2, a2, l3, a3, l4, a4, l5⟩
theorem ex_round (z : Nat) (hz : z < 2) {s : Ds} (l : Live 4 s (cE z) R3) : ∃ b0 s', appends (jw 4 (cE z) R3) (armed s 1) dC = (10, (jw 4 (cE z) R3).told 10, b0) ∧ b0.pend.length ≤ 1 ∧ b0.fu = .blown ∧ Opens (crashed b0 (Ch.left ⟨z, -1, 0⟩)) 4 (cE z) (RE (z + 1)) 2 s' ∧ Live 4 s' (cE (z + 1)) (RE (z + 1)) := by
  rcases (by omega : z = 0 ∨ z = 1) with rfl | rfl
  · obtain ⟨b0, e, h1, h2, _, _, h3, _⟩ := l.append_one ⟨by decide, by decide, by decide⟩ (d := dC) (by decide) (by decide) (by decide)
    have ln := h3 (Ch.left ⟨0, -1, 0⟩) (Ch.left_le _) (by decide)
    obtain ⟨s', o, l'⟩ := ln.open1 (by decide) ⟨by decide, by decide⟩
    exact ⟨b0, s', e, h2, h1, o, l'⟩
  · obtain ⟨b0, e, h1, h2, _, _, _, h3⟩ := l.append_one ⟨by decide, by decide, by decide⟩ (d := dC) (by decide) (by decide) (by decide)
    have ln := h3 (Ch.left ⟨1, -1, 0⟩) (Ch.left_le _) (by decide)
    obtain ⟨s', o, l'⟩ := ln.open1 (by decide) ⟨by decide, by decide⟩
    exact ⟨b0, s', e, h2, h1, o, l'⟩
theorem ex_end {s : Ds} (l : Live 4 s (cE 2) R4) : compacts (jw 4 (cE 2) R4) (sf s true) xE 5 = (9, jw 4 (cE 2) R4, sf s true) ∧ appends (jw 4 (cE 2) R4) (sf s true) dE = (9, jw 4 (cE 2) R4, sf s true) ∧ (compacts (jw 4 (cE 2) R4) (sf s true) xE 2).1 = 0 := by
  refine ⟨?_, app_full 4 _ _ _ rfl _, ?_⟩
  · have hf : fits xE 5 := by decide
    unfold compacts
    rw [if_neg (by show ¬ (false = true); decide), if_neg (fun h => h hf), if_pos (show (jw 4 (cE 2) R4).area < pre xE 5 from (by decide : 4 < pre xE 5))]
  · rw [compacts_sf]
    obtain ⟨_, _, e, _⟩ := l.compact (x := xE) (m := 2) ⟨by decide, by decide, by decide⟩ (by decide) (by decide) (by decide)
    rw [e]
theorem ex_full (s : Ds) : appends (jw 4 h11 R2) s dL = (9, jw 4 h11 R2, s) := by
  unfold appends
  rw [if_neg (by show ¬ (false = true); decide), if_neg (by decide), if_pos (.inr (show (4 : Nat) < total R2 + parts dL.size by rw [tot2, dL_parts]; decide))]
theorem ex_long (s : Ds) : appends (jw 4 h11 R2) s (repB 120 4097) = (5, jw 4 h11 R2, s) := by
  unfold appends
  rw [if_neg (by show ¬ (false = true); decide), if_pos (by rw [repB_size]; decide)]
theorem dead_app (j : Jw) (s : Ds) (d : ByteArray) : appends (j.told 10) s d = (10, j.told 10, s) := by
  unfold appends
  exact if_pos rfl
theorem dead_com (j : Jw) (s : Ds) (x : Nat → ByteArray) (m : Nat) : compacts (j.told 10) s x m = (10, j.told 10, s) := by
  unfold compacts
  exact if_pos rfl
theorem small_E (z : Nat) (hz : z < 2) (m : Nat) (hm : m < 70000) : Small (cE z) R3 m := by
  rcases (by omega : z = 0 ∨ z = 1) with rfl | rfl
  · exact ⟨by decide, by decide, by show (5 : Int) + _ < _; omega⟩
  · exact ⟨by decide, by decide, by show (5 : Int) + _ < _; omega⟩
theorem told_jok {z : Nat} (hz : z < 2) {s b : Ds} (l : Live 4 s (cE z) R3) (hb : b.pend.length ≤ 1) {m : Nat} (hm : m < 70000) : Jok ((jw 4 (cE z) R3).told 10) b m := by
  have h := l.jok (m := m) (by decide) (small_E z hz m hm) s rfl
  exact ⟨h.half, h.area, h.used, h.n0, h.n1, h.boot, h.seq, by omega⟩
theorem lsn_E (z : Nat) (hz : z < 2) : ((jw 4 (cE z) R3).told 10).n = 5 := by
  rcases (by omega : z = 0 ∨ z = 1) with rfl | rfl <;> decide
theorem len_E (z : Nat) (hz : z < 2) : (RE (z + 1)).length - 2 = 1 + z := by
  rcases (by omega : z = 0 ∨ z = 1) with rfl | rfl <;> decide
theorem boot_E (z : Nat) (hz : z < 2) : (jw 4 (cE (z + 1)) (RE (z + 1))).h.boot = 3 + (z : Int) := by
  rcases (by omega : z = 0 ∨ z = 1) with rfl | rfl <;> decide
theorem str_E (z : Nat) (hz : z < 2) : xsF (RE (z + 1)) (2 + z) = (if z = 0 then dB else dC) := by
  rcases (by omega : z = 0 ∨ z = 1) with rfl | rfl <;> rfl
theorem sao_none (W : World) (x : Nat → ByteArray) : SAo W none 0 x := fun i hi => absurd hi (by omega)
theorem sao_E {W : World} {ao : Option Addr} (h : SAo W ao 2 (fun i => if i = 0 then dE else dE)) : SAo W ao 2 xE := fun i hi => by
  obtain ⟨g, o, e, c⟩ := h i hi
  refine ⟨g, o, e, c.trans ?_⟩
  show some (Value.string (if i = 0 then dE else dE)) = _
  rw [ite_self]
  rfl
/-! The calls. -/
def bxA (X F D G R : Nat) : As := boxA X #[.pointer (some ⟨F, 0, none⟩), .pointer (some ⟨D, 0, none⟩), .pointer (some ⟨G, 0, none⟩), .pointer (some ⟨R, 0, none⟩)] 51
def exL (X F D G R J : Nat) (j : Jw) (s : Ds) (A : List As) : List As := bxA X F D G R :: jA J D j :: dk F D s :: A
section
variable {w0 w : World} {X F D G R J : Nat} {j : Jw} {s : Ds} {A : List As}
theorem x_cells {L : List As} (h : Mem.Own w0 (bxA X F D G R :: L) w) : w.cell? ⟨X, 0, none⟩ = some (.pointer (some ⟨F, 0, none⟩)) ∧ w.cell? ⟨X, 1, none⟩ = some (.pointer (some ⟨D, 0, none⟩)) := by
  have hb := h.boxed 0 rfl
  exact ⟨cell_of_row _ _ _ _ _ _ hb, cell_of_row _ _ _ _ _ _ hb⟩
theorem x_up {a b c : As} {L : List As} (h : Mem.Own w0 (a :: b :: c :: L) w) : Mem.Own w0 (b :: c :: a :: L) w := own_swap (L1 := [_]) (own_swap (L1 := []) h)
theorem x_down {a b c : As} {L : List As} (h : Mem.Own w0 (b :: c :: a :: L) w) : Mem.Own w0 (a :: b :: c :: L) w := own_swap (L1 := []) (own_swap (L1 := [_]) h)
theorem x_app {d : ByteArray} {E : Int} {j' : Jw} {s' : Ds} (ha : appends j s d = (E, j', s')) (hj : Jok j s 1) (hd : d.size ≤ maxLen) (h : Mem.Own w0 (exL X F D G R J j s A) w) :
    Calls Tryz.prog 9 #[.pointer (some ⟨J, 0, none⟩), .string d] w fun e w' => e = .returned (.int .i64 E) ∧ Mem.Own w0 (exL X F D G R J j' s' A) w' := by
  have q := o_append (x_up h) hj d hd
  rw [ha] at q
  exact q.mono fun _ _ ⟨he, hw⟩ => ⟨he, x_down hw⟩
theorem x_com {x : Nat → ByteArray} {m : Nat} {E : Int} {j' : Jw} {s' : Ds} (ha : compacts j s x m = (E, j', s')) (hm : m < 65536) (hj : Jok j s m) (hx : ∀ i, i < m → (x i).size ≤ maxLen) {ao : Option Addr} {cap : Nat} (hs : SAo w ao m x) (h : Mem.Own w0 (exL X F D G R J j s A) w) :
    Calls Tryz.prog 12 #[.pointer (some ⟨J, 0, none⟩), .slice ao m cap] w fun e w' => e = .returned (.int .i64 E) ∧ Mem.Own w0 (exL X F D G R J j' s' A) w' := by
  have q := o_compact (x_up h) ao cap m x hm hj hx hs
  rw [ha] at q
  exact q.mono fun _ _ ⟨he, hw⟩ => ⟨he, x_down hw⟩
theorem x_lsn {N : Int} (hn : j.n = N) (h : Mem.Own w0 (exL X F D G R J j s A) w) :
    Calls Tryz.prog 25 #[.pointer (some ⟨J, 0, none⟩)] w fun e w' => e = .returned (.int .i64 N) ∧ Mem.Own w0 (exL X F D G R J j s A) w' :=
  (lsn_c J D j w (own_j h 1 rfl)).mono fun e w' ⟨he, hw⟩ => ⟨by rw [he, hn], hw ▸ h⟩
theorem x_boot {N : Int} (hn : j.h.boot = N) (h : Mem.Own w0 (exL X F D G R J j s A) w) :
    Calls Tryz.prog 24 #[.pointer (some ⟨J, 0, none⟩)] w fun e w' => e = .returned (.int .i64 N) ∧ Mem.Own w0 (exL X F D G R J j s A) w' :=
  (boot_c J D j w (own_j h 1 rfl)).mono fun e w' ⟨he, hw⟩ => ⟨by rw [he, hn], hw ▸ h⟩
theorem x_room {N : Int} (hn : (j.area : Int) - (j.used : Int) = N) (ha : j.area ≤ 32000) (hu : j.used ≤ j.area) (h : Mem.Own w0 (exL X F D G R J j s A) w) :
    Calls Tryz.prog 26 #[.pointer (some ⟨J, 0, none⟩)] w fun e w' => e = .returned (.int .i64 N) ∧ Mem.Own w0 (exL X F D G R J j s A) w' :=
  (room_c J D j ha hu w (own_j h 1 rfl)).mono fun e w' ⟨he, hw⟩ => ⟨by rw [he, hn], h.later hw⟩
theorem x_arm (hf : s.fu = .idle) (h : Mem.Own w0 (exL X F D G R J j s A) w) :
    Calls Tryz.prog 28 #[.pointer (some ⟨F, 0, none⟩), .int .i64 1] w fun e w' => e = .returned (.int .i64 0) ∧ Mem.Own w0 (exL X F D G R J j (armed s 1) A) w' := o_arm h 2 rfl hf 1 (by decide)
theorem x_crash {c : Ch} (hc : c.ok) (h : Mem.Own w0 (exL X F D G R J j s A) w) :
    Calls Tryz.prog 29 #[.pointer (some ⟨D, 0, none⟩), .agg c.cells] w fun e w' => e = .returned (.tuple #[]) ∧ Mem.Own w0 (exL X F D G R J j (s.settled c.left) A) w' := o_crash h 2 rfl hc
theorem x_reset {f : Nat → Nat} (h : Mem.Own w0 (exL X F D G R J j (s.settled f) A) w) :
    Calls Tryz.prog 30 #[.pointer (some ⟨F, 0, none⟩)] w fun e w' => e = .returned (.tuple #[]) ∧ Mem.Own w0 (exL X F D G R J j (crashed s f) A) w' := o_reset h 2 rfl
theorem x_full (h : Mem.Own w0 (exL X F D G R J j s A) w) :
    Calls Tryz.prog 17 #[.pointer (some ⟨D, 0, none⟩), .bool true] w fun e w' => e = .returned (.tuple #[]) ∧ Mem.Own w0 (exL X F D G R J j (sf s true) A) w' := o_setfull h 2 rfl true
theorem x_open {Y : As} {c c' : Hd} {Rs : List Fr} {m n : Nat} {s1 : Ds} (q : Opens s 4 c Rs m s1) (hc : nextHd c = c') (hn : Rs.length - m = n) (h : Mem.Own w0 (bxA X F D G R :: Y :: dk F D s :: A) w) :
    Calls Tryz.prog 23 #[.pointer (some ⟨D, 0, none⟩), .int .i64 4] w fun e w' => ∃ J aS dS aR dR, e = .returned (.tuple #[.pointer (some ⟨J, 0, none⟩), .slice aS m dS, .slice aR n dR, .int .i64 0]) ∧
      Mem.Own w0 (exL X F D G R J (jw 4 c' Rs) s1 (secA (.slice aR n dR) n (fun i => xsF Rs (m + i)) :: secA (.slice aS m dS) m (xsF Rs) :: Y :: A)) w' := by
  subst hn
  subst hc
  refine (o_open1 (own_swap (L1 := []) (own_swap (L1 := [_]) h)) q).mono ?_
  rintro e w' ⟨J, aS, dS, aR, dR, rfl, hw⟩
  exact ⟨J, aS, dS, aR, dR, rfl, own_swap (L1 := []) (own_swap (L1 := [_]) (own_swap (L1 := [_, _]) (own_swap (L1 := [_, _, _]) hw)))⟩
theorem x_five (hn : s.n = 10) (h : Mem.Own w0 (exL X F D G R J j s A) w) : Calls Tryz.prog 23 #[.pointer (some ⟨D, 0, none⟩), .int .i64 5] w fun e w' => e = .returned (.tuple #[.pointer none, .slice none 0 0, .slice none 0 0, .int .i64 2]) ∧ Mem.Own w0 (exL X F D G R J j s A) w' :=
  (open_five hn (own_swap (L1 := []) (own_swap (L1 := [_]) h))).mono fun _ _ ⟨he, hw⟩ => ⟨he, own_swap (L1 := [_]) (own_swap (L1 := []) hw)⟩
theorem x_zero (h : Mem.Own w0 (exL X F D G R J j s A) w) : Calls Tryz.prog 23 #[.pointer (some ⟨D, 0, none⟩), .int .i64 0] w fun e w' => e = .returned (.tuple #[.pointer none, .slice none 0 0, .slice none 0 0, .int .i64 2]) ∧ Mem.Own w0 (exL X F D G R J j s A) w' :=
  (open_zero (own_swap (L1 := []) (own_swap (L1 := [_]) h))).mono fun _ _ ⟨he, hw⟩ => ⟨he, own_swap (L1 := [_]) (own_swap (L1 := []) hw)⟩
theorem x_rows {aR aS : Option Addr} {n dR m dS : Nat} {xR xS : Nat → ByteArray} (h : Mem.Own w0 (exL X F D G R J j s (secA (.slice aR n dR) n xR :: secA (.slice aS m dS) m xS :: A)) w) : SAo w aR n xR ∧ SAo w aS m xS := by
  obtain ⟨_, _, e1, _, h1⟩ := Sees.row (L := [_, _, _]) h
  obtain ⟨_, _, e2, _, h2⟩ := Sees.row (L := [_, _, _, _]) h
  cases e1; cases e2
  exact ⟨h1 [_, _, _] w h, h2 [_, _, _, _] w h⟩
end
/-- Strings that were just built. -/
theorem built1 (w : World) (a : ByteArray) : SAo (w.alloc (.cells #[.string a] 9)) (some ⟨w.heap.size, 0, none⟩) 1 (fun _ => a) := fun i hi => by
  obtain rfl : i = 0 := by omega
  have hb := (Mem.Own.nil w).box #[.string a] 9
  exact ⟨_, _, rfl, cell_of_row _ _ _ _ _ _ (hb.boxed 0 rfl)⟩
theorem built2 (w : World) (a b : ByteArray) : SAo (w.alloc (.cells #[.string a, .string b] 9)) (some ⟨w.heap.size, 0, none⟩) 2 (fun i => if i = 0 then a else b) := fun i hi => by
  have hb := (Mem.Own.nil w).box #[.string a, .string b] 9
  rcases (by omega : i = 0 ∨ i = 1) with rfl | rfl
  · exact ⟨_, _, rfl, cell_of_row _ _ _ _ _ _ (hb.boxed 0 rfl)⟩
  · exact ⟨_, _, rfl, cell_of_row _ _ _ _ _ _ (hb.boxed 0 rfl)⟩
theorem built5 (w : World) (a : ByteArray) : SAo (w.alloc (.cells #[.string a, .string a, .string a, .string a, .string a] 9)) (some ⟨w.heap.size, 0, none⟩) 5 (fun _ => a) := fun i hi => by
  have hb := (Mem.Own.nil w).box #[.string a, .string a, .string a, .string a, .string a] 9
  rcases (by omega : i = 0 ∨ i = 1 ∨ i = 2 ∨ i = 3 ∨ i = 4) with rfl | rfl | rfl | rfl | rfl
  all_goals exact ⟨_, _, rfl, cell_of_row _ _ _ _ _ _ (hb.boxed 0 rfl)⟩
end Go.Proofs.YtjbcpfndpfeepaaGreat.Jk
