/-
  The calls that run.does makes, on the list [the act's box, the run, its journal, its disk] ++ A; what a run is between two acts (Ran) and between a crash and the opening (Rest).
-/
import Derived.Test.YtjbcpfndpfeepaaJt
import Derived.Test.YtjbcpfndpfeepaaJr
namespace Go.Proofs.Ytjbcpfndpfeepaa.Jk
open Go Go.RowKit Go.ChangeShapes Go.WideShapes Go.ChangeAt Go.Proofs.Ytjbcpfndpfeepaa.Mem Go.Proofs.Ytjbcpfndpfeepaa.Pk Go.Proofs.Ytjbcpfndpfeepaa.Fk Go.Proofs.Ytjbcpfndpfeepaa.Dz Go.Proofs.Ytjbcpfndpfeepaa.Fz Go.Proofs.Ytjbcpfndpfeepaa.Rc
open Go.Proofs.Ytjbcpfndpfeepaa.Hk (Hd saves loads o_save o_load hblock)

theorem perm_jd {w0 w : World} {a b c d : As} {A : List As} (h : Mem.Own w0 (a :: b :: c :: d :: A) w) : Mem.Own w0 (c :: d :: a :: b :: A) w :=
  own_swap (L1 := [_]) (own_swap (L1 := [_, _]) (own_swap (L1 := []) (own_swap (L1 := [_]) h)))
theorem perm_d {w0 w : World} {a b c d : As} {A : List As} (h : Mem.Own w0 (a :: b :: c :: d :: A) w) : Mem.Own w0 (d :: a :: b :: c :: A) w :=
  own_swap (L1 := []) (own_swap (L1 := [_]) (own_swap (L1 := [_, _]) h))
theorem perm_back {w0 w : World} {a b c d : As} {A : List As} (h : Mem.Own w0 (d :: a :: b :: c :: A) w) : Mem.Own w0 (a :: b :: c :: d :: A) w :=
  own_swap (L1 := [_, _]) (own_swap (L1 := [_]) (own_swap (L1 := []) h))
theorem perm_rd {w0 w : World} {a b c d : As} {A : List As} (h : Mem.Own w0 (a :: b :: c :: d :: A) w) : Mem.Own w0 (b :: d :: a :: c :: A) w :=
  own_swap (L1 := [_]) (own_swap (L1 := [_, _]) (own_swap (L1 := []) h))
/-- The first of five goes behind the others. -/
theorem perm_row {w0 w : World} {r a b c d : As} {A : List As} (h : Mem.Own w0 (r :: a :: b :: c :: d :: A) w) : Mem.Own w0 (a :: b :: c :: d :: r :: A) w :=
  own_swap (L1 := [_, _, _]) (own_swap (L1 := [_, _]) (own_swap (L1 := [_]) (own_swap (L1 := []) h)))
theorem Live.small {area : Nat} {s : Ds} {c : Hd} {R : List Fr} (l : Live area s c R) : R.length ≤ area := by
  have h := l.jo.jv.total
  have key : ∀ X : List Fr, X.length ≤ total X := fun X => by
    induction X with
    | nil => exact Nat.le_refl _
    | cons r X ih => have := parts_pos r.data.size; show X.length + 1 ≤ parts r.data.size + total X; omega
  have := key R
  omega
/-- A run between two acts. -/
structure Ran (w0 : World) (B area : Nat) (b q l : Int) (F D J : Nat) (s : Ds) (c : Hd) (R : List Fr) (A : List As) (vS vR : Value) (nS : Nat) (xS : Nat → ByteArray) (nR : Nat) (xR : Nat → ByteArray) (w : World) : Prop where
  own : Mem.Own w0 (runA B F D (.pointer (some ⟨J, 0, none⟩)) area vS vR c.boot :: jA J D (jw area c R) :: dk F D s :: A) w
  live : Live area s c R
  sees : Sees w0 A vS nS xS
  seer : Sees w0 A vR nR xR
  data : Data c R nS xS nR xR
  bnd : Bnd b q l c R
def IsRan (w0 : World) (B area : Nat) (b q l : Int) (w : World) : Prop := ∃ F D J s c R A vS vR nS xS nR xR, Ran w0 B area b q l F D J s c R A vS vR nS xS nR xR w
/-- A disk between a crash and the opening: one of two contents. -/
structure Rest (area : Nat) (b0 b q l : Int) (nS : Nat) (xS : Nat → ByteArray) (nR : Nat) (xR : Nat → ByteArray) (n3 : Nat) (x3 : Nat → ByteArray) (n4 : Nat) (x4 : Nat → ByteArray) (s : Ds) (c : Hd) (R : List Fr) : Prop where
  lain : Lain area s c R
  low : b0 ≤ c.boot
  bnd : Bnd b q l c R
  data : Data c R nS xS nR xR ∨ Data c R n3 x3 n4 x4
theorem lsn_next (c : Hd) (R : List Fr) : lsnOf (nextHd c) R = lsnOf c R := rfl
theorem Rest.next {area : Nat} {b0 b q l : Int} {nS : Nat} {xS : Nat → ByteArray} {nR : Nat} {xR : Nat → ByteArray} {n3 : Nat} {x3 : Nat → ByteArray} {n4 : Nat} {x4 : Nat → ByteArray} {s : Ds} {c : Hd} {R : List Fr}
    (r : Rest area b0 b q l nS xS nR xR n3 x3 n4 x4 s c R) {s' : Ds} (h : Lain area s' (nextHd c) R) : Rest area b0 (b + 1) (q + 1) l nS xS nR xR n3 x3 n4 x4 s' (nextHd c) R :=
  ⟨h, by have := r.low; show b0 ≤ c.boot + 1; omega, ⟨by have := r.bnd.boot; show c.boot + 1 ≤ _; omega, by have := r.bnd.seq; show c.seq + 1 ≤ _; omega, r.bnd.lsn⟩,
    r.data.imp (fun d => ⟨d.cn, d.most, d.cr, d.vs, d.vr⟩) (fun d => ⟨d.cn, d.most, d.cr, d.vs, d.vr⟩)⟩
theorem Rest.same {area : Nat} {b0 b q l : Int} {nS : Nat} {xS : Nat → ByteArray} {nR : Nat} {xR : Nat → ByteArray} {n3 : Nat} {x3 : Nat → ByteArray} {n4 : Nat} {x4 : Nat → ByteArray} {s : Ds} {c : Hd} {R : List Fr}
    (r : Rest area b0 b q l nS xS nR xR n3 x3 n4 x4 s c R) {s' : Ds} (h : Lain area s' c R) : Rest area b0 (b + 1) (q + 1) l nS xS nR xR n3 x3 n4 x4 s' c R :=
  ⟨h, r.low, ⟨by have := r.bnd.boot; omega, by have := r.bnd.seq; omega, r.bnd.lsn⟩, r.data⟩
/-- An opening that is cut. -/
theorem Rest.cut {area : Nat} {b0 b q l : Int} {nS : Nat} {xS : Nat → ByteArray} {nR : Nat} {xR : Nat → ByteArray} {n3 : Nat} {x3 : Nat → ByteArray} {n4 : Nat} {x4 : Nat → ByteArray} {s : Ds} {c : Hd} {R : List Fr}
    (r : Rest area b0 b q l nS xS nR xR n3 x3 n4 x4 s c R) (ha : 1 ≤ area ∧ area ≤ 32000) (hb : b < 4294967295) (hq : q < 281474976710000) {k : Nat} (hk : k < 2) {w0 w : World} {X Y Z : As} {A : List As} {F D : Nat} (h : Mem.Own w0 (X :: Y :: Z :: dk F D (armed s k) :: A) w) :
    Calls Try.prog 23 #[.pointer (some ⟨D, 0, none⟩), .int .i64 (area : Int)] w fun e w' =>
      e = .returned (.tuple #[.pointer none, .slice none 0 0, .slice none 0 0, .int .i64 10]) ∧ ∃ s2, Mem.Own w0 (X :: Y :: Z :: dk F D s2 :: A) w' ∧ ∀ f : Nat → Nat, (∀ i, f i ≤ 80) → ∃ c', Rest area b0 (b + 1) (q + 1) l nS xS nR xR n3 x3 n4 x4 (crashed s2 f) c' R := by
  have kk : c.boot < 4294967295 ∧ c.seq < 281474976710000 := ⟨by have := r.bnd.boot; omega, by have := r.bnd.seq; omega⟩
  obtain ⟨g1, g2, g3, g4⟩ := r.lain.finds kk
  obtain ⟨s2, e1, _, _, _, _, e2⟩ := (r.lain.opens kk).2 k hk
  refine (o_open (perm_d h) (armed_ok r.lain.calm.ok (by omega)) area ha r.lain.calm.n (by show s.pend.length < _; rw [r.lain.calm.pend]; decide) c c.snaps.toNat ((newest_same (s := armed s k) (t := s) rfl (by rw [r.lain.calm.fu]; rfl) rfl).trans g1) g2 R g3 g4).mono ?_
  rw [e1]
  rintro e w' ⟨_, hw⟩
  obtain ⟨he, hw'⟩ := hw (show ¬ (10 : Int) = 0 by decide)
  exact ⟨he, s2, perm_back hw', fun f hf => (e2 f hf).elim (fun h => ⟨c, r.same h⟩) (fun h => ⟨nextHd c, r.next h⟩)⟩
/-- The opening behind the crash. -/
theorem Rest.opens {area : Nat} {b0 b q l : Int} {nS : Nat} {xS : Nat → ByteArray} {nR : Nat} {xR : Nat → ByteArray} {n3 : Nat} {x3 : Nat → ByteArray} {n4 : Nat} {x4 : Nat → ByteArray} {s : Ds} {c : Hd} {R : List Fr}
    (r : Rest area b0 b q l nS xS nR xR n3 x3 n4 x4 s c R) (ha : 1 ≤ area ∧ area ≤ 32000) (hb : b < 4294967295) (hq : q < 281474976710000) {w0 w : World} {X Z : As} {A : List As} {B F D : Nat} {vJ vS vR v1 v2 : Value} (h : Mem.Own w0 (X :: runA B F D vJ area vS vR b0 :: Z :: dk F D s :: A) w)
    (sS : Sees w0 A vS nS xS) (sR : Sees w0 A vR nR xR) (s1 : Sees w0 A v1 n3 x3) (s2 : Sees w0 A v2 n4 x4) (hS : nS < 4294967296 ∧ nR < 4294967296 ∧ n3 < 4294967296 ∧ n4 < 4294967296) :
    Calls Try.prog 11 #[.pointer (some ⟨B, 0, none⟩), v1, v2] w fun e w' => e = .returned (.bool true) ∧ IsRan w0 B area (b + 1) (q + 1) l w' := by
  have kk : c.boot < 4294967295 ∧ c.seq < 281474976710000 := ⟨by have := r.bnd.boot; omega, by have := r.bnd.seq; omega⟩
  obtain ⟨sx, ho, hl⟩ := r.lain.open1 ha kk
  have hm := ho.most
  refine (o_opens (perm_rd h) ho (by have := r.low; omega) (sS.more [_, _]) (sR.more [_, _]) (s1.more [_, _]) (s2.more [_, _]) hS.1 hS.2.1 hS.2.2.1 hS.2.2.2 (r.data.imp (fun d => d.eqs) (fun d => d.eqs))).mono ?_
  rintro e w' ⟨J, vS', vR', rfl, hw⟩
  refine ⟨rfl, F, D, J, sx, nextHd c, R, _, vS', vR', c.snaps.toNat, xsF R, R.length - c.snaps.toNat, fun i => xsF R (c.snaps.toNat + i), ⟨hw, hl, (Sees.row (L := [_, _, _, _]) hw).more [_], Sees.row (L := [_, _, _]) hw, ⟨rfl, hm, rfl, fun _ _ => rfl, fun _ _ => rfl⟩, ⟨by have := r.bnd.boot; show c.boot + 1 ≤ _; omega, by have := r.bnd.seq; show c.seq + 1 ≤ _; omega, r.bnd.lsn⟩⟩⟩
/-- A crash behind a call that was cut. -/
theorem after_crash {area : Nat} {c : Hd} {R : List Fr} {b q l : Int} {nS : Nat} {xS : Nat → ByteArray} {nR : Nat} {xR : Nat → ByteArray} {n3 : Nat} {x3 : Nat → ByteArray} {n4 : Nat} {x4 : Nat → ByteArray} {s' : Ds} {c' : Hd} {R' : List Fr}
    (k : Bnd b q l c R) (d0 : Data c R nS xS nR xR) (d : Data c' R' n3 x3 n4 x4) (hb : c'.boot = c.boot) (k' : Bnd b (q + 1) (l + 41) c' R')
    (hl : ∀ f : Nat → Nat, (∀ i, f i ≤ 80) → Lain area (crashed s' f) c R ∨ Lain area (crashed s' f) c' R') {f : Nat → Nat} (hf : ∀ i, f i ≤ 80) :
    ∃ c2 R2, Rest area c.boot b (q + 1) (l + 41) nS xS nR xR n3 x3 n4 x4 (crashed s' f) c2 R2 :=
  (hl f hf).elim (fun h => ⟨c, R, h, Int.le_refl _, ⟨k.boot, by have := k.seq; omega, by have := k.lsn; omega⟩, .inl d0⟩) (fun h => ⟨c', R', h, by omega, k', .inr d⟩)
/-- Append with the fuse armed. -/
theorem o_app {w0 w : World} {X Y : As} {A : List As} {F D J area : Nat} {s : Ds} {c : Hd} {R : List Fr} {b q l : Int} {K : Nat} (h : Mem.Own w0 (X :: Y :: jA J D (jw area c R) :: dk F D (armed s K) :: A) w) (ha : area ≤ 32000) (lv : Live area s c R) (k : Bnd b q l c R) (hb : b < 255) (hq : q < 281474976700000) (hl : l < 281474976700000)
    {nS nR : Nat} {xS xR : Nat → ByteArray} (d0 : Data c R nS xS nR xR) (d : ByteArray) (hd : d.size ≤ maxLen) (hK : K < 12) :
    Calls Try.prog 17 #[.pointer (some ⟨J, 0, none⟩), .string d] w fun e w' => ∃ E j' s', e = .returned (.int .i64 E) ∧ After area c R b q l nS xS (nR + 1) (snoc nR xR d) E j' s' ∧ Mem.Own w0 (X :: Y :: jA J D j' :: dk F D s' :: A) w' :=
  (o_append (perm_jd h) (lv.jok ha (k.small hb hq hl (m := 1) (by decide)) (armed s K) rfl) d hd).mono fun _ _ ⟨he, hw⟩ => ⟨_, _, _, he, after_append lv k hb hq hl d0 d K hK, perm_jd hw⟩
/-- Compact with the fuse armed. -/
theorem o_com {w0 w : World} {X Y : As} {A : List As} {F D J area : Nat} {s : Ds} {c : Hd} {R : List Fr} {b q l : Int} {K : Nat} (h : Mem.Own w0 (X :: Y :: jA J D (jw area c R) :: dk F D (armed s K) :: A) w) (ha : area ≤ 32000) (lv : Live area s c R) (k : Bnd b q l c R) (hb : b < 255) (hq : q < 281474976700000) (hl : l < 281474976700000)
    {v : Value} {m : Nat} {x : Nat → ByteArray} (sv : Sees w0 A v m x) (hm : m ≤ 40) (hx : ∀ i, i < m → (x i).size ≤ maxLen) (y : Nat → ByteArray) (hK : K < 12) :
    Calls Try.prog 19 #[.pointer (some ⟨J, 0, none⟩), v] w fun e w' => ∃ E j' s', e = .returned (.int .i64 E) ∧ After area c R b q l m x 0 y E j' s' ∧ Mem.Own w0 (X :: Y :: jA J D j' :: dk F D s' :: A) w' := by
  obtain ⟨ao, cap, rfl, _, hs⟩ := sv
  exact (o_compact (perm_jd h) ao cap m x (by omega) (lv.jok ha (k.small hb hq hl (m := m) (by omega)) (armed s K) rfl) hx (hs [_, _, _, _] w h)).mono fun _ _ ⟨he, hw⟩ => ⟨_, _, _, he, after_compact lv k hb hq hl x m hm y K hK, perm_jd hw⟩
end Go.Proofs.Ytjbcpfndpfeepaa.Jk
