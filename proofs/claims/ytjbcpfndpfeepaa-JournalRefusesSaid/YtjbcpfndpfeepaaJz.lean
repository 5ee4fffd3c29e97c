/-
  JournalSurvives: its walk.
-/
import Derived.Test.YtjbcpfndpfeepaaJy
namespace Go.Proofs.Ytjbcpfndpfeepaa.Jk
open Go Go.RowKit Go.ChangeShapes Go.WideShapes Go.ChangeAt Go.Proofs.Ytjbcpfndpfeepaa.Mem Go.Proofs.Ytjbcpfndpfeepaa.Pk Go.Proofs.Ytjbcpfndpfeepaa.Fk Go.Proofs.Ytjbcpfndpfeepaa.Dz Go.Proofs.Ytjbcpfndpfeepaa.Fz Go.Proofs.Ytjbcpfndpfeepaa.Rc
open Go.Proofs.Ytjbcpfndpfeepaa.Hk (Hd saves loads o_save o_load hblock)

theorem Ran.reopens {w0 : World} {B area : Nat} {b q l : Int} {F D J : Nat} {s : Ds} {c : Hd} {R : List Fr} {A : List As} {vS vR : Value} {nS : Nat} {xS : Nat → ByteArray} {nR : Nat} {xR : Nat → ByteArray} {w : World} (r : Ran w0 B area b q l F D J s c R A vS vR nS xS nR xR w)
    (ha : 1 ≤ area ∧ area ≤ 32000) (hb : b < 4294967295) (hq : q < 281474976710000) :
    Calls Try.prog 11 #[.pointer (some ⟨B, 0, none⟩), vS, vR] w fun e w' => e = .returned (.bool true) ∧ Kept w0 w' := by
  have kk : c.boot < 4294967295 ∧ c.seq < 281474976710000 := ⟨by have := r.bnd.boot; omega, by have := r.bnd.seq; omega⟩
  obtain ⟨sx, ho, hl⟩ := r.live.lain.open1 ha kk
  have hlen := r.live.small
  have h1 : nS < 4294967296 := by have := r.data.cn; have := r.data.most; omega
  have h2 : nR < 4294967296 := by have := r.data.cr; omega
  refine (o_opens (own_swap (L1 := [_]) r.own) ho (by omega) (r.sees.more [_]) (r.seer.more [_]) (r.sees.more [_]) (r.seer.more [_]) h1 h2 h1 h2 (.inl r.data.eqs)).mono ?_
  rintro e w' ⟨J, vS', vR', rfl, hw⟩
  exact ⟨rfl, hw.kept⟩
/-- The run as begin leaves it. -/
theorem begin_c (area : Nat) (ha : 1 ≤ area ∧ area ≤ 32000) (w : World) : Calls Try.prog 9 #[.int .i64 (area : Int)] w fun e w' => ∃ B, e = .returned (.pointer (some ⟨B, 0, none⟩)) ∧ IsRan w B area 1 1 0 w' := by
  obtain ⟨s1, hl, hc⟩ := o_begin area ha
  refine (hc w).mono ?_
  rintro e w' ⟨B, F, D, J, vS, vR, rfl, hw⟩
  refine ⟨B, rfl, F, D, J, s1, h11, [], _, vS, vR, 0, xsF [], 0, fun i => xsF [] (0 + i), ⟨hw, hl, (Sees.row (L := [_, _, _, _]) hw).more [_], Sees.row (L := [_, _, _]) hw, ⟨rfl, Nat.le_refl _, rfl, fun i hi => absurd hi (by omega), fun i hi => absurd hi (by omega)⟩, ⟨by decide, by decide, by decide⟩⟩⟩
end Go.Proofs.Ytjbcpfndpfeepaa.Jk
