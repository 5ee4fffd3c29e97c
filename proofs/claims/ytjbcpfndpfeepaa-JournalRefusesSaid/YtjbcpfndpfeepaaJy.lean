/-
  heavy: whatever it says, where it says no the acts are few and their lists short.
-/
import Derived.Test.YtjbcpfndpfeepaaJx
namespace Go.Proofs.Ytjbcpfndpfeepaa.Jk
open Go Go.RowKit Go.ChangeShapes Go.WideShapes Go.ChangeAt Go.Proofs.Ytjbcpfndpfeepaa.Mem Go.Proofs.Ytjbcpfndpfeepaa.Pk Go.Proofs.Ytjbcpfndpfeepaa.Fk Go.Proofs.Ytjbcpfndpfeepaa.Dz Go.Proofs.Ytjbcpfndpfeepaa.Fz Go.Proofs.Ytjbcpfndpfeepaa.Rc

set_option maxRecDepth 100000 in
set_option maxHeartbeats 4000000 in
theorem heavy_c {w : World} {v : Value} {ao : Option Addr} {len cap : Nat} {X : Nat → Deed} (h : Deeds w v ao len cap X) :
    Calls Try.prog 7 #[.slice ao len cap] w fun e w' => ∃ q : Bool, e = .returned (.bool q) ∧ w' = w ∧ (q = false → len ≤ 60 ∧ ∀ i, i < len → (X i).m ≤ 40) := by
  have H := Lib.hid h
  clear h
  go_enter Try.func7, Try.ntmps7
  go_wp2
  go_loopw [2, 3, 4, 5] (fun _ n i _ wr => ∃ (z : Nat) (N : Int), z ≤ len ∧ z ≤ 100 ∧ n = .int .i64 N ∧ i = .int .i64 (z : Int) ∧ wr = w ∧ RowKit.Hid (∀ j, j < z → (X j).m ≤ 40)) (fun _ _ i _ _ => 100 - (intOf i).toNat)
  case atStart => exact ⟨0, 0, by omega, by omega, rfl, rfl, rfl, Lib.hid fun j hj => absurd hj (by omega)⟩
  case round =>
    obtain ⟨z, N, hz1, hz2, rfl, rfl, rfl, hs⟩ := hrel
    by_cases hlt : z < len ∧ z < 100
    · obtain ⟨hl1, hl2⟩ := hlt
      obtain ⟨b, off, rfl, hb, hc⟩ := H.out.cell (by omega)
      have y1 := hc z hl1 1 _ rfl
      have y2 := hc z hl1 2 _ rfl
      have ho := H.out.ok z hl1
      obtain ⟨x, hx⟩ : ∃ x, x = X z := ⟨_, rfl⟩
      rw [← hx] at y1 y2 ho
      have Hx := Lib.hid hx
      have hrow := Lib.hid ho.row
      have hmx := ho.max
      obtain ⟨dd, ss, aa, mm, cc, xx, kk, ch⟩ := x
      dsimp only at y1 y2 hrow hmx
      clear hx hc ho
      go_wp2
      go_loopw [3, 5] (fun n i wr2 => ∃ (y : Nat) (N2 : Int), y ≤ mm ∧ y ≤ 100 ∧ n = .int .i64 N2 ∧ i = .int .i64 (y : Int) ∧ wr2 = wr) (fun _ i _ => 100 - (intOf i).toNat)
      case atStart => exact ⟨0, _, by omega, by omega, rfl, rfl, rfl⟩
      case round =>
        obtain ⟨y, N2, hy1, hy2, rfl, rfl, rfl⟩ := hrel
        by_cases hlt : y < mm ∧ y < 100
        · obtain ⟨hm1, hm2⟩ := hlt
          obtain ⟨g, f, rfl, c0⟩ := hrow.out y hm1
          go_wp2
          go_roundw
          case rel => exact ⟨y + 1, _, by omega, by omega, rfl, by go_num, by first | rfl | trivial⟩
          case measure => simp [intOf]; omega
        · rcases (by omega : ¬ y < mm ∨ (y < mm ∧ ¬ y < 100)) with e1 | ⟨e1, e2⟩
          case inr =>
            have h40 : 40 < mm := by omega
            go_wp2
            go_ret
            exact ⟨true, rfl, rfl, fun h => by cases h⟩
          case inl =>
            by_cases h40 : 40 < mm
            · go_wp2
              go_ret
              exact ⟨true, rfl, rfl, fun h => by cases h⟩
            · go_wp2
              go_roundw
              case rel => exact ⟨z + 1, _, by omega, by omega, rfl, by go_num, (by first | rfl | trivial), Lib.hid fun j hj => by
                by_cases e : j = z
                · subst e; rw [← Hx.out]; show mm ≤ 40; omega
                · exact hs.out j (by omega)⟩
              case measure => simp [intOf]; omega
    · rcases (by omega : ¬ z < len ∨ (z < len ∧ ¬ z < 100)) with e1 | ⟨e1, e2⟩
      case inr =>
        have h60 : 60 < len := by omega
        go_wp2
        go_ret
        (first | (dsimp only; exact ⟨true, rfl, rfl, fun h => by cases h⟩) | (simp; done) | trace_state)
      case inl =>
        by_cases h60 : 60 < len
        · go_wp2
          go_ret
          (first | (dsimp only; exact ⟨true, rfl, rfl, fun h => by cases h⟩) | (simp; done) | trace_state)
        · go_wp2
          all_goals go_ret
          all_goals exact ⟨_, rfl, rfl, fun _ => ⟨by omega, fun i hi => hs.out i (by omega)⟩⟩
end Go.Proofs.Ytjbcpfndpfeepaa.Jk
