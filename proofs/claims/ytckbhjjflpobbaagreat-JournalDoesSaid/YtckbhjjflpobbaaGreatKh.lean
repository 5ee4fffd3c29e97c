/-
  Saving with an idle fuse; the fixed header.
-/
import Derived.Test.YtckbhjjflpobbaaGreatKf
import Derived.Test.YtckbhjjflpobbaaGreatKq
namespace Go.Proofs.YtckbhjjflpobbaaGreat.Hk
open Go.RowKit Go.Proofs.YtckbhjjflpobbaaGreat.Mem Go.Proofs.YtckbhjjflpobbaaGreat.Pk Go.Proofs.YtckbhjjflpobbaaGreat.Dz Go.Proofs.YtckbhjjflpobbaaGreat.Fz

/-- A disk on which the header is saved. -/
def saved (s : Ds) (c : Hd) : Ds := (s.wrote (c.seq.toNat % 2) c.enc).settled fun _ => 80
theorem slot_nat {c : Hd} (g : c.good) : c.seq % 2 = ((c.seq.toNat % 2 : Nat) : Int) := by have := g.s1; omega
theorem saves_idle {s : Ds} (hf : s.fu = .idle) {c : Hd} (g : c.good) (hn : 2 ≤ s.n) : saves s c = (0, saved s c) := by
  unfold saves
  have e := Ds.writes_idle hf (i := c.seq.toNat % 2) (by omega) (enc_size g)
  rw [if_neg (by rw [(Hd.err_zero c).mpr g]; decide), if_neg (by omega), slot_nat g, e]
  rw [if_neg (by simp)]
  exact Ds.syncs_idle (s := s.wrote (c.seq.toNat % 2) c.enc) hf
theorem saved_put {s : Ds} (hp : s.pend = []) (c : Hd) : Put s.dur (saved s c).dur c 80 := put_disk hp c (fun _ => 80) (by decide)
theorem saved_look (s : Ds) (c : Hd) : (saved s c).look = (saved s c).dur := rfl
theorem look_dur {s : Ds} (h : s.pend = []) : s.look = s.dur := by funext i; unfold Ds.look; rw [h]; rfl
theorem saved_ok {s : Ds} (h : s.ok) {c : Hd} (g : c.good) (hn : 2 ≤ s.n) : (saved s c).ok := (h.wrote (by omega) (enc_size g)).settled fun _ => Nat.le_refl _
/-- A header is put over another sector; the other slot has none. -/
theorem put_top {S T : Nat → ByteArray} {c : Hd} (g : c.good) (p : Put S T c 80) (hs : (S (c.seq.toNat % 2)).size = 80) (hl : ∀ d, slot S ((c.seq.toNat + 1) % 2) = some d → d.seq < c.seq) : newest T = some c := by
  have hh := p.here
  have e : S (c.seq.toNat % 2) = str (S (c.seq.toNat % 2)).data.toList := (str_list _).symm
  rw [e, Hd.enc_good g, mix_80 (sec_len c) ((size_list _).trans hs)] at hh
  have t : Top T c := ⟨g, hh, fun d hd => hl d (by
    unfold slot at hd ⊢
    rw [p.away _ (by omega)] at hd
    exact hd)⟩
  exact t.newest
def four : Hd := ⟨4, 2, 0, 1, 0⟩
theorem four_good : four.good := ⟨by decide, by decide, by decide, by decide, by decide, by decide, by decide, by decide, by decide, by decide⟩
theorem four_loads : loads (saved (fresh 3 .idle) four) = (four, 0) := by
  refine loads_some (by show ¬ (3 : Nat) < 2; decide) rfl ?_
  rw [saved_look]
  refine put_top four_good (saved_put rfl four) Z_size ?_
  intro d hd
  have h1 : slot (fresh 3 St.idle).dur ((four.seq.toNat + 1) % 2) = none := by
    unfold slot
    have : (fresh 3 St.idle).dur ((four.seq.toNat + 1) % 2) = str (List.replicate 80 0) := rfl
    rw [this, zeros_dec]
  rw [h1] at hd; cases hd
end Go.Proofs.YtckbhjjflpobbaaGreat.Hk
