/-
  The fixed record of layer 6's statements.
-/
import Derived.Test.YtakajeimlppmbaaGq
namespace Go.Proofs.Ytakajeimlppmbaa.Rc
open Go Go.RowKit Go.ChangeShapes Go.WideShapes Go.ChangeAt Go.Proofs.Ytakajeimlppmbaa.Mem Go.Proofs.Ytakajeimlppmbaa.Pk Go.Proofs.Ytakajeimlppmbaa.Fk Go.Proofs.Ytakajeimlppmbaa.Dz Go.Proofs.Ytakajeimlppmbaa.Fz

def hello : ByteArray := ⟨#[104, 101, 108, 108, 111]⟩
theorem hello_num : num 3 4 := ⟨by decide, by decide, by decide, by decide⟩
theorem hello_parts : parts hello.size = 1 := by decide
theorem hello_secs : secE 3 4 hello = 0 ∧ nS 3 4 hello = 1 := by
  obtain ⟨e1, e2⟩ := secE_ok (d := hello) (by decide) hello_num
  exact ⟨e1, e2.trans hello_parts⟩
set_option maxRecDepth 100000 in
set_option maxHeartbeats 4000000 in
theorem known_c (w : World) : Calls Try.prog 10 #[] w fun e w' => e = .returned (.bool true) ∧ Kept w w' := by
  obtain ⟨X, hX⟩ : ∃ X, X = sec 3 4 5 hello := ⟨_, rfl⟩
  have hX80 : (X 0).size = 80 := by rw [hX]; exact sec_size hello_num (by decide) (by decide)
  obtain ⟨s1, hs1⟩ : ∃ s1, s1 = (fresh 4 .idle).wrote 2 (X 0) := ⟨_, rfl⟩
  have hok : s1.ok := by rw [hs1]; exact (ok_fresh (n := 4) (f := .idle) (by decide) (by decide) trivial).wrote (by decide) hX80
  have hfn : Calls Try.prog 27 #[] w fun e w' => ∃ F, e = .returned (.pointer (some ⟨F, 0, none⟩)) ∧ Mem.Own w [fzA F .idle] w' := o_fnew (Mem.Own.nil w)
  have hnew : ∀ (F : Nat) (W : World), Mem.Own w [fzA F .idle] W → Calls Try.prog 26 #[.int .i64 4, .pointer (some ⟨F, 0, none⟩)] W fun e w' => ∃ D, e = .returned (.tuple #[.pointer (some ⟨D, 0, none⟩), .int .i64 0]) ∧ Mem.Own w [dk F D (fresh 4 .idle)] w' := fun F W h => o_new h 0 rfl (n := 4) (by decide) (by decide)
  have hsec : ∀ (F D : Nat) (W : World), Mem.Own w [dk F D (fresh 4 .idle)] W → Calls Try.prog 13 #[.int .i64 3, .int .i64 4, .int .u8 5, .string ⟨#[104, 101, 108, 108, 111]⟩] W fun e w' => ∃ g cap, e = .returned (.tuple #[.slice (some ⟨g, 0, none⟩) 1 cap, .int .i64 0]) ∧ w'.cell? ⟨g, 0, none⟩ = some (.string (X 0)) ∧ Mem.Own w [secA (.slice (some ⟨g, 0, none⟩) 1 cap) 1 X, dk F D (fresh 4 .idle)] w' := fun F D W h => by
    refine (o_secs h 3 4 5 hello (by decide) (by decide)).mono ?_
    rintro e w' ⟨ao, cap, he, hp⟩
    rw [hello_secs.1, hello_secs.2] at he
    rw [hello_secs.2, ← hX] at hp
    obtain ⟨g, rfl, hc⟩ := own_strs hp 0 rfl 0 (by decide)
    exact ⟨g, cap, he, hc, hp⟩
  have hwr : ∀ (F D : Nat) (a : As) (W : World), Mem.Own w [a, dk F D (fresh 4 .idle)] W → Calls Try.prog 22 #[.pointer (some ⟨D, 0, none⟩), .int .i64 2, .string (X 0)] W fun e w' => e = .returned (.int .i64 0) ∧ Mem.Own w [a, dk F D s1] w' := fun F D a W h => by
    have := o_w1 h rfl (by decide) (k := 2) (by decide) hX80
    rw [← hs1] at this
    exact this
  have hrd : ∀ (F D : Nat) (a : As) (W : World), Mem.Own w [a, dk F D s1] W → Calls Try.prog 18 #[.pointer (some ⟨D, 0, none⟩), .int .i64 2, .int .i64 4, .int .i64 4, .int .i64 3] W fun ed w' => ed = .returned (.tuple #[.agg #[.int .i64 3, .int .i64 4, .int .i64 0, .int .i64 1, .int .u8 5, .string ⟨#[104, 101, 108, 108, 111]⟩], .int .i64 0]) ∧ Mem.Own w [a, dk F D s1] w' := fun F D a W h => by
    have hr : rdOk s1.look 2 4 4 3 ⟨3, 4, 0, parts hello.size, 5, hello⟩ := rd_written hello_num (by decide) (by decide) (fun i hi => by
      have h1 : parts hello.size = 1 := hello_parts
      obtain rfl : i = 0 := by omega
      rw [hs1, look_wrote, if_pos rfl, hX]) (Int.le_refl _) (by rw [hello_parts]; decide)
    have := o_fetch_ok h 1 rfl hok (by rw [hs1]; rfl) 2 4 (by decide) (by rw [hs1]; exact Nat.le_refl 4) 4 3 _ hr
    rw [hello_parts] at this
    exact this
  have hs4 : s1.n = 4 := by rw [hs1]; rfl
  obtain ⟨Y, hY⟩ : ∃ Y, Y = X 0 := ⟨_, rfl⟩
  rw [← hY] at hwr hsec
  clear hX hX80 hs1 hok hs4 hY
  go_enter Try.func10, Try.ntmps10
  go_wp2_with (first
    | (go_at_call 27; refine hfn.mono ?_; rintro e u1 ⟨F, rfl, p1⟩)
    | (go_at_call 26; refine (hnew F _ p1).mono ?_; rintro e u2 ⟨D, rfl, p2⟩)
    | (go_at_call 13; (with_reducible refine (hsec F D _ p2).mono ?_); rintro e u3 ⟨g, cap, rfl, x0, p3⟩)
    | (go_at_call 22; (with_reducible refine (hwr F D _ _ p3).mono ?_); rintro e u4 ⟨rfl, p4⟩)
    | (go_at_call 18; (with_reducible refine (hrd F D _ _ p4).mono ?_); rintro e u5 ⟨rfl, p5⟩; have P5 := Lib.hid p5; clear p5))
  go_ret
  exact ⟨rfl, P5.out.kept.alloc _⟩
end Go.Proofs.Ytakajeimlppmbaa.Rc
