/-
  PROVED: the statement 'CrcResidueSaid': for every input the law CrcResidue returns true, and each argument reads afterwards as it read before. No condition.
-/
import Derived.Test.YtibpocemjdcgaaaKept
import Derived.Test.YtibpocemjdcgaaaRows
import Derived.WalkKit
import Derived.Laws.IdiomStrings
import Derived.ProofKit
import Derived.OpenShut
import Derived.ShutString
namespace Go.Proofs.Ytibpocemjdcgaaa.crcResidue
open Go.ChangeShapes Go.WideShapes Go.ChangeAt Go.RowKit
open Go.ChangeMaps (open_string shut_string)
set_option linter.unusedVariables false      -- a walk need not use every 'w<i>' (that an integer argument fits its kind)

theorem own : ownKnob Try.prog.godebug = none := by kernel_rfl

theorem cast_mod (n d : Nat) : ((n : Int) / (d : Int) % 256) = (((UInt8.ofNat (n / d % 256)).toNat : Nat) : Int) := by
  have h : (UInt8.ofNat (n / d % 256)).toNat = n / d % 256 := by
    rw [UInt8.toNat_ofNat']; exact Nat.mod_eq_of_lt (Nat.mod_lt _ (by decide))
  rw [h]; simp
theorem cast_mod1 (n : Nat) : ((n : Int) % 256) = (((UInt8.ofNat (n % 256)).toNat : Nat) : Int) := by
  have h : (UInt8.ofNat (n % 256)).toNat = n % 256 := by
    rw [UInt8.toNat_ofNat']; exact Nat.mod_eq_of_lt (Nat.mod_lt _ (by decide))
  rw [h]; simp
set_option maxHeartbeats 400000 in
theorem tail_any (c : BitVec 32) (w : World) :
    Calls Try.prog 14 #[.int .u32 (num c)] w fun e w' => e = .returned (.string ⟨(tailOf c).toArray⟩) ∧ Kept w w' := by
  have h0 := num_lo c
  have hb := run_convert_bytes_back (P := Try.prog) (w.alloc (.cells #[.int .u8 (num c % 256), .int .u8 (num c / 256 % 256), .int .u8 (num c / 65536 % 256), .int .u8 (num c / 16777216 % 256)] 5)) 29 9 5 ⟨w.heap.size, 0, none⟩ 4 (tailOf c) Try.underlying29 Try.underlying5 Try.underlying9 (fun j hj => by
    have e : (⟨w.heap.size, 0, none⟩ : Addr).add j = ⟨w.heap.size, j, none⟩ := by rw [add_plain]; simp
    rw [e, World.cell?_alloc_mark]
    have hj' : j = 0 ∨ j = 1 ∨ j = 2 ∨ j = 3 := by have : (tailOf c).length = 4 := rfl; omega
    unfold num
    rcases hj' with rfl | rfl | rfl | rfl
    · exact congrArg (fun z => some (Value.int .u8 z)) (cast_mod1 c.toNat)
    · exact congrArg (fun z => some (Value.int .u8 z)) (cast_mod c.toNat 256)
    · exact congrArg (fun z => some (Value.int .u8 z)) (cast_mod c.toNat 65536)
    · exact congrArg (fun z => some (Value.int .u8 z)) (cast_mod c.toNat 16777216))
  have hb' : (convert 29 9 (.slice (some ⟨w.heap.size, 0, none⟩) 4 4)).run Try.prog (w.alloc (.cells #[.int .u8 (num c % 256), .int .u8 (num c / 256 % 256), .int .u8 (num c / 65536 % 256), .int .u8 (num c / 16777216 % 256)] 5)) = .ok (.string ⟨(tailOf c).toArray⟩) (w.alloc (.cells #[.int .u8 (num c % 256), .int .u8 (num c / 256 % 256), .int .u8 (num c / 65536 % 256), .int .u8 (num c / 16777216 % 256)] 5)) := hb
  clear hb
  obtain ⟨T, hT⟩ : ∃ T : ByteArray, T = ⟨(tailOf c).toArray⟩ := ⟨_, rfl⟩
  rw [← hT] at hb' ⊢
  clear hT
  go_enter Try.func14, Try.ntmps14
  go_wp2
  go_ret
  exact ⟨rfl, (Below.refl _ _).alloc (Nat.le_refl _) _⟩
structure Given (s T0 T1 : ByteArray) (S c N1 : Int) : Prop where
  c0 : ∀ w, Calls Try.prog 10 #[.string s] w fun e w' => e = .returned (.int .u32 S) ∧ Kept w w'
  c1 : ∀ w, Calls Try.prog 14 #[.int .u32 S] w fun e w' => e = .returned (.string T0) ∧ Kept w w'
  c2 : ∀ w, Calls Try.prog 14 #[.int .u32 (bits .xor .u32 S c)] w fun e w' => e = .returned (.string T1) ∧ Kept w w'
  c3 : ∀ w, Calls Try.prog 10 #[.string (s ++ T0)] w fun e w' => e = .returned (.int .u32 558161692) ∧ Kept w w'
  c4 : ∀ w, Calls Try.prog 10 #[.string (s ++ T1)] w fun e w' => e = .returned (.int .u32 N1) ∧ Kept w w'
  h0 : T0.size = 4
  h1 : T1.size = 4
  hn : (c != 0) = true → (N1 == 558161692) = false
theorem app_list (s : ByteArray) (l : List UInt8) : (s ++ (⟨l.toArray⟩ : ByteArray)).data.toList = s.data.toList ++ l := by
  rw [ByteArray.data_append, Array.toList_append]
theorem app_size (s : ByteArray) (l : List UInt8) (h : s.size ≤ 1000) (hl : l.length = 4) : (s ++ (⟨l.toArray⟩ : ByteArray)).size ≤ maxLen := by
  rw [ByteArray.size_append]
  have : (⟨l.toArray⟩ : ByteArray).size = l.length := by show l.toArray.size = _; simp
  unfold maxLen; omega
theorem given (s : ByteArray) (c : BitVec 32) (hs : s.size ≤ 1000) : ∃ T0 T1 S N1, Given s T0 T1 S (num c) N1 := by
  have hm : s.size ≤ maxLen := by unfold maxLen; omega
  refine ⟨⟨(tailOf (moreB 0 s.data.toList)).toArray⟩, ⟨(tailOf (moreB 0 s.data.toList ^^^ c)).toArray⟩, num (moreB 0 s.data.toList), num (moreB 0 (s.data.toList ++ tailOf (moreB 0 s.data.toList ^^^ c))), fun w => sum_k s w hm, fun w => tail_any _ w, fun w => ?_, fun w => ?_, fun w => ?_, rfl, rfl, fun h => ?_⟩
  · rw [num_xor]; exact tail_any _ w
  · refine sum_kis _ _ w (app_size _ _ hs rfl) ?_
    rw [app_list, sum_tail]; rfl
  · refine sum_kis _ _ w (app_size _ _ hs rfl) ?_
    rw [app_list]
  · have ho : c ≠ 0 := by
      rintro rfl; exact absurd h (by decide)
    have hne := sum_other s.data.toList c ho
    rw [beq_eq_false_iff_ne]
    intro he
    exact hne (num_inj.mp (he.trans (show (558161692 : Int) = num 0x2144DF1C#32 from rfl)))
theorem walk (a0 : ByteArray) (a1 : Int) (w0 : a0.size ≤ maxLen) (w1 : (Lit.int .u32 a1).wf = true) (w : World) :
    Calls Try.prog 8 #[.string a0, .int .u32 a1] w fun e w' => e = .returned (.bool true) ∧ Kept w w' := by
  have b1 := bounds_u32 w1
  by_cases g : a0.size ≤ 1000
  · obtain ⟨c, rfl⟩ : ∃ c : BitVec 32, a1 = num c := ⟨BitVec.ofInt 32 a1, (of_num a1 (by omega) (by omega)).symm⟩
    clear b1 w1
    obtain ⟨T0, T1, S, N1, G⟩ := given a0 c g
    have h0 := G.h0
    have h1 := G.h1
    obtain ⟨o, ho⟩ : ∃ o, o = num c := ⟨_, rfl⟩
    rw [← ho] at G ⊢
    clear ho w0
    by_cases hz : (o != 0) = true
    · have hn := G.hn hz
      go_enter Try.func8, Try.ntmps8
      go_wp2_with (first
        | (go_at_call 10; (with_reducible refine (G.c0 _).mono ?_); rintro e u ⟨rfl, hg⟩)
        | (go_at_call 10; (with_reducible refine (G.c3 _).mono ?_); rintro e u ⟨rfl, hg⟩)
        | (go_at_call 10; (with_reducible refine (G.c4 _).mono ?_); rintro e u ⟨rfl, hg⟩)
        | (go_at_call 14; (with_reducible refine (G.c1 _).mono ?_); rintro e u ⟨rfl, hg⟩)
        | (go_at_call 14; (with_reducible refine (G.c2 _).mono ?_); rintro e u ⟨rfl, hg⟩)
        | (go_at_call 9; (with_reducible refine (known_k _).mono ?_); rintro e u ⟨rfl, hg⟩))
      go_ret
      refine ⟨rfl, ?_⟩
      iterate 6 (first | assumption | refine Kept.trans ?_ ‹_›)
    · have hz' : (o != 0) = false := by simpa using hz
      clear hz
      go_enter Try.func8, Try.ntmps8
      go_wp2_with (first
        | (go_at_call 10; (with_reducible refine (G.c0 _).mono ?_); rintro e u ⟨rfl, hg⟩)
        | (go_at_call 10; (with_reducible refine (G.c3 _).mono ?_); rintro e u ⟨rfl, hg⟩)
        | (go_at_call 14; (with_reducible refine (G.c1 _).mono ?_); rintro e u ⟨rfl, hg⟩)
        | (go_at_call 9; (with_reducible refine (known_k _).mono ?_); rintro e u ⟨rfl, hg⟩))
      go_ret
      refine ⟨rfl, ?_⟩
      iterate 4 (first | assumption | refine Kept.trans ?_ ‹_›)
  · clear b1
    go_enter Try.func8, Try.ntmps8
    go_wp2_with (go_at_call 9; refine (known_k _).mono ?_; rintro e u5 ⟨rfl, hg3⟩)
    go_ret
    exact ⟨rfl, hg3⟩

/-! ### THE ROW's STEP: WRITTEN OUT: LEAVE IT -/
set_option maxRecDepth 100000 in
theorem lifted (os : Os) (started : os.Started) (H : Type) (enc : TypeId × Value → H) :
    ReturnsInHanded {} Try.checked os 8 .any (Rows.crcResidueSpec.pre6 enc Try.prog Try.f8 Rows.crcResidueRow.domain false) (Rows.crcResidueSpec.post enc Try.prog Try.f8 false true false false) := by
  refine returnsInHanded_of_change (C := Try.checked) own started (by kernel_rfl) Try.func8
    (ChangeSpec.witness6 (enc := enc) (C := Try.checked) false ⟨#[], #[.string ByteArray.empty, .int .u32 0], []⟩ 8 (by kernel_rfl) (by kernel_rfl) (by kernel_rfl) (by kernel_rfl)) ?_
  intro W base args ds gs before hval0 hW hcnd _
  have hval : ∀ (j : Nat) t v, Try.f8.params[j]? = some t → args[j]? = some v → Value.okWide Try.prog W .any base t v := hval0
  have hW' := hW
  obtain ⟨p, q, hA0, hV, rfl, hfz, hnd⟩ := hW
  have hA : DataW.TrodAll enc Try.prog W 0 (fun _ => true) true Try.f8.params.toList args.toList ds p := hA0
  rw [Try.params8] at hA hval
  obtain ⟨v0, vs0, d0, ds0, p0, q0, hargs, rfl, rfl, h0, r0⟩ := trodAll_cons hA
  obtain ⟨v1, vs1, d1, ds1, p1, q1, rfl, rfl, rfl, h1, r1⟩ := trodAll_cons r0
  obtain ⟨rfl, rfl, rfl⟩ := trodAll_nil r1
  obtain rfl : args = #[v0, v1] := by cases args; simp_all
  obtain ⟨rfl, rfl⟩ := trodVars_none hV
  obtain ⟨a0, rfl, rfl, rfl, w0⟩ := open_string Try.underlying9 (hval 0 9 v0 rfl rfl) h0
  obtain ⟨a1, rfl, rfl, rfl, w1⟩ := open_int Try.underlying22 (hval 1 22 v1 rfl rfl) h1
  clear hA0 hval0
  simp only [List.append_nil] at hW'
  refine (walk a0 a1 w0 w1 W).mono fun e W' ⟨he, hg⟩ => ?_
  subst he
  exact ⟨_, rfl, _, _, _, [], [], [], hW', (trodAll_cons_mk (shut_bool Try.underlying4 _) trodAll_mk0), (trodAll_cons_mk (shut_string Try.underlying9 w0) (trodAll_cons_mk (shut_int Try.underlying22 w1) trodAll_mk0)), rfl, Below.frame hg _, fun h => by cases h⟩

theorem over : Rows.crcResidueRow.holds Try.pinned (OpenSpec.ofChange Rows.crcResidueSpec) :=
  OpenClaim.holds_of_wide 8 Try.f8 rfl rfl rfl rfl rfl rfl rfl ⟨rfl, rfl, rfl, rfl, rfl⟩ rfl rfl rfl rfl rfl (by kernel_rfl) Try.func8 (by kernel_rfl)
    (of_decide_eq_true (by kernel_rfl)) (by unfold Func.isWrapper; first | (rw [if_pos (by decide +kernel)]; kernel_rfl) | (rw [if_neg (by decide +kernel)]; exact ⟨rfl, rfl⟩))
    (fun os started H enc _ => lifted os started H enc)

/-- ████ THE STATEMENT ████ -/
theorem proved : Rows.CrcResidueSaid :=
  over
#print axioms proved
end Go.Proofs.Ytibpocemjdcgaaa.crcResidue
