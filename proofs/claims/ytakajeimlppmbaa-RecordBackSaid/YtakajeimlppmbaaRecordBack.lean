/-
  PROVED: the statement 'RecordBackSaid': for every input the law RecordBack returns true, and each argument reads afterwards as it read before. No condition.
-/
import Derived.Test.YtakajeimlppmbaaGy
import Derived.Test.YtakajeimlppmbaaRows
import Derived.WalkKit
import Derived.Deep.RegionHeld3
import Derived.BigQuiet
import Derived.ProofKit
import Derived.OpenShut
import Derived.ShutString
namespace Go.Proofs.Ytakajeimlppmbaa.recordBack
open Go.ChangeShapes Go.WideShapes Go.ChangeAt Go.RowKit
open Go.Proofs.Ytakajeimlppmbaa.Mem Go.Proofs.Ytakajeimlppmbaa.Pk Go.Proofs.Ytakajeimlppmbaa.Rc Go.Proofs.Ytakajeimlppmbaa.Fk Go.Proofs.Ytakajeimlppmbaa.Dz Go.Proofs.Ytakajeimlppmbaa.Fz
set_option linter.unusedVariables false

theorem own : ownKnob Try.prog.godebug = none := by kernel_rfl
theorem laidOut : laidOutB Try.prog = true := by kernel_rfl

theorem o_fetch_ok2 {w0 w : World} {L : List As} (h : Mem.Own w0 L w) (i : Nat) {F D : Nat} {s : Ds} (hi : L[i]? = some (dk F D s)) (hok : s.ok) (hidle : s.fu = .idle) (t u : Nat) (htu : t ≤ u) (hu : u ≤ s.n) (lsn boot : Int) (r : Fr) (hr : rdOk s.look t u lsn boot r) :
    Calls Try.prog 18 #[.pointer (some ⟨D, 0, none⟩), .int .i64 (t : Int), .int .i64 (u : Int), .int .i64 lsn, .int .i64 boot] w fun ed w' => ed = .returned (.tuple #[.agg #[.int .i64 r.boot, .int .i64 r.lsn, .int .i64 r.part, .int .i64 r.parts, .int .u8 (r.kind : Int), .string r.data], .int .i64 0]) ∧ Mem.Own w0 L w' ∧ Kept w w' := by
  have hn := hok.hi
  refine (h.look i hi (R := fun ed w' => ed = .returned (.tuple #[.agg #[.int .i64 r.boot, .int .i64 r.lsn, .int .i64 r.part, .int .i64 r.parts, .int .u8 (r.kind : Int), .string r.data], .int .i64 0]) ∧ Kept w w') fun M1 M2 pv hd => ?_).mono fun e w' ⟨⟨h1, h2⟩, h3⟩ => ⟨h1, h3, h2⟩
  have := fetch_c F D M1 M2 pv s hok t u lsn boot ⟨by omega, by omega⟩ ⟨by omega, by omega⟩ w hd
  rw [fetch_in htu hu (by rw [hidle]; rfl), (rdF_ok hr).1, (rdF_ok hr).2] at this
  exact this.mono fun e w' ⟨h1, h2⟩ => ⟨⟨h1, h2⟩, h2⟩
set_option maxHeartbeats 2000000 in
set_option maxRecDepth 100000 in
theorem bad (w : World) (b l : Int) (k : Nat) (hk : k ≤ 255) (d : ByteArray) (hd : d.size ≤ maxLen) (a z : Nat) (h : ¬ (num b l ∧ d.size ≤ 4096)) :
    Calls Try.prog 6 #[.int .i64 b, .int .i64 l, .int .u8 (k : Int), .string d, .int .u8 (a : Int), .int .u8 (z : Int)] w fun e w' => e = .returned (.bool true) ∧ Kept w w' := by
  have hkn : ∀ W, Calls Try.prog 10 #[] W fun e w' => e = .returned (.bool true) ∧ Kept W w' := Rc.known_c
  have hz : nS b l d = 0 ∧ secE b l d ≠ 0 := by
    have h2 : secE b l d ≠ 0 := fun e => h ((secE_zero b l d).mp e)
    exact ⟨by unfold nS; rw [if_neg h2], h2⟩
  have cs : Calls Try.prog 13 #[.int .i64 b, .int .i64 l, .int .u8 (k : Int), .string d] w fun e w' => ∃ ao cap, e = .returned (.tuple #[.slice ao 0 cap, .int .i64 (secE b l d)]) ∧ Kept w w' := by
    refine (sectors_c b l k d (by omega) hd w).mono ?_
    rintro e w' ⟨v, he, hrow, hk⟩
    obtain ⟨ao, cap, rfl, _⟩ := strings_at hrow
    rw [hz.1] at he
    exact ⟨ao, cap, he, hk⟩
  obtain ⟨E, hE⟩ : ∃ E, E = secE b l d := ⟨_, rfl⟩
  rw [← hE] at cs
  have tE : (E != 0) = true := by rw [hE]; simpa using hz.2
  have hcases : (4096 < d.size) ∨ (d.size ≤ 4096 ∧ b < 1) ∨ (d.size ≤ 4096 ∧ 1 ≤ b ∧ 4294967296 ≤ b) ∨ (d.size ≤ 4096 ∧ 1 ≤ b ∧ b ≤ 4294967295 ∧ l < 1) ∨ (d.size ≤ 4096 ∧ 1 ≤ b ∧ b ≤ 4294967295 ∧ 1 ≤ l ∧ 281474976710656 ≤ l) := by
    by_cases h1 : 4096 < d.size
    · exact .inl h1
    · refine .inr ?_
      by_cases h2 : b < 1
      · exact .inl ⟨by omega, h2⟩
      · by_cases h3 : 4294967296 ≤ b
        · exact .inr (.inl ⟨by omega, by omega, h3⟩)
        · by_cases h4 : l < 1
          · exact .inr (.inr (.inl ⟨by omega, by omega, by omega, h4⟩))
          · exact .inr (.inr (.inr ⟨by omega, by omega, by omega, by omega, by
              refine Int.not_lt.1 fun h5 => h ⟨⟨by omega, by omega, by omega, by omega⟩, by omega⟩⟩))
  clear hE hz h hd
  rcases hcases with h1 | ⟨h1, h2⟩ | ⟨h1, h2, h3⟩ | ⟨h1, h2, h3, h4⟩ | ⟨h1, h2, h3, h4, h5⟩
  all_goals
    go_enter Try.func6, Try.ntmps6
    go_wp2_with (first
      | (go_at_call 13; (with_reducible refine cs.mono ?_); rintro e u1 ⟨ao, cap, rfl, k1⟩)
      | (go_at_call 10; (with_reducible refine (hkn _).mono ?_); rintro e u11 ⟨rfl, k11⟩))
    go_ret
    exact ⟨rfl, k1.trans k11⟩
set_option maxHeartbeats 2000000 in
theorem walk (w : World) (b : Int) (hb : -9223372036854775808 ≤ b ∧ b ≤ 9223372036854775807) (l : Int) (hl : -9223372036854775808 ≤ l ∧ l ≤ 9223372036854775807) (k : Nat) (hk : k ≤ 255) (d : ByteArray) (hd : d.size ≤ maxLen) (a : Nat) (ha : a ≤ 255) (z : Nat) (hz : z ≤ 255) :
    Calls Try.prog 6 #[.int .i64 b, .int .i64 l, .int .u8 (k : Int), .string d, .int .u8 (a : Int), .int .u8 (z : Int)] w fun e w' => e = .returned (.bool true) ∧ Kept w w' := by
  by_cases h : num b l ∧ d.size ≤ 4096
  · obtain ⟨hn, h4⟩ := h
    obtain ⟨K, hK⟩ : ∃ K, K = a % 4 := ⟨_, rfl⟩
    obtain ⟨N, hN⟩ : ∃ N, N = parts d.size := ⟨_, rfl⟩
    have hN1 : 1 ≤ N := hN ▸ parts_pos _
    have hN94 : N ≤ 94 := hN ▸ parts_le h4
    obtain ⟨X, hX⟩ : ∃ X, X = sec b l k d := ⟨_, rfl⟩
    have hX80 : ∀ i, i < N → (X i).size = 80 := fun i hi => by rw [hX]; exact sec_size hn h4 (hN ▸ hi)
    obtain ⟨s1, hs1⟩ : ∃ s1, s1 = laid (fresh (N + K + 1) .idle) K X N := ⟨_, rfl⟩
    have ok1 : s1.ok := by rw [hs1]; exact laid_ok (ok_fresh (n := N + K + 1) (f := .idle) (by omega) (by omega) trivial) (by show K + N ≤ N + K + 1; omega) hX80
    have n1 : s1.n = N + K + 1 := by rw [hs1]; exact laid_n _ _ _ _
    have f1 : s1.fu = .idle := by rw [hs1]; exact laid_fu _ _ _ _
    have look1 : ∀ j, s1.look j = if K ≤ j ∧ j < K + N then X (j - K) else Z := fun j => by
      rw [hs1, laid_look]; rfl
    have hsec : ∀ i, i < parts d.size → s1.look (K + i) = sec b l k d i := fun i hi => by
      rw [look1, if_pos (by omega), hX]; congr 1; omega
    have nX : secE b l d = 0 ∧ nS b l d = N := by rw [hN]; exact secE_ok h4 hn
    have hu : ((N + K : Nat) : Int) = (N : Int) + (K : Int) := by omega
    have hu2 : ((N + K - 1 : Nat) : Int) = (N : Int) + (K : Int) - 1 := by omega
    have hu3 : ((K + 1 : Nat) : Int) = (K : Int) + 1 := by omega
    have hu4 : ((N + K + 1 : Nat) : Int) = (N : Int) + (K : Int) + 1 := by omega
    refine back_core w b l ⟨hn.b1, hn.b2⟩ ⟨hn.l1, hn.l2⟩ k hk d h4 a z K N ha hz (by omega) (by omega) hN1 hN94 X s1 {
      cs := by
        refine (o_secs (Mem.Own.nil w) b l k d (by omega) hd).mono ?_
        rintro e w' ⟨ao, cap, he, hp⟩
        rw [nX.1, nX.2] at he
        rw [nX.2, ← hX] at hp
        obtain ⟨g, rfl, _⟩ := own_strs hp 0 rfl 0 hN1
        exact ⟨g, cap, he, hp⟩
      cp := fun W => by
        have := parts_c (d.size : Int) ⟨by omega, by omega⟩ W
        rw [(pF_nat h4).1, (pF_nat h4).2, ← hN] at this
        exact this
      cd := fun i W hi => by
        have := decode_c (X i) W
        have e : X i = sec b l k d i := by rw [hX]
        obtain ⟨e1, e2⟩ := sec_decF (i := i) hn (show k < 256 by omega) h4 (hN ▸ hi)
        rw [e] at this ⊢
        rw [e1, e2] at this
        rw [hN]
        exact this
      full := fun i hi => piece_full (hN ▸ hi)
      cat := fun i W hi => by
        have hlen : (d.data.toList.take (44 * i)).length ≤ 4096 := Nat.le_trans (List.length_take_le' _ _) (by rw [size_list]; exact h4)
        have h44 : (piece d i).data.toList.length ≤ 44 := by rw [size_list]; exact piece_short d i
        have := cat_str (d.data.toList.take (44 * i)) (piece d i).data.toList (d.data.toList.take (44 * (i + 1))) (take_piece d i).symm (by omega) W
        have e : (⟨(piece d i).data.toList.toArray⟩ : ByteArray) = piece d i := str_list (piece d i)
        rw [e] at this
        exact this
      all := by rw [hN, take_parts, str_list]
      hfn := fun L W h => (o_fnew h).mono fun e w' ⟨F, he, hk⟩ => ⟨F, he, hk.front⟩
      hnew := fun F L W h => by
        rw [← hu4]
        exact o_new h 0 rfl (n := N + K + 1) (by omega) (by omega)
      hwr := fun F D g cap W h => by
        have := o_put h 0 1 (by decide) rfl rfl rfl K (by show K + N ≤ N + K + 1; omega) (by show N + K + 1 ≤ _; omega) hX80 (by show 0 + N < _; omega)
        rw [← hs1] at this
        exact this.mono fun e w' ⟨he, hp⟩ => ⟨he, hp.second⟩
      hrd := fun F D b' W hb' h => by
        have hr : rdOk s1.look K (N + K) l b' ⟨b, l, 0, parts d.size, k, d⟩ := rd_written hn (by omega) h4 hsec hb' (by omega)
        have := o_fetch_ok2 h 0 rfl ok1 f1 K (N + K) (by omega) (by rw [n1]; omega) l b' _ hr
        rw [hu, ← hN] at this
        exact this
      hb1 := fun F D W h => by
        have := o_fetch_bad h 0 rfl ok1 f1 K (N + K) (by omega) (by rw [n1]; omega) l (b + 1) (rd_other hn (show k < 256 by omega) h4 (by have := hsec 0 (parts_pos _); rwa [Nat.add_zero] at this) (.inr (.inl (by omega))))
        rw [hu] at this
        exact this
      hb2 := fun F D W h => by
        have := o_fetch_bad h 0 rfl ok1 f1 K (N + K) (by omega) (by rw [n1]; omega) (l + 1) b (rd_other hn (show k < 256 by omega) h4 (by have := hsec 0 (parts_pos _); rwa [Nat.add_zero] at this) (.inl (by omega)))
        rw [hu] at this
        exact this
      hb3 := fun F D W h => by
        have := o_fetch_bad h 0 rfl ok1 f1 K (N + K - 1) (by omega) (by rw [n1]; omega) l b (rd_other hn (show k < 256 by omega) h4 (by have := hsec 0 (parts_pos _); rwa [Nat.add_zero] at this) (.inr (.inr (by omega))))
        rw [hu2] at this
        exact this
      hb4 := fun F D W h => by
        have := o_fetch_bad h 0 rfl ok1 f1 (K + 1) (N + K + 1) (by omega) (by rw [n1]; omega) l b (back_next hn (show k < 256 by omega) h4 hsec (by rw [look1, if_neg (by omega)]))
        rw [hu3, hu4] at this
        exact this }
  · exact bad w b l k hk d hd a z h

set_option maxRecDepth 100000 in
theorem lifted (os : Os) (started : os.Started) (H : Type) (enc : TypeId × Value → H) :
    ReturnsInHanded {} Try.checked os 6 .any (Rows.recordBackSpec.pre6 enc Try.prog Try.f6 Rows.recordBackRow.domain false) (Rows.recordBackSpec.post enc Try.prog Try.f6 false true false false) := by
  refine returnsInHanded_of_change (C := Try.checked) own started (by kernel_rfl) Try.func6
    (ChangeSpec.witness6 (enc := enc) (C := Try.checked) false ⟨#[], #[.int .i64 0, .int .i64 0, .int .u8 0, .string ByteArray.empty, .int .u8 0, .int .u8 0], []⟩ 8 (by kernel_rfl) (by kernel_rfl) (by kernel_rfl) (by kernel_rfl)) ?_
  intro W base args ds gs before hval0 hW hcnd _
  have hval : ∀ (j : Nat) t v, Try.f6.params[j]? = some t → args[j]? = some v → Value.okWide Try.prog W .any base t v := hval0
  have hW' := hW
  obtain ⟨p, q, hA0, hV, rfl, hfz, hnd⟩ := hW
  have hA : DataW.TrodAll enc Try.prog W 0 (fun _ => true) true Try.f6.params.toList args.toList ds p := hA0
  rw [Try.params6] at hA hval
  obtain ⟨v0, vs0, d0, ds0, p0, q0, hargs0, rfl, rfl, h0, r0⟩ := trodAll_cons hA
  obtain ⟨v1, vs1, d1, ds1, p1, q1, hargs1, rfl, rfl, h1, r1⟩ := trodAll_cons r0
  obtain ⟨v2, vs2, d2, ds2, p2, q2, hargs2, rfl, rfl, h2, r2⟩ := trodAll_cons r1
  obtain ⟨v3, vs3, d3, ds3, p3, q3, hargs3, rfl, rfl, h3, r3⟩ := trodAll_cons r2
  obtain ⟨v4, vs4, d4, ds4, p4, q4, hargs4, rfl, rfl, h4, r4⟩ := trodAll_cons r3
  obtain ⟨v5, vs5, d5, ds5, p5, q5, hargs5, rfl, rfl, h5, r5⟩ := trodAll_cons r4
  obtain ⟨rfl, rfl, rfl⟩ := trodAll_nil r5
  obtain rfl : args = #[v0, v1, v2, v3, v4, v5] := by cases args; simp_all
  obtain ⟨rfl, rfl⟩ := trodVars_none hV
  obtain ⟨n0, b0, e0⟩ := open_i64 (hval 0 3 v0 rfl rfl) h0
  obtain ⟨n1, b1, e1⟩ := open_i64 (hval 1 3 v1 rfl rfl) h1
  obtain ⟨n2, b2, e2⟩ := open_u8 (hval 2 5 v2 rfl rfl) h2
  obtain ⟨n3, b3, e3⟩ := open_str (hval 3 9 v3 rfl rfl) h3
  obtain ⟨n4, b4, e4⟩ := open_u8 (hval 4 5 v4 rfl rfl) h4
  obtain ⟨n5, b5, e5⟩ := open_u8 (hval 5 5 v5 rfl rfl) h5
  clear hA0 hval0
  simp only [List.append_nil] at hW'
  have hlt0 : ∀ x ∈ p0, x.block < W.heap.size := fun x hx => hW'.lt x (by simp [hx])
  have hlt1 : ∀ x ∈ p1, x.block < W.heap.size := fun x hx => hW'.lt x (by simp [hx])
  have hlt2 : ∀ x ∈ p2, x.block < W.heap.size := fun x hx => hW'.lt x (by simp [hx])
  have hlt3 : ∀ x ∈ p3, x.block < W.heap.size := fun x hx => hW'.lt x (by simp [hx])
  have hlt4 : ∀ x ∈ p4, x.block < W.heap.size := fun x hx => hW'.lt x (by simp [hx])
  have hlt5 : ∀ x ∈ p5, x.block < W.heap.size := fun x hx => hW'.lt x (by simp [hx])
  have hwalk := walk W n0 b0 n1 b1 n2 b2 n3 b3 n4 b4 n5 b5
  rw [← e0, ← e1, ← e2, ← e3, ← e4, ← e5] at hwalk
  refine hwalk.mono fun e W' ⟨he, hg⟩ => ?_
  subst he
  exact ⟨_, rfl, _, _, _, [], _, [], hW', (trodAll_cons_mk (shut_bool Try.underlying4 _) trodAll_mk0), (trodAll_cons_mk (Below.trod laidOut (by kernel_rfl) (of_decide_eq_true (by kernel_rfl)) h0 hg hlt0) (trodAll_cons_mk (Below.trod laidOut (by kernel_rfl) (of_decide_eq_true (by kernel_rfl)) h1 hg hlt1) (trodAll_cons_mk (Below.trod laidOut (by kernel_rfl) (of_decide_eq_true (by kernel_rfl)) h2 hg hlt2) (trodAll_cons_mk (Below.trod laidOut (by kernel_rfl) (of_decide_eq_true (by kernel_rfl)) h3 hg hlt3) (trodAll_cons_mk (Below.trod laidOut (by kernel_rfl) (of_decide_eq_true (by kernel_rfl)) h4 hg hlt4) (trodAll_cons_mk (Below.trod laidOut (by kernel_rfl) (of_decide_eq_true (by kernel_rfl)) h5 hg hlt5) trodAll_mk0)))))), rfl, Below.frame hg _, fun h => by cases h⟩

theorem over : Rows.recordBackRow.holds Try.pinned (OpenSpec.ofChange Rows.recordBackSpec) :=
  OpenClaim.holds_of_wide 6 Try.f6 rfl rfl rfl rfl rfl rfl rfl ⟨rfl, rfl, rfl, rfl, rfl⟩ rfl rfl rfl rfl rfl (by kernel_rfl) Try.func6 (by kernel_rfl)
    (of_decide_eq_true (by kernel_rfl)) (by unfold Func.isWrapper; first | (rw [if_pos (by decide +kernel)]; kernel_rfl) | (rw [if_neg (by decide +kernel)]; exact ⟨rfl, rfl⟩))
    (fun os started H enc _ => lifted os started H enc)

/-- ████ THE STATEMENT ████ -/
theorem proved : Rows.RecordBackSaid :=
  over
#print axioms proved
end Go.Proofs.Ytakajeimlppmbaa.recordBack
