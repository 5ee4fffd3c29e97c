/-
  run.does: an act with the fuse armed, the crash, the openings that are cut, the opening.
-/
import Derived.Test.YtjbcpfndpfeepaaJu
import Derived.Deep.AppendLies
import Derived.Deep.RegionHeldLaw
namespace Go.Proofs.Ytjbcpfndpfeepaa.Jk
open Go Go.RowKit Go.ChangeShapes Go.WideShapes Go.ChangeAt Go.Proofs.Ytjbcpfndpfeepaa.Mem Go.Proofs.Ytjbcpfndpfeepaa.Pk Go.Proofs.Ytjbcpfndpfeepaa.Fk Go.Proofs.Ytjbcpfndpfeepaa.Dz Go.Proofs.Ytjbcpfndpfeepaa.Fz Go.Proofs.Ytjbcpfndpfeepaa.Rc
open Go.Proofs.Ytjbcpfndpfeepaa.Hk (Hd saves loads o_save o_load hblock)

def actA (X o : Nat) (d : ByteArray) (vL : Value) (K : Int) (keep : Nat) (torn bytes : Int) : As := boxA X #[.int .u8 (o : Int), .string d, vL, .int .i64 K, .int .u64 (keep : Int), .int .i64 torn, .int .i64 bytes] 34
theorem actBlock {w0 w : World} {L : List As} {X o : Nat} {d : ByteArray} {vL : Value} {K : Int} {keep : Nat} {torn bytes : Int} (h : Mem.Own w0 (actA X o d vL K keep torn bytes :: L) w) :
    (w.cell? ⟨X, 0, none⟩ = some (.int .u8 (o : Int)) ∧ w.cell? ⟨X, 1, none⟩ = some (.string d) ∧ w.cell? ⟨X, 2, none⟩ = some vL ∧ w.cell? ⟨X, 3, none⟩ = some (.int .i64 K) ∧ w.cell? ⟨X, 4, none⟩ = some (.int .u64 (keep : Int)) ∧ w.cell? ⟨X, 5, none⟩ = some (.int .i64 torn) ∧ w.cell? ⟨X, 6, none⟩ = some (.int .i64 bytes)) ∧ ∀ i, w.frozen? ⟨X, i, none⟩ = false := by
  have hb := h.boxed 0 rfl
  exact ⟨⟨cell_of_row _ _ _ _ _ _ hb, cell_of_row _ _ _ _ _ _ hb, cell_of_row _ _ _ _ _ _ hb, cell_of_row _ _ _ _ _ _ hb, cell_of_row _ _ _ _ _ _ hb, cell_of_row _ _ _ _ _ _ hb, cell_of_row _ _ _ _ _ _ hb⟩, fun i => frozen_of_row w X i _ _ hb⟩
theorem cell_kept_new {u u2 : World} {d : ByteArray} {t : TypeId} (hk : Kept (u.alloc (.cells #[.string d] t)).drew u2) : ∀ j v, [Value.string d][j]? = some v → u2.cell? ((⟨u.heap.size, 0, none⟩ : Addr).add j) = some v := fun j v hj => by
  have h := cell_one_new u (.string d) t j v hj
  rw [add_plain] at h ⊢
  rw [hk.cell (by show u.heap.size < (u.alloc _).heap.size; simp)]
  exact h
theorem secA_snoc (v : Value) (n : Nat) (x : Nat → ByteArray) (d : ByteArray) : secA v (n + 1) (snoc n x d) = rowA 9 1 v (n + 1) (Rc.strs x n ++ [.string d]) := by
  have e : Rc.strs (snoc n x d) (n + 1) = Rc.strs x n ++ [.string d] := by
    rw [strs_succ]
    have e1 : snoc n x d n = d := if_neg (Nat.lt_irrefl _)
    have e2 : Rc.strs (snoc n x d) n = Rc.strs x n := List.map_congr_left fun i hi => by
      have : i < n := List.mem_range.1 hi
      show Value.string (snoc n x d i) = _
      rw [show snoc n x d i = x i from if_pos this]
    rw [e1, e2]
  unfold secA
  rw [e]
theorem Bnd.more {b q l b' q' l' : Int} {c : Hd} {R : List Fr} (k : Bnd b q l c R) (hb : b ≤ b') (hq : q ≤ q') (hl : l ≤ l') : Bnd b' q' l' c R := ⟨Int.le_trans k.boot hb, Int.le_trans k.seq hq, Int.le_trans k.lsn hl⟩
theorem IsRan.more {w0 : World} {B area : Nat} {b q l b' q' l' : Int} {w : World} (h : IsRan w0 B area b q l w) (hb : b ≤ b') (hq : q ≤ q') (hl : l ≤ l') : IsRan w0 B area b' q' l' w := by
  obtain ⟨F, D, J, s, c, R, A, vS, vR, nS, xS, nR, xR, r⟩ := h
  exact ⟨F, D, J, s, c, R, A, vS, vR, nS, xS, nR, xR, ⟨r.own, r.live, r.sees, r.seer, r.data, r.bnd.more hb hq hl⟩⟩
theorem next_choice {keep : Nat} {torn bytes : Int} (h : Ch.ok ⟨keep, torn, bytes⟩) (z : Nat) : ∃ ch2 : Ch, ch2.cells = #[.int .u64 ((keep : Int) / 2 ^ (z + 1)), .int .i64 (wrap64 (wrap64 (torn - (z : Int)) - 1)), .int .i64 (wrap64 (bytes + 7 * (z : Int)))] ∧ ch2.ok := by
  have hk : keep < 18446744073709551616 := h.keep
  refine ⟨⟨keep / 2 ^ (z + 1), wrap64 (wrap64 (torn - (z : Int)) - 1), wrap64 (bytes + 7 * (z : Int))⟩, ?_, ⟨Nat.lt_of_le_of_lt (Nat.div_le_self _ _) hk, ?_, ?_, ?_, ?_⟩⟩
  · show #[Value.int .u64 ((keep / 2 ^ (z + 1) : Nat) : Int), _, _] = _
    rw [Int.natCast_ediv, Int.natCast_pow]
    rfl
  all_goals (unfold wrap64; show _ ≤ _; dsimp only; omega)
theorem lies {v : Value} {n g H cap : Nat} (h : v.ownBlock = some g ∨ g = H) : (Value.slice (some ⟨g, 0, none⟩) n cap).ownBlock = v.ownBlock ∨ (Value.slice (some ⟨g, 0, none⟩) n cap).ownBlock = some H := by
  rcases h with h | rfl
  · exact .inl h.symm
  · exact .inr rfl
theorem actAt {w0 w : World} {L : List As} (h : Mem.Own w0 L w) (i : Nat) {X o : Nat} {d : ByteArray} {vL : Value} {K : Int} {keep : Nat} {torn bytes : Int} (hi : L[i]? = some (actA X o d vL K keep torn bytes)) :
    (w.cell? ⟨X, 0, none⟩ = some (.int .u8 (o : Int)) ∧ w.cell? ⟨X, 1, none⟩ = some (.string d) ∧ w.cell? ⟨X, 2, none⟩ = some vL ∧ w.cell? ⟨X, 3, none⟩ = some (.int .i64 K) ∧ w.cell? ⟨X, 4, none⟩ = some (.int .u64 (keep : Int)) ∧ w.cell? ⟨X, 5, none⟩ = some (.int .i64 torn) ∧ w.cell? ⟨X, 6, none⟩ = some (.int .i64 bytes)) ∧ ∀ i, w.frozen? ⟨X, i, none⟩ = false := by
  have hb := h.boxed i hi
  exact ⟨⟨cell_of_row _ _ _ _ _ _ hb, cell_of_row _ _ _ _ _ _ hb, cell_of_row _ _ _ _ _ _ hb, cell_of_row _ _ _ _ _ _ hb, cell_of_row _ _ _ _ _ _ hb, cell_of_row _ _ _ _ _ _ hb, cell_of_row _ _ _ _ _ _ hb⟩, fun i => frozen_of_row w X i _ _ hb⟩
set_option maxRecDepth 100000 in
set_option maxHeartbeats 8000000 in
theorem does_c {w0 w : World} {B area : Nat} {b q l : Int} {F D J : Nat} {s : Ds} {c : Hd} {R : List Fr} {A : List As} {vS vR : Value} {nS : Nat} {xS : Nat → ByteArray} {nR : Nat} {xR : Nat → ByteArray} (r : Ran w0 B area b q l F D J s c R A vS vR nS xS nR xR w)
    (ha : 1 ≤ area ∧ area ≤ 32000) (hb : b < 250) (hq : q < 281474976600000) (hl : l < 281474976600000) (o : Nat) (ho : o ≤ 255) (d : ByteArray) (hd : d.size ≤ maxLen) {aL : Option Addr} {m cL : Nat} {xL : Nat → ByteArray} (sL : Sees w0 A (.slice aL m cL) m xL) (hm : m ≤ 40) (hxL : ∀ i, i < m → (xL i).size ≤ maxLen)
    (K : Int) (keep : Nat) (torn bytes : Int) (hch : Ch.ok ⟨keep, torn, bytes⟩) (k : Nat) (hk : k ≤ 255) (aA : Option Addr) (nA cA : Nat) (hA : ∀ i, i < nA → ∃ g f y, aA = some ⟨g, f, none⟩ ∧ y ≤ 255 ∧ g < w0.heap.size ∧ w0.cell? ⟨g, f + i, none⟩ = some (.int .u8 ((y : Nat) : Int))) :
    Calls Try.prog 10 #[.pointer (some ⟨B, 0, none⟩), .agg #[.int .u8 (o : Int), .string d, .slice aL m cL, .int .i64 K, .int .u64 (keep : Int), .int .i64 torn, .int .i64 bytes], .int .u8 (k : Int), .slice aA nA cA] w fun e w' => e = .returned (.bool true) ∧ IsRan w0 B area (b + 5) (q + 6) (l + 41) w' := by
  obtain ⟨X, hX⟩ : ∃ X, X = w.heap.size := ⟨_, rfl⟩
  have h0 : Mem.Own w0 (actA w.heap.size o d (.slice aL m cL) K keep torn bytes :: runA B F D (.pointer (some ⟨J, 0, none⟩)) area vS vR c.boot :: jA J D (jw area c R) :: dk F D s :: A) (w.alloc (.cells #[.int .u8 (o : Int), .string d, .slice aL m cL, .int .i64 K, .int .u64 (keep : Int), .int .i64 torn, .int .i64 bytes] 34)) := r.own.box _ _
  have hset : Mem.Own w0 (actA w.heap.size o d (.slice none 0 0) K keep torn bytes :: runA B F D (.pointer (some ⟨J, 0, none⟩)) area vS vR c.boot :: jA J D (jw area c R) :: dk F D s :: A) (w.alloc (.cells #[.int .u8 (o : Int), .string d, .slice none 0 0, .int .i64 K, .int .u64 (keep : Int), .int .i64 torn, .int .i64 bytes] 34)) := r.own.box _ _
  have H0 := Lib.hid (And.intro h0 hset)
  have HR := Lib.hid r
  obtain ⟨aL2, m2, cL2, xL2, hvL, s2, hm2, hx2⟩ : ∃ aL2 m2 cL2 xL2, (.slice aL2 m2 cL2 : Value) = (if o % 2 = 0 then .slice none 0 0 else .slice aL m cL) ∧ Sees w0 A (.slice aL2 m2 cL2) m2 xL2 ∧ m2 ≤ 40 ∧ ∀ i, i < m2 → (xL2 i).size ≤ maxLen := by
    by_cases e : o % 2 = 0
    · exact ⟨none, 0, 0, fun _ => ByteArray.empty, by rw [if_pos e], Sees.nil, by omega, fun i hi => absurd hi (by omega)⟩
    · exact ⟨aL, m, cL, xL, by rw [if_neg e], sL, hm, hxL⟩
  have HV := Lib.hid hvL
  have HA := Lib.hid (And.intro hA hch)
  obtain ⟨KK, hKK, hKK2⟩ : ∃ KK : Nat, (k : Int) % 12 = (KK : Int) ∧ KK < 12 := ⟨k % 12, by omega, by omega⟩
  have harm : ∀ W, Mem.Own w0 (actA X o d (.slice aL2 m2 cL2) K keep torn bytes :: runA B F D (.pointer (some ⟨J, 0, none⟩)) area vS vR c.boot :: jA J D (jw area c R) :: dk F D s :: A) W → Calls Try.prog 16 #[.pointer (some ⟨F, 0, none⟩), .int .i64 (KK : Int)] W fun e w' => e = .returned (.int .i64 0) ∧ Mem.Own w0 (actA X o d (.slice aL2 m2 cL2) K keep torn bytes :: runA B F D (.pointer (some ⟨J, 0, none⟩)) area vS vR c.boot :: jA J D (jw area c R) :: dk F D (armed s KK) :: A) w' := fun W h => o_arm h 3 rfl r.live.calm.fu KK (by omega)
  have hcom : ∀ W, Mem.Own w0 (actA X o d (.slice aL2 m2 cL2) K keep torn bytes :: runA B F D (.pointer (some ⟨J, 0, none⟩)) area vS vR c.boot :: jA J D (jw area c R) :: dk F D (armed s KK) :: A) W → Calls Try.prog 19 #[.pointer (some ⟨J, 0, none⟩), .slice aL2 m2 cL2] W fun e w' => ∃ E j' s', e = .returned (.int .i64 E) ∧ After area c R b q l m2 xL2 0 (fun _ => ByteArray.empty) E j' s' ∧ Mem.Own w0 (actA X o d (.slice aL2 m2 cL2) K keep torn bytes :: runA B F D (.pointer (some ⟨J, 0, none⟩)) area vS vR c.boot :: jA J D j' :: dk F D s' :: A) w' := fun W h => o_com h ha.2 r.live r.bnd (by omega) (by omega) (by omega) s2 hm2 hx2 _ hKK2
  have happ : ∀ Q W, Mem.Own w0 (actA X o d (.slice aL2 m2 cL2) K keep torn bytes :: runA B F D (.pointer (some ⟨J, 0, none⟩)) area vS vR c.boot :: jA J D (jw area c R) :: dk F D (armed s KK) :: (Q ++ A)) W → Calls Try.prog 17 #[.pointer (some ⟨J, 0, none⟩), .string d] W fun e w' => ∃ E j' s', e = .returned (.int .i64 E) ∧ After area c R b q l nS xS (nR + 1) (snoc nR xR d) E j' s' ∧ Mem.Own w0 (actA X o d (.slice aL2 m2 cL2) K keep torn bytes :: runA B F D (.pointer (some ⟨J, 0, none⟩)) area vS vR c.boot :: jA J D j' :: dk F D s' :: (Q ++ A)) w' := fun Q W h => o_app h ha.2 r.live r.bnd (by omega) (by omega) (by omega) r.data d hd hKK2
  have hlen := r.live.small
  have hdat := r.data
  obtain ⟨aoS, cpS, eS, _⟩ := id r.sees
  obtain ⟨aoR, cpR, eR, _⟩ := id r.seer
  subst eS eR
  have hnS : nS ≤ 32000 := by have := hdat.cn; have := hdat.most; omega
  have hnR : nR ≤ 32000 := by have := hdat.cr; omega
  have hcop : ∀ W, Mem.Own w0 (actA X o d (.slice aL2 m2 cL2) K keep torn bytes :: runA B F D (.pointer (some ⟨J, 0, none⟩)) area (.slice aoS nS cpS) (.slice aoR nR cpR) c.boot :: jA J D (jw area c R) :: dk F D (armed s KK) :: A) W → Calls Try.prog 28 #[.slice aoR nR cpR] W fun e w' => ∃ v', e = .returned v' ∧ Mem.Own w0 (secA v' nR xR :: actA X o d (.slice aL2 m2 cL2) K keep torn bytes :: runA B F D (.pointer (some ⟨J, 0, none⟩)) area (.slice aoS nS cpS) (.slice aoR nR cpR) c.boot :: jA J D (jw area c R) :: dk F D (armed s KK) :: A) w' ∧ Kept W w' := fun W h => by
    obtain ⟨a1, c1, e1, h0, s1⟩ := r.seer
    cases e1
    exact (copys_c _ nR _ xR (by omega) W (s1 [_, _, _, _] W h) h0).mono fun e w' ⟨v', he, hrow, hk⟩ => ⟨v', he, (h.push (b := secA _ _ _) hk ⟨ownsRow_mono hrow (Nat.zero_le _), fun g hg => .inr ⟨ownsRow_base hrow hg, (hrow.lt g hg).2⟩⟩).front, hk⟩
  have HSS := Lib.hid r.sees
  have HDB := Lib.hid (And.intro r.data r.bnd)
  have HSR := Lib.hid r.seer
  have HC := Lib.hid (And.intro harm (And.intro hcom (And.intro happ (And.intro hcop s2))))
  clear hvL hA sL hxL hch hx2 s2 harm hcom happ hcop hdat hlen h0 hset r
  go_enter Try.func10, Try.ntmps10
  go_upto_if 21 with fail
  go_cut [5, 8] from 18 to 22 (fun v5 v8 wx => v5 = .pointer (some ⟨X, 0, none⟩) ∧ v8 = .bool false ∧ Mem.Own w0 (actA X o d (.slice aL2 m2 cL2) K keep torn bytes :: runA B F D (.pointer (some ⟨J, 0, none⟩)) area (.slice aoS nS cpS) (.slice aoR nR cpR) c.boot :: jA J D (jw area c R) :: dk F D s :: A) wx)
  case first =>
    rcases (by omega : (o : Int) % 2 = 0 ∨ (o : Int) % 2 = 1) with e | e
    · go_wp2_with fail
      go_meet
      exact ⟨by rw [hX], rfl, by rw [hX, HV.out, if_pos (by omega)]; exact H0.out.2⟩
    · go_wp2_with fail
      go_meet
      exact ⟨by rw [hX], rfl, by rw [hX, HV.out, if_neg (by omega)]; exact H0.out.1⟩
  case rest =>
    obtain ⟨rfl, rfl, h1⟩ := hcut
    clear H0 HV hX
    have ⟨⟨_, _, _, _, _, _, _⟩, _⟩ := runBlock h1 1 rfl
    have ha1 := HC.out.1 _ h1
    have hlk : ∀ Y W, Mem.Own w0 (actA X o d (.slice aL2 m2 cL2) K keep torn bytes :: runA B F D (.pointer (some ⟨J, 0, none⟩)) area (.slice aoS nS cpS) (.slice aoR nR cpR) c.boot :: Y) W → (W.cell? ⟨B, 2, none⟩ = some (.pointer (some ⟨J, 0, none⟩)) ∧ W.cell? ⟨X, 1, none⟩ = some (.string d) ∧ W.cell? ⟨X, 2, none⟩ = some (.slice aL2 m2 cL2)) := fun Y W h => by
      obtain ⟨⟨_, c1, c2, _⟩, _⟩ := actBlock h
      obtain ⟨⟨_, _, c3, _⟩, _⟩ := runBlock h 1 rfl
      exact ⟨c3, c1, c2⟩
    have HK := Lib.hid hlk
    have k0 := Lib.hid h1
    clear h1 hlk
    go_upto_if 37 with (go_at_call 16; (with_reducible refine ha1.mono ?_); rintro e u1 ⟨rfl, k1'⟩; have ⟨⟨_, _, _, _, _, _, _⟩, _⟩ := actBlock k1'; have k1 := Lib.hid k1'; clear k1')
    have ⟨⟨_, _, _, _, _, _, _⟩, _⟩ := runBlock k1.out 1 rfl
    go_cut [9, 10, 11] from 18 to 64 (fun v9 v10 v11 wx => ∃ a9 n9 c9 x9 a10 n10 c10 x10 E j' s' Q, v9 = .slice a9 n9 c9 ∧ v10 = .slice a10 n10 c10 ∧ v11 = .int .i64 E ∧ Sees w0 (Q ++ A) (.slice a9 n9 c9) n9 x9 ∧ Sees w0 (Q ++ A) (.slice a10 n10 c10) n10 x10 ∧ n9 ≤ 40000 ∧ n10 ≤ 40000 ∧ After area c R b q l n9 x9 n10 x10 E j' s' ∧ Mem.Own w0 (actA X o d (.slice aL2 m2 cL2) K keep torn bytes :: runA B F D (.pointer (some ⟨J, 0, none⟩)) area (.slice aoS nS cpS) (.slice aoR nR cpR) c.boot :: jA J D j' :: dk F D s' :: (Q ++ A)) wx)
    case first =>
      rcases (by omega : (o : Int) % 2 = 0 ∨ (o : Int) % 2 = 1) with e | e
      · go_upto_region 9 with fail
        go_cut [10] from 18 to 50 (fun v10 wx => ∃ a10 c10, v10 = .slice a10 (nR + 1) c10 ∧ Mem.Own w0 (secA (.slice a10 (nR + 1) c10) (nR + 1) (snoc nR xR d) :: actA X o d (.slice aL2 m2 cL2) K keep torn bytes :: runA B F D (.pointer (some ⟨J, 0, none⟩)) area (.slice aoS nS cpS) (.slice aoR nR cpR) c.boot :: jA J D (jw area c R) :: dk F D (armed s KK) :: A) wx)
        case first =>
          have ⟨⟨_, _, _, _, _, _, _⟩, _⟩ := runBlock k1.out 1 rfl
          have ⟨⟨_, _, _, _, _, _, _⟩, _⟩ := actBlock k1.out
          obtain ⟨i0, hi, hz0, hz1, hz2⟩ := info_parts string_info'
          have hcA := Lib.hid (HC.out.2.2.2.1 _ k1.out.drew)
          have hcB := Lib.hid (HC.out.2.2.2.1 _ (k1.out.later ((Kept.refl u1).alloc (.cells #[.string d] 9))).drew)
          have HSa : (∀ Z Y W, Mem.Own w0 (Z :: actA X o d (.slice aL2 m2 cL2) K keep torn bytes :: runA B F D (.pointer (some ⟨J, 0, none⟩)) area (.slice aoS nS cpS) (.slice aoR nR cpR) c.boot :: Y) W → (W.cell? ⟨B, 5, none⟩ = some (.slice aoR nR cpR) ∧ W.cell? ⟨X, 1, none⟩ = some (.string d))) := fun Z Y W h => ⟨(runBlock h 2 rfl).1.2.2.2.2.2.1, (actAt h 1 rfl).1.2.1⟩
          have HS := Lib.hid HSa
          clear HSa
          have HS0 : ∀ W, Mem.Own w0 (actA X o d (.slice aL2 m2 cL2) K keep torn bytes :: runA B F D (.pointer (some ⟨J, 0, none⟩)) area (.slice aoS nS cpS) (.slice aoR nR cpR) c.boot :: jA J D (jw area c R) :: dk F D (armed s KK) :: A) W → (W.cell? ⟨B, 5, none⟩ = some (.slice aoR nR cpR) ∧ W.cell? ⟨X, 1, none⟩ = some (.string d)) := fun W h => ⟨(runBlock h 1 rfl).1.2.2.2.2.2.1, (actAt h 0 rfl).1.2.1⟩
          have S1 := HS0 _ k1.out
          have S2 := HS0 _ k1.out.drew
          have S3 := HS0 _ (k1.out.later ((Kept.refl u1).alloc (.cells #[.string d] 9))).drew
          clear HS0
          go_region_held_law (fun W => (W.cell? ⟨B, 5, none⟩ = some (.slice aoR nR cpR) ∧ W.cell? ⟨X, 1, none⟩ = some (.string d)))
            (first | with_reducible assumption | exact HS.out _ _ _ (k2.out.later ((Kept.refl _).alloc _)))
            (first
            | (go_simp; go_at_call 28; (with_reducible refine hcA.out.mono ?_); rintro e u2 ⟨v', rfl, k2', _⟩; have S4 := HS.out _ _ _ k2'; have k2 := Lib.hid k2'; clear k2')
            | (go_simp; go_at_call 28; (with_reducible refine hcB.out.mono ?_); rintro e u2 ⟨v', rfl, k2', hk2'⟩; have S4 := HS.out _ _ _ k2'; have k2 := Lib.hid k2'; have hk2 := Lib.hid hk2'; clear k2' hk2')
            | (refine step_append_lies _ (by rfl) _ _ 29 (by rfl) 0 9 i0 (.string ByteArray.empty) 1 16 Try.underlying29 hi hz0 hz1 hz2 rfl (by decide) _ _ _ (by rfl) ((Own.row k2.out 0 rfl).alloc _) ⟨u2.heap.size, 0, none⟩ 1 1 [.string d] (by rfl) rfl (cell_one_new _ _ _) (by intro x hx; simp at hx; subst hx; rfl) (by decide) (by unfold maxLen; omega) (by omega) (Nat.zero_le _) _ rfl ?_; intro g2 cp2 w1 hown1 hgrow hloc hlt; have kz' := k2.out.appended 0 rfl ((Kept.refl _).alloc _) hown1 hgrow (lies hloc); have S9 := HS.out _ _ _ kz'; have kz := Lib.hid kz'; clear hown1 hgrow hloc hlt kz')
            | (refine step_append_lies _ (by rfl) _ _ 29 (by rfl) 0 9 i0 (.string ByteArray.empty) 1 16 Try.underlying29 hi hz0 hz1 hz2 rfl (by decide) _ _ _ (by rfl) (Own.row k2.out 0 rfl) ⟨u1.heap.size, 0, none⟩ 1 1 [.string d] (by rfl) rfl (cell_kept_new hk2.out) (by intro x hx; simp at hx; subst hx; rfl) (by decide) (by unfold maxLen; omega) (by omega) (Nat.zero_le _) _ rfl ?_; intro g2 cp2 w1 hown1 hgrow hloc hlt; have kz' := k2.out.appended 0 rfl (Kept.refl _) hown1 hgrow (lies hloc); have S9 := HS.out _ _ _ kz'; have kz := Lib.hid kz'; clear hown1 hgrow hloc hlt kz'))
          all_goals
            (try simp only [List.getElem_toArray, List.getElem_cons_succ, List.getElem_cons_zero])
            go_wp2_with fail
            go_meet
            exact ⟨_, _, rfl, by rw [secA_snoc]; exact kz.out⟩
        case rest =>
          obtain ⟨a10, c10, rfl, h2⟩ := hcut
          have k2' := perm_row h2
          have hp := HK.out _ _ k2'
          have sR2 := Lib.hid (Sees.row (L := [_, _, _, _]) k2')
          have ha2 := Lib.hid (HC.out.2.2.1 [_] _ (show Mem.Own w0 (_ :: _ :: _ :: _ :: ([_] ++ A)) _ from k2'.drew))
          have S1 := HK.out _ _ k2'
          have S2 := HK.out _ _ k2'.drew
          clear h2 k2'
          go_upto_region 10 with fail
          go_region_held3 (fun W => (W.cell? ⟨B, 2, none⟩ = some (.pointer (some ⟨J, 0, none⟩)) ∧ W.cell? ⟨X, 1, none⟩ = some (.string d) ∧ W.cell? ⟨X, 2, none⟩ = some (.slice aL2 m2 cL2)))
            (first | with_reducible assumption)
            (first
              | (go_at_call 17; (with_reducible refine ha2.out.mono ?_); rintro e u3 ⟨E, j', s', rfl, af', k3'⟩; have k3 := Lib.hid (And.intro af' k3'); have S3 := HK.out _ _ k3'; clear af' k3'))
          all_goals
            go_wp2_with fail
            go_meet
            exact ⟨_, _, _, _, _, _, _, _, _, _, _, [_], rfl, rfl, rfl, HSS.out.more [_], sR2.out, by omega, by omega, k3.out.1, k3.out.2⟩
      · have hb2 := Lib.hid (HC.out.2.1 _ k1.out.drew)
        go_upto_region 11 with fail
        have S1 := HK.out _ _ k1.out
        have S2 := HK.out _ _ k1.out.drew
        go_region_held3 (fun W => (W.cell? ⟨B, 2, none⟩ = some (.pointer (some ⟨J, 0, none⟩)) ∧ W.cell? ⟨X, 1, none⟩ = some (.string d) ∧ W.cell? ⟨X, 2, none⟩ = some (.slice aL2 m2 cL2)))
          (first | with_reducible assumption)
          (first
            | (go_at_call 19; (with_reducible refine hb2.out.mono ?_); rintro e u3 ⟨E, j', s', rfl, af', k3'⟩; have k3 := Lib.hid (And.intro af' k3'); have S3 := HK.out _ _ k3'; clear af' k3'))
        all_goals
          go_wp2_with fail
          go_meet
          exact ⟨_, _, _, _, _, _, _, _, _, _, _, [], rfl, rfl, rfl, HC.out.2.2.2.2, Sees.nil, by omega, by omega, k3.out.1, k3.out.2⟩
    case rest =>
      obtain ⟨a9, n9, c9, x9, a10, n10, c10, x10, E, j', s', Q, rfl, rfl, rfl, s9, s10, hn9, hn10, af, h3⟩ := hcut
      clear k0 k1 ha1 HK
      have H9 := Lib.hid (And.intro s9 s10)
      clear s9 s10
      have ⟨⟨_, _, _, _, _, _, _⟩, fzB⟩ := runBlock h3 1 rfl
      cases af with
      | refused hE hd l' =>
        have hbl : Calls Try.prog 18 #[.pointer (some ⟨F, 0, none⟩)] wc fun e w' => e = .returned (.bool false) ∧ Mem.Own w0 (actA X o d (.slice aL2 m2 cL2) K keep torn bytes :: runA B F D (.pointer (some ⟨J, 0, none⟩)) area (.slice aoS nS cpS) (.slice aoR nR cpR) c.boot :: jA J D (jw area c R) :: dk F D s' :: (Q ++ A)) w' := by
          rw [← hd]; exact o_blown h3 3 rfl
        have HB := Lib.hid l'
        have hre : ∀ W, Mem.Own w0 (actA X o d (.slice aL2 m2 cL2) K keep torn bytes :: runA B F D (.pointer (some ⟨J, 0, none⟩)) area (.slice aoS nS cpS) (.slice aoR nR cpR) c.boot :: jA J D (jw area c R) :: dk F D s' :: (Q ++ A)) W → Calls Try.prog 22 #[.pointer (some ⟨F, 0, none⟩)] W fun e w' => e = .returned (.tuple #[]) ∧ Mem.Own w0 (actA X o d (.slice aL2 m2 cL2) K keep torn bytes :: runA B F D (.pointer (some ⟨J, 0, none⟩)) area (.slice aoS nS cpS) (.slice aoR nR cpR) c.boot :: jA J D (jw area c R) :: dk F D { s' with fu := .idle } :: (Q ++ A)) w' := fun W h => o_reset h 3 rfl
        have HR := Lib.hid hre
        have k3 := Lib.hid h3
        clear h3 hd l' hre
        rcases hE with rfl | rfl
        all_goals
          go_wp2_with (first
            | (go_at_call 18; (with_reducible refine hbl.mono ?_); rintro e u4 ⟨rfl, k4'⟩; have ⟨⟨_, _, _, _, _, _, _⟩, _⟩ := runBlock k4' 1 rfl; have k4 := Lib.hid k4'; clear k4')
            | (go_at_call 22; (with_reducible refine (HR.out _ k4.out).mono ?_); rintro e u5 ⟨rfl, k5'⟩; have k5 := Lib.hid k5'; clear k5'))
          go_ret
          exact ⟨rfl, F, D, J, _, c, R, Q ++ A, _, _, nS, xS, nR, xR, ⟨k5.out.tail, HB.out, HSS.out.more Q, HSR.out.more Q, HDB.out.1, HDB.out.2.more (by omega) (by omega) (by omega)⟩⟩
      | done hd l' dd hb' kk =>
        rename_i c' R'
        have hbl : Calls Try.prog 18 #[.pointer (some ⟨F, 0, none⟩)] wc fun e w' => e = .returned (.bool false) ∧ Mem.Own w0 (actA X o d (.slice aL2 m2 cL2) K keep torn bytes :: runA B F D (.pointer (some ⟨J, 0, none⟩)) area (.slice aoS nS cpS) (.slice aoR nR cpR) c.boot :: jA J D (jw area c' R') :: dk F D s' :: (Q ++ A)) w' := by
          rw [← hd]; exact o_blown h3 3 rfl
        have HB := Lib.hid (And.intro l' (And.intro dd (And.intro hb' kk)))
        have hre : ∀ W, Mem.Own w0 (actA X o d (.slice aL2 m2 cL2) K keep torn bytes :: runA B F D (.pointer (some ⟨J, 0, none⟩)) area (.slice aoS nS cpS) (.slice aoR nR cpR) c.boot :: jA J D (jw area c' R') :: dk F D s' :: (Q ++ A)) W → Calls Try.prog 22 #[.pointer (some ⟨F, 0, none⟩)] W fun e w' => e = .returned (.tuple #[]) ∧ Mem.Own w0 (actA X o d (.slice aL2 m2 cL2) K keep torn bytes :: runA B F D (.pointer (some ⟨J, 0, none⟩)) area (.slice aoS nS cpS) (.slice aoR nR cpR) c.boot :: jA J D (jw area c' R') :: dk F D { s' with fu := .idle } :: (Q ++ A)) w' := fun W h => o_reset h 3 rfl
        have hco : ∀ W, Mem.Own w0 (actA X o d (.slice aL2 m2 cL2) K keep torn bytes :: runA B F D (.pointer (some ⟨J, 0, none⟩)) area (.slice aoS nS cpS) (.slice aoR nR cpR) c.boot :: jA J D (jw area c' R') :: dk F D { s' with fu := .idle } :: (Q ++ A)) W → Calls Try.prog 28 #[.slice a9 n9 c9] W fun e w' => ∃ v', e = .returned v' ∧ Mem.Own w0 (secA v' n9 x9 :: actA X o d (.slice aL2 m2 cL2) K keep torn bytes :: runA B F D (.pointer (some ⟨J, 0, none⟩)) area (.slice aoS nS cpS) (.slice aoR nR cpR) c.boot :: jA J D (jw area c' R') :: dk F D { s' with fu := .idle } :: (Q ++ A)) w' := fun W h => o_copys (M := [_, _, _, _]) h H9.out.1 (by omega)
        have HR := Lib.hid (And.intro hre hco)
        have k3 := Lib.hid h3
        clear h3 hd l' hre hco dd hb' kk
        go_wp2_with (first
          | (go_at_call 18; (with_reducible refine hbl.mono ?_); rintro e u4 ⟨rfl, k4'⟩; have ⟨⟨_, _, _, _, _, _, _⟩, _⟩ := runBlock k4' 1 rfl; have k4 := Lib.hid k4'; clear k4')
          | (go_at_call 22; (with_reducible refine (HR.out.1 _ k4.out).mono ?_); rintro e u5 ⟨rfl, k5'⟩; have ⟨⟨_, _, _, _, _, _, _⟩, _⟩ := runBlock k5' 1 rfl; have k5 := Lib.hid k5'; clear k5')
          | (go_at_call 28; (with_reducible refine (HR.out.2 _ k5.out).mono ?_); rintro e u6 ⟨v6, rfl, k6'⟩; obtain ⟨a6, d6, rfl⟩ := own_slice k6' 0 rfl; have ⟨⟨_, _, _, _, y4, y5, _⟩, fz6⟩ := runBlock k6' 2 rfl; have fz64 := fz6 4; have fz65 := fz6 5; have k6 := Lib.hid k6'; clear k6' fz6))
        go_ret
        have k7 : Mem.Own w0 (secA (.slice a6 n9 d6) n9 x9 :: actA X o d (.slice aL2 m2 cL2) K keep torn bytes :: runA B F D (.pointer (some ⟨J, 0, none⟩)) area (.slice a6 n9 d6) (.slice a10 n10 c10) c.boot :: jA J D (jw area c' R') :: dk F D { s' with fu := .idle } :: (Q ++ A)) _ := (k6.out.boxset 2 rfl 4 (.slice a6 n9 d6)).boxset 2 rfl 5 (.slice a10 n10 c10)
        have k8 := perm_row k7
        refine ⟨rfl, F, D, J, _, c', R', secA (.slice a6 n9 d6) n9 x9 :: (Q ++ A), _, _, n9, x9, n10, x10, ⟨?_, HB.out.1, Sees.row (L := [_, _, _, _]) k8, H9.out.2.more [_], HB.out.2.1, HB.out.2.2.2.more (by omega) (by omega) (by omega)⟩⟩
        rw [HB.out.2.2.1]
        exact k8.tail
      | cut hd hp hn hok dd hb' kk hl' =>
        rename_i c' R'
        have hbl : Calls Try.prog 18 #[.pointer (some ⟨F, 0, none⟩)] wc fun e w' => e = .returned (.bool true) ∧ Mem.Own w0 (actA X o d (.slice aL2 m2 cL2) K keep torn bytes :: runA B F D (.pointer (some ⟨J, 0, none⟩)) area (.slice aoS nS cpS) (.slice aoR nR cpR) c.boot :: jA J D j' :: dk F D s' :: (Q ++ A)) w' := by
          have := o_blown h3 3 rfl
          rw [hd] at this
          exact this
        have hcr : ∀ W, Mem.Own w0 (actA X o d (.slice aL2 m2 cL2) K keep torn bytes :: runA B F D (.pointer (some ⟨J, 0, none⟩)) area (.slice aoS nS cpS) (.slice aoR nR cpR) c.boot :: jA J D j' :: dk F D s' :: (Q ++ A)) W → Calls Try.prog 29 #[.pointer (some ⟨D, 0, none⟩), .agg #[.int .u64 (keep : Int), .int .i64 torn, .int .i64 bytes]] W fun e w' => e = .returned (.tuple #[]) ∧ Mem.Own w0 (actA X o d (.slice aL2 m2 cL2) K keep torn bytes :: runA B F D (.pointer (some ⟨J, 0, none⟩)) area (.slice aoS nS cpS) (.slice aoR nR cpR) c.boot :: jA J D j' :: dk F D (s'.settled (Ch.left ⟨keep, torn, bytes⟩)) :: (Q ++ A)) w' := fun W h => o_crash h 3 rfl HA.out.2
        have hre : ∀ (t : Ds × (Nat → Nat)) W, Mem.Own w0 (actA X o d (.slice aL2 m2 cL2) K keep torn bytes :: runA B F D (.pointer (some ⟨J, 0, none⟩)) area (.slice aoS nS cpS) (.slice aoR nR cpR) c.boot :: jA J D j' :: dk F D (Ds.settled t.1 t.2) :: (Q ++ A)) W → Calls Try.prog 22 #[.pointer (some ⟨F, 0, none⟩)] W fun e w' => e = .returned (.tuple #[]) ∧ Mem.Own w0 (actA X o d (.slice aL2 m2 cL2) K keep torn bytes :: runA B F D (.pointer (some ⟨J, 0, none⟩)) area (.slice aoS nS cpS) (.slice aoR nR cpR) c.boot :: jA J D j' :: dk F D (crashed t.1 t.2) :: (Q ++ A)) w' := fun t W h => o_reset h 3 rfl
        have h0r := after_crash HDB.out.2 HDB.out.1 dd hb' kk hl' (Ch.left_le ⟨keep, torn, bytes⟩)
        have HRS := Lib.hid h0r
        have HR := Lib.hid (And.intro hcr hre)
        have k3 := Lib.hid h3
        clear h3 hd hp hn hok dd hb' kk hl' hcr hre h0r
        have hlk : ∀ Y W, Mem.Own w0 (actA X o d (.slice aL2 m2 cL2) K keep torn bytes :: runA B F D (.pointer (some ⟨J, 0, none⟩)) area (.slice aoS nS cpS) (.slice aoR nR cpR) c.boot :: Y) W → (W.cell? ⟨B, 1, none⟩ = some (.pointer (some ⟨D, 0, none⟩)) ∧ W.cell? ⟨X, 4, none⟩ = some (.int .u64 (keep : Int)) ∧ W.cell? ⟨X, 5, none⟩ = some (.int .i64 torn) ∧ W.cell? ⟨X, 6, none⟩ = some (.int .i64 bytes)) := fun Y W h => by
          obtain ⟨⟨_, _, _, _, c4, c5, c6⟩, _⟩ := actAt h 0 rfl
          obtain ⟨⟨_, c1, _⟩, _⟩ := runBlock h 1 rfl
          exact ⟨c1, c4, c5, c6⟩
        have HK := Lib.hid hlk
        clear hlk
        go_upto_region 19 with (go_at_call 18; (with_reducible refine hbl.mono ?_); rintro e u4 ⟨rfl, k4'⟩; have k4 := Lib.hid k4'; clear k4')
        have S1 := HK.out _ _ k4.out
        have S2 := HK.out _ _ k4.out.drew
        have hcr4 := Lib.hid (HR.out.1 _ k4.out.drew)
        go_region_held3 (fun W => (W.cell? ⟨B, 1, none⟩ = some (.pointer (some ⟨D, 0, none⟩)) ∧ W.cell? ⟨X, 4, none⟩ = some (.int .u64 (keep : Int)) ∧ W.cell? ⟨X, 5, none⟩ = some (.int .i64 torn) ∧ W.cell? ⟨X, 6, none⟩ = some (.int .i64 bytes)))
          (first | with_reducible assumption)
          (first
            | (go_at_call 29; (with_reducible refine hcr4.out.mono ?_); rintro e u5 ⟨rfl, k5'⟩; have S3 := HK.out _ _ k5'; have k5 := Lib.hid k5'; clear k5'))
        have ⟨⟨_, _, _, _, _, _, _⟩, _⟩ := runBlock k5.out 1 rfl
        have hre5 := Lib.hid (HR.out.2 (s', Ch.left ⟨keep, torn, bytes⟩) _ k5.out)
        go_wp2_with (go_at_call 22; (with_reducible refine hre5.out.mono ?_); rintro e u6 ⟨rfl, k6'⟩; have k6 := Lib.hid k6'; clear k6')
        go_loopw [12, 13, 14, 15, 16, 17] (fun v12 _ _ _ _ _ wr => ∃ (z : Nat) (s2 : Ds) (c2 : Hd) (R2 : List Fr), z ≤ nA ∧ z ≤ 4 ∧ v12 = .int .i64 (z : Int) ∧ Mem.Own w0 (actA X o d (.slice aL2 m2 cL2) K keep torn bytes :: runA B F D (.pointer (some ⟨J, 0, none⟩)) area (.slice aoS nS cpS) (.slice aoR nR cpR) c.boot :: jA J D j' :: dk F D s2 :: (Q ++ A)) wr ∧ Rest area c.boot (b + (z : Int)) (q + 1 + (z : Int)) (l + 41) nS xS nR xR n9 x9 n10 x10 s2 c2 R2) (fun v12 _ _ _ _ _ _ => 4 - (intOf v12).toNat)
        case atStart =>
          obtain ⟨c2, R2, hr⟩ := HRS.out
          exact ⟨0, _, c2, R2, by omega, by omega, rfl, k6.out, by simpa using hr⟩
        case round =>
          clear S1 S2 S3 hcr4 hre5 hbl k6 k5 k4 k3 HRS
          obtain ⟨z, s2, c2, R2, hz1, hz2, rfl, hp, hr⟩ := hrel
          by_cases hlt : z < nA ∧ z < 4
          · obtain ⟨hlt1, hlt2⟩ := hlt
            obtain ⟨g, f, y, rfl, hy, hg, hcy⟩ := HA.out.1 z hlt1
            obtain ⟨YY, hYY, hYY2⟩ : ∃ YY : Nat, (IntKind.i64.wrap (y : Int)).tmod 2 = (YY : Int) ∧ YY < 2 := ⟨y % 2, by
              have hw : IntKind.i64.wrap (y : Int) = (y : Int) := by rw [IntKind.wrap_i64]; omega
              rw [hw, Int.tmod_eq_emod_of_nonneg (by omega)]; omega, by omega⟩
            have hS24 : ∀ W, Mem.Own w0 (actA X o d (.slice aL2 m2 cL2) K keep torn bytes :: runA B F D (.pointer (some ⟨J, 0, none⟩)) area (.slice aoS nS cpS) (.slice aoR nR cpR) c.boot :: jA J D j' :: dk F D s2 :: (Q ++ A)) W → (W.cell? ⟨B, 0, none⟩ = some (.pointer (some ⟨F, 0, none⟩)) ∧ W.cell? ⟨g, f + z, none⟩ = some (.int .u8 (y : Int))) := fun W h => ⟨(runBlock h 1 rfl).1.1, (h.kept.cell hg).trans hcy⟩
            have S1 := hS24 _ hp
            have S2 := hS24 _ hp.drew
            have harm2 : Calls Try.prog 16 #[.pointer (some ⟨F, 0, none⟩), .int .i64 ((IntKind.i64.wrap (y : Int)).tmod 2)] wr.drew fun e w' => e = .returned (.int .i64 0) ∧ Mem.Own w0 (actA X o d (.slice aL2 m2 cL2) K keep torn bytes :: runA B F D (.pointer (some ⟨J, 0, none⟩)) area (.slice aoS nS cpS) (.slice aoR nR cpR) c.boot :: jA J D j' :: dk F D (armed s2 YY) :: (Q ++ A)) w' := by
              rw [hYY]; exact o_arm hp.drew 3 rfl hr.lain.calm.fu YY (by omega)
            have hS24b : ∀ W, Mem.Own w0 (actA X o d (.slice aL2 m2 cL2) K keep torn bytes :: runA B F D (.pointer (some ⟨J, 0, none⟩)) area (.slice aoS nS cpS) (.slice aoR nR cpR) c.boot :: jA J D j' :: dk F D (armed s2 YY) :: (Q ++ A)) W → (W.cell? ⟨B, 0, none⟩ = some (.pointer (some ⟨F, 0, none⟩)) ∧ W.cell? ⟨g, f + z, none⟩ = some (.int .u8 (y : Int))) := fun W h => ⟨(runBlock h 1 rfl).1.1, (h.kept.cell hg).trans hcy⟩
            have hS25 : ∀ Y W, Mem.Own w0 (actA X o d (.slice aL2 m2 cL2) K keep torn bytes :: runA B F D (.pointer (some ⟨J, 0, none⟩)) area (.slice aoS nS cpS) (.slice aoR nR cpR) c.boot :: Y) W → (W.cell? ⟨B, 1, none⟩ = some (.pointer (some ⟨D, 0, none⟩)) ∧ W.cell? ⟨B, 3, none⟩ = some (.int .i64 (area : Int))) := fun Y W h => ⟨(runBlock h 1 rfl).1.2.1, (runBlock h 1 rfl).1.2.2.2.1⟩
            have hopn : ∀ W, Mem.Own w0 (actA X o d (.slice aL2 m2 cL2) K keep torn bytes :: runA B F D (.pointer (some ⟨J, 0, none⟩)) area (.slice aoS nS cpS) (.slice aoR nR cpR) c.boot :: jA J D j' :: dk F D (armed s2 YY) :: (Q ++ A)) W → Calls Try.prog 23 #[.pointer (some ⟨D, 0, none⟩), .int .i64 (area : Int)] W fun e w' => e = .returned (.tuple #[.pointer none, .slice none 0 0, .slice none 0 0, .int .i64 10]) ∧ ∃ s3, Mem.Own w0 (actA X o d (.slice aL2 m2 cL2) K keep torn bytes :: runA B F D (.pointer (some ⟨J, 0, none⟩)) area (.slice aoS nS cpS) (.slice aoR nR cpR) c.boot :: jA J D j' :: dk F D s3 :: (Q ++ A)) w' ∧ ∀ f : Nat → Nat, (∀ i, f i ≤ 80) → ∃ c', Rest area c.boot (b + (z : Int) + 1) (q + 1 + (z : Int) + 1) (l + 41) nS xS nR xR n9 x9 n10 x10 (crashed s3 f) c' R2 := fun W h => hr.cut ha (by omega) (by omega) hYY2 h
            have HX := Lib.hid (And.intro harm2 (And.intro hS24b (And.intro hS25 hopn)))
            have kp := Lib.hid hp
            clear hS24 hYY harm2 hS24b hS25 hopn hp hcy hr
            go_upto_region 24 with fail
            go_region_held3 (fun W => (W.cell? ⟨B, 0, none⟩ = some (.pointer (some ⟨F, 0, none⟩)) ∧ W.cell? ⟨g, f + z, none⟩ = some (.int .u8 (y : Int))))
              (first | with_reducible assumption)
              (first
                | (go_at_call 16; (with_reducible refine HX.out.1.mono ?_); rintro e u1 ⟨rfl, k1'⟩; have S3 := HX.out.2.1 _ k1'; have k1 := Lib.hid k1'; clear k1'))
            go_upto_region 25 with fail
            have T1 := HX.out.2.2.1 _ _ k1.out
            have T2 := HX.out.2.2.1 _ _ k1.out.drew
            have ho2 := Lib.hid (HX.out.2.2.2 _ k1.out.drew)
            clear S1 S2 S3
            go_region_held3 (fun W => (W.cell? ⟨B, 1, none⟩ = some (.pointer (some ⟨D, 0, none⟩)) ∧ W.cell? ⟨B, 3, none⟩ = some (.int .i64 (area : Int))))
              (first | with_reducible assumption)
              (first
                | (go_at_call 23; (with_reducible refine ho2.out.mono ?_); rintro e u2 ⟨rfl, s3, k2', hf'⟩; have T3 := HX.out.2.2.1 _ _ k2'; have k2 := Lib.hid k2'; have HF := Lib.hid hf'; clear k2' hf'))
            have ⟨⟨_, _, _, _, _, _, _⟩, _⟩ := actAt k2.out 0 rfl
            go_upto_region 31 with fail
            have hbx : Mem.Own w0 (boxA u2.heap.size #[.int .u64 ((keep : Int) / 2 ^ (z + 1)), .int .i64 (wrap64 (wrap64 (torn - (z : Int)) - 1)), .int .i64 (wrap64 (bytes + 7 * (z : Int)))] 32 :: actA X o d (.slice aL2 m2 cL2) K keep torn bytes :: runA B F D (.pointer (some ⟨J, 0, none⟩)) area (.slice aoS nS cpS) (.slice aoR nR cpR) c.boot :: jA J D j' :: dk F D s3 :: (Q ++ A)) (u2.alloc (.cells #[.int .u64 ((keep : Int) / 2 ^ (z + 1)), .int .i64 (wrap64 (wrap64 (torn - (z : Int)) - 1)), .int .i64 (wrap64 (bytes + 7 * (z : Int)))] 32)) := k2.out.box _ _
            have hS31 : ∀ Y W, Mem.Own w0 (boxA u2.heap.size #[.int .u64 ((keep : Int) / 2 ^ (z + 1)), .int .i64 (wrap64 (wrap64 (torn - (z : Int)) - 1)), .int .i64 (wrap64 (bytes + 7 * (z : Int)))] 32 :: actA X o d (.slice aL2 m2 cL2) K keep torn bytes :: runA B F D (.pointer (some ⟨J, 0, none⟩)) area (.slice aoS nS cpS) (.slice aoR nR cpR) c.boot :: Y) W → (W.cell? ⟨B, 1, none⟩ = some (.pointer (some ⟨D, 0, none⟩)) ∧ W.cell? ⟨u2.heap.size, 0, none⟩ = some (.int .u64 ((keep : Int) / 2 ^ (z + 1))) ∧ W.cell? ⟨u2.heap.size, 1, none⟩ = some (.int .i64 (wrap64 (wrap64 (torn - (z : Int)) - 1))) ∧ W.cell? ⟨u2.heap.size, 2, none⟩ = some (.int .i64 (wrap64 (bytes + 7 * (z : Int))))) := fun Y W h => by
              have hb := h.boxed 0 rfl
              exact ⟨(runBlock h 2 rfl).1.2.1, cell_of_row _ _ _ _ _ _ hb, cell_of_row _ _ _ _ _ _ hb, cell_of_row _ _ _ _ _ _ hb⟩
            have S1 := hS31 _ _ hbx
            have S2 := hS31 _ _ hbx.drew
            obtain ⟨ch2, hch2, hok2⟩ : ∃ ch2 : Ch, ch2.cells = #[.int .u64 ((keep : Int) / 2 ^ (z + 1)), .int .i64 (wrap64 (wrap64 (torn - (z : Int)) - 1)), .int .i64 (wrap64 (bytes + 7 * (z : Int)))] ∧ ch2.ok := next_choice HA.out.2 z
            have hcr2 : Calls Try.prog 29 #[.pointer (some ⟨D, 0, none⟩), .agg #[.int .u64 ((keep : Int) / 2 ^ (z + 1)), .int .i64 (wrap64 (wrap64 (torn - (z : Int)) - 1)), .int .i64 (wrap64 (bytes + 7 * (z : Int)))]] (u2.alloc (.cells #[.int .u64 ((keep : Int) / 2 ^ (z + 1)), .int .i64 (wrap64 (wrap64 (torn - (z : Int)) - 1)), .int .i64 (wrap64 (bytes + 7 * (z : Int)))] 32)).drew fun e w' => e = .returned (.tuple #[]) ∧ Mem.Own w0 (boxA u2.heap.size #[.int .u64 ((keep : Int) / 2 ^ (z + 1)), .int .i64 (wrap64 (wrap64 (torn - (z : Int)) - 1)), .int .i64 (wrap64 (bytes + 7 * (z : Int)))] 32 :: actA X o d (.slice aL2 m2 cL2) K keep torn bytes :: runA B F D (.pointer (some ⟨J, 0, none⟩)) area (.slice aoS nS cpS) (.slice aoR nR cpR) c.boot :: jA J D j' :: dk F D (s3.settled ch2.left) :: (Q ++ A)) w' := by
              rw [← hch2]
              rw [← hch2] at hbx
              exact o_crash hbx.drew 4 rfl hok2
            have HY := Lib.hid (And.intro hcr2 (And.intro hS31 hbx))
            clear hcr2 hS31 hbx hch2 hok2 T1 T2 T3
            go_region_held3 (fun W => (W.cell? ⟨B, 1, none⟩ = some (.pointer (some ⟨D, 0, none⟩)) ∧ W.cell? ⟨u2.heap.size, 0, none⟩ = some (.int .u64 ((keep : Int) / 2 ^ (z + 1))) ∧ W.cell? ⟨u2.heap.size, 1, none⟩ = some (.int .i64 (wrap64 (wrap64 (torn - (z : Int)) - 1))) ∧ W.cell? ⟨u2.heap.size, 2, none⟩ = some (.int .i64 (wrap64 (bytes + 7 * (z : Int))))))
              (first | with_reducible assumption)
              (first
                | (go_at_call 29; (with_reducible refine HY.out.1.mono ?_); rintro e u3 ⟨rfl, k3'⟩; have S3 := HY.out.2.1 _ _ k3'; have k3 := Lib.hid k3'; clear k3'))
            have ⟨⟨_, _, _, _, _, _, _⟩, _⟩ := runBlock k3.out 2 rfl
            have hrs : Calls Try.prog 22 #[.pointer (some ⟨F, 0, none⟩)] u3 fun e w' => e = .returned (.tuple #[]) ∧ Mem.Own w0 (boxA u2.heap.size #[.int .u64 ((keep : Int) / 2 ^ (z + 1)), .int .i64 (wrap64 (wrap64 (torn - (z : Int)) - 1)), .int .i64 (wrap64 (bytes + 7 * (z : Int)))] 32 :: actA X o d (.slice aL2 m2 cL2) K keep torn bytes :: runA B F D (.pointer (some ⟨J, 0, none⟩)) area (.slice aoS nS cpS) (.slice aoR nR cpR) c.boot :: jA J D j' :: dk F D (crashed s3 ch2.left) :: (Q ++ A)) w' := o_reset k3.out 4 rfl
            have HZ := Lib.hid hrs
            clear hrs S1 S2 S3
            go_wp2_with (go_at_call 22; (with_reducible refine HZ.out.mono ?_); rintro e u4 ⟨rfl, k4'⟩; have k4 := Lib.hid k4'; clear k4')
            go_roundw
            case rel =>
              obtain ⟨c3, hr3⟩ := HF.out ch2.left (Ch.left_le ch2)
              refine ⟨z + 1, _, c3, R2, by omega, by omega, by go_num, k4.out.tail, ?_⟩
              rw [show b + ((z + 1 : Nat) : Int) = b + (z : Int) + 1 by omega, show q + 1 + ((z + 1 : Nat) : Int) = q + 1 + (z : Int) + 1 by omega]
              exact hr3
            case measure => simp [intOf]; omega
          · have hop : Calls Try.prog 11 #[.pointer (some ⟨B, 0, none⟩), .slice a9 n9 c9, .slice a10 n10 c10] wr fun e w' => e = .returned (.bool true) ∧ IsRan w0 B area (b + (z : Int) + 1) (q + 1 + (z : Int) + 1) (l + 41) w' := hr.opens ha (by omega) (by omega) hp (HSS.out.more Q) (HSR.out.more Q) H9.out.1 H9.out.2 ⟨by omega, by omega, by omega, by omega⟩
            have HO := Lib.hid hop
            clear hop hr hp
            rcases (by omega : ¬ z < nA ∨ (z < nA ∧ ¬ z < 4)) with e1 | ⟨e1, e2⟩
            all_goals
              go_wp2_with (go_at_call 11; (with_reducible refine HO.out.mono ?_); rintro e u4 ⟨rfl, k4'⟩; have k4 := Lib.hid k4'; clear k4')
              go_ret
              exact ⟨rfl, k4.out.more (by omega) (by omega) (by omega)⟩
end Go.Proofs.Ytjbcpfndpfeepaa.Jk
