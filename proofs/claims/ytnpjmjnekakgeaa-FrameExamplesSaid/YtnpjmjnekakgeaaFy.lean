/-
  The examples of chapter 5: what each call of them returns.
-/
import Derived.Test.YtnpjmjnekakgeaaFi
import Derived.Test.YtnpjmjnekakgeaaMz
namespace Go.Proofs.Ytnpjmjnekakgeaa.Fk
open Go Go.RowKit Go.ChangeShapes Go.WideShapes Go.ChangeAt Go.Proofs.Ytnpjmjnekakgeaa.Pk Go.Proofs.Ytnpjmjnekakgeaa.Mem Go.Proofs.Ytnpjmjnekakgeaa.Crc
def kH : ByteArray := ⟨#[0, 0, 0, 1, 0, 0, 0, 0, 0, 2, 0, 1, 3, 2]⟩
def kHAB : ByteArray := ⟨#[0, 0, 0, 1, 0, 0, 0, 0, 0, 2, 0, 1, 3, 2, 97, 98]⟩
def kS : ByteArray := ⟨#[85, 185, 139, 91]⟩
def kHS : ByteArray := ⟨#[0, 0, 0, 1, 0, 0, 0, 0, 0, 2, 0, 1, 3, 2, 85, 185, 139, 91]⟩
def kHSA : ByteArray := ⟨#[0, 0, 0, 1, 0, 0, 0, 0, 0, 2, 0, 1, 3, 2, 85, 185, 139, 91, 97, 98]⟩
def kHSAZ : ByteArray := ⟨#[0, 0, 0, 1, 0, 0, 0, 0, 0, 2, 0, 1, 3, 2, 85, 185, 139, 91, 97, 98, 0, 0, 0, 0, 0, 0, 0, 0, 0, 0, 0, 0, 0, 0, 0, 0, 0, 0, 0, 0, 0, 0, 0, 0, 0, 0, 0, 0, 0, 0, 0, 0, 0, 0, 0, 0, 0, 0, 0, 0, 0, 0, 0, 0, 0, 0, 0, 0, 0]⟩
def kH11 : ByteArray := ⟨#[0, 0, 0, 1, 0, 0, 0, 0, 0, 2, 0]⟩
def kW : ByteArray := ⟨#[0, 0, 0, 1, 0, 0, 0, 0, 0, 2, 0, 1, 3, 2, 85, 185, 139, 91, 97, 98, 0, 0, 0, 0, 0, 0, 0, 0, 0, 0, 0, 0, 0, 0, 0, 0, 0, 0, 0, 0, 0, 0, 0, 0, 0, 0, 0, 0, 0, 0, 0, 0, 0, 0, 0, 0, 0, 0, 0, 0, 0, 0, 0, 0, 0, 0, 0, 0, 0, 0, 0, 0, 1, 0, 0, 0, 0, 0, 2, 0]⟩
def kZ49 : ByteArray := ⟨#[0, 0, 0, 0, 0, 0, 0, 0, 0, 0, 0, 0, 0, 0, 0, 0, 0, 0, 0, 0, 0, 0, 0, 0, 0, 0, 0, 0, 0, 0, 0, 0, 0, 0, 0, 0, 0, 0, 0, 0, 0, 0, 0, 0, 0, 0, 0, 0, 0]⟩
def kZ80 : ByteArray := ⟨#[0, 0, 0, 0, 0, 0, 0, 0, 0, 0, 0, 0, 0, 0, 0, 0, 0, 0, 0, 0, 0, 0, 0, 0, 0, 0, 0, 0, 0, 0, 0, 0, 0, 0, 0, 0, 0, 0, 0, 0, 0, 0, 0, 0, 0, 0, 0, 0, 0, 0, 0, 0, 0, 0, 0, 0, 0, 0, 0, 0, 0, 0, 0, 0, 0, 0, 0, 0, 0, 0, 0, 0, 0, 0, 0, 0, 0, 0, 0, 0]⟩
def kZ45 : ByteArray := ⟨#[0, 0, 0, 0, 0, 0, 0, 0, 0, 0, 0, 0, 0, 0, 0, 0, 0, 0, 0, 0, 0, 0, 0, 0, 0, 0, 0, 0, 0, 0, 0, 0, 0, 0, 0, 0, 0, 0, 0, 0, 0, 0, 0, 0, 0]⟩
def kZ44 : ByteArray := ⟨#[0, 0, 0, 0, 0, 0, 0, 0, 0, 0, 0, 0, 0, 0, 0, 0, 0, 0, 0, 0, 0, 0, 0, 0, 0, 0, 0, 0, 0, 0, 0, 0, 0, 0, 0, 0, 0, 0, 0, 0, 0, 0, 0, 0]⟩
def kW79 : ByteArray := ⟨#[0, 0, 0, 1, 0, 0, 0, 0, 0, 2, 0, 1, 3, 2, 85, 185, 139, 91, 97, 98, 0, 0, 0, 0, 0, 0, 0, 0, 0, 0, 0, 0, 0, 0, 0, 0, 0, 0, 0, 0, 0, 0, 0, 0, 0, 0, 0, 0, 0, 0, 0, 0, 0, 0, 0, 0, 0, 0, 0, 0, 0, 0, 0, 0, 0, 0, 0, 0, 0, 0, 0, 0, 1, 0, 0, 0, 0, 0, 2]⟩
def kW0 : ByteArray := ⟨#[0, 0, 0, 1, 0, 0, 0, 0, 0, 2, 0, 1, 3, 2, 85, 185, 139, 91, 97, 98, 0, 0, 0, 0, 0, 0, 0, 0, 0, 0, 0, 0, 0, 0, 0, 0, 0, 0, 0, 0, 0, 0, 0, 0, 0, 0, 0, 0, 0, 0, 0, 0, 0, 0, 0, 0, 0, 0, 0, 0, 0, 0, 0, 0, 0, 0, 0, 0, 0, 0, 0, 0, 1, 0, 0, 0, 0, 0, 2, 0, 0]⟩
def kW1 : ByteArray := ⟨#[0, 0, 0, 1, 0, 0, 0, 0, 0, 2, 0, 1, 3, 2, 85, 185, 139, 91, 97, 98, 0, 0, 0, 0, 0, 0, 0, 0, 0, 0, 0, 0, 0, 0, 0, 0, 0, 0, 0, 0, 0, 0, 0, 0, 0, 0, 0, 0, 0, 0, 0, 0, 0, 0, 0, 0, 0, 0, 0, 0, 0, 0, 0, 0, 0, 0, 0, 0, 0, 0, 0, 0, 1, 0, 0, 0, 0, 0, 2, 1]⟩
def kW40 : ByteArray := ⟨#[0, 0, 0, 1, 0, 0, 0, 0, 0, 2, 0, 1, 3, 2, 85, 185, 139, 91, 97, 98, 0, 0, 0, 0, 0, 0, 0, 0, 0, 0, 0, 0, 0, 0, 0, 0, 0, 0, 0, 0]⟩
def kW40x : ByteArray := ⟨#[0, 0, 0, 1, 0, 0, 0, 0, 0, 2, 0, 1, 3, 2, 85, 185, 139, 91, 97, 98, 0, 0, 0, 0, 0, 0, 0, 0, 0, 0, 0, 0, 0, 0, 0, 0, 0, 0, 0, 0, 120]⟩
def kW41 : ByteArray := ⟨#[0, 0, 0, 0, 0, 0, 0, 0, 0, 0, 0, 0, 0, 0, 0, 0, 0, 0, 0, 0, 0, 0, 0, 0, 0, 0, 0, 0, 0, 0, 0, 1, 0, 0, 0, 0, 0, 2, 0]⟩
def kWX : ByteArray := ⟨#[0, 0, 0, 1, 0, 0, 0, 0, 0, 2, 0, 1, 3, 2, 85, 185, 139, 91, 97, 98, 0, 0, 0, 0, 0, 0, 0, 0, 0, 0, 0, 0, 0, 0, 0, 0, 0, 0, 0, 0, 120, 0, 0, 0, 0, 0, 0, 0, 0, 0, 0, 0, 0, 0, 0, 0, 0, 0, 0, 0, 0, 0, 0, 0, 0, 0, 0, 0, 0, 0, 0, 0, 1, 0, 0, 0, 0, 0, 2, 0]⟩
def N0 : Nat := 1438223195
theorem add_c {x y z : ByteArray} (h : x ++ y = z) (hs : x.size + y.size ≤ 1000) (w : World) : (Op.stringOp .add x y).run Try.prog w = .ok (.string z) w := by
  rw [run_string_add_sum w _ _ (by omega), h]
theorem cut_h {s z : ByteArray} (m : Nat) (h : m ≤ s.size) (hz : s.extract 0 m = z) (w : World) : (Instr.slice 9 (.string s) none (some (.int .i64 (m : Int))) none).run Try.prog w = .ok (.string z) w := by
  have := run_slice_string_h (P := Try.prog) (w := w) (t := 9) (s := s) Try.underlying9 .i64 (m : Int) (by omega) (by omega)
  rw [← hz]
  simpa using this
theorem cut_l {s z : ByteArray} (m : Nat) (h : m ≤ s.size) (hz : s.extract m s.size = z) (w : World) : (Instr.slice 9 (.string s) (some (.int .i64 (m : Int))) none none).run Try.prog w = .ok (.string z) w := by
  have := run_slice_string_l (P := Try.prog) (w := w) (t := 9) (s := s) Try.underlying9 .i64 (m : Int) (by omega) (by omega)
  rw [← hz]
  simpa using this
theorem cell_at {u wr : World} {cs : Array Value} {T : TypeId} (h : Kept (u.alloc (.cells cs T)) wr) (j : Nat) (v : Value) (hv : cs[j]? = some v) : wr.cell? ⟨u.heap.size, j, none⟩ = some v := by
  rw [Kept.cell h (show u.heap.size < (u.alloc (.cells cs T)).heap.size by simp)]
  have e := (MapKept.heap_alloc u (.cells cs T)).1
  show (match (u.alloc _).heap[u.heap.size]? with | some (.cells c _ _) => c[j]? | _ => none) = _
  rw [e]; exact hv
theorem cell_in {u wr : World} {cs : Array Value} {T : TypeId} {B : Nat} (hB : u.heap.size = B) (h : Kept (u.alloc (.cells cs T)).drew wr) (j : Nat) (v : Value) (hv : cs[j]? = some v) : wr.cell? ⟨B, j, none⟩ = some v := by
  subst hB
  exact cell_at ((Kept.refl _).drew.trans h) j v hv
theorem bytes_drew (n : Nat) (w : World) :
    (convert 36 9 (.slice (some ⟨w.heap.size, 0, none⟩) n n)).run Try.prog (w.alloc (.cells (Array.replicate n (.int .u8 0)) 5)).drew = .ok (.string (Pk.str (List.replicate n 0))) (w.alloc (.cells (Array.replicate n (.int .u8 0)) 5)).drew := by
  have h := (Row.start w n 5).drew.str n n (by simp)
  rw [List.take_of_length_le (by simp)] at h
  exact h
theorem of_c (v : World) : Calls Try.prog 14 #[.slice (some ⟨v.heap.size, 0, none⟩) 14 14] (v.alloc (.cells #[.int .u8 0, .int .u8 0, .int .u8 0, .int .u8 1, .int .u8 0, .int .u8 0, .int .u8 0, .int .u8 0, .int .u8 0, .int .u8 2, .int .u8 0, .int .u8 1, .int .u8 3, .int .u8 2] 5)) fun e w' => e = .returned (.string kH) ∧ Kept v w' := by
  have hr : ∀ j, j < 14 → (v.alloc (.cells #[.int .u8 0, .int .u8 0, .int .u8 0, .int .u8 1, .int .u8 0, .int .u8 0, .int .u8 0, .int .u8 0, .int .u8 0, .int .u8 2, .int .u8 0, .int .u8 1, .int .u8 3, .int .u8 2] 5)).cell? ⟨v.heap.size, j, none⟩ = some (.int .u8 (([0, 0, 0, 1, 0, 0, 0, 0, 0, 2, 0, 1, 3, 2] : List UInt8)[j]!.toNat : Int)) := by
    intro j hj
    have e := (MapKept.heap_alloc v (.cells #[.int .u8 0, .int .u8 0, .int .u8 0, .int .u8 1, .int .u8 0, .int .u8 0, .int .u8 0, .int .u8 0, .int .u8 0, .int .u8 2, .int .u8 0, .int .u8 1, .int .u8 3, .int .u8 2] 5)).1
    show (match (v.alloc _).heap[v.heap.size]? with | some (.cells c _ _) => c[j]? | _ => none) = _
    rw [e]
    show (#[.int .u8 0, .int .u8 0, .int .u8 0, .int .u8 1, .int .u8 0, .int .u8 0, .int .u8 0, .int .u8 0, .int .u8 0, .int .u8 2, .int .u8 0, .int .u8 1, .int .u8 3, .int .u8 2] : Array Value)[j]? = _
    match j, hj with
    | 0, _ => rfl
    | 1, _ => rfl
    | 2, _ => rfl
    | 3, _ => rfl
    | 4, _ => rfl
    | 5, _ => rfl
    | 6, _ => rfl
    | 7, _ => rfl
    | 8, _ => rfl
    | 9, _ => rfl
    | 10, _ => rfl
    | 11, _ => rfl
    | 12, _ => rfl
    | 13, _ => rfl
  have hcv : (convert 36 9 (.slice (some ⟨v.heap.size, 0, none⟩) 14 14)).run Try.prog (v.alloc (.cells #[.int .u8 0, .int .u8 0, .int .u8 0, .int .u8 1, .int .u8 0, .int .u8 0, .int .u8 0, .int .u8 0, .int .u8 0, .int .u8 2, .int .u8 0, .int .u8 1, .int .u8 3, .int .u8 2] 5)) = .ok (.string kH) (v.alloc (.cells #[.int .u8 0, .int .u8 0, .int .u8 0, .int .u8 1, .int .u8 0, .int .u8 0, .int .u8 0, .int .u8 0, .int .u8 0, .int .u8 2, .int .u8 0, .int .u8 1, .int .u8 3, .int .u8 2] 5)) :=
    run_convert_bytes_back (P := Try.prog) _ 36 9 5 ⟨v.heap.size, 0, none⟩ 14 [0, 0, 0, 1, 0, 0, 0, 0, 0, 2, 0, 1, 3, 2] Try.underlying36 Try.underlying5 Try.underlying9 (fun j hj => by
      have e : (⟨v.heap.size, 0, none⟩ : Addr).add j = ⟨v.heap.size, j, none⟩ := by rw [add_plain]; simp
      rw [e, hr j hj]
      match j, hj with
      | 0, _ => rfl
      | 1, _ => rfl
      | 2, _ => rfl
      | 3, _ => rfl
      | 4, _ => rfl
      | 5, _ => rfl
      | 6, _ => rfl
      | 7, _ => rfl
      | 8, _ => rfl
      | 9, _ => rfl
      | 10, _ => rfl
      | 11, _ => rfl
      | 12, _ => rfl
      | 13, _ => rfl)
  have hk := (Kept.refl v).alloc (.cells #[.int .u8 0, .int .u8 0, .int .u8 0, .int .u8 1, .int .u8 0, .int .u8 0, .int .u8 0, .int .u8 0, .int .u8 0, .int .u8 2, .int .u8 0, .int .u8 1, .int .u8 3, .int .u8 2] 5)
  generalize v.alloc (.cells #[.int .u8 0, .int .u8 0, .int .u8 0, .int .u8 1, .int .u8 0, .int .u8 0, .int .u8 0, .int .u8 0, .int .u8 0, .int .u8 2, .int .u8 0, .int .u8 1, .int .u8 3, .int .u8 2] 5) = u at hcv hk
  clear hr
  go_enter Try.func14, Try.ntmps14
  go_wp2
  go_ret
  exact ⟨rfl, hk⟩
theorem sum_c (w : World) : Calls Try.prog 16 #[.string kHAB] w fun e w' => e = .returned (.int .u32 (N0 : Int)) ∧ Kept w w' := by
  have h := sum_k kHAB w (by decide)
  have e : Crc.num (moreB 0 kHAB.data.toList) = (N0 : Int) := by decide +kernel
  rw [e] at h; exact h
theorem fix_c (w : World) : Calls Try.prog 15 #[.int .u64 (N0 : Int), .int .i64 4] w fun e w' => e = .returned (.tuple #[.string kS, .int .i64 0]) ∧ Kept w w' := by
  have h := fixed_ok N0 4 (by unfold U64; decide) (by decide) (by decide) (wd_least (by decide) (by decide) (by decide)) w
  have e : str (be N0 4) = kS := by decide +kernel
  rw [e] at h; exact h
theorem bad_c {s : ByteArray} (h : decE s = 12) (w : World) : Calls Try.prog 12 #[.string s] w fun e w' => e = .returned (.tuple #[.agg #[.int .i64 0, .int .i64 0, .int .i64 0, .int .i64 0, .int .u8 0, .string ⟨#[]⟩], .int .i64 12]) ∧ Kept w w' := by
  have hd := decode_c s w
  rcases decE_or s with ⟨h0, _⟩ | ⟨_, _, h2⟩
  · rw [h] at h0; cases h0
  · rw [h, h2] at hd; exact hd
theorem enc_c (f : Fr) (hk : f.kind < 256) (hd : f.data.size ≤ 1000) {X : ByteArray} {E : Int} (h1 : f.err = E) (h2 : f.enc = X) (w : World) :
    Calls Try.prog 10 #[.agg #[.int .i64 f.boot, .int .i64 f.lsn, .int .i64 f.part, .int .i64 f.parts, .int .u8 f.kind, .string f.data]] w fun e w' => e = .returned (.tuple #[.string X, .int .i64 E]) ∧ Kept w w' := by
  rw [← h1, ← h2]; exact encode_c f hk (Nat.le_trans hd (by decide)) w
def f1 : Fr := ⟨1, 2, 0, 1, 3, ⟨#[97, 98]⟩⟩
def fm : Fr := ⟨4294967295, 281474976710655, 254, 255, 255, kZ44⟩
def kM : ByteArray := fm.enc
theorem g1 : f1.good := (Fr.err_zero _).mp (by decide)
theorem gm : fm.good := (Fr.err_zero _).mp (by decide)
theorem w_is : f1.enc = kW := by decide +kernel
theorem e0 (w : World) : Calls Try.prog 10 #[.agg #[.int .i64 0, .int .i64 1, .int .i64 0, .int .i64 1, .int .u8 0, .string ⟨#[]⟩]] w fun e w' => e = .returned (.tuple #[.string ⟨#[]⟩, .int .i64 2]) ∧ Kept w w' := enc_c ⟨0, 1, 0, 1, 0, ⟨#[]⟩⟩ (by decide) (by decide) (by decide) (by decide +kernel) w
theorem e1 (w : World) : Calls Try.prog 10 #[.agg #[.int .i64 1, .int .i64 0, .int .i64 0, .int .i64 1, .int .u8 0, .string ⟨#[]⟩]] w fun e w' => e = .returned (.tuple #[.string ⟨#[]⟩, .int .i64 2]) ∧ Kept w w' := enc_c ⟨1, 0, 0, 1, 0, ⟨#[]⟩⟩ (by decide) (by decide) (by decide) (by decide +kernel) w
theorem e2 (w : World) : Calls Try.prog 10 #[.agg #[.int .i64 1, .int .i64 1, .int .i64 0, .int .i64 0, .int .u8 0, .string ⟨#[]⟩]] w fun e w' => e = .returned (.tuple #[.string ⟨#[]⟩, .int .i64 2]) ∧ Kept w w' := enc_c ⟨1, 1, 0, 0, 0, ⟨#[]⟩⟩ (by decide) (by decide) (by decide) (by decide +kernel) w
theorem e3 (w : World) : Calls Try.prog 10 #[.agg #[.int .i64 1, .int .i64 1, .int .i64 1, .int .i64 1, .int .u8 0, .string ⟨#[]⟩]] w fun e w' => e = .returned (.tuple #[.string ⟨#[]⟩, .int .i64 2]) ∧ Kept w w' := enc_c ⟨1, 1, 1, 1, 0, ⟨#[]⟩⟩ (by decide) (by decide) (by decide) (by decide +kernel) w
theorem e4 (w : World) : Calls Try.prog 10 #[.agg #[.int .i64 1, .int .i64 1, .int .i64 (-1), .int .i64 1, .int .u8 0, .string ⟨#[]⟩]] w fun e w' => e = .returned (.tuple #[.string ⟨#[]⟩, .int .i64 2]) ∧ Kept w w' := enc_c ⟨1, 1, (-1), 1, 0, ⟨#[]⟩⟩ (by decide) (by decide) (by decide) (by decide +kernel) w
theorem e5 (w : World) : Calls Try.prog 10 #[.agg #[.int .i64 4294967296, .int .i64 1, .int .i64 0, .int .i64 1, .int .u8 0, .string ⟨#[]⟩]] w fun e w' => e = .returned (.tuple #[.string ⟨#[]⟩, .int .i64 2]) ∧ Kept w w' := enc_c ⟨4294967296, 1, 0, 1, 0, ⟨#[]⟩⟩ (by decide) (by decide) (by decide) (by decide +kernel) w
theorem e6 (w : World) : Calls Try.prog 10 #[.agg #[.int .i64 1, .int .i64 281474976710656, .int .i64 0, .int .i64 1, .int .u8 0, .string ⟨#[]⟩]] w fun e w' => e = .returned (.tuple #[.string ⟨#[]⟩, .int .i64 2]) ∧ Kept w w' := enc_c ⟨1, 281474976710656, 0, 1, 0, ⟨#[]⟩⟩ (by decide) (by decide) (by decide) (by decide +kernel) w
theorem e7 (w : World) : Calls Try.prog 10 #[.agg #[.int .i64 1, .int .i64 1, .int .i64 0, .int .i64 256, .int .u8 0, .string ⟨#[]⟩]] w fun e w' => e = .returned (.tuple #[.string ⟨#[]⟩, .int .i64 2]) ∧ Kept w w' := enc_c ⟨1, 1, 0, 256, 0, ⟨#[]⟩⟩ (by decide) (by decide) (by decide) (by decide +kernel) w
theorem el (w : World) : Calls Try.prog 10 #[.agg #[.int .i64 0, .int .i64 0, .int .i64 0, .int .i64 0, .int .u8 0, .string kZ45]] w fun e w' => e = .returned (.tuple #[.string ⟨#[]⟩, .int .i64 5]) ∧ Kept w w' := enc_c ⟨0, 0, 0, 0, 0, kZ45⟩ (by decide) (by decide) (by decide) (by decide +kernel) w
theorem em (w : World) : Calls Try.prog 10 #[.agg #[.int .i64 4294967295, .int .i64 281474976710655, .int .i64 254, .int .i64 255, .int .u8 255, .string kZ44]] w fun e w' => e = .returned (.tuple #[.string kM, .int .i64 0]) ∧ Kept w w' := enc_c fm (by decide) (by decide) ((Fr.err_zero _).mpr gm) rfl w
theorem ew (w : World) : Calls Try.prog 10 #[.agg #[.int .i64 1, .int .i64 2, .int .i64 0, .int .i64 1, .int .u8 3, .string ⟨#[97, 98]⟩]] w fun e w' => e = .returned (.tuple #[.string kW, .int .i64 0]) ∧ Kept w w' := enc_c f1 (by decide) (by decide) ((Fr.err_zero _).mpr g1) w_is w
theorem dw (w : World) : Calls Try.prog 12 #[.string kW] w fun e w' => e = .returned (.tuple #[.agg #[.int .i64 1, .int .i64 2, .int .i64 0, .int .i64 1, .int .u8 3, .string ⟨#[97, 98]⟩], .int .i64 0]) ∧ Kept w w' := by
  have h := decode_c kW w
  rw [← w_is, (decF_enc g1 (by decide)).1, (decF_enc g1 (by decide)).2, w_is] at h
  exact h
theorem dm (w : World) : Calls Try.prog 12 #[.string kM] w fun e w' => e = .returned (.tuple #[.agg #[.int .i64 4294967295, .int .i64 281474976710655, .int .i64 254, .int .i64 255, .int .u8 255, .string kZ44], .int .i64 0]) ∧ Kept w w' := by
  have h := decode_c kM w
  unfold kM at h
  rw [(decF_enc gm (by decide)).1, (decF_enc gm (by decide)).2] at h
  exact h
theorem dZ80 (w : World) : Calls Try.prog 12 #[.string kZ80] w fun e w' => e = .returned (.tuple #[.agg #[.int .i64 0, .int .i64 0, .int .i64 0, .int .i64 0, .int .u8 0, .string ⟨#[]⟩], .int .i64 12]) ∧ Kept w w' := bad_c (s := kZ80) (by decide +kernel) w
theorem dW79 (w : World) : Calls Try.prog 12 #[.string kW79] w fun e w' => e = .returned (.tuple #[.agg #[.int .i64 0, .int .i64 0, .int .i64 0, .int .i64 0, .int .u8 0, .string ⟨#[]⟩], .int .i64 12]) ∧ Kept w w' := bad_c (s := kW79) (by decide +kernel) w
theorem dW0 (w : World) : Calls Try.prog 12 #[.string kW0] w fun e w' => e = .returned (.tuple #[.agg #[.int .i64 0, .int .i64 0, .int .i64 0, .int .i64 0, .int .u8 0, .string ⟨#[]⟩], .int .i64 12]) ∧ Kept w w' := bad_c (s := kW0) (by decide +kernel) w
theorem dW1 (w : World) : Calls Try.prog 12 #[.string kW1] w fun e w' => e = .returned (.tuple #[.agg #[.int .i64 0, .int .i64 0, .int .i64 0, .int .i64 0, .int .u8 0, .string ⟨#[]⟩], .int .i64 12]) ∧ Kept w w' := bad_c (s := kW1) (by decide +kernel) w
theorem dWX (w : World) : Calls Try.prog 12 #[.string kWX] w fun e w' => e = .returned (.tuple #[.agg #[.int .i64 0, .int .i64 0, .int .i64 0, .int .i64 0, .int .u8 0, .string ⟨#[]⟩], .int .i64 12]) ∧ Kept w w' := bad_c (s := kWX) (by decide +kernel) w
theorem dE (w : World) : Calls Try.prog 12 #[.string ⟨#[]⟩] w fun e w' => e = .returned (.tuple #[.agg #[.int .i64 0, .int .i64 0, .int .i64 0, .int .i64 0, .int .u8 0, .string ⟨#[]⟩], .int .i64 12]) ∧ Kept w w' := bad_c (s := ⟨#[]⟩) (by decide +kernel) w
end Go.Proofs.Ytnpjmjnekakgeaa.Fk
