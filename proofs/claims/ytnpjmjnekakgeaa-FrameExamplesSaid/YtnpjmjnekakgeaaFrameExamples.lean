/-
  PROVED: the statement 'FrameExamplesSaid': for every input the law FrameExamples returns true, and each argument reads afterwards as it read before. No condition.
-/
import Derived.Test.YtnpjmjnekakgeaaFi
import Derived.Test.YtnpjmjnekakgeaaFy
import Derived.Test.YtnpjmjnekakgeaaRows
import Derived.WalkKit
import Derived.Deep.RegionHeld3
import Derived.BigQuiet
import Derived.ProofKit
import Derived.OpenShut
import Derived.ShutString
namespace Go.Proofs.Ytnpjmjnekakgeaa.frameExamples
open Go.ChangeShapes Go.WideShapes Go.ChangeAt Go.RowKit
open Go.Proofs.Ytnpjmjnekakgeaa.Mem Go.Proofs.Ytnpjmjnekakgeaa.Fk Go.Proofs.Ytnpjmjnekakgeaa.Pk Go.Proofs.Ytnpjmjnekakgeaa.Crc
set_option linter.unusedVariables false

theorem own : ownKnob Try.prog.godebug = none := by kernel_rfl
theorem laidOut : laidOutB Try.prog = true := by kernel_rfl

set_option maxHeartbeats 8000000 in
set_option maxRecDepth 100000 in
theorem walk (w : World) : Calls Try.prog 4 #[] w fun e w' => e = .returned (.bool true) ∧ Kept w w' := by
  have aHAB : ∀ w, (Op.stringOp .add kH ⟨#[97, 98]⟩).run Try.prog w = .ok (.string kHAB) w := add_c (by decide +kernel) (by decide)
  have aHS : ∀ w, (Op.stringOp .add kH kS).run Try.prog w = .ok (.string kHS) w := add_c (by decide +kernel) (by decide)
  have aHSA : ∀ w, (Op.stringOp .add kHS ⟨#[97, 98]⟩).run Try.prog w = .ok (.string kHSA) w := add_c (by decide +kernel) (by decide)
  have aHSAZ : ∀ w, (Op.stringOp .add kHSA kZ49).run Try.prog w = .ok (.string kHSAZ) w := add_c (by decide +kernel) (by decide)
  have aW : ∀ w, (Op.stringOp .add kHSAZ kH11).run Try.prog w = .ok (.string kW) w := add_c (by decide +kernel) (by decide)
  have aW0 : ∀ w, (Op.stringOp .add kW ⟨#[0]⟩).run Try.prog w = .ok (.string kW0) w := add_c (by decide +kernel) (by decide)
  have aW1 : ∀ w, (Op.stringOp .add kW79 ⟨#[1]⟩).run Try.prog w = .ok (.string kW1) w := add_c (by decide +kernel) (by decide)
  have aW40 : ∀ w, (Op.stringOp .add kW40 ⟨#[120]⟩).run Try.prog w = .ok (.string kW40x) w := add_c (by decide +kernel) (by decide)
  have aWX : ∀ w, (Op.stringOp .add kW40x kW41).run Try.prog w = .ok (.string kWX) w := add_c (by decide +kernel) (by decide)
  have sH : ∀ w, (Instr.slice 9 (.string kH) none (some (.int .i64 11)) none).run Try.prog w = .ok (.string kH11) w := cut_h 11 (by decide) (by decide +kernel)
  have s79 : ∀ w, (Instr.slice 9 (.string kW) none (some (.int .i64 79)) none).run Try.prog w = .ok (.string kW79) w := cut_h 79 (by decide) (by decide +kernel)
  have s40 : ∀ w, (Instr.slice 9 (.string kW) none (some (.int .i64 40)) none).run Try.prog w = .ok (.string kW40) w := cut_h 40 (by decide) (by decide +kernel)
  have s41 : ∀ w, (Instr.slice 9 (.string kW) (some (.int .i64 41)) none none).run Try.prog w = .ok (.string kW41) w := cut_l 41 (by decide) (by decide +kernel)
  have mk49 : ∀ w : World, (Instr.makeSlice 36 (.int .i64 49) (.int .i64 49)).run Try.prog w = .ok (.slice (some ⟨w.heap.size, 0, none⟩) 49 49) (w.alloc (.cells (Array.replicate 49 (.int .u8 0)) 5)) := make_bytes 49 (by decide)
  have cv49 : ∀ w : World, (convert 36 9 (.slice (some ⟨w.heap.size, 0, none⟩) 49 49)).run Try.prog (w.alloc (.cells (Array.replicate 49 (.int .u8 0)) 5)) = .ok (.string kZ49) (w.alloc (.cells (Array.replicate 49 (.int .u8 0)) 5)) := fun w => by
    rw [show kZ49 = Pk.str (List.replicate 49 0) by decide +kernel]; exact bytes_str 49 w
  have dv49 : ∀ w : World, (convert 36 9 (.slice (some ⟨w.heap.size, 0, none⟩) 49 49)).run Try.prog (w.alloc (.cells (Array.replicate 49 (.int .u8 0)) 5)).drew = .ok (.string kZ49) (w.alloc (.cells (Array.replicate 49 (.int .u8 0)) 5)).drew := fun w => by
    rw [show kZ49 = Pk.str (List.replicate 49 0) by decide +kernel]; exact bytes_drew 49 w
  have mk80 : ∀ w : World, (Instr.makeSlice 36 (.int .i64 80) (.int .i64 80)).run Try.prog w = .ok (.slice (some ⟨w.heap.size, 0, none⟩) 80 80) (w.alloc (.cells (Array.replicate 80 (.int .u8 0)) 5)) := make_bytes 80 (by decide)
  have cv80 : ∀ w : World, (convert 36 9 (.slice (some ⟨w.heap.size, 0, none⟩) 80 80)).run Try.prog (w.alloc (.cells (Array.replicate 80 (.int .u8 0)) 5)) = .ok (.string kZ80) (w.alloc (.cells (Array.replicate 80 (.int .u8 0)) 5)) := fun w => by
    rw [show kZ80 = Pk.str (List.replicate 80 0) by decide +kernel]; exact bytes_str 80 w
  have dv80 : ∀ w : World, (convert 36 9 (.slice (some ⟨w.heap.size, 0, none⟩) 80 80)).run Try.prog (w.alloc (.cells (Array.replicate 80 (.int .u8 0)) 5)).drew = .ok (.string kZ80) (w.alloc (.cells (Array.replicate 80 (.int .u8 0)) 5)).drew := fun w => by
    rw [show kZ80 = Pk.str (List.replicate 80 0) by decide +kernel]; exact bytes_drew 80 w
  have mk45 : ∀ w : World, (Instr.makeSlice 36 (.int .i64 45) (.int .i64 45)).run Try.prog w = .ok (.slice (some ⟨w.heap.size, 0, none⟩) 45 45) (w.alloc (.cells (Array.replicate 45 (.int .u8 0)) 5)) := make_bytes 45 (by decide)
  have cv45 : ∀ w : World, (convert 36 9 (.slice (some ⟨w.heap.size, 0, none⟩) 45 45)).run Try.prog (w.alloc (.cells (Array.replicate 45 (.int .u8 0)) 5)) = .ok (.string kZ45) (w.alloc (.cells (Array.replicate 45 (.int .u8 0)) 5)) := fun w => by
    rw [show kZ45 = Pk.str (List.replicate 45 0) by decide +kernel]; exact bytes_str 45 w
  have dv45 : ∀ w : World, (convert 36 9 (.slice (some ⟨w.heap.size, 0, none⟩) 45 45)).run Try.prog (w.alloc (.cells (Array.replicate 45 (.int .u8 0)) 5)).drew = .ok (.string kZ45) (w.alloc (.cells (Array.replicate 45 (.int .u8 0)) 5)).drew := fun w => by
    rw [show kZ45 = Pk.str (List.replicate 45 0) by decide +kernel]; exact bytes_drew 45 w
  have mk44 : ∀ w : World, (Instr.makeSlice 36 (.int .i64 44) (.int .i64 44)).run Try.prog w = .ok (.slice (some ⟨w.heap.size, 0, none⟩) 44 44) (w.alloc (.cells (Array.replicate 44 (.int .u8 0)) 5)) := make_bytes 44 (by decide)
  have cv44 : ∀ w : World, (convert 36 9 (.slice (some ⟨w.heap.size, 0, none⟩) 44 44)).run Try.prog (w.alloc (.cells (Array.replicate 44 (.int .u8 0)) 5)) = .ok (.string kZ44) (w.alloc (.cells (Array.replicate 44 (.int .u8 0)) 5)) := fun w => by
    rw [show kZ44 = Pk.str (List.replicate 44 0) by decide +kernel]; exact bytes_str 44 w
  have dv44 : ∀ w : World, (convert 36 9 (.slice (some ⟨w.heap.size, 0, none⟩) 44 44)).run Try.prog (w.alloc (.cells (Array.replicate 44 (.int .u8 0)) 5)).drew = .ok (.string kZ44) (w.alloc (.cells (Array.replicate 44 (.int .u8 0)) 5)).drew := fun w => by
    rw [show kZ44 = Pk.str (List.replicate 44 0) by decide +kernel]; exact bytes_drew 44 w
  have wN : IntKind.u64.wrap (N0 : Int) = (N0 : Int) := by decide
  have tz : ((kW.size : Int) != 80) = false := by decide
  have tW : (!kW.toList == kW.toList) = false := by simp
  have hk0 := Kept.alloc (Kept.refl w) (.cells #[.int .i64 1, .int .i64 2, .int .i64 0, .int .i64 1, .int .u8 3, .string ⟨#[97, 98]⟩] 23)
  have hA := Box.start w 23 1 2 0 1 3 ⟨#[97, 98]⟩
  have hof := of_c (w.alloc (.cells #[.int .i64 1, .int .i64 2, .int .i64 0, .int .i64 1, .int .u8 3, .string ⟨#[97, 98]⟩] 23))
  rw [show (w.alloc (.cells #[.int .i64 1, .int .i64 2, .int .i64 0, .int .i64 1, .int .u8 3, .string ⟨#[97, 98]⟩] 23)).heap.size = w.heap.size + 1 by simp] at hof
  go_enter Try.func4, Try.ntmps4
  go_wp2_with (first
    | (go_at_call 14; (with_reducible refine hof.mono ?_); rintro e u1 ⟨rfl, k1⟩)
    | (go_at_call 16; (with_reducible refine (sum_c _).mono ?_); rintro e u2 ⟨rfl, k2⟩)
    | (go_at_call 15; (with_reducible refine (fix_c _).mono ?_); rintro e u3 ⟨rfl, k3⟩))
  go_region
  have k4 := ((((k1.trans k2).trans k3).alloc (.cells (Array.replicate 49 (.int .u8 0)) 5))).drew
  obtain ⟨_, c0, c1, c2, c3, c4, c5⟩ := hA.kept k4
  go_wp2_with (first
    | (go_at_call 10; (with_reducible refine (ew _).mono ?_); rintro e u5 ⟨rfl, k5⟩)
    | (go_at_call 12; (with_reducible refine (dw _).mono ?_); rintro e u6 ⟨rfl, k6⟩; have k7 := (((k4.trans k5).trans k6).alloc (.cells #[.int .i64 1, .int .i64 2, .int .i64 0, .int .i64 1, .int .u8 3, .string ⟨#[97, 98]⟩] 23)); obtain ⟨_, d0, d1, d2, d3, d4, d5⟩ := hA.kept k7; clear k1 k2 k3 c0 c1 c2 c3 c4 c5 hof))
  clear d0 d1 d2 d3 d4 d5
  have ds80 := dv80 (u6.alloc (.cells #[.int .i64 1, .int .i64 2, .int .i64 0, .int .i64 1, .int .u8 3, .string ⟨#[97, 98]⟩] 23))
  rw [show (u6.alloc (.cells #[.int .i64 1, .int .i64 2, .int .i64 0, .int .i64 1, .int .u8 3, .string ⟨#[97, 98]⟩] 23)).heap.size = u6.heap.size + 1 by simp] at ds80
  go_region

  go_wp2_with (fail)
  have hY : ((u6.alloc (.cells #[.int .i64 1, .int .i64 2, .int .i64 0, .int .i64 1, .int .u8 3, .string ⟨#[97, 98]⟩] 23)).alloc (.cells (Array.replicate 80 (.int .u8 0)) 5)).heap.size = u6.heap.size + 2 := by simp
  clear ds80
  go_loopw [92] (fun i wr => ∃ k : Nat, k ≤ 6 ∧ i = .int .i64 k ∧ Kept (((u6.alloc (.cells #[.int .i64 1, .int .i64 2, .int .i64 0, .int .i64 1, .int .u8 3, .string ⟨#[97, 98]⟩] 23)).alloc (.cells (Array.replicate 80 (.int .u8 0)) 5)).alloc (.cells #[.string kZ80, .string kW79, .string kW0, .string kW1, .string ⟨#[]⟩, .string kWX] 9)).drew wr) (fun i _ => 6 - (intOf i).toNat)
  case atStart => exact ⟨0, by omega, rfl, Kept.refl _⟩
  case round =>
    obtain ⟨k, hk6, rfl, hr⟩ := hrel
    have h7 : k = 0 ∨ k = 1 ∨ k = 2 ∨ k = 3 ∨ k = 4 ∨ k = 5 ∨ k = 6 := by omega
    clear hk6
    rcases h7 with rfl | rfl | rfl | rfl | rfl | rfl | rfl
    · have hc := cell_in hY hr 0 _ rfl
      go_wp2_with (go_at_call 12; (with_reducible refine (dZ80 _).mono ?_); rintro e u7 ⟨rfl, k8⟩)
      go_roundw
      case rel => exact ⟨1, by omega, rfl, (hr.trans k8).alloc _⟩
      case measure => simp [intOf]
    · have hc := cell_in hY hr 1 _ rfl
      go_wp2_with (go_at_call 12; (with_reducible refine (dW79 _).mono ?_); rintro e u7 ⟨rfl, k8⟩)
      go_roundw
      case rel => exact ⟨2, by omega, rfl, (hr.trans k8).alloc _⟩
      case measure => simp [intOf]
    · have hc := cell_in hY hr 2 _ rfl
      go_wp2_with (go_at_call 12; (with_reducible refine (dW0 _).mono ?_); rintro e u7 ⟨rfl, k8⟩)
      go_roundw
      case rel => exact ⟨3, by omega, rfl, (hr.trans k8).alloc _⟩
      case measure => simp [intOf]
    · have hc := cell_in hY hr 3 _ rfl
      go_wp2_with (go_at_call 12; (with_reducible refine (dW1 _).mono ?_); rintro e u7 ⟨rfl, k8⟩)
      go_roundw
      case rel => exact ⟨4, by omega, rfl, (hr.trans k8).alloc _⟩
      case measure => simp [intOf]
    · have hc := cell_in hY hr 4 _ rfl
      go_wp2_with (go_at_call 12; (with_reducible refine (dE _).mono ?_); rintro e u7 ⟨rfl, k8⟩)
      go_roundw
      case rel => exact ⟨5, by omega, rfl, (hr.trans k8).alloc _⟩
      case measure => simp [intOf]
    · have hc := cell_in hY hr 5 _ rfl
      go_wp2_with (go_at_call 12; (with_reducible refine (dWX _).mono ?_); rintro e u7 ⟨rfl, k8⟩)
      go_roundw
      case rel => exact ⟨6, by omega, rfl, (hr.trans k8).alloc _⟩
      case measure => simp [intOf]
    · obtain ⟨wo, rfl⟩ : ∃ wo : World, wo = wr := ⟨_, rfl⟩
      have kz : Kept (u6.alloc (.cells #[.int .i64 1, .int .i64 2, .int .i64 0, .int .i64 1, .int .u8 3, .string ⟨#[97, 98]⟩] 23)) wo := ((((Kept.refl _).alloc (.cells (Array.replicate 80 (.int .u8 0)) 5)).alloc (.cells #[.string kZ80, .string kW79, .string kW0, .string kW1, .string ⟨#[]⟩, .string kWX] 9)).drew).trans hr
      clear hr hY
      rw [show ((6 : Nat) : Int) = 6 from rfl]
      go_wp2_with (fail)
      have hL : Kept wo (wo.alloc (.cells #[.int .i64 0, .int .i64 1, .int .i64 0, .int .i64 1, .int .u8 0, .string ⟨#[]⟩, .int .i64 1, .int .i64 0, .int .i64 0, .int .i64 1, .int .u8 0, .string ⟨#[]⟩, .int .i64 1, .int .i64 1, .int .i64 0, .int .i64 0, .int .u8 0, .string ⟨#[]⟩, .int .i64 1, .int .i64 1, .int .i64 1, .int .i64 1, .int .u8 0, .string ⟨#[]⟩, .int .i64 1, .int .i64 1, .int .i64 (-1), .int .i64 1, .int .u8 0, .string ⟨#[]⟩, .int .i64 4294967296, .int .i64 1, .int .i64 0, .int .i64 1, .int .u8 0, .string ⟨#[]⟩, .int .i64 1, .int .i64 281474976710656, .int .i64 0, .int .i64 1, .int .u8 0, .string ⟨#[]⟩, .int .i64 1, .int .i64 1, .int .i64 0, .int .i64 256, .int .u8 0, .string ⟨#[]⟩] 23)) := (Kept.refl wo).alloc _
      go_loopw [15] (fun i wr => ∃ k : Nat, k ≤ 8 ∧ i = .int .i64 k ∧ Kept (wo.alloc (.cells #[.int .i64 0, .int .i64 1, .int .i64 0, .int .i64 1, .int .u8 0, .string ⟨#[]⟩, .int .i64 1, .int .i64 0, .int .i64 0, .int .i64 1, .int .u8 0, .string ⟨#[]⟩, .int .i64 1, .int .i64 1, .int .i64 0, .int .i64 0, .int .u8 0, .string ⟨#[]⟩, .int .i64 1, .int .i64 1, .int .i64 1, .int .i64 1, .int .u8 0, .string ⟨#[]⟩, .int .i64 1, .int .i64 1, .int .i64 (-1), .int .i64 1, .int .u8 0, .string ⟨#[]⟩, .int .i64 4294967296, .int .i64 1, .int .i64 0, .int .i64 1, .int .u8 0, .string ⟨#[]⟩, .int .i64 1, .int .i64 281474976710656, .int .i64 0, .int .i64 1, .int .u8 0, .string ⟨#[]⟩, .int .i64 1, .int .i64 1, .int .i64 0, .int .i64 256, .int .u8 0, .string ⟨#[]⟩] 23)) wr) (fun i _ => 8 - (intOf i).toNat)
      case atStart => exact ⟨0, by omega, rfl, Kept.refl _⟩
      case round =>
        obtain ⟨k, hk8, rfl, hr⟩ := hrel
        have h9 : k = 0 ∨ k = 1 ∨ k = 2 ∨ k = 3 ∨ k = 4 ∨ k = 5 ∨ k = 6 ∨ k = 7 ∨ k = 8 := by omega
        clear hk8
        rcases h9 with rfl | rfl | rfl | rfl | rfl | rfl | rfl | rfl | rfl
        · have x0 := cell_at hr 0 _ rfl
          have x1 := cell_at hr 1 _ rfl
          have x2 := cell_at hr 2 _ rfl
          have x3 := cell_at hr 3 _ rfl
          have x4 := cell_at hr 4 _ rfl
          have x5 := cell_at hr 5 _ rfl
          go_wp2_with (go_at_call 10; (with_reducible refine (e0 _).mono ?_); rintro e u7 ⟨rfl, k8⟩)
          go_roundw
          case rel => exact ⟨1, by omega, rfl, hr.trans k8⟩
          case measure => simp [intOf]
        · have x0 := cell_at hr 6 _ rfl
          have x1 := cell_at hr 7 _ rfl
          have x2 := cell_at hr 8 _ rfl
          have x3 := cell_at hr 9 _ rfl
          have x4 := cell_at hr 10 _ rfl
          have x5 := cell_at hr 11 _ rfl
          go_wp2_with (go_at_call 10; (with_reducible refine (e1 _).mono ?_); rintro e u7 ⟨rfl, k8⟩)
          go_roundw
          case rel => exact ⟨2, by omega, rfl, hr.trans k8⟩
          case measure => simp [intOf]
        · have x0 := cell_at hr 12 _ rfl
          have x1 := cell_at hr 13 _ rfl
          have x2 := cell_at hr 14 _ rfl
          have x3 := cell_at hr 15 _ rfl
          have x4 := cell_at hr 16 _ rfl
          have x5 := cell_at hr 17 _ rfl
          go_wp2_with (go_at_call 10; (with_reducible refine (e2 _).mono ?_); rintro e u7 ⟨rfl, k8⟩)
          go_roundw
          case rel => exact ⟨3, by omega, rfl, hr.trans k8⟩
          case measure => simp [intOf]
        · have x0 := cell_at hr 18 _ rfl
          have x1 := cell_at hr 19 _ rfl
          have x2 := cell_at hr 20 _ rfl
          have x3 := cell_at hr 21 _ rfl
          have x4 := cell_at hr 22 _ rfl
          have x5 := cell_at hr 23 _ rfl
          go_wp2_with (go_at_call 10; (with_reducible refine (e3 _).mono ?_); rintro e u7 ⟨rfl, k8⟩)
          go_roundw
          case rel => exact ⟨4, by omega, rfl, hr.trans k8⟩
          case measure => simp [intOf]
        · have x0 := cell_at hr 24 _ rfl
          have x1 := cell_at hr 25 _ rfl
          have x2 := cell_at hr 26 _ rfl
          have x3 := cell_at hr 27 _ rfl
          have x4 := cell_at hr 28 _ rfl
          have x5 := cell_at hr 29 _ rfl
          go_wp2_with (go_at_call 10; (with_reducible refine (e4 _).mono ?_); rintro e u7 ⟨rfl, k8⟩)
          go_roundw
          case rel => exact ⟨5, by omega, rfl, hr.trans k8⟩
          case measure => simp [intOf]
        · have x0 := cell_at hr 30 _ rfl
          have x1 := cell_at hr 31 _ rfl
          have x2 := cell_at hr 32 _ rfl
          have x3 := cell_at hr 33 _ rfl
          have x4 := cell_at hr 34 _ rfl
          have x5 := cell_at hr 35 _ rfl
          go_wp2_with (go_at_call 10; (with_reducible refine (e5 _).mono ?_); rintro e u7 ⟨rfl, k8⟩)
          go_roundw
          case rel => exact ⟨6, by omega, rfl, hr.trans k8⟩
          case measure => simp [intOf]
        · have x0 := cell_at hr 36 _ rfl
          have x1 := cell_at hr 37 _ rfl
          have x2 := cell_at hr 38 _ rfl
          have x3 := cell_at hr 39 _ rfl
          have x4 := cell_at hr 40 _ rfl
          have x5 := cell_at hr 41 _ rfl
          go_wp2_with (go_at_call 10; (with_reducible refine (e6 _).mono ?_); rintro e u7 ⟨rfl, k8⟩)
          go_roundw
          case rel => exact ⟨7, by omega, rfl, hr.trans k8⟩
          case measure => simp [intOf]
        · have x0 := cell_at hr 42 _ rfl
          have x1 := cell_at hr 43 _ rfl
          have x2 := cell_at hr 44 _ rfl
          have x3 := cell_at hr 45 _ rfl
          have x4 := cell_at hr 46 _ rfl
          have x5 := cell_at hr 47 _ rfl
          go_wp2_with (go_at_call 10; (with_reducible refine (e7 _).mono ?_); rintro e u7 ⟨rfl, k8⟩)
          go_roundw
          case rel => exact ⟨8, by omega, rfl, hr.trans k8⟩
          case measure => simp [intOf]
        · have kw := (kz.trans hL).trans hr
          have hB : (u6.alloc (.cells #[.int .i64 1, .int .i64 2, .int .i64 0, .int .i64 1, .int .u8 3, .string ⟨#[97, 98]⟩] 23)).heap[u6.heap.size]? = some (.cells #[.int .i64 1, .int .i64 2, .int .i64 0, .int .i64 1, .int .u8 3, .string ⟨#[97, 98]⟩] 23 (0, 0)) := heap_alloc_new _ _
          have KW := Lib.hid kw
          have HB := Lib.hid hB
          clear hB kw
          rw [show ((8 : Nat) : Int) = 8 from rfl]
          go_wp2_with (first
            | (go_at_call 10; (with_reducible refine (el _).mono ?_); rintro e v1 ⟨rfl, q1⟩; have hM := Box.start (v1.alloc (.cells (Array.replicate 44 (.int .u8 0)) 5)) 23 4294967295 281474976710655 254 255 255 kZ44; rw [show (v1.alloc (.cells (Array.replicate 44 (.int .u8 0)) 5)).heap.size = v1.heap.size + 1 by simp] at hM; have HM := Lib.hid hM; obtain ⟨_, m0, m1, m2, m3, m4, m5⟩ := hM)
            | (go_at_call 10; (with_reducible refine (em _).mono ?_); rintro e v2 ⟨rfl, q2⟩; clear m0 m1 m2 m3 m4 m5)
            | (go_at_call 12; (with_reducible refine (dm _).mono ?_); rintro e v3 ⟨rfl, q3⟩; have kv := ((((KW.out.alloc (.cells (Array.replicate 45 (.int .u8 0)) 5)).trans q1).alloc (.cells (Array.replicate 44 (.int .u8 0)) 5)).alloc (.cells #[.int .i64 4294967295, .int .i64 281474976710655, .int .i64 254, .int .i64 255, .int .u8 255, .string kZ44] 23)).trans (q2.trans q3); have KV := Lib.hid kv; obtain ⟨⟨r0, r1, r2, r3, r4, r5⟩, fz⟩ := rblock (kv.at HB.out); obtain ⟨_, n0, n1, n2, n3, n4, n5⟩ := HM.out.kept (q2.trans q3); have ne1 : ¬ u6.heap.size = v1.heap.size + 1 := (by have h1 := ((KW.out.alloc (.cells (Array.replicate 45 (.int .u8 0)) 5)).trans q1).size; have h2 : (u6.alloc (.cells #[.int .i64 1, .int .i64 2, .int .i64 0, .int .i64 1, .int .u8 3, .string ⟨#[97, 98]⟩] 23)).heap.size = u6.heap.size + 1 := (by simp); omega); have ne2 : ¬ v1.heap.size + 1 = u6.heap.size := fun h => ne1 h.symm; clear kv))
          go_ret
          have hs : w.heap.size ≤ u6.heap.size := (hk0.trans ((k4.trans k5).trans k6)).size
          have h : Below w.heap.size w v3 := (hk0.trans k7).trans KV.out
          exact ⟨rfl, (((((h.setCell hs _).setCell hs _).setCell hs _).setCell hs _).setCell hs _).setCell hs _⟩

set_option maxRecDepth 100000 in
theorem lifted (os : Os) (started : os.Started) (H : Type) (enc : TypeId × Value → H) :
    ReturnsInHanded {} Try.checked os 4 .any (Rows.frameExamplesSpec.pre6 enc Try.prog Try.f4 Rows.frameExamplesRow.domain false) (Rows.frameExamplesSpec.post enc Try.prog Try.f4 false true false false) := by
  refine returnsInHanded_of_change (C := Try.checked) own started (by kernel_rfl) Try.func4
    (ChangeSpec.witness6 (enc := enc) (C := Try.checked) false ⟨#[], #[], []⟩ 8 (by kernel_rfl) (by kernel_rfl) (by kernel_rfl) (by kernel_rfl)) ?_
  intro W base args ds gs before hval0 hW hcnd _
  have hval : ∀ (j : Nat) t v, Try.f4.params[j]? = some t → args[j]? = some v → Value.okWide Try.prog W .any base t v := hval0
  have hW' := hW
  obtain ⟨p, q, hA0, hV, rfl, hfz, hnd⟩ := hW
  have hA : DataW.TrodAll enc Try.prog W 0 (fun _ => true) true Try.f4.params.toList args.toList ds p := hA0
  rw [Try.params4] at hA hval
  obtain ⟨hnil, rfl, rfl⟩ := trodAll_nil hA
  obtain rfl : args = #[] := by cases args; simp_all
  obtain ⟨rfl, rfl⟩ := trodVars_none hV
  clear hA0 hval0
  simp only [List.append_nil] at hW'
  have hwalk := walk W 
  rw [] at hwalk
  refine hwalk.mono fun e W' ⟨he, hg⟩ => ?_
  subst he
  exact ⟨_, rfl, _, _, _, [], _, [], hW', (trodAll_cons_mk (shut_bool Try.underlying4 _) trodAll_mk0), trodAll_mk0, rfl, Below.frame hg _, fun h => by cases h⟩

theorem over : Rows.frameExamplesRow.holds Try.pinned (OpenSpec.ofChange Rows.frameExamplesSpec) :=
  OpenClaim.holds_of_wide 4 Try.f4 rfl rfl rfl rfl rfl rfl rfl ⟨rfl, rfl, rfl, rfl, rfl⟩ rfl rfl rfl rfl rfl (by kernel_rfl) Try.func4 (by kernel_rfl)
    (of_decide_eq_true (by kernel_rfl)) (by unfold Func.isWrapper; first | (rw [if_pos (by decide +kernel)]; kernel_rfl) | (rw [if_neg (by decide +kernel)]; exact ⟨rfl, rfl⟩))
    (fun os started H enc _ => lifted os started H enc)

/-- ████ THE STATEMENT ████ -/
theorem proved : Rows.FrameExamplesSaid :=
  over
#print axioms proved
end Go.Proofs.Ytnpjmjnekakgeaa.frameExamples
