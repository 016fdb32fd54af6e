/- JSON: Map of one member at most, walked. -/
import Derived.Test.YtlfmknebkfnliaaJgE
namespace Go.Proofs.Ytlfmknebkfnliaa
open Go.ChangeShapes Go.WideShapes Go.ChangeAt Go.RowKit Go.IntWalk
set_option linter.unusedVariables false
set_option maxRecDepth 100000

theorem insSmall_calls (A : Option Addr) (n c : Nat) (F : Value) (w : World) (hn : n ≤ 1) : Calls Try.prog 34 #[.slice A n c, .int .i64 0, .int .i64 (n : Int), F] w fun e w' => e = .returned (.tuple #[]) ∧ w' = w := by
  have ht : decide ((1 : Int) < (n : Int)) = false := by simp; omega
  go_enter Try.func34, Try.ntmps34
  go_wp2_with fail
  go_loopw [8] (fun i wr => i = .int .i64 1 ∧ wr = w) (fun _ _ => 0)
  case atStart => exact ⟨rfl, rfl⟩
  case round =>
    obtain ⟨rfl, rfl⟩ := hrel
    go_wp2_with fail
    go_end0
    exact ⟨rfl, rfl⟩
theorem stbSmall_calls (A : Option Addr) (n c : Nat) (F : Value) (w : World) (hn : n ≤ 1) : Calls Try.prog 28 #[.slice A n c, .int .i64 (n : Int), F] w fun e w' => e = .returned (.tuple #[]) ∧ w' = w := by
  have ht : decide ((20 : Int) ≤ (n : Int)) = false := by simp; omega
  have ht2 : decide ((20 : Int) < (n : Int)) = false := by simp; omega
  go_enter Try.func28, Try.ntmps28
  go_wp2_with fail
  go_loopw [7, 8] (fun i j wr => i = .int .i64 0 ∧ j = .int .i64 20 ∧ wr = w) (fun _ _ _ => 0)
  case atStart => exact ⟨rfl, rfl, rfl⟩
  case round =>
    obtain ⟨rfl, rfl, rfl⟩ := hrel
    go_wp2_with fail
    refine (insSmall_calls A n c F _ hn).mono ?_
    rintro e w2 ⟨rfl, rfl⟩
    obtain ⟨w5, hw5⟩ : ∃ x, x = w2 := ⟨_, rfl⟩
    subst hw5
    go_wp2_with fail
    go_loopw [6] (fun i wz => i = .int .i64 20 ∧ wz = w5) (fun _ _ => 0)
    case atStart => exact ⟨rfl, rfl⟩
    case round =>
      obtain ⟨rfl, rfl⟩ := hrel
      go_wp2_with fail
      go_end0
      exact ⟨rfl, rfl⟩
theorem srtSmall_calls (A : Option Addr) (n c : Nat) (F : Value) (w : World) (hn : n ≤ 1) : Calls Try.prog 22 #[.slice A n c, F] w fun e w' => e = .returned (.tuple #[]) ∧ w' = w := by
  go_enter Try.func22, Try.ntmps22
  go_wp2_with fail
  refine (stbSmall_calls A n c F _ hn).mono ?_
  rintro e w2 ⟨rfl, rfl⟩
  go_wp2_with fail
  go_end0
  exact ⟨rfl, rfl⟩
end Go.Proofs.Ytlfmknebkfnliaa
