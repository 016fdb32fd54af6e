/- The contract of the reference's Letter. -/
import Derived.Test.YthhnbpbebplcoaaAid
import Derived.Test.YthhnbpbebplcoaaLetP
namespace Go.Proofs.Ythhnbpbebplcoaa
open Go.ChangeShapes Go.WideShapes Go.ChangeAt Go.RowKit Go.IntWalk
set_option linter.unusedVariables false

set_option maxHeartbeats 400000 in
theorem letter_calls (n : Int) (u : Bool) (w : World) (h : n < 64) (h0 : 0 ≤ n) :
    Calls Try.prog 48 #[.int .i64 n, .bool u] w fun e w' => e = .returned (.int .u8 (letF u n.toNat)) ∧ w = w' := by
  by_cases h1 : n < 26
  · go_enter Try.func48, Try.ntmps48
    go_wp2
    go_ret
    refine ⟨ret_int ?_, rfl⟩
    rw [letF_lo u _ (by omega)]; omega
  by_cases h2 : n < 52
  · go_enter Try.func48, Try.ntmps48
    go_wp2
    go_ret
    refine ⟨ret_int ?_, rfl⟩
    rw [show n.toNat = 26 + (n - 26).toNat from by omega, letF_mid u _ (by omega)]; omega
  by_cases h3 : n < 62
  · go_enter Try.func48, Try.ntmps48
    go_wp2
    go_ret
    refine ⟨ret_int ?_, rfl⟩
    rw [show n.toNat = 52 + (n - 52).toNat from by omega, letF_dig u _ (by omega)]; omega
  · obtain rfl | rfl : n = 62 ∨ n = 63 := by omega
    all_goals
      cases u
      all_goals
        go_enter Try.func48, Try.ntmps48
        go_wp2
        go_ret
        exact ⟨rfl, rfl⟩
end Go.Proofs.Ythhnbpbebplcoaa
