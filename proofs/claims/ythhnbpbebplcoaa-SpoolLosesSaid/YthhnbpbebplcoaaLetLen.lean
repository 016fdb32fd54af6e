/- The contract of letters.Len. -/
import Derived.Test.YthhnbpbebplcoaaAid
import Derived.Test.YthhnbpbebplcoaaLetP
namespace Go.Proofs.Ythhnbpbebplcoaa
open Go.ChangeShapes Go.WideShapes Go.ChangeAt Go.RowKit Go.IntWalk
set_option linter.unusedVariables false

def lenF (n : Int) : Int := if n < 1 then 0 else n / 3 * 4 + (if n % 3 = 1 then 2 else if n % 3 = 2 then 3 else 0)

set_option maxHeartbeats 400000 in
theorem len_calls (n : Int) (w : World) (h : n ≤ 1152921504606846976) (h0 : 0 ≤ n) :
    Calls Try.prog 30 #[.int .i64 n] w fun e w' => e = .returned (.int .i64 (lenF n)) ∧ w = w' := by
  go_enter Try.func30, Try.ntmps30
  go_wp2
  all_goals go_ret
  all_goals refine ⟨ret_int ?_, rfl⟩
  · unfold lenF; rw [if_pos (by omega)]
  · unfold lenF; rw [if_neg (by omega), if_pos (by simpa using ‹(n % 3 == 1) = true›)]
  · unfold lenF; rw [if_neg (by omega), if_neg (by simpa using ‹(n % 3 == 1) = false›), if_pos (by simpa using ‹(n % 3 == 2) = true›)]
  · unfold lenF; rw [if_neg (by omega), if_neg (by simpa using ‹(n % 3 == 1) = false›), if_neg (by simpa using ‹(n % 3 == 2) = false›)]; simp

theorem len_any (n : Int) (w : World) (hn : -9223372036854775808 ≤ n ∧ n ≤ 9223372036854775807) :
    Calls Try.prog 30 #[.int .i64 n] w fun e w' => (∃ k, e = .returned (.int .i64 k) ∧ (n ≤ 0 → k = 0)) ∧ w = w' := by
  by_cases h0 : n < 1
  · go_enter Try.func30, Try.ntmps30
    go_wp2
    go_ret
    exact ⟨⟨0, rfl, fun _ => rfl⟩, rfl⟩
  · go_enter Try.func30, Try.ntmps30
    go_wp2
    all_goals go_ret
    all_goals exact ⟨⟨_, rfl, fun h => absurd h (by omega)⟩, rfl⟩
end Go.Proofs.Ythhnbpbebplcoaa
