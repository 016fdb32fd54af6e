/- Contracts of the small functions of letters and of its reference. -/
import Derived.Test.YtkehjhglknalfaaRows
import Derived.Test.YtkehjhglknalfaaAid
import Derived.Test.YtkehjhglknalfaaLetP
namespace Go.Proofs.Ytkehjhglknalfaa
open Go.ChangeShapes Go.WideShapes Go.ChangeAt Go.RowKit Go.IntWalk
set_option linter.unusedVariables false

def lenF (n : Int) : Int := if n < 1 then 0 else n / 3 * 4 + (if n % 3 = 1 then 2 else if n % 3 = 2 then 3 else 0)

set_option maxHeartbeats 400000 in
theorem len_calls (n : Int) (w : World) (h : n ≤ 1152921504606846976) (h0 : 0 ≤ n) :
    Calls Try.prog 14 #[.int .i64 n] w fun e w' => e = .returned (.int .i64 (lenF n)) ∧ w = w' := by
  go_enter Try.func14, Try.ntmps14
  go_wp2
  all_goals go_ret
  all_goals refine ⟨ret_int ?_, rfl⟩
  · unfold lenF; rw [if_pos (by omega)]
  · unfold lenF; rw [if_neg (by omega), if_pos (by simpa using ‹(n % 3 == 1) = true›)]
  · unfold lenF; rw [if_neg (by omega), if_neg (by simpa using ‹(n % 3 == 1) = false›), if_pos (by simpa using ‹(n % 3 == 2) = true›)]
  · unfold lenF; rw [if_neg (by omega), if_neg (by simpa using ‹(n % 3 == 1) = false›), if_neg (by simpa using ‹(n % 3 == 2) = false›)]; simp

theorem len_any (n : Int) (w : World) (hn : -9223372036854775808 ≤ n ∧ n ≤ 9223372036854775807) :
    Calls Try.prog 14 #[.int .i64 n] w fun e w' => (∃ k, e = .returned (.int .i64 k) ∧ (n ≤ 0 → k = 0)) ∧ w = w' := by
  by_cases h0 : n < 1
  · go_enter Try.func14, Try.ntmps14
    go_wp2
    go_ret
    exact ⟨⟨0, rfl, fun _ => rfl⟩, rfl⟩
  · go_enter Try.func14, Try.ntmps14
    go_wp2
    all_goals go_ret
    all_goals exact ⟨⟨_, rfl, fun h => absurd h (by omega)⟩, rfl⟩

theorem abc_get (u : Bool) (S : Nat) (h : S < (⟨(abc u).toArray⟩ : ByteArray).size) : ((((⟨(abc u).toArray⟩ : ByteArray)[S]'h).toNat : Nat) : Int) = ((letB u S).toNat : Int) := by
  have h' : S < (abc u).length := h
  unfold letB; rw [List.getD_eq_getElem?_getD, List.getElem?_eq_getElem h']; rfl

theorem alphabet_calls (u : Bool) (w : World) :
    Calls Try.prog 15 #[.bool u] w fun e w' => e = .returned (.string ⟨(abc u).toArray⟩) ∧ w = w' := by
  cases u
  all_goals
    go_enter Try.func15, Try.ntmps15
    go_wp2
    go_ret
    exact ⟨rfl, rfl⟩

set_option maxHeartbeats 400000 in
theorem letter_calls (n : Int) (u : Bool) (w : World) (h : n < 64) (h0 : 0 ≤ n) :
    Calls Try.prog 17 #[.int .i64 n, .bool u] w fun e w' => e = .returned (.int .u8 (letF u n.toNat)) ∧ w = w' := by
  by_cases h1 : n < 26
  · go_enter Try.func17, Try.ntmps17
    go_wp2
    go_ret
    refine ⟨ret_int ?_, rfl⟩
    rw [letF_lo u _ (by omega)]; omega
  by_cases h2 : n < 52
  · go_enter Try.func17, Try.ntmps17
    go_wp2
    go_ret
    refine ⟨ret_int ?_, rfl⟩
    rw [show n.toNat = 26 + (n - 26).toNat from by omega, letF_mid u _ (by omega)]; omega
  by_cases h3 : n < 62
  · go_enter Try.func17, Try.ntmps17
    go_wp2
    go_ret
    refine ⟨ret_int ?_, rfl⟩
    rw [show n.toNat = 52 + (n - 52).toNat from by omega, letF_dig u _ (by omega)]; omega
  · obtain rfl | rfl : n = 62 ∨ n = 63 := by omega
    all_goals
      cases u
      all_goals
        go_enter Try.func17, Try.ntmps17
        go_wp2
        go_ret
        exact ⟨rfl, rfl⟩
end Go.Proofs.Ytkehjhglknalfaa
