/- The walks of the laws on Encode. -/
import Derived.Test.YtkehjhglknalfaaLetC
namespace Go.Proofs.Ytkehjhglknalfaa
open Go.ChangeShapes Go.WideShapes Go.ChangeAt Go.RowKit Go.IntWalk
set_option linter.unusedVariables false

theorem enc_fo : encF false [102, 111] = [90, 109, 56] := by decide

set_option maxHeartbeats 1000000 in
theorem lettersWrites_walk (A : Option Addr) (n c : Nat) (bs : List UInt8) {w : World} (hA : RB w A bs) (hn : Hid (n = bs.length)) (hnc : n ≤ c) :
    Calls Try.prog 3 #[.slice A n c] w fun e w' => e = .returned (.bool true) ∧ Below w.heap.size w w' := by
  have hfo := enc_fo
  have hcv := run_bytes_const
  by_cases hl : n ≤ 16384
  · go_enter Try.func3, Try.ntmps3
    go_wp2_with fail
    refine (encode_calls _ _ _ [102, 111] false _ (rb_const w [102, 111] _ rfl _) rfl (by simp)).mono ?_
    rintro e w1 ⟨rfl, hb1⟩
    go_wp2_with fail
    have b1 := Below.of_alloc hb1
    refine (encode_calls _ _ _ bs false _ (hA.below b1) hn.out (by omega)).mono ?_
    rintro e w2 ⟨rfl, hb2⟩
    have b2 := Below.then_ b1 hb2
    clear hb1 hb2
    go_wp2_with fail
    refine (refenc_calls _ _ _ bs false _ (hA.below b2) hn (by omega)).mono ?_
    rintro e w3 ⟨rfl, hb3⟩
    have b3 := Below.then_ b2 hb3
    clear hb3
    go_wp2_with fail
    refine (encode_calls _ _ _ bs true _ (hA.below b3) hn.out (by omega)).mono ?_
    rintro e w4 ⟨rfl, hb4⟩
    have b4 := Below.then_ b3 hb4
    clear hb4
    go_wp2_with fail
    refine (refenc_calls _ _ _ bs true _ (hA.below b4) hn (by omega)).mono ?_
    rintro e w5 ⟨rfl, hb5⟩
    have b5 := Below.then_ b4 hb5
    clear hb5
    go_wp2
    go_ret
    exact ⟨by simp, b5⟩
  · go_enter Try.func3, Try.ntmps3
    go_wp2_with fail
    refine (encode_calls _ _ _ [102, 111] false _ (rb_const w [102, 111] _ rfl _) rfl (by simp)).mono ?_
    rintro e w1 ⟨rfl, hb1⟩
    have b1 := Below.of_alloc hb1
    go_wp2
    go_ret
    exact ⟨rfl, b1⟩
end Go.Proofs.Ytkehjhglknalfaa
