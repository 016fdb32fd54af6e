/- Layer 8: the law QuoteValid. -/
import Derived.Test.YtklghjeinempmaaQuV
namespace Go.Proofs.Ytklghjeinempmaa
open Go.ChangeShapes Go.WideShapes Go.ChangeAt Go.RowKit Go.IntWalk
set_option linter.unusedVariables false

set_option maxHeartbeats 1000000 in
theorem quoteValid_walk (s : ByteArray) (hs : s.size ≤ maxLen) {w : World} :
    Calls Try.prog 3 #[.string s] w fun e w' => e = .returned (.bool true) ∧ Below w.heap.size w w' := by
  obtain ⟨l, rfl, hsz⟩ := str_split s
  rw [hsz] at hs
  have V1 : Lib.validD [195, 169] = true := by decide
  have V2 : Lib.validD [255] = false := by decide
  have H1 := valid_calls [195, 169]
  have H2 := valid_calls [255]
  rw [V1] at H1
  rw [V2] at H2
  have H1 := Lib.hid H1
  have H2 := Lib.hid H2
  clear V1 V2
  go_enter Try.func3, Try.ntmps3
  go_wp2_with fail
  refine (H1.out _ (by simp)).mono ?_
  rintro e w1 ⟨rfl, b1⟩
  go_wp2_with fail
  refine (H2.out _ (by simp)).mono ?_
  rintro e w2 ⟨rfl, hb2⟩
  have b2 := b1.then_ hb2
  by_cases hlong : 16384 < l.length
  · go_wp2
    go_ret
    exact ⟨rfl, b2⟩
  · go_wp2_with fail
    refine (valid_calls l _ (by omega)).mono ?_
    rintro e w3 ⟨rfl, hb3⟩
    have b3 := b2.then_ hb3
    go_wp2_with fail
    refine (refvalid_calls l _ (by omega)).mono ?_
    rintro e w4 ⟨rfl, rfl⟩
    go_wp2
    go_ret
    exact ⟨ret_bool (by simp), b3⟩
end Go.Proofs.Ytklghjeinempmaa
