/- Layer 8: the law QuotePuts. -/
import Derived.Test.YtklghjeinempmaaQuH
namespace Go.Proofs.Ytklghjeinempmaa
open Go.ChangeShapes Go.WideShapes Go.ChangeAt Go.RowKit Go.IntWalk
set_option linter.unusedVariables false

theorem PutPost.eq {l : List UInt8} {w w' : World} {e : Ending} (h : PutPost l w e w') : e = .returned (.tuple #[.string ⟨(putF l).toArray⟩, .bool (Lib.validD l)]) ∧ Below w.heap.size w w' := h

set_option maxHeartbeats 1000000 in
theorem quotePuts_walk (s : ByteArray) (hs : s.size ≤ maxLen) {w : World} :
    Calls Try.prog 4 #[.string s] w fun e w' => e = .returned (.bool true) ∧ Below w.heap.size w w' := by
  obtain ⟨l, rfl, hsz⟩ := str_split s
  rw [hsz] at hs
  have V1 : Lib.validD [97, 34] = true := by decide
  have V2 : putF [97, 34] = [34, 97, 92, 34, 34] := by decide
  have HV1 := Lib.hid V1
  have HV2 := Lib.hid V2
  clear V1 V2
  go_enter Try.func4, Try.ntmps4
  go_wp2_with fail
  refine (put_calls [97, 34] _ (by simp)).mono ?_
  intro e w1 hpost
  obtain ⟨rfl, b1⟩ := hpost.eq
  rw [HV1.out, HV2.out]
  clear hpost
  by_cases hlong : 16384 < l.length
  · go_wp2
    go_ret
    exact ⟨rfl, b1⟩
  · go_wp2_with fail
    refine (put_calls l _ (by omega)).mono ?_
    intro e w2 hpost
    obtain ⟨rfl, hb2⟩ := hpost.eq
    clear hpost
    have b2 := b1.then_ hb2
    go_wp2_with fail
    refine (refput_calls l _ (by omega)).mono ?_
    intro e w3 hpost
    obtain ⟨rfl, hb3⟩ := hpost.eq
    clear hpost
    have b3 := b2.then_ hb3
    go_wp2
    go_ret
    exact ⟨ret_bool (by simp), b3⟩
end Go.Proofs.Ytklghjeinempmaa
