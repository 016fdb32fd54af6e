/- Layer 8: the law QuoteTakes. -/
import Derived.Test.YtklghjeinempmaaQuS
namespace Go.Proofs.Ytklghjeinempmaa
open Go.ChangeShapes Go.WideShapes Go.ChangeAt Go.RowKit Go.IntWalk
set_option linter.unusedVariables false

theorem TakePost.eq {l : List UInt8} {a : Int} {w w' : World} {e : Ending} (h : TakePost l a w e w') :
    e = .returned (.tuple #[.string ⟨(takeF l a).1.toArray⟩, .int .i64 (takeF l a).2.1, .bool (takeF l a).2.2]) ∧ Below w.heap.size w w' := h

set_option maxHeartbeats 1000000 in
theorem quoteTakes_walk (s : ByteArray) (hs : s.size ≤ maxLen) (at_ : Int) (hat : (Lit.int .i64 at_).wf = true) {w : World} :
    Calls Try.prog 5 #[.string s, .int .i64 at_] w fun e w' => e = .returned (.bool true) ∧ Below w.heap.size w w' := by
  obtain ⟨l, rfl, hsz⟩ := str_split s
  rw [hsz] at hs
  have V1 : takeF [34, 97, 34] 0 = ([97], 3, true) := by decide +kernel
  have HV1 := Lib.hid V1
  clear V1
  go_enter Try.func5, Try.ntmps5
  go_wp2_with fail
  refine (take_calls [34, 97, 34] 0 _ (by simp)).mono ?_
  intro e w1 hpost
  obtain ⟨rfl, b1⟩ := hpost.eq
  rw [HV1.out]
  clear hpost
  by_cases hlong : 16384 < l.length
  · go_wp2
    go_ret
    exact ⟨rfl, b1⟩
  · go_wp2_with fail
    refine (take_calls l at_ _ (by omega)).mono ?_
    intro e w2 hpost
    obtain ⟨rfl, hb2⟩ := hpost.eq
    clear hpost
    have b2 := b1.then_ hb2
    go_wp2_with fail
    refine (reftake_calls l at_ _ (by omega)).mono ?_
    intro e w3 hpost
    obtain ⟨rfl, hb3⟩ := hpost.eq
    clear hpost
    have b3 := b2.then_ hb3
    go_wp2
    go_ret
    exact ⟨ret_bool (by simp), b3⟩
end Go.Proofs.Ytklghjeinempmaa
