/- Users' names. -/
import Derived.Test.YtmfefeemkhncfaaDoorIdS
import Derived.Test.YtmfefeemkhncfaaDoorIdQ
namespace Go.Proofs.YtmfefeemkhncfaaDoor
open Go.ChangeShapes Go.WideShapes Go.ChangeAt Go.RowKit Go.IntWalk
set_option linter.unusedVariables false

theorem usr_ascii : ∀ b ∈ ([46, 95, 61, 45, 47, 43] : List UInt8), b.toNat < 128 := by decide
theorem AtPost.eq {ok : Bool} {server : List UInt8} {w w' w0 : World} {e : Ending} (h : AtPost ok server w e w') : e = .returned (.tuple #[.string ⟨(pickS ok server).toArray⟩, .bool ok]) ∧ Below w.heap.size w w' := h

set_option maxHeartbeats 1000000 in
theorem nUser_calls (l : List UInt8) (w : World) (hm : Max w) (hl : l.length ≤ 1000000) :
    Calls Tryd.prog 57 #[.string ⟨l.toArray⟩] w (AtPost (nUserF l) (l.drop (colonF l + 1)) w) := by
  go_enter Tryd.func57, Tryd.ntmps57
  go_wp2_with fail
  refine (among_make [46, 95, 61, 45, 47, 43] _).mono ?_
  rintro e w1 ⟨rfl, b1, hc1⟩
  go_wp2_with fail
  refine (at_calls l 64 _ _ _ (hm.below b1) hl (fun r h => among_lt h) (tells_among [46, 95, 61, 45, 47, 43] _ _ usr_ascii (by simp) hc1)).mono ?_
  rintro e w2 ⟨rfl, hb2⟩
  go_wp2
  go_ret2
  exact ⟨rfl, b1.then_ hb2⟩

theorem User_calls (l : List UInt8) (w : World) (hm : Max w) (hl : l.length ≤ 1000000) :
    Calls Tryd.prog 49 #[.string ⟨l.toArray⟩] w fun e w' => e = .returned (.bool (nUserF l)) ∧ Below w.heap.size w w' := by
  go_enter Tryd.func49, Tryd.ntmps49
  go_wp2_with fail
  refine (nUser_calls l _ hm hl).mono ?_
  rintro e w1 ⟨rfl, b1⟩
  go_wp2
  go_ret
  exact ⟨rfl, b1⟩

end Go.Proofs.YtmfefeemkhncfaaDoor
