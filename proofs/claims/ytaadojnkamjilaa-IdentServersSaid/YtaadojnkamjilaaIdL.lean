/- The walks of the laws on names of servers. -/
import Derived.Test.YtaadojnkamjilaaIdS
import Derived.Test.YtaadojnkamjilaaIdQ
namespace Go.Proofs.Ytaadojnkamjilaa
open Go.ChangeShapes Go.WideShapes Go.ChangeAt Go.RowKit Go.IntWalk
set_option linter.unusedVariables false

theorem srv_yes : serverF [97, 46, 111, 114, 103, 58, 56, 52, 52, 56] = true := by decide
theorem srv_no : serverF [97, 46, 111, 114, 103, 58] = false := by decide

set_option maxHeartbeats 1000000 in
theorem identServers_walk (s : ByteArray) (hs : s.size ≤ maxLen) {w : World} (hm : Max w) :
    Calls Try.prog 3 #[.string s] w fun e w' => e = .returned (.bool true) ∧ Below w.heap.size w w' := by
  obtain ⟨l, rfl, hsl⟩ := str_split s
  clear hs hsl
  go_enter Try.func3, Try.ntmps3
  go_wp2_with fail
  refine (server_calls [97, 46, 111, 114, 103, 58, 56, 52, 52, 56] _ hm (by simp)).mono ?_
  rintro e w1 ⟨rfl, b1⟩
  rw [srv_yes]
  go_wp2_with fail
  refine (server_calls [97, 46, 111, 114, 103, 58] _ (hm.below b1) (by simp)).mono ?_
  rintro e w2 ⟨rfl, hb2⟩
  rw [srv_no]
  have b2 := b1.then_ hb2
  by_cases hl : l.length ≤ 1024
  · have hd : decide ((l.length : Int) > 1024) = false := by simp; omega
    go_wp2_with fail
    refine (server_calls l _ (hm.below b2) (by omega)).mono ?_
    rintro e w3 ⟨rfl, hb3⟩
    have b3 := b2.then_ hb3
    go_wp2_with fail
    refine (refserver_calls l _ (by omega)).mono ?_
    rintro e w4 ⟨rfl, rfl⟩
    go_wp2
    go_ret
    exact ⟨by simp, b3⟩
  · have hd : decide ((l.length : Int) > 1024) = true := by simp; omega
    go_wp2
    go_ret
    exact ⟨by simp, b2⟩
end Go.Proofs.Ytaadojnkamjilaa
