/- slices.Clone of members, walked. -/
import Derived.Test.YtlfmknebkfnliaaJfA
namespace Go.Proofs.Ytlfmknebkfnliaa
open Go.ChangeShapes Go.WideShapes Go.ChangeAt Go.RowKit Go.IntWalk
set_option linter.unusedVariables false

set_option maxHeartbeats 4000000 in
theorem cloneM_calls (P : Nat → Prop) (A : Option Addr) (n c : Nat) (t : JT) (w : World) (hP : ∀ b, P b → b < w.heap.size) (hn : n = t.ext) (hn6 : n ≤ 1000000) (hs : JSl P w true A t) :
    Calls Try.prog 21 #[.slice A n c] w (ClonePost P true t n w) := by
  have HN := Lib.hid (And.intro hn (And.intro hn6 hs))
  have HP := Lib.hid hP
  cases A with
  | none =>
    have ht : t.ext = 0 := by
      rcases hs with h | ⟨b, o, e, _⟩
      · rw [h]; rfl
      · cases e
    have HT := Lib.hid ht
    obtain rfl : n = 0 := by omega
    have he : ∀ W, (binOp .eql 23 (.slice none 0 c) (.slice none 0 0)).run Try.prog W = .ok (.bool true) W := fun W => Lib.run_eql_slice_nil W _ _ none 0 c 0 0 Try.underlying23
    clear ht hn hn6 hs hP
    go_enter Try.func21, Try.ntmps21
    go_wp2_with fail
    go_ret
    exact clone_none HT.out
  | some A =>
    have he : ∀ W, (binOp .eql 23 (.slice (some A) n c) (.slice none 0 0)).run Try.prog W = .ok (.bool false) W := fun W => Lib.run_eql_slice_nil W _ _ (some A) n c 0 0 Try.underlying23
    clear hn hn6 hs hP
    go_enter Try.func21, Try.ntmps21
    go_wp2_with (at_builtin; refine wpList_clone P HP.out true rfl _ _ rfl _ rfl rfl A n c t rfl HN.out.1 HN.out.2.1 HN.out.2.2 ?_; intro v2 w5 h5)
    have H5 := Lib.hid h5
    clear h5
    go_wp2_with fail
    go_ret
    exact H5.out
end Go.Proofs.Ytlfmknebkfnliaa
