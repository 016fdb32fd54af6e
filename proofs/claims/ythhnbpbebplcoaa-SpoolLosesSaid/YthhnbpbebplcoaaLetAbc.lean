/- The contract of letters.alphabet. -/
import Derived.Test.YthhnbpbebplcoaaAid
import Derived.Test.YthhnbpbebplcoaaLetP
namespace Go.Proofs.Ythhnbpbebplcoaa
open Go.ChangeShapes Go.WideShapes Go.ChangeAt Go.RowKit Go.IntWalk
set_option linter.unusedVariables false

theorem abc_get (u : Bool) (S : Nat) (h : S < (⟨(abc u).toArray⟩ : ByteArray).size) : ((((⟨(abc u).toArray⟩ : ByteArray)[S]'h).toNat : Nat) : Int) = ((letB u S).toNat : Int) := by
  have h' : S < (abc u).length := h
  unfold letB; rw [List.getD_eq_getElem?_getD, List.getElem?_eq_getElem h']; rfl

theorem alphabet_calls (u : Bool) (w : World) :
    Calls Try.prog 40 #[.bool u] w fun e w' => e = .returned (.string ⟨(abc u).toArray⟩) ∧ w = w' := by
  cases u
  all_goals
    go_enter Try.func40, Try.ntmps40
    go_wp2
    go_ret
    exact ⟨rfl, rfl⟩
end Go.Proofs.Ythhnbpbebplcoaa
