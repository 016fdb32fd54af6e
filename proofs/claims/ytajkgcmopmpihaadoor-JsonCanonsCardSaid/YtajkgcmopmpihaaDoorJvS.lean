/- Layer 9: whether a value has just what its kind has: the program's way, the document's. -/
import Derived.Test.YtajkgcmopmpihaaDoorJvM
namespace Go.Proofs.YtajkgcmopmpihaaDoor
open Go.ChangeShapes Go.WideShapes Go.ChangeAt Go.RowKit Go.IntWalk
set_option linter.unusedVariables false

theorem natB (n : Nat) : ((n : Int) == 0) = decide (n = 0) := by
  rw [Bool.eq_iff_iff]; simp
set_option maxHeartbeats 4000000 in
theorem shaped_calls (v : Jv) (A B : Option Addr) (nl cl nm cm : Nat) (w : World) (h1 : Room nl cl v.l.ext) (h2 : Room nm cm v.m.ext) :
    Calls Tryd.prog 11 #[.agg #[.int .i64 v.kd, .bool v.is, .int .i64 v.n, .string ⟨v.s.toArray⟩, .slice A nl cl, .slice B nm cm]] w fun e w' => e = .returned (.bool v.bare) ∧ Below w.heap.size w w' := by
  obtain ⟨kd, is, n, s, l, m⟩ := v
  obtain ⟨rfl, _, _⟩ := h1
  obtain ⟨rfl, _, _⟩ := h2
  dsimp only
  rcases (show kd = 0 ∨ kd = 1 ∨ kd = 2 ∨ kd = 3 ∨ kd = 4 ∨ kd = 5 ∨ (¬ kd = 0 ∧ ¬ kd = 1 ∧ ¬ kd = 2 ∧ ¬ kd = 3 ∧ ¬ kd = 4 ∧ ¬ kd = 5) by omega) with rfl | rfl | rfl | rfl | rfl | rfl | ⟨k0, k1, k2, k3, k4, k5⟩
  all_goals
    go_enter Tryd.func11, Tryd.ntmps11
    go_wp2
    all_goals
      go_ret
      refine ⟨?_, (Below.refl _ _).alloc (Nat.le_refl _) _⟩
      first
        | (simp [Jv.bare, JT.isNil_eq, *]; done)
        | (simp [Jv.bare, JT.isNil_eq, *]; intros; omega)
set_option maxHeartbeats 4000000 in
theorem refbare_calls (v : Jv) (A B : Option Addr) (nl cl nm cm : Nat) (w : World) (h1 : Room nl cl v.l.ext) (h2 : Room nm cm v.m.ext) :
    Calls Tryd.prog 19 #[.agg #[.int .i64 v.kd, .bool v.is, .int .i64 v.n, .string ⟨v.s.toArray⟩, .slice A nl cl, .slice B nm cm]] w fun e w' => e = .returned (.bool v.bare) ∧ Below w.heap.size w w' := by
  obtain ⟨kd, is, n, s, l, m⟩ := v
  obtain ⟨rfl, _, _⟩ := h1
  obtain ⟨rfl, _, _⟩ := h2
  dsimp only
  rcases (show kd = 0 ∨ kd = 1 ∨ kd = 2 ∨ kd = 3 ∨ kd = 4 ∨ kd = 5 ∨ (¬ kd = 0 ∧ ¬ kd = 1 ∧ ¬ kd = 2 ∧ ¬ kd = 3 ∧ ¬ kd = 4 ∧ ¬ kd = 5) by omega) with rfl | rfl | rfl | rfl | rfl | rfl | ⟨k0, k1, k2, k3, k4, k5⟩
  all_goals
    go_enter Tryd.func19, Tryd.ntmps19
    go_wp2
    all_goals
      go_ret
      refine ⟨?_, ?_⟩
      · first
          | (simp [Jv.bare, JT.isNil_eq, *]; done)
          | (simp [Jv.bare, JT.isNil_eq, *]; intros; omega)
          | (simp [Jv.bare, JT.isNil_eq, natB, *]; done)
      · first
          | exact ((Below.refl _ _).alloc (Nat.le_refl _) _).alloc (by simp) _
          | exact (((Below.refl _ _).alloc (Nat.le_refl _) _).alloc (by simp) _).setCell (by simp) _
end Go.Proofs.YtajkgcmopmpihaaDoor
