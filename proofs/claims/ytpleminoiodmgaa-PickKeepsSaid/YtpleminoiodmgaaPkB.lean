/- Layer 16: pairs, how they stand, walked: the program's and the document's. -/
import Derived.Test.YtpleminoiodmgaaPkM
import Derived.Test.YtpleminoiodmgaaShelf
namespace Go.Proofs.Ytpleminoiodmgaa
open Go.ChangeShapes Go.WideShapes Go.ChangeAt Go.RowKit Go.IntWalk
set_option linter.unusedVariables false

theorem below2 (w : World) (o1 o2 : Obj) : Below w.heap.size w ((w.alloc o1).alloc o2) := ((Below.refl _ _).alloc (Nat.le_refl _) _).alloc (by simp) _
theorem pairOf_calls (s : Slt) (w : World) : Calls Try.prog 17 #[s.val] w fun e w' => e = .returned (prV s.pr) ∧ Below w.heap.size w w' := by
  obtain ⟨t, k, i⟩ := s
  unfold Slt.val
  dsimp only
  go_enter Try.func17, Try.ntmps17
  go_wp2
  exact bodyPost_ret (v := prV (t, k)) (by simp [results, Try.results17, go_sem, prV]) rfl ⟨rfl, below2 _ _ _⟩
theorem of_calls (s : Slt) (w : World) : Calls Try.prog 10 #[s.val] w fun e w' => e = .returned (prV s.pr) ∧ Below w.heap.size w w' := by
  obtain ⟨t, k, i⟩ := s
  unfold Slt.val
  dsimp only
  go_enter Try.func10, Try.ntmps10
  go_wp2
  exact bodyPost_ret (v := prV (t, k)) (by simp [results, Try.results10, go_sem, prV]) rfl ⟨rfl, below2 _ _ _⟩
theorem compare_calls (p q : Pr) (w : World) : Calls Try.prog 20 #[prV p, prV q] w fun e w' => e = .returned (.int .i64 (cmpP p q)) ∧ Below w.heap.size w w' := by
  obtain ⟨a, b⟩ := p
  obtain ⟨c, d⟩ := q
  unfold prV
  dsimp only
  by_cases h0 : Lib.compareBytes a c = 0
  · have HC : Hid (cmpP (a, b) (c, d) = Lib.compareBytes b d) := Lib.hid (if_pos h0)
    go_enter Try.func20, Try.ntmps20
    go_wp2_with fail
    refine (Try.strings_Compare _ _ _).mono ?_
    rintro e w1 ⟨rfl, rfl⟩
    simp only [str_data, h0]
    go_wp2_with fail
    refine (Try.strings_Compare _ _ _).mono ?_
    rintro e w1 ⟨rfl, rfl⟩
    go_wp2_with fail
    go_ret
    exact ⟨by rw [HC.out]; rfl, below2 _ _ _⟩
  · have HC : Hid (cmpP (a, b) (c, d) = Lib.compareBytes a c) := Lib.hid (if_neg h0)
    obtain ⟨z, hz⟩ : ∃ z, Lib.compareBytes a c = z := ⟨_, rfl⟩
    rw [hz] at HC h0
    have ht : (z != 0) = true := by simpa using h0
    have HZ := Lib.hid hz
    clear hz h0
    go_enter Try.func20, Try.ntmps20
    go_wp2_with fail
    refine (Try.strings_Compare _ _ _).mono ?_
    rintro e w1 ⟨rfl, rfl⟩
    simp only [str_data, HZ.out]
    go_wp2_with fail
    go_ret
    exact ⟨by rw [HC.out]; rfl, below2 _ _ _⟩
theorem less_calls (p q : Pr) (w : World) : Calls Try.prog 21 #[prV p, prV q] w fun e w' => e = .returned (.bool (decide (cmpP p q = -1))) ∧ Below w.heap.size w w' := by
  obtain ⟨a, b⟩ := p
  obtain ⟨c, d⟩ := q
  unfold prV
  dsimp only
  by_cases h0 : a = c
  · subst h0
    have HC : Hid (decide (cmpP (a, b) (a, d) = -1) = Op.bytesLess b d) := Lib.hid (by rw [bl_cb]; unfold cmpP; rw [if_pos (cb_self a)])
    go_enter Try.func21, Try.ntmps21
    go_wp2_with fail
    go_ret
    exact ⟨by rw [HC.out]; rfl, below2 _ _ _⟩
  · have HC : Hid (decide (cmpP (a, b) (c, d) = -1) = Op.bytesLess a c) := Lib.hid (by rw [bl_cb]; unfold cmpP; rw [if_neg (fun h => h0 (cb_eq h))])
    have ht : (a == c) = false := by simpa using h0
    go_enter Try.func21, Try.ntmps21
    go_wp2_with fail
    go_ret
    exact ⟨by rw [HC.out]; rfl, below2 _ _ _⟩
end Go.Proofs.Ytpleminoiodmgaa
