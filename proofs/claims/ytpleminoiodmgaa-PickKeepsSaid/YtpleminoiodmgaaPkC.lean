/- Layer 16: where a pair stands: the closure, the search, walked. -/
import Derived.Test.YtpleminoiodmgaaPkB
import Derived.Test.YtpleminoiodmgaaPkL
import Derived.Deep.Cut
namespace Go.Proofs.Ytpleminoiodmgaa
open Go.ChangeShapes Go.WideShapes Go.ChangeAt Go.RowKit Go.IntWalk
set_option linter.unusedVariables false

/-- A slot in a block of its own, and the load of one. -/
theorem size_slot : (Try.prog.info? 24).map (·.size) = some 3 := by kernel_rfl
theorem size_pair : (Try.prog.info? 28).map (·.size) = some 2 := by kernel_rfl
set_option maxHeartbeats 1000000 in
theorem closure_calls (s : Slt) (p : Pr) (w : World) : Calls Try.prog 24 #[s.val, prV p] w fun e w' => e = .returned (.int .i64 (cmpP s.pr p)) ∧ Below w.heap.size w w' := by
  obtain ⟨t, k, i⟩ := s
  obtain ⟨c, d⟩ := p
  unfold Slt.val prV
  dsimp only
  go_enter Try.func24, Try.ntmps24
  go_upto_region 1 with fail
  have hs : Blk ((w.alloc (.cells #[.string ⟨t.toArray⟩, .string ⟨k.toArray⟩, .string ⟨i.toArray⟩] 24)).alloc (.cells #[.string ⟨c.toArray⟩, .string ⟨d.toArray⟩] 28)) w.heap.size 24 [.string ⟨t.toArray⟩, .string ⟨k.toArray⟩, .string ⟨i.toArray⟩] := (Blk.new w _ _).alloc _
  have hp : Blk ((w.alloc (.cells #[.string ⟨t.toArray⟩, .string ⟨k.toArray⟩, .string ⟨i.toArray⟩] 24)).alloc (.cells #[.string ⟨c.toArray⟩, .string ⟨d.toArray⟩] 28)) (w.heap.size + 1) 28 [.string ⟨c.toArray⟩, .string ⟨d.toArray⟩] := by have := Blk.new (w.alloc (.cells #[.string ⟨t.toArray⟩, .string ⟨k.toArray⟩, .string ⟨i.toArray⟩] 24)) [.string ⟨c.toArray⟩, .string ⟨d.toArray⟩] 28; simpa using this
  have hB := below2 w (.cells #[.string ⟨t.toArray⟩, .string ⟨k.toArray⟩, .string ⟨i.toArray⟩] 24) (.cells #[.string ⟨c.toArray⟩, .string ⟨d.toArray⟩] 28)
  have HB := Lib.hid hB
  clear hB
  apply wp_region_ls (by kernel_rfl) (by kernel_rfl)
  apply ls_load 24 (.tmp 2) rfl w.heap.size 0 _ _ hs.rng hs.lt Try.underlying24 rfl size_slot rfl rfl
  simp only [Act.put, List.setIfInBounds_toArray, List.set_cons_succ, List.set_cons_zero]
  apply ls_callx (prV (t, k)) 17 #[Slt.val ⟨t, k, i⟩] rfl (by intro W; go_simp; rfl) (fun W => pairOf_calls ⟨t, k, i⟩ W)
  simp only [Act.put, List.setIfInBounds_toArray, List.set_cons_succ, List.set_cons_zero]
  apply ls_load 28 (.tmp 3) rfl (w.heap.size + 1) 0 _ _ hp.rng hp.lt Try.underlying28 rfl size_pair rfl rfl
  simp only [Act.put, List.setIfInBounds_toArray, List.set_cons_succ, List.set_cons_zero]
  apply ls_callx (.int .i64 (cmpP (t, k) (c, d))) 20 #[prV (t, k), prV (c, d)] rfl (by intro W; go_simp; rfl) (fun W => compare_calls _ _ W)
  simp only [Act.put, List.setIfInBounds_toArray, List.set_cons_succ, List.set_cons_zero]
  apply ls_assign (.int .i64 (cmpP (t, k) (c, d))) (.tmp 8) rfl rfl rfl
  simp only [Act.put, List.setIfInBounds_toArray, List.set_cons_succ, List.set_cons_zero]
  refine ls_nil (Rs := []) ?_
  intro w4 b4
  have hfin := HB.out.then_ b4
  clear hs hp b4
  go_wp2_with fail
  go_ret
  exact ⟨rfl, hfin⟩
end Go.Proofs.Ytpleminoiodmgaa
