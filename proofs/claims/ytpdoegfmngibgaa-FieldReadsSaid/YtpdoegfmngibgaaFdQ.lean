/- Layer 4: FieldReads, walked. -/
import Derived.Test.YtpdoegfmngibgaaRfI
namespace Go.Proofs.Ytpdoegfmngibgaa
open Go.ChangeShapes Go.WideShapes Go.ChangeAt Go.RowKit Go.IntWalk
set_option linter.unusedVariables false

theorem back256 (r : Nat) : r % P = r % P % 256 ^ 32 % P := by
  have h := mod_lt_P r
  have h2 : P < 256 ^ 32 := by decide +kernel
  rw [Nat.mod_eq_of_lt (show r % P < 256 ^ 32 by omega), Nat.mod_mod]
theorem fiveN : (!(leB 32 (5 % P) == byteN 5)) = false := by decide +kernel
set_option maxRecDepth 100000 in
set_option maxHeartbeats 8000000 in
theorem fieldReads_walk (bsx : List UInt8) (hlx : bsx.length = 32) (z : Int) (wz : (Lit.int .u32 z).wf = true) (w : World) :
    Calls Try.prog 3 #[.agg (bsx.map fun c => Value.int .u8 (c.toNat : Int)).toArray, .int .u32 z] w fun e w' => e = .returned (.bool true) ∧ Below w.heap.size w w' := by
  obtain ⟨n, rfl, hn⟩ : ∃ n : Nat, z = (n : Int) ∧ n < 2 ^ 32 := by
    simp [Lit.wf, IntKind.min, IntKind.max, IntKind.signed, IntKind.bits] at wz
    exact ⟨z.toNat, by omega, by omega⟩
  have hni : (n : Int) < 4294967296 := by omega
  obtain ⟨cx, hcx⟩ : ∃ cs, u8s bsx = cs := ⟨_, rfl⟩
  rw [show (bsx.map fun c => Value.int .u8 (c.toNat : Int)) = cx from hcx]
  have HCX := Lib.hid hcx
  have hof : ∀ W, Calls Try.prog 13 #[.agg cx.toArray] W (ElPost (leN bsx) W) := by rw [← hcx]; exact fun W => of_calls bsx hlx W
  have HOF := Lib.hid hof
  have hsz : (Try.prog.info? 22).map (·.size) = some cx.length := by rw [← hcx]; exact size32' bsx hlx
  have HSZ := Lib.hid hsz
  have g1 := guard_bytes .neq (leB 32 (5 % P)) (byteN 5)
  have q1 := neq_bytes (leB 32 (5 % P)) (byteN 5) (leB_len _ _) rfl
  rw [fiveN, litB5] at q1
  rw [litB5] at g1
  clear hcx hof hsz
  go_enter Try.func3, Try.ntmps3
  go_wp2_with fail
  refine (small_calls 5 (by decide) _).mono ?_
  rintro e w1 ⟨x5, rfl, hx5, b1⟩
  go_wp2_with fail
  refine (bytes_calls _ _ hx5 _).mono ?_
  rintro e w4 ⟨rfl, b4⟩
  have b14 := b1.then_ b4
  have ux : UBlk w4 w.heap.size bsx := by
    have h := b14.block w.heap.size (by simp)
    unfold UBlk; rw [h, heap_alloc_new, HCX.out]
  have hr : w4.rangeAt w.heap.size 0 cx := by rw [← HCX.out]; exact ux.rng
  have HW4 := Lib.hid (And.intro ux (And.intro (below1 b14) hr))
  clear b1 b4 b14 ux hx5 hr
  go_wp2_with (refine wpList_load_mid rfl 22 _ rfl w.heap.size 0 rfl cx _ HW4.out.2.2 Try.underlying22 rfl HSZ.out ?_)
  clear q1 g1
  refine (HOF.out _).mono ?_
  rintro e w5 ⟨vx, rfl, hvx, b5⟩
  obtain ⟨x0, x1, x2, x3, x4, rfl, okx, valx⟩ := hvx.form
  have HXx : Hid (IsEl (E5 x0 x1 x2 x3 x4) (leN bsx)) := Lib.hid hvx
  have HB5 := Lib.hid b5
  clear okx valx hvx b5
  go_wp2_with fail
  have HEx : EBlk (w5.alloc (.cells #[.int .u64 (x0 : Int), .int .u64 (x1 : Int), .int .u64 (x2 : Int), .int .u64 (x3 : Int), .int .u64 (x4 : Int)] 27)) w5.heap.size [x0, x1, x2, x3, x4] := heap_alloc_new w5 _
  have HUx := (HW4.out.1.later HB5.out).alloc (.cells #[.int .u64 (x0 : Int), .int .u64 (x1 : Int), .int .u64 (x2 : Int), .int .u64 (x3 : Int), .int .u64 (x4 : Int)] 27)
  have hB := HW4.out.2.1.then_ HB5.out
  have HBW := hB.alloc hB.size (.cells #[.int .u64 (x0 : Int), .int .u64 (x1 : Int), .int .u64 (x2 : Int), .int .u64 (x3 : Int), .int .u64 (x4 : Int)] 27)
  clear hB
  generalize w5.alloc (.cells #[.int .u64 (x0 : Int), .int .u64 (x1 : Int), .int .u64 (x2 : Int), .int .u64 (x3 : Int), .int .u64 (x4 : Int)] 27) = W3 at *
  generalize w5.heap.size = gx at *
  have HLx : gx < W3.heap.size := (Array.getElem?_eq_some_iff.1 HEx).1
  have LUx : w.heap.size < W3.heap.size := (Array.getElem?_eq_some_iff.1 HUx).1
  apply wp_region_ls (by kernel_rfl) (by kernel_rfl)
  apply ls_el (.tmp 5) HEx HLx rfl rfl rfl
  simp only [Act.put, List.setIfInBounds_toArray, List.set_cons_succ, List.set_cons_zero]
  apply ls_b32 (.tmp 2) HUx hlx LUx rfl rfl rfl
  simp only [Act.put, List.setIfInBounds_toArray, List.set_cons_succ, List.set_cons_zero]
  apply ls_call_num (leN bsx) 15 #[A32 bsx] rfl (by intro W; go_simp) (fun W => num_calls _ hlx W)
  intro v1 hv1
  simp only [Act.put, List.setIfInBounds_toArray, List.set_cons_succ, List.set_cons_zero]
  apply ls_callx (.bool true) 14 #[E5 x0 x1 x2 x3 x4, v1] rfl (by intro W; go_simp) (fun W => (isx_calls _ _ _ _ HXx.out hv1 W).mono fun e W' h => ⟨by rw [h.1]; exact ret_bool (decide_eq_true rfl), h.2⟩)
  simp only [Act.put, List.setIfInBounds_toArray, List.set_cons_succ, List.set_cons_zero]
  apply ls_move (.bool true) (.tmp 15) rfl rfl rfl
  simp only [Act.put, List.setIfInBounds_toArray, List.set_cons_succ, List.set_cons_zero]
  apply ls_move (.int .u32 (n : Int)) (.tmp 1) rfl rfl rfl
  simp only [Act.put, List.setIfInBounds_toArray, List.set_cons_succ, List.set_cons_zero]
  apply ls_call_el (n) 11 #[.int .u32 (n : Int)] rfl (by intro W; go_simp) (fun W => small_calls n hn W)
  intro v2 hv2
  simp only [Act.put, List.setIfInBounds_toArray, List.set_cons_succ, List.set_cons_zero]
  apply ls_move (.int .u32 (n : Int)) (.tmp 1) rfl rfl rfl
  simp only [Act.put, List.setIfInBounds_toArray, List.set_cons_succ, List.set_cons_zero]
  apply ls_pure (.int .i64 (n : Int)) rfl (by intro W; go_simp; exact IntWalk.i64_in _ (by omega))
  simp only [Act.put, List.setIfInBounds_toArray, List.set_cons_succ, List.set_cons_zero]
  apply ls_call_num (n) 16 #[.int .i64 (n : Int)] rfl (by intro W; go_simp) (fun W => refSmall_calls n hn W)
  intro v3 hv3
  simp only [Act.put, List.setIfInBounds_toArray, List.set_cons_succ, List.set_cons_zero]
  apply ls_callx (.bool true) 14 #[v2, v3] rfl (by intro W; go_simp) (fun W => (isx_calls _ _ _ _ hv2 hv3 W).mono fun e W' h => ⟨by rw [h.1]; exact ret_bool (decide_eq_true rfl), h.2⟩)
  simp only [Act.put, List.setIfInBounds_toArray, List.set_cons_succ, List.set_cons_zero]
  apply ls_pure (.bool true) rfl (by intro W; go_simp)
  simp only [Act.put, List.setIfInBounds_toArray, List.set_cons_succ, List.set_cons_zero]
  apply ls_move (.bool true) (.tmp 23) rfl rfl rfl
  simp only [Act.put, List.setIfInBounds_toArray, List.set_cons_succ, List.set_cons_zero]
  apply ls_el (.tmp 5) HEx HLx rfl rfl rfl
  simp only [Act.put, List.setIfInBounds_toArray, List.set_cons_succ, List.set_cons_zero]
  apply ls_el (.tmp 5) HEx HLx rfl rfl rfl
  simp only [Act.put, List.setIfInBounds_toArray, List.set_cons_succ, List.set_cons_zero]
  apply ls_callx (A32 (leB 32 (leN bsx % P))) 12 #[E5 x0 x1 x2 x3 x4] rfl (by intro W; go_simp) (fun W => bytes_calls _ _ HXx.out W)
  simp only [Act.put, List.setIfInBounds_toArray, List.set_cons_succ, List.set_cons_zero]
  apply ls_call_el (leN (leB 32 (leN bsx % P))) 13 #[A32 (leB 32 (leN bsx % P))] rfl (by intro W; go_simp) (fun W => of_calls _ (leB_len _ _) W)
  intro v4 hv4
  simp only [Act.put, List.setIfInBounds_toArray, List.set_cons_succ, List.set_cons_zero]
  apply ls_callx (.bool true) 17 #[E5 x0 x1 x2 x3 x4, v4] rfl (by intro W; go_simp) (fun W => (is_calls _ _ _ _ HXx.out hv4 W).mono fun e W' h => ⟨by rw [h.1]; exact ret_bool (decide_eq_true (by rw [leN_leB]; exact back256 _)), h.2⟩)
  simp only [Act.put, List.setIfInBounds_toArray, List.set_cons_succ, List.set_cons_zero]
  apply ls_pure (.bool true) rfl (by intro W; go_simp)
  simp only [Act.put, List.setIfInBounds_toArray, List.set_cons_succ, List.set_cons_zero]
  apply ls_move (.bool true) (.tmp 30) rfl rfl rfl
  simp only [Act.put, List.setIfInBounds_toArray, List.set_cons_succ, List.set_cons_zero]
  apply ls_el (.tmp 5) HEx HLx rfl rfl rfl
  simp only [Act.put, List.setIfInBounds_toArray, List.set_cons_succ, List.set_cons_zero]
  apply ls_callx (.bool (decide (leN bsx % P % 2 = 1))) 18 #[E5 x0 x1 x2 x3 x4] rfl (by intro W; go_simp) (fun W => odd_calls _ _ HXx.out W)
  simp only [Act.put, List.setIfInBounds_toArray, List.set_cons_succ, List.set_cons_zero]
  apply ls_b32 (.tmp 2) HUx hlx LUx rfl rfl rfl
  simp only [Act.put, List.setIfInBounds_toArray, List.set_cons_succ, List.set_cons_zero]
  apply ls_call_num (leN bsx) 15 #[A32 bsx] rfl (by intro W; go_simp) (fun W => num_calls _ hlx W)
  intro v5 hv5
  simp only [Act.put, List.setIfInBounds_toArray, List.set_cons_succ, List.set_cons_zero]
  apply ls_callx (.bool (decide (leN bsx % P % 2 = 1))) 19 #[v5] rfl (by intro W; go_simp) (fun W => refOdd_calls _ _ hv5 W)
  simp only [Act.put, List.setIfInBounds_toArray, List.set_cons_succ, List.set_cons_zero]
  apply ls_pure (.bool true) rfl (by intro W; cases (decide (leN bsx % P % 2 = 1)) <;> go_simp)
  simp only [Act.put, List.setIfInBounds_toArray, List.set_cons_succ, List.set_cons_zero]
  apply ls_pure (.bool true) rfl (by intro W; go_simp)
  simp only [Act.put, List.setIfInBounds_toArray, List.set_cons_succ, List.set_cons_zero]
  apply ls_assign (.bool true) (.tmp 38) rfl rfl rfl
  simp only [Act.put, List.setIfInBounds_toArray, List.set_cons_succ, List.set_cons_zero]
  refine ls_nil (Rs := []) ?_
  intro w8 b8
  have hfin := HBW.then_ b8
  clear HBW b8 HEx HUx HLx LUx
  go_wp2_with fail
  go_ret
  exact ⟨rfl, hfin⟩
end Go.Proofs.Ytpdoegfmngibgaa
