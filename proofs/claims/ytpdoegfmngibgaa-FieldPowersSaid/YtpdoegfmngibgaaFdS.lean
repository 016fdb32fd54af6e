/- Layer 4: FieldPowers, walked. -/
import Derived.Test.YtpdoegfmngibgaaRfM
namespace Go.Proofs.Ytpdoegfmngibgaa
open Go.ChangeShapes Go.WideShapes Go.ChangeAt Go.RowKit Go.IntWalk
set_option linter.unusedVariables false

set_option maxRecDepth 100000 in
set_option maxHeartbeats 8000000 in
theorem fieldPowers_walk (bsx : List UInt8) (hlx : bsx.length = 32) (bsy : List UInt8) (hly : bsy.length = 32) (w : World) :
    Calls Try.prog 6 #[.agg (bsx.map fun c => Value.int .u8 (c.toNat : Int)).toArray, .agg (bsy.map fun c => Value.int .u8 (c.toNat : Int)).toArray] w fun e w' => e = .returned (.bool true) ∧ Below w.heap.size w w' := by
  obtain ⟨cx, hcx⟩ : ∃ cs, u8s bsx = cs := ⟨_, rfl⟩
  obtain ⟨cy, hcy⟩ : ∃ cs, u8s bsy = cs := ⟨_, rfl⟩
  rw [show (bsx.map fun c => Value.int .u8 (c.toNat : Int)) = cx from hcx, show (bsy.map fun c => Value.int .u8 (c.toNat : Int)) = cy from hcy]
  have HCX := Lib.hid hcx
  have HCY := Lib.hid hcy
  have hof : ∀ W, Calls Try.prog 13 #[.agg cx.toArray] W (ElPost (leN bsx) W) := by rw [← hcx]; exact fun W => of_calls bsx hlx W
  have HOF := Lib.hid hof
  have hsz : (Try.prog.info? 22).map (·.size) = some cx.length := by rw [← hcx]; exact size32' bsx hlx
  have HSZ := Lib.hid hsz
  clear hcx hcy hof hsz
  go_enter Try.func6, Try.ntmps6
  go_wp2_with fail
  refine (alive_calls _).mono ?_
  rintro e w4 ⟨rfl, b14⟩
  have ux : UBlk w4 w.heap.size bsx := by
    have h := b14.block w.heap.size (by simp; omega)
    unfold UBlk; rw [h, heap_alloc_old _ _ (by simp), heap_alloc_new, HCX.out]
  have uy : UBlk w4 (w.heap.size + 1) bsy := by
    have h := b14.block (w.heap.size + 1) (by simp)
    have h2 := heap_alloc_new (w.alloc (.cells cx.toArray 22)) (.cells cy.toArray 22)
    rw [show (w.alloc (.cells cx.toArray 22)).heap.size = w.heap.size + 1 by simp] at h2
    unfold UBlk; rw [h, h2, HCY.out]
  have hr : w4.rangeAt w.heap.size 0 cx := by rw [← HCX.out]; exact ux.rng
  have HW4 := Lib.hid (And.intro ux (And.intro uy (And.intro (below2 b14) hr)))
  clear b14 ux uy hr
  go_wp2_with (refine wpList_load_mid rfl 22 _ rfl w.heap.size 0 rfl cx _ HW4.out.2.2.2 Try.underlying22 rfl HSZ.out ?_)
  refine (HOF.out _).mono ?_
  rintro e w5 ⟨vx, rfl, hvx, b5⟩
  obtain ⟨x0, x1, x2, x3, x4, rfl, okx, valx⟩ := hvx.form
  have HXx : Hid (IsEl (E5 x0 x1 x2 x3 x4) (leN bsx)) := Lib.hid hvx
  have HB5 := Lib.hid b5
  clear okx valx hvx b5
  go_wp2_with fail
  have HEx : EBlk (w5.alloc (.cells #[.int .u64 (x0 : Int), .int .u64 (x1 : Int), .int .u64 (x2 : Int), .int .u64 (x3 : Int), .int .u64 (x4 : Int)] 27)) w5.heap.size [x0, x1, x2, x3, x4] := heap_alloc_new w5 _
  have HUx := (HW4.out.1.later HB5.out).alloc (.cells #[.int .u64 (x0 : Int), .int .u64 (x1 : Int), .int .u64 (x2 : Int), .int .u64 (x3 : Int), .int .u64 (x4 : Int)] 27)
  have HUy := (HW4.out.2.1.later HB5.out).alloc (.cells #[.int .u64 (x0 : Int), .int .u64 (x1 : Int), .int .u64 (x2 : Int), .int .u64 (x3 : Int), .int .u64 (x4 : Int)] 27)
  have hB := HW4.out.2.2.1.then_ HB5.out
  have HBW := hB.alloc hB.size (.cells #[.int .u64 (x0 : Int), .int .u64 (x1 : Int), .int .u64 (x2 : Int), .int .u64 (x3 : Int), .int .u64 (x4 : Int)] 27)
  clear hB
  generalize w5.alloc (.cells #[.int .u64 (x0 : Int), .int .u64 (x1 : Int), .int .u64 (x2 : Int), .int .u64 (x3 : Int), .int .u64 (x4 : Int)] 27) = W3 at *
  generalize w5.heap.size = gx at *
  have HLx : gx < W3.heap.size := (Array.getElem?_eq_some_iff.1 HEx).1
  have LUx : w.heap.size < W3.heap.size := (Array.getElem?_eq_some_iff.1 HUx).1
  have LUy : w.heap.size + 1 < W3.heap.size := (Array.getElem?_eq_some_iff.1 HUy).1
  have hcv : ∀ W, Below W3.heap.size W3 W → (convert 45 9 (.slice (some ⟨w.heap.size + 1, 0, none⟩) 32 32)).run Try.prog W = .ok (.string ⟨bsy.toArray⟩) W :=
    fun W hW => run_str_rb W (some ⟨w.heap.size + 1, 0, none⟩) 32 32 bsy (HUy.rb.below hW) hly.symm
  apply wp_region_ls (by kernel_rfl) (by kernel_rfl)
  apply ls_el (.tmp 5) HEx HLx rfl rfl rfl
  simp only [Act.put, List.setIfInBounds_toArray, List.set_cons_succ, List.set_cons_zero]
  apply ls_b32 (.tmp 3) HUy hly LUy rfl rfl rfl
  simp only [Act.put, List.setIfInBounds_toArray, List.set_cons_succ, List.set_cons_zero]
  apply ls_call_el ((leN bsx) ^ leN bsy) 28 #[E5 x0 x1 x2 x3 x4, A32 bsy] rfl (by intro W; go_simp) (fun W => pow_calls _ _ _ HXx.out hly W)
  intro v1 hv1
  simp only [Act.put, List.setIfInBounds_toArray, List.set_cons_succ, List.set_cons_zero]
  apply ls_b32 (.tmp 2) HUx hlx LUx rfl rfl rfl
  simp only [Act.put, List.setIfInBounds_toArray, List.set_cons_succ, List.set_cons_zero]
  apply ls_call_num (leN bsx) 15 #[A32 bsx] rfl (by intro W; go_simp) (fun W => num_calls _ hlx W)
  intro v2 hv2
  simp only [Act.put, List.setIfInBounds_toArray, List.set_cons_succ, List.set_cons_zero]
  apply ls_pure (.slice (some ⟨w.heap.size + 1, 0, none⟩) 32 32) rfl (by intro W; go_simp)
  simp only [Act.put, List.setIfInBounds_toArray, List.set_cons_succ, List.set_cons_zero]
  apply ls_run (.string ⟨bsy.toArray⟩) rfl (by intro W hW; have := hcv W hW; go_simp)
  simp only [Act.put, List.setIfInBounds_toArray, List.set_cons_succ, List.set_cons_zero]
  apply ls_call_num (leN bsx ^ leN bsy) 29 #[v2, .string ⟨bsy.toArray⟩] rfl (by intro W; go_simp) (fun W => refPow_calls _ _ hv2 _ hly W)
  intro v3 hv3
  simp only [Act.put, List.setIfInBounds_toArray, List.set_cons_succ, List.set_cons_zero]
  apply ls_callx (.bool true) 14 #[v1, v3] rfl (by intro W; go_simp) (fun W => (isx_calls _ _ _ _ hv1 hv3 W).mono fun e W' h => ⟨by rw [h.1]; exact ret_bool (decide_eq_true rfl), h.2⟩)
  simp only [Act.put, List.setIfInBounds_toArray, List.set_cons_succ, List.set_cons_zero]
  apply ls_move (.bool true) (.tmp 18) rfl rfl rfl
  simp only [Act.put, List.setIfInBounds_toArray, List.set_cons_succ, List.set_cons_zero]
  apply ls_el (.tmp 5) HEx HLx rfl rfl rfl
  simp only [Act.put, List.setIfInBounds_toArray, List.set_cons_succ, List.set_cons_zero]
  apply ls_call_el ((leN bsx) ^ (P - 2)) 30 #[E5 x0 x1 x2 x3 x4] rfl (by intro W; go_simp) (fun W => inv_calls _ _ HXx.out W)
  intro v4 hv4
  simp only [Act.put, List.setIfInBounds_toArray, List.set_cons_succ, List.set_cons_zero]
  apply ls_b32 (.tmp 2) HUx hlx LUx rfl rfl rfl
  simp only [Act.put, List.setIfInBounds_toArray, List.set_cons_succ, List.set_cons_zero]
  apply ls_call_num (leN bsx) 15 #[A32 bsx] rfl (by intro W; go_simp) (fun W => num_calls _ hlx W)
  intro v5 hv5
  simp only [Act.put, List.setIfInBounds_toArray, List.set_cons_succ, List.set_cons_zero]
  apply ls_call_num (leN bsx ^ (P - 2)) 31 #[v5] rfl (by intro W; go_simp) (fun W => refInv_num _ _ hv5 W)
  intro v6 hv6
  simp only [Act.put, List.setIfInBounds_toArray, List.set_cons_succ, List.set_cons_zero]
  apply ls_callx (.bool true) 14 #[v4, v6] rfl (by intro W; go_simp) (fun W => (isx_calls _ _ _ _ hv4 hv6 W).mono fun e W' h => ⟨by rw [h.1]; exact ret_bool (decide_eq_true rfl), h.2⟩)
  simp only [Act.put, List.setIfInBounds_toArray, List.set_cons_succ, List.set_cons_zero]
  apply ls_pure (.bool true) rfl (by intro W; go_simp)
  simp only [Act.put, List.setIfInBounds_toArray, List.set_cons_succ, List.set_cons_zero]
  apply ls_assign (.bool true) (.tmp 26) rfl rfl rfl
  simp only [Act.put, List.setIfInBounds_toArray, List.set_cons_succ, List.set_cons_zero]
  refine ls_nil (Rs := []) ?_
  intro w8 b8
  have hfin := HBW.then_ b8
  clear HBW b8 HEx HUx HUy HLx LUx LUy hcv
  go_wp2_with fail
  go_ret
  exact ⟨rfl, hfin⟩
end Go.Proofs.Ytpdoegfmngibgaa
