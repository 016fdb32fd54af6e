/- Layer 4: FieldMuls, walked. -/
import Derived.Test.YtpdoegfmngibgaaRfK
namespace Go.Proofs.Ytpdoegfmngibgaa
open Go.ChangeShapes Go.WideShapes Go.ChangeAt Go.RowKit Go.IntWalk
set_option linter.unusedVariables false

set_option maxRecDepth 100000 in
set_option maxHeartbeats 8000000 in
theorem fieldMuls_walk (bsx : List UInt8) (hlx : bsx.length = 32) (bsy : List UInt8) (hly : bsy.length = 32) (w : World) :
    Calls Try.prog 5 #[.agg (bsx.map fun c => Value.int .u8 (c.toNat : Int)).toArray, .agg (bsy.map fun c => Value.int .u8 (c.toNat : Int)).toArray] w fun e w' => e = .returned (.bool true) ∧ Below w.heap.size w w' := by
  obtain ⟨cx, hcx⟩ : ∃ cs, u8s bsx = cs := ⟨_, rfl⟩
  obtain ⟨cy, hcy⟩ : ∃ cs, u8s bsy = cs := ⟨_, rfl⟩
  rw [show (bsx.map fun c => Value.int .u8 (c.toNat : Int)) = cx from hcx, show (bsy.map fun c => Value.int .u8 (c.toNat : Int)) = cy from hcy]
  have HCX := Lib.hid hcx
  have HCY := Lib.hid hcy
  clear hcx hcy
  go_enter Try.func5, Try.ntmps5
  go_wp2_with fail
  refine (alive_calls _).mono ?_
  rintro e w4 ⟨rfl, b14⟩
  have ux : UBlk w4 w.heap.size bsx := by
    have h := b14.block w.heap.size (by simp; omega)
    unfold UBlk; rw [h, heap_alloc_old _ _ (by simp), heap_alloc_new, HCX.out]
  have uy : UBlk w4 (w.heap.size + 1) bsy := by
    have h := b14.block (w.heap.size + 1) (by simp)
    have h2 := heap_alloc_new (w.alloc (.cells cx.toArray 22)) (.cells cy.toArray 22)
    rw [show (w.alloc (.cells cx.toArray 22)).heap.size = w.heap.size + 1 by simp] at h2
    unfold UBlk; rw [h, h2, HCY.out]
  have bw := below2 b14
  have HW4 := Lib.hid (And.intro ux (And.intro uy bw))
  clear b14 ux uy bw
  go_wp2_with fail
  obtain ⟨HUx, HUy, HBW⟩ := HW4.out
  have LUx : w.heap.size < w4.heap.size := (Array.getElem?_eq_some_iff.1 HUx).1
  have LUy : w.heap.size + 1 < w4.heap.size := (Array.getElem?_eq_some_iff.1 HUy).1
  apply wp_region_ls (by kernel_rfl) (by kernel_rfl)
  apply ls_b32 (.tmp 2) HUx hlx LUx rfl rfl rfl
  simp only [Act.put, List.setIfInBounds_toArray, List.set_cons_succ, List.set_cons_zero]
  apply ls_call_el (leN bsx) 13 #[A32 bsx] rfl (by intro W; go_simp) (fun W => of_calls _ hlx W)
  intro v1 hv1
  simp only [Act.put, List.setIfInBounds_toArray, List.set_cons_succ, List.set_cons_zero]
  apply ls_b32 (.tmp 3) HUy hly LUy rfl rfl rfl
  simp only [Act.put, List.setIfInBounds_toArray, List.set_cons_succ, List.set_cons_zero]
  apply ls_call_el (leN bsy) 13 #[A32 bsy] rfl (by intro W; go_simp) (fun W => of_calls _ hly W)
  intro v2 hv2
  simp only [Act.put, List.setIfInBounds_toArray, List.set_cons_succ, List.set_cons_zero]
  apply ls_call_el ((leN bsx) * (leN bsy)) 26 #[v1, v2] rfl (by intro W; go_simp) (fun W => mul_calls _ _ _ _ hv1 hv2 W)
  intro v3 hv3
  simp only [Act.put, List.setIfInBounds_toArray, List.set_cons_succ, List.set_cons_zero]
  apply ls_b32 (.tmp 2) HUx hlx LUx rfl rfl rfl
  simp only [Act.put, List.setIfInBounds_toArray, List.set_cons_succ, List.set_cons_zero]
  apply ls_call_num (leN bsx) 15 #[A32 bsx] rfl (by intro W; go_simp) (fun W => num_calls _ hlx W)
  intro v4 hv4
  simp only [Act.put, List.setIfInBounds_toArray, List.set_cons_succ, List.set_cons_zero]
  apply ls_b32 (.tmp 3) HUy hly LUy rfl rfl rfl
  simp only [Act.put, List.setIfInBounds_toArray, List.set_cons_succ, List.set_cons_zero]
  apply ls_call_num (leN bsy) 15 #[A32 bsy] rfl (by intro W; go_simp) (fun W => num_calls _ hly W)
  intro v5 hv5
  simp only [Act.put, List.setIfInBounds_toArray, List.set_cons_succ, List.set_cons_zero]
  apply ls_call_num ((leN bsx) * (leN bsy)) 27 #[v4, v5] rfl (by intro W; go_simp) (fun W => refMul_num _ _ _ _ hv4 hv5 W)
  intro v6 hv6
  simp only [Act.put, List.setIfInBounds_toArray, List.set_cons_succ, List.set_cons_zero]
  apply ls_callx (.bool true) 14 #[v3, v6] rfl (by intro W; go_simp) (fun W => (isx_calls _ _ _ _ hv3 hv6 W).mono fun e W' h => ⟨by rw [h.1]; exact ret_bool (decide_eq_true rfl), h.2⟩)
  simp only [Act.put, List.setIfInBounds_toArray, List.set_cons_succ, List.set_cons_zero]
  apply ls_assign (.bool true) (.tmp 17) rfl rfl rfl
  simp only [Act.put, List.setIfInBounds_toArray, List.set_cons_succ, List.set_cons_zero]
  refine ls_nil (Rs := []) ?_
  intro w8 b8
  have hfin := HBW.then_ b8
  clear HBW b8 HUx HUy LUx LUy
  go_wp2_with fail
  go_ret
  exact ⟨rfl, hfin⟩
end Go.Proofs.Ytpdoegfmngibgaa
