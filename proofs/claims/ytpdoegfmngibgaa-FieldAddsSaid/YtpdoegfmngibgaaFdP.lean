/- Layer 4: FieldAdds, walked. -/
import Derived.Test.YtpdoegfmngibgaaRfI
namespace Go.Proofs.Ytpdoegfmngibgaa
open Go.ChangeShapes Go.WideShapes Go.ChangeAt Go.RowKit Go.IntWalk
set_option linter.unusedVariables false

def ZE : Obj := .cells #[.int .u64 0, .int .u64 0, .int .u64 0, .int .u64 0, .int .u64 0] 27
def ZE' : Obj := .cells #[.int .u64 0, .int .u64 0, .int .u64 0, .int .u64 0, .int .u64 0] 27 (0, 0)
theorem one5 (ls : List Nat) : (ls.map fun (n : Nat) => Value.int .u64 (n : Int)).toArray.all (·.oneCell') = true := by
  apply all_oneCell_toArray
  intro v hv
  obtain ⟨y, _, rfl⟩ := List.mem_map.1 hv
  rfl
theorem litB11 : A32 (byteN 11) = .agg #[.int .u8 11, .int .u8 0, .int .u8 0, .int .u8 0, .int .u8 0, .int .u8 0, .int .u8 0, .int .u8 0, .int .u8 0, .int .u8 0, .int .u8 0, .int .u8 0, .int .u8 0, .int .u8 0, .int .u8 0, .int .u8 0, .int .u8 0, .int .u8 0, .int .u8 0, .int .u8 0, .int .u8 0, .int .u8 0, .int .u8 0, .int .u8 0, .int .u8 0, .int .u8 0, .int .u8 0, .int .u8 0, .int .u8 0, .int .u8 0, .int .u8 0, .int .u8 0] := rfl
theorem eleven : (!(leB 32 ((5 + 6) % P) == byteN 11)) = false := by decide +kernel
set_option maxRecDepth 100000 in
set_option maxHeartbeats 8000000 in
theorem fieldAdds_walk (bsx : List UInt8) (hlx : bsx.length = 32) (bsy : List UInt8) (hly : bsy.length = 32) (w : World) :
    Calls Try.prog 4 #[.agg (bsx.map fun c => Value.int .u8 (c.toNat : Int)).toArray, .agg (bsy.map fun c => Value.int .u8 (c.toNat : Int)).toArray] w fun e w' => e = .returned (.bool true) ∧ Below w.heap.size w w' := by
  obtain ⟨cx, hcx⟩ : ∃ cs, u8s bsx = cs := ⟨_, rfl⟩
  obtain ⟨cy, hcy⟩ : ∃ cs, u8s bsy = cs := ⟨_, rfl⟩
  rw [show (bsx.map fun c => Value.int .u8 (c.toNat : Int)) = cx from hcx, show (bsy.map fun c => Value.int .u8 (c.toNat : Int)) = cy from hcy]
  have HCX := Lib.hid hcx
  have HCY := Lib.hid hcy
  have g1 := guard_bytes .neq (leB 32 ((5 + 6) % P)) (byteN 11)
  have q1 := neq_bytes (leB 32 ((5 + 6) % P)) (byteN 11) (leB_len _ _) rfl
  rw [eleven, litB11] at q1
  rw [litB11] at g1
  clear hcx hcy
  go_enter Try.func4, Try.ntmps4
  go_wp2_with fail
  refine (small_calls 5 (by decide) _).mono ?_
  rintro e w1 ⟨x5, rfl, hx5, b1⟩
  go_wp2_with fail
  refine (small_calls 6 (by decide) _).mono ?_
  rintro e w2 ⟨x6, rfl, hx6, b2⟩
  go_wp2_with fail
  refine (add_calls _ _ _ _ hx5 hx6 _).mono ?_
  rintro e w3 ⟨x11, rfl, hx11, b3⟩
  go_wp2_with fail
  refine (bytes_calls _ _ hx11 _).mono ?_
  rintro e w4 ⟨rfl, b4⟩
  have b14 := ((b1.then_ b2).then_ b3).then_ b4
  have ux : UBlk w4 w.heap.size bsx := by
    have h := b14.block w.heap.size (by simp; omega)
    unfold UBlk; rw [h, heap_alloc_old _ _ (by simp), heap_alloc_new, HCX.out]
  have uy : UBlk w4 (w.heap.size + 1) bsy := by
    have h := b14.block (w.heap.size + 1) (by simp)
    have h2 := heap_alloc_new (w.alloc (.cells cx.toArray 22)) (.cells cy.toArray 22)
    rw [show (w.alloc (.cells cx.toArray 22)).heap.size = w.heap.size + 1 by simp] at h2
    unfold UBlk; rw [h, h2, HCY.out]
  have bw := below2 b14
  have LUx : w.heap.size < w4.heap.size := (Array.getElem?_eq_some_iff.1 ux).1
  have LUy : w.heap.size + 1 < w4.heap.size := (Array.getElem?_eq_some_iff.1 uy).1
  have HW4 := Lib.hid (And.intro ux (And.intro uy bw))
  clear b1 b2 b3 b4 b14 ux uy bw hx5 hx6 hx11
  go_wp2_with fail
  clear q1 g1
  apply wp_region_g 6 (by kernel_rfl) (by kernel_rfl)
  simp only [List.take_succ_cons, List.take_zero, List.drop_succ_cons, List.drop_zero]
  apply lg_b32 (.tmp 2) HW4.out.1 hlx LUx rfl rfl rfl
  simp only [Act.put, List.setIfInBounds_toArray, List.set_cons_succ, List.set_cons_zero]
  apply lg_call_el (leN bsx) 13 #[A32 bsx] rfl (by intro W; go_simp) (fun W => of_calls _ hlx W)
  intro vx hvx
  simp only [Act.put, List.setIfInBounds_toArray, List.set_cons_succ, List.set_cons_zero]
  apply lg_b32 (.tmp 3) HW4.out.2.1 hly LUy rfl rfl rfl
  simp only [Act.put, List.setIfInBounds_toArray, List.set_cons_succ, List.set_cons_zero]
  apply lg_call_el (leN bsy) 13 #[A32 bsy] rfl (by intro W; go_simp) (fun W => of_calls _ hly W)
  intro vy hvy
  simp only [Act.put, List.setIfInBounds_toArray, List.set_cons_succ, List.set_cons_zero]
  apply lg_alloc ZE ZE' rfl (by intro W; go_simp; rfl) (fun W => heap_alloc_new W _)
  intro gx hgx
  simp only [Act.put, List.setIfInBounds_toArray, List.set_cons_succ, List.set_cons_zero]
  apply lg_alloc ZE ZE' rfl (by intro W; go_simp; rfl) (fun W => heap_alloc_new W _)
  intro gy hgy
  simp only [Act.put, List.setIfInBounds_toArray, List.set_cons_succ, List.set_cons_zero]
  refine lg_nil ?_
  intro w5 hC5
  have nyx : gy ≠ gx := (upd_none.1 hgy).1
  have ex : EBlk w5 gx [0, 0, 0, 0, 0] := (hC5.2 gx ZE' (by simp [upd, Ne.symm nyx])).2
  have ey : EBlk w5 gy [0, 0, 0, 0, 0] := (hC5.2 gy ZE' (by simp [upd])).2
  have bx : w4.heap.size ≤ gx := (hC5.2 gx ZE' (by simp [upd, Ne.symm nyx])).1
  have by' : w4.heap.size ≤ gy := (hC5.2 gy ZE' (by simp [upd])).1
  obtain ⟨x0, x1, x2, x3, x4, rfl, okx, valx⟩ := hvx.form
  obtain ⟨y0, y1, y2, y3, y4, rfl, oky, valy⟩ := hvy.form
  have HXx : Hid (IsEl (E5 x0 x1 x2 x3 x4) (leN bsx)) := Lib.hid hvx
  have HXy : Hid (IsEl (E5 y0 y1 y2 y3 y4) (leN bsy)) := Lib.hid hvy
  have ex3 := (ex.setAll (ms := [x0, x1, x2, x3, x4]) rfl).setFar nyx ([y0, y1, y2, y3, y4].map fun (n : Nat) => Value.int .u64 (n : Int))
  have ey2 := ey.setFar (Ne.symm nyx) ([x0, x1, x2, x3, x4].map fun (n : Nat) => Value.int .u64 (n : Int))
  have ey3 := ey2.setAll (ms := [y0, y1, y2, y3, y4]) rfl
  have ux3 := ((HW4.out.1.later hC5.1).setFar (show gx ≠ w.heap.size by omega) ([x0, x1, x2, x3, x4].map fun (n : Nat) => Value.int .u64 (n : Int))).setFar (show gy ≠ w.heap.size by omega) ([y0, y1, y2, y3, y4].map fun (n : Nat) => Value.int .u64 (n : Int))
  have uy3 := ((HW4.out.2.1.later hC5.1).setFar (show gx ≠ w.heap.size + 1 by omega) ([x0, x1, x2, x3, x4].map fun (n : Nat) => Value.int .u64 (n : Int))).setFar (show gy ≠ w.heap.size + 1 by omega) ([y0, y1, y2, y3, y4].map fun (n : Nat) => Value.int .u64 (n : Int))
  have bW := below_cells (Nat.le_trans HW4.out.2.2.size by') ([y0, y1, y2, y3, y4].map fun (n : Nat) => Value.int .u64 (n : Int)) 0 _
    (below_cells (Nat.le_trans HW4.out.2.2.size bx) ([x0, x1, x2, x3, x4].map fun (n : Nat) => Value.int .u64 (n : Int)) 0 _ (HW4.out.2.2.then_ hC5.1))
  refine wpList_store_mid rfl 27 _ _ rfl gx 0 ([x0, x1, x2, x3, x4].map fun (n : Nat) => Value.int .u64 (n : Int)).toArray rfl rfl (ex.there rfl) size5 (one5 _) ?_
  refine wpList_store_mid rfl 27 _ _ rfl gy 0 ([y0, y1, y2, y3, y4].map fun (n : Nat) => Value.int .u64 (n : Int)).toArray rfl rfl (ey2.there rfl) size5 (one5 _) ?_
  simp only [Act.put]
  generalize (w5.setCells gx 0 ([x0, x1, x2, x3, x4].map fun (n : Nat) => Value.int .u64 (n : Int))).setCells gy 0 ([y0, y1, y2, y3, y4].map fun (n : Nat) => Value.int .u64 (n : Int)) = W3 at *
  clear okx oky valx valy hvx hvy ex ey ey2 hC5 bx by' hgx hgy LUx LUy
  have HE3 := Lib.hid (And.intro ex3 (And.intro ey3 (And.intro ux3 (And.intro uy3 bW))))
  clear ex3 ey3 ux3 uy3 bW
  go_wp2_with fail
  obtain ⟨HEx, HEy, HUx, HUy, HBW⟩ := HE3.out
  have HLx : gx < W3.heap.size := (Array.getElem?_eq_some_iff.1 HEx).1
  have HLy : gy < W3.heap.size := (Array.getElem?_eq_some_iff.1 HEy).1
  have LUx : w.heap.size < W3.heap.size := (Array.getElem?_eq_some_iff.1 HUx).1
  have LUy : w.heap.size + 1 < W3.heap.size := (Array.getElem?_eq_some_iff.1 HUy).1
  apply wp_region_ls (by kernel_rfl) (by kernel_rfl)
  apply ls_el (.tmp 5) HEx HLx rfl rfl rfl
  simp only [Act.put, List.setIfInBounds_toArray, List.set_cons_succ, List.set_cons_zero]
  apply ls_el (.tmp 6) HEy HLy rfl rfl rfl
  simp only [Act.put, List.setIfInBounds_toArray, List.set_cons_succ, List.set_cons_zero]
  apply ls_call_el ((leN bsx) + (leN bsy)) 20 #[E5 x0 x1 x2 x3 x4, E5 y0 y1 y2 y3 y4] rfl (by intro W; go_simp) (fun W => add_calls _ _ _ _ HXx.out HXy.out W)
  intro v1 hv1
  simp only [Act.put, List.setIfInBounds_toArray, List.set_cons_succ, List.set_cons_zero]
  apply ls_b32 (.tmp 2) HUx hlx LUx rfl rfl rfl
  simp only [Act.put, List.setIfInBounds_toArray, List.set_cons_succ, List.set_cons_zero]
  apply ls_call_num (leN bsx) 15 #[A32 bsx] rfl (by intro W; go_simp) (fun W => num_calls _ hlx W)
  intro v2 hv2
  simp only [Act.put, List.setIfInBounds_toArray, List.set_cons_succ, List.set_cons_zero]
  apply ls_b32 (.tmp 3) HUy hly LUy rfl rfl rfl
  simp only [Act.put, List.setIfInBounds_toArray, List.set_cons_succ, List.set_cons_zero]
  apply ls_call_num (leN bsy) 15 #[A32 bsy] rfl (by intro W; go_simp) (fun W => num_calls _ hly W)
  intro v3 hv3
  simp only [Act.put, List.setIfInBounds_toArray, List.set_cons_succ, List.set_cons_zero]
  apply ls_call_num ((leN bsx) + (leN bsy)) 21 #[v2, v3] rfl (by intro W; go_simp) (fun W => refAdd_num _ _ _ _ hv2 hv3 W)
  intro v4 hv4
  simp only [Act.put, List.setIfInBounds_toArray, List.set_cons_succ, List.set_cons_zero]
  apply ls_callx (.bool true) 14 #[v1, v4] rfl (by intro W; go_simp) (fun W => (isx_calls _ _ _ _ hv1 hv4 W).mono fun e W' h => ⟨by rw [h.1]; exact ret_bool (decide_eq_true rfl), h.2⟩)
  simp only [Act.put, List.setIfInBounds_toArray, List.set_cons_succ, List.set_cons_zero]
  apply ls_move (.bool true) (.tmp 25) rfl rfl rfl
  simp only [Act.put, List.setIfInBounds_toArray, List.set_cons_succ, List.set_cons_zero]
  apply ls_el (.tmp 5) HEx HLx rfl rfl rfl
  simp only [Act.put, List.setIfInBounds_toArray, List.set_cons_succ, List.set_cons_zero]
  apply ls_el (.tmp 6) HEy HLy rfl rfl rfl
  simp only [Act.put, List.setIfInBounds_toArray, List.set_cons_succ, List.set_cons_zero]
  apply ls_call_el ((leN bsx) + (P - (leN bsy) % P)) 22 #[E5 x0 x1 x2 x3 x4, E5 y0 y1 y2 y3 y4] rfl (by intro W; go_simp) (fun W => sub_calls _ _ _ _ HXx.out HXy.out W)
  intro v5 hv5
  simp only [Act.put, List.setIfInBounds_toArray, List.set_cons_succ, List.set_cons_zero]
  apply ls_b32 (.tmp 2) HUx hlx LUx rfl rfl rfl
  simp only [Act.put, List.setIfInBounds_toArray, List.set_cons_succ, List.set_cons_zero]
  apply ls_call_num (leN bsx) 15 #[A32 bsx] rfl (by intro W; go_simp) (fun W => num_calls _ hlx W)
  intro v6 hv6
  simp only [Act.put, List.setIfInBounds_toArray, List.set_cons_succ, List.set_cons_zero]
  apply ls_b32 (.tmp 3) HUy hly LUy rfl rfl rfl
  simp only [Act.put, List.setIfInBounds_toArray, List.set_cons_succ, List.set_cons_zero]
  apply ls_call_num (leN bsy) 15 #[A32 bsy] rfl (by intro W; go_simp) (fun W => num_calls _ hly W)
  intro v7 hv7
  simp only [Act.put, List.setIfInBounds_toArray, List.set_cons_succ, List.set_cons_zero]
  apply ls_call_num ((leN bsx) + (P - (leN bsy) % P)) 23 #[v6, v7] rfl (by intro W; go_simp) (fun W => refSub_num _ _ _ _ hv6 hv7 W)
  intro v8 hv8
  simp only [Act.put, List.setIfInBounds_toArray, List.set_cons_succ, List.set_cons_zero]
  apply ls_callx (.bool true) 14 #[v5, v8] rfl (by intro W; go_simp) (fun W => (isx_calls _ _ _ _ hv5 hv8 W).mono fun e W' h => ⟨by rw [h.1]; exact ret_bool (decide_eq_true rfl), h.2⟩)
  simp only [Act.put, List.setIfInBounds_toArray, List.set_cons_succ, List.set_cons_zero]
  apply ls_pure (.bool true) rfl (by intro W; go_simp)
  simp only [Act.put, List.setIfInBounds_toArray, List.set_cons_succ, List.set_cons_zero]
  apply ls_move (.bool true) (.tmp 36) rfl rfl rfl
  simp only [Act.put, List.setIfInBounds_toArray, List.set_cons_succ, List.set_cons_zero]
  apply ls_el (.tmp 5) HEx HLx rfl rfl rfl
  simp only [Act.put, List.setIfInBounds_toArray, List.set_cons_succ, List.set_cons_zero]
  apply ls_call_el (P - (leN bsx) % P) 24 #[E5 x0 x1 x2 x3 x4] rfl (by intro W; go_simp) (fun W => neg_calls _ _ HXx.out W)
  intro v9 hv9
  simp only [Act.put, List.setIfInBounds_toArray, List.set_cons_succ, List.set_cons_zero]
  apply ls_pure (A16 Z16) rfl (by intro W; go_simp; rfl)
  simp only [Act.put, List.setIfInBounds_toArray, List.set_cons_succ, List.set_cons_zero]
  apply ls_b32 (.tmp 2) HUx hlx LUx rfl rfl rfl
  simp only [Act.put, List.setIfInBounds_toArray, List.set_cons_succ, List.set_cons_zero]
  apply ls_call_num (leN bsx) 15 #[A32 bsx] rfl (by intro W; go_simp) (fun W => num_calls _ hlx W)
  intro v10 hv10
  simp only [Act.put, List.setIfInBounds_toArray, List.set_cons_succ, List.set_cons_zero]
  apply ls_call_num (0 + (P - (leN bsx) % P)) 23 #[A16 Z16, v10] rfl (by intro W; go_simp) (fun W => refSub_num _ _ _ _ IsNum.zero hv10 W)
  intro v11 hv11
  simp only [Act.put, List.setIfInBounds_toArray, List.set_cons_succ, List.set_cons_zero]
  apply ls_callx (.bool true) 14 #[v9, v11] rfl (by intro W; go_simp) (fun W => (isx_calls _ _ _ _ hv9 hv11 W).mono fun e W' h => ⟨by rw [h.1]; rw [Nat.zero_add]; exact ret_bool (decide_eq_true rfl), h.2⟩)
  simp only [Act.put, List.setIfInBounds_toArray, List.set_cons_succ, List.set_cons_zero]
  apply ls_pure (.bool true) rfl (by intro W; go_simp)
  simp only [Act.put, List.setIfInBounds_toArray, List.set_cons_succ, List.set_cons_zero]
  apply ls_assign (.bool true) (.tmp 45) rfl rfl rfl
  simp only [Act.put, List.setIfInBounds_toArray, List.set_cons_succ, List.set_cons_zero]
  refine ls_nil (Rs := []) ?_
  intro w8 b8
  have hfin := HBW.then_ b8
  clear HBW b8 HEx HEy HUx HUy HLx HLy LUx LUy HE3
  go_wp2_with fail
  go_ret
  exact ⟨rfl, hfin⟩
end Go.Proofs.Ytpdoegfmngibgaa
