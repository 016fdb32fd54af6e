/- Layer 5: the law that MulAdd and Neg answer what the document says. -/
import Derived.Test.YtmegjpjfkpgmbaaDoorScS
import Derived.Test.YtmegjpjfkpgmbaaDoorScO
namespace Go.Proofs.YtmegjpjfkpgmbaaDoor
open Go.ChangeShapes Go.WideShapes Go.ChangeAt Go.RowKit Go.IntWalk
set_option linter.unusedVariables false

set_option maxRecDepth 100000 in
set_option maxHeartbeats 8000000 in
theorem scalarMuls_walk (xs : List UInt8) (hx : xs.length = 32) (ys : List UInt8) (hy : ys.length = 32) (zs : List UInt8) (hz : zs.length = 32) (w : World) (hT : Tab w) :
    Calls Tryd.prog 5 #[.agg (xs.map fun c => Value.int .u8 (c.toNat : Int)).toArray, .agg (ys.map fun c => Value.int .u8 (c.toNat : Int)).toArray, .agg (zs.map fun c => Value.int .u8 (c.toNat : Int)).toArray] w fun e w' => e = .returned (.bool true) ∧ Below w.heap.size w w' := by
  have hal := alloc3 w (u8b xs) (u8b ys) (u8b zs) 23 23 23
  have hT0 := hT.later hal.2.2.2
  have HSX := Lib.hid (size32u xs hx)
  have HSY := Lib.hid (size32u ys hy)
  have HSZ := Lib.hid (size32u zs hz)
  have hm : ∀ W, Tab W → Calls Tryd.prog 15 #[A32 xs, A32 ys, A32 zs] W fun e w' => e = .returned (A32 (leB 32 ((leN xs * leN ys + leN zs) % LO))) ∧ Below W.heap.size W w' := fun W h => mul_calls xs ys zs hx hy hz W h
  have hng : ∀ W, Tab W → Calls Tryd.prog 17 #[A32 xs] W fun e w' => e = .returned (A32 (leB 32 ((LO - leN xs % LO) % LO))) ∧ Below W.heap.size W w' := fun W h => neg_calls xs hx W h
  have htx := text_calls xs hx
  have hty := text_calls ys hy
  have htz := text_calls zs hz
  have hrm := refMul_calls xs ys zs hx hy (by omega)
  have hrn := refNeg_calls xs hx
  have htm := text_calls (leB 32 ((leN xs * leN ys + leN zs) % LO)) (leB_len _ _)
  have htn := text_calls (leB 32 ((LO - leN xs % LO) % LO)) (leB_len _ _)
  obtain ⟨M, hM⟩ : ∃ q, leB 32 ((leN xs * leN ys + leN zs) % LO) = q := ⟨_, rfl⟩
  obtain ⟨V, hV⟩ : ∃ q, leB 32 ((LO - leN xs % LO) % LO) = q := ⟨_, rfl⟩
  rw [hM] at hm hrm htm
  rw [hV] at hng hrn htn
  unfold A32 at hm hng htx hty htz htm htn
  obtain ⟨cx, hcx⟩ : ∃ cs, u8b xs = cs := ⟨_, rfl⟩
  obtain ⟨cy, hcy⟩ : ∃ cs, u8b ys = cs := ⟨_, rfl⟩
  obtain ⟨cz, hcz⟩ : ∃ cs, u8b zs = cs := ⟨_, rfl⟩
  obtain ⟨mv, hmv⟩ : ∃ cs, u8b M = cs := ⟨_, rfl⟩
  obtain ⟨vv, hvv⟩ : ∃ cs, u8b V = cs := ⟨_, rfl⟩
  rw [show (xs.map fun c => Value.int .u8 (c.toNat : Int)) = cx from hcx, show (ys.map fun c => Value.int .u8 (c.toNat : Int)) = cy from hcy, show (zs.map fun c => Value.int .u8 (c.toNat : Int)) = cz from hcz]
  rw [hcx] at hal hT0 HSX hm hng htx
  rw [hcy] at hal hT0 HSY hm hty
  rw [hcz] at hal hT0 HSZ hm htz
  rw [hmv] at hm htm
  rw [hvv] at hng htn
  have H0 := Lib.hid (And.intro hal hT0)
  obtain ⟨Xs, hXs⟩ : ∃ q : ByteArray, ⟨xs.toArray⟩ = q := ⟨_, rfl⟩
  obtain ⟨Ys, hYs⟩ : ∃ q : ByteArray, ⟨ys.toArray⟩ = q := ⟨_, rfl⟩
  obtain ⟨Zs, hZs⟩ : ∃ q : ByteArray, ⟨zs.toArray⟩ = q := ⟨_, rfl⟩
  obtain ⟨Ms, hMs⟩ : ∃ q : ByteArray, ⟨M.toArray⟩ = q := ⟨_, rfl⟩
  obtain ⟨Vs, hVs⟩ : ∃ q : ByteArray, ⟨V.toArray⟩ = q := ⟨_, rfl⟩
  simp only [hXs] at htx hrm hrn
  simp only [hYs] at hty hrm
  simp only [hZs] at htz hrm
  simp only [hMs] at htm hrm
  simp only [hVs] at htn hrn
  clear hT hal hT0 hcx hcy hcz hM hV hmv hvv hXs hYs hZs hMs hVs
  go_enter Tryd.func5, Tryd.ntmps5
  go_wp2_with fail
  refine (alive_calls _ H0.out.2).mono ?_
  rintro e w1 ⟨rfl, b1⟩
  have H1 := Lib.hid (And.intro (H0.out.1.1.later b1) (And.intro (H0.out.1.2.1.later b1) (And.intro (H0.out.1.2.2.1.later b1) (And.intro (H0.out.2.later b1) (H0.out.1.2.2.2.then_ b1)))))
  clear b1 H0
  go_wp2_with fail
  apply wp_region_g 22 (by kernel_rfl) (by kernel_rfl)
  simp only [List.take_succ_cons, List.take_zero, List.drop_succ_cons, List.drop_zero]
  apply lg_load 23 (.tmp 3) rfl w.heap.size 0 cx _ H1.out.1.rng H1.out.1.lt Tryd.underlying23 rfl HSX.out rfl rfl
  simp only [Act.put, List.setIfInBounds_toArray, List.set_cons_succ, List.set_cons_zero]
  apply lg_load 23 (.tmp 4) rfl (w.heap.size + 1) 0 cy _ H1.out.2.1.rng H1.out.2.1.lt Tryd.underlying23 rfl HSY.out rfl rfl
  simp only [Act.put, List.setIfInBounds_toArray, List.set_cons_succ, List.set_cons_zero]
  apply lg_load 23 (.tmp 5) rfl (w.heap.size + 1 + 1) 0 cz _ H1.out.2.2.1.rng H1.out.2.2.1.lt Tryd.underlying23 rfl HSZ.out rfl rfl
  simp only [Act.put, List.setIfInBounds_toArray, List.set_cons_succ, List.set_cons_zero]
  apply lg_callx_in (.agg mv.toArray) 15 #[.agg cx.toArray, .agg cy.toArray, .agg cz.toArray] rfl (by intro W; go_simp) (fun W hW => hm W (H1.out.2.2.2.1.later hW))
  simp only [Act.put, List.setIfInBounds_toArray, List.set_cons_succ, List.set_cons_zero]
  apply lg_callx_in (.string Ms) 10 #[.agg mv.toArray] rfl (by intro W; go_simp) (fun W hW => htm W)
  simp only [Act.put, List.setIfInBounds_toArray, List.set_cons_succ, List.set_cons_zero]
  apply lg_load 23 (.tmp 3) rfl w.heap.size 0 cx _ H1.out.1.rng H1.out.1.lt Tryd.underlying23 rfl HSX.out rfl rfl
  simp only [Act.put, List.setIfInBounds_toArray, List.set_cons_succ, List.set_cons_zero]
  apply lg_callx_in (.string Xs) 10 #[.agg cx.toArray] rfl (by intro W; go_simp) (fun W hW => htx W)
  simp only [Act.put, List.setIfInBounds_toArray, List.set_cons_succ, List.set_cons_zero]
  apply lg_load 23 (.tmp 4) rfl (w.heap.size + 1) 0 cy _ H1.out.2.1.rng H1.out.2.1.lt Tryd.underlying23 rfl HSY.out rfl rfl
  simp only [Act.put, List.setIfInBounds_toArray, List.set_cons_succ, List.set_cons_zero]
  apply lg_callx_in (.string Ys) 10 #[.agg cy.toArray] rfl (by intro W; go_simp) (fun W hW => hty W)
  simp only [Act.put, List.setIfInBounds_toArray, List.set_cons_succ, List.set_cons_zero]
  apply lg_load 23 (.tmp 5) rfl (w.heap.size + 1 + 1) 0 cz _ H1.out.2.2.1.rng H1.out.2.2.1.lt Tryd.underlying23 rfl HSZ.out rfl rfl
  simp only [Act.put, List.setIfInBounds_toArray, List.set_cons_succ, List.set_cons_zero]
  apply lg_callx_in (.string Zs) 10 #[.agg cz.toArray] rfl (by intro W; go_simp) (fun W hW => htz W)
  simp only [Act.put, List.setIfInBounds_toArray, List.set_cons_succ, List.set_cons_zero]
  apply lg_callx_in (.string Ms) 16 #[.string Xs, .string Ys, .string Zs] rfl (by intro W; go_simp) (fun W hW => hrm W)
  simp only [Act.put, List.setIfInBounds_toArray, List.set_cons_succ, List.set_cons_zero]
  apply lg_pure (.bool true) rfl (by intro W; go_simp)
  simp only [Act.put, List.setIfInBounds_toArray, List.set_cons_succ, List.set_cons_zero]
  apply lg_pure (.bool true) rfl (by intro W; go_simp)
  simp only [Act.put, List.setIfInBounds_toArray, List.set_cons_succ, List.set_cons_zero]
  apply lg_load 23 (.tmp 3) rfl w.heap.size 0 cx _ H1.out.1.rng H1.out.1.lt Tryd.underlying23 rfl HSX.out rfl rfl
  simp only [Act.put, List.setIfInBounds_toArray, List.set_cons_succ, List.set_cons_zero]
  apply lg_callx_in (.agg vv.toArray) 17 #[.agg cx.toArray] rfl (by intro W; go_simp) (fun W hW => hng W (H1.out.2.2.2.1.later hW))
  simp only [Act.put, List.setIfInBounds_toArray, List.set_cons_succ, List.set_cons_zero]
  apply lg_callx_in (.string Vs) 10 #[.agg vv.toArray] rfl (by intro W; go_simp) (fun W hW => htn W)
  simp only [Act.put, List.setIfInBounds_toArray, List.set_cons_succ, List.set_cons_zero]
  apply lg_load 23 (.tmp 3) rfl w.heap.size 0 cx _ H1.out.1.rng H1.out.1.lt Tryd.underlying23 rfl HSX.out rfl rfl
  simp only [Act.put, List.setIfInBounds_toArray, List.set_cons_succ, List.set_cons_zero]
  apply lg_callx_in (.string Xs) 10 #[.agg cx.toArray] rfl (by intro W; go_simp) (fun W hW => htx W)
  simp only [Act.put, List.setIfInBounds_toArray, List.set_cons_succ, List.set_cons_zero]
  apply lg_callx_in (.string Vs) 18 #[.string Xs] rfl (by intro W; go_simp) (fun W hW => hrn W)
  simp only [Act.put, List.setIfInBounds_toArray, List.set_cons_succ, List.set_cons_zero]
  apply lg_pure (.bool true) rfl (by intro W; go_simp)
  simp only [Act.put, List.setIfInBounds_toArray, List.set_cons_succ, List.set_cons_zero]
  apply lg_pure (.bool true) rfl (by intro W; go_simp)
  simp only [Act.put, List.setIfInBounds_toArray, List.set_cons_succ, List.set_cons_zero]
  refine lg_nil ?_
  intro w9 hC9
  have H9 := Lib.hid (H1.out.2.2.2.2.then_ hC9.1)
  clear hC9 hm hng htx hty htz htm htn hrm hrn H1
  go_wp2_with fail
  go_ret
  exact ⟨rfl, H9.out⟩
end Go.Proofs.YtmegjpjfkpgmbaaDoor
