/- Layer 5: the law of Good. -/
import Derived.Test.YtmegjpjfkpgmbaaDoorScK
namespace Go.Proofs.YtmegjpjfkpgmbaaDoor
open Go.ChangeShapes Go.WideShapes Go.ChangeAt Go.RowKit Go.IntWalk
set_option linter.unusedVariables false

theorem seven_good : decide (leN (byteN 7) < LO) = true := by decide +kernel
theorem lit7 : Value.agg #[.int .u8 7, .int .u8 0, .int .u8 0, .int .u8 0, .int .u8 0, .int .u8 0, .int .u8 0, .int .u8 0, .int .u8 0, .int .u8 0, .int .u8 0, .int .u8 0, .int .u8 0, .int .u8 0, .int .u8 0, .int .u8 0, .int .u8 0, .int .u8 0, .int .u8 0, .int .u8 0, .int .u8 0, .int .u8 0, .int .u8 0, .int .u8 0, .int .u8 0, .int .u8 0, .int .u8 0, .int .u8 0, .int .u8 0, .int .u8 0, .int .u8 0, .int .u8 0] = A32 (byteN 7) := litB7.symm
set_option maxRecDepth 100000 in
set_option maxHeartbeats 4000000 in
theorem scalarGood_walk (bs : List UInt8) (hl : bs.length = 32) (w : World) (hT : Tab w) :
    Calls Tryd.prog 4 #[.agg (bs.map fun c => Value.int .u8 (c.toNat : Int)).toArray] w fun e w' => e = .returned (.bool true) ∧ Below w.heap.size w w' := by
  have h0 : Blk (w.alloc (.cells (u8b bs).toArray 23)) w.heap.size 23 (u8b bs) := Blk.new _ _ _
  have hb := (Below.refl w.heap.size w).alloc (Nat.le_refl _) (.cells (u8b bs).toArray 23)
  have hT0 := hT.later hb
  have hs32 := size32u bs hl
  obtain ⟨cs, hcs⟩ : ∃ cs, u8b bs = cs := ⟨_, rfl⟩
  rw [show (bs.map fun c => Value.int .u8 (c.toNat : Int)) = cs from hcs]
  rw [hcs] at h0 hb hT0 hs32
  have HA : Hid (A32 bs = .agg cs.toArray) := Lib.hid (by unfold A32; rw [hcs])
  have H0 := Lib.hid (And.intro h0 (And.intro hb hT0))
  have HCS := Lib.hid hcs
  have HS := Lib.hid hs32
  clear hT h0 hb hT0 hcs hs32
  go_enter Tryd.func4, Tryd.ntmps4
  go_wp2_with fail
  rw [lit7]
  refine (good_calls (byteN 7) rfl _ H0.out.2.2).mono ?_
  rintro e w1 ⟨rfl, b1⟩
  rw [seven_good]
  have h1 := H0.out.1.later b1
  have H1 := Lib.hid (And.intro h1 (And.intro (H0.out.2.1.then_ b1) (H0.out.2.2.later b1)))
  clear h1 b1 H0
  go_wp2_with fail
  have hg1 : ∀ W, Tab W → Calls Tryd.prog 12 #[.agg cs.toArray] W fun e w' => e = .returned (.bool (decide (leN bs < LO))) ∧ Below W.heap.size W w' := fun W h => by rw [← HA.out]; exact good_calls bs hl W h
  have ht1 : ∀ W, Calls Tryd.prog 10 #[.agg cs.toArray] W fun e w' => e = .returned (.string ⟨bs.toArray⟩) ∧ Below W.heap.size W w' := fun W => by rw [← HA.out]; exact text_calls bs hl W
  have hr1 := refGood_calls bs hl
  have hlo : leN (leB 32 (leN bs % LO)) < LO := by
    rw [leN_leB, Nat.mod_eq_of_lt (Nat.lt_trans (Nat.mod_lt _ LO_pos) (by decide +kernel))]; exact Nat.mod_lt _ LO_pos
  have hg2 : ∀ W, Tab W → Calls Tryd.prog 12 #[A32 (leB 32 (leN bs % LO))] W fun e w' => e = .returned (.bool true) ∧ Below W.heap.size W w' := fun W h => (good_calls _ (leB_len _ _) W h).mono fun e w' hh => by rw [decide_eq_true hlo] at hh; exact hh
  obtain ⟨D, hD⟩ : ∃ b, decide (leN bs < LO) = b := ⟨_, rfl⟩
  rw [hD] at hg1
  simp only [hD] at hr1
  generalize A32 (byteN 7) = z7 at *
  clear hlo
  apply wp_region_g 11 (by kernel_rfl) (by kernel_rfl)
  simp only [List.take_succ_cons, List.take_zero, List.drop_succ_cons, List.drop_zero]
  apply lg_load 23 (.tmp 1) rfl w.heap.size 0 cs _ H1.out.1.rng H1.out.1.lt Tryd.underlying23 rfl HS.out rfl rfl
  simp only [Act.put, List.setIfInBounds_toArray, List.set_cons_succ, List.set_cons_zero]
  apply lg_callx_in (.bool D) 12 #[.agg cs.toArray] rfl (by intro W; go_simp) (fun W hW => hg1 W (H1.out.2.2.later hW))
  simp only [Act.put, List.setIfInBounds_toArray, List.set_cons_succ, List.set_cons_zero]
  apply lg_load 23 (.tmp 1) rfl w.heap.size 0 cs _ H1.out.1.rng H1.out.1.lt Tryd.underlying23 rfl HS.out rfl rfl
  simp only [Act.put, List.setIfInBounds_toArray, List.set_cons_succ, List.set_cons_zero]
  apply lg_callx_in (.string ⟨bs.toArray⟩) 10 #[.agg cs.toArray] rfl (by intro W; go_simp) (fun W hW => ht1 W)
  simp only [Act.put, List.setIfInBounds_toArray, List.set_cons_succ, List.set_cons_zero]
  apply lg_callx_in (.bool D) 13 #[.string ⟨bs.toArray⟩] rfl (by intro W; go_simp) (fun W hW => hr1 W)
  simp only [Act.put, List.setIfInBounds_toArray, List.set_cons_succ, List.set_cons_zero]
  apply lg_pure (.bool true) rfl (by intro W; go_simp)
  simp only [Act.put, List.setIfInBounds_toArray, List.set_cons_succ, List.set_cons_zero]
  apply lg_pure (.bool true) rfl (by intro W; go_simp)
  simp only [Act.put, List.setIfInBounds_toArray, List.set_cons_succ, List.set_cons_zero]
  apply lg_pure (.slice (some ⟨w.heap.size, 0, none⟩) 32 32) rfl (by intro W; go_simp)
  simp only [Act.put, List.setIfInBounds_toArray, List.set_cons_succ, List.set_cons_zero]
  apply lg_callx_in (A32 (leB 32 (leN bs % LO))) 9 #[.slice (some ⟨w.heap.size, 0, none⟩) 32 32] rfl (by intro W; go_simp) (fun W hW => rest_calls _ 32 32 bs (Lib.hid hl.symm) (by decide) W (H1.out.2.2.later hW) (rb_blk (T := 23) (by rw [HCS.out]; exact H1.out.1.later hW)))
  simp only [Act.put, List.setIfInBounds_toArray, List.set_cons_succ, List.set_cons_zero]
  apply lg_callx_in (.bool true) 12 #[A32 (leB 32 (leN bs % LO))] rfl (by intro W; go_simp) (fun W hW => hg2 W (H1.out.2.2.later hW))
  simp only [Act.put, List.setIfInBounds_toArray, List.set_cons_succ, List.set_cons_zero]
  apply lg_pure (.bool true) rfl (by intro W; go_simp)
  simp only [Act.put, List.setIfInBounds_toArray, List.set_cons_succ, List.set_cons_zero]
  refine lg_nil ?_
  intro w7 hC7
  have H7 := Lib.hid (H1.out.2.1.then_ hC7.1)
  clear hC7
  go_wp2_with fail
  go_ret
  exact ⟨rfl, H7.out⟩
end Go.Proofs.YtmegjpjfkpgmbaaDoor
