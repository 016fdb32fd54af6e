/- Layer 6: whether two points are the same, walked. -/
import Derived.Test.YtoligamlafgaoaaDoorCvG
namespace Go.Proofs.YtoligamlafgaoaaDoor
open Go.ChangeShapes Go.WideShapes Go.ChangeAt Go.RowKit Go.IntWalk
set_option linter.unusedVariables false

set_option maxRecDepth 100000 in
set_option maxHeartbeats 4000000 in
theorem is_raw {a1 b1 c1 d1 a2 b2 c2 d2 : List Value} {X1 Y1 Z1 T1 X2 Y2 Z2 T2 : F} (ha1 : E a1 X1) (hb1 : E b1 Y1) (hc1 : E c1 Z1) (hd1 : E d1 T1) (ha2 : E a2 X2) (hb2 : E b2 Y2) (hc2 : E c2 Z2) (hd2 : E d2 T2) (w : World) :
    Calls Tryd.prog 16 #[.agg (a1 ++ b1 ++ c1 ++ d1).toArray, .agg (a2 ++ b2 ++ c2 ++ d2).toArray] w fun e w' => e = .returned (.bool (decide (X1 * Z2 = X2 * Z1) && decide (Y1 * Z2 = Y2 * Z1))) ∧ Below w.heap.size w w' := by
  obtain ⟨p1c, hp1c⟩ : ∃ c, a1 ++ b1 ++ c1 ++ d1 = c := ⟨_, rfl⟩
  obtain ⟨p2c, hp2c⟩ : ∃ c, a2 ++ b2 ++ c2 ++ d2 = c := ⟨_, rfl⟩
  rw [hp1c, hp2c]
  go_enter Tryd.func16, Tryd.ntmps16
  go_upto_region 1 with fail
  refine wp_gen (fun W => Blk W w.heap.size 28 p1c ∧ Blk W (w.heap.size + 1) 28 p2c ∧ Below w.heap.size w W) ?_ ?_
  · exact alloc2 w _ _ _ _
  rintro W0 ⟨Bp2, Bp3, HB⟩
  obtain ⟨Rp20, Rp21, Rp22, Rp23⟩ := Q4.rows ha1 hb1 hc1 hd1 (by rw [hp1c]; exact Bp2)
  have Lp2 := Bp2.lt
  obtain ⟨Rp30, Rp31, Rp32, Rp33⟩ := Q4.rows ha2 hb2 hc2 hd2 (by rw [hp2c]; exact Bp3)
  have Lp3 := Bp3.lt
  go_wp2_with fail
  by_cases hx : X1 * Z2 = X2 * Z1
  · by_cases hy : Y1 * Z2 = Y2 * Z1
    · skip
      apply wp_region_g 24 (by kernel_rfl) (by kernel_rfl)
      simp only [List.take_succ_cons, List.take_zero, List.drop_succ_cons, List.drop_zero]
      apply lg_pure (.pointer (some ⟨w.heap.size, 0, none⟩)) rfl (by intro W; go_simp)
      simp only [Act.put, List.setIfInBounds_toArray, List.set_cons_succ, List.set_cons_zero]
      apply lg_e (.tmp 5) ha1 Rp20 Lp2 rfl rfl rfl
      simp only [Act.put, List.setIfInBounds_toArray, List.set_cons_succ, List.set_cons_zero]
      apply lg_pure (.pointer (some ⟨w.heap.size + 1, 10, none⟩)) rfl (by intro W; go_simp)
      simp only [Act.put, List.setIfInBounds_toArray, List.set_cons_succ, List.set_cons_zero]
      apply lg_e (.tmp 7) hc2 Rp32 Lp3 rfl rfl rfl
      simp only [Act.put, List.setIfInBounds_toArray, List.set_cons_succ, List.set_cons_zero]
      apply lg_f (X1 * Z2) 30 #[.agg a1.toArray, .agg c2.toArray] rfl (by intro W; go_simp) (fun W => fmul_calls ha1 hc2 W)
      rintro _ ⟨v9, rfl, h9⟩
      simp only [Act.put, List.setIfInBounds_toArray, List.set_cons_succ, List.set_cons_zero]
      apply lg_pure (.pointer (some ⟨w.heap.size + 1, 0, none⟩)) rfl (by intro W; go_simp)
      simp only [Act.put, List.setIfInBounds_toArray, List.set_cons_succ, List.set_cons_zero]
      apply lg_e (.tmp 10) ha2 Rp30 Lp3 rfl rfl rfl
      simp only [Act.put, List.setIfInBounds_toArray, List.set_cons_succ, List.set_cons_zero]
      apply lg_pure (.pointer (some ⟨w.heap.size, 10, none⟩)) rfl (by intro W; go_simp)
      simp only [Act.put, List.setIfInBounds_toArray, List.set_cons_succ, List.set_cons_zero]
      apply lg_e (.tmp 12) hc1 Rp22 Lp2 rfl rfl rfl
      simp only [Act.put, List.setIfInBounds_toArray, List.set_cons_succ, List.set_cons_zero]
      apply lg_f (X2 * Z1) 30 #[.agg a2.toArray, .agg c1.toArray] rfl (by intro W; go_simp) (fun W => fmul_calls ha2 hc1 W)
      rintro _ ⟨v14, rfl, h14⟩
      simp only [Act.put, List.setIfInBounds_toArray, List.set_cons_succ, List.set_cons_zero]
      apply lg_callx (.bool true) 37 #[.agg v9.toArray, .agg v14.toArray] rfl (by intro W; go_simp) (fun W => (fis_calls h9 h14 W).mono fun e W' h => ⟨by rw [h.1, decide_eq_true hx], h.2⟩)
      simp only [Act.put, List.setIfInBounds_toArray, List.set_cons_succ, List.set_cons_zero]
      apply lg_pure (.bool true) rfl (by intro W; go_simp)
      simp only [Act.put, List.setIfInBounds_toArray, List.set_cons_succ, List.set_cons_zero]
      apply lg_pure (.pointer (some ⟨w.heap.size, 5, none⟩)) rfl (by intro W; go_simp)
      simp only [Act.put, List.setIfInBounds_toArray, List.set_cons_succ, List.set_cons_zero]
      apply lg_e (.tmp 17) hb1 Rp21 Lp2 rfl rfl rfl
      simp only [Act.put, List.setIfInBounds_toArray, List.set_cons_succ, List.set_cons_zero]
      apply lg_pure (.pointer (some ⟨w.heap.size + 1, 10, none⟩)) rfl (by intro W; go_simp)
      simp only [Act.put, List.setIfInBounds_toArray, List.set_cons_succ, List.set_cons_zero]
      apply lg_e (.tmp 19) hc2 Rp32 Lp3 rfl rfl rfl
      simp only [Act.put, List.setIfInBounds_toArray, List.set_cons_succ, List.set_cons_zero]
      apply lg_f (Y1 * Z2) 30 #[.agg b1.toArray, .agg c2.toArray] rfl (by intro W; go_simp) (fun W => fmul_calls hb1 hc2 W)
      rintro _ ⟨v21, rfl, h21⟩
      simp only [Act.put, List.setIfInBounds_toArray, List.set_cons_succ, List.set_cons_zero]
      apply lg_pure (.pointer (some ⟨w.heap.size + 1, 5, none⟩)) rfl (by intro W; go_simp)
      simp only [Act.put, List.setIfInBounds_toArray, List.set_cons_succ, List.set_cons_zero]
      apply lg_e (.tmp 22) hb2 Rp31 Lp3 rfl rfl rfl
      simp only [Act.put, List.setIfInBounds_toArray, List.set_cons_succ, List.set_cons_zero]
      apply lg_pure (.pointer (some ⟨w.heap.size, 10, none⟩)) rfl (by intro W; go_simp)
      simp only [Act.put, List.setIfInBounds_toArray, List.set_cons_succ, List.set_cons_zero]
      apply lg_e (.tmp 24) hc1 Rp22 Lp2 rfl rfl rfl
      simp only [Act.put, List.setIfInBounds_toArray, List.set_cons_succ, List.set_cons_zero]
      apply lg_f (Y2 * Z1) 30 #[.agg b2.toArray, .agg c1.toArray] rfl (by intro W; go_simp) (fun W => fmul_calls hb2 hc1 W)
      rintro _ ⟨v26, rfl, h26⟩
      simp only [Act.put, List.setIfInBounds_toArray, List.set_cons_succ, List.set_cons_zero]
      apply lg_callx (.bool true) 37 #[.agg v21.toArray, .agg v26.toArray] rfl (by intro W; go_simp) (fun W => (fis_calls h21 h26 W).mono fun e W' h => ⟨by rw [h.1, decide_eq_true hy], h.2⟩)
      simp only [Act.put, List.setIfInBounds_toArray, List.set_cons_succ, List.set_cons_zero]
      apply lg_pure (.bool true) rfl (by intro W; go_simp)
      simp only [Act.put, List.setIfInBounds_toArray, List.set_cons_succ, List.set_cons_zero]
      refine lg_nil ?_
      intro WY hC
      have HL := Lib.hid (HB.then_ hC.1)
      clear hC
      go_wp2_with fail
      go_ret
      exact ⟨by rw [decide_eq_true hx, decide_eq_true hy, Bool.and_self]; rfl, HL.out⟩
    · skip
      apply wp_region_g 24 (by kernel_rfl) (by kernel_rfl)
      simp only [List.take_succ_cons, List.take_zero, List.drop_succ_cons, List.drop_zero]
      apply lg_pure (.pointer (some ⟨w.heap.size, 0, none⟩)) rfl (by intro W; go_simp)
      simp only [Act.put, List.setIfInBounds_toArray, List.set_cons_succ, List.set_cons_zero]
      apply lg_e (.tmp 5) ha1 Rp20 Lp2 rfl rfl rfl
      simp only [Act.put, List.setIfInBounds_toArray, List.set_cons_succ, List.set_cons_zero]
      apply lg_pure (.pointer (some ⟨w.heap.size + 1, 10, none⟩)) rfl (by intro W; go_simp)
      simp only [Act.put, List.setIfInBounds_toArray, List.set_cons_succ, List.set_cons_zero]
      apply lg_e (.tmp 7) hc2 Rp32 Lp3 rfl rfl rfl
      simp only [Act.put, List.setIfInBounds_toArray, List.set_cons_succ, List.set_cons_zero]
      apply lg_f (X1 * Z2) 30 #[.agg a1.toArray, .agg c2.toArray] rfl (by intro W; go_simp) (fun W => fmul_calls ha1 hc2 W)
      rintro _ ⟨v9, rfl, h9⟩
      simp only [Act.put, List.setIfInBounds_toArray, List.set_cons_succ, List.set_cons_zero]
      apply lg_pure (.pointer (some ⟨w.heap.size + 1, 0, none⟩)) rfl (by intro W; go_simp)
      simp only [Act.put, List.setIfInBounds_toArray, List.set_cons_succ, List.set_cons_zero]
      apply lg_e (.tmp 10) ha2 Rp30 Lp3 rfl rfl rfl
      simp only [Act.put, List.setIfInBounds_toArray, List.set_cons_succ, List.set_cons_zero]
      apply lg_pure (.pointer (some ⟨w.heap.size, 10, none⟩)) rfl (by intro W; go_simp)
      simp only [Act.put, List.setIfInBounds_toArray, List.set_cons_succ, List.set_cons_zero]
      apply lg_e (.tmp 12) hc1 Rp22 Lp2 rfl rfl rfl
      simp only [Act.put, List.setIfInBounds_toArray, List.set_cons_succ, List.set_cons_zero]
      apply lg_f (X2 * Z1) 30 #[.agg a2.toArray, .agg c1.toArray] rfl (by intro W; go_simp) (fun W => fmul_calls ha2 hc1 W)
      rintro _ ⟨v14, rfl, h14⟩
      simp only [Act.put, List.setIfInBounds_toArray, List.set_cons_succ, List.set_cons_zero]
      apply lg_callx (.bool true) 37 #[.agg v9.toArray, .agg v14.toArray] rfl (by intro W; go_simp) (fun W => (fis_calls h9 h14 W).mono fun e W' h => ⟨by rw [h.1, decide_eq_true hx], h.2⟩)
      simp only [Act.put, List.setIfInBounds_toArray, List.set_cons_succ, List.set_cons_zero]
      apply lg_pure (.bool true) rfl (by intro W; go_simp)
      simp only [Act.put, List.setIfInBounds_toArray, List.set_cons_succ, List.set_cons_zero]
      apply lg_pure (.pointer (some ⟨w.heap.size, 5, none⟩)) rfl (by intro W; go_simp)
      simp only [Act.put, List.setIfInBounds_toArray, List.set_cons_succ, List.set_cons_zero]
      apply lg_e (.tmp 17) hb1 Rp21 Lp2 rfl rfl rfl
      simp only [Act.put, List.setIfInBounds_toArray, List.set_cons_succ, List.set_cons_zero]
      apply lg_pure (.pointer (some ⟨w.heap.size + 1, 10, none⟩)) rfl (by intro W; go_simp)
      simp only [Act.put, List.setIfInBounds_toArray, List.set_cons_succ, List.set_cons_zero]
      apply lg_e (.tmp 19) hc2 Rp32 Lp3 rfl rfl rfl
      simp only [Act.put, List.setIfInBounds_toArray, List.set_cons_succ, List.set_cons_zero]
      apply lg_f (Y1 * Z2) 30 #[.agg b1.toArray, .agg c2.toArray] rfl (by intro W; go_simp) (fun W => fmul_calls hb1 hc2 W)
      rintro _ ⟨v21, rfl, h21⟩
      simp only [Act.put, List.setIfInBounds_toArray, List.set_cons_succ, List.set_cons_zero]
      apply lg_pure (.pointer (some ⟨w.heap.size + 1, 5, none⟩)) rfl (by intro W; go_simp)
      simp only [Act.put, List.setIfInBounds_toArray, List.set_cons_succ, List.set_cons_zero]
      apply lg_e (.tmp 22) hb2 Rp31 Lp3 rfl rfl rfl
      simp only [Act.put, List.setIfInBounds_toArray, List.set_cons_succ, List.set_cons_zero]
      apply lg_pure (.pointer (some ⟨w.heap.size, 10, none⟩)) rfl (by intro W; go_simp)
      simp only [Act.put, List.setIfInBounds_toArray, List.set_cons_succ, List.set_cons_zero]
      apply lg_e (.tmp 24) hc1 Rp22 Lp2 rfl rfl rfl
      simp only [Act.put, List.setIfInBounds_toArray, List.set_cons_succ, List.set_cons_zero]
      apply lg_f (Y2 * Z1) 30 #[.agg b2.toArray, .agg c1.toArray] rfl (by intro W; go_simp) (fun W => fmul_calls hb2 hc1 W)
      rintro _ ⟨v26, rfl, h26⟩
      simp only [Act.put, List.setIfInBounds_toArray, List.set_cons_succ, List.set_cons_zero]
      apply lg_callx (.bool false) 37 #[.agg v21.toArray, .agg v26.toArray] rfl (by intro W; go_simp) (fun W => (fis_calls h21 h26 W).mono fun e W' h => ⟨by rw [h.1, decide_eq_false hy], h.2⟩)
      simp only [Act.put, List.setIfInBounds_toArray, List.set_cons_succ, List.set_cons_zero]
      apply lg_pure (.bool false) rfl (by intro W; go_simp)
      simp only [Act.put, List.setIfInBounds_toArray, List.set_cons_succ, List.set_cons_zero]
      refine lg_nil ?_
      intro WY hC
      have HL := Lib.hid (HB.then_ hC.1)
      clear hC
      go_wp2_with fail
      go_ret
      exact ⟨by rw [decide_eq_true hx, decide_eq_false hy, Bool.and_false]; rfl, HL.out⟩
  · skip
    apply wp_region_g 24 (by kernel_rfl) (by kernel_rfl)
    simp only [List.take_succ_cons, List.take_zero, List.drop_succ_cons, List.drop_zero]
    apply lg_pure (.pointer (some ⟨w.heap.size, 0, none⟩)) rfl (by intro W; go_simp)
    simp only [Act.put, List.setIfInBounds_toArray, List.set_cons_succ, List.set_cons_zero]
    apply lg_e (.tmp 5) ha1 Rp20 Lp2 rfl rfl rfl
    simp only [Act.put, List.setIfInBounds_toArray, List.set_cons_succ, List.set_cons_zero]
    apply lg_pure (.pointer (some ⟨w.heap.size + 1, 10, none⟩)) rfl (by intro W; go_simp)
    simp only [Act.put, List.setIfInBounds_toArray, List.set_cons_succ, List.set_cons_zero]
    apply lg_e (.tmp 7) hc2 Rp32 Lp3 rfl rfl rfl
    simp only [Act.put, List.setIfInBounds_toArray, List.set_cons_succ, List.set_cons_zero]
    apply lg_f (X1 * Z2) 30 #[.agg a1.toArray, .agg c2.toArray] rfl (by intro W; go_simp) (fun W => fmul_calls ha1 hc2 W)
    rintro _ ⟨v9, rfl, h9⟩
    simp only [Act.put, List.setIfInBounds_toArray, List.set_cons_succ, List.set_cons_zero]
    apply lg_pure (.pointer (some ⟨w.heap.size + 1, 0, none⟩)) rfl (by intro W; go_simp)
    simp only [Act.put, List.setIfInBounds_toArray, List.set_cons_succ, List.set_cons_zero]
    apply lg_e (.tmp 10) ha2 Rp30 Lp3 rfl rfl rfl
    simp only [Act.put, List.setIfInBounds_toArray, List.set_cons_succ, List.set_cons_zero]
    apply lg_pure (.pointer (some ⟨w.heap.size, 10, none⟩)) rfl (by intro W; go_simp)
    simp only [Act.put, List.setIfInBounds_toArray, List.set_cons_succ, List.set_cons_zero]
    apply lg_e (.tmp 12) hc1 Rp22 Lp2 rfl rfl rfl
    simp only [Act.put, List.setIfInBounds_toArray, List.set_cons_succ, List.set_cons_zero]
    apply lg_f (X2 * Z1) 30 #[.agg a2.toArray, .agg c1.toArray] rfl (by intro W; go_simp) (fun W => fmul_calls ha2 hc1 W)
    rintro _ ⟨v14, rfl, h14⟩
    simp only [Act.put, List.setIfInBounds_toArray, List.set_cons_succ, List.set_cons_zero]
    apply lg_callx (.bool false) 37 #[.agg v9.toArray, .agg v14.toArray] rfl (by intro W; go_simp) (fun W => (fis_calls h9 h14 W).mono fun e W' h => ⟨by rw [h.1, decide_eq_false hx], h.2⟩)
    simp only [Act.put, List.setIfInBounds_toArray, List.set_cons_succ, List.set_cons_zero]
    apply lg_pure (.bool false) rfl (by intro W; go_simp)
    simp only [Act.put, List.setIfInBounds_toArray, List.set_cons_succ, List.set_cons_zero]
    apply lg_skip rfl
    simp only [Act.put, List.setIfInBounds_toArray, List.set_cons_succ, List.set_cons_zero]
    apply lg_skip rfl
    simp only [Act.put, List.setIfInBounds_toArray, List.set_cons_succ, List.set_cons_zero]
    apply lg_skip rfl
    simp only [Act.put, List.setIfInBounds_toArray, List.set_cons_succ, List.set_cons_zero]
    apply lg_skip rfl
    simp only [Act.put, List.setIfInBounds_toArray, List.set_cons_succ, List.set_cons_zero]
    apply lg_skip rfl
    simp only [Act.put, List.setIfInBounds_toArray, List.set_cons_succ, List.set_cons_zero]
    apply lg_skip rfl
    simp only [Act.put, List.setIfInBounds_toArray, List.set_cons_succ, List.set_cons_zero]
    apply lg_skip rfl
    simp only [Act.put, List.setIfInBounds_toArray, List.set_cons_succ, List.set_cons_zero]
    apply lg_skip rfl
    simp only [Act.put, List.setIfInBounds_toArray, List.set_cons_succ, List.set_cons_zero]
    apply lg_skip rfl
    simp only [Act.put, List.setIfInBounds_toArray, List.set_cons_succ, List.set_cons_zero]
    apply lg_skip rfl
    simp only [Act.put, List.setIfInBounds_toArray, List.set_cons_succ, List.set_cons_zero]
    apply lg_skip rfl
    simp only [Act.put, List.setIfInBounds_toArray, List.set_cons_succ, List.set_cons_zero]
    apply lg_pure (.bool false) rfl (by intro W; go_simp)
    simp only [Act.put, List.setIfInBounds_toArray, List.set_cons_succ, List.set_cons_zero]
    refine lg_nil ?_
    intro WY hC
    have HL := Lib.hid (HB.then_ hC.1)
    clear hC
    go_wp2_with fail
    go_ret
    exact ⟨by rw [decide_eq_false hx, Bool.false_and]; rfl, HL.out⟩
theorem isP {c1 c2 : List Value} {p q : Pt} (h1 : PL c1 p) (h2 : PL c2 q) (w : World) : Calls Tryd.prog 16 #[.agg c1.toArray, .agg c2.toArray] w fun e w' => ∃ b : Bool, e = .returned (.bool b) ∧ (b = true ↔ p = q) ∧ Below w.heap.size w w' := by
  obtain ⟨_, _, _, _, ⟨_, _, _, _, rfl, ha1, hb1, hc1, hd1⟩, r1⟩ := h1
  obtain ⟨_, _, _, _, ⟨_, _, _, _, rfl, ha2, hb2, hc2, hd2⟩, r2⟩ := h2
  refine (is_raw ha1 hb1 hc1 hd1 ha2 hb2 hc2 hd2 w).mono fun e w' h => ⟨_, h.1, ?_, h.2⟩
  rw [Bool.and_eq_true, decide_eq_true_eq, decide_eq_true_eq]
  exact r1.same r2
end Go.Proofs.YtoligamlafgaoaaDoor
