/- Layer 6: the program's sums of points, walked. -/
import Derived.Test.YtkfdclnaaphdgaaDoorCvC
namespace Go.Proofs.YtkfdclnaaphdgaaDoor
open Go.ChangeShapes Go.WideShapes Go.ChangeAt Go.RowKit Go.IntWalk
set_option linter.unusedVariables false

set_option maxRecDepth 100000 in
set_option maxHeartbeats 4000000 in
theorem crossed_calls {c1 c2 c3 c4 : List Value} {x1 x2 x3 x4 : F} (h1 : E c1 x1) (h2 : E c2 x2) (h3 : E c3 x3) (h4 : E c4 x4) (w : World) :
    Calls Tryd.prog 75 #[.agg c1.toArray, .agg c2.toArray, .agg c3.toArray, .agg c4.toArray] w (QPost (x1 * x2) (x3 * x4) (x2 * x3) (x1 * x4) w) := by
  go_enter Tryd.func75, Tryd.ntmps75
  go_upto_region 1 with fail
  refine wp_gen (fun W => Blk W w.heap.size 40 c1 ∧ Blk W (w.heap.size + 1) 40 c2 ∧ Blk W (w.heap.size + 1 + 1) 40 c3 ∧ Blk W (w.heap.size + 1 + 1 + 1) 40 c4 ∧ Blk W (w.heap.size + 1 + 1 + 1 + 1) 42 C20 ∧ Below w.heap.size w W) ?_ ?_
  · exact alloc5 w _ _ _ _ _ _ _ _ _ _
  rintro W0 ⟨Bp4, Bp5, Bp6, Bp7, Bp8, HB⟩
  have Lp4 := Bp4.lt
  have Lp5 := Bp5.lt
  have Lp6 := Bp6.lt
  have Lp7 := Bp7.lt
  have Lp8 := Bp8.lt
  go_wp2_with fail
  apply wp_region_g 13 (by kernel_rfl) (by kernel_rfl)
  simp only [List.take_succ_cons, List.take_zero, List.drop_succ_cons, List.drop_zero]
  apply lg_e (.tmp 4) h1 Bp4.rng Lp4 rfl rfl rfl
  simp only [Act.put, List.setIfInBounds_toArray, List.set_cons_succ, List.set_cons_zero]
  apply lg_e (.tmp 5) h2 Bp5.rng Lp5 rfl rfl rfl
  simp only [Act.put, List.setIfInBounds_toArray, List.set_cons_succ, List.set_cons_zero]
  apply lg_f (x1 * x2) 45 #[.agg c1.toArray, .agg c2.toArray] rfl (by intro W; go_simp) (fun W => fmul_calls h1 h2 W)
  rintro _ ⟨v11, rfl, h11⟩
  simp only [Act.put, List.setIfInBounds_toArray, List.set_cons_succ, List.set_cons_zero]
  apply lg_e (.tmp 6) h3 Bp6.rng Lp6 rfl rfl rfl
  simp only [Act.put, List.setIfInBounds_toArray, List.set_cons_succ, List.set_cons_zero]
  apply lg_e (.tmp 7) h4 Bp7.rng Lp7 rfl rfl rfl
  simp only [Act.put, List.setIfInBounds_toArray, List.set_cons_succ, List.set_cons_zero]
  apply lg_f (x3 * x4) 45 #[.agg c3.toArray, .agg c4.toArray] rfl (by intro W; go_simp) (fun W => fmul_calls h3 h4 W)
  rintro _ ⟨v14, rfl, h14⟩
  simp only [Act.put, List.setIfInBounds_toArray, List.set_cons_succ, List.set_cons_zero]
  apply lg_e (.tmp 5) h2 Bp5.rng Lp5 rfl rfl rfl
  simp only [Act.put, List.setIfInBounds_toArray, List.set_cons_succ, List.set_cons_zero]
  apply lg_e (.tmp 6) h3 Bp6.rng Lp6 rfl rfl rfl
  simp only [Act.put, List.setIfInBounds_toArray, List.set_cons_succ, List.set_cons_zero]
  apply lg_f (x2 * x3) 45 #[.agg c2.toArray, .agg c3.toArray] rfl (by intro W; go_simp) (fun W => fmul_calls h2 h3 W)
  rintro _ ⟨v17, rfl, h17⟩
  simp only [Act.put, List.setIfInBounds_toArray, List.set_cons_succ, List.set_cons_zero]
  apply lg_e (.tmp 4) h1 Bp4.rng Lp4 rfl rfl rfl
  simp only [Act.put, List.setIfInBounds_toArray, List.set_cons_succ, List.set_cons_zero]
  apply lg_e (.tmp 7) h4 Bp7.rng Lp7 rfl rfl rfl
  simp only [Act.put, List.setIfInBounds_toArray, List.set_cons_succ, List.set_cons_zero]
  apply lg_f (x1 * x4) 45 #[.agg c1.toArray, .agg c4.toArray] rfl (by intro W; go_simp) (fun W => fmul_calls h1 h4 W)
  rintro _ ⟨v20, rfl, h20⟩
  simp only [Act.put, List.setIfInBounds_toArray, List.set_cons_succ, List.set_cons_zero]
  have hq21 := Q4.mk h11 h14 h17 h20
  have bq21 := fun W => build4 h11 h14 h17 h20 W
  obtain ⟨q21, eq21⟩ : ∃ q, v11 ++ v14 ++ v17 ++ v20 = q := ⟨_, rfl⟩
  rw [eq21] at hq21 bq21
  clear eq21
  apply lg_rv (fun v => ∃ c, v = .agg c.toArray ∧ Q4 c (x1 * x2) (x3 * x4) (x2 * x3) (x1 * x4)) (.agg (q21).toArray) ⟨_, rfl, hq21⟩ rfl (fun W => run_buildop (vs := #[(0, .agg v11.toArray), (1, .agg v14.toArray), (2, .agg v17.toArray), (3, .agg v20.toArray)]) rfl (by first | rfl | go_simp) (bq21 W))
  clear hq21 bq21
  rintro _ ⟨wq21, rfl, hwq21⟩
  simp only [Act.put, List.setIfInBounds_toArray, List.set_cons_succ, List.set_cons_zero]
  refine lg_nil ?_
  intro WY1 hC
  obtain ⟨T0, HL, N0⟩ := ansB (cs := wq21) Bp8 HB (by omega) hC.1 (by rw [hwq21.len]; rfl)
  refine wpList_store_mid rfl 42 _ _ rfl (w.heap.size + 1 + 1 + 1 + 1) 0 wq21.toArray rfl rfl T0 hwq21.sizeA hwq21.one ?_
  simp only [Act.put]
  go_wp2_with fail
  exact bodyPost_ret (v := .agg (wq21).toArray) (res_cell rfl _ _ _ _ rfl (N0.load 42 Tryd.underlying42 rfl hwq21.size)) rfl ⟨_, rfl, ⟨_, rfl, hwq21⟩, HL⟩
set_option maxRecDepth 100000 in
set_option maxHeartbeats 4000000 in
theorem point_calls {c1 c2 : List Value} {x1 x2 : F} (h1 : E c1 x1) (h2 : E c2 x2) (w : World) :
    Calls Tryd.prog 38 #[.agg c1.toArray, .agg c2.toArray] w (QPost x1 x2 1 (x1 * x2) w) := by
  go_enter Tryd.func38, Tryd.ntmps38
  go_upto_region 1 with fail
  refine wp_gen (fun W => Blk W w.heap.size 40 c1 ∧ Blk W (w.heap.size + 1) 40 c2 ∧ Blk W (w.heap.size + 1 + 1) 42 C20 ∧ Below w.heap.size w W) ?_ ?_
  · exact alloc3 w _ _ _ _ _ _
  rintro W0 ⟨Bp2, Bp3, Bp4, HB⟩
  have Lp2 := Bp2.lt
  have Lp3 := Bp3.lt
  have Lp4 := Bp4.lt
  go_wp2_with fail
  apply wp_region_g 7 (by kernel_rfl) (by kernel_rfl)
  simp only [List.take_succ_cons, List.take_zero, List.drop_succ_cons, List.drop_zero]
  apply lg_e (.tmp 2) h1 Bp2.rng Lp2 rfl rfl rfl
  simp only [Act.put, List.setIfInBounds_toArray, List.set_cons_succ, List.set_cons_zero]
  apply lg_e (.tmp 3) h2 Bp3.rng Lp3 rfl rfl rfl
  simp only [Act.put, List.setIfInBounds_toArray, List.set_cons_succ, List.set_cons_zero]
  apply lg_f (1) 58 #[.int .u32 1] rfl (by intro W; go_simp) (fun W => fsmall_calls 1 (by decide) 1 one_val.symm W)
  rintro _ ⟨v7, rfl, h7⟩
  simp only [Act.put, List.setIfInBounds_toArray, List.set_cons_succ, List.set_cons_zero]
  apply lg_e (.tmp 2) h1 Bp2.rng Lp2 rfl rfl rfl
  simp only [Act.put, List.setIfInBounds_toArray, List.set_cons_succ, List.set_cons_zero]
  apply lg_e (.tmp 3) h2 Bp3.rng Lp3 rfl rfl rfl
  simp only [Act.put, List.setIfInBounds_toArray, List.set_cons_succ, List.set_cons_zero]
  apply lg_f (x1 * x2) 45 #[.agg c1.toArray, .agg c2.toArray] rfl (by intro W; go_simp) (fun W => fmul_calls h1 h2 W)
  rintro _ ⟨v10, rfl, h10⟩
  simp only [Act.put, List.setIfInBounds_toArray, List.set_cons_succ, List.set_cons_zero]
  have hq11 := Q4.mk h1 h2 h7 h10
  have bq11 := fun W => build4 h1 h2 h7 h10 W
  obtain ⟨q11, eq11⟩ : ∃ q, c1 ++ c2 ++ v7 ++ v10 = q := ⟨_, rfl⟩
  rw [eq11] at hq11 bq11
  clear eq11
  apply lg_rv (fun v => ∃ c, v = .agg c.toArray ∧ Q4 c x1 x2 1 (x1 * x2)) (.agg (q11).toArray) ⟨_, rfl, hq11⟩ rfl (fun W => run_buildop (vs := #[(0, .agg c1.toArray), (1, .agg c2.toArray), (2, .agg v7.toArray), (3, .agg v10.toArray)]) rfl (by first | rfl | go_simp) (bq11 W))
  clear hq11 bq11
  rintro _ ⟨wq11, rfl, hwq11⟩
  simp only [Act.put, List.setIfInBounds_toArray, List.set_cons_succ, List.set_cons_zero]
  refine lg_nil ?_
  intro WY1 hC
  obtain ⟨T0, HL, N0⟩ := ansB (cs := wq11) Bp4 HB (by omega) hC.1 (by rw [hwq11.len]; rfl)
  refine wpList_store_mid rfl 42 _ _ rfl (w.heap.size + 1 + 1) 0 wq11.toArray rfl rfl T0 hwq11.sizeA hwq11.one ?_
  simp only [Act.put]
  go_wp2_with fail
  exact bodyPost_ret (v := .agg (wq11).toArray) (res_cell rfl _ _ _ _ rfl (N0.load 42 Tryd.underlying42 rfl hwq11.size)) rfl ⟨_, rfl, ⟨_, rfl, hwq11⟩, HL⟩
set_option maxRecDepth 100000 in
set_option maxHeartbeats 4000000 in
theorem plus_raw {a1 b1 c1 d1 a2 b2 c2 d2 dc : List Value} {X1 Y1 Z1 T1 X2 Y2 Z2 T2 D2 : F} (ha1 : E a1 X1) (hb1 : E b1 Y1) (hc1 : E c1 Z1) (hd1 : E d1 T1) (ha2 : E a2 X2) (hb2 : E b2 Y2) (hc2 : E c2 Z2) (hd2 : E d2 T2) (hd : E dc D2) (w : World) :
    Calls Tryd.prog 42 #[.agg (a1 ++ b1 ++ c1 ++ d1).toArray, .agg (a2 ++ b2 ++ c2 ++ d2).toArray, .agg dc.toArray] w (QPost (((Y1 + X1) * (Y2 + X2) - (Y1 - X1) * (Y2 - X2)) * (Z1 * Z2 + Z1 * Z2 - T1 * T2 * D2)) ((Z1 * Z2 + Z1 * Z2 + T1 * T2 * D2) * ((Y1 + X1) * (Y2 + X2) + (Y1 - X1) * (Y2 - X2))) ((Z1 * Z2 + Z1 * Z2 - T1 * T2 * D2) * (Z1 * Z2 + Z1 * Z2 + T1 * T2 * D2)) (((Y1 + X1) * (Y2 + X2) - (Y1 - X1) * (Y2 - X2)) * ((Y1 + X1) * (Y2 + X2) + (Y1 - X1) * (Y2 - X2))) w) := by
  obtain ⟨p1c, hp1c⟩ : ∃ c, a1 ++ b1 ++ c1 ++ d1 = c := ⟨_, rfl⟩
  obtain ⟨p2c, hp2c⟩ : ∃ c, a2 ++ b2 ++ c2 ++ d2 = c := ⟨_, rfl⟩
  rw [hp1c, hp2c]
  go_enter Tryd.func42, Tryd.ntmps42
  go_upto_region 1 with fail
  refine wp_gen (fun W => Blk W w.heap.size 42 p1c ∧ Blk W (w.heap.size + 1) 42 p2c ∧ Blk W (w.heap.size + 1 + 1) 40 dc ∧ Blk W (w.heap.size + 1 + 1 + 1) 42 C20 ∧ Below w.heap.size w W) ?_ ?_
  · exact alloc4 w _ _ _ _ _ _ _ _
  rintro W0 ⟨Bp3, Bp4, Bp5, Bp6, HB⟩
  obtain ⟨Rp30, Rp31, Rp32, Rp33⟩ := Q4.rows ha1 hb1 hc1 hd1 (by rw [hp1c]; exact Bp3)
  have Lp3 := Bp3.lt
  obtain ⟨Rp40, Rp41, Rp42, Rp43⟩ := Q4.rows ha2 hb2 hc2 hd2 (by rw [hp2c]; exact Bp4)
  have Lp4 := Bp4.lt
  have Lp5 := Bp5.lt
  have Lp6 := Bp6.lt
  go_wp2_with fail
  apply wp_region_g 12 (by kernel_rfl) (by kernel_rfl)
  simp only [List.take_succ_cons, List.take_zero, List.drop_succ_cons, List.drop_zero]
  apply lg_pure (.pointer (some ⟨w.heap.size, 5, none⟩)) rfl (by intro W; go_simp)
  simp only [Act.put, List.setIfInBounds_toArray, List.set_cons_succ, List.set_cons_zero]
  apply lg_e (.tmp 11) hb1 Rp31 Lp3 rfl rfl rfl
  simp only [Act.put, List.setIfInBounds_toArray, List.set_cons_succ, List.set_cons_zero]
  apply lg_pure (.pointer (some ⟨w.heap.size, 0, none⟩)) rfl (by intro W; go_simp)
  simp only [Act.put, List.setIfInBounds_toArray, List.set_cons_succ, List.set_cons_zero]
  apply lg_e (.tmp 13) ha1 Rp30 Lp3 rfl rfl rfl
  simp only [Act.put, List.setIfInBounds_toArray, List.set_cons_succ, List.set_cons_zero]
  apply lg_f (Y1 - X1) 60 #[.agg b1.toArray, .agg a1.toArray] rfl (by intro W; go_simp) (fun W => fsub_calls hb1 ha1 W)
  rintro _ ⟨v15, rfl, h15⟩
  simp only [Act.put, List.setIfInBounds_toArray, List.set_cons_succ, List.set_cons_zero]
  apply lg_pure (.pointer (some ⟨w.heap.size + 1, 5, none⟩)) rfl (by intro W; go_simp)
  simp only [Act.put, List.setIfInBounds_toArray, List.set_cons_succ, List.set_cons_zero]
  apply lg_e (.tmp 16) hb2 Rp41 Lp4 rfl rfl rfl
  simp only [Act.put, List.setIfInBounds_toArray, List.set_cons_succ, List.set_cons_zero]
  apply lg_pure (.pointer (some ⟨w.heap.size + 1, 0, none⟩)) rfl (by intro W; go_simp)
  simp only [Act.put, List.setIfInBounds_toArray, List.set_cons_succ, List.set_cons_zero]
  apply lg_e (.tmp 18) ha2 Rp40 Lp4 rfl rfl rfl
  simp only [Act.put, List.setIfInBounds_toArray, List.set_cons_succ, List.set_cons_zero]
  apply lg_f (Y2 - X2) 60 #[.agg b2.toArray, .agg a2.toArray] rfl (by intro W; go_simp) (fun W => fsub_calls hb2 ha2 W)
  rintro _ ⟨v20, rfl, h20⟩
  simp only [Act.put, List.setIfInBounds_toArray, List.set_cons_succ, List.set_cons_zero]
  apply lg_f ((Y1 - X1) * (Y2 - X2)) 45 #[.agg v15.toArray, .agg v20.toArray] rfl (by intro W; go_simp) (fun W => fmul_calls h15 h20 W)
  rintro _ ⟨v21, rfl, h21⟩
  simp only [Act.put, List.setIfInBounds_toArray, List.set_cons_succ, List.set_cons_zero]
  apply lg_alloc (.cells C5.toArray 40) (.cells C5.toArray 40) rfl (by intro W; go_simp; rfl) (fun W => heap_alloc_new W _)
  intro g7 eg7
  simp only [Act.put, List.setIfInBounds_toArray, List.set_cons_succ, List.set_cons_zero]
  refine lg_nil ?_
  intro WY1 hC
  obtain ⟨T0, HL, N7, G7⟩ := let1 (z := C5) (cs := v21) hC  (by first | (rw [h21.len]; rfl) | rfl)
  refine wpList_store_mid rfl 40 _ _ rfl g7 0 v21.toArray rfl rfl T0 h21.sizeA h21.one ?_
  simp only [Act.put]
  refine wpList_gen (fun W => Blk W w.heap.size 42 p1c ∧ Blk W (w.heap.size + 1) 42 p2c ∧ Blk W (w.heap.size + 1 + 1) 40 dc ∧ Blk W (w.heap.size + 1 + 1 + 1) 42 C20 ∧ Blk W g7 40 v21 ∧ Below w.heap.size w W) ⟨Bp3.later HL, Bp4.later HL, Bp5.later HL, Bp6.later HL, N7, HB.then_ HL⟩ ?_
  clear hC T0 HL N7 eg7
  clear Bp3 Bp4 Bp5 Bp6 Lp3 Lp4 Lp5 Lp6 Rp30 Rp31 Rp32 Rp33 Rp40 Rp41 Rp42 Rp43 HB
  rintro W1 ⟨Bp3, Bp4, Bp5, Bp6, Bn7, HB⟩
  obtain ⟨Rp30, Rp31, Rp32, Rp33⟩ := Q4.rows ha1 hb1 hc1 hd1 (by rw [hp1c]; exact Bp3)
  have Lp3 := Bp3.lt
  obtain ⟨Rp40, Rp41, Rp42, Rp43⟩ := Q4.rows ha2 hb2 hc2 hd2 (by rw [hp2c]; exact Bp4)
  have Lp4 := Bp4.lt
  have Lp5 := Bp5.lt
  have Lp6 := Bp6.lt
  have Ln7 := Bn7.lt
  go_wp2_with fail
  apply wp_region_g 12 (by kernel_rfl) (by kernel_rfl)
  simp only [List.take_succ_cons, List.take_zero, List.drop_succ_cons, List.drop_zero]
  apply lg_pure (.pointer (some ⟨w.heap.size, 5, none⟩)) rfl (by intro W; go_simp)
  simp only [Act.put, List.setIfInBounds_toArray, List.set_cons_succ, List.set_cons_zero]
  apply lg_e (.tmp 22) hb1 Rp31 Lp3 rfl rfl rfl
  simp only [Act.put, List.setIfInBounds_toArray, List.set_cons_succ, List.set_cons_zero]
  apply lg_pure (.pointer (some ⟨w.heap.size, 0, none⟩)) rfl (by intro W; go_simp)
  simp only [Act.put, List.setIfInBounds_toArray, List.set_cons_succ, List.set_cons_zero]
  apply lg_e (.tmp 24) ha1 Rp30 Lp3 rfl rfl rfl
  simp only [Act.put, List.setIfInBounds_toArray, List.set_cons_succ, List.set_cons_zero]
  apply lg_f (Y1 + X1) 59 #[.agg b1.toArray, .agg a1.toArray] rfl (by intro W; go_simp) (fun W => fadd_calls hb1 ha1 W)
  rintro _ ⟨v26, rfl, h26⟩
  simp only [Act.put, List.setIfInBounds_toArray, List.set_cons_succ, List.set_cons_zero]
  apply lg_pure (.pointer (some ⟨w.heap.size + 1, 5, none⟩)) rfl (by intro W; go_simp)
  simp only [Act.put, List.setIfInBounds_toArray, List.set_cons_succ, List.set_cons_zero]
  apply lg_e (.tmp 27) hb2 Rp41 Lp4 rfl rfl rfl
  simp only [Act.put, List.setIfInBounds_toArray, List.set_cons_succ, List.set_cons_zero]
  apply lg_pure (.pointer (some ⟨w.heap.size + 1, 0, none⟩)) rfl (by intro W; go_simp)
  simp only [Act.put, List.setIfInBounds_toArray, List.set_cons_succ, List.set_cons_zero]
  apply lg_e (.tmp 29) ha2 Rp40 Lp4 rfl rfl rfl
  simp only [Act.put, List.setIfInBounds_toArray, List.set_cons_succ, List.set_cons_zero]
  apply lg_f (Y2 + X2) 59 #[.agg b2.toArray, .agg a2.toArray] rfl (by intro W; go_simp) (fun W => fadd_calls hb2 ha2 W)
  rintro _ ⟨v31, rfl, h31⟩
  simp only [Act.put, List.setIfInBounds_toArray, List.set_cons_succ, List.set_cons_zero]
  apply lg_f ((Y1 + X1) * (Y2 + X2)) 45 #[.agg v26.toArray, .agg v31.toArray] rfl (by intro W; go_simp) (fun W => fmul_calls h26 h31 W)
  rintro _ ⟨v32, rfl, h32⟩
  simp only [Act.put, List.setIfInBounds_toArray, List.set_cons_succ, List.set_cons_zero]
  apply lg_alloc (.cells C5.toArray 40) (.cells C5.toArray 40) rfl (by intro W; go_simp; rfl) (fun W => heap_alloc_new W _)
  intro g8 eg8
  simp only [Act.put, List.setIfInBounds_toArray, List.set_cons_succ, List.set_cons_zero]
  refine lg_nil ?_
  intro WY2 hC
  obtain ⟨T0, HL, N8, G8⟩ := let1 (z := C5) (cs := v32) hC  (by first | (rw [h32.len]; rfl) | rfl)
  refine wpList_store_mid rfl 40 _ _ rfl g8 0 v32.toArray rfl rfl T0 h32.sizeA h32.one ?_
  simp only [Act.put]
  refine wpList_gen (fun W => Blk W w.heap.size 42 p1c ∧ Blk W (w.heap.size + 1) 42 p2c ∧ Blk W (w.heap.size + 1 + 1) 40 dc ∧ Blk W (w.heap.size + 1 + 1 + 1) 42 C20 ∧ Blk W g7 40 v21 ∧ Blk W g8 40 v32 ∧ Below w.heap.size w W) ⟨Bp3.later HL, Bp4.later HL, Bp5.later HL, Bp6.later HL, Bn7.later HL, N8, HB.then_ HL⟩ ?_
  clear hC T0 HL N8 eg8
  clear Bp3 Bp4 Bp5 Bp6 Bn7 Lp3 Lp4 Lp5 Lp6 Ln7 Rp30 Rp31 Rp32 Rp33 Rp40 Rp41 Rp42 Rp43 HB
  rintro W2 ⟨Bp3, Bp4, Bp5, Bp6, Bn7, Bn8, HB⟩
  obtain ⟨Rp30, Rp31, Rp32, Rp33⟩ := Q4.rows ha1 hb1 hc1 hd1 (by rw [hp1c]; exact Bp3)
  have Lp3 := Bp3.lt
  obtain ⟨Rp40, Rp41, Rp42, Rp43⟩ := Q4.rows ha2 hb2 hc2 hd2 (by rw [hp2c]; exact Bp4)
  have Lp4 := Bp4.lt
  have Lp5 := Bp5.lt
  have Lp6 := Bp6.lt
  have Ln7 := Bn7.lt
  have Ln8 := Bn8.lt
  go_wp2_with fail
  apply wp_region_g 8 (by kernel_rfl) (by kernel_rfl)
  simp only [List.take_succ_cons, List.take_zero, List.drop_succ_cons, List.drop_zero]
  apply lg_pure (.pointer (some ⟨w.heap.size, 15, none⟩)) rfl (by intro W; go_simp)
  simp only [Act.put, List.setIfInBounds_toArray, List.set_cons_succ, List.set_cons_zero]
  apply lg_e (.tmp 33) hd1 Rp33 Lp3 rfl rfl rfl
  simp only [Act.put, List.setIfInBounds_toArray, List.set_cons_succ, List.set_cons_zero]
  apply lg_pure (.pointer (some ⟨w.heap.size + 1, 15, none⟩)) rfl (by intro W; go_simp)
  simp only [Act.put, List.setIfInBounds_toArray, List.set_cons_succ, List.set_cons_zero]
  apply lg_e (.tmp 35) hd2 Rp43 Lp4 rfl rfl rfl
  simp only [Act.put, List.setIfInBounds_toArray, List.set_cons_succ, List.set_cons_zero]
  apply lg_f (T1 * T2) 45 #[.agg d1.toArray, .agg d2.toArray] rfl (by intro W; go_simp) (fun W => fmul_calls hd1 hd2 W)
  rintro _ ⟨v37, rfl, h37⟩
  simp only [Act.put, List.setIfInBounds_toArray, List.set_cons_succ, List.set_cons_zero]
  apply lg_e (.tmp 5) hd Bp5.rng Lp5 rfl rfl rfl
  simp only [Act.put, List.setIfInBounds_toArray, List.set_cons_succ, List.set_cons_zero]
  apply lg_f ((T1 * T2) * D2) 45 #[.agg v37.toArray, .agg dc.toArray] rfl (by intro W; go_simp) (fun W => fmul_calls h37 hd W)
  rintro _ ⟨v39, rfl, h39⟩
  simp only [Act.put, List.setIfInBounds_toArray, List.set_cons_succ, List.set_cons_zero]
  apply lg_alloc (.cells C5.toArray 40) (.cells C5.toArray 40) rfl (by intro W; go_simp; rfl) (fun W => heap_alloc_new W _)
  intro g9 eg9
  simp only [Act.put, List.setIfInBounds_toArray, List.set_cons_succ, List.set_cons_zero]
  refine lg_nil ?_
  intro WY3 hC
  obtain ⟨T0, HL, N9, G9⟩ := let1 (z := C5) (cs := v39) hC  (by first | (rw [h39.len]; rfl) | rfl)
  refine wpList_store_mid rfl 40 _ _ rfl g9 0 v39.toArray rfl rfl T0 h39.sizeA h39.one ?_
  simp only [Act.put]
  refine wpList_gen (fun W => Blk W w.heap.size 42 p1c ∧ Blk W (w.heap.size + 1) 42 p2c ∧ Blk W (w.heap.size + 1 + 1) 40 dc ∧ Blk W (w.heap.size + 1 + 1 + 1) 42 C20 ∧ Blk W g7 40 v21 ∧ Blk W g8 40 v32 ∧ Blk W g9 40 v39 ∧ Below w.heap.size w W) ⟨Bp3.later HL, Bp4.later HL, Bp5.later HL, Bp6.later HL, Bn7.later HL, Bn8.later HL, N9, HB.then_ HL⟩ ?_
  clear hC T0 HL N9 eg9
  clear Bp3 Bp4 Bp5 Bp6 Bn7 Bn8 Lp3 Lp4 Lp5 Lp6 Ln7 Ln8 Rp30 Rp31 Rp32 Rp33 Rp40 Rp41 Rp42 Rp43 HB
  rintro W3 ⟨Bp3, Bp4, Bp5, Bp6, Bn7, Bn8, Bn9, HB⟩
  obtain ⟨Rp30, Rp31, Rp32, Rp33⟩ := Q4.rows ha1 hb1 hc1 hd1 (by rw [hp1c]; exact Bp3)
  have Lp3 := Bp3.lt
  obtain ⟨Rp40, Rp41, Rp42, Rp43⟩ := Q4.rows ha2 hb2 hc2 hd2 (by rw [hp2c]; exact Bp4)
  have Lp4 := Bp4.lt
  have Lp5 := Bp5.lt
  have Lp6 := Bp6.lt
  have Ln7 := Bn7.lt
  have Ln8 := Bn8.lt
  have Ln9 := Bn9.lt
  go_wp2_with (first | (refine wpList_load_mid rfl 40 _ rfl w.heap.size 10 rfl c1 _ Rp32 Tryd.underlying40 rfl hc1.size ?_) | (refine wpList_load_mid rfl 40 _ rfl (w.heap.size + 1) 10 rfl c2 _ Rp42 Tryd.underlying40 rfl hc2.size ?_))
  refine (fmul_calls hc1 hc2 _).mono ?_
  rintro e WX4 ⟨_, rfl, ⟨v44, rfl, h44⟩, HX⟩
  replace Bp3 := Bp3.later HX
  replace Bp4 := Bp4.later HX
  replace Bp5 := Bp5.later HX
  replace Bp6 := Bp6.later HX
  replace Bn7 := Bn7.later HX
  replace Bn8 := Bn8.later HX
  replace Bn9 := Bn9.later HX
  replace HB := HB.then_ HX
  clear Rp30 Rp31 Rp32 Rp33
  obtain ⟨Rp30, Rp31, Rp32, Rp33⟩ := Q4.rows ha1 hb1 hc1 hd1 (by rw [hp1c]; exact Bp3)
  replace Lp3 := Bp3.lt
  clear Rp40 Rp41 Rp42 Rp43
  obtain ⟨Rp40, Rp41, Rp42, Rp43⟩ := Q4.rows ha2 hb2 hc2 hd2 (by rw [hp2c]; exact Bp4)
  replace Lp4 := Bp4.lt
  replace Lp5 := Bp5.lt
  replace Lp6 := Bp6.lt
  replace Ln7 := Bn7.lt
  replace Ln8 := Bn8.lt
  replace Ln9 := Bn9.lt
  clear HX
  obtain ⟨T0, HL, N0⟩ := letS (W := WX4) (T := 40) (z := C5) (cs := v44) (by first | (rw [h44.len]; rfl) | rfl)
  go_upto_region 5 with (first | (refine wpList_store_mid rfl 40 _ _ rfl WX4.heap.size 0 v44.toArray rfl rfl T0 h44.sizeA h44.one ?_))
  obtain ⟨g10, eg⟩ : ∃ g, WX4.heap.size = g := ⟨_, rfl⟩
  rw [eg] at N0 ⊢
  have HL2 := HL
  clear HL2
  have hE : Hid (WX4.heap.size = g10) := Lib.hid eg
  refine wp_gen (fun W => Blk W w.heap.size 42 p1c ∧ Blk W (w.heap.size + 1) 42 p2c ∧ Blk W (w.heap.size + 1 + 1) 40 dc ∧ Blk W (w.heap.size + 1 + 1 + 1) 42 C20 ∧ Blk W g7 40 v21 ∧ Blk W g8 40 v32 ∧ Blk W g9 40 v39 ∧ Blk W g10 40 v44 ∧ Below w.heap.size w W) ⟨Bp3.later (hE.out ▸ HL), Bp4.later (hE.out ▸ HL), Bp5.later (hE.out ▸ HL), Bp6.later (hE.out ▸ HL), Bn7.later (hE.out ▸ HL), Bn8.later (hE.out ▸ HL), Bn9.later (hE.out ▸ HL), N0, HB.then_ (hE.out ▸ HL)⟩ ?_
  clear T0 HL N0 eg hE
  clear Bp3 Bp4 Bp5 Bp6 Bn7 Bn8 Bn9 Lp3 Lp4 Lp5 Lp6 Ln7 Ln8 Ln9 Rp30 Rp31 Rp32 Rp33 Rp40 Rp41 Rp42 Rp43 HB
  rintro W5 ⟨Bp3, Bp4, Bp5, Bp6, Bn7, Bn8, Bn9, Bn10, HB⟩
  obtain ⟨Rp30, Rp31, Rp32, Rp33⟩ := Q4.rows ha1 hb1 hc1 hd1 (by rw [hp1c]; exact Bp3)
  have Lp3 := Bp3.lt
  obtain ⟨Rp40, Rp41, Rp42, Rp43⟩ := Q4.rows ha2 hb2 hc2 hd2 (by rw [hp2c]; exact Bp4)
  have Lp4 := Bp4.lt
  have Lp5 := Bp5.lt
  have Lp6 := Bp6.lt
  have Ln7 := Bn7.lt
  have Ln8 := Bn8.lt
  have Ln9 := Bn9.lt
  have Ln10 := Bn10.lt
  go_wp2_with fail
  apply wp_region_g 17 (by kernel_rfl) (by kernel_rfl)
  simp only [List.take_succ_cons, List.take_zero, List.drop_succ_cons, List.drop_zero]
  apply lg_e (.tmp 8) h32 Bn8.rng Ln8 rfl rfl rfl
  simp only [Act.put, List.setIfInBounds_toArray, List.set_cons_succ, List.set_cons_zero]
  apply lg_e (.tmp 7) h21 Bn7.rng Ln7 rfl rfl rfl
  simp only [Act.put, List.setIfInBounds_toArray, List.set_cons_succ, List.set_cons_zero]
  apply lg_f (((Y1 + X1) * (Y2 + X2)) - ((Y1 - X1) * (Y2 - X2))) 60 #[.agg v32.toArray, .agg v21.toArray] rfl (by intro W; go_simp) (fun W => fsub_calls h32 h21 W)
  rintro _ ⟨v47, rfl, h47⟩
  simp only [Act.put, List.setIfInBounds_toArray, List.set_cons_succ, List.set_cons_zero]
  apply lg_e (.tmp 10) h44 Bn10.rng Ln10 rfl rfl rfl
  simp only [Act.put, List.setIfInBounds_toArray, List.set_cons_succ, List.set_cons_zero]
  apply lg_e (.tmp 10) h44 Bn10.rng Ln10 rfl rfl rfl
  simp only [Act.put, List.setIfInBounds_toArray, List.set_cons_succ, List.set_cons_zero]
  apply lg_f ((Z1 * Z2) + (Z1 * Z2)) 59 #[.agg v44.toArray, .agg v44.toArray] rfl (by intro W; go_simp) (fun W => fadd_calls h44 h44 W)
  rintro _ ⟨v50, rfl, h50⟩
  simp only [Act.put, List.setIfInBounds_toArray, List.set_cons_succ, List.set_cons_zero]
  apply lg_e (.tmp 9) h39 Bn9.rng Ln9 rfl rfl rfl
  simp only [Act.put, List.setIfInBounds_toArray, List.set_cons_succ, List.set_cons_zero]
  apply lg_f (((Z1 * Z2) + (Z1 * Z2)) - ((T1 * T2) * D2)) 60 #[.agg v50.toArray, .agg v39.toArray] rfl (by intro W; go_simp) (fun W => fsub_calls h50 h39 W)
  rintro _ ⟨v52, rfl, h52⟩
  simp only [Act.put, List.setIfInBounds_toArray, List.set_cons_succ, List.set_cons_zero]
  apply lg_e (.tmp 10) h44 Bn10.rng Ln10 rfl rfl rfl
  simp only [Act.put, List.setIfInBounds_toArray, List.set_cons_succ, List.set_cons_zero]
  apply lg_e (.tmp 10) h44 Bn10.rng Ln10 rfl rfl rfl
  simp only [Act.put, List.setIfInBounds_toArray, List.set_cons_succ, List.set_cons_zero]
  apply lg_f ((Z1 * Z2) + (Z1 * Z2)) 59 #[.agg v44.toArray, .agg v44.toArray] rfl (by intro W; go_simp) (fun W => fadd_calls h44 h44 W)
  rintro _ ⟨v55, rfl, h55⟩
  simp only [Act.put, List.setIfInBounds_toArray, List.set_cons_succ, List.set_cons_zero]
  apply lg_e (.tmp 9) h39 Bn9.rng Ln9 rfl rfl rfl
  simp only [Act.put, List.setIfInBounds_toArray, List.set_cons_succ, List.set_cons_zero]
  apply lg_f (((Z1 * Z2) + (Z1 * Z2)) + ((T1 * T2) * D2)) 59 #[.agg v55.toArray, .agg v39.toArray] rfl (by intro W; go_simp) (fun W => fadd_calls h55 h39 W)
  rintro _ ⟨v57, rfl, h57⟩
  simp only [Act.put, List.setIfInBounds_toArray, List.set_cons_succ, List.set_cons_zero]
  apply lg_e (.tmp 8) h32 Bn8.rng Ln8 rfl rfl rfl
  simp only [Act.put, List.setIfInBounds_toArray, List.set_cons_succ, List.set_cons_zero]
  apply lg_e (.tmp 7) h21 Bn7.rng Ln7 rfl rfl rfl
  simp only [Act.put, List.setIfInBounds_toArray, List.set_cons_succ, List.set_cons_zero]
  apply lg_f (((Y1 + X1) * (Y2 + X2)) + ((Y1 - X1) * (Y2 - X2))) 59 #[.agg v32.toArray, .agg v21.toArray] rfl (by intro W; go_simp) (fun W => fadd_calls h32 h21 W)
  rintro _ ⟨v60, rfl, h60⟩
  simp only [Act.put, List.setIfInBounds_toArray, List.set_cons_succ, List.set_cons_zero]
  apply lg_call_in (fun v => ∃ c, v = .agg c.toArray ∧ Q4 c ((((Y1 + X1) * (Y2 + X2)) - ((Y1 - X1) * (Y2 - X2))) * (((Z1 * Z2) + (Z1 * Z2)) - ((T1 * T2) * D2))) ((((Z1 * Z2) + (Z1 * Z2)) + ((T1 * T2) * D2)) * (((Y1 + X1) * (Y2 + X2)) + ((Y1 - X1) * (Y2 - X2)))) ((((Z1 * Z2) + (Z1 * Z2)) - ((T1 * T2) * D2)) * (((Z1 * Z2) + (Z1 * Z2)) + ((T1 * T2) * D2))) ((((Y1 + X1) * (Y2 + X2)) - ((Y1 - X1) * (Y2 - X2))) * (((Y1 + X1) * (Y2 + X2)) + ((Y1 - X1) * (Y2 - X2))))) 75 #[.agg v47.toArray, .agg v52.toArray, .agg v57.toArray, .agg v60.toArray] rfl (by intro W; go_simp) (fun W hW => crossed_calls h47 h52 h57 h60 W)
  rintro _ ⟨v61, rfl, h61⟩
  simp only [Act.put, List.setIfInBounds_toArray, List.set_cons_succ, List.set_cons_zero]
  refine lg_nil ?_
  intro WY6 hC
  obtain ⟨T0, HL, N0⟩ := ansB (cs := v61) Bp6 HB (by omega) hC.1 (by rw [h61.len]; rfl)
  refine wpList_store_mid rfl 42 _ _ rfl (w.heap.size + 1 + 1 + 1) 0 v61.toArray rfl rfl T0 h61.sizeA h61.one ?_
  simp only [Act.put]
  go_wp2_with fail
  exact bodyPost_ret (v := .agg (v61).toArray) (res_cell rfl _ _ _ _ rfl (N0.load 42 Tryd.underlying42 rfl h61.size)) rfl ⟨_, rfl, ⟨_, rfl, h61⟩, HL⟩
set_option maxRecDepth 100000 in
set_option maxHeartbeats 4000000 in
theorem twice_raw {a1 b1 c1 d1 : List Value} {X1 Y1 Z1 T1 : F} (ha1 : E a1 X1) (hb1 : E b1 Y1) (hc1 : E c1 Z1) (hd1 : E d1 T1) (w : World) :
    Calls Tryd.prog 43 #[.agg (a1 ++ b1 ++ c1 ++ d1).toArray] w (QPost (((X1 + Y1) * (X1 + Y1) - (X1 * X1 + Y1 * Y1)) * (Y1 * Y1 - X1 * X1 - Z1 * Z1 - Z1 * Z1)) ((Y1 * Y1 - X1 * X1) * -(X1 * X1 + Y1 * Y1)) ((Y1 * Y1 - X1 * X1 - Z1 * Z1 - Z1 * Z1) * (Y1 * Y1 - X1 * X1)) (((X1 + Y1) * (X1 + Y1) - (X1 * X1 + Y1 * Y1)) * -(X1 * X1 + Y1 * Y1)) w) := by
  obtain ⟨p1c, hp1c⟩ : ∃ c, a1 ++ b1 ++ c1 ++ d1 = c := ⟨_, rfl⟩
  rw [hp1c]
  go_enter Tryd.func43, Tryd.ntmps43
  go_upto_region 1 with fail
  refine wp_gen (fun W => Blk W w.heap.size 42 p1c ∧ Blk W (w.heap.size + 1) 42 C20 ∧ Below w.heap.size w W) ?_ ?_
  · exact alloc2 w _ _ _ _
  rintro W0 ⟨Bp1, Bp2, HB⟩
  obtain ⟨Rp10, Rp11, Rp12, Rp13⟩ := Q4.rows ha1 hb1 hc1 hd1 (by rw [hp1c]; exact Bp1)
  have Lp1 := Bp1.lt
  have Lp2 := Bp2.lt
  go_wp2_with fail
  apply wp_region_g 18 (by kernel_rfl) (by kernel_rfl)
  simp only [List.take_succ_cons, List.take_zero, List.drop_succ_cons, List.drop_zero]
  apply lg_pure (.pointer (some ⟨w.heap.size, 0, none⟩)) rfl (by intro W; go_simp)
  simp only [Act.put, List.setIfInBounds_toArray, List.set_cons_succ, List.set_cons_zero]
  apply lg_e (.tmp 9) ha1 Rp10 Lp1 rfl rfl rfl
  simp only [Act.put, List.setIfInBounds_toArray, List.set_cons_succ, List.set_cons_zero]
  apply lg_pure (.pointer (some ⟨w.heap.size, 0, none⟩)) rfl (by intro W; go_simp)
  simp only [Act.put, List.setIfInBounds_toArray, List.set_cons_succ, List.set_cons_zero]
  apply lg_e (.tmp 11) ha1 Rp10 Lp1 rfl rfl rfl
  simp only [Act.put, List.setIfInBounds_toArray, List.set_cons_succ, List.set_cons_zero]
  apply lg_f (X1 * X1) 45 #[.agg a1.toArray, .agg a1.toArray] rfl (by intro W; go_simp) (fun W => fmul_calls ha1 ha1 W)
  rintro _ ⟨v13, rfl, h13⟩
  simp only [Act.put, List.setIfInBounds_toArray, List.set_cons_succ, List.set_cons_zero]
  apply lg_pure (.pointer (some ⟨w.heap.size, 5, none⟩)) rfl (by intro W; go_simp)
  simp only [Act.put, List.setIfInBounds_toArray, List.set_cons_succ, List.set_cons_zero]
  apply lg_e (.tmp 14) hb1 Rp11 Lp1 rfl rfl rfl
  simp only [Act.put, List.setIfInBounds_toArray, List.set_cons_succ, List.set_cons_zero]
  apply lg_pure (.pointer (some ⟨w.heap.size, 5, none⟩)) rfl (by intro W; go_simp)
  simp only [Act.put, List.setIfInBounds_toArray, List.set_cons_succ, List.set_cons_zero]
  apply lg_e (.tmp 16) hb1 Rp11 Lp1 rfl rfl rfl
  simp only [Act.put, List.setIfInBounds_toArray, List.set_cons_succ, List.set_cons_zero]
  apply lg_f (Y1 * Y1) 45 #[.agg b1.toArray, .agg b1.toArray] rfl (by intro W; go_simp) (fun W => fmul_calls hb1 hb1 W)
  rintro _ ⟨v18, rfl, h18⟩
  simp only [Act.put, List.setIfInBounds_toArray, List.set_cons_succ, List.set_cons_zero]
  apply lg_pure (.pointer (some ⟨w.heap.size, 10, none⟩)) rfl (by intro W; go_simp)
  simp only [Act.put, List.setIfInBounds_toArray, List.set_cons_succ, List.set_cons_zero]
  apply lg_e (.tmp 19) hc1 Rp12 Lp1 rfl rfl rfl
  simp only [Act.put, List.setIfInBounds_toArray, List.set_cons_succ, List.set_cons_zero]
  apply lg_pure (.pointer (some ⟨w.heap.size, 10, none⟩)) rfl (by intro W; go_simp)
  simp only [Act.put, List.setIfInBounds_toArray, List.set_cons_succ, List.set_cons_zero]
  apply lg_e (.tmp 21) hc1 Rp12 Lp1 rfl rfl rfl
  simp only [Act.put, List.setIfInBounds_toArray, List.set_cons_succ, List.set_cons_zero]
  apply lg_f (Z1 * Z1) 45 #[.agg c1.toArray, .agg c1.toArray] rfl (by intro W; go_simp) (fun W => fmul_calls hc1 hc1 W)
  rintro _ ⟨v23, rfl, h23⟩
  simp only [Act.put, List.setIfInBounds_toArray, List.set_cons_succ, List.set_cons_zero]
  apply lg_alloc (.cells C5.toArray 40) (.cells C5.toArray 40) rfl (by intro W; go_simp; rfl) (fun W => heap_alloc_new W _)
  intro g3 eg3
  simp only [Act.put, List.setIfInBounds_toArray, List.set_cons_succ, List.set_cons_zero]
  apply lg_alloc (.cells C5.toArray 40) (.cells C5.toArray 40) rfl (by intro W; go_simp; rfl) (fun W => heap_alloc_new W _)
  intro g4 eg4
  simp only [Act.put, List.setIfInBounds_toArray, List.set_cons_succ, List.set_cons_zero]
  apply lg_alloc (.cells C5.toArray 40) (.cells C5.toArray 40) rfl (by intro W; go_simp; rfl) (fun W => heap_alloc_new W _)
  intro g5 eg5
  simp only [Act.put, List.setIfInBounds_toArray, List.set_cons_succ, List.set_cons_zero]
  refine lg_nil ?_
  intro WY1 hC
  obtain ⟨T0, T1, T2, HL, N3, N4, N5, G3, G4, G5⟩ := let3 (z := C5) (y := C5) (x := C5) (cs := v13) (ds := v18) (es := v23) hC eg4 eg5 (by first | (rw [h13.len]; rfl) | rfl) (by first | (rw [h18.len]; rfl) | rfl) (by first | (rw [h23.len]; rfl) | rfl)
  refine wpList_store_mid rfl 40 _ _ rfl g3 0 v13.toArray rfl rfl T0 h13.sizeA h13.one ?_
  refine wpList_store_mid rfl 40 _ _ rfl g4 0 v18.toArray rfl rfl T1 h18.sizeA h18.one ?_
  refine wpList_store_mid rfl 40 _ _ rfl g5 0 v23.toArray rfl rfl T2 h23.sizeA h23.one ?_
  simp only [Act.put]
  refine wpList_gen (fun W => Blk W w.heap.size 42 p1c ∧ Blk W (w.heap.size + 1) 42 C20 ∧ Blk W g3 40 v13 ∧ Blk W g4 40 v18 ∧ Blk W g5 40 v23 ∧ Below w.heap.size w W) ⟨Bp1.later HL, Bp2.later HL, N3, N4, N5, HB.then_ HL⟩ ?_
  clear hC T0 T1 T2 HL N3 N4 N5 eg3 eg4 eg5
  clear Bp1 Bp2 Lp1 Lp2 Rp10 Rp11 Rp12 Rp13 HB
  rintro W1 ⟨Bp1, Bp2, Bn3, Bn4, Bn5, HB⟩
  obtain ⟨Rp10, Rp11, Rp12, Rp13⟩ := Q4.rows ha1 hb1 hc1 hd1 (by rw [hp1c]; exact Bp1)
  have Lp1 := Bp1.lt
  have Lp2 := Bp2.lt
  have Ln3 := Bn3.lt
  have Ln4 := Bn4.lt
  have Ln5 := Bn5.lt
  go_wp2_with fail
  apply wp_region_g 10 (by kernel_rfl) (by kernel_rfl)
  simp only [List.take_succ_cons, List.take_zero, List.drop_succ_cons, List.drop_zero]
  apply lg_pure (.pointer (some ⟨w.heap.size, 0, none⟩)) rfl (by intro W; go_simp)
  simp only [Act.put, List.setIfInBounds_toArray, List.set_cons_succ, List.set_cons_zero]
  apply lg_e (.tmp 24) ha1 Rp10 Lp1 rfl rfl rfl
  simp only [Act.put, List.setIfInBounds_toArray, List.set_cons_succ, List.set_cons_zero]
  apply lg_pure (.pointer (some ⟨w.heap.size, 5, none⟩)) rfl (by intro W; go_simp)
  simp only [Act.put, List.setIfInBounds_toArray, List.set_cons_succ, List.set_cons_zero]
  apply lg_e (.tmp 26) hb1 Rp11 Lp1 rfl rfl rfl
  simp only [Act.put, List.setIfInBounds_toArray, List.set_cons_succ, List.set_cons_zero]
  apply lg_f (X1 + Y1) 59 #[.agg a1.toArray, .agg b1.toArray] rfl (by intro W; go_simp) (fun W => fadd_calls ha1 hb1 W)
  rintro _ ⟨v28, rfl, h28⟩
  simp only [Act.put, List.setIfInBounds_toArray, List.set_cons_succ, List.set_cons_zero]
  apply lg_e (.tmp 3) h13 Bn3.rng Ln3 rfl rfl rfl
  simp only [Act.put, List.setIfInBounds_toArray, List.set_cons_succ, List.set_cons_zero]
  apply lg_e (.tmp 4) h18 Bn4.rng Ln4 rfl rfl rfl
  simp only [Act.put, List.setIfInBounds_toArray, List.set_cons_succ, List.set_cons_zero]
  apply lg_f ((X1 * X1) + (Y1 * Y1)) 59 #[.agg v13.toArray, .agg v18.toArray] rfl (by intro W; go_simp) (fun W => fadd_calls h13 h18 W)
  rintro _ ⟨v31, rfl, h31⟩
  simp only [Act.put, List.setIfInBounds_toArray, List.set_cons_succ, List.set_cons_zero]
  apply lg_alloc (.cells C5.toArray 40) (.cells C5.toArray 40) rfl (by intro W; go_simp; rfl) (fun W => heap_alloc_new W _)
  intro g6 eg6
  simp only [Act.put, List.setIfInBounds_toArray, List.set_cons_succ, List.set_cons_zero]
  apply lg_alloc (.cells C5.toArray 40) (.cells C5.toArray 40) rfl (by intro W; go_simp; rfl) (fun W => heap_alloc_new W _)
  intro g7 eg7
  simp only [Act.put, List.setIfInBounds_toArray, List.set_cons_succ, List.set_cons_zero]
  refine lg_nil ?_
  intro WY2 hC
  obtain ⟨T0, T1, HL, N6, N7, G6, G7⟩ := let2 (z := C5) (y := C5) (cs := v28) (ds := v31) hC eg7 (by first | (rw [h28.len]; rfl) | rfl) (by first | (rw [h31.len]; rfl) | rfl)
  refine wpList_store_mid rfl 40 _ _ rfl g6 0 v28.toArray rfl rfl T0 h28.sizeA h28.one ?_
  refine wpList_store_mid rfl 40 _ _ rfl g7 0 v31.toArray rfl rfl T1 h31.sizeA h31.one ?_
  simp only [Act.put]
  refine wpList_gen (fun W => Blk W w.heap.size 42 p1c ∧ Blk W (w.heap.size + 1) 42 C20 ∧ Blk W g3 40 v13 ∧ Blk W g4 40 v18 ∧ Blk W g5 40 v23 ∧ Blk W g6 40 v28 ∧ Blk W g7 40 v31 ∧ Below w.heap.size w W) ⟨Bp1.later HL, Bp2.later HL, Bn3.later HL, Bn4.later HL, Bn5.later HL, N6, N7, HB.then_ HL⟩ ?_
  clear hC T0 T1 HL N6 N7 eg6 eg7
  clear Bp1 Bp2 Bn3 Bn4 Bn5 Lp1 Lp2 Ln3 Ln4 Ln5 Rp10 Rp11 Rp12 Rp13 HB
  rintro W2 ⟨Bp1, Bp2, Bn3, Bn4, Bn5, Bn6, Bn7, HB⟩
  obtain ⟨Rp10, Rp11, Rp12, Rp13⟩ := Q4.rows ha1 hb1 hc1 hd1 (by rw [hp1c]; exact Bp1)
  have Lp1 := Bp1.lt
  have Lp2 := Bp2.lt
  have Ln3 := Bn3.lt
  have Ln4 := Bn4.lt
  have Ln5 := Bn5.lt
  have Ln6 := Bn6.lt
  have Ln7 := Bn7.lt
  go_wp2_with (first | (refine wpList_load_mid rfl 40 _ rfl g4 0 rfl v18 _ Bn4.rng Tryd.underlying40 rfl h18.size ?_) | (refine wpList_load_mid rfl 40 _ rfl g3 0 rfl v13 _ Bn3.rng Tryd.underlying40 rfl h13.size ?_))
  refine (fsub_calls h18 h13 _).mono ?_
  rintro e WX3 ⟨_, rfl, ⟨v34, rfl, h34⟩, HX⟩
  replace Bp1 := Bp1.later HX
  replace Bp2 := Bp2.later HX
  replace Bn3 := Bn3.later HX
  replace Bn4 := Bn4.later HX
  replace Bn5 := Bn5.later HX
  replace Bn6 := Bn6.later HX
  replace Bn7 := Bn7.later HX
  replace HB := HB.then_ HX
  clear Rp10 Rp11 Rp12 Rp13
  obtain ⟨Rp10, Rp11, Rp12, Rp13⟩ := Q4.rows ha1 hb1 hc1 hd1 (by rw [hp1c]; exact Bp1)
  replace Lp1 := Bp1.lt
  replace Lp2 := Bp2.lt
  replace Ln3 := Bn3.lt
  replace Ln4 := Bn4.lt
  replace Ln5 := Bn5.lt
  replace Ln6 := Bn6.lt
  replace Ln7 := Bn7.lt
  clear HX
  obtain ⟨T0, HL, N0⟩ := letS (W := WX3) (T := 40) (z := C5) (cs := v34) (by first | (rw [h34.len]; rfl) | rfl)
  go_upto_region 4 with (first | (refine wpList_store_mid rfl 40 _ _ rfl WX3.heap.size 0 v34.toArray rfl rfl T0 h34.sizeA h34.one ?_))
  obtain ⟨g8, eg⟩ : ∃ g, WX3.heap.size = g := ⟨_, rfl⟩
  rw [eg] at N0 ⊢
  have HL2 := HL
  clear HL2
  have hE : Hid (WX3.heap.size = g8) := Lib.hid eg
  refine wp_gen (fun W => Blk W w.heap.size 42 p1c ∧ Blk W (w.heap.size + 1) 42 C20 ∧ Blk W g3 40 v13 ∧ Blk W g4 40 v18 ∧ Blk W g5 40 v23 ∧ Blk W g6 40 v28 ∧ Blk W g7 40 v31 ∧ Blk W g8 40 v34 ∧ Below w.heap.size w W) ⟨Bp1.later (hE.out ▸ HL), Bp2.later (hE.out ▸ HL), Bn3.later (hE.out ▸ HL), Bn4.later (hE.out ▸ HL), Bn5.later (hE.out ▸ HL), Bn6.later (hE.out ▸ HL), Bn7.later (hE.out ▸ HL), N0, HB.then_ (hE.out ▸ HL)⟩ ?_
  clear T0 HL N0 eg hE
  clear Bp1 Bp2 Bn3 Bn4 Bn5 Bn6 Bn7 Lp1 Lp2 Ln3 Ln4 Ln5 Ln6 Ln7 Rp10 Rp11 Rp12 Rp13 HB
  rintro W4 ⟨Bp1, Bp2, Bn3, Bn4, Bn5, Bn6, Bn7, Bn8, HB⟩
  obtain ⟨Rp10, Rp11, Rp12, Rp13⟩ := Q4.rows ha1 hb1 hc1 hd1 (by rw [hp1c]; exact Bp1)
  have Lp1 := Bp1.lt
  have Lp2 := Bp2.lt
  have Ln3 := Bn3.lt
  have Ln4 := Bn4.lt
  have Ln5 := Bn5.lt
  have Ln6 := Bn6.lt
  have Ln7 := Bn7.lt
  have Ln8 := Bn8.lt
  go_wp2_with fail
  apply wp_region_g 14 (by kernel_rfl) (by kernel_rfl)
  simp only [List.take_succ_cons, List.take_zero, List.drop_succ_cons, List.drop_zero]
  apply lg_e (.tmp 6) h28 Bn6.rng Ln6 rfl rfl rfl
  simp only [Act.put, List.setIfInBounds_toArray, List.set_cons_succ, List.set_cons_zero]
  apply lg_e (.tmp 6) h28 Bn6.rng Ln6 rfl rfl rfl
  simp only [Act.put, List.setIfInBounds_toArray, List.set_cons_succ, List.set_cons_zero]
  apply lg_f ((X1 + Y1) * (X1 + Y1)) 45 #[.agg v28.toArray, .agg v28.toArray] rfl (by intro W; go_simp) (fun W => fmul_calls h28 h28 W)
  rintro _ ⟨v37, rfl, h37⟩
  simp only [Act.put, List.setIfInBounds_toArray, List.set_cons_succ, List.set_cons_zero]
  apply lg_e (.tmp 7) h31 Bn7.rng Ln7 rfl rfl rfl
  simp only [Act.put, List.setIfInBounds_toArray, List.set_cons_succ, List.set_cons_zero]
  apply lg_f (((X1 + Y1) * (X1 + Y1)) - ((X1 * X1) + (Y1 * Y1))) 60 #[.agg v37.toArray, .agg v31.toArray] rfl (by intro W; go_simp) (fun W => fsub_calls h37 h31 W)
  rintro _ ⟨v39, rfl, h39⟩
  simp only [Act.put, List.setIfInBounds_toArray, List.set_cons_succ, List.set_cons_zero]
  apply lg_e (.tmp 8) h34 Bn8.rng Ln8 rfl rfl rfl
  simp only [Act.put, List.setIfInBounds_toArray, List.set_cons_succ, List.set_cons_zero]
  apply lg_e (.tmp 5) h23 Bn5.rng Ln5 rfl rfl rfl
  simp only [Act.put, List.setIfInBounds_toArray, List.set_cons_succ, List.set_cons_zero]
  apply lg_f (((Y1 * Y1) - (X1 * X1)) - (Z1 * Z1)) 60 #[.agg v34.toArray, .agg v23.toArray] rfl (by intro W; go_simp) (fun W => fsub_calls h34 h23 W)
  rintro _ ⟨v42, rfl, h42⟩
  simp only [Act.put, List.setIfInBounds_toArray, List.set_cons_succ, List.set_cons_zero]
  apply lg_e (.tmp 5) h23 Bn5.rng Ln5 rfl rfl rfl
  simp only [Act.put, List.setIfInBounds_toArray, List.set_cons_succ, List.set_cons_zero]
  apply lg_f ((((Y1 * Y1) - (X1 * X1)) - (Z1 * Z1)) - (Z1 * Z1)) 60 #[.agg v42.toArray, .agg v23.toArray] rfl (by intro W; go_simp) (fun W => fsub_calls h42 h23 W)
  rintro _ ⟨v44, rfl, h44⟩
  simp only [Act.put, List.setIfInBounds_toArray, List.set_cons_succ, List.set_cons_zero]
  apply lg_e (.tmp 8) h34 Bn8.rng Ln8 rfl rfl rfl
  simp only [Act.put, List.setIfInBounds_toArray, List.set_cons_succ, List.set_cons_zero]
  apply lg_e (.tmp 7) h31 Bn7.rng Ln7 rfl rfl rfl
  simp only [Act.put, List.setIfInBounds_toArray, List.set_cons_succ, List.set_cons_zero]
  apply lg_f (-((X1 * X1) + (Y1 * Y1))) 63 #[.agg v31.toArray] rfl (by intro W; go_simp) (fun W => fneg_calls h31 W)
  rintro _ ⟨v47, rfl, h47⟩
  simp only [Act.put, List.setIfInBounds_toArray, List.set_cons_succ, List.set_cons_zero]
  apply lg_call_in (fun v => ∃ c, v = .agg c.toArray ∧ Q4 c ((((X1 + Y1) * (X1 + Y1)) - ((X1 * X1) + (Y1 * Y1))) * ((((Y1 * Y1) - (X1 * X1)) - (Z1 * Z1)) - (Z1 * Z1))) (((Y1 * Y1) - (X1 * X1)) * (-((X1 * X1) + (Y1 * Y1)))) (((((Y1 * Y1) - (X1 * X1)) - (Z1 * Z1)) - (Z1 * Z1)) * ((Y1 * Y1) - (X1 * X1))) ((((X1 + Y1) * (X1 + Y1)) - ((X1 * X1) + (Y1 * Y1))) * (-((X1 * X1) + (Y1 * Y1))))) 75 #[.agg v39.toArray, .agg v44.toArray, .agg v34.toArray, .agg v47.toArray] rfl (by intro W; go_simp) (fun W hW => crossed_calls h39 h44 h34 h47 W)
  rintro _ ⟨v48, rfl, h48⟩
  simp only [Act.put, List.setIfInBounds_toArray, List.set_cons_succ, List.set_cons_zero]
  refine lg_nil ?_
  intro WY5 hC
  obtain ⟨T0, HL, N0⟩ := ansB (cs := v48) Bp2 HB (by omega) hC.1 (by rw [h48.len]; rfl)
  refine wpList_store_mid rfl 42 _ _ rfl (w.heap.size + 1) 0 v48.toArray rfl rfl T0 h48.sizeA h48.one ?_
  simp only [Act.put]
  go_wp2_with fail
  exact bodyPost_ret (v := .agg (v48).toArray) (res_cell rfl _ _ _ _ rfl (N0.load 42 Tryd.underlying42 rfl h48.size)) rfl ⟨_, rfl, ⟨_, rfl, h48⟩, HL⟩
set_option maxRecDepth 100000 in
set_option maxHeartbeats 4000000 in
theorem neg_raw {a1 b1 c1 d1 : List Value} {X1 Y1 Z1 T1 : F} (ha1 : E a1 X1) (hb1 : E b1 Y1) (hc1 : E c1 Z1) (hd1 : E d1 T1) (w : World) :
    Calls Tryd.prog 30 #[.agg (a1 ++ b1 ++ c1 ++ d1).toArray] w (QPost (-X1) Y1 Z1 (-T1) w) := by
  obtain ⟨p1c, hp1c⟩ : ∃ c, a1 ++ b1 ++ c1 ++ d1 = c := ⟨_, rfl⟩
  rw [hp1c]
  go_enter Tryd.func30, Tryd.ntmps30
  go_upto_region 1 with fail
  refine wp_gen (fun W => Blk W w.heap.size 42 p1c ∧ Blk W (w.heap.size + 1) 42 C20 ∧ Below w.heap.size w W) ?_ ?_
  · exact alloc2 w _ _ _ _
  rintro W0 ⟨Bp1, Bp2, HB⟩
  obtain ⟨Rp10, Rp11, Rp12, Rp13⟩ := Q4.rows ha1 hb1 hc1 hd1 (by rw [hp1c]; exact Bp1)
  have Lp1 := Bp1.lt
  have Lp2 := Bp2.lt
  go_wp2_with fail
  apply wp_region_g 11 (by kernel_rfl) (by kernel_rfl)
  simp only [List.take_succ_cons, List.take_zero, List.drop_succ_cons, List.drop_zero]
  apply lg_pure (.pointer (some ⟨w.heap.size, 0, none⟩)) rfl (by intro W; go_simp)
  simp only [Act.put, List.setIfInBounds_toArray, List.set_cons_succ, List.set_cons_zero]
  apply lg_e (.tmp 3) ha1 Rp10 Lp1 rfl rfl rfl
  simp only [Act.put, List.setIfInBounds_toArray, List.set_cons_succ, List.set_cons_zero]
  apply lg_f (-X1) 63 #[.agg a1.toArray] rfl (by intro W; go_simp) (fun W => fneg_calls ha1 W)
  rintro _ ⟨v5, rfl, h5⟩
  simp only [Act.put, List.setIfInBounds_toArray, List.set_cons_succ, List.set_cons_zero]
  apply lg_pure (.pointer (some ⟨w.heap.size, 5, none⟩)) rfl (by intro W; go_simp)
  simp only [Act.put, List.setIfInBounds_toArray, List.set_cons_succ, List.set_cons_zero]
  apply lg_e (.tmp 6) hb1 Rp11 Lp1 rfl rfl rfl
  simp only [Act.put, List.setIfInBounds_toArray, List.set_cons_succ, List.set_cons_zero]
  apply lg_pure (.pointer (some ⟨w.heap.size, 10, none⟩)) rfl (by intro W; go_simp)
  simp only [Act.put, List.setIfInBounds_toArray, List.set_cons_succ, List.set_cons_zero]
  apply lg_e (.tmp 8) hc1 Rp12 Lp1 rfl rfl rfl
  simp only [Act.put, List.setIfInBounds_toArray, List.set_cons_succ, List.set_cons_zero]
  apply lg_pure (.pointer (some ⟨w.heap.size, 15, none⟩)) rfl (by intro W; go_simp)
  simp only [Act.put, List.setIfInBounds_toArray, List.set_cons_succ, List.set_cons_zero]
  apply lg_e (.tmp 10) hd1 Rp13 Lp1 rfl rfl rfl
  simp only [Act.put, List.setIfInBounds_toArray, List.set_cons_succ, List.set_cons_zero]
  apply lg_f (-T1) 63 #[.agg d1.toArray] rfl (by intro W; go_simp) (fun W => fneg_calls hd1 W)
  rintro _ ⟨v12, rfl, h12⟩
  simp only [Act.put, List.setIfInBounds_toArray, List.set_cons_succ, List.set_cons_zero]
  have hq13 := Q4.mk h5 hb1 hc1 h12
  have bq13 := fun W => build4 h5 hb1 hc1 h12 W
  obtain ⟨q13, eq13⟩ : ∃ q, v5 ++ b1 ++ c1 ++ v12 = q := ⟨_, rfl⟩
  rw [eq13] at hq13 bq13
  clear eq13
  apply lg_rv (fun v => ∃ c, v = .agg c.toArray ∧ Q4 c (-X1) Y1 Z1 (-T1)) (.agg (q13).toArray) ⟨_, rfl, hq13⟩ rfl (fun W => run_buildop (vs := #[(0, .agg v5.toArray), (1, .agg b1.toArray), (2, .agg c1.toArray), (3, .agg v12.toArray)]) rfl (by first | rfl | go_simp) (bq13 W))
  clear hq13 bq13
  rintro _ ⟨wq13, rfl, hwq13⟩
  simp only [Act.put, List.setIfInBounds_toArray, List.set_cons_succ, List.set_cons_zero]
  refine lg_nil ?_
  intro WY1 hC
  obtain ⟨T0, HL, N0⟩ := ansB (cs := wq13) Bp2 HB (by omega) hC.1 (by rw [hwq13.len]; rfl)
  refine wpList_store_mid rfl 42 _ _ rfl (w.heap.size + 1) 0 wq13.toArray rfl rfl T0 hwq13.sizeA hwq13.one ?_
  simp only [Act.put]
  go_wp2_with fail
  exact bodyPost_ret (v := .agg (wq13).toArray) (res_cell rfl _ _ _ _ rfl (N0.load 42 Tryd.underlying42 rfl hwq13.size)) rfl ⟨_, rfl, ⟨_, rfl, hwq13⟩, HL⟩
set_option maxRecDepth 100000 in
set_option maxHeartbeats 4000000 in
theorem zero_raw (w : World) :
    Calls Tryd.prog 41 #[] w (QPost 0 1 1 (0 * 1) w) := by
  go_enter Tryd.func41, Tryd.ntmps41
  go_upto_region 1 with fail
  refine wp_gen (fun W => Blk W w.heap.size 42 C20 ∧ Below w.heap.size w W) ?_ ?_
  · exact alloc1 w _ _
  rintro W0 ⟨Bp0, HB⟩
  have Lp0 := Bp0.lt
  go_wp2_with fail
  refine (fsmall_calls 0 (by decide) 0 zero_val.symm _).mono ?_
  rintro e WX1 ⟨_, rfl, ⟨v1, rfl, h1⟩, HX⟩
  replace Bp0 := Bp0.later HX
  replace HB := HB.then_ HX
  replace Lp0 := Bp0.lt
  clear HX
  go_wp2_with fail
  refine (fsmall_calls 1 (by decide) 1 one_val.symm _).mono ?_
  rintro e WX2 ⟨_, rfl, ⟨v2, rfl, h2⟩, HX⟩
  replace Bp0 := Bp0.later HX
  replace HB := HB.then_ HX
  replace Lp0 := Bp0.lt
  clear HX
  go_wp2_with fail
  refine (point_calls h1 h2 _).mono ?_
  rintro e WX3 ⟨_, rfl, ⟨v3, rfl, h3⟩, HX⟩
  replace Bp0 := Bp0.later HX
  replace HB := HB.then_ HX
  replace Lp0 := Bp0.lt
  clear HX
  obtain ⟨T0, HL, N0⟩ := ansB (cs := v3) Bp0 HB (by omega) (Below.refl _ _) (by rw [h3.len]; rfl)
  go_wp2_with (first | (refine wpList_store_mid rfl 42 _ _ rfl w.heap.size 0 v3.toArray rfl rfl T0 h3.sizeA h3.one ?_))
  exact bodyPost_ret (v := .agg (v3).toArray) (res_cell rfl _ _ _ _ rfl (N0.load 42 Tryd.underlying42 rfl h3.size)) rfl ⟨_, rfl, ⟨_, rfl, h3⟩, HL⟩
end Go.Proofs.YtkfdclnaaphdgaaDoor
