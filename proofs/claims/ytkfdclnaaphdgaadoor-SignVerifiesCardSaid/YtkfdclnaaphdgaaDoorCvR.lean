/- Layer 6: the document's sums of points, walked. -/
import Derived.Test.YtkfdclnaaphdgaaDoorCvM
namespace Go.Proofs.YtkfdclnaaphdgaaDoor
open Go.ChangeShapes Go.WideShapes Go.ChangeAt Go.RowKit Go.IntWalk
set_option linter.unusedVariables false

set_option maxRecDepth 100000 in
set_option maxHeartbeats 4000000 in
theorem refSum_raw {a1 b1 c1 d1 a2 b2 c2 d2 : List Value} {X1 Y1 Z1 T1 X2 Y2 Z2 T2 : F} (ha1 : N a1 X1) (hb1 : N b1 Y1) (hc1 : N c1 Z1) (hd1 : N d1 T1) (ha2 : N a2 X2) (hb2 : N b2 Y2) (hc2 : N c2 Z2) (hd2 : N d2 T2) (w : World) :
    Calls Tryd.prog 34 #[.agg (a1 ++ b1 ++ c1 ++ d1).toArray, .agg (a2 ++ b2 ++ c2 ++ d2).toArray] w (RPost (((X1 + Y1) * (X2 + Y2) - (X1 * X2 + Y1 * Y2)) * (Z1 * Z2 - T1 * T2 * dF)) ((Z1 * Z2 + T1 * T2 * dF) * (Y1 * Y2 + X1 * X2)) ((Z1 * Z2 - T1 * T2 * dF) * (Z1 * Z2 + T1 * T2 * dF)) (((X1 + Y1) * (X2 + Y2) - (X1 * X2 + Y1 * Y2)) * (Y1 * Y2 + X1 * X2)) w) := by
  obtain ⟨p1c, hp1c⟩ : ∃ c, a1 ++ b1 ++ c1 ++ d1 = c := ⟨_, rfl⟩
  obtain ⟨p2c, hp2c⟩ : ∃ c, a2 ++ b2 ++ c2 ++ d2 = c := ⟨_, rfl⟩
  rw [hp1c, hp2c]
  go_enter Tryd.func34, Tryd.ntmps34
  go_upto_region 1 with fail
  refine wp_gen (fun W => Blk W w.heap.size 52 p1c ∧ Blk W (w.heap.size + 1) 52 p2c ∧ Blk W (w.heap.size + 1 + 1) 52 C64 ∧ Below w.heap.size w W) ?_ ?_
  · exact alloc3 w _ _ _ _ _ _
  rintro W0 ⟨Bp2, Bp3, Bp4, HB⟩
  obtain ⟨Rp20, Rp21, Rp22, Rp23⟩ := R4.rows ha1 hb1 hc1 hd1 (by rw [hp1c]; exact Bp2)
  have Lp2 := Bp2.lt
  obtain ⟨Rp30, Rp31, Rp32, Rp33⟩ := R4.rows ha2 hb2 hc2 hd2 (by rw [hp2c]; exact Bp3)
  have Lp3 := Bp3.lt
  have Lp4 := Bp4.lt
  go_wp2_with (first | (refine wpList_load_mid rfl 50 _ rfl w.heap.size 0 rfl a1 _ Rp20 Tryd.underlying50 rfl ha1.size ?_) | (refine wpList_load_mid rfl 50 _ rfl (w.heap.size + 1) 0 rfl a2 _ Rp30 Tryd.underlying50 rfl ha2.size ?_))
  refine (nmul_calls ha1 ha2 _).mono ?_
  rintro e WX1 ⟨_, rfl, ⟨v17, rfl, h17⟩, HX⟩
  replace Bp2 := Bp2.later HX
  replace Bp3 := Bp3.later HX
  replace Bp4 := Bp4.later HX
  replace HB := HB.then_ HX
  clear Rp20 Rp21 Rp22 Rp23
  obtain ⟨Rp20, Rp21, Rp22, Rp23⟩ := R4.rows ha1 hb1 hc1 hd1 (by rw [hp1c]; exact Bp2)
  replace Lp2 := Bp2.lt
  clear Rp30 Rp31 Rp32 Rp33
  obtain ⟨Rp30, Rp31, Rp32, Rp33⟩ := R4.rows ha2 hb2 hc2 hd2 (by rw [hp2c]; exact Bp3)
  replace Lp3 := Bp3.lt
  replace Lp4 := Bp4.lt
  clear HX
  obtain ⟨T0, HL, N0⟩ := letS (W := WX1) (T := 50) (z := C16) (cs := v17) (by first | (rw [h17.len]; rfl) | rfl)
  go_upto_region 2 with (first | (refine wpList_store_mid rfl 50 _ _ rfl WX1.heap.size 0 v17.toArray rfl rfl T0 h17.sizeA h17.one ?_))
  obtain ⟨g5, eg⟩ : ∃ g, WX1.heap.size = g := ⟨_, rfl⟩
  rw [eg] at N0 ⊢
  have HL2 := HL
  clear HL2
  have hE : Hid (WX1.heap.size = g5) := Lib.hid eg
  refine wp_gen (fun W => Blk W w.heap.size 52 p1c ∧ Blk W (w.heap.size + 1) 52 p2c ∧ Blk W (w.heap.size + 1 + 1) 52 C64 ∧ Blk W g5 50 v17 ∧ Below w.heap.size w W) ⟨Bp2.later (hE.out ▸ HL), Bp3.later (hE.out ▸ HL), Bp4.later (hE.out ▸ HL), N0, HB.then_ (hE.out ▸ HL)⟩ ?_
  clear T0 HL N0 eg hE
  clear Bp2 Bp3 Bp4 Lp2 Lp3 Lp4 Rp20 Rp21 Rp22 Rp23 Rp30 Rp31 Rp32 Rp33 HB
  rintro W2 ⟨Bp2, Bp3, Bp4, Bn5, HB⟩
  obtain ⟨Rp20, Rp21, Rp22, Rp23⟩ := R4.rows ha1 hb1 hc1 hd1 (by rw [hp1c]; exact Bp2)
  have Lp2 := Bp2.lt
  obtain ⟨Rp30, Rp31, Rp32, Rp33⟩ := R4.rows ha2 hb2 hc2 hd2 (by rw [hp2c]; exact Bp3)
  have Lp3 := Bp3.lt
  have Lp4 := Bp4.lt
  have Ln5 := Bn5.lt
  go_wp2_with (first | (refine wpList_load_mid rfl 50 _ rfl w.heap.size 16 rfl b1 _ Rp21 Tryd.underlying50 rfl hb1.size ?_) | (refine wpList_load_mid rfl 50 _ rfl (w.heap.size + 1) 16 rfl b2 _ Rp31 Tryd.underlying50 rfl hb2.size ?_))
  refine (nmul_calls hb1 hb2 _).mono ?_
  rintro e WX3 ⟨_, rfl, ⟨v22, rfl, h22⟩, HX⟩
  replace Bp2 := Bp2.later HX
  replace Bp3 := Bp3.later HX
  replace Bp4 := Bp4.later HX
  replace Bn5 := Bn5.later HX
  replace HB := HB.then_ HX
  clear Rp20 Rp21 Rp22 Rp23
  obtain ⟨Rp20, Rp21, Rp22, Rp23⟩ := R4.rows ha1 hb1 hc1 hd1 (by rw [hp1c]; exact Bp2)
  replace Lp2 := Bp2.lt
  clear Rp30 Rp31 Rp32 Rp33
  obtain ⟨Rp30, Rp31, Rp32, Rp33⟩ := R4.rows ha2 hb2 hc2 hd2 (by rw [hp2c]; exact Bp3)
  replace Lp3 := Bp3.lt
  replace Lp4 := Bp4.lt
  replace Ln5 := Bn5.lt
  clear HX
  obtain ⟨T0, HL, N0⟩ := letS (W := WX3) (T := 50) (z := C16) (cs := v22) (by first | (rw [h22.len]; rfl) | rfl)
  go_upto_region 3 with (first | (refine wpList_store_mid rfl 50 _ _ rfl WX3.heap.size 0 v22.toArray rfl rfl T0 h22.sizeA h22.one ?_))
  obtain ⟨g6, eg⟩ : ∃ g, WX3.heap.size = g := ⟨_, rfl⟩
  rw [eg] at N0 ⊢
  have HL2 := HL
  clear HL2
  have hE : Hid (WX3.heap.size = g6) := Lib.hid eg
  refine wp_gen (fun W => Blk W w.heap.size 52 p1c ∧ Blk W (w.heap.size + 1) 52 p2c ∧ Blk W (w.heap.size + 1 + 1) 52 C64 ∧ Blk W g5 50 v17 ∧ Blk W g6 50 v22 ∧ Below w.heap.size w W) ⟨Bp2.later (hE.out ▸ HL), Bp3.later (hE.out ▸ HL), Bp4.later (hE.out ▸ HL), Bn5.later (hE.out ▸ HL), N0, HB.then_ (hE.out ▸ HL)⟩ ?_
  clear T0 HL N0 eg hE
  clear Bp2 Bp3 Bp4 Bn5 Lp2 Lp3 Lp4 Ln5 Rp20 Rp21 Rp22 Rp23 Rp30 Rp31 Rp32 Rp33 HB
  rintro W4 ⟨Bp2, Bp3, Bp4, Bn5, Bn6, HB⟩
  obtain ⟨Rp20, Rp21, Rp22, Rp23⟩ := R4.rows ha1 hb1 hc1 hd1 (by rw [hp1c]; exact Bp2)
  have Lp2 := Bp2.lt
  obtain ⟨Rp30, Rp31, Rp32, Rp33⟩ := R4.rows ha2 hb2 hc2 hd2 (by rw [hp2c]; exact Bp3)
  have Lp3 := Bp3.lt
  have Lp4 := Bp4.lt
  have Ln5 := Bn5.lt
  have Ln6 := Bn6.lt
  go_wp2_with (first | (refine wpList_load_mid rfl 50 _ rfl w.heap.size 32 rfl c1 _ Rp22 Tryd.underlying50 rfl hc1.size ?_) | (refine wpList_load_mid rfl 50 _ rfl (w.heap.size + 1) 32 rfl c2 _ Rp32 Tryd.underlying50 rfl hc2.size ?_))
  refine (nmul_calls hc1 hc2 _).mono ?_
  rintro e WX5 ⟨_, rfl, ⟨v27, rfl, h27⟩, HX⟩
  replace Bp2 := Bp2.later HX
  replace Bp3 := Bp3.later HX
  replace Bp4 := Bp4.later HX
  replace Bn5 := Bn5.later HX
  replace Bn6 := Bn6.later HX
  replace HB := HB.then_ HX
  clear Rp20 Rp21 Rp22 Rp23
  obtain ⟨Rp20, Rp21, Rp22, Rp23⟩ := R4.rows ha1 hb1 hc1 hd1 (by rw [hp1c]; exact Bp2)
  replace Lp2 := Bp2.lt
  clear Rp30 Rp31 Rp32 Rp33
  obtain ⟨Rp30, Rp31, Rp32, Rp33⟩ := R4.rows ha2 hb2 hc2 hd2 (by rw [hp2c]; exact Bp3)
  replace Lp3 := Bp3.lt
  replace Lp4 := Bp4.lt
  replace Ln5 := Bn5.lt
  replace Ln6 := Bn6.lt
  clear HX
  obtain ⟨T0, HL, N0⟩ := letS (W := WX5) (T := 50) (z := C16) (cs := v27) (by first | (rw [h27.len]; rfl) | rfl)
  go_upto_region 4 with (first | (refine wpList_store_mid rfl 50 _ _ rfl WX5.heap.size 0 v27.toArray rfl rfl T0 h27.sizeA h27.one ?_))
  obtain ⟨g7, eg⟩ : ∃ g, WX5.heap.size = g := ⟨_, rfl⟩
  rw [eg] at N0 ⊢
  have HL2 := HL
  clear HL2
  have hE : Hid (WX5.heap.size = g7) := Lib.hid eg
  refine wp_gen (fun W => Blk W w.heap.size 52 p1c ∧ Blk W (w.heap.size + 1) 52 p2c ∧ Blk W (w.heap.size + 1 + 1) 52 C64 ∧ Blk W g5 50 v17 ∧ Blk W g6 50 v22 ∧ Blk W g7 50 v27 ∧ Below w.heap.size w W) ⟨Bp2.later (hE.out ▸ HL), Bp3.later (hE.out ▸ HL), Bp4.later (hE.out ▸ HL), Bn5.later (hE.out ▸ HL), Bn6.later (hE.out ▸ HL), N0, HB.then_ (hE.out ▸ HL)⟩ ?_
  clear T0 HL N0 eg hE
  clear Bp2 Bp3 Bp4 Bn5 Bn6 Lp2 Lp3 Lp4 Ln5 Ln6 Rp20 Rp21 Rp22 Rp23 Rp30 Rp31 Rp32 Rp33 HB
  rintro W6 ⟨Bp2, Bp3, Bp4, Bn5, Bn6, Bn7, HB⟩
  obtain ⟨Rp20, Rp21, Rp22, Rp23⟩ := R4.rows ha1 hb1 hc1 hd1 (by rw [hp1c]; exact Bp2)
  have Lp2 := Bp2.lt
  obtain ⟨Rp30, Rp31, Rp32, Rp33⟩ := R4.rows ha2 hb2 hc2 hd2 (by rw [hp2c]; exact Bp3)
  have Lp3 := Bp3.lt
  have Lp4 := Bp4.lt
  have Ln5 := Bn5.lt
  have Ln6 := Bn6.lt
  have Ln7 := Bn7.lt
  go_wp2_with (first | (refine wpList_load_mid rfl 50 _ rfl w.heap.size 48 rfl d1 _ Rp23 Tryd.underlying50 rfl hd1.size ?_) | (refine wpList_load_mid rfl 50 _ rfl (w.heap.size + 1) 48 rfl d2 _ Rp33 Tryd.underlying50 rfl hd2.size ?_))
  refine (nmul_calls hd1 hd2 _).mono ?_
  rintro e WX7 ⟨_, rfl, ⟨v32, rfl, h32⟩, HX⟩
  replace Bp2 := Bp2.later HX
  replace Bp3 := Bp3.later HX
  replace Bp4 := Bp4.later HX
  replace Bn5 := Bn5.later HX
  replace Bn6 := Bn6.later HX
  replace Bn7 := Bn7.later HX
  replace HB := HB.then_ HX
  clear Rp20 Rp21 Rp22 Rp23
  obtain ⟨Rp20, Rp21, Rp22, Rp23⟩ := R4.rows ha1 hb1 hc1 hd1 (by rw [hp1c]; exact Bp2)
  replace Lp2 := Bp2.lt
  clear Rp30 Rp31 Rp32 Rp33
  obtain ⟨Rp30, Rp31, Rp32, Rp33⟩ := R4.rows ha2 hb2 hc2 hd2 (by rw [hp2c]; exact Bp3)
  replace Lp3 := Bp3.lt
  replace Lp4 := Bp4.lt
  replace Ln5 := Bn5.lt
  replace Ln6 := Bn6.lt
  replace Ln7 := Bn7.lt
  clear HX
  go_wp2_with fail
  refine (refD_calls _).mono ?_
  rintro e WX8 ⟨_, rfl, ⟨v33, rfl, h33⟩, HX⟩
  replace Bp2 := Bp2.later HX
  replace Bp3 := Bp3.later HX
  replace Bp4 := Bp4.later HX
  replace Bn5 := Bn5.later HX
  replace Bn6 := Bn6.later HX
  replace Bn7 := Bn7.later HX
  replace HB := HB.then_ HX
  clear Rp20 Rp21 Rp22 Rp23
  obtain ⟨Rp20, Rp21, Rp22, Rp23⟩ := R4.rows ha1 hb1 hc1 hd1 (by rw [hp1c]; exact Bp2)
  replace Lp2 := Bp2.lt
  clear Rp30 Rp31 Rp32 Rp33
  obtain ⟨Rp30, Rp31, Rp32, Rp33⟩ := R4.rows ha2 hb2 hc2 hd2 (by rw [hp2c]; exact Bp3)
  replace Lp3 := Bp3.lt
  replace Lp4 := Bp4.lt
  replace Ln5 := Bn5.lt
  replace Ln6 := Bn6.lt
  replace Ln7 := Bn7.lt
  clear HX
  go_wp2_with fail
  refine (nmul_calls h32 h33 _).mono ?_
  rintro e WX9 ⟨_, rfl, ⟨v34, rfl, h34⟩, HX⟩
  replace Bp2 := Bp2.later HX
  replace Bp3 := Bp3.later HX
  replace Bp4 := Bp4.later HX
  replace Bn5 := Bn5.later HX
  replace Bn6 := Bn6.later HX
  replace Bn7 := Bn7.later HX
  replace HB := HB.then_ HX
  clear Rp20 Rp21 Rp22 Rp23
  obtain ⟨Rp20, Rp21, Rp22, Rp23⟩ := R4.rows ha1 hb1 hc1 hd1 (by rw [hp1c]; exact Bp2)
  replace Lp2 := Bp2.lt
  clear Rp30 Rp31 Rp32 Rp33
  obtain ⟨Rp30, Rp31, Rp32, Rp33⟩ := R4.rows ha2 hb2 hc2 hd2 (by rw [hp2c]; exact Bp3)
  replace Lp3 := Bp3.lt
  replace Lp4 := Bp4.lt
  replace Ln5 := Bn5.lt
  replace Ln6 := Bn6.lt
  replace Ln7 := Bn7.lt
  clear HX
  obtain ⟨T0, HL, N0⟩ := letS (W := WX9) (T := 50) (z := C16) (cs := v34) (by first | (rw [h34.len]; rfl) | rfl)
  go_upto_region 5 with (first | (refine wpList_store_mid rfl 50 _ _ rfl WX9.heap.size 0 v34.toArray rfl rfl T0 h34.sizeA h34.one ?_))
  obtain ⟨g8, eg⟩ : ∃ g, WX9.heap.size = g := ⟨_, rfl⟩
  rw [eg] at N0 ⊢
  have HL2 := HL
  clear HL2
  have hE : Hid (WX9.heap.size = g8) := Lib.hid eg
  refine wp_gen (fun W => Blk W w.heap.size 52 p1c ∧ Blk W (w.heap.size + 1) 52 p2c ∧ Blk W (w.heap.size + 1 + 1) 52 C64 ∧ Blk W g5 50 v17 ∧ Blk W g6 50 v22 ∧ Blk W g7 50 v27 ∧ Blk W g8 50 v34 ∧ Below w.heap.size w W) ⟨Bp2.later (hE.out ▸ HL), Bp3.later (hE.out ▸ HL), Bp4.later (hE.out ▸ HL), Bn5.later (hE.out ▸ HL), Bn6.later (hE.out ▸ HL), Bn7.later (hE.out ▸ HL), N0, HB.then_ (hE.out ▸ HL)⟩ ?_
  clear T0 HL N0 eg hE
  clear Bp2 Bp3 Bp4 Bn5 Bn6 Bn7 Lp2 Lp3 Lp4 Ln5 Ln6 Ln7 Rp20 Rp21 Rp22 Rp23 Rp30 Rp31 Rp32 Rp33 HB
  rintro W10 ⟨Bp2, Bp3, Bp4, Bn5, Bn6, Bn7, Bn8, HB⟩
  obtain ⟨Rp20, Rp21, Rp22, Rp23⟩ := R4.rows ha1 hb1 hc1 hd1 (by rw [hp1c]; exact Bp2)
  have Lp2 := Bp2.lt
  obtain ⟨Rp30, Rp31, Rp32, Rp33⟩ := R4.rows ha2 hb2 hc2 hd2 (by rw [hp2c]; exact Bp3)
  have Lp3 := Bp3.lt
  have Lp4 := Bp4.lt
  have Ln5 := Bn5.lt
  have Ln6 := Bn6.lt
  have Ln7 := Bn7.lt
  have Ln8 := Bn8.lt
  go_wp2_with fail
  apply wp_region_g 16 (by kernel_rfl) (by kernel_rfl)
  simp only [List.take_succ_cons, List.take_zero, List.drop_succ_cons, List.drop_zero]
  apply lg_pure (.pointer (some ⟨w.heap.size, 0, none⟩)) rfl (by intro W; go_simp)
  simp only [Act.put, List.setIfInBounds_toArray, List.set_cons_succ, List.set_cons_zero]
  apply lg_ne (.tmp 35) ha1 Rp20 Lp2 rfl rfl rfl
  simp only [Act.put, List.setIfInBounds_toArray, List.set_cons_succ, List.set_cons_zero]
  apply lg_pure (.pointer (some ⟨w.heap.size, 16, none⟩)) rfl (by intro W; go_simp)
  simp only [Act.put, List.setIfInBounds_toArray, List.set_cons_succ, List.set_cons_zero]
  apply lg_ne (.tmp 37) hb1 Rp21 Lp2 rfl rfl rfl
  simp only [Act.put, List.setIfInBounds_toArray, List.set_cons_succ, List.set_cons_zero]
  apply lg_n (X1 + Y1) 67 #[.agg a1.toArray, .agg b1.toArray] rfl (by intro W; go_simp) (fun W => nadd_calls ha1 hb1 W)
  rintro _ ⟨v39, rfl, h39⟩
  simp only [Act.put, List.setIfInBounds_toArray, List.set_cons_succ, List.set_cons_zero]
  apply lg_pure (.pointer (some ⟨w.heap.size + 1, 0, none⟩)) rfl (by intro W; go_simp)
  simp only [Act.put, List.setIfInBounds_toArray, List.set_cons_succ, List.set_cons_zero]
  apply lg_ne (.tmp 40) ha2 Rp30 Lp3 rfl rfl rfl
  simp only [Act.put, List.setIfInBounds_toArray, List.set_cons_succ, List.set_cons_zero]
  apply lg_pure (.pointer (some ⟨w.heap.size + 1, 16, none⟩)) rfl (by intro W; go_simp)
  simp only [Act.put, List.setIfInBounds_toArray, List.set_cons_succ, List.set_cons_zero]
  apply lg_ne (.tmp 42) hb2 Rp31 Lp3 rfl rfl rfl
  simp only [Act.put, List.setIfInBounds_toArray, List.set_cons_succ, List.set_cons_zero]
  apply lg_n (X2 + Y2) 67 #[.agg a2.toArray, .agg b2.toArray] rfl (by intro W; go_simp) (fun W => nadd_calls ha2 hb2 W)
  rintro _ ⟨v44, rfl, h44⟩
  simp only [Act.put, List.setIfInBounds_toArray, List.set_cons_succ, List.set_cons_zero]
  apply lg_n ((X1 + Y1) * (X2 + Y2)) 51 #[.agg v39.toArray, .agg v44.toArray] rfl (by intro W; go_simp) (fun W => nmul_calls h39 h44 W)
  rintro _ ⟨v45, rfl, h45⟩
  simp only [Act.put, List.setIfInBounds_toArray, List.set_cons_succ, List.set_cons_zero]
  apply lg_ne (.tmp 5) h17 Bn5.rng Ln5 rfl rfl rfl
  simp only [Act.put, List.setIfInBounds_toArray, List.set_cons_succ, List.set_cons_zero]
  apply lg_ne (.tmp 6) h22 Bn6.rng Ln6 rfl rfl rfl
  simp only [Act.put, List.setIfInBounds_toArray, List.set_cons_succ, List.set_cons_zero]
  apply lg_n ((X1 * X2) + (Y1 * Y2)) 67 #[.agg v17.toArray, .agg v22.toArray] rfl (by intro W; go_simp) (fun W => nadd_calls h17 h22 W)
  rintro _ ⟨v48, rfl, h48⟩
  simp only [Act.put, List.setIfInBounds_toArray, List.set_cons_succ, List.set_cons_zero]
  apply lg_n (((X1 + Y1) * (X2 + Y2)) - ((X1 * X2) + (Y1 * Y2))) 66 #[.agg v45.toArray, .agg v48.toArray] rfl (by intro W; go_simp) (fun W => nsub_calls h45 h48 W)
  rintro _ ⟨v49, rfl, h49⟩
  simp only [Act.put, List.setIfInBounds_toArray, List.set_cons_succ, List.set_cons_zero]
  apply lg_alloc (.cells C16.toArray 50) (.cells C16.toArray 50) rfl (by intro W; go_simp; rfl) (fun W => heap_alloc_new W _)
  intro g9 eg9
  simp only [Act.put, List.setIfInBounds_toArray, List.set_cons_succ, List.set_cons_zero]
  refine lg_nil ?_
  intro WY11 hC
  obtain ⟨T0, HL, N9, G9⟩ := let1 (z := C16) (cs := v49) hC  (by first | (rw [h49.len]; rfl) | rfl)
  refine wpList_store_mid rfl 50 _ _ rfl g9 0 v49.toArray rfl rfl T0 h49.sizeA h49.one ?_
  simp only [Act.put]
  refine wpList_gen (fun W => Blk W w.heap.size 52 p1c ∧ Blk W (w.heap.size + 1) 52 p2c ∧ Blk W (w.heap.size + 1 + 1) 52 C64 ∧ Blk W g5 50 v17 ∧ Blk W g6 50 v22 ∧ Blk W g7 50 v27 ∧ Blk W g8 50 v34 ∧ Blk W g9 50 v49 ∧ Below w.heap.size w W) ⟨Bp2.later HL, Bp3.later HL, Bp4.later HL, Bn5.later HL, Bn6.later HL, Bn7.later HL, Bn8.later HL, N9, HB.then_ HL⟩ ?_
  clear hC T0 HL N9 eg9
  clear Bp2 Bp3 Bp4 Bn5 Bn6 Bn7 Bn8 Lp2 Lp3 Lp4 Ln5 Ln6 Ln7 Ln8 Rp20 Rp21 Rp22 Rp23 Rp30 Rp31 Rp32 Rp33 HB
  rintro W11 ⟨Bp2, Bp3, Bp4, Bn5, Bn6, Bn7, Bn8, Bn9, HB⟩
  obtain ⟨Rp20, Rp21, Rp22, Rp23⟩ := R4.rows ha1 hb1 hc1 hd1 (by rw [hp1c]; exact Bp2)
  have Lp2 := Bp2.lt
  obtain ⟨Rp30, Rp31, Rp32, Rp33⟩ := R4.rows ha2 hb2 hc2 hd2 (by rw [hp2c]; exact Bp3)
  have Lp3 := Bp3.lt
  have Lp4 := Bp4.lt
  have Ln5 := Bn5.lt
  have Ln6 := Bn6.lt
  have Ln7 := Bn7.lt
  have Ln8 := Bn8.lt
  have Ln9 := Bn9.lt
  go_wp2_with (first | (refine wpList_load_mid rfl 50 _ rfl g7 0 rfl v27 _ Bn7.rng Tryd.underlying50 rfl h27.size ?_) | (refine wpList_load_mid rfl 50 _ rfl g8 0 rfl v34 _ Bn8.rng Tryd.underlying50 rfl h34.size ?_))
  refine (nsub_calls h27 h34 _).mono ?_
  rintro e WX12 ⟨_, rfl, ⟨v52, rfl, h52⟩, HX⟩
  replace Bp2 := Bp2.later HX
  replace Bp3 := Bp3.later HX
  replace Bp4 := Bp4.later HX
  replace Bn5 := Bn5.later HX
  replace Bn6 := Bn6.later HX
  replace Bn7 := Bn7.later HX
  replace Bn8 := Bn8.later HX
  replace Bn9 := Bn9.later HX
  replace HB := HB.then_ HX
  clear Rp20 Rp21 Rp22 Rp23
  obtain ⟨Rp20, Rp21, Rp22, Rp23⟩ := R4.rows ha1 hb1 hc1 hd1 (by rw [hp1c]; exact Bp2)
  replace Lp2 := Bp2.lt
  clear Rp30 Rp31 Rp32 Rp33
  obtain ⟨Rp30, Rp31, Rp32, Rp33⟩ := R4.rows ha2 hb2 hc2 hd2 (by rw [hp2c]; exact Bp3)
  replace Lp3 := Bp3.lt
  replace Lp4 := Bp4.lt
  replace Ln5 := Bn5.lt
  replace Ln6 := Bn6.lt
  replace Ln7 := Bn7.lt
  replace Ln8 := Bn8.lt
  replace Ln9 := Bn9.lt
  clear HX
  obtain ⟨T0, HL, N0⟩ := letS (W := WX12) (T := 50) (z := C16) (cs := v52) (by first | (rw [h52.len]; rfl) | rfl)
  go_upto_region 7 with (first | (refine wpList_store_mid rfl 50 _ _ rfl WX12.heap.size 0 v52.toArray rfl rfl T0 h52.sizeA h52.one ?_))
  obtain ⟨g10, eg⟩ : ∃ g, WX12.heap.size = g := ⟨_, rfl⟩
  rw [eg] at N0 ⊢
  have HL2 := HL
  clear HL2
  have hE : Hid (WX12.heap.size = g10) := Lib.hid eg
  refine wp_gen (fun W => Blk W w.heap.size 52 p1c ∧ Blk W (w.heap.size + 1) 52 p2c ∧ Blk W (w.heap.size + 1 + 1) 52 C64 ∧ Blk W g5 50 v17 ∧ Blk W g6 50 v22 ∧ Blk W g7 50 v27 ∧ Blk W g8 50 v34 ∧ Blk W g9 50 v49 ∧ Blk W g10 50 v52 ∧ Below w.heap.size w W) ⟨Bp2.later (hE.out ▸ HL), Bp3.later (hE.out ▸ HL), Bp4.later (hE.out ▸ HL), Bn5.later (hE.out ▸ HL), Bn6.later (hE.out ▸ HL), Bn7.later (hE.out ▸ HL), Bn8.later (hE.out ▸ HL), Bn9.later (hE.out ▸ HL), N0, HB.then_ (hE.out ▸ HL)⟩ ?_
  clear T0 HL N0 eg hE
  clear Bp2 Bp3 Bp4 Bn5 Bn6 Bn7 Bn8 Bn9 Lp2 Lp3 Lp4 Ln5 Ln6 Ln7 Ln8 Ln9 Rp20 Rp21 Rp22 Rp23 Rp30 Rp31 Rp32 Rp33 HB
  rintro W13 ⟨Bp2, Bp3, Bp4, Bn5, Bn6, Bn7, Bn8, Bn9, Bn10, HB⟩
  obtain ⟨Rp20, Rp21, Rp22, Rp23⟩ := R4.rows ha1 hb1 hc1 hd1 (by rw [hp1c]; exact Bp2)
  have Lp2 := Bp2.lt
  obtain ⟨Rp30, Rp31, Rp32, Rp33⟩ := R4.rows ha2 hb2 hc2 hd2 (by rw [hp2c]; exact Bp3)
  have Lp3 := Bp3.lt
  have Lp4 := Bp4.lt
  have Ln5 := Bn5.lt
  have Ln6 := Bn6.lt
  have Ln7 := Bn7.lt
  have Ln8 := Bn8.lt
  have Ln9 := Bn9.lt
  have Ln10 := Bn10.lt
  go_wp2_with (first | (refine wpList_load_mid rfl 50 _ rfl g7 0 rfl v27 _ Bn7.rng Tryd.underlying50 rfl h27.size ?_) | (refine wpList_load_mid rfl 50 _ rfl g8 0 rfl v34 _ Bn8.rng Tryd.underlying50 rfl h34.size ?_))
  refine (nadd_calls h27 h34 _).mono ?_
  rintro e WX14 ⟨_, rfl, ⟨v55, rfl, h55⟩, HX⟩
  replace Bp2 := Bp2.later HX
  replace Bp3 := Bp3.later HX
  replace Bp4 := Bp4.later HX
  replace Bn5 := Bn5.later HX
  replace Bn6 := Bn6.later HX
  replace Bn7 := Bn7.later HX
  replace Bn8 := Bn8.later HX
  replace Bn9 := Bn9.later HX
  replace Bn10 := Bn10.later HX
  replace HB := HB.then_ HX
  clear Rp20 Rp21 Rp22 Rp23
  obtain ⟨Rp20, Rp21, Rp22, Rp23⟩ := R4.rows ha1 hb1 hc1 hd1 (by rw [hp1c]; exact Bp2)
  replace Lp2 := Bp2.lt
  clear Rp30 Rp31 Rp32 Rp33
  obtain ⟨Rp30, Rp31, Rp32, Rp33⟩ := R4.rows ha2 hb2 hc2 hd2 (by rw [hp2c]; exact Bp3)
  replace Lp3 := Bp3.lt
  replace Lp4 := Bp4.lt
  replace Ln5 := Bn5.lt
  replace Ln6 := Bn6.lt
  replace Ln7 := Bn7.lt
  replace Ln8 := Bn8.lt
  replace Ln9 := Bn9.lt
  replace Ln10 := Bn10.lt
  clear HX
  obtain ⟨T0, HL, N0⟩ := letS (W := WX14) (T := 50) (z := C16) (cs := v55) (by first | (rw [h55.len]; rfl) | rfl)
  go_upto_region 8 with (first | (refine wpList_store_mid rfl 50 _ _ rfl WX14.heap.size 0 v55.toArray rfl rfl T0 h55.sizeA h55.one ?_))
  obtain ⟨g11, eg⟩ : ∃ g, WX14.heap.size = g := ⟨_, rfl⟩
  rw [eg] at N0 ⊢
  have HL2 := HL
  clear HL2
  have hE : Hid (WX14.heap.size = g11) := Lib.hid eg
  refine wp_gen (fun W => Blk W w.heap.size 52 p1c ∧ Blk W (w.heap.size + 1) 52 p2c ∧ Blk W (w.heap.size + 1 + 1) 52 C64 ∧ Blk W g5 50 v17 ∧ Blk W g6 50 v22 ∧ Blk W g7 50 v27 ∧ Blk W g8 50 v34 ∧ Blk W g9 50 v49 ∧ Blk W g10 50 v52 ∧ Blk W g11 50 v55 ∧ Below w.heap.size w W) ⟨Bp2.later (hE.out ▸ HL), Bp3.later (hE.out ▸ HL), Bp4.later (hE.out ▸ HL), Bn5.later (hE.out ▸ HL), Bn6.later (hE.out ▸ HL), Bn7.later (hE.out ▸ HL), Bn8.later (hE.out ▸ HL), Bn9.later (hE.out ▸ HL), Bn10.later (hE.out ▸ HL), N0, HB.then_ (hE.out ▸ HL)⟩ ?_
  clear T0 HL N0 eg hE
  clear Bp2 Bp3 Bp4 Bn5 Bn6 Bn7 Bn8 Bn9 Bn10 Lp2 Lp3 Lp4 Ln5 Ln6 Ln7 Ln8 Ln9 Ln10 Rp20 Rp21 Rp22 Rp23 Rp30 Rp31 Rp32 Rp33 HB
  rintro W15 ⟨Bp2, Bp3, Bp4, Bn5, Bn6, Bn7, Bn8, Bn9, Bn10, Bn11, HB⟩
  obtain ⟨Rp20, Rp21, Rp22, Rp23⟩ := R4.rows ha1 hb1 hc1 hd1 (by rw [hp1c]; exact Bp2)
  have Lp2 := Bp2.lt
  obtain ⟨Rp30, Rp31, Rp32, Rp33⟩ := R4.rows ha2 hb2 hc2 hd2 (by rw [hp2c]; exact Bp3)
  have Lp3 := Bp3.lt
  have Lp4 := Bp4.lt
  have Ln5 := Bn5.lt
  have Ln6 := Bn6.lt
  have Ln7 := Bn7.lt
  have Ln8 := Bn8.lt
  have Ln9 := Bn9.lt
  have Ln10 := Bn10.lt
  have Ln11 := Bn11.lt
  go_wp2_with (first | (refine wpList_load_mid rfl 50 _ rfl g6 0 rfl v22 _ Bn6.rng Tryd.underlying50 rfl h22.size ?_) | (refine wpList_load_mid rfl 50 _ rfl g5 0 rfl v17 _ Bn5.rng Tryd.underlying50 rfl h17.size ?_))
  refine (nadd_calls h22 h17 _).mono ?_
  rintro e WX16 ⟨_, rfl, ⟨v58, rfl, h58⟩, HX⟩
  replace Bp2 := Bp2.later HX
  replace Bp3 := Bp3.later HX
  replace Bp4 := Bp4.later HX
  replace Bn5 := Bn5.later HX
  replace Bn6 := Bn6.later HX
  replace Bn7 := Bn7.later HX
  replace Bn8 := Bn8.later HX
  replace Bn9 := Bn9.later HX
  replace Bn10 := Bn10.later HX
  replace Bn11 := Bn11.later HX
  replace HB := HB.then_ HX
  clear Rp20 Rp21 Rp22 Rp23
  obtain ⟨Rp20, Rp21, Rp22, Rp23⟩ := R4.rows ha1 hb1 hc1 hd1 (by rw [hp1c]; exact Bp2)
  replace Lp2 := Bp2.lt
  clear Rp30 Rp31 Rp32 Rp33
  obtain ⟨Rp30, Rp31, Rp32, Rp33⟩ := R4.rows ha2 hb2 hc2 hd2 (by rw [hp2c]; exact Bp3)
  replace Lp3 := Bp3.lt
  replace Lp4 := Bp4.lt
  replace Ln5 := Bn5.lt
  replace Ln6 := Bn6.lt
  replace Ln7 := Bn7.lt
  replace Ln8 := Bn8.lt
  replace Ln9 := Bn9.lt
  replace Ln10 := Bn10.lt
  replace Ln11 := Bn11.lt
  clear HX
  obtain ⟨T0, HL, N0⟩ := letS (W := WX16) (T := 50) (z := C16) (cs := v58) (by first | (rw [h58.len]; rfl) | rfl)
  go_upto_region 9 with (first | (refine wpList_store_mid rfl 50 _ _ rfl WX16.heap.size 0 v58.toArray rfl rfl T0 h58.sizeA h58.one ?_))
  obtain ⟨g12, eg⟩ : ∃ g, WX16.heap.size = g := ⟨_, rfl⟩
  rw [eg] at N0 ⊢
  have HL2 := HL
  clear HL2
  have hE : Hid (WX16.heap.size = g12) := Lib.hid eg
  refine wp_gen (fun W => Blk W w.heap.size 52 p1c ∧ Blk W (w.heap.size + 1) 52 p2c ∧ Blk W (w.heap.size + 1 + 1) 52 C64 ∧ Blk W g5 50 v17 ∧ Blk W g6 50 v22 ∧ Blk W g7 50 v27 ∧ Blk W g8 50 v34 ∧ Blk W g9 50 v49 ∧ Blk W g10 50 v52 ∧ Blk W g11 50 v55 ∧ Blk W g12 50 v58 ∧ Below w.heap.size w W) ⟨Bp2.later (hE.out ▸ HL), Bp3.later (hE.out ▸ HL), Bp4.later (hE.out ▸ HL), Bn5.later (hE.out ▸ HL), Bn6.later (hE.out ▸ HL), Bn7.later (hE.out ▸ HL), Bn8.later (hE.out ▸ HL), Bn9.later (hE.out ▸ HL), Bn10.later (hE.out ▸ HL), Bn11.later (hE.out ▸ HL), N0, HB.then_ (hE.out ▸ HL)⟩ ?_
  clear T0 HL N0 eg hE
  clear Bp2 Bp3 Bp4 Bn5 Bn6 Bn7 Bn8 Bn9 Bn10 Bn11 Lp2 Lp3 Lp4 Ln5 Ln6 Ln7 Ln8 Ln9 Ln10 Ln11 Rp20 Rp21 Rp22 Rp23 Rp30 Rp31 Rp32 Rp33 HB
  rintro W17 ⟨Bp2, Bp3, Bp4, Bn5, Bn6, Bn7, Bn8, Bn9, Bn10, Bn11, Bn12, HB⟩
  obtain ⟨Rp20, Rp21, Rp22, Rp23⟩ := R4.rows ha1 hb1 hc1 hd1 (by rw [hp1c]; exact Bp2)
  have Lp2 := Bp2.lt
  obtain ⟨Rp30, Rp31, Rp32, Rp33⟩ := R4.rows ha2 hb2 hc2 hd2 (by rw [hp2c]; exact Bp3)
  have Lp3 := Bp3.lt
  have Lp4 := Bp4.lt
  have Ln5 := Bn5.lt
  have Ln6 := Bn6.lt
  have Ln7 := Bn7.lt
  have Ln8 := Bn8.lt
  have Ln9 := Bn9.lt
  have Ln10 := Bn10.lt
  have Ln11 := Bn11.lt
  have Ln12 := Bn12.lt
  go_wp2_with fail
  apply wp_region_g 13 (by kernel_rfl) (by kernel_rfl)
  simp only [List.take_succ_cons, List.take_zero, List.drop_succ_cons, List.drop_zero]
  apply lg_ne (.tmp 9) h49 Bn9.rng Ln9 rfl rfl rfl
  simp only [Act.put, List.setIfInBounds_toArray, List.set_cons_succ, List.set_cons_zero]
  apply lg_ne (.tmp 10) h52 Bn10.rng Ln10 rfl rfl rfl
  simp only [Act.put, List.setIfInBounds_toArray, List.set_cons_succ, List.set_cons_zero]
  apply lg_n ((((X1 + Y1) * (X2 + Y2)) - ((X1 * X2) + (Y1 * Y2))) * ((Z1 * Z2) - ((T1 * T2) * dF))) 51 #[.agg v49.toArray, .agg v52.toArray] rfl (by intro W; go_simp) (fun W => nmul_calls h49 h52 W)
  rintro _ ⟨v61, rfl, h61⟩
  simp only [Act.put, List.setIfInBounds_toArray, List.set_cons_succ, List.set_cons_zero]
  apply lg_ne (.tmp 11) h55 Bn11.rng Ln11 rfl rfl rfl
  simp only [Act.put, List.setIfInBounds_toArray, List.set_cons_succ, List.set_cons_zero]
  apply lg_ne (.tmp 12) h58 Bn12.rng Ln12 rfl rfl rfl
  simp only [Act.put, List.setIfInBounds_toArray, List.set_cons_succ, List.set_cons_zero]
  apply lg_n (((Z1 * Z2) + ((T1 * T2) * dF)) * ((Y1 * Y2) + (X1 * X2))) 51 #[.agg v55.toArray, .agg v58.toArray] rfl (by intro W; go_simp) (fun W => nmul_calls h55 h58 W)
  rintro _ ⟨v64, rfl, h64⟩
  simp only [Act.put, List.setIfInBounds_toArray, List.set_cons_succ, List.set_cons_zero]
  apply lg_ne (.tmp 10) h52 Bn10.rng Ln10 rfl rfl rfl
  simp only [Act.put, List.setIfInBounds_toArray, List.set_cons_succ, List.set_cons_zero]
  apply lg_ne (.tmp 11) h55 Bn11.rng Ln11 rfl rfl rfl
  simp only [Act.put, List.setIfInBounds_toArray, List.set_cons_succ, List.set_cons_zero]
  apply lg_n (((Z1 * Z2) - ((T1 * T2) * dF)) * ((Z1 * Z2) + ((T1 * T2) * dF))) 51 #[.agg v52.toArray, .agg v55.toArray] rfl (by intro W; go_simp) (fun W => nmul_calls h52 h55 W)
  rintro _ ⟨v67, rfl, h67⟩
  simp only [Act.put, List.setIfInBounds_toArray, List.set_cons_succ, List.set_cons_zero]
  apply lg_ne (.tmp 9) h49 Bn9.rng Ln9 rfl rfl rfl
  simp only [Act.put, List.setIfInBounds_toArray, List.set_cons_succ, List.set_cons_zero]
  apply lg_ne (.tmp 12) h58 Bn12.rng Ln12 rfl rfl rfl
  simp only [Act.put, List.setIfInBounds_toArray, List.set_cons_succ, List.set_cons_zero]
  apply lg_n ((((X1 + Y1) * (X2 + Y2)) - ((X1 * X2) + (Y1 * Y2))) * ((Y1 * Y2) + (X1 * X2))) 51 #[.agg v49.toArray, .agg v58.toArray] rfl (by intro W; go_simp) (fun W => nmul_calls h49 h58 W)
  rintro _ ⟨v70, rfl, h70⟩
  simp only [Act.put, List.setIfInBounds_toArray, List.set_cons_succ, List.set_cons_zero]
  have hq71 := R4.mk h61 h64 h67 h70
  have bq71 := fun W => build4n h61 h64 h67 h70 W
  obtain ⟨q71, eq71⟩ : ∃ q, v61 ++ v64 ++ v67 ++ v70 = q := ⟨_, rfl⟩
  rw [eq71] at hq71 bq71
  clear eq71
  apply lg_rv (fun v => ∃ c, v = .agg c.toArray ∧ R4 c ((((X1 + Y1) * (X2 + Y2)) - ((X1 * X2) + (Y1 * Y2))) * ((Z1 * Z2) - ((T1 * T2) * dF))) (((Z1 * Z2) + ((T1 * T2) * dF)) * ((Y1 * Y2) + (X1 * X2))) (((Z1 * Z2) - ((T1 * T2) * dF)) * ((Z1 * Z2) + ((T1 * T2) * dF))) ((((X1 + Y1) * (X2 + Y2)) - ((X1 * X2) + (Y1 * Y2))) * ((Y1 * Y2) + (X1 * X2)))) (.agg (q71).toArray) ⟨_, rfl, hq71⟩ rfl (fun W => run_buildop (vs := #[(0, .agg v61.toArray), (1, .agg v64.toArray), (2, .agg v67.toArray), (3, .agg v70.toArray)]) rfl (by first | rfl | go_simp) (bq71 W))
  clear hq71 bq71
  rintro _ ⟨wq71, rfl, hwq71⟩
  simp only [Act.put, List.setIfInBounds_toArray, List.set_cons_succ, List.set_cons_zero]
  refine lg_nil ?_
  intro WY18 hC
  obtain ⟨T0, HL, N0⟩ := ansB (cs := wq71) Bp4 HB (by omega) hC.1 (by rw [hwq71.len]; rfl)
  refine wpList_store_mid rfl 52 _ _ rfl (w.heap.size + 1 + 1) 0 wq71.toArray rfl rfl T0 hwq71.sizeA hwq71.one ?_
  simp only [Act.put]
  go_wp2_with fail
  exact bodyPost_ret (v := .agg (wq71).toArray) (res_cell rfl _ _ _ _ rfl (N0.load 52 Tryd.underlying52 rfl hwq71.size)) rfl ⟨_, rfl, ⟨_, rfl, hwq71⟩, HL⟩
set_option maxRecDepth 100000 in
set_option maxHeartbeats 4000000 in
theorem refNeg_raw {a1 b1 c1 d1 : List Value} {X1 Y1 Z1 T1 : F} (ha1 : N a1 X1) (hb1 : N b1 Y1) (hc1 : N c1 Z1) (hd1 : N d1 T1) (w : World) :
    Calls Tryd.prog 33 #[.agg (a1 ++ b1 ++ c1 ++ d1).toArray] w (RPost (0 - X1) Y1 Z1 (0 - T1) w) := by
  obtain ⟨p1c, hp1c⟩ : ∃ c, a1 ++ b1 ++ c1 ++ d1 = c := ⟨_, rfl⟩
  rw [hp1c]
  go_enter Tryd.func33, Tryd.ntmps33
  go_upto_region 1 with fail
  refine wp_gen (fun W => Blk W w.heap.size 52 p1c ∧ Blk W (w.heap.size + 1) 52 C64 ∧ Below w.heap.size w W) ?_ ?_
  · exact alloc2 w _ _ _ _
  rintro W0 ⟨Bp1, Bp2, HB⟩
  obtain ⟨Rp10, Rp11, Rp12, Rp13⟩ := R4.rows ha1 hb1 hc1 hd1 (by rw [hp1c]; exact Bp1)
  have Lp1 := Bp1.lt
  have Lp2 := Bp2.lt
  have bq4 := build0n
  obtain ⟨T0, HL, N0⟩ := letS (W := W0) (T := 50) (z := C16) (cs := C16) (by first | (rw [N.zero.len]; rfl) | rfl)
  go_upto_region 2 with (first | (refine wpList_buildop (vs := #[]) rfl rfl (by first | rfl | go_simp) (bq4 _) ?_) | (refine wpList_store_mid rfl 50 _ _ rfl W0.heap.size 0 C16.toArray rfl rfl T0 N.zero.sizeA N.zero.one ?_))
  obtain ⟨g3, eg⟩ : ∃ g, W0.heap.size = g := ⟨_, rfl⟩
  rw [eg] at N0 ⊢
  have HL2 := HL
  clear HL2
  have hE : Hid (W0.heap.size = g3) := Lib.hid eg
  refine wp_gen (fun W => Blk W w.heap.size 52 p1c ∧ Blk W (w.heap.size + 1) 52 C64 ∧ Blk W g3 50 C16 ∧ Below w.heap.size w W) ⟨Bp1.later (hE.out ▸ HL), Bp2.later (hE.out ▸ HL), N0, HB.then_ (hE.out ▸ HL)⟩ ?_
  clear T0 HL N0 eg hE
  clear Bp1 Bp2 Lp1 Lp2 Rp10 Rp11 Rp12 Rp13 HB
  rintro W1 ⟨Bp1, Bp2, Bn3, HB⟩
  obtain ⟨Rp10, Rp11, Rp12, Rp13⟩ := R4.rows ha1 hb1 hc1 hd1 (by rw [hp1c]; exact Bp1)
  have Lp1 := Bp1.lt
  have Lp2 := Bp2.lt
  have Ln3 := Bn3.lt
  go_wp2_with fail
  apply wp_region_g 13 (by kernel_rfl) (by kernel_rfl)
  simp only [List.take_succ_cons, List.take_zero, List.drop_succ_cons, List.drop_zero]
  apply lg_ne (.tmp 3) N.zero Bn3.rng Ln3 rfl rfl rfl
  simp only [Act.put, List.setIfInBounds_toArray, List.set_cons_succ, List.set_cons_zero]
  apply lg_pure (.pointer (some ⟨w.heap.size, 0, none⟩)) rfl (by intro W; go_simp)
  simp only [Act.put, List.setIfInBounds_toArray, List.set_cons_succ, List.set_cons_zero]
  apply lg_ne (.tmp 6) ha1 Rp10 Lp1 rfl rfl rfl
  simp only [Act.put, List.setIfInBounds_toArray, List.set_cons_succ, List.set_cons_zero]
  apply lg_n (0 - X1) 66 #[.agg C16.toArray, .agg a1.toArray] rfl (by intro W; go_simp) (fun W => nsub_calls N.zero ha1 W)
  rintro _ ⟨v8, rfl, h8⟩
  simp only [Act.put, List.setIfInBounds_toArray, List.set_cons_succ, List.set_cons_zero]
  apply lg_pure (.pointer (some ⟨w.heap.size, 16, none⟩)) rfl (by intro W; go_simp)
  simp only [Act.put, List.setIfInBounds_toArray, List.set_cons_succ, List.set_cons_zero]
  apply lg_ne (.tmp 9) hb1 Rp11 Lp1 rfl rfl rfl
  simp only [Act.put, List.setIfInBounds_toArray, List.set_cons_succ, List.set_cons_zero]
  apply lg_pure (.pointer (some ⟨w.heap.size, 32, none⟩)) rfl (by intro W; go_simp)
  simp only [Act.put, List.setIfInBounds_toArray, List.set_cons_succ, List.set_cons_zero]
  apply lg_ne (.tmp 11) hc1 Rp12 Lp1 rfl rfl rfl
  simp only [Act.put, List.setIfInBounds_toArray, List.set_cons_succ, List.set_cons_zero]
  apply lg_ne (.tmp 3) N.zero Bn3.rng Ln3 rfl rfl rfl
  simp only [Act.put, List.setIfInBounds_toArray, List.set_cons_succ, List.set_cons_zero]
  apply lg_pure (.pointer (some ⟨w.heap.size, 48, none⟩)) rfl (by intro W; go_simp)
  simp only [Act.put, List.setIfInBounds_toArray, List.set_cons_succ, List.set_cons_zero]
  apply lg_ne (.tmp 14) hd1 Rp13 Lp1 rfl rfl rfl
  simp only [Act.put, List.setIfInBounds_toArray, List.set_cons_succ, List.set_cons_zero]
  apply lg_n (0 - T1) 66 #[.agg C16.toArray, .agg d1.toArray] rfl (by intro W; go_simp) (fun W => nsub_calls N.zero hd1 W)
  rintro _ ⟨v16, rfl, h16⟩
  simp only [Act.put, List.setIfInBounds_toArray, List.set_cons_succ, List.set_cons_zero]
  have hq17 := R4.mk h8 hb1 hc1 h16
  have bq17 := fun W => build4n h8 hb1 hc1 h16 W
  obtain ⟨q17, eq17⟩ : ∃ q, v8 ++ b1 ++ c1 ++ v16 = q := ⟨_, rfl⟩
  rw [eq17] at hq17 bq17
  clear eq17
  apply lg_rv (fun v => ∃ c, v = .agg c.toArray ∧ R4 c (0 - X1) Y1 Z1 (0 - T1)) (.agg (q17).toArray) ⟨_, rfl, hq17⟩ rfl (fun W => run_buildop (vs := #[(0, .agg v8.toArray), (1, .agg b1.toArray), (2, .agg c1.toArray), (3, .agg v16.toArray)]) rfl (by first | rfl | go_simp) (bq17 W))
  clear hq17 bq17
  rintro _ ⟨wq17, rfl, hwq17⟩
  simp only [Act.put, List.setIfInBounds_toArray, List.set_cons_succ, List.set_cons_zero]
  refine lg_nil ?_
  intro WY2 hC
  obtain ⟨T0, HL, N0⟩ := ansB (cs := wq17) Bp2 HB (by omega) hC.1 (by rw [hwq17.len]; rfl)
  refine wpList_store_mid rfl 52 _ _ rfl (w.heap.size + 1) 0 wq17.toArray rfl rfl T0 hwq17.sizeA hwq17.one ?_
  simp only [Act.put]
  go_wp2_with fail
  exact bodyPost_ret (v := .agg (wq17).toArray) (res_cell rfl _ _ _ _ rfl (N0.load 52 Tryd.underlying52 rfl hwq17.size)) rfl ⟨_, rfl, ⟨_, rfl, hwq17⟩, HL⟩
set_option maxRecDepth 100000 in
set_option maxHeartbeats 4000000 in
theorem refZero_raw (w : World) :
    Calls Tryd.prog 53 #[] w (RPost 0 1 1 0 w) := by
  go_enter Tryd.func53, Tryd.ntmps53
  go_upto_region 1 with fail
  refine wp_gen (fun W => Blk W w.heap.size 52 C64 ∧ Below w.heap.size w W) ?_ ?_
  · exact alloc1 w _ _
  rintro W0 ⟨Bp0, HB⟩
  have Lp0 := Bp0.lt
  go_wp2_with fail
  refine (nsmall_calls 1 (by decide) 1 one_val.symm _).mono ?_
  rintro e WX1 ⟨_, rfl, ⟨v1, rfl, h1⟩, HX⟩
  replace Bp0 := Bp0.later HX
  replace HB := HB.then_ HX
  replace Lp0 := Bp0.lt
  clear HX
  go_wp2_with fail
  refine (nsmall_calls 1 (by decide) 1 one_val.symm _).mono ?_
  rintro e WX2 ⟨_, rfl, ⟨v2, rfl, h2⟩, HX⟩
  replace Bp0 := Bp0.later HX
  replace HB := HB.then_ HX
  replace Lp0 := Bp0.lt
  clear HX
  have hq3 := R4.mk N.zero h1 h2 N.zero
  have bq3 := fun W => build2n h1 h2 W
  obtain ⟨q3, eq3⟩ : ∃ q, C16 ++ v1 ++ v2 ++ C16 = q := ⟨_, rfl⟩
  rw [eq3] at hq3 bq3
  clear eq3
  obtain ⟨T0, HL, N0⟩ := ansB (cs := q3) Bp0 HB (by omega) (Below.refl _ _) (by rw [hq3.len]; rfl)
  go_wp2_with (first | (refine wpList_buildop (vs := #[(1, .agg v1.toArray), (2, .agg v2.toArray)]) rfl rfl (by first | rfl | go_simp) (bq3 _) ?_) | (refine wpList_store_mid rfl 52 _ _ rfl w.heap.size 0 q3.toArray rfl rfl T0 hq3.sizeA hq3.one ?_))
  exact bodyPost_ret (v := .agg (q3).toArray) (res_cell rfl _ _ _ _ rfl (N0.load 52 Tryd.underlying52 rfl hq3.size)) rfl ⟨_, rfl, ⟨_, rfl, hq3⟩, HL⟩
end Go.Proofs.YtkfdclnaaphdgaaDoor
