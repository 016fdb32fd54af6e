/- Layer 6: CurveLaws, walked. -/
import Derived.Test.YtoligamlafgaoaaDoorCwB
namespace Go.Proofs.YtoligamlafgaoaaDoor
open Go.ChangeShapes Go.WideShapes Go.ChangeAt Go.RowKit Go.IntWalk
set_option linter.unusedVariables false

set_option maxRecDepth 100000 in
set_option maxHeartbeats 8000000 in
theorem curveLaws_walk (xs : List UInt8) (hxs : xs.length = 32) (ys : List UInt8) (hys : ys.length = 32) (zs : List UInt8) (hzs : zs.length = 32) (w : World) (hT : Tab3 w) :
    Calls Tryd.prog 6 #[.agg (xs.map fun c => Value.int .u8 (c.toNat : Int)).toArray, .agg (ys.map fun c => Value.int .u8 (c.toNat : Int)).toArray, .agg (zs.map fun c => Value.int .u8 (c.toNat : Int)).toArray] w fun e w' => e = .returned (.bool true) ∧ Below w.heap.size w w' := by
  have hszxs := size32' xs hxs
  have hdcxs : ∀ W, TabD W → Calls Tryd.prog 12 #[.agg (u8s xs).toArray] W (DPost xs W) := fun W h => decode_calls xs hxs W h
  have hrdxs := refDecode_calls xs hxs
  have HRBxs : Hid (∀ (W : World) (g : Nat), Blk W g 22 (u8s xs) → (convert 39 9 (.slice (some ⟨g, 0, none⟩) 32 32)).run Tryd.prog W = .ok (.string ⟨xs.toArray⟩) W) := Lib.hid (fun W g h => run_str_rb W (some ⟨g, 0, none⟩) 32 32 xs (UBlk.rb h) (Lib.hid hxs.symm))
  have HGQxs := Lib.hid (fun op x y W => guard_bytes op xs xs x y W)
  have HQQxs := Lib.hid (fun W => eqin_bytes xs xs hxs hxs W)
  rw [beq_self_eq_true] at HQQxs
  unfold A32 at HGQxs HQQxs
  have HENxs : Hid (∀ (c : List Value) (W : World), dOk xs = true → PL c (decP xs) → Calls Tryd.prog 11 #[.agg c.toArray] W fun e w' => e = .returned (.agg (u8s xs).toArray) ∧ Below W.heap.size W w') := Lib.hid (fun c W hk h => by
    have := bytesP h W
    unfold BPost at this
    rwa [enc_dec hxs hk] at this)
  obtain ⟨uxs, huxs⟩ : ∃ q, u8s xs = q := ⟨_, rfl⟩
  rw [show (xs.map fun c => Value.int .u8 (c.toNat : Int)) = uxs from huxs]
  rw [huxs] at hszxs HRBxs HGQxs HQQxs HENxs
  simp only [huxs] at hdcxs
  have HDCxs := Lib.hid hdcxs
  have HRDxs := Lib.hid hrdxs
  clear huxs hdcxs hrdxs
  have hszys := size32' ys hys
  have hdcys : ∀ W, TabD W → Calls Tryd.prog 12 #[.agg (u8s ys).toArray] W (DPost ys W) := fun W h => decode_calls ys hys W h
  have hrdys := refDecode_calls ys hys
  have HRBys : Hid (∀ (W : World) (g : Nat), Blk W g 22 (u8s ys) → (convert 39 9 (.slice (some ⟨g, 0, none⟩) 32 32)).run Tryd.prog W = .ok (.string ⟨ys.toArray⟩) W) := Lib.hid (fun W g h => run_str_rb W (some ⟨g, 0, none⟩) 32 32 ys (UBlk.rb h) (Lib.hid hys.symm))
  have HGQys := Lib.hid (fun op x y W => guard_bytes op ys ys x y W)
  have HQQys := Lib.hid (fun W => eqin_bytes ys ys hys hys W)
  rw [beq_self_eq_true] at HQQys
  unfold A32 at HGQys HQQys
  have HENys : Hid (∀ (c : List Value) (W : World), dOk ys = true → PL c (decP ys) → Calls Tryd.prog 11 #[.agg c.toArray] W fun e w' => e = .returned (.agg (u8s ys).toArray) ∧ Below W.heap.size W w') := Lib.hid (fun c W hk h => by
    have := bytesP h W
    unfold BPost at this
    rwa [enc_dec hys hk] at this)
  obtain ⟨uys, huys⟩ : ∃ q, u8s ys = q := ⟨_, rfl⟩
  rw [show (ys.map fun c => Value.int .u8 (c.toNat : Int)) = uys from huys]
  rw [huys] at hszys HRBys HGQys HQQys HENys
  simp only [huys] at hdcys
  have HDCys := Lib.hid hdcys
  have HRDys := Lib.hid hrdys
  clear huys hdcys hrdys
  have hszzs := size32' zs hzs
  have hdczs : ∀ W, TabD W → Calls Tryd.prog 12 #[.agg (u8s zs).toArray] W (DPost zs W) := fun W h => decode_calls zs hzs W h
  have hrdzs := refDecode_calls zs hzs
  have HRBzs : Hid (∀ (W : World) (g : Nat), Blk W g 22 (u8s zs) → (convert 39 9 (.slice (some ⟨g, 0, none⟩) 32 32)).run Tryd.prog W = .ok (.string ⟨zs.toArray⟩) W) := Lib.hid (fun W g h => run_str_rb W (some ⟨g, 0, none⟩) 32 32 zs (UBlk.rb h) (Lib.hid hzs.symm))
  have HGQzs := Lib.hid (fun op x y W => guard_bytes op zs zs x y W)
  have HQQzs := Lib.hid (fun W => eqin_bytes zs zs hzs hzs W)
  rw [beq_self_eq_true] at HQQzs
  unfold A32 at HGQzs HQQzs
  have HENzs : Hid (∀ (c : List Value) (W : World), dOk zs = true → PL c (decP zs) → Calls Tryd.prog 11 #[.agg c.toArray] W fun e w' => e = .returned (.agg (u8s zs).toArray) ∧ Below W.heap.size W w') := Lib.hid (fun c W hk h => by
    have := bytesP h W
    unfold BPost at this
    rwa [enc_dec hzs hk] at this)
  obtain ⟨uzs, huzs⟩ : ∃ q, u8s zs = q := ⟨_, rfl⟩
  rw [show (zs.map fun c => Value.int .u8 (c.toNat : Int)) = uzs from huzs]
  rw [huzs] at hszzs HRBzs HGQzs HQQzs HENzs
  simp only [huzs] at hdczs
  have HDCzs := Lib.hid hdczs
  have HRDzs := Lib.hid hrdzs
  clear huzs hdczs hrdzs
  go_enter Tryd.func6, Tryd.ntmps6
  go_upto_region 1 with fail
  refine wp_gen (fun W => Blk W w.heap.size 22 uxs ∧ Blk W (w.heap.size + 1) 22 uys ∧ Blk W (w.heap.size + 1 + 1) 22 uzs ∧ Below w.heap.size w W ∧ Tab3 W) ?_ ?_
  · obtain ⟨a0, a1, a2, hb⟩ := alloc3 w uxs uys uzs 22 22 22
    exact ⟨a0, a1, a2, hb, hT.later hb⟩
  rintro W0 ⟨Bp3, Bp4, Bp5, HB, HT⟩
  have Lp3 := Bp3.lt
  have Lp4 := Bp4.lt
  have Lp5 := Bp5.lt
  go_wp2_with fail
  refine (alive6_calls _ HT.2).mono ?_
  rintro e wz ⟨rfl, bz⟩
  replace Bp3 := Bp3.later bz
  replace Lp3 := Bp3.lt
  replace Bp4 := Bp4.later bz
  replace Lp4 := Bp4.lt
  replace Bp5 := Bp5.later bz
  replace Lp5 := Bp5.lt
  replace HB := HB.then_ bz
  replace HT := HT.later bz
  clear bz
  go_upto_region 3 with fail
  go_wp2_with (refine wpList_load_mid rfl 22 _ rfl w.heap.size 0 rfl uxs _ Bp3.rng Tryd.underlying22 rfl hszxs ?_)
  refine (HDCxs.out _ HT.1).mono ?_
  rintro e WD3 ⟨c7, rfl, hlc7, hoc7, hpc7, bD⟩
  replace Bp3 := Bp3.later bD
  replace Lp3 := Bp3.lt
  replace Bp4 := Bp4.later bD
  replace Lp4 := Bp4.lt
  replace Bp5 := Bp5.later bD
  replace Lp5 := Bp5.lt
  replace HB := HB.then_ bD
  replace HT := HT.later bD
  clear bD
  obtain ⟨T0, HL, N0⟩ := letS (W := WD3) (T := 28) (z := C20) (cs := c7) (by rw [hlc7]; rfl)
  have hS : (Tryd.prog.info? 28).map (·.size) = some c7.toArray.size := by rw [List.size_toArray, hlc7]; exact size20
  go_upto_region 4 with (refine wpList_store_mid rfl 28 _ _ rfl WD3.heap.size 0 c7.toArray rfl rfl T0 hS hoc7 ?_)
  obtain ⟨g7, eg⟩ : ∃ g, WD3.heap.size = g := ⟨_, rfl⟩
  rw [eg] at N0 ⊢
  have hE : Hid (WD3.heap.size = g7) := Lib.hid eg
  refine wp_gen (fun W => Blk W w.heap.size 22 uxs ∧ Blk W (w.heap.size + 1) 22 uys ∧ Blk W (w.heap.size + 1 + 1) 22 uzs ∧ Blk W g7 28 c7 ∧ Below w.heap.size w W ∧ Tab3 W) ⟨Bp3.later (hE.out ▸ HL), Bp4.later (hE.out ▸ HL), Bp5.later (hE.out ▸ HL), N0, HB.then_ (hE.out ▸ HL), HT.later (hE.out ▸ HL)⟩ ?_
  clear T0 HL N0 eg hE hS
  clear Bp3 Bp4 Bp5 Lp3 Lp4 Lp5 HB HT
  rintro W1 ⟨Bp3, Bp4, Bp5, Bn7, HB, HT⟩
  have Lp3 := Bp3.lt
  have Lp4 := Bp4.lt
  have Lp5 := Bp5.lt
  have Ln7 := Bn7.lt
  go_wp2_with (refine wpList_load_mid rfl 22 _ rfl (w.heap.size + 1) 0 rfl uys _ Bp4.rng Tryd.underlying22 rfl hszys ?_)
  refine (HDCys.out _ HT.1).mono ?_
  rintro e WD4 ⟨c9, rfl, hlc9, hoc9, hpc9, bD⟩
  replace Bp3 := Bp3.later bD
  replace Lp3 := Bp3.lt
  replace Bp4 := Bp4.later bD
  replace Lp4 := Bp4.lt
  replace Bp5 := Bp5.later bD
  replace Lp5 := Bp5.lt
  replace Bn7 := Bn7.later bD
  replace Ln7 := Bn7.lt
  replace HB := HB.then_ bD
  replace HT := HT.later bD
  clear bD
  obtain ⟨T0, HL, N0⟩ := letS (W := WD4) (T := 28) (z := C20) (cs := c9) (by rw [hlc9]; rfl)
  have hS : (Tryd.prog.info? 28).map (·.size) = some c9.toArray.size := by rw [List.size_toArray, hlc9]; exact size20
  go_upto_region 5 with (refine wpList_store_mid rfl 28 _ _ rfl WD4.heap.size 0 c9.toArray rfl rfl T0 hS hoc9 ?_)
  obtain ⟨g9, eg⟩ : ∃ g, WD4.heap.size = g := ⟨_, rfl⟩
  rw [eg] at N0 ⊢
  have hE : Hid (WD4.heap.size = g9) := Lib.hid eg
  refine wp_gen (fun W => Blk W w.heap.size 22 uxs ∧ Blk W (w.heap.size + 1) 22 uys ∧ Blk W (w.heap.size + 1 + 1) 22 uzs ∧ Blk W g7 28 c7 ∧ Blk W g9 28 c9 ∧ Below w.heap.size w W ∧ Tab3 W) ⟨Bp3.later (hE.out ▸ HL), Bp4.later (hE.out ▸ HL), Bp5.later (hE.out ▸ HL), Bn7.later (hE.out ▸ HL), N0, HB.then_ (hE.out ▸ HL), HT.later (hE.out ▸ HL)⟩ ?_
  clear T0 HL N0 eg hE hS
  clear Bp3 Bp4 Bp5 Bn7 Lp3 Lp4 Lp5 Ln7 HB HT
  rintro W2 ⟨Bp3, Bp4, Bp5, Bn7, Bn9, HB, HT⟩
  have Lp3 := Bp3.lt
  have Lp4 := Bp4.lt
  have Lp5 := Bp5.lt
  have Ln7 := Bn7.lt
  have Ln9 := Bn9.lt
  go_wp2_with (refine wpList_load_mid rfl 22 _ rfl (w.heap.size + 1 + 1) 0 rfl uzs _ Bp5.rng Tryd.underlying22 rfl hszzs ?_)
  refine (HDCzs.out _ HT.1).mono ?_
  rintro e WD5 ⟨c11, rfl, hlc11, hoc11, hpc11, bD⟩
  replace Bp3 := Bp3.later bD
  replace Lp3 := Bp3.lt
  replace Bp4 := Bp4.later bD
  replace Lp4 := Bp4.lt
  replace Bp5 := Bp5.later bD
  replace Lp5 := Bp5.lt
  replace Bn7 := Bn7.later bD
  replace Ln7 := Bn7.lt
  replace Bn9 := Bn9.later bD
  replace Ln9 := Bn9.lt
  replace HB := HB.then_ bD
  replace HT := HT.later bD
  clear bD
  obtain ⟨T0, HL, N0⟩ := letS (W := WD5) (T := 28) (z := C20) (cs := c11) (by rw [hlc11]; rfl)
  have hS : (Tryd.prog.info? 28).map (·.size) = some c11.toArray.size := by rw [List.size_toArray, hlc11]; exact size20
  go_upto_region 6 with (refine wpList_store_mid rfl 28 _ _ rfl WD5.heap.size 0 c11.toArray rfl rfl T0 hS hoc11 ?_)
  obtain ⟨g11, eg⟩ : ∃ g, WD5.heap.size = g := ⟨_, rfl⟩
  rw [eg] at N0 ⊢
  have hE : Hid (WD5.heap.size = g11) := Lib.hid eg
  refine wp_gen (fun W => Blk W w.heap.size 22 uxs ∧ Blk W (w.heap.size + 1) 22 uys ∧ Blk W (w.heap.size + 1 + 1) 22 uzs ∧ Blk W g7 28 c7 ∧ Blk W g9 28 c9 ∧ Blk W g11 28 c11 ∧ Below w.heap.size w W ∧ Tab3 W) ⟨Bp3.later (hE.out ▸ HL), Bp4.later (hE.out ▸ HL), Bp5.later (hE.out ▸ HL), Bn7.later (hE.out ▸ HL), Bn9.later (hE.out ▸ HL), N0, HB.then_ (hE.out ▸ HL), HT.later (hE.out ▸ HL)⟩ ?_
  clear T0 HL N0 eg hE hS
  clear Bp3 Bp4 Bp5 Bn7 Bn9 Lp3 Lp4 Lp5 Ln7 Ln9 HB HT
  rintro W3 ⟨Bp3, Bp4, Bp5, Bn7, Bn9, Bn11, HB, HT⟩
  have Lp3 := Bp3.lt
  have Lp4 := Bp4.lt
  have Lp5 := Bp5.lt
  have Ln7 := Bn7.lt
  have Ln9 := Bn9.lt
  have Ln11 := Bn11.lt
  cases hkxs : dOk xs with
  | false =>
    have HF := Lib.hid HB
    clear Bp3 Bp4 Bp5 Bn7 Bn9 Bn11 Lp3 Lp4 Lp5 Ln7 Ln9 Ln11 HB HT
    go_wp2_with fail
    all_goals (go_ret; exact ⟨rfl, HF.out⟩)
  | true =>
    cases hkys : dOk ys with
    | false =>
      have HF := Lib.hid HB
      clear Bp3 Bp4 Bp5 Bn7 Bn9 Bn11 Lp3 Lp4 Lp5 Ln7 Ln9 Ln11 HB HT
      go_wp2_with fail
      all_goals (go_ret; exact ⟨rfl, HF.out⟩)
    | true =>
      cases hkzs : dOk zs with
      | false =>
        have HF := Lib.hid HB
        clear Bp3 Bp4 Bp5 Bn7 Bn9 Bn11 Lp3 Lp4 Lp5 Ln7 Ln9 Ln11 HB HT
        go_wp2_with fail
        all_goals (go_ret; exact ⟨rfl, HF.out⟩)
      | true =>
        replace hpc7 := hpc7 hkxs
        replace hpc9 := hpc9 hkys
        replace hpc11 := hpc11 hkzs
        go_upto_region 8 with fail
        go_wp2_with fail
        apply wp_region_g 42 (by kernel_rfl) (by kernel_rfl)
        simp only [List.take_succ_cons, List.take_zero, List.drop_succ_cons, List.drop_zero]
        apply lg_load 28 (.tmp 7) rfl g7 0 c7 _ Bn7.rng Ln7 Tryd.underlying28 rfl hpc7.size rfl rfl
        simp only [Act.put, List.setIfInBounds_toArray, List.set_cons_succ, List.set_cons_zero]
        apply lg_load 28 (.tmp 9) rfl g9 0 c9 _ Bn9.rng Ln9 Tryd.underlying28 rfl hpc9.size rfl rfl
        simp only [Act.put, List.setIfInBounds_toArray, List.set_cons_succ, List.set_cons_zero]
        apply lg_call_in (fun v => ∃ c, v = .agg c.toArray ∧ PL c ((decP xs).add (decP ys))) 18 #[.agg (c7).toArray, .agg (c9).toArray] rfl (by intro W; go_simp) (fun W hW => addP hpc7 hpc9 W (HT.1.later hW))
        rintro _ ⟨v42, rfl, h42⟩
        simp only [Act.put, List.setIfInBounds_toArray, List.set_cons_succ, List.set_cons_zero]
        apply lg_load 28 (.tmp 9) rfl g9 0 c9 _ Bn9.rng Ln9 Tryd.underlying28 rfl hpc9.size rfl rfl
        simp only [Act.put, List.setIfInBounds_toArray, List.set_cons_succ, List.set_cons_zero]
        apply lg_load 28 (.tmp 7) rfl g7 0 c7 _ Bn7.rng Ln7 Tryd.underlying28 rfl hpc7.size rfl rfl
        simp only [Act.put, List.setIfInBounds_toArray, List.set_cons_succ, List.set_cons_zero]
        apply lg_call_in (fun v => ∃ c, v = .agg c.toArray ∧ PL c ((decP ys).add (decP xs))) 18 #[.agg (c9).toArray, .agg (c7).toArray] rfl (by intro W; go_simp) (fun W hW => addP hpc9 hpc7 W (HT.1.later hW))
        rintro _ ⟨v45, rfl, h45⟩
        simp only [Act.put, List.setIfInBounds_toArray, List.set_cons_succ, List.set_cons_zero]
        apply lg_callx (.bool true) 16 #[.agg (v42).toArray, .agg (v45).toArray] rfl (by intro W; go_simp) (fun W => (isP h42 h45 W).mono fun e W' ⟨b, h1, h2, h3⟩ => ⟨by rw [h1, h2.2 (Pt.add_comm _ _)], h3⟩)
        simp only [Act.put, List.setIfInBounds_toArray, List.set_cons_succ, List.set_cons_zero]
        apply lg_pure (.bool true) rfl (by intro W; go_simp)
        simp only [Act.put, List.setIfInBounds_toArray, List.set_cons_succ, List.set_cons_zero]
        apply lg_load 28 (.tmp 7) rfl g7 0 c7 _ Bn7.rng Ln7 Tryd.underlying28 rfl hpc7.size rfl rfl
        simp only [Act.put, List.setIfInBounds_toArray, List.set_cons_succ, List.set_cons_zero]
        apply lg_load 28 (.tmp 9) rfl g9 0 c9 _ Bn9.rng Ln9 Tryd.underlying28 rfl hpc9.size rfl rfl
        simp only [Act.put, List.setIfInBounds_toArray, List.set_cons_succ, List.set_cons_zero]
        apply lg_call_in (fun v => ∃ c, v = .agg c.toArray ∧ PL c ((decP xs).add (decP ys))) 18 #[.agg (c7).toArray, .agg (c9).toArray] rfl (by intro W; go_simp) (fun W hW => addP hpc7 hpc9 W (HT.1.later hW))
        rintro _ ⟨v50, rfl, h50⟩
        simp only [Act.put, List.setIfInBounds_toArray, List.set_cons_succ, List.set_cons_zero]
        apply lg_load 28 (.tmp 11) rfl g11 0 c11 _ Bn11.rng Ln11 Tryd.underlying28 rfl hpc11.size rfl rfl
        simp only [Act.put, List.setIfInBounds_toArray, List.set_cons_succ, List.set_cons_zero]
        apply lg_call_in (fun v => ∃ c, v = .agg c.toArray ∧ PL c (((decP xs).add (decP ys)).add (decP zs))) 18 #[.agg (v50).toArray, .agg (c11).toArray] rfl (by intro W; go_simp) (fun W hW => addP h50 hpc11 W (HT.1.later hW))
        rintro _ ⟨v52, rfl, h52⟩
        simp only [Act.put, List.setIfInBounds_toArray, List.set_cons_succ, List.set_cons_zero]
        apply lg_load 28 (.tmp 7) rfl g7 0 c7 _ Bn7.rng Ln7 Tryd.underlying28 rfl hpc7.size rfl rfl
        simp only [Act.put, List.setIfInBounds_toArray, List.set_cons_succ, List.set_cons_zero]
        apply lg_load 28 (.tmp 9) rfl g9 0 c9 _ Bn9.rng Ln9 Tryd.underlying28 rfl hpc9.size rfl rfl
        simp only [Act.put, List.setIfInBounds_toArray, List.set_cons_succ, List.set_cons_zero]
        apply lg_load 28 (.tmp 11) rfl g11 0 c11 _ Bn11.rng Ln11 Tryd.underlying28 rfl hpc11.size rfl rfl
        simp only [Act.put, List.setIfInBounds_toArray, List.set_cons_succ, List.set_cons_zero]
        apply lg_call_in (fun v => ∃ c, v = .agg c.toArray ∧ PL c ((decP ys).add (decP zs))) 18 #[.agg (c9).toArray, .agg (c11).toArray] rfl (by intro W; go_simp) (fun W hW => addP hpc9 hpc11 W (HT.1.later hW))
        rintro _ ⟨v56, rfl, h56⟩
        simp only [Act.put, List.setIfInBounds_toArray, List.set_cons_succ, List.set_cons_zero]
        apply lg_call_in (fun v => ∃ c, v = .agg c.toArray ∧ PL c ((decP xs).add ((decP ys).add (decP zs)))) 18 #[.agg (c7).toArray, .agg (v56).toArray] rfl (by intro W; go_simp) (fun W hW => addP hpc7 h56 W (HT.1.later hW))
        rintro _ ⟨v57, rfl, h57⟩
        simp only [Act.put, List.setIfInBounds_toArray, List.set_cons_succ, List.set_cons_zero]
        apply lg_callx (.bool true) 16 #[.agg (v52).toArray, .agg (v57).toArray] rfl (by intro W; go_simp) (fun W => (isP h52 h57 W).mono fun e W' ⟨b, h1, h2, h3⟩ => ⟨by rw [h1, h2.2 (Pt.add_assoc _ _ _)], h3⟩)
        simp only [Act.put, List.setIfInBounds_toArray, List.set_cons_succ, List.set_cons_zero]
        apply lg_pure (.bool true) rfl (by intro W; go_simp)
        simp only [Act.put, List.setIfInBounds_toArray, List.set_cons_succ, List.set_cons_zero]
        apply lg_pure (.bool true) rfl (by intro W; go_simp)
        simp only [Act.put, List.setIfInBounds_toArray, List.set_cons_succ, List.set_cons_zero]
        apply lg_load 28 (.tmp 7) rfl g7 0 c7 _ Bn7.rng Ln7 Tryd.underlying28 rfl hpc7.size rfl rfl
        simp only [Act.put, List.setIfInBounds_toArray, List.set_cons_succ, List.set_cons_zero]
        apply lg_call_in (fun v => ∃ c, v = .agg c.toArray ∧ PL c Pt.zero) 10 #[] rfl (by intro W; go_simp) (fun W hW => zero_calls W)
        rintro _ ⟨v62, rfl, h62⟩
        simp only [Act.put, List.setIfInBounds_toArray, List.set_cons_succ, List.set_cons_zero]
        apply lg_call_in (fun v => ∃ c, v = .agg c.toArray ∧ PL c ((decP xs).add Pt.zero)) 18 #[.agg (c7).toArray, .agg (v62).toArray] rfl (by intro W; go_simp) (fun W hW => addP hpc7 h62 W (HT.1.later hW))
        rintro _ ⟨v63, rfl, h63⟩
        simp only [Act.put, List.setIfInBounds_toArray, List.set_cons_succ, List.set_cons_zero]
        apply lg_load 28 (.tmp 7) rfl g7 0 c7 _ Bn7.rng Ln7 Tryd.underlying28 rfl hpc7.size rfl rfl
        simp only [Act.put, List.setIfInBounds_toArray, List.set_cons_succ, List.set_cons_zero]
        apply lg_callx (.bool true) 16 #[.agg (v63).toArray, .agg (c7).toArray] rfl (by intro W; go_simp) (fun W => (isP h63 hpc7 W).mono fun e W' ⟨b, h1, h2, h3⟩ => ⟨by rw [h1, h2.2 (Pt.add_zero _)], h3⟩)
        simp only [Act.put, List.setIfInBounds_toArray, List.set_cons_succ, List.set_cons_zero]
        apply lg_pure (.bool true) rfl (by intro W; go_simp)
        simp only [Act.put, List.setIfInBounds_toArray, List.set_cons_succ, List.set_cons_zero]
        apply lg_pure (.bool true) rfl (by intro W; go_simp)
        simp only [Act.put, List.setIfInBounds_toArray, List.set_cons_succ, List.set_cons_zero]
        apply lg_load 28 (.tmp 7) rfl g7 0 c7 _ Bn7.rng Ln7 Tryd.underlying28 rfl hpc7.size rfl rfl
        simp only [Act.put, List.setIfInBounds_toArray, List.set_cons_succ, List.set_cons_zero]
        apply lg_load 28 (.tmp 7) rfl g7 0 c7 _ Bn7.rng Ln7 Tryd.underlying28 rfl hpc7.size rfl rfl
        simp only [Act.put, List.setIfInBounds_toArray, List.set_cons_succ, List.set_cons_zero]
        apply lg_call_in (fun v => ∃ c, v = .agg c.toArray ∧ PL c ((decP xs).neg)) 20 #[.agg (c7).toArray] rfl (by intro W; go_simp) (fun W hW => negP hpc7 W)
        rintro _ ⟨v70, rfl, h70⟩
        simp only [Act.put, List.setIfInBounds_toArray, List.set_cons_succ, List.set_cons_zero]
        apply lg_call_in (fun v => ∃ c, v = .agg c.toArray ∧ PL c ((decP xs).add ((decP xs).neg))) 18 #[.agg (c7).toArray, .agg (v70).toArray] rfl (by intro W; go_simp) (fun W hW => addP hpc7 h70 W (HT.1.later hW))
        rintro _ ⟨v71, rfl, h71⟩
        simp only [Act.put, List.setIfInBounds_toArray, List.set_cons_succ, List.set_cons_zero]
        apply lg_call_in (fun v => ∃ c, v = .agg c.toArray ∧ PL c Pt.zero) 10 #[] rfl (by intro W; go_simp) (fun W hW => zero_calls W)
        rintro _ ⟨v72, rfl, h72⟩
        simp only [Act.put, List.setIfInBounds_toArray, List.set_cons_succ, List.set_cons_zero]
        apply lg_callx (.bool true) 16 #[.agg (v71).toArray, .agg (v72).toArray] rfl (by intro W; go_simp) (fun W => (isP h71 h72 W).mono fun e W' ⟨b, h1, h2, h3⟩ => ⟨by rw [h1, h2.2 (Pt.add_neg _)], h3⟩)
        simp only [Act.put, List.setIfInBounds_toArray, List.set_cons_succ, List.set_cons_zero]
        apply lg_pure (.bool true) rfl (by intro W; go_simp)
        simp only [Act.put, List.setIfInBounds_toArray, List.set_cons_succ, List.set_cons_zero]
        apply lg_pure (.bool true) rfl (by intro W; go_simp)
        simp only [Act.put, List.setIfInBounds_toArray, List.set_cons_succ, List.set_cons_zero]
        apply lg_load 28 (.tmp 7) rfl g7 0 c7 _ Bn7.rng Ln7 Tryd.underlying28 rfl hpc7.size rfl rfl
        simp only [Act.put, List.setIfInBounds_toArray, List.set_cons_succ, List.set_cons_zero]
        apply lg_call_in (fun v => ∃ c, v = .agg c.toArray ∧ PL c ((decP xs).neg)) 20 #[.agg (c7).toArray] rfl (by intro W; go_simp) (fun W hW => negP hpc7 W)
        rintro _ ⟨v77, rfl, h77⟩
        simp only [Act.put, List.setIfInBounds_toArray, List.set_cons_succ, List.set_cons_zero]
        apply lg_call_in (fun v => ∃ c, v = .agg c.toArray ∧ PL c (((decP xs).neg).neg)) 20 #[.agg (v77).toArray] rfl (by intro W; go_simp) (fun W hW => negP h77 W)
        rintro _ ⟨v78, rfl, h78⟩
        simp only [Act.put, List.setIfInBounds_toArray, List.set_cons_succ, List.set_cons_zero]
        apply lg_load 28 (.tmp 7) rfl g7 0 c7 _ Bn7.rng Ln7 Tryd.underlying28 rfl hpc7.size rfl rfl
        simp only [Act.put, List.setIfInBounds_toArray, List.set_cons_succ, List.set_cons_zero]
        apply lg_callx (.bool true) 16 #[.agg (v78).toArray, .agg (c7).toArray] rfl (by intro W; go_simp) (fun W => (isP h78 hpc7 W).mono fun e W' ⟨b, h1, h2, h3⟩ => ⟨by rw [h1, h2.2 (Pt.neg_neg _)], h3⟩)
        simp only [Act.put, List.setIfInBounds_toArray, List.set_cons_succ, List.set_cons_zero]
        apply lg_pure (.bool true) rfl (by intro W; go_simp)
        simp only [Act.put, List.setIfInBounds_toArray, List.set_cons_succ, List.set_cons_zero]
        refine lg_nil ?_
        intro WY hC
        have HL := Lib.hid (HB.then_ hC.1)
        clear hC
        go_wp2_with fail
        go_ret
        exact ⟨rfl, HL.out⟩
end Go.Proofs.YtoligamlafgaoaaDoor
