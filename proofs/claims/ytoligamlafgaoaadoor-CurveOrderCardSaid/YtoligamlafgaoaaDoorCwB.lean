/- Layer 6: CurveAdds, walked. -/
import Derived.Test.YtoligamlafgaoaaDoorCvL
namespace Go.Proofs.YtoligamlafgaoaaDoor
open Go.ChangeShapes Go.WideShapes Go.ChangeAt Go.RowKit Go.IntWalk
set_option linter.unusedVariables false

/-- All three tables of the curve. -/
def Tab3 (w : World) : Prop := TabD w ∧ TabB w
theorem Tab3.later {w w1 : World} (h : Tab3 w) (b : Below w.heap.size w w1) : Tab3 w1 := ⟨h.1.later b, h.2.later b⟩
theorem enc_inj {xs ys : List UInt8} (hx : xs.length = 32) (hy : ys.length = 32) (kx : dOk xs = true) (ky : dOk ys = true) : decP xs = decP ys ↔ xs = ys :=
  ⟨fun h => by rw [← enc_dec hx kx, ← enc_dec hy ky, h], fun h => by rw [h]⟩
set_option maxRecDepth 100000 in
set_option maxHeartbeats 8000000 in
theorem curveAdds_walk (xs : List UInt8) (hxs : xs.length = 32) (ys : List UInt8) (hys : ys.length = 32) (w : World) (hT : Tab3 w) :
    Calls Tryd.prog 4 #[.agg (xs.map fun c => Value.int .u8 (c.toNat : Int)).toArray, .agg (ys.map fun c => Value.int .u8 (c.toNat : Int)).toArray] w fun e w' => e = .returned (.bool true) ∧ Below w.heap.size w w' := by
  have hszxs := size32' xs hxs
  have hdcxs : ∀ W, TabD W → Calls Tryd.prog 12 #[.agg (u8s xs).toArray] W (DPost xs W) := fun W h => decode_calls xs hxs W h
  have hrdxs := refDecode_calls xs hxs
  have HRBxs : Hid (∀ (W : World) (g : Nat), Blk W g 22 (u8s xs) → (convert 39 9 (.slice (some ⟨g, 0, none⟩) 32 32)).run Tryd.prog W = .ok (.string ⟨xs.toArray⟩) W) := Lib.hid (fun W g h => run_str_rb W (some ⟨g, 0, none⟩) 32 32 xs (UBlk.rb h) (Lib.hid hxs.symm))
  have HGQxs := Lib.hid (fun op x y W => guard_bytes op xs xs x y W)
  have HQQxs := Lib.hid (fun W => eqin_bytes xs xs hxs hxs W)
  rw [beq_self_eq_true] at HQQxs
  unfold A32 at HGQxs HQQxs
  have HENxs : Hid (∀ (c : List Value) (W : World), dOk xs = true → PL c (decP xs) → Calls Tryd.prog 11 #[.agg c.toArray] W fun e w' => e = .returned (.agg (u8s xs).toArray) ∧ Below W.heap.size W w') := Lib.hid (fun c W hk h => by
    have := bytesP h W
    unfold BPost at this
    rwa [enc_dec hxs hk] at this)
  obtain ⟨uxs, huxs⟩ : ∃ q, u8s xs = q := ⟨_, rfl⟩
  rw [show (xs.map fun c => Value.int .u8 (c.toNat : Int)) = uxs from huxs]
  rw [huxs] at hszxs HRBxs HGQxs HQQxs HENxs
  simp only [huxs] at hdcxs
  have HUx := Lib.hid huxs
  have HDCxs := Lib.hid hdcxs
  have HRDxs := Lib.hid hrdxs
  clear huxs hdcxs hrdxs
  have hszys := size32' ys hys
  have hdcys : ∀ W, TabD W → Calls Tryd.prog 12 #[.agg (u8s ys).toArray] W (DPost ys W) := fun W h => decode_calls ys hys W h
  have hrdys := refDecode_calls ys hys
  have HRBys : Hid (∀ (W : World) (g : Nat), Blk W g 22 (u8s ys) → (convert 39 9 (.slice (some ⟨g, 0, none⟩) 32 32)).run Tryd.prog W = .ok (.string ⟨ys.toArray⟩) W) := Lib.hid (fun W g h => run_str_rb W (some ⟨g, 0, none⟩) 32 32 ys (UBlk.rb h) (Lib.hid hys.symm))
  have HGQys := Lib.hid (fun op x y W => guard_bytes op ys ys x y W)
  have HQQys := Lib.hid (fun W => eqin_bytes ys ys hys hys W)
  rw [beq_self_eq_true] at HQQys
  unfold A32 at HGQys HQQys
  have HENys : Hid (∀ (c : List Value) (W : World), dOk ys = true → PL c (decP ys) → Calls Tryd.prog 11 #[.agg c.toArray] W fun e w' => e = .returned (.agg (u8s ys).toArray) ∧ Below W.heap.size W w') := Lib.hid (fun c W hk h => by
    have := bytesP h W
    unfold BPost at this
    rwa [enc_dec hys hk] at this)
  obtain ⟨uys, huys⟩ : ∃ q, u8s ys = q := ⟨_, rfl⟩
  rw [show (ys.map fun c => Value.int .u8 (c.toNat : Int)) = uys from huys]
  rw [huys] at hszys HRBys HGQys HQQys HENys
  simp only [huys] at hdcys
  have HUy := Lib.hid huys
  have HDCys := Lib.hid hdcys
  have HRDys := Lib.hid hrdys
  clear huys hdcys hrdys
  go_enter Tryd.func4, Tryd.ntmps4
  go_upto_region 1 with fail
  refine wp_gen (fun W => Blk W w.heap.size 22 uxs ∧ Blk W (w.heap.size + 1) 22 uys ∧ Below w.heap.size w W ∧ Tab3 W) ?_ ?_
  · obtain ⟨a0, a1, hb⟩ := alloc2 w uxs uys 22 22
    exact ⟨a0, a1, hb, hT.later hb⟩
  rintro W0 ⟨Bp2, Bp3, HB, HT⟩
  have Lp2 := Bp2.lt
  have Lp3 := Bp3.lt
  go_wp2_with fail
  refine (alive6_calls _ HT.2).mono ?_
  rintro e wz ⟨rfl, bz⟩
  replace Bp2 := Bp2.later bz
  replace Lp2 := Bp2.lt
  replace Bp3 := Bp3.later bz
  replace Lp3 := Bp3.lt
  replace HB := HB.then_ bz
  replace HT := HT.later bz
  clear bz
  go_upto_region 3 with fail
  go_wp2_with (refine wpList_load_mid rfl 22 _ rfl w.heap.size 0 rfl uxs _ Bp2.rng Tryd.underlying22 rfl hszxs ?_)
  refine (HDCxs.out _ HT.1).mono ?_
  rintro e WD3 ⟨c5, rfl, hlc5, hoc5, hpc5, bD⟩
  replace Bp2 := Bp2.later bD
  replace Lp2 := Bp2.lt
  replace Bp3 := Bp3.later bD
  replace Lp3 := Bp3.lt
  replace HB := HB.then_ bD
  replace HT := HT.later bD
  clear bD
  obtain ⟨T0, HL, N0⟩ := letS (W := WD3) (T := 28) (z := C20) (cs := c5) (by rw [hlc5]; rfl)
  have hS : (Tryd.prog.info? 28).map (·.size) = some c5.toArray.size := by rw [List.size_toArray, hlc5]; exact size20
  go_upto_region 4 with (refine wpList_store_mid rfl 28 _ _ rfl WD3.heap.size 0 c5.toArray rfl rfl T0 hS hoc5 ?_)
  obtain ⟨g5, eg⟩ : ∃ g, WD3.heap.size = g := ⟨_, rfl⟩
  rw [eg] at N0 ⊢
  have hE : Hid (WD3.heap.size = g5) := Lib.hid eg
  refine wp_gen (fun W => Blk W w.heap.size 22 uxs ∧ Blk W (w.heap.size + 1) 22 uys ∧ Blk W g5 28 c5 ∧ Below w.heap.size w W ∧ Tab3 W) ⟨Bp2.later (hE.out ▸ HL), Bp3.later (hE.out ▸ HL), N0, HB.then_ (hE.out ▸ HL), HT.later (hE.out ▸ HL)⟩ ?_
  clear T0 HL N0 eg hE hS
  clear Bp2 Bp3 Lp2 Lp3 HB HT
  rintro W1 ⟨Bp2, Bp3, Bn5, HB, HT⟩
  have Lp2 := Bp2.lt
  have Lp3 := Bp3.lt
  have Ln5 := Bn5.lt
  go_wp2_with (refine wpList_load_mid rfl 22 _ rfl (w.heap.size + 1) 0 rfl uys _ Bp3.rng Tryd.underlying22 rfl hszys ?_)
  refine (HDCys.out _ HT.1).mono ?_
  rintro e WD4 ⟨c7, rfl, hlc7, hoc7, hpc7, bD⟩
  replace Bp2 := Bp2.later bD
  replace Lp2 := Bp2.lt
  replace Bp3 := Bp3.later bD
  replace Lp3 := Bp3.lt
  replace Bn5 := Bn5.later bD
  replace Ln5 := Bn5.lt
  replace HB := HB.then_ bD
  replace HT := HT.later bD
  clear bD
  obtain ⟨T0, HL, N0⟩ := letS (W := WD4) (T := 28) (z := C20) (cs := c7) (by rw [hlc7]; rfl)
  have hS : (Tryd.prog.info? 28).map (·.size) = some c7.toArray.size := by rw [List.size_toArray, hlc7]; exact size20
  go_upto_region 5 with (refine wpList_store_mid rfl 28 _ _ rfl WD4.heap.size 0 c7.toArray rfl rfl T0 hS hoc7 ?_)
  obtain ⟨g7, eg⟩ : ∃ g, WD4.heap.size = g := ⟨_, rfl⟩
  rw [eg] at N0 ⊢
  have hE : Hid (WD4.heap.size = g7) := Lib.hid eg
  refine wp_gen (fun W => Blk W w.heap.size 22 uxs ∧ Blk W (w.heap.size + 1) 22 uys ∧ Blk W g5 28 c5 ∧ Blk W g7 28 c7 ∧ Below w.heap.size w W ∧ Tab3 W) ⟨Bp2.later (hE.out ▸ HL), Bp3.later (hE.out ▸ HL), Bn5.later (hE.out ▸ HL), N0, HB.then_ (hE.out ▸ HL), HT.later (hE.out ▸ HL)⟩ ?_
  clear T0 HL N0 eg hE hS
  clear Bp2 Bp3 Bn5 Lp2 Lp3 Ln5 HB HT
  rintro W2 ⟨Bp2, Bp3, Bn5, Bn7, HB, HT⟩
  have Lp2 := Bp2.lt
  have Lp3 := Bp3.lt
  have Ln5 := Bn5.lt
  have Ln7 := Bn7.lt
  cases hkxs : dOk xs with
  | false =>
    have HF := Lib.hid HB
    clear Bp2 Bp3 Bn5 Bn7 Lp2 Lp3 Ln5 Ln7 HB HT
    go_wp2_with fail
    all_goals (go_ret; exact ⟨rfl, HF.out⟩)
  | true =>
    cases hkys : dOk ys with
    | false =>
      have HF := Lib.hid HB
      clear Bp2 Bp3 Bn5 Bn7 Lp2 Lp3 Ln5 Ln7 HB HT
      go_wp2_with fail
      all_goals (go_ret; exact ⟨rfl, HF.out⟩)
    | true =>
      replace hpc5 := hpc5 hkxs
      replace hpc7 := hpc7 hkys
      go_upto_region 7 with fail
      have hcv := HRBxs.out _ _ Bp2
      go_wp2_with fail
      clear hcv
      refine (HRDxs.out _).mono ?_
      rintro e WD7 ⟨c9, rfl, hlc9, hoc9, hpc9, bD⟩
      replace Bp2 := Bp2.later bD
      replace Lp2 := Bp2.lt
      replace Bp3 := Bp3.later bD
      replace Lp3 := Bp3.lt
      replace Bn5 := Bn5.later bD
      replace Ln5 := Bn5.lt
      replace Bn7 := Bn7.later bD
      replace Ln7 := Bn7.lt
      replace HB := HB.then_ bD
      replace HT := HT.later bD
      clear bD
      obtain ⟨T0, HL, N0⟩ := letS (W := WD7) (T := 36) (z := C64) (cs := c9) (by rw [hlc9]; rfl)
      have hS : (Tryd.prog.info? 36).map (·.size) = some c9.toArray.size := by rw [List.size_toArray, hlc9]; exact size64n
      go_upto_region 8 with (refine wpList_store_mid rfl 36 _ _ rfl WD7.heap.size 0 c9.toArray rfl rfl T0 hS hoc9 ?_)
      obtain ⟨g9, eg⟩ : ∃ g, WD7.heap.size = g := ⟨_, rfl⟩
      rw [eg] at N0 ⊢
      have hE : Hid (WD7.heap.size = g9) := Lib.hid eg
      refine wp_gen (fun W => Blk W w.heap.size 22 uxs ∧ Blk W (w.heap.size + 1) 22 uys ∧ Blk W g5 28 c5 ∧ Blk W g7 28 c7 ∧ Blk W g9 36 c9 ∧ Below w.heap.size w W ∧ Tab3 W) ⟨Bp2.later (hE.out ▸ HL), Bp3.later (hE.out ▸ HL), Bn5.later (hE.out ▸ HL), Bn7.later (hE.out ▸ HL), N0, HB.then_ (hE.out ▸ HL), HT.later (hE.out ▸ HL)⟩ ?_
      clear T0 HL N0 eg hE hS
      clear Bp2 Bp3 Bn5 Bn7 Lp2 Lp3 Ln5 Ln7 HB HT
      rintro W3 ⟨Bp2, Bp3, Bn5, Bn7, Bn9, HB, HT⟩
      have Lp2 := Bp2.lt
      have Lp3 := Bp3.lt
      have Ln5 := Bn5.lt
      have Ln7 := Bn7.lt
      have Ln9 := Bn9.lt
      have hcv := HRBys.out _ _ Bp3
      go_wp2_with fail
      clear hcv
      refine (HRDys.out _).mono ?_
      rintro e WD8 ⟨c11, rfl, hlc11, hoc11, hpc11, bD⟩
      replace Bp2 := Bp2.later bD
      replace Lp2 := Bp2.lt
      replace Bp3 := Bp3.later bD
      replace Lp3 := Bp3.lt
      replace Bn5 := Bn5.later bD
      replace Ln5 := Bn5.lt
      replace Bn7 := Bn7.later bD
      replace Ln7 := Bn7.lt
      replace Bn9 := Bn9.later bD
      replace Ln9 := Bn9.lt
      replace HB := HB.then_ bD
      replace HT := HT.later bD
      clear bD
      obtain ⟨T0, HL, N0⟩ := letS (W := WD8) (T := 36) (z := C64) (cs := c11) (by rw [hlc11]; rfl)
      have hS : (Tryd.prog.info? 36).map (·.size) = some c11.toArray.size := by rw [List.size_toArray, hlc11]; exact size64n
      go_upto_region 9 with (refine wpList_store_mid rfl 36 _ _ rfl WD8.heap.size 0 c11.toArray rfl rfl T0 hS hoc11 ?_)
      obtain ⟨g11, eg⟩ : ∃ g, WD8.heap.size = g := ⟨_, rfl⟩
      rw [eg] at N0 ⊢
      have hE : Hid (WD8.heap.size = g11) := Lib.hid eg
      refine wp_gen (fun W => Blk W w.heap.size 22 uxs ∧ Blk W (w.heap.size + 1) 22 uys ∧ Blk W g5 28 c5 ∧ Blk W g7 28 c7 ∧ Blk W g9 36 c9 ∧ Blk W g11 36 c11 ∧ Below w.heap.size w W ∧ Tab3 W) ⟨Bp2.later (hE.out ▸ HL), Bp3.later (hE.out ▸ HL), Bn5.later (hE.out ▸ HL), Bn7.later (hE.out ▸ HL), Bn9.later (hE.out ▸ HL), N0, HB.then_ (hE.out ▸ HL), HT.later (hE.out ▸ HL)⟩ ?_
      clear T0 HL N0 eg hE hS
      clear Bp2 Bp3 Bn5 Bn7 Bn9 Lp2 Lp3 Ln5 Ln7 Ln9 HB HT
      rintro W4 ⟨Bp2, Bp3, Bn5, Bn7, Bn9, Bn11, HB, HT⟩
      have Lp2 := Bp2.lt
      have Lp3 := Bp3.lt
      have Ln5 := Bn5.lt
      have Ln7 := Bn7.lt
      have Ln9 := Bn9.lt
      have Ln11 := Bn11.lt
      replace hpc9 := hpc9 hkxs
      replace hpc11 := hpc11 hkys
      by_cases hxy : xs = ys
      · have hpq : decP xs = decP ys := by rw [hxy]
        have HGX := Lib.hid (fun op x y W => guard_bytes op xs ys x y W)
        have HQX := Lib.hid (fun W => eqin_bytes xs ys hxs hys W)
        rw [show (xs == ys) = true from by rw [hxy, beq_self_eq_true]] at HQX
        unfold A32 at HGX HQX
        rw [HUx.out, HUy.out] at HGX HQX
        go_wp2_with fail
        apply wp_region_g 25 (by kernel_rfl) (by kernel_rfl)
        simp only [List.take_succ_cons, List.take_zero, List.drop_succ_cons, List.drop_zero]
        apply lg_load 28 (.tmp 5) rfl g5 0 c5 _ Bn5.rng Ln5 Tryd.underlying28 rfl hpc5.size rfl rfl
        simp only [Act.put, List.setIfInBounds_toArray, List.set_cons_succ, List.set_cons_zero]
        apply lg_load 28 (.tmp 7) rfl g7 0 c7 _ Bn7.rng Ln7 Tryd.underlying28 rfl hpc7.size rfl rfl
        simp only [Act.put, List.setIfInBounds_toArray, List.set_cons_succ, List.set_cons_zero]
        apply lg_call_in (fun v => ∃ c, v = .agg c.toArray ∧ PL c ((decP xs).add (decP ys))) 18 #[.agg (c5).toArray, .agg (c7).toArray] rfl (by intro W; go_simp) (fun W hW => addP hpc5 hpc7 W (HT.1.later hW))
        rintro _ ⟨v45, rfl, h45⟩
        simp only [Act.put, List.setIfInBounds_toArray, List.set_cons_succ, List.set_cons_zero]
        apply lg_load 36 (.tmp 9) rfl g9 0 c9 _ Bn9.rng Ln9 Tryd.underlying36 rfl hpc9.size rfl rfl
        simp only [Act.put, List.setIfInBounds_toArray, List.set_cons_succ, List.set_cons_zero]
        apply lg_load 36 (.tmp 11) rfl g11 0 c11 _ Bn11.rng Ln11 Tryd.underlying36 rfl hpc11.size rfl rfl
        simp only [Act.put, List.setIfInBounds_toArray, List.set_cons_succ, List.set_cons_zero]
        apply lg_call_in (fun v => ∃ c, v = .agg c.toArray ∧ RL c ((decP xs).add (decP ys))) 19 #[.agg (c9).toArray, .agg (c11).toArray] rfl (by intro W; go_simp) (fun W hW => refSumP hpc9 hpc11 W)
        rintro _ ⟨v48, rfl, h48⟩
        simp only [Act.put, List.setIfInBounds_toArray, List.set_cons_succ, List.set_cons_zero]
        apply lg_callx_in (.string ⟨(encL ((decP xs).add (decP ys))).toArray⟩) 15 #[.agg (v48).toArray] rfl (by intro W; go_simp) (fun W hW => (refBytesP h48 W))
        simp only [Act.put, List.setIfInBounds_toArray, List.set_cons_succ, List.set_cons_zero]
        apply lg_callx (.bool true) 14 #[.agg (v45).toArray, .string ⟨(encL ((decP xs).add (decP ys))).toArray⟩] rfl (by intro W; go_simp) (fun W => same_calls h45 _ rfl W)
        simp only [Act.put, List.setIfInBounds_toArray, List.set_cons_succ, List.set_cons_zero]
        apply lg_pure (.bool true) rfl (by intro W; go_simp)
        simp only [Act.put, List.setIfInBounds_toArray, List.set_cons_succ, List.set_cons_zero]
        apply lg_load 28 (.tmp 5) rfl g5 0 c5 _ Bn5.rng Ln5 Tryd.underlying28 rfl hpc5.size rfl rfl
        simp only [Act.put, List.setIfInBounds_toArray, List.set_cons_succ, List.set_cons_zero]
        apply lg_call_in (fun v => ∃ c, v = .agg c.toArray ∧ PL c ((decP xs).neg)) 20 #[.agg (c5).toArray] rfl (by intro W; go_simp) (fun W hW => negP hpc5 W)
        rintro _ ⟨v53, rfl, h53⟩
        simp only [Act.put, List.setIfInBounds_toArray, List.set_cons_succ, List.set_cons_zero]
        apply lg_load 36 (.tmp 9) rfl g9 0 c9 _ Bn9.rng Ln9 Tryd.underlying36 rfl hpc9.size rfl rfl
        simp only [Act.put, List.setIfInBounds_toArray, List.set_cons_succ, List.set_cons_zero]
        apply lg_call_in (fun v => ∃ c, v = .agg c.toArray ∧ RL c ((decP xs).neg)) 21 #[.agg (c9).toArray] rfl (by intro W; go_simp) (fun W hW => refNegP hpc9 W)
        rintro _ ⟨v55, rfl, h55⟩
        simp only [Act.put, List.setIfInBounds_toArray, List.set_cons_succ, List.set_cons_zero]
        apply lg_callx_in (.string ⟨(encL ((decP xs).neg)).toArray⟩) 15 #[.agg (v55).toArray] rfl (by intro W; go_simp) (fun W hW => (refBytesP h55 W))
        simp only [Act.put, List.setIfInBounds_toArray, List.set_cons_succ, List.set_cons_zero]
        apply lg_callx (.bool true) 14 #[.agg (v53).toArray, .string ⟨(encL ((decP xs).neg)).toArray⟩] rfl (by intro W; go_simp) (fun W => same_calls h53 _ rfl W)
        simp only [Act.put, List.setIfInBounds_toArray, List.set_cons_succ, List.set_cons_zero]
        apply lg_pure (.bool true) rfl (by intro W; go_simp)
        simp only [Act.put, List.setIfInBounds_toArray, List.set_cons_succ, List.set_cons_zero]
        apply lg_pure (.bool true) rfl (by intro W; go_simp)
        simp only [Act.put, List.setIfInBounds_toArray, List.set_cons_succ, List.set_cons_zero]
        apply lg_load 28 (.tmp 5) rfl g5 0 c5 _ Bn5.rng Ln5 Tryd.underlying28 rfl hpc5.size rfl rfl
        simp only [Act.put, List.setIfInBounds_toArray, List.set_cons_succ, List.set_cons_zero]
        apply lg_load 28 (.tmp 7) rfl g7 0 c7 _ Bn7.rng Ln7 Tryd.underlying28 rfl hpc7.size rfl rfl
        simp only [Act.put, List.setIfInBounds_toArray, List.set_cons_succ, List.set_cons_zero]
        apply lg_callx (.bool true) 16 #[.agg (c5).toArray, .agg (c7).toArray] rfl (by intro W; go_simp) (fun W => (isP hpc5 hpc7 W).mono fun e W' ⟨b, h1, h2, h3⟩ => ⟨by rw [h1, h2.2 hpq], h3⟩)
        simp only [Act.put, List.setIfInBounds_toArray, List.set_cons_succ, List.set_cons_zero]
        apply lg_load 22 (.tmp 2) rfl w.heap.size 0 uxs _ Bp2.rng Lp2 Tryd.underlying22 rfl hszxs rfl rfl
        simp only [Act.put, List.setIfInBounds_toArray, List.set_cons_succ, List.set_cons_zero]
        apply lg_load 22 (.tmp 3) rfl (w.heap.size + 1) 0 uys _ Bp3.rng Lp3 Tryd.underlying22 rfl hszys rfl rfl
        simp only [Act.put, List.setIfInBounds_toArray, List.set_cons_succ, List.set_cons_zero]
        apply lg_pure (.bool true) rfl (by intro W; have h1 := HGX.out .eql (.tmp 63) (.tmp 64) W; have h2 := HQX.out W; go_simp)
        simp only [Act.put, List.setIfInBounds_toArray, List.set_cons_succ, List.set_cons_zero]
        apply lg_pure (.bool true) rfl (by intro W; go_simp)
        simp only [Act.put, List.setIfInBounds_toArray, List.set_cons_succ, List.set_cons_zero]
        apply lg_pure (.bool true) rfl (by intro W; go_simp)
        simp only [Act.put, List.setIfInBounds_toArray, List.set_cons_succ, List.set_cons_zero]
        refine lg_nil ?_
        intro WY hC
        have HL := Lib.hid (HB.then_ hC.1)
        clear hC
        go_wp2_with fail
        go_ret
        exact ⟨rfl, HL.out⟩
      · have hpq : ¬ decP xs = decP ys := fun e => hxy ((enc_inj hxs hys hkxs hkys).1 e)
        have HGX := Lib.hid (fun op x y W => guard_bytes op xs ys x y W)
        have HQX := Lib.hid (fun W => eqin_bytes xs ys hxs hys W)
        rw [show (xs == ys) = false from by rw [beq_eq_false_iff_ne]; exact hxy] at HQX
        unfold A32 at HGX HQX
        rw [HUx.out, HUy.out] at HGX HQX
        go_wp2_with fail
        apply wp_region_g 25 (by kernel_rfl) (by kernel_rfl)
        simp only [List.take_succ_cons, List.take_zero, List.drop_succ_cons, List.drop_zero]
        apply lg_load 28 (.tmp 5) rfl g5 0 c5 _ Bn5.rng Ln5 Tryd.underlying28 rfl hpc5.size rfl rfl
        simp only [Act.put, List.setIfInBounds_toArray, List.set_cons_succ, List.set_cons_zero]
        apply lg_load 28 (.tmp 7) rfl g7 0 c7 _ Bn7.rng Ln7 Tryd.underlying28 rfl hpc7.size rfl rfl
        simp only [Act.put, List.setIfInBounds_toArray, List.set_cons_succ, List.set_cons_zero]
        apply lg_call_in (fun v => ∃ c, v = .agg c.toArray ∧ PL c ((decP xs).add (decP ys))) 18 #[.agg (c5).toArray, .agg (c7).toArray] rfl (by intro W; go_simp) (fun W hW => addP hpc5 hpc7 W (HT.1.later hW))
        rintro _ ⟨v45, rfl, h45⟩
        simp only [Act.put, List.setIfInBounds_toArray, List.set_cons_succ, List.set_cons_zero]
        apply lg_load 36 (.tmp 9) rfl g9 0 c9 _ Bn9.rng Ln9 Tryd.underlying36 rfl hpc9.size rfl rfl
        simp only [Act.put, List.setIfInBounds_toArray, List.set_cons_succ, List.set_cons_zero]
        apply lg_load 36 (.tmp 11) rfl g11 0 c11 _ Bn11.rng Ln11 Tryd.underlying36 rfl hpc11.size rfl rfl
        simp only [Act.put, List.setIfInBounds_toArray, List.set_cons_succ, List.set_cons_zero]
        apply lg_call_in (fun v => ∃ c, v = .agg c.toArray ∧ RL c ((decP xs).add (decP ys))) 19 #[.agg (c9).toArray, .agg (c11).toArray] rfl (by intro W; go_simp) (fun W hW => refSumP hpc9 hpc11 W)
        rintro _ ⟨v48, rfl, h48⟩
        simp only [Act.put, List.setIfInBounds_toArray, List.set_cons_succ, List.set_cons_zero]
        apply lg_callx_in (.string ⟨(encL ((decP xs).add (decP ys))).toArray⟩) 15 #[.agg (v48).toArray] rfl (by intro W; go_simp) (fun W hW => (refBytesP h48 W))
        simp only [Act.put, List.setIfInBounds_toArray, List.set_cons_succ, List.set_cons_zero]
        apply lg_callx (.bool true) 14 #[.agg (v45).toArray, .string ⟨(encL ((decP xs).add (decP ys))).toArray⟩] rfl (by intro W; go_simp) (fun W => same_calls h45 _ rfl W)
        simp only [Act.put, List.setIfInBounds_toArray, List.set_cons_succ, List.set_cons_zero]
        apply lg_pure (.bool true) rfl (by intro W; go_simp)
        simp only [Act.put, List.setIfInBounds_toArray, List.set_cons_succ, List.set_cons_zero]
        apply lg_load 28 (.tmp 5) rfl g5 0 c5 _ Bn5.rng Ln5 Tryd.underlying28 rfl hpc5.size rfl rfl
        simp only [Act.put, List.setIfInBounds_toArray, List.set_cons_succ, List.set_cons_zero]
        apply lg_call_in (fun v => ∃ c, v = .agg c.toArray ∧ PL c ((decP xs).neg)) 20 #[.agg (c5).toArray] rfl (by intro W; go_simp) (fun W hW => negP hpc5 W)
        rintro _ ⟨v53, rfl, h53⟩
        simp only [Act.put, List.setIfInBounds_toArray, List.set_cons_succ, List.set_cons_zero]
        apply lg_load 36 (.tmp 9) rfl g9 0 c9 _ Bn9.rng Ln9 Tryd.underlying36 rfl hpc9.size rfl rfl
        simp only [Act.put, List.setIfInBounds_toArray, List.set_cons_succ, List.set_cons_zero]
        apply lg_call_in (fun v => ∃ c, v = .agg c.toArray ∧ RL c ((decP xs).neg)) 21 #[.agg (c9).toArray] rfl (by intro W; go_simp) (fun W hW => refNegP hpc9 W)
        rintro _ ⟨v55, rfl, h55⟩
        simp only [Act.put, List.setIfInBounds_toArray, List.set_cons_succ, List.set_cons_zero]
        apply lg_callx_in (.string ⟨(encL ((decP xs).neg)).toArray⟩) 15 #[.agg (v55).toArray] rfl (by intro W; go_simp) (fun W hW => (refBytesP h55 W))
        simp only [Act.put, List.setIfInBounds_toArray, List.set_cons_succ, List.set_cons_zero]
        apply lg_callx (.bool true) 14 #[.agg (v53).toArray, .string ⟨(encL ((decP xs).neg)).toArray⟩] rfl (by intro W; go_simp) (fun W => same_calls h53 _ rfl W)
        simp only [Act.put, List.setIfInBounds_toArray, List.set_cons_succ, List.set_cons_zero]
        apply lg_pure (.bool true) rfl (by intro W; go_simp)
        simp only [Act.put, List.setIfInBounds_toArray, List.set_cons_succ, List.set_cons_zero]
        apply lg_pure (.bool true) rfl (by intro W; go_simp)
        simp only [Act.put, List.setIfInBounds_toArray, List.set_cons_succ, List.set_cons_zero]
        apply lg_load 28 (.tmp 5) rfl g5 0 c5 _ Bn5.rng Ln5 Tryd.underlying28 rfl hpc5.size rfl rfl
        simp only [Act.put, List.setIfInBounds_toArray, List.set_cons_succ, List.set_cons_zero]
        apply lg_load 28 (.tmp 7) rfl g7 0 c7 _ Bn7.rng Ln7 Tryd.underlying28 rfl hpc7.size rfl rfl
        simp only [Act.put, List.setIfInBounds_toArray, List.set_cons_succ, List.set_cons_zero]
        apply lg_callx (.bool false) 16 #[.agg (c5).toArray, .agg (c7).toArray] rfl (by intro W; go_simp) (fun W => (isP hpc5 hpc7 W).mono fun e W' ⟨b, h1, h2, h3⟩ => ⟨by rw [h1, show b = false from Bool.eq_false_iff.2 (fun hb => hpq (h2.1 hb))], h3⟩)
        simp only [Act.put, List.setIfInBounds_toArray, List.set_cons_succ, List.set_cons_zero]
        apply lg_load 22 (.tmp 2) rfl w.heap.size 0 uxs _ Bp2.rng Lp2 Tryd.underlying22 rfl hszxs rfl rfl
        simp only [Act.put, List.setIfInBounds_toArray, List.set_cons_succ, List.set_cons_zero]
        apply lg_load 22 (.tmp 3) rfl (w.heap.size + 1) 0 uys _ Bp3.rng Lp3 Tryd.underlying22 rfl hszys rfl rfl
        simp only [Act.put, List.setIfInBounds_toArray, List.set_cons_succ, List.set_cons_zero]
        apply lg_pure (.bool false) rfl (by intro W; have h1 := HGX.out .eql (.tmp 63) (.tmp 64) W; have h2 := HQX.out W; go_simp)
        simp only [Act.put, List.setIfInBounds_toArray, List.set_cons_succ, List.set_cons_zero]
        apply lg_pure (.bool true) rfl (by intro W; go_simp)
        simp only [Act.put, List.setIfInBounds_toArray, List.set_cons_succ, List.set_cons_zero]
        apply lg_pure (.bool true) rfl (by intro W; go_simp)
        simp only [Act.put, List.setIfInBounds_toArray, List.set_cons_succ, List.set_cons_zero]
        refine lg_nil ?_
        intro WY hC
        have HL := Lib.hid (HB.then_ hC.1)
        clear hC
        go_wp2_with fail
        go_ret
        exact ⟨rfl, HL.out⟩
end Go.Proofs.YtoligamlafgaoaaDoor
