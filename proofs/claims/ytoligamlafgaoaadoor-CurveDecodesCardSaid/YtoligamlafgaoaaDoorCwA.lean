/- Layer 6: CurveDecodes, walked. -/
import Derived.Test.YtoligamlafgaoaaDoorCvL
namespace Go.Proofs.YtoligamlafgaoaaDoor
open Go.ChangeShapes Go.WideShapes Go.ChangeAt Go.RowKit Go.IntWalk
set_option linter.unusedVariables false

set_option maxRecDepth 100000 in
set_option maxHeartbeats 8000000 in
theorem curveDecodes_walk (xs : List UInt8) (hxs : xs.length = 32) (w : World) (hT : TabD w) :
    Calls Tryd.prog 3 #[.agg (xs.map fun c => Value.int .u8 (c.toNat : Int)).toArray] w fun e w' => e = .returned (.bool true) ∧ Below w.heap.size w w' := by
  have hszxs := size32' xs hxs
  have hdcxs : ∀ W, TabD W → Calls Tryd.prog 12 #[.agg (u8s xs).toArray] W (DPost xs W) := fun W h => decode_calls xs hxs W h
  have hrdxs := refDecode_calls xs hxs
  have HRBxs : Hid (∀ (W : World) (g : Nat), Blk W g 22 (u8s xs) → (convert 39 9 (.slice (some ⟨g, 0, none⟩) 32 32)).run Tryd.prog W = .ok (.string ⟨xs.toArray⟩) W) := Lib.hid (fun W g h => run_str_rb W (some ⟨g, 0, none⟩) 32 32 xs (UBlk.rb h) (Lib.hid hxs.symm))
  have HGQxs := Lib.hid (fun op x y W => guard_bytes op xs xs x y W)
  have HQQxs := Lib.hid (fun W => eqin_bytes xs xs hxs hxs W)
  rw [beq_self_eq_true] at HQQxs
  unfold A32 at HGQxs HQQxs
  have HENxs : Hid (∀ (c : List Value) (W : World), dOk xs = true → PL c (decP xs) → Calls Tryd.prog 11 #[.agg c.toArray] W fun e w' => e = .returned (.agg (u8s xs).toArray) ∧ Below W.heap.size W w') := Lib.hid (fun c W hk h => by
    have := bytesP h W
    unfold BPost at this
    rwa [enc_dec hxs hk] at this)
  obtain ⟨uxs, huxs⟩ : ∃ q, u8s xs = q := ⟨_, rfl⟩
  rw [show (xs.map fun c => Value.int .u8 (c.toNat : Int)) = uxs from huxs]
  rw [huxs] at hszxs HRBxs HGQxs HQQxs HENxs
  simp only [huxs] at hdcxs
  have HDCxs := Lib.hid hdcxs
  have HRDxs := Lib.hid hrdxs
  clear huxs hdcxs hrdxs
  go_enter Tryd.func3, Tryd.ntmps3
  go_upto_region 1 with fail
  refine wp_gen (fun W => Blk W w.heap.size 22 uxs ∧ Below w.heap.size w W ∧ TabD W) ?_ ?_
  · obtain ⟨a0, hb⟩ := alloc1 w uxs 22
    exact ⟨a0, hb, hT.later hb⟩
  rintro W0 ⟨Bp1, HB, HT⟩
  have Lp1 := Bp1.lt
  have g1 := guard_bytes .neq (byteN 1) (byteN 1)
  have q1 := neq_bytes (byteN 1) (byteN 1) rfl rfl
  rw [beq_self_eq_true] at q1
  rw [lit_one] at g1 q1
  have hbz : ∀ {c : List Value} (h : PL c Pt.zero) W, Calls Tryd.prog 11 #[.agg c.toArray] W fun e w' => e = .returned (.agg #[.int .u8 1, .int .u8 0, .int .u8 0, .int .u8 0, .int .u8 0, .int .u8 0, .int .u8 0, .int .u8 0, .int .u8 0, .int .u8 0, .int .u8 0, .int .u8 0, .int .u8 0, .int .u8 0, .int .u8 0, .int .u8 0, .int .u8 0, .int .u8 0, .int .u8 0, .int .u8 0, .int .u8 0, .int .u8 0, .int .u8 0, .int .u8 0, .int .u8 0, .int .u8 0, .int .u8 0, .int .u8 0, .int .u8 0, .int .u8 0, .int .u8 0, .int .u8 0]) ∧ Below W.heap.size W w' := fun h W => by
    have := bytesP h W
    unfold BPost at this
    rwa [enc_zero, lit_one] at this
  go_wp2_with fail
  refine (zero_calls _).mono ?_
  rintro e wz1 ⟨_, rfl, ⟨z1, rfl, hz1⟩, bz1⟩
  go_wp2_with fail
  refine (hbz hz1 _).mono ?_
  rintro e wz2 ⟨rfl, bz2⟩
  have bz := bz1.then_ bz2
  clear bz1 bz2
  replace Bp1 := Bp1.later bz
  replace Lp1 := Bp1.lt
  replace HB := HB.then_ bz
  replace HT := HT.later bz
  clear bz
  go_upto_region 3 with fail
  clear g1 q1 hbz hz1
  go_wp2_with (refine wpList_load_mid rfl 22 _ rfl w.heap.size 0 rfl uxs _ Bp1.rng Tryd.underlying22 rfl hszxs ?_)
  refine (HDCxs.out _ HT).mono ?_
  rintro e WD3 ⟨c3, rfl, hlc3, hoc3, hpc3, bD⟩
  replace Bp1 := Bp1.later bD
  replace Lp1 := Bp1.lt
  replace HB := HB.then_ bD
  replace HT := HT.later bD
  clear bD
  obtain ⟨T0, HL, N0⟩ := letS (W := WD3) (T := 28) (z := C20) (cs := c3) (by rw [hlc3]; rfl)
  have hS : (Tryd.prog.info? 28).map (·.size) = some c3.toArray.size := by rw [List.size_toArray, hlc3]; exact size20
  go_upto_region 4 with (refine wpList_store_mid rfl 28 _ _ rfl WD3.heap.size 0 c3.toArray rfl rfl T0 hS hoc3 ?_)
  obtain ⟨g3, eg⟩ : ∃ g, WD3.heap.size = g := ⟨_, rfl⟩
  rw [eg] at N0 ⊢
  have hE : Hid (WD3.heap.size = g3) := Lib.hid eg
  refine wp_gen (fun W => Blk W w.heap.size 22 uxs ∧ Blk W g3 28 c3 ∧ Below w.heap.size w W ∧ TabD W) ⟨Bp1.later (hE.out ▸ HL), N0, HB.then_ (hE.out ▸ HL), HT.later (hE.out ▸ HL)⟩ ?_
  clear T0 HL N0 eg hE hS
  clear Bp1 Lp1 HB HT
  rintro W1 ⟨Bp1, Bn3, HB, HT⟩
  have Lp1 := Bp1.lt
  have Ln3 := Bn3.lt
  have hcv := HRBxs.out _ _ Bp1
  go_wp2_with fail
  clear hcv
  refine (HRDxs.out _).mono ?_
  rintro e WD4 ⟨c5, rfl, hlc5, hoc5, hpc5, bD⟩
  replace Bp1 := Bp1.later bD
  replace Lp1 := Bp1.lt
  replace Bn3 := Bn3.later bD
  replace Ln3 := Bn3.lt
  replace HB := HB.then_ bD
  replace HT := HT.later bD
  clear bD
  obtain ⟨T0, HL, N0⟩ := letS (W := WD4) (T := 36) (z := C64) (cs := c5) (by rw [hlc5]; rfl)
  have hS : (Tryd.prog.info? 36).map (·.size) = some c5.toArray.size := by rw [List.size_toArray, hlc5]; exact size64n
  go_upto_region 5 with (refine wpList_store_mid rfl 36 _ _ rfl WD4.heap.size 0 c5.toArray rfl rfl T0 hS hoc5 ?_)
  obtain ⟨g5, eg⟩ : ∃ g, WD4.heap.size = g := ⟨_, rfl⟩
  rw [eg] at N0 ⊢
  have hE : Hid (WD4.heap.size = g5) := Lib.hid eg
  refine wp_gen (fun W => Blk W w.heap.size 22 uxs ∧ Blk W g3 28 c3 ∧ Blk W g5 36 c5 ∧ Below w.heap.size w W ∧ TabD W) ⟨Bp1.later (hE.out ▸ HL), Bn3.later (hE.out ▸ HL), N0, HB.then_ (hE.out ▸ HL), HT.later (hE.out ▸ HL)⟩ ?_
  clear T0 HL N0 eg hE hS
  clear Bp1 Bn3 Lp1 Ln3 HB HT
  rintro W2 ⟨Bp1, Bn3, Bn5, HB, HT⟩
  have Lp1 := Bp1.lt
  have Ln3 := Bn3.lt
  have Ln5 := Bn5.lt
  cases hk : dOk xs with
  | false =>
    go_wp2_with fail
    apply wp_region_g 24 (by kernel_rfl) (by kernel_rfl)
    simp only [List.take_succ_cons, List.take_zero, List.drop_succ_cons, List.drop_zero]
    apply lg_pure (.bool false) rfl (by intro W; go_simp)
    simp only [Act.put, List.setIfInBounds_toArray, List.set_cons_succ, List.set_cons_zero]
    apply lg_pure (.bool false) rfl (by intro W; go_simp)
    simp only [Act.put, List.setIfInBounds_toArray, List.set_cons_succ, List.set_cons_zero]
    apply lg_pure (.bool true) rfl (by intro W; go_simp)
    simp only [Act.put, List.setIfInBounds_toArray, List.set_cons_succ, List.set_cons_zero]
    apply lg_pure (.bool true) rfl (by intro W; go_simp)
    simp only [Act.put, List.setIfInBounds_toArray, List.set_cons_succ, List.set_cons_zero]
    apply lg_pure (.bool false) rfl (by intro W; go_simp)
    simp only [Act.put, List.setIfInBounds_toArray, List.set_cons_succ, List.set_cons_zero]
    apply lg_pure (.bool true) rfl (by intro W; go_simp)
    simp only [Act.put, List.setIfInBounds_toArray, List.set_cons_succ, List.set_cons_zero]
    apply lg_pure (.bool true) rfl (by intro W; go_simp)
    simp only [Act.put, List.setIfInBounds_toArray, List.set_cons_succ, List.set_cons_zero]
    apply lg_skip rfl
    simp only [Act.put, List.setIfInBounds_toArray, List.set_cons_succ, List.set_cons_zero]
    apply lg_skip rfl
    simp only [Act.put, List.setIfInBounds_toArray, List.set_cons_succ, List.set_cons_zero]
    apply lg_skip rfl
    simp only [Act.put, List.setIfInBounds_toArray, List.set_cons_succ, List.set_cons_zero]
    apply lg_skip rfl
    simp only [Act.put, List.setIfInBounds_toArray, List.set_cons_succ, List.set_cons_zero]
    apply lg_skip rfl
    simp only [Act.put, List.setIfInBounds_toArray, List.set_cons_succ, List.set_cons_zero]
    apply lg_skip rfl
    simp only [Act.put, List.setIfInBounds_toArray, List.set_cons_succ, List.set_cons_zero]
    apply lg_skip rfl
    simp only [Act.put, List.setIfInBounds_toArray, List.set_cons_succ, List.set_cons_zero]
    apply lg_skip rfl
    simp only [Act.put, List.setIfInBounds_toArray, List.set_cons_succ, List.set_cons_zero]
    apply lg_skip rfl
    simp only [Act.put, List.setIfInBounds_toArray, List.set_cons_succ, List.set_cons_zero]
    apply lg_skip rfl
    simp only [Act.put, List.setIfInBounds_toArray, List.set_cons_succ, List.set_cons_zero]
    apply lg_skip rfl
    simp only [Act.put, List.setIfInBounds_toArray, List.set_cons_succ, List.set_cons_zero]
    apply lg_skip rfl
    simp only [Act.put, List.setIfInBounds_toArray, List.set_cons_succ, List.set_cons_zero]
    apply lg_skip rfl
    simp only [Act.put, List.setIfInBounds_toArray, List.set_cons_succ, List.set_cons_zero]
    apply lg_skip rfl
    simp only [Act.put, List.setIfInBounds_toArray, List.set_cons_succ, List.set_cons_zero]
    apply lg_skip rfl
    simp only [Act.put, List.setIfInBounds_toArray, List.set_cons_succ, List.set_cons_zero]
    apply lg_pure (.bool true) rfl (by intro W; go_simp)
    simp only [Act.put, List.setIfInBounds_toArray, List.set_cons_succ, List.set_cons_zero]
    apply lg_pure (.bool true) rfl (by intro W; go_simp)
    simp only [Act.put, List.setIfInBounds_toArray, List.set_cons_succ, List.set_cons_zero]
    refine lg_nil ?_
    intro WY hC
    have HL := Lib.hid (HB.then_ hC.1)
    clear hC
    go_wp2_with fail
    go_ret
    exact ⟨rfl, HL.out⟩
  | true =>
    replace hpc3 := hpc3 hk
    replace hpc5 := hpc5 hk
    go_wp2_with fail
    apply wp_region_g 24 (by kernel_rfl) (by kernel_rfl)
    simp only [List.take_succ_cons, List.take_zero, List.drop_succ_cons, List.drop_zero]
    apply lg_pure (.bool true) rfl (by intro W; go_simp)
    simp only [Act.put, List.setIfInBounds_toArray, List.set_cons_succ, List.set_cons_zero]
    apply lg_pure (.bool true) rfl (by intro W; go_simp)
    simp only [Act.put, List.setIfInBounds_toArray, List.set_cons_succ, List.set_cons_zero]
    apply lg_pure (.bool true) rfl (by intro W; go_simp)
    simp only [Act.put, List.setIfInBounds_toArray, List.set_cons_succ, List.set_cons_zero]
    apply lg_pure (.bool true) rfl (by intro W; go_simp)
    simp only [Act.put, List.setIfInBounds_toArray, List.set_cons_succ, List.set_cons_zero]
    apply lg_pure (.bool true) rfl (by intro W; go_simp)
    simp only [Act.put, List.setIfInBounds_toArray, List.set_cons_succ, List.set_cons_zero]
    apply lg_pure (.bool false) rfl (by intro W; go_simp)
    simp only [Act.put, List.setIfInBounds_toArray, List.set_cons_succ, List.set_cons_zero]
    apply lg_pure (.bool false) rfl (by intro W; go_simp)
    simp only [Act.put, List.setIfInBounds_toArray, List.set_cons_succ, List.set_cons_zero]
    apply lg_load 28 (.tmp 3) rfl g3 0 c3 _ Bn3.rng Ln3 Tryd.underlying28 rfl hpc3.size rfl rfl
    simp only [Act.put, List.setIfInBounds_toArray, List.set_cons_succ, List.set_cons_zero]
    apply lg_callx_in (.agg uxs.toArray) 11 #[.agg (c3).toArray] rfl (by intro W; go_simp) (fun W hW => HENxs.out _ W hk hpc3)
    simp only [Act.put, List.setIfInBounds_toArray, List.set_cons_succ, List.set_cons_zero]
    apply lg_load 22 (.tmp 1) rfl w.heap.size 0 uxs _ Bp1.rng Lp1 Tryd.underlying22 rfl hszxs rfl rfl
    simp only [Act.put, List.setIfInBounds_toArray, List.set_cons_succ, List.set_cons_zero]
    apply lg_pure (.bool true) rfl (by intro W; have h1 := HGQxs.out .eql (.tmp 30) (.tmp 31) W; have h2 := HQQxs.out W; go_simp)
    simp only [Act.put, List.setIfInBounds_toArray, List.set_cons_succ, List.set_cons_zero]
    apply lg_pure (.bool true) rfl (by intro W; go_simp)
    simp only [Act.put, List.setIfInBounds_toArray, List.set_cons_succ, List.set_cons_zero]
    apply lg_load 28 (.tmp 3) rfl g3 0 c3 _ Bn3.rng Ln3 Tryd.underlying28 rfl hpc3.size rfl rfl
    simp only [Act.put, List.setIfInBounds_toArray, List.set_cons_succ, List.set_cons_zero]
    apply lg_load 36 (.tmp 5) rfl g5 0 c5 _ Bn5.rng Ln5 Tryd.underlying36 rfl hpc5.size rfl rfl
    simp only [Act.put, List.setIfInBounds_toArray, List.set_cons_succ, List.set_cons_zero]
    apply lg_callx_in (.string ⟨(encL (decP xs)).toArray⟩) 15 #[.agg (c5).toArray] rfl (by intro W; go_simp) (fun W hW => (refBytesP hpc5 W))
    simp only [Act.put, List.setIfInBounds_toArray, List.set_cons_succ, List.set_cons_zero]
    apply lg_callx (.bool true) 14 #[.agg (c3).toArray, .string ⟨(encL (decP xs)).toArray⟩] rfl (by intro W; go_simp) (fun W => same_calls hpc3 _ rfl W)
    simp only [Act.put, List.setIfInBounds_toArray, List.set_cons_succ, List.set_cons_zero]
    apply lg_pure (.bool true) rfl (by intro W; go_simp)
    simp only [Act.put, List.setIfInBounds_toArray, List.set_cons_succ, List.set_cons_zero]
    apply lg_pure (.bool true) rfl (by intro W; go_simp)
    simp only [Act.put, List.setIfInBounds_toArray, List.set_cons_succ, List.set_cons_zero]
    apply lg_load 28 (.tmp 3) rfl g3 0 c3 _ Bn3.rng Ln3 Tryd.underlying28 rfl hpc3.size rfl rfl
    simp only [Act.put, List.setIfInBounds_toArray, List.set_cons_succ, List.set_cons_zero]
    apply lg_load 28 (.tmp 3) rfl g3 0 c3 _ Bn3.rng Ln3 Tryd.underlying28 rfl hpc3.size rfl rfl
    simp only [Act.put, List.setIfInBounds_toArray, List.set_cons_succ, List.set_cons_zero]
    apply lg_callx (.bool true) 16 #[.agg (c3).toArray, .agg (c3).toArray] rfl (by intro W; go_simp) (fun W => (isP hpc3 hpc3 W).mono fun e W' ⟨b, h1, h2, h3⟩ => ⟨by rw [h1, h2.2 rfl], h3⟩)
    simp only [Act.put, List.setIfInBounds_toArray, List.set_cons_succ, List.set_cons_zero]
    apply lg_pure (.bool true) rfl (by intro W; go_simp)
    simp only [Act.put, List.setIfInBounds_toArray, List.set_cons_succ, List.set_cons_zero]
    apply lg_pure (.bool true) rfl (by intro W; go_simp)
    simp only [Act.put, List.setIfInBounds_toArray, List.set_cons_succ, List.set_cons_zero]
    apply lg_pure (.bool true) rfl (by intro W; go_simp)
    simp only [Act.put, List.setIfInBounds_toArray, List.set_cons_succ, List.set_cons_zero]
    refine lg_nil ?_
    intro WY hC
    have HL := Lib.hid (HB.then_ hC.1)
    clear hC
    go_wp2_with fail
    go_ret
    exact ⟨rfl, HL.out⟩
end Go.Proofs.YtoligamlafgaoaaDoor
