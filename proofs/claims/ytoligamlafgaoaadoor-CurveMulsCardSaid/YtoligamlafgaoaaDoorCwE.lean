/- Layer 6: CurveMuls, walked. -/
import Derived.Test.YtoligamlafgaoaaDoorCwB
import Derived.Test.YtoligamlafgaoaaDoorCvP
namespace Go.Proofs.YtoligamlafgaoaaDoor
open Go.ChangeShapes Go.WideShapes Go.ChangeAt Go.RowKit Go.IntWalk
set_option linter.unusedVariables false

set_option maxRecDepth 100000 in
set_option maxHeartbeats 8000000 in
theorem curveMuls_walk (xs : List UInt8) (hxs : xs.length = 32) (ns : List UInt8) (hns : ns.length = 32) (w : World) (hT : Tab3 w) :
    Calls Tryd.prog 5 #[.agg (xs.map fun c => Value.int .u8 (c.toNat : Int)).toArray, .agg (ns.map fun c => Value.int .u8 (c.toNat : Int)).toArray] w fun e w' => e = .returned (.bool true) ∧ Below w.heap.size w w' := by
  have hszxs := size32' xs hxs
  have hdcxs : ∀ W, TabD W → Calls Tryd.prog 12 #[.agg (u8s xs).toArray] W (DPost xs W) := fun W h => decode_calls xs hxs W h
  have hrdxs := refDecode_calls xs hxs
  have HRBxs : Hid (∀ (W : World) (g : Nat), Blk W g 22 (u8s xs) → (convert 39 9 (.slice (some ⟨g, 0, none⟩) 32 32)).run Tryd.prog W = .ok (.string ⟨xs.toArray⟩) W) := Lib.hid (fun W g h => run_str_rb W (some ⟨g, 0, none⟩) 32 32 xs (UBlk.rb h) (Lib.hid hxs.symm))
  have HGQxs := Lib.hid (fun op x y W => guard_bytes op xs xs x y W)
  have HQQxs := Lib.hid (fun W => eqin_bytes xs xs hxs hxs W)
  rw [beq_self_eq_true] at HQQxs
  unfold A32 at HGQxs HQQxs
  have HENxs : Hid (∀ (c : List Value) (W : World), dOk xs = true → PL c (decP xs) → Calls Tryd.prog 11 #[.agg c.toArray] W fun e w' => e = .returned (.agg (u8s xs).toArray) ∧ Below W.heap.size W w') := Lib.hid (fun c W hk h => by
    have := bytesP h W
    unfold BPost at this
    rwa [enc_dec hxs hk] at this)
  obtain ⟨uxs, huxs⟩ : ∃ q, u8s xs = q := ⟨_, rfl⟩
  rw [show (xs.map fun c => Value.int .u8 (c.toNat : Int)) = uxs from huxs]
  rw [huxs] at hszxs HRBxs HGQxs HQQxs HENxs
  simp only [huxs] at hdcxs
  have HDCxs := Lib.hid hdcxs
  have HRDxs := Lib.hid hrdxs
  clear huxs hdcxs hrdxs
  have hszns := size32' ns hns
  have hdcns : ∀ W, TabD W → Calls Tryd.prog 12 #[.agg (u8s ns).toArray] W (DPost ns W) := fun W h => decode_calls ns hns W h
  have hrdns := refDecode_calls ns hns
  have HRBns : Hid (∀ (W : World) (g : Nat), Blk W g 22 (u8s ns) → (convert 39 9 (.slice (some ⟨g, 0, none⟩) 32 32)).run Tryd.prog W = .ok (.string ⟨ns.toArray⟩) W) := Lib.hid (fun W g h => run_str_rb W (some ⟨g, 0, none⟩) 32 32 ns (UBlk.rb h) (Lib.hid hns.symm))
  have HGQns := Lib.hid (fun op x y W => guard_bytes op ns ns x y W)
  have HQQns := Lib.hid (fun W => eqin_bytes ns ns hns hns W)
  rw [beq_self_eq_true] at HQQns
  unfold A32 at HGQns HQQns
  have HENns : Hid (∀ (c : List Value) (W : World), dOk ns = true → PL c (decP ns) → Calls Tryd.prog 11 #[.agg c.toArray] W fun e w' => e = .returned (.agg (u8s ns).toArray) ∧ Below W.heap.size W w') := Lib.hid (fun c W hk h => by
    have := bytesP h W
    unfold BPost at this
    rwa [enc_dec hns hk] at this)
  obtain ⟨uns, huns⟩ : ∃ q, u8s ns = q := ⟨_, rfl⟩
  rw [show (ns.map fun c => Value.int .u8 (c.toNat : Int)) = uns from huns]
  rw [huns] at hszns HRBns HGQns HQQns HENns
  simp only [huns] at hdcns
  have HMU : Hid (∀ c p, PL c p → ∀ W, TabD W → Calls Tryd.prog 22 #[.agg c.toArray, .agg uns.toArray] W (PPost (Pt.times (leN ns) p) W)) := Lib.hid (fun c p h W hT => huns ▸ mulP h ns hns W hT)
  have HDCns := Lib.hid hdcns
  have HRDns := Lib.hid hrdns
  clear huns hdcns hrdns
  go_enter Tryd.func5, Tryd.ntmps5
  go_upto_region 1 with fail
  refine wp_gen (fun W => Blk W w.heap.size 22 uxs ∧ Blk W (w.heap.size + 1) 22 uns ∧ Below w.heap.size w W ∧ Tab3 W) ?_ ?_
  · obtain ⟨a0, a1, hb⟩ := alloc2 w uxs uns 22 22
    exact ⟨a0, a1, hb, hT.later hb⟩
  rintro W0 ⟨Bp2, Bp3, HB, HT⟩
  have Lp2 := Bp2.lt
  have Lp3 := Bp3.lt
  go_wp2_with fail
  refine (alive6_calls _ HT.2).mono ?_
  rintro e wz ⟨rfl, bz⟩
  replace Bp2 := Bp2.later bz
  replace Lp2 := Bp2.lt
  replace Bp3 := Bp3.later bz
  replace Lp3 := Bp3.lt
  replace HB := HB.then_ bz
  replace HT := HT.later bz
  clear bz
  go_upto_region 3 with fail
  go_wp2_with (refine wpList_load_mid rfl 22 _ rfl w.heap.size 0 rfl uxs _ Bp2.rng Tryd.underlying22 rfl hszxs ?_)
  refine (HDCxs.out _ HT.1).mono ?_
  rintro e WD3 ⟨c5, rfl, hlc5, hoc5, hpc5, bD⟩
  replace Bp2 := Bp2.later bD
  replace Lp2 := Bp2.lt
  replace Bp3 := Bp3.later bD
  replace Lp3 := Bp3.lt
  replace HB := HB.then_ bD
  replace HT := HT.later bD
  clear bD
  obtain ⟨T0, HL, N0⟩ := letS (W := WD3) (T := 28) (z := C20) (cs := c5) (by rw [hlc5]; rfl)
  have hS : (Tryd.prog.info? 28).map (·.size) = some c5.toArray.size := by rw [List.size_toArray, hlc5]; exact size20
  go_upto_region 4 with (refine wpList_store_mid rfl 28 _ _ rfl WD3.heap.size 0 c5.toArray rfl rfl T0 hS hoc5 ?_)
  obtain ⟨g5, eg⟩ : ∃ g, WD3.heap.size = g := ⟨_, rfl⟩
  rw [eg] at N0 ⊢
  have hE : Hid (WD3.heap.size = g5) := Lib.hid eg
  refine wp_gen (fun W => Blk W w.heap.size 22 uxs ∧ Blk W (w.heap.size + 1) 22 uns ∧ Blk W g5 28 c5 ∧ Below w.heap.size w W ∧ Tab3 W) ⟨Bp2.later (hE.out ▸ HL), Bp3.later (hE.out ▸ HL), N0, HB.then_ (hE.out ▸ HL), HT.later (hE.out ▸ HL)⟩ ?_
  clear T0 HL N0 eg hE hS
  clear Bp2 Bp3 Lp2 Lp3 HB HT
  rintro W1 ⟨Bp2, Bp3, Bn5, HB, HT⟩
  have Lp2 := Bp2.lt
  have Lp3 := Bp3.lt
  have Ln5 := Bn5.lt
  cases hkxs : dOk xs with
  | false =>
    have HF := Lib.hid HB
    clear Bp2 Bp3 Bn5 Lp2 Lp3 Ln5 HB HT
    go_wp2_with fail
    all_goals (go_ret; exact ⟨rfl, HF.out⟩)
  | true =>
    replace hpc5 := hpc5 hkxs
    go_upto_region 6 with fail
    have hcv := HRBxs.out _ _ Bp2
    go_wp2_with fail
    clear hcv
    refine (HRDxs.out _).mono ?_
    rintro e WD6 ⟨c7, rfl, hlc7, hoc7, hpc7, bD⟩
    replace Bp2 := Bp2.later bD
    replace Lp2 := Bp2.lt
    replace Bp3 := Bp3.later bD
    replace Lp3 := Bp3.lt
    replace Bn5 := Bn5.later bD
    replace Ln5 := Bn5.lt
    replace HB := HB.then_ bD
    replace HT := HT.later bD
    clear bD
    obtain ⟨T0, HL, N0⟩ := letS (W := WD6) (T := 36) (z := C64) (cs := c7) (by rw [hlc7]; rfl)
    have hS : (Tryd.prog.info? 36).map (·.size) = some c7.toArray.size := by rw [List.size_toArray, hlc7]; exact size64n
    go_upto_region 7 with (refine wpList_store_mid rfl 36 _ _ rfl WD6.heap.size 0 c7.toArray rfl rfl T0 hS hoc7 ?_)
    obtain ⟨g7, eg⟩ : ∃ g, WD6.heap.size = g := ⟨_, rfl⟩
    rw [eg] at N0 ⊢
    have hE : Hid (WD6.heap.size = g7) := Lib.hid eg
    refine wp_gen (fun W => Blk W w.heap.size 22 uxs ∧ Blk W (w.heap.size + 1) 22 uns ∧ Blk W g5 28 c5 ∧ Blk W g7 36 c7 ∧ Below w.heap.size w W ∧ Tab3 W) ⟨Bp2.later (hE.out ▸ HL), Bp3.later (hE.out ▸ HL), Bn5.later (hE.out ▸ HL), N0, HB.then_ (hE.out ▸ HL), HT.later (hE.out ▸ HL)⟩ ?_
    clear T0 HL N0 eg hE hS
    clear Bp2 Bp3 Bn5 Lp2 Lp3 Ln5 HB HT
    rintro W2 ⟨Bp2, Bp3, Bn5, Bn7, HB, HT⟩
    have Lp2 := Bp2.lt
    have Lp3 := Bp3.lt
    have Ln5 := Bn5.lt
    have Ln7 := Bn7.lt
    replace hpc7 := hpc7 hkxs
    go_wp2_with fail
    apply wp_region_g 9 (by kernel_rfl) (by kernel_rfl)
    simp only [List.take_succ_cons, List.take_zero, List.drop_succ_cons, List.drop_zero]
    apply lg_load 28 (.tmp 5) rfl g5 0 c5 _ Bn5.rng Ln5 Tryd.underlying28 rfl hpc5.size rfl rfl
    simp only [Act.put, List.setIfInBounds_toArray, List.set_cons_succ, List.set_cons_zero]
    apply lg_load 22 (.tmp 3) rfl (w.heap.size + 1) 0 uns _ Bp3.rng Lp3 Tryd.underlying22 rfl hszns rfl rfl
    simp only [Act.put, List.setIfInBounds_toArray, List.set_cons_succ, List.set_cons_zero]
    apply lg_call_in (fun v => ∃ c, v = .agg c.toArray ∧ PL c (Pt.times (leN ns) (decP xs))) 22 #[.agg (c5).toArray, .agg uns.toArray] rfl (by intro W; go_simp) (fun W hW => HMU.out _ _ hpc5 W (HT.1.later hW))
    rintro _ ⟨v26, rfl, h26⟩
    simp only [Act.put, List.setIfInBounds_toArray, List.set_cons_succ, List.set_cons_zero]
    apply lg_load 36 (.tmp 7) rfl g7 0 c7 _ Bn7.rng Ln7 Tryd.underlying36 rfl hpc7.size rfl rfl
    simp only [Act.put, List.setIfInBounds_toArray, List.set_cons_succ, List.set_cons_zero]
    apply lg_pure (.slice (some ⟨(w.heap.size + 1), 0, none⟩) 32 32) rfl (by intro W; go_simp)
    simp only [Act.put, List.setIfInBounds_toArray, List.set_cons_succ, List.set_cons_zero]
    apply lg_run (.string ⟨ns.toArray⟩) rfl (by intro W hW; have hcv := HRBns.out W _ (Bp3.later hW); go_simp)
    simp only [Act.put, List.setIfInBounds_toArray, List.set_cons_succ, List.set_cons_zero]
    apply lg_call_in (fun v => ∃ c, v = .agg c.toArray ∧ RL c (Pt.times (leN ns) (decP xs))) 23 #[.agg (c7).toArray, .string ⟨ns.toArray⟩] rfl (by intro W; go_simp) (fun W hW => refMulP hpc7 ns hns W)
    rintro _ ⟨v30, rfl, h30⟩
    simp only [Act.put, List.setIfInBounds_toArray, List.set_cons_succ, List.set_cons_zero]
    apply lg_callx_in (.string ⟨(encL (Pt.times (leN ns) (decP xs))).toArray⟩) 15 #[.agg (v30).toArray] rfl (by intro W; go_simp) (fun W hW => (refBytesP h30 W))
    simp only [Act.put, List.setIfInBounds_toArray, List.set_cons_succ, List.set_cons_zero]
    apply lg_callx (.bool true) 14 #[.agg (v26).toArray, .string ⟨(encL (Pt.times (leN ns) (decP xs))).toArray⟩] rfl (by intro W; go_simp) (fun W => same_calls h26 _ rfl W)
    simp only [Act.put, List.setIfInBounds_toArray, List.set_cons_succ, List.set_cons_zero]
    refine lg_nil ?_
    intro WY hC
    have HL := Lib.hid (HB.then_ hC.1)
    clear hC
    go_wp2_with fail
    go_ret
    exact ⟨rfl, HL.out⟩
end Go.Proofs.YtoligamlafgaoaaDoor
