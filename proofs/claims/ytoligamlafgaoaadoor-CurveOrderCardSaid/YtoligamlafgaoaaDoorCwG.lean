/- Layer 6: CurveOrder, walked. -/
import Derived.Test.YtoligamlafgaoaaDoorCwB
import Derived.Test.YtoligamlafgaoaaDoorCvP
import Derived.Test.YtoligamlafgaoaaDoorCvT
import Derived.Test.YtoligamlafgaoaaDoorSoL
namespace Go.Proofs.YtoligamlafgaoaaDoor
open Go.ChangeShapes Go.WideShapes Go.ChangeAt Go.RowKit Go.IntWalk
set_option linter.unusedVariables false

/-- The four tables of the curve and of the numbers. -/
def Tab4 (w : World) : Prop := Tab3 w ∧ Sc.Tab w
theorem Tab4.later {w w1 : World} (h : Tab4 w) (b : Below w.heap.size w w1) : Tab4 w1 := ⟨h.1.later b, Sc.Tab.later h.2 b⟩
theorem leN_same : ∀ bs : List UInt8, Sc.leN bs = leN bs
  | [] => rfl
  | c :: t => by rw [Sc.leN, leN, leN_same t]
theorem LO_same : Sc.LO = LB := Sc.LO_eq
theorem leN_rest (n : Nat) : leN (Sc.leB 32 (n % LB)) = n % LB := by
  rw [← leN_same, Sc.leN_leB]
  exact Nat.mod_eq_of_lt (Nat.lt_trans (Nat.mod_lt _ (by decide +kernel)) (by decide +kernel))
theorem rest_known (xs : List UInt8) (hxs : xs.length = 32) : ∃ u : List Value,
    Hid (∀ W g, Blk W g 22 (u8s xs) → Sc.Tab W → Calls Tryd.prog 25 #[.slice (some ⟨g, 0, none⟩) 32 32] W fun e w' => e = .returned (.agg u.toArray) ∧ Below W.heap.size W w') ∧
    Hid (∀ c p, PL c p → ∀ W, TabD W → Calls Tryd.prog 22 #[.agg c.toArray, .agg u.toArray] W (PPost (Pt.times (leN xs % LB) p) W)) := by
  refine ⟨u8s (Sc.leB 32 (leN xs % LB)), Lib.hid fun W g h hT => ?_, Lib.hid fun c p h W hT => ?_⟩
  · have := Sc.rest_calls (some ⟨g, 0, none⟩) 32 32 xs (Lib.hid hxs.symm) (by decide) W hT (Sc.rb_blk h)
    rw [leN_same, LO_same] at this
    exact this
  · have := mulP h (Sc.leB 32 (leN xs % LB)) (Sc.leB_len _ _) W hT
    rw [leN_rest] at this
    exact this
theorem muladd_known (xs ys zs : List UInt8) (hx : xs.length = 32) (hy : ys.length = 32) (hz : zs.length = 32) (k : Nat) (hk : (leN xs * leN ys + leN zs) % LB = k) : ∃ u : List Value,
    Hid (∀ W, Sc.Tab W → Calls Tryd.prog 26 #[.agg (u8s xs).toArray, .agg (u8s ys).toArray, .agg (u8s zs).toArray] W fun e w' => e = .returned (.agg u.toArray) ∧ Below W.heap.size W w') ∧
    Hid (∀ c p, PL c p → ∀ W, TabD W → Calls Tryd.prog 22 #[.agg c.toArray, .agg u.toArray] W (PPost (Pt.times k p) W)) := by
  subst hk
  refine ⟨u8s (Sc.leB 32 ((leN xs * leN ys + leN zs) % LB)), Lib.hid fun W hT => ?_, Lib.hid fun c p h W hT => ?_⟩
  · have := Sc.mul_calls xs ys zs hx hy hz W hT
    rw [leN_same, leN_same, leN_same, LO_same] at this
    exact this
  · have := mulP h (Sc.leB 32 ((leN xs * leN ys + leN zs) % LB)) (Sc.leB_len _ _) W hT
    rw [leN_rest] at this
    exact this
theorem build_one (W : World) : (Instr.build 22 #[(0, .int .u8 1)]).run Tryd.prog W = .ok (.agg (u8s (byteN 1)).toArray) W := run_build W _ _ _ (by kernel_rfl)
theorem build_none (W : World) : (Instr.build 22 #[]).run Tryd.prog W = .ok (.agg (u8s (List.replicate 32 0)).toArray) W := run_build W _ _ _ (by kernel_rfl)
theorem leN_reps : ∀ k, leN (List.replicate k 0) = 0
  | 0 => rfl
  | k + 1 => by rw [List.replicate_succ, leN, leN_reps k]; rfl
set_option maxRecDepth 100000 in
set_option maxHeartbeats 8000000 in
theorem curveOrder_walk (xs : List UInt8) (hxs : xs.length = 32) (ys : List UInt8) (hys : ys.length = 32) (w : World) (hT : Tab4 w) :
    Calls Tryd.prog 8 #[.agg (xs.map fun c => Value.int .u8 (c.toNat : Int)).toArray, .agg (ys.map fun c => Value.int .u8 (c.toNat : Int)).toArray] w fun e w' => e = .returned (.bool true) ∧ Below w.heap.size w w' := by
  obtain ⟨ur, HRS, HMR⟩ := rest_known xs hxs
  obtain ⟨s1, hs1⟩ : ∃ s, (leN xs * leN (byteN 1) + leN ys) % LB = s := ⟨_, rfl⟩
  obtain ⟨s2, hs2⟩ : ∃ s, (leN xs * leN ys + leN (List.replicate 32 0)) % LB = s := ⟨_, rfl⟩
  obtain ⟨us1, HA1, HM1⟩ := muladd_known xs (byteN 1) ys hxs rfl hys s1 hs1
  obtain ⟨us2, HA2, HM2⟩ := muladd_known xs ys (List.replicate 32 0) hxs hys rfl s2 hs2
  have HS1 : Hid ((leN xs + leN ys) % LB = s1) := Lib.hid (by rw [← hs1, byteN, leN, leN_reps]; simp)
  have HS2 : Hid ((leN ys * leN xs) % LB = s2) := Lib.hid (by rw [← hs2, leN_reps, Nat.add_zero, Nat.mul_comm])
  clear hs1 hs2
  have B1 := Lib.hid build_one
  have B0 := Lib.hid build_none
  obtain ⟨u1, hu1⟩ : ∃ u, u8s (byteN 1) = u := ⟨_, rfl⟩
  obtain ⟨u0, hu0⟩ : ∃ u, u8s (List.replicate 32 0) = u := ⟨_, rfl⟩
  rw [hu1] at B1 HA1
  rw [hu0] at B0 HA2
  clear hu1 hu0
  have HMX : Hid (∀ c p, PL c p → ∀ W, TabD W → Calls Tryd.prog 22 #[.agg c.toArray, .agg (u8s xs).toArray] W (PPost (Pt.times (leN xs) p) W)) := Lib.hid (fun c p h W hT => mulP h xs hxs W hT)
  have HMY : Hid (∀ c p, PL c p → ∀ W, TabD W → Calls Tryd.prog 22 #[.agg c.toArray, .agg (u8s ys).toArray] W (PPost (Pt.times (leN ys) p) W)) := Lib.hid (fun c p h W hT => mulP h ys hys W hT)
  have hszxs := size32' xs hxs
  have hdcxs : ∀ W, TabD W → Calls Tryd.prog 12 #[.agg (u8s xs).toArray] W (DPost xs W) := fun W h => decode_calls xs hxs W h
  have hrdxs := refDecode_calls xs hxs
  have HRBxs : Hid (∀ (W : World) (g : Nat), Blk W g 22 (u8s xs) → (convert 39 9 (.slice (some ⟨g, 0, none⟩) 32 32)).run Tryd.prog W = .ok (.string ⟨xs.toArray⟩) W) := Lib.hid (fun W g h => run_str_rb W (some ⟨g, 0, none⟩) 32 32 xs (UBlk.rb h) (Lib.hid hxs.symm))
  have HGQxs := Lib.hid (fun op x y W => guard_bytes op xs xs x y W)
  have HQQxs := Lib.hid (fun W => eqin_bytes xs xs hxs hxs W)
  rw [beq_self_eq_true] at HQQxs
  unfold A32 at HGQxs HQQxs
  have HENxs : Hid (∀ (c : List Value) (W : World), dOk xs = true → PL c (decP xs) → Calls Tryd.prog 11 #[.agg c.toArray] W fun e w' => e = .returned (.agg (u8s xs).toArray) ∧ Below W.heap.size W w') := Lib.hid (fun c W hk h => by
    have := bytesP h W
    unfold BPost at this
    rwa [enc_dec hxs hk] at this)
  obtain ⟨uxs, huxs⟩ : ∃ q, u8s xs = q := ⟨_, rfl⟩
  rw [show (xs.map fun c => Value.int .u8 (c.toNat : Int)) = uxs from huxs]
  rw [huxs] at hszxs HRBxs HGQxs HQQxs HENxs
  simp only [huxs] at hdcxs
  rw [huxs] at HRS HA1 HA2 HMX
  have HDCxs := Lib.hid hdcxs
  have HRDxs := Lib.hid hrdxs
  clear huxs hdcxs hrdxs
  have hszys := size32' ys hys
  have hdcys : ∀ W, TabD W → Calls Tryd.prog 12 #[.agg (u8s ys).toArray] W (DPost ys W) := fun W h => decode_calls ys hys W h
  have hrdys := refDecode_calls ys hys
  have HRBys : Hid (∀ (W : World) (g : Nat), Blk W g 22 (u8s ys) → (convert 39 9 (.slice (some ⟨g, 0, none⟩) 32 32)).run Tryd.prog W = .ok (.string ⟨ys.toArray⟩) W) := Lib.hid (fun W g h => run_str_rb W (some ⟨g, 0, none⟩) 32 32 ys (UBlk.rb h) (Lib.hid hys.symm))
  have HGQys := Lib.hid (fun op x y W => guard_bytes op ys ys x y W)
  have HQQys := Lib.hid (fun W => eqin_bytes ys ys hys hys W)
  rw [beq_self_eq_true] at HQQys
  unfold A32 at HGQys HQQys
  have HENys : Hid (∀ (c : List Value) (W : World), dOk ys = true → PL c (decP ys) → Calls Tryd.prog 11 #[.agg c.toArray] W fun e w' => e = .returned (.agg (u8s ys).toArray) ∧ Below W.heap.size W w') := Lib.hid (fun c W hk h => by
    have := bytesP h W
    unfold BPost at this
    rwa [enc_dec hys hk] at this)
  obtain ⟨uys, huys⟩ : ∃ q, u8s ys = q := ⟨_, rfl⟩
  rw [show (ys.map fun c => Value.int .u8 (c.toNat : Int)) = uys from huys]
  rw [huys] at hszys HRBys HGQys HQQys HENys
  simp only [huys] at hdcys
  rw [huys] at HA1 HA2 HMY
  have HDCys := Lib.hid hdcys
  have HRDys := Lib.hid hrdys
  clear huys hdcys hrdys
  go_enter Tryd.func8, Tryd.ntmps8
  go_upto_region 1 with fail
  refine wp_gen (fun W => Blk W w.heap.size 22 uxs ∧ Blk W (w.heap.size + 1) 22 uys ∧ Below w.heap.size w W ∧ Tab4 W) ?_ ?_
  · obtain ⟨a0, a1, hb⟩ := alloc2 w uxs uys 22 22
    exact ⟨a0, a1, hb, hT.later hb⟩
  rintro W0 ⟨Bp2, Bp3, HB, HT⟩
  have Lp2 := Bp2.lt
  have Lp3 := Bp3.lt
  go_wp2_with fail
  refine (alive6_calls _ HT.1.2).mono ?_
  rintro e wz ⟨rfl, bz⟩
  replace Bp2 := Bp2.later bz
  replace Lp2 := Bp2.lt
  replace Bp3 := Bp3.later bz
  replace Lp3 := Bp3.lt
  replace HB := HB.then_ bz
  replace HT := HT.later bz
  clear bz
  go_upto_region 3 with fail
  go_wp2_with fail
  refine (base_calls _ HT.1.2).mono ?_
  rintro e WD3 ⟨_, rfl, ⟨c5, rfl, hc5⟩, bD⟩
  replace Bp2 := Bp2.later bD
  replace Lp2 := Bp2.lt
  replace Bp3 := Bp3.later bD
  replace Lp3 := Bp3.lt
  replace HB := HB.then_ bD
  replace HT := HT.later bD
  clear bD
  have hlc5 := hc5.len
  have hoc5 := hc5.one
  obtain ⟨T0, HL, N0⟩ := letS (W := WD3) (T := 28) (z := C20) (cs := c5) (by rw [hlc5]; rfl)
  have hS : (Tryd.prog.info? 28).map (·.size) = some c5.toArray.size := by rw [List.size_toArray, hlc5]; exact size20
  go_upto_region 4 with (refine wpList_store_mid rfl 28 _ _ rfl WD3.heap.size 0 c5.toArray rfl rfl T0 hS hoc5 ?_)
  obtain ⟨g5, eg⟩ : ∃ g, WD3.heap.size = g := ⟨_, rfl⟩
  rw [eg] at N0 ⊢
  have hE : Hid (WD3.heap.size = g5) := Lib.hid eg
  refine wp_gen (fun W => Blk W w.heap.size 22 uxs ∧ Blk W (w.heap.size + 1) 22 uys ∧ Blk W g5 28 c5 ∧ Below w.heap.size w W ∧ Tab4 W) ⟨Bp2.later (hE.out ▸ HL), Bp3.later (hE.out ▸ HL), N0, HB.then_ (hE.out ▸ HL), HT.later (hE.out ▸ HL)⟩ ?_
  clear T0 HL N0 eg hE hS
  clear Bp2 Bp3 Lp2 Lp3 HB HT
  rintro W1 ⟨Bp2, Bp3, Bn5, HB, HT⟩
  have Lp2 := Bp2.lt
  have Lp3 := Bp3.lt
  have Ln5 := Bn5.lt
  go_wp2_with fail
  apply wp_region_g 8 (by kernel_rfl) (by kernel_rfl)
  simp only [List.take_succ_cons, List.take_zero, List.drop_succ_cons, List.drop_zero]
  apply lg_load 28 (.tmp 5) rfl g5 0 c5 _ Bn5.rng Ln5 Tryd.underlying28 rfl hc5.size rfl rfl
  simp only [Act.put, List.setIfInBounds_toArray, List.set_cons_succ, List.set_cons_zero]
  apply lg_load 22 (.tmp 2) rfl w.heap.size 0 uxs _ Bp2.rng Lp2 Tryd.underlying22 rfl hszxs rfl rfl
  simp only [Act.put, List.setIfInBounds_toArray, List.set_cons_succ, List.set_cons_zero]
  apply lg_call_in (fun v => ∃ c, v = .agg c.toArray ∧ PL c (Pt.times (leN xs) baseP)) 22 #[.agg (c5).toArray, .agg uxs.toArray] rfl (by intro W; go_simp) (fun W hW => HMX.out _ _ hc5 W (HT.1.1.later hW))
  rintro _ ⟨v11, rfl, h11⟩
  simp only [Act.put, List.setIfInBounds_toArray, List.set_cons_succ, List.set_cons_zero]
  apply lg_load 28 (.tmp 5) rfl g5 0 c5 _ Bn5.rng Ln5 Tryd.underlying28 rfl hc5.size rfl rfl
  simp only [Act.put, List.setIfInBounds_toArray, List.set_cons_succ, List.set_cons_zero]
  apply lg_pure (.slice (some ⟨w.heap.size, 0, none⟩) 32 32) rfl (by intro W; go_simp)
  simp only [Act.put, List.setIfInBounds_toArray, List.set_cons_succ, List.set_cons_zero]
  apply lg_callx_in (.agg ur.toArray) 25 #[.slice (some ⟨w.heap.size, 0, none⟩) 32 32] rfl (by intro W; go_simp) (fun W hW => HRS.out W _ (Bp2.later hW) (Sc.Tab.later HT.2 hW))
  simp only [Act.put, List.setIfInBounds_toArray, List.set_cons_succ, List.set_cons_zero]
  apply lg_call_in (fun v => ∃ c, v = .agg c.toArray ∧ PL c (Pt.times (leN xs % LB) baseP)) 22 #[.agg (c5).toArray, .agg ur.toArray] rfl (by intro W; go_simp) (fun W hW => HMR.out _ _ hc5 W (HT.1.1.later hW))
  rintro _ ⟨v15, rfl, h15⟩
  simp only [Act.put, List.setIfInBounds_toArray, List.set_cons_succ, List.set_cons_zero]
  apply lg_callx (.bool true) 16 #[.agg (v11).toArray, .agg (v15).toArray] rfl (by intro W; go_simp) (fun W => (isP h11 h15 W).mono fun e W' ⟨b, h1, h2, h3⟩ => ⟨by rw [h1, h2.2 (base_rest _)], h3⟩)
  simp only [Act.put, List.setIfInBounds_toArray, List.set_cons_succ, List.set_cons_zero]
  refine lg_nil ?_
  intro WV hC
  refine wpList_gen (fun W => Blk W w.heap.size 22 uxs ∧ Blk W (w.heap.size + 1) 22 uys ∧ Blk W g5 28 c5 ∧ Below w.heap.size w W ∧ Tab4 W) ⟨Bp2.later hC.1, Bp3.later hC.1, Bn5.later hC.1, HB.then_ hC.1, HT.later hC.1⟩ ?_
  clear hC Bp2 Bp3 Bn5 Lp2 Lp3 Ln5 HB HT
  rintro W2 ⟨Bp2, Bp3, Bn5, HB, HT⟩
  have Lp2 := Bp2.lt
  have Lp3 := Bp3.lt
  have Ln5 := Bn5.lt
  go_upto_region 6 with fail
  go_wp2_with fail
  apply wp_region_g 28 (by kernel_rfl) (by kernel_rfl)
  simp only [List.take_succ_cons, List.take_zero, List.drop_succ_cons, List.drop_zero]
  apply lg_load 28 (.tmp 5) rfl g5 0 c5 _ Bn5.rng Ln5 Tryd.underlying28 rfl hc5.size rfl rfl
  simp only [Act.put, List.setIfInBounds_toArray, List.set_cons_succ, List.set_cons_zero]
  apply lg_load 22 (.tmp 2) rfl w.heap.size 0 uxs _ Bp2.rng Lp2 Tryd.underlying22 rfl hszxs rfl rfl
  simp only [Act.put, List.setIfInBounds_toArray, List.set_cons_succ, List.set_cons_zero]
  apply lg_call_in (fun v => ∃ c, v = .agg c.toArray ∧ PL c (Pt.times (leN xs) baseP)) 22 #[.agg (c5).toArray, .agg uxs.toArray] rfl (by intro W; go_simp) (fun W hW => HMX.out _ _ hc5 W (HT.1.1.later hW))
  rintro _ ⟨v20, rfl, h20⟩
  simp only [Act.put, List.setIfInBounds_toArray, List.set_cons_succ, List.set_cons_zero]
  apply lg_load 28 (.tmp 5) rfl g5 0 c5 _ Bn5.rng Ln5 Tryd.underlying28 rfl hc5.size rfl rfl
  simp only [Act.put, List.setIfInBounds_toArray, List.set_cons_succ, List.set_cons_zero]
  apply lg_load 22 (.tmp 3) rfl (w.heap.size + 1) 0 uys _ Bp3.rng Lp3 Tryd.underlying22 rfl hszys rfl rfl
  simp only [Act.put, List.setIfInBounds_toArray, List.set_cons_succ, List.set_cons_zero]
  apply lg_call_in (fun v => ∃ c, v = .agg c.toArray ∧ PL c (Pt.times (leN ys) baseP)) 22 #[.agg (c5).toArray, .agg uys.toArray] rfl (by intro W; go_simp) (fun W hW => HMY.out _ _ hc5 W (HT.1.1.later hW))
  rintro _ ⟨v23, rfl, h23⟩
  simp only [Act.put, List.setIfInBounds_toArray, List.set_cons_succ, List.set_cons_zero]
  apply lg_call_in (fun v => ∃ c, v = .agg c.toArray ∧ PL c ((Pt.times (leN xs) baseP).add (Pt.times (leN ys) baseP))) 18 #[.agg (v20).toArray, .agg (v23).toArray] rfl (by intro W; go_simp) (fun W hW => addP h20 h23 W (HT.1.1.later hW))
  rintro _ ⟨v24, rfl, h24⟩
  simp only [Act.put, List.setIfInBounds_toArray, List.set_cons_succ, List.set_cons_zero]
  apply lg_load 28 (.tmp 5) rfl g5 0 c5 _ Bn5.rng Ln5 Tryd.underlying28 rfl hc5.size rfl rfl
  simp only [Act.put, List.setIfInBounds_toArray, List.set_cons_succ, List.set_cons_zero]
  apply lg_load 22 (.tmp 2) rfl w.heap.size 0 uxs _ Bp2.rng Lp2 Tryd.underlying22 rfl hszxs rfl rfl
  simp only [Act.put, List.setIfInBounds_toArray, List.set_cons_succ, List.set_cons_zero]
  apply lg_pure (.agg u1.toArray) rfl (fun W => run_buildop (vs := #[(0, .int .u8 1)]) rfl (by first | rfl | go_simp) (B1.out W))
  simp only [Act.put, List.setIfInBounds_toArray, List.set_cons_succ, List.set_cons_zero]
  apply lg_load 22 (.tmp 3) rfl (w.heap.size + 1) 0 uys _ Bp3.rng Lp3 Tryd.underlying22 rfl hszys rfl rfl
  simp only [Act.put, List.setIfInBounds_toArray, List.set_cons_succ, List.set_cons_zero]
  apply lg_callx_in (.agg us1.toArray) 26 #[.agg uxs.toArray, .agg u1.toArray, .agg uys.toArray] rfl (by intro W; go_simp) (fun W hW => HA1.out W (Sc.Tab.later HT.2 hW))
  simp only [Act.put, List.setIfInBounds_toArray, List.set_cons_succ, List.set_cons_zero]
  apply lg_call_in (fun v => ∃ c, v = .agg c.toArray ∧ PL c (Pt.times s1 baseP)) 22 #[.agg (c5).toArray, .agg us1.toArray] rfl (by intro W; go_simp) (fun W hW => HM1.out _ _ hc5 W (HT.1.1.later hW))
  rintro _ ⟨v30, rfl, h30⟩
  simp only [Act.put, List.setIfInBounds_toArray, List.set_cons_succ, List.set_cons_zero]
  apply lg_callx (.bool true) 16 #[.agg (v24).toArray, .agg (v30).toArray] rfl (by intro W; go_simp) (fun W => (isP h24 h30 W).mono fun e W' ⟨b, h1, h2, h3⟩ => ⟨by rw [h1, h2.2 (by rw [← Pt.times_add, base_rest, HS1.out])], h3⟩)
  simp only [Act.put, List.setIfInBounds_toArray, List.set_cons_succ, List.set_cons_zero]
  apply lg_pure (.bool true) rfl (by intro W; go_simp)
  simp only [Act.put, List.setIfInBounds_toArray, List.set_cons_succ, List.set_cons_zero]
  apply lg_load 28 (.tmp 5) rfl g5 0 c5 _ Bn5.rng Ln5 Tryd.underlying28 rfl hc5.size rfl rfl
  simp only [Act.put, List.setIfInBounds_toArray, List.set_cons_succ, List.set_cons_zero]
  apply lg_load 22 (.tmp 2) rfl w.heap.size 0 uxs _ Bp2.rng Lp2 Tryd.underlying22 rfl hszxs rfl rfl
  simp only [Act.put, List.setIfInBounds_toArray, List.set_cons_succ, List.set_cons_zero]
  apply lg_call_in (fun v => ∃ c, v = .agg c.toArray ∧ PL c (Pt.times (leN xs) baseP)) 22 #[.agg (c5).toArray, .agg uxs.toArray] rfl (by intro W; go_simp) (fun W hW => HMX.out _ _ hc5 W (HT.1.1.later hW))
  rintro _ ⟨v35, rfl, h35⟩
  simp only [Act.put, List.setIfInBounds_toArray, List.set_cons_succ, List.set_cons_zero]
  apply lg_load 22 (.tmp 3) rfl (w.heap.size + 1) 0 uys _ Bp3.rng Lp3 Tryd.underlying22 rfl hszys rfl rfl
  simp only [Act.put, List.setIfInBounds_toArray, List.set_cons_succ, List.set_cons_zero]
  apply lg_call_in (fun v => ∃ c, v = .agg c.toArray ∧ PL c (Pt.times (leN ys) (Pt.times (leN xs) baseP))) 22 #[.agg (v35).toArray, .agg uys.toArray] rfl (by intro W; go_simp) (fun W hW => HMY.out _ _ h35 W (HT.1.1.later hW))
  rintro _ ⟨v37, rfl, h37⟩
  simp only [Act.put, List.setIfInBounds_toArray, List.set_cons_succ, List.set_cons_zero]
  apply lg_load 28 (.tmp 5) rfl g5 0 c5 _ Bn5.rng Ln5 Tryd.underlying28 rfl hc5.size rfl rfl
  simp only [Act.put, List.setIfInBounds_toArray, List.set_cons_succ, List.set_cons_zero]
  apply lg_load 22 (.tmp 2) rfl w.heap.size 0 uxs _ Bp2.rng Lp2 Tryd.underlying22 rfl hszxs rfl rfl
  simp only [Act.put, List.setIfInBounds_toArray, List.set_cons_succ, List.set_cons_zero]
  apply lg_load 22 (.tmp 3) rfl (w.heap.size + 1) 0 uys _ Bp3.rng Lp3 Tryd.underlying22 rfl hszys rfl rfl
  simp only [Act.put, List.setIfInBounds_toArray, List.set_cons_succ, List.set_cons_zero]
  apply lg_pure (.agg u0.toArray) rfl (fun W => run_buildop (vs := #[]) rfl (by first | rfl | go_simp) (B0.out W))
  simp only [Act.put, List.setIfInBounds_toArray, List.set_cons_succ, List.set_cons_zero]
  apply lg_callx_in (.agg us2.toArray) 26 #[.agg uxs.toArray, .agg uys.toArray, .agg u0.toArray] rfl (by intro W; go_simp) (fun W hW => HA2.out W (Sc.Tab.later HT.2 hW))
  simp only [Act.put, List.setIfInBounds_toArray, List.set_cons_succ, List.set_cons_zero]
  apply lg_call_in (fun v => ∃ c, v = .agg c.toArray ∧ PL c (Pt.times s2 baseP)) 22 #[.agg (c5).toArray, .agg us2.toArray] rfl (by intro W; go_simp) (fun W hW => HM2.out _ _ hc5 W (HT.1.1.later hW))
  rintro _ ⟨v43, rfl, h43⟩
  simp only [Act.put, List.setIfInBounds_toArray, List.set_cons_succ, List.set_cons_zero]
  apply lg_callx (.bool true) 16 #[.agg (v37).toArray, .agg (v43).toArray] rfl (by intro W; go_simp) (fun W => (isP h37 h43 W).mono fun e W' ⟨b, h1, h2, h3⟩ => ⟨by rw [h1, h2.2 (by rw [← Pt.times_mul, base_rest, HS2.out])], h3⟩)
  simp only [Act.put, List.setIfInBounds_toArray, List.set_cons_succ, List.set_cons_zero]
  apply lg_pure (.bool true) rfl (by intro W; go_simp)
  simp only [Act.put, List.setIfInBounds_toArray, List.set_cons_succ, List.set_cons_zero]
  refine lg_nil ?_
  intro WY hC
  have HL := Lib.hid (HB.then_ hC.1)
  clear hC
  go_wp2_with fail
  go_ret
  exact ⟨rfl, HL.out⟩
end Go.Proofs.YtoligamlafgaoaaDoor
