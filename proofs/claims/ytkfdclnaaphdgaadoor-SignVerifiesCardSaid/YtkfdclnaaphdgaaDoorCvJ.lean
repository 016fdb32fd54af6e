/- Layer 6: Decode of the program, walked. -/
import Derived.Test.YtkfdclnaaphdgaaDoorCvH
import Derived.Test.YtkfdclnaaphdgaaDoorLx
namespace Go.Proofs.YtkfdclnaaphdgaaDoor
open Go.ChangeShapes Go.WideShapes Go.ChangeAt Go.RowKit Go.IntWalk
set_option linter.unusedVariables false

theorem and_top : ∀ x : Fin 256, bits .and .u8 (x.val : Int) 127 = ((x.val % 128 : Nat) : Int) := by decide +kernel
theorem top_cell {bs : List UInt8} (hl : bs.length = 32) : (u8s bs)[31]? = some (.int .u8 (tpN bs : Int)) := by
  unfold u8s tpN
  rw [List.getElem?_map, List.getElem?_eq_getElem (show 31 < bs.length by omega)]
  simp [List.getD, List.getElem?_eq_getElem (show 31 < bs.length by omega)]
theorem build0p (w : World) : (Instr.build 42 #[]).run Tryd.prog w = .ok (.agg C20.toArray) w := run_build w _ _ _ (by kernel_rfl)
theorem froot_calls {cx : List Value} {x : F} (hx : E cx x) (w : World) : Calls Tryd.prog 61 #[.agg cx.toArray] w fun e w' => ∃ v, e = .returned v ∧ (∃ c, v = .tuple #[.agg c.toArray, .bool (rootOk x.val)] ∧ E c (fo (if rootOk x.val = true then rootV x.val else 0))) ∧ Below w.heap.size w w' :=
  (root_calls _ _ hx w).mono fun e w' h => by
    obtain ⟨u, h1, h2, h3⟩ := h
    obtain ⟨c, rfl, hc⟩ := EV.of (a := fo (if rootOk x.val = true then rootV x.val else 0)) h2 (fo_val _).symm
    exact ⟨_, h1, ⟨c, rfl, hc⟩, h3⟩
/-- Two answers: what lies in a block, and what stands in a slot. -/
theorem res_two {fn : Func} {p q : Tmp} {ty : TypeId} (h : fn.results = #[.cell p ty, .tmp q]) (tmps : Array Value) (a : Addr) (v u : Value) (W : World) (hp : tmps.getD p undef = .pointer (some a)) (hq : tmps.getD q undef = u) (hld : (loadVar ty a).run Tryd.prog W = .ok v W) :
    (results fn tmps).run Tryd.prog W = .ok (.tuple #[v, u]) W := by
  simp only [results, h]
  simp only [Array.getD_eq_getD_getElem?] at hp hq
  simp [hp, hq, asAddr, hld]
theorem C20_one : C20.toArray.all (·.oneCell') = true := all_oneCell_toArray (by intro v hv; unfold C20 at hv; simp at hv; subst hv; rfl)
def DPost (bs : List UInt8) (w : World) (e : Ending) (w' : World) : Prop :=
  ∃ c, e = .returned (.tuple #[.agg c.toArray, .bool (dOk bs)]) ∧ c.length = 20 ∧ c.toArray.all (·.oneCell') = true ∧ (dOk bs = true → PL c (decP bs)) ∧ Below w.heap.size w w'
set_option maxRecDepth 100000 in
set_option maxHeartbeats 8000000 in
theorem decode_calls (bs : List UInt8) (hl : bs.length = 32) (w : World) (hT : TabD w) : Calls Tryd.prog 28 #[A32 bs] w (DPost bs w) := by
  have HTC := top_cell hl
  have ht := top_lt256 bs
  obtain ⟨t, htt⟩ : ∃ t, tpN bs = t := ⟨_, rfl⟩
  have HLOW : Hid ((u8s bs).set 31 (.int .u8 ((t % 128 : Nat) : Int)) = u8s (lwB bs)) := Lib.hid (by
    unfold lwB
    rw [← u8s_set, htt]
    congr 2
    simp; omega)
  rw [htt] at HTC ht
  have HLL : Hid ((lwB bs).length = 32) := Lib.hid ((low_len bs).trans hl)
  unfold A32
  have hlen : (u8s bs).length = 32 := by rw [u8s_len, hl]
  obtain ⟨us, hus⟩ : ∃ q, u8s bs = q := ⟨_, rfl⟩
  rw [hus] at HTC HLOW hlen ⊢
  clear hus
  go_enter Tryd.func28, Tryd.ntmps28
  go_upto_region 1 with fail
  refine wp_gen (fun W => Blk W w.heap.size 22 us ∧ Blk W (w.heap.size + 1) 42 C20 ∧ Below w.heap.size w W) (alloc2 w us C20 _ _) ?_
  rintro W0 ⟨Bp1, Bp2, HB⟩
  have hc := Bp1.cell HTC
  have hf := Bp1.frozen 31
  have hand := and_top ⟨t, ht⟩
  simp only at hand
  have Bs := Bp1.set_ 31 (.int .u8 ((t % 128 : Nat) : Int))
  rw [HLOW.out] at Bs
  have Br := Bp2.other (g2 := w.heap.size) (k := 31) (by omega) (.int .u8 ((t % 128 : Nat) : Int))
  have HBs := HB.setCell (p := ⟨w.heap.size, 31, none⟩) (Nat.le_refl _) (.int .u8 ((t % 128 : Nat) : Int))
  obtain ⟨z, hz⟩ : ∃ z : Int, ((t % 128 : Nat) : Int) = z := ⟨_, rfl⟩
  rw [hz] at hand Bs Br HBs
  clear hz Bp1 Bp2 HB
  obtain ⟨od, hod⟩ : ∃ b, dOdd bs = b := ⟨_, rfl⟩
  have hq : ((t : Int) / 128 == 1) = od := by
    rw [← hod]
    unfold dOdd
    rw [htt, Bool.eq_iff_iff]
    simp
    omega
  clear HTC htt
  go_upto_region 3 with fail
  refine wp_gen (fun W => Blk W w.heap.size 22 (u8s (lwB bs)) ∧ Blk W (w.heap.size + 1) 42 C20 ∧ Below w.heap.size w W) ⟨Bs, Br, HBs⟩ ?_
  clear Bs Br HBs hand hc hf hq HLOW hlen ht
  rintro W1 ⟨Bp1, Bp2, HB⟩
  have hof : ∀ W, Calls Tryd.prog 39 #[.agg (u8s (lwB bs)).toArray] W (FPost (dY bs) W) := fun W => fof_calls (lwB bs) HLL.out W
  have hsl := size32' (lwB bs) HLL.out
  have gq := fun x y W => guard_bytes .neq (leB 32 (dY bs).val) (lwB bs) x y W
  have qq := fun W => neq_bytes (leB 32 (dY bs).val) (lwB bs) (leB_len _ _) HLL.out W
  have hcmp : (!(leB 32 (dY bs).val == lwB bs)) = !(decide (leN (lwB bs) < P)) := by
    have hb := leB_back (lwB bs)
    rw [HLL.out] at hb
    have hv : (dY bs).val = leN (lwB bs) % P := fo_val _
    by_cases h : leN (lwB bs) < P
    · rw [hv, Nat.mod_eq_of_lt h, hb, decide_eq_true h]; simp
    · rw [decide_eq_false h]
      have : (leB 32 (dY bs).val == lwB bs) = false := by
        rw [beq_eq_false_iff_ne]
        intro e
        have e2 := congrArg leN e
        rw [leN_leB, Nat.mod_eq_of_lt (Nat.lt_trans (dY bs).isLt (by decide +kernel)), hv] at e2
        exact h (by rw [← e2]; exact Nat.mod_lt _ (by decide +kernel))
      rw [this]
  rw [hcmp] at qq
  have hbY : ∀ {c : List Value} (h : E c (dY bs)) W, Calls Tryd.prog 46 #[.agg c.toArray] W fun e w' => e = .returned (.agg (u8s (leB 32 (dY bs).val)).toArray) ∧ Below W.heap.size W w' := fun h W => fbytes_calls h W
  unfold A32 at gq qq
  obtain ⟨ls, hls⟩ : ∃ q, u8s (lwB bs) = q := ⟨_, rfl⟩
  obtain ⟨ys, hys⟩ : ∃ q, u8s (leB 32 (dY bs).val) = q := ⟨_, rfl⟩
  rw [hls] at Bp1 hof hsl gq qq
  simp only [hys] at hbY
  rw [hys] at gq qq
  clear hls hys hcmp
  have HT := hT.later HB
  have HOF := Lib.hid hof
  have HBY := Lib.hid (fun (c : List Value) (h : E c (dY bs)) W => hbY h W)
  clear hof hbY
  -- y
  go_wp2_with (refine wpList_load_mid rfl 22 _ rfl w.heap.size 0 rfl ls _ Bp1.rng Tryd.underlying22 rfl hsl ?_)
  refine (HOF.out _).mono ?_
  rintro e W2 ⟨_, rfl, ⟨v5, rfl, h5⟩, HX⟩
  replace Bp1 := Bp1.later HX
  replace Bp2 := Bp2.later HX
  replace HB := HB.then_ HX
  replace HT := HT.later HX
  clear HX
  obtain ⟨T0, HL, N0⟩ := letS (W := W2) (T := 40) (z := C5) (cs := v5) (by first | (rw [h5.len]; rfl) | rfl)
  go_upto_region 4 with (refine wpList_store_mid rfl 40 _ _ rfl W2.heap.size 0 v5.toArray rfl rfl T0 h5.sizeA h5.one ?_)
  obtain ⟨g5, eg⟩ : ∃ g, W2.heap.size = g := ⟨_, rfl⟩
  rw [eg] at N0 ⊢
  refine wp_gen (fun W => Blk W w.heap.size 22 ls ∧ Blk W (w.heap.size + 1) 42 C20 ∧ Blk W g5 40 v5 ∧ Below w.heap.size w W ∧ TabD W) ⟨Bp1.later (eg ▸ HL), Bp2.later (eg ▸ HL), N0, HB.then_ (eg ▸ HL), HT.later (eg ▸ HL)⟩ ?_
  clear T0 HL N0 eg Bp1 Bp2 HB HT HOF
  rintro W3 ⟨Bp1, Bp2, Bn5, HB, HT⟩
  have Lp1 := Bp1.lt
  have Ln5 := Bn5.lt
  by_cases hP : leN (lwB bs) < P
  · rw [decide_eq_true hP] at qq
    go_wp2_with fail
    apply wp_region_g 3 (by kernel_rfl) (by kernel_rfl)
    simp only [List.take_succ_cons, List.take_zero, List.drop_succ_cons, List.drop_zero]
    apply lg_e (.tmp 5) h5 Bn5.rng Ln5 rfl rfl rfl
    simp only [Act.put, List.setIfInBounds_toArray, List.set_cons_succ, List.set_cons_zero]
    apply lg_callx (.agg ys.toArray) 46 #[.agg v5.toArray] rfl (by intro W; go_simp) (fun W => HBY.out v5 h5 W)
    simp only [Act.put, List.setIfInBounds_toArray, List.set_cons_succ, List.set_cons_zero]
    apply lg_load 22 (.tmp 1) rfl w.heap.size 0 ls _ Bp1.rng Lp1 Tryd.underlying22 rfl hsl rfl rfl
    simp only [Act.put, List.setIfInBounds_toArray, List.set_cons_succ, List.set_cons_zero]
    refine lg_nil ?_
    intro WY hC
    refine wpList_gen (fun W => Blk W w.heap.size 22 ls ∧ Blk W (w.heap.size + 1) 42 C20 ∧ Blk W g5 40 v5 ∧ Below w.heap.size w W ∧ TabD W) ⟨Bp1.later hC.1, Bp2.later hC.1, Bn5.later hC.1, HB.then_ hC.1, HT.later hC.1⟩ ?_
    clear hC Bp1 Bp2 Bn5 HB HT Lp1 Ln5
    rintro W4 ⟨Bp1, Bp2, Bn5, HB, HT⟩
    go_wp2_with fail
    clear gq qq HBY
    have Lp1 := Bp1.lt
    have Lp2 := Bp2.lt
    have Ln5 := Bn5.lt
    go_wp2_with fail
    apply wp_region_g 6 (by kernel_rfl) (by kernel_rfl)
    simp only [List.take_succ_cons, List.take_zero, List.drop_succ_cons, List.drop_zero]
    apply lg_f (1) 58 #[.int .u32 1] rfl (by intro W; go_simp) (fun W => fsmall_calls 1 (by decide) 1 one_val.symm W)
    rintro _ ⟨v26, rfl, h26⟩
    simp only [Act.put, List.setIfInBounds_toArray, List.set_cons_succ, List.set_cons_zero]
    apply lg_e (.tmp 5) h5 Bn5.rng Ln5 rfl rfl rfl
    simp only [Act.put, List.setIfInBounds_toArray, List.set_cons_succ, List.set_cons_zero]
    apply lg_e (.tmp 5) h5 Bn5.rng Ln5 rfl rfl rfl
    simp only [Act.put, List.setIfInBounds_toArray, List.set_cons_succ, List.set_cons_zero]
    apply lg_f ((dY bs) * (dY bs)) 45 #[.agg v5.toArray, .agg v5.toArray] rfl (by intro W; go_simp) (fun W => fmul_calls h5 h5 W)
    rintro _ ⟨v29, rfl, h29⟩
    simp only [Act.put, List.setIfInBounds_toArray, List.set_cons_succ, List.set_cons_zero]
    apply lg_alloc (.cells C5.toArray 40) (.cells C5.toArray 40) rfl (by intro W; go_simp; rfl) (fun W => heap_alloc_new W _)
    intro g6 eg6
    simp only [Act.put, List.setIfInBounds_toArray, List.set_cons_succ, List.set_cons_zero]
    apply lg_alloc (.cells C5.toArray 40) (.cells C5.toArray 40) rfl (by intro W; go_simp; rfl) (fun W => heap_alloc_new W _)
    intro g7 eg7
    simp only [Act.put, List.setIfInBounds_toArray, List.set_cons_succ, List.set_cons_zero]
    refine lg_nil ?_
    intro WY11 hC
    obtain ⟨T0, T1, HL, N6, N7, G6, G7⟩ := let2 (z := C5) (y := C5) (cs := v26) (ds := v29) hC eg7 (by first | (rw [h26.len]; rfl) | rfl) (by first | (rw [h29.len]; rfl) | rfl)
    refine wpList_store_mid rfl 40 _ _ rfl g6 0 v26.toArray rfl rfl T0 h26.sizeA h26.one ?_
    refine wpList_store_mid rfl 40 _ _ rfl g7 0 v29.toArray rfl rfl T1 h29.sizeA h29.one ?_
    simp only [Act.put]
    refine wpList_gen (fun W => Blk W w.heap.size 22 ls ∧ Blk W (w.heap.size + 1) 42 C20 ∧ Blk W g5 40 v5 ∧ Blk W g6 40 v26 ∧ Blk W g7 40 v29 ∧ Below w.heap.size w W ∧ TabD W) ⟨Bp1.later HL, Bp2.later HL, Bn5.later HL, N6, N7, HB.then_ HL, HT.later HL⟩ ?_
    clear hC T0 T1 HL N6 N7 eg6 eg7
    clear Bp1 Bp2 Bn5 Lp1 Lp2 Ln5 HB HT
    rintro W11 ⟨Bp1, Bp2, Bn5, Bn6, Bn7, HB, HT⟩
    have Lp1 := Bp1.lt
    have Lp2 := Bp2.lt
    have Ln5 := Bn5.lt
    have Ln6 := Bn6.lt
    have Ln7 := Bn7.lt
    go_wp2_with fail
    apply wp_region_g 7 (by kernel_rfl) (by kernel_rfl)
    simp only [List.take_succ_cons, List.take_zero, List.drop_succ_cons, List.drop_zero]
    apply lg_e (.tmp 7) h29 Bn7.rng Ln7 rfl rfl rfl
    simp only [Act.put, List.setIfInBounds_toArray, List.set_cons_succ, List.set_cons_zero]
    apply lg_load 22 (.global 3) rfl 3 0 (u8s dB) _ HT.1 HT.2 Tryd.underlying22 rfl (size32' dB rfl) rfl rfl
    simp only [Act.put, List.setIfInBounds_toArray, List.set_cons_succ, List.set_cons_zero]
    apply lg_f (dF) 39 #[.agg (u8s dB).toArray] rfl (by intro W; go_simp) (fun W => dB_of W)
    rintro _ ⟨v32, rfl, h32⟩
    simp only [Act.put, List.setIfInBounds_toArray, List.set_cons_succ, List.set_cons_zero]
    apply lg_f (((dY bs) * (dY bs)) * dF) 45 #[.agg v29.toArray, .agg v32.toArray] rfl (by intro W; go_simp) (fun W => fmul_calls h29 h32 W)
    rintro _ ⟨v33, rfl, h33⟩
    simp only [Act.put, List.setIfInBounds_toArray, List.set_cons_succ, List.set_cons_zero]
    apply lg_e (.tmp 6) h26 Bn6.rng Ln6 rfl rfl rfl
    simp only [Act.put, List.setIfInBounds_toArray, List.set_cons_succ, List.set_cons_zero]
    apply lg_f ((((dY bs) * (dY bs)) * dF) + 1) 59 #[.agg v33.toArray, .agg v26.toArray] rfl (by intro W; go_simp) (fun W => fadd_calls h33 h26 W)
    rintro _ ⟨v35, rfl, h35⟩
    simp only [Act.put, List.setIfInBounds_toArray, List.set_cons_succ, List.set_cons_zero]
    apply lg_alloc (.cells C5.toArray 40) (.cells C5.toArray 40) rfl (by intro W; go_simp; rfl) (fun W => heap_alloc_new W _)
    intro g8 eg8
    simp only [Act.put, List.setIfInBounds_toArray, List.set_cons_succ, List.set_cons_zero]
    refine lg_nil ?_
    intro WY12 hC
    obtain ⟨T0, HL, N8, G8⟩ := let1 (z := C5) (cs := v35) hC  (by first | (rw [h35.len]; rfl) | rfl)
    refine wpList_store_mid rfl 40 _ _ rfl g8 0 v35.toArray rfl rfl T0 h35.sizeA h35.one ?_
    simp only [Act.put]
    refine wpList_gen (fun W => Blk W w.heap.size 22 ls ∧ Blk W (w.heap.size + 1) 42 C20 ∧ Blk W g5 40 v5 ∧ Blk W g6 40 v26 ∧ Blk W g7 40 v29 ∧ Blk W g8 40 v35 ∧ Below w.heap.size w W ∧ TabD W) ⟨Bp1.later HL, Bp2.later HL, Bn5.later HL, Bn6.later HL, Bn7.later HL, N8, HB.then_ HL, HT.later HL⟩ ?_
    clear hC T0 HL N8 eg8
    clear Bp1 Bp2 Bn5 Bn6 Bn7 Lp1 Lp2 Ln5 Ln6 Ln7 HB HT
    rintro W12 ⟨Bp1, Bp2, Bn5, Bn6, Bn7, Bn8, HB, HT⟩
    have Lp1 := Bp1.lt
    have Lp2 := Bp2.lt
    have Ln5 := Bn5.lt
    have Ln6 := Bn6.lt
    have Ln7 := Bn7.lt
    have Ln8 := Bn8.lt
    obtain ⟨ok, hokr⟩ : ∃ b, rootOk (dA bs).val = b := ⟨_, rfl⟩
    have hrt : ∀ (c : List Value) (h : E c ((dY bs * dY bs - 1) * fi (dY bs * dY bs * dF + 1))) W, Calls Tryd.prog 61 #[.agg c.toArray] W fun e w' => ∃ v, e = .returned v ∧ (∃ c, v = .tuple #[.agg c.toArray, .bool ok] ∧ E c (dR bs)) ∧ Below W.heap.size W w' := fun c h W => by rw [← hokr]; exact froot_calls (x := dA bs) h W
    have HRT := Lib.hid hrt
    clear hrt
    go_wp2_with fail
    apply wp_region_gl 9 11 11 (by kernel_rfl) (fun _ _ _ _ h => h) (by kernel_rfl) (by kernel_rfl)
    simp only [addEdge, edgeO, List.modify_succ_cons, List.modify_zero_cons, List.push_toArray, List.cons_append, List.nil_append, List.take_succ_cons, List.take_zero, List.drop_succ_cons, List.drop_zero]
    apply lg_e (.tmp 7) h29 Bn7.rng Ln7 rfl rfl rfl
    simp only [Act.put, List.setIfInBounds_toArray, List.set_cons_succ, List.set_cons_zero]
    apply lg_e (.tmp 6) h26 Bn6.rng Ln6 rfl rfl rfl
    simp only [Act.put, List.setIfInBounds_toArray, List.set_cons_succ, List.set_cons_zero]
    apply lg_f (((dY bs) * (dY bs)) - 1) 60 #[.agg v29.toArray, .agg v26.toArray] rfl (by intro W; go_simp) (fun W => fsub_calls h29 h26 W)
    rintro _ ⟨v39, rfl, h39⟩
    simp only [Act.put, List.setIfInBounds_toArray, List.set_cons_succ, List.set_cons_zero]
    apply lg_e (.tmp 8) h35 Bn8.rng Ln8 rfl rfl rfl
    simp only [Act.put, List.setIfInBounds_toArray, List.set_cons_succ, List.set_cons_zero]
    apply lg_f (fi ((((dY bs) * (dY bs)) * dF) + 1)) 44 #[.agg v35.toArray] rfl (by intro W; go_simp) (fun W => finv_calls h35 W)
    rintro _ ⟨v41, rfl, h41⟩
    simp only [Act.put, List.setIfInBounds_toArray, List.set_cons_succ, List.set_cons_zero]
    apply lg_f ((((dY bs) * (dY bs)) - 1) * (fi ((((dY bs) * (dY bs)) * dF) + 1))) 45 #[.agg v39.toArray, .agg v41.toArray] rfl (by intro W; go_simp) (fun W => fmul_calls h39 h41 W)
    rintro _ ⟨v42, rfl, h42⟩
    simp only [Act.put, List.setIfInBounds_toArray, List.set_cons_succ, List.set_cons_zero]
    apply lg_call_in (fun v => ∃ c, v = .tuple #[.agg c.toArray, .bool ok] ∧ E c (dR bs)) 61 #[.agg v42.toArray] rfl (by intro W; go_simp) (fun W hW => HRT.out v42 h42 W)
    rintro _ ⟨v43, rfl, h43⟩
    simp only [Act.put, List.setIfInBounds_toArray, List.set_cons_succ, List.set_cons_zero]
    apply lg_rv (fun v => ∃ c, v = .tuple #[.agg c.toArray, .bool ok] ∧ E c (dR bs)) (.tuple #[.agg v43.toArray, .bool ok]) ⟨_, rfl, h43⟩ rfl (by intro W; go_simp)
    rintro _ ⟨v36, rfl, h36⟩
    simp only [Act.put, List.setIfInBounds_toArray, List.set_cons_succ, List.set_cons_zero]
    apply lg_rv (fun v => EV v (dR bs)) (.agg v36.toArray) ⟨_, rfl, h36⟩ rfl (by intro W; go_simp)
    rintro _ ⟨v44, rfl, h44⟩
    simp only [Act.put, List.setIfInBounds_toArray, List.set_cons_succ, List.set_cons_zero]
    apply lg_pure (.bool ok) rfl (by intro W; go_simp)
    simp only [Act.put, List.setIfInBounds_toArray, List.set_cons_succ, List.set_cons_zero]
    apply lg_alloc (.cells C5.toArray 40) (.cells C5.toArray 40) rfl (by intro W; go_simp; rfl) (fun W => heap_alloc_new W _)
    intro g9 eg9
    simp only [Act.put, List.setIfInBounds_toArray, List.set_cons_succ, List.set_cons_zero]
    refine lg_nil ?_
    intro WY13 hC
    obtain ⟨T0, HL, N9, G9⟩ := let1 (z := C5) (cs := v44) hC  (by first | (rw [h44.len]; rfl) | rfl)
    have D9p1 := Nat.lt_of_lt_of_le Lp1 G9
    have D9p2 := Nat.lt_of_lt_of_le Lp2 G9
    have D9n5 := Nat.lt_of_lt_of_le Ln5 G9
    have D9n6 := Nat.lt_of_lt_of_le Ln6 G9
    have D9n7 := Nat.lt_of_lt_of_le Ln7 G9
    have D9n8 := Nat.lt_of_lt_of_le Ln8 G9
    refine wpList_store_mid rfl 40 _ _ rfl g9 0 v44.toArray rfl rfl T0 h44.sizeA h44.one ?_
    simp only [Act.put]
    refine wpList_gen (fun W => Blk W w.heap.size 22 ls ∧ Blk W (w.heap.size + 1) 42 C20 ∧ Blk W g5 40 v5 ∧ Blk W g6 40 v26 ∧ Blk W g7 40 v29 ∧ Blk W g8 40 v35 ∧ Blk W g9 40 v44 ∧ Below w.heap.size w W ∧ TabD W) ⟨Bp1.later HL, Bp2.later HL, Bn5.later HL, Bn6.later HL, Bn7.later HL, Bn8.later HL, N9, HB.then_ HL, HT.later HL⟩ ?_
    clear hC T0 HL N9 eg9
    clear Bp1 Bp2 Bn5 Bn6 Bn7 Bn8 Lp1 Lp2 Ln5 Ln6 Ln7 Ln8 HB HT
    rintro W13 ⟨Bp1, Bp2, Bn5, Bn6, Bn7, Bn8, Bn9, HB, HT⟩
    have Lp1 := Bp1.lt
    have Lp2 := Bp2.lt
    have Ln5 := Bn5.lt
    have Ln6 := Bn6.lt
    have Ln7 := Bn7.lt
    have Ln8 := Bn8.lt
    have Ln9 := Bn9.lt
    clear HRT
    replace Bn6 := Bn6
    have hne59 : g9 ≠ g5 := by omega
    have hg9 : w.heap.size + 1 < g9 := by omega
    cases ok with
    | false =>
      go_wp2_with fail
      apply wp_region_g 9 (by kernel_rfl) (by kernel_rfl)
      simp only [List.take_succ_cons, List.take_zero, List.drop_succ_cons, List.drop_zero]
      apply lg_pure (.bool false) rfl (by intro W; go_simp)
      simp only [Act.put, List.setIfInBounds_toArray, List.set_cons_succ, List.set_cons_zero]
      apply lg_pure (.bool true) rfl (by intro W; go_simp)
      simp only [Act.put, List.setIfInBounds_toArray, List.set_cons_succ, List.set_cons_zero]
      apply lg_pure (.bool true) rfl (by intro W; go_simp)
      simp only [Act.put, List.setIfInBounds_toArray, List.set_cons_succ, List.set_cons_zero]
      apply lg_skip rfl
      simp only [Act.put, List.setIfInBounds_toArray, List.set_cons_succ, List.set_cons_zero]
      apply lg_skip rfl
      simp only [Act.put, List.setIfInBounds_toArray, List.set_cons_succ, List.set_cons_zero]
      apply lg_skip rfl
      simp only [Act.put, List.setIfInBounds_toArray, List.set_cons_succ, List.set_cons_zero]
      apply lg_skip rfl
      simp only [Act.put, List.setIfInBounds_toArray, List.set_cons_succ, List.set_cons_zero]
      apply lg_skip rfl
      simp only [Act.put, List.setIfInBounds_toArray, List.set_cons_succ, List.set_cons_zero]
      apply lg_skip rfl
      simp only [Act.put, List.setIfInBounds_toArray, List.set_cons_succ, List.set_cons_zero]
      refine lg_nil ?_
      intro WZ hC
      refine wpList_gen (fun W => Blk W (w.heap.size + 1) 42 C20 ∧ Blk W g5 40 v5 ∧ Blk W g9 40 v44 ∧ Below w.heap.size w W) ⟨Bp2.later hC.1, Bn5.later hC.1, Bn9.later hC.1, HB.then_ hC.1⟩ ?_
      clear hC Bp1 Bp2 Bn5 Bn6 Bn7 Bn8 Bn9 HB HT Lp1 Lp2 Ln5 Ln6 Ln7 Ln8 Ln9
      rintro WQ ⟨Bp2, Bn5, Bn9, HB⟩
      have hok : dOk bs = false := by unfold dOk; rw [hokr, Bool.false_and, Bool.and_false]
      obtain ⟨T0, HL, N0⟩ := ansB (cs := C20) Bp2 HB (by omega) (Below.refl _ _) rfl
      have T0 := Lib.hid T0
      have HL := Lib.hid HL
      have N0 := Lib.hid N0
      have hb0 := build0p
      clear Bp2 Bn5 Bn9 HB
      go_wp2_with (first | (refine wpList_buildop (vs := #[]) rfl rfl (by first | rfl | go_simp) (build0p _) ?_) | (refine wpList_store_mid rfl 42 _ _ rfl (w.heap.size + 1) 0 C20.toArray rfl rfl T0.out size20 C20_one ?_))
      exact bodyPost_ret (v := .tuple #[.agg C20.toArray, .bool false]) (res_two rfl _ _ _ _ _ rfl rfl (N0.out.load 42 Tryd.underlying42 rfl size20)) rfl ⟨C20, by rw [hok], rfl, C20_one, fun h => absurd (hok.symm.trans h) (by decide), HL.out⟩
    | true =>
      cases od with
      | false =>
        have hdok : dOk bs = true := by unfold dOk; rw [hokr, hod, decide_eq_true hP]; rfl
        have hdx : dR bs = dX bs := by unfold dX; rw [hod, if_neg (by decide)]
        go_wp2_with fail
        apply wp_region_g 9 (by kernel_rfl) (by kernel_rfl)
        simp only [List.take_succ_cons, List.take_zero, List.drop_succ_cons, List.drop_zero]
        apply lg_pure (.bool true) rfl (by intro W; go_simp)
        simp only [Act.put, List.setIfInBounds_toArray, List.set_cons_succ, List.set_cons_zero]
        apply lg_pure (.bool false) rfl (by intro W; go_simp)
        simp only [Act.put, List.setIfInBounds_toArray, List.set_cons_succ, List.set_cons_zero]
        apply lg_pure (.bool false) rfl (by intro W; go_simp)
        simp only [Act.put, List.setIfInBounds_toArray, List.set_cons_succ, List.set_cons_zero]
        apply lg_pure (.bool false) rfl (by intro W; go_simp)
        simp only [Act.put, List.setIfInBounds_toArray, List.set_cons_succ, List.set_cons_zero]
        apply lg_pure (.bool false) rfl (by intro W; go_simp)
        simp only [Act.put, List.setIfInBounds_toArray, List.set_cons_succ, List.set_cons_zero]
        apply lg_skip rfl
        simp only [Act.put, List.setIfInBounds_toArray, List.set_cons_succ, List.set_cons_zero]
        apply lg_skip rfl
        simp only [Act.put, List.setIfInBounds_toArray, List.set_cons_succ, List.set_cons_zero]
        apply lg_skip rfl
        simp only [Act.put, List.setIfInBounds_toArray, List.set_cons_succ, List.set_cons_zero]
        apply lg_pure (.bool false) rfl (by intro W; go_simp)
        simp only [Act.put, List.setIfInBounds_toArray, List.set_cons_succ, List.set_cons_zero]
        refine lg_nil ?_
        intro WZ hC
        refine wpList_gen (fun W => Blk W (w.heap.size + 1) 42 C20 ∧ Blk W g5 40 v5 ∧ Blk W g9 40 v44 ∧ Below w.heap.size w W) ⟨Bp2.later hC.1, Bn5.later hC.1, Bn9.later hC.1, HB.then_ hC.1⟩ ?_
        clear hC Bp1 Bp2 Bn5 Bn6 Bn7 Bn8 Bn9 HB HT Lp1 Lp2 Ln5 Ln6 Ln7 Ln8 Ln9
        rintro WQ ⟨Bp2, Bn5, Bn9, HB⟩
        go_upto_region 13 with fail
        have Ln5 := Bn5.lt
        have Ln9 := Bn9.lt
        go_wp2_with (first
          | (refine wpList_load_mid rfl 40 _ rfl g9 0 rfl v44 _ Bn9.rng Tryd.underlying40 rfl h44.size ?_)
          | (refine wpList_load_mid rfl 40 _ rfl g5 0 rfl v5 _ Bn5.rng Tryd.underlying40 rfl h5.size ?_))
        refine (point_calls h44 h5 _).mono ?_
        rintro e WP ⟨_, rfl, ⟨c, rfl, hq⟩, bP⟩
        have hPL : PL c (decP bs) := ⟨_, _, _, _, hq, Rep.aff (by rw [decP_x hdok]; exact hdx) (decP_y hdok).symm⟩
        obtain ⟨T0, HL, N0⟩ := ansB (cs := c) Bp2 HB (by omega) bP (by rw [hq.len]; rfl)
        have T0 := Lib.hid T0
        have HL := Lib.hid HL
        have N0 := Lib.hid N0
        clear Bp2 Bn5 Bn9 HB bP Ln5 Ln9
        go_wp2_with (refine wpList_store_mid rfl 42 _ _ rfl (w.heap.size + 1) 0 c.toArray rfl rfl T0.out hq.sizeA hq.one ?_)
        exact bodyPost_ret (v := .tuple #[.agg c.toArray, .bool true]) (res_two rfl _ _ _ _ _ rfl rfl (N0.out.load 42 Tryd.underlying42 rfl hq.size)) rfl ⟨c, by rw [hdok], hq.len, hq.one, fun _ => hPL, HL.out⟩
      | true =>
        by_cases hx0 : dR bs = 0
        · skip
          go_wp2_with fail
          apply wp_region_g 9 (by kernel_rfl) (by kernel_rfl)
          simp only [List.take_succ_cons, List.take_zero, List.drop_succ_cons, List.drop_zero]
          apply lg_pure (.bool true) rfl (by intro W; go_simp)
          simp only [Act.put, List.setIfInBounds_toArray, List.set_cons_succ, List.set_cons_zero]
          apply lg_pure (.bool false) rfl (by intro W; go_simp)
          simp only [Act.put, List.setIfInBounds_toArray, List.set_cons_succ, List.set_cons_zero]
          apply lg_pure (.bool false) rfl (by intro W; go_simp)
          simp only [Act.put, List.setIfInBounds_toArray, List.set_cons_succ, List.set_cons_zero]
          apply lg_pure (.bool true) rfl (by intro W; go_simp)
          simp only [Act.put, List.setIfInBounds_toArray, List.set_cons_succ, List.set_cons_zero]
          apply lg_pure (.bool true) rfl (by intro W; go_simp)
          simp only [Act.put, List.setIfInBounds_toArray, List.set_cons_succ, List.set_cons_zero]
          apply lg_e (.tmp 9) h44 Bn9.rng Ln9 rfl rfl rfl
          simp only [Act.put, List.setIfInBounds_toArray, List.set_cons_succ, List.set_cons_zero]
          apply lg_f (0) 58 #[.int .u32 0] rfl (by intro W; go_simp) (fun W => fsmall_calls 0 (by decide) 0 zero_val.symm W)
          rintro _ ⟨v52, rfl, h52⟩
          simp only [Act.put, List.setIfInBounds_toArray, List.set_cons_succ, List.set_cons_zero]
          apply lg_callx (.bool true) 62 #[.agg v44.toArray, .agg v52.toArray] rfl (by intro W; go_simp) (fun W => (fis_calls h44 h52 W).mono fun e W' h => ⟨by rw [h.1, decide_eq_true hx0], h.2⟩)
          simp only [Act.put, List.setIfInBounds_toArray, List.set_cons_succ, List.set_cons_zero]
          apply lg_pure (.bool true) rfl (by intro W; go_simp)
          simp only [Act.put, List.setIfInBounds_toArray, List.set_cons_succ, List.set_cons_zero]
          refine lg_nil ?_
          intro WZ hC
          refine wpList_gen (fun W => Blk W (w.heap.size + 1) 42 C20 ∧ Blk W g5 40 v5 ∧ Blk W g9 40 v44 ∧ Below w.heap.size w W) ⟨Bp2.later hC.1, Bn5.later hC.1, Bn9.later hC.1, HB.then_ hC.1⟩ ?_
          clear hC Bp1 Bp2 Bn5 Bn6 Bn7 Bn8 Bn9 HB HT Lp1 Lp2 Ln5 Ln6 Ln7 Ln8 Ln9
          rintro WQ ⟨Bp2, Bn5, Bn9, HB⟩
          have hok : dOk bs = false := by unfold dOk; rw [hokr, hod, decide_eq_true hx0]; simp
          obtain ⟨T0, HL, N0⟩ := ansB (cs := C20) Bp2 HB (by omega) (Below.refl _ _) rfl
          have T0 := Lib.hid T0
          have HL := Lib.hid HL
          have N0 := Lib.hid N0
          have hb0 := build0p
          clear Bp2 Bn5 Bn9 HB
          go_wp2_with (first | (refine wpList_buildop (vs := #[]) rfl rfl (by first | rfl | go_simp) (build0p _) ?_) | (refine wpList_store_mid rfl 42 _ _ rfl (w.heap.size + 1) 0 C20.toArray rfl rfl T0.out size20 C20_one ?_))
          exact bodyPost_ret (v := .tuple #[.agg C20.toArray, .bool false]) (res_two rfl _ _ _ _ _ rfl rfl (N0.out.load 42 Tryd.underlying42 rfl size20)) rfl ⟨C20, by rw [hok], rfl, C20_one, fun h => absurd (hok.symm.trans h) (by decide), HL.out⟩
        · have hdok : dOk bs = true := by unfold dOk; rw [hokr, hod, decide_eq_true hP, decide_eq_false hx0]; rfl
          have hdx : -dR bs = dX bs := by unfold dX; rw [hod, if_pos rfl]
          go_wp2_with fail
          apply wp_region_g 9 (by kernel_rfl) (by kernel_rfl)
          simp only [List.take_succ_cons, List.take_zero, List.drop_succ_cons, List.drop_zero]
          apply lg_pure (.bool true) rfl (by intro W; go_simp)
          simp only [Act.put, List.setIfInBounds_toArray, List.set_cons_succ, List.set_cons_zero]
          apply lg_pure (.bool false) rfl (by intro W; go_simp)
          simp only [Act.put, List.setIfInBounds_toArray, List.set_cons_succ, List.set_cons_zero]
          apply lg_pure (.bool false) rfl (by intro W; go_simp)
          simp only [Act.put, List.setIfInBounds_toArray, List.set_cons_succ, List.set_cons_zero]
          apply lg_pure (.bool true) rfl (by intro W; go_simp)
          simp only [Act.put, List.setIfInBounds_toArray, List.set_cons_succ, List.set_cons_zero]
          apply lg_pure (.bool true) rfl (by intro W; go_simp)
          simp only [Act.put, List.setIfInBounds_toArray, List.set_cons_succ, List.set_cons_zero]
          apply lg_e (.tmp 9) h44 Bn9.rng Ln9 rfl rfl rfl
          simp only [Act.put, List.setIfInBounds_toArray, List.set_cons_succ, List.set_cons_zero]
          apply lg_f (0) 58 #[.int .u32 0] rfl (by intro W; go_simp) (fun W => fsmall_calls 0 (by decide) 0 zero_val.symm W)
          rintro _ ⟨v52, rfl, h52⟩
          simp only [Act.put, List.setIfInBounds_toArray, List.set_cons_succ, List.set_cons_zero]
          apply lg_callx (.bool false) 62 #[.agg v44.toArray, .agg v52.toArray] rfl (by intro W; go_simp) (fun W => (fis_calls h44 h52 W).mono fun e W' h => ⟨by rw [h.1, decide_eq_false hx0], h.2⟩)
          simp only [Act.put, List.setIfInBounds_toArray, List.set_cons_succ, List.set_cons_zero]
          apply lg_pure (.bool false) rfl (by intro W; go_simp)
          simp only [Act.put, List.setIfInBounds_toArray, List.set_cons_succ, List.set_cons_zero]
          refine lg_nil ?_
          intro WZ hC
          refine wpList_gen (fun W => Blk W (w.heap.size + 1) 42 C20 ∧ Blk W g5 40 v5 ∧ Blk W g9 40 v44 ∧ Below w.heap.size w W) ⟨Bp2.later hC.1, Bn5.later hC.1, Bn9.later hC.1, HB.then_ hC.1⟩ ?_
          clear hC Bp1 Bp2 Bn5 Bn6 Bn7 Bn8 Bn9 HB HT Lp1 Lp2 Ln5 Ln6 Ln7 Ln8 Ln9
          rintro WQ ⟨Bp2, Bn5, Bn9, HB⟩
          go_upto_region 12 with fail
          have Ln9 := Bn9.lt
          go_wp2_with (refine wpList_load_mid rfl 40 _ rfl g9 0 rfl v44 _ Bn9.rng Tryd.underlying40 rfl h44.size ?_)
          refine (fneg_calls h44 _).mono ?_
          rintro e WN ⟨_, rfl, ⟨vn, rfl, hn⟩, bN⟩
          replace Bp2 := Bp2.later bN
          replace Bn5 := Bn5.later bN
          replace Bn9 := Bn9.later bN
          replace HB := HB.then_ bN
          clear bN Ln9
          have TN := Bn9.there (n := vn.toArray.size) (by rw [List.size_toArray, hn.len, h44.len])
          have B9' := Bn9.setAll (vs := vn) (by rw [hn.len, h44.len])
          have B5' := Bn5.setFar (g2 := g9) hne59 0 vn
          have B2' := Bp2.setFar (g2 := g9) (by omega) 0 vn
          have HB' := blw_cells (show w.heap.size ≤ g9 by omega) vn 0 _ HB
          clear Bp2 Bn5 Bn9 HB
          go_upto_region 13 with (refine wpList_store_mid rfl 40 _ _ rfl g9 0 vn.toArray rfl rfl TN hn.sizeA hn.one ?_)
          refine wp_gen (fun W => Blk W (w.heap.size + 1) 42 C20 ∧ Blk W g5 40 v5 ∧ Blk W g9 40 vn ∧ Below w.heap.size w W) ⟨B2', B5', B9', HB'⟩ ?_
          clear TN B9' B5' B2' HB'
          rintro WQ2 ⟨Bp2, Bn5, Bn9, HB⟩
          have Ln5 := Bn5.lt
          have Ln9 := Bn9.lt
          go_wp2_with (first
            | (refine wpList_load_mid rfl 40 _ rfl g9 0 rfl vn _ Bn9.rng Tryd.underlying40 rfl hn.size ?_)
            | (refine wpList_load_mid rfl 40 _ rfl g5 0 rfl v5 _ Bn5.rng Tryd.underlying40 rfl h5.size ?_))
          refine (point_calls hn h5 _).mono ?_
          rintro e WP ⟨_, rfl, ⟨c, rfl, hq⟩, bP⟩
          have hPL : PL c (decP bs) := ⟨_, _, _, _, hq, Rep.aff (by rw [decP_x hdok]; exact hdx) (decP_y hdok).symm⟩
          obtain ⟨T0, HL, N0⟩ := ansB (cs := c) Bp2 HB (by omega) bP (by rw [hq.len]; rfl)
          have T0 := Lib.hid T0
          have HL := Lib.hid HL
          have N0 := Lib.hid N0
          clear Bp2 Bn5 Bn9 HB bP Ln5 Ln9
          go_wp2_with (refine wpList_store_mid rfl 42 _ _ rfl (w.heap.size + 1) 0 c.toArray rfl rfl T0.out hq.sizeA hq.one ?_)
          exact bodyPost_ret (v := .tuple #[.agg c.toArray, .bool true]) (res_two rfl _ _ _ _ _ rfl rfl (N0.out.load 42 Tryd.underlying42 rfl hq.size)) rfl ⟨c, by rw [hdok], hq.len, hq.one, fun _ => hPL, HL.out⟩
  · rw [decide_eq_false hP] at qq
    go_wp2_with fail
    apply wp_region_g 3 (by kernel_rfl) (by kernel_rfl)
    simp only [List.take_succ_cons, List.take_zero, List.drop_succ_cons, List.drop_zero]
    apply lg_e (.tmp 5) h5 Bn5.rng Ln5 rfl rfl rfl
    simp only [Act.put, List.setIfInBounds_toArray, List.set_cons_succ, List.set_cons_zero]
    apply lg_callx (.agg ys.toArray) 46 #[.agg v5.toArray] rfl (by intro W; go_simp) (fun W => HBY.out v5 h5 W)
    simp only [Act.put, List.setIfInBounds_toArray, List.set_cons_succ, List.set_cons_zero]
    apply lg_load 22 (.tmp 1) rfl w.heap.size 0 ls _ Bp1.rng Lp1 Tryd.underlying22 rfl hsl rfl rfl
    simp only [Act.put, List.setIfInBounds_toArray, List.set_cons_succ, List.set_cons_zero]
    refine lg_nil ?_
    intro WY hC
    refine wpList_gen (fun W => Blk W w.heap.size 22 ls ∧ Blk W (w.heap.size + 1) 42 C20 ∧ Blk W g5 40 v5 ∧ Below w.heap.size w W ∧ TabD W) ⟨Bp1.later hC.1, Bp2.later hC.1, Bn5.later hC.1, HB.then_ hC.1, HT.later hC.1⟩ ?_
    clear hC Bp1 Bp2 Bn5 HB HT Lp1 Ln5
    rintro W4 ⟨Bp1, Bp2, Bn5, HB, HT⟩
    have hok : dOk bs = false := by unfold dOk; rw [decide_eq_false hP, Bool.false_and]
    obtain ⟨T0, HL, N0⟩ := ansB (cs := C20) Bp2 HB (by omega) (Below.refl _ _) rfl
    have T0 := Lib.hid T0
    have HL := Lib.hid HL
    have N0 := Lib.hid N0
    have hb0 := build0p
    clear Bp1 Bp2 Bn5 HB HT
    go_wp2_with (first | (refine wpList_buildop (vs := #[]) rfl rfl (by first | rfl | go_simp) (build0p _) ?_) | (refine wpList_store_mid rfl 42 _ _ rfl (w.heap.size + 1) 0 C20.toArray rfl rfl T0.out size20 C20_one ?_))
    exact bodyPost_ret (v := .tuple #[.agg C20.toArray, .bool false]) (res_two rfl _ _ _ _ _ rfl rfl (N0.out.load 42 Tryd.underlying42 rfl size20)) rfl ⟨C20, by rw [hok], rfl, C20_one, fun h => absurd (hok.symm.trans h) (by decide), HL.out⟩
end Go.Proofs.YtkfdclnaaphdgaaDoor
