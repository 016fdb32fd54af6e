/- Layer 6: Decode of the document, walked. -/
import Derived.Test.YtkfdclnaaphdgaaDoorCvJ
import Derived.BigFrame
namespace Go.Proofs.YtkfdclnaaphdgaaDoor
open Go.ChangeShapes Go.WideShapes Go.ChangeAt Go.RowKit Go.IntWalk
set_option linter.unusedVariables false

theorem low_split {bs : List UInt8} (hl : bs.length = 32) : bs.take 31 ++ [UInt8.ofNat (tpN bs % 128)] = lwB bs := by
  unfold lwB
  have h : bs = bs.take 31 ++ [bs.getD 31 0] := by
    have h2 : bs.drop 31 = [bs.getD 31 0] := by
      rw [List.drop_eq_getElem_cons (by omega), List.drop_of_length_le (by omega)]
      simp [List.getD, List.getElem?_eq_getElem (show 31 < bs.length by omega)]
    rw [← h2, List.take_append_drop]
  have hlen : (bs.take 31).length = 31 := by simp; omega
  generalize UInt8.ofNat (tpN bs % 128) = y
  generalize bs.take 31 = a at *
  generalize bs.getD 31 0 = c at *
  subst h
  rw [List.set_append_right _ _ (by omega), hlen, Nat.sub_self]; rfl
theorem C64_one : C64.toArray.all (·.oneCell') = true := all_oneCell_toArray (by intro v hv; unfold C64 at hv; rw [List.eq_of_mem_replicate hv]; rfl)
theorem build0r (w : World) : (Instr.build 52 #[]).run Tryd.prog w = .ok (.agg C64.toArray) w := run_build w _ _ _ (by kernel_rfl)
def DRPost (bs : List UInt8) (w : World) (e : Ending) (w' : World) : Prop :=
  ∃ c, e = .returned (.tuple #[.agg c.toArray, .bool (dOk bs)]) ∧ c.length = 64 ∧ c.toArray.all (·.oneCell') = true ∧ (dOk bs = true → RL c (decP bs)) ∧ Below w.heap.size w w'
theorem wpList_load_w {ops : Array Oper} {rest : List Oper} {op : Oper} {a : Act} {w : World} {Q : Exit → Act → World → Prop} (hw : Region.wanted op (yielded ops a.tmps) = true) (ty : TypeId) (x : Operand) (ho : op.op = .load ty x)
    (b o : Nat) (hx : a.eval x = .pointer (some ⟨b, o, none⟩)) (cs : List Value) (d : TypeDesc) (hc : w.rangeAt b o cs) (hu : Tryd.prog.underlying ty = some d) (hd : d.isRow = true) (hi : (Tryd.prog.info? ty).map (·.size) = some cs.length)
    (h : wpList Tryd.prog ops Q rest (a.put op.dst (.agg cs.toArray)) w) : wpList Tryd.prog ops Q (op :: rest) a w :=
  BigFrame.wpList_want hw fun _ hK => wp_load_mid ty x ho b o hx cs d hc hu hd hi (hK _ _ h)
theorem wpList_build_w {ops : Array Oper} {rest : List Oper} {o : Oper} {a : Act} {Q : Exit → Act → World → Prop} {W : World} {T : TypeId} {parts : Array (Nat × Operand)} {vs : Array (Nat × Value)} {x : Value} (hw : Region.wanted o (yielded ops a.tmps) = true) (ho : o.op = .build T parts)
    (hv : parts.map (fun y => (y.1, a.eval y.2)) = vs) (h : (Instr.build T vs).run Tryd.prog W = .ok x W) (hk : wpList Tryd.prog ops Q rest (a.put o.dst x) W) : wpList Tryd.prog ops Q (o :: rest) a W :=
  BigFrame.wpList_want hw fun K hK => by
    unfold Oper.wp
    rw [run_buildop ho hv h]
    exact hK _ _ hk
theorem nroot_calls {cx : List Value} {x : F} (hx : N cx x) (w : World) : Calls Tryd.prog 69 #[.agg cx.toArray] w fun e w' => ∃ v, e = .returned v ∧ (∃ c, v = .tuple #[.agg c.toArray, .bool (rootOk x.val)] ∧ N c (fo (if rootOk x.val = true then rootV x.val else 0))) ∧ Below w.heap.size w w' :=
  (refRoot_calls _ _ hx w).mono fun e w' h => by
    obtain ⟨u, h1, h2, h3⟩ := h
    obtain ⟨c, rfl, hc⟩ := NV.of (a := fo (if rootOk x.val = true then rootV x.val else 0)) h2 (fo_val _).symm
    exact ⟨_, h1, ⟨c, rfl, hc⟩, h3⟩
theorem dA_turn (bs : List UInt8) : (dY bs * dY bs - 1) * fi (dF * (dY bs * dY bs) + 1) = dA bs := by
  unfold dA
  rw [Fin.mul_comm dF]
set_option maxRecDepth 100000 in
set_option maxHeartbeats 8000000 in
theorem refDecode_calls (bs : List UInt8) (hl : bs.length = 32) (w : World) : Calls Tryd.prog 31 #[.string ⟨bs.toArray⟩] w (DRPost bs w) := by
  have hbs : (⟨bs.toArray⟩ : ByteArray).size = bs.length := rfl
  have ht := top_lt256 bs
  have i31 : 31 < bs.length := by omega
  obtain ⟨c, hc⟩ : ∃ c, bs[31] = c := ⟨_, rfl⟩
  have hct : (c.toNat : Int) = (tpN bs : Int) := by
    unfold tpN
    rw [← hc]
    simp [List.getD, List.getElem?_eq_getElem i31]
  obtain ⟨t, htt⟩ : ∃ t, tpN bs = t := ⟨_, rfl⟩
  obtain ⟨z, hz⟩ : ∃ z, t % 128 = z := ⟨_, rfl⟩
  obtain ⟨zc, hzc⟩ : ∃ z, UInt8.ofNat (tpN bs % 128) = z := ⟨_, rfl⟩
  have hz8 : (z : Int) = (zc.toNat : Int) := by rw [← hzc, htt, hz]; simp; omega
  have HSP := Lib.hid (low_split hl)
  rw [hzc] at HSP
  obtain ⟨od, hod⟩ : ∃ b, dOdd bs = b := ⟨_, rfl⟩
  have hq : decide (128 ≤ (t : Int)) = od := by
    rw [← hod]
    unfold dOdd
    rw [htt]
    exact decide_eq_decide.2 (by omega)
  have hmod : (t : Int) % 128 = (z : Int) := by omega
  rw [htt] at hct
  have HLL : Hid ((lwB bs).length = 32) := Lib.hid ((low_len bs).trans hl)
  go_enter Tryd.func31, Tryd.ntmps31
  go_upto_region 1 with fail
  refine wp_gen (fun W => Blk W w.heap.size 52 C64 ∧ Below w.heap.size w W) (alloc1 w C64 _) ?_
  rintro W0 ⟨Bp2, HB⟩
  have hs := run_str_rb (W0.alloc (.cells #[.int .u8 (z : Int)] 5)).drew (some ⟨W0.heap.size, 0, none⟩) 1 1 [zc] (rb_const W0 [zc] _ (by rw [hz8]; rfl) (0, 0)) (Lib.hid rfl)
  go_wp2_with fail
  have hb31 : (bs.take 31).length ≤ 31 := by simp; omega
  have hmt : (t : Int).tmod 128 = (z : Int) := by rw [Int.tmod_eq_emod_of_nonneg (by omega)]; exact hmod
  have hodH := Lib.hid hod
  clear hq hod hz hzc htt hz8
  go_region
  go_wp2_with fail
  have hap : (⟨(bs.take 31).toArray⟩ : ByteArray) ++ ⟨#[zc]⟩ = ⟨(lwB bs).toArray⟩ := by
    rw [← HSP.out]
    apply ByteArray.ext
    simp [ByteArray.data_append]
  rw [hap]
  obtain ⟨LS, hLS⟩ : ∃ q, lwB bs = q := ⟨_, rfl⟩
  have hof : ∀ W, Calls Tryd.prog 64 #[.string ⟨(lwB bs).toArray⟩] W (NFPost (dY bs) W) := fun W => nof_calls (lwB bs) HLL.out W
  rw [hLS] at hof ⊢
  have HOF := Lib.hid hof
  have hby := fun (c : List Value) (h : N c (dY bs)) W => nbytes_calls h W
  have HBY : Hid (∀ (c : List Value) (h : N c (dY bs)) W, Calls Tryd.prog 50 #[.agg c.toArray] W fun e w' => e = .returned (.string ⟨(leB 32 (dY bs).val).toArray⟩) ∧ Below W.heap.size W w') := Lib.hid hby
  have B0 := Bp2.later ((Below.refl W0.heap.size W0).alloc (Nat.le_refl _) (.cells #[.int .u8 (z : Int)] 5))
  have HB0 := HB.then_ ((Below.refl W0.heap.size W0).alloc (Nat.le_refl _) (.cells #[.int .u8 (z : Int)] 5))
  have B1 := B0.later ((Below.refl _ _).drewN 1)
  have HB1 := HB0.then_ ((Below.refl _ _).drewN 1)
  clear hof hby hs hap Bp2 HB B0 HB0 hmt hmod hct hc
  refine (HOF.out _).mono ?_
  rintro e W2 ⟨_, rfl, ⟨v6, rfl, h6⟩, HX⟩
  have Bp2 := B1.later HX
  have HB := HB1.then_ HX
  clear HX B1 HB1 HOF
  obtain ⟨T0, HL, N0⟩ := letS (W := W2) (T := 50) (z := C16) (cs := v6) (by first | (rw [h6.len]; rfl) | rfl)
  go_upto_region 4 with (refine wpList_store_mid rfl 50 _ _ rfl W2.heap.size 0 v6.toArray rfl rfl T0 h6.sizeA h6.one ?_)
  obtain ⟨g6, eg⟩ : ∃ g, W2.heap.size = g := ⟨_, rfl⟩
  rw [eg] at N0 ⊢
  refine wp_gen (fun W => Blk W w.heap.size 52 C64 ∧ Blk W g6 50 v6 ∧ Below w.heap.size w W) ⟨Bp2.later (eg ▸ HL), N0, HB.then_ (eg ▸ HL)⟩ ?_
  clear T0 HL N0 eg Bp2 HB
  rintro W3 ⟨Bp2, Bn6, HB⟩
  have hv : (dY bs).val = leN (lwB bs) % P := fo_val _
  have hod : dOdd bs = od := hodH.out
  by_cases hP : leN (lwB bs) < P
  · have hYL : leB 32 (dY bs).val = LS := by
      rw [hv, Nat.mod_eq_of_lt hP, ← hLS]
      have hb := leB_back (lwB bs)
      rw [HLL.out] at hb
      rw [hb]
    rw [hYL] at HBY
    go_wp2_with (refine wpList_load_mid rfl 50 _ rfl g6 0 rfl v6 _ Bn6.rng Tryd.underlying50 rfl h6.size ?_)
    refine (HBY.out v6 h6 _).mono ?_
    rintro e W4 ⟨rfl, b4⟩
    replace Bp2 := Bp2.later b4
    replace Bn6 := Bn6.later b4
    replace HB := HB.then_ b4
    clear b4
    clear HBY hYL
    have Lp2 := Bp2.lt
    have Ln6 := Bn6.lt
    go_wp2_with fail
    refine (nsmall_calls 1 (by decide) 1 one_val.symm _).mono ?_
    rintro e WX11 ⟨_, rfl, ⟨v31, rfl, h31⟩, HX⟩
    replace Bp2 := Bp2.later HX
    replace Bn6 := Bn6.later HX
    replace HB := HB.then_ HX
    replace Lp2 := Bp2.lt
    replace Ln6 := Bn6.lt
    clear HX
    obtain ⟨T0, HL, N0⟩ := letS (W := WX11) (T := 50) (z := C16) (cs := v31) (by first | (rw [h31.len]; rfl) | rfl)
    go_upto_region 7 with (first | (refine wpList_store_mid rfl 50 _ _ rfl WX11.heap.size 0 v31.toArray rfl rfl T0 h31.sizeA h31.one ?_))
    obtain ⟨g7, eg⟩ : ∃ g, WX11.heap.size = g := ⟨_, rfl⟩
    rw [eg] at N0 ⊢
    have HL2 := HL
    clear HL2
    have hE : Hid (WX11.heap.size = g7) := Lib.hid eg
    refine wp_gen (fun W => Blk W w.heap.size 52 C64 ∧ Blk W g6 50 v6 ∧ Blk W g7 50 v31 ∧ Below w.heap.size w W) ⟨Bp2.later (hE.out ▸ HL), Bn6.later (hE.out ▸ HL), N0, HB.then_ (hE.out ▸ HL)⟩ ?_
    clear T0 HL N0 eg hE
    clear Bp2 Bn6 Lp2 Ln6 HB
    rintro W12 ⟨Bp2, Bn6, Bn7, HB⟩
    have Lp2 := Bp2.lt
    have Ln6 := Bn6.lt
    have Ln7 := Bn7.lt
    go_wp2_with (first | (refine wpList_load_mid rfl 50 _ rfl g6 0 rfl v6 _ Bn6.rng Tryd.underlying50 rfl h6.size ?_) | (refine wpList_load_mid rfl 50 _ rfl g6 0 rfl v6 _ Bn6.rng Tryd.underlying50 rfl h6.size ?_))
    refine (nmul_calls h6 h6 _).mono ?_
    rintro e WX13 ⟨_, rfl, ⟨v34, rfl, h34⟩, HX⟩
    replace Bp2 := Bp2.later HX
    replace Bn6 := Bn6.later HX
    replace Bn7 := Bn7.later HX
    replace HB := HB.then_ HX
    replace Lp2 := Bp2.lt
    replace Ln6 := Bn6.lt
    replace Ln7 := Bn7.lt
    clear HX
    obtain ⟨T0, HL, N0⟩ := letS (W := WX13) (T := 50) (z := C16) (cs := v34) (by first | (rw [h34.len]; rfl) | rfl)
    go_upto_region 8 with (first | (refine wpList_store_mid rfl 50 _ _ rfl WX13.heap.size 0 v34.toArray rfl rfl T0 h34.sizeA h34.one ?_))
    obtain ⟨g8, eg⟩ : ∃ g, WX13.heap.size = g := ⟨_, rfl⟩
    rw [eg] at N0 ⊢
    have HL2 := HL
    clear HL2
    have hE : Hid (WX13.heap.size = g8) := Lib.hid eg
    refine wp_gen (fun W => Blk W w.heap.size 52 C64 ∧ Blk W g6 50 v6 ∧ Blk W g7 50 v31 ∧ Blk W g8 50 v34 ∧ Below w.heap.size w W) ⟨Bp2.later (hE.out ▸ HL), Bn6.later (hE.out ▸ HL), Bn7.later (hE.out ▸ HL), N0, HB.then_ (hE.out ▸ HL)⟩ ?_
    clear T0 HL N0 eg hE
    clear Bp2 Bn6 Bn7 Lp2 Ln6 Ln7 HB
    rintro W14 ⟨Bp2, Bn6, Bn7, Bn8, HB⟩
    have Lp2 := Bp2.lt
    have Ln6 := Bn6.lt
    have Ln7 := Bn7.lt
    have Ln8 := Bn8.lt
    go_wp2_with (first | (refine wpList_load_mid rfl 50 _ rfl g8 0 rfl v34 _ Bn8.rng Tryd.underlying50 rfl h34.size ?_) | (refine wpList_load_mid rfl 50 _ rfl g7 0 rfl v31 _ Bn7.rng Tryd.underlying50 rfl h31.size ?_))
    refine (nsub_calls h34 h31 _).mono ?_
    rintro e WX15 ⟨_, rfl, ⟨v37, rfl, h37⟩, HX⟩
    replace Bp2 := Bp2.later HX
    replace Bn6 := Bn6.later HX
    replace Bn7 := Bn7.later HX
    replace Bn8 := Bn8.later HX
    replace HB := HB.then_ HX
    replace Lp2 := Bp2.lt
    replace Ln6 := Bn6.lt
    replace Ln7 := Bn7.lt
    replace Ln8 := Bn8.lt
    clear HX
    obtain ⟨T0, HL, N0⟩ := letS (W := WX15) (T := 50) (z := C16) (cs := v37) (by first | (rw [h37.len]; rfl) | rfl)
    go_upto_region 9 with (first | (refine wpList_store_mid rfl 50 _ _ rfl WX15.heap.size 0 v37.toArray rfl rfl T0 h37.sizeA h37.one ?_))
    obtain ⟨g9, eg⟩ : ∃ g, WX15.heap.size = g := ⟨_, rfl⟩
    rw [eg] at N0 ⊢
    have HL2 := HL
    clear HL2
    have hE : Hid (WX15.heap.size = g9) := Lib.hid eg
    refine wp_gen (fun W => Blk W w.heap.size 52 C64 ∧ Blk W g6 50 v6 ∧ Blk W g7 50 v31 ∧ Blk W g8 50 v34 ∧ Blk W g9 50 v37 ∧ Below w.heap.size w W) ⟨Bp2.later (hE.out ▸ HL), Bn6.later (hE.out ▸ HL), Bn7.later (hE.out ▸ HL), Bn8.later (hE.out ▸ HL), N0, HB.then_ (hE.out ▸ HL)⟩ ?_
    clear T0 HL N0 eg hE
    clear Bp2 Bn6 Bn7 Bn8 Lp2 Ln6 Ln7 Ln8 HB
    rintro W16 ⟨Bp2, Bn6, Bn7, Bn8, Bn9, HB⟩
    have Lp2 := Bp2.lt
    have Ln6 := Bn6.lt
    have Ln7 := Bn7.lt
    have Ln8 := Bn8.lt
    have Ln9 := Bn9.lt
    go_wp2_with fail
    apply wp_region_g 6 (by kernel_rfl) (by kernel_rfl)
    simp only [List.take_succ_cons, List.take_zero, List.drop_succ_cons, List.drop_zero]
    apply lg_n (dF) 68 #[] rfl (by intro W; go_simp) (fun W => refD_calls W)
    rintro _ ⟨v38, rfl, h38⟩
    simp only [Act.put, List.setIfInBounds_toArray, List.set_cons_succ, List.set_cons_zero]
    apply lg_ne (.tmp 8) h34 Bn8.rng Ln8 rfl rfl rfl
    simp only [Act.put, List.setIfInBounds_toArray, List.set_cons_succ, List.set_cons_zero]
    apply lg_n (dF * ((dY bs) * (dY bs))) 51 #[.agg v38.toArray, .agg v34.toArray] rfl (by intro W; go_simp) (fun W => nmul_calls h38 h34 W)
    rintro _ ⟨v40, rfl, h40⟩
    simp only [Act.put, List.setIfInBounds_toArray, List.set_cons_succ, List.set_cons_zero]
    apply lg_ne (.tmp 7) h31 Bn7.rng Ln7 rfl rfl rfl
    simp only [Act.put, List.setIfInBounds_toArray, List.set_cons_succ, List.set_cons_zero]
    apply lg_n ((dF * ((dY bs) * (dY bs))) + 1) 67 #[.agg v40.toArray, .agg v31.toArray] rfl (by intro W; go_simp) (fun W => nadd_calls h40 h31 W)
    rintro _ ⟨v42, rfl, h42⟩
    simp only [Act.put, List.setIfInBounds_toArray, List.set_cons_succ, List.set_cons_zero]
    apply lg_alloc (.cells C16.toArray 50) (.cells C16.toArray 50) rfl (by intro W; go_simp; rfl) (fun W => heap_alloc_new W _)
    intro g10 eg10
    simp only [Act.put, List.setIfInBounds_toArray, List.set_cons_succ, List.set_cons_zero]
    refine lg_nil ?_
    intro WY17 hC
    obtain ⟨T0, HL, N10, G10⟩ := let1 (z := C16) (cs := v42) hC  (by first | (rw [h42.len]; rfl) | rfl)
    refine wpList_store_mid rfl 50 _ _ rfl g10 0 v42.toArray rfl rfl T0 h42.sizeA h42.one ?_
    simp only [Act.put]
    refine wpList_gen (fun W => Blk W w.heap.size 52 C64 ∧ Blk W g6 50 v6 ∧ Blk W g7 50 v31 ∧ Blk W g8 50 v34 ∧ Blk W g9 50 v37 ∧ Blk W g10 50 v42 ∧ Below w.heap.size w W) ⟨Bp2.later HL, Bn6.later HL, Bn7.later HL, Bn8.later HL, Bn9.later HL, N10, HB.then_ HL⟩ ?_
    clear hC T0 HL N10 eg10
    clear Bp2 Bn6 Bn7 Bn8 Bn9 Lp2 Ln6 Ln7 Ln8 Ln9 HB
    rintro W17 ⟨Bp2, Bn6, Bn7, Bn8, Bn9, Bn10, HB⟩
    have Lp2 := Bp2.lt
    have Ln6 := Bn6.lt
    have Ln7 := Bn7.lt
    have Ln8 := Bn8.lt
    have Ln9 := Bn9.lt
    have Ln10 := Bn10.lt
    obtain ⟨ok, hokr⟩ : ∃ b, rootOk (dA bs).val = b := ⟨_, rfl⟩
    have hrt : ∀ (c : List Value) (h : N c ((dY bs * dY bs - 1) * fi (dF * (dY bs * dY bs) + 1))) W, Calls Tryd.prog 69 #[.agg c.toArray] W fun e w' => ∃ v, e = .returned v ∧ (∃ c, v = .tuple #[.agg c.toArray, .bool ok] ∧ N c (dR bs)) ∧ Below W.heap.size W w' := fun c h W => by rw [← hokr]; exact nroot_calls (x := dA bs) (by rw [← dA_turn]; exact h) W
    have HRT := Lib.hid hrt
    clear hrt
    go_wp2_with fail
    apply wp_region_gl 7 9 9 (by kernel_rfl) (fun _ _ _ _ h => h) (by kernel_rfl) (by kernel_rfl)
    simp only [addEdge, edgeO, List.modify_succ_cons, List.modify_zero_cons, List.push_toArray, List.cons_append, List.nil_append, List.take_succ_cons, List.take_zero, List.drop_succ_cons, List.drop_zero]
    apply lg_ne (.tmp 9) h37 Bn9.rng Ln9 rfl rfl rfl
    simp only [Act.put, List.setIfInBounds_toArray, List.set_cons_succ, List.set_cons_zero]
    apply lg_ne (.tmp 10) h42 Bn10.rng Ln10 rfl rfl rfl
    simp only [Act.put, List.setIfInBounds_toArray, List.set_cons_succ, List.set_cons_zero]
    apply lg_n (fi ((dF * ((dY bs) * (dY bs))) + 1)) 49 #[.agg v42.toArray] rfl (by intro W; go_simp) (fun W => ninv_calls h42 W)
    rintro _ ⟨v46, rfl, h46⟩
    simp only [Act.put, List.setIfInBounds_toArray, List.set_cons_succ, List.set_cons_zero]
    apply lg_n ((((dY bs) * (dY bs)) - 1) * (fi ((dF * ((dY bs) * (dY bs))) + 1))) 51 #[.agg v37.toArray, .agg v46.toArray] rfl (by intro W; go_simp) (fun W => nmul_calls h37 h46 W)
    rintro _ ⟨v47, rfl, h47⟩
    simp only [Act.put, List.setIfInBounds_toArray, List.set_cons_succ, List.set_cons_zero]
    apply lg_call_in (fun v => ∃ c, v = .tuple #[.agg c.toArray, .bool ok] ∧ N c (dR bs)) 69 #[.agg v47.toArray] rfl (by intro W; go_simp) (fun W hW => HRT.out v47 h47 W)
    rintro _ ⟨v48, rfl, h48⟩
    simp only [Act.put, List.setIfInBounds_toArray, List.set_cons_succ, List.set_cons_zero]
    apply lg_rv (fun v => ∃ c, v = .tuple #[.agg c.toArray, .bool ok] ∧ N c (dR bs)) (.tuple #[.agg v48.toArray, .bool ok]) ⟨_, rfl, h48⟩ rfl (by intro W; go_simp)
    rintro _ ⟨v43, rfl, h43⟩
    simp only [Act.put, List.setIfInBounds_toArray, List.set_cons_succ, List.set_cons_zero]
    apply lg_rv (fun v => NV v (dR bs)) (.agg v43.toArray) ⟨_, rfl, h43⟩ rfl (by intro W; go_simp)
    rintro _ ⟨v49, rfl, h49⟩
    simp only [Act.put, List.setIfInBounds_toArray, List.set_cons_succ, List.set_cons_zero]
    apply lg_pure (.bool ok) rfl (by intro W; go_simp)
    simp only [Act.put, List.setIfInBounds_toArray, List.set_cons_succ, List.set_cons_zero]
    apply lg_alloc (.cells C16.toArray 50) (.cells C16.toArray 50) rfl (by intro W; go_simp; rfl) (fun W => heap_alloc_new W _)
    intro g11 eg11
    simp only [Act.put, List.setIfInBounds_toArray, List.set_cons_succ, List.set_cons_zero]
    refine lg_nil ?_
    intro WY18 hC
    obtain ⟨T0, HL, N11, G11⟩ := let1 (z := C16) (cs := v49) hC  (by first | (rw [h49.len]; rfl) | rfl)
    have D11p2 := Nat.lt_of_lt_of_le Lp2 G11
    have D11n6 := Nat.lt_of_lt_of_le Ln6 G11
    have D11n7 := Nat.lt_of_lt_of_le Ln7 G11
    have D11n8 := Nat.lt_of_lt_of_le Ln8 G11
    have D11n9 := Nat.lt_of_lt_of_le Ln9 G11
    have D11n10 := Nat.lt_of_lt_of_le Ln10 G11
    refine wpList_store_mid rfl 50 _ _ rfl g11 0 v49.toArray rfl rfl T0 h49.sizeA h49.one ?_
    simp only [Act.put]
    refine wpList_gen (fun W => Blk W w.heap.size 52 C64 ∧ Blk W g6 50 v6 ∧ Blk W g7 50 v31 ∧ Blk W g8 50 v34 ∧ Blk W g9 50 v37 ∧ Blk W g10 50 v42 ∧ Blk W g11 50 v49 ∧ Below w.heap.size w W) ⟨Bp2.later HL, Bn6.later HL, Bn7.later HL, Bn8.later HL, Bn9.later HL, Bn10.later HL, N11, HB.then_ HL⟩ ?_
    clear hC T0 HL N11 eg11
    clear Bp2 Bn6 Bn7 Bn8 Bn9 Bn10 Lp2 Ln6 Ln7 Ln8 Ln9 Ln10 HB
    rintro W18 ⟨Bp2, Bn6, Bn7, Bn8, Bn9, Bn10, Bn11, HB⟩
    have Lp2 := Bp2.lt
    have Ln6 := Bn6.lt
    have Ln7 := Bn7.lt
    have Ln8 := Bn8.lt
    have Ln9 := Bn9.lt
    have Ln10 := Bn10.lt
    have Ln11 := Bn11.lt
    clear HRT
    have hne6 : g11 ≠ g6 := by omega
    have hne7 : g11 ≠ g7 := by omega
    have hg11 : w.heap.size < g11 := by omega
    go_upto_region 11 with fail
    refine wp_gen (fun W => Blk W w.heap.size 52 C64 ∧ Blk W g6 50 v6 ∧ Blk W g7 50 v31 ∧ Blk W g11 50 v49 ∧ Below w.heap.size w W) ⟨Bp2, Bn6, Bn7, Bn11, HB⟩ ?_
    clear Bp2 Bn6 Bn7 Bn8 Bn9 Bn10 Bn11 HB Lp2 Ln6 Ln7 Ln8 Ln9 Ln10 Ln11
    rintro WQ ⟨Bp2, Bn6, Bn7, Bn11, HB⟩
    cases ok with
    | false =>
      go_upto_region 12 with fail
      have hok : dOk bs = false := by unfold dOk; rw [hokr, Bool.false_and, Bool.and_false]
      obtain ⟨T0, HL, N0⟩ := ansB (cs := C64) Bp2 HB (by omega) (Below.refl _ _) rfl
      have T0 := Lib.hid T0
      have HL := Lib.hid HL
      have N0 := Lib.hid N0
      clear Bp2 Bn6 Bn7 Bn11 HB
      go_wp2_with (first | (refine wpList_buildop (vs := #[]) rfl rfl (by first | rfl | go_simp) (build0r _) ?_) | (refine wpList_store_mid rfl 52 _ _ rfl w.heap.size 0 C64.toArray rfl rfl T0.out size64n C64_one ?_))
      exact bodyPost_ret (v := .tuple #[.agg C64.toArray, .bool false]) (res_two rfl _ _ _ _ _ rfl rfl (N0.out.load 52 Tryd.underlying52 rfl size64n)) rfl ⟨C64, by rw [hok], rfl, C64_one, fun h => absurd (hok.symm.trans h) (by decide), HL.out⟩
    | true =>
      cases od with
      | false =>
        have hdok : dOk bs = true := by unfold dOk; rw [hokr, hod, decide_eq_true hP]; rfl
        have hdx : dR bs = dX bs := by unfold dX; rw [hod, if_neg (by decide)]
        go_upto_region 15 with fail
        have Ln6 := Bn6.lt
        have Ln7 := Bn7.lt
        have Ln11 := Bn11.lt
        go_wp2_with fail
        apply wp_region_g 7 (by kernel_rfl) (by kernel_rfl)
        simp only [List.take_succ_cons, List.take_zero, List.drop_succ_cons, List.drop_zero]
        apply lg_ne (.tmp 11) h49 Bn11.rng Ln11 rfl rfl rfl
        simp only [Act.put, List.setIfInBounds_toArray, List.set_cons_succ, List.set_cons_zero]
        apply lg_ne (.tmp 6) h6 Bn6.rng Ln6 rfl rfl rfl
        simp only [Act.put, List.setIfInBounds_toArray, List.set_cons_succ, List.set_cons_zero]
        apply lg_ne (.tmp 7) h31 Bn7.rng Ln7 rfl rfl rfl
        simp only [Act.put, List.setIfInBounds_toArray, List.set_cons_succ, List.set_cons_zero]
        apply lg_ne (.tmp 11) h49 Bn11.rng Ln11 rfl rfl rfl
        simp only [Act.put, List.setIfInBounds_toArray, List.set_cons_succ, List.set_cons_zero]
        apply lg_ne (.tmp 6) h6 Bn6.rng Ln6 rfl rfl rfl
        simp only [Act.put, List.setIfInBounds_toArray, List.set_cons_succ, List.set_cons_zero]
        apply lg_n ((dR bs) * dY bs) 51 #[.agg v49.toArray, .agg v6.toArray] rfl (by intro W; go_simp) (fun W => nmul_calls h49 h6 W)
        rintro _ ⟨vt, rfl, hvt⟩
        simp only [Act.put, List.setIfInBounds_toArray, List.set_cons_succ, List.set_cons_zero]
        have hq := R4.mk h49 h6 h31 hvt
        have bq := fun W => build4n h49 h6 h31 hvt W
        obtain ⟨q, eq⟩ : ∃ q, v49 ++ v6 ++ v31 ++ vt = q := ⟨_, rfl⟩
        rw [eq] at hq bq
        clear eq
        apply lg_rv (fun v => ∃ c, v = .agg c.toArray ∧ R4 c (dR bs) (dY bs) 1 ((dR bs) * dY bs)) (.agg q.toArray) ⟨_, rfl, hq⟩ rfl (fun W => run_buildop (vs := #[(0, .agg v49.toArray), (1, .agg v6.toArray), (2, .agg v31.toArray), (3, .agg vt.toArray)]) rfl (by first | rfl | go_simp) (bq W))
        clear hq bq
        rintro _ ⟨c, rfl, hq⟩
        simp only [Act.put, List.setIfInBounds_toArray, List.set_cons_succ, List.set_cons_zero]
        refine lg_nil ?_
        intro WP hC
        have hPL : RL c (decP bs) := ⟨_, _, _, _, hq, Rep.aff (by rw [decP_x hdok]; exact hdx) (decP_y hdok).symm⟩
        obtain ⟨T0, HL, N0⟩ := ansB (cs := c) Bp2 HB (by omega) hC.1 (by rw [hq.len]; rfl)
        have HL := Lib.hid HL
        have N0 := Lib.hid N0
        refine wpList_store_mid rfl 52 _ _ rfl w.heap.size 0 c.toArray rfl rfl T0 hq.sizeA hq.one ?_
        simp only [Act.put]
        clear hC T0 Bp2 Bn6 Bn7 Bn11 HB Ln6 Ln7 Ln11
        go_wp2_with fail
        exact bodyPost_ret (v := .tuple #[.agg c.toArray, .bool true]) (res_two rfl _ _ _ _ _ rfl rfl (N0.out.load 52 Tryd.underlying52 rfl hq.size)) rfl ⟨c, by rw [hdok], hq.len, hq.one, fun _ => hPL, HL.out⟩
      | true =>
        go_wp2_with (first
          | (refine wpList_load_w rfl 50 _ rfl g11 0 rfl v49 _ Bn11.rng Tryd.underlying50 rfl h49.size ?_)
          | (refine wpList_build_w (vs := #[]) rfl rfl (by first | rfl | go_simp) (build0n _) ?_))
        refine (nis_calls h49 N.zero _).mono ?_
        rintro e WI ⟨rfl, bI⟩
        replace Bp2 := Bp2.later bI
        replace Bn6 := Bn6.later bI
        replace Bn7 := Bn7.later bI
        replace Bn11 := Bn11.later bI
        replace HB := HB.then_ bI
        clear bI
        by_cases hx0 : dR bs = 0
        · rw [decide_eq_true hx0]
          go_upto_region 12 with fail
          have hok : dOk bs = false := by unfold dOk; rw [hokr, hod, decide_eq_true hx0]; simp
          obtain ⟨T0, HL, N0⟩ := ansB (cs := C64) Bp2 HB (by omega) (Below.refl _ _) rfl
          have T0 := Lib.hid T0
          have HL := Lib.hid HL
          have N0 := Lib.hid N0
          clear Bp2 Bn6 Bn7 Bn11 HB
          go_wp2_with (first | (refine wpList_buildop (vs := #[]) rfl rfl (by first | rfl | go_simp) (build0r _) ?_) | (refine wpList_store_mid rfl 52 _ _ rfl w.heap.size 0 C64.toArray rfl rfl T0.out size64n C64_one ?_))
          exact bodyPost_ret (v := .tuple #[.agg C64.toArray, .bool false]) (res_two rfl _ _ _ _ _ rfl rfl (N0.out.load 52 Tryd.underlying52 rfl size64n)) rfl ⟨C64, by rw [hok], rfl, C64_one, fun h => absurd (hok.symm.trans h) (by decide), HL.out⟩
        · rw [decide_eq_false hx0]
          have hdok : dOk bs = true := by unfold dOk; rw [hokr, hod, decide_eq_true hP, decide_eq_false hx0]; rfl
          have hdx : 0 - dR bs = dX bs := by unfold dX; rw [hod, if_pos rfl]; exact sub_from_zero _
          go_upto_region 14 with fail
          go_wp2_with (first
            | (refine wpList_load_mid rfl 50 _ rfl g11 0 rfl v49 _ Bn11.rng Tryd.underlying50 rfl h49.size ?_)
            | (refine wpList_buildop (vs := #[]) rfl rfl (by first | rfl | go_simp) (build0n _) ?_))
          refine (nsub_calls N.zero h49 _).mono ?_
          rintro e WN ⟨_, rfl, ⟨vn, rfl, hn⟩, bN⟩
          replace Bp2 := Bp2.later bN
          replace Bn6 := Bn6.later bN
          replace Bn7 := Bn7.later bN
          replace Bn11 := Bn11.later bN
          replace HB := HB.then_ bN
          clear bN
          have TN := Bn11.there (n := vn.toArray.size) (by rw [List.size_toArray, hn.len, h49.len])
          have B9' := Bn11.setAll (vs := vn) (by rw [hn.len, h49.len])
          have B5' := Bn6.setFar (g2 := g11) hne6 0 vn
          have B7' := Bn7.setFar (g2 := g11) hne7 0 vn
          have B2' := Bp2.setFar (g2 := g11) (by omega) 0 vn
          have HB' := blw_cells (show w.heap.size ≤ g11 by omega) vn 0 _ HB
          clear Bp2 Bn6 Bn7 Bn11 HB
          go_upto_region 15 with (refine wpList_store_mid rfl 50 _ _ rfl g11 0 vn.toArray rfl rfl TN hn.sizeA hn.one ?_)
          refine wp_gen (fun W => Blk W w.heap.size 52 C64 ∧ Blk W g6 50 v6 ∧ Blk W g7 50 v31 ∧ Blk W g11 50 vn ∧ Below w.heap.size w W) ⟨B2', B5', B7', B9', HB'⟩ ?_
          clear TN B9' B5' B7' B2' HB'
          rintro WQ2 ⟨Bp2, Bn6, Bn7, Bn11, HB⟩
          have Ln6 := Bn6.lt
          have Ln7 := Bn7.lt
          have Ln11 := Bn11.lt
          go_wp2_with fail
          apply wp_region_g 7 (by kernel_rfl) (by kernel_rfl)
          simp only [List.take_succ_cons, List.take_zero, List.drop_succ_cons, List.drop_zero]
          apply lg_ne (.tmp 11) hn Bn11.rng Ln11 rfl rfl rfl
          simp only [Act.put, List.setIfInBounds_toArray, List.set_cons_succ, List.set_cons_zero]
          apply lg_ne (.tmp 6) h6 Bn6.rng Ln6 rfl rfl rfl
          simp only [Act.put, List.setIfInBounds_toArray, List.set_cons_succ, List.set_cons_zero]
          apply lg_ne (.tmp 7) h31 Bn7.rng Ln7 rfl rfl rfl
          simp only [Act.put, List.setIfInBounds_toArray, List.set_cons_succ, List.set_cons_zero]
          apply lg_ne (.tmp 11) hn Bn11.rng Ln11 rfl rfl rfl
          simp only [Act.put, List.setIfInBounds_toArray, List.set_cons_succ, List.set_cons_zero]
          apply lg_ne (.tmp 6) h6 Bn6.rng Ln6 rfl rfl rfl
          simp only [Act.put, List.setIfInBounds_toArray, List.set_cons_succ, List.set_cons_zero]
          apply lg_n ((0 - dR bs) * dY bs) 51 #[.agg vn.toArray, .agg v6.toArray] rfl (by intro W; go_simp) (fun W => nmul_calls hn h6 W)
          rintro _ ⟨vt, rfl, hvt⟩
          simp only [Act.put, List.setIfInBounds_toArray, List.set_cons_succ, List.set_cons_zero]
          have hq := R4.mk hn h6 h31 hvt
          have bq := fun W => build4n hn h6 h31 hvt W
          obtain ⟨q, eq⟩ : ∃ q, vn ++ v6 ++ v31 ++ vt = q := ⟨_, rfl⟩
          rw [eq] at hq bq
          clear eq
          apply lg_rv (fun v => ∃ c, v = .agg c.toArray ∧ R4 c (0 - dR bs) (dY bs) 1 ((0 - dR bs) * dY bs)) (.agg q.toArray) ⟨_, rfl, hq⟩ rfl (fun W => run_buildop (vs := #[(0, .agg vn.toArray), (1, .agg v6.toArray), (2, .agg v31.toArray), (3, .agg vt.toArray)]) rfl (by first | rfl | go_simp) (bq W))
          clear hq bq
          rintro _ ⟨c, rfl, hq⟩
          simp only [Act.put, List.setIfInBounds_toArray, List.set_cons_succ, List.set_cons_zero]
          refine lg_nil ?_
          intro WP hC
          have hPL : RL c (decP bs) := ⟨_, _, _, _, hq, Rep.aff (by rw [decP_x hdok]; exact hdx) (decP_y hdok).symm⟩
          obtain ⟨T0, HL, N0⟩ := ansB (cs := c) Bp2 HB (by omega) hC.1 (by rw [hq.len]; rfl)
          have HL := Lib.hid HL
          have N0 := Lib.hid N0
          refine wpList_store_mid rfl 52 _ _ rfl w.heap.size 0 c.toArray rfl rfl T0 hq.sizeA hq.one ?_
          simp only [Act.put]
          clear hC T0 Bp2 Bn6 Bn7 Bn11 HB Ln6 Ln7 Ln11
          go_wp2_with fail
          exact bodyPost_ret (v := .tuple #[.agg c.toArray, .bool true]) (res_two rfl _ _ _ _ _ rfl rfl (N0.out.load 52 Tryd.underlying52 rfl hq.size)) rfl ⟨c, by rw [hdok], hq.len, hq.one, fun _ => hPL, HL.out⟩
  · have hne : leB 32 (dY bs).val ≠ LS := by
      intro e
      rw [← hLS] at e
      have e2 := congrArg leN e
      rw [leN_leB, Nat.mod_eq_of_lt (Nat.lt_trans (dY bs).isLt (by decide +kernel)), hv] at e2
      exact hP (by rw [← e2]; exact Nat.mod_lt _ (by decide +kernel))
    obtain ⟨YS, hYS⟩ : ∃ q, leB 32 (dY bs).val = q := ⟨_, rfl⟩
    rw [hYS] at hne HBY
    have hne2 : (YS == LS) = false := by rw [beq_eq_false_iff_ne]; exact hne
    have hne3 : decide (YS = LS) = false := decide_eq_false hne
    go_wp2_with (refine wpList_load_mid rfl 50 _ rfl g6 0 rfl v6 _ Bn6.rng Tryd.underlying50 rfl h6.size ?_)
    refine (HBY.out v6 h6 _).mono ?_
    rintro e W4 ⟨rfl, b4⟩
    replace Bp2 := Bp2.later b4
    replace Bn6 := Bn6.later b4
    replace HB := HB.then_ b4
    clear b4
    go_upto_region 5 with fail
    have hok : dOk bs = false := by unfold dOk; rw [decide_eq_false hP, Bool.false_and]
    obtain ⟨T0, HL, N0⟩ := ansB (cs := C64) Bp2 HB (by omega) (Below.refl _ _) rfl
    have T0 := Lib.hid T0
    have HL := Lib.hid HL
    have N0 := Lib.hid N0
    clear Bp2 Bn6 HB
    go_wp2_with (first | (refine wpList_buildop (vs := #[]) rfl rfl (by first | rfl | go_simp) (build0r _) ?_) | (refine wpList_store_mid rfl 52 _ _ rfl w.heap.size 0 C64.toArray rfl rfl T0.out size64n C64_one ?_))
    exact bodyPost_ret (v := .tuple #[.agg C64.toArray, .bool false]) (res_two rfl _ _ _ _ _ rfl rfl (N0.out.load 52 Tryd.underlying52 rfl size64n)) rfl ⟨C64, by rw [hok], rfl, C64_one, fun h => absurd (hok.symm.trans h) (by decide), HL.out⟩
end Go.Proofs.YtkfdclnaaphdgaaDoor
