/- Layer 6: CurveSigns, walked. -/
import Derived.Test.YtoligamlafgaoaaDoorCwB
namespace Go.Proofs.YtoligamlafgaoaaDoor
open Go.ChangeShapes Go.WideShapes Go.ChangeAt Go.RowKit Go.IntWalk
set_option linter.unusedVariables false

theorem xor_top : ∀ x : Fin 256, bits .xor .u8 (x.val : Int) 128 = (((x.val + 128) % 256 : Nat) : Int) := by decide +kernel
/-- The bytes with the other highest bit. -/
def flipB (bs : List UInt8) : List UInt8 := bs.set 31 (UInt8.ofNat ((tpN bs + 128) % 256))
theorem flip_len (bs : List UInt8) : (flipB bs).length = bs.length := List.length_set
theorem flip_top {bs : List UInt8} (hl : bs.length = 32) : tpN (flipB bs) = (tpN bs + 128) % 256 := by
  unfold tpN flipB
  rw [List.getD, List.getElem?_set_self (by omega)]
  simp [tpN]
theorem flip_low {bs : List UInt8} (hl : bs.length = 32) : lwB (flipB bs) = lwB bs := by
  unfold lwB
  rw [flip_top hl]
  unfold flipB
  rw [List.set_set]
  congr 2
  omega
theorem flip_Y {bs : List UInt8} (hl : bs.length = 32) : dY (flipB bs) = dY bs := by unfold dY; rw [flip_low hl]
theorem flip_A {bs : List UInt8} (hl : bs.length = 32) : dA (flipB bs) = dA bs := by unfold dA; rw [flip_Y hl]
theorem flip_R {bs : List UInt8} (hl : bs.length = 32) : dR (flipB bs) = dR bs := by unfold dR; rw [flip_A hl]
theorem flip_odd {bs : List UInt8} (hl : bs.length = 32) : dOdd (flipB bs) = !dOdd bs := by
  unfold dOdd
  rw [flip_top hl]
  have := top_lt256 bs
  by_cases h : 128 ≤ tpN bs
  · rw [decide_eq_true h]; exact decide_eq_false (by omega)
  · rw [decide_eq_false h]; exact decide_eq_true (by omega)
theorem half_zero {x : F} (h : -x = x) : x = 0 := by
  have h2 : 2 * x = 0 := by grobner
  exact (fz h2).resolve_left two_ne
/-- They are no point's, or a point's that makes Zero with itself. -/
theorem signs_no {bs : List UInt8} (hl : bs.length = 32) (h : dOk bs = false) (h2 : dOk (flipB bs) = true) : (decP (flipB bs)).neg = decP (flipB bs) := by
  have e : dR bs = 0 := by
    apply Classical.byContradiction
    intro hn
    have h3 := h2
    unfold dOk at h3 h
    rw [flip_A hl, flip_low hl] at h3
    simp only [Bool.and_eq_true] at h3
    rw [h3.1, h3.2.1, decide_eq_false hn] at h
    simp at h
  have hx : (decP (flipB bs)).x = 0 := by
    rw [decP_x h2]
    unfold dX
    rw [flip_R hl, e]
    split <;> decide +kernel
  apply Pt.ext'
  · show -(decP (flipB bs)).x = _
    rw [hx]; decide +kernel
  · rfl
theorem signs_self {bs : List UInt8} (hl : bs.length = 32) (h : dOk bs = true) (h2 : (decP bs).neg = decP bs) : dOk (flipB bs) = false := by
  have hx : dX bs = 0 := by
    have h3 : -(decP bs).x = (decP bs).x := congrArg Pt.x h2
    rw [decP_x h] at h3
    exact half_zero h3
  have hR : dR bs = 0 := by
    unfold dX at hx
    split at hx
    · have : -(-dR bs) = (0 : F) := by rw [hx]; decide +kernel
      generalize dR bs = r at *
      grobner
    · exact hx
  have h0 := h
  unfold dOk at h0 ⊢
  rw [flip_A hl, flip_low hl, flip_odd hl, flip_R hl, hR, decide_eq_true rfl]
  rw [hR, decide_eq_true rfl] at h0
  simp only [Bool.and_true, Bool.and_eq_true, Bool.not_eq_true'] at h0
  rw [h0.2.2]
  simp
theorem signs_other {bs : List UInt8} (hl : bs.length = 32) (h : dOk bs = true) (h2 : ¬ (decP bs).neg = decP bs) : dOk (flipB bs) = true ∧ decP (flipB bs) = (decP bs).neg := by
  have hR : dR bs ≠ 0 := by
    intro hR
    apply h2
    have hx : dX bs = 0 := by
      unfold dX
      rw [hR]
      split <;> decide +kernel
    apply Pt.ext'
    · show -(decP bs).x = _
      rw [decP_x h, hx]; decide +kernel
    · rfl
  have h0 := h
  have hok : dOk (flipB bs) = true := by
    unfold dOk at h0 ⊢
    simp only [Bool.and_eq_true] at h0
    rw [flip_A hl, flip_low hl, flip_R hl, decide_eq_false hR, h0.1, h0.2.1]
    simp
  refine ⟨hok, Pt.ext' ?_ ?_⟩
  · show _ = -(decP bs).x
    rw [decP_x hok, decP_x h]
    unfold dX
    rw [flip_R hl, flip_odd hl]
    cases dOdd bs with
    | true => simp; generalize dR bs = r; grobner
    | false => simp
  · show _ = (decP bs).y
    rw [decP_y hok, decP_y h, flip_Y hl]
set_option maxRecDepth 100000 in
set_option maxHeartbeats 8000000 in
theorem curveSigns_walk (xs : List UInt8) (hxs : xs.length = 32) (w : World) (hT : Tab3 w) :
    Calls Tryd.prog 9 #[.agg (xs.map fun c => Value.int .u8 (c.toNat : Int)).toArray] w fun e w' => e = .returned (.bool true) ∧ Below w.heap.size w w' := by
  have HDF := Lib.hid (fun W h => decode_calls (flipB xs) ((flip_len xs).trans hxs) W h)
  have hszf := size32' (flipB xs) ((flip_len xs).trans hxs)
  have HSA := Lib.hid (size32A xs hxs)
  have HSO := Lib.hid (u8s_one xs)
  have HTC := Lib.hid (top_cell hxs)
  have ht := top_lt256 xs
  obtain ⟨t, htt⟩ : ∃ t, tpN xs = t := ⟨_, rfl⟩
  have HFL : Hid ((u8s xs).set 31 (.int .u8 (((t + 128) % 256 : Nat) : Int)) = u8s (flipB xs)) := Lib.hid (by
    unfold flipB
    rw [← u8s_set, htt]
    congr 2
    simp)
  rw [htt] at HTC ht
  clear htt
  have hxr := xor_top ⟨t, ht⟩
  simp only at hxr
  unfold A32 at HDF
  obtain ⟨uf, huf⟩ : ∃ q, u8s (flipB xs) = q := ⟨_, rfl⟩
  rw [huf] at hszf HFL
  simp only [huf] at HDF
  clear huf
  have hszxs := size32' xs hxs
  have hdcxs : ∀ W, TabD W → Calls Tryd.prog 12 #[.agg (u8s xs).toArray] W (DPost xs W) := fun W h => decode_calls xs hxs W h
  have hrdxs := refDecode_calls xs hxs
  have HRBxs : Hid (∀ (W : World) (g : Nat), Blk W g 22 (u8s xs) → (convert 39 9 (.slice (some ⟨g, 0, none⟩) 32 32)).run Tryd.prog W = .ok (.string ⟨xs.toArray⟩) W) := Lib.hid (fun W g h => run_str_rb W (some ⟨g, 0, none⟩) 32 32 xs (UBlk.rb h) (Lib.hid hxs.symm))
  have HGQxs := Lib.hid (fun op x y W => guard_bytes op xs xs x y W)
  have HQQxs := Lib.hid (fun W => eqin_bytes xs xs hxs hxs W)
  rw [beq_self_eq_true] at HQQxs
  unfold A32 at HGQxs HQQxs
  have HENxs : Hid (∀ (c : List Value) (W : World), dOk xs = true → PL c (decP xs) → Calls Tryd.prog 11 #[.agg c.toArray] W fun e w' => e = .returned (.agg (u8s xs).toArray) ∧ Below W.heap.size W w') := Lib.hid (fun c W hk h => by
    have := bytesP h W
    unfold BPost at this
    rwa [enc_dec hxs hk] at this)
  obtain ⟨uxs, huxs⟩ : ∃ q, u8s xs = q := ⟨_, rfl⟩
  rw [show (xs.map fun c => Value.int .u8 (c.toNat : Int)) = uxs from huxs]
  rw [huxs] at hszxs HRBxs HGQxs HQQxs HENxs
  simp only [huxs] at hdcxs
  have hlux := Lib.hid (show uxs.length = 32 by rw [← huxs, u8s_len, hxs])
  rw [huxs] at HSA HSO HTC HFL
  have HDCxs := Lib.hid hdcxs
  have HRDxs := Lib.hid hrdxs
  clear huxs hdcxs hrdxs
  go_enter Tryd.func9, Tryd.ntmps9
  go_upto_region 1 with fail
  refine wp_gen (fun W => Blk W w.heap.size 22 uxs ∧ Below w.heap.size w W ∧ Tab3 W) ?_ ?_
  · obtain ⟨a0, hb⟩ := alloc1 w uxs 22
    exact ⟨a0, hb, hT.later hb⟩
  rintro W0 ⟨Bp1, HB, HT⟩
  have Lp1 := Bp1.lt
  go_wp2_with fail
  refine (alive6_calls _ HT.2).mono ?_
  rintro e wz ⟨rfl, bz⟩
  replace Bp1 := Bp1.later bz
  replace Lp1 := Bp1.lt
  replace HB := HB.then_ bz
  replace HT := HT.later bz
  clear bz
  go_upto_region 3 with fail
  go_wp2_with (refine wpList_load_mid rfl 22 _ rfl w.heap.size 0 rfl uxs _ Bp1.rng Tryd.underlying22 rfl hszxs ?_)
  refine (HDCxs.out _ HT.1).mono ?_
  rintro e WD3 ⟨c3, rfl, hlc3, hoc3, hpc3, bD⟩
  replace Bp1 := Bp1.later bD
  replace Lp1 := Bp1.lt
  replace HB := HB.then_ bD
  replace HT := HT.later bD
  clear bD
  obtain ⟨T0, HL, N0⟩ := letS (W := WD3) (T := 28) (z := C20) (cs := c3) (by rw [hlc3]; rfl)
  have hS : (Tryd.prog.info? 28).map (·.size) = some c3.toArray.size := by rw [List.size_toArray, hlc3]; exact size20
  go_upto_region 4 with (refine wpList_store_mid rfl 28 _ _ rfl WD3.heap.size 0 c3.toArray rfl rfl T0 hS hoc3 ?_)
  obtain ⟨g3, eg⟩ : ∃ g, WD3.heap.size = g := ⟨_, rfl⟩
  rw [eg] at N0 ⊢
  have hE : Hid (WD3.heap.size = g3) := Lib.hid eg
  refine wp_gen (fun W => Blk W w.heap.size 22 uxs ∧ Blk W g3 28 c3 ∧ Below w.heap.size w W ∧ Tab3 W) ⟨Bp1.later (hE.out ▸ HL), N0, HB.then_ (hE.out ▸ HL), HT.later (hE.out ▸ HL)⟩ ?_
  clear T0 HL N0 eg hE hS
  clear Bp1 Lp1 HB HT
  rintro W1 ⟨Bp1, Bn3, HB, HT⟩
  have Lp1 := Bp1.lt
  have Ln3 := Bn3.lt
  obtain ⟨T0, HL, N0⟩ := letS (W := W1) (T := 22) (z := C32) (cs := uxs) (by have := HFL; rw [show uxs.length = 32 from hlux.out]; rfl)
  go_upto_region 5 with (first | (refine wpList_load_mid rfl 22 _ rfl w.heap.size 0 rfl uxs _ Bp1.rng Tryd.underlying22 rfl hszxs ?_) | (refine wpList_store_mid rfl 22 _ _ rfl W1.heap.size 0 uxs.toArray rfl rfl T0 HSA.out HSO.out ?_))
  obtain ⟨g5, eg⟩ : ∃ g, W1.heap.size = g := ⟨_, rfl⟩
  rw [eg] at N0 ⊢
  have hE : Hid (W1.heap.size = g5) := Lib.hid eg
  have D1 : w.heap.size < g5 := by rw [← eg]; exact Lp1
  have D3 : g3 < g5 := by rw [← eg]; exact Ln3
  refine wp_gen (fun W => Blk W w.heap.size 22 uxs ∧ Blk W g3 28 c3 ∧ Blk W g5 22 uxs ∧ Below w.heap.size w W ∧ Tab3 W) ⟨Bp1.later (hE.out ▸ HL), Bn3.later (hE.out ▸ HL), N0, HB.then_ (hE.out ▸ HL), HT.later (hE.out ▸ HL)⟩ ?_
  clear T0 HL N0 eg hE Bp1 Bn3 HB HT Lp1 Ln3
  rintro W2 ⟨Bp1, Bn3, Bn5, HB, HT⟩
  have hc := Bn5.cell HTC.out
  have hf := Bn5.frozen 31
  have S5 := Bn5.set_ 31 (.int .u8 (((t + 128) % 256 : Nat) : Int))
  rw [HFL.out] at S5
  have S1 := Bp1.other (g2 := g5) (k := 31) (by omega) (.int .u8 (((t + 128) % 256 : Nat) : Int))
  have S3 := Bn3.other (g2 := g5) (k := 31) (by omega) (.int .u8 (((t + 128) % 256 : Nat) : Int))
  have SB := HB.setCell (p := ⟨g5, 31, none⟩) (show w.heap.size ≤ g5 by omega) (.int .u8 (((t + 128) % 256 : Nat) : Int))
  have ST : Tab3 (W2.setCell ⟨g5, 31, none⟩ (.int .u8 (((t + 128) % 256 : Nat) : Int))) := hT.later SB
  obtain ⟨z, hz⟩ : ∃ z : Int, (((t + 128) % 256 : Nat) : Int) = z := ⟨_, rfl⟩
  rw [hz] at hxr S5 S1 S3 SB ST
  clear hz Bp1 Bn3 Bn5 HB HT
  go_upto_region 6 with fail
  refine wp_gen (fun W => Blk W w.heap.size 22 uxs ∧ Blk W g3 28 c3 ∧ Blk W g5 22 uf ∧ Below w.heap.size w W ∧ Tab3 W) ⟨S1, S3, S5, SB, ST⟩ ?_
  clear S1 S3 S5 SB ST hc hf hxr
  rintro W3 ⟨Bp1, Bn3, Bn5, HB, HT⟩
  have Lp1 := Bp1.lt
  have Ln3 := Bn3.lt
  have Ln5 := Bn5.lt
  go_wp2_with (refine wpList_load_mid rfl 22 _ rfl g5 0 rfl uf _ Bn5.rng Tryd.underlying22 rfl hszf ?_)
  refine (HDF.out _ HT.1).mono ?_
  rintro e WD6 ⟨c6, rfl, hlc6, hoc6, hpc6, bD⟩
  replace Bp1 := Bp1.later bD
  replace Lp1 := Bp1.lt
  replace Bn3 := Bn3.later bD
  replace Ln3 := Bn3.lt
  replace Bn5 := Bn5.later bD
  replace Ln5 := Bn5.lt
  replace HB := HB.then_ bD
  replace HT := HT.later bD
  clear bD
  obtain ⟨T0, HL, N0⟩ := letS (W := WD6) (T := 28) (z := C20) (cs := c6) (by rw [hlc6]; rfl)
  have hS : (Tryd.prog.info? 28).map (·.size) = some c6.toArray.size := by rw [List.size_toArray, hlc6]; exact size20
  go_upto_region 7 with (refine wpList_store_mid rfl 28 _ _ rfl WD6.heap.size 0 c6.toArray rfl rfl T0 hS hoc6 ?_)
  obtain ⟨g6, eg⟩ : ∃ g, WD6.heap.size = g := ⟨_, rfl⟩
  rw [eg] at N0 ⊢
  have hE : Hid (WD6.heap.size = g6) := Lib.hid eg
  refine wp_gen (fun W => Blk W w.heap.size 22 uxs ∧ Blk W g3 28 c3 ∧ Blk W g5 22 uf ∧ Blk W g6 28 c6 ∧ Below w.heap.size w W ∧ Tab3 W) ⟨Bp1.later (hE.out ▸ HL), Bn3.later (hE.out ▸ HL), Bn5.later (hE.out ▸ HL), N0, HB.then_ (hE.out ▸ HL), HT.later (hE.out ▸ HL)⟩ ?_
  clear T0 HL N0 eg hE hS
  clear Bp1 Bn3 Bn5 Lp1 Ln3 Ln5 HB HT
  rintro W4 ⟨Bp1, Bn3, Bn5, Bn6, HB, HT⟩
  have Lp1 := Bp1.lt
  have Ln3 := Bn3.lt
  have Ln5 := Bn5.lt
  have Ln6 := Bn6.lt
  cases hk : dOk xs with
  | false =>
    go_upto_region 8 with fail
    cases hf : dOk (flipB xs) with
    | false =>
      go_wp2_with fail
      apply wp_region_g 8 (by kernel_rfl) (by kernel_rfl)
      simp only [List.take_succ_cons, List.take_zero, List.drop_succ_cons, List.drop_zero]
      apply lg_pure (.bool false) rfl (by intro W; go_simp)
      simp only [Act.put, List.setIfInBounds_toArray, List.set_cons_succ, List.set_cons_zero]
      apply lg_pure (.bool true) rfl (by intro W; go_simp)
      simp only [Act.put, List.setIfInBounds_toArray, List.set_cons_succ, List.set_cons_zero]
      apply lg_pure (.bool true) rfl (by intro W; go_simp)
      simp only [Act.put, List.setIfInBounds_toArray, List.set_cons_succ, List.set_cons_zero]
      apply lg_skip rfl
      simp only [Act.put, List.setIfInBounds_toArray, List.set_cons_succ, List.set_cons_zero]
      apply lg_skip rfl
      simp only [Act.put, List.setIfInBounds_toArray, List.set_cons_succ, List.set_cons_zero]
      apply lg_skip rfl
      simp only [Act.put, List.setIfInBounds_toArray, List.set_cons_succ, List.set_cons_zero]
      apply lg_skip rfl
      simp only [Act.put, List.setIfInBounds_toArray, List.set_cons_succ, List.set_cons_zero]
      apply lg_pure (.bool true) rfl (by intro W; go_simp)
      simp only [Act.put, List.setIfInBounds_toArray, List.set_cons_succ, List.set_cons_zero]
      refine lg_nil ?_
      intro WY hC
      have HL := Lib.hid (HB.then_ hC.1)
      clear hC
      go_wp2_with fail
      go_ret
      exact ⟨rfl, HL.out⟩
    | true =>
      replace hpc6 := hpc6 hf
      have hnn := signs_no hxs hk hf
      go_wp2_with fail
      apply wp_region_g 8 (by kernel_rfl) (by kernel_rfl)
      simp only [List.take_succ_cons, List.take_zero, List.drop_succ_cons, List.drop_zero]
      apply lg_pure (.bool true) rfl (by intro W; go_simp)
      simp only [Act.put, List.setIfInBounds_toArray, List.set_cons_succ, List.set_cons_zero]
      apply lg_pure (.bool false) rfl (by intro W; go_simp)
      simp only [Act.put, List.setIfInBounds_toArray, List.set_cons_succ, List.set_cons_zero]
      apply lg_pure (.bool false) rfl (by intro W; go_simp)
      simp only [Act.put, List.setIfInBounds_toArray, List.set_cons_succ, List.set_cons_zero]
      apply lg_load 28 (.tmp 6) rfl g6 0 c6 _ Bn6.rng Ln6 Tryd.underlying28 rfl hpc6.size rfl rfl
      simp only [Act.put, List.setIfInBounds_toArray, List.set_cons_succ, List.set_cons_zero]
      apply lg_call_in (fun v => ∃ c, v = .agg c.toArray ∧ PL c ((decP (flipB xs)).neg)) 20 #[.agg (c6).toArray] rfl (by intro W; go_simp) (fun W hW => negP hpc6 W)
      rintro _ ⟨v31, rfl, h31⟩
      simp only [Act.put, List.setIfInBounds_toArray, List.set_cons_succ, List.set_cons_zero]
      apply lg_load 28 (.tmp 6) rfl g6 0 c6 _ Bn6.rng Ln6 Tryd.underlying28 rfl hpc6.size rfl rfl
      simp only [Act.put, List.setIfInBounds_toArray, List.set_cons_succ, List.set_cons_zero]
      apply lg_callx (.bool true) 16 #[.agg (v31).toArray, .agg (c6).toArray] rfl (by intro W; go_simp) (fun W => (isP h31 hpc6 W).mono fun e W' ⟨b, h1, h2, h3⟩ => ⟨by rw [h1, h2.2 hnn], h3⟩)
      simp only [Act.put, List.setIfInBounds_toArray, List.set_cons_succ, List.set_cons_zero]
      apply lg_pure (.bool true) rfl (by intro W; go_simp)
      simp only [Act.put, List.setIfInBounds_toArray, List.set_cons_succ, List.set_cons_zero]
      refine lg_nil ?_
      intro WY hC
      have HL := Lib.hid (HB.then_ hC.1)
      clear hC
      go_wp2_with fail
      go_ret
      exact ⟨rfl, HL.out⟩
  | true =>
    replace hpc3 := hpc3 hk
    go_upto_region 9 with fail
    by_cases hn : (decP xs).neg = decP xs
    · have hf := signs_self hxs hk hn
      go_wp2_with fail
      apply wp_region_g 3 (by kernel_rfl) (by kernel_rfl)
      simp only [List.take_succ_cons, List.take_zero, List.drop_succ_cons, List.drop_zero]
      apply lg_load 28 (.tmp 3) rfl g3 0 c3 _ Bn3.rng Ln3 Tryd.underlying28 rfl hpc3.size rfl rfl
      simp only [Act.put, List.setIfInBounds_toArray, List.set_cons_succ, List.set_cons_zero]
      apply lg_call_in (fun v => ∃ c, v = .agg c.toArray ∧ PL c ((decP xs).neg)) 20 #[.agg (c3).toArray] rfl (by intro W; go_simp) (fun W hW => negP hpc3 W)
      rintro _ ⟨v36, rfl, h36⟩
      simp only [Act.put, List.setIfInBounds_toArray, List.set_cons_succ, List.set_cons_zero]
      apply lg_load 28 (.tmp 3) rfl g3 0 c3 _ Bn3.rng Ln3 Tryd.underlying28 rfl hpc3.size rfl rfl
      simp only [Act.put, List.setIfInBounds_toArray, List.set_cons_succ, List.set_cons_zero]
      refine lg_nil ?_
      intro WV hC
      refine wpList_gen (fun W => Blk W g3 28 c3 ∧ Blk W g6 28 c6 ∧ Below w.heap.size w W ∧ Tab3 W) ⟨Bn3.later hC.1, Bn6.later hC.1, HB.then_ hC.1, HT.later hC.1⟩ ?_
      clear hC Bp1 Bn3 Bn5 Bn6 HB HT Lp1 Ln3 Ln5 Ln6
      rintro WU ⟨Bn3, Bn6, HB, HT⟩
      have hcall : ∀ W, Calls Tryd.prog 16 #[.agg (v36).toArray, .agg (c3).toArray] W fun e w' => e = .returned (.bool true) ∧ Below W.heap.size W w' := fun W => (isP h36 hpc3 W).mono fun e W' ⟨b, h1, h2, h3⟩ => ⟨by rw [h1, h2.2 hn], h3⟩
      go_wp2_with fail
      refine (hcall _).mono ?_
      rintro e WT ⟨rfl, bT⟩
      replace Bn3 := Bn3.later bT
      replace Bn6 := Bn6.later bT
      replace HB := HB.then_ bT
      replace HT := HT.later bT
      clear bT hcall
      have HF := Lib.hid HB
      clear Bn3 Bn6 HB HT
      rw [hf]
      go_wp2_with fail
      go_ret
      exact ⟨rfl, HF.out⟩
    · obtain ⟨hf, hq⟩ := signs_other hxs hk hn
      replace hpc6 := hpc6 hf
      rw [hq] at hpc6
      go_wp2_with fail
      apply wp_region_g 3 (by kernel_rfl) (by kernel_rfl)
      simp only [List.take_succ_cons, List.take_zero, List.drop_succ_cons, List.drop_zero]
      apply lg_load 28 (.tmp 3) rfl g3 0 c3 _ Bn3.rng Ln3 Tryd.underlying28 rfl hpc3.size rfl rfl
      simp only [Act.put, List.setIfInBounds_toArray, List.set_cons_succ, List.set_cons_zero]
      apply lg_call_in (fun v => ∃ c, v = .agg c.toArray ∧ PL c ((decP xs).neg)) 20 #[.agg (c3).toArray] rfl (by intro W; go_simp) (fun W hW => negP hpc3 W)
      rintro _ ⟨v36, rfl, h36⟩
      simp only [Act.put, List.setIfInBounds_toArray, List.set_cons_succ, List.set_cons_zero]
      apply lg_load 28 (.tmp 3) rfl g3 0 c3 _ Bn3.rng Ln3 Tryd.underlying28 rfl hpc3.size rfl rfl
      simp only [Act.put, List.setIfInBounds_toArray, List.set_cons_succ, List.set_cons_zero]
      refine lg_nil ?_
      intro WV hC
      refine wpList_gen (fun W => Blk W g3 28 c3 ∧ Blk W g6 28 c6 ∧ Below w.heap.size w W ∧ Tab3 W) ⟨Bn3.later hC.1, Bn6.later hC.1, HB.then_ hC.1, HT.later hC.1⟩ ?_
      clear hC Bp1 Bn3 Bn5 Bn6 HB HT Lp1 Ln3 Ln5 Ln6
      rintro WU ⟨Bn3, Bn6, HB, HT⟩
      have hcall : ∀ W, Calls Tryd.prog 16 #[.agg (v36).toArray, .agg (c3).toArray] W fun e w' => e = .returned (.bool false) ∧ Below W.heap.size W w' := fun W => (isP h36 hpc3 W).mono fun e W' ⟨b, h1, h2, h3⟩ => ⟨by rw [h1, show b = false from Bool.eq_false_iff.2 (fun hb => hn (h2.1 hb))], h3⟩
      go_wp2_with fail
      refine (hcall _).mono ?_
      rintro e WT ⟨rfl, bT⟩
      replace Bn3 := Bn3.later bT
      replace Bn6 := Bn6.later bT
      replace HB := HB.then_ bT
      replace HT := HT.later bT
      clear bT hcall
      rw [hf]
      go_upto_region 11 with fail
      have Ln3 := Bn3.lt
      have Ln6 := Bn6.lt
      go_wp2_with fail
      apply wp_region_g 14 (by kernel_rfl) (by kernel_rfl)
      simp only [List.take_succ_cons, List.take_zero, List.drop_succ_cons, List.drop_zero]
      apply lg_pure (.bool true) rfl (by intro W; go_simp)
      simp only [Act.put, List.setIfInBounds_toArray, List.set_cons_succ, List.set_cons_zero]
      apply lg_pure (.bool true) rfl (by intro W; go_simp)
      simp only [Act.put, List.setIfInBounds_toArray, List.set_cons_succ, List.set_cons_zero]
      apply lg_load 28 (.tmp 6) rfl g6 0 c6 _ Bn6.rng Ln6 Tryd.underlying28 rfl hpc6.size rfl rfl
      simp only [Act.put, List.setIfInBounds_toArray, List.set_cons_succ, List.set_cons_zero]
      apply lg_load 28 (.tmp 3) rfl g3 0 c3 _ Bn3.rng Ln3 Tryd.underlying28 rfl hpc3.size rfl rfl
      simp only [Act.put, List.setIfInBounds_toArray, List.set_cons_succ, List.set_cons_zero]
      apply lg_call_in (fun v => ∃ c, v = .agg c.toArray ∧ PL c ((decP xs).neg)) 20 #[.agg (c3).toArray] rfl (by intro W; go_simp) (fun W hW => negP hpc3 W)
      rintro _ ⟨v45, rfl, h45⟩
      simp only [Act.put, List.setIfInBounds_toArray, List.set_cons_succ, List.set_cons_zero]
      apply lg_callx (.bool true) 16 #[.agg (c6).toArray, .agg (v45).toArray] rfl (by intro W; go_simp) (fun W => (isP hpc6 h45 W).mono fun e W' ⟨b, h1, h2, h3⟩ => ⟨by rw [h1, h2.2 rfl], h3⟩)
      simp only [Act.put, List.setIfInBounds_toArray, List.set_cons_succ, List.set_cons_zero]
      apply lg_pure (.bool true) rfl (by intro W; go_simp)
      simp only [Act.put, List.setIfInBounds_toArray, List.set_cons_succ, List.set_cons_zero]
      apply lg_pure (.bool true) rfl (by intro W; go_simp)
      simp only [Act.put, List.setIfInBounds_toArray, List.set_cons_succ, List.set_cons_zero]
      apply lg_load 28 (.tmp 3) rfl g3 0 c3 _ Bn3.rng Ln3 Tryd.underlying28 rfl hpc3.size rfl rfl
      simp only [Act.put, List.setIfInBounds_toArray, List.set_cons_succ, List.set_cons_zero]
      apply lg_load 28 (.tmp 6) rfl g6 0 c6 _ Bn6.rng Ln6 Tryd.underlying28 rfl hpc6.size rfl rfl
      simp only [Act.put, List.setIfInBounds_toArray, List.set_cons_succ, List.set_cons_zero]
      apply lg_call_in (fun v => ∃ c, v = .agg c.toArray ∧ PL c ((decP xs).add ((decP xs).neg))) 18 #[.agg (c3).toArray, .agg (c6).toArray] rfl (by intro W; go_simp) (fun W hW => addP hpc3 hpc6 W (HT.1.later hW))
      rintro _ ⟨v51, rfl, h51⟩
      simp only [Act.put, List.setIfInBounds_toArray, List.set_cons_succ, List.set_cons_zero]
      apply lg_call_in (fun v => ∃ c, v = .agg c.toArray ∧ PL c Pt.zero) 10 #[] rfl (by intro W; go_simp) (fun W hW => zero_calls W)
      rintro _ ⟨v52, rfl, h52⟩
      simp only [Act.put, List.setIfInBounds_toArray, List.set_cons_succ, List.set_cons_zero]
      apply lg_callx (.bool true) 16 #[.agg (v51).toArray, .agg (v52).toArray] rfl (by intro W; go_simp) (fun W => (isP h51 h52 W).mono fun e W' ⟨b, h1, h2, h3⟩ => ⟨by rw [h1, h2.2 (Pt.add_neg _)], h3⟩)
      simp only [Act.put, List.setIfInBounds_toArray, List.set_cons_succ, List.set_cons_zero]
      apply lg_pure (.bool true) rfl (by intro W; go_simp)
      simp only [Act.put, List.setIfInBounds_toArray, List.set_cons_succ, List.set_cons_zero]
      refine lg_nil ?_
      intro WY hC
      have HL := Lib.hid (HB.then_ hC.1)
      clear hC
      go_wp2_with fail
      go_ret
      exact ⟨rfl, HL.out⟩
end Go.Proofs.YtoligamlafgaoaaDoor
