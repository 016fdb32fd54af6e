/- Layer 7: the program's Verify, walked. -/
import Derived.Test.YtkfdclnaaphdgaaDoorSgH
import Derived.Test.YtkfdclnaaphdgaaDoorCvJ
namespace Go.Proofs.YtkfdclnaaphdgaaDoor
open Go.ChangeShapes Go.WideShapes Go.ChangeAt Go.RowKit Go.IntWalk
set_option linter.unusedVariables false

theorem eqin_bytes7 (b c : List UInt8) (hb : b.length = 32) (hc : c.length = 32) (W : World) : (Op.equalIn 10000 22 (A32 b) (A32 c)).run Tryd.prog W = .ok (b == c) W :=
  run_equalIn_bytes W 9998 22 5 32 Tryd.underlying22 Tryd.underlying5 (fun w => Tryd.sizeOf5 w) b c hb hc
theorem Blk.srcL {W : World} {g : Nat} {T : TypeId} {xs ys : List Value} (h : Blk W g T (xs ++ ys)) (hl : xs.length = 32) : ∀ j v, xs[j]? = some v → W.cell? ((⟨g, 0, none⟩ : Addr).add j) = some v := by
  intro j v hj
  have e : (⟨g, 0, none⟩ : Addr).add j = ⟨g, j, none⟩ := by unfold Addr.add; split <;> simp_all
  have hjl := (List.getElem?_eq_some_iff.1 hj).1
  rw [e]; exact h.cell (by rw [List.getElem?_append_left hjl]; exact hj)
theorem Blk.srcH {W : World} {g : Nat} {T : TypeId} {xs ys : List Value} (h : Blk W g T (xs ++ ys)) (hl : xs.length = 32) : ∀ j v, ys[j]? = some v → W.cell? ((⟨g, 32, none⟩ : Addr).add j) = some v := by
  intro j v hj
  have e : (⟨g, 32, none⟩ : Addr).add j = ⟨g, 32 + j, none⟩ := by unfold Addr.add; split <;> simp_all
  rw [e]; exact h.cell (by rw [List.getElem?_append_right (by omega), hl, Nat.add_sub_cancel_left]; exact hj)
set_option maxRecDepth 100000 in
set_option maxHeartbeats 8000000 in
theorem verify_calls (key : List UInt8) (hk : key.length = 32) (A : Option Addr) (n c : Nat) (msg : List UInt8) (hn : Hid (n = msg.length)) (hc : n ≤ c) (hm : msg.length < 2 ^ 29) (fst snd : List UInt8) (hf : fst.length = 32) (hz : snd.length = 32) (w : World) (hr : RB w A msg) (hT : Tab7 w) :
    Calls Tryd.prog 13 #[.agg (u8s key).toArray, .slice A n c, .agg (u8s (fst ++ snd)).toArray] w fun e w' => e = .returned (.bool (verB key msg fst snd)) ∧ Below w.heap.size w w' := by
  have HVB : Hid (verB key msg fst snd = (dOk key && (decide (Sc.leN snd < Sc.LO) && (encL (verP key fst msg snd) == fst)))) := Lib.hid (by unfold verB; rw [leN_same, LO_same])
  have HVP : Hid ((Pt.times (leN snd) baseP).add (Pt.times (leN (hR (fst ++ (key ++ msg)))) (decP key)).neg = verP key fst msg snd) := Lib.hid rfl
  obtain ⟨ux, hux, lux, oux, HRX, HMX⟩ := rest_known7 [fst, key, msg] (fst ++ (key ++ msg)) (by simp) 3 rfl (by decide) (by rw [List.length_append, List.length_append, hf, hk]; omega)
  have HDC : Hid (∀ W, TabD W → Calls Tryd.prog 28 #[.agg (u8s key).toArray] W (DPost key W)) := Lib.hid (fun W hT => decode_calls key hk W hT)
  have HGD : Hid (∀ W, Sc.Tab W → Calls Tryd.prog 15 #[.agg (u8s snd).toArray] W fun e w' => e = .returned (.bool (decide (Sc.leN snd < Sc.LO))) ∧ Below W.heap.size W w') := Lib.hid (fun W hT => Sc.good_calls snd hz W hT)
  have HMS : Hid (∀ c p W, PL c p → TabD W → Calls Tryd.prog 18 #[.agg c.toArray, .agg (u8s snd).toArray] W (PPost (Pt.times (leN snd) p) W)) := Lib.hid (fun c p W h hT => mulP h snd hz W hT)
  obtain ⟨ue, hue, oue, lue, HEN⟩ := enc_known (encL (verP key fst msg snd))
  rw [enc_len] at lue
  have HGQ := Lib.hid (fun op x y W => guard_bytes op (encL (verP key fst msg snd)) fst x y W)
  have HQQ := Lib.hid (fun W => eqin_bytes7 (encL (verP key fst msg snd)) fst (enc_len _) hf W)
  unfold A32 at HGQ HQQ
  have HRB3 : Hid (∀ (W : World) (g k q : Nat), Blk W g 22 (u8s fst) → Blk W k 22 (u8s key) → RB W A msg → W.heap[q]? = some (.cells #[.slice (some ⟨g, 0, none⟩) 32 32, .slice (some ⟨k, 0, none⟩) 32 32, .slice A n c] 25 (0, 0)) → RBq W (some ⟨q, 0, none⟩) [fst, key, msg]) :=
    Lib.hid (fun W g k q h h2 hr hq => rbq3 (T := 25) hq (UBlk.rb h) (Lib.hid hf.symm) (Nat.le_refl _) (UBlk.rb h2) (Lib.hid hk.symm) (Nat.le_refl _) hr hn hc)
  have luk : (u8s key).length = 32 := by rw [u8s_len, hk]
  have luf : (u8s fst).length = 32 := by rw [u8s_len, hf]
  have luz : (u8s snd).length = 32 := by rw [u8s_len, hz]
  have auf := u8s_all fst
  have auz := u8s_all snd
  rw [show u8s (fst ++ snd) = u8s fst ++ u8s snd from (u8s_app _ _).symm]
  obtain ⟨uk, huk⟩ : ∃ q, u8s key = q := ⟨_, rfl⟩
  obtain ⟨uf, huf⟩ : ∃ q, u8s fst = q := ⟨_, rfl⟩
  obtain ⟨uz, huz⟩ : ∃ q, u8s snd = q := ⟨_, rfl⟩
  rw [hue] at HGQ HQQ
  rw [huk] at HDC HRB3 luk ⊢
  rw [huf] at HRB3 HGQ HQQ luf auf ⊢
  rw [huz] at HGD HMS luz auz ⊢
  have HC := Lib.hid hc
  have szk := sz32 luk
  have szf := sz32 luf
  have szz := sz32 luz
  have szx := sz32 lux
  have sAx := sz32A lux
  have lus : (uf ++ uz).length = 64 := by rw [List.length_append, luf, luz]
  have HAF := Lib.hid auf
  have HAZ := Lib.hid auz
  clear hux hue huk huf huz hk hf hz hn hc hm auf auz
  obtain ⟨eq, heq⟩ : ∃ b, (encL (verP key fst msg snd) == fst) = b := ⟨_, rfl⟩
  obtain ⟨gd, hgd⟩ : ∃ b, decide (Sc.leN snd < Sc.LO) = b := ⟨_, rfl⟩
  obtain ⟨dk, hdk⟩ : ∃ b, dOk key = b := ⟨_, rfl⟩
  rw [heq] at HQQ HVB
  rw [hgd] at HGD HVB
  rw [hdk] at HVB
  have HDK := Lib.hid hdk
  clear heq hgd hdk
  go_enter Tryd.func13, Tryd.ntmps13
  go_upto_region 1 with fail
  go_upto_region 2 with fail
  refine wp_gen (fun W => Blk W w.heap.size 22 uk ∧ Blk W (w.heap.size + 1) 28 (uf ++ uz) ∧ Blk W (w.heap.size + 1 + 1) 22 C32 ∧ Blk W (w.heap.size + 1 + 1 + 1) 22 C32 ∧ RB W A msg ∧ Below w.heap.size w W ∧ Tab7 W) ?_ ?_
  · obtain ⟨a0, a1, a2, a3, hb⟩ := alloc4 w uk (uf ++ uz) C32 C32 22 28 22 22
    exact ⟨a0, a1, a2, a3, hr.below hb, hb, hT.later hb⟩
  rintro V1 ⟨Bk, Bs, Bf, Bz, HR, HB, HT⟩
  have Lk := Bk.lt
  have Ls := Bs.lt
  have Lf := Bf.lt
  have Lz := Bz.lt
  have HRW := Lib.hid hr
  have HTW := Lib.hid hT
  clear hr hT
  go_wp2_with fail
  apply wp_region_g 2 (by kernel_rfl) (by kernel_rfl)
  simp only [List.take_succ_cons, List.take_zero, List.drop_succ_cons, List.drop_zero]
  apply lg_pure (.slice (some ⟨w.heap.size + 1 + 1, 0, none⟩) 32 32) rfl (by intro W; go_simp)
  simp only [Act.put, List.setIfInBounds_toArray, List.set_cons_succ, List.set_cons_zero]
  apply lg_pure (.slice (some ⟨w.heap.size + 1, 0, none⟩) 32 64) rfl (by intro W; go_simp)
  simp only [Act.put, List.setIfInBounds_toArray, List.set_cons_succ, List.set_cons_zero]
  refine lg_nil ?_
  intro WY hC
  refine wpList_copy_own rfl (.tmp 12) (.tmp 13) 25 25 rfl 5 Tryd.underlying25 (by kernel_rfl) (w.heap.size + 1 + 1) 0 32 32 ⟨w.heap.size + 1, 0, none⟩ 32 64 rfl rfl _ 22 (Bf.later hC.1) uf luf (Blk.srcL (Bs.later hC.1) luf) (by rw [luf]; decide) HAF.out ?_
  rw [row_whole C32 _ (by rw [luf]; rfl)]
  have hbn := below_setRow (HB.then_ hC.1) (show w.heap.size ≤ (w.heap.size + 1 + 1) by omega) uf.toArray
  refine wpList_gen (fun W => Blk W w.heap.size 22 uk ∧ Blk W (w.heap.size + 1) 28 (uf ++ uz) ∧ Blk W (w.heap.size + 1 + 1) 22 uf ∧ Blk W (w.heap.size + 1 + 1 + 1) 22 C32 ∧ RB W A msg ∧ Below w.heap.size w W ∧ Tab7 W) ⟨(setRow_other _ _ _ _ (by omega)).trans (Bk.later hC.1), (setRow_other _ _ _ _ (by omega)).trans (Bs.later hC.1), (Bf.later hC.1).setRow _, (setRow_other _ _ _ _ (by omega)).trans (Bz.later hC.1), HRW.out.below hbn, hbn, HTW.out.later hbn⟩ ?_
  clear Lk Ls Lf Lz Bk Bs Bf Bz HR HB HT hC hbn
  rintro V2 ⟨Bk, Bs, Bf, Bz, HR, HB, HT⟩
  have Lk := Bk.lt
  have Ls := Bs.lt
  have Lf := Bf.lt
  have Lz := Bz.lt
  go_upto_region 3 with fail
  go_wp2_with fail
  apply wp_region_g 2 (by kernel_rfl) (by kernel_rfl)
  simp only [List.take_succ_cons, List.take_zero, List.drop_succ_cons, List.drop_zero]
  apply lg_pure (.slice (some ⟨w.heap.size + 1 + 1 + 1, 0, none⟩) 32 32) rfl (by intro W; go_simp)
  simp only [Act.put, List.setIfInBounds_toArray, List.set_cons_succ, List.set_cons_zero]
  apply lg_pure (.slice (some ⟨w.heap.size + 1, 32, none⟩) 32 32) rfl (by intro W; go_simp)
  simp only [Act.put, List.setIfInBounds_toArray, List.set_cons_succ, List.set_cons_zero]
  refine lg_nil ?_
  intro WY hC
  refine wpList_copy_own rfl (.tmp 15) (.tmp 16) 25 25 rfl 5 Tryd.underlying25 (by kernel_rfl) (w.heap.size + 1 + 1 + 1) 0 32 32 ⟨w.heap.size + 1, 32, none⟩ 32 32 rfl rfl _ 22 (Bz.later hC.1) uz luz (Blk.srcH (Bs.later hC.1) luf) (by rw [luz]; decide) HAZ.out ?_
  rw [row_whole C32 _ (by rw [luz]; rfl)]
  have hbn := below_setRow (HB.then_ hC.1) (show w.heap.size ≤ (w.heap.size + 1 + 1 + 1) by omega) uz.toArray
  refine wpList_gen (fun W => Blk W w.heap.size 22 uk ∧ Blk W (w.heap.size + 1) 28 (uf ++ uz) ∧ Blk W (w.heap.size + 1 + 1) 22 uf ∧ Blk W (w.heap.size + 1 + 1 + 1) 22 uz ∧ RB W A msg ∧ Below w.heap.size w W ∧ Tab7 W) ⟨(setRow_other _ _ _ _ (by omega)).trans (Bk.later hC.1), (setRow_other _ _ _ _ (by omega)).trans (Bs.later hC.1), (setRow_other _ _ _ _ (by omega)).trans (Bf.later hC.1), (Bz.later hC.1).setRow _, HRW.out.below hbn, hbn, HTW.out.later hbn⟩ ?_
  clear Lk Ls Lf Lz Bk Bs Bf Bz HR HB HT hC hbn
  rintro V3 ⟨Bk, Bs, Bf, Bz, HR, HB, HT⟩
  have Lk := Bk.lt
  have Ls := Bs.lt
  have Lf := Bf.lt
  have Lz := Bz.lt
  go_upto_region 4 with fail
  go_wp2_with (refine wpList_load_mid rfl 22 _ rfl w.heap.size 0 rfl uk _ Bk.rng Tryd.underlying22 rfl szk ?_)
  refine (HDC.out _ HT.1.2.1).mono ?_
  rintro e W4 ⟨cp, rfl, lcp, ocp, hpp, b2⟩
  rw [HDK.out]
  have sAp : (Tryd.prog.info? 42).map (·.size) = some cp.toArray.size := by rw [List.size_toArray, lcp]; exact size20
  obtain ⟨T0, HL, N0⟩ := letS (W := W4) (T := 42) (z := C20) (cs := cp) (by rw [lcp]; rfl)
  go_upto_region 5 with (refine wpList_store_mid rfl 42 _ _ rfl W4.heap.size 0 cp.toArray rfl rfl T0 sAp ocp ?_)
  have bb := b2.then_ HL
  obtain ⟨gp, eg⟩ : ∃ g, W4.heap.size = g := ⟨_, rfl⟩
  rw [eg] at N0 ⊢
  have hE : Hid (W4.heap.size = gp) := Lib.hid eg
  refine wp_gen (fun W => Blk W w.heap.size 22 uk ∧ Blk W (w.heap.size + 1) 28 (uf ++ uz) ∧ Blk W (w.heap.size + 1 + 1) 22 uf ∧ Blk W (w.heap.size + 1 + 1 + 1) 22 uz ∧ Blk W gp 42 cp ∧ RB W A msg ∧ Below w.heap.size w W ∧ Tab7 W) ⟨hE.out ▸ Bk.later bb, hE.out ▸ Bs.later bb, hE.out ▸ Bf.later bb, hE.out ▸ Bz.later bb, N0, hE.out ▸ HR.below bb, hE.out ▸ HB.then_ bb, hE.out ▸ HT.later bb⟩ ?_
  clear Lk Ls Lf Lz Bk Bs Bf Bz HR HB HT T0 HL N0 eg hE bb b2
  rintro V4 ⟨Bk, Bs, Bf, Bz, Bp, HR, HB, HT⟩
  have Lk := Bk.lt
  have Ls := Bs.lt
  have Lf := Bf.lt
  have Lz := Bz.lt
  have Lp := Bp.lt
  cases dk with
  | false =>
    have HF := Lib.hid HB
    have HVV : Hid (verB key msg fst snd = false) := Lib.hid (by rw [HVB.out]; rfl)
    clear Lk Ls Lf Lz Lp Bk Bs Bf Bz Bp HR HB HT
    go_wp2_with fail
    all_goals (go_ret; exact ⟨by rw [HVV.out]; rfl, HF.out⟩)
  | true =>
    replace hpp := hpp HDK.out
    go_wp2_with (refine wpList_load_w rfl 22 (.tmp 8) rfl (w.heap.size + 1 + 1 + 1) 0 rfl uz _ Bz.rng Tryd.underlying22 rfl szz ?_)
    refine (HGD.out _ HT.2).mono ?_
    rintro e W5 ⟨rfl, b2⟩
    replace Bk := Bk.later b2
    replace Lk := Bk.lt
    replace Bs := Bs.later b2
    replace Ls := Bs.lt
    replace Bf := Bf.later b2
    replace Lf := Bf.lt
    replace Bz := Bz.later b2
    replace Lz := Bz.lt
    replace Bp := Bp.later b2
    replace Lp := Bp.lt
    replace HR := HR.below b2
    replace HB := HB.then_ b2
    replace HT := HT.later b2
    clear b2
    cases gd with
    | false =>
      have HF := Lib.hid HB
      have HVV : Hid (verB key msg fst snd = false) := Lib.hid (by rw [HVB.out]; rfl)
      clear Lk Ls Lf Lz Lp Bk Bs Bf Bz Bp HR HB HT
      go_wp2_with fail
      all_goals (go_ret; exact ⟨by rw [HVV.out]; rfl, HF.out⟩)
    | true =>
      have HVV : Hid (verB key msg fst snd = eq) := Lib.hid (by rw [HVB.out]; rfl)
      go_upto_region 7 with fail
      go_wp2_with fail
      apply wp_region_gs 6 [33, 11] [34] (by kernel_rfl) (by kernel_rfl) (by kernel_rfl)
      simp only [List.take_succ_cons, List.take_zero, List.drop_succ_cons, List.drop_zero]
      apply gs_pure (.slice (some ⟨w.heap.size + 1 + 1, 0, none⟩) 32 32) rfl (by intro W; go_simp)
      simp only [Act.put, List.setIfInBounds_toArray, List.set_cons_succ, List.set_cons_zero]
      apply gs_pure (.slice (some ⟨w.heap.size, 0, none⟩) 32 32) rfl (by intro W; go_simp)
      simp only [Act.put, List.setIfInBounds_toArray, List.set_cons_succ, List.set_cons_zero]
      apply gs_pure (.slice A n c) rfl (by intro W; go_simp)
      simp only [Act.put, List.setIfInBounds_toArray, List.set_cons_succ, List.set_cons_zero]
      apply gs_allocV (fun h => .slice (some ⟨h, 0, none⟩) 3 3) (.cells #[.slice (some ⟨w.heap.size + 1 + 1, 0, none⟩) 32 32, .slice (some ⟨w.heap.size, 0, none⟩) 32 32, .slice A n c] 25) (.cells #[.slice (some ⟨w.heap.size + 1 + 1, 0, none⟩) 32 32, .slice (some ⟨w.heap.size, 0, none⟩) 32 32, .slice A n c] 25) rfl rfl (by intro W; go_simp) (fun W => heap_alloc_new W _)
      intro gq eq1
      simp only [Act.put, List.setIfInBounds_toArray, List.set_cons_succ, List.set_cons_zero]
      apply gs_callxS (.agg ux.toArray) 24 #[.slice (some ⟨gq, 0, none⟩) 3 3] rfl rfl (by intro W; go_simp) (fun W hW => HRX.out W _ (HT.later hW.1) (HRB3.out W _ _ gq (Bf.later hW.1) (Bk.later hW.1) (HR.below hW.1) (hW.2 gq _ (by simp [upd])).2))
      simp only [Act.put, List.setIfInBounds_toArray, List.set_cons_succ, List.set_cons_zero]
      apply gs_alloc (.cells C32.toArray 22) (.cells C32.toArray 22) rfl rfl (by intro W; go_simp; rfl) (fun W => heap_alloc_new W _)
      intro gx egx
      simp only [Act.put, List.setIfInBounds_toArray, List.set_cons_succ, List.set_cons_zero]
      refine gs_nil ?_
      intro WY hC
      obtain ⟨T0, HL, N0, G0⟩ := letG (z := C32) (cs := ux) (T := 22) (g := gx) hC (by simp [upd]) (by rw [lux]; rfl)
      refine wpList_store_mid rfl 22 _ _ rfl gx 0 ux.toArray rfl rfl T0 sAx oux ?_
      simp only [Act.put]
      refine wpList_gen (fun W => Blk W w.heap.size 22 uk ∧ Blk W (w.heap.size + 1) 28 (uf ++ uz) ∧ Blk W (w.heap.size + 1 + 1) 22 uf ∧ Blk W (w.heap.size + 1 + 1 + 1) 22 uz ∧ Blk W gp 42 cp ∧ Blk W gx 22 ux ∧ RB W A msg ∧ Below w.heap.size w W ∧ Tab7 W) ⟨Bk.later HL, Bs.later HL, Bf.later HL, Bz.later HL, Bp.later HL, N0, HR.below HL, HB.then_ HL, HT.later HL⟩ ?_
      clear Lk Ls Lf Lz Lp Bk Bs Bf Bz Bp HR HB HT hC T0 HL N0 G0
      rintro V31 ⟨Bk, Bs, Bf, Bz, Bp, Bx, HR, HB, HT⟩
      have Lk := Bk.lt
      have Ls := Bs.lt
      have Lf := Bf.lt
      have Lz := Bz.lt
      have Lp := Bp.lt
      have Lx := Bx.lt
      go_upto_region 8 with fail
      go_wp2_with fail
      apply wp_region_g 11 (by kernel_rfl) (by kernel_rfl)
      simp only [List.take_succ_cons, List.take_zero, List.drop_succ_cons, List.drop_zero]
      apply lg_call_in (fun v => ∃ c, v = .agg c.toArray ∧ PL c (baseP)) 17 #[] rfl (by intro W; go_simp) (fun W hW => base_calls W (HT.1.2.2.later hW))
      rintro _ ⟨cb, rfl, hcb⟩
      simp only [Act.put, List.setIfInBounds_toArray, List.set_cons_succ, List.set_cons_zero]
      apply lg_load 22 (.tmp 8) rfl ((w.heap.size + 1 + 1 + 1)) 0 uz _ Bz.rng Lz Tryd.underlying22 rfl szz rfl rfl
      simp only [Act.put, List.setIfInBounds_toArray, List.set_cons_succ, List.set_cons_zero]
      apply lg_call_in (fun v => ∃ c, v = .agg c.toArray ∧ PL c (Pt.times (leN snd) baseP)) 18 #[.agg cb.toArray, .agg uz.toArray] rfl (by intro W; go_simp) (fun W hW => HMS.out _ _ W hcb (HT.1.2.1.later hW))
      rintro _ ⟨cm, rfl, hcm⟩
      simp only [Act.put, List.setIfInBounds_toArray, List.set_cons_succ, List.set_cons_zero]
      have szp := hpp.size
      apply lg_load 42 (.tmp 9) rfl gp 0 cp _ Bp.rng Lp Tryd.underlying42 rfl szp rfl rfl
      simp only [Act.put, List.setIfInBounds_toArray, List.set_cons_succ, List.set_cons_zero]
      apply lg_load 22 (.tmp 11) rfl gx 0 ux _ Bx.rng Lx Tryd.underlying22 rfl szx rfl rfl
      simp only [Act.put, List.setIfInBounds_toArray, List.set_cons_succ, List.set_cons_zero]
      apply lg_call_in (fun v => ∃ c, v = .agg c.toArray ∧ PL c (Pt.times (leN (hR (fst ++ (key ++ msg)))) (decP key))) 18 #[.agg cp.toArray, .agg ux.toArray] rfl (by intro W; go_simp) (fun W hW => HMX.out _ _ W hpp (HT.1.2.1.later hW))
      rintro _ ⟨cx, rfl, hcx⟩
      simp only [Act.put, List.setIfInBounds_toArray, List.set_cons_succ, List.set_cons_zero]
      apply lg_call_in (fun v => ∃ c, v = .agg c.toArray ∧ PL c ((Pt.times (leN (hR (fst ++ (key ++ msg)))) (decP key)).neg)) 30 #[.agg cx.toArray] rfl (by intro W; go_simp) (fun W hW => negP hcx W)
      rintro _ ⟨cn, rfl, hcn⟩
      simp only [Act.put, List.setIfInBounds_toArray, List.set_cons_succ, List.set_cons_zero]
      apply lg_call_in (fun v => ∃ c, v = .agg c.toArray ∧ PL c (verP key fst msg snd)) 29 #[.agg cm.toArray, .agg cn.toArray] rfl (by intro W; go_simp) (fun W hW => HVP.out ▸ addP hcm hcn W (HT.1.2.1.later hW))
      rintro _ ⟨cv, rfl, hcv⟩
      simp only [Act.put, List.setIfInBounds_toArray, List.set_cons_succ, List.set_cons_zero]
      apply lg_callx_in (.agg ue.toArray) 19 #[.agg cv.toArray] rfl (by intro W; go_simp) (fun W hW => HEN.out _ _ W hcv rfl)
      simp only [Act.put, List.setIfInBounds_toArray, List.set_cons_succ, List.set_cons_zero]
      apply lg_load 22 (.tmp 7) rfl ((w.heap.size + 1 + 1)) 0 uf _ Bf.rng Lf Tryd.underlying22 rfl szf rfl rfl
      simp only [Act.put, List.setIfInBounds_toArray, List.set_cons_succ, List.set_cons_zero]
      apply lg_pure (.bool eq) rfl (by intro W; have h1 := HGQ.out .eql (.tmp 43) (.tmp 44) W; have h2 := HQQ.out W; go_simp)
      simp only [Act.put, List.setIfInBounds_toArray, List.set_cons_succ, List.set_cons_zero]
      refine lg_nil ?_
      intro WY hC
      have HL := Lib.hid (HB.then_ hC.1)
      clear hC
      go_wp2_with fail
      go_ret
      exact ⟨by rw [HVV.out]; rfl, HL.out⟩
end Go.Proofs.YtkfdclnaaphdgaaDoor
