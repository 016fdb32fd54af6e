/- Layer 7: SignOnly, walked. -/
import Derived.Test.YtkfdclnaaphdgaaDoorSgM
import Derived.Laws.Cover3
namespace Go.Proofs.YtkfdclnaaphdgaaDoor
open Go.ChangeShapes Go.WideShapes Go.ChangeAt Go.RowKit Go.IntWalk
set_option linter.unusedVariables false

set_option maxRecDepth 100000 in
set_option maxHeartbeats 8000000 in
theorem signOnly_walk {w : World} (seed : List UInt8) (hs : seed.length = 32) (A : Option Addr) (n c : Nat) (msg : List UInt8) (hr : RB w A msg) (hn : Hid (n = msg.length)) (hc : n ≤ c) (other : List UInt8) (hl : other.length = 32) (hT : Tab7 w) :
    Calls Tryd.prog 7 #[.agg (seed.map fun c => Value.int .u8 (c.toNat : Int)).toArray, .slice A n c, .agg (other.map fun c => Value.int .u8 (c.toNat : Int)).toArray] w fun e w' => e = .returned (.bool true) ∧ Below w.heap.size w w' := by
  obtain ⟨ub, uk, us, hub, huk, hus, lub, luk, lus, ouk, ous, HCS, HPU, HVE, HGQ, HQQ⟩ := sign_known seed msg hs
  have HNE : Hid (∀ W : World, (Op.equalIn 10000 28 (.agg (u8s (firstL seed msg ++ other)).toArray) (.agg us.toArray)).run Tryd.prog W = .ok (firstL seed msg ++ other == sigL seed msg) W) := Lib.hid (fun W => hus ▸ eqin64 _ _ (by rw [List.length_append, firstL_len, hl]) (sigL_len _ _) W)
  have HGE : Hid (∀ (op : BinOp) (x y : Operand) (W : World), (eqGuard op 28 x y (.agg (u8s (firstL seed msg ++ other)).toArray) (.agg us.toArray)).run Tryd.prog W = .ok () W) := Lib.hid (fun op x y W => hus ▸ guard64 op _ _ x y W)
  have HVO : Hid (msg.length < 2 ^ 29 → (firstL seed msg ++ other == sigL seed msg) = false → ∀ W, RB W A msg → Tab7 W → Calls Tryd.prog 13 #[.agg uk.toArray, .slice A n c, .agg (u8s (firstL seed msg ++ other)).toArray] W fun e w' => e = .returned (.bool false) ∧ Below W.heap.size W w') := Lib.hid (fun hm hne W hr hT => by
    have := verify_calls (pubL seed) (enc_len _) A n c msg hn hc hm (firstL seed msg) other (firstL_len _ _) hl W hr hT
    rw [ver_only seed msg other hl (fun e => by rw [e] at hne; rw [show firstL seed msg ++ secondL seed msg = sigL seed msg from rfl, beq_self_eq_true] at hne; cases hne)] at this
    rw [← huk]; exact this)
  have HGD : Hid (∀ W, Sc.Tab W → Calls Tryd.prog 15 #[.agg (u8s (secondL seed msg)).toArray] W fun e w' => e = .returned (.bool true) ∧ Below W.heap.size W w') := Lib.hid (fun W hT => by
    have := Sc.good_calls (secondL seed msg) (secondL_len _ _) W hT
    rw [decide_eq_true (good_second seed msg)] at this
    exact this)
  have hsl : us = u8s (firstL seed msg) ++ u8s (secondL seed msg) := by rw [← hus, u8s_app]; rfl
  have htl : u8s (firstL seed msg ++ other) = u8s (firstL seed msg) ++ u8s other := (u8s_app _ _).symm
  have luf : (u8s (firstL seed msg)).length = 32 := by rw [u8s_len, firstL_len]
  have luz : (u8s (secondL seed msg)).length = 32 := by rw [u8s_len, secondL_len]
  have luo : (u8s other).length = 32 := by rw [u8s_len, hl]
  have auo := u8s_all other
  have lut : (u8s (firstL seed msg ++ other)).length = 64 := by rw [u8s_len, List.length_append, firstL_len, hl]
  rw [show (seed.map fun c => Value.int .u8 (c.toNat : Int)) = ub from hub, show (other.map fun c => Value.int .u8 (c.toNat : Int)) = u8s other from rfl]
  obtain ⟨ut, hut⟩ : ∃ q, u8s (firstL seed msg ++ other) = q := ⟨_, rfl⟩
  obtain ⟨uf, huf⟩ : ∃ q, u8s (firstL seed msg) = q := ⟨_, rfl⟩
  obtain ⟨uz, huz⟩ : ∃ q, u8s (secondL seed msg) = q := ⟨_, rfl⟩
  obtain ⟨uo, huo⟩ : ∃ q, u8s other = q := ⟨_, rfl⟩
  obtain ⟨ne, hne⟩ : ∃ b, (firstL seed msg ++ other == sigL seed msg) = b := ⟨_, rfl⟩
  rw [hut] at HNE HGE HVO htl lut
  rw [hne] at HNE HVO
  rw [huf] at hsl htl luf
  rw [huz] at hsl luz HGD
  rw [huo] at htl luo auo ⊢
  have HTL := Lib.hid htl
  have HSL := Lib.hid hsl
  have HAO := Lib.hid auo
  have szb := sz32 lub
  have szk := sz32 luk
  have szz := sz32 luz
  have sAk := sz32A luk
  have szs := sz64 lus
  have sAs := sz64A lus
  have szt := sz64 lut
  have HCC := Lib.hid hc
  clear hub huk hus hs hc hl hut huf huz huo hne hsl htl auo
  go_enter Tryd.func7, Tryd.ntmps7
  go_upto_region 1 with fail
  have HRW := Lib.hid hr
  have HTW := Lib.hid hT
  refine wp_gen (fun W => Blk W w.heap.size 22 ub ∧ Blk W (w.heap.size + 1) 22 uo ∧ RB W A msg ∧ Below w.heap.size w W ∧ Tab7 W) ?_ ?_
  · obtain ⟨a0, a1, hb⟩ := alloc2 w ub uo 22 22
    exact ⟨a0, a1, hr.below hb, hb, hT.later hb⟩
  rintro V1 ⟨Bp, Bo, HR, HB, HT⟩
  have Lp := Bp.lt
  have Lo := Bo.lt
  clear hr hT
  go_wp2_with fail
  refine (alive7_calls _ HT.1).mono ?_
  rintro e wz ⟨rfl, bz⟩
  replace Bp := Bp.later bz
  replace Lp := Bp.lt
  replace Bo := Bo.later bz
  replace Lo := Bo.lt
  replace HR := HR.below bz
  replace HB := HB.then_ bz
  replace HT := HT.later bz
  clear bz
  by_cases hbig : msg.length ≤ 1024
  case neg =>
    have hd : decide ((n : Int) > 1024) = true := by have := hn.out; simp; omega
    have HF := Lib.hid HB
    clear Lp Lo Bp Bo HR HB HT
    go_wp2_with fail
    go_ret
    exact ⟨rfl, HF.out⟩
  have hd : decide ((n : Int) > 1024) = false := by have := hn.out; simp; omega
  have hm : msg.length < 2 ^ 29 := by omega
  go_upto_region 5 with fail
  clear hd
  go_wp2_with (refine wpList_load_mid rfl 22 _ rfl w.heap.size 0 rfl ub _ Bp.rng Tryd.underlying22 rfl szb ?_)
  refine (HCS.out hm A n c _ hn HCC.out HR HT).mono ?_
  rintro e W2 ⟨rfl, b2⟩
  obtain ⟨T0, HL, N0⟩ := letS (W := W2) (T := 28) (z := Z64) (cs := us) (by rw [lus]; rfl)
  go_upto_region 6 with (refine wpList_store_mid rfl 28 _ _ rfl W2.heap.size 0 us.toArray rfl rfl T0 sAs ous ?_)
  have bb := b2.then_ HL
  obtain ⟨gs, eg⟩ : ∃ g, W2.heap.size = g := ⟨_, rfl⟩
  rw [eg] at N0 ⊢
  have hE : Hid (W2.heap.size = gs) := Lib.hid eg
  refine wp_gen (fun W => Blk W w.heap.size 22 ub ∧ Blk W (w.heap.size + 1) 22 uo ∧ Blk W gs 28 us ∧ RB W A msg ∧ Below w.heap.size w W ∧ Tab7 W) ⟨hE.out ▸ Bp.later bb, hE.out ▸ Bo.later bb, N0, hE.out ▸ HR.below bb, hE.out ▸ HB.then_ bb, hE.out ▸ HT.later bb⟩ ?_
  clear Lp Lo Bp Bo HR HB HT T0 HL N0 eg hE bb b2
  rintro V2 ⟨Bp, Bo, Bs, HR, HB, HT⟩
  have Lp := Bp.lt
  have Lo := Bo.lt
  have Ls := Bs.lt
  go_wp2_with (refine wpList_load_mid rfl 22 _ rfl w.heap.size 0 rfl ub _ Bp.rng Tryd.underlying22 rfl szb ?_)
  refine (HPU.out _ HT.1).mono ?_
  rintro e W3 ⟨rfl, b2⟩
  obtain ⟨T0, HL, N0⟩ := letS (W := W3) (T := 22) (z := C32) (cs := uk) (by rw [luk]; rfl)
  go_upto_region 7 with (refine wpList_store_mid rfl 22 _ _ rfl W3.heap.size 0 uk.toArray rfl rfl T0 sAk ouk ?_)
  have bb := b2.then_ HL
  obtain ⟨gk, eg⟩ : ∃ g, W3.heap.size = g := ⟨_, rfl⟩
  rw [eg] at N0 ⊢
  have hE : Hid (W3.heap.size = gk) := Lib.hid eg
  refine wp_gen (fun W => Blk W w.heap.size 22 ub ∧ Blk W (w.heap.size + 1) 22 uo ∧ Blk W gs 28 us ∧ Blk W gk 22 uk ∧ RB W A msg ∧ Below w.heap.size w W ∧ Tab7 W) ⟨hE.out ▸ Bp.later bb, hE.out ▸ Bo.later bb, hE.out ▸ Bs.later bb, N0, hE.out ▸ HR.below bb, hE.out ▸ HB.then_ bb, hE.out ▸ HT.later bb⟩ ?_
  clear Lp Lo Ls Bp Bo Bs HR HB HT T0 HL N0 eg hE bb b2
  rintro V3 ⟨Bp, Bo, Bs, Bk, HR, HB, HT⟩
  have Lp := Bp.lt
  have Lo := Bo.lt
  have Ls := Bs.lt
  have Lk := Bk.lt
  obtain ⟨T0, HL, N0⟩ := letS (W := V3) (T := 28) (z := Z64) (cs := us) (by rw [lus]; rfl)
  go_upto_region 8 with (first | (refine wpList_load_mid rfl 28 _ rfl gs 0 rfl us _ Bs.rng Tryd.underlying28 rfl szs ?_) | (refine wpList_store_mid rfl 28 _ _ rfl V3.heap.size 0 us.toArray rfl rfl T0 sAs ous ?_))
  obtain ⟨gt, eg⟩ : ∃ g, V3.heap.size = g := ⟨_, rfl⟩
  rw [eg] at N0 Lp Lo Ls Lk ⊢
  have hE : Hid (V3.heap.size = gt) := Lib.hid eg
  have HLT : Hid (w.heap.size < gt ∧ w.heap.size + 1 < gt ∧ gs < gt ∧ gk < gt) := Lib.hid ⟨Lp, Lo, Ls, Lk⟩
  refine wp_gen (fun W => Blk W w.heap.size 22 ub ∧ Blk W (w.heap.size + 1) 22 uo ∧ Blk W gs 28 us ∧ Blk W gk 22 uk ∧ Blk W gt 28 us ∧ RB W A msg ∧ Below w.heap.size w W ∧ Tab7 W) ⟨hE.out ▸ Bp.later HL, hE.out ▸ Bo.later HL, hE.out ▸ Bs.later HL, hE.out ▸ Bk.later HL, N0, hE.out ▸ HR.below HL, hE.out ▸ HB.then_ HL, hE.out ▸ HT.later HL⟩ ?_
  clear Lp Lo Ls Lk Bp Bo Bs Bk HR HB HT T0 HL N0 eg hE
  rintro V4 ⟨Bp, Bo, Bs, Bk, Bt, HR, HB, HT⟩
  have Lp := Bp.lt
  have Lo := Bo.lt
  have Ls := Bs.lt
  have Lk := Bk.lt
  have Lt := Bt.lt
  go_wp2_with fail
  apply wp_region_g 2 (by kernel_rfl) (by kernel_rfl)
  simp only [List.take_succ_cons, List.take_zero, List.drop_succ_cons, List.drop_zero]
  apply lg_pure (.slice (some ⟨gt, 32, none⟩) 32 32) rfl (by intro W; go_simp)
  simp only [Act.put, List.setIfInBounds_toArray, List.set_cons_succ, List.set_cons_zero]
  apply lg_pure (.slice (some ⟨w.heap.size + 1, 0, none⟩) 32 32) rfl (by intro W; go_simp)
  simp only [Act.put, List.setIfInBounds_toArray, List.set_cons_succ, List.set_cons_zero]
  refine lg_nil ?_
  intro WY hC
  obtain ⟨l1, l2, l3, l4⟩ := HLT.out
  refine wpList_copy_own rfl (.tmp 21) (.tmp 22) 25 25 rfl 5 Tryd.underlying25 (by kernel_rfl) gt 32 32 32 ⟨w.heap.size + 1, 0, none⟩ 32 32 rfl rfl _ 28 (Bt.later hC.1) uo luo (Bo.later hC.1).src0 (by rw [luo, List.size_toArray, lus]; decide) HAO.out ?_
  have htk : us.take 32 = uf := by rw [HSL.out]; exact List.take_left' luf
  rw [row_high us uo lus luo, htk, ← HTL.out]
  have hbn := below_setRow (HB.then_ hC.1) (show w.heap.size ≤ gt by omega) ut.toArray
  refine wpList_gen (fun W => Blk W w.heap.size 22 ub ∧ Blk W (w.heap.size + 1) 22 uo ∧ Blk W gs 28 us ∧ Blk W gk 22 uk ∧ Blk W gt 28 ut ∧ RB W A msg ∧ Below w.heap.size w W ∧ Tab7 W) ⟨(setRow_other _ _ _ _ (by omega)).trans (Bp.later hC.1), (setRow_other _ _ _ _ (by omega)).trans (Bo.later hC.1), (setRow_other _ _ _ _ (by omega)).trans (Bs.later hC.1), (setRow_other _ _ _ _ (by omega)).trans (Bk.later hC.1), (Bt.later hC.1).setRow _, HRW.out.below hbn, hbn, HTW.out.later hbn⟩ ?_
  clear Lp Lo Ls Lk Lt Bp Bo Bs Bk Bt HR HB HT hC hbn l1 l2 l3 l4 htk
  rintro V5 ⟨Bp, Bo, Bs, Bk, Bt, HR, HB, HT⟩
  have Lp := Bp.lt
  have Lo := Bo.lt
  have Ls := Bs.lt
  have Lk := Bk.lt
  have Lt := Bt.lt
  go_upto_region 9 with fail
  have hq1 := fun W => HGE.out .neq (.tmp 24) (.tmp 25) W
  have hq2 := HNE.out
  have HRZ : Hid (∀ W, Blk W gs 28 us → W.rangeAt gs 32 uz) := Lib.hid (fun W h => by
    have := h.rngAt 32 32
    rwa [show (us.drop 32).take 32 = uz by rw [HSL.out, List.drop_left' luf, List.take_of_length_le (by omega)]] at this)
  have hat : ∀ w, (Instr.arrayAt 22 (.slice (some ⟨gs, 32, none⟩) 32 32)).run Tryd.prog w = .ok (.pointer (some ⟨gs, 32, none⟩)) w := fun w => run_arrayAt w 22 _ 32 _ 32 32 Tryd.underlying22 (Nat.le_refl _)
  clear Lp Lo Ls Lk Lt
  cases ne with
  | false =>
    go_wp2_with (first
      | (refine wpList_load_w rfl 28 (.tmp 9) rfl gt 0 rfl ut _ Bt.rng Tryd.underlying28 rfl szt ?_)
      | (refine wpList_load_w rfl 28 (.tmp 7) rfl gs 0 rfl us _ Bs.rng Tryd.underlying28 rfl szs ?_)
      | (refine wpList_load_w rfl 22 (.tmp 8) rfl gk 0 rfl uk _ Bk.rng Tryd.underlying22 rfl szk ?_)
      | (refine wpList_load_w rfl 22 (.tmp 34) rfl gs 32 rfl uz _ (HRZ.out _ Bs) Tryd.underlying22 rfl szz ?_))
    refine (HVO.out hm (by simp) _ HR HT).mono ?_
    rintro e W9 ⟨rfl, b2⟩
    replace Bp := Bp.later b2; replace Bo := Bo.later b2; replace Bs := Bs.later b2; replace Bk := Bk.later b2; replace Bt := Bt.later b2; replace HR := HR.below b2; replace HB := HB.then_ b2; replace HT := HT.later b2; clear b2
    go_wp2_with (first
      | (refine wpList_load_w rfl 28 (.tmp 9) rfl gt 0 rfl ut _ Bt.rng Tryd.underlying28 rfl szt ?_)
      | (refine wpList_load_w rfl 28 (.tmp 7) rfl gs 0 rfl us _ Bs.rng Tryd.underlying28 rfl szs ?_)
      | (refine wpList_load_w rfl 22 (.tmp 8) rfl gk 0 rfl uk _ Bk.rng Tryd.underlying22 rfl szk ?_)
      | (refine wpList_load_w rfl 22 (.tmp 34) rfl gs 32 rfl uz _ (HRZ.out _ Bs) Tryd.underlying22 rfl szz ?_))
    refine (HGD.out _ HT.2).mono ?_
    rintro e W10 ⟨rfl, b2⟩
    replace Bp := Bp.later b2; replace Bo := Bo.later b2; replace Bs := Bs.later b2; replace Bk := Bk.later b2; replace Bt := Bt.later b2; replace HR := HR.below b2; replace HB := HB.then_ b2; replace HT := HT.later b2; clear b2
    go_wp2_with (first
      | (refine wpList_load_w rfl 28 (.tmp 9) rfl gt 0 rfl ut _ Bt.rng Tryd.underlying28 rfl szt ?_)
      | (refine wpList_load_w rfl 28 (.tmp 7) rfl gs 0 rfl us _ Bs.rng Tryd.underlying28 rfl szs ?_)
      | (refine wpList_load_w rfl 22 (.tmp 8) rfl gk 0 rfl uk _ Bk.rng Tryd.underlying22 rfl szk ?_)
      | (refine wpList_load_w rfl 22 (.tmp 34) rfl gs 32 rfl uz _ (HRZ.out _ Bs) Tryd.underlying22 rfl szz ?_))
    refine (HVE.out hm A n c _ hn HCC.out HR HT).mono ?_
    rintro e W11 ⟨rfl, b2⟩
    have HL := Lib.hid (HB.then_ b2)
    clear b2 HB HT HR Bp Bo Bs Bk Bt
    go_wp2_with fail
    go_ret
    exact ⟨rfl, HL.out⟩
  | true =>
    go_wp2_with (first
      | (refine wpList_load_w rfl 28 (.tmp 9) rfl gt 0 rfl ut _ Bt.rng Tryd.underlying28 rfl szt ?_)
      | (refine wpList_load_w rfl 28 (.tmp 7) rfl gs 0 rfl us _ Bs.rng Tryd.underlying28 rfl szs ?_)
      | (refine wpList_load_w rfl 22 (.tmp 8) rfl gk 0 rfl uk _ Bk.rng Tryd.underlying22 rfl szk ?_)
      | (refine wpList_load_w rfl 22 (.tmp 34) rfl gs 32 rfl uz _ (HRZ.out _ Bs) Tryd.underlying22 rfl szz ?_))
    refine (HGD.out _ HT.2).mono ?_
    rintro e W10 ⟨rfl, b2⟩
    replace Bp := Bp.later b2; replace Bo := Bo.later b2; replace Bs := Bs.later b2; replace Bk := Bk.later b2; replace Bt := Bt.later b2; replace HR := HR.below b2; replace HB := HB.then_ b2; replace HT := HT.later b2; clear b2
    go_wp2_with (first
      | (refine wpList_load_w rfl 28 (.tmp 9) rfl gt 0 rfl ut _ Bt.rng Tryd.underlying28 rfl szt ?_)
      | (refine wpList_load_w rfl 28 (.tmp 7) rfl gs 0 rfl us _ Bs.rng Tryd.underlying28 rfl szs ?_)
      | (refine wpList_load_w rfl 22 (.tmp 8) rfl gk 0 rfl uk _ Bk.rng Tryd.underlying22 rfl szk ?_)
      | (refine wpList_load_w rfl 22 (.tmp 34) rfl gs 32 rfl uz _ (HRZ.out _ Bs) Tryd.underlying22 rfl szz ?_))
    refine (HVE.out hm A n c _ hn HCC.out HR HT).mono ?_
    rintro e W11 ⟨rfl, b2⟩
    have HL := Lib.hid (HB.then_ b2)
    clear b2 HB HT HR Bp Bo Bs Bk Bt
    go_wp2_with fail
    go_ret
    exact ⟨rfl, HL.out⟩
end Go.Proofs.YtkfdclnaaphdgaaDoor
