/- Layer 7: SignBack, walked. -/
import Derived.Test.YtkfdclnaaphdgaaDoorSgJ
namespace Go.Proofs.YtkfdclnaaphdgaaDoor
open Go.ChangeShapes Go.WideShapes Go.ChangeAt Go.RowKit Go.IntWalk
set_option linter.unusedVariables false

theorem OwnBs.form3 {base : Nat} {w : World} {v : Value} {bs : List UInt8} (h : OwnBs base w v bs) :
    ∃ A n cap, v = .slice A n cap ∧ RB w A bs ∧ Hid (n = bs.length) ∧ n ≤ cap := by
  obtain ⟨A, n, cap, rfl, h1, h2⟩ := h.form
  refine ⟨A, n, cap, rfl, h1, h2, ?_⟩
  rcases h.2 with ⟨e, h0⟩ | ⟨g, cap2, cur, e, hb, hh, hn, hm, hs, ht⟩
  · injection e with _ e1 e2; omega
  · injection e with _ e1 e2; omega
theorem noGuard64 : Tryd.prog.eqGuardType Tryd.prog.depth 28 = false := by kernel_rfl
theorem guard64 (op : BinOp) (b c : List UInt8) (x y : Operand) (W : World) : (eqGuard op 28 x y (.agg (u8s b).toArray) (.agg (u8s c).toArray)).run Tryd.prog W = .ok () W :=
  run_eqGuard_agg W op 28 x y _ _ noGuard64
theorem eqin64 (b c : List UInt8) (hb : b.length = 64) (hc : c.length = 64) (W : World) : (Op.equalIn 10000 28 (.agg (u8s b).toArray) (.agg (u8s c).toArray)).run Tryd.prog W = .ok (b == c) W :=
  run_equalIn_bytes W 9998 28 5 64 Tryd.underlying28 Tryd.underlying5 (fun w => Tryd.sizeOf5 w) b c hb hc
/-- Sign of a seed, under names. -/
theorem sign_known (seed msg : List UInt8) (hs : seed.length = 32) : ∃ ub uk us : List Value, u8s seed = ub ∧ u8s (pubL seed) = uk ∧ u8s (sigL seed msg) = us ∧ ub.length = 32 ∧ uk.length = 32 ∧ us.length = 64 ∧ uk.toArray.all (·.oneCell') = true ∧ us.toArray.all (·.oneCell') = true ∧
    Hid (msg.length < 2 ^ 29 → ∀ A n c W, Hid (n = msg.length) → n ≤ c → RB W A msg → Tab7 W → Calls Tryd.prog 11 #[.agg ub.toArray, .slice A n c] W fun e w' => e = .returned (.agg us.toArray) ∧ Below W.heap.size W w') ∧
    Hid (∀ W, TabK W → Calls Tryd.prog 9 #[.agg ub.toArray] W fun e w' => e = .returned (.agg uk.toArray) ∧ Below W.heap.size W w') ∧
    Hid (msg.length < 2 ^ 29 → ∀ A n c W, Hid (n = msg.length) → n ≤ c → RB W A msg → Tab7 W → Calls Tryd.prog 13 #[.agg uk.toArray, .slice A n c, .agg us.toArray] W fun e w' => e = .returned (.bool true) ∧ Below W.heap.size W w') ∧
    Hid (∀ (op : BinOp) (x y : Operand) (W : World), (eqGuard op 28 x y (.agg us.toArray) (.agg us.toArray)).run Tryd.prog W = .ok () W) ∧ Hid (∀ W : World, (Op.equalIn 10000 28 (.agg us.toArray) (.agg us.toArray)).run Tryd.prog W = .ok true W) :=
  ⟨_, _, _, rfl, rfl, rfl, by rw [u8s_len, hs], by rw [u8s_len]; exact enc_len _, by rw [u8s_len, sigL_len], u8s_one _, u8s_one _,
    Lib.hid (fun hm A n c W hn hc hr hT => sign_calls seed hs A n c msg hn hc hm W hr hT), Lib.hid (fun W hT => public_calls seed hs W hT),
    Lib.hid (fun hm A n c W hn hc hr hT => by
      have := verify_calls (pubL seed) (enc_len _) A n c msg hn hc hm (firstL seed msg) (secondL seed msg) (firstL_len _ _) (secondL_len _ _) W hr hT
      rw [ver_sig] at this
      exact this),
    Lib.hid (fun op x y W => guard64 op _ _ x y W), Lib.hid (fun W => by have := eqin64 (sigL seed msg) (sigL seed msg) (sigL_len _ _) (sigL_len _ _) W; rwa [beq_self_eq_true] at this)⟩
set_option maxRecDepth 100000 in
set_option maxHeartbeats 8000000 in
theorem signBack_walk {w : World} (seed : List UInt8) (hs : seed.length = 32) (A : Option Addr) (n c : Nat) (msg : List UInt8) (hr : RB w A msg) (hn : Hid (n = msg.length)) (hc : n ≤ c) (hT : Tab7 w) :
    Calls Tryd.prog 6 #[.agg (seed.map fun c => Value.int .u8 (c.toNat : Int)).toArray, .slice A n c] w fun e w' => e = .returned (.bool true) ∧ Below w.heap.size w w' := by
  obtain ⟨ub, uk, us, hub, huk, hus, lub, luk, lus, ouk, ous, HCS, HPU, HVE, HGQ, HQQ⟩ := sign_known seed msg hs
  have HSM : Hid (∀ (W : World) A n c, Hid (n = msg.length) → RB W A msg → (convert 25 9 (.slice A n c)).run Tryd.prog W = .ok (.string ⟨msg.toArray⟩) W) := Lib.hid (fun W A n c hn h => run_str_rb W A n c msg h hn)
  rw [show (seed.map fun c => Value.int .u8 (c.toNat : Int)) = ub from hub]
  have szb := sz32 lub
  have szs := sz64 lus
  have sAs := sz64A lus
  have HCC := Lib.hid hc
  clear hub huk hus hs hc
  go_enter Tryd.func6, Tryd.ntmps6
  go_upto_region 1 with fail
  refine wp_gen (fun W => Blk W w.heap.size 22 ub ∧ RB W A msg ∧ Below w.heap.size w W ∧ Tab7 W) ?_ ?_
  · obtain ⟨a0, hb⟩ := alloc1 w ub 22
    exact ⟨a0, hr.below hb, hb, hT.later hb⟩
  rintro V1 ⟨Bp, HR, HB, HT⟩
  have Lp := Bp.lt
  clear hr hT
  go_wp2_with fail
  refine (alive7_calls _ HT.1).mono ?_
  rintro e wz ⟨rfl, bz⟩
  replace Bp := Bp.later bz
  replace Lp := Bp.lt
  replace HR := HR.below bz
  replace HB := HB.then_ bz
  replace HT := HT.later bz
  clear bz
  by_cases hbig : msg.length ≤ 1024
  case neg =>
    have hd : decide ((n : Int) > 1024) = true := by have := hn.out; simp; omega
    have HF := Lib.hid HB
    clear Lp Bp HR HB HT
    go_wp2_with fail
    go_ret
    exact ⟨rfl, HF.out⟩
  have hd : decide ((n : Int) > 1024) = false := by have := hn.out; simp; omega
  have hm : msg.length < 2 ^ 29 := by omega
  go_upto_region 5 with fail
  clear hd
  have h0 : OwnBs wz.heap.size (wz.alloc (.cells #[] 5)) (.slice (some ⟨wz.heap.size, 0, none⟩) 0 0) [] := OwnBs.made wz.heap.size wz #[] 0 (Nat.le_refl _) (by unfold maxLen; omega) rfl
  have b0 : Below wz.heap.size wz (wz.alloc (.cells #[] 5)) := (Below.refl _ _).alloc (Nat.le_refl _) _
  have r0 := HR.below b0
  have hlc : ([] : List UInt8).length + n ≤ 70368744177664 := by rw [hn.out]; simp; omega
  have hw0 : wz.heap.size ≤ (wz.alloc (.cells #[] 5)).heap.size := b0.size
  go_wp2_with (first
    | (refine wpList_append_rb rfl (.tmp 12) (.tmp 13) rfl wz.heap.size _ _ rfl h0 A n c msg rfl r0 hn hlc hw0 ?_; intro v1 w1 q1 g1; rw [List.nil_append] at q1; have b1 : Below wz.heap.size wz w1 := b0.grown g1 hw0 (fun k hk => (h0.lt k hk).1); obtain ⟨A2, n2, c2, rfl, hr2, hn2, hc2⟩ := q1.form3; have r1 := (Bp.later b1).rng)
    | (refine wpList_load_mid rfl 22 _ rfl w.heap.size 0 rfl ub _ r1 Tryd.underlying22 rfl szb ?_))
  have HC2 := Lib.hid hc2
  replace Bp := Bp.later b1
  replace Lp := Bp.lt
  replace HR := HR.below b1
  have HR2 := hr2
  replace HB := HB.then_ b1
  replace HT := HT.later b1
  clear b0 r0 hlc hw0 b1 h0 g1 q1 hr2 hc2 r1
  refine (HCS.out hm A2 n2 c2 _ hn2 HC2.out HR2 HT).mono ?_
  rintro e W2 ⟨rfl, b2⟩
  obtain ⟨T0, HL, N0⟩ := letS (W := W2) (T := 28) (z := Z64) (cs := us) (by rw [lus]; rfl)
  go_upto_region 7 with (refine wpList_store_mid rfl 28 _ _ rfl W2.heap.size 0 us.toArray rfl rfl T0 sAs ous ?_)
  have bb := b2.then_ HL
  obtain ⟨gs, eg⟩ : ∃ g, W2.heap.size = g := ⟨_, rfl⟩
  rw [eg] at N0 ⊢
  have hE : Hid (W2.heap.size = gs) := Lib.hid eg
  refine wp_gen (fun W => Blk W w.heap.size 22 ub ∧ Blk W gs 28 us ∧ RB W A msg ∧ RB W A2 msg ∧ Below w.heap.size w W ∧ Tab7 W) ⟨hE.out ▸ Bp.later bb, N0, hE.out ▸ HR.below bb, hE.out ▸ HR2.below bb, hE.out ▸ HB.then_ bb, hE.out ▸ HT.later bb⟩ ?_
  clear Lp Bp HR HR2 HB HT T0 HL N0 eg hE bb b2
  rintro V2 ⟨Bp, Bs, HR, HR2, HB, HT⟩
  have Lp := Bp.lt
  have Ls := Bs.lt
  go_wp2_with fail
  apply wp_region_g 19 (by kernel_rfl) (by kernel_rfl)
  simp only [List.take_succ_cons, List.take_zero, List.drop_succ_cons, List.drop_zero]
  apply lg_load 22 (.tmp 2) rfl w.heap.size 0 ub _ Bp.rng Lp Tryd.underlying22 rfl szb rfl rfl
  simp only [Act.put, List.setIfInBounds_toArray, List.set_cons_succ, List.set_cons_zero]
  apply lg_callx_in (.agg uk.toArray) 9 #[.agg ub.toArray] rfl (by intro W; go_simp) (fun W hW => HPU.out W (HT.1.later hW))
  simp only [Act.put, List.setIfInBounds_toArray, List.set_cons_succ, List.set_cons_zero]
  apply lg_pure (.slice A2 n2 c2) rfl (by intro W; go_simp)
  simp only [Act.put, List.setIfInBounds_toArray, List.set_cons_succ, List.set_cons_zero]
  apply lg_load 28 (.tmp 6) rfl gs 0 us _ Bs.rng Ls Tryd.underlying28 rfl szs rfl rfl
  simp only [Act.put, List.setIfInBounds_toArray, List.set_cons_succ, List.set_cons_zero]
  apply lg_callx_in (.bool true) 13 #[.agg uk.toArray, .slice A2 n2 c2, .agg us.toArray] rfl (by intro W; go_simp) (fun W hW => HVE.out hm A2 n2 c2 W hn2 HC2.out (HR2.below hW) (HT.later hW))
  simp only [Act.put, List.setIfInBounds_toArray, List.set_cons_succ, List.set_cons_zero]
  apply lg_pure (.bool true) rfl (by intro W; go_simp)
  simp only [Act.put, List.setIfInBounds_toArray, List.set_cons_succ, List.set_cons_zero]
  apply lg_pure (.slice A2 n2 c2) rfl (by intro W; go_simp)
  simp only [Act.put, List.setIfInBounds_toArray, List.set_cons_succ, List.set_cons_zero]
  apply lg_run (.string ⟨msg.toArray⟩) rfl (by intro W hW; have hcv := HSM.out W A2 n2 c2 hn2 (HR2.below hW); go_simp)
  simp only [Act.put, List.setIfInBounds_toArray, List.set_cons_succ, List.set_cons_zero]
  apply lg_pure (.slice A n c) rfl (by intro W; go_simp)
  simp only [Act.put, List.setIfInBounds_toArray, List.set_cons_succ, List.set_cons_zero]
  apply lg_run (.string ⟨msg.toArray⟩) rfl (by intro W hW; have hcv := HSM.out W A n c hn (HR.below hW); go_simp)
  simp only [Act.put, List.setIfInBounds_toArray, List.set_cons_succ, List.set_cons_zero]
  apply lg_pure (.bool true) rfl (by intro W; go_simp)
  simp only [Act.put, List.setIfInBounds_toArray, List.set_cons_succ, List.set_cons_zero]
  apply lg_pure (.bool true) rfl (by intro W; go_simp)
  simp only [Act.put, List.setIfInBounds_toArray, List.set_cons_succ, List.set_cons_zero]
  apply lg_pure (.bool true) rfl (by intro W; go_simp)
  simp only [Act.put, List.setIfInBounds_toArray, List.set_cons_succ, List.set_cons_zero]
  apply lg_load 22 (.tmp 2) rfl w.heap.size 0 ub _ Bp.rng Lp Tryd.underlying22 rfl szb rfl rfl
  simp only [Act.put, List.setIfInBounds_toArray, List.set_cons_succ, List.set_cons_zero]
  apply lg_pure (.slice A n c) rfl (by intro W; go_simp)
  simp only [Act.put, List.setIfInBounds_toArray, List.set_cons_succ, List.set_cons_zero]
  apply lg_callx_in (.agg us.toArray) 11 #[.agg ub.toArray, .slice A n c] rfl (by intro W; go_simp) (fun W hW => HCS.out hm A n c W hn HCC.out (HR.below hW) (HT.later hW))
  simp only [Act.put, List.setIfInBounds_toArray, List.set_cons_succ, List.set_cons_zero]
  apply lg_load 28 (.tmp 6) rfl gs 0 us _ Bs.rng Ls Tryd.underlying28 rfl szs rfl rfl
  simp only [Act.put, List.setIfInBounds_toArray, List.set_cons_succ, List.set_cons_zero]
  apply lg_pure (.bool true) rfl (by intro W; have h1 := HGQ.out .eql (.tmp 33) (.tmp 34) W; have h2 := HQQ.out W; go_simp)
  simp only [Act.put, List.setIfInBounds_toArray, List.set_cons_succ, List.set_cons_zero]
  apply lg_pure (.bool true) rfl (by intro W; go_simp)
  simp only [Act.put, List.setIfInBounds_toArray, List.set_cons_succ, List.set_cons_zero]
  refine lg_nil ?_
  intro WY hC
  have HL := Lib.hid (HB.then_ hC.1)
  clear hC
  go_wp2_with fail
  go_ret
  exact ⟨rfl, HL.out⟩
end Go.Proofs.YtkfdclnaaphdgaaDoor
