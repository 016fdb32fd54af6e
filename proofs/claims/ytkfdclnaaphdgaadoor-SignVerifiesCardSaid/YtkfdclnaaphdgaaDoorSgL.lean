/- Layer 7: SignSigns, SignVerifies, walked. -/
import Derived.Test.YtkfdclnaaphdgaaDoorSgJ
import Derived.Test.YtkfdclnaaphdgaaDoorSgK
namespace Go.Proofs.YtkfdclnaaphdgaaDoor
open Go.ChangeShapes Go.WideShapes Go.ChangeAt Go.RowKit Go.IntWalk
set_option linter.unusedVariables false

set_option maxRecDepth 100000 in
set_option maxHeartbeats 8000000 in
theorem signSigns_walk {w : World} (seed : List UInt8) (hs : seed.length = 32) (A : Option Addr) (n c : Nat) (msg : List UInt8) (hr : RB w A msg) (hn : Hid (n = msg.length)) (hc : n ≤ c) (hT : Tab7 w) :
    Calls Tryd.prog 4 #[.agg (seed.map fun c => Value.int .u8 (c.toNat : Int)).toArray, .slice A n c] w fun e w' => e = .returned (.bool true) ∧ Below w.heap.size w w' := by
  have HCS : Hid (msg.length < 2 ^ 29 → ∀ W, RB W A msg → Tab7 W → Calls Tryd.prog 11 #[.agg (u8s seed).toArray, .slice A n c] W fun e w' => e = .returned (.agg (u8s (sigL seed msg)).toArray) ∧ Below W.heap.size W w') := Lib.hid (fun hm W hr hT => sign_calls seed hs A n c msg hn hc hm W hr hT)
  have HRS : Hid (msg.length < 2 ^ 29 → ∀ W, Calls Tryd.prog 12 #[.string ⟨seed.toArray⟩, .string ⟨msg.toArray⟩] W fun e w' => e = .returned (.string ⟨(sigL seed msg).toArray⟩) ∧ Below W.heap.size W w') := Lib.hid (fun hm W => refSign_calls seed hs msg hm W)
  have HSB : Hid (∀ (W : World) (g : Nat), Blk W g 22 (u8s seed) → (convert 25 9 (.slice (some ⟨g, 0, none⟩) 32 32)).run Tryd.prog W = .ok (.string ⟨seed.toArray⟩) W) := Lib.hid (fun W g h => blk_strAll h hs.symm)
  have HSG : Hid (∀ (W : World) (g : Nat), Blk W g 28 (u8s (sigL seed msg)) → (convert 25 9 (.slice (some ⟨g, 0, none⟩) 64 64)).run Tryd.prog W = .ok (.string ⟨(sigL seed msg).toArray⟩) W) := Lib.hid (fun W g h => blk_strAll h (sigL_len _ _).symm)
  have HSM : Hid (∀ (W : World), RB W A msg → (convert 25 9 (.slice A n c)).run Tryd.prog W = .ok (.string ⟨msg.toArray⟩) W) := Lib.hid (fun W h => run_str_rb W A n c msg h hn)
  have lub : (u8s seed).length = 32 := by rw [u8s_len, hs]
  have lus : (u8s (sigL seed msg)).length = 64 := by rw [u8s_len, sigL_len]
  have ous := u8s_one (sigL seed msg)
  rw [show (seed.map fun c => Value.int .u8 (c.toNat : Int)) = u8s seed from rfl]
  obtain ⟨ub, hub⟩ : ∃ q, u8s seed = q := ⟨_, rfl⟩
  obtain ⟨us, hus⟩ : ∃ q, u8s (sigL seed msg) = q := ⟨_, rfl⟩
  obtain ⟨sg, hsg⟩ : ∃ q, sigL seed msg = q := ⟨_, rfl⟩
  rw [hub] at HCS HSB lub ⊢
  rw [hus] at HCS HSG lus ous
  rw [hsg] at HRS HSG
  have szb := sz32 lub
  have sAs := sz64A lus
  clear hub hus hsg hs
  go_enter Tryd.func4, Tryd.ntmps4
  go_upto_region 1 with fail
  refine wp_gen (fun W => Blk W w.heap.size 22 ub ∧ RB W A msg ∧ Below w.heap.size w W ∧ Tab7 W) ?_ ?_
  · obtain ⟨a0, hb⟩ := alloc1 w ub 22
    exact ⟨a0, hr.below hb, hb, hT.later hb⟩
  rintro V1 ⟨Bp, HR, HB, HT⟩
  have Lp := Bp.lt
  clear hr hT
  go_wp2_with fail
  refine (alive7_calls _ HT.1).mono ?_
  rintro e wz ⟨rfl, bz⟩
  replace Bp := Bp.later bz
  replace Lp := Bp.lt
  replace HR := HR.below bz
  replace HB := HB.then_ bz
  replace HT := HT.later bz
  clear bz
  by_cases hbig : msg.length ≤ 1024
  case neg =>
    have hd : decide ((n : Int) > 1024) = true := by have := hn.out; simp; omega
    have HF := Lib.hid HB
    clear Lp Bp HR HB HT
    go_wp2_with fail
    go_ret
    exact ⟨rfl, HF.out⟩
  have hd : decide ((n : Int) > 1024) = false := by have := hn.out; simp; omega
  have hm : msg.length < 2 ^ 29 := by omega
  go_upto_region 5 with fail
  clear hd
  go_wp2_with (refine wpList_load_mid rfl 22 _ rfl w.heap.size 0 rfl ub _ Bp.rng Tryd.underlying22 rfl szb ?_)
  refine (HCS.out hm _ HR HT).mono ?_
  rintro e W2 ⟨rfl, b2⟩
  obtain ⟨T0, HL, N0⟩ := letS (W := W2) (T := 28) (z := Z64) (cs := us) (by rw [lus]; rfl)
  go_upto_region 6 with (refine wpList_store_mid rfl 28 _ _ rfl W2.heap.size 0 us.toArray rfl rfl T0 sAs ous ?_)
  have bb := b2.then_ HL
  obtain ⟨gs, eg⟩ : ∃ g, W2.heap.size = g := ⟨_, rfl⟩
  rw [eg] at N0 ⊢
  have hE : Hid (W2.heap.size = gs) := Lib.hid eg
  refine wp_gen (fun W => Blk W w.heap.size 22 ub ∧ Blk W gs 28 us ∧ RB W A msg ∧ Below w.heap.size w W ∧ Tab7 W) ⟨hE.out ▸ Bp.later bb, N0, hE.out ▸ HR.below bb, hE.out ▸ HB.then_ bb, hE.out ▸ HT.later bb⟩ ?_
  clear Lp Bp HR HB HT T0 HL N0 eg hE bb b2
  rintro V2 ⟨Bp, Bs, HR, HB, HT⟩
  have Lp := Bp.lt
  have Ls := Bs.lt
  go_wp2_with fail
  apply wp_region_g 8 (by kernel_rfl) (by kernel_rfl)
  simp only [List.take_succ_cons, List.take_zero, List.drop_succ_cons, List.drop_zero]
  apply lg_pure (.slice (some ⟨gs, 0, none⟩) 64 64) rfl (by intro W; go_simp)
  simp only [Act.put, List.setIfInBounds_toArray, List.set_cons_succ, List.set_cons_zero]
  apply lg_run (.string ⟨sg.toArray⟩) rfl (by intro W hW; have hcv := HSG.out W _ (Bs.later hW); go_simp)
  simp only [Act.put, List.setIfInBounds_toArray, List.set_cons_succ, List.set_cons_zero]
  apply lg_pure (.slice (some ⟨w.heap.size, 0, none⟩) 32 32) rfl (by intro W; go_simp)
  simp only [Act.put, List.setIfInBounds_toArray, List.set_cons_succ, List.set_cons_zero]
  apply lg_run (.string ⟨seed.toArray⟩) rfl (by intro W hW; have hcv := HSB.out W _ (Bp.later hW); go_simp)
  simp only [Act.put, List.setIfInBounds_toArray, List.set_cons_succ, List.set_cons_zero]
  apply lg_pure (.slice A n c) rfl (by intro W; go_simp)
  simp only [Act.put, List.setIfInBounds_toArray, List.set_cons_succ, List.set_cons_zero]
  apply lg_run (.string ⟨msg.toArray⟩) rfl (by intro W hW; have hcv := HSM.out W (HR.below hW); go_simp)
  simp only [Act.put, List.setIfInBounds_toArray, List.set_cons_succ, List.set_cons_zero]
  apply lg_callx_in (.string ⟨sg.toArray⟩) 12 #[.string ⟨seed.toArray⟩, .string ⟨msg.toArray⟩] rfl (by intro W; go_simp) (fun W hW => HRS.out hm W)
  simp only [Act.put, List.setIfInBounds_toArray, List.set_cons_succ, List.set_cons_zero]
  apply lg_pure (.bool true) rfl (by intro W; go_simp)
  simp only [Act.put, List.setIfInBounds_toArray, List.set_cons_succ, List.set_cons_zero]
  refine lg_nil ?_
  intro WY hC
  have HL := Lib.hid (HB.then_ hC.1)
  clear hC
  go_wp2_with fail
  go_ret
  exact ⟨rfl, HL.out⟩
set_option maxRecDepth 100000 in
set_option maxHeartbeats 8000000 in
theorem signVerifies_walk {w : World} (key : List UInt8) (hk : key.length = 32) (A : Option Addr) (n c : Nat) (msg : List UInt8) (hr : RB w A msg) (hn : Hid (n = msg.length)) (hc : n ≤ c) (sig : List UInt8) (hl : sig.length = 64) (hT : Tab7 w) :
    Calls Tryd.prog 5 #[.agg (key.map fun c => Value.int .u8 (c.toNat : Int)).toArray, .slice A n c, .agg (sig.map fun c => Value.int .u8 (c.toNat : Int)).toArray] w fun e w' => e = .returned (.bool true) ∧ Below w.heap.size w w' := by
  have HCS : Hid (msg.length < 2 ^ 29 → ∀ W, RB W A msg → Tab7 W → Calls Tryd.prog 13 #[.agg (u8s key).toArray, .slice A n c, .agg (u8s sig).toArray] W fun e w' => e = .returned (.bool (verB key msg (sig.take 32) (sig.drop 32))) ∧ Below W.heap.size W w') := Lib.hid (fun hm W hr hT => by
    have := verify_calls key hk A n c msg hn hc hm (sig.take 32) (sig.drop 32) (by rw [List.length_take, hl]; rfl) (by rw [List.length_drop, hl]) W hr hT
    rwa [List.take_append_drop] at this)
  have HRS : Hid (msg.length < 2 ^ 29 → ∀ W, Calls Tryd.prog 14 #[.string ⟨key.toArray⟩, .string ⟨msg.toArray⟩, .string ⟨sig.toArray⟩] W fun e w' => e = .returned (.bool (verB key msg (sig.take 32) (sig.drop 32))) ∧ Below W.heap.size W w') := Lib.hid (fun hm W => refVerify_calls key hk msg hm sig hl W)
  have HSB : Hid (∀ (W : World) (g : Nat), Blk W g 22 (u8s key) → (convert 25 9 (.slice (some ⟨g, 0, none⟩) 32 32)).run Tryd.prog W = .ok (.string ⟨key.toArray⟩) W) := Lib.hid (fun W g h => blk_strAll h hk.symm)
  have HSG : Hid (∀ (W : World) (g : Nat), Blk W g 28 (u8s sig) → (convert 25 9 (.slice (some ⟨g, 0, none⟩) 64 64)).run Tryd.prog W = .ok (.string ⟨sig.toArray⟩) W) := Lib.hid (fun W g h => blk_strAll h hl.symm)
  have HSM : Hid (∀ (W : World), RB W A msg → (convert 25 9 (.slice A n c)).run Tryd.prog W = .ok (.string ⟨msg.toArray⟩) W) := Lib.hid (fun W h => run_str_rb W A n c msg h hn)
  have lub : (u8s key).length = 32 := by rw [u8s_len, hk]
  have lus : (u8s sig).length = 64 := by rw [u8s_len, hl]
  rw [show (key.map fun c => Value.int .u8 (c.toNat : Int)) = u8s key from rfl, show (sig.map fun c => Value.int .u8 (c.toNat : Int)) = u8s sig from rfl]
  obtain ⟨ub, hub⟩ : ∃ q, u8s key = q := ⟨_, rfl⟩
  obtain ⟨us, hus⟩ : ∃ q, u8s sig = q := ⟨_, rfl⟩
  obtain ⟨vb, hvb⟩ : ∃ b, verB key msg (sig.take 32) (sig.drop 32) = b := ⟨_, rfl⟩
  rw [hub] at HCS HSB lub ⊢
  rw [hus] at HCS HSG lus ⊢
  rw [hvb] at HCS HRS
  have szb := sz32 lub
  have szs := sz64 lus
  clear hub hus hvb hk hl
  go_enter Tryd.func5, Tryd.ntmps5
  go_upto_region 1 with fail
  refine wp_gen (fun W => Blk W w.heap.size 22 ub ∧ Blk W (w.heap.size + 1) 28 us ∧ RB W A msg ∧ Below w.heap.size w W ∧ Tab7 W) ?_ ?_
  · obtain ⟨a0, a1, hb⟩ := alloc2 w ub us 22 28
    exact ⟨a0, a1, hr.below hb, hb, hT.later hb⟩
  rintro V1 ⟨Bp, Bs, HR, HB, HT⟩
  have Lp := Bp.lt
  have Ls := Bs.lt
  clear hr hT
  go_wp2_with fail
  refine (alive7_calls _ HT.1).mono ?_
  rintro e wz ⟨rfl, bz⟩
  replace Bp := Bp.later bz
  replace Lp := Bp.lt
  replace Bs := Bs.later bz
  replace Ls := Bs.lt
  replace HR := HR.below bz
  replace HB := HB.then_ bz
  replace HT := HT.later bz
  clear bz
  by_cases hbig : msg.length ≤ 1024
  case neg =>
    have hd : decide ((n : Int) > 1024) = true := by have := hn.out; simp; omega
    have HF := Lib.hid HB
    clear Lp Ls Bp Bs HR HB HT
    go_wp2_with fail
    go_ret
    exact ⟨rfl, HF.out⟩
  have hd : decide ((n : Int) > 1024) = false := by have := hn.out; simp; omega
  have hm : msg.length < 2 ^ 29 := by omega
  go_upto_region 5 with fail
  clear hd
  go_wp2_with fail
  apply wp_region_g 12 (by kernel_rfl) (by kernel_rfl)
  simp only [List.take_succ_cons, List.take_zero, List.drop_succ_cons, List.drop_zero]
  apply lg_load 22 (.tmp 3) rfl w.heap.size 0 ub _ Bp.rng Lp Tryd.underlying22 rfl szb rfl rfl
  simp only [Act.put, List.setIfInBounds_toArray, List.set_cons_succ, List.set_cons_zero]
  apply lg_pure (.slice A n c) rfl (by intro W; go_simp)
  simp only [Act.put, List.setIfInBounds_toArray, List.set_cons_succ, List.set_cons_zero]
  apply lg_load 28 (.tmp 5) rfl ((w.heap.size + 1)) 0 us _ Bs.rng Ls Tryd.underlying28 rfl szs rfl rfl
  simp only [Act.put, List.setIfInBounds_toArray, List.set_cons_succ, List.set_cons_zero]
  apply lg_callx_in (.bool vb) 13 #[.agg ub.toArray, .slice A n c, .agg us.toArray] rfl (by intro W; go_simp) (fun W hW => HCS.out hm W (HR.below hW) (HT.later hW))
  simp only [Act.put, List.setIfInBounds_toArray, List.set_cons_succ, List.set_cons_zero]
  apply lg_pure (.slice (some ⟨w.heap.size, 0, none⟩) 32 32) rfl (by intro W; go_simp)
  simp only [Act.put, List.setIfInBounds_toArray, List.set_cons_succ, List.set_cons_zero]
  apply lg_run (.string ⟨key.toArray⟩) rfl (by intro W hW; have hcv := HSB.out W _ (Bp.later hW); go_simp)
  simp only [Act.put, List.setIfInBounds_toArray, List.set_cons_succ, List.set_cons_zero]
  apply lg_pure (.slice A n c) rfl (by intro W; go_simp)
  simp only [Act.put, List.setIfInBounds_toArray, List.set_cons_succ, List.set_cons_zero]
  apply lg_run (.string ⟨msg.toArray⟩) rfl (by intro W hW; have hcv := HSM.out W (HR.below hW); go_simp)
  simp only [Act.put, List.setIfInBounds_toArray, List.set_cons_succ, List.set_cons_zero]
  apply lg_pure (.slice (some ⟨w.heap.size + 1, 0, none⟩) 64 64) rfl (by intro W; go_simp)
  simp only [Act.put, List.setIfInBounds_toArray, List.set_cons_succ, List.set_cons_zero]
  apply lg_run (.string ⟨sig.toArray⟩) rfl (by intro W hW; have hcv := HSG.out W _ (Bs.later hW); go_simp)
  simp only [Act.put, List.setIfInBounds_toArray, List.set_cons_succ, List.set_cons_zero]
  apply lg_callx_in (.bool vb) 14 #[.string ⟨key.toArray⟩, .string ⟨msg.toArray⟩, .string ⟨sig.toArray⟩] rfl (by intro W; go_simp) (fun W hW => HRS.out hm W)
  simp only [Act.put, List.setIfInBounds_toArray, List.set_cons_succ, List.set_cons_zero]
  apply lg_pure (.bool true) rfl (by intro W; go_simp)
  simp only [Act.put, List.setIfInBounds_toArray, List.set_cons_succ, List.set_cons_zero]
  refine lg_nil ?_
  intro WY hC
  have HL := Lib.hid (HB.then_ hC.1)
  clear hC
  go_wp2_with fail
  go_ret
  exact ⟨rfl, HL.out⟩
end Go.Proofs.YtkfdclnaaphdgaaDoor
