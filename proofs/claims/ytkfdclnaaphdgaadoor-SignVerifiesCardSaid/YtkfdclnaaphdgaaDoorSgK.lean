/- Layer 7: the document's Verify, walked. -/
import Derived.Test.YtkfdclnaaphdgaaDoorSgI
import Derived.Test.YtkfdclnaaphdgaaDoorSgH
namespace Go.Proofs.YtkfdclnaaphdgaaDoor
open Go.ChangeShapes Go.WideShapes Go.ChangeAt Go.RowKit Go.IntWalk
set_option linter.unusedVariables false

theorem str_eq (x y : List UInt8) : decide ((⟨x.toArray⟩ : ByteArray) = ⟨y.toArray⟩) = (x == y) := by
  by_cases h : x = y
  · subst h; simp
  · rw [beq_eq_false_iff_ne.2 h]
    simp [h]
set_option maxRecDepth 100000 in
set_option maxHeartbeats 4000000 in
theorem refVerify_calls (key : List UInt8) (hk : key.length = 32) (msg : List UInt8) (hm : msg.length < 2 ^ 29) (sig : List UInt8) (hl : sig.length = 64) (w : World) :
    Calls Tryd.prog 14 #[.string ⟨key.toArray⟩, .string ⟨msg.toArray⟩, .string ⟨sig.toArray⟩] w fun e w' => e = .returned (.bool (verB key msg (sig.take 32) (sig.drop 32))) ∧ Below w.heap.size w w' := by
  have lf : (sig.take 32).length = 32 := by rw [List.length_take, hl]; rfl
  have lz : (sig.drop 32).length = 32 := by rw [List.length_drop, hl]
  have HDC := Lib.hid (fun W => refDecode_calls key hk W)
  have HVB : Hid (verB key msg (sig.take 32) (sig.drop 32) = (dOk key && (decide (Sc.leN (sig.drop 32) < Sc.LO) && (encL (verP key (sig.take 32) msg (sig.drop 32)) == sig.take 32)))) := Lib.hid (by unfold verB; rw [leN_same, LO_same])
  have HVP : Hid ((Pt.times (leN (sig.drop 32)) baseP).add (Pt.times (leN (hR (sig.take 32 ++ (key ++ msg)))) (decP key).neg) = verP key (sig.take 32) msg (sig.drop 32)) := Lib.hid (by rw [Pt.times_neg]; rfl)
  have HGD : Hid (∀ W, Calls Tryd.prog 32 #[.string ⟨(sig.drop 32).toArray⟩] W fun e w' => e = .returned (.bool (decide (Sc.leN (sig.drop 32) < Sc.LO))) ∧ Below W.heap.size W w') := Lib.hid (Sc.refGood_calls _ lz)
  have HN := refNumber7 (sig.take 32 ++ (key ++ msg)) (by rw [List.length_append, List.length_append, lf, hk]; omega)
  have HMS : Hid (∀ c p W, RL c p → Calls Tryd.prog 22 #[.agg c.toArray, .string ⟨(sig.drop 32).toArray⟩] W (RPPost (Pt.times (leN (sig.drop 32)) p) W)) := Lib.hid (fun c p W h => refMulP h _ lz W)
  have HMX : Hid (∀ c p W, RL c p → Calls Tryd.prog 22 #[.agg c.toArray, .string ⟨(hR (sig.take 32 ++ (key ++ msg))).toArray⟩] W (RPPost (Pt.times (leN (hR (sig.take 32 ++ (key ++ msg)))) p) W)) := Lib.hid (fun c p W h => refMulP h _ (hR_len _) W)
  have HBY : Hid (∀ c W, RL c (verP key (sig.take 32) msg (sig.drop 32)) → Calls Tryd.prog 21 #[.agg c.toArray] W fun e w' => e = .returned (.string ⟨(encL (verP key (sig.take 32) msg (sig.drop 32))).toArray⟩) ∧ Below W.heap.size W w') := Lib.hid (fun c W h => refBytesP h W)
  have HE2 : Hid ((⟨(sig.take 32).toArray⟩ : ByteArray) ++ ⟨key.toArray⟩ ++ ⟨msg.toArray⟩ = ⟨(sig.take 32 ++ (key ++ msg)).toArray⟩) := Lib.hid (by rw [cat2, cat2, List.append_assoc])
  have q1 : (sig.take 32).length ≤ 32 := by omega
  have q2 : key.length ≤ 32 := by omega
  have q5 : msg.length ≤ 536870912 := by omega
  have q6 : (⟨sig.toArray⟩ : ByteArray).size = 64 := hl
  obtain ⟨ux, hux⟩ : ∃ x, hR (sig.take 32 ++ (key ++ msg)) = x := ⟨_, rfl⟩
  rw [hux] at HN HMX HVP
  obtain ⟨dk, hdk⟩ : ∃ b, dOk key = b := ⟨_, rfl⟩
  obtain ⟨gd, hgd⟩ : ∃ b, decide (Sc.leN (sig.drop 32) < Sc.LO) = b := ⟨_, rfl⟩
  rw [hdk, hgd] at HVB
  rw [hgd] at HGD
  have HDK := Lib.hid hdk
  have q7 : 32 ≤ sig.length := by omega
  have HL := Lib.hid hl
  have HT64 : Hid (sig.take 64 = sig) := Lib.hid (List.take_of_length_le (by omega))
  clear lf lz hk hm hux hdk hgd hl
  go_enter Tryd.func14, Tryd.ntmps14
  go_wp2_with fail
  refine (HDC.out _).mono ?_
  rintro e W1 ⟨cp, rfl, lcp, ocp, hpp, b2⟩
  rw [HDK.out]
  have sAp : (Tryd.prog.info? 52).map (·.size) = some cp.toArray.size := by rw [List.size_toArray, lcp]; exact size64n
  have szp : (Tryd.prog.info? 52).map (·.size) = some cp.length := by rw [lcp]; exact size64n
  obtain ⟨T0, HLb, N0⟩ := letS (W := W1) (T := 52) (z := C64) (cs := cp) (by rw [lcp]; rfl)
  go_upto_region 2 with (refine wpList_store_mid rfl 52 _ _ rfl W1.heap.size 0 cp.toArray rfl rfl T0 sAp ocp ?_)
  have bb := b2.then_ HLb
  obtain ⟨gp, eg⟩ : ∃ g, W1.heap.size = g := ⟨_, rfl⟩
  rw [eg] at N0 ⊢
  have hE : Hid (W1.heap.size = gp) := Lib.hid eg
  refine wp_gen (fun W => Blk W gp 52 cp ∧ Below w.heap.size w W) ⟨N0, hE.out ▸ bb⟩ ?_
  clear T0 HLb N0 eg hE bb b2
  rintro V1 ⟨Bp, HB⟩
  have Lp := Bp.lt
  cases dk with
  | false =>
    have HF := Lib.hid HB
    have HVV : Hid (verB key msg (sig.take 32) (sig.drop 32) = false) := Lib.hid (by rw [HVB.out]; rfl)
    clear Bp HB Lp
    go_wp2_with fail
    all_goals (go_ret; exact ⟨by rw [HVV.out]; rfl, HF.out⟩)
  | true =>
    replace hpp := hpp HDK.out
    go_wp2_with fail
    rw [HT64.out]
    refine (HGD.out _).mono ?_
    rintro e W5 ⟨rfl, b2⟩
    replace Bp := Bp.later b2
    replace Lp := Bp.lt
    replace HB := HB.then_ b2
    clear b2
    cases gd with
    | false =>
      have HF := Lib.hid HB
      have HVV : Hid (verB key msg (sig.take 32) (sig.drop 32) = false) := Lib.hid (by rw [HVB.out]; rfl)
      clear Bp HB Lp
      go_wp2_with fail
      all_goals (go_ret; exact ⟨by rw [HVV.out]; rfl, HF.out⟩)
    | true =>
      have HVV : Hid (verB key msg (sig.take 32) (sig.drop 32) = (encL (verP key (sig.take 32) msg (sig.drop 32)) == sig.take 32)) := Lib.hid (by rw [HVB.out]; rfl)
      have HBL := Lib.hid (And.intro Bp HB)
      clear Bp HB Lp
      go_upto_region 4 with fail
      go_wp2_with fail
      rw [HE2.out]
      refine (HN.out _).mono ?_
      rintro e W6 ⟨rfl, b2⟩
      have Bp := HBL.out.1.later b2
      have HB := HBL.out.2.then_ b2
      have Lp := Bp.lt
      clear b2 HBL
      go_upto_region 5 with fail
      go_wp2_with fail
      apply wp_region_g 5 (by kernel_rfl) (by kernel_rfl)
      simp only [List.take_succ_cons, List.take_zero, List.drop_succ_cons, List.drop_zero]
      apply lg_call_in (fun v => ∃ c, v = .agg c.toArray ∧ RL c (baseP)) 23 #[] rfl (by intro W; go_simp) (fun W hW => refBaseP W)
      rintro _ ⟨cb, rfl, hcb⟩
      simp only [Act.put, List.setIfInBounds_toArray, List.set_cons_succ, List.set_cons_zero]
      apply lg_pure (.string ⟨sig.toArray⟩) rfl (by intro W; go_simp)
      simp only [Act.put, List.setIfInBounds_toArray, List.set_cons_succ, List.set_cons_zero]
      apply lg_pure (.string ⟨(sig.drop 32).toArray⟩) rfl (by intro W; have h := HT64.out; go_simp <;> rw [h])
      simp only [Act.put, List.setIfInBounds_toArray, List.set_cons_succ, List.set_cons_zero]
      apply lg_call_in (fun v => ∃ c, v = .agg c.toArray ∧ RL c (Pt.times (leN (sig.drop 32)) baseP)) 22 #[.agg cb.toArray, .string ⟨(sig.drop 32).toArray⟩] rfl (by intro W; go_simp) (fun W hW => HMS.out _ _ W hcb)
      rintro _ ⟨cm, rfl, hcm⟩
      simp only [Act.put, List.setIfInBounds_toArray, List.set_cons_succ, List.set_cons_zero]
      apply lg_alloc (.cells C64.toArray 52) (.cells C64.toArray 52) rfl (by intro W; go_simp; rfl) (fun W => heap_alloc_new W _)
      intro gm egm
      simp only [Act.put, List.setIfInBounds_toArray, List.set_cons_succ, List.set_cons_zero]
      refine lg_nil ?_
      intro WY hC
      obtain ⟨T0, HL0, N0, G0⟩ := letG (z := C64) (cs := cm) (T := 52) (g := gm) hC (by simp [upd]) (by rw [hcm.len]; rfl)
      refine wpList_store_mid rfl 52 _ _ rfl gm 0 cm.toArray rfl rfl T0 hcm.sizeA hcm.one ?_
      simp only [Act.put]
      refine wpList_gen (fun W => Blk W gp 52 cp ∧ Blk W gm 52 cm ∧ Below w.heap.size w W) ⟨Bp.later HL0, N0, HB.then_ HL0⟩ ?_
      clear hC T0 HL0 N0 G0 Bp HB Lp egm
      rintro V3 ⟨Bp, Bm, HB⟩
      have Lp := Bp.lt
      have Lm := Bm.lt
      go_upto_region 6 with fail
      go_wp2_with (refine wpList_load_mid rfl 52 _ rfl gp 0 rfl cp _ Bp.rng Tryd.underlying52 rfl szp ?_)
      refine (refNegP hpp _).mono ?_
      rintro e W7 ⟨_, rfl, ⟨cn, rfl, hcn⟩, b2⟩
      replace Bm := Bm.later b2
      replace HB := HB.then_ b2
      clear b2
      go_wp2_with fail
      refine (HMX.out _ _ _ hcn).mono ?_
      rintro e W8 ⟨_, rfl, ⟨cx, rfl, hcx⟩, b2⟩
      obtain ⟨T0, HLb, N0⟩ := letS (W := W8) (T := 52) (z := C64) (cs := cx) (by rw [hcx.len]; rfl)
      go_upto_region 7 with (refine wpList_store_mid rfl 52 _ _ rfl W8.heap.size 0 cx.toArray rfl rfl T0 hcx.sizeA hcx.one ?_)
      have bb := b2.then_ HLb
      obtain ⟨gx, eg⟩ : ∃ g, W8.heap.size = g := ⟨_, rfl⟩
      rw [eg] at N0 ⊢
      have hE : Hid (W8.heap.size = gx) := Lib.hid eg
      refine wp_gen (fun W => Blk W gm 52 cm ∧ Blk W gx 52 cx ∧ Below w.heap.size w W) ⟨hE.out ▸ Bm.later bb, N0, hE.out ▸ HB.then_ bb⟩ ?_
      clear T0 HLb N0 eg hE bb b2 Bp Bm HB Lp Lm
      rintro V4 ⟨Bm, Bx, HB⟩
      have Lm := Bm.lt
      have Lx := Bx.lt
      go_wp2_with fail
      apply wp_region_g 7 (by kernel_rfl) (by kernel_rfl)
      simp only [List.take_succ_cons, List.take_zero, List.drop_succ_cons, List.drop_zero]
      apply lg_load 52 (.tmp 10) rfl gm 0 cm _ Bm.rng Lm Tryd.underlying52 rfl hcm.size rfl rfl
      simp only [Act.put, List.setIfInBounds_toArray, List.set_cons_succ, List.set_cons_zero]
      apply lg_load 52 (.tmp 11) rfl gx 0 cx _ Bx.rng Lx Tryd.underlying52 rfl hcx.size rfl rfl
      simp only [Act.put, List.setIfInBounds_toArray, List.set_cons_succ, List.set_cons_zero]
      apply lg_call_in (fun v => ∃ c, v = .agg c.toArray ∧ RL c (verP key (sig.take 32) msg (sig.drop 32))) 34 #[.agg cm.toArray, .agg cx.toArray] rfl (by intro W; go_simp) (fun W hW => HVP.out ▸ refSumP hcm hcx W)
      rintro _ ⟨cv, rfl, hcv⟩
      simp only [Act.put, List.setIfInBounds_toArray, List.set_cons_succ, List.set_cons_zero]
      apply lg_callx_in (.string ⟨(encL (verP key (sig.take 32) msg (sig.drop 32))).toArray⟩) 21 #[.agg cv.toArray] rfl (by intro W; go_simp) (fun W hW => HBY.out _ W hcv)
      simp only [Act.put, List.setIfInBounds_toArray, List.set_cons_succ, List.set_cons_zero]
      apply lg_pure (.string ⟨sig.toArray⟩) rfl (by intro W; go_simp)
      simp only [Act.put, List.setIfInBounds_toArray, List.set_cons_succ, List.set_cons_zero]
      apply lg_pure (.string ⟨(sig.take 32).toArray⟩) rfl (by intro W; go_simp)
      simp only [Act.put, List.setIfInBounds_toArray, List.set_cons_succ, List.set_cons_zero]
      apply lg_pure (.bool (encL (verP key (sig.take 32) msg (sig.drop 32)) == sig.take 32)) rfl (by intro W; have h1 := str_eq (encL (verP key (sig.take 32) msg (sig.drop 32))) (sig.take 32); go_simp)
      simp only [Act.put, List.setIfInBounds_toArray, List.set_cons_succ, List.set_cons_zero]
      refine lg_nil ?_
      intro WY hC
      have HLL := Lib.hid (HB.then_ hC.1)
      clear hC
      go_wp2_with fail
      go_ret
      exact ⟨by rw [HVV.out]; rfl, HLL.out⟩
end Go.Proofs.YtkfdclnaaphdgaaDoor
