/- Layer 7: the program's Sign, walked. -/
import Derived.Test.YtkfdclnaaphdgaaDoorSgG
import Derived.Test.YtkfdclnaaphdgaaDoorLy
namespace Go.Proofs.YtkfdclnaaphdgaaDoor
open Go.ChangeShapes Go.WideShapes Go.ChangeAt Go.RowKit Go.IntWalk
set_option linter.unusedVariables false

def Tab7 (w : World) : Prop := TabK w ∧ Sc.Tab w
theorem Tab7.later {w w1 : World} (h : Tab7 w) (b : Below w.heap.size w w1) : Tab7 w1 := ⟨h.1.later b, Sc.Tab.later h.2 b⟩
theorem letG {w1 w5 : World} {s : Gh} {g : Nat} {T : TypeId} {z cs : List Value} (hC : Cg w1 s w5) (hs : s g = some (.cells z.toArray T (0, 0))) (hl : cs.length = z.length) :
    w5.there g 0 cs.toArray.size ∧ Below w1.heap.size w1 (w5.setCells g 0 cs) ∧ Blk (w5.setCells g 0 cs) g T cs ∧ w1.heap.size ≤ g := by
  have h := hC.2 g _ hs
  have hb : Blk w5 g T z := h.2
  exact ⟨hb.there (by simp [hl]), blw_cells h.1 cs 0 _ hC.1, hb.setAll hl, h.1⟩
theorem Blk.src0 {W : World} {g : Nat} {T : TypeId} {cs : List Value} (h : Blk W g T cs) : ∀ j v, cs[j]? = some v → W.cell? ((⟨g, 0, none⟩ : Addr).add j) = some v := by
  intro j v hj
  have e : (⟨g, 0, none⟩ : Addr).add j = ⟨g, j, none⟩ := by unfold Addr.add; split <;> simp_all
  rw [e]; exact h.cell hj
theorem rb_as {W : World} {g : Nat} {bs : List UInt8} {vs : List Value} (h : u8s bs = vs) (hB : Blk W g 22 vs) : RB W (some ⟨g, 0, none⟩) bs := by
  subst h; exact UBlk.rb hB
theorem sz64 {cs : List Value} (h : cs.length = 64) : (Tryd.prog.info? 28).map (·.size) = some cs.length := by rw [h]; exact size64b
theorem sz64A {cs : List Value} (h : cs.length = 64) : (Tryd.prog.info? 28).map (·.size) = some cs.toArray.size := by rw [List.size_toArray, h]; exact size64b
/-- The rest of pieces' digest, under a name. -/
theorem rest_known7 (bss : List (List UInt8)) (bs : List UInt8) (hbs : bss.flatten = bs) (k : Nat) (hk : k = bss.length) (hk3 : k ≤ 3) (hlen : bs.length < 2 ^ 30) : ∃ un : List Value, u8s (hR bs) = un ∧ un.length = 32 ∧ un.toArray.all (·.oneCell') = true ∧
    Hid (∀ W A', Tab7 W → RBq W A' bss → Calls Tryd.prog 24 #[.slice A' k k] W fun e w' => e = .returned (.agg un.toArray) ∧ Below W.heap.size W w') ∧
    Hid (∀ c p W, PL c p → TabD W → Calls Tryd.prog 18 #[.agg c.toArray, .agg un.toArray] W (PPost (Pt.times (leN (hR bs)) p) W)) := by
  subst hbs
  exact ⟨_, rfl, by rw [u8s_len, hR_len], u8s_one _, Lib.hid (fun W A' hT hq => restOf_calls A' k k bss (Lib.hid hk) (Nat.le_refl _) (by omega) hlen W hT.1.1 hT.2 hq), Lib.hid (fun c p W h hT => mulP h _ (hR_len _) W hT)⟩
set_option maxRecDepth 100000 in
set_option maxHeartbeats 8000000 in
theorem sign_calls (seed : List UInt8) (hs : seed.length = 32) (A : Option Addr) (n c : Nat) (msg : List UInt8) (hn : Hid (n = msg.length)) (hc : n ≤ c) (hm : msg.length < 2 ^ 29) (w : World) (hr : RB w A msg) (hT : Tab7 w) :
    Calls Tryd.prog 11 #[.agg (u8s seed).toArray, .slice A n c] w fun e w' => e = .returned (.agg (u8s (sigL seed msg)).toArray) ∧ Below w.heap.size w w' := by
  obtain ⟨ub, us, vs, hub, hus, hvs, lus, lvs, ous, ovs, lub, HPA, HMU⟩ := parts_known seed hs
  obtain ⟨uk, huk, ouk, luk, HENK⟩ := enc_known (pubL seed)
  obtain ⟨uf, huf, ouf, luf, HENF⟩ := enc_known (firstL seed msg)
  have HPB : Hid (encL (Pt.times (leN (secL seed)) baseP) = pubL seed) := Lib.hid rfl
  have HPF : Hid (encL (Pt.times (leN (hR (preL seed ++ msg))) baseP) = firstL seed msg) := Lib.hid rfl
  rw [show (pubL seed).length = 32 from enc_len _] at luk
  rw [firstL_len] at luf
  obtain ⟨un, hun, lun, oun, HRN, HMN⟩ := rest_known7 [preL seed, msg] (preL seed ++ msg) (by simp) 2 rfl (by decide) (by rw [List.length_append, preL_len]; omega)
  obtain ⟨ux, hux, lux, oux, HRX, _⟩ := rest_known7 [firstL seed msg, pubL seed, msg] (firstL seed msg ++ (pubL seed ++ msg)) (by simp) 3 rfl (by decide) (by rw [List.length_append, List.length_append, firstL_len, show (pubL seed).length = 32 from enc_len _]; omega)
  have HMA : Hid (∀ W, Sc.Tab W → Calls Tryd.prog 25 #[.agg ux.toArray, .agg us.toArray, .agg un.toArray] W fun e w' => e = .returned (.agg (u8s (secondL seed msg)).toArray) ∧ Below W.heap.size W w') := Lib.hid (fun W hT => by
    rw [← hux, ← hus, ← hun]
    exact Sc.mul_calls (hR (firstL seed msg ++ (pubL seed ++ msg))) (secL seed) (hR (preL seed ++ msg)) (hR_len _) (secL_len _) (hR_len _) W hT)
  have hsg : u8s (sigL seed msg) = uf ++ u8s (secondL seed msg) := by rw [← huf, u8s_app]; rfl
  have HRB2 : Hid (∀ (W : World) (g : Nat), Blk W g 22 vs → RB W A msg → RBq (W.alloc (.cells #[.slice (some ⟨g, 0, none⟩) 32 32, .slice A n c] 25)) (some ⟨W.heap.size, 0, none⟩) [preL seed, msg]) :=
    Lib.hid (fun W g h hr => by
      have b := (Below.refl W.heap.size W).alloc (Nat.le_refl _) (.cells #[.slice (some ⟨g, 0, none⟩) 32 32, .slice A n c] 25)
      exact rbq2 (Blk.new W [.slice (some ⟨g, 0, none⟩) 32 32, .slice A n c] 25) (RB.below (rb_as hvs h) b) (Lib.hid (preL_len seed).symm) (Nat.le_refl _) (RB.below hr b) hn hc)
  have HRB3 : Hid (∀ (W : World) (g k q : Nat), Blk W g 22 uf → Blk W k 22 uk → RB W A msg → W.heap[q]? = some (.cells #[.slice (some ⟨g, 0, none⟩) 32 32, .slice (some ⟨k, 0, none⟩) 32 32, .slice A n c] 25 (0, 0)) → RBq W (some ⟨q, 0, none⟩) [firstL seed msg, pubL seed, msg]) :=
    Lib.hid (fun W g k q h h2 hr hq => rbq3 (T := 25) hq (rb_as huf h) (Lib.hid (firstL_len seed msg).symm) (Nat.le_refl _) (rb_as huk h2) (Lib.hid (show 32 = (pubL seed).length from (enc_len _).symm)) (Nat.le_refl _) hr hn hc)
  have luz : (u8s (secondL seed msg)).length = 32 := by rw [u8s_len, secondL_len]
  have ouz := u8s_one (secondL seed msg)
  have auz := u8s_all (secondL seed msg)
  have auf : ∀ v ∈ uf, v.oneCell' = true := huf ▸ u8s_all _
  obtain ⟨uz, huz⟩ : ∃ q, u8s (secondL seed msg) = q := ⟨_, rfl⟩
  rw [huz] at HMA hsg luz ouz auz
  have HSG := Lib.hid hsg
  rw [hub]
  have szb := sz32 lub
  have szs := sz32 lus
  have szn := sz32 lun
  have sAs := sz32A lus
  have sAv := sz32A lvs
  have sAk := sz32A luk
  have sAf := sz32A luf
  have sAn := sz32A lun
  have sAz := sz32A luz
  have HAF := Lib.hid auf
  have HAZ := Lib.hid auz
  have HC := Lib.hid hc
  clear hub hus hvs huk huf hun hux huz hsg hs hm hn hc auf auz
  go_enter Tryd.func11, Tryd.ntmps11
  go_upto_region 1 with fail
  refine wp_gen (fun W => Blk W w.heap.size 22 ub ∧ Blk W (w.heap.size + 1) 28 Z64 ∧ RB W A msg ∧ Below w.heap.size w W ∧ Tab7 W) ?_ ?_
  · obtain ⟨a0, a1, hb⟩ := alloc2 w ub Z64 22 28
    exact ⟨a0, a1, hr.below hb, hb, hT.later hb⟩
  rintro V1 ⟨Bp, Br, HR, HB, HT⟩
  have Lp := Bp.lt
  have Lr := Br.lt
  go_wp2_with (refine wpList_load_mid rfl 22 _ rfl w.heap.size 0 rfl ub _ Bp.rng Tryd.underlying22 rfl szb ?_)
  refine (HPA.out _ HT.1.1).mono ?_
  rintro e W2 ⟨rfl, b2⟩
  obtain ⟨T1, T2, HL, N1, N2⟩ := letS2 (W := W2) (T := 22) (U := 22) (z := C32) (y := C32) (cs := us) (ds := vs) (by rw [lus]; rfl) (by rw [lvs]; rfl)
  go_upto_region 2 with (first
    | (refine wpList_store_mid rfl 22 _ _ rfl W2.heap.size 0 us.toArray rfl rfl T1 sAs ous ?_)
    | (refine wpList_store_mid rfl 22 _ _ rfl (W2.heap.size + 1) 0 vs.toArray rfl rfl T2 sAv ovs ?_))
  have bb := b2.then_ HL
  obtain ⟨g, eg⟩ : ∃ g, W2.heap.size = g := ⟨_, rfl⟩
  rw [eg] at N1 N2 ⊢
  have hE : Hid (W2.heap.size = g) := Lib.hid eg
  refine wp_gen (fun W => Blk W w.heap.size 22 ub ∧ Blk W (w.heap.size + 1) 28 Z64 ∧ Blk W g 22 us ∧ Blk W (g + 1) 22 vs ∧ RB W A msg ∧ Below w.heap.size w W ∧ Tab7 W) ⟨hE.out ▸ Bp.later bb, hE.out ▸ Br.later bb, hE.out ▸ N1, hE.out ▸ N2, hE.out ▸ HR.below bb, hE.out ▸ HB.then_ bb, hE.out ▸ HT.later bb⟩ ?_
  clear Lp Lr Bp Br HR HB HT T1 T2 HL N1 N2 eg hE bb b2 hr hT
  rintro V2 ⟨Bp, Br, Bs, Bv, HR, HB, HT⟩
  have Lp := Bp.lt
  have Lr := Br.lt
  have Ls := Bs.lt
  have Lv := Bv.lt
  go_wp2_with fail
  apply wp_region_g 5 (by kernel_rfl) (by kernel_rfl)
  simp only [List.take_succ_cons, List.take_zero, List.drop_succ_cons, List.drop_zero]
  apply lg_call_in (fun v => ∃ c, v = .agg c.toArray ∧ PL c (baseP)) 17 #[] rfl (by intro W; go_simp) (fun W hW => base_calls W (HT.1.2.2.later hW))
  rintro _ ⟨cb, rfl, hcb⟩
  simp only [Act.put, List.setIfInBounds_toArray, List.set_cons_succ, List.set_cons_zero]
  apply lg_load 22 (.tmp 5) rfl g 0 us _ Bs.rng Ls Tryd.underlying22 rfl szs rfl rfl
  simp only [Act.put, List.setIfInBounds_toArray, List.set_cons_succ, List.set_cons_zero]
  apply lg_call_in (fun v => ∃ c, v = .agg c.toArray ∧ PL c (Pt.times (leN (secL seed)) baseP)) 18 #[.agg cb.toArray, .agg us.toArray] rfl (by intro W; go_simp) (fun W hW => HMU.out _ _ W hcb (HT.1.2.1.later hW))
  rintro _ ⟨cm, rfl, hcm⟩
  simp only [Act.put, List.setIfInBounds_toArray, List.set_cons_succ, List.set_cons_zero]
  apply lg_callx_in (.agg uk.toArray) 19 #[.agg cm.toArray] rfl (by intro W; go_simp) (fun W hW => HENK.out _ _ W hcm HPB.out)
  simp only [Act.put, List.setIfInBounds_toArray, List.set_cons_succ, List.set_cons_zero]
  apply lg_alloc (.cells C32.toArray 22) (.cells C32.toArray 22) rfl (by intro W; go_simp; rfl) (fun W => heap_alloc_new W _)
  intro gk egk
  simp only [Act.put, List.setIfInBounds_toArray, List.set_cons_succ, List.set_cons_zero]
  refine lg_nil ?_
  intro WY hC
  obtain ⟨T0, HL, N0, G0⟩ := letG (z := C32) (cs := uk) (T := 22) (g := gk) hC (by simp [upd]) (by rw [luk]; rfl)
  refine wpList_store_mid rfl 22 _ _ rfl gk 0 uk.toArray rfl rfl T0 sAk ouk ?_
  simp only [Act.put]
  refine wpList_gen (fun W => Blk W w.heap.size 22 ub ∧ Blk W (w.heap.size + 1) 28 Z64 ∧ Blk W g 22 us ∧ Blk W (g + 1) 22 vs ∧ Blk W gk 22 uk ∧ RB W A msg ∧ Below w.heap.size w W ∧ Tab7 W) ⟨Bp.later HL, Br.later HL, Bs.later HL, Bv.later HL, N0, HR.below HL, HB.then_ HL, HT.later HL⟩ ?_
  clear Lp Lr Ls Lv Bp Br Bs Bv HR HB HT hC T0 HL N0 G0
  rintro V3 ⟨Bp, Br, Bs, Bv, Bk, HR, HB, HT⟩
  have Lp := Bp.lt
  have Lr := Br.lt
  have Ls := Bs.lt
  have Lv := Bv.lt
  have Lk := Bk.lt
  go_upto_region 3 with fail
  go_wp2_with fail
  have ba := (Below.refl V3.heap.size V3).alloc (Nat.le_refl _) (.cells #[.slice (some ⟨g + 1, 0, none⟩) 32 32, .slice A n c] 25)
  refine (HRN.out _ _ (HT.later ba) (HRB2.out _ _ Bv HR)).mono ?_
  rintro e W3 ⟨rfl, b3⟩
  have b2 := ba.step b3 (by simp)
  clear ba b3
  obtain ⟨T0, HL, N0⟩ := letS (W := W3) (T := 22) (z := C32) (cs := un) (by rw [lun]; rfl)
  go_upto_region 4 with (refine wpList_store_mid rfl 22 _ _ rfl W3.heap.size 0 un.toArray rfl rfl T0 sAn oun ?_)
  have bb := b2.then_ HL
  obtain ⟨gn, eg⟩ : ∃ g, W3.heap.size = g := ⟨_, rfl⟩
  rw [eg] at N0 ⊢
  have hE : Hid (W3.heap.size = gn) := Lib.hid eg
  refine wp_gen (fun W => Blk W w.heap.size 22 ub ∧ Blk W (w.heap.size + 1) 28 Z64 ∧ Blk W g 22 us ∧ Blk W (g + 1) 22 vs ∧ Blk W gk 22 uk ∧ Blk W gn 22 un ∧ RB W A msg ∧ Below w.heap.size w W ∧ Tab7 W) ⟨hE.out ▸ Bp.later bb, hE.out ▸ Br.later bb, hE.out ▸ Bs.later bb, hE.out ▸ Bv.later bb, hE.out ▸ Bk.later bb, N0, hE.out ▸ HR.below bb, hE.out ▸ HB.then_ bb, hE.out ▸ HT.later bb⟩ ?_
  clear Lp Lr Ls Lv Lk Bp Br Bs Bv Bk HR HB HT T0 HL N0 eg hE bb b2
  rintro V4 ⟨Bp, Br, Bs, Bv, Bk, Bn, HR, HB, HT⟩
  have Lp := Bp.lt
  have Lr := Br.lt
  have Ls := Bs.lt
  have Lv := Bv.lt
  have Lk := Bk.lt
  have Ln := Bn.lt
  go_wp2_with fail
  apply wp_region_g 5 (by kernel_rfl) (by kernel_rfl)
  simp only [List.take_succ_cons, List.take_zero, List.drop_succ_cons, List.drop_zero]
  apply lg_call_in (fun v => ∃ c, v = .agg c.toArray ∧ PL c (baseP)) 17 #[] rfl (by intro W; go_simp) (fun W hW => base_calls W (HT.1.2.2.later hW))
  rintro _ ⟨cb, rfl, hcb⟩
  simp only [Act.put, List.setIfInBounds_toArray, List.set_cons_succ, List.set_cons_zero]
  apply lg_load 22 (.tmp 8) rfl gn 0 un _ Bn.rng Ln Tryd.underlying22 rfl szn rfl rfl
  simp only [Act.put, List.setIfInBounds_toArray, List.set_cons_succ, List.set_cons_zero]
  apply lg_call_in (fun v => ∃ c, v = .agg c.toArray ∧ PL c (Pt.times (leN (hR (preL seed ++ msg))) baseP)) 18 #[.agg cb.toArray, .agg un.toArray] rfl (by intro W; go_simp) (fun W hW => HMN.out _ _ W hcb (HT.1.2.1.later hW))
  rintro _ ⟨cm, rfl, hcm⟩
  simp only [Act.put, List.setIfInBounds_toArray, List.set_cons_succ, List.set_cons_zero]
  apply lg_callx_in (.agg uf.toArray) 19 #[.agg cm.toArray] rfl (by intro W; go_simp) (fun W hW => HENF.out _ _ W hcm HPF.out)
  simp only [Act.put, List.setIfInBounds_toArray, List.set_cons_succ, List.set_cons_zero]
  apply lg_alloc (.cells C32.toArray 22) (.cells C32.toArray 22) rfl (by intro W; go_simp; rfl) (fun W => heap_alloc_new W _)
  intro gf egf
  simp only [Act.put, List.setIfInBounds_toArray, List.set_cons_succ, List.set_cons_zero]
  refine lg_nil ?_
  intro WY hC
  obtain ⟨T0, HL, N0, G0⟩ := letG (z := C32) (cs := uf) (T := 22) (g := gf) hC (by simp [upd]) (by rw [luf]; rfl)
  refine wpList_store_mid rfl 22 _ _ rfl gf 0 uf.toArray rfl rfl T0 sAf ouf ?_
  simp only [Act.put]
  refine wpList_gen (fun W => Blk W w.heap.size 22 ub ∧ Blk W (w.heap.size + 1) 28 Z64 ∧ Blk W g 22 us ∧ Blk W (g + 1) 22 vs ∧ Blk W gk 22 uk ∧ Blk W gn 22 un ∧ Blk W gf 22 uf ∧ RB W A msg ∧ Below w.heap.size w W ∧ Tab7 W) ⟨Bp.later HL, Br.later HL, Bs.later HL, Bv.later HL, Bk.later HL, Bn.later HL, N0, HR.below HL, HB.then_ HL, HT.later HL⟩ ?_
  clear Lp Lr Ls Lv Lk Ln Bp Br Bs Bv Bk Bn HR HB HT hC T0 HL N0 G0
  rintro V5 ⟨Bp, Br, Bs, Bv, Bk, Bn, Bf, HR, HB, HT⟩
  have Lp := Bp.lt
  have Lr := Br.lt
  have Ls := Bs.lt
  have Lv := Bv.lt
  have Lk := Bk.lt
  have Ln := Bn.lt
  have Lf := Bf.lt
  go_upto_region 5 with fail
  go_wp2_with fail
  apply wp_region_gs 9 [32, 10] [33] (by kernel_rfl) (by kernel_rfl) (by kernel_rfl)
  simp only [List.take_succ_cons, List.take_zero, List.drop_succ_cons, List.drop_zero]
  apply gs_pure (.slice (some ⟨gf, 0, none⟩) 32 32) rfl (by intro W; go_simp)
  simp only [Act.put, List.setIfInBounds_toArray, List.set_cons_succ, List.set_cons_zero]
  apply gs_pure (.slice (some ⟨gk, 0, none⟩) 32 32) rfl (by intro W; go_simp)
  simp only [Act.put, List.setIfInBounds_toArray, List.set_cons_succ, List.set_cons_zero]
  apply gs_pure (.slice A n c) rfl (by intro W; go_simp)
  simp only [Act.put, List.setIfInBounds_toArray, List.set_cons_succ, List.set_cons_zero]
  apply gs_allocV (fun h => .slice (some ⟨h, 0, none⟩) 3 3) (.cells #[.slice (some ⟨gf, 0, none⟩) 32 32, .slice (some ⟨gk, 0, none⟩) 32 32, .slice A n c] 25) (.cells #[.slice (some ⟨gf, 0, none⟩) 32 32, .slice (some ⟨gk, 0, none⟩) 32 32, .slice A n c] 25) rfl rfl (by intro W; go_simp) (fun W => heap_alloc_new W _)
  intro gq eq
  simp only [Act.put, List.setIfInBounds_toArray, List.set_cons_succ, List.set_cons_zero]
  apply gs_callxS (.agg ux.toArray) 24 #[.slice (some ⟨gq, 0, none⟩) 3 3] rfl rfl (by intro W; go_simp) (fun W hW => HRX.out W _ (HT.later hW.1) (HRB3.out W gf gk gq (Bf.later hW.1) (Bk.later hW.1) (HR.below hW.1) (hW.2 gq _ (by simp [upd])).2))
  simp only [Act.put, List.setIfInBounds_toArray, List.set_cons_succ, List.set_cons_zero]
  apply gs_load 22 (.tmp 5) rfl g 0 us _ Bs.rng Ls Tryd.underlying22 rfl szs rfl rfl
  simp only [Act.put, List.setIfInBounds_toArray, List.set_cons_succ, List.set_cons_zero]
  apply gs_load 22 (.tmp 8) rfl gn 0 un _ Bn.rng Ln Tryd.underlying22 rfl szn rfl rfl
  simp only [Act.put, List.setIfInBounds_toArray, List.set_cons_succ, List.set_cons_zero]
  apply gs_callx_in (.agg uz.toArray) 25 #[.agg ux.toArray, .agg us.toArray, .agg un.toArray] rfl (by intro W; go_simp) (fun W hW => HMA.out W (Sc.Tab.later HT.2 hW))
  simp only [Act.put, List.setIfInBounds_toArray, List.set_cons_succ, List.set_cons_zero]
  apply gs_alloc (.cells C32.toArray 22) (.cells C32.toArray 22) rfl rfl (by intro W; go_simp; rfl) (fun W => heap_alloc_new W _)
  intro gz egz
  simp only [Act.put, List.setIfInBounds_toArray, List.set_cons_succ, List.set_cons_zero]
  refine gs_nil ?_
  intro WY hC
  obtain ⟨T0, HL, N0, G0⟩ := letG (z := C32) (cs := uz) (T := 22) (g := gz) hC (by simp [upd]) (by rw [luz]; rfl)
  refine wpList_store_mid rfl 22 _ _ rfl gz 0 uz.toArray rfl rfl T0 sAz ouz ?_
  simp only [Act.put]
  refine wpList_gen (fun W => Blk W w.heap.size 22 ub ∧ Blk W (w.heap.size + 1) 28 Z64 ∧ Blk W g 22 us ∧ Blk W (g + 1) 22 vs ∧ Blk W gk 22 uk ∧ Blk W gn 22 un ∧ Blk W gf 22 uf ∧ Blk W gz 22 uz ∧ RB W A msg ∧ Below w.heap.size w W ∧ Tab7 W) ⟨Bp.later HL, Br.later HL, Bs.later HL, Bv.later HL, Bk.later HL, Bn.later HL, Bf.later HL, N0, HR.below HL, HB.then_ HL, HT.later HL⟩ ?_
  clear Lp Lr Ls Lv Lk Ln Lf Bp Br Bs Bv Bk Bn Bf HR HB HT hC T0 HL N0 G0
  rintro V6 ⟨Bp, Br, Bs, Bv, Bk, Bn, Bf, Bz, HR, HB, HT⟩
  have Lp := Bp.lt
  have Lr := Br.lt
  have Ls := Bs.lt
  have Lv := Bv.lt
  have Lk := Bk.lt
  have Ln := Bn.lt
  have Lf := Bf.lt
  have Lz := Bz.lt
  go_upto_region 6 with fail
  go_upto_region 7 with fail
  have ba := (Below.refl V6.heap.size V6).alloc (Nat.le_refl _) (.cells Z64.toArray 28)
  have Na := Blk.new V6 Z64 28
  obtain ⟨gg, eg⟩ : ∃ g, V6.heap.size = g := ⟨_, rfl⟩
  rw [eg] at Na Lf Lz ⊢
  have hE : Hid (V6.heap.size = gg) := Lib.hid eg
  have HDF : Hid (gf ≠ gg) := Lib.hid (by omega)
  have HDZ : Hid (gz ≠ gg) := Lib.hid (by omega)
  have HDR : Hid (w.heap.size + 1 ≠ gg ∧ w.heap.size ≤ gg) := Lib.hid (by rw [eg] at Lr; omega)
  refine wp_gen (fun W => Blk W w.heap.size 22 ub ∧ Blk W (w.heap.size + 1) 28 Z64 ∧ Blk W g 22 us ∧ Blk W (g + 1) 22 vs ∧ Blk W gk 22 uk ∧ Blk W gn 22 un ∧ Blk W gf 22 uf ∧ Blk W gz 22 uz ∧ Blk W gg 28 Z64 ∧ RB W A msg ∧ Below w.heap.size w W ∧ Tab7 W) ⟨Bp.later ba, Br.later ba, Bs.later ba, Bv.later ba, Bk.later ba, Bn.later ba, Bf.later ba, Bz.later ba, Na, HR.below ba, HB.then_ ba, HT.later ba⟩ ?_
  clear Lp Lr Ls Lv Lk Ln Lf Lz Bp Br Bs Bv Bk Bn Bf Bz HR HB HT ba Na eg hE
  rintro V7 ⟨Bp, Br, Bs, Bv, Bk, Bn, Bf, Bz, Bg, HR, HB, HT⟩
  have Lp := Bp.lt
  have Lr := Br.lt
  have Ls := Bs.lt
  have Lv := Bv.lt
  have Lk := Bk.lt
  have Ln := Bn.lt
  have Lf := Bf.lt
  have Lz := Bz.lt
  have Lg := Bg.lt
  clear Bp Lp Bs Ls Bv Lv Bk Lk Bn Ln HR HT
  go_wp2_with fail
  apply wp_region_g 2 (by kernel_rfl) (by kernel_rfl)
  simp only [List.take_succ_cons, List.take_zero, List.drop_succ_cons, List.drop_zero]
  apply lg_pure (.slice (some ⟨gg, 0, none⟩) 32 64) rfl (by intro W; go_simp)
  simp only [Act.put, List.setIfInBounds_toArray, List.set_cons_succ, List.set_cons_zero]
  apply lg_pure (.slice (some ⟨gf, 0, none⟩) 32 32) rfl (by intro W; go_simp)
  simp only [Act.put, List.setIfInBounds_toArray, List.set_cons_succ, List.set_cons_zero]
  refine lg_nil ?_
  intro WY hC
  refine wpList_copy_own rfl (.tmp 37) (.tmp 38) 25 25 rfl 5 Tryd.underlying25 (by kernel_rfl) gg 0 32 64 ⟨gf, 0, none⟩ 32 32 rfl rfl _ 28 (Bg.later hC.1) uf luf (Bf.later hC.1).src0 (by rw [luf, List.size_toArray, show Z64.length = 64 from rfl]; decide) HAF.out ?_
  rw [row_low Z64 uf luf]
  refine wpList_gen (fun W => Blk W (w.heap.size + 1) 28 Z64 ∧ Blk W gf 22 uf ∧ Blk W gz 22 uz ∧ Blk W gg 28 (uf ++ Z64.drop 32) ∧ Below w.heap.size w W) ⟨(setRow_other _ _ _ _ HDR.out.1).trans (Br.later hC.1), (setRow_other _ _ _ _ HDF.out).trans (Bf.later hC.1), (setRow_other _ _ _ _ HDZ.out).trans (Bz.later hC.1), (Bg.later hC.1).setRow _, below_setRow (HB.then_ hC.1) HDR.out.2 _⟩ ?_
  clear Br Bf Bz Bg Lr Lf Lz Lg HB hC
  rintro V20 ⟨Br, Bf, Bz, Bg, HB⟩
  go_upto_region 8 with fail
  have hgl : (uf ++ Z64.drop 32).length = 64 := by rw [List.length_append, luf]; rfl
  go_wp2_with fail
  apply wp_region_g 2 (by kernel_rfl) (by kernel_rfl)
  simp only [List.take_succ_cons, List.take_zero, List.drop_succ_cons, List.drop_zero]
  apply lg_pure (.slice (some ⟨gg, 32, none⟩) 32 32) rfl (by intro W; go_simp)
  simp only [Act.put, List.setIfInBounds_toArray, List.set_cons_succ, List.set_cons_zero]
  apply lg_pure (.slice (some ⟨gz, 0, none⟩) 32 32) rfl (by intro W; go_simp)
  simp only [Act.put, List.setIfInBounds_toArray, List.set_cons_succ, List.set_cons_zero]
  refine lg_nil ?_
  intro WY hC
  refine wpList_copy_own rfl (.tmp 40) (.tmp 41) 25 25 rfl 5 Tryd.underlying25 (by kernel_rfl) gg 32 32 32 ⟨gz, 0, none⟩ 32 32 rfl rfl _ 28 (Bg.later hC.1) uz luz (Bz.later hC.1).src0 (by rw [luz, List.size_toArray, hgl]; decide) HAZ.out ?_
  rw [row_high _ uz hgl luz, List.take_left' luf, ← HSG.out]
  have hgs : (u8s (sigL seed msg)).length = 64 := by rw [u8s_len, sigL_len]
  have ogs := u8s_one (sigL seed msg)
  have hrow := (Bg.later hC.1).setRow (u8s (sigL seed msg))
  have hR3 := (setRow_other _ gg _ (u8s (sigL seed msg)).toArray HDR.out.1).trans (Br.later hC.1)
  have hB3 := below_setRow (HB.then_ hC.1) HDR.out.2 (u8s (sigL seed msg)).toArray
  obtain ⟨q, hq⟩ : ∃ q, u8s (sigL seed msg) = q := ⟨_, rfl⟩
  rw [hq] at hrow hR3 hB3 hgs ogs
  have HQ := Lib.hid hq
  rw [hq]
  refine wpList_gen (fun W => Blk W (w.heap.size + 1) 28 Z64 ∧ Blk W gg 28 q ∧ Below w.heap.size w W) ⟨hR3, hrow, hB3⟩ ?_
  clear hrow hR3 hB3 hq Br Bf Bz Bg HB hC
  rintro V21 ⟨Br, Bg, HB⟩
  go_upto_region 9 with fail
  have sq := sz64 hgs
  have sqA := sz64A hgs
  obtain ⟨T0, HL, N0⟩ := ansB (cs := q) Br HB (by omega) (Below.refl _ _) (by rw [hgs]; rfl)
  have rq := Bg.rng
  have HLL := Lib.hid HL
  clear Br Bg HB HL
  go_wp2_with (first
    | (refine wpList_load_mid rfl 28 _ rfl gg 0 rfl q _ rq Tryd.underlying28 rfl sq ?_)
    | (refine wpList_store_mid rfl 28 _ _ rfl (w.heap.size + 1) 0 q.toArray rfl rfl T0 sqA ogs ?_))
  exact bodyPost_ret (v := .agg q.toArray) (res_cell rfl _ _ _ _ rfl (N0.load 28 Tryd.underlying28 rfl sq)) rfl ⟨by rw [HQ.out], HLL.out⟩
end Go.Proofs.YtkfdclnaaphdgaaDoor
