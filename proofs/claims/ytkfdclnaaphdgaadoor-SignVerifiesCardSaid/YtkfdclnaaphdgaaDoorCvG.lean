/- Layer 6: the program's laid numbers; sums of points as points. -/
import Derived.Test.YtkfdclnaaphdgaaDoorCvD
import Derived.Test.YtkfdclnaaphdgaaDoorCvR
namespace Go.Proofs.YtkfdclnaaphdgaaDoor
open Go.ChangeShapes Go.WideShapes Go.ChangeAt Go.RowKit Go.IntWalk
set_option linter.unusedVariables false

def bxB : List UInt8 := [26, 213, 37, 143, 96, 45, 86, 201, 178, 167, 37, 149, 96, 199, 44, 105, 92, 220, 214, 253, 49, 226, 164, 192, 254, 83, 110, 205, 211, 54, 105, 33]
def byB : List UInt8 := [88, 102, 102, 102, 102, 102, 102, 102, 102, 102, 102, 102, 102, 102, 102, 102, 102, 102, 102, 102, 102, 102, 102, 102, 102, 102, 102, 102, 102, 102, 102, 102]
def bxF : F := fo 15112221349535400772501151409588531511454012693041857206046113283949847762202
def byF : F := fo 46316835694926478169428394003475163141307993866256225615783033603165251855960
theorem bxB_val : fo (leN bxB) = bxF := by decide +kernel
theorem byB_val : fo (leN byB) = byF := by decide +kernel
theorem dB_of (w : World) : Calls Tryd.prog 39 #[A32 dB] w (FPost dF w) := by have := fof_calls dB rfl w; rwa [dB_val] at this
theorem bxB_of (w : World) : Calls Tryd.prog 39 #[A32 bxB] w (FPost bxF w) := by have := fof_calls bxB rfl w; rwa [bxB_val] at this
theorem byB_of (w : World) : Calls Tryd.prog 39 #[A32 byB] w (FPost byF w) := by have := fof_calls byB rfl w; rwa [byB_val] at this
/-- Base's point. -/
def baseP : Pt := ⟨bxF, byF, by unfold OnC; decide +kernel⟩
/-- A laid table of bytes is there. -/
def TG (g : Nat) (bs : List UInt8) (w : World) : Prop := w.rangeAt g 0 (u8s bs) ∧ g < w.heap.size
theorem TG.later {g : Nat} {bs : List UInt8} {w w1 : World} (h : TG g bs w) (b : Below w.heap.size w w1) : TG g bs w1 :=
  ⟨fun j v hv => (b.cell (p := ⟨g, 0 + j, none⟩) h.2).trans (h.1 j v hv), by have := b.size; have := h.2; omega⟩
def TabD (w : World) : Prop := TG 3 dB w
def TabB (w : World) : Prop := TG 1 bxB w ∧ TG 2 byB w
theorem TabD.later {w w1 : World} (h : TabD w) (b : Below w.heap.size w w1) : TabD w1 := TG.later h b
theorem TabB.later {w w1 : World} (h : TabB w) (b : Below w.heap.size w w1) : TabB w1 := ⟨h.1.later b, h.2.later b⟩
set_option maxRecDepth 100000 in
set_option maxHeartbeats 4000000 in
theorem twiceD_calls (w : World) (hT : TabD w) :
    Calls Tryd.prog 40 #[] w (FPost (dF + dF) w) := by
  go_enter Tryd.func40, Tryd.ntmps40
  go_upto_region 1 with fail
  refine wp_gen (fun W => Blk W w.heap.size 40 C5 ∧ Below w.heap.size w W ∧ TabD W) ?_ ?_
  · obtain ⟨a0, hb⟩ := alloc1 w C5 40
    exact ⟨a0, hb, hT.later hb⟩
  rintro W0 ⟨Bp0, HB, HT⟩
  have Lp0 := Bp0.lt
  go_wp2_with fail
  apply wp_region_g 5 (by kernel_rfl) (by kernel_rfl)
  simp only [List.take_succ_cons, List.take_zero, List.drop_succ_cons, List.drop_zero]
  apply lg_load 22 (.global 3) rfl 3 0 (u8s dB) _ HT.1 HT.2 Tryd.underlying22 rfl (size32' dB rfl) rfl rfl
  simp only [Act.put, List.setIfInBounds_toArray, List.set_cons_succ, List.set_cons_zero]
  apply lg_f (dF) 39 #[.agg (u8s dB).toArray] rfl (by intro W; go_simp) (fun W => dB_of W)
  rintro _ ⟨v2, rfl, h2⟩
  simp only [Act.put, List.setIfInBounds_toArray, List.set_cons_succ, List.set_cons_zero]
  apply lg_load 22 (.global 3) rfl 3 0 (u8s dB) _ HT.1 HT.2 Tryd.underlying22 rfl (size32' dB rfl) rfl rfl
  simp only [Act.put, List.setIfInBounds_toArray, List.set_cons_succ, List.set_cons_zero]
  apply lg_f (dF) 39 #[.agg (u8s dB).toArray] rfl (by intro W; go_simp) (fun W => dB_of W)
  rintro _ ⟨v4, rfl, h4⟩
  simp only [Act.put, List.setIfInBounds_toArray, List.set_cons_succ, List.set_cons_zero]
  apply lg_f (dF + dF) 59 #[.agg v2.toArray, .agg v4.toArray] rfl (by intro W; go_simp) (fun W => fadd_calls h2 h4 W)
  rintro _ ⟨v5, rfl, h5⟩
  simp only [Act.put, List.setIfInBounds_toArray, List.set_cons_succ, List.set_cons_zero]
  refine lg_nil ?_
  intro WY1 hC
  obtain ⟨T0, HL, N0⟩ := ansB (cs := v5) Bp0 HB (by omega) hC.1 (by rw [h5.len]; rfl)
  refine wpList_store_mid rfl 40 _ _ rfl w.heap.size 0 v5.toArray rfl rfl T0 h5.sizeA h5.one ?_
  simp only [Act.put]
  go_wp2_with fail
  exact bodyPost_ret (v := .agg v5.toArray) (res_cell rfl _ _ _ _ rfl (N0.load 40 Tryd.underlying40 rfl h5.size)) rfl ⟨_, rfl, ⟨_, rfl, h5⟩, HL⟩
set_option maxRecDepth 100000 in
set_option maxHeartbeats 4000000 in
theorem base_raw (w : World) (hT : TabB w) :
    Calls Tryd.prog 17 #[] w (QPost bxF byF 1 (bxF * byF) w) := by
  go_enter Tryd.func17, Tryd.ntmps17
  go_upto_region 1 with fail
  refine wp_gen (fun W => Blk W w.heap.size 42 C20 ∧ Below w.heap.size w W ∧ TabB W) ?_ ?_
  · obtain ⟨a0, hb⟩ := alloc1 w C20 42
    exact ⟨a0, hb, hT.later hb⟩
  rintro W0 ⟨Bp0, HB, HT⟩
  have Lp0 := Bp0.lt
  go_wp2_with fail
  apply wp_region_g 5 (by kernel_rfl) (by kernel_rfl)
  simp only [List.take_succ_cons, List.take_zero, List.drop_succ_cons, List.drop_zero]
  apply lg_load 22 (.global 1) rfl 1 0 (u8s bxB) _ HT.1.1 HT.1.2 Tryd.underlying22 rfl (size32' bxB rfl) rfl rfl
  simp only [Act.put, List.setIfInBounds_toArray, List.set_cons_succ, List.set_cons_zero]
  apply lg_f (bxF) 39 #[.agg (u8s bxB).toArray] rfl (by intro W; go_simp) (fun W => bxB_of W)
  rintro _ ⟨v2, rfl, h2⟩
  simp only [Act.put, List.setIfInBounds_toArray, List.set_cons_succ, List.set_cons_zero]
  apply lg_load 22 (.global 2) rfl 2 0 (u8s byB) _ HT.2.1 HT.2.2 Tryd.underlying22 rfl (size32' byB rfl) rfl rfl
  simp only [Act.put, List.setIfInBounds_toArray, List.set_cons_succ, List.set_cons_zero]
  apply lg_f (byF) 39 #[.agg (u8s byB).toArray] rfl (by intro W; go_simp) (fun W => byB_of W)
  rintro _ ⟨v4, rfl, h4⟩
  simp only [Act.put, List.setIfInBounds_toArray, List.set_cons_succ, List.set_cons_zero]
  apply lg_call_in (fun v => ∃ c, v = .agg c.toArray ∧ Q4 c bxF byF 1 (bxF * byF)) 38 #[.agg v2.toArray, .agg v4.toArray] rfl (by intro W; go_simp) (fun W hW => point_calls h2 h4 W)
  rintro _ ⟨v5, rfl, h5⟩
  simp only [Act.put, List.setIfInBounds_toArray, List.set_cons_succ, List.set_cons_zero]
  refine lg_nil ?_
  intro WY1 hC
  obtain ⟨T0, HL, N0⟩ := ansB (cs := v5) Bp0 HB (by omega) hC.1 (by rw [h5.len]; rfl)
  refine wpList_store_mid rfl 42 _ _ rfl w.heap.size 0 v5.toArray rfl rfl T0 h5.sizeA h5.one ?_
  simp only [Act.put]
  go_wp2_with fail
  exact bodyPost_ret (v := .agg (v5).toArray) (res_cell rfl _ _ _ _ rfl (N0.load 42 Tryd.underlying42 rfl h5.size)) rfl ⟨_, rfl, ⟨_, rfl, h5⟩, HL⟩
theorem base_calls (w : World) (hT : TabB w) : Calls Tryd.prog 17 #[] w (PPost baseP w) := (base_raw w hT).mono fun e w' h => h.pt (Rep.aff rfl rfl)
theorem zero_calls (w : World) : Calls Tryd.prog 41 #[] w (PPost Pt.zero w) := (zero_raw w).mono fun e w' h => h.pt (Rep.aff rfl rfl)
section
variable {c1 c2 dd : List Value} {p q : Pt}
theorem plusP (h1 : PL c1 p) (h2 : PL c2 q) (hd : E dd (dF + dF)) (w : World) : Calls Tryd.prog 42 #[.agg c1.toArray, .agg c2.toArray, .agg dd.toArray] w (PPost (p.add q) w) := by
  obtain ⟨_, _, _, _, ⟨_, _, _, _, rfl, ha1, hb1, hc1, hd1⟩, r1⟩ := h1
  obtain ⟨_, _, _, _, ⟨_, _, _, _, rfl, ha2, hb2, hc2, hd2⟩, r2⟩ := h2
  exact (plus_raw ha1 hb1 hc1 hd1 ha2 hb2 hc2 hd2 hd w).mono fun e w' h => h.pt (r1.plus r2)
theorem twiceP (h1 : PL c1 p) (w : World) : Calls Tryd.prog 43 #[.agg c1.toArray] w (PPost (p.add p) w) := by
  obtain ⟨_, _, _, _, ⟨_, _, _, _, rfl, ha1, hb1, hc1, hd1⟩, r1⟩ := h1
  exact (twice_raw ha1 hb1 hc1 hd1 w).mono fun e w' h => h.pt r1.twice
theorem negP (h1 : PL c1 p) (w : World) : Calls Tryd.prog 30 #[.agg c1.toArray] w (PPost p.neg w) := by
  obtain ⟨_, _, _, _, ⟨_, _, _, _, rfl, ha1, hb1, hc1, hd1⟩, r1⟩ := h1
  exact (neg_raw ha1 hb1 hc1 hd1 w).mono fun e w' h => h.pt r1.neg
theorem refSumP (h1 : RL c1 p) (h2 : RL c2 q) (w : World) : Calls Tryd.prog 34 #[.agg c1.toArray, .agg c2.toArray] w (RPPost (p.add q) w) := by
  obtain ⟨_, _, _, _, ⟨_, _, _, _, rfl, ha1, hb1, hc1, hd1⟩, r1⟩ := h1
  obtain ⟨_, _, _, _, ⟨_, _, _, _, rfl, ha2, hb2, hc2, hd2⟩, r2⟩ := h2
  exact (refSum_raw ha1 hb1 hc1 hd1 ha2 hb2 hc2 hd2 w).mono fun e w' h => h.pt (r1.sum r2)
theorem sub_from_zero (a : F) : 0 - a = -a := by grobner
theorem refNegP (h1 : RL c1 p) (w : World) : Calls Tryd.prog 33 #[.agg c1.toArray] w (RPPost p.neg w) := by
  obtain ⟨_, _, _, _, ⟨_, _, _, _, rfl, ha1, hb1, hc1, hd1⟩, r1⟩ := h1
  exact (refNeg_raw ha1 hb1 hc1 hd1 w).mono fun e w' h => h.pt (by
    have := r1.neg
    rwa [sub_from_zero, sub_from_zero])
end
theorem refZeroP (w : World) : Calls Tryd.prog 53 #[] w (RPPost Pt.zero w) := (refZero_raw w).mono fun e w' h => h.pt (by
  have := Rep.aff (p := Pt.zero) (x := 0) (y := 1) rfl rfl
  rwa [Fin.mul_one] at this)
set_option maxRecDepth 100000 in
set_option maxHeartbeats 4000000 in
theorem addP {c1 c2 : List Value} {p q : Pt} (h1 : PL c1 p) (h2 : PL c2 q) (w : World) (hT : TabD w) :
    Calls Tryd.prog 29 #[.agg c1.toArray, .agg c2.toArray] w (PPost (p.add q) w) := by
  go_enter Tryd.func29, Tryd.ntmps29
  go_upto_region 1 with fail
  refine wp_gen (fun W => Blk W w.heap.size 42 c1 ∧ Blk W (w.heap.size + 1) 42 c2 ∧ Blk W (w.heap.size + 1 + 1) 42 C20 ∧ Below w.heap.size w W ∧ TabD W) ?_ ?_
  · obtain ⟨a0, a1, a2, hb⟩ := alloc3 w c1 c2 C20 42 42 42
    exact ⟨a0, a1, a2, hb, hT.later hb⟩
  rintro W0 ⟨Bp2, Bp3, Bp4, HB, HT⟩
  have Lp2 := Bp2.lt
  have Lp3 := Bp3.lt
  have Lp4 := Bp4.lt
  go_wp2_with fail
  apply wp_region_g 4 (by kernel_rfl) (by kernel_rfl)
  simp only [List.take_succ_cons, List.take_zero, List.drop_succ_cons, List.drop_zero]
  apply lg_load 42 (.tmp 2) rfl w.heap.size 0 c1 _ Bp2.rng Lp2 Tryd.underlying42 rfl h1.size rfl rfl
  simp only [Act.put, List.setIfInBounds_toArray, List.set_cons_succ, List.set_cons_zero]
  apply lg_load 42 (.tmp 3) rfl (w.heap.size + 1) 0 c2 _ Bp3.rng Lp3 Tryd.underlying42 rfl h2.size rfl rfl
  simp only [Act.put, List.setIfInBounds_toArray, List.set_cons_succ, List.set_cons_zero]
  apply lg_call_in (fun v => EV v (dF + dF)) 40 #[] rfl (by intro W; go_simp) (fun W hW => twiceD_calls W (HT.later hW))
  rintro _ ⟨v7, rfl, h7⟩
  simp only [Act.put, List.setIfInBounds_toArray, List.set_cons_succ, List.set_cons_zero]
  apply lg_call_in (fun v => ∃ c, v = .agg c.toArray ∧ PL c (p.add q)) 42 #[.agg (c1).toArray, .agg (c2).toArray, .agg v7.toArray] rfl (by intro W; go_simp) (fun W hW => plusP h1 h2 h7 W)
  rintro _ ⟨v8, rfl, h8⟩
  simp only [Act.put, List.setIfInBounds_toArray, List.set_cons_succ, List.set_cons_zero]
  refine lg_nil ?_
  intro WY1 hC
  obtain ⟨T0, HL, N0⟩ := ansB (cs := v8) Bp4 HB (by omega) hC.1 (by rw [h8.len]; rfl)
  refine wpList_store_mid rfl 42 _ _ rfl (w.heap.size + 1 + 1) 0 v8.toArray rfl rfl T0 h8.sizeA h8.one ?_
  simp only [Act.put]
  go_wp2_with fail
  exact bodyPost_ret (v := .agg (v8).toArray) (res_cell rfl _ _ _ _ rfl (N0.load 42 Tryd.underlying42 rfl h8.size)) rfl ⟨_, rfl, ⟨_, rfl, h8⟩, HL⟩
end Go.Proofs.YtkfdclnaaphdgaaDoor
