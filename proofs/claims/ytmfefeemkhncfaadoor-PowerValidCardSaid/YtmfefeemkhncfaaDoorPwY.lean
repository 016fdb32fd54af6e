/- Layer 14: the law PowerValid. -/
import Derived.Test.YtmfefeemkhncfaaDoorPwX
namespace Go.Proofs.YtmfefeemkhncfaaDoor
open Go.ChangeShapes Go.WideShapes Go.ChangeAt Go.RowKit Go.IntWalk
set_option linter.unusedVariables false
set_option maxRecDepth 100000

def ksum : Bool → JT → Nat
  | _, .nil => 0
  | mem, .cons k _ _ _ _ l m r => (if mem then k.length else 0) + ksum false l + ksum true m + ksum mem r
theorem wg_ksum : ∀ (t : JT) (mem : Bool) (left : Int) (d : Nat), 0 ≤ wgF mem t left d → wgF mem t left d + ksum mem t ≤ left
  | .nil, mem, left, d, h => by simp [wgF, ksum]
  | .cons k kd is n s l m r, mem, left, d, h => by
    rw [wgF] at h ⊢
    by_cases h0 : left < 0
    · rw [if_pos h0] at h; omega
    · rw [if_neg h0] at h ⊢
      obtain ⟨y, hy⟩ : ∃ y, (if mem then left - k.length else left) - 1 - (s.length : Int) = y := ⟨_, rfl⟩
      rw [hy] at h ⊢
      have hyl : y + ((if mem then k.length else 0 : Nat) : Int) ≤ left - 1 := by
        rw [← hy]
        cases mem with
        | true => simp only [if_true]; omega
        | false => simp only [Bool.false_eq_true, if_false]; omega
      by_cases hd : d = 0
      · rw [if_pos hd] at h ⊢
        have := wg_ksum r mem _ _ h
        omega
      · rw [if_neg hd] at h ⊢
        have h1 := wg_ksum r mem _ _ h
        obtain ⟨x, hx⟩ : ∃ x, wgF true m (wgF false l y (d - 1)) (d - 1) = x := ⟨_, rfl⟩
        rw [hx] at h h1 ⊢
        have h2 := wg_ksum m true _ (d - 1) (by rw [hx]; omega)
        rw [hx] at h2
        have h3 := wg_ksum l false y (d - 1) (by omega)
        simp only [ksum]
        omega
theorem key_ksum : ∀ (t : JT) (i : Nat), i < t.ext → (t.fall i).key.length ≤ ksum true t ∧ ksum true (t.fall i).val.m ≤ ksum true t
  | .nil, i, h => absurd h (by simp [JT.ext])
  | .cons k kd is n s l m r, 0, h => by rw [JT.fall_zero]; simp only [ksum, if_true, JT.key, JT.val]; omega
  | .cons k kd is n s l m r, i + 1, h => by
    have := key_ksum r i (by simp [JT.ext] at h; omega)
    rw [JT.fall]
    simp only [ksum]
    omega
theorem gr_short {v : Jv} (h : grB v = false) : ∀ i, i < v.m.ext → ShortM (v.m.fall i).val := by
  unfold grB at h
  simp only [Bool.or_eq_false_iff, decide_eq_false_iff_not] at h
  have h1 : 0 ≤ wgV v 4096 60 := by omega
  unfold wgV at h1
  rw [if_neg (by decide)] at h1
  have h2 := wg_ksum v.m true _ _ h1
  have h3 := wg_ksum v.l false (4096 - 1 - (v.s.length : Int)) (60 - 1) (by omega)
  have hm : ksum true v.m ≤ 4096 := by omega
  intro i hi j hj
  have h4 := (key_ksum v.m i hi).2
  have h5 := (key_ksum (v.m.fall i).val.m j hj).1
  omega
set_option maxHeartbeats 8000000 in
theorem valids_walk (a0 : Jv) (A0 B0 : Option Addr) (nl0 cl0 nm0 cm0 : Nat) (w : World) (hr0 : VOk w a0 A0 B0 nl0 cl0 nm0 cm0) (hm : Max w) (hT : LonTab w) :
    Calls Tryd.prog 3 #[.agg #[.int .i64 a0.kd, .bool a0.is, .int .i64 a0.n, .string ⟨a0.s.toArray⟩, .slice A0 nl0 cl0, .slice B0 nm0 cm0]] w fun e w' => e = .returned (.bool true) ∧ Below w.heap.size w w' := by
  have b0 : Below w.heap.size w (w.alloc (.cells #[.int .i64 a0.kd, .bool a0.is, .int .i64 a0.n, .string ⟨a0.s.toArray⟩, .slice A0 nl0 cl0, .slice B0 nm0 cm0] 25)) := (Below.refl _ _).alloc (Nat.le_refl _) _
  have HX := Lib.hid (Blk.new w [.int .i64 a0.kd, .bool a0.is, .int .i64 a0.n, .string ⟨a0.s.toArray⟩, .slice A0 nl0 cl0, .slice B0 nm0 cm0] 25)
  have HV := Lib.hid (hr0.below b0)
  have HLL := Lib.hid (And.intro (hm.below b0) (hT.below b0))
  have HB := Lib.hid b0
  obtain ⟨gr, hgr⟩ : ∃ gr, grB a0 = gr := ⟨_, rfl⟩
  have HGR := Lib.hid hgr
  obtain ⟨cv, hcv⟩ : ∃ c, validF a0 = c := ⟨_, rfl⟩
  have HCV := Lib.hid hcv
  clear hr0 hm hT b0 hgr hcv
  go_enter Tryd.func3, Tryd.ntmps3
  go_wp2_with fail
  refine (levels_calls _).mono ?_
  rintro e wa ⟨⟨A, B, nl, cl, nm, cm, rfl, hv⟩, b⟩
  have HBa := Lib.hid (HB.out.then_ b)
  have HLa := Lib.hid (And.intro (HLL.out.1.below b) (HLL.out.2.below b))
  have HXa := Lib.hid (HX.out.later b)
  have HVa := Lib.hid (HV.out.below b)
  have hc := valid_calls lvV A B nl cl nm cm wa hv HLa.out.1 HLa.out.2.1 HLa.out.2.2 lv_short
  rw [al_6] at hc
  clear b hv
  go_wp2_with fail
  refine hc.mono ?_
  rintro e wb ⟨rfl, b⟩
  have HBb := Lib.hid (HBa.out.then_ b)
  have HLb := Lib.hid (And.intro (HLa.out.1.below b) (HLa.out.2.below b))
  have HXb := Lib.hid (HXa.out.later b)
  have HVb := Lib.hid (HVa.out.below b)
  have hc := valid_calls nullV none none 0 0 0 0 wb (null_ok _) HLb.out.1 HLb.out.2.1 HLb.out.2.2 (fun i hi => absurd hi (by simp [nullV, JT.ext]))
  rw [al_0] at hc
  clear b
  go_wp2_with fail
  refine hc.mono ?_
  rintro e w1 ⟨rfl, b1⟩
  have HB1 := Lib.hid (HBb.out.then_ b1)
  have HLL1 := Lib.hid (And.intro (HLb.out.1.below b1) (HLb.out.2.below b1))
  have HX1 := Lib.hid (HXb.out.later b1)
  have HV1 := Lib.hid (HVb.out.below b1)
  have HR1 := Lib.hid HX1.out.rng
  clear b1 hc
  go_upto_region 3 with fail
  cases gr with
  | true =>
    apply wp_region_ls (by kernel_rfl) (by kernel_rfl)
    apply ls_load 25 (.tmp 1) rfl w.heap.size 0 [.int .i64 a0.kd, .bool a0.is, .int .i64 a0.n, .string ⟨a0.s.toArray⟩, .slice A0 nl0 cl0, .slice B0 nm0 cm0] _ HR1.out HX1.out.lt Tryd.underlying25 rfl size_valF rfl rfl
    simp only [Act.put, List.setIfInBounds_toArray, List.set_cons_succ, List.set_cons_zero]
    apply ls_callb (.bool true) 13 #[.agg #[.int .i64 a0.kd, .bool a0.is, .int .i64 a0.n, .string ⟨a0.s.toArray⟩, .slice A0 nl0 cl0, .slice B0 nm0 cm0]] rfl (by intro W; go_simp) (fun W hW => (great_calls a0 A0 B0 nl0 cl0 nm0 cm0 W (HV1.out.below hW)).mono fun e w' h => by rw [HGR.out] at h; exact h)
    simp only [Act.put, List.setIfInBounds_toArray, List.set_cons_succ, List.set_cons_zero]
    apply ls_move (.bool true) (.tmp 11) rfl rfl rfl
    simp only [Act.put, List.setIfInBounds_toArray, List.set_cons_succ, List.set_cons_zero]
    apply ls_skip rfl
    simp only [Act.put, List.setIfInBounds_toArray, List.set_cons_succ, List.set_cons_zero]
    apply ls_skip rfl
    simp only [Act.put, List.setIfInBounds_toArray, List.set_cons_succ, List.set_cons_zero]
    apply ls_skip rfl
    simp only [Act.put, List.setIfInBounds_toArray, List.set_cons_succ, List.set_cons_zero]
    apply ls_skip rfl
    simp only [Act.put, List.setIfInBounds_toArray, List.set_cons_succ, List.set_cons_zero]
    apply ls_skip rfl
    simp only [Act.put, List.setIfInBounds_toArray, List.set_cons_succ, List.set_cons_zero]
    apply ls_pure (.bool true) rfl (by intro W; go_simp)
    simp only [Act.put, List.setIfInBounds_toArray, List.set_cons_succ, List.set_cons_zero]
    apply ls_assign (.bool true) (.tmp 18) rfl rfl rfl
    simp only [Act.put, List.setIfInBounds_toArray, List.set_cons_succ, List.set_cons_zero]
    refine ls_nil (Rs := []) ?_
    intro w9 b9
    have HB9 := Lib.hid (HB1.out.then_ b9)
    clear b9
    go_wp2_with fail
    go_ret
    exact ⟨rfl, HB9.out⟩
  | false =>
    have HSH := Lib.hid (gr_short HGR.out)
    apply wp_region_ls (by kernel_rfl) (by kernel_rfl)
    apply ls_load 25 (.tmp 1) rfl w.heap.size 0 [.int .i64 a0.kd, .bool a0.is, .int .i64 a0.n, .string ⟨a0.s.toArray⟩, .slice A0 nl0 cl0, .slice B0 nm0 cm0] _ HR1.out HX1.out.lt Tryd.underlying25 rfl size_valF rfl rfl
    simp only [Act.put, List.setIfInBounds_toArray, List.set_cons_succ, List.set_cons_zero]
    apply ls_callb (.bool false) 13 #[.agg #[.int .i64 a0.kd, .bool a0.is, .int .i64 a0.n, .string ⟨a0.s.toArray⟩, .slice A0 nl0 cl0, .slice B0 nm0 cm0]] rfl (by intro W; go_simp) (fun W hW => (great_calls a0 A0 B0 nl0 cl0 nm0 cm0 W (HV1.out.below hW)).mono fun e w' h => by rw [HGR.out] at h; exact h)
    simp only [Act.put, List.setIfInBounds_toArray, List.set_cons_succ, List.set_cons_zero]
    apply ls_move (.bool false) (.tmp 11) rfl rfl rfl
    simp only [Act.put, List.setIfInBounds_toArray, List.set_cons_succ, List.set_cons_zero]
    apply ls_load 25 (.tmp 1) rfl w.heap.size 0 [.int .i64 a0.kd, .bool a0.is, .int .i64 a0.n, .string ⟨a0.s.toArray⟩, .slice A0 nl0 cl0, .slice B0 nm0 cm0] _ HR1.out HX1.out.lt Tryd.underlying25 rfl size_valF rfl rfl
    simp only [Act.put, List.setIfInBounds_toArray, List.set_cons_succ, List.set_cons_zero]
    apply ls_callb (.bool cv) 11 #[.agg #[.int .i64 a0.kd, .bool a0.is, .int .i64 a0.n, .string ⟨a0.s.toArray⟩, .slice A0 nl0 cl0, .slice B0 nm0 cm0]] rfl (by intro W; go_simp) (fun W hW => (valid_calls a0 A0 B0 nl0 cl0 nm0 cm0 W (HV1.out.below hW) (HLL1.out.1.below hW) (HLL1.out.2.1.below hW) (HLL1.out.2.2.below hW) HSH.out).mono fun e w' h => by rw [HCV.out] at h; exact h)
    simp only [Act.put, List.setIfInBounds_toArray, List.set_cons_succ, List.set_cons_zero]
    apply ls_load 25 (.tmp 1) rfl w.heap.size 0 [.int .i64 a0.kd, .bool a0.is, .int .i64 a0.n, .string ⟨a0.s.toArray⟩, .slice A0 nl0 cl0, .slice B0 nm0 cm0] _ HR1.out HX1.out.lt Tryd.underlying25 rfl size_valF rfl rfl
    simp only [Act.put, List.setIfInBounds_toArray, List.set_cons_succ, List.set_cons_zero]
    apply ls_callb (.bool cv) 14 #[.agg #[.int .i64 a0.kd, .bool a0.is, .int .i64 a0.n, .string ⟨a0.s.toArray⟩, .slice A0 nl0 cl0, .slice B0 nm0 cm0]] rfl (by intro W; go_simp) (fun W hW => (refvalid_calls a0 A0 B0 nl0 cl0 nm0 cm0 W (HV1.out.below hW) HSH.out).mono fun e w' h => by rw [HCV.out] at h; exact h)
    simp only [Act.put, List.setIfInBounds_toArray, List.set_cons_succ, List.set_cons_zero]
    apply ls_pure (.bool true) rfl (by intro W; go_simp)
    simp only [Act.put, List.setIfInBounds_toArray, List.set_cons_succ, List.set_cons_zero]
    apply ls_pure (.bool true) rfl (by intro W; go_simp)
    simp only [Act.put, List.setIfInBounds_toArray, List.set_cons_succ, List.set_cons_zero]
    apply ls_assign (.bool true) (.tmp 18) rfl rfl rfl
    simp only [Act.put, List.setIfInBounds_toArray, List.set_cons_succ, List.set_cons_zero]
    refine ls_nil (Rs := []) ?_
    intro w9 b9
    have HB9 := Lib.hid (HB1.out.then_ b9)
    clear b9
    go_wp2_with fail
    go_ret
    exact ⟨rfl, HB9.out⟩
theorem powerValid_walk (a0 : Jv) (A0 B0 : Option Addr) (nl0 cl0 nm0 cm0 : Nat) {w : World} (hr0 : VOk w a0 A0 B0 nl0 cl0 nm0 cm0) (hm : Max w) (hT : LonTab w) :
    Calls Tryd.prog 3 #[.agg #[.int .i64 a0.kd, .bool a0.is, .int .i64 a0.n, .string ⟨a0.s.toArray⟩, .slice A0 nl0 cl0, .slice B0 nm0 cm0]] w fun e w' => e = .returned (.bool true) ∧ Below w.heap.size w w' :=
  valids_walk a0 A0 B0 nl0 cl0 nm0 cm0 w hr0 hm hT
end Go.Proofs.YtmfefeemkhncfaaDoor
