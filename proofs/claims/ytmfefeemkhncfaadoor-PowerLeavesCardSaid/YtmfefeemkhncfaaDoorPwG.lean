/- Layer 14: what is played; the law PowerLevels, walked. -/
import Derived.Test.YtmfefeemkhncfaaDoorPwF
import Derived.Test.YtmfefeemkhncfaaDoorPwE
namespace Go.Proofs.YtmfefeemkhncfaaDoor
open Go.ChangeShapes Go.WideShapes Go.ChangeAt Go.RowKit Go.IntWalk
set_option linter.unusedVariables false
set_option maxRecDepth 100000

def grB (v : Jv) : Bool := decide (wgV v 4096 60 < 0) || !risV v
theorem great_calls (a0 : Jv) (A0 B0 : Option Addr) (nl0 cl0 nm0 cm0 : Nat) (w : World) (hv : VOk w a0 A0 B0 nl0 cl0 nm0 cm0) :
    Calls Tryd.prog 13 #[.agg #[.int .i64 a0.kd, .bool a0.is, .int .i64 a0.n, .string ⟨a0.s.toArray⟩, .slice A0 nl0 cl0, .slice B0 nm0 cm0]] w fun e w' => e = .returned (.bool (grB a0)) ∧ Below w.heap.size w w' := by
  have hb1 : Below w.heap.size w (w.alloc (.cells #[.int .i64 a0.kd, .bool a0.is, .int .i64 a0.n, .string ⟨a0.s.toArray⟩, .slice A0 nl0 cl0, .slice B0 nm0 cm0] 25)) := (Below.refl _ _).alloc (Nat.le_refl _) _
  have hv1 := hv.below hb1
  have HW := weigh_calls a0.bulk a0 4096 60 60 _ A0 B0 nl0 cl0 nm0 cm0 (Nat.le_refl _) (by decide) (by decide) (by decide) (by decide) hv1.1 hv1.2.1 hv1.2.2.1 hv1.2.2.2.1 hv1.2.2.2.2
  have HB := Lib.hid hb1
  have HV := Lib.hid hv
  have HX := Lib.hid (Blk.new w [.int .i64 a0.kd, .bool a0.is, .int .i64 a0.n, .string ⟨a0.s.toArray⟩, .slice A0 nl0 cl0, .slice B0 nm0 cm0] 25)
  obtain ⟨z, hz⟩ : ∃ z, wgV a0 4096 60 = z := ⟨_, rfl⟩
  have HG := Lib.hid (show grB a0 = (decide (z < 0) || !risV a0) by unfold grB; rw [hz])
  unfold WgtPost at HW
  rw [hz] at HW
  clear hb1 hv hv1 hz
  by_cases hz0 : z < 0
  · have HG2 := Lib.hid (show grB a0 = true by rw [HG.out]; simp [hz0])
    go_enter Tryd.func13, Tryd.ntmps13
    go_wp2_with fail
    refine HW.mono ?_
    rintro e w1 ⟨⟨_, _, rfl⟩, b1⟩
    have HB1 := Lib.hid (HB.out.then_ b1)
    clear b1 HW
    go_wp2_with fail
    go_ret
    rw [HG2.out]
    exact ⟨rfl, HB1.out⟩
  · have HG2 := Lib.hid (show grB a0 = !risV a0 by rw [HG.out]; simp [hz0])
    go_enter Tryd.func13, Tryd.ntmps13
    go_wp2_with fail
    refine HW.mono ?_
    rintro e w1 ⟨⟨_, _, rfl⟩, b1⟩
    have HB1 := Lib.hid (HB.out.then_ b1)
    have hx := HX.out.later b1
    have d0 := hx.cell (k := 0) rfl; have d1 := hx.cell (k := 1) rfl; have d2 := hx.cell (k := 2) rfl; have d3 := hx.cell (k := 3) rfl; have d4 := hx.cell (k := 4) rfl; have d5 := hx.cell (k := 5) rfl
    have HR := rises_calls a0.bulk a0 w1 A0 B0 nl0 cl0 nm0 cm0 (Nat.le_refl _) (HV.out.below HB1.out)
    obtain ⟨rv, hrv⟩ : ∃ rv, risV a0 = rv := ⟨_, rfl⟩
    rw [hrv] at HR
    have HRV := Lib.hid hrv
    clear b1 HW hx hrv
    go_wp2_with fail
    refine HR.mono ?_
    rintro e w2 ⟨rfl, b2⟩
    have HB2 := Lib.hid (HB1.out.then_ b2)
    clear b2 HR
    go_wp2_with fail
    go_ret
    rw [HG.out, HRV.out]
    exact ⟨rfl, HB2.out⟩
theorem gr_rise {v : Jv} (h : grB v = false) : Rise (slts v.m) := by
  unfold grB at h
  simp only [Bool.or_eq_false_iff, Bool.not_eq_false'] at h
  exact rise_top h.2
theorem null_rise : Rise (slts nullV.m) := List.Pairwise.nil
theorem level_ban : levelF nullV [98, 97, 110] = 50 := by decide
set_option maxHeartbeats 8000000 in
theorem levels_walk (a0 : Jv) (A0 B0 : Option Addr) (nl0 cl0 nm0 cm0 : Nat) (a1 : List UInt8) (w : World) (hr0 : VOk w a0 A0 B0 nl0 cl0 nm0 cm0) (hT : LonT w) :
    Calls Tryd.prog 4 #[.agg #[.int .i64 a0.kd, .bool a0.is, .int .i64 a0.n, .string ⟨a0.s.toArray⟩, .slice A0 nl0 cl0, .slice B0 nm0 cm0], .string ⟨a1.toArray⟩] w fun e w' => e = .returned (.bool true) ∧ Below w.heap.size w w' := by
  have b0 : Below w.heap.size w (w.alloc (.cells #[.int .i64 a0.kd, .bool a0.is, .int .i64 a0.n, .string ⟨a0.s.toArray⟩, .slice A0 nl0 cl0, .slice B0 nm0 cm0] 25)) := (Below.refl _ _).alloc (Nat.le_refl _) _
  have HX := Lib.hid (Blk.new w [.int .i64 a0.kd, .bool a0.is, .int .i64 a0.n, .string ⟨a0.s.toArray⟩, .slice A0 nl0 cl0, .slice B0 nm0 cm0] 25)
  have HN := level_calls nullV none none 0 0 0 0 [98, 97, 110] _ (null_ok _) null_rise (hT.below b0)
  rw [level_ban] at HN
  have HB := Lib.hid b0
  have HV := Lib.hid (And.intro hr0 hT)
  obtain ⟨gr, hgr⟩ : ∃ gr, grB a0 = gr := ⟨_, rfl⟩
  have HGR := Lib.hid hgr
  obtain ⟨sn, hsn⟩ : ∃ sn, a1.length = sn := ⟨_, rfl⟩
  have hss : (⟨a1.toArray⟩ : ByteArray).size = sn := hsn
  obtain ⟨lv, hlv⟩ : ∃ lv, levelF a0 a1 = lv := ⟨_, rfl⟩
  have HLV := Lib.hid hlv
  clear hr0 hT b0 hgr hsn hlv
  go_enter Tryd.func4, Tryd.ntmps4
  go_wp2_with fail
  refine HN.mono ?_
  rintro e w1 ⟨rfl, b1⟩
  have HB1 := Lib.hid (HB.out.then_ b1)
  have HX1 := Lib.hid (HX.out.later b1)
  have HR1 := Lib.hid HX1.out.rng
  clear b1 HN
  go_upto_region 3 with fail
  cases gr with
  | true =>
    apply wp_region_ls (by kernel_rfl) (by kernel_rfl)
    apply ls_load 25 (.tmp 2) rfl w.heap.size 0 [.int .i64 a0.kd, .bool a0.is, .int .i64 a0.n, .string ⟨a0.s.toArray⟩, .slice A0 nl0 cl0, .slice B0 nm0 cm0] _ HR1.out HX1.out.lt Tryd.underlying25 rfl size_valF rfl rfl
    simp only [Act.put, List.setIfInBounds_toArray, List.set_cons_succ, List.set_cons_zero]
    apply ls_callb (.bool true) 13 #[.agg #[.int .i64 a0.kd, .bool a0.is, .int .i64 a0.n, .string ⟨a0.s.toArray⟩, .slice A0 nl0 cl0, .slice B0 nm0 cm0]] rfl (by intro W; go_simp) (fun W hW => (great_calls a0 A0 B0 nl0 cl0 nm0 cm0 W (HV.out.1.below (HB1.out.then_ hW))).mono fun e w' h => by rw [HGR.out] at h; exact h)
    simp only [Act.put, List.setIfInBounds_toArray, List.set_cons_succ, List.set_cons_zero]
    apply ls_move (.bool true) (.tmp 9) rfl rfl rfl
    simp only [Act.put, List.setIfInBounds_toArray, List.set_cons_succ, List.set_cons_zero]
    apply ls_skip rfl
    simp only [Act.put, List.setIfInBounds_toArray, List.set_cons_succ, List.set_cons_zero]
    apply ls_skip rfl
    simp only [Act.put, List.setIfInBounds_toArray, List.set_cons_succ, List.set_cons_zero]
    apply ls_skip rfl
    simp only [Act.put, List.setIfInBounds_toArray, List.set_cons_succ, List.set_cons_zero]
    apply ls_pure (.bool true) rfl (by intro W; go_simp)
    simp only [Act.put, List.setIfInBounds_toArray, List.set_cons_succ, List.set_cons_zero]
    apply ls_move (.bool true) (.tmp 14) rfl rfl rfl
    simp only [Act.put, List.setIfInBounds_toArray, List.set_cons_succ, List.set_cons_zero]
    apply ls_skip rfl
    simp only [Act.put, List.setIfInBounds_toArray, List.set_cons_succ, List.set_cons_zero]
    apply ls_skip rfl
    simp only [Act.put, List.setIfInBounds_toArray, List.set_cons_succ, List.set_cons_zero]
    apply ls_skip rfl
    simp only [Act.put, List.setIfInBounds_toArray, List.set_cons_succ, List.set_cons_zero]
    apply ls_skip rfl
    simp only [Act.put, List.setIfInBounds_toArray, List.set_cons_succ, List.set_cons_zero]
    apply ls_skip rfl
    simp only [Act.put, List.setIfInBounds_toArray, List.set_cons_succ, List.set_cons_zero]
    apply ls_skip rfl
    simp only [Act.put, List.setIfInBounds_toArray, List.set_cons_succ, List.set_cons_zero]
    apply ls_skip rfl
    simp only [Act.put, List.setIfInBounds_toArray, List.set_cons_succ, List.set_cons_zero]
    apply ls_pure (.bool true) rfl (by intro W; go_simp)
    simp only [Act.put, List.setIfInBounds_toArray, List.set_cons_succ, List.set_cons_zero]
    apply ls_assign (.bool true) (.tmp 23) rfl rfl rfl
    simp only [Act.put, List.setIfInBounds_toArray, List.set_cons_succ, List.set_cons_zero]
    refine ls_nil (Rs := []) ?_
    intro w9 b9
    have HB9 := Lib.hid (HB1.out.then_ b9)
    clear b9
    go_wp2_with fail
    go_ret
    exact ⟨rfl, HB9.out⟩
  | false =>
    have HRI := Lib.hid (gr_rise HGR.out)
    by_cases hlen : 1024 < sn
    · have ht : decide ((1024 : Int) < (sn : Int)) = true := by simp; omega
      apply wp_region_ls (by kernel_rfl) (by kernel_rfl)
      apply ls_load 25 (.tmp 2) rfl w.heap.size 0 [.int .i64 a0.kd, .bool a0.is, .int .i64 a0.n, .string ⟨a0.s.toArray⟩, .slice A0 nl0 cl0, .slice B0 nm0 cm0] _ HR1.out HX1.out.lt Tryd.underlying25 rfl size_valF rfl rfl
      simp only [Act.put, List.setIfInBounds_toArray, List.set_cons_succ, List.set_cons_zero]
      apply ls_callb (.bool false) 13 #[.agg #[.int .i64 a0.kd, .bool a0.is, .int .i64 a0.n, .string ⟨a0.s.toArray⟩, .slice A0 nl0 cl0, .slice B0 nm0 cm0]] rfl (by intro W; go_simp) (fun W hW => (great_calls a0 A0 B0 nl0 cl0 nm0 cm0 W (HV.out.1.below (HB1.out.then_ hW))).mono fun e w' h => by rw [HGR.out] at h; exact h)
      simp only [Act.put, List.setIfInBounds_toArray, List.set_cons_succ, List.set_cons_zero]
      apply ls_move (.bool false) (.tmp 9) rfl rfl rfl
      simp only [Act.put, List.setIfInBounds_toArray, List.set_cons_succ, List.set_cons_zero]
      apply ls_move (.string ⟨a1.toArray⟩) (.tmp 1) rfl rfl rfl
      simp only [Act.put, List.setIfInBounds_toArray, List.set_cons_succ, List.set_cons_zero]
      apply ls_pure (.int .i64 (sn : Int)) rfl (by intro W; go_simp)
      simp only [Act.put, List.setIfInBounds_toArray, List.set_cons_succ, List.set_cons_zero]
      apply ls_pure (.bool true) rfl (by intro W; go_simp)
      simp only [Act.put, List.setIfInBounds_toArray, List.set_cons_succ, List.set_cons_zero]
      apply ls_pure (.bool true) rfl (by intro W; go_simp)
      simp only [Act.put, List.setIfInBounds_toArray, List.set_cons_succ, List.set_cons_zero]
      apply ls_move (.bool true) (.tmp 14) rfl rfl rfl
      simp only [Act.put, List.setIfInBounds_toArray, List.set_cons_succ, List.set_cons_zero]
      apply ls_skip rfl
      simp only [Act.put, List.setIfInBounds_toArray, List.set_cons_succ, List.set_cons_zero]
      apply ls_skip rfl
      simp only [Act.put, List.setIfInBounds_toArray, List.set_cons_succ, List.set_cons_zero]
      apply ls_skip rfl
      simp only [Act.put, List.setIfInBounds_toArray, List.set_cons_succ, List.set_cons_zero]
      apply ls_skip rfl
      simp only [Act.put, List.setIfInBounds_toArray, List.set_cons_succ, List.set_cons_zero]
      apply ls_skip rfl
      simp only [Act.put, List.setIfInBounds_toArray, List.set_cons_succ, List.set_cons_zero]
      apply ls_skip rfl
      simp only [Act.put, List.setIfInBounds_toArray, List.set_cons_succ, List.set_cons_zero]
      apply ls_skip rfl
      simp only [Act.put, List.setIfInBounds_toArray, List.set_cons_succ, List.set_cons_zero]
      apply ls_pure (.bool true) rfl (by intro W; go_simp)
      simp only [Act.put, List.setIfInBounds_toArray, List.set_cons_succ, List.set_cons_zero]
      apply ls_assign (.bool true) (.tmp 23) rfl rfl rfl
      simp only [Act.put, List.setIfInBounds_toArray, List.set_cons_succ, List.set_cons_zero]
      refine ls_nil (Rs := []) ?_
      intro w9 b9
      have HB9 := Lib.hid (HB1.out.then_ b9)
      clear b9
      go_wp2_with fail
      go_ret
      exact ⟨rfl, HB9.out⟩
    · have ht : decide ((1024 : Int) < (sn : Int)) = false := by simp; omega
      apply wp_region_ls (by kernel_rfl) (by kernel_rfl)
      apply ls_load 25 (.tmp 2) rfl w.heap.size 0 [.int .i64 a0.kd, .bool a0.is, .int .i64 a0.n, .string ⟨a0.s.toArray⟩, .slice A0 nl0 cl0, .slice B0 nm0 cm0] _ HR1.out HX1.out.lt Tryd.underlying25 rfl size_valF rfl rfl
      simp only [Act.put, List.setIfInBounds_toArray, List.set_cons_succ, List.set_cons_zero]
      apply ls_callb (.bool false) 13 #[.agg #[.int .i64 a0.kd, .bool a0.is, .int .i64 a0.n, .string ⟨a0.s.toArray⟩, .slice A0 nl0 cl0, .slice B0 nm0 cm0]] rfl (by intro W; go_simp) (fun W hW => (great_calls a0 A0 B0 nl0 cl0 nm0 cm0 W (HV.out.1.below (HB1.out.then_ hW))).mono fun e w' h => by rw [HGR.out] at h; exact h)
      simp only [Act.put, List.setIfInBounds_toArray, List.set_cons_succ, List.set_cons_zero]
      apply ls_move (.bool false) (.tmp 9) rfl rfl rfl
      simp only [Act.put, List.setIfInBounds_toArray, List.set_cons_succ, List.set_cons_zero]
      apply ls_move (.string ⟨a1.toArray⟩) (.tmp 1) rfl rfl rfl
      simp only [Act.put, List.setIfInBounds_toArray, List.set_cons_succ, List.set_cons_zero]
      apply ls_pure (.int .i64 (sn : Int)) rfl (by intro W; go_simp)
      simp only [Act.put, List.setIfInBounds_toArray, List.set_cons_succ, List.set_cons_zero]
      apply ls_pure (.bool false) rfl (by intro W; go_simp)
      simp only [Act.put, List.setIfInBounds_toArray, List.set_cons_succ, List.set_cons_zero]
      apply ls_pure (.bool false) rfl (by intro W; go_simp)
      simp only [Act.put, List.setIfInBounds_toArray, List.set_cons_succ, List.set_cons_zero]
      apply ls_move (.bool false) (.tmp 14) rfl rfl rfl
      simp only [Act.put, List.setIfInBounds_toArray, List.set_cons_succ, List.set_cons_zero]
      apply ls_load 25 (.tmp 2) rfl w.heap.size 0 [.int .i64 a0.kd, .bool a0.is, .int .i64 a0.n, .string ⟨a0.s.toArray⟩, .slice A0 nl0 cl0, .slice B0 nm0 cm0] _ HR1.out HX1.out.lt Tryd.underlying25 rfl size_valF rfl rfl
      simp only [Act.put, List.setIfInBounds_toArray, List.set_cons_succ, List.set_cons_zero]
      apply ls_move (.string ⟨a1.toArray⟩) (.tmp 1) rfl rfl rfl
      simp only [Act.put, List.setIfInBounds_toArray, List.set_cons_succ, List.set_cons_zero]
      apply ls_callb (.int .i64 lv) 15 #[.agg #[.int .i64 a0.kd, .bool a0.is, .int .i64 a0.n, .string ⟨a0.s.toArray⟩, .slice A0 nl0 cl0, .slice B0 nm0 cm0], .string ⟨a1.toArray⟩] rfl (by intro W; go_simp) (fun W hW => (level_calls a0 A0 B0 nl0 cl0 nm0 cm0 a1 W (HV.out.1.below (HB1.out.then_ hW)) HRI.out (HV.out.2.below (HB1.out.then_ hW))).mono fun e w' h => by rw [HLV.out] at h; exact h)
      simp only [Act.put, List.setIfInBounds_toArray, List.set_cons_succ, List.set_cons_zero]
      apply ls_load 25 (.tmp 2) rfl w.heap.size 0 [.int .i64 a0.kd, .bool a0.is, .int .i64 a0.n, .string ⟨a0.s.toArray⟩, .slice A0 nl0 cl0, .slice B0 nm0 cm0] _ HR1.out HX1.out.lt Tryd.underlying25 rfl size_valF rfl rfl
      simp only [Act.put, List.setIfInBounds_toArray, List.set_cons_succ, List.set_cons_zero]
      apply ls_move (.string ⟨a1.toArray⟩) (.tmp 1) rfl rfl rfl
      simp only [Act.put, List.setIfInBounds_toArray, List.set_cons_succ, List.set_cons_zero]
      apply ls_callb (.int .i64 lv) 16 #[.agg #[.int .i64 a0.kd, .bool a0.is, .int .i64 a0.n, .string ⟨a0.s.toArray⟩, .slice A0 nl0 cl0, .slice B0 nm0 cm0], .string ⟨a1.toArray⟩] rfl (by intro W; go_simp) (fun W hW => (reflevel_calls a0 A0 B0 nl0 cl0 nm0 cm0 a1 W (HV.out.1.below (HB1.out.then_ hW))).mono fun e w' h => by rw [HLV.out] at h; exact h)
      simp only [Act.put, List.setIfInBounds_toArray, List.set_cons_succ, List.set_cons_zero]
      apply ls_pure (.bool true) rfl (by intro W; go_simp)
      simp only [Act.put, List.setIfInBounds_toArray, List.set_cons_succ, List.set_cons_zero]
      apply ls_pure (.bool true) rfl (by intro W; go_simp)
      simp only [Act.put, List.setIfInBounds_toArray, List.set_cons_succ, List.set_cons_zero]
      apply ls_assign (.bool true) (.tmp 23) rfl rfl rfl
      simp only [Act.put, List.setIfInBounds_toArray, List.set_cons_succ, List.set_cons_zero]
      refine ls_nil (Rs := []) ?_
      intro w9 b9
      have HB9 := Lib.hid (HB1.out.then_ b9)
      clear b9
      go_wp2_with fail
      go_ret
      exact ⟨rfl, HB9.out⟩
theorem powerLevels_walk (a0 : Jv) (A0 B0 : Option Addr) (nl0 cl0 nm0 cm0 : Nat) {w : World} (hr0 : VOk w a0 A0 B0 nl0 cl0 nm0 cm0) (a1 : ByteArray) (w1 : a1.size ≤ maxLen) (hT : LonT w) :
    Calls Tryd.prog 4 #[.agg #[.int .i64 a0.kd, .bool a0.is, .int .i64 a0.n, .string ⟨a0.s.toArray⟩, .slice A0 nl0 cl0, .slice B0 nm0 cm0], .string a1] w fun e w' => e = .returned (.bool true) ∧ Below w.heap.size w w' := by
  obtain ⟨l, rfl, _⟩ := str_split a1
  exact levels_walk a0 A0 B0 nl0 cl0 nm0 cm0 l w hr0 hT
end Go.Proofs.YtmfefeemkhncfaaDoor
