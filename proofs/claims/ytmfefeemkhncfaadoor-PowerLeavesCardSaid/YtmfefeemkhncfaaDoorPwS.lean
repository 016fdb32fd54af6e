/- Layer 14: the law PowerChanges. -/
import Derived.Test.YtmfefeemkhncfaaDoorPwR
namespace Go.Proofs.YtmfefeemkhncfaaDoor
open Go.ChangeShapes Go.WideShapes Go.ChangeAt Go.RowKit Go.IntWalk
set_option linter.unusedVariables false
set_option maxRecDepth 100000

theorem wg_bulk : ∀ (t : JT) (mem : Bool) (left : Int) (d : Nat), 0 ≤ wgF mem t left d → wgF mem t left d + t.bulk ≤ left
  | .nil, mem, left, d, h => by simp [wgF, JT.bulk]
  | .cons k kd is n s l m r, mem, left, d, h => by
    rw [wgF] at h ⊢
    by_cases h0 : left < 0
    · rw [if_pos h0] at h; omega
    · rw [if_neg h0] at h ⊢
      obtain ⟨y, hy⟩ : ∃ y, (if mem then left - k.length else left) - 1 - (s.length : Int) = y := ⟨_, rfl⟩
      rw [hy] at h ⊢
      have hyl : y ≤ left - 1 := by rw [← hy]; split <;> omega
      by_cases hd : d = 0
      · rw [if_pos hd] at h ⊢
        have := wg_bulk r mem _ _ h
        omega
      · rw [if_neg hd] at h ⊢
        have h1 := wg_bulk r mem _ _ h
        obtain ⟨x, hx⟩ : ∃ x, wgF true m (wgF false l y (d - 1)) (d - 1) = x := ⟨_, rfl⟩
        rw [hx] at h h1 ⊢
        have h2 := wg_bulk m true _ (d - 1) (by rw [hx]; omega)
        rw [hx] at h2
        have h3 := wg_bulk l false y (d - 1) (by omega)
        simp only [JT.bulk]
        omega
theorem ext_bulk : ∀ t : JT, t.ext ≤ t.bulk
  | .nil => Nat.le_refl _
  | .cons k kd is n s l m r => by have := ext_bulk r; simp only [JT.ext, JT.bulk]; omega
theorem find_bulk : ∀ (t : JT) (key : List UInt8) (u : Jv), t.findV key = some u → u.m.bulk ≤ t.bulk
  | .nil, key, u, h => by cases h
  | .cons k kd is n s l m r, key, u, h => by
    rw [JT.findV] at h
    by_cases e : k = key
    · rw [if_pos e] at h; injection h with h; subst h; simp only [JT.bulk]; omega
    · rw [if_neg e] at h; have := find_bulk r key u h; simp only [JT.bulk]; omega
theorem gr_rows {v : Jv} (h : grB v = false) (nm : List UInt8) : (tabF v nm).m.ext ≤ 400000 := by
  unfold grB at h
  simp only [Bool.or_eq_false_iff, decide_eq_false_iff_not] at h
  have h1 : 0 ≤ wgV v 4096 60 := by omega
  unfold wgV at h1
  rw [if_neg (by decide)] at h1
  have h2 := wg_bulk v.m true _ _ h1
  have h3 := wg_bulk v.l false (4096 - 1 - (v.s.length : Int)) (60 - 1) (by omega)
  have hm : v.m.bulk ≤ 4096 := by omega
  refine Nat.le_trans (ext_bulk _) (Nat.le_trans ?_ (Nat.le_trans hm (by decide)))
  unfold tabF
  split
  · cases hf : v.m.findV nm with
    | none => simp [nullV, JT.bulk]
    | some u => exact find_bulk _ _ _ hf
  · simp [JT.bulk]
set_option maxHeartbeats 8000000 in
theorem changes_walk (a0 a1 : Jv) (A0 B0 A1 B1 : Option Addr) (nl0 cl0 nm0 cm0 nl1 cl1 nm1 cm1 : Nat) (l0 : List UInt8) (a3 : Int) (w : World) (hr0 : VOk w a0 A0 B0 nl0 cl0 nm0 cm0) (hr1 : VOk w a1 A1 B1 nl1 cl1 nm1 cm1) (hT : LonTab w) :
    Calls Tryd.prog 7 #[.agg #[.int .i64 a0.kd, .bool a0.is, .int .i64 a0.n, .string ⟨a0.s.toArray⟩, .slice A0 nl0 cl0, .slice B0 nm0 cm0], .agg #[.int .i64 a1.kd, .bool a1.is, .int .i64 a1.n, .string ⟨a1.s.toArray⟩, .slice A1 nl1 cl1, .slice B1 nm1 cm1], .string ⟨l0.toArray⟩, .int .i64 a3] w fun e w' => e = .returned (.bool true) ∧ Below w.heap.size w w' := by
  have b2 : Below w.heap.size w ((w.alloc (.cells #[.int .i64 a0.kd, .bool a0.is, .int .i64 a0.n, .string ⟨a0.s.toArray⟩, .slice A0 nl0 cl0, .slice B0 nm0 cm0] 25)).alloc (.cells #[.int .i64 a1.kd, .bool a1.is, .int .i64 a1.n, .string ⟨a1.s.toArray⟩, .slice A1 nl1 cl1, .slice B1 nm1 cm1] 25)) := ((Below.refl _ _).alloc (Nat.le_refl _) _).alloc (by simp) _
  have HXA := Lib.hid ((Blk.new w [.int .i64 a0.kd, .bool a0.is, .int .i64 a0.n, .string ⟨a0.s.toArray⟩, .slice A0 nl0 cl0, .slice B0 nm0 cm0] 25).alloc (.cells #[.int .i64 a1.kd, .bool a1.is, .int .i64 a1.n, .string ⟨a1.s.toArray⟩, .slice A1 nl1 cl1, .slice B1 nm1 cm1] 25))
  have HXB := Lib.hid (blk_at (w := w.alloc (.cells #[.int .i64 a0.kd, .bool a0.is, .int .i64 a0.n, .string ⟨a0.s.toArray⟩, .slice A0 nl0 cl0, .slice B0 nm0 cm0] 25)) [.int .i64 a1.kd, .bool a1.is, .int .i64 a1.n, .string ⟨a1.s.toArray⟩, .slice A1 nl1 cl1, .slice B1 nm1 cm1] 25 (g := w.heap.size + 1) (by simp))
  have HA := Lib.hid (hr0.below b2)
  have HBV := Lib.hid (hr1.below b2)
  have HLL := Lib.hid (hT.below b2)
  have HB := Lib.hid b2
  obtain ⟨ga, hga⟩ : ∃ g, grB a0 = g := ⟨_, rfl⟩
  have HGA := Lib.hid hga
  obtain ⟨gb, hgb⟩ : ∃ g, grB a1 = g := ⟨_, rfl⟩
  have HGB := Lib.hid hgb
  obtain ⟨sn, hsn⟩ : ∃ sn, l0.length = sn := ⟨_, rfl⟩
  have hss : (⟨l0.toArray⟩ : ByteArray).size = sn := hsn
  obtain ⟨cv, hcv⟩ : ∃ c, changeF a0 a1 a3 l0 = c := ⟨_, rfl⟩
  have HCV := Lib.hid hcv
  have hc := alive_calls ((w.alloc (.cells #[.int .i64 a0.kd, .bool a0.is, .int .i64 a0.n, .string ⟨a0.s.toArray⟩, .slice A0 nl0 cl0, .slice B0 nm0 cm0] 25)).alloc (.cells #[.int .i64 a1.kd, .bool a1.is, .int .i64 a1.n, .string ⟨a1.s.toArray⟩, .slice A1 nl1 cl1, .slice B1 nm1 cm1] 25)) HLL.out.1
  clear hr0 hr1 hT b2 hga hgb hsn hcv
  go_enter Tryd.func7, Tryd.ntmps7
  go_wp2_with fail
  refine hc.mono ?_
  rintro e w1 ⟨rfl, b1⟩
  have HB1 := Lib.hid (HB.out.then_ b1)
  have HXA1 := Lib.hid (HXA.out.later b1)
  have HXB1 := Lib.hid (HXB.out.later b1)
  have HRA1 := Lib.hid HXA1.out.rng
  have HRB1 := Lib.hid HXB1.out.rng
  have HVA := Lib.hid (HA.out.below b1)
  have HVB := Lib.hid (HBV.out.below b1)
  have HLL1 := Lib.hid (HLL.out.below b1)
  clear b1 hc
  go_upto_region 3 with fail
  cases ga with
  | true =>
    apply wp_region_ls (by kernel_rfl) (by kernel_rfl)
    apply ls_load 25 (.tmp 4) rfl w.heap.size 0 [.int .i64 a0.kd, .bool a0.is, .int .i64 a0.n, .string ⟨a0.s.toArray⟩, .slice A0 nl0 cl0, .slice B0 nm0 cm0] _ HRA1.out HXA1.out.lt Tryd.underlying25 rfl size_valF rfl rfl
    simp only [Act.put, List.setIfInBounds_toArray, List.set_cons_succ, List.set_cons_zero]
    apply ls_callb (.bool true) 13 #[.agg #[.int .i64 a0.kd, .bool a0.is, .int .i64 a0.n, .string ⟨a0.s.toArray⟩, .slice A0 nl0 cl0, .slice B0 nm0 cm0]] rfl (by intro W; go_simp) (fun W hW => (great_calls a0 A0 B0 nl0 cl0 nm0 cm0 W (HVA.out.below hW)).mono fun e w' h => by rw [HGA.out] at h; exact h)
    simp only [Act.put, List.setIfInBounds_toArray, List.set_cons_succ, List.set_cons_zero]
    apply ls_move (.bool true) (.tmp 12) rfl rfl rfl
    simp only [Act.put, List.setIfInBounds_toArray, List.set_cons_succ, List.set_cons_zero]
    apply ls_skip rfl
    simp only [Act.put, List.setIfInBounds_toArray, List.set_cons_succ, List.set_cons_zero]
    apply ls_skip rfl
    simp only [Act.put, List.setIfInBounds_toArray, List.set_cons_succ, List.set_cons_zero]
    apply ls_pure (.bool true) rfl (by intro W; go_simp)
    simp only [Act.put, List.setIfInBounds_toArray, List.set_cons_succ, List.set_cons_zero]
    apply ls_move (.bool true) (.tmp 16) rfl rfl rfl
    simp only [Act.put, List.setIfInBounds_toArray, List.set_cons_succ, List.set_cons_zero]
    apply ls_skip rfl
    simp only [Act.put, List.setIfInBounds_toArray, List.set_cons_succ, List.set_cons_zero]
    apply ls_skip rfl
    simp only [Act.put, List.setIfInBounds_toArray, List.set_cons_succ, List.set_cons_zero]
    apply ls_skip rfl
    simp only [Act.put, List.setIfInBounds_toArray, List.set_cons_succ, List.set_cons_zero]
    apply ls_pure (.bool true) rfl (by intro W; go_simp)
    simp only [Act.put, List.setIfInBounds_toArray, List.set_cons_succ, List.set_cons_zero]
    apply ls_move (.bool true) (.tmp 21) rfl rfl rfl
    simp only [Act.put, List.setIfInBounds_toArray, List.set_cons_succ, List.set_cons_zero]
    apply ls_skip rfl
    simp only [Act.put, List.setIfInBounds_toArray, List.set_cons_succ, List.set_cons_zero]
    apply ls_skip rfl
    simp only [Act.put, List.setIfInBounds_toArray, List.set_cons_succ, List.set_cons_zero]
    apply ls_skip rfl
    simp only [Act.put, List.setIfInBounds_toArray, List.set_cons_succ, List.set_cons_zero]
    apply ls_skip rfl
    simp only [Act.put, List.setIfInBounds_toArray, List.set_cons_succ, List.set_cons_zero]
    apply ls_skip rfl
    simp only [Act.put, List.setIfInBounds_toArray, List.set_cons_succ, List.set_cons_zero]
    apply ls_skip rfl
    simp only [Act.put, List.setIfInBounds_toArray, List.set_cons_succ, List.set_cons_zero]
    apply ls_skip rfl
    simp only [Act.put, List.setIfInBounds_toArray, List.set_cons_succ, List.set_cons_zero]
    apply ls_skip rfl
    simp only [Act.put, List.setIfInBounds_toArray, List.set_cons_succ, List.set_cons_zero]
    apply ls_skip rfl
    simp only [Act.put, List.setIfInBounds_toArray, List.set_cons_succ, List.set_cons_zero]
    apply ls_skip rfl
    simp only [Act.put, List.setIfInBounds_toArray, List.set_cons_succ, List.set_cons_zero]
    apply ls_skip rfl
    simp only [Act.put, List.setIfInBounds_toArray, List.set_cons_succ, List.set_cons_zero]
    apply ls_pure (.bool true) rfl (by intro W; go_simp)
    simp only [Act.put, List.setIfInBounds_toArray, List.set_cons_succ, List.set_cons_zero]
    apply ls_assign (.bool true) (.tmp 34) rfl rfl rfl
    simp only [Act.put, List.setIfInBounds_toArray, List.set_cons_succ, List.set_cons_zero]
    refine ls_nil (Rs := []) ?_
    intro w9 b9
    have HB9 := Lib.hid (HB1.out.then_ b9)
    clear b9
    go_wp2_with fail
    go_ret
    exact ⟨rfl, HB9.out⟩
  | false =>
    cases gb with
    | true =>
      apply wp_region_ls (by kernel_rfl) (by kernel_rfl)
      apply ls_load 25 (.tmp 4) rfl w.heap.size 0 [.int .i64 a0.kd, .bool a0.is, .int .i64 a0.n, .string ⟨a0.s.toArray⟩, .slice A0 nl0 cl0, .slice B0 nm0 cm0] _ HRA1.out HXA1.out.lt Tryd.underlying25 rfl size_valF rfl rfl
      simp only [Act.put, List.setIfInBounds_toArray, List.set_cons_succ, List.set_cons_zero]
      apply ls_callb (.bool false) 13 #[.agg #[.int .i64 a0.kd, .bool a0.is, .int .i64 a0.n, .string ⟨a0.s.toArray⟩, .slice A0 nl0 cl0, .slice B0 nm0 cm0]] rfl (by intro W; go_simp) (fun W hW => (great_calls a0 A0 B0 nl0 cl0 nm0 cm0 W (HVA.out.below hW)).mono fun e w' h => by rw [HGA.out] at h; exact h)
      simp only [Act.put, List.setIfInBounds_toArray, List.set_cons_succ, List.set_cons_zero]
      apply ls_move (.bool false) (.tmp 12) rfl rfl rfl
      simp only [Act.put, List.setIfInBounds_toArray, List.set_cons_succ, List.set_cons_zero]
      apply ls_load 25 (.tmp 5) rfl (w.heap.size + 1) 0 [.int .i64 a1.kd, .bool a1.is, .int .i64 a1.n, .string ⟨a1.s.toArray⟩, .slice A1 nl1 cl1, .slice B1 nm1 cm1] _ HRB1.out HXB1.out.lt Tryd.underlying25 rfl size_valF rfl rfl
      simp only [Act.put, List.setIfInBounds_toArray, List.set_cons_succ, List.set_cons_zero]
      apply ls_callb (.bool true) 13 #[.agg #[.int .i64 a1.kd, .bool a1.is, .int .i64 a1.n, .string ⟨a1.s.toArray⟩, .slice A1 nl1 cl1, .slice B1 nm1 cm1]] rfl (by intro W; go_simp) (fun W hW => (great_calls a1 A1 B1 nl1 cl1 nm1 cm1 W (HVB.out.below hW)).mono fun e w' h => by rw [HGB.out] at h; exact h)
      simp only [Act.put, List.setIfInBounds_toArray, List.set_cons_succ, List.set_cons_zero]
      apply ls_pure (.bool true) rfl (by intro W; go_simp)
      simp only [Act.put, List.setIfInBounds_toArray, List.set_cons_succ, List.set_cons_zero]
      apply ls_move (.bool true) (.tmp 16) rfl rfl rfl
      simp only [Act.put, List.setIfInBounds_toArray, List.set_cons_succ, List.set_cons_zero]
      apply ls_skip rfl
      simp only [Act.put, List.setIfInBounds_toArray, List.set_cons_succ, List.set_cons_zero]
      apply ls_skip rfl
      simp only [Act.put, List.setIfInBounds_toArray, List.set_cons_succ, List.set_cons_zero]
      apply ls_skip rfl
      simp only [Act.put, List.setIfInBounds_toArray, List.set_cons_succ, List.set_cons_zero]
      apply ls_pure (.bool true) rfl (by intro W; go_simp)
      simp only [Act.put, List.setIfInBounds_toArray, List.set_cons_succ, List.set_cons_zero]
      apply ls_move (.bool true) (.tmp 21) rfl rfl rfl
      simp only [Act.put, List.setIfInBounds_toArray, List.set_cons_succ, List.set_cons_zero]
      apply ls_skip rfl
      simp only [Act.put, List.setIfInBounds_toArray, List.set_cons_succ, List.set_cons_zero]
      apply ls_skip rfl
      simp only [Act.put, List.setIfInBounds_toArray, List.set_cons_succ, List.set_cons_zero]
      apply ls_skip rfl
      simp only [Act.put, List.setIfInBounds_toArray, List.set_cons_succ, List.set_cons_zero]
      apply ls_skip rfl
      simp only [Act.put, List.setIfInBounds_toArray, List.set_cons_succ, List.set_cons_zero]
      apply ls_skip rfl
      simp only [Act.put, List.setIfInBounds_toArray, List.set_cons_succ, List.set_cons_zero]
      apply ls_skip rfl
      simp only [Act.put, List.setIfInBounds_toArray, List.set_cons_succ, List.set_cons_zero]
      apply ls_skip rfl
      simp only [Act.put, List.setIfInBounds_toArray, List.set_cons_succ, List.set_cons_zero]
      apply ls_skip rfl
      simp only [Act.put, List.setIfInBounds_toArray, List.set_cons_succ, List.set_cons_zero]
      apply ls_skip rfl
      simp only [Act.put, List.setIfInBounds_toArray, List.set_cons_succ, List.set_cons_zero]
      apply ls_skip rfl
      simp only [Act.put, List.setIfInBounds_toArray, List.set_cons_succ, List.set_cons_zero]
      apply ls_skip rfl
      simp only [Act.put, List.setIfInBounds_toArray, List.set_cons_succ, List.set_cons_zero]
      apply ls_pure (.bool true) rfl (by intro W; go_simp)
      simp only [Act.put, List.setIfInBounds_toArray, List.set_cons_succ, List.set_cons_zero]
      apply ls_assign (.bool true) (.tmp 34) rfl rfl rfl
      simp only [Act.put, List.setIfInBounds_toArray, List.set_cons_succ, List.set_cons_zero]
      refine ls_nil (Rs := []) ?_
      intro w9 b9
      have HB9 := Lib.hid (HB1.out.then_ b9)
      clear b9
      go_wp2_with fail
      go_ret
      exact ⟨rfl, HB9.out⟩
    | false =>
      have HRI := Lib.hid (And.intro (gr_ris HGA.out) (gr_ris HGB.out))
      by_cases hlen : 1024 < sn
      · have ht : decide ((1024 : Int) < (sn : Int)) = true := by simp; omega
        apply wp_region_ls (by kernel_rfl) (by kernel_rfl)
        apply ls_load 25 (.tmp 4) rfl w.heap.size 0 [.int .i64 a0.kd, .bool a0.is, .int .i64 a0.n, .string ⟨a0.s.toArray⟩, .slice A0 nl0 cl0, .slice B0 nm0 cm0] _ HRA1.out HXA1.out.lt Tryd.underlying25 rfl size_valF rfl rfl
        simp only [Act.put, List.setIfInBounds_toArray, List.set_cons_succ, List.set_cons_zero]
        apply ls_callb (.bool false) 13 #[.agg #[.int .i64 a0.kd, .bool a0.is, .int .i64 a0.n, .string ⟨a0.s.toArray⟩, .slice A0 nl0 cl0, .slice B0 nm0 cm0]] rfl (by intro W; go_simp) (fun W hW => (great_calls a0 A0 B0 nl0 cl0 nm0 cm0 W (HVA.out.below hW)).mono fun e w' h => by rw [HGA.out] at h; exact h)
        simp only [Act.put, List.setIfInBounds_toArray, List.set_cons_succ, List.set_cons_zero]
        apply ls_move (.bool false) (.tmp 12) rfl rfl rfl
        simp only [Act.put, List.setIfInBounds_toArray, List.set_cons_succ, List.set_cons_zero]
        apply ls_load 25 (.tmp 5) rfl (w.heap.size + 1) 0 [.int .i64 a1.kd, .bool a1.is, .int .i64 a1.n, .string ⟨a1.s.toArray⟩, .slice A1 nl1 cl1, .slice B1 nm1 cm1] _ HRB1.out HXB1.out.lt Tryd.underlying25 rfl size_valF rfl rfl
        simp only [Act.put, List.setIfInBounds_toArray, List.set_cons_succ, List.set_cons_zero]
        apply ls_callb (.bool false) 13 #[.agg #[.int .i64 a1.kd, .bool a1.is, .int .i64 a1.n, .string ⟨a1.s.toArray⟩, .slice A1 nl1 cl1, .slice B1 nm1 cm1]] rfl (by intro W; go_simp) (fun W hW => (great_calls a1 A1 B1 nl1 cl1 nm1 cm1 W (HVB.out.below hW)).mono fun e w' h => by rw [HGB.out] at h; exact h)
        simp only [Act.put, List.setIfInBounds_toArray, List.set_cons_succ, List.set_cons_zero]
        apply ls_pure (.bool false) rfl (by intro W; go_simp)
        simp only [Act.put, List.setIfInBounds_toArray, List.set_cons_succ, List.set_cons_zero]
        apply ls_move (.bool false) (.tmp 16) rfl rfl rfl
        simp only [Act.put, List.setIfInBounds_toArray, List.set_cons_succ, List.set_cons_zero]
        apply ls_move (.string ⟨l0.toArray⟩) (.tmp 2) rfl rfl rfl
        simp only [Act.put, List.setIfInBounds_toArray, List.set_cons_succ, List.set_cons_zero]
        apply ls_pure (.int .i64 (sn : Int)) rfl (by intro W; go_simp)
        simp only [Act.put, List.setIfInBounds_toArray, List.set_cons_succ, List.set_cons_zero]
        apply ls_pure (.bool true) rfl (by intro W; go_simp)
        simp only [Act.put, List.setIfInBounds_toArray, List.set_cons_succ, List.set_cons_zero]
        apply ls_pure (.bool true) rfl (by intro W; go_simp)
        simp only [Act.put, List.setIfInBounds_toArray, List.set_cons_succ, List.set_cons_zero]
        apply ls_move (.bool true) (.tmp 21) rfl rfl rfl
        simp only [Act.put, List.setIfInBounds_toArray, List.set_cons_succ, List.set_cons_zero]
        apply ls_skip rfl
        simp only [Act.put, List.setIfInBounds_toArray, List.set_cons_succ, List.set_cons_zero]
        apply ls_skip rfl
        simp only [Act.put, List.setIfInBounds_toArray, List.set_cons_succ, List.set_cons_zero]
        apply ls_skip rfl
        simp only [Act.put, List.setIfInBounds_toArray, List.set_cons_succ, List.set_cons_zero]
        apply ls_skip rfl
        simp only [Act.put, List.setIfInBounds_toArray, List.set_cons_succ, List.set_cons_zero]
        apply ls_skip rfl
        simp only [Act.put, List.setIfInBounds_toArray, List.set_cons_succ, List.set_cons_zero]
        apply ls_skip rfl
        simp only [Act.put, List.setIfInBounds_toArray, List.set_cons_succ, List.set_cons_zero]
        apply ls_skip rfl
        simp only [Act.put, List.setIfInBounds_toArray, List.set_cons_succ, List.set_cons_zero]
        apply ls_skip rfl
        simp only [Act.put, List.setIfInBounds_toArray, List.set_cons_succ, List.set_cons_zero]
        apply ls_skip rfl
        simp only [Act.put, List.setIfInBounds_toArray, List.set_cons_succ, List.set_cons_zero]
        apply ls_skip rfl
        simp only [Act.put, List.setIfInBounds_toArray, List.set_cons_succ, List.set_cons_zero]
        apply ls_skip rfl
        simp only [Act.put, List.setIfInBounds_toArray, List.set_cons_succ, List.set_cons_zero]
        apply ls_pure (.bool true) rfl (by intro W; go_simp)
        simp only [Act.put, List.setIfInBounds_toArray, List.set_cons_succ, List.set_cons_zero]
        apply ls_assign (.bool true) (.tmp 34) rfl rfl rfl
        simp only [Act.put, List.setIfInBounds_toArray, List.set_cons_succ, List.set_cons_zero]
        refine ls_nil (Rs := []) ?_
        intro w9 b9
        have HB9 := Lib.hid (HB1.out.then_ b9)
        clear b9
        go_wp2_with fail
        go_ret
        exact ⟨rfl, HB9.out⟩
      · have ht : decide ((1024 : Int) < (sn : Int)) = false := by simp; omega
        apply wp_region_ls (by kernel_rfl) (by kernel_rfl)
        apply ls_load 25 (.tmp 4) rfl w.heap.size 0 [.int .i64 a0.kd, .bool a0.is, .int .i64 a0.n, .string ⟨a0.s.toArray⟩, .slice A0 nl0 cl0, .slice B0 nm0 cm0] _ HRA1.out HXA1.out.lt Tryd.underlying25 rfl size_valF rfl rfl
        simp only [Act.put, List.setIfInBounds_toArray, List.set_cons_succ, List.set_cons_zero]
        apply ls_callb (.bool false) 13 #[.agg #[.int .i64 a0.kd, .bool a0.is, .int .i64 a0.n, .string ⟨a0.s.toArray⟩, .slice A0 nl0 cl0, .slice B0 nm0 cm0]] rfl (by intro W; go_simp) (fun W hW => (great_calls a0 A0 B0 nl0 cl0 nm0 cm0 W (HVA.out.below hW)).mono fun e w' h => by rw [HGA.out] at h; exact h)
        simp only [Act.put, List.setIfInBounds_toArray, List.set_cons_succ, List.set_cons_zero]
        apply ls_move (.bool false) (.tmp 12) rfl rfl rfl
        simp only [Act.put, List.setIfInBounds_toArray, List.set_cons_succ, List.set_cons_zero]
        apply ls_load 25 (.tmp 5) rfl (w.heap.size + 1) 0 [.int .i64 a1.kd, .bool a1.is, .int .i64 a1.n, .string ⟨a1.s.toArray⟩, .slice A1 nl1 cl1, .slice B1 nm1 cm1] _ HRB1.out HXB1.out.lt Tryd.underlying25 rfl size_valF rfl rfl
        simp only [Act.put, List.setIfInBounds_toArray, List.set_cons_succ, List.set_cons_zero]
        apply ls_callb (.bool false) 13 #[.agg #[.int .i64 a1.kd, .bool a1.is, .int .i64 a1.n, .string ⟨a1.s.toArray⟩, .slice A1 nl1 cl1, .slice B1 nm1 cm1]] rfl (by intro W; go_simp) (fun W hW => (great_calls a1 A1 B1 nl1 cl1 nm1 cm1 W (HVB.out.below hW)).mono fun e w' h => by rw [HGB.out] at h; exact h)
        simp only [Act.put, List.setIfInBounds_toArray, List.set_cons_succ, List.set_cons_zero]
        apply ls_pure (.bool false) rfl (by intro W; go_simp)
        simp only [Act.put, List.setIfInBounds_toArray, List.set_cons_succ, List.set_cons_zero]
        apply ls_move (.bool false) (.tmp 16) rfl rfl rfl
        simp only [Act.put, List.setIfInBounds_toArray, List.set_cons_succ, List.set_cons_zero]
        apply ls_move (.string ⟨l0.toArray⟩) (.tmp 2) rfl rfl rfl
        simp only [Act.put, List.setIfInBounds_toArray, List.set_cons_succ, List.set_cons_zero]
        apply ls_pure (.int .i64 (sn : Int)) rfl (by intro W; go_simp)
        simp only [Act.put, List.setIfInBounds_toArray, List.set_cons_succ, List.set_cons_zero]
        apply ls_pure (.bool false) rfl (by intro W; go_simp)
        simp only [Act.put, List.setIfInBounds_toArray, List.set_cons_succ, List.set_cons_zero]
        apply ls_pure (.bool false) rfl (by intro W; go_simp)
        simp only [Act.put, List.setIfInBounds_toArray, List.set_cons_succ, List.set_cons_zero]
        apply ls_move (.bool false) (.tmp 21) rfl rfl rfl
        simp only [Act.put, List.setIfInBounds_toArray, List.set_cons_succ, List.set_cons_zero]
        apply ls_load 25 (.tmp 4) rfl w.heap.size 0 [.int .i64 a0.kd, .bool a0.is, .int .i64 a0.n, .string ⟨a0.s.toArray⟩, .slice A0 nl0 cl0, .slice B0 nm0 cm0] _ HRA1.out HXA1.out.lt Tryd.underlying25 rfl size_valF rfl rfl
        simp only [Act.put, List.setIfInBounds_toArray, List.set_cons_succ, List.set_cons_zero]
        apply ls_load 25 (.tmp 5) rfl (w.heap.size + 1) 0 [.int .i64 a1.kd, .bool a1.is, .int .i64 a1.n, .string ⟨a1.s.toArray⟩, .slice A1 nl1 cl1, .slice B1 nm1 cm1] _ HRB1.out HXB1.out.lt Tryd.underlying25 rfl size_valF rfl rfl
        simp only [Act.put, List.setIfInBounds_toArray, List.set_cons_succ, List.set_cons_zero]
        apply ls_move (.string ⟨l0.toArray⟩) (.tmp 2) rfl rfl rfl
        simp only [Act.put, List.setIfInBounds_toArray, List.set_cons_succ, List.set_cons_zero]
        apply ls_move (.int .i64 a3) (.tmp 3) rfl rfl rfl
        simp only [Act.put, List.setIfInBounds_toArray, List.set_cons_succ, List.set_cons_zero]
        apply ls_callb (.bool cv) 22 #[.agg #[.int .i64 a0.kd, .bool a0.is, .int .i64 a0.n, .string ⟨a0.s.toArray⟩, .slice A0 nl0 cl0, .slice B0 nm0 cm0], .agg #[.int .i64 a1.kd, .bool a1.is, .int .i64 a1.n, .string ⟨a1.s.toArray⟩, .slice A1 nl1 cl1, .slice B1 nm1 cm1], .string ⟨l0.toArray⟩, .int .i64 a3] rfl (by intro W; go_simp) (fun W hW => (change_calls a0 a1 A0 B0 A1 B1 nl0 cl0 nm0 cm0 nl1 cl1 nm1 cm1 l0 a3 W (HVA.out.below hW) (HVB.out.below hW) HRI.out.1 HRI.out.2 (HLL1.out.1.below hW) (HLL1.out.2.below hW)).mono fun e w' h => by rw [HCV.out] at h; exact h)
        simp only [Act.put, List.setIfInBounds_toArray, List.set_cons_succ, List.set_cons_zero]
        apply ls_load 25 (.tmp 4) rfl w.heap.size 0 [.int .i64 a0.kd, .bool a0.is, .int .i64 a0.n, .string ⟨a0.s.toArray⟩, .slice A0 nl0 cl0, .slice B0 nm0 cm0] _ HRA1.out HXA1.out.lt Tryd.underlying25 rfl size_valF rfl rfl
        simp only [Act.put, List.setIfInBounds_toArray, List.set_cons_succ, List.set_cons_zero]
        apply ls_load 25 (.tmp 5) rfl (w.heap.size + 1) 0 [.int .i64 a1.kd, .bool a1.is, .int .i64 a1.n, .string ⟨a1.s.toArray⟩, .slice A1 nl1 cl1, .slice B1 nm1 cm1] _ HRB1.out HXB1.out.lt Tryd.underlying25 rfl size_valF rfl rfl
        simp only [Act.put, List.setIfInBounds_toArray, List.set_cons_succ, List.set_cons_zero]
        apply ls_move (.string ⟨l0.toArray⟩) (.tmp 2) rfl rfl rfl
        simp only [Act.put, List.setIfInBounds_toArray, List.set_cons_succ, List.set_cons_zero]
        apply ls_move (.int .i64 a3) (.tmp 3) rfl rfl rfl
        simp only [Act.put, List.setIfInBounds_toArray, List.set_cons_succ, List.set_cons_zero]
        apply ls_callb (.bool cv) 23 #[.agg #[.int .i64 a0.kd, .bool a0.is, .int .i64 a0.n, .string ⟨a0.s.toArray⟩, .slice A0 nl0 cl0, .slice B0 nm0 cm0], .agg #[.int .i64 a1.kd, .bool a1.is, .int .i64 a1.n, .string ⟨a1.s.toArray⟩, .slice A1 nl1 cl1, .slice B1 nm1 cm1], .string ⟨l0.toArray⟩, .int .i64 a3] rfl (by intro W; go_simp) (fun W hW => (refchange_calls a0 a1 A0 B0 A1 B1 nl0 cl0 nm0 cm0 nl1 cl1 nm1 cm1 l0 a3 W (HVA.out.below hW) (HVB.out.below hW) (gr_rows HGA.out) (gr_rows HGB.out)).mono fun e w' h => by rw [HCV.out] at h; exact h)
        simp only [Act.put, List.setIfInBounds_toArray, List.set_cons_succ, List.set_cons_zero]
        apply ls_pure (.bool true) rfl (by intro W; go_simp)
        simp only [Act.put, List.setIfInBounds_toArray, List.set_cons_succ, List.set_cons_zero]
        apply ls_pure (.bool true) rfl (by intro W; go_simp)
        simp only [Act.put, List.setIfInBounds_toArray, List.set_cons_succ, List.set_cons_zero]
        apply ls_assign (.bool true) (.tmp 34) rfl rfl rfl
        simp only [Act.put, List.setIfInBounds_toArray, List.set_cons_succ, List.set_cons_zero]
        refine ls_nil (Rs := []) ?_
        intro w9 b9
        have HB9 := Lib.hid (HB1.out.then_ b9)
        clear b9
        go_wp2_with fail
        go_ret
        exact ⟨rfl, HB9.out⟩
theorem powerChanges_walk (a0 : Jv) (A0 B0 : Option Addr) (nl0 cl0 nm0 cm0 : Nat) {w : World} (hr0 : VOk w a0 A0 B0 nl0 cl0 nm0 cm0) (a1 : Jv) (A1 B1 : Option Addr) (nl1 cl1 nm1 cm1 : Nat) (hr1 : VOk w a1 A1 B1 nl1 cl1 nm1 cm1) (a2 : ByteArray) (w2 : a2.size ≤ maxLen) (a3 : Int) (w3 : (Lit.int .i64 a3).wf = true) (hT : LonTab w) :
    Calls Tryd.prog 7 #[.agg #[.int .i64 a0.kd, .bool a0.is, .int .i64 a0.n, .string ⟨a0.s.toArray⟩, .slice A0 nl0 cl0, .slice B0 nm0 cm0], .agg #[.int .i64 a1.kd, .bool a1.is, .int .i64 a1.n, .string ⟨a1.s.toArray⟩, .slice A1 nl1 cl1, .slice B1 nm1 cm1], .string a2, .int .i64 a3] w fun e w' => e = .returned (.bool true) ∧ Below w.heap.size w w' := by
  obtain ⟨l0, rfl, _⟩ := str_split a2
  exact changes_walk a0 a1 A0 B0 A1 B1 nl0 cl0 nm0 cm0 nl1 cl1 nm1 cm1 l0 a3 w hr0 hr1 hT
end Go.Proofs.YtmfefeemkhncfaaDoor
