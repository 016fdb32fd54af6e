/- Layer 16: the search, walked. -/
import Derived.Test.YtpleminoiodmgaaPkC
namespace Go.Proofs.Ytpleminoiodmgaa
open Go.ChangeShapes Go.WideShapes Go.ChangeAt Go.RowKit Go.IntWalk
set_option linter.unusedVariables false

theorem half_u (a b : Nat) (ha : a ≤ 1000000) (hb : b ≤ 1000000) : IntKind.u64.wrap ((a : Int) + (b : Int)) = (a : Int) + (b : Int) := by rw [IntKind.wrap_u64]; omega
theorem half_d (a b h : Nat) (hh : (a + b) / 2 = h) : ((a : Int) + (b : Int)) / 2 = (h : Int) := by omega
theorem half_w (h : Nat) (hh : h ≤ 1000000) : wrap64 (h : Int) = (h : Int) := wrap64_in _ (by omega)
theorem half_s (a b : Nat) (ha : a ≤ 1000000) (hb : b ≤ 1000000) : wrap64 ((a : Int) + (b : Int)) = (a : Int) + (b : Int) := wrap64_in _ (by omega)
set_option maxHeartbeats 4000000 in
set_option maxRecDepth 100000 in
theorem search_calls (A : Option Addr) (n c : Nat) (xs : List Slt) (p : Pr) (w : World) (hx : Sls w A n c xs) (hnb : n ≤ 1000000) (hr : Rise xs) : Calls Try.prog 23 #[.slice A n c, prV p, .func (Fn.func 24) #[] #[]] w fun e w' => e = .returned (.tuple #[.int .i64 (posF xs p : Int), .bool (foundF xs p)]) ∧ Below w.heap.size w w' := by
  have HNB := Lib.hid hnb
  clear hnb
  obtain ⟨hrv, hn, hnc, hc63, hok⟩ := hx
  obtain ⟨p1, p2⟩ := p
  unfold prV
  dsimp only
  go_enter Try.func23, Try.ntmps23
  go_wp2_with fail
  obtain ⟨wa, hwa⟩ : ∃ x, x = w.alloc (.cells #[.string ⟨p1.toArray⟩, .string ⟨p2.toArray⟩] 28) := ⟨_, rfl⟩
  have hpb : Blk wa w.heap.size 28 [.string ⟨p1.toArray⟩, .string ⟨p2.toArray⟩] := by rw [hwa]; exact Blk.new w _ _
  have hrv : RV wa A (slC xs) := by rw [hwa]; exact hrv.alloc _
  have hsz : wa.heap.size = w.heap.size + 1 := by rw [hwa]; simp
  have hbw : Below w.heap.size w wa := by rw [hwa]; exact (Below.refl _ _).alloc (Nat.le_refl _) _
  rw [← hwa]
  have HH := Lib.hid (And.intro hrv (And.intro hpb (And.intro hbw (And.intro hr hn.out))))
  clear hrv hpb hbw hr hn hwa
  go_loopw [9, 10] (fun i j wr => ∃ a b : Nat, a ≤ posF xs (p1, p2) ∧ posF xs (p1, p2) ≤ b ∧ b ≤ n ∧ i = .int .i64 (a : Int) ∧ j = .int .i64 (b : Int) ∧ Below wa.heap.size wa wr) (fun i j _ => (intOf j - intOf i).toNat)
  case atStart => exact ⟨0, n, Nat.zero_le _, by rw [HH.out.2.2.2.2]; exact posF_le _ _, Nat.le_refl _, rfl, rfl, Below.refl _ _⟩
  case round =>
    obtain ⟨a, b, ha, hab, hb, rfl, rfl, hbe⟩ := hrel
    by_cases hlt : a < b
    · have hb2 : b ≤ 1000000 := Nat.le_trans hb HNB.out
      have ha2 : a ≤ 1000000 := Nat.le_trans (Nat.le_of_lt hlt) hb2
      obtain ⟨h, hh⟩ : ∃ h, (a + b) / 2 = h := ⟨_, rfl⟩
      have hk : h < xs.length := by rw [← HH.out.2.2.2.2]; omega
      have hkn : h < n := by omega
      have e3 := half_d a b h hh
      have e4 := half_w h (Nat.le_trans (Nat.le_of_lt hkn) HNB.out)
      have e1 := half_s a b ha2 hb2
      have e2 := half_u a b ha2 hb2
      have HE := Lib.hid (And.intro hh hk)
      clear hh hk ha2 hb2
      go_upto_region 5 with fail
      obtain ⟨b0, off, rfl, hb0, k0, k1, k2⟩ := slots_at HH.out.1 HE.out.2
      obtain ⟨x, hxk⟩ : ∃ x, xs[h]'HE.out.2 = x := ⟨_, rfl⟩
      have hin : x ∈ xs := by rw [← hxk]; exact List.getElem_mem _
      rw [hxk] at k0 k1 k2
      have HX := Lib.hid (And.intro hxk hbe)
      have hpw := HH.out.2.1.later hbe
      have hb0r : b0 < wr.heap.size := Nat.lt_of_lt_of_le hb0 hbe.size
      have hrow : wr.rangeAt b0 (off + h * 3) [.string ⟨x.t.toArray⟩, .string ⟨x.k.toArray⟩, .string ⟨x.i.toArray⟩] := by
        intro j v hj
        rw [hbe.cell (p := ⟨b0, off + h * 3 + j, none⟩) hb0]
        match j, hj with
        | 0, hj => cases hj; exact k0
        | 1, hj => cases hj; exact k1
        | 2, hj => cases hj; exact k2
      clear k0 k1 k2 hxk
      obtain ⟨xt, xk, xi⟩ := x
      dsimp only at hrow
      obtain ⟨z, hz⟩ : ∃ z, cmpP (Slt.pr ⟨xt, xk, xi⟩) (p1, p2) = z := ⟨_, rfl⟩
      have HZ := Lib.hid hz
      have HC : Hid (∀ W, Calls Try.prog 24 #[Slt.val ⟨xt, xk, xi⟩, prV (p1, p2)] W fun e w' => e = .returned (.int .i64 z) ∧ Below W.heap.size W w') := Lib.hid (fun W => by rw [← hz]; exact closure_calls _ _ W)
      obtain ⟨tb, htb⟩ : ∃ tb, decide (z < 0) = tb := ⟨_, rfl⟩
      have HT := Lib.hid htb
      clear hz htb
      apply wp_region_ls (by kernel_rfl) (by kernel_rfl)
      apply ls_move (.func (Fn.func 24) #[] #[]) (.tmp 2) rfl rfl rfl
      simp only [Act.put, List.setIfInBounds_toArray, List.set_cons_succ, List.set_cons_zero]
      apply ls_move (.slice (some ⟨b0, off, none⟩) n c) (.tmp 0) rfl rfl rfl
      simp only [Act.put, List.setIfInBounds_toArray, List.set_cons_succ, List.set_cons_zero]
      apply ls_move (.int .i64 (h : Int)) (.tmp 11) rfl rfl rfl
      simp only [Act.put, List.setIfInBounds_toArray, List.set_cons_succ, List.set_cons_zero]
      apply ls_pure (.pointer (some ⟨b0, off + h * 3, none⟩)) rfl (by intro W; go_simp)
      simp only [Act.put, List.setIfInBounds_toArray, List.set_cons_succ, List.set_cons_zero]
      apply ls_load 24 (.tmp 27) rfl b0 (off + h * 3) _ _ hrow hb0r Try.underlying24 rfl size_slot rfl rfl
      simp only [Act.put, List.setIfInBounds_toArray, List.set_cons_succ, List.set_cons_zero]
      apply ls_load 28 (.tmp 4) rfl w.heap.size 0 _ _ hpw.rng hpw.lt Try.underlying28 rfl size_pair rfl rfl
      simp only [Act.put, List.setIfInBounds_toArray, List.set_cons_succ, List.set_cons_zero]
      apply ls_callx (.int .i64 z) 24 #[Slt.val ⟨xt, xk, xi⟩, prV (p1, p2)] rfl (by intro W; go_simp; exact ⟨rfl, rfl⟩) (fun W => HC.out W)
      simp only [Act.put, List.setIfInBounds_toArray, List.set_cons_succ, List.set_cons_zero]
      apply ls_pure (.bool tb) rfl (by intro W; rw [← HT.out]; go_simp)
      simp only [Act.put, List.setIfInBounds_toArray, List.set_cons_succ, List.set_cons_zero]
      refine ls_nil (Rs := []) ?_
      intro w4 b4
      have HB4 := Lib.hid (hbe.then_ b4)
      clear hrow hpw b4 hbe
      cases tb with
      | true =>
        have HP : Hid (h + 1 ≤ posF xs (p1, p2)) := Lib.hid (by
          have h1 : ¬ posF xs (p1, p2) ≤ h := fun h2 => by
            have := posF_high HH.out.2.2.2.1 (p1, p2) h HE.out.2 h2
            rw [HX.out.1] at this
            rcases cmpP_three (Slt.pr ⟨xt, xk, xi⟩) (p1, p2) with h3 | h3 | h3
            · exact this h3
            · have := HT.out; rw [← HZ.out, h3] at this; simp at this
            · have := HT.out; rw [← HZ.out, h3] at this; simp at this
          omega)
        clear e1 e2 e3 e4
        go_wp2_with fail
        exact ⟨⟨h + 1, b, HP.out, hab, hb, by go_num, rfl, HB4.out⟩, by have := HE.out.1; simp [intOf]; omega⟩
      | false =>
        have HP : Hid (posF xs (p1, p2) ≤ h) := Lib.hid (by
          rcases Nat.lt_or_ge h (posF xs (p1, p2)) with h2 | h2
          · have := posF_low xs (p1, p2) h HE.out.2 h2
            rw [HX.out.1] at this
            have h4 := HT.out; rw [← HZ.out, this] at h4; simp at h4
          · exact h2)
        clear e1 e2 e3 e4
        go_wp2_with fail
        exact ⟨⟨a, h, ha, HP.out, Nat.le_of_lt hkn, rfl, rfl, HB4.out⟩, by have := HE.out.1; simp [intOf]; omega⟩
    · have hea : a = posF xs (p1, p2) := by omega
      have heb : b = posF xs (p1, p2) := by omega
      obtain ⟨q, hq⟩ : ∃ q, posF xs (p1, p2) = q := ⟨_, rfl⟩
      rw [hq] at hea heb
      subst hea
      obtain rfl := heb
      have HQ := Lib.hid hq
      have HBE := Lib.hid hbe
      clear ha hab hq
      rcases Nat.lt_or_ge b n with hbn | hbn
      · have hk : b < xs.length := by rw [← HH.out.2.2.2.2]; exact hbn
        obtain ⟨b0, off, rfl, hb0, k0, k1, k2⟩ := slots_at HH.out.1 hk
        obtain ⟨x, hxk⟩ : ∃ x, xs[b]'hk = x := ⟨_, rfl⟩
        rw [hxk] at k0 k1 k2
        have hpw := HH.out.2.1.later hbe
        have hb0r : b0 < wr.heap.size := Nat.lt_of_lt_of_le hb0 hbe.size
        have hrow : wr.rangeAt b0 (off + b * 3) [.string ⟨x.t.toArray⟩, .string ⟨x.k.toArray⟩, .string ⟨x.i.toArray⟩] := by
          intro j v hj
          rw [hbe.cell (p := ⟨b0, off + b * 3 + j, none⟩) hb0]
          match j, hj with
          | 0, hj => cases hj; exact k0
          | 1, hj => cases hj; exact k1
          | 2, hj => cases hj; exact k2
        have HF : Hid (foundF xs (p1, p2) = decide (cmpP x.pr (p1, p2) = 0)) := Lib.hid (by
          unfold foundF
          rw [HQ.out, List.getElem?_eq_getElem hk, hxk])
        clear k0 k1 k2 hxk hk
        obtain ⟨xt, xk, xi⟩ := x
        dsimp only at hrow
        obtain ⟨z, hz⟩ : ∃ z, cmpP (Slt.pr ⟨xt, xk, xi⟩) (p1, p2) = z := ⟨_, rfl⟩
        have HC : Hid (∀ W, Calls Try.prog 24 #[Slt.val ⟨xt, xk, xi⟩, prV (p1, p2)] W fun e w' => e = .returned (.int .i64 z) ∧ Below W.heap.size W w') := Lib.hid (fun W => by rw [← hz]; exact closure_calls _ _ W)
        rw [hz] at HF
        have hze : (z == 0) = decide (z = 0) := by by_cases h : z = 0 <;> simp [h]
        obtain ⟨tb, htb⟩ : ∃ tb, decide (z = 0) = tb := ⟨_, rfl⟩
        rw [htb] at HF hze
        have HT := Lib.hid hze
        clear hz htb hze
        go_upto_region 8 with fail
        apply wp_region_ls (by kernel_rfl) (by kernel_rfl)
        apply ls_move (.int .i64 (b : Int)) (.tmp 9) rfl rfl rfl
        simp only [Act.put, List.setIfInBounds_toArray, List.set_cons_succ, List.set_cons_zero]
        apply ls_move (.int .i64 (b : Int)) (.tmp 9) rfl rfl rfl
        simp only [Act.put, List.setIfInBounds_toArray, List.set_cons_succ, List.set_cons_zero]
        apply ls_move (.int .i64 (n : Int)) (.tmp 8) rfl rfl rfl
        simp only [Act.put, List.setIfInBounds_toArray, List.set_cons_succ, List.set_cons_zero]
        apply ls_pure (.bool true) rfl (by intro W; go_simp)
        simp only [Act.put, List.setIfInBounds_toArray, List.set_cons_succ, List.set_cons_zero]
        apply ls_move (.bool true) (.tmp 38) rfl rfl rfl
        simp only [Act.put, List.setIfInBounds_toArray, List.set_cons_succ, List.set_cons_zero]
        apply ls_move (.func (Fn.func 24) #[] #[]) (.tmp 2) rfl rfl rfl
        simp only [Act.put, List.setIfInBounds_toArray, List.set_cons_succ, List.set_cons_zero]
        apply ls_move (.slice (some ⟨b0, off, none⟩) n c) (.tmp 0) rfl rfl rfl
        simp only [Act.put, List.setIfInBounds_toArray, List.set_cons_succ, List.set_cons_zero]
        apply ls_move (.int .i64 (b : Int)) (.tmp 9) rfl rfl rfl
        simp only [Act.put, List.setIfInBounds_toArray, List.set_cons_succ, List.set_cons_zero]
        apply ls_pure (.pointer (some ⟨b0, off + b * 3, none⟩)) rfl (by intro W; go_simp)
        simp only [Act.put, List.setIfInBounds_toArray, List.set_cons_succ, List.set_cons_zero]
        apply ls_load 24 (.tmp 43) rfl b0 (off + b * 3) _ _ hrow hb0r Try.underlying24 rfl size_slot rfl rfl
        simp only [Act.put, List.setIfInBounds_toArray, List.set_cons_succ, List.set_cons_zero]
        apply ls_load 28 (.tmp 4) rfl w.heap.size 0 _ _ hpw.rng hpw.lt Try.underlying28 rfl size_pair rfl rfl
        simp only [Act.put, List.setIfInBounds_toArray, List.set_cons_succ, List.set_cons_zero]
        apply ls_callx (.int .i64 z) 24 #[Slt.val ⟨xt, xk, xi⟩, prV (p1, p2)] rfl (by intro W; go_simp; exact ⟨rfl, rfl⟩) (fun W => HC.out W)
        simp only [Act.put, List.setIfInBounds_toArray, List.set_cons_succ, List.set_cons_zero]
        apply ls_pure (.bool tb) rfl (by intro W; rw [← HT.out]; go_simp)
        simp only [Act.put, List.setIfInBounds_toArray, List.set_cons_succ, List.set_cons_zero]
        apply ls_pure (.bool tb) rfl (by intro W; go_simp)
        simp only [Act.put, List.setIfInBounds_toArray, List.set_cons_succ, List.set_cons_zero]
        apply ls_assign (.int .i64 (b : Int)) (.tmp 35) rfl rfl rfl
        simp only [Act.put, List.setIfInBounds_toArray, List.set_cons_succ, List.set_cons_zero]
        apply ls_assign (.bool tb) (.tmp 48) rfl rfl rfl
        simp only [Act.put, List.setIfInBounds_toArray, List.set_cons_succ, List.set_cons_zero]
        refine ls_nil (Rs := []) ?_
        intro w4 b4
        have HB4 := Lib.hid (HH.out.2.2.1.then_ (HBE.out.then_ b4))
        clear b4 hbe hrow hpw
        go_wp2_with fail
        go_ret2
        exact ⟨by rw [HQ.out, HF.out]; rfl, HB4.out⟩
      · obtain rfl : b = n := by omega
        have HF : Hid (foundF xs (p1, p2) = false) := Lib.hid (by
          unfold foundF
          rw [HQ.out, HH.out.2.2.2.2, List.getElem?_eq_none (Nat.le_refl _)])
        go_upto_region 8 with fail
        apply wp_region_ls (by kernel_rfl) (by kernel_rfl)
        apply ls_move (.int .i64 (b : Int)) (.tmp 9) rfl rfl rfl
        simp only [Act.put, List.setIfInBounds_toArray, List.set_cons_succ, List.set_cons_zero]
        apply ls_move (.int .i64 (b : Int)) (.tmp 9) rfl rfl rfl
        simp only [Act.put, List.setIfInBounds_toArray, List.set_cons_succ, List.set_cons_zero]
        apply ls_move (.int .i64 (b : Int)) (.tmp 8) rfl rfl rfl
        simp only [Act.put, List.setIfInBounds_toArray, List.set_cons_succ, List.set_cons_zero]
        apply ls_pure (.bool false) rfl (by intro W; go_simp)
        simp only [Act.put, List.setIfInBounds_toArray, List.set_cons_succ, List.set_cons_zero]
        apply ls_move (.bool false) (.tmp 38) rfl rfl rfl
        simp only [Act.put, List.setIfInBounds_toArray, List.set_cons_succ, List.set_cons_zero]
        apply ls_skip rfl
        simp only [Act.put, List.setIfInBounds_toArray, List.set_cons_succ, List.set_cons_zero]
        apply ls_skip rfl
        simp only [Act.put, List.setIfInBounds_toArray, List.set_cons_succ, List.set_cons_zero]
        apply ls_skip rfl
        simp only [Act.put, List.setIfInBounds_toArray, List.set_cons_succ, List.set_cons_zero]
        apply ls_skip rfl
        simp only [Act.put, List.setIfInBounds_toArray, List.set_cons_succ, List.set_cons_zero]
        apply ls_skip rfl
        simp only [Act.put, List.setIfInBounds_toArray, List.set_cons_succ, List.set_cons_zero]
        apply ls_skip rfl
        simp only [Act.put, List.setIfInBounds_toArray, List.set_cons_succ, List.set_cons_zero]
        apply ls_skip rfl
        simp only [Act.put, List.setIfInBounds_toArray, List.set_cons_succ, List.set_cons_zero]
        apply ls_skip rfl
        simp only [Act.put, List.setIfInBounds_toArray, List.set_cons_succ, List.set_cons_zero]
        apply ls_pure (.bool false) rfl (by intro W; go_simp)
        simp only [Act.put, List.setIfInBounds_toArray, List.set_cons_succ, List.set_cons_zero]
        apply ls_assign (.int .i64 (b : Int)) (.tmp 35) rfl rfl rfl
        simp only [Act.put, List.setIfInBounds_toArray, List.set_cons_succ, List.set_cons_zero]
        apply ls_assign (.bool false) (.tmp 48) rfl rfl rfl
        simp only [Act.put, List.setIfInBounds_toArray, List.set_cons_succ, List.set_cons_zero]
        refine ls_nil (Rs := []) ?_
        intro w4 b4
        have HB4 := Lib.hid (HH.out.2.2.1.then_ (HBE.out.then_ b4))
        clear b4 hbe
        go_wp2_with fail
        go_ret2
        exact ⟨by rw [HQ.out, HF.out]; rfl, HB4.out⟩
set_option maxHeartbeats 4000000 in
set_option maxRecDepth 100000 in
theorem find_calls (A : Option Addr) (n c : Nat) (xs : List Slt) (p : Pr) (w : World) (hx : Sls w A n c xs) (hnb : n ≤ 1000000) (hr : Rise xs) : Calls Try.prog 16 #[.slice A n c, prV p] w fun e w' => e = .returned (.tuple #[.int .i64 (posF xs p : Int), .bool (foundF xs p)]) ∧ Below w.heap.size w w' := by
  go_enter Try.func16, Try.ntmps16
  unfold prV
  go_wp2_with fail
  refine (search_calls A n c xs p _ (hx.below ((Below.refl _ _).alloc (Nat.le_refl _) _)) hnb hr).mono ?_
  rintro e w1 ⟨rfl, b1⟩
  have hb := Below.of_alloc b1
  clear b1
  go_wp2_with fail
  go_ret2
  exact ⟨rfl, hb⟩
end Go.Proofs.Ytpleminoiodmgaa
