/- Texts put together: PnW PkE PkFa. -/
import Derived.Test.YtpleminoiodmgaaDoorZ9a4b2937d6
import Derived.Test.YtpleminoiodmgaaDoorZ47b38e092a
import Derived.Test.YtpleminoiodmgaaDoorZ7a763d89a4
namespace Go.Proofs.YtpleminoiodmgaaDoor
open Go.ChangeShapes Go.WideShapes Go.ChangeAt Go.RowKit Go.IntWalk
set_option linter.unusedVariables false
set_option maxRecDepth 100000

set_option maxHeartbeats 4000000 in
theorem refin_calls (A : Option Addr) (n c : Nat) (ps : List Pr) (p : Pr) (w : World) (hx : LP w A n c ps) : Calls Tryd.prog 30 #[.slice A n c, prV p] w fun en w' => en = .returned (.bool (decide (p ∈ ps))) ∧ Below w.heap.size w w' := by
  have hnm : n ≤ 9223372036854775807 := Nat.le_trans hx.2.2.1 hx.2.2.2
  have HL := Lib.hid hx
  obtain ⟨p1, p2⟩ := p
  unfold prV
  dsimp only
  have hpb := Blk.new w [.string ⟨p1.toArray⟩, .string ⟨p2.toArray⟩] 35
  have hbw : Below w.heap.size w (w.alloc (.cells #[.string ⟨p1.toArray⟩, .string ⟨p2.toArray⟩] 35)) := (Below.refl _ _).alloc (Nat.le_refl _) _
  have HH := Lib.hid (And.intro hpb hbw)
  clear hpb hbw hx
  go_enter Tryd.func30, Tryd.ntmps30
  go_wp2_with fail
  go_loopw [9] (fun i wr => ∃ k : Nat, k ≤ n ∧ i = .int .i64 (k : Int) ∧ Hid (Blk wr w.heap.size 35 [.string ⟨p1.toArray⟩, .string ⟨p2.toArray⟩] ∧ Below w.heap.size w wr ∧ ∀ x ∈ ps.take k, x ≠ (p1, p2))) (fun i _ => n - (intOf i).toNat)
  case atStart => exact ⟨0, Nat.zero_le _, rfl, Lib.hid ⟨HH.out.1, HH.out.2, by simp⟩⟩
  case round =>
    obtain ⟨k, hk, rfl, HK⟩ := hrel
    by_cases hlt : k < n
    · have hkx : k < ps.length := by rw [← HL.out.2.1.out]; exact hlt
      obtain ⟨b0, off, rfl, hb0, r0⟩ := pr_row HL.out.1 HK.out.2.1 hkx
      have hgx := List.getElem?_eq_getElem hkx
      obtain ⟨x, hxx⟩ : ∃ x, ps[k] = x := ⟨_, rfl⟩
      rw [hxx] at r0 hgx
      obtain ⟨x1, x2⟩ := x
      dsimp only at r0
      have HXK := Lib.hid hgx
      have c0 := r0 0 _ rfl
      have c1 := r0 1 _ rfl
      rw [Nat.add_zero] at c0
      have d0 := HK.out.1.cell (k := 0) rfl
      have d1 := HK.out.1.cell (k := 1) rfl
      have hnk : ¬ n ≤ k := by omega
      have hlt0 := HK.out.1.lt
      clear r0 hxx hkx hgx
      have hstep : ∀ wr' : World, Below w.heap.size w wr' → Blk wr' w.heap.size 35 [.string ⟨p1.toArray⟩, .string ⟨p2.toArray⟩] → ¬ (x1 = p1 ∧ x2 = p2) → Hid (Blk wr' w.heap.size 35 [.string ⟨p1.toArray⟩, .string ⟨p2.toArray⟩] ∧ Below w.heap.size w wr' ∧ ∀ x ∈ ps.take (k + 1), x ≠ (p1, p2)) := fun wr' h1 h2 h3 => Lib.hid ⟨h2, h1, fun x hx => by
        rw [List.take_add_one, HXK.out, Option.toList_some, List.mem_append] at hx
        rcases hx with hx | hx
        · exact HK.out.2.2 x hx
        · rw [List.mem_singleton.1 hx]; exact fun h => h3 (by injection h with a b; exact ⟨a, b⟩)⟩
      have HST := Lib.hid hstep
      have HB := Lib.hid HK.out.2.1
      have HP := Lib.hid HK.out.1
      clear hstep
      by_cases h1 : x1 = p1
      · subst h1
        by_cases h2 : x2 = p2
        · subst h2
          have hm := Lib.hid (List.mem_of_getElem? HXK.out)
          go_wp2_with fail
          go_ret
          exact ⟨by rw [decide_eq_true hm.out]; rfl, HB.out.alloc HB.out.size _⟩
        · have s2 : (x2 == p2) = false := by simp [h2]
          have HS2 := Lib.hid h2
          clear h2
          go_wp2_with fail
          exact ⟨⟨k + 1, by omega, by go_num, HST.out _ (HB.out.alloc HB.out.size _) (HP.out.alloc _) (fun h => HS2.out h.2)⟩, by simp [intOf]; omega⟩
      · have s1 : (x1 == p1) = false := by simp [h1]
        have HS1 := Lib.hid h1
        clear h1
        go_wp2_with fail
        exact ⟨⟨k + 1, by omega, by go_num, HST.out _ (HB.out.alloc HB.out.size _) (HP.out.alloc _) (fun h => HS1.out h.1)⟩, by simp [intOf]; omega⟩
    · obtain rfl : n = k := by omega
      have hm : Hid ((p1, p2) ∉ ps) := Lib.hid (fun h => HK.out.2.2 (p1, p2) (by rw [HL.out.2.1.out, List.take_length]; exact h) rfl)
      have HB := Lib.hid HK.out.2.1
      go_wp2_with fail
      go_ret
      exact ⟨by rw [decide_eq_false hm.out]; rfl, HB.out⟩
set_option maxHeartbeats 4000000 in
theorem indexP_calls (A : Option Addr) (n c : Nat) (ps : List Pr) (p : Pr) (w : World) (hx : LP w A n c ps) : Calls Tryd.prog 40 #[.slice A n c, prV p] w fun en w' => ∃ i : Int, en = .returned (.int .i64 i) ∧ (0 ≤ i ↔ p ∈ ps) ∧ Below w.heap.size w w' := by
  have hnm : n ≤ 9223372036854775807 := Nat.le_trans hx.2.2.1 hx.2.2.2
  have HL := Lib.hid hx
  obtain ⟨p1, p2⟩ := p
  unfold prV
  dsimp only
  have hpb := Blk.new w [.string ⟨p1.toArray⟩, .string ⟨p2.toArray⟩] 35
  have hbw : Below w.heap.size w (w.alloc (.cells #[.string ⟨p1.toArray⟩, .string ⟨p2.toArray⟩] 35)) := (Below.refl _ _).alloc (Nat.le_refl _) _
  have HH := Lib.hid (And.intro hpb hbw)
  clear hpb hbw hx
  go_enter Tryd.func40, Tryd.ntmps40
  go_wp2_with fail
  go_loopw [5, 8] (fun i0 i wr => ∃ k : Nat, k ≤ n ∧ i = .int .i64 (k : Int) ∧ Hid (Blk wr w.heap.size 35 [.string ⟨p1.toArray⟩, .string ⟨p2.toArray⟩] ∧ Below w.heap.size w wr ∧ ∀ x ∈ ps.take k, x ≠ (p1, p2))) (fun _ i _ => n - (intOf i).toNat)
  case atStart => exact ⟨0, Nat.zero_le _, rfl, Lib.hid ⟨HH.out.1, HH.out.2, by simp⟩⟩
  case round =>
    obtain ⟨k, hk, rfl, HK⟩ := hrel
    by_cases hlt : k < n
    · have hkx : k < ps.length := by rw [← HL.out.2.1.out]; exact hlt
      obtain ⟨b0, off, rfl, hb0, r0⟩ := pr_row HL.out.1 HK.out.2.1 hkx
      have hgx := List.getElem?_eq_getElem hkx
      obtain ⟨x, hxx⟩ : ∃ x, ps[k] = x := ⟨_, rfl⟩
      rw [hxx] at r0 hgx
      obtain ⟨x1, x2⟩ := x
      dsimp only at r0
      have HXK := Lib.hid hgx
      have c0 := r0 0 _ rfl
      have c1 := r0 1 _ rfl
      rw [Nat.add_zero] at c0
      have d0 := HK.out.1.cell (k := 0) rfl
      have d1 := HK.out.1.cell (k := 1) rfl
      have hnk : ¬ n ≤ k := by omega
      have hlt0 := HK.out.1.lt
      have HR0 := Lib.hid r0
      clear r0 hxx hkx hgx
      have hstep : ∀ wr' : World, Below w.heap.size w wr' → Blk wr' w.heap.size 35 [.string ⟨p1.toArray⟩, .string ⟨p2.toArray⟩] → ¬ (x1 = p1 ∧ x2 = p2) → Hid (Blk wr' w.heap.size 35 [.string ⟨p1.toArray⟩, .string ⟨p2.toArray⟩] ∧ Below w.heap.size w wr' ∧ ∀ x ∈ ps.take (k + 1), x ≠ (p1, p2)) := fun wr' h1 h2 h3 => Lib.hid ⟨h2, h1, fun x hx => by
        rw [List.take_add_one, HXK.out, Option.toList_some, List.mem_append] at hx
        rcases hx with hx | hx
        · exact HK.out.2.2 x hx
        · rw [List.mem_singleton.1 hx]; exact fun h => h3 (by injection h with a b; exact ⟨a, b⟩)⟩
      have HST := Lib.hid hstep
      have HB := Lib.hid HK.out.2.1
      have HP := Lib.hid HK.out.1
      clear hstep
      obtain ⟨tb, htb⟩ : ∃ tb, decide ((x1, x2) = (p1, p2)) = tb := ⟨_, rfl⟩
      have hte : ((p1 == x1) && (p2 == x2)) = tb := by
        rw [← htb, show decide ((x1, x2) = (p1, p2)) = decide (p1 = x1 ∧ p2 = x2) from decide_eq_decide.2 ⟨fun h => by injection h with a b; exact ⟨a.symm, b.symm⟩, fun h => by rw [h.1, h.2]⟩]
        by_cases h1 : p1 = x1 <;> by_cases h2 : p2 = x2 <;> simp [h1, h2]
      have HT := Lib.hid (And.intro htb hte)
      have r0 : wr.rangeAt b0 (off + k * 2) [.string ⟨x1.toArray⟩, .string ⟨x2.toArray⟩] := HR0.out
      clear htb hte c0 c1 d0 d1
      go_upto_region 4 with fail
      apply wp_region_ls (by kernel_rfl) (by kernel_rfl)
      apply ls_load 35 (.tmp 3) rfl w.heap.size 0 _ _ HP.out.rng HP.out.lt Tryd.underlying35 rfl size_pair rfl rfl
      simp only [Act.put, List.setIfInBounds_toArray, List.set_cons_succ, List.set_cons_zero]
      apply ls_move (.slice (some ⟨b0, off, none⟩) n c) (.tmp 0) rfl rfl rfl
      simp only [Act.put, List.setIfInBounds_toArray, List.set_cons_succ, List.set_cons_zero]
      apply ls_move (.int .i64 (k : Int)) (.tmp 5) rfl rfl rfl
      simp only [Act.put, List.setIfInBounds_toArray, List.set_cons_succ, List.set_cons_zero]
      apply ls_pure (.pointer (some ⟨b0, off + k * 2, none⟩)) rfl (by intro W; go_simp)
      simp only [Act.put, List.setIfInBounds_toArray, List.set_cons_succ, List.set_cons_zero]
      apply ls_load 35 (.tmp 14) rfl b0 (off + k * 2) _ _ r0 hb0 Tryd.underlying35 rfl size_pr rfl rfl
      simp only [Act.put, List.setIfInBounds_toArray, List.set_cons_succ, List.set_cons_zero]
      apply ls_pure (.bool tb) rfl (by intro W; rw [← HT.out.2]; go_simp; by_cases h1 : p1 = x1 <;> by_cases h2 : p2 = x2 <;> simp [h1, h2])
      simp only [Act.put, List.setIfInBounds_toArray, List.set_cons_succ, List.set_cons_zero]
      refine ls_nil (Rs := []) ?_
      intro w4 b4
      have HB4 := Lib.hid (HB.out.then_ b4)
      have HP4 := Lib.hid (HP.out.later b4)
      clear b4 r0
      cases tb with
      | true =>
        have he : (x1, x2) = (p1, p2) := of_decide_eq_true HT.out.1
        have hm := Lib.hid (show (p1, p2) ∈ ps by rw [← he]; exact List.mem_of_getElem? HXK.out)
        clear he
        go_wp2_with fail
        go_ret
        exact ⟨(k : Int), rfl, ⟨fun _ => hm.out, fun _ => by omega⟩, HB4.out⟩
      | false =>
        have HNE : Hid (¬ (x1 = p1 ∧ x2 = p2)) := Lib.hid (fun h => of_decide_eq_false HT.out.1 (by rw [h.1, h.2]))
        go_wp2_with fail
        exact ⟨⟨k + 1, by omega, by go_num, HST.out _ HB4.out HP4.out HNE.out⟩, by simp [intOf]; omega⟩
    · obtain rfl : n = k := by omega
      have hm : Hid ((p1, p2) ∉ ps) := Lib.hid (fun h => HK.out.2.2 (p1, p2) (by rw [HL.out.2.1.out, List.take_length]; exact h) rfl)
      have HB := Lib.hid HK.out.2.1
      go_wp2_with fail
      go_ret
      exact ⟨-1, rfl, ⟨fun h => absurd h (by decide), fun h => absurd h hm.out⟩, HB.out⟩
set_option maxHeartbeats 4000000 in
theorem containsP_calls (A : Option Addr) (n c : Nat) (ps : List Pr) (p : Pr) (w : World) (hx : LP w A n c ps) : Calls Tryd.prog 29 #[.slice A n c, prV p] w fun en w' => en = .returned (.bool (decide (p ∈ ps))) ∧ Below w.heap.size w w' := by
  obtain ⟨p1, p2⟩ := p
  have hpb := Blk.new w [.string ⟨p1.toArray⟩, .string ⟨p2.toArray⟩] 35
  have hbw : Below w.heap.size w (w.alloc (.cells #[.string ⟨p1.toArray⟩, .string ⟨p2.toArray⟩] 35)) := (Below.refl _ _).alloc (Nat.le_refl _) _
  have HI := Lib.hid (indexP_calls A n c ps (p1, p2) _ (hx.below hbw))
  have HH := Lib.hid (And.intro hpb hbw)
  unfold prV at HI ⊢
  dsimp only at HI ⊢
  have d0 := hpb.cell (k := 0) rfl
  have d1 := hpb.cell (k := 1) rfl
  clear hpb hbw
  go_enter Tryd.func29, Tryd.ntmps29
  go_wp2_with fail
  refine HI.out.mono ?_
  rintro en w1 ⟨i, rfl, hi, hb⟩
  have HB := Lib.hid (HH.out.2.then_ hb)
  have HIM := Lib.hid hi
  clear hb hi d0 d1
  by_cases h0 : 0 ≤ i
  · have hm := Lib.hid (HIM.out.1 h0)
    have t0 : ¬ i < 0 := by omega
    go_wp2_with fail
    go_ret
    exact ⟨by rw [decide_eq_true hm.out]; rfl, HB.out⟩
  · have hm : Hid ((p1, p2) ∉ ps) := Lib.hid (fun h => h0 (HIM.out.2 h))
    have t0 : i < 0 := by omega
    have t1 : decide (0 ≤ i) = false := decide_eq_false h0
    go_wp2_with fail
    go_ret
    exact ⟨by rw [decide_eq_false hm.out]; rfl, HB.out⟩
end Go.Proofs.YtpleminoiodmgaaDoor
namespace Go.Proofs.YtpleminoiodmgaaDoor
open Go.ChangeShapes Go.WideShapes Go.ChangeAt Go.RowKit Go.IntWalk
set_option linter.unusedVariables false

theorem half_u (a b : Nat) (ha : a ≤ 1000000) (hb : b ≤ 1000000) : IntKind.u64.wrap ((a : Int) + (b : Int)) = (a : Int) + (b : Int) := by rw [IntKind.wrap_u64]; omega
theorem half_d (a b h : Nat) (hh : (a + b) / 2 = h) : ((a : Int) + (b : Int)) / 2 = (h : Int) := by omega
theorem half_w (h : Nat) (hh : h ≤ 1000000) : wrap64 (h : Int) = (h : Int) := wrap64_in _ (by omega)
theorem half_s (a b : Nat) (ha : a ≤ 1000000) (hb : b ≤ 1000000) : wrap64 ((a : Int) + (b : Int)) = (a : Int) + (b : Int) := wrap64_in _ (by omega)
set_option maxHeartbeats 4000000 in
set_option maxRecDepth 100000 in
theorem search_calls (A : Option Addr) (n c : Nat) (xs : List Slt) (p : Pr) (w : World) (hx : Sls w A n c xs) (hnb : n ≤ 1000000) (hr : Rise xs) : Calls Tryd.prog 55 #[.slice A n c, prV p, .func (Fn.func 56) #[] #[]] w fun e w' => e = .returned (.tuple #[.int .i64 (posF xs p : Int), .bool (foundF xs p)]) ∧ Below w.heap.size w w' := by
  have HNB := Lib.hid hnb
  clear hnb
  obtain ⟨hrv, hn, hnc, hc63, hok⟩ := hx
  obtain ⟨p1, p2⟩ := p
  unfold prV
  dsimp only
  go_enter Tryd.func55, Tryd.ntmps55
  go_wp2_with fail
  obtain ⟨wa, hwa⟩ : ∃ x, x = w.alloc (.cells #[.string ⟨p1.toArray⟩, .string ⟨p2.toArray⟩] 35) := ⟨_, rfl⟩
  have hpb : Blk wa w.heap.size 35 [.string ⟨p1.toArray⟩, .string ⟨p2.toArray⟩] := by rw [hwa]; exact Blk.new w _ _
  have hrv : RV wa A (slC xs) := by rw [hwa]; exact hrv.alloc _
  have hsz : wa.heap.size = w.heap.size + 1 := by rw [hwa]; simp
  have hbw : Below w.heap.size w wa := by rw [hwa]; exact (Below.refl _ _).alloc (Nat.le_refl _) _
  rw [← hwa]
  have HH := Lib.hid (And.intro hrv (And.intro hpb (And.intro hbw (And.intro hr hn.out))))
  clear hrv hpb hbw hr hn hwa
  go_loopw [9, 10] (fun i j wr => ∃ a b : Nat, a ≤ posF xs (p1, p2) ∧ posF xs (p1, p2) ≤ b ∧ b ≤ n ∧ i = .int .i64 (a : Int) ∧ j = .int .i64 (b : Int) ∧ Below wa.heap.size wa wr) (fun i j _ => (intOf j - intOf i).toNat)
  case atStart => exact ⟨0, n, Nat.zero_le _, by rw [HH.out.2.2.2.2]; exact posF_le _ _, Nat.le_refl _, rfl, rfl, Below.refl _ _⟩
  case round =>
    obtain ⟨a, b, ha, hab, hb, rfl, rfl, hbe⟩ := hrel
    by_cases hlt : a < b
    · have hb2 : b ≤ 1000000 := Nat.le_trans hb HNB.out
      have ha2 : a ≤ 1000000 := Nat.le_trans (Nat.le_of_lt hlt) hb2
      obtain ⟨h, hh⟩ : ∃ h, (a + b) / 2 = h := ⟨_, rfl⟩
      have hk : h < xs.length := by rw [← HH.out.2.2.2.2]; omega
      have hkn : h < n := by omega
      have e3 := half_d a b h hh
      have e4 := half_w h (Nat.le_trans (Nat.le_of_lt hkn) HNB.out)
      have e1 := half_s a b ha2 hb2
      have e2 := half_u a b ha2 hb2
      have HE := Lib.hid (And.intro hh hk)
      clear hh hk ha2 hb2
      go_upto_region 5 with fail
      obtain ⟨b0, off, rfl, hb0, k0, k1, k2⟩ := slots_at HH.out.1 HE.out.2
      obtain ⟨x, hxk⟩ : ∃ x, xs[h]'HE.out.2 = x := ⟨_, rfl⟩
      have hin : x ∈ xs := by rw [← hxk]; exact List.getElem_mem _
      rw [hxk] at k0 k1 k2
      have HX := Lib.hid (And.intro hxk hbe)
      have hpw := HH.out.2.1.later hbe
      have hb0r : b0 < wr.heap.size := Nat.lt_of_lt_of_le hb0 hbe.size
      have hrow : wr.rangeAt b0 (off + h * 3) [.string ⟨x.t.toArray⟩, .string ⟨x.k.toArray⟩, .string ⟨x.i.toArray⟩] := by
        intro j v hj
        rw [hbe.cell (p := ⟨b0, off + h * 3 + j, none⟩) hb0]
        match j, hj with
        | 0, hj => cases hj; exact k0
        | 1, hj => cases hj; exact k1
        | 2, hj => cases hj; exact k2
      clear k0 k1 k2 hxk
      obtain ⟨xt, xk, xi⟩ := x
      dsimp only at hrow
      obtain ⟨z, hz⟩ : ∃ z, cmpP (Slt.pr ⟨xt, xk, xi⟩) (p1, p2) = z := ⟨_, rfl⟩
      have HZ := Lib.hid hz
      have HC : Hid (∀ W, Calls Tryd.prog 56 #[Slt.val ⟨xt, xk, xi⟩, prV (p1, p2)] W fun e w' => e = .returned (.int .i64 z) ∧ Below W.heap.size W w') := Lib.hid (fun W => by rw [← hz]; exact closure_calls _ _ W)
      obtain ⟨tb, htb⟩ : ∃ tb, decide (z < 0) = tb := ⟨_, rfl⟩
      have HT := Lib.hid htb
      clear hz htb
      apply wp_region_ls (by kernel_rfl) (by kernel_rfl)
      apply ls_move (.func (Fn.func 56) #[] #[]) (.tmp 2) rfl rfl rfl
      simp only [Act.put, List.setIfInBounds_toArray, List.set_cons_succ, List.set_cons_zero]
      apply ls_move (.slice (some ⟨b0, off, none⟩) n c) (.tmp 0) rfl rfl rfl
      simp only [Act.put, List.setIfInBounds_toArray, List.set_cons_succ, List.set_cons_zero]
      apply ls_move (.int .i64 (h : Int)) (.tmp 11) rfl rfl rfl
      simp only [Act.put, List.setIfInBounds_toArray, List.set_cons_succ, List.set_cons_zero]
      apply ls_pure (.pointer (some ⟨b0, off + h * 3, none⟩)) rfl (by intro W; go_simp)
      simp only [Act.put, List.setIfInBounds_toArray, List.set_cons_succ, List.set_cons_zero]
      apply ls_load 52 (.tmp 27) rfl b0 (off + h * 3) _ _ hrow hb0r Tryd.underlying52 rfl size_slot rfl rfl
      simp only [Act.put, List.setIfInBounds_toArray, List.set_cons_succ, List.set_cons_zero]
      apply ls_load 35 (.tmp 4) rfl w.heap.size 0 _ _ hpw.rng hpw.lt Tryd.underlying35 rfl size_pair rfl rfl
      simp only [Act.put, List.setIfInBounds_toArray, List.set_cons_succ, List.set_cons_zero]
      apply ls_callx (.int .i64 z) 56 #[Slt.val ⟨xt, xk, xi⟩, prV (p1, p2)] rfl (by intro W; go_simp; exact ⟨rfl, rfl⟩) (fun W => HC.out W)
      simp only [Act.put, List.setIfInBounds_toArray, List.set_cons_succ, List.set_cons_zero]
      apply ls_pure (.bool tb) rfl (by intro W; rw [← HT.out]; go_simp)
      simp only [Act.put, List.setIfInBounds_toArray, List.set_cons_succ, List.set_cons_zero]
      refine ls_nil (Rs := []) ?_
      intro w4 b4
      have HB4 := Lib.hid (hbe.then_ b4)
      clear hrow hpw b4 hbe
      cases tb with
      | true =>
        have HP : Hid (h + 1 ≤ posF xs (p1, p2)) := Lib.hid (by
          have h1 : ¬ posF xs (p1, p2) ≤ h := fun h2 => by
            have := posF_high HH.out.2.2.2.1 (p1, p2) h HE.out.2 h2
            rw [HX.out.1] at this
            rcases cmpP_three (Slt.pr ⟨xt, xk, xi⟩) (p1, p2) with h3 | h3 | h3
            · exact this h3
            · have := HT.out; rw [← HZ.out, h3] at this; simp at this
            · have := HT.out; rw [← HZ.out, h3] at this; simp at this
          omega)
        clear e1 e2 e3 e4
        go_wp2_with fail
        exact ⟨⟨h + 1, b, HP.out, hab, hb, by go_num, rfl, HB4.out⟩, by have := HE.out.1; simp [intOf]; omega⟩
      | false =>
        have HP : Hid (posF xs (p1, p2) ≤ h) := Lib.hid (by
          rcases Nat.lt_or_ge h (posF xs (p1, p2)) with h2 | h2
          · have := posF_low xs (p1, p2) h HE.out.2 h2
            rw [HX.out.1] at this
            have h4 := HT.out; rw [← HZ.out, this] at h4; simp at h4
          · exact h2)
        clear e1 e2 e3 e4
        go_wp2_with fail
        exact ⟨⟨a, h, ha, HP.out, Nat.le_of_lt hkn, rfl, rfl, HB4.out⟩, by have := HE.out.1; simp [intOf]; omega⟩
    · have hea : a = posF xs (p1, p2) := by omega
      have heb : b = posF xs (p1, p2) := by omega
      obtain ⟨q, hq⟩ : ∃ q, posF xs (p1, p2) = q := ⟨_, rfl⟩
      rw [hq] at hea heb
      subst hea
      obtain rfl := heb
      have HQ := Lib.hid hq
      have HBE := Lib.hid hbe
      clear ha hab hq
      rcases Nat.lt_or_ge b n with hbn | hbn
      · have hk : b < xs.length := by rw [← HH.out.2.2.2.2]; exact hbn
        obtain ⟨b0, off, rfl, hb0, k0, k1, k2⟩ := slots_at HH.out.1 hk
        obtain ⟨x, hxk⟩ : ∃ x, xs[b]'hk = x := ⟨_, rfl⟩
        rw [hxk] at k0 k1 k2
        have hpw := HH.out.2.1.later hbe
        have hb0r : b0 < wr.heap.size := Nat.lt_of_lt_of_le hb0 hbe.size
        have hrow : wr.rangeAt b0 (off + b * 3) [.string ⟨x.t.toArray⟩, .string ⟨x.k.toArray⟩, .string ⟨x.i.toArray⟩] := by
          intro j v hj
          rw [hbe.cell (p := ⟨b0, off + b * 3 + j, none⟩) hb0]
          match j, hj with
          | 0, hj => cases hj; exact k0
          | 1, hj => cases hj; exact k1
          | 2, hj => cases hj; exact k2
        have HF : Hid (foundF xs (p1, p2) = decide (cmpP x.pr (p1, p2) = 0)) := Lib.hid (by
          unfold foundF
          rw [HQ.out, List.getElem?_eq_getElem hk, hxk])
        clear k0 k1 k2 hxk hk
        obtain ⟨xt, xk, xi⟩ := x
        dsimp only at hrow
        obtain ⟨z, hz⟩ : ∃ z, cmpP (Slt.pr ⟨xt, xk, xi⟩) (p1, p2) = z := ⟨_, rfl⟩
        have HC : Hid (∀ W, Calls Tryd.prog 56 #[Slt.val ⟨xt, xk, xi⟩, prV (p1, p2)] W fun e w' => e = .returned (.int .i64 z) ∧ Below W.heap.size W w') := Lib.hid (fun W => by rw [← hz]; exact closure_calls _ _ W)
        rw [hz] at HF
        have hze : (z == 0) = decide (z = 0) := by by_cases h : z = 0 <;> simp [h]
        obtain ⟨tb, htb⟩ : ∃ tb, decide (z = 0) = tb := ⟨_, rfl⟩
        rw [htb] at HF hze
        have HT := Lib.hid hze
        clear hz htb hze
        go_upto_region 8 with fail
        apply wp_region_ls (by kernel_rfl) (by kernel_rfl)
        apply ls_move (.int .i64 (b : Int)) (.tmp 9) rfl rfl rfl
        simp only [Act.put, List.setIfInBounds_toArray, List.set_cons_succ, List.set_cons_zero]
        apply ls_move (.int .i64 (b : Int)) (.tmp 9) rfl rfl rfl
        simp only [Act.put, List.setIfInBounds_toArray, List.set_cons_succ, List.set_cons_zero]
        apply ls_move (.int .i64 (n : Int)) (.tmp 8) rfl rfl rfl
        simp only [Act.put, List.setIfInBounds_toArray, List.set_cons_succ, List.set_cons_zero]
        apply ls_pure (.bool true) rfl (by intro W; go_simp)
        simp only [Act.put, List.setIfInBounds_toArray, List.set_cons_succ, List.set_cons_zero]
        apply ls_move (.bool true) (.tmp 38) rfl rfl rfl
        simp only [Act.put, List.setIfInBounds_toArray, List.set_cons_succ, List.set_cons_zero]
        apply ls_move (.func (Fn.func 56) #[] #[]) (.tmp 2) rfl rfl rfl
        simp only [Act.put, List.setIfInBounds_toArray, List.set_cons_succ, List.set_cons_zero]
        apply ls_move (.slice (some ⟨b0, off, none⟩) n c) (.tmp 0) rfl rfl rfl
        simp only [Act.put, List.setIfInBounds_toArray, List.set_cons_succ, List.set_cons_zero]
        apply ls_move (.int .i64 (b : Int)) (.tmp 9) rfl rfl rfl
        simp only [Act.put, List.setIfInBounds_toArray, List.set_cons_succ, List.set_cons_zero]
        apply ls_pure (.pointer (some ⟨b0, off + b * 3, none⟩)) rfl (by intro W; go_simp)
        simp only [Act.put, List.setIfInBounds_toArray, List.set_cons_succ, List.set_cons_zero]
        apply ls_load 52 (.tmp 43) rfl b0 (off + b * 3) _ _ hrow hb0r Tryd.underlying52 rfl size_slot rfl rfl
        simp only [Act.put, List.setIfInBounds_toArray, List.set_cons_succ, List.set_cons_zero]
        apply ls_load 35 (.tmp 4) rfl w.heap.size 0 _ _ hpw.rng hpw.lt Tryd.underlying35 rfl size_pair rfl rfl
        simp only [Act.put, List.setIfInBounds_toArray, List.set_cons_succ, List.set_cons_zero]
        apply ls_callx (.int .i64 z) 56 #[Slt.val ⟨xt, xk, xi⟩, prV (p1, p2)] rfl (by intro W; go_simp; exact ⟨rfl, rfl⟩) (fun W => HC.out W)
        simp only [Act.put, List.setIfInBounds_toArray, List.set_cons_succ, List.set_cons_zero]
        apply ls_pure (.bool tb) rfl (by intro W; rw [← HT.out]; go_simp)
        simp only [Act.put, List.setIfInBounds_toArray, List.set_cons_succ, List.set_cons_zero]
        apply ls_pure (.bool tb) rfl (by intro W; go_simp)
        simp only [Act.put, List.setIfInBounds_toArray, List.set_cons_succ, List.set_cons_zero]
        apply ls_assign (.int .i64 (b : Int)) (.tmp 35) rfl rfl rfl
        simp only [Act.put, List.setIfInBounds_toArray, List.set_cons_succ, List.set_cons_zero]
        apply ls_assign (.bool tb) (.tmp 48) rfl rfl rfl
        simp only [Act.put, List.setIfInBounds_toArray, List.set_cons_succ, List.set_cons_zero]
        refine ls_nil (Rs := []) ?_
        intro w4 b4
        have HB4 := Lib.hid (HH.out.2.2.1.then_ (HBE.out.then_ b4))
        clear b4 hbe hrow hpw
        go_wp2_with fail
        go_ret2
        exact ⟨by rw [HQ.out, HF.out]; rfl, HB4.out⟩
      · obtain rfl : b = n := by omega
        have HF : Hid (foundF xs (p1, p2) = false) := Lib.hid (by
          unfold foundF
          rw [HQ.out, HH.out.2.2.2.2, List.getElem?_eq_none (Nat.le_refl _)])
        go_upto_region 8 with fail
        apply wp_region_ls (by kernel_rfl) (by kernel_rfl)
        apply ls_move (.int .i64 (b : Int)) (.tmp 9) rfl rfl rfl
        simp only [Act.put, List.setIfInBounds_toArray, List.set_cons_succ, List.set_cons_zero]
        apply ls_move (.int .i64 (b : Int)) (.tmp 9) rfl rfl rfl
        simp only [Act.put, List.setIfInBounds_toArray, List.set_cons_succ, List.set_cons_zero]
        apply ls_move (.int .i64 (b : Int)) (.tmp 8) rfl rfl rfl
        simp only [Act.put, List.setIfInBounds_toArray, List.set_cons_succ, List.set_cons_zero]
        apply ls_pure (.bool false) rfl (by intro W; go_simp)
        simp only [Act.put, List.setIfInBounds_toArray, List.set_cons_succ, List.set_cons_zero]
        apply ls_move (.bool false) (.tmp 38) rfl rfl rfl
        simp only [Act.put, List.setIfInBounds_toArray, List.set_cons_succ, List.set_cons_zero]
        apply ls_skip rfl
        simp only [Act.put, List.setIfInBounds_toArray, List.set_cons_succ, List.set_cons_zero]
        apply ls_skip rfl
        simp only [Act.put, List.setIfInBounds_toArray, List.set_cons_succ, List.set_cons_zero]
        apply ls_skip rfl
        simp only [Act.put, List.setIfInBounds_toArray, List.set_cons_succ, List.set_cons_zero]
        apply ls_skip rfl
        simp only [Act.put, List.setIfInBounds_toArray, List.set_cons_succ, List.set_cons_zero]
        apply ls_skip rfl
        simp only [Act.put, List.setIfInBounds_toArray, List.set_cons_succ, List.set_cons_zero]
        apply ls_skip rfl
        simp only [Act.put, List.setIfInBounds_toArray, List.set_cons_succ, List.set_cons_zero]
        apply ls_skip rfl
        simp only [Act.put, List.setIfInBounds_toArray, List.set_cons_succ, List.set_cons_zero]
        apply ls_skip rfl
        simp only [Act.put, List.setIfInBounds_toArray, List.set_cons_succ, List.set_cons_zero]
        apply ls_pure (.bool false) rfl (by intro W; go_simp)
        simp only [Act.put, List.setIfInBounds_toArray, List.set_cons_succ, List.set_cons_zero]
        apply ls_assign (.int .i64 (b : Int)) (.tmp 35) rfl rfl rfl
        simp only [Act.put, List.setIfInBounds_toArray, List.set_cons_succ, List.set_cons_zero]
        apply ls_assign (.bool false) (.tmp 48) rfl rfl rfl
        simp only [Act.put, List.setIfInBounds_toArray, List.set_cons_succ, List.set_cons_zero]
        refine ls_nil (Rs := []) ?_
        intro w4 b4
        have HB4 := Lib.hid (HH.out.2.2.1.then_ (HBE.out.then_ b4))
        clear b4 hbe
        go_wp2_with fail
        go_ret2
        exact ⟨by rw [HQ.out, HF.out]; rfl, HB4.out⟩
set_option maxHeartbeats 4000000 in
set_option maxRecDepth 100000 in
theorem find_calls (A : Option Addr) (n c : Nat) (xs : List Slt) (p : Pr) (w : World) (hx : Sls w A n c xs) (hnb : n ≤ 1000000) (hr : Rise xs) : Calls Tryd.prog 39 #[.slice A n c, prV p] w fun e w' => e = .returned (.tuple #[.int .i64 (posF xs p : Int), .bool (foundF xs p)]) ∧ Below w.heap.size w w' := by
  go_enter Tryd.func39, Tryd.ntmps39
  unfold prV
  go_wp2_with fail
  refine (search_calls A n c xs p _ (hx.below ((Below.refl _ _).alloc (Nat.le_refl _) _)) hnb hr).mono ?_
  rintro e w1 ⟨rfl, b1⟩
  have hb := Below.of_alloc b1
  clear b1
  go_wp2_with fail
  go_ret2
  exact ⟨rfl, hb⟩
end Go.Proofs.YtpleminoiodmgaaDoor
namespace Go.Proofs.YtpleminoiodmgaaDoor
open Go.ChangeShapes Go.WideShapes Go.ChangeAt Go.RowKit Go.IntWalk
set_option linter.unusedVariables false

/-- Each slot stands below the next one. -/
def Steps (xs : List Slt) : Prop := ∀ j, ∀ h : j + 1 < xs.length, cmpP (xs[j]).pr (xs[j + 1]).pr = -1
theorem Steps.rise : ∀ {xs : List Slt}, Steps xs → Rise xs
  | [], _ => List.Pairwise.nil
  | s :: l, h => by
    have hl : Steps l := fun j hj => by have := h (j + 1) (by simpa using hj); simpa using this
    refine List.pairwise_cons.2 ⟨fun x hx => ?_, Steps.rise hl⟩
    match l, h, hl, hx with
    | y :: l2, h, hl, hx =>
      have h0 : cmpP s.pr y.pr = -1 := by have := h 0 (by simp); simpa using this
      rcases List.mem_cons.1 hx with rfl | hx
      · exact h0
      · exact cmpP_trans h0 ((List.pairwise_cons.1 (Steps.rise hl)).1 x hx)
theorem Steps.of_rise {xs : List Slt} (h : Rise xs) : Steps xs := fun j hj => rise_at h (Nat.lt_succ_self j) hj
/-- A slot of a slice, whole, in a later world. -/
theorem slot_row {w wr : World} {A : Option Addr} {xs : List Slt} (h : RV w A (slC xs)) (hb : Below w.heap.size w wr) {k : Nat} (hk : k < xs.length) : ∃ b off, A = some ⟨b, off, none⟩ ∧ b < wr.heap.size ∧
    wr.rangeAt b (off + k * 3) [.string ⟨(xs[k]).t.toArray⟩, .string ⟨(xs[k]).k.toArray⟩, .string ⟨(xs[k]).i.toArray⟩] := by
  obtain ⟨b, off, e, hb0, k0, k1, k2⟩ := slots_at h hk
  refine ⟨b, off, e, Nat.lt_of_lt_of_le hb0 hb.size, fun j v hj => ?_⟩
  rw [hb.cell (p := ⟨b, off + k * 3 + j, none⟩) hb0]
  match j, hj with
  | 0, hj => cases hj; exact k0
  | 1, hj => cases hj; exact k1
  | 2, hj => cases hj; exact k2
theorem slot_rows {w wr : World} {A : Option Addr} {xs : List Slt} (h : RV w A (slC xs)) (hb : Below w.heap.size w wr) {k : Nat} (hk : k + 1 < xs.length) : ∃ b off, A = some ⟨b, off, none⟩ ∧ b < wr.heap.size ∧
    wr.rangeAt b (off + k * 3) [.string ⟨(xs[k]).t.toArray⟩, .string ⟨(xs[k]).k.toArray⟩, .string ⟨(xs[k]).i.toArray⟩] ∧
    wr.rangeAt b (off + (k + 1) * 3) [.string ⟨(xs[k + 1]).t.toArray⟩, .string ⟨(xs[k + 1]).k.toArray⟩, .string ⟨(xs[k + 1]).i.toArray⟩] := by
  obtain ⟨b, off, e, h1, h2⟩ := slot_row h hb (Nat.lt_of_succ_lt hk)
  obtain ⟨b3, off3, e3, _, h4⟩ := slot_row h hb hk
  rw [e] at e3
  injection e3 with e3; injection e3 with e3 e4
  subst e3; subst e4
  exact ⟨b, off, e, h1, h2, h4⟩
theorem Steps.at_ {xs : List Slt} {q : Nat} {x y : Slt} (h : Steps xs) (hx : xs[q]? = some x) (hy : xs[q + 1]? = some y) : cmpP x.pr y.pr = -1 := by
  obtain ⟨h2, e2⟩ := List.getElem?_eq_some_iff.1 hy
  obtain ⟨h1, e1⟩ := List.getElem?_eq_some_iff.1 hx
  have := h q h2
  rwa [e1, e2] at this
theorem step_eq {xs : List Slt} {q : Nat} {x y : Slt} (hx : xs[q]? = some x) (hy : xs[q + 1]? = some y) (h : cmpP x.pr y.pr = -1) (hq : q + 1 < xs.length) : cmpP (xs[q]).pr (xs[q + 1]).pr = -1 := by
  obtain ⟨h2, e2⟩ := List.getElem?_eq_some_iff.1 hy
  obtain ⟨h1, e1⟩ := List.getElem?_eq_some_iff.1 hx
  rw [e1, e2]; exact h
def GoodPost (xs : List Slt) (w : World) (e : Ending) (w' : World) : Prop := ∃ r, e = .returned (.bool r) ∧ (r = true ↔ Steps xs) ∧ Below w.heap.size w w'
set_option maxHeartbeats 4000000 in
set_option maxRecDepth 100000 in
theorem refGood_calls (A : Option Addr) (n c : Nat) (xs : List Slt) (w : World) (hx : Sls w A n c xs) : Calls Tryd.prog 11 #[.slice A n c] w (GoodPost xs w) := by
  obtain ⟨hrv, hn, hnc, hc63, hok⟩ := hx
  have hnm : n ≤ 9223372036854775807 := Nat.le_trans hnc hc63
  have HH := Lib.hid (And.intro hrv hn.out)
  clear hrv hn hok
  go_enter Tryd.func11, Tryd.ntmps11
  go_wp2_with fail
  go_loopw [6] (fun i wr => ∃ k : Nat, k ≤ n ∧ i = .int .i64 (k : Int) ∧ (∀ j, ∀ h : j + 1 < xs.length, j + 1 < k → cmpP (xs[j]).pr (xs[j + 1]).pr = -1) ∧ Below w.heap.size w wr) (fun i _ => n - (intOf i).toNat)
  case atStart => exact ⟨0, Nat.zero_le _, rfl, fun j _ h => absurd h (by omega), Below.refl _ _⟩
  case round =>
    obtain ⟨k, hk, rfl, hst, hbe⟩ := hrel
    have HS := Lib.hid (And.intro hst hbe)
    clear hst
    by_cases hp : k < n
    · cases k with
      | zero =>
        go_upto_region 4 with fail
        apply wp_region_ls (by kernel_rfl) (by kernel_rfl)
        apply ls_move (.int .i64 0) (.tmp 3) rfl rfl rfl
        simp only [Act.put, List.setIfInBounds_toArray, List.set_cons_succ, List.set_cons_zero]
        apply ls_pure (.bool false) rfl (by intro W; go_simp)
        simp only [Act.put, List.setIfInBounds_toArray, List.set_cons_succ, List.set_cons_zero]
        apply ls_move (.bool false) (.tmp 10) rfl rfl rfl
        simp only [Act.put, List.setIfInBounds_toArray, List.set_cons_succ, List.set_cons_zero]
        apply ls_skip rfl
        simp only [Act.put, List.setIfInBounds_toArray, List.set_cons_succ, List.set_cons_zero]
        apply ls_skip rfl
        simp only [Act.put, List.setIfInBounds_toArray, List.set_cons_succ, List.set_cons_zero]
        apply ls_skip rfl
        simp only [Act.put, List.setIfInBounds_toArray, List.set_cons_succ, List.set_cons_zero]
        apply ls_skip rfl
        simp only [Act.put, List.setIfInBounds_toArray, List.set_cons_succ, List.set_cons_zero]
        apply ls_skip rfl
        simp only [Act.put, List.setIfInBounds_toArray, List.set_cons_succ, List.set_cons_zero]
        apply ls_skip rfl
        simp only [Act.put, List.setIfInBounds_toArray, List.set_cons_succ, List.set_cons_zero]
        apply ls_skip rfl
        simp only [Act.put, List.setIfInBounds_toArray, List.set_cons_succ, List.set_cons_zero]
        apply ls_skip rfl
        simp only [Act.put, List.setIfInBounds_toArray, List.set_cons_succ, List.set_cons_zero]
        apply ls_skip rfl
        simp only [Act.put, List.setIfInBounds_toArray, List.set_cons_succ, List.set_cons_zero]
        apply ls_skip rfl
        simp only [Act.put, List.setIfInBounds_toArray, List.set_cons_succ, List.set_cons_zero]
        apply ls_skip rfl
        simp only [Act.put, List.setIfInBounds_toArray, List.set_cons_succ, List.set_cons_zero]
        apply ls_skip rfl
        simp only [Act.put, List.setIfInBounds_toArray, List.set_cons_succ, List.set_cons_zero]
        apply ls_skip rfl
        simp only [Act.put, List.setIfInBounds_toArray, List.set_cons_succ, List.set_cons_zero]
        apply ls_pure (.bool false) rfl (by intro W; go_simp)
        simp only [Act.put, List.setIfInBounds_toArray, List.set_cons_succ, List.set_cons_zero]
        refine ls_nil (Rs := []) ?_
        intro w4 b4
        have HB4 := Lib.hid (HS.out.2.then_ b4)
        clear b4 hbe
        go_wp2_with fail
        exact ⟨⟨1, by omega, by go_num, fun j _ h => absurd h (by omega), HB4.out⟩, by simp [intOf]; omega⟩
      | succ q =>
        have hk2 : q + 1 < xs.length := by rw [← HH.out.2]; exact hp
        obtain ⟨b0, off, rfl, hb0, r0, r1⟩ := slot_rows HH.out.1 hbe hk2
        obtain ⟨x, hxx⟩ : ∃ x, xs[q] = x := ⟨_, rfl⟩
        obtain ⟨y, hyy⟩ : ∃ y, xs[q + 1] = y := ⟨_, rfl⟩
        rw [hxx] at r0
        rw [hyy] at r1
        obtain ⟨xt, xk, xi⟩ := x
        obtain ⟨yt, yk, yi⟩ := y
        dsimp only at r0 r1
        have HXY : Hid (xs[q]? = some ⟨xt, xk, xi⟩ ∧ xs[q + 1]? = some ⟨yt, yk, yi⟩) := Lib.hid ⟨by rw [List.getElem?_eq_getElem (Nat.lt_of_succ_lt hk2), hxx], by rw [List.getElem?_eq_getElem hk2, hyy]⟩
        clear hxx hyy hk2
        obtain ⟨z, hz⟩ : ∃ z, cmpP (xt, xk) (yt, yk) = z := ⟨_, rfl⟩
        have HC : Hid (∀ W, Calls Tryd.prog 25 #[prV (xt, xk), prV (yt, yk)] W fun e w' => e = .returned (.bool (decide (z = -1))) ∧ Below W.heap.size W w') := Lib.hid (fun W => by rw [← hz]; exact less_calls _ _ W)
        have HZ := Lib.hid hz
        obtain ⟨tb, htb⟩ : ∃ tb, (!decide (z = -1)) = tb := ⟨_, rfl⟩
        have HT := Lib.hid htb
        clear hz htb
        have hq1 : ¬ n ≤ q := by omega
        have hq2 : ¬ ((q : Int) + 1 < 0) := by omega
        have hqw := wraps_i64 (q : Int) (by omega) (by omega)
        go_upto_region 4 with fail
        apply wp_region_ls (by kernel_rfl) (by kernel_rfl)
        apply ls_move (.int .i64 ((q + 1 : Nat) : Int)) (.tmp 3) rfl rfl rfl
        simp only [Act.put, List.setIfInBounds_toArray, List.set_cons_succ, List.set_cons_zero]
        apply ls_pure (.bool true) rfl (by intro W; go_simp)
        simp only [Act.put, List.setIfInBounds_toArray, List.set_cons_succ, List.set_cons_zero]
        apply ls_move (.bool true) (.tmp 10) rfl rfl rfl
        simp only [Act.put, List.setIfInBounds_toArray, List.set_cons_succ, List.set_cons_zero]
        apply ls_move (.slice (some ⟨b0, off, none⟩) n c) (.tmp 0) rfl rfl rfl
        simp only [Act.put, List.setIfInBounds_toArray, List.set_cons_succ, List.set_cons_zero]
        apply ls_move (.int .i64 ((q + 1 : Nat) : Int)) (.tmp 3) rfl rfl rfl
        simp only [Act.put, List.setIfInBounds_toArray, List.set_cons_succ, List.set_cons_zero]
        apply ls_pure (.int .i64 (q : Int)) rfl (by intro W; go_simp)
        simp only [Act.put, List.setIfInBounds_toArray, List.set_cons_succ, List.set_cons_zero]
        apply ls_pure (.pointer (some ⟨b0, off + q * 3, none⟩)) rfl (by intro W; go_simp)
        simp only [Act.put, List.setIfInBounds_toArray, List.set_cons_succ, List.set_cons_zero]
        apply ls_load 52 (.tmp 15) rfl b0 (off + q * 3) _ _ r0 hb0 Tryd.underlying52 rfl size_slot rfl rfl
        simp only [Act.put, List.setIfInBounds_toArray, List.set_cons_succ, List.set_cons_zero]
        apply ls_callx (prV (xt, xk)) 26 #[Slt.val ⟨xt, xk, xi⟩] rfl (by intro W; go_simp; rfl) (fun W => of_calls ⟨xt, xk, xi⟩ W)
        simp only [Act.put, List.setIfInBounds_toArray, List.set_cons_succ, List.set_cons_zero]
        apply ls_move (.slice (some ⟨b0, off, none⟩) n c) (.tmp 0) rfl rfl rfl
        simp only [Act.put, List.setIfInBounds_toArray, List.set_cons_succ, List.set_cons_zero]
        apply ls_move (.int .i64 ((q + 1 : Nat) : Int)) (.tmp 3) rfl rfl rfl
        simp only [Act.put, List.setIfInBounds_toArray, List.set_cons_succ, List.set_cons_zero]
        apply ls_pure (.pointer (some ⟨b0, off + (q + 1) * 3, none⟩)) rfl (by intro W; go_simp)
        simp only [Act.put, List.setIfInBounds_toArray, List.set_cons_succ, List.set_cons_zero]
        apply ls_load 52 (.tmp 20) rfl b0 (off + (q + 1) * 3) _ _ r1 hb0 Tryd.underlying52 rfl size_slot rfl rfl
        simp only [Act.put, List.setIfInBounds_toArray, List.set_cons_succ, List.set_cons_zero]
        apply ls_callx (prV (yt, yk)) 26 #[Slt.val ⟨yt, yk, yi⟩] rfl (by intro W; go_simp; rfl) (fun W => of_calls ⟨yt, yk, yi⟩ W)
        simp only [Act.put, List.setIfInBounds_toArray, List.set_cons_succ, List.set_cons_zero]
        apply ls_callx (.bool (decide (z = -1))) 25 #[prV (xt, xk), prV (yt, yk)] rfl (by intro W; go_simp) (fun W => HC.out W)
        simp only [Act.put, List.setIfInBounds_toArray, List.set_cons_succ, List.set_cons_zero]
        apply ls_pure (.bool tb) rfl (by intro W; rw [← HT.out]; go_simp)
        simp only [Act.put, List.setIfInBounds_toArray, List.set_cons_succ, List.set_cons_zero]
        apply ls_pure (.bool tb) rfl (by intro W; go_simp)
        simp only [Act.put, List.setIfInBounds_toArray, List.set_cons_succ, List.set_cons_zero]
        refine ls_nil (Rs := []) ?_
        intro w4 b4
        have HB4 := Lib.hid (HS.out.2.then_ b4)
        clear r0 r1 b4 hbe hq1 hq2 hqw
        cases tb with
        | true =>
          go_wp2_with fail
          go_ret
          refine ⟨false, rfl, ⟨fun h => (by cases h), fun h => ?_⟩, HB4.out⟩
          exfalso
          have h1 : cmpP (xt, xk) (yt, yk) = -1 := h.at_ HXY.out.1 HXY.out.2
          have h2 : z = -1 := HZ.out.symm.trans h1
          have h3 := HT.out
          rw [h2] at h3
          exact absurd h3 (by decide)
        | false =>
          go_wp2_with fail
          refine ⟨⟨q + 1 + 1, by omega, by go_num, fun j hj h => ?_, HB4.out⟩, by simp [intOf]; omega⟩
          rcases Nat.lt_or_ge j q with h1 | h1
          · exact HS.out.1 j hj (by omega)
          · obtain rfl : j = q := by omega
            refine step_eq HXY.out.1 HXY.out.2 ?_ hj
            show cmpP (xt, xk) (yt, yk) = -1
            have h3 := HT.out
            have h2 : cmpP (xt, xk) (yt, yk) = z := HZ.out
            rcases cmpP_three (xt, xk) (yt, yk) with h4 | h4 | h4
            · exact h4
            · rw [← h2, h4] at h3; exact absurd h3 (by decide)
            · rw [← h2, h4] at h3; exact absurd h3 (by decide)
    · have hkn : k = n := by omega
      subst hkn
      go_wp2_with fail
      go_ret
      exact ⟨true, rfl, ⟨fun _ j hj => HS.out.1 j hj (by have := HH.out.2; omega), fun _ => rfl⟩, HS.out.2⟩
end Go.Proofs.YtpleminoiodmgaaDoor
