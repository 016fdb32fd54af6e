/- Layer 16: whether slots are a state, walked: the program's and the document's. -/
import Derived.Test.YtpleminoiodmgaaPkE
namespace Go.Proofs.Ytpleminoiodmgaa
open Go.ChangeShapes Go.WideShapes Go.ChangeAt Go.RowKit Go.IntWalk
set_option linter.unusedVariables false

/-- Each slot stands below the next one. -/
def Steps (xs : List Slt) : Prop := ∀ j, ∀ h : j + 1 < xs.length, cmpP (xs[j]).pr (xs[j + 1]).pr = -1
theorem Steps.rise : ∀ {xs : List Slt}, Steps xs → Rise xs
  | [], _ => List.Pairwise.nil
  | s :: l, h => by
    have hl : Steps l := fun j hj => by have := h (j + 1) (by simpa using hj); simpa using this
    refine List.pairwise_cons.2 ⟨fun x hx => ?_, Steps.rise hl⟩
    match l, h, hl, hx with
    | y :: l2, h, hl, hx =>
      have h0 : cmpP s.pr y.pr = -1 := by have := h 0 (by simp); simpa using this
      rcases List.mem_cons.1 hx with rfl | hx
      · exact h0
      · exact cmpP_trans h0 ((List.pairwise_cons.1 (Steps.rise hl)).1 x hx)
theorem Steps.of_rise {xs : List Slt} (h : Rise xs) : Steps xs := fun j hj => rise_at h (Nat.lt_succ_self j) hj
/-- A slot of a slice, whole, in a later world. -/
theorem slot_row {w wr : World} {A : Option Addr} {xs : List Slt} (h : RV w A (slC xs)) (hb : Below w.heap.size w wr) {k : Nat} (hk : k < xs.length) : ∃ b off, A = some ⟨b, off, none⟩ ∧ b < wr.heap.size ∧
    wr.rangeAt b (off + k * 3) [.string ⟨(xs[k]).t.toArray⟩, .string ⟨(xs[k]).k.toArray⟩, .string ⟨(xs[k]).i.toArray⟩] := by
  obtain ⟨b, off, e, hb0, k0, k1, k2⟩ := slots_at h hk
  refine ⟨b, off, e, Nat.lt_of_lt_of_le hb0 hb.size, fun j v hj => ?_⟩
  rw [hb.cell (p := ⟨b, off + k * 3 + j, none⟩) hb0]
  match j, hj with
  | 0, hj => cases hj; exact k0
  | 1, hj => cases hj; exact k1
  | 2, hj => cases hj; exact k2
theorem slot_rows {w wr : World} {A : Option Addr} {xs : List Slt} (h : RV w A (slC xs)) (hb : Below w.heap.size w wr) {k : Nat} (hk : k + 1 < xs.length) : ∃ b off, A = some ⟨b, off, none⟩ ∧ b < wr.heap.size ∧
    wr.rangeAt b (off + k * 3) [.string ⟨(xs[k]).t.toArray⟩, .string ⟨(xs[k]).k.toArray⟩, .string ⟨(xs[k]).i.toArray⟩] ∧
    wr.rangeAt b (off + (k + 1) * 3) [.string ⟨(xs[k + 1]).t.toArray⟩, .string ⟨(xs[k + 1]).k.toArray⟩, .string ⟨(xs[k + 1]).i.toArray⟩] := by
  obtain ⟨b, off, e, h1, h2⟩ := slot_row h hb (Nat.lt_of_succ_lt hk)
  obtain ⟨b3, off3, e3, _, h4⟩ := slot_row h hb hk
  rw [e] at e3
  injection e3 with e3; injection e3 with e3 e4
  subst e3; subst e4
  exact ⟨b, off, e, h1, h2, h4⟩
theorem Steps.at_ {xs : List Slt} {q : Nat} {x y : Slt} (h : Steps xs) (hx : xs[q]? = some x) (hy : xs[q + 1]? = some y) : cmpP x.pr y.pr = -1 := by
  obtain ⟨h2, e2⟩ := List.getElem?_eq_some_iff.1 hy
  obtain ⟨h1, e1⟩ := List.getElem?_eq_some_iff.1 hx
  have := h q h2
  rwa [e1, e2] at this
theorem step_eq {xs : List Slt} {q : Nat} {x y : Slt} (hx : xs[q]? = some x) (hy : xs[q + 1]? = some y) (h : cmpP x.pr y.pr = -1) (hq : q + 1 < xs.length) : cmpP (xs[q]).pr (xs[q + 1]).pr = -1 := by
  obtain ⟨h2, e2⟩ := List.getElem?_eq_some_iff.1 hy
  obtain ⟨h1, e1⟩ := List.getElem?_eq_some_iff.1 hx
  rw [e1, e2]; exact h
def GoodPost (xs : List Slt) (w : World) (e : Ending) (w' : World) : Prop := ∃ r, e = .returned (.bool r) ∧ (r = true ↔ Steps xs) ∧ Below w.heap.size w w'
set_option maxHeartbeats 4000000 in
set_option maxRecDepth 100000 in
theorem good_calls (A : Option Addr) (n c : Nat) (xs : List Slt) (w : World) (hx : Sls w A n c xs) : Calls Try.prog 8 #[.slice A n c] w (GoodPost xs w) := by
  obtain ⟨hrv, hn, hnc, hc63, hok⟩ := hx
  have hnm : n ≤ 9223372036854775807 := Nat.le_trans hnc hc63
  have HH := Lib.hid (And.intro hrv hn.out)
  clear hrv hn hok
  go_enter Try.func8, Try.ntmps8
  go_wp2_with fail
  go_loopw [6] (fun i wr => ∃ k : Nat, k ≤ n ∧ i = .int .i64 (k : Int) ∧ (∀ j, ∀ h : j + 1 < xs.length, j + 1 < k → cmpP (xs[j]).pr (xs[j + 1]).pr = -1) ∧ Below w.heap.size w wr) (fun i _ => n - (intOf i).toNat)
  case atStart => exact ⟨0, Nat.zero_le _, rfl, fun j _ h => absurd h (by omega), Below.refl _ _⟩
  case round =>
    obtain ⟨k, hk, rfl, hst, hbe⟩ := hrel
    have HS := Lib.hid (And.intro hst hbe)
    clear hst
    by_cases hp : k < n
    · cases k with
      | zero =>
        go_upto_region 4 with fail
        apply wp_region_ls (by kernel_rfl) (by kernel_rfl)
        apply ls_move (.int .i64 0) (.tmp 3) rfl rfl rfl
        simp only [Act.put, List.setIfInBounds_toArray, List.set_cons_succ, List.set_cons_zero]
        apply ls_pure (.bool false) rfl (by intro W; go_simp)
        simp only [Act.put, List.setIfInBounds_toArray, List.set_cons_succ, List.set_cons_zero]
        apply ls_move (.bool false) (.tmp 10) rfl rfl rfl
        simp only [Act.put, List.setIfInBounds_toArray, List.set_cons_succ, List.set_cons_zero]
        apply ls_skip rfl
        simp only [Act.put, List.setIfInBounds_toArray, List.set_cons_succ, List.set_cons_zero]
        apply ls_skip rfl
        simp only [Act.put, List.setIfInBounds_toArray, List.set_cons_succ, List.set_cons_zero]
        apply ls_skip rfl
        simp only [Act.put, List.setIfInBounds_toArray, List.set_cons_succ, List.set_cons_zero]
        apply ls_skip rfl
        simp only [Act.put, List.setIfInBounds_toArray, List.set_cons_succ, List.set_cons_zero]
        apply ls_skip rfl
        simp only [Act.put, List.setIfInBounds_toArray, List.set_cons_succ, List.set_cons_zero]
        apply ls_skip rfl
        simp only [Act.put, List.setIfInBounds_toArray, List.set_cons_succ, List.set_cons_zero]
        apply ls_skip rfl
        simp only [Act.put, List.setIfInBounds_toArray, List.set_cons_succ, List.set_cons_zero]
        apply ls_skip rfl
        simp only [Act.put, List.setIfInBounds_toArray, List.set_cons_succ, List.set_cons_zero]
        apply ls_skip rfl
        simp only [Act.put, List.setIfInBounds_toArray, List.set_cons_succ, List.set_cons_zero]
        apply ls_skip rfl
        simp only [Act.put, List.setIfInBounds_toArray, List.set_cons_succ, List.set_cons_zero]
        apply ls_skip rfl
        simp only [Act.put, List.setIfInBounds_toArray, List.set_cons_succ, List.set_cons_zero]
        apply ls_skip rfl
        simp only [Act.put, List.setIfInBounds_toArray, List.set_cons_succ, List.set_cons_zero]
        apply ls_skip rfl
        simp only [Act.put, List.setIfInBounds_toArray, List.set_cons_succ, List.set_cons_zero]
        apply ls_pure (.bool false) rfl (by intro W; go_simp)
        simp only [Act.put, List.setIfInBounds_toArray, List.set_cons_succ, List.set_cons_zero]
        refine ls_nil (Rs := []) ?_
        intro w4 b4
        have HB4 := Lib.hid (HS.out.2.then_ b4)
        clear b4 hbe
        go_wp2_with fail
        exact ⟨⟨1, by omega, by go_num, fun j _ h => absurd h (by omega), HB4.out⟩, by simp [intOf]; omega⟩
      | succ q =>
        have hk2 : q + 1 < xs.length := by rw [← HH.out.2]; exact hp
        obtain ⟨b0, off, rfl, hb0, r0, r1⟩ := slot_rows HH.out.1 hbe hk2
        obtain ⟨x, hxx⟩ : ∃ x, xs[q] = x := ⟨_, rfl⟩
        obtain ⟨y, hyy⟩ : ∃ y, xs[q + 1] = y := ⟨_, rfl⟩
        rw [hxx] at r0
        rw [hyy] at r1
        obtain ⟨xt, xk, xi⟩ := x
        obtain ⟨yt, yk, yi⟩ := y
        dsimp only at r0 r1
        have HXY : Hid (xs[q]? = some ⟨xt, xk, xi⟩ ∧ xs[q + 1]? = some ⟨yt, yk, yi⟩) := Lib.hid ⟨by rw [List.getElem?_eq_getElem (Nat.lt_of_succ_lt hk2), hxx], by rw [List.getElem?_eq_getElem hk2, hyy]⟩
        clear hxx hyy hk2
        obtain ⟨z, hz⟩ : ∃ z, cmpP (xt, xk) (yt, yk) = z := ⟨_, rfl⟩
        have HC : Hid (∀ W, Calls Try.prog 20 #[prV (xt, xk), prV (yt, yk)] W fun e w' => e = .returned (.int .i64 z) ∧ Below W.heap.size W w') := Lib.hid (fun W => by rw [← hz]; exact compare_calls _ _ W)
        have HZ := Lib.hid hz
        obtain ⟨tb, htb⟩ : ∃ tb, decide (0 ≤ z) = tb := ⟨_, rfl⟩
        have HT := Lib.hid htb
        clear hz htb
        have hq1 : ¬ n ≤ q := by omega
        have hq2 : ¬ ((q : Int) + 1 < 0) := by omega
        have hqw := wraps_i64 (q : Int) (by omega) (by omega)
        go_upto_region 4 with fail
        apply wp_region_ls (by kernel_rfl) (by kernel_rfl)
        apply ls_move (.int .i64 ((q + 1 : Nat) : Int)) (.tmp 3) rfl rfl rfl
        simp only [Act.put, List.setIfInBounds_toArray, List.set_cons_succ, List.set_cons_zero]
        apply ls_pure (.bool true) rfl (by intro W; go_simp)
        simp only [Act.put, List.setIfInBounds_toArray, List.set_cons_succ, List.set_cons_zero]
        apply ls_move (.bool true) (.tmp 10) rfl rfl rfl
        simp only [Act.put, List.setIfInBounds_toArray, List.set_cons_succ, List.set_cons_zero]
        apply ls_move (.slice (some ⟨b0, off, none⟩) n c) (.tmp 0) rfl rfl rfl
        simp only [Act.put, List.setIfInBounds_toArray, List.set_cons_succ, List.set_cons_zero]
        apply ls_move (.int .i64 ((q + 1 : Nat) : Int)) (.tmp 3) rfl rfl rfl
        simp only [Act.put, List.setIfInBounds_toArray, List.set_cons_succ, List.set_cons_zero]
        apply ls_pure (.int .i64 (q : Int)) rfl (by intro W; go_simp)
        simp only [Act.put, List.setIfInBounds_toArray, List.set_cons_succ, List.set_cons_zero]
        apply ls_pure (.pointer (some ⟨b0, off + q * 3, none⟩)) rfl (by intro W; go_simp)
        simp only [Act.put, List.setIfInBounds_toArray, List.set_cons_succ, List.set_cons_zero]
        apply ls_load 24 (.tmp 15) rfl b0 (off + q * 3) _ _ r0 hb0 Try.underlying24 rfl size_slot rfl rfl
        simp only [Act.put, List.setIfInBounds_toArray, List.set_cons_succ, List.set_cons_zero]
        apply ls_callx (prV (xt, xk)) 17 #[Slt.val ⟨xt, xk, xi⟩] rfl (by intro W; go_simp; rfl) (fun W => pairOf_calls ⟨xt, xk, xi⟩ W)
        simp only [Act.put, List.setIfInBounds_toArray, List.set_cons_succ, List.set_cons_zero]
        apply ls_move (.slice (some ⟨b0, off, none⟩) n c) (.tmp 0) rfl rfl rfl
        simp only [Act.put, List.setIfInBounds_toArray, List.set_cons_succ, List.set_cons_zero]
        apply ls_move (.int .i64 ((q + 1 : Nat) : Int)) (.tmp 3) rfl rfl rfl
        simp only [Act.put, List.setIfInBounds_toArray, List.set_cons_succ, List.set_cons_zero]
        apply ls_pure (.pointer (some ⟨b0, off + (q + 1) * 3, none⟩)) rfl (by intro W; go_simp)
        simp only [Act.put, List.setIfInBounds_toArray, List.set_cons_succ, List.set_cons_zero]
        apply ls_load 24 (.tmp 20) rfl b0 (off + (q + 1) * 3) _ _ r1 hb0 Try.underlying24 rfl size_slot rfl rfl
        simp only [Act.put, List.setIfInBounds_toArray, List.set_cons_succ, List.set_cons_zero]
        apply ls_callx (prV (yt, yk)) 17 #[Slt.val ⟨yt, yk, yi⟩] rfl (by intro W; go_simp; rfl) (fun W => pairOf_calls ⟨yt, yk, yi⟩ W)
        simp only [Act.put, List.setIfInBounds_toArray, List.set_cons_succ, List.set_cons_zero]
        apply ls_callx (.int .i64 z) 20 #[prV (xt, xk), prV (yt, yk)] rfl (by intro W; go_simp) (fun W => HC.out W)
        simp only [Act.put, List.setIfInBounds_toArray, List.set_cons_succ, List.set_cons_zero]
        apply ls_pure (.bool tb) rfl (by intro W; rw [← HT.out]; go_simp)
        simp only [Act.put, List.setIfInBounds_toArray, List.set_cons_succ, List.set_cons_zero]
        apply ls_pure (.bool tb) rfl (by intro W; go_simp)
        simp only [Act.put, List.setIfInBounds_toArray, List.set_cons_succ, List.set_cons_zero]
        refine ls_nil (Rs := []) ?_
        intro w4 b4
        have HB4 := Lib.hid (HS.out.2.then_ b4)
        clear r0 r1 b4 hbe hq1 hq2 hqw
        cases tb with
        | true =>
          go_wp2_with fail
          go_ret
          refine ⟨false, rfl, ⟨fun h => (by cases h), fun h => ?_⟩, HB4.out⟩
          exfalso
          have h1 : cmpP (xt, xk) (yt, yk) = -1 := h.at_ HXY.out.1 HXY.out.2
          have h2 : z = -1 := HZ.out.symm.trans h1
          have h3 := HT.out
          rw [h2] at h3
          exact absurd h3 (by decide)
        | false =>
          go_wp2_with fail
          refine ⟨⟨q + 1 + 1, by omega, by go_num, fun j hj h => ?_, HB4.out⟩, by simp [intOf]; omega⟩
          rcases Nat.lt_or_ge j q with h1 | h1
          · exact HS.out.1 j hj (by omega)
          · obtain rfl : j = q := by omega
            refine step_eq HXY.out.1 HXY.out.2 ?_ hj
            show cmpP (xt, xk) (yt, yk) = -1
            have h3 := HT.out
            have h2 : cmpP (xt, xk) (yt, yk) = z := HZ.out
            rcases cmpP_three (xt, xk) (yt, yk) with h4 | h4 | h4
            · exact h4
            · rw [← h2, h4] at h3; exact absurd h3 (by decide)
            · rw [← h2, h4] at h3; exact absurd h3 (by decide)
    · have hkn : k = n := by omega
      subst hkn
      go_wp2_with fail
      go_ret
      exact ⟨true, rfl, ⟨fun _ j hj => HS.out.1 j hj (by have := HH.out.2; omega), fun _ => rfl⟩, HS.out.2⟩
set_option maxHeartbeats 4000000 in
set_option maxRecDepth 100000 in
theorem refGood_calls (A : Option Addr) (n c : Nat) (xs : List Slt) (w : World) (hx : Sls w A n c xs) : Calls Try.prog 9 #[.slice A n c] w (GoodPost xs w) := by
  obtain ⟨hrv, hn, hnc, hc63, hok⟩ := hx
  have hnm : n ≤ 9223372036854775807 := Nat.le_trans hnc hc63
  have HH := Lib.hid (And.intro hrv hn.out)
  clear hrv hn hok
  go_enter Try.func9, Try.ntmps9
  go_wp2_with fail
  go_loopw [6] (fun i wr => ∃ k : Nat, k ≤ n ∧ i = .int .i64 (k : Int) ∧ (∀ j, ∀ h : j + 1 < xs.length, j + 1 < k → cmpP (xs[j]).pr (xs[j + 1]).pr = -1) ∧ Below w.heap.size w wr) (fun i _ => n - (intOf i).toNat)
  case atStart => exact ⟨0, Nat.zero_le _, rfl, fun j _ h => absurd h (by omega), Below.refl _ _⟩
  case round =>
    obtain ⟨k, hk, rfl, hst, hbe⟩ := hrel
    have HS := Lib.hid (And.intro hst hbe)
    clear hst
    by_cases hp : k < n
    · cases k with
      | zero =>
        go_upto_region 4 with fail
        apply wp_region_ls (by kernel_rfl) (by kernel_rfl)
        apply ls_move (.int .i64 0) (.tmp 3) rfl rfl rfl
        simp only [Act.put, List.setIfInBounds_toArray, List.set_cons_succ, List.set_cons_zero]
        apply ls_pure (.bool false) rfl (by intro W; go_simp)
        simp only [Act.put, List.setIfInBounds_toArray, List.set_cons_succ, List.set_cons_zero]
        apply ls_move (.bool false) (.tmp 10) rfl rfl rfl
        simp only [Act.put, List.setIfInBounds_toArray, List.set_cons_succ, List.set_cons_zero]
        apply ls_skip rfl
        simp only [Act.put, List.setIfInBounds_toArray, List.set_cons_succ, List.set_cons_zero]
        apply ls_skip rfl
        simp only [Act.put, List.setIfInBounds_toArray, List.set_cons_succ, List.set_cons_zero]
        apply ls_skip rfl
        simp only [Act.put, List.setIfInBounds_toArray, List.set_cons_succ, List.set_cons_zero]
        apply ls_skip rfl
        simp only [Act.put, List.setIfInBounds_toArray, List.set_cons_succ, List.set_cons_zero]
        apply ls_skip rfl
        simp only [Act.put, List.setIfInBounds_toArray, List.set_cons_succ, List.set_cons_zero]
        apply ls_skip rfl
        simp only [Act.put, List.setIfInBounds_toArray, List.set_cons_succ, List.set_cons_zero]
        apply ls_skip rfl
        simp only [Act.put, List.setIfInBounds_toArray, List.set_cons_succ, List.set_cons_zero]
        apply ls_skip rfl
        simp only [Act.put, List.setIfInBounds_toArray, List.set_cons_succ, List.set_cons_zero]
        apply ls_skip rfl
        simp only [Act.put, List.setIfInBounds_toArray, List.set_cons_succ, List.set_cons_zero]
        apply ls_skip rfl
        simp only [Act.put, List.setIfInBounds_toArray, List.set_cons_succ, List.set_cons_zero]
        apply ls_skip rfl
        simp only [Act.put, List.setIfInBounds_toArray, List.set_cons_succ, List.set_cons_zero]
        apply ls_skip rfl
        simp only [Act.put, List.setIfInBounds_toArray, List.set_cons_succ, List.set_cons_zero]
        apply ls_skip rfl
        simp only [Act.put, List.setIfInBounds_toArray, List.set_cons_succ, List.set_cons_zero]
        apply ls_pure (.bool false) rfl (by intro W; go_simp)
        simp only [Act.put, List.setIfInBounds_toArray, List.set_cons_succ, List.set_cons_zero]
        refine ls_nil (Rs := []) ?_
        intro w4 b4
        have HB4 := Lib.hid (HS.out.2.then_ b4)
        clear b4 hbe
        go_wp2_with fail
        exact ⟨⟨1, by omega, by go_num, fun j _ h => absurd h (by omega), HB4.out⟩, by simp [intOf]; omega⟩
      | succ q =>
        have hk2 : q + 1 < xs.length := by rw [← HH.out.2]; exact hp
        obtain ⟨b0, off, rfl, hb0, r0, r1⟩ := slot_rows HH.out.1 hbe hk2
        obtain ⟨x, hxx⟩ : ∃ x, xs[q] = x := ⟨_, rfl⟩
        obtain ⟨y, hyy⟩ : ∃ y, xs[q + 1] = y := ⟨_, rfl⟩
        rw [hxx] at r0
        rw [hyy] at r1
        obtain ⟨xt, xk, xi⟩ := x
        obtain ⟨yt, yk, yi⟩ := y
        dsimp only at r0 r1
        have HXY : Hid (xs[q]? = some ⟨xt, xk, xi⟩ ∧ xs[q + 1]? = some ⟨yt, yk, yi⟩) := Lib.hid ⟨by rw [List.getElem?_eq_getElem (Nat.lt_of_succ_lt hk2), hxx], by rw [List.getElem?_eq_getElem hk2, hyy]⟩
        clear hxx hyy hk2
        obtain ⟨z, hz⟩ : ∃ z, cmpP (xt, xk) (yt, yk) = z := ⟨_, rfl⟩
        have HC : Hid (∀ W, Calls Try.prog 21 #[prV (xt, xk), prV (yt, yk)] W fun e w' => e = .returned (.bool (decide (z = -1))) ∧ Below W.heap.size W w') := Lib.hid (fun W => by rw [← hz]; exact less_calls _ _ W)
        have HZ := Lib.hid hz
        obtain ⟨tb, htb⟩ : ∃ tb, (!decide (z = -1)) = tb := ⟨_, rfl⟩
        have HT := Lib.hid htb
        clear hz htb
        have hq1 : ¬ n ≤ q := by omega
        have hq2 : ¬ ((q : Int) + 1 < 0) := by omega
        have hqw := wraps_i64 (q : Int) (by omega) (by omega)
        go_upto_region 4 with fail
        apply wp_region_ls (by kernel_rfl) (by kernel_rfl)
        apply ls_move (.int .i64 ((q + 1 : Nat) : Int)) (.tmp 3) rfl rfl rfl
        simp only [Act.put, List.setIfInBounds_toArray, List.set_cons_succ, List.set_cons_zero]
        apply ls_pure (.bool true) rfl (by intro W; go_simp)
        simp only [Act.put, List.setIfInBounds_toArray, List.set_cons_succ, List.set_cons_zero]
        apply ls_move (.bool true) (.tmp 10) rfl rfl rfl
        simp only [Act.put, List.setIfInBounds_toArray, List.set_cons_succ, List.set_cons_zero]
        apply ls_move (.slice (some ⟨b0, off, none⟩) n c) (.tmp 0) rfl rfl rfl
        simp only [Act.put, List.setIfInBounds_toArray, List.set_cons_succ, List.set_cons_zero]
        apply ls_move (.int .i64 ((q + 1 : Nat) : Int)) (.tmp 3) rfl rfl rfl
        simp only [Act.put, List.setIfInBounds_toArray, List.set_cons_succ, List.set_cons_zero]
        apply ls_pure (.int .i64 (q : Int)) rfl (by intro W; go_simp)
        simp only [Act.put, List.setIfInBounds_toArray, List.set_cons_succ, List.set_cons_zero]
        apply ls_pure (.pointer (some ⟨b0, off + q * 3, none⟩)) rfl (by intro W; go_simp)
        simp only [Act.put, List.setIfInBounds_toArray, List.set_cons_succ, List.set_cons_zero]
        apply ls_load 24 (.tmp 15) rfl b0 (off + q * 3) _ _ r0 hb0 Try.underlying24 rfl size_slot rfl rfl
        simp only [Act.put, List.setIfInBounds_toArray, List.set_cons_succ, List.set_cons_zero]
        apply ls_callx (prV (xt, xk)) 10 #[Slt.val ⟨xt, xk, xi⟩] rfl (by intro W; go_simp; rfl) (fun W => of_calls ⟨xt, xk, xi⟩ W)
        simp only [Act.put, List.setIfInBounds_toArray, List.set_cons_succ, List.set_cons_zero]
        apply ls_move (.slice (some ⟨b0, off, none⟩) n c) (.tmp 0) rfl rfl rfl
        simp only [Act.put, List.setIfInBounds_toArray, List.set_cons_succ, List.set_cons_zero]
        apply ls_move (.int .i64 ((q + 1 : Nat) : Int)) (.tmp 3) rfl rfl rfl
        simp only [Act.put, List.setIfInBounds_toArray, List.set_cons_succ, List.set_cons_zero]
        apply ls_pure (.pointer (some ⟨b0, off + (q + 1) * 3, none⟩)) rfl (by intro W; go_simp)
        simp only [Act.put, List.setIfInBounds_toArray, List.set_cons_succ, List.set_cons_zero]
        apply ls_load 24 (.tmp 20) rfl b0 (off + (q + 1) * 3) _ _ r1 hb0 Try.underlying24 rfl size_slot rfl rfl
        simp only [Act.put, List.setIfInBounds_toArray, List.set_cons_succ, List.set_cons_zero]
        apply ls_callx (prV (yt, yk)) 10 #[Slt.val ⟨yt, yk, yi⟩] rfl (by intro W; go_simp; rfl) (fun W => of_calls ⟨yt, yk, yi⟩ W)
        simp only [Act.put, List.setIfInBounds_toArray, List.set_cons_succ, List.set_cons_zero]
        apply ls_callx (.bool (decide (z = -1))) 21 #[prV (xt, xk), prV (yt, yk)] rfl (by intro W; go_simp) (fun W => HC.out W)
        simp only [Act.put, List.setIfInBounds_toArray, List.set_cons_succ, List.set_cons_zero]
        apply ls_pure (.bool tb) rfl (by intro W; rw [← HT.out]; go_simp)
        simp only [Act.put, List.setIfInBounds_toArray, List.set_cons_succ, List.set_cons_zero]
        apply ls_pure (.bool tb) rfl (by intro W; go_simp)
        simp only [Act.put, List.setIfInBounds_toArray, List.set_cons_succ, List.set_cons_zero]
        refine ls_nil (Rs := []) ?_
        intro w4 b4
        have HB4 := Lib.hid (HS.out.2.then_ b4)
        clear r0 r1 b4 hbe hq1 hq2 hqw
        cases tb with
        | true =>
          go_wp2_with fail
          go_ret
          refine ⟨false, rfl, ⟨fun h => (by cases h), fun h => ?_⟩, HB4.out⟩
          exfalso
          have h1 : cmpP (xt, xk) (yt, yk) = -1 := h.at_ HXY.out.1 HXY.out.2
          have h2 : z = -1 := HZ.out.symm.trans h1
          have h3 := HT.out
          rw [h2] at h3
          exact absurd h3 (by decide)
        | false =>
          go_wp2_with fail
          refine ⟨⟨q + 1 + 1, by omega, by go_num, fun j hj h => ?_, HB4.out⟩, by simp [intOf]; omega⟩
          rcases Nat.lt_or_ge j q with h1 | h1
          · exact HS.out.1 j hj (by omega)
          · obtain rfl : j = q := by omega
            refine step_eq HXY.out.1 HXY.out.2 ?_ hj
            show cmpP (xt, xk) (yt, yk) = -1
            have h3 := HT.out
            have h2 : cmpP (xt, xk) (yt, yk) = z := HZ.out
            rcases cmpP_three (xt, xk) (yt, yk) with h4 | h4 | h4
            · exact h4
            · rw [← h2, h4] at h3; exact absurd h3 (by decide)
            · rw [← h2, h4] at h3; exact absurd h3 (by decide)
    · have hkn : k = n := by omega
      subst hkn
      go_wp2_with fail
      go_ret
      exact ⟨true, rfl, ⟨fun _ j hj => HS.out.1 j hj (by have := HH.out.2; omega), fun _ => rfl⟩, HS.out.2⟩
end Go.Proofs.Ytpleminoiodmgaa
