/- Layer 16: a pair's name; how long slots are; whether two states are the same: walked. -/
import Derived.Test.YtpleminoiodmgaaPkF
namespace Go.Proofs.Ytpleminoiodmgaa
open Go.ChangeShapes Go.WideShapes Go.ChangeAt Go.RowKit Go.IntWalk
set_option linter.unusedVariables false

theorem getF_at {xs : List Slt} {p : Pr} {k : Nat} {x : Slt} (hx : xs[k]? = some x) (hp : x.pr = p) (hn : ∀ j, ∀ h : j < xs.length, j < k → (xs[j]).pr ≠ p) : getF xs p = (x.i, true) := by
  obtain ⟨hk, e⟩ := List.getElem?_eq_some_iff.1 hx
  have : xs.find? (fun s => decide (s.pr = p)) = some x := by
    rw [List.find?_eq_some_iff_getElem]
    exact ⟨by simp [hp], k, hk, e, fun j hj => by simpa using hn j (by omega) hj⟩
  unfold getF
  rw [this]
theorem getF_no {xs : List Slt} {p : Pr} (hn : ∀ j, ∀ h : j < xs.length, (xs[j]).pr ≠ p) : getF xs p = ([], false) := by
  have : xs.find? (fun s => decide (s.pr = p)) = none := by
    rw [List.find?_eq_none]
    intro x hx
    obtain ⟨j, hj, rfl⟩ := List.getElem_of_mem hx
    simpa using hn j hj
  unfold getF
  rw [this]
def GetPost (xs : List Slt) (p : Pr) (w : World) (e : Ending) (w' : World) : Prop := e = .returned (.tuple #[strV (getF xs p).1, .bool (getF xs p).2]) ∧ Below w.heap.size w w'
set_option maxHeartbeats 4000000 in
set_option maxRecDepth 100000 in
theorem get_calls (A : Option Addr) (n c : Nat) (xs : List Slt) (p : Pr) (w : World) (hx : Sls w A n c xs) (hnb : n ≤ 1000000) (hr : Rise xs) : Calls Try.prog 11 #[.slice A n c, prV p] w (GetPost xs p w) := by
  have HG := Lib.hid (getF_pos hr p)
  have HX := Lib.hid (And.intro hx (And.intro hnb hr))
  have hnm : n ≤ 9223372036854775807 := Nat.le_trans hx.2.2.1 hx.2.2.2.1
  clear hnb hx hr
  go_enter Try.func11, Try.ntmps11
  unfold prV
  go_wp2_with fail
  refine (find_calls A n c xs p _ (HX.out.1.below ((Below.refl _ _).alloc (Nat.le_refl _) _)) HX.out.2.1 HX.out.2.2).mono ?_
  rintro e w1 ⟨rfl, b1⟩
  have HB := Lib.hid (Below.of_alloc b1)
  clear b1
  cases hf : foundF xs p with
  | false =>
    rw [hf] at HG
    go_wp2_with fail
    go_ret2
    exact ⟨by rw [HG.out]; rfl, HB.out⟩
  | true =>
    rw [hf] at HG
    obtain ⟨q, hq⟩ : ∃ q, posF xs p = q := ⟨_, rfl⟩
    rw [hq] at HG
    have hqx : q < xs.length := by
      rcases Nat.lt_or_ge q xs.length with h | h
      · exact h
      · unfold foundF at hf; rw [hq, List.getElem?_eq_none h] at hf; cases hf
    have hqn : q < n := by rw [HX.out.1.2.1.out]; exact hqx
    obtain ⟨b0, off, rfl, hb0, r0⟩ := slot_row HX.out.1.1 HB.out hqx
    have c2 := r0 2 _ rfl
    have HI := Lib.hid (show (xs[q]?.map (·.i)).getD [] = (xs[q]).i by rw [List.getElem?_eq_getElem hqx]; rfl)
    obtain ⟨xi, hxi⟩ : ∃ xi, (xs[q]).i = xi := ⟨_, rfl⟩
    rw [hxi] at c2 HI
    clear r0 hxi hqx hf
    rw [hq]
    clear hq
    go_wp2_with fail
    go_ret2
    exact ⟨by rw [HG.out]; simp only [if_true, HI.out]; rfl, HB.out⟩
set_option maxHeartbeats 4000000 in
set_option maxRecDepth 100000 in
theorem refGet_calls (A : Option Addr) (n c : Nat) (xs : List Slt) (p : Pr) (w : World) (hx : Sls w A n c xs) : Calls Try.prog 12 #[.slice A n c, prV p] w (GetPost xs p w) := by
  obtain ⟨hrv, hn, hnc, hc63, hok⟩ := hx
  have hnm : n ≤ 9223372036854775807 := Nat.le_trans hnc hc63
  obtain ⟨p1, p2⟩ := p
  unfold prV
  dsimp only
  go_enter Try.func12, Try.ntmps12
  go_wp2_with fail
  obtain ⟨wa, hwa⟩ : ∃ x, x = w.alloc (.cells #[.string ⟨p1.toArray⟩, .string ⟨p2.toArray⟩] 28) := ⟨_, rfl⟩
  have hpb : Blk wa w.heap.size 28 [.string ⟨p1.toArray⟩, .string ⟨p2.toArray⟩] := by rw [hwa]; exact Blk.new w _ _
  have hrv : RV wa A (slC xs) := by rw [hwa]; exact hrv.alloc _
  have hbw : Below w.heap.size w wa := by rw [hwa]; exact (Below.refl _ _).alloc (Nat.le_refl _) _
  rw [← hwa]
  have HH := Lib.hid (And.intro hrv (And.intro hpb (And.intro hbw hn.out)))
  clear hrv hpb hbw hn hwa hok
  go_loopw [10] (fun i wr => ∃ k : Nat, k ≤ n ∧ i = .int .i64 (k : Int) ∧ (∀ j, ∀ h : j < xs.length, j < k → (xs[j]).pr ≠ (p1, p2)) ∧ Below wa.heap.size wa wr) (fun i _ => n - (intOf i).toNat)
  case atStart => exact ⟨0, Nat.zero_le _, rfl, fun j _ h => absurd h (by omega), Below.refl _ _⟩
  case round =>
    obtain ⟨k, hk, rfl, hst, hbe⟩ := hrel
    have HS := Lib.hid (And.intro hst hbe)
    clear hst
    by_cases hp : k < n
    · have hkx : k < xs.length := by rw [← HH.out.2.2.2]; exact hp
      obtain ⟨b0, off, rfl, hb0, r0⟩ := slot_row HH.out.1 hbe hkx
      have hgx := List.getElem?_eq_getElem hkx
      obtain ⟨x, hxx⟩ : ∃ x, xs[k] = x := ⟨_, rfl⟩
      rw [hxx] at r0 hgx
      obtain ⟨xt, xk, xi⟩ := x
      dsimp only at r0
      have HXK := Lib.hid hgx
      clear hxx hkx hgx
      have c0 := r0 0 _ rfl
      have c1 := r0 1 _ rfl
      have c2 := r0 2 _ rfl
      rw [Nat.add_zero] at c0
      clear r0
      go_upto_region 4 with fail
      obtain ⟨wv, hwv⟩ : ∃ x, x = wr.alloc (.cells #[.string ⟨xt.toArray⟩, .string ⟨xk.toArray⟩, .string ⟨xi.toArray⟩] 24) := ⟨_, rfl⟩
      rw [← hwv]
      have hsb : Blk wv wr.heap.size 24 [.string ⟨xt.toArray⟩, .string ⟨xk.toArray⟩, .string ⟨xi.toArray⟩] := by rw [hwv]; exact Blk.new wr _ _
      have hpw : Blk wv w.heap.size 28 [.string ⟨p1.toArray⟩, .string ⟨p2.toArray⟩] := by rw [hwv]; exact (HH.out.2.1.later hbe).alloc _
      have HBV : Hid (Below wa.heap.size wa wv) := Lib.hid (by rw [hwv]; exact hbe.alloc hbe.size _)
      obtain ⟨tb, htb⟩ : ∃ tb, decide ((xt, xk) = (p1, p2)) = tb := ⟨_, rfl⟩
      have hte : ((xt == p1) && (xk == p2)) = tb := by rw [← htb]; by_cases h1 : xt = p1 <;> by_cases h2 : xk = p2 <;> simp [h1, h2]
      have HT := Lib.hid (And.intro htb hte)
      clear htb hte c0 c1 c2 hwv hbe
      apply wp_region_ls (by kernel_rfl) (by kernel_rfl)
      apply ls_load 24 (.tmp 7) rfl wr.heap.size 0 _ _ hsb.rng hsb.lt Try.underlying24 rfl size_slot rfl rfl
      simp only [Act.put, List.setIfInBounds_toArray, List.set_cons_succ, List.set_cons_zero]
      apply ls_callx (prV (xt, xk)) 10 #[Slt.val ⟨xt, xk, xi⟩] rfl (by intro W; go_simp; rfl) (fun W => of_calls ⟨xt, xk, xi⟩ W)
      simp only [Act.put, List.setIfInBounds_toArray, List.set_cons_succ, List.set_cons_zero]
      apply ls_load 28 (.tmp 3) rfl w.heap.size 0 _ _ hpw.rng hpw.lt Try.underlying28 rfl size_pair rfl rfl
      simp only [Act.put, List.setIfInBounds_toArray, List.set_cons_succ, List.set_cons_zero]
      apply ls_pure (.bool tb) rfl (by intro W; rw [← HT.out.2]; unfold prV; go_simp; by_cases h1 : xt = p1 <;> by_cases h2 : xk = p2 <;> simp [h1, h2])
      simp only [Act.put, List.setIfInBounds_toArray, List.set_cons_succ, List.set_cons_zero]
      refine ls_nil (Rs := []) ?_
      intro w4 b4
      have d2 := (hsb.later b4).cell (k := 2) rfl
      have HB4 := Lib.hid (HBV.out.then_ b4)
      clear hsb hpw b4
      cases tb with
      | true =>
        go_wp2_with fail
        go_ret2
        exact ⟨by rw [getF_at HXK.out (of_decide_eq_true HT.out.1) HS.out.1]; rfl, HH.out.2.2.1.then_ HB4.out⟩
      | false =>
        go_wp2_with fail
        refine ⟨⟨k + 1, by omega, by go_num, fun j hj h => ?_, HB4.out⟩, by simp [intOf]; omega⟩
        rcases Nat.lt_or_ge j k with h1 | h1
        · exact HS.out.1 j hj h1
        · obtain rfl : j = k := by omega
          have h2 := List.getElem?_eq_getElem hj
          rw [HXK.out] at h2
          injection h2 with h2
          rw [← h2]
          exact of_decide_eq_false HT.out.1
    · have hkn : k = n := by omega
      subst hkn
      go_wp2_with fail
      go_ret2
      exact ⟨by rw [getF_no (fun j h => HS.out.1 j h (by have := HH.out.2.2.2; omega))]; rfl, HH.out.2.2.1.then_ HS.out.2⟩
def LongPost (xs : List Slt) (w : World) (e : Ending) (w' : World) : Prop := ∃ r, e = .returned (.bool r) ∧ (r = false → xs.length ≤ 8192) ∧ Below w.heap.size w w'
set_option maxHeartbeats 4000000 in
set_option maxRecDepth 100000 in
theorem long_calls (A : Option Addr) (n c : Nat) (xs : List Slt) (w : World) (hx : Sls w A n c xs) : Calls Try.prog 7 #[.slice A n c] w (LongPost xs w) := by
  obtain ⟨hrv, hn, hnc, hc63, hok⟩ := hx
  have hnm : n ≤ 9223372036854775807 := Nat.le_trans hnc hc63
  have HH := Lib.hid (And.intro hrv (And.intro hn.out hok))
  clear hrv hn hok
  go_enter Try.func7, Try.ntmps7
  go_wp2_with fail
  go_loopw [3, 8] (fun t i wr => ∃ k T : Nat, k ≤ n ∧ T ≤ 8192 ∧ k ≤ T ∧ i = .int .i64 (k : Int) ∧ t = .int .i64 (T : Int) ∧ Below w.heap.size w wr) (fun t i _ => n - (intOf i).toNat)
  case atStart => exact ⟨0, 0, Nat.zero_le _, by decide, Nat.le_refl _, rfl, rfl, Below.refl _ _⟩
  case round =>
    obtain ⟨k, T, hk, hT, hkT, rfl, rfl, hbe⟩ := hrel
    by_cases hp : k < n
    · have hkx : k < xs.length := by rw [← HH.out.2.1]; exact hp
      obtain ⟨b0, off, rfl, hb0, r0⟩ := slot_row HH.out.1 hbe hkx
      obtain ⟨hl1, hl2, hl3⟩ := HH.out.2.2 _ (List.getElem_mem hkx)
      obtain ⟨x, hxx⟩ : ∃ x, xs[k] = x := ⟨_, rfl⟩
      rw [hxx] at r0 hl1 hl2 hl3
      obtain ⟨xt, xk, xi⟩ := x
      dsimp only at r0 hl1 hl2 hl3
      clear hxx hkx
      have c0 := r0 0 _ rfl
      have c1 := r0 1 _ rfl
      have c2 := r0 2 _ rfl
      rw [Nat.add_zero] at c0
      clear r0
      by_cases h8 : T + (1 + xt.length + xk.length + xi.length) > 8192
      · have hB : decide ((8192 : Int) < (T : Int) + (1 + (xt.length : Int) + (xk.length : Int) + (xi.length : Int))) = true := decide_eq_true (by omega)
        have HB := Lib.hid hbe
        clear h8 hbe
        go_wp2_with fail
        go_ret
        exact ⟨true, rfl, fun h => (by cases h), HB.out.alloc HB.out.size _⟩
      · have hB : decide ((8192 : Int) < (T : Int) + (1 + (xt.length : Int) + (xk.length : Int) + (xi.length : Int))) = false := decide_eq_false (by omega)
        have HB := Lib.hid hbe
        have H8 := Lib.hid h8
        clear h8 hbe
        go_wp2_with fail
        have h9 := H8.out
        exact ⟨⟨k + 1, T + (1 + xt.length + xk.length + xi.length), by omega, by omega, by omega, by go_num, by go_num, HB.out.alloc HB.out.size _⟩, by simp [intOf]; omega⟩
    · have hkn : k = n := by omega
      subst hkn
      go_wp2_with fail
      go_ret
      exact ⟨false, rfl, fun _ => by have := HH.out.2.1; omega, hbe⟩
end Go.Proofs.Ytpleminoiodmgaa
