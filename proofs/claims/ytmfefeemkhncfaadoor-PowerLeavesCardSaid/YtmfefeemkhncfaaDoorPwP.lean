/- Layer 14: the document's rule for one member. -/
import Derived.Test.YtmfefeemkhncfaaDoorPwO
namespace Go.Proofs.YtmfefeemkhncfaaDoor
open Go.ChangeShapes Go.WideShapes Go.ChangeAt Go.RowKit Go.IntWalk
set_option linter.unusedVariables false
set_option maxRecDepth 100000

def rtB (xn yn mine : Int) (xt yt own : Bool) : Bool :=
  if xt = yt ∧ xn = yn then true else if xt = true ∧ (mine < xn ∨ (own = true ∧ xn = mine)) then false else (!yt || decide (yn ≤ mine))
/-- The document's rule is the program's. -/
theorem rt_wrong (xn yn mine : Int) (xt yt us own : Bool) : rtB xn yn mine xt yt (us && own) = !wrongB xn yn mine xt yt us own := by
  unfold rtB wrongB reachB
  by_cases h1 : xn = yn
  · subst h1
    by_cases h2 : mine < xn
    · cases xt <;> cases yt <;> cases us <;> cases own <;> simp [h2] <;> omega
    · by_cases h3 : xn = mine
      · subst h3
        cases xt <;> cases yt <;> cases us <;> cases own <;> simp
      · have h4 : ¬ mine ≤ xn := by omega
        cases xt <;> cases yt <;> cases us <;> cases own <;> simp [h2, h3, h4] <;> omega
  · by_cases h2 : mine < xn
    · by_cases h5 : mine < yn
      · cases xt <;> cases yt <;> cases us <;> cases own <;> simp [h1, h2, h5] <;> omega
      · cases xt <;> cases yt <;> cases us <;> cases own <;> simp [h1, h2, h5] <;> omega
    · by_cases h5 : mine < yn
      · by_cases h3 : xn = mine
        · cases xt <;> cases yt <;> cases us <;> cases own <;> simp [h1, h2, h5, h3] <;> omega
        · have h4 : ¬ mine ≤ xn := by omega
          cases xt <;> cases yt <;> cases us <;> cases own <;> simp [h1, h2, h5, h3, h4] <;> omega
      · by_cases h3 : xn = mine
        · cases xt <;> cases yt <;> cases us <;> cases own <;> simp [h1, h2, h5, h3] <;> omega
        · have h4 : ¬ mine ≤ xn := by omega
          cases xt <;> cases yt <;> cases us <;> cases own <;> simp [h1, h2, h5, h3, h4] <;> omega
set_option maxHeartbeats 8000000 in
theorem refturns_calls (a b : Jv) (A0 B0 A1 B1 : Option Addr) (nl0 cl0 nm0 cm0 nl1 cl1 nm1 cm1 : Nat) (k : List UInt8) (mine : Int) (own : Bool) (w : World) (ha : VOk w a A0 B0 nl0 cl0 nm0 cm0) (hb : VOk w b A1 B1 nl1 cl1 nm1 cm1)
    {xn yn : Int} {xt yt : Bool} (e1 : (toldF a k).getD 0 = xn) (e2 : (toldF a k).isSome = xt) (e3 : (toldF b k).getD 0 = yn) (e4 : (toldF b k).isSome = yt) :
    Calls Tryd.prog 42 #[.agg #[.int .i64 a.kd, .bool a.is, .int .i64 a.n, .string ⟨a.s.toArray⟩, .slice A0 nl0 cl0, .slice B0 nm0 cm0], .agg #[.int .i64 b.kd, .bool b.is, .int .i64 b.n, .string ⟨b.s.toArray⟩, .slice A1 nl1 cl1, .slice B1 nm1 cm1], .string ⟨k.toArray⟩, .int .i64 mine, .bool own] w fun e w' => e = .returned (.bool (rtB xn yn mine xt yt own)) ∧ Below w.heap.size w w' := by
  have b2 : Below w.heap.size w ((w.alloc (.cells #[.int .i64 a.kd, .bool a.is, .int .i64 a.n, .string ⟨a.s.toArray⟩, .slice A0 nl0 cl0, .slice B0 nm0 cm0] 25)).alloc (.cells #[.int .i64 b.kd, .bool b.is, .int .i64 b.n, .string ⟨b.s.toArray⟩, .slice A1 nl1 cl1, .slice B1 nm1 cm1] 25)) := ((Below.refl _ _).alloc (Nat.le_refl _) _).alloc (by simp) _
  have HXA := Lib.hid ((Blk.new w [.int .i64 a.kd, .bool a.is, .int .i64 a.n, .string ⟨a.s.toArray⟩, .slice A0 nl0 cl0, .slice B0 nm0 cm0] 25).alloc (.cells #[.int .i64 b.kd, .bool b.is, .int .i64 b.n, .string ⟨b.s.toArray⟩, .slice A1 nl1 cl1, .slice B1 nm1 cm1] 25))
  have HXB := Lib.hid (blk_at (w := w.alloc (.cells #[.int .i64 a.kd, .bool a.is, .int .i64 a.n, .string ⟨a.s.toArray⟩, .slice A0 nl0 cl0, .slice B0 nm0 cm0] 25)) [.int .i64 b.kd, .bool b.is, .int .i64 b.n, .string ⟨b.s.toArray⟩, .slice A1 nl1 cl1, .slice B1 nm1 cm1] 25 (g := w.heap.size + 1) (by simp))
  have HA := Lib.hid (ha.below b2)
  have HBV := Lib.hid (hb.below b2)
  have HB := Lib.hid b2
  have HB0 := Lib.hid (Below.refl ((w.alloc (.cells #[.int .i64 a.kd, .bool a.is, .int .i64 a.n, .string ⟨a.s.toArray⟩, .slice A0 nl0 cl0, .slice B0 nm0 cm0] 25)).alloc (.cells #[.int .i64 b.kd, .bool b.is, .int .i64 b.n, .string ⟨b.s.toArray⟩, .slice A1 nl1 cl1, .slice B1 nm1 cm1] 25)).heap.size ((w.alloc (.cells #[.int .i64 a.kd, .bool a.is, .int .i64 a.n, .string ⟨a.s.toArray⟩, .slice A0 nl0 cl0, .slice B0 nm0 cm0] 25)).alloc (.cells #[.int .i64 b.kd, .bool b.is, .int .i64 b.n, .string ⟨b.s.toArray⟩, .slice A1 nl1 cl1, .slice B1 nm1 cm1] 25)))
  have hc := reftold_calls a A0 B0 nl0 cl0 nm0 cm0 k ((w.alloc (.cells #[.int .i64 a.kd, .bool a.is, .int .i64 a.n, .string ⟨a.s.toArray⟩, .slice A0 nl0 cl0, .slice B0 nm0 cm0] 25)).alloc (.cells #[.int .i64 b.kd, .bool b.is, .int .i64 b.n, .string ⟨b.s.toArray⟩, .slice A1 nl1 cl1, .slice B1 nm1 cm1] 25)) HA.out
  rw [e1, e2] at hc
  obtain ⟨rv, hrv⟩ : ∃ r, rtB xn yn mine xt yt own = r := ⟨_, rfl⟩
  rw [hrv]
  have HRV := Lib.hid hrv
  have HE := Lib.hid (And.intro e3 e4)
  clear ha hb b2 e1 e2 e3 e4 hrv
  have hx := HXA.out.later HB0.out
  have d0 := hx.cell (k := 0) rfl; have d1 := hx.cell (k := 1) rfl; have d2 := hx.cell (k := 2) rfl; have d3 := hx.cell (k := 3) rfl; have d4 := hx.cell (k := 4) rfl; have d5 := hx.cell (k := 5) rfl
  clear hx
  go_enter Tryd.func42, Tryd.ntmps42
  go_wp2_with fail
  refine hc.mono ?_
  rintro e w1 ⟨rfl, b⟩
  have HB1 := Lib.hid (HB0.out.then_ b)
  clear b hc d0 d1 d2 d3 d4 d5
  have hx := HXB.out.later HB1.out
  have e0 := hx.cell (k := 0) rfl; have e1 := hx.cell (k := 1) rfl; have e2 := hx.cell (k := 2) rfl; have e3 := hx.cell (k := 3) rfl; have e4 := hx.cell (k := 4) rfl; have e5 := hx.cell (k := 5) rfl
  clear hx
  have hc := reftold_calls b A1 B1 nl1 cl1 nm1 cm1 k w1 (HBV.out.below HB1.out)
  rw [HE.out.1, HE.out.2] at hc
  go_wp2_with fail
  refine hc.mono ?_
  rintro e w2 ⟨rfl, b⟩
  have HB2 := Lib.hid (HB.out.then_ (HB1.out.then_ b))
  clear b hc e0 e1 e2 e3 e4 e5 HXA HXB HA HBV HB HB0 HB1 HE
  have hr : rv = true ∨ rv = false := by cases rv <;> simp
  by_cases h1 : xt = yt
  · by_cases h2 : xn = yn
    · have HZ := Lib.hid (show rv = true by rw [← HRV.out]; unfold rtB; rw [if_pos ⟨h1, h2⟩])
      subst h1 h2
      go_wp2_with fail
      all_goals go_ret
      all_goals (refine ⟨?_, HB2.out⟩; rw [HZ.out])
      all_goals (try rfl)
      all_goals simp_all
    · have HZ := Lib.hid (show rv = if xt = true ∧ (mine < xn ∨ (own = true ∧ xn = mine)) then false else (!yt || decide (yn ≤ mine)) by rw [← HRV.out]; unfold rtB; rw [if_neg (fun h => h2 h.2)])
      have t2 : decide (xn = yn) = false := by simpa using h2
      subst h1
      cases xt with
      | false =>
        have HZ2 := Lib.hid (show rv = true by rw [HZ.out]; simp)
        go_wp2_with fail
        all_goals go_ret
        all_goals (refine ⟨?_, HB2.out⟩; rw [HZ2.out])
        all_goals (try rfl)
        all_goals simp_all
      | true =>
        by_cases h3 : mine < xn
        · have t3 : decide (mine < xn) = true := by simpa using h3
          have HZ2 := Lib.hid (show rv = false by rw [HZ.out, if_pos ⟨rfl, .inl h3⟩])
          clear h3
          go_wp2_with fail
          all_goals go_ret
          all_goals (refine ⟨?_, HB2.out⟩; rw [HZ2.out])
          all_goals (try rfl)
          all_goals simp_all
        · have t3 : decide (mine < xn) = false := by simpa using h3
          cases own with
          | false =>
            have HZ2 := Lib.hid (show rv = (!true || decide (yn ≤ mine)) by rw [HZ.out, if_neg (by simp [h3])])
            clear h3
            go_wp2_with fail
            all_goals go_ret
            all_goals (refine ⟨?_, HB2.out⟩; rw [HZ2.out])
            all_goals (try rfl)
            all_goals simp_all
          | true =>
            by_cases h4 : xn = mine
            · have HZ2 := Lib.hid (show rv = false by rw [HZ.out, if_pos ⟨rfl, .inr ⟨rfl, h4⟩⟩])
              have t4 : decide (xn = mine) = true := by simpa using h4
              clear h3
              go_wp2_with fail
              all_goals go_ret
              all_goals (refine ⟨?_, HB2.out⟩; rw [HZ2.out])
              all_goals (try rfl)
              all_goals simp_all
            · have HZ2 := Lib.hid (show rv = (!true || decide (yn ≤ mine)) by rw [HZ.out, if_neg (by simp [h3, h4])])
              have t4 : decide (xn = mine) = false := by simpa using h4
              clear h3
              go_wp2_with fail
              all_goals go_ret
              all_goals (refine ⟨?_, HB2.out⟩; rw [HZ2.out])
              all_goals (try rfl)
              all_goals simp_all
  · have HZ := Lib.hid (show rv = if xt = true ∧ (mine < xn ∨ (own = true ∧ xn = mine)) then false else (!yt || decide (yn ≤ mine)) by rw [← HRV.out]; unfold rtB; rw [if_neg (fun h => h1 h.1)])
    have t1 : (xt == yt) = false := by simpa using h1
    cases xt with
    | false =>
      obtain rfl : yt = true := by cases yt <;> simp_all
      have HZ2 := Lib.hid (show rv = decide (yn ≤ mine) by rw [HZ.out]; simp)
      go_wp2_with fail
      all_goals go_ret
      all_goals (refine ⟨?_, HB2.out⟩; rw [HZ2.out])
      all_goals (try rfl)
      all_goals simp_all
    | true =>
      obtain rfl : yt = false := by cases yt <;> simp_all
      by_cases h3 : mine < xn
      · have t3 : decide (mine < xn) = true := by simpa using h3
        have HZ2 := Lib.hid (show rv = false by rw [HZ.out, if_pos ⟨rfl, .inl h3⟩])
        clear h3
        go_wp2_with fail
        all_goals go_ret
        all_goals (refine ⟨?_, HB2.out⟩; rw [HZ2.out])
        all_goals (try rfl)
        all_goals simp_all
      · have t3 : decide (mine < xn) = false := by simpa using h3
        cases own with
        | false =>
          have HZ2 := Lib.hid (show rv = (!false || decide (yn ≤ mine)) by rw [HZ.out, if_neg (by simp [h3])])
          clear h3
          go_wp2_with fail
          all_goals go_ret
          all_goals (refine ⟨?_, HB2.out⟩; rw [HZ2.out])
          all_goals (try rfl)
          all_goals simp_all
        | true =>
          by_cases h4 : xn = mine
          · have HZ2 := Lib.hid (show rv = false by rw [HZ.out, if_pos ⟨rfl, .inr ⟨rfl, h4⟩⟩])
            have t4 : decide (xn = mine) = true := by simpa using h4
            clear h3
            go_wp2_with fail
            all_goals go_ret
            all_goals (refine ⟨?_, HB2.out⟩; rw [HZ2.out])
            all_goals (try rfl)
            all_goals simp_all
          · have HZ2 := Lib.hid (show rv = (!false || decide (yn ≤ mine)) by rw [HZ.out, if_neg (by simp [h3, h4])])
            have t4 : decide (xn = mine) = false := by simpa using h4
            clear h3
            go_wp2_with fail
            all_goals go_ret
            all_goals (refine ⟨?_, HB2.out⟩; rw [HZ2.out])
            all_goals (try rfl)
            all_goals simp_all
end Go.Proofs.YtmfefeemkhncfaaDoor
