/- Texts put together: EcD EcH WgB. -/
import Derived.Test.YtkbcbikilgcckaaGreatDoorZ5da3d9b302
import Derived.Test.YtkbcbikilgcckaaGreatDoorZfbe618e092
import Derived.Test.YtkbcbikilgcckaaGreatDoorZd628eea61e
import Derived.Test.YtkbcbikilgcckaaGreatDoorZ0fd9c9b30a
import Derived.Test.YtkbcbikilgcckaaGreatDoorZc2c2f53193
namespace Go.Proofs.YtkbcbikilgcckaaGreatDoor
open Go.ChangeShapes Go.WideShapes Go.ChangeAt Go.RowKit Go.IntWalk
set_option linter.unusedVariables false
set_option maxRecDepth 100000

set_option maxHeartbeats 4000000 in
theorem counted_calls (e : Ev) (a : Ea) (w : World) : Calls Tryz.prog 26 #[.agg (evC e a).toArray] w (TellP (countP e) w) := by
  have hx := Blk.new w (evC e a) 29
  have hb : Below w.heap.size w (w.alloc (.cells (evC e a).toArray 29)) := (Below.refl _ _).alloc (Nat.le_refl _) _
  have d13 := hx.cell (k := 13) rfl
  have d14 := hx.cell (k := 14) rfl
  have HB := Lib.hid hb
  have HC : Hid (countP e ↔ (0 ≤ e.dp ∧ e.dp ≤ 9007199254740991) ∧ (0 ≤ e.tm ∧ e.tm ≤ 9007199254740991)) := Lib.hid Iff.rfl
  clear hx hb
  go_enter Tryz.func26, Tryz.ntmps26
  by_cases c1 : 0 ≤ e.dp
  · by_cases c2 : e.dp ≤ 9007199254740991
    · by_cases c3 : 0 ≤ e.tm
      · by_cases c4 : e.tm ≤ 9007199254740991
        · go_wp2_with fail
          go_ret
          exact ⟨_, rfl, (by rw [HC.out]; simp; try omega), HB.out⟩
        · go_wp2_with fail
          go_ret
          exact ⟨_, rfl, (by rw [HC.out]; simp; try omega), HB.out⟩
      · go_wp2_with fail
        go_ret
        exact ⟨_, rfl, (by rw [HC.out]; simp; try omega), HB.out⟩
    · go_wp2_with fail
      go_ret
      exact ⟨_, rfl, (by rw [HC.out]; simp; try omega), HB.out⟩
  · go_wp2_with fail
    go_ret
    exact ⟨_, rfl, (by rw [HC.out]; simp; try omega), HB.out⟩
set_option maxHeartbeats 8000000 in
theorem typed_calls (e : Ev) (a : Ea) (w : World) (hT : TabJ w) (he : EOk w e a) (hs : Smal e) : Calls Tryz.prog 25 #[.agg (evC e a).toArray] w (TellP (typedP e) w) := by
  have hx := Blk.new w (evC e a) 29
  have hb : Below w.heap.size w (w.alloc (.cells (evC e a).toArray 29)) := (Below.refl _ _).alloc (Nat.le_refl _) _
  obtain ⟨W, hW⟩ : ∃ x, x = (w.alloc (.cells (evC e a).toArray 29)) := ⟨_, rfl⟩
  have d2 := hx.cell (k := 2) rfl
  rw [← hW] at hx hb
  have H1 := Lib.hid (And.intro hx hb)
  have HE := Lib.hid he
  have HT := Lib.hid hT
  have HS := Lib.hid hs
  have HSH := Lib.hid (short_calls e.ty W hs.1.2.2.1)
  obtain ⟨q1, hq1⟩ : ∃ q, shortF e.ty = q := ⟨_, rfl⟩
  rw [hq1] at HSH
  have HQ1 := Lib.hid hq1
  obtain ⟨q0, hq0⟩ : ∃ q, (e.ty == []) = q := ⟨_, rfl⟩
  have HQ0 := Lib.hid hq0
  clear hx hb he hT hs hq1
  go_enter Tryz.func25, Tryz.ntmps25
  cases q0 with
  | true =>
    have HW := Lib.hid hW
    clear hW
    go_wp2_with fail
    rw [← HW.out]
    go_ret
    exact ⟨_, rfl, ⟨fun h => (by cases h), fun h => (by have h1 := h.1.1; have h2 := HQ0.out; simp at h2; exact absurd h2 h1)⟩, H1.out.2⟩
  | false =>
    have HW := Lib.hid hW
    clear hW
    go_wp2_with fail
    rw [← HW.out]
    clear d2 HW
    refine HSH.out.mono ?_
    rintro en w3 ⟨rfl, hb⟩
    have H3 := Lib.hid (And.intro (H1.out.1.later hb) (H1.out.2.then_ hb))
    clear hb HSH
    cases q1 with
    | false =>
      go_wp2_with fail
      go_ret
      exact ⟨_, rfl, ⟨fun h => (by cases h), fun h => (by have h1 := h.1.2.1; rw [HQ1.out] at h1; cases h1)⟩, H3.out.2⟩
    | true =>
      have d4 := H3.out.1.cell (k := 4) rfl
      have HSK := Lib.hid (short_calls e.ky w3 HS.out.1.2.2.2.1)
      obtain ⟨q2, hq2⟩ : ∃ q, shortF e.ky = q := ⟨_, rfl⟩
      rw [hq2] at HSK
      have HQ2 := Lib.hid hq2
      clear hq2
      go_wp2_with fail
      refine HSK.out.mono ?_
      rintro en w5 ⟨rfl, hb⟩
      have H5 := Lib.hid (And.intro (H3.out.1.later hb) (H3.out.2.then_ hb))
      clear hb HSK d4
      cases q2 with
      | false =>
        go_wp2_with fail
        go_ret
        exact ⟨_, rfl, ⟨fun h => (by cases h), fun h => (by have h1 := h.1.2.2.1; rw [HQ2.out] at h1; cases h1)⟩, H5.out.2⟩
      | true =>
        have d4 := H5.out.1.cell (k := 4) rfl
        have d3 := H5.out.1.cell (k := 3) rfl
        obtain ⟨q3, hq3⟩ : ∃ q, (e.ky == []) = q := ⟨_, rfl⟩
        obtain ⟨q4, hq4⟩ : ∃ q, e.st = q := ⟨_, rfl⟩
        rw [hq4] at d3
        cases q3 with
        | true =>
          have HQ3 : Hid (e.ky = [] ∨ e.st = true) := Lib.hid (.inl (by simpa using hq3))
          have HVO := Lib.hid (HE.out.1.below H5.out.2)
          have hrg := ev_ct (e := e) (a := a) (o := 0) H5.out.1.rng
          have HC := Lib.hid (canon_calls e.ct a.A a.B a.nl a.cl a.nm a.cm w5 HVO.out.1 HVO.out.2.1 HVO.out.2.2.1 HVO.out.2.2.2.1 HVO.out.2.2.2.2 (HT.out.below H5.out.2).pow)
          obtain ⟨cr, hcr⟩ : ∃ c, canF e.ct = c := ⟨_, rfl⟩
          have HCR := Lib.hid hcr
          unfold CanPost at HC
          rw [hcr] at HC
          clear hcr
          go_wp2_with (refine wpList_load_mid rfl 25 (.tmp 31) rfl w.heap.size 5 rfl (vlC e.ct a.A a.B a.nl a.cl a.nm a.cm) _ hrg Tryz.underlying25 rfl (size_vl _ _ _ _ _ _ _) ?_)
          clear hrg
          refine HC.out.mono ?_
          rintro en w6 ⟨rfl, hb⟩
          have H6 := Lib.hid (And.intro (H5.out.1.later hb) (H5.out.2.then_ hb))
          clear hb HC
          have d5 := H6.out.1.cell (k := 5) rfl
          obtain ⟨q5, hq5⟩ : ∃ q, (e.ct.kd == 5) = q := ⟨_, rfl⟩
          have HKD := Lib.hid hq5
          obtain ⟨q6, hq6⟩ : ∃ q, (cr.2 == 0) = q := ⟨_, rfl⟩
          have HKR := Lib.hid hq6
          cases q5 with
          | false =>
            go_wp2_with fail
            go_ret
            exact ⟨_, rfl, ⟨fun h => (by cases h), fun h => (by have := h.2.1; have h2 := HKD.out; rw [this] at h2; cases h2)⟩, H6.out.2⟩
          | true =>
            go_wp2_with fail
            go_ret
            exact ⟨_, rfl, ⟨fun h => ⟨⟨(by have := HQ0.out; intro hh; rw [hh] at this; cases this), HQ1.out, HQ2.out, HQ3.out⟩, (by simpa using HKD.out), (by rw [HCR.out]; first | exact h | simpa using h | (have := HKR.out; rw [h] at this; simpa using this))⟩, fun h => (by have := h.2.2; rw [HCR.out] at this; first | exact this | simpa using this | (simp [this]; done) | (rw [← HKR.out, this]; rfl))⟩, H6.out.2⟩
        | false =>
          cases q4 with
          | false =>
            have HQ3 : Hid (¬ (e.ky = [] ∨ e.st = true)) := Lib.hid (by rw [hq4]; simpa using hq3)
            clear hq4
            go_wp2_with fail
            go_ret
            exact ⟨_, rfl, ⟨fun h => (by cases h), fun h => absurd h.1.2.2.2 HQ3.out⟩, H5.out.2⟩
          | true =>
            have HQ3 : Hid (e.ky = [] ∨ e.st = true) := Lib.hid (.inr hq4)
            clear hq4
            have HVO := Lib.hid (HE.out.1.below H5.out.2)
            have hrg := ev_ct (e := e) (a := a) (o := 0) H5.out.1.rng
            have HC := Lib.hid (canon_calls e.ct a.A a.B a.nl a.cl a.nm a.cm w5 HVO.out.1 HVO.out.2.1 HVO.out.2.2.1 HVO.out.2.2.2.1 HVO.out.2.2.2.2 (HT.out.below H5.out.2).pow)
            obtain ⟨cr, hcr⟩ : ∃ c, canF e.ct = c := ⟨_, rfl⟩
            have HCR := Lib.hid hcr
            unfold CanPost at HC
            rw [hcr] at HC
            clear hcr
            go_wp2_with (refine wpList_load_mid rfl 25 (.tmp 31) rfl w.heap.size 5 rfl (vlC e.ct a.A a.B a.nl a.cl a.nm a.cm) _ hrg Tryz.underlying25 rfl (size_vl _ _ _ _ _ _ _) ?_)
            clear hrg
            refine HC.out.mono ?_
            rintro en w6 ⟨rfl, hb⟩
            have H6 := Lib.hid (And.intro (H5.out.1.later hb) (H5.out.2.then_ hb))
            clear hb HC
            have d5 := H6.out.1.cell (k := 5) rfl
            obtain ⟨q5, hq5⟩ : ∃ q, (e.ct.kd == 5) = q := ⟨_, rfl⟩
            have HKD := Lib.hid hq5
            obtain ⟨q6, hq6⟩ : ∃ q, (cr.2 == 0) = q := ⟨_, rfl⟩
            have HKR := Lib.hid hq6
            cases q5 with
            | false =>
              go_wp2_with fail
              go_ret
              exact ⟨_, rfl, ⟨fun h => (by cases h), fun h => (by have := h.2.1; have h2 := HKD.out; rw [this] at h2; cases h2)⟩, H6.out.2⟩
            | true =>
              go_wp2_with fail
              go_ret
              exact ⟨_, rfl, ⟨fun h => ⟨⟨(by have := HQ0.out; intro hh; rw [hh] at this; cases this), HQ1.out, HQ2.out, HQ3.out⟩, (by simpa using HKD.out), (by rw [HCR.out]; first | exact h | simpa using h | (have := HKR.out; rw [h] at this; simpa using this))⟩, fun h => (by have := h.2.2; rw [HCR.out] at this; first | exact this | simpa using this | (simp [this]; done) | (rw [← HKR.out, this]; rfl))⟩, H6.out.2⟩
end Go.Proofs.YtkbcbikilgcckaaGreatDoor
namespace Go.Proofs.YtkbcbikilgcckaaGreatDoor
open Go.ChangeShapes Go.WideShapes Go.ChangeAt Go.RowKit Go.IntWalk
set_option linter.unusedVariables false
set_option maxRecDepth 100000

/-- What Check answers. -/
def ChkP (e : Ev) (w : World) (en : Ending) (w' : World) : Prop := ∃ x : Int, en = .returned (.int .i64 x) ∧ ChkIs e x ∧ Below w.heap.size w w'
set_option maxHeartbeats 8000000 in
theorem check_calls (e : Ev) (a : Ea) (w : World) (hm : Max w) (hT : TabJ w) (he : EOk w e a) (hs : ¬ ManyP e → Smal e) : Calls Tryz.prog 14 #[.agg (evC e a).toArray] w (ChkP e w) := by
  have hx := Blk.new w (evC e a) 29
  have hb : Below w.heap.size w (w.alloc (.cells (evC e a).toArray 29)) := (Below.refl _ _).alloc (Nat.le_refl _) _
  obtain ⟨W, hW⟩ : ∃ x, x = (w.alloc (.cells (evC e a).toArray 29)) := ⟨_, rfl⟩
  have HN : Hid (ManyP e ↔ 20 < a.np ∨ 10 < a.nu) := Lib.hid (by unfold ManyP; rw [he.2.1.2.1.out, he.2.2.1.2.1.out])
  have d11 := hx.cell (k := 11) rfl
  have d12 := hx.cell (k := 12) rfl
  have hrg := hx.rng
  rw [← hW] at hx hb
  have H1 := Lib.hid (And.intro hx hb)
  have HE := Lib.hid he
  have HT := Lib.hid hT
  have HM := Lib.hid hm
  have HW := Lib.hid hW
  have hnp : a.np ≤ 140737488355328 := he.2.1.2.2.2.1
  have hnu : a.nu ≤ 140737488355328 := he.2.2.1.2.2.2.1
  by_cases hmany : ManyP e
  · have HF : Hid (ChkIs e 22) := Lib.hid (.inl ⟨hmany, rfl⟩)
    have hmn := HN.out.1 hmany
    clear hx hb he hT hm hW hs hmany hrg
    go_enter Tryz.func14, Tryz.ntmps14
    by_cases c1 : 20 < a.np
    · have t1 : decide ((a.np : Int) > 20) = true := by simp; omega
      go_wp2_with fail
      rw [← HW.out]
      go_ret
      exact ⟨22, rfl, HF.out, H1.out.2⟩
    · have c2 : 10 < a.nu := by omega
      have t1 : decide ((a.np : Int) > 20) = false := by simp; omega
      have t2 : decide ((a.nu : Int) > 10) = true := by simp; omega
      go_wp2_with fail
      rw [← HW.out]
      go_ret
      exact ⟨22, rfl, HF.out, H1.out.2⟩
  · have HS := Lib.hid (hs hmany)
    have HY := Lib.hid hmany
    have c1 : ¬ 20 < a.np := fun h => hmany (HN.out.2 (.inl h))
    have c2 : ¬ 10 < a.nu := fun h => hmany (HN.out.2 (.inr h))
    have t1 : decide ((a.np : Int) > 20) = false := by simp; omega
    have t2 : decide ((a.nu : Int) > 10) = false := by simp; omega
    have HBAD : Hid (∀ w', Below w.heap.size w w' → ¬ CanBe e → ChkP e w (.returned (.int .i64 21)) w') := Lib.hid (fun w' h1 h2 => ⟨21, rfl, .inr (.inr ⟨hmany, h2, rfl⟩), h1⟩)
    have HK1 := Lib.hid (evnamed_calls e a W (hm.below hb) (he.below hb) HS.out)
    clear hx hb he hT hm hW hs hmany
    go_enter Tryz.func14, Tryz.ntmps14
    go_wp2_with (first | (refine wpList_load_mid rfl 29 (.tmp 1) rfl w.heap.size 0 rfl (evC e a) _ hrg Tryz.underlying29 rfl (size_ev e a) ?_) | (refine wpList_load_gd rfl 29 (.tmp 1) rfl w.heap.size 0 rfl (evC e a) _ hrg Tryz.underlying29 rfl (size_ev e a) ?_))
    rw [← HW.out]
    clear d11 d12 hrg HW
    refine HK1.out.mono ?_
    rintro en w2 ⟨r, rfl, hr, hb⟩
    have H2 := Lib.hid (And.intro (H1.out.1.later hb) (H1.out.2.then_ hb))
    have HR1 := Lib.hid hr
    clear hb HK1 hr
    cases r with
    | false =>
      have HZ := Lib.hid (show ¬ CanBe e from fun h => by have := HR1.out.2 h.1; cases this)
      go_wp2_with fail
      go_ret
      exact HBAD.out _ H2.out.2 HZ.out
    | true =>
      have hrg := H2.out.1.rng
      have HK2 := Lib.hid (typed_calls e a w2 (HT.out.below H2.out.2) (HE.out.below H2.out.2) HS.out)
      go_wp2_with (first | (refine wpList_load_mid rfl 29 (.tmp 1) rfl w.heap.size 0 rfl (evC e a) _ hrg Tryz.underlying29 rfl (size_ev e a) ?_) | (refine wpList_load_gd rfl 29 (.tmp 1) rfl w.heap.size 0 rfl (evC e a) _ hrg Tryz.underlying29 rfl (size_ev e a) ?_))
      clear hrg
      refine HK2.out.mono ?_
      rintro en w3 ⟨r, rfl, hr, hb⟩
      have H3 := Lib.hid (And.intro (H2.out.1.later hb) (H2.out.2.then_ hb))
      have HR2 := Lib.hid hr
      clear hb HK2 hr
      cases r with
      | false =>
        have HZ := Lib.hid (show ¬ CanBe e from fun h => by have := HR2.out.2 h.2.1; cases this)
        go_wp2_with fail
        go_ret
        exact HBAD.out _ H3.out.2 HZ.out
      | true =>
        have hrg := H3.out.1.rng
        have HK3 := Lib.hid (counted_calls e a w3)
        go_wp2_with (first | (refine wpList_load_mid rfl 29 (.tmp 1) rfl w.heap.size 0 rfl (evC e a) _ hrg Tryz.underlying29 rfl (size_ev e a) ?_) | (refine wpList_load_gd rfl 29 (.tmp 1) rfl w.heap.size 0 rfl (evC e a) _ hrg Tryz.underlying29 rfl (size_ev e a) ?_))
        clear hrg
        refine HK3.out.mono ?_
        rintro en w4 ⟨r, rfl, hr, hb⟩
        have H4 := Lib.hid (And.intro (H3.out.1.later hb) (H3.out.2.then_ hb))
        have HR3 := Lib.hid hr
        clear hb HK3 hr
        cases r with
        | false =>
          have HZ := Lib.hid (show ¬ CanBe e from fun h => by have := HR3.out.2 h.2.2.1; cases this)
          go_wp2_with fail
          go_ret
          exact HBAD.out _ H4.out.2 HZ.out
        | true =>
          have d15 := H4.out.1.cell (k := 15) rfl
          have HK4 := Lib.hid (isLet_calls e.hs 32 (.inl rfl) w4 HS.out.1.2.2.2.2)
          obtain ⟨q, hq⟩ : ∃ q, letN e.hs 32 = q := ⟨_, rfl⟩
          have HQ := Lib.hid hq
          rw [hq] at HK4
          clear hq
          go_wp2_with fail
          refine HK4.out.mono ?_
          rintro en w5 ⟨rfl, hb⟩
          have H5 := Lib.hid (And.intro (H4.out.1.later hb) (H4.out.2.then_ hb))
          clear hb HK4 d15
          cases q with
          | false =>
            have HZ := Lib.hid (show ¬ CanBe e from fun h => by have := h.2.2.2.1; rw [HQ.out] at this; cases this)
            go_wp2_with fail
            go_ret
            exact HBAD.out _ H5.out.2 HZ.out
          | true =>
            have d16 := H5.out.1.cell (k := 16) rfl
            have HK5 := Lib.hid (signed_calls a.S a.ns a.cs e.sg w5 (HM.out.below H5.out.2) (HE.out.below H5.out.2).2.2.2.1 HS.out.2.2.2)
            go_wp2_with fail
            refine HK5.out.mono ?_
            rintro en w6 ⟨r, rfl, hr, hb⟩
            have H6 := Lib.hid (And.intro (H5.out.1.later hb) (H5.out.2.then_ hb))
            have HR5 := Lib.hid hr
            clear hb HK5 d16 hr
            cases r with
            | false =>
              have HZ := Lib.hid (show ¬ CanBe e from fun h => by have := HR5.out.2 h.2.2.2.2; cases this)
              go_wp2_with fail
              go_ret
              exact HBAD.out _ H6.out.2 HZ.out
            | true =>
              have HZ : Hid (ChkIs e 0) := Lib.hid (.inr (.inl ⟨HY.out, ⟨HR1.out.1 trivial, HR2.out.1 trivial, HR3.out.1 trivial, HQ.out, (by first | exact HR5.out.1 rfl | exact HR5.out.1 trivial)⟩, rfl⟩))
              go_wp2_with fail
              go_ret
              exact ⟨0, rfl, HZ.out, H6.out.2⟩
end Go.Proofs.YtkbcbikilgcckaaGreatDoor
namespace Go.Proofs.YtkbcbikilgcckaaGreatDoor
open Go.ChangeShapes Go.WideShapes Go.ChangeAt Go.RowKit
set_option linter.unusedVariables false

theorem wg_bulk : ∀ (t : JT) (mem : Bool) (left : Int) (d : Nat), 0 ≤ wgF mem t left d → wgF mem t left d + t.bulk ≤ left
  | .nil, mem, left, d, h => by simp [wgF, JT.bulk]
  | .cons k kd is n s l m r, mem, left, d, h => by
    rw [wgF] at h ⊢
    by_cases h0 : left < 0
    · rw [if_pos h0] at h; omega
    · rw [if_neg h0] at h ⊢
      obtain ⟨y, hy⟩ : ∃ y, (if mem then left - k.length else left) - 1 - (s.length : Int) = y := ⟨_, rfl⟩
      rw [hy] at h ⊢
      have hyl : y ≤ left - 1 := by rw [← hy]; split <;> omega
      by_cases hd : d = 0
      · rw [if_pos hd] at h ⊢
        have := wg_bulk r mem _ _ h
        omega
      · rw [if_neg hd] at h ⊢
        have h1 := wg_bulk r mem _ _ h
        obtain ⟨x, hx⟩ : ∃ x, wgF true m (wgF false l y (d - 1)) (d - 1) = x := ⟨_, rfl⟩
        rw [hx] at h h1 ⊢
        have h2 := wg_bulk m true _ (d - 1) (by rw [hx]; omega)
        rw [hx] at h2
        have h3 := wg_bulk l false y (d - 1) (by omega)
        simp only [JT.bulk]
        omega
theorem wgV_bulk {v : Jv} {n : Int} {d : Nat} (hd : 0 < d) (h : 0 ≤ wgV v n d) : (v.bulk : Int) ≤ n ∧ (v.s.length : Int) ≤ n := by
  unfold wgV at h
  rw [if_neg (by omega)] at h
  have h2 := wg_bulk v.m true _ _ h
  have h3 := wg_bulk v.l false (n - 1 - (v.s.length : Int)) (d - 1) (by omega)
  unfold Jv.bulk
  omega
end Go.Proofs.YtkbcbikilgcckaaGreatDoor
