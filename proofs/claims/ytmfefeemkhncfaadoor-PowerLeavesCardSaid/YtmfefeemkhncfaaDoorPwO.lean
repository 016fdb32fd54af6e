/- Layer 14: the law PowerBounds. -/
import Derived.Test.YtmfefeemkhncfaaDoorPwN
namespace Go.Proofs.YtmfefeemkhncfaaDoor
open Go.ChangeShapes Go.WideShapes Go.ChangeAt Go.RowKit Go.IntWalk
set_option linter.unusedVariables false
set_option maxRecDepth 100000

theorem any_no (g : List UInt8 → Bool) : ∀ {t : JT} {key : List UInt8}, anyK (fun k _ => g k) t = false → t.findV key ≠ none → g key = false
  | .nil, key, _, h => absurd rfl h
  | .cons k kd is n s l m r, key, h, h2 => by
    simp only [anyK, Bool.or_eq_false_iff] at h
    by_cases e : k = key
    · subst e; exact h.1
    · exact any_no g h.2 (by simpa only [JT.findV, if_neg e] using h2)
theorem told_row {v : Jv} {key : List UInt8} (h : (toldF v key).isSome = true) : (rowsF v).findV key ≠ none := by
  unfold toldF memF at h
  unfold rowsF
  by_cases h5 : v.kd = 5
  · rw [if_pos h5]
    rw [if_pos h5] at h
    intro hn
    rw [hn] at h
    exact absurd h (by decide)
  · rw [if_neg h5] at h
    exact absurd h (by decide)
theorem turns_at {a b : Jv} {mine : Int} {nm user name : List UInt8} (h : turnsF a b mine nm user = true) (ht : (toldF a name).isSome = true ∨ (toldF b name).isSome = true) : wrongF a b mine nm user name = false := by
  unfold turnsF at h
  simp only [Bool.and_eq_true, Bool.not_eq_true'] at h
  rcases ht with ht | ht
  · exact any_no (fun k => wrongF a b mine nm user k) h.1 (told_row ht)
  · exact any_no (fun k => wrongF a b mine nm user k) h.2 (told_row ht)
theorem change_turns {a b : Jv} {mine : Int} {user nm : List UInt8} (h : changeF a b mine user = true) (hm : nm ∈ tabN) : turnsF (memF a nm) (memF b nm) mine nm user = true := by
  unfold changeF at h
  simp only [Bool.and_eq_true, List.all_eq_true] at h
  exact h.2 nm hm
/-- What a change that is let through keeps. -/
theorem bounds_pure {a b : Jv} {mine : Int} {user name : List UInt8} (h : changeF a b mine user = true) {xn yn : Int} {xt yt : Bool} (e1 : (toldF (memF a usersK) name).getD 0 = xn) (e2 : (toldF (memF a usersK) name).isSome = xt)
    (e3 : (toldF (memF b usersK) name).getD 0 = yn) (e4 : (toldF (memF b usersK) name).isSome = yt) :
    ¬ (yt = true ∧ mine < yn ∧ (xt = false ∨ xn ≠ yn)) ∧ (name = user ∨ xt = false ∨ xn < mine ∨ (yt = true ∧ yn = xn)) := by
  have hT := change_turns (nm := usersK) h (by decide)
  have hw : xt = true ∨ yt = true → wrongB xn yn mine xt yt true (name != user) = false := fun ho => by
    have := turns_at (name := name) hT (by rw [e2, e4]; exact ho)
    unfold wrongF at this
    rw [e1, e2, e3, e4] at this
    exact this
  constructor
  · rintro ⟨h1, h2, h3⟩
    have := hw (.inr h1)
    unfold wrongB reachB at this
    subst h1
    simp only [Bool.or_eq_false_iff, Bool.not_eq_false', Bool.or_eq_true, Bool.and_eq_true, decide_eq_true_eq, beq_iff_eq, Bool.not_eq_true', decide_eq_false_iff_not, Bool.and_eq_false_iff] at this
    rcases this.1 with ⟨h4, h5⟩ | ⟨_, h4⟩
    · rcases h3 with h3 | h3
      · rw [h3] at h5; cases h5
      · exact h3 h4
    · simp at h4; omega
  · by_cases hn : name = user
    · exact .inl hn
    · cases hx : xt with
      | false => exact .inr (.inl rfl)
      | true =>
        have := hw (.inl hx)
        unfold wrongB at this
        subst hx
        have hne : (name != user) = true := by rw [bne_iff_ne]; exact hn
        rw [hne] at this
        simp only [Bool.or_eq_false_iff, Bool.and_eq_false_iff, Bool.not_eq_false', Bool.and_eq_true, decide_eq_true_eq, beq_iff_eq, decide_eq_false_iff_not] at this
        rcases this.2 with ((((h4 | h4) | h4) | h4) | h4)
        · cases h4
        · cases h4
        · exact .inr (.inr (.inr ⟨h4.2.symm, h4.1.symm⟩))
        · cases h4
        · exact .inr (.inr (.inl (by omega)))
set_option maxHeartbeats 8000000 in
theorem bounds_walk (a0 a1 : Jv) (A0 B0 A1 B1 : Option Addr) (nl0 cl0 nm0 cm0 nl1 cl1 nm1 cm1 : Nat) (l0 l1 : List UInt8) (w : World) (hr0 : VOk w a0 A0 B0 nl0 cl0 nm0 cm0) (hr1 : VOk w a1 A1 B1 nl1 cl1 nm1 cm1) (hT : LonTab w) :
    Calls Tryd.prog 8 #[.agg #[.int .i64 a0.kd, .bool a0.is, .int .i64 a0.n, .string ⟨a0.s.toArray⟩, .slice A0 nl0 cl0, .slice B0 nm0 cm0], .agg #[.int .i64 a1.kd, .bool a1.is, .int .i64 a1.n, .string ⟨a1.s.toArray⟩, .slice A1 nl1 cl1, .slice B1 nm1 cm1], .string ⟨l0.toArray⟩, .string ⟨l1.toArray⟩] w fun e w' => e = .returned (.bool true) ∧ Below w.heap.size w w' := by
  have b2 : Below w.heap.size w ((w.alloc (.cells #[.int .i64 a0.kd, .bool a0.is, .int .i64 a0.n, .string ⟨a0.s.toArray⟩, .slice A0 nl0 cl0, .slice B0 nm0 cm0] 25)).alloc (.cells #[.int .i64 a1.kd, .bool a1.is, .int .i64 a1.n, .string ⟨a1.s.toArray⟩, .slice A1 nl1 cl1, .slice B1 nm1 cm1] 25)) := ((Below.refl _ _).alloc (Nat.le_refl _) _).alloc (by simp) _
  have HXA := Lib.hid ((Blk.new w [.int .i64 a0.kd, .bool a0.is, .int .i64 a0.n, .string ⟨a0.s.toArray⟩, .slice A0 nl0 cl0, .slice B0 nm0 cm0] 25).alloc (.cells #[.int .i64 a1.kd, .bool a1.is, .int .i64 a1.n, .string ⟨a1.s.toArray⟩, .slice A1 nl1 cl1, .slice B1 nm1 cm1] 25))
  have HXB := Lib.hid (blk_at (w := w.alloc (.cells #[.int .i64 a0.kd, .bool a0.is, .int .i64 a0.n, .string ⟨a0.s.toArray⟩, .slice A0 nl0 cl0, .slice B0 nm0 cm0] 25)) [.int .i64 a1.kd, .bool a1.is, .int .i64 a1.n, .string ⟨a1.s.toArray⟩, .slice A1 nl1 cl1, .slice B1 nm1 cm1] 25 (g := w.heap.size + 1) (by simp))
  have HA := Lib.hid (hr0.below b2)
  have HBV := Lib.hid (hr1.below b2)
  have HLL := Lib.hid (hT.below b2)
  have HB := Lib.hid b2
  have HB0 := Lib.hid (Below.refl ((w.alloc (.cells #[.int .i64 a0.kd, .bool a0.is, .int .i64 a0.n, .string ⟨a0.s.toArray⟩, .slice A0 nl0 cl0, .slice B0 nm0 cm0] 25)).alloc (.cells #[.int .i64 a1.kd, .bool a1.is, .int .i64 a1.n, .string ⟨a1.s.toArray⟩, .slice A1 nl1 cl1, .slice B1 nm1 cm1] 25)).heap.size ((w.alloc (.cells #[.int .i64 a0.kd, .bool a0.is, .int .i64 a0.n, .string ⟨a0.s.toArray⟩, .slice A0 nl0 cl0, .slice B0 nm0 cm0] 25)).alloc (.cells #[.int .i64 a1.kd, .bool a1.is, .int .i64 a1.n, .string ⟨a1.s.toArray⟩, .slice A1 nl1 cl1, .slice B1 nm1 cm1] 25)))
  obtain ⟨ga, hga⟩ : ∃ g, grB a0 = g := ⟨_, rfl⟩
  have HGA := Lib.hid hga
  obtain ⟨gb, hgb⟩ : ∃ g, grB a1 = g := ⟨_, rfl⟩
  have HGB := Lib.hid hgb
  obtain ⟨s0, hs0⟩ : ∃ sn, l0.length = sn := ⟨_, rfl⟩
  have hz0 : (⟨l0.toArray⟩ : ByteArray).size = s0 := hs0
  obtain ⟨s1, hs1⟩ : ∃ sn, l1.length = sn := ⟨_, rfl⟩
  have hz1 : (⟨l1.toArray⟩ : ByteArray).size = s1 := hs1
  clear hr0 hr1 hT b2 hga hgb hs0 hs1
  go_enter Tryd.func8, Tryd.ntmps8
  go_wp2_with fail
  refine (alive_calls _ (HLL.out.1.below HB0.out)).mono ?_
  rintro e w1 ⟨rfl, b⟩
  have HB1 := Lib.hid (HB0.out.then_ b)
  clear b
  have hx := HXA.out.later HB1.out
  have d0 := hx.cell (k := 0) rfl; have d1 := hx.cell (k := 1) rfl; have d2 := hx.cell (k := 2) rfl; have d3 := hx.cell (k := 3) rfl; have d4 := hx.cell (k := 4) rfl; have d5 := hx.cell (k := 5) rfl
  clear hx
  have hc := great_calls a0 A0 B0 nl0 cl0 nm0 cm0 w1 (HA.out.below HB1.out)
  rw [HGA.out] at hc
  cases ga with
  | true =>
    go_wp2_with fail
    refine (hc).mono ?_
    rintro e w2 ⟨rfl, b⟩
    have HB2 := Lib.hid (HB1.out.then_ b)
    clear b
    clear hc d0 d1 d2 d3 d4 d5
    go_wp2_with fail
    go_ret
    exact ⟨rfl, HB.out.then_ HB2.out⟩
  | false =>
    go_wp2_with fail
    refine (hc).mono ?_
    rintro e w2 ⟨rfl, b⟩
    have HB2 := Lib.hid (HB1.out.then_ b)
    clear b
    clear hc d0 d1 d2 d3 d4 d5
    have hx := HXB.out.later HB2.out
    have e0 := hx.cell (k := 0) rfl; have e1 := hx.cell (k := 1) rfl; have e2 := hx.cell (k := 2) rfl; have e3 := hx.cell (k := 3) rfl; have e4 := hx.cell (k := 4) rfl; have e5 := hx.cell (k := 5) rfl
    clear hx
    have hc := great_calls a1 A1 B1 nl1 cl1 nm1 cm1 w2 (HBV.out.below HB2.out)
    rw [HGB.out] at hc
    cases gb with
    | true =>
      go_wp2_with fail
      refine (hc).mono ?_
      rintro e w3 ⟨rfl, b⟩
      have HB3 := Lib.hid (HB2.out.then_ b)
      clear b
      clear hc e0 e1 e2 e3 e4 e5
      go_wp2_with fail
      go_ret
      exact ⟨rfl, HB.out.then_ HB3.out⟩
    | false =>
      go_wp2_with fail
      refine (hc).mono ?_
      rintro e w3 ⟨rfl, b⟩
      have HB3 := Lib.hid (HB2.out.then_ b)
      clear b
      clear hc e0 e1 e2 e3 e4 e5
      by_cases h0 : 1024 < s0
      · have t0 : decide ((1024 : Int) < (s0 : Int)) = true := by simp; omega
        go_wp2_with fail
        go_ret
        exact ⟨rfl, HB.out.then_ HB3.out⟩
      have t0 : decide ((1024 : Int) < (s0 : Int)) = false := by simp; omega
      clear h0
      by_cases h1 : 1024 < s1
      · have t1 : decide ((1024 : Int) < (s1 : Int)) = true := by simp; omega
        go_wp2_with fail
        go_ret
        exact ⟨rfl, HB.out.then_ HB3.out⟩
      have t1 : decide ((1024 : Int) < (s1 : Int)) = false := by simp; omega
      clear h1
      have HRA := Lib.hid (gr_ris HGA.out)
      have HRB := Lib.hid (gr_ris HGB.out)
      obtain ⟨mi, hmi⟩ : ∃ m, userF a0 [] l0 = m := ⟨_, rfl⟩
      have HMI := Lib.hid hmi
      clear hmi
      have hx := HXA.out.later HB3.out
      have d0 := hx.cell (k := 0) rfl; have d1 := hx.cell (k := 1) rfl; have d2 := hx.cell (k := 2) rfl; have d3 := hx.cell (k := 3) rfl; have d4 := hx.cell (k := 4) rfl; have d5 := hx.cell (k := 5) rfl
      clear hx
      have hc := user_calls a0 A0 B0 nl0 cl0 nm0 cm0 [] l0 w3 (HA.out.below HB3.out) HRA.out (HLL.out.1.below HB3.out)
      rw [HMI.out] at hc
      go_wp2_with fail
      refine (hc).mono ?_
      rintro e w4 ⟨rfl, b⟩
      have HB4 := Lib.hid (HB3.out.then_ b)
      clear b
      clear hc d0 d1 d2 d3 d4 d5
      obtain ⟨cv, hcv⟩ : ∃ c, changeF a0 a1 mi l0 = c := ⟨_, rfl⟩
      have HCV := Lib.hid hcv
      clear hcv
      have hx := HXA.out.later HB4.out
      have d0 := hx.cell (k := 0) rfl; have d1 := hx.cell (k := 1) rfl; have d2 := hx.cell (k := 2) rfl; have d3 := hx.cell (k := 3) rfl; have d4 := hx.cell (k := 4) rfl; have d5 := hx.cell (k := 5) rfl
      clear hx
      have hx := HXB.out.later HB4.out
      have e0 := hx.cell (k := 0) rfl; have e1 := hx.cell (k := 1) rfl; have e2 := hx.cell (k := 2) rfl; have e3 := hx.cell (k := 3) rfl; have e4 := hx.cell (k := 4) rfl; have e5 := hx.cell (k := 5) rfl
      clear hx
      have hc := change_calls a0 a1 A0 B0 A1 B1 nl0 cl0 nm0 cm0 nl1 cl1 nm1 cm1 l0 mi w4 (HA.out.below HB4.out) (HBV.out.below HB4.out) HRA.out HRB.out (HLL.out.1.below HB4.out) (HLL.out.2.below HB4.out)
      rw [HCV.out] at hc
      cases cv with
      | false =>
        go_wp2_with fail
        refine (hc).mono ?_
        rintro e w5 ⟨rfl, b⟩
        have HB5 := Lib.hid (HB4.out.then_ b)
        clear b
        clear hc d0 d1 d2 d3 d4 d5 e0 e1 e2 e3 e4 e5
        go_wp2_with fail
        go_ret
        exact ⟨rfl, HB.out.then_ HB5.out⟩
      | true =>
        go_wp2_with fail
        refine (hc).mono ?_
        rintro e w5 ⟨rfl, b⟩
        have HB5 := Lib.hid (HB4.out.then_ b)
        clear b
        clear hc d0 d1 d2 d3 d4 d5 e0 e1 e2 e3 e4 e5
        obtain ⟨xn, hxn⟩ : ∃ x, (toldF (memF a0 usersK) l1).getD 0 = x := ⟨_, rfl⟩
        obtain ⟨xt, hxt⟩ : ∃ x, (toldF (memF a0 usersK) l1).isSome = x := ⟨_, rfl⟩
        obtain ⟨yn, hyn⟩ : ∃ x, (toldF (memF a1 usersK) l1).getD 0 = x := ⟨_, rfl⟩
        obtain ⟨yt, hyt⟩ : ∃ x, (toldF (memF a1 usersK) l1).isSome = x := ⟨_, rfl⟩
        have HF := Lib.hid (bounds_pure HCV.out hxn hxt hyn hyt)
        rw [← told_tab] at hxn hxt hyn hyt
        obtain ⟨ta, hta⟩ : ∃ x, tabF a0 [117, 115, 101, 114, 115] = x := ⟨_, rfl⟩
        obtain ⟨tb, htb⟩ : ∃ x, tabF a1 [117, 115, 101, 114, 115] = x := ⟨_, rfl⟩
        have HTA := Lib.hid hta
        have HTB := Lib.hid htb
        have HX := Lib.hid (show (toldF ta l1).getD 0 = xn ∧ (toldF ta l1).isSome = xt by rw [← hta]; exact ⟨hxn, hxt⟩)
        have HY := Lib.hid (show (toldF tb l1).getD 0 = yn ∧ (toldF tb l1).isSome = yt by rw [← htb]; exact ⟨hyn, hyt⟩)
        clear hxn hxt hyn hyt hta htb
        have hx := HXA.out.later HB5.out
        have d0 := hx.cell (k := 0) rfl; have d1 := hx.cell (k := 1) rfl; have d2 := hx.cell (k := 2) rfl; have d3 := hx.cell (k := 3) rfl; have d4 := hx.cell (k := 4) rfl; have d5 := hx.cell (k := 5) rfl
        clear hx
        have hc := reftable_calls a0 A0 B0 nl0 cl0 nm0 cm0 [117, 115, 101, 114, 115] w5 (HA.out.below HB5.out)
        rw [HTA.out] at hc
        go_wp2_with fail
        refine (hc).mono ?_
        rintro e w6 ⟨⟨A, B, nl, cl, nm, cm, rfl, hv⟩, b⟩
        have HB6 := Lib.hid (HB5.out.then_ b)
        clear b
        have hd := reftold_calls ta A B nl cl nm cm l1 w6 hv
        rw [HX.out.1, HX.out.2] at hd
        clear hc hv d0 d1 d2 d3 d4 d5
        go_wp2_with fail
        refine (hd).mono ?_
        rintro e w7 ⟨rfl, b⟩
        have HB7 := Lib.hid (HB6.out.then_ b)
        clear b
        clear hd
        have hx := HXB.out.later HB7.out
        have e0 := hx.cell (k := 0) rfl; have e1 := hx.cell (k := 1) rfl; have e2 := hx.cell (k := 2) rfl; have e3 := hx.cell (k := 3) rfl; have e4 := hx.cell (k := 4) rfl; have e5 := hx.cell (k := 5) rfl
        clear hx
        have hc := reftable_calls a1 A1 B1 nl1 cl1 nm1 cm1 [117, 115, 101, 114, 115] w7 (HBV.out.below HB7.out)
        rw [HTB.out] at hc
        go_wp2_with fail
        refine (hc).mono ?_
        rintro e w8 ⟨⟨A, B, nl, cl, nm, cm, rfl, hv⟩, b⟩
        have HB8 := Lib.hid (HB7.out.then_ b)
        clear b
        have hd := reftold_calls tb A B nl cl nm cm l1 w8 hv
        rw [HY.out.1, HY.out.2] at hd
        clear hc hv e0 e1 e2 e3 e4 e5
        go_wp2_with fail
        refine (hd).mono ?_
        rintro e w9 ⟨rfl, b⟩
        have HB9 := Lib.hid (HB8.out.then_ b)
        clear b
        clear hd
        have f1 := HF.out.1
        have f2 := HF.out.2
        have HBF := Lib.hid (HB.out.then_ HB9.out)
        have HFF := Lib.hid (And.intro f1 f2)
        clear f1 f2
        clear HXA HXB HA HBV HLL HB HB0 HGA HGB HB1 HB2 HB3 HB4 HB5 HB6 HB7 HB8 HRA HRB HMI HCV HF HTA HTB HX HY
        cases yt with
        | false =>
          cases hs : (l1 == l0) with
          | true =>
            go_wp2_with fail
            go_ret
            exact ⟨rfl, HBF.out⟩
          | false =>
            cases xt with
            | false =>
              go_wp2_with fail
              go_ret
              exact ⟨rfl, HBF.out⟩
            | true =>
              by_cases hr : xn < mi
              · have tr : decide (xn < mi) = true := by simp; exact hr
                clear hr
                go_wp2_with fail
                go_ret
                exact ⟨rfl, HBF.out⟩
              · have tr : decide (xn < mi) = false := by simp; omega
                exact absurd HFF.out.2 (by simp at hs; simp [hs, hr])
        | true =>
          by_cases hp : mi < yn
          · have tp : decide (mi < yn) = true := by simp; exact hp
            cases xt with
            | false => exact absurd ⟨rfl, hp, .inl rfl⟩ HFF.out.1
            | true =>
              by_cases he : xn = yn
              · subst he
                have tr : decide (xn < mi) = false := by simp; omega
                clear hp
                cases hs : (l1 == l0) with
                | true =>
                  go_wp2_with fail
                  go_ret
                  exact ⟨rfl, HBF.out⟩
                | false =>
                  go_wp2_with fail
                  go_ret
                  exact ⟨rfl, HBF.out⟩
              · exact absurd ⟨rfl, hp, .inr he⟩ HFF.out.1
          · have tp : decide (mi < yn) = false := by simp; omega
            clear hp
            cases hs : (l1 == l0) with
            | true =>
              go_wp2_with fail
              go_ret
              exact ⟨rfl, HBF.out⟩
            | false =>
              cases xt with
              | false =>
                go_wp2_with fail
                go_ret
                exact ⟨rfl, HBF.out⟩
              | true =>
                by_cases hr : xn < mi
                · have tr : decide (xn < mi) = true := by simp; exact hr
                  clear hr
                  go_wp2_with fail
                  go_ret
                  exact ⟨rfl, HBF.out⟩
                · have tr : decide (xn < mi) = false := by simp; omega
                  have he : yn = xn := by
                    rcases HFF.out.2 with h | h | h | h
                    · simp [h] at hs
                    · cases h
                    · exact absurd h hr
                    · exact h.2
                  subst he
                  clear hr
                  go_wp2_with fail
                  go_ret
                  exact ⟨rfl, HBF.out⟩
theorem powerBounds_walk (a0 : Jv) (A0 B0 : Option Addr) (nl0 cl0 nm0 cm0 : Nat) {w : World} (hr0 : VOk w a0 A0 B0 nl0 cl0 nm0 cm0) (a1 : Jv) (A1 B1 : Option Addr) (nl1 cl1 nm1 cm1 : Nat) (hr1 : VOk w a1 A1 B1 nl1 cl1 nm1 cm1) (a2 : ByteArray) (w2 : a2.size ≤ maxLen) (a3 : ByteArray) (w3 : a3.size ≤ maxLen) (hT : LonTab w) :
    Calls Tryd.prog 8 #[.agg #[.int .i64 a0.kd, .bool a0.is, .int .i64 a0.n, .string ⟨a0.s.toArray⟩, .slice A0 nl0 cl0, .slice B0 nm0 cm0], .agg #[.int .i64 a1.kd, .bool a1.is, .int .i64 a1.n, .string ⟨a1.s.toArray⟩, .slice A1 nl1 cl1, .slice B1 nm1 cm1], .string a2, .string a3] w fun e w' => e = .returned (.bool true) ∧ Below w.heap.size w w' := by
  obtain ⟨l0, rfl, _⟩ := str_split a2
  obtain ⟨l1, rfl, _⟩ := str_split a3
  exact bounds_walk a0 a1 A0 B0 A1 B1 nl0 cl0 nm0 cm0 nl1 cl1 nm1 cm1 l0 l1 w hr0 hr1 hT
end Go.Proofs.YtmfefeemkhncfaaDoor
