/- Texts put together: EcF. -/
import Derived.Test.YtonpkbiplcbodaaDoorZ8313730456
import Derived.Test.YtonpkbiplcbodaaDoorZ437f41bdb3
namespace Go.Proofs.YtonpkbiplcbodaaDoor
open Go.ChangeShapes Go.WideShapes Go.ChangeAt Go.RowKit Go.IntWalk
set_option linter.unusedVariables false
set_option maxRecDepth 100000

set_option maxHeartbeats 16000000 in
theorem refcheck_calls (e : Ev) (a : Ea) (w : World) (hT : TabJ w) (he : EOk w e a) (hs : ¬ ManyP e → Smal e) : Calls Tryd.prog 7 #[.agg (evC e a).toArray] w (ChkP e w) := by
  have hx := Blk.new w (evC e a) 29
  have hb : Below w.heap.size w (w.alloc (.cells (evC e a).toArray 29)) := (Below.refl _ _).alloc (Nat.le_refl _) _
  obtain ⟨W, hW⟩ : ∃ x, x = (w.alloc (.cells (evC e a).toArray 29)) := ⟨_, rfl⟩
  have HNM : Hid (ManyP e ↔ 20 < a.np ∨ 10 < a.nu) := Lib.hid (by unfold ManyP; rw [he.2.1.2.1.out, he.2.2.1.2.1.out])
  have d11 := hx.cell (k := 11) rfl
  have d12 := hx.cell (k := 12) rfl
  rw [← hW] at hx hb
  have H1 := Lib.hid (And.intro hx hb)
  have HE := Lib.hid he
  have HT := Lib.hid hT
  have HW := Lib.hid hW
  have HN := Lib.hid (And.intro he.2.1.2.1.out (And.intro he.2.2.1.2.1.out he.2.2.2.1.2.1.out))
  have hns : a.ns ≤ 140737488355328 := Nat.le_trans he.2.2.2.1.2.2.1 he.2.2.2.1.2.2.2.1
  have hnp : a.np ≤ 140737488355328 := Nat.le_trans he.2.1.2.2.1 he.2.1.2.2.2.1
  have hnu : a.nu ≤ 140737488355328 := Nat.le_trans he.2.2.1.2.2.1 he.2.2.1.2.2.2.1
  by_cases hmany : ManyP e
  · have HF : Hid (ChkIs e 22) := Lib.hid (.inl ⟨hmany, rfl⟩)
    have hmn := HNM.out.1 hmany
    clear hx hb he hT  hW hs hmany
    go_enter Tryd.func7, Tryd.ntmps7
    by_cases c1 : 20 < a.np
    · have t1 : decide ((a.np : Int) > 20) = true := by simp; omega
      go_wp2_with fail
      rw [← HW.out]
      go_ret
      exact ⟨22, rfl, HF.out, H1.out.2⟩
    · have c2 : 10 < a.nu := by omega
      have t1 : decide ((a.np : Int) > 20) = false := by simp; omega
      have t2 : decide ((a.nu : Int) > 10) = true := by simp; omega
      go_wp2_with fail
      rw [← HW.out]
      go_ret
      exact ⟨22, rfl, HF.out, H1.out.2⟩
  · have HS := Lib.hid (hs hmany)
    have HY := Lib.hid hmany
    have c1 : ¬ 20 < a.np := fun h => hmany (HNM.out.2 (.inl h))
    have c2 : ¬ 10 < a.nu := fun h => hmany (HNM.out.2 (.inr h))
    have t1 : decide ((a.np : Int) > 20) = false := by simp; omega
    have t2 : decide ((a.nu : Int) > 10) = false := by simp; omega
    have HBAD : Hid (∀ w', Below w.heap.size w w' → ¬ CanBe e → ChkP e w (.returned (.int .i64 21)) w') := Lib.hid (fun w' h1 h2 => ⟨21, rfl, .inr (.inr ⟨hmany, h2, rfl⟩), h1⟩)
    clear hx hb he hT hW hs hmany
    go_enter Tryd.func7, Tryd.ntmps7
    go_wp2_with fail
    rw [← HW.out]
    clear d11 d12 HW
    go_loopw [27] (fun i wr => ∃ k : Nat, k ≤ a.np ∧ i = .int .i64 (k : Int) ∧ Hid (Below w.heap.size w wr ∧ Blk wr w.heap.size 29 (evC e a) ∧ ∀ x ∈ e.pv.take k, evF x = true)) (fun i _ => a.np - (intOf i).toNat)
    case atStart => exact ⟨0, Nat.zero_le _, rfl, Lib.hid ⟨H1.out.2, H1.out.1, by simp⟩⟩
    case round =>
      obtain ⟨k, hk, rfl, HK⟩ := hrel
      by_cases hp : k < a.np
      · have hkx : k < (e.pv).length := by rw [← HN.out.1]; exact hp
        have hgx := List.getElem?_eq_getElem hkx
        have hmx := List.getElem_mem hkx
        obtain ⟨x, hxx⟩ : ∃ x, (e.pv)[k] = x := ⟨_, rfl⟩
        rw [hxx] at hgx hmx
        obtain ⟨b, off, hA, hb, hcc⟩ := ((HE.out.2.1.1).below HK.out.1) k (strV x) (by rw [List.getElem?_map, hgx]; rfl)
        have hcc : wr.cell? ⟨b, off + k, none⟩ = some (.string ⟨x.toArray⟩) := hcc
        have hxi : x ∈ e.pv ++ e.au := List.mem_append.2 (.inl hmx)
        have HQ := Lib.hid (refevent_calls ⟨x.toArray⟩ wr (by show x.length ≤ _; have := HS.out.2.2.1 x hxi; omega))
        obtain ⟨q, hq⟩ : ∃ q, evF x = q := ⟨_, rfl⟩
        have HQ : Hid (Calls Tryd.prog 14 #[.string ⟨x.toArray⟩] wr fun e w' => e = .returned (.bool q) ∧ Below wr.heap.size wr w') := by rw [← hq]; exact HQ
        have HT2 := Lib.hid (show q = true → ∀ y ∈ (e.pv).take (k + 1), evF y = true by
          intro h y hy
          rw [List.take_add_one, hgx] at hy
          rcases List.mem_append.1 hy with hy | hy
          · exact HK.out.2.2 y hy
          · have : y = x := by simpa using hy
            rw [this, hq, h])
        have HF := Lib.hid (show q = false → ¬ CanBe e by
          intro h hh
          have := hh.1.1 x hxi
          rw [hq, h] at this; cases this)
        clear hq hxx hgx hmx hkx hxi
        simp only [hA]
        clear hA
        go_wp2_with fail
        refine HQ.out.mono ?_
        rintro en w4 ⟨rfl, hb4⟩
        have H4 := Lib.hid (And.intro (HK.out.1.then_ hb4) (HK.out.2.1.later hb4))
        clear hb4
        cases q with
        | true =>
          go_wp2_with fail
          exact ⟨⟨k + 1, by omega, by go_num, Lib.hid ⟨H4.out.1, H4.out.2, HT2.out (by first | trivial | rfl)⟩⟩, by simp [intOf]; omega⟩
        | false =>
          go_wp2_with fail
          go_ret
          exact HBAD.out _ H4.out.1 (HF.out (by first | trivial | rfl))
      · obtain rfl : a.np = k := by omega
        have HALL1 := Lib.hid (show ∀ x ∈ e.pv, evF x = true by
          have := HK.out.2.2
          rw [HN.out.1, List.take_length] at this
          exact this)
        have d12 := HK.out.2.1.cell (k := 12) rfl
        have HK1 := Lib.hid (And.intro HK.out.1 HK.out.2.1)
        clear HK
        go_wp2_with fail
        clear d12
        go_loopw [38] (fun i wr => ∃ k : Nat, k ≤ a.nu ∧ i = .int .i64 (k : Int) ∧ Hid (Below w.heap.size w wr ∧ Blk wr w.heap.size 29 (evC e a) ∧ ∀ x ∈ e.au.take k, evF x = true)) (fun i _ => a.nu - (intOf i).toNat)
        case atStart => exact ⟨0, Nat.zero_le _, rfl, Lib.hid ⟨HK1.out.1, HK1.out.2, by simp⟩⟩
        case round =>
          obtain ⟨k, hk, rfl, HK⟩ := hrel
          by_cases hp : k < a.nu
          · have hkx : k < (e.au).length := by rw [← HN.out.2.1]; exact hp
            have hgx := List.getElem?_eq_getElem hkx
            have hmx := List.getElem_mem hkx
            obtain ⟨x, hxx⟩ : ∃ x, (e.au)[k] = x := ⟨_, rfl⟩
            rw [hxx] at hgx hmx
            obtain ⟨b, off, hA, hb, hcc⟩ := ((HE.out.2.2.1.1).below HK.out.1) k (strV x) (by rw [List.getElem?_map, hgx]; rfl)
            have hcc : wr.cell? ⟨b, off + k, none⟩ = some (.string ⟨x.toArray⟩) := hcc
            have hxi : x ∈ e.pv ++ e.au := List.mem_append.2 (.inr hmx)
            have HQ := Lib.hid (refevent_calls ⟨x.toArray⟩ wr (by show x.length ≤ _; have := HS.out.2.2.1 x hxi; omega))
            obtain ⟨q, hq⟩ : ∃ q, evF x = q := ⟨_, rfl⟩
            have HQ : Hid (Calls Tryd.prog 14 #[.string ⟨x.toArray⟩] wr fun e w' => e = .returned (.bool q) ∧ Below wr.heap.size wr w') := by rw [← hq]; exact HQ
            have HT2 := Lib.hid (show q = true → ∀ y ∈ (e.au).take (k + 1), evF y = true by
              intro h y hy
              rw [List.take_add_one, hgx] at hy
              rcases List.mem_append.1 hy with hy | hy
              · exact HK.out.2.2 y hy
              · have : y = x := by simpa using hy
                rw [this, hq, h])
            have HF := Lib.hid (show q = false → ¬ CanBe e by
              intro h hh
              have := hh.1.1 x hxi
              rw [hq, h] at this; cases this)
            clear hq hxx hgx hmx hkx hxi
            simp only [hA]
            clear hA
            go_wp2_with fail
            refine HQ.out.mono ?_
            rintro en w4 ⟨rfl, hb4⟩
            have H4 := Lib.hid (And.intro (HK.out.1.then_ hb4) (HK.out.2.1.later hb4))
            clear hb4
            cases q with
            | true =>
              go_wp2_with fail
              exact ⟨⟨k + 1, by omega, by go_num, Lib.hid ⟨H4.out.1, H4.out.2, HT2.out (by first | trivial | rfl)⟩⟩, by simp [intOf]; omega⟩
            | false =>
              go_wp2_with fail
              go_ret
              exact HBAD.out _ H4.out.1 (HF.out (by first | trivial | rfl))
          · obtain rfl : a.nu = k := by omega
            have HALL2 := Lib.hid (show ∀ x ∈ e.pv ++ e.au, evF x = true by
              have := HK.out.2.2
              rw [HN.out.2.1, List.take_length] at this
              intro x hx
              rcases List.mem_append.1 hx with h | h
              · exact HALL1.out x h
              · exact this x h)
            have d16 := HK.out.2.1.cell (k := 16) rfl
            have HK2 := Lib.hid (And.intro HK.out.1 HK.out.2.1)
            clear HK HALL1 HK1
            go_wp2_with fail
            clear d16
            go_loopw [49] (fun i wr => ∃ k : Nat, k ≤ a.ns ∧ i = .int .i64 (k : Int) ∧ Hid (Below w.heap.size w wr ∧ Blk wr w.heap.size 29 (evC e a) ∧ ∀ j, j < k → sigAt e.sg j)) (fun i _ => a.ns - (intOf i).toNat)
            case atStart => exact ⟨0, Nat.zero_le _, rfl, Lib.hid ⟨HK2.out.1, HK2.out.2, fun j hj => absurd hj (Nat.not_lt_zero _)⟩⟩
            case round =>
              obtain ⟨k, hk, rfl, HK⟩ := hrel
              by_cases hp : k < a.ns
              · have hkx : k < e.sg.length := by rw [← HN.out.2.2]; exact hp
                obtain ⟨b0, off, hA, hb0, r0⟩ := sg_row HE.out.2.2.2.1.1 HK.out.1 hkx
                have hgx := List.getElem?_eq_getElem hkx
                have hmx := List.getElem_mem hkx
                obtain ⟨x, hxx⟩ : ∃ x, e.sg[k] = x := ⟨_, rfl⟩
                rw [hxx] at r0 hgx hmx
                obtain ⟨x1, x2, x3⟩ := x
                dsimp only at r0
                have HXK := Lib.hid hgx
                have HXB := Lib.hid (HS.out.2.2.2 _ hmx)
                have HBS : Hid (¬ sigAt e.sg k → ¬ CanBe e) := Lib.hid (fun h h2 => h (h2.2.2.2.2 k hkx))
                have HAA := Lib.hid hA
                have c0 := r0 0 _ rfl
                have c1 := r0 1 _ rfl
                have c2 := r0 2 _ rfl
                rw [Nat.add_zero] at c0
                clear r0 hxx hkx hgx hmx
                simp only [hA]
                clear hA
                go_upto_region 18 with fail
                obtain ⟨g4, eg⟩ : ∃ g, wr.heap.size = g := ⟨_, rfl⟩
                have hal : Below wr.heap.size wr (wr.alloc (.cells #[.string ⟨x1.toArray⟩, .string ⟨x2.toArray⟩, .string ⟨x3.toArray⟩] 38)) := (Below.refl _ _).alloc (Nat.le_refl _) _
                have h4 : Blk (wr.alloc (.cells #[.string ⟨x1.toArray⟩, .string ⟨x2.toArray⟩, .string ⟨x3.toArray⟩] 38)) wr.heap.size 38 [.string ⟨x1.toArray⟩, .string ⟨x2.toArray⟩, .string ⟨x3.toArray⟩] := Blk.new wr _ _
                have h5 := HK.out.1.then_ hal
                have h6 := HK.out.2.1.later hal
                rw [eg] at h4 ⊢
                refine wp_gen (fun W => Blk W g4 38 [.string ⟨x1.toArray⟩, .string ⟨x2.toArray⟩, .string ⟨x3.toArray⟩] ∧ Below w.heap.size w W ∧ Blk W w.heap.size 29 (evC e a)) ⟨h4, h5, h6⟩ ?_
                clear hal h4 h5 h6 c0 c1 c2 eg
                rintro w3 ⟨h4, h5, h6⟩
                have H3 := Lib.hid (And.intro h4 (And.intro h5 h6))
                have d0 := h4.cell (k := 0) rfl
                have d1 := h4.cell (k := 1) rfl
                have d2 := h4.cell (k := 2) rfl
                have HS1 := Lib.hid (refserver_calls x1 w3 HXB.out.1)
                have HS2 := Lib.hid (refkey_calls x2 w3 HXB.out.2.1)
                have HS3 := Lib.hid (stands_calls x3 64 (by decide) w3 HXB.out.2.2)
                obtain ⟨q1, hq1⟩ : ∃ q, serverF x1 = q := ⟨_, rfl⟩
                obtain ⟨q2, hq2⟩ : ∃ q, keyF x2 = q := ⟨_, rfl⟩
                obtain ⟨q3, hq3⟩ : ∃ q, letN x3 64 = q := ⟨_, rfl⟩
                rw [hq1] at HS1
                rw [hq2] at HS2
                rw [hq3] at HS3
                have HQ := Lib.hid (And.intro hq1 (And.intro hq2 hq3))
                have HSO : Hid (¬ (q1 = true ∧ q2 = true ∧ q3 = true) → ¬ CanBe e) := Lib.hid (fun h h2 => HBS.out (fun ⟨y, h3, h4, _⟩ => by rw [HXK.out] at h3; injection h3 with h3; subst h3; exact h ⟨hq1.symm.trans h4.1, hq2.symm.trans h4.2.1, hq3.symm.trans h4.2.2⟩) h2)
                clear h4 h5 h6 hq1 hq2 hq3
                go_wp2_with fail
                refine HS1.out.mono ?_
                rintro en w4 ⟨rfl, rfl⟩
                cases q1 with
                | false =>
                  go_wp2_with fail
                  go_ret
                  exact HBAD.out _ H3.out.2.1 (HSO.out (by simp))
                | true =>
                  go_wp2_with fail
                  refine HS2.out.mono ?_
                  rintro en w4 ⟨rfl, rfl⟩
                  cases q2 with
                  | false =>
                    go_wp2_with fail
                    go_ret
                    exact HBAD.out _ H3.out.2.1 (HSO.out (by simp))
                  | true =>
                    go_wp2_with fail
                    refine HS3.out.mono ?_
                    rintro en w5 ⟨rfl, hb5⟩
                    have H5 := Lib.hid (And.intro (H3.out.1.later hb5) (And.intro (H3.out.2.1.then_ hb5) (H3.out.2.2.later hb5)))
                    clear hb5 d0 d1 d2
                    cases q3 with
                    | false =>
                      go_wp2_with fail
                      go_ret
                      exact HBAD.out _ H5.out.2.1 (HSO.out (by simp))
                    | true =>
                      have HSK : Hid (sigOk ⟨x1, x2, x3⟩) := Lib.hid HQ.out
                      cases k with
                      | zero =>
                        have HOK : Hid (∀ j, j < 1 → sigAt e.sg j) := Lib.hid (fun j hj => by
                          obtain rfl : j = 0 := by omega
                          exact ⟨⟨x1, x2, x3⟩, HXK.out, HSK.out, fun y h => absurd h (Nat.lt_irrefl _)⟩)
                        go_wp2_with fail
                        exact ⟨⟨1, by omega, by go_num, Lib.hid ⟨H5.out.2.1, H5.out.2.2, HOK.out⟩⟩, by simp [intOf]; omega⟩
                      | succ k =>
                        have hky : k < e.sg.length := by rw [← HN.out.2.2]; omega
                        obtain ⟨b1, off1, eA, hb1, r1⟩ := sg_row HE.out.2.2.2.1.1 H5.out.2.1 hky
                        rw [HAA.out] at eA
                        injection eA with eA
                        injection eA with e1 e2
                        subst e1; subst e2
                        have hgy := List.getElem?_eq_getElem hky
                        obtain ⟨y, hyy⟩ : ∃ y, e.sg[k] = y := ⟨_, rfl⟩
                        rw [hyy] at r1 hgy
                        obtain ⟨y1, y2, y3⟩ := y
                        dsimp only at r1
                        have HYK := Lib.hid hgy
                        have c0 := r1 0 _ rfl
                        have c1 := r1 1 _ rfl
                        have c2 := r1 2 _ rfl
                        rw [Nat.add_zero] at c0
                        have hkn : k < a.ns := by omega
                        have d16 := H5.out.2.2.cell (k := 16) rfl
                        rw [HAA.out] at d16
                        have hwk := wrapk k (by omega)
                        clear r1 hyy hgy hky hb1
                        go_upto_region 22 with fail
                        obtain ⟨g6, eg⟩ : ∃ g, w5.heap.size = g := ⟨_, rfl⟩
                        have hal : Below w5.heap.size w5 (w5.alloc (.cells #[.string ⟨y1.toArray⟩, .string ⟨y2.toArray⟩, .string ⟨y3.toArray⟩] 38)) := (Below.refl _ _).alloc (Nat.le_refl _) _
                        have h4 : Blk (w5.alloc (.cells #[.string ⟨y1.toArray⟩, .string ⟨y2.toArray⟩, .string ⟨y3.toArray⟩] 38)) w5.heap.size 38 [.string ⟨y1.toArray⟩, .string ⟨y2.toArray⟩, .string ⟨y3.toArray⟩] := Blk.new w5 _ _
                        have h5 := H5.out.2.1.then_ hal
                        have h6 := H5.out.2.2.later hal
                        have h7 := H5.out.1.later hal
                        rw [eg] at h4 ⊢
                        refine wp_gen (fun W => Blk W g6 38 [.string ⟨y1.toArray⟩, .string ⟨y2.toArray⟩, .string ⟨y3.toArray⟩] ∧ Below w.heap.size w W ∧ Blk W w.heap.size 29 (evC e a) ∧ Blk W g4 38 [.string ⟨x1.toArray⟩, .string ⟨x2.toArray⟩, .string ⟨x3.toArray⟩]) ⟨h4, h5, h6, h7⟩ ?_
                        clear hal h4 h5 h6 h7 c0 c1 c2 d16 eg H5
                        rintro w6 ⟨h4, h5, h6, h7⟩
                        have H6 := Lib.hid (And.intro h5 h6)
                        have e0 := h4.cell (k := 0) rfl
                        have e1 := h4.cell (k := 1) rfl
                        have f0 := h7.cell (k := 0) rfl
                        have f1 := h7.cell (k := 1) rfl
                        obtain ⟨q1, hq1⟩ : ∃ q, Op.bytesLess y1 x1 = q := ⟨_, rfl⟩
                        obtain ⟨q2, hq2⟩ : ∃ q, (y1 == x1) = q := ⟨_, rfl⟩
                        obtain ⟨q3, hq3⟩ : ∃ q, Op.bytesLess y2 x2 = q := ⟨_, rfl⟩
                        have HR : Hid ((!(q1 || q2) || (q2 && !q3)) = false ↔ sgR ⟨y1, y2, y3⟩ ⟨x1, x2, x3⟩) := Lib.hid (by rw [← badS_iff, ← hq1, ← hq2, ← hq3]; exact Iff.rfl)
                        have HNO : Hid (¬ sgR ⟨y1, y2, y3⟩ ⟨x1, x2, x3⟩ → ¬ CanBe e) := Lib.hid (fun h => HBS.out (fun ⟨z, h1, _, h3⟩ => h (by
                          rw [HXK.out] at h1; injection h1 with h1; subst h1
                          exact h3 ⟨y1, y2, y3⟩ (Nat.succ_pos _) HYK.out)))
                        have HYES : Hid (sgR ⟨y1, y2, y3⟩ ⟨x1, x2, x3⟩ → ∀ j, j < k + 1 + 1 → sigAt e.sg j) := Lib.hid (fun hr j hj => by
                          rcases Nat.lt_or_ge j (k + 1) with h | h
                          · exact HK.out.2.2 j h
                          · obtain rfl : j = k + 1 := by omega
                            refine ⟨⟨x1, x2, x3⟩, HXK.out, HSK.out, fun z _ hz => ?_⟩
                            rw [show k + 1 - 1 = k from rfl, HYK.out] at hz
                            injection hz with hz
                            rw [← hz]
                            exact hr)
                        clear h4 h5 h6 h7
                        cases q2 with
                        | true =>
                          cases q3 with
                          | true =>
                            have HZ := Lib.hid (HYES.out (HR.out.1 (by first | rfl | simp)))
                            go_wp2_with fail
                            exact ⟨⟨k + 1 + 1, by omega, by go_num, Lib.hid ⟨H6.out.1, H6.out.2, HZ.out⟩⟩, by simp [intOf]; omega⟩
                          | false =>
                            have HZ := Lib.hid (HNO.out (fun h => by have := HR.out.2 h; simp at this))
                            go_wp2_with fail
                            go_ret
                            exact HBAD.out _ H6.out.1 HZ.out
                        | false =>
                          cases q1 with
                          | true =>
                            have HZ := Lib.hid (HYES.out (HR.out.1 (by first | rfl | simp)))
                            go_wp2_with fail
                            exact ⟨⟨k + 1 + 1, by omega, by go_num, Lib.hid ⟨H6.out.1, H6.out.2, HZ.out⟩⟩, by simp [intOf]; omega⟩
                          | false =>
                            have HZ := Lib.hid (HNO.out (fun h => by have := HR.out.2 h; simp at this))
                            go_wp2_with fail
                            go_ret
                            exact HBAD.out _ H6.out.1 HZ.out
              · obtain rfl : a.ns = k := by omega
                have HSG : Hid (sigsP e.sg) := Lib.hid (fun i hi => HK.out.2.2 i (by rw [HN.out.2.2]; exact hi))
                have HK3 := Lib.hid (And.intro HK.out.1 HK.out.2.1)
                clear HK HK2
                have HVO := Lib.hid (HE.out.1.below HK3.out.1)
                have hrg := ev_ct (e := e) (a := a) (o := 0) HK3.out.2.rng
                obtain ⟨⟨cb, cx⟩, hcr⟩ : ∃ c, canF e.ct = c := ⟨_, rfl⟩
                have HCR := Lib.hid hcr
                have HC := Lib.hid (refcanon_ok HVO.out (HT.out.below HK3.out.1) hcr)
                clear hcr
                go_wp2_with (refine wpList_load_mid rfl 25 (.tmp 99) rfl w.heap.size 5 rfl (vlC e.ct a.A a.B a.nl a.cl a.nm a.cm) _ hrg Tryd.underlying25 rfl (size_vl _ _ _ _ _ _ _) ?_)
                clear hrg
                refine HC.out.mono ?_
                rintro en w7 ⟨rfl, hb⟩
                have H7 := Lib.hid (And.intro (HK3.out.1.then_ hb) (HK3.out.2.later hb))
                clear hb HC
                have hx := H7.out.2
                have d0 := hx.cell (k := 0) rfl
                have d1 := hx.cell (k := 1) rfl
                have d2 := hx.cell (k := 2) rfl
                have d3 := hx.cell (k := 3) rfl
                have d4 := hx.cell (k := 4) rfl
                have d5 := hx.cell (k := 5) rfl
                have d13 := hx.cell (k := 13) rfl
                have d14 := hx.cell (k := 14) rfl
                have d15 := hx.cell (k := 15) rfl
                clear hx
                have HCS : Hid (¬ 0 ≤ e.dp ∨ (0 ≤ e.dp ∧ ¬ e.dp < 9007199254740992) ∨ (0 ≤ e.dp ∧ e.dp < 9007199254740992 ∧ ¬ 0 ≤ e.tm) ∨ (0 ≤ e.dp ∧ e.dp < 9007199254740992 ∧ 0 ≤ e.tm ∧ ¬ e.tm < 9007199254740992) ∨ (0 ≤ e.dp ∧ e.dp < 9007199254740992 ∧ 0 ≤ e.tm ∧ e.tm < 9007199254740992)) := Lib.hid (by omega)
                have HS1 := Lib.hid (refroom_calls e.rm w7 HS.out.1.1)
                have HS2 := Lib.hid (nRefuser_calls e.sd w7 HS.out.1.2.1)
                have HS3 := Lib.hid (few_calls e.ty w7 HS.out.1.2.2.1)
                have HS4 := Lib.hid (few_calls e.ky w7 HS.out.1.2.2.2.1)
                have HS5 := Lib.hid (stands_calls e.hs 32 (by decide) w7 HS.out.1.2.2.2.2)
                obtain ⟨q1, hq1⟩ : ∃ q, roomF e.rm = q := ⟨_, rfl⟩
                obtain ⟨q2, hq2⟩ : ∃ q, nUserF e.sd = q := ⟨_, rfl⟩
                obtain ⟨q3, hq3⟩ : ∃ q, shortF e.ty = q := ⟨_, rfl⟩
                obtain ⟨q4, hq4⟩ : ∃ q, shortF e.ky = q := ⟨_, rfl⟩
                obtain ⟨q5, hq5⟩ : ∃ q, letN e.hs 32 = q := ⟨_, rfl⟩
                obtain ⟨q6, hq6⟩ : ∃ q, (e.ty == []) = q := ⟨_, rfl⟩
                obtain ⟨q7, hq7⟩ : ∃ q, (e.ky == []) = q := ⟨_, rfl⟩
                obtain ⟨q8, hq8⟩ : ∃ q, e.st = q := ⟨_, rfl⟩
                rw [hq1] at HS1
                rw [hq2] at HS2
                rw [hq3] at HS3
                rw [hq4] at HS4
                rw [hq5] at HS5
                rw [hq8] at d3
                have HN1 : Hid (q1 = false → ¬ CanBe e) := Lib.hid (fun h h2 => by have := h2.1.2.1; rw [hq1, h] at this; cases this)
                have HN2 : Hid (q2 = false → ¬ CanBe e) := Lib.hid (fun h h2 => by have := h2.1.2.2; rw [hq2, h] at this; cases this)
                have HN3 : Hid (q3 = false → ¬ CanBe e) := Lib.hid (fun h h2 => by have := h2.2.1.1.2.1; rw [hq3, h] at this; cases this)
                have HN4 : Hid (q4 = false → ¬ CanBe e) := Lib.hid (fun h h2 => by have := h2.2.1.1.2.2.1; rw [hq4, h] at this; cases this)
                have HN5 : Hid (q5 = false → ¬ CanBe e) := Lib.hid (fun h h2 => by have := h2.2.2.2.1; rw [hq5, h] at this; cases this)
                have HN6 : Hid (q6 = true → ¬ CanBe e) := Lib.hid (fun h h2 => by have := h2.2.1.1.1; rw [h] at hq6; exact this (by simpa using hq6))
                have HN7 : Hid (q7 = false → q8 = false → ¬ CanBe e) := Lib.hid (fun h h3 h2 => by
                  have := h2.2.1.1.2.2.2
                  rw [hq8, h3] at this
                  rw [h] at hq7
                  rcases this with h4 | h4
                  · rw [h4] at hq7; cases hq7
                  · cases h4)
                have HNK : Hid (e.ct.kd ≠ 5 → ¬ CanBe e) := Lib.hid (fun h h2 => h h2.2.1.2.1)
                have HNE : Hid (cx ≠ 0 → ¬ CanBe e) := Lib.hid (fun h h2 => h (by have := h2.2.1.2.2; rw [HCR.out] at this; exact this))
                have HNC : Hid (¬ (0 ≤ e.dp ∧ e.dp < 9007199254740992 ∧ 0 ≤ e.tm ∧ e.tm < 9007199254740992) → ¬ CanBe e) := Lib.hid (fun h h2 => h (by have := h2.2.2.1; unfold countP at this; omega))
                have HOK : Hid (q1 = true → q2 = true → q3 = true → q4 = true → q5 = true → q6 = false → (q7 = true ∨ q8 = true) → e.ct.kd = 5 → cx = 0 → (0 ≤ e.dp ∧ e.dp < 9007199254740992 ∧ 0 ≤ e.tm ∧ e.tm < 9007199254740992) → ChkIs e 0) := Lib.hid (fun h1 h2 h3 h4 h5 h6 h7 h8 h9 h10 =>
                  .inr (.inl ⟨HY.out, ⟨⟨HALL2.out, hq1.trans h1, hq2.trans h2⟩, ⟨⟨(fun h => by rw [h6, h] at hq6; cases hq6), hq3.trans h3, hq4.trans h4, h7.elim (fun h => .inl (by rw [h] at hq7; simpa using hq7)) (fun h => .inr (hq8.trans h))⟩, h8, by rw [HCR.out]; exact h9⟩, (by unfold countP; omega), hq5.trans h5, HSG.out⟩, rfl⟩))
                clear hq1 hq2 hq3 hq4 hq5 hq8
                go_wp2_with fail
                refine HS1.out.mono ?_
                rintro en w8 ⟨rfl, rfl⟩
                cases q1 with
                | false =>
                  have HZ := Lib.hid (HN1.out (by first | rfl | trivial))
                  rcases HCS.out with c | ⟨c, c2⟩ | ⟨c, c2, c3⟩ | ⟨c, c2, c3, c4⟩ | ⟨c, c2, c3, c4⟩
                  · go_wp2_with fail
                    go_ret
                    exact HBAD.out _ H7.out.1 HZ.out
                  · go_wp2_with fail
                    go_ret
                    exact HBAD.out _ H7.out.1 HZ.out
                  · go_wp2_with fail
                    go_ret
                    exact HBAD.out _ H7.out.1 HZ.out
                  · go_wp2_with fail
                    go_ret
                    exact HBAD.out _ H7.out.1 HZ.out
                  · go_wp2_with fail
                    go_ret
                    exact HBAD.out _ H7.out.1 HZ.out
                | true =>
                  go_wp2_with fail
                  refine HS2.out.mono ?_
                  rintro en w8 ⟨rfl, rfl⟩
                  cases q2 with
                  | false =>
                    have HZ := Lib.hid (HN2.out (by first | rfl | trivial))
                    rcases HCS.out with c | ⟨c, c2⟩ | ⟨c, c2, c3⟩ | ⟨c, c2, c3, c4⟩ | ⟨c, c2, c3, c4⟩
                    · go_wp2_with fail
                      go_ret
                      exact HBAD.out _ H7.out.1 HZ.out
                    · go_wp2_with fail
                      go_ret
                      exact HBAD.out _ H7.out.1 HZ.out
                    · go_wp2_with fail
                      go_ret
                      exact HBAD.out _ H7.out.1 HZ.out
                    · go_wp2_with fail
                      go_ret
                      exact HBAD.out _ H7.out.1 HZ.out
                    · go_wp2_with fail
                      go_ret
                      exact HBAD.out _ H7.out.1 HZ.out
                  | true =>
                    cases q6 with
                    | true =>
                      have HZ := Lib.hid (HN6.out (by first | rfl | trivial))
                      rcases HCS.out with c | ⟨c, c2⟩ | ⟨c, c2, c3⟩ | ⟨c, c2, c3, c4⟩ | ⟨c, c2, c3, c4⟩
                      · go_wp2_with fail
                        go_ret
                        exact HBAD.out _ H7.out.1 HZ.out
                      · go_wp2_with fail
                        go_ret
                        exact HBAD.out _ H7.out.1 HZ.out
                      · go_wp2_with fail
                        go_ret
                        exact HBAD.out _ H7.out.1 HZ.out
                      · go_wp2_with fail
                        go_ret
                        exact HBAD.out _ H7.out.1 HZ.out
                      · go_wp2_with fail
                        go_ret
                        exact HBAD.out _ H7.out.1 HZ.out
                    | false =>
                      go_wp2_with fail
                      refine HS3.out.mono ?_
                      rintro en w8 ⟨rfl, rfl⟩
                      cases q3 with
                      | false =>
                        have HZ := Lib.hid (HN3.out (by first | rfl | trivial))
                        rcases HCS.out with c | ⟨c, c2⟩ | ⟨c, c2, c3⟩ | ⟨c, c2, c3, c4⟩ | ⟨c, c2, c3, c4⟩
                        · go_wp2_with fail
                          go_ret
                          exact HBAD.out _ H7.out.1 HZ.out
                        · go_wp2_with fail
                          go_ret
                          exact HBAD.out _ H7.out.1 HZ.out
                        · go_wp2_with fail
                          go_ret
                          exact HBAD.out _ H7.out.1 HZ.out
                        · go_wp2_with fail
                          go_ret
                          exact HBAD.out _ H7.out.1 HZ.out
                        · go_wp2_with fail
                          go_ret
                          exact HBAD.out _ H7.out.1 HZ.out
                      | true =>
                        go_wp2_with fail
                        refine HS4.out.mono ?_
                        rintro en w8 ⟨rfl, rfl⟩
                        cases q4 with
                        | false =>
                          have HZ := Lib.hid (HN4.out (by first | rfl | trivial))
                          rcases HCS.out with c | ⟨c, c2⟩ | ⟨c, c2, c3⟩ | ⟨c, c2, c3, c4⟩ | ⟨c, c2, c3, c4⟩
                          · go_wp2_with fail
                            go_ret
                            exact HBAD.out _ H7.out.1 HZ.out
                          · go_wp2_with fail
                            go_ret
                            exact HBAD.out _ H7.out.1 HZ.out
                          · go_wp2_with fail
                            go_ret
                            exact HBAD.out _ H7.out.1 HZ.out
                          · go_wp2_with fail
                            go_ret
                            exact HBAD.out _ H7.out.1 HZ.out
                          · go_wp2_with fail
                            go_ret
                            exact HBAD.out _ H7.out.1 HZ.out
                        | true =>
                          by_cases hc : 0 ≤ e.dp ∧ e.dp < 9007199254740992 ∧ 0 ≤ e.tm ∧ e.tm < 9007199254740992
                          · obtain ⟨c1, c2, c3, c4⟩ := hc
                            cases q8 with
                            | true =>
                              have HQ7 := Lib.hid (show True from trivial)
                              by_cases hk : e.ct.kd = 5
                              · have d5 := hk ▸ d5
                                by_cases hx : cx = 0
                                · subst hx
                                  go_wp2_with fail
                                  refine HS5.out.mono ?_
                                  rintro en w9 ⟨rfl, hb⟩
                                  have HB9 := Lib.hid (H7.out.1.then_ hb)
                                  cases q5 with
                                  | false =>
                                    have HZ := Lib.hid (HN5.out (by first | rfl | trivial))
                                    go_wp2_with fail
                                    go_ret
                                    exact HBAD.out _ HB9.out HZ.out
                                  | true =>
                                    have HZ : Hid (ChkIs e 0) := Lib.hid (HOK.out (by first | rfl | trivial) (by first | rfl | trivial) (by first | rfl | trivial) (by first | rfl | trivial) (by first | rfl | trivial) (by first | rfl | trivial) (by first | exact .inr rfl | exact .inr trivial) hk (by first | rfl | trivial) ⟨c1, c2, c3, c4⟩)
                                    go_wp2_with fail
                                    go_ret
                                    exact ⟨0, rfl, HZ.out, HB9.out⟩
                                · have HZ := Lib.hid (HNE.out hx)
                                  have hx2 : (cx == 0) = false := by simpa using hx
                                  go_wp2_with fail
                                  go_ret
                                  exact HBAD.out _ H7.out.1 HZ.out
                              · have HZ := Lib.hid (HNK.out hk)
                                have hk2 : (e.ct.kd == 5) = false := by simpa using hk
                                go_wp2_with fail
                                go_ret
                                exact HBAD.out _ H7.out.1 HZ.out
                            | false =>
                              cases q7 with
                              | true =>
                                have HQ7 := Lib.hid (show True from trivial)
                                by_cases hk : e.ct.kd = 5
                                · have d5 := hk ▸ d5
                                  by_cases hx : cx = 0
                                  · subst hx
                                    go_wp2_with fail
                                    refine HS5.out.mono ?_
                                    rintro en w9 ⟨rfl, hb⟩
                                    have HB9 := Lib.hid (H7.out.1.then_ hb)
                                    cases q5 with
                                    | false =>
                                      have HZ := Lib.hid (HN5.out (by first | rfl | trivial))
                                      go_wp2_with fail
                                      go_ret
                                      exact HBAD.out _ HB9.out HZ.out
                                    | true =>
                                      have HZ : Hid (ChkIs e 0) := Lib.hid (HOK.out (by first | rfl | trivial) (by first | rfl | trivial) (by first | rfl | trivial) (by first | rfl | trivial) (by first | rfl | trivial) (by first | rfl | trivial) (by first | exact .inl rfl | exact .inl trivial) hk (by first | rfl | trivial) ⟨c1, c2, c3, c4⟩)
                                      go_wp2_with fail
                                      go_ret
                                      exact ⟨0, rfl, HZ.out, HB9.out⟩
                                  · have HZ := Lib.hid (HNE.out hx)
                                    have hx2 : (cx == 0) = false := by simpa using hx
                                    go_wp2_with fail
                                    go_ret
                                    exact HBAD.out _ H7.out.1 HZ.out
                                · have HZ := Lib.hid (HNK.out hk)
                                  have hk2 : (e.ct.kd == 5) = false := by simpa using hk
                                  go_wp2_with fail
                                  go_ret
                                  exact HBAD.out _ H7.out.1 HZ.out
                              | false =>
                                have HZ := Lib.hid (HN7.out (by first | rfl | trivial) (by first | rfl | trivial))
                                go_wp2_with fail
                                go_ret
                                exact HBAD.out _ H7.out.1 HZ.out
                          · have HZ := Lib.hid (HNC.out hc)
                            rcases HCS.out with c | ⟨c, c2⟩ | ⟨c, c2, c3⟩ | ⟨c, c2, c3, c4⟩ | hc2
                            · go_wp2_with fail
                              go_ret
                              exact HBAD.out _ H7.out.1 HZ.out
                            · go_wp2_with fail
                              go_ret
                              exact HBAD.out _ H7.out.1 HZ.out
                            · go_wp2_with fail
                              go_ret
                              exact HBAD.out _ H7.out.1 HZ.out
                            · go_wp2_with fail
                              go_ret
                              exact HBAD.out _ H7.out.1 HZ.out
                            · exact absurd hc2 hc
end Go.Proofs.YtonpkbiplcbodaaDoor
