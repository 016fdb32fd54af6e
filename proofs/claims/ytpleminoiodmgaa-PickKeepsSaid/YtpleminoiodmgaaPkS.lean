/- Layer 16: PickStates, walked. -/
import Derived.Test.YtpleminoiodmgaaPkR
import Derived.Test.YtpleminoiodmgaaPkT
import Derived.Deep.RegionHeld3
namespace Go.Proofs.Ytpleminoiodmgaa
open Go.ChangeShapes Go.WideShapes Go.ChangeAt Go.RowKit Go.IntWalk
set_option linter.unusedVariables false

theorem ok_two : ∀ x ∈ putF [] (Slt.mk [97] [] [36]), x.ok := by
  intro x hx
  rcases putF_mem hx with h | h
  · cases h
  · rw [h]; exact ⟨by simp, by simp, by simp⟩
theorem cells3 {W : World} {g : Nat} {T : TypeId} {a b c : Value} (h : Blk W g T [a, b, c]) : W.cell? ⟨g, 0, none⟩ = some a ∧ W.cell? ⟨g, 1, none⟩ = some b ∧ W.cell? ⟨g, 2, none⟩ = some c := ⟨h.cell rfl, h.cell rfl, h.cell rfl⟩
set_option maxHeartbeats 8000000 in
set_option maxRecDepth 100000 in
theorem pickStates_walk (A : Option Addr) (n c : Nat) (xs : List Slt) {w : World} (hx : Own22 w A n c xs) (s : Slt) (hs : s.ok) :
    Calls Try.prog 3 #[.slice A n c, s.val] w fun e w' => e = .returned (.bool true) ∧ Below w.heap.size w w' := by
  have HX := Lib.hid hx
  have hnm : n ≤ 9223372036854775807 := Nat.le_trans hx.2.2.1 hx.2.2.2.1
  have HS := Lib.hid hs
  clear hx hs
  obtain ⟨st, sk, si⟩ := s
  unfold Slt.val
  dsimp only
  go_enter Try.func3, Try.ntmps3
  go_wp2_with fail
  obtain ⟨wa, hwa⟩ : ∃ x, x = w.alloc (.cells #[.string ⟨st.toArray⟩, .string ⟨sk.toArray⟩, .string ⟨si.toArray⟩] 24) := ⟨_, rfl⟩
  have hpb : Blk wa w.heap.size 24 [.string ⟨st.toArray⟩, .string ⟨sk.toArray⟩, .string ⟨si.toArray⟩] := by rw [hwa]; exact Blk.new w _ _
  have hba : Below w.heap.size w wa := by rw [hwa]; exact (Below.refl _ _).alloc (Nat.le_refl _) _
  rw [← hwa]
  have HA := Lib.hid (And.intro hba hpb)
  clear hba hpb hwa
  refine (put_calls none 0 0 [] ⟨[97], [], [36]⟩ wa ⟨RV.nil _ _, Lib.hid rfl, Nat.le_refl _, by decide, by simp⟩ (by decide) List.Pairwise.nil).mono ?_
  rintro e w1 ⟨v1, rfl, o1, b1⟩
  obtain ⟨A1, c1, rfl, hs1⟩ := o1.form ok_two
  have hq1 : putF [] (Slt.mk [97] [] [36]) = [Slt.mk [97] [] [36]] := rfl
  rw [hq1] at hs1 ⊢
  obtain ⟨b0, off, rfl, hb0, r0⟩ := slot_row (k := 0) hs1.1 (Below.refl _ _) (by decide)
  have e2 := r0 2 _ rfl
  rw [Nat.zero_mul, Nat.add_zero] at e2
  have H1 := Lib.hid (And.intro (HA.out.1.then_ b1) (HA.out.2.later b1))
  clear o1 b1 hs1 hq1 r0
  dsimp only [List.getElem_cons_zero] at e2
  go_wp2_with fail
  refine (long_calls A n c xs w1 (Sls.below HX.out H1.out.1)).mono ?_
  rintro e w2 ⟨r, rfl, hr, b2⟩
  have H2 := Lib.hid (And.intro (H1.out.1.then_ b2) (H1.out.2.later b2))
  clear b2 e2
  cases r with
  | true =>
    clear hr
    go_wp2_with fail
    go_ret
    exact ⟨rfl, H2.out.1⟩
  | false =>
    have HN : Hid (n ≤ 8192) := Lib.hid (by rw [HX.out.2.1.out]; exact hr rfl)
    have d0 := H2.out.2.cell (k := 0) rfl
    have d1 := H2.out.2.cell (k := 1) rfl
    have d2 := H2.out.2.cell (k := 2) rfl
    clear hr
    go_wp2_with fail
    refine (long_calls (some ⟨w2.heap.size, 0, none⟩) 1 1 [⟨st, sk, si⟩] _ ⟨RV.of_blk (Blk.new w2 (Slt.cells ⟨st, sk, si⟩) 24), Lib.hid rfl, Nat.le_refl _, by decide, by simpa using HS.out⟩).mono ?_
    rintro e w3 ⟨r, rfl, _, b3⟩
    have H3 := Lib.hid (And.intro (H2.out.1.then_ (Below.of_alloc b3)) (H2.out.2.later (Below.of_alloc b3)))
    clear b3 d0 d1 d2
    cases r with
    | true =>
      go_wp2_with fail
      go_ret
      exact ⟨rfl, H3.out.1⟩
    | false =>
      go_wp2_with fail
      refine (good_calls A n c xs w3 (Sls.below HX.out H3.out.1)).mono ?_
      rintro e w4 ⟨r, rfl, hr1, b4⟩
      have H4 := Lib.hid (And.intro (H3.out.1.then_ b4) (H3.out.2.later b4))
      clear b4
      go_wp2_with fail
      refine (refGood_calls A n c xs w4 (Sls.below HX.out H4.out.1)).mono ?_
      rintro e w5 ⟨r2, rfl, hr2, b5⟩
      have H5 := Lib.hid (And.intro (H4.out.1.then_ b5) (H4.out.2.later b5))
      obtain rfl : r = r2 := by
        cases r <;> cases r2 <;> first | rfl | (exfalso; simp only [Bool.false_eq_true, false_iff, true_iff, iff_true, iff_false] at hr1 hr2; contradiction)
      clear b5 hr2
      have HR := Lib.hid hr1
      clear hr1
      go_wp2_with fail
      refine (refGood_calls A n c xs w5 (Sls.below HX.out H5.out.1)).mono ?_
      rintro e w6 ⟨r3, rfl, hr3, b6⟩
      have H6 := Lib.hid (And.intro (H5.out.1.then_ b6) (H5.out.2.later b6))
      obtain rfl : r = r3 := by
        have hr1 := HR.out
        cases r <;> cases r3 <;> first | rfl | (exfalso; simp only [Bool.false_eq_true, false_iff, true_iff, iff_true, iff_false] at hr1 hr3; contradiction)
      clear b6 hr3
      cases r with
      | false =>
        go_wp2_with fail
        go_ret
        exact ⟨rfl, H6.out.1⟩
      | true =>
        have HRise : Hid (Rise xs) := Lib.hid (HR.out.1 rfl).rise
        have d0 := H6.out.2.cell (k := 0) rfl
        have d1 := H6.out.2.cell (k := 1) rfl
        have d2 := H6.out.2.cell (k := 2) rfl
        go_wp2_with fail
        refine (of_calls ⟨st, sk, si⟩ _).mono ?_
        rintro e w7 ⟨rfl, b7⟩
        have H7 := Lib.hid (And.intro (H6.out.1.then_ b7) (H6.out.2.later b7))
        clear b7 d0 d1 d2
        unfold prV
        dsimp only [Slt.pr]
        obtain ⟨gi, gb, hg⟩ : ∃ gi gb, getF xs (st, sk) = (gi, gb) := ⟨_, _, rfl⟩
        have HG := Lib.hid hg
        clear hg
        go_wp2_with fail
        obtain ⟨wp, hwp⟩ : ∃ x, x = w7.alloc (.cells #[.string ⟨st.toArray⟩, .string ⟨sk.toArray⟩] 28) := ⟨_, rfl⟩
        have hpp : Blk wp w7.heap.size 28 [.string ⟨st.toArray⟩, .string ⟨sk.toArray⟩] := by rw [hwp]; exact Blk.new w7 _ _
        have HP := Lib.hid (And.intro (show Below w.heap.size w wp by rw [hwp]; exact H7.out.1.alloc H7.out.1.size _) (And.intro (show Blk wp w.heap.size 24 _ by rw [hwp]; exact H7.out.2.alloc _) hpp))
        rw [← hwp]
        clear hwp hpp
        refine (get_calls A n c xs (st, sk) wp (Sls.below HX.out HP.out.1) (Nat.le_trans HN.out (by decide)) HRise.out).mono ?_
        rintro e w8 ⟨rfl, b8⟩
        rw [HG.out]
        unfold strV
        dsimp only
        have H8 := Lib.hid (And.intro (HP.out.1.then_ b8) (And.intro (HP.out.2.1.later b8) (HP.out.2.2.later b8)))
        have q0 := H8.out.2.2.cell (k := 0) rfl
        have q1 := H8.out.2.2.cell (k := 1) rfl
        clear b8
        go_wp2_with fail
        refine (refGet_calls A n c xs (st, sk) w8 (Sls.below HX.out H8.out.1)).mono ?_
        rintro e w9 ⟨rfl, b9⟩
        rw [HG.out]
        unfold strV
        dsimp only
        have H9 := Lib.hid (And.intro (H8.out.1.then_ b9) (H8.out.2.1.later b9))
        clear b9 q0 q1
        have d0 := H9.out.2.cell (k := 0) rfl
        have d1 := H9.out.2.cell (k := 1) rfl
        have d2 := H9.out.2.cell (k := 2) rfl
        have HOK : Hid (∀ x ∈ putF xs ⟨st, sk, si⟩, x.ok) := Lib.hid (fun x hx => by
          rcases putF_mem hx with h | h
          · exact HX.out.2.2.2.2 x h
          · rw [h]; exact HS.out)
        have HPUT : Hid (∀ W, Below w.heap.size w W → Calls Try.prog 6 #[.slice A n c, .agg #[.string ⟨st.toArray⟩, .string ⟨sk.toArray⟩, .string ⟨si.toArray⟩]] W (PutPost (putF xs ⟨st, sk, si⟩) W)) := Lib.hid (fun W hW => put_calls A n c xs ⟨st, sk, si⟩ W (Sls.below HX.out hW) HN.out HRise.out)
        have HRPUT : Hid (∀ W, Below w.heap.size w W → Calls Try.prog 14 #[.slice A n c, .agg #[.string ⟨st.toArray⟩, .string ⟨sk.toArray⟩, .string ⟨si.toArray⟩]] W (PutPost (putF xs ⟨st, sk, si⟩) W)) := Lib.hid (fun W hW => refPut_calls A n c xs ⟨st, sk, si⟩ W (Sls.below HX.out hW) HN.out)
        have HDB : Hid (Blk w9.drew w.heap.size 24 _) := Lib.hid H9.out.2.drew
        have ed := cells3 H9.out.2
        have ed2 := cells3 HDB.out
        have HD : Hid (Below w.heap.size w w9.drew) := Lib.hid (H9.out.1.drewN 1)
        go_upto_region 13 with fail
        go_region_held3 (fun W => W.cell? ⟨w.heap.size, 0, none⟩ = some (.string ⟨st.toArray⟩) ∧ W.cell? ⟨w.heap.size, 1, none⟩ = some (.string ⟨sk.toArray⟩) ∧ W.cell? ⟨w.heap.size, 2, none⟩ = some (.string ⟨si.toArray⟩))
          (first | assumption | go_keep | (refine ⟨?_, ?_, ?_⟩ <;> assumption))
          ((first
            | (go_at_call 6; (with_reducible refine (HPUT.out _ HD.out).mono ?_); rintro e wa ⟨va, rfl, oa, ba⟩; obtain ⟨A2, c2, rfl, sa⟩ := oa.form HOK.out; have Ha := Lib.hid (And.intro sa (HD.out.then_ ba)); have Ka := Lib.hid (HDB.out.later ba); have ea := cells3 Ka.out)
            | (go_at_call 14; (with_reducible refine (HRPUT.out _ Ha.out.2).mono ?_); rintro e wb ⟨vb, rfl, ob, bb⟩; obtain ⟨A3, c3, rfl, sb⟩ := ob.form HOK.out; have Hb := Lib.hid (And.intro (Sls.below Ha.out.1 bb) (And.intro sb (Ha.out.2.then_ bb))); have Kb := Lib.hid (Ka.out.later bb); have eb := cells3 Kb.out)
            | (go_at_call 13; (with_reducible refine (same_calls A2 _ c2 A3 _ c3 _ _ Hb.out.1 Hb.out.2.1).mono ?_); rintro e wc ⟨rfl, bc⟩; have Hc := Lib.hid (Hb.out.2.2.then_ bc); have ec := cells3 (Kb.out.later bc))))
        all_goals
          clear ea eb ec ed ed2 d0 d1 d2
          go_wp2_with fail
          go_ret
          exact ⟨rfl, Hc.out⟩
theorem pickStates_open0 {H : Type} {enc : TypeId × Value → H} {w : World} {base : Nat} {held : Bool} {A : Option Addr} {n c : Nat} {d : DataW H} {p : List MemPlace}
    (h : DataW.Trod enc Try.prog w base (fun _ => true) held 22 (.slice A n c) d p) (hwt : ∀ q ∈ d.weights Try.prog 22, q ≤ reachBytes) : ∃ xs, Own22 w A n c xs := slots_open h hwt
end Go.Proofs.Ytpleminoiodmgaa
