/- Layer 16: the document's Put, walked. -/
import Derived.Test.YtpleminoiodmgaaPkH
namespace Go.Proofs.Ytpleminoiodmgaa
open Go.ChangeShapes Go.WideShapes Go.ChangeAt Go.RowKit Go.IntWalk
set_option linter.unusedVariables false

def PutPost (xs : List Slt) (w : World) (e : Ending) (w' : World) : Prop := ∃ v, e = .returned v ∧ OwnS w.heap.size w' v xs ∧ Below w.heap.size w w'
set_option maxHeartbeats 4000000 in
set_option maxRecDepth 100000 in
theorem refPut_calls (A : Option Addr) (n c : Nat) (xs : List Slt) (s : Slt) (w : World) (hx : Sls w A n c xs) (hnb : n ≤ 8192) : Calls Try.prog 14 #[.slice A n c, s.val] w (PutPost (putF xs s) w) := by
  have HNB := Lib.hid hnb
  clear hnb
  obtain ⟨hrv, hn, hnc, hc63, hok⟩ := hx
  have hnm : n ≤ 9223372036854775807 := Nat.le_trans hnc hc63
  obtain ⟨st, sk, si⟩ := s
  unfold Slt.val
  dsimp only
  go_enter Try.func14, Try.ntmps14
  go_wp2_with fail
  obtain ⟨wa, hwa⟩ : ∃ x, x = w.alloc (.cells #[.string ⟨st.toArray⟩, .string ⟨sk.toArray⟩, .string ⟨si.toArray⟩] 24) := ⟨_, rfl⟩
  have hpb : Blk wa w.heap.size 24 [.string ⟨st.toArray⟩, .string ⟨sk.toArray⟩, .string ⟨si.toArray⟩] := by rw [hwa]; exact Blk.new w _ _
  have hrv : RV wa A (slC xs) := by rw [hwa]; exact hrv.alloc _
  have hbw : Below w.heap.size w wa := by rw [hwa]; exact (Below.refl _ _).alloc (Nat.le_refl _) _
  rw [← hwa]
  have HH := Lib.hid (And.intro hrv (And.intro hpb (And.intro hbw hn.out)))
  clear hrv hpb hbw hn hwa hok
  go_loopw [5, 12] (fun o i wr => ∃ (k : Nat) (v : Value), k ≤ n ∧ v = o ∧ i = .int .i64 (k : Int) ∧ OwnS wa.heap.size wr v ((xs.take k).filter fun x => decide (cmpP x.pr (Slt.mk st sk si).pr = -1)) ∧ Below wa.heap.size wa wr) (fun o i _ => n - (intOf i).toNat)
  case atStart => exact ⟨0, .slice none 0 0, Nat.zero_le _, rfl, rfl, OwnS.nil _ _, Below.refl _ _⟩
  case round =>
    obtain ⟨k, v, hk, rfl, rfl, ho, hbe⟩ := hrel
    by_cases hp : k < n
    · have hkx : k < xs.length := by rw [← HH.out.2.2.2]; exact hp
      obtain ⟨b0, off, rfl, hb0, r0⟩ := slot_row HH.out.1 hbe hkx
      have hgx := List.getElem?_eq_getElem hkx
      obtain ⟨x, hxx⟩ : ∃ x, xs[k] = x := ⟨_, rfl⟩
      rw [hxx] at r0 hgx
      obtain ⟨xt, xk, xi⟩ := x
      dsimp only at r0
      have HXK := Lib.hid hgx
      clear hxx hkx hgx
      have c0 := r0 0 _ rfl
      have c1 := r0 1 _ rfl
      have c2 := r0 2 _ rfl
      rw [Nat.add_zero] at c0
      clear r0
      have HO := Lib.hid (And.intro ho hbe)
      clear ho
      go_upto_region 5 with fail
      obtain ⟨wv, hwv⟩ : ∃ x, x = wr.alloc (.cells #[.string ⟨xt.toArray⟩, .string ⟨xk.toArray⟩, .string ⟨xi.toArray⟩] 24) := ⟨_, rfl⟩
      rw [← hwv]
      have hsb : Blk wv wr.heap.size 24 [.string ⟨xt.toArray⟩, .string ⟨xk.toArray⟩, .string ⟨xi.toArray⟩] := by rw [hwv]; exact Blk.new wr _ _
      have hpw : Blk wv w.heap.size 24 [.string ⟨st.toArray⟩, .string ⟨sk.toArray⟩, .string ⟨si.toArray⟩] := by rw [hwv]; exact (HH.out.2.1.later hbe).alloc _
      have HV : Hid (OwnS wa.heap.size wv v ((xs.take k).filter fun x => decide (cmpP x.pr (Slt.mk st sk si).pr = -1)) ∧ Below wa.heap.size wa wv) := Lib.hid (by rw [hwv]; exact ⟨HO.out.1.alloc _, hbe.alloc hbe.size _⟩)
      obtain ⟨tb, htb⟩ : ∃ tb, decide (cmpP (xt, xk) (st, sk) = -1) = tb := ⟨_, rfl⟩
      have HC : Hid (∀ W, Calls Try.prog 21 #[prV (xt, xk), prV (st, sk)] W fun e w' => e = .returned (.bool tb) ∧ Below W.heap.size W w') := Lib.hid (fun W => by rw [← htb]; exact less_calls _ _ W)
      have HT := Lib.hid htb
      clear htb c0 c1 c2 hwv hbe
      apply wp_region_ls (by kernel_rfl) (by kernel_rfl)
      apply ls_load 24 (.tmp 7) rfl wr.heap.size 0 _ _ hsb.rng hsb.lt Try.underlying24 rfl size_slot rfl rfl
      simp only [Act.put, List.setIfInBounds_toArray, List.set_cons_succ, List.set_cons_zero]
      apply ls_callx (prV (xt, xk)) 10 #[Slt.val ⟨xt, xk, xi⟩] rfl (by intro W; go_simp; rfl) (fun W => of_calls ⟨xt, xk, xi⟩ W)
      simp only [Act.put, List.setIfInBounds_toArray, List.set_cons_succ, List.set_cons_zero]
      apply ls_load 24 (.tmp 3) rfl w.heap.size 0 _ _ hpw.rng hpw.lt Try.underlying24 rfl size_slot rfl rfl
      simp only [Act.put, List.setIfInBounds_toArray, List.set_cons_succ, List.set_cons_zero]
      apply ls_callx (prV (st, sk)) 10 #[Slt.val ⟨st, sk, si⟩] rfl (by intro W; go_simp; rfl) (fun W => of_calls ⟨st, sk, si⟩ W)
      simp only [Act.put, List.setIfInBounds_toArray, List.set_cons_succ, List.set_cons_zero]
      apply ls_callx (.bool tb) 21 #[prV (xt, xk), prV (st, sk)] rfl (by intro W; go_simp) (fun W => HC.out W)
      simp only [Act.put, List.setIfInBounds_toArray, List.set_cons_succ, List.set_cons_zero]
      refine ls_nil (Rs := []) ?_
      intro w4 b4
      have hs4 := hsb.later b4
      have d0 := hs4.cell (k := 0) rfl
      have d1 := hs4.cell (k := 1) rfl
      have d2 := hs4.cell (k := 2) rfl
      have H4 := Lib.hid (And.intro (HV.out.1.below b4) (HV.out.2.then_ b4))
      clear hsb hpw b4 hs4
      cases tb with
      | true =>
        have HL : Hid (((xs.take k).filter fun x => decide (cmpP x.pr (Slt.mk st sk si).pr = -1)).length + 1 ≤ 1000000) := Lib.hid (by
          have h1 := List.length_filter_le (fun x : Slt => decide (cmpP x.pr (Slt.mk st sk si).pr = -1)) (xs.take k)
          have h0 := List.length_filter_le (fun x : Slt => decide (cmpP x.pr (Slt.mk st sk si).pr = -1)) xs
          have h2 := HNB.out
          have h3 := HH.out.2.2.2
          simp only [List.length_take, List.length_append, List.length_cons] at *
          omega)
        go_wp2_with (at_builtin; refine wpList_append_slot rfl _ _ rfl wa.heap.size v _ rfl H4.out.1 ⟨xt, xk, xi⟩ _ rfl rfl HL.out H4.out.2.size ?_; intro v2 w5 h5 g5)
        have H5 := Lib.hid (And.intro h5 (Below.own_grown H4.out.2 H4.out.1 g5 H4.out.2.size))
        clear h5 g5 d0 d1 d2
        go_wp2_with fail
        refine ⟨⟨k + 1, v2, by omega, rfl, by go_num, ?_, H5.out.2⟩, by simp [intOf]; omega⟩
        have h6 := H5.out.1
        rw [List.take_add_one, HXK.out, Option.toList_some, List.filter_append, List.filter_cons_of_pos (by exact HT.out), List.filter_nil]
        simpa using h6
      | false =>
        clear d0 d1 d2
        go_wp2_with fail
        refine ⟨⟨k + 1, v, by omega, rfl, by go_num, ?_, H4.out.2⟩, by simp [intOf]; omega⟩
        have h6 := H4.out.1
        rw [List.take_add_one, HXK.out, Option.toList_some, List.filter_append, List.filter_cons_of_neg (by exact fun h => of_decide_eq_false HT.out (of_decide_eq_true h)), List.filter_nil, List.append_nil]
        exact h6
    · have hkn : n = k := by omega
      subst hkn
      rw [List.take_of_length_le (by rw [← HH.out.2.2.2]; exact Nat.le_refl _)] at ho
      have hpw := HH.out.2.1.later hbe
      have d0 := hpw.cell (k := 0) rfl
      have d1 := hpw.cell (k := 1) rfl
      have d2 := hpw.cell (k := 2) rfl
      have H4 := Lib.hid (And.intro ho hbe)
      clear ho hbe hpw hp hk
      have HL : Hid ((xs.filter fun x => decide (cmpP x.pr (Slt.mk st sk si).pr = -1)).length + 1 ≤ 1000000) := Lib.hid (by
        have h0 := List.length_filter_le (fun x : Slt => decide (cmpP x.pr (Slt.mk st sk si).pr = -1)) xs
        have h2 := HNB.out
        have h3 := HH.out.2.2.2
        omega)
      go_wp2_with (at_builtin; refine wpList_append_slot rfl _ _ rfl wa.heap.size v _ rfl H4.out.1 ⟨st, sk, si⟩ _ rfl rfl HL.out H4.out.2.size ?_; intro v2 w5 h5 g5)
      have h5b := Below.own_grown H4.out.2 H4.out.1 g5 H4.out.2.size
      clear g5 d0 d1 d2
      have H5 := Lib.hid (And.intro h5 h5b)
      clear h5 h5b
      go_wp2_with fail
      go_loopw [5, 32] (fun o i wr => ∃ (k : Nat) (v : Value), k ≤ n ∧ v = o ∧ i = .int .i64 (k : Int) ∧ OwnS wa.heap.size wr v ((xs.filter fun x => decide (cmpP x.pr (Slt.mk st sk si).pr = -1)) ++ Slt.mk st sk si :: (xs.take k).filter fun x => decide (cmpP (Slt.mk st sk si).pr x.pr = -1)) ∧ Below wa.heap.size wa wr) (fun o i _ => n - (intOf i).toNat)
      case atStart => exact ⟨0, v2, Nat.zero_le _, rfl, rfl, by simpa using H5.out.1, H5.out.2⟩
      case round =>
        obtain ⟨k, v, hk, rfl, rfl, ho, hbe⟩ := hrel
        by_cases hp : k < n
        · have hkx : k < xs.length := by rw [← HH.out.2.2.2]; exact hp
          obtain ⟨b0, off, rfl, hb0, r0⟩ := slot_row HH.out.1 hbe hkx
          have hgx := List.getElem?_eq_getElem hkx
          obtain ⟨x, hxx⟩ : ∃ x, xs[k] = x := ⟨_, rfl⟩
          rw [hxx] at r0 hgx
          obtain ⟨xt, xk, xi⟩ := x
          dsimp only at r0
          have HXK := Lib.hid hgx
          clear hxx hkx hgx
          have c0 := r0 0 _ rfl
          have c1 := r0 1 _ rfl
          have c2 := r0 2 _ rfl
          rw [Nat.add_zero] at c0
          clear r0
          have HO := Lib.hid (And.intro ho hbe)
          clear ho
          go_upto_region 12 with fail
          obtain ⟨wv, hwv⟩ : ∃ x, x = wr.alloc (.cells #[.string ⟨xt.toArray⟩, .string ⟨xk.toArray⟩, .string ⟨xi.toArray⟩] 24) := ⟨_, rfl⟩
          rw [← hwv]
          have hsb : Blk wv wr.heap.size 24 [.string ⟨xt.toArray⟩, .string ⟨xk.toArray⟩, .string ⟨xi.toArray⟩] := by rw [hwv]; exact Blk.new wr _ _
          have hpw : Blk wv w.heap.size 24 [.string ⟨st.toArray⟩, .string ⟨sk.toArray⟩, .string ⟨si.toArray⟩] := by rw [hwv]; exact (HH.out.2.1.later hbe).alloc _
          have HV : Hid (OwnS wa.heap.size wv v ((xs.filter fun x => decide (cmpP x.pr (Slt.mk st sk si).pr = -1)) ++ Slt.mk st sk si :: (xs.take k).filter fun x => decide (cmpP (Slt.mk st sk si).pr x.pr = -1)) ∧ Below wa.heap.size wa wv) := Lib.hid (by rw [hwv]; exact ⟨HO.out.1.alloc _, hbe.alloc hbe.size _⟩)
          obtain ⟨tb, htb⟩ : ∃ tb, decide (cmpP (st, sk) (xt, xk) = -1) = tb := ⟨_, rfl⟩
          have HC : Hid (∀ W, Calls Try.prog 21 #[prV (st, sk), prV (xt, xk)] W fun e w' => e = .returned (.bool tb) ∧ Below W.heap.size W w') := Lib.hid (fun W => by rw [← htb]; exact less_calls _ _ W)
          have HT := Lib.hid htb
          clear htb c0 c1 c2 hwv hbe
          apply wp_region_ls (by kernel_rfl) (by kernel_rfl)
          apply ls_load 24 (.tmp 3) rfl w.heap.size 0 _ _ hpw.rng hpw.lt Try.underlying24 rfl size_slot rfl rfl
          simp only [Act.put, List.setIfInBounds_toArray, List.set_cons_succ, List.set_cons_zero]
          apply ls_callx (prV (st, sk)) 10 #[Slt.val ⟨st, sk, si⟩] rfl (by intro W; go_simp; rfl) (fun W => of_calls ⟨st, sk, si⟩ W)
          simp only [Act.put, List.setIfInBounds_toArray, List.set_cons_succ, List.set_cons_zero]
          apply ls_load 24 (.tmp 9) rfl wr.heap.size 0 _ _ hsb.rng hsb.lt Try.underlying24 rfl size_slot rfl rfl
          simp only [Act.put, List.setIfInBounds_toArray, List.set_cons_succ, List.set_cons_zero]
          apply ls_callx (prV (xt, xk)) 10 #[Slt.val ⟨xt, xk, xi⟩] rfl (by intro W; go_simp; rfl) (fun W => of_calls ⟨xt, xk, xi⟩ W)
          simp only [Act.put, List.setIfInBounds_toArray, List.set_cons_succ, List.set_cons_zero]
          apply ls_callx (.bool tb) 21 #[prV (st, sk), prV (xt, xk)] rfl (by intro W; go_simp) (fun W => HC.out W)
          simp only [Act.put, List.setIfInBounds_toArray, List.set_cons_succ, List.set_cons_zero]
          refine ls_nil (Rs := []) ?_
          intro w4 b4
          have hs4 := hsb.later b4
          have d0 := hs4.cell (k := 0) rfl
          have d1 := hs4.cell (k := 1) rfl
          have d2 := hs4.cell (k := 2) rfl
          have H4 := Lib.hid (And.intro (HV.out.1.below b4) (HV.out.2.then_ b4))
          clear hsb hpw b4 hs4
          cases tb with
          | true =>
            have HL : Hid (((xs.filter fun x => decide (cmpP x.pr (Slt.mk st sk si).pr = -1)) ++ Slt.mk st sk si :: (xs.take k).filter fun x => decide (cmpP (Slt.mk st sk si).pr x.pr = -1)).length + 1 ≤ 1000000) := Lib.hid (by
              have h1 := List.length_filter_le (fun x : Slt => decide (cmpP (Slt.mk st sk si).pr x.pr = -1)) (xs.take k)
              have h0 := List.length_filter_le (fun x : Slt => decide (cmpP x.pr (Slt.mk st sk si).pr = -1)) xs
              have h2 := HNB.out
              have h3 := HH.out.2.2.2
              simp only [List.length_take, List.length_append, List.length_cons] at *
              omega)
            go_wp2_with (at_builtin; refine wpList_append_slot rfl _ _ rfl wa.heap.size v _ rfl H4.out.1 ⟨xt, xk, xi⟩ _ rfl rfl HL.out H4.out.2.size ?_; intro v2 w5 h5 g5)
            have H5 := Lib.hid (And.intro h5 (Below.own_grown H4.out.2 H4.out.1 g5 H4.out.2.size))
            clear h5 g5 d0 d1 d2
            go_wp2_with fail
            refine ⟨⟨k + 1, v2, by omega, rfl, by go_num, ?_, H5.out.2⟩, by simp [intOf]; omega⟩
            have h6 := H5.out.1
            rw [List.take_add_one, HXK.out, Option.toList_some, List.filter_append, List.filter_cons_of_pos (by exact HT.out), List.filter_nil]
            simpa using h6
          | false =>
            clear d0 d1 d2
            go_wp2_with fail
            refine ⟨⟨k + 1, v, by omega, rfl, by go_num, ?_, H4.out.2⟩, by simp [intOf]; omega⟩
            have h6 := H4.out.1
            rw [List.take_add_one, HXK.out, Option.toList_some, List.filter_append, List.filter_cons_of_neg (by exact fun h => of_decide_eq_false HT.out (of_decide_eq_true h)), List.filter_nil, List.append_nil]
            exact h6
        · have hkn : n = k := by omega
          subst hkn
          rw [List.take_of_length_le (by rw [← HH.out.2.2.2]; exact Nat.le_refl _)] at ho
          have HF := Lib.hid (And.intro ho hbe)
          clear ho hbe
          go_wp2_with fail
          go_ret
          exact ⟨v, rfl, ⟨HF.out.1.1, by
            rcases HF.out.1.2 with h | ⟨g, cap, cur, e, hb, r⟩
            · exact .inl h
            · exact .inr ⟨g, cap, cur, e, Nat.le_trans HH.out.2.2.1.size hb, r⟩⟩, HH.out.2.2.1.then_ HF.out.2⟩
end Go.Proofs.Ytpleminoiodmgaa
