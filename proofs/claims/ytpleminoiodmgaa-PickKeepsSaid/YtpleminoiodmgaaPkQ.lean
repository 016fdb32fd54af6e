/- Layer 16: Put, walked; states put together slot by slot, pure. -/
import Derived.Test.YtpleminoiodmgaaPkP
namespace Go.Proofs.Ytpleminoiodmgaa
open Go.ChangeShapes Go.WideShapes Go.ChangeAt Go.RowKit Go.IntWalk Go.Lib
set_option linter.unusedVariables false

theorem OwnS.lower {base b2 : Nat} {w : World} {v : Value} {xs : List Slt} (h : OwnS base w v xs) (hb : b2 ≤ base) : OwnS b2 w v xs := by
  refine ⟨h.1, ?_⟩
  rcases h.2 with h2 | ⟨g, cap, cur, hv, hg, r⟩
  · exact .inl h2
  · exact .inr ⟨g, cap, cur, hv, Nat.le_trans hb hg, r⟩
/-- The block of a row of slots. -/
theorem OwnS.blk {base g n cap : Nat} {w : World} {xs : List Slt} {cur : Array Value} (hh : w.heap[g]? = some (.cells cur 24 (0, 0))) (ht : cur.toList.take (xs.length * 3) = slC xs) : Blk w g 24 (slC xs ++ cur.toList.drop (xs.length * 3)) := by
  unfold Blk
  rw [← ht, List.take_append_drop]
  exact hh
theorem insert_calls (base : Nat) (v : Value) (xs : List Slt) (i : Nat) (y : Slt) (w : World) (ho : OwnS base w v xs) (hb : base ≤ w.heap.size) (hi : i ≤ xs.length) (hl : xs.length ≤ 8192) :
    Calls Try.prog 19 #[v, .int .i64 (i : Int), .slice (some ⟨w.heap.size, 0, none⟩) 1 1] (w.alloc (.cells y.cells.toArray 24)) fun e w' => ∃ v', e = .returned v' ∧ OwnS base w' v' (xs.take i ++ y :: xs.drop i) ∧ Below base w w' := by
  rcases Nat.lt_or_ge i xs.length with h | h
  · rcases ho.2 with ⟨rfl, h0⟩ | ⟨g, cap, cur, rfl, hbg, hh, hn, hm, hs, ht⟩
    · omega
    · have hB := OwnS.blk (base := base) (n := 0) (cap := 0) hh ht
      have hR : (slC xs ++ cur.toList.drop (xs.length * 3)).length = cap * 3 := by
        rw [← ht, List.take_append_drop, Array.length_toList]; exact hs
      rcases Nat.lt_or_ge cap (xs.length + 1) with h1 | h1
      · exact insert_grow base g cap xs xs.length i y _ w hB rfl h hn h1 hm hbg hb hl
      · exact insert_room base g cap xs xs.length i y _ w hB rfl h h1 hR hm hbg hb hl
  · obtain rfl : i = xs.length := by omega
    rw [List.take_length, List.drop_length]
    exact insert_end base v xs y w ho hb hl
theorem set3 (A B : List Value) (k : Nat) (p q r p' q' r' : Value) (hk : A.length = k) : (((A ++ p :: q :: r :: B).set k p').set (k + 1) q').set (k + 2) r' = A ++ p' :: q' :: r' :: B := by
  subst hk
  induction A with
  | nil => rfl
  | cons a A _ih => simp
theorem find_filter (l : List Slt) (q r : Slt → Bool) : (l.filter q).find? r = l.find? (fun a => q a && r a) := by
  rw [List.find?_filter]
  congr 1
  funext a
  cases q a <;> cases r a <;> rfl
theorem getF_putF (l : List Slt) (s : Slt) (p : Pr) : getF (putF l s) p = if s.pr = p then (s.i, true) else getF l p := by
  unfold getF putF
  rw [List.find?_append, find_filter]
  by_cases hs : s.pr = p
  · have h1 : l.find? (fun a => decide (cmpP a.pr s.pr = -1) && decide (a.pr = p)) = none := by
      rw [List.find?_eq_none]
      intro x _
      simp only [Bool.and_eq_true, decide_eq_true_eq, not_and]
      intro h1 h2
      rw [hs, h2, cmpP_self] at h1
      exact absurd h1 (by decide)
    rw [h1, List.find?_cons_of_pos (by simp [hs]), if_pos hs]
    rfl
  · rw [List.find?_cons_of_neg (by simp [hs]), find_filter, if_neg hs]
    have hne : cmpP p s.pr ≠ 0 := fun h => hs (cmpP_eq h).symm
    have key : ∀ (f : Slt → Bool) (b : Bool), (∀ x : Slt, x.pr = p → f x = b) → l.find? (fun a => f a && decide (a.pr = p)) = if b then l.find? (fun a => decide (a.pr = p)) else none := by
      intro f b hf
      cases b with
      | true =>
        rw [if_pos rfl]
        congr 1
        funext a
        by_cases h : a.pr = p
        · rw [hf a h]; simp
        · simp [h]
      | false =>
        rw [if_neg (by simp), List.find?_eq_none]
        intro x _
        by_cases h : x.pr = p
        · rw [hf x h]; simp
        · simp [h]
    rw [key (fun a => decide (cmpP a.pr s.pr = -1)) (decide (cmpP p s.pr = -1)) (fun x hx => by simp only [hx]), key (fun a => decide (cmpP s.pr a.pr = -1)) (decide (cmpP s.pr p = -1)) (fun x hx => by simp only [hx])]
    rcases cmpP_three p s.pr with h | h | h
    · rw [h, cmpP_anti p s.pr, h]; simp
    · exact absurd h hne
    · rw [h, cmpP_anti p s.pr, h]; simp
theorem putF_len (l : List Slt) (hr : Rise l) (s : Slt) : (putF l s).length ≤ l.length + 1 := by
  rw [putF_split hr]
  have := posF_le l s.pr
  simp only [List.length_append, List.length_take, List.length_cons, List.length_drop]
  split <;> omega
theorem putF_mem {l : List Slt} {s x : Slt} (h : x ∈ putF l s) : x ∈ l ∨ x = s := by
  unfold putF at h
  rcases List.mem_append.1 h with h | h
  · exact .inl (List.mem_filter.1 h).1
  · rcases List.mem_cons.1 h with h | h
    · exact .inr h
    · exact .inl (List.mem_filter.1 h).1
set_option maxHeartbeats 4000000 in
set_option maxRecDepth 100000 in
theorem put_calls (A : Option Addr) (n c : Nat) (xs : List Slt) (s : Slt) (w : World) (hx : Sls w A n c xs) (hnb : n ≤ 8192) (hr : Rise xs) : Calls Try.prog 6 #[.slice A n c, s.val] w (PutPost (putF xs s) w) := by
  have HX := Lib.hid (And.intro hx (And.intro hnb hr))
  have HP := Lib.hid (putF_split hr s)
  have hnm : n ≤ 9223372036854775807 := Nat.le_trans hx.2.2.1 hx.2.2.2.1
  clear hx hnb hr
  obtain ⟨st, sk, si⟩ := s
  unfold Slt.val
  dsimp only
  go_enter Try.func6, Try.ntmps6
  go_wp2_with fail
  refine (pairOf_calls ⟨st, sk, si⟩ _).mono ?_
  rintro e w1 ⟨rfl, b1⟩
  obtain ⟨wa, hwa⟩ : ∃ x, x = w.alloc (.cells #[.string ⟨st.toArray⟩, .string ⟨sk.toArray⟩, .string ⟨si.toArray⟩] 24) := ⟨_, rfl⟩
  have hpb : Blk wa w.heap.size 24 [.string ⟨st.toArray⟩, .string ⟨sk.toArray⟩, .string ⟨si.toArray⟩] := by rw [hwa]; exact Blk.new w _ _
  have hba : Below w.heap.size w wa := by rw [hwa]; exact (Below.refl _ _).alloc (Nat.le_refl _) _
  rw [← hwa] at b1
  have H1 := Lib.hid (And.intro (hba.then_ b1) (hpb.later b1))
  clear b1 hpb hba hwa
  go_wp2_with fail
  refine (find_calls A n c xs _ _ (HX.out.1.below H1.out.1) (Nat.le_trans HX.out.2.1 (by decide)) HX.out.2.2).mono ?_
  rintro e w2 ⟨rfl, b2⟩
  obtain ⟨q, hq⟩ : ∃ q, posF xs (Slt.pr ⟨st, sk, si⟩) = q := ⟨_, rfl⟩
  obtain ⟨tb, htb⟩ : ∃ tb, foundF xs (Slt.pr ⟨st, sk, si⟩) = tb := ⟨_, rfl⟩
  rw [hq, htb] at HP ⊢
  have HQ := Lib.hid (And.intro hq htb)
  have hqn : q ≤ n := by rw [← hq, HX.out.1.2.1.out]; exact posF_le _ _
  have H2 := Lib.hid (And.intro (H1.out.1.then_ b2) (H1.out.2.later b2))
  clear hq htb b2
  go_wp2_with fail
  refine (clone_calls A n c xs _ (HX.out.1.below H2.out.1) HX.out.2.1).mono ?_
  rintro e w3 ⟨v, rfl, o3, b3⟩
  have H3 := Lib.hid (And.intro (o3.lower H2.out.1.size) (And.intro (H2.out.1.then_ b3) (H2.out.2.later b3)))
  have hpw := H2.out.2.later b3
  have d0 := hpw.cell (k := 0) rfl
  have d1 := hpw.cell (k := 1) rfl
  have d2 := hpw.cell (k := 2) rfl
  clear hpw o3 b3
  cases tb with
  | false =>
    go_wp2_with fail
    refine (insert_calls w.heap.size v xs q ⟨st, sk, si⟩ w3 H3.out.1 H3.out.2.1.size (by rw [← HX.out.1.2.1.out]; exact hqn) (by rw [← HX.out.1.2.1.out]; exact HX.out.2.1)).mono ?_
    rintro e w4 ⟨v4, rfl, o4, b4⟩
    have H4 : Hid (OwnS w.heap.size w4 v4 (putF xs ⟨st, sk, si⟩) ∧ Below w.heap.size w w4) := Lib.hid (by
      have h := HP.out
      rw [if_neg (by decide), Nat.add_zero] at h
      rw [h]
      exact ⟨o4, H3.out.2.1.trans b4⟩)
    clear o4 b4 d0 d1 d2
    go_wp2_with fail
    go_ret
    exact ⟨v4, rfl, H4.out⟩
  | true =>
    have hqx : q < xs.length := by
      rcases Nat.lt_or_ge q xs.length with h | h
      · exact h
      · have h2 := HQ.out.2; unfold foundF at h2; rw [HQ.out.1, List.getElem?_eq_none h] at h2; cases h2
    have hqn2 : q < n := by rw [HX.out.1.2.1.out]; exact hqx
    rcases H3.out.1.2 with ⟨_, h0⟩ | ⟨g, cap, cur, rfl, hbg, hh, hnc2, hm, hs, ht⟩
    · omega
    · have hB := OwnS.blk (base := 0) (n := 0) (cap := 0) hh ht
      obtain ⟨x, hxq⟩ : ∃ x, xs[q] = x := ⟨_, rfl⟩
      have hsp : slC xs = slC (xs.take q) ++ (strV x.t :: strV x.k :: strV x.i :: slC (xs.drop (q + 1))) := by
        have h1 : xs = xs.take q ++ x :: xs.drop (q + 1) := by rw [← hxq, List.getElem_cons_drop, List.take_append_drop]
        have h2 := congrArg slC h1
        rw [slC_app] at h2
        exact h2
      obtain ⟨R, hR⟩ : ∃ R, cur.toList.drop (xs.length * 3) = R := ⟨_, rfl⟩
      rw [hsp, hR, List.append_assoc] at hB
      have hlen : (slC (xs.take q)).length = q * 3 := by rw [slC_len, List.length_take]; omega
      have hset := set3 (slC (xs.take q)) (slC (xs.drop (q + 1)) ++ R) (q * 3) (strV x.t) (strV x.k) (strV x.i) (.string ⟨st.toArray⟩) (.string ⟨sk.toArray⟩) (.string ⟨si.toArray⟩) hlen
      have e0 : w3.cell? ⟨g, q * 3, none⟩ = some (strV x.t) := hB.cell (by rw [List.getElem?_append_right (by omega), hlen, Nat.sub_self]; rfl)
      have e1 : w3.cell? ⟨g, q * 3 + 1, none⟩ = some (strV x.k) := hB.cell (by rw [List.getElem?_append_right (by omega), hlen, show q * 3 + 1 - q * 3 = 1 by omega]; rfl)
      have e2 : w3.cell? ⟨g, q * 3 + 2, none⟩ = some (strV x.i) := hB.cell (by rw [List.getElem?_append_right (by omega), hlen, show q * 3 + 2 - q * 3 = 2 by omega]; rfl)
      have f0 := hB.frozen (q * 3)
      have f1 := hB.frozen (q * 3 + 1)
      have f2 := hB.frozen (q * 3 + 2)
      have hB2 := ((hB.set_ (q * 3) (.string ⟨st.toArray⟩)).set_ (q * 3 + 1) (.string ⟨sk.toArray⟩)).set_ (q * 3 + 2) (.string ⟨si.toArray⟩)
      have hset' := hset
      rw [show slC (xs.take q) ++ strV x.t :: strV x.k :: strV x.i :: (slC (xs.drop (q + 1)) ++ R) = slC (xs.take q) ++ (strV x.t :: strV x.k :: strV x.i :: slC (xs.drop (q + 1)) ++ R) from rfl] at hset
      rw [hset] at hB2
      have HB2 := Lib.hid hB2
      have HE := Lib.hid (And.intro hbg (And.intro hnc2 (And.intro hm (And.intro hs (And.intro hR (And.intro ht (And.intro hsp hlen)))))))
      obtain ⟨xn, hxn⟩ : ∃ xn, xs.length = xn := ⟨_, rfl⟩
      have hxn2 : xn = n := by rw [← hxn, HX.out.1.2.1.out]
      rw [hxn, hxn2]
      have HXN := Lib.hid (hxn.trans hxn2)
      clear hB hset hset' hB2 hsp hlen hR hxq hqx hbg hnc2 hm hs ht hh hxn hxn2
      have HL : Hid (putF xs ⟨st, sk, si⟩ = xs.take q ++ ⟨st, sk, si⟩ :: xs.drop (q + 1)) := Lib.hid (by
        have h := HP.out
        rw [if_pos rfl] at h
        exact h)
      have HN2 : Hid ((xs.take q ++ (Slt.mk st sk si) :: xs.drop (q + 1)).length = n) := Lib.hid (by
        have h := HXN.out
        simp only [List.length_append, List.length_take, List.length_cons, List.length_drop]
        omega)
      go_wp2_with fail
      go_ret
      refine ⟨_, rfl, ?_, ((H3.out.2.1.setCell (p := ⟨g, q * 3, none⟩) HE.out.1 _).setCell (p := ⟨g, q * 3 + 1, none⟩) HE.out.1 _).setCell (p := ⟨g, q * 3 + 2, none⟩) HE.out.1 _⟩
      obtain ⟨hbg, hnc2, hm, hs, hR, ht, hsp, hlen⟩ := HE.out
      have hL : slC (xs.take q) ++ (Value.string ⟨st.toArray⟩ :: Value.string ⟨sk.toArray⟩ :: Value.string ⟨si.toArray⟩ :: (slC (xs.drop (q + 1)) ++ R)) = slC (xs.take q ++ (Slt.mk st sk si) :: xs.drop (q + 1)) ++ R := by
        rw [slC_app, List.append_assoc]; rfl
      have hb2 := HB2.out
      rw [hL] at hb2
      rw [HL.out]
      have hRl : xs.length * 3 + R.length = cap * 3 := by
        have hcl : cur.toList.length = cap * 3 := Array.length_toList.trans hs
        rw [← hR, List.length_drop, hcl]
        have h1 : xs.length * 3 ≤ cap * 3 := Nat.mul_le_mul_right 3 hnc2
        omega
      refine ⟨slC_len _, .inr ⟨g, cap, (slC (xs.take q ++ (Slt.mk st sk si) :: xs.drop (q + 1)) ++ R).toArray, ?_, hbg, hb2, ?_, hm, ?_, ?_⟩⟩
      · rw [HN2.out]; rfl
      · rw [HN2.out, ← HXN.out]; exact hnc2
      · rw [List.size_toArray, List.length_append, slC_len, HN2.out, ← HXN.out]; exact hRl
      · simp only []; rw [← slC_len, List.take_left]
end Go.Proofs.Ytpleminoiodmgaa
