/- The walks of the laws of letters. -/
import Derived.Test.YtkehjhglknalfaaLetD
import Derived.Test.YtkehjhglknalfaaLetF
import Derived.Test.YtkehjhglknalfaaLetR
import Derived.Deep.RegionHeld3
namespace Go.Proofs.Ytkehjhglknalfaa
open Go.ChangeShapes Go.WideShapes Go.ChangeAt Go.RowKit Go.IntWalk
set_option linter.unusedVariables false

theorem DecPost.open_ {u : Bool} {bs : List UInt8} {base : Nat} {w w' : World} {e : Ending} (h : DecPost u bs base w e w') :
    ∃ A n c, e = .returned (.tuple #[.slice A n c, .bool (decF u bs).isSome]) ∧ RB w' A ((decF u bs).getD []) ∧ Hid (n = ((decF u bs).getD []).length) ∧ Below w.heap.size w w' ∧
      (∀ o, decF u bs = some o → OwnBs base w' (.slice A n c) o) := by
  unfold DecPost at h
  obtain ⟨h, hb⟩ := h
  cases hd : decF u bs with
  | none => rw [hd] at h; exact ⟨none, 0, 0, h, fun k hk => absurd hk (by simp), rfl, hb, fun o h => by cases h⟩
  | some o =>
    rw [hd] at h
    obtain ⟨v, he, hv⟩ := h
    obtain ⟨A, n, c, rfl, hrb, hn⟩ := hv.form
    exact ⟨A, n, c, he, hrb, hn, hb, fun o h => by cases h; exact hv⟩

theorem decode_list (l : List UInt8) (u : Bool) (w : World) (hi : l.length ≤ 68719476736) :
    Calls Try.prog 11 #[.string ⟨l.toArray⟩, .bool u] w (DecPost u l w.heap.size w) := by
  have := decode_calls ⟨l.toArray⟩ u w hi
  simpa using this
theorem encF_length (u : Bool) (bs : List UInt8) : (encF u bs).length = (8 * bs.length + 5) / 6 := by unfold encF; rw [lets_length]
theorem str_of (s : ByteArray) : s = ⟨s.data.toList.toArray⟩ := by simp

theorem dec_zh : decF false [90, 104] = none := by decide
theorem dec_zm8 (u : Bool) : decF u [90, 109, 56] = some [102, 111] := by cases u <;> decide
theorem enc_url : encF true [251, 255] = [45, 95, 56] := by decide

set_option maxHeartbeats 1000000 in
theorem alive_calls (w : World) : Calls Try.prog 13 #[] w fun e w' => e = .returned (.bool true) ∧ Below w.heap.size w w' := by
  have hcv := run_bytes_const
  have h1 := enc_fo
  have h2 := enc_url
  have h3 := dec_zh
  go_enter Try.func13, Try.ntmps13
  go_wp2_with fail
  refine (decode_calls ⟨#[90, 104]⟩ _ _ (by decide)).mono ?_
  intro e w1 h
  obtain ⟨A, n, c, rfl, hrb, hn, b1, _⟩ := h.open_
  clear h
  go_wp2_with fail
  refine (encode_calls _ _ _ [102, 111] false _ (rb_const w1 [102, 111] _ rfl _) rfl (by simp)).mono ?_
  rintro e w2 ⟨rfl, hb2⟩
  have b2 := b1.then_ (Below.of_alloc hb2)
  clear hb2
  go_wp2_with fail
  refine (encode_calls _ _ _ [251, 255] true _ (rb_const w2 [251, 255] _ rfl _) rfl (by simp)).mono ?_
  rintro e w3 ⟨rfl, hb3⟩
  have b3 := b2.then_ (Below.of_alloc hb3)
  clear hb3
  go_wp2
  go_ret
  exact ⟨by simp, b3⟩

set_option maxHeartbeats 1000000 in
theorem lettersReads_walk (s : ByteArray) (hs : s.size ≤ maxLen) (u : Bool) {w : World} :
    Calls Try.prog 4 #[.string s, .bool u] w fun e w' => e = .returned (.bool true) ∧ Below w.heap.size w w' := by
  have h3 := dec_zm8 u
  go_enter Try.func4, Try.ntmps4
  go_wp2_with fail
  refine (decode_calls ⟨#[90, 109, 56]⟩ _ _ (by decide)).mono ?_
  intro e w1 h
  obtain ⟨A, n, c, rfl, hrb, hn, b1, _⟩ := h.open_
  clear h
  have hc1 := run_str_rb w1 A n c _ hrb hn
  by_cases hl : s.size ≤ 16384
  · go_wp2_with fail
    refine (decode_calls s _ _ (by omega)).mono ?_
    intro e w2 h
    obtain ⟨A2, n2, c2, rfl, hrb2, hn2, hb2, _⟩ := h.open_
    have b2 := b1.then_ hb2
    clear h hc1
    go_wp2_with fail
    refine (refdec_calls s _ _ (by omega)).mono ?_
    intro e w3 h
    obtain ⟨A3, n3, c3, rfl, hrb3, hn3, hb3, _⟩ := h.open_
    have b3 := b2.then_ hb3
    have hc2 := run_str_rb w3 A2 n2 c2 _ (hrb2.below hb3) hn2
    have hc3 := run_str_rb w3 A3 n3 c3 _ hrb3 hn3
    clear h hb2 hb3
    go_wp2
    go_ret
    exact ⟨by simp, b3⟩
  · go_wp2
    go_ret
    exact ⟨rfl, b1⟩

set_option maxHeartbeats 1000000 in
theorem lettersBack_walk (A : Option Addr) (n c : Nat) (bs : List UInt8) {w : World} (hA : RB w A bs) (hn : Hid (n = bs.length)) (hnc : n ≤ c) (s : ByteArray) (hs : s.size ≤ maxLen) (u : Bool) :
    Calls Try.prog 5 #[.slice A n c, .string s, .bool u] w fun e w' => e = .returned (.bool true) ∧ Below w.heap.size w w' := by
  go_enter Try.func5, Try.ntmps5
  go_wp2_with fail
  refine (alive_calls _).mono ?_
  rintro e w1 ⟨rfl, b1⟩
  by_cases hl : n ≤ 16384 ∧ s.size ≤ 16384
  · obtain ⟨hl1, hl2⟩ := hl
    go_wp2_with fail
    refine (encode_calls _ _ _ bs _ _ (hA.below b1) hn.out (by omega)).mono ?_
    rintro e w2 ⟨rfl, hb2⟩
    have b2 := b1.then_ hb2
    clear hb2
    go_wp2_with fail
    refine (decode_list _ _ _ (by rw [encF_length, ← hn.out]; omega)).mono ?_
    intro e w3 h
    obtain ⟨A3, n3, c3, rfl, hrb3, hn3, hb3, _⟩ := h.open_
    have b3 := b2.then_ hb3
    have hdec := decF_encF u bs
    have hc3 := run_str_rb w3 A3 n3 c3 _ hrb3 hn3
    rw [hdec] at hc3 ⊢
    simp only [Option.getD_some] at hc3
    have hc4 := run_str_rb w3 A n c _ (hA.below b3) hn
    clear h hb3 hrb3 hn3
    go_wp2_with fail
    refine (decode_calls s _ _ (by omega)).mono ?_
    intro e w4 h
    obtain ⟨A4, n4, c4, rfl, hrb4, hn4, hb4, _⟩ := h.open_
    have b4 := b3.then_ hb4
    clear h hb4 hc3 hc4
    cases hd : decF u s.data.toList with
    | none =>
      rw [hd] at hrb4 hn4
      go_wp2
      go_ret
      exact ⟨rfl, b4⟩
    | some o =>
      rw [hd] at hrb4 hn4
      simp only [Option.getD_some] at hrb4 hn4
      have hol : n4 ≤ 16384 := by
        unfold decF at hd
        split at hd
        · cases hd
          have := hn4.out
          rw [outs_length] at this
          have : s.data.toList.length = s.size := rfl
          omega
        · cases hd
      have hback := encF_decF u _ o hd
      go_wp2_with fail
      refine (encode_calls _ _ _ o _ _ hrb4 hn4.out (by omega)).mono ?_
      rintro e w5 ⟨rfl, hb5⟩
      have b5 := b4.then_ hb5
      clear hb5
      rw [hback]
      clear hback hd
      go_wp2
      go_ret
      exact ⟨by simp, b5⟩
  · by_cases hl1 : n ≤ 16384
    · have hl2 : ¬ s.size ≤ 16384 := fun h => hl ⟨hl1, h⟩
      go_wp2
      go_ret
      exact ⟨rfl, b1⟩
    · go_wp2
      go_ret
      exact ⟨rfl, b1⟩

theorem lenF_eq (n : Nat) : lenF (n : Int) = (((8 * n + 5) / 6 : Nat) : Int) := by
  unfold lenF
  split
  · omega
  · omega

theorem idx0 (w : World) : (Instr.index 31 (.agg #[.int .i64 0, .int .i64 2, .int .i64 3]) (.int .i64 0)).run Try.prog w = .ok (.int .i64 0) w := by kernel_rfl
theorem idx1 (w : World) : (Instr.index 31 (.agg #[.int .i64 0, .int .i64 2, .int .i64 3]) (.int .i64 1)).run Try.prog w = .ok (.int .i64 2) w := by kernel_rfl
theorem idx2 (w : World) : (Instr.index 31 (.agg #[.int .i64 0, .int .i64 2, .int .i64 3]) (.int .i64 2)).run Try.prog w = .ok (.int .i64 3) w := by kernel_rfl

set_option maxHeartbeats 1000000 in
theorem lettersCounts_walk (A : Option Addr) (n c : Nat) (bs : List UInt8) {w : World} (hA : RB w A bs) (hn : Hid (n = bs.length)) (hnc : n ≤ c) (k : Int) (hk : (Lit.int .i64 k).wf = true) :
    Calls Try.prog 6 #[.slice A n c, .int .i64 k] w fun e w' => e = .returned (.bool true) ∧ Below w.heap.size w w' := by
  have hkb := bounds_i64 hk
  go_enter Try.func6, Try.ntmps6
  have h2 : lenF 2 = 3 := by decide
  go_wp2_with fail
  refine (len_calls 2 _ (by omega) (by omega)).mono ?_
  rintro e w' ⟨rfl, rfl⟩
  by_cases hl : n ≤ 16384
  · have hfin : lenF (n : Int) = ((encF false bs).length : Int) := by rw [encF_length, lenF_eq, hn.out]
    have HF := Lib.hid hfin; clear hfin
    by_cases h1 : k ≤ 0
    · go_wp2_with fail
      refine (len_any k _ hkb).mono ?_
      rintro e w' ⟨⟨j, rfl, hj⟩, rfl⟩
      obtain rfl := hj h1
      go_wp2_with fail
      refine (len_calls n _ (by omega) (by omega)).mono ?_
      rintro e w' ⟨rfl, rfl⟩
      go_wp2_with fail
      refine (encode_calls _ _ _ bs _ _ hA hn.out (by omega)).mono ?_
      rintro e w2 ⟨rfl, b2⟩
      rw [HF.out]
      go_wp2
      go_ret
      exact ⟨by simp, b2⟩
    · by_cases h2 : k < 1152921504606846976
      · have hk3 : k % 3 = 0 ∨ k % 3 = 1 ∨ k % 3 = 2 := by omega
        have hF : lenF k = k / 3 * 4 + (if k % 3 = 1 then 2 else if k % 3 = 2 then 3 else 0) := by unfold lenF; rw [if_neg (by omega)]
        rcases hk3 with h3 | h3 | h3
        all_goals
          rw [h3] at hF
          simp only [reduceIte, Int.reduceEq, Int.add_zero] at hF
          have i0 := idx0
          have i1 := idx1
          have i2 := idx2
          go_wp2_with fail
          refine (len_calls k _ (by omega) (by omega)).mono ?_
          rintro e w' ⟨rfl, rfl⟩
          rw [hF]
          clear hF
          go_wp2_with fail
          refine (len_calls n _ (by omega) (by omega)).mono ?_
          rintro e w' ⟨rfl, rfl⟩
          go_wp2_with fail
          refine (encode_calls _ _ _ bs _ _ hA hn.out (by omega)).mono ?_
          rintro e w2 ⟨rfl, b2⟩
          rw [HF.out]
          go_wp2
          go_ret
          exact ⟨by simp, b2⟩
      · go_wp2_with fail
        refine (len_any k _ hkb).mono ?_
        rintro e w' ⟨⟨j, rfl, hj⟩, rfl⟩
        clear hj
        go_wp2_with fail
        refine (len_calls n _ (by omega) (by omega)).mono ?_
        rintro e w' ⟨rfl, rfl⟩
        go_wp2_with fail
        refine (encode_calls _ _ _ bs _ _ hA hn.out (by omega)).mono ?_
        rintro e w2 ⟨rfl, b2⟩
        rw [HF.out]
        go_wp2
        go_ret
        exact ⟨by simp, b2⟩
  · go_wp2
    go_ret
    exact ⟨rfl, Below.refl _ _⟩

set_option maxHeartbeats 1000000 in
theorem lettersParts_walk (A : Option Addr) (n c : Nat) (bs : List UInt8) {w : World} (hA : RB w A bs) (hn : Hid (n = bs.length)) (hnc : n ≤ c) (k : Int) (hk : (Lit.int .i64 k).wf = true) (u : Bool) :
    Calls Try.prog 7 #[.slice A n c, .int .i64 k, .bool u] w fun e w' => e = .returned (.bool true) ∧ Below w.heap.size w w' := by
  have hkb := bounds_i64 hk
  by_cases hl : n ≤ 16384 ∧ 0 ≤ k ∧ k ≤ n ∧ k % 3 = 0
  · obtain ⟨hl1, hl2, hl3, hl4⟩ := hl
    obtain ⟨j, rfl⟩ := Int.eq_ofNat_of_zero_le hl2
    have hj : j ≤ n := by omega
    have hfin : encF u (bs.take j) ++ encF u (bs.drop j) = encF u bs := by
      rw [← encF_append u _ _ (by rw [List.length_take, ← hn.out]; omega), List.take_append_drop]
    have HF := Lib.hid hfin; clear hfin
    have hR1 := hA.take j
    have hR2 := hA.cut j c (by rw [← hn.out]; exact hj) (by rw [← hn.out]; exact hnc)
    have hN1 : Hid (j = (bs.take j).length) := by show _ = _; rw [List.length_take, ← hn.out]; omega
    have hN2 : Hid (n - j = (bs.drop j).length) := by show _ = _; rw [List.length_drop, ← hn.out]
    have he1 : (encF u (bs.take j)).length ≤ 100000 := by rw [encF_length, List.length_take, ← hn.out]; omega
    have he2 : (encF u (bs.drop j)).length ≤ 100000 := by rw [encF_length, List.length_drop, ← hn.out]; omega
    have hadd : ∀ W, (Op.stringOp .add ⟨(encF u (bs.take j)).toArray⟩ ⟨(encF u (bs.drop j)).toArray⟩).run Try.prog W = .ok (.string ⟨(encF u bs).toArray⟩) W := by
      intro W
      exact (run_string_add_lists W (encF u (bs.take j)) (encF u (bs.drop j)) (by omega) (by omega)).trans (by rw [HF.out])
    obtain ⟨A', hA'⟩ : ∃ A', A' = if c = j then A else A.map (·.add j) := ⟨_, rfl⟩
    rw [← hA'] at hR2
    by_cases hcj : c = j
    all_goals
     first | rw [if_pos hcj] at hA' | rw [if_neg hcj] at hA'
     subst hA'
     go_enter Try.func7, Try.ntmps7
     go_wp2_with fail
     refine (alive_calls _).mono ?_
     rintro e w1 ⟨rfl, b1⟩
     go_wp2_with fail
     have hlen1 : j ≤ 68719476736 := by omega
     have hlen2 : n - j ≤ 68719476736 := by omega
     have hlen3 : n ≤ 68719476736 := by omega
     have hjc : j ≤ c := by omega
     go_region_held3 (fun W => Below w.heap.size w W) (first | assumption | exact b1.drew)
       ((first
         | (go_at_call 9; (with_reducible refine (encode_calls _ _ _ (bs.take j) _ _ (hR1.below (by assumption)) hN1.out (by omega)).mono ?_); rintro e w2 ⟨rfl, hb2⟩; have b2 := Below.then_ (by assumption) hb2; clear hb2)
         | (go_at_call 9; (with_reducible refine (encode_calls _ _ _ (bs.drop j) _ _ (hR2.below (by assumption)) hN2.out (by omega)).mono ?_); rintro e w2 ⟨rfl, hb2⟩; have b2 := Below.then_ (by assumption) hb2; clear hb2)
         | (go_at_call 9; (with_reducible refine (encode_calls _ _ _ bs _ _ (hA.below (by assumption)) hn.out (by omega)).mono ?_); rintro e w2 ⟨rfl, hb2⟩; have b2 := Below.then_ (by assumption) hb2; clear hb2)))
     go_wp2
     go_ret
     exact ⟨by simp, by assumption⟩
  · go_enter Try.func7, Try.ntmps7
    go_wp2_with fail
    refine (alive_calls _).mono ?_
    rintro e w1 ⟨rfl, b1⟩
    by_cases h1 : n ≤ 16384
    · by_cases h2 : 0 ≤ k
      · by_cases h3 : k ≤ n
        · have h4 : (k % 3 != 0) = true := by simp; intro h4; exact hl ⟨h1, h2, h3, h4⟩
          go_wp2
          go_ret
          exact ⟨rfl, b1⟩
        · go_wp2
          go_ret
          exact ⟨rfl, b1⟩
      · go_wp2
        go_ret
        exact ⟨rfl, b1⟩
    · go_wp2
      all_goals go_ret
      all_goals exact ⟨rfl, b1⟩
end Go.Proofs.Ytkehjhglknalfaa
