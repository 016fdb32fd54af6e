/- Layer 8: the laws QuoteBack and QuoteReads. -/
import Derived.Test.YtklghjeinempmaaQuX
import Derived.Test.YtklghjeinempmaaQuU
import Derived.Test.YtklghjeinempmaaQuI
namespace Go.Proofs.Ytklghjeinempmaa
open Go.ChangeShapes Go.WideShapes Go.ChangeAt Go.RowKit Go.IntWalk
set_option linter.unusedVariables false

set_option maxHeartbeats 1000000 in
theorem alive_calls (w : World) : Calls Try.prog 15 #[] w fun e w' => e = .returned (.bool true) ∧ Below w.heap.size w w' := by
  have V1 : takeF [34, 92, 117, 100, 56, 51, 100, 92, 117, 100, 101, 48, 48, 34] 0 = ([240, 159, 152, 128], 14, true) := by decide +kernel
  have V2 : putF [97, 34, 98, 1, 195, 169] = [34, 97, 92, 34, 98, 92, 117, 48, 48, 48, 49, 195, 169, 34] := by decide +kernel
  have V3 : Lib.validD [97, 34, 98, 1, 195, 169] = true := by decide +kernel
  have V1 := Lib.hid V1
  have V2 := Lib.hid V2
  have V3 := Lib.hid V3
  go_enter Try.func15, Try.ntmps15
  go_wp2_with fail
  refine (put_calls [97, 34, 98, 1, 195, 169] _ (by simp)).mono ?_
  intro e w1 hpost
  obtain ⟨rfl, b1⟩ := hpost.eq
  rw [V2.out, V3.out]
  clear hpost
  go_wp2_with fail
  refine (take_calls [34, 92, 117, 100, 56, 51, 100, 92, 117, 100, 101, 48, 48, 34] 0 _ (by simp)).mono ?_
  intro e w2 hpost
  obtain ⟨rfl, b2⟩ := hpost.eq
  rw [V1.out]
  clear hpost
  go_wp2
  go_ret
  exact ⟨rfl, b1.then_ b2⟩

@[go_sem] theorem str_append (a b : List UInt8) : (⟨a.toArray⟩ : ByteArray) ++ ⟨b.toArray⟩ = ⟨(a ++ b).toArray⟩ := by
  apply ByteArray.ext; simp

set_option maxHeartbeats 2000000 in
theorem quoteBack_walk (s : ByteArray) (hs : s.size ≤ maxLen) (ahead : ByteArray) (ha : ahead.size ≤ maxLen) (behind : ByteArray) (hb : behind.size ≤ maxLen) {w : World} :
    Calls Try.prog 6 #[.string s, .string ahead, .string behind] w fun e w' => e = .returned (.bool true) ∧ Below w.heap.size w w' := by
  obtain ⟨l, rfl, hsz⟩ := str_split s
  obtain ⟨x, rfl, hxz⟩ := str_split ahead
  obtain ⟨y, rfl, hyz⟩ := str_split behind
  rw [hsz] at hs
  rw [hxz] at ha
  rw [hyz] at hb
  clear hsz hxz hyz
  go_enter Try.func6, Try.ntmps6
  go_wp2_with fail
  refine (alive_calls _).mono ?_
  rintro e w1 ⟨rfl, b1⟩
  by_cases h1 : 8192 < l.length
  · go_wp2
    go_ret
    exact ⟨rfl, b1⟩
  · by_cases h2 : 1024 < x.length
    · go_wp2
      go_ret
      exact ⟨rfl, b1⟩
    · by_cases h3 : 1024 < y.length
      · go_wp2
        go_ret
        exact ⟨rfl, b1⟩
      · go_wp2_with fail
        refine (put_calls l _ (by omega)).mono ?_
        intro e w2 hpost
        obtain ⟨rfl, hb2⟩ := hpost.eq
        clear hpost
        have b2 := b1.then_ hb2
        cases hv : Lib.validD l with
        | false =>
          have HP : Hid (putF l = []) := by show _ = _; unfold putF; rw [hv]; rfl
          have HV := Lib.hid hv
          rw [HP.out]
          clear hv
          go_wp2_with fail
          refine (valid_calls l _ (by omega)).mono ?_
          rintro e w3 ⟨rfl, hb3⟩
          rw [HV.out]
          go_wp2
          go_ret
          exact ⟨rfl, b2.then_ hb3⟩
        | true =>
          obtain ⟨q, hq⟩ : ∃ q, 34 :: escL l ++ [34] = q := ⟨_, rfl⟩
          have HP : Hid (putF l = q) := by show _ = _; unfold putF; rw [hv, ← hq]; rfl
          have hql : q.length ≤ 60000 := by
            rw [← hq]
            have := escL_len l
            simp only [List.cons_append, List.length_cons, List.length_append, List.length_nil]
            omega
          have HT := put_take l x y hv
          have HQ := valid_put l hv
          rw [show 34 :: (escL l ++ [34]) = q from hq] at HQ
          rw [hq, List.append_assoc] at HT
          have HT := Lib.hid HT
          have HQ := Lib.hid HQ
          rw [HP.out]
          clear hv hq
          go_wp2_with fail
          refine (take_calls (x ++ (q ++ y)) (x.length : Nat) _ (by rw [List.length_append, List.length_append]; omega)).mono ?_
          intro e w3 hpost
          obtain ⟨rfl, hb3⟩ := hpost.eq
          clear hpost
          rw [HT.out]
          go_wp2_with fail
          refine (valid_calls q _ (by omega)).mono ?_
          rintro e w4 ⟨rfl, hb4⟩
          rw [HQ.out]
          go_wp2
          go_ret
          exact ⟨rfl, (b2.then_ hb3).then_ hb4⟩

set_option maxHeartbeats 2000000 in
theorem quoteReads_walk (s : ByteArray) (hs : s.size ≤ maxLen) {w : World} :
    Calls Try.prog 7 #[.string s] w fun e w' => e = .returned (.bool true) ∧ Below w.heap.size w w' := by
  obtain ⟨l, rfl, hsz⟩ := str_split s
  rw [hsz] at hs
  clear hsz
  go_enter Try.func7, Try.ntmps7
  go_wp2_with fail
  refine (alive_calls _).mono ?_
  rintro e w1 ⟨rfl, b1⟩
  by_cases h1 : 8192 < l.length
  · go_wp2
    go_ret
    exact ⟨rfl, b1⟩
  · have ht : takeF (34 :: l) 0 = fin 1 (scan l) := takeF_in' (34 :: l) 0 (by simp) rfl
    cases hsc : scan l with
    | none =>
      rw [hsc] at ht
      have HT : Hid (takeF (34 :: l) 0 = ([], 0, false)) := ht
      clear ht hsc
      go_wp2_with fail
      refine (take_calls (34 :: l) 0 _ (by simp; omega)).mono ?_
      intro e w2 hpost
      obtain ⟨rfl, hb2⟩ := hpost.eq
      clear hpost
      rw [HT.out]
      go_wp2
      go_ret
      exact ⟨rfl, b1.then_ hb2⟩
    | some p =>
      obtain ⟨o, k⟩ := p
      obtain ⟨i1, i2, i3, i4⟩ := scan_ok _ l (Nat.le_refl _) o k hsc
      rw [hsc] at ht
      have HT : Hid (takeF (34 :: l) 0 = (o, ((1 + k : Nat) : Int), true)) := ht
      obtain ⟨q, hq⟩ : ∃ q, 34 :: escL o ++ [34] = q := ⟨_, rfl⟩
      have HP : Hid (putF o = q) := by show _ = _; unfold putF; rw [i1, ← hq]; rfl
      have hql : q.length ≤ 600000 := by
        rw [← hq]
        have := escL_len o
        simp only [List.cons_append, List.length_cons, List.length_append, List.length_nil]
        omega
      have hpt := put_take o [] [] i1
      rw [List.nil_append, List.append_nil, hq] at hpt
      have HQ : Hid (takeF q 0 = (o, (((([] : List UInt8).length + q.length : Nat)) : Int), true)) := hpt
      have HV := Lib.hid i1
      clear ht hsc hq hpt i1
      go_wp2_with fail
      refine (take_calls (34 :: l) 0 _ (by simp; omega)).mono ?_
      intro e w2 hpost
      obtain ⟨rfl, hb2⟩ := hpost.eq
      clear hpost
      have b2 := b1.then_ hb2
      rw [HT.out]
      go_wp2_with fail
      refine (put_calls o _ (by omega)).mono ?_
      intro e w3 hpost
      obtain ⟨rfl, hb3⟩ := hpost.eq
      clear hpost
      have b3 := b2.then_ hb3
      rw [HP.out, HV.out]
      go_wp2_with fail
      refine (take_calls q 0 _ (by omega)).mono ?_
      intro e w4 hpost
      obtain ⟨rfl, hb4⟩ := hpost.eq
      clear hpost
      have b4 := b3.then_ hb4
      rw [HQ.out]
      go_wp2_with fail
      refine (valid_calls o _ (by omega)).mono ?_
      rintro e w5 ⟨rfl, hb5⟩
      rw [HV.out]
      go_wp2
      go_ret
      exact ⟨ret_bool (decide_eq_true (by omega)), b4.then_ hb5⟩
end Go.Proofs.Ytklghjeinempmaa
