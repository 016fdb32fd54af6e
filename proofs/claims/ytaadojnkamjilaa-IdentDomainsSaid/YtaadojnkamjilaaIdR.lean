/- The contracts of the reference's functions on users', rooms' and keys' names. -/
import Derived.Test.YtaadojnkamjilaaIdU
namespace Go.Proofs.Ytaadojnkamjilaa
open Go.ChangeShapes Go.WideShapes Go.ChangeAt Go.RowKit Go.IntWalk
set_option linter.unusedVariables false

set_option maxHeartbeats 2000000 in
theorem named_calls (l K G : List UInt8) (sign : UInt8) (p : Int → Bool) (w : World) (hl : l.length ≤ 1000000) (hKl : K.length ≤ 1000) (hGl : G.length ≤ 1000) (hK : ∀ k ∈ K, k = 97 ∨ k = 65 ∨ k = 48)
    (he : ∀ t, ofF K G t = onlyF p t) :
    Calls Try.prog 29 #[.string ⟨l.toArray⟩, .int .u8 sign.toNat, .string ⟨K.toArray⟩, .string ⟨G.toArray⟩] w fun e w' => e = .returned (.bool (namedF sign p l)) ∧ w = w' := by
  have hN := namedF_def sign p l
  have hcol := colon_calls l w hl
  have hile := colonF_le l
  obtain ⟨i, hi⟩ : ∃ i, i = colonF l := ⟨_, rfl⟩
  rw [← hi] at hN hcol hile
  clear hi
  have HN := Lib.hid hN; clear hN
  have HCOL := Lib.hid hcol; clear hcol
  by_cases h255 : l.length ≤ 255
  · by_cases hil : i < l.length
    · by_cases h0 : 0 < i
      · have hl0 : 0 < l.length := by omega
        obtain ⟨c, hc⟩ : ∃ c, l[0] = c := ⟨_, rfl⟩
        have hcg : l.getD 0 0 = c := by rw [List.getD_eq_getElem?_getD, List.getElem?_eq_getElem hl0]; exact hc
        by_cases hcs : c = sign
        · have hcs' : ((c.toNat : Int) == (sign.toNat : Int)) = true := by simp [hcs]
          have hT1 : (l.take i).tail.length ≤ 1000000 := by rw [List.length_tail, List.length_take]; omega
          have hP1 : (l.drop (i + 1)).length ≤ 1000000 := by rw [List.length_drop]; omega
          have HE : Hid (namedF sign p l = (onlyF p (l.take i).tail && serverF (l.drop (i + 1)))) := by show _ = _; rw [HN.out, hcg, hcs, List.drop_one]; simp [h255, hil, h0]
          have hOf := fun w => of_calls (l.take i).tail K G w hT1 hKl hGl hK
          rw [he] at hOf
          have hSv := fun w => refserver_calls (l.drop (i + 1)) w hP1
          have HOF := Lib.hid hOf; clear hOf
          have HSV := Lib.hid hSv; clear hSv
          have hi1 : (i : Int) + 1 ≤ (l.length : Int) := by omega
          have h1i : (1 : Int) ≤ (i : Int) := by omega
          clear hcs hcg HN
          cases hon : onlyF p (l.take i).tail with
          | false =>
            rw [hon] at HOF HE
            go_enter Try.func29, Try.ntmps29
            go_wp2_with fail
            refine HCOL.out.mono ?_
            rintro e w' ⟨rfl, rfl⟩
            go_wp2_with fail
            refine (HOF.out _).mono ?_
            rintro e w' ⟨rfl, rfl⟩
            go_wp2
            go_ret
            exact ⟨ret_bool HE.out.symm, rfl⟩
          | true =>
            rw [hon] at HOF HE
            go_enter Try.func29, Try.ntmps29
            go_wp2_with fail
            refine HCOL.out.mono ?_
            rintro e w' ⟨rfl, rfl⟩
            go_wp2_with fail
            refine (HOF.out _).mono ?_
            rintro e w' ⟨rfl, rfl⟩
            go_wp2_with fail
            refine (HSV.out _).mono ?_
            rintro e w' ⟨rfl, rfl⟩
            go_wp2
            go_ret
            exact ⟨ret_bool HE.out.symm, rfl⟩
        · have hcs' : ((c.toNat : Int) == (sign.toNat : Int)) = false := by
            rw [beq_eq_false_iff_ne]; intro h; exact hcs (UInt8.toNat_inj.1 (by omega))
          have hcs2 : (c == sign) = false := by simpa using hcs
          have HE : Hid (namedF sign p l = false) := by show _ = _; rw [HN.out, hcg, hcs2]; simp
          clear hcg
          go_enter Try.func29, Try.ntmps29
          go_wp2_with fail
          refine HCOL.out.mono ?_
          rintro e w' ⟨rfl, rfl⟩
          go_wp2
          go_ret
          exact ⟨ret_bool HE.out.symm, rfl⟩
      · have h0' : decide ((i : Int) > 0) = false := by simp; omega
        have HE : Hid (namedF sign p l = false) := by show _ = _; rw [HN.out]; simp [h0]
        go_enter Try.func29, Try.ntmps29
        go_wp2_with fail
        refine HCOL.out.mono ?_
        rintro e w' ⟨rfl, rfl⟩
        go_wp2
        go_ret
        exact ⟨ret_bool HE.out.symm, rfl⟩
    · have HE : Hid (namedF sign p l = false) := by show _ = _; rw [HN.out]; simp [hil]
      go_enter Try.func29, Try.ntmps29
      go_wp2_with fail
      refine HCOL.out.mono ?_
      rintro e w' ⟨rfl, rfl⟩
      go_wp2
      go_ret
      exact ⟨ret_bool HE.out.symm, rfl⟩
  · have h255' : decide ((l.length : Int) ≤ 255) = false := by simp; omega
    have HE : Hid (namedF sign p l = false) := by show _ = _; rw [HN.out]; simp [h255]
    go_enter Try.func29, Try.ntmps29
    go_wp2_with fail
    refine HCOL.out.mono ?_
    rintro e w' ⟨rfl, rfl⟩
    go_wp2
    go_ret
    exact ⟨ret_bool HE.out.symm, rfl⟩

set_option maxHeartbeats 1000000 in
theorem refuser_calls (l : List UInt8) (w : World) (hl : l.length ≤ 1000000) :
    Calls Try.prog 12 #[.string ⟨l.toArray⟩] w fun e w' => e = .returned (.bool (userF l)) ∧ w = w' := by
  go_enter Try.func12, Try.ntmps12
  go_wp2_with fail
  refine (named_calls l [97, 48] [46, 95, 61, 45, 47, 43] 64 (isAmong [46, 95, 61, 45, 47, 43]) _ hl (by simp) (by simp) k0 (fun t => only_among _ t usr_ascii)).mono ?_
  rintro e w' ⟨rfl, rfl⟩
  go_wp2
  go_ret
  exact ⟨rfl, rfl⟩

set_option maxHeartbeats 1000000 in
theorem refroom_calls (l : List UInt8) (w : World) (hl : l.length ≤ 1000000) :
    Calls Try.prog 14 #[.string ⟨l.toArray⟩] w fun e w' => e = .returned (.bool (roomF l)) ∧ w = w' := by
  go_enter Try.func14, Try.ntmps14
  go_wp2_with fail
  refine (named_calls l [97, 65, 48] [95, 45] 33 (isCap [95, 45]) _ hl (by simp) (by simp) k2 (fun t => only_caps _ t room_ascii)).mono ?_
  rintro e w' ⟨rfl, rfl⟩
  go_wp2
  go_ret
  exact ⟨rfl, rfl⟩

set_option maxHeartbeats 1000000 in
theorem refdomain_calls (l : List UInt8) (w : World) (hl : l.length ≤ 1000000) :
    Calls Try.prog 21 #[.string ⟨l.toArray⟩] w fun e w' => e = .returned (.string ⟨(domainF l).toArray⟩) ∧ w = w' := by
  have hcol := colon_calls l w hl
  have hcl := colonF_le l
  have hle : userF l = true ∨ roomF l = true → colonF l < l.length := by
    have h : ∀ sign p, namedF sign p l = true → colonF l < l.length := by
      intro sign p h
      rw [namedF_def] at h
      simp only [Bool.and_eq_true, decide_eq_true_eq] at h
      exact h.2.1
    rintro (h1 | h1)
    · exact h _ _ h1
    · exact h _ _ h1
  have HLE := Lib.hid hle; clear hle
  cases hu : userF l with
  | true =>
    have hlt := HLE.out (.inl hu)
    have HE : Hid (domainF l = l.drop (colonF l + 1)) := by show _ = _; unfold domainF; rw [hu]; rfl
    generalize colonF l = i at *
    have hi1 : (i : Int) + 1 ≤ (l.length : Int) := by omega
    go_enter Try.func21, Try.ntmps21
    go_wp2_with fail
    refine (refuser_calls l _ hl).mono ?_
    rintro e w' ⟨rfl, rfl⟩
    rw [hu]
    go_wp2_with fail
    refine hcol.mono ?_
    rintro e w' ⟨rfl, rfl⟩
    go_wp2
    go_ret
    exact ⟨ret_str (by rw [HE.out]), rfl⟩
  | false =>
    cases hr : roomF l with
    | true =>
      have hlt := HLE.out (.inr hr)
      have HE : Hid (domainF l = l.drop (colonF l + 1)) := by show _ = _; unfold domainF; rw [hu, hr]; rfl
      generalize colonF l = i at *
      have hi1 : (i : Int) + 1 ≤ (l.length : Int) := by omega
      go_enter Try.func21, Try.ntmps21
      go_wp2_with fail
      refine (refuser_calls l _ hl).mono ?_
      rintro e w' ⟨rfl, rfl⟩
      rw [hu]
      go_wp2_with fail
      refine (refroom_calls l _ hl).mono ?_
      rintro e w' ⟨rfl, rfl⟩
      rw [hr]
      go_wp2_with fail
      refine hcol.mono ?_
      rintro e w' ⟨rfl, rfl⟩
      go_wp2
      go_ret
      exact ⟨ret_str (by rw [HE.out]), rfl⟩
    | false =>
      have HE : Hid (domainF l = []) := by show _ = _; unfold domainF; rw [hu, hr]; rfl
      go_enter Try.func21, Try.ntmps21
      go_wp2_with fail
      refine (refuser_calls l _ hl).mono ?_
      rintro e w' ⟨rfl, rfl⟩
      rw [hu]
      go_wp2_with fail
      refine (refroom_calls l _ hl).mono ?_
      rintro e w' ⟨rfl, rfl⟩
      rw [hr]
      go_wp2
      go_ret
      exact ⟨by rw [HE.out]; rfl, rfl⟩

set_option maxHeartbeats 1000000 in
theorem refkey_calls (l : List UInt8) (w : World) (hl : l.length ≤ 1000000) :
    Calls Try.prog 16 #[.string ⟨l.toArray⟩] w fun e w' => e = .returned (.bool (keyF l)) ∧ w = w' := by
  have hT1 : (l.drop 8).length ≤ 1000000 := by rw [List.length_drop]; omega
  have hOf := fun w => of_calls (l.drop 8) [97, 65, 48] [95] w hT1 (by simp) (by simp) k2
  rw [only_caps _ _ key_ascii] at hOf
  have HOF := Lib.hid hOf; clear hOf
  have HK : Hid (keyF l = (l.take 8 == [101, 100, 50, 53, 53, 49, 57, 58] && decide (l.length ≤ 255) && onlyF (isCap [95]) (l.drop 8))) := by show _ = _; unfold keyF; rw [prefix_key]
  by_cases h255 : l.length ≤ 255
  · by_cases h8 : 8 < l.length
    · cases hp : (l.take 8 == [101, 100, 50, 53, 53, 49, 57, 58]) with
      | true =>
        have HE : Hid (keyF l = onlyF (isCap [95]) (l.drop 8)) := by show _ = _; rw [HK.out, hp]; simp [h255]
        have h8i : (8 : Int) ≤ (l.length : Int) := by omega
        go_enter Try.func16, Try.ntmps16
        go_wp2_with fail
        refine (HOF.out _).mono ?_
        rintro e w' ⟨rfl, rfl⟩
        go_wp2
        go_ret
        exact ⟨ret_bool HE.out.symm, rfl⟩
      | false =>
        have HE : Hid (keyF l = false) := by show _ = _; rw [HK.out, hp]; simp
        have h8i : (8 : Int) ≤ (l.length : Int) := by omega
        go_enter Try.func16, Try.ntmps16
        go_wp2
        go_ret
        exact ⟨ret_bool HE.out.symm, rfl⟩
    · have h8' : decide ((l.length : Int) > 8) = false := by simp; omega
      have HE : Hid (keyF l = false) := by
        show _ = _; rw [HK.out]
        by_cases h : l.length = 8
        · rw [List.drop_eq_nil_of_le (by omega)]; simp [onlyF]
        · have : (l.take 8 == [101, 100, 50, 53, 53, 49, 57, 58]) = false := by
            rw [beq_eq_false_iff_ne]; intro e
            have := congrArg List.length e
            rw [List.length_take] at this
            simp at this; omega
          rw [this]; simp
      go_enter Try.func16, Try.ntmps16
      go_wp2
      go_ret
      exact ⟨ret_bool HE.out.symm, rfl⟩
  · have h255' : decide ((l.length : Int) ≤ 255) = false := by simp; omega
    have HE : Hid (keyF l = false) := by show _ = _; rw [HK.out]; simp [h255]
    go_enter Try.func16, Try.ntmps16
    go_wp2
    go_ret
    exact ⟨ret_bool HE.out.symm, rfl⟩
end Go.Proofs.Ytaadojnkamjilaa
