/- The document's users' names. -/
import Derived.Test.YtmfefeemkhncfaaDoorIdUu
import Derived.Test.YtmfefeemkhncfaaDoorIdO
namespace Go.Proofs.YtmfefeemkhncfaaDoor
open Go.ChangeShapes Go.WideShapes Go.ChangeAt Go.RowKit Go.IntWalk
set_option linter.unusedVariables false

set_option maxHeartbeats 2000000 in
theorem named_calls (l K G : List UInt8) (sign : UInt8) (p : Int → Bool) (w : World) (hl : l.length ≤ 1000000) (hKl : K.length ≤ 1000) (hGl : G.length ≤ 1000) (hK : ∀ k ∈ K, k = 97 ∨ k = 65 ∨ k = 48)
    (he : ∀ t, ofF K G t = onlyF p t) :
    Calls Tryd.prog 50 #[.string ⟨l.toArray⟩, .int .u8 sign.toNat, .string ⟨K.toArray⟩, .string ⟨G.toArray⟩] w fun e w' => e = .returned (.bool (namedF sign p l)) ∧ w = w' := by
  have hN := namedF_def sign p l
  have hcol := colon_calls l w hl
  have hile := colonF_le l
  obtain ⟨i, hi⟩ : ∃ i, i = colonF l := ⟨_, rfl⟩
  rw [← hi] at hN hcol hile
  clear hi
  have HN := Lib.hid hN; clear hN
  have HCOL := Lib.hid hcol; clear hcol
  by_cases h255 : l.length ≤ 255
  · by_cases hil : i < l.length
    · by_cases h0 : 0 < i
      · have hl0 : 0 < l.length := by omega
        obtain ⟨c, hc⟩ : ∃ c, l[0] = c := ⟨_, rfl⟩
        have hcg : l.getD 0 0 = c := by rw [List.getD_eq_getElem?_getD, List.getElem?_eq_getElem hl0]; exact hc
        by_cases hcs : c = sign
        · have hcs' : ((c.toNat : Int) == (sign.toNat : Int)) = true := by simp [hcs]
          have hT1 : (l.take i).tail.length ≤ 1000000 := by rw [List.length_tail, List.length_take]; omega
          have hP1 : (l.drop (i + 1)).length ≤ 1000000 := by rw [List.length_drop]; omega
          have HE : Hid (namedF sign p l = (onlyF p (l.take i).tail && serverF (l.drop (i + 1)))) := by show _ = _; rw [HN.out, hcg, hcs, List.drop_one]; simp [h255, hil, h0]
          have hOf := fun w => of_calls (l.take i).tail K G w hT1 hKl hGl hK
          rw [he] at hOf
          have hSv := fun w => refserver_calls (l.drop (i + 1)) w hP1
          have HOF := Lib.hid hOf; clear hOf
          have HSV := Lib.hid hSv; clear hSv
          have hi1 : (i : Int) + 1 ≤ (l.length : Int) := by omega
          have h1i : (1 : Int) ≤ (i : Int) := by omega
          clear hcs hcg HN
          cases hon : onlyF p (l.take i).tail with
          | false =>
            rw [hon] at HOF HE
            go_enter Tryd.func50, Tryd.ntmps50
            go_wp2_with fail
            refine HCOL.out.mono ?_
            rintro e w' ⟨rfl, rfl⟩
            go_wp2_with fail
            refine (HOF.out _).mono ?_
            rintro e w' ⟨rfl, rfl⟩
            go_wp2
            go_ret
            exact ⟨ret_bool HE.out.symm, rfl⟩
          | true =>
            rw [hon] at HOF HE
            go_enter Tryd.func50, Tryd.ntmps50
            go_wp2_with fail
            refine HCOL.out.mono ?_
            rintro e w' ⟨rfl, rfl⟩
            go_wp2_with fail
            refine (HOF.out _).mono ?_
            rintro e w' ⟨rfl, rfl⟩
            go_wp2_with fail
            refine (HSV.out _).mono ?_
            rintro e w' ⟨rfl, rfl⟩
            go_wp2
            go_ret
            exact ⟨ret_bool HE.out.symm, rfl⟩
        · have hcs' : ((c.toNat : Int) == (sign.toNat : Int)) = false := by
            rw [beq_eq_false_iff_ne]; intro h; exact hcs (UInt8.toNat_inj.1 (by omega))
          have hcs2 : (c == sign) = false := by simpa using hcs
          have HE : Hid (namedF sign p l = false) := by show _ = _; rw [HN.out, hcg, hcs2]; simp
          clear hcg
          go_enter Tryd.func50, Tryd.ntmps50
          go_wp2_with fail
          refine HCOL.out.mono ?_
          rintro e w' ⟨rfl, rfl⟩
          go_wp2
          go_ret
          exact ⟨ret_bool HE.out.symm, rfl⟩
      · have h0' : decide ((i : Int) > 0) = false := by simp; omega
        have HE : Hid (namedF sign p l = false) := by show _ = _; rw [HN.out]; simp [h0]
        go_enter Tryd.func50, Tryd.ntmps50
        go_wp2_with fail
        refine HCOL.out.mono ?_
        rintro e w' ⟨rfl, rfl⟩
        go_wp2
        go_ret
        exact ⟨ret_bool HE.out.symm, rfl⟩
    · have HE : Hid (namedF sign p l = false) := by show _ = _; rw [HN.out]; simp [hil]
      go_enter Tryd.func50, Tryd.ntmps50
      go_wp2_with fail
      refine HCOL.out.mono ?_
      rintro e w' ⟨rfl, rfl⟩
      go_wp2
      go_ret
      exact ⟨ret_bool HE.out.symm, rfl⟩
  · have h255' : decide ((l.length : Int) ≤ 255) = false := by simp; omega
    have HE : Hid (namedF sign p l = false) := by show _ = _; rw [HN.out]; simp [h255]
    go_enter Tryd.func50, Tryd.ntmps50
    go_wp2_with fail
    refine HCOL.out.mono ?_
    rintro e w' ⟨rfl, rfl⟩
    go_wp2
    go_ret
    exact ⟨ret_bool HE.out.symm, rfl⟩

set_option maxHeartbeats 1000000 in
theorem nRefuser_calls (l : List UInt8) (w : World) (hl : l.length ≤ 1000000) :
    Calls Tryd.prog 34 #[.string ⟨l.toArray⟩] w fun e w' => e = .returned (.bool (nUserF l)) ∧ w = w' := by
  go_enter Tryd.func34, Tryd.ntmps34
  go_wp2_with fail
  refine (named_calls l [97, 48] [46, 95, 61, 45, 47, 43] 64 (isAmong [46, 95, 61, 45, 47, 43]) _ hl (by simp) (by simp) k0 (fun t => only_among _ t usr_ascii)).mono ?_
  rintro e w' ⟨rfl, rfl⟩
  go_wp2
  go_ret
  exact ⟨rfl, rfl⟩

end Go.Proofs.YtmfefeemkhncfaaDoor
