/- The contracts of the reference's functions on names. -/
import Derived.Test.YtmfefeemkhncfaaDoorIdO
namespace Go.Proofs.YtmfefeemkhncfaaDoor
open Go.ChangeShapes Go.WideShapes Go.ChangeAt Go.RowKit Go.IntWalk
set_option linter.unusedVariables false

theorem signs_eq (G : List UInt8) (hG : ∀ b ∈ G, b.toNat < 128) (c : UInt8) : inSigns G c.toNat = G.contains c := by
  unfold inSigns
  rw [show ((c.toNat : Int).toNat.toUInt8) = c from by simp]
  by_cases h : c.toNat < 128
  · rw [decide_eq_true (show (0 : Int) ≤ c.toNat ∧ (c.toNat : Int) < 128 from by omega)]; simp
  · rw [decide_eq_false (show ¬ ((0 : Int) ≤ c.toNat ∧ (c.toNat : Int) < 128) from by omega)]
    cases hc : G.contains c with
    | false => rfl
    | true => have := hG c (by simpa using hc); omega
theorem only_among (G l : List UInt8) (hG : ∀ b ∈ G, b.toNat < 128) : ofF [97, 48] G l = onlyF (isAmong G) l := by
  unfold ofF onlyF
  congr 1
  refine List.all_congr rfl fun c => ?_
  rw [← signs_eq G hG c]
  unfold isAmong
  generalize inSigns G c.toNat = S
  unfold kindsB kindB isDigit
  generalize c.toNat = C
  rw [Bool.eq_iff_iff]
  simp
  cases S <;> simp <;> omega
theorem only_caps (G l : List UInt8) (hG : ∀ b ∈ G, b.toNat < 128) : ofF [97, 65, 48] G l = onlyF (isCap G) l := by
  unfold ofF onlyF
  congr 1
  refine List.all_congr rfl fun c => ?_
  rw [← signs_eq G hG c]
  unfold isCap isAmong
  generalize inSigns G c.toNat = S
  unfold kindsB kindB isDigit
  generalize c.toNat = C
  rw [Bool.eq_iff_iff]
  simp
  cases S <;> simp <;> omega
theorem only_digits (l : List UInt8) : ofF [48] [] l = onlyF isDigit l := by
  unfold ofF onlyF
  congr 1
  refine List.all_congr rfl fun c => ?_
  unfold kindsB kindB isDigit
  generalize c.toNat = C
  rw [Bool.eq_iff_iff]
  simp
  omega

set_option maxHeartbeats 1000000 in
theorem colon_calls (l : List UInt8) (w : World) (hl : l.length ≤ 1000000) :
    Calls Tryd.prog 58 #[.string ⟨l.toArray⟩] w fun e w' => e = .returned (.int .i64 (colonF l)) ∧ w = w' := by
  go_enter Tryd.func58, Tryd.ntmps58
  go_wp2
  go_loop [3] (fun v => ∃ i : Nat, i ≤ l.length ∧ v = .int .i64 i ∧ Hid (∀ j, j < i → l.getD j 0 ≠ 58)) (fun v => l.length - (intOf v).toNat)
  case atStart => exact ⟨0, Nat.zero_le _, rfl, fun j hj => absurd hj (by omega)⟩
  case round =>
    obtain ⟨i, hi, rfl, hall⟩ := hrel
    by_cases hlt : i < l.length
    · obtain ⟨c, hc⟩ : ∃ c, l[i] = c := ⟨_, rfl⟩
      have hcg : Hid (l.getD i 0 = c) := by show _ = _; rw [List.getD_eq_getElem?_getD, List.getElem?_eq_getElem hlt]; exact hc
      by_cases h58 : c = 58
      · subst h58
        have HE : Hid (colonF l = i) := colon_of l i hall.out (.inl ⟨hlt, hcg.out⟩)
        go_wp2
        go_ret
        exact ⟨ret_int (by rw [HE.out]), rfl⟩
      · have hne : ((c.toNat : Int) == 58) = false := by
          rw [beq_eq_false_iff_ne]; intro h; exact h58 (UInt8.toNat_inj.1 (by show c.toNat = 58; omega))
        go_wp2
        go_round
        case rel => exact ⟨i + 1, by omega, by go_num, fun j hj => by
          by_cases h : j < i
          · exact hall.out j h
          · rw [show j = i from by omega, hcg.out]; exact h58⟩
        case measure => simp [intOf]; omega
    · have HE : Hid (colonF l = l.length) := by
        have hin : i = l.length := by omega
        rw [← hin]; exact colon_of l i hall.out (.inr hin)
      go_wp2
      go_ret
      exact ⟨ret_int (by rw [HE.out]), rfl⟩

theorem k0 : ∀ k ∈ ([97, 48] : List UInt8), k = 97 ∨ k = 65 ∨ k = 48 := by decide
theorem k1 : ∀ k ∈ ([48] : List UInt8), k = 97 ∨ k = 65 ∨ k = 48 := by decide
theorem k2 : ∀ k ∈ ([97, 65, 48] : List UInt8), k = 97 ∨ k = 65 ∨ k = 48 := by decide
theorem dots_ascii' : ∀ b ∈ ([46, 45] : List UInt8), b.toNat < 128 := by decide

set_option maxHeartbeats 1000000 in
theorem refserver_calls (l : List UInt8) (w : World) (hl : l.length ≤ 1000000) :
    Calls Tryd.prog 60 #[.string ⟨l.toArray⟩] w fun e w' => e = .returned (.bool (serverF l)) ∧ w = w' := by
  obtain ⟨i, hi⟩ : ∃ i, i = colonF l := ⟨_, rfl⟩
  have hile : i ≤ l.length := by rw [hi]; exact colonF_le l
  have hT1 : (l.take i).length ≤ 1000000 := by rw [List.length_take]; omega
  have hD1 : (l.drop (i + 1)).length ≤ 1000000 := by rw [List.length_drop]; omega
  have HD : Hid (serverF l = (decide (l.length ≤ 255) && onlyF (isAmong [46, 45]) (l.take i) && (decide (i = l.length) || (decide (l.length - i ≤ 6) && onlyF isDigit (l.drop (i + 1)))))) := by
    show _ = _; unfold serverF; rw [← hi]
  have hcol := colon_calls l w hl
  rw [← hi] at hcol
  have HCOL := Lib.hid hcol; clear hcol hi
  have hOf := fun w => of_calls (l.take i) [97, 48] [46, 45] w hT1 (by simp) (by simp) k0
  rw [only_among _ _ dots_ascii'] at hOf
  have HOF := Lib.hid hOf; clear hOf
  have hOf2 := fun w => of_calls (l.drop (i + 1)) [48] [] w hD1 (by simp) (by simp) k1
  rw [only_digits] at hOf2
  have HOF2 := Lib.hid hOf2; clear hOf2
  by_cases h255 : l.length ≤ 255
  · cases hT : onlyF (isAmong [46, 45]) (l.take i) with
    | true =>
      rw [hT] at HD HOF
      by_cases hin : i = l.length
      · have hin' : ((i : Int) == (l.length : Int)) = true := by simp [hin]
        have HE : Hid (serverF l = true) := by show _ = _; rw [HD.out]; simp [h255, hin]
        clear hin
        go_enter Tryd.func60, Tryd.ntmps60
        go_wp2_with fail
        refine HCOL.out.mono ?_
        rintro e w' ⟨rfl, rfl⟩
        go_wp2_with fail
        refine (HOF.out _).mono ?_
        rintro e w' ⟨rfl, rfl⟩
        go_wp2
        go_ret
        exact ⟨ret_bool HE.out.symm, rfl⟩
      · have hin' : ((i : Int) == (l.length : Int)) = false := by simp; omega
        by_cases h6 : l.length - i ≤ 6
        · have h6' : decide ((l.length : Int) - (i : Int) ≤ 6) = true := by simp; omega
          have HE : Hid (serverF l = onlyF isDigit (l.drop (i + 1))) := by show _ = _; rw [HD.out]; simp [h255, hin, h6]
          have hi1 : (i : Int) + 1 ≤ (l.length : Int) := by omega
          go_enter Tryd.func60, Tryd.ntmps60
          go_wp2_with fail
          refine HCOL.out.mono ?_
          rintro e w' ⟨rfl, rfl⟩
          go_wp2_with fail
          refine (HOF.out _).mono ?_
          rintro e w' ⟨rfl, rfl⟩
          go_wp2_with fail
          refine (HOF2.out _).mono ?_
          rintro e w' ⟨rfl, rfl⟩
          go_wp2
          go_ret
          exact ⟨ret_bool HE.out.symm, rfl⟩
        · have h6' : decide ((l.length : Int) - (i : Int) ≤ 6) = false := by simp; omega
          have HE : Hid (serverF l = false) := by show _ = _; rw [HD.out]; simp [h255, hin, h6]
          go_enter Tryd.func60, Tryd.ntmps60
          go_wp2_with fail
          refine HCOL.out.mono ?_
          rintro e w' ⟨rfl, rfl⟩
          go_wp2_with fail
          refine (HOF.out _).mono ?_
          rintro e w' ⟨rfl, rfl⟩
          go_wp2
          go_ret
          exact ⟨ret_bool HE.out.symm, rfl⟩
    | false =>
      rw [hT] at HD HOF
      have HE : Hid (serverF l = false) := by show _ = _; rw [HD.out]; simp
      go_enter Tryd.func60, Tryd.ntmps60
      go_wp2_with fail
      refine HCOL.out.mono ?_
      rintro e w' ⟨rfl, rfl⟩
      go_wp2_with fail
      refine (HOF.out _).mono ?_
      rintro e w' ⟨rfl, rfl⟩
      go_wp2
      go_ret
      exact ⟨ret_bool HE.out.symm, rfl⟩
  · have HE : Hid (serverF l = false) := by show _ = _; rw [HD.out]; simp [h255]
    go_enter Tryd.func60, Tryd.ntmps60
    go_wp2_with fail
    refine HCOL.out.mono ?_
    rintro e w' ⟨rfl, rfl⟩
    go_wp2
    go_ret
    exact ⟨ret_bool HE.out.symm, rfl⟩
end Go.Proofs.YtmfefeemkhncfaaDoor
