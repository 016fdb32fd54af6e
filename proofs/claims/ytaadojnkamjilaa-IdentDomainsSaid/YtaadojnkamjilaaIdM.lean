/- The walks of the laws on names of users, rooms, keys, and on their servers. -/
import Derived.Test.YtaadojnkamjilaaIdR
namespace Go.Proofs.Ytaadojnkamjilaa
open Go.ChangeShapes Go.WideShapes Go.ChangeAt Go.RowKit Go.IntWalk
set_option linter.unusedVariables false

theorem identUsers_yes : userF [64, 97, 110, 110, 58, 97, 46, 111, 114, 103] = true := by decide
theorem identUsers_no : userF [64, 97, 110, 110] = false := by decide

set_option maxHeartbeats 1000000 in
theorem identUsers_walk (s : ByteArray) (hs : s.size ≤ maxLen) {w : World} (hm : Max w) :
    Calls Try.prog 4 #[.string s] w fun e w' => e = .returned (.bool true) ∧ Below w.heap.size w w' := by
  obtain ⟨l, rfl, hsl⟩ := str_split s
  clear hs hsl
  go_enter Try.func4, Try.ntmps4
  go_wp2_with fail
  refine (User_calls [64, 97, 110, 110, 58, 97, 46, 111, 114, 103] _ hm (by simp)).mono ?_
  rintro e w1 ⟨rfl, b1⟩
  rw [identUsers_yes]
  go_wp2_with fail
  refine (User_calls [64, 97, 110, 110] _ (hm.below b1) (by simp)).mono ?_
  rintro e w2 ⟨rfl, hb2⟩
  rw [identUsers_no]
  have b2 := b1.then_ hb2
  by_cases hl : l.length ≤ 1024
  · have hd : decide ((l.length : Int) > 1024) = false := by simp; omega
    go_wp2_with fail
    refine (User_calls l _ (hm.below b2) (by omega)).mono ?_
    rintro e w3 ⟨rfl, hb3⟩
    have b3 := b2.then_ hb3
    go_wp2_with fail
    refine (refuser_calls l _ (by omega)).mono ?_
    rintro e w4 ⟨rfl, rfl⟩
    go_wp2
    go_ret
    exact ⟨by simp, b3⟩
  · have hd : decide ((l.length : Int) > 1024) = true := by simp; omega
    go_wp2
    go_ret
    exact ⟨by simp, b2⟩

theorem identRooms_yes : roomF [33, 82, 58, 97, 46, 111, 114, 103] = true := by decide
theorem identRooms_no : roomF [82, 58, 97, 46, 111, 114, 103] = false := by decide

set_option maxHeartbeats 1000000 in
theorem identRooms_walk (s : ByteArray) (hs : s.size ≤ maxLen) {w : World} (hm : Max w) :
    Calls Try.prog 5 #[.string s] w fun e w' => e = .returned (.bool true) ∧ Below w.heap.size w w' := by
  obtain ⟨l, rfl, hsl⟩ := str_split s
  clear hs hsl
  go_enter Try.func5, Try.ntmps5
  go_wp2_with fail
  refine (Room_calls [33, 82, 58, 97, 46, 111, 114, 103] _ hm (by simp)).mono ?_
  rintro e w1 ⟨rfl, b1⟩
  rw [identRooms_yes]
  go_wp2_with fail
  refine (Room_calls [82, 58, 97, 46, 111, 114, 103] _ (hm.below b1) (by simp)).mono ?_
  rintro e w2 ⟨rfl, hb2⟩
  rw [identRooms_no]
  have b2 := b1.then_ hb2
  by_cases hl : l.length ≤ 1024
  · have hd : decide ((l.length : Int) > 1024) = false := by simp; omega
    go_wp2_with fail
    refine (Room_calls l _ (hm.below b2) (by omega)).mono ?_
    rintro e w3 ⟨rfl, hb3⟩
    have b3 := b2.then_ hb3
    go_wp2_with fail
    refine (refroom_calls l _ (by omega)).mono ?_
    rintro e w4 ⟨rfl, rfl⟩
    go_wp2
    go_ret
    exact ⟨by simp, b3⟩
  · have hd : decide ((l.length : Int) > 1024) = true := by simp; omega
    go_wp2
    go_ret
    exact ⟨by simp, b2⟩

theorem identKeys_yes : keyF [101, 100, 50, 53, 53, 49, 57, 58, 97, 95, 49] = true := by decide
theorem identKeys_no : keyF [101, 100, 50, 53, 53, 49, 57, 58] = false := by decide

set_option maxHeartbeats 1000000 in
theorem identKeys_walk (s : ByteArray) (hs : s.size ≤ maxLen) {w : World} (hm : Max w) :
    Calls Try.prog 6 #[.string s] w fun e w' => e = .returned (.bool true) ∧ Below w.heap.size w w' := by
  obtain ⟨l, rfl, hsl⟩ := str_split s
  clear hs hsl
  go_enter Try.func6, Try.ntmps6
  go_wp2_with fail
  refine (Key_calls [101, 100, 50, 53, 53, 49, 57, 58, 97, 95, 49] _ hm (by simp)).mono ?_
  rintro e w1 ⟨rfl, b1⟩
  rw [identKeys_yes]
  go_wp2_with fail
  refine (Key_calls [101, 100, 50, 53, 53, 49, 57, 58] _ (hm.below b1) (by simp)).mono ?_
  rintro e w2 ⟨rfl, hb2⟩
  rw [identKeys_no]
  have b2 := b1.then_ hb2
  by_cases hl : l.length ≤ 1024
  · have hd : decide ((l.length : Int) > 1024) = false := by simp; omega
    go_wp2_with fail
    refine (Key_calls l _ (hm.below b2) (by omega)).mono ?_
    rintro e w3 ⟨rfl, hb3⟩
    have b3 := b2.then_ hb3
    go_wp2_with fail
    refine (refkey_calls l _ (by omega)).mono ?_
    rintro e w4 ⟨rfl, rfl⟩
    go_wp2
    go_ret
    exact ⟨by simp, b3⟩
  · have hd : decide ((l.length : Int) > 1024) = true := by simp; omega
    go_wp2
    go_ret
    exact ⟨by simp, b2⟩

theorem identDomains_yes : domainF [64, 97, 110, 110, 58, 97, 46, 111, 114, 103] = [97, 46, 111, 114, 103] := by decide

theorem named_server (sign : UInt8) (p : Int → Bool) (l : List UInt8) (h : namedF sign p l = true) : serverF (l.drop (colonF l + 1)) = true := by
  rw [namedF_def] at h
  simp only [Bool.and_eq_true] at h
  exact h.2.2.2.2.2
theorem domain_some (l : List UInt8) (h : userF l = true ∨ roomF l = true) : ∃ c t, domainF l = c :: t ∧ serverF (c :: t) = true ∧ t.length < l.length := by
  have h1 : domainF l = l.drop (colonF l + 1) := by
    unfold domainF
    rcases h with h | h
    · rw [h]; rfl
    · rw [h]; simp
  have h2 : serverF (l.drop (colonF l + 1)) = true := by
    rcases h with h | h
    · exact named_server _ _ _ h
    · exact named_server _ _ _ h
  have h3 : (l.drop (colonF l + 1)).length ≤ l.length := by rw [List.length_drop]; omega
  rw [h1]
  cases hd : l.drop (colonF l + 1) with
  | nil => rw [hd, serverF_nil] at h2; cases h2
  | cons c t => rw [hd] at h2 h3; exact ⟨c, t, rfl, h2, by simp at h3; omega⟩

set_option maxHeartbeats 2000000 in
theorem identDomains_walk (s : ByteArray) (hs : s.size ≤ maxLen) {w : World} (hm : Max w) :
    Calls Try.prog 8 #[.string s] w fun e w' => e = .returned (.bool true) ∧ Below w.heap.size w w' := by
  obtain ⟨l, rfl, hsl⟩ := str_split s
  clear hs hsl
  by_cases hl : l.length ≤ 1024
  · cases hu : userF l with
    | true =>
      obtain ⟨c, t, hd, hsv, htl⟩ := domain_some l (.inl hu)
      have HD := Lib.hid hd; clear hd
      have HS := Lib.hid hsv; clear hsv
      have hct : (c :: t).length ≤ 1000000 := by simp; omega
      go_enter Try.func8, Try.ntmps8
      go_wp2_with fail
      refine (Domain_calls [64, 97, 110, 110, 58, 97, 46, 111, 114, 103] _ hm (by simp)).mono ?_
      rintro e w1 ⟨rfl, b1⟩
      rw [identDomains_yes]
      go_wp2_with fail
      refine (Domain_calls l _ (hm.below b1) (by omega)).mono ?_
      rintro e w2 ⟨rfl, hb2⟩
      have b2 := b1.then_ hb2
      rw [HD.out]
      go_wp2_with fail
      refine (refdomain_calls l _ (by omega)).mono ?_
      rintro e w3 ⟨rfl, rfl⟩
      rw [HD.out]
      go_wp2_with fail
      refine (User_calls l _ (hm.below b2) (by omega)).mono ?_
      rintro e w3 ⟨rfl, hb3⟩
      have b3 := b2.then_ hb3
      rw [hu]
      go_wp2_with fail
      refine (server_calls (c :: t) _ (hm.below b3) hct).mono ?_
      rintro e w5 ⟨rfl, hb5⟩
      have b5 := b3.then_ hb5
      rw [HS.out]
      go_wp2
      go_ret
      exact ⟨by simp, b5⟩
    | false =>
      cases hr : roomF l with
      | true =>
        obtain ⟨c, t, hd, hsv, htl⟩ := domain_some l (.inr hr)
        have HD := Lib.hid hd; clear hd
        have HS := Lib.hid hsv; clear hsv
        have hct : (c :: t).length ≤ 1000000 := by simp; omega
        go_enter Try.func8, Try.ntmps8
        go_wp2_with fail
        refine (Domain_calls [64, 97, 110, 110, 58, 97, 46, 111, 114, 103] _ hm (by simp)).mono ?_
        rintro e w1 ⟨rfl, b1⟩
        rw [identDomains_yes]
        go_wp2_with fail
        refine (Domain_calls l _ (hm.below b1) (by omega)).mono ?_
        rintro e w2 ⟨rfl, hb2⟩
        have b2 := b1.then_ hb2
        rw [HD.out]
        go_wp2_with fail
        refine (refdomain_calls l _ (by omega)).mono ?_
        rintro e w3 ⟨rfl, rfl⟩
        rw [HD.out]
        go_wp2_with fail
        refine (User_calls l _ (hm.below b2) (by omega)).mono ?_
        rintro e w3 ⟨rfl, hb3⟩
        have b3 := b2.then_ hb3
        rw [hu]
        go_wp2_with fail
        refine (Room_calls l _ (hm.below b3) (by omega)).mono ?_
        rintro e w4 ⟨rfl, hb4⟩
        have b4 := b3.then_ hb4
        rw [hr]
        go_wp2_with fail
        refine (server_calls (c :: t) _ (hm.below b4) hct).mono ?_
        rintro e w5 ⟨rfl, hb5⟩
        have b5 := b4.then_ hb5
        rw [HS.out]
        go_wp2
        go_ret
        exact ⟨by simp, b5⟩
      | false =>
        have HD : Hid (domainF l = []) := by show _ = _; unfold domainF; rw [hu, hr]; rfl
        go_enter Try.func8, Try.ntmps8
        go_wp2_with fail
        refine (Domain_calls [64, 97, 110, 110, 58, 97, 46, 111, 114, 103] _ hm (by simp)).mono ?_
        rintro e w1 ⟨rfl, b1⟩
        rw [identDomains_yes]
        go_wp2_with fail
        refine (Domain_calls l _ (hm.below b1) (by omega)).mono ?_
        rintro e w2 ⟨rfl, hb2⟩
        have b2 := b1.then_ hb2
        rw [HD.out]
        go_wp2_with fail
        refine (refdomain_calls l _ (by omega)).mono ?_
        rintro e w3 ⟨rfl, rfl⟩
        rw [HD.out]
        go_wp2_with fail
        refine (User_calls l _ (hm.below b2) (by omega)).mono ?_
        rintro e w3 ⟨rfl, hb3⟩
        have b3 := b2.then_ hb3
        rw [hu]
        go_wp2_with fail
        refine (Room_calls l _ (hm.below b3) (by omega)).mono ?_
        rintro e w4 ⟨rfl, hb4⟩
        have b4 := b3.then_ hb4
        rw [hr]
        go_wp2
        go_ret
        exact ⟨by simp, b4⟩
  · go_enter Try.func8, Try.ntmps8
    go_wp2_with fail
    refine (Domain_calls [64, 97, 110, 110, 58, 97, 46, 111, 114, 103] _ hm (by simp)).mono ?_
    rintro e w1 ⟨rfl, b1⟩
    rw [identDomains_yes]
    go_wp2
    go_ret
    exact ⟨rfl, b1⟩
end Go.Proofs.Ytaadojnkamjilaa
