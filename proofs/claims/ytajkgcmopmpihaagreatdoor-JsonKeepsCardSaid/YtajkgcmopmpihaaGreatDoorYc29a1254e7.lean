/- Texts put together: Js1. -/
import Derived.Test.YtajkgcmopmpihaaGreatDoorYb29be83949
import Derived.Test.YtajkgcmopmpihaaGreatDoorY71e62596e8
namespace Go.Proofs.YtajkgcmopmpihaaGreatDoor
open Go.ChangeShapes Go.WideShapes Go.ChangeAt Go.RowKit Go.IntWalk
set_option linter.unusedVariables false
set_option maxRecDepth 100000
set_option maxHeartbeats 4000000 in
theorem refblank_calls (s : List UInt8) (at_ : Nat) (w : World) (hs : s.length ≤ 65536) (ha : at_ ≤ s.length) : Calls Tryz.prog 26 #[.string ⟨s.toArray⟩, .int .i64 (at_ : Int)] w fun e w' => ∃ k : Nat, e = .returned (.int .i64 (k : Int)) ∧ at_ ≤ k ∧ k ≤ s.length ∧ s.drop k = skipB (s.drop at_) ∧ w = w' := by
  obtain ⟨n, hn⟩ : ∃ n, s.length = n := ⟨_, rfl⟩
  have hsz : (⟨s.toArray⟩ : ByteArray).size = n := hn
  have HN := Lib.hid hn
  rw [hn] at hs ha
  have HA := Lib.hid ha
  go_enter Tryz.func26, Tryz.ntmps26
  go_wp2_with fail
  go_loopw [1] (fun iv wr => ∃ k : Nat, iv = .int .i64 (k : Int) ∧ k ≤ n ∧ Hid (at_ ≤ k ∧ skipB (s.drop at_) = skipB (s.drop k) ∧ w = wr)) (fun iv _ => n - (intOf iv).toNat)
  case atStart => exact ⟨at_, rfl, HA.out, Lib.hid ⟨Nat.le_refl _, rfl, rfl⟩⟩
  case round =>
    obtain ⟨k, rfl, hk, HK⟩ := hrel
    by_cases hkn : k < n
    · have hk2 : (k : Int) < (n : Int) := by omega
      have hk3 : k < s.length := by rw [HN.out]; exact hkn
      obtain ⟨c, hc⟩ : ∃ c, s[k] = c := ⟨_, rfl⟩
      have HD := Lib.hid (show s.drop k = c :: s.drop (k + 1) by rw [List.drop_eq_getElem_cons hk3, hc])
      have hwr : IntKind.i64.wrap ((k : Int) + 1) = (k : Int) + 1 := IntWalk.i64_in _ (by omega)
      by_cases hb : blankB c = true
      · have HS := Lib.hid (show skipB (s.drop at_) = skipB (s.drop (k + 1)) by rw [HK.out.2.1, HD.out, skip_cons, if_pos hb])
        have hcc : c = 32 ∨ c = 9 ∨ c = 10 ∨ c = 13 := by unfold blankB at hb; simp only [Bool.or_eq_true, beq_iff_eq] at hb; rcases hb with ((h | h) | h) | h; exact .inl h; exact .inr (.inl h); exact .inr (.inr (.inl h)); exact .inr (.inr (.inr h))
        clear hb
        rcases hcc with rfl | rfl | rfl | rfl <;> (go_wp2_with fail; exact ⟨⟨k + 1, by push_cast; rfl, by omega, Lib.hid ⟨Nat.le_succ_of_le HK.out.1, HS.out, HK.out.2.2⟩⟩, by simp [intOf]; omega⟩)
      · have HS := Lib.hid (show s.drop k = skipB (s.drop at_) by rw [HK.out.2.1, HD.out, skip_cons, if_neg hb])
        have hne : ∀ d : UInt8, blankB d = true → ((c.toNat : Int) == (d.toNat : Int)) = false := fun d hd => by
          rw [beq_eq_false_iff_ne]
          intro e
          have e2 : c = d := UInt8.toNat_inj.1 (by omega)
          exact hb (by rw [e2]; exact hd)
        have q1 : ((c.toNat : Int) == 32) = false := hne 32 rfl
        have q2 : ((c.toNat : Int) == 9) = false := hne 9 rfl
        have q3 : ((c.toNat : Int) == 10) = false := hne 10 rfl
        have q4 : ((c.toNat : Int) == 13) = false := hne 13 rfl
        clear hb hne
        go_wp2_with fail
        go_ret
        exact ⟨k, rfl, HK.out.1, by first | exact hk | (rw [HN.out]; exact hk), HS.out, HK.out.2.2⟩
    · have hk2 : ¬ (k : Int) < (n : Int) := by omega
      go_wp2_with fail
      go_ret
      have hd : s.drop k = [] := List.drop_of_length_le (by rw [HN.out]; omega)
      exact ⟨k, rfl, HK.out.1, by first | exact hk | (rw [HN.out]; exact hk), by rw [HK.out.2.1, hd]; rfl, HK.out.2.2⟩
theorem take_digs {s : List UInt8} {k : Nat} {c : UInt8} (h : s.drop k = c :: s.drop (k + 1)) (hc : digB c = true) : (s.drop k).dropWhile digB = (s.drop (k + 1)).dropWhile digB := by rw [h, List.dropWhile_cons, if_pos hc]
set_option maxHeartbeats 4000000 in
theorem refdigits_calls (s : List UInt8) (at_ : Nat) (w : World) (hs : s.length ≤ 65536) (ha : at_ ≤ s.length) : Calls Tryz.prog 86 #[.string ⟨s.toArray⟩, .int .i64 (at_ : Int)] w fun e w' => ∃ k : Nat, e = .returned (.int .i64 (k : Int)) ∧ at_ ≤ k ∧ k ≤ s.length ∧ s.drop k = (s.drop at_).dropWhile digB ∧ w = w' := by
  obtain ⟨n, hn⟩ : ∃ n, s.length = n := ⟨_, rfl⟩
  have hsz : (⟨s.toArray⟩ : ByteArray).size = n := hn
  have HN := Lib.hid hn
  rw [hn] at hs ha
  have HA := Lib.hid ha
  go_enter Tryz.func86, Tryz.ntmps86
  go_wp2_with fail
  go_loopw [1] (fun iv wr => ∃ k : Nat, iv = .int .i64 (k : Int) ∧ k ≤ n ∧ Hid (at_ ≤ k ∧ (s.drop at_).dropWhile digB = (s.drop k).dropWhile digB ∧ w = wr)) (fun iv _ => n - (intOf iv).toNat)
  case atStart => exact ⟨at_, rfl, HA.out, Lib.hid ⟨Nat.le_refl _, rfl, rfl⟩⟩
  case round =>
    obtain ⟨k, rfl, hk, HK⟩ := hrel
    by_cases hkn : k < n
    · have hk2 : (k : Int) < (n : Int) := by omega
      have hk3 : k < s.length := by rw [HN.out]; exact hkn
      obtain ⟨c, hc⟩ : ∃ c, s[k] = c := ⟨_, rfl⟩
      have HD := Lib.hid (show s.drop k = c :: s.drop (k + 1) by rw [List.drop_eq_getElem_cons hk3, hc])
      have hwr : IntKind.i64.wrap ((k : Int) + 1) = (k : Int) + 1 := IntWalk.i64_in _ (by omega)
      obtain ⟨z, hz⟩ : ∃ z, c.toNat = z := ⟨_, rfl⟩
      have HZ := Lib.hid hz
      by_cases hb : 48 ≤ z ∧ z ≤ 57
      · have HS := Lib.hid (show (s.drop at_).dropWhile digB = (s.drop (k + 1)).dropWhile digB by rw [HK.out.2.1, take_digs HD.out ((digB_iff c).2 (by rw [HZ.out]; exact hb))])
        have q1 : decide ((48 : Int) ≤ (z : Int)) = true := by simp; omega
        have q2 : decide ((z : Int) ≤ 57) = true := by simp; omega
        have q3 : (48 : Int) ≤ (z : Int) := by omega
        have q4 : (z : Int) ≤ 57 := by omega
        go_wp2_with fail
        exact ⟨⟨k + 1, by push_cast; rfl, by omega, Lib.hid ⟨Nat.le_succ_of_le HK.out.1, HS.out, HK.out.2.2⟩⟩, by simp [intOf]; omega⟩
      · have HS := Lib.hid (show s.drop k = (s.drop at_).dropWhile digB by
          rw [HK.out.2.1, HD.out, List.dropWhile_cons, if_neg (fun e => hb (by rw [← HZ.out]; exact (digB_iff c).1 e))])
        by_cases h48 : 48 ≤ z
        · have q1 : decide ((48 : Int) ≤ (z : Int)) = true := by simp; omega
          have q3 : (48 : Int) ≤ (z : Int) := by omega
          have q4 : ¬ (z : Int) ≤ 57 := by omega
          have q2 : decide ((z : Int) ≤ 57) = false := by simp; omega
          clear hb h48
          go_wp2_with fail
          go_ret
          exact ⟨k, rfl, HK.out.1, by first | exact hk | (rw [HN.out]; exact hk), HS.out, HK.out.2.2⟩
        · have q3 : ¬ (48 : Int) ≤ (z : Int) := by omega
          have q1 : decide ((48 : Int) ≤ (z : Int)) = false := by simp; omega
          clear hb h48
          go_wp2_with fail
          go_ret
          exact ⟨k, rfl, HK.out.1, by first | exact hk | (rw [HN.out]; exact hk), HS.out, HK.out.2.2⟩
    · have hk2 : ¬ (k : Int) < (n : Int) := by omega
      go_wp2_with fail
      go_ret
      have hd : s.drop k = [] := List.drop_of_length_le (by rw [HN.out]; omega)
      exact ⟨k, rfl, HK.out.1, by first | exact hk | (rw [HN.out]; exact hk), by rw [HK.out.2.1, hd]; rfl, HK.out.2.2⟩
set_option maxHeartbeats 4000000 in
theorem refhas_calls (s t : List UInt8) (at_ : Nat) (w : World) (hs : s.length ≤ 65536) (ha : at_ ≤ s.length) (ht : t.length ≤ 5) : Calls Tryz.prog 38 #[.string ⟨s.toArray⟩, .int .i64 (at_ : Int), .string ⟨t.toArray⟩] w fun e w' => e = .returned (.bool (decide (t <+: s.drop at_))) ∧ w = w' := by
  obtain ⟨n, hn⟩ : ∃ n, s.length = n := ⟨_, rfl⟩
  obtain ⟨m, hm⟩ : ∃ m, t.length = m := ⟨_, rfl⟩
  have hsz : (⟨s.toArray⟩ : ByteArray).size = n := hn
  have htz : (⟨t.toArray⟩ : ByteArray).size = m := hm
  have HN := Lib.hid (And.intro hn hm)
  rw [hn] at hs ha
  rw [hm] at ht
  have hw1 : IntKind.i64.wrap ((n : Int) - (at_ : Int)) = (n : Int) - (at_ : Int) := IntWalk.i64_in _ (by omega)
  have hw2 : IntKind.i64.wrap ((at_ : Int) + (m : Int)) = (at_ : Int) + (m : Int) := IntWalk.i64_in _ (by omega)
  by_cases hf : m ≤ n - at_
  · have q1 : (m : Int) ≤ (n : Int) - (at_ : Int) := by omega
    have q2 : decide ((m : Int) ≤ (n : Int) - (at_ : Int)) = true := by simpa using q1
    go_enter Tryz.func38, Tryz.ntmps38
    go_wp2_with fail
    have he : (List.drop at_ (List.take (at_ + m) s) == t) = decide (t <+: s.drop at_) := by
      rw [List.drop_take, show at_ + m - at_ = m by omega, ← HN.out.2]
      have : (t <+: s.drop at_) ↔ (s.drop at_).take t.length = t := by rw [List.prefix_iff_eq_take]; exact eq_comm
      rw [decide_eq_decide.2 this]
      by_cases hx : (s.drop at_).take t.length = t
      · rw [beq_iff_eq.2 hx, decide_eq_true hx]
      · rw [beq_eq_false_iff_ne.2 hx, decide_eq_false hx]
    rw [he]
    go_ret
    exact ⟨rfl, rfl⟩
  · have q1 : ¬ (m : Int) ≤ (n : Int) - (at_ : Int) := by omega
    have q2 : decide ((m : Int) ≤ (n : Int) - (at_ : Int)) = false := by simpa using q1
    have HF := Lib.hid (show decide (t <+: s.drop at_) = false from decide_eq_false (fun h => by have := h.length_le; rw [List.length_drop, HN.out.1, HN.out.2] at this; exact hf this))
    rw [HF.out]
    go_enter Tryz.func38, Tryz.ntmps38
    go_wp2_with fail
    go_ret
    exact ⟨rfl, rfl⟩
end Go.Proofs.YtajkgcmopmpihaaGreatDoor
