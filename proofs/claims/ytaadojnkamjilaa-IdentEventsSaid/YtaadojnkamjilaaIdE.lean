/- The walk of the law IdentEvents. -/
import Derived.Test.YtaadojnkamjilaaShelf
import Derived.Test.YtaadojnkamjilaaStr
import Derived.Test.YtaadojnkamjilaaLetLen
import Derived.Test.YtaadojnkamjilaaLetC
import Derived.Test.YtaadojnkamjilaaLetF
import Derived.Test.YtaadojnkamjilaaLetR
namespace Go.Proofs.Ytaadojnkamjilaa
open Go.ChangeShapes Go.WideShapes Go.ChangeAt Go.RowKit Go.IntWalk
set_option linter.unusedVariables false

/-- Is a text an event's name? -/
def evF (l : List UInt8) : Bool := Lib.hasPrefix l [36] && decide (l.length = 44) && (decF true (l.drop 1)).isSome

theorem trim_dollar (l : List UInt8) (h : Lib.hasPrefix l [36] = true) : ∃ t, l = 36 :: t ∧ Lib.trimPrefix l [36] = t := by
  cases l with
  | nil => simp [Lib.hasPrefix] at h
  | cons c t =>
    have hc : 36 = c := by simpa [Lib.hasPrefix] using h
    subst hc
    exact ⟨t, rfl, by simp [Lib.trimPrefix, Lib.hasPrefix]⟩

set_option maxHeartbeats 1000000 in
theorem event_calls (s : ByteArray) (w : World) (hs : s.size ≤ 68719476736) :
    Calls Try.prog 17 #[.string s] w fun e w' => e = .returned (.bool (evF s.data.toList)) ∧ Below w.heap.size w w' := by
  have hlen : lenF 32 = 43 := by decide
  by_cases hp : Lib.hasPrefix s.data.toList [36] = true
  · obtain ⟨t, ht, htr⟩ := trim_dollar _ hp
    have hsz : s.size = t.length + 1 := by
      have : s.size = s.data.toList.length := rfl
      rw [this, ht]; rfl
    have htl : t.length ≤ 68719476736 := by omega
    have HE : Hid (evF s.data.toList = (decide (t.length = 43) && (decF true t).isSome)) := by
      show _ = _; unfold evF; rw [hp, ht]; simp
    clear hsz
    go_enter Try.func17, Try.ntmps17
    go_wp2_with fail
    refine (Try.strings_CutPrefix s ⟨#[36]⟩ _).mono ?_
    rintro e w' ⟨rfl, rfl⟩
    rw [show (⟨#[36]⟩ : ByteArray).data.toList = [36] from rfl, htr, hp]
    clear ht htr hp
    go_wp2_with fail
    refine (len_calls 32 _ (by omega) (by omega)).mono ?_
    rintro e w' ⟨rfl, rfl⟩
    by_cases h43 : t.length = 43
    · go_wp2_with fail
      refine (decode_list t _ _ htl).mono ?_
      intro e w1 h
      obtain ⟨A, n, c, rfl, hrb, hn, b1, _⟩ := h.open_
      clear h
      go_wp2
      go_ret
      exact ⟨ret_bool (by rw [HE.out]; simp [h43]), b1⟩
    · have h43' : ((t.length : Int) != 43) = true := by simp; omega
      go_wp2
      go_ret
      exact ⟨ret_bool (by rw [HE.out]; simp [h43]), Below.refl _ _⟩
  · have hp' : Lib.hasPrefix s.data.toList [36] = false := by simpa using hp
    have HE : Hid (evF s.data.toList = false) := by show _ = _; unfold evF; rw [hp']; rfl
    go_enter Try.func17, Try.ntmps17
    go_wp2_with fail
    refine (Try.strings_CutPrefix s ⟨#[36]⟩ _).mono ?_
    rintro e w' ⟨rfl, rfl⟩
    rw [show (⟨#[36]⟩ : ByteArray).data.toList = [36] from rfl, hp']
    go_wp2
    go_ret
    exact ⟨ret_bool HE.out.symm, Below.refl _ _⟩

theorem decF_len {u : Bool} {l o : List UInt8} (h : decF u l = some o) : o.length = 6 * l.length / 8 ∧ 6 * l.length % 8 ≠ 6 := by
  unfold decF at h
  split at h
  · rename_i hc
    cases h
    rw [outs_length]; exact ⟨rfl, hc.2.1⟩
  · cases h

theorem evF_nil : evF [] = false := by decide
theorem evF_cons (c : UInt8) (t : List UInt8) : evF (c :: t) = (c == 36 && decide (t.length = 43) && (decF true t).isSome) := by
  unfold evF
  have : Lib.hasPrefix (c :: t) [36] = (c == 36) := by
    unfold Lib.hasPrefix
    by_cases h : c = 36
    · subst h; rfl
    · have h' : (36 == c) = false := by rw [beq_eq_false_iff_ne]; exact fun e => h e.symm
      have h2 : (c == 36) = false := by rw [beq_eq_false_iff_ne]; exact h
      simp only [List.isPrefixOf, h', h2, Bool.false_and]
  rw [this]
  simp

set_option maxHeartbeats 1000000 in
theorem refevent_calls (s : ByteArray) (w : World) (hs : s.size ≤ 68719476736) :
    Calls Try.prog 19 #[.string s] w fun e w' => e = .returned (.bool (evF s.data.toList)) ∧ Below w.heap.size w w' := by
  obtain ⟨l, rfl⟩ : ∃ l : List UInt8, s = ⟨l.toArray⟩ := ⟨s.data.toList, by simp⟩
  rw [show (⟨l.toArray⟩ : ByteArray).data.toList = l from rfl]
  have hl : l.length ≤ 68719476736 := hs
  clear hs
  cases l with
  | nil =>
    go_enter Try.func19, Try.ntmps19
    go_wp2
    go_ret
    exact ⟨ret_bool evF_nil.symm, Below.refl _ _⟩
  | cons c t =>
    have htl : t.length ≤ 68719476735 := by simp at hl; omega
    have HE : Hid (evF (c :: t) = (c == 36 && decide (t.length = 43) && (decF true t).isSome)) := evF_cons c t
    by_cases hc : c = 36
    · subst hc
      have hc0 : (((36 : UInt8).toNat : Int) != 36) = false := rfl
      go_enter Try.func19, Try.ntmps19
      go_wp2_with fail
      refine (refdec_list t _ _ (by omega)).mono ?_
      intro e w1 h
      obtain ⟨A, n, c, rfl, hrb, hn, b1, hd⟩ := h.open_
      clear h hd
      cases hdf : decF true t with
      | none =>
        rw [hdf] at hrb hn
        go_wp2
        go_ret
        exact ⟨ret_bool (by rw [HE.out, hdf]; simp), b1⟩
      | some o =>
        rw [hdf] at hrb hn
        have hol := decF_len hdf
        have HO := Lib.hid hol; clear hol
        by_cases h43 : t.length = 43
        · have hn32 : n = 32 := by
            have h1 := hn.out
            have h2 := HO.out.1
            simp only [Option.getD_some] at h1
            omega
          subst hn32
          go_wp2
          go_ret
          exact ⟨ret_bool (by rw [HE.out, hdf]; simp [h43]), b1⟩
        · have hn32 : ((n : Int) == 32) = false := by
            have h1 := hn.out
            have h2 := HO.out
            simp only [Option.getD_some] at h1
            simp
            omega
          go_wp2
          go_ret
          exact ⟨ret_bool (by rw [HE.out, hdf]; simp [h43]), b1⟩
    · have hc1 : ((c.toNat : Int) != 36) = true := by
        simp only [bne_iff_ne]; intro h; apply hc; exact UInt8.toNat_inj.1 (by show c.toNat = 36; omega)
      go_enter Try.func19, Try.ntmps19
      go_wp2
      go_ret
      exact ⟨ret_bool (by rw [HE.out]; simp [hc]), Below.refl _ _⟩

theorem evF_enc (b : List UInt8) : evF (36 :: encF true b) = decide (b.length = 32) := by
  rw [evF_cons, decF_encF, encF_length]
  by_cases h : b.length = 32
  · rw [h]; rfl
  · have : ¬ (8 * b.length + 5) / 6 = 43 := by omega
    simp [h, this]

set_option maxHeartbeats 1000000 in
theorem identEvents_walk (s : ByteArray) (hs : s.size ≤ maxLen) (A : Option Addr) (n c : Nat) (bs : List UInt8) {w : World} (hA : RB w A bs) (hn : Hid (n = bs.length)) (hnc : n ≤ c) :
    Calls Try.prog 7 #[.string s, .slice A n c] w fun e w' => e = .returned (.bool true) ∧ Below w.heap.size w w' := by
  have h1 : evF [36, 97] = false := by decide
  go_enter Try.func7, Try.ntmps7
  go_wp2_with fail
  refine (event_calls ⟨#[36, 97]⟩ _ (by decide)).mono ?_
  rintro e w1 ⟨rfl, b1⟩
  by_cases hl : s.size ≤ 1024 ∧ n ≤ 1024
  · obtain ⟨hl1, hl2⟩ := hl
    have HB := Lib.hid (evF_enc bs)
    have hlen := encF_length true bs
    have hl3 : (encF true bs).length ≤ 100000 := by rw [hlen, ← hn.out]; omega
    have hadd : ∀ W, (Op.stringOp .add ⟨#[36]⟩ ⟨(encF true bs).toArray⟩).run Try.prog W = .ok (.string ⟨(36 :: encF true bs).toArray⟩) W := by
      intro W
      exact (run_string_add_lists W [36] (encF true bs) (by decide) (by omega))
    clear hlen
    go_wp2_with fail
    refine (refenc_calls _ _ _ bs _ _ (hA.below b1) hn (by omega)).mono ?_
    rintro e w2 ⟨rfl, hb2⟩
    have b2 := b1.then_ hb2
    clear hb2
    go_wp2_with fail
    refine (event_calls s _ (by omega)).mono ?_
    rintro e w3 ⟨rfl, hb3⟩
    have b3 := b2.then_ hb3
    clear hb3
    go_wp2_with fail
    refine (refevent_calls s _ (by omega)).mono ?_
    rintro e w4 ⟨rfl, hb4⟩
    have b4 := b3.then_ hb4
    clear hb4
    go_wp2_with fail
    refine (event_calls ⟨(36 :: encF true bs).toArray⟩ _ (by show (36 :: encF true bs).length ≤ _; simp; omega)).mono ?_
    rintro e w5 ⟨rfl, hb5⟩
    have b5 := b4.then_ hb5
    clear hb5
    rw [show (⟨(36 :: encF true bs).toArray⟩ : ByteArray).data.toList = 36 :: encF true bs from rfl, HB.out, ← hn.out]
    by_cases h32 : n = 32
    · subst h32
      go_wp2
      go_ret
      exact ⟨by simp, b5⟩
    · have h32' : ((n : Int) == 32) = false := by simp; omega
      have h32'' : decide (n = 32) = false := by simpa using h32
      rw [h32'']
      go_wp2
      go_ret
      exact ⟨by simp, b5⟩
  · by_cases hl1 : s.size ≤ 1024
    · have hl2 : ¬ n ≤ 1024 := fun h => hl ⟨hl1, h⟩
      go_wp2
      go_ret
      exact ⟨rfl, b1⟩
    · go_wp2
      all_goals go_ret
      all_goals exact ⟨rfl, b1⟩
end Go.Proofs.Ytaadojnkamjilaa
