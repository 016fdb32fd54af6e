/- Layer 14: Valid's tests over the laid names. -/
import Derived.Test.YtmfefeemkhncfaaDoorPwN
namespace Go.Proofs.YtmfefeemkhncfaaDoor
open Go.ChangeShapes Go.WideShapes Go.ChangeAt Go.RowKit Go.IntWalk
set_option linter.unusedVariables false

theorem lone_fit (nm name : List UInt8) (st : Int) (nb : Nat) (w : World) (hnb : nb < w.heap.size) (hc : w.cell? ⟨nb, 0, none⟩ = some (.string ⟨name.toArray⟩)) {tb : Bool} (h : (nm == name) = tb) :
    Calls Tryd.prog 46 #[.agg #[.string ⟨nm.toArray⟩, .int .i64 st], .pointer (some ⟨nb, 0, none⟩)] w fun e w' => e = .returned (.bool tb) ∧ Below w.heap.size w w' := by
  go_enter Tryd.func46, Tryd.ntmps46
  have hne : ¬ nb = w.heap.size := by omega
  have hc2 : (w.alloc (.cells #[.string ⟨nm.toArray⟩, .int .i64 st] 58)).cell? ⟨nb, 0, none⟩ = some (.string ⟨name.toArray⟩) := (((Below.refl _ _).alloc (Nat.le_refl _) _ : Below w.heap.size w _).cell (p := ⟨nb, 0, none⟩) hnb).trans hc
  go_wp2_with fail
  go_ret
  exact ⟨rfl, (Below.refl _ _).alloc (Nat.le_refl _) _⟩
set_option maxHeartbeats 2000000 in
theorem index_fit (name : List UInt8) (nb b o cp : Nat) (w : World) (hnb : nb < w.heap.size) (hc : w.cell? ⟨nb, 0, none⟩ = some (.string ⟨name.toArray⟩)) (hb : b < w.heap.size)
    (hl : ∀ k (h : k < lonN.length), w.cell? ⟨b, o + k * 2, none⟩ = some (.string ⟨(lonN[k]).1.toArray⟩) ∧ w.cell? ⟨b, o + k * 2 + 1, none⟩ = some (.int .i64 (lonN[k]).2)) :
    Calls Tryd.prog 36 #[.slice (some ⟨b, o, none⟩) 7 cp, .func (Fn.func 46) #[] #[.pointer (some ⟨nb, 0, none⟩)]] w (IdxPost name w) := by
  have HH := Lib.hid (And.intro hc hl)
  have h7 : lonN.length = 7 := rfl
  have H7 := Lib.hid h7
  clear hc hl h7
  go_enter Tryd.func36, Tryd.ntmps36
  go_wp2_with fail
  go_loopw [8] (fun i wr => ∃ k : Nat, k ≤ 7 ∧ i = .int .i64 (k : Int) ∧ Hid (Below w.heap.size w wr) ∧ Hid (∀ j (h : j < lonN.length), j < k → (lonN[j]).1 ≠ name)) (fun i _ => 7 - (intOf i).toNat)
  case atStart => exact ⟨0, by omega, rfl, Lib.hid (Below.refl _ _), Lib.hid (fun j h hj => absurd hj (by omega))⟩
  case round =>
    obtain ⟨k, hk, rfl, hB, hN⟩ := hrel
    by_cases hlt : k < 7
    · have hkl : k < lonN.length := hlt
      have k0 : wr.cell? ⟨b, o + k * 2, none⟩ = some (.string ⟨(lonN[k]).1.toArray⟩) := (hB.out.cell (p := ⟨b, _, none⟩) hb).trans (HH.out.2 k hkl).1
      have k1 : wr.cell? ⟨b, o + k * 2 + 1, none⟩ = some (.int .i64 (lonN[k]).2) := (hB.out.cell (p := ⟨b, _, none⟩) hb).trans (HH.out.2 k hkl).2
      have hbr : b < wr.heap.size := Nat.lt_of_lt_of_le hb hB.out.size
      have hnr : nb < wr.heap.size := Nat.lt_of_lt_of_le hnb hB.out.size
      have hcr : wr.cell? ⟨nb, 0, none⟩ = some (.string ⟨name.toArray⟩) := (hB.out.cell (p := ⟨nb, 0, none⟩) hnb).trans HH.out.1
      obtain ⟨nm, hnm⟩ : ∃ nm, (lonN[k]).1 = nm := ⟨_, rfl⟩
      obtain ⟨st, hst⟩ : ∃ st, (lonN[k]).2 = st := ⟨_, rfl⟩
      rw [hnm] at k0
      rw [hst] at k1
      have HNM := Lib.hid hnm
      have HCR := Lib.hid (And.intro hnr hcr)
      clear hnm hst hcr hnr
      cases ht : (nm == name) with
      | true =>
        have HE := Lib.hid (show nm = name by simpa using ht)
        have HC := lone_fit nm name st nb wr HCR.out.1 HCR.out.2 ht
        clear ht
        go_wp2_with fail
        refine HC.mono ?_
        rintro e w3 ⟨rfl, b3⟩
        have HB3 := Lib.hid (hB.out.then_ b3)
        clear b3 HC k0 k1
        go_wp2_with fail
        go_ret
        exact ⟨.inl ⟨k, hkl, HNM.out.trans HE.out, rfl⟩, HB3.out⟩
      | false =>
        have HE := Lib.hid (show nm ≠ name by simpa using ht)
        have HC := lone_fit nm name st nb wr HCR.out.1 HCR.out.2 ht
        have HN2 := Lib.hid (show ∀ j (h : j < lonN.length), j < k + 1 → (lonN[j]).1 ≠ name by
          intro j h hj
          by_cases e : j = k
          · subst e; rw [HNM.out]; exact HE.out
          · exact hN.out j h (by omega))
        clear ht
        go_wp2_with fail
        refine HC.mono ?_
        rintro e w3 ⟨rfl, b3⟩
        have HB3 := Lib.hid (hB.out.then_ b3)
        clear b3 HC k0 k1
        go_wp2_with fail
        go_roundw
        case rel => exact ⟨k + 1, by omega, by go_num, HB3, HN2⟩
        case measure => simp [intOf]; omega
    · obtain rfl : k = 7 := by omega
      go_wp2_with fail
      go_ret
      exact ⟨.inr ⟨fun j h => hN.out j h (by have := H7.out; omega), rfl⟩, hB.out⟩
def isLone (name : List UInt8) : Bool := lonN.any fun p => p.1 == name
theorem lone_yes {name : List UInt8} {k : Nat} (h : k < lonN.length) (e : (lonN[k]).1 = name) : isLone name = true := by
  unfold isLone
  rw [List.any_eq_true]
  exact ⟨lonN[k], List.getElem_mem h, by simpa using e⟩
theorem lone_no {name : List UInt8} (h : ∀ k (h : k < lonN.length), (lonN[k]).1 ≠ name) : isLone name = false := by
  unfold isLone
  rw [List.any_eq_false]
  intro p hp
  obtain ⟨k, hk, e⟩ := List.getElem_of_mem hp
  have := h k hk
  rw [e] at this
  simpa using this
set_option maxHeartbeats 2000000 in
theorem contains_fit (name : List UInt8) (nb b o cp : Nat) (w : World) (hnb : nb < w.heap.size) (hc : w.cell? ⟨nb, 0, none⟩ = some (.string ⟨name.toArray⟩)) (hb : b < w.heap.size)
    (hl : ∀ k (h : k < lonN.length), w.cell? ⟨b, o + k * 2, none⟩ = some (.string ⟨(lonN[k]).1.toArray⟩) ∧ w.cell? ⟨b, o + k * 2 + 1, none⟩ = some (.int .i64 (lonN[k]).2)) :
    Calls Tryd.prog 45 #[.slice (some ⟨b, o, none⟩) 7 cp, .func (Fn.func 46) #[] #[.pointer (some ⟨nb, 0, none⟩)]] w fun e w' => e = .returned (.bool (isLone name)) ∧ Below w.heap.size w w' := by
  have HI := index_fit name nb b o cp w hnb hc hb hl
  clear hnb hc hb hl
  go_enter Tryd.func45, Tryd.ntmps45
  go_wp2_with fail
  refine HI.mono ?_
  rintro e w1 ⟨⟨k, hk, he, rfl⟩ | ⟨hn, rfl⟩, b1⟩
  · have H := Lib.hid (And.intro (lone_yes hk he) b1)
    clear he b1 HI
    go_wp2_with fail
    go_ret
    rw [H.out.1]
    exact ⟨by simp, H.out.2⟩
  · have H := Lib.hid (And.intro (lone_no hn) b1)
    clear hn b1 HI
    go_wp2_with fail
    go_ret
    rw [H.out.1]
    exact ⟨by simp, H.out.2⟩
def isTab (name : List UInt8) : Bool := tabN.any (· == name)
set_option maxHeartbeats 2000000 in
theorem index_tab (name : List UInt8) (b o cp : Nat) (w : World) (hb : b < w.heap.size) (hl : ∀ k (h : k < tabN.length), w.cell? ⟨b, o + k, none⟩ = some (.string ⟨(tabN[k]).toArray⟩)) :
    Calls Tryd.prog 56 #[.slice (some ⟨b, o, none⟩) 3 cp, .string ⟨name.toArray⟩] w fun e w' => (∃ i : Int, e = .returned (.int .i64 i) ∧ decide (0 ≤ i) = isTab name) ∧ Below w.heap.size w w' := by
  have HH := Lib.hid hl
  have hst := Lib.hid (show isTab name = (tabN.drop 0).any (· == name) from rfl)
  clear hl
  go_enter Tryd.func56, Tryd.ntmps56
  go_wp2_with fail
  go_loopw [8] (fun i wr => ∃ k : Nat, k ≤ 3 ∧ i = .int .i64 (k : Int) ∧ Hid (Below w.heap.size w wr) ∧ Hid (isTab name = (tabN.drop k).any (· == name))) (fun i _ => 3 - (intOf i).toNat)
  case atStart => exact ⟨0, by omega, rfl, Lib.hid (Below.refl _ _), hst⟩
  case round =>
    obtain ⟨k, hk, rfl, hB, hI⟩ := hrel
    by_cases hlt : k < 3
    · have hkl : k < tabN.length := hlt
      have k0 : wr.cell? ⟨b, o + k, none⟩ = some (.string ⟨(tabN[k]).toArray⟩) := (hB.out.cell (p := ⟨b, _, none⟩) hb).trans (HH.out k hkl)
      have hd : (tabN.drop k).any (· == name) = ((tabN[k] == name) || (tabN.drop (k + 1)).any (· == name)) := by rw [List.drop_eq_getElem_cons hkl, List.any_cons]
      obtain ⟨nm, hnm⟩ : ∃ nm, tabN[k] = nm := ⟨_, rfl⟩
      rw [hnm] at k0 hd
      have HI2 := Lib.hid (hI.out.trans hd)
      clear hI hd hnm
      cases ht : (nm == name) with
      | true =>
        have ht2 : (name == nm) = true := by rw [beq_iff_eq] at ht ⊢; exact ht.symm
        have HE := Lib.hid (show isTab name = true by rw [HI2.out, ht]; rfl)
        clear ht
        go_wp2_with fail
        go_ret
        exact ⟨⟨_, rfl, by rw [HE.out]; simp⟩, hB.out⟩
      | false =>
        have ht2 : (name == nm) = false := by rw [beq_eq_false_iff_ne] at ht ⊢; exact fun e => ht e.symm
        have HE := Lib.hid (show isTab name = (tabN.drop (k + 1)).any (· == name) by rw [HI2.out, ht]; rfl)
        clear ht
        go_wp2_with fail
        go_roundw
        case rel => exact ⟨k + 1, by omega, by go_num, hB, HE⟩
        case measure => simp [intOf]; omega
    · obtain rfl : k = 3 := by omega
      have HE := Lib.hid (show isTab name = false by rw [hI.out]; rfl)
      go_wp2_with fail
      go_ret
      exact ⟨⟨_, rfl, by rw [HE.out]; simp⟩, hB.out⟩
set_option maxHeartbeats 2000000 in
theorem contains_tab (name : List UInt8) (b o cp : Nat) (w : World) (hb : b < w.heap.size) (hl : ∀ k (h : k < tabN.length), w.cell? ⟨b, o + k, none⟩ = some (.string ⟨(tabN[k]).toArray⟩)) :
    Calls Tryd.prog 47 #[.slice (some ⟨b, o, none⟩) 3 cp, .string ⟨name.toArray⟩] w fun e w' => e = .returned (.bool (isTab name)) ∧ Below w.heap.size w w' := by
  have HI := index_tab name b o cp w hb hl
  clear hb hl
  go_enter Tryd.func47, Tryd.ntmps47
  go_wp2_with fail
  refine HI.mono ?_
  rintro e w1 ⟨⟨i, rfl, hi⟩, b1⟩
  have H1 := Lib.hid (And.intro hi b1)
  clear hi b1 HI
  go_wp2_with fail
  go_ret
  rw [H1.out.1]
  exact ⟨rfl, H1.out.2⟩
end Go.Proofs.YtmfefeemkhncfaaDoor
