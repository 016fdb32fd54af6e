/- Layer 16: the order of texts and pairs; states, pure. -/
import Derived.WalkKit
import Derived.Lib.Bytealg
namespace Go.Proofs.Ytpleminoiodmgaa
open Go.Lib
set_option linter.unusedVariables false

theorem cb_self : ∀ a : List UInt8, compareBytes a a = 0
  | [] => rfl
  | x :: a => by
    unfold compareBytes
    rw [if_neg (UInt8.lt_irrefl x), if_neg (UInt8.lt_irrefl x)]
    exact cb_self a
theorem cb_eq : ∀ {a b : List UInt8}, compareBytes a b = 0 → a = b
  | [], [], _ => rfl
  | [], _ :: _, h => by simp [compareBytes] at h
  | _ :: _, [], h => by simp [compareBytes] at h
  | x :: a, y :: b, h => by
    unfold compareBytes at h
    split at h
    · simp at h
    · rename_i h1
      split at h
      · simp at h
      · rename_i h2
        have hxy : x = y := UInt8.toNat_inj.1 (by
          have h3 := UInt8.not_lt.1 h1
          have h4 := UInt8.not_lt.1 h2
          rw [UInt8.le_iff_toNat_le] at h3 h4
          omega)
        rw [hxy, cb_eq h]
theorem cb_three : ∀ a b : List UInt8, compareBytes a b = -1 ∨ compareBytes a b = 0 ∨ compareBytes a b = 1
  | [], [] => .inr (.inl rfl)
  | [], _ :: _ => .inl rfl
  | _ :: _, [] => .inr (.inr rfl)
  | x :: a, y :: b => by
    unfold compareBytes
    split
    · exact .inl rfl
    · split
      · exact .inr (.inr rfl)
      · exact cb_three a b
theorem cb_anti : ∀ a b : List UInt8, compareBytes b a = - compareBytes a b
  | [], [] => rfl
  | [], _ :: _ => rfl
  | _ :: _, [] => rfl
  | x :: a, y :: b => by
    unfold compareBytes
    by_cases h1 : x < y
    · have h2 : ¬ y < x := by rw [UInt8.lt_iff_toNat_lt] at *; omega
      rw [if_pos h1, if_neg h2, if_pos h1]; rfl
    · by_cases h2 : y < x
      · rw [if_pos h2, if_neg h1, if_pos h2]
      · rw [if_neg h1, if_neg h2, if_neg h2, if_neg h1]
        exact cb_anti a b
theorem cb_trans : ∀ {a b c : List UInt8}, compareBytes a b = -1 → compareBytes b c = -1 → compareBytes a c = -1
  | [], [], _, h, _ => by simp [compareBytes] at h
  | _, _ :: _, [], _, h => by simp [compareBytes] at h
  | [], _ :: _, _ :: _, _, _ => rfl
  | _ :: _, [], _, h, _ => by simp [compareBytes] at h
  | x :: a, y :: b, z :: c, h1, h2 => by
    unfold compareBytes at h1 h2 ⊢
    have L : ∀ p q : UInt8, p < q ↔ p.toNat < q.toNat := fun p q => UInt8.lt_iff_toNat_lt
    by_cases hxz : x < z
    · rw [if_pos hxz]
    · rw [if_neg hxz]
      split at h1
      · rename_i hxy
        split at h2
        · rename_i hyz; rw [L] at *; omega
        · rename_i hyz
          split at h2
          · simp at h2
          · rename_i hzy; rw [L] at *; omega
      · rename_i hxy
        split at h1
        · simp at h1
        · rename_i hyx
          split at h2
          · rename_i hyz; rw [L] at *; omega
          · rename_i hyz
            split at h2
            · simp at h2
            · rename_i hzy
              rw [if_neg (by rw [L] at *; omega)]
              exact cb_trans h1 h2
/-- '<' of texts. -/
theorem bl_cb : ∀ a b : List UInt8, Op.bytesLess a b = decide (compareBytes a b = -1)
  | [], [] => rfl
  | [], _ :: _ => rfl
  | _ :: _, [] => rfl
  | x :: a, y :: b => by
    have ih := bl_cb a b
    unfold Op.bytesLess compareBytes
    by_cases h1 : x < y
    · rw [if_pos h1]; simp [h1]
    · rw [if_neg h1]
      by_cases h2 : y < x
      · rw [if_pos h2]
        have h3 : x ≠ y := by intro e; subst e; exact UInt8.lt_irrefl _ h2
        simp [h1, h3]
      · rw [if_neg h2, ← ih]
        have hxy : x = y := UInt8.toNat_inj.1 (by
          have h3 := UInt8.not_lt.1 h1
          have h4 := UInt8.not_lt.1 h2
          rw [UInt8.le_iff_toNat_le] at h3 h4
          omega)
        simp [hxy]
/-- A pair. -/
abbrev Pr := List UInt8 × List UInt8
/-- How two pairs stand. -/
def cmpP (p q : Pr) : Int := if compareBytes p.1 q.1 = 0 then compareBytes p.2 q.2 else compareBytes p.1 q.1
theorem cmpP_three (p q : Pr) : cmpP p q = -1 ∨ cmpP p q = 0 ∨ cmpP p q = 1 := by
  unfold cmpP; split
  · exact cb_three _ _
  · exact cb_three _ _
theorem cmpP_self (p : Pr) : cmpP p p = 0 := by unfold cmpP; rw [if_pos (cb_self _)]; exact cb_self _
theorem cmpP_eq {p q : Pr} (h : cmpP p q = 0) : p = q := by
  unfold cmpP at h
  split at h
  · rename_i h1; exact Prod.ext (cb_eq h1) (cb_eq h)
  · rename_i h1; exact absurd h h1
theorem cmpP_anti (p q : Pr) : cmpP q p = - cmpP p q := by
  unfold cmpP
  rw [cb_anti p.1 q.1, cb_anti p.2 q.2]
  by_cases h : compareBytes p.1 q.1 = 0
  · rw [if_pos h, if_pos (by omega)]
  · rw [if_neg h, if_neg (by omega)]
theorem cmpP_trans {p q r : Pr} (h1 : cmpP p q = -1) (h2 : cmpP q r = -1) : cmpP p r = -1 := by
  unfold cmpP at *
  split at h1
  · rename_i e1
    have := cb_eq e1
    rw [this]
    split at h2
    · rename_i e2; rw [if_pos e2]; exact cb_trans h1 h2
    · rename_i e2; rw [if_neg e2]; exact h2
  · rename_i e1
    split at h2
    · rename_i e2
      have := cb_eq e2
      rw [← this, if_neg e1]; exact h1
    · rename_i e2
      have := cb_trans h1 h2
      rw [if_neg (by omega)]; exact this
/-- A slot of a state. -/
structure Slt where
  t : List UInt8
  k : List UInt8
  i : List UInt8
def Slt.pr (s : Slt) : Pr := (s.t, s.k)
/-- By rising pairs, each once. -/
def Rise (l : List Slt) : Prop := l.Pairwise fun a b => cmpP a.pr b.pr = -1
/-- How many stand below a pair. -/
def posF (l : List Slt) (p : Pr) : Nat := (l.takeWhile fun s => decide (cmpP s.pr p = -1)).length
theorem posF_le (l : List Slt) (p : Pr) : posF l p ≤ l.length := (List.takeWhile_sublist _).length_le
theorem rise_at {l : List Slt} (h : Rise l) {i j : Nat} (hi : i < j) (hj : j < l.length) : cmpP (l[i]).pr (l[j]).pr = -1 := List.pairwise_iff_getElem.1 h i j (by omega) hj hi
theorem posF_low : ∀ (l : List Slt) (p : Pr) (i : Nat) (h : i < l.length), i < posF l p → cmpP (l[i]).pr p = -1
  | [], _, _, h, _ => absurd h (by simp)
  | s :: l, p, i, h, hi => by
    unfold posF at hi
    by_cases hs : cmpP s.pr p = -1
    · rw [List.takeWhile_cons_of_pos (by simp [hs])] at hi
      cases i with
      | zero => exact hs
      | succ i => exact posF_low l p i (by simpa using h) (by unfold posF; simpa using hi)
    · rw [List.takeWhile_cons_of_neg (by simp [hs])] at hi
      simp at hi
theorem posF_high : ∀ {l : List Slt} (_ : Rise l) (p : Pr) (i : Nat) (h : i < l.length), posF l p ≤ i → cmpP (l[i]).pr p ≠ -1
  | [], _, _, _, h, _ => absurd h (by simp)
  | s :: l, hr, p, i, h, hi => by
    unfold posF at hi
    by_cases hs : cmpP s.pr p = -1
    · rw [List.takeWhile_cons_of_pos (by simp [hs])] at hi
      cases i with
      | zero => simp at hi
      | succ i =>
        have := posF_high (List.Pairwise.of_cons hr) p i (by simpa using h) (by unfold posF; simpa using hi)
        simpa using this
    · cases i with
      | zero => exact hs
      | succ i =>
        intro e
        have h1 := (List.pairwise_cons.1 hr).1 (l[i]'(by simpa using h)) (List.getElem_mem _)
        exact hs (cmpP_trans h1 (by simpa using e))
/-- The least place from which on nothing stands below p is where p is, or belongs. -/
theorem posF_uniq {l : List Slt} (hr : Rise l) (p : Pr) (i : Nat) (hi : i ≤ l.length) (h1 : ∀ j, ∀ h : j < l.length, j < i → cmpP (l[j]).pr p = -1) (h2 : ∀ j, ∀ h : j < l.length, i ≤ j → cmpP (l[j]).pr p ≠ -1) : i = posF l p := by
  rcases Nat.lt_trichotomy i (posF l p) with h | h | h
  · have := posF_le l p
    exact absurd (posF_low l p i (by omega) h) (h2 i (by omega) (Nat.le_refl _))
  · exact h
  · exact absurd (h1 (posF l p) (by omega) h) (posF_high hr p _ (by omega) (Nat.le_refl _))
def foundF (l : List Slt) (p : Pr) : Bool := match l[posF l p]? with
  | some s => decide (cmpP s.pr p = 0)
  | none => false
/-- A pair's name. -/
def getF (l : List Slt) (p : Pr) : List UInt8 × Bool := match l.find? fun s => decide (s.pr = p) with
  | some s => (s.i, true)
  | none => ([], false)
/-- With a slot. -/
def putF (l : List Slt) (s : Slt) : List Slt := (l.filter fun x => decide (cmpP x.pr s.pr = -1)) ++ s :: l.filter fun x => decide (cmpP s.pr x.pr = -1)
theorem split_pos {l : List Slt} (hr : Rise l) (p : Pr) : (l.filter fun x => decide (cmpP x.pr p = -1)) = l.take (posF l p) ∧
    (l.filter fun x => decide (cmpP p x.pr = -1)) = l.drop (posF l p + (if foundF l p then 1 else 0)) := by
  induction l with
  | nil => simp [posF, foundF]
  | cons s l ih =>
    obtain ⟨h1, h2⟩ := ih (List.Pairwise.of_cons hr)
    have hall := (List.pairwise_cons.1 hr).1
    by_cases hs : cmpP s.pr p = -1
    · have hps : cmpP p s.pr ≠ -1 := by rw [cmpP_anti s.pr p, hs]; decide
      have e : posF (s :: l) p = posF l p + 1 := by unfold posF; rw [List.takeWhile_cons_of_pos (by simp [hs])]; simp
      have f : foundF (s :: l) p = foundF l p := by unfold foundF; rw [e]; simp
      rw [List.filter_cons_of_pos (by simp [hs]), List.filter_cons_of_neg (by simp [hps]), h1, h2, e, f]
      refine ⟨by simp, ?_⟩
      rw [show posF l p + 1 + (if foundF l p = true then 1 else 0) = (posF l p + (if foundF l p = true then 1 else 0)) + 1 by omega]
      simp
    · have e : posF (s :: l) p = 0 := by unfold posF; rw [List.takeWhile_cons_of_neg (by simp [hs])]; rfl
      have hlow : ∀ x ∈ l, cmpP x.pr p ≠ -1 := fun x hx h => hs (cmpP_trans (hall x hx) h)
      have hhigh : ∀ x ∈ l, cmpP p x.pr = -1 := fun x hx => by
        have h3 := hall x hx
        rcases cmpP_three s.pr p with h | h | h
        · exact absurd h hs
        · rw [← cmpP_eq h]; exact h3
        · exact cmpP_trans (by rw [cmpP_anti s.pr p, h]) h3
      have hfl : (l.filter fun x => decide (cmpP p x.pr = -1)) = l := List.filter_eq_self.2 (fun x hx => by simp [hhigh x hx])
      rw [e]
      refine ⟨?_, ?_⟩
      · rw [List.take_zero, List.filter_eq_nil_iff]
        intro x hx
        rcases List.mem_cons.1 hx with rfl | hx
        · simp [hs]
        · simp [hlow x hx]
      · rcases cmpP_three s.pr p with h | h | h
        · exact absurd h hs
        · have hf : foundF (s :: l) p = true := by unfold foundF; rw [e]; simp [h]
          rw [List.filter_cons_of_neg (by rw [cmpP_anti s.pr p, h]; decide), hfl, hf]; simp
        · have hf : foundF (s :: l) p = false := by unfold foundF; rw [e]; simp [h]
          rw [List.filter_cons_of_pos (by rw [cmpP_anti s.pr p, h]; decide), hfl, hf]; simp
theorem putF_split {l : List Slt} (hr : Rise l) (s : Slt) : putF l s = l.take (posF l s.pr) ++ s :: l.drop (posF l s.pr + (if foundF l s.pr then 1 else 0)) := by
  unfold putF
  rw [(split_pos hr s.pr).1, (split_pos hr s.pr).2]
theorem putF_rise {l : List Slt} (hr : Rise l) (s : Slt) : Rise (putF l s) := by
  unfold Rise putF
  rw [List.pairwise_append]
  refine ⟨List.Pairwise.filter _ hr, ?_, ?_⟩
  · rw [List.pairwise_cons]
    refine ⟨fun x hx => ?_, List.Pairwise.filter _ hr⟩
    have := (List.mem_filter.1 hx).2
    simpa using this
  · intro a ha b hb
    have h1 : cmpP a.pr s.pr = -1 := by simpa using (List.mem_filter.1 ha).2
    rcases List.mem_cons.1 hb with rfl | hb
    · exact h1
    · have h2 : cmpP s.pr b.pr = -1 := by simpa using (List.mem_filter.1 hb).2
      exact cmpP_trans h1 h2
theorem getF_pos {l : List Slt} (hr : Rise l) (p : Pr) : getF l p = if foundF l p then (((l[posF l p]?).map (·.i)).getD [], true) else ([], false) := by
  induction l with
  | nil => rfl
  | cons s l ih =>
    have ih := ih (List.Pairwise.of_cons hr)
    have hall := (List.pairwise_cons.1 hr).1
    by_cases hs : cmpP s.pr p = -1
    · have e : posF (s :: l) p = posF l p + 1 := by unfold posF; rw [List.takeWhile_cons_of_pos (by simp [hs])]; simp
      have f : foundF (s :: l) p = foundF l p := by unfold foundF; rw [e]; simp
      have hne : ¬ s.pr = p := by intro h; rw [h, cmpP_self] at hs; exact absurd hs (by decide)
      have g : getF (s :: l) p = getF l p := by unfold getF; rw [List.find?_cons_of_neg (by simp [hne])]
      rw [g, ih, f, e]
      simp
    · have e : posF (s :: l) p = 0 := by unfold posF; rw [List.takeWhile_cons_of_neg (by simp [hs])]; rfl
      rcases cmpP_three s.pr p with h | h | h
      · exact absurd h hs
      · have hf : foundF (s :: l) p = true := by unfold foundF; rw [e]; simp [h]
        have heq := cmpP_eq h
        rw [hf, e]
        unfold getF
        rw [List.find?_cons_of_pos (by simp [heq])]
        simp
      · have hf : foundF (s :: l) p = false := by unfold foundF; rw [e]; simp [h]
        rw [hf]
        unfold getF
        have hno : (s :: l).find? (fun x => decide (x.pr = p)) = none := by
          rw [List.find?_eq_none]
          intro x hx
          have hps : cmpP p s.pr = -1 := by rw [cmpP_anti s.pr p, h]
          rcases List.mem_cons.1 hx with rfl | hx
          · simp; intro e2; rw [e2, cmpP_self] at h; exact absurd h (by decide)
          · simp; intro e2
            have h5 := cmpP_trans hps (hall x hx)
            rw [e2, cmpP_self] at h5
            exact absurd h5 (by decide)
        rw [hno]; rfl
end Go.Proofs.Ytpleminoiodmgaa
