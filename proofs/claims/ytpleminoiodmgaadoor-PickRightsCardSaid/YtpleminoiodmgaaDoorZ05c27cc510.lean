/- Texts put together: Cb PwA. -/
import Derived.WalkKit
import Derived.Lib.Bytealg
import Derived.Test.YtpleminoiodmgaaDoorZ6fac9017d4
namespace Go.Proofs.YtpleminoiodmgaaDoor
open Go.Lib
set_option linter.unusedVariables false

theorem cb_self : ∀ a : List UInt8, compareBytes a a = 0
  | [] => rfl
  | x :: a => by
    unfold compareBytes
    rw [if_neg (UInt8.lt_irrefl x), if_neg (UInt8.lt_irrefl x)]
    exact cb_self a
theorem cb_eq : ∀ {a b : List UInt8}, compareBytes a b = 0 → a = b
  | [], [], _ => rfl
  | [], _ :: _, h => by simp [compareBytes] at h
  | _ :: _, [], h => by simp [compareBytes] at h
  | x :: a, y :: b, h => by
    unfold compareBytes at h
    split at h
    · simp at h
    · rename_i h1
      split at h
      · simp at h
      · rename_i h2
        have hxy : x = y := UInt8.toNat_inj.1 (by
          have h3 := UInt8.not_lt.1 h1
          have h4 := UInt8.not_lt.1 h2
          rw [UInt8.le_iff_toNat_le] at h3 h4
          omega)
        rw [hxy, cb_eq h]
theorem cb_three : ∀ a b : List UInt8, compareBytes a b = -1 ∨ compareBytes a b = 0 ∨ compareBytes a b = 1
  | [], [] => .inr (.inl rfl)
  | [], _ :: _ => .inl rfl
  | _ :: _, [] => .inr (.inr rfl)
  | x :: a, y :: b => by
    unfold compareBytes
    split
    · exact .inl rfl
    · split
      · exact .inr (.inr rfl)
      · exact cb_three a b
theorem cb_anti : ∀ a b : List UInt8, compareBytes b a = - compareBytes a b
  | [], [] => rfl
  | [], _ :: _ => rfl
  | _ :: _, [] => rfl
  | x :: a, y :: b => by
    unfold compareBytes
    by_cases h1 : x < y
    · have h2 : ¬ y < x := by rw [UInt8.lt_iff_toNat_lt] at *; omega
      rw [if_pos h1, if_neg h2, if_pos h1]; rfl
    · by_cases h2 : y < x
      · rw [if_pos h2, if_neg h1, if_pos h2]
      · rw [if_neg h1, if_neg h2, if_neg h2, if_neg h1]
        exact cb_anti a b
theorem cb_trans : ∀ {a b c : List UInt8}, compareBytes a b = -1 → compareBytes b c = -1 → compareBytes a c = -1
  | [], [], _, h, _ => by simp [compareBytes] at h
  | _, _ :: _, [], _, h => by simp [compareBytes] at h
  | [], _ :: _, _ :: _, _, _ => rfl
  | _ :: _, [], _, h, _ => by simp [compareBytes] at h
  | x :: a, y :: b, z :: c, h1, h2 => by
    unfold compareBytes at h1 h2 ⊢
    have L : ∀ p q : UInt8, p < q ↔ p.toNat < q.toNat := fun p q => UInt8.lt_iff_toNat_lt
    by_cases hxz : x < z
    · rw [if_pos hxz]
    · rw [if_neg hxz]
      split at h1
      · rename_i hxy
        split at h2
        · rename_i hyz; rw [L] at *; omega
        · rename_i hyz
          split at h2
          · simp at h2
          · rename_i hzy; rw [L] at *; omega
      · rename_i hxy
        split at h1
        · simp at h1
        · rename_i hyx
          split at h2
          · rename_i hyz; rw [L] at *; omega
          · rename_i hyz
            split at h2
            · simp at h2
            · rename_i hzy
              rw [if_neg (by rw [L] at *; omega)]
              exact cb_trans h1 h2
/-- '<' of texts. -/
theorem bl_cb : ∀ a b : List UInt8, Op.bytesLess a b = decide (compareBytes a b = -1)
  | [], [] => rfl
  | [], _ :: _ => rfl
  | _ :: _, [] => rfl
  | x :: a, y :: b => by
    have ih := bl_cb a b
    unfold Op.bytesLess compareBytes
    by_cases h1 : x < y
    · rw [if_pos h1]; simp [h1]
    · rw [if_neg h1]
      by_cases h2 : y < x
      · rw [if_pos h2]
        have h3 : x ≠ y := by intro e; subst e; exact UInt8.lt_irrefl _ h2
        simp [h1, h3]
      · rw [if_neg h2, ← ih]
        have hxy : x = y := UInt8.toNat_inj.1 (by
          have h3 := UInt8.not_lt.1 h1
          have h4 := UInt8.not_lt.1 h2
          rw [UInt8.le_iff_toNat_le] at h3 h4
          omega)
        simp [hxy]
/-- A pair. -/
abbrev Pr := List UInt8 × List UInt8
/-- How two pairs stand. -/
def cmpP (p q : Pr) : Int := if compareBytes p.1 q.1 = 0 then compareBytes p.2 q.2 else compareBytes p.1 q.1
theorem cmpP_three (p q : Pr) : cmpP p q = -1 ∨ cmpP p q = 0 ∨ cmpP p q = 1 := by
  unfold cmpP; split
  · exact cb_three _ _
  · exact cb_three _ _
theorem cmpP_self (p : Pr) : cmpP p p = 0 := by unfold cmpP; rw [if_pos (cb_self _)]; exact cb_self _
theorem cmpP_eq {p q : Pr} (h : cmpP p q = 0) : p = q := by
  unfold cmpP at h
  split at h
  · rename_i h1; exact Prod.ext (cb_eq h1) (cb_eq h)
  · rename_i h1; exact absurd h h1
theorem cmpP_anti (p q : Pr) : cmpP q p = - cmpP p q := by
  unfold cmpP
  rw [cb_anti p.1 q.1, cb_anti p.2 q.2]
  by_cases h : compareBytes p.1 q.1 = 0
  · rw [if_pos h, if_pos (by omega)]
  · rw [if_neg h, if_neg (by omega)]
theorem cmpP_trans {p q r : Pr} (h1 : cmpP p q = -1) (h2 : cmpP q r = -1) : cmpP p r = -1 := by
  unfold cmpP at *
  split at h1
  · rename_i e1
    have := cb_eq e1
    rw [this]
    split at h2
    · rename_i e2; rw [if_pos e2]; exact cb_trans h1 h2
    · rename_i e2; rw [if_neg e2]; exact h2
  · rename_i e1
    split at h2
    · rename_i e2
      have := cb_eq e2
      rw [← this, if_neg e1]; exact h1
    · rename_i e2
      have := cb_trans h1 h2
      rw [if_neg (by omega)]; exact this
/-- A slot of a state. -/
structure Slt where
  t : List UInt8
  k : List UInt8
  i : List UInt8
def Slt.pr (s : Slt) : Pr := (s.t, s.k)
/-- By rising pairs, each once. -/
def Rise (l : List Slt) : Prop := l.Pairwise fun a b => cmpP a.pr b.pr = -1
/-- How many stand below a pair. -/
def posF (l : List Slt) (p : Pr) : Nat := (l.takeWhile fun s => decide (cmpP s.pr p = -1)).length
theorem posF_le (l : List Slt) (p : Pr) : posF l p ≤ l.length := (List.takeWhile_sublist _).length_le
theorem rise_at {l : List Slt} (h : Rise l) {i j : Nat} (hi : i < j) (hj : j < l.length) : cmpP (l[i]).pr (l[j]).pr = -1 := List.pairwise_iff_getElem.1 h i j (by omega) hj hi
theorem posF_low : ∀ (l : List Slt) (p : Pr) (i : Nat) (h : i < l.length), i < posF l p → cmpP (l[i]).pr p = -1
  | [], _, _, h, _ => absurd h (by simp)
  | s :: l, p, i, h, hi => by
    unfold posF at hi
    by_cases hs : cmpP s.pr p = -1
    · rw [List.takeWhile_cons_of_pos (by simp [hs])] at hi
      cases i with
      | zero => exact hs
      | succ i => exact posF_low l p i (by simpa using h) (by unfold posF; simpa using hi)
    · rw [List.takeWhile_cons_of_neg (by simp [hs])] at hi
      simp at hi
theorem posF_high : ∀ {l : List Slt} (_ : Rise l) (p : Pr) (i : Nat) (h : i < l.length), posF l p ≤ i → cmpP (l[i]).pr p ≠ -1
  | [], _, _, _, h, _ => absurd h (by simp)
  | s :: l, hr, p, i, h, hi => by
    unfold posF at hi
    by_cases hs : cmpP s.pr p = -1
    · rw [List.takeWhile_cons_of_pos (by simp [hs])] at hi
      cases i with
      | zero => simp at hi
      | succ i =>
        have := posF_high (List.Pairwise.of_cons hr) p i (by simpa using h) (by unfold posF; simpa using hi)
        simpa using this
    · cases i with
      | zero => exact hs
      | succ i =>
        intro e
        have h1 := (List.pairwise_cons.1 hr).1 (l[i]'(by simpa using h)) (List.getElem_mem _)
        exact hs (cmpP_trans h1 (by simpa using e))
/-- The least place from which on nothing stands below p is where p is, or belongs. -/
theorem posF_uniq {l : List Slt} (hr : Rise l) (p : Pr) (i : Nat) (hi : i ≤ l.length) (h1 : ∀ j, ∀ h : j < l.length, j < i → cmpP (l[j]).pr p = -1) (h2 : ∀ j, ∀ h : j < l.length, i ≤ j → cmpP (l[j]).pr p ≠ -1) : i = posF l p := by
  rcases Nat.lt_trichotomy i (posF l p) with h | h | h
  · have := posF_le l p
    exact absurd (posF_low l p i (by omega) h) (h2 i (by omega) (Nat.le_refl _))
  · exact h
  · exact absurd (h1 (posF l p) (by omega) h) (posF_high hr p _ (by omega) (Nat.le_refl _))
def foundF (l : List Slt) (p : Pr) : Bool := match l[posF l p]? with
  | some s => decide (cmpP s.pr p = 0)
  | none => false
end Go.Proofs.YtpleminoiodmgaaDoor
namespace Go.Proofs.YtpleminoiodmgaaDoor
open Go.Lib
set_option linter.unusedVariables false

/-- A row's keys. -/
def JT.keys : JT → List (List UInt8)
  | .nil => []
  | .cons k _ _ _ _ _ _ r => k :: r.keys
def keyP (k : List UInt8) : Pr := (k, [])
def slts (t : JT) : List Slt := t.keys.map fun k => ⟨k, [], []⟩
theorem slts_len : ∀ t : JT, (slts t).length = t.ext
  | .nil => rfl
  | .cons k _ _ _ _ _ _ r => by have := slts_len r; simp [slts, JT.keys, JT.ext] at this ⊢; exact this
theorem slts_at : ∀ (t : JT) (i : Nat) (h : i < (slts t).length), ((slts t)[i]).pr = keyP (t.fall i).key
  | .nil, i, h => absurd h (by simp [slts, JT.keys])
  | .cons k _ _ _ _ _ _ r, 0, h => rfl
  | .cons k _ _ _ _ _ _ r, i + 1, h => by
    have := slts_at r i (by simpa [slts, JT.keys] using h)
    show _ = keyP (r.fall i).key
    simpa [slts, JT.keys] using this
theorem cmpP_key (a b : List UInt8) : cmpP (keyP a) (keyP b) = compareBytes a b := by
  unfold cmpP keyP
  dsimp only
  split
  · rename_i h; rw [h]; rfl
  · rfl
/-- Do the keys rise, in all maps? -/
def risF (mem : Bool) : Option (List UInt8) → JT → Bool
  | _, .nil => true
  | prev, .cons k _ _ _ _ l m r => (match prev with | none => true | some p => !mem || Op.bytesLess p k) && risF true none m && risF false none l && risF mem (some k) r
def risV (v : Jv) : Bool := risF true none v.m && risF false none v.l
theorem rise_of (p : Option (List UInt8)) : ∀ t : JT, risF true p t = true → Rise (slts t) ∧ ∀ q, p = some q → ∀ s ∈ slts t, cmpP (keyP q) s.pr = -1
  | .nil, _ => ⟨List.Pairwise.nil, fun _ _ s hs => by simp [slts, JT.keys] at hs⟩
  | .cons k kd is n s l m r, h => by
    simp only [risF, Bool.and_eq_true, Bool.not_true, Bool.false_or] at h
    obtain ⟨⟨⟨h1, _⟩, _⟩, h4⟩ := h
    obtain ⟨h5, h6⟩ := rise_of (some k) r h4
    have hk : ∀ s ∈ slts r, cmpP (keyP k) s.pr = -1 := h6 k rfl
    refine ⟨List.pairwise_cons.2 ⟨fun b hb => hk b hb, h5⟩, fun q hq s hs => ?_⟩
    subst hq
    have hqk : cmpP (keyP q) (keyP k) = -1 := by
      rw [cmpP_key]
      dsimp only at h1
      rw [bl_cb] at h1
      simpa using h1
    rcases List.mem_cons.1 (show s ∈ (⟨k, [], []⟩ : Slt) :: slts r from hs) with rfl | hs
    · exact hqk
    · exact cmpP_trans hqk (hk s hs)
theorem rise_top {v : Jv} (h : risV v = true) : Rise (slts v.m) := by
  unfold risV at h
  simp only [Bool.and_eq_true] at h
  exact (rise_of none v.m h.1).1
theorem ris_fall (mem : Bool) : ∀ (t : JT) (p : Option (List UInt8)) (i : Nat), risF mem p t = true → i < t.ext → risV (t.fall i).val = true
  | .nil, _, i, _, hi => absurd hi (by simp [JT.ext])
  | .cons k kd is n s l m r, p, 0, h, _ => by
    simp only [risF, Bool.and_eq_true] at h
    simp [risV, JT.fall, JT.val, h]
  | .cons k kd is n s l m r, p, i + 1, h, hi => by
    simp only [risF, Bool.and_eq_true] at h
    exact ris_fall mem r (some k) i h.2 (by simp [JT.ext] at hi; omega)
/-- The value of a key. -/
def JT.findV : JT → List UInt8 → Option Jv
  | .nil, _ => none
  | .cons k kd is n s l m r, key => if k = key then some ⟨kd, is, n, s, l, m⟩ else r.findV key
theorem findV_pos : ∀ {t : JT} (_ : Rise (slts t)) (key : List UInt8), t.findV key = if foundF (slts t) (keyP key) then some (t.fall (posF (slts t) (keyP key))).val else none
  | .nil, _, key => rfl
  | .cons k kd is n s l m r, hr, key => by
    have hr2 : Rise (slts r) := List.Pairwise.of_cons hr
    have hall := (List.pairwise_cons.1 (show List.Pairwise (fun a b => cmpP a.pr b.pr = -1) ((⟨k, [], []⟩ : Slt) :: slts r) from hr)).1
    have ih := findV_pos hr2 key
    have es : slts (.cons k kd is n s l m r) = (⟨k, [], []⟩ : Slt) :: slts r := rfl
    rw [es]
    have hpr : (⟨k, [], []⟩ : Slt).pr = keyP k := rfl
    by_cases hs : cmpP (keyP k) (keyP key) = -1
    · have e : posF ((⟨k, [], []⟩ : Slt) :: slts r) (keyP key) = posF (slts r) (keyP key) + 1 := by unfold posF; rw [List.takeWhile_cons_of_pos (by simp [hpr, hs])]; simp
      have f : foundF ((⟨k, [], []⟩ : Slt) :: slts r) (keyP key) = foundF (slts r) (keyP key) := by unfold foundF; rw [e]; simp
      have hne : ¬ k = key := by intro h; rw [h, cmpP_self] at hs; exact absurd hs (by decide)
      rw [f, e]
      simp only [JT.findV, if_neg hne, JT.fall]
      exact ih
    · have e : posF ((⟨k, [], []⟩ : Slt) :: slts r) (keyP key) = 0 := by unfold posF; rw [List.takeWhile_cons_of_neg (by simp [hpr, hs])]; rfl
      rcases cmpP_three (keyP k) (keyP key) with h | h | h
      · exact absurd h hs
      · have hf : foundF ((⟨k, [], []⟩ : Slt) :: slts r) (keyP key) = true := by unfold foundF; rw [e]; simp [hpr, h]
        have heq : k = key := by have := cmpP_eq h; injection this
        rw [hf, e, if_pos rfl]
        simp [JT.findV, heq, JT.fall, JT.val]
      · have hf : foundF ((⟨k, [], []⟩ : Slt) :: slts r) (keyP key) = false := by unfold foundF; rw [e]; simp [hpr, h]
        have hne : ¬ k = key := by intro e2; rw [e2, cmpP_self] at h; exact absurd h (by decide)
        rw [hf]
        simp only [JT.findV, if_neg hne]
        rw [ih]
        have hr0 : foundF (slts r) (keyP key) = false := by
          unfold foundF
          cases hg : (slts r)[posF (slts r) (keyP key)]? with
          | none => rfl
          | some x =>
            have hx := List.mem_of_getElem? hg
            have h1 := hall x hx
            have h2 : cmpP (keyP key) (keyP k) = -1 := by rw [cmpP_anti (keyP k) (keyP key), h]
            have h3 := cmpP_trans h2 h1
            have h4 : cmpP x.pr (keyP key) = 1 := by rw [cmpP_anti (keyP key) x.pr, h3]; decide
            simp [h4]
        rw [hr0]; simp
def nullV : Jv := ⟨0, false, 0, [], .nil, .nil⟩
/-- The value of a key; null: it is no map, or hasn't it. -/
def memF (v : Jv) (key : List UInt8) : Jv := if v.kd = 5 then (v.m.findV key).getD nullV else nullV
/-- A member that is a number. -/
def toldF (v : Jv) (key : List UInt8) : Option Int := if (memF v key).kd = 2 then some (memF v key).n else none
/-- A level that stands alone, if it isn't told. -/
def startF (name : List UInt8) : Int := if name = [98, 97, 110] ∨ name = [107, 105, 99, 107] ∨ name = [114, 101, 100, 97, 99, 116] ∨ name = [115, 116, 97, 116, 101, 95, 100, 101, 102, 97, 117, 108, 116] then 50 else 0
def levelF (v : Jv) (name : List UInt8) : Int := (toldF v name).getD (startF name)
def usersK : List UInt8 := [117, 115, 101, 114, 115]
def userF (v : Jv) (creator user : List UInt8) : Int :=
  if v.kd = 5 then (toldF (memF v usersK) user).getD (levelF v [117, 115, 101, 114, 115, 95, 100, 101, 102, 97, 117, 108, 116]) else if user = creator then 100 else 0
def sendF (v : Jv) (kind : List UInt8) (state : Bool) : Int :=
  match toldF (memF v [101, 118, 101, 110, 116, 115]) kind with
  | some n => n
  | none => if state then (if v.kd = 5 then levelF v [115, 116, 97, 116, 101, 95, 100, 101, 102, 97, 117, 108, 116] else 0) else levelF v [101, 118, 101, 110, 116, 115, 95, 100, 101, 102, 97, 117, 108, 116]
end Go.Proofs.YtpleminoiodmgaaDoor
