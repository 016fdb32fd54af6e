/- Layer 14, no run: members looked up in maps whose keys rise; levels. -/
import Derived.Test.YtlfmknebkfnliaaJv0
import Derived.Test.YtlfmknebkfnliaaCb
namespace Go.Proofs.Ytlfmknebkfnliaa
open Go.Lib
set_option linter.unusedVariables false

/-- A row's keys. -/
def JT.keys : JT → List (List UInt8)
  | .nil => []
  | .cons k _ _ _ _ _ _ r => k :: r.keys
def keyP (k : List UInt8) : Pr := (k, [])
def slts (t : JT) : List Slt := t.keys.map fun k => ⟨k, [], []⟩
theorem slts_len : ∀ t : JT, (slts t).length = t.ext
  | .nil => rfl
  | .cons k _ _ _ _ _ _ r => by have := slts_len r; simp [slts, JT.keys, JT.ext] at this ⊢; exact this
theorem slts_at : ∀ (t : JT) (i : Nat) (h : i < (slts t).length), ((slts t)[i]).pr = keyP (t.fall i).key
  | .nil, i, h => absurd h (by simp [slts, JT.keys])
  | .cons k _ _ _ _ _ _ r, 0, h => rfl
  | .cons k _ _ _ _ _ _ r, i + 1, h => by
    have := slts_at r i (by simpa [slts, JT.keys] using h)
    show _ = keyP (r.fall i).key
    simpa [slts, JT.keys] using this
theorem cmpP_key (a b : List UInt8) : cmpP (keyP a) (keyP b) = compareBytes a b := by
  unfold cmpP keyP
  dsimp only
  split
  · rename_i h; rw [h]; rfl
  · rfl
/-- Do the keys rise, in all maps? -/
def risF (mem : Bool) : Option (List UInt8) → JT → Bool
  | _, .nil => true
  | prev, .cons k _ _ _ _ l m r => (match prev with | none => true | some p => !mem || Op.bytesLess p k) && risF true none m && risF false none l && risF mem (some k) r
def risV (v : Jv) : Bool := risF true none v.m && risF false none v.l
theorem rise_of (p : Option (List UInt8)) : ∀ t : JT, risF true p t = true → Rise (slts t) ∧ ∀ q, p = some q → ∀ s ∈ slts t, cmpP (keyP q) s.pr = -1
  | .nil, _ => ⟨List.Pairwise.nil, fun _ _ s hs => by simp [slts, JT.keys] at hs⟩
  | .cons k kd is n s l m r, h => by
    simp only [risF, Bool.and_eq_true, Bool.not_true, Bool.false_or] at h
    obtain ⟨⟨⟨h1, _⟩, _⟩, h4⟩ := h
    obtain ⟨h5, h6⟩ := rise_of (some k) r h4
    have hk : ∀ s ∈ slts r, cmpP (keyP k) s.pr = -1 := h6 k rfl
    refine ⟨List.pairwise_cons.2 ⟨fun b hb => hk b hb, h5⟩, fun q hq s hs => ?_⟩
    subst hq
    have hqk : cmpP (keyP q) (keyP k) = -1 := by
      rw [cmpP_key]
      dsimp only at h1
      rw [bl_cb] at h1
      simpa using h1
    rcases List.mem_cons.1 (show s ∈ (⟨k, [], []⟩ : Slt) :: slts r from hs) with rfl | hs
    · exact hqk
    · exact cmpP_trans hqk (hk s hs)
theorem rise_top {v : Jv} (h : risV v = true) : Rise (slts v.m) := by
  unfold risV at h
  simp only [Bool.and_eq_true] at h
  exact (rise_of none v.m h.1).1
theorem ris_fall (mem : Bool) : ∀ (t : JT) (p : Option (List UInt8)) (i : Nat), risF mem p t = true → i < t.ext → risV (t.fall i).val = true
  | .nil, _, i, _, hi => absurd hi (by simp [JT.ext])
  | .cons k kd is n s l m r, p, 0, h, _ => by
    simp only [risF, Bool.and_eq_true] at h
    simp [risV, JT.fall, JT.val, h]
  | .cons k kd is n s l m r, p, i + 1, h, hi => by
    simp only [risF, Bool.and_eq_true] at h
    exact ris_fall mem r (some k) i h.2 (by simp [JT.ext] at hi; omega)
/-- The value of a key. -/
def JT.findV : JT → List UInt8 → Option Jv
  | .nil, _ => none
  | .cons k kd is n s l m r, key => if k = key then some ⟨kd, is, n, s, l, m⟩ else r.findV key
theorem findV_pos : ∀ {t : JT} (_ : Rise (slts t)) (key : List UInt8), t.findV key = if foundF (slts t) (keyP key) then some (t.fall (posF (slts t) (keyP key))).val else none
  | .nil, _, key => rfl
  | .cons k kd is n s l m r, hr, key => by
    have hr2 : Rise (slts r) := List.Pairwise.of_cons hr
    have hall := (List.pairwise_cons.1 (show List.Pairwise (fun a b => cmpP a.pr b.pr = -1) ((⟨k, [], []⟩ : Slt) :: slts r) from hr)).1
    have ih := findV_pos hr2 key
    have es : slts (.cons k kd is n s l m r) = (⟨k, [], []⟩ : Slt) :: slts r := rfl
    rw [es]
    have hpr : (⟨k, [], []⟩ : Slt).pr = keyP k := rfl
    by_cases hs : cmpP (keyP k) (keyP key) = -1
    · have e : posF ((⟨k, [], []⟩ : Slt) :: slts r) (keyP key) = posF (slts r) (keyP key) + 1 := by unfold posF; rw [List.takeWhile_cons_of_pos (by simp [hpr, hs])]; simp
      have f : foundF ((⟨k, [], []⟩ : Slt) :: slts r) (keyP key) = foundF (slts r) (keyP key) := by unfold foundF; rw [e]; simp
      have hne : ¬ k = key := by intro h; rw [h, cmpP_self] at hs; exact absurd hs (by decide)
      rw [f, e]
      simp only [JT.findV, if_neg hne, JT.fall]
      exact ih
    · have e : posF ((⟨k, [], []⟩ : Slt) :: slts r) (keyP key) = 0 := by unfold posF; rw [List.takeWhile_cons_of_neg (by simp [hpr, hs])]; rfl
      rcases cmpP_three (keyP k) (keyP key) with h | h | h
      · exact absurd h hs
      · have hf : foundF ((⟨k, [], []⟩ : Slt) :: slts r) (keyP key) = true := by unfold foundF; rw [e]; simp [hpr, h]
        have heq : k = key := by have := cmpP_eq h; injection this
        rw [hf, e, if_pos rfl]
        simp [JT.findV, heq, JT.fall, JT.val]
      · have hf : foundF ((⟨k, [], []⟩ : Slt) :: slts r) (keyP key) = false := by unfold foundF; rw [e]; simp [hpr, h]
        have hne : ¬ k = key := by intro e2; rw [e2, cmpP_self] at h; exact absurd h (by decide)
        rw [hf]
        simp only [JT.findV, if_neg hne]
        rw [ih]
        have hr0 : foundF (slts r) (keyP key) = false := by
          unfold foundF
          cases hg : (slts r)[posF (slts r) (keyP key)]? with
          | none => rfl
          | some x =>
            have hx := List.mem_of_getElem? hg
            have h1 := hall x hx
            have h2 : cmpP (keyP key) (keyP k) = -1 := by rw [cmpP_anti (keyP k) (keyP key), h]
            have h3 := cmpP_trans h2 h1
            have h4 : cmpP x.pr (keyP key) = 1 := by rw [cmpP_anti (keyP key) x.pr, h3]; decide
            simp [h4]
        rw [hr0]; simp
def nullV : Jv := ⟨0, false, 0, [], .nil, .nil⟩
/-- The value of a key; null: it is no map, or hasn't it. -/
def memF (v : Jv) (key : List UInt8) : Jv := if v.kd = 5 then (v.m.findV key).getD nullV else nullV
/-- A member that is a number. -/
def toldF (v : Jv) (key : List UInt8) : Option Int := if (memF v key).kd = 2 then some (memF v key).n else none
/-- A level that stands alone, if it isn't told. -/
def startF (name : List UInt8) : Int := if name = [98, 97, 110] ∨ name = [107, 105, 99, 107] ∨ name = [114, 101, 100, 97, 99, 116] ∨ name = [115, 116, 97, 116, 101, 95, 100, 101, 102, 97, 117, 108, 116] then 50 else 0
def levelF (v : Jv) (name : List UInt8) : Int := (toldF v name).getD (startF name)
def usersK : List UInt8 := [117, 115, 101, 114, 115]
def userF (v : Jv) (creator user : List UInt8) : Int :=
  if v.kd = 5 then (toldF (memF v usersK) user).getD (levelF v [117, 115, 101, 114, 115, 95, 100, 101, 102, 97, 117, 108, 116]) else if user = creator then 100 else 0
def sendF (v : Jv) (kind : List UInt8) (state : Bool) : Int :=
  match toldF (memF v [101, 118, 101, 110, 116, 115]) kind with
  | some n => n
  | none => if state then (if v.kd = 5 then levelF v [115, 116, 97, 116, 101, 95, 100, 101, 102, 97, 117, 108, 116] else 0) else levelF v [101, 118, 101, 110, 116, 115, 95, 100, 101, 102, 97, 117, 108, 116]
end Go.Proofs.Ytlfmknebkfnliaa
