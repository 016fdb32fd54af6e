/- Layer 9, no run: values of JSON as a plain forest. -/
import Derived.WalkKit
namespace Go.Proofs.Ytlfmknebkfnliaa
set_option linter.unusedVariables false

/-- A row of members (k: the key) or of a list's values (k is then empty): kind, truth, number, text, list, map; then the rest of the row. -/
inductive JT where
  | nil
  | cons (k : List UInt8) (kd : Int) (is : Bool) (n : Int) (s : List UInt8) (l m : JT) (r : JT)
/-- A value. -/
structure Jv where
  kd : Int
  is : Bool
  n : Int
  s : List UInt8
  l : JT
  m : JT
namespace JT
def ext : JT → Nat
  | nil => 0
  | cons _ _ _ _ _ _ _ r => r.ext + 1
def bulk : JT → Nat
  | nil => 0
  | cons _ _ _ _ _ l m r => 1 + l.bulk + m.bulk + r.bulk
def fall : JT → Nat → JT
  | t, 0 => t
  | nil, _ + 1 => nil
  | cons _ _ _ _ _ _ _ r, i + 1 => r.fall i
def key : JT → List UInt8
  | nil => []
  | cons k _ _ _ _ _ _ _ => k
def val : JT → Jv
  | nil => ⟨0, false, 0, [], nil, nil⟩
  | cons _ kd is n s l m _ => ⟨kd, is, n, s, l, m⟩
def isNil : JT → Bool
  | nil => true
  | _ => false
def one (k : List UInt8) (v : Jv) (r : JT) : JT := cons k v.kd v.is v.n v.s v.l v.m r
theorem fall_zero (t : JT) : t.fall 0 = t := by cases t <;> rfl
theorem fall_nil (i : Nat) : nil.fall i = nil := by cases i <;> rfl
theorem fall_succ : ∀ (t : JT) (i : Nat), t.fall (i + 1) = (t.fall i).fall 1
  | nil, i => by rw [fall_nil, fall_nil, fall_nil]
  | cons k kd is n s l m r, 0 => rfl
  | cons k kd is n s l m r, i + 1 => fall_succ r i
theorem fall_ext : ∀ (t : JT) (i : Nat), (t.fall i).ext = t.ext - i
  | nil, i => by rw [fall_nil]; simp [ext]
  | cons k kd is n s l m r, 0 => by simp [fall]
  | cons k kd is n s l m r, i + 1 => by
    have := fall_ext r i
    simp only [fall, ext, this]; omega
theorem fall_of_lt : ∀ (t : JT) (i : Nat), i < t.ext → t.fall i = one (t.fall i).key (t.fall i).val (t.fall (i + 1))
  | nil, i, h => absurd h (by simp [ext])
  | cons k kd is n s l m r, 0, _ => by simp [fall, one, key, val]
  | cons k kd is n s l m r, i + 1, h => fall_of_lt r i (by simp [ext] at h; omega)
theorem fall_all (t : JT) (i : Nat) (h : t.ext ≤ i) : t.fall i = nil := by
  have := fall_ext t i
  cases hc : t.fall i with
  | nil => rfl
  | cons => rw [hc] at this; simp [ext] at this; omega
theorem isNil_iff (t : JT) : t.isNil = true ↔ t.ext = 0 := by cases t <;> simp [isNil, ext]
theorem isNil_eq (t : JT) : t.isNil = decide (t.ext = 0) := by cases t <;> simp [isNil, ext]
theorem bulk_fall : ∀ (t : JT) (i : Nat), (t.fall i).bulk ≤ t.bulk
  | nil, i => by rw [fall_nil]; exact Nat.le_refl _
  | cons k kd is n s l m r, 0 => Nat.le_refl _
  | cons k kd is n s l m r, i + 1 => by have := bulk_fall r i; simp only [fall, bulk]; omega
end JT
/-- What stands in a value, itself counted. -/
def Jv.bulk (v : Jv) : Nat := 1 + v.l.bulk + v.m.bulk
theorem JT.bulk_one (k : List UInt8) (v : Jv) (r : JT) : (JT.one k v r).bulk = v.bulk + r.bulk := by
  simp only [one, bulk, Jv.bulk]
theorem JT.bulk_val (t : JT) (i : Nat) (h : i < t.ext) : (t.fall i).val.bulk ≤ t.bulk := by
  have h1 := t.bulk_fall i
  have h2 := congrArg JT.bulk (t.fall_of_lt i h)
  rw [JT.bulk_one] at h2
  omega

end Go.Proofs.Ytlfmknebkfnliaa
