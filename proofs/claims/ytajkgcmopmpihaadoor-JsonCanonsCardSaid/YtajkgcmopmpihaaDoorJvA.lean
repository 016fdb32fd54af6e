/- Layer 9, no run: values of JSON as a plain forest; their canonical text. -/
import Derived.Test.YtajkgcmopmpihaaDoorQuE
import Derived.Lib.ItoaNum
namespace Go.Proofs.YtajkgcmopmpihaaDoor
set_option linter.unusedVariables false

/-- A row of members (k: the key) or of a list's values (k is then empty): kind, truth, number, text, list, map; then the rest of the row. -/
inductive JT where
  | nil
  | cons (k : List UInt8) (kd : Int) (is : Bool) (n : Int) (s : List UInt8) (l m : JT) (r : JT)
/-- A value. -/
structure Jv where
  kd : Int
  is : Bool
  n : Int
  s : List UInt8
  l : JT
  m : JT
namespace JT
def ext : JT → Nat
  | nil => 0
  | cons _ _ _ _ _ _ _ r => r.ext + 1
def bulk : JT → Nat
  | nil => 0
  | cons _ _ _ _ _ l m r => 1 + l.bulk + m.bulk + r.bulk
def fall : JT → Nat → JT
  | t, 0 => t
  | nil, _ + 1 => nil
  | cons _ _ _ _ _ _ _ r, i + 1 => r.fall i
def key : JT → List UInt8
  | nil => []
  | cons k _ _ _ _ _ _ _ => k
def val : JT → Jv
  | nil => ⟨0, false, 0, [], nil, nil⟩
  | cons _ kd is n s l m _ => ⟨kd, is, n, s, l, m⟩
def isNil : JT → Bool
  | nil => true
  | _ => false
def one (k : List UInt8) (v : Jv) (r : JT) : JT := cons k v.kd v.is v.n v.s v.l v.m r
theorem fall_zero (t : JT) : t.fall 0 = t := by cases t <;> rfl
theorem fall_nil (i : Nat) : nil.fall i = nil := by cases i <;> rfl
theorem fall_succ : ∀ (t : JT) (i : Nat), t.fall (i + 1) = (t.fall i).fall 1
  | nil, i => by rw [fall_nil, fall_nil, fall_nil]
  | cons k kd is n s l m r, 0 => rfl
  | cons k kd is n s l m r, i + 1 => fall_succ r i
theorem fall_ext : ∀ (t : JT) (i : Nat), (t.fall i).ext = t.ext - i
  | nil, i => by rw [fall_nil]; simp [ext]
  | cons k kd is n s l m r, 0 => by simp [fall]
  | cons k kd is n s l m r, i + 1 => by
    have := fall_ext r i
    simp only [fall, ext, this]; omega
theorem fall_of_lt : ∀ (t : JT) (i : Nat), i < t.ext → t.fall i = one (t.fall i).key (t.fall i).val (t.fall (i + 1))
  | nil, i, h => absurd h (by simp [ext])
  | cons k kd is n s l m r, 0, _ => by simp [fall, one, key, val]
  | cons k kd is n s l m r, i + 1, h => fall_of_lt r i (by simp [ext] at h; omega)
theorem fall_all (t : JT) (i : Nat) (h : t.ext ≤ i) : t.fall i = nil := by
  have := fall_ext t i
  cases hc : t.fall i with
  | nil => rfl
  | cons => rw [hc] at this; simp [ext] at this; omega
theorem isNil_iff (t : JT) : t.isNil = true ↔ t.ext = 0 := by cases t <;> simp [isNil, ext]
theorem isNil_eq (t : JT) : t.isNil = decide (t.ext = 0) := by cases t <;> simp [isNil, ext]
theorem bulk_fall : ∀ (t : JT) (i : Nat), (t.fall i).bulk ≤ t.bulk
  | nil, i => by rw [fall_nil]; exact Nat.le_refl _
  | cons k kd is n s l m r, 0 => Nat.le_refl _
  | cons k kd is n s l m r, i + 1 => by have := bulk_fall r i; simp only [fall, bulk]; omega
end JT
/-- What stands in a value, itself counted. -/
def Jv.bulk (v : Jv) : Nat := 1 + v.l.bulk + v.m.bulk
theorem JT.bulk_one (k : List UInt8) (v : Jv) (r : JT) : (JT.one k v r).bulk = v.bulk + r.bulk := by
  simp only [one, bulk, Jv.bulk]
theorem JT.bulk_val (t : JT) (i : Nat) (h : i < t.ext) : (t.fall i).val.bulk ≤ t.bulk := by
  have h1 := t.bulk_fall i
  have h2 := congrArg JT.bulk (t.fall_of_lt i h)
  rw [JT.bulk_one] at h2
  omega

abbrev Res := Except Int (List UInt8)
def lng (b : List UInt8) : Res := if b.length ≤ 65536 then .ok b else .error 3
/-- A text between quotes behind bytes. -/
def txt (b s : List UInt8) : Res := if 65536 < s.length then .error 3 else if Lib.validD s then lng (b ++ putF s) else .error 1
def Res.then (r : Res) (f : List UInt8 → Res) : Res := match r with | .ok b => f b | .error e => .error e
/-- Has a value nothing but what its kind has? -/
def Jv.bare (v : Jv) : Bool :=
  (v.kd == 1 || !v.is) && (v.kd == 2 || v.n == 0) && (v.kd == 3 || v.s.isEmpty) && (v.kd == 4 || v.l.isNil) && (v.kd == 5 || v.m.isNil) && decide (0 ≤ v.kd) && decide (v.kd ≤ 5) && decide (-9007199254740991 ≤ v.n) && decide (v.n ≤ 9007199254740991)
/-- A value that has no parts, or one with its parts' writers. -/
def wrB (v : Jv) (deep : Nat) (wl wm : List UInt8 → Res) (b : List UInt8) : Res :=
  if v.bare = false then .error 1
  else if v.kd = 0 then lng (b ++ [110, 117, 108, 108])
  else if v.kd = 1 then lng (b ++ (if v.is then [116, 114, 117, 101] else [102, 97, 108, 115, 101]))
  else if v.kd = 2 then lng (b ++ Lib.itoa v.n)
  else if v.kd = 3 then txt b v.s
  else if 32 ≤ deep then .error 5
  else if v.kd = 4 then (lng (b ++ [91])).then fun b => (wl b).then fun b => lng (b ++ [93])
  else (lng (b ++ [123])).then fun b => (wm b).then fun b => lng (b ++ [125])
/-- Go's order of texts. -/
def leqB (a b : List UInt8) : Bool := Op.bytesLess a b || a == b
/-- What stands ahead of a value in its row: a comma, a key that is more than the last one, a colon. -/
def wrK (mem : Bool) (prev : Option (List UInt8)) (k : List UInt8) (b : List UInt8) : Res :=
  Res.then (match prev with | none => .ok b | some p => (lng (b ++ [44])).then fun b => if mem && leqB k p then .error 1 else .ok b)
    fun b => if mem then (txt b k).then fun b => lng (b ++ [58]) else .ok b
/-- A row's values, with all that stands between them. -/
def wrF (mem : Bool) : JT → Nat → Option (List UInt8) → List UInt8 → Res
  | .nil, _, _, b => .ok b
  | .cons k kd is n s l m r, deep, prev, b =>
    (wrK mem prev k b).then fun b => (wrB ⟨kd, is, n, s, l, m⟩ deep (fun b => wrF false l (deep + 1) none b) (fun b => wrF true m (deep + 1) none b) b).then fun b => wrF mem r deep (some k) b
/-- A value's text behind bytes. -/
def wrV (v : Jv) (deep : Nat) (b : List UInt8) : Res := wrB v deep (fun b => wrF false v.l (deep + 1) none b) (fun b => wrF true v.m (deep + 1) none b) b
theorem wrF_one (mem : Bool) (k : List UInt8) (v : Jv) (r : JT) (deep : Nat) (prev : Option (List UInt8)) (b : List UInt8) :
    wrF mem (.one k v r) deep prev b = (wrK mem prev k b).then fun b => (wrV v deep b).then fun b => wrF mem r deep (some k) b := rfl
/-- The key ahead of the i-th. -/
def prevK (t : JT) (i : Nat) : Option (List UInt8) := if i = 0 then none else some (t.fall (i - 1)).key
theorem wrF_step (mem : Bool) (t : JT) (i deep : Nat) (b : List UInt8) (h : i < t.ext) :
    wrF mem (t.fall i) deep (prevK t i) b = (wrK mem (prevK t i) (t.fall i).key b).then fun b => (wrV (t.fall i).val deep b).then fun b => wrF mem (t.fall (i + 1)) deep (prevK t (i + 1)) b := by
  have e : prevK t (i + 1) = some (t.fall i).key := by simp [prevK]
  rw [e]
  conv => lhs; rw [t.fall_of_lt i h]
  exact wrF_one mem _ _ _ _ _ _
theorem wrF_end (mem : Bool) (t : JT) (deep : Nat) (p : Option (List UInt8)) (b : List UInt8) : wrF mem (t.fall t.ext) deep p b = .ok b := by
  rw [JT.fall_all t _ (Nat.le_refl _)]; rfl
/-- Canon. -/
def canF (v : Jv) : List UInt8 × Int := match wrV v 0 [] with | .ok b => (b, 0) | .error e => ([], e)
end Go.Proofs.YtajkgcmopmpihaaDoor
