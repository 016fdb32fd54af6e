/- Layer 9: values of JSON in memory. No function is named. -/
import Derived.Test.YtlfmknebkfnliaaJv0
import Derived.Test.YtlfmknebkfnliaaPkL
namespace Go.Proofs.Ytlfmknebkfnliaa
open Go.ChangeShapes Go.WideShapes Go.ChangeAt Go.RowKit
set_option linter.unusedVariables false

def strV (l : List UInt8) : Value := .string ⟨l.toArray⟩
def kwM (mem : Bool) : Nat := if mem then 1 else 0
def stM (mem : Bool) : Nat := kwM mem + 6
/-- What fits its type. -/
def Fit (kd n : Int) (s : List UInt8) : Prop := (-9223372036854775808 ≤ kd ∧ kd ≤ 9223372036854775807) ∧ (-9223372036854775808 ≤ n ∧ n ≤ 9223372036854775807) ∧ s.length ≤ 140737488355328
def Room (n c ext : Nat) : Prop := n = ext ∧ n ≤ c ∧ n ≤ 140737488355328
/-- From the place b, o on lies a row; its parts lie in blocks of P. -/
def JIn (P : Nat → Prop) (w : World) : Bool → Nat → Nat → JT → Prop
  | _, _, _, .nil => True
  | mem, b, o, .cons k kd is n s l m r =>
    (if mem then w.cell? ⟨b, o, none⟩ = some (strV k) ∧ k.length ≤ 140737488355328 else k = []) ∧
    (∃ A nl cl B nm cm, w.rangeAt b (o + kwM mem) [.int .i64 kd, .bool is, .int .i64 n, strV s, .slice A nl cl, .slice B nm cm] ∧ Room nl cl l.ext ∧ Room nm cm m.ext ∧
      (l = .nil ∨ ∃ b' o', A = some ⟨b', o', none⟩ ∧ P b' ∧ JIn P w false b' o' l) ∧ (m = .nil ∨ ∃ b' o', B = some ⟨b', o', none⟩ ∧ P b' ∧ JIn P w true b' o' m)) ∧
    Fit kd n s ∧ JIn P w mem b (o + stM mem) r
/-- The slice at A reads a row. -/
def JSl (P : Nat → Prop) (w : World) (mem : Bool) (A : Option Addr) (t : JT) : Prop := t = .nil ∨ ∃ b o, A = some ⟨b, o, none⟩ ∧ P b ∧ JIn P w mem b o t
/-- A value's cells. -/
def JCs (P : Nat → Prop) (w : World) (cs : List Value) (v : Jv) : Prop :=
  ∃ A nl cl B nm cm, cs = [.int .i64 v.kd, .bool v.is, .int .i64 v.n, strV v.s, .slice A nl cl, .slice B nm cm] ∧ Room nl cl v.l.ext ∧ Room nm cm v.m.ext ∧ JSl P w false A v.l ∧ JSl P w true B v.m ∧ Fit v.kd v.n v.s
section
variable {P Q : Nat → Prop} {w w' : World} {mem : Bool}
theorem JIn.stay (hP : ∀ b o, P b → w'.cell? ⟨b, o, none⟩ = w.cell? ⟨b, o, none⟩) (hPQ : ∀ b, P b → Q b) : ∀ (t : JT) (mem : Bool) (b o : Nat), P b → JIn P w mem b o t → JIn Q w' mem b o t
  | .nil, _, _, _, _, _ => trivial
  | .cons k kd is n s l m r, mem, b, o, hb, h => by
    obtain ⟨h1, ⟨A, nl, cl, B, nm, cm, h2, h3, h4, h5, h6⟩, h7, h8⟩ := h
    refine ⟨?_, ⟨A, nl, cl, B, nm, cm, ?_, h3, h4, ?_, ?_⟩, h7, JIn.stay hP hPQ r mem b _ hb h8⟩
    · cases mem with
      | true => exact ⟨(hP _ _ hb).trans h1.1, h1.2⟩
      | false => exact h1
    · intro j v hj
      rw [hP _ _ hb]
      exact h2 j v hj
    · rcases h5 with h5 | ⟨b', o', e, hb', h5⟩
      · exact .inl h5
      · exact .inr ⟨b', o', e, hPQ _ hb', JIn.stay hP hPQ l false b' o' hb' h5⟩
    · rcases h6 with h6 | ⟨b', o', e, hb', h6⟩
      · exact .inl h6
      · exact .inr ⟨b', o', e, hPQ _ hb', JIn.stay hP hPQ m true b' o' hb' h6⟩
theorem JSl.stay {A : Option Addr} {t : JT} (h : JSl P w mem A t) (hP : ∀ b o, P b → w'.cell? ⟨b, o, none⟩ = w.cell? ⟨b, o, none⟩) (hPQ : ∀ b, P b → Q b) : JSl Q w' mem A t := by
  rcases h with h | ⟨b, o, e, hb, h⟩
  · exact .inl h
  · exact .inr ⟨b, o, e, hPQ _ hb, JIn.stay hP hPQ t mem b o hb h⟩
theorem JCs.stay {cs : List Value} {v : Jv} (h : JCs P w cs v) (hP : ∀ b o, P b → w'.cell? ⟨b, o, none⟩ = w.cell? ⟨b, o, none⟩) (hPQ : ∀ b, P b → Q b) : JCs Q w' cs v := by
  obtain ⟨A, nl, cl, B, nm, cm, e, h1, h2, h3, h4, h5⟩ := h
  exact ⟨A, nl, cl, B, nm, cm, e, h1, h2, h3.stay hP hPQ, h4.stay hP hPQ, h5⟩
/-- The i-th of a row. -/
theorem JIn.at_ : ∀ (t : JT) (mem : Bool) (b o i : Nat), JIn P w mem b o t → i < t.ext →
    (if mem then w.cell? ⟨b, o + i * stM mem, none⟩ = some (strV (t.fall i).key) ∧ (t.fall i).key.length ≤ 140737488355328 else (t.fall i).key = []) ∧
    ∃ cs, w.rangeAt b (o + i * stM mem + kwM mem) cs ∧ JCs P w cs (t.fall i).val
  | .nil, _, _, _, i, _, hi => absurd hi (by simp [JT.ext])
  | .cons k kd is n s l m r, mem, b, o, 0, h, _ => by
    obtain ⟨h1, ⟨A, nl, cl, B, nm, cm, h2, h3, h4, h5, h6⟩, h7, h8⟩ := h
    rw [JT.fall_zero, Nat.zero_mul, Nat.add_zero]
    exact ⟨h1, _, h2, A, nl, cl, B, nm, cm, rfl, h3, h4, h5, h6, h7⟩
  | .cons k kd is n s l m r, mem, b, o, i + 1, h, hi => by
    have := JIn.at_ r mem b (o + stM mem) i h.2.2.2 (by simp [JT.ext] at hi; omega)
    rw [show o + stM mem + i * stM mem = o + (i + 1) * stM mem by rw [Nat.succ_mul]; omega] at this
    exact this
theorem JSl.at_ {A : Option Addr} {t : JT} (h : JSl P w mem A t) {i : Nat} (hi : i < t.ext) : ∃ b o, A = some ⟨b, o, none⟩ ∧ P b ∧ b < w.heap.size ∧
    (if mem then w.cell? ⟨b, o + i * stM mem, none⟩ = some (strV (t.fall i).key) ∧ (t.fall i).key.length ≤ 140737488355328 else (t.fall i).key = []) ∧
    ∃ cs, w.rangeAt b (o + i * stM mem + kwM mem) cs ∧ JCs P w cs (t.fall i).val := by
  rcases h with h | ⟨b, o, e, hb, h⟩
  · rw [h] at hi; exact absurd hi (by simp [JT.ext])
  · obtain ⟨h1, cs, h2, h3⟩ := JIn.at_ t mem b o i h hi
    refine ⟨b, o, e, hb, ?_, h1, cs, h2, h3⟩
    obtain ⟨A, nl, cl, B, nm, cm, rfl, _⟩ := h3
    exact World.block_lt_of_cell? w _ (h2 0 _ rfl)
end
/-- A value out of the caller's memory. -/
def JVal (w : World) (V : Value) (v : Jv) : Prop := ∃ cs : List Value, V = .agg cs.toArray ∧ JCs (· < w.heap.size) w cs v
theorem JCs.below {w w' : World} {cs : List Value} {v : Jv} (h : JCs (· < w.heap.size) w cs v) (hb : Below w.heap.size w w') : JCs (· < w'.heap.size) w' cs v :=
  h.stay (fun b o hlt => hb.cell (p := ⟨b, o, none⟩) hlt) (fun b hlt => Nat.lt_of_lt_of_le hlt hb.size)
theorem JVal.below {w w' : World} {V : Value} {v : Jv} (h : JVal w V v) (hb : Below w.heap.size w w') : JVal w' V v :=
  let ⟨cs, e, h1⟩ := h; ⟨cs, e, h1.below hb⟩
end Go.Proofs.Ytlfmknebkfnliaa
