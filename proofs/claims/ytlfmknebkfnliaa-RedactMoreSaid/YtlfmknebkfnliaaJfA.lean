/- api.Value: rows as they lie in memory, element by element; what a clone of a row is. No function is named. -/
import Derived.Test.YtlfmknebkfnliaaJvD
import Derived.Lib.SliceRun
namespace Go.Proofs.Ytlfmknebkfnliaa
open Go.ChangeShapes Go.WideShapes Go.ChangeAt Go.RowKit Go.IntWalk
set_option linter.unusedVariables false
set_option maxRecDepth 100000

theorem newC_len {mem : Bool} {k : List UInt8} {e : List Value} (h : e.length = 6) : (newC mem k e).length = stM mem := by
  cases mem with
  | true => simp [newC, h, stM, kwM]
  | false => simp [newC, h, stM, kwM]
theorem RowE.shift {P : Nat → Prop} {mem : Bool} {w : World} {ds : List Value} {k s : List UInt8} {kd n : Int} {is : Bool} {l m r : JT} {i : Nat} (hd : List Value) (hl : hd.length = stM mem)
    (h : RowE P mem w ds r i) : RowE P mem w (hd ++ ds) (.cons k kd is n s l m r) (i + 1) := by
  obtain ⟨h1, e, h2, h3⟩ := h
  have e1 : (i + 1) * stM mem = hd.length + i * stM mem := by rw [hl, Nat.succ_mul, Nat.add_comm]
  refine ⟨?_, e, fun j v hj => ?_, h3⟩
  · cases mem with
    | true => exact ⟨by rw [e1, getD_app_r]; exact h1.1, h1.2⟩
    | false => exact h1
  · rw [e1, Nat.add_assoc, Nat.add_assoc, getD_app_r, ← Nat.add_assoc]; exact h2 j v hj
/-- A row's cells, one behind the other. -/
theorem JIn.flat {P : Nat → Prop} {w : World} : ∀ (t : JT) (mem : Bool) (b o : Nat), JIn P w mem b o t →
    ∃ ds, w.rangeAt b o ds ∧ ds.length = t.ext * stM mem ∧ (∀ u ∈ ds, u.oneCell' = true) ∧ ∀ i, i < t.ext → RowE P mem w ds t i
  | .nil, mem, b, o, _ => ⟨[], fun j v h => by simp at h, by simp [JT.ext], fun u hu => (by cases hu), fun i hi => absurd hi (by simp [JT.ext])⟩
  | .cons k kd is n s l m r, mem, b, o, h => by
    obtain ⟨hk, ⟨A, nl, cl, B, nm, cm, hr, h3, h4, h5, h6⟩, h7, hrest⟩ := h
    obtain ⟨ds, g1, g2, g3, g4⟩ := JIn.flat r mem b _ hrest
    have hl := newC_len (mem := mem) (k := k) (e := [.int .i64 kd, .bool is, .int .i64 n, strV s, .slice A nl cl, .slice B nm cm]) rfl
    refine ⟨newC mem k [.int .i64 kd, .bool is, .int .i64 n, strV s, .slice A nl cl, .slice B nm cm] ++ ds, ?_, ?_, ?_, ?_⟩
    · intro j v hj
      by_cases hlt : j < (newC mem k [.int .i64 kd, .bool is, .int .i64 n, strV s, .slice A nl cl, .slice B nm cm]).length
      · rw [List.getElem?_append_left hlt] at hj
        cases mem with
        | false => exact hr j v hj
        | true =>
          match j, hj with
          | 0, hj =>
            simp only [newC, if_true, List.getElem?_cons_zero, Option.some.injEq] at hj
            subst hj; exact hk.1
          | j + 1, hj =>
            have := hr j v (by simpa [newC] using hj)
            rw [show kwM true = 1 from rfl] at this
            rw [show o + (j + 1) = o + 1 + j by omega]
            exact this
      · rw [List.getElem?_append_right (Nat.le_of_not_lt hlt)] at hj
        have := g1 _ v hj
        rw [hl] at this hlt
        rw [show o + stM mem + (j - stM mem) = o + j by omega] at this
        exact this
    · rw [List.length_append, hl, g2]
      show _ = (r.ext + 1) * stM mem
      rw [Nat.succ_mul, Nat.add_comm]
    · intro u hu
      rcases List.mem_append.1 hu with hu | hu
      · cases mem with
        | true =>
          simp only [newC, if_true, List.mem_cons, List.not_mem_nil, or_false] at hu
          rcases hu with rfl | rfl | rfl | rfl | rfl | rfl | rfl <;> rfl
        | false =>
          simp only [newC, Bool.false_eq_true, if_false, List.mem_cons, List.not_mem_nil, or_false] at hu
          rcases hu with rfl | rfl | rfl | rfl | rfl | rfl <;> rfl
      · exact g3 u hu
    · intro i hi
      cases i with
      | zero =>
        refine ⟨?_, [.int .i64 kd, .bool is, .int .i64 n, strV s, .slice A nl cl, .slice B nm cm], fun j v hj => ?_, A, nl, cl, B, nm, cm, rfl, h3, h4, h5, h6, h7⟩
        · cases mem with
          | true => exact ⟨rfl, hk.2⟩
          | false => exact hk
        · rw [Nat.zero_mul, Nat.zero_add]
          refine getD_app_l ?_
          cases mem with
          | true => rw [show kwM true = 1 from rfl, Nat.add_comm]; exact hj
          | false => rw [show kwM false = 0 from rfl, Nat.zero_add]; exact hj
      | succ i => exact (g4 i (by simp [JT.ext] at hi; omega)).shift _ hl
theorem RowE.cs {P : Nat → Prop} {mem : Bool} {w : World} {ds cs : List Value} {t : JT} {i : Nat} (h : RowE P mem w ds t i) (hc : ∀ (x : Nat) (v : Value), ds[x]? = some v → cs[x]? = some v) : RowE P mem w cs t i := by
  obtain ⟨h1, e, h2, h3⟩ := h
  refine ⟨?_, e, fun j v hj => hc _ _ (h2 j v hj), h3⟩
  cases mem with
  | true => exact ⟨hc _ _ h1.1, h1.2⟩
  | false => exact h1
theorem RowE.stay {P Q : Nat → Prop} {mem : Bool} {w w' : World} {cs : List Value} {t : JT} {i : Nat} (h : RowE P mem w cs t i) (hP : ∀ b o, P b → w'.cell? ⟨b, o, none⟩ = w.cell? ⟨b, o, none⟩) (hPQ : ∀ b, P b → Q b) : RowE Q mem w' cs t i := by
  obtain ⟨h1, e, h2, h3⟩ := h
  exact ⟨h1, e, h2, h3.stay hP hPQ⟩
/-- A clone of a row: in a block of its own, the parts where they were. -/
def ClonePost (P : Nat → Prop) (mem : Bool) (t : JT) (n : Nat) (w : World) (e : Ending) (w' : World) : Prop :=
  (∃ (A : Option Addr) (c : Nat), e = .returned (.slice A n c) ∧ n ≤ c ∧ (t.ext = 0 ∨ ∃ g cs, A = some ⟨g, 0, none⟩ ∧ w.heap.size ≤ g ∧ Blk w' g (tyM mem) cs ∧ n * stM mem ≤ cs.length ∧
    ∀ i, i < t.ext → RowE P mem w' cs t i) ∧ ∃ ds, w'.ownsRow w.heap.size (tyM mem) (stM mem) (.slice A n c) n ds ∧ ∀ i, i < t.ext → RowE P mem w' ds t i) ∧ Below w.heap.size w w'
theorem clone_none {P : Nat → Prop} {mem : Bool} {t : JT} {w : World} (h : t.ext = 0) : ClonePost P mem t 0 w (.returned (.slice none 0 0)) w :=
  ⟨⟨none, 0, rfl, Nat.zero_le _, .inl h, [], World.ownsRow_nil _ _ _ _, fun i hi => absurd hi (by omega)⟩, Below.refl _ _⟩
theorem own_empty {base : Nat} {mem : Bool} {w : World} (hb : base ≤ w.heap.size) : (w.alloc (.cells #[] (tyM mem))).ownsRow base (tyM mem) (stM mem) (.slice (some ⟨w.heap.size, 0, none⟩) 0 0) 0 [] :=
  ⟨by simp, .inr ⟨w.heap.size, 0, #[], rfl, hb, heap_alloc_new w _, Nat.le_refl _, by decide, by simp, by simp⟩⟩
/-- 'append([]T{}, row...)'. -/
theorem wpList_clone {ops : Array Oper} {rest : List Oper} {o : Oper} {a : Act} {Q : Exit → Act → World → Prop} {w : World} (P : Nat → Prop) (hP : ∀ b, P b → b < w.heap.size) (mem : Bool) (hgd : o.guard = none) (s x : Operand)
    (ho : o.op = .call { callee := .builtin .append, args := #[s, x], argTypes := #[tsM mem, tsM mem] })
    (T : TypeId) (hT : T = tyM mem) (hs : a.eval s = .slice (some ⟨w.heap.size, 0, none⟩) 0 0) (A : Addr) (n c : Nat) (t : JT) (hx : a.eval x = .slice (some A) n c) (hn : n = t.ext) (hn6 : n ≤ 1000000) (hl : JSl P w mem (some A) t)
    (h : ∀ v' w', ClonePost P mem t n w (.returned v') w' → wpList Try.prog ops Q rest (a.put o.dst v') w') :
    wpList Try.prog ops Q (o :: rest) a (w.alloc (.cells #[] T)) := by
  subst hT
  obtain ⟨i, z, hi, hz, hsz, hby, hzs⟩ := info_row mem
  have hflat : ∃ ds, (∀ j u, ds[j]? = some u → w.cell? (A.add j) = some u) ∧ ds.length = n * stM mem ∧ (∀ u ∈ ds, u.oneCell' = true) ∧ ∀ i, i < t.ext → RowE P mem w ds t i := by
    rcases hl with ht | ⟨b, off, e, hb, hj⟩
    · subst ht
      exact ⟨[], fun j u hj => by simp at hj, by rw [hn]; simp [JT.ext], fun u hu => (by cases hu), fun i hi => absurd hi (by simp [JT.ext])⟩
    · injection e with e
      obtain ⟨ds, g1, g2, g3, g4⟩ := JIn.flat t mem b off hj
      refine ⟨ds, fun j u hju => ?_, by rw [g2, hn], g3, g4⟩
      have hplain : A.add j = ⟨b, off + j, none⟩ := by rw [e]; unfold Addr.add; split <;> simp_all
      rw [hplain]; exact g1 j u hju
  obtain ⟨ds, g1, g2, g3, g4⟩ := hflat
  have hal : Below w.heap.size w (w.alloc (.cells #[] (tyM mem))) := (Below.refl _ _).alloc (Nat.le_refl _) _
  have hbb : (0 + n) * i.bytes ≤ 140737488355328 := by
    rw [hby]
    cases mem with
    | true => simp only [if_true]; omega
    | false => simp only [Bool.false_eq_true, if_false]; omega
  refine wpList_append_own _ hgd s x (tsM mem) ho w.heap.size (tyM mem) i z (stM mem) i.bytes (under_row mem) hi hz hsz rfl hzs (by cases mem <;> decide) _ 0 [] hs (own_empty (Nat.le_refl _)) A n c ds hx g2 ?_ g3 (by rw [Nat.zero_add]; exact Nat.le_trans hn6 (by decide)) hbb (by simp) ?_
  · intro j u hj
    have h1 := g1 j u hj
    have hblk : (A.add j).block < w.heap.size := World.block_lt_of_cell? w _ h1
    exact (hal.cell (p := A.add j) hblk).trans h1
  · intro v' w' h2 h3 _
    have hb : Below w.heap.size w w' := by
      refine ⟨h3.os, h3.tape, h3.output, Nat.le_trans (by simp) h3.size, fun k hk => ?_⟩
      refine (h3.block k (by simp; omega) (fun e => ?_)).trans (heap_alloc_old w _ hk)
      simp only [Value.ownBlock, Option.some.injEq] at e
      omega
    refine h v' w' ⟨?_, hb⟩
    rw [Nat.zero_add, List.nil_append] at h2
    have hds : ∀ i, i < t.ext → RowE P mem w' ds t i := fun i hi => (g4 i hi).stay (fun b o hlt => hb.cell (p := ⟨b, o, none⟩) (hP b hlt)) (fun b hlt => hlt)
    have h2' := h2
    rcases h2.2 with ⟨rfl, hn0⟩ | ⟨g, cap, cur, rfl, hbg, hh, hnc, hmx, hcs, ht⟩
    · exact ⟨none, 0, by rw [hn0], by omega, .inl (by omega), ds, by rw [hn0] at h2' ⊢; exact h2', hds⟩
    · refine ⟨some ⟨g, 0, none⟩, cap, rfl, hnc, .inr ⟨g, cur.toList, rfl, hbg, by unfold Blk; rw [Array.toArray_toList]; exact hh, by rw [Array.length_toList, hcs]; exact Nat.mul_le_mul_right _ hnc, fun i hi => ?_⟩, ds, h2', hds⟩
      refine ((g4 i hi).cs fun k u hu => ?_).stay (fun b o hlt => hb.cell (p := ⟨b, o, none⟩) (hP b hlt)) (fun b hlt => hlt)
      rw [← ht] at hu
      simp only [List.getElem?_take] at hu
      split at hu
      · exact hu
      · cases hu
end Go.Proofs.Ytlfmknebkfnliaa
