/- Texts put together: JfA JfB JfV JfM. -/
import Derived.Test.YtajkgcmopmpihaaGreatDoorYd7ba4700c6
import Derived.Lib.SliceRun
namespace Go.Proofs.YtajkgcmopmpihaaGreatDoor
open Go.ChangeShapes Go.WideShapes Go.ChangeAt Go.RowKit Go.IntWalk
set_option linter.unusedVariables false
set_option maxRecDepth 100000
theorem newCA_len {mem : Bool} {k : List UInt8} {e : List Value} (h : e.length = 6) : (newC mem k e).length = stM mem := by
  cases mem with
  | true => simp [newC, h, stM, kwM]
  | false => simp [newC, h, stM, kwM]
theorem RowE.shift {P : Nat → Prop} {mem : Bool} {w : World} {ds : List Value} {k s : List UInt8} {kd n : Int} {is : Bool} {l m r : JT} {i : Nat} (hd : List Value) (hl : hd.length = stM mem)
    (h : RowE P mem w ds r i) : RowE P mem w (hd ++ ds) (.cons k kd is n s l m r) (i + 1) := by
  obtain ⟨h1, e, h2, h3⟩ := h
  have e1 : (i + 1) * stM mem = hd.length + i * stM mem := by rw [hl, Nat.succ_mul, Nat.add_comm]
  refine ⟨?_, e, fun j v hj => ?_, h3⟩
  · cases mem with
    | true => exact ⟨by rw [e1, getD_app_r]; exact h1.1, h1.2⟩
    | false => exact h1
  · rw [e1, Nat.add_assoc, Nat.add_assoc, getD_app_r, ← Nat.add_assoc]; exact h2 j v hj
theorem JIn.flat {P : Nat → Prop} {w : World} : ∀ (t : JT) (mem : Bool) (b o : Nat), JIn P w mem b o t →
    ∃ ds, w.rangeAt b o ds ∧ ds.length = t.ext * stM mem ∧ (∀ u ∈ ds, u.oneCell' = true) ∧ ∀ i, i < t.ext → RowE P mem w ds t i
  | .nil, mem, b, o, _ => ⟨[], fun j v h => by simp at h, by simp [JT.ext], fun u hu => (by cases hu), fun i hi => absurd hi (by simp [JT.ext])⟩
  | .cons k kd is n s l m r, mem, b, o, h => by
    obtain ⟨hk, ⟨A, nl, cl, B, nm, cm, hr, h3, h4, h5, h6⟩, h7, hrest⟩ := h
    obtain ⟨ds, g1, g2, g3, g4⟩ := JIn.flat r mem b _ hrest
    have hl := newCA_len (mem := mem) (k := k) (e := [.int .i64 kd, .bool is, .int .i64 n, strV s, .slice A nl cl, .slice B nm cm]) rfl
    refine ⟨newC mem k [.int .i64 kd, .bool is, .int .i64 n, strV s, .slice A nl cl, .slice B nm cm] ++ ds, ?_, ?_, ?_, ?_⟩
    · intro j v hj
      by_cases hlt : j < (newC mem k [.int .i64 kd, .bool is, .int .i64 n, strV s, .slice A nl cl, .slice B nm cm]).length
      · rw [List.getElem?_append_left hlt] at hj
        cases mem with
        | false => exact hr j v hj
        | true =>
          match j, hj with
          | 0, hj =>
            simp only [newC, if_true, List.getElem?_cons_zero, Option.some.injEq] at hj
            subst hj; exact hk.1
          | j + 1, hj =>
            have := hr j v (by simpa [newC] using hj)
            rw [show kwM true = 1 from rfl] at this
            rw [show o + (j + 1) = o + 1 + j by omega]
            exact this
      · rw [List.getElem?_append_right (Nat.le_of_not_lt hlt)] at hj
        have := g1 _ v hj
        rw [hl] at this hlt
        rw [show o + stM mem + (j - stM mem) = o + j by omega] at this
        exact this
    · rw [List.length_append, hl, g2]
      show _ = (r.ext + 1) * stM mem
      rw [Nat.succ_mul, Nat.add_comm]
    · intro u hu
      rcases List.mem_append.1 hu with hu | hu
      · cases mem with
        | true =>
          simp only [newC, if_true, List.mem_cons, List.not_mem_nil, or_false] at hu
          rcases hu with rfl | rfl | rfl | rfl | rfl | rfl | rfl <;> rfl
        | false =>
          simp only [newC, Bool.false_eq_true, if_false, List.mem_cons, List.not_mem_nil, or_false] at hu
          rcases hu with rfl | rfl | rfl | rfl | rfl | rfl <;> rfl
      · exact g3 u hu
    · intro i hi
      cases i with
      | zero =>
        refine ⟨?_, [.int .i64 kd, .bool is, .int .i64 n, strV s, .slice A nl cl, .slice B nm cm], fun j v hj => ?_, A, nl, cl, B, nm, cm, rfl, h3, h4, h5, h6, h7⟩
        · cases mem with
          | true => exact ⟨rfl, hk.2⟩
          | false => exact hk
        · rw [Nat.zero_mul, Nat.zero_add]
          refine getD_app_l ?_
          cases mem with
          | true => rw [show kwM true = 1 from rfl, Nat.add_comm]; exact hj
          | false => rw [show kwM false = 0 from rfl, Nat.zero_add]; exact hj
      | succ i => exact (g4 i (by simp [JT.ext] at hi; omega)).shift _ hl
theorem RowE.cs {P : Nat → Prop} {mem : Bool} {w : World} {ds cs : List Value} {t : JT} {i : Nat} (h : RowE P mem w ds t i) (hc : ∀ (x : Nat) (v : Value), ds[x]? = some v → cs[x]? = some v) : RowE P mem w cs t i := by
  obtain ⟨h1, e, h2, h3⟩ := h
  refine ⟨?_, e, fun j v hj => hc _ _ (h2 j v hj), h3⟩
  cases mem with
  | true => exact ⟨hc _ _ h1.1, h1.2⟩
  | false => exact h1
theorem RowE.stay {P Q : Nat → Prop} {mem : Bool} {w w' : World} {cs : List Value} {t : JT} {i : Nat} (h : RowE P mem w cs t i) (hP : ∀ b o, P b → w'.cell? ⟨b, o, none⟩ = w.cell? ⟨b, o, none⟩) (hPQ : ∀ b, P b → Q b) : RowE Q mem w' cs t i := by
  obtain ⟨h1, e, h2, h3⟩ := h
  exact ⟨h1, e, h2, h3.stay hP hPQ⟩
def ClonePost (P : Nat → Prop) (mem : Bool) (t : JT) (n : Nat) (w : World) (e : Ending) (w' : World) : Prop :=
  (∃ (A : Option Addr) (c : Nat), e = .returned (.slice A n c) ∧ n ≤ c ∧ (t.ext = 0 ∨ ∃ g cs, A = some ⟨g, 0, none⟩ ∧ w.heap.size ≤ g ∧ Blk w' g (tyM mem) cs ∧ n * stM mem ≤ cs.length ∧
    ∀ i, i < t.ext → RowE P mem w' cs t i) ∧ ∃ ds, w'.ownsRow w.heap.size (tyM mem) (stM mem) (.slice A n c) n ds ∧ ∀ i, i < t.ext → RowE P mem w' ds t i) ∧ Below w.heap.size w w'
theorem clone_none {P : Nat → Prop} {mem : Bool} {t : JT} {w : World} (h : t.ext = 0) : ClonePost P mem t 0 w (.returned (.slice none 0 0)) w :=
  ⟨⟨none, 0, rfl, Nat.zero_le _, .inl h, [], World.ownsRow_nil _ _ _ _, fun i hi => absurd hi (by omega)⟩, Below.refl _ _⟩
theorem own_empty {base : Nat} {mem : Bool} {w : World} (hb : base ≤ w.heap.size) : (w.alloc (.cells #[] (tyM mem))).ownsRow base (tyM mem) (stM mem) (.slice (some ⟨w.heap.size, 0, none⟩) 0 0) 0 [] :=
  ⟨by simp, .inr ⟨w.heap.size, 0, #[], rfl, hb, heap_alloc_new w _, Nat.le_refl _, by decide, by simp, by simp⟩⟩
theorem wpList_clone {ops : Array Oper} {rest : List Oper} {o : Oper} {a : Act} {Q : Exit → Act → World → Prop} {w : World} (P : Nat → Prop) (hP : ∀ b, P b → b < w.heap.size) (mem : Bool) (hgd : o.guard = none) (s x : Operand)
    (ho : o.op = .call { callee := .builtin .append, args := #[s, x], argTypes := #[tsM mem, tsM mem] })
    (T : TypeId) (hT : T = tyM mem) (hs : a.eval s = .slice (some ⟨w.heap.size, 0, none⟩) 0 0) (A : Addr) (n c : Nat) (t : JT) (hx : a.eval x = .slice (some A) n c) (hn : n = t.ext) (hn6 : n ≤ 1000000) (hl : JSl P w mem (some A) t)
    (h : ∀ v' w', ClonePost P mem t n w (.returned v') w' → wpList Tryz.prog ops Q rest (a.put o.dst v') w') :
    wpList Tryz.prog ops Q (o :: rest) a (w.alloc (.cells #[] T)) := by
  subst hT
  obtain ⟨i, z, hi, hz, hsz, hby, hzs⟩ := info_row mem
  have hflat : ∃ ds, (∀ j u, ds[j]? = some u → w.cell? (A.add j) = some u) ∧ ds.length = n * stM mem ∧ (∀ u ∈ ds, u.oneCell' = true) ∧ ∀ i, i < t.ext → RowE P mem w ds t i := by
    rcases hl with ht | ⟨b, off, e, hb, hj⟩
    · subst ht
      exact ⟨[], fun j u hj => by simp at hj, by rw [hn]; simp [JT.ext], fun u hu => (by cases hu), fun i hi => absurd hi (by simp [JT.ext])⟩
    · injection e with e
      obtain ⟨ds, g1, g2, g3, g4⟩ := JIn.flat t mem b off hj
      refine ⟨ds, fun j u hju => ?_, by rw [g2, hn], g3, g4⟩
      have hplain : A.add j = ⟨b, off + j, none⟩ := by rw [e]; unfold Addr.add; split <;> simp_all
      rw [hplain]; exact g1 j u hju
  obtain ⟨ds, g1, g2, g3, g4⟩ := hflat
  have hal : Below w.heap.size w (w.alloc (.cells #[] (tyM mem))) := (Below.refl _ _).alloc (Nat.le_refl _) _
  have hbb : (0 + n) * i.bytes ≤ 140737488355328 := by
    rw [hby]
    cases mem with
    | true => simp only [if_true]; omega
    | false => simp only [Bool.false_eq_true, if_false]; omega
  refine wpList_append_own _ hgd s x (tsM mem) ho w.heap.size (tyM mem) i z (stM mem) i.bytes (under_row mem) hi hz hsz rfl hzs (by cases mem <;> decide) _ 0 [] hs (own_empty (Nat.le_refl _)) A n c ds hx g2 ?_ g3 (by rw [Nat.zero_add]; exact Nat.le_trans hn6 (by decide)) hbb (by simp) ?_
  · intro j u hj
    have h1 := g1 j u hj
    have hblk : (A.add j).block < w.heap.size := World.block_lt_of_cell? w _ h1
    exact (hal.cell (p := A.add j) hblk).trans h1
  · intro v' w' h2 h3 _
    have hb : Below w.heap.size w w' := by
      refine ⟨h3.os, h3.tape, h3.output, Nat.le_trans (by simp) h3.size, fun k hk => ?_⟩
      refine (h3.block k (by simp; omega) (fun e => ?_)).trans (heap_alloc_old w _ hk)
      simp only [Value.ownBlock, Option.some.injEq] at e
      omega
    refine h v' w' ⟨?_, hb⟩
    rw [Nat.zero_add, List.nil_append] at h2
    have hds : ∀ i, i < t.ext → RowE P mem w' ds t i := fun i hi => (g4 i hi).stay (fun b o hlt => hb.cell (p := ⟨b, o, none⟩) (hP b hlt)) (fun b hlt => hlt)
    have h2' := h2
    rcases h2.2 with ⟨rfl, hn0⟩ | ⟨g, cap, cur, rfl, hbg, hh, hnc, hmx, hcs, ht⟩
    · exact ⟨none, 0, by rw [hn0], by omega, .inl (by omega), ds, by rw [hn0] at h2' ⊢; exact h2', hds⟩
    · refine ⟨some ⟨g, 0, none⟩, cap, rfl, hnc, .inr ⟨g, cur.toList, rfl, hbg, by unfold Blk; rw [Array.toArray_toList]; exact hh, by rw [Array.length_toList, hcs]; exact Nat.mul_le_mul_right _ hnc, fun i hi => ?_⟩, ds, h2', hds⟩
      refine ((g4 i hi).cs fun k u hu => ?_).stay (fun b o hlt => hb.cell (p := ⟨b, o, none⟩) (hP b hlt)) (fun b hlt => hlt)
      rw [← ht] at hu
      simp only [List.getElem?_take] at hu
      split at hu
      · exact hu
      · cases hu
end Go.Proofs.YtajkgcmopmpihaaGreatDoor
namespace Go.Proofs.YtajkgcmopmpihaaGreatDoor
open Go.ChangeShapes Go.WideShapes Go.ChangeAt Go.RowKit Go.IntWalk
set_option linter.unusedVariables false
set_option maxRecDepth 100000
structure Bx (B pc : Nat) (w w' : World) : Prop where
  os : w'.os = w.os
  tape : w'.tape = w.tape
  output : w'.output = w.output
  size : w.heap.size ≤ w'.heap.size
  block : ∀ k, k < B → k ≠ pc → w'.heap[k]? = w.heap[k]?
section
variable {B pc g : Nat} {a b c w w' : World} {T : TypeId} {cs : List Value}
theorem Bx.refl (B pc : Nat) (w : World) : Bx B pc w w := ⟨rfl, rfl, rfl, Nat.le_refl _, fun _ _ _ => rfl⟩
theorem Bx.trans (h : Bx B pc a b) (k : Bx B pc b c) : Bx B pc a c := ⟨k.os.trans h.os, k.tape.trans h.tape, k.output.trans h.output, Nat.le_trans h.size k.size, fun i hi hn => (k.block i hi hn).trans (h.block i hi hn)⟩
theorem Bx.mono {B' : Nat} (h : Bx B pc w w') (hB : B' ≤ B) : Bx B' pc w w' := ⟨h.os, h.tape, h.output, h.size, fun k hk => h.block k (Nat.lt_of_lt_of_le hk hB)⟩
theorem Bx.of (h : Below B w w') : Bx B pc w w' := ⟨h.os, h.tape, h.output, h.size, fun k hk _ => h.block k hk⟩
theorem Bx.drew (h : Bx B pc a w) : Bx B pc a w.drew := ⟨h.os, h.tape, h.output, h.size, h.block⟩
theorem Bx.drewN (h : Bx B pc a w) (n : Nat) : Bx B pc a (w.drewN n) := h.trans (Bx.of ((Below.refl _ _).drewN n))
theorem Bx.alloc (h : Bx B pc a w) (hB : B ≤ w.heap.size) (o : Obj) : Bx B pc a (w.alloc o) := h.trans (Bx.of ((Below.refl _ _).alloc hB o))
theorem Bx.then_ (h : Bx a.heap.size pc a b) (k : Bx b.heap.size pc b c) : Bx a.heap.size pc a c := h.trans (k.mono h.size)
theorem Bx.thenB (h : Bx a.heap.size pc a b) (k : Below b.heap.size b c) : Bx a.heap.size pc a c := h.then_ (Bx.of k)
theorem Bx.setCell (h : Bx B pc a w) {g k : Nat} (hg : B ≤ g ∨ g = pc) (v : Value) : Bx B pc a (w.setCell ⟨g, k, none⟩ v) :=
  h.trans ⟨rfl, rfl, rfl, by simp [World.setCell], fun i hi hn => Deep.blk_setCell_other _ _ _ _ (by rcases hg with h | h <;> (show i ≠ g; omega))⟩
theorem Bx.cell (h : Bx B pc w w') {b o : Nat} (hb : b < B) (hn : b ≠ pc) : w'.cell? ⟨b, o, none⟩ = w.cell? ⟨b, o, none⟩ := World.cell?_of_block (w := w) (h.block b hb hn)
theorem Bx.blk (h : Bx B pc w w') (hb : Blk w g T cs) (hg : g < B) (hn : g ≠ pc) : Blk w' g T cs := (h.block g hg hn).trans hb
end
theorem JSl.bx {B pc : Nat} {w w' : World} {mem : Bool} {A : Option Addr} {t : JT} {P : Nat → Prop} (h : JSl P w mem A t) (b : Bx B pc w w') (hP : ∀ k, P k → k < B ∧ k ≠ pc) : JSl P w' mem A t :=
  h.stay (fun k o hk => b.cell (hP k hk).1 (hP k hk).2) (fun _ h => h)
def RowM (base lo : Nat) (mem : Bool) (w : World) (A : Option Addr) (n : Nat) (t : JT) (k : Nat) : Prop :=
  t.ext = 0 ∨ ∃ g cs, A = some ⟨g, 0, none⟩ ∧ lo ≤ g ∧ Blk w g (tyM mem) cs ∧ n * stM mem ≤ cs.length ∧
    (∀ i, i < k → RowE (fun b => lo ≤ b ∧ b < w.heap.size ∧ b ≠ g) mem w cs t i) ∧ ∀ i, k ≤ i → i < t.ext → RowE (· < base) mem w cs t i
section
variable {base lo n k : Nat} {mem : Bool} {w w' : World} {A : Option Addr} {t : JT}
theorem RowM.of_clone {w0 : World} (h : t.ext = 0 ∨ ∃ g cs, A = some ⟨g, 0, none⟩ ∧ w0.heap.size ≤ g ∧ Blk w g (tyM mem) cs ∧ n * stM mem ≤ cs.length ∧ ∀ i, i < t.ext → RowE (· < base) mem w cs t i)
    (hlo : lo ≤ w0.heap.size) : RowM base lo mem w A n t 0 := by
  rcases h with h | ⟨g, cs, h1, h2, h3, h4, h5⟩
  · exact .inl h
  · exact .inr ⟨g, cs, h1, Nat.le_trans hlo h2, h3, h4, fun i hi => absurd hi (Nat.not_lt_zero i), fun i _ hi => h5 i hi⟩
theorem RowM.bx {B pc : Nat} (h : RowM base lo mem w A n t k) (b : Bx B pc w w') (hB : w.heap.size ≤ B) (hp : pc < lo) (hbp : base ≤ pc) (hbB : base ≤ B) : RowM base lo mem w' A n t k := by
  rcases h with h | ⟨g, cs, h1, h2, h3, h4, h5, h6⟩
  · exact .inl h
  · have hg := h3.lt
    refine .inr ⟨g, cs, h1, h2, b.blk h3 (by omega) (by omega), h4, fun i hi => (h5 i hi).stay (fun q o hq => b.cell (by have := hq.2.1; omega) (by have := hq.1; omega)) (fun q hq => ⟨hq.1, Nat.lt_of_lt_of_le hq.2.1 b.size, hq.2.2⟩), fun i hk hi => (h6 i hk hi).stay (fun q o hq => b.cell (by omega) (by omega)) (fun _ h => h)⟩
theorem RowM.set {g2 o : Nat} {v : Value} (h : RowM base lo mem w A n t k) (h1 : base ≤ g2) (h2 : g2 < lo) : RowM base lo mem (w.setCell ⟨g2, o, none⟩ v) A n t k := by
  rcases h with h | ⟨g, cs, e1, e2, e3, e4, e5, e6⟩
  · exact .inl h
  · have hc : ∀ q r, q ≠ g2 → (w.setCell ⟨g2, o, none⟩ v).cell? ⟨q, r, none⟩ = w.cell? ⟨q, r, none⟩ := fun q r hq => World.cell?_of_block (w := w) (Deep.blk_setCell_other _ _ _ _ hq)
    exact .inr ⟨g, cs, e1, e2, (Deep.blk_setCell_other _ _ _ _ (show g ≠ g2 by omega)).trans e3, e4, fun i hi => (e5 i hi).stay (fun q r hq => hc q r (by have := hq.1; omega)) (fun q hq => ⟨hq.1, by simpa [World.setCell] using hq.2.1, hq.2.2⟩), fun i hk hi => (e6 i hk hi).stay (fun q r hq => hc q r (by omega)) (fun _ h => h)⟩
theorem RowM.done (h : RowM base lo mem w A n t t.ext) : JSl (fun b => lo ≤ b ∧ b < w.heap.size) w mem A t := by
  rcases h with h | ⟨g, cs, h1, h2, h3, h4, h5, _⟩
  · refine .inl ?_
    cases t with
    | nil => rfl
    | cons => simp [JT.ext] at h
  · refine .inr ⟨g, 0, h1, ⟨h2, h3.lt⟩, JIn.of t mem g 0 (fun i hi => ?_)⟩
    obtain ⟨e1, e, e2, e3⟩ := h5 i hi
    refine ⟨?_, e, fun j v hj => ?_, e3.stay (fun _ _ _ => rfl) (fun b hb => ⟨hb.1, hb.2.1⟩)⟩
    · cases mem with
      | true => exact ⟨by rw [Nat.zero_add]; exact h3.cell e1.1, e1.2⟩
      | false => exact e1
    · rw [Nat.zero_add]; exact h3.cell (e2 j v hj)
end
def set6o (w : World) (g o : Nat) (x0 x1 x2 x3 x4 x5 : Value) : World := (((((w.setCell ⟨g, o, none⟩ x0).setCell ⟨g, o + 1, none⟩ x1).setCell ⟨g, o + 2, none⟩ x2).setCell ⟨g, o + 3, none⟩ x3).setCell ⟨g, o + 4, none⟩ x4).setCell ⟨g, o + 5, none⟩ x5
def put6 (cs : List Value) (o : Nat) (x0 x1 x2 x3 x4 x5 : Value) : List Value := (((((cs.set o x0).set (o + 1) x1).set (o + 2) x2).set (o + 3) x3).set (o + 4) x4).set (o + 5) x5
section
variable {w : World} {g o : Nat} {T : TypeId} {cs : List Value} {x0 x1 x2 x3 x4 x5 : Value}
theorem blk6o (h : Blk w g T cs) : Blk (set6o w g o x0 x1 x2 x3 x4 x5) g T (put6 cs o x0 x1 x2 x3 x4 x5) := (((((h.set_ _ _).set_ _ _).set_ _ _).set_ _ _).set_ _ _).set_ _ _
theorem size6o : (set6o w g o x0 x1 x2 x3 x4 x5).heap.size = w.heap.size := by simp [set6o, World.setCell]
theorem cell6o {b q : Nat} (h : b ≠ g) : (set6o w g o x0 x1 x2 x3 x4 x5).cell? ⟨b, q, none⟩ = w.cell? ⟨b, q, none⟩ := by
  have hs : ∀ (w : World) (k : Nat) (v : Value), (w.setCell ⟨g, k, none⟩ v).cell? ⟨b, q, none⟩ = w.cell? ⟨b, q, none⟩ := fun w k v => World.cell?_of_block (w := w) (Deep.blk_setCell_other _ _ _ _ h)
  unfold set6o
  rw [hs, hs, hs, hs, hs, hs]
theorem far6o {g2 : Nat} {T2 : TypeId} {ds : List Value} (h : Blk w g2 T2 ds) (hn : g2 ≠ g) : Blk (set6o w g o x0 x1 x2 x3 x4 x5) g2 T2 ds := by
  have hs : ∀ (w : World) (k : Nat) (v : Value), (w.setCell ⟨g, k, none⟩ v).heap[g2]? = w.heap[g2]? := fun w k v => Deep.blk_setCell_other _ _ _ _ hn
  unfold set6o Blk
  rw [hs, hs, hs, hs, hs, hs]
  exact h
theorem bx6o {B pc : Nat} {a : World} (h : Bx B pc a w) (hg : B ≤ g ∨ g = pc) : Bx B pc a (set6o w g o x0 x1 x2 x3 x4 x5) := (((((h.setCell hg _).setCell hg _).setCell hg _).setCell hg _).setCell hg _).setCell hg _
theorem put6_len : (put6 cs o x0 x1 x2 x3 x4 x5).length = cs.length := by simp [put6]
theorem put6_out {q : Nat} (h : q < o ∨ o + 6 ≤ q) : (put6 cs o x0 x1 x2 x3 x4 x5)[q]? = cs[q]? := by
  unfold put6
  rw [List.getElem?_set_ne (by omega), List.getElem?_set_ne (by omega), List.getElem?_set_ne (by omega), List.getElem?_set_ne (by omega), List.getElem?_set_ne (by omega), List.getElem?_set_ne (by omega)]
theorem put6_in (h : o + 6 ≤ cs.length) {j : Nat} {v : Value} (hj : [x0, x1, x2, x3, x4, x5][j]? = some v) : (put6 cs o x0 x1 x2 x3 x4 x5)[o + j]? = some v := by
  unfold put6
  match j, hj with
  | 0, hj => simp at hj; subst hj; rw [List.getElem?_set_ne (by omega), List.getElem?_set_ne (by omega), List.getElem?_set_ne (by omega), List.getElem?_set_ne (by omega), List.getElem?_set_ne (by omega), Nat.add_zero, List.getElem?_set_self (by omega)]
  | 1, hj => simp at hj; subst hj; rw [List.getElem?_set_ne (by omega), List.getElem?_set_ne (by omega), List.getElem?_set_ne (by omega), List.getElem?_set_ne (by omega), List.getElem?_set_self (by simp; omega)]
  | 2, hj => simp at hj; subst hj; rw [List.getElem?_set_ne (by omega), List.getElem?_set_ne (by omega), List.getElem?_set_ne (by omega), List.getElem?_set_self (by simp; omega)]
  | 3, hj => simp at hj; subst hj; rw [List.getElem?_set_ne (by omega), List.getElem?_set_ne (by omega), List.getElem?_set_self (by simp; omega)]
  | 4, hj => simp at hj; subst hj; rw [List.getElem?_set_ne (by omega), List.getElem?_set_self (by simp; omega)]
  | 5, hj => simp at hj; subst hj; rw [List.getElem?_set_self (by simp; omega)]
end
theorem RowE.six {P : Nat → Prop} {mem : Bool} {w : World} {cs : List Value} {t : JT} {i : Nat} (h : RowE P mem w cs t i) :
    (if mem then cs[i * stM mem]? = some (strV (t.fall i).key) ∧ (t.fall i).key.length ≤ 140737488355328 else (t.fall i).key = []) ∧
    ∃ A nl cl B nm cm, (∀ j v, ([.int .i64 (t.fall i).val.kd, .bool (t.fall i).val.is, .int .i64 (t.fall i).val.n, strV (t.fall i).val.s, .slice A nl cl, .slice B nm cm] : List Value)[j]? = some v → cs[i * stM mem + kwM mem + j]? = some v) ∧
      Room nl cl (t.fall i).val.l.ext ∧ Room nm cm (t.fall i).val.m.ext ∧ JSl P w false A (t.fall i).val.l ∧ JSl P w true B (t.fall i).val.m ∧ Fit (t.fall i).val.kd (t.fall i).val.n (t.fall i).val.s := by
  obtain ⟨h1, e, h2, A, nl, cl, B, nm, cm, rfl, h3, h4, h5, h6, h7⟩ := h
  exact ⟨h1, A, nl, cl, B, nm, cm, h2, h3, h4, h5, h6, h7⟩
theorem RowM.step {base lo n k : Nat} {mem : Bool} {w : World} {t : JT} {g H : Nat} {cs : List Value} {A1 B1 : Option Addr} {nl1 cl1 nm1 cm1 : Nat}
    (h2 : lo ≤ g) (h3 : Blk w g (tyM mem) cs) (h4 : n * stM mem ≤ cs.length) (h5 : ∀ i, i < k → RowE (fun b => lo ≤ b ∧ b < w.heap.size ∧ b ≠ g) mem w cs t i) (h6 : ∀ i, k ≤ i → i < t.ext → RowE (· < base) mem w cs t i)
    (hk : k < n) (hn : n = t.ext) (hbl : base ≤ lo) (hH : lo ≤ H) (hg : g < H) (hv : VNew H w (t.fall k).val A1 B1 nl1 cl1 nm1 cm1) :
    RowM base lo mem (set6o w g (k * stM mem + kwM mem) (.int .i64 (t.fall k).val.kd) (.bool (t.fall k).val.is) (.int .i64 (t.fall k).val.n) (strV (t.fall k).val.s) (.slice A1 nl1 cl1) (.slice B1 nm1 cm1)) (some ⟨g, 0, none⟩) n t (k + 1) := by
  have hst : stM mem = kwM mem + 6 := by cases mem <;> rfl
  have hkn : k * stM mem + stM mem ≤ n * stM mem := by rw [← Nat.succ_mul]; exact Nat.mul_le_mul_right _ hk
  have hout : ∀ i x v, i ≠ k → x < stM mem → cs[i * stM mem + x]? = some v → (put6 cs (k * stM mem + kwM mem) (.int .i64 (t.fall k).val.kd) (.bool (t.fall k).val.is) (.int .i64 (t.fall k).val.n) (strV (t.fall k).val.s) (.slice A1 nl1 cl1) (.slice B1 nm1 cm1))[i * stM mem + x]? = some v := by
    intro i x v hi hx hc
    rw [put6_out]
    · exact hc
    · rcases Nat.lt_or_gt_of_ne hi with h | h
      · left
        have : i * stM mem + stM mem ≤ k * stM mem := by rw [← Nat.succ_mul]; exact Nat.mul_le_mul_right _ h
        omega
      · right
        have : k * stM mem + stM mem ≤ i * stM mem := by rw [← Nat.succ_mul]; exact Nat.mul_le_mul_right _ h
        omega
  have hE : ∀ {P : Nat → Prop} i, i ≠ k → RowE P mem w cs t i → RowE P mem w (put6 cs (k * stM mem + kwM mem) (.int .i64 (t.fall k).val.kd) (.bool (t.fall k).val.is) (.int .i64 (t.fall k).val.n) (strV (t.fall k).val.s) (.slice A1 nl1 cl1) (.slice B1 nm1 cm1)) t i := by
    intro P i hi h
    obtain ⟨e1, A, nl, cl, B, nm, cm, e2, e3, e4, e5, e6, e7⟩ := h.six
    refine ⟨?_, [.int .i64 (t.fall i).val.kd, .bool (t.fall i).val.is, .int .i64 (t.fall i).val.n, strV (t.fall i).val.s, .slice A nl cl, .slice B nm cm], fun j v hj => ?_, A, nl, cl, B, nm, cm, rfl, e3, e4, e5, e6, e7⟩
    · cases mem with
      | true => exact ⟨by have := hout i 0 _ hi (by decide) (by rw [Nat.add_zero]; exact e1.1); rw [Nat.add_zero] at this; exact this, e1.2⟩
      | false => exact e1
    · have hj6 : j < 6 := (List.getElem?_eq_some_iff.1 hj).1
      rw [Nat.add_assoc]
      exact hout i _ v hi (by omega) (by rw [← Nat.add_assoc]; exact e2 j v hj)
  have hkx := h6 k (Nat.le_refl _) (by omega)
  refine .inr ⟨g, _, rfl, h2, blk6o h3, by rw [put6_len]; exact h4, fun i hi => ?_, fun i hi hx => ?_⟩
  · rcases Nat.lt_succ_iff_lt_or_eq.1 hi with hi | rfl
    · exact (hE i (by omega) (h5 i hi)).stay (fun b o hb => cell6o hb.2.2) (fun b hb => ⟨hb.1, by rw [size6o]; exact hb.2.1, hb.2.2⟩)
    · refine ⟨?_, [.int .i64 (t.fall i).val.kd, .bool (t.fall i).val.is, .int .i64 (t.fall i).val.n, strV (t.fall i).val.s, .slice A1 nl1 cl1, .slice B1 nm1 cm1], fun j v hj => put6_in (by omega) hj, A1, nl1, cl1, B1, nm1, cm1, rfl, hv.1, hv.2.1, ?_, ?_, hv.2.2.2.2⟩
      · obtain ⟨e1, _⟩ := hkx
        cases mem with
        | true => exact ⟨by rw [put6_out (by left; show i * stM true < i * stM true + 1; omega)]; exact e1.1, e1.2⟩
        | false => exact e1
      · exact hv.2.2.1.stay (fun b o hb => cell6o (by have := hb.1; omega)) (fun b hb => ⟨Nat.le_trans hH hb.1, by rw [size6o]; exact hb.2, by have := hb.1; omega⟩)
      · exact hv.2.2.2.1.stay (fun b o hb => cell6o (by have := hb.1; omega)) (fun b hb => ⟨Nat.le_trans hH hb.1, by rw [size6o]; exact hb.2, by have := hb.1; omega⟩)
  · exact (hE i (by omega) (h6 i (by omega) hx)).stay (fun b o hb => cell6o (by omega)) (fun b hb => hb)
end Go.Proofs.YtajkgcmopmpihaaGreatDoor
namespace Go.Proofs.YtajkgcmopmpihaaGreatDoor
open Go.ChangeShapes Go.WideShapes Go.ChangeAt Go.RowKit Go.IntWalk
set_option linter.unusedVariables false
set_option maxHeartbeats 4000000 in
theorem cloneV_calls (P : Nat → Prop) (A : Option Addr) (n c : Nat) (t : JT) (w : World) (hP : ∀ b, P b → b < w.heap.size) (hn : n = t.ext) (hn6 : n ≤ 1000000) (hs : JSl P w false A t) :
    Calls Tryz.prog 29 #[.slice A n c] w (ClonePost P false t n w) := by
  have HN := Lib.hid (And.intro hn (And.intro hn6 hs))
  have HP := Lib.hid hP
  cases A with
  | none =>
    have ht : t.ext = 0 := by
      rcases hs with h | ⟨b, o, e, _⟩
      · rw [h]; rfl
      · cases e
    have HT := Lib.hid ht
    obtain rfl : n = 0 := by omega
    have he : ∀ W, (binOp .eql 22 (.slice none 0 c) (.slice none 0 0)).run Tryz.prog W = .ok (.bool true) W := fun W => Lib.run_eql_slice_nil W _ _ none 0 c 0 0 Tryz.underlying22
    clear ht hn hn6 hs hP
    go_enter Tryz.func29, Tryz.ntmps29
    go_wp2_with fail
    go_ret
    exact clone_none HT.out
  | some A =>
    have he : ∀ W, (binOp .eql 22 (.slice (some A) n c) (.slice none 0 0)).run Tryz.prog W = .ok (.bool false) W := fun W => Lib.run_eql_slice_nil W _ _ (some A) n c 0 0 Tryz.underlying22
    clear hn hn6 hs hP
    go_enter Tryz.func29, Tryz.ntmps29
    go_wp2_with (at_builtin; refine wpList_clone P HP.out false rfl _ _ rfl _ rfl rfl A n c t rfl HN.out.1 HN.out.2.1 HN.out.2.2 ?_; intro v2 w5 h5)
    have H5 := Lib.hid h5
    clear h5
    go_wp2_with fail
    go_ret
    exact H5.out
end Go.Proofs.YtajkgcmopmpihaaGreatDoor
namespace Go.Proofs.YtajkgcmopmpihaaGreatDoor
open Go.ChangeShapes Go.WideShapes Go.ChangeAt Go.RowKit Go.IntWalk
set_option linter.unusedVariables false
set_option maxHeartbeats 4000000 in
theorem cloneM_calls (P : Nat → Prop) (A : Option Addr) (n c : Nat) (t : JT) (w : World) (hP : ∀ b, P b → b < w.heap.size) (hn : n = t.ext) (hn6 : n ≤ 1000000) (hs : JSl P w true A t) :
    Calls Tryz.prog 31 #[.slice A n c] w (ClonePost P true t n w) := by
  have HN := Lib.hid (And.intro hn (And.intro hn6 hs))
  have HP := Lib.hid hP
  cases A with
  | none =>
    have ht : t.ext = 0 := by
      rcases hs with h | ⟨b, o, e, _⟩
      · rw [h]; rfl
      · cases e
    have HT := Lib.hid ht
    obtain rfl : n = 0 := by omega
    have he : ∀ W, (binOp .eql 23 (.slice none 0 c) (.slice none 0 0)).run Tryz.prog W = .ok (.bool true) W := fun W => Lib.run_eql_slice_nil W _ _ none 0 c 0 0 Tryz.underlying23
    clear ht hn hn6 hs hP
    go_enter Tryz.func31, Tryz.ntmps31
    go_wp2_with fail
    go_ret
    exact clone_none HT.out
  | some A =>
    have he : ∀ W, (binOp .eql 23 (.slice (some A) n c) (.slice none 0 0)).run Tryz.prog W = .ok (.bool false) W := fun W => Lib.run_eql_slice_nil W _ _ (some A) n c 0 0 Tryz.underlying23
    clear hn hn6 hs hP
    go_enter Tryz.func31, Tryz.ntmps31
    go_wp2_with (at_builtin; refine wpList_clone P HP.out true rfl _ _ rfl _ rfl rfl A n c t rfl HN.out.1 HN.out.2.1 HN.out.2.2 ?_; intro v2 w5 h5)
    have H5 := Lib.hid h5
    clear h5
    go_wp2_with fail
    go_ret
    exact H5.out
end Go.Proofs.YtajkgcmopmpihaaGreatDoor
