/- Rows of the call's own, of elements of one cell, of any type; slices of such that are read. No function is named. -/
import Derived.Test.YtajkgcmopmpihaaDoorBk
import Derived.Deep.AppendLies
namespace Go.Proofs.YtajkgcmopmpihaaDoor
open Go.ChangeShapes Go.WideShapes Go.ChangeAt Go.RowKit Go.IntWalk
set_option linter.unusedVariables false

/-- The slice at 'A' reads vs. -/
def RV (w : World) (A : Option Addr) (vs : List Value) : Prop :=
  ∀ (k : Nat) (v : Value), vs[k]? = some v → ∃ b off, A = some ⟨b, off, none⟩ ∧ b < w.heap.size ∧ w.cell? ⟨b, off + k, none⟩ = some v
/-- The value 'v' is a slice of the call's own that reads vs. -/
def OwnVs (base : Nat) (E : TypeId) (w : World) (v : Value) (vs : List Value) : Prop := w.ownsRow base E 1 v vs.length vs
section
variable {w w' W : World} {A : Option Addr} {vs l : List Value} {base B : Nat} {E : TypeId} {v : Value}
theorem RV.below (h : RV w A vs) (hb : Below w.heap.size w w') : RV w' A vs := by
  intro k u hu
  obtain ⟨b, off, rfl, hlt, hc⟩ := h k u hu
  exact ⟨b, off, rfl, by have := hb.size; omega, (hb.cell (p := ⟨b, off + k, none⟩) hlt).trans hc⟩
theorem RV.drewN (h : RV w A vs) (n : Nat) : RV (w.drewN n) A vs := h
theorem RV.drew (h : RV w A vs) : RV w.drew A vs := h
theorem RV.nil (w : World) (A : Option Addr) : RV w A [] := fun k v h => by simp at h
theorem RV.alloc (h : RV w A vs) (o : Obj) : RV (w.alloc o) A vs := h.below ((Below.refl _ _).alloc (Nat.le_refl _) _)
/-- A row that has turned is not the one that is read. -/
theorem RV.kept (h : RV w A vs) {row : Option Nat} (hg : w.grownBy w' row) (hne : ∀ b o, A = some ⟨b, o, none⟩ → some b ≠ row) : RV w' A vs := by
  intro k u hu
  obtain ⟨b, off, rfl, hlt, hc⟩ := h k u hu
  exact ⟨b, off, rfl, Nat.lt_of_lt_of_le hlt hg.size, (hg.cell_far ⟨b, off + k, none⟩ hlt (hne b off rfl)).trans hc⟩
theorem RV.at_ (h : RV w A vs) {k : Nat} {u : Value} (hu : vs[k]? = some u) : ∃ b off, A = some ⟨b, off, none⟩ ∧ b < w.heap.size ∧ w.cell? ⟨b, off + k, none⟩ = some u := h k u hu
/-- The whole place, told once. -/
theorem RV.some (h : RV w A vs) (h0 : 0 < vs.length) : ∃ b off, A = .some ⟨b, off, none⟩ ∧ b < w.heap.size ∧ ∀ (k : Nat) (u : Value), vs[k]? = .some u → w.cell? ⟨b, off + k, none⟩ = .some u := by
  obtain ⟨b, off, rfl, hlt, _⟩ := h 0 _ (List.getElem?_eq_getElem h0)
  refine ⟨b, off, rfl, hlt, fun k u hu => ?_⟩
  obtain ⟨b2, o2, he, _, hc⟩ := h k u hu
  injection he with he; injection he with h1 h2
  subst h1; subst h2; exact hc
theorem RV.of_blk {g : Nat} {T : TypeId} {cs : List Value} (h : Blk w g T cs) : RV w (.some ⟨g, 0, none⟩) cs :=
  fun k u hu => ⟨g, 0, rfl, h.lt, by rw [Nat.zero_add]; exact h.cell hu⟩
theorem RV.of_blkAt {g : Nat} {T : TypeId} {cs : List Value} (h : Blk w g T cs) (o n : Nat) : RV w (.some ⟨g, o, none⟩) ((cs.drop o).take n) :=
  fun k u hu => ⟨g, o, rfl, h.lt, h.rngAt o n k u hu⟩
theorem RV.take (h : RV w A vs) (n : Nat) : RV w A (vs.take n) := fun k u hu => h k u (by
  rw [List.getElem?_take] at hu
  split at hu
  · exact hu
  · cases hu)
theorem RV.cut (h : RV w A vs) (k cap : Nat) (hk : k ≤ vs.length) (hc : vs.length ≤ cap) : RV w (if cap = k then A else A.map (·.add k)) (vs.drop k) := by
  intro j u hu
  rw [List.getElem?_drop] at hu
  have hj : k + j < vs.length := (List.getElem?_eq_some_iff.1 hu).1
  obtain ⟨b, off, rfl, hlt, hcell⟩ := h (k + j) u hu
  rw [if_neg (by omega)]
  exact ⟨b, off + k, by simp [Addr.add], hlt, by rw [Nat.add_assoc]; exact hcell⟩
theorem OwnVs.lt (h : OwnVs base E w v vs) : ∀ k, v.ownBlock = .some k → base ≤ k ∧ k < w.heap.size := World.ownsRow.lt h
theorem OwnVs.kept {row : Option Nat} (h : OwnVs base E w v vs) (hg : w.grownBy w' row) (hne : v.ownBlock = none ∨ v.ownBlock ≠ row) : OwnVs base E w' v vs := World.ownsRow.kept h hg hne
theorem OwnVs.below (h : OwnVs base E w v vs) (hg : Below B w w') (hB : w.heap.size ≤ B) : OwnVs base E w' v vs := by
  refine ⟨h.1, ?_⟩
  rcases h.2 with h2 | ⟨g, cap, cur, hv, hb, hh, r⟩
  · exact .inl h2
  · exact .inr ⟨g, cap, cur, hv, hb, by rw [hg.block g (by have := (Array.getElem?_eq_some_iff.1 hh).1; omega)]; exact hh, r⟩
theorem OwnVs.drewN (h : OwnVs base E w v vs) (n : Nat) : OwnVs base E (w.drewN n) v vs := h
theorem OwnVs.alloc (h : OwnVs base E w v vs) (o : Obj) : OwnVs base E (w.alloc o) v vs := World.ownsRow.alloc h o
theorem OwnVs.nil (base : Nat) (E : TypeId) (w : World) : OwnVs base E w (.slice none 0 0) [] := World.ownsRow_nil w base _ 1
theorem OwnVs.form (h : OwnVs base E w v vs) : ∃ A n cap, v = .slice A n cap ∧ RV w A vs ∧ Hid (n = vs.length) ∧ n ≤ cap := by
  rcases h.2 with ⟨rfl, h0⟩ | ⟨g, cap, cur, rfl, hb, hh, hn, hm, hs, ht⟩
  · refine ⟨none, 0, 0, rfl, fun k u hu => ?_, h0.symm, Nat.le_refl _⟩
    have := (List.getElem?_eq_some_iff.1 hu).1; omega
  · refine ⟨_, _, cap, rfl, fun k u hu => ⟨g, 0, rfl, (Array.getElem?_eq_some_iff.1 hh).1, ?_⟩, (rfl : _ = _), hn⟩
    rw [Nat.zero_add, cell_of_row _ _ _ _ _ _ hh]
    rw [← ht] at hu
    simp only [Nat.mul_one, List.getElem?_take] at hu
    split at hu
    · simpa using hu
    · cases hu
/-- A whole block, as a slice. -/
theorem OwnVs.of_blk {g n : Nat} {cs : List Value} (h : Blk w g E cs) (hb : base ≤ g) (hn : cs.length = n) (hm : n ≤ maxLen) : OwnVs base E w (.slice (.some ⟨g, 0, none⟩) n n) cs := by
  subst hn
  exact ⟨by simp, .inr ⟨g, _, _, rfl, hb, h, Nat.le_refl _, hm, by simp, List.take_of_length_le (by simp)⟩⟩
end
theorem run_append_noneV (w : World) (base : Nat) (S E : TypeId) {z : Value} {bytes : Nat} (hS : Tryd.prog.underlying S = some (.slice E)) (hE : (Tryd.prog.info? E).map (fun i => (i.zero, i.size, i.bytes)) = some (some z, 1, bytes)) (ty : TypeId) (v : Value) (vs : List Value) (hown : OwnVs base E w v vs) (c : Nat) :
    (Builtin.append_ #[S, S] ty #[v, .slice none 0 c]).run Tryd.prog w = .ok v w := by
  obtain ⟨i0, hi, hz0, hz1, hz2⟩ := info_parts hE
  rcases hown.2 with ⟨rfl, _⟩ | ⟨g, cap, cur, rfl, _, _, hnc, _⟩
  · simp [Builtin.append_, run_underlying hS, sizeOf, typeInfo, hi, Builtin.lenOf, Builtin.firstCells]
  · simp [Builtin.append_, run_underlying hS, sizeOf, typeInfo, hi, Builtin.lenOf, Builtin.firstCells, hnc, storeCells]
/-- 'append(own, other...)'. -/
theorem wpList_append_vs {ops : Array Oper} {rest : List Oper} {o : Oper} {a : Act} {Q : Exit → Act → World → Prop} {w : World} (hgd : o.guard = none) (s x : Operand) (S E : TypeId) {z : Value} {bytes : Nat}
    (hS : Tryd.prog.underlying S = some (.slice E)) (hE : (Tryd.prog.info? E).map (fun i => (i.zero, i.size, i.bytes)) = some (some z, 1, bytes)) (hzc : z.cells.size = 1)
    (ho : o.op = .call { callee := .builtin .append, args := #[s, x], argTypes := #[S, S] })
    (base : Nat) (v : Value) (vs : List Value) (hs : a.eval s = v) (hown : OwnVs base E w v vs) (A : Option Addr) (n c : Nat) (l : List Value)
    (hx : a.eval x = .slice A n c) (hl : RV w A l) (hn : Hid (n = l.length)) (h1 : ∀ u ∈ l, u.oneCell' = true) (h63 : vs.length + n ≤ maxLen) (hlen : (vs.length + n) * bytes ≤ 140737488355328) (hbase : base ≤ w.heap.size)
    (h : ∀ v' w', OwnVs base E w' v' (vs ++ l) → w.grownBy w' v.ownBlock → wpList Tryd.prog ops Q rest (a.put o.dst v') w') :
    wpList Tryd.prog ops Q (o :: rest) a w := by
  obtain ⟨i0, hi, hz0, hz1, hz2⟩ := info_parts hE
  have hn := hn.out
  subst hn
  cases A with
  | none =>
    have hb : l = [] := by
      cases l with
      | nil => rfl
      | cons y l => obtain ⟨b, off, h1, _⟩ := hl 0 y (by simp); cases h1
    subst hb
    refine wpList_plain hgd fun K hK => ?_
    have hrun := run_append_noneV w base S E hS hE o.type v vs hown c
    unfold Oper.wp
    simp [execOp, ho, resolve, invoke, builtin, hs, hx, hrun, Result.andThen]
    exact hK _ _ (h v w (by simpa using hown) ⟨rfl, rfl, rfl, Nat.le_refl _, fun _ _ _ => rfl⟩)
  | some ad =>
    refine wpList_append_own _ hgd s x S ho base E i0 z 1 bytes hS hi hz0 hz1 hz2 hzc (by decide) v _ _ hs hown ad l.length c l hx (by simp) ?_ h1 h63 hlen hbase ?_
    · intro j u hj
      obtain ⟨b, off, h1, _, h3⟩ := hl j u hj
      cases h1
      have hplain : (⟨b, off, none⟩ : Addr).add j = ⟨b, off + j, none⟩ := by unfold Addr.add; split <;> simp_all
      rw [hplain, h3]
    · intro v' w' h1 h2 _
      exact h v' w' (by simpa [OwnVs] using h1) h2
/-- 'append(own, a, b, ..)': values that are written out lie in the last block. -/
theorem wpList_append_lits {ops : Array Oper} {rest : List Oper} {o : Oper} {a : Act} {Q : Exit → Act → World → Prop} {w : World} (hgd : o.guard = none) (s x : Operand) (S E : TypeId) {z : Value} {bytes : Nat}
    (hS : Tryd.prog.underlying S = some (.slice E)) (hE : (Tryd.prog.info? E).map (fun i => (i.zero, i.size, i.bytes)) = some (some z, 1, bytes)) (hzc : z.cells.size = 1)
    (ho : o.op = .call { callee := .builtin .append, args := #[s, x], argTypes := #[S, S] })
    (base : Nat) (v : Value) (vs : List Value) (hs : a.eval s = v) (hown : OwnVs base E w v vs) (l : List Value) (T : TypeId) (C : Array Value) (hC : C = l.toArray) (n : Nat)
    (hx : a.eval x = .slice (some ⟨w.heap.size, 0, none⟩) n n) (hn : Hid (n = l.length)) (h1 : ∀ u ∈ l, u.oneCell' = true) (h63 : vs.length + n ≤ maxLen) (hlen : (vs.length + n) * bytes ≤ 140737488355328) (hbase : base ≤ w.heap.size)
    (h : ∀ v' w', OwnVs base E w' v' (vs ++ l) → w.grownBy w' v.ownBlock → wpList Tryd.prog ops Q rest (a.put o.dst v') w') :
    wpList Tryd.prog ops Q (o :: rest) a (w.alloc (.cells C T)) := by
  subst hC
  refine wpList_append_vs hgd s x S E hS hE hzc ho base v vs hs (hown.alloc _) _ n n l hx (RV.of_blk (Blk.new w l T)) hn h1 h63 hlen (by simp; omega) ?_
  intro v' w' h1 h2
  exact h v' w' h1 ⟨h2.os, h2.tape, h2.output, Nat.le_trans (by simp) h2.size, fun k hk hne => (h2.block k (by simp; omega) hne).trans (heap_alloc_old w _ hk)⟩
end Go.Proofs.YtajkgcmopmpihaaDoor
