/- Blocks of cells that are known whole; no function is named. -/
import Derived.Test.YtajkgcmopmpihaaDoorAid
import Derived.Deep.MidRow
import Derived.Laws.CopyOwn
import Derived.Maps.AppendAt
import Derived.Deep.AppendLies
namespace Go.Proofs.YtajkgcmopmpihaaDoor
open Go.ChangeShapes Go.WideShapes Go.ChangeAt Go.RowKit Go.IntWalk
set_option linter.unusedVariables false

/-- The block g has just these cells, none frozen. -/
def Blk (w : World) (g : Nat) (T : TypeId) (cs : List Value) : Prop := w.heap[g]? = some (.cells cs.toArray T (0, 0))
section
variable {w w1 W : World} {g g2 k : Nat} {T : TypeId} {cs : List Value}
theorem Blk.lt (h : Blk w g T cs) : g < w.heap.size := (Array.getElem?_eq_some_iff.1 h).1
theorem Blk.cell (h : Blk w g T cs) {v : Value} (hk : cs[k]? = some v) : w.cell? ⟨g, k, none⟩ = some v := by
  unfold Blk at h
  rw [cell_of_row _ _ _ _ _ _ h]; simp [hk]
theorem Blk.frozen (h : Blk w g T cs) (k : Nat) : w.frozen? ⟨g, k, none⟩ = false := by
  unfold Blk at h; simp [World.frozen?, h]
theorem Blk.new (w : World) (cs : List Value) (T : TypeId) : Blk (w.alloc (.cells cs.toArray T)) w.heap.size T cs := heap_alloc_new w _
theorem Blk.alloc (h : Blk w g T cs) (o : Obj) : Blk (w.alloc o) g T cs := (heap_alloc_old w _ h.lt).trans h
theorem Blk.drewN (h : Blk w g T cs) (n : Nat) : Blk (w.drewN n) g T cs := h
theorem Blk.drew (h : Blk w g T cs) : Blk w.drew g T cs := h
theorem Blk.later (h : Blk w g T cs) (b : Below w.heap.size w w1) : Blk w1 g T cs := (b.block g h.lt).trans h
theorem Blk.below {B : Nat} (h : Blk w g T cs) (b : Below B w w1) (hg : g < B) : Blk w1 g T cs := (b.block g hg).trans h
theorem Blk.set_ (h : Blk w g T cs) (k : Nat) (v : Value) : Blk (w.setCell ⟨g, k, none⟩ v) g T (cs.set k v) := by
  unfold Blk at h ⊢
  simp [World.setCell, Array.getElem?_modify, h]
theorem Blk.other (h : Blk w g T cs) (hne : g2 ≠ g) (v : Value) : Blk (w.setCell ⟨g2, k, none⟩ v) g T cs := by
  unfold Blk at h ⊢
  simp [World.setCell, Array.getElem?_modify, h, hne]
theorem Blk.rng (h : Blk w g T cs) : w.rangeAt g 0 cs := by
  intro j v hv
  rw [Nat.zero_add]; exact h.cell hv
theorem Blk.rngAt (h : Blk w g T cs) (o n : Nat) : w.rangeAt g o ((cs.drop o).take n) := by
  intro j v hv
  refine h.cell ?_
  rw [List.getElem?_take] at hv
  split at hv
  · rw [List.getElem?_drop] at hv; exact hv
  · cases hv
theorem Blk.thereAt (h : Blk w g T cs) {o n : Nat} (hn : o + n ≤ cs.length) : w.there g o n := by
  intro j hj
  exact ⟨by rw [h.cell (List.getElem?_eq_getElem (show o + j < cs.length by omega))]; rfl, h.frozen _⟩
theorem Blk.there (h : Blk w g T cs) {n : Nat} (hn : n = cs.length) : w.there g 0 n := h.thereAt (by omega)
end
theorem oneInts (k : IntKind) (ds : List Int) : (ds.map (Value.int k)).toArray.all (·.oneCell') = true := by
  apply all_oneCell_toArray
  intro v hv
  obtain ⟨y, _, rfl⟩ := List.mem_map.1 hv
  rfl
theorem blkSetCells {g : Nat} {T : TypeId} {fr : Nat × Nat} : ∀ (vs : List Value) (o : Nat) (W : World) (cs : List Value), W.heap[g]? = some (.cells cs.toArray T fr) → o + vs.length ≤ cs.length →
    (W.setCells g o vs).heap[g]? = some (.cells (cs.take o ++ vs ++ cs.drop (o + vs.length)).toArray T fr)
  | [], o, W, cs, h, _ => by simpa [World.setCells] using h
  | v :: vs, o, W, cs, h, hl => by
    have hlt : o < cs.length := by simp at hl; omega
    have h1 : (W.setCell ⟨g, o, none⟩ v).heap[g]? = some (.cells (cs.set o v).toArray T fr) := by
      simp [World.setCell, Array.getElem?_modify, h]
    have h2 := blkSetCells vs (o + 1) (W.setCell ⟨g, o, none⟩ v) (cs.set o v) h1 (by simp at hl ⊢; omega)
    have hto : (cs.take o).length = o := by simp; omega
    have e : ((cs.set o v).take (o + 1) ++ vs ++ (cs.set o v).drop (o + 1 + vs.length)) = cs.take o ++ (v :: vs) ++ cs.drop (o + (v :: vs).length) := by
      have d1 : (cs.take o).take (o + 1) = cs.take o := List.take_of_length_le (by omega)
      have d2 : (cs.take o).drop (o + 1 + vs.length) = [] := List.drop_of_length_le (by omega)
      rw [List.set_eq_take_append_cons_drop, if_pos hlt, List.take_append, List.drop_append, hto, d1, d2, show o + 1 - o = 1 by omega, show o + 1 + vs.length - o = vs.length + 1 by omega]
      simp [Nat.add_comm, Nat.add_left_comm]
    rw [e] at h2
    exact h2
theorem blkOther {g g2 : Nat} (hne : g2 ≠ g) : ∀ (vs : List Value) (o : Nat) (W : World), (W.setCells g2 o vs).heap[g]? = W.heap[g]?
  | [], o, W => rfl
  | v :: vs, o, W => by
    have h := blkOther hne vs (o + 1) (W.setCell ⟨g2, o, none⟩ v)
    have h2 : (W.setCell ⟨g2, o, none⟩ v).heap[g]? = W.heap[g]? := by simp [World.setCell, Array.getElem?_modify, hne]
    exact h.trans h2
section
variable {W : World} {g g2 : Nat} {T : TypeId} {cs vs : List Value}
/-- Cells stored one behind the other. -/
theorem Blk.setAt (h : Blk W g T cs) {o : Nat} (hl : o + vs.length ≤ cs.length) : Blk (W.setCells g o vs) g T (cs.take o ++ vs ++ cs.drop (o + vs.length)) := blkSetCells vs o W cs h hl
theorem Blk.setAll (h : Blk W g T cs) (hl : vs.length = cs.length) : Blk (W.setCells g 0 vs) g T vs := by
  have := blkSetCells vs 0 W cs h (by omega)
  rw [List.take_zero, List.nil_append, show 0 + vs.length = cs.length by omega, List.drop_length, List.append_nil] at this
  exact this
theorem Blk.setFar (h : Blk W g T cs) (hne : g2 ≠ g) (o : Nat) (vs : List Value) : Blk (W.setCells g2 o vs) g T cs := (blkOther hne vs o W).trans h
end
theorem blw_cells {B b : Nat} {a : World} (hb : B ≤ b) : ∀ (vs : List Value) (o : Nat) (w : World), Below B a w → Below B a (w.setCells b o vs)
  | [], _, _, h => h
  | v :: vs, o, w, h => blw_cells hb vs (o + 1) _ (h.setCell hb v)
theorem res_cell {fn : Func} {p : Tmp} {ty : TypeId} (h : fn.results = #[.cell p ty]) (tmps : Array Value) (a : Addr) (v : Value) (W : World) (hp : tmps.getD p undef = .pointer (some a)) (hld : (loadVar ty a).run Tryd.prog W = .ok v W) : (results fn tmps).run Tryd.prog W = .ok v W := by
  simp only [results, h]
  simp only [Array.getD_eq_getD_getElem?] at hp
  simp [hp, asAddr, hld]
/-- What a whole block reads as. -/
theorem Blk.load {w : World} {g : Nat} {T : TypeId} {cs : List Value} (h : Blk w g T cs) (ty : TypeId) {d : TypeDesc} (hu : Tryd.prog.underlying ty = some d) (hd : d.isRow = true) (hi : (Tryd.prog.info? ty).map (·.size) = some cs.length) :
    (loadVar ty ⟨g, 0, none⟩).run Tryd.prog w = .ok (.agg cs.toArray) w := run_loadVar_mid _ _ _ _ cs _ h.rng hu hd hi
/-- The world under a name of its own. -/
theorem wp_gen {P : Program} {c : Code} {Q : Exit → Act → World → Prop} {a : Act} {W : World} (R : World → Prop) (h : R W) (hk : ∀ W1, R W1 → Code.wp P c Q a W1) : Code.wp P c Q a W := hk W h
theorem wpList_gen {P : Program} {ops : Array Oper} {l : List Oper} {Q : Exit → Act → World → Prop} {a : Act} {W : World} (R : World → Prop) (h : R W) (hk : ∀ W1, R W1 → wpList P ops Q l a W1) : wpList P ops Q l a W := hk W h
theorem alloc1 (w : World) (c1 : List Value) (T1 : TypeId) : Blk (w.alloc (.cells c1.toArray T1)) w.heap.size T1 c1 ∧ Below w.heap.size w (w.alloc (.cells c1.toArray T1)) :=
  ⟨Blk.new _ _ _, (Below.refl _ _).alloc (Nat.le_refl _) _⟩
theorem alloc2 (w : World) (c1 c2 : List Value) (T1 T2 : TypeId) : Blk ((w.alloc (.cells c1.toArray T1)).alloc (.cells c2.toArray T2)) w.heap.size T1 c1 ∧
    Blk ((w.alloc (.cells c1.toArray T1)).alloc (.cells c2.toArray T2)) (w.heap.size + 1) T2 c2 ∧ Below w.heap.size w ((w.alloc (.cells c1.toArray T1)).alloc (.cells c2.toArray T2)) := by
  refine ⟨(Blk.new _ _ _).alloc _, ?_, ((Below.refl _ _).alloc (Nat.le_refl _) _).alloc (by simp) _⟩
  have := Blk.new (w.alloc (.cells c1.toArray T1)) c2 T2
  simpa using this
theorem alloc3 (w : World) (c1 c2 c3 : List Value) (T1 T2 T3 : TypeId) : Blk (((w.alloc (.cells c1.toArray T1)).alloc (.cells c2.toArray T2)).alloc (.cells c3.toArray T3)) w.heap.size T1 c1 ∧
    Blk (((w.alloc (.cells c1.toArray T1)).alloc (.cells c2.toArray T2)).alloc (.cells c3.toArray T3)) (w.heap.size + 1) T2 c2 ∧
    Blk (((w.alloc (.cells c1.toArray T1)).alloc (.cells c2.toArray T2)).alloc (.cells c3.toArray T3)) (w.heap.size + 1 + 1) T3 c3 ∧
    Below w.heap.size w (((w.alloc (.cells c1.toArray T1)).alloc (.cells c2.toArray T2)).alloc (.cells c3.toArray T3)) := by
  obtain ⟨h1, h2, h3⟩ := alloc2 w c1 c2 T1 T2
  refine ⟨h1.alloc _, h2.alloc _, ?_, h3.alloc h3.size _⟩
  have := Blk.new ((w.alloc (.cells c1.toArray T1)).alloc (.cells c2.toArray T2)) c3 T3
  simpa using this
/-- The zero of a type, out of the program's table. -/
theorem run_zero {P : Program} {ty : TypeId} {z : Value} (h : (P.info? ty).map (·.zero) = some (some z)) (w : World) : (zeroValue ty).run P w = .ok z w := by
  obtain ⟨i, hi, hz⟩ := Option.map_eq_some_iff.1 h
  simp [zeroValue, typeInfo, hi, hz, go_sem, Result.andThen]
/-! Worlds in which one block alone has turned. -/
theorem gb_setCell (w : World) (g k : Nat) (v : Value) : w.grownBy (w.setCell ⟨g, k, none⟩ v) (some g) :=
  ⟨rfl, rfl, rfl, by simp [World.setCell], fun i _ hne => by simp [World.setCell, Array.getElem?_modify]; intro e; subst e; simp at hne⟩
theorem gb_setCells (g : Nat) : ∀ (vs : List Value) (o : Nat) (w : World), w.grownBy (w.setCells g o vs) (some g)
  | [], _, w => World.grownBy.refl _ _
  | v :: vs, o, w => (gb_setCell w g o v).trans (gb_setCells g vs (o + 1) _)
theorem gb_setRow (w : World) (g : Nat) (cs : Array Value) : w.grownBy (w.setRow g cs) (some g) :=
  ⟨rfl, rfl, rfl, by simp [World.setRow], fun i _ hne => setRow_other w g i cs (by intro e; subst e; simp at hne)⟩
theorem gb_below {w w1 : World} {row : Option Nat} (b : Below w.heap.size w w1) : w.grownBy w1 row := ⟨b.os, b.tape, b.output, b.size, fun i hi _ => b.block i hi⟩
theorem gb_drewN (w : World) (n : Nat) (row : Option Nat) : w.grownBy (w.drewN n) row := ⟨rfl, rfl, rfl, Nat.le_refl _, fun _ _ _ => rfl⟩
theorem Blk.kept {w w1 : World} {x g : Nat} {T : TypeId} {cs : List Value} (h : Blk w x T cs) (hg : w.grownBy w1 (some g)) (hne : x ≠ g) : Blk w1 x T cs :=
  (hg.block x h.lt (by simp; omega)).trans h
theorem RB.kept {w w1 : World} {g : Nat} {A : Option Addr} {bs : List UInt8} (h : RB w A bs) (hg : w.grownBy w1 (some g)) (hap : ∀ b o, A = some ⟨b, o, none⟩ → b ≠ g) : RB w1 A bs := by
  intro k hk
  obtain ⟨b, off, rfl, hlt, hc⟩ := h k hk
  exact ⟨b, off, rfl, Nat.lt_of_lt_of_le hlt hg.size, (hg.cell_far ⟨b, off + k, none⟩ hlt (by simp; exact hap b off rfl)).trans hc⟩
theorem _root_.Go.RowKit.Below.gb {B g : Nat} {a w w1 : World} (h : Below B a w) (hg : w.grownBy w1 (some g)) (hB : B ≤ g) (hw : B ≤ w.heap.size) : Below B a w1 :=
  ⟨hg.os.trans h.os, hg.tape.trans h.tape, hg.output.trans h.output, Nat.le_trans h.size hg.size, fun k hk => (hg.block k (by omega) (by simp; omega)).trans (h.block k hk)⟩
theorem Blk.setRow {w : World} {g : Nat} {T : TypeId} {cs : List Value} (h : Blk w g T cs) (ds : List Value) : Blk (w.setRow g ds.toArray) g T ds := setRow_heap w g _ _ T _ h
theorem bcellB {W w1 : World} (hb : Below W.heap.size W w1) : (∀ b o, b < W.heap.size → w1.cell? ⟨b, o, none⟩ = W.cell? ⟨b, o, none⟩) ∧ (∀ b o, b < W.heap.size → w1.frozen? ⟨b, o, none⟩ = W.frozen? ⟨b, o, none⟩) :=
  ⟨fun b o h => hb.cell (p := ⟨b, o, none⟩) h, fun b o h => hb.frozen (p := ⟨b, o, none⟩) h⟩
end Go.Proofs.YtajkgcmopmpihaaDoor
