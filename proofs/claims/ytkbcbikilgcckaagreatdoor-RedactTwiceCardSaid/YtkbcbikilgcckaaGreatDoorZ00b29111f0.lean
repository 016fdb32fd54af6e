/- Texts put together: JfB JfV JfM JvS6. -/
import Derived.Test.YtkbcbikilgcckaaGreatDoorZ3b60d505ed
import Derived.Test.YtkbcbikilgcckaaGreatDoorZe0ec6b32e3
namespace Go.Proofs.YtkbcbikilgcckaaGreatDoor
open Go.ChangeShapes Go.WideShapes Go.ChangeAt Go.RowKit Go.IntWalk
set_option linter.unusedVariables false
set_option maxRecDepth 100000

/-- Below block B all is as it was but block pc. -/
structure Bx (B pc : Nat) (w w' : World) : Prop where
  os : w'.os = w.os
  tape : w'.tape = w.tape
  output : w'.output = w.output
  size : w.heap.size ≤ w'.heap.size
  block : ∀ k, k < B → k ≠ pc → w'.heap[k]? = w.heap[k]?
section
variable {B pc g : Nat} {a b c w w' : World} {T : TypeId} {cs : List Value}
theorem Bx.refl (B pc : Nat) (w : World) : Bx B pc w w := ⟨rfl, rfl, rfl, Nat.le_refl _, fun _ _ _ => rfl⟩
theorem Bx.trans (h : Bx B pc a b) (k : Bx B pc b c) : Bx B pc a c := ⟨k.os.trans h.os, k.tape.trans h.tape, k.output.trans h.output, Nat.le_trans h.size k.size, fun i hi hn => (k.block i hi hn).trans (h.block i hi hn)⟩
theorem Bx.mono {B' : Nat} (h : Bx B pc w w') (hB : B' ≤ B) : Bx B' pc w w' := ⟨h.os, h.tape, h.output, h.size, fun k hk => h.block k (Nat.lt_of_lt_of_le hk hB)⟩
theorem Bx.of (h : Below B w w') : Bx B pc w w' := ⟨h.os, h.tape, h.output, h.size, fun k hk _ => h.block k hk⟩
theorem Bx.drew (h : Bx B pc a w) : Bx B pc a w.drew := ⟨h.os, h.tape, h.output, h.size, h.block⟩
theorem Bx.drewN (h : Bx B pc a w) (n : Nat) : Bx B pc a (w.drewN n) := h.trans (Bx.of ((Below.refl _ _).drewN n))
theorem Bx.alloc (h : Bx B pc a w) (hB : B ≤ w.heap.size) (o : Obj) : Bx B pc a (w.alloc o) := h.trans (Bx.of ((Below.refl _ _).alloc hB o))
theorem Bx.then_ (h : Bx a.heap.size pc a b) (k : Bx b.heap.size pc b c) : Bx a.heap.size pc a c := h.trans (k.mono h.size)
theorem Bx.thenB (h : Bx a.heap.size pc a b) (k : Below b.heap.size b c) : Bx a.heap.size pc a c := h.then_ (Bx.of k)
theorem Bx.setCell (h : Bx B pc a w) {g k : Nat} (hg : B ≤ g ∨ g = pc) (v : Value) : Bx B pc a (w.setCell ⟨g, k, none⟩ v) :=
  h.trans ⟨rfl, rfl, rfl, by simp [World.setCell], fun i hi hn => Deep.blk_setCell_other _ _ _ _ (by rcases hg with h | h <;> (show i ≠ g; omega))⟩
theorem Bx.cell (h : Bx B pc w w') {b o : Nat} (hb : b < B) (hn : b ≠ pc) : w'.cell? ⟨b, o, none⟩ = w.cell? ⟨b, o, none⟩ := World.cell?_of_block (w := w) (h.block b hb hn)
theorem Bx.blk (h : Bx B pc w w') (hb : Blk w g T cs) (hg : g < B) (hn : g ≠ pc) : Blk w' g T cs := (h.block g hg hn).trans hb
end
theorem JSl.bx {B pc : Nat} {w w' : World} {mem : Bool} {A : Option Addr} {t : JT} {P : Nat → Prop} (h : JSl P w mem A t) (b : Bx B pc w w') (hP : ∀ k, P k → k < B ∧ k ≠ pc) : JSl P w' mem A t :=
  h.stay (fun k o hk => b.cell (hP k hk).1 (hP k hk).2) (fun _ h => h)
/-- A row in a block of the call's own: the first k new, the others as they were. -/
def RowM (base lo : Nat) (mem : Bool) (w : World) (A : Option Addr) (n : Nat) (t : JT) (k : Nat) : Prop :=
  t.ext = 0 ∨ ∃ g cs, A = some ⟨g, 0, none⟩ ∧ lo ≤ g ∧ Blk w g (tyM mem) cs ∧ n * stM mem ≤ cs.length ∧
    (∀ i, i < k → RowE (fun b => lo ≤ b ∧ b < w.heap.size ∧ b ≠ g) mem w cs t i) ∧ ∀ i, k ≤ i → i < t.ext → RowE (· < base) mem w cs t i
section
variable {base lo n k : Nat} {mem : Bool} {w w' : World} {A : Option Addr} {t : JT}
theorem RowM.of_clone {w0 : World} (h : t.ext = 0 ∨ ∃ g cs, A = some ⟨g, 0, none⟩ ∧ w0.heap.size ≤ g ∧ Blk w g (tyM mem) cs ∧ n * stM mem ≤ cs.length ∧ ∀ i, i < t.ext → RowE (· < base) mem w cs t i)
    (hlo : lo ≤ w0.heap.size) : RowM base lo mem w A n t 0 := by
  rcases h with h | ⟨g, cs, h1, h2, h3, h4, h5⟩
  · exact .inl h
  · exact .inr ⟨g, cs, h1, Nat.le_trans hlo h2, h3, h4, fun i hi => absurd hi (Nat.not_lt_zero i), fun i _ hi => h5 i hi⟩
theorem RowM.bx {B pc : Nat} (h : RowM base lo mem w A n t k) (b : Bx B pc w w') (hB : w.heap.size ≤ B) (hp : pc < lo) (hbp : base ≤ pc) (hbB : base ≤ B) : RowM base lo mem w' A n t k := by
  rcases h with h | ⟨g, cs, h1, h2, h3, h4, h5, h6⟩
  · exact .inl h
  · have hg := h3.lt
    refine .inr ⟨g, cs, h1, h2, b.blk h3 (by omega) (by omega), h4, fun i hi => (h5 i hi).stay (fun q o hq => b.cell (by have := hq.2.1; omega) (by have := hq.1; omega)) (fun q hq => ⟨hq.1, Nat.lt_of_lt_of_le hq.2.1 b.size, hq.2.2⟩), fun i hk hi => (h6 i hk hi).stay (fun q o hq => b.cell (by omega) (by omega)) (fun _ h => h)⟩
/-- The row's block lies apart from what is stored elsewhere. -/
theorem RowM.set {g2 o : Nat} {v : Value} (h : RowM base lo mem w A n t k) (h1 : base ≤ g2) (h2 : g2 < lo) : RowM base lo mem (w.setCell ⟨g2, o, none⟩ v) A n t k := by
  rcases h with h | ⟨g, cs, e1, e2, e3, e4, e5, e6⟩
  · exact .inl h
  · have hc : ∀ q r, q ≠ g2 → (w.setCell ⟨g2, o, none⟩ v).cell? ⟨q, r, none⟩ = w.cell? ⟨q, r, none⟩ := fun q r hq => World.cell?_of_block (w := w) (Deep.blk_setCell_other _ _ _ _ hq)
    exact .inr ⟨g, cs, e1, e2, (Deep.blk_setCell_other _ _ _ _ (show g ≠ g2 by omega)).trans e3, e4, fun i hi => (e5 i hi).stay (fun q r hq => hc q r (by have := hq.1; omega)) (fun q hq => ⟨hq.1, by simpa [World.setCell] using hq.2.1, hq.2.2⟩), fun i hk hi => (e6 i hk hi).stay (fun q r hq => hc q r (by omega)) (fun _ h => h)⟩
/-- All are new. -/
theorem RowM.done (h : RowM base lo mem w A n t t.ext) : JSl (fun b => lo ≤ b ∧ b < w.heap.size) w mem A t := by
  rcases h with h | ⟨g, cs, h1, h2, h3, h4, h5, _⟩
  · refine .inl ?_
    cases t with
    | nil => rfl
    | cons => simp [JT.ext] at h
  · refine .inr ⟨g, 0, h1, ⟨h2, h3.lt⟩, JIn.of t mem g 0 (fun i hi => ?_)⟩
    obtain ⟨e1, e, e2, e3⟩ := h5 i hi
    refine ⟨?_, e, fun j v hj => ?_, e3.stay (fun _ _ _ => rfl) (fun b hb => ⟨hb.1, hb.2.1⟩)⟩
    · cases mem with
      | true => exact ⟨by rw [Nat.zero_add]; exact h3.cell e1.1, e1.2⟩
      | false => exact e1
    · rw [Nat.zero_add]; exact h3.cell (e2 j v hj)
end
/-- Six cells stored into block g from o on. -/
def set6o (w : World) (g o : Nat) (x0 x1 x2 x3 x4 x5 : Value) : World := (((((w.setCell ⟨g, o, none⟩ x0).setCell ⟨g, o + 1, none⟩ x1).setCell ⟨g, o + 2, none⟩ x2).setCell ⟨g, o + 3, none⟩ x3).setCell ⟨g, o + 4, none⟩ x4).setCell ⟨g, o + 5, none⟩ x5
def put6 (cs : List Value) (o : Nat) (x0 x1 x2 x3 x4 x5 : Value) : List Value := (((((cs.set o x0).set (o + 1) x1).set (o + 2) x2).set (o + 3) x3).set (o + 4) x4).set (o + 5) x5
section
variable {w : World} {g o : Nat} {T : TypeId} {cs : List Value} {x0 x1 x2 x3 x4 x5 : Value}
theorem blk6o (h : Blk w g T cs) : Blk (set6o w g o x0 x1 x2 x3 x4 x5) g T (put6 cs o x0 x1 x2 x3 x4 x5) := (((((h.set_ _ _).set_ _ _).set_ _ _).set_ _ _).set_ _ _).set_ _ _
theorem size6o : (set6o w g o x0 x1 x2 x3 x4 x5).heap.size = w.heap.size := by simp [set6o, World.setCell]
theorem cell6o {b q : Nat} (h : b ≠ g) : (set6o w g o x0 x1 x2 x3 x4 x5).cell? ⟨b, q, none⟩ = w.cell? ⟨b, q, none⟩ := by
  have hs : ∀ (w : World) (k : Nat) (v : Value), (w.setCell ⟨g, k, none⟩ v).cell? ⟨b, q, none⟩ = w.cell? ⟨b, q, none⟩ := fun w k v => World.cell?_of_block (w := w) (Deep.blk_setCell_other _ _ _ _ h)
  unfold set6o
  rw [hs, hs, hs, hs, hs, hs]
theorem far6o {g2 : Nat} {T2 : TypeId} {ds : List Value} (h : Blk w g2 T2 ds) (hn : g2 ≠ g) : Blk (set6o w g o x0 x1 x2 x3 x4 x5) g2 T2 ds := by
  have hs : ∀ (w : World) (k : Nat) (v : Value), (w.setCell ⟨g, k, none⟩ v).heap[g2]? = w.heap[g2]? := fun w k v => Deep.blk_setCell_other _ _ _ _ hn
  unfold set6o Blk
  rw [hs, hs, hs, hs, hs, hs]
  exact h
theorem bx6o {B pc : Nat} {a : World} (h : Bx B pc a w) (hg : B ≤ g ∨ g = pc) : Bx B pc a (set6o w g o x0 x1 x2 x3 x4 x5) := (((((h.setCell hg _).setCell hg _).setCell hg _).setCell hg _).setCell hg _).setCell hg _
theorem put6_len : (put6 cs o x0 x1 x2 x3 x4 x5).length = cs.length := by simp [put6]
theorem put6_out {q : Nat} (h : q < o ∨ o + 6 ≤ q) : (put6 cs o x0 x1 x2 x3 x4 x5)[q]? = cs[q]? := by
  unfold put6
  rw [List.getElem?_set_ne (by omega), List.getElem?_set_ne (by omega), List.getElem?_set_ne (by omega), List.getElem?_set_ne (by omega), List.getElem?_set_ne (by omega), List.getElem?_set_ne (by omega)]
theorem put6_in (h : o + 6 ≤ cs.length) {j : Nat} {v : Value} (hj : [x0, x1, x2, x3, x4, x5][j]? = some v) : (put6 cs o x0 x1 x2 x3 x4 x5)[o + j]? = some v := by
  unfold put6
  match j, hj with
  | 0, hj => simp at hj; subst hj; rw [List.getElem?_set_ne (by omega), List.getElem?_set_ne (by omega), List.getElem?_set_ne (by omega), List.getElem?_set_ne (by omega), List.getElem?_set_ne (by omega), Nat.add_zero, List.getElem?_set_self (by omega)]
  | 1, hj => simp at hj; subst hj; rw [List.getElem?_set_ne (by omega), List.getElem?_set_ne (by omega), List.getElem?_set_ne (by omega), List.getElem?_set_ne (by omega), List.getElem?_set_self (by simp; omega)]
  | 2, hj => simp at hj; subst hj; rw [List.getElem?_set_ne (by omega), List.getElem?_set_ne (by omega), List.getElem?_set_ne (by omega), List.getElem?_set_self (by simp; omega)]
  | 3, hj => simp at hj; subst hj; rw [List.getElem?_set_ne (by omega), List.getElem?_set_ne (by omega), List.getElem?_set_self (by simp; omega)]
  | 4, hj => simp at hj; subst hj; rw [List.getElem?_set_ne (by omega), List.getElem?_set_self (by simp; omega)]
  | 5, hj => simp at hj; subst hj; rw [List.getElem?_set_self (by simp; omega)]
end
theorem RowE.six {P : Nat → Prop} {mem : Bool} {w : World} {cs : List Value} {t : JT} {i : Nat} (h : RowE P mem w cs t i) :
    (if mem then cs[i * stM mem]? = some (strV (t.fall i).key) ∧ (t.fall i).key.length ≤ 140737488355328 else (t.fall i).key = []) ∧
    ∃ A nl cl B nm cm, (∀ j v, ([.int .i64 (t.fall i).val.kd, .bool (t.fall i).val.is, .int .i64 (t.fall i).val.n, strV (t.fall i).val.s, .slice A nl cl, .slice B nm cm] : List Value)[j]? = some v → cs[i * stM mem + kwM mem + j]? = some v) ∧
      Room nl cl (t.fall i).val.l.ext ∧ Room nm cm (t.fall i).val.m.ext ∧ JSl P w false A (t.fall i).val.l ∧ JSl P w true B (t.fall i).val.m ∧ Fit (t.fall i).val.kd (t.fall i).val.n (t.fall i).val.s := by
  obtain ⟨h1, e, h2, A, nl, cl, B, nm, cm, rfl, h3, h4, h5, h6, h7⟩ := h
  exact ⟨h1, A, nl, cl, B, nm, cm, h2, h3, h4, h5, h6, h7⟩
/-- The next one is new. -/
theorem RowM.step {base lo n k : Nat} {mem : Bool} {w : World} {t : JT} {g H : Nat} {cs : List Value} {A1 B1 : Option Addr} {nl1 cl1 nm1 cm1 : Nat}
    (h2 : lo ≤ g) (h3 : Blk w g (tyM mem) cs) (h4 : n * stM mem ≤ cs.length) (h5 : ∀ i, i < k → RowE (fun b => lo ≤ b ∧ b < w.heap.size ∧ b ≠ g) mem w cs t i) (h6 : ∀ i, k ≤ i → i < t.ext → RowE (· < base) mem w cs t i)
    (hk : k < n) (hn : n = t.ext) (hbl : base ≤ lo) (hH : lo ≤ H) (hg : g < H) (hv : VNew H w (t.fall k).val A1 B1 nl1 cl1 nm1 cm1) :
    RowM base lo mem (set6o w g (k * stM mem + kwM mem) (.int .i64 (t.fall k).val.kd) (.bool (t.fall k).val.is) (.int .i64 (t.fall k).val.n) (strV (t.fall k).val.s) (.slice A1 nl1 cl1) (.slice B1 nm1 cm1)) (some ⟨g, 0, none⟩) n t (k + 1) := by
  have hst : stM mem = kwM mem + 6 := by cases mem <;> rfl
  have hkn : k * stM mem + stM mem ≤ n * stM mem := by rw [← Nat.succ_mul]; exact Nat.mul_le_mul_right _ hk
  have hout : ∀ i x v, i ≠ k → x < stM mem → cs[i * stM mem + x]? = some v → (put6 cs (k * stM mem + kwM mem) (.int .i64 (t.fall k).val.kd) (.bool (t.fall k).val.is) (.int .i64 (t.fall k).val.n) (strV (t.fall k).val.s) (.slice A1 nl1 cl1) (.slice B1 nm1 cm1))[i * stM mem + x]? = some v := by
    intro i x v hi hx hc
    rw [put6_out]
    · exact hc
    · rcases Nat.lt_or_gt_of_ne hi with h | h
      · left
        have : i * stM mem + stM mem ≤ k * stM mem := by rw [← Nat.succ_mul]; exact Nat.mul_le_mul_right _ h
        omega
      · right
        have : k * stM mem + stM mem ≤ i * stM mem := by rw [← Nat.succ_mul]; exact Nat.mul_le_mul_right _ h
        omega
  have hE : ∀ {P : Nat → Prop} i, i ≠ k → RowE P mem w cs t i → RowE P mem w (put6 cs (k * stM mem + kwM mem) (.int .i64 (t.fall k).val.kd) (.bool (t.fall k).val.is) (.int .i64 (t.fall k).val.n) (strV (t.fall k).val.s) (.slice A1 nl1 cl1) (.slice B1 nm1 cm1)) t i := by
    intro P i hi h
    obtain ⟨e1, A, nl, cl, B, nm, cm, e2, e3, e4, e5, e6, e7⟩ := h.six
    refine ⟨?_, [.int .i64 (t.fall i).val.kd, .bool (t.fall i).val.is, .int .i64 (t.fall i).val.n, strV (t.fall i).val.s, .slice A nl cl, .slice B nm cm], fun j v hj => ?_, A, nl, cl, B, nm, cm, rfl, e3, e4, e5, e6, e7⟩
    · cases mem with
      | true => exact ⟨by have := hout i 0 _ hi (by decide) (by rw [Nat.add_zero]; exact e1.1); rw [Nat.add_zero] at this; exact this, e1.2⟩
      | false => exact e1
    · have hj6 : j < 6 := (List.getElem?_eq_some_iff.1 hj).1
      rw [Nat.add_assoc]
      exact hout i _ v hi (by omega) (by rw [← Nat.add_assoc]; exact e2 j v hj)
  have hkx := h6 k (Nat.le_refl _) (by omega)
  refine .inr ⟨g, _, rfl, h2, blk6o h3, by rw [put6_len]; exact h4, fun i hi => ?_, fun i hi hx => ?_⟩
  · rcases Nat.lt_succ_iff_lt_or_eq.1 hi with hi | rfl
    · exact (hE i (by omega) (h5 i hi)).stay (fun b o hb => cell6o hb.2.2) (fun b hb => ⟨hb.1, by rw [size6o]; exact hb.2.1, hb.2.2⟩)
    · refine ⟨?_, [.int .i64 (t.fall i).val.kd, .bool (t.fall i).val.is, .int .i64 (t.fall i).val.n, strV (t.fall i).val.s, .slice A1 nl1 cl1, .slice B1 nm1 cm1], fun j v hj => put6_in (by omega) hj, A1, nl1, cl1, B1, nm1, cm1, rfl, hv.1, hv.2.1, ?_, ?_, hv.2.2.2.2⟩
      · obtain ⟨e1, _⟩ := hkx
        cases mem with
        | true => exact ⟨by rw [put6_out (by left; show i * stM true < i * stM true + 1; omega)]; exact e1.1, e1.2⟩
        | false => exact e1
      · exact hv.2.2.1.stay (fun b o hb => cell6o (by have := hb.1; omega)) (fun b hb => ⟨Nat.le_trans hH hb.1, by rw [size6o]; exact hb.2, by have := hb.1; omega⟩)
      · exact hv.2.2.2.1.stay (fun b o hb => cell6o (by have := hb.1; omega)) (fun b hb => ⟨Nat.le_trans hH hb.1, by rw [size6o]; exact hb.2, by have := hb.1; omega⟩)
  · exact (hE i (by omega) (h6 i (by omega) hx)).stay (fun b o hb => cell6o (by omega)) (fun b hb => hb)
end Go.Proofs.YtkbcbikilgcckaaGreatDoor
namespace Go.Proofs.YtkbcbikilgcckaaGreatDoor
open Go.ChangeShapes Go.WideShapes Go.ChangeAt Go.RowKit Go.IntWalk
set_option linter.unusedVariables false

set_option maxHeartbeats 4000000 in
theorem cloneV_calls (P : Nat → Prop) (A : Option Addr) (n c : Nat) (t : JT) (w : World) (hP : ∀ b, P b → b < w.heap.size) (hn : n = t.ext) (hn6 : n ≤ 1000000) (hs : JSl P w false A t) :
    Calls Tryz.prog 85 #[.slice A n c] w (ClonePost P false t n w) := by
  have HN := Lib.hid (And.intro hn (And.intro hn6 hs))
  have HP := Lib.hid hP
  cases A with
  | none =>
    have ht : t.ext = 0 := by
      rcases hs with h | ⟨b, o, e, _⟩
      · rw [h]; rfl
      · cases e
    have HT := Lib.hid ht
    obtain rfl : n = 0 := by omega
    have he : ∀ W, (binOp .eql 22 (.slice none 0 c) (.slice none 0 0)).run Tryz.prog W = .ok (.bool true) W := fun W => Lib.run_eql_slice_nil W _ _ none 0 c 0 0 Tryz.underlying22
    clear ht hn hn6 hs hP
    go_enter Tryz.func85, Tryz.ntmps85
    go_wp2_with fail
    go_ret
    exact clone_none HT.out
  | some A =>
    have he : ∀ W, (binOp .eql 22 (.slice (some A) n c) (.slice none 0 0)).run Tryz.prog W = .ok (.bool false) W := fun W => Lib.run_eql_slice_nil W _ _ (some A) n c 0 0 Tryz.underlying22
    clear hn hn6 hs hP
    go_enter Tryz.func85, Tryz.ntmps85
    go_wp2_with (at_builtin; refine wpList_clone P HP.out false rfl _ _ rfl _ rfl rfl A n c t rfl HN.out.1 HN.out.2.1 HN.out.2.2 ?_; intro v2 w5 h5)
    have H5 := Lib.hid h5
    clear h5
    go_wp2_with fail
    go_ret
    exact H5.out
end Go.Proofs.YtkbcbikilgcckaaGreatDoor
namespace Go.Proofs.YtkbcbikilgcckaaGreatDoor
open Go.ChangeShapes Go.WideShapes Go.ChangeAt Go.RowKit Go.IntWalk
set_option linter.unusedVariables false

set_option maxHeartbeats 4000000 in
theorem cloneM_calls (P : Nat → Prop) (A : Option Addr) (n c : Nat) (t : JT) (w : World) (hP : ∀ b, P b → b < w.heap.size) (hn : n = t.ext) (hn6 : n ≤ 1000000) (hs : JSl P w true A t) :
    Calls Tryz.prog 54 #[.slice A n c] w (ClonePost P true t n w) := by
  have HN := Lib.hid (And.intro hn (And.intro hn6 hs))
  have HP := Lib.hid hP
  cases A with
  | none =>
    have ht : t.ext = 0 := by
      rcases hs with h | ⟨b, o, e, _⟩
      · rw [h]; rfl
      · cases e
    have HT := Lib.hid ht
    obtain rfl : n = 0 := by omega
    have he : ∀ W, (binOp .eql 23 (.slice none 0 c) (.slice none 0 0)).run Tryz.prog W = .ok (.bool true) W := fun W => Lib.run_eql_slice_nil W _ _ none 0 c 0 0 Tryz.underlying23
    clear ht hn hn6 hs hP
    go_enter Tryz.func54, Tryz.ntmps54
    go_wp2_with fail
    go_ret
    exact clone_none HT.out
  | some A =>
    have he : ∀ W, (binOp .eql 23 (.slice (some A) n c) (.slice none 0 0)).run Tryz.prog W = .ok (.bool false) W := fun W => Lib.run_eql_slice_nil W _ _ (some A) n c 0 0 Tryz.underlying23
    clear hn hn6 hs hP
    go_enter Tryz.func54, Tryz.ntmps54
    go_wp2_with (at_builtin; refine wpList_clone P HP.out true rfl _ _ rfl _ rfl rfl A n c t rfl HN.out.1 HN.out.2.1 HN.out.2.2 ?_; intro v2 w5 h5)
    have H5 := Lib.hid h5
    clear h5
    go_wp2_with fail
    go_ret
    exact H5.out
end Go.Proofs.YtkbcbikilgcckaaGreatDoor
namespace Go.Proofs.YtkbcbikilgcckaaGreatDoor
open Go.ChangeShapes Go.WideShapes Go.ChangeAt Go.RowKit Go.IntWalk
set_option linter.unusedVariables false

theorem size_v6 : (Tryz.prog.info? 25).map (·.size) = some 6 := by kernel_rfl
theorem cells6s {w : World} {g : Nat} {T : TypeId} {a0 a1 a2 a3 a4 a5 : Value} (h : Blk w g T [a0, a1, a2, a3, a4, a5]) : w.cell? ⟨g, 0, none⟩ = some a0 ∧ w.cell? ⟨g, 1, none⟩ = some a1 ∧ w.cell? ⟨g, 2, none⟩ = some a2 ∧ w.cell? ⟨g, 3, none⟩ = some a3 ∧ w.cell? ⟨g, 4, none⟩ = some a4 ∧ w.cell? ⟨g, 5, none⟩ = some a5 ∧
    w.frozen? ⟨g, 0, none⟩ = false ∧ w.frozen? ⟨g, 1, none⟩ = false ∧ w.frozen? ⟨g, 2, none⟩ = false ∧ w.frozen? ⟨g, 3, none⟩ = false ∧ w.frozen? ⟨g, 4, none⟩ = false ∧ w.frozen? ⟨g, 5, none⟩ = false :=
  ⟨h.cell rfl, h.cell rfl, h.cell rfl, h.cell rfl, h.cell rfl, h.cell rfl, h.frozen _, h.frozen _, h.frozen _, h.frozen _, h.frozen _, h.frozen _⟩
theorem res_cell6 {fn : Func} {p : Tmp} {ty : TypeId} (h : fn.results = #[.cell p ty]) (tmps : Array Value) (a : Addr) (v : Value) (W : World) (hp : tmps.getD p undef = .pointer (some a)) (hld : (loadVar ty a).run Tryz.prog W = .ok v W) : (results fn tmps).run Tryz.prog W = .ok v W := by
  simp only [Array.getD_eq_getD_getElem?] at hp
  simp [results, h, hp, asAddr, hld]
theorem res_cell62 {fn : Func} {p q : Tmp} {ty : TypeId} (h : fn.results = #[.cell p ty, .tmp q]) (tmps : Array Value) (a : Addr) (v u : Value) (W : World) (hp : tmps.getD p undef = .pointer (some a)) (hq : tmps.getD q undef = u) (hld : (loadVar ty a).run Tryz.prog W = .ok v W) : (results fn tmps).run Tryz.prog W = .ok (.tuple #[v, u]) W := by
  simp only [Array.getD_eq_getD_getElem?] at hp hq
  subst hq
  simp [results, h, hp, asAddr, hld]
end Go.Proofs.YtkbcbikilgcckaaGreatDoor
