/- Layer 4: powers, walked. -/
import Derived.Test.YtpdoegfmngibgaaFdI
import Derived.Deep.WholeRow
import Derived.StillTailTactics
namespace Go.Proofs.Ytpdoegfmngibgaa
open Go.ChangeShapes Go.WideShapes Go.ChangeAt Go.RowKit Go.IntWalk
set_option linter.unusedVariables false

theorem size80 : (Try.prog.info? 65).map (·.size) = some 80 := by kernel_rfl
def Z80 : List Value := List.replicate 80 (.int .u64 0)
theorem zero80 (W : World) : (zeroValue 65).run Try.prog W = .ok (.agg Z80.toArray) W := by kernel_rfl
theorem set5_cell (w : World) (g o g2 o2 : Nat) (a b c d e : Value) (h : g2 ≠ g ∨ o2 < o ∨ o + 5 ≤ o2) :
    (((((w.setCell ⟨g, o, none⟩ a).setCell ⟨g, o + 1, none⟩ b).setCell ⟨g, o + 2, none⟩ c).setCell ⟨g, o + 3, none⟩ d).setCell ⟨g, o + 4, none⟩ e).cell? ⟨g2, o2, none⟩ = w.cell? ⟨g2, o2, none⟩ := by
  have hne : ∀ k, k < 5 → (⟨g2, o2, none⟩ : Addr) ≠ ⟨g, o + k, none⟩ := fun k hk he => by injection he with h1 h2; omega
  rw [World.cell?_setCell_other (h := Ne.symm (hne 4 (by omega))), World.cell?_setCell_other (h := Ne.symm (hne 3 (by omega))), World.cell?_setCell_other (h := Ne.symm (hne 2 (by omega))), World.cell?_setCell_other (h := Ne.symm (hne 1 (by omega)))]
  exact World.cell?_setCell_other _ _ _ _ (Ne.symm (hne 0 (by omega)))
theorem below_set5' {X : Nat} {w w1 : World} (h : Below X w w1) (g : Nat) (hg : X ≤ g) (o : Nat) (a b c d e : Value) :
    Below X w (((((w1.setCell ⟨g, o, none⟩ a).setCell ⟨g, o + 1, none⟩ b).setCell ⟨g, o + 2, none⟩ c).setCell ⟨g, o + 3, none⟩ d).setCell ⟨g, o + 4, none⟩ e) :=
  ((((h.setCell hg _).setCell hg _).setCell hg _).setCell hg _).setCell hg _
/-- Sixteen rests in a block. -/
def PBlk (w : World) (g : Nat) (ps : List Nat) : Prop := w.heap[g]? = some (.cells (ps.map fun (n : Nat) => Value.int .u64 (n : Int)).toArray 65 (0, 0))
theorem PBlk.cell {w : World} {g : Nat} {ws : List Nat} (h : PBlk w g ws) {k n : Nat} (hk : ws[k]? = some n) : w.cell? ⟨g, k, none⟩ = some (.int .u64 (n : Int)) := by
  rw [cell_of_row _ _ _ _ _ _ h]; simp [hk]
theorem PBlk.frozen {w : World} {g : Nat} {ws : List Nat} (h : PBlk w g ws) (k : Nat) : w.frozen? ⟨g, k, none⟩ = false := by
  unfold PBlk at h; simp [World.frozen?, h]
theorem PBlk.set_ {w : World} {g : Nat} {ws : List Nat} (h : PBlk w g ws) (k n : Nat) : PBlk (w.setCell ⟨g, k, none⟩ (.int .u64 (n : Int))) g (ws.set k n) := by
  unfold PBlk at h ⊢
  simp [World.setCell, Array.getElem?_modify, h, List.map_set]
def seg (ps : List Nat) (i : Nat) : Value := E5 (ps.getD (i * 5) 0) (ps.getD (i * 5 + 1) 0) (ps.getD (i * 5 + 2) 0) (ps.getD (i * 5 + 3) 0) (ps.getD (i * 5 + 4) 0)
structure PowS (w : World) (B : Nat) (cs : List Value) (ls : List Nat) (r k : Nat) (ps : List Nat) (W : World) : Prop where
  a : EBlk W w.heap.size ls
  e : W.heap[w.heap.size + 1]? = some (.cells cs.toArray 22 (0, 0))
  z : EBlk W (w.heap.size + 1 + 1) [0, 0, 0, 0, 0]
  p : PBlk W B ps
  l : ps.length = 80
  q : ∀ i, i ≤ k → IsEl (seg ps i) (r ^ i)
  b : Below w.heap.size w W
/-- Five numbers laid at a place. -/
def put5 (ps : List Nat) (o a b c d e : Nat) : List Nat := ((((ps.set o a).set (o + 1) b).set (o + 2) c).set (o + 3) d).set (o + 4) e
theorem put5_len (ps : List Nat) (o a b c d e : Nat) : (put5 ps o a b c d e).length = ps.length := by simp [put5]
theorem put5_get (ps : List Nat) (o a b c d e i : Nat) (h : i < o ∨ o + 5 ≤ i) : (put5 ps o a b c d e).getD i 0 = ps.getD i 0 := by
  unfold put5
  simp only [List.getD_eq_getElem?_getD]
  rw [List.getElem?_set_ne (by omega), List.getElem?_set_ne (by omega), List.getElem?_set_ne (by omega), List.getElem?_set_ne (by omega), List.getElem?_set_ne (by omega)]
theorem put5_at (ps : List Nat) (o a b c d e : Nat) (h : o + 5 ≤ ps.length) : (put5 ps o a b c d e).getD o 0 = a ∧ (put5 ps o a b c d e).getD (o + 1) 0 = b ∧ (put5 ps o a b c d e).getD (o + 2) 0 = c ∧ (put5 ps o a b c d e).getD (o + 3) 0 = d ∧ (put5 ps o a b c d e).getD (o + 4) 0 = e := by
  unfold put5
  simp only [List.getD_eq_getElem?_getD]
  refine ⟨?_, ?_, ?_, ?_, ?_⟩
  · rw [List.getElem?_set_ne (by omega), List.getElem?_set_ne (by omega), List.getElem?_set_ne (by omega), List.getElem?_set_ne (by omega), List.getElem?_set_self (by first | omega | (simp only [List.length_set]; omega))]; rfl
  · rw [List.getElem?_set_ne (by omega), List.getElem?_set_ne (by omega), List.getElem?_set_ne (by omega), List.getElem?_set_self (by first | omega | (simp only [List.length_set]; omega))]; rfl
  · rw [List.getElem?_set_ne (by omega), List.getElem?_set_ne (by omega), List.getElem?_set_self (by first | omega | (simp only [List.length_set]; omega))]; rfl
  · rw [List.getElem?_set_ne (by omega), List.getElem?_set_self (by first | omega | (simp only [List.length_set]; omega))]; rfl
  · rw [List.getElem?_set_self (by first | omega | (simp only [List.length_set]; omega))]; rfl
theorem seg_put5 (ps : List Nat) (k a b c d e : Nat) (h : (k + 1) * 5 ≤ ps.length) : seg (put5 ps (k * 5) a b c d e) k = E5 a b c d e := by
  obtain ⟨h0, h1, h2, h3, h4⟩ := put5_at ps (k * 5) a b c d e (by omega)
  unfold seg
  rw [h0, h1, h2, h3, h4]
theorem seg_other (ps : List Nat) (k i a b c d e : Nat) (h : i ≠ k) : seg (put5 ps (k * 5) a b c d e) i = seg ps i := by
  unfold seg
  rw [put5_get _ _ _ _ _ _ _ _ (by omega), put5_get _ _ _ _ _ _ _ _ (by omega), put5_get _ _ _ _ _ _ _ _ (by omega), put5_get _ _ _ _ _ _ _ _ (by omega), put5_get _ _ _ _ _ _ _ _ (by omega)]
theorem heap_set5 (w : World) (g o g2 : Nat) (a b c d e : Value) (h : g2 ≠ g) :
    (((((w.setCell ⟨g, o, none⟩ a).setCell ⟨g, o + 1, none⟩ b).setCell ⟨g, o + 2, none⟩ c).setCell ⟨g, o + 3, none⟩ d).setCell ⟨g, o + 4, none⟩ e).heap[g2]? = w.heap[g2]? := by
  simp [World.setCell, Array.getElem?_modify, Ne.symm h]
theorem PowS.step {w W wv : World} {B r k : Nat} {cs : List Value} {ls ps : List Nat} (h : PowS w B cs ls r k ps W) (bv : Below W.heap.size W wv) (hB : w.heap.size + 1 + 1 < B) (hk : k < 15) (m0 m1 m2 m3 m4 : Nat)
    (hm : IsEl (E5 m0 m1 m2 m3 m4) (r ^ (k + 1))) :
    PowS w B cs ls r (k + 1) (put5 ps ((k + 1) * 5) m0 m1 m2 m3 m4) (((((wv.setCell ⟨B, (k + 1) * 5, none⟩ (.int .u64 (m0 : Int))).setCell ⟨B, (k + 1) * 5 + 1, none⟩ (.int .u64 (m1 : Int))).setCell ⟨B, (k + 1) * 5 + 2, none⟩ (.int .u64 (m2 : Int))).setCell ⟨B, (k + 1) * 5 + 3, none⟩ (.int .u64 (m3 : Int))).setCell ⟨B, (k + 1) * 5 + 4, none⟩ (.int .u64 (m4 : Int))) := by
  have up : ∀ g o, W.heap[g]? = some o → wv.heap[g]? = some o := fun g o hg => (bv.block g (Array.getElem?_eq_some_iff.1 hg).1).trans hg
  refine ⟨?_, ?_, ?_, ?_, by rw [put5_len]; exact h.l, ?_, below_set5' (h.b.then_ bv) B (by omega) _ _ _ _ _ _⟩
  · exact (heap_set5 _ _ _ _ _ _ _ _ _ (by omega)).trans (up _ _ h.a)
  · exact (heap_set5 _ _ _ _ _ _ _ _ _ (by omega)).trans (up _ _ h.e)
  · exact (heap_set5 _ _ _ _ _ _ _ _ _ (by omega)).trans (up _ _ h.z)
  · have hp : PBlk wv B ps := up _ _ h.p
    exact ((((hp.set_ _ m0).set_ _ m1).set_ _ m2).set_ _ m3).set_ _ m4
  · intro i hi
    by_cases e : i = k + 1
    · subst e; rw [seg_put5 _ _ _ _ _ _ _ (by rw [h.l]; omega)]; exact hm
    · rw [seg_other _ _ _ _ _ _ _ _ e]; exact h.q i (by omega)
theorem pow_start {w w1 : World} {a0 a1 a2 a3 a4 d0 d1 d2 d3 d4 r B : Nat} {cs p0 : List Value} (b : Below (((w.alloc (.cells #[.int .u64 (a0 : Int), .int .u64 (a1 : Int), .int .u64 (a2 : Int), .int .u64 (a3 : Int), .int .u64 (a4 : Int)] 27)).alloc (.cells cs.toArray 22)).alloc (.cells #[.int .u64 0, .int .u64 0, .int .u64 0, .int .u64 0, .int .u64 0] 27)).heap.size
      (((w.alloc (.cells #[.int .u64 (a0 : Int), .int .u64 (a1 : Int), .int .u64 (a2 : Int), .int .u64 (a3 : Int), .int .u64 (a4 : Int)] 27)).alloc (.cells cs.toArray 22)).alloc (.cells #[.int .u64 0, .int .u64 0, .int .u64 0, .int .u64 0, .int .u64 0] 27)) w1)
    (hp : ((((Z80.set 0 (.int .u64 (d0 : Int))).set 1 (.int .u64 (d1 : Int))).set 2 (.int .u64 (d2 : Int))).set 3 (.int .u64 (d3 : Int))).set 4 (.int .u64 (d4 : Int)) = p0) (hx : IsEl (.agg #[.int .u64 (d0 : Int), .int .u64 (d1 : Int), .int .u64 (d2 : Int), .int .u64 (d3 : Int), .int .u64 (d4 : Int)]) 1) (hB : w1.heap.size = B) :
    ∃ ps, PowS w B cs [a0, a1, a2, a3, a4] r 0 ps (w1.alloc (.cells p0.toArray 65)) := by
  have up : ∀ g o, (((w.alloc (.cells #[.int .u64 (a0 : Int), .int .u64 (a1 : Int), .int .u64 (a2 : Int), .int .u64 (a3 : Int), .int .u64 (a4 : Int)] 27)).alloc (.cells cs.toArray 22)).alloc (.cells #[.int .u64 0, .int .u64 0, .int .u64 0, .int .u64 0, .int .u64 0] 27)).heap[g]? = some o → (w1.alloc (.cells p0.toArray 65)).heap[g]? = some o := fun g o hg => by
    have h1 := (b.block g (Array.getElem?_eq_some_iff.1 hg).1).trans hg
    exact (heap_alloc_old _ _ (Array.getElem?_eq_some_iff.1 h1).1).trans h1
  have h0 := heap_alloc_new w (.cells #[.int .u64 (a0 : Int), .int .u64 (a1 : Int), .int .u64 (a2 : Int), .int .u64 (a3 : Int), .int .u64 (a4 : Int)] 27)
  have h1 := heap_alloc_new (w.alloc (.cells #[.int .u64 (a0 : Int), .int .u64 (a1 : Int), .int .u64 (a2 : Int), .int .u64 (a3 : Int), .int .u64 (a4 : Int)] 27)) (.cells cs.toArray 22)
  have h2 := heap_alloc_new ((w.alloc (.cells #[.int .u64 (a0 : Int), .int .u64 (a1 : Int), .int .u64 (a2 : Int), .int .u64 (a3 : Int), .int .u64 (a4 : Int)] 27)).alloc (.cells cs.toArray 22)) (.cells #[.int .u64 0, .int .u64 0, .int .u64 0, .int .u64 0, .int .u64 0] 27)
  rw [show (w.alloc (.cells #[.int .u64 (a0 : Int), .int .u64 (a1 : Int), .int .u64 (a2 : Int), .int .u64 (a3 : Int), .int .u64 (a4 : Int)] 27)).heap.size = w.heap.size + 1 by simp] at h1
  rw [show ((w.alloc (.cells #[.int .u64 (a0 : Int), .int .u64 (a1 : Int), .int .u64 (a2 : Int), .int .u64 (a3 : Int), .int .u64 (a4 : Int)] 27)).alloc (.cells cs.toArray 22)).heap.size = w.heap.size + 1 + 1 by simp] at h2
  have hnew := heap_alloc_new w1 (.cells p0.toArray 65)
  rw [hB] at hnew
  refine ⟨put5 (List.replicate 80 0) 0 d0 d1 d2 d3 d4, ?_, ?_, up _ _ h2, ?_, by rw [put5_len]; simp, ?_, (below3 b).alloc (below3 b).size _⟩
  · exact up _ _ ((heap_alloc_old _ _ (by simp; try omega)).trans ((heap_alloc_old _ _ (by simp; try omega)).trans h0))
  · exact up _ _ ((heap_alloc_old _ _ (by simp; try omega)).trans h1)
  · have e : (put5 (List.replicate 80 0) 0 d0 d1 d2 d3 d4).map (fun (n : Nat) => Value.int .u64 (n : Int)) = p0 := by
      rw [← hp]; unfold put5 Z80; simp only [List.map_set, List.map_replicate]; rfl
    unfold PBlk
    rw [e]; exact hnew
  · intro i hi
    obtain rfl : i = 0 := by omega
    have h := seg_put5 (List.replicate 80 0) 0 d0 d1 d2 d3 d4 (by simp)
    rw [h, Nat.pow_zero]; exact hx
theorem leN_at : ∀ (es : List UInt8) (k : Nat) (h : k < es.length), leN es / 256 ^ k % 256 = (es[k]).toNat
  | [], k, h => absurd h (by simp)
  | b :: t, 0, h => by
    have := b.toNat_lt
    simp only [leN, Nat.pow_zero, Nat.div_one, List.getElem_cons_zero]
    omega
  | b :: t, k + 1, h => by
    have hb := b.toNat_lt
    have ih := leN_at t k (by simpa using h)
    simp only [leN, List.getElem_cons_succ]
    rw [Nat.pow_succ, Nat.mul_comm (256 ^ k) 256, ← Nat.div_div_eq_div_mul, show (b.toNat + 256 * leN t) / 256 = leN t by omega]
    exact ih
/-- The exponent's first half-bytes. -/
def topN (es : List UInt8) (i : Nat) : Nat := leN es / 16 ^ (64 - i)
def digN (es : List UInt8) (i : Nat) : Nat := leN es / 16 ^ (63 - i) % 16
theorem topN_zero (es : List UInt8) (h : es.length = 32) : topN es 0 = 0 := by
  have := leN_lt es
  rw [h] at this
  unfold topN
  exact Nat.div_eq_of_lt (by rw [show (16 : Nat) ^ (64 - 0) = 256 ^ 32 by decide]; exact this)
theorem topN_all (es : List UInt8) : topN es 64 = leN es := by unfold topN; simp
theorem topN_succ (es : List UInt8) (i : Nat) (h : i < 64) : topN es (i + 1) = 16 * topN es i + digN es i := by
  unfold topN digN
  rw [show 64 - (i + 1) = 63 - i by omega, show 64 - i = (63 - i) + 1 by omega, Nat.pow_succ, ← Nat.div_div_eq_div_mul]
  omega
theorem digN_lt (es : List UInt8) (i : Nat) : digN es i < 16 := Nat.mod_lt _ (by decide)
theorem digN_even (es : List UInt8) (hl : es.length = 32) (i : Nat) (h : i < 64) (he : i % 2 = 0) (n : Nat) (hn : (es[31 - i / 2]'(by omega)).toNat = n) : digN es i = n / 16 := by
  have a := leN_at es (31 - i / 2) (by omega)
  rw [hn] at a
  unfold digN
  rw [show 63 - i = (31 - i / 2) * 2 + 1 by omega, Nat.pow_succ, Nat.mul_comm _ 2, Nat.pow_mul, show (16 : Nat) ^ 2 = 256 by decide, ← Nat.div_div_eq_div_mul, ← a]
  omega
theorem digN_odd (es : List UInt8) (hl : es.length = 32) (i : Nat) (h : i < 64) (he : i % 2 = 1) (n : Nat) (hn : (es[31 - i / 2]'(by omega)).toNat = n) : digN es i = n % 16 := by
  have a := leN_at es (31 - i / 2) (by omega)
  rw [hn] at a
  unfold digN
  rw [show 63 - i = (31 - i / 2) * 2 by omega, Nat.mul_comm _ 2, Nat.pow_mul, show (16 : Nat) ^ 2 = 256 by decide, ← a]
  omega
def OutS (w : World) (B C : Nat) (cs : List Value) (ls : List Nat) (r : Nat) (ps : List Nat) (m : Nat) (W : World) : Prop :=
  PowS w B cs ls r 15 ps W ∧ ∃ o0 o1 o2 o3 o4, EBlk W C [o0, o1, o2, o3, o4] ∧ IsEl (E5 o0 o1 o2 o3 o4) (r ^ m)
theorem OutS.step {w W wv : World} {B C r m m' : Nat} {cs : List Value} {ls ps : List Nat} (h : OutS w B C cs ls r ps m W) (bv : Below W.heap.size W wv) (hB : w.heap.size + 1 + 1 < B) (hC : B < C) (m0 m1 m2 m3 m4 : Nat)
    (hm : IsEl (E5 m0 m1 m2 m3 m4) (r ^ m')) :
    OutS w B C cs ls r ps m' (((((wv.setCell ⟨C, 0, none⟩ (.int .u64 (m0 : Int))).setCell ⟨C, 1, none⟩ (.int .u64 (m1 : Int))).setCell ⟨C, 2, none⟩ (.int .u64 (m2 : Int))).setCell ⟨C, 3, none⟩ (.int .u64 (m3 : Int))).setCell ⟨C, 4, none⟩ (.int .u64 (m4 : Int))) := by
  have up : ∀ g o, W.heap[g]? = some o → wv.heap[g]? = some o := fun g o hg => (bv.block g (Array.getElem?_eq_some_iff.1 hg).1).trans hg
  obtain ⟨h, o0, o1, o2, o3, o4, ho, _⟩ := h
  refine ⟨⟨?_, ?_, ?_, ?_, h.l, h.q, below_set5' (h.b.then_ bv) C (by omega) 0 _ _ _ _ _⟩, m0, m1, m2, m3, m4, ?_, hm⟩
  · exact (heap_set5 _ _ 0 _ _ _ _ _ _ (by omega)).trans (up _ _ h.a)
  · exact (heap_set5 _ _ 0 _ _ _ _ _ _ (by omega)).trans (up _ _ h.e)
  · exact (heap_set5 _ _ 0 _ _ _ _ _ _ (by omega)).trans (up _ _ h.z)
  · exact (heap_set5 _ _ 0 _ _ _ _ _ _ (by omega)).trans (up _ _ h.p)
  · have hp : EBlk wv C [o0, o1, o2, o3, o4] := up _ _ ho
    exact ((((hp.set_ 0 m0).set_ 1 m1).set_ 2 m2).set_ 3 m3).set_ 4 m4
theorem OutS.start {w W w2 : World} {B C r : Nat} {cs : List Value} {ls ps : List Nat} {f0 f1 f2 f3 f4 : Nat} (h : PowS w B cs ls r 15 ps W) (b : Below W.heap.size W w2) (hx : IsEl (E5 f0 f1 f2 f3 f4) 1) (hC : w2.heap.size = C) :
    OutS w B C cs ls r ps 0 (w2.alloc (.cells #[.int .u64 (f0 : Int), .int .u64 (f1 : Int), .int .u64 (f2 : Int), .int .u64 (f3 : Int), .int .u64 (f4 : Int)] 27)) := by
  have up : ∀ g o, W.heap[g]? = some o → (w2.alloc (.cells #[.int .u64 (f0 : Int), .int .u64 (f1 : Int), .int .u64 (f2 : Int), .int .u64 (f3 : Int), .int .u64 (f4 : Int)] 27)).heap[g]? = some o := fun g o hg => by
    have h1 := (b.block g (Array.getElem?_eq_some_iff.1 hg).1).trans hg
    exact (heap_alloc_old _ _ (Array.getElem?_eq_some_iff.1 h1).1).trans h1
  have hw : w.heap.size ≤ w2.heap.size := (h.b.then_ b).size
  refine ⟨⟨up _ _ h.a, up _ _ h.e, up _ _ h.z, up _ _ h.p, h.l, h.q, (h.b.then_ b).alloc hw _⟩, f0, f1, f2, f3, f4, ?_, by rw [Nat.pow_zero]; exact hx⟩
  have hnew := heap_alloc_new w2 (.cells #[.int .u64 (f0 : Int), .int .u64 (f1 : Int), .int .u64 (f2 : Int), .int .u64 (f3 : Int), .int .u64 (f4 : Int)] 27)
  rw [hC] at hnew
  exact hnew
set_option maxRecDepth 100000 in
set_option maxHeartbeats 4000000 in
theorem pow_calls (v : Value) (r : Nat) (es : List UInt8) (hv : IsEl v r) (hl : es.length = 32) (w : World) :
    Calls Try.prog 28 #[v, A32 es] w (ElPost (r ^ leN es) w) := by
  obtain ⟨a0, a1, a2, a3, a4, rfl, hok, hval⟩ := hv.form
  have HV := Lib.hid hv
  clear hok hval hv
  unfold A32
  obtain ⟨cs, hcs⟩ : ∃ cs, u8s es = cs := ⟨_, rfl⟩
  rw [hcs]
  have HCS := Lib.hid hcs
  clear hcs
  go_enter Try.func28, Try.ntmps28
  go_wp2_with fail
  refine (small_calls 1 (by omega) _).mono ?_
  rintro e w1 ⟨x, rfl, hx, b1⟩
  obtain ⟨d0, d1, d2, d3, d4, rfl, hok, hval⟩ := hx.form
  have HX := Lib.hid hx
  have HB1 := Lib.hid b1
  clear hok hval hx b1
  have hz := zero80
  obtain ⟨p0, hp0⟩ : ∃ p, ((((Z80.set 0 (.int .u64 (d0 : Int))).set 1 (.int .u64 (d1 : Int))).set 2 (.int .u64 (d2 : Int))).set 3 (.int .u64 (d3 : Int))).set 4 (.int .u64 (d4 : Int)) = p := ⟨_, rfl⟩
  have hpl : p0.length = 80 := by rw [← hp0]; simp [Z80]
  have hone : p0.toArray.all (·.oneCell') = true := by
    apply all_oneCell_toArray
    intro v hv
    rw [← hp0] at hv
    have := List.mem_or_eq_of_mem_set hv
    rcases List.mem_or_eq_of_mem_set hv with hv | rfl
    · rcases List.mem_or_eq_of_mem_set hv with hv | rfl
      · rcases List.mem_or_eq_of_mem_set hv with hv | rfl
        · rcases List.mem_or_eq_of_mem_set hv with hv | rfl
          · rcases List.mem_or_eq_of_mem_set hv with hv | rfl
            · rw [List.eq_of_mem_replicate hv]; rfl
            · rfl
          · rfl
        · rfl
      · rfl
    · rfl
  have hstc : (storeCells ⟨w1.heap.size, 0, none⟩ p0).run Try.prog (w1.alloc (.cells Z80.toArray 65)) = .ok () (w1.alloc (.cells p0.toArray 65)) := by
    have h := run_storeCells_new (P := Try.prog) w1 65 Z80.toArray p0.toArray (by rw [size80]; simp [hpl]) (by simp [hpl, Z80]) hone
    exact h
  have hzl : Z80.length = 80 := by simp [Z80]
  have HPO := Lib.hid hp0
  clear hone
  go_wp2_with fail
  obtain ⟨B, hB⟩ : ∃ B, w1.heap.size = B := ⟨_, rfl⟩
  have hs0 : ∃ ps, PowS w B cs [a0, a1, a2, a3, a4] r 0 ps (w1.alloc (.cells p0.toArray 65)) := pow_start HB1.out HPO.out HX.out hB
  have HS0 := Lib.hid hs0
  have hB2 : w.heap.size + 1 + 1 < B := by rw [← hB]; have := HB1.out.size; simp at this; omega
  rw [hB]
  have HBB := Lib.hid hB
  clear hs0 hstc hz hzl hB hp0 hpl
  go_loopw [12] (fun i wr => ∃ (k : Nat) (ps : List Nat), k ≤ 15 ∧ i = .int .i64 (k : Int) ∧ PowS w B cs [a0, a1, a2, a3, a4] r k ps wr) (fun i _ => 15 - (intOf i).toNat)
  case atStart => obtain ⟨ps, h⟩ := HS0.out; exact ⟨0, ps, by omega, rfl, h⟩
  case round =>
    obtain ⟨k, ps, hk, rfl, hs⟩ := hrel
    by_cases hp : k < 15
    · have hget : ∀ j, j < 80 → ps[j]? = some (ps.getD j 0) := fun j hj => by
        rw [List.getD_eq_getElem?_getD, List.getElem?_eq_getElem (by rw [hs.l]; exact hj)]; rfl
      have hx := hs.q k (Nat.le_refl _)
      unfold seg E5 at hx
      have g0 := hs.p.cell (hget (k * 5) (by omega))
      have g1 := hs.p.cell (hget (k * 5 + 1) (by omega))
      have g2 := hs.p.cell (hget (k * 5 + 2) (by omega))
      have g3 := hs.p.cell (hget (k * 5 + 3) (by omega))
      have g4 := hs.p.cell (hget (k * 5 + 4) (by omega))
      have c0 := hs.a.cell (k := 0) rfl
      have c1 := hs.a.cell (k := 1) rfl
      have c2 := hs.a.cell (k := 2) rfl
      have c3 := hs.a.cell (k := 3) rfl
      have c4 := hs.a.cell (k := 4) rfl
      generalize ps.getD (k * 5) 0 = q0 at *
      generalize ps.getD (k * 5 + 1) 0 = q1 at *
      generalize ps.getD (k * 5 + 2) 0 = q2 at *
      generalize ps.getD (k * 5 + 3) 0 = q3 at *
      generalize ps.getD (k * 5 + 4) 0 = q4 at *
      have HX2 := Lib.hid hx
      have y0 := hs.p.cell (hget ((k + 1) * 5) (by omega))
      have y1 := hs.p.cell (hget ((k + 1) * 5 + 1) (by omega))
      have y2 := hs.p.cell (hget ((k + 1) * 5 + 2) (by omega))
      have y3 := hs.p.cell (hget ((k + 1) * 5 + 3) (by omega))
      have y4 := hs.p.cell (hget ((k + 1) * 5 + 4) (by omega))
      have z0 := hs.p.frozen ((k + 1) * 5)
      have z1 := hs.p.frozen ((k + 1) * 5 + 1)
      have z2 := hs.p.frozen ((k + 1) * 5 + 2)
      have z3 := hs.p.frozen ((k + 1) * 5 + 3)
      have z4 := hs.p.frozen ((k + 1) * 5 + 4)
      have HY := Lib.hid (And.intro y0 (And.intro y1 (And.intro y2 (And.intro y3 y4))))
      have HZ := Lib.hid (And.intro z0 (And.intro z1 (And.intro z2 (And.intro z3 z4))))
      have HBL : Hid (B < wr.heap.size) := (Array.getElem?_eq_some_iff.1 hs.p).1
      have HS := Lib.hid hs
      have e1 : IntKind.i64.wrap ((k : Int) + 1) = (k : Int) + 1 := IntWalk.i64_in _ (by omega)
      have e2 : (0 : Int) ≤ (k : Int) + 1 := by omega
      have e3 : (k : Int) + 1 < 16 := by omega
      have e4 : ((k : Int) + 1).toNat = k + 1 := by omega
      have e5 : (k : Int) < 16 := by omega
      clear hget hx hs y0 y1 y2 y3 y4 z0 z1 z2 z3 z4
      go_wp2_with fail
      go_region_held3 (fun w' => (w'.cell? ⟨B, k * 5, none⟩ = some (.int .u64 (q0 : Int)) ∧ w'.cell? ⟨B, k * 5 + 1, none⟩ = some (.int .u64 (q1 : Int)) ∧ w'.cell? ⟨B, k * 5 + 2, none⟩ = some (.int .u64 (q2 : Int)) ∧ w'.cell? ⟨B, k * 5 + 3, none⟩ = some (.int .u64 (q3 : Int)) ∧ w'.cell? ⟨B, k * 5 + 4, none⟩ = some (.int .u64 (q4 : Int))) ∧
          w'.cell? ⟨w.heap.size, 0, none⟩ = some (.int .u64 (a0 : Int)) ∧ w'.cell? ⟨w.heap.size, 1, none⟩ = some (.int .u64 (a1 : Int)) ∧ w'.cell? ⟨w.heap.size, 2, none⟩ = some (.int .u64 (a2 : Int)) ∧ w'.cell? ⟨w.heap.size, 3, none⟩ = some (.int .u64 (a3 : Int)) ∧ w'.cell? ⟨w.heap.size, 4, none⟩ = some (.int .u64 (a4 : Int)))
        (first | go_keep | (go_split_ands; (refine ⟨⟨?_, ?_, ?_, ?_, ?_⟩, ?_, ?_, ?_, ?_, ?_⟩ <;> exact Go.cell_later (by assumption) (by assumption))) | (go_split_ands; (refine ⟨⟨?_, ?_, ?_, ?_, ?_⟩, ?_, ?_, ?_, ?_, ?_⟩ <;> ((refine (set5_cell _ _ _ _ _ _ _ _ _ _ (by omega)).trans ?_); assumption))))
        ((go_at_call 26; (with_reducible refine (mul_calls _ _ _ _ HX2.out HV.out _).mono ?_); rintro e wv ⟨x, rfl, hx, bv⟩; obtain ⟨m0, m1, m2, m3, m4, rfl, hok, hval⟩ := hx.form; have y0 := Go.cell_later bv HY.out.1; have y1 := Go.cell_later bv HY.out.2.1; have y2 := Go.cell_later bv HY.out.2.2.1; have y3 := Go.cell_later bv HY.out.2.2.2.1; have y4 := Go.cell_later bv HY.out.2.2.2.2; have z0 := (bv.frozen (p := ⟨B, (k + 1) * 5, none⟩) HBL.out).trans HZ.out.1; have z1 := (bv.frozen (p := ⟨B, (k + 1) * 5 + 1, none⟩) HBL.out).trans HZ.out.2.1; have z2 := (bv.frozen (p := ⟨B, (k + 1) * 5 + 2, none⟩) HBL.out).trans HZ.out.2.2.1; have z3 := (bv.frozen (p := ⟨B, (k + 1) * 5 + 3, none⟩) HBL.out).trans HZ.out.2.2.2.1; have z4 := (bv.frozen (p := ⟨B, (k + 1) * 5 + 4, none⟩) HBL.out).trans HZ.out.2.2.2.2))
      have bv2 : Below wr.heap.size wr wv := ⟨bv.os, bv.tape, bv.output, bv.size, bv.block⟩
      have hm : IsEl (E5 m0 m1 m2 m3 m4) (r ^ (k + 1)) := hx.congr (by rw [Nat.pow_succ])
      have hn := HS.out.step bv2 hB2 hp m0 m1 m2 m3 m4 hm
      have HN := Lib.hid hn
      clear hn hm bv2
      go_wp2_with fail
      exact ⟨⟨k + 1, _, by omega, by go_num, HN.out⟩, by simp [intOf]; omega⟩
    · obtain rfl : k = 15 := by omega
      have HS := Lib.hid hs
      clear hs
      go_wp2_with fail
      refine (small_calls 1 (by omega) _).mono ?_
      rintro e w2 ⟨x, rfl, hx, b2⟩
      obtain ⟨f0, f1, f2, f3, f4, rfl, hok, hval⟩ := hx.form
      obtain ⟨C, hC⟩ : ∃ C, w2.heap.size = C := ⟨_, rfl⟩
      have hst := OutS.start HS.out b2 hx hC
      have hBC : B < C := by have h1 := (Array.getElem?_eq_some_iff.1 HS.out.p).1; have h2 := b2.size; omega
      have HST := Lib.hid hst
      clear hst hx hok hval b2
      go_wp2_with fail
      have HCC := Lib.hid hC
      clear hC
      go_loopw [25] (fun i wr2 => ∃ (k : Nat), k ≤ 64 ∧ i = .int .i64 (k : Int) ∧ OutS w B C cs [a0, a1, a2, a3, a4] r ps (topN es k) wr2) (fun i _ => 64 - (intOf i).toNat)
      case atStart => exact ⟨0, by omega, rfl, by rw [topN_zero es hl]; exact HST.out⟩
      case round =>
        obtain ⟨k, hk2, rfl, hs2⟩ := hrel
        have HS2 := Lib.hid hs2
        clear hs2
        by_cases hp2 : k < 64
        · have hb26 : decide ((k : Int) < 64) = true := by simp; omega
          go_wp2_with fail
          try rw [hb26]
          clear hb26
          go_loopw [28] (fun j wr3 => ∃ (n : Nat), n ≤ 4 ∧ j = .int .i64 (n : Int) ∧ OutS w B C cs [a0, a1, a2, a3, a4] r ps (topN es k * 2 ^ n) wr3) (fun j _ => 4 - (intOf j).toNat)
          case atStart => exact ⟨0, by omega, rfl, by rw [Nat.pow_zero, Nat.mul_one]; exact HS2.out⟩
          case round =>
            obtain ⟨n, hn2, rfl, hs3⟩ := hrel
            have HS3 := Lib.hid hs3
            obtain ⟨hs3, o0, o1, o2, o3, o4, ho, hx⟩ := hs3
            have hc0 := ho.cell (k := 0) rfl
            have hc1 := ho.cell (k := 1) rfl
            have hc2 := ho.cell (k := 2) rfl
            have hc3 := ho.cell (k := 3) rfl
            have hc4 := ho.cell (k := 4) rfl
            have hz0 := ho.frozen 0
            have hz1 := ho.frozen 1
            have hz2 := ho.frozen 2
            have hz3 := ho.frozen 3
            have hz4 := ho.frozen 4
            unfold E5 at hx
            have HX3 := Lib.hid hx
            have HCL : Hid (C < wr.heap.size) := Lib.hid (Array.getElem?_eq_some_iff.1 ho).1
            have HZ3 := Lib.hid (And.intro hz0 (And.intro hz1 (And.intro hz2 (And.intro hz3 hz4))))
            have HY3 := Lib.hid (And.intro hc0 (And.intro hc1 (And.intro hc2 (And.intro hc3 hc4))))
            clear hs3 ho hx hz0 hz1 hz2 hz3 hz4
            by_cases hp3 : n < 4
            · have e1 : IntKind.i64.wrap ((n : Int) + 1) = (n : Int) + 1 := IntWalk.i64_in _ (by omega)
              go_wp2_with fail
              refine (mul_calls _ _ _ _ HX3.out HX3.out _).mono ?_
              rintro e wv ⟨x, rfl, hx, bv⟩
              obtain ⟨m0, m1, m2, m3, m4, rfl, hok, hval⟩ := hx.form
              clear hok hval hc0 hc1 hc2 hc3 hc4
              have y0 := Go.cell_later bv HY3.out.1
              have y1 := Go.cell_later bv HY3.out.2.1
              have y2 := Go.cell_later bv HY3.out.2.2.1
              have y3 := Go.cell_later bv HY3.out.2.2.2.1
              have y4 := Go.cell_later bv HY3.out.2.2.2.2
              have z0 := (bv.frozen (p := ⟨C, 0, none⟩) HCL.out).trans HZ3.out.1
              have z1 := (bv.frozen (p := ⟨C, 1, none⟩) HCL.out).trans HZ3.out.2.1
              have z2 := (bv.frozen (p := ⟨C, 2, none⟩) HCL.out).trans HZ3.out.2.2.1
              have z3 := (bv.frozen (p := ⟨C, 3, none⟩) HCL.out).trans HZ3.out.2.2.2.1
              have z4 := (bv.frozen (p := ⟨C, 4, none⟩) HCL.out).trans HZ3.out.2.2.2.2
              have hn := HS3.out.step (m' := topN es k * 2 ^ (n + 1)) bv hB2 hBC m0 m1 m2 m3 m4 (hx.congr (by rw [← Nat.pow_add, ← Nat.mul_two, Nat.mul_assoc, ← Nat.pow_succ]))
              have HN := Lib.hid hn
              clear hn hx bv
              go_wp2_with fail
              exact ⟨⟨n + 1, by omega, by go_num, HN.out⟩, by simp [intOf]; omega⟩
            · obtain rfl : n = 4 := by omega
              clear hc0 hc1 hc2 hc3 hc4
              have hlt : 31 - k / 2 < es.length := by rw [hl]; omega
              have hcl : 31 - k / 2 < cs.length := by rw [← HCS.out]; simpa [u8s] using hlt
              obtain ⟨c, hc⟩ : ∃ c, (es[31 - k / 2]).toNat = c := ⟨_, rfl⟩
              have hcc : cs[31 - k / 2]? = some (.int .u8 (c : Int)) := by
                rw [← HCS.out, ← hc]; simp [u8s, hlt]
              have hE : wr.cell? ⟨w.heap.size + 1, 31 - k / 2, none⟩ = some (.int .u8 (c : Int)) := by
                rw [cell_of_row _ _ _ _ _ _ HS3.out.1.e]; simpa using hcc
              have hc8 : c < 256 := by rw [← hc]; exact (es[31 - k / 2]).toNat_lt
              obtain ⟨d, hd⟩ : ∃ d, digN es k = d := ⟨_, rfl⟩
              have hd16 : d < 16 := by rw [← hd]; exact digN_lt es k
              have HD := Lib.hid hd
              clear hd hcc hcl
              have hget : ∀ j, j < 80 → ps[j]? = some (ps.getD j 0) := fun j hj => by
                rw [List.getD_eq_getElem?_getD, List.getElem?_eq_getElem (by rw [HS3.out.1.l]; exact hj)]; rfl
              have hxq := HS3.out.1.q d (by omega)
              unfold seg E5 at hxq
              have g0 := HS3.out.1.p.cell (hget (d * 5) (by omega))
              have g1 := HS3.out.1.p.cell (hget (d * 5 + 1) (by omega))
              have g2 := HS3.out.1.p.cell (hget (d * 5 + 2) (by omega))
              have g3 := HS3.out.1.p.cell (hget (d * 5 + 3) (by omega))
              have g4 := HS3.out.1.p.cell (hget (d * 5 + 4) (by omega))
              generalize ps.getD (d * 5) 0 = q0 at *
              generalize ps.getD (d * 5 + 1) 0 = q1 at *
              generalize ps.getD (d * 5 + 2) 0 = q2 at *
              generalize ps.getD (d * 5 + 3) 0 = q3 at *
              generalize ps.getD (d * 5 + 4) 0 = q4 at *
              have HXQ := Lib.hid hxq
              have HG := Lib.hid (And.intro g0 (And.intro g1 (And.intro g2 (And.intro g3 g4))))
              clear hget hxq g0 g1 g2 g3 g4
              rcases Nat.mod_two_eq_zero_or_one k with hpar | hpar
              · have hdv : d = c / 16 := by rw [← HD.out]; exact digN_even es hl k hp2 hpar c hc
                have hm : (k : Int) % 2 = 0 := by omega
                have ht : Int.tmod (k : Int) 2 = 0 := by rw [Int.tmod_eq_emod_of_nonneg (by omega)]; exact hm
                have hdw : (c : Int) / 16 % 16 = (d : Int) := by omega
                have hd0 : (0 : Int) ≤ (d : Int) ∧ (d : Int) < 16 := by omega
                clear hc
                go_wp2_with fail
                obtain ⟨hc0, hc1, hc2, hc3, hc4⟩ := HY3.out
                obtain ⟨g0, g1, g2, g3, g4⟩ := HG.out
                rw [hdw]
                clear hE hm ht hpar hdv hdw
                go_still_tail 4, (by kernel_rfl)
                change wpList _ _ _ _ _ wr.drew
                go_wp2_with fail
                refine (mul_calls _ _ _ _ HX3.out HXQ.out _).mono ?_
                rintro e wv ⟨x, rfl, hx, bv⟩
                obtain ⟨m0, m1, m2, m3, m4, rfl, hok, hval⟩ := hx.form
                clear hok hval hc0 hc1 hc2 hc3 hc4 g0 g1 g2 g3 g4
                have y0 := Go.cell_later bv HY3.out.1
                have y1 := Go.cell_later bv HY3.out.2.1
                have y2 := Go.cell_later bv HY3.out.2.2.1
                have y3 := Go.cell_later bv HY3.out.2.2.2.1
                have y4 := Go.cell_later bv HY3.out.2.2.2.2
                have z0 := (bv.frozen (p := ⟨C, 0, none⟩) HCL.out).trans HZ3.out.1
                have z1 := (bv.frozen (p := ⟨C, 1, none⟩) HCL.out).trans HZ3.out.2.1
                have z2 := (bv.frozen (p := ⟨C, 2, none⟩) HCL.out).trans HZ3.out.2.2.1
                have z3 := (bv.frozen (p := ⟨C, 3, none⟩) HCL.out).trans HZ3.out.2.2.2.1
                have z4 := (bv.frozen (p := ⟨C, 4, none⟩) HCL.out).trans HZ3.out.2.2.2.2
                have bv2 : Below wr.heap.size wr wv := ⟨bv.os, bv.tape, bv.output, bv.size, bv.block⟩
                have hn := HS3.out.step (m' := topN es (k + 1)) bv2 hB2 hBC m0 m1 m2 m3 m4 (hx.congr (by rw [topN_succ es k hp2, HD.out, ← Nat.pow_add, show topN es k * 2 ^ 4 = 16 * topN es k by omega]))
                have e1 : IntKind.i64.wrap ((k : Int) + 1) = (k : Int) + 1 := IntWalk.i64_in _ (by omega)
                have HN := Lib.hid hn
                clear hn hx bv2
                go_wp2_with fail
                exact ⟨⟨k + 1, by omega, by go_num, HN.out⟩, by simp [intOf]; omega⟩
              · have hdv : d = c % 16 := by rw [← HD.out]; exact digN_odd es hl k hp2 hpar c hc
                have hm : (k : Int) % 2 = 1 := by omega
                have ht : Int.tmod (k : Int) 2 = 1 := by rw [Int.tmod_eq_emod_of_nonneg (by omega)]; exact hm
                have hdw : (c : Int) % 16 = (d : Int) := by omega
                have hd0 : (0 : Int) ≤ (d : Int) ∧ (d : Int) < 16 := by omega
                clear hc
                go_wp2_with fail
                obtain ⟨hc0, hc1, hc2, hc3, hc4⟩ := HY3.out
                obtain ⟨g0, g1, g2, g3, g4⟩ := HG.out
                rw [hdw]
                clear hE hm ht hpar hdv hdw
                go_still_tail 4, (by kernel_rfl)
                change wpList _ _ _ _ _ wr.drew
                go_wp2_with fail
                refine (mul_calls _ _ _ _ HX3.out HXQ.out _).mono ?_
                rintro e wv ⟨x, rfl, hx, bv⟩
                obtain ⟨m0, m1, m2, m3, m4, rfl, hok, hval⟩ := hx.form
                clear hok hval hc0 hc1 hc2 hc3 hc4 g0 g1 g2 g3 g4
                have y0 := Go.cell_later bv HY3.out.1
                have y1 := Go.cell_later bv HY3.out.2.1
                have y2 := Go.cell_later bv HY3.out.2.2.1
                have y3 := Go.cell_later bv HY3.out.2.2.2.1
                have y4 := Go.cell_later bv HY3.out.2.2.2.2
                have z0 := (bv.frozen (p := ⟨C, 0, none⟩) HCL.out).trans HZ3.out.1
                have z1 := (bv.frozen (p := ⟨C, 1, none⟩) HCL.out).trans HZ3.out.2.1
                have z2 := (bv.frozen (p := ⟨C, 2, none⟩) HCL.out).trans HZ3.out.2.2.1
                have z3 := (bv.frozen (p := ⟨C, 3, none⟩) HCL.out).trans HZ3.out.2.2.2.1
                have z4 := (bv.frozen (p := ⟨C, 4, none⟩) HCL.out).trans HZ3.out.2.2.2.2
                have bv2 : Below wr.heap.size wr wv := ⟨bv.os, bv.tape, bv.output, bv.size, bv.block⟩
                have hn := HS3.out.step (m' := topN es (k + 1)) bv2 hB2 hBC m0 m1 m2 m3 m4 (hx.congr (by rw [topN_succ es k hp2, HD.out, ← Nat.pow_add, show topN es k * 2 ^ 4 = 16 * topN es k by omega]))
                have e1 : IntKind.i64.wrap ((k : Int) + 1) = (k : Int) + 1 := IntWalk.i64_in _ (by omega)
                have HN := Lib.hid hn
                clear hn hx bv2
                go_wp2_with fail
                exact ⟨⟨k + 1, by omega, by go_num, HN.out⟩, by simp [intOf]; omega⟩
        · obtain rfl : k = 64 := by omega
          rw [topN_all] at HS2
          obtain ⟨hs3, o0, o1, o2, o3, o4, ho, hx⟩ := HS2.out
          have hc0 := ho.cell (k := 0) rfl
          have hc1 := ho.cell (k := 1) rfl
          have hc2 := ho.cell (k := 2) rfl
          have hc3 := ho.cell (k := 3) rfl
          have hc4 := ho.cell (k := 4) rfl
          have hy0 := hs3.z.cell (k := 0) rfl
          have hy1 := hs3.z.cell (k := 1) rfl
          have hy2 := hs3.z.cell (k := 2) rfl
          have hy3 := hs3.z.cell (k := 3) rfl
          have hy4 := hs3.z.cell (k := 4) rfl
          have hz0 := hs3.z.frozen 0
          have hz1 := hs3.z.frozen 1
          have hz2 := hs3.z.frozen 2
          have hz3 := hs3.z.frozen 3
          have hz4 := hs3.z.frozen 4
          have hz : EBlk (((((wr.setCell ⟨w.heap.size + 1 + 1, 0, none⟩ (.int .u64 (o0 : Int))).setCell ⟨w.heap.size + 1 + 1, 1, none⟩ (.int .u64 (o1 : Int))).setCell ⟨w.heap.size + 1 + 1, 2, none⟩ (.int .u64 (o2 : Int))).setCell ⟨w.heap.size + 1 + 1, 3, none⟩ (.int .u64 (o3 : Int))).setCell ⟨w.heap.size + 1 + 1, 4, none⟩ (.int .u64 (o4 : Int))) (w.heap.size + 1 + 1) [o0, o1, o2, o3, o4] :=
            ((((hs3.z.set_ 0 o0).set_ 1 o1).set_ 2 o2).set_ 3 o3).set_ 4 o4
          have hbz := below_set5' hs3.b (w.heap.size + 1 + 1) (by omega) 0 (.int .u64 (o0 : Int)) (.int .u64 (o1 : Int)) (.int .u64 (o2 : Int)) (.int .u64 (o3 : Int)) (.int .u64 (o4 : Int))
          simp only [Nat.zero_add] at hbz
          have HX4 := Lib.hid hx
          have HZB := Lib.hid (And.intro hz hbz)
          clear hs3 ho hx hz hbz
          go_wp2_with fail
          obtain ⟨hz, hbz⟩ := HZB.out
          clear hc0 hc1 hc2 hc3 hc4 hy0 hy1 hy2 hy3 hy4 hz0 hz1 hz2 hz3 hz4
          generalize (((((wr.setCell ⟨w.heap.size + 1 + 1, 0, none⟩ (.int .u64 (o0 : Int))).setCell ⟨w.heap.size + 1 + 1, 1, none⟩ (.int .u64 (o1 : Int))).setCell ⟨w.heap.size + 1 + 1, 2, none⟩ (.int .u64 (o2 : Int))).setCell ⟨w.heap.size + 1 + 1, 3, none⟩ (.int .u64 (o3 : Int))).setCell ⟨w.heap.size + 1 + 1, 4, none⟩ (.int .u64 (o4 : Int))) = W5 at *
          have q0 := hz.cell (k := 0) rfl
          have q1 := hz.cell (k := 1) rfl
          have q2 := hz.cell (k := 2) rfl
          have q3 := hz.cell (k := 3) rfl
          have q4 := hz.cell (k := 4) rfl
          exact bodyPost_ret (v := .agg #[.int .u64 o0, .int .u64 o1, .int .u64 o2, .int .u64 o3, .int .u64 o4]) (by simp [results, Try.results28, go_sem, q0, q1, q2, q3, q4]) rfl ⟨_, rfl, HX4.out, hbz⟩
end Go.Proofs.Ytpdoegfmngibgaa
