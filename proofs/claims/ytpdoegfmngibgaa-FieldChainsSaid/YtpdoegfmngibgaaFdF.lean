/- Layer 4: a rest out of 32 bytes. -/
import Derived.Test.YtpdoegfmngibgaaFdB
import Derived.Deep.MidRow
namespace Go.Proofs.Ytpdoegfmngibgaa
open Go.ChangeShapes Go.WideShapes Go.ChangeAt Go.RowKit Go.IntWalk
set_option linter.unusedVariables false

/-- A number's bytes, the lowest first. -/
def leN : List UInt8 → Nat
  | [] => 0
  | c :: t => c.toNat + 256 * leN t
/-- Bytes as cells. -/
def u8s (bs : List UInt8) : List Value := bs.map fun c => Value.int .u8 c.toNat
def A32 (bs : List UInt8) : Value := .agg (u8s bs).toArray

theorem idx32 (cs : List Value) (k : Nat) (hk : k < 32) (v : Value) (hv : cs[k]? = some v) (W : World) :
    (Instr.index 22 (.agg cs.toArray) (.int .i64 (k : Int))).run Try.prog W = .ok v W := by
  have h32 : 0 ≤ (k : Int) ∧ (k : Int) < (32 : Nat) := by omega
  simp [Instr.index, run_underlying Try.underlying22, asIntOf, go_sem, hv, hk]

theorem size32 : (Try.prog.info? 22).map (·.size) = some 32 := by kernel_rfl
/-- Five words in a block. -/
def WBlk (w : World) (g : Nat) (ws : List Nat) : Prop := w.heap[g]? = some (.cells (ws.map fun (n : Nat) => Value.int .u64 (n : Int)).toArray 25 (0, 0))
theorem WBlk.cell {w : World} {g : Nat} {ws : List Nat} (h : WBlk w g ws) {k n : Nat} (hk : ws[k]? = some n) : w.cell? ⟨g, k, none⟩ = some (.int .u64 (n : Int)) := by
  rw [cell_of_row _ _ _ _ _ _ h]; simp [hk]
theorem WBlk.frozen {w : World} {g : Nat} {ws : List Nat} (h : WBlk w g ws) (k : Nat) : w.frozen? ⟨g, k, none⟩ = false := by
  unfold WBlk at h; simp [World.frozen?, h]
theorem WBlk.set_ {w : World} {g : Nat} {ws : List Nat} (h : WBlk w g ws) (k n : Nat) : WBlk (w.setCell ⟨g, k, none⟩ (.int .u64 (n : Int))) g (ws.set k n) := by
  unfold WBlk at h ⊢
  simp [World.setCell, Array.getElem?_modify, h, List.map_set]
/-- Five limbs in a block. -/
def EBlk (w : World) (g : Nat) (ws : List Nat) : Prop := w.heap[g]? = some (.cells (ws.map fun (n : Nat) => Value.int .u64 (n : Int)).toArray 27 (0, 0))
theorem EBlk.cell {w : World} {g : Nat} {ws : List Nat} (h : EBlk w g ws) {k n : Nat} (hk : ws[k]? = some n) : w.cell? ⟨g, k, none⟩ = some (.int .u64 (n : Int)) := by
  rw [cell_of_row _ _ _ _ _ _ h]; simp [hk]
theorem EBlk.frozen {w : World} {g : Nat} {ws : List Nat} (h : EBlk w g ws) (k : Nat) : w.frozen? ⟨g, k, none⟩ = false := by
  unfold EBlk at h; simp [World.frozen?, h]
theorem EBlk.set_ {w : World} {g : Nat} {ws : List Nat} (h : EBlk w g ws) (k n : Nat) : EBlk (w.setCell ⟨g, k, none⟩ (.int .u64 (n : Int))) g (ws.set k n) := by
  unfold EBlk at h ⊢
  simp [World.setCell, Array.getElem?_modify, h, List.map_set]
theorem EBlk.other {w : World} {g g2 k : Nat} {ws : List Nat} {x : Value} (h : EBlk w g ws) (hne : g2 ≠ g) : EBlk (w.setCell ⟨g2, k, none⟩ x) g ws := by
  unfold EBlk at h ⊢
  simp [World.setCell, Array.getElem?_modify, h, hne]
theorem WBlk.other {w : World} {g g2 k : Nat} {ws : List Nat} {x : Value} (h : WBlk w g ws) (hne : g2 ≠ g) : WBlk (w.setCell ⟨g2, k, none⟩ x) g ws := by
  unfold WBlk at h ⊢
  simp [World.setCell, Array.getElem?_modify, h, hne]
theorem WBlk.alloc {w : World} {g : Nat} {ws : List Nat} (h : WBlk w g ws) (o : Obj) : WBlk (w.alloc o) g ws := (heap_alloc_old w _ (Array.getElem?_eq_some_iff.1 h).1).trans h
theorem EBlk.alloc {w : World} {g : Nat} {ws : List Nat} (h : EBlk w g ws) (o : Obj) : EBlk (w.alloc o) g ws := (heap_alloc_old w _ (Array.getElem?_eq_some_iff.1 h).1).trans h
def Z5 (w : World) (g : Nat) : Prop := EBlk w g [0, 0, 0, 0, 0]
theorem range_new {w : World} {cs : List Value} {T : TypeId} {o1 o2 : Obj} : (((w.alloc (.cells cs.toArray T)).alloc o1).alloc o2).rangeAt w.heap.size 0 cs := by
  have h : (((w.alloc (.cells cs.toArray T)).alloc o1).alloc o2).heap[w.heap.size]? = some (.cells cs.toArray T (0, 0)) := by
    rw [heap_alloc_old _ _ (by simp; omega), heap_alloc_old _ _ (by simp)]; exact heap_alloc_new w _
  intro j v hv
  rw [Nat.zero_add, cell_of_row _ _ _ _ _ _ h]; simpa using hv
def wordsF (bs : List UInt8) : List Nat := [leN (bs.take 8), leN ((bs.drop 8).take 8), leN ((bs.drop 16).take 8), leN ((bs.drop 24).take 8), 0]

theorem leN_app (a : List UInt8) : ∀ b, leN (a ++ b) = leN a + 256 ^ a.length * leN b := by
  intro b
  induction a with
  | nil => simp [leN]
  | cons c a ih => simp only [List.cons_append, leN, ih, List.length_cons, Nat.pow_succ]; rw [Nat.mul_add, Nat.mul_comm (256 ^ a.length) 256, Nat.mul_assoc]; omega
theorem leN_lt : ∀ l : List UInt8, leN l < 256 ^ l.length
  | [] => by simp [leN]
  | c :: l => by
    have h1 := leN_lt l
    have h2 := c.toNat_lt
    rw [List.length_cons, Nat.pow_succ]
    unfold leN
    omega
def segN (bs : List UInt8) (a m : Nat) : Nat := leN ((bs.drop a).take m)
theorem segN_lt (bs : List UInt8) (a m : Nat) : segN bs a m < 256 ^ m := by
  refine Nat.lt_of_lt_of_le (leN_lt _) (Nat.pow_le_pow_right (by decide) ?_)
  rw [List.length_take]; omega
theorem segN_step (bs : List UInt8) (a m : Nat) (c : UInt8) (h : bs[a + m]? = some c) : segN bs a (m + 1) = segN bs a m + c.toNat * 256 ^ m := by
  unfold segN
  rw [List.take_add_one, List.getElem?_drop, h, Option.toList_some, leN_app]
  have hl : ((bs.drop a).take m).length = m := by
    rw [List.length_take, List.length_drop]
    have := (List.getElem?_eq_some_iff.1 h).1
    omega
  rw [hl]; simp [leN, Nat.mul_comm]
theorem wordsF_take (bs : List UInt8) (k : Nat) : wordsF (bs.take k) = [segN bs 0 (min 8 k), segN bs 8 (min 8 (k - 8)), segN bs 16 (min 8 (k - 16)), segN bs 24 (min 8 (k - 24)), 0] := by
  simp [wordsF, segN, List.drop_take, List.take_take]
/-- One byte more. -/
theorem words_step (bs : List UInt8) (k j n : Nat) (c : UInt8) (hk : k < 32) (hj : k / 8 = j) (hc : bs[k]? = some c) (hn : (wordsF (bs.take k))[j]? = some n) :
    wordsF (bs.take (k + 1)) = (wordsF (bs.take k)).set j (n + c.toNat * 2 ^ (8 * (k % 8))) ∧ n < 2 ^ (8 * (k % 8)) := by
  obtain ⟨r, hr⟩ : ∃ r, k % 8 = r := ⟨_, rfl⟩
  have hkr : k = 8 * j + r := by omega
  have hr8 : r < 8 := by omega
  have e256 : (256 : Nat) ^ r = 2 ^ (8 * r) := by rw [Nat.pow_mul]
  rw [hr, ← e256]
  rw [wordsF_take] at hn
  rw [wordsF_take, wordsF_take]
  have hj4 : j = 0 ∨ j = 1 ∨ j = 2 ∨ j = 3 := by omega
  subst hkr
  rcases hj4 with rfl | rfl | rfl | rfl
  · have e1 : min 8 (8 * 0 + r) = r := by omega
    have e2 : min 8 (8 * 0 + r + 1) = r + 1 := by omega
    have e3 : 8 * 0 + r - 8 = 0 := by omega
    have e4 : 8 * 0 + r - 16 = 0 := by omega
    have e5 : 8 * 0 + r - 24 = 0 := by omega
    have e6 : 8 * 0 + r + 1 - 8 = 0 := by omega
    have e7 : 8 * 0 + r + 1 - 16 = 0 := by omega
    have e8 : 8 * 0 + r + 1 - 24 = 0 := by omega
    rw [e1, e3, e4, e5] at hn
    rw [e1, e2, e3, e4, e5, e6, e7, e8]
    simp only [List.getElem?_cons_zero, Option.some.injEq] at hn
    subst hn
    refine ⟨?_, segN_lt _ _ _⟩
    rw [segN_step bs 0 r c (by simpa using hc)]
    rfl
  · have e1 : min 8 (8 * 1 + r - 8) = r := by omega
    have e2 : min 8 (8 * 1 + r + 1 - 8) = r + 1 := by omega
    have e3 : min 8 (8 * 1 + r) = 8 := by omega
    have e4 : 8 * 1 + r - 16 = 0 := by omega
    have e5 : 8 * 1 + r - 24 = 0 := by omega
    have e6 : min 8 (8 * 1 + r + 1) = 8 := by omega
    have e7 : 8 * 1 + r + 1 - 16 = 0 := by omega
    have e8 : 8 * 1 + r + 1 - 24 = 0 := by omega
    rw [e1, e3, e4, e5] at hn
    rw [e1, e2, e3, e4, e5, e6, e7, e8]
    simp only [List.getElem?_cons_succ, List.getElem?_cons_zero, Option.some.injEq] at hn
    subst hn
    refine ⟨?_, segN_lt _ _ _⟩
    rw [segN_step bs 8 r c (by simpa using hc)]
    rfl
  · have e1 : min 8 (8 * 2 + r - 16) = r := by omega
    have e2 : min 8 (8 * 2 + r + 1 - 16) = r + 1 := by omega
    have e3 : min 8 (8 * 2 + r) = 8 := by omega
    have e4 : min 8 (8 * 2 + r - 8) = 8 := by omega
    have e5 : 8 * 2 + r - 24 = 0 := by omega
    have e6 : min 8 (8 * 2 + r + 1) = 8 := by omega
    have e7 : min 8 (8 * 2 + r + 1 - 8) = 8 := by omega
    have e8 : 8 * 2 + r + 1 - 24 = 0 := by omega
    rw [e1, e3, e4, e5] at hn
    rw [e1, e2, e3, e4, e5, e6, e7, e8]
    simp only [List.getElem?_cons_succ, List.getElem?_cons_zero, Option.some.injEq] at hn
    subst hn
    refine ⟨?_, segN_lt _ _ _⟩
    rw [segN_step bs 16 r c (by simpa using hc)]
    rfl
  · have e1 : min 8 (8 * 3 + r - 24) = r := by omega
    have e2 : min 8 (8 * 3 + r + 1 - 24) = r + 1 := by omega
    have e3 : min 8 (8 * 3 + r) = 8 := by omega
    have e4 : min 8 (8 * 3 + r - 8) = 8 := by omega
    have e5 : min 8 (8 * 3 + r - 16) = 8 := by omega
    have e6 : min 8 (8 * 3 + r + 1) = 8 := by omega
    have e7 : min 8 (8 * 3 + r + 1 - 8) = 8 := by omega
    have e8 : min 8 (8 * 3 + r + 1 - 16) = 8 := by omega
    rw [e1, e3, e4, e5] at hn
    rw [e1, e2, e3, e4, e5, e6, e7, e8]
    simp only [List.getElem?_cons_succ, List.getElem?_cons_zero, Option.some.injEq] at hn
    subst hn
    refine ⟨?_, segN_lt _ _ _⟩
    rw [segN_step bs 24 r c (by simpa using hc)]
    rfl
theorem or_word (n c r : Nat) (hn : n < 2 ^ (8 * r)) (hc : c < 256) (hr : r < 8) : bits .or .u64 (n : Int) (IntKind.u64.wrap ((c : Int) * 2 ^ (8 * r))) = ((n + c * 2 ^ (8 * r) : Nat) : Int) := by
  have h8 : 2 ^ (8 * r) ≤ 2 ^ 56 := Nat.pow_le_pow_right (by decide) (by omega)
  have hm : c * 2 ^ (8 * r) ≤ 255 * 2 ^ 56 := Nat.mul_le_mul (by omega) h8
  have e : (c : Int) * 2 ^ (8 * r) = ((c * 2 ^ (8 * r) : Nat) : Int) := by rw [Int.natCast_mul, Int.natCast_pow]; rfl
  rw [e, wraps_u64 _ (by omega) (by omega), (bits_nat .u64 64 (by decide) wraps_u64 n (c * 2 ^ (8 * r)) (by omega) (by omega)).2]
  congr 1
  have h2 := Nat.shiftLeft_add_eq_or_of_lt hn c
  rw [Nat.shiftLeft_eq] at h2
  rw [Nat.or_comm, ← h2]; omega

theorem or_zero (x : Nat) (h : x < 2 ^ 64) : bits .or .u64 (x : Int) 0 = (x : Int) := by
  have := (bits_nat .u64 64 (by decide) wraps_u64 x 0 h (by decide)).2
  rw [Nat.or_zero] at this
  exact this
theorem limb_13 (x y : Nat) (hx : x < 2 ^ 64) (hy : y < 2 ^ 64) :
    bits .and .u64 (bits .or .u64 ((x : Int) / 2251799813685248) (IntKind.u64.wrap ((y : Int) * 8192))) 2251799813685247 = (((x / 2251799813685248 + y * 8192) % 2 ^ 51 : Nat) : Int) := by
  have e1 : (x : Int) / 2251799813685248 = ((x / 2251799813685248 : Nat) : Int) := by omega
  have e2 : IntKind.u64.wrap ((y : Int) * 8192) = ((y % 2251799813685248 * 8192 : Nat) : Int) := by rw [IntKind.wrap_u64]; omega
  have hl : x / 2251799813685248 < 2 ^ 13 := by omega
  have h2 := Nat.shiftLeft_add_eq_or_of_lt hl (y % 2251799813685248)
  rw [Nat.shiftLeft_eq] at h2
  rw [e1, e2, (bits_nat .u64 64 (by decide) wraps_u64 (x / 2251799813685248) (y % 2251799813685248 * 8192) (by omega) (by omega)).2, Nat.or_comm, show y % 2251799813685248 * 8192 = y % 2251799813685248 * 2 ^ 13 from rfl, ← h2, u64_mask51 _ (by omega)]
  congr 1; omega
theorem limb_26 (x y : Nat) (hx : x < 2 ^ 64) (hy : y < 2 ^ 64) :
    bits .and .u64 (bits .or .u64 ((x : Int) / 274877906944) (IntKind.u64.wrap ((y : Int) * 67108864))) 2251799813685247 = (((x / 274877906944 + y * 67108864) % 2 ^ 51 : Nat) : Int) := by
  have e1 : (x : Int) / 274877906944 = ((x / 274877906944 : Nat) : Int) := by omega
  have e2 : IntKind.u64.wrap ((y : Int) * 67108864) = ((y % 274877906944 * 67108864 : Nat) : Int) := by rw [IntKind.wrap_u64]; omega
  have hl : x / 274877906944 < 2 ^ 26 := by omega
  have h2 := Nat.shiftLeft_add_eq_or_of_lt hl (y % 274877906944)
  rw [Nat.shiftLeft_eq] at h2
  rw [e1, e2, (bits_nat .u64 64 (by decide) wraps_u64 (x / 274877906944) (y % 274877906944 * 67108864) (by omega) (by omega)).2, Nat.or_comm, show y % 274877906944 * 67108864 = y % 274877906944 * 2 ^ 26 from rfl, ← h2, u64_mask51 _ (by omega)]
  congr 1; omega
theorem limb_39 (x y : Nat) (hx : x < 2 ^ 64) (hy : y < 2 ^ 64) :
    bits .and .u64 (bits .or .u64 ((x : Int) / 33554432) (IntKind.u64.wrap ((y : Int) * 549755813888))) 2251799813685247 = (((x / 33554432 + y * 549755813888) % 2 ^ 51 : Nat) : Int) := by
  have e1 : (x : Int) / 33554432 = ((x / 33554432 : Nat) : Int) := by omega
  have e2 : IntKind.u64.wrap ((y : Int) * 549755813888) = ((y % 33554432 * 549755813888 : Nat) : Int) := by rw [IntKind.wrap_u64]; omega
  have hl : x / 33554432 < 2 ^ 39 := by omega
  have h2 := Nat.shiftLeft_add_eq_or_of_lt hl (y % 33554432)
  rw [Nat.shiftLeft_eq] at h2
  rw [e1, e2, (bits_nat .u64 64 (by decide) wraps_u64 (x / 33554432) (y % 33554432 * 549755813888) (by omega) (by omega)).2, Nat.or_comm, show y % 33554432 * 549755813888 = y % 33554432 * 2 ^ 39 from rfl, ← h2, u64_mask51 _ (by omega)]
  congr 1; omega
theorem limb_0 (x y : Nat) (hx : x < 2 ^ 64) : bits .and .u64 (bits .or .u64 (x : Int) (IntKind.u64.wrap ((y : Int) * 18446744073709551616))) 2251799813685247 = ((x % 2 ^ 51 : Nat) : Int) := by
  have e2 : IntKind.u64.wrap ((y : Int) * 18446744073709551616) = 0 := by rw [IntKind.wrap_u64]; omega
  rw [e2, or_zero x hx, u64_mask51 x hx]
theorem limb_4 (x : Nat) (hx : x < 2 ^ 64) : bits .and .u64 (bits .or .u64 ((x : Int) / 4096) 0) 2251799813685247 = ((x / 4096 % 2 ^ 51 : Nat) : Int) := by
  rw [show (x : Int) / 4096 = ((x / 4096 : Nat) : Int) by omega, or_zero _ (by omega), u64_mask51 _ (by omega)]
theorem words_val (bs : List UInt8) (hl : bs.length = 32) (w0 w1 w2 w3 : Nat) (h : wordsF bs = [w0, w1, w2, w3, 0]) : leN bs = w0 + 2 ^ 64 * w1 + 2 ^ 128 * w2 + 2 ^ 192 * w3 ∧ w0 < 2 ^ 64 ∧ w1 < 2 ^ 64 ∧ w2 < 2 ^ 64 ∧ w3 < 2 ^ 64 := by
  unfold wordsF at h
  simp only [List.cons.injEq, and_true] at h
  obtain ⟨h0, h1, h2, h3⟩ := h
  have b0 := leN_lt (bs.take 8)
  have b1 := leN_lt ((bs.drop 8).take 8)
  have b2 := leN_lt ((bs.drop 16).take 8)
  have b3 := leN_lt ((bs.drop 24).take 8)
  have n0 : (bs.take 8).length = 8 := by simp; omega
  have n1 : ((bs.drop 8).take 8).length = 8 := by simp; omega
  have n2 : ((bs.drop 16).take 8).length = 8 := by simp; omega
  have n3 : ((bs.drop 24).take 8).length = 8 := by simp; omega
  rw [h0, n0] at b0
  rw [h1, n1] at b1
  rw [h2, n2] at b2
  rw [h3, n3] at b3
  have e : bs = bs.take 8 ++ ((bs.drop 8).take 8 ++ ((bs.drop 16).take 8 ++ (bs.drop 24).take 8)) := by
    have d1 : bs.drop 16 = (bs.drop 8).drop 8 := by rw [List.drop_drop]
    have d2 : bs.drop 24 = (bs.drop 16).drop 8 := by rw [List.drop_drop]
    have d3 : (bs.drop 24).take 8 = bs.drop 24 := List.take_of_length_le (by simp; omega)
    rw [d3, d2, List.take_append_drop, d1, List.take_append_drop, List.take_append_drop]
  refine ⟨?_, by omega, by omega, by omega, by omega⟩
  rw [e, leN_app, leN_app, leN_app, h0, h1, h2, h3, n0, n1, n2]
  omega
theorem of_val (w0 w1 w2 w3 : Nat) (l0 : w0 < 2 ^ 64) (l1 : w1 < 2 ^ 64) (l2 : w2 < 2 ^ 64) (l3 : w3 < 2 ^ 64) :
    val5 (w0 % 2 ^ 51 + 19 * (w3 / 2 ^ 63)) ((w0 / 2251799813685248 + w1 * 8192) % 2 ^ 51) ((w1 / 274877906944 + w2 * 67108864) % 2 ^ 51) ((w2 / 33554432 + w3 * 549755813888) % 2 ^ 51) (w3 / 4096 % 2 ^ 51) + P * (w3 / 2 ^ 63) =
      w0 + 2 ^ 64 * w1 + 2 ^ 128 * w2 + 2 ^ 192 * w3 := by
  have r1 : (w0 / 2251799813685248 + w1 * 8192) / 2 ^ 51 = w1 / 274877906944 := by clear l2 l3; omega
  have r2 : (w1 / 274877906944 + w2 * 67108864) / 2 ^ 51 = w2 / 33554432 := by clear r1 l0 l3; omega
  have r3 : (w2 / 33554432 + w3 * 549755813888) / 2 ^ 51 = w3 / 4096 := by clear r1 r2 l0 l1; omega
  have r4 : (w3 / 4096) / 2 ^ 51 = w3 / 2 ^ 63 := by clear r1 r2 r3; omega
  have d0 := Nat.div_add_mod w0 (2 ^ 51)
  have d1 := Nat.div_add_mod (w0 / 2251799813685248 + w1 * 8192) (2 ^ 51)
  have d2 := Nat.div_add_mod (w1 / 274877906944 + w2 * 67108864) (2 ^ 51)
  have d3 := Nat.div_add_mod (w2 / 33554432 + w3 * 549755813888) (2 ^ 51)
  have d4 := Nat.div_add_mod (w3 / 4096) (2 ^ 51)
  rw [r1] at d1
  rw [r2] at d2
  rw [r3] at d3
  rw [r4] at d4
  have e0 : w0 / 2 ^ 51 = w0 / 2251799813685248 := rfl
  rw [e0] at d0
  clear r1 r2 r3 r4 e0 l0 l1 l2 l3
  generalize (w0 / 2251799813685248 + w1 * 8192) % 2 ^ 51 = f1 at *
  generalize (w1 / 274877906944 + w2 * 67108864) % 2 ^ 51 = f2 at *
  generalize (w2 / 33554432 + w3 * 549755813888) % 2 ^ 51 = f3 at *
  generalize w3 / 4096 % 2 ^ 51 = f4 at *
  generalize w0 % 2 ^ 51 = f0 at *
  generalize w0 / 2251799813685248 = q0 at *
  generalize w1 / 274877906944 = q1 at *
  generalize w2 / 33554432 = q2 at *
  generalize w3 / 4096 = q3 at *
  generalize w3 / 2 ^ 63 = q4 at *
  unfold val5 P
  omega
def OfS (w W : World) (ws ls : List Nat) : Prop := WBlk W (w.heap.size + 1 + 1) ws ∧ EBlk W (w.heap.size + 3) ls ∧ EBlk W (w.heap.size + 1) [0, 0, 0, 0, 0] ∧ Below w.heap.size w W
theorem OfS.step {w W : World} {ws ls : List Nat} (h : OfS w W ws ls) (k n : Nat) : OfS w (W.setCell ⟨w.heap.size + 3, k, none⟩ (.int .u64 (n : Int))).drew ws (ls.set k n) :=
  ⟨h.1.other (by omega), h.2.1.set_ k n, h.2.2.1.other (by omega), (h.2.2.2.setCell (by show w.heap.size ≤ w.heap.size + 3; omega) _).drewN 1⟩
def OfRel (w : World) (w0 w1 w2 w3 f0 f1 f2 f3 f4 : Nat) (i : Value) (wr : World) : Prop := (i = .int .i64 0 ∧ OfS w wr [w0, w1, w2, w3, 0] [0, 0, 0, 0, 0]) ∨ (i = .int .i64 1 ∧ OfS w wr [w0, w1, w2, w3, 0] [f0, 0, 0, 0, 0]) ∨ (i = .int .i64 2 ∧ OfS w wr [w0, w1, w2, w3, 0] [f0, f1, 0, 0, 0]) ∨ (i = .int .i64 3 ∧ OfS w wr [w0, w1, w2, w3, 0] [f0, f1, f2, 0, 0]) ∨ (i = .int .i64 4 ∧ OfS w wr [w0, w1, w2, w3, 0] [f0, f1, f2, f3, 0]) ∨ (i = .int .i64 5 ∧ OfS w wr [w0, w1, w2, w3, 0] [f0, f1, f2, f3, f4])
set_option maxRecDepth 100000 in
set_option maxHeartbeats 4000000 in
theorem of_calls (bs : List UInt8) (hl : bs.length = 32) (w : World) :
    Calls Try.prog 13 #[A32 bs] w (ElPost (leN bs) w) := by
  unfold A32
  obtain ⟨cs, hcs⟩ : ∃ cs, u8s bs = cs := ⟨_, rfl⟩
  rw [hcs]
  go_enter Try.func13, Try.ntmps13
  have hi32 : (Try.prog.info? 22).map (·.size) = some cs.length := by
    have e : cs.length = 32 := by rw [← hcs]; simp [u8s, hl]
    rw [e]; exact size32
  have HI := Lib.hid hi32
  have HCS := Lib.hid hcs
  clear hi32 hcs
  go_wp2_with ((refine wpList_load_mid rfl 22 _ rfl w.heap.size 0 rfl cs _ range_new Try.underlying22 rfl HI.out ?_))
  go_loopw [11] (fun i wr => ∃ k : Nat, k ≤ 32 ∧ i = .int .i64 (k : Int) ∧ WBlk wr (w.heap.size + 1 + 1) (wordsF (bs.take k)) ∧ Z5 wr (w.heap.size + 1) ∧ Below w.heap.size w wr ∧ wr.heap.size = w.heap.size + 3) (fun i _ => 32 - (intOf i).toNat)
  case atStart =>
    refine ⟨0, by omega, rfl, ?_, ?_, ((((Below.refl _ _).alloc (Nat.le_refl _) _).alloc (by simp) _).alloc (by simp; omega) _), by simp⟩
    · have h := heap_alloc_new ((w.alloc (.cells cs.toArray 22)).alloc (.cells #[.int .u64 0, .int .u64 0, .int .u64 0, .int .u64 0, .int .u64 0] 27)) (.cells #[.int .u64 0, .int .u64 0, .int .u64 0, .int .u64 0, .int .u64 0] 25)
      simpa [WBlk, wordsF, leN] using h
    · have h := heap_alloc_new (w.alloc (.cells cs.toArray 22)) (.cells #[.int .u64 0, .int .u64 0, .int .u64 0, .int .u64 0, .int .u64 0] 27)
      have h2 : EBlk ((w.alloc (.cells cs.toArray 22)).alloc (.cells #[.int .u64 0, .int .u64 0, .int .u64 0, .int .u64 0, .int .u64 0] 27)) (w.heap.size + 1) [0, 0, 0, 0, 0] := by simpa [EBlk] using h
      exact h2.alloc _
  case round =>
    obtain ⟨k, hk, rfl, hwb, hz5, hbr, hsz⟩ := hrel
    by_cases hp : k < 32
    · obtain ⟨c, hc⟩ : ∃ c, bs[k]? = some c := ⟨bs[k], List.getElem?_eq_getElem (by omega)⟩
      have hcs : cs[k]? = some (.int .u8 (c.toNat : Int)) := by rw [← HCS.out]; simp [u8s, hc]
      have hix := idx32 cs k hp _ hcs
      have hcl := c.toNat_lt
      have HSZ := Lib.hid hsz
      have hk8 : (k : Int) / 8 = ((k / 8 : Nat) : Int) := by omega
      obtain ⟨j, hj⟩ : ∃ j, k / 8 = j := ⟨_, rfl⟩
      rw [hj] at hk8
      have hjl : j < 4 := by omega
      obtain ⟨n, hn⟩ : ∃ n, (wordsF (bs.take k))[j]? = some n := by
        have : j < (wordsF (bs.take k)).length := by simp [wordsF]; omega
        exact ⟨_, List.getElem?_eq_getElem this⟩
      have hcell := hwb.cell hn
      have hfr := hwb.frozen j
      obtain ⟨hst, hlt⟩ := words_step bs k j n c hp hj hc hn
      have hor := or_word n c.toNat (k % 8) hlt hcl (by omega)
      generalize n + c.toNat * 2 ^ (8 * (k % 8)) = n2 at *
      have hb2 : WBlk (wr.setCell ⟨w.heap.size + 1 + 1, j, none⟩ (.int .u64 (n2 : Int))) (w.heap.size + 1 + 1) (wordsF (bs.take (k + 1))) := by rw [hst]; exact hwb.set_ j n2
      have HB2 := Lib.hid hb2
      have hz2 : Z5 (wr.setCell ⟨w.heap.size + 1 + 1, j, none⟩ (.int .u64 (n2 : Int))) (w.heap.size + 1) := by
        exact EBlk.other hz5 (by omega)
      have HZ2 := Lib.hid hz2
      clear hsz hcs hst hlt hn hb2 hz2
      go_wp2_with fail
      go_region
      all_goals go_wp2_with fail
      all_goals exact ⟨⟨k + 1, by omega, by go_num, HB2.out, HZ2.out, (hbr.setCell (by show w.heap.size ≤ w.heap.size + 1 + 1; omega) _).drewN 1, by simpa [World.setCell] using HSZ.out⟩, by simp [intOf]; omega⟩
    · have hk32 : k = 32 := by omega
      subst hk32
      rw [List.take_of_length_le (by omega)] at hwb
      go_wp2_with fail
      obtain ⟨w0, w1, w2, w3, hws⟩ : ∃ w0 w1 w2 w3 : Nat, wordsF bs = [w0, w1, w2, w3, 0] := ⟨_, _, _, _, rfl⟩
      rw [hws] at hwb
      have HWS := Lib.hid hws
      clear hws
      obtain ⟨hv, l0, l1, l2, l3⟩ := words_val bs hl w0 w1 w2 w3 HWS.out
      have F0 := limb_0 w0 w1 l0
      have F1 := limb_13 w0 w1 l0 l1
      have F2 := limb_26 w1 w2 l1 l2
      have F3 := limb_39 w2 w3 l2 l3
      have F4 := limb_4 w3 l3
      obtain ⟨f0, e0⟩ : ∃ x, w0 % 2 ^ 51 = x := ⟨_, rfl⟩
      obtain ⟨f1, e1⟩ : ∃ x, (w0 / 2251799813685248 + w1 * 8192) % 2 ^ 51 = x := ⟨_, rfl⟩
      obtain ⟨f2, e2⟩ : ∃ x, (w1 / 274877906944 + w2 * 67108864) % 2 ^ 51 = x := ⟨_, rfl⟩
      obtain ⟨f3, e3⟩ : ∃ x, (w2 / 33554432 + w3 * 549755813888) % 2 ^ 51 = x := ⟨_, rfl⟩
      obtain ⟨f4, e4⟩ : ∃ x, w3 / 4096 % 2 ^ 51 = x := ⟨_, rfl⟩
      rw [e0] at F0
      rw [e1] at F1
      rw [e2] at F2
      rw [e3] at F3
      rw [e4] at F4
      have G1 : IntKind.u64.wrap (19 * ((w3 : Int) / 9223372036854775808)) = ((19 * (w3 / 2 ^ 63) : Nat) : Int) := by
        rw [show 19 * ((w3 : Int) / 9223372036854775808) = ((19 * (w3 / 2 ^ 63) : Nat) : Int) by omega]; exact wraps_u64 _ (by omega) (by omega)
      have G2 : IntKind.u64.wrap ((f0 : Int) + ((19 * (w3 / 2 ^ 63) : Nat) : Int)) = ((f0 + 19 * (w3 / 2 ^ 63) : Nat) : Int) := u64_add _ _ (by omega)
      obtain ⟨c19, hc19⟩ : ∃ x, 19 * (w3 / 2 ^ 63) = x := ⟨_, rfl⟩
      rw [hc19] at G1 G2
      obtain ⟨g0, hg0⟩ : ∃ x, f0 + c19 = x := ⟨_, rfl⟩
      rw [hg0] at G2
      have hel : IsEl (.agg #[.int .u64 (g0 : Int), .int .u64 (f1 : Int), .int .u64 (f2 : Int), .int .u64 (f3 : Int), .int .u64 (f4 : Int)]) (leN bs) := by
        refine ⟨g0, f1, f2, f3, f4, rfl, by unfold Ok5; omega, ?_⟩
        have e : val5 g0 f1 f2 f3 f4 + P * (w3 / 2 ^ 63) = leN bs := by
          have := of_val w0 w1 w2 w3 l0 l1 l2 l3
          rw [e0, e1, e2, e3, e4, hc19, hg0] at this
          rw [hv]; exact this
        rw [← e, Nat.add_mul_mod_self_left]
      have HEL := Lib.hid hel
      have V0 := Lib.hid F0
      have V1 := Lib.hid F1
      have V2 := Lib.hid F2
      have V3 := Lib.hid F3
      have V4 := Lib.hid F4
      clear e0 e1 e2 e3 e4 hc19 hg0 hv l0 l1 l2 l3 hel F0 F1 F2 F3 F4
      have hs0 : OfS w (wr.alloc (.cells #[.int .u64 0, .int .u64 0, .int .u64 0, .int .u64 0, .int .u64 0] 27)) [w0, w1, w2, w3, 0] [0, 0, 0, 0, 0] := by
        refine ⟨hwb.alloc _, ?_, EBlk.alloc hz5 _, hbr.alloc hbr.size _⟩
        have h := heap_alloc_new wr (.cells #[.int .u64 0, .int .u64 0, .int .u64 0, .int .u64 0, .int .u64 0] 27)
        rw [hsz] at h
        simpa [EBlk] using h
      have HS0 := Lib.hid hs0
      clear hs0 hwb hz5 hbr hsz hk hp
      go_loopw [28] (OfRel w w0 w1 w2 w3 f0 f1 f2 f3 f4) (fun i _ => 5 - (intOf i).toNat)
      case atStart => exact .inl ⟨rfl, HS0.out⟩
      case round =>
        rcases hrel with ⟨rfl, hs⟩ | ⟨rfl, hs⟩ | ⟨rfl, hs⟩ | ⟨rfl, hs⟩ | ⟨rfl, hs⟩ | ⟨rfl, hs⟩
        · have g1 := hs.1.cell (k := 0) rfl
          have g2 := hs.1.cell (k := 1) rfl
          have g3 := hs.2.1.cell (k := 0) rfl
          have g4 := hs.2.1.frozen 0
          have V := V0.out
          have hnx := OfS.step hs 0 f0
          clear hs
          go_wp2_with fail
          go_region
          all_goals go_wp2_with fail
          all_goals exact ⟨.inr (.inl ⟨rfl, hnx⟩), by simp [intOf]⟩
        · have g1 := hs.1.cell (k := 0) rfl
          have g2 := hs.1.cell (k := 1) rfl
          have g3 := hs.2.1.cell (k := 1) rfl
          have g4 := hs.2.1.frozen 1
          have V := V1.out
          have hnx := OfS.step hs 1 f1
          clear hs
          go_wp2_with fail
          go_region
          all_goals go_wp2_with fail
          all_goals exact ⟨.inr (.inr (.inl ⟨rfl, hnx⟩)), by simp [intOf]⟩
        · have g1 := hs.1.cell (k := 1) rfl
          have g2 := hs.1.cell (k := 2) rfl
          have g3 := hs.2.1.cell (k := 2) rfl
          have g4 := hs.2.1.frozen 2
          have V := V2.out
          have hnx := OfS.step hs 2 f2
          clear hs
          go_wp2_with fail
          go_region
          all_goals go_wp2_with fail
          all_goals exact ⟨.inr (.inr (.inr (.inl ⟨rfl, hnx⟩))), by simp [intOf]⟩
        · have g1 := hs.1.cell (k := 2) rfl
          have g2 := hs.1.cell (k := 3) rfl
          have g3 := hs.2.1.cell (k := 3) rfl
          have g4 := hs.2.1.frozen 3
          have V := V3.out
          have hnx := OfS.step hs 3 f3
          clear hs
          go_wp2_with fail
          go_region
          all_goals go_wp2_with fail
          all_goals exact ⟨.inr (.inr (.inr (.inr (.inl ⟨rfl, hnx⟩)))), by simp [intOf]⟩
        · have g1 := hs.1.cell (k := 3) rfl
          have g2 := hs.1.cell (k := 4) rfl
          have g3 := hs.2.1.cell (k := 4) rfl
          have g4 := hs.2.1.frozen 4
          have V := V4.out
          have hnx := OfS.step hs 4 f4
          clear hs
          go_wp2_with fail
          go_region
          all_goals go_wp2_with fail
          all_goals exact ⟨.inr (.inr (.inr (.inr (.inr (⟨rfl, hnx⟩))))), by simp [intOf]⟩
        · have g1 := hs.1.cell (k := 3) rfl
          have g2 := hs.2.1.cell (k := 0) rfl
          have g3 := hs.2.1.frozen 0
          have c1 := hs.2.1.cell (k := 1) rfl
          have c2 := hs.2.1.cell (k := 2) rfl
          have c3 := hs.2.1.cell (k := 3) rfl
          have c4 := hs.2.1.cell (k := 4) rfl
          have y0 := hs.2.2.1.cell (k := 0) rfl
          have y1 := hs.2.2.1.cell (k := 1) rfl
          have y2 := hs.2.2.1.cell (k := 2) rfl
          have y3 := hs.2.2.1.cell (k := 3) rfl
          have y4 := hs.2.2.1.cell (k := 4) rfl
          have x0 := hs.2.2.1.frozen 0
          have x1 := hs.2.2.1.frozen 1
          have x2 := hs.2.2.1.frozen 2
          have x3 := hs.2.2.1.frozen 3
          have x4 := hs.2.2.1.frozen 4
          have HS := Lib.hid hs
          clear hs
          go_wp2
          exact bodyPost_ret (v := .agg #[.int .u64 (g0 : Int), .int .u64 (f1 : Int), .int .u64 (f2 : Int), .int .u64 (f3 : Int), .int .u64 (f4 : Int)]) (by simp [results, Try.results13, go_sem, y0, y1, y2, y3, y4]) rfl
            ⟨_, rfl, HEL.out, below_set5 (HS.out.2.2.2.setCell (by show w.heap.size ≤ w.heap.size + 3; omega) _) _ (by omega) _ _ _ _ _⟩
end Go.Proofs.Ytpdoegfmngibgaa
