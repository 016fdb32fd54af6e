/- Layer 4: a rest's bytes. -/
import Derived.Test.YtpdoegfmngibgaaFdE
import Derived.Test.YtpdoegfmngibgaaFdF
namespace Go.Proofs.Ytpdoegfmngibgaa
open Go.ChangeShapes Go.WideShapes Go.ChangeAt Go.RowKit Go.IntWalk
set_option linter.unusedVariables false

/-- So many bytes of a number, the lowest first. -/
def leB : Nat → Nat → List UInt8
  | 0, _ => []
  | k + 1, n => UInt8.ofNat (n % 256) :: leB k (n / 256)
def BPost (bs : List UInt8) (w : World) (e : Ending) (w' : World) : Prop := e = .returned (A32 bs) ∧ Below w.heap.size w w'
/-- 32 cells, nought, in a block. -/
def ByS (w W : World) (ws : List Nat) : Prop := WBlk W (w.heap.size + 1 + 1) ws ∧ W.heap[w.heap.size + 1]? = some (.cells (u8s (List.replicate 32 0)).toArray 22 (0, 0)) ∧ Below w.heap.size w W
theorem ByS.start {w x : World} {cs : Array Value} (b : Below (((w.alloc (.cells cs 27)).alloc (.cells #[.int .u8 0, .int .u8 0, .int .u8 0, .int .u8 0, .int .u8 0, .int .u8 0, .int .u8 0, .int .u8 0, .int .u8 0, .int .u8 0, .int .u8 0, .int .u8 0, .int .u8 0, .int .u8 0, .int .u8 0, .int .u8 0, .int .u8 0, .int .u8 0, .int .u8 0, .int .u8 0, .int .u8 0, .int .u8 0, .int .u8 0, .int .u8 0, .int .u8 0, .int .u8 0, .int .u8 0, .int .u8 0, .int .u8 0, .int .u8 0, .int .u8 0, .int .u8 0] 22)).alloc (.cells #[.int .u64 0, .int .u64 0, .int .u64 0, .int .u64 0, .int .u64 0] 25)).heap.size
    (((w.alloc (.cells cs 27)).alloc (.cells #[.int .u8 0, .int .u8 0, .int .u8 0, .int .u8 0, .int .u8 0, .int .u8 0, .int .u8 0, .int .u8 0, .int .u8 0, .int .u8 0, .int .u8 0, .int .u8 0, .int .u8 0, .int .u8 0, .int .u8 0, .int .u8 0, .int .u8 0, .int .u8 0, .int .u8 0, .int .u8 0, .int .u8 0, .int .u8 0, .int .u8 0, .int .u8 0, .int .u8 0, .int .u8 0, .int .u8 0, .int .u8 0, .int .u8 0, .int .u8 0, .int .u8 0, .int .u8 0] 22)).alloc (.cells #[.int .u64 0, .int .u64 0, .int .u64 0, .int .u64 0, .int .u64 0] 25)) x) : ByS w x [0, 0, 0, 0, 0] := by
  refine ⟨?_, ?_, below3 b⟩
  · have h := heap_alloc_new ((w.alloc (.cells cs 27)).alloc (.cells #[.int .u8 0, .int .u8 0, .int .u8 0, .int .u8 0, .int .u8 0, .int .u8 0, .int .u8 0, .int .u8 0, .int .u8 0, .int .u8 0, .int .u8 0, .int .u8 0, .int .u8 0, .int .u8 0, .int .u8 0, .int .u8 0, .int .u8 0, .int .u8 0, .int .u8 0, .int .u8 0, .int .u8 0, .int .u8 0, .int .u8 0, .int .u8 0, .int .u8 0, .int .u8 0, .int .u8 0, .int .u8 0, .int .u8 0, .int .u8 0, .int .u8 0, .int .u8 0] 22)) (.cells #[.int .u64 0, .int .u64 0, .int .u64 0, .int .u64 0, .int .u64 0] 25)
    rw [show ((w.alloc (.cells cs 27)).alloc (.cells #[.int .u8 0, .int .u8 0, .int .u8 0, .int .u8 0, .int .u8 0, .int .u8 0, .int .u8 0, .int .u8 0, .int .u8 0, .int .u8 0, .int .u8 0, .int .u8 0, .int .u8 0, .int .u8 0, .int .u8 0, .int .u8 0, .int .u8 0, .int .u8 0, .int .u8 0, .int .u8 0, .int .u8 0, .int .u8 0, .int .u8 0, .int .u8 0, .int .u8 0, .int .u8 0, .int .u8 0, .int .u8 0, .int .u8 0, .int .u8 0, .int .u8 0, .int .u8 0] 22)).heap.size = w.heap.size + 1 + 1 by simp] at h
    exact (b.block _ (by simp)).trans h
  · have h := heap_alloc_new (w.alloc (.cells cs 27)) (.cells #[.int .u8 0, .int .u8 0, .int .u8 0, .int .u8 0, .int .u8 0, .int .u8 0, .int .u8 0, .int .u8 0, .int .u8 0, .int .u8 0, .int .u8 0, .int .u8 0, .int .u8 0, .int .u8 0, .int .u8 0, .int .u8 0, .int .u8 0, .int .u8 0, .int .u8 0, .int .u8 0, .int .u8 0, .int .u8 0, .int .u8 0, .int .u8 0, .int .u8 0, .int .u8 0, .int .u8 0, .int .u8 0, .int .u8 0, .int .u8 0, .int .u8 0, .int .u8 0] 22)
    rw [show (w.alloc (.cells cs 27)).heap.size = w.heap.size + 1 by simp] at h
    exact (b.block _ (by simp)).trans ((heap_alloc_old _ _ (by simp)).trans h)
theorem ByS.step {w W : World} {ws : List Nat} (h : ByS w W ws) (k n : Nat) : ByS w (W.setCell ⟨w.heap.size + 1 + 1, k, none⟩ (.int .u64 (n : Int))).drew (ws.set k n) := by
  refine ⟨h.1.set_ k n, ?_, (h.2.2.setCell (by show w.heap.size ≤ w.heap.size + 1 + 1; omega) _).drewN 1⟩
  have h2 := h.2.1
  show (W.setCell _ _).heap[w.heap.size + 1]? = _
  simp only [World.setCell, Array.getElem?_modify]
  rw [if_neg (by omega)]; exact h2
theorem or_shift (x y s A B : Nat) (hs : 2 ^ s = A) (hA : A * B = 2 ^ 64) (hx : x < A) : bits .or .u64 (x : Int) (IntKind.u64.wrap ((y : Int) * (A : Int))) = ((x + y % B * A : Nat) : Int) := by
  have hA0 : 0 < A := by omega
  have hB0 : 0 < B := Nat.pos_of_ne_zero fun e => by subst e; omega
  have e1 : IntKind.u64.wrap ((y : Int) * (A : Int)) = ((y % B * A : Nat) : Int) := by
    rw [IntKind.wrap_u64]
    have : ((y : Int) * (A : Int)) = ((y * A : Nat) : Int) := by rw [Int.natCast_mul]
    rw [this]
    have e2 : y * A % 2 ^ 64 = y % B * A := by rw [← hA, Nat.mul_comm A B, Nat.mul_mod_mul_right]
    rw [← e2]
    omega
  have hyb : y % B < B := Nat.mod_lt _ hB0
  have hlt : y % B * A + A ≤ 2 ^ 64 := by
    have : (y % B + 1) * A ≤ B * A := Nat.mul_le_mul_right _ hyb
    rw [Nat.mul_comm B A, hA, Nat.succ_mul] at this
    exact this
  rw [e1, (bits_nat .u64 64 (by decide) wraps_u64 x (y % B * A) (by omega) (by omega)).2]
  congr 1
  have h2 := Nat.shiftLeft_add_eq_or_of_lt (i := s) (b := x) (by rw [hs]; exact hx) (y % B)
  rw [Nat.shiftLeft_eq, hs] at h2
  rw [Nat.or_comm, ← h2]; omega
theorem zero_or (x : Nat) (h : x < 2 ^ 64) : bits .or .u64 0 (x : Int) = (x : Int) := by
  have := (bits_nat .u64 64 (by decide) wraps_u64 0 x (by decide) h).2
  rw [Nat.zero_or] at this
  exact this
/-- The words of five limbs. -/
theorem limb_words (n0 n1 n2 n3 n4 : Nat) (h0 : n0 < 2 ^ 51) (h1 : n1 < 2 ^ 51) (h2 : n2 < 2 ^ 51) (h3 : n3 < 2 ^ 51) (h4 : n4 < 2 ^ 51) :
    ∃ w0 w1 w2 w3 a1 a2 a3 : Nat, bits .or .u64 0 (IntKind.u64.wrap (n0 : Int)) = (n0 : Int) ∧ bits .or .u64 0 ((n0 : Int) / 18446744073709551616) = 0 ∧
      bits .or .u64 (n0 : Int) (IntKind.u64.wrap ((n1 : Int) * 2251799813685248)) = (w0 : Int) ∧ bits .or .u64 0 ((n1 : Int) / 8192) = (a1 : Int) ∧
      bits .or .u64 (a1 : Int) (IntKind.u64.wrap ((n2 : Int) * 274877906944)) = (w1 : Int) ∧ bits .or .u64 0 ((n2 : Int) / 67108864) = (a2 : Int) ∧
      bits .or .u64 (a2 : Int) (IntKind.u64.wrap ((n3 : Int) * 33554432)) = (w2 : Int) ∧ bits .or .u64 0 ((n3 : Int) / 549755813888) = (a3 : Int) ∧
      bits .or .u64 (a3 : Int) (IntKind.u64.wrap ((n4 : Int) * 4096)) = (w3 : Int) ∧ bits .or .u64 0 ((n4 : Int) / 4503599627370496) = 0 ∧
      (w0 < 2 ^ 64 ∧ w1 < 2 ^ 64 ∧ w2 < 2 ^ 64 ∧ w3 < 2 ^ 64) ∧ val5 n0 n1 n2 n3 n4 = w0 + 2 ^ 64 * w1 + 2 ^ 128 * w2 + 2 ^ 192 * w3 := by
  refine ⟨n0 + n1 % 8192 * 2251799813685248, n1 / 8192 + n2 % 67108864 * 274877906944, n2 / 67108864 + n3 % 549755813888 * 33554432, n3 / 549755813888 + n4 % 4503599627370496 * 4096, n1 / 8192, n2 / 67108864, n3 / 549755813888, ?_, ?_, ?_, ?_, ?_, ?_, ?_, ?_, ?_, ?_, ?_, ?_⟩
  · rw [wraps_u64 _ (by omega) (by omega)]; exact zero_or n0 (by omega)
  · rw [show (n0 : Int) / 18446744073709551616 = ((0 : Nat) : Int) by omega]; exact zero_or 0 (by omega)
  · exact or_shift n0 n1 51 2251799813685248 8192 rfl rfl (by omega)
  · rw [show (n1 : Int) / 8192 = ((n1 / 8192 : Nat) : Int) by omega]; exact zero_or _ (by omega)
  · exact or_shift (n1 / 8192) n2 38 274877906944 67108864 rfl rfl (by omega)
  · rw [show (n2 : Int) / 67108864 = ((n2 / 67108864 : Nat) : Int) by omega]; exact zero_or _ (by omega)
  · exact or_shift (n2 / 67108864) n3 25 33554432 549755813888 rfl rfl (by omega)
  · rw [show (n3 : Int) / 549755813888 = ((n3 / 549755813888 : Nat) : Int) by omega]; exact zero_or _ (by omega)
  · exact or_shift (n3 / 549755813888) n4 12 4096 4503599627370496 rfl rfl (by omega)
  · rw [show (n4 : Int) / 4503599627370496 = ((0 : Nat) : Int) by omega]; exact zero_or 0 (by omega)
  · refine ⟨by omega, by omega, by omega, by omega⟩
  · unfold val5
    have d1 := Nat.div_add_mod n1 8192
    have d2 := Nat.div_add_mod n2 67108864
    have d3 := Nat.div_add_mod n3 549755813888
    rw [Nat.mod_eq_of_lt (show n4 < 4503599627370496 by omega)]
    omega
theorem results_cell {fn : Func} {p : Tmp} {ty : TypeId} (h : fn.results = #[.cell p ty]) (tmps : Array Value) (a : Addr) (v : Value) (W : World) (hp : tmps.getD p undef = .pointer (some a)) (hld : (loadVar ty a).run Try.prog W = .ok v W) : (results fn tmps).run Try.prog W = .ok v W := by
  simp only [results, h]
  simp only [Array.getD_eq_getD_getElem?] at hp
  simp [hp, asAddr, hld]
theorem below_cells {B b : Nat} {a : World} (hb : B ≤ b) : ∀ (vs : List Value) (o : Nat) (w : World), Below B a w → Below B a (w.setCells b o vs)
  | [], _, _, h => h
  | v :: vs, o, w, h => below_cells hb vs (o + 1) _ (h.setCell hb v)
theorem leB_len : ∀ k n, (leB k n).length = k
  | 0, n => rfl
  | k + 1, n => by simp [leB, leB_len k]
def byteF (N k : Nat) : UInt8 := UInt8.ofNat (N / 256 ^ k % 256)
theorem leB_get : ∀ (m n k : Nat), k < m → (leB m n)[k]? = some (byteF n k)
  | 0, n, k, h => by omega
  | m + 1, n, 0, h => by simp [leB, byteF]
  | m + 1, n, k + 1, h => by
    rw [leB, List.getElem?_cons_succ, leB_get m (n / 256) k (by omega)]
    unfold byteF
    rw [Nat.div_div_eq_div_mul, Nat.pow_succ, Nat.mul_comm]
def outF (N k : Nat) : List UInt8 := (leB 32 N).take k ++ List.replicate (32 - k) 0
theorem outF_len (N k : Nat) (h : k ≤ 32) : (outF N k).length = 32 := by
  unfold outF; rw [List.length_append, List.length_take, leB_len, List.length_replicate]; omega
theorem outF_step (N k : Nat) (h : k < 32) : (outF N k).set k (byteF N k) = outF N (k + 1) := by
  unfold outF
  have hl : ((leB 32 N).take k).length = k := by rw [List.length_take, leB_len]; omega
  rw [List.set_append_right _ _ (by omega), hl, Nat.sub_self, List.take_add_one, leB_get 32 N k h, Option.toList_some, List.append_assoc]
  congr 1
  rw [show 32 - k = (32 - (k + 1)) + 1 by omega, List.replicate_succ]
  rfl
theorem byte_at {w0 w1 w2 w3 N k j n : Nat} (hl : w0 < 2 ^ 64 ∧ w1 < 2 ^ 64 ∧ w2 < 2 ^ 64 ∧ w3 < 2 ^ 64) (hN : w0 + 2 ^ 64 * w1 + 2 ^ 128 * w2 + 2 ^ 192 * w3 = N) (hk : k < 32) (hj : k / 8 = j) (hn : [w0, w1, w2, w3, 0][j]? = some n) :
    IntKind.u8.wrap ((n : Int) / 2 ^ (8 * (k % 8))) = ((byteF N k).toNat : Int) := by
  obtain ⟨r, hr⟩ : ∃ r, k % 8 = r := ⟨_, rfl⟩
  have hkr : k = 8 * j + r := by omega
  have hj4 : j < 4 := by omega
  rw [hr]
  have e1 : N / 2 ^ (64 * j) % 2 ^ 64 = n := by
    have : j = 0 ∨ j = 1 ∨ j = 2 ∨ j = 3 := by omega
    rcases this with rfl | rfl | rfl | rfl <;> (simp at hn; omega)
  have e2 : N / 256 ^ k = N / 2 ^ (64 * j) / 2 ^ (8 * r) := by
    rw [Nat.div_div_eq_div_mul, ← Nat.pow_add, show (256 : Nat) = 2 ^ 8 from rfl, ← Nat.pow_mul, hkr]; congr 2; omega
  have e3 : N / 2 ^ (64 * j) / 2 ^ (8 * r) % 256 = n / 2 ^ (8 * r) % 256 := by
    rw [← e1]
    generalize N / 2 ^ (64 * j) = M
    have h8 : r = 0 ∨ r = 1 ∨ r = 2 ∨ r = 3 ∨ r = 4 ∨ r = 5 ∨ r = 6 ∨ r = 7 := by omega
    rcases h8 with rfl | rfl | rfl | rfl | rfl | rfl | rfl | rfl <;> omega
  have e4 : (n : Int) / 2 ^ (8 * r) = ((n / 2 ^ (8 * r) : Nat) : Int) := by rw [Int.natCast_ediv, Int.natCast_pow]; rfl
  have e5 : (byteF N k).toNat = n / 2 ^ (8 * r) % 256 := by
    unfold byteF; rw [e2, e3]; simp
  rw [e4, e5, IntKind.wrap_u8]; omega
/-- 32 bytes in a block. -/
def UBlk (w : World) (g : Nat) (bs : List UInt8) : Prop := w.heap[g]? = some (.cells (u8s bs).toArray 22 (0, 0))
theorem UBlk.cell {w : World} {g : Nat} {bs : List UInt8} (h : UBlk w g bs) {k : Nat} (hk : k < bs.length) : w.cell? ⟨g, k, none⟩ = some (.int .u8 (bs[k].toNat : Int)) := by
  rw [cell_of_row _ _ _ _ _ _ h]; simp [u8s, hk]
theorem UBlk.frozen {w : World} {g : Nat} {bs : List UInt8} (h : UBlk w g bs) (k : Nat) : w.frozen? ⟨g, k, none⟩ = false := by
  unfold UBlk at h; simp [World.frozen?, h]
theorem UBlk.set_ {w : World} {g : Nat} {bs : List UInt8} (h : UBlk w g bs) (k : Nat) (c : UInt8) : UBlk (w.setCell ⟨g, k, none⟩ (.int .u8 (c.toNat : Int))) g (bs.set k c) := by
  unfold UBlk at h ⊢
  simp [World.setCell, Array.getElem?_modify, h, u8s, List.map_set]
def ByOut (w : World) (B N w0 w1 w2 w3 : Nat) (i : Value) (wr : World) : Prop := ∃ k : Nat, k ≤ 32 ∧ i = .int .i64 (k : Int) ∧ ByS w wr [w0, w1, w2, w3, 0] ∧ UBlk wr B (outF N k)
theorem ByOut.step {w wr : World} {B N w0 w1 w2 w3 k : Nat} (hk : k < 32) (hB : w.heap.size + 1 + 1 < B) (h : ByS w wr [w0, w1, w2, w3, 0]) (hu : UBlk wr B (outF N k)) : ByOut w B N w0 w1 w2 w3 (.int .i64 ((k : Int) + 1)) (wr.setCell ⟨B, k, none⟩ (.int .u8 ((byteF N k).toNat : Int))) := by
  refine ⟨k + 1, by omega, by go_num, ⟨h.1.other (by omega), ?_, h.2.2.setCell (by show w.heap.size ≤ B; omega) _⟩, by rw [← outF_step N k hk]; exact hu.set_ k _⟩
  have h2 := h.2.1
  simp only [World.setCell, Array.getElem?_modify]
  rw [if_neg (by omega)]; exact h2
def ByRel (w : World) (n0 w0 w1 w2 w3 a1 a2 a3 : Nat) (i : Value) (wr : World) : Prop := (i = .int .i64 0 ∧ ByS w wr [0, 0, 0, 0, 0]) ∨ (i = .int .i64 1 ∧ ByS w wr [n0, 0, 0, 0, 0]) ∨ (i = .int .i64 2 ∧ ByS w wr [w0, a1, 0, 0, 0]) ∨ (i = .int .i64 3 ∧ ByS w wr [w0, w1, a2, 0, 0]) ∨ (i = .int .i64 4 ∧ ByS w wr [w0, w1, w2, a3, 0]) ∨ (i = .int .i64 5 ∧ ByS w wr [w0, w1, w2, w3, 0])
set_option maxRecDepth 100000 in
set_option maxHeartbeats 4000000 in
theorem bytes_calls (v : Value) (r : Nat) (hv : IsEl v r) (w : World) :
    Calls Try.prog 12 #[v] w (BPost (leB 32 (r % P)) w) := by
  obtain ⟨l0, l1, l2, l3, l4, rfl, hok, hval⟩ := hv.form
  have HV := Lib.hid hv
  clear hok hval hv
  go_enter Try.func12, Try.ntmps12
  go_wp2_with fail
  refine (least_calls _ _ HV.out _).mono ?_
  rintro e x ⟨n0, n1, n2, n3, n4, rfl, hn, bx⟩
  unfold E5
  have HN := Lib.hid hn
  have HX := Lib.hid bx
  have hs0 : ByS w x [0, 0, 0, 0, 0] := ByS.start bx
  have HS0 := Lib.hid hs0
  clear hn bx hs0 HX
  have hfield : ∀ W : World, (Instr.field 27 (.agg #[.int .u64 (n0 : Int), .int .u64 (n1 : Int), .int .u64 (n2 : Int), .int .u64 (n3 : Int), .int .u64 (n4 : Int)]) 0).run Try.prog W = .ok (.agg #[.int .u64 (n0 : Int), .int .u64 (n1 : Int), .int .u64 (n2 : Int), .int .u64 (n3 : Int), .int .u64 (n4 : Int)]) W := fun _ => by kernel_rfl
  have i0 : ∀ W : World, (Instr.index 25 (.agg #[.int .u64 (n0 : Int), .int .u64 (n1 : Int), .int .u64 (n2 : Int), .int .u64 (n3 : Int), .int .u64 (n4 : Int)]) (.int .i64 0)).run Try.prog W = .ok (.int .u64 (n0 : Int)) W := fun _ => by kernel_rfl
  have i1 : ∀ W : World, (Instr.index 25 (.agg #[.int .u64 (n0 : Int), .int .u64 (n1 : Int), .int .u64 (n2 : Int), .int .u64 (n3 : Int), .int .u64 (n4 : Int)]) (.int .i64 1)).run Try.prog W = .ok (.int .u64 (n1 : Int)) W := fun _ => by kernel_rfl
  have i2 : ∀ W : World, (Instr.index 25 (.agg #[.int .u64 (n0 : Int), .int .u64 (n1 : Int), .int .u64 (n2 : Int), .int .u64 (n3 : Int), .int .u64 (n4 : Int)]) (.int .i64 2)).run Try.prog W = .ok (.int .u64 (n2 : Int)) W := fun _ => by kernel_rfl
  have i3 : ∀ W : World, (Instr.index 25 (.agg #[.int .u64 (n0 : Int), .int .u64 (n1 : Int), .int .u64 (n2 : Int), .int .u64 (n3 : Int), .int .u64 (n4 : Int)]) (.int .i64 3)).run Try.prog W = .ok (.int .u64 (n3 : Int)) W := fun _ => by kernel_rfl
  have i4 : ∀ W : World, (Instr.index 25 (.agg #[.int .u64 (n0 : Int), .int .u64 (n1 : Int), .int .u64 (n2 : Int), .int .u64 (n3 : Int), .int .u64 (n4 : Int)]) (.int .i64 4)).run Try.prog W = .ok (.int .u64 (n4 : Int)) W := fun _ => by kernel_rfl
  obtain ⟨w0, w1, w2, w3, a1, a2, a3, p0, q0, p1, q1, p2, q2, p3, q3, p4, q4, hwl, hws⟩ := limb_words n0 n1 n2 n3 n4 HN.out.2.1 HN.out.2.2.1 HN.out.2.2.2.1 HN.out.2.2.2.2.1 HN.out.2.2.2.2.2
  have P0 := Lib.hid p0
  have Q0 := Lib.hid q0
  have P1 := Lib.hid p1
  have Q1 := Lib.hid q1
  have P2 := Lib.hid p2
  have Q2 := Lib.hid q2
  have P3 := Lib.hid p3
  have Q3 := Lib.hid q3
  have P4 := Lib.hid p4
  have Q4 := Lib.hid q4
  have HWL := Lib.hid hwl
  have HWS := Lib.hid hws
  clear hwl hws p0 q0 p1 q1 p2 q2 p3 q3 p4 q4
  go_wp2_with fail
  go_loopw [13] (ByRel w n0 w0 w1 w2 w3 a1 a2 a3) (fun i _ => 5 - (intOf i).toNat)
  case atStart => exact .inl ⟨rfl, HS0.out⟩
  case round =>
    rcases hrel with ⟨rfl, hs⟩ | ⟨rfl, hs⟩ | ⟨rfl, hs⟩ | ⟨rfl, hs⟩ | ⟨rfl, hs⟩ | ⟨rfl, hs⟩
    · have g1 := hs.1.cell (k := 0) rfl
      have g2 := hs.1.cell (k := 1) rfl
      have g3 := hs.1.frozen 0
      have g4 := hs.1.frozen 1
      have pp := P0.out
      have qq := Q0.out
      have hnx := (hs.step 0 n0).step 1 0
      clear hs
      go_wp2_with fail
      go_region
      all_goals go_wp2_with fail
      all_goals go_region
      all_goals go_wp2_with fail
      all_goals exact ⟨.inr (.inl ⟨rfl, hnx⟩), by simp [intOf]⟩
    · have g1 := hs.1.cell (k := 0) rfl
      have g2 := hs.1.cell (k := 1) rfl
      have g3 := hs.1.frozen 0
      have g4 := hs.1.frozen 1
      have pp := P1.out
      have qq := Q1.out
      have hnx := (hs.step 0 w0).step 1 a1
      clear hs
      go_wp2_with fail
      go_region
      all_goals go_wp2_with fail
      all_goals go_region
      all_goals go_wp2_with fail
      all_goals exact ⟨.inr (.inr (.inl ⟨rfl, hnx⟩)), by simp [intOf]⟩
    · have g1 := hs.1.cell (k := 1) rfl
      have g2 := hs.1.cell (k := 2) rfl
      have g3 := hs.1.frozen 1
      have g4 := hs.1.frozen 2
      have pp := P2.out
      have qq := Q2.out
      have hnx := (hs.step 1 w1).step 2 a2
      clear hs
      go_wp2_with fail
      go_region
      all_goals go_wp2_with fail
      all_goals go_region
      all_goals go_wp2_with fail
      all_goals exact ⟨.inr (.inr (.inr (.inl ⟨rfl, hnx⟩))), by simp [intOf]⟩
    · have g1 := hs.1.cell (k := 2) rfl
      have g2 := hs.1.cell (k := 3) rfl
      have g3 := hs.1.frozen 2
      have g4 := hs.1.frozen 3
      have pp := P3.out
      have qq := Q3.out
      have hnx := (hs.step 2 w2).step 3 a3
      clear hs
      go_wp2_with fail
      go_region
      all_goals go_wp2_with fail
      all_goals go_region
      all_goals go_wp2_with fail
      all_goals exact ⟨.inr (.inr (.inr (.inr (.inl ⟨rfl, hnx⟩)))), by simp [intOf]⟩
    · have g1 := hs.1.cell (k := 3) rfl
      have g2 := hs.1.cell (k := 4) rfl
      have g3 := hs.1.frozen 3
      have g4 := hs.1.frozen 4
      have pp := P4.out
      have qq := Q4.out
      have hnx := (hs.step 3 w3).step 4 0
      clear hs
      go_wp2_with fail
      go_region
      all_goals go_wp2_with fail
      all_goals go_region
      all_goals go_wp2_with fail
      all_goals exact ⟨.inr (.inr (.inr (.inr (.inr (⟨rfl, hnx⟩))))), by simp [intOf]⟩
    · have HS := Lib.hid hs
      clear hs
      obtain ⟨B, hB⟩ : ∃ B, wr.heap.size = B := ⟨_, rfl⟩
      have hsz := HS.out.2.2.size
      have hlt : w.heap.size + 1 + 1 < B := by rw [← hB]; exact (Array.getElem?_eq_some_iff.1 HS.out.1).1
      obtain ⟨N, hN⟩ : ∃ N, w0 + 2 ^ 64 * w1 + 2 ^ 128 * w2 + 2 ^ 192 * w3 = N := ⟨_, rfl⟩
      have hNr : N = r % P := by rw [← hN, ← HWS.out]; exact HN.out.1
      have HNr := Lib.hid hNr
      have HNN := Lib.hid hN
      clear hN hNr hfield i0 i1 i2 i3 i4
      go_wp2_with fail
      have hout : ByOut w B N w0 w1 w2 w3 (.int .i64 0) (wr.alloc (.cells #[.int .u8 0, .int .u8 0, .int .u8 0, .int .u8 0, .int .u8 0, .int .u8 0, .int .u8 0, .int .u8 0, .int .u8 0, .int .u8 0, .int .u8 0, .int .u8 0, .int .u8 0, .int .u8 0, .int .u8 0, .int .u8 0, .int .u8 0, .int .u8 0, .int .u8 0, .int .u8 0, .int .u8 0, .int .u8 0, .int .u8 0, .int .u8 0, .int .u8 0, .int .u8 0, .int .u8 0, .int .u8 0, .int .u8 0, .int .u8 0, .int .u8 0, .int .u8 0] 22)) := by
        refine ⟨0, by omega, rfl, ⟨HS.out.1.alloc _, (heap_alloc_old wr _ (Array.getElem?_eq_some_iff.1 HS.out.2.1).1).trans HS.out.2.1, HS.out.2.2.alloc hsz _⟩, ?_⟩
        have h := heap_alloc_new wr (.cells #[.int .u8 0, .int .u8 0, .int .u8 0, .int .u8 0, .int .u8 0, .int .u8 0, .int .u8 0, .int .u8 0, .int .u8 0, .int .u8 0, .int .u8 0, .int .u8 0, .int .u8 0, .int .u8 0, .int .u8 0, .int .u8 0, .int .u8 0, .int .u8 0, .int .u8 0, .int .u8 0, .int .u8 0, .int .u8 0, .int .u8 0, .int .u8 0, .int .u8 0, .int .u8 0, .int .u8 0, .int .u8 0, .int .u8 0, .int .u8 0, .int .u8 0, .int .u8 0] 22)
        rw [hB] at h
        exact h
      have HO := Lib.hid hout
      have HB2 := Lib.hid hB
      clear hout hB hsz
      go_loopw [42] (ByOut w B N w0 w1 w2 w3) (fun i _ => 32 - (intOf i).toNat)
      case atStart => exact HO.out
      case round =>
        obtain ⟨k, hk, rfl, hs, hu⟩ := hrel
        by_cases hp : k < 32
        · obtain ⟨j, hj⟩ : ∃ j, k / 8 = j := ⟨_, rfl⟩
          have hk8 : (k : Int) / 8 = (j : Int) := by omega
          obtain ⟨n, hn⟩ : ∃ n, [w0, w1, w2, w3, 0][j]? = some n := by
            have : j < [w0, w1, w2, w3, 0].length := by simp; omega
            exact ⟨_, List.getElem?_eq_getElem this⟩
          have hbyte := byte_at HWL.out HNN.out hp hj hn
          have g1 := hs.1.cell hn
          have hul : (outF N k).length = 32 := outF_len N k (by omega)
          obtain ⟨old, g2⟩ : ∃ y : Int, wr.cell? ⟨B, k, none⟩ = some (.int .u8 y) := ⟨_, hu.cell (k := k) (by omega)⟩
          have g3 := hu.frozen k
          have hnx : ByOut w B N w0 w1 w2 w3 (.int .i64 ((k : Int) + 1)) (wr.setCell ⟨B, k, none⟩ (.int .u8 ((byteF N k).toNat : Int))) := ByOut.step hp hlt hs hu
          have HNX := Lib.hid hnx
          have HW := Lib.hid hn
          clear hs hu hul hn hnx
          go_wp2_with fail
          exact ⟨HNX.out, by simp [intOf]; omega⟩
        · have hk32 : k = 32 := by omega
          subst hk32
          have hF : outF N 32 = leB 32 N := by unfold outF; rw [List.take_of_length_le (Nat.le_of_eq (leB_len _ _))]; simp
          rw [hF] at hu
          obtain ⟨cs, hcs⟩ : ∃ cs, u8s (leB 32 N) = cs := ⟨_, rfl⟩
          have hlen : cs.length = 32 := by rw [← hcs]; simp [u8s, leB_len]
          have hone : cs.toArray.all (·.oneCell') = true := by
            rw [← hcs]
            apply all_oneCell_toArray
            intro v hv
            obtain ⟨y, _, rfl⟩ := List.mem_map.1 hv
            rfl
          have hrg : wr.rangeAt B 0 cs := by
            intro j v hv
            have h := hu
            unfold UBlk at h
            rw [hcs] at h
            rw [Nat.zero_add, cell_of_row _ _ _ _ _ _ h]; simpa using hv
          have hth : wr.there (w.heap.size + 1) 0 cs.toArray.size := by
            intro j hj
            have h := hs.2.1
            have hj2 : j < 32 := by simpa [hlen] using hj
            rw [Nat.zero_add]
            refine ⟨?_, by simp [World.frozen?, h]⟩
            rw [cell_of_row _ _ _ _ _ _ h]; simp [u8s, hj2]
          have hsz1 : (Try.prog.info? 22).map (·.size) = some cs.length := by rw [hlen]; exact size32
          have hsz2 : (Try.prog.info? 22).map (·.size) = some cs.toArray.size := by simpa using hsz1
          have HC := Lib.hid hcs
          have HL := Lib.hid hlen
          have HB := Lib.hid hs.2.2
          have HRR := Lib.hid hrg
          have HTT := Lib.hid hth
          have HS1 := Lib.hid hsz1
          have HS2 := Lib.hid hsz2
          clear hs hu hF hcs hlen hrg hth hsz1 hsz2
          go_wp2_with (first
            | (refine wpList_load_mid rfl 22 _ rfl B 0 rfl cs _ HRR.out Try.underlying22 rfl HS1.out ?_)
            | (refine wpList_store_mid rfl 22 _ _ rfl (w.heap.size + 1) 0 cs.toArray rfl rfl HTT.out HS2.out hone ?_))
          have hld : (loadVar 22 ⟨w.heap.size + 1, 0, none⟩).run Try.prog (wr.setCells (w.heap.size + 1) 0 cs) = .ok (.agg cs.toArray) (wr.setCells (w.heap.size + 1) 0 cs) :=
            run_loadVar_mid _ _ _ _ cs _ (World.rangeAt_setCells_same _ _ _ _ (by simpa using HTT.out)) Try.underlying22 rfl HS1.out
          refine bodyPost_ret (v := .agg cs.toArray) ?_ rfl ⟨?_, below_cells (by omega) cs 0 wr HB.out⟩
          · exact results_cell rfl _ _ _ _ rfl hld
          · show Ending.returned (.agg cs.toArray) = .returned (.agg (u8s (leB 32 (r % P))).toArray)
            rw [← HNr.out, HC.out]
end Go.Proofs.Ytpdoegfmngibgaa
