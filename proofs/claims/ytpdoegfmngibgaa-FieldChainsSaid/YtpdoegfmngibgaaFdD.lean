/- Layer 4: products. -/
import Derived.Test.YtpdoegfmngibgaaFdC
import Derived.Deep.RegionHeld3
import Derived.WalkSpells
namespace Go.Proofs.Ytpdoegfmngibgaa
open Go.ChangeShapes Go.WideShapes Go.ChangeAt Go.RowKit Go.IntWalk
set_option linter.unusedVariables false

def L51 : Nat := 2 ^ 51 + 2 ^ 20
theorem prod_lt {a b : Nat} (ha : a < L51) (hb : b < L51) : a * b < 2 ^ 103 := by
  have h : a * b ≤ L51 * L51 := Nat.mul_le_mul (Nat.le_of_lt ha) (Nat.le_of_lt hb)
  have : L51 * L51 < 2 ^ 103 := by decide +kernel
  omega
theorem prod_lt19 {a b : Nat} (ha : a < L51) (hb : b < L51) : 19 * a * b < 2 ^ 108 := by
  have := prod_lt ha hb
  rw [Nat.mul_assoc]; omega
theorem W2_form (n : Nat) : ∃ h l : Nat, W2 n = .agg #[.int .u64 (h : Int), .int .u64 (l : Int)] ∧ n % 2 ^ 64 = l := ⟨_, _, rfl, rfl⟩
theorem plus0_calls (a b : Nat) (w : World) (ha : a < 2 ^ 64) (hb : b < 2 ^ 64) (hn : 0 + a * b < 2 ^ 128) :
    Calls Try.prog 40 #[.agg #[.int .u64 0, .int .u64 0], .int .u64 (a : Int), .int .u64 (b : Int)] w (WPost (0 + a * b) w) := plus_calls 0 a b w ha hb hn
theorem above_calls' (h l n : Nat) (hW : W2 n = .agg #[.int .u64 (h : Int), .int .u64 (l : Int)]) (w : World) (hn : n < 2 ^ 112) :
    Calls Try.prog 41 #[.agg #[.int .u64 (h : Int), .int .u64 (l : Int)]] w fun e w' => e = .returned (.int .u64 ((n / 2 ^ 51 : Nat) : Int)) ∧ Below w.heap.size w w' := hW ▸ above_calls n w (by omega)
/-- A block of two words that is there. -/
def Blk2 (w : World) (g h l : Nat) : Prop := w.heap[g]? = some (.cells #[.int .u64 (h : Int), .int .u64 (l : Int)] 61 (0, 0))
theorem Blk2.new (w : World) (h l : Nat) : Blk2 (w.alloc (.cells #[.int .u64 (h : Int), .int .u64 (l : Int)] 61)) w.heap.size h l := heap_alloc_new w _
theorem Blk2.lt {w : World} {g h l : Nat} (hb : Blk2 w g h l) : g < w.heap.size := (Array.getElem?_eq_some_iff.1 hb).1
theorem Blk2.below {w w1 : World} {g h l : Nat} (hb : Blk2 w g h l) (b : Below w.heap.size w w1) : Blk2 w1 g h l := (b.block g hb.lt).trans hb
theorem Blk2.alloc {w : World} {g h l : Nat} (hb : Blk2 w g h l) (o : Obj) : Blk2 (w.alloc o) g h l := (heap_alloc_old w _ hb.lt).trans hb
theorem Blk2.drew {w : World} {g h l : Nat} (hb : Blk2 w g h l) : Blk2 w.drew g h l := hb
theorem Blk2.cell0 {w : World} {g h l : Nat} (hb : Blk2 w g h l) : w.cell? ⟨g, 0, none⟩ = some (.int .u64 (h : Int)) := by rw [cell_of_row _ _ _ _ _ _ hb]; rfl
theorem Blk2.cell1 {w : World} {g h l : Nat} (hb : Blk2 w g h l) : w.cell? ⟨g, 1, none⟩ = some (.int .u64 (l : Int)) := by rw [cell_of_row _ _ _ _ _ _ hb]; rfl

theorem mul_bounds (a0 a1 a2 a3 a4 b0 b1 b2 b3 b4 : Nat) (h : Ok5 a0 a1 a2 a3 a4) (h2 : Ok5 b0 b1 b2 b3 b4) :
    n0 a0 a1 a2 a3 a4 b0 b1 b2 b3 b4 < 2 ^ 112 ∧ n1 a0 a1 a2 a3 a4 b0 b1 b2 b3 b4 < 2 ^ 112 ∧ n2 a0 a1 a2 a3 a4 b0 b1 b2 b3 b4 < 2 ^ 112 ∧ n3 a0 a1 a2 a3 a4 b0 b1 b2 b3 b4 < 2 ^ 112 ∧ n4 a0 a1 a2 a3 a4 b0 b1 b2 b3 b4 < 2 ^ 112 ∧ n4 a0 a1 a2 a3 a4 b0 b1 b2 b3 b4 < 2 ^ 106 := by
  obtain ⟨a0h, a1h, a2h, a3h, a4h⟩ := h
  obtain ⟨b0h, b1h, b2h, b3h, b4h⟩ := h2
  have p_a0_b0 := prod_lt (a := a0) (b := b0) a0h b0h
  have p_xa1_b4 := prod_lt19 (a := a1) (b := b4) a1h b4h
  have p_xa2_b3 := prod_lt19 (a := a2) (b := b3) a2h b3h
  have p_xa3_b2 := prod_lt19 (a := a3) (b := b2) a3h b2h
  have p_xa4_b1 := prod_lt19 (a := a4) (b := b1) a4h b1h
  have p_a0_b1 := prod_lt (a := a0) (b := b1) a0h b1h
  have p_a1_b0 := prod_lt (a := a1) (b := b0) a1h b0h
  have p_xa2_b4 := prod_lt19 (a := a2) (b := b4) a2h b4h
  have p_xa3_b3 := prod_lt19 (a := a3) (b := b3) a3h b3h
  have p_xa4_b2 := prod_lt19 (a := a4) (b := b2) a4h b2h
  have p_a0_b2 := prod_lt (a := a0) (b := b2) a0h b2h
  have p_a1_b1 := prod_lt (a := a1) (b := b1) a1h b1h
  have p_a2_b0 := prod_lt (a := a2) (b := b0) a2h b0h
  have p_xa3_b4 := prod_lt19 (a := a3) (b := b4) a3h b4h
  have p_xa4_b3 := prod_lt19 (a := a4) (b := b3) a4h b3h
  have p_a0_b3 := prod_lt (a := a0) (b := b3) a0h b3h
  have p_a1_b2 := prod_lt (a := a1) (b := b2) a1h b2h
  have p_a2_b1 := prod_lt (a := a2) (b := b1) a2h b1h
  have p_a3_b0 := prod_lt (a := a3) (b := b0) a3h b0h
  have p_xa4_b4 := prod_lt19 (a := a4) (b := b4) a4h b4h
  have p_a0_b4 := prod_lt (a := a0) (b := b4) a0h b4h
  have p_a1_b3 := prod_lt (a := a1) (b := b3) a1h b3h
  have p_a2_b2 := prod_lt (a := a2) (b := b2) a2h b2h
  have p_a3_b1 := prod_lt (a := a3) (b := b1) a3h b1h
  have p_a4_b0 := prod_lt (a := a4) (b := b0) a4h b0h
  unfold n0 n1 n2 n3 n4
  omega

theorem plus_to (n a b m : Nat) (w : World) (ha : a < 2 ^ 64) (hb : b < 2 ^ 64) (hm : n + a * b = m) (hn : m < 2 ^ 128) :
    Calls Try.prog 40 #[W2 n, .int .u64 (a : Int), .int .u64 (b : Int)] w (WPost m w) := by subst hm; exact plus_calls n a b w ha hb hn
theorem plus0_to (a b m : Nat) (w : World) (ha : a < 2 ^ 64) (hb : b < 2 ^ 64) (hm : 0 + a * b = m) (hn : m < 2 ^ 128) :
    Calls Try.prog 40 #[.agg #[.int .u64 0, .int .u64 0], .int .u64 (a : Int), .int .u64 (b : Int)] w (WPost m w) := plus_to 0 a b m w ha hb hm hn
theorem _root_.Go.RowKit.Below.next {A x0 x1 : World} {o : Obj} (h : Below A.heap.size A x0) (h1 : Below (x0.alloc o).heap.size (x0.alloc o) x1) : Below A.heap.size A x1 := (h.alloc h.size o).trans (h1.mono (Nat.le_trans h.size (by simp)))
theorem below3d {w w1 : World} {o1 o2 o3 : Obj} {n : Nat} (h : Below ((((w.alloc o1).alloc o2).alloc o3).drewN n).heap.size ((((w.alloc o1).alloc o2).alloc o3).drewN n) w1) : Below w.heap.size w w1 :=
  below3 (o1 := o1) (o2 := o2) (o3 := o3) ⟨h.os, h.tape, h.output, h.size, h.block⟩
theorem low_sum (m l k t : Nat) (hl : m % 2 ^ 64 = l) (hk : k * (t / 2 ^ 51) < 2 ^ 62) : IntKind.u64.wrap (bits .and .u64 (l : Int) 2251799813685247 + ((k * (t / 2 ^ 51) : Nat) : Int)) = ((m % 2 ^ 51 + k * (t / 2 ^ 51) : Nat) : Int) ∧ m % 2 ^ 51 + k * (t / 2 ^ 51) < 2 ^ 63 := by
  have e : l % 2 ^ 51 = m % 2 ^ 51 := by omega
  have h1 : m % 2 ^ 51 < 2 ^ 51 := Nat.mod_lt _ (by decide)
  rw [u64_mask51 l (by omega), e, ← Int.natCast_add]
  exact ⟨wraps_u64 _ (by omega) (by omega), by omega⟩
theorem low_sums (m0 m1 m2 m3 m4 l0 l1 l2 l3 l4 : Nat) (hl : m0 % 2 ^ 64 = l0 ∧ m1 % 2 ^ 64 = l1 ∧ m2 % 2 ^ 64 = l2 ∧ m3 % 2 ^ 64 = l3 ∧ m4 % 2 ^ 64 = l4) (hb : m0 < 2 ^ 112 ∧ m1 < 2 ^ 112 ∧ m2 < 2 ^ 112 ∧ m3 < 2 ^ 112 ∧ m4 < 2 ^ 112 ∧ m4 < 2 ^ 106) :
    ∃ p0 p1 p2 p3 p4 : Nat, IntKind.u64.wrap (bits .and .u64 (l0 : Int) 2251799813685247 + IntKind.u64.wrap (19 * ((m4 : Int) / 2251799813685248))) = (p0 : Int) ∧ IntKind.u64.wrap (bits .and .u64 (l1 : Int) 2251799813685247 + ((m0 : Int) / 2251799813685248)) = (p1 : Int) ∧
      IntKind.u64.wrap (bits .and .u64 (l2 : Int) 2251799813685247 + ((m1 : Int) / 2251799813685248)) = (p2 : Int) ∧ IntKind.u64.wrap (bits .and .u64 (l3 : Int) 2251799813685247 + ((m2 : Int) / 2251799813685248)) = (p3 : Int) ∧
      IntKind.u64.wrap (bits .and .u64 (l4 : Int) 2251799813685247 + ((m3 : Int) / 2251799813685248)) = (p4 : Int) ∧
      (p0 < 2 ^ 63 ∧ p1 < 2 ^ 63 ∧ p2 < 2 ^ 63 ∧ p3 < 2 ^ 63 ∧ p4 < 2 ^ 63) ∧ val5 p0 p1 p2 p3 p4 + P * (m4 / 2 ^ 51) = val5 m0 m1 m2 m3 m4 := by
  have c1 : ∀ t : Nat, (t : Int) / 2251799813685248 = ((1 * (t / 2 ^ 51) : Nat) : Int) := fun t => by rw [Nat.one_mul, Int.natCast_ediv]; rfl
  have c19 : IntKind.u64.wrap (19 * ((m4 : Int) / 2251799813685248)) = ((19 * (m4 / 2 ^ 51) : Nat) : Int) := by
    have e : 19 * ((m4 : Int) / 2251799813685248) = ((19 * (m4 / 2 ^ 51) : Nat) : Int) := by rw [Int.natCast_mul, Int.natCast_ediv]; rfl
    rw [e]; exact wraps_u64 _ (by omega) (by omega)
  obtain ⟨w0, b0⟩ := low_sum m0 l0 19 m4 hl.1 (by omega)
  obtain ⟨w1, b1⟩ := low_sum m1 l1 1 m0 hl.2.1 (by omega)
  obtain ⟨w2, b2⟩ := low_sum m2 l2 1 m1 hl.2.2.1 (by omega)
  obtain ⟨w3, b3⟩ := low_sum m3 l3 1 m2 hl.2.2.2.1 (by omega)
  obtain ⟨w4, b4⟩ := low_sum m4 l4 1 m3 hl.2.2.2.2 (by omega)
  refine ⟨_, _, _, _, _, by rw [c19]; exact w0, by rw [c1]; exact w1, by rw [c1]; exact w2, by rw [c1]; exact w3, by rw [c1]; exact w4, ⟨b0, b1, b2, b3, b4⟩, ?_⟩
  rw [Nat.one_mul, Nat.one_mul, Nat.one_mul, Nat.one_mul]
  exact carry_val m0 m1 m2 m3 m4
theorem lt_parts (p q r s t : Nat) (h : 0 + p + q + r + s + t < 2 ^ 112) : 0 + p < 2 ^ 128 ∧ 0 + p + q < 2 ^ 128 ∧ 0 + p + q + r < 2 ^ 128 ∧ 0 + p + q + r + s < 2 ^ 128 ∧ 0 + p + q + r + s + t < 2 ^ 128 := by omega
theorem wrap19 (a : Nat) (h : a < 2 ^ 51 + 2 ^ 20) : IntKind.u64.wrap (19 * (a : Int)) = ((19 * a : Nat) : Int) ∧ 19 * a < 2 ^ 64 ∧ a < 2 ^ 64 := by
  refine ⟨?_, by omega, by omega⟩
  rw [show 19 * (a : Int) = ((19 * a : Nat) : Int) by omega]; exact wraps_u64 _ (by omega) (by omega)
set_option maxRecDepth 100000 in
set_option maxHeartbeats 16000000 in
theorem mul_calls (v u : Value) (r s : Nat) (hv : IsEl v r) (hu : IsEl u s) (w : World) :
    Calls Try.prog 26 #[v, u] w (ElPost (r * s) w) := by
  obtain ⟨a0, a1, a2, a3, a4, rfl, hok, hval⟩ := hv.form
  obtain ⟨b0, b1, b2, b3, b4, rfl, hok2, hval2⟩ := hu.form
  have hbd := mul_bounds a0 a1 a2 a3 a4 b0 b1 b2 b3 b4 hok hok2
  have hmv := mul_val a0 a1 a2 a3 a4 b0 b1 b2 b3 b4
  have HOK := Lib.hid (And.intro hok hok2)
  have HVAL := Lib.hid (And.intro hval hval2)
  unfold n0 n1 n2 n3 n4 at hbd hmv
  unfold Ok5 at hok hok2
  obtain ⟨f1, sg1, sa1⟩ := wrap19 a1 hok.2.1
  obtain ⟨f2, sg2, sa2⟩ := wrap19 a2 hok.2.2.1
  obtain ⟨f3, sg3, sa3⟩ := wrap19 a3 hok.2.2.2.1
  obtain ⟨f4, sg4, sa4⟩ := wrap19 a4 hok.2.2.2.2
  have sa0 := (wrap19 a0 hok.1).2.2
  have sb0 := (wrap19 b0 hok2.1).2.2
  have sb1 := (wrap19 b1 hok2.2.1).2.2
  have sb2 := (wrap19 b2 hok2.2.2.1).2.2
  have sb3 := (wrap19 b3 hok2.2.2.2.1).2.2
  have sb4 := (wrap19 b4 hok2.2.2.2.2).2.2
  clear hok hok2 hval hval2 hv hu
  generalize 19 * a1 = g1 at *
  generalize 19 * a2 = g2 at *
  generalize 19 * a3 = g3 at *
  generalize 19 * a4 = g4 at *
  obtain ⟨o00, o01, o02, o03, o04⟩ := lt_parts (a0 * b0) (g1 * b4) (g2 * b3) (g3 * b2) (g4 * b1) (show 0 + a0 * b0 + g1 * b4 + g2 * b3 + g3 * b2 + g4 * b1 < 2 ^ 112 from hbd.1)
  obtain ⟨t00, e00⟩ : ∃ m, 0 + a0 * b0 = m := ⟨_, rfl⟩
  rw [e00] at o00 o01 o02 o03 o04 hbd hmv
  obtain ⟨t01, e01⟩ : ∃ m, t00 + g1 * b4 = m := ⟨_, rfl⟩
  rw [e01] at o01 o02 o03 o04 hbd hmv
  obtain ⟨t02, e02⟩ : ∃ m, t01 + g2 * b3 = m := ⟨_, rfl⟩
  rw [e02] at o02 o03 o04 hbd hmv
  obtain ⟨t03, e03⟩ : ∃ m, t02 + g3 * b2 = m := ⟨_, rfl⟩
  rw [e03] at o03 o04 hbd hmv
  obtain ⟨m0, e04⟩ : ∃ m, t03 + g4 * b1 = m := ⟨_, rfl⟩
  rw [e04] at o04 hbd hmv
  have E00 := Lib.hid e00
  have O00 := Lib.hid o00
  have E01 := Lib.hid e01
  have O01 := Lib.hid o01
  have E02 := Lib.hid e02
  have O02 := Lib.hid o02
  have E03 := Lib.hid e03
  have O03 := Lib.hid o03
  have E04 := Lib.hid e04
  have O04 := Lib.hid o04
  clear e00 o00 e01 o01 e02 o02 e03 o03 e04 o04
  obtain ⟨o10, o11, o12, o13, o14⟩ := lt_parts (a0 * b1) (a1 * b0) (g2 * b4) (g3 * b3) (g4 * b2) (show 0 + a0 * b1 + a1 * b0 + g2 * b4 + g3 * b3 + g4 * b2 < 2 ^ 112 from hbd.2.1)
  obtain ⟨t10, e10⟩ : ∃ m, 0 + a0 * b1 = m := ⟨_, rfl⟩
  rw [e10] at o10 o11 o12 o13 o14 hbd hmv
  obtain ⟨t11, e11⟩ : ∃ m, t10 + a1 * b0 = m := ⟨_, rfl⟩
  rw [e11] at o11 o12 o13 o14 hbd hmv
  obtain ⟨t12, e12⟩ : ∃ m, t11 + g2 * b4 = m := ⟨_, rfl⟩
  rw [e12] at o12 o13 o14 hbd hmv
  obtain ⟨t13, e13⟩ : ∃ m, t12 + g3 * b3 = m := ⟨_, rfl⟩
  rw [e13] at o13 o14 hbd hmv
  obtain ⟨m1, e14⟩ : ∃ m, t13 + g4 * b2 = m := ⟨_, rfl⟩
  rw [e14] at o14 hbd hmv
  have E10 := Lib.hid e10
  have O10 := Lib.hid o10
  have E11 := Lib.hid e11
  have O11 := Lib.hid o11
  have E12 := Lib.hid e12
  have O12 := Lib.hid o12
  have E13 := Lib.hid e13
  have O13 := Lib.hid o13
  have E14 := Lib.hid e14
  have O14 := Lib.hid o14
  clear e10 o10 e11 o11 e12 o12 e13 o13 e14 o14
  obtain ⟨o20, o21, o22, o23, o24⟩ := lt_parts (a0 * b2) (a1 * b1) (a2 * b0) (g3 * b4) (g4 * b3) (show 0 + a0 * b2 + a1 * b1 + a2 * b0 + g3 * b4 + g4 * b3 < 2 ^ 112 from hbd.2.2.1)
  obtain ⟨t20, e20⟩ : ∃ m, 0 + a0 * b2 = m := ⟨_, rfl⟩
  rw [e20] at o20 o21 o22 o23 o24 hbd hmv
  obtain ⟨t21, e21⟩ : ∃ m, t20 + a1 * b1 = m := ⟨_, rfl⟩
  rw [e21] at o21 o22 o23 o24 hbd hmv
  obtain ⟨t22, e22⟩ : ∃ m, t21 + a2 * b0 = m := ⟨_, rfl⟩
  rw [e22] at o22 o23 o24 hbd hmv
  obtain ⟨t23, e23⟩ : ∃ m, t22 + g3 * b4 = m := ⟨_, rfl⟩
  rw [e23] at o23 o24 hbd hmv
  obtain ⟨m2, e24⟩ : ∃ m, t23 + g4 * b3 = m := ⟨_, rfl⟩
  rw [e24] at o24 hbd hmv
  have E20 := Lib.hid e20
  have O20 := Lib.hid o20
  have E21 := Lib.hid e21
  have O21 := Lib.hid o21
  have E22 := Lib.hid e22
  have O22 := Lib.hid o22
  have E23 := Lib.hid e23
  have O23 := Lib.hid o23
  have E24 := Lib.hid e24
  have O24 := Lib.hid o24
  clear e20 o20 e21 o21 e22 o22 e23 o23 e24 o24
  obtain ⟨o30, o31, o32, o33, o34⟩ := lt_parts (a0 * b3) (a1 * b2) (a2 * b1) (a3 * b0) (g4 * b4) (show 0 + a0 * b3 + a1 * b2 + a2 * b1 + a3 * b0 + g4 * b4 < 2 ^ 112 from hbd.2.2.2.1)
  obtain ⟨t30, e30⟩ : ∃ m, 0 + a0 * b3 = m := ⟨_, rfl⟩
  rw [e30] at o30 o31 o32 o33 o34 hbd hmv
  obtain ⟨t31, e31⟩ : ∃ m, t30 + a1 * b2 = m := ⟨_, rfl⟩
  rw [e31] at o31 o32 o33 o34 hbd hmv
  obtain ⟨t32, e32⟩ : ∃ m, t31 + a2 * b1 = m := ⟨_, rfl⟩
  rw [e32] at o32 o33 o34 hbd hmv
  obtain ⟨t33, e33⟩ : ∃ m, t32 + a3 * b0 = m := ⟨_, rfl⟩
  rw [e33] at o33 o34 hbd hmv
  obtain ⟨m3, e34⟩ : ∃ m, t33 + g4 * b4 = m := ⟨_, rfl⟩
  rw [e34] at o34 hbd hmv
  have E30 := Lib.hid e30
  have O30 := Lib.hid o30
  have E31 := Lib.hid e31
  have O31 := Lib.hid o31
  have E32 := Lib.hid e32
  have O32 := Lib.hid o32
  have E33 := Lib.hid e33
  have O33 := Lib.hid o33
  have E34 := Lib.hid e34
  have O34 := Lib.hid o34
  clear e30 o30 e31 o31 e32 o32 e33 o33 e34 o34
  obtain ⟨o40, o41, o42, o43, o44⟩ := lt_parts (a0 * b4) (a1 * b3) (a2 * b2) (a3 * b1) (a4 * b0) (show 0 + a0 * b4 + a1 * b3 + a2 * b2 + a3 * b1 + a4 * b0 < 2 ^ 112 from hbd.2.2.2.2.1)
  obtain ⟨t40, e40⟩ : ∃ m, 0 + a0 * b4 = m := ⟨_, rfl⟩
  rw [e40] at o40 o41 o42 o43 o44 hbd hmv
  obtain ⟨t41, e41⟩ : ∃ m, t40 + a1 * b3 = m := ⟨_, rfl⟩
  rw [e41] at o41 o42 o43 o44 hbd hmv
  obtain ⟨t42, e42⟩ : ∃ m, t41 + a2 * b2 = m := ⟨_, rfl⟩
  rw [e42] at o42 o43 o44 hbd hmv
  obtain ⟨t43, e43⟩ : ∃ m, t42 + a3 * b1 = m := ⟨_, rfl⟩
  rw [e43] at o43 o44 hbd hmv
  obtain ⟨m4, e44⟩ : ∃ m, t43 + a4 * b0 = m := ⟨_, rfl⟩
  rw [e44] at o44 hbd hmv
  have E40 := Lib.hid e40
  have O40 := Lib.hid o40
  have E41 := Lib.hid e41
  have O41 := Lib.hid o41
  have E42 := Lib.hid e42
  have O42 := Lib.hid o42
  have E43 := Lib.hid e43
  have O43 := Lib.hid o43
  have E44 := Lib.hid e44
  have O44 := Lib.hid o44
  clear e40 o40 e41 o41 e42 o42 e43 o43 e44 o44
  obtain ⟨h0, l0, hW0, hl0⟩ := W2_form m0
  have HW0 := Lib.hid hW0
  obtain ⟨h1, l1, hW1, hl1⟩ := W2_form m1
  have HW1 := Lib.hid hW1
  obtain ⟨h2, l2, hW2, hl2⟩ := W2_form m2
  have HW2 := Lib.hid hW2
  obtain ⟨h3, l3, hW3, hl3⟩ := W2_form m3
  have HW3 := Lib.hid hW3
  obtain ⟨h4, l4, hW4, hl4⟩ := W2_form m4
  have HW4 := Lib.hid hW4
  have A0 := Lib.hid sa0
  have B0 := Lib.hid sb0
  have A1 := Lib.hid sa1
  have B1 := Lib.hid sb1
  have A2 := Lib.hid sa2
  have B2 := Lib.hid sb2
  have A3 := Lib.hid sa3
  have B3 := Lib.hid sb3
  have A4 := Lib.hid sa4
  have B4 := Lib.hid sb4
  have G1 := Lib.hid sg1
  have G2 := Lib.hid sg2
  have G3 := Lib.hid sg3
  have G4 := Lib.hid sg4
  have HB := Lib.hid hbd
  have HMV := Lib.hid hmv
  have HL := Lib.hid (And.intro hl0 (And.intro hl1 (And.intro hl2 (And.intro hl3 hl4))))
  clear sa0 sa1 sa2 sa3 sa4 sb0 sb1 sb2 sb3 sb4 hbd hmv sg1 sg2 sg3 sg4 hW0 hl0 hW1 hl1 hW2 hl2 hW3 hl3 hW4 hl4 
  go_enter Try.func26, Try.ntmps26
  go_wp2_with fail
  go_quiet (fail)
  go_wp2_with fail
  go_quiet (fail)
  go_wp2_with fail
  clear f1 f2 f3 f4
  refine (plus0_to a0 b0 t00 _ A0.out B0.out E00.out O00.out).mono ?_
  rintro e y00 ⟨rfl, c00⟩
  go_wp2_with fail
  refine (plus_to t00 g1 b4 t01 _ G1.out B4.out E01.out O01.out).mono ?_
  rintro e y01 ⟨rfl, c01⟩
  go_wp2_with fail
  refine (plus_to t01 g2 b3 t02 _ G2.out B3.out E02.out O02.out).mono ?_
  rintro e y02 ⟨rfl, c02⟩
  go_wp2_with fail
  refine (plus_to t02 g3 b2 t03 _ G3.out B2.out E03.out O03.out).mono ?_
  rintro e y03 ⟨rfl, c03⟩
  go_wp2_with fail
  refine (plus_to t03 g4 b1 m0 _ G4.out B1.out E04.out O04.out).mono ?_
  rintro e x0 ⟨he, c04⟩
  rw [HW0.out] at he
  subst he
  have C0 := Lib.hid ((((c00.then_ c01).then_ c02).then_ c03).then_ c04)
  clear c00 c01 c02 c03 c04
  go_wp2_with fail
  refine (plus0_to a0 b1 t10 _ A0.out B1.out E10.out O10.out).mono ?_
  rintro e y10 ⟨rfl, c10⟩
  go_wp2_with fail
  refine (plus_to t10 a1 b0 t11 _ A1.out B0.out E11.out O11.out).mono ?_
  rintro e y11 ⟨rfl, c11⟩
  go_wp2_with fail
  refine (plus_to t11 g2 b4 t12 _ G2.out B4.out E12.out O12.out).mono ?_
  rintro e y12 ⟨rfl, c12⟩
  go_wp2_with fail
  refine (plus_to t12 g3 b3 t13 _ G3.out B3.out E13.out O13.out).mono ?_
  rintro e y13 ⟨rfl, c13⟩
  go_wp2_with fail
  refine (plus_to t13 g4 b2 m1 _ G4.out B2.out E14.out O14.out).mono ?_
  rintro e x1 ⟨he, c14⟩
  rw [HW1.out] at he
  subst he
  have C1 := Lib.hid ((((c10.then_ c11).then_ c12).then_ c13).then_ c14)
  clear c10 c11 c12 c13 c14
  go_wp2_with fail
  refine (plus0_to a0 b2 t20 _ A0.out B2.out E20.out O20.out).mono ?_
  rintro e y20 ⟨rfl, c20⟩
  go_wp2_with fail
  refine (plus_to t20 a1 b1 t21 _ A1.out B1.out E21.out O21.out).mono ?_
  rintro e y21 ⟨rfl, c21⟩
  go_wp2_with fail
  refine (plus_to t21 a2 b0 t22 _ A2.out B0.out E22.out O22.out).mono ?_
  rintro e y22 ⟨rfl, c22⟩
  go_wp2_with fail
  refine (plus_to t22 g3 b4 t23 _ G3.out B4.out E23.out O23.out).mono ?_
  rintro e y23 ⟨rfl, c23⟩
  go_wp2_with fail
  refine (plus_to t23 g4 b3 m2 _ G4.out B3.out E24.out O24.out).mono ?_
  rintro e x2 ⟨he, c24⟩
  rw [HW2.out] at he
  subst he
  have C2 := Lib.hid ((((c20.then_ c21).then_ c22).then_ c23).then_ c24)
  clear c20 c21 c22 c23 c24
  go_wp2_with fail
  refine (plus0_to a0 b3 t30 _ A0.out B3.out E30.out O30.out).mono ?_
  rintro e y30 ⟨rfl, c30⟩
  go_wp2_with fail
  refine (plus_to t30 a1 b2 t31 _ A1.out B2.out E31.out O31.out).mono ?_
  rintro e y31 ⟨rfl, c31⟩
  go_wp2_with fail
  refine (plus_to t31 a2 b1 t32 _ A2.out B1.out E32.out O32.out).mono ?_
  rintro e y32 ⟨rfl, c32⟩
  go_wp2_with fail
  refine (plus_to t32 a3 b0 t33 _ A3.out B0.out E33.out O33.out).mono ?_
  rintro e y33 ⟨rfl, c33⟩
  go_wp2_with fail
  refine (plus_to t33 g4 b4 m3 _ G4.out B4.out E34.out O34.out).mono ?_
  rintro e x3 ⟨he, c34⟩
  rw [HW3.out] at he
  subst he
  have C3 := Lib.hid ((((c30.then_ c31).then_ c32).then_ c33).then_ c34)
  clear c30 c31 c32 c33 c34
  go_wp2_with fail
  refine (plus0_to a0 b4 t40 _ A0.out B4.out E40.out O40.out).mono ?_
  rintro e y40 ⟨rfl, c40⟩
  go_wp2_with fail
  refine (plus_to t40 a1 b3 t41 _ A1.out B3.out E41.out O41.out).mono ?_
  rintro e y41 ⟨rfl, c41⟩
  go_wp2_with fail
  refine (plus_to t41 a2 b2 t42 _ A2.out B2.out E42.out O42.out).mono ?_
  rintro e y42 ⟨rfl, c42⟩
  go_wp2_with fail
  refine (plus_to t42 a3 b1 t43 _ A3.out B1.out E43.out O43.out).mono ?_
  rintro e y43 ⟨rfl, c43⟩
  go_wp2_with fail
  refine (plus_to t43 a4 b0 m4 _ A4.out B0.out E44.out O44.out).mono ?_
  rintro e x4 ⟨he, c44⟩
  rw [HW4.out] at he
  subst he
  have C4 := Lib.hid ((((c40.then_ c41).then_ c42).then_ c43).then_ c44)
  clear c40 c41 c42 c43 c44
  go_wp2_with fail
  clear O00 O01 O02 O03 O04 O10 O11 O12 O13 O14 O20 O21 O22 O23 O24 O30 O31 O32 O33 O34 O40 O41 O42 O43 O44
  have K0 := ((((((((Blk2.new x0 h0 l0).below C1.out).alloc (.cells #[.int .u64 (h1 : Int), .int .u64 (l1 : Int)] 61)).below C2.out).alloc (.cells #[.int .u64 (h2 : Int), .int .u64 (l2 : Int)] 61)).below C3.out).alloc (.cells #[.int .u64 (h3 : Int), .int .u64 (l3 : Int)] 61)).below C4.out).alloc (.cells #[.int .u64 (h4 : Int), .int .u64 (l4 : Int)] 61)
  have K1 := ((((((Blk2.new x1 h1 l1).below C2.out).alloc (.cells #[.int .u64 (h2 : Int), .int .u64 (l2 : Int)] 61)).below C3.out).alloc (.cells #[.int .u64 (h3 : Int), .int .u64 (l3 : Int)] 61)).below C4.out).alloc (.cells #[.int .u64 (h4 : Int), .int .u64 (l4 : Int)] 61)
  have K2 := ((((Blk2.new x2 h2 l2).below C3.out).alloc (.cells #[.int .u64 (h3 : Int), .int .u64 (l3 : Int)] 61)).below C4.out).alloc (.cells #[.int .u64 (h4 : Int), .int .u64 (l4 : Int)] 61)
  have K3 := ((Blk2.new x3 h3 l3).below C4.out).alloc (.cells #[.int .u64 (h4 : Int), .int .u64 (l4 : Int)] 61)
  have K4 := Blk2.new x4 h4 l4
  have BR : Below _ _ (x4.alloc (.cells #[.int .u64 (h4 : Int), .int .u64 (l4 : Int)] 61)) := ((((C0.out.next C1.out).next C2.out).next C3.out).next C4.out).alloc ((((C0.out.next C1.out).next C2.out).next C3.out).next C4.out).size _
  have BW : Below w.heap.size w (x4.alloc (.cells #[.int .u64 (h4 : Int), .int .u64 (l4 : Int)] 61)) := below3d BR
  obtain ⟨y, hy⟩ : ∃ X, x4.alloc (.cells #[.int .u64 (h4 : Int), .int .u64 (l4 : Int)] 61) = X := ⟨_, rfl⟩
  rw [hy] at K0 K1 K2 K3 K4 BR BW
  rw [hy]
  have HK := Lib.hid (And.intro K0 (And.intro K1 (And.intro K2 (And.intro K3 K4))))
  have HR := Lib.hid BR
  have HW := Lib.hid BW
  clear hy C0 C1 C2 C3 C4 K0 K1 K2 K3 K4 BR BW
  obtain ⟨p0, p1, p2, p3, p4, v0, v1, v2, v3, v4, hps⟩ := low_sums m0 m1 m2 m3 m4 l0 l1 l2 l3 l4 HL.out HB.out
  have HP := Lib.hid hps
  have V0 := Lib.hid v0
  have V1 := Lib.hid v1
  have V2 := Lib.hid v2
  have V3 := Lib.hid v3
  have V4 := Lib.hid v4
  clear hps v0 v1 v2 v3 v4
  have q1 := HK.out.1.cell1
  have q2 := HK.out.2.2.2.2.cell0
  have q3 := HK.out.2.2.2.2.cell1
  have v := V0.out
  go_region_held3 (fun w' => w'.cell? ⟨x0.heap.size, 1, none⟩ = some (.int .u64 (l0 : Int)) ∧ w'.cell? ⟨x4.heap.size, 0, none⟩ = some (.int .u64 (h4 : Int)) ∧ w'.cell? ⟨x4.heap.size, 1, none⟩ = some (.int .u64 (l4 : Int)))
    (first | go_keep | (refine ⟨?_, ?_, ?_⟩ <;> exact Go.cell_later (by assumption) (by assumption)))
    ((go_at_call 41; refine (above_calls' h4 l4 m4 HW4.out _ HB.out.2.2.2.2.1).mono ?_; rintro e y0 ⟨rfl, bx⟩))
  have bx2 : Below y.heap.size y y0 := ⟨bx.os, bx.tape, bx.output, bx.size, bx.block⟩
  have HK2 := HK
  have HR2 := HR
  have HW2' := HW
  clear HK HR HW
  have HK := Lib.hid (And.intro (HK2.out.1.below bx2) (And.intro (HK2.out.2.1.below bx2) (And.intro (HK2.out.2.2.1.below bx2) (And.intro (HK2.out.2.2.2.1.below bx2) (HK2.out.2.2.2.2.below bx2)))))
  have HR := Lib.hid (HR2.out.then_ bx2)
  have HW := Lib.hid (HW2'.out.then_ bx2)
  clear bx bx2 HK2 HR2 HW2' q1 q2 q3 v
  go_wp2_with fail
  have q1 := HK.out.2.1.cell1
  have q2 := HK.out.1.cell0
  have q3 := HK.out.1.cell1
  have v := V1.out
  go_region_held3 (fun w' => w'.cell? ⟨x1.heap.size, 1, none⟩ = some (.int .u64 (l1 : Int)) ∧ w'.cell? ⟨x0.heap.size, 0, none⟩ = some (.int .u64 (h0 : Int)) ∧ w'.cell? ⟨x0.heap.size, 1, none⟩ = some (.int .u64 (l0 : Int)))
    (first | go_keep | (refine ⟨?_, ?_, ?_⟩ <;> exact Go.cell_later (by assumption) (by assumption)))
    ((go_at_call 41; refine (above_calls' h0 l0 m0 HW0.out _ HB.out.1).mono ?_; rintro e y1 ⟨rfl, bx⟩))
  have bx2 : Below y0.heap.size y0 y1 := ⟨bx.os, bx.tape, bx.output, bx.size, bx.block⟩
  have HK2 := HK
  have HR2 := HR
  have HW2' := HW
  clear HK HR HW
  have HK := Lib.hid (And.intro (HK2.out.1.below bx2) (And.intro (HK2.out.2.1.below bx2) (And.intro (HK2.out.2.2.1.below bx2) (And.intro (HK2.out.2.2.2.1.below bx2) (HK2.out.2.2.2.2.below bx2)))))
  have HR := Lib.hid (HR2.out.then_ bx2)
  have HW := Lib.hid (HW2'.out.then_ bx2)
  clear bx bx2 HK2 HR2 HW2' q1 q2 q3 v
  go_wp2_with fail
  have q1 := HK.out.2.2.1.cell1
  have q2 := HK.out.2.1.cell0
  have q3 := HK.out.2.1.cell1
  have v := V2.out
  go_region_held3 (fun w' => w'.cell? ⟨x2.heap.size, 1, none⟩ = some (.int .u64 (l2 : Int)) ∧ w'.cell? ⟨x1.heap.size, 0, none⟩ = some (.int .u64 (h1 : Int)) ∧ w'.cell? ⟨x1.heap.size, 1, none⟩ = some (.int .u64 (l1 : Int)))
    (first | go_keep | (refine ⟨?_, ?_, ?_⟩ <;> exact Go.cell_later (by assumption) (by assumption)))
    ((go_at_call 41; refine (above_calls' h1 l1 m1 HW1.out _ HB.out.2.1).mono ?_; rintro e y2 ⟨rfl, bx⟩))
  have bx2 : Below y1.heap.size y1 y2 := ⟨bx.os, bx.tape, bx.output, bx.size, bx.block⟩
  have HK2 := HK
  have HR2 := HR
  have HW2' := HW
  clear HK HR HW
  have HK := Lib.hid (And.intro (HK2.out.1.below bx2) (And.intro (HK2.out.2.1.below bx2) (And.intro (HK2.out.2.2.1.below bx2) (And.intro (HK2.out.2.2.2.1.below bx2) (HK2.out.2.2.2.2.below bx2)))))
  have HR := Lib.hid (HR2.out.then_ bx2)
  have HW := Lib.hid (HW2'.out.then_ bx2)
  clear bx bx2 HK2 HR2 HW2' q1 q2 q3 v
  go_wp2_with fail
  have q1 := HK.out.2.2.2.1.cell1
  have q2 := HK.out.2.2.1.cell0
  have q3 := HK.out.2.2.1.cell1
  have v := V3.out
  go_region_held3 (fun w' => w'.cell? ⟨x3.heap.size, 1, none⟩ = some (.int .u64 (l3 : Int)) ∧ w'.cell? ⟨x2.heap.size, 0, none⟩ = some (.int .u64 (h2 : Int)) ∧ w'.cell? ⟨x2.heap.size, 1, none⟩ = some (.int .u64 (l2 : Int)))
    (first | go_keep | (refine ⟨?_, ?_, ?_⟩ <;> exact Go.cell_later (by assumption) (by assumption)))
    ((go_at_call 41; refine (above_calls' h2 l2 m2 HW2.out _ HB.out.2.2.1).mono ?_; rintro e y3 ⟨rfl, bx⟩))
  have bx2 : Below y2.heap.size y2 y3 := ⟨bx.os, bx.tape, bx.output, bx.size, bx.block⟩
  have HK2 := HK
  have HR2 := HR
  have HW2' := HW
  clear HK HR HW
  have HK := Lib.hid (And.intro (HK2.out.1.below bx2) (And.intro (HK2.out.2.1.below bx2) (And.intro (HK2.out.2.2.1.below bx2) (And.intro (HK2.out.2.2.2.1.below bx2) (HK2.out.2.2.2.2.below bx2)))))
  have HR := Lib.hid (HR2.out.then_ bx2)
  have HW := Lib.hid (HW2'.out.then_ bx2)
  clear bx bx2 HK2 HR2 HW2' q1 q2 q3 v
  go_wp2_with fail
  have q1 := HK.out.2.2.2.2.cell1
  have q2 := HK.out.2.2.2.1.cell0
  have q3 := HK.out.2.2.2.1.cell1
  have v := V4.out
  go_region_held3 (fun w' => w'.cell? ⟨x4.heap.size, 1, none⟩ = some (.int .u64 (l4 : Int)) ∧ w'.cell? ⟨x3.heap.size, 0, none⟩ = some (.int .u64 (h3 : Int)) ∧ w'.cell? ⟨x3.heap.size, 1, none⟩ = some (.int .u64 (l3 : Int)))
    (first | go_keep | (refine ⟨?_, ?_, ?_⟩ <;> exact Go.cell_later (by assumption) (by assumption)))
    ((go_at_call 41; refine (above_calls' h3 l3 m3 HW3.out _ HB.out.2.2.2.1).mono ?_; rintro e y4 ⟨rfl, bx⟩))
  have bx2 : Below y3.heap.size y3 y4 := ⟨bx.os, bx.tape, bx.output, bx.size, bx.block⟩
  have HK2 := HK
  have HR2 := HR
  have HW2' := HW
  clear HK HR HW
  have HK := Lib.hid (And.intro (HK2.out.1.below bx2) (And.intro (HK2.out.2.1.below bx2) (And.intro (HK2.out.2.2.1.below bx2) (And.intro (HK2.out.2.2.2.1.below bx2) (HK2.out.2.2.2.2.below bx2)))))
  have HR := Lib.hid (HR2.out.then_ bx2)
  have HW := Lib.hid (HW2'.out.then_ bx2)
  clear bx bx2 HK2 HR2 HW2' q1 q2 q3 v
  go_wp2_with fail
  have hrest : val5 p0 p1 p2 p3 p4 % P = (r * s) % P := by
    have h1 := HP.out.2
    have h2 := HMV.out
    rw [Nat.mul_mod, ← HVAL.out.1, ← HVAL.out.2, ← Nat.mul_mod, h2, Nat.add_mul_mod_self_left, ← h1, Nat.add_mul_mod_self_left]
  refine (carried_el p0 p1 p2 p3 p4 (r * s) _ HP.out.1.1 HP.out.1.2.1 HP.out.1.2.2.1 HP.out.1.2.2.2.1 HP.out.1.2.2.2.2 hrest).mono ?_
  rintro e z ⟨x, rfl, hx, bz⟩
  obtain ⟨d0, d1, d2, d3, d4, rfl, hok, hval⟩ := hx.form
  have BZ := HR.out.then_ bz
  have BWz := HW.out.then_ bz
  obtain ⟨hc, hf⟩ := bcell BZ
  have hz : w.heap.size + 2 < z.heap.size := by have := BZ.size; simp at this; omega
  have HX := Lib.hid hx
  have HZ := Lib.hid BWz
  clear HK HR HW hok hval hx bz BZ BWz
  go_wp2
  exact bodyPost_ret (v := .agg #[.int .u64 d0, .int .u64 d1, .int .u64 d2, .int .u64 d3, .int .u64 d4]) (by simp [results, Try.results26, go_sem, hc]) rfl
    ⟨_, rfl, HX.out, below_set5 HZ.out _ (by omega) _ _ _ _ _⟩
end Go.Proofs.Ytpdoegfmngibgaa
