/- Layers 4 and 6: texts put together (FdC FdD FdI FdJ FdK FdN). -/
import Derived.Test.YtkfdclnaaphdgaaDoorFmA
import Derived.Test.YtkfdclnaaphdgaaDoorShelf
import Derived.Deep.RegionHeld3
import Derived.WalkSpells
import Derived.Deep.WholeRow
import Derived.StillTailTactics
import Derived.Test.YtkfdclnaaphdgaaDoorPrime
import Derived.Test.YtkfdclnaaphdgaaDoorLg
namespace Go.Proofs.YtkfdclnaaphdgaaDoor
open Go.ChangeShapes Go.WideShapes Go.ChangeAt Go.RowKit Go.IntWalk
set_option linter.unusedVariables false

/-- A number in two words. -/
def W2 (n : Nat) : Value := .agg #[.int .u64 ((n / 2 ^ 64 : Nat) : Int), .int .u64 ((n % 2 ^ 64 : Nat) : Int)]
def WPost (n : Nat) (w : World) (e : Ending) (w' : World) : Prop := e = .returned (W2 n) ∧ Below w.heap.size w w'

theorem add64_run (x y c : Nat) (hc : c ≤ 1) (w : World) :
    (callFunc 56 #[.int .u64 (x : Int), .int .u64 (y : Int), .int .u64 (c : Int)]).run Tryd.prog w =
      .ok (.value (.tuple #[.int .u64 (((x + y + c) % 18446744073709551616 : Nat) : Int), .int .u64 (((x + y + c) / 18446744073709551616 : Nat) : Int)])) w := by
  rw [run_callFunc_extern Tryd.func56 (by kernel_rfl) (by kernel_rfl) (by kernel_rfl) (e := add64Entry) (by kernel_rfl), run_add64 x y c (by omega) (by omega) (by omega) (by omega)]
  simp only [Result.andThen]
  congr 5 <;> omega

set_option maxHeartbeats 2000000 in
theorem plus_calls (n a b : Nat) (w : World) (ha : a < 2 ^ 64) (hb : b < 2 ^ 64) (hn : n + a * b < 2 ^ 128) :
    Calls Tryd.prog 78 #[W2 n, .int .u64 (a : Int), .int .u64 (b : Int)] w (WPost (n + a * b) w) := by
  unfold W2
  obtain ⟨h, hh⟩ : ∃ h, n / 2 ^ 64 = h := ⟨_, rfl⟩
  obtain ⟨l, hl⟩ : ∃ l, n % 2 ^ 64 = l := ⟨_, rfl⟩
  rw [hh, hl]
  have HM : Hid (∀ W : World, Calls Tryd.prog 92 #[.int .u64 (a : Int), .int .u64 (b : Int)] W fun e w' => e = .returned (.tuple #[.int .u64 ((a * b / 18446744073709551616 : Nat) : Int), .int .u64 ((a * b % 18446744073709551616 : Nat) : Int)]) ∧ w' = W) :=
    fun W => Tryd.bits_Mul64 a b (by omega) (by omega) W
  obtain ⟨p, hp⟩ : ∃ p, a * b / 18446744073709551616 = p := ⟨_, rfl⟩
  obtain ⟨q, hq⟩ : ∃ q, a * b % 18446744073709551616 = q := ⟨_, rfl⟩
  rw [hp, hq] at HM
  have g0 : ∀ W : World, (callFunc 56 #[.int .u64 (q : Int), .int .u64 (l : Int), .int .u64 0]).run Tryd.prog W = _ := fun W => add64_run q l 0 (by omega) W
  obtain ⟨s, hs⟩ : ∃ s, (q + l + 0) % 18446744073709551616 = s := ⟨_, rfl⟩
  obtain ⟨c, hc⟩ : ∃ c, (q + l + 0) / 18446744073709551616 = c := ⟨_, rfl⟩
  rw [hs, hc] at g0
  have hc1 : c ≤ 1 := by omega
  have g1 : ∀ W : World, (callFunc 56 #[.int .u64 (p : Int), .int .u64 (h : Int), .int .u64 (c : Int)]).run Tryd.prog W = _ := fun W => add64_run p h c hc1 W
  obtain ⟨s1, hs1⟩ : ∃ s, (p + h + c) % 18446744073709551616 = s := ⟨_, rfl⟩
  obtain ⟨c1, hc2⟩ : ∃ s, (p + h + c) / 18446744073709551616 = s := ⟨_, rfl⟩
  rw [hs1, hc2] at g1
  have HE : Hid (W2 (n + a * b) = .agg #[.int .u64 (s1 : Int), .int .u64 (s : Int)]) := by
    show _ = _
    generalize a * b = m at *
    unfold W2
    rw [show (n + m) / 2 ^ 64 = s1 by omega, show (n + m) % 2 ^ 64 = s by omega]
  clear hh hl hp hq ha hb hn hs hc hc1 hs1 hc2
  go_enter Tryd.func78, Tryd.ntmps78
  go_wp2_with fail
  refine (HM.out _).mono ?_
  rintro e w1 ⟨rfl, rfl⟩
  go_wp2
  exact bodyPost_ret (v := .agg #[.int .u64 (s1 : Int), .int .u64 (s : Int)]) (by simp [results, Tryd.results78, go_sem]) rfl
    ⟨by rw [HE.out], ((Below.refl _ _).alloc (Nat.le_refl _) _).alloc (by simp) _⟩

set_option maxHeartbeats 2000000 in
theorem above_calls (n : Nat) (w : World) (hn : n < 2 ^ 115) :
    Calls Tryd.prog 79 #[W2 n] w fun e w' => e = .returned (.int .u64 ((n / 2 ^ 51 : Nat) : Int)) ∧ Below w.heap.size w w' := by
  unfold W2
  obtain ⟨h, hh⟩ : ∃ h, n / 2 ^ 64 = h := ⟨_, rfl⟩
  obtain ⟨l, hl⟩ : ∃ l, n % 2 ^ 64 = l := ⟨_, rfl⟩
  rw [hh, hl]
  go_enter Tryd.func79, Tryd.ntmps79
  have ho : bits .or .u64 ((h : Int) * 8192) ((l : Int) / 2251799813685248) = ((n / 2 ^ 51 : Nat) : Int) := by
    have h1 := (bits_nat .u64 64 (by decide) wraps_u64 (h * 8192) (l / 2251799813685248) (by omega) (by omega)).2
    have e1 : ((h * 8192 : Nat) : Int) = (h : Int) * 8192 := by omega
    have e2 : ((l / 2251799813685248 : Nat) : Int) = (l : Int) / 2251799813685248 := by omega
    rw [e1, e2] at h1
    rw [h1]
    have h2 := Nat.shiftLeft_add_eq_or_of_lt (i := 13) (b := l / 2251799813685248) (by omega) h
    rw [Nat.shiftLeft_eq] at h2
    rw [show h * 8192 = h * 2 ^ 13 from rfl, ← h2]
    congr 1; omega
  have hw : IntKind.u64.wrap ((h : Int) * 8192) = (h : Int) * 8192 := wraps_u64 _ (by omega) (by omega)
  clear hh hl hn
  go_wp2
  go_ret
  exact ⟨rfl, (Below.refl _ _).alloc (Nat.le_refl _) _⟩

/-! The product of five limbs and five limbs. -/
def n0 (a0 a1 a2 a3 a4 b0 b1 b2 b3 b4 : Nat) : Nat := 0 + a0 * b0 + 19 * a1 * b4 + 19 * a2 * b3 + 19 * a3 * b2 + 19 * a4 * b1
def n1 (a0 a1 a2 a3 a4 b0 b1 b2 b3 b4 : Nat) : Nat := 0 + a0 * b1 + a1 * b0 + 19 * a2 * b4 + 19 * a3 * b3 + 19 * a4 * b2
def n2 (a0 a1 a2 a3 a4 b0 b1 b2 b3 b4 : Nat) : Nat := 0 + a0 * b2 + a1 * b1 + a2 * b0 + 19 * a3 * b4 + 19 * a4 * b3
def n3 (a0 a1 a2 a3 a4 b0 b1 b2 b3 b4 : Nat) : Nat := 0 + a0 * b3 + a1 * b2 + a2 * b1 + a3 * b0 + 19 * a4 * b4
def n4 (a0 a1 a2 a3 a4 b0 b1 b2 b3 b4 : Nat) : Nat := 0 + a0 * b4 + a1 * b3 + a2 * b2 + a3 * b1 + a4 * b0
theorem val5_mul (a0 a1 a2 a3 a4 b : Nat) : val5 a0 a1 a2 a3 a4 * b = val5 (a0 * b) (a1 * b) (a2 * b) (a3 * b) (a4 * b) := by
  unfold val5; simp only [Nat.add_mul, Nat.mul_assoc]
theorem mul_val (a0 a1 a2 a3 a4 b0 b1 b2 b3 b4 : Nat) : val5 a0 a1 a2 a3 a4 * val5 b0 b1 b2 b3 b4 =
    val5 (n0 a0 a1 a2 a3 a4 b0 b1 b2 b3 b4) (n1 a0 a1 a2 a3 a4 b0 b1 b2 b3 b4) (n2 a0 a1 a2 a3 a4 b0 b1 b2 b3 b4) (n3 a0 a1 a2 a3 a4 b0 b1 b2 b3 b4) (n4 a0 a1 a2 a3 a4 b0 b1 b2 b3 b4) +
      P * (a1 * b4 + a2 * b3 + a3 * b2 + a4 * b1 + 2 ^ 51 * (a2 * b4 + a3 * b3 + a4 * b2) + 2 ^ 102 * (a3 * b4 + a4 * b3) + 2 ^ 153 * (a4 * b4)) := by
  have e : val5 a0 a1 a2 a3 a4 * val5 b0 b1 b2 b3 b4 = val5 a0 a1 a2 a3 a4 * b0 + 2 ^ 51 * (val5 a0 a1 a2 a3 a4 * b1) + 2 ^ 102 * (val5 a0 a1 a2 a3 a4 * b2) + 2 ^ 153 * (val5 a0 a1 a2 a3 a4 * b3) + 2 ^ 204 * (val5 a0 a1 a2 a3 a4 * b4) := by
    conv => lhs; unfold val5; rw [show b0 + 2 ^ 51 * b1 + 2 ^ 102 * b2 + 2 ^ 153 * b3 + 2 ^ 204 * b4 = b0 + 2 ^ 51 * b1 + 2 ^ 102 * b2 + 2 ^ 153 * b3 + 2 ^ 204 * b4 from rfl]
    show val5 a0 a1 a2 a3 a4 * (b0 + 2 ^ 51 * b1 + 2 ^ 102 * b2 + 2 ^ 153 * b3 + 2 ^ 204 * b4) = _
    rw [Nat.mul_add, Nat.mul_add, Nat.mul_add, Nat.mul_add]
    rw [Nat.mul_left_comm _ (2 ^ 51), Nat.mul_left_comm _ (2 ^ 102), Nat.mul_left_comm _ (2 ^ 153), Nat.mul_left_comm _ (2 ^ 204)]
  rw [e, val5_mul, val5_mul, val5_mul, val5_mul, val5_mul]
  unfold n0 n1 n2 n3 n4
  simp only [Nat.mul_assoc 19]
  generalize a0 * b0 = p00
  generalize a0 * b1 = p01
  generalize a0 * b2 = p02
  generalize a0 * b3 = p03
  generalize a0 * b4 = p04
  generalize a1 * b0 = p10
  generalize a1 * b1 = p11
  generalize a1 * b2 = p12
  generalize a1 * b3 = p13
  generalize a1 * b4 = p14
  generalize a2 * b0 = p20
  generalize a2 * b1 = p21
  generalize a2 * b2 = p22
  generalize a2 * b3 = p23
  generalize a2 * b4 = p24
  generalize a3 * b0 = p30
  generalize a3 * b1 = p31
  generalize a3 * b2 = p32
  generalize a3 * b3 = p33
  generalize a3 * b4 = p34
  generalize a4 * b0 = p40
  generalize a4 * b1 = p41
  generalize a4 * b2 = p42
  generalize a4 * b3 = p43
  generalize a4 * b4 = p44
  unfold val5 P
  omega
end Go.Proofs.YtkfdclnaaphdgaaDoor
namespace Go.Proofs.YtkfdclnaaphdgaaDoor
open Go.ChangeShapes Go.WideShapes Go.ChangeAt Go.RowKit Go.IntWalk
set_option linter.unusedVariables false

def L51 : Nat := 2 ^ 51 + 2 ^ 20
theorem prod_lt {a b : Nat} (ha : a < L51) (hb : b < L51) : a * b < 2 ^ 103 := by
  have h : a * b ≤ L51 * L51 := Nat.mul_le_mul (Nat.le_of_lt ha) (Nat.le_of_lt hb)
  have : L51 * L51 < 2 ^ 103 := by decide +kernel
  omega
theorem prod_lt19 {a b : Nat} (ha : a < L51) (hb : b < L51) : 19 * a * b < 2 ^ 108 := by
  have := prod_lt ha hb
  rw [Nat.mul_assoc]; omega
theorem W2_form (n : Nat) : ∃ h l : Nat, W2 n = .agg #[.int .u64 (h : Int), .int .u64 (l : Int)] ∧ n % 2 ^ 64 = l := ⟨_, _, rfl, rfl⟩
theorem plus0_calls (a b : Nat) (w : World) (ha : a < 2 ^ 64) (hb : b < 2 ^ 64) (hn : 0 + a * b < 2 ^ 128) :
    Calls Tryd.prog 78 #[.agg #[.int .u64 0, .int .u64 0], .int .u64 (a : Int), .int .u64 (b : Int)] w (WPost (0 + a * b) w) := plus_calls 0 a b w ha hb hn
theorem above_calls' (h l n : Nat) (hW : W2 n = .agg #[.int .u64 (h : Int), .int .u64 (l : Int)]) (w : World) (hn : n < 2 ^ 112) :
    Calls Tryd.prog 79 #[.agg #[.int .u64 (h : Int), .int .u64 (l : Int)]] w fun e w' => e = .returned (.int .u64 ((n / 2 ^ 51 : Nat) : Int)) ∧ Below w.heap.size w w' := hW ▸ above_calls n w (by omega)
/-- A block of two words that is there. -/
def Blk2 (w : World) (g h l : Nat) : Prop := w.heap[g]? = some (.cells #[.int .u64 (h : Int), .int .u64 (l : Int)] 110 (0, 0))
theorem Blk2.new (w : World) (h l : Nat) : Blk2 (w.alloc (.cells #[.int .u64 (h : Int), .int .u64 (l : Int)] 110)) w.heap.size h l := heap_alloc_new w _
theorem Blk2.lt {w : World} {g h l : Nat} (hb : Blk2 w g h l) : g < w.heap.size := (Array.getElem?_eq_some_iff.1 hb).1
theorem Blk2.below {w w1 : World} {g h l : Nat} (hb : Blk2 w g h l) (b : Below w.heap.size w w1) : Blk2 w1 g h l := (b.block g hb.lt).trans hb
theorem Blk2.alloc {w : World} {g h l : Nat} (hb : Blk2 w g h l) (o : Obj) : Blk2 (w.alloc o) g h l := (heap_alloc_old w _ hb.lt).trans hb
theorem Blk2.drew {w : World} {g h l : Nat} (hb : Blk2 w g h l) : Blk2 w.drew g h l := hb
theorem Blk2.cell0 {w : World} {g h l : Nat} (hb : Blk2 w g h l) : w.cell? ⟨g, 0, none⟩ = some (.int .u64 (h : Int)) := by rw [cell_of_row _ _ _ _ _ _ hb]; rfl
theorem Blk2.cell1 {w : World} {g h l : Nat} (hb : Blk2 w g h l) : w.cell? ⟨g, 1, none⟩ = some (.int .u64 (l : Int)) := by rw [cell_of_row _ _ _ _ _ _ hb]; rfl

theorem mul_bounds (a0 a1 a2 a3 a4 b0 b1 b2 b3 b4 : Nat) (h : Ok5 a0 a1 a2 a3 a4) (h2 : Ok5 b0 b1 b2 b3 b4) :
    n0 a0 a1 a2 a3 a4 b0 b1 b2 b3 b4 < 2 ^ 112 ∧ n1 a0 a1 a2 a3 a4 b0 b1 b2 b3 b4 < 2 ^ 112 ∧ n2 a0 a1 a2 a3 a4 b0 b1 b2 b3 b4 < 2 ^ 112 ∧ n3 a0 a1 a2 a3 a4 b0 b1 b2 b3 b4 < 2 ^ 112 ∧ n4 a0 a1 a2 a3 a4 b0 b1 b2 b3 b4 < 2 ^ 112 ∧ n4 a0 a1 a2 a3 a4 b0 b1 b2 b3 b4 < 2 ^ 106 := by
  obtain ⟨a0h, a1h, a2h, a3h, a4h⟩ := h
  obtain ⟨b0h, b1h, b2h, b3h, b4h⟩ := h2
  have p_a0_b0 := prod_lt (a := a0) (b := b0) a0h b0h
  have p_xa1_b4 := prod_lt19 (a := a1) (b := b4) a1h b4h
  have p_xa2_b3 := prod_lt19 (a := a2) (b := b3) a2h b3h
  have p_xa3_b2 := prod_lt19 (a := a3) (b := b2) a3h b2h
  have p_xa4_b1 := prod_lt19 (a := a4) (b := b1) a4h b1h
  have p_a0_b1 := prod_lt (a := a0) (b := b1) a0h b1h
  have p_a1_b0 := prod_lt (a := a1) (b := b0) a1h b0h
  have p_xa2_b4 := prod_lt19 (a := a2) (b := b4) a2h b4h
  have p_xa3_b3 := prod_lt19 (a := a3) (b := b3) a3h b3h
  have p_xa4_b2 := prod_lt19 (a := a4) (b := b2) a4h b2h
  have p_a0_b2 := prod_lt (a := a0) (b := b2) a0h b2h
  have p_a1_b1 := prod_lt (a := a1) (b := b1) a1h b1h
  have p_a2_b0 := prod_lt (a := a2) (b := b0) a2h b0h
  have p_xa3_b4 := prod_lt19 (a := a3) (b := b4) a3h b4h
  have p_xa4_b3 := prod_lt19 (a := a4) (b := b3) a4h b3h
  have p_a0_b3 := prod_lt (a := a0) (b := b3) a0h b3h
  have p_a1_b2 := prod_lt (a := a1) (b := b2) a1h b2h
  have p_a2_b1 := prod_lt (a := a2) (b := b1) a2h b1h
  have p_a3_b0 := prod_lt (a := a3) (b := b0) a3h b0h
  have p_xa4_b4 := prod_lt19 (a := a4) (b := b4) a4h b4h
  have p_a0_b4 := prod_lt (a := a0) (b := b4) a0h b4h
  have p_a1_b3 := prod_lt (a := a1) (b := b3) a1h b3h
  have p_a2_b2 := prod_lt (a := a2) (b := b2) a2h b2h
  have p_a3_b1 := prod_lt (a := a3) (b := b1) a3h b1h
  have p_a4_b0 := prod_lt (a := a4) (b := b0) a4h b0h
  unfold n0 n1 n2 n3 n4
  omega

theorem plus_to (n a b m : Nat) (w : World) (ha : a < 2 ^ 64) (hb : b < 2 ^ 64) (hm : n + a * b = m) (hn : m < 2 ^ 128) :
    Calls Tryd.prog 78 #[W2 n, .int .u64 (a : Int), .int .u64 (b : Int)] w (WPost m w) := by subst hm; exact plus_calls n a b w ha hb hn
theorem plus0_to (a b m : Nat) (w : World) (ha : a < 2 ^ 64) (hb : b < 2 ^ 64) (hm : 0 + a * b = m) (hn : m < 2 ^ 128) :
    Calls Tryd.prog 78 #[.agg #[.int .u64 0, .int .u64 0], .int .u64 (a : Int), .int .u64 (b : Int)] w (WPost m w) := plus_to 0 a b m w ha hb hm hn
theorem _root_.Go.RowKit.Below.next {A x0 x1 : World} {o : Obj} (h : Below A.heap.size A x0) (h1 : Below (x0.alloc o).heap.size (x0.alloc o) x1) : Below A.heap.size A x1 := (h.alloc h.size o).trans (h1.mono (Nat.le_trans h.size (by simp)))
theorem below3d {w w1 : World} {o1 o2 o3 : Obj} {n : Nat} (h : Below ((((w.alloc o1).alloc o2).alloc o3).drewN n).heap.size ((((w.alloc o1).alloc o2).alloc o3).drewN n) w1) : Below w.heap.size w w1 :=
  below3 (o1 := o1) (o2 := o2) (o3 := o3) ⟨h.os, h.tape, h.output, h.size, h.block⟩
theorem low_sum (m l k t : Nat) (hl : m % 2 ^ 64 = l) (hk : k * (t / 2 ^ 51) < 2 ^ 62) : IntKind.u64.wrap (bits .and .u64 (l : Int) 2251799813685247 + ((k * (t / 2 ^ 51) : Nat) : Int)) = ((m % 2 ^ 51 + k * (t / 2 ^ 51) : Nat) : Int) ∧ m % 2 ^ 51 + k * (t / 2 ^ 51) < 2 ^ 63 := by
  have e : l % 2 ^ 51 = m % 2 ^ 51 := by omega
  have h1 : m % 2 ^ 51 < 2 ^ 51 := Nat.mod_lt _ (by decide)
  rw [u64_mask51 l (by omega), e, ← Int.natCast_add]
  exact ⟨wraps_u64 _ (by omega) (by omega), by omega⟩
theorem low_sums (m0 m1 m2 m3 m4 l0 l1 l2 l3 l4 : Nat) (hl : m0 % 2 ^ 64 = l0 ∧ m1 % 2 ^ 64 = l1 ∧ m2 % 2 ^ 64 = l2 ∧ m3 % 2 ^ 64 = l3 ∧ m4 % 2 ^ 64 = l4) (hb : m0 < 2 ^ 112 ∧ m1 < 2 ^ 112 ∧ m2 < 2 ^ 112 ∧ m3 < 2 ^ 112 ∧ m4 < 2 ^ 112 ∧ m4 < 2 ^ 106) :
    ∃ p0 p1 p2 p3 p4 : Nat, IntKind.u64.wrap (bits .and .u64 (l0 : Int) 2251799813685247 + IntKind.u64.wrap (19 * ((m4 : Int) / 2251799813685248))) = (p0 : Int) ∧ IntKind.u64.wrap (bits .and .u64 (l1 : Int) 2251799813685247 + ((m0 : Int) / 2251799813685248)) = (p1 : Int) ∧
      IntKind.u64.wrap (bits .and .u64 (l2 : Int) 2251799813685247 + ((m1 : Int) / 2251799813685248)) = (p2 : Int) ∧ IntKind.u64.wrap (bits .and .u64 (l3 : Int) 2251799813685247 + ((m2 : Int) / 2251799813685248)) = (p3 : Int) ∧
      IntKind.u64.wrap (bits .and .u64 (l4 : Int) 2251799813685247 + ((m3 : Int) / 2251799813685248)) = (p4 : Int) ∧
      (p0 < 2 ^ 63 ∧ p1 < 2 ^ 63 ∧ p2 < 2 ^ 63 ∧ p3 < 2 ^ 63 ∧ p4 < 2 ^ 63) ∧ val5 p0 p1 p2 p3 p4 + P * (m4 / 2 ^ 51) = val5 m0 m1 m2 m3 m4 := by
  have c1 : ∀ t : Nat, (t : Int) / 2251799813685248 = ((1 * (t / 2 ^ 51) : Nat) : Int) := fun t => by rw [Nat.one_mul, Int.natCast_ediv]; rfl
  have c19 : IntKind.u64.wrap (19 * ((m4 : Int) / 2251799813685248)) = ((19 * (m4 / 2 ^ 51) : Nat) : Int) := by
    have e : 19 * ((m4 : Int) / 2251799813685248) = ((19 * (m4 / 2 ^ 51) : Nat) : Int) := by rw [Int.natCast_mul, Int.natCast_ediv]; rfl
    rw [e]; exact wraps_u64 _ (by omega) (by omega)
  obtain ⟨w0, b0⟩ := low_sum m0 l0 19 m4 hl.1 (by omega)
  obtain ⟨w1, b1⟩ := low_sum m1 l1 1 m0 hl.2.1 (by omega)
  obtain ⟨w2, b2⟩ := low_sum m2 l2 1 m1 hl.2.2.1 (by omega)
  obtain ⟨w3, b3⟩ := low_sum m3 l3 1 m2 hl.2.2.2.1 (by omega)
  obtain ⟨w4, b4⟩ := low_sum m4 l4 1 m3 hl.2.2.2.2 (by omega)
  refine ⟨_, _, _, _, _, by rw [c19]; exact w0, by rw [c1]; exact w1, by rw [c1]; exact w2, by rw [c1]; exact w3, by rw [c1]; exact w4, ⟨b0, b1, b2, b3, b4⟩, ?_⟩
  rw [Nat.one_mul, Nat.one_mul, Nat.one_mul, Nat.one_mul]
  exact carry_val m0 m1 m2 m3 m4
theorem lt_parts (p q r s t : Nat) (h : 0 + p + q + r + s + t < 2 ^ 112) : 0 + p < 2 ^ 128 ∧ 0 + p + q < 2 ^ 128 ∧ 0 + p + q + r < 2 ^ 128 ∧ 0 + p + q + r + s < 2 ^ 128 ∧ 0 + p + q + r + s + t < 2 ^ 128 := by omega
theorem wrap19 (a : Nat) (h : a < 2 ^ 51 + 2 ^ 20) : IntKind.u64.wrap (19 * (a : Int)) = ((19 * a : Nat) : Int) ∧ 19 * a < 2 ^ 64 ∧ a < 2 ^ 64 := by
  refine ⟨?_, by omega, by omega⟩
  rw [show 19 * (a : Int) = ((19 * a : Nat) : Int) by omega]; exact wraps_u64 _ (by omega) (by omega)
set_option maxRecDepth 100000 in
set_option maxHeartbeats 16000000 in
theorem mul_calls (v u : Value) (r s : Nat) (hv : IsEl v r) (hu : IsEl u s) (w : World) :
    Calls Tryd.prog 45 #[v, u] w (ElPost (r * s) w) := by
  obtain ⟨a0, a1, a2, a3, a4, rfl, hok, hval⟩ := hv.form
  obtain ⟨b0, b1, b2, b3, b4, rfl, hok2, hval2⟩ := hu.form
  have hbd := mul_bounds a0 a1 a2 a3 a4 b0 b1 b2 b3 b4 hok hok2
  have hmv := mul_val a0 a1 a2 a3 a4 b0 b1 b2 b3 b4
  have HOK := Lib.hid (And.intro hok hok2)
  have HVAL := Lib.hid (And.intro hval hval2)
  unfold n0 n1 n2 n3 n4 at hbd hmv
  unfold Ok5 at hok hok2
  obtain ⟨f1, sg1, sa1⟩ := wrap19 a1 hok.2.1
  obtain ⟨f2, sg2, sa2⟩ := wrap19 a2 hok.2.2.1
  obtain ⟨f3, sg3, sa3⟩ := wrap19 a3 hok.2.2.2.1
  obtain ⟨f4, sg4, sa4⟩ := wrap19 a4 hok.2.2.2.2
  have sa0 := (wrap19 a0 hok.1).2.2
  have sb0 := (wrap19 b0 hok2.1).2.2
  have sb1 := (wrap19 b1 hok2.2.1).2.2
  have sb2 := (wrap19 b2 hok2.2.2.1).2.2
  have sb3 := (wrap19 b3 hok2.2.2.2.1).2.2
  have sb4 := (wrap19 b4 hok2.2.2.2.2).2.2
  clear hok hok2 hval hval2 hv hu
  generalize 19 * a1 = g1 at *
  generalize 19 * a2 = g2 at *
  generalize 19 * a3 = g3 at *
  generalize 19 * a4 = g4 at *
  obtain ⟨o00, o01, o02, o03, o04⟩ := lt_parts (a0 * b0) (g1 * b4) (g2 * b3) (g3 * b2) (g4 * b1) (show 0 + a0 * b0 + g1 * b4 + g2 * b3 + g3 * b2 + g4 * b1 < 2 ^ 112 from hbd.1)
  obtain ⟨t00, e00⟩ : ∃ m, 0 + a0 * b0 = m := ⟨_, rfl⟩
  rw [e00] at o00 o01 o02 o03 o04 hbd hmv
  obtain ⟨t01, e01⟩ : ∃ m, t00 + g1 * b4 = m := ⟨_, rfl⟩
  rw [e01] at o01 o02 o03 o04 hbd hmv
  obtain ⟨t02, e02⟩ : ∃ m, t01 + g2 * b3 = m := ⟨_, rfl⟩
  rw [e02] at o02 o03 o04 hbd hmv
  obtain ⟨t03, e03⟩ : ∃ m, t02 + g3 * b2 = m := ⟨_, rfl⟩
  rw [e03] at o03 o04 hbd hmv
  obtain ⟨m0, e04⟩ : ∃ m, t03 + g4 * b1 = m := ⟨_, rfl⟩
  rw [e04] at o04 hbd hmv
  have E00 := Lib.hid e00
  have O00 := Lib.hid o00
  have E01 := Lib.hid e01
  have O01 := Lib.hid o01
  have E02 := Lib.hid e02
  have O02 := Lib.hid o02
  have E03 := Lib.hid e03
  have O03 := Lib.hid o03
  have E04 := Lib.hid e04
  have O04 := Lib.hid o04
  clear e00 o00 e01 o01 e02 o02 e03 o03 e04 o04
  obtain ⟨o10, o11, o12, o13, o14⟩ := lt_parts (a0 * b1) (a1 * b0) (g2 * b4) (g3 * b3) (g4 * b2) (show 0 + a0 * b1 + a1 * b0 + g2 * b4 + g3 * b3 + g4 * b2 < 2 ^ 112 from hbd.2.1)
  obtain ⟨t10, e10⟩ : ∃ m, 0 + a0 * b1 = m := ⟨_, rfl⟩
  rw [e10] at o10 o11 o12 o13 o14 hbd hmv
  obtain ⟨t11, e11⟩ : ∃ m, t10 + a1 * b0 = m := ⟨_, rfl⟩
  rw [e11] at o11 o12 o13 o14 hbd hmv
  obtain ⟨t12, e12⟩ : ∃ m, t11 + g2 * b4 = m := ⟨_, rfl⟩
  rw [e12] at o12 o13 o14 hbd hmv
  obtain ⟨t13, e13⟩ : ∃ m, t12 + g3 * b3 = m := ⟨_, rfl⟩
  rw [e13] at o13 o14 hbd hmv
  obtain ⟨m1, e14⟩ : ∃ m, t13 + g4 * b2 = m := ⟨_, rfl⟩
  rw [e14] at o14 hbd hmv
  have E10 := Lib.hid e10
  have O10 := Lib.hid o10
  have E11 := Lib.hid e11
  have O11 := Lib.hid o11
  have E12 := Lib.hid e12
  have O12 := Lib.hid o12
  have E13 := Lib.hid e13
  have O13 := Lib.hid o13
  have E14 := Lib.hid e14
  have O14 := Lib.hid o14
  clear e10 o10 e11 o11 e12 o12 e13 o13 e14 o14
  obtain ⟨o20, o21, o22, o23, o24⟩ := lt_parts (a0 * b2) (a1 * b1) (a2 * b0) (g3 * b4) (g4 * b3) (show 0 + a0 * b2 + a1 * b1 + a2 * b0 + g3 * b4 + g4 * b3 < 2 ^ 112 from hbd.2.2.1)
  obtain ⟨t20, e20⟩ : ∃ m, 0 + a0 * b2 = m := ⟨_, rfl⟩
  rw [e20] at o20 o21 o22 o23 o24 hbd hmv
  obtain ⟨t21, e21⟩ : ∃ m, t20 + a1 * b1 = m := ⟨_, rfl⟩
  rw [e21] at o21 o22 o23 o24 hbd hmv
  obtain ⟨t22, e22⟩ : ∃ m, t21 + a2 * b0 = m := ⟨_, rfl⟩
  rw [e22] at o22 o23 o24 hbd hmv
  obtain ⟨t23, e23⟩ : ∃ m, t22 + g3 * b4 = m := ⟨_, rfl⟩
  rw [e23] at o23 o24 hbd hmv
  obtain ⟨m2, e24⟩ : ∃ m, t23 + g4 * b3 = m := ⟨_, rfl⟩
  rw [e24] at o24 hbd hmv
  have E20 := Lib.hid e20
  have O20 := Lib.hid o20
  have E21 := Lib.hid e21
  have O21 := Lib.hid o21
  have E22 := Lib.hid e22
  have O22 := Lib.hid o22
  have E23 := Lib.hid e23
  have O23 := Lib.hid o23
  have E24 := Lib.hid e24
  have O24 := Lib.hid o24
  clear e20 o20 e21 o21 e22 o22 e23 o23 e24 o24
  obtain ⟨o30, o31, o32, o33, o34⟩ := lt_parts (a0 * b3) (a1 * b2) (a2 * b1) (a3 * b0) (g4 * b4) (show 0 + a0 * b3 + a1 * b2 + a2 * b1 + a3 * b0 + g4 * b4 < 2 ^ 112 from hbd.2.2.2.1)
  obtain ⟨t30, e30⟩ : ∃ m, 0 + a0 * b3 = m := ⟨_, rfl⟩
  rw [e30] at o30 o31 o32 o33 o34 hbd hmv
  obtain ⟨t31, e31⟩ : ∃ m, t30 + a1 * b2 = m := ⟨_, rfl⟩
  rw [e31] at o31 o32 o33 o34 hbd hmv
  obtain ⟨t32, e32⟩ : ∃ m, t31 + a2 * b1 = m := ⟨_, rfl⟩
  rw [e32] at o32 o33 o34 hbd hmv
  obtain ⟨t33, e33⟩ : ∃ m, t32 + a3 * b0 = m := ⟨_, rfl⟩
  rw [e33] at o33 o34 hbd hmv
  obtain ⟨m3, e34⟩ : ∃ m, t33 + g4 * b4 = m := ⟨_, rfl⟩
  rw [e34] at o34 hbd hmv
  have E30 := Lib.hid e30
  have O30 := Lib.hid o30
  have E31 := Lib.hid e31
  have O31 := Lib.hid o31
  have E32 := Lib.hid e32
  have O32 := Lib.hid o32
  have E33 := Lib.hid e33
  have O33 := Lib.hid o33
  have E34 := Lib.hid e34
  have O34 := Lib.hid o34
  clear e30 o30 e31 o31 e32 o32 e33 o33 e34 o34
  obtain ⟨o40, o41, o42, o43, o44⟩ := lt_parts (a0 * b4) (a1 * b3) (a2 * b2) (a3 * b1) (a4 * b0) (show 0 + a0 * b4 + a1 * b3 + a2 * b2 + a3 * b1 + a4 * b0 < 2 ^ 112 from hbd.2.2.2.2.1)
  obtain ⟨t40, e40⟩ : ∃ m, 0 + a0 * b4 = m := ⟨_, rfl⟩
  rw [e40] at o40 o41 o42 o43 o44 hbd hmv
  obtain ⟨t41, e41⟩ : ∃ m, t40 + a1 * b3 = m := ⟨_, rfl⟩
  rw [e41] at o41 o42 o43 o44 hbd hmv
  obtain ⟨t42, e42⟩ : ∃ m, t41 + a2 * b2 = m := ⟨_, rfl⟩
  rw [e42] at o42 o43 o44 hbd hmv
  obtain ⟨t43, e43⟩ : ∃ m, t42 + a3 * b1 = m := ⟨_, rfl⟩
  rw [e43] at o43 o44 hbd hmv
  obtain ⟨m4, e44⟩ : ∃ m, t43 + a4 * b0 = m := ⟨_, rfl⟩
  rw [e44] at o44 hbd hmv
  have E40 := Lib.hid e40
  have O40 := Lib.hid o40
  have E41 := Lib.hid e41
  have O41 := Lib.hid o41
  have E42 := Lib.hid e42
  have O42 := Lib.hid o42
  have E43 := Lib.hid e43
  have O43 := Lib.hid o43
  have E44 := Lib.hid e44
  have O44 := Lib.hid o44
  clear e40 o40 e41 o41 e42 o42 e43 o43 e44 o44
  obtain ⟨h0, l0, hW0, hl0⟩ := W2_form m0
  have HW0 := Lib.hid hW0
  obtain ⟨h1, l1, hW1, hl1⟩ := W2_form m1
  have HW1 := Lib.hid hW1
  obtain ⟨h2, l2, hW2, hl2⟩ := W2_form m2
  have HW2 := Lib.hid hW2
  obtain ⟨h3, l3, hW3, hl3⟩ := W2_form m3
  have HW3 := Lib.hid hW3
  obtain ⟨h4, l4, hW4, hl4⟩ := W2_form m4
  have HW4 := Lib.hid hW4
  have A0 := Lib.hid sa0
  have B0 := Lib.hid sb0
  have A1 := Lib.hid sa1
  have B1 := Lib.hid sb1
  have A2 := Lib.hid sa2
  have B2 := Lib.hid sb2
  have A3 := Lib.hid sa3
  have B3 := Lib.hid sb3
  have A4 := Lib.hid sa4
  have B4 := Lib.hid sb4
  have G1 := Lib.hid sg1
  have G2 := Lib.hid sg2
  have G3 := Lib.hid sg3
  have G4 := Lib.hid sg4
  have HB := Lib.hid hbd
  have HMV := Lib.hid hmv
  have HL := Lib.hid (And.intro hl0 (And.intro hl1 (And.intro hl2 (And.intro hl3 hl4))))
  clear sa0 sa1 sa2 sa3 sa4 sb0 sb1 sb2 sb3 sb4 hbd hmv sg1 sg2 sg3 sg4 hW0 hl0 hW1 hl1 hW2 hl2 hW3 hl3 hW4 hl4 
  go_enter Tryd.func45, Tryd.ntmps45
  go_wp2_with fail
  go_quiet (fail)
  go_wp2_with fail
  go_quiet (fail)
  go_wp2_with fail
  clear f1 f2 f3 f4
  refine (plus0_to a0 b0 t00 _ A0.out B0.out E00.out O00.out).mono ?_
  rintro e y00 ⟨rfl, c00⟩
  go_wp2_with fail
  refine (plus_to t00 g1 b4 t01 _ G1.out B4.out E01.out O01.out).mono ?_
  rintro e y01 ⟨rfl, c01⟩
  go_wp2_with fail
  refine (plus_to t01 g2 b3 t02 _ G2.out B3.out E02.out O02.out).mono ?_
  rintro e y02 ⟨rfl, c02⟩
  go_wp2_with fail
  refine (plus_to t02 g3 b2 t03 _ G3.out B2.out E03.out O03.out).mono ?_
  rintro e y03 ⟨rfl, c03⟩
  go_wp2_with fail
  refine (plus_to t03 g4 b1 m0 _ G4.out B1.out E04.out O04.out).mono ?_
  rintro e x0 ⟨he, c04⟩
  rw [HW0.out] at he
  subst he
  have C0 := Lib.hid ((((c00.then_ c01).then_ c02).then_ c03).then_ c04)
  clear c00 c01 c02 c03 c04
  go_wp2_with fail
  refine (plus0_to a0 b1 t10 _ A0.out B1.out E10.out O10.out).mono ?_
  rintro e y10 ⟨rfl, c10⟩
  go_wp2_with fail
  refine (plus_to t10 a1 b0 t11 _ A1.out B0.out E11.out O11.out).mono ?_
  rintro e y11 ⟨rfl, c11⟩
  go_wp2_with fail
  refine (plus_to t11 g2 b4 t12 _ G2.out B4.out E12.out O12.out).mono ?_
  rintro e y12 ⟨rfl, c12⟩
  go_wp2_with fail
  refine (plus_to t12 g3 b3 t13 _ G3.out B3.out E13.out O13.out).mono ?_
  rintro e y13 ⟨rfl, c13⟩
  go_wp2_with fail
  refine (plus_to t13 g4 b2 m1 _ G4.out B2.out E14.out O14.out).mono ?_
  rintro e x1 ⟨he, c14⟩
  rw [HW1.out] at he
  subst he
  have C1 := Lib.hid ((((c10.then_ c11).then_ c12).then_ c13).then_ c14)
  clear c10 c11 c12 c13 c14
  go_wp2_with fail
  refine (plus0_to a0 b2 t20 _ A0.out B2.out E20.out O20.out).mono ?_
  rintro e y20 ⟨rfl, c20⟩
  go_wp2_with fail
  refine (plus_to t20 a1 b1 t21 _ A1.out B1.out E21.out O21.out).mono ?_
  rintro e y21 ⟨rfl, c21⟩
  go_wp2_with fail
  refine (plus_to t21 a2 b0 t22 _ A2.out B0.out E22.out O22.out).mono ?_
  rintro e y22 ⟨rfl, c22⟩
  go_wp2_with fail
  refine (plus_to t22 g3 b4 t23 _ G3.out B4.out E23.out O23.out).mono ?_
  rintro e y23 ⟨rfl, c23⟩
  go_wp2_with fail
  refine (plus_to t23 g4 b3 m2 _ G4.out B3.out E24.out O24.out).mono ?_
  rintro e x2 ⟨he, c24⟩
  rw [HW2.out] at he
  subst he
  have C2 := Lib.hid ((((c20.then_ c21).then_ c22).then_ c23).then_ c24)
  clear c20 c21 c22 c23 c24
  go_wp2_with fail
  refine (plus0_to a0 b3 t30 _ A0.out B3.out E30.out O30.out).mono ?_
  rintro e y30 ⟨rfl, c30⟩
  go_wp2_with fail
  refine (plus_to t30 a1 b2 t31 _ A1.out B2.out E31.out O31.out).mono ?_
  rintro e y31 ⟨rfl, c31⟩
  go_wp2_with fail
  refine (plus_to t31 a2 b1 t32 _ A2.out B1.out E32.out O32.out).mono ?_
  rintro e y32 ⟨rfl, c32⟩
  go_wp2_with fail
  refine (plus_to t32 a3 b0 t33 _ A3.out B0.out E33.out O33.out).mono ?_
  rintro e y33 ⟨rfl, c33⟩
  go_wp2_with fail
  refine (plus_to t33 g4 b4 m3 _ G4.out B4.out E34.out O34.out).mono ?_
  rintro e x3 ⟨he, c34⟩
  rw [HW3.out] at he
  subst he
  have C3 := Lib.hid ((((c30.then_ c31).then_ c32).then_ c33).then_ c34)
  clear c30 c31 c32 c33 c34
  go_wp2_with fail
  refine (plus0_to a0 b4 t40 _ A0.out B4.out E40.out O40.out).mono ?_
  rintro e y40 ⟨rfl, c40⟩
  go_wp2_with fail
  refine (plus_to t40 a1 b3 t41 _ A1.out B3.out E41.out O41.out).mono ?_
  rintro e y41 ⟨rfl, c41⟩
  go_wp2_with fail
  refine (plus_to t41 a2 b2 t42 _ A2.out B2.out E42.out O42.out).mono ?_
  rintro e y42 ⟨rfl, c42⟩
  go_wp2_with fail
  refine (plus_to t42 a3 b1 t43 _ A3.out B1.out E43.out O43.out).mono ?_
  rintro e y43 ⟨rfl, c43⟩
  go_wp2_with fail
  refine (plus_to t43 a4 b0 m4 _ A4.out B0.out E44.out O44.out).mono ?_
  rintro e x4 ⟨he, c44⟩
  rw [HW4.out] at he
  subst he
  have C4 := Lib.hid ((((c40.then_ c41).then_ c42).then_ c43).then_ c44)
  clear c40 c41 c42 c43 c44
  go_wp2_with fail
  clear O00 O01 O02 O03 O04 O10 O11 O12 O13 O14 O20 O21 O22 O23 O24 O30 O31 O32 O33 O34 O40 O41 O42 O43 O44
  have K0 := ((((((((Blk2.new x0 h0 l0).below C1.out).alloc (.cells #[.int .u64 (h1 : Int), .int .u64 (l1 : Int)] 110)).below C2.out).alloc (.cells #[.int .u64 (h2 : Int), .int .u64 (l2 : Int)] 110)).below C3.out).alloc (.cells #[.int .u64 (h3 : Int), .int .u64 (l3 : Int)] 110)).below C4.out).alloc (.cells #[.int .u64 (h4 : Int), .int .u64 (l4 : Int)] 110)
  have K1 := ((((((Blk2.new x1 h1 l1).below C2.out).alloc (.cells #[.int .u64 (h2 : Int), .int .u64 (l2 : Int)] 110)).below C3.out).alloc (.cells #[.int .u64 (h3 : Int), .int .u64 (l3 : Int)] 110)).below C4.out).alloc (.cells #[.int .u64 (h4 : Int), .int .u64 (l4 : Int)] 110)
  have K2 := ((((Blk2.new x2 h2 l2).below C3.out).alloc (.cells #[.int .u64 (h3 : Int), .int .u64 (l3 : Int)] 110)).below C4.out).alloc (.cells #[.int .u64 (h4 : Int), .int .u64 (l4 : Int)] 110)
  have K3 := ((Blk2.new x3 h3 l3).below C4.out).alloc (.cells #[.int .u64 (h4 : Int), .int .u64 (l4 : Int)] 110)
  have K4 := Blk2.new x4 h4 l4
  have BR : Below _ _ (x4.alloc (.cells #[.int .u64 (h4 : Int), .int .u64 (l4 : Int)] 110)) := ((((C0.out.next C1.out).next C2.out).next C3.out).next C4.out).alloc ((((C0.out.next C1.out).next C2.out).next C3.out).next C4.out).size _
  have BW : Below w.heap.size w (x4.alloc (.cells #[.int .u64 (h4 : Int), .int .u64 (l4 : Int)] 110)) := below3d BR
  obtain ⟨y, hy⟩ : ∃ X, x4.alloc (.cells #[.int .u64 (h4 : Int), .int .u64 (l4 : Int)] 110) = X := ⟨_, rfl⟩
  rw [hy] at K0 K1 K2 K3 K4 BR BW
  rw [hy]
  have HK := Lib.hid (And.intro K0 (And.intro K1 (And.intro K2 (And.intro K3 K4))))
  have HR := Lib.hid BR
  have HW := Lib.hid BW
  clear hy C0 C1 C2 C3 C4 K0 K1 K2 K3 K4 BR BW
  obtain ⟨p0, p1, p2, p3, p4, v0, v1, v2, v3, v4, hps⟩ := low_sums m0 m1 m2 m3 m4 l0 l1 l2 l3 l4 HL.out HB.out
  have HP := Lib.hid hps
  have V0 := Lib.hid v0
  have V1 := Lib.hid v1
  have V2 := Lib.hid v2
  have V3 := Lib.hid v3
  have V4 := Lib.hid v4
  clear hps v0 v1 v2 v3 v4
  have q1 := HK.out.1.cell1
  have q2 := HK.out.2.2.2.2.cell0
  have q3 := HK.out.2.2.2.2.cell1
  have v := V0.out
  go_region_held3 (fun w' => w'.cell? ⟨x0.heap.size, 1, none⟩ = some (.int .u64 (l0 : Int)) ∧ w'.cell? ⟨x4.heap.size, 0, none⟩ = some (.int .u64 (h4 : Int)) ∧ w'.cell? ⟨x4.heap.size, 1, none⟩ = some (.int .u64 (l4 : Int)))
    (first | go_keep | (refine ⟨?_, ?_, ?_⟩ <;> exact Go.cell_later (by assumption) (by assumption)))
    ((go_at_call 79; refine (above_calls' h4 l4 m4 HW4.out _ HB.out.2.2.2.2.1).mono ?_; rintro e y0 ⟨rfl, bx⟩))
  have bx2 : Below y.heap.size y y0 := ⟨bx.os, bx.tape, bx.output, bx.size, bx.block⟩
  have HK2 := HK
  have HR2 := HR
  have HW2' := HW
  clear HK HR HW
  have HK := Lib.hid (And.intro (HK2.out.1.below bx2) (And.intro (HK2.out.2.1.below bx2) (And.intro (HK2.out.2.2.1.below bx2) (And.intro (HK2.out.2.2.2.1.below bx2) (HK2.out.2.2.2.2.below bx2)))))
  have HR := Lib.hid (HR2.out.then_ bx2)
  have HW := Lib.hid (HW2'.out.then_ bx2)
  clear bx bx2 HK2 HR2 HW2' q1 q2 q3 v
  go_wp2_with fail
  have q1 := HK.out.2.1.cell1
  have q2 := HK.out.1.cell0
  have q3 := HK.out.1.cell1
  have v := V1.out
  go_region_held3 (fun w' => w'.cell? ⟨x1.heap.size, 1, none⟩ = some (.int .u64 (l1 : Int)) ∧ w'.cell? ⟨x0.heap.size, 0, none⟩ = some (.int .u64 (h0 : Int)) ∧ w'.cell? ⟨x0.heap.size, 1, none⟩ = some (.int .u64 (l0 : Int)))
    (first | go_keep | (refine ⟨?_, ?_, ?_⟩ <;> exact Go.cell_later (by assumption) (by assumption)))
    ((go_at_call 79; refine (above_calls' h0 l0 m0 HW0.out _ HB.out.1).mono ?_; rintro e y1 ⟨rfl, bx⟩))
  have bx2 : Below y0.heap.size y0 y1 := ⟨bx.os, bx.tape, bx.output, bx.size, bx.block⟩
  have HK2 := HK
  have HR2 := HR
  have HW2' := HW
  clear HK HR HW
  have HK := Lib.hid (And.intro (HK2.out.1.below bx2) (And.intro (HK2.out.2.1.below bx2) (And.intro (HK2.out.2.2.1.below bx2) (And.intro (HK2.out.2.2.2.1.below bx2) (HK2.out.2.2.2.2.below bx2)))))
  have HR := Lib.hid (HR2.out.then_ bx2)
  have HW := Lib.hid (HW2'.out.then_ bx2)
  clear bx bx2 HK2 HR2 HW2' q1 q2 q3 v
  go_wp2_with fail
  have q1 := HK.out.2.2.1.cell1
  have q2 := HK.out.2.1.cell0
  have q3 := HK.out.2.1.cell1
  have v := V2.out
  go_region_held3 (fun w' => w'.cell? ⟨x2.heap.size, 1, none⟩ = some (.int .u64 (l2 : Int)) ∧ w'.cell? ⟨x1.heap.size, 0, none⟩ = some (.int .u64 (h1 : Int)) ∧ w'.cell? ⟨x1.heap.size, 1, none⟩ = some (.int .u64 (l1 : Int)))
    (first | go_keep | (refine ⟨?_, ?_, ?_⟩ <;> exact Go.cell_later (by assumption) (by assumption)))
    ((go_at_call 79; refine (above_calls' h1 l1 m1 HW1.out _ HB.out.2.1).mono ?_; rintro e y2 ⟨rfl, bx⟩))
  have bx2 : Below y1.heap.size y1 y2 := ⟨bx.os, bx.tape, bx.output, bx.size, bx.block⟩
  have HK2 := HK
  have HR2 := HR
  have HW2' := HW
  clear HK HR HW
  have HK := Lib.hid (And.intro (HK2.out.1.below bx2) (And.intro (HK2.out.2.1.below bx2) (And.intro (HK2.out.2.2.1.below bx2) (And.intro (HK2.out.2.2.2.1.below bx2) (HK2.out.2.2.2.2.below bx2)))))
  have HR := Lib.hid (HR2.out.then_ bx2)
  have HW := Lib.hid (HW2'.out.then_ bx2)
  clear bx bx2 HK2 HR2 HW2' q1 q2 q3 v
  go_wp2_with fail
  have q1 := HK.out.2.2.2.1.cell1
  have q2 := HK.out.2.2.1.cell0
  have q3 := HK.out.2.2.1.cell1
  have v := V3.out
  go_region_held3 (fun w' => w'.cell? ⟨x3.heap.size, 1, none⟩ = some (.int .u64 (l3 : Int)) ∧ w'.cell? ⟨x2.heap.size, 0, none⟩ = some (.int .u64 (h2 : Int)) ∧ w'.cell? ⟨x2.heap.size, 1, none⟩ = some (.int .u64 (l2 : Int)))
    (first | go_keep | (refine ⟨?_, ?_, ?_⟩ <;> exact Go.cell_later (by assumption) (by assumption)))
    ((go_at_call 79; refine (above_calls' h2 l2 m2 HW2.out _ HB.out.2.2.1).mono ?_; rintro e y3 ⟨rfl, bx⟩))
  have bx2 : Below y2.heap.size y2 y3 := ⟨bx.os, bx.tape, bx.output, bx.size, bx.block⟩
  have HK2 := HK
  have HR2 := HR
  have HW2' := HW
  clear HK HR HW
  have HK := Lib.hid (And.intro (HK2.out.1.below bx2) (And.intro (HK2.out.2.1.below bx2) (And.intro (HK2.out.2.2.1.below bx2) (And.intro (HK2.out.2.2.2.1.below bx2) (HK2.out.2.2.2.2.below bx2)))))
  have HR := Lib.hid (HR2.out.then_ bx2)
  have HW := Lib.hid (HW2'.out.then_ bx2)
  clear bx bx2 HK2 HR2 HW2' q1 q2 q3 v
  go_wp2_with fail
  have q1 := HK.out.2.2.2.2.cell1
  have q2 := HK.out.2.2.2.1.cell0
  have q3 := HK.out.2.2.2.1.cell1
  have v := V4.out
  go_region_held3 (fun w' => w'.cell? ⟨x4.heap.size, 1, none⟩ = some (.int .u64 (l4 : Int)) ∧ w'.cell? ⟨x3.heap.size, 0, none⟩ = some (.int .u64 (h3 : Int)) ∧ w'.cell? ⟨x3.heap.size, 1, none⟩ = some (.int .u64 (l3 : Int)))
    (first | go_keep | (refine ⟨?_, ?_, ?_⟩ <;> exact Go.cell_later (by assumption) (by assumption)))
    ((go_at_call 79; refine (above_calls' h3 l3 m3 HW3.out _ HB.out.2.2.2.1).mono ?_; rintro e y4 ⟨rfl, bx⟩))
  have bx2 : Below y3.heap.size y3 y4 := ⟨bx.os, bx.tape, bx.output, bx.size, bx.block⟩
  have HK2 := HK
  have HR2 := HR
  have HW2' := HW
  clear HK HR HW
  have HK := Lib.hid (And.intro (HK2.out.1.below bx2) (And.intro (HK2.out.2.1.below bx2) (And.intro (HK2.out.2.2.1.below bx2) (And.intro (HK2.out.2.2.2.1.below bx2) (HK2.out.2.2.2.2.below bx2)))))
  have HR := Lib.hid (HR2.out.then_ bx2)
  have HW := Lib.hid (HW2'.out.then_ bx2)
  clear bx bx2 HK2 HR2 HW2' q1 q2 q3 v
  go_wp2_with fail
  have hrest : val5 p0 p1 p2 p3 p4 % P = (r * s) % P := by
    have h1 := HP.out.2
    have h2 := HMV.out
    rw [Nat.mul_mod, ← HVAL.out.1, ← HVAL.out.2, ← Nat.mul_mod, h2, Nat.add_mul_mod_self_left, ← h1, Nat.add_mul_mod_self_left]
  refine (carried_el p0 p1 p2 p3 p4 (r * s) _ HP.out.1.1 HP.out.1.2.1 HP.out.1.2.2.1 HP.out.1.2.2.2.1 HP.out.1.2.2.2.2 hrest).mono ?_
  rintro e z ⟨x, rfl, hx, bz⟩
  obtain ⟨d0, d1, d2, d3, d4, rfl, hok, hval⟩ := hx.form
  have BZ := HR.out.then_ bz
  have BWz := HW.out.then_ bz
  obtain ⟨hc, hf⟩ := bcell BZ
  have hz : w.heap.size + 2 < z.heap.size := by have := BZ.size; simp at this; omega
  have HX := Lib.hid hx
  have HZ := Lib.hid BWz
  clear HK HR HW hok hval hx bz BZ BWz
  go_wp2
  exact bodyPost_ret (v := .agg #[.int .u64 d0, .int .u64 d1, .int .u64 d2, .int .u64 d3, .int .u64 d4]) (by simp [results, Tryd.results45, go_sem, hc]) rfl
    ⟨_, rfl, HX.out, below_set5 HZ.out _ (by omega) _ _ _ _ _⟩
end Go.Proofs.YtkfdclnaaphdgaaDoor
namespace Go.Proofs.YtkfdclnaaphdgaaDoor
open Go.ChangeShapes Go.WideShapes Go.ChangeAt Go.RowKit Go.IntWalk
set_option linter.unusedVariables false

/-- ones: so many bits, less a small number. -/
def onesF (count less : Nat) : List UInt8 := leB 32 (2 ^ count - 1 - less)
/-- The bytes behind k bits. -/
def bitsF (k : Nat) : List UInt8 := leB 32 (2 ^ k - 1)
theorem bits_step : ∀ k : Fin 255, (bitsF k.val)[k.val / 8]?.map (fun c => c.toNat) = some (2 ^ (k.val % 8) - 1) ∧ (bitsF k.val).set (k.val / 8) (UInt8.ofNat (2 ^ (k.val % 8 + 1) - 1)) = bitsF (k.val + 1) := by decide +kernel

theorem ones_set (count less : Nat) (h8 : 8 ≤ count) (hl : less < 256) : (bitsF count).set 0 (UInt8.ofNat (255 - less)) = onesF count less ∧ (bitsF count)[0]? = some 255 := by
  obtain ⟨m, hm⟩ : ∃ m, 2 ^ count = 256 * (m + 1) := by
    have h : 2 ^ count = 2 ^ 8 * 2 ^ (count - 8) := by rw [← Nat.pow_add]; congr 1; omega
    have hp : 0 < 2 ^ (count - 8) := Nat.pow_pos (by decide)
    exact ⟨2 ^ (count - 8) - 1, by rw [h]; congr 1; omega⟩
  unfold bitsF onesF
  rw [hm]
  have e1 : 256 * (m + 1) - 1 = 255 + 256 * m := by omega
  have e2 : 256 * (m + 1) - 1 - less = (255 - less) + 256 * m := by omega
  rw [e1, show 255 + 256 * m - less = (255 - less) + 256 * m by omega]
  have s : ∀ x, leB 32 x = UInt8.ofNat (x % 256) :: leB 31 (x / 256) := fun x => rfl
  rw [s, s, show (255 + 256 * m) % 256 = 255 by omega, show (255 + 256 * m) / 256 = m by omega, show ((255 - less) + 256 * m) % 256 = 255 - less by omega, show ((255 - less) + 256 * m) / 256 = m by omega]
  exact ⟨rfl, rfl⟩
theorem or_bit : ∀ r : Fin 8, bits .or .u8 ((2 ^ r.val - 1 : Nat) : Int) ((2 ^ r.val : Nat) : Int) = ((2 ^ (r.val + 1) - 1 : Nat) : Int) := by decide +kernel
theorem or_val8 : ∀ r : Fin 8, bits .or .u8 ((2 ^ r.val - 1 : Nat) : Int) ((2 : Int) ^ r.val % 256) = ((2 ^ (r.val + 1) - 1 : Nat) : Int) := by decide +kernel
theorem or_val (k : Nat) : bits .or .u8 ((2 ^ (k % 8) - 1 : Nat) : Int) ((2 : Int) ^ (k % 8) % 256) = ((2 ^ (k % 8 + 1) - 1 : Nat) : Int) := or_val8 ⟨k % 8, by omega⟩
theorem UBlk.range {w : World} {g : Nat} {bs : List UInt8} {cs : List Value} (h : UBlk w g bs) (hcs : u8s bs = cs) : w.rangeAt g 0 cs := by
  intro j v hv
  unfold UBlk at h
  rw [hcs] at h
  rw [Nat.zero_add, cell_of_row _ _ _ _ _ _ h]; simpa using hv
theorem UBlk.there {w : World} {g n : Nat} (h : UBlk w g (List.replicate 32 0)) (hn : n = 32) : w.there g 0 n := by
  intro j hj
  have hj2 : j < 32 := by omega
  unfold UBlk at h
  rw [Nat.zero_add]
  refine ⟨?_, by simp [World.frozen?, h]⟩
  rw [cell_of_row _ _ _ _ _ _ h]; simp [u8s, hj2]
def OnS (w : World) (k : Nat) (W : World) : Prop := UBlk W (w.heap.size + 1) (bitsF k) ∧ UBlk W w.heap.size (List.replicate 32 0) ∧ Below w.heap.size w W
theorem UBlk.other {w : World} {g g2 k : Nat} {ws : List UInt8} {x : Value} (h : UBlk w g ws) (hne : g2 ≠ g) : UBlk (w.setCell ⟨g2, k, none⟩ x) g ws := by
  unfold UBlk at h ⊢
  simp [World.setCell, Array.getElem?_modify, h, hne]
theorem OnS.step {w W : World} {k : Nat} (h : OnS w k W) (hk : k < 255) (y : Int) (hy : y = (2 ^ (k % 8 + 1) - 1 : Nat)) : OnS w (k + 1) (W.setCell ⟨w.heap.size + 1, k / 8, none⟩ (.int .u8 y)).drew := by
  have hlt : 2 ^ (k % 8 + 1) ≤ 2 ^ 8 := Nat.pow_le_pow_right (by decide) (by omega)
  have e : y = ((UInt8.ofNat (2 ^ (k % 8 + 1) - 1)).toNat : Int) := by rw [hy]; simp; omega
  rw [e]
  refine ⟨?_, h.2.1.other (by omega), (h.2.2.setCell (by show w.heap.size ≤ w.heap.size + 1; omega) _).drewN 1⟩
  have := (bits_step ⟨k, hk⟩).2
  simp only at this
  rw [← this]
  exact h.1.set_ _ _
theorem OnS.start {w : World} : OnS w 0 ((w.alloc (.cells #[.int .u8 0, .int .u8 0, .int .u8 0, .int .u8 0, .int .u8 0, .int .u8 0, .int .u8 0, .int .u8 0, .int .u8 0, .int .u8 0, .int .u8 0, .int .u8 0, .int .u8 0, .int .u8 0, .int .u8 0, .int .u8 0, .int .u8 0, .int .u8 0, .int .u8 0, .int .u8 0, .int .u8 0, .int .u8 0, .int .u8 0, .int .u8 0, .int .u8 0, .int .u8 0, .int .u8 0, .int .u8 0, .int .u8 0, .int .u8 0, .int .u8 0, .int .u8 0] 22)).alloc (.cells #[.int .u8 0, .int .u8 0, .int .u8 0, .int .u8 0, .int .u8 0, .int .u8 0, .int .u8 0, .int .u8 0, .int .u8 0, .int .u8 0, .int .u8 0, .int .u8 0, .int .u8 0, .int .u8 0, .int .u8 0, .int .u8 0, .int .u8 0, .int .u8 0, .int .u8 0, .int .u8 0, .int .u8 0, .int .u8 0, .int .u8 0, .int .u8 0, .int .u8 0, .int .u8 0, .int .u8 0, .int .u8 0, .int .u8 0, .int .u8 0, .int .u8 0, .int .u8 0] 22)) := by
  refine ⟨?_, ?_, ((Below.refl _ _).alloc (Nat.le_refl _) _).alloc (by simp) _⟩
  · have h := heap_alloc_new (w.alloc (.cells #[.int .u8 0, .int .u8 0, .int .u8 0, .int .u8 0, .int .u8 0, .int .u8 0, .int .u8 0, .int .u8 0, .int .u8 0, .int .u8 0, .int .u8 0, .int .u8 0, .int .u8 0, .int .u8 0, .int .u8 0, .int .u8 0, .int .u8 0, .int .u8 0, .int .u8 0, .int .u8 0, .int .u8 0, .int .u8 0, .int .u8 0, .int .u8 0, .int .u8 0, .int .u8 0, .int .u8 0, .int .u8 0, .int .u8 0, .int .u8 0, .int .u8 0, .int .u8 0] 22)) (.cells #[.int .u8 0, .int .u8 0, .int .u8 0, .int .u8 0, .int .u8 0, .int .u8 0, .int .u8 0, .int .u8 0, .int .u8 0, .int .u8 0, .int .u8 0, .int .u8 0, .int .u8 0, .int .u8 0, .int .u8 0, .int .u8 0, .int .u8 0, .int .u8 0, .int .u8 0, .int .u8 0, .int .u8 0, .int .u8 0, .int .u8 0, .int .u8 0, .int .u8 0, .int .u8 0, .int .u8 0, .int .u8 0, .int .u8 0, .int .u8 0, .int .u8 0, .int .u8 0] 22)
    rw [show (w.alloc (.cells #[.int .u8 0, .int .u8 0, .int .u8 0, .int .u8 0, .int .u8 0, .int .u8 0, .int .u8 0, .int .u8 0, .int .u8 0, .int .u8 0, .int .u8 0, .int .u8 0, .int .u8 0, .int .u8 0, .int .u8 0, .int .u8 0, .int .u8 0, .int .u8 0, .int .u8 0, .int .u8 0, .int .u8 0, .int .u8 0, .int .u8 0, .int .u8 0, .int .u8 0, .int .u8 0, .int .u8 0, .int .u8 0, .int .u8 0, .int .u8 0, .int .u8 0, .int .u8 0] 22)).heap.size = w.heap.size + 1 by simp] at h
    exact h
  · exact (heap_alloc_old _ _ (by simp)).trans (heap_alloc_new w _)

set_option maxRecDepth 100000 in
set_option maxHeartbeats 4000000 in
theorem ones_calls (count : Nat) (less : UInt8) (hc : count ≤ 255) (hc8 : 8 ≤ count) (w : World) :
    Calls Tryd.prog 77 #[.int .i64 (count : Int), .int .u8 (less.toNat : Int)] w (BPost (onesF count less.toNat) w) := by
  go_enter Tryd.func77, Tryd.ntmps77
  have hs0 := OnS.start (w := w)
  have HS0 := Lib.hid hs0
  clear hs0
  go_wp2_with fail
  go_loopw [8] (fun i wr => ∃ k : Nat, k ≤ count ∧ i = .int .i64 (k : Int) ∧ OnS w k wr) (fun i _ => count - (intOf i).toNat)
  case atStart => exact ⟨0, by omega, rfl, HS0.out⟩
  case round =>
    obtain ⟨k, hk, rfl, hs⟩ := hrel
    by_cases hp : k < count
    · have hb := (bits_step ⟨k, by omega⟩).1
      simp only at hb
      obtain ⟨c, hcc, hcv⟩ := Option.map_eq_some_iff.1 hb
      have hlen := (List.getElem?_eq_some_iff.1 hcc).1
      have g1 := hs.1.cell hlen
      rw [(List.getElem?_eq_some_iff.1 hcc).2, hcv] at g1
      have g2 := hs.1.frozen (k / 8)
      obtain ⟨j, hj⟩ : ∃ j, k / 8 = j := ⟨_, rfl⟩
      have hk8 : (k : Int) / 8 = (j : Int) := by omega
      have ho := or_bit ⟨k % 8, by omega⟩
      simp only at ho
      have hnx := fun y hy => OnS.step hs (by omega) y hy
      rw [hj] at g1 g2 hnx
      have HNX := Lib.hid hnx
      have hj32 : j < 32 := by omega
      clear hb hcc hcv hlen hs hnx
      go_wp2_with fail
      go_region
      all_goals go_wp2_with fail
      all_goals exact ⟨⟨k + 1, by omega, by go_num, HNX.out _ (or_val k)⟩, by simp [intOf]; omega⟩
    · obtain rfl : k = count := by omega
      obtain ⟨hset, hget⟩ := ones_set k less.toNat hc8 less.toNat_lt
      have hln := less.toNat_lt
      have g1 := hs.1.cell (List.getElem?_eq_some_iff.1 hget).1
      rw [(List.getElem?_eq_some_iff.1 hget).2] at g1
      have g2 := hs.1.frozen 0
      have hsub : IntKind.u8.wrap (255 - (less.toNat : Int)) = ((UInt8.ofNat (255 - less.toNat)).toNat : Int) := by
        rw [IntKind.wrap_u8]; simp; omega
      obtain ⟨x, hx⟩ : ∃ x, UInt8.ofNat (255 - less.toNat) = x := ⟨_, rfl⟩
      rw [hx] at hset hsub
      have hu := hs.1.set_ 0 x
      rw [hset] at hu
      have hr : UBlk (wr.setCell ⟨w.heap.size + 1, 0, none⟩ (.int .u8 (x.toNat : Int))) w.heap.size (List.replicate 32 0) := hs.2.1.other (by omega)
      have hbw : Below w.heap.size w (wr.setCell ⟨w.heap.size + 1, 0, none⟩ (.int .u8 (x.toNat : Int))) := hs.2.2.setCell (by show w.heap.size ≤ w.heap.size + 1; omega) _
      obtain ⟨cs, hcs⟩ : ∃ cs, u8s (onesF k less.toNat) = cs := ⟨_, rfl⟩
      have hlen : cs.length = 32 := by rw [← hcs]; simp [u8s, onesF, leB_len]
      have hone : cs.toArray.all (·.oneCell') = true := by
        rw [← hcs]
        apply all_oneCell_toArray
        intro v hv
        obtain ⟨y, _, rfl⟩ := List.mem_map.1 hv
        rfl
      have hrg := hu.range hcs
      have hth : (wr.setCell ⟨w.heap.size + 1, 0, none⟩ (.int .u8 (x.toNat : Int))).there w.heap.size 0 cs.toArray.size := hr.there (by simpa using hlen)
      have hsz1 : (Tryd.prog.info? 22).map (·.size) = some cs.length := by rw [hlen]; exact size32
      have hsz2 : (Tryd.prog.info? 22).map (·.size) = some cs.toArray.size := by simpa using hsz1
      have HC := Lib.hid hcs
      have HB := Lib.hid hbw
      have HRR := Lib.hid hrg
      have HTT := Lib.hid hth
      have HS1 := Lib.hid hsz1
      have HS2 := Lib.hid hsz2
      clear hs hu hcs hlen hrg hth hsz1 hsz2 hset hget hr hbw hx hln
      go_wp2_with (first
        | (refine wpList_load_mid rfl 22 _ rfl (w.heap.size + 1) 0 rfl cs _ HRR.out Tryd.underlying22 rfl HS1.out ?_)
        | (refine wpList_store_mid rfl 22 _ _ rfl w.heap.size 0 cs.toArray rfl rfl HTT.out HS2.out hone ?_))
      have hld : (loadVar 22 ⟨w.heap.size, 0, none⟩).run Tryd.prog ((wr.setCell ⟨w.heap.size + 1, 0, none⟩ (.int .u8 (x.toNat : Int))).setCells w.heap.size 0 cs) = .ok (.agg cs.toArray) ((wr.setCell ⟨w.heap.size + 1, 0, none⟩ (.int .u8 (x.toNat : Int))).setCells w.heap.size 0 cs) :=
        run_loadVar_mid _ _ _ _ cs _ (World.rangeAt_setCells_same _ _ _ _ (by simpa using HTT.out)) Tryd.underlying22 rfl HS1.out
      refine bodyPost_ret (v := .agg cs.toArray) ?_ rfl ⟨?_, below_cells (Nat.le_refl _) cs 0 _ HB.out⟩
      · exact results_cell rfl _ _ _ _ rfl hld
      · show Ending.returned (.agg cs.toArray) = .returned (.agg (u8s (onesF k less.toNat)).toArray)
        rw [HC.out]
end Go.Proofs.YtkfdclnaaphdgaaDoor
namespace Go.Proofs.YtkfdclnaaphdgaaDoor
open Go.ChangeShapes Go.WideShapes Go.ChangeAt Go.RowKit Go.IntWalk
set_option linter.unusedVariables false

theorem size80 : (Tryd.prog.info? 134).map (·.size) = some 80 := by kernel_rfl
def Z80 : List Value := List.replicate 80 (.int .u64 0)
theorem zero80 (W : World) : (zeroValue 134).run Tryd.prog W = .ok (.agg Z80.toArray) W := by kernel_rfl
theorem set5_cell (w : World) (g o g2 o2 : Nat) (a b c d e : Value) (h : g2 ≠ g ∨ o2 < o ∨ o + 5 ≤ o2) :
    (((((w.setCell ⟨g, o, none⟩ a).setCell ⟨g, o + 1, none⟩ b).setCell ⟨g, o + 2, none⟩ c).setCell ⟨g, o + 3, none⟩ d).setCell ⟨g, o + 4, none⟩ e).cell? ⟨g2, o2, none⟩ = w.cell? ⟨g2, o2, none⟩ := by
  have hne : ∀ k, k < 5 → (⟨g2, o2, none⟩ : Addr) ≠ ⟨g, o + k, none⟩ := fun k hk he => by injection he with h1 h2; omega
  rw [World.cell?_setCell_other (h := Ne.symm (hne 4 (by omega))), World.cell?_setCell_other (h := Ne.symm (hne 3 (by omega))), World.cell?_setCell_other (h := Ne.symm (hne 2 (by omega))), World.cell?_setCell_other (h := Ne.symm (hne 1 (by omega)))]
  exact World.cell?_setCell_other _ _ _ _ (Ne.symm (hne 0 (by omega)))
theorem below_set5' {X : Nat} {w w1 : World} (h : Below X w w1) (g : Nat) (hg : X ≤ g) (o : Nat) (a b c d e : Value) :
    Below X w (((((w1.setCell ⟨g, o, none⟩ a).setCell ⟨g, o + 1, none⟩ b).setCell ⟨g, o + 2, none⟩ c).setCell ⟨g, o + 3, none⟩ d).setCell ⟨g, o + 4, none⟩ e) :=
  ((((h.setCell hg _).setCell hg _).setCell hg _).setCell hg _).setCell hg _
/-- Sixteen rests in a block. -/
def PBlk (w : World) (g : Nat) (ps : List Nat) : Prop := w.heap[g]? = some (.cells (ps.map fun (n : Nat) => Value.int .u64 (n : Int)).toArray 134 (0, 0))
theorem PBlk.cell {w : World} {g : Nat} {ws : List Nat} (h : PBlk w g ws) {k n : Nat} (hk : ws[k]? = some n) : w.cell? ⟨g, k, none⟩ = some (.int .u64 (n : Int)) := by
  rw [cell_of_row _ _ _ _ _ _ h]; simp [hk]
theorem PBlk.frozen {w : World} {g : Nat} {ws : List Nat} (h : PBlk w g ws) (k : Nat) : w.frozen? ⟨g, k, none⟩ = false := by
  unfold PBlk at h; simp [World.frozen?, h]
theorem PBlk.set_ {w : World} {g : Nat} {ws : List Nat} (h : PBlk w g ws) (k n : Nat) : PBlk (w.setCell ⟨g, k, none⟩ (.int .u64 (n : Int))) g (ws.set k n) := by
  unfold PBlk at h ⊢
  simp [World.setCell, Array.getElem?_modify, h, List.map_set]
def seg (ps : List Nat) (i : Nat) : Value := E5 (ps.getD (i * 5) 0) (ps.getD (i * 5 + 1) 0) (ps.getD (i * 5 + 2) 0) (ps.getD (i * 5 + 3) 0) (ps.getD (i * 5 + 4) 0)
structure PowS (w : World) (B : Nat) (cs : List Value) (ls : List Nat) (r k : Nat) (ps : List Nat) (W : World) : Prop where
  a : EBlk W w.heap.size ls
  e : W.heap[w.heap.size + 1]? = some (.cells cs.toArray 22 (0, 0))
  z : EBlk W (w.heap.size + 1 + 1) [0, 0, 0, 0, 0]
  p : PBlk W B ps
  l : ps.length = 80
  q : ∀ i, i ≤ k → IsEl (seg ps i) (r ^ i)
  b : Below w.heap.size w W
/-- Five numbers laid at a place. -/
def put5 (ps : List Nat) (o a b c d e : Nat) : List Nat := ((((ps.set o a).set (o + 1) b).set (o + 2) c).set (o + 3) d).set (o + 4) e
theorem put5_len (ps : List Nat) (o a b c d e : Nat) : (put5 ps o a b c d e).length = ps.length := by simp [put5]
theorem put5_get (ps : List Nat) (o a b c d e i : Nat) (h : i < o ∨ o + 5 ≤ i) : (put5 ps o a b c d e).getD i 0 = ps.getD i 0 := by
  unfold put5
  simp only [List.getD_eq_getElem?_getD]
  rw [List.getElem?_set_ne (by omega), List.getElem?_set_ne (by omega), List.getElem?_set_ne (by omega), List.getElem?_set_ne (by omega), List.getElem?_set_ne (by omega)]
theorem put5_at (ps : List Nat) (o a b c d e : Nat) (h : o + 5 ≤ ps.length) : (put5 ps o a b c d e).getD o 0 = a ∧ (put5 ps o a b c d e).getD (o + 1) 0 = b ∧ (put5 ps o a b c d e).getD (o + 2) 0 = c ∧ (put5 ps o a b c d e).getD (o + 3) 0 = d ∧ (put5 ps o a b c d e).getD (o + 4) 0 = e := by
  unfold put5
  simp only [List.getD_eq_getElem?_getD]
  refine ⟨?_, ?_, ?_, ?_, ?_⟩
  · rw [List.getElem?_set_ne (by omega), List.getElem?_set_ne (by omega), List.getElem?_set_ne (by omega), List.getElem?_set_ne (by omega), List.getElem?_set_self (by first | omega | (simp only [List.length_set]; omega))]; rfl
  · rw [List.getElem?_set_ne (by omega), List.getElem?_set_ne (by omega), List.getElem?_set_ne (by omega), List.getElem?_set_self (by first | omega | (simp only [List.length_set]; omega))]; rfl
  · rw [List.getElem?_set_ne (by omega), List.getElem?_set_ne (by omega), List.getElem?_set_self (by first | omega | (simp only [List.length_set]; omega))]; rfl
  · rw [List.getElem?_set_ne (by omega), List.getElem?_set_self (by first | omega | (simp only [List.length_set]; omega))]; rfl
  · rw [List.getElem?_set_self (by first | omega | (simp only [List.length_set]; omega))]; rfl
theorem seg_put5 (ps : List Nat) (k a b c d e : Nat) (h : (k + 1) * 5 ≤ ps.length) : seg (put5 ps (k * 5) a b c d e) k = E5 a b c d e := by
  obtain ⟨h0, h1, h2, h3, h4⟩ := put5_at ps (k * 5) a b c d e (by omega)
  unfold seg
  rw [h0, h1, h2, h3, h4]
theorem seg_other (ps : List Nat) (k i a b c d e : Nat) (h : i ≠ k) : seg (put5 ps (k * 5) a b c d e) i = seg ps i := by
  unfold seg
  rw [put5_get _ _ _ _ _ _ _ _ (by omega), put5_get _ _ _ _ _ _ _ _ (by omega), put5_get _ _ _ _ _ _ _ _ (by omega), put5_get _ _ _ _ _ _ _ _ (by omega), put5_get _ _ _ _ _ _ _ _ (by omega)]
theorem heap_set5 (w : World) (g o g2 : Nat) (a b c d e : Value) (h : g2 ≠ g) :
    (((((w.setCell ⟨g, o, none⟩ a).setCell ⟨g, o + 1, none⟩ b).setCell ⟨g, o + 2, none⟩ c).setCell ⟨g, o + 3, none⟩ d).setCell ⟨g, o + 4, none⟩ e).heap[g2]? = w.heap[g2]? := by
  simp [World.setCell, Array.getElem?_modify, Ne.symm h]
theorem PowS.step {w W wv : World} {B r k : Nat} {cs : List Value} {ls ps : List Nat} (h : PowS w B cs ls r k ps W) (bv : Below W.heap.size W wv) (hB : w.heap.size + 1 + 1 < B) (hk : k < 15) (m0 m1 m2 m3 m4 : Nat)
    (hm : IsEl (E5 m0 m1 m2 m3 m4) (r ^ (k + 1))) :
    PowS w B cs ls r (k + 1) (put5 ps ((k + 1) * 5) m0 m1 m2 m3 m4) (((((wv.setCell ⟨B, (k + 1) * 5, none⟩ (.int .u64 (m0 : Int))).setCell ⟨B, (k + 1) * 5 + 1, none⟩ (.int .u64 (m1 : Int))).setCell ⟨B, (k + 1) * 5 + 2, none⟩ (.int .u64 (m2 : Int))).setCell ⟨B, (k + 1) * 5 + 3, none⟩ (.int .u64 (m3 : Int))).setCell ⟨B, (k + 1) * 5 + 4, none⟩ (.int .u64 (m4 : Int))) := by
  have up : ∀ g o, W.heap[g]? = some o → wv.heap[g]? = some o := fun g o hg => (bv.block g (Array.getElem?_eq_some_iff.1 hg).1).trans hg
  refine ⟨?_, ?_, ?_, ?_, by rw [put5_len]; exact h.l, ?_, below_set5' (h.b.then_ bv) B (by omega) _ _ _ _ _ _⟩
  · exact (heap_set5 _ _ _ _ _ _ _ _ _ (by omega)).trans (up _ _ h.a)
  · exact (heap_set5 _ _ _ _ _ _ _ _ _ (by omega)).trans (up _ _ h.e)
  · exact (heap_set5 _ _ _ _ _ _ _ _ _ (by omega)).trans (up _ _ h.z)
  · have hp : PBlk wv B ps := up _ _ h.p
    exact ((((hp.set_ _ m0).set_ _ m1).set_ _ m2).set_ _ m3).set_ _ m4
  · intro i hi
    by_cases e : i = k + 1
    · subst e; rw [seg_put5 _ _ _ _ _ _ _ (by rw [h.l]; omega)]; exact hm
    · rw [seg_other _ _ _ _ _ _ _ _ e]; exact h.q i (by omega)
theorem pow_start {w w1 : World} {a0 a1 a2 a3 a4 d0 d1 d2 d3 d4 r B : Nat} {cs p0 : List Value} (b : Below (((w.alloc (.cells #[.int .u64 (a0 : Int), .int .u64 (a1 : Int), .int .u64 (a2 : Int), .int .u64 (a3 : Int), .int .u64 (a4 : Int)] 40)).alloc (.cells cs.toArray 22)).alloc (.cells #[.int .u64 0, .int .u64 0, .int .u64 0, .int .u64 0, .int .u64 0] 40)).heap.size
      (((w.alloc (.cells #[.int .u64 (a0 : Int), .int .u64 (a1 : Int), .int .u64 (a2 : Int), .int .u64 (a3 : Int), .int .u64 (a4 : Int)] 40)).alloc (.cells cs.toArray 22)).alloc (.cells #[.int .u64 0, .int .u64 0, .int .u64 0, .int .u64 0, .int .u64 0] 40)) w1)
    (hp : ((((Z80.set 0 (.int .u64 (d0 : Int))).set 1 (.int .u64 (d1 : Int))).set 2 (.int .u64 (d2 : Int))).set 3 (.int .u64 (d3 : Int))).set 4 (.int .u64 (d4 : Int)) = p0) (hx : IsEl (.agg #[.int .u64 (d0 : Int), .int .u64 (d1 : Int), .int .u64 (d2 : Int), .int .u64 (d3 : Int), .int .u64 (d4 : Int)]) 1) (hB : w1.heap.size = B) :
    ∃ ps, PowS w B cs [a0, a1, a2, a3, a4] r 0 ps (w1.alloc (.cells p0.toArray 134)) := by
  have up : ∀ g o, (((w.alloc (.cells #[.int .u64 (a0 : Int), .int .u64 (a1 : Int), .int .u64 (a2 : Int), .int .u64 (a3 : Int), .int .u64 (a4 : Int)] 40)).alloc (.cells cs.toArray 22)).alloc (.cells #[.int .u64 0, .int .u64 0, .int .u64 0, .int .u64 0, .int .u64 0] 40)).heap[g]? = some o → (w1.alloc (.cells p0.toArray 134)).heap[g]? = some o := fun g o hg => by
    have h1 := (b.block g (Array.getElem?_eq_some_iff.1 hg).1).trans hg
    exact (heap_alloc_old _ _ (Array.getElem?_eq_some_iff.1 h1).1).trans h1
  have h0 := heap_alloc_new w (.cells #[.int .u64 (a0 : Int), .int .u64 (a1 : Int), .int .u64 (a2 : Int), .int .u64 (a3 : Int), .int .u64 (a4 : Int)] 40)
  have h1 := heap_alloc_new (w.alloc (.cells #[.int .u64 (a0 : Int), .int .u64 (a1 : Int), .int .u64 (a2 : Int), .int .u64 (a3 : Int), .int .u64 (a4 : Int)] 40)) (.cells cs.toArray 22)
  have h2 := heap_alloc_new ((w.alloc (.cells #[.int .u64 (a0 : Int), .int .u64 (a1 : Int), .int .u64 (a2 : Int), .int .u64 (a3 : Int), .int .u64 (a4 : Int)] 40)).alloc (.cells cs.toArray 22)) (.cells #[.int .u64 0, .int .u64 0, .int .u64 0, .int .u64 0, .int .u64 0] 40)
  rw [show (w.alloc (.cells #[.int .u64 (a0 : Int), .int .u64 (a1 : Int), .int .u64 (a2 : Int), .int .u64 (a3 : Int), .int .u64 (a4 : Int)] 40)).heap.size = w.heap.size + 1 by simp] at h1
  rw [show ((w.alloc (.cells #[.int .u64 (a0 : Int), .int .u64 (a1 : Int), .int .u64 (a2 : Int), .int .u64 (a3 : Int), .int .u64 (a4 : Int)] 40)).alloc (.cells cs.toArray 22)).heap.size = w.heap.size + 1 + 1 by simp] at h2
  have hnew := heap_alloc_new w1 (.cells p0.toArray 134)
  rw [hB] at hnew
  refine ⟨put5 (List.replicate 80 0) 0 d0 d1 d2 d3 d4, ?_, ?_, up _ _ h2, ?_, by rw [put5_len]; simp, ?_, (below3 b).alloc (below3 b).size _⟩
  · exact up _ _ ((heap_alloc_old _ _ (by simp; try omega)).trans ((heap_alloc_old _ _ (by simp; try omega)).trans h0))
  · exact up _ _ ((heap_alloc_old _ _ (by simp; try omega)).trans h1)
  · have e : (put5 (List.replicate 80 0) 0 d0 d1 d2 d3 d4).map (fun (n : Nat) => Value.int .u64 (n : Int)) = p0 := by
      rw [← hp]; unfold put5 Z80; simp only [List.map_set, List.map_replicate]; rfl
    unfold PBlk
    rw [e]; exact hnew
  · intro i hi
    obtain rfl : i = 0 := by omega
    have h := seg_put5 (List.replicate 80 0) 0 d0 d1 d2 d3 d4 (by simp)
    rw [h, Nat.pow_zero]; exact hx
theorem leN_at : ∀ (es : List UInt8) (k : Nat) (h : k < es.length), leN es / 256 ^ k % 256 = (es[k]).toNat
  | [], k, h => absurd h (by simp)
  | b :: t, 0, h => by
    have := b.toNat_lt
    simp only [leN, Nat.pow_zero, Nat.div_one, List.getElem_cons_zero]
    omega
  | b :: t, k + 1, h => by
    have hb := b.toNat_lt
    have ih := leN_at t k (by simpa using h)
    simp only [leN, List.getElem_cons_succ]
    rw [Nat.pow_succ, Nat.mul_comm (256 ^ k) 256, ← Nat.div_div_eq_div_mul, show (b.toNat + 256 * leN t) / 256 = leN t by omega]
    exact ih
/-- The exponent's first half-bytes. -/
def topN (es : List UInt8) (i : Nat) : Nat := leN es / 16 ^ (64 - i)
def digN (es : List UInt8) (i : Nat) : Nat := leN es / 16 ^ (63 - i) % 16
theorem topN_zero (es : List UInt8) (h : es.length = 32) : topN es 0 = 0 := by
  have := leN_lt es
  rw [h] at this
  unfold topN
  exact Nat.div_eq_of_lt (by rw [show (16 : Nat) ^ (64 - 0) = 256 ^ 32 by decide]; exact this)
theorem topN_all (es : List UInt8) : topN es 64 = leN es := by unfold topN; simp
theorem topN_succ (es : List UInt8) (i : Nat) (h : i < 64) : topN es (i + 1) = 16 * topN es i + digN es i := by
  unfold topN digN
  rw [show 64 - (i + 1) = 63 - i by omega, show 64 - i = (63 - i) + 1 by omega, Nat.pow_succ, ← Nat.div_div_eq_div_mul]
  omega
theorem digN_lt (es : List UInt8) (i : Nat) : digN es i < 16 := Nat.mod_lt _ (by decide)
theorem digN_even (es : List UInt8) (hl : es.length = 32) (i : Nat) (h : i < 64) (he : i % 2 = 0) (n : Nat) (hn : (es[31 - i / 2]'(by omega)).toNat = n) : digN es i = n / 16 := by
  have a := leN_at es (31 - i / 2) (by omega)
  rw [hn] at a
  unfold digN
  rw [show 63 - i = (31 - i / 2) * 2 + 1 by omega, Nat.pow_succ, Nat.mul_comm _ 2, Nat.pow_mul, show (16 : Nat) ^ 2 = 256 by decide, ← Nat.div_div_eq_div_mul, ← a]
  omega
theorem digN_odd (es : List UInt8) (hl : es.length = 32) (i : Nat) (h : i < 64) (he : i % 2 = 1) (n : Nat) (hn : (es[31 - i / 2]'(by omega)).toNat = n) : digN es i = n % 16 := by
  have a := leN_at es (31 - i / 2) (by omega)
  rw [hn] at a
  unfold digN
  rw [show 63 - i = (31 - i / 2) * 2 by omega, Nat.mul_comm _ 2, Nat.pow_mul, show (16 : Nat) ^ 2 = 256 by decide, ← a]
  omega
def OutS (w : World) (B C : Nat) (cs : List Value) (ls : List Nat) (r : Nat) (ps : List Nat) (m : Nat) (W : World) : Prop :=
  PowS w B cs ls r 15 ps W ∧ ∃ o0 o1 o2 o3 o4, EBlk W C [o0, o1, o2, o3, o4] ∧ IsEl (E5 o0 o1 o2 o3 o4) (r ^ m)
theorem OutS.step {w W wv : World} {B C r m m' : Nat} {cs : List Value} {ls ps : List Nat} (h : OutS w B C cs ls r ps m W) (bv : Below W.heap.size W wv) (hB : w.heap.size + 1 + 1 < B) (hC : B < C) (m0 m1 m2 m3 m4 : Nat)
    (hm : IsEl (E5 m0 m1 m2 m3 m4) (r ^ m')) :
    OutS w B C cs ls r ps m' (((((wv.setCell ⟨C, 0, none⟩ (.int .u64 (m0 : Int))).setCell ⟨C, 1, none⟩ (.int .u64 (m1 : Int))).setCell ⟨C, 2, none⟩ (.int .u64 (m2 : Int))).setCell ⟨C, 3, none⟩ (.int .u64 (m3 : Int))).setCell ⟨C, 4, none⟩ (.int .u64 (m4 : Int))) := by
  have up : ∀ g o, W.heap[g]? = some o → wv.heap[g]? = some o := fun g o hg => (bv.block g (Array.getElem?_eq_some_iff.1 hg).1).trans hg
  obtain ⟨h, o0, o1, o2, o3, o4, ho, _⟩ := h
  refine ⟨⟨?_, ?_, ?_, ?_, h.l, h.q, below_set5' (h.b.then_ bv) C (by omega) 0 _ _ _ _ _⟩, m0, m1, m2, m3, m4, ?_, hm⟩
  · exact (heap_set5 _ _ 0 _ _ _ _ _ _ (by omega)).trans (up _ _ h.a)
  · exact (heap_set5 _ _ 0 _ _ _ _ _ _ (by omega)).trans (up _ _ h.e)
  · exact (heap_set5 _ _ 0 _ _ _ _ _ _ (by omega)).trans (up _ _ h.z)
  · exact (heap_set5 _ _ 0 _ _ _ _ _ _ (by omega)).trans (up _ _ h.p)
  · have hp : EBlk wv C [o0, o1, o2, o3, o4] := up _ _ ho
    exact ((((hp.set_ 0 m0).set_ 1 m1).set_ 2 m2).set_ 3 m3).set_ 4 m4
theorem OutS.start {w W w2 : World} {B C r : Nat} {cs : List Value} {ls ps : List Nat} {f0 f1 f2 f3 f4 : Nat} (h : PowS w B cs ls r 15 ps W) (b : Below W.heap.size W w2) (hx : IsEl (E5 f0 f1 f2 f3 f4) 1) (hC : w2.heap.size = C) :
    OutS w B C cs ls r ps 0 (w2.alloc (.cells #[.int .u64 (f0 : Int), .int .u64 (f1 : Int), .int .u64 (f2 : Int), .int .u64 (f3 : Int), .int .u64 (f4 : Int)] 40)) := by
  have up : ∀ g o, W.heap[g]? = some o → (w2.alloc (.cells #[.int .u64 (f0 : Int), .int .u64 (f1 : Int), .int .u64 (f2 : Int), .int .u64 (f3 : Int), .int .u64 (f4 : Int)] 40)).heap[g]? = some o := fun g o hg => by
    have h1 := (b.block g (Array.getElem?_eq_some_iff.1 hg).1).trans hg
    exact (heap_alloc_old _ _ (Array.getElem?_eq_some_iff.1 h1).1).trans h1
  have hw : w.heap.size ≤ w2.heap.size := (h.b.then_ b).size
  refine ⟨⟨up _ _ h.a, up _ _ h.e, up _ _ h.z, up _ _ h.p, h.l, h.q, (h.b.then_ b).alloc hw _⟩, f0, f1, f2, f3, f4, ?_, by rw [Nat.pow_zero]; exact hx⟩
  have hnew := heap_alloc_new w2 (.cells #[.int .u64 (f0 : Int), .int .u64 (f1 : Int), .int .u64 (f2 : Int), .int .u64 (f3 : Int), .int .u64 (f4 : Int)] 40)
  rw [hC] at hnew
  exact hnew
set_option maxRecDepth 100000 in
set_option maxHeartbeats 4000000 in
theorem pow_calls (v : Value) (r : Nat) (es : List UInt8) (hv : IsEl v r) (hl : es.length = 32) (w : World) :
    Calls Tryd.prog 76 #[v, A32 es] w (ElPost (r ^ leN es) w) := by
  obtain ⟨a0, a1, a2, a3, a4, rfl, hok, hval⟩ := hv.form
  have HV := Lib.hid hv
  clear hok hval hv
  unfold A32
  obtain ⟨cs, hcs⟩ : ∃ cs, u8s es = cs := ⟨_, rfl⟩
  rw [hcs]
  have HCS := Lib.hid hcs
  clear hcs
  go_enter Tryd.func76, Tryd.ntmps76
  go_wp2_with fail
  refine (small_calls 1 (by omega) _).mono ?_
  rintro e w1 ⟨x, rfl, hx, b1⟩
  obtain ⟨d0, d1, d2, d3, d4, rfl, hok, hval⟩ := hx.form
  have HX := Lib.hid hx
  have HB1 := Lib.hid b1
  clear hok hval hx b1
  have hz := zero80
  obtain ⟨p0, hp0⟩ : ∃ p, ((((Z80.set 0 (.int .u64 (d0 : Int))).set 1 (.int .u64 (d1 : Int))).set 2 (.int .u64 (d2 : Int))).set 3 (.int .u64 (d3 : Int))).set 4 (.int .u64 (d4 : Int)) = p := ⟨_, rfl⟩
  have hpl : p0.length = 80 := by rw [← hp0]; simp [Z80]
  have hone : p0.toArray.all (·.oneCell') = true := by
    apply all_oneCell_toArray
    intro v hv
    rw [← hp0] at hv
    have := List.mem_or_eq_of_mem_set hv
    rcases List.mem_or_eq_of_mem_set hv with hv | rfl
    · rcases List.mem_or_eq_of_mem_set hv with hv | rfl
      · rcases List.mem_or_eq_of_mem_set hv with hv | rfl
        · rcases List.mem_or_eq_of_mem_set hv with hv | rfl
          · rcases List.mem_or_eq_of_mem_set hv with hv | rfl
            · rw [List.eq_of_mem_replicate hv]; rfl
            · rfl
          · rfl
        · rfl
      · rfl
    · rfl
  have hstc : (storeCells ⟨w1.heap.size, 0, none⟩ p0).run Tryd.prog (w1.alloc (.cells Z80.toArray 134)) = .ok () (w1.alloc (.cells p0.toArray 134)) := by
    have h := run_storeCells_new (P := Tryd.prog) w1 134 Z80.toArray p0.toArray (by rw [size80]; simp [hpl]) (by simp [hpl, Z80]) hone
    exact h
  have hzl : Z80.length = 80 := by simp [Z80]
  have HPO := Lib.hid hp0
  clear hone
  go_wp2_with fail
  obtain ⟨B, hB⟩ : ∃ B, w1.heap.size = B := ⟨_, rfl⟩
  have hs0 : ∃ ps, PowS w B cs [a0, a1, a2, a3, a4] r 0 ps (w1.alloc (.cells p0.toArray 134)) := pow_start HB1.out HPO.out HX.out hB
  have HS0 := Lib.hid hs0
  have hB2 : w.heap.size + 1 + 1 < B := by rw [← hB]; have := HB1.out.size; simp at this; omega
  rw [hB]
  have HBB := Lib.hid hB
  clear hs0 hstc hz hzl hB hp0 hpl
  go_loopw [12] (fun i wr => ∃ (k : Nat) (ps : List Nat), k ≤ 15 ∧ i = .int .i64 (k : Int) ∧ PowS w B cs [a0, a1, a2, a3, a4] r k ps wr) (fun i _ => 15 - (intOf i).toNat)
  case atStart => obtain ⟨ps, h⟩ := HS0.out; exact ⟨0, ps, by omega, rfl, h⟩
  case round =>
    obtain ⟨k, ps, hk, rfl, hs⟩ := hrel
    by_cases hp : k < 15
    · have hget : ∀ j, j < 80 → ps[j]? = some (ps.getD j 0) := fun j hj => by
        rw [List.getD_eq_getElem?_getD, List.getElem?_eq_getElem (by rw [hs.l]; exact hj)]; rfl
      have hx := hs.q k (Nat.le_refl _)
      unfold seg E5 at hx
      have g0 := hs.p.cell (hget (k * 5) (by omega))
      have g1 := hs.p.cell (hget (k * 5 + 1) (by omega))
      have g2 := hs.p.cell (hget (k * 5 + 2) (by omega))
      have g3 := hs.p.cell (hget (k * 5 + 3) (by omega))
      have g4 := hs.p.cell (hget (k * 5 + 4) (by omega))
      have c0 := hs.a.cell (k := 0) rfl
      have c1 := hs.a.cell (k := 1) rfl
      have c2 := hs.a.cell (k := 2) rfl
      have c3 := hs.a.cell (k := 3) rfl
      have c4 := hs.a.cell (k := 4) rfl
      generalize ps.getD (k * 5) 0 = q0 at *
      generalize ps.getD (k * 5 + 1) 0 = q1 at *
      generalize ps.getD (k * 5 + 2) 0 = q2 at *
      generalize ps.getD (k * 5 + 3) 0 = q3 at *
      generalize ps.getD (k * 5 + 4) 0 = q4 at *
      have HX2 := Lib.hid hx
      have y0 := hs.p.cell (hget ((k + 1) * 5) (by omega))
      have y1 := hs.p.cell (hget ((k + 1) * 5 + 1) (by omega))
      have y2 := hs.p.cell (hget ((k + 1) * 5 + 2) (by omega))
      have y3 := hs.p.cell (hget ((k + 1) * 5 + 3) (by omega))
      have y4 := hs.p.cell (hget ((k + 1) * 5 + 4) (by omega))
      have z0 := hs.p.frozen ((k + 1) * 5)
      have z1 := hs.p.frozen ((k + 1) * 5 + 1)
      have z2 := hs.p.frozen ((k + 1) * 5 + 2)
      have z3 := hs.p.frozen ((k + 1) * 5 + 3)
      have z4 := hs.p.frozen ((k + 1) * 5 + 4)
      have HY := Lib.hid (And.intro y0 (And.intro y1 (And.intro y2 (And.intro y3 y4))))
      have HZ := Lib.hid (And.intro z0 (And.intro z1 (And.intro z2 (And.intro z3 z4))))
      have HBL : Hid (B < wr.heap.size) := (Array.getElem?_eq_some_iff.1 hs.p).1
      have HS := Lib.hid hs
      have e1 : IntKind.i64.wrap ((k : Int) + 1) = (k : Int) + 1 := IntWalk.i64_in _ (by omega)
      have e2 : (0 : Int) ≤ (k : Int) + 1 := by omega
      have e3 : (k : Int) + 1 < 16 := by omega
      have e4 : ((k : Int) + 1).toNat = k + 1 := by omega
      have e5 : (k : Int) < 16 := by omega
      clear hget hx hs y0 y1 y2 y3 y4 z0 z1 z2 z3 z4
      go_wp2_with fail
      go_region_held3 (fun w' => (w'.cell? ⟨B, k * 5, none⟩ = some (.int .u64 (q0 : Int)) ∧ w'.cell? ⟨B, k * 5 + 1, none⟩ = some (.int .u64 (q1 : Int)) ∧ w'.cell? ⟨B, k * 5 + 2, none⟩ = some (.int .u64 (q2 : Int)) ∧ w'.cell? ⟨B, k * 5 + 3, none⟩ = some (.int .u64 (q3 : Int)) ∧ w'.cell? ⟨B, k * 5 + 4, none⟩ = some (.int .u64 (q4 : Int))) ∧
          w'.cell? ⟨w.heap.size, 0, none⟩ = some (.int .u64 (a0 : Int)) ∧ w'.cell? ⟨w.heap.size, 1, none⟩ = some (.int .u64 (a1 : Int)) ∧ w'.cell? ⟨w.heap.size, 2, none⟩ = some (.int .u64 (a2 : Int)) ∧ w'.cell? ⟨w.heap.size, 3, none⟩ = some (.int .u64 (a3 : Int)) ∧ w'.cell? ⟨w.heap.size, 4, none⟩ = some (.int .u64 (a4 : Int)))
        (first | go_keep | (go_split_ands; (refine ⟨⟨?_, ?_, ?_, ?_, ?_⟩, ?_, ?_, ?_, ?_, ?_⟩ <;> exact Go.cell_later (by assumption) (by assumption))) | (go_split_ands; (refine ⟨⟨?_, ?_, ?_, ?_, ?_⟩, ?_, ?_, ?_, ?_, ?_⟩ <;> ((refine (set5_cell _ _ _ _ _ _ _ _ _ _ (by omega)).trans ?_); assumption))))
        ((go_at_call 45; (with_reducible refine (mul_calls _ _ _ _ HX2.out HV.out _).mono ?_); rintro e wv ⟨x, rfl, hx, bv⟩; obtain ⟨m0, m1, m2, m3, m4, rfl, hok, hval⟩ := hx.form; have y0 := Go.cell_later bv HY.out.1; have y1 := Go.cell_later bv HY.out.2.1; have y2 := Go.cell_later bv HY.out.2.2.1; have y3 := Go.cell_later bv HY.out.2.2.2.1; have y4 := Go.cell_later bv HY.out.2.2.2.2; have z0 := (bv.frozen (p := ⟨B, (k + 1) * 5, none⟩) HBL.out).trans HZ.out.1; have z1 := (bv.frozen (p := ⟨B, (k + 1) * 5 + 1, none⟩) HBL.out).trans HZ.out.2.1; have z2 := (bv.frozen (p := ⟨B, (k + 1) * 5 + 2, none⟩) HBL.out).trans HZ.out.2.2.1; have z3 := (bv.frozen (p := ⟨B, (k + 1) * 5 + 3, none⟩) HBL.out).trans HZ.out.2.2.2.1; have z4 := (bv.frozen (p := ⟨B, (k + 1) * 5 + 4, none⟩) HBL.out).trans HZ.out.2.2.2.2))
      have bv2 : Below wr.heap.size wr wv := ⟨bv.os, bv.tape, bv.output, bv.size, bv.block⟩
      have hm : IsEl (E5 m0 m1 m2 m3 m4) (r ^ (k + 1)) := hx.congr (by rw [Nat.pow_succ])
      have hn := HS.out.step bv2 hB2 hp m0 m1 m2 m3 m4 hm
      have HN := Lib.hid hn
      clear hn hm bv2
      go_wp2_with fail
      exact ⟨⟨k + 1, _, by omega, by go_num, HN.out⟩, by simp [intOf]; omega⟩
    · obtain rfl : k = 15 := by omega
      have HS := Lib.hid hs
      clear hs
      go_wp2_with fail
      refine (small_calls 1 (by omega) _).mono ?_
      rintro e w2 ⟨x, rfl, hx, b2⟩
      obtain ⟨f0, f1, f2, f3, f4, rfl, hok, hval⟩ := hx.form
      obtain ⟨C, hC⟩ : ∃ C, w2.heap.size = C := ⟨_, rfl⟩
      have hst := OutS.start HS.out b2 hx hC
      have hBC : B < C := by have h1 := (Array.getElem?_eq_some_iff.1 HS.out.p).1; have h2 := b2.size; omega
      have HST := Lib.hid hst
      clear hst hx hok hval b2
      go_wp2_with fail
      have HCC := Lib.hid hC
      clear hC
      go_loopw [25] (fun i wr2 => ∃ (k : Nat), k ≤ 64 ∧ i = .int .i64 (k : Int) ∧ OutS w B C cs [a0, a1, a2, a3, a4] r ps (topN es k) wr2) (fun i _ => 64 - (intOf i).toNat)
      case atStart => exact ⟨0, by omega, rfl, by rw [topN_zero es hl]; exact HST.out⟩
      case round =>
        obtain ⟨k, hk2, rfl, hs2⟩ := hrel
        have HS2 := Lib.hid hs2
        clear hs2
        by_cases hp2 : k < 64
        · have hb26 : decide ((k : Int) < 64) = true := by simp; omega
          go_wp2_with fail
          try rw [hb26]
          clear hb26
          go_loopw [28] (fun j wr3 => ∃ (n : Nat), n ≤ 4 ∧ j = .int .i64 (n : Int) ∧ OutS w B C cs [a0, a1, a2, a3, a4] r ps (topN es k * 2 ^ n) wr3) (fun j _ => 4 - (intOf j).toNat)
          case atStart => exact ⟨0, by omega, rfl, by rw [Nat.pow_zero, Nat.mul_one]; exact HS2.out⟩
          case round =>
            obtain ⟨n, hn2, rfl, hs3⟩ := hrel
            have HS3 := Lib.hid hs3
            obtain ⟨hs3, o0, o1, o2, o3, o4, ho, hx⟩ := hs3
            have hc0 := ho.cell (k := 0) rfl
            have hc1 := ho.cell (k := 1) rfl
            have hc2 := ho.cell (k := 2) rfl
            have hc3 := ho.cell (k := 3) rfl
            have hc4 := ho.cell (k := 4) rfl
            have hz0 := ho.frozen 0
            have hz1 := ho.frozen 1
            have hz2 := ho.frozen 2
            have hz3 := ho.frozen 3
            have hz4 := ho.frozen 4
            unfold E5 at hx
            have HX3 := Lib.hid hx
            have HCL : Hid (C < wr.heap.size) := Lib.hid (Array.getElem?_eq_some_iff.1 ho).1
            have HZ3 := Lib.hid (And.intro hz0 (And.intro hz1 (And.intro hz2 (And.intro hz3 hz4))))
            have HY3 := Lib.hid (And.intro hc0 (And.intro hc1 (And.intro hc2 (And.intro hc3 hc4))))
            clear hs3 ho hx hz0 hz1 hz2 hz3 hz4
            by_cases hp3 : n < 4
            · have e1 : IntKind.i64.wrap ((n : Int) + 1) = (n : Int) + 1 := IntWalk.i64_in _ (by omega)
              go_wp2_with fail
              refine (mul_calls _ _ _ _ HX3.out HX3.out _).mono ?_
              rintro e wv ⟨x, rfl, hx, bv⟩
              obtain ⟨m0, m1, m2, m3, m4, rfl, hok, hval⟩ := hx.form
              clear hok hval hc0 hc1 hc2 hc3 hc4
              have y0 := Go.cell_later bv HY3.out.1
              have y1 := Go.cell_later bv HY3.out.2.1
              have y2 := Go.cell_later bv HY3.out.2.2.1
              have y3 := Go.cell_later bv HY3.out.2.2.2.1
              have y4 := Go.cell_later bv HY3.out.2.2.2.2
              have z0 := (bv.frozen (p := ⟨C, 0, none⟩) HCL.out).trans HZ3.out.1
              have z1 := (bv.frozen (p := ⟨C, 1, none⟩) HCL.out).trans HZ3.out.2.1
              have z2 := (bv.frozen (p := ⟨C, 2, none⟩) HCL.out).trans HZ3.out.2.2.1
              have z3 := (bv.frozen (p := ⟨C, 3, none⟩) HCL.out).trans HZ3.out.2.2.2.1
              have z4 := (bv.frozen (p := ⟨C, 4, none⟩) HCL.out).trans HZ3.out.2.2.2.2
              have hn := HS3.out.step (m' := topN es k * 2 ^ (n + 1)) bv hB2 hBC m0 m1 m2 m3 m4 (hx.congr (by rw [← Nat.pow_add, ← Nat.mul_two, Nat.mul_assoc, ← Nat.pow_succ]))
              have HN := Lib.hid hn
              clear hn hx bv
              go_wp2_with fail
              exact ⟨⟨n + 1, by omega, by go_num, HN.out⟩, by simp [intOf]; omega⟩
            · obtain rfl : n = 4 := by omega
              clear hc0 hc1 hc2 hc3 hc4
              have hlt : 31 - k / 2 < es.length := by rw [hl]; omega
              have hcl : 31 - k / 2 < cs.length := by rw [← HCS.out]; simpa [u8s] using hlt
              obtain ⟨c, hc⟩ : ∃ c, (es[31 - k / 2]).toNat = c := ⟨_, rfl⟩
              have hcc : cs[31 - k / 2]? = some (.int .u8 (c : Int)) := by
                rw [← HCS.out, ← hc]; simp [u8s, hlt]
              have hE : wr.cell? ⟨w.heap.size + 1, 31 - k / 2, none⟩ = some (.int .u8 (c : Int)) := by
                rw [cell_of_row _ _ _ _ _ _ HS3.out.1.e]; simpa using hcc
              have hc8 : c < 256 := by rw [← hc]; exact (es[31 - k / 2]).toNat_lt
              obtain ⟨d, hd⟩ : ∃ d, digN es k = d := ⟨_, rfl⟩
              have hd16 : d < 16 := by rw [← hd]; exact digN_lt es k
              have HD := Lib.hid hd
              clear hd hcc hcl
              have hget : ∀ j, j < 80 → ps[j]? = some (ps.getD j 0) := fun j hj => by
                rw [List.getD_eq_getElem?_getD, List.getElem?_eq_getElem (by rw [HS3.out.1.l]; exact hj)]; rfl
              have hxq := HS3.out.1.q d (by omega)
              unfold seg E5 at hxq
              have g0 := HS3.out.1.p.cell (hget (d * 5) (by omega))
              have g1 := HS3.out.1.p.cell (hget (d * 5 + 1) (by omega))
              have g2 := HS3.out.1.p.cell (hget (d * 5 + 2) (by omega))
              have g3 := HS3.out.1.p.cell (hget (d * 5 + 3) (by omega))
              have g4 := HS3.out.1.p.cell (hget (d * 5 + 4) (by omega))
              generalize ps.getD (d * 5) 0 = q0 at *
              generalize ps.getD (d * 5 + 1) 0 = q1 at *
              generalize ps.getD (d * 5 + 2) 0 = q2 at *
              generalize ps.getD (d * 5 + 3) 0 = q3 at *
              generalize ps.getD (d * 5 + 4) 0 = q4 at *
              have HXQ := Lib.hid hxq
              have HG := Lib.hid (And.intro g0 (And.intro g1 (And.intro g2 (And.intro g3 g4))))
              clear hget hxq g0 g1 g2 g3 g4
              rcases Nat.mod_two_eq_zero_or_one k with hpar | hpar
              · have hdv : d = c / 16 := by rw [← HD.out]; exact digN_even es hl k hp2 hpar c hc
                have hm : (k : Int) % 2 = 0 := by omega
                have ht : Int.tmod (k : Int) 2 = 0 := by rw [Int.tmod_eq_emod_of_nonneg (by omega)]; exact hm
                have hdw : (c : Int) / 16 % 16 = (d : Int) := by omega
                have hd0 : (0 : Int) ≤ (d : Int) ∧ (d : Int) < 16 := by omega
                clear hc
                go_wp2_with fail
                obtain ⟨hc0, hc1, hc2, hc3, hc4⟩ := HY3.out
                obtain ⟨g0, g1, g2, g3, g4⟩ := HG.out
                rw [hdw]
                clear hE hm ht hpar hdv hdw
                go_still_tail 4, (by kernel_rfl)
                change wpList _ _ _ _ _ wr.drew
                go_wp2_with fail
                refine (mul_calls _ _ _ _ HX3.out HXQ.out _).mono ?_
                rintro e wv ⟨x, rfl, hx, bv⟩
                obtain ⟨m0, m1, m2, m3, m4, rfl, hok, hval⟩ := hx.form
                clear hok hval hc0 hc1 hc2 hc3 hc4 g0 g1 g2 g3 g4
                have y0 := Go.cell_later bv HY3.out.1
                have y1 := Go.cell_later bv HY3.out.2.1
                have y2 := Go.cell_later bv HY3.out.2.2.1
                have y3 := Go.cell_later bv HY3.out.2.2.2.1
                have y4 := Go.cell_later bv HY3.out.2.2.2.2
                have z0 := (bv.frozen (p := ⟨C, 0, none⟩) HCL.out).trans HZ3.out.1
                have z1 := (bv.frozen (p := ⟨C, 1, none⟩) HCL.out).trans HZ3.out.2.1
                have z2 := (bv.frozen (p := ⟨C, 2, none⟩) HCL.out).trans HZ3.out.2.2.1
                have z3 := (bv.frozen (p := ⟨C, 3, none⟩) HCL.out).trans HZ3.out.2.2.2.1
                have z4 := (bv.frozen (p := ⟨C, 4, none⟩) HCL.out).trans HZ3.out.2.2.2.2
                have bv2 : Below wr.heap.size wr wv := ⟨bv.os, bv.tape, bv.output, bv.size, bv.block⟩
                have hn := HS3.out.step (m' := topN es (k + 1)) bv2 hB2 hBC m0 m1 m2 m3 m4 (hx.congr (by rw [topN_succ es k hp2, HD.out, ← Nat.pow_add, show topN es k * 2 ^ 4 = 16 * topN es k by omega]))
                have e1 : IntKind.i64.wrap ((k : Int) + 1) = (k : Int) + 1 := IntWalk.i64_in _ (by omega)
                have HN := Lib.hid hn
                clear hn hx bv2
                go_wp2_with fail
                exact ⟨⟨k + 1, by omega, by go_num, HN.out⟩, by simp [intOf]; omega⟩
              · have hdv : d = c % 16 := by rw [← HD.out]; exact digN_odd es hl k hp2 hpar c hc
                have hm : (k : Int) % 2 = 1 := by omega
                have ht : Int.tmod (k : Int) 2 = 1 := by rw [Int.tmod_eq_emod_of_nonneg (by omega)]; exact hm
                have hdw : (c : Int) % 16 = (d : Int) := by omega
                have hd0 : (0 : Int) ≤ (d : Int) ∧ (d : Int) < 16 := by omega
                clear hc
                go_wp2_with fail
                obtain ⟨hc0, hc1, hc2, hc3, hc4⟩ := HY3.out
                obtain ⟨g0, g1, g2, g3, g4⟩ := HG.out
                rw [hdw]
                clear hE hm ht hpar hdv hdw
                go_still_tail 4, (by kernel_rfl)
                change wpList _ _ _ _ _ wr.drew
                go_wp2_with fail
                refine (mul_calls _ _ _ _ HX3.out HXQ.out _).mono ?_
                rintro e wv ⟨x, rfl, hx, bv⟩
                obtain ⟨m0, m1, m2, m3, m4, rfl, hok, hval⟩ := hx.form
                clear hok hval hc0 hc1 hc2 hc3 hc4 g0 g1 g2 g3 g4
                have y0 := Go.cell_later bv HY3.out.1
                have y1 := Go.cell_later bv HY3.out.2.1
                have y2 := Go.cell_later bv HY3.out.2.2.1
                have y3 := Go.cell_later bv HY3.out.2.2.2.1
                have y4 := Go.cell_later bv HY3.out.2.2.2.2
                have z0 := (bv.frozen (p := ⟨C, 0, none⟩) HCL.out).trans HZ3.out.1
                have z1 := (bv.frozen (p := ⟨C, 1, none⟩) HCL.out).trans HZ3.out.2.1
                have z2 := (bv.frozen (p := ⟨C, 2, none⟩) HCL.out).trans HZ3.out.2.2.1
                have z3 := (bv.frozen (p := ⟨C, 3, none⟩) HCL.out).trans HZ3.out.2.2.2.1
                have z4 := (bv.frozen (p := ⟨C, 4, none⟩) HCL.out).trans HZ3.out.2.2.2.2
                have bv2 : Below wr.heap.size wr wv := ⟨bv.os, bv.tape, bv.output, bv.size, bv.block⟩
                have hn := HS3.out.step (m' := topN es (k + 1)) bv2 hB2 hBC m0 m1 m2 m3 m4 (hx.congr (by rw [topN_succ es k hp2, HD.out, ← Nat.pow_add, show topN es k * 2 ^ 4 = 16 * topN es k by omega]))
                have e1 : IntKind.i64.wrap ((k : Int) + 1) = (k : Int) + 1 := IntWalk.i64_in _ (by omega)
                have HN := Lib.hid hn
                clear hn hx bv2
                go_wp2_with fail
                exact ⟨⟨k + 1, by omega, by go_num, HN.out⟩, by simp [intOf]; omega⟩
        · obtain rfl : k = 64 := by omega
          rw [topN_all] at HS2
          obtain ⟨hs3, o0, o1, o2, o3, o4, ho, hx⟩ := HS2.out
          have hc0 := ho.cell (k := 0) rfl
          have hc1 := ho.cell (k := 1) rfl
          have hc2 := ho.cell (k := 2) rfl
          have hc3 := ho.cell (k := 3) rfl
          have hc4 := ho.cell (k := 4) rfl
          have hy0 := hs3.z.cell (k := 0) rfl
          have hy1 := hs3.z.cell (k := 1) rfl
          have hy2 := hs3.z.cell (k := 2) rfl
          have hy3 := hs3.z.cell (k := 3) rfl
          have hy4 := hs3.z.cell (k := 4) rfl
          have hz0 := hs3.z.frozen 0
          have hz1 := hs3.z.frozen 1
          have hz2 := hs3.z.frozen 2
          have hz3 := hs3.z.frozen 3
          have hz4 := hs3.z.frozen 4
          have hz : EBlk (((((wr.setCell ⟨w.heap.size + 1 + 1, 0, none⟩ (.int .u64 (o0 : Int))).setCell ⟨w.heap.size + 1 + 1, 1, none⟩ (.int .u64 (o1 : Int))).setCell ⟨w.heap.size + 1 + 1, 2, none⟩ (.int .u64 (o2 : Int))).setCell ⟨w.heap.size + 1 + 1, 3, none⟩ (.int .u64 (o3 : Int))).setCell ⟨w.heap.size + 1 + 1, 4, none⟩ (.int .u64 (o4 : Int))) (w.heap.size + 1 + 1) [o0, o1, o2, o3, o4] :=
            ((((hs3.z.set_ 0 o0).set_ 1 o1).set_ 2 o2).set_ 3 o3).set_ 4 o4
          have hbz := below_set5' hs3.b (w.heap.size + 1 + 1) (by omega) 0 (.int .u64 (o0 : Int)) (.int .u64 (o1 : Int)) (.int .u64 (o2 : Int)) (.int .u64 (o3 : Int)) (.int .u64 (o4 : Int))
          simp only [Nat.zero_add] at hbz
          have HX4 := Lib.hid hx
          have HZB := Lib.hid (And.intro hz hbz)
          clear hs3 ho hx hz hbz
          go_wp2_with fail
          obtain ⟨hz, hbz⟩ := HZB.out
          clear hc0 hc1 hc2 hc3 hc4 hy0 hy1 hy2 hy3 hy4 hz0 hz1 hz2 hz3 hz4
          generalize (((((wr.setCell ⟨w.heap.size + 1 + 1, 0, none⟩ (.int .u64 (o0 : Int))).setCell ⟨w.heap.size + 1 + 1, 1, none⟩ (.int .u64 (o1 : Int))).setCell ⟨w.heap.size + 1 + 1, 2, none⟩ (.int .u64 (o2 : Int))).setCell ⟨w.heap.size + 1 + 1, 3, none⟩ (.int .u64 (o3 : Int))).setCell ⟨w.heap.size + 1 + 1, 4, none⟩ (.int .u64 (o4 : Int))) = W5 at *
          have q0 := hz.cell (k := 0) rfl
          have q1 := hz.cell (k := 1) rfl
          have q2 := hz.cell (k := 2) rfl
          have q3 := hz.cell (k := 3) rfl
          have q4 := hz.cell (k := 4) rfl
          exact bodyPost_ret (v := .agg #[.int .u64 o0, .int .u64 o1, .int .u64 o2, .int .u64 o3, .int .u64 o4]) (by simp [results, Tryd.results76, go_sem, q0, q1, q2, q3, q4]) rfl ⟨_, rfl, HX4.out, hbz⟩
end Go.Proofs.YtkfdclnaaphdgaaDoor
namespace Go.Proofs.YtkfdclnaaphdgaaDoor
open Go.ChangeShapes Go.WideShapes Go.ChangeAt Go.RowKit Go.IntWalk
set_option linter.unusedVariables false

theorem leN_ones (count less : Nat) (h : count ≤ 255) : leN (onesF count less) = 2 ^ count - 1 - less := by
  unfold onesF
  rw [leN_leB]
  have h2 : 2 ^ count ≤ 2 ^ 255 := Nat.pow_le_pow_right (by decide) h
  exact Nat.mod_eq_of_lt (by omega)
theorem onesF_len (count less : Nat) : (onesF count less).length = 32 := leB_len _ _
theorem neq_bytes (b c : List UInt8) (hb : b.length = 32) (hc : c.length = 32) (W : World) : (binOp .neq 22 (A32 b) (A32 c)).run Tryd.prog W = .ok (.bool (!(b == c))) W := by
  show (binOp .neq 22 (.agg (b.map fun c => Value.int .u8 c.toNat).toArray) (.agg (c.map fun c => Value.int .u8 c.toNat).toArray)).run Tryd.prog W = .ok (.bool (!(b == c))) W
  rw [run_neq_struct, show (Op.equalIn 10000 22 (.agg (b.map fun c => Value.int .u8 c.toNat).toArray) (.agg (c.map fun c => Value.int .u8 c.toNat).toArray)).run Tryd.prog W = .ok (b == c) W from
    run_equalIn_bytes W 9998 22 5 32 Tryd.underlying22 Tryd.underlying5 (fun w => Tryd.sizeOf5 w) b c hb hc]
  rfl
theorem ones_255 (w : World) : Calls Tryd.prog 77 #[.int .i64 255, .int .u8 20] w (BPost (onesF 255 20) w) := ones_calls 255 20 (by decide) (by decide) w
theorem ones_252 (w : World) : Calls Tryd.prog 77 #[.int .i64 252, .int .u8 1] w (BPost (onesF 252 1) w) := ones_calls 252 1 (by decide) (by decide) w
theorem ones_253 (w : World) : Calls Tryd.prog 77 #[.int .i64 253, .int .u8 4] w (BPost (onesF 253 4) w) := ones_calls 253 4 (by decide) (by decide) w
set_option maxRecDepth 100000 in
set_option maxHeartbeats 4000000 in
theorem inv_calls (v : Value) (r : Nat) (hv : IsEl v r) (w : World) :
    Calls Tryd.prog 44 #[v] w (ElPost (r ^ (P - 2)) w) := by
  obtain ⟨a0, a1, a2, a3, a4, rfl, hok, hval⟩ := hv.form
  have HV := Lib.hid hv
  clear hok hval hv
  go_enter Tryd.func44, Tryd.ntmps44
  go_wp2_with fail
  go_region_held3 (fun w' => w'.cell? ⟨w.heap.size, 0, none⟩ = some (.int .u64 (a0 : Int)) ∧ w'.cell? ⟨w.heap.size, 1, none⟩ = some (.int .u64 (a1 : Int)) ∧ w'.cell? ⟨w.heap.size, 2, none⟩ = some (.int .u64 (a2 : Int)) ∧ w'.cell? ⟨w.heap.size, 3, none⟩ = some (.int .u64 (a3 : Int)) ∧ w'.cell? ⟨w.heap.size, 4, none⟩ = some (.int .u64 (a4 : Int)))
    (first | go_keep | (go_split_ands; (refine ⟨?_, ?_, ?_, ?_, ?_⟩ <;> exact Go.cell_later (by assumption) (by assumption))))
    ((first
      | (go_at_call 77; (with_reducible refine (ones_255 _).mono ?_); rintro e wv ⟨rfl, bv⟩; have hc1 := (bcell bv).1; have hf1 := (bcell bv).2; have hz1 : w.heap.size + 1 < wv.heap.size := (by have := bv.size; simp at this; omega))
      | (go_at_call 76; (with_reducible refine (pow_calls _ _ _ HV.out (onesF_len _ _) _).mono ?_); rintro e wu ⟨x, rfl, hx, bu⟩; obtain ⟨m0, m1, m2, m3, m4, rfl, hok, hval⟩ := hx.form; have hc2 := (bcell bu).1; have hf2 := (bcell bu).2; have hz2 : w.heap.size + 1 < wu.heap.size := (by have := bu.size; omega))))
  have hpe : leN (onesF 255 20) = P - 2 := by rw [leN_ones 255 20 (by decide)]; decide +kernel
  rw [hpe] at hx
  have hbel : Below w.heap.size w wu := (below2d bv).then_ bu
  clear bv bu hok hval
  go_wp2_with fail
  exact bodyPost_ret (v := .agg #[.int .u64 m0, .int .u64 m1, .int .u64 m2, .int .u64 m3, .int .u64 m4]) (by simp [results, Tryd.results44, go_sem, hc1, hc2, hz1]) rfl
    ⟨_, rfl, hx, below_set5 hbel _ (by omega) _ _ _ _ _⟩
def byteN (n : UInt8) : List UInt8 := n :: List.replicate 31 0
theorem litB0 : A32 (byteN 0) = .agg #[.int .u8 0, .int .u8 0, .int .u8 0, .int .u8 0, .int .u8 0, .int .u8 0, .int .u8 0, .int .u8 0, .int .u8 0, .int .u8 0, .int .u8 0, .int .u8 0, .int .u8 0, .int .u8 0, .int .u8 0, .int .u8 0, .int .u8 0, .int .u8 0, .int .u8 0, .int .u8 0, .int .u8 0, .int .u8 0, .int .u8 0, .int .u8 0, .int .u8 0, .int .u8 0, .int .u8 0, .int .u8 0, .int .u8 0, .int .u8 0, .int .u8 0, .int .u8 0] := rfl
end Go.Proofs.YtkfdclnaaphdgaaDoor
namespace Go.Proofs.YtkfdclnaaphdgaaDoor
open Go.ChangeShapes Go.WideShapes Go.ChangeAt Go.RowKit Go.IntWalk
set_option linter.unusedVariables false

/-- Behind k rounds. -/
def fmB (k : Nat) : List UInt8 := List.replicate k 255 ++ List.replicate (31 - k) 0 ++ [127]
theorem fm_step : ∀ k : Fin 31, (fmB k.val).set k.val 255 = fmB (k.val + 1) := by decide +kernel
theorem fm_len (k : Nat) (h : k ≤ 31) : (fmB k).length = 32 := by simp [fmB]; omega
def fmP : List UInt8 := (fmB 31).set 0 237
def fmQ : List UInt8 := fmP.set 0 236
theorem fmP_val : leN fmP = P := by decide +kernel
theorem fmQ_val : leN fmQ = P - 1 := by decide +kernel
theorem size32' (bs : List UInt8) (h : bs.length = 32) : (Tryd.prog.info? 22).map (·.size) = some (u8s bs).length := by rw [show (u8s bs).length = 32 by simp [u8s, h]]; exact size32
theorem one8 (bs : List UInt8) : (u8s bs).toArray.all (·.oneCell') = true := by
  apply all_oneCell_toArray
  intro v hv
  obtain ⟨y, _, rfl⟩ := List.mem_map.1 hv
  rfl
theorem UBlk.rng {w : World} {g : Nat} {bs : List UInt8} (h : UBlk w g bs) : w.rangeAt g 0 (u8s bs) := h.range rfl
theorem UBlk.later {w w1 : World} {g : Nat} {bs : List UInt8} (h : UBlk w g bs) (b : Below w.heap.size w w1) : UBlk w1 g bs := (b.block g (Array.getElem?_eq_some_iff.1 h).1).trans h
theorem EBlk.later {w w1 : World} {g : Nat} {bs : List Nat} (h : EBlk w g bs) (b : Below w.heap.size w w1) : EBlk w1 g bs := (b.block g (Array.getElem?_eq_some_iff.1 h).1).trans h
theorem size5 : (Tryd.prog.info? 40).map (·.size) = some 5 := by kernel_rfl
theorem EBlk.rng {w : World} {g : Nat} {ls : List Nat} (h : EBlk w g ls) : w.rangeAt g 0 (ls.map fun (n : Nat) => Value.int .u64 (n : Int)) := by
  intro j v hv
  unfold EBlk at h
  rw [Nat.zero_add, cell_of_row _ _ _ _ _ _ h]; simpa using hv
theorem prmP : Prm P := prm25519
theorem fermP (n : Nat) : n ^ P % P = n % P := prmP.fermat n
theorem ferm1 (n : Nat) : decide (n ^ leN fmQ % P = 1 % P) = !decide (n % P = 0 % P) := by
  have h1 : 1 % P = 1 := by decide +kernel
  have h2 : 0 < P - 1 := by decide +kernel
  rw [fmQ_val, h1, Nat.zero_mod]
  by_cases h : n % P = 0
  · have hp : n ^ (P - 1) % P = 0 := by rw [Nat.pow_mod, h, Nat.zero_pow h2, Nat.zero_mod]
    rw [hp, h]; rfl
  · have hp := prmP.fermat1 (a := n) (fun hd => h (Nat.mod_eq_zero_of_dvd hd))
    rw [hp, decide_eq_false h, decide_eq_true rfl]; rfl
theorem leN_zeros : leN (List.replicate 32 0) = 0 := by decide +kernel
theorem ferm0 (n : Nat) : decide (n ^ leN (List.replicate 32 0) % P = 1 % P) = true := by rw [leN_zeros, Nat.pow_zero, decide_eq_true rfl]
section
variable {P : Program} {ops : Array Oper} {C : World → Prop} {W0 : World} {Q : Act → Prop} {o : Oper} {rest : List Oper} {Rs : List (Value → Prop)} {a : Act}
theorem ls_el {g m0 m1 m2 m3 m4 : Nat} (x : Operand) (hE : EBlk W0 g [m0, m1, m2, m3, m4]) (hb : g < W0.heap.size) (ho : o.op = .load 40 x) (hw : Region.wanted o (yielded ops a.tmps) = true) (hx : a.eval x = .pointer (some ⟨g, 0, none⟩))
    (h2 : wpLs Tryd.prog ops (fun w' => Below W0.heap.size W0 w') Q rest Rs (a.put o.dst (E5 m0 m1 m2 m3 m4))) : wpLs Tryd.prog ops (fun w' => Below W0.heap.size W0 w') Q (o :: rest) ((· = E5 m0 m1 m2 m3 m4) :: Rs) a :=
  ls_load 40 x ho g 0 _ _ hE.rng hb Tryd.underlying40 rfl size5 hw hx h2
theorem ls_b32 {g : Nat} {bs : List UInt8} (x : Operand) (hU : UBlk W0 g bs) (hl : bs.length = 32) (hb : g < W0.heap.size) (ho : o.op = .load 22 x) (hw : Region.wanted o (yielded ops a.tmps) = true) (hx : a.eval x = .pointer (some ⟨g, 0, none⟩))
    (h2 : wpLs Tryd.prog ops (fun w' => Below W0.heap.size W0 w') Q rest Rs (a.put o.dst (A32 bs))) : wpLs Tryd.prog ops (fun w' => Below W0.heap.size W0 w') Q (o :: rest) ((· = A32 bs) :: Rs) a :=
  ls_load 22 x ho g 0 _ _ hU.rng hb Tryd.underlying22 rfl (size32' bs hl) hw hx h2
theorem ls_call_el (r : Nat) (f : FuncId) (args : Array Value) (hw : Region.wanted o (yielded ops a.tmps) = true) (he : ∀ W, (execOp a.eval o).run P W = .ok (.enter f args) W)
    (hc : ∀ W, Calls P f args W (ElPost r W)) (h2 : ∀ v, IsEl v r → wpLs P ops (fun w' => Below W0.heap.size W0 w') Q rest Rs (a.put o.dst v)) :
    wpLs P ops (fun w' => Below W0.heap.size W0 w') Q (o :: rest) ((fun v => IsEl v r) :: Rs) a :=
  ls_call _ f args hw he hc h2
end
theorem litZ127 : A32 (fmB 0) = .agg #[.int .u8 0, .int .u8 0, .int .u8 0, .int .u8 0, .int .u8 0, .int .u8 0, .int .u8 0, .int .u8 0, .int .u8 0, .int .u8 0, .int .u8 0, .int .u8 0, .int .u8 0, .int .u8 0, .int .u8 0, .int .u8 0, .int .u8 0, .int .u8 0, .int .u8 0, .int .u8 0, .int .u8 0, .int .u8 0, .int .u8 0, .int .u8 0, .int .u8 0, .int .u8 0, .int .u8 0, .int .u8 0, .int .u8 0, .int .u8 0, .int .u8 0, .int .u8 127] := rfl
theorem setCells_blk {g : Nat} {T : TypeId} {fr : Nat × Nat} : ∀ (vs : List Value) (o : Nat) (W : World) (cs : List Value), W.heap[g]? = some (.cells cs.toArray T fr) → o + vs.length ≤ cs.length →
    (W.setCells g o vs).heap[g]? = some (.cells (cs.take o ++ vs ++ cs.drop (o + vs.length)).toArray T fr)
  | [], o, W, cs, h, _ => by simpa [World.setCells] using h
  | v :: vs, o, W, cs, h, hl => by
    have hlt : o < cs.length := by simp at hl; omega
    have h1 : (W.setCell ⟨g, o, none⟩ v).heap[g]? = some (.cells (cs.set o v).toArray T fr) := by
      simp [World.setCell, Array.getElem?_modify, h]
    have h2 := setCells_blk vs (o + 1) (W.setCell ⟨g, o, none⟩ v) (cs.set o v) h1 (by simp at hl ⊢; omega)
    have hto : (cs.take o).length = o := by simp; omega
    have e : ((cs.set o v).take (o + 1) ++ vs ++ (cs.set o v).drop (o + 1 + vs.length)) = cs.take o ++ (v :: vs) ++ cs.drop (o + (v :: vs).length) := by
      have d1 : (cs.take o).take (o + 1) = cs.take o := List.take_of_length_le (by omega)
      have d2 : (cs.take o).drop (o + 1 + vs.length) = [] := List.drop_of_length_le (by omega)
      rw [List.set_eq_take_append_cons_drop, if_pos hlt, List.take_append, List.drop_append, hto, d1, d2, show o + 1 - o = 1 by omega, show o + 1 + vs.length - o = vs.length + 1 by omega]
      simp [Nat.add_comm, Nat.add_left_comm]
    rw [e] at h2
    exact h2
theorem UBlk.setAll {W : World} {g : Nat} {bs cs : List UInt8} (h : UBlk W g bs) (hl : bs.length = cs.length) : UBlk (W.setCells g 0 (u8s cs)) g cs := by
  have := setCells_blk (u8s cs) 0 W (u8s bs) h (by simp [u8s, hl])
  have hz : (u8s bs).length = 0 + (u8s cs).length := by simp [u8s, hl]
  rw [List.take_zero, List.nil_append, ← hz, List.drop_length, List.append_nil] at this
  exact this
theorem UBlk.new0 (w : World) : UBlk (w.alloc (.cells #[.int .u8 0, .int .u8 0, .int .u8 0, .int .u8 0, .int .u8 0, .int .u8 0, .int .u8 0, .int .u8 0, .int .u8 0, .int .u8 0, .int .u8 0, .int .u8 0, .int .u8 0, .int .u8 0, .int .u8 0, .int .u8 0, .int .u8 0, .int .u8 0, .int .u8 0, .int .u8 0, .int .u8 0, .int .u8 0, .int .u8 0, .int .u8 0, .int .u8 0, .int .u8 0, .int .u8 0, .int .u8 0, .int .u8 0, .int .u8 0, .int .u8 0, .int .u8 0] 22)) w.heap.size (List.replicate 32 0) := heap_alloc_new w _
theorem setCells_other {g g2 : Nat} (hne : g2 ≠ g) : ∀ (vs : List Value) (o : Nat) (W : World), (W.setCells g2 o vs).heap[g]? = W.heap[g]?
  | [], o, W => rfl
  | v :: vs, o, W => by
    have h := setCells_other hne vs (o + 1) (W.setCell ⟨g2, o, none⟩ v)
    have h2 : (W.setCell ⟨g2, o, none⟩ v).heap[g]? = W.heap[g]? := by simp [World.setCell, Array.getElem?_modify, hne]
    exact h.trans h2
theorem EBlk.setAll {W : World} {g : Nat} {ls ms : List Nat} (h : EBlk W g ls) (hl : ls.length = ms.length) : EBlk (W.setCells g 0 (ms.map fun (n : Nat) => Value.int .u64 (n : Int))) g ms := by
  have := setCells_blk (ms.map fun (n : Nat) => Value.int .u64 (n : Int)) 0 W (ls.map fun (n : Nat) => Value.int .u64 (n : Int)) h (by simp [hl])
  have hz : (ls.map fun (n : Nat) => Value.int .u64 (n : Int)).length = 0 + (ms.map fun (n : Nat) => Value.int .u64 (n : Int)).length := by simp [hl]
  rw [List.take_zero, List.nil_append, ← hz, List.drop_length, List.append_nil] at this
  exact this
theorem EBlk.setFar {W : World} {g g2 : Nat} {ls : List Nat} (h : EBlk W g ls) (hne : g2 ≠ g) (vs : List Value) : EBlk (W.setCells g2 0 vs) g ls := (setCells_other hne vs 0 W).trans h
theorem EBlk.there {w : World} {g n : Nat} (h : EBlk w g [0, 0, 0, 0, 0]) (hn : n = 5) : w.there g 0 n := by
  intro j hj
  have hj2 : j < 5 := by omega
  unfold EBlk at h
  rw [Nat.zero_add]
  refine ⟨?_, by simp [World.frozen?, h]⟩
  rw [cell_of_row _ _ _ _ _ _ h]; simp [hj2]
section
variable {ops : Array Oper} {w0 : World} {Lq : Gh → Act → Prop} {o : Oper} {rest : List Oper} {kds : List Kd} {s : Gh} {a : Act}
theorem lg_b32 {g : Nat} {bs : List UInt8} (x : Operand) (hU : UBlk w0 g bs) (hl : bs.length = 32) (hb : g < w0.heap.size) (ho : o.op = .load 22 x) (hw : Region.wanted o (yielded ops a.tmps) = true) (hx : a.eval x = .pointer (some ⟨g, 0, none⟩))
    (h2 : wpG Tryd.prog ops w0 Lq rest kds s (a.put o.dst (A32 bs))) : wpG Tryd.prog ops w0 Lq (o :: rest) (.rel (· = A32 bs) :: kds) s a :=
  lg_load 22 x ho g 0 _ _ hU.rng hb Tryd.underlying22 rfl (size32' bs hl) hw hx h2
theorem lg_call_el (r : Nat) (f : FuncId) (args : Array Value) (hw : Region.wanted o (yielded ops a.tmps) = true) (he : ∀ W, (execOp a.eval o).run Tryd.prog W = .ok (.enter f args) W)
    (hc : ∀ W, Calls Tryd.prog f args W (ElPost r W)) (h2 : ∀ v, IsEl v r → wpG Tryd.prog ops w0 Lq rest kds s (a.put o.dst v)) : wpG Tryd.prog ops w0 Lq (o :: rest) (.rel (fun v => IsEl v r) :: kds) s a :=
  lg_call _ f args hw he hc h2
end
end Go.Proofs.YtkfdclnaaphdgaaDoor
