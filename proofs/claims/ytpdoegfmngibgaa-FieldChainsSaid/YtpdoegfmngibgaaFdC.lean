/- Layer 4: sums of products in two words. -/
import Derived.Test.YtpdoegfmngibgaaFdB
import Derived.Test.YtpdoegfmngibgaaShelf
namespace Go.Proofs.Ytpdoegfmngibgaa
open Go.ChangeShapes Go.WideShapes Go.ChangeAt Go.RowKit Go.IntWalk
set_option linter.unusedVariables false

/-- A number in two words. -/
def W2 (n : Nat) : Value := .agg #[.int .u64 ((n / 2 ^ 64 : Nat) : Int), .int .u64 ((n % 2 ^ 64 : Nat) : Int)]
def WPost (n : Nat) (w : World) (e : Ending) (w' : World) : Prop := e = .returned (W2 n) ∧ Below w.heap.size w w'

theorem add64_run (x y c : Nat) (hc : c ≤ 1) (w : World) :
    (callFunc 48 #[.int .u64 (x : Int), .int .u64 (y : Int), .int .u64 (c : Int)]).run Try.prog w =
      .ok (.value (.tuple #[.int .u64 (((x + y + c) % 18446744073709551616 : Nat) : Int), .int .u64 (((x + y + c) / 18446744073709551616 : Nat) : Int)])) w := by
  rw [run_callFunc_extern Try.func48 (by kernel_rfl) (by kernel_rfl) (by kernel_rfl) (e := add64Entry) (by kernel_rfl), run_add64 x y c (by omega) (by omega) (by omega) (by omega)]
  simp only [Result.andThen]
  congr 5 <;> omega

set_option maxHeartbeats 2000000 in
theorem plus_calls (n a b : Nat) (w : World) (ha : a < 2 ^ 64) (hb : b < 2 ^ 64) (hn : n + a * b < 2 ^ 128) :
    Calls Try.prog 40 #[W2 n, .int .u64 (a : Int), .int .u64 (b : Int)] w (WPost (n + a * b) w) := by
  unfold W2
  obtain ⟨h, hh⟩ : ∃ h, n / 2 ^ 64 = h := ⟨_, rfl⟩
  obtain ⟨l, hl⟩ : ∃ l, n % 2 ^ 64 = l := ⟨_, rfl⟩
  rw [hh, hl]
  have HM : Hid (∀ W : World, Calls Try.prog 47 #[.int .u64 (a : Int), .int .u64 (b : Int)] W fun e w' => e = .returned (.tuple #[.int .u64 ((a * b / 18446744073709551616 : Nat) : Int), .int .u64 ((a * b % 18446744073709551616 : Nat) : Int)]) ∧ w' = W) :=
    fun W => Try.bits_Mul64 a b (by omega) (by omega) W
  obtain ⟨p, hp⟩ : ∃ p, a * b / 18446744073709551616 = p := ⟨_, rfl⟩
  obtain ⟨q, hq⟩ : ∃ q, a * b % 18446744073709551616 = q := ⟨_, rfl⟩
  rw [hp, hq] at HM
  have g0 : ∀ W : World, (callFunc 48 #[.int .u64 (q : Int), .int .u64 (l : Int), .int .u64 0]).run Try.prog W = _ := fun W => add64_run q l 0 (by omega) W
  obtain ⟨s, hs⟩ : ∃ s, (q + l + 0) % 18446744073709551616 = s := ⟨_, rfl⟩
  obtain ⟨c, hc⟩ : ∃ c, (q + l + 0) / 18446744073709551616 = c := ⟨_, rfl⟩
  rw [hs, hc] at g0
  have hc1 : c ≤ 1 := by omega
  have g1 : ∀ W : World, (callFunc 48 #[.int .u64 (p : Int), .int .u64 (h : Int), .int .u64 (c : Int)]).run Try.prog W = _ := fun W => add64_run p h c hc1 W
  obtain ⟨s1, hs1⟩ : ∃ s, (p + h + c) % 18446744073709551616 = s := ⟨_, rfl⟩
  obtain ⟨c1, hc2⟩ : ∃ s, (p + h + c) / 18446744073709551616 = s := ⟨_, rfl⟩
  rw [hs1, hc2] at g1
  have HE : Hid (W2 (n + a * b) = .agg #[.int .u64 (s1 : Int), .int .u64 (s : Int)]) := by
    show _ = _
    generalize a * b = m at *
    unfold W2
    rw [show (n + m) / 2 ^ 64 = s1 by omega, show (n + m) % 2 ^ 64 = s by omega]
  clear hh hl hp hq ha hb hn hs hc hc1 hs1 hc2
  go_enter Try.func40, Try.ntmps40
  go_wp2_with fail
  refine (HM.out _).mono ?_
  rintro e w1 ⟨rfl, rfl⟩
  go_wp2
  exact bodyPost_ret (v := .agg #[.int .u64 (s1 : Int), .int .u64 (s : Int)]) (by simp [results, Try.results40, go_sem]) rfl
    ⟨by rw [HE.out], ((Below.refl _ _).alloc (Nat.le_refl _) _).alloc (by simp) _⟩

set_option maxHeartbeats 2000000 in
theorem above_calls (n : Nat) (w : World) (hn : n < 2 ^ 115) :
    Calls Try.prog 41 #[W2 n] w fun e w' => e = .returned (.int .u64 ((n / 2 ^ 51 : Nat) : Int)) ∧ Below w.heap.size w w' := by
  unfold W2
  obtain ⟨h, hh⟩ : ∃ h, n / 2 ^ 64 = h := ⟨_, rfl⟩
  obtain ⟨l, hl⟩ : ∃ l, n % 2 ^ 64 = l := ⟨_, rfl⟩
  rw [hh, hl]
  go_enter Try.func41, Try.ntmps41
  have ho : bits .or .u64 ((h : Int) * 8192) ((l : Int) / 2251799813685248) = ((n / 2 ^ 51 : Nat) : Int) := by
    have h1 := (bits_nat .u64 64 (by decide) wraps_u64 (h * 8192) (l / 2251799813685248) (by omega) (by omega)).2
    have e1 : ((h * 8192 : Nat) : Int) = (h : Int) * 8192 := by omega
    have e2 : ((l / 2251799813685248 : Nat) : Int) = (l : Int) / 2251799813685248 := by omega
    rw [e1, e2] at h1
    rw [h1]
    have h2 := Nat.shiftLeft_add_eq_or_of_lt (i := 13) (b := l / 2251799813685248) (by omega) h
    rw [Nat.shiftLeft_eq] at h2
    rw [show h * 8192 = h * 2 ^ 13 from rfl, ← h2]
    congr 1; omega
  have hw : IntKind.u64.wrap ((h : Int) * 8192) = (h : Int) * 8192 := wraps_u64 _ (by omega) (by omega)
  clear hh hl hn
  go_wp2
  go_ret
  exact ⟨rfl, (Below.refl _ _).alloc (Nat.le_refl _) _⟩

/-! The product of five limbs and five limbs. -/
def n0 (a0 a1 a2 a3 a4 b0 b1 b2 b3 b4 : Nat) : Nat := 0 + a0 * b0 + 19 * a1 * b4 + 19 * a2 * b3 + 19 * a3 * b2 + 19 * a4 * b1
def n1 (a0 a1 a2 a3 a4 b0 b1 b2 b3 b4 : Nat) : Nat := 0 + a0 * b1 + a1 * b0 + 19 * a2 * b4 + 19 * a3 * b3 + 19 * a4 * b2
def n2 (a0 a1 a2 a3 a4 b0 b1 b2 b3 b4 : Nat) : Nat := 0 + a0 * b2 + a1 * b1 + a2 * b0 + 19 * a3 * b4 + 19 * a4 * b3
def n3 (a0 a1 a2 a3 a4 b0 b1 b2 b3 b4 : Nat) : Nat := 0 + a0 * b3 + a1 * b2 + a2 * b1 + a3 * b0 + 19 * a4 * b4
def n4 (a0 a1 a2 a3 a4 b0 b1 b2 b3 b4 : Nat) : Nat := 0 + a0 * b4 + a1 * b3 + a2 * b2 + a3 * b1 + a4 * b0
theorem val5_mul (a0 a1 a2 a3 a4 b : Nat) : val5 a0 a1 a2 a3 a4 * b = val5 (a0 * b) (a1 * b) (a2 * b) (a3 * b) (a4 * b) := by
  unfold val5; simp only [Nat.add_mul, Nat.mul_assoc]
theorem mul_val (a0 a1 a2 a3 a4 b0 b1 b2 b3 b4 : Nat) : val5 a0 a1 a2 a3 a4 * val5 b0 b1 b2 b3 b4 =
    val5 (n0 a0 a1 a2 a3 a4 b0 b1 b2 b3 b4) (n1 a0 a1 a2 a3 a4 b0 b1 b2 b3 b4) (n2 a0 a1 a2 a3 a4 b0 b1 b2 b3 b4) (n3 a0 a1 a2 a3 a4 b0 b1 b2 b3 b4) (n4 a0 a1 a2 a3 a4 b0 b1 b2 b3 b4) +
      P * (a1 * b4 + a2 * b3 + a3 * b2 + a4 * b1 + 2 ^ 51 * (a2 * b4 + a3 * b3 + a4 * b2) + 2 ^ 102 * (a3 * b4 + a4 * b3) + 2 ^ 153 * (a4 * b4)) := by
  have e : val5 a0 a1 a2 a3 a4 * val5 b0 b1 b2 b3 b4 = val5 a0 a1 a2 a3 a4 * b0 + 2 ^ 51 * (val5 a0 a1 a2 a3 a4 * b1) + 2 ^ 102 * (val5 a0 a1 a2 a3 a4 * b2) + 2 ^ 153 * (val5 a0 a1 a2 a3 a4 * b3) + 2 ^ 204 * (val5 a0 a1 a2 a3 a4 * b4) := by
    conv => lhs; unfold val5; rw [show b0 + 2 ^ 51 * b1 + 2 ^ 102 * b2 + 2 ^ 153 * b3 + 2 ^ 204 * b4 = b0 + 2 ^ 51 * b1 + 2 ^ 102 * b2 + 2 ^ 153 * b3 + 2 ^ 204 * b4 from rfl]
    show val5 a0 a1 a2 a3 a4 * (b0 + 2 ^ 51 * b1 + 2 ^ 102 * b2 + 2 ^ 153 * b3 + 2 ^ 204 * b4) = _
    rw [Nat.mul_add, Nat.mul_add, Nat.mul_add, Nat.mul_add]
    rw [Nat.mul_left_comm _ (2 ^ 51), Nat.mul_left_comm _ (2 ^ 102), Nat.mul_left_comm _ (2 ^ 153), Nat.mul_left_comm _ (2 ^ 204)]
  rw [e, val5_mul, val5_mul, val5_mul, val5_mul, val5_mul]
  unfold n0 n1 n2 n3 n4
  simp only [Nat.mul_assoc 19]
  generalize a0 * b0 = p00
  generalize a0 * b1 = p01
  generalize a0 * b2 = p02
  generalize a0 * b3 = p03
  generalize a0 * b4 = p04
  generalize a1 * b0 = p10
  generalize a1 * b1 = p11
  generalize a1 * b2 = p12
  generalize a1 * b3 = p13
  generalize a1 * b4 = p14
  generalize a2 * b0 = p20
  generalize a2 * b1 = p21
  generalize a2 * b2 = p22
  generalize a2 * b3 = p23
  generalize a2 * b4 = p24
  generalize a3 * b0 = p30
  generalize a3 * b1 = p31
  generalize a3 * b2 = p32
  generalize a3 * b3 = p33
  generalize a3 * b4 = p34
  generalize a4 * b0 = p40
  generalize a4 * b1 = p41
  generalize a4 * b2 = p42
  generalize a4 * b3 = p43
  generalize a4 * b4 = p44
  unfold val5 P
  omega
end Go.Proofs.Ytpdoegfmngibgaa
