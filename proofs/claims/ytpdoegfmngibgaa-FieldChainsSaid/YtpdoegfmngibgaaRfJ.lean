/- Layer 4: the document's products, pure. -/
import Derived.Test.YtpdoegfmngibgaaRfE
namespace Go.Proofs.Ytpdoegfmngibgaa
open Go.ChangeShapes Go.WideShapes Go.ChangeAt Go.RowKit Go.IntWalk
set_option linter.unusedVariables false

/-- What is added to place m of the row of products. -/
def addAt (t : List Int) (m : Nat) (x : Int) : List Int := t.set m (t.getD m 0 + x)
theorem addAt_len (t : List Int) (m : Nat) (x : Int) : (addAt t m x).length = t.length := by simp [addAt]
theorem valD_set : ∀ (t : List Int) (m : Nat) (x : Int), m < t.length → valD (t.set m (t.getD m 0 + x)) = valD t + 65536 ^ m * x
  | [], m, x, h => by simp at h
  | d :: t, 0, x, _ => by simp [valD]; omega
  | d :: t, m + 1, x, h => by
    have ih := valD_set t m x (by simpa using h)
    simp only [List.set_cons_succ, List.getD_cons_succ, valD, ih, Int.pow_succ]
    rw [Int.mul_add, show (65536 : Int) ^ m * 65536 * x = 65536 * (65536 ^ m * x) by rw [Int.mul_comm (65536 ^ m) 65536, Int.mul_assoc]]
    omega
theorem valD_addAt (t : List Int) (m : Nat) (x : Int) (h : m < t.length) : valD (addAt t m x) = valD t + 65536 ^ m * x := valD_set t m x h
/-- A row of products: behind j of the second's digits. -/
def rowF (t : List Int) (a : Int) (i : Nat) : List Int → Nat → List Int
  | [], _ => t
  | b :: bs, k => rowF (addAt t (i + k) (a * b)) a i bs (k + 1)
theorem rowF_len : ∀ (bs t : List Int) (a : Int) (i k : Nat), (rowF t a i bs k).length = t.length
  | [], t, a, i, k => rfl
  | b :: bs, t, a, i, k => by rw [rowF, rowF_len, addAt_len]
theorem rowF_val : ∀ (bs t : List Int) (a : Int) (i k : Nat), i + k + bs.length ≤ t.length → valD (rowF t a i bs k) = valD t + 65536 ^ (i + k) * (a * valD bs)
  | [], t, a, i, k, h => by simp [rowF, valD]
  | b :: bs, t, a, i, k, h => by
    have h' : i + k + (bs.length + 1) ≤ t.length := h
    rw [rowF, rowF_val bs _ a i (k + 1) (by rw [addAt_len]; omega), valD_addAt _ _ _ (by omega), valD, show i + (k + 1) = i + k + 1 by omega, Int.pow_succ]
    rw [Int.mul_add a, Int.mul_add, show a * (65536 * valD bs) = 65536 * (a * valD bs) by rw [← Int.mul_assoc, Int.mul_comm a, Int.mul_assoc], Int.mul_assoc]
    omega
def prodF (t : List Int) (ys : List Int) : List Int → Nat → List Int
  | [], _ => t
  | a :: xs, i => prodF (rowF t a i ys 0) ys xs (i + 1)
theorem prodF_len : ∀ (xs t ys : List Int) (i : Nat), (prodF t ys xs i).length = t.length
  | [], t, ys, i => rfl
  | a :: xs, t, ys, i => by rw [prodF, prodF_len, rowF_len]
theorem prodF_val : ∀ (xs t ys : List Int) (i : Nat), i + xs.length + ys.length ≤ t.length + 1 → valD (prodF t ys xs i) = valD t + 65536 ^ i * (valD xs * valD ys)
  | [], t, ys, i, h => by simp [prodF, valD]
  | a :: xs, t, ys, i, h => by
    have h' : i + (xs.length + 1) + ys.length ≤ t.length + 1 := h
    rw [prodF, prodF_val xs _ ys (i + 1) (by rw [rowF_len]; omega), rowF_val ys t a i 0 (by omega), valD, Int.pow_succ, Nat.add_zero]
    rw [Int.add_mul a, Int.mul_add (65536 ^ i), show 65536 * valD xs * valD ys = 65536 * (valD xs * valD ys) by rw [Int.mul_assoc], Int.mul_assoc (65536 ^ i) 65536]
    omega
/-- How great what is added up can be. -/
def Bnds (B : Int) (t : List Int) : Prop := ∀ x ∈ t, -B ≤ x ∧ x ≤ B
theorem addAt_bnd {B C : Int} {t : List Int} {m : Nat} {x : Int} (h : Bnds B t) (hm : m < t.length) (hx : -C ≤ x ∧ x ≤ C) (hC : 0 ≤ C) : Bnds (B + C) (addAt t m x) := by
  intro y hy
  have hg := h (t.getD m 0) (by rw [List.getD_eq_getElem?_getD, List.getElem?_eq_getElem hm]; exact List.getElem_mem _)
  unfold addAt at hy
  rcases List.mem_or_eq_of_mem_set hy with hy | rfl
  · have := h y hy; omega
  · omega
theorem mul_bnd {a b : Int} (ha : -262144 ≤ a ∧ a ≤ 262144) (hb : -262144 ≤ b ∧ b ≤ 262144) : -68719476736 ≤ a * b ∧ a * b ≤ 68719476736 := by
  have h1 := Int.mul_nonneg (show 0 ≤ 262144 - a by omega) (show 0 ≤ 262144 - b by omega)
  have h2 := Int.mul_nonneg (show 0 ≤ 262144 + a by omega) (show 0 ≤ 262144 + b by omega)
  have h3 := Int.mul_nonneg (show 0 ≤ 262144 - a by omega) (show 0 ≤ 262144 + b by omega)
  have h4 := Int.mul_nonneg (show 0 ≤ 262144 + a by omega) (show 0 ≤ 262144 - b by omega)
  simp only [Int.mul_sub, Int.mul_add, Int.sub_mul, Int.add_mul] at h1 h2 h3 h4
  generalize a * b = p at *
  omega
/-- The upper half is folded onto the lower. -/
def foldD (t : List Int) (k : Nat) : List Int := (List.range 16).map fun i => if i < k then (if i < 15 then t.getD i 0 + 38 * t.getD (i + 16) 0 else t.getD i 0) else 0
theorem foldD_len (t : List Int) (k : Nat) : (foldD t k).length = 16 := by simp [foldD]
theorem foldD_set (t : List Int) (k : Nat) (h : k < 16) : (foldD t k).set k (if k < 15 then t.getD k 0 + 38 * t.getD (k + 16) 0 else t.getD k 0) = foldD t (k + 1) := by
  apply List.ext_getElem?
  intro i
  rw [List.getElem?_set]
  by_cases e : k = i
  · subst e; simp [foldD, h]
  · rw [if_neg e]
    by_cases hi : i < 16
    · by_cases h1 : i < k
      · simp [foldD, hi, h1, Nat.lt_succ_of_lt h1]
      · simp [foldD, hi, h1, show ¬ i < k + 1 by omega]
    · simp [foldD, hi]
theorem foldD_val (t : List Int) (h : t.length = 31) : (valD (foldD t 16)) % (P : Int) = valD t % (P : Int) := by
  match t, h with
  | [t0, t1, t2, t3, t4, t5, t6, t7, t8, t9, t10, t11, t12, t13, t14, t15, t16, t17, t18, t19, t20, t21, t22, t23, t24, t25, t26, t27, t28, t29, t30], _ =>
    have e : valD [t0, t1, t2, t3, t4, t5, t6, t7, t8, t9, t10, t11, t12, t13, t14, t15, t16, t17, t18, t19, t20, t21, t22, t23, t24, t25, t26, t27, t28, t29, t30] =
      valD [t0 + 38 * t16, t1 + 38 * t17, t2 + 38 * t18, t3 + 38 * t19, t4 + 38 * t20, t5 + 38 * t21, t6 + 38 * t22, t7 + 38 * t23, t8 + 38 * t24, t9 + 38 * t25, t10 + 38 * t26, t11 + 38 * t27, t12 + 38 * t28, t13 + 38 * t29, t14 + 38 * t30, t15] +
        (P : Int) * (2 * valD [t16, t17, t18, t19, t20, t21, t22, t23, t24, t25, t26, t27, t28, t29, t30]) := by
      have hp : (P : Int) = 57896044618658097711785492504343953926634992332820282019728792003956564819949 := by decide +kernel
      rw [hp]
      simp only [valD]
      omega
    show valD [t0 + 38 * t16, t1 + 38 * t17, t2 + 38 * t18, t3 + 38 * t19, t4 + 38 * t20, t5 + 38 * t21, t6 + 38 * t22, t7 + 38 * t23, t8 + 38 * t24, t9 + 38 * t25, t10 + 38 * t26, t11 + 38 * t27, t12 + 38 * t28, t13 + 38 * t29, t14 + 38 * t30, t15] % (P : Int) = _
    rw [e, Int.add_mul_emod_self_left]
end Go.Proofs.Ytpdoegfmngibgaa
