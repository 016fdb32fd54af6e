/- Layer 4: square roots by the prime, pure. -/
import Derived.Test.YtpdoegfmngibgaaFdN
namespace Go.Proofs.Ytpdoegfmngibgaa
set_option linter.unusedVariables false

/-- The root's first guess; what turns it. -/
def E8 : Nat := 2 ^ 252 - 2
def E4 : Nat := 2 ^ 253 - 5
theorem E8_two : 2 * (4 * E8) = (P - 1) + 4 := by decide +kernel
theorem P_odd : P % 2 = 1 := by decide +kernel
theorem turn_sq : (2 ^ E4 * 2 ^ E4) % P = P - 1 := by
  have h : pm 256 2 (E4 + E4) P = P - 1 := by decide +kernel
  rw [← Nat.pow_add, ← h]
  exact (pm_eq 256 2 (E4 + E4) P (by decide +kernel)).symm
theorem sq_eq {u v : Nat} (h : u * u % P = v * v % P) : u % P = v % P ∨ (u + v) % P = 0 := by
  have key : ∀ u v : Nat, v ≤ u → u * u % P = v * v % P → u % P = v % P ∨ (u + v) % P = 0 := by
    intro u v hle h
    have hd : P ∣ u * u - v * v := dvd_of_mod h (Nat.mul_le_mul hle hle)
    rw [Nat.mul_self_sub_mul_self_eq] at hd
    rcases prmP.mul hd with h1 | h1
    · exact .inr (Nat.mod_eq_zero_of_dvd h1)
    · left
      obtain ⟨k, hk⟩ := h1
      rw [show u = v + P * k by omega, Nat.add_mul_mod_self_left]
  rcases Nat.le_total v u with hle | hle
  · exact key u v hle h
  · rcases key v u hle h.symm with h1 | h1
    · exact .inl h1.symm
    · rw [Nat.add_comm]; exact .inr h1
theorem both_neg {u v w : Nat} (h1 : (u + w) % P = 0) (h2 : (v + w) % P = 0) : u % P = v % P := by
  have key : ∀ u v : Nat, v ≤ u → (u + w) % P = 0 → (v + w) % P = 0 → u % P = v % P := by
    intro u v hle h1 h2
    have hd : P ∣ (u + w) - (v + w) := Nat.dvd_sub (Nat.dvd_of_mod_eq_zero h1) (Nat.dvd_of_mod_eq_zero h2)
    obtain ⟨k, hk⟩ := hd
    rw [show u = v + P * k by omega, Nat.add_mul_mod_self_left]
  rcases Nat.le_total v u with hle | hle
  · exact key u v hle h1 h2
  · exact (key v u hle h2 h1).symm
theorem neg_of_sum {q x : Nat} (h : (q + x) % P = 0) : q % P = (P - x % P) % P := by
  refine both_neg h ?_
  have h1 : x % P < P := mod_lt_P x
  have h2 := Nat.div_add_mod x P
  rw [show P - x % P + x = P * (x / P + 1) by rw [Nat.mul_add]; omega, Nat.mul_mod_right]
/-- A square has a root: the first guess, or the turned one. -/
theorem root_of_square (b : Nat) : (b * b) ^ E8 * (b * b) ^ E8 % P = b * b % P ∨ (b * b) ^ E8 * 2 ^ E4 * ((b * b) ^ E8 * 2 ^ E4) % P = b * b % P := by
  have h4 : ((b * b) ^ E8 * (b * b) ^ E8) * ((b * b) ^ E8 * (b * b) ^ E8) % P = (b * b) * (b * b) % P := by
    have e : ((b * b) ^ E8 * (b * b) ^ E8) * ((b * b) ^ E8 * (b * b) ^ E8) = b ^ (P - 1) * ((b * b) * (b * b)) := by
      have e1 : (b * b) ^ E8 = b ^ (2 * E8) := by rw [← Nat.pow_two, ← Nat.pow_mul]
      have e2 : (b * b) * (b * b) = b ^ 4 := by rw [show (4 : Nat) = 2 + 2 by rfl, Nat.pow_add, Nat.pow_two]
      rw [e1, e2, ← Nat.pow_add, ← Nat.pow_add, ← Nat.pow_add, ← E8_two]
      congr 1
      try omega
    rw [e]
    by_cases hb : P ∣ b
    · obtain ⟨k, rfl⟩ := hb
      rw [show P * k * (P * k) * (P * k * (P * k)) = P * (k * (P * k) * (P * k * (P * k))) by simp only [Nat.mul_assoc], Nat.mul_mod_right, ← Nat.mul_assoc, Nat.mul_comm _ P, Nat.mul_assoc, Nat.mul_mod_right]
    · rw [Nat.mul_mod, prmP.fermat1 hb, Nat.one_mul, Nat.mod_mod]
  rcases sq_eq h4 with h | h
  · exact .inl h
  · right
    refine both_neg (w := (b * b) ^ E8 * (b * b) ^ E8) ?_ (by rw [Nat.add_comm]; exact h)
    generalize (b * b) ^ E8 = x
    have hT : P ∣ 2 ^ E4 * 2 ^ E4 + 1 := by
      refine Nat.dvd_of_mod_eq_zero ?_
      have h1 : 1 % P = 1 := Nat.mod_eq_of_lt (by have : 2 < P := by decide +kernel
                                                  omega)
      have hp : 1 ≤ P := by decide +kernel
      rw [Nat.add_mod, turn_sq, h1, Nat.sub_add_cancel hp, Nat.mod_self]
    obtain ⟨k, hk⟩ := hT
    rw [show x * 2 ^ E4 * (x * 2 ^ E4) + x * x = P * (x * x * k) by
      rw [Nat.mul_mul_mul_comm, show x * x * (2 ^ E4 * 2 ^ E4) + x * x = x * x * (2 ^ E4 * 2 ^ E4 + 1) by rw [Nat.mul_add, Nat.mul_one], hk, Nat.mul_left_comm]]
    exact Nat.mul_mod_right _ _
end Go.Proofs.Ytpdoegfmngibgaa
