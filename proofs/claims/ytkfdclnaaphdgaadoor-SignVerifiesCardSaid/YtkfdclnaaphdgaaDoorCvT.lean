/- Layer 6: so many times the base point as the order says are nothing. -/
import Derived.Test.YtkfdclnaaphdgaaDoorCvG
namespace Go.Proofs.YtkfdclnaaphdgaaDoor

def mulm (a b : Nat) : Nat := a * b % P
def addm (a b : Nat) : Nat := (a + b) % P
def subm (a b : Nat) : Nat := (a + (P - b % P)) % P
theorem fo_mul (a b : Nat) : fo (mulm a b) = fo a * fo b := F.ext (by rw [F.mul_val, fo_val, fo_val, fo_val, mulm, Nat.mod_mod, ← Nat.mul_mod])
theorem fo_add (a b : Nat) : fo (addm a b) = fo a + fo b := F.ext (by rw [F.add_val, fo_val, fo_val, fo_val, addm, Nat.mod_mod, ← Nat.add_mod])
theorem fo_sub (a b : Nat) : fo (subm a b) = fo a - fo b := F.ext (by
  rw [F.sub_val, fo_val, fo_val, fo_val, subm, Nat.mod_mod]
  have hb : b % P < P := Nat.mod_lt _ (by decide +kernel)
  generalize b % P = c at *
  rw [Nat.mod_eq_of_lt hb, Nat.mod_add_mod])
/-- A number is made before it is used. -/
def frc (n : Nat) (k : Nat → Bool) : Bool := match n with
  | 0 => k 0
  | m + 1 => k (m + 1)
theorem frc_eq (n : Nat) (k : Nat → Bool) : frc n k = k n := by cases n <;> rfl
def bxN : Nat := 15112221349535400772501151409588531511454012693041857206046113283949847762202
def byN : Nat := 46316835694926478169428394003475163141307993866256225615783033603165251855960
def dN : Nat := 37095705934669439343138083508754565189542113879843219016388785533085940283555
def tE (X Y : Nat) : Nat := subm (mulm (addm X Y) (addm X Y)) (addm (mulm X X) (mulm Y Y))
def tG (X Y : Nat) : Nat := subm (mulm Y Y) (mulm X X)
def tF (X Y Z : Nat) : Nat := subm (subm (tG X Y) (mulm Z Z)) (mulm Z Z)
def tH (X Y : Nat) : Nat := subm 0 (addm (mulm X X) (mulm Y Y))
def aE (X Y : Nat) : Nat := subm (mulm (addm X Y) (addm bxN byN)) (addm (mulm X bxN) (mulm Y byN))
def aT (T : Nat) : Nat := mulm (mulm T (mulm bxN byN)) dN
def aF (Z T : Nat) : Nat := subm (mulm Z 1) (aT T)
def aG (Z T : Nat) : Nat := addm (mulm Z 1) (aT T)
def aH (X Y : Nat) : Nat := addm (mulm Y byN) (mulm X bxN)
def ladN (e : Nat) (fin : Nat → Nat → Nat → Nat → Bool) : Nat → Nat → Nat → Nat → Nat → Bool
  | 0, X, Y, Z, T => fin X Y Z T
  | k + 1, X, Y, Z, T =>
    frc (tE X Y) fun E => frc (tF X Y Z) fun Fv => frc (tG X Y) fun G => frc (tH X Y) fun H =>
    frc (mulm E Fv) fun X1 => frc (mulm G H) fun Y1 => frc (mulm Fv G) fun Z1 => frc (mulm E H) fun T1 =>
    cond (Nat.beq (e / 2 ^ k % 2) 1)
      (frc (aE X1 Y1) fun E => frc (aF Z1 T1) fun Fv => frc (aG Z1 T1) fun G => frc (aH X1 Y1) fun H =>
        frc (mulm E Fv) fun X2 => frc (mulm G H) fun Y2 => frc (mulm Fv G) fun Z2 => frc (mulm E H) fun T2 => ladN e fin k X2 Y2 Z2 T2)
      (ladN e fin k X1 Y1 Z1 T1)
theorem twiceN {X Y Z T : Nat} {p : Pt} (h : Rep (fo X) (fo Y) (fo Z) (fo T) p) : Rep (fo (mulm (tE X Y) (tF X Y Z))) (fo (mulm (tG X Y) (tH X Y))) (fo (mulm (tF X Y Z) (tG X Y))) (fo (mulm (tE X Y) (tH X Y))) (p.add p) := by
  have h2 := h.twice
  have hz : fo 0 = 0 := by decide +kernel
  simp only [fo_mul, fo_add, fo_sub, tE, tF, tG, tH, hz, sub_from_zero]
  exact h2
theorem sumLad {X Y Z T : Nat} {p : Pt} (h : Rep (fo X) (fo Y) (fo Z) (fo T) p) : Rep (fo (mulm (aE X Y) (aF Z T))) (fo (mulm (aG Z T) (aH X Y))) (fo (mulm (aF Z T) (aG Z T))) (fo (mulm (aE X Y) (aH X Y))) (p.add baseP) := by
  have hb : Rep (fo bxN) (fo byN) (fo 1) (fo bxN * fo byN) baseP := by
    have h1 : fo 1 = 1 := by decide +kernel
    rw [h1]
    exact Rep.aff rfl rfl
  have h2 := h.sum hb
  have hd : fo dN = dF := rfl
  simp only [fo_mul, fo_add, fo_sub, aE, aF, aG, aH, aT, hd]
  exact h2
theorem ladN_spec (e : Nat) (fin : Nat → Nat → Nat → Nat → Bool) : ∀ (k X Y Z T n : Nat), Rep (fo X) (fo Y) (fo Z) (fo T) (Pt.times n baseP) → ladN e fin k X Y Z T = true →
    ∃ X' Y' Z' T', Rep (fo X') (fo Y') (fo Z') (fo T') (Pt.times (n * 2 ^ k + e % 2 ^ k) baseP) ∧ fin X' Y' Z' T' = true
  | 0, X, Y, Z, T, n, h, hl => ⟨X, Y, Z, T, by rw [Nat.pow_zero, Nat.mul_one, Nat.mod_one, Nat.add_zero]; exact h, hl⟩
  | k + 1, X, Y, Z, T, n, h, hl => by
    have h1 := twiceN h
    rw [← Pt.times_add] at h1
    rw [ladN] at hl
    simp only [frc_eq] at hl
    have hm : e % 2 ^ (k + 1) = e % 2 ^ k + 2 ^ k * (e / 2 ^ k % 2) := by rw [Nat.pow_succ, Nat.mod_mul]
    have hp : n * 2 ^ (k + 1) = (n + n) * 2 ^ k := by rw [Nat.pow_succ, Nat.mul_comm (2 ^ k) 2, ← Nat.mul_assoc]; congr 1; omega
    cases hc : Nat.beq (e / 2 ^ k % 2) 1 with
    | true =>
      rw [hc, cond_true] at hl
      have hc1 := Nat.eq_of_beq_eq_true hc
      have h2 := sumLad h1
      have h3 : Pt.add (Pt.times (n + n) baseP) baseP = Pt.times (n + n + 1) baseP := rfl
      rw [h3] at h2
      have h4 := ladN_spec e fin k _ _ _ _ _ h2 hl
      rw [Nat.add_mul, Nat.one_mul] at h4
      rwa [hm, hp, hc1, Nat.mul_one, Nat.add_comm (e % 2 ^ k), ← Nat.add_assoc]
    | false =>
      rw [hc, cond_false] at hl
      have hc1 : e / 2 ^ k % 2 = 0 := by
        have := Nat.ne_of_beq_eq_false hc
        omega
      have h4 := ladN_spec e fin k _ _ _ _ _ h1 hl
      rwa [hm, hp, hc1, Nat.mul_zero, Nat.add_zero]
def LB : Nat := 7237005577332262213973186563042994240857116359379907606001950938285454250989
def isO (X Y Z _T : Nat) : Bool := Nat.beq (X % P) 0 && Nat.beq (Y % P) (Z % P)
theorem base_order : Pt.times LB baseP = Pt.zero := by
  have h0 : Rep (fo 0) (fo 1) (fo 1) (fo 0) (Pt.times 0 baseP) := by
    have := Rep.aff (p := Pt.zero) (x := 0) (y := 1) rfl rfl
    rw [Fin.mul_one] at this
    exact this
  have hl : ladN LB isO 253 0 1 1 0 = true := by decide +kernel
  obtain ⟨X, Y, Z, T, hr, hf⟩ := ladN_spec LB isO 253 0 1 1 0 0 h0 hl
  rw [Nat.zero_mul, Nat.zero_add, show LB % 2 ^ 253 = LB by decide +kernel] at hr
  unfold isO at hf
  rw [Bool.and_eq_true] at hf
  have hx : fo X = 0 := F.ext (by rw [fo_val, Nat.eq_of_beq_eq_true hf.1]; decide +kernel)
  have hyz : fo Y = fo Z := F.ext (by rw [fo_val, fo_val, Nat.eq_of_beq_eq_true hf.2])
  have hz : Rep 0 1 1 0 Pt.zero := by
    have := Rep.aff (p := Pt.zero) (x := 0) (y := 1) rfl rfl
    rwa [Fin.mul_one] at this
  refine (hr.same hz).1 ⟨?_, ?_⟩
  · rw [hx, Fin.zero_mul, Fin.zero_mul]
  · rw [hyz, Fin.mul_one, Fin.one_mul]
/-- Only the rest by the order counts. -/
theorem base_rest (n : Nat) : Pt.times n baseP = Pt.times (n % LB) baseP := by
  have h : n = LB * (n / LB) + n % LB := (Nat.div_add_mod n LB).symm
  have h2 : Pt.times (LB * (n / LB)) baseP = Pt.zero := by
    rw [Nat.mul_comm, Pt.times_mul, base_order, Pt.times_zero]
  calc Pt.times n baseP = Pt.times (LB * (n / LB) + n % LB) baseP := congrArg (Pt.times · baseP) h
    _ = _ := by rw [Pt.times_add, h2, Pt.zero_add]
end Go.Proofs.YtkfdclnaaphdgaaDoor
