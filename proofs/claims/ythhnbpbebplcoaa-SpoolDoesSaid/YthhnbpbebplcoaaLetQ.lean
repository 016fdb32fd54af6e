/- Letters, as plain functions: what the reference's Decode comes to. No program is named. -/
import Derived.Test.YthhnbpbebplcoaaLetP
namespace Go.Proofs.Ythhnbpbebplcoaa
set_option linter.unusedVariables false

theorem numF_letB (u : Bool) : ∀ n, n < 64 → numF u (letB u n).toNat = some n := by
  cases u <;> decide
set_option maxRecDepth 100000 in
theorem letB_numF_all (u : Bool) : ∀ c : Fin 256, ((numF u (c.val : Nat)).all fun d => letB u d == UInt8.ofNat c.val) = true := by
  cases u <;> decide
theorem letB_numF (u : Bool) (c : UInt8) (d : Nat) (h : numF u c.toNat = some d) : letB u d = c := by
  have h1 := letB_numF_all u ⟨c.toNat, c.toNat_lt⟩
  rw [h] at h1
  simpa using h1

theorem accD_digit (u : Bool) (l : List UInt8) : ∀ k, k ≤ l.length → ∀ j, j < k → accD u (l.take k) / 2 ^ (6 * (k - 1 - j)) % 64 = (numF u (l.getD j 0).toNat).getD 0 := by
  intro k
  induction k with
  | zero => intro _ j hj; omega
  | succ k ih =>
    intro hk j hj
    rw [accD_take u l k (by omega)]
    have hb : (numF u (l.getD k 0).toNat).getD 0 < 64 := by
      cases h : numF u (l.getD k 0).toNat with
      | none => simp
      | some d => have := numF_lt u _ d h; simp; omega
    by_cases hjk : j = k
    · subst hjk
      rw [show 6 * (j + 1 - 1 - j) = 0 from by omega]
      omega
    · rw [← ih (by omega) j (by omega), show 6 * (k + 1 - 1 - j) = 6 + 6 * (k - 1 - j) from by omega, Nat.pow_add, ← Nat.div_div_eq_div_mul]
      congr 2
      omega

/-- The bit at place p of letters that are the number A, m of them. -/
def bitD (m A p : Nat) : Nat := A / 2 ^ (6 * m - 1 - p) % 2
theorem bitD_digit (u : Bool) (bs : List UInt8) (i k d : Nat) (hi : i < bs.length) (hk : k < 6) (hd : numF u (bs.getD i 0).toNat = some d) :
    bitD bs.length (accD u bs) (6 * i + k) = d / 2 ^ (5 - k) % 2 := by
  have h := accD_digit u bs bs.length (Nat.le_refl _) i hi
  rw [List.take_length, hd] at h
  simp only [Option.getD_some] at h
  unfold bitD
  rw [show 6 * bs.length - 1 - (6 * i + k) = 6 * (bs.length - 1 - i) + (5 - k) from by omega, Nat.pow_add, ← Nat.div_div_eq_div_mul]
  generalize accD u bs / 2 ^ (6 * (bs.length - 1 - i)) = x at *
  subst h
  obtain ⟨e, he⟩ : ∃ e, 5 - k = e := ⟨_, rfl⟩
  rw [he]
  obtain rfl | rfl | rfl | rfl | rfl | rfl : e = 0 ∨ e = 1 ∨ e = 2 ∨ e = 3 ∨ e = 4 ∨ e = 5 := by omega
  all_goals omega

/-- Byte j when the first p bits have been laid. -/
def laid (m A j p : Nat) : Nat := if p ≤ 8 * j then 0 else if 8 * j + 8 ≤ p then A / 2 ^ (6 * m - 8 * j - 8) % 256 else A / 2 ^ (6 * m - p) % 2 ^ (p - 8 * j) * 2 ^ (8 * j + 8 - p)
theorem laid_zero (m A j : Nat) : laid m A j 0 = 0 := by unfold laid; rw [if_pos (by omega)]
theorem laid_lt (m A j p : Nat) : laid m A j p < 256 := by
  unfold laid
  split
  · omega
  · split
    · omega
    · rename_i h1 h2
      have : A / 2 ^ (6 * m - p) % 2 ^ (p - 8 * j) < 2 ^ (p - 8 * j) := Nat.mod_lt _ (Nat.two_pow_pos _)
      calc A / 2 ^ (6 * m - p) % 2 ^ (p - 8 * j) * 2 ^ (8 * j + 8 - p) < 2 ^ (p - 8 * j) * 2 ^ (8 * j + 8 - p) := Nat.mul_lt_mul_of_pos_right this (Nat.two_pow_pos _)
        _ = 256 := by rw [← Nat.pow_add, show p - 8 * j + (8 * j + 8 - p) = 8 from by omega]
theorem laid_other (m A j p : Nat) (h : j ≠ p / 8) : laid m A j (p + 1) = laid m A j p := by
  unfold laid
  by_cases h1 : p + 1 ≤ 8 * j
  · rw [if_pos h1, if_pos (by omega)]
  · rw [if_neg h1, if_neg (show ¬ p ≤ 8 * j from by omega), if_pos (show 8 * j + 8 ≤ p + 1 from by omega), if_pos (show 8 * j + 8 ≤ p from by omega)]

theorem laid_here (m A p : Nat) (hp : p < 6 * m) : laid m A (p / 8) (p + 1) = laid m A (p / 8) p + bitD m A p * 2 ^ (7 - p % 8) ∧ laid m A (p / 8) p % 2 ^ (8 - p % 8) = 0 := by
  obtain ⟨e, he⟩ : ∃ e, p % 8 = e := ⟨_, rfl⟩
  obtain ⟨j, hj⟩ : ∃ j, p / 8 = j := ⟨_, rfl⟩
  have hpe : p = 8 * j + e := by omega
  have he8 : e < 8 := by omega
  rw [he, hj]
  have hx : A / 2 ^ (6 * m - p) = A / 2 ^ (6 * m - 1 - p) / 2 := by
    rw [Nat.div_div_eq_div_mul, show 6 * m - p = 6 * m - 1 - p + 1 from by omega, Nat.pow_succ]
  unfold laid bitD
  rw [if_neg (show ¬ p + 1 ≤ 8 * j from by omega)]
  by_cases h0 : e = 0
  · subst h0
    rw [if_pos (show p ≤ 8 * j from by omega), if_neg (show ¬ 8 * j + 8 ≤ p + 1 from by omega)]
    rw [show p + 1 - 8 * j = 1 from by omega, show 8 * j + 8 - (p + 1) = 7 from by omega, show 6 * m - (p + 1) = 6 * m - 1 - p from by omega]
    omega
  · rw [if_neg (show ¬ p ≤ 8 * j from by omega), if_neg (show ¬ 8 * j + 8 ≤ p from by omega)]
    rw [hx, show p - 8 * j = e from by omega, show 8 * j + 8 - p = 8 - e from by omega]
    by_cases h7 : e = 7
    · subst h7
      rw [if_pos (show 8 * j + 8 ≤ p + 1 from by omega), show 6 * m - 8 * j - 8 = 6 * m - 1 - p from by omega]
      omega
    · rw [if_neg (show ¬ 8 * j + 8 ≤ p + 1 from by omega), show p + 1 - 8 * j = e + 1 from by omega, show 8 * j + 8 - (p + 1) = 7 - e from by omega, show 6 * m - (p + 1) = 6 * m - 1 - p from by omega]
      generalize A / 2 ^ (6 * m - 1 - p) = x
      obtain rfl | rfl | rfl | rfl | rfl | rfl : e = 1 ∨ e = 2 ∨ e = 3 ∨ e = 4 ∨ e = 5 ∨ e = 6 := by omega
      all_goals omega

theorem laid_end (m A j : Nat) (h : 8 * j + 8 ≤ 6 * m) : laid m A j (6 * m) = bx m A j := by
  unfold laid bx
  rw [if_neg (by omega), if_pos h, show 6 * m - 8 * j - 8 = 6 * m - 8 * (j + 1) from by omega]

/-- The bytes when the first p bits have been laid. -/
def laids (m A L p : Nat) : List UInt8 := (List.range L).map fun j => UInt8.ofNat (laid m A j p)
theorem laids_length (m A L p : Nat) : (laids m A L p).length = L := by simp [laids]
theorem laids_zero (m A L : Nat) : laids m A L 0 = List.replicate L 0 := by
  refine List.ext_getElem (by simp [laids]) fun j h1 h2 => ?_
  simp [laids, laid_zero]
theorem laids_end (m A L : Nat) (h : 8 * L ≤ 6 * m) : laids m A L (6 * m) = outs m A L := by
  unfold laids outs
  refine List.map_congr_left fun j hj => ?_
  have := List.mem_range.1 hj
  rw [laid_end m A j (by omega)]
theorem laids_stay (m A L p : Nat) (hp : p < 6 * m) (h : bitD m A p = 0) : laids m A L (p + 1) = laids m A L p := by
  unfold laids
  refine List.map_congr_left fun j hj => ?_
  by_cases hj : j = p / 8
  · subst hj; rw [(laid_here m A p hp).1, h]; simp
  · rw [laid_other m A j p hj]
theorem laids_past (m A L p : Nat) (h : L ≤ p / 8) : laids m A L (p + 1) = laids m A L p := by
  unfold laids
  refine List.map_congr_left fun j hj => ?_
  have := List.mem_range.1 hj
  rw [laid_other m A j p (by omega)]
theorem laids_set (m A L p : Nat) (hp : p < 6 * m) (h : bitD m A p = 1) (hL : p / 8 < L) :
    laids m A L (p + 1) = (laids m A L p).set (p / 8) (UInt8.ofNat (laid m A (p / 8) p ||| 2 ^ (7 - p % 8))) := by
  refine List.ext_getElem (by simp [laids]) fun j h1 h2 => ?_
  simp only [laids, List.getElem_map, List.getElem_range, List.getElem_set]
  by_cases hj : p / 8 = j
  · rw [if_pos hj]
    subst hj
    have hh := laid_here m A p hp
    rw [h] at hh
    rw [hh.1, nat_join (8 - p % 8) _ _ hh.2 (Nat.pow_lt_pow_right (by decide) (by omega)), Nat.one_mul]
  · rw [if_neg hj, laid_other m A j p (fun e => hj e.symm)]
theorem laids_get (m A L p j : Nat) (h : j < L) : ((laids m A L p).getD j 0).toNat = laid m A j p := by
  have h' : j < (laids m A L p).length := by rw [laids_length]; exact h
  rw [List.getD_eq_getElem?_getD, List.getElem?_eq_getElem h']
  simp only [laids, List.getElem_map, List.getElem_range, Option.getD_some, UInt8.toNat_ofNat']
  have := laid_lt m A j p
  omega

/-- The bits behind the last byte, of the first p. -/
def tail (m A p : Nat) : Prop := ∀ t, 8 * (6 * m / 8) ≤ t → t < p → bitD m A t = 0
theorem tail_all (m A : Nat) (h : tail m A (6 * m)) : A % 2 ^ (6 * m % 8) = 0 := by
  have hb : ∀ e, e ≤ 6 * m % 8 → A % 2 ^ e = 0 := by
    intro e
    induction e with
    | zero => intro _; omega
    | succ e ih =>
      intro he
      have h1 := h (6 * m - 1 - e) (by omega) (by omega)
      unfold bitD at h1
      rw [show 6 * m - 1 - (6 * m - 1 - e) = e from by omega] at h1
      have h2 := ih (by omega)
      rw [Nat.pow_succ, Nat.mod_mul, h2, h1]; simp
  exact hb _ (Nat.le_refl _)
theorem tail_no (m A t : Nat) (h : bitD m A t ≠ 0) (h1 : 8 * (6 * m / 8) ≤ t) (h2 : t < 6 * m) : A % 2 ^ (6 * m % 8) ≠ 0 := by
  intro h0
  apply h
  unfold bitD
  obtain ⟨e, he⟩ : ∃ e, 6 * m - 1 - t = e := ⟨_, rfl⟩
  rw [he]
  have hle : e < 6 * m % 8 := by omega
  have : A % 2 ^ (e + 1) = 0 := by
    have hd : (2 : Nat) ^ (e + 1) ∣ 2 ^ (6 * m % 8) := Nat.pow_dvd_pow 2 (by omega)
    rw [← Nat.mod_mod_of_dvd A hd, h0]; simp
  rw [Nat.pow_succ, Nat.mod_mul] at this
  have hp := Nat.two_pow_pos e
  have h3 : 2 ^ e * (A / 2 ^ e % 2) = 0 := by omega
  rcases Nat.mul_eq_zero.1 h3 with h4 | h4
  · omega
  · exact h4
end Go.Proofs.Ythhnbpbebplcoaa
