/- Letters, as plain functions: there and back. No program is named. -/
import Derived.Test.YthhnbpbebplcoaaLetQ
namespace Go.Proofs.Ythhnbpbebplcoaa
set_option linter.unusedVariables false

theorem acc_lt (l : List UInt8) : acc l < 2 ^ (8 * l.length) := by
  have h : ∀ k, k ≤ l.length → acc (l.take k) < 2 ^ (8 * k) := by
    intro k
    induction k with
    | zero => intro _; simp [acc]
    | succ k ih =>
      intro hk
      rw [acc_take l k (by omega)]
      have h1 := ih (by omega)
      have hb := (l.getD k 0).toNat_lt
      rw [show 8 * (k + 1) = 8 * k + 8 from by omega, Nat.pow_add]
      omega
  have := h l.length (Nat.le_refl _)
  rwa [List.take_length] at this

theorem accD_lt (u : Bool) (l : List UInt8) : accD u l < 2 ^ (6 * l.length) := by
  have h : ∀ k, k ≤ l.length → accD u (l.take k) < 2 ^ (6 * k) := by
    intro k
    induction k with
    | zero => intro _; simp [accD]
    | succ k ih =>
      intro hk
      rw [accD_take u l k (by omega)]
      have h1 := ih (by omega)
      have hb : (numF u (l.getD k 0).toNat).getD 0 < 64 := by
        cases h : numF u (l.getD k 0).toNat with
        | none => simp
        | some d => have := numF_lt u _ d h; simp; omega
      rw [show 6 * (k + 1) = 6 * k + 6 from by omega, Nat.pow_add]
      omega
  have := h l.length (Nat.le_refl _)
  rwa [List.take_length] at this

theorem accD_lets (u : Bool) (m A : Nat) (hA : A < 2 ^ (8 * m)) : ∀ j, 6 * j ≤ 8 * m + 4 → accD u (lets u m A j) = A * 16 / 2 ^ (8 * m + 4 - 6 * j) := by
  intro j
  induction j with
  | zero =>
    intro _
    have : A * 16 < 2 ^ (8 * m + 4) := by rw [Nat.pow_add]; omega
    simp only [Nat.mul_zero, Nat.sub_zero]
    rw [Nat.div_eq_of_lt this]; rfl
  | succ j ih =>
    intro hj
    rw [lets_snoc, accD_snoc, ih (by omega), numF_letB u _ (sx_lt _ _ _), Option.getD_some]
    unfold sx
    rw [show 8 * m + 4 - 6 * j = 8 * m + 4 - 6 * (j + 1) + 6 from by omega, Nat.pow_add, ← Nat.div_div_eq_div_mul]
    generalize A * 16 / 2 ^ (8 * m + 4 - 6 * (j + 1)) = x
    omega

theorem lets_good (u : Bool) (m A q : Nat) : ∀ c ∈ lets u m A q, (numF u c.toNat).isSome = true := by
  intro c hc
  unfold lets at hc
  obtain ⟨j, _, rfl⟩ := List.mem_map.1 hc
  rw [numF_letB u _ (sx_lt _ _ _)]; rfl

theorem decF_encF (u : Bool) (bs : List UInt8) : decF u (encF u bs) = some bs := by
  obtain ⟨m, hm⟩ : ∃ m, m = bs.length := ⟨_, rfl⟩
  obtain ⟨A, hA⟩ : ∃ A, A = acc bs := ⟨_, rfl⟩
  have hlt : A < 2 ^ (8 * m) := by rw [hA, hm]; exact acc_lt bs
  obtain ⟨q, hq⟩ : ∃ q, q = (8 * m + 5) / 6 := ⟨_, rfl⟩
  obtain ⟨r, hr⟩ : ∃ r, r = 6 * q - 8 * m := ⟨_, rfl⟩
  have hq8 : 8 * m ≤ 6 * q := by omega
  have hrr : r = 0 ∨ r = 2 ∨ r = 4 := by omega
  have e : encF u bs = lets u m A q := by unfold encF; rw [← hm, ← hA, ← hq]
  rw [e]
  have hD := accD_lets u m A hlt q (by omega)
  have hlen := lets_length u m A q
  have hD' : accD u (lets u m A q) = A * 2 ^ r := by
    rw [hD]
    rcases hrr with h | h | h
    · rw [h, show 8 * m + 4 - 6 * q = 4 from by omega]; omega
    · rw [h, show 8 * m + 4 - 6 * q = 2 from by omega]; omega
    · rw [h, show 8 * m + 4 - 6 * q = 0 from by omega]; omega
  unfold decF
  rw [hlen, hD', if_pos ⟨lets_good u m A q, by omega, by rw [show 6 * q % 8 = r from by omega]; exact Nat.mul_mod_left _ _⟩]
  congr 1
  rw [show 6 * q / 8 = m from by omega]
  refine List.ext_getElem (by rw [outs_length, hm]) fun j h1 h2 => ?_
  simp only [outs, List.getElem_map, List.getElem_range]
  have hj : j < m := by rw [outs_length] at h1; exact h1
  have hd := acc_digit bs m (by omega) j hj
  rw [hm, List.take_length, ← hm, ← hA] at hd
  have hb : bx q (A * 2 ^ r) j = (bs.getD j 0).toNat := by
    unfold bx
    rw [← hd, show 6 * q - 8 * (j + 1) = r + 8 * (m - 1 - j) from by omega, Nat.pow_add, ← Nat.div_div_eq_div_mul, Nat.mul_div_cancel _ (Nat.two_pow_pos r)]
  rw [hb, List.getD_eq_getElem?_getD, List.getElem?_eq_getElem (by omega)]
  simp

theorem acc_outs (m A : Nat) (hA : A < 2 ^ (6 * m)) : ∀ j, 8 * j ≤ 6 * m → acc (outs m A j) = A / 2 ^ (6 * m - 8 * j) := by
  intro j
  induction j with
  | zero => intro _; simp only [Nat.mul_zero, Nat.sub_zero]; rw [Nat.div_eq_of_lt hA]; rfl
  | succ j ih =>
    intro hj
    rw [outs_snoc, acc_snoc, ih (by omega), UInt8.toNat_ofNat', Nat.mod_eq_of_lt (bx_lt _ _ _)]
    unfold bx
    rw [show 6 * m - 8 * j = 6 * m - 8 * (j + 1) + 8 from by omega, Nat.pow_add, ← Nat.div_div_eq_div_mul]
    generalize A / 2 ^ (6 * m - 8 * (j + 1)) = x
    omega

theorem encF_decF (u : Bool) (s o : List UInt8) (h : decF u s = some o) : encF u o = s := by
  unfold decF at h
  split at h
  · rename_i hc
    obtain ⟨h1, h2, h3⟩ := hc
    obtain ⟨m, hm⟩ : ∃ m, m = s.length := ⟨_, rfl⟩
    obtain ⟨A, hA⟩ : ∃ A, A = accD u s := ⟨_, rfl⟩
    have hlt : A < 2 ^ (6 * m) := by rw [hA, hm]; exact accD_lt u s
    rw [← hm, ← hA] at h3 h
    rw [← hm] at h2
    obtain ⟨L, hL⟩ : ∃ L, L = 6 * m / 8 := ⟨_, rfl⟩
    obtain ⟨r, hr⟩ : ∃ r, r = 6 * m % 8 := ⟨_, rfl⟩
    rw [← hL] at h
    rw [← hr] at h2 h3
    have hrr : r = 0 ∨ r = 2 ∨ r = 4 := by omega
    cases h
    have hacc := acc_outs m A hlt L (by omega)
    rw [show 6 * m - 8 * L = r from by omega] at hacc
    unfold encF
    rw [outs_length, hacc, show (8 * L + 5) / 6 = m from by omega]
    refine List.ext_getElem (by rw [lets_length, hm]) fun j g1 g2 => ?_
    simp only [lets, List.getElem_map, List.getElem_range]
    have hj : j < m := by omega
    have hd := accD_digit u s m (by omega) j hj
    rw [hm, List.take_length, ← hm, ← hA] at hd
    have hs : s.getD j 0 = s[j] := by rw [List.getD_eq_getElem?_getD, List.getElem?_eq_getElem g2]; rfl
    rw [hs] at hd
    obtain ⟨d, hnd⟩ := Option.isSome_iff_exists.1 (h1 s[j] (List.getElem_mem g2))
    rw [hnd, Option.getD_some] at hd
    have hx : sx L (A / 2 ^ r) j = d := by
      rw [← hd]
      unfold sx
      congr 1
      rw [show 6 * (m - 1 - j) = 6 * m - 6 * (j + 1) from by omega]
      have hdvd : A = A / 2 ^ r * 2 ^ r := by have := Nat.div_add_mod A (2 ^ r); rw [h3] at this; rw [Nat.mul_comm]; omega
      generalize A / 2 ^ r = B at *
      subst hdvd
      rcases hrr with h | h | h
      · subst h
        rw [show 8 * L + 4 - 6 * (j + 1) = 4 + (6 * m - 6 * (j + 1)) from by omega, Nat.pow_add, ← Nat.div_div_eq_div_mul]
        congr 1
        omega
      · subst h
        rw [show 8 * L + 4 - 6 * (j + 1) = 2 + (6 * m - 6 * (j + 1)) from by omega, Nat.pow_add, ← Nat.div_div_eq_div_mul]
        congr 1
        omega
      · subst h
        rw [show 8 * L + 4 - 6 * (j + 1) = 6 * m - 6 * (j + 1) from by omega]
    rw [hx]
    exact letB_numF u _ d hnd
  · cases h

theorem acc_from (r : List UInt8) : ∀ a : Nat, r.foldl (fun a c => a * 256 + c.toNat) a = a * 2 ^ (8 * r.length) + acc r := by
  unfold acc
  induction r with
  | nil => intro a; simp
  | cons c r ih =>
    intro a
    rw [List.foldl_cons, List.foldl_cons, ih, ih (0 * 256 + c.toNat), List.length_cons, show 8 * (r.length + 1) = 8 + 8 * r.length from by omega, Nat.pow_add]
    generalize 2 ^ (8 * r.length) = X
    rw [Nat.add_mul, Nat.mul_assoc, Nat.zero_mul, Nat.zero_add, Nat.add_assoc]
theorem acc_append (l r : List UInt8) : acc (l ++ r) = acc l * 2 ^ (8 * r.length) + acc r := by
  rw [← acc_from]; unfold acc; rw [List.foldl_append]

theorem encF_append (u : Bool) (l r : List UInt8) (h : l.length % 3 = 0) : encF u (l ++ r) = encF u l ++ encF u r := by
  obtain ⟨t, ht⟩ : ∃ t, l.length = 3 * t := ⟨l.length / 3, by omega⟩
  have hr := acc_lt r
  unfold encF
  refine List.ext_getElem ?_ fun j g1 g2 => ?_
  · simp only [List.length_append, lets_length]; omega
  · rw [List.getElem_append]
    simp only [lets, List.getElem_map, List.getElem_range, List.length_map, List.length_range]
    rw [acc_append, List.length_append]
    simp only [lets_length, List.length_append] at g1
    split
    · rename_i hj
      congr 1
      unfold sx
      have hj' : 6 * (j + 1) ≤ 8 * l.length := by omega
      rw [show 8 * (l.length + r.length) + 4 - 6 * (j + 1) = (8 * r.length + 4) + (8 * l.length - 6 * (j + 1)) from by omega,
        show 8 * l.length + 4 - 6 * (j + 1) = 4 + (8 * l.length - 6 * (j + 1)) from by omega, Nat.pow_add, Nat.pow_add 2 4, ← Nat.div_div_eq_div_mul, ← Nat.div_div_eq_div_mul]
      congr 2
      rw [Nat.pow_add, ← Nat.mul_comm (2 ^ 4), ← Nat.div_div_eq_div_mul]
      have e1 : (acc l * 2 ^ (8 * r.length) + acc r) * 16 / 2 ^ 4 = acc l * 2 ^ (8 * r.length) + acc r := by omega
      rw [e1, Nat.mul_comm, Nat.mul_add_div (Nat.two_pow_pos _), Nat.div_eq_of_lt hr]
      omega
    · rename_i hj
      have hq : (8 * l.length + 5) / 6 = 4 * t := by omega
      rw [hq] at hj ⊢
      congr 1
      unfold sx
      have e1 : 8 * (l.length + r.length) + 4 - 6 * (j + 1) = 8 * r.length + 4 - 6 * (j - 4 * t + 1) := by omega
      rw [e1]
      obtain ⟨e, he⟩ : ∃ e, 8 * r.length + 4 - 6 * (j - 4 * t + 1) = e := ⟨_, rfl⟩
      rw [he]
      have hE : 8 * r.length + 4 = e + 6 + 6 * (j - 4 * t) := by omega
      have : (acc l * 2 ^ (8 * r.length) + acc r) * 16 = 2 ^ e * (64 * (acc l * 2 ^ (6 * (j - 4 * t)))) + acc r * 16 := by
        have h1 : 2 ^ (8 * r.length) * 16 = 2 ^ e * (64 * 2 ^ (6 * (j - 4 * t))) := by
          rw [show (16 : Nat) = 2 ^ 4 from rfl, show (64 : Nat) = 2 ^ 6 from rfl, ← Nat.pow_add, ← Nat.pow_add, ← Nat.pow_add, hE]
          congr 1
          omega
        rw [Nat.add_mul, Nat.mul_assoc, h1, ← Nat.mul_assoc, ← Nat.mul_assoc, Nat.mul_comm (acc l) (2 ^ e)]
        simp only [Nat.mul_left_comm, Nat.mul_comm]
      rw [this, Nat.mul_add_div (Nat.two_pow_pos _), Nat.mul_add_mod]
end Go.Proofs.Ythhnbpbebplcoaa
