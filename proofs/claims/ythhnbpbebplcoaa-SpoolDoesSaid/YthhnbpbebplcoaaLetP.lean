/- Letters, as plain functions of bytes and numbers: no program is named. -/
import Derived.WalkKit
namespace Go.Proofs.Ythhnbpbebplcoaa
set_option linter.unusedVariables false

def abc : Bool → List UInt8
  | false => [65, 66, 67, 68, 69, 70, 71, 72, 73, 74, 75, 76, 77, 78, 79, 80, 81, 82, 83, 84, 85, 86, 87, 88, 89, 90, 97, 98, 99, 100, 101, 102, 103, 104, 105, 106, 107, 108, 109, 110, 111, 112, 113, 114, 115, 116, 117, 118, 119, 120, 121, 122, 48, 49, 50, 51, 52, 53, 54, 55, 56, 57, 43, 47]
  | true => [65, 66, 67, 68, 69, 70, 71, 72, 73, 74, 75, 76, 77, 78, 79, 80, 81, 82, 83, 84, 85, 86, 87, 88, 89, 90, 97, 98, 99, 100, 101, 102, 103, 104, 105, 106, 107, 108, 109, 110, 111, 112, 113, 114, 115, 116, 117, 118, 119, 120, 121, 122, 48, 49, 50, 51, 52, 53, 54, 55, 56, 57, 45, 95]

theorem abc_length (u : Bool) : (abc u).length = 64 := by cases u <;> rfl

/-- The letter of a number. -/
def letB (u : Bool) (n : Nat) : UInt8 := (abc u).getD n 0
def letF (u : Bool) (n : Nat) : Nat := (letB u n).toNat

theorem letF_lo (u : Bool) : ∀ n, n < 26 → letF u n = 65 + n := by
  cases u <;> decide
theorem letF_mid (u : Bool) : ∀ n, n < 26 → letF u (26 + n) = 97 + n := by
  cases u <;> decide
theorem letF_dig (u : Bool) : ∀ n, n < 10 → letF u (52 + n) = 48 + n := by
  cases u <;> decide

/-- Bytes as one number. -/
def acc (l : List UInt8) : Nat := l.foldl (fun a c => a * 256 + c.toNat) 0
theorem acc_snoc (l : List UInt8) (c : UInt8) : acc (l ++ [c]) = acc l * 256 + c.toNat := by simp [acc]
theorem acc_take (l : List UInt8) (k : Nat) (h : k < l.length) : acc (l.take (k + 1)) = acc (l.take k) * 256 + (l.getD k 0).toNat := by
  rw [List.take_add_one, List.getElem?_eq_getElem h, List.getD_eq_getElem?_getD, List.getElem?_eq_getElem h]
  exact acc_snoc _ _

/-- The j-th six bits of so many bytes that are the number A. -/
def sx (m A j : Nat) : Nat := A * 16 / 2 ^ (8 * m + 4 - 6 * (j + 1)) % 64
theorem sx_lt (m A j : Nat) : sx m A j < 64 := Nat.mod_lt _ (by decide)

theorem sx_more (m A j c : Nat) (hc : c < 256) (h : 6 * (j + 1) ≤ 8 * m) : sx (m + 1) (A * 256 + c) j = sx m A j := by
  unfold sx
  have e : 8 * (m + 1) + 4 - 6 * (j + 1) = 12 + (8 * m - 6 * (j + 1)) := by omega
  have e' : 8 * m + 4 - 6 * (j + 1) = 4 + (8 * m - 6 * (j + 1)) := by omega
  rw [e, e', Nat.pow_add, Nat.pow_add, ← Nat.div_div_eq_div_mul, ← Nat.div_div_eq_div_mul]
  congr 2
  omega

/-- The letters of the first q six bits. -/
def lets (u : Bool) (m A q : Nat) : List UInt8 := (List.range q).map fun j => letB u (sx m A j)
theorem lets_length (u : Bool) (m A q : Nat) : (lets u m A q).length = q := by simp [lets]
theorem lets_snoc (u : Bool) (m A q : Nat) : lets u m A (q + 1) = lets u m A q ++ [letB u (sx m A q)] := by simp [lets, List.range_succ]
theorem lets_more (u : Bool) (m A q c : Nat) (hc : c < 256) (h : 6 * q ≤ 8 * m) : lets u (m + 1) (A * 256 + c) q = lets u m A q := by
  unfold lets
  refine List.map_congr_left fun j hj => ?_
  have := List.mem_range.1 hj
  rw [sx_more m A j c hc (by omega)]

/-- The letters of bytes. -/
def encF (u : Bool) (bs : List UInt8) : List UInt8 := lets u bs.length (acc bs) ((8 * bs.length + 5) / 6)

/-- What stands in the code: the bits that are left, shifted down. -/
theorem sx_bits (m A q cnt : Nat) (h : 6 * q + cnt = 8 * m) (hc : 6 ≤ cnt) (hcm : cnt ≤ 14) : A % 4294967296 / 2 ^ (cnt - 6) % 64 = sx m A q := by
  unfold sx
  have e : 8 * m + 4 - 6 * (q + 1) = 4 + (cnt - 6) := by omega
  rw [e, Nat.pow_add, ← Nat.div_div_eq_div_mul, Nat.mul_div_cancel _ (by decide)]
  obtain ⟨d, hd⟩ : ∃ d, cnt - 6 = d := ⟨_, rfl⟩
  rw [hd]
  have : d ≤ 8 := by omega
  have h32 : (4294967296 : Nat) = 2 ^ d * 2 ^ (32 - d) := by rw [← Nat.pow_add]; rw [show d + (32 - d) = 32 from by omega]
  rw [h32, Nat.mod_mul_right_div_self]
  have h6 : (64 : Nat) ∣ 2 ^ (32 - d) := ⟨2 ^ (26 - d), by rw [show (64 : Nat) = 2 ^ 6 from rfl, ← Nat.pow_add]; congr 1; omega⟩
  exact Nat.mod_mod_of_dvd _ h6
theorem sx_last (m A q cnt : Nat) (h : 6 * q + cnt = 8 * m) (h0 : 2 ≤ cnt) (hcm : cnt < 6) : A % 4294967296 * 2 ^ (6 - cnt) % 4294967296 % 64 = sx m A q := by
  obtain rfl | rfl : cnt = 2 ∨ cnt = 4 := by omega
  · unfold sx
    rw [show 8 * m + 4 - 6 * (q + 1) = 0 from by omega]
    omega
  · unfold sx
    rw [show 8 * m + 4 - 6 * (q + 1) = 2 from by omega]
    omega

def bitF (bs : List UInt8) (i : Nat) : Nat := if i / 8 ≥ bs.length then 0 else ((bs.getD (i / 8) 0).toNat / 2 ^ (7 - i % 8)) % 2
theorem bitF_lt (bs : List UInt8) (i : Nat) : bitF bs i < 2 := by unfold bitF; split <;> omega

theorem acc_digit (l : List UInt8) : ∀ k, k ≤ l.length → ∀ j, j < k → acc (l.take k) / 2 ^ (8 * (k - 1 - j)) % 256 = (l.getD j 0).toNat := by
  intro k
  induction k with
  | zero => intro _ j hj; omega
  | succ k ih =>
    intro hk j hj
    rw [acc_take l k (by omega)]
    have hb := (l.getD k 0).toNat_lt
    by_cases hjk : j = k
    · subst hjk
      rw [show 8 * (j + 1 - 1 - j) = 0 from by omega]
      omega
    · rw [← ih (by omega) j (by omega), show 8 * (k + 1 - 1 - j) = 8 + 8 * (k - 1 - j) from by omega, Nat.pow_add, ← Nat.div_div_eq_div_mul]
      congr 2
      omega

theorem mod_div_mod (x d : Nat) (h : d ≤ 7) : x % 256 / 2 ^ d % 2 = x / 2 ^ d % 2 := by
  obtain rfl | rfl | rfl | rfl | rfl | rfl | rfl | rfl : d = 0 ∨ d = 1 ∨ d = 2 ∨ d = 3 ∨ d = 4 ∨ d = 5 ∨ d = 6 ∨ d = 7 := by omega
  all_goals omega

theorem bitF_acc (bs : List UInt8) (i : Nat) (h : i < 8 * bs.length + 4) : bitF bs i = acc bs * 16 / 2 ^ (8 * bs.length + 4 - 1 - i) % 2 := by
  unfold bitF
  by_cases hi : i / 8 ≥ bs.length
  · rw [if_pos hi]
    obtain ⟨d, hd, hd3⟩ : ∃ d, 8 * bs.length + 4 - 1 - i = d ∧ d ≤ 3 := ⟨_, rfl, by omega⟩
    rw [hd]
    obtain rfl | rfl | rfl | rfl : d = 0 ∨ d = 1 ∨ d = 2 ∨ d = 3 := by omega
    all_goals omega
  · rw [if_neg hi]
    have hd := acc_digit bs bs.length (Nat.le_refl _) (i / 8) (by omega)
    rw [List.take_length] at hd
    rw [← hd, mod_div_mod _ _ (by omega), Nat.div_div_eq_div_mul, ← Nat.pow_add]
    rw [show 8 * bs.length + 4 - 1 - i = 4 + (8 * (bs.length - 1 - i / 8) + (7 - i % 8)) from by omega, Nat.pow_add 2 4, ← Nat.div_div_eq_div_mul, Nat.mul_div_cancel _ (by decide)]

/-- The first kk of the q-th six bits. -/
def part (bs : List UInt8) (q kk : Nat) : Nat := acc bs * 16 / 2 ^ (8 * bs.length + 4 - (6 * q + kk)) % 2 ^ kk
theorem part_zero (bs : List UInt8) (q : Nat) : part bs q 0 = 0 := by unfold part; omega
theorem part_six (bs : List UInt8) (q : Nat) : part bs q 6 = sx bs.length (acc bs) q := by unfold part sx; rw [show 6 * q + 6 = 6 * (q + 1) from by omega]
theorem part_succ (bs : List UInt8) (q kk : Nat) (h : 6 * q + kk < 8 * bs.length + 4) : part bs q (kk + 1) = 2 * part bs q kk + bitF bs (6 * q + kk) := by
  rw [bitF_acc bs _ h]
  unfold part
  have e : 8 * bs.length + 4 - (6 * q + kk) = (8 * bs.length + 4 - (6 * q + (kk + 1))) + 1 := by omega
  have e' : 8 * bs.length + 4 - 1 - (6 * q + kk) = 8 * bs.length + 4 - (6 * q + (kk + 1)) := by omega
  rw [e, e', Nat.pow_succ 2 (8 * bs.length + 4 - (6 * q + (kk + 1))), ← Nat.div_div_eq_div_mul]
  generalize acc bs * 16 / 2 ^ (8 * bs.length + 4 - (6 * q + (kk + 1))) = x
  rw [Nat.pow_succ, Nat.mul_comm (2 ^ kk) 2, Nat.mod_mul]
  omega
theorem part_lt (bs : List UInt8) (q kk : Nat) : part bs q kk < 2 ^ kk := Nat.mod_lt _ (Nat.two_pow_pos _)

/-- The number of a rune, as the code finds it. -/
def numF (u : Bool) (r : Int) : Option Nat :=
  if 65 ≤ r ∧ r ≤ 90 then some (r - 65).toNat
  else if 97 ≤ r ∧ r ≤ 122 then some ((r - 97).toNat + 26)
  else if 48 ≤ r ∧ r ≤ 57 then some ((r - 48).toNat + 52)
  else if r = (if u then 45 else 43) then some 62
  else if r = (if u then 95 else 47) then some 63
  else none
theorem numF_lt (u : Bool) (r : Int) (d : Nat) (h : numF u r = some d) : d < 64 ∧ 0 ≤ r ∧ r < 128 := by
  unfold numF at h
  cases u
  all_goals
    repeat' split at h
    all_goals first | (cases h; omega) | (cases h; done)

/-- Letters as one number. -/
def accD (u : Bool) (l : List UInt8) : Nat := l.foldl (fun a c => a * 64 + (numF u c.toNat).getD 0) 0
theorem accD_snoc (u : Bool) (l : List UInt8) (c : UInt8) : accD u (l ++ [c]) = accD u l * 64 + (numF u c.toNat).getD 0 := by simp [accD]
theorem accD_take (u : Bool) (l : List UInt8) (k : Nat) (h : k < l.length) : accD u (l.take (k + 1)) = accD u (l.take k) * 64 + (numF u (l.getD k 0).toNat).getD 0 := by
  rw [List.take_add_one, List.getElem?_eq_getElem h, List.getD_eq_getElem?_getD, List.getElem?_eq_getElem h]
  exact accD_snoc _ _ _

/-- The j-th eight bits of so many letters that are the number A. -/
def bx (m A j : Nat) : Nat := A / 2 ^ (6 * m - 8 * (j + 1)) % 256
theorem bx_lt (m A j : Nat) : bx m A j < 256 := Nat.mod_lt _ (by decide)
theorem bx_more (m A j d : Nat) (hd : d < 64) (h : 8 * (j + 1) ≤ 6 * m) : bx (m + 1) (A * 64 + d) j = bx m A j := by
  unfold bx
  rw [show 6 * (m + 1) - 8 * (j + 1) = 6 + (6 * m - 8 * (j + 1)) from by omega, Nat.pow_add, ← Nat.div_div_eq_div_mul]
  congr 2
  omega
def outs (m A q : Nat) : List UInt8 := (List.range q).map fun j => UInt8.ofNat (bx m A j)
theorem outs_length (m A q : Nat) : (outs m A q).length = q := by simp [outs]
theorem outs_snoc (m A q : Nat) : outs m A (q + 1) = outs m A q ++ [UInt8.ofNat (bx m A q)] := by simp [outs, List.range_succ]
theorem outs_more (m A q d : Nat) (hd : d < 64) (h : 8 * q ≤ 6 * m) : outs (m + 1) (A * 64 + d) q = outs m A q := by
  unfold outs
  refine List.map_congr_left fun j hj => ?_
  have := List.mem_range.1 hj
  rw [bx_more m A j d hd (by omega)]

/-- The bytes of letters. -/
def decF (u : Bool) (bs : List UInt8) : Option (List UInt8) :=
  if (∀ c ∈ bs, (numF u c.toNat).isSome = true) ∧ 6 * bs.length % 8 ≠ 6 ∧ accD u bs % 2 ^ (6 * bs.length % 8) = 0 then
    some (outs bs.length (accD u bs) (6 * bs.length / 8))
  else none

theorem bx_bits (m A q cnt : Nat) (h : 8 * q + cnt = 6 * m) (hc : 8 ≤ cnt) (hcm : cnt < 14) : A % 4294967296 / 2 ^ (cnt - 8) % 256 = bx m A q := by
  unfold bx
  rw [show 6 * m - 8 * (q + 1) = cnt - 8 from by omega]
  obtain ⟨d, hd⟩ : ∃ d, cnt - 8 = d := ⟨_, rfl⟩
  rw [hd]
  have : d ≤ 5 := by omega
  obtain rfl | rfl | rfl | rfl | rfl | rfl : d = 0 ∨ d = 1 ∨ d = 2 ∨ d = 3 ∨ d = 4 ∨ d = 5 := by omega
  all_goals omega
theorem low_bits (A cnt : Nat) (hc : cnt < 8) : A % 4294967296 % 2 ^ cnt = A % 2 ^ cnt := by
  obtain rfl | rfl | rfl | rfl | rfl | rfl | rfl | rfl : cnt = 0 ∨ cnt = 1 ∨ cnt = 2 ∨ cnt = 3 ∨ cnt = 4 ∨ cnt = 5 ∨ cnt = 6 ∨ cnt = 7 := by omega
  all_goals omega
theorem encF_length (u : Bool) (bs : List UInt8) : (encF u bs).length = (8 * bs.length + 5) / 6 := by unfold encF; rw [lets_length]
end Go.Proofs.Ythhnbpbebplcoaa
