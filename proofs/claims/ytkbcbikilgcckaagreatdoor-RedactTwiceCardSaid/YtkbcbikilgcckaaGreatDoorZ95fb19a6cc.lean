/- Texts put together: LetP LetLen LetE LetLet LetQ. -/
import Derived.WalkKit
import Derived.Test.YtkbcbikilgcckaaGreatDoorZcf87a46e79
import Derived.WalkSmall
import Derived.Lib.OthersKept
namespace Go.Proofs.YtkbcbikilgcckaaGreatDoor
set_option linter.unusedVariables false

def abc : Bool → List UInt8
  | false => [65, 66, 67, 68, 69, 70, 71, 72, 73, 74, 75, 76, 77, 78, 79, 80, 81, 82, 83, 84, 85, 86, 87, 88, 89, 90, 97, 98, 99, 100, 101, 102, 103, 104, 105, 106, 107, 108, 109, 110, 111, 112, 113, 114, 115, 116, 117, 118, 119, 120, 121, 122, 48, 49, 50, 51, 52, 53, 54, 55, 56, 57, 43, 47]
  | true => [65, 66, 67, 68, 69, 70, 71, 72, 73, 74, 75, 76, 77, 78, 79, 80, 81, 82, 83, 84, 85, 86, 87, 88, 89, 90, 97, 98, 99, 100, 101, 102, 103, 104, 105, 106, 107, 108, 109, 110, 111, 112, 113, 114, 115, 116, 117, 118, 119, 120, 121, 122, 48, 49, 50, 51, 52, 53, 54, 55, 56, 57, 45, 95]

theorem abc_length (u : Bool) : (abc u).length = 64 := by cases u <;> rfl

/-- The letter of a number. -/
def letB (u : Bool) (n : Nat) : UInt8 := (abc u).getD n 0
def letF (u : Bool) (n : Nat) : Nat := (letB u n).toNat

theorem letF_lo (u : Bool) : ∀ n, n < 26 → letF u n = 65 + n := by
  cases u <;> decide
theorem letF_mid (u : Bool) : ∀ n, n < 26 → letF u (26 + n) = 97 + n := by
  cases u <;> decide
theorem letF_dig (u : Bool) : ∀ n, n < 10 → letF u (52 + n) = 48 + n := by
  cases u <;> decide

/-- Bytes as one number. -/
def acc (l : List UInt8) : Nat := l.foldl (fun a c => a * 256 + c.toNat) 0
theorem acc_snoc (l : List UInt8) (c : UInt8) : acc (l ++ [c]) = acc l * 256 + c.toNat := by simp [acc]
theorem acc_take (l : List UInt8) (k : Nat) (h : k < l.length) : acc (l.take (k + 1)) = acc (l.take k) * 256 + (l.getD k 0).toNat := by
  rw [List.take_add_one, List.getElem?_eq_getElem h, List.getD_eq_getElem?_getD, List.getElem?_eq_getElem h]
  exact acc_snoc _ _

/-- The j-th six bits of so many bytes that are the number A. -/
def sx (m A j : Nat) : Nat := A * 16 / 2 ^ (8 * m + 4 - 6 * (j + 1)) % 64
theorem sx_lt (m A j : Nat) : sx m A j < 64 := Nat.mod_lt _ (by decide)

theorem sx_more (m A j c : Nat) (hc : c < 256) (h : 6 * (j + 1) ≤ 8 * m) : sx (m + 1) (A * 256 + c) j = sx m A j := by
  unfold sx
  have e : 8 * (m + 1) + 4 - 6 * (j + 1) = 12 + (8 * m - 6 * (j + 1)) := by omega
  have e' : 8 * m + 4 - 6 * (j + 1) = 4 + (8 * m - 6 * (j + 1)) := by omega
  rw [e, e', Nat.pow_add, Nat.pow_add, ← Nat.div_div_eq_div_mul, ← Nat.div_div_eq_div_mul]
  congr 2
  omega

/-- The letters of the first q six bits. -/
def lets (u : Bool) (m A q : Nat) : List UInt8 := (List.range q).map fun j => letB u (sx m A j)
theorem lets_length (u : Bool) (m A q : Nat) : (lets u m A q).length = q := by simp [lets]
theorem lets_snoc (u : Bool) (m A q : Nat) : lets u m A (q + 1) = lets u m A q ++ [letB u (sx m A q)] := by simp [lets, List.range_succ]
theorem lets_more (u : Bool) (m A q c : Nat) (hc : c < 256) (h : 6 * q ≤ 8 * m) : lets u (m + 1) (A * 256 + c) q = lets u m A q := by
  unfold lets
  refine List.map_congr_left fun j hj => ?_
  have := List.mem_range.1 hj
  rw [sx_more m A j c hc (by omega)]

/-- The letters of bytes. -/
def encF (u : Bool) (bs : List UInt8) : List UInt8 := lets u bs.length (acc bs) ((8 * bs.length + 5) / 6)

/-- What stands in the code: the bits that are left, shifted down. -/
theorem sx_bits (m A q cnt : Nat) (h : 6 * q + cnt = 8 * m) (hc : 6 ≤ cnt) (hcm : cnt ≤ 14) : A % 4294967296 / 2 ^ (cnt - 6) % 64 = sx m A q := by
  unfold sx
  have e : 8 * m + 4 - 6 * (q + 1) = 4 + (cnt - 6) := by omega
  rw [e, Nat.pow_add, ← Nat.div_div_eq_div_mul, Nat.mul_div_cancel _ (by decide)]
  obtain ⟨d, hd⟩ : ∃ d, cnt - 6 = d := ⟨_, rfl⟩
  rw [hd]
  have : d ≤ 8 := by omega
  have h32 : (4294967296 : Nat) = 2 ^ d * 2 ^ (32 - d) := by rw [← Nat.pow_add]; rw [show d + (32 - d) = 32 from by omega]
  rw [h32, Nat.mod_mul_right_div_self]
  have h6 : (64 : Nat) ∣ 2 ^ (32 - d) := ⟨2 ^ (26 - d), by rw [show (64 : Nat) = 2 ^ 6 from rfl, ← Nat.pow_add]; congr 1; omega⟩
  exact Nat.mod_mod_of_dvd _ h6
theorem sx_last (m A q cnt : Nat) (h : 6 * q + cnt = 8 * m) (h0 : 2 ≤ cnt) (hcm : cnt < 6) : A % 4294967296 * 2 ^ (6 - cnt) % 4294967296 % 64 = sx m A q := by
  obtain rfl | rfl : cnt = 2 ∨ cnt = 4 := by omega
  · unfold sx
    rw [show 8 * m + 4 - 6 * (q + 1) = 0 from by omega]
    omega
  · unfold sx
    rw [show 8 * m + 4 - 6 * (q + 1) = 2 from by omega]
    omega

def bitF (bs : List UInt8) (i : Nat) : Nat := if i / 8 ≥ bs.length then 0 else ((bs.getD (i / 8) 0).toNat / 2 ^ (7 - i % 8)) % 2
theorem bitF_lt (bs : List UInt8) (i : Nat) : bitF bs i < 2 := by unfold bitF; split <;> omega

theorem acc_digit (l : List UInt8) : ∀ k, k ≤ l.length → ∀ j, j < k → acc (l.take k) / 2 ^ (8 * (k - 1 - j)) % 256 = (l.getD j 0).toNat := by
  intro k
  induction k with
  | zero => intro _ j hj; omega
  | succ k ih =>
    intro hk j hj
    rw [acc_take l k (by omega)]
    have hb := (l.getD k 0).toNat_lt
    by_cases hjk : j = k
    · subst hjk
      rw [show 8 * (j + 1 - 1 - j) = 0 from by omega]
      omega
    · rw [← ih (by omega) j (by omega), show 8 * (k + 1 - 1 - j) = 8 + 8 * (k - 1 - j) from by omega, Nat.pow_add, ← Nat.div_div_eq_div_mul]
      congr 2
      omega

theorem mod_div_mod (x d : Nat) (h : d ≤ 7) : x % 256 / 2 ^ d % 2 = x / 2 ^ d % 2 := by
  obtain rfl | rfl | rfl | rfl | rfl | rfl | rfl | rfl : d = 0 ∨ d = 1 ∨ d = 2 ∨ d = 3 ∨ d = 4 ∨ d = 5 ∨ d = 6 ∨ d = 7 := by omega
  all_goals omega

theorem bitF_acc (bs : List UInt8) (i : Nat) (h : i < 8 * bs.length + 4) : bitF bs i = acc bs * 16 / 2 ^ (8 * bs.length + 4 - 1 - i) % 2 := by
  unfold bitF
  by_cases hi : i / 8 ≥ bs.length
  · rw [if_pos hi]
    obtain ⟨d, hd, hd3⟩ : ∃ d, 8 * bs.length + 4 - 1 - i = d ∧ d ≤ 3 := ⟨_, rfl, by omega⟩
    rw [hd]
    obtain rfl | rfl | rfl | rfl : d = 0 ∨ d = 1 ∨ d = 2 ∨ d = 3 := by omega
    all_goals omega
  · rw [if_neg hi]
    have hd := acc_digit bs bs.length (Nat.le_refl _) (i / 8) (by omega)
    rw [List.take_length] at hd
    rw [← hd, mod_div_mod _ _ (by omega), Nat.div_div_eq_div_mul, ← Nat.pow_add]
    rw [show 8 * bs.length + 4 - 1 - i = 4 + (8 * (bs.length - 1 - i / 8) + (7 - i % 8)) from by omega, Nat.pow_add 2 4, ← Nat.div_div_eq_div_mul, Nat.mul_div_cancel _ (by decide)]

/-- The first kk of the q-th six bits. -/
def part (bs : List UInt8) (q kk : Nat) : Nat := acc bs * 16 / 2 ^ (8 * bs.length + 4 - (6 * q + kk)) % 2 ^ kk
theorem part_zero (bs : List UInt8) (q : Nat) : part bs q 0 = 0 := by unfold part; omega
theorem part_six (bs : List UInt8) (q : Nat) : part bs q 6 = sx bs.length (acc bs) q := by unfold part sx; rw [show 6 * q + 6 = 6 * (q + 1) from by omega]
theorem part_succ (bs : List UInt8) (q kk : Nat) (h : 6 * q + kk < 8 * bs.length + 4) : part bs q (kk + 1) = 2 * part bs q kk + bitF bs (6 * q + kk) := by
  rw [bitF_acc bs _ h]
  unfold part
  have e : 8 * bs.length + 4 - (6 * q + kk) = (8 * bs.length + 4 - (6 * q + (kk + 1))) + 1 := by omega
  have e' : 8 * bs.length + 4 - 1 - (6 * q + kk) = 8 * bs.length + 4 - (6 * q + (kk + 1)) := by omega
  rw [e, e', Nat.pow_succ 2 (8 * bs.length + 4 - (6 * q + (kk + 1))), ← Nat.div_div_eq_div_mul]
  generalize acc bs * 16 / 2 ^ (8 * bs.length + 4 - (6 * q + (kk + 1))) = x
  rw [Nat.pow_succ, Nat.mul_comm (2 ^ kk) 2, Nat.mod_mul]
  omega
theorem part_lt (bs : List UInt8) (q kk : Nat) : part bs q kk < 2 ^ kk := Nat.mod_lt _ (Nat.two_pow_pos _)

/-- The number of a rune, as the code finds it. -/
def numF (u : Bool) (r : Int) : Option Nat :=
  if 65 ≤ r ∧ r ≤ 90 then some (r - 65).toNat
  else if 97 ≤ r ∧ r ≤ 122 then some ((r - 97).toNat + 26)
  else if 48 ≤ r ∧ r ≤ 57 then some ((r - 48).toNat + 52)
  else if r = (if u then 45 else 43) then some 62
  else if r = (if u then 95 else 47) then some 63
  else none
theorem numF_lt (u : Bool) (r : Int) (d : Nat) (h : numF u r = some d) : d < 64 ∧ 0 ≤ r ∧ r < 128 := by
  unfold numF at h
  cases u
  all_goals
    repeat' split at h
    all_goals first | (cases h; omega) | (cases h; done)

/-- Letters as one number. -/
def accD (u : Bool) (l : List UInt8) : Nat := l.foldl (fun a c => a * 64 + (numF u c.toNat).getD 0) 0
theorem accD_snoc (u : Bool) (l : List UInt8) (c : UInt8) : accD u (l ++ [c]) = accD u l * 64 + (numF u c.toNat).getD 0 := by simp [accD]
theorem accD_take (u : Bool) (l : List UInt8) (k : Nat) (h : k < l.length) : accD u (l.take (k + 1)) = accD u (l.take k) * 64 + (numF u (l.getD k 0).toNat).getD 0 := by
  rw [List.take_add_one, List.getElem?_eq_getElem h, List.getD_eq_getElem?_getD, List.getElem?_eq_getElem h]
  exact accD_snoc _ _ _

/-- The j-th eight bits of so many letters that are the number A. -/
def bx (m A j : Nat) : Nat := A / 2 ^ (6 * m - 8 * (j + 1)) % 256
theorem bx_lt (m A j : Nat) : bx m A j < 256 := Nat.mod_lt _ (by decide)
theorem bx_more (m A j d : Nat) (hd : d < 64) (h : 8 * (j + 1) ≤ 6 * m) : bx (m + 1) (A * 64 + d) j = bx m A j := by
  unfold bx
  rw [show 6 * (m + 1) - 8 * (j + 1) = 6 + (6 * m - 8 * (j + 1)) from by omega, Nat.pow_add, ← Nat.div_div_eq_div_mul]
  congr 2
  omega
def outs (m A q : Nat) : List UInt8 := (List.range q).map fun j => UInt8.ofNat (bx m A j)
theorem outs_length (m A q : Nat) : (outs m A q).length = q := by simp [outs]
theorem outs_snoc (m A q : Nat) : outs m A (q + 1) = outs m A q ++ [UInt8.ofNat (bx m A q)] := by simp [outs, List.range_succ]
theorem outs_more (m A q d : Nat) (hd : d < 64) (h : 8 * q ≤ 6 * m) : outs (m + 1) (A * 64 + d) q = outs m A q := by
  unfold outs
  refine List.map_congr_left fun j hj => ?_
  have := List.mem_range.1 hj
  rw [bx_more m A j d hd (by omega)]

/-- The bytes of letters. -/
def decF (u : Bool) (bs : List UInt8) : Option (List UInt8) :=
  if (∀ c ∈ bs, (numF u c.toNat).isSome = true) ∧ 6 * bs.length % 8 ≠ 6 ∧ accD u bs % 2 ^ (6 * bs.length % 8) = 0 then
    some (outs bs.length (accD u bs) (6 * bs.length / 8))
  else none

theorem bx_bits (m A q cnt : Nat) (h : 8 * q + cnt = 6 * m) (hc : 8 ≤ cnt) (hcm : cnt < 14) : A % 4294967296 / 2 ^ (cnt - 8) % 256 = bx m A q := by
  unfold bx
  rw [show 6 * m - 8 * (q + 1) = cnt - 8 from by omega]
  obtain ⟨d, hd⟩ : ∃ d, cnt - 8 = d := ⟨_, rfl⟩
  rw [hd]
  have : d ≤ 5 := by omega
  obtain rfl | rfl | rfl | rfl | rfl | rfl : d = 0 ∨ d = 1 ∨ d = 2 ∨ d = 3 ∨ d = 4 ∨ d = 5 := by omega
  all_goals omega
theorem low_bits (A cnt : Nat) (hc : cnt < 8) : A % 4294967296 % 2 ^ cnt = A % 2 ^ cnt := by
  obtain rfl | rfl | rfl | rfl | rfl | rfl | rfl | rfl : cnt = 0 ∨ cnt = 1 ∨ cnt = 2 ∨ cnt = 3 ∨ cnt = 4 ∨ cnt = 5 ∨ cnt = 6 ∨ cnt = 7 := by omega
  all_goals omega
theorem encF_length (u : Bool) (bs : List UInt8) : (encF u bs).length = (8 * bs.length + 5) / 6 := by unfold encF; rw [lets_length]
end Go.Proofs.YtkbcbikilgcckaaGreatDoor
namespace Go.Proofs.YtkbcbikilgcckaaGreatDoor
open Go.ChangeShapes Go.WideShapes Go.ChangeAt Go.RowKit Go.IntWalk
set_option linter.unusedVariables false

def lenF (n : Int) : Int := if n < 1 then 0 else n / 3 * 4 + (if n % 3 = 1 then 2 else if n % 3 = 2 then 3 else 0)

set_option maxHeartbeats 400000 in
theorem len_calls (n : Int) (w : World) (h : n ≤ 1152921504606846976) (h0 : 0 ≤ n) :
    Calls Tryz.prog 48 #[.int .i64 n] w fun e w' => e = .returned (.int .i64 (lenF n)) ∧ w = w' := by
  go_enter Tryz.func48, Tryz.ntmps48
  go_wp2
  all_goals go_ret
  all_goals refine ⟨ret_int ?_, rfl⟩
  · unfold lenF; rw [if_pos (by omega)]
  · unfold lenF; rw [if_neg (by omega), if_pos (by simpa using ‹(n % 3 == 1) = true›)]
  · unfold lenF; rw [if_neg (by omega), if_neg (by simpa using ‹(n % 3 == 1) = false›), if_pos (by simpa using ‹(n % 3 == 2) = true›)]
  · unfold lenF; rw [if_neg (by omega), if_neg (by simpa using ‹(n % 3 == 1) = false›), if_neg (by simpa using ‹(n % 3 == 2) = false›)]; simp

theorem len_any (n : Int) (w : World) (hn : -9223372036854775808 ≤ n ∧ n ≤ 9223372036854775807) :
    Calls Tryz.prog 48 #[.int .i64 n] w fun e w' => (∃ k, e = .returned (.int .i64 k) ∧ (n ≤ 0 → k = 0)) ∧ w = w' := by
  by_cases h0 : n < 1
  · go_enter Tryz.func48, Tryz.ntmps48
    go_wp2
    go_ret
    exact ⟨⟨0, rfl, fun _ => rfl⟩, rfl⟩
  · go_enter Tryz.func48, Tryz.ntmps48
    go_wp2
    all_goals go_ret
    all_goals exact ⟨⟨_, rfl, fun h => absurd h (by omega)⟩, rfl⟩
end Go.Proofs.YtkbcbikilgcckaaGreatDoor
namespace Go.Proofs.YtkbcbikilgcckaaGreatDoor
open Go.ChangeShapes Go.WideShapes Go.ChangeAt Go.RowKit Go.IntWalk
set_option linter.unusedVariables false
set_option maxRecDepth 100000

set_option maxHeartbeats 1000000 in
theorem number_calls (r : Int) (u : Bool) (w : World) (h : -2147483648 ≤ r ∧ r ≤ 2147483647) :
    Calls Tryz.prog 79 #[.int .i32 r, .bool u] w fun e w' => e = .returned (.tuple #[.int .u32 ((numF u r).getD 0 : Nat), .bool (numF u r).isSome]) ∧ w = w' := by
  cases u
  all_goals
    go_enter Tryz.func79, Tryz.ntmps79
    go_wp2
    all_goals go_ret2
    all_goals refine ⟨congrArg Ending.returned ?_, rfl⟩
    all_goals (unfold numF; (repeat' split) <;> (first | (exfalso; simp_all; done) | (exfalso; simp_all; omega) | (simp_all; done) | (simp_all; omega)))

theorem ascii_of_small (s : ByteArray) (pos : Nat) (h : pos < s.size) (hs : (Utf8.decode s pos).1 < 128) : Utf8.decode s pos = ((s.data.toList.getD pos 0).toNat, 1) := by
  have hb : (s[pos]'h).toNat < 128 := by
    rcases Nat.lt_or_ge (s[pos]'h).toNat 128 with h1 | h1
    · exact h1
    · have := (decode_high s pos h h1).1; omega
  rw [decode_ascii s pos h hb]
  have h' : pos < s.data.toList.length := h
  rw [List.getD_eq_getElem?_getD, List.getElem?_eq_getElem h']
  rfl

def DecPost (u : Bool) (bs : List UInt8) (base : Nat) (w : World) (e : Ending) (w' : World) : Prop :=
  (match decF u bs with
    | some o => ∃ v, e = .returned (.tuple #[v, .bool true]) ∧ OwnBs base w' v o
    | none => e = .returned (.tuple #[.slice none 0 0, .bool false])) ∧ Below w.heap.size w w'

theorem DecPost.no {u : Bool} {bs : List UInt8} {base : Nat} {w w' : World} (h : decF u bs = none) (hb : Below w.heap.size w w') : DecPost u bs base w (.returned (.tuple #[.slice none 0 0, .bool false])) w' := by
  unfold DecPost; rw [h]; exact ⟨rfl, hb⟩
theorem DecPost.yes {u : Bool} {bs o : List UInt8} {base : Nat} {w w' : World} {v : Value} (h : decF u bs = some o) (hv : OwnBs base w' v o) (hb : Below w.heap.size w w') : DecPost u bs base w (.returned (.tuple #[v, .bool true])) w' := by
  unfold DecPost; rw [h]; exact ⟨⟨v, rfl, hv⟩, hb⟩

theorem decF_bad {u : Bool} {bs : List UInt8} {k : Nat} (hk : k < bs.length) (h : numF u (bs.getD k 0).toNat = none) : decF u bs = none := by
  unfold decF
  rw [if_neg]
  rintro ⟨h1, _⟩
  have := h1 (bs.getD k 0) (by rw [List.getD_eq_getElem?_getD, List.getElem?_eq_getElem hk]; exact List.getElem_mem hk)
  rw [h] at this
  cases this
theorem numF_high {u : Bool} {c : UInt8} (h : 128 ≤ c.toNat) : numF u c.toNat = none := by
  cases hn : numF u c.toNat with
  | none => rfl
  | some d => have := numF_lt u _ d hn; omega

theorem ascii_of_byte (s : ByteArray) (pos : Nat) (h : pos < s.size) (hs : (s.data.toList.getD pos 0).toNat < 128) : Utf8.decode s pos = ((s.data.toList.getD pos 0).toNat, 1) := by
  have h' : pos < s.data.toList.length := h
  have e : s.data.toList.getD pos 0 = s[pos]'h := by rw [List.getD_eq_getElem?_getD, List.getElem?_eq_getElem h']; rfl
  rw [e] at hs ⊢
  exact decode_ascii s pos h hs
theorem num_at {u : Bool} {s : ByteArray} {pos : Nat} (h : pos < s.size) (hno : numF u (Utf8.decode s pos).1 = none) : numF u (s.data.toList.getD pos 0).toNat = none := by
  rcases Nat.lt_or_ge (s.data.toList.getD pos 0).toNat 128 with h1 | h1
  · rw [ascii_of_byte s pos h h1] at hno; exact hno
  · exact numF_high h1

set_option maxHeartbeats 2000000 in
theorem decode_calls (s : ByteArray) (u : Bool) (w : World) (hi : s.size ≤ 68719476736) :
    Calls Tryz.prog 49 #[.string s, .bool u] w (DecPost u s.data.toList w.heap.size w) := by
  obtain ⟨i0, hi0, hz0, hz1, hz2⟩ := info_parts infoU8
  have hsl : s.size = s.data.toList.length := rfl
  have HSL := Lib.hid hsl; clear hsl
  go_enter Tryz.func49, Tryz.ntmps49
  go_wp2_with (refine wpList_make_own _ rfl _ _ _ rfl w.heap.size 5 i0 (.int .u8 0) 1 Tryz.underlying65 hi0 hz0 hz1 .i64 .i64 ((s.size : Int) / 4 * 3 + 3) (s.size / 4 * 3 + 3) rfl rfl (by omega) (by rw [hz2]; omega) (by unfold maxLen; omega) (Nat.le_refl _) ?_; intro w1 hown hgrow)
  have hb1 : Below w.heap.size w w1 := (Below.refl _ _).grown hgrow (Nat.le_refl _) (fun k h => by cases h)
  have hb1' : Below w.heap.size w (w1.iter s 0) := hb1.alloc hb1.size _
  have hown1 : OwnBs w.heap.size (w1.iter s 0) (.slice (some ⟨w.heap.size, 0, none⟩) 0 (s.size / 4 * 3 + 3)) [] := World.ownsRow.alloc hown _
  have hit : (w1.iter s 0).heap[w1.heap.size]? = some (.stringIter s 0) := World.iter_heap w1 s 0
  clear hown hgrow
  go_loopw [6, 7, 8] (fun v b ct wr => ∃ k q r : Nat, k ≤ s.size ∧ b = .int .u32 ((accD u (s.data.toList.take k) % 4294967296 : Nat) : Int) ∧ 8 * q + r = 6 * k ∧ r < 8 ∧ ct = .int .i64 r ∧
      OwnBs w.heap.size wr v (outs k (accD u (s.data.toList.take k)) q) ∧ Below w.heap.size w wr ∧ wr.heap[w1.heap.size]? = some (.stringIter s k) ∧ (∀ c ∈ s.data.toList.take k, (numF u c.toNat).isSome = true))
     (fun _ _ _ wr => s.size - wr.iterPos w1.heap.size)
  case atStart => exact ⟨0, 0, 0, Nat.zero_le _, rfl, rfl, by omega, rfl, hown1, hb1', hit, by simp⟩
  case round =>
    clear hown1 hb1' hit
    obtain ⟨k, q, r, hk, rfl, hqr, hr, rfl, hown, hbr, hit, hall⟩ := hrel
    have HALL := Lib.hid hall; clear hall
    have hsz := hbr.size
    by_cases hp : k < s.size
    · have hnx := fun ty => Lib.run_next_any_at (P := Tryz.prog) wr w1.heap.size s k ty hit hp
      have hdl := decode_le s k
      by_cases hs : (numF u (Utf8.decode s k).1).isSome = true
      · obtain ⟨d, hd⟩ := Option.isSome_iff_exists.1 hs
        have hd64 := numF_lt _ _ _ hd
        have hasc := ascii_of_small s k hp (by omega)
        obtain ⟨C, hC⟩ : ∃ C, C = (s.data.toList.getD k 0).toNat := ⟨_, rfl⟩
        rw [← hC] at hasc
        rw [hasc] at hnx hd hdl hd64
        simp only at hnx hd hdl hd64
        have HC := Lib.hid hC; clear hC hs hasc
        have hk' : k < s.data.toList.length := by rw [← HSL.out]; exact hp
        obtain ⟨X, hX⟩ : ∃ X, X = accD u (s.data.toList.take k) % 4294967296 := ⟨_, rfl⟩
        have hY : bits BinOp.or IntKind.u32 ((X : Int) * 64 % 4294967296) d = ((accD u (s.data.toList.take (k + 1)) % 4294967296 : Nat) : Int) := by
          rw [hX, accD_take u _ k hk', ← HC.out, hd]
          rw [bits_join .u32 32 (by decide) wraps_u32 6 _ _ (by omega) (by omega) (by omega) (by omega) (by omega) (by omega)]
          simp only [Option.getD_some]
          omega
        rw [← hX]
        have hXl : X < 4294967296 := by omega
        have HX := Lib.hid hX; clear hX
        obtain ⟨Y, hY'⟩ : ∃ Y, Y = accD u (s.data.toList.take (k + 1)) % 4294967296 := ⟨_, rfl⟩
        rw [← hY'] at hY
        have hYl : Y < 4294967296 := by omega
        have HY := Lib.hid hY'; clear hY'
        have hown2 : OwnBs w.heap.size (wr.iterAt w1.heap.size s (k + 1)) u6 (outs (k + 1) (accD u (s.data.toList.take (k + 1))) q) := by
          rw [accD_take u _ k hk', outs_more k _ q _ (by rw [← HC.out, hd]; exact hd64.1) (by omega)]
          exact hown.iterAt hit _
        have hb2 := Lib.below_iterAt hbr hb1.size s (k + 1)
        have hit2 := Lib.iterAt_heap wr w1.heap.size s k (k + 1) hit
        have hall2 : Hid (∀ c ∈ s.data.toList.take (k + 1), (numF u c.toNat).isSome = true) := by
          intro c hc
          rw [List.take_add_one, List.getElem?_eq_getElem hk'] at hc
          simp only [Option.toList_some, List.mem_append, List.mem_singleton] at hc
          rcases hc with hc | rfl
          · exact HALL.out c hc
          · have e : s.data.toList[k] = s.data.toList.getD k 0 := by rw [List.getD_eq_getElem?_getD, List.getElem?_eq_getElem hk']; rfl
            rw [e, ← HC.out, hd]; rfl
        clear hown
        by_cases hr8 : 8 ≤ r + 6
        · have hsz2 := hb2.size
          have HBY : Hid (((Y : Int) / 2 ^ (r - 2) % 256) = (((UInt8.ofNat (bx (k + 1) (accD u (s.data.toList.take (k + 1))) q)).toNat : Nat) : Int)) := by
            have h1 := bx_bits (k + 1) (accD u (s.data.toList.take (k + 1))) q (r + 6) (by omega) hr8 (by omega)
            rw [← HY.out, show r + 6 - 8 = r - 2 from by omega] at h1
            have h2 : ((Y : Int) / 2 ^ (r - 2) % 256) = ((Y / 2 ^ (r - 2) % 256 : Nat) : Int) := by simp
            show _ = _
            rw [h2, h1]
            have := bx_lt (k + 1) (accD u (s.data.toList.take (k + 1))) q
            rw [UInt8.toNat_ofNat']
            omega
          have hlq := outs_length (k + 1) (accD u (s.data.toList.take (k + 1))) q
          go_wp2_with (first
            | (go_at_call 79; refine (number_calls _ _ _ (by omega)).mono ?_; rintro e w' ⟨rfl, rfl⟩)
            | (at_builtin; (refine wpList_append_u8 rfl (.tmp 43) (.tmp 48) rfl w.heap.size _ _ rfl hown2 (UInt8.ofNat (bx (k + 1) (accD u (s.data.toList.take (k + 1))) q)) HBY.out rfl (by rw [hlq]; omega) (by omega) ?_; intro v' w2 hown' hgrow')))
          have hb3 : Below w.heap.size w w2 := hb2.grown hgrow' hsz2 (fun k hk => (hown2.lt k hk).1)
          have hit3 : w2.heap[w1.heap.size]? = some (.stringIter s (k + 1)) := (hgrow'.block _ (Array.getElem?_eq_some_iff.1 hit2).1 (hown2.ne hit2 (by intro c f h; cases h))).trans hit2
          rw [← outs_snoc] at hown'
          go_roundw
          case rel => exact ⟨k + 1, q + 1, r - 2, by omega, by rw [HY.out], by omega, by omega, by go_num, hown', hb3, hit3, hall2.out⟩
          case measure =>
            have e1 : w2.iterPos w1.heap.size = k + 1 := by simp [World.iterPos, hit3]
            have e2 : wr.iterPos w1.heap.size = k := by simp [World.iterPos, hit]
            rw [e1, e2]; omega
        · go_wp2_with (go_at_call 79; refine (number_calls _ _ _ (by omega)).mono ?_; rintro e w' ⟨rfl, rfl⟩)
          go_roundw
          case rel => exact ⟨k + 1, q, r + 6, by omega, by rw [HY.out], by omega, by omega, by go_num, hown2, hb2, hit2, hall2.out⟩
          case measure =>
            have e1 : (wr.iterAt w1.heap.size s (k + 1)).iterPos w1.heap.size = k + 1 := by simp [World.iterPos, hit2]
            have e2 : wr.iterPos w1.heap.size = k := by simp [World.iterPos, hit]
            rw [e1, e2]; omega
      · have hno : (numF u (Utf8.decode s k).1) = none := by simpa using hs
        go_wp2_with (go_at_call 79; refine (number_calls _ _ _ (by omega)).mono ?_; rintro e w' ⟨rfl, rfl⟩)
        go_ret2
        refine DecPost.no (decF_bad (k := k) (by rw [← HSL.out]; exact hp) ?_) (Lib.below_iterAt hbr hb1.size _ _)
        exact num_at hp hno
    · have hkn : k = s.size := by omega
      have hbs : s.data.toList.take k = s.data.toList := by rw [hkn, HSL.out]; exact List.take_length
      rw [hbs] at hown HALL ⊢
      have hnx := fun ty => Lib.run_next_end_at (P := Tryz.prog) wr w1.heap.size s k ty hit hp
      obtain ⟨X, hX⟩ : ∃ X, X = accD u s.data.toList % 4294967296 := ⟨_, rfl⟩
      rw [← hX]
      have hXl : X < 4294967296 := by omega
      have HX := Lib.hid hX; clear hX
      have HR : Hid (r = 6 * s.data.toList.length % 8) := by show _ = _; rw [← HSL.out, ← hkn]; omega
      have HQ : Hid (q = 6 * s.data.toList.length / 8) := by show _ = _; rw [← HSL.out, ← hkn]; omega
      have hno : r = 6 ∨ accD u s.data.toList % 2 ^ r ≠ 0 → decF u s.data.toList = none := by
        intro h
        unfold decF
        rw [if_neg]
        rintro ⟨_, h2, h3⟩
        rw [← HR.out] at h2 h3
        rcases h with h | h
        · exact h2 h
        · exact h h3
      have hyes : r ≠ 6 → accD u s.data.toList % 2 ^ r = 0 → decF u s.data.toList = some (outs k (accD u s.data.toList) q) := by
        intro h1 h2
        unfold decF
        rw [if_pos ⟨HALL.out, by rw [← HR.out]; exact h1, by rw [← HR.out]; exact h2⟩, ← HSL.out, ← hkn]
        congr 2
        have := HQ.out
        rw [← HSL.out, ← hkn] at this
        exact this.symm
      have HLB := Lib.hid (fun c (hc : c < 8) => low_bits (accD u s.data.toList) c hc)
      rw [← HX.out] at HLB
      have HNO := Lib.hid hno; clear hno
      have HYES := Lib.hid hyes; clear hyes
      have HKN := Lib.hid hkn; clear hkn
      clear hbs
      have hr4 : r = 0 ∨ r = 2 ∨ r = 4 ∨ r = 6 := by omega
      rcases hr4 with rfl | rfl | rfl | rfl
      · have hz : bits BinOp.and .u32 (X : Int) 0 = 0 := bits_mask .u32 32 (by decide) wraps_u32 0 (by decide) _ (by omega) (by omega) |>.trans (by omega)
        go_wp2
        go_ret2
        exact DecPost.yes (HYES.out (by decide) (by omega)) hown hbr
      · have hz : bits BinOp.and .u32 (X : Int) 3 = (X : Int) % 4 := bits_mask .u32 32 (by decide) wraps_u32 2 (by decide) _ (by omega) (by omega)
        by_cases hx0 : X % 4 = 0
        · have hz0 : ((X : Int) % 4 == 0) = true := by simp; omega
          go_wp2
          go_ret2
          exact DecPost.yes (HYES.out (by decide) (by rw [← HLB.out 2 (by decide)]; exact hx0)) hown hbr
        · have hz0 : ((X : Int) % 4 == 0) = false := by simp; omega
          go_wp2
          go_ret2
          exact DecPost.no (HNO.out (.inr (by rw [← HLB.out 2 (by decide)]; exact hx0))) hbr
      · have hz : bits BinOp.and .u32 (X : Int) 15 = (X : Int) % 16 := bits_mask .u32 32 (by decide) wraps_u32 4 (by decide) _ (by omega) (by omega)
        by_cases hx0 : X % 16 = 0
        · have hz0 : ((X : Int) % 16 == 0) = true := by simp; omega
          go_wp2
          go_ret2
          exact DecPost.yes (HYES.out (by decide) (by rw [← HLB.out 4 (by decide)]; exact hx0)) hown hbr
        · have hz0 : ((X : Int) % 16 == 0) = false := by simp; omega
          go_wp2
          go_ret2
          exact DecPost.no (HNO.out (.inr (by rw [← HLB.out 4 (by decide)]; exact hx0))) hbr
      · go_wp2
        go_ret2
        exact DecPost.no (HNO.out (by simp)) hbr

theorem DecPost.open_ {u : Bool} {bs : List UInt8} {base : Nat} {w w' : World} {e : Ending} (h : DecPost u bs base w e w') :
    ∃ A n c, e = .returned (.tuple #[.slice A n c, .bool (decF u bs).isSome]) ∧ RB w' A ((decF u bs).getD []) ∧ Hid (n = ((decF u bs).getD []).length) ∧ Below w.heap.size w w' ∧
      (∀ o, decF u bs = some o → OwnBs base w' (.slice A n c) o) := by
  unfold DecPost at h
  obtain ⟨h, hb⟩ := h
  cases hd : decF u bs with
  | none => rw [hd] at h; exact ⟨none, 0, 0, h, fun k hk => absurd hk (by simp), rfl, hb, fun o h => by cases h⟩
  | some o =>
    rw [hd] at h
    obtain ⟨v, he, hv⟩ := h
    obtain ⟨A, n, c, rfl, hrb, hn⟩ := hv.form
    exact ⟨A, n, c, he, hrb, hn, hb, fun o h => by cases h; exact hv⟩

theorem decode_list (l : List UInt8) (u : Bool) (w : World) (hi : l.length ≤ 68719476736) :
    Calls Tryz.prog 49 #[.string ⟨l.toArray⟩, .bool u] w (DecPost u l w.heap.size w) := by
  have := decode_calls ⟨l.toArray⟩ u w hi
  simpa using this
end Go.Proofs.YtkbcbikilgcckaaGreatDoor
namespace Go.Proofs.YtkbcbikilgcckaaGreatDoor
open Go.ChangeShapes Go.WideShapes Go.ChangeAt Go.RowKit Go.IntWalk
set_option linter.unusedVariables false

set_option maxHeartbeats 400000 in
theorem letter_calls (n : Int) (u : Bool) (w : World) (h : n < 64) (h0 : 0 ≤ n) :
    Calls Tryz.prog 124 #[.int .i64 n, .bool u] w fun e w' => e = .returned (.int .u8 (letF u n.toNat)) ∧ w = w' := by
  by_cases h1 : n < 26
  · go_enter Tryz.func124, Tryz.ntmps124
    go_wp2
    go_ret
    refine ⟨ret_int ?_, rfl⟩
    rw [letF_lo u _ (by omega)]; omega
  by_cases h2 : n < 52
  · go_enter Tryz.func124, Tryz.ntmps124
    go_wp2
    go_ret
    refine ⟨ret_int ?_, rfl⟩
    rw [show n.toNat = 26 + (n - 26).toNat from by omega, letF_mid u _ (by omega)]; omega
  by_cases h3 : n < 62
  · go_enter Tryz.func124, Tryz.ntmps124
    go_wp2
    go_ret
    refine ⟨ret_int ?_, rfl⟩
    rw [show n.toNat = 52 + (n - 52).toNat from by omega, letF_dig u _ (by omega)]; omega
  · obtain rfl | rfl : n = 62 ∨ n = 63 := by omega
    all_goals
      cases u
      all_goals
        go_enter Tryz.func124, Tryz.ntmps124
        go_wp2
        go_ret
        exact ⟨rfl, rfl⟩
end Go.Proofs.YtkbcbikilgcckaaGreatDoor
namespace Go.Proofs.YtkbcbikilgcckaaGreatDoor
set_option linter.unusedVariables false

theorem numF_letB (u : Bool) : ∀ n, n < 64 → numF u (letB u n).toNat = some n := by
  cases u <;> decide
set_option maxRecDepth 100000 in
theorem letB_numF_all (u : Bool) : ∀ c : Fin 256, ((numF u (c.val : Nat)).all fun d => letB u d == UInt8.ofNat c.val) = true := by
  cases u <;> decide
theorem letB_numF (u : Bool) (c : UInt8) (d : Nat) (h : numF u c.toNat = some d) : letB u d = c := by
  have h1 := letB_numF_all u ⟨c.toNat, c.toNat_lt⟩
  rw [h] at h1
  simpa using h1

theorem accD_digit (u : Bool) (l : List UInt8) : ∀ k, k ≤ l.length → ∀ j, j < k → accD u (l.take k) / 2 ^ (6 * (k - 1 - j)) % 64 = (numF u (l.getD j 0).toNat).getD 0 := by
  intro k
  induction k with
  | zero => intro _ j hj; omega
  | succ k ih =>
    intro hk j hj
    rw [accD_take u l k (by omega)]
    have hb : (numF u (l.getD k 0).toNat).getD 0 < 64 := by
      cases h : numF u (l.getD k 0).toNat with
      | none => simp
      | some d => have := numF_lt u _ d h; simp; omega
    by_cases hjk : j = k
    · subst hjk
      rw [show 6 * (j + 1 - 1 - j) = 0 from by omega]
      omega
    · rw [← ih (by omega) j (by omega), show 6 * (k + 1 - 1 - j) = 6 + 6 * (k - 1 - j) from by omega, Nat.pow_add, ← Nat.div_div_eq_div_mul]
      congr 2
      omega

/-- The bit at place p of letters that are the number A, m of them. -/
def bitD (m A p : Nat) : Nat := A / 2 ^ (6 * m - 1 - p) % 2
theorem bitD_digit (u : Bool) (bs : List UInt8) (i k d : Nat) (hi : i < bs.length) (hk : k < 6) (hd : numF u (bs.getD i 0).toNat = some d) :
    bitD bs.length (accD u bs) (6 * i + k) = d / 2 ^ (5 - k) % 2 := by
  have h := accD_digit u bs bs.length (Nat.le_refl _) i hi
  rw [List.take_length, hd] at h
  simp only [Option.getD_some] at h
  unfold bitD
  rw [show 6 * bs.length - 1 - (6 * i + k) = 6 * (bs.length - 1 - i) + (5 - k) from by omega, Nat.pow_add, ← Nat.div_div_eq_div_mul]
  generalize accD u bs / 2 ^ (6 * (bs.length - 1 - i)) = x at *
  subst h
  obtain ⟨e, he⟩ : ∃ e, 5 - k = e := ⟨_, rfl⟩
  rw [he]
  obtain rfl | rfl | rfl | rfl | rfl | rfl : e = 0 ∨ e = 1 ∨ e = 2 ∨ e = 3 ∨ e = 4 ∨ e = 5 := by omega
  all_goals omega

/-- Byte j when the first p bits have been laid. -/
def laid (m A j p : Nat) : Nat := if p ≤ 8 * j then 0 else if 8 * j + 8 ≤ p then A / 2 ^ (6 * m - 8 * j - 8) % 256 else A / 2 ^ (6 * m - p) % 2 ^ (p - 8 * j) * 2 ^ (8 * j + 8 - p)
theorem laid_zero (m A j : Nat) : laid m A j 0 = 0 := by unfold laid; rw [if_pos (by omega)]
theorem laid_lt (m A j p : Nat) : laid m A j p < 256 := by
  unfold laid
  split
  · omega
  · split
    · omega
    · rename_i h1 h2
      have : A / 2 ^ (6 * m - p) % 2 ^ (p - 8 * j) < 2 ^ (p - 8 * j) := Nat.mod_lt _ (Nat.two_pow_pos _)
      calc A / 2 ^ (6 * m - p) % 2 ^ (p - 8 * j) * 2 ^ (8 * j + 8 - p) < 2 ^ (p - 8 * j) * 2 ^ (8 * j + 8 - p) := Nat.mul_lt_mul_of_pos_right this (Nat.two_pow_pos _)
        _ = 256 := by rw [← Nat.pow_add, show p - 8 * j + (8 * j + 8 - p) = 8 from by omega]
theorem laid_other (m A j p : Nat) (h : j ≠ p / 8) : laid m A j (p + 1) = laid m A j p := by
  unfold laid
  by_cases h1 : p + 1 ≤ 8 * j
  · rw [if_pos h1, if_pos (by omega)]
  · rw [if_neg h1, if_neg (show ¬ p ≤ 8 * j from by omega), if_pos (show 8 * j + 8 ≤ p + 1 from by omega), if_pos (show 8 * j + 8 ≤ p from by omega)]

theorem laid_here (m A p : Nat) (hp : p < 6 * m) : laid m A (p / 8) (p + 1) = laid m A (p / 8) p + bitD m A p * 2 ^ (7 - p % 8) ∧ laid m A (p / 8) p % 2 ^ (8 - p % 8) = 0 := by
  obtain ⟨e, he⟩ : ∃ e, p % 8 = e := ⟨_, rfl⟩
  obtain ⟨j, hj⟩ : ∃ j, p / 8 = j := ⟨_, rfl⟩
  have hpe : p = 8 * j + e := by omega
  have he8 : e < 8 := by omega
  rw [he, hj]
  have hx : A / 2 ^ (6 * m - p) = A / 2 ^ (6 * m - 1 - p) / 2 := by
    rw [Nat.div_div_eq_div_mul, show 6 * m - p = 6 * m - 1 - p + 1 from by omega, Nat.pow_succ]
  unfold laid bitD
  rw [if_neg (show ¬ p + 1 ≤ 8 * j from by omega)]
  by_cases h0 : e = 0
  · subst h0
    rw [if_pos (show p ≤ 8 * j from by omega), if_neg (show ¬ 8 * j + 8 ≤ p + 1 from by omega)]
    rw [show p + 1 - 8 * j = 1 from by omega, show 8 * j + 8 - (p + 1) = 7 from by omega, show 6 * m - (p + 1) = 6 * m - 1 - p from by omega]
    omega
  · rw [if_neg (show ¬ p ≤ 8 * j from by omega), if_neg (show ¬ 8 * j + 8 ≤ p from by omega)]
    rw [hx, show p - 8 * j = e from by omega, show 8 * j + 8 - p = 8 - e from by omega]
    by_cases h7 : e = 7
    · subst h7
      rw [if_pos (show 8 * j + 8 ≤ p + 1 from by omega), show 6 * m - 8 * j - 8 = 6 * m - 1 - p from by omega]
      omega
    · rw [if_neg (show ¬ 8 * j + 8 ≤ p + 1 from by omega), show p + 1 - 8 * j = e + 1 from by omega, show 8 * j + 8 - (p + 1) = 7 - e from by omega, show 6 * m - (p + 1) = 6 * m - 1 - p from by omega]
      generalize A / 2 ^ (6 * m - 1 - p) = x
      obtain rfl | rfl | rfl | rfl | rfl | rfl : e = 1 ∨ e = 2 ∨ e = 3 ∨ e = 4 ∨ e = 5 ∨ e = 6 := by omega
      all_goals omega

theorem laid_end (m A j : Nat) (h : 8 * j + 8 ≤ 6 * m) : laid m A j (6 * m) = bx m A j := by
  unfold laid bx
  rw [if_neg (by omega), if_pos h, show 6 * m - 8 * j - 8 = 6 * m - 8 * (j + 1) from by omega]

/-- The bytes when the first p bits have been laid. -/
def laids (m A L p : Nat) : List UInt8 := (List.range L).map fun j => UInt8.ofNat (laid m A j p)
theorem laids_length (m A L p : Nat) : (laids m A L p).length = L := by simp [laids]
theorem laids_zero (m A L : Nat) : laids m A L 0 = List.replicate L 0 := by
  refine List.ext_getElem (by simp [laids]) fun j h1 h2 => ?_
  simp [laids, laid_zero]
theorem laids_end (m A L : Nat) (h : 8 * L ≤ 6 * m) : laids m A L (6 * m) = outs m A L := by
  unfold laids outs
  refine List.map_congr_left fun j hj => ?_
  have := List.mem_range.1 hj
  rw [laid_end m A j (by omega)]
theorem laids_stay (m A L p : Nat) (hp : p < 6 * m) (h : bitD m A p = 0) : laids m A L (p + 1) = laids m A L p := by
  unfold laids
  refine List.map_congr_left fun j hj => ?_
  by_cases hj : j = p / 8
  · subst hj; rw [(laid_here m A p hp).1, h]; simp
  · rw [laid_other m A j p hj]
theorem laids_past (m A L p : Nat) (h : L ≤ p / 8) : laids m A L (p + 1) = laids m A L p := by
  unfold laids
  refine List.map_congr_left fun j hj => ?_
  have := List.mem_range.1 hj
  rw [laid_other m A j p (by omega)]
theorem laids_set (m A L p : Nat) (hp : p < 6 * m) (h : bitD m A p = 1) (hL : p / 8 < L) :
    laids m A L (p + 1) = (laids m A L p).set (p / 8) (UInt8.ofNat (laid m A (p / 8) p ||| 2 ^ (7 - p % 8))) := by
  refine List.ext_getElem (by simp [laids]) fun j h1 h2 => ?_
  simp only [laids, List.getElem_map, List.getElem_range, List.getElem_set]
  by_cases hj : p / 8 = j
  · rw [if_pos hj]
    subst hj
    have hh := laid_here m A p hp
    rw [h] at hh
    rw [hh.1, nat_join (8 - p % 8) _ _ hh.2 (Nat.pow_lt_pow_right (by decide) (by omega)), Nat.one_mul]
  · rw [if_neg hj, laid_other m A j p (fun e => hj e.symm)]
theorem laids_get (m A L p j : Nat) (h : j < L) : ((laids m A L p).getD j 0).toNat = laid m A j p := by
  have h' : j < (laids m A L p).length := by rw [laids_length]; exact h
  rw [List.getD_eq_getElem?_getD, List.getElem?_eq_getElem h']
  simp only [laids, List.getElem_map, List.getElem_range, Option.getD_some, UInt8.toNat_ofNat']
  have := laid_lt m A j p
  omega

/-- The bits behind the last byte, of the first p. -/
def tail (m A p : Nat) : Prop := ∀ t, 8 * (6 * m / 8) ≤ t → t < p → bitD m A t = 0
theorem tail_all (m A : Nat) (h : tail m A (6 * m)) : A % 2 ^ (6 * m % 8) = 0 := by
  have hb : ∀ e, e ≤ 6 * m % 8 → A % 2 ^ e = 0 := by
    intro e
    induction e with
    | zero => intro _; omega
    | succ e ih =>
      intro he
      have h1 := h (6 * m - 1 - e) (by omega) (by omega)
      unfold bitD at h1
      rw [show 6 * m - 1 - (6 * m - 1 - e) = e from by omega] at h1
      have h2 := ih (by omega)
      rw [Nat.pow_succ, Nat.mod_mul, h2, h1]; simp
  exact hb _ (Nat.le_refl _)
theorem tail_no (m A t : Nat) (h : bitD m A t ≠ 0) (h1 : 8 * (6 * m / 8) ≤ t) (h2 : t < 6 * m) : A % 2 ^ (6 * m % 8) ≠ 0 := by
  intro h0
  apply h
  unfold bitD
  obtain ⟨e, he⟩ : ∃ e, 6 * m - 1 - t = e := ⟨_, rfl⟩
  rw [he]
  have hle : e < 6 * m % 8 := by omega
  have : A % 2 ^ (e + 1) = 0 := by
    have hd : (2 : Nat) ^ (e + 1) ∣ 2 ^ (6 * m % 8) := Nat.pow_dvd_pow 2 (by omega)
    rw [← Nat.mod_mod_of_dvd A hd, h0]; simp
  rw [Nat.pow_succ, Nat.mod_mul] at this
  have hp := Nat.two_pow_pos e
  have h3 : 2 ^ e * (A / 2 ^ e % 2) = 0 := by omega
  rcases Nat.mul_eq_zero.1 h3 with h4 | h4
  · omega
  · exact h4
end Go.Proofs.YtkbcbikilgcckaaGreatDoor
