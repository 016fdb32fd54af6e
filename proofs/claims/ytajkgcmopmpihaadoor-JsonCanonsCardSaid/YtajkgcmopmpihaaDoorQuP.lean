/- Layer 8, no run: the rune that bytes begin with, by the document's own way. -/
import Derived.Test.YtajkgcmopmpihaaDoorStr
import Derived.Lib.ValidLaws
import Derived.Lib.MapLaws
import Derived.Lib.TrimUEq
import Derived.Lib.DecodeNEq
namespace Go.Proofs.YtajkgcmopmpihaaDoor
open Go.Lib
set_option linter.unusedVariables false

/-- no rune stands ahead -/
def NoR (l : List UInt8) : Prop := (decodeL l).1 = 65533 ∧ (decodeL l).2 = 1
instance (l : List UInt8) : Decidable (NoR l) := by unfold NoR; infer_instance
def runeF (l : List UInt8) : Nat × Nat := if l = [] ∨ NoR l then (0, 0) else decodeL l

theorem runeF_nil : runeF [] = (0, 0) := by simp [runeF]
theorem runeF_of {l : List UInt8} (h : l ≠ []) : runeF l = if NoR l then (0, 0) else decodeL l := by simp [runeF, h]

def refN (n b0 b1 b2 b3 : Nat) : Nat × Nat := if (decodeN n b0 b1 b2 b3).1 = 65533 ∧ (decodeN n b0 b1 b2 b3).2 = 1 then (0, 0) else decodeN n b0 b1 b2 b3
theorem runeF_N {l : List UInt8} (h : l ≠ []) : runeF l = refN l.length (l.getD 0 0).toNat (l.getD 1 0).toNat (l.getD 2 0).toNat (l.getD 3 0).toNat := by
  rw [runeF_of h]; unfold NoR refN; simp only [decodeL_N]

theorem ref_1 {n b0 b1 b2 b3 : Nat} (h : b0 < 128) : refN n b0 b1 b2 b3 = (b0, 1) := by
  have : decodeN n b0 b1 b2 b3 = (b0, 1) := by simp [decodeN, h]
  unfold refN; rw [this]; simp; omega
theorem ref_0 {n b0 b1 b2 b3 : Nat} (h0 : b0 < 256) (h : 128 ≤ b0 ∧ b0 < 192 ∨ 248 ≤ b0) : refN n b0 b1 b2 b3 = (0, 0) := by
  have : decodeN n b0 b1 b2 b3 = (65533, 1) := by
    unfold decodeN
    rw [if_neg (by omega), if_neg (by omega), if_neg (by omega), if_neg (by omega)]
  unfold refN; rw [this]; simp
def okC (least c : Nat) : Bool := decide (least ≤ c ∧ c ≤ 1114111 ∧ (c < 55296 ∨ 57343 < c))
def contB (b : Nat) : Bool := decide (128 ≤ b ∧ b < 192)
set_option maxHeartbeats 2000000 in
theorem ref_2 {n b0 b1 b2 b3 : Nat} (h : 192 ≤ b0 ∧ b0 < 224) : refN n b0 b1 b2 b3 =
    if 2 ≤ n ∧ contB b1 = true ∧ okC 128 (b0 % 32 * 64 + b1 % 64) = true then (b0 % 32 * 64 + b1 % 64, 2) else (0, 0) := by
  have e : decodeN n b0 b1 b2 b3 = if 1 < n ∧ b1 / 64 = 2 then (if b0 % 32 * 64 + b1 % 64 ≥ 128 then (b0 % 32 * 64 + b1 % 64, 2) else (65533, 1)) else (65533, 1) := by
    unfold decodeN
    have a1 : b0 / 32 = 6 := by omega
    rw [if_neg (by omega)]
    simp only [a1, true_and]
    by_cases hc : 1 < n ∧ b1 / 64 = 2
    · rw [if_pos hc, if_pos hc]
    · rw [if_neg hc, if_neg hc, if_neg (by omega), if_neg (by omega)]
  unfold refN; rw [e]
  simp only [okC, contB, decide_eq_true_eq]
  repeat' split
  all_goals first | rfl | (exfalso; omega) | (exfalso; simp_all <;> omega)
set_option maxHeartbeats 2000000 in
theorem ref_3 {n b0 b1 b2 b3 : Nat} (h : 224 ≤ b0 ∧ b0 < 240) : refN n b0 b1 b2 b3 =
    if 3 ≤ n ∧ contB b1 = true ∧ contB b2 = true ∧ okC 2048 ((b0 % 16 * 64 + b1 % 64) * 64 + b2 % 64) = true then ((b0 % 16 * 64 + b1 % 64) * 64 + b2 % 64, 3) else (0, 0) := by
  have e : decodeN n b0 b1 b2 b3 = if (1 < n ∧ b1 / 64 = 2) ∧ (2 < n ∧ b2 / 64 = 2) then
    (if b0 % 16 * 4096 + b1 % 64 * 64 + b2 % 64 ≥ 2048 ∧ (b0 % 16 * 4096 + b1 % 64 * 64 + b2 % 64 < 55296 ∨ (57344 ≤ b0 % 16 * 4096 + b1 % 64 * 64 + b2 % 64 ∧ b0 % 16 * 4096 + b1 % 64 * 64 + b2 % 64 ≤ 1114111))
     then (b0 % 16 * 4096 + b1 % 64 * 64 + b2 % 64, 3) else (65533, 1)) else (65533, 1) := by
    unfold decodeN
    have a1 : b0 / 16 = 14 := by omega
    rw [if_neg (by omega), if_neg (by omega)]
    simp only [a1, true_and]
    rw [if_neg (show ¬ (b0 / 8 = 30 ∧ _) by omega)]
  have ec : (b0 % 16 * 64 + b1 % 64) * 64 + b2 % 64 = b0 % 16 * 4096 + b1 % 64 * 64 + b2 % 64 := by omega
  unfold refN; rw [e, ec]
  generalize hC : b0 % 16 * 4096 + b1 % 64 * 64 + b2 % 64 = C
  simp only [okC, contB, decide_eq_true_eq]
  repeat' split
  all_goals first | rfl | (exfalso; omega) | (exfalso; simp_all <;> omega)
set_option maxHeartbeats 2000000 in
theorem ref_4 {n b0 b1 b2 b3 : Nat} (h : 240 ≤ b0 ∧ b0 < 248) : refN n b0 b1 b2 b3 =
    if 4 ≤ n ∧ contB b1 = true ∧ contB b2 = true ∧ contB b3 = true ∧ okC 65536 (((b0 % 8 * 64 + b1 % 64) * 64 + b2 % 64) * 64 + b3 % 64) = true then (((b0 % 8 * 64 + b1 % 64) * 64 + b2 % 64) * 64 + b3 % 64, 4) else (0, 0) := by
  have e : decodeN n b0 b1 b2 b3 = if (1 < n ∧ b1 / 64 = 2) ∧ (2 < n ∧ b2 / 64 = 2) ∧ (3 < n ∧ b3 / 64 = 2) then
    (if b0 % 8 * 262144 + b1 % 64 * 4096 + b2 % 64 * 64 + b3 % 64 ≥ 65536 ∧ (b0 % 8 * 262144 + b1 % 64 * 4096 + b2 % 64 * 64 + b3 % 64 < 55296 ∨ (57344 ≤ b0 % 8 * 262144 + b1 % 64 * 4096 + b2 % 64 * 64 + b3 % 64 ∧ b0 % 8 * 262144 + b1 % 64 * 4096 + b2 % 64 * 64 + b3 % 64 ≤ 1114111))
     then (b0 % 8 * 262144 + b1 % 64 * 4096 + b2 % 64 * 64 + b3 % 64, 4) else (65533, 1)) else (65533, 1) := by
    unfold decodeN
    have a1 : b0 / 8 = 30 := by omega
    rw [if_neg (by omega), if_neg (by omega), if_neg (by omega)]
    simp only [a1, true_and]
  have ec : ((b0 % 8 * 64 + b1 % 64) * 64 + b2 % 64) * 64 + b3 % 64 = b0 % 8 * 262144 + b1 % 64 * 4096 + b2 % 64 * 64 + b3 % 64 := by omega
  unfold refN; rw [e, ec]
  generalize hC : b0 % 8 * 262144 + b1 % 64 * 4096 + b2 % 64 * 64 + b3 % 64 = C
  simp only [okC, contB, decide_eq_true_eq]
  repeat' split
  all_goals first | rfl | (exfalso; omega) | (exfalso; simp_all <;> omega)

/-- what told decides -/
theorem noR_iff (l : List UInt8) (hne : l ≠ []) (h : (decodeL l).1 = 65533) : NoR l ↔ hasPrefix l [239, 191, 189] = false := by
  constructor
  · intro hn
    cases hp : hasPrefix l [239, 191, 189]
    · rfl
    · exfalso
      obtain ⟨t, rfl⟩ : ∃ t, l = 239 :: 191 :: 189 :: t := by
        match l, hp with
        | a :: b :: c :: t, hp => simp [hasPrefix] at hp; obtain ⟨rfl, rfl, rfl⟩ := hp; exact ⟨t, rfl⟩
        | [], hp => simp [hasPrefix] at hp
        | [_], hp => simp [hasPrefix] at hp
        | [_, _], hp => simp [hasPrefix] at hp
      have h2 := hn.2
      rw [decodeL_N] at h2
      have e : decodeN (t.length + 3) 239 191 189 ((239 :: 191 :: 189 :: t : List UInt8).getD 3 0).toNat = (65533, 3) := by
        unfold decodeN
        rw [if_neg (by omega), if_neg (by omega), if_pos (by omega), if_pos (by omega)]
      have e2 : decodeN (239 :: 191 :: 189 :: t : List UInt8).length ((239 :: 191 :: 189 :: t : List UInt8).getD 0 0).toNat ((239 :: 191 :: 189 :: t : List UInt8).getD 1 0).toNat ((239 :: 191 :: 189 :: t : List UInt8).getD 2 0).toNat ((239 :: 191 :: 189 :: t : List UInt8).getD 3 0).toNat = (65533, 3) := e
      rw [e2] at h2
      exact absurd h2 (by decide)
  · intro hp
    by_cases hn : NoR l
    · exact hn
    · exfalso
      have he := encode_decode l hne hn
      rw [h] at he
      have e : encodeRune ((65533 : Nat) : Int) = [239, 191, 189] := by decide
      rw [e] at he
      have hl : l = [239, 191, 189] ++ l.drop (decodeL l).2 := by rw [he, List.take_append_drop]
      rw [hl] at hp
      simp [hasPrefix] at hp
end Go.Proofs.YtajkgcmopmpihaaDoor
