/- Layer 8, no run: a byte's escape. -/
import Derived.Test.YtajkgcmopmpihaaDoorQuC
namespace Go.Proofs.YtajkgcmopmpihaaDoor
open Go.Lib
set_option linter.unusedVariables false

def hexB (n : Nat) : UInt8 := if n < 10 then UInt8.ofNat (48 + n) else UInt8.ofNat (87 + n)
def escB (c : UInt8) : List UInt8 :=
  if c = 34 ∨ c = 92 then [92, c]
  else if c = 8 then [92, 98] else if c = 9 then [92, 116] else if c = 10 then [92, 110] else if c = 12 then [92, 102] else if c = 13 then [92, 114]
  else if c.toNat < 32 then [92, 117, 48, 48, hexB (c.toNat / 16), hexB (c.toNat % 16)]
  else [c]
def escL (l : List UInt8) : List UInt8 := l.flatMap escB
def putF (l : List UInt8) : List UInt8 := if validD l then 34 :: escL l ++ [34] else []
theorem escL_take (l : List UInt8) (i : Nat) (h : i < l.length) : escL (l.take (i + 1)) = escL (l.take i) ++ escB l[i] := by
  unfold escL
  rw [List.take_add_one, List.getElem?_eq_getElem h, Option.toList_some, List.flatMap_append, List.flatMap_cons, List.flatMap_nil, List.append_nil]
theorem escB_len (c : UInt8) : (escB c).length ≤ 6 := by
  unfold escB
  by_cases h1 : c = 34 ∨ c = 92
  · rw [if_pos h1]; simp only [List.length_cons, List.length_nil]; omega
  rw [if_neg h1]
  repeat' split
  all_goals (simp only [List.length_cons, List.length_nil]; omega)
theorem escL_len : ∀ l : List UInt8, (escL l).length ≤ 6 * l.length
  | [] => by simp [escL]
  | c :: l => by
    have h1 := escB_len c
    have h2 := escL_len l
    simp only [escL, List.flatMap_cons, List.length_append, List.length_cons] at *
    omega
theorem escL_take_len (l : List UInt8) (i : Nat) (h : i ≤ l.length) : (escL (l.take i)).length ≤ 6 * i := by
  have := escL_len (l.take i)
  rw [List.length_take] at this
  omega
theorem escB_plain (c : UInt8) (h : 128 ≤ c.toNat) : escB c = [c] := by
  have e : ∀ d : UInt8, d.toNat < 128 → c ≠ d := fun d hd hc => by rw [hc] at h; omega
  unfold escB
  rw [if_neg (by intro h; rcases h with h | h; exact e 34 (by decide) h; exact e 92 (by decide) h), if_neg (e 8 (by decide)), if_neg (e 9 (by decide)), if_neg (e 10 (by decide)), if_neg (e 12 (by decide)), if_neg (e 13 (by decide)), if_neg (by omega)]
theorem hex_at (i : Nat) (h : i < 16) : (([48, 49, 50, 51, 52, 53, 54, 55, 56, 57, 97, 98, 99, 100, 101, 102] : List UInt8).getD i 0) = hexB i := by
  have : ∀ j : Fin 16, (([48, 49, 50, 51, 52, 53, 54, 55, 56, 57, 97, 98, 99, 100, 101, 102] : List UInt8).getD j.val 0) = hexB j.val := by decide
  exact this ⟨i, h⟩
end Go.Proofs.YtajkgcmopmpihaaDoor
