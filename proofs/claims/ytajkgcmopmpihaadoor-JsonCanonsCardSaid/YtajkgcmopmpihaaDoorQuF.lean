/- Layer 8, no run: escapes rune by rune. -/
import Derived.Test.YtajkgcmopmpihaaDoorQuE
namespace Go.Proofs.YtajkgcmopmpihaaDoor
open Go.Lib
set_option linter.unusedVariables false

set_option maxHeartbeats 2000000 in
theorem dN (n b0 b1 b2 b3 : Nat) (h0 : 128 ≤ b0) (hn : ¬((decodeN n b0 b1 b2 b3).1 = 65533 ∧ (decodeN n b0 b1 b2 b3).2 = 1)) :
    128 ≤ (decodeN n b0 b1 b2 b3).1 ∧ ((decodeN n b0 b1 b2 b3).1 < 55296 ∨ 57344 ≤ (decodeN n b0 b1 b2 b3).1 ∧ (decodeN n b0 b1 b2 b3).1 ≤ 1114111) ∧
      (1 < (decodeN n b0 b1 b2 b3).2 → 128 ≤ b1) ∧ (2 < (decodeN n b0 b1 b2 b3).2 → 128 ≤ b2) ∧ (3 < (decodeN n b0 b1 b2 b3).2 → 128 ≤ b3) ∧ (decodeN n b0 b1 b2 b3).2 ≤ 4 := by
  revert hn
  unfold decodeN
  repeat' split
  all_goals (intro hn; simp only [] at hn ⊢; omega)

theorem escL_app (a b : List UInt8) : escL (a ++ b) = escL a ++ escL b := by unfold escL; rw [List.flatMap_append]
theorem escL_plain : ∀ m : List UInt8, (∀ c ∈ m, 128 ≤ c.toNat) → escL m = m
  | [], _ => rfl
  | c :: m, h => by
    have ih := escL_plain m fun x hx => h x (by simp [hx])
    unfold escL at *
    rw [List.flatMap_cons, ih, escB_plain c (h c (by simp))]
    rfl

/-- a rune of more than one byte -/
theorem rune_multi (b : UInt8) (t : List UInt8) (hb : 128 ≤ b.toNat) (hn : ¬ NoR (b :: t)) :
    128 ≤ (decodeL (b :: t)).1 ∧ (decodeL (b :: t)).1 ≤ 1114111 ∧ Utf8.valid ((decodeL (b :: t)).1 : Int) = true ∧ escL ((b :: t).take (decodeL (b :: t)).2) = encodeRune ((decodeL (b :: t)).1 : Int) := by
  have he := encode_decode (b :: t) (by simp) hn
  have hle := decodeL_le (b :: t) (by simp)
  have hr := decodeL_rune (b :: t)
  unfold NoR at hn
  rw [decodeL_N] at hn
  have h := dN _ _ _ _ _ hb hn
  have e : decodeL (b :: t) = decodeN (b :: t).length b.toNat ((b :: t).getD 1 0).toNat ((b :: t).getD 2 0).toNat ((b :: t).getD 3 0).toNat := decodeL_N _
  rw [← e] at h
  obtain ⟨h1, h2, h3, h4, h5, h6⟩ := h
  refine ⟨h1, hr, ?_, ?_⟩
  · rw [validRune_eq]
    unfold validRune
    rw [decide_eq_true_eq]
    omega
  · rw [he]
    apply escL_plain
    intro c hc
    obtain ⟨j, hj, rfl⟩ := List.getElem_of_mem hc
    have hj2 : j < (decodeL (b :: t)).2 := by rw [List.length_take] at hj; omega
    have hjl : j < (b :: t).length := by omega
    rw [List.getElem_take]
    have hg : ∀ i (hi : i < (b :: t).length), ((b :: t).getD i 0).toNat = ((b :: t)[i]).toNat := fun i hi => by
      rw [List.getD_eq_getElem?_getD, List.getElem?_eq_getElem hi]; rfl
    have : j = 0 ∨ j = 1 ∨ j = 2 ∨ j = 3 := by omega
    rcases this with rfl | rfl | rfl | rfl
    · exact hb
    · rw [← hg 1 hjl]; exact h3 hj2
    · rw [← hg 2 hjl]; exact h4 hj2
    · rw [← hg 3 hjl]; exact h5 hj2
theorem escL_take_rune (l : List UInt8) (k d : Nat) : escL (l.take (k + d)) = escL (l.take k) ++ escL ((l.drop k).take d) := by
  rw [List.take_add, escL_app]
end Go.Proofs.YtajkgcmopmpihaaDoor
