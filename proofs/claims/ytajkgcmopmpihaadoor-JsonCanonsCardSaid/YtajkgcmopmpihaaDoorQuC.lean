/- Layer 8, no run: a rune of two, three, four bytes, added up byte by byte. -/
import Derived.Test.YtajkgcmopmpihaaDoorQuP
namespace Go.Proofs.YtajkgcmopmpihaaDoor
open Go.Lib
set_option linter.unusedVariables false

def accF (c0 : Nat) (l : List UInt8) : Nat → Nat
  | 0 => c0
  | k + 1 => accF c0 l k * 64 + (l.getD (k + 1) 0).toNat % 64
theorem accF_lt {c0 : Nat} (l : List UInt8) (h : c0 < 32) : ∀ k, accF c0 l k < 32 * 64 ^ k
  | 0 => by simp [accF]; exact h
  | k + 1 => by
    have ih := accF_lt l h k
    rw [Nat.pow_succ]
    show accF c0 l k * 64 + (l.getD (k + 1) 0).toNat % 64 < _
    omega
theorem accF_small {c0 : Nat} (l : List UInt8) (h : c0 < 32) {k : Nat} (hk : k ≤ 3) : accF c0 l k < 8388608 := by
  have h1 := accF_lt l h k
  have : k = 0 ∨ k = 1 ∨ k = 2 ∨ k = 3 := by omega
  rcases this with rfl | rfl | rfl | rfl <;> omega

/-- what the document's way answers of a rune of N bytes -/
structure Cls (l : List UInt8) (c0 N L : Nat) : Prop where
  short : l.length < N → runeF l = (0, 0)
  bad : ∀ j, 1 ≤ j → j < N → contB (l.getD j 0).toNat = false → runeF l = (0, 0)
  out : okC L (accF c0 l (N - 1)) = false → runeF l = (0, 0)
  good : N ≤ l.length → (∀ j, 1 ≤ j → j < N → contB (l.getD j 0).toNat = true) → okC L (accF c0 l (N - 1)) = true → runeF l = (accF c0 l (N - 1), N)

theorem cls_2 (b : UInt8) (t : List UInt8) (h : 192 ≤ b.toNat ∧ b.toNat < 224) : Cls (b :: t) (b.toNat % 32) 2 128 := by
  have e := (runeF_N (l := b :: t) (by simp)).trans (ref_2 (b0 := b.toNat) h)
  have ea : accF (b.toNat % 32) (b :: t) (2 - 1) = b.toNat % 32 * 64 + ((b :: t).getD 1 0).toNat % 64 := rfl
  rw [← ea] at e
  refine ⟨fun hs => ?_, fun j h1 h2 hb => ?_, fun ho => ?_, fun hs hg ho => ?_⟩
  · rw [e, if_neg (by omega)]
  · have : j = 1 := by omega
    subst this
    rw [e, hb]; simp
  · rw [e, ho]; simp
  · rw [e, if_pos ⟨hs, hg 1 (by omega) (by omega), ho⟩]
theorem cls_3 (b : UInt8) (t : List UInt8) (h : 224 ≤ b.toNat ∧ b.toNat < 240) : Cls (b :: t) (b.toNat % 16) 3 2048 := by
  have e := (runeF_N (l := b :: t) (by simp)).trans (ref_3 (b0 := b.toNat) h)
  have ea : accF (b.toNat % 16) (b :: t) (3 - 1) = (b.toNat % 16 * 64 + ((b :: t).getD 1 0).toNat % 64) * 64 + ((b :: t).getD 2 0).toNat % 64 := rfl
  rw [← ea] at e
  refine ⟨fun hs => ?_, fun j h1 h2 hb => ?_, fun ho => ?_, fun hs hg ho => ?_⟩
  · rw [e, if_neg (by omega)]
  · have : j = 1 ∨ j = 2 := by omega
    rcases this with rfl | rfl <;> (rw [e, hb]; simp)
  · rw [e, ho]; simp
  · rw [e, if_pos ⟨hs, hg 1 (by omega) (by omega), hg 2 (by omega) (by omega), ho⟩]
theorem cls_4 (b : UInt8) (t : List UInt8) (h : 240 ≤ b.toNat ∧ b.toNat < 248) : Cls (b :: t) (b.toNat % 8) 4 65536 := by
  have e := (runeF_N (l := b :: t) (by simp)).trans (ref_4 (b0 := b.toNat) h)
  have ea : accF (b.toNat % 8) (b :: t) (4 - 1) = ((b.toNat % 8 * 64 + ((b :: t).getD 1 0).toNat % 64) * 64 + ((b :: t).getD 2 0).toNat % 64) * 64 + ((b :: t).getD 3 0).toNat % 64 := rfl
  rw [← ea] at e
  refine ⟨fun hs => ?_, fun j h1 h2 hb => ?_, fun ho => ?_, fun hs hg ho => ?_⟩
  · rw [e, if_neg (by omega)]
  · have : j = 1 ∨ j = 2 ∨ j = 3 := by omega
    rcases this with rfl | rfl | rfl <;> (rw [e, hb]; simp)
  · rw [e, ho]; simp
  · rw [e, if_pos ⟨hs, hg 1 (by omega) (by omega), hg 2 (by omega) (by omega), hg 3 (by omega) (by omega), ho⟩]
theorem cls_1 (b : UInt8) (t : List UInt8) (h : b.toNat < 128) : runeF (b :: t) = (b.toNat, 1) := by
  rw [runeF_N (by simp)]; exact ref_1 h
theorem cls_0 (b : UInt8) (t : List UInt8) (h : 128 ≤ b.toNat ∧ b.toNat < 192 ∨ 248 ≤ b.toNat) : runeF (b :: t) = (0, 0) := by
  rw [runeF_N (by simp)]; exact ref_0 b.toNat_lt h
end Go.Proofs.YtajkgcmopmpihaaDoor
