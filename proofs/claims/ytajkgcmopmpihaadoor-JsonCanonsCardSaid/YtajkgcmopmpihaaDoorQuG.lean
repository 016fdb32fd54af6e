/- Layer 8: appending a rune's bytes; the letters that are looked up. -/
import Derived.Test.YtajkgcmopmpihaaDoorQuO
import Derived.Test.YtajkgcmopmpihaaDoorQuF
namespace Go.Proofs.YtajkgcmopmpihaaDoor
open Go.ChangeShapes Go.WideShapes Go.ChangeAt Go.RowKit Go.IntWalk
set_option linter.unusedVariables false

theorem cells_rune (r : Int) : Lib.runeCells r = (Lib.encodeRune r).map fun c => Value.int .u8 c.toNat := by
  unfold Lib.runeCells Lib.encodeRune
  rw [List.map_map]
  apply List.map_congr_left
  intro x hx
  have h := Lib.encodeRuneZ_byte r x hx
  show Value.int .u8 x = Value.int .u8 (x.toNat.toUInt8.toNat : Nat)
  congr 1
  have : x.toNat.toUInt8.toNat = x.toNat % 256 := by simp [Nat.toUInt8]
  rw [this]; omega
theorem len_rune (r : Int) : (Lib.runeCells r).length = (Lib.encodeRune r).length := by rw [cells_rune, List.length_map]
theorem len_rune4 (r : Int) : (Lib.encodeRune r).length ≤ 4 := by
  have := (Lib.encodeRuneZ_length r).2
  unfold Lib.encodeRune; rw [List.length_map]; exact this

theorem appendRune_own (base : Nat) (v : Value) (bs : List UInt8) (r : Nat) (hr : r ≤ 1114111) (w : World) (hown : OwnBs base w v bs) (hlen : bs.length ≤ 70368744177664) (hb : base ≤ w.heap.size) :
    Calls Tryd.prog 30 #[v, .int .i32 r] w fun e w' => ∃ v', e = .returned v' ∧ OwnBs base w' v' (bs ++ Lib.encodeRune (r : Int)) ∧ w.grownBy w' v.ownBlock := by
  refine (Tryd.utf8_AppendRune_plain base v _ _ (r : Int) (by omega) (by omega) w hown (by omega) hb).mono ?_
  rintro e w' ⟨v', rfl, h1, o, h2⟩
  refine ⟨v', rfl, ?_, ⟨h2.os, h2.tape, h2.output, Nat.le_trans (by simp) h2.size, fun k hk hne => (h2.block k (by simp; omega) hne).trans (heap_alloc_old w _ hk)⟩⟩
  unfold OwnBs
  rw [cells_rune] at h1
  simpa using h1

def meantF (c : UInt8) : Int := Lib.indexByte [8, 12, 10, 13, 9] c
theorem meant_low (c : UInt8) (w : World) (h : c.toNat < 128) :
    Calls Tryd.prog 29 #[.string ⟨#[8, 12, 10, 13, 9]⟩, .int .i32 c.toNat] w fun e w' => e = .returned (.int .i64 (meantF c)) ∧ Below w.heap.size w w' := by
  refine (Tryd.strings_IndexRune_ascii ⟨#[8, 12, 10, 13, 9]⟩ c.toNat w (by omega) (by omega)).mono ?_
  rintro e w' ⟨rfl, rfl⟩
  refine ⟨?_, Below.refl _ _⟩
  have : ((c.toNat : Int).toNat.toUInt8) = c := by simp
  rw [this]
  rfl
theorem meant_high (r : Nat) (w : World) (h0 : 128 ≤ r) (h1 : r ≤ 1114111) (hv : Utf8.valid (r : Int) = true) :
    Calls Tryd.prog 29 #[.string ⟨#[8, 12, 10, 13, 9]⟩, .int .i32 r] w fun e w' => e = .returned (.int .i64 (-1)) ∧ Below w.heap.size w w' :=
  indexRune_hi [8, 12, 10, 13, 9] r w (by decide) (by decide) ⟨by omega, by omega⟩ hv
theorem meant_none (c : UInt8) (h : ¬ (c = 8 ∨ c = 9 ∨ c = 10 ∨ c = 12 ∨ c = 13)) : meantF c = -1 := by
  apply indexByte_none
  intro b hb hc
  subst hc
  simp only [List.mem_cons, List.not_mem_nil, or_false] at hb
  apply h
  rcases hb with h | h | h | h | h <;> simp [h]
end Go.Proofs.YtajkgcmopmpihaaDoor
