/- Layer 4: limbs carried on. -/
import Derived.Test.YtpdoegfmngibgaaAid
namespace Go.Proofs.Ytpdoegfmngibgaa
open Go.ChangeShapes Go.WideShapes Go.ChangeAt Go.RowKit Go.IntWalk
set_option linter.unusedVariables false

theorem bcell {W w1 : World} (hb : Below W.heap.size W w1) : (∀ b o, b < W.heap.size → w1.cell? ⟨b, o, none⟩ = W.cell? ⟨b, o, none⟩) ∧ (∀ b o, b < W.heap.size → w1.frozen? ⟨b, o, none⟩ = W.frozen? ⟨b, o, none⟩) :=
  ⟨fun b o h => hb.cell (p := ⟨b, o, none⟩) h, fun b o h => hb.frozen (p := ⟨b, o, none⟩) h⟩

/-- Five limbs, as Go holds them. -/
def E5 (a b c d e : Nat) : Value := .agg #[.int .u64 a, .int .u64 b, .int .u64 c, .int .u64 d, .int .u64 e]
theorem u64_mask51 (x : Nat) (h : x < 2 ^ 64) : bits .and .u64 (x : Int) 2251799813685247 = ((x % 2 ^ 51 : Nat) : Int) := by
  have := bits_mask .u64 64 (by decide) wraps_u64 51 (by decide) (x : Int) (by omega) (by omega)
  exact this

theorem carry_sum (x y k : Nat) (hx : x < 2 ^ 63) (hk : k * (y / 2 ^ 51) < 2 ^ 63) :
    IntKind.u64.wrap (bits .and .u64 (x : Int) 2251799813685247 + (k : Int) * ((y : Int) / 2251799813685248)) = ((x % 2 ^ 51 + k * (y / 2 ^ 51) : Nat) : Int) := by
  rw [u64_mask51 x (by omega)]
  have e : (k : Int) * ((y : Int) / 2251799813685248) = ((k * (y / 2 ^ 51) : Nat) : Int) := by
    rw [Int.natCast_mul, Int.natCast_ediv]; rfl
  rw [e, ← Int.natCast_add]
  exact wraps_u64 _ (by omega) (by have : x % 2 ^ 51 < 2 ^ 51 := Nat.mod_lt _ (by decide); omega)

set_option maxHeartbeats 1000000 in
theorem carried_calls (l0 l1 l2 l3 l4 : Nat) (w : World) (h0 : l0 < 2 ^ 63) (h1 : l1 < 2 ^ 63) (h2 : l2 < 2 ^ 63) (h3 : l3 < 2 ^ 63) (h4 : l4 < 2 ^ 63) :
    Calls Try.prog 39 #[.int .u64 (l0 : Int), .int .u64 (l1 : Int), .int .u64 (l2 : Int), .int .u64 (l3 : Int), .int .u64 (l4 : Int)] w fun e w' =>
      e = .returned (E5 (l0 % 2 ^ 51 + 19 * (l4 / 2 ^ 51)) (l1 % 2 ^ 51 + l0 / 2 ^ 51) (l2 % 2 ^ 51 + l1 / 2 ^ 51) (l3 % 2 ^ 51 + l2 / 2 ^ 51) (l4 % 2 ^ 51 + l3 / 2 ^ 51)) ∧ Below w.heap.size w w' := by
  have c0 : IntKind.u64.wrap (bits .and .u64 (l0 : Int) 2251799813685247 + 19 * ((l4 : Int) / 2251799813685248)) = _ := carry_sum l0 l4 19 h0 (by omega)
  have c1 := carry_sum l1 l0 1 h1 (by omega)
  have c2 := carry_sum l2 l1 1 h2 (by omega)
  have c3 := carry_sum l3 l2 1 h3 (by omega)
  have c4 := carry_sum l4 l3 1 h4 (by omega)
  simp only [Nat.one_mul, Int.natCast_one, Int.one_mul] at c1 c2 c3 c4
  generalize l0 % 2 ^ 51 + 19 * (l4 / 2 ^ 51) = r0 at *
  generalize l1 % 2 ^ 51 + l0 / 2 ^ 51 = r1 at *
  generalize l2 % 2 ^ 51 + l1 / 2 ^ 51 = r2 at *
  generalize l3 % 2 ^ 51 + l2 / 2 ^ 51 = r3 at *
  generalize l4 % 2 ^ 51 + l3 / 2 ^ 51 = r4 at *
  go_enter Try.func39, Try.ntmps39
  go_wp2
  exact bodyPost_ret (v := E5 r0 r1 r2 r3 r4) (by simp [results, Try.results39, go_sem, E5]) rfl ⟨rfl, (Below.refl _ _).alloc (Nat.le_refl _) _⟩

/-- What five limbs are. -/
def val5 (a b c d e : Nat) : Nat := a + 2 ^ 51 * b + 2 ^ 102 * c + 2 ^ 153 * d + 2 ^ 204 * e
def P : Nat := 2 ^ 255 - 19
theorem P_val : P = 57896044618658097711785492504343953926634992332820282019728792003956564819949 := by decide +kernel
/-- Carrying on doesn't change the rest. -/
theorem carry_val (a b c d e : Nat) : val5 (a % 2 ^ 51 + 19 * (e / 2 ^ 51)) (b % 2 ^ 51 + a / 2 ^ 51) (c % 2 ^ 51 + b / 2 ^ 51) (d % 2 ^ 51 + c / 2 ^ 51) (e % 2 ^ 51 + d / 2 ^ 51) + P * (e / 2 ^ 51) = val5 a b c d e := by
  unfold val5 P
  have ha := Nat.div_add_mod a (2 ^ 51)
  have hb := Nat.div_add_mod b (2 ^ 51)
  have hc := Nat.div_add_mod c (2 ^ 51)
  have hd := Nat.div_add_mod d (2 ^ 51)
  have he := Nat.div_add_mod e (2 ^ 51)
  generalize a / 2 ^ 51 = a1 at *
  generalize b / 2 ^ 51 = b1 at *
  generalize c / 2 ^ 51 = c1 at *
  generalize d / 2 ^ 51 = d1 at *
  generalize e / 2 ^ 51 = e1 at *
  generalize a % 2 ^ 51 = a0 at *
  generalize b % 2 ^ 51 = b0 at *
  generalize c % 2 ^ 51 = c0 at *
  generalize d % 2 ^ 51 = d0 at *
  generalize e % 2 ^ 51 = e0 at *
  omega
/-- Limbs that are small enough to be reckoned with. -/
def Ok5 (a b c d e : Nat) : Prop := a < 2 ^ 51 + 2 ^ 20 ∧ b < 2 ^ 51 + 2 ^ 20 ∧ c < 2 ^ 51 + 2 ^ 20 ∧ d < 2 ^ 51 + 2 ^ 20 ∧ e < 2 ^ 51 + 2 ^ 20
/-- The value is a rest, in small limbs, and it is r by 2^255 - 19. -/
def IsEl (v : Value) (r : Nat) : Prop := ∃ a b c d e, v = E5 a b c d e ∧ Ok5 a b c d e ∧ val5 a b c d e % P = r % P
def ElPost (r : Nat) (w : World) (e : Ending) (w' : World) : Prop := ∃ v, e = .returned v ∧ IsEl v r ∧ Below w.heap.size w w'
end Go.Proofs.Ytpdoegfmngibgaa
