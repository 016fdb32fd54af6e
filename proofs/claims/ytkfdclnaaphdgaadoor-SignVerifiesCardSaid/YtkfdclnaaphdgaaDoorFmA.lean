/- Layers 4 and 6: texts put together (FdA FdB FdE FdF FdG FdH). -/
import Derived.Test.YtkfdclnaaphdgaaDoorAid
import Derived.Deep.MidRow
import Derived.Deep.RegionHeld3
import Derived.WalkSpells
import Derived.Stop.BytesEq
namespace Go.Proofs.YtkfdclnaaphdgaaDoor
open Go.ChangeShapes Go.WideShapes Go.ChangeAt Go.RowKit Go.IntWalk
set_option linter.unusedVariables false

theorem bcell {W w1 : World} (hb : Below W.heap.size W w1) : (∀ b o, b < W.heap.size → w1.cell? ⟨b, o, none⟩ = W.cell? ⟨b, o, none⟩) ∧ (∀ b o, b < W.heap.size → w1.frozen? ⟨b, o, none⟩ = W.frozen? ⟨b, o, none⟩) :=
  ⟨fun b o h => hb.cell (p := ⟨b, o, none⟩) h, fun b o h => hb.frozen (p := ⟨b, o, none⟩) h⟩

/-- Five limbs, as Go holds them. -/
def E5 (a b c d e : Nat) : Value := .agg #[.int .u64 a, .int .u64 b, .int .u64 c, .int .u64 d, .int .u64 e]
theorem u64_mask51 (x : Nat) (h : x < 2 ^ 64) : bits .and .u64 (x : Int) 2251799813685247 = ((x % 2 ^ 51 : Nat) : Int) := by
  have := bits_mask .u64 64 (by decide) wraps_u64 51 (by decide) (x : Int) (by omega) (by omega)
  exact this

theorem carry_sum (x y k : Nat) (hx : x < 2 ^ 63) (hk : k * (y / 2 ^ 51) < 2 ^ 63) :
    IntKind.u64.wrap (bits .and .u64 (x : Int) 2251799813685247 + (k : Int) * ((y : Int) / 2251799813685248)) = ((x % 2 ^ 51 + k * (y / 2 ^ 51) : Nat) : Int) := by
  rw [u64_mask51 x (by omega)]
  have e : (k : Int) * ((y : Int) / 2251799813685248) = ((k * (y / 2 ^ 51) : Nat) : Int) := by
    rw [Int.natCast_mul, Int.natCast_ediv]; rfl
  rw [e, ← Int.natCast_add]
  exact wraps_u64 _ (by omega) (by have : x % 2 ^ 51 < 2 ^ 51 := Nat.mod_lt _ (by decide); omega)

set_option maxHeartbeats 1000000 in
theorem carried_calls (l0 l1 l2 l3 l4 : Nat) (w : World) (h0 : l0 < 2 ^ 63) (h1 : l1 < 2 ^ 63) (h2 : l2 < 2 ^ 63) (h3 : l3 < 2 ^ 63) (h4 : l4 < 2 ^ 63) :
    Calls Tryd.prog 80 #[.int .u64 (l0 : Int), .int .u64 (l1 : Int), .int .u64 (l2 : Int), .int .u64 (l3 : Int), .int .u64 (l4 : Int)] w fun e w' =>
      e = .returned (E5 (l0 % 2 ^ 51 + 19 * (l4 / 2 ^ 51)) (l1 % 2 ^ 51 + l0 / 2 ^ 51) (l2 % 2 ^ 51 + l1 / 2 ^ 51) (l3 % 2 ^ 51 + l2 / 2 ^ 51) (l4 % 2 ^ 51 + l3 / 2 ^ 51)) ∧ Below w.heap.size w w' := by
  have c0 : IntKind.u64.wrap (bits .and .u64 (l0 : Int) 2251799813685247 + 19 * ((l4 : Int) / 2251799813685248)) = _ := carry_sum l0 l4 19 h0 (by omega)
  have c1 := carry_sum l1 l0 1 h1 (by omega)
  have c2 := carry_sum l2 l1 1 h2 (by omega)
  have c3 := carry_sum l3 l2 1 h3 (by omega)
  have c4 := carry_sum l4 l3 1 h4 (by omega)
  simp only [Nat.one_mul, Int.natCast_one, Int.one_mul] at c1 c2 c3 c4
  generalize l0 % 2 ^ 51 + 19 * (l4 / 2 ^ 51) = r0 at *
  generalize l1 % 2 ^ 51 + l0 / 2 ^ 51 = r1 at *
  generalize l2 % 2 ^ 51 + l1 / 2 ^ 51 = r2 at *
  generalize l3 % 2 ^ 51 + l2 / 2 ^ 51 = r3 at *
  generalize l4 % 2 ^ 51 + l3 / 2 ^ 51 = r4 at *
  go_enter Tryd.func80, Tryd.ntmps80
  go_wp2
  exact bodyPost_ret (v := E5 r0 r1 r2 r3 r4) (by simp [results, Tryd.results80, go_sem, E5]) rfl ⟨rfl, (Below.refl _ _).alloc (Nat.le_refl _) _⟩

/-- What five limbs are. -/
def val5 (a b c d e : Nat) : Nat := a + 2 ^ 51 * b + 2 ^ 102 * c + 2 ^ 153 * d + 2 ^ 204 * e
def P : Nat := 2 ^ 255 - 19
theorem P_val : P = 57896044618658097711785492504343953926634992332820282019728792003956564819949 := by decide +kernel
/-- Carrying on doesn't change the rest. -/
theorem carry_val (a b c d e : Nat) : val5 (a % 2 ^ 51 + 19 * (e / 2 ^ 51)) (b % 2 ^ 51 + a / 2 ^ 51) (c % 2 ^ 51 + b / 2 ^ 51) (d % 2 ^ 51 + c / 2 ^ 51) (e % 2 ^ 51 + d / 2 ^ 51) + P * (e / 2 ^ 51) = val5 a b c d e := by
  unfold val5 P
  have ha := Nat.div_add_mod a (2 ^ 51)
  have hb := Nat.div_add_mod b (2 ^ 51)
  have hc := Nat.div_add_mod c (2 ^ 51)
  have hd := Nat.div_add_mod d (2 ^ 51)
  have he := Nat.div_add_mod e (2 ^ 51)
  generalize a / 2 ^ 51 = a1 at *
  generalize b / 2 ^ 51 = b1 at *
  generalize c / 2 ^ 51 = c1 at *
  generalize d / 2 ^ 51 = d1 at *
  generalize e / 2 ^ 51 = e1 at *
  generalize a % 2 ^ 51 = a0 at *
  generalize b % 2 ^ 51 = b0 at *
  generalize c % 2 ^ 51 = c0 at *
  generalize d % 2 ^ 51 = d0 at *
  generalize e % 2 ^ 51 = e0 at *
  omega
/-- Limbs that are small enough to be reckoned with. -/
def Ok5 (a b c d e : Nat) : Prop := a < 2 ^ 51 + 2 ^ 20 ∧ b < 2 ^ 51 + 2 ^ 20 ∧ c < 2 ^ 51 + 2 ^ 20 ∧ d < 2 ^ 51 + 2 ^ 20 ∧ e < 2 ^ 51 + 2 ^ 20
/-- The value is a rest, in small limbs, and it is r by 2^255 - 19. -/
def IsEl (v : Value) (r : Nat) : Prop := ∃ a b c d e, v = E5 a b c d e ∧ Ok5 a b c d e ∧ val5 a b c d e % P = r % P
def ElPost (r : Nat) (w : World) (e : Ending) (w' : World) : Prop := ∃ v, e = .returned v ∧ IsEl v r ∧ Below w.heap.size w w'
end Go.Proofs.YtkfdclnaaphdgaaDoor
namespace Go.Proofs.YtkfdclnaaphdgaaDoor
open Go.ChangeShapes Go.WideShapes Go.ChangeAt Go.RowKit Go.IntWalk
set_option linter.unusedVariables false

theorem u64_add (x y : Nat) (h : x + y < 2 ^ 64) : IntKind.u64.wrap ((x : Int) + (y : Int)) = ((x + y : Nat) : Int) := by
  rw [← Int.natCast_add]; exact wraps_u64 _ (by omega) (by omega)
theorem u64_addc (x k : Nat) (h : x + k < 2 ^ 64) : IntKind.u64.wrap ((x : Int) + (k : Nat)) = ((x + k : Nat) : Int) := u64_add x k h
theorem u64_sub (x y : Nat) (h : y ≤ x) (hx : x < 2 ^ 64) : IntKind.u64.wrap ((x : Int) - (y : Int)) = ((x - y : Nat) : Int) := by
  rw [show (x : Int) - (y : Int) = ((x - y : Nat) : Int) by omega]; exact wraps_u64 _ (by omega) (by omega)
theorem ok_carried (a b c d e : Nat) (ha : a < 2 ^ 63) (hb : b < 2 ^ 63) (hc : c < 2 ^ 63) (hd : d < 2 ^ 63) (he : e < 2 ^ 63) :
    Ok5 (a % 2 ^ 51 + 19 * (e / 2 ^ 51)) (b % 2 ^ 51 + a / 2 ^ 51) (c % 2 ^ 51 + b / 2 ^ 51) (d % 2 ^ 51 + c / 2 ^ 51) (e % 2 ^ 51 + d / 2 ^ 51) := by
  unfold Ok5; omega
/-- carried, as a rest -/
theorem carried_el (l0 l1 l2 l3 l4 r : Nat) (w : World) (h0 : l0 < 2 ^ 63) (h1 : l1 < 2 ^ 63) (h2 : l2 < 2 ^ 63) (h3 : l3 < 2 ^ 63) (h4 : l4 < 2 ^ 63) (hr : val5 l0 l1 l2 l3 l4 % P = r % P) :
    Calls Tryd.prog 80 #[.int .u64 (l0 : Int), .int .u64 (l1 : Int), .int .u64 (l2 : Int), .int .u64 (l3 : Int), .int .u64 (l4 : Int)] w (ElPost r w) :=
  (carried_calls l0 l1 l2 l3 l4 w h0 h1 h2 h3 h4).mono fun e w' ⟨he, hb⟩ => ⟨_, he, ⟨_, _, _, _, _, rfl, ok_carried l0 l1 l2 l3 l4 h0 h1 h2 h3 h4, by
    have := carry_val l0 l1 l2 l3 l4
    rw [← hr, ← this, Nat.add_mul_mod_self_left]⟩, hb⟩

/-- A rest's five limbs, to be stored whole. -/
theorem IsEl.form {v : Value} {r : Nat} (h : IsEl v r) : ∃ a b c d e : Nat, v = .agg #[.int .u64 a, .int .u64 b, .int .u64 c, .int .u64 d, .int .u64 e] ∧ Ok5 a b c d e ∧ val5 a b c d e % P = r % P := h

theorem rest_sub {x y z r s : Nat} (e : x + y = z + 2 * P) (hr : z % P = r % P) (hs : y % P = s % P) : x % P = (r + (P - s % P)) % P := by
  have hp : 0 < P := by unfold P; omega
  have hsl : s % P < P := Nat.mod_lt _ hp
  have h1 : (x + s % P) % P = r % P := by
    rw [← hs, Nat.add_mod, Nat.mod_mod, ← Nat.add_mod, e, ← hr, Nat.mul_comm, Nat.add_mul_mod_self_left]
  have h2 : (x + s % P + (P - s % P)) % P = (r + (P - s % P)) % P := by
    rw [Nat.add_mod, h1, ← Nat.add_mod]
  rw [← h2, show x + s % P + (P - s % P) = x + P * 1 by omega, Nat.add_mul_mod_self_left]
theorem sub_rest {a0 a1 a2 a3 a4 b0 b1 b2 b3 b4 r s : Nat} (h : a0 < 2 ^ 51 + 2 ^ 20 ∧ a1 < 2 ^ 51 + 2 ^ 20 ∧ a2 < 2 ^ 51 + 2 ^ 20 ∧ a3 < 2 ^ 51 + 2 ^ 20 ∧ a4 < 2 ^ 51 + 2 ^ 20)
    (h2 : b0 < 2 ^ 51 + 2 ^ 20 ∧ b1 < 2 ^ 51 + 2 ^ 20 ∧ b2 < 2 ^ 51 + 2 ^ 20 ∧ b3 < 2 ^ 51 + 2 ^ 20 ∧ b4 < 2 ^ 51 + 2 ^ 20) (hr : val5 a0 a1 a2 a3 a4 % P = r % P) (hs : val5 b0 b1 b2 b3 b4 % P = s % P) :
    val5 (a0 + 4503599627370458 - b0) (a1 + 4503599627370494 - b1) (a2 + 4503599627370494 - b2) (a3 + 4503599627370494 - b3) (a4 + 4503599627370494 - b4) % P = (r + (P - s % P)) % P := by
  have e : val5 (a0 + 4503599627370458 - b0) (a1 + 4503599627370494 - b1) (a2 + 4503599627370494 - b2) (a3 + 4503599627370494 - b3) (a4 + 4503599627370494 - b4) + val5 b0 b1 b2 b3 b4 = val5 a0 a1 a2 a3 a4 + 2 * P := by
    unfold val5 P; omega
  exact rest_sub e hr hs
theorem below_set5 {B : Nat} {w w1 : World} (h : Below B w w1) (g : Nat) (hg : B ≤ g) (a b c d e : Value) :
    Below B w (((((w1.setCell ⟨g, 0, none⟩ a).setCell ⟨g, 1, none⟩ b).setCell ⟨g, 2, none⟩ c).setCell ⟨g, 3, none⟩ d).setCell ⟨g, 4, none⟩ e) :=
  ((((h.setCell hg _).setCell hg _).setCell hg _).setCell hg _).setCell hg _
theorem below1 {w w1 : World} {o1 : Obj} (h : Below (w.alloc o1).heap.size (w.alloc o1) w1) : Below w.heap.size w w1 := h.of_alloc
theorem below2 {w w1 : World} {o1 o2 : Obj} (h : Below ((w.alloc o1).alloc o2).heap.size ((w.alloc o1).alloc o2) w1) : Below w.heap.size w w1 := h.of_alloc.of_alloc
theorem below3 {w w1 : World} {o1 o2 o3 : Obj} (h : Below (((w.alloc o1).alloc o2).alloc o3).heap.size (((w.alloc o1).alloc o2).alloc o3) w1) : Below w.heap.size w w1 := h.of_alloc.of_alloc.of_alloc
set_option maxHeartbeats 2000000 in
theorem add_calls (v u : Value) (r s : Nat) (hv : IsEl v r) (hu : IsEl u s) (w : World) :
    Calls Tryd.prog 59 #[v, u] w (ElPost (r + s) w) := by
  obtain ⟨a0, a1, a2, a3, a4, rfl, hok, hval⟩ := hv.form
  obtain ⟨b0, b1, b2, b3, b4, rfl, hok2, hval2⟩ := hu.form
  have HC : Hid (∀ W : World, Calls Tryd.prog 80 #[.int .u64 ((a0 + b0 : Nat) : Int), .int .u64 ((a1 + b1 : Nat) : Int), .int .u64 ((a2 + b2 : Nat) : Int), .int .u64 ((a3 + b3 : Nat) : Int), .int .u64 ((a4 + b4 : Nat) : Int)] W (ElPost (r + s) W)) := by
    intro W
    unfold Ok5 at hok hok2
    refine carried_el _ _ _ _ _ _ W (by omega) (by omega) (by omega) (by omega) (by omega) ?_
    rw [Nat.add_mod, ← hval, ← hval2, ← Nat.add_mod]
    congr 1
    unfold val5; omega
  have s0 : IntKind.u64.wrap ((a0 : Int) + (b0 : Int)) = ((a0 + b0 : Nat) : Int) := by unfold Ok5 at hok hok2; exact u64_add _ _ (by omega)
  have s1 : IntKind.u64.wrap ((a1 : Int) + (b1 : Int)) = ((a1 + b1 : Nat) : Int) := by unfold Ok5 at hok hok2; exact u64_add _ _ (by omega)
  have s2 : IntKind.u64.wrap ((a2 : Int) + (b2 : Int)) = ((a2 + b2 : Nat) : Int) := by unfold Ok5 at hok hok2; exact u64_add _ _ (by omega)
  have s3 : IntKind.u64.wrap ((a3 : Int) + (b3 : Int)) = ((a3 + b3 : Nat) : Int) := by unfold Ok5 at hok hok2; exact u64_add _ _ (by omega)
  have s4 : IntKind.u64.wrap ((a4 : Int) + (b4 : Int)) = ((a4 + b4 : Nat) : Int) := by unfold Ok5 at hok hok2; exact u64_add _ _ (by omega)
  generalize a0 + b0 = c0 at *
  generalize a1 + b1 = c1 at *
  generalize a2 + b2 = c2 at *
  generalize a3 + b3 = c3 at *
  generalize a4 + b4 = c4 at *
  clear hok hok2 hval hval2 hv hu
  go_enter Tryd.func59, Tryd.ntmps59
  go_wp2_with fail
  refine (HC.out _).mono ?_
  rintro e w1 ⟨x, rfl, hx, b1⟩
  obtain ⟨d0, d1, d2, d3, d4, rfl, hok, hval⟩ := hx.form
  obtain ⟨hc, hf⟩ := bcell b1
  have hz : w.heap.size + 2 < w1.heap.size := by have := b1.size; simp at this; omega
  have hbel : Below w.heap.size w w1 := below3 b1
  go_wp2
  exact bodyPost_ret (v := .agg #[.int .u64 d0, .int .u64 d1, .int .u64 d2, .int .u64 d3, .int .u64 d4]) (by simp [results, Tryd.results59, go_sem, hc]) rfl
    ⟨_, rfl, hx, below_set5 hbel _ (by omega) _ _ _ _ _⟩

set_option maxHeartbeats 2000000 in
theorem sub_calls (v u : Value) (r s : Nat) (hv : IsEl v r) (hu : IsEl u s) (w : World) :
    Calls Tryd.prog 60 #[v, u] w (ElPost (r + (P - s % P)) w) := by
  obtain ⟨a0, a1, a2, a3, a4, rfl, hok, hval⟩ := hv.form
  obtain ⟨b0, b1, b2, b3, b4, rfl, hok2, hval2⟩ := hu.form
  have HC : Hid (∀ W : World, Calls Tryd.prog 80 #[.int .u64 ((a0 + 4503599627370458 - b0 : Nat) : Int), .int .u64 ((a1 + 4503599627370494 - b1 : Nat) : Int), .int .u64 ((a2 + 4503599627370494 - b2 : Nat) : Int), .int .u64 ((a3 + 4503599627370494 - b3 : Nat) : Int), .int .u64 ((a4 + 4503599627370494 - b4 : Nat) : Int)] W (ElPost (r + (P - s % P)) W)) := by
    intro W
    unfold Ok5 at hok hok2
    refine carried_el _ _ _ _ _ _ W (by omega) (by omega) (by omega) (by omega) (by omega) ?_
    exact sub_rest hok hok2 hval hval2
  have e0 : IntKind.u64.wrap ((a0 : Int) + 4503599627370458) = ((a0 + 4503599627370458 : Nat) : Int) := by unfold Ok5 at hok hok2; exact u64_addc a0 4503599627370458 (by omega)
  have e1 : IntKind.u64.wrap ((a1 : Int) + 4503599627370494) = ((a1 + 4503599627370494 : Nat) : Int) := by unfold Ok5 at hok hok2; exact u64_addc a1 4503599627370494 (by omega)
  have e2 : IntKind.u64.wrap ((a2 : Int) + 4503599627370494) = ((a2 + 4503599627370494 : Nat) : Int) := by unfold Ok5 at hok hok2; exact u64_addc a2 4503599627370494 (by omega)
  have e3 : IntKind.u64.wrap ((a3 : Int) + 4503599627370494) = ((a3 + 4503599627370494 : Nat) : Int) := by unfold Ok5 at hok hok2; exact u64_addc a3 4503599627370494 (by omega)
  have e4 : IntKind.u64.wrap ((a4 : Int) + 4503599627370494) = ((a4 + 4503599627370494 : Nat) : Int) := by unfold Ok5 at hok hok2; exact u64_addc a4 4503599627370494 (by omega)
  have s0 : IntKind.u64.wrap (((a0 + 4503599627370458 : Nat) : Int) - (b0 : Int)) = ((a0 + 4503599627370458 - b0 : Nat) : Int) := by unfold Ok5 at hok hok2; exact u64_sub _ _ (by omega) (by omega)
  have s1 : IntKind.u64.wrap (((a1 + 4503599627370494 : Nat) : Int) - (b1 : Int)) = ((a1 + 4503599627370494 - b1 : Nat) : Int) := by unfold Ok5 at hok hok2; exact u64_sub _ _ (by omega) (by omega)
  have s2 : IntKind.u64.wrap (((a2 + 4503599627370494 : Nat) : Int) - (b2 : Int)) = ((a2 + 4503599627370494 - b2 : Nat) : Int) := by unfold Ok5 at hok hok2; exact u64_sub _ _ (by omega) (by omega)
  have s3 : IntKind.u64.wrap (((a3 + 4503599627370494 : Nat) : Int) - (b3 : Int)) = ((a3 + 4503599627370494 - b3 : Nat) : Int) := by unfold Ok5 at hok hok2; exact u64_sub _ _ (by omega) (by omega)
  have s4 : IntKind.u64.wrap (((a4 + 4503599627370494 : Nat) : Int) - (b4 : Int)) = ((a4 + 4503599627370494 - b4 : Nat) : Int) := by unfold Ok5 at hok hok2; exact u64_sub _ _ (by omega) (by omega)
  clear hok hok2 hval hval2 hv hu
  generalize a0 + 4503599627370458 - b0 = c0 at *
  generalize a1 + 4503599627370494 - b1 = c1 at *
  generalize a2 + 4503599627370494 - b2 = c2 at *
  generalize a3 + 4503599627370494 - b3 = c3 at *
  generalize a4 + 4503599627370494 - b4 = c4 at *
  generalize a0 + 4503599627370458 = g0 at *
  generalize a1 + 4503599627370494 = g1 at *
  generalize a2 + 4503599627370494 = g2 at *
  generalize a3 + 4503599627370494 = g3 at *
  generalize a4 + 4503599627370494 = g4 at *
  go_enter Tryd.func60, Tryd.ntmps60
  go_wp2_with fail
  refine (HC.out _).mono ?_
  rintro e w1 ⟨x, rfl, hx, b1⟩
  obtain ⟨d0, d1, d2, d3, d4, rfl, hok, hval⟩ := hx.form
  obtain ⟨hc, hf⟩ := bcell b1
  have hz : w.heap.size + 2 < w1.heap.size := by have := b1.size; simp at this; omega
  have hbel : Below w.heap.size w w1 := below3 b1
  go_wp2
  exact bodyPost_ret (v := .agg #[.int .u64 d0, .int .u64 d1, .int .u64 d2, .int .u64 d3, .int .u64 d4]) (by simp [results, Tryd.results60, go_sem, hc]) rfl
    ⟨_, rfl, hx, below_set5 hbel _ (by omega) _ _ _ _ _⟩

theorem IsEl.zero : IsEl (.agg #[.int .u64 0, .int .u64 0, .int .u64 0, .int .u64 0, .int .u64 0]) 0 :=
  ⟨0, 0, 0, 0, 0, rfl, by unfold Ok5; omega, rfl⟩
theorem IsEl.congr {v : Value} {r s : Nat} (h : IsEl v r) (e : r % P = s % P) : IsEl v s := by
  obtain ⟨a, b, c, d, f, h1, h2, h3⟩ := h; exact ⟨a, b, c, d, f, h1, h2, h3.trans e⟩
theorem IsEl.small (n : Nat) (h : n < 2 ^ 51) : IsEl (.agg #[.int .u64 (n : Int), .int .u64 0, .int .u64 0, .int .u64 0, .int .u64 0]) n :=
  ⟨n, 0, 0, 0, 0, rfl, by unfold Ok5; omega, by unfold val5; simp⟩

set_option maxHeartbeats 2000000 in
theorem neg_calls (v : Value) (r : Nat) (hv : IsEl v r) (w : World) :
    Calls Tryd.prog 63 #[v] w (ElPost (P - r % P) w) := by
  obtain ⟨a0, a1, a2, a3, a4, rfl, hok, hval⟩ := hv.form
  have HV := Lib.hid hv
  clear hok hval hv
  go_enter Tryd.func63, Tryd.ntmps63
  go_wp2_with fail
  refine (sub_calls _ _ _ _ IsEl.zero HV.out _).mono ?_
  rintro e w1 ⟨x, rfl, hx, b1⟩
  have hx2 := hx.congr (s := P - r % P) (by rw [Nat.zero_add])
  clear hx
  obtain ⟨d0, d1, d2, d3, d4, rfl, hok, hval⟩ := hx2.form
  obtain ⟨hc, hf⟩ := bcell b1
  have hz : w.heap.size + 1 < w1.heap.size := by have := b1.size; simp at this; omega
  have hbel : Below w.heap.size w w1 := below2 b1
  go_wp2
  exact bodyPost_ret (v := .agg #[.int .u64 d0, .int .u64 d1, .int .u64 d2, .int .u64 d3, .int .u64 d4]) (by simp [results, Tryd.results63, go_sem, hc]) rfl
    ⟨_, rfl, hx2, below_set5 hbel _ (by omega) _ _ _ _ _⟩

set_option maxHeartbeats 2000000 in
theorem small_calls (n : Nat) (hn : n < 2 ^ 32) (w : World) :
    Calls Tryd.prog 58 #[.int .u32 (n : Int)] w (ElPost n w) := by
  have HV := Lib.hid (IsEl.small n (by omega))
  have e : IntKind.u64.wrap (n : Int) = (n : Int) := wraps_u64 _ (by omega) (by omega)
  clear hn
  go_enter Tryd.func58, Tryd.ntmps58
  go_wp2
  exact bodyPost_ret (v := .agg #[.int .u64 (n : Int), .int .u64 0, .int .u64 0, .int .u64 0, .int .u64 0]) (by simp [results, Tryd.results58, go_sem]) rfl
    ⟨_, rfl, HV.out, (Below.refl _ _).alloc (Nat.le_refl _) _⟩
end Go.Proofs.YtkfdclnaaphdgaaDoor
namespace Go.Proofs.YtkfdclnaaphdgaaDoor
open Go.ChangeShapes Go.WideShapes Go.ChangeAt Go.RowKit Go.IntWalk
set_option linter.unusedVariables false

theorem div51 (x y : Nat) (h : x / 2 ^ 51 = y) : (x : Int) / 2251799813685248 = (y : Int) := by rw [← h, Int.natCast_ediv]; rfl
theorem and51 (x y : Nat) (hx : x < 2 ^ 64) (h : x % 2 ^ 51 = y) : bits .and .u64 (x : Int) 2251799813685247 = (y : Int) := by rw [u64_mask51 x hx, h]
theorem lst_val {l0 l1 l2 l3 l4 o1 o2 o3 o4 o5 u1 u2 u3 u4 u5 n0 n1 n2 n3 n4 : Nat} (h : Ok5 l0 l1 l2 l3 l4) (a0 : (l0 + 19) / 2 ^ 51 = o1) (a1 : (l1 + o1) / 2 ^ 51 = o2) (a2 : (l2 + o2) / 2 ^ 51 = o3) (a3 : (l3 + o3) / 2 ^ 51 = o4) (a4 : (l4 + o4) / 2 ^ 51 = o5)
    (b0 : (l0 + o5 * 19) / 2 ^ 51 = u1) (b1 : (l1 + u1) / 2 ^ 51 = u2) (b2 : (l2 + u2) / 2 ^ 51 = u3) (b3 : (l3 + u3) / 2 ^ 51 = u4) (b4 : (l4 + u4) / 2 ^ 51 = u5)
    (c0 : (l0 + o5 * 19) % 2 ^ 51 = n0) (c1 : (l1 + u1) % 2 ^ 51 = n1) (c2 : (l2 + u2) % 2 ^ 51 = n2) (c3 : (l3 + u3) % 2 ^ 51 = n3) (c4 : (l4 + u4) % 2 ^ 51 = n4) :
    val5 n0 n1 n2 n3 n4 = val5 l0 l1 l2 l3 l4 % P ∧ n0 < 2 ^ 51 ∧ n1 < 2 ^ 51 ∧ n2 < 2 ^ 51 ∧ n3 < 2 ^ 51 ∧ n4 < 2 ^ 51 := by
  have e1 : val5 l0 l1 l2 l3 l4 + o5 * 19 = val5 n0 n1 n2 n3 n4 + 2 ^ 255 * u5 := by unfold val5; omega
  have e2 : ∃ r, val5 l0 l1 l2 l3 l4 + 19 = r + 2 ^ 255 * o5 ∧ r < 2 ^ 255 :=
    ⟨val5 ((l0 + 19) % 2 ^ 51) ((l1 + o1) % 2 ^ 51) ((l2 + o2) % 2 ^ 51) ((l3 + o3) % 2 ^ 51) ((l4 + o4) % 2 ^ 51), by unfold val5; omega, by unfold val5; omega⟩
  have e3 : val5 l0 l1 l2 l3 l4 < 2 ^ 255 + 2 ^ 254 := by unfold Ok5 at h; unfold val5; omega
  have e4 : n0 < 2 ^ 51 ∧ n1 < 2 ^ 51 ∧ n2 < 2 ^ 51 ∧ n3 < 2 ^ 51 ∧ n4 < 2 ^ 51 := by omega
  have e5 : val5 n0 n1 n2 n3 n4 < 2 ^ 255 := by unfold val5; omega
  refine ⟨?_, e4⟩
  obtain ⟨r, h1, h2⟩ := e2
  generalize val5 l0 l1 l2 l3 l4 = V at *
  generalize val5 n0 n1 n2 n3 n4 = N at *
  clear a0 a1 a2 a3 a4 b0 b1 b2 b3 b4 c0 c1 c2 c3 c4 e4 h
  have hP : P = 2 ^ 255 - 19 := rfl
  by_cases ho : o5 = 0
  · subst ho
    rw [Nat.mod_eq_of_lt (by omega)]; omega
  · have ho1 : o5 = 1 := by omega
    subst ho1
    rw [Nat.mod_eq_sub_mod (by omega), Nat.mod_eq_of_lt (by omega)]; omega
def LRel (w : World) (l0 l1 l2 l3 l4 n0 n1 n2 n3 n4 z0 z1 z2 z3 z4 z5 : Nat) (x i : Value) (wr : World) : Prop := (x = .int .u64 (z0 : Int) ∧ i = .int .i64 0 ∧ wr = (w.alloc (.cells #[.int .u64 (l0 : Int), .int .u64 (l1 : Int), .int .u64 (l2 : Int), .int .u64 (l3 : Int), .int .u64 (l4 : Int)] 40)).alloc (.cells #[.int .u64 0, .int .u64 0, .int .u64 0, .int .u64 0, .int .u64 0] 40)) ∨ (x = .int .u64 (z1 : Int) ∧ i = .int .i64 1 ∧ wr = (w.alloc (.cells #[.int .u64 (n0 : Int), .int .u64 (l1 : Int), .int .u64 (l2 : Int), .int .u64 (l3 : Int), .int .u64 (l4 : Int)] 40)).alloc (.cells #[.int .u64 0, .int .u64 0, .int .u64 0, .int .u64 0, .int .u64 0] 40)) ∨ (x = .int .u64 (z2 : Int) ∧ i = .int .i64 2 ∧ wr = (w.alloc (.cells #[.int .u64 (n0 : Int), .int .u64 (n1 : Int), .int .u64 (l2 : Int), .int .u64 (l3 : Int), .int .u64 (l4 : Int)] 40)).alloc (.cells #[.int .u64 0, .int .u64 0, .int .u64 0, .int .u64 0, .int .u64 0] 40)) ∨ (x = .int .u64 (z3 : Int) ∧ i = .int .i64 3 ∧ wr = (w.alloc (.cells #[.int .u64 (n0 : Int), .int .u64 (n1 : Int), .int .u64 (n2 : Int), .int .u64 (l3 : Int), .int .u64 (l4 : Int)] 40)).alloc (.cells #[.int .u64 0, .int .u64 0, .int .u64 0, .int .u64 0, .int .u64 0] 40)) ∨ (x = .int .u64 (z4 : Int) ∧ i = .int .i64 4 ∧ wr = (w.alloc (.cells #[.int .u64 (n0 : Int), .int .u64 (n1 : Int), .int .u64 (n2 : Int), .int .u64 (n3 : Int), .int .u64 (l4 : Int)] 40)).alloc (.cells #[.int .u64 0, .int .u64 0, .int .u64 0, .int .u64 0, .int .u64 0] 40)) ∨ (x = .int .u64 (z5 : Int) ∧ i = .int .i64 5 ∧ wr = (w.alloc (.cells #[.int .u64 (n0 : Int), .int .u64 (n1 : Int), .int .u64 (n2 : Int), .int .u64 (n3 : Int), .int .u64 (n4 : Int)] 40)).alloc (.cells #[.int .u64 0, .int .u64 0, .int .u64 0, .int .u64 0, .int .u64 0] 40))
def LeastPost (V : Nat) (w : World) (e : Ending) (w' : World) : Prop := ∃ n0 n1 n2 n3 n4 : Nat, e = .returned (E5 n0 n1 n2 n3 n4) ∧ (val5 n0 n1 n2 n3 n4 = V ∧ n0 < 2 ^ 51 ∧ n1 < 2 ^ 51 ∧ n2 < 2 ^ 51 ∧ n3 < 2 ^ 51 ∧ n4 < 2 ^ 51) ∧ Below w.heap.size w w'
set_option maxRecDepth 100000 in
set_option maxHeartbeats 4000000 in
theorem least_calls (v : Value) (r : Nat) (hv : IsEl v r) (w : World) :
    Calls Tryd.prog 81 #[v] w (LeastPost (r % P) w) := by
  obtain ⟨l0, l1, l2, l3, l4, rfl, hok, hval⟩ := hv.form
  have hk := hok
  unfold Ok5 at hk
  obtain ⟨o1, a0⟩ : ∃ x, (l0 + 19) / 2 ^ 51 = x := ⟨_, rfl⟩
  obtain ⟨o2, a1⟩ : ∃ x, (l1 + o1) / 2 ^ 51 = x := ⟨_, rfl⟩
  obtain ⟨o3, a2⟩ : ∃ x, (l2 + o2) / 2 ^ 51 = x := ⟨_, rfl⟩
  obtain ⟨o4, a3⟩ : ∃ x, (l3 + o3) / 2 ^ 51 = x := ⟨_, rfl⟩
  obtain ⟨o5, a4⟩ : ∃ x, (l4 + o4) / 2 ^ 51 = x := ⟨_, rfl⟩
  obtain ⟨z1, b0⟩ : ∃ x, (l0 + o5 * 19) / 2 ^ 51 = x := ⟨_, rfl⟩
  obtain ⟨n0, c0⟩ : ∃ x, (l0 + o5 * 19) % 2 ^ 51 = x := ⟨_, rfl⟩
  obtain ⟨z2, b1⟩ : ∃ x, (l1 + z1) / 2 ^ 51 = x := ⟨_, rfl⟩
  obtain ⟨n1, c1⟩ : ∃ x, (l1 + z1) % 2 ^ 51 = x := ⟨_, rfl⟩
  obtain ⟨z3, b2⟩ : ∃ x, (l2 + z2) / 2 ^ 51 = x := ⟨_, rfl⟩
  obtain ⟨n2, c2⟩ : ∃ x, (l2 + z2) % 2 ^ 51 = x := ⟨_, rfl⟩
  obtain ⟨z4, b3⟩ : ∃ x, (l3 + z3) / 2 ^ 51 = x := ⟨_, rfl⟩
  obtain ⟨n3, c3⟩ : ∃ x, (l3 + z3) % 2 ^ 51 = x := ⟨_, rfl⟩
  obtain ⟨z5, b4⟩ : ∃ x, (l4 + z4) / 2 ^ 51 = x := ⟨_, rfl⟩
  obtain ⟨n4, c4⟩ : ∃ x, (l4 + z4) % 2 ^ 51 = x := ⟨_, rfl⟩
  have hl := lst_val hok a0 a1 a2 a3 a4 b0 b1 b2 b3 b4 c0 c1 c2 c3 c4
  rw [hval] at hl
  have HL := Lib.hid hl
  have s0 : IntKind.u64.wrap ((l0 : Int) + 19) = ((l0 + 19 : Nat) : Int) := u64_addc l0 19 (by omega)
  have d0 := div51 _ _ a0
  have s1 : IntKind.u64.wrap ((l1 : Int) + (o1 : Int)) = ((l1 + o1 : Nat) : Int) := u64_add l1 o1 (by omega)
  have d1 := div51 _ _ a1
  have s2 : IntKind.u64.wrap ((l2 : Int) + (o2 : Int)) = ((l2 + o2 : Nat) : Int) := u64_add l2 o2 (by omega)
  have d2 := div51 _ _ a2
  have s3 : IntKind.u64.wrap ((l3 : Int) + (o3 : Int)) = ((l3 + o3 : Nat) : Int) := u64_add l3 o3 (by omega)
  have d3 := div51 _ _ a3
  have s4 : IntKind.u64.wrap ((l4 : Int) + (o4 : Int)) = ((l4 + o4 : Nat) : Int) := u64_add l4 o4 (by omega)
  have d4 := div51 _ _ a4
  have su : IntKind.u64.wrap ((o5 : Int) * 19) = ((o5 * 19 : Nat) : Int) := by rw [show (o5 : Int) * 19 = ((o5 * 19 : Nat) : Int) by omega]; exact wraps_u64 _ (by omega) (by omega)
  have hu0 : o5 * 19 < 2 ^ 40 := by omega
  generalize o5 * 19 = z0 at *
  have p0 : IntKind.u64.wrap ((l0 : Int) + (z0 : Int)) = ((l0 + z0 : Nat) : Int) := u64_add l0 z0 (by omega)
  have q0 := div51 _ _ b0
  have m0 := and51 _ _ (by omega) c0
  have p1 : IntKind.u64.wrap ((l1 : Int) + (z1 : Int)) = ((l1 + z1 : Nat) : Int) := u64_add l1 z1 (by omega)
  have q1 := div51 _ _ b1
  have m1 := and51 _ _ (by omega) c1
  have p2 : IntKind.u64.wrap ((l2 : Int) + (z2 : Int)) = ((l2 + z2 : Nat) : Int) := u64_add l2 z2 (by omega)
  have q2 := div51 _ _ b2
  have m2 := and51 _ _ (by omega) c2
  have p3 : IntKind.u64.wrap ((l3 : Int) + (z3 : Int)) = ((l3 + z3 : Nat) : Int) := u64_add l3 z3 (by omega)
  have q3 := div51 _ _ b3
  have m3 := and51 _ _ (by omega) c3
  have p4 : IntKind.u64.wrap ((l4 : Int) + (z4 : Int)) = ((l4 + z4 : Nat) : Int) := u64_add l4 z4 (by omega)
  have q4 := div51 _ _ b4
  have m4 := and51 _ _ (by omega) c4
  generalize l0 + 19 = g0 at *
  generalize l1 + o1 = g1 at *
  generalize l2 + o2 = g2 at *
  generalize l3 + o3 = g3 at *
  generalize l4 + o4 = g4 at *
  generalize l0 + z0 = k0 at *
  generalize l1 + z1 = k1 at *
  generalize l2 + z2 = k2 at *
  generalize l3 + z3 = k3 at *
  generalize l4 + z4 = k4 at *
  clear hu0 a0 a1 a2 a3 a4 b0 b1 b2 b3 b4 c0 c1 c2 c3 c4 hl hok hval hv hk
  have i0 : ∀ W : World, (Instr.index 38 (.agg #[.int .u64 (l0 : Int), .int .u64 (l1 : Int), .int .u64 (l2 : Int), .int .u64 (l3 : Int), .int .u64 (l4 : Int)]) (.int .i64 0)).run Tryd.prog W = .ok (.int .u64 (l0 : Int)) W := fun _ => by kernel_rfl
  have i1 : ∀ W : World, (Instr.index 38 (.agg #[.int .u64 (l0 : Int), .int .u64 (l1 : Int), .int .u64 (l2 : Int), .int .u64 (l3 : Int), .int .u64 (l4 : Int)]) (.int .i64 1)).run Tryd.prog W = .ok (.int .u64 (l1 : Int)) W := fun _ => by kernel_rfl
  have i2 : ∀ W : World, (Instr.index 38 (.agg #[.int .u64 (l0 : Int), .int .u64 (l1 : Int), .int .u64 (l2 : Int), .int .u64 (l3 : Int), .int .u64 (l4 : Int)]) (.int .i64 2)).run Tryd.prog W = .ok (.int .u64 (l2 : Int)) W := fun _ => by kernel_rfl
  have i3 : ∀ W : World, (Instr.index 38 (.agg #[.int .u64 (l0 : Int), .int .u64 (l1 : Int), .int .u64 (l2 : Int), .int .u64 (l3 : Int), .int .u64 (l4 : Int)]) (.int .i64 3)).run Tryd.prog W = .ok (.int .u64 (l3 : Int)) W := fun _ => by kernel_rfl
  have i4 : ∀ W : World, (Instr.index 38 (.agg #[.int .u64 (l0 : Int), .int .u64 (l1 : Int), .int .u64 (l2 : Int), .int .u64 (l3 : Int), .int .u64 (l4 : Int)]) (.int .i64 4)).run Tryd.prog W = .ok (.int .u64 (l4 : Int)) W := fun _ => by kernel_rfl
  go_enter Tryd.func81, Tryd.ntmps81
  go_wp2_with fail
  go_loop [3, 11] (fun x i => (x = .int .u64 19 ∧ i = .int .i64 0) ∨ (x = .int .u64 (o1 : Int) ∧ i = .int .i64 1) ∨ (x = .int .u64 (o2 : Int) ∧ i = .int .i64 2) ∨ (x = .int .u64 (o3 : Int) ∧ i = .int .i64 3) ∨ (x = .int .u64 (o4 : Int) ∧ i = .int .i64 4) ∨ (x = .int .u64 (o5 : Int) ∧ i = .int .i64 5)) (fun _ i => 5 - (intOf i).toNat)
  case atStart => exact .inl ⟨rfl, rfl⟩
  case round =>
    rcases hrel with ⟨rfl, rfl⟩ | ⟨rfl, rfl⟩ | ⟨rfl, rfl⟩ | ⟨rfl, rfl⟩ | ⟨rfl, rfl⟩ | ⟨rfl, rfl⟩
    · go_wp2_with fail
      exact ⟨.inr (.inl ⟨rfl, rfl⟩), by simp [intOf]⟩
    · go_wp2_with fail
      exact ⟨.inr (.inr (.inl ⟨rfl, rfl⟩)), by simp [intOf]⟩
    · go_wp2_with fail
      exact ⟨.inr (.inr (.inr (.inl ⟨rfl, rfl⟩))), by simp [intOf]⟩
    · go_wp2_with fail
      exact ⟨.inr (.inr (.inr (.inr (.inl ⟨rfl, rfl⟩)))), by simp [intOf]⟩
    · go_wp2_with fail
      exact ⟨.inr (.inr (.inr (.inr (.inr (⟨rfl, rfl⟩))))), by simp [intOf]⟩
    · go_wp2_with fail
      go_loopw [6, 23] (LRel w l0 l1 l2 l3 l4 n0 n1 n2 n3 n4 z0 z1 z2 z3 z4 z5) (fun _ i _ => 5 - (intOf i).toNat)
      case atStart => exact .inl ⟨rfl, rfl, rfl⟩
      case round =>
        rcases hrel with ⟨rfl, rfl, rfl⟩ | ⟨rfl, rfl, rfl⟩ | ⟨rfl, rfl, rfl⟩ | ⟨rfl, rfl, rfl⟩ | ⟨rfl, rfl, rfl⟩ | ⟨rfl, rfl, rfl⟩
        · go_wp2_with fail
          exact ⟨.inr (.inl ⟨rfl, rfl, rfl⟩), by simp [intOf]⟩
        · go_wp2_with fail
          exact ⟨.inr (.inr (.inl ⟨rfl, rfl, rfl⟩)), by simp [intOf]⟩
        · go_wp2_with fail
          exact ⟨.inr (.inr (.inr (.inl ⟨rfl, rfl, rfl⟩))), by simp [intOf]⟩
        · go_wp2_with fail
          exact ⟨.inr (.inr (.inr (.inr (.inl ⟨rfl, rfl, rfl⟩)))), by simp [intOf]⟩
        · go_wp2_with fail
          exact ⟨.inr (.inr (.inr (.inr (.inr (⟨rfl, rfl, rfl⟩))))), by simp [intOf]⟩
        · go_wp2
          exact bodyPost_ret (v := E5 n0 n1 n2 n3 n4) (by simp [results, Tryd.results81, go_sem, E5]) rfl
            ⟨n0, n1, n2, n3, n4, rfl, HL.out, ((Below.refl _ _).alloc (Nat.le_refl _) _).alloc (by simp) _⟩
end Go.Proofs.YtkfdclnaaphdgaaDoor
namespace Go.Proofs.YtkfdclnaaphdgaaDoor
open Go.ChangeShapes Go.WideShapes Go.ChangeAt Go.RowKit Go.IntWalk
set_option linter.unusedVariables false

/-- A number's bytes, the lowest first. -/
def leN : List UInt8 → Nat
  | [] => 0
  | c :: t => c.toNat + 256 * leN t
/-- Bytes as cells. -/
def u8s (bs : List UInt8) : List Value := bs.map fun c => Value.int .u8 c.toNat
def A32 (bs : List UInt8) : Value := .agg (u8s bs).toArray

theorem idx32 (cs : List Value) (k : Nat) (hk : k < 32) (v : Value) (hv : cs[k]? = some v) (W : World) :
    (Instr.index 22 (.agg cs.toArray) (.int .i64 (k : Int))).run Tryd.prog W = .ok v W := by
  have h32 : 0 ≤ (k : Int) ∧ (k : Int) < (32 : Nat) := by omega
  simp [Instr.index, run_underlying Tryd.underlying22, asIntOf, go_sem, hv, hk]

theorem size32 : (Tryd.prog.info? 22).map (·.size) = some 32 := by kernel_rfl
/-- Five words in a block. -/
def WBlk (w : World) (g : Nat) (ws : List Nat) : Prop := w.heap[g]? = some (.cells (ws.map fun (n : Nat) => Value.int .u64 (n : Int)).toArray 38 (0, 0))
theorem WBlk.cell {w : World} {g : Nat} {ws : List Nat} (h : WBlk w g ws) {k n : Nat} (hk : ws[k]? = some n) : w.cell? ⟨g, k, none⟩ = some (.int .u64 (n : Int)) := by
  rw [cell_of_row _ _ _ _ _ _ h]; simp [hk]
theorem WBlk.frozen {w : World} {g : Nat} {ws : List Nat} (h : WBlk w g ws) (k : Nat) : w.frozen? ⟨g, k, none⟩ = false := by
  unfold WBlk at h; simp [World.frozen?, h]
theorem WBlk.set_ {w : World} {g : Nat} {ws : List Nat} (h : WBlk w g ws) (k n : Nat) : WBlk (w.setCell ⟨g, k, none⟩ (.int .u64 (n : Int))) g (ws.set k n) := by
  unfold WBlk at h ⊢
  simp [World.setCell, Array.getElem?_modify, h, List.map_set]
/-- Five limbs in a block. -/
def EBlk (w : World) (g : Nat) (ws : List Nat) : Prop := w.heap[g]? = some (.cells (ws.map fun (n : Nat) => Value.int .u64 (n : Int)).toArray 40 (0, 0))
theorem EBlk.cell {w : World} {g : Nat} {ws : List Nat} (h : EBlk w g ws) {k n : Nat} (hk : ws[k]? = some n) : w.cell? ⟨g, k, none⟩ = some (.int .u64 (n : Int)) := by
  rw [cell_of_row _ _ _ _ _ _ h]; simp [hk]
theorem EBlk.frozen {w : World} {g : Nat} {ws : List Nat} (h : EBlk w g ws) (k : Nat) : w.frozen? ⟨g, k, none⟩ = false := by
  unfold EBlk at h; simp [World.frozen?, h]
theorem EBlk.set_ {w : World} {g : Nat} {ws : List Nat} (h : EBlk w g ws) (k n : Nat) : EBlk (w.setCell ⟨g, k, none⟩ (.int .u64 (n : Int))) g (ws.set k n) := by
  unfold EBlk at h ⊢
  simp [World.setCell, Array.getElem?_modify, h, List.map_set]
theorem EBlk.other {w : World} {g g2 k : Nat} {ws : List Nat} {x : Value} (h : EBlk w g ws) (hne : g2 ≠ g) : EBlk (w.setCell ⟨g2, k, none⟩ x) g ws := by
  unfold EBlk at h ⊢
  simp [World.setCell, Array.getElem?_modify, h, hne]
theorem WBlk.other {w : World} {g g2 k : Nat} {ws : List Nat} {x : Value} (h : WBlk w g ws) (hne : g2 ≠ g) : WBlk (w.setCell ⟨g2, k, none⟩ x) g ws := by
  unfold WBlk at h ⊢
  simp [World.setCell, Array.getElem?_modify, h, hne]
theorem WBlk.alloc {w : World} {g : Nat} {ws : List Nat} (h : WBlk w g ws) (o : Obj) : WBlk (w.alloc o) g ws := (heap_alloc_old w _ (Array.getElem?_eq_some_iff.1 h).1).trans h
theorem EBlk.alloc {w : World} {g : Nat} {ws : List Nat} (h : EBlk w g ws) (o : Obj) : EBlk (w.alloc o) g ws := (heap_alloc_old w _ (Array.getElem?_eq_some_iff.1 h).1).trans h
def Z5 (w : World) (g : Nat) : Prop := EBlk w g [0, 0, 0, 0, 0]
theorem range_new {w : World} {cs : List Value} {T : TypeId} {o1 o2 : Obj} : (((w.alloc (.cells cs.toArray T)).alloc o1).alloc o2).rangeAt w.heap.size 0 cs := by
  have h : (((w.alloc (.cells cs.toArray T)).alloc o1).alloc o2).heap[w.heap.size]? = some (.cells cs.toArray T (0, 0)) := by
    rw [heap_alloc_old _ _ (by simp; omega), heap_alloc_old _ _ (by simp)]; exact heap_alloc_new w _
  intro j v hv
  rw [Nat.zero_add, cell_of_row _ _ _ _ _ _ h]; simpa using hv
def wordsF (bs : List UInt8) : List Nat := [leN (bs.take 8), leN ((bs.drop 8).take 8), leN ((bs.drop 16).take 8), leN ((bs.drop 24).take 8), 0]

theorem leN_app (a : List UInt8) : ∀ b, leN (a ++ b) = leN a + 256 ^ a.length * leN b := by
  intro b
  induction a with
  | nil => simp [leN]
  | cons c a ih => simp only [List.cons_append, leN, ih, List.length_cons, Nat.pow_succ]; rw [Nat.mul_add, Nat.mul_comm (256 ^ a.length) 256, Nat.mul_assoc]; omega
theorem leN_lt : ∀ l : List UInt8, leN l < 256 ^ l.length
  | [] => by simp [leN]
  | c :: l => by
    have h1 := leN_lt l
    have h2 := c.toNat_lt
    rw [List.length_cons, Nat.pow_succ]
    unfold leN
    omega
def segN (bs : List UInt8) (a m : Nat) : Nat := leN ((bs.drop a).take m)
theorem segN_lt (bs : List UInt8) (a m : Nat) : segN bs a m < 256 ^ m := by
  refine Nat.lt_of_lt_of_le (leN_lt _) (Nat.pow_le_pow_right (by decide) ?_)
  rw [List.length_take]; omega
theorem segN_step (bs : List UInt8) (a m : Nat) (c : UInt8) (h : bs[a + m]? = some c) : segN bs a (m + 1) = segN bs a m + c.toNat * 256 ^ m := by
  unfold segN
  rw [List.take_add_one, List.getElem?_drop, h, Option.toList_some, leN_app]
  have hl : ((bs.drop a).take m).length = m := by
    rw [List.length_take, List.length_drop]
    have := (List.getElem?_eq_some_iff.1 h).1
    omega
  rw [hl]; simp [leN, Nat.mul_comm]
theorem wordsF_take (bs : List UInt8) (k : Nat) : wordsF (bs.take k) = [segN bs 0 (min 8 k), segN bs 8 (min 8 (k - 8)), segN bs 16 (min 8 (k - 16)), segN bs 24 (min 8 (k - 24)), 0] := by
  simp [wordsF, segN, List.drop_take, List.take_take]
/-- One byte more. -/
theorem words_step (bs : List UInt8) (k j n : Nat) (c : UInt8) (hk : k < 32) (hj : k / 8 = j) (hc : bs[k]? = some c) (hn : (wordsF (bs.take k))[j]? = some n) :
    wordsF (bs.take (k + 1)) = (wordsF (bs.take k)).set j (n + c.toNat * 2 ^ (8 * (k % 8))) ∧ n < 2 ^ (8 * (k % 8)) := by
  obtain ⟨r, hr⟩ : ∃ r, k % 8 = r := ⟨_, rfl⟩
  have hkr : k = 8 * j + r := by omega
  have hr8 : r < 8 := by omega
  have e256 : (256 : Nat) ^ r = 2 ^ (8 * r) := by rw [Nat.pow_mul]
  rw [hr, ← e256]
  rw [wordsF_take] at hn
  rw [wordsF_take, wordsF_take]
  have hj4 : j = 0 ∨ j = 1 ∨ j = 2 ∨ j = 3 := by omega
  subst hkr
  rcases hj4 with rfl | rfl | rfl | rfl
  · have e1 : min 8 (8 * 0 + r) = r := by omega
    have e2 : min 8 (8 * 0 + r + 1) = r + 1 := by omega
    have e3 : 8 * 0 + r - 8 = 0 := by omega
    have e4 : 8 * 0 + r - 16 = 0 := by omega
    have e5 : 8 * 0 + r - 24 = 0 := by omega
    have e6 : 8 * 0 + r + 1 - 8 = 0 := by omega
    have e7 : 8 * 0 + r + 1 - 16 = 0 := by omega
    have e8 : 8 * 0 + r + 1 - 24 = 0 := by omega
    rw [e1, e3, e4, e5] at hn
    rw [e1, e2, e3, e4, e5, e6, e7, e8]
    simp only [List.getElem?_cons_zero, Option.some.injEq] at hn
    subst hn
    refine ⟨?_, segN_lt _ _ _⟩
    rw [segN_step bs 0 r c (by simpa using hc)]
    rfl
  · have e1 : min 8 (8 * 1 + r - 8) = r := by omega
    have e2 : min 8 (8 * 1 + r + 1 - 8) = r + 1 := by omega
    have e3 : min 8 (8 * 1 + r) = 8 := by omega
    have e4 : 8 * 1 + r - 16 = 0 := by omega
    have e5 : 8 * 1 + r - 24 = 0 := by omega
    have e6 : min 8 (8 * 1 + r + 1) = 8 := by omega
    have e7 : 8 * 1 + r + 1 - 16 = 0 := by omega
    have e8 : 8 * 1 + r + 1 - 24 = 0 := by omega
    rw [e1, e3, e4, e5] at hn
    rw [e1, e2, e3, e4, e5, e6, e7, e8]
    simp only [List.getElem?_cons_succ, List.getElem?_cons_zero, Option.some.injEq] at hn
    subst hn
    refine ⟨?_, segN_lt _ _ _⟩
    rw [segN_step bs 8 r c (by simpa using hc)]
    rfl
  · have e1 : min 8 (8 * 2 + r - 16) = r := by omega
    have e2 : min 8 (8 * 2 + r + 1 - 16) = r + 1 := by omega
    have e3 : min 8 (8 * 2 + r) = 8 := by omega
    have e4 : min 8 (8 * 2 + r - 8) = 8 := by omega
    have e5 : 8 * 2 + r - 24 = 0 := by omega
    have e6 : min 8 (8 * 2 + r + 1) = 8 := by omega
    have e7 : min 8 (8 * 2 + r + 1 - 8) = 8 := by omega
    have e8 : 8 * 2 + r + 1 - 24 = 0 := by omega
    rw [e1, e3, e4, e5] at hn
    rw [e1, e2, e3, e4, e5, e6, e7, e8]
    simp only [List.getElem?_cons_succ, List.getElem?_cons_zero, Option.some.injEq] at hn
    subst hn
    refine ⟨?_, segN_lt _ _ _⟩
    rw [segN_step bs 16 r c (by simpa using hc)]
    rfl
  · have e1 : min 8 (8 * 3 + r - 24) = r := by omega
    have e2 : min 8 (8 * 3 + r + 1 - 24) = r + 1 := by omega
    have e3 : min 8 (8 * 3 + r) = 8 := by omega
    have e4 : min 8 (8 * 3 + r - 8) = 8 := by omega
    have e5 : min 8 (8 * 3 + r - 16) = 8 := by omega
    have e6 : min 8 (8 * 3 + r + 1) = 8 := by omega
    have e7 : min 8 (8 * 3 + r + 1 - 8) = 8 := by omega
    have e8 : min 8 (8 * 3 + r + 1 - 16) = 8 := by omega
    rw [e1, e3, e4, e5] at hn
    rw [e1, e2, e3, e4, e5, e6, e7, e8]
    simp only [List.getElem?_cons_succ, List.getElem?_cons_zero, Option.some.injEq] at hn
    subst hn
    refine ⟨?_, segN_lt _ _ _⟩
    rw [segN_step bs 24 r c (by simpa using hc)]
    rfl
theorem or_word (n c r : Nat) (hn : n < 2 ^ (8 * r)) (hc : c < 256) (hr : r < 8) : bits .or .u64 (n : Int) (IntKind.u64.wrap ((c : Int) * 2 ^ (8 * r))) = ((n + c * 2 ^ (8 * r) : Nat) : Int) := by
  have h8 : 2 ^ (8 * r) ≤ 2 ^ 56 := Nat.pow_le_pow_right (by decide) (by omega)
  have hm : c * 2 ^ (8 * r) ≤ 255 * 2 ^ 56 := Nat.mul_le_mul (by omega) h8
  have e : (c : Int) * 2 ^ (8 * r) = ((c * 2 ^ (8 * r) : Nat) : Int) := by rw [Int.natCast_mul, Int.natCast_pow]; rfl
  rw [e, wraps_u64 _ (by omega) (by omega), (bits_nat .u64 64 (by decide) wraps_u64 n (c * 2 ^ (8 * r)) (by omega) (by omega)).2]
  congr 1
  have h2 := Nat.shiftLeft_add_eq_or_of_lt hn c
  rw [Nat.shiftLeft_eq] at h2
  rw [Nat.or_comm, ← h2]; omega

theorem or_zero (x : Nat) (h : x < 2 ^ 64) : bits .or .u64 (x : Int) 0 = (x : Int) := by
  have := (bits_nat .u64 64 (by decide) wraps_u64 x 0 h (by decide)).2
  rw [Nat.or_zero] at this
  exact this
theorem limb_13 (x y : Nat) (hx : x < 2 ^ 64) (hy : y < 2 ^ 64) :
    bits .and .u64 (bits .or .u64 ((x : Int) / 2251799813685248) (IntKind.u64.wrap ((y : Int) * 8192))) 2251799813685247 = (((x / 2251799813685248 + y * 8192) % 2 ^ 51 : Nat) : Int) := by
  have e1 : (x : Int) / 2251799813685248 = ((x / 2251799813685248 : Nat) : Int) := by omega
  have e2 : IntKind.u64.wrap ((y : Int) * 8192) = ((y % 2251799813685248 * 8192 : Nat) : Int) := by rw [IntKind.wrap_u64]; omega
  have hl : x / 2251799813685248 < 2 ^ 13 := by omega
  have h2 := Nat.shiftLeft_add_eq_or_of_lt hl (y % 2251799813685248)
  rw [Nat.shiftLeft_eq] at h2
  rw [e1, e2, (bits_nat .u64 64 (by decide) wraps_u64 (x / 2251799813685248) (y % 2251799813685248 * 8192) (by omega) (by omega)).2, Nat.or_comm, show y % 2251799813685248 * 8192 = y % 2251799813685248 * 2 ^ 13 from rfl, ← h2, u64_mask51 _ (by omega)]
  congr 1; omega
theorem limb_26 (x y : Nat) (hx : x < 2 ^ 64) (hy : y < 2 ^ 64) :
    bits .and .u64 (bits .or .u64 ((x : Int) / 274877906944) (IntKind.u64.wrap ((y : Int) * 67108864))) 2251799813685247 = (((x / 274877906944 + y * 67108864) % 2 ^ 51 : Nat) : Int) := by
  have e1 : (x : Int) / 274877906944 = ((x / 274877906944 : Nat) : Int) := by omega
  have e2 : IntKind.u64.wrap ((y : Int) * 67108864) = ((y % 274877906944 * 67108864 : Nat) : Int) := by rw [IntKind.wrap_u64]; omega
  have hl : x / 274877906944 < 2 ^ 26 := by omega
  have h2 := Nat.shiftLeft_add_eq_or_of_lt hl (y % 274877906944)
  rw [Nat.shiftLeft_eq] at h2
  rw [e1, e2, (bits_nat .u64 64 (by decide) wraps_u64 (x / 274877906944) (y % 274877906944 * 67108864) (by omega) (by omega)).2, Nat.or_comm, show y % 274877906944 * 67108864 = y % 274877906944 * 2 ^ 26 from rfl, ← h2, u64_mask51 _ (by omega)]
  congr 1; omega
theorem limb_39 (x y : Nat) (hx : x < 2 ^ 64) (hy : y < 2 ^ 64) :
    bits .and .u64 (bits .or .u64 ((x : Int) / 33554432) (IntKind.u64.wrap ((y : Int) * 549755813888))) 2251799813685247 = (((x / 33554432 + y * 549755813888) % 2 ^ 51 : Nat) : Int) := by
  have e1 : (x : Int) / 33554432 = ((x / 33554432 : Nat) : Int) := by omega
  have e2 : IntKind.u64.wrap ((y : Int) * 549755813888) = ((y % 33554432 * 549755813888 : Nat) : Int) := by rw [IntKind.wrap_u64]; omega
  have hl : x / 33554432 < 2 ^ 39 := by omega
  have h2 := Nat.shiftLeft_add_eq_or_of_lt hl (y % 33554432)
  rw [Nat.shiftLeft_eq] at h2
  rw [e1, e2, (bits_nat .u64 64 (by decide) wraps_u64 (x / 33554432) (y % 33554432 * 549755813888) (by omega) (by omega)).2, Nat.or_comm, show y % 33554432 * 549755813888 = y % 33554432 * 2 ^ 39 from rfl, ← h2, u64_mask51 _ (by omega)]
  congr 1; omega
theorem limb_0 (x y : Nat) (hx : x < 2 ^ 64) : bits .and .u64 (bits .or .u64 (x : Int) (IntKind.u64.wrap ((y : Int) * 18446744073709551616))) 2251799813685247 = ((x % 2 ^ 51 : Nat) : Int) := by
  have e2 : IntKind.u64.wrap ((y : Int) * 18446744073709551616) = 0 := by rw [IntKind.wrap_u64]; omega
  rw [e2, or_zero x hx, u64_mask51 x hx]
theorem limb_4 (x : Nat) (hx : x < 2 ^ 64) : bits .and .u64 (bits .or .u64 ((x : Int) / 4096) 0) 2251799813685247 = ((x / 4096 % 2 ^ 51 : Nat) : Int) := by
  rw [show (x : Int) / 4096 = ((x / 4096 : Nat) : Int) by omega, or_zero _ (by omega), u64_mask51 _ (by omega)]
theorem words_val (bs : List UInt8) (hl : bs.length = 32) (w0 w1 w2 w3 : Nat) (h : wordsF bs = [w0, w1, w2, w3, 0]) : leN bs = w0 + 2 ^ 64 * w1 + 2 ^ 128 * w2 + 2 ^ 192 * w3 ∧ w0 < 2 ^ 64 ∧ w1 < 2 ^ 64 ∧ w2 < 2 ^ 64 ∧ w3 < 2 ^ 64 := by
  unfold wordsF at h
  simp only [List.cons.injEq, and_true] at h
  obtain ⟨h0, h1, h2, h3⟩ := h
  have b0 := leN_lt (bs.take 8)
  have b1 := leN_lt ((bs.drop 8).take 8)
  have b2 := leN_lt ((bs.drop 16).take 8)
  have b3 := leN_lt ((bs.drop 24).take 8)
  have n0 : (bs.take 8).length = 8 := by simp; omega
  have n1 : ((bs.drop 8).take 8).length = 8 := by simp; omega
  have n2 : ((bs.drop 16).take 8).length = 8 := by simp; omega
  have n3 : ((bs.drop 24).take 8).length = 8 := by simp; omega
  rw [h0, n0] at b0
  rw [h1, n1] at b1
  rw [h2, n2] at b2
  rw [h3, n3] at b3
  have e : bs = bs.take 8 ++ ((bs.drop 8).take 8 ++ ((bs.drop 16).take 8 ++ (bs.drop 24).take 8)) := by
    have d1 : bs.drop 16 = (bs.drop 8).drop 8 := by rw [List.drop_drop]
    have d2 : bs.drop 24 = (bs.drop 16).drop 8 := by rw [List.drop_drop]
    have d3 : (bs.drop 24).take 8 = bs.drop 24 := List.take_of_length_le (by simp; omega)
    rw [d3, d2, List.take_append_drop, d1, List.take_append_drop, List.take_append_drop]
  refine ⟨?_, by omega, by omega, by omega, by omega⟩
  rw [e, leN_app, leN_app, leN_app, h0, h1, h2, h3, n0, n1, n2]
  omega
theorem of_val (w0 w1 w2 w3 : Nat) (l0 : w0 < 2 ^ 64) (l1 : w1 < 2 ^ 64) (l2 : w2 < 2 ^ 64) (l3 : w3 < 2 ^ 64) :
    val5 (w0 % 2 ^ 51 + 19 * (w3 / 2 ^ 63)) ((w0 / 2251799813685248 + w1 * 8192) % 2 ^ 51) ((w1 / 274877906944 + w2 * 67108864) % 2 ^ 51) ((w2 / 33554432 + w3 * 549755813888) % 2 ^ 51) (w3 / 4096 % 2 ^ 51) + P * (w3 / 2 ^ 63) =
      w0 + 2 ^ 64 * w1 + 2 ^ 128 * w2 + 2 ^ 192 * w3 := by
  have r1 : (w0 / 2251799813685248 + w1 * 8192) / 2 ^ 51 = w1 / 274877906944 := by clear l2 l3; omega
  have r2 : (w1 / 274877906944 + w2 * 67108864) / 2 ^ 51 = w2 / 33554432 := by clear r1 l0 l3; omega
  have r3 : (w2 / 33554432 + w3 * 549755813888) / 2 ^ 51 = w3 / 4096 := by clear r1 r2 l0 l1; omega
  have r4 : (w3 / 4096) / 2 ^ 51 = w3 / 2 ^ 63 := by clear r1 r2 r3; omega
  have d0 := Nat.div_add_mod w0 (2 ^ 51)
  have d1 := Nat.div_add_mod (w0 / 2251799813685248 + w1 * 8192) (2 ^ 51)
  have d2 := Nat.div_add_mod (w1 / 274877906944 + w2 * 67108864) (2 ^ 51)
  have d3 := Nat.div_add_mod (w2 / 33554432 + w3 * 549755813888) (2 ^ 51)
  have d4 := Nat.div_add_mod (w3 / 4096) (2 ^ 51)
  rw [r1] at d1
  rw [r2] at d2
  rw [r3] at d3
  rw [r4] at d4
  have e0 : w0 / 2 ^ 51 = w0 / 2251799813685248 := rfl
  rw [e0] at d0
  clear r1 r2 r3 r4 e0 l0 l1 l2 l3
  generalize (w0 / 2251799813685248 + w1 * 8192) % 2 ^ 51 = f1 at *
  generalize (w1 / 274877906944 + w2 * 67108864) % 2 ^ 51 = f2 at *
  generalize (w2 / 33554432 + w3 * 549755813888) % 2 ^ 51 = f3 at *
  generalize w3 / 4096 % 2 ^ 51 = f4 at *
  generalize w0 % 2 ^ 51 = f0 at *
  generalize w0 / 2251799813685248 = q0 at *
  generalize w1 / 274877906944 = q1 at *
  generalize w2 / 33554432 = q2 at *
  generalize w3 / 4096 = q3 at *
  generalize w3 / 2 ^ 63 = q4 at *
  unfold val5 P
  omega
def OfS (w W : World) (ws ls : List Nat) : Prop := WBlk W (w.heap.size + 1 + 1) ws ∧ EBlk W (w.heap.size + 3) ls ∧ EBlk W (w.heap.size + 1) [0, 0, 0, 0, 0] ∧ Below w.heap.size w W
theorem OfS.step {w W : World} {ws ls : List Nat} (h : OfS w W ws ls) (k n : Nat) : OfS w (W.setCell ⟨w.heap.size + 3, k, none⟩ (.int .u64 (n : Int))).drew ws (ls.set k n) :=
  ⟨h.1.other (by omega), h.2.1.set_ k n, h.2.2.1.other (by omega), (h.2.2.2.setCell (by show w.heap.size ≤ w.heap.size + 3; omega) _).drewN 1⟩
def OfRel (w : World) (w0 w1 w2 w3 f0 f1 f2 f3 f4 : Nat) (i : Value) (wr : World) : Prop := (i = .int .i64 0 ∧ OfS w wr [w0, w1, w2, w3, 0] [0, 0, 0, 0, 0]) ∨ (i = .int .i64 1 ∧ OfS w wr [w0, w1, w2, w3, 0] [f0, 0, 0, 0, 0]) ∨ (i = .int .i64 2 ∧ OfS w wr [w0, w1, w2, w3, 0] [f0, f1, 0, 0, 0]) ∨ (i = .int .i64 3 ∧ OfS w wr [w0, w1, w2, w3, 0] [f0, f1, f2, 0, 0]) ∨ (i = .int .i64 4 ∧ OfS w wr [w0, w1, w2, w3, 0] [f0, f1, f2, f3, 0]) ∨ (i = .int .i64 5 ∧ OfS w wr [w0, w1, w2, w3, 0] [f0, f1, f2, f3, f4])
set_option maxRecDepth 100000 in
set_option maxHeartbeats 4000000 in
theorem of_calls (bs : List UInt8) (hl : bs.length = 32) (w : World) :
    Calls Tryd.prog 39 #[A32 bs] w (ElPost (leN bs) w) := by
  unfold A32
  obtain ⟨cs, hcs⟩ : ∃ cs, u8s bs = cs := ⟨_, rfl⟩
  rw [hcs]
  go_enter Tryd.func39, Tryd.ntmps39
  have hi32 : (Tryd.prog.info? 22).map (·.size) = some cs.length := by
    have e : cs.length = 32 := by rw [← hcs]; simp [u8s, hl]
    rw [e]; exact size32
  have HI := Lib.hid hi32
  have HCS := Lib.hid hcs
  clear hi32 hcs
  go_wp2_with ((refine wpList_load_mid rfl 22 _ rfl w.heap.size 0 rfl cs _ range_new Tryd.underlying22 rfl HI.out ?_))
  go_loopw [11] (fun i wr => ∃ k : Nat, k ≤ 32 ∧ i = .int .i64 (k : Int) ∧ WBlk wr (w.heap.size + 1 + 1) (wordsF (bs.take k)) ∧ Z5 wr (w.heap.size + 1) ∧ Below w.heap.size w wr ∧ wr.heap.size = w.heap.size + 3) (fun i _ => 32 - (intOf i).toNat)
  case atStart =>
    refine ⟨0, by omega, rfl, ?_, ?_, ((((Below.refl _ _).alloc (Nat.le_refl _) _).alloc (by simp) _).alloc (by simp; omega) _), by simp⟩
    · have h := heap_alloc_new ((w.alloc (.cells cs.toArray 22)).alloc (.cells #[.int .u64 0, .int .u64 0, .int .u64 0, .int .u64 0, .int .u64 0] 40)) (.cells #[.int .u64 0, .int .u64 0, .int .u64 0, .int .u64 0, .int .u64 0] 38)
      simpa [WBlk, wordsF, leN] using h
    · have h := heap_alloc_new (w.alloc (.cells cs.toArray 22)) (.cells #[.int .u64 0, .int .u64 0, .int .u64 0, .int .u64 0, .int .u64 0] 40)
      have h2 : EBlk ((w.alloc (.cells cs.toArray 22)).alloc (.cells #[.int .u64 0, .int .u64 0, .int .u64 0, .int .u64 0, .int .u64 0] 40)) (w.heap.size + 1) [0, 0, 0, 0, 0] := by simpa [EBlk] using h
      exact h2.alloc _
  case round =>
    obtain ⟨k, hk, rfl, hwb, hz5, hbr, hsz⟩ := hrel
    by_cases hp : k < 32
    · obtain ⟨c, hc⟩ : ∃ c, bs[k]? = some c := ⟨bs[k], List.getElem?_eq_getElem (by omega)⟩
      have hcs : cs[k]? = some (.int .u8 (c.toNat : Int)) := by rw [← HCS.out]; simp [u8s, hc]
      have hix := idx32 cs k hp _ hcs
      have hcl := c.toNat_lt
      have HSZ := Lib.hid hsz
      have hk8 : (k : Int) / 8 = ((k / 8 : Nat) : Int) := by omega
      obtain ⟨j, hj⟩ : ∃ j, k / 8 = j := ⟨_, rfl⟩
      rw [hj] at hk8
      have hjl : j < 4 := by omega
      obtain ⟨n, hn⟩ : ∃ n, (wordsF (bs.take k))[j]? = some n := by
        have : j < (wordsF (bs.take k)).length := by simp [wordsF]; omega
        exact ⟨_, List.getElem?_eq_getElem this⟩
      have hcell := hwb.cell hn
      have hfr := hwb.frozen j
      obtain ⟨hst, hlt⟩ := words_step bs k j n c hp hj hc hn
      have hor := or_word n c.toNat (k % 8) hlt hcl (by omega)
      generalize n + c.toNat * 2 ^ (8 * (k % 8)) = n2 at *
      have hb2 : WBlk (wr.setCell ⟨w.heap.size + 1 + 1, j, none⟩ (.int .u64 (n2 : Int))) (w.heap.size + 1 + 1) (wordsF (bs.take (k + 1))) := by rw [hst]; exact hwb.set_ j n2
      have HB2 := Lib.hid hb2
      have hz2 : Z5 (wr.setCell ⟨w.heap.size + 1 + 1, j, none⟩ (.int .u64 (n2 : Int))) (w.heap.size + 1) := by
        exact EBlk.other hz5 (by omega)
      have HZ2 := Lib.hid hz2
      clear hsz hcs hst hlt hn hb2 hz2
      go_wp2_with fail
      go_region
      all_goals go_wp2_with fail
      all_goals exact ⟨⟨k + 1, by omega, by go_num, HB2.out, HZ2.out, (hbr.setCell (by show w.heap.size ≤ w.heap.size + 1 + 1; omega) _).drewN 1, by simpa [World.setCell] using HSZ.out⟩, by simp [intOf]; omega⟩
    · have hk32 : k = 32 := by omega
      subst hk32
      rw [List.take_of_length_le (by omega)] at hwb
      go_wp2_with fail
      obtain ⟨w0, w1, w2, w3, hws⟩ : ∃ w0 w1 w2 w3 : Nat, wordsF bs = [w0, w1, w2, w3, 0] := ⟨_, _, _, _, rfl⟩
      rw [hws] at hwb
      have HWS := Lib.hid hws
      clear hws
      obtain ⟨hv, l0, l1, l2, l3⟩ := words_val bs hl w0 w1 w2 w3 HWS.out
      have F0 := limb_0 w0 w1 l0
      have F1 := limb_13 w0 w1 l0 l1
      have F2 := limb_26 w1 w2 l1 l2
      have F3 := limb_39 w2 w3 l2 l3
      have F4 := limb_4 w3 l3
      obtain ⟨f0, e0⟩ : ∃ x, w0 % 2 ^ 51 = x := ⟨_, rfl⟩
      obtain ⟨f1, e1⟩ : ∃ x, (w0 / 2251799813685248 + w1 * 8192) % 2 ^ 51 = x := ⟨_, rfl⟩
      obtain ⟨f2, e2⟩ : ∃ x, (w1 / 274877906944 + w2 * 67108864) % 2 ^ 51 = x := ⟨_, rfl⟩
      obtain ⟨f3, e3⟩ : ∃ x, (w2 / 33554432 + w3 * 549755813888) % 2 ^ 51 = x := ⟨_, rfl⟩
      obtain ⟨f4, e4⟩ : ∃ x, w3 / 4096 % 2 ^ 51 = x := ⟨_, rfl⟩
      rw [e0] at F0
      rw [e1] at F1
      rw [e2] at F2
      rw [e3] at F3
      rw [e4] at F4
      have G1 : IntKind.u64.wrap (19 * ((w3 : Int) / 9223372036854775808)) = ((19 * (w3 / 2 ^ 63) : Nat) : Int) := by
        rw [show 19 * ((w3 : Int) / 9223372036854775808) = ((19 * (w3 / 2 ^ 63) : Nat) : Int) by omega]; exact wraps_u64 _ (by omega) (by omega)
      have G2 : IntKind.u64.wrap ((f0 : Int) + ((19 * (w3 / 2 ^ 63) : Nat) : Int)) = ((f0 + 19 * (w3 / 2 ^ 63) : Nat) : Int) := u64_add _ _ (by omega)
      obtain ⟨c19, hc19⟩ : ∃ x, 19 * (w3 / 2 ^ 63) = x := ⟨_, rfl⟩
      rw [hc19] at G1 G2
      obtain ⟨g0, hg0⟩ : ∃ x, f0 + c19 = x := ⟨_, rfl⟩
      rw [hg0] at G2
      have hel : IsEl (.agg #[.int .u64 (g0 : Int), .int .u64 (f1 : Int), .int .u64 (f2 : Int), .int .u64 (f3 : Int), .int .u64 (f4 : Int)]) (leN bs) := by
        refine ⟨g0, f1, f2, f3, f4, rfl, by unfold Ok5; omega, ?_⟩
        have e : val5 g0 f1 f2 f3 f4 + P * (w3 / 2 ^ 63) = leN bs := by
          have := of_val w0 w1 w2 w3 l0 l1 l2 l3
          rw [e0, e1, e2, e3, e4, hc19, hg0] at this
          rw [hv]; exact this
        rw [← e, Nat.add_mul_mod_self_left]
      have HEL := Lib.hid hel
      have V0 := Lib.hid F0
      have V1 := Lib.hid F1
      have V2 := Lib.hid F2
      have V3 := Lib.hid F3
      have V4 := Lib.hid F4
      clear e0 e1 e2 e3 e4 hc19 hg0 hv l0 l1 l2 l3 hel F0 F1 F2 F3 F4
      have hs0 : OfS w (wr.alloc (.cells #[.int .u64 0, .int .u64 0, .int .u64 0, .int .u64 0, .int .u64 0] 40)) [w0, w1, w2, w3, 0] [0, 0, 0, 0, 0] := by
        refine ⟨hwb.alloc _, ?_, EBlk.alloc hz5 _, hbr.alloc hbr.size _⟩
        have h := heap_alloc_new wr (.cells #[.int .u64 0, .int .u64 0, .int .u64 0, .int .u64 0, .int .u64 0] 40)
        rw [hsz] at h
        simpa [EBlk] using h
      have HS0 := Lib.hid hs0
      clear hs0 hwb hz5 hbr hsz hk hp
      go_loopw [28] (OfRel w w0 w1 w2 w3 f0 f1 f2 f3 f4) (fun i _ => 5 - (intOf i).toNat)
      case atStart => exact .inl ⟨rfl, HS0.out⟩
      case round =>
        rcases hrel with ⟨rfl, hs⟩ | ⟨rfl, hs⟩ | ⟨rfl, hs⟩ | ⟨rfl, hs⟩ | ⟨rfl, hs⟩ | ⟨rfl, hs⟩
        · have g1 := hs.1.cell (k := 0) rfl
          have g2 := hs.1.cell (k := 1) rfl
          have g3 := hs.2.1.cell (k := 0) rfl
          have g4 := hs.2.1.frozen 0
          have V := V0.out
          have hnx := OfS.step hs 0 f0
          clear hs
          go_wp2_with fail
          go_region
          all_goals go_wp2_with fail
          all_goals exact ⟨.inr (.inl ⟨rfl, hnx⟩), by simp [intOf]⟩
        · have g1 := hs.1.cell (k := 0) rfl
          have g2 := hs.1.cell (k := 1) rfl
          have g3 := hs.2.1.cell (k := 1) rfl
          have g4 := hs.2.1.frozen 1
          have V := V1.out
          have hnx := OfS.step hs 1 f1
          clear hs
          go_wp2_with fail
          go_region
          all_goals go_wp2_with fail
          all_goals exact ⟨.inr (.inr (.inl ⟨rfl, hnx⟩)), by simp [intOf]⟩
        · have g1 := hs.1.cell (k := 1) rfl
          have g2 := hs.1.cell (k := 2) rfl
          have g3 := hs.2.1.cell (k := 2) rfl
          have g4 := hs.2.1.frozen 2
          have V := V2.out
          have hnx := OfS.step hs 2 f2
          clear hs
          go_wp2_with fail
          go_region
          all_goals go_wp2_with fail
          all_goals exact ⟨.inr (.inr (.inr (.inl ⟨rfl, hnx⟩))), by simp [intOf]⟩
        · have g1 := hs.1.cell (k := 2) rfl
          have g2 := hs.1.cell (k := 3) rfl
          have g3 := hs.2.1.cell (k := 3) rfl
          have g4 := hs.2.1.frozen 3
          have V := V3.out
          have hnx := OfS.step hs 3 f3
          clear hs
          go_wp2_with fail
          go_region
          all_goals go_wp2_with fail
          all_goals exact ⟨.inr (.inr (.inr (.inr (.inl ⟨rfl, hnx⟩)))), by simp [intOf]⟩
        · have g1 := hs.1.cell (k := 3) rfl
          have g2 := hs.1.cell (k := 4) rfl
          have g3 := hs.2.1.cell (k := 4) rfl
          have g4 := hs.2.1.frozen 4
          have V := V4.out
          have hnx := OfS.step hs 4 f4
          clear hs
          go_wp2_with fail
          go_region
          all_goals go_wp2_with fail
          all_goals exact ⟨.inr (.inr (.inr (.inr (.inr (⟨rfl, hnx⟩))))), by simp [intOf]⟩
        · have g1 := hs.1.cell (k := 3) rfl
          have g2 := hs.2.1.cell (k := 0) rfl
          have g3 := hs.2.1.frozen 0
          have c1 := hs.2.1.cell (k := 1) rfl
          have c2 := hs.2.1.cell (k := 2) rfl
          have c3 := hs.2.1.cell (k := 3) rfl
          have c4 := hs.2.1.cell (k := 4) rfl
          have y0 := hs.2.2.1.cell (k := 0) rfl
          have y1 := hs.2.2.1.cell (k := 1) rfl
          have y2 := hs.2.2.1.cell (k := 2) rfl
          have y3 := hs.2.2.1.cell (k := 3) rfl
          have y4 := hs.2.2.1.cell (k := 4) rfl
          have x0 := hs.2.2.1.frozen 0
          have x1 := hs.2.2.1.frozen 1
          have x2 := hs.2.2.1.frozen 2
          have x3 := hs.2.2.1.frozen 3
          have x4 := hs.2.2.1.frozen 4
          have HS := Lib.hid hs
          clear hs
          go_wp2
          exact bodyPost_ret (v := .agg #[.int .u64 (g0 : Int), .int .u64 (f1 : Int), .int .u64 (f2 : Int), .int .u64 (f3 : Int), .int .u64 (f4 : Int)]) (by simp [results, Tryd.results39, go_sem, y0, y1, y2, y3, y4]) rfl
            ⟨_, rfl, HEL.out, below_set5 (HS.out.2.2.2.setCell (by show w.heap.size ≤ w.heap.size + 3; omega) _) _ (by omega) _ _ _ _ _⟩
end Go.Proofs.YtkfdclnaaphdgaaDoor
namespace Go.Proofs.YtkfdclnaaphdgaaDoor
open Go.ChangeShapes Go.WideShapes Go.ChangeAt Go.RowKit Go.IntWalk
set_option linter.unusedVariables false

/-- So many bytes of a number, the lowest first. -/
def leB : Nat → Nat → List UInt8
  | 0, _ => []
  | k + 1, n => UInt8.ofNat (n % 256) :: leB k (n / 256)
def BPost (bs : List UInt8) (w : World) (e : Ending) (w' : World) : Prop := e = .returned (A32 bs) ∧ Below w.heap.size w w'
/-- 32 cells, nought, in a block. -/
def ByS (w W : World) (ws : List Nat) : Prop := WBlk W (w.heap.size + 1 + 1) ws ∧ W.heap[w.heap.size + 1]? = some (.cells (u8s (List.replicate 32 0)).toArray 22 (0, 0)) ∧ Below w.heap.size w W
theorem ByS.start {w x : World} {cs : Array Value} (b : Below (((w.alloc (.cells cs 40)).alloc (.cells #[.int .u8 0, .int .u8 0, .int .u8 0, .int .u8 0, .int .u8 0, .int .u8 0, .int .u8 0, .int .u8 0, .int .u8 0, .int .u8 0, .int .u8 0, .int .u8 0, .int .u8 0, .int .u8 0, .int .u8 0, .int .u8 0, .int .u8 0, .int .u8 0, .int .u8 0, .int .u8 0, .int .u8 0, .int .u8 0, .int .u8 0, .int .u8 0, .int .u8 0, .int .u8 0, .int .u8 0, .int .u8 0, .int .u8 0, .int .u8 0, .int .u8 0, .int .u8 0] 22)).alloc (.cells #[.int .u64 0, .int .u64 0, .int .u64 0, .int .u64 0, .int .u64 0] 38)).heap.size
    (((w.alloc (.cells cs 40)).alloc (.cells #[.int .u8 0, .int .u8 0, .int .u8 0, .int .u8 0, .int .u8 0, .int .u8 0, .int .u8 0, .int .u8 0, .int .u8 0, .int .u8 0, .int .u8 0, .int .u8 0, .int .u8 0, .int .u8 0, .int .u8 0, .int .u8 0, .int .u8 0, .int .u8 0, .int .u8 0, .int .u8 0, .int .u8 0, .int .u8 0, .int .u8 0, .int .u8 0, .int .u8 0, .int .u8 0, .int .u8 0, .int .u8 0, .int .u8 0, .int .u8 0, .int .u8 0, .int .u8 0] 22)).alloc (.cells #[.int .u64 0, .int .u64 0, .int .u64 0, .int .u64 0, .int .u64 0] 38)) x) : ByS w x [0, 0, 0, 0, 0] := by
  refine ⟨?_, ?_, below3 b⟩
  · have h := heap_alloc_new ((w.alloc (.cells cs 40)).alloc (.cells #[.int .u8 0, .int .u8 0, .int .u8 0, .int .u8 0, .int .u8 0, .int .u8 0, .int .u8 0, .int .u8 0, .int .u8 0, .int .u8 0, .int .u8 0, .int .u8 0, .int .u8 0, .int .u8 0, .int .u8 0, .int .u8 0, .int .u8 0, .int .u8 0, .int .u8 0, .int .u8 0, .int .u8 0, .int .u8 0, .int .u8 0, .int .u8 0, .int .u8 0, .int .u8 0, .int .u8 0, .int .u8 0, .int .u8 0, .int .u8 0, .int .u8 0, .int .u8 0] 22)) (.cells #[.int .u64 0, .int .u64 0, .int .u64 0, .int .u64 0, .int .u64 0] 38)
    rw [show ((w.alloc (.cells cs 40)).alloc (.cells #[.int .u8 0, .int .u8 0, .int .u8 0, .int .u8 0, .int .u8 0, .int .u8 0, .int .u8 0, .int .u8 0, .int .u8 0, .int .u8 0, .int .u8 0, .int .u8 0, .int .u8 0, .int .u8 0, .int .u8 0, .int .u8 0, .int .u8 0, .int .u8 0, .int .u8 0, .int .u8 0, .int .u8 0, .int .u8 0, .int .u8 0, .int .u8 0, .int .u8 0, .int .u8 0, .int .u8 0, .int .u8 0, .int .u8 0, .int .u8 0, .int .u8 0, .int .u8 0] 22)).heap.size = w.heap.size + 1 + 1 by simp] at h
    exact (b.block _ (by simp)).trans h
  · have h := heap_alloc_new (w.alloc (.cells cs 40)) (.cells #[.int .u8 0, .int .u8 0, .int .u8 0, .int .u8 0, .int .u8 0, .int .u8 0, .int .u8 0, .int .u8 0, .int .u8 0, .int .u8 0, .int .u8 0, .int .u8 0, .int .u8 0, .int .u8 0, .int .u8 0, .int .u8 0, .int .u8 0, .int .u8 0, .int .u8 0, .int .u8 0, .int .u8 0, .int .u8 0, .int .u8 0, .int .u8 0, .int .u8 0, .int .u8 0, .int .u8 0, .int .u8 0, .int .u8 0, .int .u8 0, .int .u8 0, .int .u8 0] 22)
    rw [show (w.alloc (.cells cs 40)).heap.size = w.heap.size + 1 by simp] at h
    exact (b.block _ (by simp)).trans ((heap_alloc_old _ _ (by simp)).trans h)
theorem ByS.step {w W : World} {ws : List Nat} (h : ByS w W ws) (k n : Nat) : ByS w (W.setCell ⟨w.heap.size + 1 + 1, k, none⟩ (.int .u64 (n : Int))).drew (ws.set k n) := by
  refine ⟨h.1.set_ k n, ?_, (h.2.2.setCell (by show w.heap.size ≤ w.heap.size + 1 + 1; omega) _).drewN 1⟩
  have h2 := h.2.1
  show (W.setCell _ _).heap[w.heap.size + 1]? = _
  simp only [World.setCell, Array.getElem?_modify]
  rw [if_neg (by omega)]; exact h2
theorem or_shift (x y s A B : Nat) (hs : 2 ^ s = A) (hA : A * B = 2 ^ 64) (hx : x < A) : bits .or .u64 (x : Int) (IntKind.u64.wrap ((y : Int) * (A : Int))) = ((x + y % B * A : Nat) : Int) := by
  have hA0 : 0 < A := by omega
  have hB0 : 0 < B := Nat.pos_of_ne_zero fun e => by subst e; omega
  have e1 : IntKind.u64.wrap ((y : Int) * (A : Int)) = ((y % B * A : Nat) : Int) := by
    rw [IntKind.wrap_u64]
    have : ((y : Int) * (A : Int)) = ((y * A : Nat) : Int) := by rw [Int.natCast_mul]
    rw [this]
    have e2 : y * A % 2 ^ 64 = y % B * A := by rw [← hA, Nat.mul_comm A B, Nat.mul_mod_mul_right]
    rw [← e2]
    omega
  have hyb : y % B < B := Nat.mod_lt _ hB0
  have hlt : y % B * A + A ≤ 2 ^ 64 := by
    have : (y % B + 1) * A ≤ B * A := Nat.mul_le_mul_right _ hyb
    rw [Nat.mul_comm B A, hA, Nat.succ_mul] at this
    exact this
  rw [e1, (bits_nat .u64 64 (by decide) wraps_u64 x (y % B * A) (by omega) (by omega)).2]
  congr 1
  have h2 := Nat.shiftLeft_add_eq_or_of_lt (i := s) (b := x) (by rw [hs]; exact hx) (y % B)
  rw [Nat.shiftLeft_eq, hs] at h2
  rw [Nat.or_comm, ← h2]; omega
theorem zero_or (x : Nat) (h : x < 2 ^ 64) : bits .or .u64 0 (x : Int) = (x : Int) := by
  have := (bits_nat .u64 64 (by decide) wraps_u64 0 x (by decide) h).2
  rw [Nat.zero_or] at this
  exact this
/-- The words of five limbs. -/
theorem limb_words (n0 n1 n2 n3 n4 : Nat) (h0 : n0 < 2 ^ 51) (h1 : n1 < 2 ^ 51) (h2 : n2 < 2 ^ 51) (h3 : n3 < 2 ^ 51) (h4 : n4 < 2 ^ 51) :
    ∃ w0 w1 w2 w3 a1 a2 a3 : Nat, bits .or .u64 0 (IntKind.u64.wrap (n0 : Int)) = (n0 : Int) ∧ bits .or .u64 0 ((n0 : Int) / 18446744073709551616) = 0 ∧
      bits .or .u64 (n0 : Int) (IntKind.u64.wrap ((n1 : Int) * 2251799813685248)) = (w0 : Int) ∧ bits .or .u64 0 ((n1 : Int) / 8192) = (a1 : Int) ∧
      bits .or .u64 (a1 : Int) (IntKind.u64.wrap ((n2 : Int) * 274877906944)) = (w1 : Int) ∧ bits .or .u64 0 ((n2 : Int) / 67108864) = (a2 : Int) ∧
      bits .or .u64 (a2 : Int) (IntKind.u64.wrap ((n3 : Int) * 33554432)) = (w2 : Int) ∧ bits .or .u64 0 ((n3 : Int) / 549755813888) = (a3 : Int) ∧
      bits .or .u64 (a3 : Int) (IntKind.u64.wrap ((n4 : Int) * 4096)) = (w3 : Int) ∧ bits .or .u64 0 ((n4 : Int) / 4503599627370496) = 0 ∧
      (w0 < 2 ^ 64 ∧ w1 < 2 ^ 64 ∧ w2 < 2 ^ 64 ∧ w3 < 2 ^ 64) ∧ val5 n0 n1 n2 n3 n4 = w0 + 2 ^ 64 * w1 + 2 ^ 128 * w2 + 2 ^ 192 * w3 := by
  refine ⟨n0 + n1 % 8192 * 2251799813685248, n1 / 8192 + n2 % 67108864 * 274877906944, n2 / 67108864 + n3 % 549755813888 * 33554432, n3 / 549755813888 + n4 % 4503599627370496 * 4096, n1 / 8192, n2 / 67108864, n3 / 549755813888, ?_, ?_, ?_, ?_, ?_, ?_, ?_, ?_, ?_, ?_, ?_, ?_⟩
  · rw [wraps_u64 _ (by omega) (by omega)]; exact zero_or n0 (by omega)
  · rw [show (n0 : Int) / 18446744073709551616 = ((0 : Nat) : Int) by omega]; exact zero_or 0 (by omega)
  · exact or_shift n0 n1 51 2251799813685248 8192 rfl rfl (by omega)
  · rw [show (n1 : Int) / 8192 = ((n1 / 8192 : Nat) : Int) by omega]; exact zero_or _ (by omega)
  · exact or_shift (n1 / 8192) n2 38 274877906944 67108864 rfl rfl (by omega)
  · rw [show (n2 : Int) / 67108864 = ((n2 / 67108864 : Nat) : Int) by omega]; exact zero_or _ (by omega)
  · exact or_shift (n2 / 67108864) n3 25 33554432 549755813888 rfl rfl (by omega)
  · rw [show (n3 : Int) / 549755813888 = ((n3 / 549755813888 : Nat) : Int) by omega]; exact zero_or _ (by omega)
  · exact or_shift (n3 / 549755813888) n4 12 4096 4503599627370496 rfl rfl (by omega)
  · rw [show (n4 : Int) / 4503599627370496 = ((0 : Nat) : Int) by omega]; exact zero_or 0 (by omega)
  · refine ⟨by omega, by omega, by omega, by omega⟩
  · unfold val5
    have d1 := Nat.div_add_mod n1 8192
    have d2 := Nat.div_add_mod n2 67108864
    have d3 := Nat.div_add_mod n3 549755813888
    rw [Nat.mod_eq_of_lt (show n4 < 4503599627370496 by omega)]
    omega
theorem results_cell {fn : Func} {p : Tmp} {ty : TypeId} (h : fn.results = #[.cell p ty]) (tmps : Array Value) (a : Addr) (v : Value) (W : World) (hp : tmps.getD p undef = .pointer (some a)) (hld : (loadVar ty a).run Tryd.prog W = .ok v W) : (results fn tmps).run Tryd.prog W = .ok v W := by
  simp only [results, h]
  simp only [Array.getD_eq_getD_getElem?] at hp
  simp [hp, asAddr, hld]
theorem below_cells {B b : Nat} {a : World} (hb : B ≤ b) : ∀ (vs : List Value) (o : Nat) (w : World), Below B a w → Below B a (w.setCells b o vs)
  | [], _, _, h => h
  | v :: vs, o, w, h => below_cells hb vs (o + 1) _ (h.setCell hb v)
theorem leB_len : ∀ k n, (leB k n).length = k
  | 0, n => rfl
  | k + 1, n => by simp [leB, leB_len k]
def byteF (N k : Nat) : UInt8 := UInt8.ofNat (N / 256 ^ k % 256)
theorem leB_get : ∀ (m n k : Nat), k < m → (leB m n)[k]? = some (byteF n k)
  | 0, n, k, h => by omega
  | m + 1, n, 0, h => by simp [leB, byteF]
  | m + 1, n, k + 1, h => by
    rw [leB, List.getElem?_cons_succ, leB_get m (n / 256) k (by omega)]
    unfold byteF
    rw [Nat.div_div_eq_div_mul, Nat.pow_succ, Nat.mul_comm]
def outF (N k : Nat) : List UInt8 := (leB 32 N).take k ++ List.replicate (32 - k) 0
theorem outF_len (N k : Nat) (h : k ≤ 32) : (outF N k).length = 32 := by
  unfold outF; rw [List.length_append, List.length_take, leB_len, List.length_replicate]; omega
theorem outF_step (N k : Nat) (h : k < 32) : (outF N k).set k (byteF N k) = outF N (k + 1) := by
  unfold outF
  have hl : ((leB 32 N).take k).length = k := by rw [List.length_take, leB_len]; omega
  rw [List.set_append_right _ _ (by omega), hl, Nat.sub_self, List.take_add_one, leB_get 32 N k h, Option.toList_some, List.append_assoc]
  congr 1
  rw [show 32 - k = (32 - (k + 1)) + 1 by omega, List.replicate_succ]
  rfl
theorem byte_at {w0 w1 w2 w3 N k j n : Nat} (hl : w0 < 2 ^ 64 ∧ w1 < 2 ^ 64 ∧ w2 < 2 ^ 64 ∧ w3 < 2 ^ 64) (hN : w0 + 2 ^ 64 * w1 + 2 ^ 128 * w2 + 2 ^ 192 * w3 = N) (hk : k < 32) (hj : k / 8 = j) (hn : [w0, w1, w2, w3, 0][j]? = some n) :
    IntKind.u8.wrap ((n : Int) / 2 ^ (8 * (k % 8))) = ((byteF N k).toNat : Int) := by
  obtain ⟨r, hr⟩ : ∃ r, k % 8 = r := ⟨_, rfl⟩
  have hkr : k = 8 * j + r := by omega
  have hj4 : j < 4 := by omega
  rw [hr]
  have e1 : N / 2 ^ (64 * j) % 2 ^ 64 = n := by
    have : j = 0 ∨ j = 1 ∨ j = 2 ∨ j = 3 := by omega
    rcases this with rfl | rfl | rfl | rfl <;> (simp at hn; omega)
  have e2 : N / 256 ^ k = N / 2 ^ (64 * j) / 2 ^ (8 * r) := by
    rw [Nat.div_div_eq_div_mul, ← Nat.pow_add, show (256 : Nat) = 2 ^ 8 from rfl, ← Nat.pow_mul, hkr]; congr 2; omega
  have e3 : N / 2 ^ (64 * j) / 2 ^ (8 * r) % 256 = n / 2 ^ (8 * r) % 256 := by
    rw [← e1]
    generalize N / 2 ^ (64 * j) = M
    have h8 : r = 0 ∨ r = 1 ∨ r = 2 ∨ r = 3 ∨ r = 4 ∨ r = 5 ∨ r = 6 ∨ r = 7 := by omega
    rcases h8 with rfl | rfl | rfl | rfl | rfl | rfl | rfl | rfl <;> omega
  have e4 : (n : Int) / 2 ^ (8 * r) = ((n / 2 ^ (8 * r) : Nat) : Int) := by rw [Int.natCast_ediv, Int.natCast_pow]; rfl
  have e5 : (byteF N k).toNat = n / 2 ^ (8 * r) % 256 := by
    unfold byteF; rw [e2, e3]; simp
  rw [e4, e5, IntKind.wrap_u8]; omega
/-- 32 bytes in a block. -/
def UBlk (w : World) (g : Nat) (bs : List UInt8) : Prop := w.heap[g]? = some (.cells (u8s bs).toArray 22 (0, 0))
theorem UBlk.cell {w : World} {g : Nat} {bs : List UInt8} (h : UBlk w g bs) {k : Nat} (hk : k < bs.length) : w.cell? ⟨g, k, none⟩ = some (.int .u8 (bs[k].toNat : Int)) := by
  rw [cell_of_row _ _ _ _ _ _ h]; simp [u8s, hk]
theorem UBlk.frozen {w : World} {g : Nat} {bs : List UInt8} (h : UBlk w g bs) (k : Nat) : w.frozen? ⟨g, k, none⟩ = false := by
  unfold UBlk at h; simp [World.frozen?, h]
theorem UBlk.set_ {w : World} {g : Nat} {bs : List UInt8} (h : UBlk w g bs) (k : Nat) (c : UInt8) : UBlk (w.setCell ⟨g, k, none⟩ (.int .u8 (c.toNat : Int))) g (bs.set k c) := by
  unfold UBlk at h ⊢
  simp [World.setCell, Array.getElem?_modify, h, u8s, List.map_set]
def ByOut (w : World) (B N w0 w1 w2 w3 : Nat) (i : Value) (wr : World) : Prop := ∃ k : Nat, k ≤ 32 ∧ i = .int .i64 (k : Int) ∧ ByS w wr [w0, w1, w2, w3, 0] ∧ UBlk wr B (outF N k)
theorem ByOut.step {w wr : World} {B N w0 w1 w2 w3 k : Nat} (hk : k < 32) (hB : w.heap.size + 1 + 1 < B) (h : ByS w wr [w0, w1, w2, w3, 0]) (hu : UBlk wr B (outF N k)) : ByOut w B N w0 w1 w2 w3 (.int .i64 ((k : Int) + 1)) (wr.setCell ⟨B, k, none⟩ (.int .u8 ((byteF N k).toNat : Int))) := by
  refine ⟨k + 1, by omega, by go_num, ⟨h.1.other (by omega), ?_, h.2.2.setCell (by show w.heap.size ≤ B; omega) _⟩, by rw [← outF_step N k hk]; exact hu.set_ k _⟩
  have h2 := h.2.1
  simp only [World.setCell, Array.getElem?_modify]
  rw [if_neg (by omega)]; exact h2
def ByRel (w : World) (n0 w0 w1 w2 w3 a1 a2 a3 : Nat) (i : Value) (wr : World) : Prop := (i = .int .i64 0 ∧ ByS w wr [0, 0, 0, 0, 0]) ∨ (i = .int .i64 1 ∧ ByS w wr [n0, 0, 0, 0, 0]) ∨ (i = .int .i64 2 ∧ ByS w wr [w0, a1, 0, 0, 0]) ∨ (i = .int .i64 3 ∧ ByS w wr [w0, w1, a2, 0, 0]) ∨ (i = .int .i64 4 ∧ ByS w wr [w0, w1, w2, a3, 0]) ∨ (i = .int .i64 5 ∧ ByS w wr [w0, w1, w2, w3, 0])
set_option maxRecDepth 100000 in
set_option maxHeartbeats 4000000 in
theorem bytes_calls (v : Value) (r : Nat) (hv : IsEl v r) (w : World) :
    Calls Tryd.prog 46 #[v] w (BPost (leB 32 (r % P)) w) := by
  obtain ⟨l0, l1, l2, l3, l4, rfl, hok, hval⟩ := hv.form
  have HV := Lib.hid hv
  clear hok hval hv
  go_enter Tryd.func46, Tryd.ntmps46
  go_wp2_with fail
  refine (least_calls _ _ HV.out _).mono ?_
  rintro e x ⟨n0, n1, n2, n3, n4, rfl, hn, bx⟩
  unfold E5
  have HN := Lib.hid hn
  have HX := Lib.hid bx
  have hs0 : ByS w x [0, 0, 0, 0, 0] := ByS.start bx
  have HS0 := Lib.hid hs0
  clear hn bx hs0 HX
  have hfield : ∀ W : World, (Instr.field 40 (.agg #[.int .u64 (n0 : Int), .int .u64 (n1 : Int), .int .u64 (n2 : Int), .int .u64 (n3 : Int), .int .u64 (n4 : Int)]) 0).run Tryd.prog W = .ok (.agg #[.int .u64 (n0 : Int), .int .u64 (n1 : Int), .int .u64 (n2 : Int), .int .u64 (n3 : Int), .int .u64 (n4 : Int)]) W := fun _ => by kernel_rfl
  have i0 : ∀ W : World, (Instr.index 38 (.agg #[.int .u64 (n0 : Int), .int .u64 (n1 : Int), .int .u64 (n2 : Int), .int .u64 (n3 : Int), .int .u64 (n4 : Int)]) (.int .i64 0)).run Tryd.prog W = .ok (.int .u64 (n0 : Int)) W := fun _ => by kernel_rfl
  have i1 : ∀ W : World, (Instr.index 38 (.agg #[.int .u64 (n0 : Int), .int .u64 (n1 : Int), .int .u64 (n2 : Int), .int .u64 (n3 : Int), .int .u64 (n4 : Int)]) (.int .i64 1)).run Tryd.prog W = .ok (.int .u64 (n1 : Int)) W := fun _ => by kernel_rfl
  have i2 : ∀ W : World, (Instr.index 38 (.agg #[.int .u64 (n0 : Int), .int .u64 (n1 : Int), .int .u64 (n2 : Int), .int .u64 (n3 : Int), .int .u64 (n4 : Int)]) (.int .i64 2)).run Tryd.prog W = .ok (.int .u64 (n2 : Int)) W := fun _ => by kernel_rfl
  have i3 : ∀ W : World, (Instr.index 38 (.agg #[.int .u64 (n0 : Int), .int .u64 (n1 : Int), .int .u64 (n2 : Int), .int .u64 (n3 : Int), .int .u64 (n4 : Int)]) (.int .i64 3)).run Tryd.prog W = .ok (.int .u64 (n3 : Int)) W := fun _ => by kernel_rfl
  have i4 : ∀ W : World, (Instr.index 38 (.agg #[.int .u64 (n0 : Int), .int .u64 (n1 : Int), .int .u64 (n2 : Int), .int .u64 (n3 : Int), .int .u64 (n4 : Int)]) (.int .i64 4)).run Tryd.prog W = .ok (.int .u64 (n4 : Int)) W := fun _ => by kernel_rfl
  obtain ⟨w0, w1, w2, w3, a1, a2, a3, p0, q0, p1, q1, p2, q2, p3, q3, p4, q4, hwl, hws⟩ := limb_words n0 n1 n2 n3 n4 HN.out.2.1 HN.out.2.2.1 HN.out.2.2.2.1 HN.out.2.2.2.2.1 HN.out.2.2.2.2.2
  have P0 := Lib.hid p0
  have Q0 := Lib.hid q0
  have P1 := Lib.hid p1
  have Q1 := Lib.hid q1
  have P2 := Lib.hid p2
  have Q2 := Lib.hid q2
  have P3 := Lib.hid p3
  have Q3 := Lib.hid q3
  have P4 := Lib.hid p4
  have Q4 := Lib.hid q4
  have HWL := Lib.hid hwl
  have HWS := Lib.hid hws
  clear hwl hws p0 q0 p1 q1 p2 q2 p3 q3 p4 q4
  go_wp2_with fail
  go_loopw [13] (ByRel w n0 w0 w1 w2 w3 a1 a2 a3) (fun i _ => 5 - (intOf i).toNat)
  case atStart => exact .inl ⟨rfl, HS0.out⟩
  case round =>
    rcases hrel with ⟨rfl, hs⟩ | ⟨rfl, hs⟩ | ⟨rfl, hs⟩ | ⟨rfl, hs⟩ | ⟨rfl, hs⟩ | ⟨rfl, hs⟩
    · have g1 := hs.1.cell (k := 0) rfl
      have g2 := hs.1.cell (k := 1) rfl
      have g3 := hs.1.frozen 0
      have g4 := hs.1.frozen 1
      have pp := P0.out
      have qq := Q0.out
      have hnx := (hs.step 0 n0).step 1 0
      clear hs
      go_wp2_with fail
      go_region
      all_goals go_wp2_with fail
      all_goals go_region
      all_goals go_wp2_with fail
      all_goals exact ⟨.inr (.inl ⟨rfl, hnx⟩), by simp [intOf]⟩
    · have g1 := hs.1.cell (k := 0) rfl
      have g2 := hs.1.cell (k := 1) rfl
      have g3 := hs.1.frozen 0
      have g4 := hs.1.frozen 1
      have pp := P1.out
      have qq := Q1.out
      have hnx := (hs.step 0 w0).step 1 a1
      clear hs
      go_wp2_with fail
      go_region
      all_goals go_wp2_with fail
      all_goals go_region
      all_goals go_wp2_with fail
      all_goals exact ⟨.inr (.inr (.inl ⟨rfl, hnx⟩)), by simp [intOf]⟩
    · have g1 := hs.1.cell (k := 1) rfl
      have g2 := hs.1.cell (k := 2) rfl
      have g3 := hs.1.frozen 1
      have g4 := hs.1.frozen 2
      have pp := P2.out
      have qq := Q2.out
      have hnx := (hs.step 1 w1).step 2 a2
      clear hs
      go_wp2_with fail
      go_region
      all_goals go_wp2_with fail
      all_goals go_region
      all_goals go_wp2_with fail
      all_goals exact ⟨.inr (.inr (.inr (.inl ⟨rfl, hnx⟩))), by simp [intOf]⟩
    · have g1 := hs.1.cell (k := 2) rfl
      have g2 := hs.1.cell (k := 3) rfl
      have g3 := hs.1.frozen 2
      have g4 := hs.1.frozen 3
      have pp := P3.out
      have qq := Q3.out
      have hnx := (hs.step 2 w2).step 3 a3
      clear hs
      go_wp2_with fail
      go_region
      all_goals go_wp2_with fail
      all_goals go_region
      all_goals go_wp2_with fail
      all_goals exact ⟨.inr (.inr (.inr (.inr (.inl ⟨rfl, hnx⟩)))), by simp [intOf]⟩
    · have g1 := hs.1.cell (k := 3) rfl
      have g2 := hs.1.cell (k := 4) rfl
      have g3 := hs.1.frozen 3
      have g4 := hs.1.frozen 4
      have pp := P4.out
      have qq := Q4.out
      have hnx := (hs.step 3 w3).step 4 0
      clear hs
      go_wp2_with fail
      go_region
      all_goals go_wp2_with fail
      all_goals go_region
      all_goals go_wp2_with fail
      all_goals exact ⟨.inr (.inr (.inr (.inr (.inr (⟨rfl, hnx⟩))))), by simp [intOf]⟩
    · have HS := Lib.hid hs
      clear hs
      obtain ⟨B, hB⟩ : ∃ B, wr.heap.size = B := ⟨_, rfl⟩
      have hsz := HS.out.2.2.size
      have hlt : w.heap.size + 1 + 1 < B := by rw [← hB]; exact (Array.getElem?_eq_some_iff.1 HS.out.1).1
      obtain ⟨N, hN⟩ : ∃ N, w0 + 2 ^ 64 * w1 + 2 ^ 128 * w2 + 2 ^ 192 * w3 = N := ⟨_, rfl⟩
      have hNr : N = r % P := by rw [← hN, ← HWS.out]; exact HN.out.1
      have HNr := Lib.hid hNr
      have HNN := Lib.hid hN
      clear hN hNr hfield i0 i1 i2 i3 i4
      go_wp2_with fail
      have hout : ByOut w B N w0 w1 w2 w3 (.int .i64 0) (wr.alloc (.cells #[.int .u8 0, .int .u8 0, .int .u8 0, .int .u8 0, .int .u8 0, .int .u8 0, .int .u8 0, .int .u8 0, .int .u8 0, .int .u8 0, .int .u8 0, .int .u8 0, .int .u8 0, .int .u8 0, .int .u8 0, .int .u8 0, .int .u8 0, .int .u8 0, .int .u8 0, .int .u8 0, .int .u8 0, .int .u8 0, .int .u8 0, .int .u8 0, .int .u8 0, .int .u8 0, .int .u8 0, .int .u8 0, .int .u8 0, .int .u8 0, .int .u8 0, .int .u8 0] 22)) := by
        refine ⟨0, by omega, rfl, ⟨HS.out.1.alloc _, (heap_alloc_old wr _ (Array.getElem?_eq_some_iff.1 HS.out.2.1).1).trans HS.out.2.1, HS.out.2.2.alloc hsz _⟩, ?_⟩
        have h := heap_alloc_new wr (.cells #[.int .u8 0, .int .u8 0, .int .u8 0, .int .u8 0, .int .u8 0, .int .u8 0, .int .u8 0, .int .u8 0, .int .u8 0, .int .u8 0, .int .u8 0, .int .u8 0, .int .u8 0, .int .u8 0, .int .u8 0, .int .u8 0, .int .u8 0, .int .u8 0, .int .u8 0, .int .u8 0, .int .u8 0, .int .u8 0, .int .u8 0, .int .u8 0, .int .u8 0, .int .u8 0, .int .u8 0, .int .u8 0, .int .u8 0, .int .u8 0, .int .u8 0, .int .u8 0] 22)
        rw [hB] at h
        exact h
      have HO := Lib.hid hout
      have HB2 := Lib.hid hB
      clear hout hB hsz
      go_loopw [42] (ByOut w B N w0 w1 w2 w3) (fun i _ => 32 - (intOf i).toNat)
      case atStart => exact HO.out
      case round =>
        obtain ⟨k, hk, rfl, hs, hu⟩ := hrel
        by_cases hp : k < 32
        · obtain ⟨j, hj⟩ : ∃ j, k / 8 = j := ⟨_, rfl⟩
          have hk8 : (k : Int) / 8 = (j : Int) := by omega
          obtain ⟨n, hn⟩ : ∃ n, [w0, w1, w2, w3, 0][j]? = some n := by
            have : j < [w0, w1, w2, w3, 0].length := by simp; omega
            exact ⟨_, List.getElem?_eq_getElem this⟩
          have hbyte := byte_at HWL.out HNN.out hp hj hn
          have g1 := hs.1.cell hn
          have hul : (outF N k).length = 32 := outF_len N k (by omega)
          obtain ⟨old, g2⟩ : ∃ y : Int, wr.cell? ⟨B, k, none⟩ = some (.int .u8 y) := ⟨_, hu.cell (k := k) (by omega)⟩
          have g3 := hu.frozen k
          have hnx : ByOut w B N w0 w1 w2 w3 (.int .i64 ((k : Int) + 1)) (wr.setCell ⟨B, k, none⟩ (.int .u8 ((byteF N k).toNat : Int))) := ByOut.step hp hlt hs hu
          have HNX := Lib.hid hnx
          have HW := Lib.hid hn
          clear hs hu hul hn hnx
          go_wp2_with fail
          exact ⟨HNX.out, by simp [intOf]; omega⟩
        · have hk32 : k = 32 := by omega
          subst hk32
          have hF : outF N 32 = leB 32 N := by unfold outF; rw [List.take_of_length_le (Nat.le_of_eq (leB_len _ _))]; simp
          rw [hF] at hu
          obtain ⟨cs, hcs⟩ : ∃ cs, u8s (leB 32 N) = cs := ⟨_, rfl⟩
          have hlen : cs.length = 32 := by rw [← hcs]; simp [u8s, leB_len]
          have hone : cs.toArray.all (·.oneCell') = true := by
            rw [← hcs]
            apply all_oneCell_toArray
            intro v hv
            obtain ⟨y, _, rfl⟩ := List.mem_map.1 hv
            rfl
          have hrg : wr.rangeAt B 0 cs := by
            intro j v hv
            have h := hu
            unfold UBlk at h
            rw [hcs] at h
            rw [Nat.zero_add, cell_of_row _ _ _ _ _ _ h]; simpa using hv
          have hth : wr.there (w.heap.size + 1) 0 cs.toArray.size := by
            intro j hj
            have h := hs.2.1
            have hj2 : j < 32 := by simpa [hlen] using hj
            rw [Nat.zero_add]
            refine ⟨?_, by simp [World.frozen?, h]⟩
            rw [cell_of_row _ _ _ _ _ _ h]; simp [u8s, hj2]
          have hsz1 : (Tryd.prog.info? 22).map (·.size) = some cs.length := by rw [hlen]; exact size32
          have hsz2 : (Tryd.prog.info? 22).map (·.size) = some cs.toArray.size := by simpa using hsz1
          have HC := Lib.hid hcs
          have HL := Lib.hid hlen
          have HB := Lib.hid hs.2.2
          have HRR := Lib.hid hrg
          have HTT := Lib.hid hth
          have HS1 := Lib.hid hsz1
          have HS2 := Lib.hid hsz2
          clear hs hu hF hcs hlen hrg hth hsz1 hsz2
          go_wp2_with (first
            | (refine wpList_load_mid rfl 22 _ rfl B 0 rfl cs _ HRR.out Tryd.underlying22 rfl HS1.out ?_)
            | (refine wpList_store_mid rfl 22 _ _ rfl (w.heap.size + 1) 0 cs.toArray rfl rfl HTT.out HS2.out hone ?_))
          have hld : (loadVar 22 ⟨w.heap.size + 1, 0, none⟩).run Tryd.prog (wr.setCells (w.heap.size + 1) 0 cs) = .ok (.agg cs.toArray) (wr.setCells (w.heap.size + 1) 0 cs) :=
            run_loadVar_mid _ _ _ _ cs _ (World.rangeAt_setCells_same _ _ _ _ (by simpa using HTT.out)) Tryd.underlying22 rfl HS1.out
          refine bodyPost_ret (v := .agg cs.toArray) ?_ rfl ⟨?_, below_cells (by omega) cs 0 wr HB.out⟩
          · exact results_cell rfl _ _ _ _ rfl hld
          · show Ending.returned (.agg cs.toArray) = .returned (.agg (u8s (leB 32 (r % P))).toArray)
            rw [← HNr.out, HC.out]
end Go.Proofs.YtkfdclnaaphdgaaDoor
namespace Go.Proofs.YtkfdclnaaphdgaaDoor
open Go.ChangeShapes Go.WideShapes Go.ChangeAt Go.RowKit Go.IntWalk
set_option linter.unusedVariables false

theorem leN_leB : ∀ k n, leN (leB k n) = n % 256 ^ k
  | 0, n => by simp [leB, leN]; omega
  | k + 1, n => by
    rw [leB, leN, leN_leB k, Nat.pow_succ]
    have e : (UInt8.ofNat (n % 256)).toNat = n % 256 := by simp
    rw [e]
    have h1 := Nat.div_add_mod n 256
    have h2 : n % (256 * 256 ^ k) = n % 256 + 256 * (n / 256 % 256 ^ k) := Nat.mod_mul
    rw [Nat.mul_comm (256 ^ k) 256, h2]
theorem leB_eq {x y : Nat} (hx : x < P) (hy : y < P) : (leB 32 x == leB 32 y) = decide (x = y) := by
  rw [Bool.eq_iff_iff, beq_iff_eq, decide_eq_true_eq]
  constructor
  · intro h
    have := congrArg leN h
    rw [leN_leB, leN_leB, Nat.mod_eq_of_lt (by unfold P at hx; omega), Nat.mod_eq_of_lt (by unfold P at hy; omega)] at this
    exact this
  · intro h; rw [h]
theorem mod_lt_P (r : Nat) : r % P < P := Nat.mod_lt _ (by unfold P; omega)
theorem eq_bytes (b c : List UInt8) (hb : b.length = 32) (hc : c.length = 32) (W : World) : (binOp .eql 22 (A32 b) (A32 c)).run Tryd.prog W = .ok (.bool (b == c)) W :=
  Go.run_eql_bytes W 22 5 32 Tryd.underlying22 Tryd.underlying5 (fun w => Tryd.sizeOf5 w) b c hb hc

theorem below2d {w w1 : World} {o1 o2 : Obj} (h : Below ((w.alloc o1).alloc o2).drew.heap.size ((w.alloc o1).alloc o2).drew w1) : Below w.heap.size w w1 :=
  below2 (o1 := o1) (o2 := o2) ⟨h.os, h.tape, h.output, h.size, h.block⟩
theorem noGuard : Tryd.prog.eqGuardType Tryd.prog.depth 22 = false := by kernel_rfl
theorem guard_bytes (op : BinOp) (b c : List UInt8) (x y : Operand) (W : World) : (eqGuard op 22 x y (A32 b) (A32 c)).run Tryd.prog W = .ok () W :=
  run_eqGuard_agg W op 22 x y _ _ noGuard
set_option maxRecDepth 100000 in
set_option maxHeartbeats 4000000 in
theorem is_calls (v u : Value) (r s : Nat) (hv : IsEl v r) (hu : IsEl u s) (w : World) :
    Calls Tryd.prog 62 #[v, u] w fun e w' => e = .returned (.bool (decide (r % P = s % P))) ∧ Below w.heap.size w w' := by
  obtain ⟨a0, a1, a2, a3, a4, rfl, hok, hval⟩ := hv.form
  obtain ⟨b0, b1, b2, b3, b4, rfl, hok2, hval2⟩ := hu.form
  have HV := Lib.hid hv
  have HU := Lib.hid hu
  have hgd := guard_bytes .eql (leB 32 (r % P)) (leB 32 (s % P))
  have heq := eq_bytes (leB 32 (r % P)) (leB 32 (s % P)) (leB_len _ _) (leB_len _ _)
  rw [leB_eq (mod_lt_P r) (mod_lt_P s)] at heq
  clear hok hval hok2 hval2 hv hu
  go_enter Tryd.func62, Tryd.ntmps62
  go_wp2_with fail
  go_region_held3 (fun w' => (w'.cell? ⟨w.heap.size, 0, none⟩ = some (.int .u64 (a0 : Int)) ∧ w'.cell? ⟨w.heap.size, 1, none⟩ = some (.int .u64 (a1 : Int)) ∧ w'.cell? ⟨w.heap.size, 2, none⟩ = some (.int .u64 (a2 : Int)) ∧ w'.cell? ⟨w.heap.size, 3, none⟩ = some (.int .u64 (a3 : Int)) ∧ w'.cell? ⟨w.heap.size, 4, none⟩ = some (.int .u64 (a4 : Int))) ∧
      w'.cell? ⟨w.heap.size + 1, 0, none⟩ = some (.int .u64 (b0 : Int)) ∧ w'.cell? ⟨w.heap.size + 1, 1, none⟩ = some (.int .u64 (b1 : Int)) ∧ w'.cell? ⟨w.heap.size + 1, 2, none⟩ = some (.int .u64 (b2 : Int)) ∧ w'.cell? ⟨w.heap.size + 1, 3, none⟩ = some (.int .u64 (b3 : Int)) ∧ w'.cell? ⟨w.heap.size + 1, 4, none⟩ = some (.int .u64 (b4 : Int)))
    (first | go_keep | (go_split_ands; (refine ⟨⟨?_, ?_, ?_, ?_, ?_⟩, ?_, ?_, ?_, ?_, ?_⟩ <;> exact Go.cell_later (by assumption) (by assumption))))
    ((first
      | (go_at_call 46; (with_reducible refine (bytes_calls _ _ HV.out _).mono ?_); rintro e wv ⟨rfl, bv⟩)
      | (go_at_call 46; (with_reducible refine (bytes_calls _ _ HU.out _).mono ?_); rintro e wu ⟨rfl, bu⟩)))
  go_wp2
  go_ret
  exact ⟨rfl, (below2d bv).then_ bu⟩

theorem odd_of (n : Nat) : (bits .and .u8 ((byteF n 0).toNat : Int) 1 == 1) = decide (n % 2 = 1) := by
  have e : (byteF n 0).toNat = n % 256 := by unfold byteF; simp
  have h1 : bits .and .u8 ((n % 256 : Nat) : Int) 1 = ((n % 256 : Nat) : Int) % 2 := bits_mask .u8 8 (by decide) (fun x h0 h1 => by rw [IntKind.wrap_u8]; omega) 1 (by decide) _ (by omega) (by omega)
  rw [e, h1, Bool.eq_iff_iff, beq_iff_eq, decide_eq_true_eq]
  omega
set_option maxHeartbeats 4000000 in
theorem odd_calls (v : Value) (r : Nat) (hv : IsEl v r) (w : World) :
    Calls Tryd.prog 47 #[v] w fun e w' => e = .returned (.bool (decide (r % P % 2 = 1))) ∧ Below w.heap.size w w' := by
  obtain ⟨a0, a1, a2, a3, a4, rfl, hok, hval⟩ := hv.form
  have HV := Lib.hid hv
  have hodd := odd_of (r % P)
  have hix : ∀ W : World, (Instr.index 22 (A32 (leB 32 (r % P))) (.int .i64 0)).run Tryd.prog W = .ok (.int .u8 ((byteF (r % P) 0).toNat : Int)) W := by
    have h := idx32 (u8s (leB 32 (r % P))) 0 (by omega) (.int .u8 ((byteF (r % P) 0).toNat : Int)) (by simp [u8s, leB_get 32 (r % P) 0 (by omega)])
    exact h
  generalize byteF (r % P) 0 = c at *
  clear hok hval hv
  go_enter Tryd.func47, Tryd.ntmps47
  go_wp2_with fail
  refine (bytes_calls _ _ HV.out _).mono ?_
  rintro e w1 ⟨rfl, b1⟩
  go_wp2
  go_ret
  exact ⟨rfl, below1 b1⟩
end Go.Proofs.YtkfdclnaaphdgaaDoor
