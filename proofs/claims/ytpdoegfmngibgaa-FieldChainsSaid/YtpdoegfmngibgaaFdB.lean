/- Layer 4: sums, differences, small numbers. -/
import Derived.Test.YtpdoegfmngibgaaFdA
namespace Go.Proofs.Ytpdoegfmngibgaa
open Go.ChangeShapes Go.WideShapes Go.ChangeAt Go.RowKit Go.IntWalk
set_option linter.unusedVariables false

theorem u64_add (x y : Nat) (h : x + y < 2 ^ 64) : IntKind.u64.wrap ((x : Int) + (y : Int)) = ((x + y : Nat) : Int) := by
  rw [← Int.natCast_add]; exact wraps_u64 _ (by omega) (by omega)
theorem u64_addc (x k : Nat) (h : x + k < 2 ^ 64) : IntKind.u64.wrap ((x : Int) + (k : Nat)) = ((x + k : Nat) : Int) := u64_add x k h
theorem u64_sub (x y : Nat) (h : y ≤ x) (hx : x < 2 ^ 64) : IntKind.u64.wrap ((x : Int) - (y : Int)) = ((x - y : Nat) : Int) := by
  rw [show (x : Int) - (y : Int) = ((x - y : Nat) : Int) by omega]; exact wraps_u64 _ (by omega) (by omega)
theorem ok_carried (a b c d e : Nat) (ha : a < 2 ^ 63) (hb : b < 2 ^ 63) (hc : c < 2 ^ 63) (hd : d < 2 ^ 63) (he : e < 2 ^ 63) :
    Ok5 (a % 2 ^ 51 + 19 * (e / 2 ^ 51)) (b % 2 ^ 51 + a / 2 ^ 51) (c % 2 ^ 51 + b / 2 ^ 51) (d % 2 ^ 51 + c / 2 ^ 51) (e % 2 ^ 51 + d / 2 ^ 51) := by
  unfold Ok5; omega
/-- carried, as a rest -/
theorem carried_el (l0 l1 l2 l3 l4 r : Nat) (w : World) (h0 : l0 < 2 ^ 63) (h1 : l1 < 2 ^ 63) (h2 : l2 < 2 ^ 63) (h3 : l3 < 2 ^ 63) (h4 : l4 < 2 ^ 63) (hr : val5 l0 l1 l2 l3 l4 % P = r % P) :
    Calls Try.prog 39 #[.int .u64 (l0 : Int), .int .u64 (l1 : Int), .int .u64 (l2 : Int), .int .u64 (l3 : Int), .int .u64 (l4 : Int)] w (ElPost r w) :=
  (carried_calls l0 l1 l2 l3 l4 w h0 h1 h2 h3 h4).mono fun e w' ⟨he, hb⟩ => ⟨_, he, ⟨_, _, _, _, _, rfl, ok_carried l0 l1 l2 l3 l4 h0 h1 h2 h3 h4, by
    have := carry_val l0 l1 l2 l3 l4
    rw [← hr, ← this, Nat.add_mul_mod_self_left]⟩, hb⟩

/-- A rest's five limbs, to be stored whole. -/
theorem IsEl.form {v : Value} {r : Nat} (h : IsEl v r) : ∃ a b c d e : Nat, v = .agg #[.int .u64 a, .int .u64 b, .int .u64 c, .int .u64 d, .int .u64 e] ∧ Ok5 a b c d e ∧ val5 a b c d e % P = r % P := h

theorem rest_sub {x y z r s : Nat} (e : x + y = z + 2 * P) (hr : z % P = r % P) (hs : y % P = s % P) : x % P = (r + (P - s % P)) % P := by
  have hp : 0 < P := by unfold P; omega
  have hsl : s % P < P := Nat.mod_lt _ hp
  have h1 : (x + s % P) % P = r % P := by
    rw [← hs, Nat.add_mod, Nat.mod_mod, ← Nat.add_mod, e, ← hr, Nat.mul_comm, Nat.add_mul_mod_self_left]
  have h2 : (x + s % P + (P - s % P)) % P = (r + (P - s % P)) % P := by
    rw [Nat.add_mod, h1, ← Nat.add_mod]
  rw [← h2, show x + s % P + (P - s % P) = x + P * 1 by omega, Nat.add_mul_mod_self_left]
theorem sub_rest {a0 a1 a2 a3 a4 b0 b1 b2 b3 b4 r s : Nat} (h : a0 < 2 ^ 51 + 2 ^ 20 ∧ a1 < 2 ^ 51 + 2 ^ 20 ∧ a2 < 2 ^ 51 + 2 ^ 20 ∧ a3 < 2 ^ 51 + 2 ^ 20 ∧ a4 < 2 ^ 51 + 2 ^ 20)
    (h2 : b0 < 2 ^ 51 + 2 ^ 20 ∧ b1 < 2 ^ 51 + 2 ^ 20 ∧ b2 < 2 ^ 51 + 2 ^ 20 ∧ b3 < 2 ^ 51 + 2 ^ 20 ∧ b4 < 2 ^ 51 + 2 ^ 20) (hr : val5 a0 a1 a2 a3 a4 % P = r % P) (hs : val5 b0 b1 b2 b3 b4 % P = s % P) :
    val5 (a0 + 4503599627370458 - b0) (a1 + 4503599627370494 - b1) (a2 + 4503599627370494 - b2) (a3 + 4503599627370494 - b3) (a4 + 4503599627370494 - b4) % P = (r + (P - s % P)) % P := by
  have e : val5 (a0 + 4503599627370458 - b0) (a1 + 4503599627370494 - b1) (a2 + 4503599627370494 - b2) (a3 + 4503599627370494 - b3) (a4 + 4503599627370494 - b4) + val5 b0 b1 b2 b3 b4 = val5 a0 a1 a2 a3 a4 + 2 * P := by
    unfold val5 P; omega
  exact rest_sub e hr hs
theorem below_set5 {B : Nat} {w w1 : World} (h : Below B w w1) (g : Nat) (hg : B ≤ g) (a b c d e : Value) :
    Below B w (((((w1.setCell ⟨g, 0, none⟩ a).setCell ⟨g, 1, none⟩ b).setCell ⟨g, 2, none⟩ c).setCell ⟨g, 3, none⟩ d).setCell ⟨g, 4, none⟩ e) :=
  ((((h.setCell hg _).setCell hg _).setCell hg _).setCell hg _).setCell hg _
theorem below1 {w w1 : World} {o1 : Obj} (h : Below (w.alloc o1).heap.size (w.alloc o1) w1) : Below w.heap.size w w1 := h.of_alloc
theorem below2 {w w1 : World} {o1 o2 : Obj} (h : Below ((w.alloc o1).alloc o2).heap.size ((w.alloc o1).alloc o2) w1) : Below w.heap.size w w1 := h.of_alloc.of_alloc
theorem below3 {w w1 : World} {o1 o2 o3 : Obj} (h : Below (((w.alloc o1).alloc o2).alloc o3).heap.size (((w.alloc o1).alloc o2).alloc o3) w1) : Below w.heap.size w w1 := h.of_alloc.of_alloc.of_alloc
set_option maxHeartbeats 2000000 in
theorem add_calls (v u : Value) (r s : Nat) (hv : IsEl v r) (hu : IsEl u s) (w : World) :
    Calls Try.prog 20 #[v, u] w (ElPost (r + s) w) := by
  obtain ⟨a0, a1, a2, a3, a4, rfl, hok, hval⟩ := hv.form
  obtain ⟨b0, b1, b2, b3, b4, rfl, hok2, hval2⟩ := hu.form
  have HC : Hid (∀ W : World, Calls Try.prog 39 #[.int .u64 ((a0 + b0 : Nat) : Int), .int .u64 ((a1 + b1 : Nat) : Int), .int .u64 ((a2 + b2 : Nat) : Int), .int .u64 ((a3 + b3 : Nat) : Int), .int .u64 ((a4 + b4 : Nat) : Int)] W (ElPost (r + s) W)) := by
    intro W
    unfold Ok5 at hok hok2
    refine carried_el _ _ _ _ _ _ W (by omega) (by omega) (by omega) (by omega) (by omega) ?_
    rw [Nat.add_mod, ← hval, ← hval2, ← Nat.add_mod]
    congr 1
    unfold val5; omega
  have s0 : IntKind.u64.wrap ((a0 : Int) + (b0 : Int)) = ((a0 + b0 : Nat) : Int) := by unfold Ok5 at hok hok2; exact u64_add _ _ (by omega)
  have s1 : IntKind.u64.wrap ((a1 : Int) + (b1 : Int)) = ((a1 + b1 : Nat) : Int) := by unfold Ok5 at hok hok2; exact u64_add _ _ (by omega)
  have s2 : IntKind.u64.wrap ((a2 : Int) + (b2 : Int)) = ((a2 + b2 : Nat) : Int) := by unfold Ok5 at hok hok2; exact u64_add _ _ (by omega)
  have s3 : IntKind.u64.wrap ((a3 : Int) + (b3 : Int)) = ((a3 + b3 : Nat) : Int) := by unfold Ok5 at hok hok2; exact u64_add _ _ (by omega)
  have s4 : IntKind.u64.wrap ((a4 : Int) + (b4 : Int)) = ((a4 + b4 : Nat) : Int) := by unfold Ok5 at hok hok2; exact u64_add _ _ (by omega)
  generalize a0 + b0 = c0 at *
  generalize a1 + b1 = c1 at *
  generalize a2 + b2 = c2 at *
  generalize a3 + b3 = c3 at *
  generalize a4 + b4 = c4 at *
  clear hok hok2 hval hval2 hv hu
  go_enter Try.func20, Try.ntmps20
  go_wp2_with fail
  refine (HC.out _).mono ?_
  rintro e w1 ⟨x, rfl, hx, b1⟩
  obtain ⟨d0, d1, d2, d3, d4, rfl, hok, hval⟩ := hx.form
  obtain ⟨hc, hf⟩ := bcell b1
  have hz : w.heap.size + 2 < w1.heap.size := by have := b1.size; simp at this; omega
  have hbel : Below w.heap.size w w1 := below3 b1
  go_wp2
  exact bodyPost_ret (v := .agg #[.int .u64 d0, .int .u64 d1, .int .u64 d2, .int .u64 d3, .int .u64 d4]) (by simp [results, Try.results20, go_sem, hc]) rfl
    ⟨_, rfl, hx, below_set5 hbel _ (by omega) _ _ _ _ _⟩

set_option maxHeartbeats 2000000 in
theorem sub_calls (v u : Value) (r s : Nat) (hv : IsEl v r) (hu : IsEl u s) (w : World) :
    Calls Try.prog 22 #[v, u] w (ElPost (r + (P - s % P)) w) := by
  obtain ⟨a0, a1, a2, a3, a4, rfl, hok, hval⟩ := hv.form
  obtain ⟨b0, b1, b2, b3, b4, rfl, hok2, hval2⟩ := hu.form
  have HC : Hid (∀ W : World, Calls Try.prog 39 #[.int .u64 ((a0 + 4503599627370458 - b0 : Nat) : Int), .int .u64 ((a1 + 4503599627370494 - b1 : Nat) : Int), .int .u64 ((a2 + 4503599627370494 - b2 : Nat) : Int), .int .u64 ((a3 + 4503599627370494 - b3 : Nat) : Int), .int .u64 ((a4 + 4503599627370494 - b4 : Nat) : Int)] W (ElPost (r + (P - s % P)) W)) := by
    intro W
    unfold Ok5 at hok hok2
    refine carried_el _ _ _ _ _ _ W (by omega) (by omega) (by omega) (by omega) (by omega) ?_
    exact sub_rest hok hok2 hval hval2
  have e0 : IntKind.u64.wrap ((a0 : Int) + 4503599627370458) = ((a0 + 4503599627370458 : Nat) : Int) := by unfold Ok5 at hok hok2; exact u64_addc a0 4503599627370458 (by omega)
  have e1 : IntKind.u64.wrap ((a1 : Int) + 4503599627370494) = ((a1 + 4503599627370494 : Nat) : Int) := by unfold Ok5 at hok hok2; exact u64_addc a1 4503599627370494 (by omega)
  have e2 : IntKind.u64.wrap ((a2 : Int) + 4503599627370494) = ((a2 + 4503599627370494 : Nat) : Int) := by unfold Ok5 at hok hok2; exact u64_addc a2 4503599627370494 (by omega)
  have e3 : IntKind.u64.wrap ((a3 : Int) + 4503599627370494) = ((a3 + 4503599627370494 : Nat) : Int) := by unfold Ok5 at hok hok2; exact u64_addc a3 4503599627370494 (by omega)
  have e4 : IntKind.u64.wrap ((a4 : Int) + 4503599627370494) = ((a4 + 4503599627370494 : Nat) : Int) := by unfold Ok5 at hok hok2; exact u64_addc a4 4503599627370494 (by omega)
  have s0 : IntKind.u64.wrap (((a0 + 4503599627370458 : Nat) : Int) - (b0 : Int)) = ((a0 + 4503599627370458 - b0 : Nat) : Int) := by unfold Ok5 at hok hok2; exact u64_sub _ _ (by omega) (by omega)
  have s1 : IntKind.u64.wrap (((a1 + 4503599627370494 : Nat) : Int) - (b1 : Int)) = ((a1 + 4503599627370494 - b1 : Nat) : Int) := by unfold Ok5 at hok hok2; exact u64_sub _ _ (by omega) (by omega)
  have s2 : IntKind.u64.wrap (((a2 + 4503599627370494 : Nat) : Int) - (b2 : Int)) = ((a2 + 4503599627370494 - b2 : Nat) : Int) := by unfold Ok5 at hok hok2; exact u64_sub _ _ (by omega) (by omega)
  have s3 : IntKind.u64.wrap (((a3 + 4503599627370494 : Nat) : Int) - (b3 : Int)) = ((a3 + 4503599627370494 - b3 : Nat) : Int) := by unfold Ok5 at hok hok2; exact u64_sub _ _ (by omega) (by omega)
  have s4 : IntKind.u64.wrap (((a4 + 4503599627370494 : Nat) : Int) - (b4 : Int)) = ((a4 + 4503599627370494 - b4 : Nat) : Int) := by unfold Ok5 at hok hok2; exact u64_sub _ _ (by omega) (by omega)
  clear hok hok2 hval hval2 hv hu
  generalize a0 + 4503599627370458 - b0 = c0 at *
  generalize a1 + 4503599627370494 - b1 = c1 at *
  generalize a2 + 4503599627370494 - b2 = c2 at *
  generalize a3 + 4503599627370494 - b3 = c3 at *
  generalize a4 + 4503599627370494 - b4 = c4 at *
  generalize a0 + 4503599627370458 = g0 at *
  generalize a1 + 4503599627370494 = g1 at *
  generalize a2 + 4503599627370494 = g2 at *
  generalize a3 + 4503599627370494 = g3 at *
  generalize a4 + 4503599627370494 = g4 at *
  go_enter Try.func22, Try.ntmps22
  go_wp2_with fail
  refine (HC.out _).mono ?_
  rintro e w1 ⟨x, rfl, hx, b1⟩
  obtain ⟨d0, d1, d2, d3, d4, rfl, hok, hval⟩ := hx.form
  obtain ⟨hc, hf⟩ := bcell b1
  have hz : w.heap.size + 2 < w1.heap.size := by have := b1.size; simp at this; omega
  have hbel : Below w.heap.size w w1 := below3 b1
  go_wp2
  exact bodyPost_ret (v := .agg #[.int .u64 d0, .int .u64 d1, .int .u64 d2, .int .u64 d3, .int .u64 d4]) (by simp [results, Try.results22, go_sem, hc]) rfl
    ⟨_, rfl, hx, below_set5 hbel _ (by omega) _ _ _ _ _⟩

theorem IsEl.zero : IsEl (.agg #[.int .u64 0, .int .u64 0, .int .u64 0, .int .u64 0, .int .u64 0]) 0 :=
  ⟨0, 0, 0, 0, 0, rfl, by unfold Ok5; omega, rfl⟩
theorem IsEl.congr {v : Value} {r s : Nat} (h : IsEl v r) (e : r % P = s % P) : IsEl v s := by
  obtain ⟨a, b, c, d, f, h1, h2, h3⟩ := h; exact ⟨a, b, c, d, f, h1, h2, h3.trans e⟩
theorem IsEl.small (n : Nat) (h : n < 2 ^ 51) : IsEl (.agg #[.int .u64 (n : Int), .int .u64 0, .int .u64 0, .int .u64 0, .int .u64 0]) n :=
  ⟨n, 0, 0, 0, 0, rfl, by unfold Ok5; omega, by unfold val5; simp⟩

set_option maxHeartbeats 2000000 in
theorem neg_calls (v : Value) (r : Nat) (hv : IsEl v r) (w : World) :
    Calls Try.prog 24 #[v] w (ElPost (P - r % P) w) := by
  obtain ⟨a0, a1, a2, a3, a4, rfl, hok, hval⟩ := hv.form
  have HV := Lib.hid hv
  clear hok hval hv
  go_enter Try.func24, Try.ntmps24
  go_wp2_with fail
  refine (sub_calls _ _ _ _ IsEl.zero HV.out _).mono ?_
  rintro e w1 ⟨x, rfl, hx, b1⟩
  have hx2 := hx.congr (s := P - r % P) (by rw [Nat.zero_add])
  clear hx
  obtain ⟨d0, d1, d2, d3, d4, rfl, hok, hval⟩ := hx2.form
  obtain ⟨hc, hf⟩ := bcell b1
  have hz : w.heap.size + 1 < w1.heap.size := by have := b1.size; simp at this; omega
  have hbel : Below w.heap.size w w1 := below2 b1
  go_wp2
  exact bodyPost_ret (v := .agg #[.int .u64 d0, .int .u64 d1, .int .u64 d2, .int .u64 d3, .int .u64 d4]) (by simp [results, Try.results24, go_sem, hc]) rfl
    ⟨_, rfl, hx2, below_set5 hbel _ (by omega) _ _ _ _ _⟩

set_option maxHeartbeats 2000000 in
theorem small_calls (n : Nat) (hn : n < 2 ^ 32) (w : World) :
    Calls Try.prog 11 #[.int .u32 (n : Int)] w (ElPost n w) := by
  have HV := Lib.hid (IsEl.small n (by omega))
  have e : IntKind.u64.wrap (n : Int) = (n : Int) := wraps_u64 _ (by omega) (by omega)
  clear hn
  go_enter Try.func11, Try.ntmps11
  go_wp2
  exact bodyPost_ret (v := .agg #[.int .u64 (n : Int), .int .u64 0, .int .u64 0, .int .u64 0, .int .u64 0]) (by simp [results, Try.results11, go_sem]) rfl
    ⟨_, rfl, HV.out, (Below.refl _ _).alloc (Nat.le_refl _) _⟩
end Go.Proofs.Ytpdoegfmngibgaa
