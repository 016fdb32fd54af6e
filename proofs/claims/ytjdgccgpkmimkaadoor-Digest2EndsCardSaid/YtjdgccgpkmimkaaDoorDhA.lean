/- Layer 3: words turned. -/
import Derived.Test.YtjdgccgpkmimkaaDoorBk
namespace Go.Proofs.YtjdgccgpkmimkaaDoor
open Go.ChangeShapes Go.WideShapes Go.ChangeAt Go.RowKit Go.IntWalk
set_option linter.unusedVariables false

theorem wrapU_eq (n : Int) : IntKind.u64.wrap n = n % 18446744073709551616 := by simp [IntKind.wrap, IntKind.bits, IntKind.signed]
/-- A word's bounds. -/
def InU (x : Int) : Prop := 0 ≤ x ∧ x < 18446744073709551616
theorem inU_wrap (x : Int) : InU (IntKind.u64.wrap x) := by rw [wrapU_eq]; unfold InU; omega
theorem inU_bits (op : BinOp) (x y : Int) : InU (bits op .u64 x y) := by unfold bits; exact inU_wrap _
theorem InU.nat {x : Int} (h : InU x) : ∃ n : Nat, x = (n : Int) ∧ n < 2 ^ 64 := ⟨x.toNat, by unfold InU at h; omega, by unfold InU at h; omega⟩
/-- A word turned to the right. -/
def rotN (x k : Nat) : Nat := (x / 2 ^ k) ||| (x * 2 ^ (64 - k) % 2 ^ 64)
def rotr (x : Int) (k : Nat) : Int := ((rotN x.toNat k : Nat) : Int)
theorem inU_rotr (x : Int) (h : InU x) (k : Nat) : InU (rotr x k) := by
  obtain ⟨n, rfl, hn⟩ := h.nat
  unfold rotr rotN InU
  have h1 : n / 2 ^ k < 2 ^ 64 := Nat.lt_of_le_of_lt (Nat.div_le_self _ _) hn
  have := Nat.or_lt_two_pow h1 (Nat.mod_lt (n * 2 ^ (64 - k)) (show 0 < 2 ^ 64 by decide))
  simp only [Int.toNat_natCast]
  generalize (n / 2 ^ k ||| n * 2 ^ (64 - k) % 2 ^ 64) = m at *
  omega
theorem rot_parts (x k : Nat) (hx : x < 2 ^ 64) : bits .or .u64 ((x : Int) / 2 ^ k) ((x : Int) * 2 ^ (64 - k) % 18446744073709551616) = rotr (x : Int) k := by
  have e1 : (x : Int) / 2 ^ k = ((x / 2 ^ k : Nat) : Int) := by rw [Int.natCast_ediv, Int.natCast_pow]; rfl
  have e2 : (x : Int) * 2 ^ (64 - k) % 18446744073709551616 = ((x * 2 ^ (64 - k) % 2 ^ 64 : Nat) : Int) := by
    rw [Int.natCast_emod, Int.natCast_mul, Int.natCast_pow]; rfl
  rw [e1, e2, (bits_nat .u64 64 (by decide) (fun n h0 h1 => by rw [wrapU_eq]; omega) _ _ (Nat.lt_of_le_of_lt (Nat.div_le_self _ _) hx) (Nat.mod_lt _ (by decide))).2]
  rfl
theorem bits_or_comm (x y : Int) : bits .or .u64 x y = bits .or .u64 y x := by
  unfold bits
  simp only [BitVec.or_comm]
set_option maxHeartbeats 1000000 in
theorem rotl_calls (x k : Nat) (hx : x < 2 ^ 64) (h1 : 1 ≤ k) (hk : k ≤ 63) (w : World) :
    Calls Tryd.prog 22 #[.int .u64 (x : Int), .int .i64 (-(k : Int))] w fun e w' => e = .returned (.int .u64 (rotr (x : Int) k)) ∧ w = w' := by
  have h2 : bits .and .u64 (IntKind.u64.wrap (-(k : Int))) 63 = ((64 - k : Nat) : Int) := by
    rw [show (IntKind.u64.wrap (-(k : Int))) = ((2 ^ 64 - k : Nat) : Int) by rw [IntKind.wrap_u64]; omega]
    have := bits_mask .u64 64 (by decide) wraps_u64 6 (by decide) ((2 ^ 64 - k : Nat) : Int) (by omega) (by omega)
    rw [show (2 : Int) ^ 6 - 1 = 63 from rfl] at this
    rw [this]
    omega
  have hr := rot_parts x k hx
  rw [bits_or_comm] at hr
  have HR := Lib.hid hr
  have hs : 64 - (64 - k) = k := by omega
  clear hr
  go_enter Tryd.func22, Tryd.ntmps22
  go_wp2_with fail
  go_ret
  refine ⟨?_, rfl⟩
  have h3 : ((64 : Int) - ((64 - k : Nat) : Int)).toNat = k := by omega
  rw [← HR.out]; simp [hs, IntKind.wrap_u64]
theorem neg_wrap (k : Nat) (hk : k ≤ 63) : IntKind.i64.wrap (-(k : Int)) = -(k : Int) := IntWalk.i64_in _ (by omega)
set_option maxHeartbeats 1000000 in
theorem turned_calls (x k : Nat) (hx : x < 2 ^ 64) (h1 : 1 ≤ k) (hk : k ≤ 63) (w : World) :
    Calls Tryd.prog 21 #[.int .u64 (x : Int), .int .i64 (k : Int)] w fun e w' => e = .returned (.int .u64 (rotr (x : Int) k)) ∧ w = w' := by
  go_enter Tryd.func21, Tryd.ntmps21
  go_wp2_with fail
  refine (rotl_calls x k hx h1 hk _).mono ?_
  rintro e w' ⟨rfl, rfl⟩
  go_wp2_with fail
  go_ret
  exact ⟨rfl, rfl⟩
set_option maxHeartbeats 1000000 in
theorem turn_calls (x k : Nat) (hx : x < 2 ^ 64) (h1 : 1 ≤ k) (hk : k ≤ 63) (w : World) :
    Calls Tryd.prog 18 #[.int .u64 (x : Int), .int .u64 (k : Int)] w fun e w' => e = .returned (.int .u64 (rotr (x : Int) k)) ∧ w = w' := by
  have HR := Lib.hid (rot_parts x k hx)
  go_enter Tryd.func18, Tryd.ntmps18
  go_wp2_with fail
  go_ret
  exact ⟨by rw [← HR.out]; rfl, rfl⟩
theorem turned_any (x : Int) (k : Nat) (hx : InU x) (h1 : 1 ≤ k) (hk : k ≤ 63) (w : World) :
    Calls Tryd.prog 21 #[.int .u64 x, .int .i64 (k : Int)] w fun e w' => e = .returned (.int .u64 (rotr x k)) ∧ w = w' := by
  obtain ⟨n, rfl, hn⟩ := hx.nat
  exact turned_calls n k hn h1 hk w
theorem turn_any (x : Int) (k : Nat) (hx : InU x) (h1 : 1 ≤ k) (hk : k ≤ 63) (w : World) :
    Calls Tryd.prog 18 #[.int .u64 x, .int .u64 (k : Int)] w fun e w' => e = .returned (.int .u64 (rotr x k)) ∧ w = w' := by
  obtain ⟨n, rfl, hn⟩ := hx.nat
  exact turn_calls n k hn h1 hk w
/-- A word turned thrice, exclusively together. -/
def three (x : Int) (i j k : Nat) : Int := bits .xor .u64 (bits .xor .u64 (rotr x i) (rotr x j)) (rotr x k)
set_option maxHeartbeats 1000000 in
theorem three_calls (x : Int) (i j k : Nat) (hx : InU x) (hi : 1 ≤ i ∧ i ≤ 63) (hj : 1 ≤ j ∧ j ≤ 63) (hk : 1 ≤ k ∧ k ≤ 63) (w : World) :
    Calls Tryd.prog 19 #[.int .u64 x, .int .u64 (i : Int), .int .u64 (j : Int), .int .u64 (k : Int)] w fun e w' => e = .returned (.int .u64 (three x i j k)) ∧ w = w' := by
  have HX := Lib.hid hx
  clear hx
  go_enter Tryd.func19, Tryd.ntmps19
  go_wp2_with fail
  refine (turn_any x i HX.out hi.1 hi.2 _).mono ?_
  rintro e w' ⟨rfl, rfl⟩
  go_wp2_with fail
  refine (turn_any x j HX.out hj.1 hj.2 _).mono ?_
  rintro e w' ⟨rfl, rfl⟩
  go_wp2_with fail
  refine (turn_any x k HX.out hk.1 hk.2 _).mono ?_
  rintro e w' ⟨rfl, rfl⟩
  go_wp2_with fail
  go_ret
  exact ⟨rfl, rfl⟩
end Go.Proofs.YtjdgccgpkmimkaaDoor
