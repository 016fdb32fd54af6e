/- Layer 4: inverses; what is alive. -/
import Derived.Test.YtpdoegfmngibgaaFdJ
import Derived.Test.YtpdoegfmngibgaaPrime
namespace Go.Proofs.Ytpdoegfmngibgaa
open Go.ChangeShapes Go.WideShapes Go.ChangeAt Go.RowKit Go.IntWalk
set_option linter.unusedVariables false

theorem leN_ones (count less : Nat) (h : count ≤ 255) : leN (onesF count less) = 2 ^ count - 1 - less := by
  unfold onesF
  rw [leN_leB]
  have h2 : 2 ^ count ≤ 2 ^ 255 := Nat.pow_le_pow_right (by decide) h
  exact Nat.mod_eq_of_lt (by omega)
theorem onesF_len (count less : Nat) : (onesF count less).length = 32 := leB_len _ _
theorem neq_bytes (b c : List UInt8) (hb : b.length = 32) (hc : c.length = 32) (W : World) : (binOp .neq 22 (A32 b) (A32 c)).run Try.prog W = .ok (.bool (!(b == c))) W := by
  show (binOp .neq 22 (.agg (b.map fun c => Value.int .u8 c.toNat).toArray) (.agg (c.map fun c => Value.int .u8 c.toNat).toArray)).run Try.prog W = .ok (.bool (!(b == c))) W
  rw [run_neq_struct, show (Op.equalIn 10000 22 (.agg (b.map fun c => Value.int .u8 c.toNat).toArray) (.agg (c.map fun c => Value.int .u8 c.toNat).toArray)).run Try.prog W = .ok (b == c) W from
    run_equalIn_bytes W 9998 22 5 32 Try.underlying22 Try.underlying5 (fun w => Try.sizeOf5 w) b c hb hc]
  rfl
theorem ones_255 (w : World) : Calls Try.prog 42 #[.int .i64 255, .int .u8 20] w (BPost (onesF 255 20) w) := ones_calls 255 20 (by decide) (by decide) w
theorem ones_252 (w : World) : Calls Try.prog 42 #[.int .i64 252, .int .u8 1] w (BPost (onesF 252 1) w) := ones_calls 252 1 (by decide) (by decide) w
theorem ones_253 (w : World) : Calls Try.prog 42 #[.int .i64 253, .int .u8 4] w (BPost (onesF 253 4) w) := ones_calls 253 4 (by decide) (by decide) w
set_option maxRecDepth 100000 in
set_option maxHeartbeats 4000000 in
theorem inv_calls (v : Value) (r : Nat) (hv : IsEl v r) (w : World) :
    Calls Try.prog 30 #[v] w (ElPost (r ^ (P - 2)) w) := by
  obtain ⟨a0, a1, a2, a3, a4, rfl, hok, hval⟩ := hv.form
  have HV := Lib.hid hv
  clear hok hval hv
  go_enter Try.func30, Try.ntmps30
  go_wp2_with fail
  go_region_held3 (fun w' => w'.cell? ⟨w.heap.size, 0, none⟩ = some (.int .u64 (a0 : Int)) ∧ w'.cell? ⟨w.heap.size, 1, none⟩ = some (.int .u64 (a1 : Int)) ∧ w'.cell? ⟨w.heap.size, 2, none⟩ = some (.int .u64 (a2 : Int)) ∧ w'.cell? ⟨w.heap.size, 3, none⟩ = some (.int .u64 (a3 : Int)) ∧ w'.cell? ⟨w.heap.size, 4, none⟩ = some (.int .u64 (a4 : Int)))
    (first | go_keep | (go_split_ands; (refine ⟨?_, ?_, ?_, ?_, ?_⟩ <;> exact Go.cell_later (by assumption) (by assumption))))
    ((first
      | (go_at_call 42; (with_reducible refine (ones_255 _).mono ?_); rintro e wv ⟨rfl, bv⟩; have hc1 := (bcell bv).1; have hf1 := (bcell bv).2; have hz1 : w.heap.size + 1 < wv.heap.size := (by have := bv.size; simp at this; omega))
      | (go_at_call 28; (with_reducible refine (pow_calls _ _ _ HV.out (onesF_len _ _) _).mono ?_); rintro e wu ⟨x, rfl, hx, bu⟩; obtain ⟨m0, m1, m2, m3, m4, rfl, hok, hval⟩ := hx.form; have hc2 := (bcell bu).1; have hf2 := (bcell bu).2; have hz2 : w.heap.size + 1 < wu.heap.size := (by have := bu.size; omega))))
  have hpe : leN (onesF 255 20) = P - 2 := by rw [leN_ones 255 20 (by decide)]; decide +kernel
  rw [hpe] at hx
  have hbel : Below w.heap.size w wu := (below2d bv).then_ bu
  clear bv bu hok hval
  go_wp2_with fail
  exact bodyPost_ret (v := .agg #[.int .u64 m0, .int .u64 m1, .int .u64 m2, .int .u64 m3, .int .u64 m4]) (by simp [results, Try.results30, go_sem, hc1, hc2, hz1]) rfl
    ⟨_, rfl, hx, below_set5 hbel _ (by omega) _ _ _ _ _⟩
/-- The bytes that 'alive' asks. -/
def aliveB : List UInt8 := [237, 255, 0, 0, 0, 0, 0, 0, 0, 0, 0, 0, 0, 0, 0, 0, 0, 0, 0, 0, 0, 0, 0, 0, 0, 0, 0, 0, 0, 0, 0, 127]
def byteN (n : UInt8) : List UInt8 := n :: List.replicate 31 0
theorem alive1 : (!(leB 32 (leN aliveB % P) == byteN 0)) = true := by decide +kernel
theorem alive2 : (leB 32 (5 % P) == byteN 5) = true := by decide +kernel
theorem alive3 : (leB 32 (4 * 3 % P) == byteN 12) = true := by decide +kernel
theorem litB0 : A32 (byteN 0) = .agg #[.int .u8 0, .int .u8 0, .int .u8 0, .int .u8 0, .int .u8 0, .int .u8 0, .int .u8 0, .int .u8 0, .int .u8 0, .int .u8 0, .int .u8 0, .int .u8 0, .int .u8 0, .int .u8 0, .int .u8 0, .int .u8 0, .int .u8 0, .int .u8 0, .int .u8 0, .int .u8 0, .int .u8 0, .int .u8 0, .int .u8 0, .int .u8 0, .int .u8 0, .int .u8 0, .int .u8 0, .int .u8 0, .int .u8 0, .int .u8 0, .int .u8 0, .int .u8 0] := rfl
theorem litB5 : A32 (byteN 5) = .agg #[.int .u8 5, .int .u8 0, .int .u8 0, .int .u8 0, .int .u8 0, .int .u8 0, .int .u8 0, .int .u8 0, .int .u8 0, .int .u8 0, .int .u8 0, .int .u8 0, .int .u8 0, .int .u8 0, .int .u8 0, .int .u8 0, .int .u8 0, .int .u8 0, .int .u8 0, .int .u8 0, .int .u8 0, .int .u8 0, .int .u8 0, .int .u8 0, .int .u8 0, .int .u8 0, .int .u8 0, .int .u8 0, .int .u8 0, .int .u8 0, .int .u8 0, .int .u8 0] := rfl
theorem litB12 : A32 (byteN 12) = .agg #[.int .u8 12, .int .u8 0, .int .u8 0, .int .u8 0, .int .u8 0, .int .u8 0, .int .u8 0, .int .u8 0, .int .u8 0, .int .u8 0, .int .u8 0, .int .u8 0, .int .u8 0, .int .u8 0, .int .u8 0, .int .u8 0, .int .u8 0, .int .u8 0, .int .u8 0, .int .u8 0, .int .u8 0, .int .u8 0, .int .u8 0, .int .u8 0, .int .u8 0, .int .u8 0, .int .u8 0, .int .u8 0, .int .u8 0, .int .u8 0, .int .u8 0, .int .u8 0] := rfl
set_option maxRecDepth 100000 in
set_option maxHeartbeats 4000000 in
theorem alive_calls (w : World) :
    Calls Try.prog 25 #[] w fun e w' => e = .returned (.bool true) ∧ Below w.heap.size w w' := by
  have g1 := guard_bytes .neq (leB 32 (leN aliveB % P)) (byteN 0)
  have g2 := guard_bytes .eql (leB 32 (5 % P)) (byteN 5)
  have g3 := guard_bytes .eql (leB 32 (4 * 3 % P)) (byteN 12)
  have q1 := neq_bytes (leB 32 (leN aliveB % P)) (byteN 0) (leB_len _ _) rfl
  have q2 := eq_bytes (leB 32 (5 % P)) (byteN 5) (leB_len _ _) rfl
  have q3 := eq_bytes (leB 32 (4 * 3 % P)) (byteN 12) (leB_len _ _) rfl
  rw [alive1, litB0] at q1
  rw [alive2, litB5] at q2
  rw [alive3, litB12] at q3
  rw [litB0] at g1
  rw [litB5] at g2
  rw [litB12] at g3
  go_enter Try.func25, Try.ntmps25
  go_wp2_with fail
  refine (of_calls aliveB rfl _).mono ?_
  rintro e w1 ⟨x, rfl, hx, b1⟩
  go_wp2_with fail
  refine (bytes_calls _ _ hx _).mono ?_
  rintro e w2 ⟨rfl, b2⟩
  go_wp2_with fail
  refine (small_calls 5 (by decide) _).mono ?_
  rintro e w3 ⟨x5, rfl, hx5, b3⟩
  go_wp2_with fail
  refine (bytes_calls _ _ hx5 _).mono ?_
  rintro e w4 ⟨rfl, b4⟩
  go_wp2_with fail
  refine (small_calls 4 (by decide) _).mono ?_
  rintro e w5 ⟨x4, rfl, hx4, b5⟩
  go_wp2_with fail
  refine (small_calls 3 (by decide) _).mono ?_
  rintro e w6 ⟨x3, rfl, hx3, b6⟩
  go_wp2_with fail
  refine (mul_calls _ _ _ _ hx4 hx3 _).mono ?_
  rintro e w7 ⟨x12, rfl, hx12, b7⟩
  go_wp2_with fail
  refine (bytes_calls _ _ hx12 _).mono ?_
  rintro e w8 ⟨rfl, b8⟩
  go_wp2_with fail
  go_ret
  exact ⟨rfl, ((((((b1.then_ b2).then_ b3).then_ b4).then_ b5).then_ b6).then_ b7).then_ b8⟩
end Go.Proofs.Ytpdoegfmngibgaa
