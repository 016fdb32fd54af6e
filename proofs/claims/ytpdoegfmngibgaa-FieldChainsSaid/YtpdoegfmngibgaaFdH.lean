/- Layer 4: are two rests the same; is one odd. -/
import Derived.Test.YtpdoegfmngibgaaFdG
import Derived.Deep.RegionHeld3
import Derived.WalkSpells
import Derived.Stop.BytesEq
namespace Go.Proofs.Ytpdoegfmngibgaa
open Go.ChangeShapes Go.WideShapes Go.ChangeAt Go.RowKit Go.IntWalk
set_option linter.unusedVariables false

theorem leN_leB : ∀ k n, leN (leB k n) = n % 256 ^ k
  | 0, n => by simp [leB, leN]; omega
  | k + 1, n => by
    rw [leB, leN, leN_leB k, Nat.pow_succ]
    have e : (UInt8.ofNat (n % 256)).toNat = n % 256 := by simp
    rw [e]
    have h1 := Nat.div_add_mod n 256
    have h2 : n % (256 * 256 ^ k) = n % 256 + 256 * (n / 256 % 256 ^ k) := Nat.mod_mul
    rw [Nat.mul_comm (256 ^ k) 256, h2]
theorem leB_eq {x y : Nat} (hx : x < P) (hy : y < P) : (leB 32 x == leB 32 y) = decide (x = y) := by
  rw [Bool.eq_iff_iff, beq_iff_eq, decide_eq_true_eq]
  constructor
  · intro h
    have := congrArg leN h
    rw [leN_leB, leN_leB, Nat.mod_eq_of_lt (by unfold P at hx; omega), Nat.mod_eq_of_lt (by unfold P at hy; omega)] at this
    exact this
  · intro h; rw [h]
theorem mod_lt_P (r : Nat) : r % P < P := Nat.mod_lt _ (by unfold P; omega)
theorem eq_bytes (b c : List UInt8) (hb : b.length = 32) (hc : c.length = 32) (W : World) : (binOp .eql 22 (A32 b) (A32 c)).run Try.prog W = .ok (.bool (b == c)) W :=
  Go.run_eql_bytes W 22 5 32 Try.underlying22 Try.underlying5 (fun w => Try.sizeOf5 w) b c hb hc

theorem below2d {w w1 : World} {o1 o2 : Obj} (h : Below ((w.alloc o1).alloc o2).drew.heap.size ((w.alloc o1).alloc o2).drew w1) : Below w.heap.size w w1 :=
  below2 (o1 := o1) (o2 := o2) ⟨h.os, h.tape, h.output, h.size, h.block⟩
theorem noGuard : Try.prog.eqGuardType Try.prog.depth 22 = false := by kernel_rfl
theorem guard_bytes (op : BinOp) (b c : List UInt8) (x y : Operand) (W : World) : (eqGuard op 22 x y (A32 b) (A32 c)).run Try.prog W = .ok () W :=
  run_eqGuard_agg W op 22 x y _ _ noGuard
set_option maxRecDepth 100000 in
set_option maxHeartbeats 4000000 in
theorem is_calls (v u : Value) (r s : Nat) (hv : IsEl v r) (hu : IsEl u s) (w : World) :
    Calls Try.prog 17 #[v, u] w fun e w' => e = .returned (.bool (decide (r % P = s % P))) ∧ Below w.heap.size w w' := by
  obtain ⟨a0, a1, a2, a3, a4, rfl, hok, hval⟩ := hv.form
  obtain ⟨b0, b1, b2, b3, b4, rfl, hok2, hval2⟩ := hu.form
  have HV := Lib.hid hv
  have HU := Lib.hid hu
  have hgd := guard_bytes .eql (leB 32 (r % P)) (leB 32 (s % P))
  have heq := eq_bytes (leB 32 (r % P)) (leB 32 (s % P)) (leB_len _ _) (leB_len _ _)
  rw [leB_eq (mod_lt_P r) (mod_lt_P s)] at heq
  clear hok hval hok2 hval2 hv hu
  go_enter Try.func17, Try.ntmps17
  go_wp2_with fail
  go_region_held3 (fun w' => (w'.cell? ⟨w.heap.size, 0, none⟩ = some (.int .u64 (a0 : Int)) ∧ w'.cell? ⟨w.heap.size, 1, none⟩ = some (.int .u64 (a1 : Int)) ∧ w'.cell? ⟨w.heap.size, 2, none⟩ = some (.int .u64 (a2 : Int)) ∧ w'.cell? ⟨w.heap.size, 3, none⟩ = some (.int .u64 (a3 : Int)) ∧ w'.cell? ⟨w.heap.size, 4, none⟩ = some (.int .u64 (a4 : Int))) ∧
      w'.cell? ⟨w.heap.size + 1, 0, none⟩ = some (.int .u64 (b0 : Int)) ∧ w'.cell? ⟨w.heap.size + 1, 1, none⟩ = some (.int .u64 (b1 : Int)) ∧ w'.cell? ⟨w.heap.size + 1, 2, none⟩ = some (.int .u64 (b2 : Int)) ∧ w'.cell? ⟨w.heap.size + 1, 3, none⟩ = some (.int .u64 (b3 : Int)) ∧ w'.cell? ⟨w.heap.size + 1, 4, none⟩ = some (.int .u64 (b4 : Int)))
    (first | go_keep | (go_split_ands; (refine ⟨⟨?_, ?_, ?_, ?_, ?_⟩, ?_, ?_, ?_, ?_, ?_⟩ <;> exact Go.cell_later (by assumption) (by assumption))))
    ((first
      | (go_at_call 12; (with_reducible refine (bytes_calls _ _ HV.out _).mono ?_); rintro e wv ⟨rfl, bv⟩)
      | (go_at_call 12; (with_reducible refine (bytes_calls _ _ HU.out _).mono ?_); rintro e wu ⟨rfl, bu⟩)))
  go_wp2
  go_ret
  exact ⟨rfl, (below2d bv).then_ bu⟩

theorem odd_of (n : Nat) : (bits .and .u8 ((byteF n 0).toNat : Int) 1 == 1) = decide (n % 2 = 1) := by
  have e : (byteF n 0).toNat = n % 256 := by unfold byteF; simp
  have h1 : bits .and .u8 ((n % 256 : Nat) : Int) 1 = ((n % 256 : Nat) : Int) % 2 := bits_mask .u8 8 (by decide) (fun x h0 h1 => by rw [IntKind.wrap_u8]; omega) 1 (by decide) _ (by omega) (by omega)
  rw [e, h1, Bool.eq_iff_iff, beq_iff_eq, decide_eq_true_eq]
  omega
set_option maxHeartbeats 4000000 in
theorem odd_calls (v : Value) (r : Nat) (hv : IsEl v r) (w : World) :
    Calls Try.prog 18 #[v] w fun e w' => e = .returned (.bool (decide (r % P % 2 = 1))) ∧ Below w.heap.size w w' := by
  obtain ⟨a0, a1, a2, a3, a4, rfl, hok, hval⟩ := hv.form
  have HV := Lib.hid hv
  have hodd := odd_of (r % P)
  have hix : ∀ W : World, (Instr.index 22 (A32 (leB 32 (r % P))) (.int .i64 0)).run Try.prog W = .ok (.int .u8 ((byteF (r % P) 0).toNat : Int)) W := by
    have h := idx32 (u8s (leB 32 (r % P))) 0 (by omega) (.int .u8 ((byteF (r % P) 0).toNat : Int)) (by simp [u8s, leB_get 32 (r % P) 0 (by omega)])
    exact h
  generalize byteF (r % P) 0 = c at *
  clear hok hval hv
  go_enter Try.func18, Try.ntmps18
  go_wp2_with fail
  refine (bytes_calls _ _ HV.out _).mono ?_
  rintro e w1 ⟨rfl, b1⟩
  go_wp2
  go_ret
  exact ⟨rfl, below1 b1⟩
end Go.Proofs.Ytpdoegfmngibgaa
