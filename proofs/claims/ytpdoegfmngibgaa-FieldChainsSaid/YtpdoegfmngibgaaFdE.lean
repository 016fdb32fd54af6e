/- Layer 4: the least number of a rest. -/
import Derived.Test.YtpdoegfmngibgaaFdB
namespace Go.Proofs.Ytpdoegfmngibgaa
open Go.ChangeShapes Go.WideShapes Go.ChangeAt Go.RowKit Go.IntWalk
set_option linter.unusedVariables false

theorem div51 (x y : Nat) (h : x / 2 ^ 51 = y) : (x : Int) / 2251799813685248 = (y : Int) := by rw [← h, Int.natCast_ediv]; rfl
theorem and51 (x y : Nat) (hx : x < 2 ^ 64) (h : x % 2 ^ 51 = y) : bits .and .u64 (x : Int) 2251799813685247 = (y : Int) := by rw [u64_mask51 x hx, h]
theorem lst_val {l0 l1 l2 l3 l4 o1 o2 o3 o4 o5 u1 u2 u3 u4 u5 n0 n1 n2 n3 n4 : Nat} (h : Ok5 l0 l1 l2 l3 l4) (a0 : (l0 + 19) / 2 ^ 51 = o1) (a1 : (l1 + o1) / 2 ^ 51 = o2) (a2 : (l2 + o2) / 2 ^ 51 = o3) (a3 : (l3 + o3) / 2 ^ 51 = o4) (a4 : (l4 + o4) / 2 ^ 51 = o5)
    (b0 : (l0 + o5 * 19) / 2 ^ 51 = u1) (b1 : (l1 + u1) / 2 ^ 51 = u2) (b2 : (l2 + u2) / 2 ^ 51 = u3) (b3 : (l3 + u3) / 2 ^ 51 = u4) (b4 : (l4 + u4) / 2 ^ 51 = u5)
    (c0 : (l0 + o5 * 19) % 2 ^ 51 = n0) (c1 : (l1 + u1) % 2 ^ 51 = n1) (c2 : (l2 + u2) % 2 ^ 51 = n2) (c3 : (l3 + u3) % 2 ^ 51 = n3) (c4 : (l4 + u4) % 2 ^ 51 = n4) :
    val5 n0 n1 n2 n3 n4 = val5 l0 l1 l2 l3 l4 % P ∧ n0 < 2 ^ 51 ∧ n1 < 2 ^ 51 ∧ n2 < 2 ^ 51 ∧ n3 < 2 ^ 51 ∧ n4 < 2 ^ 51 := by
  have e1 : val5 l0 l1 l2 l3 l4 + o5 * 19 = val5 n0 n1 n2 n3 n4 + 2 ^ 255 * u5 := by unfold val5; omega
  have e2 : ∃ r, val5 l0 l1 l2 l3 l4 + 19 = r + 2 ^ 255 * o5 ∧ r < 2 ^ 255 :=
    ⟨val5 ((l0 + 19) % 2 ^ 51) ((l1 + o1) % 2 ^ 51) ((l2 + o2) % 2 ^ 51) ((l3 + o3) % 2 ^ 51) ((l4 + o4) % 2 ^ 51), by unfold val5; omega, by unfold val5; omega⟩
  have e3 : val5 l0 l1 l2 l3 l4 < 2 ^ 255 + 2 ^ 254 := by unfold Ok5 at h; unfold val5; omega
  have e4 : n0 < 2 ^ 51 ∧ n1 < 2 ^ 51 ∧ n2 < 2 ^ 51 ∧ n3 < 2 ^ 51 ∧ n4 < 2 ^ 51 := by omega
  have e5 : val5 n0 n1 n2 n3 n4 < 2 ^ 255 := by unfold val5; omega
  refine ⟨?_, e4⟩
  obtain ⟨r, h1, h2⟩ := e2
  generalize val5 l0 l1 l2 l3 l4 = V at *
  generalize val5 n0 n1 n2 n3 n4 = N at *
  clear a0 a1 a2 a3 a4 b0 b1 b2 b3 b4 c0 c1 c2 c3 c4 e4 h
  have hP : P = 2 ^ 255 - 19 := rfl
  by_cases ho : o5 = 0
  · subst ho
    rw [Nat.mod_eq_of_lt (by omega)]; omega
  · have ho1 : o5 = 1 := by omega
    subst ho1
    rw [Nat.mod_eq_sub_mod (by omega), Nat.mod_eq_of_lt (by omega)]; omega
def LRel (w : World) (l0 l1 l2 l3 l4 n0 n1 n2 n3 n4 z0 z1 z2 z3 z4 z5 : Nat) (x i : Value) (wr : World) : Prop := (x = .int .u64 (z0 : Int) ∧ i = .int .i64 0 ∧ wr = (w.alloc (.cells #[.int .u64 (l0 : Int), .int .u64 (l1 : Int), .int .u64 (l2 : Int), .int .u64 (l3 : Int), .int .u64 (l4 : Int)] 27)).alloc (.cells #[.int .u64 0, .int .u64 0, .int .u64 0, .int .u64 0, .int .u64 0] 27)) ∨ (x = .int .u64 (z1 : Int) ∧ i = .int .i64 1 ∧ wr = (w.alloc (.cells #[.int .u64 (n0 : Int), .int .u64 (l1 : Int), .int .u64 (l2 : Int), .int .u64 (l3 : Int), .int .u64 (l4 : Int)] 27)).alloc (.cells #[.int .u64 0, .int .u64 0, .int .u64 0, .int .u64 0, .int .u64 0] 27)) ∨ (x = .int .u64 (z2 : Int) ∧ i = .int .i64 2 ∧ wr = (w.alloc (.cells #[.int .u64 (n0 : Int), .int .u64 (n1 : Int), .int .u64 (l2 : Int), .int .u64 (l3 : Int), .int .u64 (l4 : Int)] 27)).alloc (.cells #[.int .u64 0, .int .u64 0, .int .u64 0, .int .u64 0, .int .u64 0] 27)) ∨ (x = .int .u64 (z3 : Int) ∧ i = .int .i64 3 ∧ wr = (w.alloc (.cells #[.int .u64 (n0 : Int), .int .u64 (n1 : Int), .int .u64 (n2 : Int), .int .u64 (l3 : Int), .int .u64 (l4 : Int)] 27)).alloc (.cells #[.int .u64 0, .int .u64 0, .int .u64 0, .int .u64 0, .int .u64 0] 27)) ∨ (x = .int .u64 (z4 : Int) ∧ i = .int .i64 4 ∧ wr = (w.alloc (.cells #[.int .u64 (n0 : Int), .int .u64 (n1 : Int), .int .u64 (n2 : Int), .int .u64 (n3 : Int), .int .u64 (l4 : Int)] 27)).alloc (.cells #[.int .u64 0, .int .u64 0, .int .u64 0, .int .u64 0, .int .u64 0] 27)) ∨ (x = .int .u64 (z5 : Int) ∧ i = .int .i64 5 ∧ wr = (w.alloc (.cells #[.int .u64 (n0 : Int), .int .u64 (n1 : Int), .int .u64 (n2 : Int), .int .u64 (n3 : Int), .int .u64 (n4 : Int)] 27)).alloc (.cells #[.int .u64 0, .int .u64 0, .int .u64 0, .int .u64 0, .int .u64 0] 27))
def LeastPost (V : Nat) (w : World) (e : Ending) (w' : World) : Prop := ∃ n0 n1 n2 n3 n4 : Nat, e = .returned (E5 n0 n1 n2 n3 n4) ∧ (val5 n0 n1 n2 n3 n4 = V ∧ n0 < 2 ^ 51 ∧ n1 < 2 ^ 51 ∧ n2 < 2 ^ 51 ∧ n3 < 2 ^ 51 ∧ n4 < 2 ^ 51) ∧ Below w.heap.size w w'
set_option maxRecDepth 100000 in
set_option maxHeartbeats 4000000 in
theorem least_calls (v : Value) (r : Nat) (hv : IsEl v r) (w : World) :
    Calls Try.prog 34 #[v] w (LeastPost (r % P) w) := by
  obtain ⟨l0, l1, l2, l3, l4, rfl, hok, hval⟩ := hv.form
  have hk := hok
  unfold Ok5 at hk
  obtain ⟨o1, a0⟩ : ∃ x, (l0 + 19) / 2 ^ 51 = x := ⟨_, rfl⟩
  obtain ⟨o2, a1⟩ : ∃ x, (l1 + o1) / 2 ^ 51 = x := ⟨_, rfl⟩
  obtain ⟨o3, a2⟩ : ∃ x, (l2 + o2) / 2 ^ 51 = x := ⟨_, rfl⟩
  obtain ⟨o4, a3⟩ : ∃ x, (l3 + o3) / 2 ^ 51 = x := ⟨_, rfl⟩
  obtain ⟨o5, a4⟩ : ∃ x, (l4 + o4) / 2 ^ 51 = x := ⟨_, rfl⟩
  obtain ⟨z1, b0⟩ : ∃ x, (l0 + o5 * 19) / 2 ^ 51 = x := ⟨_, rfl⟩
  obtain ⟨n0, c0⟩ : ∃ x, (l0 + o5 * 19) % 2 ^ 51 = x := ⟨_, rfl⟩
  obtain ⟨z2, b1⟩ : ∃ x, (l1 + z1) / 2 ^ 51 = x := ⟨_, rfl⟩
  obtain ⟨n1, c1⟩ : ∃ x, (l1 + z1) % 2 ^ 51 = x := ⟨_, rfl⟩
  obtain ⟨z3, b2⟩ : ∃ x, (l2 + z2) / 2 ^ 51 = x := ⟨_, rfl⟩
  obtain ⟨n2, c2⟩ : ∃ x, (l2 + z2) % 2 ^ 51 = x := ⟨_, rfl⟩
  obtain ⟨z4, b3⟩ : ∃ x, (l3 + z3) / 2 ^ 51 = x := ⟨_, rfl⟩
  obtain ⟨n3, c3⟩ : ∃ x, (l3 + z3) % 2 ^ 51 = x := ⟨_, rfl⟩
  obtain ⟨z5, b4⟩ : ∃ x, (l4 + z4) / 2 ^ 51 = x := ⟨_, rfl⟩
  obtain ⟨n4, c4⟩ : ∃ x, (l4 + z4) % 2 ^ 51 = x := ⟨_, rfl⟩
  have hl := lst_val hok a0 a1 a2 a3 a4 b0 b1 b2 b3 b4 c0 c1 c2 c3 c4
  rw [hval] at hl
  have HL := Lib.hid hl
  have s0 : IntKind.u64.wrap ((l0 : Int) + 19) = ((l0 + 19 : Nat) : Int) := u64_addc l0 19 (by omega)
  have d0 := div51 _ _ a0
  have s1 : IntKind.u64.wrap ((l1 : Int) + (o1 : Int)) = ((l1 + o1 : Nat) : Int) := u64_add l1 o1 (by omega)
  have d1 := div51 _ _ a1
  have s2 : IntKind.u64.wrap ((l2 : Int) + (o2 : Int)) = ((l2 + o2 : Nat) : Int) := u64_add l2 o2 (by omega)
  have d2 := div51 _ _ a2
  have s3 : IntKind.u64.wrap ((l3 : Int) + (o3 : Int)) = ((l3 + o3 : Nat) : Int) := u64_add l3 o3 (by omega)
  have d3 := div51 _ _ a3
  have s4 : IntKind.u64.wrap ((l4 : Int) + (o4 : Int)) = ((l4 + o4 : Nat) : Int) := u64_add l4 o4 (by omega)
  have d4 := div51 _ _ a4
  have su : IntKind.u64.wrap ((o5 : Int) * 19) = ((o5 * 19 : Nat) : Int) := by rw [show (o5 : Int) * 19 = ((o5 * 19 : Nat) : Int) by omega]; exact wraps_u64 _ (by omega) (by omega)
  have hu0 : o5 * 19 < 2 ^ 40 := by omega
  generalize o5 * 19 = z0 at *
  have p0 : IntKind.u64.wrap ((l0 : Int) + (z0 : Int)) = ((l0 + z0 : Nat) : Int) := u64_add l0 z0 (by omega)
  have q0 := div51 _ _ b0
  have m0 := and51 _ _ (by omega) c0
  have p1 : IntKind.u64.wrap ((l1 : Int) + (z1 : Int)) = ((l1 + z1 : Nat) : Int) := u64_add l1 z1 (by omega)
  have q1 := div51 _ _ b1
  have m1 := and51 _ _ (by omega) c1
  have p2 : IntKind.u64.wrap ((l2 : Int) + (z2 : Int)) = ((l2 + z2 : Nat) : Int) := u64_add l2 z2 (by omega)
  have q2 := div51 _ _ b2
  have m2 := and51 _ _ (by omega) c2
  have p3 : IntKind.u64.wrap ((l3 : Int) + (z3 : Int)) = ((l3 + z3 : Nat) : Int) := u64_add l3 z3 (by omega)
  have q3 := div51 _ _ b3
  have m3 := and51 _ _ (by omega) c3
  have p4 : IntKind.u64.wrap ((l4 : Int) + (z4 : Int)) = ((l4 + z4 : Nat) : Int) := u64_add l4 z4 (by omega)
  have q4 := div51 _ _ b4
  have m4 := and51 _ _ (by omega) c4
  generalize l0 + 19 = g0 at *
  generalize l1 + o1 = g1 at *
  generalize l2 + o2 = g2 at *
  generalize l3 + o3 = g3 at *
  generalize l4 + o4 = g4 at *
  generalize l0 + z0 = k0 at *
  generalize l1 + z1 = k1 at *
  generalize l2 + z2 = k2 at *
  generalize l3 + z3 = k3 at *
  generalize l4 + z4 = k4 at *
  clear hu0 a0 a1 a2 a3 a4 b0 b1 b2 b3 b4 c0 c1 c2 c3 c4 hl hok hval hv hk
  have i0 : ∀ W : World, (Instr.index 25 (.agg #[.int .u64 (l0 : Int), .int .u64 (l1 : Int), .int .u64 (l2 : Int), .int .u64 (l3 : Int), .int .u64 (l4 : Int)]) (.int .i64 0)).run Try.prog W = .ok (.int .u64 (l0 : Int)) W := fun _ => by kernel_rfl
  have i1 : ∀ W : World, (Instr.index 25 (.agg #[.int .u64 (l0 : Int), .int .u64 (l1 : Int), .int .u64 (l2 : Int), .int .u64 (l3 : Int), .int .u64 (l4 : Int)]) (.int .i64 1)).run Try.prog W = .ok (.int .u64 (l1 : Int)) W := fun _ => by kernel_rfl
  have i2 : ∀ W : World, (Instr.index 25 (.agg #[.int .u64 (l0 : Int), .int .u64 (l1 : Int), .int .u64 (l2 : Int), .int .u64 (l3 : Int), .int .u64 (l4 : Int)]) (.int .i64 2)).run Try.prog W = .ok (.int .u64 (l2 : Int)) W := fun _ => by kernel_rfl
  have i3 : ∀ W : World, (Instr.index 25 (.agg #[.int .u64 (l0 : Int), .int .u64 (l1 : Int), .int .u64 (l2 : Int), .int .u64 (l3 : Int), .int .u64 (l4 : Int)]) (.int .i64 3)).run Try.prog W = .ok (.int .u64 (l3 : Int)) W := fun _ => by kernel_rfl
  have i4 : ∀ W : World, (Instr.index 25 (.agg #[.int .u64 (l0 : Int), .int .u64 (l1 : Int), .int .u64 (l2 : Int), .int .u64 (l3 : Int), .int .u64 (l4 : Int)]) (.int .i64 4)).run Try.prog W = .ok (.int .u64 (l4 : Int)) W := fun _ => by kernel_rfl
  go_enter Try.func34, Try.ntmps34
  go_wp2_with fail
  go_loop [3, 11] (fun x i => (x = .int .u64 19 ∧ i = .int .i64 0) ∨ (x = .int .u64 (o1 : Int) ∧ i = .int .i64 1) ∨ (x = .int .u64 (o2 : Int) ∧ i = .int .i64 2) ∨ (x = .int .u64 (o3 : Int) ∧ i = .int .i64 3) ∨ (x = .int .u64 (o4 : Int) ∧ i = .int .i64 4) ∨ (x = .int .u64 (o5 : Int) ∧ i = .int .i64 5)) (fun _ i => 5 - (intOf i).toNat)
  case atStart => exact .inl ⟨rfl, rfl⟩
  case round =>
    rcases hrel with ⟨rfl, rfl⟩ | ⟨rfl, rfl⟩ | ⟨rfl, rfl⟩ | ⟨rfl, rfl⟩ | ⟨rfl, rfl⟩ | ⟨rfl, rfl⟩
    · go_wp2_with fail
      exact ⟨.inr (.inl ⟨rfl, rfl⟩), by simp [intOf]⟩
    · go_wp2_with fail
      exact ⟨.inr (.inr (.inl ⟨rfl, rfl⟩)), by simp [intOf]⟩
    · go_wp2_with fail
      exact ⟨.inr (.inr (.inr (.inl ⟨rfl, rfl⟩))), by simp [intOf]⟩
    · go_wp2_with fail
      exact ⟨.inr (.inr (.inr (.inr (.inl ⟨rfl, rfl⟩)))), by simp [intOf]⟩
    · go_wp2_with fail
      exact ⟨.inr (.inr (.inr (.inr (.inr (⟨rfl, rfl⟩))))), by simp [intOf]⟩
    · go_wp2_with fail
      go_loopw [6, 23] (LRel w l0 l1 l2 l3 l4 n0 n1 n2 n3 n4 z0 z1 z2 z3 z4 z5) (fun _ i _ => 5 - (intOf i).toNat)
      case atStart => exact .inl ⟨rfl, rfl, rfl⟩
      case round =>
        rcases hrel with ⟨rfl, rfl, rfl⟩ | ⟨rfl, rfl, rfl⟩ | ⟨rfl, rfl, rfl⟩ | ⟨rfl, rfl, rfl⟩ | ⟨rfl, rfl, rfl⟩ | ⟨rfl, rfl, rfl⟩
        · go_wp2_with fail
          exact ⟨.inr (.inl ⟨rfl, rfl, rfl⟩), by simp [intOf]⟩
        · go_wp2_with fail
          exact ⟨.inr (.inr (.inl ⟨rfl, rfl, rfl⟩)), by simp [intOf]⟩
        · go_wp2_with fail
          exact ⟨.inr (.inr (.inr (.inl ⟨rfl, rfl, rfl⟩))), by simp [intOf]⟩
        · go_wp2_with fail
          exact ⟨.inr (.inr (.inr (.inr (.inl ⟨rfl, rfl, rfl⟩)))), by simp [intOf]⟩
        · go_wp2_with fail
          exact ⟨.inr (.inr (.inr (.inr (.inr (⟨rfl, rfl, rfl⟩))))), by simp [intOf]⟩
        · go_wp2
          exact bodyPost_ret (v := E5 n0 n1 n2 n3 n4) (by simp [results, Try.results34, go_sem, E5]) rfl
            ⟨n0, n1, n2, n3, n4, rfl, HL.out, ((Below.refl _ _).alloc (Nat.le_refl _) _).alloc (by simp) _⟩
end Go.Proofs.Ytpdoegfmngibgaa
