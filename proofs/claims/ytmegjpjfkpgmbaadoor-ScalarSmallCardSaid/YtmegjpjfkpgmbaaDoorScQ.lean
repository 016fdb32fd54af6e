/- Layer 5: the law of small numbers. -/
import Derived.Test.YtmegjpjfkpgmbaaDoorScM
import Derived.Test.YtmegjpjfkpgmbaaDoorScN
namespace Go.Proofs.YtmegjpjfkpgmbaaDoor
open Go.ChangeShapes Go.WideShapes Go.ChangeAt Go.RowKit Go.IntWalk
set_option linter.unusedVariables false

def outH (N k : Nat) : List UInt8 := (leB 32 N).take k ++ List.replicate (32 - k) 0
theorem outH_step (N k : Nat) (hk : k < 32) : (outH N k).set k (byteF N k) = outH N (k + 1) := by
  unfold outH
  have hm : ((leB 32 N).take k).length = k := by rw [List.length_take, leB_len]; omega
  rw [List.set_append, hm, if_neg (by omega), Nat.sub_self, show 32 - k = (32 - (k + 1)) + 1 by omega, List.replicate_succ, List.set_cons_zero, List.take_add_one, leB_get 32 N k hk]
  simp
theorem outH_len (N k : Nat) (hk : k ≤ 32) : (outH N k).length = 32 := by simp [outH, leB_len]; omega
theorem outH_zero (N : Nat) : outH N 0 = List.replicate 32 0 := by simp [outH]
theorem leB_zero : ∀ k, leB k 0 = List.replicate k 0
  | 0 => rfl
  | k + 1 => by rw [leB, show (0 : Nat) / 256 = 0 from rfl, leB_zero k, List.replicate_succ]; rfl
theorem leB_small : ∀ (k m N : Nat), N < 256 ^ k → leB (k + m) N = leB k N ++ List.replicate m 0
  | 0, m, N, h => by
    obtain rfl : N = 0 := by simpa using h
    rw [Nat.zero_add, leB_zero]; rfl
  | k + 1, m, N, h => by
    rw [show k + 1 + m = (k + m) + 1 by omega, leB, leB, leB_small k m (N / 256) (by rw [Nat.pow_succ] at h; omega)]; rfl
theorem outH_done (N k : Nat) (hk : k ≤ 32) (hN : N < 256 ^ k) : outH N k = leB 32 N := by
  have h := leB_small k (32 - k) N hN
  rw [show k + (32 - k) = 32 by omega] at h
  unfold outH
  have ht : (leB 32 N).take k = leB k N := by
    rw [h, List.take_append_of_le_length (by rw [leB_len]; exact Nat.le_refl _), List.take_of_length_le (by rw [leB_len]; exact Nat.le_refl _)]
  rw [ht, h]
def SmS (w : World) (g a b c n k q : Nat) (wr : World) : Prop :=
  Blk wr g 23 (u8b (outH a k)) ∧ Blk wr (g + 1) 23 (u8b (outH b k)) ∧ Blk wr (g + 1 + 1) 23 (u8b (outH c k)) ∧ Blk wr (g + 1 + 1 + 1) 23 (u8b (outH n q)) ∧ Below w.heap.size w wr
theorem SmS.step {w wr : World} {g a b c n k q : Nat} (h : SmS w g a b c n k q wr) (hk : k < 32) (hg : w.heap.size ≤ g) :
    SmS w g a b c n (k + 1) q (((wr.setCell ⟨g, k, none⟩ (.int .u8 ((byteF a k).toNat : Int))).setCell ⟨g + 1, k, none⟩ (.int .u8 ((byteF b k).toNat : Int))).setCell ⟨g + 1 + 1, k, none⟩ (.int .u8 ((byteF c k).toNat : Int))) :=
  ⟨by rw [← outH_step a k hk, ← u8b_set]; exact ((h.1.set_ k _).other (by omega) _).other (by omega) _,
   by rw [← outH_step b k hk, ← u8b_set]; exact ((h.2.1.other (by omega) _).set_ k _).other (by omega) _,
   by rw [← outH_step c k hk, ← u8b_set]; exact ((h.2.2.1.other (by omega) _).other (by omega) _).set_ k _,
   ((h.2.2.2.1.other (by omega) _).other (by omega) _).other (by omega) _,
   ((h.2.2.2.2.setCell hg _).setCell (show w.heap.size ≤ g + 1 by omega) _).setCell (show w.heap.size ≤ g + 1 + 1 by omega) _⟩
theorem SmS.step2 {w wr : World} {g a b c n k q : Nat} (h : SmS w g a b c n k q wr) (hq : q < 32) (hg : w.heap.size ≤ g) :
    SmS w g a b c n k (q + 1) (wr.setCell ⟨g + 1 + 1 + 1, q, none⟩ (.int .u8 ((byteF n q).toNat : Int))) :=
  ⟨h.1.other (by omega) _, h.2.1.other (by omega) _, h.2.2.1.other (by omega) _, by rw [← outH_step n q hq, ← u8b_set]; exact h.2.2.2.1.set_ q _, h.2.2.2.2.setCell (show w.heap.size ≤ g + 1 + 1 + 1 by omega) _⟩
theorem byte_shift (a k : Nat) : IntKind.u8.wrap ((a : Int) / 2 ^ (8 * k)) = ((byteF a k).toNat : Int) := by
  have e : (2 : Int) ^ (8 * k) = ((256 ^ k : Nat) : Int) := by rw [show (256 : Nat) = 2 ^ 8 from rfl, ← Nat.pow_mul]; simp
  rw [e, IntKind.wrap_u8]
  unfold byteF
  have : ((UInt8.ofNat (a / 256 ^ k % 256)).toNat) = a / 256 ^ k % 256 := by simp
  rw [this]; simp
theorem small_good (n : Nat) (h : n < 2 ^ 64) : leN (leB 32 n) = n ∧ n < LO := by
  have h2 : (2 : Nat) ^ 64 < LO := by decide +kernel
  have h3 : n < 256 ^ 32 := Nat.lt_trans h (by decide +kernel)
  exact ⟨by rw [leN_leB, Nat.mod_eq_of_lt h3], by omega⟩
set_option maxRecDepth 100000 in
set_option maxHeartbeats 8000000 in
theorem scalarSmall_walk (z0 : Int) (wz0 : (Lit.int .u32 z0).wf = true) (z1 : Int) (wz1 : (Lit.int .u32 z1).wf = true) (z2 : Int) (wz2 : (Lit.int .u32 z2).wf = true) (w : World) (hT : Tab w) :
    Calls Tryd.prog 8 #[.int .u32 z0, .int .u32 z1, .int .u32 z2] w fun e w' => e = .returned (.bool true) ∧ Below w.heap.size w w' := by
  obtain ⟨a, rfl, ha⟩ : ∃ n : Nat, z0 = (n : Int) ∧ n < 2 ^ 32 := by
    simp [Lit.wf, IntKind.min, IntKind.max, IntKind.signed, IntKind.bits] at wz0
    exact ⟨z0.toNat, by omega, by omega⟩
  obtain ⟨b, rfl, hb⟩ : ∃ n : Nat, z1 = (n : Int) ∧ n < 2 ^ 32 := by
    simp [Lit.wf, IntKind.min, IntKind.max, IntKind.signed, IntKind.bits] at wz1
    exact ⟨z1.toNat, by omega, by omega⟩
  obtain ⟨c, rfl, hc⟩ : ∃ n : Nat, z2 = (n : Int) ∧ n < 2 ^ 32 := by
    simp [Lit.wf, IntKind.min, IntKind.max, IntKind.signed, IntKind.bits] at wz2
    exact ⟨z2.toNat, by omega, by omega⟩
  clear wz0 wz1 wz2
  have e1 : IntKind.u64.wrap (a : Int) = (a : Int) := by rw [IntKind.wrap_u64]; omega
  have e2 : IntKind.u64.wrap (b : Int) = (b : Int) := by rw [IntKind.wrap_u64]; omega
  have e3 : IntKind.u64.wrap (c : Int) = (c : Int) := by rw [IntKind.wrap_u64]; omega
  obtain ⟨p, hp⟩ : ∃ p, a * b = p := ⟨_, rfl⟩
  have hpl : p ≤ (2 ^ 32 - 1) * (2 ^ 32 - 1) := by rw [← hp]; exact Nat.mul_le_mul (by omega) (by omega)
  have e4 : IntKind.u64.wrap ((a : Int) * (b : Int)) = (p : Int) := by rw [← Int.natCast_mul, hp, IntKind.wrap_u64]; omega
  obtain ⟨n, hn⟩ : ∃ n, p + c = n := ⟨_, rfl⟩
  have hnl : n < 2 ^ 64 := by omega
  have e5 : IntKind.u64.wrap ((p : Int) + (c : Int)) = (n : Int) := by rw [IntKind.wrap_u64]; omega
  have HN := Lib.hid (And.intro (show a * b + c = n by rw [hp, hn]) (And.intro hnl (And.intro ha (And.intro hb hc))))
  have HT := Lib.hid hT
  clear hp hpl hn hnl ha hb hc hT
  go_enter Tryd.func8, Tryd.ntmps8
  go_wp2_with fail
  refine (alive_calls _ HT.out).mono ?_
  rintro e w1 ⟨rfl, b1⟩
  have a1 : Below w.heap.size w (w1.alloc (.cells #[.int .u8 0, .int .u8 0, .int .u8 0, .int .u8 0, .int .u8 0, .int .u8 0, .int .u8 0, .int .u8 0, .int .u8 0, .int .u8 0, .int .u8 0, .int .u8 0, .int .u8 0, .int .u8 0, .int .u8 0, .int .u8 0, .int .u8 0, .int .u8 0, .int .u8 0, .int .u8 0, .int .u8 0, .int .u8 0, .int .u8 0, .int .u8 0, .int .u8 0, .int .u8 0, .int .u8 0, .int .u8 0, .int .u8 0, .int .u8 0, .int .u8 0, .int .u8 0] 23)) := b1.alloc b1.size _
  have a2 := a1.alloc a1.size (.cells #[.int .u8 0, .int .u8 0, .int .u8 0, .int .u8 0, .int .u8 0, .int .u8 0, .int .u8 0, .int .u8 0, .int .u8 0, .int .u8 0, .int .u8 0, .int .u8 0, .int .u8 0, .int .u8 0, .int .u8 0, .int .u8 0, .int .u8 0, .int .u8 0, .int .u8 0, .int .u8 0, .int .u8 0, .int .u8 0, .int .u8 0, .int .u8 0, .int .u8 0, .int .u8 0, .int .u8 0, .int .u8 0, .int .u8 0, .int .u8 0, .int .u8 0, .int .u8 0] 23)
  have a3 := a2.alloc a2.size (.cells #[.int .u8 0, .int .u8 0, .int .u8 0, .int .u8 0, .int .u8 0, .int .u8 0, .int .u8 0, .int .u8 0, .int .u8 0, .int .u8 0, .int .u8 0, .int .u8 0, .int .u8 0, .int .u8 0, .int .u8 0, .int .u8 0, .int .u8 0, .int .u8 0, .int .u8 0, .int .u8 0, .int .u8 0, .int .u8 0, .int .u8 0, .int .u8 0, .int .u8 0, .int .u8 0, .int .u8 0, .int .u8 0, .int .u8 0, .int .u8 0, .int .u8 0, .int .u8 0] 23)
  have a4 := a3.alloc a3.size (.cells #[.int .u8 0, .int .u8 0, .int .u8 0, .int .u8 0, .int .u8 0, .int .u8 0, .int .u8 0, .int .u8 0, .int .u8 0, .int .u8 0, .int .u8 0, .int .u8 0, .int .u8 0, .int .u8 0, .int .u8 0, .int .u8 0, .int .u8 0, .int .u8 0, .int .u8 0, .int .u8 0, .int .u8 0, .int .u8 0, .int .u8 0, .int .u8 0, .int .u8 0, .int .u8 0, .int .u8 0, .int .u8 0, .int .u8 0, .int .u8 0, .int .u8 0, .int .u8 0] 23)
  have s1 : Blk (w1.alloc (.cells #[.int .u8 0, .int .u8 0, .int .u8 0, .int .u8 0, .int .u8 0, .int .u8 0, .int .u8 0, .int .u8 0, .int .u8 0, .int .u8 0, .int .u8 0, .int .u8 0, .int .u8 0, .int .u8 0, .int .u8 0, .int .u8 0, .int .u8 0, .int .u8 0, .int .u8 0, .int .u8 0, .int .u8 0, .int .u8 0, .int .u8 0, .int .u8 0, .int .u8 0, .int .u8 0, .int .u8 0, .int .u8 0, .int .u8 0, .int .u8 0, .int .u8 0, .int .u8 0] 23)) w1.heap.size 23 (u8b (outH a 0)) := by rw [outH_zero]; exact Blk.new _ (u8b (List.replicate 32 0)) _
  have s2 : Blk ((w1.alloc (.cells #[.int .u8 0, .int .u8 0, .int .u8 0, .int .u8 0, .int .u8 0, .int .u8 0, .int .u8 0, .int .u8 0, .int .u8 0, .int .u8 0, .int .u8 0, .int .u8 0, .int .u8 0, .int .u8 0, .int .u8 0, .int .u8 0, .int .u8 0, .int .u8 0, .int .u8 0, .int .u8 0, .int .u8 0, .int .u8 0, .int .u8 0, .int .u8 0, .int .u8 0, .int .u8 0, .int .u8 0, .int .u8 0, .int .u8 0, .int .u8 0, .int .u8 0, .int .u8 0] 23)).alloc (.cells #[.int .u8 0, .int .u8 0, .int .u8 0, .int .u8 0, .int .u8 0, .int .u8 0, .int .u8 0, .int .u8 0, .int .u8 0, .int .u8 0, .int .u8 0, .int .u8 0, .int .u8 0, .int .u8 0, .int .u8 0, .int .u8 0, .int .u8 0, .int .u8 0, .int .u8 0, .int .u8 0, .int .u8 0, .int .u8 0, .int .u8 0, .int .u8 0, .int .u8 0, .int .u8 0, .int .u8 0, .int .u8 0, .int .u8 0, .int .u8 0, .int .u8 0, .int .u8 0] 23)) (w1.heap.size + 1) 23 (u8b (outH b 0)) := by
    have := Blk.new (w1.alloc (.cells #[.int .u8 0, .int .u8 0, .int .u8 0, .int .u8 0, .int .u8 0, .int .u8 0, .int .u8 0, .int .u8 0, .int .u8 0, .int .u8 0, .int .u8 0, .int .u8 0, .int .u8 0, .int .u8 0, .int .u8 0, .int .u8 0, .int .u8 0, .int .u8 0, .int .u8 0, .int .u8 0, .int .u8 0, .int .u8 0, .int .u8 0, .int .u8 0, .int .u8 0, .int .u8 0, .int .u8 0, .int .u8 0, .int .u8 0, .int .u8 0, .int .u8 0, .int .u8 0] 23)) (u8b (List.replicate 32 0)) 23
    rw [outH_zero]; rwa [show (w1.alloc (.cells #[.int .u8 0, .int .u8 0, .int .u8 0, .int .u8 0, .int .u8 0, .int .u8 0, .int .u8 0, .int .u8 0, .int .u8 0, .int .u8 0, .int .u8 0, .int .u8 0, .int .u8 0, .int .u8 0, .int .u8 0, .int .u8 0, .int .u8 0, .int .u8 0, .int .u8 0, .int .u8 0, .int .u8 0, .int .u8 0, .int .u8 0, .int .u8 0, .int .u8 0, .int .u8 0, .int .u8 0, .int .u8 0, .int .u8 0, .int .u8 0, .int .u8 0, .int .u8 0] 23)).heap.size = w1.heap.size + 1 by simp] at this
  have s3 : Blk (((w1.alloc (.cells #[.int .u8 0, .int .u8 0, .int .u8 0, .int .u8 0, .int .u8 0, .int .u8 0, .int .u8 0, .int .u8 0, .int .u8 0, .int .u8 0, .int .u8 0, .int .u8 0, .int .u8 0, .int .u8 0, .int .u8 0, .int .u8 0, .int .u8 0, .int .u8 0, .int .u8 0, .int .u8 0, .int .u8 0, .int .u8 0, .int .u8 0, .int .u8 0, .int .u8 0, .int .u8 0, .int .u8 0, .int .u8 0, .int .u8 0, .int .u8 0, .int .u8 0, .int .u8 0] 23)).alloc (.cells #[.int .u8 0, .int .u8 0, .int .u8 0, .int .u8 0, .int .u8 0, .int .u8 0, .int .u8 0, .int .u8 0, .int .u8 0, .int .u8 0, .int .u8 0, .int .u8 0, .int .u8 0, .int .u8 0, .int .u8 0, .int .u8 0, .int .u8 0, .int .u8 0, .int .u8 0, .int .u8 0, .int .u8 0, .int .u8 0, .int .u8 0, .int .u8 0, .int .u8 0, .int .u8 0, .int .u8 0, .int .u8 0, .int .u8 0, .int .u8 0, .int .u8 0, .int .u8 0] 23)).alloc (.cells #[.int .u8 0, .int .u8 0, .int .u8 0, .int .u8 0, .int .u8 0, .int .u8 0, .int .u8 0, .int .u8 0, .int .u8 0, .int .u8 0, .int .u8 0, .int .u8 0, .int .u8 0, .int .u8 0, .int .u8 0, .int .u8 0, .int .u8 0, .int .u8 0, .int .u8 0, .int .u8 0, .int .u8 0, .int .u8 0, .int .u8 0, .int .u8 0, .int .u8 0, .int .u8 0, .int .u8 0, .int .u8 0, .int .u8 0, .int .u8 0, .int .u8 0, .int .u8 0] 23)) (w1.heap.size + 1 + 1) 23 (u8b (outH c 0)) := by
    have := Blk.new ((w1.alloc (.cells #[.int .u8 0, .int .u8 0, .int .u8 0, .int .u8 0, .int .u8 0, .int .u8 0, .int .u8 0, .int .u8 0, .int .u8 0, .int .u8 0, .int .u8 0, .int .u8 0, .int .u8 0, .int .u8 0, .int .u8 0, .int .u8 0, .int .u8 0, .int .u8 0, .int .u8 0, .int .u8 0, .int .u8 0, .int .u8 0, .int .u8 0, .int .u8 0, .int .u8 0, .int .u8 0, .int .u8 0, .int .u8 0, .int .u8 0, .int .u8 0, .int .u8 0, .int .u8 0] 23)).alloc (.cells #[.int .u8 0, .int .u8 0, .int .u8 0, .int .u8 0, .int .u8 0, .int .u8 0, .int .u8 0, .int .u8 0, .int .u8 0, .int .u8 0, .int .u8 0, .int .u8 0, .int .u8 0, .int .u8 0, .int .u8 0, .int .u8 0, .int .u8 0, .int .u8 0, .int .u8 0, .int .u8 0, .int .u8 0, .int .u8 0, .int .u8 0, .int .u8 0, .int .u8 0, .int .u8 0, .int .u8 0, .int .u8 0, .int .u8 0, .int .u8 0, .int .u8 0, .int .u8 0] 23)) (u8b (List.replicate 32 0)) 23
    rw [outH_zero]; rwa [show ((w1.alloc (.cells #[.int .u8 0, .int .u8 0, .int .u8 0, .int .u8 0, .int .u8 0, .int .u8 0, .int .u8 0, .int .u8 0, .int .u8 0, .int .u8 0, .int .u8 0, .int .u8 0, .int .u8 0, .int .u8 0, .int .u8 0, .int .u8 0, .int .u8 0, .int .u8 0, .int .u8 0, .int .u8 0, .int .u8 0, .int .u8 0, .int .u8 0, .int .u8 0, .int .u8 0, .int .u8 0, .int .u8 0, .int .u8 0, .int .u8 0, .int .u8 0, .int .u8 0, .int .u8 0] 23)).alloc (.cells #[.int .u8 0, .int .u8 0, .int .u8 0, .int .u8 0, .int .u8 0, .int .u8 0, .int .u8 0, .int .u8 0, .int .u8 0, .int .u8 0, .int .u8 0, .int .u8 0, .int .u8 0, .int .u8 0, .int .u8 0, .int .u8 0, .int .u8 0, .int .u8 0, .int .u8 0, .int .u8 0, .int .u8 0, .int .u8 0, .int .u8 0, .int .u8 0, .int .u8 0, .int .u8 0, .int .u8 0, .int .u8 0, .int .u8 0, .int .u8 0, .int .u8 0, .int .u8 0] 23)).heap.size = w1.heap.size + 1 + 1 by simp] at this
  have s4 : Blk ((((w1.alloc (.cells #[.int .u8 0, .int .u8 0, .int .u8 0, .int .u8 0, .int .u8 0, .int .u8 0, .int .u8 0, .int .u8 0, .int .u8 0, .int .u8 0, .int .u8 0, .int .u8 0, .int .u8 0, .int .u8 0, .int .u8 0, .int .u8 0, .int .u8 0, .int .u8 0, .int .u8 0, .int .u8 0, .int .u8 0, .int .u8 0, .int .u8 0, .int .u8 0, .int .u8 0, .int .u8 0, .int .u8 0, .int .u8 0, .int .u8 0, .int .u8 0, .int .u8 0, .int .u8 0] 23)).alloc (.cells #[.int .u8 0, .int .u8 0, .int .u8 0, .int .u8 0, .int .u8 0, .int .u8 0, .int .u8 0, .int .u8 0, .int .u8 0, .int .u8 0, .int .u8 0, .int .u8 0, .int .u8 0, .int .u8 0, .int .u8 0, .int .u8 0, .int .u8 0, .int .u8 0, .int .u8 0, .int .u8 0, .int .u8 0, .int .u8 0, .int .u8 0, .int .u8 0, .int .u8 0, .int .u8 0, .int .u8 0, .int .u8 0, .int .u8 0, .int .u8 0, .int .u8 0, .int .u8 0] 23)).alloc (.cells #[.int .u8 0, .int .u8 0, .int .u8 0, .int .u8 0, .int .u8 0, .int .u8 0, .int .u8 0, .int .u8 0, .int .u8 0, .int .u8 0, .int .u8 0, .int .u8 0, .int .u8 0, .int .u8 0, .int .u8 0, .int .u8 0, .int .u8 0, .int .u8 0, .int .u8 0, .int .u8 0, .int .u8 0, .int .u8 0, .int .u8 0, .int .u8 0, .int .u8 0, .int .u8 0, .int .u8 0, .int .u8 0, .int .u8 0, .int .u8 0, .int .u8 0, .int .u8 0] 23)).alloc (.cells #[.int .u8 0, .int .u8 0, .int .u8 0, .int .u8 0, .int .u8 0, .int .u8 0, .int .u8 0, .int .u8 0, .int .u8 0, .int .u8 0, .int .u8 0, .int .u8 0, .int .u8 0, .int .u8 0, .int .u8 0, .int .u8 0, .int .u8 0, .int .u8 0, .int .u8 0, .int .u8 0, .int .u8 0, .int .u8 0, .int .u8 0, .int .u8 0, .int .u8 0, .int .u8 0, .int .u8 0, .int .u8 0, .int .u8 0, .int .u8 0, .int .u8 0, .int .u8 0] 23)) (w1.heap.size + 1 + 1 + 1) 23 (u8b (outH n 0)) := by
    have := Blk.new (((w1.alloc (.cells #[.int .u8 0, .int .u8 0, .int .u8 0, .int .u8 0, .int .u8 0, .int .u8 0, .int .u8 0, .int .u8 0, .int .u8 0, .int .u8 0, .int .u8 0, .int .u8 0, .int .u8 0, .int .u8 0, .int .u8 0, .int .u8 0, .int .u8 0, .int .u8 0, .int .u8 0, .int .u8 0, .int .u8 0, .int .u8 0, .int .u8 0, .int .u8 0, .int .u8 0, .int .u8 0, .int .u8 0, .int .u8 0, .int .u8 0, .int .u8 0, .int .u8 0, .int .u8 0] 23)).alloc (.cells #[.int .u8 0, .int .u8 0, .int .u8 0, .int .u8 0, .int .u8 0, .int .u8 0, .int .u8 0, .int .u8 0, .int .u8 0, .int .u8 0, .int .u8 0, .int .u8 0, .int .u8 0, .int .u8 0, .int .u8 0, .int .u8 0, .int .u8 0, .int .u8 0, .int .u8 0, .int .u8 0, .int .u8 0, .int .u8 0, .int .u8 0, .int .u8 0, .int .u8 0, .int .u8 0, .int .u8 0, .int .u8 0, .int .u8 0, .int .u8 0, .int .u8 0, .int .u8 0] 23)).alloc (.cells #[.int .u8 0, .int .u8 0, .int .u8 0, .int .u8 0, .int .u8 0, .int .u8 0, .int .u8 0, .int .u8 0, .int .u8 0, .int .u8 0, .int .u8 0, .int .u8 0, .int .u8 0, .int .u8 0, .int .u8 0, .int .u8 0, .int .u8 0, .int .u8 0, .int .u8 0, .int .u8 0, .int .u8 0, .int .u8 0, .int .u8 0, .int .u8 0, .int .u8 0, .int .u8 0, .int .u8 0, .int .u8 0, .int .u8 0, .int .u8 0, .int .u8 0, .int .u8 0] 23)) (u8b (List.replicate 32 0)) 23
    rw [outH_zero]; rwa [show (((w1.alloc (.cells #[.int .u8 0, .int .u8 0, .int .u8 0, .int .u8 0, .int .u8 0, .int .u8 0, .int .u8 0, .int .u8 0, .int .u8 0, .int .u8 0, .int .u8 0, .int .u8 0, .int .u8 0, .int .u8 0, .int .u8 0, .int .u8 0, .int .u8 0, .int .u8 0, .int .u8 0, .int .u8 0, .int .u8 0, .int .u8 0, .int .u8 0, .int .u8 0, .int .u8 0, .int .u8 0, .int .u8 0, .int .u8 0, .int .u8 0, .int .u8 0, .int .u8 0, .int .u8 0] 23)).alloc (.cells #[.int .u8 0, .int .u8 0, .int .u8 0, .int .u8 0, .int .u8 0, .int .u8 0, .int .u8 0, .int .u8 0, .int .u8 0, .int .u8 0, .int .u8 0, .int .u8 0, .int .u8 0, .int .u8 0, .int .u8 0, .int .u8 0, .int .u8 0, .int .u8 0, .int .u8 0, .int .u8 0, .int .u8 0, .int .u8 0, .int .u8 0, .int .u8 0, .int .u8 0, .int .u8 0, .int .u8 0, .int .u8 0, .int .u8 0, .int .u8 0, .int .u8 0, .int .u8 0] 23)).alloc (.cells #[.int .u8 0, .int .u8 0, .int .u8 0, .int .u8 0, .int .u8 0, .int .u8 0, .int .u8 0, .int .u8 0, .int .u8 0, .int .u8 0, .int .u8 0, .int .u8 0, .int .u8 0, .int .u8 0, .int .u8 0, .int .u8 0, .int .u8 0, .int .u8 0, .int .u8 0, .int .u8 0, .int .u8 0, .int .u8 0, .int .u8 0, .int .u8 0, .int .u8 0, .int .u8 0, .int .u8 0, .int .u8 0, .int .u8 0, .int .u8 0, .int .u8 0, .int .u8 0] 23)).heap.size = w1.heap.size + 1 + 1 + 1 by simp] at this
  have hg := b1.size
  have H0 : Hid (SmS w w1.heap.size a b c n 0 0 _) := Lib.hid ⟨((s1.alloc _).alloc _).alloc _, (s2.alloc _).alloc _, s3.alloc _, s4, a4⟩
  have HG := Lib.hid hg
  clear b1 a1 a2 a3 a4 s1 s2 s3 s4 hg
  go_wp2_with fail
  obtain ⟨g, hgg⟩ : ∃ g, w1.heap.size = g := ⟨_, rfl⟩
  rw [hgg] at H0 HG ⊢
  clear hgg
  go_loopw [12] (fun iv wr => ∃ k : Nat, k ≤ 4 ∧ iv = .int .i64 (k : Int) ∧ SmS w g a b c n k 0 wr) (fun iv _ => 4 - (intOf iv).toNat)
  case atStart => exact ⟨0, by omega, rfl, H0.out⟩
  case round =>
    clear H0
    obtain ⟨k, hk, rfl, hs⟩ := hrel
    by_cases hk4 : k < 4
    · have hb4 : decide ((k : Int) < 4) = true := by simp; omega
      have hk32 : k < 32 := by omega
      have gx := fun (y : Nat) => show ∃ v, (u8b (outH y k))[k]? = some v from ⟨_, List.getElem?_eq_getElem (by rw [u8b_len, outH_len y k (by omega)]; exact hk32)⟩
      obtain ⟨v1, hv1⟩ := gx a
      obtain ⟨v2, hv2⟩ := gx b
      obtain ⟨v3, hv3⟩ := gx c
      have c1 := hs.1.cell hv1
      have c2 := hs.2.1.cell hv2
      have c3 := hs.2.2.1.cell hv3
      have f1 := hs.1.frozen k
      have f2 := hs.2.1.frozen k
      have f3 := hs.2.2.1.frozen k
      have d1 := byte_shift a k
      have d2 := byte_shift b k
      have d3 := byte_shift c k
      have HS := Lib.hid (hs.step hk32 HG.out)
      obtain ⟨y1, hy1⟩ : ∃ y, ((byteF a k).toNat : Int) = y := ⟨_, rfl⟩
      obtain ⟨y2, hy2⟩ : ∃ y, ((byteF b k).toNat : Int) = y := ⟨_, rfl⟩
      obtain ⟨y3, hy3⟩ : ∃ y, ((byteF c k).toNat : Int) = y := ⟨_, rfl⟩
      rw [hy1] at d1 HS
      rw [hy2] at d2 HS
      rw [hy3] at d3 HS
      have ex : IntKind.i64.wrap (8 * (k : Int)) = ((8 * k : Nat) : Int) := (IntWalk.i64_in _ (by omega)).trans (by omega)
      have i1 : (0 : Int) ≤ (k : Int) ∧ (k : Int) < 32 := by omega
      clear hs gx hv1 hv2 hv3 hy1 hy2 hy3
      go_wp2_with fail
      exact ⟨⟨k + 1, by omega, by go_num, HS.out⟩, by simp [intOf]; omega⟩
    · obtain rfl : k = 4 := by omega
      have hb4 : decide (((4 : Nat) : Int) < 4) = false := by simp
      have hs4 : SmS w g a b c n 4 0 wr := hs
      have HS := Lib.hid hs4
      clear hs hs4
      go_wp2_with fail
      go_loopw [13] (fun iv wi => ∃ k : Nat, k ≤ 8 ∧ iv = .int .i64 (k : Int) ∧ SmS w g a b c n 4 k wi) (fun iv _ => 8 - (intOf iv).toNat)
      case atStart => exact ⟨0, by omega, rfl, HS.out⟩
      case round =>
        clear HS
        obtain ⟨k, hk, rfl, hs⟩ := hrel
        by_cases hk8 : k < 8
        · have hb8 : decide ((k : Int) < 8) = true := by simp; omega
          have hk32 : k < 32 := by omega
          obtain ⟨v1, hv1⟩ : ∃ v, (u8b (outH n k))[k]? = some v := ⟨_, List.getElem?_eq_getElem (by rw [u8b_len, outH_len n k (by omega)]; exact hk32)⟩
          have c1 := hs.2.2.2.1.cell hv1
          have f1 := hs.2.2.2.1.frozen k
          have d1 := byte_shift n k
          have HS := Lib.hid (hs.step2 hk32 HG.out)
          obtain ⟨y1, hy1⟩ : ∃ y, ((byteF n k).toNat : Int) = y := ⟨_, rfl⟩
          rw [hy1] at d1 HS
          have ex : IntKind.i64.wrap (8 * (k : Int)) = ((8 * k : Nat) : Int) := (IntWalk.i64_in _ (by omega)).trans (by omega)
          have i1 : (0 : Int) ≤ (k : Int) ∧ (k : Int) < 32 := by omega
          clear hs hv1 hy1
          go_wp2_with fail
          exact ⟨⟨k + 1, by omega, by go_num, HS.out⟩, by simp [intOf]; omega⟩
        · obtain rfl : k = 8 := by omega
          have hb8 : decide (((8 : Nat) : Int) < 8) = false := by simp
          obtain ⟨s1, s2, s3, s4, sb⟩ := hs
          obtain ⟨n1, n2, n3, n4, n5⟩ := HN.out
          rw [outH_done a 4 (by omega) (Nat.lt_of_lt_of_le n3 (by decide))] at s1
          rw [outH_done b 4 (by omega) (Nat.lt_of_lt_of_le n4 (by decide))] at s2
          rw [outH_done c 4 (by omega) (Nat.lt_of_lt_of_le n5 (by decide))] at s3
          rw [outH_done n 8 (by omega) (Nat.lt_of_lt_of_le n2 (by decide))] at s4
          have la : leN (leB 32 a) = a := (small_good a (by omega)).1
          have lb : leN (leB 32 b) = b := (small_good b (by omega)).1
          have lc : leN (leB 32 c) = c := (small_good c (by omega)).1
          have ln := small_good n n2
          have hm : ∀ W, Tab W → Calls Tryd.prog 15 #[A32 (leB 32 a), A32 (leB 32 b), A32 (leB 32 c)] W fun e w' => e = .returned (A32 (leB 32 n)) ∧ Below W.heap.size W w' := fun W h => by
            have := mul_calls (leB 32 a) (leB 32 b) (leB 32 c) (leB_len _ _) (leB_len _ _) (leB_len _ _) W h
            unfold BPost at this
            rwa [la, lb, lc, n1, Nat.mod_eq_of_lt ln.2] at this
          have hgd : ∀ W, Tab W → Calls Tryd.prog 12 #[A32 (leB 32 n)] W fun e w' => e = .returned (.bool true) ∧ Below W.heap.size W w' := fun W h => by
            have := good_calls (leB 32 n) (leB_len _ _) W h
            rwa [ln.1, decide_eq_true ln.2] at this
          have gN := fun x y W => guard_bytes .eql (leB 32 n) (leB 32 n) x y W
          have qN := fun W => eq_bytes (leB 32 n) (leB 32 n) (leB_len _ _) (leB_len _ _) W
          rw [beq_self_eq_true] at qN
          unfold A32 at hm hgd gN qN
          have z1 := size32u (leB 32 a) (leB_len _ _)
          have z2 := size32u (leB 32 b) (leB_len _ _)
          have z3 := size32u (leB 32 c) (leB_len _ _)
          have z4 := size32u (leB 32 n) (leB_len _ _)
          obtain ⟨av, hav⟩ : ∃ q, u8b (leB 32 a) = q := ⟨_, rfl⟩
          obtain ⟨bv, hbv⟩ : ∃ q, u8b (leB 32 b) = q := ⟨_, rfl⟩
          obtain ⟨cv, hcv⟩ : ∃ q, u8b (leB 32 c) = q := ⟨_, rfl⟩
          obtain ⟨nv, hnv⟩ : ∃ q, u8b (leB 32 n) = q := ⟨_, rfl⟩
          rw [hav] at s1 z1 hm
          rw [hbv] at s2 z2 hm
          rw [hcv] at s3 z3 hm
          rw [hnv] at s4 z4 hm hgd gN qN
          have hT := HT.out.later sb
          clear hav hbv hcv hnv la lb lc ln n1 n2 n3 n4 n5 HN
          have H1 := Lib.hid (And.intro s1 (And.intro s2 (And.intro s3 (And.intro s4 (And.intro hT sb)))))
          clear s1 s2 s3 s4 hT sb e1 e2 e3 e4 e5
          go_wp2_with fail
          apply wp_region_g 10 (by kernel_rfl) (by kernel_rfl)
          simp only [List.take_succ_cons, List.take_zero, List.drop_succ_cons, List.drop_zero]
          apply lg_load 23 (.tmp 8) rfl g 0 av _ H1.out.1.rng H1.out.1.lt Tryd.underlying23 rfl z1 rfl rfl
          simp only [Act.put, List.setIfInBounds_toArray, List.set_cons_succ, List.set_cons_zero]
          apply lg_load 23 (.tmp 9) rfl (g + 1) 0 bv _ H1.out.2.1.rng H1.out.2.1.lt Tryd.underlying23 rfl z2 rfl rfl
          simp only [Act.put, List.setIfInBounds_toArray, List.set_cons_succ, List.set_cons_zero]
          apply lg_load 23 (.tmp 10) rfl (g + 1 + 1) 0 cv _ H1.out.2.2.1.rng H1.out.2.2.1.lt Tryd.underlying23 rfl z3 rfl rfl
          simp only [Act.put, List.setIfInBounds_toArray, List.set_cons_succ, List.set_cons_zero]
          apply lg_callx_in (.agg nv.toArray) 15 #[.agg av.toArray, .agg bv.toArray, .agg cv.toArray] rfl (by intro W; go_simp) (fun W hW => hm W (H1.out.2.2.2.2.1.later hW))
          simp only [Act.put, List.setIfInBounds_toArray, List.set_cons_succ, List.set_cons_zero]
          apply lg_load 23 (.tmp 11) rfl (g + 1 + 1 + 1) 0 nv _ H1.out.2.2.2.1.rng H1.out.2.2.2.1.lt Tryd.underlying23 rfl z4 rfl rfl
          simp only [Act.put, List.setIfInBounds_toArray, List.set_cons_succ, List.set_cons_zero]
          apply lg_pure (.bool true) rfl (by intro W; have h1 := gN (.tmp 67) (.tmp 68) W; have h2 := qN W; go_simp)
          simp only [Act.put, List.setIfInBounds_toArray, List.set_cons_succ, List.set_cons_zero]
          apply lg_pure (.bool true) rfl (by intro W; go_simp)
          simp only [Act.put, List.setIfInBounds_toArray, List.set_cons_succ, List.set_cons_zero]
          apply lg_load 23 (.tmp 11) rfl (g + 1 + 1 + 1) 0 nv _ H1.out.2.2.2.1.rng H1.out.2.2.2.1.lt Tryd.underlying23 rfl z4 rfl rfl
          simp only [Act.put, List.setIfInBounds_toArray, List.set_cons_succ, List.set_cons_zero]
          apply lg_callx_in (.bool true) 12 #[.agg nv.toArray] rfl (by intro W; go_simp) (fun W hW => hgd W (H1.out.2.2.2.2.1.later hW))
          simp only [Act.put, List.setIfInBounds_toArray, List.set_cons_succ, List.set_cons_zero]
          apply lg_pure (.bool true) rfl (by intro W; go_simp)
          simp only [Act.put, List.setIfInBounds_toArray, List.set_cons_succ, List.set_cons_zero]
          refine lg_nil ?_
          intro w9 hC9
          have H9 := Lib.hid (H1.out.2.2.2.2.2.then_ hC9.1)
          clear hC9 hm hgd gN qN H1
          go_wp2_with fail
          go_ret
          exact ⟨rfl, H9.out⟩
end Go.Proofs.YtmegjpjfkpgmbaaDoor
