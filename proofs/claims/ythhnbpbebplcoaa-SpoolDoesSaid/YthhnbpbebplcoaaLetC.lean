/- The contract of the reference's Encode. -/
import Derived.Test.YthhnbpbebplcoaaLetBit
import Derived.Test.YthhnbpbebplcoaaLetLet
namespace Go.Proofs.Ythhnbpbebplcoaa
open Go.ChangeShapes Go.WideShapes Go.ChangeAt Go.RowKit Go.IntWalk
set_option linter.unusedVariables false

set_option maxHeartbeats 1000000 in
theorem refenc_calls (A : Option Addr) (n c : Nat) (bs : List UInt8) (u : Bool) (w : World) (hA : RB w A bs) (hn : Hid (n = bs.length)) (hi : n ≤ 68719476736) :
    Calls Try.prog 39 #[.slice A n c, .bool u] w fun e w' => e = .returned (.string ⟨(encF u bs).toArray⟩) ∧ Below w.heap.size w w' := by
  go_enter Try.func39, Try.ntmps39
  go_wp2
  go_loopw [5, 6] (fun v i wr => ∃ q : Nat, 6 * q ≤ 8 * n + 5 ∧ i = .int .i64 ((6 * q : Nat) : Int) ∧ OwnBs w.heap.size wr v (lets u n (acc bs) q) ∧ Below w.heap.size w wr) (fun _ i _ => 8 * n + 6 - (intOf i).toNat)
  case atStart => exact ⟨0, by omega, rfl, OwnBs.nil _ _, Below.refl _ _⟩
  case round =>
    obtain ⟨q, hq, rfl, hown, hbr⟩ := hrel
    have hsz := hbr.size
    have hqb : q ≤ 2 * n + 1 := by omega
    obtain ⟨Q, hQ⟩ : ∃ Q, Q = 6 * q := ⟨_, rfl⟩
    rw [← hQ] at hq ⊢
    have HQ := Lib.hid hQ; clear hQ
    by_cases hlt : Q < 8 * n
    · have hA' := hA.below hbr
      have hd : decide ((Q : Int) < 8 * (n : Int)) = true := by simp; omega
      go_wp2_with fail
      go_loopw [7, 8] (fun m j w3 => ∃ kk : Nat, kk ≤ 6 ∧ j = .int .i64 kk ∧ m = .int .i64 (part bs q kk) ∧ w3 = wr) (fun _ j _ => 6 - (intOf j).toNat)
      case atStart => exact ⟨0, by omega, rfl, by rw [part_zero]; rfl, rfl⟩
      case round =>
        obtain ⟨kk, hkk, rfl, rfl, rfl⟩ := hrel
        have hpl := part_lt bs q kk
        by_cases hk6 : kk < 6
        · have hps := part_succ bs q kk (by rw [← hn.out]; have := HQ.out; omega)
          have hb2 := bitF_lt bs (6 * q + kk)
          rw [← HQ.out] at hps hb2
          have hpl' : part bs q kk < 64 := Nat.lt_of_lt_of_le hpl (by rw [show 64 = 2 ^ 6 from rfl]; exact Nat.pow_le_pow_right (by decide) hkk)
          obtain ⟨p, hp⟩ : ∃ p, p = part bs q kk := ⟨_, rfl⟩
          rw [← hp] at hps hpl' ⊢
          have HPS := Lib.hid hps
          clear hps hpl hp
          go_wp2_with ((go_at_call 49; refine (bit_calls _ _ _ bs _ _ hA' hn.out (by omega) (by omega)).mono ?_; rintro e w' ⟨rfl, rfl⟩))
          go_roundw
          case rel => exact ⟨kk + 1, by omega, by go_num, by rw [HPS.out]; go_num, trivial⟩
          case measure => simp [intOf]; omega
        · obtain rfl : kk = 6 := by omega
          rw [part_six, ← hn.out]
          have hsl := sx_lt n (acc bs) q
          have hlq := lets_length u n (acc bs) q
          go_wp2_with (first
            | (go_at_call 48; refine (letter_calls _ _ _ (by omega) (by omega)).mono ?_; rintro e w' ⟨rfl, rfl⟩)
            | (at_builtin; (refine wpList_append_u8 rfl (.tmp 28) (.tmp 32) rfl w.heap.size _ _ rfl hown (letB u (sx n (acc bs) q)) rfl rfl (by rw [hlq]; omega) (by omega) ?_; intro v' w2 hown' hgrow')))
          have hb2 : Below w.heap.size w w2 := hbr.grown hgrow' hsz (fun k hk => (hown.lt k hk).1)
          rw [← lets_snoc] at hown'
          go_roundw
          case rel => exact ⟨q + 1, by rw [HQ.out] at hlt; omega, by rw [HQ.out]; go_num, hown', hb2⟩
          case measure => simp [intOf]; omega
    · obtain ⟨A', n', cap', rfl, hrb, hn'⟩ := hown.form
      have hcv := run_str_rb wr A' n' cap' _ hrb hn'
      go_wp2
      go_ret
      refine ⟨ret_str ?_, hbr⟩
      unfold encF
      rw [← hn.out, show (8 * n + 5) / 6 = q from by rw [HQ.out] at hlt hq; omega]
end Go.Proofs.Ythhnbpbebplcoaa
