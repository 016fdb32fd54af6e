/- The contract of Encode of letters. -/
import Derived.Test.YthhnbpbebplcoaaLetLen
import Derived.Test.YthhnbpbebplcoaaLetAbc
namespace Go.Proofs.Ythhnbpbebplcoaa
open Go.ChangeShapes Go.WideShapes Go.ChangeAt Go.RowKit Go.IntWalk
set_option linter.unusedVariables false

set_option maxHeartbeats 1000000 in
theorem encode_calls (A : Option Addr) (n c : Nat) (bs : List UInt8) (u : Bool) (w : World) (hA : RB w A bs) (hn : n = bs.length) (hi : n ≤ 1099511627776) :
    Calls Try.prog 31 #[.slice A n c, .bool u] w fun e w' => e = .returned (.string ⟨(encF u bs).toArray⟩) ∧ Below w.heap.size w w' := by
  have H := Lib.hid hn; clear hn
  obtain ⟨i0, hi0, hz0, hz1, hz2⟩ := info_parts infoU8
  have hlen0 : 0 ≤ lenF n ∧ lenF n ≤ 2 * n := by unfold lenF; split <;> omega
  go_enter Try.func31, Try.ntmps31
  go_wp2_with (first
    | (go_at_call 40; refine (alphabet_calls _ _).mono ?_; rintro e w' ⟨rfl, rfl⟩)
    | (go_at_call 30; refine (len_calls _ _ (by omega) (by omega)).mono ?_; rintro e w' ⟨rfl, rfl⟩)
    | (refine wpList_make_own _ rfl _ _ _ rfl w.heap.size 5 i0 (.int .u8 0) 1 Try.underlying52 hi0 hz0 hz1 .i64 .i64 (lenF n) (lenF n).toNat rfl rfl (by omega) (by rw [hz2]; omega) (by unfold maxLen; omega) (Nat.le_refl _) ?_; intro w1 hown hgrow))
  have hb1 : Below w.heap.size w w1 := (Below.refl _ _).grown hgrow (Nat.le_refl _) (fun k h => by cases h)
  go_loopw [6, 7, 8, 19] (fun v b ct i wr => ∃ k q r : Nat, k ≤ n ∧ i = .int .i64 k ∧ b = .int .u32 ((acc (bs.take k) % 4294967296 : Nat) : Int) ∧ 6 * q + r = 8 * k ∧ r < 6 ∧ ct = .int .i64 r ∧
      OwnBs w.heap.size wr v (lets u k (acc (bs.take k)) q) ∧ Below w.heap.size w wr) (fun _ _ _ i _ => n - (intOf i).toNat)
  case atStart => exact ⟨0, 0, 0, Nat.zero_le _, rfl, rfl, rfl, by omega, rfl, hown, hb1⟩
  case round =>
    clear hown hgrow hb1
    obtain ⟨k, q, r, hk, rfl, rfl, hqr, hr, rfl, hown, hbr⟩ := hrel
    by_cases hlt : k < n
    · obtain ⟨b, off, rfl, hbw, hc⟩ := (hA.below hbr) k (by rw [← H.out]; exact hlt)
      have hby := (bs.getD k 0).toNat_lt
      obtain ⟨C, hC⟩ : ∃ C, C = (bs.getD k 0).toNat := ⟨_, rfl⟩
      rw [← hC] at hc hby
      have HC := Lib.hid hC; clear hC
      obtain ⟨X, hX⟩ : ∃ X, X = acc (bs.take k) % 4294967296 := ⟨_, rfl⟩
      rw [← hX]
      have hXl : X < 4294967296 := by omega
      have HX := Lib.hid hX; clear hX
      go_wp2_with fail
      have hY : bits BinOp.or IntKind.u32 ((X : Int) * 256 % 4294967296) C = ((acc (bs.take (k + 1)) % 4294967296 : Nat) : Int) := by
        rw [HX.out, acc_take bs k (by rw [← H.out]; exact hlt), ← HC.out]
        rw [bits_join .u32 32 (by decide) wraps_u32 8 _ _ (by omega) (by omega) (by omega) (by omega) (by omega) (by omega)]
        omega
      rw [hY]
      clear hY hc
      obtain ⟨Y, hY⟩ : ∃ Y, Y = acc (bs.take (k + 1)) % 4294967296 := ⟨_, rfl⟩
      rw [← hY]
      have hYl : Y < 4294967296 := by omega
      have HY := Lib.hid hY; clear hY
      have hown2 : OwnBs w.heap.size wr u6 (lets u (k + 1) (acc (bs.take (k + 1))) q) := by
        rw [acc_take bs k (by rw [← H.out]; exact hlt), lets_more u k _ q _ (UInt8.toNat_lt _) (by omega)]
        exact hown
      clear hown
      obtain ⟨wo, rfl⟩ : ∃ wo : World, wo = wr := ⟨_, rfl⟩
      go_loopw [6, 8] (fun v ct wr2 => ∃ q r : Nat, 6 * q + r = 8 * (k + 1) ∧ r ≤ 13 ∧ ct = .int .i64 r ∧ OwnBs w.heap.size wr2 v (lets u (k + 1) (acc (bs.take (k + 1))) q) ∧ Below w.heap.size w wr2)
        (fun _ ct _ => (intOf ct).toNat)
      case atStart => exact ⟨q, r + 8, by omega, by omega, by go_num, hown2, hbr⟩
      case round =>
        clear hbr hown2 hqr hr
        obtain ⟨q, r, hqr, hr, rfl, hown, hbr⟩ := hrel
        by_cases hr6 : 6 ≤ r
        · obtain ⟨S, hS⟩ : ∃ S : Nat, S = Y / 2 ^ (r - 6) % 64 := ⟨_, rfl⟩
          have hSl : S < 64 := by omega
          have hz : bits BinOp.and IntKind.u32 ((Y : Int) / 2 ^ (r - 6)) 63 = (S : Int) := by
            have hq : ((Y : Int) / 2 ^ (r - 6)) = ((Y / 2 ^ (r - 6) : Nat) : Int) := by simp
            have hle : Y / 2 ^ (r - 6) ≤ Y := Nat.div_le_self _ _
            rw [hS, hq]
            generalize Y / 2 ^ (r - 6) = D at *
            rw [u32_and63 _ (by omega) (by omega)]; rfl
          have HS := Lib.hid hS; clear hS
          have hal := abc_length u
          have hlq := lets_length u (k + 1) (acc (bs.take (k + 1))) q
          have hsz := hbr.size
          go_wp2_with (at_builtin; (refine wpList_append_u8 rfl (.tmp 34) (.tmp 42) rfl w.heap.size _ _ rfl hown (letB u S) (abc_get u S _) rfl (by rw [hlq]; omega) (by omega) ?_; intro v' w2 hown' hgrow'))
          have hb2 : Below w.heap.size w w2 := hbr.grown hgrow' hsz (fun k hk => (hown.lt k hk).1)
          rw [HS.out, HY.out, sx_bits (k + 1) _ q r hqr hr6 (by omega), ← lets_snoc] at hown'
          go_roundw
          case rel => exact ⟨q + 1, r - 6, by omega, by omega, by go_num, hown', hb2⟩
          case measure => simp [intOf]; omega
        · go_wp2_with fail
          go_roundw
          case rel => exact ⟨k + 1, q, r, by omega, by go_num, by rw [HY.out], hqr, by omega, rfl, hown, hbr⟩
          case measure => simp [intOf]; omega
    · obtain rfl : k = n := by omega
      have hbs : bs.take k = bs := by rw [H.out]; exact List.take_length
      rw [hbs] at hown ⊢
      by_cases hr0 : 0 < r
      · obtain ⟨Y, hY⟩ : ∃ Y, Y = acc bs % 4294967296 := ⟨_, rfl⟩
        rw [← hY]
        have hYl : Y < 4294967296 := by omega
        have HY := Lib.hid hY; clear hY
        obtain ⟨S, hS⟩ : ∃ S : Nat, S = Y * 2 ^ (6 - r) % 4294967296 % 64 := ⟨_, rfl⟩
        have hSl : S < 64 := by omega
        have hz : bits BinOp.and IntKind.u32 ((Y : Int) * 2 ^ (6 - r) % 4294967296) 63 = (S : Int) := by
          have hq : ((Y : Int) * 2 ^ (6 - r) % 4294967296) = ((Y * 2 ^ (6 - r) % 4294967296 : Nat) : Int) := by simp
          rw [hS, hq]
          generalize Y * 2 ^ (6 - r) % 4294967296 = D at *
          rw [u32_and63 _ (by omega) (by omega)]; rfl
        have HS := Lib.hid hS; clear hS
        have hal := abc_length u
        have hlq := lets_length u k (acc bs) q
        have hsz := hbr.size
        go_wp2_with (at_builtin; refine wpList_append_u8 rfl (.tmp 47) (.tmp 55) rfl w.heap.size _ _ rfl hown (letB u S) (abc_get u S _) rfl (by rw [hlq]; omega) (by omega) ?_; intro v' w2 hown' hgrow')
        have hb2 : Below w.heap.size w w2 := hbr.grown hgrow' hsz (fun k hk => (hown.lt k hk).1)
        rw [HS.out, HY.out, sx_last k _ q r hqr (by omega) hr, ← lets_snoc] at hown'
        obtain ⟨A', n', cap', rfl, hrb, hn'⟩ := hown'.form
        have hcv := run_str_rb w2 A' n' cap' _ hrb hn'
        clear hown' hgrow' hown hlq
        go_simp
        go_wp2
        go_ret
        refine ⟨ret_str ?_, hb2⟩
        unfold encF
        rw [← H.out, show (8 * k + 5) / 6 = q + 1 from by omega]
      · obtain ⟨A', n', cap', rfl, hrb, hn'⟩ := hown.form
        have hcv := run_str_rb wr A' n' cap' _ hrb hn'
        obtain rfl : r = 0 := by omega
        go_wp2
        go_ret
        refine ⟨ret_str ?_, hbr⟩
        unfold encF
        rw [← H.out, show (8 * k + 5) / 6 = q from by omega]
end Go.Proofs.Ythhnbpbebplcoaa
