/- The contract of the reference's bit. -/
import Derived.Test.YthhnbpbebplcoaaAid
import Derived.Test.YthhnbpbebplcoaaLetP
namespace Go.Proofs.Ythhnbpbebplcoaa
open Go.ChangeShapes Go.WideShapes Go.ChangeAt Go.RowKit Go.IntWalk
set_option linter.unusedVariables false

set_option maxHeartbeats 400000 in
theorem bit_calls (A : Option Addr) (n c : Nat) (bs : List UInt8) (i : Int) (w : World) (hA : RB w A bs) (hn : n = bs.length) (h0 : 0 ≤ i) (hi : i ≤ 1099511627776) :
    Calls Try.prog 49 #[.slice A n c, .int .i64 i] w fun e w' => e = .returned (.int .i64 (bitF bs i.toNat)) ∧ w = w' := by
  by_cases hk : i / 8 < n
  · obtain ⟨b, off, rfl, hlt, hc⟩ := hA (i / 8).toNat (by omega)
    have h2 : 0 ≤ i / 8 := by omega
    have H := Lib.hid hn; clear hn
    go_enter Try.func49, Try.ntmps49
    go_wp2
    go_ret
    refine ⟨ret_int ?_, rfl⟩
    have hn := H.out
    obtain ⟨j, rfl⟩ := Int.eq_ofNat_of_zero_le h0
    have e1 : ((j : Int) / 8).toNat = j / 8 := by omega
    have e2 : (7 - (j : Int) % 8).toNat = 7 - j % 8 := by omega
    rw [e1, e2]
    have hb := (bs[j / 8]?.getD 0).toNat_lt
    generalize hB : (bs[j / 8]?.getD 0).toNat = B at *
    have hq : ((B : Int) / 2 ^ (7 - j % 8)) = ((B / 2 ^ (7 - j % 8) : Nat) : Int) := by simp
    clear hA hc
    have hle : B / 2 ^ (7 - j % 8) ≤ B := Nat.div_le_self _ _
    unfold bitF
    rw [if_neg (by simp; omega), List.getD_eq_getElem?_getD, Int.toNat_natCast, hB]
    generalize B / 2 ^ (7 - j % 8) = q at *
    rw [hq, wrap64_in _ (by omega), i64_and1 _ (by omega) (by omega)]
    rfl
  · go_enter Try.func49, Try.ntmps49
    have H := Lib.hid hn; clear hn
    go_wp2
    go_ret
    refine ⟨ret_int ?_, rfl⟩
    have := H.out
    unfold bitF; rw [if_pos (by omega)]; rfl
end Go.Proofs.Ythhnbpbebplcoaa
