/- JSON: a member's place in a map, searched. -/
import Derived.Test.YtlfmknebkfnliaaPwA
import Derived.Test.YtlfmknebkfnliaaJvL
import Derived.Test.YtlfmknebkfnliaaJvE
import Derived.Test.YtlfmknebkfnliaaShelf
import Derived.Test.YtlfmknebkfnliaaPkL
import Derived.Deep.Cut
namespace Go.Proofs.Ytlfmknebkfnliaa
open Go.ChangeShapes Go.WideShapes Go.ChangeAt Go.RowKit Go.IntWalk
set_option linter.unusedVariables false

theorem size_mem : (Try.prog.info? 36).map (·.size) = some 7 := by kernel_rfl
theorem size_val : (Try.prog.info? 25).map (·.size) = some 6 := by kernel_rfl
theorem closure_calls (ek : List UInt8) (eu : Jv) (eA eB : Option Addr) (enl ecl enm ecm : Nat) (key : List UInt8) (W : World) :
    Calls Try.prog 31 #[.agg #[.string ⟨ek.toArray⟩, .int .i64 eu.kd, .bool eu.is, .int .i64 eu.n, .string ⟨eu.s.toArray⟩, .slice eA enl ecl, .slice eB enm ecm], .string ⟨key.toArray⟩] W fun e w' => e = .returned (.int .i64 (cmpP (keyP ek) (keyP key))) ∧ Below W.heap.size W w' := by
  rw [cmpP_key]
  go_enter Try.func31, Try.ntmps31
  go_wp2_with fail
  refine (Try.strings_Compare _ _ _).mono ?_
  rintro e w1 ⟨rfl, rfl⟩
  go_wp2_with fail
  go_ret
  exact ⟨rfl, (Below.refl _ _).alloc (Nat.le_refl _) _⟩
theorem half_u (a b : Nat) (ha : a ≤ 140737488355328) (hb : b ≤ 140737488355328) : IntKind.u64.wrap ((a : Int) + (b : Int)) = (a : Int) + (b : Int) := by rw [IntKind.wrap_u64]; omega
theorem half_d (a b h : Nat) (hh : (a + b) / 2 = h) : ((a : Int) + (b : Int)) / 2 = (h : Int) := by omega
theorem half_w (h : Nat) (hh : h ≤ 140737488355328) : wrap64 (h : Int) = (h : Int) := wrap64_in _ (by omega)
theorem half_s (a b : Nat) (ha : a ≤ 140737488355328) (hb : b ≤ 140737488355328) : wrap64 ((a : Int) + (b : Int)) = (a : Int) + (b : Int) := wrap64_in _ (by omega)
theorem cmp_at {t : JT} {i : Nat} (h : i < (slts t).length) {ek : List UInt8} (hek : (t.fall i).key = ek) : ((slts t)[i]).pr = keyP ek := by rw [slts_at t i h, hek]
set_option maxHeartbeats 4000000 in
set_option maxRecDepth 100000 in
theorem search_calls (A : Option Addr) (n c : Nat) (t : JT) (key : List UInt8) (w : World) (hn : Room n c t.ext) (hs : JSl (· < w.heap.size) w true A t) (hr : Rise (slts t)) : Calls Try.prog 30 #[.slice A n c, .string ⟨key.toArray⟩, .func (Fn.func 31) #[] #[]] w fun e w' => e = .returned (.tuple #[.int .i64 (posF (slts t) (keyP key) : Int), .bool (foundF (slts t) (keyP key))]) ∧ Below w.heap.size w w' := by
  obtain ⟨hn, hnc, hc63⟩ := hn
  have hlen : n = (slts t).length := by rw [slts_len]; exact hn
  obtain ⟨ps, hps⟩ : ∃ ps, posF (slts t) (keyP key) = ps := ⟨_, rfl⟩
  have hpn : ps ≤ n := by rw [← hps, hlen]; exact posF_le _ _
  have HS := Lib.hid hs
  have HH := Lib.hid (And.intro hr hlen)
  have HP := Lib.hid hps
  rw [hps]
  have hn47 : n ≤ 140737488355328 := hc63
  clear hs hn hr hlen hps hnc hc63
  go_enter Try.func30, Try.ntmps30
  go_wp2_with fail
  go_loopw [9, 10] (fun i j wr => ∃ a b : Nat, a ≤ ps ∧ ps ≤ b ∧ b ≤ n ∧ i = .int .i64 (a : Int) ∧ j = .int .i64 (b : Int) ∧ Hid (Below w.heap.size w wr)) (fun i j _ => (intOf j - intOf i).toNat)
  case atStart => exact ⟨0, n, Nat.zero_le _, hpn, Nat.le_refl _, rfl, rfl, Lib.hid (Below.refl _ _)⟩
  case round =>
    obtain ⟨a, b, ha, hab, hb, rfl, rfl, hbe⟩ := hrel
    by_cases hlt : a < b
    · have hb2 : b ≤ 140737488355328 := Nat.le_trans hb hn47
      have ha2 : a ≤ 140737488355328 := Nat.le_trans (Nat.le_of_lt hlt) hb2
      obtain ⟨h, hh⟩ : ∃ h, (a + b) / 2 = h := ⟨_, rfl⟩
      have hah : a ≤ h := by omega
      have hhb : h < b := by omega
      have hkn : h < n := by omega
      have e3 := half_d a b h hh
      have e4 := half_w h (by omega)
      have e1 := half_s a b ha2 hb2
      have e2 := half_u a b ha2 hb2
      have hk : h < (slts t).length := by rw [← HH.out.2]; exact hkn
      obtain ⟨b0, off, eA, enl, ecl, eB, enm, ecm, rfl, eP, ebl, eK, eKl, f0, f1, f2, f3, f4, f5, r1, r2, s1, s2, hf⟩ := (HS.out.up hbe.out).mb (i := h) _ (by rw [← slts_len]; exact hk)
      obtain ⟨eu, hev⟩ : ∃ eu, (t.fall h).val = eu := ⟨_, rfl⟩
      obtain ⟨ek, hek⟩ : ∃ ek, (t.fall h).key = ek := ⟨_, rfl⟩
      rw [hev] at f0 f1 f2 f3
      rw [hek] at eK
      have HX := Lib.hid (cmp_at hk hek)
      have HKK := Lib.hid hk
      clear eP eKl r1 r2 s1 s2 hf hev hek hh
      go_wp2_with fail
      refine (closure_calls ek eu eA eB enl ecl enm ecm key _).mono ?_
      rintro e w4 ⟨rfl, b4⟩
      have HB4 := Lib.hid (hbe.out.then_ b4)
      clear b4 eK f0 f1 f2 f3 f4 f5 e1 e2 e3 e4
      obtain ⟨z, hz⟩ : ∃ z, cmpP (keyP ek) (keyP key) = z := ⟨_, rfl⟩
      have HZ := Lib.hid hz
      rw [hz]
      clear hz
      by_cases hz0 : z < 0
      · have HPP : h + 1 ≤ ps := by
          have h1 : ¬ ps ≤ h := fun h2 => by
            have h5 := posF_high HH.out.1 (keyP key) h HKK.out (by rw [HP.out]; exact h2)
            rw [HX.out, HZ.out] at h5
            rcases cmpP_three (keyP ek) (keyP key) with h3 | h3 | h3 <;> rw [HZ.out] at h3 <;> omega
          omega
        go_wp2_with fail
        exact ⟨⟨h + 1, b, HPP, hab, hb, by go_num, rfl, HB4⟩, by simp [intOf]; omega⟩
      · have HPP : ps ≤ h := by
          rcases Nat.lt_or_ge h ps with h2 | h2
          · have h5 := posF_low (slts t) (keyP key) h HKK.out (by rw [HP.out]; exact h2)
            rw [HX.out, HZ.out] at h5
            omega
          · exact h2
        go_wp2_with fail
        exact ⟨⟨a, h, ha, HPP, by omega, rfl, rfl, HB4⟩, by simp [intOf]; omega⟩
    · obtain rfl : a = ps := by omega
      obtain rfl : b = a := by omega
      rcases Nat.lt_or_ge b n with hbn | hbn
      · have hk : b < (slts t).length := by rw [← HH.out.2]; exact hbn
        obtain ⟨b0, off, eA, enl, ecl, eB, enm, ecm, rfl, eP, ebl, eK, eKl, f0, f1, f2, f3, f4, f5, r1, r2, s1, s2, hf⟩ := (HS.out.up hbe.out).mb (i := b) _ (by rw [← slts_len]; exact hk)
        obtain ⟨eu, hev⟩ : ∃ eu, (t.fall b).val = eu := ⟨_, rfl⟩
        obtain ⟨ek, hek⟩ : ∃ ek, (t.fall b).key = ek := ⟨_, rfl⟩
        rw [hev] at f0 f1 f2 f3
        rw [hek] at eK
        obtain ⟨z, hz⟩ : ∃ z, cmpP (keyP ek) (keyP key) = z := ⟨_, rfl⟩
        have HF := Lib.hid (show foundF (slts t) (keyP key) = (z == 0) by
          unfold foundF
          rw [HP.out, List.getElem?_eq_getElem hk]
          dsimp only
          rw [cmp_at hk hek, hz]
          by_cases h : z = 0 <;> simp [h])
        have HZ := Lib.hid hz
        clear eP eKl r1 r2 s1 s2 hf hev hek hz
        go_wp2_with fail
        refine (closure_calls ek eu eA eB enl ecl enm ecm key _).mono ?_
        rintro e w4 ⟨rfl, b4⟩
        rw [HZ.out]
        have HB4 := Lib.hid (hbe.out.then_ b4)
        clear b4 eK f0 f1 f2 f3 f4 f5
        go_wp2_with fail
        go_ret2
        refine ⟨?_, HB4.out⟩
        rw [HF.out]; rfl
      · obtain rfl : b = n := by omega
        have HF := Lib.hid (show foundF (slts t) (keyP key) = false by
          unfold foundF
          rw [HP.out, HH.out.2, List.getElem?_eq_none (Nat.le_refl _)])
        go_wp2_with fail
        go_ret2
        refine ⟨?_, hbe.out⟩
        rw [HF.out]; rfl
end Go.Proofs.Ytlfmknebkfnliaa
