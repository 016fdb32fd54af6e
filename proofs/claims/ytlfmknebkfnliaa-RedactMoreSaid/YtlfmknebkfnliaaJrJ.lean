/- Layer 12: the law RedactMore. -/
import Derived.Test.YtlfmknebkfnliaaJrI
import Derived.Test.YtlfmknebkfnliaaJwX
namespace Go.Proofs.Ytlfmknebkfnliaa
open Go.ChangeShapes Go.WideShapes Go.ChangeAt Go.RowKit Go.IntWalk
set_option linter.unusedVariables false
set_option maxRecDepth 100000

theorem ris_mapV {t : JT} (h : risF true none t = true) : risV (mapV t) = true := by unfold risV mapV; rw [h]; rfl
theorem risV_m {v : Jv} (h : risV v = true) : risF true none v.m = true := by unfold risV at h; rw [Bool.and_eq_true] at h; exact h.1
theorem cont_with (kind : List UInt8) (v u : Jv) (key : List UInt8) (hc : kind ≠ [109, 46, 114, 111, 111, 109, 46, 99, 114, 101, 97, 116, 101]) (h5 : v.kd = 5) (hk : key ∉ staysL kind) (ht : key ≠ tpiK) : contJ kind (mapV (withJ v.m key u)) = contJ kind v := by
  refine cont_more kind _ _ hc (fun k hkk => ?_)
  unfold getJ
  rw [if_pos h5, if_pos (show (mapV (withJ v.m key u)).kd = 5 from rfl)]
  refine findV_with (fun e => ?_)
  subst e
  rcases hkk with h | h
  · exact hk h
  · exact ht h
set_option maxHeartbeats 16000000 in
theorem more_walk (a0 : List UInt8) (a1 : Jv) (A1 B1 : Option Addr) (nl1 cl1 nm1 cm1 : Nat) (a2 : List UInt8) (a3 : Jv) (A3 B3 : Option Addr) (nl3 cl3 nm3 cm3 : Nat) (w : World) (hr1 : VOk w a1 A1 B1 nl1 cl1 nm1 cm1) (hr3 : VOk w a3 A3 B3 nl3 cl3 nm3 cm3) :
    Calls Try.prog 4 #[.string ⟨a0.toArray⟩, .agg #[.int .i64 a1.kd, .bool a1.is, .int .i64 a1.n, .string ⟨a1.s.toArray⟩, .slice A1 nl1 cl1, .slice B1 nm1 cm1], .string ⟨a2.toArray⟩, .agg #[.int .i64 a3.kd, .bool a3.is, .int .i64 a3.n, .string ⟨a3.s.toArray⟩, .slice A3 nl3 cl3, .slice B3 nm3 cm3]] w fun e w' => e = .returned (.bool true) ∧ Below w.heap.size w w' := by
  have HB := Lib.hid (show Below w.heap.size w ((w.alloc (.cells #[.int .i64 a1.kd, .bool a1.is, .int .i64 a1.n, .string ⟨a1.s.toArray⟩, .slice A1 nl1 cl1, .slice B1 nm1 cm1] 25)).alloc (.cells #[.int .i64 a3.kd, .bool a3.is, .int .i64 a3.n, .string ⟨a3.s.toArray⟩, .slice A3 nl3 cl3, .slice B3 nm3 cm3] 25)) from ((Below.refl _ _).alloc (Nat.le_refl _) _).alloc (by simp) _)
  have HX := Lib.hid ((Blk.new w [.int .i64 a1.kd, .bool a1.is, .int .i64 a1.n, .string ⟨a1.s.toArray⟩, .slice A1 nl1 cl1, .slice B1 nm1 cm1] 25).alloc (.cells #[.int .i64 a3.kd, .bool a3.is, .int .i64 a3.n, .string ⟨a3.s.toArray⟩, .slice A3 nl3 cl3, .slice B3 nm3 cm3] 25))
  have HY := Lib.hid (show Blk ((w.alloc (.cells #[.int .i64 a1.kd, .bool a1.is, .int .i64 a1.n, .string ⟨a1.s.toArray⟩, .slice A1 nl1 cl1, .slice B1 nm1 cm1] 25)).alloc (.cells #[.int .i64 a3.kd, .bool a3.is, .int .i64 a3.n, .string ⟨a3.s.toArray⟩, .slice A3 nl3 cl3, .slice B3 nm3 cm3] 25)) (w.heap.size + 1) 25 [.int .i64 a3.kd, .bool a3.is, .int .i64 a3.n, .string ⟨a3.s.toArray⟩, .slice A3 nl3 cl3, .slice B3 nm3 cm3] by have h := Blk.new (w.alloc (.cells #[.int .i64 a1.kd, .bool a1.is, .int .i64 a1.n, .string ⟨a1.s.toArray⟩, .slice A1 nl1 cl1, .slice B1 nm1 cm1] 25)) [.int .i64 a3.kd, .bool a3.is, .int .i64 a3.n, .string ⟨a3.s.toArray⟩, .slice A3 nl3 cl3, .slice B3 nm3 cm3] 25; rw [show (w.alloc (.cells #[.int .i64 a1.kd, .bool a1.is, .int .i64 a1.n, .string ⟨a1.s.toArray⟩, .slice A1 nl1 cl1, .slice B1 nm1 cm1] 25)).heap.size = w.heap.size + 1 by simp] at h; exact h)
  have HA := alive_calls ((w.alloc (.cells #[.int .i64 a1.kd, .bool a1.is, .int .i64 a1.n, .string ⟨a1.s.toArray⟩, .slice A1 nl1 cl1, .slice B1 nm1 cm1] 25)).alloc (.cells #[.int .i64 a3.kd, .bool a3.is, .int .i64 a3.n, .string ⟨a3.s.toArray⟩, .slice A3 nl3 cl3, .slice B3 nm3 cm3] 25))
  have HV := Lib.hid hr1
  have HU := Lib.hid hr3
  obtain ⟨z1, hz1⟩ : ∃ z, wgV a1 8192 60 = z := ⟨_, rfl⟩
  have HZ1 := Lib.hid hz1
  obtain ⟨z3, hz3⟩ : ∃ z, wgV a3 8192 60 = z := ⟨_, rfl⟩
  have HZ3 := Lib.hid hz3
  obtain ⟨rv1, hrv1⟩ : ∃ rv, risV a1 = rv := ⟨_, rfl⟩
  have HR1 := Lib.hid hrv1
  obtain ⟨rv3, hrv3⟩ : ∃ rv, risV a3 = rv := ⟨_, rfl⟩
  have HR3 := Lib.hid hrv3
  obtain ⟨sn, hsn⟩ : ∃ sn, a0.length = sn := ⟨_, rfl⟩
  have hss : (⟨a0.toArray⟩ : ByteArray).size = sn := hsn
  obtain ⟨kn, hkn⟩ : ∃ sn, a2.length = sn := ⟨_, rfl⟩
  have hsk : (⟨a2.toArray⟩ : ByteArray).size = kn := hkn
  have HKN := Lib.hid hkn
  clear hr1 hr3 hz1 hz3 hrv1 hrv3 hsn hkn
  go_enter Try.func4, Try.ntmps4
  go_wp2_with fail
  refine HA.mono ?_
  rintro e w1 ⟨rfl, b1⟩
  have H1 := Lib.hid b1
  clear b1 HA
  by_cases hq : 1024 < sn
  · have ht : decide ((1024 : Int) < (sn : Int)) = true := by simp; omega
    clear hq
    go_wp2_with fail
    go_ret
    exact ⟨rfl, HB.out.then_ H1.out⟩
  have ht0 : decide ((1024 : Int) < (sn : Int)) = false := by simp; omega
  clear hq
  by_cases hq : 1024 < kn
  · have ht : decide ((1024 : Int) < (kn : Int)) = true := by simp; omega
    clear hq
    go_wp2_with fail
    go_ret
    exact ⟨rfl, HB.out.then_ H1.out⟩
  have ht1 : decide ((1024 : Int) < (kn : Int)) = false := by simp; omega
  have HK1 := Lib.hid (show a2.length ≤ 1024 by rw [HKN.out]; omega)
  clear hq
  have HW1 := weigh_calls a1.bulk a1 8192 60 60 w1 A1 B1 nl1 cl1 nm1 cm1 (Nat.le_refl _) (by decide) (by decide) (by decide) (by decide) (HV.out.below (HB.out.then_ H1.out)).1 (HV.out.below (HB.out.then_ H1.out)).2.1 (HV.out.below (HB.out.then_ H1.out)).2.2.1 (HV.out.below (HB.out.then_ H1.out)).2.2.2.1 (HV.out.below (HB.out.then_ H1.out)).2.2.2.2
  unfold WgtPost at HW1
  rw [HZ1.out] at HW1
  obtain ⟨d0, d1, d2, d3, d4, d5, _⟩ := cells6s (HX.out.later H1.out)
  obtain ⟨e0, e1, e2, e3, e4, e5, _⟩ := cells6s (HY.out.later H1.out)
  by_cases hq : z1 < 0
  · have hzb : decide (z1 < 0) = true := by simpa using hq
    clear hq
    go_wp2_with fail
    refine HW1.mono ?_
    rintro e w2 ⟨⟨_, _, rfl⟩, b2⟩
    have H2 := Lib.hid (H1.out.then_ b2)
    clear b2 HW1 d0 d1 d2 d3 d4 d5 e0 e1 e2 e3 e4 e5
    go_wp2_with fail
    go_ret
    exact ⟨rfl, HB.out.then_ H2.out⟩
  have hzb2 : decide (z1 < 0) = false := by simpa using hq
  have HBK1 := Lib.hid (show a1.bulk ≤ 8192 by have := (wgV_bulk (v := a1) (n := 8192) (d := 60) (by decide) (by rw [HZ1.out]; omega)).1; omega)
  clear hq
  go_wp2_with fail
  refine HW1.mono ?_
  rintro e w2 ⟨⟨_, _, rfl⟩, b2⟩
  have H2 := Lib.hid (H1.out.then_ b2)
  clear b2 HW1 d0 d1 d2 d3 d4 d5 e0 e1 e2 e3 e4 e5
  have HW2 := weigh_calls a3.bulk a3 8192 60 60 w2 A3 B3 nl3 cl3 nm3 cm3 (Nat.le_refl _) (by decide) (by decide) (by decide) (by decide) (HU.out.below (HB.out.then_ H2.out)).1 (HU.out.below (HB.out.then_ H2.out)).2.1 (HU.out.below (HB.out.then_ H2.out)).2.2.1 (HU.out.below (HB.out.then_ H2.out)).2.2.2.1 (HU.out.below (HB.out.then_ H2.out)).2.2.2.2
  unfold WgtPost at HW2
  rw [HZ3.out] at HW2
  obtain ⟨d0, d1, d2, d3, d4, d5, _⟩ := cells6s (HX.out.later H2.out)
  obtain ⟨e0, e1, e2, e3, e4, e5, _⟩ := cells6s (HY.out.later H2.out)
  by_cases hq : z3 < 0
  · have hzb : decide (z3 < 0) = true := by simpa using hq
    clear hq
    go_wp2_with fail
    refine HW2.mono ?_
    rintro e w3 ⟨⟨_, _, rfl⟩, b2⟩
    have H3 := Lib.hid (H2.out.then_ b2)
    clear b2 HW2 d0 d1 d2 d3 d4 d5 e0 e1 e2 e3 e4 e5
    go_wp2_with fail
    go_ret
    exact ⟨rfl, HB.out.then_ H3.out⟩
  have hzb3 : decide (z3 < 0) = false := by simpa using hq
  have HBK3 := Lib.hid (show a3.bulk ≤ 8192 by have := (wgV_bulk (v := a3) (n := 8192) (d := 60) (by decide) (by rw [HZ3.out]; omega)).1; omega)
  clear hq
  go_wp2_with fail
  refine HW2.mono ?_
  rintro e w3 ⟨⟨_, _, rfl⟩, b2⟩
  have H3 := Lib.hid (H2.out.then_ b2)
  clear b2 HW2 d0 d1 d2 d3 d4 d5 e0 e1 e2 e3 e4 e5
  have HS3 := rises_calls a1.bulk a1 w3 A1 B1 nl1 cl1 nm1 cm1 (Nat.le_refl _) (HV.out.below (HB.out.then_ H3.out))
  rw [HR1.out] at HS3
  obtain ⟨d0, d1, d2, d3, d4, d5, _⟩ := cells6s (HX.out.later H3.out)
  obtain ⟨e0, e1, e2, e3, e4, e5, _⟩ := cells6s (HY.out.later H3.out)
  obtain hq | hq : rv1 = false ∨ rv1 = true := by cases rv1 <;> simp
  · subst hq
    go_wp2_with fail
    refine HS3.mono ?_
    rintro e w4 ⟨rfl, b2⟩
    have H4 := Lib.hid (H3.out.then_ b2)
    clear b2 HS3 d0 d1 d2 d3 d4 d5 e0 e1 e2 e3 e4 e5
    go_wp2_with fail
    go_ret
    exact ⟨rfl, HB.out.then_ H4.out⟩
  subst hq
  go_wp2_with fail
  refine HS3.mono ?_
  rintro e w4 ⟨rfl, b2⟩
  have H4 := Lib.hid (H3.out.then_ b2)
  clear b2 HS3 d0 d1 d2 d3 d4 d5 e0 e1 e2 e3 e4 e5
  have HS4 := rises_calls a3.bulk a3 w4 A3 B3 nl3 cl3 nm3 cm3 (Nat.le_refl _) (HU.out.below (HB.out.then_ H4.out))
  rw [HR3.out] at HS4
  obtain ⟨d0, d1, d2, d3, d4, d5, _⟩ := cells6s (HX.out.later H4.out)
  obtain ⟨e0, e1, e2, e3, e4, e5, _⟩ := cells6s (HY.out.later H4.out)
  obtain hq | hq : rv3 = false ∨ rv3 = true := by cases rv3 <;> simp
  · subst hq
    go_wp2_with fail
    refine HS4.mono ?_
    rintro e w5 ⟨rfl, b2⟩
    have H5 := Lib.hid (H4.out.then_ b2)
    clear b2 HS4 d0 d1 d2 d3 d4 d5 e0 e1 e2 e3 e4 e5
    go_wp2_with fail
    go_ret
    exact ⟨rfl, HB.out.then_ H5.out⟩
  subst hq
  go_wp2_with fail
  refine HS4.mono ?_
  rintro e w5 ⟨rfl, b2⟩
  have H5 := Lib.hid (H4.out.then_ b2)
  clear b2 HS4 d0 d1 d2 d3 d4 d5 e0 e1 e2 e3 e4 e5
  by_cases hq : a0 = [109, 46, 114, 111, 111, 109, 46, 99, 114, 101, 97, 116, 101]
  · have ht : (a0 == [109, 46, 114, 111, 111, 109, 46, 99, 114, 101, 97, 116, 101]) = true := by rw [beq_iff_eq]; exact hq
    clear hq
    go_wp2_with fail
    go_ret
    exact ⟨rfl, HB.out.then_ H5.out⟩
  have ht5 : (a0 == [109, 46, 114, 111, 111, 109, 46, 99, 114, 101, 97, 116, 101]) = false := by rw [beq_eq_false_iff_ne]; exact hq
  have HNC := Lib.hid hq
  clear hq
  obtain ⟨d0, d1, d2, d3, d4, d5, _⟩ := cells6s (HX.out.later H5.out)
  obtain ⟨e0, e1, e2, e3, e4, e5, _⟩ := cells6s (HY.out.later H5.out)
  by_cases hq : a1.kd = 5
  rotate_left
  · have ht : (a1.kd != 5) = true := by rw [bne_iff_ne]; exact hq
    clear hq
    go_wp2_with fail
    go_ret
    exact ⟨rfl, HB.out.then_ H5.out⟩
  have ht6 : (a1.kd != 5) = false := by simp [hq]
  have H5K := Lib.hid hq
  clear hq
  have hkp := kept_calls a0
  obtain ⟨ks, hks⟩ : ∃ ks, staysL a0 = ks := ⟨_, rfl⟩
  have hn9 : ks.length ≤ 9 := by rw [← hks]; exact stays_len _
  rw [hks] at hkp
  have HKP := Lib.hid hkp
  have HKS := Lib.hid hks
  clear hkp hks
  go_wp2_with fail
  refine (HKP.out _).mono ?_
  rintro e w6 ⟨⟨AK, rfl, hkc⟩, b6⟩
  have H6 := Lib.hid (H5.out.then_ b6)
  have HKC := Lib.hid hkc
  clear b6 hkc d0 d1 d2 d3 d4 d5 e0 e1 e2 e3 e4 e5 ht0 ht1 ht5 ht6
  go_wp2_with fail
  go_loopw [54] (fun i wz => ∃ r : Nat, r ≤ ks.length ∧ i = .int .i64 (r : Int) ∧ Hid (Below w6.heap.size w6 wz) ∧ Hid (a2 ∉ ks.take r)) (fun i _ => ks.length - (intOf i).toNat)
  case atStart => exact ⟨0, Nat.zero_le _, rfl, Lib.hid (Below.refl _ _), Lib.hid (by rw [List.take_zero]; exact List.not_mem_nil)⟩
  case round =>
    obtain ⟨wq, hwq⟩ : ∃ x, x = wr := ⟨_, rfl⟩
    subst hwq
    obtain ⟨r, hr, rfl, hBz, hF⟩ := hrel
    by_cases hlt2 : r < ks.length
    · obtain ⟨g, hgk, hg1, hg2, hg3⟩ := HKC.out r hlt2
      subst hgk
      have hg4 := (hBz.out.cell (p := ⟨g, r, none⟩) hg2).trans hg3
      obtain ⟨key, hkey⟩ : ∃ key, ks[r] = key := ⟨_, rfl⟩
      rw [hkey] at hg4
      have HT := Lib.hid (show ks.take (r + 1) = ks.take r ++ [key] by rw [← hkey, List.take_succ_eq_append_getElem hlt2])
      clear hg1 hg2 hg3 hkey
      by_cases hq : key = a2
      · have hqe : (key == a2) = true := by rw [beq_iff_eq]; exact hq
        have HBX := Lib.hid (H6.out.then_ hBz.out)
        clear hq
        go_wp2_with fail
        go_ret
        exact ⟨rfl, HB.out.then_ HBX.out⟩
      · have hqe : (key == a2) = false := by rw [beq_eq_false_iff_ne]; exact hq
        have HF2 := Lib.hid (show a2 ∉ ks.take (r + 1) by
          rw [HT.out, List.mem_append, List.mem_singleton]
          rintro (h1 | h1)
          · exact hF.out h1
          · exact hq h1.symm)
        clear hq
        go_wp2_with fail
        go_roundw
        case rel =>
          first
            | exact ⟨r + 1, by omega, by go_num, hBz, HF2⟩
            | (repeat apply Exists.intro
               refine ⟨⟨?e0, ?e1, hBz, HF2⟩, ?f1⟩
               case f1 => rfl
               case e1 => go_num
               case e0 => omega)
            | (repeat apply Exists.intro
               refine ⟨?e0, ?e1, hBz, HF2⟩
               case e1 => go_num
               case e0 => omega)
            | fail
        case measure => simp [intOf]; omega
    · obtain rfl : r = ks.length := by omega
      have HF9 := Lib.hid (show a2 ∉ staysL a0 by have h := hF.out; rw [List.take_length] at h; rw [HKS.out]; exact h)
      have H7 := Lib.hid (H6.out.then_ hBz.out)
      clear hF hBz HKC
      by_cases hq : a2 = [116, 104, 105, 114, 100, 95, 112, 97, 114, 116, 121, 95, 105, 110, 118, 105, 116, 101]
      · have hqe : (a2 == [116, 104, 105, 114, 100, 95, 112, 97, 114, 116, 121, 95, 105, 110, 118, 105, 116, 101]) = true := by rw [beq_iff_eq]; exact hq
        clear hq
        go_wp2_with fail
        go_ret
        exact ⟨rfl, HB.out.then_ H7.out⟩
      have hqe : (a2 == [116, 104, 105, 114, 100, 95, 112, 97, 114, 116, 121, 95, 105, 110, 118, 105, 116, 101]) = false := by rw [beq_eq_false_iff_ne]; exact hq
      have HNT := Lib.hid (show a2 ≠ tpiK from hq)
      clear hq
      obtain ⟨d0, d1, d2, d3, d4, d5, _⟩ := cells6s (HX.out.later H7.out)
      obtain ⟨e0, e1, e2, e3, e4, e5, _⟩ := cells6s (HY.out.later H7.out)
      have HWT := Lib.hid (refwith_calls a1.m B1 nm1 cm1 a2 a3 A3 B3 nl3 cl3 nm3 cm3 wq (HV.out.below (HB.out.then_ H7.out)).2.1 (HV.out.below (HB.out.then_ H7.out)).2.2.2.1 (HU.out.below (HB.out.then_ H7.out)) (by have := HK1.out; omega) (by have := HBK1.out; have := ext_bulk a1.m; unfold Jv.bulk at *; omega))
      obtain ⟨R, hR⟩ : ∃ R, withJ a1.m a2 a3 = R := ⟨_, rfl⟩
      have HR := Lib.hid hR
      rw [hR] at HWT
      clear hR
      go_wp2_with fail
      refine HWT.out.mono ?_
      rintro e w8 ⟨⟨A5, c5, rfl, hroom, hjs⟩, b8⟩
      have bx : Below w8.heap.size w8 (w8.alloc (.cells #[.int .i64 5, .bool false, .int .i64 0, .string ⟨#[]⟩, .slice none 0 0, .slice A5 R.ext c5] 25)) := (Below.refl _ _).alloc (Nat.le_refl _) _
      have H8 := Lib.hid (H7.out.then_ (b8.then_ bx))
      have HM := Lib.hid (Blk.new w8 [.int .i64 5, .bool false, .int .i64 0, .string ⟨#[]⟩, .slice none 0 0, .slice A5 R.ext c5] 25)
      have HMV := Lib.hid (VOk.below (show VOk w8 (mapV R) none A5 0 0 R.ext c5 from ⟨⟨rfl, Nat.le_refl _, by decide⟩, hroom, .inl rfl, hjs, by show Fit 5 0 []; unfold Fit; decide⟩) bx)
      clear b8 bx hroom hjs d0 d1 d2 d3 d4 d5 e0 e1 e2 e3 e4 e5 HWT
      go_upto_region 14 with fail
      refine wp_gen (fun W => Below ((w.alloc (.cells #[.int .i64 a1.kd, .bool a1.is, .int .i64 a1.n, .string ⟨a1.s.toArray⟩, .slice A1 nl1 cl1, .slice B1 nm1 cm1] 25)).alloc (.cells #[.int .i64 a3.kd, .bool a3.is, .int .i64 a3.n, .string ⟨a3.s.toArray⟩, .slice A3 nl3 cl3, .slice B3 nm3 cm3] 25)).heap.size ((w.alloc (.cells #[.int .i64 a1.kd, .bool a1.is, .int .i64 a1.n, .string ⟨a1.s.toArray⟩, .slice A1 nl1 cl1, .slice B1 nm1 cm1] 25)).alloc (.cells #[.int .i64 a3.kd, .bool a3.is, .int .i64 a3.n, .string ⟨a3.s.toArray⟩, .slice A3 nl3 cl3, .slice B3 nm3 cm3] 25)) W ∧ Blk W w8.heap.size 25 [.int .i64 5, .bool false, .int .i64 0, .string ⟨#[]⟩, .slice none 0 0, .slice A5 R.ext c5] ∧ VOk W (mapV R) none A5 0 0 R.ext c5) ⟨H8.out, HM.out, HMV.out⟩ ?_
      clear H8 HM HMV
      rintro w3 ⟨g1, g2, g3⟩
      have H8 := Lib.hid g1
      have HM := Lib.hid g2
      have HMV := Lib.hid g3
      have HX3 := Lib.hid (HX.out.later g1)
      have HV3 := Lib.hid (HV.out.below (HB.out.then_ g1))
      clear g1 g2 g3
      have hr2 : risV (mapV R) = true := ris_mapV (by rw [← HR.out]; exact with_ris (risV_m HR1.out) HR3.out)
      have hb2 : (mapV R).bulk ≤ 50000 := by
        have h1 := with_bulk a1.m a2 a3
        rw [HR.out] at h1
        have h3 := HBK1.out
        have h4 := HBK3.out
        show 1 + 0 + R.bulk ≤ 50000
        unfold Jv.bulk at h3
        omega
      have hc1 : ∀ W, Below w3.heap.size w3 W → Calls Try.prog 9 #[.string ⟨a0.toArray⟩, .agg #[.int .i64 5, .bool false, .int .i64 0, .string ⟨#[]⟩, .slice none 0 0, .slice A5 R.ext c5]] W (CtPost (contJ a0 a1) W) := fun W hW => by
        have h := content_calls a0 (mapV R) none A5 0 0 R.ext c5 W (HMV.out.below hW) hr2 hb2
        rw [← HR.out, cont_with a0 a1 a3 a2 HNC.out H5K.out HF9.out HNT.out, HR.out] at h
        exact h
      have hc2 : ∀ W, Below w3.heap.size w3 W → Calls Try.prog 9 #[.string ⟨a0.toArray⟩, .agg #[.int .i64 a1.kd, .bool a1.is, .int .i64 a1.n, .string ⟨a1.s.toArray⟩, .slice A1 nl1 cl1, .slice B1 nm1 cm1]] W (CtPost (contJ a0 a1) W) := fun W hW =>
        content_calls a0 a1 A1 B1 nl1 cl1 nm1 cm1 W (HV3.out.below hW) HR1.out (by have := HBK1.out; omega)
      obtain ⟨u, hu⟩ : ∃ u, contJ a0 a1 = u := ⟨_, rfl⟩
      rw [hu] at hc1 hc2
      have hsm : ∀ W (A2 B2 A4 B4 : Option Addr) (nl2 cl2 nm2 cm2 nl4 cl4 nm4 cm4 : Nat), VOk W u A2 B2 nl2 cl2 nm2 cm2 → VOk W u A4 B4 nl4 cl4 nm4 cm4 → Calls Try.prog 8 #[.agg #[.int .i64 u.kd, .bool u.is, .int .i64 u.n, .string ⟨u.s.toArray⟩, .slice A2 nl2 cl2, .slice B2 nm2 cm2], .agg #[.int .i64 u.kd, .bool u.is, .int .i64 u.n, .string ⟨u.s.toArray⟩, .slice A4 nl4 cl4, .slice B4 nm4 cm4]] W (fun e w' => e = .returned (.bool true) ∧ Below W.heap.size W w') := fun W A2 B2 A4 B4 nl2 cl2 nm2 cm2 nl4 cl4 nm4 cm4 h2 h4 => by
        have := same_calls u.bulk u u A2 B2 A4 B4 nl2 cl2 nm2 cm2 nl4 cl4 nm4 cm4 W (Nat.le_refl _) h2 h4
        rw [sameV_refl] at this
        exact this
      have HC1 := Lib.hid hc1
      have HC2 := Lib.hid hc2
      have HSM := Lib.hid hsm
      clear hc1 hc2 hsm hu hr2 hb2
      obtain ⟨d0, d1, d2, d3, d4, d5, _⟩ := cells6s HX3.out
      obtain ⟨m0, m1, m2, m3, m4, m5, _⟩ := cells6s HM.out
      go_region_with
        ((first
          | (go_at_call 9; (with_reducible refine (HC1.out _ (by first | exact Below.refl _ _ | exact (Below.refl _ _).drew | exact ((Below.refl _ _).drew).drew)).mono ?_); rintro e w4 ⟨⟨A2, B2, nl2, cl2, nm2, cm2, rfl, hv4⟩, b4⟩; have b34 : Below w3.heap.size w3 w4 := (by first | exact b4 | exact ((Below.refl _ _).drew).then_ b4 | exact ((Below.refl _ _).drew.drew).then_ b4); have hx4 := HX3.out.later b34; obtain ⟨q0, q1, q2, q3, q4, q5, _⟩ := cells6s hx4)
          | (go_at_call 9; (with_reducible refine (HC2.out _ (by first | exact b34 | exact b34.drew | exact b34.drew.drew)).mono ?_); rintro e w5 ⟨⟨A4, B4, nl4, cl4, nm4, cm4, rfl, hv5⟩, b5⟩; have b45 : Below w4.heap.size w4 w5 := (by first | exact b5 | exact ((Below.refl _ _).drew).then_ b5 | exact ((Below.refl _ _).drew.drew).then_ b5); have hv45 := hv4.below b45)
          | (go_at_call 8; (with_reducible refine (HSM.out _ _ _ _ _ _ _ _ _ _ _ _ _ (by first | exact hv45 | exact hv45.drew) (by first | exact hv5 | exact hv5.drew)).mono ?_); rintro e w6 ⟨rfl, b6⟩; have b56 : Below w5.heap.size w5 w6 := (by first | exact b6 | exact ((Below.refl _ _).drew).then_ b6 | exact ((Below.refl _ _).drew.drew).then_ b6))
          | fail))
      all_goals
        have HB6 := Lib.hid (HB.out.then_ (H8.out.then_ (b34.then_ (b45.then_ b56))))
        clear b34 b45 b56 b4 b5 b6 hv4 hv45 hv5
        go_wp2_with fail
        go_ret
        exact ⟨rfl, HB6.out⟩
theorem redactMore_walk (a0 : ByteArray) (w0 : a0.size ≤ maxLen) (a1 : Jv) (A1 B1 : Option Addr) (nl1 cl1 nm1 cm1 : Nat) {w : World} (hr1 : VOk w a1 A1 B1 nl1 cl1 nm1 cm1) (a2 : ByteArray) (w2 : a2.size ≤ maxLen) (a3 : Jv) (A3 B3 : Option Addr) (nl3 cl3 nm3 cm3 : Nat) (hr3 : VOk w a3 A3 B3 nl3 cl3 nm3 cm3) :
    Calls Try.prog 4 #[.string a0, .agg #[.int .i64 a1.kd, .bool a1.is, .int .i64 a1.n, .string ⟨a1.s.toArray⟩, .slice A1 nl1 cl1, .slice B1 nm1 cm1], .string a2, .agg #[.int .i64 a3.kd, .bool a3.is, .int .i64 a3.n, .string ⟨a3.s.toArray⟩, .slice A3 nl3 cl3, .slice B3 nm3 cm3]] w fun e w' => e = .returned (.bool true) ∧ Below w.heap.size w w' := by
  obtain ⟨l0, rfl, _⟩ := str_split a0
  obtain ⟨l2, rfl, _⟩ := str_split a2
  exact more_walk l0 a1 A1 B1 nl1 cl1 nm1 cm1 l2 a3 A3 B3 nl3 cl3 nm3 cm3 w hr1 hr3
end Go.Proofs.Ytlfmknebkfnliaa
