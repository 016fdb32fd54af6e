/- Layer 12: the law RedactContents. -/
import Derived.Test.YtlfmknebkfnliaaJrE
import Derived.Test.YtlfmknebkfnliaaJrG
import Derived.Test.YtlfmknebkfnliaaJrH
import Derived.Test.YtlfmknebkfnliaaJrP
import Derived.Test.YtlfmknebkfnliaaJvI
import Derived.Test.YtlfmknebkfnliaaWgB
namespace Go.Proofs.Ytlfmknebkfnliaa
open Go.ChangeShapes Go.WideShapes Go.ChangeAt Go.RowKit Go.IntWalk
set_option linter.unusedVariables false
set_option maxRecDepth 100000

theorem ext_bulk : ∀ t : JT, t.ext ≤ t.bulk
  | .nil => Nat.le_refl _
  | .cons k kd is n s l m r => by have := ext_bulk r; simp only [JT.ext, JT.bulk]; omega
theorem VOk.drew {w : World} {v : Jv} {A B : Option Addr} {nl cl nm cm : Nat} (h : VOk w v A B nl cl nm cm) : VOk w.drew v A B nl cl nm cm := h.below ((Below.refl _ _).drew)
set_option maxHeartbeats 8000000 in
theorem contents_walk (a0 : List UInt8) (a1 : Jv) (A1 B1 : Option Addr) (nl1 cl1 nm1 cm1 : Nat) (w : World) (hr1 : VOk w a1 A1 B1 nl1 cl1 nm1 cm1) :
    Calls Try.prog 3 #[.string ⟨a0.toArray⟩, .agg #[.int .i64 a1.kd, .bool a1.is, .int .i64 a1.n, .string ⟨a1.s.toArray⟩, .slice A1 nl1 cl1, .slice B1 nm1 cm1]] w fun e w' => e = .returned (.bool true) ∧ Below w.heap.size w w' := by
  have b0 : Below w.heap.size w (w.alloc (.cells #[.int .i64 a1.kd, .bool a1.is, .int .i64 a1.n, .string ⟨a1.s.toArray⟩, .slice A1 nl1 cl1, .slice B1 nm1 cm1] 25)) := (Below.refl _ _).alloc (Nat.le_refl _) _
  have HX := Lib.hid (Blk.new w [.int .i64 a1.kd, .bool a1.is, .int .i64 a1.n, .string ⟨a1.s.toArray⟩, .slice A1 nl1 cl1, .slice B1 nm1 cm1] 25)
  have HA := alive_calls (w.alloc (.cells #[.int .i64 a1.kd, .bool a1.is, .int .i64 a1.n, .string ⟨a1.s.toArray⟩, .slice A1 nl1 cl1, .slice B1 nm1 cm1] 25))
  have HB := Lib.hid b0
  have HV := Lib.hid hr1
  obtain ⟨z, hz⟩ : ∃ z, wgV a1 8192 60 = z := ⟨_, rfl⟩
  have HZ := Lib.hid hz
  obtain ⟨rv, hrv⟩ : ∃ rv, risV a1 = rv := ⟨_, rfl⟩
  have HRV := Lib.hid hrv
  obtain ⟨sn, hsn⟩ : ∃ sn, a0.length = sn := ⟨_, rfl⟩
  have hss : (⟨a0.toArray⟩ : ByteArray).size = sn := hsn
  clear hr1 b0 hz hrv hsn
  go_enter Try.func3, Try.ntmps3
  go_wp2_with fail
  refine HA.mono ?_
  rintro e w1 ⟨rfl, b1⟩
  have HB1 := Lib.hid (HB.out.then_ b1)
  have HX1 := Lib.hid (HX.out.later b1)
  have HV1 := Lib.hid (HV.out.below HB1.out)
  clear b1 HA
  by_cases hlen : 1024 < sn
  · have ht : decide ((1024 : Int) < (sn : Int)) = true := by simp; omega
    clear hlen
    go_wp2_with fail
    go_ret
    exact ⟨rfl, HB1.out⟩
  have ht : decide ((1024 : Int) < (sn : Int)) = false := by simp; omega
  clear hlen
  have HW := weigh_calls a1.bulk a1 8192 60 60 w1 A1 B1 nl1 cl1 nm1 cm1 (Nat.le_refl _) (by decide) (by decide) (by decide) (by decide) HV1.out.1 HV1.out.2.1 HV1.out.2.2.1 HV1.out.2.2.2.1 HV1.out.2.2.2.2
  unfold WgtPost at HW
  rw [HZ.out] at HW
  obtain ⟨d0, d1, d2, d3, d4, d5, _⟩ := cells6s HX1.out
  by_cases hz0 : z < 0
  · have hzb : decide (z < 0) = true := by simpa using hz0
    clear hz0
    go_wp2_with fail
    refine HW.mono ?_
    rintro e w2 ⟨⟨_, _, rfl⟩, b2⟩
    have HB2 := Lib.hid (HB1.out.then_ b2)
    clear b2 HW d0 d1 d2 d3 d4 d5
    go_wp2_with fail
    go_ret
    exact ⟨rfl, HB2.out⟩
  have hzb : decide (z < 0) = false := by simpa using hz0
  have HBK := Lib.hid (show a1.bulk ≤ 8192 by have := (wgV_bulk (v := a1) (n := 8192) (d := 60) (by decide) (by rw [HZ.out]; omega)).1; omega)
  clear hz0
  go_wp2_with fail
  refine HW.mono ?_
  rintro e w2 ⟨⟨_, _, rfl⟩, b2⟩
  have HB2 := Lib.hid (HB1.out.then_ b2)
  have HX2 := Lib.hid (HX1.out.later b2)
  have HV2 := Lib.hid (HV1.out.below b2)
  clear b2 HW d0 d1 d2 d3 d4 d5
  obtain ⟨d0, d1, d2, d3, d4, d5, _⟩ := cells6s HX2.out
  have HR := rises_calls a1.bulk a1 w2 A1 B1 nl1 cl1 nm1 cm1 (Nat.le_refl _) HV2.out
  rw [HRV.out] at HR
  cases rv with
  | false =>
    go_wp2_with fail
    refine HR.mono ?_
    rintro e w3 ⟨rfl, b3⟩
    have HB3 := Lib.hid (HB2.out.then_ b3)
    clear b3 HR d0 d1 d2 d3 d4 d5
    go_wp2_with fail
    go_ret
    exact ⟨rfl, HB3.out⟩
  | true =>
    go_wp2_with fail
    refine HR.mono ?_
    rintro e w3 ⟨rfl, b3⟩
    have HB3 := Lib.hid (HB2.out.then_ b3)
    have HX3 := Lib.hid (HX2.out.later b3)
    have HV3 := Lib.hid (HV2.out.below b3)
    clear b3 HR d0 d1 d2 d3 d4 d5
    have hc1 : ∀ W, Below w3.heap.size w3 W → Calls Try.prog 9 #[.string ⟨a0.toArray⟩, .agg #[.int .i64 a1.kd, .bool a1.is, .int .i64 a1.n, .string ⟨a1.s.toArray⟩, .slice A1 nl1 cl1, .slice B1 nm1 cm1]] W (CtPost (dcntJ a0 a1) W) := fun W hW => by
      rw [← cont_doc a0 a1 HRV.out]
      exact content_calls a0 a1 A1 B1 nl1 cl1 nm1 cm1 W (HV3.out.below hW) HRV.out (by have := HBK.out; omega)
    have hc2 : ∀ W, Below w3.heap.size w3 W → Calls Try.prog 10 #[.string ⟨a0.toArray⟩, .agg #[.int .i64 a1.kd, .bool a1.is, .int .i64 a1.n, .string ⟨a1.s.toArray⟩, .slice A1 nl1 cl1, .slice B1 nm1 cm1]] W (CtPost (dcntJ a0 a1) W) := fun W hW =>
      refcontent_calls a0 a1 A1 B1 nl1 cl1 nm1 cm1 W (HV3.out.below hW) (by have := HBK.out; have := ext_bulk a1.m; unfold Jv.bulk at *; omega)
    obtain ⟨u, hu⟩ : ∃ u, dcntJ a0 a1 = u := ⟨_, rfl⟩
    rw [hu] at hc1 hc2
    have hsm : ∀ W (A2 B2 A4 B4 : Option Addr) (nl2 cl2 nm2 cm2 nl4 cl4 nm4 cm4 : Nat), VOk W u A2 B2 nl2 cl2 nm2 cm2 → VOk W u A4 B4 nl4 cl4 nm4 cm4 → Calls Try.prog 8 #[.agg #[.int .i64 u.kd, .bool u.is, .int .i64 u.n, .string ⟨u.s.toArray⟩, .slice A2 nl2 cl2, .slice B2 nm2 cm2], .agg #[.int .i64 u.kd, .bool u.is, .int .i64 u.n, .string ⟨u.s.toArray⟩, .slice A4 nl4 cl4, .slice B4 nm4 cm4]] W (fun e w' => e = .returned (.bool true) ∧ Below W.heap.size W w') := fun W A2 B2 A4 B4 nl2 cl2 nm2 cm2 nl4 cl4 nm4 cm4 h2 h4 => by
      have := same_calls u.bulk u u A2 B2 A4 B4 nl2 cl2 nm2 cm2 nl4 cl4 nm4 cm4 W (Nat.le_refl _) h2 h4
      rw [sameV_refl] at this
      exact this
    have HC1 := Lib.hid hc1
    have HC2 := Lib.hid hc2
    have HSM := Lib.hid hsm
    clear hc1 hc2 hsm hu
    obtain ⟨d0, d1, d2, d3, d4, d5, _⟩ := cells6s HX3.out
    go_upto_region 5 with fail
    go_region_with
      ((first
        | (go_at_call 9; (with_reducible refine (HC1.out _ (by first | exact Below.refl _ _ | exact (Below.refl _ _).drew | exact ((Below.refl _ _).drew).drew)).mono ?_); rintro e w4 ⟨⟨A2, B2, nl2, cl2, nm2, cm2, rfl, hv4⟩, b4⟩; have b34 : Below w3.heap.size w3 w4 := (by first | exact b4 | exact ((Below.refl _ _).drew).then_ b4 | exact ((Below.refl _ _).drew.drew).then_ b4); have hx4 := HX3.out.later b34; obtain ⟨q0, q1, q2, q3, q4, q5, _⟩ := cells6s hx4)
        | (go_at_call 10; (with_reducible refine (HC2.out _ (by first | exact b34 | exact b34.drew | exact b34.drew.drew)).mono ?_); rintro e w5 ⟨⟨A4, B4, nl4, cl4, nm4, cm4, rfl, hv5⟩, b5⟩; have b45 : Below w4.heap.size w4 w5 := (by first | exact b5 | exact ((Below.refl _ _).drew).then_ b5 | exact ((Below.refl _ _).drew.drew).then_ b5); have hv45 := hv4.below b45)
        | (go_at_call 8; (with_reducible refine (HSM.out _ _ _ _ _ _ _ _ _ _ _ _ _ (by first | exact hv45 | exact hv45.drew) (by first | exact hv5 | exact hv5.drew)).mono ?_); rintro e w6 ⟨rfl, b6⟩; have b56 : Below w5.heap.size w5 w6 := (by first | exact b6 | exact ((Below.refl _ _).drew).then_ b6 | exact ((Below.refl _ _).drew.drew).then_ b6))
        | fail))
    all_goals
      have HB6 := Lib.hid (HB3.out.then_ (b34.then_ (b45.then_ b56)))
      clear b34 b45 b56 b4 b5 b6 hv4 hv45 hv5
      go_wp2_with fail
      go_ret
      exact ⟨rfl, HB6.out⟩
theorem redactContents_walk (a0 : ByteArray) (w0 : a0.size ≤ maxLen) (a1 : Jv) (A1 B1 : Option Addr) (nl1 cl1 nm1 cm1 : Nat) {w : World} (hr1 : VOk w a1 A1 B1 nl1 cl1 nm1 cm1) :
    Calls Try.prog 3 #[.string a0, .agg #[.int .i64 a1.kd, .bool a1.is, .int .i64 a1.n, .string ⟨a1.s.toArray⟩, .slice A1 nl1 cl1, .slice B1 nm1 cm1]] w fun e w' => e = .returned (.bool true) ∧ Below w.heap.size w w' := by
  obtain ⟨l0, rfl, _⟩ := str_split a0
  exact contents_walk l0 a1 A1 B1 nl1 cl1 nm1 cm1 w hr1
end Go.Proofs.Ytlfmknebkfnliaa
