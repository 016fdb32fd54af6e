/- Texts put together: JqV. -/
import Derived.Test.YtajkgcmopmpihaaGreatDoorZd80a44aff3
namespace Go.Proofs.YtajkgcmopmpihaaGreatDoor
open Go.ChangeShapes Go.WideShapes Go.ChangeAt Go.RowKit Go.IntWalk
set_option linter.unusedVariables false
set_option maxRecDepth 100000

theorem bs_app (a b : List UInt8) : (⟨a.toArray⟩ : ByteArray) ++ ⟨b.toArray⟩ = ⟨(a ++ b).toArray⟩ := by
  apply ByteArray.ext; simp
theorem num_ok (w : World) {n : Int} (h0 : -9223372036854775808 ≤ n) (h1 : n ≤ 9223372036854775807) : VOk w (numJ n) none none 0 0 0 0 :=
  ⟨⟨rfl, Nat.le_refl _, Nat.zero_le _⟩, ⟨rfl, Nat.le_refl _, Nat.zero_le _⟩, .inl rfl, .inl rfl, (show Fit 2 n [] from ⟨⟨by decide, by decide⟩, ⟨h0, h1⟩, by decide⟩)⟩
theorem two_in (w : World) (q : Bool) {n : Int} (h0 : -9223372036854775808 ≤ n) (h1 : n ≤ 9223372036854775807) : JSl (· < (w.alloc (.cells #[.int .i64 1, .bool q, .int .i64 0, .string ⟨#[]⟩, .slice none 0 0, .slice none 0 0, .int .i64 2, .bool false, .int .i64 n, .string ⟨#[]⟩, .slice none 0 0, .slice none 0 0] 25)).heap.size) (w.alloc (.cells #[.int .i64 1, .bool q, .int .i64 0, .string ⟨#[]⟩, .slice none 0 0, .slice none 0 0, .int .i64 2, .bool false, .int .i64 n, .string ⟨#[]⟩, .slice none 0 0, .slice none 0 0] 25)) false (some ⟨w.heap.size, 0, none⟩) (.cons [] 1 q 0 [] .nil .nil (.cons [] 2 false n [] .nil .nil .nil)) := by
  have hb := Blk.new w [.int .i64 1, .bool q, .int .i64 0, .string ⟨#[]⟩, .slice none 0 0, .slice none 0 0, .int .i64 2, .bool false, .int .i64 n, .string ⟨#[]⟩, .slice none 0 0, .slice none 0 0] 25
  refine .inr ⟨w.heap.size, 0, rfl, hb.lt, rfl, ⟨none, 0, 0, none, 0, 0, fun j v hj => ?_, ⟨rfl, Nat.le_refl _, Nat.zero_le _⟩, ⟨rfl, Nat.le_refl _, Nat.zero_le _⟩, .inl rfl, .inl rfl⟩, (show Fit 1 0 [] from ⟨⟨by decide, by decide⟩, ⟨by decide, by decide⟩, by decide⟩), rfl, ⟨none, 0, 0, none, 0, 0, fun j v hj => ?_, ⟨rfl, Nat.le_refl _, Nat.zero_le _⟩, ⟨rfl, Nat.le_refl _, Nat.zero_le _⟩, .inl rfl, .inl rfl⟩, (show Fit 2 n [] from ⟨⟨by decide, by decide⟩, ⟨h0, h1⟩, by decide⟩), trivial⟩
  · have hj6 : j < 6 := (List.getElem?_eq_some_iff.1 hj).1
    refine hb.cell ?_
    match j, hj6, hj with
    | 0, _, hj => exact hj
    | 1, _, hj => exact hj
    | 2, _, hj => exact hj
    | 3, _, hj => exact hj
    | 4, _, hj => exact hj
    | 5, _, hj => exact hj
  · have hj6 : j < 6 := (List.getElem?_eq_some_iff.1 hj).1
    refine hb.cell ?_
    match j, hj6, hj with
    | 0, _, hj => exact hj
    | 1, _, hj => exact hj
    | 2, _, hj => exact hj
    | 3, _, hj => exact hj
    | 4, _, hj => exact hj
    | 5, _, hj => exact hj
set_option maxHeartbeats 8000000 in
theorem jsonNumbers_walk (n : Int) (wn : (Lit.int .i64 n).wf = true) {w : World} (hT : TabP w) :
    Calls Tryz.prog 4 #[.int .i64 n] w fun e w' => e = .returned (.bool true) ∧ Below w.heap.size w w' := by
  have hn : -9223372036854775808 ≤ n ∧ n ≤ 9223372036854775807 := by simpa [Lit.wf, IntKind.min, IntKind.max, IntKind.signed, IntKind.bits] using wn
  have HV := Lib.hid hT
  have HNN := Lib.hid hn
  clear hT wn hn
  go_enter Tryz.func4, Tryz.ntmps4
  go_wp2_with fail
  refine (parse_at (s := [45, 55]) w par_m7 HV.out.2 (by decide)).mono ?_
  rintro e w1 ⟨A1, B1, nl1, cl1, nm1, cm1, rfl, hv1, _, b1⟩
  have H1 := Lib.hid (b1.then_ ((Below.refl _ _).alloc (Nat.le_refl _) (.cells #[.int .i64 2, .bool false, .int .i64 (-7), .string ⟨([] : List UInt8).toArray⟩, .slice A1 nl1 cl1, .slice B1 nm1 cm1] 25)))
  clear b1 hv1
  go_wp2_with fail
  refine (jnum_calls n _).mono ?_
  rintro e w2 ⟨rfl, b2⟩
  have H2 := Lib.hid (H1.out.then_ b2)
  clear b2 H1
  unfold bareV
  go_wp2_with fail
  by_cases hr : n < -9007199254740991 ∨ 9007199254740991 < n
  · refine (canon_at (v := numJ n) (num_ok w2 HNN.out.1 HNN.out.2) (HV.out.below H2.out).1 (can_num_no n hr)).mono ?_
    rintro e w3 ⟨rfl, b3⟩
    have H3 := Lib.hid (H2.out.then_ b3)
    clear b3 H2
    by_cases hg : 9007199254740991 < n
    · have g1 : decide ((9007199254740991 : Int) < n) = true := by simpa using hg
      clear hr
      go_wp2_with fail
      go_ret
      exact ⟨rfl, H3.out⟩
    · have hl : n < -9007199254740991 := hr.resolve_right hg
      have g1 : decide ((9007199254740991 : Int) < n) = false := by simpa using hg
      have g2 : decide (n < (-9007199254740991 : Int)) = true := by simpa using hl
      clear hr
      go_wp2_with fail
      go_ret
      exact ⟨rfl, H3.out⟩
  · have h0 : -9007199254740991 ≤ n := by omega
    have h1 : n ≤ 9007199254740991 := by omega
    refine (canon_at (v := numJ n) (num_ok w2 HNN.out.1 HNN.out.2) (HV.out.below H2.out).1 (can_num n h0 h1)).mono ?_
    rintro e w3 ⟨rfl, b3⟩
    have H3 := Lib.hid (H2.out.then_ b3)
    have HR := Lib.hid (And.intro h0 h1)
    have g0 : ¬ (9007199254740991 : Int) < n := by omega
    have g1 : decide ((9007199254740991 : Int) < n) = false := by simpa using g0
    have g3 : ¬ n < (-9007199254740991 : Int) := by omega
    have g2 : decide (n < (-9007199254740991 : Int)) = false := by simpa using g3
    obtain ⟨t, ht⟩ : ∃ t, Lib.itoa n = t := ⟨_, rfl⟩
    have HTT := Lib.hid ht
    have hl21 : t.length ≤ 21 := by rw [← ht]; exact itoaN_le n h0 h1
    rw [ht]
    clear b3 H2 hr h0 h1 ht
    obtain ⟨q, hq⟩ : ∃ q, decide ((0 : Int) < n) = q := ⟨_, rfl⟩
    have HQ := Lib.hid hq
    go_wp2_with fail
    refine (jbool_calls q _).mono ?_
    rintro e w4 ⟨rfl, b4⟩
    have H4 := Lib.hid (H3.out.then_ b4)
    clear b4
    unfold bareV
    go_wp2_with fail
    refine (jnum_calls n _).mono ?_
    rintro e w5 ⟨rfl, b5⟩
    have H5 := Lib.hid (H4.out.then_ b5)
    clear b5 H4
    unfold bareV
    go_wp2_with fail
    have bA : Below w5.heap.size w5 (w5.alloc (.cells #[.int .i64 1, .bool q, .int .i64 0, .string ⟨#[]⟩, .slice none 0 0, .slice none 0 0, .int .i64 2, .bool false, .int .i64 n, .string ⟨#[]⟩, .slice none 0 0, .slice none 0 0] 25)) := (Below.refl _ _).alloc (Nat.le_refl _) _
    refine (jlist_calls (· < (w5.alloc (.cells #[.int .i64 1, .bool q, .int .i64 0, .string ⟨#[]⟩, .slice none 0 0, .slice none 0 0, .int .i64 2, .bool false, .int .i64 n, .string ⟨#[]⟩, .slice none 0 0, .slice none 0 0] 25)).heap.size) (some ⟨w5.heap.size, 0, none⟩) 2 2 _ (w5.alloc (.cells #[.int .i64 1, .bool q, .int .i64 0, .string ⟨#[]⟩, .slice none 0 0, .slice none 0 0, .int .i64 2, .bool false, .int .i64 n, .string ⟨#[]⟩, .slice none 0 0, .slice none 0 0] 25)) (fun b hb => hb) rfl (by decide) (two_in w5 q HNN.out.1 HNN.out.2)).mono ?_
    rintro e w6 ⟨A6, c6, rfl, hv6, b6⟩
    have H6 := Lib.hid (And.intro ((H5.out.then_ bA).then_ b6) (show VOk w6 (twoJ q n) A6 none 2 c6 0 0 from hv6))
    clear bA b6 hv6 H5
    go_wp2_with fail
    refine (canon_at (v := twoJ q n) H6.out.2 (HV.out.below H6.out.1).1 (can_two q n HR.out.1 HR.out.2)).mono ?_
    rintro e w7 ⟨rfl, b7⟩
    have H7 := Lib.hid (H6.out.1.then_ b7)
    clear b7 H6
    rw [HTT.out]
    have e3 : ((⟨#[32]⟩ : ByteArray) ++ ⟨t.toArray⟩ ++ ⟨#[32]⟩) = ⟨(32 :: (t ++ [32])).toArray⟩ := by
      have := bs_app ([32] ++ t) [32]
      rw [← bs_app] at this
      rw [show (32 :: (t ++ [32])) = [32] ++ t ++ [32] by simp]
      exact this
    have e4 : ((⟨t.toArray⟩ : ByteArray) ++ ⟨#[46, 48]⟩) = ⟨(t ++ [46, 48]).toArray⟩ := bs_app t [46, 48]
    have e5 : ((⟨#[48]⟩ : ByteArray) ++ ⟨t.toArray⟩) = ⟨(48 :: t).toArray⟩ := bs_app [48] t
    cases q with
    | true =>
      have hq1 : (0 : Int) < n := by simpa using hq
      have hq2 : decide (n ≤ (0 : Int)) = false := by simp; omega
      have e1 : ((⟨#[91, 116, 114, 117, 101, 44]⟩ : ByteArray) ++ ⟨t.toArray⟩ ++ ⟨#[93]⟩) = ⟨(91 :: (boolT true ++ 44 :: (t ++ [93]))).toArray⟩ := by
        have := bs_app ([91, 116, 114, 117, 101, 44] ++ t) [93]
        rw [← bs_app] at this
        rw [show (91 :: (boolT true ++ 44 :: (t ++ [93]))) = [91, 116, 114, 117, 101, 44] ++ t ++ [93] by simp [boolT]]
        exact this
      have e2 : ((⟨#[91, 102, 97, 108, 115, 101, 44]⟩ : ByteArray) ++ ⟨t.toArray⟩ ++ ⟨#[93]⟩) = (⟨(91 :: (boolT false ++ 44 :: (t ++ [93]))).toArray⟩ : ByteArray) := by
        have := bs_app ([91, 102, 97, 108, 115, 101, 44] ++ t) [93]
        rw [← bs_app] at this
        rw [show (91 :: (boolT false ++ 44 :: (t ++ [93]))) = [91, 102, 97, 108, 115, 101, 44] ++ t ++ [93] by simp [boolT]]
        exact this
      have hb : ((⟨(91 :: (boolT true ++ 44 :: (t ++ [93]))).toArray⟩ : ByteArray) == (⟨(91 :: (boolT false ++ 44 :: (t ++ [93]))).toArray⟩ : ByteArray)) = false := by
        show ((91 :: (boolT true ++ 44 :: (t ++ [93]))).toArray == (91 :: (boolT false ++ 44 :: (t ++ [93]))).toArray) = false
        simp [boolT]
      have hs : ((⟨(91 :: (boolT true ++ 44 :: (t ++ [93]))).toArray⟩ : ByteArray) == (⟨(91 :: (boolT true ++ 44 :: (t ++ [93]))).toArray⟩ : ByteArray)) = true := by
        show ((91 :: (boolT true ++ 44 :: (t ++ [93]))).toArray == (91 :: (boolT true ++ 44 :: (t ++ [93]))).toArray) = true
        simp
      have hp : ¬ (⟨(91 :: (boolT true ++ 44 :: (t ++ [93]))).toArray⟩ : ByteArray) = (⟨(91 :: (boolT false ++ 44 :: (t ++ [93]))).toArray⟩ : ByteArray) := fun e => by rw [e] at hs hb; rw [hb] at hs; cases hs
      obtain ⟨YA, hYA⟩ : ∃ YA, (⟨(91 :: (boolT false ++ 44 :: (t ++ [93]))).toArray⟩ : ByteArray) = YA := ⟨_, rfl⟩
      obtain ⟨XA, hXA⟩ : ∃ XA, (⟨(91 :: (boolT true ++ 44 :: (t ++ [93]))).toArray⟩ : ByteArray) = XA := ⟨_, rfl⟩
      rw [hYA] at e2 hb hp
      rw [hXA] at e1 hb hs hp ⊢
      have hb2 : (XA != YA) = true := by show (!(XA == YA)) = true; rw [hb]; rfl
      have hs2 : (XA != XA) = false := by show (!(XA == XA)) = false; rw [hs]; rfl
      have hp3 : ¬ XA.toList = YA.toList := fun e => hp (bytes_inj (by rw [← ByteArray.toList_eq, ← ByteArray.toList_eq]; exact e))
      have hb3 : (XA.toList == YA.toList) = false := beq_eq_false_iff_ne.2 hp3
      have hb4 : (XA.toList != YA.toList) = true := by show (!(XA.toList == YA.toList)) = true; rw [hb3]; rfl
      clear hXA hYA
      go_wp2_with fail
      refine (parse_at (s := 32 :: (t ++ [32])) (v := numJ n) w7 (by rw [← HTT.out]; exact par_sp n HR.out.1 HR.out.2) (HV.out.below H7.out).2 (by simp; omega)).mono ?_
      rintro e w8 ⟨A8, B8, nl8, cl8, nm8, cm8, rfl, _, _, b8⟩
      have k8 := Blk.new w8 [.int .i64 2, .bool false, .int .i64 n, .string ⟨#[]⟩, .slice A8 nl8 cl8, .slice B8 nm8 cm8] 25
      have H8 := Lib.hid (And.intro ((H7.out.then_ b8).then_ ((Below.refl _ _).alloc (Nat.le_refl _) (.cells #[.int .i64 2, .bool false, .int .i64 n, .string ⟨#[]⟩, .slice A8 nl8 cl8, .slice B8 nm8 cm8] 25))) k8)
      clear b8 k8
      go_wp2_with fail
      refine (parse_at (s := t ++ [46, 48]) (v := nullJ) _ (by rw [← HTT.out]; exact par_dot n HR.out.1 HR.out.2) (HV.out.below H8.out.1).2 (by simp; omega)).mono ?_
      rintro e w9 ⟨A9, B9, nl9, cl9, nm9, cm9, rfl, _, _, b9⟩
      have H9 := Lib.hid (And.intro ((H8.out.1.then_ b9).then_ ((Below.refl _ _).alloc (Nat.le_refl _) (.cells #[.int .i64 0, .bool false, .int .i64 0, .string ⟨#[]⟩, .slice A9 nl9 cl9, .slice B9 nm9 cm9] 25))) ((H8.out.2.later b9).later ((Below.refl _ _).alloc (Nat.le_refl _) (.cells #[.int .i64 0, .bool false, .int .i64 0, .string ⟨#[]⟩, .slice A9 nl9 cl9, .slice B9 nm9 cm9] 25))))
      clear b9 H8
      go_wp2_with fail
      refine (parse_at (s := 48 :: t) (v := nullJ) _ (by rw [← HTT.out]; exact par_zero n HR.out.1 HR.out.2) (HV.out.below H9.out.1).2 (by simp; omega)).mono ?_
      rintro e w10 ⟨A10, B10, nl10, cl10, nm10, cm10, rfl, _, _, b10⟩
      have k10 := (H9.out.2.later b10)
      have hlt : w8.heap.size < w10.heap.size := k10.lt
      have hne : ¬ w8.heap.size = w10.heap.size := by omega
      have H10 := Lib.hid ((H9.out.1.then_ b10).then_ ((Below.refl _ _).alloc (Nat.le_refl _) (.cells #[.int .i64 0, .bool false, .int .i64 0, .string ⟨#[]⟩, .slice A10 nl10 cl10, .slice B10 nm10 cm10] 25)))
      obtain ⟨d0, d1, d2, d3, d4, d5, _⟩ := cells6s k10
      clear b10 H9 k10
      go_wp2_with fail
      go_ret
      exact ⟨rfl, H10.out⟩
    | false =>
      have hq1 : ¬ (0 : Int) < n := by simpa using hq
      have hq2 : decide (n ≤ (0 : Int)) = true := by simp; omega
      have e1 : ((⟨#[91, 102, 97, 108, 115, 101, 44]⟩ : ByteArray) ++ ⟨t.toArray⟩ ++ ⟨#[93]⟩) = ⟨(91 :: (boolT false ++ 44 :: (t ++ [93]))).toArray⟩ := by
        have := bs_app ([91, 102, 97, 108, 115, 101, 44] ++ t) [93]
        rw [← bs_app] at this
        rw [show (91 :: (boolT false ++ 44 :: (t ++ [93]))) = [91, 102, 97, 108, 115, 101, 44] ++ t ++ [93] by simp [boolT]]
        exact this
      have e2 : ((⟨#[91, 116, 114, 117, 101, 44]⟩ : ByteArray) ++ ⟨t.toArray⟩ ++ ⟨#[93]⟩) = (⟨(91 :: (boolT true ++ 44 :: (t ++ [93]))).toArray⟩ : ByteArray) := by
        have := bs_app ([91, 116, 114, 117, 101, 44] ++ t) [93]
        rw [← bs_app] at this
        rw [show (91 :: (boolT true ++ 44 :: (t ++ [93]))) = [91, 116, 114, 117, 101, 44] ++ t ++ [93] by simp [boolT]]
        exact this
      have hb : ((⟨(91 :: (boolT false ++ 44 :: (t ++ [93]))).toArray⟩ : ByteArray) == (⟨(91 :: (boolT true ++ 44 :: (t ++ [93]))).toArray⟩ : ByteArray)) = false := by
        show ((91 :: (boolT false ++ 44 :: (t ++ [93]))).toArray == (91 :: (boolT true ++ 44 :: (t ++ [93]))).toArray) = false
        simp [boolT]
      have hs : ((⟨(91 :: (boolT false ++ 44 :: (t ++ [93]))).toArray⟩ : ByteArray) == (⟨(91 :: (boolT false ++ 44 :: (t ++ [93]))).toArray⟩ : ByteArray)) = true := by
        show ((91 :: (boolT false ++ 44 :: (t ++ [93]))).toArray == (91 :: (boolT false ++ 44 :: (t ++ [93]))).toArray) = true
        simp
      have hp : ¬ (⟨(91 :: (boolT false ++ 44 :: (t ++ [93]))).toArray⟩ : ByteArray) = (⟨(91 :: (boolT true ++ 44 :: (t ++ [93]))).toArray⟩ : ByteArray) := fun e => by rw [e] at hs hb; rw [hb] at hs; cases hs
      obtain ⟨YA, hYA⟩ : ∃ YA, (⟨(91 :: (boolT true ++ 44 :: (t ++ [93]))).toArray⟩ : ByteArray) = YA := ⟨_, rfl⟩
      obtain ⟨XA, hXA⟩ : ∃ XA, (⟨(91 :: (boolT false ++ 44 :: (t ++ [93]))).toArray⟩ : ByteArray) = XA := ⟨_, rfl⟩
      rw [hYA] at e2 hb hp
      rw [hXA] at e1 hb hs hp ⊢
      have hb2 : (XA != YA) = true := by show (!(XA == YA)) = true; rw [hb]; rfl
      have hs2 : (XA != XA) = false := by show (!(XA == XA)) = false; rw [hs]; rfl
      have hp3 : ¬ XA.toList = YA.toList := fun e => hp (bytes_inj (by rw [← ByteArray.toList_eq, ← ByteArray.toList_eq]; exact e))
      have hb3 : (XA.toList == YA.toList) = false := beq_eq_false_iff_ne.2 hp3
      have hb4 : (XA.toList != YA.toList) = true := by show (!(XA.toList == YA.toList)) = true; rw [hb3]; rfl
      clear hXA hYA
      go_wp2_with fail
      refine (parse_at (s := 32 :: (t ++ [32])) (v := numJ n) w7 (by rw [← HTT.out]; exact par_sp n HR.out.1 HR.out.2) (HV.out.below H7.out).2 (by simp; omega)).mono ?_
      rintro e w8 ⟨A8, B8, nl8, cl8, nm8, cm8, rfl, _, _, b8⟩
      have k8 := Blk.new w8 [.int .i64 2, .bool false, .int .i64 n, .string ⟨#[]⟩, .slice A8 nl8 cl8, .slice B8 nm8 cm8] 25
      have H8 := Lib.hid (And.intro ((H7.out.then_ b8).then_ ((Below.refl _ _).alloc (Nat.le_refl _) (.cells #[.int .i64 2, .bool false, .int .i64 n, .string ⟨#[]⟩, .slice A8 nl8 cl8, .slice B8 nm8 cm8] 25))) k8)
      clear b8 k8
      go_wp2_with fail
      refine (parse_at (s := t ++ [46, 48]) (v := nullJ) _ (by rw [← HTT.out]; exact par_dot n HR.out.1 HR.out.2) (HV.out.below H8.out.1).2 (by simp; omega)).mono ?_
      rintro e w9 ⟨A9, B9, nl9, cl9, nm9, cm9, rfl, _, _, b9⟩
      have H9 := Lib.hid (And.intro ((H8.out.1.then_ b9).then_ ((Below.refl _ _).alloc (Nat.le_refl _) (.cells #[.int .i64 0, .bool false, .int .i64 0, .string ⟨#[]⟩, .slice A9 nl9 cl9, .slice B9 nm9 cm9] 25))) ((H8.out.2.later b9).later ((Below.refl _ _).alloc (Nat.le_refl _) (.cells #[.int .i64 0, .bool false, .int .i64 0, .string ⟨#[]⟩, .slice A9 nl9 cl9, .slice B9 nm9 cm9] 25))))
      clear b9 H8
      go_wp2_with fail
      refine (parse_at (s := 48 :: t) (v := nullJ) _ (by rw [← HTT.out]; exact par_zero n HR.out.1 HR.out.2) (HV.out.below H9.out.1).2 (by simp; omega)).mono ?_
      rintro e w10 ⟨A10, B10, nl10, cl10, nm10, cm10, rfl, _, _, b10⟩
      have k10 := (H9.out.2.later b10)
      have hlt : w8.heap.size < w10.heap.size := k10.lt
      have hne : ¬ w8.heap.size = w10.heap.size := by omega
      have H10 := Lib.hid ((H9.out.1.then_ b10).then_ ((Below.refl _ _).alloc (Nat.le_refl _) (.cells #[.int .i64 0, .bool false, .int .i64 0, .string ⟨#[]⟩, .slice A10 nl10 cl10, .slice B10 nm10 cm10] 25)))
      obtain ⟨d0, d1, d2, d3, d4, d5, _⟩ := cells6s k10
      clear b10 H9 k10
      go_wp2_with fail
      go_ret
      exact ⟨rfl, H10.out⟩
end Go.Proofs.YtajkgcmopmpihaaGreatDoor
