/- Layer 14: levels by users and by types. -/
import Derived.Test.YtmfefeemkhncfaaDoorPwG
namespace Go.Proofs.YtmfefeemkhncfaaDoor
open Go.ChangeShapes Go.WideShapes Go.ChangeAt Go.RowKit Go.IntWalk
set_option linter.unusedVariables false
set_option maxRecDepth 100000

theorem gr_ris {v : Jv} (h : grB v = false) : risV v = true := by
  unfold grB at h
  simp only [Bool.or_eq_false_iff, Bool.not_eq_false'] at h
  exact h.2
theorem memF_ris {v : Jv} (h : risV v = true) (key : List UInt8) : risV (memF v key) = true := by
  by_cases h5 : v.kd = 5
  · rw [memF_pos h5 (rise_top h)]
    split
    · rename_i hf
      unfold risV at h
      simp only [Bool.and_eq_true] at h
      exact ris_fall true v.m none _ h.1 (found_lt hf)
    · rfl
  · rw [memF_no h5]; rfl
/-- A member that is a map; the empty one, if it is none. -/
def tabF (v : Jv) (key : List UInt8) : Jv := if v.kd = 5 ∧ ((v.m.findV key).getD nullV).kd = 5 then (v.m.findV key).getD nullV else ⟨5, false, 0, [], .nil, .nil⟩
theorem told_tab (v : Jv) (key user : List UInt8) : toldF (tabF v key) user = toldF (memF v key) user := by
  unfold tabF
  by_cases h : v.kd = 5 ∧ ((v.m.findV key).getD nullV).kd = 5
  · rw [if_pos h]; unfold memF; rw [if_pos h.1]
  · rw [if_neg h]
    have e1 : toldF ⟨5, false, 0, [], .nil, .nil⟩ user = none := rfl
    rw [e1]
    by_cases h5 : v.kd = 5
    · have hx : ¬ ((v.m.findV key).getD nullV).kd = 5 := fun e => h ⟨h5, e⟩
      have : memF v key = (v.m.findV key).getD nullV := by unfold memF; rw [if_pos h5]
      rw [this]; unfold toldF; rw [memF_no hx]; rfl
    · rw [memF_no h5]; rfl
theorem empty_ok (w : World) : VOk w ⟨5, false, 0, [], .nil, .nil⟩ none none 0 0 0 0 := ⟨⟨rfl, Nat.le_refl _, by decide⟩, ⟨rfl, Nat.le_refl _, by decide⟩, .inl rfl, .inl rfl, by unfold Fit; decide⟩
set_option maxHeartbeats 4000000 in
theorem reftable_calls (v : Jv) (A B : Option Addr) (nl cl nm cm : Nat) (key : List UInt8) (w : World) (hv : VOk w v A B nl cl nm cm) :
    Calls Tryd.prog 25 #[.agg #[.int .i64 v.kd, .bool v.is, .int .i64 v.n, .string ⟨v.s.toArray⟩, .slice A nl cl, .slice B nm cm], .string ⟨key.toArray⟩] w (VRes (tabF v key) w) := by
  have hb2 : Below w.heap.size w ((w.alloc (.cells #[.int .i64 v.kd, .bool v.is, .int .i64 v.n, .string ⟨v.s.toArray⟩, .slice A nl cl, .slice B nm cm] 25)).alloc (.cells #[.int .i64 0, .bool false, .int .i64 0, .string ⟨#[]⟩, .slice none 0 0, .slice none 0 0] 25)) := ((Below.refl _ _).alloc (Nat.le_refl _) _).alloc (by simp) _
  have hm := reffind_calls w.heap.size v.m B nm cm key _ hv.2.1 hb2.size (hv.2.2.2.1.blw hb2)
  have hz := Blk.new (w.alloc (.cells #[.int .i64 v.kd, .bool v.is, .int .i64 v.n, .string ⟨v.s.toArray⟩, .slice A nl cl, .slice B nm cm] 25)) [.int .i64 0, .bool false, .int .i64 0, .string ⟨#[]⟩, .slice none 0 0, .slice none 0 0] 25
  rw [show (w.alloc (.cells #[.int .i64 v.kd, .bool v.is, .int .i64 v.n, .string ⟨v.s.toArray⟩, .slice A nl cl, .slice B nm cm] 25)).heap.size = w.heap.size + 1 by simp] at hz
  have hx := (Blk.new w [.int .i64 v.kd, .bool v.is, .int .i64 v.n, .string ⟨v.s.toArray⟩, .slice A nl cl, .slice B nm cm] 25).alloc (.cells #[.int .i64 0, .bool false, .int .i64 0, .string ⟨#[]⟩, .slice none 0 0, .slice none 0 0] 25)
  obtain ⟨o, ho⟩ : ∃ o, v.m.findV key = o := ⟨_, rfl⟩
  rw [ho] at hm
  have HT := Lib.hid (show tabF v key = if v.kd = 5 ∧ (o.getD nullV).kd = 5 then o.getD nullV else ⟨5, false, 0, [], .nil, .nil⟩ by unfold tabF; rw [ho])
  obtain ⟨mv, hmv⟩ : ∃ mv, o.getD nullV = mv := ⟨_, rfl⟩
  unfold FRes at hm
  rw [hmv] at HT hm
  obtain ⟨ob, hob⟩ : ∃ ob, o.isSome = ob := ⟨_, rfl⟩
  rw [hob] at hm
  have HB := Lib.hid hb2
  have HZ := Lib.hid hz
  have HX := Lib.hid hx
  have HVV := Lib.hid hv
  clear hb2 hz hx hv ho hmv hob
  by_cases h55 : v.kd = 5 ∧ mv.kd = 5
  · have k1 : (v.kd != 5) = false := by rw [h55.1]; rfl
    have k2 : (mv.kd != 5) = false := by rw [h55.2]; rfl
    have HT2 := Lib.hid (show tabF v key = mv by rw [HT.out, if_pos h55])
    clear h55
    go_enter Tryd.func25, Tryd.ntmps25
    go_wp2_with fail
    refine hm.mono ?_
    rintro e w1 ⟨⟨A1, B1, nl1, cl1, nm1, cm1, rfl, hv1⟩, b1⟩
    have HV1 := Lib.hid hv1
    have HB1 := Lib.hid (HB.out.trans (b1.mono (by simp; omega)))
    have HB1a := Lib.hid (show Below w.heap.size w1 (w1.alloc (.cells #[.int .i64 mv.kd, .bool mv.is, .int .i64 mv.n, .string ⟨mv.s.toArray⟩, .slice A1 nl1 cl1, .slice B1 nm1 cm1] 25)) from (Below.refl _ _).alloc HB1.out.size _)
    have HB2 := Lib.hid (HB1.out.alloc HB1.out.size (.cells #[.int .i64 mv.kd, .bool mv.is, .int .i64 mv.n, .string ⟨mv.s.toArray⟩, .slice A1 nl1 cl1, .slice B1 nm1 cm1] 25))
    have hz2 := (HZ.out.later b1).alloc (.cells #[.int .i64 mv.kd, .bool mv.is, .int .i64 mv.n, .string ⟨mv.s.toArray⟩, .slice A1 nl1 cl1, .slice B1 nm1 cm1] 25)
    have HZ2 := Lib.hid hz2
    obtain ⟨c0, c1, c2, c3, c4, c5, g0, g1, g2, g3, g4, g5⟩ := cells6 hz2
    obtain ⟨x0, _, _, _, _, x5, _⟩ := cells6 ((HX.out.later b1).alloc (.cells #[.int .i64 mv.kd, .bool mv.is, .int .i64 mv.n, .string ⟨mv.s.toArray⟩, .slice A1 nl1 cl1, .slice B1 nm1 cm1] 25))
    clear b1 hm hv1 hz2
    go_wp2_with fail
    rw [HT2.out]
    exact bodyPost_ret (res_cell rfl _ ⟨w.heap.size + 1, 0, none⟩ _ _ rfl (Blk.load (blk6 HZ2.out) _ Tryd.underlying25 rfl size_val)) rfl ⟨⟨A1, B1, nl1, cl1, nm1, cm1, rfl, VOkB.ok (VOkB.blw HV1.out (below6 HB1a.out (by omega))) (Nat.le_trans HB1.out.size (below6 HB1a.out (by omega)).size)⟩, below6 HB2.out (by omega)⟩
  · have HT2 := Lib.hid (show tabF v key = ⟨5, false, 0, [], .nil, .nil⟩ by rw [HT.out, if_neg h55])
    have hor : v.kd ≠ 5 ∨ (v.kd = 5 ∧ mv.kd ≠ 5) := by
      by_cases h5 : v.kd = 5
      · exact .inr ⟨h5, fun e => h55 ⟨h5, e⟩⟩
      · exact .inl h5
    clear h55
    rcases hor with h5 | ⟨h5, h6⟩
    · have k1 : (v.kd != 5) = true := by rw [bne_iff_ne]; exact h5
      clear h5
      go_enter Tryd.func25, Tryd.ntmps25
      go_wp2_with fail
      refine hm.mono ?_
      rintro e w1 ⟨⟨A1, B1, nl1, cl1, nm1, cm1, rfl, hv1⟩, b1⟩
      have HV1 := Lib.hid hv1
      have HB1 := Lib.hid (HB.out.trans (b1.mono (by simp; omega)))
      have HB1a := Lib.hid (show Below w.heap.size w1 (w1.alloc (.cells #[.int .i64 mv.kd, .bool mv.is, .int .i64 mv.n, .string ⟨mv.s.toArray⟩, .slice A1 nl1 cl1, .slice B1 nm1 cm1] 25)) from (Below.refl _ _).alloc HB1.out.size _)
      have HB2 := Lib.hid (HB1.out.alloc HB1.out.size (.cells #[.int .i64 mv.kd, .bool mv.is, .int .i64 mv.n, .string ⟨mv.s.toArray⟩, .slice A1 nl1 cl1, .slice B1 nm1 cm1] 25))
      have hz2 := (HZ.out.later b1).alloc (.cells #[.int .i64 mv.kd, .bool mv.is, .int .i64 mv.n, .string ⟨mv.s.toArray⟩, .slice A1 nl1 cl1, .slice B1 nm1 cm1] 25)
      have HZ2 := Lib.hid hz2
      obtain ⟨c0, c1, c2, c3, c4, c5, g0, g1, g2, g3, g4, g5⟩ := cells6 hz2
      obtain ⟨x0, _, _, _, _, x5, _⟩ := cells6 ((HX.out.later b1).alloc (.cells #[.int .i64 mv.kd, .bool mv.is, .int .i64 mv.n, .string ⟨mv.s.toArray⟩, .slice A1 nl1 cl1, .slice B1 nm1 cm1] 25))
      clear b1 hm hv1 hz2
      go_wp2_with fail
      rw [HT2.out]
      exact bodyPost_ret (res_cell rfl _ ⟨w.heap.size + 1, 0, none⟩ _ _ rfl (Blk.load (blk6 HZ2.out) _ Tryd.underlying25 rfl size_val)) rfl ⟨⟨none, none, 0, 0, 0, 0, rfl, empty_ok _⟩, below6 HB2.out (by omega)⟩
    · have k1 : (v.kd != 5) = false := by rw [h5]; rfl
      have k2 : (mv.kd != 5) = true := by rw [bne_iff_ne]; exact h6
      clear h5 h6
      go_enter Tryd.func25, Tryd.ntmps25
      go_wp2_with fail
      refine hm.mono ?_
      rintro e w1 ⟨⟨A1, B1, nl1, cl1, nm1, cm1, rfl, hv1⟩, b1⟩
      have HV1 := Lib.hid hv1
      have HB1 := Lib.hid (HB.out.trans (b1.mono (by simp; omega)))
      have HB1a := Lib.hid (show Below w.heap.size w1 (w1.alloc (.cells #[.int .i64 mv.kd, .bool mv.is, .int .i64 mv.n, .string ⟨mv.s.toArray⟩, .slice A1 nl1 cl1, .slice B1 nm1 cm1] 25)) from (Below.refl _ _).alloc HB1.out.size _)
      have HB2 := Lib.hid (HB1.out.alloc HB1.out.size (.cells #[.int .i64 mv.kd, .bool mv.is, .int .i64 mv.n, .string ⟨mv.s.toArray⟩, .slice A1 nl1 cl1, .slice B1 nm1 cm1] 25))
      have hz2 := (HZ.out.later b1).alloc (.cells #[.int .i64 mv.kd, .bool mv.is, .int .i64 mv.n, .string ⟨mv.s.toArray⟩, .slice A1 nl1 cl1, .slice B1 nm1 cm1] 25)
      have HZ2 := Lib.hid hz2
      obtain ⟨c0, c1, c2, c3, c4, c5, g0, g1, g2, g3, g4, g5⟩ := cells6 hz2
      obtain ⟨x0, _, _, _, _, x5, _⟩ := cells6 ((HX.out.later b1).alloc (.cells #[.int .i64 mv.kd, .bool mv.is, .int .i64 mv.n, .string ⟨mv.s.toArray⟩, .slice A1 nl1 cl1, .slice B1 nm1 cm1] 25))
      clear b1 hm hv1 hz2
      go_wp2_with fail
      rw [HT2.out]
      exact bodyPost_ret (res_cell rfl _ ⟨w.heap.size + 1, 0, none⟩ _ _ rfl (Blk.load (blk6 HZ2.out) _ Tryd.underlying25 rfl size_val)) rfl ⟨⟨none, none, 0, 0, 0, 0, rfl, empty_ok _⟩, below6 HB2.out (by omega)⟩
end Go.Proofs.YtmfefeemkhncfaaDoor
