/- Layer 14: levels by users and by types, walked; the laws PowerUsers, PowerSends. -/
import Derived.Test.YtmfefeemkhncfaaDoorPwH
namespace Go.Proofs.YtmfefeemkhncfaaDoor
open Go.ChangeShapes Go.WideShapes Go.ChangeAt Go.RowKit Go.IntWalk
set_option linter.unusedVariables false
set_option maxRecDepth 100000

set_option maxHeartbeats 4000000 in
theorem user_calls (v : Jv) (A B : Option Addr) (nl cl nm cm : Nat) (creator user : List UInt8) (w : World) (hv : VOk w v A B nl cl nm cm) (hr : risV v = true) (hL : LonT w) :
    Calls Tryd.prog 17 #[.agg #[.int .i64 v.kd, .bool v.is, .int .i64 v.n, .string ⟨v.s.toArray⟩, .slice A nl cl, .slice B nm cm], .string ⟨creator.toArray⟩, .string ⟨user.toArray⟩] w fun e w' => e = .returned (.int .i64 (userF v creator user)) ∧ Below w.heap.size w w' := by
  have hb1 : Below w.heap.size w (w.alloc (.cells #[.int .i64 v.kd, .bool v.is, .int .i64 v.n, .string ⟨v.s.toArray⟩, .slice A nl cl, .slice B nm cm] 25)) := (Below.refl _ _).alloc (Nat.le_refl _) _
  have HB := Lib.hid hb1
  have HX := Lib.hid (Blk.new w [.int .i64 v.kd, .bool v.is, .int .i64 v.n, .string ⟨v.s.toArray⟩, .slice A nl cl, .slice B nm cm] 25)
  have HV := Lib.hid (And.intro hv (And.intro hr hL))
  by_cases h5 : v.kd = 5
  · have k1 : (v.kd != 5) = false := by rw [h5]; rfl
    have hm := member_calls v A B nl cl nm cm usersK _ (hv.below hb1) (rise_top hr)
    obtain ⟨mv, hmv⟩ : ∃ mv, memF v usersK = mv := ⟨_, rfl⟩
    have HMR := Lib.hid (show risV mv = true by rw [← hmv]; exact memF_ris hr _)
    rw [hmv] at hm
    have HT := Lib.hid (show userF v creator user = (toldF mv user).getD (levelF v [117, 115, 101, 114, 115, 95, 100, 101, 102, 97, 117, 108, 116]) by unfold userF; rw [if_pos h5, hmv])
    clear hmv hr hL
    clear hv hb1 h5
    unfold usersK at hm
    obtain ⟨tv, htv⟩ : ∃ tv, toldF mv user = tv := ⟨_, rfl⟩
    rw [htv] at HT
    have HTV := Lib.hid htv
    clear htv
    cases tv with
    | some n =>
      go_enter Tryd.func17, Tryd.ntmps17
      go_wp2_with fail
      refine hm.mono ?_
      rintro e w1 ⟨⟨A1, B1, nl1, cl1, nm1, cm1, rfl, hv1⟩, b1⟩
      have ht := told_calls mv A1 B1 nl1 cl1 nm1 cm1 user w1 hv1 (rise_top HMR.out)
      rw [HTV.out] at ht
      have HB1 := Lib.hid (HB.out.then_ b1)
      have hx1 := HX.out.later b1
      have HX1 := Lib.hid hx1
      clear b1 hv1 hm hx1
      go_wp2_with fail
      refine ht.mono ?_
      rintro e w2 ⟨rfl, b2, _⟩
      have HB2 := Lib.hid (HB1.out.then_ b2)
      clear b2 ht
      go_wp2_with fail
      go_ret
      rw [HT.out]
      exact ⟨rfl, HB2.out.alloc HB2.out.size _⟩
    | none =>
      go_enter Tryd.func17, Tryd.ntmps17
      go_wp2_with fail
      refine hm.mono ?_
      rintro e w1 ⟨⟨A1, B1, nl1, cl1, nm1, cm1, rfl, hv1⟩, b1⟩
      have ht := told_calls mv A1 B1 nl1 cl1 nm1 cm1 user w1 hv1 (rise_top HMR.out)
      rw [HTV.out] at ht
      have HB1 := Lib.hid (HB.out.then_ b1)
      have hx1 := HX.out.later b1
      have HX1 := Lib.hid hx1
      clear b1 hv1 hm hx1
      go_wp2_with fail
      refine ht.mono ?_
      rintro e w2 ⟨rfl, b2, _⟩
      have HB2 := Lib.hid (HB1.out.then_ b2)
      have hb3 := HB2.out.alloc HB2.out.size (.cells #[.int .i64 0, .bool false] 53)
      have HB3 := Lib.hid hb3
      have hx3 := (HX1.out.later b2).alloc (.cells #[.int .i64 0, .bool false] 53)
      have hl := level_calls v A B nl cl nm cm [117, 115, 101, 114, 115, 95, 100, 101, 102, 97, 117, 108, 116] _ (HV.out.1.below hb3) (rise_top HV.out.2.1) (HV.out.2.2.below hb3)
      have d0 := hx3.cell (k := 0) rfl; have d1 := hx3.cell (k := 1) rfl; have d2 := hx3.cell (k := 2) rfl; have d3 := hx3.cell (k := 3) rfl; have d4 := hx3.cell (k := 4) rfl; have d5 := hx3.cell (k := 5) rfl
      clear b2 ht hx3 hb3
      go_wp2_with fail
      refine hl.mono ?_
      rintro e w4 ⟨rfl, b4⟩
      have HB4 := Lib.hid (HB3.out.then_ b4)
      clear b4 hl
      go_wp2_with fail
      go_ret
      rw [HT.out]
      exact ⟨rfl, HB4.out⟩
  · have k1 : (v.kd != 5) = true := by rw [bne_iff_ne]; exact h5
    have HT := Lib.hid (show userF v creator user = if user = creator then 100 else 0 by unfold userF; rw [if_neg h5])
    clear hv hb1 h5 hr hL
    by_cases he : user = creator
    · have ht : (user == creator) = true := by simpa using he
      have HT2 := Lib.hid (show userF v creator user = 100 by rw [HT.out, if_pos he])
      clear he
      go_enter Tryd.func17, Tryd.ntmps17
      go_wp2_with fail
      go_ret
      rw [HT2.out]
      exact ⟨rfl, HB.out⟩
    · have ht : (user == creator) = false := by simpa using he
      have HT2 := Lib.hid (show userF v creator user = 0 by rw [HT.out, if_neg he])
      clear he
      go_enter Tryd.func17, Tryd.ntmps17
      go_wp2_with fail
      go_ret
      rw [HT2.out]
      exact ⟨rfl, HB.out⟩
set_option maxHeartbeats 4000000 in
theorem refuser_calls (v : Jv) (A B : Option Addr) (nl cl nm cm : Nat) (creator user : List UInt8) (w : World) (hv : VOk w v A B nl cl nm cm) :
    Calls Tryd.prog 18 #[.agg #[.int .i64 v.kd, .bool v.is, .int .i64 v.n, .string ⟨v.s.toArray⟩, .slice A nl cl, .slice B nm cm], .string ⟨creator.toArray⟩, .string ⟨user.toArray⟩] w fun e w' => e = .returned (.int .i64 (userF v creator user)) ∧ Below w.heap.size w w' := by
  have hb1 : Below w.heap.size w (w.alloc (.cells #[.int .i64 v.kd, .bool v.is, .int .i64 v.n, .string ⟨v.s.toArray⟩, .slice A nl cl, .slice B nm cm] 25)) := (Below.refl _ _).alloc (Nat.le_refl _) _
  have HB := Lib.hid hb1
  have HX := Lib.hid (Blk.new w [.int .i64 v.kd, .bool v.is, .int .i64 v.n, .string ⟨v.s.toArray⟩, .slice A nl cl, .slice B nm cm] 25)
  have HV := Lib.hid (And.intro hv trivial)
  by_cases h5 : v.kd = 5
  · have k1 : (v.kd != 5) = false := by rw [h5]; rfl
    have hm := reftable_calls v A B nl cl nm cm usersK _ (hv.below hb1)
    obtain ⟨mv, hmv⟩ : ∃ mv, tabF v usersK = mv := ⟨_, rfl⟩
    rw [hmv] at hm
    have HT := Lib.hid (show userF v creator user = (toldF mv user).getD (levelF v [117, 115, 101, 114, 115, 95, 100, 101, 102, 97, 117, 108, 116]) by unfold userF; rw [if_pos h5, ← hmv, told_tab])
    clear hmv
    clear hv hb1 h5
    unfold usersK at hm
    obtain ⟨tv, htv⟩ : ∃ tv, toldF mv user = tv := ⟨_, rfl⟩
    rw [htv] at HT
    have HTV := Lib.hid htv
    clear htv
    cases tv with
    | some n =>
      go_enter Tryd.func18, Tryd.ntmps18
      go_wp2_with fail
      refine hm.mono ?_
      rintro e w1 ⟨⟨A1, B1, nl1, cl1, nm1, cm1, rfl, hv1⟩, b1⟩
      have ht := reftold_calls mv A1 B1 nl1 cl1 nm1 cm1 user w1 hv1
      rw [HTV.out] at ht
      have HB1 := Lib.hid (HB.out.then_ b1)
      have hx1 := HX.out.later b1
      have HX1 := Lib.hid hx1
      clear b1 hv1 hm hx1
      go_wp2_with fail
      refine ht.mono ?_
      rintro e w2 ⟨rfl, b2⟩
      have HB2 := Lib.hid (HB1.out.then_ b2)
      clear b2 ht
      go_wp2_with fail
      go_ret
      rw [HT.out]
      exact ⟨rfl, HB2.out⟩
    | none =>
      go_enter Tryd.func18, Tryd.ntmps18
      go_wp2_with fail
      refine hm.mono ?_
      rintro e w1 ⟨⟨A1, B1, nl1, cl1, nm1, cm1, rfl, hv1⟩, b1⟩
      have ht := reftold_calls mv A1 B1 nl1 cl1 nm1 cm1 user w1 hv1
      rw [HTV.out] at ht
      have HB1 := Lib.hid (HB.out.then_ b1)
      have hx1 := HX.out.later b1
      have HX1 := Lib.hid hx1
      clear b1 hv1 hm hx1
      go_wp2_with fail
      refine ht.mono ?_
      rintro e w2 ⟨rfl, b2⟩
      have HB2 := Lib.hid (HB1.out.then_ b2)
      have HB3 := HB2
      have hx3 := HX1.out.later b2
      have hl := reflevel_calls v A B nl cl nm cm [117, 115, 101, 114, 115, 95, 100, 101, 102, 97, 117, 108, 116] _ (HV.out.1.below HB2.out)
      have d0 := hx3.cell (k := 0) rfl; have d1 := hx3.cell (k := 1) rfl; have d2 := hx3.cell (k := 2) rfl; have d3 := hx3.cell (k := 3) rfl; have d4 := hx3.cell (k := 4) rfl; have d5 := hx3.cell (k := 5) rfl
      clear b2 ht hx3
      go_wp2_with fail
      refine hl.mono ?_
      rintro e w4 ⟨rfl, b4⟩
      have HB4 := Lib.hid (HB3.out.then_ b4)
      clear b4 hl
      go_wp2_with fail
      go_ret
      rw [HT.out]
      exact ⟨rfl, HB4.out⟩
  · have k1 : (v.kd != 5) = true := by rw [bne_iff_ne]; exact h5
    have HT := Lib.hid (show userF v creator user = if user = creator then 100 else 0 by unfold userF; rw [if_neg h5])
    clear hv hb1 h5
    by_cases he : user = creator
    · have ht : (user == creator) = true := by simpa using he
      have HT2 := Lib.hid (show userF v creator user = 100 by rw [HT.out, if_pos he])
      clear he
      go_enter Tryd.func18, Tryd.ntmps18
      go_wp2_with fail
      go_ret
      rw [HT2.out]
      exact ⟨rfl, HB.out⟩
    · have ht : (user == creator) = false := by simpa using he
      have HT2 := Lib.hid (show userF v creator user = 0 by rw [HT.out, if_neg he])
      clear he
      go_enter Tryd.func18, Tryd.ntmps18
      go_wp2_with fail
      go_ret
      rw [HT2.out]
      exact ⟨rfl, HB.out⟩
set_option maxHeartbeats 4000000 in
theorem send_calls (v : Jv) (A B : Option Addr) (nl cl nm cm : Nat) (kind : List UInt8) (st : Bool) (w : World) (hv : VOk w v A B nl cl nm cm) (hr : risV v = true) (hL : LonT w) :
    Calls Tryd.prog 19 #[.agg #[.int .i64 v.kd, .bool v.is, .int .i64 v.n, .string ⟨v.s.toArray⟩, .slice A nl cl, .slice B nm cm], .string ⟨kind.toArray⟩, .bool st] w fun e w' => e = .returned (.int .i64 (sendF v kind st)) ∧ Below w.heap.size w w' := by
  have hb1 : Below w.heap.size w (w.alloc (.cells #[.int .i64 v.kd, .bool v.is, .int .i64 v.n, .string ⟨v.s.toArray⟩, .slice A nl cl, .slice B nm cm] 25)) := (Below.refl _ _).alloc (Nat.le_refl _) _
  have HB := Lib.hid hb1
  have HX := Lib.hid (Blk.new w [.int .i64 v.kd, .bool v.is, .int .i64 v.n, .string ⟨v.s.toArray⟩, .slice A nl cl, .slice B nm cm] 25)
  have HV := Lib.hid (And.intro hv (And.intro hr hL))
  have hm := member_calls v A B nl cl nm cm [101, 118, 101, 110, 116, 115] _ (hv.below hb1) (rise_top hr)
  obtain ⟨mv, hmv⟩ : ∃ mv, memF v [101, 118, 101, 110, 116, 115] = mv := ⟨_, rfl⟩
  have HMR := Lib.hid (show risV mv = true by rw [← hmv]; exact memF_ris hr _)
  rw [hmv] at hm
  have HT := Lib.hid (show sendF v kind st = match toldF mv kind with | some n => n | none => if st then (if v.kd = 5 then levelF v [115, 116, 97, 116, 101, 95, 100, 101, 102, 97, 117, 108, 116] else 0) else levelF v [101, 118, 101, 110, 116, 115, 95, 100, 101, 102, 97, 117, 108, 116] by unfold sendF; rw [hmv]; rfl)
  clear hmv hr hL
  clear hv hb1
  obtain ⟨tv, htv⟩ : ∃ tv, toldF mv kind = tv := ⟨_, rfl⟩
  rw [htv] at HT
  have HTV := Lib.hid htv
  clear htv
  cases tv with
  | some n =>
    have HT2 := Lib.hid (show sendF v kind st = n by rw [HT.out])
    go_enter Tryd.func19, Tryd.ntmps19
    go_wp2_with fail
    refine hm.mono ?_
    rintro e w1 ⟨⟨A1, B1, nl1, cl1, nm1, cm1, rfl, hv1⟩, b1⟩
    have ht := told_calls mv A1 B1 nl1 cl1 nm1 cm1 kind w1 hv1 (rise_top HMR.out)
    rw [HTV.out] at ht
    have HB1 := Lib.hid (HB.out.then_ b1)
    have hx1 := HX.out.later b1
    have HX1 := Lib.hid hx1
    clear b1 hv1 hm hx1
    go_wp2_with fail
    refine ht.mono ?_
    rintro e w2 ⟨rfl, b2, _⟩
    have HB2 := Lib.hid (HB1.out.then_ b2)
    clear b2 ht
    go_wp2_with fail
    go_ret
    rw [HT2.out]
    exact ⟨rfl, HB2.out.alloc HB2.out.size _⟩
  | none =>
    cases st with
    | false =>
      have HT2 := Lib.hid (show sendF v kind false = levelF v [101, 118, 101, 110, 116, 115, 95, 100, 101, 102, 97, 117, 108, 116] by rw [HT.out]; rfl)
      go_enter Tryd.func19, Tryd.ntmps19
      go_wp2_with fail
      refine hm.mono ?_
      rintro e w1 ⟨⟨A1, B1, nl1, cl1, nm1, cm1, rfl, hv1⟩, b1⟩
      have ht := told_calls mv A1 B1 nl1 cl1 nm1 cm1 kind w1 hv1 (rise_top HMR.out)
      rw [HTV.out] at ht
      have HB1 := Lib.hid (HB.out.then_ b1)
      have hx1 := HX.out.later b1
      have HX1 := Lib.hid hx1
      clear b1 hv1 hm hx1
      go_wp2_with fail
      refine ht.mono ?_
      rintro e w2 ⟨rfl, b2, _⟩
      have HB2 := Lib.hid (HB1.out.then_ b2)
      have hb3 := HB2.out.alloc HB2.out.size (.cells #[.int .i64 0, .bool false] 53)
      have HB3 := Lib.hid hb3
      have hx3 := (HX1.out.later b2).alloc (.cells #[.int .i64 0, .bool false] 53)
      have hl := level_calls v A B nl cl nm cm [101, 118, 101, 110, 116, 115, 95, 100, 101, 102, 97, 117, 108, 116] _ (HV.out.1.below hb3) (rise_top HV.out.2.1) (HV.out.2.2.below hb3)
      have d0 := hx3.cell (k := 0) rfl; have d1 := hx3.cell (k := 1) rfl; have d2 := hx3.cell (k := 2) rfl; have d3 := hx3.cell (k := 3) rfl; have d4 := hx3.cell (k := 4) rfl; have d5 := hx3.cell (k := 5) rfl
      clear b2 ht hx3 hb3
      go_wp2_with fail
      refine hl.mono ?_
      rintro e w4 ⟨rfl, b4⟩
      have HB4 := Lib.hid (HB3.out.then_ b4)
      clear b4 hl
      go_wp2_with fail
      go_ret
      rw [HT2.out]
      exact ⟨rfl, HB4.out⟩
    | true =>
      by_cases h5 : v.kd = 5
      · have k1 : (v.kd != 5) = false := by rw [h5]; rfl
        have HT2 := Lib.hid (show sendF v kind true = levelF v [115, 116, 97, 116, 101, 95, 100, 101, 102, 97, 117, 108, 116] by rw [HT.out]; simp [h5])
        clear h5
        go_enter Tryd.func19, Tryd.ntmps19
        go_wp2_with fail
        refine hm.mono ?_
        rintro e w1 ⟨⟨A1, B1, nl1, cl1, nm1, cm1, rfl, hv1⟩, b1⟩
        have ht := told_calls mv A1 B1 nl1 cl1 nm1 cm1 kind w1 hv1 (rise_top HMR.out)
        rw [HTV.out] at ht
        have HB1 := Lib.hid (HB.out.then_ b1)
        have hx1 := HX.out.later b1
        have HX1 := Lib.hid hx1
        clear b1 hv1 hm hx1
        go_wp2_with fail
        refine ht.mono ?_
        rintro e w2 ⟨rfl, b2, _⟩
        have HB2 := Lib.hid (HB1.out.then_ b2)
        have hb3 := HB2.out.alloc HB2.out.size (.cells #[.int .i64 0, .bool false] 53)
        have HB3 := Lib.hid hb3
        have hx3 := (HX1.out.later b2).alloc (.cells #[.int .i64 0, .bool false] 53)
        have hl := level_calls v A B nl cl nm cm [115, 116, 97, 116, 101, 95, 100, 101, 102, 97, 117, 108, 116] _ (HV.out.1.below hb3) (rise_top HV.out.2.1) (HV.out.2.2.below hb3)
        have d0 := hx3.cell (k := 0) rfl; have d1 := hx3.cell (k := 1) rfl; have d2 := hx3.cell (k := 2) rfl; have d3 := hx3.cell (k := 3) rfl; have d4 := hx3.cell (k := 4) rfl; have d5 := hx3.cell (k := 5) rfl
        clear b2 ht hx3 hb3
        go_wp2_with fail
        refine hl.mono ?_
        rintro e w4 ⟨rfl, b4⟩
        have HB4 := Lib.hid (HB3.out.then_ b4)
        clear b4 hl
        go_wp2_with fail
        go_ret
        rw [HT2.out]
        exact ⟨rfl, HB4.out⟩
      · have k1 : (v.kd != 5) = true := by rw [bne_iff_ne]; exact h5
        have HT2 := Lib.hid (show sendF v kind true = 0 by rw [HT.out]; simp [h5])
        clear h5
        go_enter Tryd.func19, Tryd.ntmps19
        go_wp2_with fail
        refine hm.mono ?_
        rintro e w1 ⟨⟨A1, B1, nl1, cl1, nm1, cm1, rfl, hv1⟩, b1⟩
        have ht := told_calls mv A1 B1 nl1 cl1 nm1 cm1 kind w1 hv1 (rise_top HMR.out)
        rw [HTV.out] at ht
        have HB1 := Lib.hid (HB.out.then_ b1)
        have hx1 := HX.out.later b1
        have HX1 := Lib.hid hx1
        clear b1 hv1 hm hx1
        go_wp2_with fail
        refine ht.mono ?_
        rintro e w2 ⟨rfl, b2, _⟩
        have HB2 := Lib.hid (HB1.out.then_ b2)
        have hb3 := HB2.out.alloc HB2.out.size (.cells #[.int .i64 0, .bool false] 53)
        have HB3 := Lib.hid hb3
        have hx3 := (HX1.out.later b2).alloc (.cells #[.int .i64 0, .bool false] 53)
        have hl := level_calls v A B nl cl nm cm [115, 116, 97, 116, 101, 95, 100, 101, 102, 97, 117, 108, 116] _ (HV.out.1.below hb3) (rise_top HV.out.2.1) (HV.out.2.2.below hb3)
        have d0 := hx3.cell (k := 0) rfl; have d1 := hx3.cell (k := 1) rfl; have d2 := hx3.cell (k := 2) rfl; have d3 := hx3.cell (k := 3) rfl; have d4 := hx3.cell (k := 4) rfl; have d5 := hx3.cell (k := 5) rfl
        clear b2 ht hx3 hb3 hl
        go_wp2_with fail
        go_ret
        rw [HT2.out]
        exact ⟨rfl, HB3.out⟩
set_option maxHeartbeats 4000000 in
theorem refsend_calls (v : Jv) (A B : Option Addr) (nl cl nm cm : Nat) (kind : List UInt8) (st : Bool) (w : World) (hv : VOk w v A B nl cl nm cm) :
    Calls Tryd.prog 20 #[.agg #[.int .i64 v.kd, .bool v.is, .int .i64 v.n, .string ⟨v.s.toArray⟩, .slice A nl cl, .slice B nm cm], .string ⟨kind.toArray⟩, .bool st] w fun e w' => e = .returned (.int .i64 (sendF v kind st)) ∧ Below w.heap.size w w' := by
  have hb1 : Below w.heap.size w (w.alloc (.cells #[.int .i64 v.kd, .bool v.is, .int .i64 v.n, .string ⟨v.s.toArray⟩, .slice A nl cl, .slice B nm cm] 25)) := (Below.refl _ _).alloc (Nat.le_refl _) _
  have HB := Lib.hid hb1
  have HX := Lib.hid (Blk.new w [.int .i64 v.kd, .bool v.is, .int .i64 v.n, .string ⟨v.s.toArray⟩, .slice A nl cl, .slice B nm cm] 25)
  have HV := Lib.hid (And.intro hv trivial)
  have hm := reftable_calls v A B nl cl nm cm [101, 118, 101, 110, 116, 115] _ (hv.below hb1)
  obtain ⟨mv, hmv⟩ : ∃ mv, tabF v [101, 118, 101, 110, 116, 115] = mv := ⟨_, rfl⟩
  rw [hmv] at hm
  have HT := Lib.hid (show sendF v kind st = match toldF mv kind with | some n => n | none => if st then (if v.kd = 5 then levelF v [115, 116, 97, 116, 101, 95, 100, 101, 102, 97, 117, 108, 116] else 0) else levelF v [101, 118, 101, 110, 116, 115, 95, 100, 101, 102, 97, 117, 108, 116] by unfold sendF; rw [← hmv, told_tab]; rfl)
  clear hmv
  clear hv hb1
  obtain ⟨tv, htv⟩ : ∃ tv, toldF mv kind = tv := ⟨_, rfl⟩
  rw [htv] at HT
  have HTV := Lib.hid htv
  clear htv
  cases tv with
  | some n =>
    have HT2 := Lib.hid (show sendF v kind st = n by rw [HT.out])
    go_enter Tryd.func20, Tryd.ntmps20
    go_wp2_with fail
    refine hm.mono ?_
    rintro e w1 ⟨⟨A1, B1, nl1, cl1, nm1, cm1, rfl, hv1⟩, b1⟩
    have ht := reftold_calls mv A1 B1 nl1 cl1 nm1 cm1 kind w1 hv1
    rw [HTV.out] at ht
    have HB1 := Lib.hid (HB.out.then_ b1)
    have hx1 := HX.out.later b1
    have HX1 := Lib.hid hx1
    clear b1 hv1 hm hx1
    go_wp2_with fail
    refine ht.mono ?_
    rintro e w2 ⟨rfl, b2⟩
    have HB2 := Lib.hid (HB1.out.then_ b2)
    clear b2 ht
    go_wp2_with fail
    go_ret
    rw [HT2.out]
    exact ⟨rfl, HB2.out⟩
  | none =>
    cases st with
    | false =>
      have HT2 := Lib.hid (show sendF v kind false = levelF v [101, 118, 101, 110, 116, 115, 95, 100, 101, 102, 97, 117, 108, 116] by rw [HT.out]; rfl)
      go_enter Tryd.func20, Tryd.ntmps20
      go_wp2_with fail
      refine hm.mono ?_
      rintro e w1 ⟨⟨A1, B1, nl1, cl1, nm1, cm1, rfl, hv1⟩, b1⟩
      have ht := reftold_calls mv A1 B1 nl1 cl1 nm1 cm1 kind w1 hv1
      rw [HTV.out] at ht
      have HB1 := Lib.hid (HB.out.then_ b1)
      have hx1 := HX.out.later b1
      have HX1 := Lib.hid hx1
      clear b1 hv1 hm hx1
      go_wp2_with fail
      refine ht.mono ?_
      rintro e w2 ⟨rfl, b2⟩
      have HB2 := Lib.hid (HB1.out.then_ b2)
      have HB3 := HB2
      have hx3 := HX1.out.later b2
      have hl := reflevel_calls v A B nl cl nm cm [101, 118, 101, 110, 116, 115, 95, 100, 101, 102, 97, 117, 108, 116] _ (HV.out.1.below HB2.out)
      have d0 := hx3.cell (k := 0) rfl; have d1 := hx3.cell (k := 1) rfl; have d2 := hx3.cell (k := 2) rfl; have d3 := hx3.cell (k := 3) rfl; have d4 := hx3.cell (k := 4) rfl; have d5 := hx3.cell (k := 5) rfl
      clear b2 ht hx3
      go_wp2_with fail
      refine hl.mono ?_
      rintro e w4 ⟨rfl, b4⟩
      have HB4 := Lib.hid (HB3.out.then_ b4)
      clear b4 hl
      go_wp2_with fail
      go_ret
      rw [HT2.out]
      exact ⟨rfl, HB4.out⟩
    | true =>
      by_cases h5 : v.kd = 5
      · have k1 : (v.kd != 5) = false := by rw [h5]; rfl
        have HT2 := Lib.hid (show sendF v kind true = levelF v [115, 116, 97, 116, 101, 95, 100, 101, 102, 97, 117, 108, 116] by rw [HT.out]; simp [h5])
        clear h5
        go_enter Tryd.func20, Tryd.ntmps20
        go_wp2_with fail
        refine hm.mono ?_
        rintro e w1 ⟨⟨A1, B1, nl1, cl1, nm1, cm1, rfl, hv1⟩, b1⟩
        have ht := reftold_calls mv A1 B1 nl1 cl1 nm1 cm1 kind w1 hv1
        rw [HTV.out] at ht
        have HB1 := Lib.hid (HB.out.then_ b1)
        have hx1 := HX.out.later b1
        have HX1 := Lib.hid hx1
        clear b1 hv1 hm hx1
        go_wp2_with fail
        refine ht.mono ?_
        rintro e w2 ⟨rfl, b2⟩
        have HB2 := Lib.hid (HB1.out.then_ b2)
        have HB3 := HB2
        have hx3 := HX1.out.later b2
        have hl := reflevel_calls v A B nl cl nm cm [115, 116, 97, 116, 101, 95, 100, 101, 102, 97, 117, 108, 116] _ (HV.out.1.below HB2.out)
        have d0 := hx3.cell (k := 0) rfl; have d1 := hx3.cell (k := 1) rfl; have d2 := hx3.cell (k := 2) rfl; have d3 := hx3.cell (k := 3) rfl; have d4 := hx3.cell (k := 4) rfl; have d5 := hx3.cell (k := 5) rfl
        clear b2 ht hx3
        go_wp2_with fail
        refine hl.mono ?_
        rintro e w4 ⟨rfl, b4⟩
        have HB4 := Lib.hid (HB3.out.then_ b4)
        clear b4 hl
        go_wp2_with fail
        go_ret
        rw [HT2.out]
        exact ⟨rfl, HB4.out⟩
      · have k1 : (v.kd != 5) = true := by rw [bne_iff_ne]; exact h5
        have HT2 := Lib.hid (show sendF v kind true = 0 by rw [HT.out]; simp [h5])
        clear h5
        go_enter Tryd.func20, Tryd.ntmps20
        go_wp2_with fail
        refine hm.mono ?_
        rintro e w1 ⟨⟨A1, B1, nl1, cl1, nm1, cm1, rfl, hv1⟩, b1⟩
        have ht := reftold_calls mv A1 B1 nl1 cl1 nm1 cm1 kind w1 hv1
        rw [HTV.out] at ht
        have HB1 := Lib.hid (HB.out.then_ b1)
        have hx1 := HX.out.later b1
        have HX1 := Lib.hid hx1
        clear b1 hv1 hm hx1
        go_wp2_with fail
        refine ht.mono ?_
        rintro e w2 ⟨rfl, b2⟩
        have HB2 := Lib.hid (HB1.out.then_ b2)
        have HB3 := HB2
        have hx3 := HX1.out.later b2
        have hl := reflevel_calls v A B nl cl nm cm [115, 116, 97, 116, 101, 95, 100, 101, 102, 97, 117, 108, 116] _ (HV.out.1.below HB2.out)
        have d0 := hx3.cell (k := 0) rfl; have d1 := hx3.cell (k := 1) rfl; have d2 := hx3.cell (k := 2) rfl; have d3 := hx3.cell (k := 3) rfl; have d4 := hx3.cell (k := 4) rfl; have d5 := hx3.cell (k := 5) rfl
        clear b2 ht hx3 hl
        go_wp2_with fail
        go_ret
        rw [HT2.out]
        exact ⟨rfl, HB3.out⟩
/-- The document's example. -/
def lvV : Jv := ⟨5, false, 0, [], .nil, .cons usersK 5 false 0 [] .nil (.cons [64, 97, 58, 120] 2 false 100 [] .nil .nil .nil) .nil⟩
theorem lv_ris : risV lvV = true := by decide
theorem lv_user : userF lvV [] [64, 97, 58, 120] = 100 := by decide
theorem lv_send : sendF lvV [109] true = 50 := by decide
theorem blk_at {w : World} (cs : List Value) (T : TypeId) {g : Nat} (h : w.heap.size = g) : Blk (w.alloc (.cells cs.toArray T)) g T cs := h ▸ Blk.new w cs T
theorem row7 {P : Nat → Prop} {w : World} {g : Nat} {T : TypeId} {k s : List UInt8} {kd n : Int} {is : Bool} {A B : Option Addr} {nl cl nm cm : Nat} {l m : JT}
    (h : Blk w g T [strV k, .int .i64 kd, .bool is, .int .i64 n, strV s, .slice A nl cl, .slice B nm cm]) (hk : k.length ≤ 140737488355328) (hl : Room nl cl l.ext) (hm : Room nm cm m.ext)
    (h1 : JSl P w false A l) (h2 : JSl P w true B m) (hf : Fit kd n s) : JIn P w true g 0 (.cons k kd is n s l m .nil) :=
  ⟨⟨h.cell rfl, hk⟩, ⟨A, nl, cl, B, nm, cm, (fun j v hj => by
      have := h.rng (j + 1) v (by simpa using hj)
      rw [show 0 + (j + 1) = 0 + kwM true + j by show 0 + (j + 1) = 0 + 1 + j; omega] at this
      exact this), hl, hm, h1, h2⟩, hf, trivial⟩
set_option maxHeartbeats 4000000 in
theorem levels_calls (w : World) : Calls Tryd.prog 12 #[] w (VRes lvV w) := by
  have h0 := (((Blk.new w [.int .i64 5, .bool false, .int .i64 0, .string ⟨#[]⟩, .slice none 0 0, .slice (some ⟨w.heap.size + 1 + 1 + 1, 0, none⟩) 1 1] 25).alloc (.cells #[.string ⟨#[64, 97, 58, 120]⟩, .int .i64 2, .bool false, .int .i64 100, .string ⟨#[]⟩, .slice none 0 0, .slice none 0 0] 44)).alloc (.cells #[.int .i64 5, .bool false, .int .i64 0, .string ⟨#[]⟩, .slice none 0 0, .slice (some ⟨w.heap.size + 1, 0, none⟩) 1 1] 25)).alloc (.cells #[.string ⟨#[117, 115, 101, 114, 115]⟩, .int .i64 5, .bool false, .int .i64 0, .string ⟨#[]⟩, .slice none 0 0, .slice (some ⟨w.heap.size + 1, 0, none⟩) 1 1] 44)
  have h1 := ((blk_at (w := w.alloc (.cells #[.int .i64 5, .bool false, .int .i64 0, .string ⟨#[]⟩, .slice none 0 0, .slice (some ⟨w.heap.size + 1 + 1 + 1, 0, none⟩) 1 1] 25)) [.string ⟨#[64, 97, 58, 120]⟩, .int .i64 2, .bool false, .int .i64 100, .string ⟨#[]⟩, .slice none 0 0, .slice none 0 0] 44 (g := w.heap.size + 1) (by simp)).alloc (.cells #[.int .i64 5, .bool false, .int .i64 0, .string ⟨#[]⟩, .slice none 0 0, .slice (some ⟨w.heap.size + 1, 0, none⟩) 1 1] 25)).alloc (.cells #[.string ⟨#[117, 115, 101, 114, 115]⟩, .int .i64 5, .bool false, .int .i64 0, .string ⟨#[]⟩, .slice none 0 0, .slice (some ⟨w.heap.size + 1, 0, none⟩) 1 1] 44)
  have h3 := blk_at (w := ((w.alloc (.cells #[.int .i64 5, .bool false, .int .i64 0, .string ⟨#[]⟩, .slice none 0 0, .slice (some ⟨w.heap.size + 1 + 1 + 1, 0, none⟩) 1 1] 25)).alloc (.cells #[.string ⟨#[64, 97, 58, 120]⟩, .int .i64 2, .bool false, .int .i64 100, .string ⟨#[]⟩, .slice none 0 0, .slice none 0 0] 44)).alloc (.cells #[.int .i64 5, .bool false, .int .i64 0, .string ⟨#[]⟩, .slice none 0 0, .slice (some ⟨w.heap.size + 1, 0, none⟩) 1 1] 25)) [.string ⟨#[117, 115, 101, 114, 115]⟩, .int .i64 5, .bool false, .int .i64 0, .string ⟨#[]⟩, .slice none 0 0, .slice (some ⟨w.heap.size + 1, 0, none⟩) 1 1] 44 (g := w.heap.size + 1 + 1 + 1) (by simp)
  have hb : Below w.heap.size w ((((w.alloc (.cells #[.int .i64 5, .bool false, .int .i64 0, .string ⟨#[]⟩, .slice none 0 0, .slice (some ⟨w.heap.size + 1 + 1 + 1, 0, none⟩) 1 1] 25)).alloc (.cells #[.string ⟨#[64, 97, 58, 120]⟩, .int .i64 2, .bool false, .int .i64 100, .string ⟨#[]⟩, .slice none 0 0, .slice none 0 0] 44)).alloc (.cells #[.int .i64 5, .bool false, .int .i64 0, .string ⟨#[]⟩, .slice none 0 0, .slice (some ⟨w.heap.size + 1, 0, none⟩) 1 1] 25)).alloc (.cells #[.string ⟨#[117, 115, 101, 114, 115]⟩, .int .i64 5, .bool false, .int .i64 0, .string ⟨#[]⟩, .slice none 0 0, .slice (some ⟨w.heap.size + 1, 0, none⟩) 1 1] 44)) := ((((Below.refl _ _).alloc (Nat.le_refl _) _).alloc (by simp) _).alloc (by simp; omega) _).alloc (by simp; omega) _
  have hs : ((((w.alloc (.cells #[.int .i64 5, .bool false, .int .i64 0, .string ⟨#[]⟩, .slice none 0 0, .slice (some ⟨w.heap.size + 1 + 1 + 1, 0, none⟩) 1 1] 25)).alloc (.cells #[.string ⟨#[64, 97, 58, 120]⟩, .int .i64 2, .bool false, .int .i64 100, .string ⟨#[]⟩, .slice none 0 0, .slice none 0 0] 44)).alloc (.cells #[.int .i64 5, .bool false, .int .i64 0, .string ⟨#[]⟩, .slice none 0 0, .slice (some ⟨w.heap.size + 1, 0, none⟩) 1 1] 25)).alloc (.cells #[.string ⟨#[117, 115, 101, 114, 115]⟩, .int .i64 5, .bool false, .int .i64 0, .string ⟨#[]⟩, .slice none 0 0, .slice (some ⟨w.heap.size + 1, 0, none⟩) 1 1] 44)).heap.size = w.heap.size + 1 + 1 + 1 + 1 := by simp
  have hv := (show VOk _ lvV none (some ⟨w.heap.size + 1 + 1 + 1, 0, none⟩) 0 0 1 1 from ⟨⟨rfl, Nat.le_refl _, by decide⟩, ⟨rfl, Nat.le_refl _, by decide⟩, .inl rfl,
    .inr ⟨_, 0, rfl, by show _ < _; rw [hs]; omega, row7 h3 (by decide) ⟨rfl, Nat.le_refl _, by decide⟩ ⟨rfl, Nat.le_refl _, by decide⟩ (.inl rfl)
      (.inr ⟨_, 0, rfl, by show _ < _; rw [hs]; omega, row7 h1 (by decide) ⟨rfl, Nat.le_refl _, by decide⟩ ⟨rfl, Nat.le_refl _, by decide⟩ (.inl rfl) (.inl rfl) (by unfold Fit; decide)⟩) (by unfold Fit; decide)⟩, by unfold Fit lvV; decide⟩)
  have HH := Lib.hid (And.intro h0 (And.intro hb hv))
  clear h0 h1 h3 hb hv hs
  go_enter Tryd.func12, Tryd.ntmps12
  go_wp2_with fail
  exact bodyPost_ret (res_cell rfl _ ⟨w.heap.size, 0, none⟩ _ _ rfl (Blk.load HH.out.1 _ Tryd.underlying25 rfl size_val)) rfl ⟨⟨_, _, _, _, _, _, rfl, HH.out.2.2⟩, HH.out.2.1⟩
end Go.Proofs.YtmfefeemkhncfaaDoor
