/- Layer 14: Valid, the document's. -/
import Derived.Test.YtmfefeemkhncfaaDoorPwV
namespace Go.Proofs.YtmfefeemkhncfaaDoor
open Go.ChangeShapes Go.WideShapes Go.ChangeAt Go.RowKit Go.IntWalk
set_option linter.unusedVariables false
set_option maxRecDepth 100000

/-- A member that doesn't fit. -/
def badM (k : List UInt8) (mv : Jv) : Bool := !(fitsF k mv)
theorem lone_tab {k : List UInt8} (h : isLone k = true) : isTab k = false := by
  unfold isLone at h
  rw [List.any_eq_true] at h
  obtain ⟨p, hp, e⟩ := h
  rw [beq_iff_eq] at e
  subst e
  revert p
  decide
def loneB (k : List UInt8) (mv : Jv) : Bool := lonN.any (fun p => k == p.1 && mv.kd != 2)
theorem loneB_eq (k : List UInt8) (mv : Jv) : loneB k mv = (isLone k && mv.kd != 2) := by
  have e : ∀ l : List (List UInt8 × Int), l.any (fun p => k == p.1 && mv.kd != 2) = (l.any (fun p => p.1 == k) && mv.kd != 2) := by
    intro l
    induction l with
    | nil => rfl
    | cons p l ih => rw [List.any_cons, List.any_cons, ih, show (k == p.1) = (p.1 == k) from Bool.eq_iff_iff.2 ⟨fun h => by rw [beq_iff_eq] at h ⊢; exact h.symm, fun h => by rw [beq_iff_eq] at h ⊢; exact h.symm⟩, Bool.and_or_distrib_right]
  exact e lonN
theorem badM_lone {k : List UInt8} {mv : Jv} (h : loneB k mv = true) : badM k mv = true := by
  rw [loneB_eq, Bool.and_eq_true] at h
  unfold badM fitsF
  rw [h.1, if_pos rfl]
  have := h.2
  rw [bne, Bool.not_eq_true'] at this
  rw [this]; rfl
theorem badM_else {k : List UInt8} {mv : Jv} (h : loneB k mv = false) : badM k mv = (isTab k && (mv.kd != 5 || anyK (wrongM k) mv.m)) := by
  rw [loneB_eq] at h
  unfold badM fitsF
  cases hl : isLone k with
  | true =>
    rw [hl, Bool.true_and, bne, Bool.not_eq_false'] at h
    rw [if_pos rfl, lone_tab hl, h]; rfl
  | false =>
    rw [if_neg (by decide)]
    cases ht : isTab k with
    | true => rw [if_pos rfl, bne, Bool.not_and, Bool.not_not]; rfl
    | false => rw [if_neg (by decide)]; rfl
theorem badM_no {k : List UInt8} {mv : Jv} (h : loneB k mv = false) (ht : isTab k = false) : badM k mv = false := by rw [badM_else h, ht]; rfl
theorem badM_kd {k : List UInt8} {mv : Jv} (h : loneB k mv = false) (ht : isTab k = true) (h5 : mv.kd ≠ 5) : badM k mv = true := by rw [badM_else h, ht, show (mv.kd != 5) = true from bne_iff_ne.2 h5]; rfl
theorem badM_in {k : List UInt8} {mv : Jv} (h : loneB k mv = false) (ht : isTab k = true) (h5 : mv.kd = 5) : badM k mv = anyK (wrongM k) mv.m := by rw [badM_else h, ht, h5]; rfl
theorem any_at {α : Type} (f : α → Bool) {l : List α} {k : Nat} (h : k < l.length) : (l.drop k).any f = (f l[k] || (l.drop (k + 1)).any f) := by
  rw [List.drop_eq_getElem_cons h, List.any_cons]
set_option maxHeartbeats 16000000 in
theorem refvalid_calls (v : Jv) (A0 B0 : Option Addr) (nl0 cl0 nm0 cm0 : Nat) (w : World) (hv : VOk w v A0 B0 nl0 cl0 nm0 cm0) (hk : ∀ i, i < v.m.ext → ShortM (v.m.fall i).val) :
    Calls Tryd.prog 14 #[.agg #[.int .i64 v.kd, .bool v.is, .int .i64 v.n, .string ⟨v.s.toArray⟩, .slice A0 nl0 cl0, .slice B0 nm0 cm0]] w fun e w' => e = .returned (.bool (validF v)) ∧ Below w.heap.size w w' := by
  have hb1 : Below w.heap.size w (w.alloc (.cells #[.int .i64 v.kd, .bool v.is, .int .i64 v.n, .string ⟨v.s.toArray⟩, .slice A0 nl0 cl0, .slice B0 nm0 cm0] 25)) := (Below.refl _ _).alloc (Nat.le_refl _) _
  have HB := Lib.hid hb1
  have HX := Lib.hid (Blk.new w [.int .i64 v.kd, .bool v.is, .int .i64 v.n, .string ⟨v.s.toArray⟩, .slice A0 nl0 cl0, .slice B0 nm0 cm0] 25)
  have hnc := hv.2.1.2.1
  have hc63 := hv.2.1.2.2
  have hn47 : nm0 ≤ 140737488355328 := Nat.le_trans hnc hc63
  have HN := Lib.hid hv.2.1.1
  have HS := Lib.hid hv.2.2.2.1
  have HK := Lib.hid hk
  obtain ⟨av, hav⟩ : ∃ av, anyK badM v.m = av := ⟨_, rfl⟩
  have HE := Lib.hid (show validF v = (v.kd == 5 && !av) by rw [← hav]; rfl)
  have hst := Lib.hid (show av = anyK badM (v.m.fall 0) by rw [JT.fall_zero, hav])
  clear hav hb1 hv hk hnc hc63
  by_cases h5 : v.kd = 5
  · have hn5 := kd_eq h5
    have HE2 := Lib.hid (show validF v = !av by rw [HE.out, h5]; rfl)
    clear h5
    go_enter Tryd.func14, Tryd.ntmps14
    go_wp2_with fail
    go_loopw [15] (fun i wr => ∃ q : Nat, q ≤ nm0 ∧ i = .int .i64 (q : Int) ∧ Hid (Below w.heap.size w wr) ∧ Hid (av = anyK badM (v.m.fall q))) (fun i _ => nm0 - (intOf i).toNat)
    case atStart => exact ⟨0, Nat.zero_le _, rfl, HB, hst⟩
    case round =>
      obtain ⟨q, hq, rfl, hB, hI⟩ := hrel
      by_cases hlt : q < nm0
      · obtain ⟨w5, hw5⟩ : ∃ x, x = wr := ⟨_, rfl⟩
        subst hw5
        have HLT := Lib.hid (show q < v.m.ext by rw [← HN.out]; exact hlt)
        obtain ⟨b0, off, eA, enl, ecl, eB, enm, ecm, rfl, eP, ebl, eK, eKl, f0, f1, f2, f3, f4, f5, r1, r2, s1, s2, hf⟩ := (HS.out.up hB.out).mb (i := q) _ HLT.out
        have HAT := Lib.hid (anyK_at badM HLT.out)
        have hpp := HK.out q HLT.out
        obtain ⟨eu, hev⟩ : ∃ eu, (v.m.fall q).val = eu := ⟨_, rfl⟩
        obtain ⟨ek, hek⟩ : ∃ ek, (v.m.fall q).key = ek := ⟨_, rfl⟩
        rw [hev] at f0 f1 f2 f3 r1 r2 s1 s2 hf hpp
        rw [hek] at eK
        have HI2 := Lib.hid (show av = (badM ek eu || anyK badM (v.m.fall (q + 1))) by rw [hI.out, HAT.out, hev, hek])
        have h6 : Below w5.heap.size w5 (w5.alloc (.cells #[.string ⟨ek.toArray⟩, .int .i64 eu.kd, .bool eu.is, .int .i64 eu.n, .string ⟨eu.s.toArray⟩, .slice eA enl ecl, .slice eB enm ecm] 44)) := (Below.refl _ _).alloc (Nat.le_refl _) _
        have HB6 := Lib.hid (hB.out.then_ h6)
        have HM6 := Lib.hid (Blk.new w5 [.string ⟨ek.toArray⟩, .int .i64 eu.kd, .bool eu.is, .int .i64 eu.n, .string ⟨eu.s.toArray⟩, .slice eA enl ecl, .slice eB enm ecm] 44)
        have HS2 := Lib.hid (s2.up h6)
        have HRM := Lib.hid r2
        have HPP := Lib.hid hpp
        clear hI eP eKl r1 r2 s1 s2 hf hev hek HAT hpp h6 ebl
        go_wp2_with fail
        refine (refnames_calls _).mono ?_
        rintro e w7 ⟨rfl, b7, hn7⟩
        have HN7 := Lib.hid hn7
        have HB7 := Lib.hid (HB6.out.then_ b7)
        have HM7 := Lib.hid (HM6.out.later b7)
        have HS7 := Lib.hid (HS2.out.up b7)
        have hm7 := HM6.out.later b7
        have d0 := hm7.cell (k := 0) rfl; have d1 := hm7.cell (k := 1) rfl; have d6 := hm7.cell (k := 6) rfl
        have hgn : (w5.alloc (.cells #[.string ⟨ek.toArray⟩, .int .i64 eu.kd, .bool eu.is, .int .i64 eu.n, .string ⟨eu.s.toArray⟩, .slice eA enl ecl, .slice eB enm ecm] 44)).heap.size < w7.heap.size := HN7.out.lt
        rw [show (w5.alloc (.cells #[.string ⟨ek.toArray⟩, .int .i64 eu.kd, .bool eu.is, .int .i64 eu.n, .string ⟨eu.s.toArray⟩, .slice eA enl ecl, .slice eB enm ecm] 44)).heap.size = w5.heap.size + 1 by simp] at hgn
        clear hn7 b7 hm7 eK f0 f1 f2 f3 f4 f5
        have hst2 := Lib.hid (show loneB ek eu = (lonN.drop 0).any (fun p => ek == p.1 && eu.kd != 2) from rfl)
        go_wp2_with fail
        go_loopw [21] (fun i wz => ∃ j : Nat, j ≤ 7 ∧ i = .int .i64 (j : Int) ∧ Hid (Below w7.heap.size w7 wz) ∧ Hid (loneB ek eu = (lonN.drop j).any (fun p => ek == p.1 && eu.kd != 2))) (fun i _ => 7 - (intOf i).toNat)
        case atStart => exact ⟨0, Nat.zero_le _, rfl, Lib.hid (Below.refl _ _), hst2⟩
        case round =>
          obtain ⟨j, hj, rfl, hBj, hJ⟩ := hrel
          by_cases hlt2 : j < 7
          · have hjl : j < lonN.length := hlt2
            have k0 := (HN7.out.later hBj.out).cell (n7_at j hjl)
            rw [show (w5.alloc (.cells #[.string ⟨ek.toArray⟩, .int .i64 eu.kd, .bool eu.is, .int .i64 eu.n, .string ⟨eu.s.toArray⟩, .slice eA enl ecl, .slice eB enm ecm] 44)).heap.size = w5.heap.size + 1 by simp] at k0
            have hat := any_at (fun p : List UInt8 × Int => ek == p.1 && eu.kd != 2) hjl
            obtain ⟨nm, hnm⟩ : ∃ nm, (lonN[j]).1 = nm := ⟨_, rfl⟩
            rw [hnm] at k0 hat
            have hmz := HM7.out.later hBj.out
            have d0 := hmz.cell (k := 0) rfl; have d1 := hmz.cell (k := 1) rfl
            clear hmz hnm
            by_cases hne : ek = nm
            · have hne2 : (ek == nm) = true := by rw [beq_iff_eq]; exact hne
              by_cases h2 : eu.kd = 2
              · have hn2 := kd_eq h2
                have HF := Lib.hid (show loneB ek eu = (lonN.drop (j + 1)).any (fun p => ek == p.1 && eu.kd != 2) by rw [hJ.out, hat, hn2]; simp)
                clear h2 hne hat hJ
                go_wp2_with fail
                go_roundw
                case rel => exact ⟨j + 1, by omega, by go_num, hBj, HF⟩
                case measure => simp [intOf]; omega
              · have hn2 := kd_ne h2
                have HF := Lib.hid (show validF v = false by rw [HE2.out, HI2.out, badM_lone (by rw [hJ.out, hat, hne2, hn2]; rfl)]; rfl)
                have HB9 := Lib.hid (HB7.out.then_ hBj.out)
                clear h2 hne hat hJ
                go_wp2_with fail
                go_ret
                rw [HF.out]
                exact ⟨rfl, HB9.out⟩
            · have hne2 : (ek == nm) = false := by rw [beq_eq_false_iff_ne]; exact hne
              have HF := Lib.hid (show loneB ek eu = (lonN.drop (j + 1)).any (fun p => ek == p.1 && eu.kd != 2) by rw [hJ.out, hat, hne2]; rfl)
              clear hne hat hJ
              go_wp2_with fail
              go_roundw
              case rel => exact ⟨j + 1, by omega, by go_num, hBj, HF⟩
              case measure => simp [intOf]; omega
          · obtain rfl : j = 7 := by omega
            have HLB := Lib.hid (show loneB ek eu = false by rw [hJ.out]; rfl)
            obtain ⟨w8, hw8⟩ : ∃ x, x = wr := ⟨_, rfl⟩
            subst hw8
            have HB8 := Lib.hid (HB7.out.then_ hBj.out)
            have HM8 := Lib.hid (HM7.out.later hBj.out)
            have HS8 := Lib.hid (HS7.out.up hBj.out)
            have hm8 := HM7.out.later hBj.out
            have d0 := hm8.cell (k := 0) rfl; have d1 := hm8.cell (k := 1) rfl; have d6 := hm8.cell (k := 6) rfl
            clear hm8 hJ hBj
            by_cases hu : ek = [117, 115, 101, 114, 115]
            · have hu2 : (ek == [117, 115, 101, 114, 115]) = true := by rw [beq_iff_eq]; exact hu
              have HTB := Lib.hid (show isTab ek = true by rw [hu]; rfl)
              clear hu
              by_cases h5 : eu.kd = 5
              · have hn5' := kd_eq h5
                have HIN := Lib.hid (badM_in HLB.out HTB.out h5)
                have hst3 := Lib.hid (show badM ek eu = anyK (wrongM ek) (eu.m.fall 0) by rw [JT.fall_zero]; exact HIN.out)
                have hnm47 : enm ≤ 140737488355328 := Nat.le_trans HRM.out.2.1 HRM.out.2.2
                clear h5
                go_wp2_with fail
                go_loopw [57] (fun i wz => ∃ r : Nat, r ≤ enm ∧ i = .int .i64 (r : Int) ∧ Hid (Below w8.heap.size w8 wz) ∧ Hid (badM ek eu = anyK (wrongM ek) (eu.m.fall r))) (fun i _ => enm - (intOf i).toNat)
                case atStart => exact ⟨0, Nat.zero_le _, rfl, Lib.hid (Below.refl _ _), hst3⟩
                case round =>
                  obtain ⟨r, hr, rfl, hBr, hR⟩ := hrel
                  by_cases hlt3 : r < enm
                  · have HLR := Lib.hid (show r < eu.m.ext by rw [← HRM.out.1]; exact hlt3)
                    obtain ⟨xb, xo, xA, xnl, xcl, xB, xnm, xcm, rfl, xP, xbl, xK, xKl, g0, g1, g2, g3, g4, g5, y1, y2, z1, z2, yf⟩ := (HS8.out.up hBr.out).mb (i := r) _ HLR.out
                    have hxl := HPP.out r HLR.out
                    have hat := anyK_at (wrongM ek) HLR.out
                    obtain ⟨xu, hxu⟩ : ∃ xu, (eu.m.fall r).val = xu := ⟨_, rfl⟩
                    obtain ⟨xk, hxk⟩ : ∃ xk, (eu.m.fall r).key = xk := ⟨_, rfl⟩
                    rw [hxu] at g0 g1 g2 g3 hat
                    rw [hxk] at xK hxl hat
                    have HR2 := Lib.hid (hR.out.trans hat)
                    have hz9 : Below wr.heap.size wr (wr.alloc (.cells #[.string ⟨xk.toArray⟩, .int .i64 xu.kd, .bool xu.is, .int .i64 xu.n, .string ⟨xu.s.toArray⟩, .slice xA xnl xcl, .slice xB xnm xcm] 44)) := (Below.refl _ _).alloc (Nat.le_refl _) _
                    have HBZ := Lib.hid (hBr.out.then_ hz9)
                    have hmz := HM8.out.later (hBr.out.then_ hz9)
                    have d0 := hmz.cell (k := 0) rfl
                    clear xP xKl y1 y2 z1 z2 yf hxu hxk hat hR hmz hz9
                    by_cases h2 : xu.kd = 2
                    · have hn2 := kd_eq h2
                      clear h2
                      cases hu : nUserF xk with
                      | true =>
                        have HU := Lib.hid hu
                        have HW := Lib.hid (show wrongM ek xk xu = false by unfold wrongM; rw [hn2, hu]; simp)
                        clear hu
                        have HF := Lib.hid (show badM ek eu = anyK (wrongM ek) (eu.m.fall (r + 1)) by rw [HR2.out, HW.out]; rfl)
                        go_wp2_with fail
                        refine (nRefuser_calls xk _ hxl).mono ?_
                        rintro e w9 ⟨rfl, rfl⟩
                        rw [HU.out]
                        go_wp2_with fail
                        go_roundw
                        case rel =>
                          first
                            | exact ⟨r + 1, by omega, by go_num, HBZ, HF⟩
                            | (repeat apply Exists.intro
                               refine ⟨⟨r + 1, by omega, ?e1, HBZ, HF⟩, ?f1⟩
                               case f1 => rfl
                               case e1 => go_num)
                        case measure => simp [intOf]; omega
                      | false =>
                        have HU := Lib.hid hu
                        have HW := Lib.hid (show wrongM ek xk xu = true by unfold wrongM; rw [hn2, hu, show (ek == usersK) = true from hu2]; rfl)
                        have HF := Lib.hid (show validF v = false by rw [HE2.out, HI2.out, HR2.out, HW.out]; rfl)
                        have HB9 := Lib.hid (HB8.out.then_ HBZ.out)
                        clear hu
                        go_wp2_with fail
                        refine (nRefuser_calls xk _ hxl).mono ?_
                        rintro e w9 ⟨rfl, rfl⟩
                        rw [HU.out]
                        go_wp2_with fail
                        go_ret
                        rw [HF.out]
                        exact ⟨rfl, HB9.out⟩
                    · have hn2 := kd_ne h2
                      have HF := Lib.hid (show validF v = false by rw [HE2.out, HI2.out, HR2.out, show wrongM ek xk xu = true by unfold wrongM; rw [hn2]; rfl]; rfl)
                      have HB9 := Lib.hid (HB8.out.then_ HBZ.out)
                      clear h2
                      go_wp2_with fail
                      go_ret
                      rw [HF.out]
                      exact ⟨rfl, HB9.out⟩
                  · obtain rfl : r = enm := by omega
                    have HF := Lib.hid (show av = anyK badM (v.m.fall (q + 1)) by rw [HI2.out, hR.out, anyK_end (wrongM ek) (by rw [← HRM.out.1]; exact Nat.le_refl _)]; rfl)
                    have HB9 := Lib.hid (HB8.out.then_ hBr.out)
                    clear hR
                    go_wp2_with fail
                    go_roundw
                    case rel =>
                      first
                        | exact ⟨q + 1, by omega, by go_num, HB9, HF⟩
                        | (repeat apply Exists.intro
                           refine ⟨⟨q + 1, by omega, ?e1, HB9, HF⟩, ?f1⟩
                           case f1 => rfl
                           case e1 => go_num)
                    case measure => simp [intOf]; omega
              · have hn5' := kd_ne h5
                have HF := Lib.hid (show validF v = false by rw [HE2.out, HI2.out, badM_kd HLB.out HTB.out h5]; rfl)
                clear h5
                go_wp2_with fail
                go_ret
                rw [HF.out]
                exact ⟨rfl, HB8.out⟩
            · have hu2 : (ek == [117, 115, 101, 114, 115]) = false := by rw [beq_eq_false_iff_ne]; exact hu
              by_cases he : ek = [101, 118, 101, 110, 116, 115]
              · have he2 : (ek == [101, 118, 101, 110, 116, 115]) = true := by rw [beq_iff_eq]; exact he
                have HTB := Lib.hid (show isTab ek = true by rw [he]; rfl)
                clear hu he
                by_cases h5 : eu.kd = 5
                · have hn5' := kd_eq h5
                  have HIN := Lib.hid (badM_in HLB.out HTB.out h5)
                  have hst3 := Lib.hid (show badM ek eu = anyK (wrongM ek) (eu.m.fall 0) by rw [JT.fall_zero]; exact HIN.out)
                  have hnm47 : enm ≤ 140737488355328 := Nat.le_trans HRM.out.2.1 HRM.out.2.2
                  clear h5
                  go_wp2_with fail
                  go_loopw [57] (fun i wz => ∃ r : Nat, r ≤ enm ∧ i = .int .i64 (r : Int) ∧ Hid (Below w8.heap.size w8 wz) ∧ Hid (badM ek eu = anyK (wrongM ek) (eu.m.fall r))) (fun i _ => enm - (intOf i).toNat)
                  case atStart => exact ⟨0, Nat.zero_le _, rfl, Lib.hid (Below.refl _ _), hst3⟩
                  case round =>
                    obtain ⟨r, hr, rfl, hBr, hR⟩ := hrel
                    by_cases hlt3 : r < enm
                    · have HLR := Lib.hid (show r < eu.m.ext by rw [← HRM.out.1]; exact hlt3)
                      obtain ⟨xb, xo, xA, xnl, xcl, xB, xnm, xcm, rfl, xP, xbl, xK, xKl, g0, g1, g2, g3, g4, g5, y1, y2, z1, z2, yf⟩ := (HS8.out.up hBr.out).mb (i := r) _ HLR.out
                      have hxl := HPP.out r HLR.out
                      have hat := anyK_at (wrongM ek) HLR.out
                      obtain ⟨xu, hxu⟩ : ∃ xu, (eu.m.fall r).val = xu := ⟨_, rfl⟩
                      obtain ⟨xk, hxk⟩ : ∃ xk, (eu.m.fall r).key = xk := ⟨_, rfl⟩
                      rw [hxu] at g0 g1 g2 g3 hat
                      rw [hxk] at xK hxl hat
                      have HR2 := Lib.hid (hR.out.trans hat)
                      have hz9 : Below wr.heap.size wr (wr.alloc (.cells #[.string ⟨xk.toArray⟩, .int .i64 xu.kd, .bool xu.is, .int .i64 xu.n, .string ⟨xu.s.toArray⟩, .slice xA xnl xcl, .slice xB xnm xcm] 44)) := (Below.refl _ _).alloc (Nat.le_refl _) _
                      have HBZ := Lib.hid (hBr.out.then_ hz9)
                      have hmz := HM8.out.later (hBr.out.then_ hz9)
                      have d0 := hmz.cell (k := 0) rfl
                      clear xP xKl y1 y2 z1 z2 yf hxu hxk hat hR hmz hz9
                      by_cases h2 : xu.kd = 2
                      · have hn2 := kd_eq h2
                        clear h2
                        have HW := Lib.hid (show wrongM ek xk xu = false by unfold wrongM; rw [hn2, show (ek == usersK) = false from hu2]; rfl)
                        have HF := Lib.hid (show badM ek eu = anyK (wrongM ek) (eu.m.fall (r + 1)) by rw [HR2.out, HW.out]; rfl)
                        go_wp2_with fail
                        go_roundw
                        case rel =>
                          first
                            | exact ⟨r + 1, by omega, by go_num, HBZ, HF⟩
                            | (repeat apply Exists.intro
                               refine ⟨⟨r + 1, by omega, ?e1, HBZ, HF⟩, ?f1⟩
                               case f1 => rfl
                               case e1 => go_num)
                        case measure => simp [intOf]; omega
                      · have hn2 := kd_ne h2
                        have HF := Lib.hid (show validF v = false by rw [HE2.out, HI2.out, HR2.out, show wrongM ek xk xu = true by unfold wrongM; rw [hn2]; rfl]; rfl)
                        have HB9 := Lib.hid (HB8.out.then_ HBZ.out)
                        clear h2
                        go_wp2_with fail
                        go_ret
                        rw [HF.out]
                        exact ⟨rfl, HB9.out⟩
                    · obtain rfl : r = enm := by omega
                      have HF := Lib.hid (show av = anyK badM (v.m.fall (q + 1)) by rw [HI2.out, hR.out, anyK_end (wrongM ek) (by rw [← HRM.out.1]; exact Nat.le_refl _)]; rfl)
                      have HB9 := Lib.hid (HB8.out.then_ hBr.out)
                      clear hR
                      go_wp2_with fail
                      go_roundw
                      case rel =>
                        first
                          | exact ⟨q + 1, by omega, by go_num, HB9, HF⟩
                          | (repeat apply Exists.intro
                             refine ⟨⟨q + 1, by omega, ?e1, HB9, HF⟩, ?f1⟩
                             case f1 => rfl
                             case e1 => go_num)
                      case measure => simp [intOf]; omega
                · have hn5' := kd_ne h5
                  have HF := Lib.hid (show validF v = false by rw [HE2.out, HI2.out, badM_kd HLB.out HTB.out h5]; rfl)
                  clear h5
                  go_wp2_with fail
                  go_ret
                  rw [HF.out]
                  exact ⟨rfl, HB8.out⟩
              · have he2 : (ek == [101, 118, 101, 110, 116, 115]) = false := by rw [beq_eq_false_iff_ne]; exact he
                by_cases hn : ek = [110, 111, 116, 105, 102, 105, 99, 97, 116, 105, 111, 110, 115]
                · have hn2 : (ek == [110, 111, 116, 105, 102, 105, 99, 97, 116, 105, 111, 110, 115]) = true := by rw [beq_iff_eq]; exact hn
                  have HTB := Lib.hid (show isTab ek = true by rw [hn]; rfl)
                  clear hu he hn
                  by_cases h5 : eu.kd = 5
                  · have hn5' := kd_eq h5
                    have HIN := Lib.hid (badM_in HLB.out HTB.out h5)
                    have hst3 := Lib.hid (show badM ek eu = anyK (wrongM ek) (eu.m.fall 0) by rw [JT.fall_zero]; exact HIN.out)
                    have hnm47 : enm ≤ 140737488355328 := Nat.le_trans HRM.out.2.1 HRM.out.2.2
                    clear h5
                    go_wp2_with fail
                    go_loopw [57] (fun i wz => ∃ r : Nat, r ≤ enm ∧ i = .int .i64 (r : Int) ∧ Hid (Below w8.heap.size w8 wz) ∧ Hid (badM ek eu = anyK (wrongM ek) (eu.m.fall r))) (fun i _ => enm - (intOf i).toNat)
                    case atStart => exact ⟨0, Nat.zero_le _, rfl, Lib.hid (Below.refl _ _), hst3⟩
                    case round =>
                      obtain ⟨r, hr, rfl, hBr, hR⟩ := hrel
                      by_cases hlt3 : r < enm
                      · have HLR := Lib.hid (show r < eu.m.ext by rw [← HRM.out.1]; exact hlt3)
                        obtain ⟨xb, xo, xA, xnl, xcl, xB, xnm, xcm, rfl, xP, xbl, xK, xKl, g0, g1, g2, g3, g4, g5, y1, y2, z1, z2, yf⟩ := (HS8.out.up hBr.out).mb (i := r) _ HLR.out
                        have hxl := HPP.out r HLR.out
                        have hat := anyK_at (wrongM ek) HLR.out
                        obtain ⟨xu, hxu⟩ : ∃ xu, (eu.m.fall r).val = xu := ⟨_, rfl⟩
                        obtain ⟨xk, hxk⟩ : ∃ xk, (eu.m.fall r).key = xk := ⟨_, rfl⟩
                        rw [hxu] at g0 g1 g2 g3 hat
                        rw [hxk] at xK hxl hat
                        have HR2 := Lib.hid (hR.out.trans hat)
                        have hz9 : Below wr.heap.size wr (wr.alloc (.cells #[.string ⟨xk.toArray⟩, .int .i64 xu.kd, .bool xu.is, .int .i64 xu.n, .string ⟨xu.s.toArray⟩, .slice xA xnl xcl, .slice xB xnm xcm] 44)) := (Below.refl _ _).alloc (Nat.le_refl _) _
                        have HBZ := Lib.hid (hBr.out.then_ hz9)
                        have hmz := HM8.out.later (hBr.out.then_ hz9)
                        have d0 := hmz.cell (k := 0) rfl
                        clear xP xKl y1 y2 z1 z2 yf hxu hxk hat hR hmz hz9
                        by_cases h2 : xu.kd = 2
                        · have hn2 := kd_eq h2
                          clear h2
                          have HW := Lib.hid (show wrongM ek xk xu = false by unfold wrongM; rw [hn2, show (ek == usersK) = false from hu2]; rfl)
                          have HF := Lib.hid (show badM ek eu = anyK (wrongM ek) (eu.m.fall (r + 1)) by rw [HR2.out, HW.out]; rfl)
                          go_wp2_with fail
                          go_roundw
                          case rel =>
                            first
                              | exact ⟨r + 1, by omega, by go_num, HBZ, HF⟩
                              | (repeat apply Exists.intro
                                 refine ⟨⟨r + 1, by omega, ?e1, HBZ, HF⟩, ?f1⟩
                                 case f1 => rfl
                                 case e1 => go_num)
                          case measure => simp [intOf]; omega
                        · have hn2 := kd_ne h2
                          have HF := Lib.hid (show validF v = false by rw [HE2.out, HI2.out, HR2.out, show wrongM ek xk xu = true by unfold wrongM; rw [hn2]; rfl]; rfl)
                          have HB9 := Lib.hid (HB8.out.then_ HBZ.out)
                          clear h2
                          go_wp2_with fail
                          go_ret
                          rw [HF.out]
                          exact ⟨rfl, HB9.out⟩
                      · obtain rfl : r = enm := by omega
                        have HF := Lib.hid (show av = anyK badM (v.m.fall (q + 1)) by rw [HI2.out, hR.out, anyK_end (wrongM ek) (by rw [← HRM.out.1]; exact Nat.le_refl _)]; rfl)
                        have HB9 := Lib.hid (HB8.out.then_ hBr.out)
                        clear hR
                        go_wp2_with fail
                        go_roundw
                        case rel =>
                          first
                            | exact ⟨q + 1, by omega, by go_num, HB9, HF⟩
                            | (repeat apply Exists.intro
                               refine ⟨⟨q + 1, by omega, ?e1, HB9, HF⟩, ?f1⟩
                               case f1 => rfl
                               case e1 => go_num)
                        case measure => simp [intOf]; omega
                  · have hn5' := kd_ne h5
                    have HF := Lib.hid (show validF v = false by rw [HE2.out, HI2.out, badM_kd HLB.out HTB.out h5]; rfl)
                    clear h5
                    go_wp2_with fail
                    go_ret
                    rw [HF.out]
                    exact ⟨rfl, HB8.out⟩
                · have hn2 : (ek == [110, 111, 116, 105, 102, 105, 99, 97, 116, 105, 111, 110, 115]) = false := by rw [beq_eq_false_iff_ne]; exact hn
                  have HTB := Lib.hid (show isTab ek = false by
                    unfold isTab tabN
                    simp only [List.any_cons, List.any_nil, Bool.or_false, Bool.or_eq_false_iff, beq_eq_false_iff_ne]
                    exact ⟨fun x => he x.symm, fun x => hn x.symm, fun x => hu x.symm⟩)
                  have HF := Lib.hid (show av = anyK badM (v.m.fall (q + 1)) by rw [HI2.out, badM_no HLB.out HTB.out]; rfl)
                  have HB9 := HB8
                  clear hu he hn
                  go_wp2_with fail
                  go_roundw
                  case rel =>
                    first
                      | exact ⟨q + 1, by omega, by go_num, HB9, HF⟩
                      | (repeat apply Exists.intro
                         refine ⟨⟨q + 1, by omega, ?e1, HB9, HF⟩, ?f1⟩
                         case f1 => rfl
                         case e1 => go_num)
                  case measure => simp [intOf]; omega
      · obtain rfl : q = nm0 := by omega
        have HF := Lib.hid (show validF v = true by rw [HE2.out, hI.out, anyK_end badM (by rw [← HN.out]; exact Nat.le_refl _)]; rfl)
        clear hI
        go_wp2_with fail
        go_ret
        rw [HF.out]
        exact ⟨rfl, hB.out⟩
  · have hn5 := kd_ne h5
    have HE2 := Lib.hid (show validF v = false by rw [HE.out]; simp [h5])
    clear h5
    go_enter Tryd.func14, Tryd.ntmps14
    go_wp2_with fail
    go_ret
    rw [HE2.out]
    exact ⟨rfl, HB.out⟩
end Go.Proofs.YtmfefeemkhncfaaDoor
