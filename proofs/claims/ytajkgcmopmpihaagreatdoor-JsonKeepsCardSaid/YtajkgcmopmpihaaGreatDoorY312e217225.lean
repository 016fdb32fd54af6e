/- Texts put together: JvI. -/
import Derived.Test.YtajkgcmopmpihaaGreatDoorYd7ba4700c6
import Derived.Test.YtajkgcmopmpihaaGreatDoorY6376f27b79
namespace Go.Proofs.YtajkgcmopmpihaaGreatDoor
open Go.ChangeShapes Go.WideShapes Go.ChangeAt Go.RowKit Go.IntWalk
set_option linter.unusedVariables false
set_option maxRecDepth 100000
def sameT : Bool → JT → JT → Bool
 | _, .nil, .nil => true
 | mem, .cons k kd is n s l m r, .cons k' kd' is' n' s' l' m' r' =>
  (!mem || k == k') && ((kd == kd' && (is == is' && (n == n' && (s == s' && (l.ext == l'.ext && m.ext == m'.ext))))) && (sameT false l l' && sameT true m m')) && sameT mem r r'
 | _, _, _ => false
def headB (a b : Jv) : Bool := a.kd == b.kd && (a.is == b.is && (a.n == b.n && (a.s == b.s && (a.l.ext == b.l.ext && a.m.ext == b.m.ext))))
def sameV (a b : Jv) : Bool := headB a b && (sameT false a.l b.l && sameT true a.m b.m)
theorem sameT_refl : ∀ (t : JT) (mem : Bool), sameT mem t t = true
 | .nil, _ => rfl
 | .cons k kd is n s l m r, mem => by
  simp only [sameT, sameT_refl l, sameT_refl m, sameT_refl r, beq_self_eq_true, Bool.or_true, Bool.and_self]
theorem sameV_refl (a : Jv) : sameV a a = true := by
 simp only [sameV, headB, sameT_refl, beq_self_eq_true, Bool.and_self]
theorem same_step {t u : JT} {mem : Bool} {i : Nat} (h1 : i < t.ext) (h2 : i < u.ext) :
  sameT mem (t.fall i) (u.fall i) = ((!mem || (t.fall i).key == (u.fall i).key) && sameV (t.fall i).val (u.fall i).val && sameT mem (t.fall (i + 1)) (u.fall (i + 1))) := by
 have e1 := t.fall_of_lt i h1
 have e2 := u.fall_of_lt i h2
 rw [congrArg (fun x => sameT mem x (u.fall i)) e1, congrArg (fun x => sameT mem (JT.one (t.fall i).key (t.fall i).val (t.fall (i + 1))) x) e2]
 rfl
theorem same_end {t u : JT} {mem : Bool} {i : Nat} (h1 : t.ext ≤ i) (h2 : u.ext ≤ i) : sameT mem (t.fall i) (u.fall i) = true := by
 rw [t.fall_all i h1, u.fall_all i h2]; rfl
theorem int_ne {m n : Nat} (h : ¬ m = n) : ((m : Int) != (n : Int)) = true := by rw [bne_iff_ne]; omega
theorem int_eq {m n : Nat} (h : m = n) : ((m : Int) != (n : Int)) = false := by simp [h]
set_option maxHeartbeats 16000000 in
theorem same_calls : ∀ (N : Nat) (a b : Jv) (A0 B0 A1 B1 : Option Addr) (nl0 cl0 nm0 cm0 nl1 cl1 nm1 cm1 : Nat) (w : World), a.bulk ≤ N → VOk w a A0 B0 nl0 cl0 nm0 cm0 → VOk w b A1 B1 nl1 cl1 nm1 cm1 →
  Calls Tryz.prog 10 #[.agg #[.int .i64 a.kd, .bool a.is, .int .i64 a.n, .string ⟨a.s.toArray⟩, .slice A0 nl0 cl0, .slice B0 nm0 cm0], .agg #[.int .i64 b.kd, .bool b.is, .int .i64 b.n, .string ⟨b.s.toArray⟩, .slice A1 nl1 cl1, .slice B1 nm1 cm1]] w fun e w' => e = .returned (.bool (sameV a b)) ∧ Below w.heap.size w w' := by
 intro N
 induction N with
 | zero => intro a b A0 B0 A1 B1 nl0 cl0 nm0 cm0 nl1 cl1 nm1 cm1 w hb; unfold Jv.bulk at hb; omega
 | succ N IH =>
  intro a b A0 B0 A1 B1 nl0 cl0 nm0 cm0 nl1 cl1 nm1 cm1 w hb hv hu
  have HIH := Lib.hid IH
  clear IH
  have b2 : Below w.heap.size w ((w.alloc (.cells #[.int .i64 a.kd, .bool a.is, .int .i64 a.n, .string ⟨a.s.toArray⟩, .slice A0 nl0 cl0, .slice B0 nm0 cm0] 25)).alloc (.cells #[.int .i64 b.kd, .bool b.is, .int .i64 b.n, .string ⟨b.s.toArray⟩, .slice A1 nl1 cl1, .slice B1 nm1 cm1] 25)) := ((Below.refl _ _).alloc (Nat.le_refl _) _).alloc (by simp) _
  have HB := Lib.hid b2
  have HX := Lib.hid ((Blk.new w [.int .i64 a.kd, .bool a.is, .int .i64 a.n, .string ⟨a.s.toArray⟩, .slice A0 nl0 cl0, .slice B0 nm0 cm0] 25).alloc (.cells #[.int .i64 b.kd, .bool b.is, .int .i64 b.n, .string ⟨b.s.toArray⟩, .slice A1 nl1 cl1, .slice B1 nm1 cm1] 25))
  have HZ := Lib.hid (show Blk ((w.alloc (.cells #[.int .i64 a.kd, .bool a.is, .int .i64 a.n, .string ⟨a.s.toArray⟩, .slice A0 nl0 cl0, .slice B0 nm0 cm0] 25)).alloc (.cells #[.int .i64 b.kd, .bool b.is, .int .i64 b.n, .string ⟨b.s.toArray⟩, .slice A1 nl1 cl1, .slice B1 nm1 cm1] 25)) (w.heap.size + 1) 25 [.int .i64 b.kd, .bool b.is, .int .i64 b.n, .string ⟨b.s.toArray⟩, .slice A1 nl1 cl1, .slice B1 nm1 cm1] by have h := Blk.new (w.alloc (.cells #[.int .i64 a.kd, .bool a.is, .int .i64 a.n, .string ⟨a.s.toArray⟩, .slice A0 nl0 cl0, .slice B0 nm0 cm0] 25)) [.int .i64 b.kd, .bool b.is, .int .i64 b.n, .string ⟨b.s.toArray⟩, .slice A1 nl1 cl1, .slice B1 nm1 cm1] 25; rw [show (w.alloc (.cells #[.int .i64 a.kd, .bool a.is, .int .i64 a.n, .string ⟨a.s.toArray⟩, .slice A0 nl0 cl0, .slice B0 nm0 cm0] 25)).heap.size = w.heap.size + 1 by simp] at h; exact h)
  have hbl : ∀ i, i < a.l.ext → (a.l.fall i).val.bulk ≤ N := fun i hi => by have h1 := JT.bulk_val a.l i hi; unfold Jv.bulk at hb; omega
  have hbm : ∀ i, i < a.m.ext → (a.m.fall i).val.bulk ≤ N := fun i hi => by have h1 := JT.bulk_val a.m i hi; unfold Jv.bulk at hb; omega
  obtain ⟨⟨hn1, hn2, hn3⟩, ⟨hn4, hn5, hn6⟩, hs1, hs2, hf⟩ := hv
  obtain ⟨⟨hk1, hk2, hk3⟩, ⟨hk4, hk5, hk6⟩, ht1, ht2, hf2⟩ := hu
  have HN := Lib.hid (And.intro (And.intro hn1 hn4) (And.intro hk1 hk4))
  have HS := Lib.hid (And.intro (And.intro hs1 hs2) (And.intro ht1 ht2))
  have HBL := Lib.hid (And.intro hbl hbm)
  clear b2 hbl hbm hn1 hn2 hn4 hn5 hk1 hk2 hk4 hk5 hs1 hs2 hf ht1 ht2 hf2 hb
  by_cases q0 : a.kd = b.kd
  ·have q0a : (a.kd != b.kd) = false := by simp [q0]
   by_cases q1 : a.is = b.is
   ·have q1a : (b.is != b.is) = false := by simp
    simp only [q1] at HB HX HZ ⊢
    by_cases q2 : a.n = b.n
    ·have q2a : (a.n != b.n) = false := by simp [q2]
     by_cases q3 : a.s = b.s
     ·have q3a : (a.s == b.s) = true := by simp [q3]
      have q3b : (a.s != b.s) = false := by simp [q3]
      by_cases q4 : nl0 = nl1
      ·have q4a : ((nl0 : Int) != (nl1 : Int)) = false := int_eq q4
       by_cases q5 : nm0 = nm1
       ·have q5a : ((nm0 : Int) != (nm1 : Int)) = false := int_eq q5
        subst q4 q5
        have HE := Lib.hid (show sameV a b = (sameT false a.l b.l && sameT true a.m b.m) by
         unfold sameV headB
         rw [q0, q1, q2, q3, show (a.l.ext == b.l.ext) = true by rw [← HN.out.1.1, ← HN.out.2.1]; simp, show (a.m.ext == b.m.ext) = true by rw [← HN.out.1.2, ← HN.out.2.2]; simp]
         simp)
        obtain ⟨SL, hSL⟩ : ∃ x, sameT false a.l b.l = x := ⟨_, rfl⟩
        rw [hSL] at HE
        have hst0 := Lib.hid (show SL = sameT false (a.l.fall 0) (b.l.fall 0) by rw [JT.fall_zero, JT.fall_zero]; exact hSL.symm)
        clear q0 q1 q2 q3 hSL
        go_enter Tryz.func10, Tryz.ntmps10
        go_wp2_with fail
        refine wp_gen (fun W => Below w.heap.size w W ∧ Blk W w.heap.size 25 [.int .i64 a.kd, .bool b.is, .int .i64 a.n, .string ⟨a.s.toArray⟩, .slice A0 nl0 cl0, .slice B0 nm0 cm0] ∧ Blk W (w.heap.size + 1) 25 [.int .i64 b.kd, .bool b.is, .int .i64 b.n, .string ⟨b.s.toArray⟩, .slice A1 nl0 cl1, .slice B1 nm0 cm1]) ⟨HB.out, HX.out, HZ.out⟩ ?_
        clear HB HX HZ
        rintro wg ⟨gb, gx, gz⟩
        have HB := Lib.hid gb
        have HX := Lib.hid gx
        have HZ := Lib.hid gz
        clear gb gx gz
        go_loopw [54] (fun i wr => ∃ k : Nat, k ≤ nl0 ∧ i = .int .i64 (k : Int) ∧ Hid (Below wg.heap.size wg wr) ∧ Hid (SL = sameT false (a.l.fall k) (b.l.fall k))) (fun i _ => nl0 - (intOf i).toNat)
        case atStart => exact ⟨0, Nat.zero_le _, rfl, Lib.hid (Below.refl _ _), hst0⟩
        case round =>
         obtain ⟨k, hk, rfl, hBr, hI⟩ := hrel
         have HBW := Lib.hid (HB.out.then_ hBr.out)
         by_cases hlt : k < nl0
         ·have HLT := Lib.hid (show k < a.l.ext by rw [← HN.out.1.1]; exact hlt)
          have HLU := Lib.hid (show k < b.l.ext by rw [← HN.out.2.1]; exact hlt)
          obtain ⟨ab, ao, rfl, aP, abl, aK, cs, ra, eA, enl, ecl, eB, enm, ecm, rfl, x1, x2, x3, x4, x5⟩ := (HS.out.1.1.up HBW.out).at_ (i := k) HLT.out
          obtain ⟨bb, bo, rfl, bP, bbl, bK, cs, rb, gA, gnl, gcl, gB, gnm, gcm, rfl, y1, y2, y3, y4, y5⟩ := (HS.out.2.1.up HBW.out).at_ (i := k) HLU.out
          have hbu := HBL.out.1 k HLT.out
          have hst := same_step (mem := false) HLT.out HLU.out
          obtain ⟨eu, hev⟩ : ∃ eu, (a.l.fall k).val = eu := ⟨_, rfl⟩
          obtain ⟨gu, hgv⟩ : ∃ gu, (b.l.fall k).val = gu := ⟨_, rfl⟩
          rw [hev] at ra x1 x2 x3 x4 x5 hbu hst
          rw [hgv] at rb y1 y2 y3 y4 y5 hst
          have HVA := Lib.hid (show VOk wr eu eA eB enl ecl enm ecm from ⟨x1, x2, x3, x4, x5⟩)
          have HVB := Lib.hid (show VOk wr gu gA gB gnl gcl gnm gcm from ⟨y1, y2, y3, y4, y5⟩)
          have HRA := Lib.hid (show wr.rangeAt ab (ao + k * 6) [.int .i64 eu.kd, .bool eu.is, .int .i64 eu.n, .string ⟨eu.s.toArray⟩, .slice eA enl ecl, .slice eB enm ecm] ∧ ab < wr.heap.size from ⟨ra, abl⟩)
          have HRB := Lib.hid (show wr.rangeAt bb (bo + k * 6) [.int .i64 gu.kd, .bool gu.is, .int .i64 gu.n, .string ⟨gu.s.toArray⟩, .slice gA gnl gcl, .slice gB gnm gcm] ∧ bb < wr.heap.size from ⟨rb, bbl⟩)
          have HBU := Lib.hid hbu
          have HX3 := Lib.hid (HX.out.later hBr.out)
          have HZ3 := Lib.hid (HZ.out.later hBr.out)
          have d4 := HX3.out.cell (k := 4) rfl
          have e4 := HZ3.out.cell (k := 4) rfl
          have HI2 := Lib.hid (hI.out.trans hst)
          obtain ⟨sv, hsv⟩ : ∃ sv, sameV eu gu = sv := ⟨_, rfl⟩
          have HSV := Lib.hid hsv
          rw [hsv] at HI2
          clear ra rb x1 x2 x3 x4 x5 y1 y2 y3 y4 y5 hbu hst hev hgv hI aP bP aK bK hsv
          go_upto_region 6 with fail
          cases sv with
          | false =>
           have HE2 := Lib.hid (show sameV a b = false by rw [HE.out, HI2.out]; rfl)
           apply wp_region_ls (by kernel_rfl) (by kernel_rfl)
           apply ls_pure (.pointer (some ⟨w.heap.size, 4, none⟩)) rfl (by intro W; go_simp)
           simp only [Act.put, List.setIfInBounds_toArray, List.set_cons_succ, List.set_cons_zero]
           apply ls_cell (.slice (some ⟨ab, ao, none⟩) nl0 cl0) w.heap.size 4 d4 HX3.out.lt rfl (by intro W hW; go_simp)
           simp only [Act.put, List.setIfInBounds_toArray, List.set_cons_succ, List.set_cons_zero]
           apply ls_move (.int .i64 (k : Int)) (.tmp 5) rfl rfl rfl
           simp only [Act.put, List.setIfInBounds_toArray, List.set_cons_succ, List.set_cons_zero]
           apply ls_pure (.pointer (some ⟨ab, ao + k * 6, none⟩)) rfl (by intro W; go_simp)
           simp only [Act.put, List.setIfInBounds_toArray, List.set_cons_succ, List.set_cons_zero]
           apply ls_load 25 (.tmp 60) rfl ab (ao + k * 6) [.int .i64 eu.kd, .bool eu.is, .int .i64 eu.n, .string ⟨eu.s.toArray⟩, .slice eA enl ecl, .slice eB enm ecm] _ HRA.out.1 HRA.out.2 Tryz.underlying25 rfl size_valF rfl rfl
           simp only [Act.put, List.setIfInBounds_toArray, List.set_cons_succ, List.set_cons_zero]
           apply ls_pure (.pointer (some ⟨w.heap.size + 1, 4, none⟩)) rfl (by intro W; go_simp)
           simp only [Act.put, List.setIfInBounds_toArray, List.set_cons_succ, List.set_cons_zero]
           apply ls_cell (.slice (some ⟨bb, bo, none⟩) nl0 cl1) (w.heap.size + 1) 4 e4 HZ3.out.lt rfl (by intro W hW; go_simp)
           simp only [Act.put, List.setIfInBounds_toArray, List.set_cons_succ, List.set_cons_zero]
           apply ls_move (.int .i64 (k : Int)) (.tmp 5) rfl rfl rfl
           simp only [Act.put, List.setIfInBounds_toArray, List.set_cons_succ, List.set_cons_zero]
           apply ls_pure (.pointer (some ⟨bb, bo + k * 6, none⟩)) rfl (by intro W; go_simp)
           simp only [Act.put, List.setIfInBounds_toArray, List.set_cons_succ, List.set_cons_zero]
           apply ls_load 25 (.tmp 65) rfl bb (bo + k * 6) [.int .i64 gu.kd, .bool gu.is, .int .i64 gu.n, .string ⟨gu.s.toArray⟩, .slice gA gnl gcl, .slice gB gnm gcm] _ HRB.out.1 HRB.out.2 Tryz.underlying25 rfl size_valF rfl rfl
           simp only [Act.put, List.setIfInBounds_toArray, List.set_cons_succ, List.set_cons_zero]
           apply ls_callb (.bool false) 10 #[.agg #[.int .i64 eu.kd, .bool eu.is, .int .i64 eu.n, .string ⟨eu.s.toArray⟩, .slice eA enl ecl, .slice eB enm ecm], .agg #[.int .i64 gu.kd, .bool gu.is, .int .i64 gu.n, .string ⟨gu.s.toArray⟩, .slice gA gnl gcl, .slice gB gnm gcm]] rfl (by intro W; go_simp) (fun W hW => (HIH.out eu gu eA eB gA gB enl ecl enm ecm gnl gcl gnm gcm W HBU.out (HVA.out.below hW) (HVB.out.below hW)).mono fun e w' h => by rw [HSV.out] at h; exact h)
           simp only [Act.put, List.setIfInBounds_toArray, List.set_cons_succ, List.set_cons_zero]
           apply ls_pure (.bool true) rfl (by intro W; go_simp)
           simp only [Act.put, List.setIfInBounds_toArray, List.set_cons_succ, List.set_cons_zero]
           refine ls_nil (Rs := []) ?_
           intro w9 b9
           have HB9 := Lib.hid (HBW.out.then_ b9)
           clear b9
           go_wp2_with fail
           go_ret
           rw [HE2.out]
           exact ⟨rfl, HB9.out⟩
          | true =>
           have HI3 := Lib.hid (show SL = sameT false (a.l.fall (k + 1)) (b.l.fall (k + 1)) by rw [HI2.out]; rfl)
           apply wp_region_ls (by kernel_rfl) (by kernel_rfl)
           apply ls_pure (.pointer (some ⟨w.heap.size, 4, none⟩)) rfl (by intro W; go_simp)
           simp only [Act.put, List.setIfInBounds_toArray, List.set_cons_succ, List.set_cons_zero]
           apply ls_cell (.slice (some ⟨ab, ao, none⟩) nl0 cl0) w.heap.size 4 d4 HX3.out.lt rfl (by intro W hW; go_simp)
           simp only [Act.put, List.setIfInBounds_toArray, List.set_cons_succ, List.set_cons_zero]
           apply ls_move (.int .i64 (k : Int)) (.tmp 5) rfl rfl rfl
           simp only [Act.put, List.setIfInBounds_toArray, List.set_cons_succ, List.set_cons_zero]
           apply ls_pure (.pointer (some ⟨ab, ao + k * 6, none⟩)) rfl (by intro W; go_simp)
           simp only [Act.put, List.setIfInBounds_toArray, List.set_cons_succ, List.set_cons_zero]
           apply ls_load 25 (.tmp 60) rfl ab (ao + k * 6) [.int .i64 eu.kd, .bool eu.is, .int .i64 eu.n, .string ⟨eu.s.toArray⟩, .slice eA enl ecl, .slice eB enm ecm] _ HRA.out.1 HRA.out.2 Tryz.underlying25 rfl size_valF rfl rfl
           simp only [Act.put, List.setIfInBounds_toArray, List.set_cons_succ, List.set_cons_zero]
           apply ls_pure (.pointer (some ⟨w.heap.size + 1, 4, none⟩)) rfl (by intro W; go_simp)
           simp only [Act.put, List.setIfInBounds_toArray, List.set_cons_succ, List.set_cons_zero]
           apply ls_cell (.slice (some ⟨bb, bo, none⟩) nl0 cl1) (w.heap.size + 1) 4 e4 HZ3.out.lt rfl (by intro W hW; go_simp)
           simp only [Act.put, List.setIfInBounds_toArray, List.set_cons_succ, List.set_cons_zero]
           apply ls_move (.int .i64 (k : Int)) (.tmp 5) rfl rfl rfl
           simp only [Act.put, List.setIfInBounds_toArray, List.set_cons_succ, List.set_cons_zero]
           apply ls_pure (.pointer (some ⟨bb, bo + k * 6, none⟩)) rfl (by intro W; go_simp)
           simp only [Act.put, List.setIfInBounds_toArray, List.set_cons_succ, List.set_cons_zero]
           apply ls_load 25 (.tmp 65) rfl bb (bo + k * 6) [.int .i64 gu.kd, .bool gu.is, .int .i64 gu.n, .string ⟨gu.s.toArray⟩, .slice gA gnl gcl, .slice gB gnm gcm] _ HRB.out.1 HRB.out.2 Tryz.underlying25 rfl size_valF rfl rfl
           simp only [Act.put, List.setIfInBounds_toArray, List.set_cons_succ, List.set_cons_zero]
           apply ls_callb (.bool true) 10 #[.agg #[.int .i64 eu.kd, .bool eu.is, .int .i64 eu.n, .string ⟨eu.s.toArray⟩, .slice eA enl ecl, .slice eB enm ecm], .agg #[.int .i64 gu.kd, .bool gu.is, .int .i64 gu.n, .string ⟨gu.s.toArray⟩, .slice gA gnl gcl, .slice gB gnm gcm]] rfl (by intro W; go_simp) (fun W hW => (HIH.out eu gu eA eB gA gB enl ecl enm ecm gnl gcl gnm gcm W HBU.out (HVA.out.below hW) (HVB.out.below hW)).mono fun e w' h => by rw [HSV.out] at h; exact h)
           simp only [Act.put, List.setIfInBounds_toArray, List.set_cons_succ, List.set_cons_zero]
           apply ls_pure (.bool false) rfl (by intro W; go_simp)
           simp only [Act.put, List.setIfInBounds_toArray, List.set_cons_succ, List.set_cons_zero]
           refine ls_nil (Rs := []) ?_
           intro w9 b9
           have HB9 := Lib.hid (hBr.out.then_ b9)
           clear b9
           go_wp2_with fail
           go_roundw
           case rel => exact ⟨k + 1, by omega, by go_num, HB9, HI3⟩
           case measure => simp [intOf]; omega
         ·obtain rfl : k = nl0 := by omega
          obtain ⟨w3, hw3⟩ : ∃ x, x = wr := ⟨_, rfl⟩
          subst hw3
          have HE1 := Lib.hid (show sameV a b = sameT true a.m b.m by rw [HE.out, hI.out, same_end (by rw [← HN.out.1.1]; exact Nat.le_refl _) (by rw [← HN.out.2.1]; exact Nat.le_refl _)]; rfl)
          have hx3 := HX.out.later hBr.out
          have d5 := hx3.cell (k := 5) rfl
          have HB3 := hBr
          have hstm := Lib.hid (show sameV a b = sameT true (a.m.fall 0) (b.m.fall 0) by rw [JT.fall_zero, JT.fall_zero]; exact HE1.out)
          clear hx3 hI hBr HBW
          go_wp2_with fail
          clear d5
          go_loopw [73] (fun i wr => ∃ k : Nat, k ≤ nm0 ∧ i = .int .i64 (k : Int) ∧ Hid (Below wg.heap.size wg wr) ∧ Hid (sameV a b = sameT true (a.m.fall k) (b.m.fall k))) (fun i _ => nm0 - (intOf i).toNat)
          case atStart => exact ⟨0, Nat.zero_le _, rfl, HB3, hstm⟩
          case round =>
           obtain ⟨k, hk, rfl, hBr, hI⟩ := hrel
           have HBW := Lib.hid (HB.out.then_ hBr.out)
           by_cases hlt : k < nm0
           ·have HLT := Lib.hid (show k < a.m.ext by rw [← HN.out.1.2]; exact hlt)
            have HLU := Lib.hid (show k < b.m.ext by rw [← HN.out.2.2]; exact hlt)
            obtain ⟨ab, ao, rfl, aP, abl, aK, cs, ra, eA, enl, ecl, eB, enm, ecm, rfl, x1, x2, x3, x4, x5⟩ := (HS.out.1.2.up HBW.out).at_ (i := k) HLT.out
            obtain ⟨bb, bo, rfl, bP, bbl, bK, cs, rb, gA, gnl, gcl, gB, gnm, gcm, rfl, y1, y2, y3, y4, y5⟩ := (HS.out.2.2.up HBW.out).at_ (i := k) HLU.out
            have hbu := HBL.out.2 k HLT.out
            have hst := same_step (mem := true) HLT.out HLU.out
            obtain ⟨eu, hev⟩ : ∃ eu, (a.m.fall k).val = eu := ⟨_, rfl⟩
            obtain ⟨gu, hgv⟩ : ∃ gu, (b.m.fall k).val = gu := ⟨_, rfl⟩
            rw [hev] at ra x1 x2 x3 x4 x5 hbu hst
            rw [hgv] at rb y1 y2 y3 y4 y5 hst
            have HVA := Lib.hid (show VOk wr eu eA eB enl ecl enm ecm from ⟨x1, x2, x3, x4, x5⟩)
            have HVB := Lib.hid (show VOk wr gu gA gB gnl gcl gnm gcm from ⟨y1, y2, y3, y4, y5⟩)
            obtain ⟨ek, hek⟩ : ∃ ek, (a.m.fall k).key = ek := ⟨_, rfl⟩
            obtain ⟨gk, hgk⟩ : ∃ gk, (b.m.fall k).key = gk := ⟨_, rfl⟩
            rw [hek] at aK hst
            rw [hgk] at bK hst
            have fk : wr.cell? ⟨ab, ao + k * 7, none⟩ = some (.string ⟨ek.toArray⟩) := aK.1
            have gkc : wr.cell? ⟨bb, bo + k * 7, none⟩ = some (.string ⟨gk.toArray⟩) := bK.1
            have HRA := Lib.hid (show wr.rangeAt ab (ao + k * 7 + 1) [.int .i64 eu.kd, .bool eu.is, .int .i64 eu.n, .string ⟨eu.s.toArray⟩, .slice eA enl ecl, .slice eB enm ecm] ∧ ab < wr.heap.size from ⟨ra, abl⟩)
            have HRB := Lib.hid (show wr.rangeAt bb (bo + k * 7 + 1) [.int .i64 gu.kd, .bool gu.is, .int .i64 gu.n, .string ⟨gu.s.toArray⟩, .slice gA gnl gcl, .slice gB gnm gcm] ∧ bb < wr.heap.size from ⟨rb, bbl⟩)
            have HBU := Lib.hid hbu
            have HX3 := Lib.hid (HX.out.later hBr.out)
            have HZ3 := Lib.hid (HZ.out.later hBr.out)
            have d5 := HX3.out.cell (k := 5) rfl
            have e5 := HZ3.out.cell (k := 5) rfl
            have HI2 := Lib.hid (hI.out.trans hst)
            obtain ⟨sv, hsv⟩ : ∃ sv, sameV eu gu = sv := ⟨_, rfl⟩
            have HSV := Lib.hid hsv
            rw [hsv] at HI2
            clear ra rb x1 x2 x3 x4 x5 y1 y2 y3 y4 y5 hbu hst hev hgv hI aP bP aK bK hsv
            clear hek hgk
            go_upto_region 12 with fail
            by_cases hkk : ek = gk
            ·have hkb : (ek == gk) = true := by rw [beq_iff_eq]; exact hkk
             have hkc : (ek != gk) = false := by simp [hkk]
             have HKB := Lib.hid hkb
             cases sv with
             | false =>
              have HE2 := Lib.hid (show sameV a b = false by rw [HI2.out]; simp)
              clear hkk
              apply wp_region_ls (by kernel_rfl) (by kernel_rfl)
              apply ls_pure (.pointer (some ⟨w.heap.size, 5, none⟩)) rfl (by intro W; go_simp)
              simp only [Act.put, List.setIfInBounds_toArray, List.set_cons_succ, List.set_cons_zero]
              apply ls_cell (.slice (some ⟨ab, ao, none⟩) nm0 cm0) w.heap.size 5 d5 HX3.out.lt rfl (by intro W hW; go_simp)
              simp only [Act.put, List.setIfInBounds_toArray, List.set_cons_succ, List.set_cons_zero]
              apply ls_move (.int .i64 (k : Int)) (.tmp 6) rfl rfl rfl
              simp only [Act.put, List.setIfInBounds_toArray, List.set_cons_succ, List.set_cons_zero]
              apply ls_pure (.pointer (some ⟨ab, ao + k * 7, none⟩)) rfl (by intro W; go_simp)
              simp only [Act.put, List.setIfInBounds_toArray, List.set_cons_succ, List.set_cons_zero]
              apply ls_pure (.pointer (some ⟨ab, ao + k * 7, none⟩)) rfl (by intro W; go_simp)
              simp only [Act.put, List.setIfInBounds_toArray, List.set_cons_succ, List.set_cons_zero]
              apply ls_cell (.string ⟨ek.toArray⟩) ab (ao + k * 7) fk HRA.out.2 rfl (by intro W hW; go_simp)
              simp only [Act.put, List.setIfInBounds_toArray, List.set_cons_succ, List.set_cons_zero]
              apply ls_pure (.pointer (some ⟨w.heap.size + 1, 5, none⟩)) rfl (by intro W; go_simp)
              simp only [Act.put, List.setIfInBounds_toArray, List.set_cons_succ, List.set_cons_zero]
              apply ls_cell (.slice (some ⟨bb, bo, none⟩) nm0 cm1) (w.heap.size + 1) 5 e5 HZ3.out.lt rfl (by intro W hW; go_simp)
              simp only [Act.put, List.setIfInBounds_toArray, List.set_cons_succ, List.set_cons_zero]
              apply ls_move (.int .i64 (k : Int)) (.tmp 6) rfl rfl rfl
              simp only [Act.put, List.setIfInBounds_toArray, List.set_cons_succ, List.set_cons_zero]
              apply ls_pure (.pointer (some ⟨bb, bo + k * 7, none⟩)) rfl (by intro W; go_simp)
              simp only [Act.put, List.setIfInBounds_toArray, List.set_cons_succ, List.set_cons_zero]
              apply ls_pure (.pointer (some ⟨bb, bo + k * 7, none⟩)) rfl (by intro W; go_simp)
              simp only [Act.put, List.setIfInBounds_toArray, List.set_cons_succ, List.set_cons_zero]
              apply ls_cell (.string ⟨gk.toArray⟩) bb (bo + k * 7) gkc HRB.out.2 rfl (by intro W hW; go_simp)
              simp only [Act.put, List.setIfInBounds_toArray, List.set_cons_succ, List.set_cons_zero]
              apply ls_pure (.bool false) rfl (by intro W; go_simp)
              simp only [Act.put, List.setIfInBounds_toArray, List.set_cons_succ, List.set_cons_zero]
              apply ls_move (.bool false) (.tmp 88) rfl rfl rfl
              simp only [Act.put, List.setIfInBounds_toArray, List.set_cons_succ, List.set_cons_zero]
              apply ls_pure (.pointer (some ⟨w.heap.size, 5, none⟩)) rfl (by intro W; go_simp)
              simp only [Act.put, List.setIfInBounds_toArray, List.set_cons_succ, List.set_cons_zero]
              apply ls_cell (.slice (some ⟨ab, ao, none⟩) nm0 cm0) w.heap.size 5 d5 HX3.out.lt rfl (by intro W hW; go_simp)
              simp only [Act.put, List.setIfInBounds_toArray, List.set_cons_succ, List.set_cons_zero]
              apply ls_move (.int .i64 (k : Int)) (.tmp 6) rfl rfl rfl
              simp only [Act.put, List.setIfInBounds_toArray, List.set_cons_succ, List.set_cons_zero]
              apply ls_pure (.pointer (some ⟨ab, ao + k * 7, none⟩)) rfl (by intro W; go_simp)
              simp only [Act.put, List.setIfInBounds_toArray, List.set_cons_succ, List.set_cons_zero]
              apply ls_pure (.pointer (some ⟨ab, ao + k * 7 + 1, none⟩)) rfl (by intro W; go_simp)
              simp only [Act.put, List.setIfInBounds_toArray, List.set_cons_succ, List.set_cons_zero]
              apply ls_load 25 (.tmp 94) rfl ab (ao + k * 7 + 1) [.int .i64 eu.kd, .bool eu.is, .int .i64 eu.n, .string ⟨eu.s.toArray⟩, .slice eA enl ecl, .slice eB enm ecm] _ HRA.out.1 HRA.out.2 Tryz.underlying25 rfl size_valF rfl rfl
              simp only [Act.put, List.setIfInBounds_toArray, List.set_cons_succ, List.set_cons_zero]
              apply ls_pure (.pointer (some ⟨w.heap.size + 1, 5, none⟩)) rfl (by intro W; go_simp)
              simp only [Act.put, List.setIfInBounds_toArray, List.set_cons_succ, List.set_cons_zero]
              apply ls_cell (.slice (some ⟨bb, bo, none⟩) nm0 cm1) (w.heap.size + 1) 5 e5 HZ3.out.lt rfl (by intro W hW; go_simp)
              simp only [Act.put, List.setIfInBounds_toArray, List.set_cons_succ, List.set_cons_zero]
              apply ls_move (.int .i64 (k : Int)) (.tmp 6) rfl rfl rfl
              simp only [Act.put, List.setIfInBounds_toArray, List.set_cons_succ, List.set_cons_zero]
              apply ls_pure (.pointer (some ⟨bb, bo + k * 7, none⟩)) rfl (by intro W; go_simp)
              simp only [Act.put, List.setIfInBounds_toArray, List.set_cons_succ, List.set_cons_zero]
              apply ls_pure (.pointer (some ⟨bb, bo + k * 7 + 1, none⟩)) rfl (by intro W; go_simp)
              simp only [Act.put, List.setIfInBounds_toArray, List.set_cons_succ, List.set_cons_zero]
              apply ls_load 25 (.tmp 100) rfl bb (bo + k * 7 + 1) [.int .i64 gu.kd, .bool gu.is, .int .i64 gu.n, .string ⟨gu.s.toArray⟩, .slice gA gnl gcl, .slice gB gnm gcm] _ HRB.out.1 HRB.out.2 Tryz.underlying25 rfl size_valF rfl rfl
              simp only [Act.put, List.setIfInBounds_toArray, List.set_cons_succ, List.set_cons_zero]
              apply ls_callb (.bool false) 10 #[.agg #[.int .i64 eu.kd, .bool eu.is, .int .i64 eu.n, .string ⟨eu.s.toArray⟩, .slice eA enl ecl, .slice eB enm ecm], .agg #[.int .i64 gu.kd, .bool gu.is, .int .i64 gu.n, .string ⟨gu.s.toArray⟩, .slice gA gnl gcl, .slice gB gnm gcm]] rfl (by intro W; go_simp) (fun W hW => (HIH.out eu gu eA eB gA gB enl ecl enm ecm gnl gcl gnm gcm W HBU.out (HVA.out.below hW) (HVB.out.below hW)).mono fun e w' h => by rw [HSV.out] at h; exact h)
              simp only [Act.put, List.setIfInBounds_toArray, List.set_cons_succ, List.set_cons_zero]
              apply ls_pure (.bool true) rfl (by intro W; go_simp)
              simp only [Act.put, List.setIfInBounds_toArray, List.set_cons_succ, List.set_cons_zero]
              apply ls_pure (.bool true) rfl (by intro W; go_simp)
              simp only [Act.put, List.setIfInBounds_toArray, List.set_cons_succ, List.set_cons_zero]
              refine ls_nil (Rs := []) ?_
              intro w9 b9
              have HB9 := Lib.hid (HBW.out.then_ b9)
              clear b9
              go_wp2_with fail
              go_ret
              rw [HE2.out]
              exact ⟨rfl, HB9.out⟩
             | true =>
              have HI3 := Lib.hid (show sameV a b = sameT true (a.m.fall (k + 1)) (b.m.fall (k + 1)) by rw [HI2.out, HKB.out]; rfl)
              clear hkk
              apply wp_region_ls (by kernel_rfl) (by kernel_rfl)
              apply ls_pure (.pointer (some ⟨w.heap.size, 5, none⟩)) rfl (by intro W; go_simp)
              simp only [Act.put, List.setIfInBounds_toArray, List.set_cons_succ, List.set_cons_zero]
              apply ls_cell (.slice (some ⟨ab, ao, none⟩) nm0 cm0) w.heap.size 5 d5 HX3.out.lt rfl (by intro W hW; go_simp)
              simp only [Act.put, List.setIfInBounds_toArray, List.set_cons_succ, List.set_cons_zero]
              apply ls_move (.int .i64 (k : Int)) (.tmp 6) rfl rfl rfl
              simp only [Act.put, List.setIfInBounds_toArray, List.set_cons_succ, List.set_cons_zero]
              apply ls_pure (.pointer (some ⟨ab, ao + k * 7, none⟩)) rfl (by intro W; go_simp)
              simp only [Act.put, List.setIfInBounds_toArray, List.set_cons_succ, List.set_cons_zero]
              apply ls_pure (.pointer (some ⟨ab, ao + k * 7, none⟩)) rfl (by intro W; go_simp)
              simp only [Act.put, List.setIfInBounds_toArray, List.set_cons_succ, List.set_cons_zero]
              apply ls_cell (.string ⟨ek.toArray⟩) ab (ao + k * 7) fk HRA.out.2 rfl (by intro W hW; go_simp)
              simp only [Act.put, List.setIfInBounds_toArray, List.set_cons_succ, List.set_cons_zero]
              apply ls_pure (.pointer (some ⟨w.heap.size + 1, 5, none⟩)) rfl (by intro W; go_simp)
              simp only [Act.put, List.setIfInBounds_toArray, List.set_cons_succ, List.set_cons_zero]
              apply ls_cell (.slice (some ⟨bb, bo, none⟩) nm0 cm1) (w.heap.size + 1) 5 e5 HZ3.out.lt rfl (by intro W hW; go_simp)
              simp only [Act.put, List.setIfInBounds_toArray, List.set_cons_succ, List.set_cons_zero]
              apply ls_move (.int .i64 (k : Int)) (.tmp 6) rfl rfl rfl
              simp only [Act.put, List.setIfInBounds_toArray, List.set_cons_succ, List.set_cons_zero]
              apply ls_pure (.pointer (some ⟨bb, bo + k * 7, none⟩)) rfl (by intro W; go_simp)
              simp only [Act.put, List.setIfInBounds_toArray, List.set_cons_succ, List.set_cons_zero]
              apply ls_pure (.pointer (some ⟨bb, bo + k * 7, none⟩)) rfl (by intro W; go_simp)
              simp only [Act.put, List.setIfInBounds_toArray, List.set_cons_succ, List.set_cons_zero]
              apply ls_cell (.string ⟨gk.toArray⟩) bb (bo + k * 7) gkc HRB.out.2 rfl (by intro W hW; go_simp)
              simp only [Act.put, List.setIfInBounds_toArray, List.set_cons_succ, List.set_cons_zero]
              apply ls_pure (.bool false) rfl (by intro W; go_simp)
              simp only [Act.put, List.setIfInBounds_toArray, List.set_cons_succ, List.set_cons_zero]
              apply ls_move (.bool false) (.tmp 88) rfl rfl rfl
              simp only [Act.put, List.setIfInBounds_toArray, List.set_cons_succ, List.set_cons_zero]
              apply ls_pure (.pointer (some ⟨w.heap.size, 5, none⟩)) rfl (by intro W; go_simp)
              simp only [Act.put, List.setIfInBounds_toArray, List.set_cons_succ, List.set_cons_zero]
              apply ls_cell (.slice (some ⟨ab, ao, none⟩) nm0 cm0) w.heap.size 5 d5 HX3.out.lt rfl (by intro W hW; go_simp)
              simp only [Act.put, List.setIfInBounds_toArray, List.set_cons_succ, List.set_cons_zero]
              apply ls_move (.int .i64 (k : Int)) (.tmp 6) rfl rfl rfl
              simp only [Act.put, List.setIfInBounds_toArray, List.set_cons_succ, List.set_cons_zero]
              apply ls_pure (.pointer (some ⟨ab, ao + k * 7, none⟩)) rfl (by intro W; go_simp)
              simp only [Act.put, List.setIfInBounds_toArray, List.set_cons_succ, List.set_cons_zero]
              apply ls_pure (.pointer (some ⟨ab, ao + k * 7 + 1, none⟩)) rfl (by intro W; go_simp)
              simp only [Act.put, List.setIfInBounds_toArray, List.set_cons_succ, List.set_cons_zero]
              apply ls_load 25 (.tmp 94) rfl ab (ao + k * 7 + 1) [.int .i64 eu.kd, .bool eu.is, .int .i64 eu.n, .string ⟨eu.s.toArray⟩, .slice eA enl ecl, .slice eB enm ecm] _ HRA.out.1 HRA.out.2 Tryz.underlying25 rfl size_valF rfl rfl
              simp only [Act.put, List.setIfInBounds_toArray, List.set_cons_succ, List.set_cons_zero]
              apply ls_pure (.pointer (some ⟨w.heap.size + 1, 5, none⟩)) rfl (by intro W; go_simp)
              simp only [Act.put, List.setIfInBounds_toArray, List.set_cons_succ, List.set_cons_zero]
              apply ls_cell (.slice (some ⟨bb, bo, none⟩) nm0 cm1) (w.heap.size + 1) 5 e5 HZ3.out.lt rfl (by intro W hW; go_simp)
              simp only [Act.put, List.setIfInBounds_toArray, List.set_cons_succ, List.set_cons_zero]
              apply ls_move (.int .i64 (k : Int)) (.tmp 6) rfl rfl rfl
              simp only [Act.put, List.setIfInBounds_toArray, List.set_cons_succ, List.set_cons_zero]
              apply ls_pure (.pointer (some ⟨bb, bo + k * 7, none⟩)) rfl (by intro W; go_simp)
              simp only [Act.put, List.setIfInBounds_toArray, List.set_cons_succ, List.set_cons_zero]
              apply ls_pure (.pointer (some ⟨bb, bo + k * 7 + 1, none⟩)) rfl (by intro W; go_simp)
              simp only [Act.put, List.setIfInBounds_toArray, List.set_cons_succ, List.set_cons_zero]
              apply ls_load 25 (.tmp 100) rfl bb (bo + k * 7 + 1) [.int .i64 gu.kd, .bool gu.is, .int .i64 gu.n, .string ⟨gu.s.toArray⟩, .slice gA gnl gcl, .slice gB gnm gcm] _ HRB.out.1 HRB.out.2 Tryz.underlying25 rfl size_valF rfl rfl
              simp only [Act.put, List.setIfInBounds_toArray, List.set_cons_succ, List.set_cons_zero]
              apply ls_callb (.bool true) 10 #[.agg #[.int .i64 eu.kd, .bool eu.is, .int .i64 eu.n, .string ⟨eu.s.toArray⟩, .slice eA enl ecl, .slice eB enm ecm], .agg #[.int .i64 gu.kd, .bool gu.is, .int .i64 gu.n, .string ⟨gu.s.toArray⟩, .slice gA gnl gcl, .slice gB gnm gcm]] rfl (by intro W; go_simp) (fun W hW => (HIH.out eu gu eA eB gA gB enl ecl enm ecm gnl gcl gnm gcm W HBU.out (HVA.out.below hW) (HVB.out.below hW)).mono fun e w' h => by rw [HSV.out] at h; exact h)
              simp only [Act.put, List.setIfInBounds_toArray, List.set_cons_succ, List.set_cons_zero]
              apply ls_pure (.bool false) rfl (by intro W; go_simp)
              simp only [Act.put, List.setIfInBounds_toArray, List.set_cons_succ, List.set_cons_zero]
              apply ls_pure (.bool false) rfl (by intro W; go_simp)
              simp only [Act.put, List.setIfInBounds_toArray, List.set_cons_succ, List.set_cons_zero]
              refine ls_nil (Rs := []) ?_
              intro w9 b9
              have HB9 := Lib.hid (hBr.out.then_ b9)
              clear b9
              go_wp2_with fail
              go_roundw
              case rel => exact ⟨k + 1, by omega, by go_num, HB9, HI3⟩
              case measure => simp [intOf]; omega
            ·have hkb : (ek == gk) = false := by rw [beq_eq_false_iff_ne]; exact hkk
             have hkc : (ek != gk) = true := by rw [bne_iff_ne]; exact hkk
             have HE2 := Lib.hid (show sameV a b = false by rw [HI2.out, hkb]; rfl)
             clear hkk
             apply wp_region_ls (by kernel_rfl) (by kernel_rfl)
             apply ls_pure (.pointer (some ⟨w.heap.size, 5, none⟩)) rfl (by intro W; go_simp)
             simp only [Act.put, List.setIfInBounds_toArray, List.set_cons_succ, List.set_cons_zero]
             apply ls_cell (.slice (some ⟨ab, ao, none⟩) nm0 cm0) w.heap.size 5 d5 HX3.out.lt rfl (by intro W hW; go_simp)
             simp only [Act.put, List.setIfInBounds_toArray, List.set_cons_succ, List.set_cons_zero]
             apply ls_move (.int .i64 (k : Int)) (.tmp 6) rfl rfl rfl
             simp only [Act.put, List.setIfInBounds_toArray, List.set_cons_succ, List.set_cons_zero]
             apply ls_pure (.pointer (some ⟨ab, ao + k * 7, none⟩)) rfl (by intro W; go_simp)
             simp only [Act.put, List.setIfInBounds_toArray, List.set_cons_succ, List.set_cons_zero]
             apply ls_pure (.pointer (some ⟨ab, ao + k * 7, none⟩)) rfl (by intro W; go_simp)
             simp only [Act.put, List.setIfInBounds_toArray, List.set_cons_succ, List.set_cons_zero]
             apply ls_cell (.string ⟨ek.toArray⟩) ab (ao + k * 7) fk HRA.out.2 rfl (by intro W hW; go_simp)
             simp only [Act.put, List.setIfInBounds_toArray, List.set_cons_succ, List.set_cons_zero]
             apply ls_pure (.pointer (some ⟨w.heap.size + 1, 5, none⟩)) rfl (by intro W; go_simp)
             simp only [Act.put, List.setIfInBounds_toArray, List.set_cons_succ, List.set_cons_zero]
             apply ls_cell (.slice (some ⟨bb, bo, none⟩) nm0 cm1) (w.heap.size + 1) 5 e5 HZ3.out.lt rfl (by intro W hW; go_simp)
             simp only [Act.put, List.setIfInBounds_toArray, List.set_cons_succ, List.set_cons_zero]
             apply ls_move (.int .i64 (k : Int)) (.tmp 6) rfl rfl rfl
             simp only [Act.put, List.setIfInBounds_toArray, List.set_cons_succ, List.set_cons_zero]
             apply ls_pure (.pointer (some ⟨bb, bo + k * 7, none⟩)) rfl (by intro W; go_simp)
             simp only [Act.put, List.setIfInBounds_toArray, List.set_cons_succ, List.set_cons_zero]
             apply ls_pure (.pointer (some ⟨bb, bo + k * 7, none⟩)) rfl (by intro W; go_simp)
             simp only [Act.put, List.setIfInBounds_toArray, List.set_cons_succ, List.set_cons_zero]
             apply ls_cell (.string ⟨gk.toArray⟩) bb (bo + k * 7) gkc HRB.out.2 rfl (by intro W hW; go_simp)
             simp only [Act.put, List.setIfInBounds_toArray, List.set_cons_succ, List.set_cons_zero]
             apply ls_pure (.bool true) rfl (by intro W; go_simp)
             simp only [Act.put, List.setIfInBounds_toArray, List.set_cons_succ, List.set_cons_zero]
             apply ls_move (.bool true) (.tmp 88) rfl rfl rfl
             simp only [Act.put, List.setIfInBounds_toArray, List.set_cons_succ, List.set_cons_zero]
             apply ls_skip rfl
             simp only [Act.put, List.setIfInBounds_toArray, List.set_cons_succ, List.set_cons_zero]
             apply ls_skip rfl
             simp only [Act.put, List.setIfInBounds_toArray, List.set_cons_succ, List.set_cons_zero]
             apply ls_skip rfl
             simp only [Act.put, List.setIfInBounds_toArray, List.set_cons_succ, List.set_cons_zero]
             apply ls_skip rfl
             simp only [Act.put, List.setIfInBounds_toArray, List.set_cons_succ, List.set_cons_zero]
             apply ls_skip rfl
             simp only [Act.put, List.setIfInBounds_toArray, List.set_cons_succ, List.set_cons_zero]
             apply ls_skip rfl
             simp only [Act.put, List.setIfInBounds_toArray, List.set_cons_succ, List.set_cons_zero]
             apply ls_skip rfl
             simp only [Act.put, List.setIfInBounds_toArray, List.set_cons_succ, List.set_cons_zero]
             apply ls_skip rfl
             simp only [Act.put, List.setIfInBounds_toArray, List.set_cons_succ, List.set_cons_zero]
             apply ls_skip rfl
             simp only [Act.put, List.setIfInBounds_toArray, List.set_cons_succ, List.set_cons_zero]
             apply ls_skip rfl
             simp only [Act.put, List.setIfInBounds_toArray, List.set_cons_succ, List.set_cons_zero]
             apply ls_skip rfl
             simp only [Act.put, List.setIfInBounds_toArray, List.set_cons_succ, List.set_cons_zero]
             apply ls_skip rfl
             simp only [Act.put, List.setIfInBounds_toArray, List.set_cons_succ, List.set_cons_zero]
             apply ls_skip rfl
             simp only [Act.put, List.setIfInBounds_toArray, List.set_cons_succ, List.set_cons_zero]
             apply ls_skip rfl
             simp only [Act.put, List.setIfInBounds_toArray, List.set_cons_succ, List.set_cons_zero]
             apply ls_pure (.bool true) rfl (by intro W; go_simp)
             simp only [Act.put, List.setIfInBounds_toArray, List.set_cons_succ, List.set_cons_zero]
             refine ls_nil (Rs := []) ?_
             intro w9 b9
             have HB9 := Lib.hid (HBW.out.then_ b9)
             clear b9
             go_wp2_with fail
             go_ret
             rw [HE2.out]
             exact ⟨rfl, HB9.out⟩
           ·obtain rfl : k = nm0 := by omega
            have HE2 := Lib.hid (show sameV a b = true by rw [hI.out, same_end (by rw [← HN.out.1.2]; exact Nat.le_refl _) (by rw [← HN.out.2.2]; exact Nat.le_refl _)])
            have HB9 := HBW
            clear hI
            go_wp2_with fail
            go_ret
            rw [HE2.out]
            exact ⟨rfl, HB9.out⟩
       ·have q5a : ((nm0 : Int) != (nm1 : Int)) = true := int_ne q5
        have HE := Lib.hid (show sameV a b = false from by unfold sameV headB; rw [show (a.m.ext == b.m.ext) = false from beq_eq_false_iff_ne.2 (by rw [← HN.out.1.2, ← HN.out.2.2]; exact q5)]; simp)
        clear q0 q1 q2 q3 q4 q5
        go_enter Tryz.func10, Tryz.ntmps10
        go_wp2_with fail
        go_ret
        rw [HE.out]
        exact ⟨rfl, HB.out⟩
      ·have q4a : ((nl0 : Int) != (nl1 : Int)) = true := int_ne q4
       have HE := Lib.hid (show sameV a b = false from by unfold sameV headB; rw [show (a.l.ext == b.l.ext) = false from beq_eq_false_iff_ne.2 (by rw [← HN.out.1.1, ← HN.out.2.1]; exact q4)]; simp)
       clear q0 q1 q2 q3 q4
       go_enter Tryz.func10, Tryz.ntmps10
       go_wp2_with fail
       go_ret
       rw [HE.out]
       exact ⟨rfl, HB.out⟩
     ·have q3a : (a.s == b.s) = false := by rw [beq_eq_false_iff_ne]; exact q3
      have q3b : (a.s != b.s) = true := by rw [bne_iff_ne]; exact q3
      have HE := Lib.hid (show sameV a b = false from by unfold sameV headB; rw [show (a.s == b.s) = false from beq_eq_false_iff_ne.2 q3]; simp)
      clear q0 q1 q2 q3
      go_enter Tryz.func10, Tryz.ntmps10
      go_wp2_with fail
      go_ret
      rw [HE.out]
      exact ⟨rfl, HB.out⟩
    ·have q2a : (a.n != b.n) = true := by rw [bne_iff_ne]; exact q2
     have HE := Lib.hid (show sameV a b = false from by unfold sameV headB; rw [show (a.n == b.n) = false from beq_eq_false_iff_ne.2 q2]; simp)
     clear q0 q1 q2
     go_enter Tryz.func10, Tryz.ntmps10
     go_wp2_with fail
     go_ret
     rw [HE.out]
     exact ⟨rfl, HB.out⟩
   ·have q1e : a.is = !b.is := by cases h1 : a.is <;> cases h2 : b.is <;> simp_all
    have q1a : ((!b.is) != b.is) = true := by cases b.is <;> rfl
    have HE := Lib.hid (show sameV a b = false from by unfold sameV headB; rw [show (a.is == b.is) = false from beq_eq_false_iff_ne.2 q1]; simp)
    simp only [q1e] at HB HX HZ ⊢
    clear q1e
    clear q0 q1
    go_enter Tryz.func10, Tryz.ntmps10
    go_wp2_with fail
    go_ret
    rw [HE.out]
    exact ⟨rfl, HB.out⟩
  ·have q0a : (a.kd != b.kd) = true := by rw [bne_iff_ne]; exact q0
   have HE := Lib.hid (show sameV a b = false from by unfold sameV headB; rw [show (a.kd == b.kd) = false from beq_eq_false_iff_ne.2 q0]; rfl)
   clear q0
   go_enter Tryz.func10, Tryz.ntmps10
   go_wp2_with fail
   go_ret
   rw [HE.out]
   exact ⟨rfl, HB.out⟩
end Go.Proofs.YtajkgcmopmpihaaGreatDoor
