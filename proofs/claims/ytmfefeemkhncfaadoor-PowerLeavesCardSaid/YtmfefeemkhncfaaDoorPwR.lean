/- Layer 14: the document's Change, walked. -/
import Derived.Test.YtmfefeemkhncfaaDoorPwQ
import Derived.Deep.RegionHeld3
namespace Go.Proofs.YtmfefeemkhncfaaDoor
open Go.ChangeShapes Go.WideShapes Go.ChangeAt Go.RowKit Go.IntWalk
set_option linter.unusedVariables false
set_option maxRecDepth 100000

def n7 : List Value := lonN.map fun p => .string ⟨p.1.toArray⟩
theorem n7_at : ∀ k (h : k < lonN.length), n7[k]? = some (.string ⟨(lonN[k]).1.toArray⟩) := fun k h => by unfold n7; rw [List.getElem?_map, List.getElem?_eq_getElem h]; rfl
theorem refnames_calls (w : World) : Calls Tryd.prog 33 #[] w fun e w' => e = .returned (.slice (some ⟨w.heap.size, 0, none⟩) 7 7) ∧ Below w.heap.size w w' ∧ Blk w' w.heap.size 9 n7 := by
  have hb := Lib.hid (show Blk (w.alloc (.cells n7.toArray 9)) w.heap.size 9 n7 from Blk.new w n7 9)
  go_enter Tryd.func33, Tryd.ntmps33
  go_wp2_with fail
  go_ret
  exact ⟨rfl, (Below.refl _ _).alloc (Nat.le_refl _) _, hb.out⟩
theorem rt_plain (xn yn mine : Int) (xt yt : Bool) : rtB xn yn mine xt yt false = reachB xn yn mine xt yt := by
  have h := rt_wrong xn yn mine xt yt false false
  unfold wrongB at h
  simpa using h
theorem tab_rows (v : Jv) (key : List UInt8) : (tabF v key).m = rowsF (memF v key) := by
  unfold tabF rowsF
  by_cases h5 : v.kd = 5
  · have e : memF v key = (v.m.findV key).getD nullV := by unfold memF; rw [if_pos h5]
    rw [e]
    by_cases h6 : ((v.m.findV key).getD nullV).kd = 5
    · rw [if_pos ⟨h5, h6⟩, if_pos h6]
    · rw [if_neg (fun h => h6 h.2), if_neg h6]
  · rw [if_neg (fun h => h5 h.1), memF_no h5]; rfl
theorem turns_keys (a b : Jv) (mine : Int) (nm user : List UInt8) :
    turnsF (memF a nm) (memF b nm) mine nm user = (keysJ (tabF a nm).m ++ keysJ (tabF b nm).m).all (fun k => !wrongF (memF a nm) (memF b nm) mine nm user k) := by
  unfold turnsF
  rw [tab_rows, tab_rows, anyK_keys (fun k => wrongF (memF a nm) (memF b nm) mine nm user k), anyK_keys (fun k => wrongF (memF a nm) (memF b nm) mine nm user k), List.all_append]
  simp only [List.all_eq_not_any_not, Bool.not_not]
theorem own_form {w : World} {base : Nat} {v : Value} {ks : List (List UInt8)} (h : OwnM base w v ks) : ∃ A n cap, v = .slice A n cap ∧ Hid (n = ks.length) := by
  obtain ⟨A, cap, e⟩ := h.form
  exact ⟨A, _, cap, e, Lib.hid rfl⟩
set_option maxHeartbeats 8000000 in
theorem refchange_calls (a b : Jv) (A0 B0 A1 B1 : Option Addr) (nl0 cl0 nm0 cm0 nl1 cl1 nm1 cm1 : Nat) (user : List UInt8) (mine : Int) (w : World) (ha : VOk w a A0 B0 nl0 cl0 nm0 cm0) (hb : VOk w b A1 B1 nl1 cl1 nm1 cm1)
    (bnA : ∀ nm, (tabF a nm).m.ext ≤ 400000) (bnB : ∀ nm, (tabF b nm).m.ext ≤ 400000) :
    Calls Tryd.prog 23 #[.agg #[.int .i64 a.kd, .bool a.is, .int .i64 a.n, .string ⟨a.s.toArray⟩, .slice A0 nl0 cl0, .slice B0 nm0 cm0], .agg #[.int .i64 b.kd, .bool b.is, .int .i64 b.n, .string ⟨b.s.toArray⟩, .slice A1 nl1 cl1, .slice B1 nm1 cm1], .string ⟨user.toArray⟩, .int .i64 mine] w fun e w' => e = .returned (.bool (changeF a b mine user)) ∧ Below w.heap.size w w' := by
  have b2 : Below w.heap.size w ((w.alloc (.cells #[.int .i64 a.kd, .bool a.is, .int .i64 a.n, .string ⟨a.s.toArray⟩, .slice A0 nl0 cl0, .slice B0 nm0 cm0] 25)).alloc (.cells #[.int .i64 b.kd, .bool b.is, .int .i64 b.n, .string ⟨b.s.toArray⟩, .slice A1 nl1 cl1, .slice B1 nm1 cm1] 25)) := ((Below.refl _ _).alloc (Nat.le_refl _) _).alloc (by simp) _
  have HXA := Lib.hid ((Blk.new w [.int .i64 a.kd, .bool a.is, .int .i64 a.n, .string ⟨a.s.toArray⟩, .slice A0 nl0 cl0, .slice B0 nm0 cm0] 25).alloc (.cells #[.int .i64 b.kd, .bool b.is, .int .i64 b.n, .string ⟨b.s.toArray⟩, .slice A1 nl1 cl1, .slice B1 nm1 cm1] 25))
  have HXB := Lib.hid (blk_at (w := w.alloc (.cells #[.int .i64 a.kd, .bool a.is, .int .i64 a.n, .string ⟨a.s.toArray⟩, .slice A0 nl0 cl0, .slice B0 nm0 cm0] 25)) [.int .i64 b.kd, .bool b.is, .int .i64 b.n, .string ⟨b.s.toArray⟩, .slice A1 nl1 cl1, .slice B1 nm1 cm1] 25 (g := w.heap.size + 1) (by simp))
  have HA := Lib.hid (ha.below b2)
  have HBV := Lib.hid (hb.below b2)
  have HB := Lib.hid b2
  have HBN := Lib.hid (And.intro bnA bnB)
  obtain ⟨L1, hL1⟩ : ∃ L1, lonN.all (fun p => reachF (toldF a p.1) (toldF b p.1) mine) = L1 := ⟨_, rfl⟩
  have HC := Lib.hid (show changeF a b mine user = (L1 && tabN.all (fun nm => turnsF (memF a nm) (memF b nm) mine nm user)) by unfold changeF; rw [hL1])
  have hst := Lib.hid (show L1 = (lonN.drop 0).all (fun p => reachF (toldF a p.1) (toldF b p.1) mine) by rw [← hL1]; rfl)
  clear ha hb hL1 bnA bnB b2
  go_enter Tryd.func23, Tryd.ntmps23
  go_wp2_with fail
  refine (refnames_calls _).mono ?_
  rintro e w3 ⟨rfl, b3, hn3⟩
  have HB3 := Lib.hid b3
  have HN3 := Lib.hid hn3
  rw [show ((w.alloc (.cells #[.int .i64 a.kd, .bool a.is, .int .i64 a.n, .string ⟨a.s.toArray⟩, .slice A0 nl0 cl0, .slice B0 nm0 cm0] 25)).alloc (.cells #[.int .i64 b.kd, .bool b.is, .int .i64 b.n, .string ⟨b.s.toArray⟩, .slice A1 nl1 cl1, .slice B1 nm1 cm1] 25)).heap.size = w.heap.size + 2 by simp] at hn3
  have hgn : ((w.alloc (.cells #[.int .i64 a.kd, .bool a.is, .int .i64 a.n, .string ⟨a.s.toArray⟩, .slice A0 nl0 cl0, .slice B0 nm0 cm0] 25)).alloc (.cells #[.int .i64 b.kd, .bool b.is, .int .i64 b.n, .string ⟨b.s.toArray⟩, .slice A1 nl1 cl1, .slice B1 nm1 cm1] 25)).heap.size < w3.heap.size := HN3.out.lt
  rw [show ((w.alloc (.cells #[.int .i64 a.kd, .bool a.is, .int .i64 a.n, .string ⟨a.s.toArray⟩, .slice A0 nl0 cl0, .slice B0 nm0 cm0] 25)).alloc (.cells #[.int .i64 b.kd, .bool b.is, .int .i64 b.n, .string ⟨b.s.toArray⟩, .slice A1 nl1 cl1, .slice B1 nm1 cm1] 25)).heap.size = w.heap.size + 2 by simp] at hgn
  clear b3
  go_wp2_with fail
  go_loopw [19] (fun i wz => ∃ k : Nat, k ≤ 7 ∧ i = .int .i64 (k : Int) ∧ Hid (Below w3.heap.size w3 wz) ∧ Hid (L1 = (lonN.drop k).all (fun p => reachF (toldF a p.1) (toldF b p.1) mine))) (fun i _ => 7 - (intOf i).toNat)
  case atStart => exact ⟨0, Nat.zero_le _, rfl, Lib.hid (Below.refl _ _), hst⟩
  case round =>
    obtain ⟨k, hk, rfl, hBr, hI⟩ := hrel
    have HBR := Lib.hid (HB3.out.then_ hBr.out)
    by_cases hlt : k < 7
    · have hkl : k < lonN.length := hlt
      have k0 := (HN3.out.later hBr.out).cell (n7_at k hkl)
      rw [show ((w.alloc (.cells #[.int .i64 a.kd, .bool a.is, .int .i64 a.n, .string ⟨a.s.toArray⟩, .slice A0 nl0 cl0, .slice B0 nm0 cm0] 25)).alloc (.cells #[.int .i64 b.kd, .bool b.is, .int .i64 b.n, .string ⟨b.s.toArray⟩, .slice A1 nl1 cl1, .slice B1 nm1 cm1] 25)).heap.size = w.heap.size + 1 + 1 by simp] at k0
      have hat := all_at (fun p : List UInt8 × Int => reachF (toldF a p.1) (toldF b p.1) mine) hkl
      obtain ⟨nm, hnm⟩ : ∃ nm, (lonN[k]).1 = nm := ⟨_, rfl⟩
      rw [hnm] at k0 hat
      obtain ⟨xn, hxn⟩ : ∃ xn, (toldF a nm).getD 0 = xn := ⟨_, rfl⟩
      obtain ⟨yn, hyn⟩ : ∃ yn, (toldF b nm).getD 0 = yn := ⟨_, rfl⟩
      obtain ⟨xt, hxt⟩ : ∃ xt, (toldF a nm).isSome = xt := ⟨_, rfl⟩
      obtain ⟨yt, hyt⟩ : ∃ yt, (toldF b nm).isSome = yt := ⟨_, rfl⟩
      have hc := refturns_calls a b A0 B0 A1 B1 nl0 cl0 nm0 cm0 nl1 cl1 nm1 cm1 nm mine false wr (HA.out.below HBR.out) (HBV.out.below HBR.out) hxn hxt hyn hyt
      rw [rt_plain] at hc
      obtain ⟨rv, hrv⟩ : ∃ rv, reachB xn yn mine xt yt = rv := ⟨_, rfl⟩
      rw [hrv] at hc
      have HI2 := Lib.hid (show L1 = (rv && (lonN.drop (k + 1)).all (fun p => reachF (toldF a p.1) (toldF b p.1) mine)) by rw [hI.out, hat]; unfold reachF; rw [hxn, hyn, hxt, hyt, hrv])
      have hxa := HXA.out.later HBR.out
      have hxb := HXB.out.later HBR.out
      clear hI hat hnm hxn hyn hxt hyt hrv hn3
      have d0 := hxa.cell (k := 0) rfl; have d1 := hxa.cell (k := 1) rfl; have d2 := hxa.cell (k := 2) rfl; have d3 := hxa.cell (k := 3) rfl; have d4 := hxa.cell (k := 4) rfl; have d5 := hxa.cell (k := 5) rfl
      have e0 := hxb.cell (k := 0) rfl; have e1 := hxb.cell (k := 1) rfl; have e2 := hxb.cell (k := 2) rfl; have e3 := hxb.cell (k := 3) rfl; have e4 := hxb.cell (k := 4) rfl; have e5 := hxb.cell (k := 5) rfl
      clear hxa hxb
      cases rv with
      | false =>
        have HC2 := Lib.hid (show changeF a b mine user = false by rw [HC.out, HI2.out]; rfl)
        clear HI2
        go_wp2_with fail
        refine hc.mono ?_
        rintro e w9 ⟨rfl, b9⟩
        have HB9 := Lib.hid (HB.out.then_ (HBR.out.then_ b9))
        clear b9 hc
        go_wp2_with fail
        go_ret
        rw [HC2.out]
        exact ⟨rfl, HB9.out⟩
      | true =>
        have HI3 := Lib.hid (show L1 = (lonN.drop (k + 1)).all (fun p => reachF (toldF a p.1) (toldF b p.1) mine) by rw [HI2.out]; rfl)
        clear HI2
        go_wp2_with fail
        refine hc.mono ?_
        rintro e w9 ⟨rfl, b9⟩
        have HB9 := Lib.hid (hBr.out.then_ b9)
        clear b9 hc k0 d0 d1 d2 d3 d4 d5 e0 e1 e2 e3 e4 e5
        go_wp2_with fail
        go_roundw
        case rel => exact ⟨k + 1, by omega, by go_num, HB9, HI3⟩
        case measure => simp [intOf]; omega
    · obtain rfl : k = 7 := by omega
      obtain ⟨w7, hw7⟩ : ∃ x, x = wr := ⟨_, rfl⟩
      subst hw7
      have HC2 := Lib.hid (show changeF a b mine user = (tabN.drop 0).all (fun nm => turnsF (memF a nm) (memF b nm) mine nm user) by rw [HC.out, hI.out]; rfl)
      have HT3 := Lib.hid (Blk.new w7 [.string ⟨#[101, 118, 101, 110, 116, 115]⟩, .string ⟨#[110, 111, 116, 105, 102, 105, 99, 97, 116, 105, 111, 110, 115]⟩, .string ⟨#[117, 115, 101, 114, 115]⟩] 9)
      have HB7 := Lib.hid (HBR.out.alloc HBR.out.size (.cells #[.string ⟨#[101, 118, 101, 110, 116, 115]⟩, .string ⟨#[110, 111, 116, 105, 102, 105, 99, 97, 116, 105, 111, 110, 115]⟩, .string ⟨#[117, 115, 101, 114, 115]⟩] 9))
      clear hI hn3
      go_wp2_with fail
      go_loopw [32] (fun i wz => ∃ k : Nat, k ≤ 3 ∧ i = .int .i64 (k : Int) ∧ Hid (Below (w7.alloc (.cells #[.string ⟨#[101, 118, 101, 110, 116, 115]⟩, .string ⟨#[110, 111, 116, 105, 102, 105, 99, 97, 116, 105, 111, 110, 115]⟩, .string ⟨#[117, 115, 101, 114, 115]⟩] 9)).heap.size (w7.alloc (.cells #[.string ⟨#[101, 118, 101, 110, 116, 115]⟩, .string ⟨#[110, 111, 116, 105, 102, 105, 99, 97, 116, 105, 111, 110, 115]⟩, .string ⟨#[117, 115, 101, 114, 115]⟩] 9)) wz) ∧ Hid (changeF a b mine user = (tabN.drop k).all (fun nm => turnsF (memF a nm) (memF b nm) mine nm user))) (fun i _ => 3 - (intOf i).toNat)
      case atStart => exact ⟨0, Nat.zero_le _, rfl, Lib.hid (Below.refl _ _), HC2⟩
      case round =>
        obtain ⟨j, hj, rfl, hBs, hJ⟩ := hrel
        have HBS := Lib.hid (HB7.out.then_ hBs.out)
        by_cases hlt2 : j < 3
        · have hjl : j < tabN.length := hlt2
          have k0 := (HT3.out.later hBs.out).cell (show ([.string ⟨#[101, 118, 101, 110, 116, 115]⟩, .string ⟨#[110, 111, 116, 105, 102, 105, 99, 97, 116, 105, 111, 110, 115]⟩, .string ⟨#[117, 115, 101, 114, 115]⟩] : List Value)[j]? = some (.string ⟨(tabN[j]).toArray⟩) by rcases (show j = 0 ∨ j = 1 ∨ j = 2 by omega) with rfl | rfl | rfl <;> rfl)
          have hat := all_at (fun nm => turnsF (memF a nm) (memF b nm) mine nm user) hjl
          obtain ⟨nm, hnm⟩ : ∃ nm, tabN[j] = nm := ⟨_, rfl⟩
          rw [hnm] at k0 hat
          have hxa := HXA.out.later HBS.out
          have d0 := hxa.cell (k := 0) rfl; have d1 := hxa.cell (k := 1) rfl; have d2 := hxa.cell (k := 2) rfl; have d3 := hxa.cell (k := 3) rfl; have d4 := hxa.cell (k := 4) rfl; have d5 := hxa.cell (k := 5) rfl
          have hc := reftable_calls a A0 B0 nl0 cl0 nm0 cm0 nm wr (HA.out.below HBS.out)
          have HTN := Lib.hid (turns_keys a b mine nm user)
          have HTLA := Lib.hid (fun k => told_tab a nm k)
          have HTLB := Lib.hid (fun k => told_tab b nm k)
          have HBA := Lib.hid (HBN.out.1 nm)
          have HBB := Lib.hid (HBN.out.2 nm)
          obtain ⟨ta, hta⟩ : ∃ x, tabF a nm = x := ⟨_, rfl⟩
          obtain ⟨tb, htb⟩ : ∃ x, tabF b nm = x := ⟨_, rfl⟩
          rw [hta, htb] at HTN
          rw [hta] at hc HTLA HBA
          rw [htb] at HTLB HBB
          have HTB := Lib.hid htb
          have HJ2 := Lib.hid (hJ.out.trans hat)
          clear hJ hat hnm hta htb hxa
          go_wp2_with fail
          refine hc.mono ?_
          rintro e wa ⟨⟨A2, B2, nl2, cl2, nm2, cm2, rfl, hv2⟩, b⟩
          have HBa := Lib.hid ((HBS.out.then_ b).alloc (HBS.out.then_ b).size (.cells #[.int .i64 ta.kd, .bool ta.is, .int .i64 ta.n, .string ⟨ta.s.toArray⟩, .slice A2 nl2 cl2, .slice B2 nm2 cm2] 25))
          have HBa8 := Lib.hid ((hBs.out.then_ b).alloc (hBs.out.then_ b).size (.cells #[.int .i64 ta.kd, .bool ta.is, .int .i64 ta.n, .string ⟨ta.s.toArray⟩, .slice A2 nl2 cl2, .slice B2 nm2 cm2] 25))
          have HG13 := Lib.hid (Blk.new wa [.int .i64 ta.kd, .bool ta.is, .int .i64 ta.n, .string ⟨ta.s.toArray⟩, .slice A2 nl2 cl2, .slice B2 nm2 cm2] 25)
          have HV2 := Lib.hid (hv2.below ((Below.refl wa.heap.size wa).alloc (Nat.le_refl _) (.cells #[.int .i64 ta.kd, .bool ta.is, .int .i64 ta.n, .string ⟨ta.s.toArray⟩, .slice A2 nl2 cl2, .slice B2 nm2 cm2] 25)))
          have hxb := HXB.out.later HBa.out
          clear b hc hv2 d0 d1 d2 d3 d4 d5 k0
          have e0 := hxb.cell (k := 0) rfl; have e1 := hxb.cell (k := 1) rfl; have e2 := hxb.cell (k := 2) rfl; have e3 := hxb.cell (k := 3) rfl; have e4 := hxb.cell (k := 4) rfl; have e5 := hxb.cell (k := 5) rfl
          have hc := reftable_calls b A1 B1 nl1 cl1 nm1 cm1 nm _ (HBV.out.below HBa.out)
          rw [HTB.out] at hc
          clear hxb
          go_wp2_with fail
          refine hc.mono ?_
          rintro e wb ⟨⟨A3, B3, nl3, cl3, nm3, cm3, rfl, hv3⟩, b⟩
          have bb : Below (wa.alloc (.cells #[.int .i64 ta.kd, .bool ta.is, .int .i64 ta.n, .string ⟨ta.s.toArray⟩, .slice A2 nl2 cl2, .slice B2 nm2 cm2] 25)).heap.size (wa.alloc (.cells #[.int .i64 ta.kd, .bool ta.is, .int .i64 ta.n, .string ⟨ta.s.toArray⟩, .slice A2 nl2 cl2, .slice B2 nm2 cm2] 25)) (wb.alloc (.cells #[.int .i64 tb.kd, .bool tb.is, .int .i64 tb.n, .string ⟨tb.s.toArray⟩, .slice A3 nl3 cl3, .slice B3 nm3 cm3] 25)) := b.alloc b.size _
          have HBb := Lib.hid (HBa.out.then_ bb)
          have HBb8 := Lib.hid (HBa8.out.then_ bb)
          have HG13b := Lib.hid (HG13.out.later bb)
          have HG14 := Lib.hid (Blk.new wb [.int .i64 tb.kd, .bool tb.is, .int .i64 tb.n, .string ⟨tb.s.toArray⟩, .slice A3 nl3 cl3, .slice B3 nm3 cm3] 25)
          have HV2b := Lib.hid (HV2.out.below bb)
          have HV3 := Lib.hid (hv3.below ((Below.refl wb.heap.size wb).alloc (Nat.le_refl _) (.cells #[.int .i64 tb.kd, .bool tb.is, .int .i64 tb.n, .string ⟨tb.s.toArray⟩, .slice A3 nl3 cl3, .slice B3 nm3 cm3] 25)))
          clear b hc hv3 bb e0 e1 e2 e3 e4 e5
          go_wp2_with fail
          refine wp_gen (fun W => Blk W wa.heap.size 25 [.int .i64 ta.kd, .bool ta.is, .int .i64 ta.n, .string ⟨ta.s.toArray⟩, .slice A2 nl2 cl2, .slice B2 nm2 cm2] ∧ Blk W wb.heap.size 25 [.int .i64 tb.kd, .bool tb.is, .int .i64 tb.n, .string ⟨tb.s.toArray⟩, .slice A3 nl3 cl3, .slice B3 nm3 cm3] ∧ VOk W ta A2 B2 nl2 cl2 nm2 cm2 ∧ VOk W tb A3 B3 nl3 cl3 nm3 cm3 ∧ Below ((w.alloc (.cells #[.int .i64 a.kd, .bool a.is, .int .i64 a.n, .string ⟨a.s.toArray⟩, .slice A0 nl0 cl0, .slice B0 nm0 cm0] 25)).alloc (.cells #[.int .i64 b.kd, .bool b.is, .int .i64 b.n, .string ⟨b.s.toArray⟩, .slice A1 nl1 cl1, .slice B1 nm1 cm1] 25)).heap.size ((w.alloc (.cells #[.int .i64 a.kd, .bool a.is, .int .i64 a.n, .string ⟨a.s.toArray⟩, .slice A0 nl0 cl0, .slice B0 nm0 cm0] 25)).alloc (.cells #[.int .i64 b.kd, .bool b.is, .int .i64 b.n, .string ⟨b.s.toArray⟩, .slice A1 nl1 cl1, .slice B1 nm1 cm1] 25)) W ∧ Below (w7.alloc (.cells #[.string ⟨#[101, 118, 101, 110, 116, 115]⟩, .string ⟨#[110, 111, 116, 105, 102, 105, 99, 97, 116, 105, 111, 110, 115]⟩, .string ⟨#[117, 115, 101, 114, 115]⟩] 9)).heap.size (w7.alloc (.cells #[.string ⟨#[101, 118, 101, 110, 116, 115]⟩, .string ⟨#[110, 111, 116, 105, 102, 105, 99, 97, 116, 105, 111, 110, 115]⟩, .string ⟨#[117, 115, 101, 114, 115]⟩] 9)) W) ⟨HG13b.out, HG14.out, HV2b.out, HV3.out, HBb.out, HBb8.out⟩ ?_
          rintro WA ⟨g13, g14, v2, v3, q2, q8⟩
          have HWA := Lib.hid (And.intro g13 (And.intro g14 (And.intro v2 (And.intro v3 (And.intro q2 q8)))))
          have hm2 : nm2 ≤ 400000 := by rw [v2.2.1.1]; exact HBA.out
          have hm3 : nm3 ≤ 400000 := by rw [v3.2.1.1]; exact HBB.out
          have hkl : (keysJ ta.m).length = nm2 := by rw [keysJ_len]; exact v2.2.1.1.symm
          have e5 := g13.cell (k := 5) rfl
          have e6 := g14.cell (k := 5) rfl
          clear g13 g14 v2 v3 q2 q8 HG13 HG13b HG14 HV2 HV2b HV3 HBb HBb8 HBa HBa8
          go_region_held3 (fun W => W.cell? ⟨wa.heap.size, 5, none⟩ = some (.slice B2 nm2 cm2) ∧ W.cell? ⟨wb.heap.size, 5, none⟩ = some (.slice B3 nm3 cm3))
            (first | assumption | go_keep | (refine ⟨?_, ?_⟩ <;> assumption))
            ((first
              | (refine step_append_in (by rfl) _ _ (by rfl) WA _ [] (by rfl) (by first | exact OwnM.empty (Nat.le_refl _) | exact (OwnM.empty (Nat.le_refl _)).drewN _) (by first | exact (Below.refl _ _).alloc (Nat.le_refl _) _ | exact ((Below.refl _ _).alloc (Nat.le_refl _) _).drewN _) B2 nm2 cm2 ta.m (by rfl) HWA.out.2.2.1.2.1.1 HWA.out.2.2.1.2.2.2.1 (by simp; omega) ?_; intro vq wq oq bq; have hq5 := (HWA.out.1.later bq).cell (k := 5) rfl; have hq6 := (HWA.out.2.1.later bq).cell (k := 5) rfl)
              | (refine step_append_in (by rfl) _ _ (by rfl) WA _ _ (by rfl) (by first | exact oq | exact oq.drewN _) (by first | exact bq | exact bq.drewN _) B3 nm3 cm3 tb.m (by rfl) HWA.out.2.2.2.1.2.1.1 HWA.out.2.2.2.1.2.2.2.1 (by simp; omega) ?_; intro vr wr0 or br; obtain ⟨A4, n4, c4, rfl, HN0⟩ := own_form or; have hr5 := (HWA.out.1.later br).cell (k := 5) rfl; have hr6 := (HWA.out.2.1.later br).cell (k := 5) rfl)))
          rw [List.nil_append] at or HN0
          obtain ⟨ks, hks⟩ : ∃ x, keysJ ta.m ++ keysJ tb.m = x := ⟨_, rfl⟩
          have hn8 : n4 ≤ 800000 := by rw [HN0.out, List.length_append, keysJ_len, keysJ_len]; have h1 := HBA.out; have h2 := HBB.out; omega
          rw [hks] at or HN0
          have HKS := Lib.hid hks
          have HN4 := Lib.hid HN0.out.symm
          have HOR := Lib.hid or
          have HBR2 := Lib.hid br
          clear hks or HN0
          have HJ3 := Lib.hid (show changeF a b mine user = (ks.all (fun k => !wrongF (memF a nm) (memF b nm) mine nm user k) && (tabN.drop (j + 1)).all (fun nm => turnsF (memF a nm) (memF b nm) mine nm user)) by rw [HJ2.out, HTN.out, HKS.out])
          have hst3 := Lib.hid (show ks.all (fun k => !wrongF (memF a nm) (memF b nm) mine nm user k) = (ks.drop 0).all (fun k => !wrongF (memF a nm) (memF b nm) mine nm user k) from rfl)
          clear hq5 hq6 hr5 hr6 e5 e6 oq bq br hkl hm2 hm3
          go_wp2_with fail
          go_loopw [50] (fun i wz => ∃ q : Nat, q ≤ n4 ∧ i = .int .i64 (q : Int) ∧ Hid (Below wr0.heap.size wr0 wz) ∧ Hid (ks.all (fun k => !wrongF (memF a nm) (memF b nm) mine nm user k) = (ks.drop q).all (fun k => !wrongF (memF a nm) (memF b nm) mine nm user k))) (fun i _ => n4 - (intOf i).toNat)
          case atStart => exact ⟨0, Nat.zero_le _, rfl, Lib.hid (Below.refl _ _), hst3⟩
          case round =>
            obtain ⟨q, hq, rfl, hBz, hI3⟩ := hrel
            by_cases hlt3 : q < n4
            · have hql : q < ks.length := by rw [HN4.out]; exact hlt3
              obtain ⟨g, kd, is, m, s, A5, nl5, cl5, B5, nm5, cm5, rfl, _, hgl, p0, p1, p2, p3, p4, p5, p6⟩ := (HOR.out.below hBz.out).at_ hql
              have hat3 := all_at (fun k => !wrongF (memF a nm) (memF b nm) mine nm user k) hql
              obtain ⟨kk, hkk⟩ : ∃ kk, ks[q] = kk := ⟨_, rfl⟩
              rw [hkk] at p0 hat3
              obtain ⟨xn, hxn⟩ : ∃ xn, (toldF ta kk).getD 0 = xn := ⟨_, rfl⟩
              obtain ⟨yn, hyn⟩ : ∃ yn, (toldF tb kk).getD 0 = yn := ⟨_, rfl⟩
              obtain ⟨xt, hxt⟩ : ∃ xt, (toldF ta kk).isSome = xt := ⟨_, rfl⟩
              obtain ⟨yt, hyt⟩ : ∃ yt, (toldF tb kk).isSome = yt := ⟨_, rfl⟩
              have HM0 := Lib.hid (hBz.out.alloc hBz.out.size (.cells #[.string ⟨kk.toArray⟩, .int .i64 kd, .bool is, .int .i64 m, .string ⟨s.toArray⟩, .slice A5 nl5 cl5, .slice B5 nm5 cm5] 44))
              have HMA := Lib.hid (HBR2.out.then_ HM0.out)
              have HM2 := Lib.hid (HWA.out.2.2.2.2.1.then_ HMA.out)
              have hc := refturns_calls ta tb A2 B2 A3 B3 nl2 cl2 nm2 cm2 nl3 cl3 nm3 cm3 kk mine ((nm == [117, 115, 101, 114, 115]) && (kk != user)) _ (HWA.out.2.2.1.below HMA.out) (HWA.out.2.2.2.1.below HMA.out) hxn hxt hyn hyt
              have hgk : (!wrongF (memF a nm) (memF b nm) mine nm user kk) = rtB xn yn mine xt yt ((nm == [117, 115, 101, 114, 115]) && (kk != user)) := by
                rw [rt_wrong]
                unfold wrongF
                rw [← HTLA.out kk, ← HTLB.out kk, hxn, hyn, hxt, hyt]
                rfl
              obtain ⟨gv, hgv⟩ : ∃ gv, rtB xn yn mine xt yt ((nm == [117, 115, 101, 114, 115]) && (kk != user)) = gv := ⟨_, rfl⟩
              rw [hgv] at hgk hc
              have hI4 : ks.all (fun k => !wrongF (memF a nm) (memF b nm) mine nm user k) = (gv && (ks.drop (q + 1)).all (fun k => !wrongF (memF a nm) (memF b nm) mine nm user k)) := by rw [hI3.out, hat3, hgk]
              have hga := HWA.out.1.later HMA.out
              have hgb := HWA.out.2.1.later HMA.out
              have HI4 := Lib.hid hI4
              clear hI3 hat3 hkk hxn hxt hyn hyt hgk hgv hI4 hql
              have d0 := hga.cell (k := 0) rfl; have d1 := hga.cell (k := 1) rfl; have d2 := hga.cell (k := 2) rfl; have d3 := hga.cell (k := 3) rfl; have d4 := hga.cell (k := 4) rfl; have d5 := hga.cell (k := 5) rfl
              have e0 := hgb.cell (k := 0) rfl; have e1 := hgb.cell (k := 1) rfl; have e2 := hgb.cell (k := 2) rfl; have e3 := hgb.cell (k := 3) rfl; have e4 := hgb.cell (k := 4) rfl; have e5 := hgb.cell (k := 5) rfl
              clear hga hgb
              cases gv with
              | false =>
                have HF := Lib.hid (show changeF a b mine user = false by rw [HJ3.out, HI4.out]; rfl)
                by_cases hus : nm = [117, 115, 101, 114, 115]
                · have hub : (nm == [117, 115, 101, 114, 115]) = true := by simpa using hus
                  by_cases hku : kk = user
                  · have hkb : (kk == user) = true := by simpa using hku
                    rw [show ((nm == [117, 115, 101, 114, 115]) && (kk != user)) = false by rw [hub, bne, hkb]; rfl] at hc
                    clear hus hku
                    go_wp2_with fail
                    refine hc.mono ?_
                    rintro e w9 ⟨rfl, b9⟩
                    have HB9 := Lib.hid (HB.out.then_ (HM2.out.then_ b9))
                    clear b9 hc
                    go_wp2_with fail
                    go_ret
                    rw [HF.out]
                    exact ⟨rfl, HB9.out⟩
                  · have hkb : (kk == user) = false := by simpa using hku
                    rw [show ((nm == [117, 115, 101, 114, 115]) && (kk != user)) = true by rw [hub, bne, hkb]; rfl] at hc
                    clear hus hku
                    go_wp2_with fail
                    refine hc.mono ?_
                    rintro e w9 ⟨rfl, b9⟩
                    have HB9 := Lib.hid (HB.out.then_ (HM2.out.then_ b9))
                    clear b9 hc
                    go_wp2_with fail
                    go_ret
                    rw [HF.out]
                    exact ⟨rfl, HB9.out⟩
                · have hub : (nm == [117, 115, 101, 114, 115]) = false := by simpa using hus
                  rw [show ((nm == [117, 115, 101, 114, 115]) && (kk != user)) = false by rw [hub]; rfl] at hc
                  clear hus
                  go_wp2_with fail
                  refine hc.mono ?_
                  rintro e w9 ⟨rfl, b9⟩
                  have HB9 := Lib.hid (HB.out.then_ (HM2.out.then_ b9))
                  clear b9 hc
                  go_wp2_with fail
                  go_ret
                  rw [HF.out]
                  exact ⟨rfl, HB9.out⟩
              | true =>
                have HF := Lib.hid (show ks.all (fun k => !wrongF (memF a nm) (memF b nm) mine nm user k) = (ks.drop (q + 1)).all (fun k => !wrongF (memF a nm) (memF b nm) mine nm user k) by rw [HI4.out]; rfl)
                by_cases hus : nm = [117, 115, 101, 114, 115]
                · have hub : (nm == [117, 115, 101, 114, 115]) = true := by simpa using hus
                  by_cases hku : kk = user
                  · have hkb : (kk == user) = true := by simpa using hku
                    rw [show ((nm == [117, 115, 101, 114, 115]) && (kk != user)) = false by rw [hub, bne, hkb]; rfl] at hc
                    clear hus hku
                    go_wp2_with fail
                    refine hc.mono ?_
                    rintro e w9 ⟨rfl, b9⟩
                    have HB9 := Lib.hid (HM0.out.then_ b9)
                    clear b9 hc p0 p1 p2 p3 p4 p5 p6 d0 d1 d2 d3 d4 d5 e0 e1 e2 e3 e4 e5
                    go_wp2_with fail
                    go_roundw
                    case rel => exact ⟨q + 1, by omega, by go_num, HB9, HF⟩
                    case measure => simp [intOf]; omega
                  · have hkb : (kk == user) = false := by simpa using hku
                    rw [show ((nm == [117, 115, 101, 114, 115]) && (kk != user)) = true by rw [hub, bne, hkb]; rfl] at hc
                    clear hus hku
                    go_wp2_with fail
                    refine hc.mono ?_
                    rintro e w9 ⟨rfl, b9⟩
                    have HB9 := Lib.hid (HM0.out.then_ b9)
                    clear b9 hc p0 p1 p2 p3 p4 p5 p6 d0 d1 d2 d3 d4 d5 e0 e1 e2 e3 e4 e5
                    go_wp2_with fail
                    go_roundw
                    case rel => exact ⟨q + 1, by omega, by go_num, HB9, HF⟩
                    case measure => simp [intOf]; omega
                · have hub : (nm == [117, 115, 101, 114, 115]) = false := by simpa using hus
                  rw [show ((nm == [117, 115, 101, 114, 115]) && (kk != user)) = false by rw [hub]; rfl] at hc
                  clear hus
                  go_wp2_with fail
                  refine hc.mono ?_
                  rintro e w9 ⟨rfl, b9⟩
                  have HB9 := Lib.hid (HM0.out.then_ b9)
                  clear b9 hc p0 p1 p2 p3 p4 p5 p6 d0 d1 d2 d3 d4 d5 e0 e1 e2 e3 e4 e5
                  go_wp2_with fail
                  go_roundw
                  case rel => exact ⟨q + 1, by omega, by go_num, HB9, HF⟩
                  case measure => simp [intOf]; omega
            · obtain rfl : q = n4 := by omega
              have HF := Lib.hid (show changeF a b mine user = (tabN.drop (j + 1)).all (fun nm => turnsF (memF a nm) (memF b nm) mine nm user) by rw [HJ3.out, hI3.out, ← HN4.out, List.drop_length]; rfl)
              have HB9 := Lib.hid (HWA.out.2.2.2.2.2.then_ (HBR2.out.then_ hBz.out))
              clear hI3
              go_wp2_with fail
              go_roundw
              case rel =>
                repeat apply Exists.intro
                refine ⟨⟨j + 1, by omega, ?e1, HB9, HF⟩, ?f1⟩
                case f1 => rfl
                case e1 => go_num
              case measure => simp [intOf]; omega
        · obtain rfl : j = 3 := by omega
          have HC3 := Lib.hid (show changeF a b mine user = true by rw [hJ.out]; rfl)
          have HB9 := Lib.hid (HB.out.then_ HBS.out)
          go_wp2_with fail
          go_ret
          rw [HC3.out]
          exact ⟨rfl, HB9.out⟩
end Go.Proofs.YtmfefeemkhncfaaDoor
