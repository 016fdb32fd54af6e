/- Layer 14: Valid, the program's. -/
import Derived.Test.YtmfefeemkhncfaaDoorPwU
namespace Go.Proofs.YtmfefeemkhncfaaDoor
open Go.ChangeShapes Go.WideShapes Go.ChangeAt Go.RowKit Go.IntWalk
set_option linter.unusedVariables false
set_option maxRecDepth 100000

set_option maxHeartbeats 4000000 in
theorem fits_calls (mv : Jv) (mA mB : Option Addr) (mnl mcl mnm mcm : Nat) (k : List UInt8) (w : World) (hv : VOk w mv mA mB mnl mcl mnm mcm) (hm : Max w) (hL : LonT w) (hT : TabT w) (hk : ShortM mv) :
    Calls Tryd.prog 30 #[.agg #[.string ⟨k.toArray⟩, .int .i64 mv.kd, .bool mv.is, .int .i64 mv.n, .string ⟨mv.s.toArray⟩, .slice mA mnl mcl, .slice mB mnm mcm]] w fun e w' => e = .returned (.bool (fitsF k mv)) ∧ Below w.heap.size w w' := by
  have hb1 : Below w.heap.size w (w.alloc (.cells #[.string ⟨k.toArray⟩, .int .i64 mv.kd, .bool mv.is, .int .i64 mv.n, .string ⟨mv.s.toArray⟩, .slice mA mnl mcl, .slice mB mnm mcm] 44)) := (Below.refl _ _).alloc (Nat.le_refl _) _
  have HB := Lib.hid hb1
  have HX := Lib.hid (Blk.new w [.string ⟨k.toArray⟩, .int .i64 mv.kd, .bool mv.is, .int .i64 mv.n, .string ⟨mv.s.toArray⟩, .slice mA mnl mcl, .slice mB mnm mcm] 44)
  obtain ⟨hg, lb, lo, lcp, hbl, hgc, hcs⟩ := hL.below hb1
  have HT := Lib.hid (hT.below hb1)
  have HV := Lib.hid (And.intro (hv.below hb1) (And.intro (hm.below hb1) hk))
  have HC := contains_fit k w.heap.size lb lo lcp _ (by simp) (HX.out.cell (k := 0) rfl) hbl hcs
  obtain ⟨c1, hc1⟩ : ∃ c1, isLone k = c1 := ⟨_, rfl⟩
  rw [hc1] at HC
  have HC1 := Lib.hid hc1
  have HCC := Lib.hid HC
  clear HC hb1 hg hbl hcs hL hT hv hm hk hc1
  go_enter Tryd.func30, Tryd.ntmps30
  go_wp2_with fail
  refine HCC.out.mono ?_
  rintro e w2 ⟨rfl, b2⟩
  have HB2 := Lib.hid (HB.out.then_ b2)
  have HB12 := Lib.hid b2
  have HX2 := Lib.hid (HX.out.later b2)
  clear b2 hgc
  cases c1 with
  | true =>
    have HE := Lib.hid (show fitsF k mv = (mv.kd == 2) by unfold fitsF; rw [HC1.out]; rfl)
    have d1 := HX2.out.cell (k := 1) rfl
    go_wp2_with fail
    go_ret
    rw [HE.out]
    exact ⟨rfl, HB2.out⟩
  | false =>
    obtain ⟨hg, tb, to, tcp, hbl, hgc, hcs⟩ := HT.out.below HB12.out
    have HC := contains_tab k tb to tcp _ hbl hcs
    obtain ⟨c2, hc2⟩ : ∃ c2, isTab k = c2 := ⟨_, rfl⟩
    rw [hc2] at HC
    have HC2 := Lib.hid hc2
    have HCD := Lib.hid HC
    have d0 := HX2.out.cell (k := 0) rfl
    clear HC hg hbl hcs hc2
    go_wp2_with fail
    refine HCD.out.mono ?_
    rintro e w3 ⟨rfl, b3⟩
    have HB3 := Lib.hid (HB2.out.then_ b3)
    have HB13 := Lib.hid (HB12.out.then_ b3)
    have HX3 := Lib.hid (HX2.out.later b3)
    clear b3 hgc d0
    cases c2 with
    | false =>
      have HE := Lib.hid (show fitsF k mv = true by unfold fitsF; rw [HC1.out, HC2.out]; rfl)
      go_wp2_with fail
      go_ret
      rw [HE.out]
      exact ⟨rfl, HB3.out⟩
    | true =>
      have d1 := HX3.out.cell (k := 1) rfl
      have d6 := HX3.out.cell (k := 6) rfl
      by_cases h5 : mv.kd = 5
      · have hq5 : (mv.kd == 5) = true := by simp [h5]
        have hv3 := HV.out.1.below HB13.out
        have HC := wm_contains (wrongM k) mB mnm mcm mv.m w.heap.size w3 hv3.2.1 hv3.2.2.2.1 (fun kk _ => kk.length ≤ 1000000) (fun i hi => HV.out.2.2 i hi)
          (fun kk xv xA xB xnl xcl xnm xcm W hkk hW hx => wrongm_calls xv xA xB xnl xcl xnm xcm kk k w.heap.size W (Nat.lt_of_lt_of_le HX3.out.lt hW.size) ((hW.cell (p := ⟨w.heap.size, 0, none⟩) HX3.out.lt).trans (HX3.out.cell (k := 0) rfl)) ((HV.out.2.1.below HB13.out).below hW) hkk)
        obtain ⟨av, hav⟩ : ∃ av, anyK (wrongM k) mv.m = av := ⟨_, rfl⟩
        rw [hav] at HC
        have HE := Lib.hid (show fitsF k mv = !av by unfold fitsF; rw [HC1.out, HC2.out, hq5, hav]; rfl)
        have HCE := Lib.hid HC
        clear HC hav hv3 h5
        go_wp2_with fail
        refine HCE.out.mono ?_
        rintro e w4 ⟨rfl, b4⟩
        have HB4 := Lib.hid (HB3.out.then_ b4)
        clear b4
        go_wp2_with fail
        go_ret
        rw [HE.out]
        exact ⟨rfl, HB4.out⟩
      · have hq5 : (mv.kd == 5) = false := by simp [h5]
        have HE := Lib.hid (show fitsF k mv = false by unfold fitsF; rw [HC1.out, HC2.out, hq5]; rfl)
        clear h5
        go_wp2_with fail
        go_ret
        rw [HE.out]
        exact ⟨rfl, HB3.out⟩
set_option maxHeartbeats 4000000 in
theorem valid1_calls (mv : Jv) (mA mB : Option Addr) (mnl mcl mnm mcm : Nat) (k : List UInt8) (w : World) (hv : VOk w mv mA mB mnl mcl mnm mcm) (hm : Max w) (hL : LonT w) (hT : TabT w) (hk : ShortM mv) :
    Calls Tryd.prog 29 #[.agg #[.string ⟨k.toArray⟩, .int .i64 mv.kd, .bool mv.is, .int .i64 mv.n, .string ⟨mv.s.toArray⟩, .slice mA mnl mcl, .slice mB mnm mcm]] w fun e w' => e = .returned (.bool (!(fitsF k mv))) ∧ Below w.heap.size w w' := by
  have hb1 : Below w.heap.size w (w.alloc (.cells #[.string ⟨k.toArray⟩, .int .i64 mv.kd, .bool mv.is, .int .i64 mv.n, .string ⟨mv.s.toArray⟩, .slice mA mnl mcl, .slice mB mnm mcm] 44)) := (Below.refl _ _).alloc (Nat.le_refl _) _
  have HB := Lib.hid hb1
  have hx := Blk.new w [.string ⟨k.toArray⟩, .int .i64 mv.kd, .bool mv.is, .int .i64 mv.n, .string ⟨mv.s.toArray⟩, .slice mA mnl mcl, .slice mB mnm mcm] 44
  have HX := Lib.hid hx
  have HC := Lib.hid (fits_calls mv mA mB mnl mcl mnm mcm k _ (hv.below hb1) (hm.below hb1) (hL.below hb1) (hT.below hb1) hk)
  have d0 := hx.cell (k := 0) rfl; have d1 := hx.cell (k := 1) rfl; have d2 := hx.cell (k := 2) rfl; have d3 := hx.cell (k := 3) rfl; have d4 := hx.cell (k := 4) rfl; have d5 := hx.cell (k := 5) rfl; have d6 := hx.cell (k := 6) rfl
  clear hb1 hx hv hm hL hT hk
  go_enter Tryd.func29, Tryd.ntmps29
  go_wp2_with fail
  refine HC.out.mono ?_
  rintro e w2 ⟨rfl, b2⟩
  have HB2 := Lib.hid (HB.out.then_ b2)
  clear b2
  go_wp2_with fail
  go_ret
  exact ⟨rfl, HB2.out⟩
set_option maxHeartbeats 4000000 in
theorem valid_calls (v : Jv) (A0 B0 : Option Addr) (nl0 cl0 nm0 cm0 : Nat) (w : World) (hv : VOk w v A0 B0 nl0 cl0 nm0 cm0) (hm : Max w) (hL : LonT w) (hT : TabT w) (hk : ∀ i, i < v.m.ext → ShortM (v.m.fall i).val) :
    Calls Tryd.prog 11 #[.agg #[.int .i64 v.kd, .bool v.is, .int .i64 v.n, .string ⟨v.s.toArray⟩, .slice A0 nl0 cl0, .slice B0 nm0 cm0]] w fun e w' => e = .returned (.bool (validF v)) ∧ Below w.heap.size w w' := by
  have hb1 : Below w.heap.size w (w.alloc (.cells #[.int .i64 v.kd, .bool v.is, .int .i64 v.n, .string ⟨v.s.toArray⟩, .slice A0 nl0 cl0, .slice B0 nm0 cm0] 25)) := (Below.refl _ _).alloc (Nat.le_refl _) _
  have HB := Lib.hid hb1
  have hx := Blk.new w [.int .i64 v.kd, .bool v.is, .int .i64 v.n, .string ⟨v.s.toArray⟩, .slice A0 nl0 cl0, .slice B0 nm0 cm0] 25
  have d0 := hx.cell (k := 0) rfl; have d5 := hx.cell (k := 5) rfl
  have HC := nf_contains (fun k mv => !(fitsF k mv)) B0 nm0 cm0 v.m _ (hv.below hb1).2.1 (hv.below hb1).2.2.2.1 (fun _ mv => ShortM mv) hk
    (fun kk xv xA xB xnl xcl xnm xcm W hkk hW hx => valid1_calls xv xA xB xnl xcl xnm xcm kk W hx ((hm.below hb1).below hW) ((hL.below hb1).below hW) ((hT.below hb1).below hW) hkk)
  obtain ⟨av, hav⟩ : ∃ av, anyK (fun k mv => !(fitsF k mv)) v.m = av := ⟨_, rfl⟩
  rw [hav] at HC
  have HCC := Lib.hid HC
  have HE := Lib.hid (show validF v = (v.kd == 5 && !av) by unfold validF; rw [hav])
  clear HC hav hx hb1 hv hm hL hT hk
  by_cases h5 : v.kd = 5
  · have hn5 := kd_eq h5
    have HE2 := Lib.hid (show validF v = !av by rw [HE.out, h5]; rfl)
    clear h5
    go_enter Tryd.func11, Tryd.ntmps11
    go_wp2_with fail
    refine HCC.out.mono ?_
    rintro e w2 ⟨rfl, b2⟩
    have HB2 := Lib.hid (HB.out.then_ b2)
    clear b2
    go_wp2_with fail
    go_ret
    rw [HE2.out]
    exact ⟨rfl, HB2.out⟩
  · have hn5 := kd_ne h5
    have HE2 := Lib.hid (show validF v = false by rw [HE.out]; simp [h5])
    clear h5
    go_enter Tryd.func11, Tryd.ntmps11
    go_wp2_with fail
    go_ret
    rw [HE2.out]
    exact ⟨rfl, HB.out⟩
theorem al_0 : validF nullV = false := by decide
theorem al_6 : validF lvV = true := by decide
theorem lv_short : ∀ i, i < lvV.m.ext → ShortM (lvV.m.fall i).val := by
  intro i hi j hj
  have e1 : lvV.m.ext = 1 := rfl
  obtain rfl : i = 0 := by omega
  have e2 : (lvV.m.fall 0).val.m.ext = 1 := rfl
  obtain rfl : j = 0 := by omega
  decide
end Go.Proofs.YtmfefeemkhncfaaDoor
