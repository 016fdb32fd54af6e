/- Texts put together: PnH. -/
import Derived.Test.YtpleminoiodmgaaDoorZ2f705f9709
import Derived.Test.YtpleminoiodmgaaDoorZ886a37d947
import Derived.Test.YtpleminoiodmgaaDoorZ5b48fd9a65
namespace Go.Proofs.YtpleminoiodmgaaDoor
open Go.ChangeShapes Go.WideShapes Go.ChangeAt Go.RowKit Go.IntWalk
set_option linter.unusedVariables false
set_option maxRecDepth 100000

theorem withP_len (l : List Pr) (p : Pr) : (withP l p).length ≤ 2 * l.length + 1 := by
  unfold withP
  rw [List.length_append, List.length_cons]
  have h1 : (l.filter fun x => decide (cmpP x p = -1)).length ≤ l.length := List.length_filter_le _ _
  have h2 : (l.filter fun x => decide (cmpP p x = -1)).length ≤ l.length := List.length_filter_le _ _
  omega
/-- The token of a third party's invitation; empty, where there is none. -/
def tokV (v : Jv) : List UInt8 := textV ((getJ ((getJ v [116, 104, 105, 114, 100, 95, 112, 97, 114, 116, 121, 95, 105, 110, 118, 105, 116, 101]).getD nullV) [115, 105, 103, 110, 101, 100]).getD nullV) [116, 111, 107, 101, 110]
/-- The pairs that each event needs. -/
def ned1 (e : Ev) : List Pr := withP (withP [([109, 46, 114, 111, 111, 109, 46, 99, 114, 101, 97, 116, 101], [])] ([109, 46, 114, 111, 111, 109, 46, 112, 111, 119, 101, 114, 95, 108, 101, 118, 101, 108, 115], [])) ([109, 46, 114, 111, 111, 109, 46, 109, 101, 109, 98, 101, 114], e.sd)
/-- .. with those that a member's needs beside. -/
def ned3 (e : Ev) : List Pr := let l := withP (ned1 e) ([109, 46, 114, 111, 111, 109, 46, 109, 101, 109, 98, 101, 114], e.ky); if textV e.ct [109, 101, 109, 98, 101, 114, 115, 104, 105, 112] = [106, 111, 105, 110] ∨ textV e.ct [109, 101, 109, 98, 101, 114, 115, 104, 105, 112] = [105, 110, 118, 105, 116, 101] ∨ textV e.ct [109, 101, 109, 98, 101, 114, 115, 104, 105, 112] = [107, 110, 111, 99, 107] then withP l ([109, 46, 114, 111, 111, 109, 46, 106, 111, 105, 110, 95, 114, 117, 108, 101, 115], []) else l
def ned4 (e : Ev) : List Pr := if textV e.ct [109, 101, 109, 98, 101, 114, 115, 104, 105, 112] = [106, 111, 105, 110] ∧ textV e.ct [106, 111, 105, 110, 95, 97, 117, 116, 104, 111, 114, 105, 115, 101, 100, 95, 118, 105, 97, 95, 117, 115, 101, 114, 115, 95, 115, 101, 114, 118, 101, 114] ≠ [] then withP (ned3 e) ([109, 46, 114, 111, 111, 109, 46, 109, 101, 109, 98, 101, 114], textV e.ct [106, 111, 105, 110, 95, 97, 117, 116, 104, 111, 114, 105, 115, 101, 100, 95, 118, 105, 97, 95, 117, 115, 101, 114, 115, 95, 115, 101, 114, 118, 101, 114]) else ned3 e
def ned5 (e : Ev) : List Pr := if textV e.ct [109, 101, 109, 98, 101, 114, 115, 104, 105, 112] = [105, 110, 118, 105, 116, 101] ∧ tokV e.ct ≠ [] then withP (ned4 e) ([109, 46, 114, 111, 111, 109, 46, 116, 104, 105, 114, 100, 95, 112, 97, 114, 116, 121, 95, 105, 110, 118, 105, 116, 101], tokV e.ct) else ned4 e
def nedF (e : Ev) : List Pr := if e.ty = [109, 46, 114, 111, 111, 109, 46, 99, 114, 101, 97, 116, 101] then [] else if e.ty = [109, 46, 114, 111, 111, 109, 46, 109, 101, 109, 98, 101, 114] then ned5 e else ned1 e
theorem ned3_yes {e : Ev} (h : textV e.ct [109, 101, 109, 98, 101, 114, 115, 104, 105, 112] = [106, 111, 105, 110] ∨ textV e.ct [109, 101, 109, 98, 101, 114, 115, 104, 105, 112] = [105, 110, 118, 105, 116, 101] ∨ textV e.ct [109, 101, 109, 98, 101, 114, 115, 104, 105, 112] = [107, 110, 111, 99, 107]) : ned3 e = withP (withP (ned1 e) ([109, 46, 114, 111, 111, 109, 46, 109, 101, 109, 98, 101, 114], e.ky)) ([109, 46, 114, 111, 111, 109, 46, 106, 111, 105, 110, 95, 114, 117, 108, 101, 115], []) := if_pos h
theorem ned3_no {e : Ev} (h : ¬ (textV e.ct [109, 101, 109, 98, 101, 114, 115, 104, 105, 112] = [106, 111, 105, 110] ∨ textV e.ct [109, 101, 109, 98, 101, 114, 115, 104, 105, 112] = [105, 110, 118, 105, 116, 101] ∨ textV e.ct [109, 101, 109, 98, 101, 114, 115, 104, 105, 112] = [107, 110, 111, 99, 107])) : ned3 e = withP (ned1 e) ([109, 46, 114, 111, 111, 109, 46, 109, 101, 109, 98, 101, 114], e.ky) := if_neg h
theorem ned4_yes {e : Ev} (h : textV e.ct [109, 101, 109, 98, 101, 114, 115, 104, 105, 112] = [106, 111, 105, 110] ∧ textV e.ct [106, 111, 105, 110, 95, 97, 117, 116, 104, 111, 114, 105, 115, 101, 100, 95, 118, 105, 97, 95, 117, 115, 101, 114, 115, 95, 115, 101, 114, 118, 101, 114] ≠ []) : ned4 e = withP (ned3 e) ([109, 46, 114, 111, 111, 109, 46, 109, 101, 109, 98, 101, 114], textV e.ct [106, 111, 105, 110, 95, 97, 117, 116, 104, 111, 114, 105, 115, 101, 100, 95, 118, 105, 97, 95, 117, 115, 101, 114, 115, 95, 115, 101, 114, 118, 101, 114]) := if_pos h
theorem ned4_no {e : Ev} (h : ¬ (textV e.ct [109, 101, 109, 98, 101, 114, 115, 104, 105, 112] = [106, 111, 105, 110] ∧ textV e.ct [106, 111, 105, 110, 95, 97, 117, 116, 104, 111, 114, 105, 115, 101, 100, 95, 118, 105, 97, 95, 117, 115, 101, 114, 115, 95, 115, 101, 114, 118, 101, 114] ≠ [])) : ned4 e = ned3 e := if_neg h
theorem ned5_yes {e : Ev} (h : textV e.ct [109, 101, 109, 98, 101, 114, 115, 104, 105, 112] = [105, 110, 118, 105, 116, 101] ∧ tokV e.ct ≠ []) : ned5 e = withP (ned4 e) ([109, 46, 114, 111, 111, 109, 46, 116, 104, 105, 114, 100, 95, 112, 97, 114, 116, 121, 95, 105, 110, 118, 105, 116, 101], tokV e.ct) := if_pos h
theorem ned5_no {e : Ev} (h : ¬ (textV e.ct [109, 101, 109, 98, 101, 114, 115, 104, 105, 112] = [105, 110, 118, 105, 116, 101] ∧ tokV e.ct ≠ [])) : ned5 e = ned4 e := if_neg h
theorem nul_get (key : List UInt8) : getJ nullV key = none := if_neg (by decide)
theorem tokV_1 {v : Jv} (h : ¬ v.kd = 5) : tokV v = [] := by unfold tokV getJ; rw [if_neg h]; rfl
theorem tokV_2 {v u : Jv} (hu : (getJ v [116, 104, 105, 114, 100, 95, 112, 97, 114, 116, 121, 95, 105, 110, 118, 105, 116, 101]).getD nullV = u) (h : ¬ u.kd = 5) : tokV v = [] := by unfold tokV; rw [hu]; unfold getJ; rw [if_neg h]; rfl
theorem tokV_3 {v u x : Jv} (hu : (getJ v [116, 104, 105, 114, 100, 95, 112, 97, 114, 116, 121, 95, 105, 110, 118, 105, 116, 101]).getD nullV = u) (hx : (getJ u [115, 105, 103, 110, 101, 100]).getD nullV = x) : tokV v = textV x [116, 111, 107, 101, 110] := by unfold tokV; rw [hu, hx]
def NedPost (l : List Pr) (w : World) (en : Ending) (w' : World) : Prop := (∃ (A : Option Addr) (c : Nat), en = .returned (.slice A l.length c) ∧ LP w' A l.length c l) ∧ Below w.heap.size w w'
set_option maxHeartbeats 16000000 in
theorem refneeded_calls (e : Ev) (a : Ea) (w : World) (he : EOk w e a) : Calls Tryd.prog 9 #[.agg (evC e a).toArray] w (NedPost (nedF e) w) := by
  have b0 : Below w.heap.size w (w.alloc (.cells (evC e a).toArray 29)) := (Below.refl _ _).alloc (Nat.le_refl _) _
  have HB0 := Lib.hid b0
  have HX := Lib.hid (Blk.new w (evC e a) 29)
  have HE := Lib.hid he
  have hx := HX.out
  have d1 := hx.cell (k := 1) rfl; have d2 := hx.cell (k := 2) rfl; have d4 := hx.cell (k := 4) rfl; have d5 := hx.cell (k := 5) rfl; have d6 := hx.cell (k := 6) rfl; have d7 := hx.cell (k := 7) rfl; have d8 := hx.cell (k := 8) rfl; have d9 := hx.cell (k := 9) rfl; have d10 := hx.cell (k := 10) rfl
  clear he b0 hx
  by_cases hc : e.ty = [109, 46, 114, 111, 111, 109, 46, 99, 114, 101, 97, 116, 101]
  · have t1 : (e.ty == [109, 46, 114, 111, 111, 109, 46, 99, 114, 101, 97, 116, 101]) = true := by rw [beq_iff_eq]; exact hc
    have HF := Lib.hid (show nedF e = [] by unfold nedF; rw [if_pos hc])
    clear hc
    go_enter Tryd.func9, Tryd.ntmps9
    go_wp2_with fail
    go_ret
    rw [HF.out]
    exact ⟨⟨none, 0, rfl, RV.nil _ _, Lib.hid rfl, Nat.le_refl _, by decide⟩, HB0.out⟩
  have t1 : (e.ty == [109, 46, 114, 111, 111, 109, 46, 99, 114, 101, 97, 116, 101]) = false := by rw [beq_eq_false_iff_ne]; exact hc
  obtain ⟨rr, hrr⟩ : ∃ l, nedF e = l := ⟨_, rfl⟩
  rw [hrr]
  have HF := Lib.hid (show rr = if e.ty = [109, 46, 114, 111, 111, 109, 46, 109, 101, 109, 98, 101, 114] then ned5 e else ned1 e by rw [← hrr]; unfold nedF; rw [if_neg hc])
  clear hc hrr
  go_enter Tryd.func9, Tryd.ntmps9
  go_upto_region 4 with fail
  refine wp_gen (fun W => Below (w.alloc (.cells (evC e a).toArray 29)).heap.size (w.alloc (.cells (evC e a).toArray 29)) W ∧ LP W (some ⟨w.heap.size + 1, 0, none⟩) 1 1 [([109, 46, 114, 111, 111, 109, 46, 99, 114, 101, 97, 116, 101], [])]) ⟨(Below.refl _ _).alloc (Nat.le_refl _) _, RV.of_blk (cs := prC [([109, 46, 114, 111, 111, 109, 46, 99, 114, 101, 97, 116, 101], [])]) (blk_atP _ 35 (by simp)), Lib.hid rfl, Nat.le_refl _, by decide⟩ ?_
  clear d1 d2 d4 d5 d6 d7 d8 d9 d10
  rintro w1 ⟨g1, g2⟩
  have HB1 := Lib.hid g1
  have HL1 := Lib.hid g2
  clear g1 g2
  have HW := Lib.hid (refwithP_calls (some ⟨w.heap.size + 1, 0, none⟩) 1 1 [([109, 46, 114, 111, 111, 109, 46, 99, 114, 101, 97, 116, 101], [])] ([109, 46, 114, 111, 111, 109, 46, 112, 111, 119, 101, 114, 95, 108, 101, 118, 101, 108, 115], []) w1 HL1.out (by decide))
  obtain ⟨L2, hL⟩ : ∃ L, withP [([109, 46, 114, 111, 111, 109, 46, 99, 114, 101, 97, 116, 101], [])] ([109, 46, 114, 111, 111, 109, 46, 112, 111, 119, 101, 114, 95, 108, 101, 118, 101, 108, 115], []) = L := ⟨_, rfl⟩
  rw [hL] at HW
  have HN2 := Lib.hid (show L2.length ≤ 3 by rw [← hL]; have := withP_len [([109, 46, 114, 111, 111, 109, 46, 99, 114, 101, 97, 116, 101], [])] ([109, 46, 114, 111, 111, 109, 46, 112, 111, 119, 101, 114, 95, 108, 101, 118, 101, 108, 115], []); simpa using this)
  have HQ2 := Lib.hid hL
  clear hL
  have hx := HX.out.later HB1.out; have d1 := hx.cell (k := 1) rfl; have d2 := hx.cell (k := 2) rfl; have d4 := hx.cell (k := 4) rfl; have d5 := hx.cell (k := 5) rfl; have d6 := hx.cell (k := 6) rfl; have d7 := hx.cell (k := 7) rfl; have d8 := hx.cell (k := 8) rfl; have d9 := hx.cell (k := 9) rfl; have d10 := hx.cell (k := 10) rfl; clear hx
  go_wp2_with fail
  refine HW.out.mono ?_
  rintro en w2 ⟨v, rfl, ho, hb⟩
  obtain ⟨A2, c2, rfl, hl⟩ := ho.form
  have HB2 := Lib.hid (HB1.out.then_ hb)
  have HL2 := Lib.hid hl
  clear ho hb hl HW HL1
  clear d1 d2 d4 d5 d6 d7 d8 d9 d10
  have HW := Lib.hid (refwithP_calls A2 L2.length c2 L2 ([109, 46, 114, 111, 111, 109, 46, 109, 101, 109, 98, 101, 114], e.sd) w2 HL2.out (by have := HN2.out; omega))
  obtain ⟨L3, hL⟩ : ∃ L, withP L2 ([109, 46, 114, 111, 111, 109, 46, 109, 101, 109, 98, 101, 114], e.sd) = L := ⟨_, rfl⟩
  rw [hL] at HW
  have HN3 := Lib.hid (show L3.length ≤ 7 by rw [← hL]; have := withP_len L2 ([109, 46, 114, 111, 111, 109, 46, 109, 101, 109, 98, 101, 114], e.sd); have := HN2.out; omega)
  have HQ3 := Lib.hid hL
  clear hL
  have hx := HX.out.later HB2.out; have d1 := hx.cell (k := 1) rfl; have d2 := hx.cell (k := 2) rfl; have d4 := hx.cell (k := 4) rfl; have d5 := hx.cell (k := 5) rfl; have d6 := hx.cell (k := 6) rfl; have d7 := hx.cell (k := 7) rfl; have d8 := hx.cell (k := 8) rfl; have d9 := hx.cell (k := 9) rfl; have d10 := hx.cell (k := 10) rfl; clear hx
  go_wp2_with fail
  refine HW.out.mono ?_
  rintro en w3 ⟨v, rfl, ho, hb⟩
  obtain ⟨A3, c3, rfl, hl⟩ := ho.form
  have HB3 := Lib.hid (HB2.out.then_ hb)
  have HL3 := Lib.hid hl
  clear ho hb hl HW
  clear d1 d2 d4 d5 d6 d7 d8 d9 d10
  have hx := HX.out.later HB3.out; have d1 := hx.cell (k := 1) rfl; have d2 := hx.cell (k := 2) rfl; have d4 := hx.cell (k := 4) rfl; have d5 := hx.cell (k := 5) rfl; have d6 := hx.cell (k := 6) rfl; have d7 := hx.cell (k := 7) rfl; have d8 := hx.cell (k := 8) rfl; have d9 := hx.cell (k := 9) rfl; have d10 := hx.cell (k := 10) rfl; clear hx
  by_cases hm : e.ty = [109, 46, 114, 111, 111, 109, 46, 109, 101, 109, 98, 101, 114]
  rotate_left
  · have t2 : (e.ty != [109, 46, 114, 111, 111, 109, 46, 109, 101, 109, 98, 101, 114]) = true := by rw [bne_iff_ne]; exact hm
    have t2' : (e.ty == [109, 46, 114, 111, 111, 109, 46, 109, 101, 109, 98, 101, 114]) = false := by rw [beq_eq_false_iff_ne]; exact hm
    have HTY := Lib.hid hm
    clear hm
    go_wp2_with fail
    go_ret
    have HR : rr = L3 := by
      rw [HF.out, if_neg HTY.out]; unfold ned1; rw [HQ2.out, HQ3.out]
    rw [HR]
    exact ⟨⟨_, _, rfl, HL3.out⟩, HB0.out.then_ HB3.out⟩
  have t2 : (e.ty != [109, 46, 114, 111, 111, 109, 46, 109, 101, 109, 98, 101, 114]) = false := by simp [hm]
  have t2' : (e.ty == [109, 46, 114, 111, 111, 109, 46, 109, 101, 109, 98, 101, 114]) = true := by simp [hm]
  have HTY := Lib.hid hm
  clear hm
  clear d1 d2 d4 d5 d6 d7 d8 d9 d10
  have HW := Lib.hid (refwithP_calls A3 L3.length c3 L3 ([109, 46, 114, 111, 111, 109, 46, 109, 101, 109, 98, 101, 114], e.ky) w3 HL3.out (by have := HN3.out; omega))
  obtain ⟨L4, hL⟩ : ∃ L, withP L3 ([109, 46, 114, 111, 111, 109, 46, 109, 101, 109, 98, 101, 114], e.ky) = L := ⟨_, rfl⟩
  rw [hL] at HW
  have HN4 := Lib.hid (show L4.length ≤ 15 by rw [← hL]; have := withP_len L3 ([109, 46, 114, 111, 111, 109, 46, 109, 101, 109, 98, 101, 114], e.ky); have := HN3.out; omega)
  have HQ4 := Lib.hid hL
  clear hL
  have hx := HX.out.later HB3.out; have d1 := hx.cell (k := 1) rfl; have d2 := hx.cell (k := 2) rfl; have d4 := hx.cell (k := 4) rfl; have d5 := hx.cell (k := 5) rfl; have d6 := hx.cell (k := 6) rfl; have d7 := hx.cell (k := 7) rfl; have d8 := hx.cell (k := 8) rfl; have d9 := hx.cell (k := 9) rfl; have d10 := hx.cell (k := 10) rfl; clear hx
  go_wp2_with fail
  refine HW.out.mono ?_
  rintro en w4 ⟨v, rfl, ho, hb⟩
  obtain ⟨A4, c4, rfl, hl⟩ := ho.form
  have HB4 := Lib.hid (HB3.out.then_ hb)
  have HL4 := Lib.hid hl
  clear ho hb hl HW
  clear d1 d2 d4 d5 d6 d7 d8 d9 d10
  have HTX := Lib.hid (reftextU_calls e.ct a.A a.B a.nl a.cl a.nm a.cm [109, 101, 109, 98, 101, 114, 115, 104, 105, 112] w4 (HE.out.1.below (HB0.out.then_ HB4.out)))
  obtain ⟨how, hhow⟩ : ∃ s, textV e.ct [109, 101, 109, 98, 101, 114, 115, 104, 105, 112] = s := ⟨_, rfl⟩
  rw [hhow] at HTX
  have HQhow := Lib.hid hhow
  clear hhow
  have hx := HX.out.later HB4.out; have d1 := hx.cell (k := 1) rfl; have d2 := hx.cell (k := 2) rfl; have d4 := hx.cell (k := 4) rfl; have d5 := hx.cell (k := 5) rfl; have d6 := hx.cell (k := 6) rfl; have d7 := hx.cell (k := 7) rfl; have d8 := hx.cell (k := 8) rfl; have d9 := hx.cell (k := 9) rfl; have d10 := hx.cell (k := 10) rfl; clear hx
  go_wp2_with fail
  refine HTX.out.mono ?_
  rintro en w5 ⟨rfl, hb⟩
  have HB5 := Lib.hid (HB4.out.then_ hb)
  have HL5 := Lib.hid (HL4.out.below hb)
  clear hb HTX
  clear d1 d2 d4 d5 d6 d7 d8 d9 d10
  by_cases hj : how = [106, 111, 105, 110]
  · subst hj
    have HW := Lib.hid (refwithP_calls A4 L4.length c4 L4 ([109, 46, 114, 111, 111, 109, 46, 106, 111, 105, 110, 95, 114, 117, 108, 101, 115], []) w5 HL5.out (by have := HN4.out; omega))
    obtain ⟨L6, hL⟩ : ∃ L, withP L4 ([109, 46, 114, 111, 111, 109, 46, 106, 111, 105, 110, 95, 114, 117, 108, 101, 115], []) = L := ⟨_, rfl⟩
    rw [hL] at HW
    have HN6 := Lib.hid (show L6.length ≤ 31 by rw [← hL]; have := withP_len L4 ([109, 46, 114, 111, 111, 109, 46, 106, 111, 105, 110, 95, 114, 117, 108, 101, 115], []); have := HN4.out; omega)
    have HQ6 := Lib.hid hL
    clear hL
    have hx := HX.out.later HB5.out; have d1 := hx.cell (k := 1) rfl; have d2 := hx.cell (k := 2) rfl; have d4 := hx.cell (k := 4) rfl; have d5 := hx.cell (k := 5) rfl; have d6 := hx.cell (k := 6) rfl; have d7 := hx.cell (k := 7) rfl; have d8 := hx.cell (k := 8) rfl; have d9 := hx.cell (k := 9) rfl; have d10 := hx.cell (k := 10) rfl; clear hx
    go_wp2_with fail
    refine HW.out.mono ?_
    rintro en w6 ⟨v, rfl, ho, hb⟩
    obtain ⟨A6, c6, rfl, hl⟩ := ho.form
    have HB6 := Lib.hid (HB5.out.then_ hb)
    have HL6 := Lib.hid hl
    clear ho hb hl HW
    clear d1 d2 d4 d5 d6 d7 d8 d9 d10
    have HTX := Lib.hid (reftextU_calls e.ct a.A a.B a.nl a.cl a.nm a.cm [106, 111, 105, 110, 95, 97, 117, 116, 104, 111, 114, 105, 115, 101, 100, 95, 118, 105, 97, 95, 117, 115, 101, 114, 115, 95, 115, 101, 114, 118, 101, 114] w6 (HE.out.1.below (HB0.out.then_ HB6.out)))
    obtain ⟨by_, hby_⟩ : ∃ s, textV e.ct [106, 111, 105, 110, 95, 97, 117, 116, 104, 111, 114, 105, 115, 101, 100, 95, 118, 105, 97, 95, 117, 115, 101, 114, 115, 95, 115, 101, 114, 118, 101, 114] = s := ⟨_, rfl⟩
    rw [hby_] at HTX
    have HQby_ := Lib.hid hby_
    clear hby_
    have hx := HX.out.later HB6.out; have d1 := hx.cell (k := 1) rfl; have d2 := hx.cell (k := 2) rfl; have d4 := hx.cell (k := 4) rfl; have d5 := hx.cell (k := 5) rfl; have d6 := hx.cell (k := 6) rfl; have d7 := hx.cell (k := 7) rfl; have d8 := hx.cell (k := 8) rfl; have d9 := hx.cell (k := 9) rfl; have d10 := hx.cell (k := 10) rfl; clear hx
    go_wp2_with fail
    refine HTX.out.mono ?_
    rintro en w7 ⟨rfl, hb⟩
    have HB7 := Lib.hid (HB6.out.then_ hb)
    have HL7 := Lib.hid (HL6.out.below hb)
    clear hb HTX
    clear d1 d2 d4 d5 d6 d7 d8 d9 d10
    by_cases hy : by_ = []
    · subst hy
      have hx := HX.out.later HB7.out; have d1 := hx.cell (k := 1) rfl; have d2 := hx.cell (k := 2) rfl; have d4 := hx.cell (k := 4) rfl; have d5 := hx.cell (k := 5) rfl; have d6 := hx.cell (k := 6) rfl; have d7 := hx.cell (k := 7) rfl; have d8 := hx.cell (k := 8) rfl; have d9 := hx.cell (k := 9) rfl; have d10 := hx.cell (k := 10) rfl; clear hx
      go_wp2_with fail
      go_ret
      have HR : rr = L6 := by
        rw [HF.out, if_pos HTY.out, ned5_no (by rw [HQhow.out]; rintro ⟨h, _⟩; exact absurd h (by decide)), ned4_no (by rw [HQby_.out]; rintro ⟨_, h⟩; exact h rfl), ned3_yes (by rw [HQhow.out]; exact .inl rfl), show ned1 e = L3 by unfold ned1; rw [HQ2.out, HQ3.out]]; rw [HQ4.out, HQ6.out]
      rw [HR]
      exact ⟨⟨_, _, rfl, HL7.out⟩, HB0.out.then_ HB7.out⟩
    have t3 : (by_ == []) = false := by rw [beq_eq_false_iff_ne]; exact hy
    have t4 : (by_ != []) = true := by rw [bne_iff_ne]; exact hy
    have HY := Lib.hid hy
    clear hy
    have HW := Lib.hid (refwithP_calls A6 L6.length c6 L6 ([109, 46, 114, 111, 111, 109, 46, 109, 101, 109, 98, 101, 114], by_) w7 HL7.out (by have := HN6.out; omega))
    obtain ⟨L8, hL⟩ : ∃ L, withP L6 ([109, 46, 114, 111, 111, 109, 46, 109, 101, 109, 98, 101, 114], by_) = L := ⟨_, rfl⟩
    rw [hL] at HW
    have HN8 := Lib.hid (show L8.length ≤ 63 by rw [← hL]; have := withP_len L6 ([109, 46, 114, 111, 111, 109, 46, 109, 101, 109, 98, 101, 114], by_); have := HN6.out; omega)
    have HQ8 := Lib.hid hL
    clear hL
    have hx := HX.out.later HB7.out; have d1 := hx.cell (k := 1) rfl; have d2 := hx.cell (k := 2) rfl; have d4 := hx.cell (k := 4) rfl; have d5 := hx.cell (k := 5) rfl; have d6 := hx.cell (k := 6) rfl; have d7 := hx.cell (k := 7) rfl; have d8 := hx.cell (k := 8) rfl; have d9 := hx.cell (k := 9) rfl; have d10 := hx.cell (k := 10) rfl; clear hx
    go_wp2_with fail
    refine HW.out.mono ?_
    rintro en w8 ⟨v, rfl, ho, hb⟩
    obtain ⟨A8, c8, rfl, hl⟩ := ho.form
    have HB8 := Lib.hid (HB7.out.then_ hb)
    have HL8 := Lib.hid hl
    clear ho hb hl HW
    clear d1 d2 d4 d5 d6 d7 d8 d9 d10
    have hx := HX.out.later HB8.out; have d1 := hx.cell (k := 1) rfl; have d2 := hx.cell (k := 2) rfl; have d4 := hx.cell (k := 4) rfl; have d5 := hx.cell (k := 5) rfl; have d6 := hx.cell (k := 6) rfl; have d7 := hx.cell (k := 7) rfl; have d8 := hx.cell (k := 8) rfl; have d9 := hx.cell (k := 9) rfl; have d10 := hx.cell (k := 10) rfl; clear hx
    go_wp2_with fail
    go_ret
    have HR : rr = L8 := by
      rw [HF.out, if_pos HTY.out, ned5_no (by rw [HQhow.out]; rintro ⟨h, _⟩; exact absurd h (by decide)), ned4_yes ⟨by rw [HQhow.out], by rw [HQby_.out]; exact HY.out⟩, ned3_yes (by rw [HQhow.out]; exact .inl rfl), show ned1 e = L3 by unfold ned1; rw [HQ2.out, HQ3.out]]; rw [HQby_.out, HQ4.out, HQ6.out, HQ8.out]
    rw [HR]
    exact ⟨⟨_, _, rfl, HL8.out⟩, HB0.out.then_ HB8.out⟩
  by_cases hi : how = [105, 110, 118, 105, 116, 101]
  · subst hi
    have HW := Lib.hid (refwithP_calls A4 L4.length c4 L4 ([109, 46, 114, 111, 111, 109, 46, 106, 111, 105, 110, 95, 114, 117, 108, 101, 115], []) w5 HL5.out (by have := HN4.out; omega))
    obtain ⟨L6, hL⟩ : ∃ L, withP L4 ([109, 46, 114, 111, 111, 109, 46, 106, 111, 105, 110, 95, 114, 117, 108, 101, 115], []) = L := ⟨_, rfl⟩
    rw [hL] at HW
    have HN6 := Lib.hid (show L6.length ≤ 31 by rw [← hL]; have := withP_len L4 ([109, 46, 114, 111, 111, 109, 46, 106, 111, 105, 110, 95, 114, 117, 108, 101, 115], []); have := HN4.out; omega)
    have HQ6 := Lib.hid hL
    clear hL
    have hx := HX.out.later HB5.out; have d1 := hx.cell (k := 1) rfl; have d2 := hx.cell (k := 2) rfl; have d4 := hx.cell (k := 4) rfl; have d5 := hx.cell (k := 5) rfl; have d6 := hx.cell (k := 6) rfl; have d7 := hx.cell (k := 7) rfl; have d8 := hx.cell (k := 8) rfl; have d9 := hx.cell (k := 9) rfl; have d10 := hx.cell (k := 10) rfl; clear hx
    go_wp2_with fail
    refine HW.out.mono ?_
    rintro en w6 ⟨v, rfl, ho, hb⟩
    obtain ⟨A6, c6, rfl, hl⟩ := ho.form
    have HB6 := Lib.hid (HB5.out.then_ hb)
    have HL6 := Lib.hid hl
    clear ho hb hl HW
    clear d1 d2 d4 d5 d6 d7 d8 d9 d10
    have HTX := Lib.hid (reftextU_calls e.ct a.A a.B a.nl a.cl a.nm a.cm [106, 111, 105, 110, 95, 97, 117, 116, 104, 111, 114, 105, 115, 101, 100, 95, 118, 105, 97, 95, 117, 115, 101, 114, 115, 95, 115, 101, 114, 118, 101, 114] w6 (HE.out.1.below (HB0.out.then_ HB6.out)))
    obtain ⟨by_, hby_⟩ : ∃ s, textV e.ct [106, 111, 105, 110, 95, 97, 117, 116, 104, 111, 114, 105, 115, 101, 100, 95, 118, 105, 97, 95, 117, 115, 101, 114, 115, 95, 115, 101, 114, 118, 101, 114] = s := ⟨_, rfl⟩
    rw [hby_] at HTX
    have HQby_ := Lib.hid hby_
    clear hby_
    have hx := HX.out.later HB6.out; have d1 := hx.cell (k := 1) rfl; have d2 := hx.cell (k := 2) rfl; have d4 := hx.cell (k := 4) rfl; have d5 := hx.cell (k := 5) rfl; have d6 := hx.cell (k := 6) rfl; have d7 := hx.cell (k := 7) rfl; have d8 := hx.cell (k := 8) rfl; have d9 := hx.cell (k := 9) rfl; have d10 := hx.cell (k := 10) rfl; clear hx
    go_wp2_with fail
    refine HTX.out.mono ?_
    rintro en w7 ⟨rfl, hb⟩
    have HB7 := Lib.hid (HB6.out.then_ hb)
    have HL7 := Lib.hid (HL6.out.below hb)
    clear hb HTX
    clear d1 d2 d4 d5 d6 d7 d8 d9 d10
    by_cases h5 : e.ct.kd = 5
    rotate_left
    · have k5 : (e.ct.kd == 5) = false := by simp [h5]
      have HT5 := Lib.hid (tokV_1 h5)
      clear h5
      have hx := HX.out.later HB7.out; have d1 := hx.cell (k := 1) rfl; have d2 := hx.cell (k := 2) rfl; have d4 := hx.cell (k := 4) rfl; have d5 := hx.cell (k := 5) rfl; have d6 := hx.cell (k := 6) rfl; have d7 := hx.cell (k := 7) rfl; have d8 := hx.cell (k := 8) rfl; have d9 := hx.cell (k := 9) rfl; have d10 := hx.cell (k := 10) rfl; clear hx
      go_wp2_with fail
      go_ret
      have HR : rr = L6 := by
        rw [HF.out, if_pos HTY.out, ned5_no (by rw [HT5.out]; exact fun h => h.2 rfl), ned4_no (by rw [HQhow.out]; rintro ⟨h, _⟩; exact absurd h (by decide)), ned3_yes (by rw [HQhow.out]; exact .inr (.inl rfl)), show ned1 e = L3 by unfold ned1; rw [HQ2.out, HQ3.out]]; rw [HQ4.out, HQ6.out]
      rw [HR]
      exact ⟨⟨_, _, rfl, HL7.out⟩, HB0.out.then_ HB7.out⟩
    have k5 : (e.ct.kd == 5) = true := by simp [h5]
    have hv7 := HE.out.1.below (HB0.out.then_ HB7.out)
    have HG := Lib.hid (reffind_calls _ e.ct.m a.B a.nm a.cm [116, 104, 105, 114, 100, 95, 112, 97, 114, 116, 121, 95, 105, 110, 118, 105, 116, 101] w7 hv7.2.1 (Nat.le_refl _) hv7.2.2.2.1)
    obtain ⟨o, ho⟩ : ∃ o, e.ct.m.findV [116, 104, 105, 114, 100, 95, 112, 97, 114, 116, 121, 95, 105, 110, 118, 105, 116, 101] = o := ⟨_, rfl⟩
    rw [ho] at HG
    obtain ⟨u, hu⟩ : ∃ u, o.getD nullV = u := ⟨_, rfl⟩
    unfold FRes at HG
    rw [hu] at HG
    have HU := Lib.hid (show (getJ e.ct [116, 104, 105, 114, 100, 95, 112, 97, 114, 116, 121, 95, 105, 110, 118, 105, 116, 101]).getD nullV = u by unfold getJ; rw [if_pos h5, ho, hu])
    clear hv7 ho hu h5
    have hx := HX.out.later HB7.out; have d1 := hx.cell (k := 1) rfl; have d2 := hx.cell (k := 2) rfl; have d4 := hx.cell (k := 4) rfl; have d5 := hx.cell (k := 5) rfl; have d6 := hx.cell (k := 6) rfl; have d7 := hx.cell (k := 7) rfl; have d8 := hx.cell (k := 8) rfl; have d9 := hx.cell (k := 9) rfl; have d10 := hx.cell (k := 10) rfl; clear hx
    go_wp2_with fail
    refine HG.out.mono ?_
    rintro en w8 ⟨⟨uA, uB, unl, ucl, unm, ucm, rfl, hn⟩, hb⟩
    have hb8 : Below w8.heap.size w8 (w8.alloc (.cells #[.int .i64 u.kd, .bool u.is, .int .i64 u.n, .string ⟨u.s.toArray⟩, .slice uA unl ucl, .slice uB unm ucm] 25)) := (Below.refl _ _).alloc (Nat.le_refl _) _
    have HB9 := Lib.hid (HB7.out.then_ (hb.then_ hb8))
    have HL9 := Lib.hid (HL7.out.below (hb.then_ hb8))
    have HVU := Lib.hid ((hn.ok hb.size).below hb8)
    have hy := Blk.new w8 [.int .i64 u.kd, .bool u.is, .int .i64 u.n, .string ⟨u.s.toArray⟩, .slice uA unl ucl, .slice uB unm ucm] 25
    have y0 := hy.cell (k := 0) rfl; have y5 := hy.cell (k := 5) rfl
    clear hb hb8 hn hy HG
    clear d1 d2 d4 d5 d6 d7 d8 d9 d10
    by_cases h5 : u.kd = 5
    rotate_left
    · have k5 : (u.kd == 5) = false := by simp [h5]
      have HT5 := Lib.hid (tokV_2 HU.out h5)
      clear h5
      go_wp2_with fail
      go_ret
      have HR : rr = L6 := by
        rw [HF.out, if_pos HTY.out, ned5_no (by rw [HT5.out]; exact fun h => h.2 rfl), ned4_no (by rw [HQhow.out]; rintro ⟨h, _⟩; exact absurd h (by decide)), ned3_yes (by rw [HQhow.out]; exact .inr (.inl rfl)), show ned1 e = L3 by unfold ned1; rw [HQ2.out, HQ3.out]]; rw [HQ4.out, HQ6.out]
      rw [HR]
      exact ⟨⟨_, _, rfl, HL9.out⟩, HB0.out.then_ HB9.out⟩
    have k5 : (u.kd == 5) = true := by simp [h5]
    have HG := Lib.hid (reffind_calls _ u.m uB unm ucm [115, 105, 103, 110, 101, 100] _ HVU.out.2.1 (Nat.le_refl _) HVU.out.2.2.2.1)
    obtain ⟨o2, ho⟩ : ∃ o, u.m.findV [115, 105, 103, 110, 101, 100] = o := ⟨_, rfl⟩
    rw [ho] at HG
    obtain ⟨x, hx⟩ : ∃ x, o2.getD nullV = x := ⟨_, rfl⟩
    unfold FRes at HG
    rw [hx] at HG
    have HXV := Lib.hid (show (getJ u [115, 105, 103, 110, 101, 100]).getD nullV = x by unfold getJ; rw [if_pos h5, ho, hx])
    clear ho hx h5
    go_wp2_with fail
    refine HG.out.mono ?_
    rintro en w10 ⟨⟨xA, xB, xnl, xcl, xnm, xcm, rfl, hn⟩, hb⟩
    have hb8 : Below w10.heap.size w10 (w10.alloc (.cells #[.int .i64 x.kd, .bool x.is, .int .i64 x.n, .string ⟨x.s.toArray⟩, .slice xA xnl xcl, .slice xB xnm xcm] 25)) := (Below.refl _ _).alloc (Nat.le_refl _) _
    have HB11 := Lib.hid (HB9.out.then_ (hb.then_ hb8))
    have HL11 := Lib.hid (HL9.out.below (hb.then_ hb8))
    have HVX := Lib.hid ((hn.ok hb.size).below hb8)
    have hy := Blk.new w10 [.int .i64 x.kd, .bool x.is, .int .i64 x.n, .string ⟨x.s.toArray⟩, .slice xA xnl xcl, .slice xB xnm xcm] 25
    have z0 := hy.cell (k := 0) rfl; have z1 := hy.cell (k := 1) rfl; have z2 := hy.cell (k := 2) rfl; have z3 := hy.cell (k := 3) rfl; have z4 := hy.cell (k := 4) rfl; have z5 := hy.cell (k := 5) rfl
    clear hb hb8 hn hy HG y0 y5
    have HTX := Lib.hid (reftextU_calls x xA xB xnl xcl xnm xcm [116, 111, 107, 101, 110] _ HVX.out)
    obtain ⟨tk, htk⟩ : ∃ s, textV x [116, 111, 107, 101, 110] = s := ⟨_, rfl⟩
    rw [htk] at HTX
    have HQT := Lib.hid ((tokV_3 HU.out HXV.out).trans htk)
    clear htk
    go_wp2_with fail
    refine HTX.out.mono ?_
    rintro en w12 ⟨rfl, hb⟩
    have HB12 := Lib.hid (HB11.out.then_ hb)
    have HL12 := Lib.hid (HL11.out.below hb)
    clear hb HTX z0 z1 z2 z3 z4 z5
    by_cases hy : tk = []
    · subst hy
      go_wp2_with fail
      go_ret
      have HR : rr = L6 := by
        rw [HF.out, if_pos HTY.out, ned5_no (by rw [HQT.out]; exact fun h => h.2 rfl), ned4_no (by rw [HQhow.out]; rintro ⟨h, _⟩; exact absurd h (by decide)), ned3_yes (by rw [HQhow.out]; exact .inr (.inl rfl)), show ned1 e = L3 by unfold ned1; rw [HQ2.out, HQ3.out]]; rw [HQ4.out, HQ6.out]
      rw [HR]
      exact ⟨⟨_, _, rfl, HL12.out⟩, HB0.out.then_ HB12.out⟩
    have t3 : (tk == []) = false := by rw [beq_eq_false_iff_ne]; exact hy
    have t4 : (tk != []) = true := by rw [bne_iff_ne]; exact hy
    have HY := Lib.hid hy
    clear hy
    have HW := Lib.hid (refwithP_calls A6 L6.length c6 L6 ([109, 46, 114, 111, 111, 109, 46, 116, 104, 105, 114, 100, 95, 112, 97, 114, 116, 121, 95, 105, 110, 118, 105, 116, 101], tk) w12 HL12.out (by have := HN6.out; omega))
    obtain ⟨L7, hL⟩ : ∃ L, withP L6 ([109, 46, 114, 111, 111, 109, 46, 116, 104, 105, 114, 100, 95, 112, 97, 114, 116, 121, 95, 105, 110, 118, 105, 116, 101], tk) = L := ⟨_, rfl⟩
    rw [hL] at HW
    have HN7 := Lib.hid (show L7.length ≤ 63 by rw [← hL]; have := withP_len L6 ([109, 46, 114, 111, 111, 109, 46, 116, 104, 105, 114, 100, 95, 112, 97, 114, 116, 121, 95, 105, 110, 118, 105, 116, 101], tk); have := HN6.out; omega)
    have HQ7 := Lib.hid hL
    clear hL
    have hx := HX.out.later HB12.out; have d1 := hx.cell (k := 1) rfl; have d2 := hx.cell (k := 2) rfl; have d4 := hx.cell (k := 4) rfl; have d5 := hx.cell (k := 5) rfl; have d6 := hx.cell (k := 6) rfl; have d7 := hx.cell (k := 7) rfl; have d8 := hx.cell (k := 8) rfl; have d9 := hx.cell (k := 9) rfl; have d10 := hx.cell (k := 10) rfl; clear hx
    go_wp2_with fail
    refine HW.out.mono ?_
    rintro en w13 ⟨v, rfl, ho, hb⟩
    obtain ⟨A7, c7, rfl, hl⟩ := ho.form
    have HB13 := Lib.hid (HB12.out.then_ hb)
    have HL13 := Lib.hid hl
    clear ho hb hl HW
    clear d1 d2 d4 d5 d6 d7 d8 d9 d10
    go_wp2_with fail
    go_ret
    have HR : rr = L7 := by
      rw [HF.out, if_pos HTY.out, ned5_yes ⟨by rw [HQhow.out], by rw [HQT.out]; exact HY.out⟩, ned4_no (by rw [HQhow.out]; rintro ⟨h, _⟩; exact absurd h (by decide)), ned3_yes (by rw [HQhow.out]; exact .inr (.inl rfl)), show ned1 e = L3 by unfold ned1; rw [HQ2.out, HQ3.out]]; rw [HQT.out, HQ4.out, HQ6.out, HQ7.out]
    rw [HR]
    exact ⟨⟨_, _, rfl, HL13.out⟩, HB0.out.then_ HB13.out⟩
  by_cases hk : how = [107, 110, 111, 99, 107]
  · subst hk
    have HW := Lib.hid (refwithP_calls A4 L4.length c4 L4 ([109, 46, 114, 111, 111, 109, 46, 106, 111, 105, 110, 95, 114, 117, 108, 101, 115], []) w5 HL5.out (by have := HN4.out; omega))
    obtain ⟨L6, hL⟩ : ∃ L, withP L4 ([109, 46, 114, 111, 111, 109, 46, 106, 111, 105, 110, 95, 114, 117, 108, 101, 115], []) = L := ⟨_, rfl⟩
    rw [hL] at HW
    have HN6 := Lib.hid (show L6.length ≤ 31 by rw [← hL]; have := withP_len L4 ([109, 46, 114, 111, 111, 109, 46, 106, 111, 105, 110, 95, 114, 117, 108, 101, 115], []); have := HN4.out; omega)
    have HQ6 := Lib.hid hL
    clear hL
    have hx := HX.out.later HB5.out; have d1 := hx.cell (k := 1) rfl; have d2 := hx.cell (k := 2) rfl; have d4 := hx.cell (k := 4) rfl; have d5 := hx.cell (k := 5) rfl; have d6 := hx.cell (k := 6) rfl; have d7 := hx.cell (k := 7) rfl; have d8 := hx.cell (k := 8) rfl; have d9 := hx.cell (k := 9) rfl; have d10 := hx.cell (k := 10) rfl; clear hx
    go_wp2_with fail
    refine HW.out.mono ?_
    rintro en w6 ⟨v, rfl, ho, hb⟩
    obtain ⟨A6, c6, rfl, hl⟩ := ho.form
    have HB6 := Lib.hid (HB5.out.then_ hb)
    have HL6 := Lib.hid hl
    clear ho hb hl HW
    clear d1 d2 d4 d5 d6 d7 d8 d9 d10
    have HTX := Lib.hid (reftextU_calls e.ct a.A a.B a.nl a.cl a.nm a.cm [106, 111, 105, 110, 95, 97, 117, 116, 104, 111, 114, 105, 115, 101, 100, 95, 118, 105, 97, 95, 117, 115, 101, 114, 115, 95, 115, 101, 114, 118, 101, 114] w6 (HE.out.1.below (HB0.out.then_ HB6.out)))
    obtain ⟨by_, hby_⟩ : ∃ s, textV e.ct [106, 111, 105, 110, 95, 97, 117, 116, 104, 111, 114, 105, 115, 101, 100, 95, 118, 105, 97, 95, 117, 115, 101, 114, 115, 95, 115, 101, 114, 118, 101, 114] = s := ⟨_, rfl⟩
    rw [hby_] at HTX
    have HQby_ := Lib.hid hby_
    clear hby_
    have hx := HX.out.later HB6.out; have d1 := hx.cell (k := 1) rfl; have d2 := hx.cell (k := 2) rfl; have d4 := hx.cell (k := 4) rfl; have d5 := hx.cell (k := 5) rfl; have d6 := hx.cell (k := 6) rfl; have d7 := hx.cell (k := 7) rfl; have d8 := hx.cell (k := 8) rfl; have d9 := hx.cell (k := 9) rfl; have d10 := hx.cell (k := 10) rfl; clear hx
    go_wp2_with fail
    refine HTX.out.mono ?_
    rintro en w7 ⟨rfl, hb⟩
    have HB7 := Lib.hid (HB6.out.then_ hb)
    have HL7 := Lib.hid (HL6.out.below hb)
    clear hb HTX
    go_wp2_with fail
    go_ret
    have HR : rr = L6 := by
      rw [HF.out, if_pos HTY.out, ned5_no (by rw [HQhow.out]; rintro ⟨h, _⟩; exact absurd h (by decide)), ned4_no (by rw [HQhow.out]; rintro ⟨h, _⟩; exact absurd h (by decide)), ned3_yes (by rw [HQhow.out]; exact .inr (.inr rfl)), show ned1 e = L3 by unfold ned1; rw [HQ2.out, HQ3.out]]; rw [HQ4.out, HQ6.out]
    rw [HR]
    exact ⟨⟨_, _, rfl, HL7.out⟩, HB0.out.then_ HB7.out⟩
  have t5 : (how == [106, 111, 105, 110]) = false := by rw [beq_eq_false_iff_ne]; exact hj
  have t6 : (how == [105, 110, 118, 105, 116, 101]) = false := by rw [beq_eq_false_iff_ne]; exact hi
  have t7 : (how == [107, 110, 111, 99, 107]) = false := by rw [beq_eq_false_iff_ne]; exact hk
  have HH := Lib.hid (And.intro hj (And.intro hi hk))
  clear hj hi hk
  have HTX := Lib.hid (reftextU_calls e.ct a.A a.B a.nl a.cl a.nm a.cm [106, 111, 105, 110, 95, 97, 117, 116, 104, 111, 114, 105, 115, 101, 100, 95, 118, 105, 97, 95, 117, 115, 101, 114, 115, 95, 115, 101, 114, 118, 101, 114] w5 (HE.out.1.below (HB0.out.then_ HB5.out)))
  obtain ⟨by_, hby_⟩ : ∃ s, textV e.ct [106, 111, 105, 110, 95, 97, 117, 116, 104, 111, 114, 105, 115, 101, 100, 95, 118, 105, 97, 95, 117, 115, 101, 114, 115, 95, 115, 101, 114, 118, 101, 114] = s := ⟨_, rfl⟩
  rw [hby_] at HTX
  have HQby_ := Lib.hid hby_
  clear hby_
  have hx := HX.out.later HB5.out; have d1 := hx.cell (k := 1) rfl; have d2 := hx.cell (k := 2) rfl; have d4 := hx.cell (k := 4) rfl; have d5 := hx.cell (k := 5) rfl; have d6 := hx.cell (k := 6) rfl; have d7 := hx.cell (k := 7) rfl; have d8 := hx.cell (k := 8) rfl; have d9 := hx.cell (k := 9) rfl; have d10 := hx.cell (k := 10) rfl; clear hx
  go_wp2_with fail
  refine HTX.out.mono ?_
  rintro en w7 ⟨rfl, hb⟩
  have HB7 := Lib.hid (HB5.out.then_ hb)
  have HL7 := Lib.hid (HL5.out.below hb)
  clear hb HTX
  go_wp2_with fail
  go_ret
  have HR : rr = L4 := by
    rw [HF.out, if_pos HTY.out, ned5_no (by rw [HQhow.out]; exact fun h => HH.out.2.1 h.1), ned4_no (by rw [HQhow.out]; exact fun h => HH.out.1 h.1), ned3_no (by rw [HQhow.out]; exact fun h => h.elim HH.out.1 (fun h => h.elim HH.out.2.1 HH.out.2.2)), show ned1 e = L3 by unfold ned1; rw [HQ2.out, HQ3.out]]; rw [HQ4.out]
  rw [HR]
  exact ⟨⟨_, _, rfl, HL7.out⟩, HB0.out.then_ HB7.out⟩

end Go.Proofs.YtpleminoiodmgaaDoor
