/- Texts put together: PnI PnJ. -/
import Derived.Test.YtpleminoiodmgaaDoorZ809f152c02
import Derived.Test.YtpleminoiodmgaaDoorZ2f705f9709
import Derived.Lib.SlicesCompact
import Derived.Lib.SliceRun
namespace Go.Proofs.YtpleminoiodmgaaDoor
open Go.ChangeShapes Go.WideShapes Go.ChangeAt Go.RowKit Go.IntWalk
set_option linter.unusedVariables false
set_option maxRecDepth 100000

def omF (e : Ev) : List Pr := if textV e.ct [109, 101, 109, 98, 101, 114, 115, 104, 105, 112] = [106, 111, 105, 110] then (if textV e.ct [106, 111, 105, 110, 95, 97, 117, 116, 104, 111, 114, 105, 115, 101, 100, 95, 118, 105, 97, 95, 117, 115, 101, 114, 115, 95, 115, 101, 114, 118, 101, 114] = [] then [([109, 46, 114, 111, 111, 109, 46, 109, 101, 109, 98, 101, 114], e.ky)] ++ [([109, 46, 114, 111, 111, 109, 46, 106, 111, 105, 110, 95, 114, 117, 108, 101, 115], [])] else [([109, 46, 114, 111, 111, 109, 46, 109, 101, 109, 98, 101, 114], e.ky)] ++ [([109, 46, 114, 111, 111, 109, 46, 106, 111, 105, 110, 95, 114, 117, 108, 101, 115], [])] ++ [([109, 46, 114, 111, 111, 109, 46, 109, 101, 109, 98, 101, 114], textV e.ct [106, 111, 105, 110, 95, 97, 117, 116, 104, 111, 114, 105, 115, 101, 100, 95, 118, 105, 97, 95, 117, 115, 101, 114, 115, 95, 115, 101, 114, 118, 101, 114])])
  else if textV e.ct [109, 101, 109, 98, 101, 114, 115, 104, 105, 112] = [105, 110, 118, 105, 116, 101] then (if tokV e.ct = [] then [([109, 46, 114, 111, 111, 109, 46, 109, 101, 109, 98, 101, 114], e.ky)] ++ [([109, 46, 114, 111, 111, 109, 46, 106, 111, 105, 110, 95, 114, 117, 108, 101, 115], [])] else [([109, 46, 114, 111, 111, 109, 46, 109, 101, 109, 98, 101, 114], e.ky)] ++ [([109, 46, 114, 111, 111, 109, 46, 106, 111, 105, 110, 95, 114, 117, 108, 101, 115], [])] ++ [([109, 46, 114, 111, 111, 109, 46, 116, 104, 105, 114, 100, 95, 112, 97, 114, 116, 121, 95, 105, 110, 118, 105, 116, 101], tokV e.ct)])
  else if textV e.ct [109, 101, 109, 98, 101, 114, 115, 104, 105, 112] = [107, 110, 111, 99, 107] then [([109, 46, 114, 111, 111, 109, 46, 109, 101, 109, 98, 101, 114], e.ky)] ++ [([109, 46, 114, 111, 111, 109, 46, 106, 111, 105, 110, 95, 114, 117, 108, 101, 115], [])] else [([109, 46, 114, 111, 111, 109, 46, 109, 101, 109, 98, 101, 114], e.ky)]
theorem OwnP.lower {base b2 : Nat} {w : World} {v : Value} {xs : List Pr} (h : OwnP base w v xs) (hb : b2 ≤ base) : OwnP b2 w v xs := by
  refine ⟨h.1, ?_⟩
  rcases h.2 with h2 | ⟨g, cap, cur, hv, hb2, r⟩
  · exact .inl h2
  · exact .inr ⟨g, cap, cur, hv, Nat.le_trans hb hb2, r⟩
theorem OwnP.one {base : Nat} {w : World} (p : Pr) (h : base ≤ w.heap.size) : OwnP base (w.alloc (.cells #[.string ⟨p.1.toArray⟩, .string ⟨p.2.toArray⟩] 35)) (.slice (some ⟨w.heap.size, 0, none⟩) 1 1) [p] :=
  ⟨rfl, .inr ⟨w.heap.size, 1, _, rfl, h, heap_alloc_new w _, Nat.le_refl _, by decide, rfl, rfl⟩⟩
theorem getD_okP {v : Jv} {key : List UInt8} (h : risV v = true) (hb : v.bulk ≤ 50000) : risV ((getJ v key).getD nullV) = true ∧ ((getJ v key).getD nullV).bulk ≤ 50000 := by
  rw [getJ_pos (rise_top h)]
  cases hf : ffndJ v key with
  | false => exact ⟨rfl, show nullV.bulk ≤ 50000 by decide⟩
  | true =>
    have hl := ffndJ_lt hf
    unfold risV at h
    rw [Bool.and_eq_true] at h
    exact ⟨ris_fall true v.m none _ h.1 hl, Nat.le_trans (JT.bulk_val v.m _ hl) (by unfold Jv.bulk at hb; omega)⟩
set_option maxHeartbeats 16000000 in
theorem ofMember_calls (e : Ev) (a : Ea) (w : World) (he : EOk w e a) (hr : risV e.ct = true) (hbk : e.ct.bulk ≤ 50000) : Calls Tryd.prog 18 #[.agg (evC e a).toArray] w (PrsPost (omF e) w) := by
  have hris := rise_top hr
  have b0 : Below w.heap.size w (w.alloc (.cells (evC e a).toArray 29)) := (Below.refl _ _).alloc (Nat.le_refl _) _
  have HB0 := Lib.hid b0
  have HX := Lib.hid (Blk.new w (evC e a) 29)
  have HE := Lib.hid he
  have HRV := Lib.hid hr
  have hx := HX.out
  have d1 := hx.cell (k := 1) rfl; have d2 := hx.cell (k := 2) rfl; have d4 := hx.cell (k := 4) rfl; have d5 := hx.cell (k := 5) rfl; have d6 := hx.cell (k := 6) rfl; have d7 := hx.cell (k := 7) rfl; have d8 := hx.cell (k := 8) rfl; have d9 := hx.cell (k := 9) rfl; have d10 := hx.cell (k := 10) rfl
  have HSW := Lib.hid (show (w.alloc (.cells (evC e a).toArray 29)).heap.size = w.heap.size + 1 by simp)
  have b1 : Below (w.alloc (.cells (evC e a).toArray 29)).heap.size (w.alloc (.cells (evC e a).toArray 29)) ((w.alloc (.cells (evC e a).toArray 29)).alloc (.cells #[.string ⟨#[109, 46, 114, 111, 111, 109, 46, 109, 101, 109, 98, 101, 114]⟩, .string ⟨e.ky.toArray⟩] 35)) := (Below.refl _ _).alloc (Nat.le_refl _) _
  have hO1 : OwnP (w.alloc (.cells (evC e a).toArray 29)).heap.size ((w.alloc (.cells (evC e a).toArray 29)).alloc (.cells #[.string ⟨#[109, 46, 114, 111, 111, 109, 46, 109, 101, 109, 98, 101, 114]⟩, .string ⟨e.ky.toArray⟩] 35)) (.slice (some ⟨w.heap.size + 1, 0, none⟩) 1 1) [([109, 46, 114, 111, 111, 109, 46, 109, 101, 109, 98, 101, 114], e.ky)] := by
    have h := OwnP.one (base := (w.alloc (.cells (evC e a).toArray 29)).heap.size) (w := w.alloc (.cells (evC e a).toArray 29)) ([109, 46, 114, 111, 111, 109, 46, 109, 101, 109, 98, 101, 114], e.ky) (Nat.le_refl _)
    rw [show (Value.slice (some ⟨(w.alloc (.cells (evC e a).toArray 29)).heap.size, 0, none⟩) 1 1) = .slice (some ⟨w.heap.size + 1, 0, none⟩) 1 1 by rw [HSW.out]] at h
    exact h
  clear he hr b0 hx
  go_enter Tryd.func18, Tryd.ntmps18
  go_upto_region 3 with fail
  refine wp_gen (fun W => Below (w.alloc (.cells (evC e a).toArray 29)).heap.size (w.alloc (.cells (evC e a).toArray 29)) W ∧ OwnP (w.alloc (.cells (evC e a).toArray 29)).heap.size W (.slice (some ⟨w.heap.size + 1, 0, none⟩) 1 1) [([109, 46, 114, 111, 111, 109, 46, 109, 101, 109, 98, 101, 114], e.ky)] ∧ Blk W (w.heap.size + 2) 35 [.string ⟨#[109, 46, 114, 111, 111, 109, 46, 106, 111, 105, 110, 95, 114, 117, 108, 101, 115]⟩, .string ⟨#[]⟩]) ⟨b1.alloc b1.size _, hO1.alloc _, blk_atP _ 35 (by simp)⟩ ?_
  clear d1 d2 d4 d5 d6 d7 d8 d9 d10 b1 hO1
  rintro w1 ⟨g1, g2, g3⟩
  have HB1 := Lib.hid g1
  have HO1 := Lib.hid g2
  have HK1 := Lib.hid g3
  clear g1 g2 g3
  have HTX := Lib.hid (text_calls e.ct a.A a.B a.nl a.cl a.nm a.cm [109, 101, 109, 98, 101, 114, 115, 104, 105, 112] w1 (HE.out.1.below (HB0.out.then_ HB1.out)) hris hbk)
  obtain ⟨how, hhow⟩ : ∃ s, textV e.ct [109, 101, 109, 98, 101, 114, 115, 104, 105, 112] = s := ⟨_, rfl⟩
  rw [hhow] at HTX
  have HQhow := Lib.hid hhow
  clear hhow
  have hx := HX.out.later HB1.out; have d1 := hx.cell (k := 1) rfl; have d2 := hx.cell (k := 2) rfl; have d4 := hx.cell (k := 4) rfl; have d5 := hx.cell (k := 5) rfl; have d6 := hx.cell (k := 6) rfl; have d7 := hx.cell (k := 7) rfl; have d8 := hx.cell (k := 8) rfl; have d9 := hx.cell (k := 9) rfl; have d10 := hx.cell (k := 10) rfl; clear hx
  go_wp2_with fail
  refine HTX.out.mono ?_
  rintro en w2 ⟨rfl, hb⟩
  have HB2 := Lib.hid (HB1.out.then_ hb)
  have HO2 := Lib.hid (HO1.out.below hb)
  have HK2 := Lib.hid (HK1.out.later hb)
  clear hb HTX
  clear d1 d2 d4 d5 d6 d7 d8 d9 d10
  have HSZ2 := Lib.hid HB2.out.size
  by_cases hj : how = [106, 111, 105, 110]
  · subst hj
    have r0 := HK2.out.cell (k := 0) rfl; have r1 := HK2.out.cell (k := 1) rfl
    have hx := HX.out.later HB2.out; have d1 := hx.cell (k := 1) rfl; have d2 := hx.cell (k := 2) rfl; have d4 := hx.cell (k := 4) rfl; have d5 := hx.cell (k := 5) rfl; have d6 := hx.cell (k := 6) rfl; have d7 := hx.cell (k := 7) rfl; have d8 := hx.cell (k := 8) rfl; have d9 := hx.cell (k := 9) rfl; have d10 := hx.cell (k := 10) rfl; clear hx
    go_upto_region 6 with (at_builtin; refine wpList_append_pr rfl _ _ rfl (w.alloc (.cells (evC e a).toArray 29)).heap.size (.slice (some ⟨w.heap.size + 1, 0, none⟩) 1 1) [([109, 46, 114, 111, 111, 109, 46, 109, 101, 109, 98, 101, 114], e.ky)] rfl HO2.out ([109, 46, 114, 111, 111, 109, 46, 106, 111, 105, 110, 95, 114, 117, 108, 101, 115], []) _ rfl rfl (by show 1 + 1 ≤ 1000000; decide) HSZ2.out ?_; intro v3 w3 h5 g5; have HO3 := Lib.hid (show OwnP (w.alloc (.cells (evC e a).toArray 29)).heap.size w3 v3 ([([109, 46, 114, 111, 111, 109, 46, 109, 101, 109, 98, 101, 114], e.ky)] ++ [([109, 46, 114, 111, 111, 109, 46, 106, 111, 105, 110, 95, 114, 117, 108, 101, 115], [])]) from h5); have HB3 := Lib.hid (Below.prs_grown HB2.out HO2.out g5 HSZ2.out); clear h5 g5)
    clear r0 r1
    clear d1 d2 d4 d5 d6 d7 d8 d9 d10
    have HTX := Lib.hid (text_calls e.ct a.A a.B a.nl a.cl a.nm a.cm [106, 111, 105, 110, 95, 97, 117, 116, 104, 111, 114, 105, 115, 101, 100, 95, 118, 105, 97, 95, 117, 115, 101, 114, 115, 95, 115, 101, 114, 118, 101, 114] w3 (HE.out.1.below (HB0.out.then_ HB3.out)) hris hbk)
    obtain ⟨by_, hby_⟩ : ∃ s, textV e.ct [106, 111, 105, 110, 95, 97, 117, 116, 104, 111, 114, 105, 115, 101, 100, 95, 118, 105, 97, 95, 117, 115, 101, 114, 115, 95, 115, 101, 114, 118, 101, 114] = s := ⟨_, rfl⟩
    rw [hby_] at HTX
    have HQby_ := Lib.hid hby_
    clear hby_
    have hx := HX.out.later HB3.out; have d1 := hx.cell (k := 1) rfl; have d2 := hx.cell (k := 2) rfl; have d4 := hx.cell (k := 4) rfl; have d5 := hx.cell (k := 5) rfl; have d6 := hx.cell (k := 6) rfl; have d7 := hx.cell (k := 7) rfl; have d8 := hx.cell (k := 8) rfl; have d9 := hx.cell (k := 9) rfl; have d10 := hx.cell (k := 10) rfl; clear hx
    go_wp2_with fail
    refine HTX.out.mono ?_
    rintro en w4 ⟨rfl, hb⟩
    have HB4 := Lib.hid (HB3.out.then_ hb)
    have HO4 := Lib.hid (HO3.out.below hb)
    clear hb HTX
    clear d1 d2 d4 d5 d6 d7 d8 d9 d10
    have HSZ4 := Lib.hid HB4.out.size
    by_cases hy : by_ = []
    · subst hy
      go_wp2_with fail
      go_ret
      have HR : omF e = ([([109, 46, 114, 111, 111, 109, 46, 109, 101, 109, 98, 101, 114], e.ky)] ++ [([109, 46, 114, 111, 111, 109, 46, 106, 111, 105, 110, 95, 114, 117, 108, 101, 115], [])]) := by
        unfold omF; rw [HQhow.out, if_pos rfl, HQby_.out, if_pos rfl]
      rw [HR]
      exact ⟨v3, rfl, OwnP.lower HO4.out (by rw [HSW.out]; omega), HB0.out.then_ HB4.out⟩
    have t3 : (by_ == []) = false := by rw [beq_eq_false_iff_ne]; exact hy
    have t4 : (by_ != []) = true := by rw [bne_iff_ne]; exact hy
    have HY := Lib.hid hy
    clear hy
    go_wp2_with (at_builtin; refine wpList_append_pr rfl _ _ rfl (w.alloc (.cells (evC e a).toArray 29)).heap.size v3 ([([109, 46, 114, 111, 111, 109, 46, 109, 101, 109, 98, 101, 114], e.ky)] ++ [([109, 46, 114, 111, 111, 109, 46, 106, 111, 105, 110, 95, 114, 117, 108, 101, 115], [])]) rfl HO4.out ([109, 46, 114, 111, 111, 109, 46, 109, 101, 109, 98, 101, 114], by_) _ rfl rfl (by show 2 + 1 ≤ 1000000; decide) HSZ4.out ?_; intro v5 w5 h5 g5; have HO5 := Lib.hid (show OwnP (w.alloc (.cells (evC e a).toArray 29)).heap.size w5 v5 (([([109, 46, 114, 111, 111, 109, 46, 109, 101, 109, 98, 101, 114], e.ky)] ++ [([109, 46, 114, 111, 111, 109, 46, 106, 111, 105, 110, 95, 114, 117, 108, 101, 115], [])]) ++ [([109, 46, 114, 111, 111, 109, 46, 109, 101, 109, 98, 101, 114], by_)]) from h5); have HB5 := Lib.hid (Below.prs_grown HB4.out HO4.out g5 HSZ4.out); clear h5 g5)
    go_wp2_with fail
    go_ret
    have HR : omF e = (([([109, 46, 114, 111, 111, 109, 46, 109, 101, 109, 98, 101, 114], e.ky)] ++ [([109, 46, 114, 111, 111, 109, 46, 106, 111, 105, 110, 95, 114, 117, 108, 101, 115], [])]) ++ [([109, 46, 114, 111, 111, 109, 46, 109, 101, 109, 98, 101, 114], by_)]) := by
      unfold omF; rw [HQhow.out, if_pos rfl, HQby_.out, if_neg HY.out]
    rw [HR]
    exact ⟨v5, rfl, OwnP.lower HO5.out (by rw [HSW.out]; omega), HB0.out.then_ HB5.out⟩
  by_cases hi : how = [105, 110, 118, 105, 116, 101]
  · subst hi
    have r0 := HK2.out.cell (k := 0) rfl; have r1 := HK2.out.cell (k := 1) rfl
    have hx := HX.out.later HB2.out; have d1 := hx.cell (k := 1) rfl; have d2 := hx.cell (k := 2) rfl; have d4 := hx.cell (k := 4) rfl; have d5 := hx.cell (k := 5) rfl; have d6 := hx.cell (k := 6) rfl; have d7 := hx.cell (k := 7) rfl; have d8 := hx.cell (k := 8) rfl; have d9 := hx.cell (k := 9) rfl; have d10 := hx.cell (k := 10) rfl; clear hx
    go_upto_region 11 with (at_builtin; refine wpList_append_pr rfl _ _ rfl (w.alloc (.cells (evC e a).toArray 29)).heap.size (.slice (some ⟨w.heap.size + 1, 0, none⟩) 1 1) [([109, 46, 114, 111, 111, 109, 46, 109, 101, 109, 98, 101, 114], e.ky)] rfl HO2.out ([109, 46, 114, 111, 111, 109, 46, 106, 111, 105, 110, 95, 114, 117, 108, 101, 115], []) _ rfl rfl (by show 1 + 1 ≤ 1000000; decide) HSZ2.out ?_; intro v3 w3 h5 g5; have HO3 := Lib.hid (show OwnP (w.alloc (.cells (evC e a).toArray 29)).heap.size w3 v3 ([([109, 46, 114, 111, 111, 109, 46, 109, 101, 109, 98, 101, 114], e.ky)] ++ [([109, 46, 114, 111, 111, 109, 46, 106, 111, 105, 110, 95, 114, 117, 108, 101, 115], [])]) from h5); have HB3 := Lib.hid (Below.prs_grown HB2.out HO2.out g5 HSZ2.out); clear h5 g5)
    clear r0 r1
    clear d1 d2 d4 d5 d6 d7 d8 d9 d10
    have HG := Lib.hid (get_calls e.ct a.A a.B a.nl a.cl a.nm a.cm [116, 104, 105, 114, 100, 95, 112, 97, 114, 116, 121, 95, 105, 110, 118, 105, 116, 101] w3 (HE.out.1.below (HB0.out.then_ HB3.out)) hris hbk)
    have hgd := getD_okP (key := [116, 104, 105, 114, 100, 95, 112, 97, 114, 116, 121, 95, 105, 110, 118, 105, 116, 101]) HRV.out hbk
    obtain ⟨o, ho⟩ : ∃ o, getJ e.ct [116, 104, 105, 114, 100, 95, 112, 97, 114, 116, 121, 95, 105, 110, 118, 105, 116, 101] = o := ⟨_, rfl⟩
    rw [ho] at HG hgd
    have hx := HX.out.later HB3.out; have d1 := hx.cell (k := 1) rfl; have d2 := hx.cell (k := 2) rfl; have d4 := hx.cell (k := 4) rfl; have d5 := hx.cell (k := 5) rfl; have d6 := hx.cell (k := 6) rfl; have d7 := hx.cell (k := 7) rfl; have d8 := hx.cell (k := 8) rfl; have d9 := hx.cell (k := 9) rfl; have d10 := hx.cell (k := 10) rfl; clear hx
    go_wp2_with fail
    refine HG.out.mono ?_
    rintro en w8 ⟨⟨u, uA, uB, unl, ucl, unm, ucm, hu, rfl, hn⟩, hb⟩
    have HU := Lib.hid (show (getJ e.ct [116, 104, 105, 114, 100, 95, 112, 97, 114, 116, 121, 95, 105, 110, 118, 105, 116, 101]).getD nullV = u by rw [ho, hu])
    rw [← hu] at hgd
    have HGD := Lib.hid hgd
    have hb8 : Below w8.heap.size w8 (w8.alloc (.cells #[.int .i64 u.kd, .bool u.is, .int .i64 u.n, .string ⟨u.s.toArray⟩, .slice uA unl ucl, .slice uB unm ucm] 25)) := (Below.refl _ _).alloc (Nat.le_refl _) _
    have HB9 := Lib.hid (HB3.out.then_ (hb.then_ hb8))
    have HO9 := Lib.hid (HO3.out.below (hb.then_ hb8))
    have HVU := Lib.hid (hn.ok.below hb8)
    have hy := Blk.new w8 [.int .i64 u.kd, .bool u.is, .int .i64 u.n, .string ⟨u.s.toArray⟩, .slice uA unl ucl, .slice uB unm ucm] 25
    have y0 := hy.cell (k := 0) rfl; have y1 := hy.cell (k := 1) rfl; have y2 := hy.cell (k := 2) rfl; have y3 := hy.cell (k := 3) rfl; have y4 := hy.cell (k := 4) rfl; have y5 := hy.cell (k := 5) rfl
    clear hb hb8 hn hy HG ho hu hgd
    clear d1 d2 d4 d5 d6 d7 d8 d9 d10
    have HG := Lib.hid (get_calls u uA uB unl ucl unm ucm [115, 105, 103, 110, 101, 100] _ HVU.out (rise_top HGD.out.1) HGD.out.2)
    have hgd := getD_okP (key := [115, 105, 103, 110, 101, 100]) HGD.out.1 HGD.out.2
    obtain ⟨o2, ho⟩ : ∃ o, getJ u [115, 105, 103, 110, 101, 100] = o := ⟨_, rfl⟩
    rw [ho] at HG hgd
    go_wp2_with fail
    refine HG.out.mono ?_
    rintro en w10 ⟨⟨x, xA, xB, xnl, xcl, xnm, xcm, hx, rfl, hn⟩, hb⟩
    have HXV := Lib.hid (show (getJ u [115, 105, 103, 110, 101, 100]).getD nullV = x by rw [ho, hx])
    rw [← hx] at hgd
    have HGX := Lib.hid hgd
    have hb8 : Below w10.heap.size w10 (w10.alloc (.cells #[.int .i64 x.kd, .bool x.is, .int .i64 x.n, .string ⟨x.s.toArray⟩, .slice xA xnl xcl, .slice xB xnm xcm] 25)) := (Below.refl _ _).alloc (Nat.le_refl _) _
    have HB11 := Lib.hid (HB9.out.then_ (hb.then_ hb8))
    have HO11 := Lib.hid (HO9.out.below (hb.then_ hb8))
    have HVX := Lib.hid (hn.ok.below hb8)
    have hy := Blk.new w10 [.int .i64 x.kd, .bool x.is, .int .i64 x.n, .string ⟨x.s.toArray⟩, .slice xA xnl xcl, .slice xB xnm xcm] 25
    have z0 := hy.cell (k := 0) rfl; have z1 := hy.cell (k := 1) rfl; have z2 := hy.cell (k := 2) rfl; have z3 := hy.cell (k := 3) rfl; have z4 := hy.cell (k := 4) rfl; have z5 := hy.cell (k := 5) rfl
    clear hb hb8 hn hy HG ho hx hgd y0 y1 y2 y3 y4 y5
    have HTX := Lib.hid (text_calls x xA xB xnl xcl xnm xcm [116, 111, 107, 101, 110] _ HVX.out (rise_top HGX.out.1) HGX.out.2)
    obtain ⟨tk, htk⟩ : ∃ s, textV x [116, 111, 107, 101, 110] = s := ⟨_, rfl⟩
    rw [htk] at HTX
    have HQT := Lib.hid ((tokV_3 HU.out HXV.out).trans htk)
    clear htk
    go_wp2_with fail
    refine HTX.out.mono ?_
    rintro en w12 ⟨rfl, hb⟩
    have HB12 := Lib.hid (HB11.out.then_ hb)
    have HO12 := Lib.hid (HO11.out.below hb)
    clear hb HTX z0 z1 z2 z3 z4 z5
    have HSZ12 := Lib.hid HB12.out.size
    by_cases hy : tk = []
    · subst hy
      go_wp2_with fail
      go_ret
      have HR : omF e = ([([109, 46, 114, 111, 111, 109, 46, 109, 101, 109, 98, 101, 114], e.ky)] ++ [([109, 46, 114, 111, 111, 109, 46, 106, 111, 105, 110, 95, 114, 117, 108, 101, 115], [])]) := by
        unfold omF; rw [HQhow.out, if_neg (by decide), if_pos rfl, HQT.out, if_pos rfl]
      rw [HR]
      exact ⟨v3, rfl, OwnP.lower HO12.out (by rw [HSW.out]; omega), HB0.out.then_ HB12.out⟩
    have t3 : (tk == []) = false := by rw [beq_eq_false_iff_ne]; exact hy
    have t4 : (tk != []) = true := by rw [bne_iff_ne]; exact hy
    have HY := Lib.hid hy
    clear hy
    go_wp2_with (at_builtin; refine wpList_append_pr rfl _ _ rfl (w.alloc (.cells (evC e a).toArray 29)).heap.size v3 ([([109, 46, 114, 111, 111, 109, 46, 109, 101, 109, 98, 101, 114], e.ky)] ++ [([109, 46, 114, 111, 111, 109, 46, 106, 111, 105, 110, 95, 114, 117, 108, 101, 115], [])]) rfl HO12.out ([109, 46, 114, 111, 111, 109, 46, 116, 104, 105, 114, 100, 95, 112, 97, 114, 116, 121, 95, 105, 110, 118, 105, 116, 101], tk) _ rfl rfl (by show 2 + 1 ≤ 1000000; decide) HSZ12.out ?_; intro v13 w13 h5 g5; have HO13 := Lib.hid (show OwnP (w.alloc (.cells (evC e a).toArray 29)).heap.size w13 v13 (([([109, 46, 114, 111, 111, 109, 46, 109, 101, 109, 98, 101, 114], e.ky)] ++ [([109, 46, 114, 111, 111, 109, 46, 106, 111, 105, 110, 95, 114, 117, 108, 101, 115], [])]) ++ [([109, 46, 114, 111, 111, 109, 46, 116, 104, 105, 114, 100, 95, 112, 97, 114, 116, 121, 95, 105, 110, 118, 105, 116, 101], tk)]) from h5); have HB13 := Lib.hid (Below.prs_grown HB12.out HO12.out g5 HSZ12.out); clear h5 g5)
    go_wp2_with fail
    go_ret
    have HR : omF e = (([([109, 46, 114, 111, 111, 109, 46, 109, 101, 109, 98, 101, 114], e.ky)] ++ [([109, 46, 114, 111, 111, 109, 46, 106, 111, 105, 110, 95, 114, 117, 108, 101, 115], [])]) ++ [([109, 46, 114, 111, 111, 109, 46, 116, 104, 105, 114, 100, 95, 112, 97, 114, 116, 121, 95, 105, 110, 118, 105, 116, 101], tk)]) := by
      unfold omF; rw [HQhow.out, if_neg (by decide), if_pos rfl, HQT.out, if_neg HY.out]
    rw [HR]
    exact ⟨v13, rfl, OwnP.lower HO13.out (by rw [HSW.out]; omega), HB0.out.then_ HB13.out⟩
  by_cases hk : how = [107, 110, 111, 99, 107]
  · subst hk
    have r0 := HK2.out.cell (k := 0) rfl; have r1 := HK2.out.cell (k := 1) rfl
    have hx := HX.out.later HB2.out; have d1 := hx.cell (k := 1) rfl; have d2 := hx.cell (k := 2) rfl; have d4 := hx.cell (k := 4) rfl; have d5 := hx.cell (k := 5) rfl; have d6 := hx.cell (k := 6) rfl; have d7 := hx.cell (k := 7) rfl; have d8 := hx.cell (k := 8) rfl; have d9 := hx.cell (k := 9) rfl; have d10 := hx.cell (k := 10) rfl; clear hx
    go_wp2_with (at_builtin; refine wpList_append_pr rfl _ _ rfl (w.alloc (.cells (evC e a).toArray 29)).heap.size (.slice (some ⟨w.heap.size + 1, 0, none⟩) 1 1) [([109, 46, 114, 111, 111, 109, 46, 109, 101, 109, 98, 101, 114], e.ky)] rfl HO2.out ([109, 46, 114, 111, 111, 109, 46, 106, 111, 105, 110, 95, 114, 117, 108, 101, 115], []) _ rfl rfl (by show 1 + 1 ≤ 1000000; decide) HSZ2.out ?_; intro v3 w3 h5 g5; have HO3 := Lib.hid (show OwnP (w.alloc (.cells (evC e a).toArray 29)).heap.size w3 v3 ([([109, 46, 114, 111, 111, 109, 46, 109, 101, 109, 98, 101, 114], e.ky)] ++ [([109, 46, 114, 111, 111, 109, 46, 106, 111, 105, 110, 95, 114, 117, 108, 101, 115], [])]) from h5); have HB3 := Lib.hid (Below.prs_grown HB2.out HO2.out g5 HSZ2.out); clear h5 g5)
    go_wp2_with fail
    go_ret
    have HR : omF e = ([([109, 46, 114, 111, 111, 109, 46, 109, 101, 109, 98, 101, 114], e.ky)] ++ [([109, 46, 114, 111, 111, 109, 46, 106, 111, 105, 110, 95, 114, 117, 108, 101, 115], [])]) := by
      unfold omF; rw [HQhow.out, if_neg (by decide), if_neg (by decide), if_pos rfl]
    rw [HR]
    exact ⟨v3, rfl, OwnP.lower HO3.out (by rw [HSW.out]; omega), HB0.out.then_ HB3.out⟩
  have t5 : (how == [106, 111, 105, 110]) = false := by rw [beq_eq_false_iff_ne]; exact hj
  have t6 : (how == [105, 110, 118, 105, 116, 101]) = false := by rw [beq_eq_false_iff_ne]; exact hi
  have t7 : (how == [107, 110, 111, 99, 107]) = false := by rw [beq_eq_false_iff_ne]; exact hk
  have HH := Lib.hid (And.intro hj (And.intro hi hk))
  clear hj hi hk
  go_wp2_with fail
  go_ret
  have HR : omF e = [([109, 46, 114, 111, 111, 109, 46, 109, 101, 109, 98, 101, 114], e.ky)] := by
    unfold omF; rw [HQhow.out, if_neg HH.out.1, if_neg HH.out.2.1, if_neg HH.out.2.2]
  rw [HR]
  exact ⟨(.slice (some ⟨w.heap.size + 1, 0, none⟩) 1 1), rfl, OwnP.lower HO2.out (by rw [HSW.out]; omega), HB0.out.then_ HB2.out⟩

end Go.Proofs.YtpleminoiodmgaaDoor
namespace Go.Proofs.YtpleminoiodmgaaDoor
open Go.ChangeShapes Go.WideShapes Go.ChangeAt Go.RowKit Go.IntWalk
set_option linter.unusedVariables false
set_option maxRecDepth 100000

/-- Pairs at the head of a block. -/
def PB (w : World) (g : Nat) (d : Array Pr) : Prop := ∃ cs, Blk w g 35 cs ∧ ∀ i, i < d.size → cs[i * 2]? = some (.string ⟨(d[i]!).1.toArray⟩) ∧ cs[i * 2 + 1]? = some (.string ⟨(d[i]!).2.toArray⟩)
theorem PB.at_ {w : World} {g : Nat} {d : Array Pr} (h : PB w g d) {i : Nat} {p : Pr} (hi : i < d.size) (hp : d[i]! = p) : (w.cell? ⟨g, i * 2, none⟩ = some (.string ⟨p.1.toArray⟩) ∧ w.frozen? ⟨g, i * 2, none⟩ = false) ∧ (w.cell? ⟨g, i * 2 + 1, none⟩ = some (.string ⟨p.2.toArray⟩) ∧ w.frozen? ⟨g, i * 2 + 1, none⟩ = false) := by
  obtain ⟨cs, h1, h2⟩ := h
  subst hp
  exact ⟨⟨h1.cell (h2 i hi).1, h1.frozen _⟩, ⟨h1.cell (h2 i hi).2, h1.frozen _⟩⟩
theorem PB.rng {w : World} {g : Nat} {d : Array Pr} (h : PB w g d) {i : Nat} {p : Pr} (hi : i < d.size) (hp : d[i]! = p) : w.rangeAt g (i * 2) [.string ⟨p.1.toArray⟩, .string ⟨p.2.toArray⟩] := fun j v hj => by
  have h1 := h.at_ hi hp
  match j, hj with
  | 0, hj => cases hj; exact h1.1.1
  | 1, hj => cases hj; exact h1.2.1
theorem PB.lt {w : World} {g : Nat} {d : Array Pr} (h : PB w g d) : g < w.heap.size := by obtain ⟨cs, h1, _⟩ := h; exact h1.lt
theorem PB.later {w w' : World} {g : Nat} {d : Array Pr} (h : PB w g d) (hb : Below w.heap.size w w') : PB w' g d := by obtain ⟨cs, h1, h2⟩ := h; exact ⟨cs, h1.later hb, h2⟩
theorem PB.put {w : World} {g : Nat} {d : Array Pr} (h : PB w g d) {i : Nat} (p : Pr) (hi : i < d.size) : PB ((w.setCell ⟨g, i * 2, none⟩ (.string ⟨p.1.toArray⟩)).setCell ⟨g, i * 2 + 1, none⟩ (.string ⟨p.2.toArray⟩)) g (d.setIfInBounds i p) := by
  obtain ⟨cs, h1, h2⟩ := h
  refine ⟨_, (h1.set_ (i * 2) (.string ⟨p.1.toArray⟩)).set_ (i * 2 + 1) (.string ⟨p.2.toArray⟩), fun j hj => ?_⟩
  have hj' : j < d.size := by simpa using hj
  have hb := h2 j hj'
  have hbi := h2 i hi
  have l0 := (List.getElem?_eq_some_iff.1 hbi.1).1
  have l1 := (List.getElem?_eq_some_iff.1 hbi.2).1
  by_cases e : j = i
  · subst e
    rw [Go.Sort.getElem!_set_same d j p hi]
    refine ⟨?_, ?_⟩
    · rw [List.getElem?_set_ne (by omega), List.getElem?_set_self l0]
    · rw [List.getElem?_set_self (by simpa using l1)]
  · rw [Go.Sort.getElem!_set_other d i j p e]
    refine ⟨?_, ?_⟩
    · rw [List.getElem?_set_ne (by omega), List.getElem?_set_ne (by omega)]; exact hb.1
    · rw [List.getElem?_set_ne (by omega), List.getElem?_set_ne (by omega)]; exact hb.2
theorem run_clear_pr (w : World) (ty : TypeId) (b o n c : Nat) (hn : 0 < n)
    (hc : ∀ j, j < n * 2 → (w.cell? ⟨b, o + j, none⟩).isSome = true) (hf : ∀ j, j < n * 2 → w.frozen? ⟨b, o + j, none⟩ = false) :
    (Builtin.clear_ #[32] ty #[.slice (some ⟨b, o, none⟩) n c]).run Tryd.prog w = .ok (.tuple #[]) (w.setCells b o (List.replicate (n * 2) (.string ⟨#[]⟩))) := by
  have hz : (Value.agg #[.string ⟨#[]⟩, .string ⟨#[]⟩]).cells = #[.string ⟨#[]⟩, .string ⟨#[]⟩] := rfl
  have hzc : (Builtin.zeroCells (Value.agg #[.string ⟨#[]⟩, .string ⟨#[]⟩]).cells n).toList = List.replicate (n * 2) (.string ⟨#[]⟩) := by
    rw [hz]
    apply List.ext_getElem
    · simp [Builtin.zeroCells]
    · intro i h1 h2
      have h3 : i % 2 = 0 ∨ i % 2 = 1 := by omega
      rcases h3 with h3 | h3 <;> simp [Builtin.zeroCells, h3]
  have hst := run_storeCells_cells (P := Tryd.prog) b o (List.replicate (n * 2) (.string ⟨#[]⟩)) 0 w (by simpa using hc) (by simpa using hf) (by intro v hv'; rw [List.eq_of_mem_replicate hv']; rfl)
  simp only [Nat.add_zero] at hst
  obtain ⟨m, rfl⟩ : ∃ m, n = m + 1 := ⟨n - 1, by omega⟩
  simp [Builtin.clear_, run_underlying Tryd.underlying32, Tryd.zeroValue35, hzc, hst]
theorem setCells_blk {g : Nat} {T : TypeId} : ∀ (vs : List Value) (o : Nat) (w : World) (cs : List Value), Blk w g T cs → ∃ cs', Blk (w.setCells g o vs) g T cs' ∧ ∀ i, i < o → cs'[i]? = cs[i]?
  | [], o, w, cs, h => ⟨cs, h, fun _ _ => rfl⟩
  | v :: vs, o, w, cs, h => by
    obtain ⟨cs', h1, h2⟩ := setCells_blk vs (o + 1) _ _ (h.set_ o v)
    exact ⟨cs', h1, fun i hi => by rw [h2 i (by omega), List.getElem?_set_ne (by omega)]⟩
theorem setCells_below {g : Nat} : ∀ (vs : List Value) (o : Nat) (w0 w : World), Below g w0 w → Below g w0 (w.setCells g o vs)
  | [], o, w0, w, h => h
  | v :: vs, o, w0, w, h => setCells_below vs (o + 1) w0 _ (h.setCell (p := ⟨g, o, none⟩) (Nat.le_refl g) v)
/-- The row l at the head of the block. -/
def CoPost (g cap : Nat) (l : List Pr) (w : World) (e : Ending) (w' : World) : Prop := e = .returned (.slice (some ⟨g, 0, none⟩) l.length cap) ∧ PB w' g l.toArray ∧ Below g w w'
theorem PB.of_list {w : World} {g : Nat} {d : Array Pr} {l : List Pr} (h : PB w g d) (hl : l.length ≤ d.size) (he : ∀ i, i < l.length → l.toArray[i]! = d[i]!) : PB w g l.toArray := by
  obtain ⟨cs, h1, h2⟩ := h
  refine ⟨cs, h1, fun i hi => ?_⟩
  have hi' : i < l.length := by simpa using hi
  rw [he i hi']
  exact h2 i (by omega)
set_option maxHeartbeats 16000000 in
theorem compact_calls (g n cap : Nat) (d : Array Pr) (w : World) (hr : PB w g d) (hn : n = d.size) (hl : d.size ≤ 1000) (hc : n ≤ cap) (hcm : cap ≤ 9223372036854775807) :
    Calls Tryd.prog 21 #[.slice (some ⟨g, 0, none⟩) n cap] w (CoPost g cap (Lib.compactUpTo d d.size) w) := by
  have HR := Lib.hid hr
  have HN := Lib.hid hn
  have hn6 : n ≤ 1000 := by omega
  have HALL := Lib.hid (show (∀ j, j < d.size → Lib.keeps d j = true) → ∀ W, Below g w W → PB W g d → CoPost g cap (Lib.compactUpTo d d.size) w (.returned (.slice (some ⟨g, 0, none⟩) n cap)) W from fun h W hb hp => by
    have e : Lib.compactUpTo d d.size = d.toList := by rw [Lib.compactUpTo_all d _ h, Lib.range_map_get]
    rw [e]
    exact ⟨by rw [hn]; simp, by simpa using hp, hb⟩)
  clear hr hn hl
  by_cases h2 : n < 2
  · go_enter Tryd.func21, Tryd.ntmps21
    go_wp2_with fail
    go_ret
    exact HALL.out (fun j hj => Lib.keeps_lt_one d j (by have := HN.out; omega)) _ (Below.refl _ _) HR.out
  go_enter Tryd.func21, Tryd.ntmps21
  go_wp2_with fail
  go_loopw [3] (fun i wr => ∃ j : Nat, j + 1 ≤ n ∧ i = .int .i64 ((j + 1 : Nat) : Int) ∧ Hid (Below w.heap.size w wr) ∧ Hid (∀ q, q < j + 1 → Lib.keeps d q = true)) (fun i _ => n - (intOf i).toNat)
  case atStart => exact ⟨0, by omega, rfl, Lib.hid (Below.refl _ _), Lib.hid (fun q hq => Lib.keeps_lt_one d q hq)⟩
  case round =>
    obtain ⟨wq, hwq⟩ : ∃ x, x = wr := ⟨_, rfl⟩
    subst hwq
    obtain ⟨j, hj, rfl, hbe, hkp⟩ := hrel
    have HPB := Lib.hid (HR.out.later hbe.out)
    have HBG := Lib.hid (hbe.out.mono (Nat.le_of_lt HR.out.lt))
    by_cases hlt : j + 1 < n
    · obtain ⟨x, hx⟩ : ∃ x, d[j]! = x := ⟨_, rfl⟩
      obtain ⟨y, hy⟩ : ∃ y, d[j + 1]! = y := ⟨_, rfl⟩
      have r0 := HPB.out.rng (by rw [← HN.out]; omega) hx
      have r1 := HPB.out.rng (by rw [← HN.out]; omega) hy
      have hgr := HPB.out.lt
      have HXY := Lib.hid (And.intro hx hy)
      obtain ⟨x1, x2⟩ := x
      obtain ⟨y1, y2⟩ := y
      dsimp only at r0 r1
      obtain ⟨tb, htb⟩ : ∃ tb, ((y1 == x1) && (y2 == x2)) = tb := ⟨_, rfl⟩
      have HTF := Lib.hid htb
      have hq1 : ¬ n ≤ j := by omega
      have hq2 : ¬ ((j : Int) + 1 < 0) := by omega
      have hqw := wraps_i64 (j : Int) (by omega) (by omega)
      clear hx hy htb
      go_upto_region 6 with fail
      apply wp_region_ls (by kernel_rfl) (by kernel_rfl)
      apply ls_move (.slice (some ⟨g, 0, none⟩) n cap) (.tmp 0) rfl rfl rfl
      simp only [Act.put, List.setIfInBounds_toArray, List.set_cons_succ, List.set_cons_zero]
      apply ls_move (.int .i64 ((j + 1 : Nat) : Int)) (.tmp 3) rfl rfl rfl
      simp only [Act.put, List.setIfInBounds_toArray, List.set_cons_succ, List.set_cons_zero]
      apply ls_pure (.pointer (some ⟨g, (j + 1) * 2, none⟩)) rfl (by intro W; go_simp)
      simp only [Act.put, List.setIfInBounds_toArray, List.set_cons_succ, List.set_cons_zero]
      apply ls_load 35 (.tmp 18) rfl g ((j + 1) * 2) _ _ r1 hgr Tryd.underlying35 rfl size_pr rfl rfl
      simp only [Act.put, List.setIfInBounds_toArray, List.set_cons_succ, List.set_cons_zero]
      apply ls_move (.slice (some ⟨g, 0, none⟩) n cap) (.tmp 0) rfl rfl rfl
      simp only [Act.put, List.setIfInBounds_toArray, List.set_cons_succ, List.set_cons_zero]
      apply ls_move (.int .i64 ((j + 1 : Nat) : Int)) (.tmp 3) rfl rfl rfl
      simp only [Act.put, List.setIfInBounds_toArray, List.set_cons_succ, List.set_cons_zero]
      apply ls_pure (.int .i64 (j : Int)) rfl (by intro W; go_simp)
      simp only [Act.put, List.setIfInBounds_toArray, List.set_cons_succ, List.set_cons_zero]
      apply ls_pure (.pointer (some ⟨g, j * 2, none⟩)) rfl (by intro W; go_simp)
      simp only [Act.put, List.setIfInBounds_toArray, List.set_cons_succ, List.set_cons_zero]
      apply ls_load 35 (.tmp 23) rfl g (j * 2) _ _ r0 hgr Tryd.underlying35 rfl size_pr rfl rfl
      simp only [Act.put, List.setIfInBounds_toArray, List.set_cons_succ, List.set_cons_zero]
      apply ls_pure (.bool tb) rfl (by intro W; rw [← HTF.out]; go_simp; by_cases h1 : y1 = x1 <;> by_cases h2 : y2 = x2 <;> simp [h1, h2])
      simp only [Act.put, List.setIfInBounds_toArray, List.set_cons_succ, List.set_cons_zero]
      refine ls_nil (Rs := []) ?_
      intro w4 b4
      have HB4 := Lib.hid (hbe.out.then_ b4)
      clear b4 r0 r1
      cases tb with
      | false =>
        have HK2 := Lib.hid (show ∀ q, q < j + 1 + 1 → Lib.keeps d q = true from fun q hq => by
          by_cases e : q = j + 1
          · subst e
            refine Lib.keeps_pos ?_
            rw [HXY.out.2, show j + 1 - 1 = j by omega, HXY.out.1]
            intro h
            have h3 := HTF.out
            injection h with h4 h5
            rw [h4, h5] at h3
            simp at h3
          · exact hkp.out q (by omega))
        go_wp2_with fail
        exact ⟨⟨j + 1, by omega, by go_num, HB4, HK2⟩, by simp [intOf]; omega⟩
      | true =>
        have HI0 := Lib.hid (show Lib.CompInv d (j + 1 + 1) (j + 1) d from Lib.CompInv.start hkp.out (Lib.keeps_neg (by omega) (by
          rw [HXY.out.2, show j + 1 - 1 = j by omega, HXY.out.1]
          have h3 := HTF.out
          simp only [Bool.and_eq_true, beq_iff_eq] at h3
          rw [h3.1, h3.2])))
        have HP4 := Lib.hid (HR.out.later HB4.out)
        have HG4 := Lib.hid (HB4.out.mono (Nat.le_of_lt HR.out.lt))
        go_wp2_with fail
        have hKn : j + 1 < n := hlt
        go_loopw [3, 5] (fun s3 s5 wr => ∃ (kk k3 : Nat) (dk : Array Pr), s3 = .int .i64 (kk : Int) ∧ s5 = .int .i64 ((k3 + 1 : Nat) : Int) ∧ j + 1 + (k3 + 1) ≤ n ∧ Hid (Below g w wr) ∧ Hid (PB wr g dk) ∧ Hid (Lib.CompInv d (j + 1 + (k3 + 1)) kk dk)) (fun _ s5 _ => n - (intOf s5).toNat)
        case atStart => exact ⟨j + 1, 0, d, rfl, rfl, by omega, HG4, HP4, HI0⟩
        case round =>
          obtain ⟨wz, hwz⟩ : ∃ x, x = wr := ⟨_, rfl⟩
          subst hwz
          obtain ⟨kk, k3, dk, rfl, rfl, hle, hbz, hpz, hiz⟩ := hrel
          have hkk : kk < j + 1 + (k3 + 1) := hiz.out.lt
          have hds : dk.size = n := hiz.out.size.trans HN.out.symm
          have hgz := hpz.out.lt
          by_cases hlt2 : k3 + 1 < n - (j + 1)
          · obtain ⟨u, hu⟩ : ∃ x, d[j + 1 + (k3 + 1)]! = x := ⟨_, rfl⟩
            obtain ⟨v, hv⟩ : ∃ x, d[j + 1 + k3]! = x := ⟨_, rfl⟩
            obtain ⟨o, ho⟩ : ∃ x, dk[kk]! = x := ⟨_, rfl⟩
            have q1 := hpz.out.rng (i := j + 1 + (k3 + 1)) (by omega) ((hiz.out.high _ (by omega)).trans hu)
            have q0 := hpz.out.rng (i := j + 1 + k3) (by omega) ((hiz.out.high _ (by omega)).trans hv)
            have qa := hpz.out.at_ (i := j + 1 + (k3 + 1)) (by omega) ((hiz.out.high _ (by omega)).trans hu)
            have qo := hpz.out.at_ (i := kk) (by omega) ho
            rw [show (j + 1 + (k3 + 1)) * 2 = (j + 1) * 2 + (k3 + 1) * 2 by omega] at q1 qa
            rw [show (j + 1 + k3) * 2 = (j + 1) * 2 + k3 * 2 by omega] at q0
            have HUV := Lib.hid (And.intro hu hv)
            have HPUT := Lib.hid (hpz.out.put u (i := kk) (by omega))
            obtain ⟨u1, u2⟩ := u
            obtain ⟨v1, v2⟩ := v
            obtain ⟨o1, o2⟩ := o
            dsimp only at q0 q1 qa qo HPUT
            obtain ⟨⟨qa0, _⟩, ⟨qa1, _⟩⟩ := qa
            obtain ⟨⟨qo0, qf0⟩, ⟨qo1, qf1⟩⟩ := qo
            obtain ⟨tc, htc⟩ : ∃ tc, ((u1 == v1) && (u2 == v2)) = tc := ⟨_, rfl⟩
            have HTC := Lib.hid htc
            have hw1 : ¬ n - (j + 1) ≤ k3 := by omega
            have hw2 : ¬ ((k3 : Int) + 1 < 0) := by omega
            have hw3 := wraps_i64 (k3 : Int) (by omega) (by omega)
            have hw4 : kk < n := by omega
            clear hu hv ho htc
            cases tc with
            | true =>
              have HI2 := Lib.hid (show Lib.CompInv d (j + 1 + (k3 + 1 + 1)) kk dk from hiz.out.skip (Lib.keeps_neg (by omega) (by
                rw [HUV.out.1, show j + 1 + (k3 + 1) - 1 = j + 1 + k3 by omega, HUV.out.2]
                have h3 := HTC.out
                simp only [Bool.and_eq_true, beq_iff_eq] at h3
                rw [h3.1, h3.2])))
              go_upto_region 11 with fail
              apply wp_region_ls (by kernel_rfl) (by kernel_rfl)
              apply ls_move (.slice (some ⟨g, (j + 1) * 2, none⟩) (n - (j + 1)) (cap - (j + 1))) (.tmp 4) rfl rfl rfl
              simp only [Act.put, List.setIfInBounds_toArray, List.set_cons_succ, List.set_cons_zero]
              apply ls_move (.int .i64 ((k3 + 1 : Nat) : Int)) (.tmp 5) rfl rfl rfl
              simp only [Act.put, List.setIfInBounds_toArray, List.set_cons_succ, List.set_cons_zero]
              apply ls_pure (.pointer (some ⟨g, (j + 1) * 2 + (k3 + 1) * 2, none⟩)) rfl (by intro W; go_simp)
              simp only [Act.put, List.setIfInBounds_toArray, List.set_cons_succ, List.set_cons_zero]
              apply ls_load 35 (.tmp 37) rfl g ((j + 1) * 2 + (k3 + 1) * 2) _ _ q1 hgz Tryd.underlying35 rfl size_pr rfl rfl
              simp only [Act.put, List.setIfInBounds_toArray, List.set_cons_succ, List.set_cons_zero]
              apply ls_move (.slice (some ⟨g, (j + 1) * 2, none⟩) (n - (j + 1)) (cap - (j + 1))) (.tmp 4) rfl rfl rfl
              simp only [Act.put, List.setIfInBounds_toArray, List.set_cons_succ, List.set_cons_zero]
              apply ls_move (.int .i64 ((k3 + 1 : Nat) : Int)) (.tmp 5) rfl rfl rfl
              simp only [Act.put, List.setIfInBounds_toArray, List.set_cons_succ, List.set_cons_zero]
              apply ls_pure (.int .i64 (k3 : Int)) rfl (by intro W; go_simp)
              simp only [Act.put, List.setIfInBounds_toArray, List.set_cons_succ, List.set_cons_zero]
              apply ls_pure (.pointer (some ⟨g, (j + 1) * 2 + k3 * 2, none⟩)) rfl (by intro W; go_simp)
              simp only [Act.put, List.setIfInBounds_toArray, List.set_cons_succ, List.set_cons_zero]
              apply ls_load 35 (.tmp 42) rfl g ((j + 1) * 2 + k3 * 2) _ _ q0 hgz Tryd.underlying35 rfl size_pr rfl rfl
              simp only [Act.put, List.setIfInBounds_toArray, List.set_cons_succ, List.set_cons_zero]
              apply ls_pure (.bool false) rfl (by intro W; have h3 := HTC.out; go_simp; by_cases h1 : u1 = v1 <;> by_cases h2 : u2 = v2 <;> simp_all)
              simp only [Act.put, List.setIfInBounds_toArray, List.set_cons_succ, List.set_cons_zero]
              refine ls_nil (Rs := []) ?_
              intro w5 b5
              have HB5 := Lib.hid (hbz.out.trans (b5.mono (Nat.le_of_lt hgz)))
              have HP5 := Lib.hid (hpz.out.later b5)
              clear b5 q0 q1 qa0 qa1 qo0 qo1 qf0 qf1 HPUT
              go_wp2_with fail
              exact ⟨⟨kk, k3 + 1, dk, rfl, by go_num, by omega, HB5, HP5, HI2⟩, by simp [intOf]; omega⟩
            | false =>
              have HI2 := Lib.hid (show Lib.CompInv d (j + 1 + (k3 + 1 + 1)) (kk + 1) (dk.setIfInBounds kk (u1, u2)) from by
                have h := hiz.out.keep (by rw [← HN.out]; omega) (Lib.keeps_pos (by
                  rw [HUV.out.1, show j + 1 + (k3 + 1) - 1 = j + 1 + k3 by omega, HUV.out.2]
                  intro h
                  have h3 := HTC.out
                  injection h with h4 h5
                  rw [h4, h5] at h3
                  simp at h3))
                rw [HUV.out.1] at h
                exact h)
              go_upto_region 11 with fail
              apply wp_region_ls (by kernel_rfl) (by kernel_rfl)
              apply ls_move (.slice (some ⟨g, (j + 1) * 2, none⟩) (n - (j + 1)) (cap - (j + 1))) (.tmp 4) rfl rfl rfl
              simp only [Act.put, List.setIfInBounds_toArray, List.set_cons_succ, List.set_cons_zero]
              apply ls_move (.int .i64 ((k3 + 1 : Nat) : Int)) (.tmp 5) rfl rfl rfl
              simp only [Act.put, List.setIfInBounds_toArray, List.set_cons_succ, List.set_cons_zero]
              apply ls_pure (.pointer (some ⟨g, (j + 1) * 2 + (k3 + 1) * 2, none⟩)) rfl (by intro W; go_simp)
              simp only [Act.put, List.setIfInBounds_toArray, List.set_cons_succ, List.set_cons_zero]
              apply ls_load 35 (.tmp 37) rfl g ((j + 1) * 2 + (k3 + 1) * 2) _ _ q1 hgz Tryd.underlying35 rfl size_pr rfl rfl
              simp only [Act.put, List.setIfInBounds_toArray, List.set_cons_succ, List.set_cons_zero]
              apply ls_move (.slice (some ⟨g, (j + 1) * 2, none⟩) (n - (j + 1)) (cap - (j + 1))) (.tmp 4) rfl rfl rfl
              simp only [Act.put, List.setIfInBounds_toArray, List.set_cons_succ, List.set_cons_zero]
              apply ls_move (.int .i64 ((k3 + 1 : Nat) : Int)) (.tmp 5) rfl rfl rfl
              simp only [Act.put, List.setIfInBounds_toArray, List.set_cons_succ, List.set_cons_zero]
              apply ls_pure (.int .i64 (k3 : Int)) rfl (by intro W; go_simp)
              simp only [Act.put, List.setIfInBounds_toArray, List.set_cons_succ, List.set_cons_zero]
              apply ls_pure (.pointer (some ⟨g, (j + 1) * 2 + k3 * 2, none⟩)) rfl (by intro W; go_simp)
              simp only [Act.put, List.setIfInBounds_toArray, List.set_cons_succ, List.set_cons_zero]
              apply ls_load 35 (.tmp 42) rfl g ((j + 1) * 2 + k3 * 2) _ _ q0 hgz Tryd.underlying35 rfl size_pr rfl rfl
              simp only [Act.put, List.setIfInBounds_toArray, List.set_cons_succ, List.set_cons_zero]
              apply ls_pure (.bool true) rfl (by intro W; have h3 := HTC.out; go_simp; by_cases h1 : u1 = v1 <;> by_cases h2 : u2 = v2 <;> simp_all)
              simp only [Act.put, List.setIfInBounds_toArray, List.set_cons_succ, List.set_cons_zero]
              refine ls_nil (Rs := []) ?_
              intro w5 b5
              have q9 := hpz.out.later b5
              have HPUT := Lib.hid (q9.put (u1, u2) (i := kk) (by omega))
              have c0 := (b5.cell (p := ⟨g, (j + 1) * 2 + (k3 + 1) * 2, none⟩) hgz).trans qa0
              have c1 := (b5.cell (p := ⟨g, (j + 1) * 2 + (k3 + 1) * 2 + 1, none⟩) hgz).trans qa1
              obtain ⟨o, ho⟩ : ∃ x, dk[kk]! = x := ⟨_, rfl⟩
              have qo := q9.at_ (i := kk) (by omega) ho
              obtain ⟨⟨qp0, qg0⟩, ⟨qp1, qg1⟩⟩ := qo
              have HB5 := Lib.hid (((hbz.out.trans (b5.mono (Nat.le_of_lt hgz))).setCell (p := ⟨g, kk * 2, none⟩) (Nat.le_refl g) (.string ⟨u1.toArray⟩)).setCell (p := ⟨g, kk * 2 + 1, none⟩) (Nat.le_refl g) (.string ⟨u2.toArray⟩))
              clear b5 q0 q1 q9 ho qa0 qa1 qo0 qo1 qf0 qf1
              go_wp2_with fail
              exact ⟨⟨kk + 1, k3 + 1, _, by go_num, by go_num, by omega, HB5, HPUT, HI2⟩, by simp [intOf]; omega⟩
          · have hend : j + 1 + (k3 + 1) = n := by omega
            have hlen : (Lib.compactUpTo d d.size).length = kk := by have h := hiz.out.len; rw [hend, HN.out] at h; exact h
            have hcl : ∀ ty, (Builtin.clear_ #[32] ty #[.slice (some ⟨g, kk * 2, none⟩) (n - kk) (cap - kk)]).run Tryd.prog wz = .ok (.tuple #[]) (wz.setCells g (kk * 2) (List.replicate ((n - kk) * 2) (.string ⟨#[]⟩))) := fun ty =>
              run_clear_pr wz ty g (kk * 2) (n - kk) (cap - kk) (by omega) (fun q hq => by
                have h := hpz.out.at_ (i := kk + q / 2) (by omega) rfl
                rcases (show q % 2 = 0 ∨ q % 2 = 1 by omega) with e | e
                · rw [show kk * 2 + q = (kk + q / 2) * 2 by omega, h.1.1]; rfl
                · rw [show kk * 2 + q = (kk + q / 2) * 2 + 1 by omega, h.2.1]; rfl) (fun q hq => by
                have h := hpz.out.at_ (i := kk + q / 2) (by omega) rfl
                rcases (show q % 2 = 0 ∨ q % 2 = 1 by omega) with e | e
                · rw [show kk * 2 + q = (kk + q / 2) * 2 by omega]; exact h.1.2
                · rw [show kk * 2 + q = (kk + q / 2) * 2 + 1 by omega]; exact h.2.2)
            have HFB := Lib.hid (setCells_below (List.replicate ((n - kk) * 2) (.string ⟨#[]⟩)) (kk * 2) w wz hbz.out)
            have HFP := Lib.hid (show PB (wz.setCells g (kk * 2) (List.replicate ((n - kk) * 2) (.string ⟨#[]⟩))) g (Lib.compactUpTo d d.size).toArray from by
              obtain ⟨cs, g1, g2⟩ := hpz.out
              obtain ⟨cs', g3, g4⟩ := setCells_blk (List.replicate ((n - kk) * 2) (.string ⟨#[]⟩)) (kk * 2) wz cs g1
              refine ⟨cs', g3, fun i hi => ?_⟩
              have hi' : i < kk := by rw [← hlen]; simpa using hi
              have h5 := hiz.out.low i hi'
              rw [hend, HN.out] at h5
              have h6 : (Lib.compactUpTo d d.size).toArray[i]! = dk[i]! := by
                rw [getElem!_pos _ i hi, List.getElem_toArray]
                exact Option.some.inj ((List.getElem?_eq_getElem (by simpa using hi)).symm.trans h5)
              rw [h6, g4 (i * 2) (by omega), g4 (i * 2 + 1) (by omega)]
              exact g2 i (by omega))
            have HLN := Lib.hid hlen
            have hw4 : kk ≤ n := by omega
            have hw5 : ¬ k3 + 1 < n - (j + 1) := hlt2
            clear hlen
            go_wp2_with fail
            go_ret
            exact ⟨by rw [HLN.out]; rfl, HFP.out, HFB.out⟩
    · obtain rfl : n = j + 1 := by omega
      go_wp2_with fail
      go_ret
      exact HALL.out (fun q hq => hkp.out q (by have := HN.out; omega)) _ HBG.out HPB.out
end Go.Proofs.YtpleminoiodmgaaDoor
