/- Texts put together: PnK PnL PnQ PnM. -/
import Derived.Test.YtpleminoiodmgaaDoorZdb3b59330c
import Derived.Test.YtpleminoiodmgaaDoorZ7a763d89a4
import Derived.Test.YtpleminoiodmgaaDoorZ0c4ed810f7
import Derived.Test.YtpleminoiodmgaaDoorZ9a4b2937d6
namespace Go.Proofs.YtpleminoiodmgaaDoor
open Go.ChangeShapes Go.WideShapes Go.ChangeAt Go.RowKit Go.IntWalk
set_option linter.unusedVariables false
set_option maxRecDepth 100000

def base3 (e : Ev) : List Pr := [([109, 46, 114, 111, 111, 109, 46, 99, 114, 101, 97, 116, 101], []), ([109, 46, 114, 111, 111, 109, 46, 112, 111, 119, 101, 114, 95, 108, 101, 118, 101, 108, 115], []), ([109, 46, 114, 111, 111, 109, 46, 109, 101, 109, 98, 101, 114], e.sd)]
def allP (e : Ev) : List Pr := base3 e ++ (if e.ty = [109, 46, 114, 111, 111, 109, 46, 109, 101, 109, 98, 101, 114] then omF e else [])
def neededP (e : Ev) : List Pr := if e.ty = [109, 46, 114, 111, 111, 109, 46, 99, 114, 101, 97, 116, 101] then [] else Lib.compactUpTo (sortP (allP e)).toArray (sortP (allP e)).toArray.size
theorem omF_len (e : Ev) : 1 ≤ (omF e).length ∧ (omF e).length ≤ 3 := by
  unfold omF
  repeat' split
  all_goals exact ⟨by simp, by simp⟩
theorem compact_len (d : Array Pr) : (Lib.compactUpTo d d.size).length ≤ d.size := by
  unfold Lib.compactUpTo
  rw [List.length_map]
  exact Nat.le_trans (List.length_filter_le _ _) (by simp)
theorem blk_cell {w : World} {g : Nat} {T : TypeId} {cs : List Value} (h : Blk w g T cs) (k : Nat) : w.cell? ⟨g, k, none⟩ = cs[k]? := by
  rw [cell_of_row _ _ _ _ _ _ h]; simp
theorem PB.lp {w : World} {g cap : Nat} {l : List Pr} (h : PB w g l.toArray) (hc : l.length ≤ cap) (hm : cap ≤ 9223372036854775807) : LP w (some ⟨g, 0, none⟩) l.length cap l := by
  obtain ⟨cs, h1, h2⟩ := h
  refine ⟨fun q v hq => ?_, Lib.hid rfl, hc, hm⟩
  obtain ⟨i, j, hi, hj, rfl, hv⟩ := prC_of hq
  refine ⟨g, 0, rfl, h1.lt, ?_⟩
  rw [Nat.zero_add]
  have h3 := h2 i (by simpa using hi)
  have e : l.toArray[i]! = l[i] := by rw [getElem!_pos l.toArray i (by simpa using hi)]; simp
  rw [e] at h3
  obtain rfl | rfl : j = 0 ∨ j = 1 := by omega
  · cases hv; exact h1.cell h3.1
  · cases hv; exact h1.cell h3.2
theorem OwnP.holds {base : Nat} {w : World} {v : Value} {l : List Pr} (h : OwnP base w v l) (hne : 1 ≤ l.length) : ∃ g cap, v = .slice (some ⟨g, 0, none⟩) l.length cap ∧ base ≤ g ∧ g < w.heap.size ∧ l.length ≤ cap ∧ cap ≤ 9223372036854775807 ∧ (∃ cs, Blk w g 35 cs) ∧ Go.Sort.HoldsK encP 2 w g 0 l.toArray := by
  rcases h.2 with ⟨rfl, h0⟩ | ⟨g, cap, cur, rfl, hb, hh, hn, hm, hs, ht⟩
  · omega
  · have hblk : Blk w g 35 cur.toList := hh
    refine ⟨g, cap, rfl, hb, (Array.getElem?_eq_some_iff.1 hh).1, hn, hm, ⟨_, hblk⟩, fun q hq => ?_⟩
    have hq2 : q < l.length * 2 := by simpa using hq
    obtain ⟨i, j, rfl, hj, hi⟩ : ∃ i j, q = i * 2 + j ∧ j < 2 ∧ i < l.length := ⟨q / 2, q % 2, by omega, by omega, by omega⟩
    rw [Nat.zero_add, Go.Sort.get_flatK encP 2 _ _ (by simpa using hq2), show (i * 2 + j) / 2 = i by omega, show (i * 2 + j) % 2 = j by omega]
    have e : l.toArray[i]! = l[i] := by rw [getElem!_pos l.toArray i (by simpa using hi)]; simp
    rw [e]
    refine ⟨?_, hblk.frozen _⟩
    have h1 : (prC l)[i * 2 + j]? = cur.toList[i * 2 + j]? := by rw [← ht, List.getElem?_take, if_pos hq2]
    rw [blk_cell hblk, ← h1, prC_get hi hj]
    obtain rfl | rfl : j = 0 ∨ j = 1 := by omega
    · rfl
    · rfl
theorem sortW_blk {w : World} {g n : Nat} {T : TypeId} {cs : List Value} {d : Array Pr} {os : Array Obj} (h : Blk w g T cs) : ∃ cs', Blk (sortWorldK encP 2 w g 0 n d os) g T cs' := by
  refine ⟨(Go.Sort.putCells id 0 (Go.Sort.flatK encP 2 d) cs.toArray).toList, ?_⟩
  have hg : g < w.heap.size := h.lt
  have h' : w.heap[g]? = some (.cells cs.toArray T (0, 0)) := h
  show (sortWorldK encP 2 w g 0 n d os).heap[g]? = some (.cells (List.toArray (Array.toList (Go.Sort.putCells id 0 (Go.Sort.flatK encP 2 d) cs.toArray))) T (0, 0))
  unfold sortWorldK Go.Sort.grow Go.Sort.putRowK Go.Sort.putRow Go.Sort.mapBlock Go.Sort.ahead
  show (w.heap.modify g _ ++ os)[g]? = _
  rw [Array.getElem?_append_left (by simpa using hg), Array.getElem?_modify, if_pos rfl, h']
  simp [Go.Sort.onCells]
theorem sortP_pb {w : World} {g n : Nat} {l : List Pr} {cs : List Value} {os : Array Obj} (h : Blk w g 35 cs) (hh : Go.Sort.HoldsK encP 2 w g 0 l.toArray) (hg : g < w.heap.size) : PB (sortWorldK encP 2 w g 0 n (sortP l.toArray.toList).toArray os) g (sortP l).toArray := by
  obtain ⟨cs', h1⟩ := sortW_blk (n := n) (d := (sortP l.toArray.toList).toArray) (os := os) h
  have h2 := sortP_holds (n := n) (os := os) hh hg
  refine ⟨cs', h1, fun i hi => ?_⟩
  have c0 := (Go.Sort.HoldsK.cell h2 (i := i) (c := 0) (by simpa using hi) (by decide)).1
  have c1 := (Go.Sort.HoldsK.cell h2 (i := i) (c := 1) (by simpa using hi) (by decide)).1
  rw [Nat.zero_add, blk_cell h1] at c0 c1
  exact ⟨c0, c1⟩
theorem OwnP.three {base : Nat} {w : World} (p q r : Pr) (h : base ≤ w.heap.size) : OwnP base (w.alloc (.cells #[.string ⟨p.1.toArray⟩, .string ⟨p.2.toArray⟩, .string ⟨q.1.toArray⟩, .string ⟨q.2.toArray⟩, .string ⟨r.1.toArray⟩, .string ⟨r.2.toArray⟩] 35)) (.slice (some ⟨w.heap.size, 0, none⟩) 3 3) [p, q, r] :=
  ⟨rfl, .inr ⟨w.heap.size, 3, _, rfl, h, heap_alloc_new w _, Nat.le_refl _, by decide, rfl, rfl⟩⟩
set_option maxHeartbeats 16000000 in
theorem needed_calls (e : Ev) (a : Ea) (w : World) (he : EOk w e a) (hr : risV e.ct = true) (hbk : e.ct.bulk ≤ 50000) : Calls Tryd.prog 8 #[.agg (evC e a).toArray] w (NedPost (neededP e) w) := by
  have b0 : Below w.heap.size w (w.alloc (.cells (evC e a).toArray 29)) := (Below.refl _ _).alloc (Nat.le_refl _) _
  have HB0 := Lib.hid b0
  have HX := Lib.hid (Blk.new w (evC e a) 29)
  have HE := Lib.hid he
  have HRV := Lib.hid (And.intro hr hbk)
  have HSW := Lib.hid (show (w.alloc (.cells (evC e a).toArray 29)).heap.size = w.heap.size + 1 by simp)
  have hx := HX.out
  have d0 := hx.cell (k := 0) rfl; have d1 := hx.cell (k := 1) rfl; have d2 := hx.cell (k := 2) rfl; have d3 := hx.cell (k := 3) rfl; have d4 := hx.cell (k := 4) rfl; have d5 := hx.cell (k := 5) rfl; have d6 := hx.cell (k := 6) rfl; have d7 := hx.cell (k := 7) rfl; have d8 := hx.cell (k := 8) rfl; have d9 := hx.cell (k := 9) rfl; have d10 := hx.cell (k := 10) rfl; have d11 := hx.cell (k := 11) rfl; have d12 := hx.cell (k := 12) rfl; have d13 := hx.cell (k := 13) rfl; have d14 := hx.cell (k := 14) rfl; have d15 := hx.cell (k := 15) rfl; have d16 := hx.cell (k := 16) rfl
  clear he hr hbk b0 hx
  by_cases hc : e.ty = [109, 46, 114, 111, 111, 109, 46, 99, 114, 101, 97, 116, 101]
  · have t1 : (e.ty == [109, 46, 114, 111, 111, 109, 46, 99, 114, 101, 97, 116, 101]) = true := by rw [beq_iff_eq]; exact hc
    have HF := Lib.hid (show neededP e = [] by unfold neededP; rw [if_pos hc])
    clear hc
    go_enter Tryd.func8, Tryd.ntmps8
    go_wp2_with fail
    go_ret
    rw [HF.out]
    exact ⟨⟨none, 0, rfl, RV.nil _ _, Lib.hid rfl, Nat.le_refl _, by decide⟩, HB0.out⟩
  have t1 : (e.ty == [109, 46, 114, 111, 111, 109, 46, 99, 114, 101, 97, 116, 101]) = false := by rw [beq_eq_false_iff_ne]; exact hc
  have HNC := Lib.hid hc
  clear hc
  have hO1 : OwnP (w.alloc (.cells (evC e a).toArray 29)).heap.size ((w.alloc (.cells (evC e a).toArray 29)).alloc (.cells #[.string ⟨#[109, 46, 114, 111, 111, 109, 46, 99, 114, 101, 97, 116, 101]⟩, .string ⟨#[]⟩, .string ⟨#[109, 46, 114, 111, 111, 109, 46, 112, 111, 119, 101, 114, 95, 108, 101, 118, 101, 108, 115]⟩, .string ⟨#[]⟩, .string ⟨#[109, 46, 114, 111, 111, 109, 46, 109, 101, 109, 98, 101, 114]⟩, .string ⟨e.sd.toArray⟩] 35)) (.slice (some ⟨w.heap.size + 1, 0, none⟩) 3 3) (base3 e) := by
    have h := OwnP.three (base := (w.alloc (.cells (evC e a).toArray 29)).heap.size) (w := (w.alloc (.cells (evC e a).toArray 29))) ([109, 46, 114, 111, 111, 109, 46, 99, 114, 101, 97, 116, 101], []) ([109, 46, 114, 111, 111, 109, 46, 112, 111, 119, 101, 114, 95, 108, 101, 118, 101, 108, 115], []) ([109, 46, 114, 111, 111, 109, 46, 109, 101, 109, 98, 101, 114], e.sd) (Nat.le_refl _)
    rw [show (Value.slice (some ⟨(w.alloc (.cells (evC e a).toArray 29)).heap.size, 0, none⟩) 3 3) = .slice (some ⟨w.heap.size + 1, 0, none⟩) 3 3 by rw [HSW.out]] at h
    exact h
  go_enter Tryd.func8, Tryd.ntmps8
  go_upto_region 4 with fail
  refine wp_gen (fun W => Below (w.alloc (.cells (evC e a).toArray 29)).heap.size (w.alloc (.cells (evC e a).toArray 29)) W ∧ OwnP (w.alloc (.cells (evC e a).toArray 29)).heap.size W (.slice (some ⟨w.heap.size + 1, 0, none⟩) 3 3) (base3 e)) ⟨(Below.refl _ _).alloc (Nat.le_refl _) _, hO1⟩ ?_
  clear d0 d1 d2 d3 d4 d5 d6 d7 d8 d9 d10 d11 d12 d13 d14 d15 d16 hO1
  rintro w1 ⟨g1, g2⟩
  have HB1 := Lib.hid g1
  have HO1 := Lib.hid g2
  clear g1 g2
  have hx := HX.out.later HB1.out
  have d0 := hx.cell (k := 0) rfl; have d1 := hx.cell (k := 1) rfl; have d2 := hx.cell (k := 2) rfl; have d3 := hx.cell (k := 3) rfl; have d4 := hx.cell (k := 4) rfl; have d5 := hx.cell (k := 5) rfl; have d6 := hx.cell (k := 6) rfl; have d7 := hx.cell (k := 7) rfl; have d8 := hx.cell (k := 8) rfl; have d9 := hx.cell (k := 9) rfl; have d10 := hx.cell (k := 10) rfl; have d11 := hx.cell (k := 11) rfl; have d12 := hx.cell (k := 12) rfl; have d13 := hx.cell (k := 13) rfl; have d14 := hx.cell (k := 14) rfl; have d15 := hx.cell (k := 15) rfl; have d16 := hx.cell (k := 16) rfl
  clear hx
  by_cases hm : e.ty = [109, 46, 114, 111, 111, 109, 46, 109, 101, 109, 98, 101, 114]
  · have t2 : (e.ty == [109, 46, 114, 111, 111, 109, 46, 109, 101, 109, 98, 101, 114]) = true := by rw [beq_iff_eq]; exact hm
    have HTY := Lib.hid hm
    clear hm
    have HOM := Lib.hid (ofMember_calls e a w1 (HE.out.below (HB0.out.then_ HB1.out)) HRV.out.1 HRV.out.2)
    go_wp2_with fail
    refine HOM.out.mono ?_
    rintro en w2 ⟨v2, rfl, ho, hb⟩
    obtain ⟨A2, c2, rfl, hl⟩ := ho.form
    have hlen := omF_len e
    obtain ⟨b2, o2, rfl, -, -⟩ := pr_row hl.1 (Below.refl _ _) (k := 0) (by omega)
    have HL2 := Lib.hid hl
    have HB2 := Lib.hid (HB1.out.then_ hb)
    have HO2 := Lib.hid (HO1.out.below hb)
    have HLE := Lib.hid hlen
    clear ho hb hl HOM d0 d1 d2 d3 d4 d5 d6 d7 d8 d9 d10 d11 d12 d13 d14 d15 d16 hlen
    go_upto_region 6 with (at_builtin; refine wpList_append_prs rfl _ _ rfl (w.alloc (.cells (evC e a).toArray 29)).heap.size (.slice (some ⟨w.heap.size + 1, 0, none⟩) 3 3) (base3 e) rfl HO2.out ⟨b2, o2, none⟩ (omF e).length c2 (omF e) rfl HL2.out.1 (Lib.hid rfl) (by have := HLE.out; show 3 + _ ≤ _; omega) HB2.out.size ?_; intro v3 w3 h5 g5; have HO3 := Lib.hid (show OwnP (w.alloc (.cells (evC e a).toArray 29)).heap.size w3 v3 (base3 e ++ omF e) from h5); have HB3 := Lib.hid (Below.prs_grown HB2.out HO2.out g5 HB2.out.size); clear h5 g5)
    have HNE := Lib.hid (show 1 ≤ (base3 e ++ omF e).length by rw [List.length_append]; show 1 ≤ 3 + _; omega)
    have HLS := Lib.hid (show (base3 e ++ omF e).length ≤ 6 by rw [List.length_append]; have := HLE.out; show 3 + _ ≤ 6; omega)
    have HLN := Lib.hid (show (base3 e ++ omF e).length ≤ 1000000 by have := HLS.out; omega)
    obtain ⟨g, cap, hv, hg1, hg2, hg3, hg4, ⟨cs, hcs⟩, hh⟩ := OwnP.holds HO3.out HNE.out
    subst hv
    have HS := Lib.hid (sortP_calls g cap (base3 e ++ omF e).toArray w3 hh hg2 (by simpa using HLN.out))
    have hsz : (base3 e ++ omF e).toArray.size = (base3 e ++ omF e).length := by simp
    rw [hsz] at HS
    obtain ⟨n, hnn⟩ : ∃ n, (base3 e ++ omF e).length = n := ⟨_, rfl⟩
    have HGG := Lib.hid (And.intro hg1 (And.intro hg2 (And.intro hg3 hg4)))
    have HHH := Lib.hid (And.intro hcs hh)
    have HNN := Lib.hid hnn
    rw [hnn] at HS hg3 ⊢
    clear hsz hg1 hg2 hg4 hcs hh hnn
    go_wp2_with fail
    refine HS.out.mono ?_
    rintro en w20 ⟨rfl, m, os, hw20⟩
    have hpb := sortP_pb (n := m) (os := os) HHH.out.1 HHH.out.2 HGG.out.2.1
    have hbl := sortW_below (enc := encP) (k := 2) (n := m) (d := (sortP (base3 e ++ omF e).toArray.toList).toArray) (os := os) (w := w3) (blk := g) (off := 0) (B := (w.alloc (.cells (evC e a).toArray 29)).heap.size) HGG.out.1 HGG.out.2.1
    rw [← hw20] at hpb hbl
    have HPB := Lib.hid (show PB w20 g (sortP (base3 e ++ omF e)).toArray from hpb)
    have HB20 := Lib.hid (HB3.out.trans hbl)
    have HSL := Lib.hid (show n = (sortP (base3 e ++ omF e)).toArray.size by rw [← HNN.out]; simp [sortP])
    have HC := Lib.hid (compact_calls g n cap (sortP (base3 e ++ omF e)).toArray w20 HPB.out HSL.out (by rw [← HSL.out, ← HNN.out]; have := HLS.out; omega) hg3 HGG.out.2.2.2)
    clear hw20 hpb hbl HS
    go_wp2_with fail
    refine HC.out.mono ?_
    rintro en w21 ⟨rfl, hp21, hb21⟩
    have HP21 := Lib.hid hp21
    have HB21 := Lib.hid (HB20.out.trans (hb21.mono HGG.out.1))
    have HCL := Lib.hid (show (Lib.compactUpTo (sortP (base3 e ++ omF e)).toArray (sortP (base3 e ++ omF e)).toArray.size).length ≤ cap by have h := compact_len (sortP (base3 e ++ omF e)).toArray; have := HSL.out; omega)
    clear hp21 hb21 HC
    go_wp2_with fail
    go_ret
    have HR : neededP e = Lib.compactUpTo (sortP (base3 e ++ omF e)).toArray (sortP (base3 e ++ omF e)).toArray.size := by
      unfold neededP allP; rw [if_neg HNC.out, if_pos HTY.out]
    rw [HR]
    exact ⟨⟨_, _, rfl, HP21.out.lp HCL.out HGG.out.2.2.2⟩, HB0.out.trans (HB21.out.mono (by rw [HSW.out]; omega))⟩
  · have t2 : (e.ty == [109, 46, 114, 111, 111, 109, 46, 109, 101, 109, 98, 101, 114]) = false := by rw [beq_eq_false_iff_ne]; exact hm
    have HTY := Lib.hid hm
    clear hm
    have HNE := Lib.hid (show 1 ≤ (base3 e).length by show 1 ≤ 3; decide)
    have HLS := Lib.hid (show (base3 e).length ≤ 6 by show 3 ≤ 6; decide)
    have HLN := Lib.hid (show (base3 e).length ≤ 1000000 by show 3 ≤ 1000000; decide)
    obtain ⟨v1, hv1⟩ : ∃ v, Value.slice (some ⟨w.heap.size + 1, 0, none⟩) 3 3 = v := ⟨_, rfl⟩
    rw [hv1] at HO1 ⊢
    clear hv1
    obtain ⟨g, cap, hv, hg1, hg2, hg3, hg4, ⟨cs, hcs⟩, hh⟩ := OwnP.holds HO1.out HNE.out
    subst hv
    have HS := Lib.hid (sortP_calls g cap (base3 e).toArray w1 hh hg2 (by simpa using HLN.out))
    have hsz : (base3 e).toArray.size = (base3 e).length := by simp
    rw [hsz] at HS
    obtain ⟨n, hnn⟩ : ∃ n, (base3 e).length = n := ⟨_, rfl⟩
    have HGG := Lib.hid (And.intro hg1 (And.intro hg2 (And.intro hg3 hg4)))
    have HHH := Lib.hid (And.intro hcs hh)
    have HNN := Lib.hid hnn
    rw [hnn] at HS hg3 ⊢
    clear hsz hg1 hg2 hg4 hcs hh hnn
    go_wp2_with fail
    refine HS.out.mono ?_
    rintro en w20 ⟨rfl, m, os, hw20⟩
    have hpb := sortP_pb (n := m) (os := os) HHH.out.1 HHH.out.2 HGG.out.2.1
    have hbl := sortW_below (enc := encP) (k := 2) (n := m) (d := (sortP (base3 e).toArray.toList).toArray) (os := os) (w := w1) (blk := g) (off := 0) (B := (w.alloc (.cells (evC e a).toArray 29)).heap.size) HGG.out.1 HGG.out.2.1
    rw [← hw20] at hpb hbl
    have HPB := Lib.hid (show PB w20 g (sortP (base3 e)).toArray from hpb)
    have HB20 := Lib.hid (HB1.out.trans hbl)
    have HSL := Lib.hid (show n = (sortP (base3 e)).toArray.size by rw [← HNN.out]; simp [sortP])
    have HC := Lib.hid (compact_calls g n cap (sortP (base3 e)).toArray w20 HPB.out HSL.out (by rw [← HSL.out, ← HNN.out]; have := HLS.out; omega) hg3 HGG.out.2.2.2)
    clear hw20 hpb hbl HS
    go_wp2_with fail
    refine HC.out.mono ?_
    rintro en w21 ⟨rfl, hp21, hb21⟩
    have HP21 := Lib.hid hp21
    have HB21 := Lib.hid (HB20.out.trans (hb21.mono HGG.out.1))
    have HCL := Lib.hid (show (Lib.compactUpTo (sortP (base3 e)).toArray (sortP (base3 e)).toArray.size).length ≤ cap by have h := compact_len (sortP (base3 e)).toArray; have := HSL.out; omega)
    clear hp21 hb21 HC
    go_wp2_with fail
    go_ret
    have HR : neededP e = Lib.compactUpTo (sortP (base3 e)).toArray (sortP (base3 e)).toArray.size := by
      unfold neededP allP; rw [if_neg HNC.out, if_neg HTY.out, List.append_nil]
    rw [HR]
    exact ⟨⟨_, _, rfl, HP21.out.lp HCL.out HGG.out.2.2.2⟩, HB0.out.trans (HB21.out.mono (by rw [HSW.out]; omega))⟩
end Go.Proofs.YtpleminoiodmgaaDoor
namespace Go.Proofs.YtpleminoiodmgaaDoor
open Go.ChangeShapes Go.WideShapes Go.ChangeAt Go.RowKit Go.IntWalk
set_option linter.unusedVariables false
set_option maxRecDepth 100000

def RiseP (l : List Pr) : Prop := l.Pairwise fun a b => cmpP a b = -1
theorem cmp_irr {p : Pr} (h : cmpP p p = -1) : False := by rw [cmpP_self] at h; exact absurd h (by decide)
theorem cmp_asym {p q : Pr} (h : cmpP p q = -1) (h2 : cmpP q p = -1) : False := cmp_irr (cmpP_trans h h2)
theorem rise_ext {a b : List Pr} (ha : RiseP a) (hb : RiseP b) (h : ∀ x, x ∈ a ↔ x ∈ b) : a = b := by
  have na : a.Nodup := ha.imp fun {x y} h e => by subst e; exact cmp_irr h
  have nb : b.Nodup := hb.imp fun {x y} h e => by subst e; exact cmp_irr h
  exact List.Perm.eq_of_pairwise (le := fun x y => cmpP x y = -1) (fun x y _ _ h1 h2 => (cmp_asym h1 h2).elim) ha hb ((List.perm_ext_iff_of_nodup na nb).2 h)
theorem withP_mem (l : List Pr) (p x : Pr) : x ∈ withP l p ↔ x = p ∨ x ∈ l := by
  unfold withP
  rw [List.mem_append, List.mem_cons, List.mem_filter, List.mem_filter, decide_eq_true_eq, decide_eq_true_eq]
  constructor
  · rintro (⟨h, _⟩ | h | ⟨h, _⟩)
    · exact .inr h
    · exact .inl h
    · exact .inr h
  · rintro (h | h)
    · exact .inr (.inl h)
    · rcases cmpP_three x p with h1 | h1 | h1
      · exact .inl ⟨h, h1⟩
      · exact .inr (.inl (cmpP_eq h1))
      · exact .inr (.inr ⟨h, by rw [cmpP_anti, h1]⟩)
theorem withP_rise {l : List Pr} (h : RiseP l) (p : Pr) : RiseP (withP l p) := by
  unfold withP RiseP
  refine List.pairwise_append.2 ⟨List.Pairwise.sublist List.filter_sublist h, List.pairwise_cons.2 ⟨fun x hx => ?_, List.Pairwise.sublist List.filter_sublist h⟩, fun a ha b hb => ?_⟩
  · exact of_decide_eq_true (List.mem_filter.1 hx).2
  · have h1 : cmpP a p = -1 := of_decide_eq_true (List.mem_filter.1 ha).2
    rcases List.mem_cons.1 hb with rfl | hb
    · exact h1
    · exact cmpP_trans h1 (of_decide_eq_true (List.mem_filter.1 hb).2)
theorem le_tr {a b c : Pr} (h1 : cmpP b a ≠ -1) (h2 : cmpP c b ≠ -1) : cmpP c a ≠ -1 := fun h => by
  have := swoP.ntrans c b a (by rw [lt_cmpP]; exact decide_eq_false h2) (by rw [lt_cmpP]; exact decide_eq_false h1)
  rw [lt_cmpP] at this
  exact of_decide_eq_false this h
theorem le_lt {a b c : Pr} (h1 : cmpP b a ≠ -1) (h2 : cmpP b c = -1) : cmpP a c = -1 := by
  rcases cmpP_three a c with h | h | h
  · exact h
  · have := cmpP_eq h; subst this; exact absurd h2 h1
  · exact absurd (cmpP_trans h2 (by rw [cmpP_anti, h])) h1
theorem comp_facts (d : Array Pr) (hs : ∀ i, i + 1 < d.size → cmpP d[i + 1]! d[i]! ≠ -1) : ∀ m, m ≤ d.size → RiseP (Lib.compactUpTo d m) ∧ (∀ x, x ∈ Lib.compactUpTo d m ↔ ∃ j, j < m ∧ d[j]! = x) ∧ (∀ x ∈ Lib.compactUpTo d m, cmpP d[m - 1]! x ≠ -1)
  | 0, _ => ⟨List.Pairwise.nil, fun x => ⟨fun h => (by cases h), fun ⟨j, h, _⟩ => absurd h (Nat.not_lt_zero j)⟩, fun x h => (by cases h)⟩
  | m + 1, hm => by
    obtain ⟨h1, h2, h3⟩ := comp_facts d hs m (by omega)
    have hself : cmpP d[m]! d[m]! ≠ -1 := fun h => cmp_irr h
    have hle : ∀ x ∈ Lib.compactUpTo d m, cmpP d[m]! x ≠ -1 := fun x hx => by
      cases m with
      | zero => cases hx
      | succ k => exact le_tr (h3 x hx) (hs k (by omega))
    rw [Lib.compactUpTo_succ]
    cases hk : Lib.keeps d m with
    | true =>
      rw [if_pos rfl]
      have hlt : ∀ x ∈ Lib.compactUpTo d m, cmpP x d[m]! = -1 := fun x hx => by
        cases m with
        | zero => cases hx
        | succ k =>
          have hkk : d[k + 1]! ≠ d[k]! := by
            have := hk
            unfold Lib.keeps at this
            rw [decide_eq_true_eq] at this
            rcases this with h | h
            · omega
            · exact h
          have hlt0 : cmpP d[k]! d[k + 1]! = -1 := by
            rcases cmpP_three d[k]! d[k + 1]! with h | h | h
            · exact h
            · exact absurd (cmpP_eq h).symm hkk
            · exact absurd (by rw [cmpP_anti, h]) (hs k (by omega))
          exact le_lt (h3 x hx) hlt0
      refine ⟨List.pairwise_append.2 ⟨h1, List.pairwise_singleton _ _, fun a ha b hb => by rw [List.mem_singleton] at hb; subst hb; exact hlt a ha⟩, fun x => ?_, fun x hx => ?_⟩
      · rw [List.mem_append, List.mem_singleton, h2]
        constructor
        · rintro (⟨j, hj, e⟩ | e)
          · exact ⟨j, by omega, e⟩
          · exact ⟨m, by omega, e.symm⟩
        · rintro ⟨j, hj, e⟩
          by_cases hjm : j = m
          · subst hjm; exact .inr e.symm
          · exact .inl ⟨j, by omega, e⟩
      · rw [List.mem_append, List.mem_singleton] at hx
        rcases hx with hx | hx
        · exact hle x hx
        · subst hx; exact hself
    | false =>
      rw [if_neg (by decide), List.append_nil]
      refine ⟨h1, fun x => ?_, fun x hx => hle x hx⟩
      rw [h2]
      constructor
      · rintro ⟨j, hj, e⟩; exact ⟨j, by omega, e⟩
      · rintro ⟨j, hj, e⟩
        by_cases hjm : j = m
        · subst hjm
          have hk2 := hk
          unfold Lib.keeps at hk2
          rw [decide_eq_false_iff_not, not_or] at hk2
          have e2 : d[j]! = d[j - 1]! := Classical.not_not.1 hk2.2
          exact ⟨j - 1, by omega, by rw [← e2]; exact e⟩
        · exact ⟨j, by omega, e⟩
theorem sortP_adj (l : List Pr) : ∀ i, i + 1 < (sortP l).toArray.size → cmpP (sortP l).toArray[i + 1]! (sortP l).toArray[i]! ≠ -1 := fun i hi => by
  have hp : (sortP l).Pairwise fun x y => (!ltOf cmpP y x) = true := List.pairwise_mergeSort leP_trans leP_total l
  have hi' : i + 1 < (sortP l).length := by simpa using hi
  have h := List.pairwise_iff_getElem.1 hp i (i + 1) (by omega) hi' (Nat.lt_succ_self i)
  rw [Bool.not_eq_true', lt_cmpP, decide_eq_false_iff_not] at h
  rw [getElem!_pos (sortP l).toArray (i + 1) hi, getElem!_pos (sortP l).toArray i (by omega), List.getElem_toArray, List.getElem_toArray]
  exact h
theorem comp_rise (l : List Pr) : RiseP (Lib.compactUpTo (sortP l).toArray (sortP l).toArray.size) := (comp_facts _ (sortP_adj l) _ (Nat.le_refl _)).1
theorem comp_mem (l : List Pr) (x : Pr) : x ∈ Lib.compactUpTo (sortP l).toArray (sortP l).toArray.size ↔ x ∈ l := by
  rw [(comp_facts _ (sortP_adj l) _ (Nat.le_refl _)).2.1 x]
  have hp : (sortP l).Perm l := List.mergeSort_perm l _
  rw [← hp.mem_iff]
  constructor
  · rintro ⟨j, hj, e⟩
    rw [getElem!_pos (sortP l).toArray j hj, List.getElem_toArray] at e
    subst e
    exact List.getElem_mem _
  · intro h
    obtain ⟨j, hj, e⟩ := List.mem_iff_getElem.1 h
    refine ⟨j, by simpa using hj, ?_⟩
    rw [getElem!_pos (sortP l).toArray j (by simpa using hj), List.getElem_toArray]
    exact e
theorem ned1_rise (e : Ev) : RiseP (ned1 e) := withP_rise (withP_rise (List.pairwise_singleton _ _) _) _
theorem ned3_rise (e : Ev) : RiseP (ned3 e) := by
  unfold ned3
  dsimp only
  split
  · exact withP_rise (withP_rise (ned1_rise e) _) _
  · exact withP_rise (ned1_rise e) _
theorem ned4_rise (e : Ev) : RiseP (ned4 e) := by
  unfold ned4
  split
  · exact withP_rise (ned3_rise e) _
  · exact ned3_rise e
theorem ned5_rise (e : Ev) : RiseP (ned5 e) := by
  unfold ned5
  split
  · exact withP_rise (ned4_rise e) _
  · exact ned4_rise e
theorem ned1_mem (e : Ev) (x : Pr) : x ∈ ned1 e ↔ x ∈ base3 e := by
  unfold ned1 base3
  simp only [withP_mem, List.mem_cons, List.not_mem_nil, or_false]
  grind
theorem ned5_mem (e : Ev) (x : Pr) : x ∈ ned5 e ↔ x ∈ base3 e ++ omF e := by
  have h1 := ned1_mem e x
  rw [List.mem_append, ← h1]
  clear h1
  unfold ned5 ned4 ned3 omF
  dsimp only
  generalize textV e.ct [109, 101, 109, 98, 101, 114, 115, 104, 105, 112] = how
  generalize textV e.ct [106, 111, 105, 110, 95, 97, 117, 116, 104, 111, 114, 105, 115, 101, 100, 95, 118, 105, 97, 95, 117, 115, 101, 114, 115, 95, 115, 101, 114, 118, 101, 114] = by_
  generalize tokV e.ct = tk
  have n1 : ¬ ([106, 111, 105, 110] : List UInt8) = [105, 110, 118, 105, 116, 101] := by decide
  have n2 : ¬ ([106, 111, 105, 110] : List UInt8) = [107, 110, 111, 99, 107] := by decide
  have n3 : ¬ ([105, 110, 118, 105, 116, 101] : List UInt8) = [107, 110, 111, 99, 107] := by decide
  generalize ([106, 111, 105, 110] : List UInt8) = jo at *
  generalize ([105, 110, 118, 105, 116, 101] : List UInt8) = iv at *
  generalize ([107, 110, 111, 99, 107] : List UInt8) = kn at *
  by_cases c1 : how = jo
  · subst c1
    rw [if_neg (show ¬ (how = iv ∧ tk ≠ []) from fun h => n1 h.1), if_pos rfl, if_pos (show how = how ∨ how = iv ∨ how = kn from .inl rfl)]
    by_cases c2 : by_ = []
    · rw [if_neg (fun h => h.2 c2), if_pos c2]
      simp only [withP_mem, List.mem_append, List.mem_cons, List.not_mem_nil, or_false]
      grind
    · rw [if_pos ⟨rfl, c2⟩, if_neg c2]
      simp only [withP_mem, List.mem_append, List.mem_cons, List.not_mem_nil, or_false]
      grind
  · rw [if_neg (show ¬ (how = jo ∧ by_ ≠ []) from fun h => c1 h.1), if_neg c1]
    by_cases c2 : how = iv
    · subst c2
      rw [if_pos (show how = jo ∨ how = how ∨ how = kn from .inr (.inl rfl)), if_pos rfl]
      by_cases c3 : tk = []
      · rw [if_neg (fun h => h.2 c3), if_pos c3]
        simp only [withP_mem, List.mem_append, List.mem_cons, List.not_mem_nil, or_false]
        grind
      · rw [if_pos ⟨rfl, c3⟩, if_neg c3]
        simp only [withP_mem, List.mem_append, List.mem_cons, List.not_mem_nil, or_false]
        grind
    · rw [if_neg (show ¬ (how = iv ∧ tk ≠ []) from fun h => c2 h.1), if_neg c2]
      by_cases c3 : how = kn
      · subst c3
        rw [if_pos (show how = jo ∨ how = iv ∨ how = how from .inr (.inr rfl)), if_pos rfl]
        simp only [withP_mem, List.mem_append, List.mem_cons, List.not_mem_nil, or_false]
        grind
      · rw [if_neg (show ¬ (how = jo ∨ how = iv ∨ how = kn) from fun h => h.elim c1 (fun h => h.elim c2 c3)), if_neg c3]
        simp only [withP_mem, List.mem_append, List.mem_cons, List.not_mem_nil, or_false]
        grind
theorem needed_one (e : Ev) : neededP e = nedF e := by
  unfold neededP nedF allP
  by_cases hc : e.ty = [109, 46, 114, 111, 111, 109, 46, 99, 114, 101, 97, 116, 101]
  · rw [if_pos hc, if_pos hc]
  rw [if_neg hc, if_neg hc]
  by_cases hm : e.ty = [109, 46, 114, 111, 111, 109, 46, 109, 101, 109, 98, 101, 114]
  · rw [if_pos hm, if_pos hm]
    exact rise_ext (comp_rise _) (ned5_rise e) (fun x => by rw [comp_mem, ned5_mem])
  · rw [if_neg hm, if_neg hm, List.append_nil]
    exact rise_ext (comp_rise _) (ned1_rise e) (fun x => by rw [comp_mem, ned1_mem])
end Go.Proofs.YtpleminoiodmgaaDoor
namespace Go.Proofs.YtpleminoiodmgaaDoor
open Go.ChangeShapes Go.WideShapes Go.ChangeAt Go.RowKit Go.IntWalk
set_option linter.unusedVariables false
set_option maxRecDepth 100000

set_option maxHeartbeats 4000000 in
theorem alive_calls (w : World) : Calls Tryd.prog 6 #[] w fun e w' => e = .returned (.bool true) ∧ Below w.heap.size w w' := by
  go_enter Tryd.func6, Tryd.ntmps6
  go_wp2_with fail
  refine (needed_other [64, 97, 58, 120] [109, 46, 114, 111, 111, 109, 46, 109, 101, 115, 115, 97, 103, 101] _ _ _ _ _ _ _ _ _ _ _ _ _ _ _ w (by decide) (by decide)).mono ?_
  rintro e w1 ⟨⟨g, cap, he, h1, h2, h3, h4, h5⟩, b1⟩
  have he2 : e = .returned (.slice (some ⟨g, 0, none⟩) 3 cap) := he
  subst he2
  have h33 : 3 ≤ cap := h3
  have c2 := h5 1 (by show 1 < 3; decide) 0 _ rfl
  have c3 := h5 1 (by show 1 < 3; decide) 1 _ rfl
  have c4 := h5 2 (by show 2 < 3; decide) 0 _ rfl
  have c5 := h5 2 (by show 2 < 3; decide) 1 _ rfl
  have k2 : w1.cell? ⟨g, 2, none⟩ = some (.string ⟨#[109, 46, 114, 111, 111, 109, 46, 109, 101, 109, 98, 101, 114]⟩) := c2
  have k3 : w1.cell? ⟨g, 3, none⟩ = some (.string ⟨#[64, 97, 58, 120]⟩) := c3
  have k4 : w1.cell? ⟨g, 4, none⟩ = some (.string ⟨#[109, 46, 114, 111, 111, 109, 46, 112, 111, 119, 101, 114, 95, 108, 101, 118, 101, 108, 115]⟩) := c4
  have k5 : w1.cell? ⟨g, 5, none⟩ = some (.string ⟨#[]⟩) := c5
  have HB := Lib.hid b1
  clear h3 h5 c2 c3 c4 c5 b1 he
  go_wp2_with fail
  go_ret
  exact ⟨rfl, HB.out⟩
end Go.Proofs.YtpleminoiodmgaaDoor
namespace Go.Proofs.YtpleminoiodmgaaDoor
open Go.ChangeShapes Go.WideShapes Go.ChangeAt Go.RowKit Go.IntWalk
set_option linter.unusedVariables false
set_option maxRecDepth 100000

theorem size_evE (e : Ev) (a : Ea) : (Tryd.prog.info? 29).map (·.size) = some (evC e a).length := by kernel_rfl
/-- A row of pairs that a call answers. -/
def ftP (l : List Pr) : Lft := ⟨fun v => ∃ A c, v = .slice A l.length c, fun v w => ∃ A c, v = .slice A l.length c ∧ LP w A l.length c l, fun v w w' ⟨A, c, e, h⟩ hb => ⟨A, c, e, h.below hb⟩⟩
theorem ftP_of {l : List Pr} {w w' : World} {en : Ending} (h : NedPost l w en w') : ∃ v, en = .returned v ∧ (ftP l).R v ∧ (ftP l).M v w' ∧ Below w.heap.size w w' := by
  obtain ⟨⟨A, c, e, hl⟩, hb⟩ := h
  exact ⟨_, e, ⟨A, c, rfl⟩, ⟨A, c, rfl, hl⟩, hb⟩
theorem ftP_in {l : List Pr} {w : World} {A : Option Addr} {c : Nat} (h : (ftP l).M (.slice A l.length c) w) : LP w A l.length c l := by
  obtain ⟨A1, c1, e, h⟩ := h
  injection e with e1 e2 e3
  subst e1 e3
  exact h
set_option maxHeartbeats 16000000 in
theorem pickNeeds_walk (e : Ev) (a : Ea) (w : World) (he : EOk w e a) (hT : TabJ w) : Calls Tryd.prog 3 #[.agg (evC e a).toArray] w fun en w' => en = .returned (.bool true) ∧ Below w.heap.size w w' := by
  have b0 : Below w.heap.size w (w.alloc (.cells (evC e a).toArray 29)) := (Below.refl _ _).alloc (Nat.le_refl _) _
  have HB0 := Lib.hid b0
  have HX := Lib.hid (Blk.new w (evC e a) 29)
  have HE := Lib.hid he
  have HT := Lib.hid hT
  clear he hT b0
  go_enter Tryd.func3, Tryd.ntmps3
  go_wp2_with fail
  refine (alive_calls _).mono ?_
  rintro en w1 ⟨rfl, hb⟩
  have HB1 := Lib.hid (HB0.out.then_ hb)
  have hx := HX.out.later hb
  have HX1 := Lib.hid hx
  have HG := Lib.hid (great0_calls e a w1 (HE.out.below HB1.out) (HT.out.below HB1.out))
  clear hb hx
  have HU := Tryd.underlying29
  have HSZ := size_evE e a
  go_wp2_with (refine wpList_load_mid rfl 29 _ rfl w.heap.size 0 rfl (evC e a) _ HX1.out.rng HU rfl HSZ ?_)
  refine HG.out.mono ?_
  rintro en w2 ⟨r, rfl, hr, hb⟩
  have HB2 := Lib.hid (HB1.out.then_ hb)
  have hx := HX1.out.later hb
  have HX2 := Lib.hid hx
  clear hb HG
  cases r with
  | true =>
    clear hr hx
    go_wp2_with fail
    go_ret
    exact ⟨rfl, HB2.out⟩
  | false =>
    obtain ⟨hgf, hri⟩ := hr rfl
    have hbk : e.ct.bulk ≤ 50000 := by obtain ⟨T, _, _, h, _⟩ := hgf; omega
    have hlt0 : w.heap.size < w2.heap.size := HX2.out.lt
    obtain ⟨l, hl⟩ : ∃ l, nedF e = l := ⟨_, rfl⟩
    have hc1 : ∀ W, Below w2.heap.size w2 W → Calls Tryd.prog 8 #[.agg (evC e a).toArray] W (fun en W' => ∃ v, en = .returned v ∧ (ftP l).R v ∧ (ftP l).M v W' ∧ Below W.heap.size W W') := fun W hW => by
      refine (needed_calls e a W (HE.out.below (HB2.out.then_ hW)) hri hbk).mono ?_
      rw [needed_one e, hl]
      exact fun en W' h => ftP_of h
    have hc2 : ∀ W, Below w2.heap.size w2 W → Calls Tryd.prog 9 #[.agg (evC e a).toArray] W (fun en W' => ∃ v, en = .returned v ∧ (ftP l).R v ∧ (ftP l).M v W' ∧ Below W.heap.size W W') := fun W hW => by
      refine (refneeded_calls e a W (HE.out.below (HB2.out.then_ hW))).mono ?_
      rw [hl]
      exact fun en W' h => ftP_of h
    have HC1 := Lib.hid hc1
    have HC2 := Lib.hid hc2
    have HL0 := Lib.hid hlt0
    clear hr hgf hri hbk hc1 hc2 hl hx hlt0
    go_upto_region 5 with fail
    apply wp_region_lkt 4 (by kernel_rfl) (by kernel_rfl)
    simp only [List.take_succ_cons, List.take_zero, List.drop_succ_cons, List.drop_zero]
    apply lk_load 29 (.tmp 1) rfl w.heap.size 0 (evC e a) _ HX2.out.rng HL0.out Tryd.underlying29 rfl (size_evE e a) rfl rfl
    simp only [Act.put, List.setIfInBounds_toArray, List.set_cons_succ, List.set_cons_zero]
    apply lk_call (ftP l) 8 #[.agg (evC e a).toArray] rfl (by intro W; go_simp) HC1.out
    rintro _ ⟨A1, c1, rfl⟩
    simp only [Act.put, List.setIfInBounds_toArray, List.set_cons_succ, List.set_cons_zero]
    apply lk_load 29 (.tmp 1) rfl w.heap.size 0 (evC e a) _ HX2.out.rng HL0.out Tryd.underlying29 rfl (size_evE e a) rfl rfl
    simp only [Act.put, List.setIfInBounds_toArray, List.set_cons_succ, List.set_cons_zero]
    apply lk_call (ftP l) 9 #[.agg (evC e a).toArray] rfl (by intro W; go_simp) HC2.out
    rintro _ ⟨A2, c2, rfl⟩
    simp only [Act.put, List.setIfInBounds_toArray, List.set_cons_succ, List.set_cons_zero]
    refine lk_nil (Fs := []) ?_
    intro w5 hbw hz
    obtain ⟨⟨⟨⟨-, -⟩, hq1⟩, -⟩, hq2⟩ := hz
    clear HC1 HC2 HX HX1 HX2 HL0
    as_aux_lemma =>
      have hl1 : LP w5 A1 l.length c1 l := ftP_in hq1
      have hl2 : LP w5 A2 l.length c2 l := ftP_in hq2
      generalize (evC e a).toArray = zv
      have HL1 := Lib.hid hl1
      have HL2 := Lib.hid hl2
      have HB5 := Lib.hid (HB2.out.then_ hbw)
      have hcc1 := hl1.2.2.1
      have hcm1 := hl1.2.2.2
      have hcc2 := hl2.2.2.1
      have hcm2 := hl2.2.2.2
      clear hl1 hl2 hbw hq1 hq2
      obtain ⟨n, hn⟩ : ∃ n, l.length = n := ⟨_, rfl⟩
      have HN := Lib.hid hn
      rw [hn] at HL1 HL2 hcc1 hcc2 ⊢
      clear hn
      have hnm : n ≤ 9223372036854775807 := Nat.le_trans hcc1 hcm1
      go_wp2_with fail
      go_loopw [21] (fun i wr => ∃ k : Nat, k ≤ n ∧ i = .int .i64 (k : Int) ∧ Hid (Below w5.heap.size w5 wr)) (fun i _ => n - (intOf i).toNat)
      case atStart => exact ⟨0, Nat.zero_le _, rfl, Lib.hid (Below.refl _ _)⟩
      case round => as_aux_lemma =>
        obtain ⟨wq, hwq⟩ : ∃ x, x = wr := ⟨_, rfl⟩
        subst hwq
        obtain ⟨k, hk, rfl, hbe⟩ := hrel
        by_cases hlt : k < n
        · obtain ⟨b1, o1, rfl, hb1, r1⟩ := pr_row HL1.out.1 hbe.out (k := k) (by rw [HN.out]; exact hlt)
          obtain ⟨b2, o2, rfl, hb2, r2⟩ := pr_row HL2.out.1 hbe.out (k := k) (by rw [HN.out]; exact hlt)
          obtain ⟨x, hx⟩ : ∃ x, l[k]'(by rw [HN.out]; exact hlt) = x := ⟨_, rfl⟩
          rw [hx] at r1 r2
          obtain ⟨x1, x2⟩ := x
          dsimp only at r1 r2
          have hnk : ¬ n ≤ k := by omega
          clear hx
          go_upto_region 11 with fail
          apply wp_region_ls (by kernel_rfl) (by kernel_rfl)
          apply ls_move (.slice (some ⟨b1, o1, none⟩) n c1) (.tmp 3) rfl rfl rfl
          simp only [Act.put, List.setIfInBounds_toArray, List.set_cons_succ, List.set_cons_zero]
          apply ls_move (.int .i64 (k : Int)) (.tmp 5) rfl rfl rfl
          simp only [Act.put, List.setIfInBounds_toArray, List.set_cons_succ, List.set_cons_zero]
          apply ls_pure (.pointer (some ⟨b1, o1 + k * 2, none⟩)) rfl (by intro W; go_simp)
          simp only [Act.put, List.setIfInBounds_toArray, List.set_cons_succ, List.set_cons_zero]
          apply ls_load 35 (.tmp 26) rfl b1 (o1 + k * 2) _ _ r1 hb1 Tryd.underlying35 rfl size_pr rfl rfl
          simp only [Act.put, List.setIfInBounds_toArray, List.set_cons_succ, List.set_cons_zero]
          apply ls_move (.slice (some ⟨b2, o2, none⟩) n c2) (.tmp 4) rfl rfl rfl
          simp only [Act.put, List.setIfInBounds_toArray, List.set_cons_succ, List.set_cons_zero]
          apply ls_move (.int .i64 (k : Int)) (.tmp 5) rfl rfl rfl
          simp only [Act.put, List.setIfInBounds_toArray, List.set_cons_succ, List.set_cons_zero]
          apply ls_pure (.pointer (some ⟨b2, o2 + k * 2, none⟩)) rfl (by intro W; go_simp)
          simp only [Act.put, List.setIfInBounds_toArray, List.set_cons_succ, List.set_cons_zero]
          apply ls_load 35 (.tmp 30) rfl b2 (o2 + k * 2) _ _ r2 hb2 Tryd.underlying35 rfl size_pr rfl rfl
          simp only [Act.put, List.setIfInBounds_toArray, List.set_cons_succ, List.set_cons_zero]
          apply ls_pure (.bool false) rfl (by intro W; go_simp)
          simp only [Act.put, List.setIfInBounds_toArray, List.set_cons_succ, List.set_cons_zero]
          refine ls_nil (Rs := []) ?_
          intro w6 b6
          have HB6 := Lib.hid (hbe.out.then_ b6)
          clear b6 r1 r2
          go_wp2_with fail
          exact ⟨⟨k + 1, by omega, by go_num, HB6⟩, by simp [intOf]; omega⟩
        · obtain rfl : n = k := by omega
          have HBF := Lib.hid (HB5.out.then_ hbe.out)
          go_wp2_with fail
          go_ret
          exact ⟨rfl, HBF.out⟩
end Go.Proofs.YtpleminoiodmgaaDoor
