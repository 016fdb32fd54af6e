/- Texts put together: PnS PnT. -/
import Derived.Test.YtpleminoiodmgaaDoorZ6704ab8ff6
import Derived.Test.YtpleminoiodmgaaDoorZd9b9680364
namespace Go.Proofs.YtpleminoiodmgaaDoor
open Go.ChangeShapes Go.WideShapes Go.ChangeAt Go.RowKit Go.IntWalk
set_option linter.unusedVariables false
set_option maxRecDepth 100000

def selF (xs : List Slt) : List Pr → List (List UInt8)
  | [] => []
  | p :: ps => (if (getF xs p).2 then [(getF xs p).1] else []) ++ selF xs ps
theorem selF_app (xs : List Slt) : ∀ (a b : List Pr), selF xs (a ++ b) = selF xs a ++ selF xs b
  | [], b => rfl
  | p :: a, b => by simp only [List.cons_append, selF, selF_app xs a b, List.append_assoc]
theorem selF_len (xs : List Slt) : ∀ ps : List Pr, (selF xs ps).length ≤ ps.length
  | [] => Nat.le_refl _
  | p :: ps => by
    have := selF_len xs ps
    simp only [selF, List.length_append, List.length_cons]
    split <;> simp <;> omega
theorem selF_yes {xs : List Slt} {ps : List Pr} {k : Nat} {p : Pr} (hk : ps[k]? = some p) (h : (getF xs p).2 = true) : selF xs (ps.take (k + 1)) = selF xs (ps.take k) ++ [(getF xs p).1] := by
  rw [List.take_add_one, hk, Option.toList_some, selF_app]; simp [selF, h]
theorem selF_no {xs : List Slt} {ps : List Pr} {k : Nat} {p : Pr} (hk : ps[k]? = some p) (h : (getF xs p).2 = false) : selF xs (ps.take (k + 1)) = selF xs (ps.take k) := by
  rw [List.take_add_one, hk, Option.toList_some, selF_app]; simp [selF, h]
theorem nedF_len (e : Ev) : (nedF e).length ≤ 1000 := by
  have h0 := withP_len [([109, 46, 114, 111, 111, 109, 46, 99, 114, 101, 97, 116, 101], [])] ([109, 46, 114, 111, 111, 109, 46, 112, 111, 119, 101, 114, 95, 108, 101, 118, 101, 108, 115], [])
  have h1 : (ned1 e).length ≤ 7 := by unfold ned1; refine Nat.le_trans (withP_len _ _) ?_; simp only [List.length_cons, List.length_nil] at h0; omega
  have h3 : (ned3 e).length ≤ 31 := by
    unfold ned3
    have a := fun p => withP_len (ned1 e) p
    dsimp only
    split
    · refine Nat.le_trans (withP_len _ _) ?_
      have := a ([109, 46, 114, 111, 111, 109, 46, 109, 101, 109, 98, 101, 114], e.ky); omega
    · have := a ([109, 46, 114, 111, 111, 109, 46, 109, 101, 109, 98, 101, 114], e.ky); omega
  have h4 : (ned4 e).length ≤ 63 := by
    unfold ned4
    split
    · refine Nat.le_trans (withP_len _ _) ?_; omega
    · omega
  have h5 : (ned5 e).length ≤ 127 := by
    unfold ned5
    split
    · refine Nat.le_trans (withP_len _ _) ?_; omega
    · omega
  unfold nedF
  split
  · simp
  · split <;> omega
theorem infoST : (Tryd.prog.info? 9).map (fun i => (i.zero, i.size, i.bytes)) = some (some (.string ⟨#[]⟩), 1, 16) := by kernel_rfl
def SelPost (l : List (List UInt8)) (w : World) (en : Ending) (w' : World) : Prop := ∃ v, en = .returned v ∧ OwnVs w.heap.size 9 w' v (l.map strV) ∧ Below w.heap.size w w'
theorem OwnVs.grown {base : Nat} {E : TypeId} {w0 w w' : World} {v : Value} {vs : List Value} (hb : Below base w0 w) (h : OwnVs base E w v vs) (hg : w.grownBy w' v.ownBlock) (hw : base ≤ w.heap.size) : Below base w0 w' := by
  refine ⟨hg.os.trans hb.os, hg.tape.trans hb.tape, hg.output.trans hb.output, Nat.le_trans hb.size hg.size, fun k hk => ?_⟩
  refine (hg.block k (Nat.lt_of_lt_of_le hk hw) (fun e => ?_)).trans (hb.block k hk)
  have := (h.lt k e.symm).1
  omega
set_option maxHeartbeats 16000000 in
theorem select_calls (e : Ev) (a : Ea) (A : Option Addr) (n c : Nat) (xs : List Slt) (w : World) (he : EOk w e a) (hri : risV e.ct = true) (hbk : e.ct.bulk ≤ 50000) (hx : Sls w A n c xs) (hnb : n ≤ 1000000) (hr : Rise xs) : Calls Tryd.prog 12 #[.agg (evC e a).toArray, .slice A n c] w (SelPost (selF xs (nedF e)) w) := by
  have b0 : Below w.heap.size w (w.alloc (.cells (evC e a).toArray 29)) := (Below.refl _ _).alloc (Nat.le_refl _) _
  have HB0 := Lib.hid b0
  have HX := Lib.hid (Blk.new w (evC e a) 29)
  have HS := Lib.hid hx
  obtain ⟨ps, hps⟩ : ∃ ps, nedF e = ps := ⟨_, rfl⟩
  have HW := Lib.hid (by have h := needed_calls e a (w.alloc (.cells (evC e a).toArray 29)) (he.below b0) hri hbk; rw [needed_one e] at h; exact h)
  rw [hps] at HW ⊢
  have HL : Hid (ps.length ≤ 1000) := Lib.hid (by rw [← hps]; exact nedF_len e)
  have HRI := Lib.hid (And.intro hnb hr)
  clear hnb hr
  clear hps hx b0 he
  go_enter Tryd.func12, Tryd.ntmps12
  have HU := Tryd.underlying29
  have HSZ := size_evE e a
  go_wp2_with (refine wpList_load_mid rfl 29 _ rfl w.heap.size 0 rfl (evC e a) _ HX.out.rng HU rfl HSZ ?_)
  refine HW.out.mono ?_
  rintro en w1 ⟨⟨PA, pc, rfl, hl⟩, hb⟩
  have HB1 := Lib.hid (HB0.out.then_ hb)
  have HP := Lib.hid hl
  obtain ⟨m, hm⟩ : ∃ m, ps.length = m := ⟨_, rfl⟩
  have HM := Lib.hid hm
  have hmm : m ≤ 9223372036854775807 := by rw [← hm]; exact Nat.le_trans hl.2.2.1 hl.2.2.2
  rw [hm] at HP HL ⊢
  clear hl hb hm HW HX HB0
  go_wp2_with fail
  go_loopw [5, 13] (fun o i wr => ∃ (k : Nat) (v : Value), k ≤ m ∧ v = o ∧ i = .int .i64 (k : Int) ∧ Hid (OwnVs w1.heap.size 9 wr v ((selF xs (ps.take k)).map strV) ∧ Below w1.heap.size w1 wr)) (fun o i _ => m - (intOf i).toNat)
  case atStart => exact ⟨0, .slice none 0 0, Nat.zero_le _, rfl, rfl, Lib.hid ⟨OwnVs.nil _ _ _, Below.refl _ _⟩⟩
  case round =>
    obtain ⟨k, v, hk, rfl, rfl, HO⟩ := hrel
    by_cases hp : k < m
    · have hkx : k < ps.length := by rw [HM.out]; exact hp
      obtain ⟨b0, off, rfl, hb0, r0⟩ := pr_row HP.out.1 HO.out.2 hkx
      have hgx := List.getElem?_eq_getElem hkx
      obtain ⟨x, hxx⟩ : ∃ x, ps[k] = x := ⟨_, rfl⟩
      rw [hxx] at r0 hgx
      obtain ⟨x1, x2⟩ := x
      dsimp only at r0
      have HXK := Lib.hid hgx
      have c0 := r0 0 _ rfl
      have c1 := r0 1 _ rfl
      rw [Nat.add_zero] at c0
      clear r0 hxx hkx hgx
      go_upto_region 5 with fail
      obtain ⟨wv, hwv⟩ : ∃ x, x = wr.alloc (.cells #[.string ⟨x1.toArray⟩, .string ⟨x2.toArray⟩] 35) := ⟨_, rfl⟩
      rw [← hwv]
      have hsb : Blk wv wr.heap.size 35 [.string ⟨x1.toArray⟩, .string ⟨x2.toArray⟩] := by rw [hwv]; exact Blk.new wr _ _
      have HV : Hid (OwnVs w1.heap.size 9 wv v ((selF xs (ps.take k)).map strV) ∧ Below w1.heap.size w1 wv) := Lib.hid (by rw [hwv]; exact ⟨HO.out.1.alloc _, HO.out.2.alloc HO.out.2.size _⟩)
      have HG := Lib.hid (getSl_calls A n c xs (x1, x2) wv (HS.out.below (HB1.out.then_ HV.out.2)) HRI.out.1 HRI.out.2)
      obtain ⟨nm, tb, hg⟩ : ∃ nm tb, getF xs (x1, x2) = (nm, tb) := ⟨_, _, rfl⟩
      unfold GetSlPost strV at HG
      rw [hg] at HG
      have HF := Lib.hid hg
      clear hg c0 c1 hwv HO
      have y0 := hsb.cell (k := 0) rfl
      have y1 := hsb.cell (k := 1) rfl
      dsimp only at HG
      go_wp2_with fail
      refine HG.out.mono ?_
      rintro en w4 ⟨rfl, b4⟩
      clear y0 y1 HG hsb
      have H4 := Lib.hid (And.intro (HV.out.1.below b4 (Nat.le_refl _)) (HV.out.2.then_ b4))
      clear b4 HV
      cases tb with
      | true =>
        have HN : Hid ((selF xs (ps.take k)).length + 1 ≤ 1000000) := Lib.hid (by
          have h1 := selF_len xs (ps.take k)
          have h2 := HL.out
          simp only [List.length_take] at h1
          omega)
        have ho1 : ∀ u ∈ [strV nm], u.oneCell' = true := by simp [strV, Value.oneCell']
        have h63 : ((selF xs (ps.take k)).map strV).length + 1 ≤ maxLen := by rw [List.length_map]; exact Nat.le_trans HN.out (by decide)
        have hby : (((selF xs (ps.take k)).map strV).length + 1) * 16 ≤ 140737488355328 := by rw [List.length_map]; have := HN.out; omega
        have HA := Lib.hid (And.intro ho1 (And.intro h63 hby))
        clear ho1 h63 hby
        go_wp2_with (refine wpList_append_lits rfl (.tmp 24) (.tmp 26) 26 9 Tryd.underlying26 infoST rfl rfl w1.heap.size v _ rfl H4.out.1 [strV nm] 9 _ rfl 1 rfl (Lib.hid rfl) HA.out.1 HA.out.2.1 HA.out.2.2 H4.out.2.size ?_; intro v2 w5 h5 g5)
        have H5 := Lib.hid (And.intro h5 (OwnVs.grown H4.out.2 H4.out.1 g5 H4.out.2.size))
        clear h5 g5
        go_wp2_with fail
        refine ⟨⟨k + 1, v2, by omega, rfl, by go_num, Lib.hid ⟨?_, H5.out.2⟩⟩, by simp [intOf]; omega⟩
        rw [selF_yes HXK.out (by rw [HF.out]), HF.out, List.map_append]
        exact H5.out.1
      | false =>
        go_wp2_with fail
        refine ⟨⟨k + 1, v, by omega, rfl, by go_num, Lib.hid ⟨?_, H4.out.2⟩⟩, by simp [intOf]; omega⟩
        rw [selF_no HXK.out (by rw [HF.out])]
        exact H4.out.1
    · obtain rfl : m = k := by omega
      have HFIN := HO
      clear HO
      go_wp2_with fail
      go_ret
      have h1 := HFIN.out.1
      rw [List.take_of_length_le (by rw [HM.out]; exact Nat.le_refl _)] at h1
      refine ⟨v, rfl, ⟨h1.1, ?_⟩, HB1.out.then_ HFIN.out.2⟩
      rcases h1.2 with h | ⟨g, cap, cur, e, hb, r⟩
      · exact .inl h
      · exact .inr ⟨g, cap, cur, e, Nat.le_trans HB1.out.size hb, r⟩
set_option maxHeartbeats 16000000 in
theorem refselect_calls (e : Ev) (a : Ea) (A : Option Addr) (n c : Nat) (xs : List Slt) (w : World) (he : EOk w e a) (hx : Sls w A n c xs) : Calls Tryd.prog 13 #[.agg (evC e a).toArray, .slice A n c] w (SelPost (selF xs (nedF e)) w) := by
  have b0 : Below w.heap.size w (w.alloc (.cells (evC e a).toArray 29)) := (Below.refl _ _).alloc (Nat.le_refl _) _
  have HB0 := Lib.hid b0
  have HX := Lib.hid (Blk.new w (evC e a) 29)
  have HS := Lib.hid hx
  obtain ⟨ps, hps⟩ : ∃ ps, nedF e = ps := ⟨_, rfl⟩
  have HW := Lib.hid (refneeded_calls e a (w.alloc (.cells (evC e a).toArray 29)) (he.below b0))
  rw [hps] at HW ⊢
  have HL : Hid (ps.length ≤ 1000) := Lib.hid (by rw [← hps]; exact nedF_len e)
  clear hps hx b0 he
  go_enter Tryd.func13, Tryd.ntmps13
  have HU := Tryd.underlying29
  have HSZ := size_evE e a
  go_wp2_with (refine wpList_load_mid rfl 29 _ rfl w.heap.size 0 rfl (evC e a) _ HX.out.rng HU rfl HSZ ?_)
  refine HW.out.mono ?_
  rintro en w1 ⟨⟨PA, pc, rfl, hl⟩, hb⟩
  have HB1 := Lib.hid (HB0.out.then_ hb)
  have HP := Lib.hid hl
  obtain ⟨m, hm⟩ : ∃ m, ps.length = m := ⟨_, rfl⟩
  have HM := Lib.hid hm
  have hmm : m ≤ 9223372036854775807 := by rw [← hm]; exact Nat.le_trans hl.2.2.1 hl.2.2.2
  rw [hm] at HP HL ⊢
  clear hl hb hm HW HX HB0
  go_wp2_with fail
  go_loopw [5, 13] (fun o i wr => ∃ (k : Nat) (v : Value), k ≤ m ∧ v = o ∧ i = .int .i64 (k : Int) ∧ Hid (OwnVs w1.heap.size 9 wr v ((selF xs (ps.take k)).map strV) ∧ Below w1.heap.size w1 wr)) (fun o i _ => m - (intOf i).toNat)
  case atStart => exact ⟨0, .slice none 0 0, Nat.zero_le _, rfl, rfl, Lib.hid ⟨OwnVs.nil _ _ _, Below.refl _ _⟩⟩
  case round =>
    obtain ⟨k, v, hk, rfl, rfl, HO⟩ := hrel
    by_cases hp : k < m
    · have hkx : k < ps.length := by rw [HM.out]; exact hp
      obtain ⟨b0, off, rfl, hb0, r0⟩ := pr_row HP.out.1 HO.out.2 hkx
      have hgx := List.getElem?_eq_getElem hkx
      obtain ⟨x, hxx⟩ : ∃ x, ps[k] = x := ⟨_, rfl⟩
      rw [hxx] at r0 hgx
      obtain ⟨x1, x2⟩ := x
      dsimp only at r0
      have HXK := Lib.hid hgx
      have c0 := r0 0 _ rfl
      have c1 := r0 1 _ rfl
      rw [Nat.add_zero] at c0
      clear r0 hxx hkx hgx
      go_upto_region 5 with fail
      obtain ⟨wv, hwv⟩ : ∃ x, x = wr.alloc (.cells #[.string ⟨x1.toArray⟩, .string ⟨x2.toArray⟩] 35) := ⟨_, rfl⟩
      rw [← hwv]
      have hsb : Blk wv wr.heap.size 35 [.string ⟨x1.toArray⟩, .string ⟨x2.toArray⟩] := by rw [hwv]; exact Blk.new wr _ _
      have HV : Hid (OwnVs w1.heap.size 9 wv v ((selF xs (ps.take k)).map strV) ∧ Below w1.heap.size w1 wv) := Lib.hid (by rw [hwv]; exact ⟨HO.out.1.alloc _, HO.out.2.alloc HO.out.2.size _⟩)
      have HG := Lib.hid (refGetSl_calls A n c xs (x1, x2) wv (HS.out.below (HB1.out.then_ HV.out.2)))
      obtain ⟨nm, tb, hg⟩ : ∃ nm tb, getF xs (x1, x2) = (nm, tb) := ⟨_, _, rfl⟩
      unfold GetSlPost strV at HG
      rw [hg] at HG
      have HF := Lib.hid hg
      clear hg c0 c1 hwv HO
      have y0 := hsb.cell (k := 0) rfl
      have y1 := hsb.cell (k := 1) rfl
      dsimp only at HG
      go_wp2_with fail
      refine HG.out.mono ?_
      rintro en w4 ⟨rfl, b4⟩
      clear y0 y1 HG hsb
      have H4 := Lib.hid (And.intro (HV.out.1.below b4 (Nat.le_refl _)) (HV.out.2.then_ b4))
      clear b4 HV
      cases tb with
      | true =>
        have HN : Hid ((selF xs (ps.take k)).length + 1 ≤ 1000000) := Lib.hid (by
          have h1 := selF_len xs (ps.take k)
          have h2 := HL.out
          simp only [List.length_take] at h1
          omega)
        have ho1 : ∀ u ∈ [strV nm], u.oneCell' = true := by simp [strV, Value.oneCell']
        have h63 : ((selF xs (ps.take k)).map strV).length + 1 ≤ maxLen := by rw [List.length_map]; exact Nat.le_trans HN.out (by decide)
        have hby : (((selF xs (ps.take k)).map strV).length + 1) * 16 ≤ 140737488355328 := by rw [List.length_map]; have := HN.out; omega
        have HA := Lib.hid (And.intro ho1 (And.intro h63 hby))
        clear ho1 h63 hby
        go_wp2_with (refine wpList_append_lits rfl (.tmp 24) (.tmp 26) 26 9 Tryd.underlying26 infoST rfl rfl w1.heap.size v _ rfl H4.out.1 [strV nm] 9 _ rfl 1 rfl (Lib.hid rfl) HA.out.1 HA.out.2.1 HA.out.2.2 H4.out.2.size ?_; intro v2 w5 h5 g5)
        have H5 := Lib.hid (And.intro h5 (OwnVs.grown H4.out.2 H4.out.1 g5 H4.out.2.size))
        clear h5 g5
        go_wp2_with fail
        refine ⟨⟨k + 1, v2, by omega, rfl, by go_num, Lib.hid ⟨?_, H5.out.2⟩⟩, by simp [intOf]; omega⟩
        rw [selF_yes HXK.out (by rw [HF.out]), HF.out, List.map_append]
        exact H5.out.1
      | false =>
        go_wp2_with fail
        refine ⟨⟨k + 1, v, by omega, rfl, by go_num, Lib.hid ⟨?_, H4.out.2⟩⟩, by simp [intOf]; omega⟩
        rw [selF_no HXK.out (by rw [HF.out])]
        exact H4.out.1
    · obtain rfl : m = k := by omega
      have HFIN := HO
      clear HO
      go_wp2_with fail
      go_ret
      have h1 := HFIN.out.1
      rw [List.take_of_length_le (by rw [HM.out]; exact Nat.le_refl _)] at h1
      refine ⟨v, rfl, ⟨h1.1, ?_⟩, HB1.out.then_ HFIN.out.2⟩
      rcases h1.2 with h | ⟨g, cap, cur, e, hb, r⟩
      · exact .inl h
      · exact .inr ⟨g, cap, cur, e, Nat.le_trans HB1.out.size hb, r⟩
end Go.Proofs.YtpleminoiodmgaaDoor
namespace Go.Proofs.YtpleminoiodmgaaDoor
open Go.ChangeShapes Go.WideShapes Go.ChangeAt Go.RowKit Go.IntWalk
set_option linter.unusedVariables false
set_option maxRecDepth 100000

/-- A row of texts that a call answers. -/
def TRow (w : World) (A : Option Addr) (n c : Nat) (l : List (List UInt8)) : Prop := RV w A (l.map strV) ∧ Hid (n = l.length) ∧ n ≤ c
def ftT (l : List (List UInt8)) : Lft := ⟨fun v => ∃ A c, v = .slice A l.length c, fun v w => ∃ A c, v = .slice A l.length c ∧ RV w A (l.map strV), fun v w w' ⟨A, c, e, h⟩ hb => ⟨A, c, e, h.below hb⟩⟩
theorem ftT_of {l : List (List UInt8)} {w w' : World} {en : Ending} (h : SelPost l w en w') : ∃ v, en = .returned v ∧ (ftT l).R v ∧ (ftT l).M v w' ∧ Below w.heap.size w w' := by
  obtain ⟨v, e, ho, hb⟩ := h
  obtain ⟨A, n, c, rfl, hr, hn, hc⟩ := ho.form
  have hn := hn.out
  rw [List.length_map] at hn
  subst hn
  exact ⟨_, e, ⟨A, c, rfl⟩, ⟨A, c, rfl, hr⟩, hb⟩
theorem ftT_in {l : List (List UInt8)} {w : World} {A : Option Addr} {c : Nat} (h : (ftT l).M (.slice A l.length c) w) : RV w A (l.map strV) := by
  obtain ⟨A1, c1, e, h⟩ := h
  injection e with e1 e2 e3
  subst e1
  exact h
theorem row_at {w wr : World} {A : Option Addr} {xs : List (List UInt8)} (h : RV w A (xs.map strV)) (hb : Below w.heap.size w wr) {k : Nat} (hk : k < xs.length) : ∃ b off, A = some ⟨b, off, none⟩ ∧ b < wr.heap.size ∧
    wr.cell? ⟨b, off + k, none⟩ = some (.string ⟨(xs[k]).toArray⟩) := by
  obtain ⟨b, off, rfl, hb0, h0⟩ := h k (strV (xs[k])) (by rw [List.getElem?_map, List.getElem?_eq_getElem hk]; rfl)
  exact ⟨b, off, rfl, Nat.lt_of_lt_of_le hb0 hb.size, (hb.cell (p := ⟨b, off + k, none⟩) hb0).trans h0⟩
set_option maxHeartbeats 16000000 in
theorem selects_walk (e : Ev) (a : Ea) (A : Option Addr) (n c : Nat) (xs : List Slt) (w : World) (he : EOk w e a) (hx : Sls w A n c xs) (hT : TabJ w) : Calls Tryd.prog 4 #[.agg (evC e a).toArray, .slice A n c] w fun en w' => en = .returned (.bool true) ∧ Below w.heap.size w w' := by
  have b0 : Below w.heap.size w (w.alloc (.cells (evC e a).toArray 29)) := (Below.refl _ _).alloc (Nat.le_refl _) _
  have HB0 := Lib.hid b0
  have HX := Lib.hid (Blk.new w (evC e a) 29)
  have HE := Lib.hid he
  have HT := Lib.hid hT
  have HS := Lib.hid hx
  clear he hT b0 hx
  go_enter Tryd.func4, Tryd.ntmps4
  go_wp2_with fail
  refine (alive_calls _).mono ?_
  rintro en w1 ⟨rfl, hb⟩
  have HB1 := Lib.hid (HB0.out.then_ hb)
  have hx := HX.out.later hb
  have HX1 := Lib.hid hx
  have HG := Lib.hid (great0_calls e a w1 (HE.out.below HB1.out) (HT.out.below HB1.out))
  clear hb hx
  go_wp2_with (refine wpList_load_mid rfl 29 _ rfl w.heap.size 0 rfl (evC e a) _ HX1.out.rng Tryd.underlying29 rfl (size_evE e a) ?_)
  refine HG.out.mono ?_
  rintro en w2 ⟨r, rfl, hr, hb⟩
  have HB2 := Lib.hid (HB1.out.then_ hb)
  have hx := HX1.out.later hb
  have HX2 := Lib.hid hx
  clear hb HG hx
  cases r with
  | true =>
    clear hr
    go_wp2_with fail
    go_ret
    exact ⟨rfl, HB2.out⟩
  | false =>
    obtain ⟨hgf, hri⟩ := hr rfl
    have hbk : e.ct.bulk ≤ 50000 := by obtain ⟨T, _, _, h, _⟩ := hgf; omega
    have HRB := Lib.hid (And.intro hri hbk)
    clear hgf hri hbk hr
    have HLo := Lib.hid (long_calls A n c xs w2 (HS.out.below HB2.out))
    go_wp2_with fail
    refine HLo.out.mono ?_
    rintro en w3 ⟨r, rfl, hr, hb⟩
    have HB3 := Lib.hid (HB2.out.then_ hb)
    have hx := HX2.out.later hb
    have HX3 := Lib.hid hx
    clear hb HLo hx
    cases r with
    | true =>
      clear hr
      go_wp2_with fail
      go_ret
      exact ⟨rfl, HB3.out⟩
    | false =>
      have HN : Hid (n ≤ 8192) := Lib.hid (by have := hr rfl; have := HS.out.2.1.out; omega)
      clear hr
      have HGo := Lib.hid (refGood_calls A n c xs w3 (HS.out.below HB3.out))
      go_wp2_with fail
      refine HGo.out.mono ?_
      rintro en w4 ⟨r, rfl, hr, hb⟩
      have HB4 := Lib.hid (HB3.out.then_ hb)
      have hx := HX3.out.later hb
      have HX4 := Lib.hid hx
      clear hb HGo hx
      cases r with
      | false =>
        clear hr
        go_wp2_with fail
        go_ret
        exact ⟨rfl, HB4.out⟩
      | true =>
        have HRi : Hid (Rise xs) := Lib.hid (Steps.rise (hr.1 rfl))
        clear hr
        obtain ⟨l, hl⟩ : ∃ l, selF xs (nedF e) = l := ⟨_, rfl⟩
        have hc1 : ∀ W, Below w4.heap.size w4 W → Calls Tryd.prog 12 #[.agg (evC e a).toArray, .slice A n c] W (fun en W' => ∃ v, en = .returned v ∧ (ftT l).R v ∧ (ftT l).M v W' ∧ Below W.heap.size W W') := fun W hW => by
          have := (select_calls e a A n c xs W (HE.out.below (HB4.out.then_ hW)) HRB.out.1 HRB.out.2 (HS.out.below (HB4.out.then_ hW)) (Nat.le_trans HN.out (by decide)) HRi.out)
          rw [hl] at this
          exact this.mono fun en W' h => ftT_of h
        have hc2 : ∀ W, Below w4.heap.size w4 W → Calls Tryd.prog 13 #[.agg (evC e a).toArray, .slice A n c] W (fun en W' => ∃ v, en = .returned v ∧ (ftT l).R v ∧ (ftT l).M v W' ∧ Below W.heap.size W W') := fun W hW => by
          have := (refselect_calls e a A n c xs W (HE.out.below (HB4.out.then_ hW)) (HS.out.below (HB4.out.then_ hW)))
          rw [hl] at this
          exact this.mono fun en W' h => ftT_of h
        have HC1 := Lib.hid hc1
        have HC2 := Lib.hid hc2
        have HL0 : Hid (w.heap.size < w4.heap.size) := Lib.hid HX4.out.lt
        have HNl : Hid (l.length ≤ 1000) := Lib.hid (by rw [← hl]; exact Nat.le_trans (selF_len _ _) (nedF_len e))
        clear hc1 hc2 hl
        go_upto_region 5 with fail
        apply wp_region_lkt 6 (by kernel_rfl) (by kernel_rfl)
        simp only [List.take_succ_cons, List.take_zero, List.drop_succ_cons, List.drop_zero]
        apply lk_load 29 (.tmp 2) rfl w.heap.size 0 (evC e a) _ HX4.out.rng HL0.out Tryd.underlying29 rfl (size_evE e a) rfl rfl
        simp only [Act.put, List.setIfInBounds_toArray, List.set_cons_succ, List.set_cons_zero]
        apply lk_move (.slice A n c) (.tmp 1) rfl rfl rfl
        simp only [Act.put, List.setIfInBounds_toArray, List.set_cons_succ, List.set_cons_zero]
        apply lk_call (ftT l) 12 #[.agg (evC e a).toArray, .slice A n c] rfl (by intro W; go_simp) HC1.out
        rintro _ ⟨A1, c1, rfl⟩
        simp only [Act.put, List.setIfInBounds_toArray, List.set_cons_succ, List.set_cons_zero]
        apply lk_load 29 (.tmp 2) rfl w.heap.size 0 (evC e a) _ HX4.out.rng HL0.out Tryd.underlying29 rfl (size_evE e a) rfl rfl
        simp only [Act.put, List.setIfInBounds_toArray, List.set_cons_succ, List.set_cons_zero]
        apply lk_move (.slice A n c) (.tmp 1) rfl rfl rfl
        simp only [Act.put, List.setIfInBounds_toArray, List.set_cons_succ, List.set_cons_zero]
        apply lk_call (ftT l) 13 #[.agg (evC e a).toArray, .slice A n c] rfl (by intro W; go_simp) HC2.out
        rintro _ ⟨A2, c2, rfl⟩
        simp only [Act.put, List.setIfInBounds_toArray, List.set_cons_succ, List.set_cons_zero]
        refine lk_nil (Fs := []) ?_
        intro w5 hbw hz
        obtain ⟨⟨⟨⟨⟨⟨-, -⟩, -⟩, hq1⟩, -⟩, -⟩, hq2⟩ := hz
        clear HC1 HC2 HX HX1 HX2 HX3 HX4 HL0
        have HL1 : Hid (RV w5 A1 (l.map strV)) := Lib.hid (ftT_in hq1)
        have HL2 : Hid (RV w5 A2 (l.map strV)) := Lib.hid (ftT_in hq2)
        generalize (evC e a).toArray = zv
        have HB5 := Lib.hid (HB4.out.then_ hbw)
        clear hbw hq1 hq2
        obtain ⟨n1, hn⟩ : ∃ n, l.length = n := ⟨_, rfl⟩
        have HNN := Lib.hid hn
        have hnm : n1 ≤ 1000 := by rw [← hn]; exact HNl.out
        rw [hn] at HNl ⊢
        clear hn
        go_wp2_with fail
        go_loopw [34] (fun i wr => ∃ k : Nat, k ≤ n1 ∧ i = .int .i64 (k : Int) ∧ Hid (Below w5.heap.size w5 wr)) (fun i _ => n1 - (intOf i).toNat)
        case atStart => exact ⟨0, Nat.zero_le _, rfl, Lib.hid (Below.refl _ _)⟩
        case round => as_aux_lemma =>
          obtain ⟨k, hk, rfl, hbe⟩ := hrel
          by_cases hlt : k < n1
          · obtain ⟨b1, o1, rfl, hb1, r1⟩ := row_at HL1.out hbe.out (k := k) (by rw [HNN.out]; exact hlt)
            obtain ⟨b2, o2, rfl, hb2, r2⟩ := row_at HL2.out hbe.out (k := k) (by rw [HNN.out]; exact hlt)
            obtain ⟨x, hx⟩ : ∃ x, l[k]'(by rw [HNN.out]; exact hlt) = x := ⟨_, rfl⟩
            rw [hx] at r1 r2
            have hnk : ¬ n1 ≤ k := by omega
            clear hx
            go_upto_region 11 with fail
            go_quiet (fail)
            clear r1 r2
            go_wp2_with fail
            exact ⟨⟨k + 1, by omega, by go_num, Lib.hid (by first | exact hbe.out | exact hbe.out.drew | exact hbe.out.drewN _)⟩, by simp [intOf]; omega⟩
          · obtain rfl : n1 = k := by omega
            have HBF := Lib.hid (HB5.out.then_ hbe.out)
            go_wp2_with fail
            go_ret
            exact ⟨rfl, HBF.out⟩
theorem pickSelects_open1 {H : Type} {enc : TypeId × Value → H} {w : World} {base : Nat} {held : Bool} {A : Option Addr} {n c : Nat} {d : DataW H} {p : List MemPlace}
    (h : DataW.Trod enc Tryd.prog w base (fun _ => true) held 37 (.slice A n c) d p) (hwt : ∀ q ∈ d.weights Tryd.prog 37, q ≤ reachBytes) : ∃ xs, Own37 w A n c xs := slots_open h hwt
theorem pickSelects_walk (e : Ev) (a : Ea) {w : World} (he : EOk w e a) (A : Option Addr) (n c : Nat) (xs : List Slt) (hx : Own37 w A n c xs) (hT : TabJ w) :
    Calls Tryd.prog 4 #[.agg (evC e a).toArray, .slice A n c] w fun e w' => e = .returned (.bool true) ∧ Below w.heap.size w w' := selects_walk e a A n c xs w he hx hT
end Go.Proofs.YtpleminoiodmgaaDoor
