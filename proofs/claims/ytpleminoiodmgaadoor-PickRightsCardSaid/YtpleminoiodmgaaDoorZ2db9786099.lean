/- Texts put together: PkG PnS PnX. -/
import Derived.Test.YtpleminoiodmgaaDoorZ2233cbdfac
import Derived.Test.YtpleminoiodmgaaDoorZ47b38e092a
namespace Go.Proofs.YtpleminoiodmgaaDoor
open Go.ChangeShapes Go.WideShapes Go.ChangeAt Go.RowKit Go.IntWalk
set_option linter.unusedVariables false

theorem getF_at {xs : List Slt} {p : Pr} {k : Nat} {x : Slt} (hx : xs[k]? = some x) (hp : x.pr = p) (hn : ∀ j, ∀ h : j < xs.length, j < k → (xs[j]).pr ≠ p) : getF xs p = (x.i, true) := by
  obtain ⟨hk, e⟩ := List.getElem?_eq_some_iff.1 hx
  have : xs.find? (fun s => decide (s.pr = p)) = some x := by
    rw [List.find?_eq_some_iff_getElem]
    exact ⟨by simp [hp], k, hk, e, fun j hj => by simpa using hn j (by omega) hj⟩
  unfold getF
  rw [this]
theorem getF_no {xs : List Slt} {p : Pr} (hn : ∀ j, ∀ h : j < xs.length, (xs[j]).pr ≠ p) : getF xs p = ([], false) := by
  have : xs.find? (fun s => decide (s.pr = p)) = none := by
    rw [List.find?_eq_none]
    intro x hx
    obtain ⟨j, hj, rfl⟩ := List.getElem_of_mem hx
    simpa using hn j hj
  unfold getF
  rw [this]
def GetSlPost (xs : List Slt) (p : Pr) (w : World) (e : Ending) (w' : World) : Prop := e = .returned (.tuple #[strV (getF xs p).1, .bool (getF xs p).2]) ∧ Below w.heap.size w w'
set_option maxHeartbeats 4000000 in
set_option maxRecDepth 100000 in
theorem getSl_calls (A : Option Addr) (n c : Nat) (xs : List Slt) (p : Pr) (w : World) (hx : Sls w A n c xs) (hnb : n ≤ 1000000) (hr : Rise xs) : Calls Tryd.prog 27 #[.slice A n c, prV p] w (GetSlPost xs p w) := by
  have HG := Lib.hid (getF_pos hr p)
  have HX := Lib.hid (And.intro hx (And.intro hnb hr))
  have hnm : n ≤ 9223372036854775807 := Nat.le_trans hx.2.2.1 hx.2.2.2.1
  clear hnb hx hr
  go_enter Tryd.func27, Tryd.ntmps27
  unfold prV
  go_wp2_with fail
  refine (find_calls A n c xs p _ (HX.out.1.below ((Below.refl _ _).alloc (Nat.le_refl _) _)) HX.out.2.1 HX.out.2.2).mono ?_
  rintro e w1 ⟨rfl, b1⟩
  have HB := Lib.hid (Below.of_alloc b1)
  clear b1
  cases hf : foundF xs p with
  | false =>
    rw [hf] at HG
    go_wp2_with fail
    go_ret2
    exact ⟨by rw [HG.out]; rfl, HB.out⟩
  | true =>
    rw [hf] at HG
    obtain ⟨q, hq⟩ : ∃ q, posF xs p = q := ⟨_, rfl⟩
    rw [hq] at HG
    have hqx : q < xs.length := by
      rcases Nat.lt_or_ge q xs.length with h | h
      · exact h
      · unfold foundF at hf; rw [hq, List.getElem?_eq_none h] at hf; cases hf
    have hqn : q < n := by rw [HX.out.1.2.1.out]; exact hqx
    obtain ⟨b0, off, rfl, hb0, r0⟩ := slot_row HX.out.1.1 HB.out hqx
    have c2 := r0 2 _ rfl
    have HI := Lib.hid (show (xs[q]?.map (·.i)).getD [] = (xs[q]).i by rw [List.getElem?_eq_getElem hqx]; rfl)
    obtain ⟨xi, hxi⟩ : ∃ xi, (xs[q]).i = xi := ⟨_, rfl⟩
    rw [hxi] at c2 HI
    clear r0 hxi hqx hf
    rw [hq]
    clear hq
    go_wp2_with fail
    go_ret2
    exact ⟨by rw [HG.out]; simp only [if_true, HI.out]; rfl, HB.out⟩
set_option maxHeartbeats 4000000 in
set_option maxRecDepth 100000 in
theorem refGetSl_calls (A : Option Addr) (n c : Nat) (xs : List Slt) (p : Pr) (w : World) (hx : Sls w A n c xs) : Calls Tryd.prog 28 #[.slice A n c, prV p] w (GetSlPost xs p w) := by
  obtain ⟨hrv, hn, hnc, hc63, hok⟩ := hx
  have hnm : n ≤ 9223372036854775807 := Nat.le_trans hnc hc63
  obtain ⟨p1, p2⟩ := p
  unfold prV
  dsimp only
  go_enter Tryd.func28, Tryd.ntmps28
  go_wp2_with fail
  obtain ⟨wa, hwa⟩ : ∃ x, x = w.alloc (.cells #[.string ⟨p1.toArray⟩, .string ⟨p2.toArray⟩] 35) := ⟨_, rfl⟩
  have hpb : Blk wa w.heap.size 35 [.string ⟨p1.toArray⟩, .string ⟨p2.toArray⟩] := by rw [hwa]; exact Blk.new w _ _
  have hrv : RV wa A (slC xs) := by rw [hwa]; exact hrv.alloc _
  have hbw : Below w.heap.size w wa := by rw [hwa]; exact (Below.refl _ _).alloc (Nat.le_refl _) _
  rw [← hwa]
  have HH := Lib.hid (And.intro hrv (And.intro hpb (And.intro hbw hn.out)))
  clear hrv hpb hbw hn hwa hok
  go_loopw [10] (fun i wr => ∃ k : Nat, k ≤ n ∧ i = .int .i64 (k : Int) ∧ (∀ j, ∀ h : j < xs.length, j < k → (xs[j]).pr ≠ (p1, p2)) ∧ Below wa.heap.size wa wr) (fun i _ => n - (intOf i).toNat)
  case atStart => exact ⟨0, Nat.zero_le _, rfl, fun j _ h => absurd h (by omega), Below.refl _ _⟩
  case round =>
    obtain ⟨k, hk, rfl, hst, hbe⟩ := hrel
    have HS := Lib.hid (And.intro hst hbe)
    clear hst
    by_cases hp : k < n
    · have hkx : k < xs.length := by rw [← HH.out.2.2.2]; exact hp
      obtain ⟨b0, off, rfl, hb0, r0⟩ := slot_row HH.out.1 hbe hkx
      have hgx := List.getElem?_eq_getElem hkx
      obtain ⟨x, hxx⟩ : ∃ x, xs[k] = x := ⟨_, rfl⟩
      rw [hxx] at r0 hgx
      obtain ⟨xt, xk, xi⟩ := x
      dsimp only at r0
      have HXK := Lib.hid hgx
      clear hxx hkx hgx
      have c0 := r0 0 _ rfl
      have c1 := r0 1 _ rfl
      have c2 := r0 2 _ rfl
      rw [Nat.add_zero] at c0
      clear r0
      go_upto_region 4 with fail
      obtain ⟨wv, hwv⟩ : ∃ x, x = wr.alloc (.cells #[.string ⟨xt.toArray⟩, .string ⟨xk.toArray⟩, .string ⟨xi.toArray⟩] 52) := ⟨_, rfl⟩
      rw [← hwv]
      have hsb : Blk wv wr.heap.size 52 [.string ⟨xt.toArray⟩, .string ⟨xk.toArray⟩, .string ⟨xi.toArray⟩] := by rw [hwv]; exact Blk.new wr _ _
      have hpw : Blk wv w.heap.size 35 [.string ⟨p1.toArray⟩, .string ⟨p2.toArray⟩] := by rw [hwv]; exact (HH.out.2.1.later hbe).alloc _
      have HBV : Hid (Below wa.heap.size wa wv) := Lib.hid (by rw [hwv]; exact hbe.alloc hbe.size _)
      obtain ⟨tb, htb⟩ : ∃ tb, decide ((xt, xk) = (p1, p2)) = tb := ⟨_, rfl⟩
      have hte : ((xt == p1) && (xk == p2)) = tb := by rw [← htb]; by_cases h1 : xt = p1 <;> by_cases h2 : xk = p2 <;> simp [h1, h2]
      have HT := Lib.hid (And.intro htb hte)
      clear htb hte c0 c1 c2 hwv hbe
      apply wp_region_ls (by kernel_rfl) (by kernel_rfl)
      apply ls_load 52 (.tmp 7) rfl wr.heap.size 0 _ _ hsb.rng hsb.lt Tryd.underlying52 rfl size_slot rfl rfl
      simp only [Act.put, List.setIfInBounds_toArray, List.set_cons_succ, List.set_cons_zero]
      apply ls_callx (prV (xt, xk)) 26 #[Slt.val ⟨xt, xk, xi⟩] rfl (by intro W; go_simp; rfl) (fun W => of_calls ⟨xt, xk, xi⟩ W)
      simp only [Act.put, List.setIfInBounds_toArray, List.set_cons_succ, List.set_cons_zero]
      apply ls_load 35 (.tmp 3) rfl w.heap.size 0 _ _ hpw.rng hpw.lt Tryd.underlying35 rfl size_pair rfl rfl
      simp only [Act.put, List.setIfInBounds_toArray, List.set_cons_succ, List.set_cons_zero]
      apply ls_pure (.bool tb) rfl (by intro W; rw [← HT.out.2]; unfold prV; go_simp; by_cases h1 : xt = p1 <;> by_cases h2 : xk = p2 <;> simp [h1, h2])
      simp only [Act.put, List.setIfInBounds_toArray, List.set_cons_succ, List.set_cons_zero]
      refine ls_nil (Rs := []) ?_
      intro w4 b4
      have d2 := (hsb.later b4).cell (k := 2) rfl
      have HB4 := Lib.hid (HBV.out.then_ b4)
      clear hsb hpw b4
      cases tb with
      | true =>
        go_wp2_with fail
        go_ret2
        exact ⟨by rw [getF_at HXK.out (of_decide_eq_true HT.out.1) HS.out.1]; rfl, HH.out.2.2.1.then_ HB4.out⟩
      | false =>
        go_wp2_with fail
        refine ⟨⟨k + 1, by omega, by go_num, fun j hj h => ?_, HB4.out⟩, by simp [intOf]; omega⟩
        rcases Nat.lt_or_ge j k with h1 | h1
        · exact HS.out.1 j hj h1
        · obtain rfl : j = k := by omega
          have h2 := List.getElem?_eq_getElem hj
          rw [HXK.out] at h2
          injection h2 with h2
          rw [← h2]
          exact of_decide_eq_false HT.out.1
    · have hkn : k = n := by omega
      subst hkn
      go_wp2_with fail
      go_ret2
      exact ⟨by rw [getF_no (fun j h => HS.out.1 j h (by have := HH.out.2.2.2; omega))]; rfl, HH.out.2.2.1.then_ HS.out.2⟩
def LongPost (xs : List Slt) (w : World) (e : Ending) (w' : World) : Prop := ∃ r, e = .returned (.bool r) ∧ (r = false → xs.length ≤ 8192) ∧ Below w.heap.size w w'
set_option maxHeartbeats 4000000 in
set_option maxRecDepth 100000 in
theorem long_calls (A : Option Addr) (n c : Nat) (xs : List Slt) (w : World) (hx : Sls w A n c xs) : Calls Tryd.prog 10 #[.slice A n c] w (LongPost xs w) := by
  obtain ⟨hrv, hn, hnc, hc63, hok⟩ := hx
  have hnm : n ≤ 9223372036854775807 := Nat.le_trans hnc hc63
  have HH := Lib.hid (And.intro hrv (And.intro hn.out hok))
  clear hrv hn hok
  go_enter Tryd.func10, Tryd.ntmps10
  go_wp2_with fail
  go_loopw [3, 8] (fun t i wr => ∃ k T : Nat, k ≤ n ∧ T ≤ 8192 ∧ k ≤ T ∧ i = .int .i64 (k : Int) ∧ t = .int .i64 (T : Int) ∧ Below w.heap.size w wr) (fun t i _ => n - (intOf i).toNat)
  case atStart => exact ⟨0, 0, Nat.zero_le _, by decide, Nat.le_refl _, rfl, rfl, Below.refl _ _⟩
  case round =>
    obtain ⟨k, T, hk, hT, hkT, rfl, rfl, hbe⟩ := hrel
    by_cases hp : k < n
    · have hkx : k < xs.length := by rw [← HH.out.2.1]; exact hp
      obtain ⟨b0, off, rfl, hb0, r0⟩ := slot_row HH.out.1 hbe hkx
      obtain ⟨hl1, hl2, hl3⟩ := HH.out.2.2 _ (List.getElem_mem hkx)
      obtain ⟨x, hxx⟩ : ∃ x, xs[k] = x := ⟨_, rfl⟩
      rw [hxx] at r0 hl1 hl2 hl3
      obtain ⟨xt, xk, xi⟩ := x
      dsimp only at r0 hl1 hl2 hl3
      clear hxx hkx
      have c0 := r0 0 _ rfl
      have c1 := r0 1 _ rfl
      have c2 := r0 2 _ rfl
      rw [Nat.add_zero] at c0
      clear r0
      by_cases h8 : T + (1 + xt.length + xk.length + xi.length) > 8192
      · have hB : decide ((8192 : Int) < (T : Int) + (1 + (xt.length : Int) + (xk.length : Int) + (xi.length : Int))) = true := decide_eq_true (by omega)
        have HB := Lib.hid hbe
        clear h8 hbe
        go_wp2_with fail
        go_ret
        exact ⟨true, rfl, fun h => (by cases h), HB.out.alloc HB.out.size _⟩
      · have hB : decide ((8192 : Int) < (T : Int) + (1 + (xt.length : Int) + (xk.length : Int) + (xi.length : Int))) = false := decide_eq_false (by omega)
        have HB := Lib.hid hbe
        have H8 := Lib.hid h8
        clear h8 hbe
        go_wp2_with fail
        have h9 := H8.out
        exact ⟨⟨k + 1, T + (1 + xt.length + xk.length + xi.length), by omega, by omega, by omega, by go_num, by go_num, HB.out.alloc HB.out.size _⟩, by simp [intOf]; omega⟩
    · have hkn : k = n := by omega
      subst hkn
      go_wp2_with fail
      go_ret
      exact ⟨false, rfl, fun _ => by have := HH.out.2.1; omega, hbe⟩
end Go.Proofs.YtpleminoiodmgaaDoor
namespace Go.Proofs.YtpleminoiodmgaaDoor
open Go.ChangeShapes Go.WideShapes Go.ChangeAt Go.RowKit Go.IntWalk
set_option linter.unusedVariables false
set_option maxRecDepth 100000

def selF (xs : List Slt) : List Pr → List (List UInt8)
  | [] => []
  | p :: ps => (if (getF xs p).2 then [(getF xs p).1] else []) ++ selF xs ps
theorem selF_app (xs : List Slt) : ∀ (a b : List Pr), selF xs (a ++ b) = selF xs a ++ selF xs b
  | [], b => rfl
  | p :: a, b => by simp only [List.cons_append, selF, selF_app xs a b, List.append_assoc]
theorem selF_len (xs : List Slt) : ∀ ps : List Pr, (selF xs ps).length ≤ ps.length
  | [] => Nat.le_refl _
  | p :: ps => by
    have := selF_len xs ps
    simp only [selF, List.length_append, List.length_cons]
    split <;> simp <;> omega
theorem selF_yes {xs : List Slt} {ps : List Pr} {k : Nat} {p : Pr} (hk : ps[k]? = some p) (h : (getF xs p).2 = true) : selF xs (ps.take (k + 1)) = selF xs (ps.take k) ++ [(getF xs p).1] := by
  rw [List.take_add_one, hk, Option.toList_some, selF_app]; simp [selF, h]
theorem selF_no {xs : List Slt} {ps : List Pr} {k : Nat} {p : Pr} (hk : ps[k]? = some p) (h : (getF xs p).2 = false) : selF xs (ps.take (k + 1)) = selF xs (ps.take k) := by
  rw [List.take_add_one, hk, Option.toList_some, selF_app]; simp [selF, h]
theorem nedF_len (e : Ev) : (nedF e).length ≤ 1000 := by
  have h0 := withP_len [([109, 46, 114, 111, 111, 109, 46, 99, 114, 101, 97, 116, 101], [])] ([109, 46, 114, 111, 111, 109, 46, 112, 111, 119, 101, 114, 95, 108, 101, 118, 101, 108, 115], [])
  have h1 : (ned1 e).length ≤ 7 := by unfold ned1; refine Nat.le_trans (withP_len _ _) ?_; simp only [List.length_cons, List.length_nil] at h0; omega
  have h3 : (ned3 e).length ≤ 31 := by
    unfold ned3
    have a := fun p => withP_len (ned1 e) p
    dsimp only
    split
    · refine Nat.le_trans (withP_len _ _) ?_
      have := a ([109, 46, 114, 111, 111, 109, 46, 109, 101, 109, 98, 101, 114], e.ky); omega
    · have := a ([109, 46, 114, 111, 111, 109, 46, 109, 101, 109, 98, 101, 114], e.ky); omega
  have h4 : (ned4 e).length ≤ 63 := by
    unfold ned4
    split
    · refine Nat.le_trans (withP_len _ _) ?_; omega
    · omega
  have h5 : (ned5 e).length ≤ 127 := by
    unfold ned5
    split
    · refine Nat.le_trans (withP_len _ _) ?_; omega
    · omega
  unfold nedF
  split
  · simp
  · split <;> omega
theorem infoST : (Tryd.prog.info? 9).map (fun i => (i.zero, i.size, i.bytes)) = some (some (.string ⟨#[]⟩), 1, 16) := by kernel_rfl
def SelPost (l : List (List UInt8)) (w : World) (en : Ending) (w' : World) : Prop := ∃ v, en = .returned v ∧ OwnVs w.heap.size 9 w' v (l.map strV) ∧ Below w.heap.size w w'
theorem OwnVs.grown {base : Nat} {E : TypeId} {w0 w w' : World} {v : Value} {vs : List Value} (hb : Below base w0 w) (h : OwnVs base E w v vs) (hg : w.grownBy w' v.ownBlock) (hw : base ≤ w.heap.size) : Below base w0 w' := by
  refine ⟨hg.os.trans hb.os, hg.tape.trans hb.tape, hg.output.trans hb.output, Nat.le_trans hb.size hg.size, fun k hk => ?_⟩
  refine (hg.block k (Nat.lt_of_lt_of_le hk hw) (fun e => ?_)).trans (hb.block k hk)
  have := (h.lt k e.symm).1
  omega
set_option maxHeartbeats 16000000 in
theorem select_calls (e : Ev) (a : Ea) (A : Option Addr) (n c : Nat) (xs : List Slt) (w : World) (he : EOk w e a) (hri : risV e.ct = true) (hbk : e.ct.bulk ≤ 50000) (hx : Sls w A n c xs) (hnb : n ≤ 1000000) (hr : Rise xs) : Calls Tryd.prog 12 #[.agg (evC e a).toArray, .slice A n c] w (SelPost (selF xs (nedF e)) w) := by
  have b0 : Below w.heap.size w (w.alloc (.cells (evC e a).toArray 29)) := (Below.refl _ _).alloc (Nat.le_refl _) _
  have HB0 := Lib.hid b0
  have HX := Lib.hid (Blk.new w (evC e a) 29)
  have HS := Lib.hid hx
  obtain ⟨ps, hps⟩ : ∃ ps, nedF e = ps := ⟨_, rfl⟩
  have HW := Lib.hid (by have h := needed_calls e a (w.alloc (.cells (evC e a).toArray 29)) (he.below b0) hri hbk; rw [needed_one e] at h; exact h)
  rw [hps] at HW ⊢
  have HL : Hid (ps.length ≤ 1000) := Lib.hid (by rw [← hps]; exact nedF_len e)
  have HRI := Lib.hid (And.intro hnb hr)
  clear hnb hr
  clear hps hx b0 he
  go_enter Tryd.func12, Tryd.ntmps12
  have HU := Tryd.underlying29
  have HSZ := size_evE e a
  go_wp2_with (refine wpList_load_mid rfl 29 _ rfl w.heap.size 0 rfl (evC e a) _ HX.out.rng HU rfl HSZ ?_)
  refine HW.out.mono ?_
  rintro en w1 ⟨⟨PA, pc, rfl, hl⟩, hb⟩
  have HB1 := Lib.hid (HB0.out.then_ hb)
  have HP := Lib.hid hl
  obtain ⟨m, hm⟩ : ∃ m, ps.length = m := ⟨_, rfl⟩
  have HM := Lib.hid hm
  have hmm : m ≤ 9223372036854775807 := by rw [← hm]; exact Nat.le_trans hl.2.2.1 hl.2.2.2
  rw [hm] at HP HL ⊢
  clear hl hb hm HW HX HB0
  go_wp2_with fail
  go_loopw [5, 13] (fun o i wr => ∃ (k : Nat) (v : Value), k ≤ m ∧ v = o ∧ i = .int .i64 (k : Int) ∧ Hid (OwnVs w1.heap.size 9 wr v ((selF xs (ps.take k)).map strV) ∧ Below w1.heap.size w1 wr)) (fun o i _ => m - (intOf i).toNat)
  case atStart => exact ⟨0, .slice none 0 0, Nat.zero_le _, rfl, rfl, Lib.hid ⟨OwnVs.nil _ _ _, Below.refl _ _⟩⟩
  case round =>
    obtain ⟨k, v, hk, rfl, rfl, HO⟩ := hrel
    by_cases hp : k < m
    · have hkx : k < ps.length := by rw [HM.out]; exact hp
      obtain ⟨b0, off, rfl, hb0, r0⟩ := pr_row HP.out.1 HO.out.2 hkx
      have hgx := List.getElem?_eq_getElem hkx
      obtain ⟨x, hxx⟩ : ∃ x, ps[k] = x := ⟨_, rfl⟩
      rw [hxx] at r0 hgx
      obtain ⟨x1, x2⟩ := x
      dsimp only at r0
      have HXK := Lib.hid hgx
      have c0 := r0 0 _ rfl
      have c1 := r0 1 _ rfl
      rw [Nat.add_zero] at c0
      clear r0 hxx hkx hgx
      go_upto_region 5 with fail
      obtain ⟨wv, hwv⟩ : ∃ x, x = wr.alloc (.cells #[.string ⟨x1.toArray⟩, .string ⟨x2.toArray⟩] 35) := ⟨_, rfl⟩
      rw [← hwv]
      have hsb : Blk wv wr.heap.size 35 [.string ⟨x1.toArray⟩, .string ⟨x2.toArray⟩] := by rw [hwv]; exact Blk.new wr _ _
      have HV : Hid (OwnVs w1.heap.size 9 wv v ((selF xs (ps.take k)).map strV) ∧ Below w1.heap.size w1 wv) := Lib.hid (by rw [hwv]; exact ⟨HO.out.1.alloc _, HO.out.2.alloc HO.out.2.size _⟩)
      have HG := Lib.hid (getSl_calls A n c xs (x1, x2) wv (HS.out.below (HB1.out.then_ HV.out.2)) HRI.out.1 HRI.out.2)
      obtain ⟨nm, tb, hg⟩ : ∃ nm tb, getF xs (x1, x2) = (nm, tb) := ⟨_, _, rfl⟩
      unfold GetSlPost strV at HG
      rw [hg] at HG
      have HF := Lib.hid hg
      clear hg c0 c1 hwv HO
      have y0 := hsb.cell (k := 0) rfl
      have y1 := hsb.cell (k := 1) rfl
      dsimp only at HG
      go_wp2_with fail
      refine HG.out.mono ?_
      rintro en w4 ⟨rfl, b4⟩
      clear y0 y1 HG hsb
      have H4 := Lib.hid (And.intro (HV.out.1.below b4 (Nat.le_refl _)) (HV.out.2.then_ b4))
      clear b4 HV
      cases tb with
      | true =>
        have HN : Hid ((selF xs (ps.take k)).length + 1 ≤ 1000000) := Lib.hid (by
          have h1 := selF_len xs (ps.take k)
          have h2 := HL.out
          simp only [List.length_take] at h1
          omega)
        have ho1 : ∀ u ∈ [strV nm], u.oneCell' = true := by simp [strV, Value.oneCell']
        have h63 : ((selF xs (ps.take k)).map strV).length + 1 ≤ maxLen := by rw [List.length_map]; exact Nat.le_trans HN.out (by decide)
        have hby : (((selF xs (ps.take k)).map strV).length + 1) * 16 ≤ 140737488355328 := by rw [List.length_map]; have := HN.out; omega
        have HA := Lib.hid (And.intro ho1 (And.intro h63 hby))
        clear ho1 h63 hby
        go_wp2_with (refine wpList_append_lits rfl (.tmp 24) (.tmp 26) 26 9 Tryd.underlying26 infoST rfl rfl w1.heap.size v _ rfl H4.out.1 [strV nm] 9 _ rfl 1 rfl (Lib.hid rfl) HA.out.1 HA.out.2.1 HA.out.2.2 H4.out.2.size ?_; intro v2 w5 h5 g5)
        have H5 := Lib.hid (And.intro h5 (OwnVs.grown H4.out.2 H4.out.1 g5 H4.out.2.size))
        clear h5 g5
        go_wp2_with fail
        refine ⟨⟨k + 1, v2, by omega, rfl, by go_num, Lib.hid ⟨?_, H5.out.2⟩⟩, by simp [intOf]; omega⟩
        rw [selF_yes HXK.out (by rw [HF.out]), HF.out, List.map_append]
        exact H5.out.1
      | false =>
        go_wp2_with fail
        refine ⟨⟨k + 1, v, by omega, rfl, by go_num, Lib.hid ⟨?_, H4.out.2⟩⟩, by simp [intOf]; omega⟩
        rw [selF_no HXK.out (by rw [HF.out])]
        exact H4.out.1
    · obtain rfl : m = k := by omega
      have HFIN := HO
      clear HO
      go_wp2_with fail
      go_ret
      have h1 := HFIN.out.1
      rw [List.take_of_length_le (by rw [HM.out]; exact Nat.le_refl _)] at h1
      refine ⟨v, rfl, ⟨h1.1, ?_⟩, HB1.out.then_ HFIN.out.2⟩
      rcases h1.2 with h | ⟨g, cap, cur, e, hb, r⟩
      · exact .inl h
      · exact .inr ⟨g, cap, cur, e, Nat.le_trans HB1.out.size hb, r⟩
set_option maxHeartbeats 16000000 in
theorem refselect_calls (e : Ev) (a : Ea) (A : Option Addr) (n c : Nat) (xs : List Slt) (w : World) (he : EOk w e a) (hx : Sls w A n c xs) : Calls Tryd.prog 13 #[.agg (evC e a).toArray, .slice A n c] w (SelPost (selF xs (nedF e)) w) := by
  have b0 : Below w.heap.size w (w.alloc (.cells (evC e a).toArray 29)) := (Below.refl _ _).alloc (Nat.le_refl _) _
  have HB0 := Lib.hid b0
  have HX := Lib.hid (Blk.new w (evC e a) 29)
  have HS := Lib.hid hx
  obtain ⟨ps, hps⟩ : ∃ ps, nedF e = ps := ⟨_, rfl⟩
  have HW := Lib.hid (refneeded_calls e a (w.alloc (.cells (evC e a).toArray 29)) (he.below b0))
  rw [hps] at HW ⊢
  have HL : Hid (ps.length ≤ 1000) := Lib.hid (by rw [← hps]; exact nedF_len e)
  clear hps hx b0 he
  go_enter Tryd.func13, Tryd.ntmps13
  have HU := Tryd.underlying29
  have HSZ := size_evE e a
  go_wp2_with (refine wpList_load_mid rfl 29 _ rfl w.heap.size 0 rfl (evC e a) _ HX.out.rng HU rfl HSZ ?_)
  refine HW.out.mono ?_
  rintro en w1 ⟨⟨PA, pc, rfl, hl⟩, hb⟩
  have HB1 := Lib.hid (HB0.out.then_ hb)
  have HP := Lib.hid hl
  obtain ⟨m, hm⟩ : ∃ m, ps.length = m := ⟨_, rfl⟩
  have HM := Lib.hid hm
  have hmm : m ≤ 9223372036854775807 := by rw [← hm]; exact Nat.le_trans hl.2.2.1 hl.2.2.2
  rw [hm] at HP HL ⊢
  clear hl hb hm HW HX HB0
  go_wp2_with fail
  go_loopw [5, 13] (fun o i wr => ∃ (k : Nat) (v : Value), k ≤ m ∧ v = o ∧ i = .int .i64 (k : Int) ∧ Hid (OwnVs w1.heap.size 9 wr v ((selF xs (ps.take k)).map strV) ∧ Below w1.heap.size w1 wr)) (fun o i _ => m - (intOf i).toNat)
  case atStart => exact ⟨0, .slice none 0 0, Nat.zero_le _, rfl, rfl, Lib.hid ⟨OwnVs.nil _ _ _, Below.refl _ _⟩⟩
  case round =>
    obtain ⟨k, v, hk, rfl, rfl, HO⟩ := hrel
    by_cases hp : k < m
    · have hkx : k < ps.length := by rw [HM.out]; exact hp
      obtain ⟨b0, off, rfl, hb0, r0⟩ := pr_row HP.out.1 HO.out.2 hkx
      have hgx := List.getElem?_eq_getElem hkx
      obtain ⟨x, hxx⟩ : ∃ x, ps[k] = x := ⟨_, rfl⟩
      rw [hxx] at r0 hgx
      obtain ⟨x1, x2⟩ := x
      dsimp only at r0
      have HXK := Lib.hid hgx
      have c0 := r0 0 _ rfl
      have c1 := r0 1 _ rfl
      rw [Nat.add_zero] at c0
      clear r0 hxx hkx hgx
      go_upto_region 5 with fail
      obtain ⟨wv, hwv⟩ : ∃ x, x = wr.alloc (.cells #[.string ⟨x1.toArray⟩, .string ⟨x2.toArray⟩] 35) := ⟨_, rfl⟩
      rw [← hwv]
      have hsb : Blk wv wr.heap.size 35 [.string ⟨x1.toArray⟩, .string ⟨x2.toArray⟩] := by rw [hwv]; exact Blk.new wr _ _
      have HV : Hid (OwnVs w1.heap.size 9 wv v ((selF xs (ps.take k)).map strV) ∧ Below w1.heap.size w1 wv) := Lib.hid (by rw [hwv]; exact ⟨HO.out.1.alloc _, HO.out.2.alloc HO.out.2.size _⟩)
      have HG := Lib.hid (refGetSl_calls A n c xs (x1, x2) wv (HS.out.below (HB1.out.then_ HV.out.2)))
      obtain ⟨nm, tb, hg⟩ : ∃ nm tb, getF xs (x1, x2) = (nm, tb) := ⟨_, _, rfl⟩
      unfold GetSlPost strV at HG
      rw [hg] at HG
      have HF := Lib.hid hg
      clear hg c0 c1 hwv HO
      have y0 := hsb.cell (k := 0) rfl
      have y1 := hsb.cell (k := 1) rfl
      dsimp only at HG
      go_wp2_with fail
      refine HG.out.mono ?_
      rintro en w4 ⟨rfl, b4⟩
      clear y0 y1 HG hsb
      have H4 := Lib.hid (And.intro (HV.out.1.below b4 (Nat.le_refl _)) (HV.out.2.then_ b4))
      clear b4 HV
      cases tb with
      | true =>
        have HN : Hid ((selF xs (ps.take k)).length + 1 ≤ 1000000) := Lib.hid (by
          have h1 := selF_len xs (ps.take k)
          have h2 := HL.out
          simp only [List.length_take] at h1
          omega)
        have ho1 : ∀ u ∈ [strV nm], u.oneCell' = true := by simp [strV, Value.oneCell']
        have h63 : ((selF xs (ps.take k)).map strV).length + 1 ≤ maxLen := by rw [List.length_map]; exact Nat.le_trans HN.out (by decide)
        have hby : (((selF xs (ps.take k)).map strV).length + 1) * 16 ≤ 140737488355328 := by rw [List.length_map]; have := HN.out; omega
        have HA := Lib.hid (And.intro ho1 (And.intro h63 hby))
        clear ho1 h63 hby
        go_wp2_with (refine wpList_append_lits rfl (.tmp 24) (.tmp 26) 26 9 Tryd.underlying26 infoST rfl rfl w1.heap.size v _ rfl H4.out.1 [strV nm] 9 _ rfl 1 rfl (Lib.hid rfl) HA.out.1 HA.out.2.1 HA.out.2.2 H4.out.2.size ?_; intro v2 w5 h5 g5)
        have H5 := Lib.hid (And.intro h5 (OwnVs.grown H4.out.2 H4.out.1 g5 H4.out.2.size))
        clear h5 g5
        go_wp2_with fail
        refine ⟨⟨k + 1, v2, by omega, rfl, by go_num, Lib.hid ⟨?_, H5.out.2⟩⟩, by simp [intOf]; omega⟩
        rw [selF_yes HXK.out (by rw [HF.out]), HF.out, List.map_append]
        exact H5.out.1
      | false =>
        go_wp2_with fail
        refine ⟨⟨k + 1, v, by omega, rfl, by go_num, Lib.hid ⟨?_, H4.out.2⟩⟩, by simp [intOf]; omega⟩
        rw [selF_no HXK.out (by rw [HF.out])]
        exact H4.out.1
    · obtain rfl : m = k := by omega
      have HFIN := HO
      clear HO
      go_wp2_with fail
      go_ret
      have h1 := HFIN.out.1
      rw [List.take_of_length_le (by rw [HM.out]; exact Nat.le_refl _)] at h1
      refine ⟨v, rfl, ⟨h1.1, ?_⟩, HB1.out.then_ HFIN.out.2⟩
      rcases h1.2 with h | ⟨g, cap, cur, e, hb, r⟩
      · exact .inl h
      · exact .inr ⟨g, cap, cur, e, Nat.le_trans HB1.out.size hb, r⟩
end Go.Proofs.YtpleminoiodmgaaDoor
namespace Go.Proofs.YtpleminoiodmgaaDoor
open Go.ChangeShapes Go.WideShapes Go.ChangeAt Go.RowKit Go.IntWalk
set_option linter.unusedVariables false
set_option maxRecDepth 100000

def prE (x : Ev × Ea) : Pr := (x.1.ty, x.1.ky)
def creT : List UInt8 := [109, 46, 114, 111, 111, 109, 46, 99, 114, 101, 97, 116, 101]
def okAt (need : List Pr) (l : List (Ev × Ea)) (k : Nat) : Prop := ∃ x, l[k]? = some x ∧ x.1.st = true ∧ prE x ∈ need ∧ prE x ∉ (l.take k).map prE
def RightP (e : Ev) (l : List (Ev × Ea)) : Prop := (∀ k, k < l.length → okAt (nedF e) l k) ∧ (e.ty = creT ∨ (creT, []) ∈ l.map prE)
theorem okAt.nst {need : List Pr} {l : List (Ev × Ea)} {k : Nat} {x : Ev × Ea} (hx : l[k]? = some x) (h : x.1.st = false) : ¬ okAt need l k := fun ⟨y, h1, h2, _⟩ => by rw [hx] at h1; injection h1 with h1; subst h1; rw [h] at h2; cases h2
theorem okAt.nmem {need : List Pr} {l : List (Ev × Ea)} {k : Nat} {x : Ev × Ea} (hx : l[k]? = some x) (h : prE x ∉ need) : ¬ okAt need l k := fun ⟨y, h1, _, h2, _⟩ => by rw [hx] at h1; injection h1 with h1; subst h1; exact h h2
theorem okAt.twice {need : List Pr} {l : List (Ev × Ea)} {k : Nat} {x : Ev × Ea} (hx : l[k]? = some x) (h : prE x ∈ (l.take k).map prE) : ¬ okAt need l k := fun ⟨y, h1, _, _, h2⟩ => by rw [hx] at h1; injection h1 with h1; subst h1; exact h2 h
def RtPost (P : Prop) (w : World) (en : Ending) (w' : World) : Prop := ∃ r, en = .returned (.bool r) ∧ (r = true ↔ P) ∧ Below w.heap.size w w'
set_option maxHeartbeats 16000000 in
theorem right_calls (e : Ev) (a : Ea) (A : Option Addr) (n c : Nat) (l : List (Ev × Ea)) (w : World) (he : EOk w e a) (hx : EvR w A n c l) (h40 : n ≤ 40) (hri : risV e.ct = true) (hbk : e.ct.bulk ≤ 50000) : Calls Tryd.prog 14 #[.agg (evC e a).toArray, .slice A n c] w (RtPost (RightP e l) w) := by
  have b0 : Below w.heap.size w (w.alloc (.cells (evC e a).toArray 29)) := (Below.refl _ _).alloc (Nat.le_refl _) _
  have HB := Lib.hid b0
  have HX := Lib.hid (Blk.new w (evC e a) 29)
  have HE := Lib.hid he
  have HL := Lib.hid hx
  have H40 := Lib.hid h40
  have hnm : n ≤ 140737488355328 := Nat.le_trans hx.2.2.1 hx.2.2.2.1
  obtain ⟨ps, hps⟩ : ∃ ps, nedF e = ps := ⟨_, rfl⟩
  have HW := Lib.hid (by have h := needed_calls e a (w.alloc (.cells (evC e a).toArray 29)) (he.below b0) hri hbk; rw [needed_one e] at h; exact h)
  have HRP : Hid (RightP e l ↔ (∀ k, k < l.length → okAt ps l k) ∧ (e.ty = creT ∨ (creT, []) ∈ l.map prE)) := Lib.hid (by unfold RightP; rw [hps])
  rw [hps] at HW
  clear he b0 hx h40 hri hbk hps
  go_enter Tryd.func14, Tryd.ntmps14
  go_wp2_with (refine wpList_load_mid rfl 29 (.tmp 2) rfl w.heap.size 0 rfl (evC e a) _ HX.out.rng Tryd.underlying29 rfl (size_ev e a) ?_)
  refine HW.out.mono ?_
  rintro en w1 ⟨⟨PA, pc, rfl, hl⟩, hb⟩
  have HB1 := Lib.hid (HB.out.then_ hb)
  have HP := Lib.hid hl
  have HX1 := Lib.hid (HX.out.later hb)
  clear hl hb HW HX HB
  go_wp2_with fail
  go_loopw [6, 14] (fun o i wr => ∃ (k : Nat) (v : Value), k ≤ n ∧ v = o ∧ i = .int .i64 (k : Int) ∧ Hid (OwnP w1.heap.size wr v ((l.take k).map prE) ∧ Below w1.heap.size w1 wr ∧ ∀ j, j < k → okAt ps l j)) (fun o i _ => n - (intOf i).toNat)
  case atStart => exact ⟨0, .slice none 0 0, Nat.zero_le _, rfl, rfl, Lib.hid ⟨OwnP.nil _ _, Below.refl _ _, fun j hj => absurd hj (Nat.not_lt_zero _)⟩⟩
  case round =>
    obtain ⟨k, v, hk, rfl, rfl, HO⟩ := hrel
    obtain ⟨SA, sc, hv, hsl⟩ := HO.out.1.form
    have HBr := Lib.hid (HB1.out.then_ HO.out.2.1)
    by_cases hp : k < n
    · have hkx : k < l.length := by rw [← HL.out.2.1.out]; exact hp
      obtain ⟨b0, off, rfl, hb0, r0⟩ := ev_row HL.out HBr.out hkx
      have hgx := List.getElem?_eq_getElem hkx
      have hmx := List.getElem_mem hkx
      obtain ⟨x, hxx⟩ : ∃ x, l[k] = x := ⟨_, rfl⟩
      rw [hxx] at r0 hgx hmx
      obtain ⟨x1, x2⟩ := x
      dsimp only at r0
      have HXK := Lib.hid hgx
      have HR0 := Lib.hid r0
      have hsn : ((l.take k).map prE).length ≤ 40 := by rw [List.length_map, List.length_take]; have := H40.out; omega
      obtain ⟨m, hm⟩ : ∃ m, ((l.take k).map prE).length = m := ⟨_, rfl⟩
      rw [hm] at hv hsl hsn
      have HM := Lib.hid hm
      obtain ⟨T0, hbl, hN0⟩ := letE wr x1 x2
      have HT0 := Lib.hid T0
      have HSL := Lib.hid hsl
      have HV := Lib.hid hv
      have HBAD : Hid (¬ okAt ps l k → ¬ RightP e l) := Lib.hid (fun h h2 => h ((HRP.out.1 h2).1 k hkx))
      clear hxx hkx hgx hmx r0 T0 hsl hv hm
      go_upto_region 6 with (first | (refine wpList_load_mid rfl 29 (.tmp 16) rfl b0 (off + k * 17) rfl (evC x1 x2) _ HR0.out Tryd.underlying29 rfl (size_ev x1 x2) ?_) | (refine wpList_store_mid rfl 29 _ _ rfl wr.heap.size 0 (evC x1 x2).toArray rfl rfl HT0.out (size_evA x1 x2) (one_ev x1 x2) ?_))
      obtain ⟨g6, eg⟩ : ∃ g, wr.heap.size = g := ⟨_, rfl⟩
      have hbl1 := HO.out.2.1.then_ hbl
      have hown := HO.out.1.below hbl
      have hls := HSL.out.below hbl
      rw [eg] at hN0 hbl1 hown hls ⊢
      refine wp_gen (fun W => Blk W g6 29 (evC x1 x2) ∧ Below w1.heap.size w1 W ∧ OwnP w1.heap.size W v ((l.take k).map prE) ∧ LP W SA m sc ((l.take k).map prE)) ⟨hN0, hbl1, hown, hls⟩ ?_
      clear hbl hN0 HT0 hbl1 hown hls
      rintro w3 ⟨hN, hB3, ho3, hl3⟩
      have c2 := hN.cell (k := 2) rfl
      have c3 := hN.cell (k := 3) rfl
      have c4 := hN.cell (k := 4) rfl
      have hg6 := hN.lt
      have H3 := Lib.hid (And.intro hN (And.intro hB3 (And.intro ho3 hl3)))
      clear hN hB3 ho3 hl3
      go_upto_region 7 with fail
      obtain ⟨g9, eg9⟩ : ∃ g, w3.heap.size = g := ⟨_, rfl⟩
      have hal : Below w3.heap.size w3 (w3.alloc (.cells #[.string ⟨x1.ty.toArray⟩, .string ⟨x1.ky.toArray⟩] 35)) := (Below.refl _ _).alloc (Nat.le_refl _) _
      have h4 : Blk (w3.alloc (.cells #[.string ⟨x1.ty.toArray⟩, .string ⟨x1.ky.toArray⟩] 35)) w3.heap.size 35 [.string ⟨x1.ty.toArray⟩, .string ⟨x1.ky.toArray⟩] := Blk.new w3 _ _
      have h5 := H3.out.1.later hal
      have h6 := H3.out.2.1.then_ hal
      have h7 := H3.out.2.2.1.below hal
      have h8 := H3.out.2.2.2.below hal
      rw [eg9] at h4 ⊢
      refine wp_gen (fun W => Blk W g6 29 (evC x1 x2) ∧ Blk W g9 35 [.string ⟨x1.ty.toArray⟩, .string ⟨x1.ky.toArray⟩] ∧ Below w1.heap.size w1 W ∧ OwnP w1.heap.size W v ((l.take k).map prE) ∧ LP W SA m sc ((l.take k).map prE)) ⟨h5, h4, h6, h7, h8⟩ ?_
      clear hal h4 h5 h6 h7 h8 c2 c3 c4 H3 hg6 eg9
      rintro w4 ⟨h4, h5, h6, h7, h8⟩
      have c3 := h4.cell (k := 3) rfl
      have e0 := h5.cell (k := 0) rfl
      have e1 := h5.cell (k := 1) rfl
      have hst : ∃ q, x1.st = q := ⟨_, rfl⟩
      obtain ⟨st, hst⟩ := hst
      rw [hst] at c3
      have HST := Lib.hid hst
      have H4 := Lib.hid (And.intro h4 (And.intro h5 (And.intro h6 (And.intro h7 h8))))
      have HC1 := Lib.hid (containsP_calls PA ps.length pc ps (x1.ty, x1.ky) w4 (HP.out.below h6))
      clear h4 h5 h6 h7 h8 hst
      cases st with
      | false =>
        have HF := Lib.hid (HBAD.out (okAt.nst HXK.out HST.out))
        go_wp2_with fail
        go_ret
        exact ⟨false, rfl, ⟨fun h => (by cases h), fun h => absurd h HF.out⟩, HB1.out.then_ H4.out.2.2.1⟩
      | true =>
        obtain ⟨q1, hq1⟩ : ∃ q, decide ((x1.ty, x1.ky) ∈ ps) = q := ⟨_, rfl⟩
        rw [hq1] at HC1
        have HQ1 := Lib.hid hq1
        unfold prV at HC1
        dsimp only at HC1
        clear hq1
        go_wp2_with fail
        refine HC1.out.mono ?_
        rintro en w5 ⟨rfl, hb⟩
        have e0 := (H4.out.2.1.later hb).cell (k := 0) rfl
        have e1 := (H4.out.2.1.later hb).cell (k := 1) rfl
        have H5 := Lib.hid (And.intro (H4.out.2.1.later hb) (And.intro (H4.out.2.2.1.then_ hb) (And.intro (H4.out.2.2.2.1.below hb) (H4.out.2.2.2.2.below hb))))
        clear hb
        cases q1 with
        | false =>
          have HF := Lib.hid (HBAD.out (okAt.nmem HXK.out (of_decide_eq_false HQ1.out)))
          go_wp2_with fail
          go_ret
          exact ⟨false, rfl, ⟨fun h => (by cases h), fun h => absurd h HF.out⟩, HB1.out.then_ H5.out.2.1⟩
        | true =>
          have HC2 := Lib.hid (containsP_calls SA m sc ((l.take k).map prE) (x1.ty, x1.ky) w5 H5.out.2.2.2)
          obtain ⟨q2, hq2⟩ : ∃ q, decide ((x1.ty, x1.ky) ∈ (l.take k).map prE) = q := ⟨_, rfl⟩
          rw [hq2, ← HV.out] at HC2
          have HQ2 := Lib.hid hq2
          unfold prV at HC2
          dsimp only at HC2
          clear hq2
          go_wp2_with fail
          refine HC2.out.mono ?_
          rintro en w6 ⟨rfl, hb⟩
          have e0 := (H5.out.1.later hb).cell (k := 0) rfl
          have e1 := (H5.out.1.later hb).cell (k := 1) rfl
          have H6 := Lib.hid (And.intro (H5.out.1.later hb) (And.intro (H5.out.2.1.then_ hb) (H5.out.2.2.1.below hb)))
          clear hb
          cases q2 with
          | true =>
            have HF := Lib.hid (HBAD.out (okAt.twice HXK.out (of_decide_eq_true HQ2.out)))
            go_wp2_with fail
            go_ret
            exact ⟨false, rfl, ⟨fun h => (by cases h), fun h => absurd h HF.out⟩, HB1.out.then_ H6.out.2.1⟩
          | false =>
            have hln : ((l.take k).map prE).length + 1 ≤ 1000000 := by rw [HM.out]; omega
            have hsz := H6.out.2.1.size
            go_wp2_with (at_builtin; refine wpList_append_pr rfl (.tmp 37) (.tmp 39) rfl w1.heap.size v _ rfl H6.out.2.2 (x1.ty, x1.ky) _ rfl rfl hln hsz ?_; intro v2 w7 h7 g7)
            have H7 := Lib.hid (And.intro h7 (Below.prs_grown H6.out.2.1 H6.out.2.2 g7 H6.out.2.1.size))
            clear h7 g7 e0 e1
            go_wp2_with fail
            refine ⟨⟨k + 1, v2, by omega, rfl, by go_num, Lib.hid ⟨?_, H7.out.2, fun j hj => ?_⟩⟩, by simp [intOf]; omega⟩
            · rw [List.take_add_one, HXK.out, Option.toList_some, List.map_append]
              exact H7.out.1
            · rcases Nat.lt_or_ge j k with h | h
              · exact HO.out.2.2 j h
              · obtain rfl : j = k := by omega
                exact ⟨(x1, x2), HXK.out, HST.out, of_decide_eq_true HQ1.out, of_decide_eq_false HQ2.out⟩
    · obtain rfl : n = k := by omega
      have hn := HL.out.2.1.out
      have hall : l.take n = l := by rw [hn, List.take_length]
      have c2 := (HX1.out.later HO.out.2.1).cell (k := 2) rfl
      have HR : Hid (RightP e l ↔ (e.ty = creT ∨ (creT, []) ∈ l.map prE)) := Lib.hid (HRP.out.trans ⟨fun h => h.2, fun h => ⟨fun j hj => HO.out.2.2 j (by omega), h⟩⟩)
      by_cases h0 : e.ty = [109, 46, 114, 111, 111, 109, 46, 99, 114, 101, 97, 116, 101]
      · rw [h0] at c2
        have HF : Hid (RightP e l) := Lib.hid (HR.out.2 (.inl h0))
        clear h0 hv hsl hall
        go_wp2_with fail
        go_ret
        exact ⟨true, rfl, ⟨fun _ => HF.out, fun _ => rfl⟩, HBr.out⟩
      · have s0 : (e.ty == [109, 46, 114, 111, 111, 109, 46, 99, 114, 101, 97, 116, 101]) = false := by simp [h0]
        have H0 := Lib.hid h0
        have HC := Lib.hid (containsP_calls SA _ sc ((l.take n).map prE) (creT, []) wr hsl)
        rw [← hv, hall] at HC
        obtain ⟨q, hq⟩ : ∃ q, decide ((creT, []) ∈ l.map prE) = q := ⟨_, rfl⟩
        rw [hq] at HC
        have HQ := Lib.hid hq
        unfold prV creT at HC
        dsimp only at HC
        clear h0 hq hv hsl hall
        go_wp2_with fail
        refine HC.out.mono ?_
        rintro en w5 ⟨rfl, hb⟩
        have HB5 := Lib.hid (HBr.out.then_ hb)
        clear hb c2
        cases q with
        | true =>
          go_wp2_with fail
          go_ret
          exact ⟨true, rfl, ⟨fun _ => HR.out.2 (.inr (of_decide_eq_true HQ.out)), fun _ => rfl⟩, HB5.out⟩
        | false =>
          go_wp2_with fail
          go_ret
          exact ⟨false, rfl, ⟨fun h => (by cases h), fun h => by
            rcases HR.out.1 h with h | h
            · exact absurd h H0.out
            · exact absurd h (of_decide_eq_false HQ.out)⟩, HB5.out⟩
end Go.Proofs.YtpleminoiodmgaaDoor
