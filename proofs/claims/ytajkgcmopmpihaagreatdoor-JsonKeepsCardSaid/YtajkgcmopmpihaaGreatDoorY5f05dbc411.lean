/- Texts put together: Jp2 Lw Jp3. -/
import Derived.Test.YtajkgcmopmpihaaGreatDoorYbc60d53a70
import Derived.Test.YtajkgcmopmpihaaGreatDoorYb29be83949
namespace Go.Proofs.YtajkgcmopmpihaaGreatDoor
open Go.ChangeShapes Go.WideShapes Go.ChangeAt Go.RowKit Go.IntWalk
set_option linter.unusedVariables false
set_option maxRecDepth 100000
theorem RSt.other {base : Nat} {w w' : World} {r : Nat} {s : List UInt8} {at_ : Nat} {U : Value} {fs : List Frm} {C : Nat → Prop} (h : RSt base w r s at_ U fs) (hc : Chg C w w') (hr : ¬ C r) (hU : ∀ b, U.ownBlock = some b → ¬ C b) (hf : ∀ f ∈ fs, ∀ b, f.F b → ¬ C b) : RSt base w' r s at_ U fs := by
  refine ⟨hc.blk h.blk hr, ?_, h.ur, h.away, fun f hm => (h.ins f hm).chg hc (hf f hm), h.apart, h.hr, h.len, h.hat, h.hs, h.sub⟩
  have ho := h.own
  refine ⟨ho.1, ?_⟩
  rcases ho.2 with h3 | ⟨q, cap, cur, hv, hb2, hh, rest⟩
  · exact .inl h3
  · exact .inr ⟨q, cap, cur, hv, hb2, by rw [hc.block q ((Array.getElem?_eq_some_iff.1 hh).1) (hU q (by rw [hv]; rfl))]; exact hh, rest⟩
set_option maxHeartbeats 4000000 in
theorem close_table (base : Nat) (w : World) (r : Nat) (s : List UInt8) (at_ : Nat) (U : Value) (acc : JT) (g : Nat) (L : Value) (mb : Nat) (F : Nat → Prop) (fs : List Frm) (h : RSt base w r s at_ U (⟨.k acc, g, L, mb, F⟩ :: fs)) :
    Calls Tryz.prog 58 #[.pointer (some ⟨r, 0, none⟩)] w (ClPost base w r s at_ (mapV (sortJ acc)) F fs) := by
  have b0 : Below w.heap.size w (w.alloc (.cells #[.int .i64 0, .bool false, .int .i64 0, .string ⟨#[]⟩, .slice none 0 0, .slice none 0 0] 25)) := (Below.refl _ _).alloc (Nat.le_refl _) _
  have HI := Lib.hid (And.intro (h.later b0) (And.intro b0 (Blk.new w [.int .i64 0, .bool false, .int .i64 0, .string ⟨#[]⟩, .slice none 0 0, .slice none 0 0] 25)))
  have HLW := Lib.hid h.lt
  obtain ⟨ub, cap, hU, hub, _, hubr, hubF⟩ := h.top
  subst hU
  obtain ⟨m, hm⟩ : ∃ m, fs.length = m := ⟨_, rfl⟩
  have hm32 : m ≤ 32 := by have := h.len; simp at this; omega
  have HM := Lib.hid hm
  rw [hm] at HI
  have hwr : IntKind.i64.wrap (m : Int) = (m : Int) := IntWalk.i64_in _ (by omega)
  have hmc : (m : Int) ≤ (cap : Int) := by
    obtain ⟨A', n', cap', hU', _, hn', hnc'⟩ := h.own.form
    injection hU' with e1 e2 e3
    omega
  have HFW := Lib.hid (show ∀ b, F b → b < w.heap.size from fun b hb => ((h.ins _ (List.mem_cons_self ..)).2.2.2.2.1 b hb).2)
  have HX6 := Lib.hid (show acc.ext ≤ 65536 from Nat.le_trans (h.sub _ (List.mem_cons_self ..)) (Nat.le_trans h.hat h.hs))
  have HUB := Lib.hid (And.intro hub hubF)
  have HFF := Lib.hid (show ∀ f ∈ fs, ¬ f.F w.heap.size from fun f hf hb => absurd ((h.ins f (List.mem_cons_of_mem _ hf)).2.2.2.2.1 _ hb).2 (Nat.lt_irrefl _))
  have HAP := Lib.hid (And.intro (h.away _ (List.mem_cons_self ..)).1 (List.pairwise_cons.1 h.apart).1)
  clear h b0 hub hubr hubF
  go_enter Tryz.func58, Tryz.ntmps58
  go_upto_region 1 with fail
  refine wp_gen (fun W => RSt base W r s at_ (.slice (some ⟨ub, 0, none⟩) (m + 1) cap) (⟨.k acc, g, L, mb, F⟩ :: fs) ∧ Below w.heap.size w W ∧ Blk W w.heap.size 25 [.int .i64 0, .bool false, .int .i64 0, .string ⟨#[]⟩, .slice none 0 0, .slice none 0 0]) HI.out ?_
  clear HI
  rintro W0 ⟨g1, g2, g3⟩
  have H0 := Lib.hid (And.intro g1 (And.intro g2 g3))
  obtain ⟨ub2, cap2, hU2, hub, dt, _, _⟩ := g1.top
  injection hU2 with e1 e2 e3
  injection e1 with e1
  injection e1 with e1
  subst e1
  have d2 := g1.blk.cell (k := 2) rfl
  have f2 := g1.blk.frozen 2
  rw [hm] at dt
  have dt2 : W0.cell? ⟨ub, m, none⟩ = some (.iface 94 (.pointer (some ⟨g, 0, none⟩))) := dt
  have hin := g1.ins _ (List.mem_cons_self ..)
  have hgr : g ≠ r := fun e => (g1.away _ (List.mem_cons_self ..)).1 (by rw [← e]; exact hin.2.1)
  have hpop := RSt.pop (by rw [← HM.out] at g1; exact g1)
  rw [HM.out] at hpop
  have hc1 : Chg (· = r) W0 (W0.setCell ⟨r, 2, none⟩ (.slice (some ⟨ub, 0, none⟩) m cap)) := Chg.set1 (C := (· = r)) rfl _ _
  have H1 := Lib.hid (And.intro hpop (And.intro ((Chg.of g2 : Chg (fun b => b = r ∨ F b) w W0).then_ (hc1.mono (fun b _ e => .inl e))) (And.intro (g3.far1 (Nat.ne_of_gt HLW.out) 2 (.slice (some ⟨ub, 0, none⟩) m cap)) (hin.chg hc1 (fun b hb e => (g1.away _ (List.mem_cons_self ..)).1 (by rw [← e]; exact hb))))))
  clear dt g1 g2 g3 hm e2 e3 hin hgr hpop hc1
  go_upto_region 4 with fail
  refine wp_gen (fun W => RSt base W r s at_ (.slice (some ⟨ub, 0, none⟩) m cap) fs ∧ Chg (fun b => b = r ∨ F b) w W ∧ Blk W w.heap.size 25 [.int .i64 0, .bool false, .int .i64 0, .string ⟨#[]⟩, .slice none 0 0, .slice none 0 0] ∧ FIn base W ⟨.k acc, g, L, mb, F⟩) H1.out ?_
  clear H1 H0 d2 f2 dt2
  rintro W1 ⟨g1, g2, g4, g5⟩
  have HU1 := Lib.hid (show ∀ b, (Value.slice (some ⟨ub, 0, none⟩) m cap).ownBlock = some b → b ≠ w.heap.size from fun b e => by
    have e2 : ub = b := by injection e
    rw [← e2]; exact Nat.ne_of_lt HUB.out.1)
  have HU2 := Lib.hid (show ∀ b, (Value.slice (some ⟨ub, 0, none⟩) m cap).ownBlock = some b → ¬ F b from fun b e => by
    have e2 : ub = b := by injection e
    rw [← e2]; exact HUB.out.2)
  obtain ⟨h1f, h2f, h3f, h4f, h5f, P, hrow, hPf⟩ := g5
  obtain ⟨⟨key, hbk⟩, hseen, hmg, hap⟩ : (∃ key : List UInt8, Blk W1 g 97 [L, .map (some mb), .string ⟨key.toArray⟩]) ∧ SeenIs W1 mb (fun x => acc.hasK x) acc.ext ∧ mb ≠ g ∧ acc.apart := h1f
  have HS := Lib.hid (row_sort hrow hap (fun b hb => ⟨(h5f b (hPf b hb).1).2, (hPf b hb).2.2.2⟩) HX6.out)
  have H2 := Lib.hid (And.intro g1 (And.intro g2 (And.intro g4 (And.intro (fun b hb => (hPf b hb).1 : ∀ b, P b → F b) (And.intro (fun q hq => (h4f q hq).1 : ∀ q, L.ownBlock = some q → F q) (fun b hb => (h5f b hb).2 : ∀ b, F b → b < W1.heap.size))))))
  have dl := hbk.cell (k := 0) rfl
  have hta : (Instr.typeAssert (.iface 94 (.pointer (some ⟨g, 0, none⟩))) 20 90 true).run Tryz.prog W1 = .ok (.tuple #[.pointer none, .bool false]) W1 := by first | rfl | (unfold Instr.typeAssert; go_simp; rfl) | (unfold Instr.typeAssert; go_simp; done)
  have htb : (Instr.typeAssert (.iface 94 (.pointer (some ⟨g, 0, none⟩))) 20 94 false).run Tryz.prog W1 = .ok (.pointer (some ⟨g, 0, none⟩)) W1 := by first | rfl | (unfold Instr.typeAssert; go_simp; rfl) | (unfold Instr.typeAssert; go_simp; done)
  clear g1 g2 g4 h2f h3f h4f h5f hrow hPf hap hseen hmg hbk
  go_wp2_with fail
  refine HS.out.mono ?_
  rintro e W2 ⟨rfl, hrow2, hc2⟩
  have hF2 : ∀ b, L.ownBlock = some b → F b := H2.out.2.2.2.2.1
  obtain ⟨A, c, hL, hac, hjs⟩ := RowP.part (Q := F) hrow2 (sortJ_ext acc).symm H2.out.2.2.2.1 hF2
  obtain ⟨n, hn⟩ : ∃ n, acc.ext = n := ⟨_, rfl⟩
  have hL2 : L = .slice A n c := by rw [← hn]; exact hL
  have HNN := Lib.hid hn
  subst hL2
  have hc3 : Chg (fun b => b = r ∨ F b) w W2 := H2.out.2.1.then_ (hc2.mono (fun b _ e => .inr (hF2 b e)))
  have hr3 : RSt base W2 r s at_ (.slice (some ⟨ub, 0, none⟩) m cap) fs := H2.out.1.other hc2 (fun e => HAP.out.1 (hF2 r e)) (fun b e e2 => HU2.out b e (hF2 b e2)) (fun f hf b hb e => HAP.out.2 f hf b (hF2 b e) hb)
  have hb3 : Blk W2 w.heap.size 25 [.int .i64 0, .bool false, .int .i64 0, .string ⟨#[]⟩, .slice none 0 0, .slice none 0 0] := hc2.blk H2.out.2.2.1 (fun e => absurd (HFW.out _ (hF2 _ e)) (Nat.lt_irrefl _))
  have H3 := Lib.hid (And.intro hr3 (And.intro hc3 (And.intro hb3 (And.intro hjs (And.intro (show acc.ext ≤ c ∧ UnfV W2 F A .none from ⟨hac, RowP.unf hrow2 hF2⟩) (show ∀ b, F b → b < W2.heap.size from fun b hb => Nat.lt_of_lt_of_le (H2.out.2.2.2.2.2 b hb) hc2.size))))))
  obtain ⟨z0, z1, z2, z3, z4, z5, y0, y1, y2, y3, y4, y5⟩ := cells6s hb3
  clear hrow2 hc2 hF2 hjs hac hn hL hc3 hr3 hb3 H2 HS dl hta htb
  go_wp2_with fail
  have hcs : Chg (· = w.heap.size) W2 (set6 W2 w.heap.size (.int .i64 5) (.bool false) (.int .i64 0) (.string ⟨#[]⟩) (.slice none 0 0) (.slice A n c)) := (((((((Chg.refl (· = w.heap.size) W2).setCell (.inl rfl) _).setCell (.inl rfl) _).setCell (.inl rfl) _).setCell (.inl rfl) _).setCell (.inl rfl) _).setCell (.inl rfl) _)
  refine bodyPost_ret (res_cell6 rfl _ ⟨w.heap.size, 0, none⟩ _ _ rfl (Blk.load (blk6 H3.out.2.2.1) _ Tryz.underlying25 rfl size_v6)) rfl ⟨chg6 H3.out.2.1 (Nat.le_refl _), none, 0, 0, A, n, c, _, rfl, ?_, rst6 H3.out.1 (Nat.ne_of_lt HLW.out) H3.out.2.2.1 HU1.out HFF.out, HU2.out, (H3.out.2.2.2.2.1.2.to (fun b hb => hcs.block b (Nat.lt_of_lt_of_le (HFW.out b hb) (Nat.le_of_lt H3.out.2.2.1.lt)) (Nat.ne_of_lt (HFW.out b hb)))).swap⟩
  refine ⟨⟨rfl, Nat.le_refl _, Nat.zero_le _⟩, ⟨by show n = (sortJ acc).ext; rw [sortJ_ext]; exact HNN.out.symm, by rw [← HNN.out]; exact H3.out.2.2.2.2.1.1, by have := HX6.out; rw [HNN.out] at this; omega⟩, .inl rfl, H3.out.2.2.2.1.stay (fun b o hb => hcs.cell (Nat.lt_of_lt_of_le (HFW.out b hb) (Nat.le_of_lt H3.out.2.2.1.lt)) (Nat.ne_of_lt (HFW.out b hb))) (fun _ h => h), ?_⟩
  show Fit 5 0 []
  exact fit_map
end Go.Proofs.YtajkgcmopmpihaaGreatDoor
namespace Go.Proofs.YtajkgcmopmpihaaGreatDoor
open Go.RowKit
set_option linter.unusedVariables false
def fanB (md : Region.Mode) (ops : Array Oper) (n : Nat) : Bool := (List.range ops.size).all fun t => decide (t ≤ n) || Region.waitsFor md ops t n
def headL (md : Region.Mode) (ops : Array Oper) (L0 : Array Bool) : Nat → Nat → Array Bool → Bool
  | 0, _, listed => decide (listed = L0)
  | f + 1, k, listed => (Region.ready md ops listed).contains k && Region.free md ops listed k && headL md ops L0 f (k + 1) (listed.setIfInBounds k true)
section
variable {P : Program} {ops : Array Oper} {md : Region.Mode} {w0 : World}
theorem tail_fan {n : Nat} {listed : Array Bool} (hs : Region.sinkB md ops n = true) (hc : fanB md ops n = true) (hn : n < ops.size) (inv : HeadInv md ops n listed) :
    ∀ (d i : Nat), n - i = d → i < n → listed.getD i true = false → ∀ t, n ≤ t → t ∉ Region.ready md ops listed := by
  intro d
  induction d using Nat.strongRecOn with
  | _ d ih =>
    intro i hd hi hun t ht hr
    obtain ⟨_, ot, hot, hall⟩ := mem_ready.1 hr
    have htlt : t < ops.size := (Array.getElem?_eq_some_iff.1 hot).1
    by_cases htn : t = n
    · subst htn
      have h1 := List.all_eq_true.1 hs i (List.mem_range.2 hi)
      obtain ⟨j, hj, hj2⟩ := List.any_eq_true.1 h1
      simp only [Bool.and_eq_true, decide_eq_true_eq] at hj2
      obtain ⟨oj, hoj, e, he, hb, hon⟩ := Region.waitsFor_spec hj2.2
      have hjle : j ≤ t := by have := List.mem_range.1 hj; omega
      by_cases hjt : j = t
      · subst hjt
        have : oj = ot := Option.some.inj (hoj.symm.trans hot)
        subst this
        have h2 := hall e he hb
        rw [hon, getD_both hun] at h2
        cases h2
      · cases hl : listed.getD j false with
        | true =>
          have h2 := inv.closed j oj hoj hl e he hb
          rw [hon, getD_both hun] at h2
          cases h2
        | false =>
          have hjs : j < listed.size := by rw [inv.size]; omega
          exact ih (t - j) (by omega) j rfl (by omega) (getD_in hjs hl) t (Nat.le_refl _) hr
    · have h1 := List.all_eq_true.1 hc t (List.mem_range.2 htlt)
      simp only [Bool.or_eq_true, decide_eq_true_eq] at h1
      rcases h1 with h1 | h1
      · omega
      · obtain ⟨o', ho', e, he, hb, hon⟩ := Region.waitsFor_spec h1
        have : o' = ot := Option.some.inj (ho'.symm.trans hot)
        subst this
        have h2 := hall e he hb
        rw [hon, getD_both (inv.tail n (Nat.le_refl _) hn)] at h2
        cases h2
theorem wpAnyLkW_first {F : Nat → Lft} {n i : Nat} {oi : Oper} {L : Array Bool → (World → Prop) → Act → Prop} (hi : ops[i]? = some oi) (hsel : ∀ (j : Nat) (o : Oper) cs b, ops[j]? = some o → o.op ≠ .select cs b)
    (htw : ∀ (listed : Array Bool), HeadInv md ops n listed → ∀ i, i < n → listed.getD i true = false → ∀ t, n ≤ t → t ∉ Region.ready md ops listed) (hin : i < n)
    (hdone : ∀ listed Z a, L listed Z a → ∀ j ∈ Region.ready md ops listed, n ≤ j) (hL : ∀ listed Z Z' a, (∀ w, Z' w → Z w) → L listed Z a → L listed Z' a) :
    ∀ (f : Nat) (listed : Array Bool) (Z : World → Prop) (a : Act), HeadInv md ops n listed →
      (∀ j oj, ops[j]? = some oj → j ≠ i → listed.getD j true = false → (∀ e ∈ oj.after, Region.binds md e = true → e.on ≠ i) → oi.apart ops oj = true) →
      i ∈ Region.ready md ops listed → stepK P ops w0 oi (F i) (wpAnyLkT P md ops w0 F n L f (listed.setIfInBounds i true)) Z a → wpAnyLkT P md ops w0 F n L (f + 1) listed Z a := by
  intro f
  induction f with
  | zero =>
    intro listed Z a inv _ hr H
    have hun := (mem_ready.1 hr).1
    refine ⟨fun h => (by rw [h] at hr; cases hr), fun j hj => ?_⟩
    have hjn : j < n := by
      rcases Nat.lt_or_ge j n with h | h
      · exact h
      · exact absurd hj (htw _ inv i hin hun j h)
    refine ⟨hjn, ?_⟩
    by_cases hji : j = i
    · subst hji; unfold kOp; simp only [hi]; exact H
    · obtain ⟨Z', a', hE⟩ : ∃ Z' a', L (listed.setIfInBounds i true) Z' a' := by
        cases hw : Region.wanted oi (yielded ops a.tmps) with
        | true => obtain ⟨v0, hv0⟩ := (H.1 hw).1.1; exact ⟨_, _, (H.1 hw).2 v0 hv0⟩
        | false => exact ⟨_, _, H.2 hw⟩
      have := hdone _ _ _ hE j (ready_mono hj hji)
      omega
  | succ f ih =>
    intro listed Z a inv hfree hr H
    have hun := (mem_ready.1 hr).1
    refine ⟨fun h => (by rw [h] at hr; cases hr), fun j hj => ?_⟩
    have hjn : j < n := by
      rcases Nat.lt_or_ge j n with h | h
      · exact h
      · exact absurd hj (htw _ inv i hin hun j h)
    refine ⟨hjn, ?_⟩
    by_cases hji : j = i
    · subst hji; unfold kOp; simp only [hi]; exact H
    · have h1 : stepK P ops w0 oi (F i) (fun Z1 a1 => kOp P ops w0 F j (wpAnyLkT P md ops w0 F n L f ((listed.setIfInBounds i true).setIfInBounds j true)) Z1 a1) Z a := stepK_mono (fun _ h => h) (fun Y Y' a' hY h => kOp_mono hY (fun Y1 Y2 a2 h2 hk => wpAnyLkT_anti hL _ _ Y1 Y2 a2 h2 hk) (h.2 j (ready_mono hj hji)).2) H
      obtain ⟨hjun, oj, hoj, hall⟩ := mem_ready.1 hj
      have hnot : ∀ e ∈ oj.after, Region.binds md e = true → e.on ≠ i := fun e he hb heq => by
        have h1 := hall e he hb
        have h0 := (mem_ready.1 hr).1
        rw [heq] at h1
        rcases Nat.lt_or_ge i listed.size with h' | h'
        · simp [h'] at h0 h1; rw [h0] at h1; cases h1
        · simp [Array.getElem?_eq_none h'] at h1
      have h2 := kOp_put hoj (hfree j oj hoj hji hjun hnot) (fun cs b => hsel i oi cs b hi) (fun cs b => hsel j oj cs b hoj) (fun Y Y' a' hY hk => wpAnyLkT_anti hL _ _ Y Y' a' hY hk) h1
      have hfree' : ∀ k ok, ops[k]? = some ok → k ≠ i → (listed.setIfInBounds j true).getD k true = false →
          (∀ e ∈ ok.after, Region.binds md e = true → e.on ≠ i) → oi.apart ops ok = true := fun k ok hk hki hun hno => by
        refine hfree k ok hk hki ?_ hno
        by_cases hjk : j = k
        · subst hjk; exact hjun
        · rw [getD_set_ne true hjk] at hun; exact hun
      refine kOp_mono (fun _ hw => hw) (fun Y Y' a' hY h3 => ih (listed.setIfInBounds j true) Y' a' (inv.set hj hjn) hfree' (ready_mono hr (Ne.symm hji)) ?_) h2
      rw [Array.setIfInBounds_comm _ _ hji]
      exact stepK_mono hY (fun Y1 Y2 a2 h2 hk => wpAnyLkT_anti hL _ _ Y1 Y2 a2 h2 hk) h3
theorem wpAnyLkW_lex {F : Nat → Lft} {n : Nat} {L0 : Array Bool} {Lq : (World → Prop) → Act → Prop} (hA : ∀ Z Z' a, (∀ w, Z' w → Z w) → Lq Z a → Lq Z' a) (hsel : Region.noSelect ops = true)
    (htw : ∀ (listed : Array Bool), HeadInv md ops n listed → ∀ i, i < n → listed.getD i true = false → ∀ t, n ≤ t → t ∉ Region.ready md ops listed) (hr0 : ∀ j ∈ Region.ready md ops L0, n ≤ j) :
    ∀ (l : List Oper) (Fs : List Lft) (k : Nat) (listed : Array Bool) (Z : World → Prop) (a : Act), (∀ j, j < l.length → l[j]? = ops[k + j]?) → (∀ j kd, Fs[j]? = some kd → F (k + j) = kd) → k + l.length = n → HeadInv md ops n listed →
    headL md ops L0 l.length k listed = true → wpLk P ops w0 Lq l Fs Z a →
    wpAnyLkT P md ops w0 F n (fun listed' Z' a' => listed' = L0 ∧ Lq Z' a') l.length listed Z a
  | [], _, k, listed, Z, a, hl, _, hk, inv, hB, h => ⟨by simpa [headL] using hB, by simpa [wpLk] using h⟩
  | o :: l, [], k, listed, Z, a, hl, _, hk, inv, hB, h => by simp [wpLk] at h
  | o :: l, kd :: Fs, k, listed, Z, a, hl, hF, hk, inv, hB, h => by
    have h0 : ops[k]? = some o := by simpa using (hl 0 (by simp)).symm
    simp only [List.length_cons, headL, Bool.and_eq_true] at hB
    obtain ⟨⟨hr, hf⟩, hB'⟩ := hB
    have hkn : k < n := by simp only [List.length_cons] at hk; omega
    have hr' : k ∈ Region.ready md ops listed := by simpa using hr
    unfold wpLk at h
    have hR : F k = kd := by simpa using hF 0 kd (by simp)
    rw [← hR] at h
    exact wpAnyLkW_first h0 (Region.noSelect_spec hsel) htw hkn (fun listed' Z' a' hL => by rw [hL.1]; exact hr0) (fun listed' Y Y' a' hY hL => ⟨hL.1, hA Y Y' a' hY hL.2⟩) l.length listed Z a inv (Region.free_spec h0 hf) hr'
      (stepK_mono (fun _ h => h) (fun Y Y' a' hY hK => wpAnyLkT_anti (fun listed' Y Y' a' hY hL => ⟨hL.1, hA Y Y' a' hY hL.2⟩) _ _ Y Y' a' hY (wpAnyLkW_lex hA hsel htw hr0 l Fs (k + 1) _ _ _ (fun j hj => by have := hl (j + 1) (by simp; omega); simpa [Nat.add_assoc, Nat.add_comm 1 j] using this)
        (fun j kd hj => by have := hF (j + 1) kd (by simpa using hj); rw [← this]; congr 1; omega) (by simp only [List.length_cons] at hk; omega) (inv.set hr' hkn) hB' hK)) h)
theorem wp_region_lw {id : Nat} {Q : Exit → Act → World → Prop} {a : Act} {w : World} {l : List Oper} {Fs : List Lft} (n g : Nat) (L0 : Array Bool) (hm : P.follows .mixedOrders = true) (hsel : Region.noSelect l.toArray = true) (hn : n < l.length) (hg : n + g = l.length)
    (hs : Region.sinkB .any l.toArray n = true) (hc : fanB .any l.toArray n = true) (hh : headL .any l.toArray L0 n 0 (Array.replicate l.length false) = true) (hr : (Region.ready .any l.toArray L0).all (fun j => decide (n ≤ j)) = true)
    (h : wpLk P l.toArray w (fun Z a' => ∀ w', Below w.heap.size w w' → Z w' → wpAny P .any l.toArray Q g L0 a' w') (l.take n) Fs (fun _ => True) a) : (Code.region id l.toArray true).wp P Q a w := by
  have hn' : n < l.toArray.size := by simpa using hn
  have htl : (l.take n).length = n := by simp; omega
  have inv0 : HeadInv .any l.toArray n (Array.replicate l.length false) :=
    ⟨by simp, fun j oj _ hl => (by rw [getD_replicate_false] at hl; cases hl), fun t _ ht => getD_in (by simpa using ht) (getD_replicate_false _ _)⟩
  have H := wpAnyLkW_lex (P := P) (w0 := w) (md := .any) (F := fun i => Fs.getD i (Lft.bare fun _ => False)) (L0 := L0) (fun Z Z' a' hz h w' hb hw => h w' hb (hz w' hw)) hsel (fun listed inv i hi hun t ht => tail_fan hs hc hn' inv _ i rfl hi hun t ht)
    (fun j hj => by simpa using List.all_eq_true.1 hr j hj) (l.take n) Fs 0 _ (fun _ => True) a (fun j hj => by
    have hj' : j < n := by rw [htl] at hj; exact hj
    simp [hj']) (fun j kd hj => by simp [hj]) (by simpa using htl) inv0 (by rw [htl]; exact hh) h
  refine wp_region_any hm ?_
  have := wpAny_of_headK (Q' := Q) (g := g) (fun listed Z a' w' hb hz hL => by
    rw [hL.1]; exact hL.2 w' hb hz) _ _ (fun _ => True) _ { w with drawn := w.drawn + 1 } (fun _ _ _ _ => trivial) ((Below.refl w.heap.size w).drewN 1) trivial H
  rw [htl, hg] at this
  simpa using this
theorem exec_store_one {o : Oper} {a : Act} {w w' : World} (ty : TypeId) (x y : Operand) (ho : o.op = .store ty x y) (p v : Value) (hx : a.eval x = p) (hy : a.eval y = v)
    (hrun : (Instr.storeAt ty p v).run P w = .ok () w') : (execOp a.eval o).run P w = .ok .skip w' := by
  unfold execOp
  simp only [ho, hx, hy, Sem.run_bind, Sem.run_pure, hrun, Result.andThen_ok]
theorem exec_store_mid {op : Oper} {a : Act} {w : World} (ty : TypeId) (x y : Operand) (ho : op.op = .store ty x y)
    (b o : Nat) (cells : Array Value) (hx : a.eval x = .pointer (some ⟨b, o, none⟩)) (hy : a.eval y = .agg cells)
    (ht : w.there b o cells.size) (hi : (P.info? ty).map (·.size) = some cells.size) (h1 : cells.all (·.oneCell') = true) : (execOp a.eval op).run P w = .ok .skip (w.setCells b o cells.toList) := by
  unfold execOp
  simp only [ho, hx, hy, Instr.storeAt, Instr.sureAddr, Sem.run_bind, Sem.run_pure, Result.andThen_ok, run_storeVar_mid w b o ty cells ht hi h1]
theorem wp_of_skip {o : Oper} {a : Act} {w w' : World} {K : Act → World → Prop} {Q : Exit → Act → World → Prop} (hd : o.dst = none) (h : (execOp a.eval o).run P w = .ok .skip w') (hK : K a w') : o.wp P a w K Q := by
  unfold Oper.wp
  rw [h]
  show K (a.put o.dst undef) w'
  rw [hd]
  exact hK
theorem wa_two_st {l : List Oper} {listed : Array Bool} {a : Act} {w : World} {Q : Exit → Act → World → Prop} (wA wB wE : World) (i j : Nat) {o o2 : Oper} (hr : Region.ready md l.toArray listed = [i, j]) (hi : l[i]? = some o) (hj : l[j]? = some o2)
    (hw : Region.wanted o (yielded l.toArray a.tmps) = true) (hw2 : Region.wanted o2 (yielded l.toArray a.tmps) = true) (hd1 : o.dst = none) (hd2 : o2.dst = none)
    (hr1 : Region.ready md l.toArray (listed.setIfInBounds i true) = [j]) (hr2 : Region.ready md l.toArray (listed.setIfInBounds j true) = [i])
    (he1 : Region.ready md l.toArray ((listed.setIfInBounds i true).setIfInBounds j true) = []) (he2 : Region.ready md l.toArray ((listed.setIfInBounds j true).setIfInBounds i true) = [])
    (h1 : (execOp a.eval o).run P w = .ok .skip wA) (h1' : (execOp a.eval o2).run P wA = .ok .skip wE) (h2 : (execOp a.eval o2).run P w = .ok .skip wB) (h2' : (execOp a.eval o).run P wB = .ok .skip wE)
    (hQ : Q .normal a wE) : wpAny P md l.toArray Q 2 listed a w :=
  wa_two i j hr hi hj hw hw2 (wp_of_skip hd1 h1 (wa_op j hr1 hj hw2 (wp_of_skip hd2 h1' (wa_done he1 hQ)))) (wp_of_skip hd2 h2 (wa_op i hr2 hi hw (wp_of_skip hd1 h2' (wa_done he2 hQ))))
end
end Go.Proofs.YtajkgcmopmpihaaGreatDoor
namespace Go.Proofs.YtajkgcmopmpihaaGreatDoor
open Go.ChangeShapes Go.WideShapes Go.ChangeAt Go.RowKit Go.IntWalk
set_option linter.unusedVariables false
set_option maxRecDepth 100000
theorem modify_comm {α : Type} (a : Array α) {i j : Nat} (h : i ≠ j) (f g : α → α) : (a.modify i f).modify j g = (a.modify j g).modify i f := by
  apply Array.ext_getElem?
  intro k
  simp only [Array.getElem?_modify]
  by_cases h1 : i = k
  · by_cases h2 : j = k
    · exact absurd (h1.trans h2.symm) h
    · simp [h1, h2]
  · by_cases h2 : j = k
    · simp [h1, h2]
    · simp [h1, h2]
theorem setCell_comm {g lg k o : Nat} (hne : g ≠ lg) (x v : Value) (W : World) : (W.setCell ⟨g, o, none⟩ v).setCell ⟨lg, k, none⟩ x = (W.setCell ⟨lg, k, none⟩ x).setCell ⟨g, o, none⟩ v := by
  unfold World.setCell
  simp only [World.mk.injEq, and_true]
  exact modify_comm _ hne _ _
theorem setCells_comm {g lg k : Nat} (hne : g ≠ lg) (x : Value) : ∀ (vs : List Value) (o : Nat) (W : World), (W.setCells g o vs).setCell ⟨lg, k, none⟩ x = (W.setCell ⟨lg, k, none⟩ x).setCells g o vs
  | [], o, W => rfl
  | v :: vs, o, W => by
    show ((W.setCell ⟨g, o, none⟩ v).setCells g (o + 1) vs).setCell ⟨lg, k, none⟩ x = ((W.setCell ⟨lg, k, none⟩ x).setCell ⟨g, o, none⟩ v).setCells g (o + 1) vs
    rw [setCells_comm hne x vs (o + 1), setCell_comm hne]
theorem setCells_row {g : Nat} {T : TypeId} {fr : Nat × Nat} : ∀ (vs : List Value) (o : Nat) (W : World) (cs : List Value), W.heap[g]? = some (.cells cs.toArray T fr) → o + vs.length ≤ cs.length →
    (W.setCells g o vs).heap[g]? = some (.cells (cs.take o ++ vs ++ cs.drop (o + vs.length)).toArray T fr)
  | [], o, W, cs, h, _ => by simpa [World.setCells] using h
  | v :: vs, o, W, cs, h, hl => by
    have hlt : o < cs.length := by simp at hl; omega
    have h1 : (W.setCell ⟨g, o, none⟩ v).heap[g]? = some (.cells (cs.set o v).toArray T fr) := by
      simp [World.setCell, Array.getElem?_modify, h]
    have h2 := setCells_row vs (o + 1) (W.setCell ⟨g, o, none⟩ v) (cs.set o v) h1 (by simp at hl ⊢; omega)
    have hto : (cs.take o).length = o := by simp; omega
    have e : ((cs.set o v).take (o + 1) ++ vs ++ (cs.set o v).drop (o + 1 + vs.length)) = cs.take o ++ (v :: vs) ++ cs.drop (o + (v :: vs).length) := by
      have d1 : (cs.take o).take (o + 1) = cs.take o := List.take_of_length_le (by omega)
      have d2 : (cs.take o).drop (o + 1 + vs.length) = [] := List.drop_of_length_le (by omega)
      rw [List.set_eq_take_append_cons_drop, if_pos hlt, List.take_append, List.drop_append, hto, d1, d2, show o + 1 - o = 1 by omega, show o + 1 + vs.length - o = vs.length + 1 by omega]
      simp [Nat.add_comm, Nat.add_left_comm]
    rw [e] at h2
    exact h2
theorem setCells_chg {g : Nat} : ∀ (vs : List Value) (o : Nat) (W : World), Chg (· = g) W (W.setCells g o vs)
  | [], o, W => Chg.refl _ _
  | v :: vs, o, W => (Chg.set1 (C := (· = g)) rfl v W).then_ (setCells_chg vs (o + 1) _ |>.mono (fun _ _ h => h))
theorem take_put {cur vs : List Value} {o n : Nat} (h1 : o ≤ cur.length) (hn : n = o + vs.length) : (cur.take o ++ vs ++ cur.drop (o + vs.length)).take n = cur.take o ++ vs := by
  have hl : (cur.take o ++ vs).length = n := by simp [hn]; omega
  rw [List.take_append_of_le_length (by omega), ← hl, List.take_length]
theorem newC_len {mem : Bool} {key : List UInt8} {e : List Value} (h : e.length = 6) : (newC mem key e).length = stM mem := by cases mem <;> simp [newC, stM, kwM, h]
theorem jcs_len {P : Nat → Prop} {w : World} {e : List Value} {v : Jv} (h : JCs P w e v) : e.length = 6 := by obtain ⟨A, nl, cl, B, nm, cm, rfl, _⟩ := h; rfl
section
variable {P P' : Nat → Prop} {mem : Bool} {W : World} {g c : Nat} {acc : JT} {key0 key : List UInt8} {u v : Jv} {e : List Value}
theorem RowP.there (h : RowP P 0 mem W (.slice (some ⟨g, 0, none⟩) (acc.ext + 1) c) (acc.snoc key0 u) (acc.ext + 1)) : W.there g (acc.ext * stM mem) (stM mem) := by
  obtain ⟨cs, h0, h1⟩ := h
  rcases h0.2 with ⟨hL, _⟩ | ⟨g2, cap, cur, hv, hb, hh, hnc, hmx, hs, ht⟩
  · cases hL
  · injection hv with hv e2 e3
    injection hv with hv
    injection hv with hv
    subst hv
    have hle : (acc.ext + 1) * stM mem ≤ cap * stM mem := Nat.mul_le_mul_right _ hnc
    rw [Nat.succ_mul] at hle
    have hB : Blk W g (tyM mem) cur.toList := hh
    intro j hj
    have hlt : acc.ext * stM mem + j < cur.toList.length := by simp [hs]; omega
    exact ⟨by rw [hB.cell (List.getElem?_eq_getElem hlt)]; rfl, hB.frozen _⟩
theorem RowP.put (h : RowP P 0 mem W (.slice (some ⟨g, 0, none⟩) (acc.ext + 1) c) (acc.snoc key0 u) (acc.ext + 1)) (hPP : ∀ b, P b → P' b) (hg : ∀ b, P' b → b ≠ g)
    (hc : JCs P' W e v) (hkey : if mem then key.length ≤ 140737488355328 else key = []) :
    RowP P' 0 mem (W.setCells g (acc.ext * stM mem) (newC mem key e)) (.slice (some ⟨g, 0, none⟩) (acc.ext + 1) c) (acc.snoc key v) (acc.ext + 1) := by
  obtain ⟨cs, h0, h1⟩ := h
  have hcg := setCells_chg (g := g) (newC mem key e) (acc.ext * stM mem) W
  have hlen := newC_len (mem := mem) (key := key) (jcs_len hc)
  have hst : stM mem = kwM mem + 6 := by cases mem <;> rfl
  rcases h0.2 with ⟨hL, _⟩ | ⟨g2, cap, cur, hv, hb, hh, hnc, hmx, hs, ht⟩
  · cases hL
  · injection hv with hv e2 e3
    injection hv with hv
    injection hv with hv
    subst hv
    subst e3
    have hgl : g < W.heap.size := (Array.getElem?_eq_some_iff.1 hh).1
    have hle : (acc.ext + 1) * stM mem ≤ c * stM mem := Nat.mul_le_mul_right _ hnc
    rw [Nat.succ_mul] at hle
    have hcl : cur.toList.length = c * stM mem := by simp [hs]
    have hput := setCells_row (newC mem key e) (acc.ext * stM mem) W cur.toList (T := tyM mem) (fr := (0, 0)) hh (by rw [hlen, hcl]; exact hle)
    have htk := take_put (cur := cur.toList) (vs := newC mem key e) (o := acc.ext * stM mem) (n := (acc.ext + 1) * stM mem) (by omega) (by rw [hlen, Nat.succ_mul])
    have hol : (cur.toList.take (acc.ext * stM mem)).length = acc.ext * stM mem := by rw [List.length_take]; exact Nat.min_eq_left (by omega)
    have hcs : ∀ q v, q < acc.ext * stM mem → cs[q]? = some v → (cur.toList.take (acc.ext * stM mem) ++ newC mem key e)[q]? = some v := fun q v hq hv => by
      rw [← ht, List.getElem?_take] at hv
      split at hv
      · rw [List.getElem?_append_left (by omega), List.getElem?_take, if_pos hq]; exact hv
      · cases hv
    have hnew : ∀ q v, (newC mem key e)[q]? = some v → (cur.toList.take (acc.ext * stM mem) ++ newC mem key e)[acc.ext * stM mem + q]? = some v := fun q v hq => by
      rw [List.getElem?_append_right (by omega), hol, Nat.add_sub_cancel_left]; exact hq
    have hsz : (cur.toList.take (acc.ext * stM mem) ++ newC mem key e ++ cur.toList.drop (acc.ext * stM mem + (newC mem key e).length)).toArray.size = c * stM mem := by
      rw [List.size_toArray, List.length_append, List.length_append, hol, hlen, List.length_drop, hcl]; omega
    refine ⟨cur.toList.take (acc.ext * stM mem) ++ newC mem key e, ⟨by rw [List.length_append, hol, hlen, Nat.succ_mul], .inr ⟨g, c, _, rfl, Nat.zero_le _, hput, hnc, hmx, hsz, by simpa using htk⟩⟩, fun i hi => ?_⟩
    have hstay : ∀ b o, P' b → (W.setCells g (acc.ext * stM mem) (newC mem key e)).cell? ⟨b, o, none⟩ = W.cell? ⟨b, o, none⟩ := fun b o hb => by
      refine World.cell?_of_block (w := W) ?_
      by_cases hlt : b < W.heap.size
      · exact hcg.block b hlt (hg b hb)
      · have e1 : (W.setCells g (acc.ext * stM mem) (newC mem key e)).heap.size = W.heap.size := by
          clear hcg hput htk hcs hnew
          have : ∀ (vs : List Value) (o : Nat) (W : World), (W.setCells g o vs).heap.size = W.heap.size := by
            intro vs
            induction vs with
            | nil => intro o W; rfl
            | cons v vs ih => intro o W; show ((W.setCell ⟨g, o, none⟩ v).setCells g (o + 1) vs).heap.size = _; rw [ih]; simp [World.setCell]
          exact this _ _ _
        rw [Array.getElem?_eq_none (by rw [e1]; exact Nat.le_of_not_lt hlt), Array.getElem?_eq_none (Nat.le_of_not_lt hlt)]
    rcases Nat.lt_succ_iff_lt_or_eq.1 hi with hi | rfl
    · have hle2 : (i + 1) * stM mem ≤ acc.ext * stM mem := Nat.mul_le_mul_right _ hi
      rw [Nat.succ_mul] at hle2
      obtain ⟨h2, e', h3, h4⟩ := h1 i (by omega)
      have hs1 := snoc_lt acc key0 u i hi
      have hs2 := snoc_lt acc key v i hi
      have he6 := jcs_len h4
      refine ⟨?_, e', fun j x hj => ?_, ?_⟩
      · rw [hs2.1, ← hs1.1]
        cases mem with
        | true => exact ⟨hcs _ _ (by simp only [stM, kwM] at hle2 ⊢; simp at hle2 ⊢; omega) h2.1, h2.2⟩
        | false => exact h2
      · have : j < 6 := by rw [← he6]; exact (List.getElem?_eq_some_iff.1 hj).1
        exact hcs _ _ (by omega) (h3 j x hj)
      · rw [hs2.2, ← hs1.2]
        exact h4.stay (fun b o hb => hstay b o (hPP b hb)) hPP
    · have hs2 := snoc_at acc key v
      refine ⟨?_, e, fun j x hj => ?_, ?_⟩
      · rw [hs2.1]
        cases mem with
        | true => exact ⟨by have := hnew 0 (strV key) rfl; rw [Nat.add_zero] at this; exact this, hkey⟩
        | false => exact hkey
      · rw [Nat.add_assoc]
        refine hnew _ _ ?_
        cases mem with
        | true => show (strV key :: e)[1 + j]? = _; rw [Nat.add_comm]; exact hj
        | false => show e[0 + j]? = _; rw [Nat.zero_add]; exact hj
      · rw [hs2.2]
        exact hc.stay hstay (fun _ h => h)
end
theorem null_jcs (P : Nat → Prop) (w : World) : JCs P w [.int .i64 0, .bool false, .int .i64 0, .string ⟨#[]⟩, .slice none 0 0, .slice none 0 0] nullJ :=
  ⟨none, 0, 0, none, 0, 0, rfl, ⟨rfl, Nat.le_refl _, Nat.zero_le _⟩, ⟨rfl, Nat.le_refl _, Nat.zero_le _⟩, .inl rfl, .inl rfl, ⟨by decide, by decide⟩, ⟨by decide, by decide⟩, by decide⟩
def Own9 (base : Nat) (w : World) (r : Nat) (U : Value) (fs : List Frm) (F : Nat → Prop) : Prop := ∀ b, F b → base ≤ b ∧ b < w.heap.size ∧ b ≠ r ∧ U.ownBlock ≠ some b ∧ ∀ f ∈ fs, ¬ f.F b
def Whole9 (base : Nat) (w : World) (r : Nat) (s : List UInt8) (at_ : Nat) (U : Value) (fs : List Frm) (F : Nat → Prop) (v : Jv) (A B : Option Addr) (nl cl nm cm : Nat) : Prop :=
  RSt base w r s at_ U fs ∧ VPar F w v A B nl cl nm cm ∧ Own9 base w r U fs F ∧ (∀ f ∈ fs, f.fr.acc.ext < at_) ∧ UnfV w F A B
def valC (v : Jv) (A B : Option Addr) (nl cl nm cm : Nat) : Value := .agg #[.int .i64 v.kd, .bool v.is, .int .i64 v.n, .string ⟨v.s.toArray⟩, .slice A nl cl, .slice B nm cm]
def Zs (Z : Nat → Prop) (w W : World) (fs : List Frm) : Prop := ∀ b, Z b → b < w.heap.size ∧ W.heap[b]? = w.heap[b]? ∧ (∃ cs, Blk W b 25 cs) ∧ ∀ x ∈ fs, ¬ x.F b
theorem Zs.chg {Z C : Nat → Prop} {w W W' : World} {fs : List Frm} (h : Zs Z w W fs) (hw : w.heap.size ≤ W.heap.size) (hc : Chg C W W') (hC : ∀ b, Z b → ¬ C b) : Zs Z w W' fs := fun b hb => by
  obtain ⟨h1, h2, ⟨cs, h3⟩, h4⟩ := h b hb
  exact ⟨h1, (hc.block b (Nat.lt_of_lt_of_le h1 hw) (hC b hb)).trans h2, ⟨cs, hc.blk h3 (hC b hb)⟩, h4⟩
theorem Zs.sub {Z : Nat → Prop} {w W : World} {fs fs' : List Frm} (h : Zs Z w W fs) (hs : ∀ x ∈ fs', x ∈ fs) : Zs Z w W fs' := fun b hb => ⟨(h b hb).1, (h b hb).2.1, (h b hb).2.2.1, fun x hx => (h b hb).2.2.2 x (hs x hx)⟩
theorem Zs.cons {Z : Nat → Prop} {w W : World} {f : Frm} {fs : List Frm} (h : Zs Z w W fs) (hf : ∀ b, Z b → ¬ f.F b) : Zs Z w W (f :: fs) := fun b hb => ⟨(h b hb).1, (h b hb).2.1, (h b hb).2.2.1, fun x hx => by
  rcases List.mem_cons.1 hx with rfl | hx
  · exact hf b hb
  · exact (h b hb).2.2.2 x hx⟩
def StPost (base : Nat) (Z : Nat → Prop) (w : World) (r : Nat) (s : List UInt8) (at_ : Nat) (R : PRes) (e : Ending) (w' : World) : Prop :=
  Below base w w' ∧ ((∃ c, R = .error c ∧ e = .panicked (flt c)) ∨
    (∃ at' U' f fs', e = .returned (.tuple #[bareV nullJ, .bool false]) ∧ at_ < at' ∧ RSt base w' r s at' U' (f :: fs') ∧ R = resume ((f :: fs').map (·.fr)) (pV (fs'.length + 1) (s.drop at')) ∧ Zs Z w w' (f :: fs')) ∨
    (∃ at' U' fs' F v A B nl cl nm cm, e = .returned (.tuple #[valC v A B nl cl nm cm, .bool true]) ∧ at_ < at' ∧ Whole9 base w' r s at' U' fs' F v A B nl cl nm cm ∧ R = resume (fs'.map (·.fr)) (.ok (v, s.drop at')) ∧ Zs Z w w' fs' ∧ ∀ b, Z b → ¬ F b))
section
variable {base : Nat} {w w' : World} {r : Nat} {s : List UInt8} {at_ : Nat} {U : Value} {f f' : Frm} {fs : List Frm}
theorem RSt.inTop2 (h : RSt base w r s at_ U (f :: fs)) {C E : Nat → Prop} (hc : Chg C w w') (hC : ∀ b, b < w.heap.size → C b → f.F b) (hF : ∀ b, f'.F b → f.F b ∨ E b) (hE : ∀ b, E b → b ≠ r ∧ U.ownBlock ≠ some b ∧ ∀ x ∈ fs, ¬ x.F b) (hp : f'.ptr = f.ptr) (hin : FIn base w' f') (hx : f'.fr.acc.ext ≤ at_) : RSt base w' r s at_ U (f' :: fs) := by
  have hf := h.ins f (List.mem_cons_self ..)
  have ha := h.away f (List.mem_cons_self ..)
  have hap := List.pairwise_cons.1 h.apart
  have hcF : Chg f.F w w' := hc.mono hC
  refine ⟨hcF.blk h.blk ha.1, ?_, h.ur, ?_, ?_, ?_, h.hr, by have := h.len; simpa using this, h.hat, h.hs, ?_⟩
  · have ho := h.own
    rw [show (f' :: fs).reverse.map Frm.ptr = (f :: fs).reverse.map Frm.ptr by simp [hp]]
    refine ⟨ho.1, ?_⟩
    rcases ho.2 with h3 | ⟨q, cap, cur, hv, hb2, hh, rest⟩
    · exact .inl h3
    · exact .inr ⟨q, cap, cur, hv, hb2, by rw [hcF.block q ((Array.getElem?_eq_some_iff.1 hh).1) (ha.2 q (by rw [hv]; rfl))]; exact hh, rest⟩
  · intro x hx
    rcases List.mem_cons.1 hx with rfl | hx
    · refine ⟨fun hr => ?_, fun b hb hfb => ?_⟩
      · rcases hF _ hr with h1 | h1
        · exact ha.1 h1
        · exact (hE _ h1).1 rfl
      · rcases hF _ hfb with h1 | h1
        · exact ha.2 b hb h1
        · exact (hE _ h1).2.1 hb
    · exact h.away x (List.mem_cons_of_mem _ hx)
  · intro x hx
    rcases List.mem_cons.1 hx with rfl | hx
    · exact hin
    · exact (h.ins x (List.mem_cons_of_mem _ hx)).chg hcF (fun b hb hfb => hap.1 x hx b hfb hb)
  · exact List.pairwise_cons.2 ⟨fun x hx b hb hxb => by
      rcases hF b hb with h1 | h1
      · exact hap.1 x hx b h1 hxb
      · exact (hE b h1).2.2 x hx hxb, hap.2⟩
  · intro x hxm
    rcases List.mem_cons.1 hxm with rfl | hxm
    · exact hx
    · exact h.sub x (List.mem_cons_of_mem _ hxm)
end
theorem RSt.une {base : Nat} {W : World} {r : Nat} {s : List UInt8} {at_ : Nat} {U : Value} {fs : List Frm} {g : Nat} {cs : List Value} (h : RSt base W r s at_ U fs) (hb : Blk W g 25 cs) : r ≠ g ∧ ∀ b, U.ownBlock = some b → b ≠ g := by
  refine ⟨fun e => ?_, fun b hb2 e => ?_⟩
  · have h1 := h.blk
    rw [e] at h1
    have h3 := Option.some.inj (h1.symm.trans hb)
    injection h3 with _ h3
    exact absurd h3 (by decide)
  · rcases h.own.2 with ⟨hv, _⟩ | ⟨q, cap, cur, hv, _, hh, _⟩
    · rw [hv] at hb2; cases hb2
    · rw [hv] at hb2
      injection hb2 with hb2
      have e9 : q = b := hb2
      rw [e9, e] at hh
      have h3 := Option.some.inj (hh.symm.trans hb)
      injection h3 with _ h3
      exact absurd h3 (by decide)
section
variable {base : Nat} {Z : Nat → Prop} {w W : World} {r g : Nat} {s : List UInt8} {at_ at' : Nat} {U : Value} {f : Frm} {fs : List Frm} {R : PRes} {cs : List Value}
theorem StPost.bad {c : Int} (hB : Below base w W) (hR : R = .error c) : StPost base Z w r s at_ R (.panicked (flt c)) W := ⟨hB, .inl ⟨c, hR, rfl⟩⟩
theorem below6b {x0 x1 x2 x3 x4 x5 : Value} (hB : Below base w W) (hg : base ≤ g) : Below base w (set6 W g x0 x1 x2 x3 x4 x5) :=
  (((((hB.setCell (p := ⟨g, 0, none⟩) hg _).setCell (p := ⟨g, 1, none⟩) hg _).setCell (p := ⟨g, 2, none⟩) hg _).setCell (p := ⟨g, 3, none⟩) hg _).setCell (p := ⟨g, 4, none⟩) hg _).setCell (p := ⟨g, 5, none⟩) hg _
theorem chg6s {x0 x1 x2 x3 x4 x5 : Value} (W : World) (g : Nat) : Chg (· = g) W (set6 W g x0 x1 x2 x3 x4 x5) :=
  (((((((Chg.refl (· = g) W).setCell (.inl rfl) _).setCell (.inl rfl) _).setCell (.inl rfl) _).setCell (.inl rfl) _).setCell (.inl rfl) _).setCell (.inl rfl) _)
theorem Zs.set6 {x0 x1 x2 x3 x4 x5 : Value} (h : Zs Z w W fs) (hw : w.heap.size ≤ W.heap.size) (hq : w.heap.size ≤ g) : Zs Z w (set6 W g x0 x1 x2 x3 x4 x5) fs :=
  h.chg hw (chg6s W g) (fun b hb e => by have := (h b hb).1; have e2 : b = g := e; omega)
theorem StPost.no (hB : Below base w W) (h : RSt base W r s at' U (f :: fs)) (hb : Blk W g 25 cs) (hg : base ≤ g) (hF : ∀ x ∈ f :: fs, ¬ x.F g) (hq : w.heap.size ≤ g) (hz : Zs Z w W (f :: fs)) (h1 : at_ < at') (hR : R = resume ((f :: fs).map (·.fr)) (pV (fs.length + 1) (s.drop at'))) :
    StPost base Z w r s at_ R (.returned (.tuple #[bareV nullJ, .bool false])) (set6 W g (.int .i64 0) (.bool false) (.int .i64 0) (.string ⟨#[]⟩) (.slice none 0 0) (.slice none 0 0)) :=
  ⟨below6b hB hg, .inr (.inl ⟨at', U, f, fs, rfl, h1, rst6 h (h.une hb).1 hb (h.une hb).2 hF, hR, hz.set6 hB.size hq⟩)⟩
theorem StPost.yes {F : Nat → Prop} {v : Jv} {A B : Option Addr} {nl cl nm cm : Nat} (hB : Below base w W) (h : Whole9 base W r s at' U fs F v A B nl cl nm cm) (hb : Blk W g 25 cs) (hg : base ≤ g) (hF : ∀ x ∈ fs, ¬ x.F g) (hFv : ¬ F g) (hq : w.heap.size ≤ g) (hz : Zs Z w W fs) (hzF : ∀ b, Z b → ¬ F b) (h1 : at_ < at')
    (hR : R = resume (fs.map (·.fr)) (.ok (v, s.drop at'))) :
    StPost base Z w r s at_ R (.returned (.tuple #[valC v A B nl cl nm cm, .bool true])) (set6 W g (.int .i64 v.kd) (.bool v.is) (.int .i64 v.n) (.string ⟨v.s.toArray⟩) (.slice A nl cl) (.slice B nm cm)) := by
  obtain ⟨h2, h3, h4, h5⟩ := h
  have hc := chg6s (x0 := .int .i64 v.kd) (x1 := .bool v.is) (x2 := .int .i64 v.n) (x3 := .string ⟨v.s.toArray⟩) (x4 := .slice A nl cl) (x5 := .slice B nm cm) W g
  refine ⟨below6b hB hg, .inr (.inr ⟨at', U, fs, F, v, A, B, nl, cl, nm, cm, rfl, h1, ⟨rst6 h2 (h2.une hb).1 hb (h2.une hb).2 hF, h3.to (fun b o hb2 => hc.cell (h4 b hb2).2.1 (fun e => hFv (by rw [← e]; exact hb2))) (fun _ h => h), fun b hb2 => ⟨(h4 b hb2).1, Nat.lt_of_lt_of_le (h4 b hb2).2.1 hc.size, (h4 b hb2).2.2⟩, h5.1, h5.2.to (fun b hb2 => hc.block b (h4 b hb2).2.1 (fun e => hFv (by have e2 : b = g := e; rw [← e2]; exact hb2)))⟩, hR, hz.set6 hB.size hq, hzF⟩)⟩
end
structure LaySt (base : Nat) (Z : Nat → Prop) (w : World) (r : Nat) (s : List UInt8) (at_ : Nat) (U : Value) (f : Frm) (fs : List Frm) (q : Nat) (W : World) : Prop where
  st : RSt base W r s at_ U (f :: fs)
  below : Below base w W
  res : Blk W q 25 [.int .i64 0, .bool false, .int .i64 0, .string ⟨#[]⟩, .slice none 0 0, .slice none 0 0]
  bq : base ≤ q
  away : ∀ x ∈ f :: fs, ¬ x.F q
  low : ∀ x ∈ fs, x.fr.acc.ext < at_
  qn : w.heap.size ≤ q
  zs : Zs Z w W (f :: fs)
section
variable {base : Nat} {Z : Nat → Prop} {w W W' : World} {r q : Nat} {s : List UInt8} {at_ at' : Nat} {U U' : Value} {f f' : Frm} {fs : List Frm}
theorem LaySt.next (h : LaySt base Z w r s at_ U f fs q W) (hc : Chg (· = r) W W') (h2 : RSt base W' r s at' U (f :: fs)) (h3 : at_ ≤ at') : LaySt base Z w r s at' U f fs q W' :=
  ⟨h2, hc.below h.below (Nat.le_trans h.st.hr (Nat.le_of_lt h.st.lt)) (fun b _ e => by rw [e]; exact h.st.hr), hc.blk h.res (fun e => (h.st.une h.res).1 e.symm), h.bq, h.away, fun x hx => Nat.lt_of_lt_of_le (h.low x hx) h3, h.qn, h.zs.chg h.below.size hc (fun b hb e => by
    obtain ⟨cs, hb2⟩ := (h.zs b hb).2.2.1
    exact (h.st.une hb2).1 e.symm)⟩
theorem LaySt.own (h : LaySt base Z w r s at_ U f fs q W) {hc : Chg (fun b => b = r ∨ f.F b) W W'} (h2 : RSt base W' r s at' U' fs) (hU : ∀ b, U'.ownBlock = some b → ¬ f.F b) : Own9 base W' r U' fs f.F := fun b hb =>
  ⟨((h.st.ins f (List.mem_cons_self ..)).2.2.2.2.1 b hb).1, Nat.lt_of_lt_of_le ((h.st.ins f (List.mem_cons_self ..)).2.2.2.2.1 b hb).2 hc.size, fun e => (h.st.away f (List.mem_cons_self ..)).1 (by rw [← e]; exact hb), fun e => hU b e hb, fun x hx => (List.pairwise_cons.1 h.st.apart).1 x hx b hb⟩
theorem LaySt.zf (h : LaySt base Z w r s at_ U f fs q W) : ∀ b, Z b → ¬ f.F b := fun b hb => (h.zs b hb).2.2.2 f (List.mem_cons_self ..)
theorem LaySt.zsC (h : LaySt base Z w r s at_ U f fs q W) (hc : Chg (fun b => b = r ∨ f.F b) W W') : Zs Z w W' (f :: fs) := h.zs.chg h.below.size hc (fun b hb e => by
  obtain ⟨cs, hb2⟩ := (h.zs b hb).2.2.1
  rcases e with e | e
  · exact (h.st.une hb2).1 e.symm
  · exact h.zf b hb e)
end
end Go.Proofs.YtajkgcmopmpihaaGreatDoor
