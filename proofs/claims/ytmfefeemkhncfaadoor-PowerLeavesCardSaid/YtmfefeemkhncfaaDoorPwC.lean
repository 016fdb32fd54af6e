/- Layer 14: a member, a level that is told. -/
import Derived.Test.YtmfefeemkhncfaaDoorPwB
namespace Go.Proofs.YtmfefeemkhncfaaDoor
open Go.ChangeShapes Go.WideShapes Go.ChangeAt Go.RowKit Go.IntWalk
set_option linter.unusedVariables false

/-- A value is answered. -/
def VRes (v : Jv) (w : World) (e : Ending) (w' : World) : Prop :=
  (∃ (A B : Option Addr) (nl cl nm cm : Nat), e = .returned (.agg #[.int .i64 v.kd, .bool v.is, .int .i64 v.n, .string ⟨v.s.toArray⟩, .slice A nl cl, .slice B nm cm]) ∧ VOk w' v A B nl cl nm cm) ∧ Below w.heap.size w w'
theorem null_ok (w : World) : VOk w nullV none none 0 0 0 0 := ⟨⟨rfl, Nat.le_refl _, by decide⟩, ⟨rfl, Nat.le_refl _, by decide⟩, .inl rfl, .inl rfl, by unfold Fit nullV; decide⟩
theorem vok_of {W w w' : World} {v : Jv} {A B : Option Addr} {nl cl nm cm : Nat} (h1 : Room nl cl v.l.ext) (h2 : Room nm cm v.m.ext) (h3 : JSl (· < W.heap.size) w false A v.l) (h4 : JSl (· < W.heap.size) w true B v.m) (h5 : Fit v.kd v.n v.s)
    (b : Below W.heap.size w w') (hs : W.heap.size ≤ w.heap.size) : VOk w' v A B nl cl nm cm :=
  ⟨h1, h2, h3.stay (fun b' o hb => b.cell (p := ⟨b', o, none⟩) hb) (fun x hx => Nat.lt_of_lt_of_le hx (Nat.le_trans hs b.size)), h4.stay (fun b' o hb => b.cell (p := ⟨b', o, none⟩) hb) (fun x hx => Nat.lt_of_lt_of_le hx (Nat.le_trans hs b.size)), h5⟩
theorem VOk.off {w w' : World} {v : Jv} {A B : Option Addr} {nl cl nm cm : Nat} (h : VOk w v A B nl cl nm cm) (b : Below w.heap.size w w') : VOk w' v A B nl cl nm cm := h.below b
theorem VRes.null {w w' : World} (b : Below w.heap.size w w') : VRes nullV w (.returned (.agg #[.int .i64 0, .bool false, .int .i64 0, .string ⟨#[]⟩, .slice none 0 0, .slice none 0 0])) w' := ⟨⟨none, none, 0, 0, 0, 0, rfl, null_ok w'⟩, b⟩
theorem memF_no {v : Jv} (h : ¬ v.kd = 5) (key : List UInt8) : memF v key = nullV := by unfold memF; rw [if_neg h]
theorem memF_pos {v : Jv} (h : v.kd = 5) (hr : Rise (slts v.m)) (key : List UInt8) : memF v key = if foundF (slts v.m) (keyP key) then (v.m.fall (posF (slts v.m) (keyP key))).val else nullV := by
  unfold memF
  rw [if_pos h, findV_pos hr]
  split <;> rfl
theorem found_lt {t : JT} {key : List UInt8} (h : foundF (slts t) (keyP key) = true) : posF (slts t) (keyP key) < t.ext := by
  unfold foundF at h
  cases hg : (slts t)[posF (slts t) (keyP key)]? with
  | none => rw [hg] at h; cases h
  | some x => have := (List.getElem?_eq_some_iff.1 hg).1; rw [slts_len] at this; exact this
section
variable {w : World} {g : Nat} {T : TypeId} {a0 a1 a2 a3 a4 a5 x0 x1 x2 x3 x4 x5 : Value}
/-- Six cells stored. -/
def set6 (w : World) (g : Nat) (x0 x1 x2 x3 x4 x5 : Value) : World := (((((w.setCell ⟨g, 0, none⟩ x0).setCell ⟨g, 1, none⟩ x1).setCell ⟨g, 2, none⟩ x2).setCell ⟨g, 3, none⟩ x3).setCell ⟨g, 4, none⟩ x4).setCell ⟨g, 5, none⟩ x5
theorem blk6 (h : Blk w g T [a0, a1, a2, a3, a4, a5]) : Blk (set6 w g x0 x1 x2 x3 x4 x5) g T [x0, x1, x2, x3, x4, x5] :=
  (((((h.set_ 0 x0).set_ 1 x1).set_ 2 x2).set_ 3 x3).set_ 4 x4).set_ 5 x5
theorem below6 {B : Nat} {a : World} (h : Below B a w) (hg : B ≤ g) : Below B a (set6 w g x0 x1 x2 x3 x4 x5) :=
  (((((h.setCell hg _).setCell hg _).setCell hg _).setCell hg _).setCell hg _).setCell hg _
theorem cells6 (h : Blk w g T [a0, a1, a2, a3, a4, a5]) : w.cell? ⟨g, 0, none⟩ = some a0 ∧ w.cell? ⟨g, 1, none⟩ = some a1 ∧ w.cell? ⟨g, 2, none⟩ = some a2 ∧ w.cell? ⟨g, 3, none⟩ = some a3 ∧ w.cell? ⟨g, 4, none⟩ = some a4 ∧ w.cell? ⟨g, 5, none⟩ = some a5 ∧
    w.frozen? ⟨g, 0, none⟩ = false ∧ w.frozen? ⟨g, 1, none⟩ = false ∧ w.frozen? ⟨g, 2, none⟩ = false ∧ w.frozen? ⟨g, 3, none⟩ = false ∧ w.frozen? ⟨g, 4, none⟩ = false ∧ w.frozen? ⟨g, 5, none⟩ = false :=
  ⟨h.cell rfl, h.cell rfl, h.cell rfl, h.cell rfl, h.cell rfl, h.cell rfl, h.frozen _, h.frozen _, h.frozen _, h.frozen _, h.frozen _, h.frozen _⟩
end
set_option maxHeartbeats 4000000 in
theorem member_calls (v : Jv) (A B : Option Addr) (nl cl nm cm : Nat) (key : List UInt8) (w : World) (hv : VOk w v A B nl cl nm cm) (hr : Rise (slts v.m)) :
    Calls Tryd.prog 39 #[.agg #[.int .i64 v.kd, .bool v.is, .int .i64 v.n, .string ⟨v.s.toArray⟩, .slice A nl cl, .slice B nm cm], .string ⟨key.toArray⟩] w (VRes (memF v key) w) := by
  by_cases h5 : v.kd = 5
  · have HM := Lib.hid (memF_pos h5 hr key)
    obtain ⟨ps, hps⟩ : ∃ ps, posF (slts v.m) (keyP key) = ps := ⟨_, rfl⟩
    have hb2 : Below w.heap.size w ((w.alloc (.cells #[.int .i64 v.kd, .bool v.is, .int .i64 v.n, .string ⟨v.s.toArray⟩, .slice A nl cl, .slice B nm cm] 25)).alloc (.cells #[.int .i64 0, .bool false, .int .i64 0, .string ⟨#[]⟩, .slice none 0 0, .slice none 0 0] 25)) := ((Below.refl _ _).alloc (Nat.le_refl _) _).alloc (by simp) _
    have HS := search_calls B nm cm v.m key _ hv.2.1 (hv.2.2.2.1.up hb2) hr
    have HV := Lib.hid hv
    have HPS := Lib.hid hps
    rw [hps] at HS
    have HF := fun h => @found_lt v.m key h
    rw [hps] at HF
    obtain ⟨kd, is, n, s, l, m⟩ := v
    dsimp only at *
    subst h5
    have HFL := Lib.hid HF
    have HB2 := Lib.hid hb2
    have HZ := Lib.hid (Blk.new (w.alloc (.cells #[.int .i64 5, .bool is, .int .i64 n, .string ⟨s.toArray⟩, .slice A nl cl, .slice B nm cm] 25)) [.int .i64 0, .bool false, .int .i64 0, .string ⟨#[]⟩, .slice none 0 0, .slice none 0 0] 25)
    have HX := Lib.hid ((Blk.new w [.int .i64 5, .bool is, .int .i64 n, .string ⟨s.toArray⟩, .slice A nl cl, .slice B nm cm] 25).alloc (.cells #[.int .i64 0, .bool false, .int .i64 0, .string ⟨#[]⟩, .slice none 0 0, .slice none 0 0] 25))
    clear hv hr hps HF hb2
    cases hf : foundF (slts m) (keyP key) with
    | false =>
      rw [hf] at HS
      have HM2 := Lib.hid (show memF ⟨5, is, n, s, l, m⟩ key = nullV by rw [HM.out, hf]; rfl)
      clear hf
      go_enter Tryd.func39, Tryd.ntmps39
      go_wp2_with fail
      refine HS.mono ?_
      rintro e w1 ⟨rfl, b1⟩
      have hz := HZ.out.later b1
      rw [show (w.alloc (.cells #[.int .i64 5, .bool is, .int .i64 n, .string ⟨s.toArray⟩, .slice A nl cl, .slice B nm cm] 25)).heap.size = w.heap.size + 1 by simp] at hz
      obtain ⟨c0, c1, c2, c3, c4, c5, g0, g1, g2, g3, g4, g5⟩ := cells6 hz
      have HZ1 := Lib.hid hz
      have HB1 := Lib.hid (HB2.out.trans (b1.mono (by simp; omega)))
      clear b1 hz HS
      go_wp2_with fail
      rw [HM2.out]
      exact bodyPost_ret (res_cell rfl _ ⟨w.heap.size + 1, 0, none⟩ _ _ rfl (Blk.load (blk6 HZ1.out) _ Tryd.underlying25 rfl size_val)) rfl (VRes.null (below6 HB1.out (by omega)))
    | true =>
      rw [hf] at HS
      have HM2 := Lib.hid (show memF ⟨5, is, n, s, l, m⟩ key = (m.fall ps).val by rw [HM.out, hf, if_pos rfl]; exact congrArg (fun q => (m.fall q).val) HPS.out)
      have HLT := Lib.hid (HFL.out hf)
      clear hf
      go_enter Tryd.func39, Tryd.ntmps39
      go_wp2_with fail
      refine HS.mono ?_
      rintro e w1 ⟨rfl, b1⟩
      have hz := HZ.out.later b1
      rw [show (w.alloc (.cells #[.int .i64 5, .bool is, .int .i64 n, .string ⟨s.toArray⟩, .slice A nl cl, .slice B nm cm] 25)).heap.size = w.heap.size + 1 by simp] at hz
      obtain ⟨c0, c1, c2, c3, c4, c5, g0, g1, g2, g3, g4, g5⟩ := cells6 hz
      obtain ⟨k0, k1, k2, k3, k4, k5, _⟩ := cells6 (HX.out.later b1)
      have HZ1 := Lib.hid hz
      have HB1 := Lib.hid (HB2.out.trans (b1.mono (by simp; omega)))
      obtain ⟨hnm, hnc, hcc⟩ := HV.out.2.1
      have hlt : ps < nm := by rw [hnm]; exact HLT.out
      obtain ⟨eb, eo, eA, enl, ecl, eB, enm, ecm, rfl, eP, ebl, eK, eKl, f0, f1, f2, f3, f4, f5, r1, r2, s1, s2, hf⟩ := (HV.out.2.2.2.1.blw HB1.out).mb (i := ps) _ HLT.out
      obtain ⟨eu, hev⟩ : ∃ eu, (m.fall ps).val = eu := ⟨_, rfl⟩
      rw [hev] at f0 f1 f2 f3 r1 r2 s1 s2 hf
      have HR := Lib.hid (And.intro r1 (And.intro r2 (And.intro s1 (And.intro s2 hf))))
      have HM3 := Lib.hid (HM2.out.trans hev)
      clear b1 hz HS eK eKl eP r1 r2 s1 s2 hf hev hnm hnc hcc
      go_wp2_with fail
      rw [HM3.out]
      exact bodyPost_ret (res_cell rfl _ ⟨w.heap.size + 1, 0, none⟩ _ _ rfl (Blk.load (blk6 HZ1.out) _ Tryd.underlying25 rfl size_val)) rfl ⟨⟨eA, eB, enl, ecl, enm, ecm, rfl, vok_of HR.out.1 HR.out.2.1 HR.out.2.2.1 HR.out.2.2.2.1 HR.out.2.2.2.2 (below6 (Below.refl w.heap.size w1) (by omega)) HB1.out.size⟩, below6 HB1.out (by omega)⟩
  · have hne : (v.kd != 5) = true := by rw [bne_iff_ne]; exact h5
    have HM := Lib.hid (memF_no h5 key)
    have hb2 : Below w.heap.size w ((w.alloc (.cells #[.int .i64 v.kd, .bool v.is, .int .i64 v.n, .string ⟨v.s.toArray⟩, .slice A nl cl, .slice B nm cm] 25)).alloc (.cells #[.int .i64 0, .bool false, .int .i64 0, .string ⟨#[]⟩, .slice none 0 0, .slice none 0 0] 25)) := ((Below.refl _ _).alloc (Nat.le_refl _) _).alloc (by simp) _
    have HB2 := Lib.hid hb2
    have hz := Blk.new (w.alloc (.cells #[.int .i64 v.kd, .bool v.is, .int .i64 v.n, .string ⟨v.s.toArray⟩, .slice A nl cl, .slice B nm cm] 25)) [.int .i64 0, .bool false, .int .i64 0, .string ⟨#[]⟩, .slice none 0 0, .slice none 0 0] 25
    rw [show (w.alloc (.cells #[.int .i64 v.kd, .bool v.is, .int .i64 v.n, .string ⟨v.s.toArray⟩, .slice A nl cl, .slice B nm cm] 25)).heap.size = w.heap.size + 1 by simp] at hz
    have HZ := Lib.hid hz
    clear hv hr h5 hb2 hz
    go_enter Tryd.func39, Tryd.ntmps39
    go_wp2_with fail
    rw [HM.out]
    exact bodyPost_ret (res_cell rfl _ ⟨w.heap.size + 1, 0, none⟩ _ _ rfl (Blk.load HZ.out _ Tryd.underlying25 rfl size_val)) rfl (VRes.null HB2.out)
/-- A level that is told, or isn't. -/
def LRes (o : Option Int) (w : World) (e : Ending) (w' : World) : Prop := e = .returned (.agg #[.int .i64 (o.getD 0), .bool o.isSome]) ∧ Below w.heap.size w w' ∧ (∀ n, o = some n → -9223372036854775808 ≤ n ∧ n ≤ 9223372036854775807)
theorem size_lvl : (Tryd.prog.info? 53).map (·.size) = some 2 := by kernel_rfl
theorem blk2 {w : World} {g : Nat} {T : TypeId} {a0 a1 x0 x1 : Value} (h : Blk w g T [a0, a1]) : Blk ((w.setCell ⟨g, 0, none⟩ x0).setCell ⟨g, 1, none⟩ x1) g T [x0, x1] := (h.set_ 0 x0).set_ 1 x1
set_option maxHeartbeats 4000000 in
theorem told_calls (v : Jv) (A B : Option Addr) (nl cl nm cm : Nat) (key : List UInt8) (w : World) (hv : VOk w v A B nl cl nm cm) (hr : Rise (slts v.m)) :
    Calls Tryd.prog 35 #[.agg #[.int .i64 v.kd, .bool v.is, .int .i64 v.n, .string ⟨v.s.toArray⟩, .slice A nl cl, .slice B nm cm], .string ⟨key.toArray⟩] w (LRes (toldF v key) w) := by
  have hb2 : Below w.heap.size w ((w.alloc (.cells #[.int .i64 v.kd, .bool v.is, .int .i64 v.n, .string ⟨v.s.toArray⟩, .slice A nl cl, .slice B nm cm] 25)).alloc (.cells #[.int .i64 0, .bool false] 53)) := ((Below.refl _ _).alloc (Nat.le_refl _) _).alloc (by simp) _
  have hz := Blk.new (w.alloc (.cells #[.int .i64 v.kd, .bool v.is, .int .i64 v.n, .string ⟨v.s.toArray⟩, .slice A nl cl, .slice B nm cm] 25)) [.int .i64 0, .bool false] 53
  rw [show (w.alloc (.cells #[.int .i64 v.kd, .bool v.is, .int .i64 v.n, .string ⟨v.s.toArray⟩, .slice A nl cl, .slice B nm cm] 25)).heap.size = w.heap.size + 1 by simp] at hz
  have hm := member_calls v A B nl cl nm cm key _ (hv.below hb2) hr
  obtain ⟨mv, hmv⟩ : ∃ mv, memF v key = mv := ⟨_, rfl⟩
  rw [hmv] at hm
  have HB := Lib.hid hb2
  have HZ := Lib.hid hz
  have HT := Lib.hid (show toldF v key = if mv.kd = 2 then some mv.n else none by unfold toldF; rw [hmv])
  clear hb2 hz hv hr hmv
  go_enter Tryd.func35, Tryd.ntmps35
  go_wp2_with fail
  refine hm.mono ?_
  rintro e w1 ⟨⟨A1, B1, nl1, cl1, nm1, cm1, rfl, hv1⟩, b1⟩
  have HB1 := Lib.hid (HB.out.trans (b1.mono (by simp; omega)))
  have HZ2 := Lib.hid ((HZ.out.later b1).alloc (.cells #[.int .i64 mv.kd, .bool mv.is, .int .i64 mv.n, .string ⟨mv.s.toArray⟩, .slice A1 nl1 cl1, .slice B1 nm1 cm1] 25))
  have HB2 := Lib.hid (HB1.out.alloc HB1.out.size (.cells #[.int .i64 mv.kd, .bool mv.is, .int .i64 mv.n, .string ⟨mv.s.toArray⟩, .slice A1 nl1 cl1, .slice B1 nm1 cm1] 25))
  have HF := Lib.hid hv1.2.2.2.2
  have q0 := HZ2.out.cell (k := 0) rfl
  have q1 := HZ2.out.cell (k := 1) rfl
  have p0 := HZ2.out.frozen 0
  have p1 := HZ2.out.frozen 1
  clear b1 hv1 hm
  by_cases h2 : mv.kd = 2
  · have hk : (mv.kd != 2) = false := by rw [h2]; rfl
    have HT2 := Lib.hid (show toldF v key = some mv.n by rw [HT.out, if_pos h2])
    clear h2
    go_wp2_with fail
    rw [HT2.out]
    exact bodyPost_ret (res_cell rfl _ ⟨w.heap.size + 1, 0, none⟩ _ _ rfl (Blk.load (blk2 HZ2.out) _ Tryd.underlying53 rfl size_lvl)) rfl ⟨rfl, (HB2.out.setCell (show w.heap.size ≤ w.heap.size + 1 by omega) _).setCell (show w.heap.size ≤ w.heap.size + 1 by omega) _, fun n hn => by cases hn; exact HF.out.2.1⟩
  · have hk : (mv.kd != 2) = true := by rw [bne_iff_ne]; exact h2
    have HT2 := Lib.hid (show toldF v key = none by rw [HT.out, if_neg h2])
    clear h2
    go_wp2_with fail
    rw [HT2.out]
    exact bodyPost_ret (res_cell rfl _ ⟨w.heap.size + 1, 0, none⟩ _ _ rfl (Blk.load (blk2 HZ2.out) _ Tryd.underlying53 rfl size_lvl)) rfl ⟨rfl, (HB2.out.setCell (show w.heap.size ≤ w.heap.size + 1 by omega) _).setCell (show w.heap.size ≤ w.heap.size + 1 by omega) _, fun n hn => by cases hn⟩
end Go.Proofs.YtmfefeemkhncfaaDoor
