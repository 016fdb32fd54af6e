/- Layer 14: Change, walked. -/
import Derived.Test.YtmfefeemkhncfaaDoorPwG
import Derived.Test.YtmfefeemkhncfaaDoorPwL
namespace Go.Proofs.YtmfefeemkhncfaaDoor
open Go.ChangeShapes Go.WideShapes Go.ChangeAt Go.RowKit Go.IntWalk
set_option linter.unusedVariables false
set_option maxRecDepth 100000

/-- A value whose parts lie in old memory. -/
def MRes (W0 : World) (v : Jv) (w : World) (e : Ending) (w' : World) : Prop :=
  (∃ (A B : Option Addr) (nl cl nm cm : Nat), e = .returned (.agg #[.int .i64 v.kd, .bool v.is, .int .i64 v.n, .string ⟨v.s.toArray⟩, .slice A nl cl, .slice B nm cm]) ∧ VOk W0 v A B nl cl nm cm) ∧ Below w.heap.size w w'
set_option maxHeartbeats 4000000 in
theorem member0_calls (v : Jv) (A B : Option Addr) (nl cl nm cm : Nat) (key : List UInt8) (W0 w : World) (hv0 : VOk W0 v A B nl cl nm cm) (hB0 : Below W0.heap.size W0 w) (hr : Rise (slts v.m)) :
    Calls Tryd.prog 39 #[.agg #[.int .i64 v.kd, .bool v.is, .int .i64 v.n, .string ⟨v.s.toArray⟩, .slice A nl cl, .slice B nm cm], .string ⟨key.toArray⟩] w (MRes W0 (memF v key) w) := by
  have hv := hv0.below hB0
  have HV0 := Lib.hid (And.intro hv0 hB0)
  clear hv0 hB0
  by_cases h5 : v.kd = 5
  · have HM := Lib.hid (memF_pos h5 hr key)
    obtain ⟨ps, hps⟩ : ∃ ps, posF (slts v.m) (keyP key) = ps := ⟨_, rfl⟩
    have hb2 : Below w.heap.size w ((w.alloc (.cells #[.int .i64 v.kd, .bool v.is, .int .i64 v.n, .string ⟨v.s.toArray⟩, .slice A nl cl, .slice B nm cm] 25)).alloc (.cells #[.int .i64 0, .bool false, .int .i64 0, .string ⟨#[]⟩, .slice none 0 0, .slice none 0 0] 25)) := ((Below.refl _ _).alloc (Nat.le_refl _) _).alloc (by simp) _
    have HS := search_calls B nm cm v.m key _ hv.2.1 (hv.2.2.2.1.up hb2) hr
    have HV := Lib.hid hv
    have HPS := Lib.hid hps
    rw [hps] at HS
    have HF := fun h => @found_lt v.m key h
    rw [hps] at HF
    obtain ⟨kd, is, n, s, l, m⟩ := v
    dsimp only at *
    subst h5
    have HFL := Lib.hid HF
    have HB2 := Lib.hid hb2
    have HZ := Lib.hid (Blk.new (w.alloc (.cells #[.int .i64 5, .bool is, .int .i64 n, .string ⟨s.toArray⟩, .slice A nl cl, .slice B nm cm] 25)) [.int .i64 0, .bool false, .int .i64 0, .string ⟨#[]⟩, .slice none 0 0, .slice none 0 0] 25)
    have HX := Lib.hid ((Blk.new w [.int .i64 5, .bool is, .int .i64 n, .string ⟨s.toArray⟩, .slice A nl cl, .slice B nm cm] 25).alloc (.cells #[.int .i64 0, .bool false, .int .i64 0, .string ⟨#[]⟩, .slice none 0 0, .slice none 0 0] 25))
    clear hv hr hps HF hb2
    cases hf : foundF (slts m) (keyP key) with
    | false =>
      rw [hf] at HS
      have HM2 := Lib.hid (show memF ⟨5, is, n, s, l, m⟩ key = nullV by rw [HM.out, hf]; rfl)
      clear hf
      go_enter Tryd.func39, Tryd.ntmps39
      go_wp2_with fail
      refine HS.mono ?_
      rintro e w1 ⟨rfl, b1⟩
      have hz := HZ.out.later b1
      rw [show (w.alloc (.cells #[.int .i64 5, .bool is, .int .i64 n, .string ⟨s.toArray⟩, .slice A nl cl, .slice B nm cm] 25)).heap.size = w.heap.size + 1 by simp] at hz
      obtain ⟨c0, c1, c2, c3, c4, c5, g0, g1, g2, g3, g4, g5⟩ := cells6 hz
      have HZ1 := Lib.hid hz
      have HB1 := Lib.hid (HB2.out.trans (b1.mono (by simp; omega)))
      clear b1 hz HS
      go_wp2_with fail
      rw [HM2.out]
      exact bodyPost_ret (res_cell rfl _ ⟨w.heap.size + 1, 0, none⟩ _ _ rfl (Blk.load (blk6 HZ1.out) _ Tryd.underlying25 rfl size_val)) rfl ⟨⟨none, none, 0, 0, 0, 0, rfl, null_ok W0⟩, below6 HB1.out (by omega)⟩
    | true =>
      rw [hf] at HS
      have HM2 := Lib.hid (show memF ⟨5, is, n, s, l, m⟩ key = (m.fall ps).val by rw [HM.out, hf, if_pos rfl]; exact congrArg (fun q => (m.fall q).val) HPS.out)
      have HLT := Lib.hid (HFL.out hf)
      clear hf
      go_enter Tryd.func39, Tryd.ntmps39
      go_wp2_with fail
      refine HS.mono ?_
      rintro e w1 ⟨rfl, b1⟩
      have hz := HZ.out.later b1
      rw [show (w.alloc (.cells #[.int .i64 5, .bool is, .int .i64 n, .string ⟨s.toArray⟩, .slice A nl cl, .slice B nm cm] 25)).heap.size = w.heap.size + 1 by simp] at hz
      obtain ⟨c0, c1, c2, c3, c4, c5, g0, g1, g2, g3, g4, g5⟩ := cells6 hz
      obtain ⟨k0, k1, k2, k3, k4, k5, _⟩ := cells6 (HX.out.later b1)
      have HZ1 := Lib.hid hz
      have HB1 := Lib.hid (HB2.out.trans (b1.mono (by simp; omega)))
      obtain ⟨hnm, hnc, hcc⟩ := HV.out.2.1
      have hlt : ps < nm := by rw [hnm]; exact HLT.out
      obtain ⟨eb, eo, eA, enl, ecl, eB, enm, ecm, rfl, eP, ebl, eK, eKl, f0, f1, f2, f3, f4, f5, r1, r2, s1, s2, hf⟩ := (HV0.out.1.2.2.2.1.blw (HV0.out.2.then_ HB1.out)).mb (i := ps) _ HLT.out
      obtain ⟨eu, hev⟩ : ∃ eu, (m.fall ps).val = eu := ⟨_, rfl⟩
      rw [hev] at f0 f1 f2 f3 r1 r2 s1 s2 hf
      have HB01 := Lib.hid (HV0.out.2.then_ HB1.out)
      have HR := Lib.hid (show VOk W0 eu eA eB enl ecl enm ecm from ⟨r1, r2, s1.stay (fun b' o hb => (HB01.out.cell (p := ⟨b', o, none⟩) hb).symm) (fun _ h => h), s2.stay (fun b' o hb => (HB01.out.cell (p := ⟨b', o, none⟩) hb).symm) (fun _ h => h), hf⟩)
      have HM3 := Lib.hid (HM2.out.trans hev)
      clear b1 hz HS eK eKl eP r1 r2 s1 s2 hf hev hnm hnc hcc
      go_wp2_with fail
      rw [HM3.out]
      exact bodyPost_ret (res_cell rfl _ ⟨w.heap.size + 1, 0, none⟩ _ _ rfl (Blk.load (blk6 HZ1.out) _ Tryd.underlying25 rfl size_val)) rfl ⟨⟨eA, eB, enl, ecl, enm, ecm, rfl, HR.out⟩, below6 HB1.out (by omega)⟩
  · have hne : (v.kd != 5) = true := by rw [bne_iff_ne]; exact h5
    have HM := Lib.hid (memF_no h5 key)
    have hb2 : Below w.heap.size w ((w.alloc (.cells #[.int .i64 v.kd, .bool v.is, .int .i64 v.n, .string ⟨v.s.toArray⟩, .slice A nl cl, .slice B nm cm] 25)).alloc (.cells #[.int .i64 0, .bool false, .int .i64 0, .string ⟨#[]⟩, .slice none 0 0, .slice none 0 0] 25)) := ((Below.refl _ _).alloc (Nat.le_refl _) _).alloc (by simp) _
    have HB2 := Lib.hid hb2
    have hz := Blk.new (w.alloc (.cells #[.int .i64 v.kd, .bool v.is, .int .i64 v.n, .string ⟨v.s.toArray⟩, .slice A nl cl, .slice B nm cm] 25)) [.int .i64 0, .bool false, .int .i64 0, .string ⟨#[]⟩, .slice none 0 0, .slice none 0 0] 25
    rw [show (w.alloc (.cells #[.int .i64 v.kd, .bool v.is, .int .i64 v.n, .string ⟨v.s.toArray⟩, .slice A nl cl, .slice B nm cm] 25)).heap.size = w.heap.size + 1 by simp] at hz
    have HZ := Lib.hid hz
    clear hv hr h5 hb2 hz
    go_enter Tryd.func39, Tryd.ntmps39
    go_wp2_with fail
    rw [HM.out]
    exact bodyPost_ret (res_cell rfl _ ⟨w.heap.size + 1, 0, none⟩ _ _ rfl (Blk.load HZ.out _ Tryd.underlying25 rfl size_val)) rfl ⟨⟨none, none, 0, 0, 0, 0, rfl, null_ok W0⟩, HB2.out⟩
/-- Such a value, as what an operation leaves. -/
def IsV (W0 : World) (v : Jv) (x : Value) : Prop := ∃ (A B : Option Addr) (nl cl nm cm : Nat), x = .agg #[.int .i64 v.kd, .bool v.is, .int .i64 v.n, .string ⟨v.s.toArray⟩, .slice A nl cl, .slice B nm cm] ∧ VOk W0 v A B nl cl nm cm
section
variable {P : Program} {ops : Array Oper} {W0 : World} {Q : Act → Prop} {o : Oper} {rest : List Oper} {Rs : List (Value → Prop)} {a : Act}
theorem ls_callr (R : Value → Prop) (f : FuncId) (args : Array Value) (hw : Region.wanted o (yielded ops a.tmps) = true) (he : ∀ W, (execOp a.eval o).run P W = .ok (.enter f args) W)
    (hc : ∀ W, Below W0.heap.size W0 W → Calls P f args W (fun e W' => ∃ v, e = .returned v ∧ R v ∧ Below W.heap.size W W')) (h2 : ∀ v, R v → wpLs P ops (fun w' => Below W0.heap.size W0 w') Q rest Rs (a.put o.dst v)) :
    wpLs P ops (fun w' => Below W0.heap.size W0 w') Q (o :: rest) (R :: Rs) a :=
  ls_cons (w0 := W0) (Below.refl _ _) hw (fun W hW => by
    unfold lsAt
    rw [he]
    exact ⟨rfl, (hc W hW).mono fun e W' ⟨v, he, hv, hb⟩ => ⟨v, he, hv, hW.then_ hb⟩⟩) h2
end
/-- The tables of levels, as the program lays them. -/
def tabN : List (List UInt8) := [[101, 118, 101, 110, 116, 115], [110, 111, 116, 105, 102, 105, 99, 97, 116, 105, 111, 110, 115], [117, 115, 101, 114, 115]]
def TabT (w : World) : Prop := 1 < w.heap.size ∧ ∃ b o cp, b < w.heap.size ∧ w.cell? ⟨1, 0, none⟩ = some (.slice (some ⟨b, o, none⟩) 3 cp) ∧
  ∀ k (h : k < tabN.length), w.cell? ⟨b, o + k, none⟩ = some (.string ⟨(tabN[k]).toArray⟩)
theorem TabT.below {w w' : World} (h : TabT w) (b : Below w.heap.size w w') : TabT w' := by
  obtain ⟨h1, b0, o, cp, h2, h3, h4⟩ := h
  exact ⟨Nat.lt_of_lt_of_le h1 b.size, b0, o, cp, Nat.lt_of_lt_of_le h2 b.size, (b.cell (p := ⟨_, 0, none⟩) h1).trans h3, fun k hk => (b.cell (p := ⟨b0, _, none⟩) h2).trans (h4 k hk)⟩
def changeF (a b : Jv) (mine : Int) (user : List UInt8) : Bool := lonN.all (fun p => reachF (toldF a p.1) (toldF b p.1) mine) && tabN.all (fun nm => turnsF (memF a nm) (memF b nm) mine nm user)
theorem all_at {α : Type} (f : α → Bool) {l : List α} {k : Nat} (h : k < l.length) : (l.drop k).all f = (f l[k] && (l.drop (k + 1)).all f) := by
  rw [List.drop_eq_getElem_cons h, List.all_cons]
set_option maxHeartbeats 8000000 in
theorem change_calls (a b : Jv) (A0 B0 A1 B1 : Option Addr) (nl0 cl0 nm0 cm0 nl1 cl1 nm1 cm1 : Nat) (user : List UInt8) (mine : Int) (w : World) (ha : VOk w a A0 B0 nl0 cl0 nm0 cm0) (hb : VOk w b A1 B1 nl1 cl1 nm1 cm1) (ra : risV a = true) (rb : risV b = true) (hL : LonT w) (hT : TabT w) :
    Calls Tryd.prog 22 #[.agg #[.int .i64 a.kd, .bool a.is, .int .i64 a.n, .string ⟨a.s.toArray⟩, .slice A0 nl0 cl0, .slice B0 nm0 cm0], .agg #[.int .i64 b.kd, .bool b.is, .int .i64 b.n, .string ⟨b.s.toArray⟩, .slice A1 nl1 cl1, .slice B1 nm1 cm1], .string ⟨user.toArray⟩, .int .i64 mine] w fun e w' => e = .returned (.bool (changeF a b mine user)) ∧ Below w.heap.size w w' := by
  have b2 : Below w.heap.size w ((w.alloc (.cells #[.int .i64 a.kd, .bool a.is, .int .i64 a.n, .string ⟨a.s.toArray⟩, .slice A0 nl0 cl0, .slice B0 nm0 cm0] 25)).alloc (.cells #[.int .i64 b.kd, .bool b.is, .int .i64 b.n, .string ⟨b.s.toArray⟩, .slice A1 nl1 cl1, .slice B1 nm1 cm1] 25)) := ((Below.refl _ _).alloc (Nat.le_refl _) _).alloc (by simp) _
  have x0 := (Blk.new w [.int .i64 a.kd, .bool a.is, .int .i64 a.n, .string ⟨a.s.toArray⟩, .slice A0 nl0 cl0, .slice B0 nm0 cm0] 25).alloc (.cells #[.int .i64 b.kd, .bool b.is, .int .i64 b.n, .string ⟨b.s.toArray⟩, .slice A1 nl1 cl1, .slice B1 nm1 cm1] 25)
  have x1 := blk_at (w := w.alloc (.cells #[.int .i64 a.kd, .bool a.is, .int .i64 a.n, .string ⟨a.s.toArray⟩, .slice A0 nl0 cl0, .slice B0 nm0 cm0] 25)) [.int .i64 b.kd, .bool b.is, .int .i64 b.n, .string ⟨b.s.toArray⟩, .slice A1 nl1 cl1, .slice B1 nm1 cm1] 25 (g := w.heap.size + 1) (by simp)
  have HXA := Lib.hid x0
  have HXB := Lib.hid x1
  have HA := Lib.hid (And.intro (ha.below b2) ra)
  have HBV := Lib.hid (And.intro (hb.below b2) rb)
  have HB := Lib.hid b2
  have HTT := Lib.hid (hT.below b2)
  obtain ⟨hg, lb, lo, lcp, hbl, hgc, hcs⟩ := hL.below b2
  have HL := Lib.hid (And.intro hbl hcs)
  obtain ⟨L1, hL1⟩ : ∃ L1, lonN.all (fun p => reachF (toldF a p.1) (toldF b p.1) mine) = L1 := ⟨_, rfl⟩
  have HC := Lib.hid (show changeF a b mine user = (L1 && tabN.all (fun nm => turnsF (memF a nm) (memF b nm) mine nm user)) by unfold changeF; rw [hL1])
  have hst := Lib.hid (show L1 = (lonN.drop 0).all (fun p => reachF (toldF a p.1) (toldF b p.1) mine) by rw [← hL1]; rfl)
  clear x0 x1 ha hb ra rb hL hT hcs hL1 hbl hg
  go_enter Tryd.func22, Tryd.ntmps22
  go_wp2_with fail
  go_loopw [15] (fun i wr => ∃ k : Nat, k ≤ 7 ∧ i = .int .i64 (k : Int) ∧ Hid (Below ((w.alloc (.cells #[.int .i64 a.kd, .bool a.is, .int .i64 a.n, .string ⟨a.s.toArray⟩, .slice A0 nl0 cl0, .slice B0 nm0 cm0] 25)).alloc (.cells #[.int .i64 b.kd, .bool b.is, .int .i64 b.n, .string ⟨b.s.toArray⟩, .slice A1 nl1 cl1, .slice B1 nm1 cm1] 25)).heap.size ((w.alloc (.cells #[.int .i64 a.kd, .bool a.is, .int .i64 a.n, .string ⟨a.s.toArray⟩, .slice A0 nl0 cl0, .slice B0 nm0 cm0] 25)).alloc (.cells #[.int .i64 b.kd, .bool b.is, .int .i64 b.n, .string ⟨b.s.toArray⟩, .slice A1 nl1 cl1, .slice B1 nm1 cm1] 25)) wr) ∧ Hid (L1 = (lonN.drop k).all (fun p => reachF (toldF a p.1) (toldF b p.1) mine))) (fun i _ => 7 - (intOf i).toNat)
  case atStart => exact ⟨0, Nat.zero_le _, rfl, Lib.hid (Below.refl _ _), hst⟩
  case round =>
    obtain ⟨k, hk, rfl, hBr, hI⟩ := hrel
    by_cases hlt : k < 7
    · have hkl : k < lonN.length := hlt
      have k0 : wr.cell? ⟨lb, lo + k * 2, none⟩ = some (.string ⟨(lonN[k]).1.toArray⟩) := (hBr.out.cell (p := ⟨lb, _, none⟩) HL.out.1).trans (HL.out.2 k hkl).1
      have k1 : wr.cell? ⟨lb, lo + k * 2 + 1, none⟩ = some (.int .i64 (lonN[k]).2) := (hBr.out.cell (p := ⟨lb, _, none⟩) HL.out.1).trans (HL.out.2 k hkl).2
      have hat := all_at (fun p : List UInt8 × Int => reachF (toldF a p.1) (toldF b p.1) mine) hkl
      obtain ⟨nm, hnm⟩ : ∃ nm, (lonN[k]).1 = nm := ⟨_, rfl⟩
      obtain ⟨st, hst⟩ : ∃ st, (lonN[k]).2 = st := ⟨_, rfl⟩
      rw [hnm] at k0
      rw [hst] at k1
      rw [hnm] at hat
      have bn : Below ((w.alloc (.cells #[.int .i64 a.kd, .bool a.is, .int .i64 a.n, .string ⟨a.s.toArray⟩, .slice A0 nl0 cl0, .slice B0 nm0 cm0] 25)).alloc (.cells #[.int .i64 b.kd, .bool b.is, .int .i64 b.n, .string ⟨b.s.toArray⟩, .slice A1 nl1 cl1, .slice B1 nm1 cm1] 25)).heap.size ((w.alloc (.cells #[.int .i64 a.kd, .bool a.is, .int .i64 a.n, .string ⟨a.s.toArray⟩, .slice A0 nl0 cl0, .slice B0 nm0 cm0] 25)).alloc (.cells #[.int .i64 b.kd, .bool b.is, .int .i64 b.n, .string ⟨b.s.toArray⟩, .slice A1 nl1 cl1, .slice B1 nm1 cm1] 25)) (wr.alloc (.cells #[.string ⟨nm.toArray⟩, .int .i64 st] 58)) := hBr.out.alloc hBr.out.size _
      have HBN := Lib.hid bn
      have HNA := Lib.hid (HXA.out.later bn)
      have HNB := Lib.hid (HXB.out.later bn)
      have HRA := Lib.hid HNA.out.rng
      have HRB := Lib.hid HNB.out.rng
      have HVA := Lib.hid (And.intro (HA.out.1.below bn) (rise_top HA.out.2))
      have HVB := Lib.hid (And.intro (HBV.out.1.below bn) (rise_top HBV.out.2))
      have HLN := Lib.hid (Blk.new wr [.string ⟨nm.toArray⟩, .int .i64 st] 58)
      obtain ⟨xn, hxn⟩ : ∃ xn, (toldF a nm).getD 0 = xn := ⟨_, rfl⟩
      obtain ⟨yn, hyn⟩ : ∃ yn, (toldF b nm).getD 0 = yn := ⟨_, rfl⟩
      obtain ⟨xt, hxt⟩ : ∃ xt, (toldF a nm).isSome = xt := ⟨_, rfl⟩
      obtain ⟨yt, hyt⟩ : ∃ yt, (toldF b nm).isSome = yt := ⟨_, rfl⟩
      obtain ⟨rv, hrv⟩ : ∃ rv, reachB xn yn mine xt yt = rv := ⟨_, rfl⟩
      have hI2 : L1 = (rv && (lonN.drop (k + 1)).all (fun p => reachF (toldF a p.1) (toldF b p.1) mine)) := by rw [hI.out, hat]; unfold reachF; rw [hxn, hyn, hxt, hyt, hrv]
      have HI2 := Lib.hid hI2
      have HXN := Lib.hid (And.intro hxn hxt)
      have HYN := Lib.hid (And.intro hyn hyt)
      have HRV := Lib.hid hrv
      clear hI hat hnm hst bn hI2 hxn hyn hxt hyt hrv
      cases rv with
      | false =>
        have HC2 := Lib.hid (show changeF a b mine user = false by rw [HC.out, HI2.out]; rfl)
        clear HI2
        go_wp2_with fail
        apply wp_region_ls (by kernel_rfl) (by kernel_rfl)
        apply ls_load 25 (.tmp 4) rfl w.heap.size 0 [.int .i64 a.kd, .bool a.is, .int .i64 a.n, .string ⟨a.s.toArray⟩, .slice A0 nl0 cl0, .slice B0 nm0 cm0] _ HRA.out HNA.out.lt Tryd.underlying25 rfl size_valF rfl rfl
        simp only [Act.put, List.setIfInBounds_toArray, List.set_cons_succ, List.set_cons_zero]
        apply ls_pure (.pointer (some ⟨wr.heap.size, 0, none⟩)) rfl (by intro W; go_simp)
        simp only [Act.put, List.setIfInBounds_toArray, List.set_cons_succ, List.set_cons_zero]
        apply ls_cell (.string ⟨nm.toArray⟩) wr.heap.size 0 (HLN.out.cell (k := 0) rfl) HLN.out.lt rfl (by intro W h; go_simp)
        simp only [Act.put, List.setIfInBounds_toArray, List.set_cons_succ, List.set_cons_zero]
        apply ls_callb (.agg #[.int .i64 xn, .bool xt]) 35 #[.agg #[.int .i64 a.kd, .bool a.is, .int .i64 a.n, .string ⟨a.s.toArray⟩, .slice A0 nl0 cl0, .slice B0 nm0 cm0], .string ⟨nm.toArray⟩] rfl (by intro W; go_simp) (fun W hW => (told_calls a A0 B0 nl0 cl0 nm0 cm0 nm W (HVA.out.1.below hW) HVA.out.2).mono fun e w' h => by have h1 := h.1; rw [HXN.out.1, HXN.out.2] at h1; exact ⟨h1, h.2.1⟩)
        simp only [Act.put, List.setIfInBounds_toArray, List.set_cons_succ, List.set_cons_zero]
        apply ls_load 25 (.tmp 5) rfl (w.heap.size + 1) 0 [.int .i64 b.kd, .bool b.is, .int .i64 b.n, .string ⟨b.s.toArray⟩, .slice A1 nl1 cl1, .slice B1 nm1 cm1] _ HRB.out HNB.out.lt Tryd.underlying25 rfl size_valF rfl rfl
        simp only [Act.put, List.setIfInBounds_toArray, List.set_cons_succ, List.set_cons_zero]
        apply ls_pure (.pointer (some ⟨wr.heap.size, 0, none⟩)) rfl (by intro W; go_simp)
        simp only [Act.put, List.setIfInBounds_toArray, List.set_cons_succ, List.set_cons_zero]
        apply ls_cell (.string ⟨nm.toArray⟩) wr.heap.size 0 (HLN.out.cell (k := 0) rfl) HLN.out.lt rfl (by intro W h; go_simp)
        simp only [Act.put, List.setIfInBounds_toArray, List.set_cons_succ, List.set_cons_zero]
        apply ls_callb (.agg #[.int .i64 yn, .bool yt]) 35 #[.agg #[.int .i64 b.kd, .bool b.is, .int .i64 b.n, .string ⟨b.s.toArray⟩, .slice A1 nl1 cl1, .slice B1 nm1 cm1], .string ⟨nm.toArray⟩] rfl (by intro W; go_simp) (fun W hW => (told_calls b A1 B1 nl1 cl1 nm1 cm1 nm W (HVB.out.1.below hW) HVB.out.2).mono fun e w' h => by have h1 := h.1; rw [HYN.out.1, HYN.out.2] at h1; exact ⟨h1, h.2.1⟩)
        simp only [Act.put, List.setIfInBounds_toArray, List.set_cons_succ, List.set_cons_zero]
        apply ls_move (.int .i64 mine) (.tmp 3) rfl rfl rfl
        simp only [Act.put, List.setIfInBounds_toArray, List.set_cons_succ, List.set_cons_zero]
        apply ls_callb (.bool false) 40 #[.agg #[.int .i64 xn, .bool xt], .agg #[.int .i64 yn, .bool yt], .int .i64 mine] rfl (by intro W; go_simp) (fun W hW => (reaches_calls xn yn mine xt yt W).mono fun e w' h => by rw [HRV.out] at h; exact h)
        simp only [Act.put, List.setIfInBounds_toArray, List.set_cons_succ, List.set_cons_zero]
        apply ls_pure (.bool true) rfl (by intro W; go_simp)
        simp only [Act.put, List.setIfInBounds_toArray, List.set_cons_succ, List.set_cons_zero]
        refine ls_nil (Rs := []) ?_
        intro w9 b9
        have HB9 := Lib.hid (HB.out.then_ (HBN.out.then_ b9))
        clear b9
        go_wp2_with fail
        go_ret
        rw [HC2.out]
        exact ⟨rfl, HB9.out⟩
      | true =>
        have HI3 := Lib.hid (show L1 = (lonN.drop (k + 1)).all (fun p => reachF (toldF a p.1) (toldF b p.1) mine) by rw [HI2.out]; rfl)
        clear HI2
        go_wp2_with fail
        apply wp_region_ls (by kernel_rfl) (by kernel_rfl)
        apply ls_load 25 (.tmp 4) rfl w.heap.size 0 [.int .i64 a.kd, .bool a.is, .int .i64 a.n, .string ⟨a.s.toArray⟩, .slice A0 nl0 cl0, .slice B0 nm0 cm0] _ HRA.out HNA.out.lt Tryd.underlying25 rfl size_valF rfl rfl
        simp only [Act.put, List.setIfInBounds_toArray, List.set_cons_succ, List.set_cons_zero]
        apply ls_pure (.pointer (some ⟨wr.heap.size, 0, none⟩)) rfl (by intro W; go_simp)
        simp only [Act.put, List.setIfInBounds_toArray, List.set_cons_succ, List.set_cons_zero]
        apply ls_cell (.string ⟨nm.toArray⟩) wr.heap.size 0 (HLN.out.cell (k := 0) rfl) HLN.out.lt rfl (by intro W h; go_simp)
        simp only [Act.put, List.setIfInBounds_toArray, List.set_cons_succ, List.set_cons_zero]
        apply ls_callb (.agg #[.int .i64 xn, .bool xt]) 35 #[.agg #[.int .i64 a.kd, .bool a.is, .int .i64 a.n, .string ⟨a.s.toArray⟩, .slice A0 nl0 cl0, .slice B0 nm0 cm0], .string ⟨nm.toArray⟩] rfl (by intro W; go_simp) (fun W hW => (told_calls a A0 B0 nl0 cl0 nm0 cm0 nm W (HVA.out.1.below hW) HVA.out.2).mono fun e w' h => by have h1 := h.1; rw [HXN.out.1, HXN.out.2] at h1; exact ⟨h1, h.2.1⟩)
        simp only [Act.put, List.setIfInBounds_toArray, List.set_cons_succ, List.set_cons_zero]
        apply ls_load 25 (.tmp 5) rfl (w.heap.size + 1) 0 [.int .i64 b.kd, .bool b.is, .int .i64 b.n, .string ⟨b.s.toArray⟩, .slice A1 nl1 cl1, .slice B1 nm1 cm1] _ HRB.out HNB.out.lt Tryd.underlying25 rfl size_valF rfl rfl
        simp only [Act.put, List.setIfInBounds_toArray, List.set_cons_succ, List.set_cons_zero]
        apply ls_pure (.pointer (some ⟨wr.heap.size, 0, none⟩)) rfl (by intro W; go_simp)
        simp only [Act.put, List.setIfInBounds_toArray, List.set_cons_succ, List.set_cons_zero]
        apply ls_cell (.string ⟨nm.toArray⟩) wr.heap.size 0 (HLN.out.cell (k := 0) rfl) HLN.out.lt rfl (by intro W h; go_simp)
        simp only [Act.put, List.setIfInBounds_toArray, List.set_cons_succ, List.set_cons_zero]
        apply ls_callb (.agg #[.int .i64 yn, .bool yt]) 35 #[.agg #[.int .i64 b.kd, .bool b.is, .int .i64 b.n, .string ⟨b.s.toArray⟩, .slice A1 nl1 cl1, .slice B1 nm1 cm1], .string ⟨nm.toArray⟩] rfl (by intro W; go_simp) (fun W hW => (told_calls b A1 B1 nl1 cl1 nm1 cm1 nm W (HVB.out.1.below hW) HVB.out.2).mono fun e w' h => by have h1 := h.1; rw [HYN.out.1, HYN.out.2] at h1; exact ⟨h1, h.2.1⟩)
        simp only [Act.put, List.setIfInBounds_toArray, List.set_cons_succ, List.set_cons_zero]
        apply ls_move (.int .i64 mine) (.tmp 3) rfl rfl rfl
        simp only [Act.put, List.setIfInBounds_toArray, List.set_cons_succ, List.set_cons_zero]
        apply ls_callb (.bool true) 40 #[.agg #[.int .i64 xn, .bool xt], .agg #[.int .i64 yn, .bool yt], .int .i64 mine] rfl (by intro W; go_simp) (fun W hW => (reaches_calls xn yn mine xt yt W).mono fun e w' h => by rw [HRV.out] at h; exact h)
        simp only [Act.put, List.setIfInBounds_toArray, List.set_cons_succ, List.set_cons_zero]
        apply ls_pure (.bool false) rfl (by intro W; go_simp)
        simp only [Act.put, List.setIfInBounds_toArray, List.set_cons_succ, List.set_cons_zero]
        refine ls_nil (Rs := []) ?_
        intro w9 b9
        have HB9 := Lib.hid (HBN.out.then_ b9)
        clear b9 k0 k1
        go_wp2_with fail
        go_roundw
        case rel => exact ⟨k + 1, by omega, by go_num, HB9, HI3⟩
        case measure => simp [intOf]; omega
    · obtain rfl : k = 7 := by omega
      obtain ⟨w7, hw7⟩ : ∃ x, x = wr := ⟨_, rfl⟩
      subst hw7
      have HC2 := Lib.hid (show changeF a b mine user = (tabN.drop 0).all (fun nm => turnsF (memF a nm) (memF b nm) mine nm user) by rw [HC.out, hI.out]; rfl)
      obtain ⟨tg, tb, to, tcp, tbl, tgc, tcs⟩ := HTT.out.below hBr.out
      have HTC := Lib.hid (And.intro tbl tcs)
      have HBR := hBr
      clear hI hgc tbl tcs tg
      go_wp2_with fail
      go_loopw [33] (fun i wz => ∃ k : Nat, k ≤ 3 ∧ i = .int .i64 (k : Int) ∧ Hid (Below w7.heap.size w7 wz) ∧ Hid (changeF a b mine user = (tabN.drop k).all (fun nm => turnsF (memF a nm) (memF b nm) mine nm user))) (fun i _ => 3 - (intOf i).toNat)
      case atStart => exact ⟨0, Nat.zero_le _, rfl, Lib.hid (Below.refl _ _), HC2⟩
      case round =>
        obtain ⟨j, hj, rfl, hBs, hJ⟩ := hrel
        by_cases hlt2 : j < 3
        · have hjl : j < tabN.length := hlt2
          have k0 : wr.cell? ⟨tb, to + j, none⟩ = some (.string ⟨(tabN[j]).toArray⟩) := (hBs.out.cell (p := ⟨tb, _, none⟩) HTC.out.1).trans (HTC.out.2 j hjl)
          have hat := all_at (fun nm => turnsF (memF a nm) (memF b nm) mine nm user) hjl
          obtain ⟨nm, hnm⟩ : ∃ nm, tabN[j] = nm := ⟨_, rfl⟩
          rw [hnm] at k0 hat
          have bn : Below ((w.alloc (.cells #[.int .i64 a.kd, .bool a.is, .int .i64 a.n, .string ⟨a.s.toArray⟩, .slice A0 nl0 cl0, .slice B0 nm0 cm0] 25)).alloc (.cells #[.int .i64 b.kd, .bool b.is, .int .i64 b.n, .string ⟨b.s.toArray⟩, .slice A1 nl1 cl1, .slice B1 nm1 cm1] 25)).heap.size ((w.alloc (.cells #[.int .i64 a.kd, .bool a.is, .int .i64 a.n, .string ⟨a.s.toArray⟩, .slice A0 nl0 cl0, .slice B0 nm0 cm0] 25)).alloc (.cells #[.int .i64 b.kd, .bool b.is, .int .i64 b.n, .string ⟨b.s.toArray⟩, .slice A1 nl1 cl1, .slice B1 nm1 cm1] 25)) wr := HBR.out.then_ hBs.out
          have HBN := Lib.hid bn
          have HNA := Lib.hid (HXA.out.later bn)
          have HNB := Lib.hid (HXB.out.later bn)
          have HRA := Lib.hid HNA.out.rng
          have HRB := Lib.hid HNB.out.rng
          have HVA := Lib.hid (HA.out.1.below bn)
          have HVB := Lib.hid (HBV.out.1.below bn)
          have hpa := rise_top (memF_ris HA.out.2 nm)
          have hpb := rise_top (memF_ris HBV.out.2 nm)
          obtain ⟨ma, hma⟩ : ∃ ma, memF a nm = ma := ⟨_, rfl⟩
          obtain ⟨mb, hmb⟩ : ∃ mb, memF b nm = mb := ⟨_, rfl⟩
          obtain ⟨tv, htv⟩ : ∃ tv, turnsF ma mb mine nm user = tv := ⟨_, rfl⟩
          have hJ2 : changeF a b mine user = (tv && (tabN.drop (j + 1)).all (fun nm => turnsF (memF a nm) (memF b nm) mine nm user)) := by rw [hJ.out, hat, hma, hmb, htv]
          rw [hma] at hpa
          rw [hmb] at hpb
          have HJ2 := Lib.hid hJ2
          have HPA := Lib.hid hpa
          have HPB := Lib.hid hpb
          have HMA := Lib.hid hma
          have HMB := Lib.hid hmb
          have HTV := Lib.hid htv
          clear hJ hat hnm bn hpa hpb hma hmb htv hJ2
          cases tv with
          | false =>
            have HC3 := Lib.hid (show changeF a b mine user = false by rw [HJ2.out]; rfl)
            clear HJ2
            go_wp2_with fail
            apply wp_region_ls (by kernel_rfl) (by kernel_rfl)
            apply ls_load 25 (.tmp 4) rfl w.heap.size 0 [.int .i64 a.kd, .bool a.is, .int .i64 a.n, .string ⟨a.s.toArray⟩, .slice A0 nl0 cl0, .slice B0 nm0 cm0] _ HRA.out HNA.out.lt Tryd.underlying25 rfl size_valF rfl rfl
            simp only [Act.put, List.setIfInBounds_toArray, List.set_cons_succ, List.set_cons_zero]
            apply ls_move (.string ⟨nm.toArray⟩) (.tmp 12) rfl rfl rfl
            simp only [Act.put, List.setIfInBounds_toArray, List.set_cons_succ, List.set_cons_zero]
            apply ls_callr (IsV wr ma) 39 #[.agg #[.int .i64 a.kd, .bool a.is, .int .i64 a.n, .string ⟨a.s.toArray⟩, .slice A0 nl0 cl0, .slice B0 nm0 cm0], .string ⟨nm.toArray⟩] rfl (by intro W; go_simp) (fun W hW => (member0_calls a A0 B0 nl0 cl0 nm0 cm0 nm wr W HVA.out hW (rise_top HA.out.2)).mono fun e w' h => by rw [HMA.out] at h; obtain ⟨⟨A, B, nl, cl, nm', cm, rfl, hv⟩, b⟩ := h; exact ⟨_, rfl, ⟨A, B, nl, cl, nm', cm, rfl, hv⟩, b⟩)
            rintro _ ⟨A2, B2, nl2, cl2, nm2, cm2, rfl, hv2⟩
            have HV2 := Lib.hid hv2
            clear hv2
            simp only [Act.put, List.setIfInBounds_toArray, List.set_cons_succ, List.set_cons_zero]
            apply ls_load 25 (.tmp 5) rfl (w.heap.size + 1) 0 [.int .i64 b.kd, .bool b.is, .int .i64 b.n, .string ⟨b.s.toArray⟩, .slice A1 nl1 cl1, .slice B1 nm1 cm1] _ HRB.out HNB.out.lt Tryd.underlying25 rfl size_valF rfl rfl
            simp only [Act.put, List.setIfInBounds_toArray, List.set_cons_succ, List.set_cons_zero]
            apply ls_move (.string ⟨nm.toArray⟩) (.tmp 12) rfl rfl rfl
            simp only [Act.put, List.setIfInBounds_toArray, List.set_cons_succ, List.set_cons_zero]
            apply ls_callr (IsV wr mb) 39 #[.agg #[.int .i64 b.kd, .bool b.is, .int .i64 b.n, .string ⟨b.s.toArray⟩, .slice A1 nl1 cl1, .slice B1 nm1 cm1], .string ⟨nm.toArray⟩] rfl (by intro W; go_simp) (fun W hW => (member0_calls b A1 B1 nl1 cl1 nm1 cm1 nm wr W HVB.out hW (rise_top HBV.out.2)).mono fun e w' h => by rw [HMB.out] at h; obtain ⟨⟨A, B, nl, cl, nm', cm, rfl, hv⟩, b⟩ := h; exact ⟨_, rfl, ⟨A, B, nl, cl, nm', cm, rfl, hv⟩, b⟩)
            rintro _ ⟨A3, B3, nl3, cl3, nm3, cm3, rfl, hv3⟩
            have HV3 := Lib.hid hv3
            clear hv3
            simp only [Act.put, List.setIfInBounds_toArray, List.set_cons_succ, List.set_cons_zero]
            apply ls_move (.string ⟨nm.toArray⟩) (.tmp 12) rfl rfl rfl
            simp only [Act.put, List.setIfInBounds_toArray, List.set_cons_succ, List.set_cons_zero]
            apply ls_move (.string ⟨user.toArray⟩) (.tmp 2) rfl rfl rfl
            simp only [Act.put, List.setIfInBounds_toArray, List.set_cons_succ, List.set_cons_zero]
            apply ls_move (.int .i64 mine) (.tmp 3) rfl rfl rfl
            simp only [Act.put, List.setIfInBounds_toArray, List.set_cons_succ, List.set_cons_zero]
            apply ls_callb (.bool false) 41 #[.agg #[.int .i64 ma.kd, .bool ma.is, .int .i64 ma.n, .string ⟨ma.s.toArray⟩, .slice A2 nl2 cl2, .slice B2 nm2 cm2], .agg #[.int .i64 mb.kd, .bool mb.is, .int .i64 mb.n, .string ⟨mb.s.toArray⟩, .slice A3 nl3 cl3, .slice B3 nm3 cm3], .string ⟨nm.toArray⟩, .string ⟨user.toArray⟩, .int .i64 mine] rfl (by intro W; go_simp) (fun W hW => (turns_calls ma mb A2 B2 A3 B3 nl2 cl2 nm2 cm2 nl3 cl3 nm3 cm3 mine nm user W (HV2.out.below hW) (HV3.out.below hW) HPA.out HPB.out).mono fun e w' h => by rw [HTV.out] at h; exact h)
            simp only [Act.put, List.setIfInBounds_toArray, List.set_cons_succ, List.set_cons_zero]
            apply ls_pure (.bool true) rfl (by intro W; go_simp)
            simp only [Act.put, List.setIfInBounds_toArray, List.set_cons_succ, List.set_cons_zero]
            refine ls_nil (Rs := []) ?_
            intro w9 b9
            have HB9 := Lib.hid (HB.out.then_ (HBN.out.then_ b9))
            clear b9
            go_wp2_with fail
            go_ret
            rw [HC3.out]
            exact ⟨rfl, HB9.out⟩
          | true =>
            have HJ3 := Lib.hid (show changeF a b mine user = (tabN.drop (j + 1)).all (fun nm => turnsF (memF a nm) (memF b nm) mine nm user) by rw [HJ2.out]; rfl)
            clear HJ2
            go_wp2_with fail
            apply wp_region_ls (by kernel_rfl) (by kernel_rfl)
            apply ls_load 25 (.tmp 4) rfl w.heap.size 0 [.int .i64 a.kd, .bool a.is, .int .i64 a.n, .string ⟨a.s.toArray⟩, .slice A0 nl0 cl0, .slice B0 nm0 cm0] _ HRA.out HNA.out.lt Tryd.underlying25 rfl size_valF rfl rfl
            simp only [Act.put, List.setIfInBounds_toArray, List.set_cons_succ, List.set_cons_zero]
            apply ls_move (.string ⟨nm.toArray⟩) (.tmp 12) rfl rfl rfl
            simp only [Act.put, List.setIfInBounds_toArray, List.set_cons_succ, List.set_cons_zero]
            apply ls_callr (IsV wr ma) 39 #[.agg #[.int .i64 a.kd, .bool a.is, .int .i64 a.n, .string ⟨a.s.toArray⟩, .slice A0 nl0 cl0, .slice B0 nm0 cm0], .string ⟨nm.toArray⟩] rfl (by intro W; go_simp) (fun W hW => (member0_calls a A0 B0 nl0 cl0 nm0 cm0 nm wr W HVA.out hW (rise_top HA.out.2)).mono fun e w' h => by rw [HMA.out] at h; obtain ⟨⟨A, B, nl, cl, nm', cm, rfl, hv⟩, b⟩ := h; exact ⟨_, rfl, ⟨A, B, nl, cl, nm', cm, rfl, hv⟩, b⟩)
            rintro _ ⟨A2, B2, nl2, cl2, nm2, cm2, rfl, hv2⟩
            have HV2 := Lib.hid hv2
            clear hv2
            simp only [Act.put, List.setIfInBounds_toArray, List.set_cons_succ, List.set_cons_zero]
            apply ls_load 25 (.tmp 5) rfl (w.heap.size + 1) 0 [.int .i64 b.kd, .bool b.is, .int .i64 b.n, .string ⟨b.s.toArray⟩, .slice A1 nl1 cl1, .slice B1 nm1 cm1] _ HRB.out HNB.out.lt Tryd.underlying25 rfl size_valF rfl rfl
            simp only [Act.put, List.setIfInBounds_toArray, List.set_cons_succ, List.set_cons_zero]
            apply ls_move (.string ⟨nm.toArray⟩) (.tmp 12) rfl rfl rfl
            simp only [Act.put, List.setIfInBounds_toArray, List.set_cons_succ, List.set_cons_zero]
            apply ls_callr (IsV wr mb) 39 #[.agg #[.int .i64 b.kd, .bool b.is, .int .i64 b.n, .string ⟨b.s.toArray⟩, .slice A1 nl1 cl1, .slice B1 nm1 cm1], .string ⟨nm.toArray⟩] rfl (by intro W; go_simp) (fun W hW => (member0_calls b A1 B1 nl1 cl1 nm1 cm1 nm wr W HVB.out hW (rise_top HBV.out.2)).mono fun e w' h => by rw [HMB.out] at h; obtain ⟨⟨A, B, nl, cl, nm', cm, rfl, hv⟩, b⟩ := h; exact ⟨_, rfl, ⟨A, B, nl, cl, nm', cm, rfl, hv⟩, b⟩)
            rintro _ ⟨A3, B3, nl3, cl3, nm3, cm3, rfl, hv3⟩
            have HV3 := Lib.hid hv3
            clear hv3
            simp only [Act.put, List.setIfInBounds_toArray, List.set_cons_succ, List.set_cons_zero]
            apply ls_move (.string ⟨nm.toArray⟩) (.tmp 12) rfl rfl rfl
            simp only [Act.put, List.setIfInBounds_toArray, List.set_cons_succ, List.set_cons_zero]
            apply ls_move (.string ⟨user.toArray⟩) (.tmp 2) rfl rfl rfl
            simp only [Act.put, List.setIfInBounds_toArray, List.set_cons_succ, List.set_cons_zero]
            apply ls_move (.int .i64 mine) (.tmp 3) rfl rfl rfl
            simp only [Act.put, List.setIfInBounds_toArray, List.set_cons_succ, List.set_cons_zero]
            apply ls_callb (.bool true) 41 #[.agg #[.int .i64 ma.kd, .bool ma.is, .int .i64 ma.n, .string ⟨ma.s.toArray⟩, .slice A2 nl2 cl2, .slice B2 nm2 cm2], .agg #[.int .i64 mb.kd, .bool mb.is, .int .i64 mb.n, .string ⟨mb.s.toArray⟩, .slice A3 nl3 cl3, .slice B3 nm3 cm3], .string ⟨nm.toArray⟩, .string ⟨user.toArray⟩, .int .i64 mine] rfl (by intro W; go_simp) (fun W hW => (turns_calls ma mb A2 B2 A3 B3 nl2 cl2 nm2 cm2 nl3 cl3 nm3 cm3 mine nm user W (HV2.out.below hW) (HV3.out.below hW) HPA.out HPB.out).mono fun e w' h => by rw [HTV.out] at h; exact h)
            simp only [Act.put, List.setIfInBounds_toArray, List.set_cons_succ, List.set_cons_zero]
            apply ls_pure (.bool false) rfl (by intro W; go_simp)
            simp only [Act.put, List.setIfInBounds_toArray, List.set_cons_succ, List.set_cons_zero]
            refine ls_nil (Rs := []) ?_
            intro w9 b9
            have HB9 := Lib.hid (hBs.out.then_ b9)
            clear b9 k0
            go_wp2_with fail
            go_roundw
            case rel => exact ⟨j + 1, by omega, by go_num, HB9, HJ3⟩
            case measure => simp [intOf]; omega
        · obtain rfl : j = 3 := by omega
          have HC3 := Lib.hid (show changeF a b mine user = true by rw [hJ.out]; rfl)
          have HB9 := Lib.hid (HB.out.then_ (HBR.out.then_ hBs.out))
          go_wp2_with fail
          go_ret
          rw [HC3.out]
          exact ⟨rfl, HB9.out⟩
end Go.Proofs.YtmfefeemkhncfaaDoor
