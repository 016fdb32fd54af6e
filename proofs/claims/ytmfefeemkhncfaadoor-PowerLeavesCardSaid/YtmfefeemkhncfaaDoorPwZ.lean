/- Layer 14: the law PowerLeaves. -/
import Derived.Test.YtmfefeemkhncfaaDoorPwS
import Derived.Test.YtmfefeemkhncfaaDoorJvH
import Derived.Test.YtmfefeemkhncfaaDoorJvI
namespace Go.Proofs.YtmfefeemkhncfaaDoor
open Go.ChangeShapes Go.WideShapes Go.ChangeAt Go.RowKit Go.IntWalk
set_option linter.unusedVariables false
set_option maxRecDepth 100000

theorem reach_self (xn mine : Int) (xt : Bool) : reachB xn xn mine xt xt = true := by unfold reachB; simp
theorem wrong_self (a : Jv) (mine : Int) (nm user k : List UInt8) : wrongF a a mine nm user k = false := by
  unfold wrongF wrongB
  rw [reach_self]; simp
theorem any_none (g : List UInt8 → Bool) (h : ∀ k, g k = false) : ∀ t : JT, anyK (fun k _ => g k) t = false
  | .nil => rfl
  | .cons k kd is n s l m r => by simp only [anyK, h k, any_none g h r, Bool.or_self]
theorem turns_of (a b : Jv) (mine : Int) (nm user : List UInt8) (h : ∀ k, wrongF a b mine nm user k = false) : turnsF a b mine nm user = true := by
  unfold turnsF
  rw [any_none (fun k => wrongF a b mine nm user k) h, any_none (fun k => wrongF a b mine nm user k) h]; rfl
theorem change_self (a : Jv) (mine : Int) (user : List UInt8) : changeF a a mine user = true := by
  unfold changeF
  rw [Bool.and_eq_true, List.all_eq_true, List.all_eq_true]
  exact ⟨fun p _ => reach_self _ _ _, fun nm _ => turns_of _ _ _ _ _ (fun k => wrong_self _ _ _ _ k)⟩
def bigN (k : List UInt8) (v : Jv) : Bool := decide ((9007199254740992 : Int) < v.n)
def bigK (k : List UInt8) (v : Jv) : Bool := decide ((9007199254740992 : Int) < v.n) || anyK bigN v.m
def bigT (v : Jv) : Bool := anyK bigK v.m
theorem any_find {f : List UInt8 → Jv → Bool} {key : List UInt8} {u : Jv} : ∀ {t : JT}, anyK f t = false → t.findV key = some u → f key u = false
  | .nil, _, h => by cases h
  | .cons k kd is n s l m r, h, h2 => by
    simp only [anyK, Bool.or_eq_false_iff] at h
    rw [JT.findV] at h2
    by_cases e : k = key
    · rw [if_pos e] at h2; injection h2 with h2; subst h2 e; exact h.1
    · rw [if_neg e] at h2; exact any_find h.2 h2
theorem any_mem {f : List UInt8 → Jv → Bool} {v : Jv} (h : anyK f v.m = false) (hn : ∀ key, f key nullV = false) (key : List UInt8) : f key (memF v key) = false := by
  unfold memF
  by_cases h5 : v.kd = 5
  · rw [if_pos h5]
    cases hf : v.m.findV key with
    | none => exact hn key
    | some u => exact any_find h hf
  · rw [if_neg h5]; exact hn key
theorem told_small {v : Jv} {key : List UInt8} (h : (memF v key).n ≤ 9007199254740992) : (toldF v key).getD 0 ≤ 9007199254740992 := by
  unfold toldF
  by_cases h2 : (memF v key).kd = 2
  · rw [if_pos h2]; exact h
  · rw [if_neg h2]; decide
theorem lone_small {v : Jv} (h : bigT v = false) (key : List UInt8) : (toldF v key).getD 0 ≤ 9007199254740992 := by
  refine told_small ?_
  have h1 := any_mem h (fun _ => rfl) key
  unfold bigK at h1
  rw [Bool.or_eq_false_iff, decide_eq_false_iff_not] at h1
  omega
theorem tab_small {v : Jv} (h : bigT v = false) (nm key : List UInt8) : (toldF (memF v nm) key).getD 0 ≤ 9007199254740992 := by
  refine told_small ?_
  have h1 := any_mem h (fun _ => rfl) nm
  unfold bigK at h1
  rw [Bool.or_eq_false_iff] at h1
  have h2 := any_mem h1.2 (fun _ => rfl) key
  unfold bigN at h2
  rw [decide_eq_false_iff_not] at h2
  omega
theorem reach_small {xn yn : Int} (hx : xn ≤ 9007199254740992) (hy : yn ≤ 9007199254740992) (xt yt : Bool) : reachB xn yn 9007199254740993 xt yt = true := by
  unfold reachB
  rw [decide_eq_false (show ¬ (9007199254740993 : Int) < xn by omega), decide_eq_false (show ¬ (9007199254740993 : Int) < yn by omega)]
  simp
theorem change_small {a b : Jv} (ha : bigT a = false) (hb : bigT b = false) (user : List UInt8) : changeF a b 9007199254740993 user = true := by
  unfold changeF
  rw [Bool.and_eq_true, List.all_eq_true, List.all_eq_true]
  refine ⟨fun p _ => reach_small (lone_small ha _) (lone_small hb _) _ _, fun nm _ => turns_of _ _ _ _ _ (fun k => ?_)⟩
  unfold wrongF wrongB
  have h := tab_small ha nm k
  rw [reach_small h (tab_small hb nm k), decide_eq_false (show ¬ (9007199254740993 : Int) ≤ (toldF (memF a nm) k).getD 0 by omega)]
  simp
theorem gr_bulk {v : Jv} (h : grB v = false) : v.bulk ≤ 1000000 := by
  unfold grB at h
  simp only [Bool.or_eq_false_iff, decide_eq_false_iff_not] at h
  have h1 : 0 ≤ wgV v 4096 60 := by omega
  unfold wgV at h1
  rw [if_neg (by decide)] at h1
  have h2 := wg_bulk v.m true _ _ h1
  have h3 := wg_bulk v.l false (4096 - 1 - (v.s.length : Int)) (60 - 1) (by omega)
  unfold Jv.bulk
  omega
theorem idx_pair (x0 x1 x2 x3 x4 x5 y0 y1 y2 y3 y4 y5 : Value) : (∀ W : World, (Instr.index 42 (.agg #[x0, x1, x2, x3, x4, x5, y0, y1, y2, y3, y4, y5]) (.int .i64 0)).run Tryd.prog W = .ok (.agg #[x0, x1, x2, x3, x4, x5]) W) ∧
    (∀ W : World, (Instr.index 42 (.agg #[x0, x1, x2, x3, x4, x5, y0, y1, y2, y3, y4, y5]) (.int .i64 1)).run Tryd.prog W = .ok (.agg #[y0, y1, y2, y3, y4, y5]) W) :=
  ⟨fun _ => by kernel_rfl, fun _ => by kernel_rfl⟩
/-- How far the loop over both has come. -/
def QRel (a b : Jv) : Nat → Prop
  | 0 => True
  | 1 => Hid (bigT a = false)
  | _ => Hid (bigT a = false) ∧ Hid (bigT b = false)
set_option maxHeartbeats 16000000 in
theorem leaves_walk (a0 a1 : Jv) (A0 B0 A1 B1 : Option Addr) (nl0 cl0 nm0 cm0 nl1 cl1 nm1 cm1 : Nat) (l0 : List UInt8) (a3 : Int) (w : World) (hr0 : VOk w a0 A0 B0 nl0 cl0 nm0 cm0) (hr1 : VOk w a1 A1 B1 nl1 cl1 nm1 cm1) (hT : LonTab w) :
    Calls Tryd.prog 9 #[.agg #[.int .i64 a0.kd, .bool a0.is, .int .i64 a0.n, .string ⟨a0.s.toArray⟩, .slice A0 nl0 cl0, .slice B0 nm0 cm0], .agg #[.int .i64 a1.kd, .bool a1.is, .int .i64 a1.n, .string ⟨a1.s.toArray⟩, .slice A1 nl1 cl1, .slice B1 nm1 cm1], .string ⟨l0.toArray⟩, .int .i64 a3] w fun e w' => e = .returned (.bool true) ∧ Below w.heap.size w w' := by
  have b2 : Below w.heap.size w ((w.alloc (.cells #[.int .i64 a0.kd, .bool a0.is, .int .i64 a0.n, .string ⟨a0.s.toArray⟩, .slice A0 nl0 cl0, .slice B0 nm0 cm0] 25)).alloc (.cells #[.int .i64 a1.kd, .bool a1.is, .int .i64 a1.n, .string ⟨a1.s.toArray⟩, .slice A1 nl1 cl1, .slice B1 nm1 cm1] 25)) := ((Below.refl _ _).alloc (Nat.le_refl _) _).alloc (by simp) _
  have HXA := Lib.hid ((Blk.new w [.int .i64 a0.kd, .bool a0.is, .int .i64 a0.n, .string ⟨a0.s.toArray⟩, .slice A0 nl0 cl0, .slice B0 nm0 cm0] 25).alloc (.cells #[.int .i64 a1.kd, .bool a1.is, .int .i64 a1.n, .string ⟨a1.s.toArray⟩, .slice A1 nl1 cl1, .slice B1 nm1 cm1] 25))
  have HXB := Lib.hid (blk_at (w := w.alloc (.cells #[.int .i64 a0.kd, .bool a0.is, .int .i64 a0.n, .string ⟨a0.s.toArray⟩, .slice A0 nl0 cl0, .slice B0 nm0 cm0] 25)) [.int .i64 a1.kd, .bool a1.is, .int .i64 a1.n, .string ⟨a1.s.toArray⟩, .slice A1 nl1 cl1, .slice B1 nm1 cm1] 25 (g := w.heap.size + 1) (by simp))
  have HA := Lib.hid (hr0.below b2)
  have HBV := Lib.hid (hr1.below b2)
  have HLL := Lib.hid (hT.below b2)
  have HB := Lib.hid b2
  obtain ⟨ga, hga⟩ : ∃ g, grB a0 = g := ⟨_, rfl⟩
  have HGA := Lib.hid hga
  obtain ⟨gb, hgb⟩ : ∃ g, grB a1 = g := ⟨_, rfl⟩
  have HGB := Lib.hid hgb
  obtain ⟨sn, hsn⟩ : ∃ sn, l0.length = sn := ⟨_, rfl⟩
  have hss : (⟨l0.toArray⟩ : ByteArray).size = sn := hsn
  have hc := alive_calls ((w.alloc (.cells #[.int .i64 a0.kd, .bool a0.is, .int .i64 a0.n, .string ⟨a0.s.toArray⟩, .slice A0 nl0 cl0, .slice B0 nm0 cm0] 25)).alloc (.cells #[.int .i64 a1.kd, .bool a1.is, .int .i64 a1.n, .string ⟨a1.s.toArray⟩, .slice A1 nl1 cl1, .slice B1 nm1 cm1] 25)) HLL.out.1
  clear hr0 hr1 hT b2 hga hgb hsn
  go_enter Tryd.func9, Tryd.ntmps9
  go_wp2_with fail
  refine hc.mono ?_
  rintro e w1 ⟨rfl, b1⟩
  have HB1 := Lib.hid (HB.out.then_ b1)
  have HXA1 := Lib.hid (HXA.out.later b1)
  have HXB1 := Lib.hid (HXB.out.later b1)
  have HRA1 := Lib.hid HXA1.out.rng
  have HRB1 := Lib.hid HXB1.out.rng
  have HVA := Lib.hid (HA.out.below b1)
  have HVB := Lib.hid (HBV.out.below b1)
  have HLL1 := Lib.hid (HLL.out.below b1)
  clear b1 hc
  have hg := great_calls a0 A0 B0 nl0 cl0 nm0 cm0 w1 HVA.out
  rw [HGA.out] at hg
  have hxa := HXA1.out
  have d0 := hxa.cell (k := 0) rfl; have d1 := hxa.cell (k := 1) rfl; have d2 := hxa.cell (k := 2) rfl; have d3 := hxa.cell (k := 3) rfl; have d4 := hxa.cell (k := 4) rfl; have d5 := hxa.cell (k := 5) rfl
  clear hxa
  cases ga with
  | true =>
    go_wp2_with fail
    refine hg.mono ?_
    rintro e w3 ⟨rfl, b9⟩
    have HB9 := Lib.hid (HB1.out.then_ b9)
    clear b9 hg
    go_wp2_with fail
    go_ret
    exact ⟨rfl, HB9.out⟩
  | false =>
    go_wp2_with fail
    refine hg.mono ?_
    rintro e w3 ⟨rfl, b3⟩
    have HBa := Lib.hid b3
    have hg2 := great_calls a1 A1 B1 nl1 cl1 nm1 cm1 w3 (HVB.out.below b3)
    rw [HGB.out] at hg2
    have hxb := HXB1.out.later b3
    have e0 := hxb.cell (k := 0) rfl; have e1 := hxb.cell (k := 1) rfl; have e2 := hxb.cell (k := 2) rfl; have e3 := hxb.cell (k := 3) rfl; have e4 := hxb.cell (k := 4) rfl; have e5 := hxb.cell (k := 5) rfl
    clear hxb b3 hg d0 d1 d2 d3 d4 d5
    cases gb with
    | true =>
      go_wp2_with fail
      refine hg2.mono ?_
      rintro e w4 ⟨rfl, b9⟩
      have HB9 := Lib.hid (HB1.out.then_ (HBa.out.then_ b9))
      clear b9 hg2
      go_wp2_with fail
      go_ret
      exact ⟨rfl, HB9.out⟩
    | false =>
    have HRI := Lib.hid (And.intro (gr_ris HGA.out) (gr_ris HGB.out))
    have HBK := Lib.hid (gr_bulk HGA.out)
    go_wp2_with fail
    refine hg2.mono ?_
    rintro e w4 ⟨rfl, b4⟩
    have HBb := Lib.hid (HBa.out.then_ b4)
    clear b4 hg2 e0 e1 e2 e3 e4 e5
    by_cases hlen : 1024 < sn
    · have ht : decide ((1024 : Int) < (sn : Int)) = true := by simp; omega
      have HB9 := Lib.hid (HB1.out.then_ HBb.out)
      go_wp2_with fail
      go_ret
      exact ⟨rfl, HB9.out⟩
    have ht : decide ((1024 : Int) < (sn : Int)) = false := by simp; omega
    clear hlen
    have HB1' := Lib.hid (HB1.out.then_ HBb.out)
    have HXA2 := Lib.hid (HXA1.out.later HBb.out)
    have HXB2 := Lib.hid (HXB1.out.later HBb.out)
    have HVA2 := Lib.hid (HVA.out.below HBb.out)
    have HVB2 := Lib.hid (HVB.out.below HBb.out)
    have HLL2 := Lib.hid (HLL1.out.below HBb.out)
    clear HBb HBa HB1 HXA1 HXB1 HRA1 HRB1 HVA HVB HLL1
    have hxa := HXA2.out
    have d0 := hxa.cell (k := 0) rfl; have d1 := hxa.cell (k := 1) rfl; have d2 := hxa.cell (k := 2) rfl; have d3 := hxa.cell (k := 3) rfl; have d4 := hxa.cell (k := 4) rfl; have d5 := hxa.cell (k := 5) rfl
    clear hxa
    have HCP := Lib.hid (copy_calls 1000000 a0 A0 B0 nl0 cl0 nm0 cm0 _ HBK.out (Nat.le_refl _) HVA2.out)
    go_wp2_with fail
    refine HCP.out.mono ?_
    rintro e w2 ⟨⟨A2, B2, nl2, cl2, nm2, cm2, rfl, hvd⟩, b⟩
    have b3 : Below w2.heap.size w2 (w2.alloc (.cells #[.int .i64 a0.kd, .bool a0.is, .int .i64 a0.n, .string ⟨a0.s.toArray⟩, .slice A2 nl2 cl2, .slice B2 nm2 cm2] 25)) := (Below.refl _ _).alloc (Nat.le_refl _) _
    have HB3 := Lib.hid (HB1'.out.then_ (b.then_ b3))
    have HXA3 := Lib.hid (HXA2.out.later (b.then_ b3))
    have HXB3 := Lib.hid (HXB2.out.later (b.then_ b3))
    have HRA3 := Lib.hid HXA3.out.rng
    have HVA3 := Lib.hid (HVA2.out.below (b.then_ b3))
    have HVB3 := Lib.hid (HVB2.out.below (b.then_ b3))
    have HLL3 := Lib.hid (HLL2.out.below (b.then_ b3))
    have HXD3 := Lib.hid (Blk.new w2 [.int .i64 a0.kd, .bool a0.is, .int .i64 a0.n, .string ⟨a0.s.toArray⟩, .slice A2 nl2 cl2, .slice B2 nm2 cm2] 25)
    have HRD3 := Lib.hid HXD3.out.rng
    have HVD3 := Lib.hid (hvd.ok.below b3)
    clear d0 d1 d2 d3 d4 d5 b hvd b3 HCP HXA2 HXB2 HVA2 HVB2 HLL2
    have hc1 := change_calls a0 a0 A2 B2 A2 B2 nl2 cl2 nm2 cm2 nl2 cl2 nm2 cm2 l0 a3 _ HVD3.out HVD3.out HRI.out.1 HRI.out.1 HLL3.out.1 HLL3.out.2
    rw [change_self] at hc1
    have hxd := HXD3.out
    have d0 := hxd.cell (k := 0) rfl; have d1 := hxd.cell (k := 1) rfl; have d2 := hxd.cell (k := 2) rfl; have d3 := hxd.cell (k := 3) rfl; have d4 := hxd.cell (k := 4) rfl; have d5 := hxd.cell (k := 5) rfl
    clear hxd
    go_wp2_with fail
    refine hc1.mono ?_
    rintro e w5 ⟨rfl, b5⟩
    have HBc := Lib.hid b5
    have hc2 := same_calls 1000000 a0 a0 A2 B2 A0 B0 nl2 cl2 nm2 cm2 nl0 cl0 nm0 cm0 w5 HBK.out (HVD3.out.below b5) (HVA3.out.below b5)
    rw [sameV_refl] at hc2
    clear hc1 d0 d1 d2 d3 d4 d5
    have hxd := HXD3.out.later b5
    have d0 := hxd.cell (k := 0) rfl; have d1 := hxd.cell (k := 1) rfl; have d2 := hxd.cell (k := 2) rfl; have d3 := hxd.cell (k := 3) rfl; have d4 := hxd.cell (k := 4) rfl; have d5 := hxd.cell (k := 5) rfl
    have hxa := HXA3.out.later b5
    have e0 := hxa.cell (k := 0) rfl; have e1 := hxa.cell (k := 1) rfl; have e2 := hxa.cell (k := 2) rfl; have e3 := hxa.cell (k := 3) rfl; have e4 := hxa.cell (k := 4) rfl; have e5 := hxa.cell (k := 5) rfl
    clear hxd hxa b5
    go_wp2_with fail
    refine hc2.mono ?_
    rintro e w6 ⟨rfl, b6⟩
    have b9 := HBc.out.then_ b6
    clear b6 hc2 d0 d1 d2 d3 d4 d5 e0 e1 e2 e3 e4 e5
    have HB4 := Lib.hid (HB3.out.then_ b9)
    have HXA4 := Lib.hid (HXA3.out.later b9)
    have HXB4 := Lib.hid (HXB3.out.later b9)
    have HVA4 := Lib.hid (HVA3.out.below b9)
    have HVB4 := Lib.hid (HVB3.out.below b9)
    have HLL4 := Lib.hid (HLL3.out.below b9)
    clear b9 HB3 HXA3 HXB3 HRA3 HVA3 HVB3 HLL3 HXD3 HRD3 HVD3
    have hxa := HXA4.out
    have d0 := hxa.cell (k := 0) rfl; have d1 := hxa.cell (k := 1) rfl; have d2 := hxa.cell (k := 2) rfl; have d3 := hxa.cell (k := 3) rfl; have d4 := hxa.cell (k := 4) rfl; have d5 := hxa.cell (k := 5) rfl
    have hxb := HXB4.out
    have e0 := hxb.cell (k := 0) rfl; have e1 := hxb.cell (k := 1) rfl; have e2 := hxb.cell (k := 2) rfl; have e3 := hxb.cell (k := 3) rfl; have e4 := hxb.cell (k := 4) rfl; have e5 := hxb.cell (k := 5) rfl
    clear hxa hxb
    go_wp2_with fail
    clear d0 d1 d2 d3 d4 d5 e0 e1 e2 e3 e4 e5
    refine wp_gen (fun W => Below w.heap.size w W ∧ Blk W w.heap.size 25 [.int .i64 a0.kd, .bool a0.is, .int .i64 a0.n, .string ⟨a0.s.toArray⟩, .slice A0 nl0 cl0, .slice B0 nm0 cm0] ∧ Blk W (w.heap.size + 1) 25 [.int .i64 a1.kd, .bool a1.is, .int .i64 a1.n, .string ⟨a1.s.toArray⟩, .slice A1 nl1 cl1, .slice B1 nm1 cm1] ∧ VOk W a0 A0 B0 nl0 cl0 nm0 cm0 ∧ VOk W a1 A1 B1 nl1 cl1 nm1 cm1 ∧ LonTab W) ⟨HB4.out, HXA4.out, HXB4.out, HVA4.out, HVB4.out, HLL4.out⟩ ?_
    clear HB4 HXA4 HXB4 HVA4 HVB4 HLL4
    rintro w8 ⟨g1, g2, g3, g4, g5, g6⟩
    have HB8 := Lib.hid g1
    have HXA8 := Lib.hid g2
    have HXB8 := Lib.hid g3
    have HVA8 := Lib.hid g4
    have HVB8 := Lib.hid g5
    have HLL8 := Lib.hid g6
    clear g1 g2 g3 g4 g5 g6
    go_loopw [46] (fun i wz => ∃ q : Nat, q ≤ 2 ∧ i = .int .i64 (q : Int) ∧ Hid (Below w8.heap.size w8 wz) ∧ QRel a0 a1 q) (fun i _ => 2 - (intOf i).toNat)
    case atStart => exact ⟨0, Nat.zero_le _, rfl, Lib.hid (Below.refl _ _), trivial⟩
    case round =>
      obtain ⟨q, hq, rfl, hBq, hQ⟩ := hrel
      match q, hq, hQ with
      | 0, _, _ =>
        obtain ⟨w4, hw4⟩ : ∃ x, x = wr := ⟨_, rfl⟩
        subst hw4
        have hb5 : Below w4.heap.size w4 (w4.alloc (.cells #[.int .i64 a0.kd, .bool a0.is, .int .i64 a0.n, .string ⟨a0.s.toArray⟩, .slice A0 nl0 cl0, .slice B0 nm0 cm0] 25)) := (Below.refl _ _).alloc (Nat.le_refl _) _
        have HB5 := Lib.hid (hBq.out.then_ hb5)
        have HX5 := Lib.hid (Blk.new w4 [.int .i64 a0.kd, .bool a0.is, .int .i64 a0.n, .string ⟨a0.s.toArray⟩, .slice A0 nl0 cl0, .slice B0 nm0 cm0] 25)
        have HV5 := Lib.hid ((HVA8.out.below hBq.out).below hb5)
        have hx5 := HX5.out
        have d5 := hx5.cell (k := 5) rfl
        have hnx47 : nm0 ≤ 140737488355328 := HV5.out.2.1.2.2
        have HNX := Lib.hid HV5.out.2.1.1
        obtain ⟨hix0, hix1⟩ := idx_pair (.int .i64 a0.kd) (.bool a0.is) (.int .i64 a0.n) (.string ⟨a0.s.toArray⟩) (.slice A0 nl0 cl0) (.slice B0 nm0 cm0) (.int .i64 a1.kd) (.bool a1.is) (.int .i64 a1.n) (.string ⟨a1.s.toArray⟩) (.slice A1 nl1 cl1) (.slice B1 nm1 cm1)
        have hst1 := Lib.hid (show bigT a0 = anyK bigK (a0.m.fall 0) by rw [JT.fall_zero]; rfl)
        clear hb5 hx5
        go_wp2_with fail
        clear d5 hix0 hix1
        refine wp_gen (fun W => Below w8.heap.size w8 W ∧ VOk W a0 A0 B0 nl0 cl0 nm0 cm0) ⟨HB5.out, HV5.out⟩ ?_
        rintro wx ⟨gx, vx⟩
        have HBx := Lib.hid gx
        have HS5 := Lib.hid vx.2.2.2.1
        clear gx vx HX5 HV5 hBq HB5
        go_loopw [52] (fun i wz => ∃ k : Nat, k ≤ nm0 ∧ i = .int .i64 (k : Int) ∧ Hid (Below wx.heap.size wx wz) ∧ Hid (bigT a0 = anyK bigK (a0.m.fall k))) (fun i _ => nm0 - (intOf i).toNat)
        case atStart => exact ⟨0, Nat.zero_le _, rfl, Lib.hid (Below.refl _ _), hst1⟩
        case round =>
          obtain ⟨k, hk, rfl, hBk, hK⟩ := hrel
          by_cases hlt : k < nm0
          · obtain ⟨w6, hw6⟩ : ∃ x, x = wr := ⟨_, rfl⟩
            subst hw6
            have HLT := Lib.hid (show k < a0.m.ext by rw [← HNX.out]; exact hlt)
            obtain ⟨b0, off, eA, enl, ecl, eB, enm, ecm, rfl, eP, ebl, eK, eKl, f0, f1, f2, f3, f4, f5, r1, r2, s1, s2, hf⟩ := (HS5.out.up hBk.out).mb (i := k) _ HLT.out
            have hat := anyK_at bigK HLT.out
            obtain ⟨eu, hev⟩ : ∃ eu, (a0.m.fall k).val = eu := ⟨_, rfl⟩
            obtain ⟨ek, hek⟩ : ∃ ek, (a0.m.fall k).key = ek := ⟨_, rfl⟩
            rw [hev] at f0 f1 f2 f3 r1 r2 s1 s2 hf hat
            rw [hek] at eK hat
            have HK2 := Lib.hid (hK.out.trans hat)
            have h7 : Below w6.heap.size w6 (w6.alloc (.cells #[.string ⟨ek.toArray⟩, .int .i64 eu.kd, .bool eu.is, .int .i64 eu.n, .string ⟨eu.s.toArray⟩, .slice eA enl ecl, .slice eB enm ecm] 44)) := (Below.refl _ _).alloc (Nat.le_refl _) _
            have HB7 := Lib.hid (hBk.out.then_ h7)
            have HM7 := Lib.hid (Blk.new w6 [.string ⟨ek.toArray⟩, .int .i64 eu.kd, .bool eu.is, .int .i64 eu.n, .string ⟨eu.s.toArray⟩, .slice eA enl ecl, .slice eB enm ecm] 44)
            have HS7 := Lib.hid (s2.up h7)
            have HRM := Lib.hid r2
            have hm7 := HM7.out
            have d3 := hm7.cell (k := 3) rfl; have d6 := hm7.cell (k := 6) rfl
            clear hK hat eP eKl r1 r2 s1 s2 hf hev hek h7 ebl hm7
            by_cases hbig : 9007199254740992 < eu.n
            · have hbb : decide ((9007199254740992 : Int) < eu.n) = true := by simpa using hbig
              have HB9 := Lib.hid (HB8.out.then_ (HBx.out.then_ HB7.out))
              clear hbig
              go_wp2_with fail
              go_ret
              exact ⟨rfl, HB9.out⟩
            · have hbb : decide ((9007199254740992 : Int) < eu.n) = false := by simpa using hbig
              have hst2 := Lib.hid (show bigK ek eu = anyK bigN (eu.m.fall 0) by rw [JT.fall_zero]; unfold bigK; rw [hbb]; rfl)
              have hnm47 : enm ≤ 140737488355328 := HRM.out.2.2
              clear hbig
              go_wp2_with fail
              refine wp_gen (fun W => Below wx.heap.size wx W ∧ JSl (· < W.heap.size) W true eB eu.m) ⟨HB7.out, HS7.out⟩ ?_
              rintro wy ⟨gy, sy⟩
              have HBY := Lib.hid gy
              have HSY := Lib.hid sy
              clear gy sy HB7 HS7 HM7 d3 d6 hBk eK f0 f1 f2 f3 f4 f5
              go_loopw [64] (fun i wz => ∃ r : Nat, r ≤ enm ∧ i = .int .i64 (r : Int) ∧ Hid (Below wy.heap.size wy wz) ∧ Hid (bigK ek eu = anyK bigN (eu.m.fall r))) (fun i _ => enm - (intOf i).toNat)
              case atStart => exact ⟨0, Nat.zero_le _, rfl, Lib.hid (Below.refl _ _), hst2⟩
              case round =>
                obtain ⟨r, hr, rfl, hBr, hR⟩ := hrel
                by_cases hlt2 : r < enm
                · have HLR := Lib.hid (show r < eu.m.ext by rw [← HRM.out.1]; exact hlt2)
                  obtain ⟨xb, xo, xA, xnl, xcl, xB, xnm, xcm, rfl, xP, xbl, xK, xKl, g0, g1, g2, g3, g4, g5, y1, y2, z1, z2, yf⟩ := (HSY.out.up hBr.out).mb (i := r) _ HLR.out
                  have hat := anyK_at bigN HLR.out
                  obtain ⟨xu, hxu⟩ : ∃ xu, (eu.m.fall r).val = xu := ⟨_, rfl⟩
                  obtain ⟨xk, hxk⟩ : ∃ xk, (eu.m.fall r).key = xk := ⟨_, rfl⟩
                  rw [hxu] at g0 g1 g2 g3 hat
                  rw [hxk] at xK hat
                  have HR2 := Lib.hid (hR.out.trans hat)
                  have hz9 : Below wr.heap.size wr (wr.alloc (.cells #[.string ⟨xk.toArray⟩, .int .i64 xu.kd, .bool xu.is, .int .i64 xu.n, .string ⟨xu.s.toArray⟩, .slice xA xnl xcl, .slice xB xnm xcm] 44)) := (Below.refl _ _).alloc (Nat.le_refl _) _
                  have HBZ := Lib.hid (hBr.out.then_ hz9)
                  clear xP xKl y1 y2 z1 z2 yf hxu hxk hat hR hz9
                  by_cases hbig : 9007199254740992 < xu.n
                  · have hbb : decide ((9007199254740992 : Int) < xu.n) = true := by simpa using hbig
                    have HB9 := Lib.hid (HB8.out.then_ (HBx.out.then_ (HBY.out.then_ HBZ.out)))
                    clear hbig
                    go_wp2_with fail
                    go_ret
                    exact ⟨rfl, HB9.out⟩
                  · have hbb : decide ((9007199254740992 : Int) < xu.n) = false := by simpa using hbig
                    have HF := Lib.hid (show bigK ek eu = anyK bigN (eu.m.fall (r + 1)) by rw [HR2.out, show bigN xk xu = false from hbb]; rfl)
                    clear hbig
                    go_wp2_with fail
                    go_roundw
                    case rel =>
                      first
                        | exact ⟨r + 1, by omega, by go_num, HBZ, HF⟩
                        | (repeat apply Exists.intro
                           refine ⟨⟨r + 1, by omega, ?e1, HBZ, HF⟩, ?f1⟩
                           case f1 => rfl
                           case e1 => go_num)
                        | (repeat apply Exists.intro
                           refine ⟨?e0, ?e1, HBZ, HF⟩
                           case e1 => go_num
                           case e0 => omega)
                    case measure => simp [intOf]; omega
                · obtain rfl : r = enm := by omega
                  have HF := Lib.hid (show bigT a0 = anyK bigK (a0.m.fall (k + 1)) by rw [HK2.out, hR.out, anyK_end bigN (by rw [← HRM.out.1]; exact Nat.le_refl _)]; rfl)
                  have HB9 := Lib.hid (HBY.out.then_ hBr.out)
                  clear hR
                  go_wp2_with fail
                  go_roundw
                  case rel =>
                    first
                      | exact ⟨k + 1, by omega, by go_num, HB9, HF⟩
                      | (repeat apply Exists.intro
                         refine ⟨⟨k + 1, by omega, ?e1, HB9, HF⟩, ?f1⟩
                         case f1 => rfl
                         case e1 => go_num)
                      | (repeat apply Exists.intro
                         refine ⟨?e0, ?e1, HB9, HF⟩
                         case e1 => go_num
                         case e0 => omega)
                  case measure => simp [intOf]; omega
          · obtain rfl : k = nm0 := by omega
            have HBT := Lib.hid (show bigT a0 = false by rw [hK.out, anyK_end bigK (by rw [← HNX.out]; exact Nat.le_refl _)])
            have HB9 := Lib.hid (HBx.out.then_ hBk.out)
            clear hK hBk
            go_wp2_with fail
            go_roundw
            case rel =>
              first
                | exact ⟨0 + 1, by omega, by go_num, HB9, HBT⟩
                | (repeat apply Exists.intro
                   refine ⟨⟨0 + 1, by omega, ?e1, HB9, HBT⟩, ?f1⟩
                   case f1 => rfl
                   case e1 => go_num)
                | (repeat apply Exists.intro
                   refine ⟨?e0, ?e1, HB9, HBT⟩
                   case e1 => go_num
                   case e0 => omega)
            case measure => simp [intOf]
      | 1, _, hQ =>
        obtain ⟨w4, hw4⟩ : ∃ x, x = wr := ⟨_, rfl⟩
        subst hw4
        have hb5 : Below w4.heap.size w4 (w4.alloc (.cells #[.int .i64 a1.kd, .bool a1.is, .int .i64 a1.n, .string ⟨a1.s.toArray⟩, .slice A1 nl1 cl1, .slice B1 nm1 cm1] 25)) := (Below.refl _ _).alloc (Nat.le_refl _) _
        have HB5 := Lib.hid (hBq.out.then_ hb5)
        have HX5 := Lib.hid (Blk.new w4 [.int .i64 a1.kd, .bool a1.is, .int .i64 a1.n, .string ⟨a1.s.toArray⟩, .slice A1 nl1 cl1, .slice B1 nm1 cm1] 25)
        have HV5 := Lib.hid ((HVB8.out.below hBq.out).below hb5)
        have hx5 := HX5.out
        have d5 := hx5.cell (k := 5) rfl
        have hnx47 : nm1 ≤ 140737488355328 := HV5.out.2.1.2.2
        have HNX := Lib.hid HV5.out.2.1.1
        obtain ⟨hix0, hix1⟩ := idx_pair (.int .i64 a0.kd) (.bool a0.is) (.int .i64 a0.n) (.string ⟨a0.s.toArray⟩) (.slice A0 nl0 cl0) (.slice B0 nm0 cm0) (.int .i64 a1.kd) (.bool a1.is) (.int .i64 a1.n) (.string ⟨a1.s.toArray⟩) (.slice A1 nl1 cl1) (.slice B1 nm1 cm1)
        have hst1 := Lib.hid (show bigT a1 = anyK bigK (a1.m.fall 0) by rw [JT.fall_zero]; rfl)
        clear hb5 hx5
        go_wp2_with fail
        clear d5 hix0 hix1
        refine wp_gen (fun W => Below w8.heap.size w8 W ∧ VOk W a1 A1 B1 nl1 cl1 nm1 cm1) ⟨HB5.out, HV5.out⟩ ?_
        rintro wx ⟨gx, vx⟩
        have HBx := Lib.hid gx
        have HS5 := Lib.hid vx.2.2.2.1
        clear gx vx HX5 HV5 hBq HB5
        go_loopw [52] (fun i wz => ∃ k : Nat, k ≤ nm1 ∧ i = .int .i64 (k : Int) ∧ Hid (Below wx.heap.size wx wz) ∧ Hid (bigT a1 = anyK bigK (a1.m.fall k))) (fun i _ => nm1 - (intOf i).toNat)
        case atStart => exact ⟨0, Nat.zero_le _, rfl, Lib.hid (Below.refl _ _), hst1⟩
        case round =>
          obtain ⟨k, hk, rfl, hBk, hK⟩ := hrel
          by_cases hlt : k < nm1
          · obtain ⟨w6, hw6⟩ : ∃ x, x = wr := ⟨_, rfl⟩
            subst hw6
            have HLT := Lib.hid (show k < a1.m.ext by rw [← HNX.out]; exact hlt)
            obtain ⟨b0, off, eA, enl, ecl, eB, enm, ecm, rfl, eP, ebl, eK, eKl, f0, f1, f2, f3, f4, f5, r1, r2, s1, s2, hf⟩ := (HS5.out.up hBk.out).mb (i := k) _ HLT.out
            have hat := anyK_at bigK HLT.out
            obtain ⟨eu, hev⟩ : ∃ eu, (a1.m.fall k).val = eu := ⟨_, rfl⟩
            obtain ⟨ek, hek⟩ : ∃ ek, (a1.m.fall k).key = ek := ⟨_, rfl⟩
            rw [hev] at f0 f1 f2 f3 r1 r2 s1 s2 hf hat
            rw [hek] at eK hat
            have HK2 := Lib.hid (hK.out.trans hat)
            have h7 : Below w6.heap.size w6 (w6.alloc (.cells #[.string ⟨ek.toArray⟩, .int .i64 eu.kd, .bool eu.is, .int .i64 eu.n, .string ⟨eu.s.toArray⟩, .slice eA enl ecl, .slice eB enm ecm] 44)) := (Below.refl _ _).alloc (Nat.le_refl _) _
            have HB7 := Lib.hid (hBk.out.then_ h7)
            have HM7 := Lib.hid (Blk.new w6 [.string ⟨ek.toArray⟩, .int .i64 eu.kd, .bool eu.is, .int .i64 eu.n, .string ⟨eu.s.toArray⟩, .slice eA enl ecl, .slice eB enm ecm] 44)
            have HS7 := Lib.hid (s2.up h7)
            have HRM := Lib.hid r2
            have hm7 := HM7.out
            have d3 := hm7.cell (k := 3) rfl; have d6 := hm7.cell (k := 6) rfl
            clear hK hat eP eKl r1 r2 s1 s2 hf hev hek h7 ebl hm7
            by_cases hbig : 9007199254740992 < eu.n
            · have hbb : decide ((9007199254740992 : Int) < eu.n) = true := by simpa using hbig
              have HB9 := Lib.hid (HB8.out.then_ (HBx.out.then_ HB7.out))
              clear hbig
              go_wp2_with fail
              go_ret
              exact ⟨rfl, HB9.out⟩
            · have hbb : decide ((9007199254740992 : Int) < eu.n) = false := by simpa using hbig
              have hst2 := Lib.hid (show bigK ek eu = anyK bigN (eu.m.fall 0) by rw [JT.fall_zero]; unfold bigK; rw [hbb]; rfl)
              have hnm47 : enm ≤ 140737488355328 := HRM.out.2.2
              clear hbig
              go_wp2_with fail
              refine wp_gen (fun W => Below wx.heap.size wx W ∧ JSl (· < W.heap.size) W true eB eu.m) ⟨HB7.out, HS7.out⟩ ?_
              rintro wy ⟨gy, sy⟩
              have HBY := Lib.hid gy
              have HSY := Lib.hid sy
              clear gy sy HB7 HS7 HM7 d3 d6 hBk eK f0 f1 f2 f3 f4 f5
              go_loopw [64] (fun i wz => ∃ r : Nat, r ≤ enm ∧ i = .int .i64 (r : Int) ∧ Hid (Below wy.heap.size wy wz) ∧ Hid (bigK ek eu = anyK bigN (eu.m.fall r))) (fun i _ => enm - (intOf i).toNat)
              case atStart => exact ⟨0, Nat.zero_le _, rfl, Lib.hid (Below.refl _ _), hst2⟩
              case round =>
                obtain ⟨r, hr, rfl, hBr, hR⟩ := hrel
                by_cases hlt2 : r < enm
                · have HLR := Lib.hid (show r < eu.m.ext by rw [← HRM.out.1]; exact hlt2)
                  obtain ⟨xb, xo, xA, xnl, xcl, xB, xnm, xcm, rfl, xP, xbl, xK, xKl, g0, g1, g2, g3, g4, g5, y1, y2, z1, z2, yf⟩ := (HSY.out.up hBr.out).mb (i := r) _ HLR.out
                  have hat := anyK_at bigN HLR.out
                  obtain ⟨xu, hxu⟩ : ∃ xu, (eu.m.fall r).val = xu := ⟨_, rfl⟩
                  obtain ⟨xk, hxk⟩ : ∃ xk, (eu.m.fall r).key = xk := ⟨_, rfl⟩
                  rw [hxu] at g0 g1 g2 g3 hat
                  rw [hxk] at xK hat
                  have HR2 := Lib.hid (hR.out.trans hat)
                  have hz9 : Below wr.heap.size wr (wr.alloc (.cells #[.string ⟨xk.toArray⟩, .int .i64 xu.kd, .bool xu.is, .int .i64 xu.n, .string ⟨xu.s.toArray⟩, .slice xA xnl xcl, .slice xB xnm xcm] 44)) := (Below.refl _ _).alloc (Nat.le_refl _) _
                  have HBZ := Lib.hid (hBr.out.then_ hz9)
                  clear xP xKl y1 y2 z1 z2 yf hxu hxk hat hR hz9
                  by_cases hbig : 9007199254740992 < xu.n
                  · have hbb : decide ((9007199254740992 : Int) < xu.n) = true := by simpa using hbig
                    have HB9 := Lib.hid (HB8.out.then_ (HBx.out.then_ (HBY.out.then_ HBZ.out)))
                    clear hbig
                    go_wp2_with fail
                    go_ret
                    exact ⟨rfl, HB9.out⟩
                  · have hbb : decide ((9007199254740992 : Int) < xu.n) = false := by simpa using hbig
                    have HF := Lib.hid (show bigK ek eu = anyK bigN (eu.m.fall (r + 1)) by rw [HR2.out, show bigN xk xu = false from hbb]; rfl)
                    clear hbig
                    go_wp2_with fail
                    go_roundw
                    case rel =>
                      first
                        | exact ⟨r + 1, by omega, by go_num, HBZ, HF⟩
                        | (repeat apply Exists.intro
                           refine ⟨⟨r + 1, by omega, ?e1, HBZ, HF⟩, ?f1⟩
                           case f1 => rfl
                           case e1 => go_num)
                        | (repeat apply Exists.intro
                           refine ⟨?e0, ?e1, HBZ, HF⟩
                           case e1 => go_num
                           case e0 => omega)
                    case measure => simp [intOf]; omega
                · obtain rfl : r = enm := by omega
                  have HF := Lib.hid (show bigT a1 = anyK bigK (a1.m.fall (k + 1)) by rw [HK2.out, hR.out, anyK_end bigN (by rw [← HRM.out.1]; exact Nat.le_refl _)]; rfl)
                  have HB9 := Lib.hid (HBY.out.then_ hBr.out)
                  clear hR
                  go_wp2_with fail
                  go_roundw
                  case rel =>
                    first
                      | exact ⟨k + 1, by omega, by go_num, HB9, HF⟩
                      | (repeat apply Exists.intro
                         refine ⟨⟨k + 1, by omega, ?e1, HB9, HF⟩, ?f1⟩
                         case f1 => rfl
                         case e1 => go_num)
                      | (repeat apply Exists.intro
                         refine ⟨?e0, ?e1, HB9, HF⟩
                         case e1 => go_num
                         case e0 => omega)
                  case measure => simp [intOf]; omega
          · obtain rfl : k = nm1 := by omega
            have HBT := Lib.hid (show bigT a1 = false by rw [hK.out, anyK_end bigK (by rw [← HNX.out]; exact Nat.le_refl _)])
            have HB9 := Lib.hid (HBx.out.then_ hBk.out)
            clear hK hBk
            go_wp2_with fail
            go_roundw
            case rel =>
              first
                | exact ⟨1 + 1, by omega, by go_num, HB9, ⟨hQ, HBT⟩⟩
                | (repeat apply Exists.intro
                   refine ⟨⟨1 + 1, by omega, ?e1, HB9, ⟨hQ, HBT⟩⟩, ?f1⟩
                   case f1 => rfl
                   case e1 => go_num)
                | (repeat apply Exists.intro
                   refine ⟨?e0, ?e1, HB9, ⟨hQ, HBT⟩⟩
                   case e1 => go_num
                   case e0 => omega)
            case measure => simp [intOf]
      | 2, _, hQ =>
        have HCB := Lib.hid (change_small hQ.1.out hQ.2.out l0)
        have HXA9 := Lib.hid (HXA8.out.later hBq.out)
        have HXB9 := Lib.hid (HXB8.out.later hBq.out)
        have HRA9 := Lib.hid HXA9.out.rng
        have HRB9 := Lib.hid HXB9.out.rng
        have HVA9 := Lib.hid (HVA8.out.below hBq.out)
        have HVB9 := Lib.hid (HVB8.out.below hBq.out)
        have HLL9 := Lib.hid (HLL8.out.below hBq.out)
        have hc3 := change_calls a0 a1 A0 B0 A1 B1 nl0 cl0 nm0 cm0 nl1 cl1 nm1 cm1 l0 9007199254740993 _ HVA9.out HVB9.out HRI.out.1 HRI.out.2 HLL9.out.1 HLL9.out.2
        rw [HCB.out] at hc3
        have hxa := HXA9.out
        have d0 := hxa.cell (k := 0) rfl; have d1 := hxa.cell (k := 1) rfl; have d2 := hxa.cell (k := 2) rfl; have d3 := hxa.cell (k := 3) rfl; have d4 := hxa.cell (k := 4) rfl; have d5 := hxa.cell (k := 5) rfl
        have hxb := HXB9.out
        have e0 := hxb.cell (k := 0) rfl; have e1 := hxb.cell (k := 1) rfl; have e2 := hxb.cell (k := 2) rfl; have e3 := hxb.cell (k := 3) rfl; have e4 := hxb.cell (k := 4) rfl; have e5 := hxb.cell (k := 5) rfl
        clear hxa hxb
        go_wp2_with fail
        refine hc3.mono ?_
        rintro e w9 ⟨rfl, b9⟩
        have HB9 := Lib.hid (HB8.out.then_ (hBq.out.then_ b9))
        clear b9
        go_wp2_with fail
        go_ret
        exact ⟨rfl, HB9.out⟩
theorem powerLeaves_walk (a0 : Jv) (A0 B0 : Option Addr) (nl0 cl0 nm0 cm0 : Nat) {w : World} (hr0 : VOk w a0 A0 B0 nl0 cl0 nm0 cm0) (a1 : Jv) (A1 B1 : Option Addr) (nl1 cl1 nm1 cm1 : Nat) (hr1 : VOk w a1 A1 B1 nl1 cl1 nm1 cm1) (a2 : ByteArray) (w2 : a2.size ≤ maxLen) (a3 : Int) (w3 : (Lit.int .i64 a3).wf = true) (hT : LonTab w) :
    Calls Tryd.prog 9 #[.agg #[.int .i64 a0.kd, .bool a0.is, .int .i64 a0.n, .string ⟨a0.s.toArray⟩, .slice A0 nl0 cl0, .slice B0 nm0 cm0], .agg #[.int .i64 a1.kd, .bool a1.is, .int .i64 a1.n, .string ⟨a1.s.toArray⟩, .slice A1 nl1 cl1, .slice B1 nm1 cm1], .string a2, .int .i64 a3] w fun e w' => e = .returned (.bool true) ∧ Below w.heap.size w w' := by
  obtain ⟨l0, rfl, _⟩ := str_split a2
  exact leaves_walk a0 a1 A0 B0 A1 B1 nl0 cl0 nm0 cm0 nl1 cl1 nm1 cm1 l0 a3 w hr0 hr1 hT
end Go.Proofs.YtmfefeemkhncfaaDoor
