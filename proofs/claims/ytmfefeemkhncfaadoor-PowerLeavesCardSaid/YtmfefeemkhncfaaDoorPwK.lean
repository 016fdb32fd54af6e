/- Layer 14: what may be changed: pure; the program's small parts walked. -/
import Derived.Test.YtmfefeemkhncfaaDoorPwI
import Derived.Test.YtmfefeemkhncfaaDoorLgZ
namespace Go.Proofs.YtmfefeemkhncfaaDoor
open Go.ChangeShapes Go.WideShapes Go.ChangeAt Go.RowKit Go.IntWalk
set_option linter.unusedVariables false
set_option maxRecDepth 100000

def reachB (xn yn mine : Int) (xt yt : Bool) : Bool := (decide (xn = yn) && (xt == yt)) || (!(xt && decide (mine < xn)) && !(yt && decide (mine < yn)))
def reachF (x y : Option Int) (mine : Int) : Bool := reachB (x.getD 0) (y.getD 0) mine x.isSome y.isSome
set_option maxHeartbeats 4000000 in
theorem reaches_calls (xn yn mine : Int) (xt yt : Bool) (w : World) :
    Calls Tryd.prog 40 #[.agg #[.int .i64 xn, .bool xt], .agg #[.int .i64 yn, .bool yt], .int .i64 mine] w fun e w' => e = .returned (.bool (reachB xn yn mine xt yt)) ∧ Below w.heap.size w w' := by
  obtain ⟨rb, hrb⟩ : ∃ rb, reachB xn yn mine xt yt = rb := ⟨_, rfl⟩
  rw [hrb]
  have HR := Lib.hid hrb
  clear hrb
  go_enter Tryd.func40, Tryd.ntmps40
  go_wp2_with fail
  all_goals go_ret
  all_goals (refine ⟨?_, ((Below.refl _ _).alloc (Nat.le_refl _) _).alloc (by simp) _⟩; rw [← HR.out]; clear HR; unfold reachB; simp_all)
/-- The members of a map; none: it is no map. -/
def rowsF (v : Jv) : JT := if v.kd = 5 then v.m else .nil
def RowsPost (v : Jv) (w : World) (e : Ending) (w' : World) : Prop :=
  (∃ (A : Option Addr) (n c : Nat), e = .returned (.slice A n c) ∧ Room n c (rowsF v).ext ∧ JSl (· < w'.heap.size) w' true A (rowsF v)) ∧ Below w.heap.size w w'
set_option maxHeartbeats 2000000 in
theorem rows_calls (a : Jv) (A0 B0 : Option Addr) (nl0 cl0 nm0 cm0 : Nat) (w : World) (hv : VOk w a A0 B0 nl0 cl0 nm0 cm0) :
    Calls Tryd.prog 55 #[.agg #[.int .i64 a.kd, .bool a.is, .int .i64 a.n, .string ⟨a.s.toArray⟩, .slice A0 nl0 cl0, .slice B0 nm0 cm0]] w (RowsPost a w) := by
  have hb : Below w.heap.size w (w.alloc (.cells #[.int .i64 a.kd, .bool a.is, .int .i64 a.n, .string ⟨a.s.toArray⟩, .slice A0 nl0 cl0, .slice B0 nm0 cm0] 25)) := (Below.refl _ _).alloc (Nat.le_refl _) _
  by_cases h5 : a.kd = 5
  · have k1 : (a.kd != 5) = false := by rw [h5]; rfl
    have HP := Lib.hid (show RowsPost a w (.returned (.slice B0 nm0 cm0)) (w.alloc (.cells #[.int .i64 a.kd, .bool a.is, .int .i64 a.n, .string ⟨a.s.toArray⟩, .slice A0 nl0 cl0, .slice B0 nm0 cm0] 25)) from ⟨⟨B0, nm0, cm0, rfl, by unfold rowsF; rw [if_pos h5]; exact hv.2.1, by unfold rowsF; rw [if_pos h5]; exact hv.2.2.2.1.up hb⟩, hb⟩)
    clear hb hv h5
    go_enter Tryd.func55, Tryd.ntmps55
    go_wp2_with fail
    go_ret
    exact HP.out
  · have k1 : (a.kd != 5) = true := by rw [bne_iff_ne]; exact h5
    have HP := Lib.hid (show RowsPost a w (.returned (.slice none 0 0)) (w.alloc (.cells #[.int .i64 a.kd, .bool a.is, .int .i64 a.n, .string ⟨a.s.toArray⟩, .slice A0 nl0 cl0, .slice B0 nm0 cm0] 25)) from ⟨⟨none, 0, 0, rfl, by unfold rowsF; rw [if_neg h5]; exact ⟨rfl, Nat.le_refl _, by decide⟩, by unfold rowsF; rw [if_neg h5]; exact .inl rfl⟩, hb⟩)
    clear hb hv h5
    go_enter Tryd.func55, Tryd.ntmps55
    go_wp2_with fail
    go_ret
    exact HP.out
/-- What the test reads: both tables, the level, the table's name, who asks. -/
def TurnEnv (pa pb pm pn pu : Nat) (ca cb : List Value) (mine : Int) (name user : List UInt8) (w : World) : Prop :=
  (w.rangeAt pa 0 ca ∧ pa < w.heap.size) ∧ (w.rangeAt pb 0 cb ∧ pb < w.heap.size) ∧ (w.cell? ⟨pm, 0, none⟩ = some (.int .i64 mine) ∧ pm < w.heap.size) ∧ (w.cell? ⟨pn, 0, none⟩ = some (.string ⟨name.toArray⟩) ∧ pn < w.heap.size) ∧ (w.cell? ⟨pu, 0, none⟩ = some (.string ⟨user.toArray⟩) ∧ pu < w.heap.size)
theorem TurnEnv.below {pa pb pm pn pu : Nat} {ca cb : List Value} {mine : Int} {name user : List UInt8} {w w' : World} (h : TurnEnv pa pb pm pn pu ca cb mine name user w) (b : Below w.heap.size w w') : TurnEnv pa pb pm pn pu ca cb mine name user w' :=
  ⟨⟨fun j v hj => (b.cell (p := ⟨pa, 0 + j, none⟩) h.1.2).trans (h.1.1 j v hj), Nat.lt_of_lt_of_le h.1.2 b.size⟩, ⟨fun j v hj => (b.cell (p := ⟨pb, 0 + j, none⟩) h.2.1.2).trans (h.2.1.1 j v hj), Nat.lt_of_lt_of_le h.2.1.2 b.size⟩,
    ⟨(b.cell (p := ⟨pm, 0, none⟩) h.2.2.1.2).trans h.2.2.1.1, Nat.lt_of_lt_of_le h.2.2.1.2 b.size⟩, ⟨(b.cell (p := ⟨pn, 0, none⟩) h.2.2.2.1.2).trans h.2.2.2.1.1, Nat.lt_of_lt_of_le h.2.2.2.1.2 b.size⟩, ⟨(b.cell (p := ⟨pu, 0, none⟩) h.2.2.2.2.2).trans h.2.2.2.2.1, Nat.lt_of_lt_of_le h.2.2.2.2.2 b.size⟩⟩
def wrongB (xn yn mine : Int) (xt yt us own : Bool) : Bool := !reachB xn yn mine xt yt || (us && own && !(decide (xn = yn) && (xt == yt)) && xt && decide (mine ≤ xn))
/-- Whether a member of a table may not be changed so. -/
def wrongF (a b : Jv) (mine : Int) (name user k : List UInt8) : Bool := wrongB ((toldF a k).getD 0) ((toldF b k).getD 0) mine (toldF a k).isSome (toldF b k).isSome (name == usersK) (k != user)
set_option maxHeartbeats 8000000 in
theorem wrong_calls (a b mv : Jv) (A0 B0 A1 B1 mA mB : Option Addr) (nl0 cl0 nm0 cm0 nl1 cl1 nm1 cm1 mnl mcl mnm mcm pa pb pm pn pu : Nat) (mine : Int) (name user k : List UInt8) (w : World)
    (hE : TurnEnv pa pb pm pn pu [.int .i64 a.kd, .bool a.is, .int .i64 a.n, .string ⟨a.s.toArray⟩, .slice A0 nl0 cl0, .slice B0 nm0 cm0] [.int .i64 b.kd, .bool b.is, .int .i64 b.n, .string ⟨b.s.toArray⟩, .slice A1 nl1 cl1, .slice B1 nm1 cm1] mine name user w) (ha : VOk w a A0 B0 nl0 cl0 nm0 cm0) (hb : VOk w b A1 B1 nl1 cl1 nm1 cm1) (ra : Rise (slts a.m)) (rb : Rise (slts b.m)) :
    Calls Tryd.prog 54 #[.agg #[.string ⟨k.toArray⟩, .int .i64 mv.kd, .bool mv.is, .int .i64 mv.n, .string ⟨mv.s.toArray⟩, .slice mA mnl mcl, .slice mB mnm mcm], .pointer (some ⟨pa, 0, none⟩), .pointer (some ⟨pb, 0, none⟩), .pointer (some ⟨pm, 0, none⟩), .pointer (some ⟨pn, 0, none⟩), .pointer (some ⟨pu, 0, none⟩)] w fun e w' => e = .returned (.bool (wrongF a b mine name user k)) ∧ Below w.heap.size w w' := by
  have hb0 : Below w.heap.size w (w.alloc (.cells #[.string ⟨k.toArray⟩, .int .i64 mv.kd, .bool mv.is, .int .i64 mv.n, .string ⟨mv.s.toArray⟩, .slice mA mnl mcl, .slice mB mnm mcm] 44)) := (Below.refl _ _).alloc (Nat.le_refl _) _
  have HX := Lib.hid (Blk.new w [.string ⟨k.toArray⟩, .int .i64 mv.kd, .bool mv.is, .int .i64 mv.n, .string ⟨mv.s.toArray⟩, .slice mA mnl mcl, .slice mB mnm mcm] 44)
  have HE := Lib.hid (hE.below hb0)
  have HA := Lib.hid (And.intro (ha.below hb0) ra)
  have HBV := Lib.hid (And.intro (hb.below hb0) rb)
  have HB := Lib.hid hb0
  obtain ⟨xn, hxn⟩ : ∃ xn, (toldF a k).getD 0 = xn := ⟨_, rfl⟩
  obtain ⟨yn, hyn⟩ : ∃ yn, (toldF b k).getD 0 = yn := ⟨_, rfl⟩
  obtain ⟨xt, hxt⟩ : ∃ xt, (toldF a k).isSome = xt := ⟨_, rfl⟩
  obtain ⟨yt, hyt⟩ : ∃ yt, (toldF b k).isSome = yt := ⟨_, rfl⟩
  have HW := Lib.hid (show wrongF a b mine name user k = wrongB xn yn mine xt yt (name == usersK) (k != user) by unfold wrongF; rw [hxn, hyn, hxt, hyt])
  have HXN := Lib.hid (And.intro hxn hxt)
  have HYN := Lib.hid (And.intro hyn hyt)
  clear hE ha hb ra rb hb0 hxn hyn hxt hyt
  go_enter Tryd.func54, Tryd.ntmps54
  go_wp2_with fail
  apply wp_region_g 10 (by kernel_rfl) (by kernel_rfl)
  simp only [List.take_succ_cons, List.take_zero, List.drop_succ_cons, List.drop_zero]
  apply lg_load 25 (.tmp 1) rfl pa 0 [.int .i64 a.kd, .bool a.is, .int .i64 a.n, .string ⟨a.s.toArray⟩, .slice A0 nl0 cl0, .slice B0 nm0 cm0] _ HE.out.1.1 HE.out.1.2 Tryd.underlying25 rfl size_valF rfl rfl
  simp only [Act.put, List.setIfInBounds_toArray, List.set_cons_succ, List.set_cons_zero]
  apply lg_pure (.pointer (some ⟨w.heap.size, 0, none⟩)) rfl (by intro W; go_simp)
  simp only [Act.put, List.setIfInBounds_toArray, List.set_cons_succ, List.set_cons_zero]
  apply lg_run (.string ⟨k.toArray⟩) rfl (by intro W hW; have hk := (hW.cell (p := ⟨w.heap.size, 0, none⟩) HX.out.lt).trans (HX.out.cell (k := 0) rfl); go_simp)
  simp only [Act.put, List.setIfInBounds_toArray, List.set_cons_succ, List.set_cons_zero]
  apply lg_callx_in (.agg #[.int .i64 xn, .bool xt]) 35 #[.agg #[.int .i64 a.kd, .bool a.is, .int .i64 a.n, .string ⟨a.s.toArray⟩, .slice A0 nl0 cl0, .slice B0 nm0 cm0], .string ⟨k.toArray⟩] rfl (by intro W; go_simp) (fun W hW => (told_calls a A0 B0 nl0 cl0 nm0 cm0 k W (HA.out.1.below hW) HA.out.2).mono fun e w' h => by have h1 := h.1; rw [HXN.out.1, HXN.out.2] at h1; exact ⟨h1, h.2.1⟩)
  simp only [Act.put, List.setIfInBounds_toArray, List.set_cons_succ, List.set_cons_zero]
  apply lg_load 25 (.tmp 2) rfl pb 0 [.int .i64 b.kd, .bool b.is, .int .i64 b.n, .string ⟨b.s.toArray⟩, .slice A1 nl1 cl1, .slice B1 nm1 cm1] _ HE.out.2.1.1 HE.out.2.1.2 Tryd.underlying25 rfl size_valF rfl rfl
  simp only [Act.put, List.setIfInBounds_toArray, List.set_cons_succ, List.set_cons_zero]
  apply lg_pure (.pointer (some ⟨w.heap.size, 0, none⟩)) rfl (by intro W; go_simp)
  simp only [Act.put, List.setIfInBounds_toArray, List.set_cons_succ, List.set_cons_zero]
  apply lg_run (.string ⟨k.toArray⟩) rfl (by intro W hW; have hk := (hW.cell (p := ⟨w.heap.size, 0, none⟩) HX.out.lt).trans (HX.out.cell (k := 0) rfl); go_simp)
  simp only [Act.put, List.setIfInBounds_toArray, List.set_cons_succ, List.set_cons_zero]
  apply lg_callx_in (.agg #[.int .i64 yn, .bool yt]) 35 #[.agg #[.int .i64 b.kd, .bool b.is, .int .i64 b.n, .string ⟨b.s.toArray⟩, .slice A1 nl1 cl1, .slice B1 nm1 cm1], .string ⟨k.toArray⟩] rfl (by intro W; go_simp) (fun W hW => (told_calls b A1 B1 nl1 cl1 nm1 cm1 k W (HBV.out.1.below hW) HBV.out.2).mono fun e w' h => by have h1 := h.1; rw [HYN.out.1, HYN.out.2] at h1; exact ⟨h1, h.2.1⟩)
  simp only [Act.put, List.setIfInBounds_toArray, List.set_cons_succ, List.set_cons_zero]
  apply lg_alloc (.cells #[.int .i64 0, .bool false] 53) (.cells #[.int .i64 0, .bool false] 53) rfl (by intro W; go_simp) (fun W => heap_alloc_new W _)
  intro g8 eg8
  simp only [Act.put, List.setIfInBounds_toArray, List.set_cons_succ, List.set_cons_zero]
  apply lg_alloc (.cells #[.int .i64 0, .bool false] 53) (.cells #[.int .i64 0, .bool false] 53) rfl (by intro W; go_simp) (fun W => heap_alloc_new W _)
  intro g9 eg9
  simp only [Act.put, List.setIfInBounds_toArray, List.set_cons_succ, List.set_cons_zero]
  refine lg_nil ?_
  intro W5 hC
  obtain ⟨T0, T1, HL, N8, N9, G8, G9⟩ := let2 (z := [.int .i64 0, .bool false]) (y := [.int .i64 0, .bool false]) (cs := [.int .i64 xn, .bool xt]) (ds := [.int .i64 yn, .bool yt]) hC eg9 rfl rfl
  refine wpList_store_mid rfl 53 _ _ rfl g8 0 #[.int .i64 xn, .bool xt] rfl rfl T0 size_lvl (by simp [Value.oneCell']) ?_
  refine wpList_store_mid rfl 53 _ _ rfl g9 0 #[.int .i64 yn, .bool yt] rfl rfl T1 size_lvl (by simp [Value.oneCell']) ?_
  simp only [Act.put]
  refine wpList_gen (fun W => Blk W g8 53 [.int .i64 xn, .bool xt] ∧ Blk W g9 53 [.int .i64 yn, .bool yt] ∧ Below (w.heap.size + 1) (w.alloc (.cells #[.string ⟨k.toArray⟩, .int .i64 mv.kd, .bool mv.is, .int .i64 mv.n, .string ⟨mv.s.toArray⟩, .slice mA mnl mcl, .slice mB mnm mcm] 44)) W) ⟨N8, N9, by have h := HL; rw [show (w.alloc (.cells #[.string ⟨k.toArray⟩, .int .i64 mv.kd, .bool mv.is, .int .i64 mv.n, .string ⟨mv.s.toArray⟩, .slice mA mnl mcl, .slice mB mnm mcm] 44)).heap.size = w.heap.size + 1 by simp] at h; exact h⟩ ?_
  clear hC T0 T1 HL N8 N9 G8 G9 eg8 eg9
  rintro W6 ⟨N8, N9, HL⟩
  have hl6 : Below (w.alloc (.cells #[.string ⟨k.toArray⟩, .int .i64 mv.kd, .bool mv.is, .int .i64 mv.n, .string ⟨mv.s.toArray⟩, .slice mA mnl mcl, .slice mB mnm mcm] 44)).heap.size (w.alloc (.cells #[.string ⟨k.toArray⟩, .int .i64 mv.kd, .bool mv.is, .int .i64 mv.n, .string ⟨mv.s.toArray⟩, .slice mA mnl mcl, .slice mB mnm mcm] 44)) W6 := by rw [show (w.alloc (.cells #[.string ⟨k.toArray⟩, .int .i64 mv.kd, .bool mv.is, .int .i64 mv.n, .string ⟨mv.s.toArray⟩, .slice mA mnl mcl, .slice mB mnm mcm] 44)).heap.size = w.heap.size + 1 by simp]; exact HL
  have HB6 := Lib.hid (HB.out.then_ hl6)
  have HE6 := Lib.hid (HE.out.below hl6)
  have HX6 := Lib.hid (HX.out.later hl6)
  have HN := Lib.hid (And.intro N8 N9)
  have c0 := N8.cell (k := 0) rfl; have c1 := N8.cell (k := 1) rfl; have c2 := N9.cell (k := 0) rfl; have c3 := N9.cell (k := 1) rfl
  have c4 := HE6.out.2.2.1.1
  clear HL hl6 N8 N9
  go_wp2_with fail
  refine (reaches_calls xn yn mine xt yt _).mono ?_
  rintro e w7 ⟨rfl, b7⟩
  have HB7 := Lib.hid (HB6.out.then_ b7)
  have n8 := HN.out.1.later b7; have n9 := HN.out.2.later b7
  have HE7 := HE6.out.below b7
  have HX7 := HX6.out.later b7
  clear c0 c1 c2 c3 c4 b7
  have c0 := n8.cell (k := 0) rfl; have c1 := n8.cell (k := 1) rfl; have c2 := n9.cell (k := 0) rfl; have c3 := n9.cell (k := 1) rfl
  have c4 := HE7.2.2.1.1; have c5 := HE7.2.2.2.1.1; have c6 := HE7.2.2.2.2.1; have c7 := HX7.cell (k := 0) rfl
  clear n8 n9 HE7 HX7
  obtain ⟨rv, hrv⟩ : ∃ rv, reachB xn yn mine xt yt = rv := ⟨_, rfl⟩
  rw [hrv]
  have HW2 := Lib.hid (show wrongF a b mine name user k = (!rv || ((name == usersK) && (k != user) && !(decide (xn = yn) && (xt == yt)) && xt && decide (mine ≤ xn))) by rw [HW.out]; unfold wrongB; rw [hrv])
  clear hrv
  cases rv with
  | false =>
    have HW3 := Lib.hid (show wrongF a b mine name user k = true by rw [HW2.out]; rfl)
    go_wp2_with fail
    go_ret
    rw [HW3.out]
    exact ⟨rfl, HB7.out⟩
  | true =>
    have HW3 := Lib.hid (show wrongF a b mine name user k = ((name == usersK) && (k != user) && !(decide (xn = yn) && (xt == yt)) && xt && decide (mine ≤ xn)) by rw [HW2.out]; rfl)
    go_wp2_with fail
    all_goals go_ret
    all_goals (refine ⟨?_, HB7.out⟩; rw [HW3.out]; clear HX HE HA HBV HB HW HXN HYN HB6 HE6 HX6 HN HB7 HW2 HW3 c0 c1 c2 c3 c4 c5 c6 c7)
    all_goals (unfold usersK; simp_all [bne])
end Go.Proofs.YtmfefeemkhncfaaDoor
