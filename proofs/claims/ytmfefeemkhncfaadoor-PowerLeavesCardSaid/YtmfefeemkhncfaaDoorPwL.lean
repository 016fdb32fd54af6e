/- Layer 14: a test over the members of a map; turns. -/
import Derived.Test.YtmfefeemkhncfaaDoorPwK
namespace Go.Proofs.YtmfefeemkhncfaaDoor
open Go.ChangeShapes Go.WideShapes Go.ChangeAt Go.RowKit Go.IntWalk
set_option linter.unusedVariables false
set_option maxRecDepth 100000

/-- Whether one member passes a test. -/
def anyK (f : List UInt8 → Jv → Bool) : JT → Bool
  | .nil => false
  | .cons k kd is n s l m r => f k ⟨kd, is, n, s, l, m⟩ || anyK f r
theorem anyK_one (f : List UInt8 → Jv → Bool) (k : List UInt8) (v : Jv) (r : JT) : anyK f (JT.one k v r) = (f k v || anyK f r) := rfl
theorem anyK_at (f : List UInt8 → Jv → Bool) {t : JT} {i : Nat} (h : i < t.ext) : anyK f (t.fall i) = (f (t.fall i).key (t.fall i).val || anyK f (t.fall (i + 1))) :=
  (congrArg (anyK f) (t.fall_of_lt i h)).trans (anyK_one f _ _ _)
theorem anyK_end (f : List UInt8 → Jv → Bool) {t : JT} {i : Nat} (h : t.ext ≤ i) : anyK f (t.fall i) = false := by rw [t.fall_all i h]; rfl
set_option maxHeartbeats 4000000 in
theorem turns_index (f : List UInt8 → Jv → Bool) (A : Option Addr) (n c : Nat) (t : JT) (pa pb pm pn pu : Nat) (w : World) (hn : Room n c t.ext) (hs : JSl (· < w.heap.size) w true A t)
    (hc : ∀ (k : List UInt8) (mv : Jv) (mA mB : Option Addr) (mnl mcl mnm mcm : Nat) (W : World), Below w.heap.size w W → Calls Tryd.prog 54 #[.agg #[.string ⟨k.toArray⟩, .int .i64 mv.kd, .bool mv.is, .int .i64 mv.n, .string ⟨mv.s.toArray⟩, .slice mA mnl mcl, .slice mB mnm mcm], .pointer (some ⟨pa, 0, none⟩), .pointer (some ⟨pb, 0, none⟩), .pointer (some ⟨pm, 0, none⟩), .pointer (some ⟨pn, 0, none⟩), .pointer (some ⟨pu, 0, none⟩)] W fun e w' => e = .returned (.bool (f k mv)) ∧ Below W.heap.size W w') :
    Calls Tryd.prog 44 #[.slice A n c, .func (Fn.func 54) #[] #[.pointer (some ⟨pa, 0, none⟩), .pointer (some ⟨pb, 0, none⟩), .pointer (some ⟨pm, 0, none⟩), .pointer (some ⟨pn, 0, none⟩), .pointer (some ⟨pu, 0, none⟩)]] w fun e w' => (∃ i : Int, e = .returned (.int .i64 i) ∧ decide (0 ≤ i) = anyK f t) ∧ Below w.heap.size w w' := by
  obtain ⟨hn, hnc, hc63⟩ := hn
  have hn47 : n ≤ 140737488355328 := hc63
  have HS := Lib.hid hs
  have HN := Lib.hid hn
  have HCC := Lib.hid hc
  obtain ⟨av, hav⟩ : ∃ av, anyK f t = av := ⟨_, rfl⟩
  have HAV := Lib.hid hav
  rw [hav]
  have hst := Lib.hid (show anyK f t = anyK f (t.fall 0) by rw [JT.fall_zero])
  clear hn hs hc hnc hc63 hav
  go_enter Tryd.func44, Tryd.ntmps44
  go_wp2_with fail
  go_loopw [8] (fun i wr => ∃ k : Nat, k ≤ n ∧ i = .int .i64 (k : Int) ∧ Hid (Below w.heap.size w wr) ∧ Hid (anyK f t = anyK f (t.fall k))) (fun i _ => n - (intOf i).toNat)
  case atStart => exact ⟨0, Nat.zero_le _, rfl, Lib.hid (Below.refl _ _), hst⟩
  case round =>
    obtain ⟨k, hk, rfl, hB, hI⟩ := hrel
    by_cases hlt : k < n
    · have HLT := Lib.hid (show k < t.ext by rw [← HN.out]; exact hlt)
      obtain ⟨b0, off, eA, enl, ecl, eB, enm, ecm, rfl, eP, ebl, eK, eKl, f0, f1, f2, f3, f4, f5, r1, r2, s1, s2, hf⟩ := (HS.out.up hB.out).mb (i := k) _ HLT.out
      have HAT := Lib.hid (anyK_at f HLT.out)
      obtain ⟨eu, hev⟩ : ∃ eu, (t.fall k).val = eu := ⟨_, rfl⟩
      obtain ⟨ek, hek⟩ : ∃ ek, (t.fall k).key = ek := ⟨_, rfl⟩
      rw [hev] at f0 f1 f2 f3 r1 r2 s1 s2 hf
      rw [hek] at eK
      obtain ⟨tv, htv⟩ : ∃ tv, f ek eu = tv := ⟨_, rfl⟩
      have HTV := Lib.hid (show anyK f (t.fall k) = (tv || anyK f (t.fall (k + 1))) by rw [HAT.out, hev, hek, htv])
      have HCK := HCC.out ek eu eA eB enl ecl enm ecm wr hB.out
      rw [htv] at HCK
      clear eP ebl eKl r1 r2 s1 s2 hf hev hek htv HAT
      cases tv with
      | true =>
        have HE := Lib.hid (show av = true by rw [← HAV.out, hI.out, HTV.out]; rfl)
        clear hI HTV
        go_wp2_with fail
        refine HCK.mono ?_
        rintro e w3 ⟨rfl, b3⟩
        have HB3 := Lib.hid (hB.out.then_ b3)
        clear b3 HCK f0 f1 f2 f3 f4 f5 eK
        go_wp2_with fail
        go_ret
        exact ⟨⟨_, rfl, by rw [HE.out]; simp⟩, HB3.out⟩
      | false =>
        have HE := Lib.hid (show anyK f t = anyK f (t.fall (k + 1)) by rw [hI.out, HTV.out]; rfl)
        clear hI HTV
        go_wp2_with fail
        refine HCK.mono ?_
        rintro e w3 ⟨rfl, b3⟩
        have HB3 := Lib.hid (hB.out.then_ b3)
        clear b3 HCK f0 f1 f2 f3 f4 f5 eK
        go_wp2_with fail
        go_roundw
        case rel => exact ⟨k + 1, by omega, by go_num, HB3, HE⟩
        case measure => simp [intOf]; omega
    · obtain rfl : k = n := by omega
      have HE := Lib.hid (show av = false by rw [← HAV.out, hI.out]; exact anyK_end f (by rw [← HN.out]; exact Nat.le_refl _))
      go_wp2_with fail
      go_ret
      exact ⟨⟨_, rfl, by rw [HE.out]; simp⟩, hB.out⟩
set_option maxHeartbeats 4000000 in
theorem turns_contains (f : List UInt8 → Jv → Bool) (A : Option Addr) (n c : Nat) (t : JT) (pa pb pm pn pu : Nat) (w : World) (hn : Room n c t.ext) (hs : JSl (· < w.heap.size) w true A t)
    (hc : ∀ (k : List UInt8) (mv : Jv) (mA mB : Option Addr) (mnl mcl mnm mcm : Nat) (W : World), Below w.heap.size w W → Calls Tryd.prog 54 #[.agg #[.string ⟨k.toArray⟩, .int .i64 mv.kd, .bool mv.is, .int .i64 mv.n, .string ⟨mv.s.toArray⟩, .slice mA mnl mcl, .slice mB mnm mcm], .pointer (some ⟨pa, 0, none⟩), .pointer (some ⟨pb, 0, none⟩), .pointer (some ⟨pm, 0, none⟩), .pointer (some ⟨pn, 0, none⟩), .pointer (some ⟨pu, 0, none⟩)] W fun e w' => e = .returned (.bool (f k mv)) ∧ Below W.heap.size W w') :
    Calls Tryd.prog 28 #[.slice A n c, .func (Fn.func 54) #[] #[.pointer (some ⟨pa, 0, none⟩), .pointer (some ⟨pb, 0, none⟩), .pointer (some ⟨pm, 0, none⟩), .pointer (some ⟨pn, 0, none⟩), .pointer (some ⟨pu, 0, none⟩)]] w fun e w' => e = .returned (.bool (anyK f t)) ∧ Below w.heap.size w w' := by
  have HI := turns_index f A n c t pa pb pm pn pu w hn hs hc
  obtain ⟨av, hav⟩ : ∃ av, anyK f t = av := ⟨_, rfl⟩
  rw [hav] at HI ⊢
  clear hn hs hc hav
  go_enter Tryd.func28, Tryd.ntmps28
  go_wp2_with fail
  refine HI.mono ?_
  rintro e w1 ⟨⟨i, rfl, hi⟩, b1⟩
  have H1 := Lib.hid (And.intro hi b1)
  clear hi b1 HI
  go_wp2_with fail
  go_ret
  rw [H1.out.1]
  exact ⟨rfl, H1.out.2⟩
def turnsF (a b : Jv) (mine : Int) (name user : List UInt8) : Bool := !(anyK (fun k _ => wrongF a b mine name user k) (rowsF a)) && !(anyK (fun k _ => wrongF a b mine name user k) (rowsF b))
set_option maxHeartbeats 8000000 in
theorem turns_calls (a b : Jv) (A0 B0 A1 B1 : Option Addr) (nl0 cl0 nm0 cm0 nl1 cl1 nm1 cm1 : Nat) (mine : Int) (name user : List UInt8) (w : World) (ha : VOk w a A0 B0 nl0 cl0 nm0 cm0) (hb : VOk w b A1 B1 nl1 cl1 nm1 cm1) (ra : Rise (slts a.m)) (rb : Rise (slts b.m)) :
    Calls Tryd.prog 41 #[.agg #[.int .i64 a.kd, .bool a.is, .int .i64 a.n, .string ⟨a.s.toArray⟩, .slice A0 nl0 cl0, .slice B0 nm0 cm0], .agg #[.int .i64 b.kd, .bool b.is, .int .i64 b.n, .string ⟨b.s.toArray⟩, .slice A1 nl1 cl1, .slice B1 nm1 cm1], .string ⟨name.toArray⟩, .string ⟨user.toArray⟩, .int .i64 mine] w fun e w' => e = .returned (.bool (turnsF a b mine name user)) ∧ Below w.heap.size w w' := by
  have b5 : Below w.heap.size w (((((w.alloc (.cells #[.int .i64 a.kd, .bool a.is, .int .i64 a.n, .string ⟨a.s.toArray⟩, .slice A0 nl0 cl0, .slice B0 nm0 cm0] 25)).alloc (.cells #[.int .i64 b.kd, .bool b.is, .int .i64 b.n, .string ⟨b.s.toArray⟩, .slice A1 nl1 cl1, .slice B1 nm1 cm1] 25)).alloc (.cells #[.string ⟨name.toArray⟩] 9)).alloc (.cells #[.string ⟨user.toArray⟩] 9)).alloc (.cells #[.int .i64 mine] 3)) := (((((Below.refl _ _).alloc (Nat.le_refl _) _).alloc (by simp) _).alloc (by simp; omega) _).alloc (by simp; omega) _).alloc (by simp; omega) _
  have x0 := (((((blk_at (w := w) [.int .i64 a.kd, .bool a.is, .int .i64 a.n, .string ⟨a.s.toArray⟩, .slice A0 nl0 cl0, .slice B0 nm0 cm0] 25 (g := w.heap.size) (by simp)).alloc (.cells #[.int .i64 b.kd, .bool b.is, .int .i64 b.n, .string ⟨b.s.toArray⟩, .slice A1 nl1 cl1, .slice B1 nm1 cm1] 25)).alloc (.cells #[.string ⟨name.toArray⟩] 9)).alloc (.cells #[.string ⟨user.toArray⟩] 9)).alloc (.cells #[.int .i64 mine] 3))
  have x1 := ((((blk_at (w := (w.alloc (.cells #[.int .i64 a.kd, .bool a.is, .int .i64 a.n, .string ⟨a.s.toArray⟩, .slice A0 nl0 cl0, .slice B0 nm0 cm0] 25))) [.int .i64 b.kd, .bool b.is, .int .i64 b.n, .string ⟨b.s.toArray⟩, .slice A1 nl1 cl1, .slice B1 nm1 cm1] 25 (g := w.heap.size + 1) (by simp)).alloc (.cells #[.string ⟨name.toArray⟩] 9)).alloc (.cells #[.string ⟨user.toArray⟩] 9)).alloc (.cells #[.int .i64 mine] 3))
  have x2 := (((blk_at (w := ((w.alloc (.cells #[.int .i64 a.kd, .bool a.is, .int .i64 a.n, .string ⟨a.s.toArray⟩, .slice A0 nl0 cl0, .slice B0 nm0 cm0] 25)).alloc (.cells #[.int .i64 b.kd, .bool b.is, .int .i64 b.n, .string ⟨b.s.toArray⟩, .slice A1 nl1 cl1, .slice B1 nm1 cm1] 25))) [.string ⟨name.toArray⟩] 9 (g := w.heap.size + 1 + 1) (by simp)).alloc (.cells #[.string ⟨user.toArray⟩] 9)).alloc (.cells #[.int .i64 mine] 3))
  have x3 := ((blk_at (w := (((w.alloc (.cells #[.int .i64 a.kd, .bool a.is, .int .i64 a.n, .string ⟨a.s.toArray⟩, .slice A0 nl0 cl0, .slice B0 nm0 cm0] 25)).alloc (.cells #[.int .i64 b.kd, .bool b.is, .int .i64 b.n, .string ⟨b.s.toArray⟩, .slice A1 nl1 cl1, .slice B1 nm1 cm1] 25)).alloc (.cells #[.string ⟨name.toArray⟩] 9))) [.string ⟨user.toArray⟩] 9 (g := w.heap.size + 1 + 1 + 1) (by simp)).alloc (.cells #[.int .i64 mine] 3))
  have x4 := (blk_at (w := ((((w.alloc (.cells #[.int .i64 a.kd, .bool a.is, .int .i64 a.n, .string ⟨a.s.toArray⟩, .slice A0 nl0 cl0, .slice B0 nm0 cm0] 25)).alloc (.cells #[.int .i64 b.kd, .bool b.is, .int .i64 b.n, .string ⟨b.s.toArray⟩, .slice A1 nl1 cl1, .slice B1 nm1 cm1] 25)).alloc (.cells #[.string ⟨name.toArray⟩] 9)).alloc (.cells #[.string ⟨user.toArray⟩] 9))) [.int .i64 mine] 3 (g := w.heap.size + 1 + 1 + 1 + 1) (by simp))
  have HENV := Lib.hid (show TurnEnv (w.heap.size) (w.heap.size + 1) (w.heap.size + 1 + 1 + 1 + 1) (w.heap.size + 1 + 1) (w.heap.size + 1 + 1 + 1) [.int .i64 a.kd, .bool a.is, .int .i64 a.n, .string ⟨a.s.toArray⟩, .slice A0 nl0 cl0, .slice B0 nm0 cm0] [.int .i64 b.kd, .bool b.is, .int .i64 b.n, .string ⟨b.s.toArray⟩, .slice A1 nl1 cl1, .slice B1 nm1 cm1] mine name user (((((w.alloc (.cells #[.int .i64 a.kd, .bool a.is, .int .i64 a.n, .string ⟨a.s.toArray⟩, .slice A0 nl0 cl0, .slice B0 nm0 cm0] 25)).alloc (.cells #[.int .i64 b.kd, .bool b.is, .int .i64 b.n, .string ⟨b.s.toArray⟩, .slice A1 nl1 cl1, .slice B1 nm1 cm1] 25)).alloc (.cells #[.string ⟨name.toArray⟩] 9)).alloc (.cells #[.string ⟨user.toArray⟩] 9)).alloc (.cells #[.int .i64 mine] 3)) from ⟨⟨x0.rng, x0.lt⟩, ⟨x1.rng, x1.lt⟩, ⟨x4.cell rfl, x4.lt⟩, ⟨x2.cell rfl, x2.lt⟩, ⟨x3.cell rfl, x3.lt⟩⟩)
  have HXA := Lib.hid x0
  have HXB := Lib.hid x1
  have HA := Lib.hid (And.intro (ha.below b5) ra)
  have HBV := Lib.hid (And.intro (hb.below b5) rb)
  have HB := Lib.hid b5
  obtain ⟨pv, hpv⟩ : ∃ pv, anyK (fun k _ => wrongF a b mine name user k) (rowsF a) = pv := ⟨_, rfl⟩
  obtain ⟨qv, hqv⟩ : ∃ qv, anyK (fun k _ => wrongF a b mine name user k) (rowsF b) = qv := ⟨_, rfl⟩
  have HT := Lib.hid (show turnsF a b mine name user = (!pv && !qv) by unfold turnsF; rw [hpv, hqv])
  have HPV := Lib.hid hpv
  have HQV := Lib.hid hqv
  have HRA := rows_calls a A0 B0 nl0 cl0 nm0 cm0 (((((w.alloc (.cells #[.int .i64 a.kd, .bool a.is, .int .i64 a.n, .string ⟨a.s.toArray⟩, .slice A0 nl0 cl0, .slice B0 nm0 cm0] 25)).alloc (.cells #[.int .i64 b.kd, .bool b.is, .int .i64 b.n, .string ⟨b.s.toArray⟩, .slice A1 nl1 cl1, .slice B1 nm1 cm1] 25)).alloc (.cells #[.string ⟨name.toArray⟩] 9)).alloc (.cells #[.string ⟨user.toArray⟩] 9)).alloc (.cells #[.int .i64 mine] 3)) HA.out.1
  clear x1 x2 x3 x4 ha hb ra rb b5 hpv hqv
  have d0 := x0.cell (k := 0) rfl; have d1 := x0.cell (k := 1) rfl; have d2 := x0.cell (k := 2) rfl; have d3 := x0.cell (k := 3) rfl; have d4 := x0.cell (k := 4) rfl; have d5 := x0.cell (k := 5) rfl
  clear x0
  go_enter Tryd.func41, Tryd.ntmps41
  go_wp2_with fail
  refine HRA.mono ?_
  rintro e w6 ⟨⟨A2, n2, c2, rfl, hr2, hs2⟩, b6⟩
  have HB6 := Lib.hid (HB.out.then_ b6)
  have HB56 := Lib.hid b6
  have HC := turns_contains (fun k _ => wrongF a b mine name user k) A2 n2 c2 (rowsF a) (w.heap.size) (w.heap.size + 1) (w.heap.size + 1 + 1 + 1 + 1) (w.heap.size + 1 + 1) (w.heap.size + 1 + 1 + 1) w6 hr2 hs2 (fun k mv mA mB mnl mcl mnm mcm W hW => wrong_calls a b mv A0 B0 A1 B1 mA mB nl0 cl0 nm0 cm0 nl1 cl1 nm1 cm1 mnl mcl mnm mcm (w.heap.size) (w.heap.size + 1) (w.heap.size + 1 + 1 + 1 + 1) (w.heap.size + 1 + 1) (w.heap.size + 1 + 1 + 1) mine name user k W ((HENV.out.below b6).below hW) ((HA.out.1.below b6).below hW) ((HBV.out.1.below b6).below hW) HA.out.2 HBV.out.2)
  rw [HPV.out] at HC
  clear hr2 hs2 b6 d0 d1 d2 d3 d4 d5 HRA
  cases pv with
  | true =>
    have HT2 := Lib.hid (show turnsF a b mine name user = false by rw [HT.out]; rfl)
    go_wp2_with fail
    refine HC.mono ?_
    rintro e w7 ⟨rfl, b7⟩
    have HB7 := Lib.hid (HB6.out.then_ b7)
    clear b7 HC
    go_wp2_with fail
    go_ret
    rw [HT2.out]
    exact ⟨rfl, HB7.out⟩
  | false =>
    have HT2 := Lib.hid (show turnsF a b mine name user = !qv by rw [HT.out]; rfl)
    go_wp2_with fail
    refine HC.mono ?_
    rintro e w7 ⟨rfl, b7⟩
    have HB7 := Lib.hid (HB6.out.then_ b7)
    have HB57 := Lib.hid (HB56.out.then_ b7)
    have x1 := HXB.out.later HB57.out
    have d0 := x1.cell (k := 0) rfl; have d1 := x1.cell (k := 1) rfl; have d2 := x1.cell (k := 2) rfl; have d3 := x1.cell (k := 3) rfl; have d4 := x1.cell (k := 4) rfl; have d5 := x1.cell (k := 5) rfl
    have HRB := rows_calls b A1 B1 nl1 cl1 nm1 cm1 w7 (HBV.out.1.below HB57.out)
    clear b7 HC x1
    go_wp2_with fail
    refine HRB.mono ?_
    rintro e w8 ⟨⟨A3, n3, c3, rfl, hr3, hs3⟩, b8⟩
    have HB8 := Lib.hid (HB7.out.then_ b8)
    have HB58 := Lib.hid (HB57.out.then_ b8)
    have HC := turns_contains (fun k _ => wrongF a b mine name user k) A3 n3 c3 (rowsF b) (w.heap.size) (w.heap.size + 1) (w.heap.size + 1 + 1 + 1 + 1) (w.heap.size + 1 + 1) (w.heap.size + 1 + 1 + 1) w8 hr3 hs3 (fun k mv mA mB mnl mcl mnm mcm W hW => wrong_calls a b mv A0 B0 A1 B1 mA mB nl0 cl0 nm0 cm0 nl1 cl1 nm1 cm1 mnl mcl mnm mcm (w.heap.size) (w.heap.size + 1) (w.heap.size + 1 + 1 + 1 + 1) (w.heap.size + 1 + 1) (w.heap.size + 1 + 1 + 1) mine name user k W ((HENV.out.below HB58.out).below hW) ((HA.out.1.below HB58.out).below hW) ((HBV.out.1.below HB58.out).below hW) HA.out.2 HBV.out.2)
    rw [HQV.out] at HC
    clear hr3 hs3 b8 d0 d1 d2 d3 d4 d5 HRB
    go_wp2_with fail
    refine HC.mono ?_
    rintro e w9 ⟨rfl, b9⟩
    have HB9 := Lib.hid (HB8.out.then_ b9)
    clear b9 HC
    go_wp2_with fail
    go_ret
    rw [HT2.out]
    exact ⟨rfl, HB9.out⟩
end Go.Proofs.YtmfefeemkhncfaaDoor
