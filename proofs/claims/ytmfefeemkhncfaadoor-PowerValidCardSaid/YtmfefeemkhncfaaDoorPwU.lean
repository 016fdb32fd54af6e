/- Layer 14: Valid, the program's. -/
import Derived.Test.YtmfefeemkhncfaaDoorPwT
import Derived.Test.YtmfefeemkhncfaaDoorPwS
import Derived.Test.YtmfefeemkhncfaaDoorIdRu
namespace Go.Proofs.YtmfefeemkhncfaaDoor
open Go.ChangeShapes Go.WideShapes Go.ChangeAt Go.RowKit Go.IntWalk
set_option linter.unusedVariables false
set_option maxRecDepth 100000

def wrongM (name k : List UInt8) (mv : Jv) : Bool := mv.kd != 2 || (name == usersK && !(nUserF k))
def fitsF (k : List UInt8) (mv : Jv) : Bool := if isLone k then mv.kd == 2 else if isTab k then mv.kd == 5 && !(anyK (wrongM k) mv.m) else true
def validF (v : Jv) : Bool := v.kd == 5 && !(anyK (fun k mv => !(fitsF k mv)) v.m)
def ShortK (t : JT) : Prop := ∀ i, i < t.ext → (t.fall i).key.length ≤ 1000000
def ShortM (mv : Jv) : Prop := ShortK mv.m
set_option maxHeartbeats 4000000 in
theorem wm_index (f : List UInt8 → Jv → Bool) (A : Option Addr) (n c : Nat) (t : JT) (pm : Nat) (w : World) (hn : Room n c t.ext) (hs : JSl (· < w.heap.size) w true A t)
    (P : List UInt8 → Jv → Prop) (hP : ∀ i, i < t.ext → P (t.fall i).key (t.fall i).val) (hc : ∀ (k : List UInt8) (mv : Jv) (mA mB : Option Addr) (mnl mcl mnm mcm : Nat) (W : World), P k mv → Below w.heap.size w W → VOk W mv mA mB mnl mcl mnm mcm → Calls Tryd.prog 48 #[.agg #[.string ⟨k.toArray⟩, .int .i64 mv.kd, .bool mv.is, .int .i64 mv.n, .string ⟨mv.s.toArray⟩, .slice mA mnl mcl, .slice mB mnm mcm], .pointer (some ⟨pm, 0, none⟩)] W fun e W' => e = .returned (.bool (f k mv)) ∧ Below W.heap.size W W') :
    Calls Tryd.prog 44 #[.slice A n c, .func (Fn.func 48) #[] #[.pointer (some ⟨pm, 0, none⟩)]] w fun e w' => (∃ i : Int, e = .returned (.int .i64 i) ∧ decide (0 ≤ i) = anyK f t) ∧ Below w.heap.size w w' := by
  obtain ⟨hn, hnc, hc63⟩ := hn
  have hn47 : n ≤ 140737488355328 := Nat.le_trans hnc hc63
  have HS := Lib.hid hs
  have HN := Lib.hid hn
  have HCC := Lib.hid hc
  have HPP := Lib.hid hP
  obtain ⟨av, hav⟩ : ∃ av, anyK f t = av := ⟨_, rfl⟩
  have HAV := Lib.hid hav
  rw [hav]
  have hst := Lib.hid (show anyK f t = anyK f (t.fall 0) by rw [JT.fall_zero])
  clear hn hs hc hnc hc63 hav hP
  go_enter Tryd.func44, Tryd.ntmps44
  go_wp2_with fail
  go_loopw [8] (fun i wr => ∃ k : Nat, k ≤ n ∧ i = .int .i64 (k : Int) ∧ Hid (Below w.heap.size w wr) ∧ Hid (anyK f t = anyK f (t.fall k))) (fun i _ => n - (intOf i).toNat)
  case atStart => exact ⟨0, Nat.zero_le _, rfl, Lib.hid (Below.refl _ _), hst⟩
  case round =>
    obtain ⟨k, hk, rfl, hB, hI⟩ := hrel
    by_cases hlt : k < n
    · have HLT := Lib.hid (show k < t.ext by rw [← HN.out]; exact hlt)
      obtain ⟨b0, off, eA, enl, ecl, eB, enm, ecm, rfl, eP, ebl, eK, eKl, f0, f1, f2, f3, f4, f5, r1, r2, s1, s2, hf⟩ := (HS.out.up hB.out).mb (i := k) _ HLT.out
      have HAT := Lib.hid (anyK_at f HLT.out)
      have hpp := HPP.out k HLT.out
      obtain ⟨eu, hev⟩ : ∃ eu, (t.fall k).val = eu := ⟨_, rfl⟩
      obtain ⟨ek, hek⟩ : ∃ ek, (t.fall k).key = ek := ⟨_, rfl⟩
      rw [hev] at f0 f1 f2 f3 r1 r2 s1 s2 hf hpp
      rw [hek] at eK hpp
      obtain ⟨tv, htv⟩ : ∃ tv, f ek eu = tv := ⟨_, rfl⟩
      have HTV := Lib.hid (show anyK f (t.fall k) = (tv || anyK f (t.fall (k + 1))) by rw [HAT.out, hev, hek, htv])
      have HCK := HCC.out ek eu eA eB enl ecl enm ecm wr hpp hB.out ⟨r1, r2, s1, s2, hf⟩
      rw [htv] at HCK
      clear eP ebl eKl r1 r2 s1 s2 hf hev hek htv HAT hpp
      cases tv with
      | true =>
        have HE := Lib.hid (show av = true by rw [← HAV.out, hI.out, HTV.out]; rfl)
        clear hI HTV
        go_wp2_with fail
        refine HCK.mono ?_
        rintro e w3 ⟨rfl, b3⟩
        have HB3 := Lib.hid (hB.out.then_ b3)
        clear b3 HCK f0 f1 f2 f3 f4 f5 eK
        go_wp2_with fail
        go_ret
        exact ⟨⟨_, rfl, by rw [HE.out]; simp⟩, HB3.out⟩
      | false =>
        have HE := Lib.hid (show anyK f t = anyK f (t.fall (k + 1)) by rw [hI.out, HTV.out]; rfl)
        clear hI HTV
        go_wp2_with fail
        refine HCK.mono ?_
        rintro e w3 ⟨rfl, b3⟩
        have HB3 := Lib.hid (hB.out.then_ b3)
        clear b3 HCK f0 f1 f2 f3 f4 f5 eK
        go_wp2_with fail
        go_roundw
        case rel => exact ⟨k + 1, by omega, by go_num, HB3, HE⟩
        case measure => simp [intOf]; omega
    · obtain rfl : k = n := by omega
      have HE := Lib.hid (show av = false by rw [← HAV.out, hI.out]; exact anyK_end f (by rw [← HN.out]; exact Nat.le_refl _))
      go_wp2_with fail
      go_ret
      exact ⟨⟨_, rfl, by rw [HE.out]; simp⟩, hB.out⟩
set_option maxHeartbeats 4000000 in
theorem wm_contains (f : List UInt8 → Jv → Bool) (A : Option Addr) (n c : Nat) (t : JT) (pm : Nat) (w : World) (hn : Room n c t.ext) (hs : JSl (· < w.heap.size) w true A t)
    (P : List UInt8 → Jv → Prop) (hP : ∀ i, i < t.ext → P (t.fall i).key (t.fall i).val) (hc : ∀ (k : List UInt8) (mv : Jv) (mA mB : Option Addr) (mnl mcl mnm mcm : Nat) (W : World), P k mv → Below w.heap.size w W → VOk W mv mA mB mnl mcl mnm mcm → Calls Tryd.prog 48 #[.agg #[.string ⟨k.toArray⟩, .int .i64 mv.kd, .bool mv.is, .int .i64 mv.n, .string ⟨mv.s.toArray⟩, .slice mA mnl mcl, .slice mB mnm mcm], .pointer (some ⟨pm, 0, none⟩)] W fun e W' => e = .returned (.bool (f k mv)) ∧ Below W.heap.size W W') :
    Calls Tryd.prog 28 #[.slice A n c, .func (Fn.func 48) #[] #[.pointer (some ⟨pm, 0, none⟩)]] w fun e w' => e = .returned (.bool (anyK f t)) ∧ Below w.heap.size w w' := by
  have HI := wm_index f A n c t pm w hn hs P hP hc
  obtain ⟨av, hav⟩ : ∃ av, anyK f t = av := ⟨_, rfl⟩
  rw [hav] at HI ⊢
  clear hn hs hc hav hP
  go_enter Tryd.func28, Tryd.ntmps28
  go_wp2_with fail
  refine HI.mono ?_
  rintro e w1 ⟨⟨i, rfl, hi⟩, b1⟩
  have H1 := Lib.hid (And.intro hi b1)
  clear hi b1 HI
  go_wp2_with fail
  go_ret
  rw [H1.out.1]
  exact ⟨rfl, H1.out.2⟩
set_option maxHeartbeats 4000000 in
theorem nf_index (f : List UInt8 → Jv → Bool) (A : Option Addr) (n c : Nat) (t : JT) (w : World) (hn : Room n c t.ext) (hs : JSl (· < w.heap.size) w true A t)
    (P : List UInt8 → Jv → Prop) (hP : ∀ i, i < t.ext → P (t.fall i).key (t.fall i).val) (hc : ∀ (k : List UInt8) (mv : Jv) (mA mB : Option Addr) (mnl mcl mnm mcm : Nat) (W : World), P k mv → Below w.heap.size w W → VOk W mv mA mB mnl mcl mnm mcm → Calls Tryd.prog 29 #[.agg #[.string ⟨k.toArray⟩, .int .i64 mv.kd, .bool mv.is, .int .i64 mv.n, .string ⟨mv.s.toArray⟩, .slice mA mnl mcl, .slice mB mnm mcm]] W fun e W' => e = .returned (.bool (f k mv)) ∧ Below W.heap.size W W') :
    Calls Tryd.prog 44 #[.slice A n c, .func (Fn.func 29) #[] #[]] w fun e w' => (∃ i : Int, e = .returned (.int .i64 i) ∧ decide (0 ≤ i) = anyK f t) ∧ Below w.heap.size w w' := by
  obtain ⟨hn, hnc, hc63⟩ := hn
  have hn47 : n ≤ 140737488355328 := Nat.le_trans hnc hc63
  have HS := Lib.hid hs
  have HN := Lib.hid hn
  have HCC := Lib.hid hc
  have HPP := Lib.hid hP
  obtain ⟨av, hav⟩ : ∃ av, anyK f t = av := ⟨_, rfl⟩
  have HAV := Lib.hid hav
  rw [hav]
  have hst := Lib.hid (show anyK f t = anyK f (t.fall 0) by rw [JT.fall_zero])
  clear hn hs hc hnc hc63 hav hP
  go_enter Tryd.func44, Tryd.ntmps44
  go_wp2_with fail
  go_loopw [8] (fun i wr => ∃ k : Nat, k ≤ n ∧ i = .int .i64 (k : Int) ∧ Hid (Below w.heap.size w wr) ∧ Hid (anyK f t = anyK f (t.fall k))) (fun i _ => n - (intOf i).toNat)
  case atStart => exact ⟨0, Nat.zero_le _, rfl, Lib.hid (Below.refl _ _), hst⟩
  case round =>
    obtain ⟨k, hk, rfl, hB, hI⟩ := hrel
    by_cases hlt : k < n
    · have HLT := Lib.hid (show k < t.ext by rw [← HN.out]; exact hlt)
      obtain ⟨b0, off, eA, enl, ecl, eB, enm, ecm, rfl, eP, ebl, eK, eKl, f0, f1, f2, f3, f4, f5, r1, r2, s1, s2, hf⟩ := (HS.out.up hB.out).mb (i := k) _ HLT.out
      have HAT := Lib.hid (anyK_at f HLT.out)
      have hpp := HPP.out k HLT.out
      obtain ⟨eu, hev⟩ : ∃ eu, (t.fall k).val = eu := ⟨_, rfl⟩
      obtain ⟨ek, hek⟩ : ∃ ek, (t.fall k).key = ek := ⟨_, rfl⟩
      rw [hev] at f0 f1 f2 f3 r1 r2 s1 s2 hf hpp
      rw [hek] at eK hpp
      obtain ⟨tv, htv⟩ : ∃ tv, f ek eu = tv := ⟨_, rfl⟩
      have HTV := Lib.hid (show anyK f (t.fall k) = (tv || anyK f (t.fall (k + 1))) by rw [HAT.out, hev, hek, htv])
      have HCK := HCC.out ek eu eA eB enl ecl enm ecm wr hpp hB.out ⟨r1, r2, s1, s2, hf⟩
      rw [htv] at HCK
      clear eP ebl eKl r1 r2 s1 s2 hf hev hek htv HAT hpp
      cases tv with
      | true =>
        have HE := Lib.hid (show av = true by rw [← HAV.out, hI.out, HTV.out]; rfl)
        clear hI HTV
        go_wp2_with fail
        refine HCK.mono ?_
        rintro e w3 ⟨rfl, b3⟩
        have HB3 := Lib.hid (hB.out.then_ b3)
        clear b3 HCK f0 f1 f2 f3 f4 f5 eK
        go_wp2_with fail
        go_ret
        exact ⟨⟨_, rfl, by rw [HE.out]; simp⟩, HB3.out⟩
      | false =>
        have HE := Lib.hid (show anyK f t = anyK f (t.fall (k + 1)) by rw [hI.out, HTV.out]; rfl)
        clear hI HTV
        go_wp2_with fail
        refine HCK.mono ?_
        rintro e w3 ⟨rfl, b3⟩
        have HB3 := Lib.hid (hB.out.then_ b3)
        clear b3 HCK f0 f1 f2 f3 f4 f5 eK
        go_wp2_with fail
        go_roundw
        case rel => exact ⟨k + 1, by omega, by go_num, HB3, HE⟩
        case measure => simp [intOf]; omega
    · obtain rfl : k = n := by omega
      have HE := Lib.hid (show av = false by rw [← HAV.out, hI.out]; exact anyK_end f (by rw [← HN.out]; exact Nat.le_refl _))
      go_wp2_with fail
      go_ret
      exact ⟨⟨_, rfl, by rw [HE.out]; simp⟩, hB.out⟩
set_option maxHeartbeats 4000000 in
theorem nf_contains (f : List UInt8 → Jv → Bool) (A : Option Addr) (n c : Nat) (t : JT) (w : World) (hn : Room n c t.ext) (hs : JSl (· < w.heap.size) w true A t)
    (P : List UInt8 → Jv → Prop) (hP : ∀ i, i < t.ext → P (t.fall i).key (t.fall i).val) (hc : ∀ (k : List UInt8) (mv : Jv) (mA mB : Option Addr) (mnl mcl mnm mcm : Nat) (W : World), P k mv → Below w.heap.size w W → VOk W mv mA mB mnl mcl mnm mcm → Calls Tryd.prog 29 #[.agg #[.string ⟨k.toArray⟩, .int .i64 mv.kd, .bool mv.is, .int .i64 mv.n, .string ⟨mv.s.toArray⟩, .slice mA mnl mcl, .slice mB mnm mcm]] W fun e W' => e = .returned (.bool (f k mv)) ∧ Below W.heap.size W W') :
    Calls Tryd.prog 28 #[.slice A n c, .func (Fn.func 29) #[] #[]] w fun e w' => e = .returned (.bool (anyK f t)) ∧ Below w.heap.size w w' := by
  have HI := nf_index f A n c t w hn hs P hP hc
  obtain ⟨av, hav⟩ : ∃ av, anyK f t = av := ⟨_, rfl⟩
  rw [hav] at HI ⊢
  clear hn hs hc hav hP
  go_enter Tryd.func28, Tryd.ntmps28
  go_wp2_with fail
  refine HI.mono ?_
  rintro e w1 ⟨⟨i, rfl, hi⟩, b1⟩
  have H1 := Lib.hid (And.intro hi b1)
  clear hi b1 HI
  go_wp2_with fail
  go_ret
  rw [H1.out.1]
  exact ⟨rfl, H1.out.2⟩
theorem kd_ne {a b : Int} (h : ¬ a = b) : (a != b) = true := by rw [bne_iff_ne]; exact h
theorem kd_eq {a b : Int} (h : a = b) : (a != b) = false := by simp [h]
set_option maxHeartbeats 4000000 in
theorem wrongm_calls (mv : Jv) (mA mB : Option Addr) (mnl mcl mnm mcm : Nat) (k name : List UInt8) (pm : Nat) (w : World) (hpm : pm < w.heap.size) (hpc : w.cell? ⟨pm, 0, none⟩ = some (.string ⟨name.toArray⟩)) (hm : Max w) (hk : k.length ≤ 1000000) :
    Calls Tryd.prog 48 #[.agg #[.string ⟨k.toArray⟩, .int .i64 mv.kd, .bool mv.is, .int .i64 mv.n, .string ⟨mv.s.toArray⟩, .slice mA mnl mcl, .slice mB mnm mcm], .pointer (some ⟨pm, 0, none⟩)] w fun e w' => e = .returned (.bool (wrongM name k mv)) ∧ Below w.heap.size w w' := by
  have hb1 : Below w.heap.size w (w.alloc (.cells #[.string ⟨k.toArray⟩, .int .i64 mv.kd, .bool mv.is, .int .i64 mv.n, .string ⟨mv.s.toArray⟩, .slice mA mnl mcl, .slice mB mnm mcm] 44)) := (Below.refl _ _).alloc (Nat.le_refl _) _
  have HB := Lib.hid hb1
  have HU := Lib.hid (User_calls k _ (hm.below hb1) hk)
  have d0 : (w.alloc (.cells #[.string ⟨k.toArray⟩, .int .i64 mv.kd, .bool mv.is, .int .i64 mv.n, .string ⟨mv.s.toArray⟩, .slice mA mnl mcl, .slice mB mnm mcm] 44)).cell? ⟨pm, 0, none⟩ = some (.string ⟨name.toArray⟩) := (hb1.cell (p := ⟨pm, 0, none⟩) hpm).trans hpc
  clear hb1 hpc hm hk
  by_cases h2 : mv.kd = 2
  · have hn2 := kd_eq h2
    by_cases hu : name = usersK
    · have hu2 : (name == [117, 115, 101, 114, 115]) = true := by rw [hu]; rfl
      have HE := Lib.hid (show wrongM name k mv = !(nUserF k) by unfold wrongM; rw [hn2, hu]; simp)
      obtain ⟨u, hu3⟩ : ∃ u, nUserF k = u := ⟨_, rfl⟩
      rw [hu3] at HU HE
      clear h2 hu hu3
      go_enter Tryd.func48, Tryd.ntmps48
      go_wp2_with fail
      refine HU.out.mono ?_
      rintro e w2 ⟨rfl, b2⟩
      have HB2 := Lib.hid (HB.out.then_ b2)
      clear b2
      go_wp2_with fail
      go_ret
      rw [HE.out]
      exact ⟨rfl, HB2.out⟩
    · have hu2 : (name == [117, 115, 101, 114, 115]) = false := by rw [beq_eq_false_iff_ne]; exact hu
      have HE := Lib.hid (show wrongM name k mv = false by unfold wrongM; rw [hn2, show (name == usersK) = false from hu2]; rfl)
      clear h2 hu
      go_enter Tryd.func48, Tryd.ntmps48
      go_wp2_with fail
      go_ret
      rw [HE.out]
      exact ⟨rfl, HB.out⟩
  · have hn2 := kd_ne h2
    have HE := Lib.hid (show wrongM name k mv = true by unfold wrongM; rw [hn2]; rfl)
    clear h2
    go_enter Tryd.func48, Tryd.ntmps48
    go_wp2_with fail
    go_ret
    rw [HE.out]
    exact ⟨rfl, HB.out⟩
end Go.Proofs.YtmfefeemkhncfaaDoor
