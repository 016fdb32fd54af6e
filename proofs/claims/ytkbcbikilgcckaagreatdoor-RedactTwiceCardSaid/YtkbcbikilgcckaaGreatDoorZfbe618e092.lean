/- Texts put together: EcB EcS JvU Lit QuO. -/
import Derived.Test.YtkbcbikilgcckaaGreatDoorZb7a4c958af
import Derived.Test.YtkbcbikilgcckaaGreatDoorZ95fb19a6cc
import Derived.Test.YtkbcbikilgcckaaGreatDoorZae125c35ba
import Derived.Deep.Cut
import Derived.Test.YtkbcbikilgcckaaGreatDoorZe0ec6b32e3
import Derived.Test.YtkbcbikilgcckaaGreatDoorZb913a2313a
import Derived.Test.YtkbcbikilgcckaaGreatDoorZ3b60d505ed
import Derived.Test.YtkbcbikilgcckaaGreatDoorShelf
import Derived.Lib.AppendStr
import Derived.Lib.LaidTab
import Derived.Lib.ItoaNum
import Derived.WalkLawsBesides
import Derived.Recover
import Derived.Sort.Grow
import Derived.Deep.RegionHeld3
import Derived.Deep.AppendLies
import Derived.Test.YtkbcbikilgcckaaGreatDoorZ3ff1f1dbf5
namespace Go.Proofs.YtkbcbikilgcckaaGreatDoor
open Go.ChangeShapes Go.WideShapes Go.ChangeAt Go.RowKit Go.IntWalk
set_option linter.unusedVariables false
set_option maxRecDepth 100000

theorem isLet_calls (l : List UInt8) (n : Nat) (hn : n = 32 ∨ n = 64) (w : World) (hl : l.length ≤ 1000000) : Calls Tryz.prog 27 #[.string ⟨l.toArray⟩, .int .i64 (n : Int)] w fun e w' => e = .returned (.bool (letN l n)) ∧ Below w.heap.size w w' := by
  obtain ⟨k, hk, hlk⟩ : ∃ k : Nat, lenF (n : Int) = (k : Int) ∧ letN l n = (decide (l.length = k) && (decF false l).isSome) := by
    rcases hn with rfl | rfl
    · exact ⟨43, by decide, letN_32 l⟩
    · exact ⟨86, by decide, letN_64 l⟩
  have hn2 : (n : Int) ≤ 1152921504606846976 := by omega
  have HLK := Lib.hid hlk
  have HN := Lib.hid hn2
  have HD := Lib.hid (show Calls Tryz.prog 49 #[.string ⟨l.toArray⟩, .bool false] w (DecPost false l w.heap.size w) from decode_calls ⟨l.toArray⟩ false w (by show l.length ≤ _; omega))
  have hlen := len_calls (n : Int) w hn2 (by omega)
  rw [hk] at hlen
  have HLEN := Lib.hid hlen
  clear hlk hn2 hlen hk hn
  by_cases h : l.length = k
  · have t0 : decide ((l.length : Int) = (k : Int)) = true := by simp; omega
    have HE := Lib.hid h
    go_enter Tryz.func27, Tryz.ntmps27
    go_wp2_with fail
    refine HLEN.out.mono ?_
    rintro e w1 ⟨rfl, rfl⟩
    go_wp2_with fail
    refine HD.out.mono ?_
    rintro e w2 hd
    unfold DecPost at hd
    cases hq : decF false l with
    | none =>
      rw [hq] at hd
      obtain ⟨rfl, hb⟩ := hd
      have HQ := Lib.hid hq
      clear hq
      go_wp2_with fail
      go_ret
      exact ⟨by rw [HLK.out, HQ.out]; simp, hb⟩
    | some o =>
      rw [hq] at hd
      obtain ⟨⟨v, rfl, -⟩, hb⟩ := hd
      have HQ := Lib.hid hq
      clear hq
      go_wp2_with fail
      go_ret
      exact ⟨by rw [HLK.out, HQ.out, HE.out]; simp, hb⟩
  · have t0 : decide ((l.length : Int) = (k : Int)) = false := by simp; omega
    have HE := Lib.hid h
    have t1 : ¬ ((l.length : Int) = (k : Int)) := by omega
    go_enter Tryz.func27, Tryz.ntmps27
    go_wp2_with fail
    refine HLEN.out.mono ?_
    rintro e w1 ⟨rfl, rfl⟩
    go_wp2_with fail
    go_ret
    exact ⟨by rw [HLK.out, decide_eq_false HE.out]; rfl, Below.refl _ _⟩
theorem short_calls (l : List UInt8) (w : World) (hl : l.length ≤ 1000000) : Calls Tryz.prog 46 #[.string ⟨l.toArray⟩] w fun e w' => e = .returned (.bool (shortF l)) ∧ Below w.heap.size w w' := by
  have HV := Lib.hid (valid_calls l w hl)
  by_cases h : l.length ≤ 255
  · have t0 : decide ((l.length : Int) ≤ 255) = true := by simp; omega
    have HE := Lib.hid h
    obtain ⟨q, hq⟩ : ∃ q, Lib.validD l = q := ⟨_, rfl⟩
    rw [hq] at HV
    have HQ := Lib.hid hq
    clear hq
    go_enter Tryz.func46, Tryz.ntmps46
    go_wp2_with fail
    refine HV.out.mono ?_
    rintro e w1 ⟨rfl, hb⟩
    go_wp2_with fail
    go_ret
    exact ⟨by unfold shortF; rw [HQ.out, decide_eq_true HE.out]; rfl, hb⟩
  · have t0 : decide ((l.length : Int) ≤ 255) = false := by simp; omega
    have HE := Lib.hid h
    have t1 : ¬ ((l.length : Int) ≤ 255) := by omega
    go_enter Tryz.func46, Tryz.ntmps46
    go_wp2_with fail
    go_ret
    exact ⟨by unfold shortF; rw [decide_eq_false HE.out]; rfl, Below.refl _ _⟩
/-- A result that tells whether something is so. -/
def TellP (P : Prop) (w : World) (en : Ending) (w' : World) : Prop := ∃ r, en = .returned (.bool r) ∧ (r = true ↔ P) ∧ Below w.heap.size w w'
set_option maxHeartbeats 4000000 in
theorem evrises_calls (a b : Sg) (w : World) : Calls Tryz.prog 52 #[a.val, b.val] w (TellP (sgR a b) w) := by
  obtain ⟨a1, a2, a3⟩ := a
  obtain ⟨b1, b2, b3⟩ := b
  unfold Sg.val
  dsimp only
  obtain ⟨w2, hw2⟩ : ∃ x, x = (w.alloc (.cells #[.string ⟨a1.toArray⟩, .string ⟨a2.toArray⟩, .string ⟨a3.toArray⟩] 44)).alloc (.cells #[.string ⟨b1.toArray⟩, .string ⟨b2.toArray⟩, .string ⟨b3.toArray⟩] 44) := ⟨_, rfl⟩
  have h3 := alloc2 w [.string ⟨a1.toArray⟩, .string ⟨a2.toArray⟩, .string ⟨a3.toArray⟩] [.string ⟨b1.toArray⟩, .string ⟨b2.toArray⟩, .string ⟨b3.toArray⟩] 44 44
  have HB : Hid (Below w.heap.size w w2) := Lib.hid (by rw [hw2]; exact h3.2.2)
  obtain ⟨q1, hq1⟩ : ∃ q, Op.bytesLess a1 b1 = q := ⟨_, rfl⟩
  obtain ⟨q2, hq2⟩ : ∃ q, (a1 == b1) = q := ⟨_, rfl⟩
  obtain ⟨q3, hq3⟩ : ∃ q, Op.bytesLess a2 b2 = q := ⟨_, rfl⟩
  have HR : Hid ((q1 || (q2 && q3)) = true ↔ sgR ⟨a1, a2, a3⟩ ⟨b1, b2, b3⟩) := Lib.hid (by
    unfold sgR
    rw [← hq1, ← hq2, ← hq3]; simp)
  clear h3
  go_enter Tryz.func52, Tryz.ntmps52
  cases q1 with
  | true =>
    go_wp2_with fail
    rw [← hw2]
    go_ret
    exact ⟨true, rfl, HR.out, HB.out⟩
  | false =>
    cases q2 with
    | false =>
      go_wp2_with fail
      rw [← hw2]
      go_ret
      exact ⟨false, rfl, HR.out, HB.out⟩
    | true =>
      cases q3 with
      | false =>
        go_wp2_with fail
        rw [← hw2]
        go_ret
        exact ⟨false, rfl, HR.out, HB.out⟩
      | true =>
        go_wp2_with fail
        rw [← hw2]
        go_ret
        exact ⟨true, rfl, HR.out, HB.out⟩
end Go.Proofs.YtkbcbikilgcckaaGreatDoor
namespace Go.Proofs.YtkbcbikilgcckaaGreatDoor
open Go.ChangeShapes Go.WideShapes Go.ChangeAt Go.RowKit Go.IntWalk
set_option linter.unusedVariables false
set_option maxRecDepth 100000

theorem sg_row {w wr : World} {A : Option Addr} {xs : List Sg} (h : RV w A (sgC xs)) (hb : Below w.heap.size w wr) {k : Nat} (hk : k < xs.length) : ∃ b off, A = some ⟨b, off, none⟩ ∧ b < w.heap.size ∧
    wr.rangeAt b (off + k * 3) [.string ⟨(xs[k]).t.toArray⟩, .string ⟨(xs[k]).k.toArray⟩, .string ⟨(xs[k]).i.toArray⟩] := by
  obtain ⟨b, off, rfl, hb0, h0, h1, h2⟩ := sigs_at h hk
  refine ⟨b, off, rfl, hb0, fun j v hj => ?_⟩
  rw [hb.cell (p := ⟨b, off + k * 3 + j, none⟩) hb0]
  match j, hj with
  | 0, hj => cases hj; exact h0
  | 1, hj => cases hj; exact h1
  | 2, hj => cases hj; exact h2
theorem wrapk (k : Nat) (h : k ≤ 1000000000000000) : IntKind.i64.wrap (k : Int) = (k : Int) := by unfold IntKind.wrap; simp [IntKind.signed, IntKind.bits]; omega
theorem size_sg (x y z : ByteArray) : (Tryz.prog.info? 44).map (·.size) = some [Value.string x, .string y, .string z].length := by kernel_rfl
def ftR (a b : Sg) : Lft := Lft.bare fun v => ∃ r, v = .bool r ∧ (r = true ↔ sgR a b)
def ftR2 (a b : Sg) : Lft := Lft.bare fun v => ∃ r, v = .bool (!r) ∧ (r = true ↔ sgR a b)
theorem ftR2_run {P : Program} {o : Oper} {a : Act} {W : World} {x y : Sg} {r : Bool} (h : (execOp a.eval o).run P W = .ok (.value (.bool (!r))) W) (hr : r = true ↔ sgR x y) : lkAt P o a W (ftR2 x y) := by
  unfold lkAt; rw [h]; exact ⟨⟨r, rfl, hr⟩, trivial, Below.refl _ _⟩
set_option maxHeartbeats 16000000 in
theorem signed_calls (A : Option Addr) (n c : Nat) (xs : List Sg) (w : World) (hm : Max w) (hx : Sgs w A n c xs) (hb : ∀ x ∈ xs, x.t.length ≤ 1000000 ∧ x.k.length ≤ 1000000 ∧ x.i.length ≤ 1000000) : Calls Tryz.prog 28 #[.slice A n c] w (TellP (sigsP xs) w) := by
  have HL := Lib.hid hx
  have HM := Lib.hid hm
  have HB0 := Lib.hid hb
  have hnm : n ≤ 140737488355328 := hx.2.2.2.1
  clear hx hm hb
  go_enter Tryz.func28, Tryz.ntmps28
  go_wp2_with fail
  go_loopw [7] (fun i wr => ∃ k : Nat, k ≤ n ∧ i = .int .i64 (k : Int) ∧ Hid (Below w.heap.size w wr ∧ ∀ j, j < k → sigAt xs j)) (fun i _ => n - (intOf i).toNat)
  case atStart => exact ⟨0, Nat.zero_le _, rfl, Lib.hid ⟨Below.refl _ _, fun j hj => absurd hj (Nat.not_lt_zero _)⟩⟩
  case round =>
    obtain ⟨k, hk, rfl, HK⟩ := hrel
    by_cases hp : k < n
    · have hkx : k < xs.length := by rw [← HL.out.2.1.out]; exact hp
      obtain ⟨b0, off, rfl, hb0, r0⟩ := sg_row HL.out.1 HK.out.1 hkx
      have hgx := List.getElem?_eq_getElem hkx
      have hmx := List.getElem_mem hkx
      obtain ⟨x, hxx⟩ : ∃ x, xs[k] = x := ⟨_, rfl⟩
      rw [hxx] at r0 hgx hmx
      obtain ⟨x1, x2, x3⟩ := x
      dsimp only at r0
      have HXK := Lib.hid hgx
      have HXB := Lib.hid (HB0.out _ hmx)
      have HBAD : Hid (¬ sigAt xs k → ¬ sigsP xs) := Lib.hid (fun h h2 => h (h2 k hkx))
      have c0 := r0 0 _ rfl
      have c1 := r0 1 _ rfl
      have c2 := r0 2 _ rfl
      rw [Nat.add_zero] at c0
      clear r0 hxx hkx hgx hmx
      go_upto_region 4 with fail
      obtain ⟨g4, eg⟩ : ∃ g, wr.heap.size = g := ⟨_, rfl⟩
      have hal : Below wr.heap.size wr (wr.alloc (.cells #[.string ⟨x1.toArray⟩, .string ⟨x2.toArray⟩, .string ⟨x3.toArray⟩] 44)) := (Below.refl _ _).alloc (Nat.le_refl _) _
      have h4 : Blk (wr.alloc (.cells #[.string ⟨x1.toArray⟩, .string ⟨x2.toArray⟩, .string ⟨x3.toArray⟩] 44)) wr.heap.size 44 [.string ⟨x1.toArray⟩, .string ⟨x2.toArray⟩, .string ⟨x3.toArray⟩] := Blk.new wr _ _
      have h5 := HK.out.1.then_ hal
      rw [eg] at h4 ⊢
      refine wp_gen (fun W => Blk W g4 44 [.string ⟨x1.toArray⟩, .string ⟨x2.toArray⟩, .string ⟨x3.toArray⟩] ∧ Below w.heap.size w W) ⟨h4, h5⟩ ?_
      clear hal h4 h5 c0 c1 c2 eg
      rintro w3 ⟨h4, h5⟩
      have H3 := Lib.hid (And.intro h4 h5)
      have d0 := h4.cell (k := 0) rfl
      have HS := Lib.hid (server_calls x1 w3 (HM.out.below h5) HXB.out.1)
      obtain ⟨q1, hq1⟩ : ∃ q, serverF x1 = q := ⟨_, rfl⟩
      rw [hq1] at HS
      have HQ1 := Lib.hid hq1
      clear h4 h5 hq1
      go_wp2_with fail
      refine HS.out.mono ?_
      rintro en w4 ⟨rfl, hb⟩
      have H4 := Lib.hid (And.intro (H3.out.1.later hb) (H3.out.2.then_ hb))
      clear hb HS d0
      cases q1 with
      | false =>
        have HF := Lib.hid (HBAD.out (fun ⟨y, h1, h2, _⟩ => by rw [HXK.out] at h1; injection h1 with h1; subst h1; have := h2.1; rw [HQ1.out] at this; cases this))
        go_wp2_with fail
        go_ret
        exact ⟨false, rfl, ⟨fun h => (by cases h), fun h => absurd h HF.out⟩, H4.out.2⟩
      | true =>
        have d1 := H4.out.1.cell (k := 1) rfl
        have HS := Lib.hid (Key_calls x2 w4 (HM.out.below H4.out.2) HXB.out.2.1)
        obtain ⟨q2, hq2⟩ : ∃ q, keyF x2 = q := ⟨_, rfl⟩
        rw [hq2] at HS
        have HQ2 := Lib.hid hq2
        clear hq2
        go_wp2_with fail
        refine HS.out.mono ?_
        rintro en w5 ⟨rfl, hb⟩
        have H5 := Lib.hid (And.intro (H4.out.1.later hb) (H4.out.2.then_ hb))
        clear hb HS d1
        cases q2 with
        | false =>
          have HF := Lib.hid (HBAD.out (fun ⟨y, h1, h2, _⟩ => by rw [HXK.out] at h1; injection h1 with h1; subst h1; have := h2.2.1; rw [HQ2.out] at this; cases this))
          go_wp2_with fail
          go_ret
          exact ⟨false, rfl, ⟨fun h => (by cases h), fun h => absurd h HF.out⟩, H5.out.2⟩
        | true =>
          have d2 := H5.out.1.cell (k := 2) rfl
          have HS := Lib.hid (isLet_calls x3 64 (.inr rfl) w5 HXB.out.2.2)
          obtain ⟨q3, hq3⟩ : ∃ q, letN x3 64 = q := ⟨_, rfl⟩
          rw [hq3] at HS
          have HQ3 := Lib.hid hq3
          clear hq3
          go_wp2_with fail
          refine HS.out.mono ?_
          rintro en w6 ⟨rfl, hb⟩
          have H6 := Lib.hid (And.intro (H5.out.1.later hb) (H5.out.2.then_ hb))
          clear hb HS d2
          cases q3 with
          | false =>
            have HF := Lib.hid (HBAD.out (fun ⟨y, h1, h2, _⟩ => by rw [HXK.out] at h1; injection h1 with h1; subst h1; have := h2.2.2; rw [HQ3.out] at this; cases this))
            go_wp2_with fail
            go_ret
            exact ⟨false, rfl, ⟨fun h => (by cases h), fun h => absurd h HF.out⟩, H6.out.2⟩
          | true =>
            have HSO : Hid (sigOk ⟨x1, x2, x3⟩) := Lib.hid ⟨HQ1.out, HQ2.out, HQ3.out⟩
            cases k with
            | zero =>
              have HOK : Hid (∀ j, j < 1 → sigAt xs j) := Lib.hid (fun j hj => by
                obtain rfl : j = 0 := by omega
                exact ⟨⟨x1, x2, x3⟩, HXK.out, HSO.out, fun y h => absurd h (Nat.lt_irrefl _)⟩)
              go_upto_region 6 with fail
              apply wp_region_lk (by kernel_rfl) (by kernel_rfl)
              apply lk_move (.int .i64 0) (.tmp 3) rfl rfl rfl
              simp only [Act.put, List.setIfInBounds_toArray, List.set_cons_succ, List.set_cons_zero]
              apply lk_pure (.bool false) rfl (by intro W; go_simp)
              simp only [Act.put, List.setIfInBounds_toArray, List.set_cons_succ, List.set_cons_zero]
              apply lk_move (.bool false) (.tmp 29) rfl rfl rfl
              simp only [Act.put, List.setIfInBounds_toArray, List.set_cons_succ, List.set_cons_zero]
              apply lk_skip0 rfl
              simp only [Act.put, List.setIfInBounds_toArray, List.set_cons_succ, List.set_cons_zero]
              apply lk_skip0 rfl
              simp only [Act.put, List.setIfInBounds_toArray, List.set_cons_succ, List.set_cons_zero]
              apply lk_skip0 rfl
              simp only [Act.put, List.setIfInBounds_toArray, List.set_cons_succ, List.set_cons_zero]
              apply lk_skip0 rfl
              simp only [Act.put, List.setIfInBounds_toArray, List.set_cons_succ, List.set_cons_zero]
              apply lk_skip0 rfl
              simp only [Act.put, List.setIfInBounds_toArray, List.set_cons_succ, List.set_cons_zero]
              apply lk_skip0 rfl
              simp only [Act.put, List.setIfInBounds_toArray, List.set_cons_succ, List.set_cons_zero]
              apply lk_skip0 rfl
              simp only [Act.put, List.setIfInBounds_toArray, List.set_cons_succ, List.set_cons_zero]
              apply lk_skip0 rfl
              simp only [Act.put, List.setIfInBounds_toArray, List.set_cons_succ, List.set_cons_zero]
              apply lk_pure (.bool false) rfl (by intro W; go_simp)
              simp only [Act.put, List.setIfInBounds_toArray, List.set_cons_succ, List.set_cons_zero]
              refine lk_nil (Fs := []) ?_
              intro w7 hb7 hz
              have HB7 := Lib.hid (H6.out.2.then_ hb7)
              clear hb7 hz
              go_wp2_with fail
              exact ⟨⟨1, by omega, by go_num, Lib.hid ⟨HB7.out, HOK.out⟩⟩, by simp [intOf]; omega⟩
            | succ k =>
              have hky : k < xs.length := by rw [← HL.out.2.1.out]; omega
              obtain ⟨b1, off1, eA, hb1, r1⟩ := sg_row HL.out.1 H6.out.2 hky
              injection eA with eA
              injection eA with e1 e2
              subst e1; subst e2
              have hgy := List.getElem?_eq_getElem hky
              obtain ⟨y, hyy⟩ : ∃ y, xs[k] = y := ⟨_, rfl⟩
              rw [hyy] at r1 hgy
              obtain ⟨y1, y2, y3⟩ := y
              dsimp only at r1
              have HYK := Lib.hid hgy
              have HR1 := Lib.hid r1
              have HBS := Lib.hid (Nat.lt_of_lt_of_le hb1 H6.out.2.size)
              have hkn : k < n := by omega
              clear r1 hyy hgy hky hb1
              go_upto_region 6 with fail
              apply wp_region_lkt 11 (by kernel_rfl) (by kernel_rfl)
              simp only [List.take_succ_cons, List.take_zero, List.drop_succ_cons, List.drop_zero]
              apply lk_move (.int .i64 ((k : Int) + 1)) (.tmp 3) rfl rfl (by first | rfl | (simp; done) | go_num)
              simp only [Act.put, List.setIfInBounds_toArray, List.set_cons_succ, List.set_cons_zero]
              apply lk_pure (.bool true) rfl (by intro W; go_simp; try omega)
              simp only [Act.put, List.setIfInBounds_toArray, List.set_cons_succ, List.set_cons_zero]
              apply lk_move (.bool true) (.tmp 29) rfl rfl rfl
              simp only [Act.put, List.setIfInBounds_toArray, List.set_cons_succ, List.set_cons_zero]
              apply lk_move (.slice (some ⟨b0, off, none⟩) n c) (.tmp 0) rfl rfl rfl
              simp only [Act.put, List.setIfInBounds_toArray, List.set_cons_succ, List.set_cons_zero]
              apply lk_move (.int .i64 ((k : Int) + 1)) (.tmp 3) rfl rfl (by first | rfl | (simp; done) | go_num)
              simp only [Act.put, List.setIfInBounds_toArray, List.set_cons_succ, List.set_cons_zero]
              apply lk_pure (.int .i64 (k : Int)) rfl (by intro W; go_simp; exact wrapk k (by omega))
              simp only [Act.put, List.setIfInBounds_toArray, List.set_cons_succ, List.set_cons_zero]
              apply lk_pure (.pointer (some ⟨b0, off + k * 3, none⟩)) rfl (by intro W; go_simp)
              simp only [Act.put, List.setIfInBounds_toArray, List.set_cons_succ, List.set_cons_zero]
              apply lk_load 44 (.tmp 34) rfl b0 (off + k * 3) _ _ HR1.out HBS.out Tryz.underlying44 rfl (size_sg _ _ _) rfl rfl
              simp only [Act.put, List.setIfInBounds_toArray, List.set_cons_succ, List.set_cons_zero]
              apply lk_load 44 (.tmp 4) rfl g4 0 _ _ H6.out.1.rng H6.out.1.lt Tryz.underlying44 rfl (size_sg _ _ _) rfl rfl
              simp only [Act.put, List.setIfInBounds_toArray, List.set_cons_succ, List.set_cons_zero]
              apply lk_call (ftR ⟨y1, y2, y3⟩ ⟨x1, x2, x3⟩) 52 #[Sg.val ⟨y1, y2, y3⟩, Sg.val ⟨x1, x2, x3⟩] rfl (by intro W; go_simp; exact ⟨rfl, rfl⟩) (fun W hW => (evrises_calls ⟨y1, y2, y3⟩ ⟨x1, x2, x3⟩ W).mono fun en W' ⟨r, h1, h2, h3⟩ => ⟨_, h1, ⟨r, rfl, h2⟩, trivial, h3⟩)
              rintro _ ⟨r, rfl, hr⟩
              simp only [Act.put, List.setIfInBounds_toArray, List.set_cons_succ, List.set_cons_zero]
              apply lk_step (F := ftR2 ⟨y1, y2, y3⟩ ⟨x1, x2, x3⟩) rfl ⟨⟨_, ⟨r, rfl, hr⟩⟩, fun W _ => ftR2_run (by cases r <;> go_simp) hr⟩
              clear hr
              rintro _ ⟨r, rfl, hr⟩
              simp only [Act.put, List.setIfInBounds_toArray, List.set_cons_succ, List.set_cons_zero]
              cases r with
              | false =>
                have HF := Lib.hid (HBAD.out (fun ⟨z, h1, _, h3⟩ => by
                  rw [HXK.out] at h1; injection h1 with h1; subst h1
                  have := hr.2 (h3 ⟨y1, y2, y3⟩ (Nat.succ_pos _) HYK.out)
                  cases this))
                clear hr
                refine lk_nil (Fs := []) ?_
                intro w7 hb7 hz
                have HB7 := Lib.hid (H6.out.2.then_ hb7)
                clear hb7 hz
                go_wp2_with fail
                go_ret
                exact ⟨false, rfl, ⟨fun h => (by cases h), fun h => absurd h HF.out⟩, HB7.out⟩
              | true =>
                have HOK : Hid (∀ j, j < k + 1 + 1 → sigAt xs j) := Lib.hid (fun j hj => by
                  rcases Nat.lt_or_ge j (k + 1) with h | h
                  · exact HK.out.2 j h
                  · obtain rfl : j = k + 1 := by omega
                    refine ⟨⟨x1, x2, x3⟩, HXK.out, HSO.out, fun z _ hz => ?_⟩
                    rw [show k + 1 - 1 = k from rfl, HYK.out] at hz
                    injection hz with hz
                    rw [← hz]
                    exact hr.1 rfl)
                clear hr
                refine lk_nil (Fs := []) ?_
                intro w7 hb7 hz
                have HB7 := Lib.hid (H6.out.2.then_ hb7)
                clear hb7 hz
                go_wp2_with fail
                exact ⟨⟨k + 1 + 1, by omega, by go_num, Lib.hid ⟨HB7.out, HOK.out⟩⟩, by simp [intOf]; omega⟩
    · obtain rfl : n = k := by omega
      have hn := HL.out.2.1.out
      go_wp2_with fail
      go_ret
      exact ⟨true, rfl, ⟨fun _ i hi => HK.out.2 i (by omega), fun _ => rfl⟩, HK.out.1⟩
end Go.Proofs.YtkbcbikilgcckaaGreatDoor
namespace Go.Proofs.YtkbcbikilgcckaaGreatDoor
open Go.ChangeShapes Go.WideShapes Go.ChangeAt Go.RowKit Go.IntWalk
set_option linter.unusedVariables false
set_option maxRecDepth 100000

theorem natB (n : Nat) : ((n : Int) == 0) = decide (n = 0) := by
  rw [Bool.eq_iff_iff]; simp
set_option maxHeartbeats 4000000 in
theorem refbare_calls (v : Jv) (A B : Option Addr) (nl cl nm cm : Nat) (w : World) (h1 : Room nl cl v.l.ext) (h2 : Room nm cm v.m.ext) :
    Calls Tryz.prog 101 #[.agg #[.int .i64 v.kd, .bool v.is, .int .i64 v.n, .string ⟨v.s.toArray⟩, .slice A nl cl, .slice B nm cm]] w fun e w' => e = .returned (.bool v.bare) ∧ Below w.heap.size w w' := by
  obtain ⟨kd, is, n, s, l, m⟩ := v
  obtain ⟨rfl, _, _⟩ := h1
  obtain ⟨rfl, _, _⟩ := h2
  dsimp only
  rcases (show kd = 0 ∨ kd = 1 ∨ kd = 2 ∨ kd = 3 ∨ kd = 4 ∨ kd = 5 ∨ (¬ kd = 0 ∧ ¬ kd = 1 ∧ ¬ kd = 2 ∧ ¬ kd = 3 ∧ ¬ kd = 4 ∧ ¬ kd = 5) by omega) with rfl | rfl | rfl | rfl | rfl | rfl | ⟨k0, k1, k2, k3, k4, k5⟩
  all_goals
    go_enter Tryz.func101, Tryz.ntmps101
    go_wp2
    all_goals
      go_ret
      refine ⟨?_, ?_⟩
      · first
          | (simp [Jv.bare, JT.isNil_eq, *]; done)
          | (simp [Jv.bare, JT.isNil_eq, *]; intros; omega)
          | (simp [Jv.bare, JT.isNil_eq, natB, *]; done)
      · first
          | exact ((Below.refl _ _).alloc (Nat.le_refl _) _).alloc (by simp) _
          | exact (((Below.refl _ _).alloc (Nat.le_refl _) _).alloc (by simp) _).setCell (by simp) _
theorem lng_ok {b : List UInt8} (h : b.length ≤ 65536) : lng b = .ok b := by unfold lng; rw [if_pos h]
theorem lng_bad {b : List UInt8} (h : ¬ b.length ≤ 65536) : lng b = .error 3 := by unfold lng; rw [if_neg h]
theorem lng_test {b : List UInt8} {n : Nat} (hn : Hid (n = b.length)) (h : b.length ≤ 65536) : decide ((65536 : Int) < (n : Int)) = false := by
  have := hn.out; simp; omega
theorem lng_test' {b : List UInt8} {n : Nat} (hn : Hid (n = b.length)) (h : ¬ b.length ≤ 65536) : decide ((65536 : Int) < (n : Int)) = true := by
  have := hn.out; simp; omega
theorem ne_of_turn {w : World} {g : Nat} {v v1 : Value} (h : v.ownBlock ≠ some g) (hg : g < w.heap.size) (ch : v1.ownBlock = v.ownBlock ∨ v1.ownBlock = none ∨ ∃ k, v1.ownBlock = some k ∧ w.heap.size ≤ k) : v1.ownBlock ≠ some g := by
  rcases ch with e | e | ⟨k, e, hk⟩
  · rw [e]; exact h
  · rw [e]; simp
  · rw [e]; simp; omega
theorem Blk.of_gb {w w1 : World} {g : Nat} {T : TypeId} {cs : List Value} {row : Option Nat} (h : Blk w g T cs) (hg : w.grownBy w1 row) (hne : row ≠ some g) : Blk w1 g T cs := (hg.block g h.lt (fun e => hne e.symm)).trans h
theorem escB_le (c : UInt8) : (escB c).length ≤ 6 := by
  unfold escB
  repeat' split
  all_goals simp
theorem escL_le (l : List UInt8) : (escL l).length ≤ 6 * l.length := by
  unfold escL
  induction l with
  | nil => simp
  | cons c l ih => rw [List.flatMap_cons, List.length_append, List.length_cons]; have := escB_le c; omega
theorem putF_le (l : List UInt8) : (putF l).length ≤ 6 * l.length + 2 := by
  have := escL_le l
  unfold putF
  split
  · simp; omega
  · simp
theorem gPow : Tryz.prog.globalNamed "internal/strconv.uint64pow10" = some 1 := by kernel_rfl
/-- The library's powers of ten lie below base. -/
def PowT (base : Nat) (w : World) : Prop := 1 < base ∧ Lib.TabIs Tryz.prog w "internal/strconv.uint64pow10" .u64 Lib.pow10Tab
theorem PowT.blw {base : Nat} {w w' : World} (h : PowT base w) (b : Below base w w') : PowT base w' := by
  refine ⟨h.1, ?_⟩
  have h2 := h.2
  unfold Lib.TabIs World.var? at h2 ⊢
  rw [gPow] at h2 ⊢
  simp only [Option.bind_some] at h2 ⊢
  rw [b.block _ h.1]
  exact h2
theorem then_ok (b : List UInt8) (f : List UInt8 → Res) : Res.then (.ok b) f = f b := rfl
theorem then_bad (x : Int) (f : List UInt8 → Res) : Res.then (.error x) f = .error x := rfl
theorem wrK_l0 (k b : List UInt8) : wrK false none k b = .ok b := rfl
theorem wrK_lS (p k b : List UInt8) : wrK false (some p) k b = lng (b ++ [44]) := by
  unfold wrK
  cases lng (b ++ [44]) <;> rfl
theorem prevK_pos {t : JT} {i : Nat} (h : 0 < i) : prevK t i = some (t.fall (i - 1)).key := by unfold prevK; rw [if_neg (by omega)]
/-- A list's text. -/
def wrL (t : JT) (deep : Nat) (b : List UInt8) : Res := (if 32 ≤ deep then .error 5 else lng (b ++ [91])).then fun b => (wrF false t (deep + 1) none b).then fun b => lng (b ++ [93])
/-- Where the loop stands: of what is still to come the whole's answer is left. -/
def LStep (R : Res) (mem : Bool) (t : JT) (deep k : Nat) (b : List UInt8) : Prop := R = wrF mem (t.fall k) deep (prevK t k) b
/-- A map's text. -/
def wrM (t : JT) (deep : Nat) (b : List UInt8) : Res := (if 32 ≤ deep then .error 5 else lng (b ++ [123])).then fun b => (wrF true t (deep + 1) none b).then fun b => lng (b ++ [125])
/-- A member behind its comma. -/
def wrT (t : JT) (k deep : Nat) (ek : List UInt8) (ev : Jv) (b : List UInt8) : Res :=
  (txt b ek).then fun b => (lng (b ++ [58])).then fun b => (wrV ev (deep + 1) b).then fun b => wrF true (t.fall (k + 1)) (deep + 1) (prevK t (k + 1)) b
theorem wrK_m0 (t : JT) (k deep : Nat) (ek : List UInt8) (ev : Jv) (b : List UInt8) : ((wrK true none ek b).then fun b => (wrV ev (deep + 1) b).then fun b => wrF true (t.fall (k + 1)) (deep + 1) (prevK t (k + 1)) b) = wrT t k deep ek ev b := by
  unfold wrK wrT
  simp only [then_ok, if_true]
  cases txt b ek with
  | error x => rfl
  | ok b => simp only [then_ok]
theorem wrK_mS (t : JT) (k deep : Nat) (p ek : List UInt8) (ev : Jv) (b : List UInt8) : ((wrK true (some p) ek b).then fun b => (wrV ev (deep + 1) b).then fun b => wrF true (t.fall (k + 1)) (deep + 1) (prevK t (k + 1)) b) =
    (lng (b ++ [44])).then fun b => if leqB ek p then .error 1 else wrT t k deep ek ev b := by
  unfold wrK wrT
  cases lng (b ++ [44]) with
  | error x => rfl
  | ok b =>
    simp only [then_ok, Bool.true_and, if_true]
    cases leqB ek p with
    | true => rfl
    | false =>
      simp only [Bool.false_eq_true, if_false, then_ok]
      cases txt b ek with
      | error x => rfl
      | ok b => simp only [then_ok]
theorem below_grow {w w' : World} (h : ∃ k os, w' = Sort.grow (w.drewN k) os) : Below w.heap.size w w' := by
  obtain ⟨k, os, rfl⟩ := h
  exact ⟨rfl, rfl, rfl, by simp [Sort.grow], fun i hi => by simp [Sort.grow, Array.getElem?_append, hi]⟩
theorem decDigits_le (k : Nat) : ∀ u, u < 10 ^ (k + 1) → (Lib.decDigits u).length ≤ k + 1 := by
  induction k with
  | zero => intro u h; rw [Lib.decDigits, dif_pos (by simpa using h)]; simp
  | succ k ih =>
    intro u h
    rw [Lib.decDigits]
    split
    · simp
    · rw [List.length_append]
      have := ih (u / 10) (by rw [Nat.pow_succ] at h; omega)
      simp; omega
theorem itoa_le (n : Int) (h0 : -9223372036854775808 ≤ n) (h1 : n ≤ 9223372036854775807) : (Lib.itoa n).length ≤ 21 := by
  unfold Lib.itoa
  split
  · have := decDigits_le 19 n.natAbs (by simp; omega)
    simp; omega
  · have := decDigits_le 19 n.toNat (by simp; omega)
    omega
theorem itoa_calls (base : Nat) (n : Int) (h0 : -9223372036854775808 ≤ n) (h1 : n ≤ 9223372036854775807) (w : World) (hT : PowT base w) :
    Calls Tryz.prog 103 #[.int .i64 n] w fun e w' => e = .returned (.string ⟨(Lib.itoa n).toArray⟩) ∧ Below w.heap.size w w' :=
  (Tryz.strconv_Itoa n h0 h1 w hT.2).mono fun e w' ⟨h1, h2⟩ => ⟨h1, below_grow h2⟩
theorem fmtB (b : Bool) : Lib.formatBool b = if b then [116, 114, 117, 101] else [102, 97, 108, 115, 101] := by cases b <;> decide
theorem bare_kd {v : Jv} (h : v.bare = true) : v.kd = 0 ∨ v.kd = 1 ∨ v.kd = 2 ∨ v.kd = 3 ∨ v.kd = 4 ∨ v.kd = 5 := by
  unfold Jv.bare at h
  simp only [Bool.and_eq_true, decide_eq_true_eq] at h
  omega
theorem wrV_bad {v : Jv} (h : v.bare = false) (deep : Nat) (b : List UInt8) : wrV v deep b = .error 1 := by unfold wrV wrB; rw [if_pos h]
theorem wrV_0 {v : Jv} (h : v.bare = true) (hk : v.kd = 0) (deep : Nat) (b : List UInt8) : wrV v deep b = lng (b ++ [110, 117, 108, 108]) := by
  unfold wrV wrB; rw [hk, h]; simp
theorem wrV_1 {v : Jv} (h : v.bare = true) (hk : v.kd = 1) (deep : Nat) (b : List UInt8) : wrV v deep b = lng (b ++ (if v.is then [116, 114, 117, 101] else [102, 97, 108, 115, 101])) := by
  unfold wrV wrB; rw [hk, h]; simp
theorem wrV_2 {v : Jv} (h : v.bare = true) (hk : v.kd = 2) (deep : Nat) (b : List UInt8) : wrV v deep b = lng (b ++ Lib.itoa v.n) := by
  unfold wrV wrB; rw [hk, h]; simp
theorem wrV_3 {v : Jv} (h : v.bare = true) (hk : v.kd = 3) (deep : Nat) (b : List UInt8) : wrV v deep b = txt b v.s := by
  unfold wrV wrB; rw [hk, h]; simp
theorem wrV_4 {v : Jv} (h : v.bare = true) (hk : v.kd = 4) (deep : Nat) (b : List UInt8) : wrV v deep b = wrL v.l deep b := by
  unfold wrV wrB wrL; rw [hk, h]
  by_cases hd : 32 ≤ deep
  · simp [hd, then_bad]
  · simp [hd]
theorem wrV_5 {v : Jv} (h : v.bare = true) (hk : v.kd = 5) (deep : Nat) (b : List UInt8) : wrV v deep b = wrM v.m deep b := by
  unfold wrV wrB wrM; rw [hk, h]
  by_cases hd : 32 ≤ deep
  · simp [hd, then_bad]
  · simp [hd]
theorem below_drewN {B : Nat} {a w : World} (h : Below B a w) (n : Nat) : Below B a (w.drewN n) := ⟨h.os, h.tape, h.output, h.size, h.block⟩
/-- What Canon answers. -/
def CanPost (v : Jv) (w : World) (e : Ending) (w' : World) : Prop := e = .returned (.tuple #[.string ⟨(canF v).1.toArray⟩, .int .i64 (canF v).2]) ∧ Below w.heap.size w w'
end Go.Proofs.YtkbcbikilgcckaaGreatDoor
namespace Go.Proofs.YtkbcbikilgcckaaGreatDoor
open Go.ChangeShapes Go.WideShapes Go.ChangeAt Go.RowKit Go.IntWalk
set_option linter.unusedVariables false

theorem wpList_append_lit {ops : Array Oper} {rest : List Oper} {o : Oper} {a : Act} {Q : Exit → Act → World → Prop} {w : World} (hgd : o.guard = none) (s x : Operand)
    (ho : o.op = .call { callee := .builtin .append, args := #[s, x], argTypes := #[65, 65] })
    (base : Nat) (v : Value) (bs : List UInt8) (hs : a.eval s = v) (hown : OwnBs base w v bs) (l : List UInt8) (C : Array Value) (hC : C = (l.map fun c => Value.int .u8 c.toNat).toArray)
    (n : Nat) (hx : a.eval x = .slice (some ⟨w.heap.size, 0, none⟩) n n) (hn : Hid (n = l.length)) (hlen : bs.length + n ≤ 70368744177664) (hbase : base ≤ w.heap.size)
    (h : ∀ v' w', OwnBs base w' v' (bs ++ l) → w.grownBy w' v.ownBlock → wpList Tryz.prog ops Q rest (a.put o.dst v') w') :
    wpList Tryz.prog ops Q (o :: rest) a (w.alloc (.cells C 5)) := by
  refine wpList_append_rb hgd s x ho base v bs hs (World.ownsRow.alloc hown _) _ n n l hx (rb_const w l C hC _) hn hlen (by simp; omega) ?_
  intro v' w' h1 h2
  exact h v' w' h1 ⟨h2.os, h2.tape, h2.output, Nat.le_trans (by simp) h2.size, fun k hk hne => (h2.block k (by simp; omega) hne).trans (heap_alloc_old w _ hk)⟩

/-- .. at a step of a region that draws its order -/
theorem step_append_lit {ops : Array Oper} {o : Oper} {a : Act} {K : Act → World → Prop} {Q : Exit → Act → World → Prop} {E : Prop} {W : World} (hgd : o.guard = none) (s x : Operand)
    (ho : o.op = .call { callee := .builtin .append, args := #[s, x], argTypes := #[65, 65] })
    (base : Nat) (v : Value) (bs : List UInt8) (hs : a.eval s = v) (hown : OwnBs base W v bs) (ad : Addr) (l : List UInt8) (n c : Nat) (hx : a.eval x = .slice (some ad) n c)
    (hl : RB W (some ad) l) (hn : n = l.length) (h0 : 0 < n) (hlen : bs.length + n ≤ 70368744177664) (hbase : base ≤ W.heap.size)
    (h : ∀ v' w', OwnBs base w' v' (bs ++ l) → W.grownBy w' v.ownBlock → K (a.put o.dst v') w') :
    if Region.wanted o (yielded ops a.tmps) = true then Oper.wp Tryz.prog o a W K Q else E := by
  obtain ⟨i0, hi, hz0, hz1, hz2⟩ := info_parts infoU8
  subst hn
  refine step_append_lies W hgd s x 65 ho base 5 i0 (.int .u8 0) 1 1 Tryz.underlying65 hi hz0 hz1 hz2 rfl (by decide) v _ _ hs hown ad l.length c (l.map fun c => Value.int .u8 c.toNat) hx (by simp) ?_ ?_ h0 (by unfold maxLen; omega) (by omega) hbase _ rfl ?_
  · intro j u hj
    have hjl : j < l.length := by
      rcases Nat.lt_or_ge j l.length with h | h
      · exact h
      · simp [List.getElem?_eq_none h] at hj
    obtain ⟨b, off, h1, _, h3⟩ := hl j hjl
    cases h1
    have hplain : (⟨b, off, none⟩ : Addr).add j = ⟨b, off + j, none⟩ := by unfold Addr.add; split <;> simp_all
    rw [hplain, h3]
    simp [hjl] at hj
    subst hj
    simp [List.getD, List.getElem?_eq_getElem hjl]
  · intro u hu
    obtain ⟨y, _, rfl⟩ := List.mem_map.1 hu
    rfl
  · intro g cap w' h1 h2 _ _
    exact h _ w' (by simpa [OwnBs] using h1) h2
end Go.Proofs.YtkbcbikilgcckaaGreatDoor
namespace Go.Proofs.YtkbcbikilgcckaaGreatDoor
open Go.ChangeShapes Go.WideShapes Go.ChangeAt Go.RowKit Go.IntWalk
set_option linter.unusedVariables false
set_option maxRecDepth 100000

def PutPost (l : List UInt8) (w : World) (e : Ending) (w' : World) : Prop := e = .returned (.tuple #[.string ⟨(putF l).toArray⟩, .bool (Lib.validD l)]) ∧ Below w.heap.size w w'
theorem PutPost.no {l : List UInt8} {w w' : World} (h : Lib.validD l = false) (hb : Below w.heap.size w w') : PutPost l w (.returned (.tuple #[.string ⟨#[]⟩, .bool false])) w' := by
  unfold PutPost putF; rw [h]; exact ⟨rfl, hb⟩
theorem PutPost.yes {l m : List UInt8} {w w' : World} (h : Lib.validD l = true) (hm : m = 34 :: escL l ++ [34]) (hb : Below w.heap.size w w') : PutPost l w (.returned (.tuple #[.string ⟨m.toArray⟩, .bool true])) w' := by
  unfold PutPost putF; rw [h, hm]; exact ⟨rfl, hb⟩
theorem own_quote (base : Nat) (w : World) (hb : base ≤ w.heap.size) : OwnBs base (w.alloc (.cells #[.int .u8 34] 5)) (.slice (some ⟨w.heap.size, 0, none⟩) 1 1) [34] := by
  refine BlkBs.own (g := w.heap.size) ?_ hb rfl (by unfold maxLen; omega)
  exact heap_alloc_new w _

theorem hex_get : ∀ j : Fin 16, ((⟨#[48, 49, 50, 51, 52, 53, 54, 55, 56, 57, 97, 98, 99, 100, 101, 102]⟩ : ByteArray)[j.val]'j.isLt) = hexB j.val := by decide
theorem hex_index (i : Int) (j : Nat) (W : World) (hi : i = (j : Int)) (hj : j < 16) (k : IntKind) :
    (Instr.index 9 (.string ⟨#[48, 49, 50, 51, 52, 53, 54, 55, 56, 57, 97, 98, 99, 100, 101, 102]⟩) (.int k i)).run Tryz.prog W = .ok (.int .u8 (hexB j).toNat) W := by
  subst hi
  rw [run_index_string W 9 _ k _ Tryz.underlying9, dif_pos ⟨by omega, by show (j : Int) < (16 : Nat); omega⟩]
  have := hex_get ⟨j, hj⟩
  simp only [Int.toNat_natCast]
  rw [this]

set_option maxHeartbeats 4000000 in
theorem refput_calls (l : List UInt8) (w : World) (hl : l.length ≤ 1000000) :
    Calls Tryz.prog 127 #[.string ⟨l.toArray⟩] w (PutPost l w) := by
  cases hv : Lib.validD l with
  | false =>
    have HV := Lib.hid hv; clear hv
    go_enter Tryz.func127, Tryz.ntmps127
    go_wp2_with fail
    refine (refvalid_calls l _ hl).mono ?_
    rintro e w1 ⟨rfl, rfl⟩
    rw [HV.out]
    go_wp2
    go_ret2
    exact PutPost.no HV.out (Below.refl _ _)
  | true =>
    have HV := Lib.hid hv; clear hv
    go_enter Tryz.func127, Tryz.ntmps127
    go_wp2_with fail
    refine (refvalid_calls l _ hl).mono ?_
    rintro e w1 ⟨rfl, rfl⟩
    rw [HV.out]
    go_wp2_with fail
    have hown0 := own_quote w.heap.size w (Nat.le_refl _)
    have hb0 : Below w.heap.size w (w.alloc (.cells #[.int .u8 34] 5)) := (Below.refl _ _).alloc (Nat.le_refl _) _
    go_loopw [5, 6] (fun v i wr => ∃ k, k ≤ l.length ∧ i = .int .i64 k ∧ OwnBs w.heap.size wr v (34 :: escL (l.take k)) ∧ Below w.heap.size w wr) (fun _ i _ => l.length - (intOf i).toNat)
    case atStart => exact ⟨0, Nat.zero_le _, rfl, by simpa [escL] using hown0, hb0⟩
    case round =>
      clear hown0 hb0
      obtain ⟨k, hk, rfl, hown, hbr⟩ := hrel
      have hsz := hbr.size
      have hlen := escL_take_len l k hk
      have hlen1 : (34 :: escL (l.take k)).length ≤ 6 * k + 1 := by simp; omega
      by_cases hp : k < l.length
      · have HT := Lib.hid (escL_take l k hp)
        obtain ⟨c, hc⟩ : ∃ c, l[k] = c := ⟨_, rfl⟩
        rw [hc] at HT
        have hcl := c.toNat_lt
        by_cases h34 : c = 34 ∨ c = 92
        · have HE : Hid (escB c = [92, c]) := by show _ = _; unfold escB; rw [if_pos h34]
          have hb : ((c.toNat : Int) == 34) = true ∨ (((c.toNat : Int) == 34) = false ∧ ((c.toNat : Int) == 92) = true) := by
            rcases h34 with rfl | rfl
            · exact .inl (by decide)
            · exact .inr ⟨by decide, by decide⟩
          clear h34
          rcases hb with h1 | ⟨h1, h2⟩
          all_goals
            go_wp2_with (at_builtin; (refine wpList_append_lit rfl _ _ rfl _ _ _ rfl hown [92, c] _ rfl 2 rfl rfl (by omega) (by omega) ?_; intro v' w2 hown' hgrow'))
            rw [List.cons_append, ← HE.out, ← HT.out] at hown'
            have hb3 : Below w.heap.size w w2 := hbr.grown hgrow' hsz (fun k hk => (hown.lt k hk).1)
            exact ⟨⟨k + 1, by omega, by go_num, hown', hb3⟩, by simp [intOf]; omega⟩
        · by_cases hsp : c = 8 ∨ c = 9 ∨ c = 10 ∨ c = 12 ∨ c = 13
          · clear h34
            rcases hsp with rfl | rfl | rfl | rfl | rfl
            · have HE : Hid (escB 8 = [92, 98]) := by show _ = _; decide
              go_wp2_with (at_builtin; (refine wpList_append_lit rfl _ _ rfl _ _ _ rfl hown [92, 98] _ rfl 2 rfl rfl (by omega) (by omega) ?_; intro v' w2 hown' hgrow'))
              rw [List.cons_append, ← HE.out, ← HT.out] at hown'
              have hb3 : Below w.heap.size w w2 := hbr.grown hgrow' hsz (fun k hk => (hown.lt k hk).1)
              exact ⟨⟨k + 1, by omega, by go_num, hown', hb3⟩, by simp [intOf]; omega⟩
            · have HE : Hid (escB 9 = [92, 116]) := by show _ = _; decide
              go_wp2_with (at_builtin; (refine wpList_append_lit rfl _ _ rfl _ _ _ rfl hown [92, 116] _ rfl 2 rfl rfl (by omega) (by omega) ?_; intro v' w2 hown' hgrow'))
              rw [List.cons_append, ← HE.out, ← HT.out] at hown'
              have hb3 : Below w.heap.size w w2 := hbr.grown hgrow' hsz (fun k hk => (hown.lt k hk).1)
              exact ⟨⟨k + 1, by omega, by go_num, hown', hb3⟩, by simp [intOf]; omega⟩
            · have HE : Hid (escB 10 = [92, 110]) := by show _ = _; decide
              go_wp2_with (at_builtin; (refine wpList_append_lit rfl _ _ rfl _ _ _ rfl hown [92, 110] _ rfl 2 rfl rfl (by omega) (by omega) ?_; intro v' w2 hown' hgrow'))
              rw [List.cons_append, ← HE.out, ← HT.out] at hown'
              have hb3 : Below w.heap.size w w2 := hbr.grown hgrow' hsz (fun k hk => (hown.lt k hk).1)
              exact ⟨⟨k + 1, by omega, by go_num, hown', hb3⟩, by simp [intOf]; omega⟩
            · have HE : Hid (escB 12 = [92, 102]) := by show _ = _; decide
              go_wp2_with (at_builtin; (refine wpList_append_lit rfl _ _ rfl _ _ _ rfl hown [92, 102] _ rfl 2 rfl rfl (by omega) (by omega) ?_; intro v' w2 hown' hgrow'))
              rw [List.cons_append, ← HE.out, ← HT.out] at hown'
              have hb3 : Below w.heap.size w w2 := hbr.grown hgrow' hsz (fun k hk => (hown.lt k hk).1)
              exact ⟨⟨k + 1, by omega, by go_num, hown', hb3⟩, by simp [intOf]; omega⟩
            · have HE : Hid (escB 13 = [92, 114]) := by show _ = _; decide
              go_wp2_with (at_builtin; (refine wpList_append_lit rfl _ _ rfl _ _ _ rfl hown [92, 114] _ rfl 2 rfl rfl (by omega) (by omega) ?_; intro v' w2 hown' hgrow'))
              rw [List.cons_append, ← HE.out, ← HT.out] at hown'
              have hb3 : Below w.heap.size w w2 := hbr.grown hgrow' hsz (fun k hk => (hown.lt k hk).1)
              exact ⟨⟨k + 1, by omega, by go_num, hown', hb3⟩, by simp [intOf]; omega⟩
          · have q8 : ∀ d : UInt8, c ≠ d → ((c.toNat : Int) == (d.toNat : Int)) = false := fun d hd => by
              rw [beq_eq_false_iff_ne]; intro h; exact hd (UInt8.toNat_inj.1 (by omega))
            have n1 : ((c.toNat : Int) == 34) = false := q8 34 (fun h => h34 (.inl h))
            have n2 : ((c.toNat : Int) == 92) = false := q8 92 (fun h => h34 (.inr h))
            have n3 : ((c.toNat : Int) == 8) = false := q8 8 (fun h => hsp (.inl h))
            have n4 : ((c.toNat : Int) == 9) = false := q8 9 (fun h => hsp (.inr (.inl h)))
            have n5 : ((c.toNat : Int) == 10) = false := q8 10 (fun h => hsp (.inr (.inr (.inl h))))
            have n6 : ((c.toNat : Int) == 12) = false := q8 12 (fun h => hsp (.inr (.inr (.inr (.inl h)))))
            have n7 : ((c.toNat : Int) == 13) = false := q8 13 (fun h => hsp (.inr (.inr (.inr (.inr h)))))
            have HE0 : Hid (escB c = if c.toNat < 32 then [92, 117, 48, 48, hexB (c.toNat / 16), hexB (c.toNat % 16)] else [c]) := by
              show _ = _
              unfold escB
              rw [if_neg h34, if_neg (fun h => hsp (.inl h)), if_neg (fun h => hsp (.inr (.inl h))), if_neg (fun h => hsp (.inr (.inr (.inl h)))), if_neg (fun h => hsp (.inr (.inr (.inr (.inl h))))), if_neg (fun h => hsp (.inr (.inr (.inr (.inr h)))))]
            clear q8 h34 hsp
            by_cases h32 : c.toNat < 32
            · have HE : Hid (escB c = [92, 117, 48, 48, hexB (c.toNat / 16), hexB (c.toNat % 16)]) := HE0.out.trans (if_pos h32)
              clear HE0
              have hW : IntKind.u8.wrap ((c.toNat : Int) / 16) = (c.toNat : Int) / 16 := by rw [IntKind.wrap_u8]; omega
              have hM : (c.toNat : Int).tmod 16 = (c.toNat : Int) % 16 := Int.tmod_eq_emod_of_nonneg (by omega)
              have hx1 := fun W => hex_index ((c.toNat : Int) / 16) (c.toNat / 16) W (by omega) (by omega) .u8
              have hx2 := fun W => hex_index ((c.toNat : Int) % 16) (c.toNat % 16) W (by omega) (by omega) .u8
              go_wp2_with fail
              go_region_held3 (fun _ => True) (trivial)
                ((refine step_append_lit (by rfl) _ _ (by rfl) w.heap.size _ _ (by rfl) (by first | exact World.ownsRow.alloc hown _ | exact (World.ownsRow.alloc hown _).drew | exact ((World.ownsRow.alloc hown _).drew).drew) ⟨wr.heap.size, 0, none⟩
                    [92, 117, 48, 48, hexB (c.toNat / 16), hexB (c.toNat % 16)] 6 6 (by rfl) (rb_const wr _ _ rfl (0, 0)) (by rfl) (by omega) (by omega) (by simp; omega) ?_; intro v' w2 hown' hgrow'))
              all_goals go_wp2
              all_goals
                rw [List.cons_append, ← HE.out, ← HT.out] at hown'
                have hb3 : Below w.heap.size w w2 := Below.grown (by first | exact hbr.alloc hsz _ | exact (hbr.alloc hsz _).drew) hgrow' (by simp; omega) (fun k hk => (hown.lt k hk).1)
                exact ⟨⟨k + 1, by omega, by go_num, hown', hb3⟩, by simp [intOf]; omega⟩
            · have HE : Hid (escB c = [c]) := HE0.out.trans (if_neg h32)
              clear HE0
              go_wp2_with (at_builtin; (refine wpList_append_lit rfl _ _ rfl _ _ _ rfl hown [c] _ rfl 1 rfl rfl (by omega) (by omega) ?_; intro v' w2 hown' hgrow'))
              rw [List.cons_append, ← HE.out, ← HT.out] at hown'
              have hb3 : Below w.heap.size w w2 := hbr.grown hgrow' hsz (fun k hk => (hown.lt k hk).1)
              exact ⟨⟨k + 1, by omega, by go_num, hown', hb3⟩, by simp [intOf]; omega⟩
      · have hkl : k = l.length := by omega
        rw [hkl, List.take_length] at hown hlen1
        go_wp2_with (at_builtin; (refine wpList_append_lit rfl _ _ rfl _ _ _ rfl hown [34] _ rfl 1 rfl rfl (by omega) (by omega) ?_; intro v' w2 hown' hgrow'))
        obtain ⟨A, n, cap, rfl, hrb, hn⟩ := hown'.form
        have hstr := run_str_rb w2 A n cap _ hrb hn
        have hb3 : Below w.heap.size w w2 := hbr.grown hgrow' hsz (fun k hk => (hown.lt k hk).1)
        go_simp
        go_wp2
        go_ret2
        exact PutPost.yes HV.out rfl hb3
end Go.Proofs.YtkbcbikilgcckaaGreatDoor
