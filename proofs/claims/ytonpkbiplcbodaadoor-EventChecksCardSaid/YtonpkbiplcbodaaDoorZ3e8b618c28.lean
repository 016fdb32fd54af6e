/- Texts put together: JvG WgB. -/
import Derived.Test.YtonpkbiplcbodaaDoorZ63d2248441
import Derived.StillTailTactics
namespace Go.Proofs.YtonpkbiplcbodaaDoor
open Go.ChangeShapes Go.WideShapes Go.ChangeAt Go.RowKit Go.IntWalk
set_option linter.unusedVariables false
set_option maxRecDepth 100000

/-- How much is left. -/
def wgF (mem : Bool) : JT → Int → Nat → Int
  | .nil, left, _ => left
  | .cons k _ _ _ s l m r, left, d => if left < 0 then left else
    wgF mem r (if d = 0 then -1 else wgF true m (wgF false l ((if mem then left - k.length else left) - 1 - s.length) (d - 1)) (d - 1)) d
def wgV (v : Jv) (left : Int) (d : Nat) : Int := if d = 0 then -1 else wgF true v.m (wgF false v.l (left - 1 - v.s.length) (d - 1)) (d - 1)
theorem wgF_neg (mem : Bool) (t : JT) (left : Int) (d : Nat) (h : left < 0) : wgF mem t left d = left := by
  cases t with
  | nil => rfl
  | cons => simp [wgF, h]
theorem wgF_step (mem : Bool) (t : JT) (i : Nat) (left : Int) (d : Nat) (hi : i < t.ext) (h : 0 ≤ left) :
    wgF mem (t.fall i) left d = wgF mem (t.fall (i + 1)) (wgV (t.fall i).val (if mem then left - (t.fall i).key.length else left) d) d := by
  conv => lhs; rw [t.fall_of_lt i hi]
  unfold JT.one
  rw [wgF, if_neg (by omega)]; rfl
theorem wgF_end (mem : Bool) (t : JT) (left : Int) (d : Nat) : wgF mem (t.fall t.ext) left d = left := by
  rw [JT.fall_all t _ (Nat.le_refl _)]; rfl
/-- That number, which isn't great. -/
def WgtPost (v : Jv) (left : Int) (d : Nat) (w : World) (e : Ending) (w' : World) : Prop := (-1125899906842624 ≤ wgV v left d ∧ wgV v left d ≤ 1048576 ∧ e = .returned (.int .i64 (wgV v left d))) ∧ Below w.heap.size w w'
def WStep (R : Int) (mem : Bool) (t : JT) (k : Nat) (z : Int) (d : Nat) : Prop := R = wgF mem (t.fall k) z d
def WgtC (N : Nat) : Prop := ∀ (jv : Jv) (left dI : Int) (deep : Nat) (w : World) (A B : Option Addr) (nl cl nm cm : Nat), jv.bulk ≤ N → dI = (deep : Int) → deep ≤ 1000 → -281474976710656 ≤ left → left ≤ 1048576 →
  Room nl cl jv.l.ext → Room nm cm jv.m.ext → JSl (· < w.heap.size) w false A jv.l → JSl (· < w.heap.size) w true B jv.m → Fit jv.kd jv.n jv.s →
  Calls Tryd.prog 13 #[.agg #[.int .i64 jv.kd, .bool jv.is, .int .i64 jv.n, .string ⟨jv.s.toArray⟩, .slice A nl cl, .slice B nm cm], .int .i64 left, .int .i64 dI] w (WgtPost jv left deep w)
set_option maxHeartbeats 8000000 in
theorem weigh_calls : ∀ N, WgtC N := by
  intro N
  induction N with
  | zero => intro jv left dI deep w A B nl cl nm cm h; unfold Jv.bulk at h; omega
  | succ N IH =>
    intro jv left dI deep w A B nl cl nm cm hN hdI hd hl0 hl1 rl rm sl sm hf
    subst hdI
    have hlN : jv.l.bulk ≤ N := by unfold Jv.bulk at hN; omega
    have hmN : jv.m.bulk ≤ N := by unfold Jv.bulk at hN; omega
    obtain ⟨kd, is, n, s, l, m⟩ := jv
    dsimp only at *
    obtain ⟨_, _, hsl⟩ := hf
    have hbw : Below w.heap.size w (w.alloc (.cells #[.int .i64 kd, .bool is, .int .i64 n, .string ⟨s.toArray⟩, .slice A nl cl, .slice B nm cm] 25)) := (Below.refl _ _).alloc (Nat.le_refl _) _
    obtain ⟨sn, hsn⟩ : ∃ sn, s.length = sn := ⟨_, rfl⟩
    have hwa : IntKind.i64.wrap (left - 1) = left - 1 := IntWalk.i64_in _ (by omega)
    have hwb : IntKind.i64.wrap (left - 1 - (sn : Int)) = left - 1 - (sn : Int) := IntWalk.i64_in _ (by omega)
    have hss : (⟨s.toArray⟩ : ByteArray).size = sn := hsn
    rw [hsn] at hsl
    clear hsn
    cases deep with
    | zero =>
      go_enter Tryd.func13, Tryd.ntmps13
      go_wp2_with fail
      go_ret
      exact ⟨⟨by simp [wgV], by simp [wgV], by simp [wgV]⟩, hbw⟩
    | succ deep =>
      obtain ⟨z0, hz0⟩ : ∃ z : Int, left - 1 - (sn : Int) = z := ⟨_, rfl⟩
      have hz1 : -422212465065990 ≤ z0 := by omega
      have hz2 : z0 ≤ 1048576 := by omega
      have hd0 : (((deep + 1 : Nat) : Int) == 0) = false := by rw [beq_eq_false_iff_ne]; omega
      go_enter Tryd.func13, Tryd.ntmps13
      have HRS := Lib.hid (And.intro sl sm)
      obtain ⟨rfl, hlc, hlm⟩ := rl
      obtain ⟨rfl, hmc, hmm⟩ := rm
      obtain ⟨ln, hln⟩ : ∃ x, l.ext = x := ⟨_, rfl⟩
      obtain ⟨mn, hmn⟩ : ∃ x, m.ext = x := ⟨_, rfl⟩
      have HLN := Lib.hid hln
      have HMN := Lib.hid hmn
      rw [hln] at hlc hlm ⊢
      rw [hmn] at hmc hmm ⊢
      rw [hln, hmn] at hbw
      have HB0 := Lib.hid hbw
      obtain ⟨R1, hR1⟩ : ∃ R1, wgF false l (left - 1 - (sn : Int)) deep = R1 := ⟨_, rfl⟩
      obtain ⟨R2, hR2⟩ : ∃ R2, wgF true m R1 deep = R2 := ⟨_, rfl⟩
      have HR1 : WStep R1 false l 0 (left - 1 - (sn : Int)) deep := by unfold WStep; rw [JT.fall_zero]; exact hR1.symm
      have HR2 : WStep R2 true m 0 R1 deep := by unfold WStep; rw [JT.fall_zero]; exact hR2.symm
      have HRV := Lib.hid (show wgV ⟨kd, is, n, s, l, m⟩ left (deep + 1) = R2 by unfold wgV; rw [if_neg (by omega)]; dsimp only; rw [show s.length = sn from hss, show deep + 1 - 1 = deep from rfl, hR1, hR2])
      clear hR1 hR2
      have BX0 := Lib.hid (Blk.new w [.int .i64 kd, .bool is, .int .i64 n, .string ⟨s.toArray⟩, .slice A ln cl, .slice B mn cm] 25)
      clear hln hmn sl sm hbw hz0 hwa
      go_wp2_with fail
      go_loopw [1, 7] (fun lv iv wr => ∃ (k : Nat) (z : Int), k ≤ ln ∧ iv = .int .i64 (k : Int) ∧ lv = .int .i64 z ∧ (-1125899906842624 ≤ z ∧ z ≤ 1048576) ∧ Hid (Below w.heap.size w wr) ∧ Hid (Blk wr w.heap.size 25 [.int .i64 kd, .bool is, .int .i64 n, .string ⟨s.toArray⟩, .slice A ln cl, .slice B mn cm]) ∧ WStep R1 false l k z deep) (fun _ iv _ => ln - (intOf iv).toNat)
      case atStart => exact ⟨0, _, Nat.zero_le _, rfl, rfl, ⟨by omega, by omega⟩, HB0, BX0, HR1⟩
      case round =>
        obtain ⟨k, z, hk, rfl, rfl, ⟨hza, hzb⟩, hW, hBk, hS⟩ := hrel
        have HS1 := Lib.hid hS
        clear hS
        clear HB0 BX0
        have d0 := hBk.out.cell (k := 0) rfl; have d1 := hBk.out.cell (k := 1) rfl; have d2 := hBk.out.cell (k := 2) rfl; have d3 := hBk.out.cell (k := 3) rfl; have d4 := hBk.out.cell (k := 4) rfl; have d5 := hBk.out.cell (k := 5) rfl
        by_cases hgo : k < ln ∧ 0 ≤ z
        · obtain ⟨hlt, hz⟩ := hgo
          obtain ⟨eb, eo, eA, enl, ecl, eB, enm, ecm, rfl, eP, ebl, e0, e1, e2, e3, e4, e5, r1, r2, s1, s2, hf⟩ := (HRS.out.1.up hW.out).el _ (by rw [HLN.out]; exact hlt)
          obtain ⟨eu, hev⟩ : ∃ eu, (l.fall k).val = eu := ⟨_, rfl⟩
          have hbe : eu.bulk ≤ N := by rw [← hev]; exact Nat.le_trans (JT.bulk_val l k (by rw [HLN.out]; exact hlt)) hlN
          have HS2 := Lib.hid (show WStep R1 false l (k + 1) (wgV eu z deep) deep by unfold WStep; rw [show R1 = _ from HS1.out, wgF_step false l k z deep (by rw [HLN.out]; exact hlt) hz, hev]; rfl)
          rw [hev] at e0 e1 e2 e3 r1 r2 s1 s2 hf
          have HV := IH eu z ((deep : Int)) deep wr eA eB enl ecl enm ecm hbe rfl (by omega) (by omega) (by omega) r1 r2 s1 s2 hf
          clear hev r1 r2 s1 s2 hf
          go_wp2_with fail
          refine HV.mono ?_
          rintro e w3 ⟨⟨hz3, hz4, rfl⟩, b3⟩
          obtain ⟨z3, hz5⟩ : ∃ z3, wgV eu z deep = z3 := ⟨_, rfl⟩
          have HS3 := HS2.out
          rw [hz5] at hz3 hz4 HS3 ⊢
          clear hz5
          have HW3 := Lib.hid (hW.out.then_ b3)
          have HB3 := Lib.hid (hBk.out.later b3)
          clear b3 HV e0 e1 e2 e3 e4 e5
          go_wp2_with fail
          go_roundw
          case rel => exact ⟨k + 1, z3, by omega, by go_num, rfl, ⟨hz3, hz4⟩, HW3, HB3, HS3⟩
          case measure => simp [intOf]; omega
        · have hca : (k < ln ∧ z < 0) ∨ k = ln := by omega
          have hzR : R1 = z := by
            rw [show R1 = _ from HS1.out]
            rcases hca with ⟨_, h⟩ | h
            · exact wgF_neg _ _ _ _ h
            · rw [h, ← HLN.out]; exact wgF_end _ _ _ _
          have HZR := Lib.hid hzR
          clear hgo hzR
          rcases hca with ⟨hlt, hz⟩ | hkl
          all_goals
            first | (have hkf : ¬ k < ln := by omega) | skip
            try clear hkl
            go_wp2_with fail
            clear d0 d1 d2 d3 d4 d5
            obtain ⟨wo, hwo⟩ : ∃ wo : World, wo = wr := ⟨_, rfl⟩
            rw [← hwo] at hW hBk ⊢
            clear hwo
            go_loopw [1, 8] (fun lv iv wr => ∃ (k : Nat) (z : Int), k ≤ mn ∧ iv = .int .i64 (k : Int) ∧ lv = .int .i64 z ∧ (-1125899906842624 ≤ z ∧ z ≤ 1048576) ∧ Hid (Below w.heap.size w wr) ∧ Hid (Blk wr w.heap.size 25 [.int .i64 kd, .bool is, .int .i64 n, .string ⟨s.toArray⟩, .slice A ln cl, .slice B mn cm]) ∧ WStep R2 true m k z deep) (fun _ iv _ => mn - (intOf iv).toNat)
            case atStart => exact ⟨0, z, Nat.zero_le _, rfl, rfl, ⟨hza, hzb⟩, hW, hBk, by have := HR2; rw [HZR.out] at this; exact this⟩
            case round =>
              obtain ⟨q, y, hq, rfl, rfl, ⟨hya, hyb⟩, hW, hBk, hS⟩ := hrel
              have HS5 := Lib.hid hS
              clear hS
              have d0 := hBk.out.cell (k := 0) rfl; have d1 := hBk.out.cell (k := 1) rfl; have d2 := hBk.out.cell (k := 2) rfl; have d3 := hBk.out.cell (k := 3) rfl; have d4 := hBk.out.cell (k := 4) rfl; have d5 := hBk.out.cell (k := 5) rfl
              by_cases hgo : q < mn ∧ 0 ≤ y
              · obtain ⟨hqt, hy⟩ := hgo
                obtain ⟨eb, eo, eA, enl, ecl, eB, enm, ecm, rfl, eP, ebl, eK, eKl, e0, e1, e2, e3, e4, e5, r1, r2, s1, s2, hf⟩ := (HRS.out.2.up hW.out).mb _ (by rw [HMN.out]; exact hqt)
                obtain ⟨eu, hev⟩ : ∃ eu, (m.fall q).val = eu := ⟨_, rfl⟩
                obtain ⟨ek, hek⟩ : ∃ ek, (m.fall q).key = ek := ⟨_, rfl⟩
                have hbe : eu.bulk ≤ N := by rw [← hev]; exact Nat.le_trans (JT.bulk_val m q (by rw [HMN.out]; exact hqt)) hmN
                rw [hev] at e0 e1 e2 e3 r1 r2 s1 s2 hf
                rw [hek] at eK eKl
                obtain ⟨en, hen⟩ : ∃ en, ek.length = en := ⟨_, rfl⟩
                have hes : (⟨ek.toArray⟩ : ByteArray).size = en := hen
                rw [hen] at eKl
                have HS6 := Lib.hid (show WStep R2 true m (q + 1) (wgV eu (y - (en : Int)) deep) deep by unfold WStep; rw [show R2 = _ from HS5.out, wgF_step true m q y deep (by rw [HMN.out]; exact hqt) hy, hev, hek, hen]; rfl)
                have hwy : IntKind.i64.wrap (y - (en : Int)) = y - (en : Int) := IntWalk.i64_in _ (by omega)
                have hwd : IntKind.i64.wrap (((deep + 1 : Nat) : Int) - 1) = (deep : Int) := by rw [IntWalk.i64_in _ (by omega)]; omega
                have hbd : Below wr.heap.size wr wr.drew := (Below.refl _ _).drew
                have HV := IH eu (y - (en : Int)) ((deep : Int)) deep wr.drew eA eB enl ecl enm ecm hbe rfl (by omega) (by omega) (by omega) r1 r2 (s1.up hbd) (s2.up hbd) hf
                clear hbd hev r1 r2 s1 s2 hf hek hen
                go_wp2_with fail
                go_still_tail 17, (by kernel_rfl)
                change wpList _ _ _ _ _ wr.drew
                go_wp2_with fail
                refine HV.mono ?_
                rintro e w3 ⟨⟨hz3, hz4, rfl⟩, b3⟩
                obtain ⟨z3, hz5⟩ : ∃ z3, wgV eu (y - (en : Int)) deep = z3 := ⟨_, rfl⟩
                have HS3 := HS6.out
                rw [hz5] at hz3 hz4 HS3 ⊢
                clear hz5
                have HW3 := Lib.hid ((hW.out.drew).then_ b3)
                have HB3 := Lib.hid ((hBk.out.drew).later b3)
                clear b3 HV eK e0 e1 e2 e3 e4 e5 hwy hwd
                go_wp2_with fail
                go_roundw
                case rel => exact ⟨q + 1, z3, by omega, by go_num, rfl, ⟨hz3, hz4⟩, HW3, HB3, HS3⟩
                case measure => simp [intOf]; omega
              · have hca2 : (q < mn ∧ y < 0) ∨ q = mn := by omega
                have HYR := Lib.hid (show R2 = y by
                  rw [show R2 = _ from HS5.out]
                  rcases hca2 with ⟨_, h⟩ | h
                  · exact wgF_neg _ _ _ _ h
                  · rw [h, ← HMN.out]; exact wgF_end _ _ _ _)
                clear hgo
                rcases hca2 with ⟨hqt, hy⟩ | hql
                all_goals
                  first | (have hqf : ¬ q < mn := by omega) | skip
                  try clear hql
                  go_wp2_with fail
                  go_ret
                  unfold WgtPost
                  rw [HRV.out, HYR.out]
                  exact ⟨⟨hya, hyb, rfl⟩, hW.out⟩
/-- Some truth. -/
def GrtPost (w : World) (e : Ending) (w' : World) : Prop := (∃ g : Bool, e = .returned (.bool g)) ∧ Below w.heap.size w w'
end Go.Proofs.YtonpkbiplcbodaaDoor
namespace Go.Proofs.YtonpkbiplcbodaaDoor
open Go.ChangeShapes Go.WideShapes Go.ChangeAt Go.RowKit
set_option linter.unusedVariables false

theorem wg_bulk : ∀ (t : JT) (mem : Bool) (left : Int) (d : Nat), 0 ≤ wgF mem t left d → wgF mem t left d + t.bulk ≤ left
  | .nil, mem, left, d, h => by simp [wgF, JT.bulk]
  | .cons k kd is n s l m r, mem, left, d, h => by
    rw [wgF] at h ⊢
    by_cases h0 : left < 0
    · rw [if_pos h0] at h; omega
    · rw [if_neg h0] at h ⊢
      obtain ⟨y, hy⟩ : ∃ y, (if mem then left - k.length else left) - 1 - (s.length : Int) = y := ⟨_, rfl⟩
      rw [hy] at h ⊢
      have hyl : y ≤ left - 1 := by rw [← hy]; split <;> omega
      by_cases hd : d = 0
      · rw [if_pos hd] at h ⊢
        have := wg_bulk r mem _ _ h
        omega
      · rw [if_neg hd] at h ⊢
        have h1 := wg_bulk r mem _ _ h
        obtain ⟨x, hx⟩ : ∃ x, wgF true m (wgF false l y (d - 1)) (d - 1) = x := ⟨_, rfl⟩
        rw [hx] at h h1 ⊢
        have h2 := wg_bulk m true _ (d - 1) (by rw [hx]; omega)
        rw [hx] at h2
        have h3 := wg_bulk l false y (d - 1) (by omega)
        simp only [JT.bulk]
        omega
theorem wgV_bulk {v : Jv} {n : Int} {d : Nat} (hd : 0 < d) (h : 0 ≤ wgV v n d) : (v.bulk : Int) ≤ n ∧ (v.s.length : Int) ≤ n := by
  unfold wgV at h
  rw [if_neg (by omega)] at h
  have h2 := wg_bulk v.m true _ _ h
  have h3 := wg_bulk v.l false (n - 1 - (v.s.length : Int)) (d - 1) (by omega)
  unfold Jv.bulk
  omega
end Go.Proofs.YtonpkbiplcbodaaDoor
