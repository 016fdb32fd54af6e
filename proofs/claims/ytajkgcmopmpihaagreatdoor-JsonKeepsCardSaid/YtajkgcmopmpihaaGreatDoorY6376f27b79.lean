/- Texts put together: JvG JqP JwW JkR WgB JqC JqE JqL. -/
import Derived.Test.YtajkgcmopmpihaaGreatDoorYcc81974a9e
import Derived.StillTailTactics
import Derived.Test.YtajkgcmopmpihaaGreatDoorYa5abd111d9
import Derived.Lib.Hide
import Derived.WalkLawsBesides
import Derived.Test.YtajkgcmopmpihaaGreatDoorY2d7a97ebf1
import Derived.Deep.Cut
import Derived.Test.YtajkgcmopmpihaaGreatDoorY565b1dc0b7
import Derived.Test.YtajkgcmopmpihaaGreatDoorY71e62596e8
import Derived.Test.YtajkgcmopmpihaaGreatDoorYa45e253fbd
import Derived.Stop.LaidErr
import Derived.Test.YtajkgcmopmpihaaGreatDoorYe1f5adcbe4
import Derived.Test.YtajkgcmopmpihaaGreatDoorYbc60d53a70
namespace Go.Proofs.YtajkgcmopmpihaaGreatDoor
open Go.ChangeShapes Go.WideShapes Go.ChangeAt Go.RowKit Go.IntWalk
set_option linter.unusedVariables false
set_option maxRecDepth 100000
def wgF (mem : Bool) : JT → Int → Nat → Int
  | .nil, left, _ => left
  | .cons k _ _ _ s l m r, left, d => if left < 0 then left else
    wgF mem r (if d = 0 then -1 else wgF true m (wgF false l ((if mem then left - k.length else left) - 1 - s.length) (d - 1)) (d - 1)) d
def wgV (v : Jv) (left : Int) (d : Nat) : Int := if d = 0 then -1 else wgF true v.m (wgF false v.l (left - 1 - v.s.length) (d - 1)) (d - 1)
theorem wgF_neg (mem : Bool) (t : JT) (left : Int) (d : Nat) (h : left < 0) : wgF mem t left d = left := by
  cases t with
  | nil => rfl
  | cons => simp [wgF, h]
theorem wgF_step (mem : Bool) (t : JT) (i : Nat) (left : Int) (d : Nat) (hi : i < t.ext) (h : 0 ≤ left) :
    wgF mem (t.fall i) left d = wgF mem (t.fall (i + 1)) (wgV (t.fall i).val (if mem then left - (t.fall i).key.length else left) d) d := by
  conv => lhs; rw [t.fall_of_lt i hi]
  unfold JT.one
  rw [wgF, if_neg (by omega)]; rfl
theorem wgF_end (mem : Bool) (t : JT) (left : Int) (d : Nat) : wgF mem (t.fall t.ext) left d = left := by
  rw [JT.fall_all t _ (Nat.le_refl _)]; rfl
def WgtPost (v : Jv) (left : Int) (d : Nat) (w : World) (e : Ending) (w' : World) : Prop := (-1125899906842624 ≤ wgV v left d ∧ wgV v left d ≤ 1048576 ∧ e = .returned (.int .i64 (wgV v left d))) ∧ Below w.heap.size w w'
def WStep (R : Int) (mem : Bool) (t : JT) (k : Nat) (z : Int) (d : Nat) : Prop := R = wgF mem (t.fall k) z d
def WgtC (N : Nat) : Prop := ∀ (jv : Jv) (left dI : Int) (deep : Nat) (w : World) (A B : Option Addr) (nl cl nm cm : Nat), jv.bulk ≤ N → dI = (deep : Int) → deep ≤ 1000 → -281474976710656 ≤ left → left ≤ 1048576 →
  Room nl cl jv.l.ext → Room nm cm jv.m.ext → JSl (· < w.heap.size) w false A jv.l → JSl (· < w.heap.size) w true B jv.m → Fit jv.kd jv.n jv.s →
  Calls Tryz.prog 30 #[.agg #[.int .i64 jv.kd, .bool jv.is, .int .i64 jv.n, .string ⟨jv.s.toArray⟩, .slice A nl cl, .slice B nm cm], .int .i64 left, .int .i64 dI] w (WgtPost jv left deep w)
set_option maxHeartbeats 8000000 in
theorem weigh_calls : ∀ N, WgtC N := by
  intro N
  induction N with
  | zero => intro jv left dI deep w A B nl cl nm cm h; unfold Jv.bulk at h; omega
  | succ N IH =>
    intro jv left dI deep w A B nl cl nm cm hN hdI hd hl0 hl1 rl rm sl sm hf
    subst hdI
    have hlN : jv.l.bulk ≤ N := by unfold Jv.bulk at hN; omega
    have hmN : jv.m.bulk ≤ N := by unfold Jv.bulk at hN; omega
    obtain ⟨kd, is, n, s, l, m⟩ := jv
    dsimp only at *
    obtain ⟨_, _, hsl⟩ := hf
    have hbw : Below w.heap.size w (w.alloc (.cells #[.int .i64 kd, .bool is, .int .i64 n, .string ⟨s.toArray⟩, .slice A nl cl, .slice B nm cm] 25)) := (Below.refl _ _).alloc (Nat.le_refl _) _
    obtain ⟨sn, hsn⟩ : ∃ sn, s.length = sn := ⟨_, rfl⟩
    have hwa : IntKind.i64.wrap (left - 1) = left - 1 := IntWalk.i64_in _ (by omega)
    have hwb : IntKind.i64.wrap (left - 1 - (sn : Int)) = left - 1 - (sn : Int) := IntWalk.i64_in _ (by omega)
    have hss : (⟨s.toArray⟩ : ByteArray).size = sn := hsn
    rw [hsn] at hsl
    clear hsn
    cases deep with
    | zero =>
      go_enter Tryz.func30, Tryz.ntmps30
      go_wp2_with fail
      go_ret
      exact ⟨⟨by simp [wgV], by simp [wgV], by simp [wgV]⟩, hbw⟩
    | succ deep =>
      obtain ⟨z0, hz0⟩ : ∃ z : Int, left - 1 - (sn : Int) = z := ⟨_, rfl⟩
      have hz1 : -422212465065990 ≤ z0 := by omega
      have hz2 : z0 ≤ 1048576 := by omega
      have hd0 : (((deep + 1 : Nat) : Int) == 0) = false := by rw [beq_eq_false_iff_ne]; omega
      go_enter Tryz.func30, Tryz.ntmps30
      have HRS := Lib.hid (And.intro sl sm)
      obtain ⟨rfl, hlc, hlm⟩ := rl
      obtain ⟨rfl, hmc, hmm⟩ := rm
      obtain ⟨ln, hln⟩ : ∃ x, l.ext = x := ⟨_, rfl⟩
      obtain ⟨mn, hmn⟩ : ∃ x, m.ext = x := ⟨_, rfl⟩
      have HLN := Lib.hid hln
      have HMN := Lib.hid hmn
      rw [hln] at hlc hlm ⊢
      rw [hmn] at hmc hmm ⊢
      rw [hln, hmn] at hbw
      have HB0 := Lib.hid hbw
      obtain ⟨R1, hR1⟩ : ∃ R1, wgF false l (left - 1 - (sn : Int)) deep = R1 := ⟨_, rfl⟩
      obtain ⟨R2, hR2⟩ : ∃ R2, wgF true m R1 deep = R2 := ⟨_, rfl⟩
      have HR1 : WStep R1 false l 0 (left - 1 - (sn : Int)) deep := by unfold WStep; rw [JT.fall_zero]; exact hR1.symm
      have HR2 : WStep R2 true m 0 R1 deep := by unfold WStep; rw [JT.fall_zero]; exact hR2.symm
      have HRV := Lib.hid (show wgV ⟨kd, is, n, s, l, m⟩ left (deep + 1) = R2 by unfold wgV; rw [if_neg (by omega)]; dsimp only; rw [show s.length = sn from hss, show deep + 1 - 1 = deep from rfl, hR1, hR2])
      clear hR1 hR2
      have BX0 := Lib.hid (Blk.new w [.int .i64 kd, .bool is, .int .i64 n, .string ⟨s.toArray⟩, .slice A ln cl, .slice B mn cm] 25)
      clear hln hmn sl sm hbw hz0 hwa
      go_wp2_with fail
      go_loopw [1, 7] (fun lv iv wr => ∃ (k : Nat) (z : Int), k ≤ ln ∧ iv = .int .i64 (k : Int) ∧ lv = .int .i64 z ∧ (-1125899906842624 ≤ z ∧ z ≤ 1048576) ∧ Hid (Below w.heap.size w wr) ∧ Hid (Blk wr w.heap.size 25 [.int .i64 kd, .bool is, .int .i64 n, .string ⟨s.toArray⟩, .slice A ln cl, .slice B mn cm]) ∧ WStep R1 false l k z deep) (fun _ iv _ => ln - (intOf iv).toNat)
      case atStart => exact ⟨0, _, Nat.zero_le _, rfl, rfl, ⟨by omega, by omega⟩, HB0, BX0, HR1⟩
      case round =>
        obtain ⟨k, z, hk, rfl, rfl, ⟨hza, hzb⟩, hW, hBk, hS⟩ := hrel
        have HS1 := Lib.hid hS
        clear hS
        clear HB0 BX0
        have d0 := hBk.out.cell (k := 0) rfl; have d1 := hBk.out.cell (k := 1) rfl; have d2 := hBk.out.cell (k := 2) rfl; have d3 := hBk.out.cell (k := 3) rfl; have d4 := hBk.out.cell (k := 4) rfl; have d5 := hBk.out.cell (k := 5) rfl
        by_cases hgo : k < ln ∧ 0 ≤ z
        · obtain ⟨hlt, hz⟩ := hgo
          obtain ⟨eb, eo, eA, enl, ecl, eB, enm, ecm, rfl, eP, ebl, e0, e1, e2, e3, e4, e5, r1, r2, s1, s2, hf⟩ := (HRS.out.1.up hW.out).el _ (by rw [HLN.out]; exact hlt)
          obtain ⟨eu, hev⟩ : ∃ eu, (l.fall k).val = eu := ⟨_, rfl⟩
          have hbe : eu.bulk ≤ N := by rw [← hev]; exact Nat.le_trans (JT.bulk_val l k (by rw [HLN.out]; exact hlt)) hlN
          have HS2 := Lib.hid (show WStep R1 false l (k + 1) (wgV eu z deep) deep by unfold WStep; rw [show R1 = _ from HS1.out, wgF_step false l k z deep (by rw [HLN.out]; exact hlt) hz, hev]; rfl)
          rw [hev] at e0 e1 e2 e3 r1 r2 s1 s2 hf
          have HV := IH eu z ((deep : Int)) deep wr eA eB enl ecl enm ecm hbe rfl (by omega) (by omega) (by omega) r1 r2 s1 s2 hf
          clear hev r1 r2 s1 s2 hf
          go_wp2_with fail
          refine HV.mono ?_
          rintro e w3 ⟨⟨hz3, hz4, rfl⟩, b3⟩
          obtain ⟨z3, hz5⟩ : ∃ z3, wgV eu z deep = z3 := ⟨_, rfl⟩
          have HS3 := HS2.out
          rw [hz5] at hz3 hz4 HS3 ⊢
          clear hz5
          have HW3 := Lib.hid (hW.out.then_ b3)
          have HB3 := Lib.hid (hBk.out.later b3)
          clear b3 HV e0 e1 e2 e3 e4 e5
          go_wp2_with fail
          go_roundw
          case rel => exact ⟨k + 1, z3, by omega, by go_num, rfl, ⟨hz3, hz4⟩, HW3, HB3, HS3⟩
          case measure => simp [intOf]; omega
        · have hca : (k < ln ∧ z < 0) ∨ k = ln := by omega
          have hzR : R1 = z := by
            rw [show R1 = _ from HS1.out]
            rcases hca with ⟨_, h⟩ | h
            · exact wgF_neg _ _ _ _ h
            · rw [h, ← HLN.out]; exact wgF_end _ _ _ _
          have HZR := Lib.hid hzR
          clear hgo hzR
          rcases hca with ⟨hlt, hz⟩ | hkl
          all_goals
            first | (have hkf : ¬ k < ln := by omega) | skip
            try clear hkl
            go_wp2_with fail
            clear d0 d1 d2 d3 d4 d5
            obtain ⟨wo, hwo⟩ : ∃ wo : World, wo = wr := ⟨_, rfl⟩
            rw [← hwo] at hW hBk ⊢
            clear hwo
            go_loopw [1, 8] (fun lv iv wr => ∃ (k : Nat) (z : Int), k ≤ mn ∧ iv = .int .i64 (k : Int) ∧ lv = .int .i64 z ∧ (-1125899906842624 ≤ z ∧ z ≤ 1048576) ∧ Hid (Below w.heap.size w wr) ∧ Hid (Blk wr w.heap.size 25 [.int .i64 kd, .bool is, .int .i64 n, .string ⟨s.toArray⟩, .slice A ln cl, .slice B mn cm]) ∧ WStep R2 true m k z deep) (fun _ iv _ => mn - (intOf iv).toNat)
            case atStart => exact ⟨0, z, Nat.zero_le _, rfl, rfl, ⟨hza, hzb⟩, hW, hBk, by have := HR2; rw [HZR.out] at this; exact this⟩
            case round =>
              obtain ⟨q, y, hq, rfl, rfl, ⟨hya, hyb⟩, hW, hBk, hS⟩ := hrel
              have HS5 := Lib.hid hS
              clear hS
              have d0 := hBk.out.cell (k := 0) rfl; have d1 := hBk.out.cell (k := 1) rfl; have d2 := hBk.out.cell (k := 2) rfl; have d3 := hBk.out.cell (k := 3) rfl; have d4 := hBk.out.cell (k := 4) rfl; have d5 := hBk.out.cell (k := 5) rfl
              by_cases hgo : q < mn ∧ 0 ≤ y
              · obtain ⟨hqt, hy⟩ := hgo
                obtain ⟨eb, eo, eA, enl, ecl, eB, enm, ecm, rfl, eP, ebl, eK, eKl, e0, e1, e2, e3, e4, e5, r1, r2, s1, s2, hf⟩ := (HRS.out.2.up hW.out).mb _ (by rw [HMN.out]; exact hqt)
                obtain ⟨eu, hev⟩ : ∃ eu, (m.fall q).val = eu := ⟨_, rfl⟩
                obtain ⟨ek, hek⟩ : ∃ ek, (m.fall q).key = ek := ⟨_, rfl⟩
                have hbe : eu.bulk ≤ N := by rw [← hev]; exact Nat.le_trans (JT.bulk_val m q (by rw [HMN.out]; exact hqt)) hmN
                rw [hev] at e0 e1 e2 e3 r1 r2 s1 s2 hf
                rw [hek] at eK eKl
                obtain ⟨en, hen⟩ : ∃ en, ek.length = en := ⟨_, rfl⟩
                have hes : (⟨ek.toArray⟩ : ByteArray).size = en := hen
                rw [hen] at eKl
                have HS6 := Lib.hid (show WStep R2 true m (q + 1) (wgV eu (y - (en : Int)) deep) deep by unfold WStep; rw [show R2 = _ from HS5.out, wgF_step true m q y deep (by rw [HMN.out]; exact hqt) hy, hev, hek, hen]; rfl)
                have hwy : IntKind.i64.wrap (y - (en : Int)) = y - (en : Int) := IntWalk.i64_in _ (by omega)
                have hwd : IntKind.i64.wrap (((deep + 1 : Nat) : Int) - 1) = (deep : Int) := by rw [IntWalk.i64_in _ (by omega)]; omega
                have hbd : Below wr.heap.size wr wr.drew := (Below.refl _ _).drew
                have HV := IH eu (y - (en : Int)) ((deep : Int)) deep wr.drew eA eB enl ecl enm ecm hbe rfl (by omega) (by omega) (by omega) r1 r2 (s1.up hbd) (s2.up hbd) hf
                clear hbd hev r1 r2 s1 s2 hf hek hen
                go_wp2_with fail
                go_still_tail 17, (by kernel_rfl)
                change wpList _ _ _ _ _ wr.drew
                go_wp2_with fail
                refine HV.mono ?_
                rintro e w3 ⟨⟨hz3, hz4, rfl⟩, b3⟩
                obtain ⟨z3, hz5⟩ : ∃ z3, wgV eu (y - (en : Int)) deep = z3 := ⟨_, rfl⟩
                have HS3 := HS6.out
                rw [hz5] at hz3 hz4 HS3 ⊢
                clear hz5
                have HW3 := Lib.hid ((hW.out.drew).then_ b3)
                have HB3 := Lib.hid ((hBk.out.drew).later b3)
                clear b3 HV eK e0 e1 e2 e3 e4 e5 hwy hwd
                go_wp2_with fail
                go_roundw
                case rel => exact ⟨q + 1, z3, by omega, by go_num, rfl, ⟨hz3, hz4⟩, HW3, HB3, HS3⟩
                case measure => simp [intOf]; omega
              · have hca2 : (q < mn ∧ y < 0) ∨ q = mn := by omega
                have HYR := Lib.hid (show R2 = y by
                  rw [show R2 = _ from HS5.out]
                  rcases hca2 with ⟨_, h⟩ | h
                  · exact wgF_neg _ _ _ _ h
                  · rw [h, ← HMN.out]; exact wgF_end _ _ _ _)
                clear hgo
                rcases hca2 with ⟨hqt, hy⟩ | hql
                all_goals
                  first | (have hqf : ¬ q < mn := by omega) | skip
                  try clear hql
                  go_wp2_with fail
                  go_ret
                  unfold WgtPost
                  rw [HRV.out, HYR.out]
                  exact ⟨⟨hya, hyb, rfl⟩, hW.out⟩
end Go.Proofs.YtajkgcmopmpihaaGreatDoor
namespace Go.Proofs.YtajkgcmopmpihaaGreatDoor
open Go.ChangeShapes Go.WideShapes Go.ChangeAt Go.RowKit Go.IntWalk
set_option linter.unusedVariables false
set_option maxRecDepth 100000
section
variable {P : Program} {ops : Array Oper} {W0 : World} {Q : Act → Prop} {o : Oper} {rest : List Oper} {Rs : List (Value → Prop)} {a : Act}
theorem ls_cell (v : Value) (b off : Nat) (hc : W0.cell? ⟨b, off, none⟩ = some v) (hb : b < W0.heap.size) (hw : Region.wanted o (yielded ops a.tmps) = true)
    (h1 : ∀ W, W.cell? ⟨b, off, none⟩ = some v → (execOp a.eval o).run P W = .ok (.value v) W) (h2 : wpLs P ops (fun w' => Below W0.heap.size W0 w') Q rest Rs (a.put o.dst v)) :
    wpLs P ops (fun w' => Below W0.heap.size W0 w') Q (o :: rest) ((· = v) :: Rs) a :=
  ls_exact hw (fun W hW => by unfold lsAt; rw [h1 W ((hW.cell (p := ⟨b, off, none⟩) hb).trans hc)]; exact ⟨rfl, rfl⟩) h2
theorem ls_callb (x : Value) (f : FuncId) (args : Array Value) (hw : Region.wanted o (yielded ops a.tmps) = true) (he : ∀ W, (execOp a.eval o).run P W = .ok (.enter f args) W)
    (hc : ∀ W, Below W0.heap.size W0 W → Calls P f args W (fun e W' => e = .returned x ∧ Below W.heap.size W W')) (h2 : wpLs P ops (fun w' => Below W0.heap.size W0 w') Q rest Rs (a.put o.dst x)) :
    wpLs P ops (fun w' => Below W0.heap.size W0 w') Q (o :: rest) ((· = x) :: Rs) a :=
  ls_cons (w0 := W0) (Below.refl _ _) hw (fun W hW => by
    unfold lsAt
    rw [he]
    exact ⟨rfl, (hc W hW).mono fun e W' ⟨he, hb⟩ => ⟨x, he, rfl, hW.then_ hb⟩⟩) (fun v hv => by subst hv; exact h2)
end
theorem size_valF : (Tryz.prog.info? 25).map (·.size) = some 6 := by kernel_rfl
end Go.Proofs.YtajkgcmopmpihaaGreatDoor
namespace Go.Proofs.YtajkgcmopmpihaaGreatDoor
open Go.Lib
set_option linter.unusedVariables false
def JT.app : JT → JT → JT
  | .nil, u => u
  | .cons k kd is n s l m r, u => .cons k kd is n s l m (r.app u)
def SortK (ks : List (List UInt8)) : Prop := ks.Pairwise fun a b => compareBytes a b = -1
theorem cb_irr {a : List UInt8} (h : compareBytes a a = -1) : False := by rw [cb_self] at h; exact absurd h (by decide)
def lowJ (key : List UInt8) : JT → JT
  | .nil => .nil
  | .cons k kd is n s l m r => if compareBytes k key = -1 then .cons k kd is n s l m (lowJ key r) else lowJ key r
def highJ (key : List UInt8) : JT → JT
  | .nil => .nil
  | .cons k kd is n s l m r => if compareBytes key k = -1 then .cons k kd is n s l m (highJ key r) else highJ key r
def withJ (t : JT) (key : List UInt8) (v : Jv) : JT := (lowJ key t).app (JT.one key v (highJ key t))
theorem low_at (key : List UInt8) {t : JT} {i : Nat} (h : i < t.ext) : lowJ key (t.fall i) = if compareBytes (t.fall i).key key = -1 then JT.one (t.fall i).key (t.fall i).val (lowJ key (t.fall (i + 1))) else lowJ key (t.fall (i + 1)) := (congrArg (lowJ key) (t.fall_of_lt i h)).trans rfl
theorem high_at (key : List UInt8) {t : JT} {i : Nat} (h : i < t.ext) : highJ key (t.fall i) = if compareBytes key (t.fall i).key = -1 then JT.one (t.fall i).key (t.fall i).val (highJ key (t.fall (i + 1))) else highJ key (t.fall (i + 1)) := (congrArg (highJ key) (t.fall_of_lt i h)).trans rfl
theorem low_end (key : List UInt8) {t : JT} {i : Nat} (h : t.ext ≤ i) : lowJ key (t.fall i) = .nil := by rw [t.fall_all i h]; rfl
theorem high_end (key : List UInt8) {t : JT} {i : Nat} (h : t.ext ≤ i) : highJ key (t.fall i) = .nil := by rw [t.fall_all i h]; rfl
theorem fall_one {t : JT} {i : Nat} {k : List UInt8} {u : Jv} {r : JT} (h : t.fall i = JT.one k u r) : i < t.ext ∧ (t.fall i).key = k ∧ (t.fall i).val = u ∧ t.fall (i + 1) = r := by
  have h1 := JT.fall_ext t i
  rw [h] at h1
  have h2 : (r.ext + 1 : Nat) = t.ext - i := h1
  refine ⟨by omega, by rw [h]; rfl, by rw [h]; rfl, ?_⟩
  rw [JT.fall_succ, h]
  show r.fall 0 = r
  exact JT.fall_zero r
theorem keys_app : ∀ (a b : JT), (a.app b).keys = a.keys ++ b.keys
  | .nil, b => rfl
  | .cons k kd is n s l m r, b => by simp only [JT.app, JT.keys, keys_app r b, List.cons_append]
theorem keys_low (key : List UInt8) : ∀ t : JT, (lowJ key t).keys.Sublist t.keys ∧ ∀ x ∈ (lowJ key t).keys, compareBytes x key = -1
  | .nil => ⟨List.Sublist.refl _, fun x hx => by cases hx⟩
  | .cons k kd is n s l m r => by
    have ih := keys_low key r
    unfold lowJ
    by_cases h : compareBytes k key = -1
    · rw [if_pos h]
      refine ⟨ih.1.cons_cons _, fun x hx => ?_⟩
      rcases List.mem_cons.1 (show x ∈ k :: _ from hx) with rfl | hx
      · exact h
      · exact ih.2 x hx
    · rw [if_neg h]; exact ⟨ih.1.cons _, ih.2⟩
theorem keys_high (key : List UInt8) : ∀ t : JT, (highJ key t).keys.Sublist t.keys ∧ ∀ x ∈ (highJ key t).keys, compareBytes key x = -1
  | .nil => ⟨List.Sublist.refl _, fun x hx => by cases hx⟩
  | .cons k kd is n s l m r => by
    have ih := keys_high key r
    unfold highJ
    by_cases h : compareBytes key k = -1
    · rw [if_pos h]
      refine ⟨ih.1.cons_cons _, fun x hx => ?_⟩
      rcases List.mem_cons.1 (show x ∈ k :: _ from hx) with rfl | hx
      · exact h
      · exact ih.2 x hx
    · rw [if_neg h]; exact ⟨ih.1.cons _, ih.2⟩
theorem with_sort {t : JT} {key : List UInt8} {v : Jv} (h : SortK t.keys) : SortK (withJ t key v).keys := by
  unfold withJ SortK
  rw [keys_app]
  have h1 := keys_low key t
  have h2 := keys_high key t
  refine List.pairwise_append.2 ⟨h.sublist h1.1, List.pairwise_cons.2 ⟨fun x hx => h2.2 x hx, h.sublist h2.1⟩, fun a ha b hb => ?_⟩
  have hak := h1.2 a ha
  rcases List.mem_cons.1 (show b ∈ key :: _ from hb) with rfl | hb
  · exact hak
  · exact cb_trans hak (h2.2 b hb)
end Go.Proofs.YtajkgcmopmpihaaGreatDoor
namespace Go.Proofs.YtajkgcmopmpihaaGreatDoor
open Go.ChangeShapes Go.WideShapes Go.ChangeAt Go.RowKit Go.IntWalk
set_option linter.unusedVariables false
set_option maxRecDepth 100000
theorem up_sort : ∀ (t : JT), (∀ j, j + 1 < t.ext → Lib.compareBytes (t.fall j).key (t.fall (j + 1)).key = -1) → SortK t.keys
  | .nil, _ => List.Pairwise.nil
  | .cons k kd is n s l m r, h => by
    have ih := up_sort r (fun j hj => h (j + 1) (by simp only [JT.ext]; omega))
    refine List.pairwise_cons.2 ⟨?_, ih⟩
    cases r with
    | nil => intro x hx; cases hx
    | cons k2 kd2 is2 n2 s2 l2 m2 r2 =>
      have h0 : Lib.compareBytes k k2 = -1 := h 0 (by simp only [JT.ext]; omega)
      have h2 := List.pairwise_cons.1 (show List.Pairwise (fun a b => Lib.compareBytes a b = -1) (k2 :: r2.keys) from ih)
      intro x hx
      rcases List.mem_cons.1 (show x ∈ k2 :: r2.keys from hx) with rfl | hx
      · exact h0
      · exact cb_trans h0 (h2.1 x hx)
theorem sort_rise {t : JT} (h : SortK t.keys) : Rise (slts t) := by
  unfold Rise slts
  rw [List.pairwise_map]
  unfold SortK at h
  exact h.imp fun {a b} h => by
    show cmpP (keyP a) (keyP b) = -1
    rw [cmpP_key]; exact h
def RisP (v : Jv) (e : Ending) : Prop := ∃ r : Bool, e = .returned (.bool r) ∧ (r = true → Rise (slts v.m))
def Up9 (t : JT) (k : Nat) : Prop := ∀ j, j < k → j + 1 < t.ext → Lib.compareBytes (t.fall j).key (t.fall (j + 1)).key = -1
set_option maxHeartbeats 8000000 in
theorem rises9_calls (v : Jv) (A B : Option Addr) (nl cl nm cm : Nat) (w : World) (hv : VOk w v A B nl cl nm cm) :
    Calls Tryz.prog 17 #[.agg #[.int .i64 v.kd, .bool v.is, .int .i64 v.n, .string ⟨v.s.toArray⟩, .slice A nl cl, .slice B nm cm]] w fun e w' => RisP v e ∧ Below w.heap.size w w' := by
  have hbw : Below w.heap.size w (w.alloc (.cells #[.int .i64 v.kd, .bool v.is, .int .i64 v.n, .string ⟨v.s.toArray⟩, .slice A nl cl, .slice B nm cm] 25)) := (Below.refl _ _).alloc (Nat.le_refl _) _
  have H0 := Lib.hid (And.intro hbw (Blk.new w [.int .i64 v.kd, .bool v.is, .int .i64 v.n, .string ⟨v.s.toArray⟩, .slice A nl cl, .slice B nm cm] 25))
  have HS := Lib.hid hv.2.2.2.1
  have HN := Lib.hid (show nm = v.m.ext from hv.2.1.1)
  have hn6 : nm ≤ 140737488355328 := hv.2.1.2.2
  have hnc : nm ≤ cm := hv.2.1.2.1
  clear hbw hv
  go_enter Tryz.func17, Tryz.ntmps17
  go_upto_region 1 with fail
  refine wp_gen (fun W => Below w.heap.size w W ∧ Blk W w.heap.size 25 [.int .i64 v.kd, .bool v.is, .int .i64 v.n, .string ⟨v.s.toArray⟩, .slice A nl cl, .slice B nm cm]) H0.out ?_
  clear H0
  rintro W0 h0
  have H0 := Lib.hid h0
  have d5 := h0.2.cell (k := 5) rfl
  clear h0
  go_wp2_with fail
  go_loopw [3] (fun iv wr => ∃ j : Nat, iv = .int .i64 ((j : Int) + 1) ∧ j ≤ nm ∧ Hid (Below w.heap.size w wr ∧ Blk wr w.heap.size 25 [.int .i64 v.kd, .bool v.is, .int .i64 v.n, .string ⟨v.s.toArray⟩, .slice A nl cl, .slice B nm cm]) ∧ Hid (Up9 v.m j)) (fun iv _ => nm + 2 - (intOf iv).toNat)
  case atStart => exact ⟨0, rfl, Nat.zero_le _, H0, Lib.hid (fun j h => absurd h (Nat.not_lt_zero _))⟩
  case round =>
    obtain ⟨j, rfl, hj, hH, hU⟩ := hrel
    clear d5 H0
    have H0 := hH
    have d5 := hH.out.2.cell (k := 5) rfl
    clear hH
    by_cases hlt : j + 1 < nm
    · have g1 : (j : Int) + 1 < (nm : Int) := by omega
      have hx1 : j < v.m.ext := by rw [← HN.out]; omega
      have hx2 : j + 1 < v.m.ext := by rw [← HN.out]; omega
      obtain ⟨b0, o0, _, _, _, _, _, _, rfl, _, hb0, k1, _⟩ := ((HS.out.blw H0.out.1).mb (i := j) _ hx1)
      obtain ⟨b2, o2, _, _, _, _, _, _, e2, _, hb2, k2, _⟩ := ((HS.out.blw H0.out.1).mb (i := j + 1) _ hx2)
      injection e2 with e2
      injection e2 with e2 e3
      subst e2 e3
      obtain ⟨ka, hka⟩ : ∃ ka, (v.m.fall j).key = ka := ⟨_, rfl⟩
      obtain ⟨kb, hkb⟩ : ∃ kb, (v.m.fall (j + 1)).key = kb := ⟨_, rfl⟩
      rw [hka] at k1
      rw [hkb] at k2
      have HK := Lib.hid (And.intro hka hkb)
      have hw0 : IntKind.i64.wrap ((j : Int) + 1 - 1) = (j : Int) := by rw [IntWalk.i64_in _ (by omega)]; omega
      have hw1 : IntKind.i64.wrap ((j : Int) + 1 + 1) = (j : Int) + 1 + 1 := IntWalk.i64_in _ (by omega)
      have hjn : j < nm := by omega
      have htn : ((j : Int) + 1).toNat = j + 1 := by omega
      clear hka hkb hx1 hx2 hlt
      by_cases hq : Lib.compareBytes ka kb = -1
      · have q1 : Op.bytesLess ka kb = true := by rw [bl_cb]; exact decide_eq_true hq
        have HU2 := Lib.hid (show Up9 v.m (j + 1) from fun i hi hi2 => by
          rcases Nat.lt_succ_iff_lt_or_eq.1 hi with h | rfl
          · exact hU.out i h hi2
          · rw [HK.out.1, HK.out.2]; exact hq)
        clear hq
        go_wp2_with fail
        go_quiet (fail)
        go_wp2_with fail
        go_roundw
        case rel => exact ⟨j + 1, by push_cast; rfl, by omega, Lib.hid ⟨H0.out.1.drewN _, H0.out.2.drewN _⟩, HU2⟩
        case measure => simp [intOf]; omega
      · have q1 : Op.bytesLess ka kb = false := by rw [bl_cb]; exact decide_eq_false hq
        clear hq
        go_wp2_with fail
        go_quiet (fail)
        go_wp2_with fail
        go_ret
        exact ⟨⟨false, rfl, fun h => absurd h (by decide)⟩, H0.out.1.drewN _⟩
    · have g1 : ¬ (j : Int) + 1 < (nm : Int) := by omega
      have HR := Lib.hid (show Rise (slts v.m) from sort_rise (up_sort v.m (fun i hi => hU.out i (by have := HN.out; omega) hi)))
      clear hlt
      go_wp2_with fail
      go_ret
      exact ⟨⟨true, rfl, fun _ => HR.out⟩, H0.out.1⟩
end Go.Proofs.YtajkgcmopmpihaaGreatDoor
namespace Go.Proofs.YtajkgcmopmpihaaGreatDoor
open Go.ChangeShapes Go.WideShapes Go.ChangeAt Go.RowKit
set_option linter.unusedVariables false
theorem wg_bulk : ∀ (t : JT) (mem : Bool) (left : Int) (d : Nat), 0 ≤ wgF mem t left d → wgF mem t left d + t.bulk ≤ left
  | .nil, mem, left, d, h => by simp [wgF, JT.bulk]
  | .cons k kd is n s l m r, mem, left, d, h => by
    rw [wgF] at h ⊢
    by_cases h0 : left < 0
    · rw [if_pos h0] at h; omega
    · rw [if_neg h0] at h ⊢
      obtain ⟨y, hy⟩ : ∃ y, (if mem then left - k.length else left) - 1 - (s.length : Int) = y := ⟨_, rfl⟩
      rw [hy] at h ⊢
      have hyl : y ≤ left - 1 := by rw [← hy]; split <;> omega
      by_cases hd : d = 0
      · rw [if_pos hd] at h ⊢
        have := wg_bulk r mem _ _ h
        omega
      · rw [if_neg hd] at h ⊢
        have h1 := wg_bulk r mem _ _ h
        obtain ⟨x, hx⟩ : ∃ x, wgF true m (wgF false l y (d - 1)) (d - 1) = x := ⟨_, rfl⟩
        rw [hx] at h h1 ⊢
        have h2 := wg_bulk m true _ (d - 1) (by rw [hx]; omega)
        rw [hx] at h2
        have h3 := wg_bulk l false y (d - 1) (by omega)
        simp only [JT.bulk]
        omega
theorem wgV_bulk {v : Jv} {n : Int} {d : Nat} (hd : 0 < d) (h : 0 ≤ wgV v n d) : (v.bulk : Int) ≤ n ∧ (v.s.length : Int) ≤ n := by
  unfold wgV at h
  rw [if_neg (by omega)] at h
  have h2 := wg_bulk v.m true _ _ h
  have h3 := wg_bulk v.l false (n - 1 - (v.s.length : Int)) (d - 1) (by omega)
  unfold Jv.bulk
  omega
end Go.Proofs.YtajkgcmopmpihaaGreatDoor
namespace Go.Proofs.YtajkgcmopmpihaaGreatDoor
open Go.ChangeShapes Go.WideShapes Go.ChangeAt Go.RowKit Go.IntWalk
set_option linter.unusedVariables false
set_option maxRecDepth 100000
theorem ErrC.later {w w' : World} (h : ErrC w) (hb : Below w.heap.size w w') : ErrC w' := h.below hb h.1
theorem parse_at {s : List UInt8} {v : Jv} {x : Int} (w : World) (hp : parF s = (v, x)) (hE : ErrC w) (hl : s.length ≤ 140737488355328) : Calls Tryz.prog 8 #[.string ⟨s.toArray⟩] w fun e w' =>
    ∃ A B nl cl nm cm, e = .returned (.tuple #[.agg #[.int .i64 v.kd, .bool v.is, .int .i64 v.n, .string ⟨v.s.toArray⟩, .slice A nl cl, .slice B nm cm], .int .i64 x]) ∧ VOk w' v A B nl cl nm cm ∧ VPar (fun b => w.heap.size ≤ b ∧ b < w'.heap.size) w' v A B nl cl nm cm ∧ Below w.heap.size w w' := by
  refine (parse_calls s w hE hl).mono ?_
  rintro e w' ⟨A, B, nl, cl, nm, cm, rfl, hv, hb, _⟩
  rw [hp] at hv ⊢
  exact ⟨A, B, nl, cl, nm, cm, rfl, VPar.ok hv (fun b hb => hb.2), hv, hb⟩
def TabP (w : World) : Prop := TabJ w ∧ ErrC w
theorem TabP.below {w w' : World} (h : TabP w) (b : Below w.heap.size w w') : TabP w' := ⟨h.1.below b, h.2.later b⟩
end Go.Proofs.YtajkgcmopmpihaaGreatDoor
namespace Go.Proofs.YtajkgcmopmpihaaGreatDoor
open Go.ChangeShapes Go.WideShapes Go.ChangeAt Go.RowKit Go.IntWalk
set_option linter.unusedVariables false
set_option maxRecDepth 100000
def synD : DataW Unit := .iface "*errors.errorString" (.ptr (.agg [.lit (.string [105, 110, 118, 97, 108, 105, 100, 32, 115, 121, 110, 116, 97, 120])]))
def rngD : DataW Unit := .iface "*errors.errorString" (.ptr (.agg [.lit (.string [118, 97, 108, 117, 101, 32, 111, 117, 116, 32, 111, 102, 32, 114, 97, 110, 103, 101])]))
theorem gSyn : Tryz.prog.globalNamed "strconv.ErrSyntax" = some 1 := by kernel_rfl
theorem gSynT : (Tryz.prog.globals[1]?).map (·.type) = some 110 := by kernel_rfl
theorem gRng : Tryz.prog.globalNamed "strconv.ErrRange" = some 2 := by kernel_rfl
theorem gRngT : (Tryz.prog.globals[2]?).map (·.type) = some 110 := by kernel_rfl
theorem errCells : Tryz.prog.cellsOf 186 = 1 := by kernel_rfl
theorem strCells : Tryz.prog.cellsOf 9 = 1 := by kernel_rfl
theorem starErr : "*" ++ "errors.errorString" = "*errors.errorString" := by decide
theorem errRow (u : TypeId) (h : Tryz.prog.typeName? 3 u = some "*errors.errorString") : u = 184 :=
  typeName_ptr_named (nm := "errors.errorString") (by rw [starErr]; kernel_rfl) (by kernel_rfl) (by decide) u (by rw [starErr]; exact h)
theorem errC_of_laid {W : World} (h1 : laidMet Tryz.prog [("strconv.ErrSyntax", synD)] W) (h2 : laidMet Tryz.prog [("strconv.ErrRange", rngD)] W) : ErrC W := by
  obtain ⟨a1, s1, v1, -, -, -⟩ := laid_sentinel h1 gSyn gSynT Tryz.underlying110 errRow Tryz.underlying184 Tryz.underlying186 rfl rfl Tryz.underlying9 errCells strCells
  obtain ⟨a2, s2, v2, -, -, -⟩ := laid_sentinel h2 gRng gRngT Tryz.underlying110 errRow Tryz.underlying184 Tryz.underlying186 rfl rfl Tryz.underlying9 errCells strCells
  have c1 := World.var?_cell gSyn v1 0
  have c2 := World.var?_cell gRng v2 0
  have c1' : W.cell? ⟨1, 0, none⟩ = some (.iface 184 (.pointer (some a1))) := by simpa using c1
  have c2' : W.cell? ⟨2, 0, none⟩ = some (.iface 184 (.pointer (some a2))) := by simpa using c2
  exact ⟨World.block_lt_of_cell? W _ c2', ⟨_, c1', .inr ⟨_, _, rfl⟩⟩, _, c2', .inr ⟨_, _, rfl⟩⟩
end Go.Proofs.YtajkgcmopmpihaaGreatDoor
namespace Go.Proofs.YtajkgcmopmpihaaGreatDoor
open Go.ChangeShapes Go.WideShapes Go.ChangeAt Go.RowKit Go.IntWalk
set_option linter.unusedVariables false
set_option maxRecDepth 100000
theorem clone_part {P Q : Nat → Prop} {t : JT} {n : Nat} {w w' : World} {A : Option Addr} (hP : ∀ b, P b → Q b) (hQ : ∀ b, w.heap.size ≤ b → b < w'.heap.size → Q b) (h : t.ext = 0 ∨ ∃ g cs, A = some ⟨g, 0, none⟩ ∧ w.heap.size ≤ g ∧ Blk w' g (tyM false) cs ∧ n * stM false ≤ cs.length ∧ ∀ i, i < t.ext → RowE P false w' cs t i) : JSl Q w' false A t := by
  rcases h with h | ⟨g, cs, rfl, hg, hb, _, hr⟩
  · refine .inl ?_
    cases t with
    | nil => rfl
    | cons => simp [JT.ext] at h
  · refine .inr ⟨g, 0, rfl, hQ g hg hb.lt, JIn.of t false g 0 (fun i hi => ?_)⟩
    obtain ⟨e1, e, e2, e3⟩ := hr i hi
    exact ⟨e1, e, fun j v hj => by rw [Nat.zero_add]; exact hb.cell (e2 j v hj), e3.stay (fun _ _ _ => rfl) hP⟩
set_option maxHeartbeats 4000000 in
theorem jlist_calls (P : Nat → Prop) (A : Option Addr) (n c : Nat) (t : JT) (w : World) (hP : ∀ b, P b → b < w.heap.size) (hn : n = t.ext) (hn6 : n ≤ 1000000) (hs : JSl P w false A t) :
    Calls Tryz.prog 13 #[.slice A n c] w fun e w' => ∃ (A2 : Option Addr) (c2 : Nat), e = .returned (.agg #[.int .i64 4, .bool false, .int .i64 0, .string ⟨#[]⟩, .slice A2 n c2, .slice none 0 0]) ∧ VOk w' (lstV t) A2 none n c2 0 0 ∧ Below w.heap.size w w' := by
  have b0 : Below w.heap.size w (w.alloc (.cells #[.int .i64 0, .bool false, .int .i64 0, .string ⟨#[]⟩, .slice none 0 0, .slice none 0 0] 25)) := (Below.refl _ _).alloc (Nat.le_refl _) _
  have H0 := Lib.hid (And.intro b0 (And.intro (Blk.new w [.int .i64 0, .bool false, .int .i64 0, .string ⟨#[]⟩, .slice none 0 0, .slice none 0 0] 25) (And.intro hP (And.intro hn (And.intro hn6 hs)))))
  clear b0 hP hn hn6 hs
  go_enter Tryz.func13, Tryz.ntmps13
  go_upto_region 1 with fail
  refine wp_gen (fun W => Below w.heap.size w W ∧ Blk W w.heap.size 25 [.int .i64 0, .bool false, .int .i64 0, .string ⟨#[]⟩, .slice none 0 0, .slice none 0 0]) (And.intro H0.out.1 H0.out.2.1) ?_
  rintro W0 ⟨g1, g2⟩
  have H1 := Lib.hid (And.intro g1 g2)
  clear g1 g2
  go_wp2_with fail
  refine (cloneV_calls P A n c t W0 (fun b hb => Nat.lt_of_lt_of_le (H0.out.2.2.1 b hb) H1.out.1.size) H0.out.2.2.2.1 H0.out.2.2.2.2.1 (H0.out.2.2.2.2.2.stay (fun b o hb => H1.out.1.cell (p := ⟨b, o, none⟩) (H0.out.2.2.1 b hb)) (fun _ h => h))).mono ?_
  rintro e w2 ⟨⟨A2, c2, rfl, hnc, hpt, _⟩, b2⟩
  have hjs : JSl (fun b => b < w2.heap.size ∧ b ≠ w.heap.size) w2 false A2 t := clone_part (fun b hb => ⟨Nat.lt_of_lt_of_le (H0.out.2.2.1 b hb) (Nat.le_trans H1.out.1.size b2.size), Nat.ne_of_lt (H0.out.2.2.1 b hb)⟩) (fun b h1 h2 => ⟨h2, by have := H1.out.2.lt; omega⟩) hpt
  have k2 := H1.out.2.later b2
  have H2 := Lib.hid (And.intro (H1.out.1.then_ b2) (And.intro k2 (And.intro hnc hjs)))
  obtain ⟨z0, z1, z2, z3, z4, z5, y0, y1, y2, y3, y4, y5⟩ := cells6s k2
  clear b2 k2 hnc hpt hjs H1
  go_wp2_with fail
  have hc : Chg (· = w.heap.size) w2 (set6 w2 w.heap.size (.int .i64 4) (.bool false) (.int .i64 0) (.string ⟨#[]⟩) (.slice A2 n c2) (.slice none 0 0)) := (((((((Chg.refl (· = w.heap.size) w2).setCell (.inl rfl) _).setCell (.inl rfl) _).setCell (.inl rfl) _).setCell (.inl rfl) _).setCell (.inl rfl) _).setCell (.inl rfl) _)
  refine bodyPost_ret (res_cell6 rfl _ ⟨w.heap.size, 0, none⟩ _ _ rfl (Blk.load (blk6 H2.out.2.1) _ Tryz.underlying25 rfl size_v6)) rfl ⟨A2, c2, rfl, ?_, below6 H2.out.1 (Nat.le_refl _)⟩
  exact ⟨⟨H0.out.2.2.2.1, H2.out.2.2.1, by have := H0.out.2.2.2.2.1; omega⟩, ⟨rfl, Nat.le_refl _, Nat.zero_le _⟩, H2.out.2.2.2.stay (fun b o hb => hc.cell hb.1 hb.2) (fun b hb => Nat.lt_of_lt_of_le hb.1 hc.size), .inl rfl, (show Fit 4 0 [] from ⟨⟨by decide, by decide⟩, ⟨by decide, by decide⟩, by decide⟩)⟩
end Go.Proofs.YtajkgcmopmpihaaGreatDoor
