/- Layer 9: the document's weighing. -/
import Derived.Test.YtajkgcmopmpihaaDoorJvY
import Derived.StillTailTactics
namespace Go.Proofs.YtajkgcmopmpihaaDoor
open Go.ChangeShapes Go.WideShapes Go.ChangeAt Go.RowKit Go.IntWalk
set_option linter.unusedVariables false
set_option maxRecDepth 100000

/-- Some number that isn't great. -/
def WgtPost (w : World) (e : Ending) (w' : World) : Prop := (∃ z : Int, -1125899906842624 ≤ z ∧ z ≤ 1048576 ∧ e = .returned (.int .i64 z)) ∧ Below w.heap.size w w'
def WgtC (N : Nat) : Prop := ∀ (jv : Jv) (left dI : Int) (deep : Nat) (w : World) (A B : Option Addr) (nl cl nm cm : Nat), jv.bulk ≤ N → dI = (deep : Int) → deep ≤ 1000 → -281474976710656 ≤ left → left ≤ 1048576 →
  Room nl cl jv.l.ext → Room nm cm jv.m.ext → JSl (· < w.heap.size) w false A jv.l → JSl (· < w.heap.size) w true B jv.m → Fit jv.kd jv.n jv.s →
  Calls Tryd.prog 9 #[.agg #[.int .i64 jv.kd, .bool jv.is, .int .i64 jv.n, .string ⟨jv.s.toArray⟩, .slice A nl cl, .slice B nm cm], .int .i64 left, .int .i64 dI] w (WgtPost w)
theorem JSl.up {w w' : World} {mem : Bool} {A : Option Addr} {t : JT} (h : JSl (· < w.heap.size) w mem A t) (b : Below w.heap.size w w') : JSl (· < w'.heap.size) w' mem A t :=
  h.stay (fun b' o hb => b.cell (p := ⟨b', o, none⟩) hb) (fun x hx => Nat.lt_of_lt_of_le hx b.size)
set_option maxHeartbeats 8000000 in
theorem weigh_calls : ∀ N, WgtC N := by
  intro N
  induction N with
  | zero => intro jv left dI deep w A B nl cl nm cm h; unfold Jv.bulk at h; omega
  | succ N IH =>
    intro jv left dI deep w A B nl cl nm cm hN hdI hd hl0 hl1 rl rm sl sm hf
    subst hdI
    have hlN : jv.l.bulk ≤ N := by unfold Jv.bulk at hN; omega
    have hmN : jv.m.bulk ≤ N := by unfold Jv.bulk at hN; omega
    obtain ⟨kd, is, n, s, l, m⟩ := jv
    dsimp only at *
    obtain ⟨_, _, hsl⟩ := hf
    have hbw : Below w.heap.size w (w.alloc (.cells #[.int .i64 kd, .bool is, .int .i64 n, .string ⟨s.toArray⟩, .slice A nl cl, .slice B nm cm] 25)) := (Below.refl _ _).alloc (Nat.le_refl _) _
    obtain ⟨sn, hsn⟩ : ∃ sn, s.length = sn := ⟨_, rfl⟩
    have hwa : IntKind.i64.wrap (left - 1) = left - 1 := IntWalk.i64_in _ (by omega)
    have hwb : IntKind.i64.wrap (left - 1 - (sn : Int)) = left - 1 - (sn : Int) := IntWalk.i64_in _ (by omega)
    have hss : (⟨s.toArray⟩ : ByteArray).size = sn := hsn
    rw [hsn] at hsl
    clear hsn
    cases deep with
    | zero =>
      go_enter Tryd.func9, Tryd.ntmps9
      go_wp2_with fail
      go_ret
      exact ⟨⟨-1, by decide, by decide, rfl⟩, hbw⟩
    | succ deep =>
      obtain ⟨z0, hz0⟩ : ∃ z : Int, left - 1 - (sn : Int) = z := ⟨_, rfl⟩
      have hz1 : -422212465065990 ≤ z0 := by omega
      have hz2 : z0 ≤ 1048576 := by omega
      have hd0 : (((deep + 1 : Nat) : Int) == 0) = false := by rw [beq_eq_false_iff_ne]; omega
      go_enter Tryd.func9, Tryd.ntmps9
      have HRS := Lib.hid (And.intro sl sm)
      obtain ⟨rfl, hlc, hlm⟩ := rl
      obtain ⟨rfl, hmc, hmm⟩ := rm
      obtain ⟨ln, hln⟩ : ∃ x, l.ext = x := ⟨_, rfl⟩
      obtain ⟨mn, hmn⟩ : ∃ x, m.ext = x := ⟨_, rfl⟩
      have HLN := Lib.hid hln
      have HMN := Lib.hid hmn
      rw [hln] at hlc ⊢
      rw [hmn] at hmc ⊢
      rw [hln, hmn] at hbw
      have HB0 := Lib.hid hbw
      have BX0 := Lib.hid (Blk.new w [.int .i64 kd, .bool is, .int .i64 n, .string ⟨s.toArray⟩, .slice A ln cl, .slice B mn cm] 25)
      clear hln hmn sl sm hbw hz0 hwa
      go_wp2_with fail
      go_loopw [1, 7] (fun lv iv wr => ∃ (k : Nat) (z : Int), k ≤ ln ∧ iv = .int .i64 (k : Int) ∧ lv = .int .i64 z ∧ (-1125899906842624 ≤ z ∧ z ≤ 1048576) ∧ Hid (Below w.heap.size w wr) ∧ Hid (Blk wr w.heap.size 25 [.int .i64 kd, .bool is, .int .i64 n, .string ⟨s.toArray⟩, .slice A ln cl, .slice B mn cm])) (fun _ iv _ => ln - (intOf iv).toNat)
      case atStart => exact ⟨0, _, Nat.zero_le _, rfl, rfl, ⟨by omega, by omega⟩, HB0, BX0⟩
      case round =>
        obtain ⟨k, z, hk, rfl, rfl, ⟨hza, hzb⟩, hW, hBk⟩ := hrel
        clear HB0 BX0
        have d0 := hBk.out.cell (k := 0) rfl; have d1 := hBk.out.cell (k := 1) rfl; have d2 := hBk.out.cell (k := 2) rfl; have d3 := hBk.out.cell (k := 3) rfl; have d4 := hBk.out.cell (k := 4) rfl; have d5 := hBk.out.cell (k := 5) rfl
        by_cases hgo : k < ln ∧ 0 ≤ z
        · obtain ⟨hlt, hz⟩ := hgo
          obtain ⟨eb, eo, eA, enl, ecl, eB, enm, ecm, rfl, eP, ebl, e0, e1, e2, e3, e4, e5, r1, r2, s1, s2, hf⟩ := (HRS.out.1.up hW.out).el _ (by rw [HLN.out]; exact hlt)
          obtain ⟨eu, hev⟩ : ∃ eu, (l.fall k).val = eu := ⟨_, rfl⟩
          have hbe : eu.bulk ≤ N := by rw [← hev]; exact Nat.le_trans (JT.bulk_val l k (by rw [HLN.out]; exact hlt)) hlN
          rw [hev] at e0 e1 e2 e3 r1 r2 s1 s2 hf
          have HV := IH eu z ((deep : Int)) deep wr eA eB enl ecl enm ecm hbe rfl (by omega) (by omega) (by omega) r1 r2 s1 s2 hf
          clear hev r1 r2 s1 s2 hf
          go_wp2_with fail
          refine HV.mono ?_
          rintro e w3 ⟨⟨z3, hz3, hz4, rfl⟩, b3⟩
          have HW3 := Lib.hid (hW.out.then_ b3)
          have HB3 := Lib.hid (hBk.out.later b3)
          clear b3 HV e0 e1 e2 e3 e4 e5
          go_wp2_with fail
          go_roundw
          case rel => exact ⟨k + 1, z3, by omega, by go_num, rfl, ⟨hz3, hz4⟩, HW3, HB3⟩
          case measure => simp [intOf]; omega
        · have hca : (k < ln ∧ z < 0) ∨ k = ln := by omega
          clear hgo
          rcases hca with ⟨hlt, hz⟩ | hkl
          all_goals
            first | (have hkf : ¬ k < ln := by omega) | skip
            try clear hkl
            go_wp2_with fail
            clear d0 d1 d2 d3 d4 d5
            obtain ⟨wo, hwo⟩ : ∃ wo : World, wo = wr := ⟨_, rfl⟩
            rw [← hwo] at hW hBk ⊢
            clear hwo
            go_loopw [1, 8] (fun lv iv wr => ∃ (k : Nat) (z : Int), k ≤ mn ∧ iv = .int .i64 (k : Int) ∧ lv = .int .i64 z ∧ (-1125899906842624 ≤ z ∧ z ≤ 1048576) ∧ Hid (Below w.heap.size w wr) ∧ Hid (Blk wr w.heap.size 25 [.int .i64 kd, .bool is, .int .i64 n, .string ⟨s.toArray⟩, .slice A ln cl, .slice B mn cm])) (fun _ iv _ => mn - (intOf iv).toNat)
            case atStart => exact ⟨0, z, Nat.zero_le _, rfl, rfl, ⟨hza, hzb⟩, hW, hBk⟩
            case round =>
              obtain ⟨q, y, hq, rfl, rfl, ⟨hya, hyb⟩, hW, hBk⟩ := hrel
              have d0 := hBk.out.cell (k := 0) rfl; have d1 := hBk.out.cell (k := 1) rfl; have d2 := hBk.out.cell (k := 2) rfl; have d3 := hBk.out.cell (k := 3) rfl; have d4 := hBk.out.cell (k := 4) rfl; have d5 := hBk.out.cell (k := 5) rfl
              by_cases hgo : q < mn ∧ 0 ≤ y
              · obtain ⟨hqt, hy⟩ := hgo
                obtain ⟨eb, eo, eA, enl, ecl, eB, enm, ecm, rfl, eP, ebl, eK, eKl, e0, e1, e2, e3, e4, e5, r1, r2, s1, s2, hf⟩ := (HRS.out.2.up hW.out).mb _ (by rw [HMN.out]; exact hqt)
                obtain ⟨eu, hev⟩ : ∃ eu, (m.fall q).val = eu := ⟨_, rfl⟩
                obtain ⟨ek, hek⟩ : ∃ ek, (m.fall q).key = ek := ⟨_, rfl⟩
                have hbe : eu.bulk ≤ N := by rw [← hev]; exact Nat.le_trans (JT.bulk_val m q (by rw [HMN.out]; exact hqt)) hmN
                rw [hev] at e0 e1 e2 e3 r1 r2 s1 s2 hf
                rw [hek] at eK eKl
                obtain ⟨en, hen⟩ : ∃ en, ek.length = en := ⟨_, rfl⟩
                have hes : (⟨ek.toArray⟩ : ByteArray).size = en := hen
                rw [hen] at eKl
                have hwy : IntKind.i64.wrap (y - (en : Int)) = y - (en : Int) := IntWalk.i64_in _ (by omega)
                have hwd : IntKind.i64.wrap (((deep + 1 : Nat) : Int) - 1) = (deep : Int) := by rw [IntWalk.i64_in _ (by omega)]; omega
                have hbd : Below wr.heap.size wr wr.drew := (Below.refl _ _).drew
                have HV := IH eu (y - (en : Int)) ((deep : Int)) deep wr.drew eA eB enl ecl enm ecm hbe rfl (by omega) (by omega) (by omega) r1 r2 (s1.up hbd) (s2.up hbd) hf
                clear hbd hev r1 r2 s1 s2 hf hek hen
                go_wp2_with fail
                go_still_tail 17, (by kernel_rfl)
                change wpList _ _ _ _ _ wr.drew
                go_wp2_with fail
                refine HV.mono ?_
                rintro e w3 ⟨⟨z3, hz3, hz4, rfl⟩, b3⟩
                have HW3 := Lib.hid ((hW.out.drew).then_ b3)
                have HB3 := Lib.hid ((hBk.out.drew).later b3)
                clear b3 HV eK e0 e1 e2 e3 e4 e5 hwy hwd
                go_wp2_with fail
                go_roundw
                case rel => exact ⟨q + 1, z3, by omega, by go_num, rfl, ⟨hz3, hz4⟩, HW3, HB3⟩
                case measure => simp [intOf]; omega
              · have hca2 : (q < mn ∧ y < 0) ∨ q = mn := by omega
                clear hgo
                rcases hca2 with ⟨hqt, hy⟩ | hql
                all_goals
                  first | (have hqf : ¬ q < mn := by omega) | skip
                  try clear hql
                  go_wp2_with fail
                  go_ret
                  exact ⟨⟨y, hya, hyb, rfl⟩, hW.out⟩
/-- Some truth. -/
def GrtPost (w : World) (e : Ending) (w' : World) : Prop := (∃ g : Bool, e = .returned (.bool g)) ∧ Below w.heap.size w w'
theorem great_calls (v : Jv) (A B : Option Addr) (nl cl nm cm : Nat) (w : World) (rl : Room nl cl v.l.ext) (rm : Room nm cm v.m.ext) (sl : JSl (· < w.heap.size) w false A v.l) (sm : JSl (· < w.heap.size) w true B v.m) (hf : Fit v.kd v.n v.s) :
    Calls Tryd.prog 5 #[.agg #[.int .i64 v.kd, .bool v.is, .int .i64 v.n, .string ⟨v.s.toArray⟩, .slice A nl cl, .slice B nm cm]] w (GrtPost w) := by
  have b1 : Below w.heap.size w (w.alloc (.cells #[.int .i64 v.kd, .bool v.is, .int .i64 v.n, .string ⟨v.s.toArray⟩, .slice A nl cl, .slice B nm cm] 25)) := (Below.refl _ _).alloc (Nat.le_refl _) _
  have HV := weigh_calls v.bulk v 8192 60 60 _ A B nl cl nm cm (Nat.le_refl _) (by decide) (by decide) (by decide) (by decide) rl rm (sl.up b1) (sm.up b1) hf
  have HB := Lib.hid b1
  clear rl rm sl sm hf b1
  go_enter Tryd.func5, Tryd.ntmps5
  go_wp2_with fail
  refine HV.mono ?_
  rintro e w3 ⟨⟨z3, hz3, hz4, rfl⟩, b3⟩
  have HB3 := Lib.hid (HB.out.then_ b3)
  clear b3 HV
  go_wp2_with fail
  go_ret
  exact ⟨⟨_, rfl⟩, HB3.out⟩
end Go.Proofs.YtajkgcmopmpihaaDoor
