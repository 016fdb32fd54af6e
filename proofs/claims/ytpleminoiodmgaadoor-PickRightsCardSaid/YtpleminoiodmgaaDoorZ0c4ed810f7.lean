/- Texts put together: JvP JwT PnE Ro. -/
import Derived.Test.YtpleminoiodmgaaDoorZ9d3350a585
import Derived.Test.YtpleminoiodmgaaDoorZ6d00e8390f
import Derived.Test.YtpleminoiodmgaaDoorZ5b2090ebee
import Derived.Test.YtpleminoiodmgaaDoorZa48dd830e9
import Derived.Test.YtpleminoiodmgaaDoorZ6fac9017d4
import Derived.Deep.Slices
import Derived.Deep.Strs
import Derived.RowKit3
import Derived.Deep.MidRow
namespace Go.Proofs.YtpleminoiodmgaaDoor
open Go.ChangeShapes Go.WideShapes Go.ChangeAt Go.RowKit Go.IntWalk
set_option linter.unusedVariables false
set_option maxRecDepth 100000

theorem Nb.drewN {base : Nat} {w w1 : World} (h : Nb base w w1) (n : Nat) : Nb base w (w1.drewN n) := ⟨h.os, h.tape, h.output, h.size, h.low, h.box⟩
set_option maxHeartbeats 16000000 in
theorem refval_5 (N : Nat) (IH : RefC N) (is : Bool) (n : Int) (s : List UInt8) (l m : JT) (deep : Nat) (base : Nat) (v : Value) (b : List UInt8) (w : World) (A B : Option Addr) (nl cl nm cm : Nat) (hB : base ≤ w.heap.size) (rl : Room nl cl l.ext) (rm : Room nm cm m.ext) (h : OwnBs base w v b) (hb : b.length ≤ 65536) (hT : PowT base w) (hN : m.bulk ≤ N) (hd : deep ≤ 32) (sm : JSl (· < base) w true B m) (hj : (⟨5, is, n, s, l, m⟩ : Jv).bare = true) :
    Calls Tryd.prog 41 #[v, .agg #[.int .i64 5, .bool is, .int .i64 n, .string ⟨s.toArray⟩, .slice A nl cl, .slice B nm cm], .int .i64 (deep : Int)] w (REnd base w (wrV ⟨5, is, n, s, l, m⟩ deep b)) := by
  have HS := fun w => refbare_calls ⟨5, is, n, s, l, m⟩ A B nl cl nm cm w rl rm
  have E0 := Lib.hid (wrV_5 (v := ⟨5, is, n, s, l, m⟩) hj rfl deep b)
  simp only [hj] at HS
  have H := Lib.hid h
  have HX := Lib.hid hT
  have HSL := Lib.hid sm
  obtain ⟨rfl, hnc, hcm⟩ := rm
  obtain ⟨mm, hmm⟩ : ∃ mm, m.ext = mm := ⟨_, rfl⟩
  have HM := Lib.hid hmm
  rw [hmm] at hnc hcm
  simp only [hmm] at HS ⊢
  clear rl hT hj h sm hmm
  try dsimp only at *
  by_cases hdd : 32 ≤ deep
  · have hd32 : deep = 32 := by omega
    have hdq : ((deep : Int) == 32) = true := by rw [hd32]; rfl
    have HE := Lib.hid (show wrV ⟨5, is, n, s, l, m⟩ deep b = .error 5 by rw [E0.out]; unfold wrM; rw [if_pos hdd]; rfl)
    clear E0 hd32 hdd
    go_enter Tryd.func41, Tryd.ntmps41
    go_wp2_with fail
    refine (HS _).mono ?_
    rintro e w1 ⟨rfl, b1⟩
    have hb1 : Below w.heap.size w w1 := ((Below.refl _ _).alloc (Nat.le_refl _) _).trans (b1.mono (by simp))
    have bx := (Blk.new w [.int .i64 5, .bool is, .int .i64 n, .string ⟨s.toArray⟩, .slice A nl cl, .slice B mm cm] 25).later b1
    have d0 := bx.cell (k := 0) rfl
    have d1 := bx.cell (k := 1) rfl
    have d2 := bx.cell (k := 2) rfl
    have d3 := bx.cell (k := 3) rfl
    have d4 := bx.cell (k := 4) rfl
    have d5 := bx.cell (k := 5) rfl
    have HB1 := Lib.hid hb1
    have hB1 : base ≤ w1.heap.size := Nat.le_trans hB hb1.size
    have BX := Lib.hid bx
    clear b1 hb1 bx
    have HO1 := Lib.hid (H.out.nbx HB1.out)
    go_wp2_with fail
    go_ret2
    exact REnd.bad HE.out (Nb.of_below HB1.out hB) (by decide)
  · have hdq : ((deep : Int) == 32) = false := by rw [beq_eq_false_iff_ne]; omega
    have HE0 := Lib.hid (show wrV ⟨5, is, n, s, l, m⟩ deep b = (lng (b ++ [123])).then fun b => (wrF true m (deep + 1) none b).then fun b => lng (b ++ [125]) by rw [E0.out]; unfold wrM; rw [if_neg hdd])
    clear E0
    -- the bracket
    obtain ⟨R0, hR0⟩ : ∃ R0, lng (b ++ [123]) = R0 := ⟨_, rfl⟩
    have HR0 := Lib.hid hR0
    clear hR0
    go_enter Tryd.func41, Tryd.ntmps41
    go_wp2_with fail
    refine (HS _).mono ?_
    rintro e w1 ⟨rfl, b1⟩
    have hb1 : Below w.heap.size w w1 := ((Below.refl _ _).alloc (Nat.le_refl _) _).trans (b1.mono (by simp))
    have bx := (Blk.new w [.int .i64 5, .bool is, .int .i64 n, .string ⟨s.toArray⟩, .slice A nl cl, .slice B mm cm] 25).later b1
    have d0 := bx.cell (k := 0) rfl
    have d1 := bx.cell (k := 1) rfl
    have d2 := bx.cell (k := 2) rfl
    have d3 := bx.cell (k := 3) rfl
    have d4 := bx.cell (k := 4) rfl
    have d5 := bx.cell (k := 5) rfl
    have HB1 := Lib.hid hb1
    have hB1 : base ≤ w1.heap.size := Nat.le_trans hB hb1.size
    have BX := Lib.hid bx
    clear b1 hb1 bx
    have HO1 := Lib.hid (H.out.nbx HB1.out)
    have NB1 := Lib.hid (Nb.of_below HB1.out hB)
    go_wp2_with (at_builtin; refine wpList_append_u8 rfl _ _ rfl base v b rfl HO1.out 123 (by rfl) rfl (by omega) hB1 ?_; intro va wa owna gba; have NA := Lib.hid ((Lib.hid (Nb.refl base w1)).out.trans (Nb.of_gb gba HO1.out hB1)); have HA := Lib.hid owna; clear owna gba)
    refine (reflong_calls base va _ _ HA.out).mono ?_
    intro e w3 hE
    -- how it ended
    obtain ⟨vb, ve, rfl, n13, hq⟩ : ∃ vb ve, e = .returned (.tuple #[vb, .int .i64 ve]) ∧ Nb base wa w3 ∧ ∃ R : Res, wrV ⟨5, is, n, s, l, m⟩ deep b = (R.then fun b => lng (b ++ [125])) ∧ QStep R true m (deep + 1) 0 base w w3 vb (.int .i64 ve) := by
      cases hr : lng (b ++ [123]) with
      | ok b1 =>
        obtain ⟨n3, hl3, v3, rfl, o3⟩ := REnd.of_ok hr hE
        exact ⟨v3, 0, rfl, n3, _, by rw [HE0.out, hr]; rfl, (NB1.out.trans NA.out).trans n3, .inl ⟨b1, by rw [JT.fall_zero]; rfl, rfl, o3, hl3⟩⟩
      | error x =>
        obtain ⟨n3, hx, rfl⟩ := REnd.of_bad hr hE
        exact ⟨_, x, rfl, n3, .error x, by rw [HE0.out, hr]; rfl, (NB1.out.trans NA.out).trans n3, .inr ⟨x, hx, rfl, rfl⟩⟩
    obtain ⟨R, hRe, hQ⟩ := hq
    have BX3 := Lib.hid ((NA.out.trans n13).blk BX.out (by decide))
    have HQ := Lib.hid hQ
    have HRE := Lib.hid hRe
    clear hE hQ hRe HE0 n13
    go_wp2_with fail
    clear d0 d1 d2 d3 d4 d5
    go_loopw [0, 11, 12] (fun bv ev iv wr => ∃ (k : Nat) (xe : Int), k ≤ mm ∧ iv = .int .i64 (k : Int) ∧ ev = .int .i64 xe ∧ Hid (QStep R true m (deep + 1) k base w wr bv (.int .i64 xe)) ∧ Hid (Blk wr w.heap.size 25 [.int .i64 5, .bool is, .int .i64 n, .string ⟨s.toArray⟩, .slice A nl cl, .slice B mm cm])) (fun _ _ iv _ => mm - (intOf iv).toNat)
    case atStart => exact ⟨0, ve, Nat.zero_le _, rfl, rfl, HQ, BX3⟩
    case round =>
      obtain ⟨k, xe, hk, rfl, rfl, hQk, hBk⟩ := hrel
      clear HQ BX3
      have d0 := hBk.out.cell (k := 0) rfl; have d1 := hBk.out.cell (k := 1) rfl; have d2 := hBk.out.cell (k := 2) rfl; have d3 := hBk.out.cell (k := 3) rfl; have d4 := hBk.out.cell (k := 4) rfl; have d5 := hBk.out.cell (k := 5) rfl
      obtain ⟨nq, hq⟩ := hQk.out
      have NQ := Lib.hid nq
      clear nq hQk
      rcases hq with ⟨bk, hR, he, ho, hbk⟩ | ⟨x, hx, hR, he⟩
      · injection he with _ he
        subst he
        have HO := Lib.hid ho
        have hBr : base ≤ wr.heap.size := Nat.le_trans hB NQ.out.size
        clear ho
        by_cases hlt : k < mm
        · have HLS := Lib.hid (show R = (wrK true (prevK m k) (m.fall k).key bk).then fun b => (wrV (m.fall k).val (deep + 1) b).then fun b => wrF true (m.fall (k + 1)) (deep + 1) (prevK m (k + 1)) b by rw [hR, wrF_step _ _ _ _ _ (by rw [HM.out]; exact hlt)])
          obtain ⟨eu, hev⟩ : ∃ eu, (m.fall k).val = eu := ⟨_, rfl⟩
          obtain ⟨ek, hek⟩ : ∃ ek, (m.fall k).key = ek := ⟨_, rfl⟩
          rw [hev, hek] at HLS
          have hbe : eu.bulk ≤ N := by rw [← hev]; exact Nat.le_trans (JT.bulk_val m k (by rw [HM.out]; exact hlt)) hN
          have HEV := Lib.hid (And.intro hev hek)
          clear hR hev hek
          by_cases hk0 : 0 < k
          · have hk1 : decide (0 < k) = true := by simpa using hk0
            obtain ⟨pk, hpk⟩ : ∃ pk, (m.fall (k - 1)).key = pk := ⟨_, rfl⟩
            have HPK := Lib.hid hpk
            have HLS1 := Lib.hid (show R = (lng (bk ++ [44])).then fun b => if leqB ek pk then .error 1 else wrT m k deep ek eu b by rw [HLS.out, prevK_pos hk0, wrK_mS, hpk])
            have HKP := Lib.hid hk0
            clear hk0 hpk
            go_wp2_with (at_builtin; refine wpList_append_u8 rfl _ _ rfl base _ bk rfl HO.out 44 (by rfl) rfl (by omega) hBr ?_; intro va wa owna gba; have NA := Lib.hid ((Lib.hid (Nb.refl base wr)).out.trans (Nb.of_gb gba HO.out hBr)); have HA := Lib.hid owna; clear owna gba)
            refine (reflong_calls base va _ _ HA.out).mono ?_
            intro e w5 hE
            cases hr : lng (bk ++ [44]) with
            | error x =>
              obtain ⟨n5, hx, rfl⟩ := REnd.of_bad hr hE
              have HB5 := Lib.hid ((NA.out.trans n5).blk hBk.out (by decide))
              have NT := Lib.hid ((NQ.out.trans NA.out).trans n5)
              have HE5 := Lib.hid (And.intro hx (show R = .error x by rw [HLS1.out, hr]; rfl))
              have hx1 : (x == 0) = false := by rw [beq_eq_false_iff_ne]; exact hx
              clear hE hr n5 hx d0 d1 d2 d3 d4 d5
              go_wp2_with fail
              go_quiet (fail)
              have HB6 := Lib.hid (HB5.out.drewN nq)
              have HQ6 := Lib.hid (show QStep R true m (deep + 1) (k + 1) base w (w5.drewN nq) (.slice none 0 0) (.int .i64 x) from ⟨NT.out.drewN nq, .inr ⟨x, HE5.out.1, HE5.out.2, rfl⟩⟩)
              go_wp2_with fail
              go_roundw
              case rel => exact ⟨k + 1, x, by omega, by go_num, rfl, HQ6, HB6⟩
              case measure => simp [intOf]; omega
            | ok b2 =>
              obtain ⟨n5, hl2, v2, rfl, o5⟩ := REnd.of_ok hr hE
              have HB5 := Lib.hid ((NA.out.trans n5).blk hBk.out (by decide))
              have N5 := Lib.hid ((NQ.out.trans NA.out).trans n5)
              have O5 := Lib.hid o5
              have HLS2a := Lib.hid (show R = if leqB ek pk then .error 1 else wrT m k deep ek eu b2 by rw [HLS1.out, hr]; rfl)
              clear hE hr n5 o5
              clear d0 d1 d2 d3 d4 d5; have d0 := HB5.out.cell (k := 0) rfl; have d1 := HB5.out.cell (k := 1) rfl; have d2 := HB5.out.cell (k := 2) rfl; have d3 := HB5.out.cell (k := 3) rfl; have d4 := HB5.out.cell (k := 4) rfl; have d5 := HB5.out.cell (k := 5) rfl
              have HO5 := Lib.hid (HSL.out.blw N5.out.below)
              obtain ⟨eb, eo, _, _, _, _, _, _, rfl, _, _, eK, _, erest⟩ := HO5.out.mb _ (by rw [HM.out]; exact hlt)
              clear erest
              obtain ⟨qb, qo, _, _, _, _, _, _, qe, _, _, p0, prest⟩ := HO5.out.mb (i := k - 1) _ (by rw [HM.out]; omega)
              clear prest
              injection qe with qe; injection qe with qe1 qe2
              subst qe1; subst qe2
              rw [HPK.out] at p0
              rw [HEV.out.2] at eK
              have hwk : IntKind.i64.wrap ((k : Int) - 1) = ((k - 1 : Nat) : Int) := by rw [IntWalk.i64_in _ (by omega)]; have := HKP.out; omega
              cases hle : leqB ek pk with
              | true =>
                have HE5 := Lib.hid (show R = .error 1 by rw [HLS2a.out, hle]; rfl)
                unfold leqB at hle
                go_wp2_with fail
                go_quiet (fail)
                clear p0 eK hwk hle
                have HB6 := Lib.hid (HB5.out.drewN nq)
                have HQ6 := Lib.hid (show QStep R true m (deep + 1) (k + 1) base w (w5.drewN nq) v2 (.int .i64 1) from ⟨N5.out.drewN nq, .inr ⟨1, by decide, HE5.out, rfl⟩⟩)
                go_wp2_with fail
                go_roundw
                case rel => exact ⟨k + 1, 1, by omega, by go_num, rfl, HQ6, HB6⟩
                case measure => simp [intOf]; omega
              | false =>
                have HLS2 := Lib.hid (show R = wrT m k deep ek eu b2 by rw [HLS2a.out, hle]; rfl)
                unfold leqB at hle
                go_wp2_with fail
                go_quiet (fail)
                clear p0 eK hwk hle
                have HB6 := Lib.hid (HB5.out.drewN nq)
                have N6 := Lib.hid (N5.out.drewN nq)
                have O6 := Lib.hid (show OwnBs base (w5.drewN nq) v2 b2 from O5.out)
                have HLS3 := Lib.hid (show R = (txt b2 ek).then fun b => (lng (b ++ [58])).then fun b => (wrV eu (deep + 1) b).then fun b => wrF true (m.fall (k + 1)) (deep + 1) (prevK m (k + 1)) b by rw [HLS2.out]; rfl)
                obtain ⟨eb', eo', eA, enl, ecl, eB, enm, ecm, qe, eP, ebl, eK, eKl, e0, e1, e2, e3, e4, e5, r1, r2, s1, s2, hf⟩ := (HSL.out.blw N6.out.below).mb _ (by rw [HM.out]; exact hlt)
                injection qe with qe; injection qe with qe1 qe2; subst qe1; subst qe2
                rw [(HEV.out).2] at eK eKl
                clear e0 e1 e2 e3 e4 e5 r1 r2 s1 s2 hf
                have HT2 := reftext_calls base v2 b2 ek (w5.drewN nq) O6.out hl2 (Nat.le_trans hB N6.out.size) eKl
                go_wp2_with fail
                refine HT2.mono ?_
                intro e w3 hE
                clear HT2 eK
                cases hr : txt b2 ek with
                | error x =>
                  obtain ⟨n3, hx, rfl⟩ := REnd.of_bad hr hE
                  have HB3 := Lib.hid (n3.blk HB6.out (by decide))
                  have HQ3 := Lib.hid (show QStep R true m (deep + 1) (k + 1) base w w3 (.slice none 0 0) (.int .i64 x) from ⟨N6.out.trans (n3), .inr ⟨x, hx, by rw [HLS3.out, hr]; rfl, rfl⟩⟩)
                  have hx1 : (x == 0) = false := by rw [beq_eq_false_iff_ne]; exact hx
                  clear hE hr n3 hx
                  go_wp2_with fail
                  go_roundw
                  case rel => exact ⟨k + 1, x, by omega, by go_num, rfl, HQ3, HB3⟩
                  case measure => simp [intOf]; omega
                | ok b3 =>
                  obtain ⟨n3, hl3, v3, rfl, o3⟩ := REnd.of_ok hr hE
                  have HLS4 := Lib.hid (show R = (lng (b3 ++ [58])).then fun b => (wrV eu (deep + 1) b).then fun b => wrF true (m.fall (k + 1)) (deep + 1) (prevK m (k + 1)) b by rw [HLS3.out, hr]; rfl)
                  have N3 := Lib.hid (N6.out.trans n3)
                  have O3 := Lib.hid o3
                  have HB3 := Lib.hid (n3.blk HB6.out (by decide))
                  have hB3 : base ≤ w3.heap.size := Nat.le_trans hB N3.out.size
                  clear hE hr n3 o3
                  try clear d0 d1 d2 d3 d4 d5
                  have d0 := HB3.out.cell (k := 0) rfl; have d1 := HB3.out.cell (k := 1) rfl; have d2 := HB3.out.cell (k := 2) rfl; have d3 := HB3.out.cell (k := 3) rfl; have d4 := HB3.out.cell (k := 4) rfl; have d5 := HB3.out.cell (k := 5) rfl
                  go_wp2_with (at_builtin; refine wpList_append_u8 rfl _ _ rfl base _ b3 rfl O3.out 58 (by rfl) rfl (by omega) hB3 ?_; intro va wa owna gba; have NA := Lib.hid ((Lib.hid (Nb.refl base w3)).out.trans (Nb.of_gb gba O3.out hB3)); have HA := Lib.hid owna; clear owna gba)
                  refine (reflong_calls base va _ _ HA.out).mono ?_
                  intro e w4 hE
                  cases hr : lng (b3 ++ [58]) with
                  | error x =>
                    obtain ⟨n4, hx, rfl⟩ := REnd.of_bad hr hE
                    have HB4 := Lib.hid ((NA.out.trans n4).blk HB3.out (by decide))
                    have HQ4 := Lib.hid (show QStep R true m (deep + 1) (k + 1) base w w4 (.slice none 0 0) (.int .i64 x) from ⟨N3.out.trans ((NA.out.trans n4)), .inr ⟨x, hx, by rw [HLS4.out, hr]; rfl, rfl⟩⟩)
                    have hx1 : (x == 0) = false := by rw [beq_eq_false_iff_ne]; exact hx
                    clear hE hr n4 hx
                    go_wp2_with fail
                    go_roundw
                    case rel => exact ⟨k + 1, x, by omega, by go_num, rfl, HQ4, HB4⟩
                    case measure => simp [intOf]; omega
                  | ok b4 =>
                    obtain ⟨n4, hl4, v4, rfl, o4⟩ := REnd.of_ok hr hE
                    have HLS5 := Lib.hid (show R = (wrV eu (deep + 1) b4).then fun b => wrF true (m.fall (k + 1)) (deep + 1) (prevK m (k + 1)) b by rw [HLS4.out, hr]; rfl)
                    have N4 := Lib.hid ((N3.out.trans NA.out).trans n4)
                    have O4 := Lib.hid o4
                    have HB4 := Lib.hid ((NA.out.trans n4).blk HB3.out (by decide))
                    clear hE hr n4 o4 d0 d1 d2 d3 d4 d5
                    have d0 := HB4.out.cell (k := 0) rfl; have d1 := HB4.out.cell (k := 1) rfl; have d2 := HB4.out.cell (k := 2) rfl; have d3 := HB4.out.cell (k := 3) rfl; have d4 := HB4.out.cell (k := 4) rfl; have d5 := HB4.out.cell (k := 5) rfl
                    obtain ⟨eb', eo', eA, enl, ecl, eB, enm, ecm, qe, eP, ebl, eK, eKl, e0, e1, e2, e3, e4, e5, r1, r2, s1, s2, hf⟩ := (HSL.out.blw N4.out.below).mb _ (by rw [HM.out]; exact hlt)
                    injection qe with qe; injection qe with qe1 qe2; subst qe1; subst qe2
                    rw [(HEV.out).1] at e0 e1 e2 e3 r1 r2 s1 s2 hf
                    have HV := IH eu (deep + 1) ((deep : Int) + 1) base v4 b4 w4 eA eB enl ecl enm ecm hbe (by omega) (by omega) (Nat.le_trans hB N4.out.size) r1 r2 s1 s2 hf O4.out hl4 (HX.out.blw N4.out.below)
                    clear r1 r2 s1 s2 hf eK
                    go_wp2_with fail
                    refine HV.mono ?_
                    intro e w7 hE
                    clear e0 e1 e2 e3 e4 e5 HV
                    cases hr : wrV eu (deep + 1) b4 with
                    | error x =>
                      obtain ⟨n7, hx, rfl⟩ := REnd.of_bad hr hE
                      have HB7 := Lib.hid (n7.blk HB4.out (by decide))
                      have HQ7 := Lib.hid (show QStep R true m (deep + 1) (k + 1) base w w7 (.slice none 0 0) (.int .i64 x) from ⟨N4.out.trans (n7), .inr ⟨x, hx, by rw [HLS5.out, hr]; rfl, rfl⟩⟩)
                      have hx1 : (x == 0) = false := by rw [beq_eq_false_iff_ne]; exact hx
                      clear hE hr n7 hx
                      go_wp2_with fail
                      go_roundw
                      case rel => exact ⟨k + 1, x, by omega, by go_num, rfl, HQ7, HB7⟩
                      case measure => simp [intOf]; omega
                    | ok b7 =>
                      obtain ⟨n7, hl7, v7, rfl, o7⟩ := REnd.of_ok hr hE
                      have HB7 := Lib.hid (n7.blk HB4.out (by decide))
                      have HQ7 := Lib.hid (show QStep R true m (deep + 1) (k + 1) base w w7 v7 (.int .i64 0) from ⟨N4.out.trans n7, .inl ⟨b7, by rw [HLS5.out, hr]; rfl, rfl, o7, hl7⟩⟩)
                      clear hE hr n7 hl7 o7
                      go_wp2_with fail
                      go_roundw
                      case rel => exact ⟨k + 1, 0, by omega, by go_num, rfl, HQ7, HB7⟩
                      case measure => simp [intOf]; omega
          · have hk1 : decide (0 < k) = false := by simpa using hk0
            have HLS2 := Lib.hid (show R = wrT m k deep ek eu bk by rw [HLS.out, show prevK m k = none by unfold prevK; rw [if_pos (by omega)], wrK_m0])
            clear hk0
            obtain ⟨eb, eo, _, _, _, _, _, _, rfl, _, _, erest⟩ := (HSL.out.blw NQ.out.below).mb _ (by rw [HM.out]; exact hlt)
            clear erest
            have HB6 := hBk
            have N6 := NQ
            have O6 := HO
            have HLS3 := Lib.hid (show R = (txt bk ek).then fun b => (lng (b ++ [58])).then fun b => (wrV eu (deep + 1) b).then fun b => wrF true (m.fall (k + 1)) (deep + 1) (prevK m (k + 1)) b by rw [HLS2.out]; rfl)
            obtain ⟨eb', eo', eA, enl, ecl, eB, enm, ecm, qe, eP, ebl, eK, eKl, e0, e1, e2, e3, e4, e5, r1, r2, s1, s2, hf⟩ := (HSL.out.blw N6.out.below).mb _ (by rw [HM.out]; exact hlt)
            injection qe with qe; injection qe with qe1 qe2; subst qe1; subst qe2
            rw [(HEV.out).2] at eK eKl
            clear e0 e1 e2 e3 e4 e5 r1 r2 s1 s2 hf
            have HT2 := reftext_calls base _ bk ek wr O6.out hbk (Nat.le_trans hB N6.out.size) eKl
            go_wp2_with fail
            refine HT2.mono ?_
            intro e w3 hE
            clear HT2 eK
            cases hr : txt bk ek with
            | error x =>
              obtain ⟨n3, hx, rfl⟩ := REnd.of_bad hr hE
              have HB3 := Lib.hid (n3.blk HB6.out (by decide))
              have HQ3 := Lib.hid (show QStep R true m (deep + 1) (k + 1) base w w3 (.slice none 0 0) (.int .i64 x) from ⟨N6.out.trans (n3), .inr ⟨x, hx, by rw [HLS3.out, hr]; rfl, rfl⟩⟩)
              have hx1 : (x == 0) = false := by rw [beq_eq_false_iff_ne]; exact hx
              clear hE hr n3 hx
              go_wp2_with fail
              go_roundw
              case rel => exact ⟨k + 1, x, by omega, by go_num, rfl, HQ3, HB3⟩
              case measure => simp [intOf]; omega
            | ok b3 =>
              obtain ⟨n3, hl3, v3, rfl, o3⟩ := REnd.of_ok hr hE
              have HLS4 := Lib.hid (show R = (lng (b3 ++ [58])).then fun b => (wrV eu (deep + 1) b).then fun b => wrF true (m.fall (k + 1)) (deep + 1) (prevK m (k + 1)) b by rw [HLS3.out, hr]; rfl)
              have N3 := Lib.hid (N6.out.trans n3)
              have O3 := Lib.hid o3
              have HB3 := Lib.hid (n3.blk HB6.out (by decide))
              have hB3 : base ≤ w3.heap.size := Nat.le_trans hB N3.out.size
              clear hE hr n3 o3
              try clear d0 d1 d2 d3 d4 d5
              have d0 := HB3.out.cell (k := 0) rfl; have d1 := HB3.out.cell (k := 1) rfl; have d2 := HB3.out.cell (k := 2) rfl; have d3 := HB3.out.cell (k := 3) rfl; have d4 := HB3.out.cell (k := 4) rfl; have d5 := HB3.out.cell (k := 5) rfl
              go_wp2_with (at_builtin; refine wpList_append_u8 rfl _ _ rfl base _ b3 rfl O3.out 58 (by rfl) rfl (by omega) hB3 ?_; intro va wa owna gba; have NA := Lib.hid ((Lib.hid (Nb.refl base w3)).out.trans (Nb.of_gb gba O3.out hB3)); have HA := Lib.hid owna; clear owna gba)
              refine (reflong_calls base va _ _ HA.out).mono ?_
              intro e w4 hE
              cases hr : lng (b3 ++ [58]) with
              | error x =>
                obtain ⟨n4, hx, rfl⟩ := REnd.of_bad hr hE
                have HB4 := Lib.hid ((NA.out.trans n4).blk HB3.out (by decide))
                have HQ4 := Lib.hid (show QStep R true m (deep + 1) (k + 1) base w w4 (.slice none 0 0) (.int .i64 x) from ⟨N3.out.trans ((NA.out.trans n4)), .inr ⟨x, hx, by rw [HLS4.out, hr]; rfl, rfl⟩⟩)
                have hx1 : (x == 0) = false := by rw [beq_eq_false_iff_ne]; exact hx
                clear hE hr n4 hx
                go_wp2_with fail
                go_roundw
                case rel => exact ⟨k + 1, x, by omega, by go_num, rfl, HQ4, HB4⟩
                case measure => simp [intOf]; omega
              | ok b4 =>
                obtain ⟨n4, hl4, v4, rfl, o4⟩ := REnd.of_ok hr hE
                have HLS5 := Lib.hid (show R = (wrV eu (deep + 1) b4).then fun b => wrF true (m.fall (k + 1)) (deep + 1) (prevK m (k + 1)) b by rw [HLS4.out, hr]; rfl)
                have N4 := Lib.hid ((N3.out.trans NA.out).trans n4)
                have O4 := Lib.hid o4
                have HB4 := Lib.hid ((NA.out.trans n4).blk HB3.out (by decide))
                clear hE hr n4 o4 d0 d1 d2 d3 d4 d5
                have d0 := HB4.out.cell (k := 0) rfl; have d1 := HB4.out.cell (k := 1) rfl; have d2 := HB4.out.cell (k := 2) rfl; have d3 := HB4.out.cell (k := 3) rfl; have d4 := HB4.out.cell (k := 4) rfl; have d5 := HB4.out.cell (k := 5) rfl
                obtain ⟨eb', eo', eA, enl, ecl, eB, enm, ecm, qe, eP, ebl, eK, eKl, e0, e1, e2, e3, e4, e5, r1, r2, s1, s2, hf⟩ := (HSL.out.blw N4.out.below).mb _ (by rw [HM.out]; exact hlt)
                injection qe with qe; injection qe with qe1 qe2; subst qe1; subst qe2
                rw [(HEV.out).1] at e0 e1 e2 e3 r1 r2 s1 s2 hf
                have HV := IH eu (deep + 1) ((deep : Int) + 1) base v4 b4 w4 eA eB enl ecl enm ecm hbe (by omega) (by omega) (Nat.le_trans hB N4.out.size) r1 r2 s1 s2 hf O4.out hl4 (HX.out.blw N4.out.below)
                clear r1 r2 s1 s2 hf eK
                go_wp2_with fail
                refine HV.mono ?_
                intro e w7 hE
                clear e0 e1 e2 e3 e4 e5 HV
                cases hr : wrV eu (deep + 1) b4 with
                | error x =>
                  obtain ⟨n7, hx, rfl⟩ := REnd.of_bad hr hE
                  have HB7 := Lib.hid (n7.blk HB4.out (by decide))
                  have HQ7 := Lib.hid (show QStep R true m (deep + 1) (k + 1) base w w7 (.slice none 0 0) (.int .i64 x) from ⟨N4.out.trans (n7), .inr ⟨x, hx, by rw [HLS5.out, hr]; rfl, rfl⟩⟩)
                  have hx1 : (x == 0) = false := by rw [beq_eq_false_iff_ne]; exact hx
                  clear hE hr n7 hx
                  go_wp2_with fail
                  go_roundw
                  case rel => exact ⟨k + 1, x, by omega, by go_num, rfl, HQ7, HB7⟩
                  case measure => simp [intOf]; omega
                | ok b7 =>
                  obtain ⟨n7, hl7, v7, rfl, o7⟩ := REnd.of_ok hr hE
                  have HB7 := Lib.hid (n7.blk HB4.out (by decide))
                  have HQ7 := Lib.hid (show QStep R true m (deep + 1) (k + 1) base w w7 v7 (.int .i64 0) from ⟨N4.out.trans n7, .inl ⟨b7, by rw [HLS5.out, hr]; rfl, rfl, o7, hl7⟩⟩)
                  clear hE hr n7 hl7 o7
                  go_wp2_with fail
                  go_roundw
                  case rel => exact ⟨k + 1, 0, by omega, by go_num, rfl, HQ7, HB7⟩
                  case measure => simp [intOf]; omega
        · obtain rfl : k = mm := by omega
          have HRE2 := Lib.hid (show wrV ⟨5, is, n, s, l, m⟩ deep b = lng (bk ++ [125]) by rw [HRE.out, hR, ← HM.out, wrF_end]; rfl)
          clear hR
          go_wp2_with (at_builtin; refine wpList_append_u8 rfl _ _ rfl base _ bk rfl HO.out 125 (by rfl) rfl (by omega) hBr ?_; intro va wa owna gba; have NA := Lib.hid ((Lib.hid (Nb.refl base wr)).out.trans (Nb.of_gb gba HO.out hBr)); have HA := Lib.hid owna; clear owna gba)
          refine (reflong_calls base va _ _ HA.out).mono ?_
          intro e w5 hE
          cases hr : lng (bk ++ [125]) with
          | error x =>
            obtain ⟨n5, hx, rfl⟩ := REnd.of_bad hr hE
            have HF := Lib.hid (And.intro (HRE2.out.trans hr) (And.intro ((NQ.out.trans NA.out).trans n5) hx))
            clear hE hr n5 hx
            go_wp2_with fail
            go_ret2
            exact REnd.bad HF.out.1 HF.out.2.1 HF.out.2.2
          | ok b2 =>
            obtain ⟨n5, hl2, v2, rfl, o5⟩ := REnd.of_ok hr hE
            have HF := Lib.hid (And.intro (HRE2.out.trans hr) (And.intro ((NQ.out.trans NA.out).trans n5) (And.intro hl2 o5)))
            clear hE hr n5 hl2 o5
            go_wp2_with fail
            go_ret2
            exact REnd.ok HF.out.1 HF.out.2.1 HF.out.2.2.1 HF.out.2.2.2
      · injection he with _ he
        subst he
        have HF := Lib.hid (show wrV ⟨5, is, n, s, l, m⟩ deep b = .error xe by rw [HRE.out, hR]; rfl)
        have hx1 : (xe == 0) = false := by rw [beq_eq_false_iff_ne]; exact hx
        have hx2 : (xe != 0) = true := by rw [bne_iff_ne]; exact hx
        have HXX := Lib.hid hx
        clear hR hx
        by_cases hlt : k < mm
        all_goals
          go_wp2_with fail
          go_ret2
          exact REnd.bad HF.out NQ.out HXX.out
theorem refwrite_calls : ∀ N, RefC N := by
  intro N
  induction N with
  | zero => intro jv deep dI base v b w A B nl cl nm cm h; unfold Jv.bulk at h; omega
  | succ N IH =>
    intro jv deep dI base v b w A B nl cl nm cm hN hd hdI hB rl rm sl sm hf h hb hT
    have hlN : jv.l.bulk ≤ N := by unfold Jv.bulk at hN; omega
    have hmN : jv.m.bulk ≤ N := by unfold Jv.bulk at hN; omega
    obtain ⟨kd, is, n, s, l, m⟩ := jv
    cases hj : (⟨kd, is, n, s, l, m⟩ : Jv).bare with
    | false => exact refval_bad kd is n s l m deep dI base v b w A B nl cl nm cm hB rl rm hf h hb hT hj
    | true =>
      have hk := bare_kd hj
      dsimp only at hk
      rcases hk with rfl | rfl | rfl | rfl | rfl | rfl
      · exact refval_0 is n s l m deep dI base v b w A B nl cl nm cm hB rl rm hf h hb hT hj
      · cases is with
        | true => exact refval_1true n s l m deep dI base v b w A B nl cl nm cm hB rl rm hf h hb hT hj
        | false => exact refval_1false n s l m deep dI base v b w A B nl cl nm cm hB rl rm hf h hb hT hj
      · exact refval_2 is n s l m deep dI base v b w A B nl cl nm cm hB rl rm hf h hb hT hj
      · exact refval_3 is n s l m deep dI base v b w A B nl cl nm cm hB rl rm hf h hb hT hj
      · subst hdI
        exact refval_4 N IH is n s l m deep base v b w A B nl cl nm cm hB rl rm h hb hT hlN hd sl hj
      · subst hdI
        exact refval_5 N IH is n s l m deep base v b w A B nl cl nm cm hB rl rm h hb hT hmN hd sm hj
theorem can_post {v : Jv} {w w' : World} {b : List UInt8} {x : Int} (h : canF v = (b, x)) (hb : Below w.heap.size w w') : CanPost v w (.returned (.tuple #[.string ⟨b.toArray⟩, .int .i64 x])) w' := by
  unfold CanPost; rw [h]; exact ⟨rfl, hb⟩
theorem refcanon_calls (v : Jv) (A B : Option Addr) (nl cl nm cm : Nat) (w : World) (rl : Room nl cl v.l.ext) (rm : Room nm cm v.m.ext) (sl : JSl (· < w.heap.size) w false A v.l) (sm : JSl (· < w.heap.size) w true B v.m) (hf : Fit v.kd v.n v.s) (hT : PowT w.heap.size w) :
    Calls Tryd.prog 33 #[.agg #[.int .i64 v.kd, .bool v.is, .int .i64 v.n, .string ⟨v.s.toArray⟩, .slice A nl cl, .slice B nm cm]] w (CanPost v w) := by
  have b1 : Below w.heap.size w (w.alloc (.cells #[.int .i64 v.kd, .bool v.is, .int .i64 v.n, .string ⟨v.s.toArray⟩, .slice A nl cl, .slice B nm cm] 25)) := (Below.refl _ _).alloc (Nat.le_refl _) _
  have HV := refwrite_calls v.bulk v 0 0 w.heap.size (.slice none 0 0) [] _ A B nl cl nm cm (Nat.le_refl _) (by omega) rfl b1.size rl rm (sl.blw b1) (sm.blw b1) hf (OwnBs.nil _ _) (by simp) (hT.blw b1)
  have HB := Lib.hid b1
  clear rl rm sl sm hf hT b1
  cases hr : wrV v 0 []
  all_goals
    have HR := Lib.hid hr
    clear hr
    go_enter Tryd.func33, Tryd.ntmps33
    go_wp2_with fail
    refine HV.mono ?_
    intro e w2 hE
  · obtain ⟨n2, hx, rfl⟩ := REnd.of_bad HR.out hE
    have HC := Lib.hid (And.intro (show canF v = ([], _) by unfold canF; rw [HR.out]) (HB.out.trans n2.below))
    have hcv := run_str_rb w2 none 0 0 [] (fun k hk => absurd hk (by simp)) (Lib.hid rfl)
    clear hE n2 hx HV
    go_wp2_with fail
    go_ret2
    exact can_post HC.out.1 HC.out.2
  · obtain ⟨n2, hl2, v2, rfl, o2⟩ := REnd.of_ok HR.out hE
    have HC := Lib.hid (And.intro (show canF v = (_, 0) by unfold canF; rw [HR.out]) (HB.out.trans n2.below))
    obtain ⟨A2, m2, cap2, rfl, hrb, hn2⟩ := o2.form
    have hcv := run_str_rb w2 A2 m2 cap2 _ hrb hn2
    clear hE n2 o2 HV hrb hn2 hl2
    go_wp2_with fail
    go_ret2
    exact can_post HC.out.1 HC.out.2
end Go.Proofs.YtpleminoiodmgaaDoor
namespace Go.Proofs.YtpleminoiodmgaaDoor
open Go.ChangeShapes Go.WideShapes Go.ChangeAt Go.RowKit Go.IntWalk
set_option linter.unusedVariables false

/-- The tables that the row lists: the powers of ten alone are read here. -/
def TabJ (w : World) : Prop := 1 < w.heap.size ∧ Lib.TabIs Tryd.prog w "internal/strconv.uint64pow10" .u64 Lib.pow10Tab
theorem TabJ.pow {w : World} (h : TabJ w) : PowT w.heap.size w := h
theorem TabJ.below {w w' : World} (h : TabJ w) (b : Below w.heap.size w w') : TabJ w' :=
  ⟨Nat.lt_of_lt_of_le h.1 b.size, (PowT.blw (base := w.heap.size) h b).2⟩
theorem refcanon_ok {w : World} {v : Jv} {A B : Option Addr} {nl cl nm cm : Nat} (h : VOk w v A B nl cl nm cm) (hT : TabJ w) {b : List UInt8} {x : Int} (hc : canF v = (b, x)) :
    Calls Tryd.prog 33 #[.agg #[.int .i64 v.kd, .bool v.is, .int .i64 v.n, .string ⟨v.s.toArray⟩, .slice A nl cl, .slice B nm cm]] w fun e w' => e = .returned (.tuple #[.string ⟨b.toArray⟩, .int .i64 x]) ∧ Below w.heap.size w w' := by
  have := refcanon_calls v A B nl cl nm cm w h.1 h.2.1 h.2.2.1 h.2.2.2.1 h.2.2.2.2 hT.pow
  unfold CanPost at this
  rw [hc] at this
  exact this
end Go.Proofs.YtpleminoiodmgaaDoor
namespace Go.Proofs.YtpleminoiodmgaaDoor
open Go.ChangeShapes Go.WideShapes Go.ChangeAt Go.RowKit Go.IntWalk
set_option linter.unusedVariables false
set_option maxRecDepth 100000

def UfPost (v : Jv) (w : World) (en : Ending) (w' : World) : Prop := ∃ r, en = .returned (.bool r) ∧ (r = false → risV v = true) ∧ Below w.heap.size w w'
set_option maxHeartbeats 4000000 in
theorem unfit_calls (v : Jv) (A B : Option Addr) (nl cl nm cm : Nat) (w : World) (hv : VOk w v A B nl cl nm cm) (hT : TabJ w) : Calls Tryd.prog 17 #[.agg #[.int .i64 v.kd, .bool v.is, .int .i64 v.n, .string ⟨v.s.toArray⟩, .slice A nl cl, .slice B nm cm]] w (UfPost v w) := by
  have b0 : Below w.heap.size w (w.alloc (.cells #[.int .i64 v.kd, .bool v.is, .int .i64 v.n, .string ⟨v.s.toArray⟩, .slice A nl cl, .slice B nm cm] 25)) := (Below.refl _ _).alloc (Nat.le_refl _) _
  have HB := Lib.hid b0
  have HX := Lib.hid (Blk.new w [.int .i64 v.kd, .bool v.is, .int .i64 v.n, .string ⟨v.s.toArray⟩, .slice A nl cl, .slice B nm cm] 25)
  have HV := Lib.hid hv
  have HT := Lib.hid hT
  have hr := rises_calls v.bulk v _ A B nl cl nm cm (Nat.le_refl _) (hv.below b0)
  obtain ⟨rv, hrv⟩ : ∃ rv, risV v = rv := ⟨_, rfl⟩
  rw [hrv] at hr
  have HR := Lib.hid hr
  have HRV := Lib.hid hrv
  clear hv hT b0 hr hrv
  go_enter Tryd.func17, Tryd.ntmps17
  go_wp2_with fail
  refine HR.out.mono ?_
  rintro en w1 ⟨rfl, b1⟩
  have HB1 := Lib.hid (HB.out.then_ b1)
  have hx := HX.out.later b1
  have d0 := hx.cell (k := 0) rfl; have d1 := hx.cell (k := 1) rfl; have d2 := hx.cell (k := 2) rfl; have d3 := hx.cell (k := 3) rfl; have d4 := hx.cell (k := 4) rfl; have d5 := hx.cell (k := 5) rfl
  clear b1 hx
  cases rv with
  | false =>
    go_wp2_with fail
    go_ret
    exact ⟨true, rfl, fun h => (by cases h), HB1.out⟩
  | true =>
    obtain ⟨bs, x, hc⟩ : ∃ bs x, canF v = (bs, x) := ⟨_, _, rfl⟩
    have HC := Lib.hid (refcanon_ok (HV.out.below HB1.out) (HT.out.below HB1.out) hc)
    clear hc
    go_wp2_with fail
    refine HC.out.mono ?_
    rintro en w2 ⟨rfl, b2⟩
    have HB2 := Lib.hid (HB1.out.then_ b2)
    clear b2 d0 d1 d2 d3 d4 d5
    go_wp2_with fail
    go_ret
    exact ⟨_, rfl, fun _ => HRV.out, HB2.out⟩
def GrPost (e : Ev) (w : World) (en : Ending) (w' : World) : Prop := ∃ r, en = .returned (.bool r) ∧ (r = false → GF e 2048 ∧ risV e.ct = true) ∧ Below w.heap.size w w'
set_option maxHeartbeats 4000000 in
theorem great0_calls (e : Ev) (a : Ea) (w : World) (he : EOk w e a) (hT : TabJ w) : Calls Tryd.prog 7 #[.agg (evC e a).toArray, .slice none 0 0] w (GrPost e w) := by
  have b0 : Below w.heap.size w (w.alloc (.cells (evC e a).toArray 29)) := (Below.refl _ _).alloc (Nat.le_refl _) _
  have HB := Lib.hid b0
  have HX := Lib.hid (Blk.new w (evC e a) 29)
  have HE := Lib.hid he
  have HT := Lib.hid hT
  have HG := Lib.hid (refgreat_calls e a 2048 _ (he.below b0) (by decide))
  have hx := HX.out
  have d0 := hx.cell (k := 0) rfl; have d1 := hx.cell (k := 1) rfl; have d2 := hx.cell (k := 2) rfl; have d3 := hx.cell (k := 3) rfl; have d4 := hx.cell (k := 4) rfl; have d5 := hx.cell (k := 5) rfl; have d6 := hx.cell (k := 6) rfl; have d7 := hx.cell (k := 7) rfl; have d8 := hx.cell (k := 8) rfl; have d9 := hx.cell (k := 9) rfl; have d10 := hx.cell (k := 10) rfl; have d11 := hx.cell (k := 11) rfl; have d12 := hx.cell (k := 12) rfl; have d13 := hx.cell (k := 13) rfl; have d14 := hx.cell (k := 14) rfl; have d15 := hx.cell (k := 15) rfl; have d16 := hx.cell (k := 16) rfl
  clear he hT b0 hx
  go_enter Tryd.func7, Tryd.ntmps7
  go_wp2_with fail
  refine HG.out.mono ?_
  rintro en w1 ⟨r1, rfl, hr1, b1⟩
  have HB1 := Lib.hid (HB.out.then_ b1)
  have HR1 := Lib.hid hr1
  have hx := HX.out.later b1
  clear d0 d1 d2 d3 d4 d5 d6 d7 d8 d9 d10 d11 d12 d13 d14 d15 d16
  have d0 := hx.cell (k := 0) rfl; have d1 := hx.cell (k := 1) rfl; have d2 := hx.cell (k := 2) rfl; have d3 := hx.cell (k := 3) rfl; have d4 := hx.cell (k := 4) rfl; have d5 := hx.cell (k := 5) rfl; have d6 := hx.cell (k := 6) rfl; have d7 := hx.cell (k := 7) rfl; have d8 := hx.cell (k := 8) rfl; have d9 := hx.cell (k := 9) rfl; have d10 := hx.cell (k := 10) rfl; have d11 := hx.cell (k := 11) rfl; have d12 := hx.cell (k := 12) rfl; have d13 := hx.cell (k := 13) rfl; have d14 := hx.cell (k := 14) rfl; have d15 := hx.cell (k := 15) rfl; have d16 := hx.cell (k := 16) rfl
  clear b1 hx hr1
  cases r1 with
  | true =>
    go_wp2_with fail
    go_ret
    exact ⟨true, rfl, fun h => (by cases h), HB1.out⟩
  | false =>
    have HU := Lib.hid (unfit_calls e.ct a.A a.B a.nl a.cl a.nm a.cm w1 (HE.out.1.below HB1.out) (HT.out.below HB1.out))
    go_wp2_with fail
    refine HU.out.mono ?_
    rintro en w2 ⟨r2, rfl, hr2, b2⟩
    have HB2 := Lib.hid (HB1.out.then_ b2)
    have HR2 := Lib.hid hr2
    clear d0 d1 d2 d3 d4 d5 d6 d7 d8 d9 d10 d11 d12 d13 d14 d15 d16 b2 hr2
    cases r2 with
    | true =>
      go_wp2_with fail
      go_ret
      exact ⟨true, rfl, fun h => (by cases h), HB2.out⟩
    | false =>
      go_wp2_with fail
      go_loopw [21] (fun i wr => i = .int .i64 0 ∧ wr = w2) (fun i _ => 0)
      case atStart => exact ⟨rfl, rfl⟩
      case round =>
        obtain ⟨rfl, rfl⟩ := hrel
        go_wp2_with fail
        go_ret
        exact ⟨false, rfl, fun _ => ⟨HR1.out (by trivial), HR2.out (by trivial)⟩, HB2.out⟩
end Go.Proofs.YtpleminoiodmgaaDoor
namespace Go.Proofs.YtpleminoiodmgaaDoor
open Go.RowKit
set_option linter.unusedVariables false
section
variable {α : Type} {k : Nat} {f : α → List Value} (hf : ∀ y, (f y).length = k)
include hf
theorem fm_len : ∀ l : List α, (l.flatMap f).length = l.length * k
  | [] => by simp
  | y :: l => by rw [List.flatMap_cons, List.length_append, hf, fm_len l, List.length_cons, Nat.succ_mul]; omega
theorem fm_get : ∀ {l : List α} {i j : Nat} (hi : i < l.length) (hj : j < k), (l.flatMap f)[i * k + j]? = (f (l[i]))[j]?
  | y :: l, 0, j, hi, hj => by
    rw [List.flatMap_cons, Nat.zero_mul, Nat.zero_add, List.getElem?_append_left (by rw [hf]; exact hj)]; rfl
  | y :: l, i + 1, j, hi, hj => by
    rw [List.flatMap_cons, List.getElem?_append_right (by rw [hf, Nat.succ_mul]; omega), hf, show (i + 1) * k + j - k = i * k + j by rw [Nat.succ_mul]; omega]
    exact fm_get (l := l) (by simpa using hi) hj
theorem fm_of (hk : 0 < k) : ∀ {l : List α} {q : Nat} {v : Value}, (l.flatMap f)[q]? = some v → ∃ i j, ∃ hi : i < l.length, j < k ∧ q = i * k + j ∧ (f (l[i]))[j]? = some v
  | [], q, v, h => by simp at h
  | y :: l, q, v, h => by
    rw [List.flatMap_cons] at h
    by_cases hq : q < k
    · rw [List.getElem?_append_left (by rw [hf]; exact hq)] at h
      exact ⟨0, q, by simp, hq, by simp, h⟩
    · rw [List.getElem?_append_right (by rw [hf]; omega), hf] at h
      obtain ⟨i, j, hi, hj, e, hv⟩ := fm_of hk h
      exact ⟨i + 1, j, by simpa using hi, hj, by rw [Nat.succ_mul]; omega, hv⟩
/-- An element of such a row, as cells that lie behind one another. -/
theorem fm_row (hk : 0 < k) {w wr : World} {A : Option Addr} {xs : List α} (h : RV w A (xs.flatMap f)) (hb : Below w.heap.size w wr) {i : Nat} (hi : i < xs.length) : ∃ b off, A = some ⟨b, off, none⟩ ∧ b < w.heap.size ∧ wr.rangeAt b (off + i * k) (f (xs[i])) := by
  obtain ⟨y, hy⟩ : ∃ y, (f (xs[i]))[0]? = some y := ⟨_, List.getElem?_eq_getElem (by rw [hf (xs[i])]; exact hk)⟩
  obtain ⟨b, off, rfl, hb0, h0⟩ := h (i * k + 0) y (by rw [fm_get hf hi hk]; exact hy)
  refine ⟨b, off, rfl, hb0, fun j v hj => ?_⟩
  have hjk : j < k := by have := (List.getElem?_eq_some_iff.1 hj).1; rw [hf (xs[i])] at this; exact this
  obtain ⟨b1, off1, e1, _, h1⟩ := h (i * k + j) v (by rw [fm_get hf hi hjk]; exact hj)
  injection e1 with e1; injection e1 with e1 e2
  subst e1; subst e2
  rw [Nat.add_assoc, hb.cell (p := ⟨b, off + (i * k + j), none⟩) hb0]
  exact h1
variable {H : Type} {enc : TypeId × Value → H} {w : World} {base : Nat} {held : Bool}
theorem rows_open (Q : α → Prop) {t e : TypeId} (hk : 0 < k) (ht : Tryd.prog.underlying t = some (.slice e)) (hc : Tryd.prog.cellsOf e = k)
    (hel : ∀ {n cs x}, DataW.trod enc Tryd.prog w base (fun _ => true) held n e cs = some x → (∀ q ∈ x.1.weights Tryd.prog e, q ≤ reachBytes) → ∃ y, cs = f y ∧ Q y) {A : Option Addr} {n c : Nat} {d : DataW H} {p : List MemPlace}
    (h : DataW.Trod enc Tryd.prog w base (fun _ => true) held t (.slice A n c) d p) (hby : 1 ≤ Tryd.prog.bytesOf e) (hwt : ∀ q ∈ d.weights Tryd.prog t, q ≤ reachBytes) : ∃ xs : List α, RV w A (xs.flatMap f) ∧ Hid (n = xs.length) ∧ n ≤ c ∧ c ≤ 2 ^ 47 ∧ ∀ x ∈ xs, Q x := by
  obtain ⟨fuel, hf1⟩ := h
  have hrch : reachBytes < 2 ^ 47 := by decide
  rcases Deep.open_slice ht hf1 with ⟨hcs, _⟩ | ⟨a, len, cap, m, q, D, Pl, hcs, hb, hl, hm, hmm, hx, hall⟩
  · simp [Value.cells] at hcs
    obtain ⟨rfl, rfl, rfl⟩ := hcs
    exact ⟨[], RV.nil _ _, Lib.hid rfl, Nat.le_refl _, by decide, by simp⟩
  · simp [Value.cells] at hcs
    obtain ⟨rfl, rfl, rfl⟩ := hcs
    simp only [if_true] at hmm
    subst hmm
    rw [hc] at hall
    injection hx with hx _
    subst hx
    have hcap : m ≤ 2 ^ 47 := by
      have h1 := hwt ((((List.range n).map D).length + ((List.range (m - n)).map fun j => D (n + j)).length) * Tryd.prog.bytesOf e) (by simp [DataW.weights, ht])
      have h2 : ((List.range n).map D).length + ((List.range (m - n)).map fun j => D (n + j)).length = m := by simp; omega
      rw [h2] at h1
      have h3 : m * 1 ≤ m * Tryd.prog.bytesOf e := Nat.mul_le_mul_left m hby
      omega
    have each : ∀ i, i < n → ∃ y : α, Q y ∧ ∀ j, j < k → w.cell? ((a.add (i * k)).add j) = (f y)[j]? := by
      intro i hi
      obtain ⟨cs, h1, h2⟩ := hall i (by omega)
      obtain ⟨_, hlen, hcc⟩ := World.cells?_some h1
      obtain ⟨y, e1, e2⟩ := hel h2 (fun q hq => by
        refine hwt q ?_
        have key : ∀ (l : List (DataW H)), D i ∈ l → q ∈ DataW.weightsAll Tryd.prog e l := by
          intro l
          induction l with
          | nil => intro h; cases h
          | cons x l ih =>
            intro h
            simp only [DataW.weightsAll, List.mem_append]
            rcases List.mem_cons.1 h with rfl | h
            · exact .inl hq
            · exact .inr (ih h)
        have := key ((List.range n).map D) (List.mem_map.2 ⟨i, List.mem_range.2 hi, rfl⟩)
        simp only [DataW.weights, ht, List.mem_cons, List.mem_append]
        exact .inr (.inl this))
      exact ⟨y, e2, fun j hj => by rw [hcc j hj, e1]⟩
    rcases Nat.eq_zero_or_pos n with h0 | h0
    · subst h0
      exact ⟨[], fun k v h => by simp at h, Lib.hid rfl, hl, hcap, by simp⟩
    obtain ⟨y0, hy0, _⟩ := each 0 h0
    obtain ⟨y, hy⟩ : ∃ y : Nat → α, ∀ i, i < n → Q (y i) ∧ ∀ j, j < k → w.cell? ((a.add (i * k)).add j) = (f (y i))[j]? :=
      ⟨fun i => if hi : i < n then Classical.choose (each i hi) else y0, fun i hi => by simp only [dif_pos hi]; exact Classical.choose_spec (each i hi)⟩
    refine ⟨(List.range n).map y, fun q v hq => ?_, Lib.hid (by simp), hl, hcap, ?_⟩
    · obtain ⟨i, j, hi, hj, rfl, hv⟩ := fm_of hf hk hq
      have hi2 : i < n := by simpa using hi
      have eg : ((List.range n).map y)[i] = y i := by simp
      rw [eg] at hv
      obtain ⟨b, off, spot⟩ := a
      have h5 := (hy i hi2).2 j hj
      rw [hv] at h5
      have h00 := (hy 0 h0).2 0 hk
      have hspot : spot = none := by
        obtain ⟨v0, hv0⟩ : ∃ v0, (f (y 0))[0]? = some v0 := ⟨_, List.getElem?_eq_getElem (by rw [hf]; exact hk)⟩
        rw [hv0] at h00
        simpa [Addr.add] using World.cell?_spot h00
      subst hspot
      have hplain : ((⟨b, off, none⟩ : Addr).add (i * k)).add j = ⟨b, off + (i * k + j), none⟩ := by
        rw [← Nat.add_assoc]; unfold Addr.add; split <;> split <;> simp_all
      rw [hplain] at h5
      exact ⟨b, off, rfl, World.block_lt_of_cell? w _ h5, h5⟩
    · intro x hx
      obtain ⟨i, hi, rfl⟩ := List.mem_map.1 hx
      exact (hy i (List.mem_range.1 hi)).1
end
end Go.Proofs.YtpleminoiodmgaaDoor
