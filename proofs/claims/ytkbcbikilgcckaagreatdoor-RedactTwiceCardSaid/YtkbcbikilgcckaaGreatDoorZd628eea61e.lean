/- Texts put together: JvP JwT IdRu IdR. -/
import Derived.Test.YtkbcbikilgcckaaGreatDoorZ96a3f97073
import Derived.Test.YtkbcbikilgcckaaGreatDoorZe0ec6b32e3
import Derived.Test.YtkbcbikilgcckaaGreatDoorZb7a4c958af
namespace Go.Proofs.YtkbcbikilgcckaaGreatDoor
open Go.ChangeShapes Go.WideShapes Go.ChangeAt Go.RowKit Go.IntWalk
set_option linter.unusedVariables false
set_option maxRecDepth 100000

theorem Nb.drewN {base : Nat} {w w1 : World} (h : Nb base w w1) (n : Nat) : Nb base w (w1.drewN n) := ⟨h.os, h.tape, h.output, h.size, h.low, h.box⟩
set_option maxHeartbeats 16000000 in
theorem refval_5 (N : Nat) (IH : RefC N) (is : Bool) (n : Int) (s : List UInt8) (l m : JT) (deep : Nat) (base : Nat) (v : Value) (b : List UInt8) (w : World) (A B : Option Addr) (nl cl nm cm : Nat) (hB : base ≤ w.heap.size) (rl : Room nl cl l.ext) (rm : Room nm cm m.ext) (h : OwnBs base w v b) (hb : b.length ≤ 65536) (hT : PowT base w) (hN : m.bulk ≤ N) (hd : deep ≤ 32) (sm : JSl (· < base) w true B m) (hj : (⟨5, is, n, s, l, m⟩ : Jv).bare = true) :
    Calls Tryz.prog 68 #[v, .agg #[.int .i64 5, .bool is, .int .i64 n, .string ⟨s.toArray⟩, .slice A nl cl, .slice B nm cm], .int .i64 (deep : Int)] w (REnd base w (wrV ⟨5, is, n, s, l, m⟩ deep b)) := by
  have HS := fun w => refbare_calls ⟨5, is, n, s, l, m⟩ A B nl cl nm cm w rl rm
  have E0 := Lib.hid (wrV_5 (v := ⟨5, is, n, s, l, m⟩) hj rfl deep b)
  simp only [hj] at HS
  have H := Lib.hid h
  have HX := Lib.hid hT
  have HSL := Lib.hid sm
  obtain ⟨rfl, hnc, hcm⟩ := rm
  obtain ⟨mm, hmm⟩ : ∃ mm, m.ext = mm := ⟨_, rfl⟩
  have HM := Lib.hid hmm
  rw [hmm] at hnc hcm
  simp only [hmm] at HS ⊢
  clear rl hT hj h sm hmm
  try dsimp only at *
  by_cases hdd : 32 ≤ deep
  · have hd32 : deep = 32 := by omega
    have hdq : ((deep : Int) == 32) = true := by rw [hd32]; rfl
    have HE := Lib.hid (show wrV ⟨5, is, n, s, l, m⟩ deep b = .error 5 by rw [E0.out]; unfold wrM; rw [if_pos hdd]; rfl)
    clear E0 hd32 hdd
    go_enter Tryz.func68, Tryz.ntmps68
    go_wp2_with fail
    refine (HS _).mono ?_
    rintro e w1 ⟨rfl, b1⟩
    have hb1 : Below w.heap.size w w1 := ((Below.refl _ _).alloc (Nat.le_refl _) _).trans (b1.mono (by simp))
    have bx := (Blk.new w [.int .i64 5, .bool is, .int .i64 n, .string ⟨s.toArray⟩, .slice A nl cl, .slice B mm cm] 25).later b1
    have d0 := bx.cell (k := 0) rfl
    have d1 := bx.cell (k := 1) rfl
    have d2 := bx.cell (k := 2) rfl
    have d3 := bx.cell (k := 3) rfl
    have d4 := bx.cell (k := 4) rfl
    have d5 := bx.cell (k := 5) rfl
    have HB1 := Lib.hid hb1
    have hB1 : base ≤ w1.heap.size := Nat.le_trans hB hb1.size
    have BX := Lib.hid bx
    clear b1 hb1 bx
    have HO1 := Lib.hid (H.out.nbx HB1.out)
    go_wp2_with fail
    go_ret2
    exact REnd.bad HE.out (Nb.of_below HB1.out hB) (by decide)
  · have hdq : ((deep : Int) == 32) = false := by rw [beq_eq_false_iff_ne]; omega
    have HE0 := Lib.hid (show wrV ⟨5, is, n, s, l, m⟩ deep b = (lng (b ++ [123])).then fun b => (wrF true m (deep + 1) none b).then fun b => lng (b ++ [125]) by rw [E0.out]; unfold wrM; rw [if_neg hdd])
    clear E0
    -- the bracket
    obtain ⟨R0, hR0⟩ : ∃ R0, lng (b ++ [123]) = R0 := ⟨_, rfl⟩
    have HR0 := Lib.hid hR0
    clear hR0
    go_enter Tryz.func68, Tryz.ntmps68
    go_wp2_with fail
    refine (HS _).mono ?_
    rintro e w1 ⟨rfl, b1⟩
    have hb1 : Below w.heap.size w w1 := ((Below.refl _ _).alloc (Nat.le_refl _) _).trans (b1.mono (by simp))
    have bx := (Blk.new w [.int .i64 5, .bool is, .int .i64 n, .string ⟨s.toArray⟩, .slice A nl cl, .slice B mm cm] 25).later b1
    have d0 := bx.cell (k := 0) rfl
    have d1 := bx.cell (k := 1) rfl
    have d2 := bx.cell (k := 2) rfl
    have d3 := bx.cell (k := 3) rfl
    have d4 := bx.cell (k := 4) rfl
    have d5 := bx.cell (k := 5) rfl
    have HB1 := Lib.hid hb1
    have hB1 : base ≤ w1.heap.size := Nat.le_trans hB hb1.size
    have BX := Lib.hid bx
    clear b1 hb1 bx
    have HO1 := Lib.hid (H.out.nbx HB1.out)
    have NB1 := Lib.hid (Nb.of_below HB1.out hB)
    go_wp2_with (at_builtin; refine wpList_append_u8 rfl _ _ rfl base v b rfl HO1.out 123 (by rfl) rfl (by omega) hB1 ?_; intro va wa owna gba; have NA := Lib.hid ((Lib.hid (Nb.refl base w1)).out.trans (Nb.of_gb gba HO1.out hB1)); have HA := Lib.hid owna; clear owna gba)
    refine (reflong_calls base va _ _ HA.out).mono ?_
    intro e w3 hE
    -- how it ended
    obtain ⟨vb, ve, rfl, n13, hq⟩ : ∃ vb ve, e = .returned (.tuple #[vb, .int .i64 ve]) ∧ Nb base wa w3 ∧ ∃ R : Res, wrV ⟨5, is, n, s, l, m⟩ deep b = (R.then fun b => lng (b ++ [125])) ∧ QStep R true m (deep + 1) 0 base w w3 vb (.int .i64 ve) := by
      cases hr : lng (b ++ [123]) with
      | ok b1 =>
        obtain ⟨n3, hl3, v3, rfl, o3⟩ := REnd.of_ok hr hE
        exact ⟨v3, 0, rfl, n3, _, by rw [HE0.out, hr]; rfl, (NB1.out.trans NA.out).trans n3, .inl ⟨b1, by rw [JT.fall_zero]; rfl, rfl, o3, hl3⟩⟩
      | error x =>
        obtain ⟨n3, hx, rfl⟩ := REnd.of_bad hr hE
        exact ⟨_, x, rfl, n3, .error x, by rw [HE0.out, hr]; rfl, (NB1.out.trans NA.out).trans n3, .inr ⟨x, hx, rfl, rfl⟩⟩
    obtain ⟨R, hRe, hQ⟩ := hq
    have BX3 := Lib.hid ((NA.out.trans n13).blk BX.out (by decide))
    have HQ := Lib.hid hQ
    have HRE := Lib.hid hRe
    clear hE hQ hRe HE0 n13
    go_wp2_with fail
    clear d0 d1 d2 d3 d4 d5
    go_loopw [0, 11, 12] (fun bv ev iv wr => ∃ (k : Nat) (xe : Int), k ≤ mm ∧ iv = .int .i64 (k : Int) ∧ ev = .int .i64 xe ∧ Hid (QStep R true m (deep + 1) k base w wr bv (.int .i64 xe)) ∧ Hid (Blk wr w.heap.size 25 [.int .i64 5, .bool is, .int .i64 n, .string ⟨s.toArray⟩, .slice A nl cl, .slice B mm cm])) (fun _ _ iv _ => mm - (intOf iv).toNat)
    case atStart => exact ⟨0, ve, Nat.zero_le _, rfl, rfl, HQ, BX3⟩
    case round =>
      obtain ⟨k, xe, hk, rfl, rfl, hQk, hBk⟩ := hrel
      clear HQ BX3
      have d0 := hBk.out.cell (k := 0) rfl; have d1 := hBk.out.cell (k := 1) rfl; have d2 := hBk.out.cell (k := 2) rfl; have d3 := hBk.out.cell (k := 3) rfl; have d4 := hBk.out.cell (k := 4) rfl; have d5 := hBk.out.cell (k := 5) rfl
      obtain ⟨nq, hq⟩ := hQk.out
      have NQ := Lib.hid nq
      clear nq hQk
      rcases hq with ⟨bk, hR, he, ho, hbk⟩ | ⟨x, hx, hR, he⟩
      · injection he with _ he
        subst he
        have HO := Lib.hid ho
        have hBr : base ≤ wr.heap.size := Nat.le_trans hB NQ.out.size
        clear ho
        by_cases hlt : k < mm
        · have HLS := Lib.hid (show R = (wrK true (prevK m k) (m.fall k).key bk).then fun b => (wrV (m.fall k).val (deep + 1) b).then fun b => wrF true (m.fall (k + 1)) (deep + 1) (prevK m (k + 1)) b by rw [hR, wrF_step _ _ _ _ _ (by rw [HM.out]; exact hlt)])
          obtain ⟨eu, hev⟩ : ∃ eu, (m.fall k).val = eu := ⟨_, rfl⟩
          obtain ⟨ek, hek⟩ : ∃ ek, (m.fall k).key = ek := ⟨_, rfl⟩
          rw [hev, hek] at HLS
          have hbe : eu.bulk ≤ N := by rw [← hev]; exact Nat.le_trans (JT.bulk_val m k (by rw [HM.out]; exact hlt)) hN
          have HEV := Lib.hid (And.intro hev hek)
          clear hR hev hek
          by_cases hk0 : 0 < k
          · have hk1 : decide (0 < k) = true := by simpa using hk0
            obtain ⟨pk, hpk⟩ : ∃ pk, (m.fall (k - 1)).key = pk := ⟨_, rfl⟩
            have HPK := Lib.hid hpk
            have HLS1 := Lib.hid (show R = (lng (bk ++ [44])).then fun b => if leqB ek pk then .error 1 else wrT m k deep ek eu b by rw [HLS.out, prevK_pos hk0, wrK_mS, hpk])
            have HKP := Lib.hid hk0
            clear hk0 hpk
            go_wp2_with (at_builtin; refine wpList_append_u8 rfl _ _ rfl base _ bk rfl HO.out 44 (by rfl) rfl (by omega) hBr ?_; intro va wa owna gba; have NA := Lib.hid ((Lib.hid (Nb.refl base wr)).out.trans (Nb.of_gb gba HO.out hBr)); have HA := Lib.hid owna; clear owna gba)
            refine (reflong_calls base va _ _ HA.out).mono ?_
            intro e w5 hE
            cases hr : lng (bk ++ [44]) with
            | error x =>
              obtain ⟨n5, hx, rfl⟩ := REnd.of_bad hr hE
              have HB5 := Lib.hid ((NA.out.trans n5).blk hBk.out (by decide))
              have NT := Lib.hid ((NQ.out.trans NA.out).trans n5)
              have HE5 := Lib.hid (And.intro hx (show R = .error x by rw [HLS1.out, hr]; rfl))
              have hx1 : (x == 0) = false := by rw [beq_eq_false_iff_ne]; exact hx
              clear hE hr n5 hx d0 d1 d2 d3 d4 d5
              go_wp2_with fail
              go_quiet (fail)
              have HB6 := Lib.hid (HB5.out.drewN nq)
              have HQ6 := Lib.hid (show QStep R true m (deep + 1) (k + 1) base w (w5.drewN nq) (.slice none 0 0) (.int .i64 x) from ⟨NT.out.drewN nq, .inr ⟨x, HE5.out.1, HE5.out.2, rfl⟩⟩)
              go_wp2_with fail
              go_roundw
              case rel => exact ⟨k + 1, x, by omega, by go_num, rfl, HQ6, HB6⟩
              case measure => simp [intOf]; omega
            | ok b2 =>
              obtain ⟨n5, hl2, v2, rfl, o5⟩ := REnd.of_ok hr hE
              have HB5 := Lib.hid ((NA.out.trans n5).blk hBk.out (by decide))
              have N5 := Lib.hid ((NQ.out.trans NA.out).trans n5)
              have O5 := Lib.hid o5
              have HLS2a := Lib.hid (show R = if leqB ek pk then .error 1 else wrT m k deep ek eu b2 by rw [HLS1.out, hr]; rfl)
              clear hE hr n5 o5
              clear d0 d1 d2 d3 d4 d5; have d0 := HB5.out.cell (k := 0) rfl; have d1 := HB5.out.cell (k := 1) rfl; have d2 := HB5.out.cell (k := 2) rfl; have d3 := HB5.out.cell (k := 3) rfl; have d4 := HB5.out.cell (k := 4) rfl; have d5 := HB5.out.cell (k := 5) rfl
              have HO5 := Lib.hid (HSL.out.blw N5.out.below)
              obtain ⟨eb, eo, _, _, _, _, _, _, rfl, _, _, eK, _, erest⟩ := HO5.out.mb _ (by rw [HM.out]; exact hlt)
              clear erest
              obtain ⟨qb, qo, _, _, _, _, _, _, qe, _, _, p0, prest⟩ := HO5.out.mb (i := k - 1) _ (by rw [HM.out]; omega)
              clear prest
              injection qe with qe; injection qe with qe1 qe2
              subst qe1; subst qe2
              rw [HPK.out] at p0
              rw [HEV.out.2] at eK
              have hwk : IntKind.i64.wrap ((k : Int) - 1) = ((k - 1 : Nat) : Int) := by rw [IntWalk.i64_in _ (by omega)]; have := HKP.out; omega
              cases hle : leqB ek pk with
              | true =>
                have HE5 := Lib.hid (show R = .error 1 by rw [HLS2a.out, hle]; rfl)
                unfold leqB at hle
                go_wp2_with fail
                go_quiet (fail)
                clear p0 eK hwk hle
                have HB6 := Lib.hid (HB5.out.drewN nq)
                have HQ6 := Lib.hid (show QStep R true m (deep + 1) (k + 1) base w (w5.drewN nq) v2 (.int .i64 1) from ⟨N5.out.drewN nq, .inr ⟨1, by decide, HE5.out, rfl⟩⟩)
                go_wp2_with fail
                go_roundw
                case rel => exact ⟨k + 1, 1, by omega, by go_num, rfl, HQ6, HB6⟩
                case measure => simp [intOf]; omega
              | false =>
                have HLS2 := Lib.hid (show R = wrT m k deep ek eu b2 by rw [HLS2a.out, hle]; rfl)
                unfold leqB at hle
                go_wp2_with fail
                go_quiet (fail)
                clear p0 eK hwk hle
                have HB6 := Lib.hid (HB5.out.drewN nq)
                have N6 := Lib.hid (N5.out.drewN nq)
                have O6 := Lib.hid (show OwnBs base (w5.drewN nq) v2 b2 from O5.out)
                have HLS3 := Lib.hid (show R = (txt b2 ek).then fun b => (lng (b ++ [58])).then fun b => (wrV eu (deep + 1) b).then fun b => wrF true (m.fall (k + 1)) (deep + 1) (prevK m (k + 1)) b by rw [HLS2.out]; rfl)
                obtain ⟨eb', eo', eA, enl, ecl, eB, enm, ecm, qe, eP, ebl, eK, eKl, e0, e1, e2, e3, e4, e5, r1, r2, s1, s2, hf⟩ := (HSL.out.blw N6.out.below).mb _ (by rw [HM.out]; exact hlt)
                injection qe with qe; injection qe with qe1 qe2; subst qe1; subst qe2
                rw [(HEV.out).2] at eK eKl
                clear e0 e1 e2 e3 e4 e5 r1 r2 s1 s2 hf
                have HT2 := reftext_calls base v2 b2 ek (w5.drewN nq) O6.out hl2 (Nat.le_trans hB N6.out.size) eKl
                go_wp2_with fail
                refine HT2.mono ?_
                intro e w3 hE
                clear HT2 eK
                cases hr : txt b2 ek with
                | error x =>
                  obtain ⟨n3, hx, rfl⟩ := REnd.of_bad hr hE
                  have HB3 := Lib.hid (n3.blk HB6.out (by decide))
                  have HQ3 := Lib.hid (show QStep R true m (deep + 1) (k + 1) base w w3 (.slice none 0 0) (.int .i64 x) from ⟨N6.out.trans (n3), .inr ⟨x, hx, by rw [HLS3.out, hr]; rfl, rfl⟩⟩)
                  have hx1 : (x == 0) = false := by rw [beq_eq_false_iff_ne]; exact hx
                  clear hE hr n3 hx
                  go_wp2_with fail
                  go_roundw
                  case rel => exact ⟨k + 1, x, by omega, by go_num, rfl, HQ3, HB3⟩
                  case measure => simp [intOf]; omega
                | ok b3 =>
                  obtain ⟨n3, hl3, v3, rfl, o3⟩ := REnd.of_ok hr hE
                  have HLS4 := Lib.hid (show R = (lng (b3 ++ [58])).then fun b => (wrV eu (deep + 1) b).then fun b => wrF true (m.fall (k + 1)) (deep + 1) (prevK m (k + 1)) b by rw [HLS3.out, hr]; rfl)
                  have N3 := Lib.hid (N6.out.trans n3)
                  have O3 := Lib.hid o3
                  have HB3 := Lib.hid (n3.blk HB6.out (by decide))
                  have hB3 : base ≤ w3.heap.size := Nat.le_trans hB N3.out.size
                  clear hE hr n3 o3
                  try clear d0 d1 d2 d3 d4 d5
                  have d0 := HB3.out.cell (k := 0) rfl; have d1 := HB3.out.cell (k := 1) rfl; have d2 := HB3.out.cell (k := 2) rfl; have d3 := HB3.out.cell (k := 3) rfl; have d4 := HB3.out.cell (k := 4) rfl; have d5 := HB3.out.cell (k := 5) rfl
                  go_wp2_with (at_builtin; refine wpList_append_u8 rfl _ _ rfl base _ b3 rfl O3.out 58 (by rfl) rfl (by omega) hB3 ?_; intro va wa owna gba; have NA := Lib.hid ((Lib.hid (Nb.refl base w3)).out.trans (Nb.of_gb gba O3.out hB3)); have HA := Lib.hid owna; clear owna gba)
                  refine (reflong_calls base va _ _ HA.out).mono ?_
                  intro e w4 hE
                  cases hr : lng (b3 ++ [58]) with
                  | error x =>
                    obtain ⟨n4, hx, rfl⟩ := REnd.of_bad hr hE
                    have HB4 := Lib.hid ((NA.out.trans n4).blk HB3.out (by decide))
                    have HQ4 := Lib.hid (show QStep R true m (deep + 1) (k + 1) base w w4 (.slice none 0 0) (.int .i64 x) from ⟨N3.out.trans ((NA.out.trans n4)), .inr ⟨x, hx, by rw [HLS4.out, hr]; rfl, rfl⟩⟩)
                    have hx1 : (x == 0) = false := by rw [beq_eq_false_iff_ne]; exact hx
                    clear hE hr n4 hx
                    go_wp2_with fail
                    go_roundw
                    case rel => exact ⟨k + 1, x, by omega, by go_num, rfl, HQ4, HB4⟩
                    case measure => simp [intOf]; omega
                  | ok b4 =>
                    obtain ⟨n4, hl4, v4, rfl, o4⟩ := REnd.of_ok hr hE
                    have HLS5 := Lib.hid (show R = (wrV eu (deep + 1) b4).then fun b => wrF true (m.fall (k + 1)) (deep + 1) (prevK m (k + 1)) b by rw [HLS4.out, hr]; rfl)
                    have N4 := Lib.hid ((N3.out.trans NA.out).trans n4)
                    have O4 := Lib.hid o4
                    have HB4 := Lib.hid ((NA.out.trans n4).blk HB3.out (by decide))
                    clear hE hr n4 o4 d0 d1 d2 d3 d4 d5
                    have d0 := HB4.out.cell (k := 0) rfl; have d1 := HB4.out.cell (k := 1) rfl; have d2 := HB4.out.cell (k := 2) rfl; have d3 := HB4.out.cell (k := 3) rfl; have d4 := HB4.out.cell (k := 4) rfl; have d5 := HB4.out.cell (k := 5) rfl
                    obtain ⟨eb', eo', eA, enl, ecl, eB, enm, ecm, qe, eP, ebl, eK, eKl, e0, e1, e2, e3, e4, e5, r1, r2, s1, s2, hf⟩ := (HSL.out.blw N4.out.below).mb _ (by rw [HM.out]; exact hlt)
                    injection qe with qe; injection qe with qe1 qe2; subst qe1; subst qe2
                    rw [(HEV.out).1] at e0 e1 e2 e3 r1 r2 s1 s2 hf
                    have HV := IH eu (deep + 1) ((deep : Int) + 1) base v4 b4 w4 eA eB enl ecl enm ecm hbe (by omega) (by omega) (Nat.le_trans hB N4.out.size) r1 r2 s1 s2 hf O4.out hl4 (HX.out.blw N4.out.below)
                    clear r1 r2 s1 s2 hf eK
                    go_wp2_with fail
                    refine HV.mono ?_
                    intro e w7 hE
                    clear e0 e1 e2 e3 e4 e5 HV
                    cases hr : wrV eu (deep + 1) b4 with
                    | error x =>
                      obtain ⟨n7, hx, rfl⟩ := REnd.of_bad hr hE
                      have HB7 := Lib.hid (n7.blk HB4.out (by decide))
                      have HQ7 := Lib.hid (show QStep R true m (deep + 1) (k + 1) base w w7 (.slice none 0 0) (.int .i64 x) from ⟨N4.out.trans (n7), .inr ⟨x, hx, by rw [HLS5.out, hr]; rfl, rfl⟩⟩)
                      have hx1 : (x == 0) = false := by rw [beq_eq_false_iff_ne]; exact hx
                      clear hE hr n7 hx
                      go_wp2_with fail
                      go_roundw
                      case rel => exact ⟨k + 1, x, by omega, by go_num, rfl, HQ7, HB7⟩
                      case measure => simp [intOf]; omega
                    | ok b7 =>
                      obtain ⟨n7, hl7, v7, rfl, o7⟩ := REnd.of_ok hr hE
                      have HB7 := Lib.hid (n7.blk HB4.out (by decide))
                      have HQ7 := Lib.hid (show QStep R true m (deep + 1) (k + 1) base w w7 v7 (.int .i64 0) from ⟨N4.out.trans n7, .inl ⟨b7, by rw [HLS5.out, hr]; rfl, rfl, o7, hl7⟩⟩)
                      clear hE hr n7 hl7 o7
                      go_wp2_with fail
                      go_roundw
                      case rel => exact ⟨k + 1, 0, by omega, by go_num, rfl, HQ7, HB7⟩
                      case measure => simp [intOf]; omega
          · have hk1 : decide (0 < k) = false := by simpa using hk0
            have HLS2 := Lib.hid (show R = wrT m k deep ek eu bk by rw [HLS.out, show prevK m k = none by unfold prevK; rw [if_pos (by omega)], wrK_m0])
            clear hk0
            obtain ⟨eb, eo, _, _, _, _, _, _, rfl, _, _, erest⟩ := (HSL.out.blw NQ.out.below).mb _ (by rw [HM.out]; exact hlt)
            clear erest
            have HB6 := hBk
            have N6 := NQ
            have O6 := HO
            have HLS3 := Lib.hid (show R = (txt bk ek).then fun b => (lng (b ++ [58])).then fun b => (wrV eu (deep + 1) b).then fun b => wrF true (m.fall (k + 1)) (deep + 1) (prevK m (k + 1)) b by rw [HLS2.out]; rfl)
            obtain ⟨eb', eo', eA, enl, ecl, eB, enm, ecm, qe, eP, ebl, eK, eKl, e0, e1, e2, e3, e4, e5, r1, r2, s1, s2, hf⟩ := (HSL.out.blw N6.out.below).mb _ (by rw [HM.out]; exact hlt)
            injection qe with qe; injection qe with qe1 qe2; subst qe1; subst qe2
            rw [(HEV.out).2] at eK eKl
            clear e0 e1 e2 e3 e4 e5 r1 r2 s1 s2 hf
            have HT2 := reftext_calls base _ bk ek wr O6.out hbk (Nat.le_trans hB N6.out.size) eKl
            go_wp2_with fail
            refine HT2.mono ?_
            intro e w3 hE
            clear HT2 eK
            cases hr : txt bk ek with
            | error x =>
              obtain ⟨n3, hx, rfl⟩ := REnd.of_bad hr hE
              have HB3 := Lib.hid (n3.blk HB6.out (by decide))
              have HQ3 := Lib.hid (show QStep R true m (deep + 1) (k + 1) base w w3 (.slice none 0 0) (.int .i64 x) from ⟨N6.out.trans (n3), .inr ⟨x, hx, by rw [HLS3.out, hr]; rfl, rfl⟩⟩)
              have hx1 : (x == 0) = false := by rw [beq_eq_false_iff_ne]; exact hx
              clear hE hr n3 hx
              go_wp2_with fail
              go_roundw
              case rel => exact ⟨k + 1, x, by omega, by go_num, rfl, HQ3, HB3⟩
              case measure => simp [intOf]; omega
            | ok b3 =>
              obtain ⟨n3, hl3, v3, rfl, o3⟩ := REnd.of_ok hr hE
              have HLS4 := Lib.hid (show R = (lng (b3 ++ [58])).then fun b => (wrV eu (deep + 1) b).then fun b => wrF true (m.fall (k + 1)) (deep + 1) (prevK m (k + 1)) b by rw [HLS3.out, hr]; rfl)
              have N3 := Lib.hid (N6.out.trans n3)
              have O3 := Lib.hid o3
              have HB3 := Lib.hid (n3.blk HB6.out (by decide))
              have hB3 : base ≤ w3.heap.size := Nat.le_trans hB N3.out.size
              clear hE hr n3 o3
              try clear d0 d1 d2 d3 d4 d5
              have d0 := HB3.out.cell (k := 0) rfl; have d1 := HB3.out.cell (k := 1) rfl; have d2 := HB3.out.cell (k := 2) rfl; have d3 := HB3.out.cell (k := 3) rfl; have d4 := HB3.out.cell (k := 4) rfl; have d5 := HB3.out.cell (k := 5) rfl
              go_wp2_with (at_builtin; refine wpList_append_u8 rfl _ _ rfl base _ b3 rfl O3.out 58 (by rfl) rfl (by omega) hB3 ?_; intro va wa owna gba; have NA := Lib.hid ((Lib.hid (Nb.refl base w3)).out.trans (Nb.of_gb gba O3.out hB3)); have HA := Lib.hid owna; clear owna gba)
              refine (reflong_calls base va _ _ HA.out).mono ?_
              intro e w4 hE
              cases hr : lng (b3 ++ [58]) with
              | error x =>
                obtain ⟨n4, hx, rfl⟩ := REnd.of_bad hr hE
                have HB4 := Lib.hid ((NA.out.trans n4).blk HB3.out (by decide))
                have HQ4 := Lib.hid (show QStep R true m (deep + 1) (k + 1) base w w4 (.slice none 0 0) (.int .i64 x) from ⟨N3.out.trans ((NA.out.trans n4)), .inr ⟨x, hx, by rw [HLS4.out, hr]; rfl, rfl⟩⟩)
                have hx1 : (x == 0) = false := by rw [beq_eq_false_iff_ne]; exact hx
                clear hE hr n4 hx
                go_wp2_with fail
                go_roundw
                case rel => exact ⟨k + 1, x, by omega, by go_num, rfl, HQ4, HB4⟩
                case measure => simp [intOf]; omega
              | ok b4 =>
                obtain ⟨n4, hl4, v4, rfl, o4⟩ := REnd.of_ok hr hE
                have HLS5 := Lib.hid (show R = (wrV eu (deep + 1) b4).then fun b => wrF true (m.fall (k + 1)) (deep + 1) (prevK m (k + 1)) b by rw [HLS4.out, hr]; rfl)
                have N4 := Lib.hid ((N3.out.trans NA.out).trans n4)
                have O4 := Lib.hid o4
                have HB4 := Lib.hid ((NA.out.trans n4).blk HB3.out (by decide))
                clear hE hr n4 o4 d0 d1 d2 d3 d4 d5
                have d0 := HB4.out.cell (k := 0) rfl; have d1 := HB4.out.cell (k := 1) rfl; have d2 := HB4.out.cell (k := 2) rfl; have d3 := HB4.out.cell (k := 3) rfl; have d4 := HB4.out.cell (k := 4) rfl; have d5 := HB4.out.cell (k := 5) rfl
                obtain ⟨eb', eo', eA, enl, ecl, eB, enm, ecm, qe, eP, ebl, eK, eKl, e0, e1, e2, e3, e4, e5, r1, r2, s1, s2, hf⟩ := (HSL.out.blw N4.out.below).mb _ (by rw [HM.out]; exact hlt)
                injection qe with qe; injection qe with qe1 qe2; subst qe1; subst qe2
                rw [(HEV.out).1] at e0 e1 e2 e3 r1 r2 s1 s2 hf
                have HV := IH eu (deep + 1) ((deep : Int) + 1) base v4 b4 w4 eA eB enl ecl enm ecm hbe (by omega) (by omega) (Nat.le_trans hB N4.out.size) r1 r2 s1 s2 hf O4.out hl4 (HX.out.blw N4.out.below)
                clear r1 r2 s1 s2 hf eK
                go_wp2_with fail
                refine HV.mono ?_
                intro e w7 hE
                clear e0 e1 e2 e3 e4 e5 HV
                cases hr : wrV eu (deep + 1) b4 with
                | error x =>
                  obtain ⟨n7, hx, rfl⟩ := REnd.of_bad hr hE
                  have HB7 := Lib.hid (n7.blk HB4.out (by decide))
                  have HQ7 := Lib.hid (show QStep R true m (deep + 1) (k + 1) base w w7 (.slice none 0 0) (.int .i64 x) from ⟨N4.out.trans (n7), .inr ⟨x, hx, by rw [HLS5.out, hr]; rfl, rfl⟩⟩)
                  have hx1 : (x == 0) = false := by rw [beq_eq_false_iff_ne]; exact hx
                  clear hE hr n7 hx
                  go_wp2_with fail
                  go_roundw
                  case rel => exact ⟨k + 1, x, by omega, by go_num, rfl, HQ7, HB7⟩
                  case measure => simp [intOf]; omega
                | ok b7 =>
                  obtain ⟨n7, hl7, v7, rfl, o7⟩ := REnd.of_ok hr hE
                  have HB7 := Lib.hid (n7.blk HB4.out (by decide))
                  have HQ7 := Lib.hid (show QStep R true m (deep + 1) (k + 1) base w w7 v7 (.int .i64 0) from ⟨N4.out.trans n7, .inl ⟨b7, by rw [HLS5.out, hr]; rfl, rfl, o7, hl7⟩⟩)
                  clear hE hr n7 hl7 o7
                  go_wp2_with fail
                  go_roundw
                  case rel => exact ⟨k + 1, 0, by omega, by go_num, rfl, HQ7, HB7⟩
                  case measure => simp [intOf]; omega
        · obtain rfl : k = mm := by omega
          have HRE2 := Lib.hid (show wrV ⟨5, is, n, s, l, m⟩ deep b = lng (bk ++ [125]) by rw [HRE.out, hR, ← HM.out, wrF_end]; rfl)
          clear hR
          go_wp2_with (at_builtin; refine wpList_append_u8 rfl _ _ rfl base _ bk rfl HO.out 125 (by rfl) rfl (by omega) hBr ?_; intro va wa owna gba; have NA := Lib.hid ((Lib.hid (Nb.refl base wr)).out.trans (Nb.of_gb gba HO.out hBr)); have HA := Lib.hid owna; clear owna gba)
          refine (reflong_calls base va _ _ HA.out).mono ?_
          intro e w5 hE
          cases hr : lng (bk ++ [125]) with
          | error x =>
            obtain ⟨n5, hx, rfl⟩ := REnd.of_bad hr hE
            have HF := Lib.hid (And.intro (HRE2.out.trans hr) (And.intro ((NQ.out.trans NA.out).trans n5) hx))
            clear hE hr n5 hx
            go_wp2_with fail
            go_ret2
            exact REnd.bad HF.out.1 HF.out.2.1 HF.out.2.2
          | ok b2 =>
            obtain ⟨n5, hl2, v2, rfl, o5⟩ := REnd.of_ok hr hE
            have HF := Lib.hid (And.intro (HRE2.out.trans hr) (And.intro ((NQ.out.trans NA.out).trans n5) (And.intro hl2 o5)))
            clear hE hr n5 hl2 o5
            go_wp2_with fail
            go_ret2
            exact REnd.ok HF.out.1 HF.out.2.1 HF.out.2.2.1 HF.out.2.2.2
      · injection he with _ he
        subst he
        have HF := Lib.hid (show wrV ⟨5, is, n, s, l, m⟩ deep b = .error xe by rw [HRE.out, hR]; rfl)
        have hx1 : (xe == 0) = false := by rw [beq_eq_false_iff_ne]; exact hx
        have hx2 : (xe != 0) = true := by rw [bne_iff_ne]; exact hx
        have HXX := Lib.hid hx
        clear hR hx
        by_cases hlt : k < mm
        all_goals
          go_wp2_with fail
          go_ret2
          exact REnd.bad HF.out NQ.out HXX.out
theorem refwrite_calls : ∀ N, RefC N := by
  intro N
  induction N with
  | zero => intro jv deep dI base v b w A B nl cl nm cm h; unfold Jv.bulk at h; omega
  | succ N IH =>
    intro jv deep dI base v b w A B nl cl nm cm hN hd hdI hB rl rm sl sm hf h hb hT
    have hlN : jv.l.bulk ≤ N := by unfold Jv.bulk at hN; omega
    have hmN : jv.m.bulk ≤ N := by unfold Jv.bulk at hN; omega
    obtain ⟨kd, is, n, s, l, m⟩ := jv
    cases hj : (⟨kd, is, n, s, l, m⟩ : Jv).bare with
    | false => exact refval_bad kd is n s l m deep dI base v b w A B nl cl nm cm hB rl rm hf h hb hT hj
    | true =>
      have hk := bare_kd hj
      dsimp only at hk
      rcases hk with rfl | rfl | rfl | rfl | rfl | rfl
      · exact refval_0 is n s l m deep dI base v b w A B nl cl nm cm hB rl rm hf h hb hT hj
      · cases is with
        | true => exact refval_1true n s l m deep dI base v b w A B nl cl nm cm hB rl rm hf h hb hT hj
        | false => exact refval_1false n s l m deep dI base v b w A B nl cl nm cm hB rl rm hf h hb hT hj
      · exact refval_2 is n s l m deep dI base v b w A B nl cl nm cm hB rl rm hf h hb hT hj
      · exact refval_3 is n s l m deep dI base v b w A B nl cl nm cm hB rl rm hf h hb hT hj
      · subst hdI
        exact refval_4 N IH is n s l m deep base v b w A B nl cl nm cm hB rl rm h hb hT hlN hd sl hj
      · subst hdI
        exact refval_5 N IH is n s l m deep base v b w A B nl cl nm cm hB rl rm h hb hT hmN hd sm hj
theorem can_post {v : Jv} {w w' : World} {b : List UInt8} {x : Int} (h : canF v = (b, x)) (hb : Below w.heap.size w w') : CanPost v w (.returned (.tuple #[.string ⟨b.toArray⟩, .int .i64 x])) w' := by
  unfold CanPost; rw [h]; exact ⟨rfl, hb⟩
theorem refcanon_calls (v : Jv) (A B : Option Addr) (nl cl nm cm : Nat) (w : World) (rl : Room nl cl v.l.ext) (rm : Room nm cm v.m.ext) (sl : JSl (· < w.heap.size) w false A v.l) (sm : JSl (· < w.heap.size) w true B v.m) (hf : Fit v.kd v.n v.s) (hT : PowT w.heap.size w) :
    Calls Tryz.prog 40 #[.agg #[.int .i64 v.kd, .bool v.is, .int .i64 v.n, .string ⟨v.s.toArray⟩, .slice A nl cl, .slice B nm cm]] w (CanPost v w) := by
  have b1 : Below w.heap.size w (w.alloc (.cells #[.int .i64 v.kd, .bool v.is, .int .i64 v.n, .string ⟨v.s.toArray⟩, .slice A nl cl, .slice B nm cm] 25)) := (Below.refl _ _).alloc (Nat.le_refl _) _
  have HV := refwrite_calls v.bulk v 0 0 w.heap.size (.slice none 0 0) [] _ A B nl cl nm cm (Nat.le_refl _) (by omega) rfl b1.size rl rm (sl.blw b1) (sm.blw b1) hf (OwnBs.nil _ _) (by simp) (hT.blw b1)
  have HB := Lib.hid b1
  clear rl rm sl sm hf hT b1
  cases hr : wrV v 0 []
  all_goals
    have HR := Lib.hid hr
    clear hr
    go_enter Tryz.func40, Tryz.ntmps40
    go_wp2_with fail
    refine HV.mono ?_
    intro e w2 hE
  · obtain ⟨n2, hx, rfl⟩ := REnd.of_bad HR.out hE
    have HC := Lib.hid (And.intro (show canF v = ([], _) by unfold canF; rw [HR.out]) (HB.out.trans n2.below))
    have hcv := run_str_rb w2 none 0 0 [] (fun k hk => absurd hk (by simp)) (Lib.hid rfl)
    clear hE n2 hx HV
    go_wp2_with fail
    go_ret2
    exact can_post HC.out.1 HC.out.2
  · obtain ⟨n2, hl2, v2, rfl, o2⟩ := REnd.of_ok HR.out hE
    have HC := Lib.hid (And.intro (show canF v = (_, 0) by unfold canF; rw [HR.out]) (HB.out.trans n2.below))
    obtain ⟨A2, m2, cap2, rfl, hrb, hn2⟩ := o2.form
    have hcv := run_str_rb w2 A2 m2 cap2 _ hrb hn2
    clear hE n2 o2 HV hrb hn2 hl2
    go_wp2_with fail
    go_ret2
    exact can_post HC.out.1 HC.out.2
end Go.Proofs.YtkbcbikilgcckaaGreatDoor
namespace Go.Proofs.YtkbcbikilgcckaaGreatDoor
open Go.ChangeShapes Go.WideShapes Go.ChangeAt Go.RowKit Go.IntWalk
set_option linter.unusedVariables false

/-- The tables that the row lists: the powers of ten alone are read here. -/
def TabJ (w : World) : Prop := 1 < w.heap.size ∧ Lib.TabIs Tryz.prog w "internal/strconv.uint64pow10" .u64 Lib.pow10Tab
theorem TabJ.pow {w : World} (h : TabJ w) : PowT w.heap.size w := h
theorem TabJ.below {w w' : World} (h : TabJ w) (b : Below w.heap.size w w') : TabJ w' :=
  ⟨Nat.lt_of_lt_of_le h.1 b.size, (PowT.blw (base := w.heap.size) h b).2⟩
theorem refcanon_ok {w : World} {v : Jv} {A B : Option Addr} {nl cl nm cm : Nat} (h : VOk w v A B nl cl nm cm) (hT : TabJ w) {b : List UInt8} {x : Int} (hc : canF v = (b, x)) :
    Calls Tryz.prog 40 #[.agg #[.int .i64 v.kd, .bool v.is, .int .i64 v.n, .string ⟨v.s.toArray⟩, .slice A nl cl, .slice B nm cm]] w fun e w' => e = .returned (.tuple #[.string ⟨b.toArray⟩, .int .i64 x]) ∧ Below w.heap.size w w' := by
  have := refcanon_calls v A B nl cl nm cm w h.1 h.2.1 h.2.2.1 h.2.2.2.1 h.2.2.2.2 hT.pow
  unfold CanPost at this
  rw [hc] at this
  exact this
end Go.Proofs.YtkbcbikilgcckaaGreatDoor
namespace Go.Proofs.YtkbcbikilgcckaaGreatDoor
open Go.ChangeShapes Go.WideShapes Go.ChangeAt Go.RowKit Go.IntWalk
set_option linter.unusedVariables false

set_option maxHeartbeats 2000000 in
theorem named_calls (l K G : List UInt8) (sign : UInt8) (p : Int → Bool) (w : World) (hl : l.length ≤ 1000000) (hKl : K.length ≤ 1000) (hGl : G.length ≤ 1000) (hK : ∀ k ∈ K, k = 97 ∨ k = 65 ∨ k = 48)
    (he : ∀ t, ofF K G t = onlyF p t) :
    Calls Tryz.prog 99 #[.string ⟨l.toArray⟩, .int .u8 sign.toNat, .string ⟨K.toArray⟩, .string ⟨G.toArray⟩] w fun e w' => e = .returned (.bool (namedF sign p l)) ∧ w = w' := by
  have hN := namedF_def sign p l
  have hcol := colon_calls l w hl
  have hile := colonF_le l
  obtain ⟨i, hi⟩ : ∃ i, i = colonF l := ⟨_, rfl⟩
  rw [← hi] at hN hcol hile
  clear hi
  have HN := Lib.hid hN; clear hN
  have HCOL := Lib.hid hcol; clear hcol
  by_cases h255 : l.length ≤ 255
  · by_cases hil : i < l.length
    · by_cases h0 : 0 < i
      · have hl0 : 0 < l.length := by omega
        obtain ⟨c, hc⟩ : ∃ c, l[0] = c := ⟨_, rfl⟩
        have hcg : l.getD 0 0 = c := by rw [List.getD_eq_getElem?_getD, List.getElem?_eq_getElem hl0]; exact hc
        by_cases hcs : c = sign
        · have hcs' : ((c.toNat : Int) == (sign.toNat : Int)) = true := by simp [hcs]
          have hT1 : (l.take i).tail.length ≤ 1000000 := by rw [List.length_tail, List.length_take]; omega
          have hP1 : (l.drop (i + 1)).length ≤ 1000000 := by rw [List.length_drop]; omega
          have HE : Hid (namedF sign p l = (onlyF p (l.take i).tail && serverF (l.drop (i + 1)))) := by show _ = _; rw [HN.out, hcg, hcs, List.drop_one]; simp [h255, hil, h0]
          have hOf := fun w => of_calls (l.take i).tail K G w hT1 hKl hGl hK
          rw [he] at hOf
          have hSv := fun w => refserver_calls (l.drop (i + 1)) w hP1
          have HOF := Lib.hid hOf; clear hOf
          have HSV := Lib.hid hSv; clear hSv
          have hi1 : (i : Int) + 1 ≤ (l.length : Int) := by omega
          have h1i : (1 : Int) ≤ (i : Int) := by omega
          clear hcs hcg HN
          cases hon : onlyF p (l.take i).tail with
          | false =>
            rw [hon] at HOF HE
            go_enter Tryz.func99, Tryz.ntmps99
            go_wp2_with fail
            refine HCOL.out.mono ?_
            rintro e w' ⟨rfl, rfl⟩
            go_wp2_with fail
            refine (HOF.out _).mono ?_
            rintro e w' ⟨rfl, rfl⟩
            go_wp2
            go_ret
            exact ⟨ret_bool HE.out.symm, rfl⟩
          | true =>
            rw [hon] at HOF HE
            go_enter Tryz.func99, Tryz.ntmps99
            go_wp2_with fail
            refine HCOL.out.mono ?_
            rintro e w' ⟨rfl, rfl⟩
            go_wp2_with fail
            refine (HOF.out _).mono ?_
            rintro e w' ⟨rfl, rfl⟩
            go_wp2_with fail
            refine (HSV.out _).mono ?_
            rintro e w' ⟨rfl, rfl⟩
            go_wp2
            go_ret
            exact ⟨ret_bool HE.out.symm, rfl⟩
        · have hcs' : ((c.toNat : Int) == (sign.toNat : Int)) = false := by
            rw [beq_eq_false_iff_ne]; intro h; exact hcs (UInt8.toNat_inj.1 (by omega))
          have hcs2 : (c == sign) = false := by simpa using hcs
          have HE : Hid (namedF sign p l = false) := by show _ = _; rw [HN.out, hcg, hcs2]; simp
          clear hcg
          go_enter Tryz.func99, Tryz.ntmps99
          go_wp2_with fail
          refine HCOL.out.mono ?_
          rintro e w' ⟨rfl, rfl⟩
          go_wp2
          go_ret
          exact ⟨ret_bool HE.out.symm, rfl⟩
      · have h0' : decide ((i : Int) > 0) = false := by simp; omega
        have HE : Hid (namedF sign p l = false) := by show _ = _; rw [HN.out]; simp [h0]
        go_enter Tryz.func99, Tryz.ntmps99
        go_wp2_with fail
        refine HCOL.out.mono ?_
        rintro e w' ⟨rfl, rfl⟩
        go_wp2
        go_ret
        exact ⟨ret_bool HE.out.symm, rfl⟩
    · have HE : Hid (namedF sign p l = false) := by show _ = _; rw [HN.out]; simp [hil]
      go_enter Tryz.func99, Tryz.ntmps99
      go_wp2_with fail
      refine HCOL.out.mono ?_
      rintro e w' ⟨rfl, rfl⟩
      go_wp2
      go_ret
      exact ⟨ret_bool HE.out.symm, rfl⟩
  · have h255' : decide ((l.length : Int) ≤ 255) = false := by simp; omega
    have HE : Hid (namedF sign p l = false) := by show _ = _; rw [HN.out]; simp [h255]
    go_enter Tryz.func99, Tryz.ntmps99
    go_wp2_with fail
    refine HCOL.out.mono ?_
    rintro e w' ⟨rfl, rfl⟩
    go_wp2
    go_ret
    exact ⟨ret_bool HE.out.symm, rfl⟩

set_option maxHeartbeats 1000000 in
theorem nRefuser_calls (l : List UInt8) (w : World) (hl : l.length ≤ 1000000) :
    Calls Tryz.prog 66 #[.string ⟨l.toArray⟩] w fun e w' => e = .returned (.bool (nUserF l)) ∧ w = w' := by
  go_enter Tryz.func66, Tryz.ntmps66
  go_wp2_with fail
  refine (named_calls l [97, 48] [46, 95, 61, 45, 47, 43] 64 (isAmong [46, 95, 61, 45, 47, 43]) _ hl (by simp) (by simp) k0 (fun t => only_among _ t usr_ascii)).mono ?_
  rintro e w' ⟨rfl, rfl⟩
  go_wp2
  go_ret
  exact ⟨rfl, rfl⟩

end Go.Proofs.YtkbcbikilgcckaaGreatDoor
namespace Go.Proofs.YtkbcbikilgcckaaGreatDoor
open Go.ChangeShapes Go.WideShapes Go.ChangeAt Go.RowKit Go.IntWalk
set_option linter.unusedVariables false

set_option maxHeartbeats 1000000 in
theorem refroom_calls (l : List UInt8) (w : World) (hl : l.length ≤ 1000000) :
    Calls Tryz.prog 65 #[.string ⟨l.toArray⟩] w fun e w' => e = .returned (.bool (roomF l)) ∧ w = w' := by
  go_enter Tryz.func65, Tryz.ntmps65
  go_wp2_with fail
  refine (named_calls l [97, 65, 48] [95, 45] 33 (isCap [95, 45]) _ hl (by simp) (by simp) k2 (fun t => only_caps _ t room_ascii)).mono ?_
  rintro e w' ⟨rfl, rfl⟩
  go_wp2
  go_ret
  exact ⟨rfl, rfl⟩

set_option maxHeartbeats 1000000 in
theorem refkey_calls (l : List UInt8) (w : World) (hl : l.length ≤ 1000000) :
    Calls Tryz.prog 63 #[.string ⟨l.toArray⟩] w fun e w' => e = .returned (.bool (keyF l)) ∧ w = w' := by
  have hT1 : (l.drop 8).length ≤ 1000000 := by rw [List.length_drop]; omega
  have hOf := fun w => of_calls (l.drop 8) [97, 65, 48] [95] w hT1 (by simp) (by simp) k2
  rw [only_caps _ _ key_ascii] at hOf
  have HOF := Lib.hid hOf; clear hOf
  have HK : Hid (keyF l = (l.take 8 == [101, 100, 50, 53, 53, 49, 57, 58] && decide (l.length ≤ 255) && onlyF (isCap [95]) (l.drop 8))) := by show _ = _; unfold keyF; rw [prefix_key]
  by_cases h255 : l.length ≤ 255
  · by_cases h8 : 8 < l.length
    · cases hp : (l.take 8 == [101, 100, 50, 53, 53, 49, 57, 58]) with
      | true =>
        have HE : Hid (keyF l = onlyF (isCap [95]) (l.drop 8)) := by show _ = _; rw [HK.out, hp]; simp [h255]
        have h8i : (8 : Int) ≤ (l.length : Int) := by omega
        go_enter Tryz.func63, Tryz.ntmps63
        go_wp2_with fail
        refine (HOF.out _).mono ?_
        rintro e w' ⟨rfl, rfl⟩
        go_wp2
        go_ret
        exact ⟨ret_bool HE.out.symm, rfl⟩
      | false =>
        have HE : Hid (keyF l = false) := by show _ = _; rw [HK.out, hp]; simp
        have h8i : (8 : Int) ≤ (l.length : Int) := by omega
        go_enter Tryz.func63, Tryz.ntmps63
        go_wp2
        go_ret
        exact ⟨ret_bool HE.out.symm, rfl⟩
    · have h8' : decide ((l.length : Int) > 8) = false := by simp; omega
      have HE : Hid (keyF l = false) := by
        show _ = _; rw [HK.out]
        by_cases h : l.length = 8
        · rw [List.drop_eq_nil_of_le (by omega)]; simp [onlyF]
        · have : (l.take 8 == [101, 100, 50, 53, 53, 49, 57, 58]) = false := by
            rw [beq_eq_false_iff_ne]; intro e
            have := congrArg List.length e
            rw [List.length_take] at this
            simp at this; omega
          rw [this]; simp
      go_enter Tryz.func63, Tryz.ntmps63
      go_wp2
      go_ret
      exact ⟨ret_bool HE.out.symm, rfl⟩
  · have h255' : decide ((l.length : Int) ≤ 255) = false := by simp; omega
    have HE : Hid (keyF l = false) := by show _ = _; rw [HK.out]; simp [h255]
    go_enter Tryz.func63, Tryz.ntmps63
    go_wp2
    go_ret
    exact ⟨ret_bool HE.out.symm, rfl⟩
end Go.Proofs.YtkbcbikilgcckaaGreatDoor
