/- Layer 9: the program's writer, walked: maps. -/
import Derived.Test.YtajkgcmopmpihaaDoorJvY
namespace Go.Proofs.YtajkgcmopmpihaaDoor
open Go.ChangeShapes Go.WideShapes Go.ChangeAt Go.RowKit Go.IntWalk
set_option linter.unusedVariables false

/-- A map's text. -/
def wrM (t : JT) (deep : Nat) (b : List UInt8) : Res := (if 32 ≤ deep then .error 5 else lng (b ++ [123])).then fun b => (wrF true t (deep + 1) none b).then fun b => lng (b ++ [125])
/-- A member behind its comma. -/
def wrT (t : JT) (k deep : Nat) (ek : List UInt8) (ev : Jv) (b : List UInt8) : Res :=
  (txt b ek).then fun b => (lng (b ++ [58])).then fun b => (wrV ev (deep + 1) b).then fun b => wrF true (t.fall (k + 1)) (deep + 1) (prevK t (k + 1)) b
theorem wrK_m0 (t : JT) (k deep : Nat) (ek : List UInt8) (ev : Jv) (b : List UInt8) : ((wrK true none ek b).then fun b => (wrV ev (deep + 1) b).then fun b => wrF true (t.fall (k + 1)) (deep + 1) (prevK t (k + 1)) b) = wrT t k deep ek ev b := by
  unfold wrK wrT
  simp only [then_ok, if_true]
  cases txt b ek with
  | error x => rfl
  | ok b => simp only [then_ok]
theorem wrK_mS (t : JT) (k deep : Nat) (p ek : List UInt8) (ev : Jv) (b : List UInt8) : ((wrK true (some p) ek b).then fun b => (wrV ev (deep + 1) b).then fun b => wrF true (t.fall (k + 1)) (deep + 1) (prevK t (k + 1)) b) =
    (lng (b ++ [44])).then fun b => if leqB ek p then .error 1 else wrT t k deep ek ev b := by
  unfold wrK wrT
  cases lng (b ++ [44]) with
  | error x => rfl
  | ok b =>
    simp only [then_ok, Bool.true_and, if_true]
    cases leqB ek p with
    | true => rfl
    | false =>
      simp only [Bool.false_eq_true, if_false, then_ok]
      cases txt b ek with
      | error x => rfl
      | ok b => simp only [then_ok]
def NotOwn (v : Value) (x : Nat) : Prop := v.ownBlock = some x → False
/-- A block that isn't the writer's own is not its later own either. -/
theorem own_far {w w1 : World} {g x : Nat} {v v1 : Value} (n : Nx w w1 g v v1) (h : NotOwn v x) (hx : x < w.heap.size) : NotOwn v1 x := by
  intro e
  rcases n.own with h1 | h1 | ⟨k, h1, h2⟩
  · rw [h1] at e; exact h e
  · rw [h1] at e; cases e
  · rw [h1] at e; cases e; omega
theorem JSl.far {base g : Nat} {w wr w4 : World} {v vk v4 : Value} {mem : Bool} {A : Option Addr} {t : JT} (h : JSl (· < base) wr mem A t) (n1 : Nx w wr g v vk) (n2 : Nx w w4 g v v4) (hg : base ≤ g) (ho : ∀ k, v.ownBlock = some k → base ≤ k) (hB : base ≤ w.heap.size) : JSl (· < base) w4 mem A t :=
  h.stay (fun b o hb => (Go.RowKit.Below.cell (p := ⟨b, o, none⟩) (n2.below (Below.refl base w) hg hB ho) hb).trans (Go.RowKit.Below.cell (p := ⟨b, o, none⟩) (n1.below (Below.refl base w) hg hB ho) hb).symm) (fun _ h => h)
set_option maxHeartbeats 8000000 in
theorem members_w (N : Nat) (IH : ValC N) (t : JT) (deep : Nat) (base g : Nat) (v : Value) (b : List UInt8) (w : World) (A : Option Addr) (n c : Nat) (hN : t.bulk ≤ N) (hd : deep ≤ 32) (hg : base ≤ g) (hB : base ≤ w.heap.size)
    (hr : Room n c t.ext) (hs : JSl (· < base) w true A t) (h : WSt base w g v b) (hT : PowT base w) :
    Calls Tryd.prog 18 #[.pointer (some ⟨g, 0, none⟩), .slice A n c, .int .i64 (deep : Int)] w (WEnd base g w v (wrM t deep b)) := by
  have HO := open_w base g v b [123] deep w h hB (by simp)
  have HP := Lib.hid h
  have HTT := Lib.hid hT
  clear hT
  have hown : ∀ k, v.ownBlock = some k → base ≤ k := fun k hk => (h.own k hk).1
  have HW := Lib.hid hown
  cases ho : (if 32 ≤ deep then (.error 5 : Res) else lng (b ++ [123])) with
  | error x =>
    have HR := Lib.hid (show wrM t deep b = .error x by unfold wrM; rw [ho]; rfl)
    rw [ho] at HO
    clear ho h hown
    go_enter Tryd.func18, Tryd.ntmps18
    go_wp2_with fail
    refine HO.mono ?_
    rintro e w2 ⟨rfl, v2, n2⟩
    go_wp2_with fail
    exact ⟨rfl, WEnd.bad HR.out n2⟩
  | ok b1 =>
    have hdd : deep < 32 := by
      rcases Nat.lt_or_ge deep 32 with h | h
      · exact h
      · rw [if_pos h] at ho; cases ho
    obtain ⟨R, hR⟩ : ∃ R, wrF true t (deep + 1) none b1 = R := ⟨_, rfl⟩
    have HR := Lib.hid (show wrM t deep b = R.then fun b => lng (b ++ [125]) by unfold wrM; rw [ho, then_ok, hR])
    have HR0 : LStep R true t (deep + 1) 0 b1 := by unfold LStep; rw [JT.fall_zero]; exact hR.symm
    rw [ho] at HO
    obtain ⟨rfl, hnc, hcm⟩ := hr
    clear ho h hown hR
    obtain ⟨m, hm⟩ : ∃ m, t.ext = m := ⟨_, rfl⟩
    rw [hm] at hnc ⊢
    have HM := Lib.hid hm
    have HS := Lib.hid hs
    clear hm hs
    go_enter Tryd.func18, Tryd.ntmps18
    go_wp2_with fail
    refine HO.mono ?_
    rintro e w1 ⟨rfl, v1, h1, n1⟩
    have H1 := Lib.hid h1
    have N1 := Lib.hid n1
    clear h1 n1 HO
    go_wp2_with fail
    go_loopw [13] (fun i wr => ∃ (k : Nat) (vk : Value) (bk : List UInt8), k ≤ m ∧ i = .int .i64 (k : Int) ∧ Hid (WSt base wr g vk bk) ∧ Hid (Nx w wr g v vk) ∧ LStep R true t (deep + 1) k bk) (fun i _ => m - (intOf i).toNat)
    case atStart => exact ⟨0, v1, b1, Nat.zero_le _, rfl, H1, N1, HR0⟩
    case round =>
      obtain ⟨k, vk, bk, hk, rfl, hW, hX, hL⟩ := hrel
      have hBr : base ≤ wr.heap.size := Nat.le_trans hB hX.out.size
      by_cases hlt : k < m
      · obtain ⟨eb, eo, eA, enl, ecl, eB, enm, ecm, rfl, eP, ebl, eK, eKl, e0, e1, e2, e3, e4, e5, r1, r2, s1, s2, hf⟩ := (HS.out.nx hX.out hg HW.out hB).mb _ (by rw [HM.out]; exact hlt)
        obtain ⟨ev, hev⟩ : ∃ ev, (t.fall k).val = ev := ⟨_, rfl⟩
        obtain ⟨ek, hek⟩ : ∃ ek, (t.fall k).key = ek := ⟨_, rfl⟩
        rw [hev] at e0 e1 e2 e3 r1 r2 s1 s2 hf
        rw [hek] at eK eKl
        have hLs : R = (wrK true (prevK t k) ek bk).then fun b => (wrV ev (deep + 1) b).then fun b => wrF true (t.fall (k + 1)) (deep + 1) (prevK t (k + 1)) b := by
          rw [show R = _ from hL, wrF_step _ _ _ _ _ (by rw [HM.out]; exact hlt), hev, hek]
        have hbk : ev.bulk ≤ N := by rw [← hev]; exact Nat.le_trans (JT.bulk_val t k (by rw [HM.out]; exact hlt)) hN
        have HLS := Lib.hid hLs
        have HE := Lib.hid (And.intro hev hek)
        have HK := Lib.hid (And.intro r1 (And.intro r2 (And.intro s1 (And.intro s2 (And.intro hf hbk)))))
        clear hL hLs hev hek r1 r2 s1 s2 hf hbk
        have hWl := hW.out.lt
        have hWo := hW.out.own
        have hbw : Below wr.heap.size wr (wr.alloc (.cells #[.string ⟨ek.toArray⟩, .int .i64 ev.kd, .bool ev.is, .int .i64 ev.n, .string ⟨ev.s.toArray⟩, .slice eA enl ecl, .slice eB enm ecm] 47)) := (Below.refl _ _).alloc (Nat.le_refl _) _
        have HBW := Lib.hid hbw
        have HWO := Lib.hid (And.intro hWl hWo)
        have hown2 : ∀ k, vk.ownBlock = some k → base ≤ k := fun k hk => (hWo k hk).1
        have HOW2 := Lib.hid hown2
        clear hbw hWl hWo hown2
        have HOXk := Lib.hid (show NotOwn vk wr.heap.size from fun e => absurd (HWO.out.2 _ e).2 (Nat.lt_irrefl _))
        have HNW := Lib.hid (hX.out.trans (Nx.of_below HBW.out))
        by_cases hk0 : 0 < k
        · have hk1 : decide (0 < k) = true := by simpa using hk0
          obtain ⟨pk, hpk⟩ : ∃ pk, (t.fall (k - 1)).key = pk := ⟨_, rfl⟩
          have HPK := Lib.hid hpk
          have HLS1 := Lib.hid (show R = (lng (bk ++ [44])).then fun b => if leqB ek pk then .error 1 else wrT t k deep ek ev b by rw [HLS.out, prevK_pos hk0, wrK_mS, hpk])
          have HPUT := put_w base g vk bk [44] _ (hW.out.below HBW.out) (Nat.le_trans hBr HBW.out.size) (by simp)
          have HKP := Lib.hid hk0
          clear hk0 hpk
          cases hp : lng (bk ++ [44]) with
          | error x =>
            have HRX := Lib.hid (show wrM t deep b = .error x by rw [HR.out, HLS1.out, hp]; rfl)
            rw [hp] at HPUT
            clear hp
            go_wp2_with fail
            refine HPUT.mono ?_
            rintro e w2 ⟨rfl, v2, n2⟩
            go_wp2_with fail
            exact ⟨rfl, WEnd.bad HRX.out (HNW.out.trans n2)⟩
          | ok b2 =>
            have HLS2a := Lib.hid (show R = if leqB ek pk then .error 1 else wrT t k deep ek ev b2 by rw [HLS1.out, hp]; rfl)
            rw [hp] at HPUT
            clear hp
            go_wp2_with fail
            refine HPUT.mono ?_
            rintro e w2 ⟨rfl, v2, h2, n2⟩
            have bx := n2.blk (Blk.new wr [.string ⟨ek.toArray⟩, .int .i64 ev.kd, .bool ev.is, .int .i64 ev.n, .string ⟨ev.s.toArray⟩, .slice eA enl ecl, .slice eB enm ecm] 47) (by have := HWO.out.1; omega) HOXk.out
            have BX := Lib.hid bx
            have d0 := bx.cell (k := 0) rfl; have d1 := bx.cell (k := 1) rfl; have d2 := bx.cell (k := 2) rfl; have d3 := bx.cell (k := 3) rfl; have d4 := bx.cell (k := 4) rfl; have d5 := bx.cell (k := 5) rfl; have d6 := bx.cell (k := 6) rfl
            have HOX := Lib.hid (own_far n2 HOXk.out (by simp))
            have N2 := Lib.hid (HNW.out.trans n2)
            have H2 := Lib.hid h2
            have HLT := Lib.hid bx.lt
            obtain ⟨qb, qo, _, _, _, _, _, _, qe, _, _, p0, prest⟩ := (HS.out.nx N2.out hg HW.out hB).mb (i := k - 1) _ (by rw [HM.out]; omega)
            clear prest
            injection qe with qe; injection qe with qe1 qe2
            subst qe1; subst qe2
            rw [HPK.out] at p0
            have hwk : IntKind.i64.wrap ((k : Int) - 1) = ((k - 1 : Nat) : Int) := by rw [IntWalk.i64_in _ (by omega)]; have := HKP.out; omega
            clear h2 n2 bx HPUT
            cases hle : leqB ek pk with
            | true =>
              have HRX := Lib.hid (show wrM t deep b = .error 1 by rw [HR.out, HLS2a.out, hle]; rfl)
              unfold leqB at hle
              go_wp2_with fail
              go_quiet (fail)
              go_wp2_with fail
              refine (giveUp_calls _ _).mono ?_
              rintro e w3 ⟨rfl, rfl⟩
              go_wp2_with fail
              exact ⟨rfl, WEnd.bad HRX.out (N2.out.trans (Nx.of_gb (gb_drewN w2 nq (some g))))⟩
            | false =>
              have HLS2 := Lib.hid (show R = wrT t k deep ek ev b2 by rw [HLS2a.out, hle]; rfl)
              unfold leqB at hle
              go_wp2_with fail
              go_quiet (fail)
              clear hle hwk p0
              have NW := Lib.hid (N2.out.trans (Nx.of_gb (gb_drewN w2 nq (some g))))
              have HW2 := Lib.hid (show WSt base (w2.drewN nq) g v2 b2 from H2.out)
              have BX2 := Lib.hid (show Blk (w2.drewN nq) wr.heap.size 47 [.string ⟨ek.toArray⟩, .int .i64 ev.kd, .bool ev.is, .int .i64 ev.n, .string ⟨ev.s.toArray⟩, .slice eA enl ecl, .slice eB enm ecm] from BX.out)
              have HT2 := text_w base g v2 b2 ek (w2.drewN nq) HW2.out (Nat.le_trans hB NW.out.size) eKl
              cases ht : txt b2 ek with
              | error x =>
                have HRX := Lib.hid (show wrM t deep b = .error x by rw [HR.out, HLS2.out]; unfold wrT; rw [ht]; rfl)
                rw [ht] at HT2
                clear ht
                go_wp2_with fail
                refine HT2.mono ?_
                rintro e w3 ⟨rfl, v3, n3⟩
                go_wp2_with fail
                exact ⟨rfl, WEnd.bad HRX.out (NW.out.trans n3)⟩
              | ok b3 =>
                have HLS3 := Lib.hid (show R = (lng (b3 ++ [58])).then fun b => (wrV ev (deep + 1) b).then fun b => wrF true (t.fall (k + 1)) (deep + 1) (prevK t (k + 1)) b by rw [HLS2.out]; unfold wrT; rw [ht]; rfl)
                rw [ht] at HT2
                clear ht
                go_wp2_with fail
                refine HT2.mono ?_
                rintro e w3 ⟨rfl, v3, h3, n3⟩
                have bx3 := n3.blk BX2.out (by have := HWO.out.1; omega) (fun e => HOX.out e)
                have HOX3 := Lib.hid (own_far n3 HOX.out HLT.out)
                have BX3 := Lib.hid bx3
                clear d0 d1 d2 d3 d4 d5 d6
                have d0 := bx3.cell (k := 0) rfl; have d1 := bx3.cell (k := 1) rfl; have d2 := bx3.cell (k := 2) rfl; have d3 := bx3.cell (k := 3) rfl; have d4 := bx3.cell (k := 4) rfl; have d5 := bx3.cell (k := 5) rfl; have d6 := bx3.cell (k := 6) rfl
                have N3 := Lib.hid (NW.out.trans n3)
                have H3 := Lib.hid h3
                have HC := put_w base g v3 b3 [58] w3 h3 (Nat.le_trans hB N3.out.size) (by simp)
                clear h3 n3 bx3 HT2
                cases hc : lng (b3 ++ [58]) with
                | error x =>
                  have HRX := Lib.hid (show wrM t deep b = .error x by rw [HR.out, HLS3.out, hc]; rfl)
                  rw [hc] at HC
                  clear hc
                  go_wp2_with fail
                  refine HC.mono ?_
                  rintro e w4 ⟨rfl, v4, n4⟩
                  go_wp2_with fail
                  exact ⟨rfl, WEnd.bad HRX.out (N3.out.trans n4)⟩
                | ok b4 =>
                  have HLS4 := Lib.hid (show R = (wrV ev (deep + 1) b4).then fun b => wrF true (t.fall (k + 1)) (deep + 1) (prevK t (k + 1)) b by rw [HLS3.out, hc]; rfl)
                  rw [hc] at HC
                  clear hc
                  go_wp2_with fail
                  refine HC.mono ?_
                  rintro e w4 ⟨rfl, v4, h4, n4⟩
                  have bx4 := n4.blk BX3.out (by have := HWO.out.1; omega) (fun e => HOX3.out e)
                  clear d0 d1 d2 d3 d4 d5 d6
                  have d0 := bx4.cell (k := 0) rfl; have d1 := bx4.cell (k := 1) rfl; have d2 := bx4.cell (k := 2) rfl; have d3 := bx4.cell (k := 3) rfl; have d4 := bx4.cell (k := 4) rfl; have d5 := bx4.cell (k := 5) rfl; have d6 := bx4.cell (k := 6) rfl
                  have N4 := Lib.hid (N3.out.trans n4)
                  have HV := IH ev (deep + 1) ((deep : Int) + 1) base g v4 b4 w4 eA eB enl ecl enm ecm HK.out.2.2.2.2.2 (by omega) (by omega) hg (Nat.le_trans hB N4.out.size) HK.out.1 HK.out.2.1 (HK.out.2.2.1.far hX.out N4.out hg HW.out hB) (HK.out.2.2.2.1.far hX.out N4.out hg HW.out hB) HK.out.2.2.2.2.1 h4 (HTT.out.nx N4.out hg HW.out hB)
                  clear h4 n4 bx4 HC
                  cases hv : wrV ev (deep + 1) b4 with
                  | error x =>
                    have HRX := Lib.hid (show wrM t deep b = .error x by rw [HR.out, HLS4.out, hv]; rfl)
                    rw [hv] at HV
                    clear hv
                    go_wp2_with fail
                    refine HV.mono ?_
                    rintro e w5 ⟨rfl, v5, n5⟩
                    go_wp2_with fail
                    exact ⟨rfl, WEnd.bad HRX.out (N4.out.trans n5)⟩
                  | ok b5 =>
                    have HL5 : LStep R true t (deep + 1) (k + 1) b5 := by unfold LStep; rw [HLS4.out, hv]; rfl
                    rw [hv] at HV
                    clear hv
                    go_wp2_with fail
                    refine HV.mono ?_
                    rintro e w5 ⟨rfl, v5, h5, n5⟩
                    have H5 := Lib.hid h5
                    have N5 := Lib.hid (N4.out.trans n5)
                    clear h5 n5 HV
                    go_wp2_with fail
                    go_roundw
                    case rel => exact ⟨k + 1, v5, b5, by omega, by go_num, H5, N5, HL5⟩
                    case measure => simp [intOf]; omega
        · have hk1 : decide (0 < k) = false := by simpa using hk0
          have HLS2 := Lib.hid (show R = wrT t k deep ek ev bk by rw [HLS.out, show prevK t k = none by unfold prevK; rw [if_pos (by omega)], wrK_m0])
          clear hk0
          have HW2 := Lib.hid (hW.out.below HBW.out)
          have BX2 := Lib.hid (Blk.new wr [.string ⟨ek.toArray⟩, .int .i64 ev.kd, .bool ev.is, .int .i64 ev.n, .string ⟨ev.s.toArray⟩, .slice eA enl ecl, .slice eB enm ecm] 47)
          have HT2 := text_w base g vk bk ek (wr.alloc (.cells #[.string ⟨ek.toArray⟩, .int .i64 ev.kd, .bool ev.is, .int .i64 ev.n, .string ⟨ev.s.toArray⟩, .slice eA enl ecl, .slice eB enm ecm] 47)) HW2.out (Nat.le_trans hB HNW.out.size) eKl
          cases ht : txt bk ek with
          | error x =>
            have HRX := Lib.hid (show wrM t deep b = .error x by rw [HR.out, HLS2.out]; unfold wrT; rw [ht]; rfl)
            rw [ht] at HT2
            clear ht
            go_wp2_with fail
            refine HT2.mono ?_
            rintro e w3 ⟨rfl, v3, n3⟩
            go_wp2_with fail
            exact ⟨rfl, WEnd.bad HRX.out (HNW.out.trans n3)⟩
          | ok b3 =>
            have HLS3 := Lib.hid (show R = (lng (b3 ++ [58])).then fun b => (wrV ev (deep + 1) b).then fun b => wrF true (t.fall (k + 1)) (deep + 1) (prevK t (k + 1)) b by rw [HLS2.out]; unfold wrT; rw [ht]; rfl)
            rw [ht] at HT2
            clear ht
            go_wp2_with fail
            refine HT2.mono ?_
            rintro e w3 ⟨rfl, v3, h3, n3⟩
            have bx3 := n3.blk BX2.out (by have := HWO.out.1; omega) (fun e => HOXk.out e)
            have HOX3 := Lib.hid (own_far n3 HOXk.out (by simp))
            have BX3 := Lib.hid bx3
            have d0 := bx3.cell (k := 0) rfl; have d1 := bx3.cell (k := 1) rfl; have d2 := bx3.cell (k := 2) rfl; have d3 := bx3.cell (k := 3) rfl; have d4 := bx3.cell (k := 4) rfl; have d5 := bx3.cell (k := 5) rfl; have d6 := bx3.cell (k := 6) rfl
            have N3 := Lib.hid (HNW.out.trans n3)
            have H3 := Lib.hid h3
            have HC := put_w base g v3 b3 [58] w3 h3 (Nat.le_trans hB N3.out.size) (by simp)
            clear h3 n3 bx3 HT2
            cases hc : lng (b3 ++ [58]) with
            | error x =>
              have HRX := Lib.hid (show wrM t deep b = .error x by rw [HR.out, HLS3.out, hc]; rfl)
              rw [hc] at HC
              clear hc
              go_wp2_with fail
              refine HC.mono ?_
              rintro e w4 ⟨rfl, v4, n4⟩
              go_wp2_with fail
              exact ⟨rfl, WEnd.bad HRX.out (N3.out.trans n4)⟩
            | ok b4 =>
              have HLS4 := Lib.hid (show R = (wrV ev (deep + 1) b4).then fun b => wrF true (t.fall (k + 1)) (deep + 1) (prevK t (k + 1)) b by rw [HLS3.out, hc]; rfl)
              rw [hc] at HC
              clear hc
              go_wp2_with fail
              refine HC.mono ?_
              rintro e w4 ⟨rfl, v4, h4, n4⟩
              have bx4 := n4.blk BX3.out (by have := HWO.out.1; omega) (fun e => HOX3.out e)
              clear d0 d1 d2 d3 d4 d5 d6
              have d0 := bx4.cell (k := 0) rfl; have d1 := bx4.cell (k := 1) rfl; have d2 := bx4.cell (k := 2) rfl; have d3 := bx4.cell (k := 3) rfl; have d4 := bx4.cell (k := 4) rfl; have d5 := bx4.cell (k := 5) rfl; have d6 := bx4.cell (k := 6) rfl
              have N4 := Lib.hid (N3.out.trans n4)
              have HV := IH ev (deep + 1) ((deep : Int) + 1) base g v4 b4 w4 eA eB enl ecl enm ecm HK.out.2.2.2.2.2 (by omega) (by omega) hg (Nat.le_trans hB N4.out.size) HK.out.1 HK.out.2.1 (HK.out.2.2.1.far hX.out N4.out hg HW.out hB) (HK.out.2.2.2.1.far hX.out N4.out hg HW.out hB) HK.out.2.2.2.2.1 h4 (HTT.out.nx N4.out hg HW.out hB)
              clear h4 n4 bx4 HC
              cases hv : wrV ev (deep + 1) b4 with
              | error x =>
                have HRX := Lib.hid (show wrM t deep b = .error x by rw [HR.out, HLS4.out, hv]; rfl)
                rw [hv] at HV
                clear hv
                go_wp2_with fail
                refine HV.mono ?_
                rintro e w5 ⟨rfl, v5, n5⟩
                go_wp2_with fail
                exact ⟨rfl, WEnd.bad HRX.out (N4.out.trans n5)⟩
              | ok b5 =>
                have HL5 : LStep R true t (deep + 1) (k + 1) b5 := by unfold LStep; rw [HLS4.out, hv]; rfl
                rw [hv] at HV
                clear hv
                go_wp2_with fail
                refine HV.mono ?_
                rintro e w5 ⟨rfl, v5, h5, n5⟩
                have H5 := Lib.hid h5
                have N5 := Lib.hid (N4.out.trans n5)
                clear h5 n5 HV
                go_wp2_with fail
                go_roundw
                case rel => exact ⟨k + 1, v5, b5, by omega, by go_num, H5, N5, HL5⟩
                case measure => simp [intOf]; omega
      · obtain rfl : k = m := by omega
        have HRE := Lib.hid (show R = .ok bk by rw [show R = _ from hL, ← HM.out, wrF_end])
        have HPUT := put_w base g vk bk [125] _ hW.out hBr (by simp)
        clear hL
        cases hp : lng (bk ++ [125]) with
        | error x =>
          have HRX := Lib.hid (show wrM t deep b = .error x by rw [HR.out, HRE.out, then_ok, hp])
          rw [hp] at HPUT
          clear hp
          go_wp2_with fail
          refine HPUT.mono ?_
          rintro e w2 ⟨rfl, v2, n2⟩
          go_wp2_with fail
          exact ⟨rfl, WEnd.bad HRX.out (hX.out.trans n2)⟩
        | ok b2 =>
          have HRX := Lib.hid (show wrM t deep b = .ok b2 by rw [HR.out, HRE.out, then_ok, hp])
          rw [hp] at HPUT
          clear hp
          go_wp2_with fail
          refine HPUT.mono ?_
          rintro e w2 ⟨rfl, v2, h2, n2⟩
          go_wp2_with fail
          go_end0
          exact WEnd.ok HRX.out h2 (hX.out.trans n2)
end Go.Proofs.YtajkgcmopmpihaaDoor
