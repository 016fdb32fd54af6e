/- Texts put together: JvZ JvS JvV JvC JwS. -/
import Derived.Test.YtajkgcmopmpihaaGreatDoorY79bf1f75f6
import Derived.Test.YtajkgcmopmpihaaGreatDoorY8edaa997fb
import Derived.Test.YtajkgcmopmpihaaGreatDoorYcc81974a9e
import Derived.Test.YtajkgcmopmpihaaGreatDoorShelfK
import Derived.Recover
import Derived.Sort.Grow
import Derived.Tactics
import Derived.Tactics2
import Derived.Defers
import Derived.Laws.Pointers
namespace Go.Proofs.YtajkgcmopmpihaaGreatDoor
open Go.ChangeShapes Go.WideShapes Go.ChangeAt Go.RowKit Go.IntWalk
set_option linter.unusedVariables false
def NotOwn (v : Value) (x : Nat) : Prop := v.ownBlock = some x → False
theorem own_far {w w1 : World} {g x : Nat} {v v1 : Value} (n : Nx w w1 g v v1) (h : NotOwn v x) (hx : x < w.heap.size) : NotOwn v1 x := by
  intro e
  rcases n.own with h1 | h1 | ⟨k, h1, h2⟩
  · rw [h1] at e; exact h e
  · rw [h1] at e; cases e
  · rw [h1] at e; cases e; omega
theorem JSl.far {base g : Nat} {w wr w4 : World} {v vk v4 : Value} {mem : Bool} {A : Option Addr} {t : JT} (h : JSl (· < base) wr mem A t) (n1 : Nx w wr g v vk) (n2 : Nx w w4 g v v4) (hg : base ≤ g) (ho : ∀ k, v.ownBlock = some k → base ≤ k) (hB : base ≤ w.heap.size) : JSl (· < base) w4 mem A t :=
  h.stay (fun b o hb => (Go.RowKit.Below.cell (p := ⟨b, o, none⟩) (n2.below (Below.refl base w) hg hB ho) hb).trans (Go.RowKit.Below.cell (p := ⟨b, o, none⟩) (n1.below (Below.refl base w) hg hB ho) hb).symm) (fun _ h => h)
set_option maxHeartbeats 8000000 in
theorem members_w (N : Nat) (IH : ValC N) (t : JT) (deep : Nat) (base g : Nat) (v : Value) (b : List UInt8) (w : World) (A : Option Addr) (n c : Nat) (hN : t.bulk ≤ N) (hd : deep ≤ 32) (hg : base ≤ g) (hB : base ≤ w.heap.size)
    (hr : Room n c t.ext) (hs : JSl (· < base) w true A t) (h : WSt base w g v b) (hT : PowT base w) :
    Calls Tryz.prog 49 #[.pointer (some ⟨g, 0, none⟩), .slice A n c, .int .i64 (deep : Int)] w (WEnd base g w v (wrM t deep b)) := by
  have HO := open_w base g v b [123] deep w h hB (by simp)
  have HP := Lib.hid h
  have HTT := Lib.hid hT
  clear hT
  have hown : ∀ k, v.ownBlock = some k → base ≤ k := fun k hk => (h.own k hk).1
  have HW := Lib.hid hown
  cases ho : (if 32 ≤ deep then (.error 5 : Res) else lng (b ++ [123])) with
  | error x =>
    have HR := Lib.hid (show wrM t deep b = .error x by unfold wrM; rw [ho]; rfl)
    rw [ho] at HO
    clear ho h hown
    go_enter Tryz.func49, Tryz.ntmps49
    go_wp2_with fail
    refine HO.mono ?_
    rintro e w2 ⟨rfl, v2, n2⟩
    go_wp2_with fail
    exact ⟨rfl, WEnd.bad HR.out n2⟩
  | ok b1 =>
    have hdd : deep < 32 := by
      rcases Nat.lt_or_ge deep 32 with h | h
      · exact h
      · rw [if_pos h] at ho; cases ho
    obtain ⟨R, hR⟩ : ∃ R, wrF true t (deep + 1) none b1 = R := ⟨_, rfl⟩
    have HR := Lib.hid (show wrM t deep b = R.then fun b => lng (b ++ [125]) by unfold wrM; rw [ho, then_ok, hR])
    have HR0 : LStep R true t (deep + 1) 0 b1 := by unfold LStep; rw [JT.fall_zero]; exact hR.symm
    rw [ho] at HO
    obtain ⟨rfl, hnc, hcm⟩ := hr
    clear ho h hown hR
    obtain ⟨m, hm⟩ : ∃ m, t.ext = m := ⟨_, rfl⟩
    rw [hm] at hnc hcm ⊢
    have HM := Lib.hid hm
    have HS := Lib.hid hs
    clear hm hs
    go_enter Tryz.func49, Tryz.ntmps49
    go_wp2_with fail
    refine HO.mono ?_
    rintro e w1 ⟨rfl, v1, h1, n1⟩
    have H1 := Lib.hid h1
    have N1 := Lib.hid n1
    clear h1 n1 HO
    go_wp2_with fail
    go_loopw [13] (fun i wr => ∃ (k : Nat) (vk : Value) (bk : List UInt8), k ≤ m ∧ i = .int .i64 (k : Int) ∧ Hid (WSt base wr g vk bk) ∧ Hid (Nx w wr g v vk) ∧ LStep R true t (deep + 1) k bk) (fun i _ => m - (intOf i).toNat)
    case atStart => exact ⟨0, v1, b1, Nat.zero_le _, rfl, H1, N1, HR0⟩
    case round =>
      obtain ⟨k, vk, bk, hk, rfl, hW, hX, hL⟩ := hrel
      have hBr : base ≤ wr.heap.size := Nat.le_trans hB hX.out.size
      by_cases hlt : k < m
      · obtain ⟨eb, eo, eA, enl, ecl, eB, enm, ecm, rfl, eP, ebl, eK, eKl, e0, e1, e2, e3, e4, e5, r1, r2, s1, s2, hf⟩ := (HS.out.nx hX.out hg HW.out hB).mb _ (by rw [HM.out]; exact hlt)
        obtain ⟨ev, hev⟩ : ∃ ev, (t.fall k).val = ev := ⟨_, rfl⟩
        obtain ⟨ek, hek⟩ : ∃ ek, (t.fall k).key = ek := ⟨_, rfl⟩
        rw [hev] at e0 e1 e2 e3 r1 r2 s1 s2 hf
        rw [hek] at eK eKl
        have hLs : R = (wrK true (prevK t k) ek bk).then fun b => (wrV ev (deep + 1) b).then fun b => wrF true (t.fall (k + 1)) (deep + 1) (prevK t (k + 1)) b := by
          rw [show R = _ from hL, wrF_step _ _ _ _ _ (by rw [HM.out]; exact hlt), hev, hek]
        have hbk : ev.bulk ≤ N := by rw [← hev]; exact Nat.le_trans (JT.bulk_val t k (by rw [HM.out]; exact hlt)) hN
        have HLS := Lib.hid hLs
        have HE := Lib.hid (And.intro hev hek)
        have HK := Lib.hid (And.intro r1 (And.intro r2 (And.intro s1 (And.intro s2 (And.intro hf hbk)))))
        clear hL hLs hev hek r1 r2 s1 s2 hf hbk
        have hWl := hW.out.lt
        have hWo := hW.out.own
        have hbw : Below wr.heap.size wr (wr.alloc (.cells #[.string ⟨ek.toArray⟩, .int .i64 ev.kd, .bool ev.is, .int .i64 ev.n, .string ⟨ev.s.toArray⟩, .slice eA enl ecl, .slice eB enm ecm] 44)) := (Below.refl _ _).alloc (Nat.le_refl _) _
        have HBW := Lib.hid hbw
        have HWO := Lib.hid (And.intro hWl hWo)
        have hown2 : ∀ k, vk.ownBlock = some k → base ≤ k := fun k hk => (hWo k hk).1
        have HOW2 := Lib.hid hown2
        clear hbw hWl hWo hown2
        have HOXk := Lib.hid (show NotOwn vk wr.heap.size from fun e => absurd (HWO.out.2 _ e).2 (Nat.lt_irrefl _))
        have HNW := Lib.hid (hX.out.trans (Nx.of_below HBW.out))
        by_cases hk0 : 0 < k
        · have hk1 : decide (0 < k) = true := by simpa using hk0
          obtain ⟨pk, hpk⟩ : ∃ pk, (t.fall (k - 1)).key = pk := ⟨_, rfl⟩
          have HPK := Lib.hid hpk
          have HLS1 := Lib.hid (show R = (lng (bk ++ [44])).then fun b => if leqB ek pk then .error 1 else wrT t k deep ek ev b by rw [HLS.out, prevK_pos hk0, wrK_mS, hpk])
          have HPUT := put_w base g vk bk [44] _ (hW.out.below HBW.out) (Nat.le_trans hBr HBW.out.size) (by simp)
          have HKP := Lib.hid hk0
          clear hk0 hpk
          cases hp : lng (bk ++ [44]) with
          | error x =>
            have HRX := Lib.hid (show wrM t deep b = .error x by rw [HR.out, HLS1.out, hp]; rfl)
            rw [hp] at HPUT
            clear hp
            go_wp2_with fail
            refine HPUT.mono ?_
            rintro e w2 ⟨rfl, v2, n2⟩
            go_wp2_with fail
            exact ⟨rfl, WEnd.bad HRX.out (HNW.out.trans n2)⟩
          | ok b2 =>
            have HLS2a := Lib.hid (show R = if leqB ek pk then .error 1 else wrT t k deep ek ev b2 by rw [HLS1.out, hp]; rfl)
            rw [hp] at HPUT
            clear hp
            go_wp2_with fail
            refine HPUT.mono ?_
            rintro e w2 ⟨rfl, v2, h2, n2⟩
            have bx := n2.blk (Blk.new wr [.string ⟨ek.toArray⟩, .int .i64 ev.kd, .bool ev.is, .int .i64 ev.n, .string ⟨ev.s.toArray⟩, .slice eA enl ecl, .slice eB enm ecm] 44) (by have := HWO.out.1; omega) HOXk.out
            have BX := Lib.hid bx
            have d0 := bx.cell (k := 0) rfl; have d1 := bx.cell (k := 1) rfl; have d2 := bx.cell (k := 2) rfl; have d3 := bx.cell (k := 3) rfl; have d4 := bx.cell (k := 4) rfl; have d5 := bx.cell (k := 5) rfl; have d6 := bx.cell (k := 6) rfl
            have HOX := Lib.hid (own_far n2 HOXk.out (by simp))
            have N2 := Lib.hid (HNW.out.trans n2)
            have H2 := Lib.hid h2
            have HLT := Lib.hid bx.lt
            obtain ⟨qb, qo, _, _, _, _, _, _, qe, _, _, p0, prest⟩ := (HS.out.nx N2.out hg HW.out hB).mb (i := k - 1) _ (by rw [HM.out]; omega)
            clear prest
            injection qe with qe; injection qe with qe1 qe2
            subst qe1; subst qe2
            rw [HPK.out] at p0
            have hwk : IntKind.i64.wrap ((k : Int) - 1) = ((k - 1 : Nat) : Int) := by rw [IntWalk.i64_in _ (by omega)]; have := HKP.out; omega
            clear h2 n2 bx HPUT
            cases hle : leqB ek pk with
            | true =>
              have HRX := Lib.hid (show wrM t deep b = .error 1 by rw [HR.out, HLS2a.out, hle]; rfl)
              unfold leqB at hle
              go_wp2_with fail
              go_quiet (fail)
              go_wp2_with fail
              refine (giveUp_calls _ _).mono ?_
              rintro e w3 ⟨rfl, rfl⟩
              go_wp2_with fail
              exact ⟨rfl, WEnd.bad HRX.out (N2.out.trans (Nx.of_gb (gb_drewN w2 nq (some g))))⟩
            | false =>
              have HLS2 := Lib.hid (show R = wrT t k deep ek ev b2 by rw [HLS2a.out, hle]; rfl)
              unfold leqB at hle
              go_wp2_with fail
              go_quiet (fail)
              clear hle hwk p0
              have NW := Lib.hid (N2.out.trans (Nx.of_gb (gb_drewN w2 nq (some g))))
              have HW2 := Lib.hid (show WSt base (w2.drewN nq) g v2 b2 from H2.out)
              have BX2 := Lib.hid (show Blk (w2.drewN nq) wr.heap.size 44 [.string ⟨ek.toArray⟩, .int .i64 ev.kd, .bool ev.is, .int .i64 ev.n, .string ⟨ev.s.toArray⟩, .slice eA enl ecl, .slice eB enm ecm] from BX.out)
              have HT2 := text_w base g v2 b2 ek (w2.drewN nq) HW2.out (Nat.le_trans hB NW.out.size) eKl
              cases ht : txt b2 ek with
              | error x =>
                have HRX := Lib.hid (show wrM t deep b = .error x by rw [HR.out, HLS2.out]; unfold wrT; rw [ht]; rfl)
                rw [ht] at HT2
                clear ht
                go_wp2_with fail
                refine HT2.mono ?_
                rintro e w3 ⟨rfl, v3, n3⟩
                go_wp2_with fail
                exact ⟨rfl, WEnd.bad HRX.out (NW.out.trans n3)⟩
              | ok b3 =>
                have HLS3 := Lib.hid (show R = (lng (b3 ++ [58])).then fun b => (wrV ev (deep + 1) b).then fun b => wrF true (t.fall (k + 1)) (deep + 1) (prevK t (k + 1)) b by rw [HLS2.out]; unfold wrT; rw [ht]; rfl)
                rw [ht] at HT2
                clear ht
                go_wp2_with fail
                refine HT2.mono ?_
                rintro e w3 ⟨rfl, v3, h3, n3⟩
                have bx3 := n3.blk BX2.out (by have := HWO.out.1; omega) (fun e => HOX.out e)
                have HOX3 := Lib.hid (own_far n3 HOX.out HLT.out)
                have BX3 := Lib.hid bx3
                clear d0 d1 d2 d3 d4 d5 d6
                have d0 := bx3.cell (k := 0) rfl; have d1 := bx3.cell (k := 1) rfl; have d2 := bx3.cell (k := 2) rfl; have d3 := bx3.cell (k := 3) rfl; have d4 := bx3.cell (k := 4) rfl; have d5 := bx3.cell (k := 5) rfl; have d6 := bx3.cell (k := 6) rfl
                have N3 := Lib.hid (NW.out.trans n3)
                have H3 := Lib.hid h3
                have HC := put_w base g v3 b3 [58] w3 h3 (Nat.le_trans hB N3.out.size) (by simp)
                clear h3 n3 bx3 HT2
                cases hc : lng (b3 ++ [58]) with
                | error x =>
                  have HRX := Lib.hid (show wrM t deep b = .error x by rw [HR.out, HLS3.out, hc]; rfl)
                  rw [hc] at HC
                  clear hc
                  go_wp2_with fail
                  refine HC.mono ?_
                  rintro e w4 ⟨rfl, v4, n4⟩
                  go_wp2_with fail
                  exact ⟨rfl, WEnd.bad HRX.out (N3.out.trans n4)⟩
                | ok b4 =>
                  have HLS4 := Lib.hid (show R = (wrV ev (deep + 1) b4).then fun b => wrF true (t.fall (k + 1)) (deep + 1) (prevK t (k + 1)) b by rw [HLS3.out, hc]; rfl)
                  rw [hc] at HC
                  clear hc
                  go_wp2_with fail
                  refine HC.mono ?_
                  rintro e w4 ⟨rfl, v4, h4, n4⟩
                  have bx4 := n4.blk BX3.out (by have := HWO.out.1; omega) (fun e => HOX3.out e)
                  clear d0 d1 d2 d3 d4 d5 d6
                  have d0 := bx4.cell (k := 0) rfl; have d1 := bx4.cell (k := 1) rfl; have d2 := bx4.cell (k := 2) rfl; have d3 := bx4.cell (k := 3) rfl; have d4 := bx4.cell (k := 4) rfl; have d5 := bx4.cell (k := 5) rfl; have d6 := bx4.cell (k := 6) rfl
                  have N4 := Lib.hid (N3.out.trans n4)
                  have HV := IH ev (deep + 1) ((deep : Int) + 1) base g v4 b4 w4 eA eB enl ecl enm ecm HK.out.2.2.2.2.2 (by omega) (by omega) hg (Nat.le_trans hB N4.out.size) HK.out.1 HK.out.2.1 (HK.out.2.2.1.far hX.out N4.out hg HW.out hB) (HK.out.2.2.2.1.far hX.out N4.out hg HW.out hB) HK.out.2.2.2.2.1 h4 (HTT.out.nx N4.out hg HW.out hB)
                  clear h4 n4 bx4 HC
                  cases hv : wrV ev (deep + 1) b4 with
                  | error x =>
                    have HRX := Lib.hid (show wrM t deep b = .error x by rw [HR.out, HLS4.out, hv]; rfl)
                    rw [hv] at HV
                    clear hv
                    go_wp2_with fail
                    refine HV.mono ?_
                    rintro e w5 ⟨rfl, v5, n5⟩
                    go_wp2_with fail
                    exact ⟨rfl, WEnd.bad HRX.out (N4.out.trans n5)⟩
                  | ok b5 =>
                    have HL5 : LStep R true t (deep + 1) (k + 1) b5 := by unfold LStep; rw [HLS4.out, hv]; rfl
                    rw [hv] at HV
                    clear hv
                    go_wp2_with fail
                    refine HV.mono ?_
                    rintro e w5 ⟨rfl, v5, h5, n5⟩
                    have H5 := Lib.hid h5
                    have N5 := Lib.hid (N4.out.trans n5)
                    clear h5 n5 HV
                    go_wp2_with fail
                    go_roundw
                    case rel => exact ⟨k + 1, v5, b5, by omega, by go_num, H5, N5, HL5⟩
                    case measure => simp [intOf]; omega
        · have hk1 : decide (0 < k) = false := by simpa using hk0
          have HLS2 := Lib.hid (show R = wrT t k deep ek ev bk by rw [HLS.out, show prevK t k = none by unfold prevK; rw [if_pos (by omega)], wrK_m0])
          clear hk0
          have HW2 := Lib.hid (hW.out.below HBW.out)
          have BX2 := Lib.hid (Blk.new wr [.string ⟨ek.toArray⟩, .int .i64 ev.kd, .bool ev.is, .int .i64 ev.n, .string ⟨ev.s.toArray⟩, .slice eA enl ecl, .slice eB enm ecm] 44)
          have HT2 := text_w base g vk bk ek (wr.alloc (.cells #[.string ⟨ek.toArray⟩, .int .i64 ev.kd, .bool ev.is, .int .i64 ev.n, .string ⟨ev.s.toArray⟩, .slice eA enl ecl, .slice eB enm ecm] 44)) HW2.out (Nat.le_trans hB HNW.out.size) eKl
          cases ht : txt bk ek with
          | error x =>
            have HRX := Lib.hid (show wrM t deep b = .error x by rw [HR.out, HLS2.out]; unfold wrT; rw [ht]; rfl)
            rw [ht] at HT2
            clear ht
            go_wp2_with fail
            refine HT2.mono ?_
            rintro e w3 ⟨rfl, v3, n3⟩
            go_wp2_with fail
            exact ⟨rfl, WEnd.bad HRX.out (HNW.out.trans n3)⟩
          | ok b3 =>
            have HLS3 := Lib.hid (show R = (lng (b3 ++ [58])).then fun b => (wrV ev (deep + 1) b).then fun b => wrF true (t.fall (k + 1)) (deep + 1) (prevK t (k + 1)) b by rw [HLS2.out]; unfold wrT; rw [ht]; rfl)
            rw [ht] at HT2
            clear ht
            go_wp2_with fail
            refine HT2.mono ?_
            rintro e w3 ⟨rfl, v3, h3, n3⟩
            have bx3 := n3.blk BX2.out (by have := HWO.out.1; omega) (fun e => HOXk.out e)
            have HOX3 := Lib.hid (own_far n3 HOXk.out (by simp))
            have BX3 := Lib.hid bx3
            have d0 := bx3.cell (k := 0) rfl; have d1 := bx3.cell (k := 1) rfl; have d2 := bx3.cell (k := 2) rfl; have d3 := bx3.cell (k := 3) rfl; have d4 := bx3.cell (k := 4) rfl; have d5 := bx3.cell (k := 5) rfl; have d6 := bx3.cell (k := 6) rfl
            have N3 := Lib.hid (HNW.out.trans n3)
            have H3 := Lib.hid h3
            have HC := put_w base g v3 b3 [58] w3 h3 (Nat.le_trans hB N3.out.size) (by simp)
            clear h3 n3 bx3 HT2
            cases hc : lng (b3 ++ [58]) with
            | error x =>
              have HRX := Lib.hid (show wrM t deep b = .error x by rw [HR.out, HLS3.out, hc]; rfl)
              rw [hc] at HC
              clear hc
              go_wp2_with fail
              refine HC.mono ?_
              rintro e w4 ⟨rfl, v4, n4⟩
              go_wp2_with fail
              exact ⟨rfl, WEnd.bad HRX.out (N3.out.trans n4)⟩
            | ok b4 =>
              have HLS4 := Lib.hid (show R = (wrV ev (deep + 1) b4).then fun b => wrF true (t.fall (k + 1)) (deep + 1) (prevK t (k + 1)) b by rw [HLS3.out, hc]; rfl)
              rw [hc] at HC
              clear hc
              go_wp2_with fail
              refine HC.mono ?_
              rintro e w4 ⟨rfl, v4, h4, n4⟩
              have bx4 := n4.blk BX3.out (by have := HWO.out.1; omega) (fun e => HOX3.out e)
              clear d0 d1 d2 d3 d4 d5 d6
              have d0 := bx4.cell (k := 0) rfl; have d1 := bx4.cell (k := 1) rfl; have d2 := bx4.cell (k := 2) rfl; have d3 := bx4.cell (k := 3) rfl; have d4 := bx4.cell (k := 4) rfl; have d5 := bx4.cell (k := 5) rfl; have d6 := bx4.cell (k := 6) rfl
              have N4 := Lib.hid (N3.out.trans n4)
              have HV := IH ev (deep + 1) ((deep : Int) + 1) base g v4 b4 w4 eA eB enl ecl enm ecm HK.out.2.2.2.2.2 (by omega) (by omega) hg (Nat.le_trans hB N4.out.size) HK.out.1 HK.out.2.1 (HK.out.2.2.1.far hX.out N4.out hg HW.out hB) (HK.out.2.2.2.1.far hX.out N4.out hg HW.out hB) HK.out.2.2.2.2.1 h4 (HTT.out.nx N4.out hg HW.out hB)
              clear h4 n4 bx4 HC
              cases hv : wrV ev (deep + 1) b4 with
              | error x =>
                have HRX := Lib.hid (show wrM t deep b = .error x by rw [HR.out, HLS4.out, hv]; rfl)
                rw [hv] at HV
                clear hv
                go_wp2_with fail
                refine HV.mono ?_
                rintro e w5 ⟨rfl, v5, n5⟩
                go_wp2_with fail
                exact ⟨rfl, WEnd.bad HRX.out (N4.out.trans n5)⟩
              | ok b5 =>
                have HL5 : LStep R true t (deep + 1) (k + 1) b5 := by unfold LStep; rw [HLS4.out, hv]; rfl
                rw [hv] at HV
                clear hv
                go_wp2_with fail
                refine HV.mono ?_
                rintro e w5 ⟨rfl, v5, h5, n5⟩
                have H5 := Lib.hid h5
                have N5 := Lib.hid (N4.out.trans n5)
                clear h5 n5 HV
                go_wp2_with fail
                go_roundw
                case rel => exact ⟨k + 1, v5, b5, by omega, by go_num, H5, N5, HL5⟩
                case measure => simp [intOf]; omega
      · obtain rfl : k = m := by omega
        have HRE := Lib.hid (show R = .ok bk by rw [show R = _ from hL, ← HM.out, wrF_end])
        have HPUT := put_w base g vk bk [125] _ hW.out hBr (by simp)
        clear hL
        cases hp : lng (bk ++ [125]) with
        | error x =>
          have HRX := Lib.hid (show wrM t deep b = .error x by rw [HR.out, HRE.out, then_ok, hp])
          rw [hp] at HPUT
          clear hp
          go_wp2_with fail
          refine HPUT.mono ?_
          rintro e w2 ⟨rfl, v2, n2⟩
          go_wp2_with fail
          exact ⟨rfl, WEnd.bad HRX.out (hX.out.trans n2)⟩
        | ok b2 =>
          have HRX := Lib.hid (show wrM t deep b = .ok b2 by rw [HR.out, HRE.out, then_ok, hp])
          rw [hp] at HPUT
          clear hp
          go_wp2_with fail
          refine HPUT.mono ?_
          rintro e w2 ⟨rfl, v2, h2, n2⟩
          go_wp2_with fail
          go_end0
          exact WEnd.ok HRX.out h2 (hX.out.trans n2)
end Go.Proofs.YtajkgcmopmpihaaGreatDoor
namespace Go.Proofs.YtajkgcmopmpihaaGreatDoor
open Go.ChangeShapes Go.WideShapes Go.ChangeAt Go.RowKit Go.IntWalk
set_option linter.unusedVariables false
set_option maxHeartbeats 4000000 in
theorem shaped_calls (v : Jv) (A B : Option Addr) (nl cl nm cm : Nat) (w : World) (h1 : Room nl cl v.l.ext) (h2 : Room nm cm v.m.ext) :
    Calls Tryz.prog 43 #[.agg #[.int .i64 v.kd, .bool v.is, .int .i64 v.n, .string ⟨v.s.toArray⟩, .slice A nl cl, .slice B nm cm]] w fun e w' => e = .returned (.bool v.bare) ∧ Below w.heap.size w w' := by
  obtain ⟨kd, is, n, s, l, m⟩ := v
  obtain ⟨rfl, _, _⟩ := h1
  obtain ⟨rfl, _, _⟩ := h2
  dsimp only
  rcases (show kd = 0 ∨ kd = 1 ∨ kd = 2 ∨ kd = 3 ∨ kd = 4 ∨ kd = 5 ∨ (¬ kd = 0 ∧ ¬ kd = 1 ∧ ¬ kd = 2 ∧ ¬ kd = 3 ∧ ¬ kd = 4 ∧ ¬ kd = 5) by omega) with rfl | rfl | rfl | rfl | rfl | rfl | ⟨k0, k1, k2, k3, k4, k5⟩
  all_goals
    go_enter Tryz.func43, Tryz.ntmps43
    go_wp2
    all_goals
      go_ret
      refine ⟨?_, (Below.refl _ _).alloc (Nat.le_refl _) _⟩
      first
        | (simp [Jv.bare, JT.isNil_eq, *]; done)
        | (simp [Jv.bare, JT.isNil_eq, *]; intros; omega)
end Go.Proofs.YtajkgcmopmpihaaGreatDoor
namespace Go.Proofs.YtajkgcmopmpihaaGreatDoor
open Go.ChangeShapes Go.WideShapes Go.ChangeAt Go.RowKit Go.IntWalk
set_option linter.unusedVariables false
set_option maxHeartbeats 16000000 in
theorem value_w : ∀ N, ValC N := by
  intro N
  induction N with
  | zero => intro jv deep dI base g v b w A B nl cl nm cm h; unfold Jv.bulk at h; omega
  | succ N IH =>
    intro jv deep dI base g v b w A B nl cl nm cm hN hd hdI hg hB rl rm sl sm hf h hT
    subst hdI
    have hlN : jv.l.bulk ≤ N := by unfold Jv.bulk at hN; omega
    have hmN : jv.m.bulk ≤ N := by unfold Jv.bulk at hN; omega
    have HS := fun w => shaped_calls jv A B nl cl nm cm w rl rm
    have hbk := @bare_kd jv
    have E0 := Lib.hid (@wrV_bad jv)
    have E1 := Lib.hid (@wrV_0 jv)
    have E2 := Lib.hid (@wrV_1 jv)
    have E3 := Lib.hid (@wrV_2 jv)
    have E4 := Lib.hid (@wrV_3 jv)
    have E5 := Lib.hid (@wrV_4 jv)
    have E6 := Lib.hid (@wrV_5 jv)
    obtain ⟨jb, hjb⟩ : ∃ jb, jv.bare = jb := ⟨_, rfl⟩
    obtain ⟨R, hR⟩ : ∃ R, wrV jv deep b = R := ⟨_, rfl⟩
    have HR := Lib.hid hR
    have HJB := Lib.hid hjb
    rw [hjb] at hbk
    simp only [hjb] at HS
    rw [hR]
    clear hjb hR
    obtain ⟨kd, is, n, s, l, m⟩ := jv
    dsimp only at *
    have H := Lib.hid h
    have HX := Lib.hid (And.intro hT (And.intro rl (And.intro rm (And.intro sl (And.intro sm hf)))))
    have hown : ∀ k, v.ownBlock = some k → base ≤ k := fun k hk => (h.own k hk).1
    have HOWN := Lib.hid hown
    clear h hT rl rm sl sm hf hN hown
    cases jb with
    | false =>
      have HE := Lib.hid (show R = .error 1 by rw [← HR.out]; exact E0.out HJB.out deep b)
      clear hbk
      go_enter Tryz.func28, Tryz.ntmps28
      go_wp2_with fail
      refine (HS _).mono ?_
      rintro e w1 ⟨rfl, b1⟩
      go_wp2_with fail
      refine (giveUp_calls _ _).mono ?_
      rintro e w2 ⟨rfl, rfl⟩
      go_wp2_with fail
      exact ⟨rfl, WEnd.bad HE.out (Nx.of_below (((Below.refl _ _).alloc (Nat.le_refl _) _).trans (b1.mono (by simp))))⟩
    | true =>
      rcases hbk rfl with rfl | rfl | rfl | rfl | rfl | rfl
      · have HE := Lib.hid (show R = lng (b ++ [110, 117, 108, 108]) by rw [← HR.out]; exact E1.out HJB.out rfl deep b)
        clear hbk
        cases hr : (lng (b ++ [110, 117, 108, 108]) : Res)
        all_goals
          have HR2 := Lib.hid hr
          clear hr
          go_enter Tryz.func28, Tryz.ntmps28
          go_wp2_with fail
          refine (HS _).mono ?_
          rintro e w1 ⟨rfl, b1⟩
          have hb1 : Below w.heap.size w w1 := ((Below.refl _ _).alloc (Nat.le_refl _) _).trans (b1.mono (by simp))
          have bx := (Blk.new w [.int .i64 0, .bool is, .int .i64 n, .string ⟨s.toArray⟩, .slice A nl cl, .slice B nm cm] 25).later b1
          have d0 := bx.cell (k := 0) rfl
          have d1 := bx.cell (k := 1) rfl
          have d2 := bx.cell (k := 2) rfl
          have d3 := bx.cell (k := 3) rfl
          have d4 := bx.cell (k := 4) rfl
          have d5 := bx.cell (k := 5) rfl
          have HB1 := Lib.hid hb1
          clear b1 hb1 bx
          go_wp2_with fail
          refine (put_w base g v b [110, 117, 108, 108] w1 (H.out.below HB1.out) (Nat.le_trans hB HB1.out.size) (by simp)).mono ?_
          intro e w3 hE
          first | (obtain ⟨rfl, v3, h3, n3⟩ := WEnd.of_ok HR2.out hE; clear hE) | (obtain ⟨rfl, v3, n3⟩ := WEnd.of_bad HR2.out hE; clear hE)
          go_wp2_with fail
        · exact ⟨rfl, WEnd.bad (HE.out.trans HR2.out) ((Nx.of_below HB1.out).trans n3)⟩
        · go_end0
          exact WEnd.ok (HE.out.trans HR2.out) h3 ((Nx.of_below HB1.out).trans n3)
      · obtain ⟨fb, hfb⟩ : ∃ fb, (if is then [116, 114, 117, 101] else [102, 97, 108, 115, 101] : List UInt8) = fb := ⟨_, rfl⟩
        have hfl : fb.length ≤ 5 := by rw [← hfb]; split <;> simp
        have HFB : ∀ w, Calls Tryz.prog 45 #[.bool is] w fun e w' => e = .returned (.string ⟨fb.toArray⟩) ∧ w' = w := fun w => by
          have := Tryz.strconv_FormatBool is w
          rw [fmtB, hfb] at this
          exact this
        have HE := Lib.hid (show R = lng (b ++ fb) by rw [← HR.out, ← hfb]; exact E2.out HJB.out rfl deep b)
        clear hfb
        clear hbk
        cases hr : (lng (b ++ fb) : Res)
        all_goals
          have HR2 := Lib.hid hr
          clear hr
          go_enter Tryz.func28, Tryz.ntmps28
          go_wp2_with fail
          refine (HS _).mono ?_
          rintro e w1 ⟨rfl, b1⟩
          have hb1 : Below w.heap.size w w1 := ((Below.refl _ _).alloc (Nat.le_refl _) _).trans (b1.mono (by simp))
          have bx := (Blk.new w [.int .i64 1, .bool is, .int .i64 n, .string ⟨s.toArray⟩, .slice A nl cl, .slice B nm cm] 25).later b1
          have d0 := bx.cell (k := 0) rfl
          have d1 := bx.cell (k := 1) rfl
          have d2 := bx.cell (k := 2) rfl
          have d3 := bx.cell (k := 3) rfl
          have d4 := bx.cell (k := 4) rfl
          have d5 := bx.cell (k := 5) rfl
          have HB1 := Lib.hid hb1
          clear b1 hb1 bx
          go_wp2_with fail
          refine (HFB _).mono ?_
          rintro e w2 ⟨rfl, rfl⟩
          go_wp2_with fail
          refine (put_w base g v b fb _ (H.out.below HB1.out) (Nat.le_trans hB HB1.out.size) (by omega)).mono ?_
          intro e w3 hE
          first | (obtain ⟨rfl, v3, h3, n3⟩ := WEnd.of_ok HR2.out hE; clear hE) | (obtain ⟨rfl, v3, n3⟩ := WEnd.of_bad HR2.out hE; clear hE)
          go_wp2_with fail
        · exact ⟨rfl, WEnd.bad (HE.out.trans HR2.out) ((Nx.of_below HB1.out).trans n3)⟩
        · go_end0
          exact WEnd.ok (HE.out.trans HR2.out) h3 ((Nx.of_below HB1.out).trans n3)
      · have HE := Lib.hid (show R = lng (b ++ Lib.itoa n) by rw [← HR.out]; exact E3.out HJB.out rfl deep b)
        clear hbk
        cases hr : (lng (b ++ Lib.itoa n) : Res)
        all_goals
          have HR2 := Lib.hid hr
          clear hr
          go_enter Tryz.func28, Tryz.ntmps28
          go_wp2_with fail
          refine (HS _).mono ?_
          rintro e w1 ⟨rfl, b1⟩
          have hb1 : Below w.heap.size w w1 := ((Below.refl _ _).alloc (Nat.le_refl _) _).trans (b1.mono (by simp))
          have bx := (Blk.new w [.int .i64 2, .bool is, .int .i64 n, .string ⟨s.toArray⟩, .slice A nl cl, .slice B nm cm] 25).later b1
          have d0 := bx.cell (k := 0) rfl
          have d1 := bx.cell (k := 1) rfl
          have d2 := bx.cell (k := 2) rfl
          have d3 := bx.cell (k := 3) rfl
          have d4 := bx.cell (k := 4) rfl
          have d5 := bx.cell (k := 5) rfl
          have HB1 := Lib.hid hb1
          clear b1 hb1 bx
          go_wp2_with fail
          refine (itoa_calls base n HX.out.2.2.2.2.2.2.1.1 HX.out.2.2.2.2.2.2.1.2 _ (HX.out.1.blw (HB1.out.mono hB))).mono ?_
          rintro e w2 ⟨rfl, b2⟩
          have HB2 := Lib.hid (HB1.out.trans (b2.mono HB1.out.size))
          clear b2
          go_wp2_with fail
          refine (put_w base g v b _ _ (H.out.below HB2.out) (Nat.le_trans hB HB2.out.size) (Nat.le_trans (itoa_le n HX.out.2.2.2.2.2.2.1.1 HX.out.2.2.2.2.2.2.1.2) (by decide))).mono ?_
          intro e w3 hE
          first | (obtain ⟨rfl, v3, h3, n3⟩ := WEnd.of_ok HR2.out hE; clear hE) | (obtain ⟨rfl, v3, n3⟩ := WEnd.of_bad HR2.out hE; clear hE)
          go_wp2_with fail
        · exact ⟨rfl, WEnd.bad (HE.out.trans HR2.out) ((Nx.of_below HB2.out).trans n3)⟩
        · go_end0
          exact WEnd.ok (HE.out.trans HR2.out) h3 ((Nx.of_below HB2.out).trans n3)
      · have HE := Lib.hid (show R = txt b s by rw [← HR.out]; exact E4.out HJB.out rfl deep b)
        clear hbk
        cases hr : (txt b s : Res)
        all_goals
          have HR2 := Lib.hid hr
          clear hr
          go_enter Tryz.func28, Tryz.ntmps28
          go_wp2_with fail
          refine (HS _).mono ?_
          rintro e w1 ⟨rfl, b1⟩
          have hb1 : Below w.heap.size w w1 := ((Below.refl _ _).alloc (Nat.le_refl _) _).trans (b1.mono (by simp))
          have bx := (Blk.new w [.int .i64 3, .bool is, .int .i64 n, .string ⟨s.toArray⟩, .slice A nl cl, .slice B nm cm] 25).later b1
          have d0 := bx.cell (k := 0) rfl
          have d1 := bx.cell (k := 1) rfl
          have d2 := bx.cell (k := 2) rfl
          have d3 := bx.cell (k := 3) rfl
          have d4 := bx.cell (k := 4) rfl
          have d5 := bx.cell (k := 5) rfl
          have HB1 := Lib.hid hb1
          clear b1 hb1 bx
          go_wp2_with fail
          refine (text_w base g v b s _ (H.out.below HB1.out) (Nat.le_trans hB HB1.out.size) HX.out.2.2.2.2.2.2.2).mono ?_
          intro e w3 hE
          first | (obtain ⟨rfl, v3, h3, n3⟩ := WEnd.of_ok HR2.out hE; clear hE) | (obtain ⟨rfl, v3, n3⟩ := WEnd.of_bad HR2.out hE; clear hE)
          go_wp2_with fail
        · exact ⟨rfl, WEnd.bad (HE.out.trans HR2.out) ((Nx.of_below HB1.out).trans n3)⟩
        · go_end0
          exact WEnd.ok (HE.out.trans HR2.out) h3 ((Nx.of_below HB1.out).trans n3)
      · have HE := Lib.hid (show R = wrL l deep b by rw [← HR.out]; exact E5.out HJB.out rfl deep b)
        clear hbk
        cases hr : (wrL l deep b : Res)
        all_goals
          have HR2 := Lib.hid hr
          clear hr
          go_enter Tryz.func28, Tryz.ntmps28
          go_wp2_with fail
          refine (HS _).mono ?_
          rintro e w1 ⟨rfl, b1⟩
          have hb1 : Below w.heap.size w w1 := ((Below.refl _ _).alloc (Nat.le_refl _) _).trans (b1.mono (by simp))
          have bx := (Blk.new w [.int .i64 4, .bool is, .int .i64 n, .string ⟨s.toArray⟩, .slice A nl cl, .slice B nm cm] 25).later b1
          have d0 := bx.cell (k := 0) rfl
          have d1 := bx.cell (k := 1) rfl
          have d2 := bx.cell (k := 2) rfl
          have d3 := bx.cell (k := 3) rfl
          have d4 := bx.cell (k := 4) rfl
          have d5 := bx.cell (k := 5) rfl
          have HB1 := Lib.hid hb1
          clear b1 hb1 bx
          go_wp2_with fail
          refine (list_w N IH l deep base g v b _ A nl cl hlN hd hg (Nat.le_trans hB HB1.out.size) HX.out.2.1 (HX.out.2.2.2.1.blw (HB1.out.mono hB)) (H.out.below HB1.out) (HX.out.1.blw (HB1.out.mono hB))).mono ?_
          intro e w3 hE
          first | (obtain ⟨rfl, v3, h3, n3⟩ := WEnd.of_ok HR2.out hE; clear hE) | (obtain ⟨rfl, v3, n3⟩ := WEnd.of_bad HR2.out hE; clear hE)
          go_wp2_with fail
        · exact ⟨rfl, WEnd.bad (HE.out.trans HR2.out) ((Nx.of_below HB1.out).trans n3)⟩
        · go_end0
          exact WEnd.ok (HE.out.trans HR2.out) h3 ((Nx.of_below HB1.out).trans n3)
      · have HE := Lib.hid (show R = wrM m deep b by rw [← HR.out]; exact E6.out HJB.out rfl deep b)
        clear hbk
        cases hr : (wrM m deep b : Res)
        all_goals
          have HR2 := Lib.hid hr
          clear hr
          go_enter Tryz.func28, Tryz.ntmps28
          go_wp2_with fail
          refine (HS _).mono ?_
          rintro e w1 ⟨rfl, b1⟩
          have hb1 : Below w.heap.size w w1 := ((Below.refl _ _).alloc (Nat.le_refl _) _).trans (b1.mono (by simp))
          have bx := (Blk.new w [.int .i64 5, .bool is, .int .i64 n, .string ⟨s.toArray⟩, .slice A nl cl, .slice B nm cm] 25).later b1
          have d0 := bx.cell (k := 0) rfl
          have d1 := bx.cell (k := 1) rfl
          have d2 := bx.cell (k := 2) rfl
          have d3 := bx.cell (k := 3) rfl
          have d4 := bx.cell (k := 4) rfl
          have d5 := bx.cell (k := 5) rfl
          have HB1 := Lib.hid hb1
          clear b1 hb1 bx
          go_wp2_with fail
          refine (members_w N IH m deep base g v b _ B nm cm hmN hd hg (Nat.le_trans hB HB1.out.size) HX.out.2.2.1 (HX.out.2.2.2.2.1.blw (HB1.out.mono hB)) (H.out.below HB1.out) (HX.out.1.blw (HB1.out.mono hB))).mono ?_
          intro e w3 hE
          first | (obtain ⟨rfl, v3, h3, n3⟩ := WEnd.of_ok HR2.out hE; clear hE) | (obtain ⟨rfl, v3, n3⟩ := WEnd.of_bad HR2.out hE; clear hE)
          go_wp2_with fail
        · exact ⟨rfl, WEnd.bad (HE.out.trans HR2.out) ((Nx.of_below HB1.out).trans n3)⟩
        · go_end0
          exact WEnd.ok (HE.out.trans HR2.out) h3 ((Nx.of_below HB1.out).trans n3)
end Go.Proofs.YtajkgcmopmpihaaGreatDoor
namespace Go.Proofs.YtajkgcmopmpihaaGreatDoor
open Go.ChangeShapes Go.WideShapes Go.ChangeAt Go.RowKit Go.IntWalk
set_option linter.unusedVariables false
theorem catch_panicking (b : Nat) (s0 : ByteArray) (x x0 : Int) (older : List PanicEntry) (w : World) (hp : w.cell? ⟨b, 0, none⟩ = some (.string s0)) (hq : w.cell? ⟨b + 1, 0, none⟩ = some (.int .i64 x0)) (fp : w.frozen? ⟨b, 0, none⟩ = false) (fq : w.frozen? ⟨b + 1, 0, none⟩ = false) :
    CallsD Tryz.prog 27 #[.pointer (some ⟨b, 0, none⟩), .pointer (some ⟨b + 1, 0, none⟩)] (.panicking ({ v := .iface 46 (.agg #[.int .i64 x]), recovered := false } :: older)) w fun e u' w' =>
      e = .returned (.tuple #[]) ∧ u' = .panicking ({ v := .iface 46 (.agg #[.int .i64 x]), recovered := true } :: older) ∧ ∃ n, w' = ((w.setCell ⟨b, 0, none⟩ (.string ⟨#[]⟩)).setCell ⟨b + 1, 0, none⟩ (.int .i64 x)).drewN n := by
  refine callsD_of_wpS Tryz.func27 rfl fun c₀ cs hu => ?_
  apply wpS_seq
  apply wpS_region
  simp [wpOpsS, go_sem, recoverD, hu, Tryz.ntmps27, Exit.thenS]
  apply wpS_seq
  apply wpS_region
  simp [wpOpsS, go_sem, Exit.thenS]
  refine wpS_cond (t := true) (by simp [Act.eval, Array.replicate]) ?_
  simp only [if_true]
  refine wpS_of_wp ?_
  have hta : ∀ w, (Instr.typeAssert (.iface 46 (.agg #[.int .i64 x])) 20 46 false).run Tryz.prog w = .ok (.agg #[.int .i64 x]) w := fun _ => by kernel_rfl
  have hfd : ∀ w, (Instr.field 46 (.agg #[.int .i64 x]) 0).run Tryz.prog w = .ok (.int .i64 x) w := fun _ => by kernel_rfl
  change Code.wp _ _ _ { tmps := #[.pointer (some ⟨b, 0, none⟩), .pointer (some ⟨b + 1, 0, none⟩), .iface 46 (.agg #[.int .i64 x]), .iface 46 (.agg #[.int .i64 x]), .iface 46 (.agg #[.int .i64 x]), .bool true, undef, undef, undef], defers := [] } w
  go_region
  exact ⟨rfl, _, rfl, .tuple #[], results_none rfl _ _ _, rfl, rfl, 1, rfl⟩
theorem catch_idle (p q : Addr) (w : World) :
    CallsD Tryz.prog 27 #[.pointer (some p), .pointer (some q)] .returning w fun e u' w' => e = .returned (.tuple #[]) ∧ u' = .returning ∧ w' = w := by
  refine callsD_of_wpS Tryz.func27 rfl fun c₀ cs hu => ?_
  apply wpS_seq
  apply wpS_region
  simp [wpOpsS, go_sem, recoverD, hu, Tryz.ntmps27, Exit.thenS]
  apply wpS_seq
  apply wpS_region
  simp [wpOpsS, go_sem, Exit.thenS]
  refine wpS_cond (t := false) (by simp [Act.eval, Array.replicate]) ?_
  simp only [Bool.false_eq_true, if_false]
  refine wpS_of_wp (wp_skip ?_)
  cases c₀
  simp_all [bodyPostS, results, Tryz.results27]
set_option maxHeartbeats 4000000 in
theorem canon_calls (v : Jv) (A B : Option Addr) (nl cl nm cm : Nat) (w : World) (rl : Room nl cl v.l.ext) (rm : Room nm cm v.m.ext) (sl : JSl (· < w.heap.size) w false A v.l) (sm : JSl (· < w.heap.size) w true B v.m) (hf : Fit v.kd v.n v.s) (hT : PowT w.heap.size w) :
    Calls Tryz.prog 11 #[.agg #[.int .i64 v.kd, .bool v.is, .int .i64 v.n, .string ⟨v.s.toArray⟩, .slice A nl cl, .slice B nm cm]] w (CanPost v w) := by
  have hmf : ∀ (fn : Fn) (first cap : Array Value) (w : World), (Instr.makeFunc fn first cap).run Tryz.prog w = .ok (.func fn first cap) w := fun _ _ _ _ => rfl
  obtain ⟨W4, hW4⟩ : ∃ W4, W4 = ((((w.alloc (.cells #[.int .i64 v.kd, .bool v.is, .int .i64 v.n, .string ⟨v.s.toArray⟩, .slice A nl cl, .slice B nm cm] 25)).alloc (.cells #[.string ⟨#[]⟩] 9)).alloc (.cells #[.int .i64 0] 26)).alloc (.cells #[.slice none 0 0] 60)) := ⟨_, rfl⟩
  have A4 : Blk W4 (w.heap.size + 1) 9 [.string ⟨#[]⟩] ∧ Blk W4 (w.heap.size + 1 + 1) 26 [.int .i64 0] ∧ Blk W4 (w.heap.size + 1 + 1 + 1) 60 [.slice none 0 0] ∧ Below w.heap.size w W4 ∧ w.heap.size + 1 + 1 + 1 < W4.heap.size := by
    subst hW4
    refine ⟨?_, ?_, ?_, ?_, by simp⟩
    · have := ((Blk.new (w.alloc (.cells #[.int .i64 v.kd, .bool v.is, .int .i64 v.n, .string ⟨v.s.toArray⟩, .slice A nl cl, .slice B nm cm] 25)) [.string ⟨#[]⟩] 9).alloc (.cells #[.int .i64 0] 26)).alloc (.cells #[.slice none 0 0] 60)
      simpa using this
    · have := (Blk.new ((w.alloc (.cells #[.int .i64 v.kd, .bool v.is, .int .i64 v.n, .string ⟨v.s.toArray⟩, .slice A nl cl, .slice B nm cm] 25)).alloc (.cells #[.string ⟨#[]⟩] 9)) [.int .i64 0] 26).alloc (.cells #[.slice none 0 0] 60)
      simpa using this
    · have := Blk.new (((w.alloc (.cells #[.int .i64 v.kd, .bool v.is, .int .i64 v.n, .string ⟨v.s.toArray⟩, .slice A nl cl, .slice B nm cm] 25)).alloc (.cells #[.string ⟨#[]⟩] 9)).alloc (.cells #[.int .i64 0] 26)) [.slice none 0 0] 60
      simpa using this
    · exact ((((Below.refl _ _).alloc (Nat.le_refl _) _).alloc (by simp) _).alloc (by simp; omega) _).alloc (by simp; omega) _
  obtain ⟨k1, k2, k3, b4, h4⟩ := A4
  have HV := value_w v.bulk v 0 0 w.heap.size (w.heap.size + 1 + 1 + 1) (.slice none 0 0) [] W4 A B nl cl nm cm (Nat.le_refl _) (by omega) rfl (by omega) (by omega) rl rm (sl.blw b4) (sm.blw b4) hf ⟨.inl ⟨rfl, rfl⟩, k3, by simp [Value.ownBlock], by simp⟩ (hT.blw b4)
  have HK := Lib.hid (And.intro k1 (And.intro k2 (And.intro b4 h4)))
  rw [hW4] at HV
  have HW4 := Lib.hid hW4
  clear k1 k2 k3 b4 h4 hW4 rl rm sl sm hf hT
  cases hr : wrV v 0 [] with
  | error x =>
    have HC := Lib.hid (show canF v = ([], x) by unfold canF; rw [hr])
    rw [hr] at HV
    clear hr
    go_enter_defers Tryz.func11, Tryz.ntmps11
    go_wp2_with fail
    refine HV.mono ?_
    rintro e w2 ⟨rfl, v2, n2⟩
    rw [← HW4.out] at n2
    have c1 := n2.blk HK.out.1 (by omega) (by simp [Value.ownBlock])
    have c2 := n2.blk HK.out.2.1 (by omega) (by simp [Value.ownBlock])
    have hb2 := n2.below HK.out.2.2.1 (show w.heap.size ≤ w.heap.size + 1 + 1 + 1 by omega) (by have := HK.out.2.2.2; omega) (by simp [Value.ownBlock])
    go_wp2_with fail
    refine leaves_cons (f := 27) (args := #[.pointer (some ⟨w.heap.size + 1, 0, none⟩), .pointer (some ⟨w.heap.size + 1 + 1, 0, none⟩)]) (by simp) (by simp [go_sem]) ?_
    refine (catch_panicking (w.heap.size + 1) ⟨#[]⟩ x 0 [] w2 (c1.cell rfl) (c2.cell rfl) (c1.frozen 0) (c2.frozen 0)).mono ?_
    rintro e u' w'' ⟨rfl, rfl, q, rfl⟩
    have d1 := ((c1.set_ 0 (.string ⟨#[]⟩)).other (g2 := w.heap.size + 1 + 1) (k := 0) (by omega) (.int .i64 x)).drewN q
    have d2 := ((c2.other (g2 := w.heap.size + 1) (k := 0) (by omega) (.string ⟨#[]⟩)).set_ 0 (.int .i64 x)).drewN q
    have e1 := d1.cell (k := 0) rfl
    have e2 := d2.cell (k := 0) rfl
    have HB := Lib.hid hb2
    clear d1 d2 c1 c2 hb2 n2
    simp [Leaves, settle, results, Tryz.results11, go_sem, e1, e2]
    exact ⟨by rw [HC.out], below_drewN ((HB.out.setCell (by dsimp only; omega) _).setCell (by dsimp only; omega) _) q⟩
  | ok b =>
    have HC := Lib.hid (show canF v = (b, 0) by unfold canF; rw [hr])
    rw [hr] at HV
    clear hr
    go_enter_defers Tryz.func11, Tryz.ntmps11
    go_wp2_with fail
    refine HV.mono ?_
    rintro e w2 ⟨rfl, v2, h2, n2⟩
    rw [← HW4.out] at n2
    have c1 := n2.blk HK.out.1 (by omega) (by simp [Value.ownBlock])
    have c2 := n2.blk HK.out.2.1 (by omega) (by simp [Value.ownBlock])
    have hb2 := n2.below HK.out.2.2.1 (show w.heap.size ≤ w.heap.size + 1 + 1 + 1 by omega) (by have := HK.out.2.2.2; omega) (by simp [Value.ownBlock])
    have c3 := h2.2.1.cell (k := 0) rfl
    obtain ⟨A2, m2, cap2, rfl, hrb, hn2, hc2⟩ := h2.1.form
    have hcv := run_str_rb w2 A2 m2 cap2 b hrb hn2
    have e1 := c1.cell (k := 0) rfl
    have e2 := c2.cell (k := 0) rfl
    have f1 := c1.frozen 0
    have f2 := c2.frozen 0
    have HB := Lib.hid hb2
    have d1 := ((c1.set_ 0 (.string ⟨b.toArray⟩)).other (g2 := w.heap.size + 1 + 1) (k := 0) (by omega) (.int .i64 0)).cell (k := 0) rfl
    have d2 := ((c2.other (g2 := w.heap.size + 1) (k := 0) (by omega) (.string ⟨b.toArray⟩)).set_ 0 (.int .i64 0)).cell (k := 0) rfl
    clear c1 c2 hb2 h2 n2 hrb hn2 hc2
    go_wp2_with fail
    refine leaves_cons (f := 27) (args := #[.pointer (some ⟨w.heap.size + 1, 0, none⟩), .pointer (some ⟨w.heap.size + 1 + 1, 0, none⟩)]) (by simp) (by simp [go_sem]) ?_
    refine (catch_idle ⟨w.heap.size + 1, 0, none⟩ ⟨w.heap.size + 1 + 1, 0, none⟩ _).mono ?_
    rintro e u' w'' ⟨rfl, rfl, rfl⟩
    simp [Leaves, settle, results, Tryz.results11, go_sem, d1, d2]
    exact ⟨by rw [HC.out], (HB.out.setCell (by dsimp only; omega) _).setCell (by dsimp only; omega) _⟩
end Go.Proofs.YtajkgcmopmpihaaGreatDoor
namespace Go.Proofs.YtajkgcmopmpihaaGreatDoor
open Go.ChangeShapes Go.WideShapes Go.ChangeAt Go.RowKit Go.IntWalk
set_option linter.unusedVariables false
def TabJ (w : World) : Prop := 3 < w.heap.size ∧ Lib.TabIs Tryz.prog w "internal/strconv.uint64pow10" .u64 Lib.pow10Tab
theorem TabJ.pow {w : World} (h : TabJ w) : PowT w.heap.size w := h
theorem TabJ.below {w w' : World} (h : TabJ w) (b : Below w.heap.size w w') : TabJ w' :=
  ⟨Nat.lt_of_lt_of_le h.1 b.size, (PowT.blw (base := w.heap.size) h b).2⟩
end Go.Proofs.YtajkgcmopmpihaaGreatDoor
