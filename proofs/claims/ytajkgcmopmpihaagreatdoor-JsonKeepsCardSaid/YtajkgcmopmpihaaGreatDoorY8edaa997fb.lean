/- Texts put together: JpR JvX JvY. -/
import Derived.Test.YtajkgcmopmpihaaGreatDoorY71e62596e8
import Derived.Test.YtajkgcmopmpihaaGreatDoorY7bdaacbea7
import Derived.Test.YtajkgcmopmpihaaGreatDoorY79bf1f75f6
import Derived.Test.YtajkgcmopmpihaaGreatDoorY876ef405fe
import Derived.Test.YtajkgcmopmpihaaGreatDoorYcc81974a9e
import Derived.Lib.LaidTab
import Derived.Lib.ItoaNum
namespace Go.Proofs.YtajkgcmopmpihaaGreatDoor
open Go.Lib
set_option linter.unusedVariables false
theorem isNil_eq {t : JT} (h : t.isNil = true) : t = .nil := by cases t with | nil => rfl | cons _ _ _ _ _ _ _ _ => cases h
theorem pC_null (deep : Nat) (rest : List UInt8) : pC deep 110 ([117, 108, 108] ++ rest) = .ok (nullJ, rest) := by
  unfold pC
  rw [if_neg (by decide), if_neg (by decide), if_neg (by decide), if_neg (by decide), if_pos ⟨rest, rfl⟩]; rfl
theorem pC_true (deep : Nat) (rest : List UInt8) : pC deep 116 ([114, 117, 101] ++ rest) = .ok (⟨1, true, 0, [], .nil, .nil⟩, rest) := by
  unfold pC
  rw [if_neg (by decide), if_neg (by decide), if_neg (by decide), if_neg (by decide), if_neg (by simp [List.cons_prefix_cons]), if_pos ⟨rest, rfl⟩]; rfl
theorem pC_false (deep : Nat) (rest : List UInt8) : pC deep 102 ([97, 108, 115, 101] ++ rest) = .ok (⟨1, false, 0, [], .nil, .nil⟩, rest) := by
  unfold pC
  rw [if_neg (by decide), if_neg (by decide), if_neg (by decide), if_neg (by decide), if_neg (by simp [List.cons_prefix_cons]), if_neg (by simp [List.cons_prefix_cons]), if_pos ⟨rest, rfl⟩]; rfl
end Go.Proofs.YtajkgcmopmpihaaGreatDoor
namespace Go.Proofs.YtajkgcmopmpihaaGreatDoor
open Go.ChangeShapes Go.WideShapes Go.ChangeAt Go.RowKit Go.IntWalk
set_option linter.unusedVariables false
set_option maxHeartbeats 2000000 in
theorem text_w (base g : Nat) (v : Value) (b l : List UInt8) (w : World) (h : WSt base w g v b) (hB : base ≤ w.heap.size) (hl : l.length ≤ 140737488355328) :
    Calls Tryz.prog 47 #[.pointer (some ⟨g, 0, none⟩), .string ⟨l.toArray⟩] w (WEnd base g w v (txt b l)) := by
  by_cases h6 : 65536 < l.length
  · have HR := Lib.hid (show txt b l = .error 3 by unfold txt; rw [if_pos h6])
    have hd1 : decide ((65536 : Int) < (l.length : Int)) = true := by simp; omega
    clear h6
    go_enter Tryz.func47, Tryz.ntmps47
    go_wp2_with fail
    refine (giveUp_calls _ _).mono ?_
    rintro e w2 ⟨rfl, rfl⟩
    go_wp2_with fail
    exact ⟨rfl, WEnd.bad HR.out (Nx.refl _ _ v)⟩
  · have hd1 : decide ((65536 : Int) < (l.length : Int)) = false := by simp; omega
    have HQ := put_calls l w (by omega)
    have hpl := putF_le l
    obtain ⟨q, hq⟩ : ∃ q, putF l = q := ⟨_, rfl⟩
    rw [hq] at hpl
    have hql : q.length ≤ 70368744000000 := by omega
    have HP := Lib.hid h
    have HL := Lib.hid hl
    have H6 := Lib.hid h6
    clear h hl hpl h6
    cases hv : Lib.validD l with
    | false =>
      have HR := Lib.hid (show txt b l = .error 1 by unfold txt; rw [if_neg H6.out, hv]; rfl)
      have HQ2 := HQ
      unfold PutPost at HQ2
      rw [hq, hv] at HQ2
      clear HQ hq hv
      go_enter Tryz.func47, Tryz.ntmps47
      go_wp2_with fail
      refine HQ2.mono ?_
      rintro e w1 ⟨rfl, b1⟩
      go_wp2_with fail
      refine (giveUp_calls _ _).mono ?_
      rintro e w2 ⟨rfl, rfl⟩
      go_wp2_with fail
      exact ⟨rfl, WEnd.bad HR.out (Nx.of_below b1)⟩
    | true =>
      have HR := Lib.hid (show txt b l = lng (b ++ q) by unfold txt; rw [if_neg H6.out, hv, if_pos rfl, hq])
      have HQ2 := HQ
      unfold PutPost at HQ2
      rw [hq, hv] at HQ2
      clear HQ hq hv
      cases hr : lng (b ++ q)
      all_goals
        have HR2 := Lib.hid hr
        clear hr
        go_enter Tryz.func47, Tryz.ntmps47
        go_wp2_with fail
        refine HQ2.mono ?_
        rintro e w1 ⟨rfl, b1⟩
        have hB1 : base ≤ w1.heap.size := Nat.le_trans hB b1.size
        go_wp2_with fail
        refine (put_w base g v b q _ (HP.out.below b1) hB1 hql).mono ?_
        intro e w2 hE
        first | (obtain ⟨rfl, v2, h2, n2⟩ := WEnd.of_ok HR2.out hE; clear hE) | (obtain ⟨rfl, v2, n2⟩ := WEnd.of_bad HR2.out hE; clear hE)
        go_wp2_with fail
      · exact ⟨rfl, WEnd.bad (HR.out.trans HR2.out) ((Nx.of_below b1).trans n2)⟩
      · go_end0
        exact WEnd.ok (HR.out.trans HR2.out) h2 ((Nx.of_below b1).trans n2)
end Go.Proofs.YtajkgcmopmpihaaGreatDoor
namespace Go.Proofs.YtajkgcmopmpihaaGreatDoor
open Go.ChangeShapes Go.WideShapes Go.ChangeAt Go.RowKit Go.IntWalk
set_option linter.unusedVariables false
section
variable {base g : Nat} {w w1 w' : World} {v v' : Value} {mem : Bool} {A : Option Addr} {t : JT}
theorem JSl.nx (h : JSl (· < base) w mem A t) (n : Nx w w' g v v') (hg : base ≤ g) (ho : ∀ k, v.ownBlock = some k → base ≤ k) (hB : base ≤ w.heap.size) : JSl (· < base) w' mem A t :=
  h.stay (fun b o hb => Go.RowKit.Below.cell (p := ⟨b, o, none⟩) (n.below (Below.refl base w) hg hB ho) hb) (fun _ h => h)
end
theorem PowT.nx {base g : Nat} {w w' : World} {v v' : Value} (h : PowT base w) (n : Nx w w' g v v') (hg : base ≤ g) (ho : ∀ k, v.ownBlock = some k → base ≤ k) (hB : base ≤ w.heap.size) : PowT base w' :=
  h.blw (n.below (Below.refl base w) hg hB ho)
def ValC (N : Nat) : Prop := ∀ (jv : Jv) (deep : Nat) (dI : Int) (base g : Nat) (v : Value) (b : List UInt8) (w : World) (A B : Option Addr) (nl cl nm cm : Nat), jv.bulk ≤ N → deep ≤ 32 → dI = (deep : Int) → base ≤ g → base ≤ w.heap.size →
  Room nl cl jv.l.ext → Room nm cm jv.m.ext → JSl (· < base) w false A jv.l → JSl (· < base) w true B jv.m → Fit jv.kd jv.n jv.s → WSt base w g v b → PowT base w →
  Calls Tryz.prog 28 #[.pointer (some ⟨g, 0, none⟩), .agg #[.int .i64 jv.kd, .bool jv.is, .int .i64 jv.n, .string ⟨jv.s.toArray⟩, .slice A nl cl, .slice B nm cm], .int .i64 dI] w (WEnd base g w v (wrV jv deep b))
set_option maxHeartbeats 8000000 in
theorem list_w (N : Nat) (IH : ValC N) (t : JT) (deep : Nat) (base g : Nat) (v : Value) (b : List UInt8) (w : World) (A : Option Addr) (n c : Nat) (hN : t.bulk ≤ N) (hd : deep ≤ 32) (hg : base ≤ g) (hB : base ≤ w.heap.size)
    (hr : Room n c t.ext) (hs : JSl (· < base) w false A t) (h : WSt base w g v b) (hT : PowT base w) :
    Calls Tryz.prog 48 #[.pointer (some ⟨g, 0, none⟩), .slice A n c, .int .i64 (deep : Int)] w (WEnd base g w v (wrL t deep b)) := by
  have HO := open_w base g v b [91] deep w h hB (by simp)
  have HP := Lib.hid h
  have HTT := Lib.hid hT
  clear hT
  have hown : ∀ k, v.ownBlock = some k → base ≤ k := fun k hk => (h.own k hk).1
  have HW := Lib.hid hown
  cases ho : (if 32 ≤ deep then (.error 5 : Res) else lng (b ++ [91])) with
  | error x =>
    have HR := Lib.hid (show wrL t deep b = .error x by unfold wrL; rw [ho]; rfl)
    rw [ho] at HO
    clear ho h hown
    go_enter Tryz.func48, Tryz.ntmps48
    go_wp2_with fail
    refine HO.mono ?_
    rintro e w2 ⟨rfl, v2, n2⟩
    go_wp2_with fail
    exact ⟨rfl, WEnd.bad HR.out n2⟩
  | ok b1 =>
    have hdd : deep < 32 := by
      rcases Nat.lt_or_ge deep 32 with h | h
      · exact h
      · rw [if_pos h] at ho; cases ho
    obtain ⟨R, hR⟩ : ∃ R, wrF false t (deep + 1) none b1 = R := ⟨_, rfl⟩
    have HR := Lib.hid (show wrL t deep b = R.then fun b => lng (b ++ [93]) by unfold wrL; rw [ho, then_ok, hR])
    have HR0 : LStep R false t (deep + 1) 0 b1 := by unfold LStep; rw [JT.fall_zero]; exact hR.symm
    rw [ho] at HO
    obtain ⟨rfl, hnc, hcm⟩ := hr
    clear ho h hown hR
    obtain ⟨m, hm⟩ : ∃ m, t.ext = m := ⟨_, rfl⟩
    rw [hm] at hnc hcm ⊢
    have HM := Lib.hid hm
    have HS := Lib.hid hs
    clear hm hs
    go_enter Tryz.func48, Tryz.ntmps48
    go_wp2_with fail
    refine HO.mono ?_
    rintro e w1 ⟨rfl, v1, h1, n1⟩
    have H1 := Lib.hid h1
    have N1 := Lib.hid n1
    clear h1 n1 HO
    go_wp2_with fail
    go_loopw [13] (fun i wr => ∃ (k : Nat) (vk : Value) (bk : List UInt8), k ≤ m ∧ i = .int .i64 (k : Int) ∧ Hid (WSt base wr g vk bk) ∧ Hid (Nx w wr g v vk) ∧ LStep R false t (deep + 1) k bk) (fun i _ => m - (intOf i).toNat)
    case atStart => exact ⟨0, v1, b1, Nat.zero_le _, rfl, H1, N1, HR0⟩
    case round =>
      obtain ⟨k, vk, bk, hk, rfl, hW, hX, hL⟩ := hrel
      have hBr : base ≤ wr.heap.size := Nat.le_trans hB hX.out.size
      by_cases hlt : k < m
      · obtain ⟨eb, eo, eA, enl, ecl, eB, enm, ecm, rfl, eP, ebl, e0, e1, e2, e3, e4, e5, r1, r2, s1, s2, hf⟩ := (HS.out.nx hX.out hg HW.out hB).el _ (by rw [HM.out]; exact hlt)
        obtain ⟨ev, hev⟩ : ∃ ev, (t.fall k).val = ev := ⟨_, rfl⟩
        rw [hev] at e0 e1 e2 e3 r1 r2 s1 s2 hf
        have hLs : R = (wrK false (prevK t k) (t.fall k).key bk).then fun b => (wrV ev (deep + 1) b).then fun b => wrF false (t.fall (k + 1)) (deep + 1) (prevK t (k + 1)) b := by
          rw [show R = _ from hL, wrF_step _ _ _ _ _ (by rw [HM.out]; exact hlt), hev]
        have hbk : ev.bulk ≤ N := by rw [← hev]; exact Nat.le_trans (JT.bulk_val t k (by rw [HM.out]; exact hlt)) hN
        have HLS := Lib.hid hLs
        have HE := Lib.hid hev
        have HK := Lib.hid (And.intro r1 (And.intro r2 (And.intro s1 (And.intro s2 (And.intro hf hbk)))))
        clear hL hLs hev r1 r2 s1 s2 hf hbk
        have hWl := hW.out.lt
        have hWo := hW.out.own
        have hbw : Below wr.heap.size wr (wr.alloc (.cells #[.int .i64 ev.kd, .bool ev.is, .int .i64 ev.n, .string ⟨ev.s.toArray⟩, .slice eA enl ecl, .slice eB enm ecm] 25)) := (Below.refl _ _).alloc (Nat.le_refl _) _
        have HBW := Lib.hid hbw
        have HWO := Lib.hid (And.intro hWl hWo)
        have hown2 : ∀ k, vk.ownBlock = some k → base ≤ k := fun k hk => (hWo k hk).1
        have HOW2 := Lib.hid hown2
        clear hbw hWl hWo hown2
        by_cases hk0 : 0 < k
        · have hk1 : decide (0 < k) = true := by simpa using hk0
          have HK1 := Lib.hid (show wrK false (prevK t k) (t.fall k).key bk = lng (bk ++ [44]) by rw [prevK_pos hk0, wrK_lS])
          clear hk0
          have HPUT := put_w base g vk bk [44] _ (hW.out.below HBW.out) (Nat.le_trans hBr HBW.out.size) (by simp)
          cases hp : lng (bk ++ [44]) with
          | error x =>
            have HRX := Lib.hid (show wrL t deep b = .error x by rw [HR.out, HLS.out, HK1.out, hp]; rfl)
            rw [hp] at HPUT
            clear hp
            go_wp2_with fail
            refine HPUT.mono ?_
            rintro e w2 ⟨rfl, v2, n2⟩
            go_wp2_with fail
            exact ⟨rfl, WEnd.bad HRX.out ((hX.out.trans (Nx.of_below HBW.out)).trans n2)⟩
          | ok b2 =>
            have HLS2 := Lib.hid (show R = (wrV ev (deep + 1) b2).then fun b => wrF false (t.fall (k + 1)) (deep + 1) (prevK t (k + 1)) b by rw [HLS.out, HK1.out, hp]; rfl)
            rw [hp] at HPUT
            clear hp
            go_wp2_with fail
            refine HPUT.mono ?_
            rintro e w2 ⟨rfl, v2, h2, n2⟩
            have bx := n2.blk (Blk.new wr [.int .i64 ev.kd, .bool ev.is, .int .i64 ev.n, .string ⟨ev.s.toArray⟩, .slice eA enl ecl, .slice eB enm ecm] 25) (by have := HWO.out.1; omega) (fun e => by have := (HWO.out.2 _ e).2; omega)
            have d0 := bx.cell (k := 0) rfl
            have d1 := bx.cell (k := 1) rfl
            have d2 := bx.cell (k := 2) rfl
            have d3 := bx.cell (k := 3) rfl
            have d4 := bx.cell (k := 4) rfl
            have d5 := bx.cell (k := 5) rfl
            have N2 := Lib.hid n2
            have H2 := Lib.hid h2
            have hB2 : base ≤ w2.heap.size := Nat.le_trans (Nat.le_trans hBr HBW.out.size) n2.size
            have HBL := Lib.hid (n2.below (HBW.out.mono hBr) hg (Nat.le_trans hBr HBW.out.size) HOW2.out)
            clear h2 n2 bx HPUT
            have HV := IH ev (deep + 1) ((deep : Int) + 1) base g v2 b2 w2 eA eB enl ecl enm ecm HK.out.2.2.2.2.2 (by omega) (by omega) hg hB2 HK.out.1 HK.out.2.1 (HK.out.2.2.1.blw HBL.out) (HK.out.2.2.2.1.blw HBL.out) HK.out.2.2.2.2.1 H2.out (HTT.out.nx ((hX.out.trans (Nx.of_below HBW.out)).trans N2.out) hg HW.out hB)
            cases hv : wrV ev (deep + 1) b2 with
            | error x =>
              have HRX := Lib.hid (show wrL t deep b = .error x by rw [HR.out, HLS2.out, hv]; rfl)
              rw [hv] at HV
              clear hv
              go_wp2_with fail
              refine HV.mono ?_
              rintro e w3 ⟨rfl, v3, n3⟩
              go_wp2_with fail
              exact ⟨rfl, WEnd.bad HRX.out (((hX.out.trans (Nx.of_below HBW.out)).trans N2.out).trans n3)⟩
            | ok b3 =>
              have HL3 : LStep R false t (deep + 1) (k + 1) b3 := by unfold LStep; rw [HLS2.out, hv]; rfl
              rw [hv] at HV
              clear hv
              go_wp2_with fail
              refine HV.mono ?_
              rintro e w3 ⟨rfl, v3, h3, n3⟩
              have H3 := Lib.hid h3
              have N3 := Lib.hid (((hX.out.trans (Nx.of_below HBW.out)).trans N2.out).trans n3)
              clear h3 n3 HV
              go_wp2_with fail
              go_roundw
              case rel => exact ⟨k + 1, v3, b3, by omega, by go_num, H3, N3, HL3⟩
              case measure => simp [intOf]; omega
        · have hk1 : decide (0 < k) = false := by simpa using hk0
          have HLS2 := Lib.hid (show R = (wrV ev (deep + 1) bk).then fun b => wrF false (t.fall (k + 1)) (deep + 1) (prevK t (k + 1)) b by rw [HLS.out, show prevK t k = none by unfold prevK; rw [if_pos (by omega)]]; rfl)
          clear hk0
          have hB2 : base ≤ (wr.alloc (.cells #[.int .i64 ev.kd, .bool ev.is, .int .i64 ev.n, .string ⟨ev.s.toArray⟩, .slice eA enl ecl, .slice eB enm ecm] 25)).heap.size := Nat.le_trans hBr HBW.out.size
          have HV := IH ev (deep + 1) ((deep : Int) + 1) base g vk bk _ eA eB enl ecl enm ecm HK.out.2.2.2.2.2 (by omega) (by omega) hg hB2 HK.out.1 HK.out.2.1 (HK.out.2.2.1.blw (HBW.out.mono hBr)) (HK.out.2.2.2.1.blw (HBW.out.mono hBr)) HK.out.2.2.2.2.1 (hW.out.below HBW.out) (HTT.out.nx (hX.out.trans (Nx.of_below HBW.out)) hg HW.out hB)
          clear hB2
          cases hv : wrV ev (deep + 1) bk with
          | error x =>
            have HRX := Lib.hid (show wrL t deep b = .error x by rw [HR.out, HLS2.out, hv]; rfl)
            rw [hv] at HV
            clear hv
            go_wp2_with fail
            refine HV.mono ?_
            rintro e w3 ⟨rfl, v3, n3⟩
            go_wp2_with fail
            exact ⟨rfl, WEnd.bad HRX.out ((hX.out.trans (Nx.of_below HBW.out)).trans n3)⟩
          | ok b3 =>
            have HL3 : LStep R false t (deep + 1) (k + 1) b3 := by unfold LStep; rw [HLS2.out, hv]; rfl
            rw [hv] at HV
            clear hv
            go_wp2_with fail
            refine HV.mono ?_
            rintro e w3 ⟨rfl, v3, h3, n3⟩
            have H3 := Lib.hid h3
            have N3 := Lib.hid ((hX.out.trans (Nx.of_below HBW.out)).trans n3)
            clear h3 n3 HV
            go_wp2_with fail
            go_roundw
            case rel => exact ⟨k + 1, v3, b3, by omega, by go_num, H3, N3, HL3⟩
            case measure => simp [intOf]; omega
      · obtain rfl : k = m := by omega
        have HRE := Lib.hid (show R = .ok bk by rw [show R = _ from hL, ← HM.out, wrF_end])
        have HPUT := put_w base g vk bk [93] _ hW.out hBr (by simp)
        clear hL
        cases hp : lng (bk ++ [93]) with
        | error x =>
          have HRX := Lib.hid (show wrL t deep b = .error x by rw [HR.out, HRE.out, then_ok, hp])
          rw [hp] at HPUT
          clear hp
          go_wp2_with fail
          refine HPUT.mono ?_
          rintro e w2 ⟨rfl, v2, n2⟩
          go_wp2_with fail
          exact ⟨rfl, WEnd.bad HRX.out (hX.out.trans n2)⟩
        | ok b2 =>
          have HRX := Lib.hid (show wrL t deep b = .ok b2 by rw [HR.out, HRE.out, then_ok, hp])
          rw [hp] at HPUT
          clear hp
          go_wp2_with fail
          refine HPUT.mono ?_
          rintro e w2 ⟨rfl, v2, h2, n2⟩
          go_wp2_with fail
          go_end0
          exact WEnd.ok HRX.out h2 (hX.out.trans n2)
end Go.Proofs.YtajkgcmopmpihaaGreatDoor
