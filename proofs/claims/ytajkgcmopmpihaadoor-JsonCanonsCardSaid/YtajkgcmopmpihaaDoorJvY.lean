/- Layer 9: the program's writer, walked: lists. -/
import Derived.Test.YtajkgcmopmpihaaDoorJvX
import Derived.Lib.LaidTab
import Derived.Lib.ItoaNum
namespace Go.Proofs.YtajkgcmopmpihaaDoor
open Go.ChangeShapes Go.WideShapes Go.ChangeAt Go.RowKit Go.IntWalk
set_option linter.unusedVariables false

section
variable {base g : Nat} {w w1 w' : World} {v v' : Value} {mem : Bool} {A : Option Addr} {t : JT}
theorem JSl.nx (h : JSl (· < base) w mem A t) (n : Nx w w' g v v') (hg : base ≤ g) (ho : ∀ k, v.ownBlock = some k → base ≤ k) (hB : base ≤ w.heap.size) : JSl (· < base) w' mem A t :=
  h.stay (fun b o hb => Go.RowKit.Below.cell (p := ⟨b, o, none⟩) (n.below (Below.refl base w) hg hB ho) hb) (fun _ h => h)
theorem JSl.blw (h : JSl (· < base) w mem A t) (b : Below base w w') : JSl (· < base) w' mem A t :=
  h.stay (fun b' o hb => b.cell (p := ⟨b', o, none⟩) hb) (fun _ h => h)
/-- The i-th value of a list, its cells told one by one. -/
theorem JSl.el (P : Nat → Prop) (h : JSl P w false A t) {i : Nat} (hi : i < t.ext) : ∃ b o A1 nl cl B1 nm cm, A = some ⟨b, o, none⟩ ∧ P b ∧ b < w.heap.size ∧
    w.cell? ⟨b, o + i * 6, none⟩ = some (.int .i64 (t.fall i).val.kd) ∧ w.cell? ⟨b, o + i * 6 + 1, none⟩ = some (.bool (t.fall i).val.is) ∧ w.cell? ⟨b, o + i * 6 + 2, none⟩ = some (.int .i64 (t.fall i).val.n) ∧
    w.cell? ⟨b, o + i * 6 + 3, none⟩ = some (.string ⟨(t.fall i).val.s.toArray⟩) ∧ w.cell? ⟨b, o + i * 6 + 4, none⟩ = some (.slice A1 nl cl) ∧ w.cell? ⟨b, o + i * 6 + 5, none⟩ = some (.slice B1 nm cm) ∧
    Room nl cl (t.fall i).val.l.ext ∧ Room nm cm (t.fall i).val.m.ext ∧ JSl P w false A1 (t.fall i).val.l ∧ JSl P w true B1 (t.fall i).val.m ∧ Fit (t.fall i).val.kd (t.fall i).val.n (t.fall i).val.s := by
  obtain ⟨b, o, e, hP, hb, _, cs, hr, A1, nl, cl, B1, nm, cm, rfl, h1, h2, h3, h4, h5⟩ := h.at_ hi
  exact ⟨b, o, A1, nl, cl, B1, nm, cm, e, hP, hb, hr 0 _ rfl, hr 1 _ rfl, hr 2 _ rfl, hr 3 _ rfl, hr 4 _ rfl, hr 5 _ rfl, h1, h2, h3, h4, h5⟩
/-- The i-th member of a map. -/
theorem JSl.mb (P : Nat → Prop) (h : JSl P w true A t) {i : Nat} (hi : i < t.ext) : ∃ b o A1 nl cl B1 nm cm, A = some ⟨b, o, none⟩ ∧ P b ∧ b < w.heap.size ∧
    w.cell? ⟨b, o + i * 7, none⟩ = some (.string ⟨(t.fall i).key.toArray⟩) ∧ (t.fall i).key.length ≤ 140737488355328 ∧
    w.cell? ⟨b, o + i * 7 + 1, none⟩ = some (.int .i64 (t.fall i).val.kd) ∧ w.cell? ⟨b, o + i * 7 + 2, none⟩ = some (.bool (t.fall i).val.is) ∧ w.cell? ⟨b, o + i * 7 + 3, none⟩ = some (.int .i64 (t.fall i).val.n) ∧
    w.cell? ⟨b, o + i * 7 + 4, none⟩ = some (.string ⟨(t.fall i).val.s.toArray⟩) ∧ w.cell? ⟨b, o + i * 7 + 5, none⟩ = some (.slice A1 nl cl) ∧ w.cell? ⟨b, o + i * 7 + 6, none⟩ = some (.slice B1 nm cm) ∧
    Room nl cl (t.fall i).val.l.ext ∧ Room nm cm (t.fall i).val.m.ext ∧ JSl P w false A1 (t.fall i).val.l ∧ JSl P w true B1 (t.fall i).val.m ∧ Fit (t.fall i).val.kd (t.fall i).val.n (t.fall i).val.s := by
  obtain ⟨b, o, e, hP, hb, hk, cs, hr, A1, nl, cl, B1, nm, cm, rfl, h1, h2, h3, h4, h5⟩ := h.at_ hi
  exact ⟨b, o, A1, nl, cl, B1, nm, cm, e, hP, hb, hk.1, hk.2, hr 0 _ rfl, hr 1 _ rfl, hr 2 _ rfl, hr 3 _ rfl, hr 4 _ rfl, hr 5 _ rfl, h1, h2, h3, h4, h5⟩
end
theorem gPow : Tryd.prog.globalNamed "internal/strconv.uint64pow10" = some 0 := by kernel_rfl
/-- The library's powers of ten lie below base. -/
def PowT (base : Nat) (w : World) : Prop := 0 < base ∧ Lib.TabIs Tryd.prog w "internal/strconv.uint64pow10" .u64 Lib.pow10Tab
theorem PowT.blw {base : Nat} {w w' : World} (h : PowT base w) (b : Below base w w') : PowT base w' := by
  refine ⟨h.1, ?_⟩
  have h2 := h.2
  unfold Lib.TabIs World.var? at h2 ⊢
  rw [gPow] at h2 ⊢
  simp only [Option.bind_some] at h2 ⊢
  rw [b.block _ h.1]
  exact h2
theorem PowT.nx {base g : Nat} {w w' : World} {v v' : Value} (h : PowT base w) (n : Nx w w' g v v') (hg : base ≤ g) (ho : ∀ k, v.ownBlock = some k → base ≤ k) (hB : base ≤ w.heap.size) : PowT base w' :=
  h.blw (n.below (Below.refl base w) hg hB ho)
/-- What is to be proved of values of at most N parts. -/
def ValC (N : Nat) : Prop := ∀ (jv : Jv) (deep : Nat) (dI : Int) (base g : Nat) (v : Value) (b : List UInt8) (w : World) (A B : Option Addr) (nl cl nm cm : Nat), jv.bulk ≤ N → deep ≤ 32 → dI = (deep : Int) → base ≤ g → base ≤ w.heap.size →
  Room nl cl jv.l.ext → Room nm cm jv.m.ext → JSl (· < base) w false A jv.l → JSl (· < base) w true B jv.m → Fit jv.kd jv.n jv.s → WSt base w g v b → PowT base w →
  Calls Tryd.prog 8 #[.pointer (some ⟨g, 0, none⟩), .agg #[.int .i64 jv.kd, .bool jv.is, .int .i64 jv.n, .string ⟨jv.s.toArray⟩, .slice A nl cl, .slice B nm cm], .int .i64 dI] w (WEnd base g w v (wrV jv deep b))
theorem then_ok (b : List UInt8) (f : List UInt8 → Res) : Res.then (.ok b) f = f b := rfl
theorem then_bad (x : Int) (f : List UInt8 → Res) : Res.then (.error x) f = .error x := rfl
theorem wrK_l0 (k b : List UInt8) : wrK false none k b = .ok b := rfl
theorem wrK_lS (p k b : List UInt8) : wrK false (some p) k b = lng (b ++ [44]) := by
  unfold wrK
  cases lng (b ++ [44]) <;> rfl
theorem prevK_pos {t : JT} {i : Nat} (h : 0 < i) : prevK t i = some (t.fall (i - 1)).key := by unfold prevK; rw [if_neg (by omega)]
/-- A list's text. -/
def wrL (t : JT) (deep : Nat) (b : List UInt8) : Res := (if 32 ≤ deep then .error 5 else lng (b ++ [91])).then fun b => (wrF false t (deep + 1) none b).then fun b => lng (b ++ [93])
/-- Where the loop stands: of what is still to come the whole's answer is left. -/
def LStep (R : Res) (mem : Bool) (t : JT) (deep k : Nat) (b : List UInt8) : Prop := R = wrF mem (t.fall k) deep (prevK t k) b
set_option maxHeartbeats 8000000 in
theorem list_w (N : Nat) (IH : ValC N) (t : JT) (deep : Nat) (base g : Nat) (v : Value) (b : List UInt8) (w : World) (A : Option Addr) (n c : Nat) (hN : t.bulk ≤ N) (hd : deep ≤ 32) (hg : base ≤ g) (hB : base ≤ w.heap.size)
    (hr : Room n c t.ext) (hs : JSl (· < base) w false A t) (h : WSt base w g v b) (hT : PowT base w) :
    Calls Tryd.prog 17 #[.pointer (some ⟨g, 0, none⟩), .slice A n c, .int .i64 (deep : Int)] w (WEnd base g w v (wrL t deep b)) := by
  have HO := open_w base g v b [91] deep w h hB (by simp)
  have HP := Lib.hid h
  have HTT := Lib.hid hT
  clear hT
  have hown : ∀ k, v.ownBlock = some k → base ≤ k := fun k hk => (h.own k hk).1
  have HW := Lib.hid hown
  cases ho : (if 32 ≤ deep then (.error 5 : Res) else lng (b ++ [91])) with
  | error x =>
    have HR := Lib.hid (show wrL t deep b = .error x by unfold wrL; rw [ho]; rfl)
    rw [ho] at HO
    clear ho h hown
    go_enter Tryd.func17, Tryd.ntmps17
    go_wp2_with fail
    refine HO.mono ?_
    rintro e w2 ⟨rfl, v2, n2⟩
    go_wp2_with fail
    exact ⟨rfl, WEnd.bad HR.out n2⟩
  | ok b1 =>
    have hdd : deep < 32 := by
      rcases Nat.lt_or_ge deep 32 with h | h
      · exact h
      · rw [if_pos h] at ho; cases ho
    obtain ⟨R, hR⟩ : ∃ R, wrF false t (deep + 1) none b1 = R := ⟨_, rfl⟩
    have HR := Lib.hid (show wrL t deep b = R.then fun b => lng (b ++ [93]) by unfold wrL; rw [ho, then_ok, hR])
    have HR0 : LStep R false t (deep + 1) 0 b1 := by unfold LStep; rw [JT.fall_zero]; exact hR.symm
    rw [ho] at HO
    obtain ⟨rfl, hnc, hcm⟩ := hr
    clear ho h hown hR
    obtain ⟨m, hm⟩ : ∃ m, t.ext = m := ⟨_, rfl⟩
    rw [hm] at hnc ⊢
    have HM := Lib.hid hm
    have HS := Lib.hid hs
    clear hm hs
    go_enter Tryd.func17, Tryd.ntmps17
    go_wp2_with fail
    refine HO.mono ?_
    rintro e w1 ⟨rfl, v1, h1, n1⟩
    have H1 := Lib.hid h1
    have N1 := Lib.hid n1
    clear h1 n1 HO
    go_wp2_with fail
    go_loopw [13] (fun i wr => ∃ (k : Nat) (vk : Value) (bk : List UInt8), k ≤ m ∧ i = .int .i64 (k : Int) ∧ Hid (WSt base wr g vk bk) ∧ Hid (Nx w wr g v vk) ∧ LStep R false t (deep + 1) k bk) (fun i _ => m - (intOf i).toNat)
    case atStart => exact ⟨0, v1, b1, Nat.zero_le _, rfl, H1, N1, HR0⟩
    case round =>
      obtain ⟨k, vk, bk, hk, rfl, hW, hX, hL⟩ := hrel
      have hBr : base ≤ wr.heap.size := Nat.le_trans hB hX.out.size
      by_cases hlt : k < m
      · obtain ⟨eb, eo, eA, enl, ecl, eB, enm, ecm, rfl, eP, ebl, e0, e1, e2, e3, e4, e5, r1, r2, s1, s2, hf⟩ := (HS.out.nx hX.out hg HW.out hB).el _ (by rw [HM.out]; exact hlt)
        obtain ⟨ev, hev⟩ : ∃ ev, (t.fall k).val = ev := ⟨_, rfl⟩
        rw [hev] at e0 e1 e2 e3 r1 r2 s1 s2 hf
        have hLs : R = (wrK false (prevK t k) (t.fall k).key bk).then fun b => (wrV ev (deep + 1) b).then fun b => wrF false (t.fall (k + 1)) (deep + 1) (prevK t (k + 1)) b := by
          rw [show R = _ from hL, wrF_step _ _ _ _ _ (by rw [HM.out]; exact hlt), hev]
        have hbk : ev.bulk ≤ N := by rw [← hev]; exact Nat.le_trans (JT.bulk_val t k (by rw [HM.out]; exact hlt)) hN
        have HLS := Lib.hid hLs
        have HE := Lib.hid hev
        have HK := Lib.hid (And.intro r1 (And.intro r2 (And.intro s1 (And.intro s2 (And.intro hf hbk)))))
        clear hL hLs hev r1 r2 s1 s2 hf hbk
        have hWl := hW.out.lt
        have hWo := hW.out.own
        have hbw : Below wr.heap.size wr (wr.alloc (.cells #[.int .i64 ev.kd, .bool ev.is, .int .i64 ev.n, .string ⟨ev.s.toArray⟩, .slice eA enl ecl, .slice eB enm ecm] 25)) := (Below.refl _ _).alloc (Nat.le_refl _) _
        have HBW := Lib.hid hbw
        have HWO := Lib.hid (And.intro hWl hWo)
        have hown2 : ∀ k, vk.ownBlock = some k → base ≤ k := fun k hk => (hWo k hk).1
        have HOW2 := Lib.hid hown2
        clear hbw hWl hWo hown2
        by_cases hk0 : 0 < k
        · have hk1 : decide (0 < k) = true := by simpa using hk0
          have HK1 := Lib.hid (show wrK false (prevK t k) (t.fall k).key bk = lng (bk ++ [44]) by rw [prevK_pos hk0, wrK_lS])
          clear hk0
          have HPUT := put_w base g vk bk [44] _ (hW.out.below HBW.out) (Nat.le_trans hBr HBW.out.size) (by simp)
          cases hp : lng (bk ++ [44]) with
          | error x =>
            have HRX := Lib.hid (show wrL t deep b = .error x by rw [HR.out, HLS.out, HK1.out, hp]; rfl)
            rw [hp] at HPUT
            clear hp
            go_wp2_with fail
            refine HPUT.mono ?_
            rintro e w2 ⟨rfl, v2, n2⟩
            go_wp2_with fail
            exact ⟨rfl, WEnd.bad HRX.out ((hX.out.trans (Nx.of_below HBW.out)).trans n2)⟩
          | ok b2 =>
            have HLS2 := Lib.hid (show R = (wrV ev (deep + 1) b2).then fun b => wrF false (t.fall (k + 1)) (deep + 1) (prevK t (k + 1)) b by rw [HLS.out, HK1.out, hp]; rfl)
            rw [hp] at HPUT
            clear hp
            go_wp2_with fail
            refine HPUT.mono ?_
            rintro e w2 ⟨rfl, v2, h2, n2⟩
            have bx := n2.blk (Blk.new wr [.int .i64 ev.kd, .bool ev.is, .int .i64 ev.n, .string ⟨ev.s.toArray⟩, .slice eA enl ecl, .slice eB enm ecm] 25) (by have := HWO.out.1; omega) (fun e => by have := (HWO.out.2 _ e).2; omega)
            have d0 := bx.cell (k := 0) rfl
            have d1 := bx.cell (k := 1) rfl
            have d2 := bx.cell (k := 2) rfl
            have d3 := bx.cell (k := 3) rfl
            have d4 := bx.cell (k := 4) rfl
            have d5 := bx.cell (k := 5) rfl
            have N2 := Lib.hid n2
            have H2 := Lib.hid h2
            have hB2 : base ≤ w2.heap.size := Nat.le_trans (Nat.le_trans hBr HBW.out.size) n2.size
            have HBL := Lib.hid (n2.below (HBW.out.mono hBr) hg (Nat.le_trans hBr HBW.out.size) HOW2.out)
            clear h2 n2 bx HPUT
            have HV := IH ev (deep + 1) ((deep : Int) + 1) base g v2 b2 w2 eA eB enl ecl enm ecm HK.out.2.2.2.2.2 (by omega) (by omega) hg hB2 HK.out.1 HK.out.2.1 (HK.out.2.2.1.blw HBL.out) (HK.out.2.2.2.1.blw HBL.out) HK.out.2.2.2.2.1 H2.out (HTT.out.nx ((hX.out.trans (Nx.of_below HBW.out)).trans N2.out) hg HW.out hB)
            cases hv : wrV ev (deep + 1) b2 with
            | error x =>
              have HRX := Lib.hid (show wrL t deep b = .error x by rw [HR.out, HLS2.out, hv]; rfl)
              rw [hv] at HV
              clear hv
              go_wp2_with fail
              refine HV.mono ?_
              rintro e w3 ⟨rfl, v3, n3⟩
              go_wp2_with fail
              exact ⟨rfl, WEnd.bad HRX.out (((hX.out.trans (Nx.of_below HBW.out)).trans N2.out).trans n3)⟩
            | ok b3 =>
              have HL3 : LStep R false t (deep + 1) (k + 1) b3 := by unfold LStep; rw [HLS2.out, hv]; rfl
              rw [hv] at HV
              clear hv
              go_wp2_with fail
              refine HV.mono ?_
              rintro e w3 ⟨rfl, v3, h3, n3⟩
              have H3 := Lib.hid h3
              have N3 := Lib.hid (((hX.out.trans (Nx.of_below HBW.out)).trans N2.out).trans n3)
              clear h3 n3 HV
              go_wp2_with fail
              go_roundw
              case rel => exact ⟨k + 1, v3, b3, by omega, by go_num, H3, N3, HL3⟩
              case measure => simp [intOf]; omega
        · have hk1 : decide (0 < k) = false := by simpa using hk0
          have HLS2 := Lib.hid (show R = (wrV ev (deep + 1) bk).then fun b => wrF false (t.fall (k + 1)) (deep + 1) (prevK t (k + 1)) b by rw [HLS.out, show prevK t k = none by unfold prevK; rw [if_pos (by omega)]]; rfl)
          clear hk0
          have hB2 : base ≤ (wr.alloc (.cells #[.int .i64 ev.kd, .bool ev.is, .int .i64 ev.n, .string ⟨ev.s.toArray⟩, .slice eA enl ecl, .slice eB enm ecm] 25)).heap.size := Nat.le_trans hBr HBW.out.size
          have HV := IH ev (deep + 1) ((deep : Int) + 1) base g vk bk _ eA eB enl ecl enm ecm HK.out.2.2.2.2.2 (by omega) (by omega) hg hB2 HK.out.1 HK.out.2.1 (HK.out.2.2.1.blw (HBW.out.mono hBr)) (HK.out.2.2.2.1.blw (HBW.out.mono hBr)) HK.out.2.2.2.2.1 (hW.out.below HBW.out) (HTT.out.nx (hX.out.trans (Nx.of_below HBW.out)) hg HW.out hB)
          clear hB2
          cases hv : wrV ev (deep + 1) bk with
          | error x =>
            have HRX := Lib.hid (show wrL t deep b = .error x by rw [HR.out, HLS2.out, hv]; rfl)
            rw [hv] at HV
            clear hv
            go_wp2_with fail
            refine HV.mono ?_
            rintro e w3 ⟨rfl, v3, n3⟩
            go_wp2_with fail
            exact ⟨rfl, WEnd.bad HRX.out ((hX.out.trans (Nx.of_below HBW.out)).trans n3)⟩
          | ok b3 =>
            have HL3 : LStep R false t (deep + 1) (k + 1) b3 := by unfold LStep; rw [HLS2.out, hv]; rfl
            rw [hv] at HV
            clear hv
            go_wp2_with fail
            refine HV.mono ?_
            rintro e w3 ⟨rfl, v3, h3, n3⟩
            have H3 := Lib.hid h3
            have N3 := Lib.hid ((hX.out.trans (Nx.of_below HBW.out)).trans n3)
            clear h3 n3 HV
            go_wp2_with fail
            go_roundw
            case rel => exact ⟨k + 1, v3, b3, by omega, by go_num, H3, N3, HL3⟩
            case measure => simp [intOf]; omega
      · obtain rfl : k = m := by omega
        have HRE := Lib.hid (show R = .ok bk by rw [show R = _ from hL, ← HM.out, wrF_end])
        have HPUT := put_w base g vk bk [93] _ hW.out hBr (by simp)
        clear hL
        cases hp : lng (bk ++ [93]) with
        | error x =>
          have HRX := Lib.hid (show wrL t deep b = .error x by rw [HR.out, HRE.out, then_ok, hp])
          rw [hp] at HPUT
          clear hp
          go_wp2_with fail
          refine HPUT.mono ?_
          rintro e w2 ⟨rfl, v2, n2⟩
          go_wp2_with fail
          exact ⟨rfl, WEnd.bad HRX.out (hX.out.trans n2)⟩
        | ok b2 =>
          have HRX := Lib.hid (show wrL t deep b = .ok b2 by rw [HR.out, HRE.out, then_ok, hp])
          rw [hp] at HPUT
          clear hp
          go_wp2_with fail
          refine HPUT.mono ?_
          rintro e w2 ⟨rfl, v2, h2, n2⟩
          go_wp2_with fail
          go_end0
          exact WEnd.ok HRX.out h2 (hX.out.trans n2)
end Go.Proofs.YtajkgcmopmpihaaDoor
