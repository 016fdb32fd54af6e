/- Texts put together: JkL. -/
import Derived.Test.YtajkgcmopmpihaaGreatDoorYbbf32eb505
namespace Go.Proofs.YtajkgcmopmpihaaGreatDoor
open Go.ChangeShapes Go.WideShapes Go.ChangeAt Go.RowKit Go.IntWalk
set_option linter.unusedVariables false
set_option maxRecDepth 100000
def K2 (w : World) (a0 : Jv) (A0 B0 : Option Addr) (nl0 cl0 nm0 cm0 p : Nat) (cA cB : Option Addr) (dl cl dm cm : Nat) (W : World) : Prop :=
  Below w.heap.size w W ∧ Blk W w.heap.size 25 [.int .i64 a0.kd, .bool a0.is, .int .i64 a0.n, .string ⟨a0.s.toArray⟩, .slice A0 nl0 cl0, .slice B0 nm0 cm0] ∧ Blk W p 25 [.int .i64 a0.kd, .bool a0.is, .int .i64 a0.n, .string ⟨a0.s.toArray⟩, .slice cA dl cl, .slice cB dm cm] ∧ VOk W a0 cA cB dl cl dm cm
theorem K2.later {w W W' : World} {a0 : Jv} {A0 B0 : Option Addr} {nl0 cl0 nm0 cm0 p : Nat} {cA cB : Option Addr} {dl cl dm cm : Nat} (h : K2 w a0 A0 B0 nl0 cl0 nm0 cm0 p cA cB dl cl dm cm W) (b : Below W.heap.size W W') : K2 w a0 A0 B0 nl0 cl0 nm0 cm0 p cA cB dl cl dm cm W' :=
  ⟨h.1.then_ b, h.2.1.later b, h.2.2.1.later b, h.2.2.2.below b⟩
set_option maxHeartbeats 16000000 in
theorem jsonKeeps_walk (a0 : Jv) (A0 B0 : Option Addr) (nl0 cl0 nm0 cm0 : Nat) {w : World} (hr0 : VOk w a0 A0 B0 nl0 cl0 nm0 cm0) (a1 : ByteArray) (w1 : a1.size ≤ maxLen) (hT : TabP w) :
    Calls Tryz.prog 7 #[.agg #[.int .i64 a0.kd, .bool a0.is, .int .i64 a0.n, .string ⟨a0.s.toArray⟩, .slice A0 nl0 cl0, .slice B0 nm0 cm0], .string a1] w fun e w' => e = .returned (.bool true) ∧ Below w.heap.size w w' := by
  obtain ⟨⟨s⟩⟩ := a1
  show Calls Tryz.prog 7 #[.agg #[.int .i64 a0.kd, .bool a0.is, .int .i64 a0.n, .string ⟨a0.s.toArray⟩, .slice A0 nl0 cl0, .slice B0 nm0 cm0], .string ⟨s.toArray⟩] w _
  have b0 : Below w.heap.size w (w.alloc (.cells #[.int .i64 a0.kd, .bool a0.is, .int .i64 a0.n, .string ⟨a0.s.toArray⟩, .slice A0 nl0 cl0, .slice B0 nm0 cm0] 25)) := (Below.refl _ _).alloc (Nat.le_refl _) _
  have HV := Lib.hid (And.intro hr0 hT)
  have H0 := Lib.hid (And.intro b0 (Blk.new w [.int .i64 a0.kd, .bool a0.is, .int .i64 a0.n, .string ⟨a0.s.toArray⟩, .slice A0 nl0 cl0, .slice B0 nm0 cm0] 25))
  obtain ⟨pv, pe, hp⟩ : ∃ pv pe, parF s = (pv, pe) := ⟨_, _, rfl⟩
  obtain ⟨cb, ce, hc⟩ : ∃ cb ce, canF a0 = (cb, ce) := ⟨_, _, rfl⟩
  have HP := Lib.hid (And.intro hp hc)
  obtain ⟨n, hn⟩ : ∃ n, s.length = n := ⟨_, rfl⟩
  have hsz : (⟨s.toArray⟩ : ByteArray).size = n := hn
  have HN := Lib.hid hn
  clear hr0 hT b0 hp hc hn w1
  go_enter Tryz.func7, Tryz.ntmps7
  go_upto_region 1 with fail
  refine wp_gen (fun W => Below w.heap.size w W ∧ Blk W w.heap.size 25 [.int .i64 a0.kd, .bool a0.is, .int .i64 a0.n, .string ⟨a0.s.toArray⟩, .slice A0 nl0 cl0, .slice B0 nm0 cm0]) H0.out ?_
  clear H0
  rintro W0 hW0
  have H0 := Lib.hid hW0
  clear hW0
  go_wp2_with fail
  refine (alive9_calls W0 (HV.out.2.below H0.out.1).2 (HV.out.2.below H0.out.1).1).mono ?_
  rintro e w1 ⟨rfl, b1⟩
  have H1 := Lib.hid (And.intro (H0.out.1.then_ b1) (H0.out.2.later b1))
  clear b1 H0
  obtain ⟨d0, d1, d2, d3, d4, d5, _⟩ := cells6s H1.out.2
  go_wp2_with fail
  refine (greatB_calls a0 A0 B0 nl0 cl0 nm0 cm0 _ (HV.out.1.below H1.out.1)).mono ?_
  rintro e w2 ⟨⟨gr, rfl, hgr⟩, b2⟩
  have H2 := Lib.hid (And.intro (H1.out.1.then_ b2) (H1.out.2.later b2))
  have HGR := Lib.hid hgr
  clear b2 H1 d0 d1 d2 d3 d4 d5 hgr
  cases gr with
  | true =>
    go_wp2_with fail
    go_ret
    exact ⟨rfl, H2.out.1⟩
  | false =>
    have HBK := Lib.hid (HGR.out rfl)
    by_cases h8 : 8192 < n
    · have g1 : (8192 : Int) < (n : Int) := by omega
      have g2 : decide ((8192 : Int) < (n : Int)) = true := by simpa using g1
      go_wp2_with fail
      go_ret
      exact ⟨rfl, H2.out.1⟩
    have g1 : ¬ (8192 : Int) < (n : Int) := by omega
    have g2 : decide ((8192 : Int) < (n : Int)) = false := by simpa using g1
    have HSL := Lib.hid (show s.length ≤ 140737488355328 by rw [HN.out]; omega)
    obtain ⟨d0, d1, d2, d3, d4, d5, _⟩ := cells6s H2.out.2
    go_wp2_with fail
    refine (rises9_calls a0 A0 B0 nl0 cl0 nm0 cm0 _ (HV.out.1.below H2.out.1)).mono ?_
    rintro e w3 ⟨⟨rr, rfl, hrr⟩, b3⟩
    have H3 := Lib.hid (And.intro (H2.out.1.then_ b3) (H2.out.2.later b3))
    have HRR := Lib.hid hrr
    clear b3 H2 d0 d1 d2 d3 d4 d5 hrr g1 g2 h8
    cases rr with
    | false =>
      go_wp2_with fail
      go_ret
      exact ⟨rfl, H3.out.1⟩
    | true =>
      have HRI := Lib.hid (HRR.out rfl)
      obtain ⟨d0, d1, d2, d3, d4, d5, _⟩ := cells6s H3.out.2
      have HCP := Lib.hid (copy_calls a0.bulk a0 A0 B0 nl0 cl0 nm0 cm0 w3 (Nat.le_refl _) (by have := HBK.out; omega) (HV.out.1.below H3.out.1))
      clear HRR HGR
      go_wp2_with fail
      refine HCP.out.mono ?_
      rintro e w4 ⟨⟨cA, cB, dl, cl, dm, cm, rfl, hv4⟩, b4⟩
      have hbA : Below w4.heap.size w4 (w4.alloc (.cells #[.int .i64 a0.kd, .bool a0.is, .int .i64 a0.n, .string ⟨a0.s.toArray⟩, .slice cA dl cl, .slice cB dm cm] 25)) := (Below.refl _ _).alloc (Nat.le_refl _) _
      have HK := Lib.hid (show K2 w a0 A0 B0 nl0 cl0 nm0 cm0 w4.heap.size cA cB dl cl dm cm (w4.alloc (.cells #[.int .i64 a0.kd, .bool a0.is, .int .i64 a0.n, .string ⟨a0.s.toArray⟩, .slice cA dl cl, .slice cB dm cm] 25)) from ⟨(H3.out.1.then_ b4).then_ hbA, (H3.out.2.later b4).later hbA, Blk.new _ _ _, hv4.ok.below hbA⟩)
      clear hv4 b4 hbA H3 d0 d1 d2 d3 d4 d5 HCP
      go_upto_region 6 with fail
      refine wp_gen (fun W => K2 w a0 A0 B0 nl0 cl0 nm0 cm0 w4.heap.size cA cB dl cl dm cm W) HK.out ?_
      clear HK
      rintro W5 hk
      obtain ⟨p, hp⟩ : ∃ p, w4.heap.size = p := ⟨_, rfl⟩
      rw [hp] at hk
      rw [hp]
      have HK := Lib.hid hk
      obtain ⟨d0, d1, d2, d3, d4, d5, _⟩ := cells6s hk.2.2.1
      clear hk hp
      go_wp2_with fail
      refine (canon_at HK.out.2.2.2 (HV.out.2.below HK.out.1).1 HP.out.2).mono ?_
      rintro e w6 ⟨rfl, b6⟩
      have HK6 := Lib.hid (HK.out.later b6)
      clear b6 HK d0 d1 d2 d3 d4 d5
      have HLP := Lib.hid HK6.out.2.2.1.lt
      have HRB : w6.rangeAt p 0 [.int .i64 a0.kd, .bool a0.is, .int .i64 a0.n, .string ⟨a0.s.toArray⟩, .slice cA dl cl, .slice cB dm cm] := fun j x hj => by rw [Nat.zero_add]; exact HK6.out.2.2.1.cell hj
      have HPU := Lib.hid (fun W (hb : Below w6.heap.size w6 W) => put_lk hb.size (put9_calls a0 ⟨2, false, 1, [], .nil, .nil⟩ cA cB none none dl cl dm cm 0 0 0 0 [97] W (HK6.out.2.2.2.below hb) HRI.out (by have := HBK.out; have := ext_le_bulk a0.m; unfold Jv.bulk at *; omega)))
      have HDR := Lib.hid (fun W (hb : Below w6.heap.size w6 W) => put_lk hb.size (drop9_calls a0 cA cB dl cl dm cm [97] W (HK6.out.2.2.2.below hb) (by have := HBK.out; omega)))
      go_upto_region 7 with fail
      apply wp_region_lkt 7 (by kernel_rfl) (by kernel_rfl)
      simp only [List.take_succ_cons, List.take_zero, List.drop_succ_cons, List.drop_zero]
      apply lk_load 25 (.tmp 5) rfl p 0 _ _ HRB HLP.out Tryz.underlying25 rfl size_v6 rfl rfl
      simp only [Act.put, List.setIfInBounds_toArray, List.set_cons_succ, List.set_cons_zero]
      apply lk_call (Lft.bare (· = .agg #[.int .i64 2, .bool false, .int .i64 1, .string ⟨#[]⟩, .slice none 0 0, .slice none 0 0])) 12 #[.int .i64 1] rfl (by intro W; first | (go_simp; done) | (go_simp; exact ⟨rfl, rfl⟩)) (fun W hb => (jnum_calls 1 W).mono (fun e W' ⟨he, hb2⟩ => ⟨_, he, rfl, trivial, hb2⟩))
      rintro _ rfl
      simp only [Act.put, List.setIfInBounds_toArray, List.set_cons_succ, List.set_cons_zero]
      apply lk_call (put9F w6.heap.size) 19 #[.agg #[.int .i64 a0.kd, .bool a0.is, .int .i64 a0.n, .string ⟨a0.s.toArray⟩, .slice cA dl cl, .slice cB dm cm], .string ⟨#[97]⟩, .agg #[.int .i64 2, .bool false, .int .i64 1, .string ⟨#[]⟩, .slice none 0 0, .slice none 0 0]] rfl (by intro W; first | (go_simp; done) | (go_simp; exact ⟨rfl, rfl⟩)) (fun W hb => HPU.out W hb)
      rintro _ ⟨A6, n6, c6, rfl⟩
      simp only [Act.put, List.setIfInBounds_toArray, List.set_cons_succ, List.set_cons_zero]
      apply lk_load 25 (.tmp 5) rfl p 0 _ _ HRB HLP.out Tryz.underlying25 rfl size_v6 rfl rfl
      simp only [Act.put, List.setIfInBounds_toArray, List.set_cons_succ, List.set_cons_zero]
      apply lk_call (put9F w6.heap.size) 20 #[.agg #[.int .i64 a0.kd, .bool a0.is, .int .i64 a0.n, .string ⟨a0.s.toArray⟩, .slice cA dl cl, .slice cB dm cm], .string ⟨#[97]⟩] rfl (by intro W; first | (go_simp; done) | (go_simp; exact ⟨rfl, rfl⟩)) (fun W hb => HDR.out W hb)
      rintro _ ⟨A7, n7, c7, rfl⟩
      simp only [Act.put, List.setIfInBounds_toArray, List.set_cons_succ, List.set_cons_zero]
      apply lk_step (F := boxF w6.heap.size) rfl ⟨⟨_, 0, rfl⟩, fun W hW => by unfold lkAt; go_simp; exact ⟨⟨_, rfl⟩, ⟨_, rfl, hW.size, Blk.new _ _ _⟩, (Below.refl _ _).alloc (Nat.le_refl _) _⟩⟩
      rintro _ ⟨q6, rfl⟩
      simp only [Act.put, List.setIfInBounds_toArray, List.set_cons_succ, List.set_cons_zero]
      apply lk_step (F := boxF w6.heap.size) rfl ⟨⟨_, 0, rfl⟩, fun W hW => by unfold lkAt; go_simp; exact ⟨⟨_, rfl⟩, ⟨_, rfl, hW.size, Blk.new _ _ _⟩, (Below.refl _ _).alloc (Nat.le_refl _) _⟩⟩
      rintro _ ⟨q7, rfl⟩
      simp only [Act.put, List.setIfInBounds_toArray, List.set_cons_succ, List.set_cons_zero]
      refine lk_nil (Fs := []) ?_
      intro W7 hb7 hz
      obtain ⟨y7, e7, l7, h7⟩ := hz.2
      injection e7 with e7
      injection e7 with e7
      injection e7 with e7
      subst e7
      obtain ⟨y6, e6, l6, h6⟩ := hz.1.2
      injection e6 with e6
      injection e6 with e6
      injection e6 with e6
      subst e6
      obtain ⟨A7', n7', c7', ed, hn7, hw7⟩ := hz.1.1.2
      obtain ⟨A6', n6', c6', ep, hn6, hw6⟩ := hz.1.1.1.1.2
      obtain ⟨rfl, rfl, rfl⟩ : A7 = A7' ∧ n7 = n7' ∧ c7 = c7' := by simpa using ed
      obtain ⟨rfl, rfl, rfl⟩ : A6 = A6' ∧ n6 = n6' ∧ c6 = c6' := by simpa using ep
      obtain ⟨t1, A8, n8, c8, m6, m7⟩ := two_boxes (c6 := c6) (c7 := c7) l6 l7 h6 h7 hn6 hn7 hw6 hw7
      have bb : Below w6.heap.size w6 ((W7.setCells q6 0 [.int .i64 5, .bool false, .int .i64 0, .string ⟨#[]⟩, .slice none 0 0, .slice A6 n6 c6]).setCells q7 0 [.int .i64 5, .bool false, .int .i64 0, .string ⟨#[]⟩, .slice none 0 0, .slice A7 n7 c7]) :=
        below_cells (below_cells hb7 l6 _ _ hb7.size) l7 _ _ (Nat.le_trans hb7.size (setCells_chg _ 0 W7 (g := q6)).size)
      have HS := Lib.hid (show KS w6 q6 A8 n8 c8 q7 A7 n7 c7 _ from And.intro m6 (And.intro m7 bb))
      have HT1 := Lib.hid (And.intro (there6 h6) t1)
      clear hz ed ep hn7 hn6 hw6 hw7 l6 l7 h6 h7 t1 m6 m7 bb hb7 HPU HDR HRB
      refine wpList_store_mid rfl 25 (.tmp 6) (.tmp 37) rfl q6 0 #[.int .i64 5, .bool false, .int .i64 0, .string ⟨#[]⟩, .slice none 0 0, .slice A6 n6 c6] rfl rfl HT1.out.1 size_v6 (by simp [Value.oneCell']) ?_
      refine wpList_store_mid rfl 25 (.tmp 7) (.tmp 39) rfl q7 0 #[.int .i64 5, .bool false, .int .i64 0, .string ⟨#[]⟩, .slice none 0 0, .slice A7 n7 c7] rfl rfl HT1.out.2 size_v6 (by simp [Value.oneCell']) ?_
      go_upto_region 8 with fail
      refine wp_gen (fun W => KS w6 q6 A8 n8 c8 q7 A7 n7 c7 W) HS.out ?_
      clear HS HT1
      rintro W8 h8
      have HS := Lib.hid h8
      clear h8
      have hk8 := HK6.out.later HS.out.2.2
      obtain ⟨d0, d1, d2, d3, d4, d5, _⟩ := cells6s hk8.2.2.1
      have HJL := Lib.hid (jlist_calls (· < W8.heap.size) cA dl cl a0.l W8 (fun b hb => hb) hk8.2.2.2.1.1 (by have := hk8.2.2.2.1.1; have := HBK.out; have := ext_le_bulk a0.l; unfold Jv.bulk at *; omega) hk8.2.2.2.2.2.1)
      clear hk8
      go_wp2_with fail
      refine HJL.out.mono ?_
      rintro e w9 ⟨jA, jc, rfl, _, b9⟩
      have HS9 := Lib.hid (HS.out.later b9)
      clear b9 HS HJL d0 d1 d2 d3 d4 d5
      have HS := HS9
      clear HS9
      have hk9 := HK6.out.later HS.out.2.2
      obtain ⟨d0, d1, d2, d3, d4, d5, _⟩ := cells6s hk9.2.2.1
      obtain ⟨e0, e1, e2, e3, e4, e5, _⟩ := cells6s hk9.2.1
      have HSA := Lib.hid (same_calls a0.bulk a0 a0 cA cB A0 B0 dl cl dm cm nl0 cl0 nm0 cm0 w9 (Nat.le_refl _) hk9.2.2.2 (HV.out.1.below hk9.1))
      clear hk9
      go_wp2_with fail
      refine HSA.out.mono ?_
      rintro e w10 ⟨rfl, b10⟩
      rw [sameV_refl]
      have HS10 := Lib.hid (HS.out.later b10)
      clear b10 HS HSA d0 d1 d2 d3 d4 d5 e0 e1 e2 e3 e4 e5
      have HS := HS10
      clear HS10
      go_upto_region 11 with fail
      go_cut [48] from 47 (fun v wc => (∃ b : Bool, v = .bool b) ∧ KS w6 q6 A8 n8 c8 q7 A7 n7 c7 wc)
      case first =>
        go_region_with (fail)
        all_goals
          go_wp2_with fail
          go_meet
          case rel => exact ⟨⟨_, rfl⟩, HS.out.later (by first | exact ((Below.refl _ _).alloc (Nat.le_refl _) _).drew | exact ((Below.refl _ _).alloc (Nat.le_refl _) _).drewN _ | exact (Below.refl _ _).alloc (Nat.le_refl _) _)⟩
      case rest =>
      obtain ⟨⟨bb, rfl⟩, hS⟩ := hcut
      have HC := Lib.hid hS
      have HZ7 := Lib.hid (show (#[.string ⟨#[]⟩, .int .i64 0, .bool false, .int .i64 0, .string ⟨#[]⟩, .slice none 0 0, .slice none 0 0] : Array Value).all (·.oneCell') = true by simp [Value.oneCell'])
      have hn1 : n8 ≤ 100000 := hS.1.2.2.1
      clear hS HS
      obtain ⟨W0, hW0⟩ : ∃ x, x = wc := ⟨_, rfl⟩
      subst hW0
      go_upto_if 48 with (fail)
      go_cut [] from 47 (fun wc => KS w6 q6 A8 n8 c8 q7 A7 n7 c7 wc)
      case first =>
        obtain ⟨o0, o1, o2, o3, o4, o5, p0, p1, p2, p3, p4, p5⟩ := cells6s HC.out.1.2.1
        cases bb with
        | true =>
          by_cases hz : n8 = 0
          · have q1 : ((n8 : Int) != 0) = false := by simp [hz]
            go_wp2_with fail
            go_meet
            case rel => exact HC.out
          · have q1 : ((n8 : Int) != 0) = true := by rw [bne_iff_ne]; omega
            go_wp2_with fail
            clear o0 o1 o2 o3 o4 o5 p0 p1 p2 p3 p4 p5
            go_loopw [53] (fun iv wr => ∃ i : Nat, iv = .int .i64 (i : Int) ∧ i ≤ n8 ∧ Hid (KS w6 q6 A8 n8 c8 q7 A7 n7 c7 wr)) (fun iv _ => n8 - (intOf iv).toNat)
            case atStart => exact ⟨0, rfl, Nat.zero_le _, HC⟩
            case round =>
              obtain ⟨i, rfl, hi, hD⟩ := hrel
              by_cases hlt : i < n8
              · have hii : (i : Int) < (n8 : Int) := by omega
                obtain ⟨gb, gp, gcs, rfl, glo, gbk, gth⟩ := hD.out.1.2.2.2.row hlt
                have HTH := Lib.hid (And.intro gth (hD.out.put gbk glo (gp + i * 7) #[.string ⟨#[]⟩, .int .i64 0, .bool false, .int .i64 0, .string ⟨#[]⟩, .slice none 0 0, .slice none 0 0].toList))
                have hwi : IntKind.i64.wrap ((i : Int) + 1) = (i : Int) + 1 := IntWalk.i64_in _ (by omega)
                obtain ⟨o0, o1, o2, o3, o4, o5, p0, p1, p2, p3, p4, p5⟩ := cells6s hD.out.1.2.1
                clear glo gbk gth hlt
                go_upto_region 16 with (refine wpList_store_mid rfl 44 _ _ rfl gb (gp + i * 7) #[.string ⟨#[]⟩, .int .i64 0, .bool false, .int .i64 0, .string ⟨#[]⟩, .slice none 0 0, .slice none 0 0] rfl rfl HTH.out.1 size_mb7 HZ7.out ?_)
                go_wp2_with fail
                first
                  | exact ⟨⟨i + 1, by push_cast; rfl, by omega, Lib.hid HTH.out.2⟩, by simp [intOf]; omega⟩
                  | (go_roundw
                     case rel => exact ⟨i + 1, by push_cast; rfl, by omega, Lib.hid HTH.out.2⟩
                     case measure => simp [intOf]; omega)
                  | (repeat apply Exists.intro
                     refine ⟨⟨⟨i + 1, ?e2, ?e0, Lib.hid HTH.out.2⟩, ?f1⟩, ?mm⟩
                     case f1 => rfl
                     case e2 => push_cast; rfl
                     case e0 => omega
                     case mm => simp [intOf]; omega)
                  | fail
              · have hii : ¬ (i : Int) < (n8 : Int) := by omega
                have HE := hD
                clear hlt
                go_wp2_with fail
                go_meet
                case rel => exact HE.out
        | false =>
          go_wp2_with fail
          clear o0 o1 o2 o3 o4 o5 p0 p1 p2 p3 p4 p5
          go_loopw [61] (fun iv wr => ∃ i : Nat, iv = .int .i64 (i : Int) ∧ i ≤ n8 ∧ Hid (KS w6 q6 A8 n8 c8 q7 A7 n7 c7 wr)) (fun iv _ => n8 - (intOf iv).toNat)
          case atStart => exact ⟨0, rfl, Nat.zero_le _, HC⟩
          case round =>
            obtain ⟨i, rfl, hi, hD⟩ := hrel
            by_cases hlt : i < n8
            · have hii : (i : Int) < (n8 : Int) := by omega
              obtain ⟨gb, gp, gcs, rfl, glo, gbk, gth⟩ := hD.out.1.2.2.2.row hlt
              have HTH := Lib.hid (And.intro gth (hD.out.put gbk glo (gp + i * 7) #[.string ⟨#[]⟩, .int .i64 0, .bool false, .int .i64 0, .string ⟨#[]⟩, .slice none 0 0, .slice none 0 0].toList))
              have hwi : IntKind.i64.wrap ((i : Int) + 1) = (i : Int) + 1 := IntWalk.i64_in _ (by omega)
              obtain ⟨o0, o1, o2, o3, o4, o5, p0, p1, p2, p3, p4, p5⟩ := cells6s hD.out.1.2.1
              clear glo gbk gth hlt
              go_upto_region 22 with (refine wpList_store_mid rfl 44 _ _ rfl gb (gp + i * 7) #[.string ⟨#[]⟩, .int .i64 0, .bool false, .int .i64 0, .string ⟨#[]⟩, .slice none 0 0, .slice none 0 0] rfl rfl HTH.out.1 size_mb7 HZ7.out ?_)
              go_wp2_with fail
              first
                | exact ⟨⟨i + 1, by push_cast; rfl, by omega, Lib.hid HTH.out.2⟩, by simp [intOf]; omega⟩
                | (go_roundw
                   case rel => exact ⟨i + 1, by push_cast; rfl, by omega, Lib.hid HTH.out.2⟩
                   case measure => simp [intOf]; omega)
                | (repeat apply Exists.intro
                   refine ⟨⟨⟨i + 1, ?e2, ?e0, Lib.hid HTH.out.2⟩, ?f1⟩, ?mm⟩
                   case f1 => rfl
                   case e2 => push_cast; rfl
                   case e0 => omega
                   case mm => simp [intOf]; omega)
                | fail
            · have hii : ¬ (i : Int) < (n8 : Int) := by omega
              have HE := hD
              clear hlt
              go_wp2_with fail
              go_meet
              case rel => exact HE.out
      case rest =>
      have HS := Lib.hid hcut
      clear hcut HC
      obtain ⟨W1, hW1⟩ : ∃ x, x = wc := ⟨_, rfl⟩
      subst hW1
      go_upto_region 23 with fail
      go_cut [71] from 70 (fun v wc => (∃ b : Bool, v = .bool b) ∧ KS w6 q6 A8 n8 c8 q7 A7 n7 c7 wc)
      case first =>
        go_region_with (fail)
        all_goals
          go_wp2_with fail
          go_meet
          case rel => exact ⟨⟨_, rfl⟩, HS.out.later (by first | exact ((Below.refl _ _).alloc (Nat.le_refl _) _).drew | exact ((Below.refl _ _).alloc (Nat.le_refl _) _).drewN _ | exact (Below.refl _ _).alloc (Nat.le_refl _) _)⟩
      case rest =>
      obtain ⟨⟨bb, rfl⟩, hS⟩ := hcut
      have HC := Lib.hid hS
      have HZ7 := Lib.hid (show (#[.string ⟨#[]⟩, .int .i64 0, .bool false, .int .i64 0, .string ⟨#[]⟩, .slice none 0 0, .slice none 0 0] : Array Value).all (·.oneCell') = true by simp [Value.oneCell'])
      have hn1 : n7 ≤ 100000 := hS.2.1.2.2.1
      clear hS HS
      obtain ⟨W0, hW0⟩ : ∃ x, x = wc := ⟨_, rfl⟩
      subst hW0
      go_upto_if 71 with (fail)
      go_cut [] from 70 (fun wc => KS w6 q6 A8 n8 c8 q7 A7 n7 c7 wc)
      case first =>
        obtain ⟨o0, o1, o2, o3, o4, o5, p0, p1, p2, p3, p4, p5⟩ := cells6s HC.out.2.1.2.1
        cases bb with
        | true =>
          by_cases hz : n7 = 0
          · have q1 : ((n7 : Int) != 0) = false := by simp [hz]
            go_wp2_with fail
            go_meet
            case rel => exact HC.out
          · have q1 : ((n7 : Int) != 0) = true := by rw [bne_iff_ne]; omega
            go_wp2_with fail
            clear o0 o1 o2 o3 o4 o5 p0 p1 p2 p3 p4 p5
            go_loopw [76] (fun iv wr => ∃ i : Nat, iv = .int .i64 (i : Int) ∧ i ≤ n7 ∧ Hid (KS w6 q6 A8 n8 c8 q7 A7 n7 c7 wr)) (fun iv _ => n7 - (intOf iv).toNat)
            case atStart => exact ⟨0, rfl, Nat.zero_le _, HC⟩
            case round =>
              obtain ⟨i, rfl, hi, hD⟩ := hrel
              by_cases hlt : i < n7
              · have hii : (i : Int) < (n7 : Int) := by omega
                obtain ⟨gb, gp, gcs, rfl, glo, gbk, gth⟩ := hD.out.2.1.2.2.2.row hlt
                have HTH := Lib.hid (And.intro gth (hD.out.put gbk glo (gp + i * 7) #[.string ⟨#[]⟩, .int .i64 0, .bool false, .int .i64 0, .string ⟨#[]⟩, .slice none 0 0, .slice none 0 0].toList))
                have hwi : IntKind.i64.wrap ((i : Int) + 1) = (i : Int) + 1 := IntWalk.i64_in _ (by omega)
                obtain ⟨o0, o1, o2, o3, o4, o5, p0, p1, p2, p3, p4, p5⟩ := cells6s hD.out.2.1.2.1
                clear glo gbk gth hlt
                go_upto_region 28 with (refine wpList_store_mid rfl 44 _ _ rfl gb (gp + i * 7) #[.string ⟨#[]⟩, .int .i64 0, .bool false, .int .i64 0, .string ⟨#[]⟩, .slice none 0 0, .slice none 0 0] rfl rfl HTH.out.1 size_mb7 HZ7.out ?_)
                go_wp2_with fail
                first
                  | exact ⟨⟨i + 1, by push_cast; rfl, by omega, Lib.hid HTH.out.2⟩, by simp [intOf]; omega⟩
                  | (go_roundw
                     case rel => exact ⟨i + 1, by push_cast; rfl, by omega, Lib.hid HTH.out.2⟩
                     case measure => simp [intOf]; omega)
                  | (repeat apply Exists.intro
                     refine ⟨⟨⟨i + 1, ?e2, ?e0, Lib.hid HTH.out.2⟩, ?f1⟩, ?mm⟩
                     case f1 => rfl
                     case e2 => push_cast; rfl
                     case e0 => omega
                     case mm => simp [intOf]; omega)
                  | fail
              · have hii : ¬ (i : Int) < (n7 : Int) := by omega
                have HE := hD
                clear hlt
                go_wp2_with fail
                go_meet
                case rel => exact HE.out
        | false =>
          go_wp2_with fail
          clear o0 o1 o2 o3 o4 o5 p0 p1 p2 p3 p4 p5
          go_loopw [84] (fun iv wr => ∃ i : Nat, iv = .int .i64 (i : Int) ∧ i ≤ n7 ∧ Hid (KS w6 q6 A8 n8 c8 q7 A7 n7 c7 wr)) (fun iv _ => n7 - (intOf iv).toNat)
          case atStart => exact ⟨0, rfl, Nat.zero_le _, HC⟩
          case round =>
            obtain ⟨i, rfl, hi, hD⟩ := hrel
            by_cases hlt : i < n7
            · have hii : (i : Int) < (n7 : Int) := by omega
              obtain ⟨gb, gp, gcs, rfl, glo, gbk, gth⟩ := hD.out.2.1.2.2.2.row hlt
              have HTH := Lib.hid (And.intro gth (hD.out.put gbk glo (gp + i * 7) #[.string ⟨#[]⟩, .int .i64 0, .bool false, .int .i64 0, .string ⟨#[]⟩, .slice none 0 0, .slice none 0 0].toList))
              have hwi : IntKind.i64.wrap ((i : Int) + 1) = (i : Int) + 1 := IntWalk.i64_in _ (by omega)
              obtain ⟨o0, o1, o2, o3, o4, o5, p0, p1, p2, p3, p4, p5⟩ := cells6s hD.out.2.1.2.1
              clear glo gbk gth hlt
              go_upto_region 34 with (refine wpList_store_mid rfl 44 _ _ rfl gb (gp + i * 7) #[.string ⟨#[]⟩, .int .i64 0, .bool false, .int .i64 0, .string ⟨#[]⟩, .slice none 0 0, .slice none 0 0] rfl rfl HTH.out.1 size_mb7 HZ7.out ?_)
              go_wp2_with fail
              first
                | exact ⟨⟨i + 1, by push_cast; rfl, by omega, Lib.hid HTH.out.2⟩, by simp [intOf]; omega⟩
                | (go_roundw
                   case rel => exact ⟨i + 1, by push_cast; rfl, by omega, Lib.hid HTH.out.2⟩
                   case measure => simp [intOf]; omega)
                | (repeat apply Exists.intro
                   refine ⟨⟨⟨i + 1, ?e2, ?e0, Lib.hid HTH.out.2⟩, ?f1⟩, ?mm⟩
                   case f1 => rfl
                   case e2 => push_cast; rfl
                   case e0 => omega
                   case mm => simp [intOf]; omega)
                | fail
            · have hii : ¬ (i : Int) < (n7 : Int) := by omega
              have HE := hD
              clear hlt
              go_wp2_with fail
              go_meet
              case rel => exact HE.out
      case rest =>
      have HS := Lib.hid hcut
      clear hcut HC
      obtain ⟨W1, hW1⟩ : ∃ x, x = wc := ⟨_, rfl⟩
      subst hW1
      have hk9 := HK6.out.later HS.out.2.2
      obtain ⟨d0, d1, d2, d3, d4, d5, _⟩ := cells6s hk9.2.2.1
      obtain ⟨e0, e1, e2, e3, e4, e5, _⟩ := cells6s hk9.2.1
      have HSA := Lib.hid (same_calls a0.bulk a0 a0 cA cB A0 B0 dl cl dm cm nl0 cl0 nm0 cm0 W1 (Nat.le_refl _) hk9.2.2.2 (HV.out.1.below hk9.1))
      clear hk9
      go_wp2_with fail
      refine HSA.out.mono ?_
      rintro e w10 ⟨rfl, b10⟩
      rw [sameV_refl]
      have HB10 := Lib.hid (show Below w6.heap.size w6 w10 from HS.out.2.2.then_ b10)
      clear b10 HS HSA d0 d1 d2 d3 d4 d5 e0 e1 e2 e3 e4 e5
      go_wp2_with fail
      refine (parseU_at w10 HP.out.1 (HV.out.2.below (HK6.out.1.then_ HB10.out)).2 HSL.out).mono ?_
      rintro e w11 ⟨xA, xB, xn, xc, xm, xd, rfl, hv, hvp, hun, b11⟩
      have HX0 := Lib.hid (XS.new (w6 := w6) (HB10.out.then_ b11) HB10.out.size hv hvp hun)
      clear hv hvp hun b11 HB10
      go_upto_region 38 with fail
      refine wp_gen (fun W => XS w6 w11.heap.size pv xA xB xn xc xm xd W) HX0.out ?_
      clear HX0
      rintro W9 hx
      obtain ⟨q10, hq⟩ : ∃ q, w11.heap.size = q := ⟨_, rfl⟩
      rw [hq] at hx
      rw [hq]
      have HX := Lib.hid hx
      clear hx hq
      go_upto_region 38 with fail
      go_cut [103] from 102 (fun v wc => (∃ b : Bool, v = .bool b) ∧ XS w6 q10 pv xA xB xn xc xm xd wc)
      case first =>
        go_region_with (fail)
        all_goals
          go_wp2_with fail
          go_meet
          case rel => exact ⟨⟨_, rfl⟩, HX.out.later (by first | exact ((Below.refl _ _).alloc (Nat.le_refl _) _).drew | exact ((Below.refl _ _).alloc (Nat.le_refl _) _).drewN _ | exact (Below.refl _ _).alloc (Nat.le_refl _) _)⟩
      case rest =>
      obtain ⟨⟨bb, rfl⟩, hS⟩ := hcut
      have HC := Lib.hid hS
      have HZ7 := Lib.hid (show (#[.int .i64 0, .bool false, .int .i64 0, .string ⟨#[]⟩, .slice none 0 0, .slice none 0 0] : Array Value).all (·.oneCell') = true by simp [Value.oneCell'])
      have hn1 : xn ≤ 140737488355328 := hS.2.2.2.2.2.1.1
      clear hS HX
      obtain ⟨W0, hW0⟩ : ∃ x, x = wc := ⟨_, rfl⟩
      subst hW0
      go_upto_if 103 with (fail)
      go_cut [] from 102 (fun wc => XS w6 q10 pv xA xB xn xc xm xd wc)
      case first =>
        obtain ⟨o0, o1, o2, o3, o4, o5, p0, p1, p2, p3, p4, p5⟩ := cells6s HC.out.1
        cases bb with
        | true =>
          by_cases hz : xn = 0
          · have q1 : ((xn : Int) != 0) = false := by simp [hz]
            go_wp2_with fail
            go_meet
            case rel => exact HC.out
          · have q1 : ((xn : Int) != 0) = true := by rw [bne_iff_ne]; omega
            go_wp2_with fail
            clear o0 o1 o2 o3 o4 o5 p0 p1 p2 p3 p4 p5
            go_loopw [108] (fun iv wr => ∃ i : Nat, iv = .int .i64 (i : Int) ∧ i ≤ xn ∧ Hid (XS w6 q10 pv xA xB xn xc xm xd wr)) (fun iv _ => xn - (intOf iv).toNat)
            case atStart => exact ⟨0, rfl, Nat.zero_le _, HC⟩
            case round =>
              obtain ⟨i, rfl, hi, hD⟩ := hrel
              by_cases hlt : i < xn
              · have hii : (i : Int) < (xn : Int) := by omega
                obtain ⟨gb, gp, rfl, glo, gne, gth⟩ := hD.out.rowL hlt
                have HTH := Lib.hid (And.intro gth (hD.out.put gne glo (gp + i * 6) #[.int .i64 0, .bool false, .int .i64 0, .string ⟨#[]⟩, .slice none 0 0, .slice none 0 0].toList))
                have hwi : IntKind.i64.wrap ((i : Int) + 1) = (i : Int) + 1 := IntWalk.i64_in _ (by omega)
                obtain ⟨o0, o1, o2, o3, o4, o5, p0, p1, p2, p3, p4, p5⟩ := cells6s hD.out.1
                clear glo gne gth hlt
                go_upto_region 43 with (refine wpList_store_mid rfl 25 _ _ rfl gb (gp + i * 6) #[.int .i64 0, .bool false, .int .i64 0, .string ⟨#[]⟩, .slice none 0 0, .slice none 0 0] rfl rfl HTH.out.1 size_v6 HZ7.out ?_)
                go_wp2_with fail
                first
                  | exact ⟨⟨i + 1, by push_cast; rfl, by omega, Lib.hid HTH.out.2⟩, by simp [intOf]; omega⟩
                  | (go_roundw
                     case rel => exact ⟨i + 1, by push_cast; rfl, by omega, Lib.hid HTH.out.2⟩
                     case measure => simp [intOf]; omega)
                  | (repeat apply Exists.intro
                     refine ⟨⟨⟨i + 1, ?e2, ?e0, Lib.hid HTH.out.2⟩, ?f1⟩, ?mm⟩
                     case f1 => rfl
                     case e2 => push_cast; rfl
                     case e0 => omega
                     case mm => simp [intOf]; omega)
                  | fail
              · have hii : ¬ (i : Int) < (xn : Int) := by omega
                have HE := hD
                clear hlt
                go_wp2_with fail
                go_meet
                case rel => exact HE.out
        | false =>
          go_wp2_with fail
          clear o0 o1 o2 o3 o4 o5 p0 p1 p2 p3 p4 p5
          go_loopw [116] (fun iv wr => ∃ i : Nat, iv = .int .i64 (i : Int) ∧ i ≤ xn ∧ Hid (XS w6 q10 pv xA xB xn xc xm xd wr)) (fun iv _ => xn - (intOf iv).toNat)
          case atStart => exact ⟨0, rfl, Nat.zero_le _, HC⟩
          case round =>
            obtain ⟨i, rfl, hi, hD⟩ := hrel
            by_cases hlt : i < xn
            · have hii : (i : Int) < (xn : Int) := by omega
              obtain ⟨gb, gp, rfl, glo, gne, gth⟩ := hD.out.rowL hlt
              have HTH := Lib.hid (And.intro gth (hD.out.put gne glo (gp + i * 6) #[.int .i64 0, .bool false, .int .i64 0, .string ⟨#[]⟩, .slice none 0 0, .slice none 0 0].toList))
              have hwi : IntKind.i64.wrap ((i : Int) + 1) = (i : Int) + 1 := IntWalk.i64_in _ (by omega)
              obtain ⟨o0, o1, o2, o3, o4, o5, p0, p1, p2, p3, p4, p5⟩ := cells6s hD.out.1
              clear glo gne gth hlt
              go_upto_region 49 with (refine wpList_store_mid rfl 25 _ _ rfl gb (gp + i * 6) #[.int .i64 0, .bool false, .int .i64 0, .string ⟨#[]⟩, .slice none 0 0, .slice none 0 0] rfl rfl HTH.out.1 size_v6 HZ7.out ?_)
              go_wp2_with fail
              first
                | exact ⟨⟨i + 1, by push_cast; rfl, by omega, Lib.hid HTH.out.2⟩, by simp [intOf]; omega⟩
                | (go_roundw
                   case rel => exact ⟨i + 1, by push_cast; rfl, by omega, Lib.hid HTH.out.2⟩
                   case measure => simp [intOf]; omega)
                | (repeat apply Exists.intro
                   refine ⟨⟨⟨i + 1, ?e2, ?e0, Lib.hid HTH.out.2⟩, ?f1⟩, ?mm⟩
                   case f1 => rfl
                   case e2 => push_cast; rfl
                   case e0 => omega
                   case mm => simp [intOf]; omega)
                | fail
            · have hii : ¬ (i : Int) < (xn : Int) := by omega
              have HE := hD
              clear hlt
              go_wp2_with fail
              go_meet
              case rel => exact HE.out
      case rest =>
      have HX := Lib.hid hcut
      clear hcut HC
      obtain ⟨W1, hW1⟩ : ∃ x, x = wc := ⟨_, rfl⟩
      subst hW1
      go_upto_region 50 with fail
      go_cut [126] from 125 (fun v wc => (∃ b : Bool, v = .bool b) ∧ XS w6 q10 pv xA xB xn xc xm xd wc)
      case first =>
        go_region_with (fail)
        all_goals
          go_wp2_with fail
          go_meet
          case rel => exact ⟨⟨_, rfl⟩, HX.out.later (by first | exact ((Below.refl _ _).alloc (Nat.le_refl _) _).drew | exact ((Below.refl _ _).alloc (Nat.le_refl _) _).drewN _ | exact (Below.refl _ _).alloc (Nat.le_refl _) _)⟩
      case rest =>
      obtain ⟨⟨bb, rfl⟩, hS⟩ := hcut
      have HC := Lib.hid hS
      have HZ7 := Lib.hid (show (#[.string ⟨#[]⟩, .int .i64 0, .bool false, .int .i64 0, .string ⟨#[]⟩, .slice none 0 0, .slice none 0 0] : Array Value).all (·.oneCell') = true by simp [Value.oneCell'])
      have hn1 : xm ≤ 140737488355328 := hS.2.2.2.2.2.1.2
      clear hS HX
      obtain ⟨W0, hW0⟩ : ∃ x, x = wc := ⟨_, rfl⟩
      subst hW0
      go_upto_if 126 with (fail)
      go_cut [] from 125 (fun wc => XS w6 q10 pv xA xB xn xc xm xd wc)
      case first =>
        obtain ⟨o0, o1, o2, o3, o4, o5, p0, p1, p2, p3, p4, p5⟩ := cells6s HC.out.1
        cases bb with
        | true =>
          by_cases hz : xm = 0
          · have q1 : ((xm : Int) != 0) = false := by simp [hz]
            go_wp2_with fail
            go_meet
            case rel => exact HC.out
          · have q1 : ((xm : Int) != 0) = true := by rw [bne_iff_ne]; omega
            go_wp2_with fail
            clear o0 o1 o2 o3 o4 o5 p0 p1 p2 p3 p4 p5
            go_loopw [131] (fun iv wr => ∃ i : Nat, iv = .int .i64 (i : Int) ∧ i ≤ xm ∧ Hid (XS w6 q10 pv xA xB xn xc xm xd wr)) (fun iv _ => xm - (intOf iv).toNat)
            case atStart => exact ⟨0, rfl, Nat.zero_le _, HC⟩
            case round =>
              obtain ⟨i, rfl, hi, hD⟩ := hrel
              by_cases hlt : i < xm
              · have hii : (i : Int) < (xm : Int) := by omega
                obtain ⟨gb, gp, rfl, glo, gne, gth⟩ := hD.out.rowM hlt
                have HTH := Lib.hid (And.intro gth (hD.out.put gne glo (gp + i * 7) #[.string ⟨#[]⟩, .int .i64 0, .bool false, .int .i64 0, .string ⟨#[]⟩, .slice none 0 0, .slice none 0 0].toList))
                have hwi : IntKind.i64.wrap ((i : Int) + 1) = (i : Int) + 1 := IntWalk.i64_in _ (by omega)
                obtain ⟨o0, o1, o2, o3, o4, o5, p0, p1, p2, p3, p4, p5⟩ := cells6s hD.out.1
                clear glo gne gth hlt
                go_upto_region 55 with (refine wpList_store_mid rfl 44 _ _ rfl gb (gp + i * 7) #[.string ⟨#[]⟩, .int .i64 0, .bool false, .int .i64 0, .string ⟨#[]⟩, .slice none 0 0, .slice none 0 0] rfl rfl HTH.out.1 size_mb7 HZ7.out ?_)
                go_wp2_with fail
                first
                  | exact ⟨⟨i + 1, by push_cast; rfl, by omega, Lib.hid HTH.out.2⟩, by simp [intOf]; omega⟩
                  | (go_roundw
                     case rel => exact ⟨i + 1, by push_cast; rfl, by omega, Lib.hid HTH.out.2⟩
                     case measure => simp [intOf]; omega)
                  | (repeat apply Exists.intro
                     refine ⟨⟨⟨i + 1, ?e2, ?e0, Lib.hid HTH.out.2⟩, ?f1⟩, ?mm⟩
                     case f1 => rfl
                     case e2 => push_cast; rfl
                     case e0 => omega
                     case mm => simp [intOf]; omega)
                  | fail
              · have hii : ¬ (i : Int) < (xm : Int) := by omega
                have HE := hD
                clear hlt
                go_wp2_with fail
                go_meet
                case rel => exact HE.out
        | false =>
          go_wp2_with fail
          clear o0 o1 o2 o3 o4 o5 p0 p1 p2 p3 p4 p5
          go_loopw [139] (fun iv wr => ∃ i : Nat, iv = .int .i64 (i : Int) ∧ i ≤ xm ∧ Hid (XS w6 q10 pv xA xB xn xc xm xd wr)) (fun iv _ => xm - (intOf iv).toNat)
          case atStart => exact ⟨0, rfl, Nat.zero_le _, HC⟩
          case round =>
            obtain ⟨i, rfl, hi, hD⟩ := hrel
            by_cases hlt : i < xm
            · have hii : (i : Int) < (xm : Int) := by omega
              obtain ⟨gb, gp, rfl, glo, gne, gth⟩ := hD.out.rowM hlt
              have HTH := Lib.hid (And.intro gth (hD.out.put gne glo (gp + i * 7) #[.string ⟨#[]⟩, .int .i64 0, .bool false, .int .i64 0, .string ⟨#[]⟩, .slice none 0 0, .slice none 0 0].toList))
              have hwi : IntKind.i64.wrap ((i : Int) + 1) = (i : Int) + 1 := IntWalk.i64_in _ (by omega)
              obtain ⟨o0, o1, o2, o3, o4, o5, p0, p1, p2, p3, p4, p5⟩ := cells6s hD.out.1
              clear glo gne gth hlt
              go_upto_region 61 with (refine wpList_store_mid rfl 44 _ _ rfl gb (gp + i * 7) #[.string ⟨#[]⟩, .int .i64 0, .bool false, .int .i64 0, .string ⟨#[]⟩, .slice none 0 0, .slice none 0 0] rfl rfl HTH.out.1 size_mb7 HZ7.out ?_)
              go_wp2_with fail
              first
                | exact ⟨⟨i + 1, by push_cast; rfl, by omega, Lib.hid HTH.out.2⟩, by simp [intOf]; omega⟩
                | (go_roundw
                   case rel => exact ⟨i + 1, by push_cast; rfl, by omega, Lib.hid HTH.out.2⟩
                   case measure => simp [intOf]; omega)
                | (repeat apply Exists.intro
                   refine ⟨⟨⟨i + 1, ?e2, ?e0, Lib.hid HTH.out.2⟩, ?f1⟩, ?mm⟩
                   case f1 => rfl
                   case e2 => push_cast; rfl
                   case e0 => omega
                   case mm => simp [intOf]; omega)
                | fail
            · have hii : ¬ (i : Int) < (xm : Int) := by omega
              have HE := hD
              clear hlt
              go_wp2_with fail
              go_meet
              case rel => exact HE.out
      case rest =>
      have HX := Lib.hid hcut
      clear hcut HC
      obtain ⟨W1, hW1⟩ : ∃ x, x = wc := ⟨_, rfl⟩
      subst hW1
      obtain ⟨o0, o1, o2, o3, o4, o5, p0, p1, p2, p3, p4, p5⟩ := cells6s HX.out.1
      have hbw := HK6.out.1.then_ HX.out.2.2.2.2.2.2
      have HTP := Lib.hid (And.intro hbw (HV.out.2.below hbw))
      clear hbw
      go_wp2_with fail
      refine (parse_at W1 HP.out.1 HTP.out.2.2 HSL.out).mono ?_
      rintro e w12 ⟨yA, yB, yn, yc, ym, yd, rfl, hv, hvp, b12⟩
      have HQ := Lib.hid (HX.out.1.later b12)
      have HQ2 := Lib.hid (show XS2 w q10 pv yA yB yn yc ym yd (set6 w12 q10 (.int .i64 pv.kd) (.bool pv.is) (.int .i64 pv.n) (.string ⟨pv.s.toArray⟩) (.slice yA yn yc) (.slice yB ym yd)) from
        XS2.mk (HTP.out.1.then_ b12) (by have := HX.out.2.2.2.2.1; have := HK6.out.1.size; omega) (HX.out.1.later b12) hvp HX.out.1.lt)
      clear hv hvp b12 o0 o1 o2 o3 o4 o5 p0 p1 p2 p3 p4 p5
      obtain ⟨o0, o1, o2, o3, o4, o5, p0, p1, p2, p3, p4, p5⟩ := cells6s HQ.out
      go_upto_region 63 with fail
      refine wp_gen (fun W => XS2 w q10 pv yA yB yn yc ym yd W) HQ2.out ?_
      clear HQ2 HQ HX o0 o1 o2 o3 o4 o5 p0 p1 p2 p3 p4 p5
      rintro W13 hx
      have HX := Lib.hid hx
      clear hx
      go_wp2_with fail
      refine (refparse_at W13 HP.out.1 (HV.out.2.below HX.out.1) HSL.out).mono ?_
      rintro e w14 ⟨zA, zB, zn, zc, zm, zd, rfl, hv, b14⟩
      have hbA : Below w14.heap.size w14 (w14.alloc (.cells #[.int .i64 pv.kd, .bool pv.is, .int .i64 pv.n, .string ⟨pv.s.toArray⟩, .slice zA zn zc, .slice zB zm zd] 25)) := (Below.refl _ _).alloc (Nat.le_refl _) _
      have HF := Lib.hid (show XS2 w q10 pv yA yB yn yc ym yd (w14.alloc (.cells #[.int .i64 pv.kd, .bool pv.is, .int .i64 pv.n, .string ⟨pv.s.toArray⟩, .slice zA zn zc, .slice zB zm zd] 25)) ∧ Blk (w14.alloc (.cells #[.int .i64 pv.kd, .bool pv.is, .int .i64 pv.n, .string ⟨pv.s.toArray⟩, .slice zA zn zc, .slice zB zm zd] 25)) w14.heap.size 25 [.int .i64 pv.kd, .bool pv.is, .int .i64 pv.n, .string ⟨pv.s.toArray⟩, .slice zA zn zc, .slice zB zm zd] ∧ VOk (w14.alloc (.cells #[.int .i64 pv.kd, .bool pv.is, .int .i64 pv.n, .string ⟨pv.s.toArray⟩, .slice zA zn zc, .slice zB zm zd] 25)) pv zA zB zn zc zm zd from ⟨(HX.out.later b14).later hbA, Blk.new _ _ _, hv.below hbA⟩)
      clear hv b14 hbA HX
      go_upto_region 64 with fail
      refine wp_gen (fun W => XS2 w q10 pv yA yB yn yc ym yd W ∧ Blk W w14.heap.size 25 [.int .i64 pv.kd, .bool pv.is, .int .i64 pv.n, .string ⟨pv.s.toArray⟩, .slice zA zn zc, .slice zB zm zd] ∧ VOk W pv zA zB zn zc zm zd) HF.out ?_
      clear HF
      rintro W15 hf
      have HF := Lib.hid hf
      obtain ⟨o0, o1, o2, o3, o4, o5, _⟩ := cells6s hf.1.2.1
      obtain ⟨e0, e1, e2, e3, e4, e5, _⟩ := cells6s hf.2.1
      clear hf
      go_wp2_with fail
      refine (same_calls pv.bulk pv pv yA yB zA zB yn yc ym yd zn zc zm zd W15 (Nat.le_refl _) HF.out.1.2.2 HF.out.2.2).mono ?_
      rintro e w16 ⟨rfl, b16⟩
      rw [sameV_refl]
      have HE := Lib.hid (HF.out.1.1.then_ b16)
      clear b16 HF o0 o1 o2 o3 o4 o5 e0 e1 e2 e3 e4 e5
      go_wp2_with fail
      go_ret
      exact ⟨rfl, HE.out⟩
end Go.Proofs.YtajkgcmopmpihaaGreatDoor
