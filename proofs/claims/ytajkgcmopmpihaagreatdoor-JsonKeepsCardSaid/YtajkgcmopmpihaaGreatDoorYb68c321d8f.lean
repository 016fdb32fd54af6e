/- Texts put together: Js8 Js9. -/
import Derived.Test.YtajkgcmopmpihaaGreatDoorY184ebbd4c6
import Derived.Test.YtajkgcmopmpihaaGreatDoorY12d2857515
namespace Go.Proofs.YtajkgcmopmpihaaGreatDoor
open Go.ChangeShapes Go.WideShapes Go.ChangeAt Go.RowKit Go.IntWalk
set_option linter.unusedVariables false
set_option maxRecDepth 100000
section
variable {s q : List UInt8} {j deep : Nat} {acc : JT} {key : List UInt8} {c : Nat}
theorem pk_none (h : scan q = none) : pK acc deep q = .error 4 := by unfold pK; rw [h]
theorem pk_twice (h : scan q = some (key, c)) (hk : acc.hasK key = true) : pK acc deep q = .error 6 := by
  unfold pK; rw [h]; exact if_pos hk
theorem pk_bad (h : scan q = some (key, c)) (hk : acc.hasK key = false) (hs : s.drop j = skipB (q.drop c)) (h2 : ¬ [58] <+: s.drop j) : pK acc deep q = .error 4 := by
  rw [pre_one] at h2
  unfold pK; rw [h]; dsimp only
  rw [if_neg (by rw [hk]; decide), ← hs]
  cases hx : s.drop j with
  | nil => rfl
  | cons d q2 => exact if_neg (fun e => h2 (by rw [hx, e]; rfl))
theorem pk_go (h : scan q = some (key, c)) (hk : acc.hasK key = false) (hs : s.drop j = skipB (q.drop c)) (hj : j ≤ s.length) (h2 : [58] <+: s.drop j) : pK acc deep q = ((pV deep (s.drop (j + 1))).then fun x r => pTn (acc.ins key x) deep r) ∧ j + 1 ≤ s.length := by
  obtain ⟨rest, h1, h2, h3⟩ := pre_at h2 hj
  refine ⟨?_, h3⟩
  unfold pK; rw [h]; dsimp only
  rw [if_neg (by rw [hk]; decide), ← hs, h1, show s.drop (j + 1) = rest from h2]
  exact if_pos rfl
end
def TSt (s : List UInt8) (R : PRes) (deep at_ k : Nat) (acc : JT) (w : World) (B : Option Addr) (c : Nat) (W : World) : Prop :=
  (at_ ≤ k ∧ k ≤ s.length ∧ acc.ext ≤ k) ∧ R = pT acc deep (s.drop k) ∧ SortK acc.keys ∧ CSt w 5 (.slice none 0 0) (.slice B acc.ext c) W ∧ Room acc.ext c acc.ext ∧ JSl (fun b => w.heap.size + 2 ≤ b ∧ b < W.heap.size) W true B acc
def MSt (acc : JT) (w : World) (B : Option Addr) (c : Nat) (W : World) : Prop := CSt w 5 (.slice none 0 0) (.slice B acc.ext c) W ∧ Room acc.ext c acc.ext ∧ JSl (fun b => w.heap.size + 2 ≤ b ∧ b < W.heap.size) W true B acc
theorem MSt.later {acc : JT} {w W W' : World} {B : Option Addr} {c : Nat} (h : MSt acc w B c W) (b : Below W.heap.size W W') : MSt acc w B c W' :=
  ⟨h.1.later b, h.2.1, h.2.2.stay (fun b' o hb => b.cell (p := ⟨b', o, none⟩) hb.2) (fun b' hb => ⟨hb.1, Nat.lt_of_lt_of_le hb.2 b.size⟩)⟩
theorem MSt.new {acc : JT} {w W : World} {B : Option Addr} {c : Nat} (h : MSt acc w B c W) (o : Obj) : MSt acc w B c (W.alloc o) := h.later ((Below.refl _ _).alloc (Nat.le_refl _) _)
theorem VNs.vp {w W0 W W' : World} {v : Jv} {A B : Option Addr} {nl cl nm cm : Nat} (h : VNs W0.heap.size W v A B nl cl nm cm) (h0 : w.heap.size + 2 ≤ W0.heap.size) (b : Below W.heap.size W W') : VP (fun b => w.heap.size + 2 ≤ b ∧ b < W'.heap.size) W' v A B nl cl nm cm :=
  ⟨h.1, h.2.1, h.2.2.1.stay (fun b' o hb => b.cell (p := ⟨b', o, none⟩) hb.2) (fun b' hb => ⟨Nat.le_trans h0 hb.1, Nat.lt_of_lt_of_le hb.2 b.size⟩), h.2.2.2.1.stay (fun b' o hb => b.cell (p := ⟨b', o, none⟩) hb.2) (fun b' hb => ⟨Nat.le_trans h0 hb.1, Nat.lt_of_lt_of_le hb.2 b.size⟩), h.2.2.2.2⟩
theorem MSt.put {acc acc' : JT} {w W W' : World} {B B' : Option Addr} {c c' : Nat} (h : MSt acc w B c W) (b : Below W.heap.size W W') (hr : Room acc'.ext c' acc'.ext) (hj : JSl (fun b => ((w.heap.size + 2 ≤ b ∧ b < W.heap.size) ∨ W.heap.size + 1 ≤ b) ∧ b < W'.heap.size) W' true B' acc') :
    MSt acc' w B' c' (W'.setCell ⟨w.heap.size + 1, 5, none⟩ (.slice B' acc'.ext c')) :=
  ⟨(h.1.later b).tab, hr, hj.stay (fun b' o hb => cell_set_far (by have := hb.1; have := h.1.base; omega)) (fun b' hb => ⟨by have := hb.1; have := h.1.base; omega, by have := hb.2; simpa [World.setCell] using this⟩)⟩
theorem VNs.tab {acc : JT} {w W : World} {B : Option Addr} {c : Nat} (h : MSt acc w B c W) : VNs (w.heap.size + 1) W (mapV acc) none B 0 0 acc.ext c :=
  ⟨⟨rfl, Nat.le_refl _, by decide⟩, h.2.1, .inl rfl, h.2.2.stay (fun _ _ _ => rfl) (fun b hb => ⟨by have := hb.1; omega, hb.2⟩), (show Fit 5 0 [] from ⟨by decide, by decide, by decide⟩)⟩
set_option maxHeartbeats 16000000 in
theorem reftable_calls (base : Nat) (s : List UInt8) (at_ deep : Nat) (w : World) (hs : s.length ≤ 65536) (ha : at_ ≤ s.length) (hW : Wk base w)
    (HK : ∀ (b : Nat) (w : World), at_ ≤ b → b ≤ s.length → Wk base w → Calls Tryz.prog 25 #[.string ⟨s.toArray⟩, .int .i64 (b : Int), .int .i64 (deep : Int)] w (TRes s (pV deep (s.drop b)) w)) :
    Calls Tryz.prog 41 #[.string ⟨s.toArray⟩, .int .i64 (at_ : Int), .int .i64 (deep : Int)] w (TRes s (tabF deep (s.drop at_)) w) := by
  obtain ⟨n, hn⟩ : ∃ n, s.length = n := ⟨_, rfl⟩
  have hsz : (⟨s.toArray⟩ : ByteArray).size = n := hn
  have HS := Lib.hid hs
  have HN := Lib.hid hn
  have HA := Lib.hid ha
  have hn6 : n ≤ 65536 := by rw [← hn]; exact hs
  have HKK := Lib.hid HK
  have HWW := Lib.hid hW
  have hz := Blk.new w [.int .i64 0, .bool false, .int .i64 0, .string ⟨#[]⟩, .slice none 0 0, .slice none 0 0] 25
  have hb0 := (Below.refl w.heap.size w).alloc (Nat.le_refl _) (.cells #[.int .i64 0, .bool false, .int .i64 0, .string ⟨#[]⟩, .slice none 0 0, .slice none 0 0] 25)
  have hsz1 : (w.alloc (.cells #[.int .i64 0, .bool false, .int .i64 0, .string ⟨#[]⟩, .slice none 0 0, .slice none 0 0] 25)).heap.size = w.heap.size + 1 := Array.size_push ..
  obtain ⟨R, hR⟩ : ∃ R, tabF deep (s.drop at_) = R := ⟨_, rfl⟩
  have HR := Lib.hid hR
  rw [hR]
  clear hs ha hn hW HK hR
  go_enter Tryz.func41, Tryz.ntmps41
  go_upto_region 1 with fail
  generalize w.alloc (.cells #[.int .i64 0, .bool false, .int .i64 0, .string ⟨#[]⟩, .slice none 0 0, .slice none 0 0] 25) = W1 at hz hb0 hsz1 ⊢
  have HC0 := Lib.hid (CSt.start 5 hz hsz1 hb0)
  have HSZ := Lib.hid hsz1
  clear hz hb0 hsz1
  go_upto_region 2 with fail
  rw [HSZ.out]
  refine wp_gen (fun W => CSt w 5 (.slice none 0 0) (.slice none 0 0) W) HC0.out ?_
  clear HC0 HSZ
  clear W1
  rintro W1 hc1
  have HC := Lib.hid hc1
  clear hc1
  go_wp2_with fail
  refine (refblank_calls s at_ _ HS.out HA.out).mono ?_
  rintro e w2 ⟨k, rfl, k1, k2, k3, rfl⟩
  have HK := Lib.hid k3
  have HKL := Lib.hid k2
  have HKA := Lib.hid k1
  have hk6 : k ≤ 65536 := Nat.le_trans k2 HS.out
  have hkn : k ≤ n := by rw [← HN.out]; exact k2
  clear k1 k2 k3
  go_wp2_with fail
  refine (refhas_calls s [125] k _ HS.out HKL.out (by decide)).mono ?_
  rintro e w11 ⟨rfl, rfl⟩
  by_cases h1 : [125] <+: s.drop k
  · rw [decide_eq_true h1]
    have HE := Lib.hid (tab_end (deep := deep) HK.out HKL.out h1)
    have hkx : k + 1 ≤ n := by rw [← HN.out]; exact HE.out.2
    have hwr : IntKind.i64.wrap ((k : Int) + 1) = (k : Int) + 1 := IntWalk.i64_in _ (by omega)
    obtain ⟨c0, c1, c2, c3, c4, c5, g0, g1, g2, g3, g4, g5⟩ := cells6 HC.out.1
    obtain ⟨d0, d1, d2, d3, d4, d5, _⟩ := cells6 HC.out.2.1
    go_wp2_with fail
    exact bodyPost_ret (res_cell3 rfl _ ⟨w.heap.size, 0, none⟩ _ (.int .i64 ((k : Int) + 1)) (.int .i64 0) _ rfl rfl rfl (Blk.load (blk6 HC.out.1) _ Tryz.underlying25 rfl size_valS)) rfl ⟨HC.out.out, .inr ⟨mapV .nil, k + 1, none, none, 0, 0, 0, 0, HR.out.symm.trans HE.out.1, HE.out.2, by push_cast; rfl, VNs.leaf _ _ ⟨(show (-9223372036854775808 : Int) ≤ 5 ∧ (5 : Int) ≤ 9223372036854775807 by decide), (show (-9223372036854775808 : Int) ≤ 0 ∧ (0 : Int) ≤ 9223372036854775807 by decide), Nat.zero_le _⟩⟩⟩
  rw [decide_eq_false h1]
  have HL0 := Lib.hid (show TSt s R deep at_ k .nil w none 0 W1 from ⟨⟨HKA.out, HKL.out, Nat.zero_le _⟩, HR.out.symm.trans (tab_go HK.out h1), List.Pairwise.nil, HC.out, ⟨rfl, Nat.le_refl _, by decide⟩, .inl rfl⟩)
  clear HC HK HKL HKA HR h1
  go_wp2_with fail
  go_loopw [1] (fun i wr => ∃ (k : Nat) (acc : JT) (B : Option Addr) (c : Nat), i = .int .i64 (k : Int) ∧ k ≤ n ∧ Hid (TSt s R deep at_ k acc w B c wr)) (fun i _ => n + 1 - (intOf i).toNat)
  case atStart => exact ⟨k, .nil, _, _, rfl, hkn, HL0⟩
  case round =>
    obtain ⟨k, acc, B9, c9, rfl, hkn, hL⟩ := hrel
    have HWr := Lib.hid (HWW.out.later hL.out.2.2.2.1.2.2)
    have HM0 := Lib.hid (show MSt acc w B9 c9 wr from hL.out.2.2.2)
    have HEX := Lib.hid (And.intro hL.out.1.2.2 hL.out.2.2.1)
    have HATK := Lib.hid hL.out.1
    have HR := Lib.hid hL.out.2.1
    clear hL
    go_wp2_with fail
    refine (refblank_calls s k _ HS.out HATK.out.2.1).mono ?_
    rintro e w10 ⟨m, rfl, m1, m2, m3, rfl⟩
    have HML := Lib.hid m2
    have HMA := Lib.hid m1
    have hm6 : m ≤ 65536 := Nat.le_trans m2 HS.out
    have hmn : m ≤ n := by rw [← HN.out]; exact m2
    have HTT := Lib.hid (tt_key (acc := acc) (deep := deep) m3 m2)
    clear m1 m2 m3
    go_wp2_with fail
    refine (reftake_calls s (m : Int) _ (by have := HS.out; omega)).mono ?_
    rintro e w5 ⟨he, b5⟩
    have HM5 := Lib.hid (HM0.out.later b5)
    have HW5 := Lib.hid (HWr.out.later b5)
    clear b5
    rcases HTT.out with ⟨ht, hp⟩ | ⟨hm1, ht, hp⟩
    · rw [ht] at he
      have HE := Lib.hid (HR.out.trans hp)
      subst he
      have HC5 := Lib.hid HM5.out.1
      clear ht hp
      obtain ⟨c0, c1, c2, c3, c4, c5, g0, g1, g2, g3, g4, g5⟩ := cells6 HC5.out.1
      go_wp2_with fail
      exact bodyPost_ret (res_cell3 rfl _ ⟨w.heap.size, 0, none⟩ _ (.int .i64 0) (.int .i64 4) _ rfl rfl rfl (Blk.load (blk6 HC5.out.1) _ Tryz.underlying25 rfl size_valS)) rfl ⟨HC5.out.out, .inl ⟨4, HE.out, rfl⟩⟩
    rw [ht] at he
    cases hsc : scan (s.drop (m + 1)) with
    | none =>
      rw [hsc] at he
      have HE := Lib.hid (HR.out.trans (hp.trans (pk_none hsc)))
      subst he
      have HC5 := Lib.hid HM5.out.1
      clear ht hp
      obtain ⟨c0, c1, c2, c3, c4, c5, g0, g1, g2, g3, g4, g5⟩ := cells6 HC5.out.1
      go_wp2_with fail
      exact bodyPost_ret (res_cell3 rfl _ ⟨w.heap.size, 0, none⟩ _ (.int .i64 0) (.int .i64 4) _ rfl rfl rfl (Blk.load (blk6 HC5.out.1) _ Tryz.underlying25 rfl size_valS)) rfl ⟨HC5.out.out, .inl ⟨4, HE.out, rfl⟩⟩
    | some p =>
      obtain ⟨key, c⟩ := p
      rw [hsc] at he
      have HP := Lib.hid (HR.out.trans hp)
      have hq := scan_ok _ _ (Nat.le_refl _) key c hsc
      rw [List.length_drop] at hq
      have HQ2 := Lib.hid (show m + 1 + c ≤ s.length ∧ key.length ≤ 140737488355328 by have := hm1; have := HS.out; omega)
      have HSC := Lib.hid hsc
      have hmc : m + 1 + c ≤ n := by rw [← HN.out]; exact HQ2.out.1
      subst he
      clear hq ht hp hsc HTT
      obtain ⟨c0, c1, c2, c3, c4, c5, g0, g1, g2, g3, g4, g5⟩ := cells6 HM5.out.1.2.1
      go_wp2_with fail
      refine (reffindS_calls w5.heap.size acc B9 acc.ext c9 key w5 HM5.out.2.1 (Nat.le_refl _) (HM5.out.2.2.stay (fun _ _ _ => rfl) (fun b hb => hb.2))).mono ?_
      rintro e w6 ⟨⟨fA, fB, fnl, fcl, fnm, fcm, rfl, hfv⟩, b6⟩
      clear hfv
      rw [findV_hasK]
      obtain ⟨fu, hfu⟩ : ∃ fu, (acc.findV key).getD nullV = fu := ⟨_, rfl⟩
      rw [hfu]
      have HM6 := Lib.hid ((HM5.out.later b6).new (.cells #[.int .i64 fu.kd, .bool fu.is, .int .i64 fu.n, .string ⟨fu.s.toArray⟩, .slice fA fnl fcl, .slice fB fnm fcm] 25))
      have HW6 := Lib.hid ((HW5.out.later b6).later ((Below.refl _ _).alloc (Nat.le_refl _) (.cells #[.int .i64 fu.kd, .bool fu.is, .int .i64 fu.n, .string ⟨fu.s.toArray⟩, .slice fA fnl fcl, .slice fB fnm fcm] 25)))
      clear b6 hfu c0 c1 c2 c3 c4 c5 g0 g1 g2 g3 g4 g5 HM5 HW5
      go_upto_region 9 with fail
      refine wp_gen (fun W => MSt acc w B9 c9 W ∧ Wk base W) ⟨HM6.out, HW6.out⟩ ?_
      clear HM6 HW6
      rintro W7 ⟨h7, h7w⟩
      have HM7 := Lib.hid h7
      have HW7 := Lib.hid h7w
      clear h7 h7w
      cases hhk : acc.hasK key with
      | true =>
        have HE := Lib.hid (HP.out.trans (pk_twice HSC.out hhk))
        have HC5 := Lib.hid HM7.out.1
        obtain ⟨c0, c1, c2, c3, c4, c5, g0, g1, g2, g3, g4, g5⟩ := cells6 HC5.out.1
        go_wp2_with fail
        exact bodyPost_ret (res_cell3 rfl _ ⟨w.heap.size, 0, none⟩ _ (.int .i64 0) (.int .i64 6) _ rfl rfl rfl (Blk.load (blk6 HC5.out.1) _ Tryz.underlying25 rfl size_valS)) rfl ⟨HC5.out.out, .inl ⟨6, HE.out, rfl⟩⟩
      | false =>
        have HHK := Lib.hid hhk
        clear hhk
        go_wp2_with fail
        refine (refblank_calls s (m + 1 + c) _ HS.out HQ2.out.1).mono ?_
        rintro e w10 ⟨j, rfl, j1, j2, j3, rfl⟩
        have HJ := Lib.hid (show s.drop j = skipB ((s.drop (m + 1)).drop c) by rw [j3, drop_more])
        have HJL := Lib.hid j2
        have HJA := Lib.hid j1
        have hj6 : j ≤ 65536 := Nat.le_trans j2 HS.out
        have hjn : j ≤ n := by rw [← HN.out]; exact j2
        clear j1 j2 j3
        go_wp2_with fail
        refine (refhas_calls s [58] j _ HS.out HJL.out (by decide)).mono ?_
        rintro e w11 ⟨rfl, rfl⟩
        by_cases h1 : [58] <+: s.drop j
        · rw [decide_eq_true h1]
          have HG := Lib.hid (pk_go (deep := deep) HSC.out HHK.out HJ.out HJL.out h1)
          have hjx : j + 1 ≤ n := by rw [← HN.out]; exact HG.out.2
          have hwj : IntKind.i64.wrap ((j : Int) + 1) = (j : Int) + 1 := IntWalk.i64_in _ (by omega)
          have hc := HKK.out (j + 1) _ (by have := HATK.out.1; have := HMA.out; have := HJA.out; omega) HG.out.2 HW7.out
          rw [show ((j + 1 : Nat) : Int) = (j : Int) + 1 from by push_cast; rfl] at hc
          have HC := Lib.hid hc
          clear hc
          go_wp2_with fail
          refine HC.out.mono ?_
          rintro e w8 ⟨b8, hR⟩
          rcases hR with ⟨c', hr, rfl⟩ | ⟨v, at', A, B, nl, cl, nm, cm, hr, hle, rfl, hv⟩
          · have HE := Lib.hid (show R = .error c' by rw [HP.out, HG.out.1, hr]; rfl)
            have q1 : (c' != 0) = true := by rw [bne_iff_ne]; exact fun e => pV_ne0 _ _ (e ▸ hr)
            have HC5 := Lib.hid ((HM7.out.1.later b8).new (.cells #[.int .i64 0, .bool false, .int .i64 0, .string ⟨#[]⟩, .slice none 0 0, .slice none 0 0] 25))
            clear b8 hr
            go_upto_region 15 with fail
            refine wp_gen (fun W => CSt w 5 (.slice none 0 0) (.slice B9 acc.ext c9) W) HC5.out ?_
            clear HC5
            rintro W9 h9
            have HC5 := Lib.hid h9
            clear h9
            obtain ⟨c0, c1, c2, c3, c4, c5, g0, g1, g2, g3, g4, g5⟩ := cells6 HC5.out.1
            go_wp2_with fail
            exact bodyPost_ret (res_cell3 rfl _ ⟨w.heap.size, 0, none⟩ _ (.int .i64 0) (.int .i64 c') _ rfl rfl rfl (Blk.load (blk6 HC5.out.1) _ Tryz.underlying25 rfl size_valS)) rfl ⟨HC5.out.out, .inl ⟨c', HE.out, rfl⟩⟩
          · have HX := Lib.hid (show R = pTn (acc.ins key v) deep (s.drop at') by rw [HP.out, HG.out.1, hr]; rfl)
            have HAT := Lib.hid (show j + 1 < at' ∧ at' ≤ s.length by
              have := pV_lt hr
              rw [List.length_drop, List.length_drop] at this
              exact ⟨by omega, hle⟩)
            have b9 : Below w8.heap.size w8 (w8.alloc (.cells #[.int .i64 v.kd, .bool v.is, .int .i64 v.n, .string ⟨v.s.toArray⟩, .slice A nl cl, .slice B nm cm] 25)) := (Below.refl _ _).alloc (Nat.le_refl _) _
            have H9 := Lib.hid (show MSt acc w B9 c9 (w8.alloc (.cells #[.int .i64 v.kd, .bool v.is, .int .i64 v.n, .string ⟨v.s.toArray⟩, .slice A nl cl, .slice B nm cm] 25)) ∧ Blk (w8.alloc (.cells #[.int .i64 v.kd, .bool v.is, .int .i64 v.n, .string ⟨v.s.toArray⟩, .slice A nl cl, .slice B nm cm] 25)) w8.heap.size 25 [.int .i64 v.kd, .bool v.is, .int .i64 v.n, .string ⟨v.s.toArray⟩, .slice A nl cl, .slice B nm cm] ∧ VP (fun b => w.heap.size + 2 ≤ b ∧ b < (w8.alloc (.cells #[.int .i64 v.kd, .bool v.is, .int .i64 v.n, .string ⟨v.s.toArray⟩, .slice A nl cl, .slice B nm cm] 25)).heap.size) (w8.alloc (.cells #[.int .i64 v.kd, .bool v.is, .int .i64 v.n, .string ⟨v.s.toArray⟩, .slice A nl cl, .slice B nm cm] 25)) v A B nl cl nm cm from
              ⟨(HM7.out.later b8).later b9, Blk.new _ _ _, VNs.vp hv HM7.out.1.base b9⟩)
            clear b8 b9 hr hle hv
            go_upto_region 15 with fail
            refine wp_gen (fun W => MSt acc w B9 c9 W ∧ Blk W w8.heap.size 25 [.int .i64 v.kd, .bool v.is, .int .i64 v.n, .string ⟨v.s.toArray⟩, .slice A nl cl, .slice B nm cm] ∧ VP (fun b => w.heap.size + 2 ≤ b ∧ b < W.heap.size) W v A B nl cl nm cm) H9.out ?_
            clear H9
            rintro W9 h9
            have H9 := Lib.hid h9
            obtain ⟨c0, c1, c2, c3, c4, c5, g0, g1, g2, g3, g4, g5⟩ := cells6 h9.1.1.2.1
            obtain ⟨d0, d1, d2, d3, d4, d5, _⟩ := cells6 h9.2.1
            clear h9
            go_wp2_with fail
            refine (refwithP_calls (fun b => w.heap.size + 2 ≤ b ∧ b < W9.heap.size) acc B9 acc.ext c9 key v A B nl cl nm cm W9 (fun b hb => hb.2) H9.out.1.2.1 H9.out.1.2.2 H9.out.2.2 HQ2.out.2 (by have := HEX.out.1; omega)).mono ?_
            rintro e w12 ⟨⟨A2, c2', rfl, hr2, hj2⟩, b12⟩
            have hwi := with_ins acc key v HEX.out.2 HHK.out
            have hso := with_sort (key := key) (v := v) HEX.out.2
            rw [hwi] at hr2 hj2 hso
            rw [hwi]
            have H12 := Lib.hid (H9.out.1.put b12 hr2 hj2)
            have HSO := Lib.hid hso
            obtain ⟨e0, e1, e2, e3, e4, e5, f0, f1, f2, f3, f4, f5⟩ := cells6 (H9.out.1.1.later b12).2.1
            clear c0 c1 c2 c3 c4 c5 g0 g1 g2 g3 g4 g5 d0 d1 d2 d3 d4 d5 hr2 hj2 b12 hwi hso
            obtain ⟨acc', hacc⟩ : ∃ x, acc.ins key v = x := ⟨_, rfl⟩
            have HAX := Lib.hid (show acc'.ext = acc.ext + 1 by rw [← hacc]; exact ins_ext ..)
            rw [hacc] at HX H12 HSO
            rw [hacc]
            clear hacc
            go_upto_region 18 with fail
            refine wp_gen (fun W => MSt acc' w A2 c2' W) H12.out ?_
            clear H12 e0 e1 e2 e3 e4 e5 f0 f1 f2 f3 f4 f5 H9
            rintro W13 h13
            have H13 := Lib.hid h13
            clear h13
            go_wp2_with fail
            refine (refblank_calls s at' _ HS.out HAT.out.2).mono ?_
            rintro e w14 ⟨m2, rfl, m21, m22, m23, rfl⟩
            have HM := Lib.hid m23
            have HML2 := Lib.hid m22
            have HMA2 := Lib.hid m21
            have hm26 : m2 ≤ 65536 := Nat.le_trans m22 HS.out
            have hm2n : m2 ≤ n := by rw [← HN.out]; exact m22
            clear m21 m22 m23
            go_wp2_with fail
            refine (refhas_calls s [125] m2 _ HS.out HML2.out (by decide)).mono ?_
            rintro e w15 ⟨rfl, rfl⟩
            by_cases h2 : [125] <+: s.drop m2
            · rw [decide_eq_true h2]
              have HE := Lib.hid (tn_end (acc := acc') (deep := deep) HM.out HML2.out h2)
              have hmx : m2 + 1 ≤ n := by rw [← HN.out]; exact HE.out.2
              have hwr : IntKind.i64.wrap ((m2 : Int) + 1) = (m2 : Int) + 1 := IntWalk.i64_in _ (by omega)
              obtain ⟨c0, c1, c2, c3, c4, c5, g0, g1, g2, g3, g4, g5⟩ := cells6 H13.out.1.1
              obtain ⟨d0, d1, d2, d3, d4, d5, _⟩ := cells6 H13.out.1.2.1
              have HV := Lib.hid (VNs.tab H13.out)
              go_wp2_with fail
              exact bodyPost_ret (res_cell3 rfl _ ⟨w.heap.size, 0, none⟩ _ (.int .i64 ((m2 : Int) + 1)) (.int .i64 0) _ rfl rfl rfl (Blk.load (blk6 H13.out.1.1) _ Tryz.underlying25 rfl size_valS)) rfl ⟨H13.out.1.out, .inr ⟨mapV acc', m2 + 1, none, A2, 0, 0, acc'.ext, c2', HX.out.trans HE.out.1, HE.out.2, by push_cast; rfl, VNs.set6 HV.out rfl⟩⟩
            rw [decide_eq_false h2]
            go_wp2_with fail
            refine (refhas_calls s [44] m2 _ HS.out HML2.out (by decide)).mono ?_
            rintro e w16 ⟨rfl, rfl⟩
            by_cases h3 : [44] <+: s.drop m2
            · rw [decide_eq_true h3]
              have HE := Lib.hid (tn_go (acc := acc') (deep := deep) HM.out HML2.out h3)
              have hmx : m2 + 1 ≤ n := by rw [← HN.out]; exact HE.out.2
              have hmk : k < m2 := by have := HMA2.out; have := HAT.out.1; have := HJA.out; have := HMA.out; omega
              have hwr : IntKind.i64.wrap ((m2 : Int) + 1) = (m2 : Int) + 1 := IntWalk.i64_in _ (by omega)
              have HL9 := Lib.hid (show TSt s R deep at_ (m2 + 1) acc' w A2 c2' W13 from ⟨⟨by have := HATK.out.1; omega, HE.out.2, by rw [HAX.out]; have := HEX.out.1; omega⟩, HX.out.trans HE.out.1, HSO.out, H13.out⟩)
              go_wp2_with fail
              go_roundw
              case rel => exact ⟨m2 + 1, acc', _, _, by go_num, hmx, HL9⟩
              case measure => simp [intOf]; omega
            · rw [decide_eq_false h3]
              have HE := Lib.hid (tn_bad (acc := acc') (deep := deep) HM.out h2 h3)
              obtain ⟨c0, c1, c2, c3, c4, c5, g0, g1, g2, g3, g4, g5⟩ := cells6 H13.out.1.1
              go_wp2_with fail
              exact bodyPost_ret (res_cell3 rfl _ ⟨w.heap.size, 0, none⟩ _ (.int .i64 0) (.int .i64 4) _ rfl rfl rfl (Blk.load (blk6 H13.out.1.1) _ Tryz.underlying25 rfl size_valS)) rfl ⟨H13.out.1.out, .inl ⟨4, HX.out.trans HE.out, rfl⟩⟩
        · rw [decide_eq_false h1]
          have HE := Lib.hid (HP.out.trans (pk_bad HSC.out HHK.out HJ.out h1))
          have HC5 := Lib.hid HM7.out.1
          clear h1
          obtain ⟨c0, c1, c2, c3, c4, c5, g0, g1, g2, g3, g4, g5⟩ := cells6 HC5.out.1
          go_wp2_with fail
          exact bodyPost_ret (res_cell3 rfl _ ⟨w.heap.size, 0, none⟩ _ (.int .i64 0) (.int .i64 4) _ rfl rfl rfl (Blk.load (blk6 HC5.out.1) _ Tryz.underlying25 rfl size_valS)) rfl ⟨HC5.out.out, .inl ⟨4, HE.out, rfl⟩⟩
end Go.Proofs.YtajkgcmopmpihaaGreatDoor
namespace Go.Proofs.YtajkgcmopmpihaaGreatDoor
open Go.ChangeShapes Go.WideShapes Go.ChangeAt Go.RowKit Go.IntWalk
set_option linter.unusedVariables false
set_option maxRecDepth 100000
theorem refread_calls (base : Nat) (s : List UInt8) (hs : s.length ≤ 65536) : ∀ (N at_ deep : Nat) (w : World), s.length - at_ ≤ N → at_ ≤ s.length → deep ≤ 32 → Wk base w →
    Calls Tryz.prog 25 #[.string ⟨s.toArray⟩, .int .i64 (at_ : Int), .int .i64 (deep : Int)] w (TRes s (pV deep (s.drop at_)) w) := by
  intro N
  induction N with
  | zero =>
    intro at_ deep w hN ha hd hW
    exact reftk_calls base s at_ deep w hs ha hd hW (fun b w' h1 h2 _ _ => absurd h1 (by omega)) (fun b w' h1 h2 _ _ => absurd h1 (by omega))
  | succ N IH =>
    intro at_ deep w hN ha hd hW
    refine reftk_calls base s at_ deep w hs ha hd hW (fun b w' h1 h2 h3 hW' => ?_) (fun b w' h1 h2 h3 hW' => ?_)
    · have := reflist_calls base s b (deep + 1) w' hs h2 hW' (fun b2 w2 g1 g2 gW => IH b2 (deep + 1) w2 (by omega) g2 (by omega) gW)
      rw [show ((deep + 1 : Nat) : Int) = (deep : Int) + 1 from by push_cast; rfl] at this
      exact this
    · have := reftable_calls base s b (deep + 1) w' hs h2 hW' (fun b2 w2 g1 g2 gW => IH b2 (deep + 1) w2 (by omega) g2 (by omega) gW)
      rw [show ((deep + 1 : Nat) : Int) = (deep : Int) + 1 from by push_cast; rfl] at this
      exact this
def RPost (w : World) (s : List UInt8) (e : Ending) (w' : World) : Prop := ∃ A B nl cl nm cm, e = .returned (.tuple #[valC (parF s).1 A B nl cl nm cm, .int .i64 (parF s).2]) ∧ VNs w.heap.size w' (parF s).1 A B nl cl nm cm ∧ Below w.heap.size w w'
theorem fit_null : Fit nullJ.kd nullJ.n nullJ.s := ⟨by decide, by decide, by decide⟩
set_option maxHeartbeats 16000000 in
theorem refparse_calls (base : Nat) (s : List UInt8) (w : World) (hl : s.length ≤ 140737488355328) (hW : Wk base w) : Calls Tryz.prog 9 #[.string ⟨s.toArray⟩] w (RPost w s) := by
  obtain ⟨n, hn⟩ : ∃ n, s.length = n := ⟨_, rfl⟩
  have hsz : (⟨s.toArray⟩ : ByteArray).size = n := hn
  have HN := Lib.hid hn
  have HWW := Lib.hid hW
  have hn6 : n ≤ 140737488355328 := by rw [← hn]; exact hl
  have hz := Blk.new w [.int .i64 0, .bool false, .int .i64 0, .string ⟨#[]⟩, .slice none 0 0, .slice none 0 0] 25
  have hb0 := (Below.refl w.heap.size w).alloc (Nat.le_refl _) (.cells #[.int .i64 0, .bool false, .int .i64 0, .string ⟨#[]⟩, .slice none 0 0, .slice none 0 0] 25)
  have hsz1 : (w.alloc (.cells #[.int .i64 0, .bool false, .int .i64 0, .string ⟨#[]⟩, .slice none 0 0, .slice none 0 0] 25)).heap.size = w.heap.size + 1 := Array.size_push ..
  clear hl hn hW
  go_enter Tryz.func9, Tryz.ntmps9
  go_upto_region 1 with fail
  generalize w.alloc (.cells #[.int .i64 0, .bool false, .int .i64 0, .string ⟨#[]⟩, .slice none 0 0, .slice none 0 0] 25) = W1 at hz hb0 hsz1 ⊢
  have HC1 := Lib.hid (And.intro hz hb0)
  have HSZ := Lib.hid hsz1
  clear hz hb0 hsz1
  by_cases h6 : 65536 < n
  · have HP := Lib.hid (show parF s = (nullJ, 3) by unfold parF; rw [if_pos (by rw [HN.out]; exact h6)])
    have q1 : (65536 : Int) < (n : Int) := by omega
    have q2 : decide ((65536 : Int) < (n : Int)) = true := by simpa using q1
    clear h6
    obtain ⟨c0, c1, c2, c3, c4, c5, g0, g1, g2, g3, g4, g5⟩ := cells6 HC1.out.1
    go_wp2_with fail
    exact bodyPost_ret (res_cell2S rfl _ ⟨w.heap.size, 0, none⟩ _ (.int .i64 3) _ rfl rfl (Blk.load (blk6 HC1.out.1) _ Tryz.underlying25 rfl size_valS)) rfl ⟨none, none, 0, 0, 0, 0, by rw [HP.out]; rfl, by rw [HP.out]; exact VNs.leaf _ _ fit_null, below6 HC1.out.2 (Nat.le_refl _)⟩
  · have HP := Lib.hid (show parF s = (match pV 0 s with | .error e => (nullJ, e) | .ok p => if (skipB p.2).isEmpty then (p.1, 0) else (nullJ, 4)) by unfold parF; rw [if_neg (by rw [HN.out]; exact h6)]; rfl)
    have q1 : ¬ (65536 : Int) < (n : Int) := by omega
    have q2 : decide ((65536 : Int) < (n : Int)) = false := by simpa using q1
    have HS := Lib.hid (show s.length ≤ 65536 by rw [HN.out]; omega)
    have hc := refread_calls base s HS.out s.length 0 0 W1 (Nat.sub_le _ _) (Nat.zero_le _) (by decide) (HWW.out.later HC1.out.2)
    rw [List.drop_zero] at hc
    have HC := Lib.hid hc
    clear h6 hc
    go_wp2_with fail
    refine HC.out.mono ?_
    rintro e w5 ⟨b5, hR⟩
    rcases hR with ⟨c, hr, rfl⟩ | ⟨v, at', A, B, nl, cl, nm, cm, hr, hle, rfl, hv⟩
    · have HE := Lib.hid (show parF s = (nullJ, c) by rw [HP.out, hr])
      have q3 : (c != 0) = true := by rw [bne_iff_ne]; exact fun e => pV_ne0 _ _ (e ▸ hr)
      have q4 : (c == 0) = false := by simpa using q3
      have H5 := Lib.hid (And.intro ((HC1.out.1.later b5).alloc (.cells #[.int .i64 0, .bool false, .int .i64 0, .string ⟨#[]⟩, .slice none 0 0, .slice none 0 0] 25)) ((HC1.out.2.trans (b5.mono HC1.out.2.size)).alloc (Nat.le_trans HC1.out.2.size b5.size) (.cells #[.int .i64 0, .bool false, .int .i64 0, .string ⟨#[]⟩, .slice none 0 0, .slice none 0 0] 25)))
      clear b5 hr
      go_upto_region 4 with fail
      refine wp_gen (fun W => Blk W w.heap.size 25 [.int .i64 0, .bool false, .int .i64 0, .string ⟨#[]⟩, .slice none 0 0, .slice none 0 0] ∧ Below w.heap.size w W) H5.out ?_
      clear H5
      rintro W6 h6
      have H6 := Lib.hid h6
      clear h6
      obtain ⟨c0, c1, c2, c3, c4, c5, g0, g1, g2, g3, g4, g5⟩ := cells6 H6.out.1
      go_wp2_with fail
      exact bodyPost_ret (res_cell2S rfl _ ⟨w.heap.size, 0, none⟩ _ (.int .i64 c) _ rfl rfl (Blk.load (blk6 H6.out.1) _ Tryz.underlying25 rfl size_valS)) rfl ⟨none, none, 0, 0, 0, 0, by rw [HE.out]; rfl, by rw [HE.out]; exact VNs.leaf _ _ fit_null, below6 H6.out.2 (Nat.le_refl _)⟩
    · have HE := Lib.hid (show parF s = (if (skipB (s.drop at')).isEmpty then (v, 0) else (nullJ, 4)) by rw [HP.out, hr])
      have HAT := Lib.hid hle
      have b6 : Below w5.heap.size w5 (w5.alloc (.cells #[.int .i64 v.kd, .bool v.is, .int .i64 v.n, .string ⟨v.s.toArray⟩, .slice A nl cl, .slice B nm cm] 25)) := (Below.refl _ _).alloc (Nat.le_refl _) _
      have H5 := Lib.hid (show Blk (w5.alloc (.cells #[.int .i64 v.kd, .bool v.is, .int .i64 v.n, .string ⟨v.s.toArray⟩, .slice A nl cl, .slice B nm cm] 25)) w.heap.size 25 [.int .i64 0, .bool false, .int .i64 0, .string ⟨#[]⟩, .slice none 0 0, .slice none 0 0] ∧ Below w.heap.size w (w5.alloc (.cells #[.int .i64 v.kd, .bool v.is, .int .i64 v.n, .string ⟨v.s.toArray⟩, .slice A nl cl, .slice B nm cm] 25)) ∧ Blk (w5.alloc (.cells #[.int .i64 v.kd, .bool v.is, .int .i64 v.n, .string ⟨v.s.toArray⟩, .slice A nl cl, .slice B nm cm] 25)) w5.heap.size 25 [.int .i64 v.kd, .bool v.is, .int .i64 v.n, .string ⟨v.s.toArray⟩, .slice A nl cl, .slice B nm cm] ∧ VNs (w.heap.size + 1) (w5.alloc (.cells #[.int .i64 v.kd, .bool v.is, .int .i64 v.n, .string ⟨v.s.toArray⟩, .slice A nl cl, .slice B nm cm] 25)) v A B nl cl nm cm from
        ⟨(HC1.out.1.later b5).later b6, (HC1.out.2.then_ b5).then_ b6, Blk.new _ _ _, by rw [← HSZ.out]; exact ⟨hv.1, hv.2.1, hv.2.2.1.stay (fun b' o hb => b6.cell (p := ⟨b', o, none⟩) hb.2) (fun b' hb => ⟨hb.1, Nat.lt_of_lt_of_le hb.2 b6.size⟩), hv.2.2.2.1.stay (fun b' o hb => b6.cell (p := ⟨b', o, none⟩) hb.2) (fun b' hb => ⟨hb.1, Nat.lt_of_lt_of_le hb.2 b6.size⟩), hv.2.2.2.2⟩⟩)
      clear b5 b6 hr hle hv
      go_upto_region 4 with fail
      refine wp_gen (fun W => Blk W w.heap.size 25 [.int .i64 0, .bool false, .int .i64 0, .string ⟨#[]⟩, .slice none 0 0, .slice none 0 0] ∧ Below w.heap.size w W ∧ Blk W w5.heap.size 25 [.int .i64 v.kd, .bool v.is, .int .i64 v.n, .string ⟨v.s.toArray⟩, .slice A nl cl, .slice B nm cm] ∧ VNs (w.heap.size + 1) W v A B nl cl nm cm) H5.out ?_
      clear H5
      rintro W6 h6
      have H6 := Lib.hid h6
      clear h6
      go_wp2_with fail
      refine (refblank_calls s at' _ HS.out HAT.out).mono ?_
      rintro e w7 ⟨k, rfl, k1, k2, k3, rfl⟩
      have hkn : k ≤ n := by rw [← HN.out]; exact k2
      have HK := Lib.hid k3
      clear k1 k2 k3
      obtain ⟨c0, c1, c2, c3, c4, c5, g0, g1, g2, g3, g4, g5⟩ := cells6 H6.out.1
      obtain ⟨d0, d1, d2, d3, d4, d5, _⟩ := cells6 H6.out.2.2.1
      by_cases hlt : k < n
      · have q3 : (k : Int) < (n : Int) := by omega
        have q4 : decide ((k : Int) < (n : Int)) = true := by simpa using q3
        have HE2 := Lib.hid (show parF s = (nullJ, 4) by
          rw [HE.out, ← HK.out, List.drop_eq_getElem_cons (by rw [HN.out]; exact hlt)]; rfl)
        clear hlt
        go_wp2_with fail
        exact bodyPost_ret (res_cell2S rfl _ ⟨w.heap.size, 0, none⟩ _ (.int .i64 4) _ rfl rfl (Blk.load (blk6 H6.out.1) _ Tryz.underlying25 rfl size_valS)) rfl ⟨none, none, 0, 0, 0, 0, by rw [HE2.out]; rfl, by rw [HE2.out]; exact VNs.leaf _ _ fit_null, below6 H6.out.2.1 (Nat.le_refl _)⟩
      · have q3 : ¬ (k : Int) < (n : Int) := by omega
        have q4 : decide ((k : Int) < (n : Int)) = false := by simpa using q3
        have HE2 := Lib.hid (show parF s = (v, 0) by
          rw [HE.out, ← HK.out, List.drop_eq_nil_of_le (by rw [HN.out]; omega)]; rfl)
        clear hlt
        go_wp2_with fail
        exact bodyPost_ret (res_cell2S rfl _ ⟨w.heap.size, 0, none⟩ _ (.int .i64 0) _ rfl rfl (Blk.load (blk6 H6.out.1) _ Tryz.underlying25 rfl size_valS)) rfl ⟨A, B, nl, cl, nm, cm, by rw [HE2.out]; rfl, by rw [HE2.out]; exact VNs.set6 H6.out.2.2.2 rfl, below6 H6.out.2.1 (Nat.le_refl _)⟩
end Go.Proofs.YtajkgcmopmpihaaGreatDoor
