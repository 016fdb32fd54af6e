/- Texts put together: Js7 JsF JsP JsK. -/
import Derived.Test.YtajkgcmopmpihaaGreatDoorY25effe1c4c
import Derived.Test.YtajkgcmopmpihaaGreatDoorY15ea474c78
import Derived.Test.YtajkgcmopmpihaaGreatDoorYd56e8cdc81
import Derived.Test.YtajkgcmopmpihaaGreatDoorYa5abd111d9
import Derived.Test.YtajkgcmopmpihaaGreatDoorYcc81974a9e
import Derived.Test.YtajkgcmopmpihaaGreatDoorY64d2f56d23
import Derived.Test.YtajkgcmopmpihaaGreatDoorYbc60d53a70
import Derived.Test.YtajkgcmopmpihaaGreatDoorY6376f27b79
import Derived.Test.YtajkgcmopmpihaaGreatDoorYd7ba4700c6
namespace Go.Proofs.YtajkgcmopmpihaaGreatDoor
open Go.ChangeShapes Go.WideShapes Go.ChangeAt Go.RowKit Go.IntWalk
set_option linter.unusedVariables false
set_option maxRecDepth 100000
def CSt (w : World) (kd : Int) (L M : Value) (W : World) : Prop := Blk W w.heap.size 25 [.int .i64 0, .bool false, .int .i64 0, .string ⟨#[]⟩, .slice none 0 0, .slice none 0 0] ∧ Blk W (w.heap.size + 1) 25 [.int .i64 kd, .bool false, .int .i64 0, .string ⟨#[]⟩, L, M] ∧ Below w.heap.size w W
theorem CSt.later {w : World} {kd : Int} {L M : Value} {W W' : World} (h : CSt w kd L M W) (b : Below W.heap.size W W') : CSt w kd L M W' := ⟨h.1.later b, h.2.1.later b, h.2.2.then_ b⟩
theorem CSt.base {w : World} {kd : Int} {L M : Value} {W : World} (h : CSt w kd L M W) : w.heap.size + 2 ≤ W.heap.size := h.2.1.lt
theorem CSt.lst {w : World} {kd : Int} {L M L' : Value} {W : World} (h : CSt w kd L M W) : CSt w kd L' M (W.setCell ⟨w.heap.size + 1, 4, none⟩ L') :=
  ⟨h.1.far (by omega) _ _, h.2.1.set_ 4 _, h.2.2.setCell (p := ⟨w.heap.size + 1, 4, none⟩) (Nat.le_succ _) _⟩
theorem CSt.tab {w : World} {kd : Int} {L M M' : Value} {W : World} (h : CSt w kd L M W) : CSt w kd L M' (W.setCell ⟨w.heap.size + 1, 5, none⟩ M') :=
  ⟨h.1.far (by omega) _ _, h.2.1.set_ 5 _, h.2.2.setCell (p := ⟨w.heap.size + 1, 5, none⟩) (Nat.le_succ _) _⟩
theorem CSt.start {w W1 : World} (kd : Int) (h0 : Blk W1 w.heap.size 25 [.int .i64 0, .bool false, .int .i64 0, .string ⟨#[]⟩, .slice none 0 0, .slice none 0 0]) (hs : W1.heap.size = w.heap.size + 1) (hb : Below w.heap.size w W1) :
    CSt w kd (.slice none 0 0) (.slice none 0 0) (W1.alloc (.cells #[.int .i64 kd, .bool false, .int .i64 0, .string ⟨#[]⟩, .slice none 0 0, .slice none 0 0] 25)) := by
  have hz := Blk.new W1 [.int .i64 kd, .bool false, .int .i64 0, .string ⟨#[]⟩, .slice none 0 0, .slice none 0 0] 25
  have b1 := (Below.refl W1.heap.size W1).alloc (Nat.le_refl _) (.cells #[.int .i64 kd, .bool false, .int .i64 0, .string ⟨#[]⟩, .slice none 0 0, .slice none 0 0] 25)
  rw [hs] at hz
  exact ⟨h0.later b1, hz, hb.then_ b1⟩
theorem CSt.new {w : World} {kd : Int} {L M : Value} {W : World} (h : CSt w kd L M W) (o : Obj) : CSt w kd L M (W.alloc o) := h.later ((Below.refl _ _).alloc (Nat.le_refl _) _)
theorem CSt.out {w : World} {kd : Int} {L M : Value} {W : World} {x0 x1 x2 x3 x4 x5 : Value} (h : CSt w kd L M W) : Below w.heap.size w (set6 W w.heap.size x0 x1 x2 x3 x4 x5) := below6 h.2.2 (Nat.le_refl _)
theorem VNs.lst {w W : World} {A : Option Addr} {n c : Nat} {acc : JT} (h : RowJ (w.heap.size + 2) false W (.slice A n c) acc n) (hn : n = acc.ext) (he : acc.ext ≤ 140737488355328) : VNs (w.heap.size + 1) W (lstV acc) A none n c 0 0 := by
  subst hn
  obtain ⟨A', c', e, h1, h2⟩ := h.done he
  injection e with e1 e2 e3
  subst e1 e3
  exact ⟨h1, ⟨rfl, Nat.le_refl _, by decide⟩, h2.stay (fun _ _ _ => rfl) (fun b hb => ⟨by have := hb.1; omega, hb.2⟩), .inl rfl, (show Fit 4 0 [] from ⟨by decide, by decide, by decide⟩)⟩
def LSt (s : List UInt8) (R : PRes) (deep at_ k : Nat) (acc : JT) (w : World) (L : Value) (W : World) : Prop :=
  (at_ ≤ k ∧ k ≤ s.length ∧ acc.ext ≤ k) ∧ R = pL acc deep (s.drop k) ∧ CSt w 4 L (.slice none 0 0) W ∧ RowJ (w.heap.size + 2) false W L acc acc.ext
set_option maxHeartbeats 16000000 in
theorem reflist_calls (base : Nat) (s : List UInt8) (at_ deep : Nat) (w : World) (hs : s.length ≤ 65536) (ha : at_ ≤ s.length) (hW : Wk base w)
    (HK : ∀ (b : Nat) (w : World), at_ ≤ b → b ≤ s.length → Wk base w → Calls Tryz.prog 25 #[.string ⟨s.toArray⟩, .int .i64 (b : Int), .int .i64 (deep : Int)] w (TRes s (pV deep (s.drop b)) w)) :
    Calls Tryz.prog 40 #[.string ⟨s.toArray⟩, .int .i64 (at_ : Int), .int .i64 (deep : Int)] w (TRes s (listF deep (s.drop at_)) w) := by
  obtain ⟨n, hn⟩ : ∃ n, s.length = n := ⟨_, rfl⟩
  have hsz : (⟨s.toArray⟩ : ByteArray).size = n := hn
  have HS := Lib.hid hs
  have HN := Lib.hid hn
  have HA := Lib.hid ha
  have hn6 : n ≤ 65536 := by rw [← hn]; exact hs
  have HKK := Lib.hid HK
  have HWW := Lib.hid hW
  have hz := Blk.new w [.int .i64 0, .bool false, .int .i64 0, .string ⟨#[]⟩, .slice none 0 0, .slice none 0 0] 25
  have hb0 := (Below.refl w.heap.size w).alloc (Nat.le_refl _) (.cells #[.int .i64 0, .bool false, .int .i64 0, .string ⟨#[]⟩, .slice none 0 0, .slice none 0 0] 25)
  have hsz1 : (w.alloc (.cells #[.int .i64 0, .bool false, .int .i64 0, .string ⟨#[]⟩, .slice none 0 0, .slice none 0 0] 25)).heap.size = w.heap.size + 1 := Array.size_push ..
  obtain ⟨R, hR⟩ : ∃ R, listF deep (s.drop at_) = R := ⟨_, rfl⟩
  have HR := Lib.hid hR
  rw [hR]
  clear hs ha hn hW HK hR
  go_enter Tryz.func40, Tryz.ntmps40
  go_upto_region 1 with fail
  generalize w.alloc (.cells #[.int .i64 0, .bool false, .int .i64 0, .string ⟨#[]⟩, .slice none 0 0, .slice none 0 0] 25) = W1 at hz hb0 hsz1 ⊢
  have HC0 := Lib.hid (CSt.start 4 hz hsz1 hb0)
  have HSZ := Lib.hid hsz1
  clear hz hb0 hsz1
  go_upto_region 2 with fail
  rw [HSZ.out]
  refine wp_gen (fun W => CSt w 4 (.slice none 0 0) (.slice none 0 0) W) HC0.out ?_
  clear HC0 HSZ
  clear W1
  rintro W1 hc1
  have HC := Lib.hid hc1
  clear hc1
  go_wp2_with fail
  refine (refblank_calls s at_ _ HS.out HA.out).mono ?_
  rintro e w2 ⟨k, rfl, k1, k2, k3, rfl⟩
  have HK := Lib.hid k3
  have HKL := Lib.hid k2
  have HKA := Lib.hid k1
  have hk6 : k ≤ 65536 := Nat.le_trans k2 HS.out
  have hkn : k ≤ n := by rw [← HN.out]; exact k2
  clear k1 k2 k3
  go_wp2_with fail
  refine (refhas_calls s [93] k _ HS.out HKL.out (by decide)).mono ?_
  rintro e w11 ⟨rfl, rfl⟩
  by_cases h1 : [93] <+: s.drop k
  · rw [decide_eq_true h1]
    have HE := Lib.hid (lst_end (deep := deep) HK.out HKL.out h1)
    have hkx : k + 1 ≤ n := by rw [← HN.out]; exact HE.out.2
    have hwr : IntKind.i64.wrap ((k : Int) + 1) = (k : Int) + 1 := IntWalk.i64_in _ (by omega)
    obtain ⟨c0, c1, c2, c3, c4, c5, g0, g1, g2, g3, g4, g5⟩ := cells6 HC.out.1
    obtain ⟨d0, d1, d2, d3, d4, d5, _⟩ := cells6 HC.out.2.1
    go_wp2_with fail
    exact bodyPost_ret (res_cell3 rfl _ ⟨w.heap.size, 0, none⟩ _ (.int .i64 ((k : Int) + 1)) (.int .i64 0) _ rfl rfl rfl (Blk.load (blk6 HC.out.1) _ Tryz.underlying25 rfl size_valS)) rfl ⟨HC.out.out, .inr ⟨lstV .nil, k + 1, none, none, 0, 0, 0, 0, HR.out.symm.trans HE.out.1, HE.out.2, by push_cast; rfl, VNs.leaf _ _ ⟨(show (-9223372036854775808 : Int) ≤ 4 ∧ (4 : Int) ≤ 9223372036854775807 by decide), (show (-9223372036854775808 : Int) ≤ 0 ∧ (0 : Int) ≤ 9223372036854775807 by decide), Nat.zero_le _⟩⟩⟩
  rw [decide_eq_false h1]
  have HL0 := Lib.hid (show LSt s R deep at_ k .nil w (.slice none 0 0) W1 from ⟨⟨HKA.out, HKL.out, Nat.zero_le _⟩, HR.out.symm.trans (lst_go HK.out h1), HC.out, RowJ.nil _ _ _ _⟩)
  clear HC HK HKL HKA HR h1
  go_wp2_with fail
  go_loopw [1] (fun i wr => ∃ (k : Nat) (acc : JT) (L : Value), i = .int .i64 (k : Int) ∧ k ≤ n ∧ Hid (LSt s R deep at_ k acc w L wr)) (fun i _ => n + 1 - (intOf i).toNat)
  case atStart => exact ⟨k, .nil, _, rfl, hkn, HL0⟩
  case round =>
    obtain ⟨k, acc, L, rfl, hkn, hL⟩ := hrel
    obtain ⟨A9, c9, rfl⟩ := hL.out.2.2.2.sl
    have HWr := Lib.hid (HWW.out.later hL.out.2.2.1.2.2)
    have hc := HKK.out k wr hL.out.1.1 hL.out.1.2.1 HWr.out
    have HC := Lib.hid hc
    clear hc
    go_wp2_with fail
    refine HC.out.mono ?_
    rintro e w5 ⟨b5, hR⟩
    rcases hR with ⟨c, hr, rfl⟩ | ⟨v, at', A, B, nl, cl, nm, cm, hr, hle, rfl, hv⟩
    · have HE := Lib.hid (show R = .error c by rw [hL.out.2.1, pL_eq, hr]; rfl)
      have q1 : (c != 0) = true := by rw [bne_iff_ne]; exact fun e => pV_ne0 _ _ (e ▸ hr)
      have HC5 := Lib.hid ((hL.out.2.2.1.later b5).new (.cells #[.int .i64 0, .bool false, .int .i64 0, .string ⟨#[]⟩, .slice none 0 0, .slice none 0 0] 25))
      clear b5 hr hL
      go_upto_region 6 with fail
      refine wp_gen (fun W => CSt w 4 (.slice A9 acc.ext c9) (.slice none 0 0) W) HC5.out ?_
      clear HC5
      rintro W6 h6
      have HC6 := Lib.hid h6
      obtain ⟨c0, c1, c2, c3, c4, c5, g0, g1, g2, g3, g4, g5⟩ := cells6 h6.1
      clear h6
      go_wp2_with fail
      exact bodyPost_ret (res_cell3 rfl _ ⟨w.heap.size, 0, none⟩ _ (.int .i64 0) (.int .i64 c) _ rfl rfl rfl (Blk.load (blk6 HC6.out.1) _ Tryz.underlying25 rfl size_valS)) rfl ⟨HC6.out.out, .inl ⟨c, HE.out, rfl⟩⟩
    · have HX := Lib.hid (show R = pLn (acc.snoc [] v) deep (s.drop at') by rw [hL.out.2.1, pL_eq, hr]; rfl)
      have HAT := Lib.hid (show k < at' ∧ at' ≤ s.length by
        have := pV_lt hr
        rw [List.length_drop, List.length_drop] at this
        exact ⟨by omega, hle⟩)
      have HEX := Lib.hid (show acc.ext ≤ k from hL.out.1.2.2)
      have HATK := Lib.hid (show at_ ≤ k from hL.out.1.1)
      have b6 : Below wr.heap.size wr (w5.alloc (.cells #[.int .i64 v.kd, .bool v.is, .int .i64 v.n, .string ⟨v.s.toArray⟩, .slice A nl cl, .slice B nm cm] 25)) := b5.alloc b5.size _
      have HS6 := Lib.hid (show CSt w 4 (.slice A9 acc.ext c9) (.slice none 0 0) (w5.alloc (.cells #[.int .i64 v.kd, .bool v.is, .int .i64 v.n, .string ⟨v.s.toArray⟩, .slice A nl cl, .slice B nm cm] 25)) ∧
        RowJ (w.heap.size + 2) false (w5.alloc (.cells #[.int .i64 v.kd, .bool v.is, .int .i64 v.n, .string ⟨v.s.toArray⟩, .slice A nl cl, .slice B nm cm] 25)) (.slice A9 acc.ext c9) (acc.snoc [] v) acc.ext ∧
        Blk (w5.alloc (.cells #[.int .i64 v.kd, .bool v.is, .int .i64 v.n, .string ⟨v.s.toArray⟩, .slice A nl cl, .slice B nm cm] 25)) w5.heap.size 25 [.int .i64 v.kd, .bool v.is, .int .i64 v.n, .string ⟨v.s.toArray⟩, .slice A nl cl, .slice B nm cm] ∧
        JCs (fun b => wr.heap.size ≤ b ∧ b < (w5.alloc (.cells #[.int .i64 v.kd, .bool v.is, .int .i64 v.n, .string ⟨v.s.toArray⟩, .slice A nl cl, .slice B nm cm] 25)).heap.size) (w5.alloc (.cells #[.int .i64 v.kd, .bool v.is, .int .i64 v.n, .string ⟨v.s.toArray⟩, .slice A nl cl, .slice B nm cm] 25)) [.int .i64 v.kd, .bool v.is, .int .i64 v.n, .string ⟨v.s.toArray⟩, .slice A nl cl, .slice B nm cm] ((acc.snoc [] v).fall acc.ext).val ∧
        wr.heap.size ≤ (w5.alloc (.cells #[.int .i64 v.kd, .bool v.is, .int .i64 v.n, .string ⟨v.s.toArray⟩, .slice A nl cl, .slice B nm cm] 25)).heap.size from
        ⟨hL.out.2.2.1.later b6, (hL.out.2.2.2.below b6).snoc, Blk.new _ _ _, by
          rw [(snoc_at acc [] v).2]
          exact (show VNew wr.heap.size w5 v A B nl cl nm cm from hv).cs.stay (fun b o hb => ((Below.refl w5.heap.size w5).alloc (Nat.le_refl _) _).cell (p := ⟨b, o, none⟩) hb.2) (fun b hb => ⟨hb.1, by have := hb.2; simp; omega⟩), b6.size⟩)
      have HO := Lib.hid (show (∀ b, (Value.slice A9 acc.ext c9).ownBlock = some b → b < wr.heap.size) ∧ w.heap.size + 2 ≤ wr.heap.size from ⟨fun b e => (hL.out.2.2.2.lt b e).2, hL.out.2.2.1.base⟩)
      have hk6 : acc.ext ≤ 1000000 := by have := HEX.out; omega
      clear b5 hr hL hv hle b6
      go_upto_region 6 with fail
      refine wp_gen (fun W => CSt w 4 (.slice A9 acc.ext c9) (.slice none 0 0) W ∧ RowJ (w.heap.size + 2) false W (.slice A9 acc.ext c9) (acc.snoc [] v) acc.ext ∧ Blk W w5.heap.size 25 [.int .i64 v.kd, .bool v.is, .int .i64 v.n, .string ⟨v.s.toArray⟩, .slice A nl cl, .slice B nm cm] ∧
        JCs (fun b => wr.heap.size ≤ b ∧ b < W.heap.size) W [.int .i64 v.kd, .bool v.is, .int .i64 v.n, .string ⟨v.s.toArray⟩, .slice A nl cl, .slice B nm cm] ((acc.snoc [] v).fall acc.ext).val ∧ wr.heap.size ≤ W.heap.size) HS6.out ?_
      clear HS6
      rintro W6 h6
      have H6 := Lib.hid h6
      obtain ⟨c0, c1, c2, c3, c4, c5, g0, g1, g2, g3, g4, g5⟩ := cells6 h6.1.2.1
      obtain ⟨d0, d1, d2, d3, d4, d5, _⟩ := cells6 h6.2.2.1
      clear h6
      have hb2 := H6.out.1.base
      go_wp2_with (at_builtin; refine wpList_append_row false rfl _ _ rfl (w.heap.size + 2) wr.heap.size (.slice A9 acc.ext c9) (acc.snoc [] v) acc.ext rfl H6.out.2.1 hk6 HO.out.2 HO.out.1 H6.out.2.2.2.2 [.int .i64 v.kd, .bool v.is, .int .i64 v.n, .string ⟨v.s.toArray⟩, .slice A nl cl, .slice B nm cm] (snoc_at acc [] v).1 _ _ rfl rfl rfl H6.out.2.2.2.1 ?_; intro A7 c7 w7 h7 g7; have b7 := RowJ.grown (Below.refl (w.heap.size + 2) W6) H6.out.2.1 g7 hb2; have H8 := Lib.hid (show CSt w 4 (.slice A9 acc.ext c9) (.slice none 0 0) w7 from ⟨H6.out.1.1.below b7 (by omega), H6.out.1.2.1.below b7 (by omega), H6.out.1.2.2.trans (b7.mono (by omega))⟩); obtain ⟨e0, e1, e2, e3, e4, e5, f0, f1, f2, f3, f4, f5⟩ := cells6 H8.out.2.1)
      have H9 := Lib.hid (show CSt w 4 (.slice A7 (acc.ext + 1) c7) (.slice none 0 0) (w7.setCell ⟨w.heap.size + 1, 4, none⟩ (.slice A7 (acc.ext + 1) c7)) ∧ RowJ (w.heap.size + 2) false (w7.setCell ⟨w.heap.size + 1, 4, none⟩ (.slice A7 (acc.ext + 1) c7)) (.slice A7 (acc.ext + 1) c7) (acc.snoc [] v) (acc.ext + 1) from ⟨H8.out.lst, h7.far (by omega)⟩)
      clear c0 c1 c2 c3 c4 c5 g0 g1 g2 g3 g4 g5 d0 d1 d2 d3 d4 d5 e0 e1 e2 e3 e4 e5 f0 f1 f2 f3 f4 f5 h7 g7 b7 H8 H6 hb2 HO
      generalize w7.setCell ⟨w.heap.size + 1, 4, none⟩ (.slice A7 (acc.ext + 1) c7) = W9 at H9 ⊢
      refine (refblank_calls s at' _ HS.out HAT.out.2).mono ?_
      rintro e w10 ⟨m, rfl, m1, m2, m3, rfl⟩
      have HM := Lib.hid m3
      have HML := Lib.hid m2
      have HMA := Lib.hid m1
      have hm6 : m ≤ 65536 := Nat.le_trans m2 HS.out
      have hmn : m ≤ n := by rw [← HN.out]; exact m2
      clear m1 m2 m3
      go_wp2_with fail
      refine (refhas_calls s [93] m _ HS.out HML.out (by decide)).mono ?_
      rintro e w11 ⟨rfl, rfl⟩
      by_cases h1 : [93] <+: s.drop m
      · rw [decide_eq_true h1]
        have HE := Lib.hid (ln_end (acc := acc.snoc [] v) (deep := deep) HM.out HML.out h1)
        have hmx : m + 1 ≤ n := by rw [← HN.out]; exact HE.out.2
        have hwr : IntKind.i64.wrap ((m : Int) + 1) = (m : Int) + 1 := IntWalk.i64_in _ (by omega)
        obtain ⟨c0, c1, c2, c3, c4, c5, g0, g1, g2, g3, g4, g5⟩ := cells6 H9.out.1.1
        obtain ⟨d0, d1, d2, d3, d4, d5, _⟩ := cells6 H9.out.1.2.1
        have HV := Lib.hid (VNs.lst H9.out.2 (snoc_ext acc [] v).symm (by rw [snoc_ext]; omega))
        go_wp2_with fail
        exact bodyPost_ret (res_cell3 rfl _ ⟨w.heap.size, 0, none⟩ _ (.int .i64 ((m : Int) + 1)) (.int .i64 0) _ rfl rfl rfl (Blk.load (blk6 H9.out.1.1) _ Tryz.underlying25 rfl size_valS)) rfl ⟨H9.out.1.out, .inr ⟨lstV (acc.snoc [] v), m + 1, A7, none, acc.ext + 1, c7, 0, 0, HX.out.trans HE.out.1, HE.out.2, by push_cast; rfl, VNs.set6 HV.out rfl⟩⟩
      rw [decide_eq_false h1]
      go_wp2_with fail
      refine (refhas_calls s [44] m _ HS.out HML.out (by decide)).mono ?_
      rintro e w12 ⟨rfl, rfl⟩
      by_cases h2 : [44] <+: s.drop m
      · rw [decide_eq_true h2]
        have HE := Lib.hid (ln_go (acc := acc.snoc [] v) (deep := deep) HM.out HML.out h2)
        have hmx : m + 1 ≤ n := by rw [← HN.out]; exact HE.out.2
        have hmk : k < m := by have := HMA.out; have := HAT.out.1; omega
        have hwr : IntKind.i64.wrap ((m : Int) + 1) = (m : Int) + 1 := IntWalk.i64_in _ (by omega)
        have HL9 := Lib.hid (show LSt s R deep at_ (m + 1) (acc.snoc [] v) w (.slice A7 (acc.ext + 1) c7) W9 from ⟨⟨by have := HATK.out; omega, HE.out.2, by rw [snoc_ext]; have := HEX.out; omega⟩, HX.out.trans HE.out.1, H9.out.1, by rw [snoc_ext]; exact H9.out.2⟩)
        go_wp2_with fail
        go_roundw
        case rel => exact ⟨m + 1, acc.snoc [] v, _, by go_num, hmx, HL9⟩
        case measure => simp [intOf]; omega
      · rw [decide_eq_false h2]
        have HE := Lib.hid (ln_bad (acc := acc.snoc [] v) (deep := deep) HM.out h1 h2)
        obtain ⟨c0, c1, c2, c3, c4, c5, g0, g1, g2, g3, g4, g5⟩ := cells6 H9.out.1.1
        go_wp2_with fail
        exact bodyPost_ret (res_cell3 rfl _ ⟨w.heap.size, 0, none⟩ _ (.int .i64 0) (.int .i64 4) _ rfl rfl rfl (Blk.load (blk6 H9.out.1.1) _ Tryz.underlying25 rfl size_valS)) rfl ⟨H9.out.1.out, .inl ⟨4, HX.out.trans HE.out, rfl⟩⟩
end Go.Proofs.YtajkgcmopmpihaaGreatDoor
namespace Go.Proofs.YtajkgcmopmpihaaGreatDoor
open Go.ChangeShapes Go.WideShapes Go.ChangeAt Go.RowKit Go.IntWalk
set_option linter.unusedVariables false
theorem findS_step (t : JT) (i : Nat) (key : List UInt8) (h : i < t.ext) : (t.fall i).findV key = if (t.fall i).key = key then some (t.fall i).val else (t.fall (i + 1)).findV key := by
  conv => lhs; rw [t.fall_of_lt i h]
  rfl
theorem findS_end (t : JT) (key : List UInt8) : (t.fall t.ext).findV key = none := by rw [JT.fall_all t _ (Nat.le_refl _)]; rfl
def VOkBS (base : Nat) (w : World) (v : Jv) (A B : Option Addr) (nl cl nm cm : Nat) : Prop := Room nl cl v.l.ext ∧ Room nm cm v.m.ext ∧ JSl (· < base) w false A v.l ∧ JSl (· < base) w true B v.m ∧ Fit v.kd v.n v.s
theorem VOkBS.blw {base : Nat} {w w' : World} {v : Jv} {A B : Option Addr} {nl cl nm cm : Nat} (h : VOkBS base w v A B nl cl nm cm) (b : Below base w w') : VOkBS base w' v A B nl cl nm cm := ⟨h.1, h.2.1, h.2.2.1.blw b, h.2.2.2.1.blw b, h.2.2.2.2⟩
theorem VOkBS.ok {base : Nat} {w : World} {v : Jv} {A B : Option Addr} {nl cl nm cm : Nat} (h : VOkBS base w v A B nl cl nm cm) (hb : base ≤ w.heap.size) : VOk w v A B nl cl nm cm :=
  ⟨h.1, h.2.1, h.2.2.1.stay (fun _ _ _ => rfl) (fun x hx => Nat.lt_of_lt_of_le hx hb), h.2.2.2.1.stay (fun _ _ _ => rfl) (fun x hx => Nat.lt_of_lt_of_le hx hb), h.2.2.2.2⟩
theorem nullBS_ok (base : Nat) (w : World) : VOkBS base w nullV none none 0 0 0 0 := ⟨⟨rfl, Nat.le_refl _, by decide⟩, ⟨rfl, Nat.le_refl _, by decide⟩, .inl rfl, .inl rfl, by unfold Fit nullV; decide⟩
def FResS (base : Nat) (o : Option Jv) (w : World) (e : Ending) (w' : World) : Prop :=
  (∃ (A B : Option Addr) (nl cl nm cm : Nat), e = .returned (.tuple #[.agg #[.int .i64 (o.getD nullV).kd, .bool (o.getD nullV).is, .int .i64 (o.getD nullV).n, .string ⟨(o.getD nullV).s.toArray⟩, .slice A nl cl, .slice B nm cm], .bool o.isSome]) ∧ VOkBS base w' (o.getD nullV) A B nl cl nm cm) ∧ Below w.heap.size w w'
theorem res_cell2S {fn : Func} {p q : Tmp} {ty : TypeId} (h : fn.results = #[.cell p ty, .tmp q]) (tmps : Array Value) (a : Addr) (v u : Value) (W : World) (hp : tmps.getD p undef = .pointer (some a)) (hq : tmps.getD q undef = u) (hld : (loadVar ty a).run Tryz.prog W = .ok v W) : (results fn tmps).run Tryz.prog W = .ok (.tuple #[v, u]) W := by
  simp only [Array.getD_eq_getD_getElem?] at hp hq
  subst hq
  simp [results, h, hp, asAddr, hld]
set_option maxHeartbeats 4000000 in
theorem reffindS_calls (base : Nat) (t : JT) (A : Option Addr) (n c : Nat) (key : List UInt8) (w : World) (hn : Room n c t.ext) (hBs : base ≤ w.heap.size) (hs : JSl (· < base) w true A t) :
    Calls Tryz.prog 69 #[.slice A n c, .string ⟨key.toArray⟩] w (FResS base (t.findV key) w) := by
  obtain ⟨hn, hnc, hc47⟩ := hn
  obtain ⟨R, hR⟩ : ∃ R, t.findV key = R := ⟨_, rfl⟩
  have HS := Lib.hid hs
  have HNX := Lib.hid hn
  have HR0 := Lib.hid (show R = (t.fall 0).findV key by rw [JT.fall_zero, hR])
  rw [hR]
  clear hs hn hR
  go_enter Tryz.func69, Tryz.ntmps69
  go_wp2_with fail
  have hz := Blk.new w [.int .i64 0, .bool false, .int .i64 0, .string ⟨#[]⟩, .slice none 0 0, .slice none 0 0] 25
  have HB0 := Lib.hid ((Below.refl w.heap.size w).alloc (Nat.le_refl _) (.cells #[.int .i64 0, .bool false, .int .i64 0, .string ⟨#[]⟩, .slice none 0 0, .slice none 0 0] 25))
  go_loopw [10] (fun i wr => ∃ k : Nat, k ≤ n ∧ i = .int .i64 (k : Int) ∧ Hid (Below w.heap.size w wr) ∧ Hid (Blk wr w.heap.size 25 [.int .i64 0, .bool false, .int .i64 0, .string ⟨#[]⟩, .slice none 0 0, .slice none 0 0]) ∧ Hid (R = (t.fall k).findV key)) (fun i _ => n - (intOf i).toNat)
  case atStart => exact ⟨0, by omega, rfl, HB0, Lib.hid hz, HR0⟩
  case round =>
    obtain ⟨k, hk, rfl, hB, hZ, hF⟩ := hrel
    clear hz
    by_cases hlt : k < n
    · have hkx : k < t.ext := by rw [← HNX.out]; exact hlt
      obtain ⟨eb, eo, eA, enl, ecl, eB, enm, ecm, rfl, eP, ebl, eK, eKl, f0, f1, f2, f3, f4, f5, r1, r2, s1, s2, hf⟩ := (HS.out.blw (hB.out.mono hBs)).mb (i := k) _ hkx
      obtain ⟨eu, hev⟩ : ∃ eu, (t.fall k).val = eu := ⟨_, rfl⟩
      obtain ⟨ek, hek⟩ : ∃ ek, (t.fall k).key = ek := ⟨_, rfl⟩
      have HF2 := Lib.hid (show R = if ek = key then some eu else (t.fall (k + 1)).findV key by rw [hF.out, findS_step t k key hkx, hek, hev])
      rw [hev] at f0 f1 f2 f3 r1 r2 s1 s2 hf
      rw [hek] at eK
      have HV := Lib.hid (And.intro r1 (And.intro r2 (And.intro s1 (And.intro s2 hf))))
      have hz2 := hZ.out.alloc (.cells #[.string ⟨ek.toArray⟩, .int .i64 eu.kd, .bool eu.is, .int .i64 eu.n, .string ⟨eu.s.toArray⟩, .slice eA enl ecl, .slice eB enm ecm] 44)
      have HZ2 := Lib.hid hz2
      have HB2 := Lib.hid (hB.out.alloc hB.out.size (.cells #[.string ⟨ek.toArray⟩, .int .i64 eu.kd, .bool eu.is, .int .i64 eu.n, .string ⟨eu.s.toArray⟩, .slice eA enl ecl, .slice eB enm ecm] 44))
      clear eP eKl r1 r2 s1 s2 hf hev hek hkx
      by_cases hkk : ek = key
      · have ht : (ek == key) = true := by simpa using hkk
        have HF3 := Lib.hid (show R = some eu by rw [HF2.out, if_pos hkk])
        obtain ⟨c0, c1, c2, c3, c4, c5, g0, g1, g2, g3, g4, g5⟩ := cells6 hz2
        clear hkk hz2
        go_wp2_with fail
        have HB6 := Lib.hid (show Below w.heap.size wr (wr.alloc (.cells #[.string ⟨ek.toArray⟩, .int .i64 eu.kd, .bool eu.is, .int .i64 eu.n, .string ⟨eu.s.toArray⟩, .slice eA enl ecl, .slice eB enm ecm] 44)) from (Below.refl _ _).alloc hB.out.size _)
        rw [HF3.out]
        exact bodyPost_ret (res_cell2S rfl _ ⟨w.heap.size, 0, none⟩ _ (.bool true) _ rfl rfl (Blk.load (blk6 HZ2.out) _ Tryz.underlying25 rfl size_valS)) rfl ⟨⟨eA, eB, enl, ecl, enm, ecm, rfl, VOkBS.blw ⟨HV.out.1, HV.out.2.1, HV.out.2.2.1, HV.out.2.2.2.1, HV.out.2.2.2.2⟩ ((below6 HB6.out (Nat.le_refl _)).mono hBs)⟩, below6 HB2.out (Nat.le_refl _)⟩
      · have ht : (ek == key) = false := by simpa using hkk
        have HF3 := Lib.hid (show R = (t.fall (k + 1)).findV key by rw [HF2.out, if_neg hkk])
        clear hkk hz2
        go_wp2_with fail
        go_roundw
        case rel => exact ⟨k + 1, by omega, by go_num, HB2, HZ2, HF3⟩
        case measure => simp [intOf]; omega
    · obtain rfl : k = n := by omega
      have HF3 := Lib.hid (show R = none by rw [hF.out, HNX.out, findS_end])
      obtain ⟨c0, c1, c2, c3, c4, c5, g0, g1, g2, g3, g4, g5⟩ := cells6 hZ.out
      go_wp2_with fail
      rw [HF3.out]
      exact bodyPost_ret (res_cell2S rfl _ ⟨w.heap.size, 0, none⟩ _ (.bool false) _ rfl rfl (Blk.load (blk6 hZ.out) _ Tryz.underlying25 rfl size_valS)) rfl ⟨⟨none, none, 0, 0, 0, 0, rfl, nullBS_ok _ _⟩, below6 hB.out (Nat.le_refl _)⟩
end Go.Proofs.YtajkgcmopmpihaaGreatDoor
namespace Go.Proofs.YtajkgcmopmpihaaGreatDoor
open Go.Lib
set_option linter.unusedVariables false
theorem findV_hasK : ∀ (t : JT) (key : List UInt8), (t.findV key).isSome = t.hasK key
  | .nil, _ => rfl
  | .cons k kd is n s l m r, key => by
    unfold JT.findV JT.hasK
    by_cases h : k = key
    · rw [if_pos h, beq_iff_eq.2 h]; rfl
    · rw [if_neg h, beq_eq_false_iff_ne.2 h, findV_hasK r key]; rfl
theorem low_no (key : List UInt8) : ∀ (t : JT), (∀ x ∈ t.keys, compareBytes key x = -1) → lowJ key t = .nil ∧ highJ key t = t
  | .nil, _ => ⟨rfl, rfl⟩
  | .cons k kd is n s l m r, h => by
    have h1 := h k (List.mem_cons_self ..)
    have ih := low_no key r (fun x hx => h x (List.mem_cons_of_mem _ hx))
    unfold lowJ highJ
    rw [if_neg (fun e => cb_irr (cb_trans e h1)), if_pos h1, ih.1, ih.2]
    exact ⟨rfl, rfl⟩
theorem with_ins : ∀ (t : JT) (key : List UInt8) (v : Jv), SortK t.keys → t.hasK key = false → withJ t key v = t.ins key v
  | .nil, _, _, _, _ => rfl
  | .cons k kd is n s l m r, key, v, hs, hk => by
    simp only [JT.hasK, Bool.or_eq_false_iff, beq_eq_false_iff_ne] at hk
    have h2 := List.pairwise_cons.1 (show List.Pairwise (fun a b => compareBytes a b = -1) (k :: r.keys) from hs)
    have ih := with_ins r key v h2.2 hk.2
    unfold JT.ins
    by_cases h : compareBytes k key = -1
    · rw [if_pos (by rw [bl_cb]; exact decide_eq_true h), ← ih]
      unfold withJ
      rw [show lowJ key (.cons k kd is n s l m r) = .cons k kd is n s l m (lowJ key r) from if_pos h, show highJ key (.cons k kd is n s l m r) = highJ key r from if_neg (fun e => cb_irr (cb_trans h e))]
      rfl
    · have h3 : compareBytes key k = -1 := by
        rcases cb_three key k with e | e | e
        · exact e
        · exact absurd (cb_eq e).symm hk.1
        · exact absurd (by rw [cb_anti, e]) h
      have hl := low_no key r (fun x hx => cb_trans h3 (h2.1 x hx))
      rw [if_neg (by rw [bl_cb]; exact fun e => h (of_decide_eq_true e))]
      unfold withJ
      rw [show lowJ key (.cons k kd is n s l m r) = lowJ key r from if_neg h, hl.1, show highJ key (.cons k kd is n s l m r) = .cons k kd is n s l m (highJ key r) from if_pos h3, hl.2]
      rfl
end Go.Proofs.YtajkgcmopmpihaaGreatDoor
namespace Go.Proofs.YtajkgcmopmpihaaGreatDoor
open Go.ChangeShapes Go.WideShapes Go.ChangeAt Go.RowKit Go.IntWalk
set_option linter.unusedVariables false
set_option maxRecDepth 100000
def RowQ (P : Nat → Prop) (base : Nat) (mem : Bool) (w : World) (L : Value) (t : JT) (k : Nat) : Prop :=
  ∃ cs : List Value, w.ownsRow base (tyM mem) (stM mem) L k cs ∧ ∀ i, i < k → RowE (fun b => (P b ∨ base ≤ b) ∧ b < w.heap.size ∧ L.ownBlock ≠ some b) mem w cs t i
theorem JSl.pw {P : Nat → Prop} {n : Nat} {w w' : World} {mem : Bool} {A : Option Addr} {t : JT} (hP : ∀ b, P b → b < n) (h : JSl P w mem A t) (b : Below n w w') : JSl P w' mem A t :=
  h.stay (fun b' o hb => b.cell (p := ⟨b', o, none⟩) (hP _ hb)) (fun _ h => h)
def VP (P : Nat → Prop) (w : World) (v : Jv) (A B : Option Addr) (nl cl nm cm : Nat) : Prop := Room nl cl v.l.ext ∧ Room nm cm v.m.ext ∧ JSl P w false A v.l ∧ JSl P w true B v.m ∧ Fit v.kd v.n v.s
section
variable {P : Nat → Prop} {base k : Nat} {mem : Bool} {w w' : World} {L : Value} {t : JT}
theorem RowQ.nil (P : Nat → Prop) (base : Nat) (mem : Bool) (w : World) (t : JT) : RowQ P base mem w (.slice none 0 0) t 0 := ⟨[], World.ownsRow_nil w base _ _, fun i hi => absurd hi (Nat.not_lt_zero i)⟩
theorem RowQ.lt (h : RowQ P base mem w L t k) : ∀ b, L.ownBlock = some b → base ≤ b ∧ b < w.heap.size := by obtain ⟨cs, h1, _⟩ := h; exact World.ownsRow.lt h1
theorem RowQ.below (h : RowQ P base mem w L t k) (hg : Below w.heap.size w w') : RowQ P base mem w' L t k := by
  obtain ⟨cs, h0, h1⟩ := h
  refine ⟨cs, ⟨h0.1, ?_⟩, fun i hi => ⟨(h1 i hi).1, ?_⟩⟩
  · rcases h0.2 with h2 | ⟨g, cap, cur, hv, hb, hh, r⟩
    · exact .inl h2
    · exact .inr ⟨g, cap, cur, hv, hb, by rw [hg.block g ((Array.getElem?_eq_some_iff.1 hh).1)]; exact hh, r⟩
  · obtain ⟨_, e, h2, h3⟩ := h1 i hi
    exact ⟨e, h2, h3.stay (fun b o hb => hg.cell (p := ⟨b, o, none⟩) hb.2.1) (fun b hb => ⟨hb.1, Nat.lt_of_lt_of_le hb.2.1 hg.size, hb.2.2⟩)⟩
theorem RowQ.alloc (h : RowQ P base mem w L t k) (o : Obj) : RowQ P base mem (w.alloc o) L t k := h.below ((Below.refl _ _).alloc (Nat.le_refl _) _)
theorem RowQ.drewN (h : RowQ P base mem w L t k) (n : Nat) : RowQ P base mem (w.drewN n) L t k := h.below ((Below.refl _ _).drewN n)
theorem RowQ.grown {w0 : World} (hb : Below base w0 w) (h : RowQ P base mem w L t k) (hg : w.grownBy w' L.ownBlock) (hw : base ≤ w.heap.size) : Below base w0 w' := by
  refine ⟨hg.os.trans hb.os, hg.tape.trans hb.tape, hg.output.trans hb.output, Nat.le_trans hb.size hg.size, fun k hk => ?_⟩
  refine (hg.block k (Nat.lt_of_lt_of_le hk hw) (fun e => ?_)).trans (hb.block k hk)
  have := (h.lt k e.symm).1
  omega
theorem RowQ.app {cs : List Value} {g cap : Nat} (h1 : ∀ i, i < k → RowE (fun b => (P b ∨ base ≤ b) ∧ b < w.heap.size ∧ L.ownBlock ≠ some b) mem w cs t i) (hl : cs.length = k * stM mem)
    (hg : w.grownBy w' L.ownBlock) (hgg : L.ownBlock = some g ∨ g = w.heap.size) (e : List Value)
    (hkey : if mem then (t.fall k).key.length ≤ 140737488355328 else (t.fall k).key = [])
    (h' : w'.ownsRow base (tyM mem) (stM mem) (.slice (some ⟨g, 0, none⟩) (k + 1) cap) (k + 1) (cs ++ newC mem (t.fall k).key e))
    (hc : JCs (fun b => (P b ∨ base ≤ b) ∧ b < w.heap.size ∧ L.ownBlock ≠ some b) w e (t.fall k).val) : RowQ P base mem w' (.slice (some ⟨g, 0, none⟩) (k + 1) cap) t (k + 1) := by
  have hst : ∀ {e : List Value} {v : Jv}, JCs (fun b => (P b ∨ base ≤ b) ∧ b < w.heap.size ∧ L.ownBlock ≠ some b) w e v →
      JCs (fun b => (P b ∨ base ≤ b) ∧ b < w'.heap.size ∧ (Value.slice (some ⟨g, 0, none⟩) (k + 1) cap).ownBlock ≠ some b) w' e v := fun h =>
    h.stay (fun b o hb => hg.cell_far ⟨b, o, none⟩ hb.2.1 (fun e => hb.2.2 e.symm)) (fun b hb => ⟨hb.1, Nat.lt_of_lt_of_le hb.2.1 hg.size, fun e => by
      simp only [Value.ownBlock, Option.some.injEq] at e
      rcases hgg with h2 | h2
      · exact hb.2.2 (by rw [h2, e])
      · have := hb.2.1; omega⟩)
  refine ⟨_, h', fun i hi => ?_⟩
  rcases Nat.lt_succ_iff_lt_or_eq.1 hi with hi | rfl
  · obtain ⟨h2, e2, h3, h4⟩ := h1 i hi
    refine ⟨?_, e2, fun j v hj => getD_app_l (h3 j v hj), hst h4⟩
    cases mem with
    | true => exact ⟨getD_app_l h2.1, h2.2⟩
    | false => exact h2
  · refine ⟨?_, e, fun j v hj => ?_, hst hc⟩
    · cases mem with
      | true => refine ⟨?_, hkey⟩; rw [← hl, show cs.length = cs.length + 0 from rfl, getD_app_r]; rfl
      | false => exact hkey
    · rw [← hl, Nat.add_assoc, getD_app_r]
      cases mem with
      | true => rw [show kwM true = 1 from rfl, Nat.add_comm]; exact hj
      | false => rw [show kwM false = 0 from rfl, Nat.zero_add]; exact hj
theorem RowQ.done (h : RowQ P base mem w L t t.ext) (he : t.ext ≤ 140737488355328) : ∃ (A : Option Addr) (c : Nat), L = .slice A t.ext c ∧ Room t.ext c t.ext ∧ JSl (fun b => (P b ∨ base ≤ b) ∧ b < w.heap.size) w mem A t := by
  obtain ⟨cs, h0, h1⟩ := h
  rcases h0.2 with ⟨rfl, hn⟩ | ⟨g, cap, cur, rfl, hb, hh, hnc, hmx, hs, ht⟩
  · refine ⟨none, 0, by rw [hn], ⟨rfl, by omega, he⟩, .inl ?_⟩
    cases t with
    | nil => rfl
    | cons => simp [JT.ext] at hn
  · refine ⟨_, cap, rfl, ⟨rfl, hnc, he⟩, .inr ⟨g, 0, rfl, ⟨.inr hb, (Array.getElem?_eq_some_iff.1 hh).1⟩, JIn.of t mem g 0 (fun i hi => ?_)⟩⟩
    have hc : ∀ (k : Nat) (u : Value), cs[k]? = some u → w.cell? ⟨g, k, none⟩ = some u := fun k u hu => by
      rw [cell_of_row _ _ _ _ _ _ hh]
      rw [← ht] at hu
      simp only [List.getElem?_take] at hu
      split at hu
      · simpa using hu
      · cases hu
    obtain ⟨h2, e, h3, h4⟩ := h1 i hi
    refine ⟨?_, e, fun j v hj => ?_, h4.stay (fun _ _ _ => rfl) (fun b hb => ⟨hb.1, hb.2.1⟩)⟩
    · cases mem with
      | true => exact ⟨by rw [Nat.zero_add]; exact hc _ _ h2.1, h2.2⟩
      | false => exact h2
    · rw [Nat.zero_add]; exact hc _ _ (h3 j v hj)
end
theorem wp_append_rowQ {o : Oper} {a : Act} {K : Act → World → Prop} {Q : Exit → Act → World → Prop} {W : World} (mem : Bool) (s x : Operand)
    (ho : o.op = .call { callee := .builtin .append, args := #[s, x], argTypes := #[tsM mem, tsM mem] })
    (P : Nat → Prop) (base : Nat) (L : Value) (t : JT) (k : Nat) (hs : a.eval s = L) (hrow : RowQ P base mem W L t k) (hk : k ≤ 1000000) (hbW : base ≤ W.heap.size)
    (B : Nat) (e : List Value) (hkey : if mem then (t.fall k).key.length ≤ 140737488355328 else (t.fall k).key = [])
    (hx : a.eval x = .slice (some ⟨B, 0, none⟩) 1 1) (hB : Blk W B (tyM mem) (newC mem (t.fall k).key e)) (hc : JCs (fun b => (P b ∨ base ≤ b) ∧ b < W.heap.size ∧ L.ownBlock ≠ some b) W e (t.fall k).val)
    (h : ∀ A c w', RowQ P base mem w' (.slice A (k + 1) c) t (k + 1) → W.grownBy w' L.ownBlock → K (a.put o.dst (.slice A (k + 1) c)) w') : o.wp Tryz.prog a W K Q := by
  obtain ⟨i, z, hi, hz, hsz, hby, hzs⟩ := info_row mem
  obtain ⟨cs, hown, h1⟩ := hrow
  have h6 : e.length = 6 := by obtain ⟨A, nl, cl, B, nm, cm, rfl, _⟩ := hc; rfl
  have h1c : ∀ u ∈ newC mem (t.fall k).key e, u.oneCell' = true := by
    obtain ⟨A, nl, cl, B, nm, cm, rfl, _⟩ := hc
    intro u hu
    cases mem with
    | true =>
      simp only [newC, if_true, List.mem_cons, List.not_mem_nil, or_false] at hu
      rcases hu with rfl | rfl | rfl | rfl | rfl | rfl | rfl <;> rfl
    | false =>
      simp only [newC, Bool.false_eq_true, if_false, List.mem_cons, List.not_mem_nil, or_false] at hu
      rcases hu with rfl | rfl | rfl | rfl | rfl | rfl <;> rfl
  have hnl : (newC mem (t.fall k).key e).length = 1 * stM mem := by
    cases mem with
    | true => simp [newC, h6, stM, kwM]
    | false => simp [newC, h6, stM, kwM]
  have hb : (k + 1) * i.bytes ≤ 140737488355328 := by
    rw [hby]
    cases mem with
    | true => simp only [if_true]; omega
    | false => simp only [Bool.false_eq_true, if_false]; omega
  refine wp_append_lies W s x (tsM mem) ho base (tyM mem) i z (stM mem) i.bytes (under_row mem) hi hz hsz rfl hzs (by cases mem <;> decide) L k cs hs hown ⟨B, 0, none⟩ 1 1 (newC mem (t.fall k).key e) hx hnl ?_ h1c (by decide) (Nat.le_trans (show k + 1 ≤ 1000001 by omega) (by decide)) hb hbW _ rfl ?_
  · intro j u hj
    have hplain : (⟨B, 0, none⟩ : Addr).add j = ⟨B, j, none⟩ := by unfold Addr.add; split <;> simp_all
    rw [hplain]
    exact hB.cell hj
  · intro g cap w' h2 h3 h4 _
    exact h _ cap w' (RowQ.app h1 hown.1 h3 h4 e hkey h2 hc) h3
theorem wpList_append_rowQ {ops : Array Oper} {rest : List Oper} {o : Oper} {a : Act} {Q : Exit → Act → World → Prop} {W : World} (mem : Bool) (hgd : o.guard = none) (s x : Operand)
    (ho : o.op = .call { callee := .builtin .append, args := #[s, x], argTypes := #[tsM mem, tsM mem] })
    (P : Nat → Prop) (base : Nat) (L : Value) (t : JT) (k : Nat) (hs : a.eval s = L) (hrow : RowQ P base mem W L t k) (hk : k ≤ 1000000) (hbW : base ≤ W.heap.size)
    (e : List Value) (hkey : if mem then (t.fall k).key.length ≤ 140737488355328 else (t.fall k).key = []) (C : Array Value) (T : TypeId) (hT : T = tyM mem) (hC : C = (newC mem (t.fall k).key e).toArray)
    (hx : a.eval x = .slice (some ⟨W.heap.size, 0, none⟩) 1 1) (hc : JCs (fun b => (P b ∨ base ≤ b) ∧ b < W.heap.size ∧ L.ownBlock ≠ some b) W e (t.fall k).val)
    (h : ∀ A c w', RowQ P base mem w' (.slice A (k + 1) c) t (k + 1) → W.grownBy w' L.ownBlock → wpList Tryz.prog ops Q rest (a.put o.dst (.slice A (k + 1) c)) w') :
    wpList Tryz.prog ops Q (o :: rest) a (W.alloc (.cells C T)) := by
  subst hT hC
  refine wpList_plain hgd fun K hK => wp_append_rowQ mem s x ho P base L t k hs (hrow.alloc _) hk (by simp; omega) W.heap.size e hkey hx (Blk.new W _ _) ?_ ?_
  · exact hc.stay (fun b o hb => ((Below.refl _ _).alloc (Nat.le_refl _) _ : Below W.heap.size W _).cell (p := ⟨b, o, none⟩) hb.2.1) (fun b hb => ⟨hb.1, by have := hb.2.1; simp; omega, hb.2.2⟩)
  · intro A c w' h1 h2
    exact hK _ _ (h A c w' h1 ⟨h2.os, h2.tape, h2.output, Nat.le_trans (by simp) h2.size, fun k hk hne => (h2.block k (by simp; omega) hne).trans (heap_alloc_old W _ hk)⟩)
end Go.Proofs.YtajkgcmopmpihaaGreatDoor
