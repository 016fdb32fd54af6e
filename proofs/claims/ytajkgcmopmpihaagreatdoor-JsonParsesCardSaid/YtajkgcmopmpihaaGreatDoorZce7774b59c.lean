/- Texts put together: Js7 JsF JwW JsP. -/
import Derived.Test.YtajkgcmopmpihaaGreatDoorZ21b5ffd4ff
import Derived.Test.YtajkgcmopmpihaaGreatDoorZ16d0a359f4
import Derived.Test.YtajkgcmopmpihaaGreatDoorZbd3ec9afeb
import Derived.Test.YtajkgcmopmpihaaGreatDoorZe87d7250e2
import Derived.Test.YtajkgcmopmpihaaGreatDoorZb4a9d0ce6f
import Derived.Test.YtajkgcmopmpihaaGreatDoorZ6baba35cbf
import Derived.Test.YtajkgcmopmpihaaGreatDoorZedead9e398
namespace Go.Proofs.YtajkgcmopmpihaaGreatDoor
open Go.ChangeShapes Go.WideShapes Go.ChangeAt Go.RowKit Go.IntWalk
set_option linter.unusedVariables false
set_option maxRecDepth 100000

/-- The reader's two cells: the answer's, still empty; the value under way. -/
def CSt (w : World) (kd : Int) (L M : Value) (W : World) : Prop := Blk W w.heap.size 25 [.int .i64 0, .bool false, .int .i64 0, .string ⟨#[]⟩, .slice none 0 0, .slice none 0 0] ∧ Blk W (w.heap.size + 1) 25 [.int .i64 kd, .bool false, .int .i64 0, .string ⟨#[]⟩, L, M] ∧ Below w.heap.size w W
theorem CSt.later {w : World} {kd : Int} {L M : Value} {W W' : World} (h : CSt w kd L M W) (b : Below W.heap.size W W') : CSt w kd L M W' := ⟨h.1.later b, h.2.1.later b, h.2.2.then_ b⟩
theorem CSt.base {w : World} {kd : Int} {L M : Value} {W : World} (h : CSt w kd L M W) : w.heap.size + 2 ≤ W.heap.size := h.2.1.lt
theorem CSt.lst {w : World} {kd : Int} {L M L' : Value} {W : World} (h : CSt w kd L M W) : CSt w kd L' M (W.setCell ⟨w.heap.size + 1, 4, none⟩ L') :=
  ⟨h.1.far (by omega) _ _, h.2.1.set_ 4 _, h.2.2.setCell (p := ⟨w.heap.size + 1, 4, none⟩) (Nat.le_succ _) _⟩
theorem CSt.tab {w : World} {kd : Int} {L M M' : Value} {W : World} (h : CSt w kd L M W) : CSt w kd L M' (W.setCell ⟨w.heap.size + 1, 5, none⟩ M') :=
  ⟨h.1.far (by omega) _ _, h.2.1.set_ 5 _, h.2.2.setCell (p := ⟨w.heap.size + 1, 5, none⟩) (Nat.le_succ _) _⟩
theorem CSt.start {w W1 : World} (kd : Int) (h0 : Blk W1 w.heap.size 25 [.int .i64 0, .bool false, .int .i64 0, .string ⟨#[]⟩, .slice none 0 0, .slice none 0 0]) (hs : W1.heap.size = w.heap.size + 1) (hb : Below w.heap.size w W1) :
    CSt w kd (.slice none 0 0) (.slice none 0 0) (W1.alloc (.cells #[.int .i64 kd, .bool false, .int .i64 0, .string ⟨#[]⟩, .slice none 0 0, .slice none 0 0] 25)) := by
  have hz := Blk.new W1 [.int .i64 kd, .bool false, .int .i64 0, .string ⟨#[]⟩, .slice none 0 0, .slice none 0 0] 25
  have b1 := (Below.refl W1.heap.size W1).alloc (Nat.le_refl _) (.cells #[.int .i64 kd, .bool false, .int .i64 0, .string ⟨#[]⟩, .slice none 0 0, .slice none 0 0] 25)
  rw [hs] at hz
  exact ⟨h0.later b1, hz, hb.then_ b1⟩
theorem CSt.new {w : World} {kd : Int} {L M : Value} {W : World} (h : CSt w kd L M W) (o : Obj) : CSt w kd L M (W.alloc o) := h.later ((Below.refl _ _).alloc (Nat.le_refl _) _)
/-- The answer is the value under way. -/
theorem CSt.out {w : World} {kd : Int} {L M : Value} {W : World} {x0 x1 x2 x3 x4 x5 : Value} (h : CSt w kd L M W) : Below w.heap.size w (set6 W w.heap.size x0 x1 x2 x3 x4 x5) := below6 h.2.2 (Nat.le_refl _)
theorem VNs.lst {w W : World} {A : Option Addr} {n c : Nat} {acc : JT} (h : RowJ (w.heap.size + 2) false W (.slice A n c) acc n) (hn : n = acc.ext) (he : acc.ext ≤ 140737488355328) : VNs (w.heap.size + 1) W (lstV acc) A none n c 0 0 := by
  subst hn
  obtain ⟨A', c', e, h1, h2⟩ := h.done he
  injection e with e1 e2 e3
  subst e1 e3
  exact ⟨h1, ⟨rfl, Nat.le_refl _, by decide⟩, h2.stay (fun _ _ _ => rfl) (fun b hb => ⟨by have := hb.1; omega, hb.2⟩), .inl rfl, (show Fit 4 0 [] from ⟨by decide, by decide, by decide⟩)⟩
/-- While a list is read. -/
def LSt (s : List UInt8) (R : PRes) (deep at_ k : Nat) (acc : JT) (w : World) (L : Value) (W : World) : Prop :=
  (at_ ≤ k ∧ k ≤ s.length ∧ acc.ext ≤ k) ∧ R = pL acc deep (s.drop k) ∧ CSt w 4 L (.slice none 0 0) W ∧ RowJ (w.heap.size + 2) false W L acc acc.ext
set_option maxHeartbeats 16000000 in
theorem reflist_calls (base : Nat) (s : List UInt8) (at_ deep : Nat) (w : World) (hs : s.length ≤ 65536) (ha : at_ ≤ s.length) (hW : Wk base w)
    (HK : ∀ (b : Nat) (w : World), at_ ≤ b → b ≤ s.length → Wk base w → Calls Tryz.prog 25 #[.string ⟨s.toArray⟩, .int .i64 (b : Int), .int .i64 (deep : Int)] w (TRes s (pV deep (s.drop b)) w)) :
    Calls Tryz.prog 40 #[.string ⟨s.toArray⟩, .int .i64 (at_ : Int), .int .i64 (deep : Int)] w (TRes s (listF deep (s.drop at_)) w) := by
  obtain ⟨n, hn⟩ : ∃ n, s.length = n := ⟨_, rfl⟩
  have hsz : (⟨s.toArray⟩ : ByteArray).size = n := hn
  have HS := Lib.hid hs
  have HN := Lib.hid hn
  have HA := Lib.hid ha
  have hn6 : n ≤ 65536 := by rw [← hn]; exact hs
  have HKK := Lib.hid HK
  have HWW := Lib.hid hW
  have hz := Blk.new w [.int .i64 0, .bool false, .int .i64 0, .string ⟨#[]⟩, .slice none 0 0, .slice none 0 0] 25
  have hb0 := (Below.refl w.heap.size w).alloc (Nat.le_refl _) (.cells #[.int .i64 0, .bool false, .int .i64 0, .string ⟨#[]⟩, .slice none 0 0, .slice none 0 0] 25)
  have hsz1 : (w.alloc (.cells #[.int .i64 0, .bool false, .int .i64 0, .string ⟨#[]⟩, .slice none 0 0, .slice none 0 0] 25)).heap.size = w.heap.size + 1 := Array.size_push ..
  obtain ⟨R, hR⟩ : ∃ R, listF deep (s.drop at_) = R := ⟨_, rfl⟩
  have HR := Lib.hid hR
  rw [hR]
  clear hs ha hn hW HK hR
  go_enter Tryz.func40, Tryz.ntmps40
  go_upto_region 1 with fail
  generalize w.alloc (.cells #[.int .i64 0, .bool false, .int .i64 0, .string ⟨#[]⟩, .slice none 0 0, .slice none 0 0] 25) = W1 at hz hb0 hsz1 ⊢
  have HC0 := Lib.hid (CSt.start 4 hz hsz1 hb0)
  have HSZ := Lib.hid hsz1
  clear hz hb0 hsz1
  go_upto_region 2 with fail
  rw [HSZ.out]
  refine wp_gen (fun W => CSt w 4 (.slice none 0 0) (.slice none 0 0) W) HC0.out ?_
  clear HC0 HSZ
  clear W1
  rintro W1 hc1
  have HC := Lib.hid hc1
  clear hc1
  go_wp2_with fail
  refine (refblank_calls s at_ _ HS.out HA.out).mono ?_
  rintro e w2 ⟨k, rfl, k1, k2, k3, rfl⟩
  have HK := Lib.hid k3
  have HKL := Lib.hid k2
  have HKA := Lib.hid k1
  have hk6 : k ≤ 65536 := Nat.le_trans k2 HS.out
  have hkn : k ≤ n := by rw [← HN.out]; exact k2
  clear k1 k2 k3
  go_wp2_with fail
  refine (refhas_calls s [93] k _ HS.out HKL.out (by decide)).mono ?_
  rintro e w11 ⟨rfl, rfl⟩
  by_cases h1 : [93] <+: s.drop k
  · rw [decide_eq_true h1]
    have HE := Lib.hid (lst_end (deep := deep) HK.out HKL.out h1)
    have hkx : k + 1 ≤ n := by rw [← HN.out]; exact HE.out.2
    have hwr : IntKind.i64.wrap ((k : Int) + 1) = (k : Int) + 1 := IntWalk.i64_in _ (by omega)
    obtain ⟨c0, c1, c2, c3, c4, c5, g0, g1, g2, g3, g4, g5⟩ := cells6 HC.out.1
    obtain ⟨d0, d1, d2, d3, d4, d5, _⟩ := cells6 HC.out.2.1
    go_wp2_with fail
    exact bodyPost_ret (res_cell3 rfl _ ⟨w.heap.size, 0, none⟩ _ (.int .i64 ((k : Int) + 1)) (.int .i64 0) _ rfl rfl rfl (Blk.load (blk6 HC.out.1) _ Tryz.underlying25 rfl size_valS)) rfl ⟨HC.out.out, .inr ⟨lstV .nil, k + 1, none, none, 0, 0, 0, 0, HR.out.symm.trans HE.out.1, HE.out.2, by push_cast; rfl, VNs.leaf _ _ ⟨(show (-9223372036854775808 : Int) ≤ 4 ∧ (4 : Int) ≤ 9223372036854775807 by decide), (show (-9223372036854775808 : Int) ≤ 0 ∧ (0 : Int) ≤ 9223372036854775807 by decide), Nat.zero_le _⟩⟩⟩
  rw [decide_eq_false h1]
  have HL0 := Lib.hid (show LSt s R deep at_ k .nil w (.slice none 0 0) W1 from ⟨⟨HKA.out, HKL.out, Nat.zero_le _⟩, HR.out.symm.trans (lst_go HK.out h1), HC.out, RowJ.nil _ _ _ _⟩)
  clear HC HK HKL HKA HR h1
  go_wp2_with fail
  go_loopw [1] (fun i wr => ∃ (k : Nat) (acc : JT) (L : Value), i = .int .i64 (k : Int) ∧ k ≤ n ∧ Hid (LSt s R deep at_ k acc w L wr)) (fun i _ => n + 1 - (intOf i).toNat)
  case atStart => exact ⟨k, .nil, _, rfl, hkn, HL0⟩
  case round =>
    obtain ⟨k, acc, L, rfl, hkn, hL⟩ := hrel
    obtain ⟨A9, c9, rfl⟩ := hL.out.2.2.2.sl
    have HWr := Lib.hid (HWW.out.later hL.out.2.2.1.2.2)
    have hc := HKK.out k wr hL.out.1.1 hL.out.1.2.1 HWr.out
    have HC := Lib.hid hc
    clear hc
    go_wp2_with fail
    refine HC.out.mono ?_
    rintro e w5 ⟨b5, hR⟩
    rcases hR with ⟨c, hr, rfl⟩ | ⟨v, at', A, B, nl, cl, nm, cm, hr, hle, rfl, hv⟩
    · have HE := Lib.hid (show R = .error c by rw [hL.out.2.1, pL_eq, hr]; rfl)
      have q1 : (c != 0) = true := by rw [bne_iff_ne]; exact fun e => pV_ne0 _ _ (e ▸ hr)
      have HC5 := Lib.hid ((hL.out.2.2.1.later b5).new (.cells #[.int .i64 0, .bool false, .int .i64 0, .string ⟨#[]⟩, .slice none 0 0, .slice none 0 0] 25))
      clear b5 hr hL
      go_upto_region 6 with fail
      refine wp_gen (fun W => CSt w 4 (.slice A9 acc.ext c9) (.slice none 0 0) W) HC5.out ?_
      clear HC5
      rintro W6 h6
      have HC6 := Lib.hid h6
      obtain ⟨c0, c1, c2, c3, c4, c5, g0, g1, g2, g3, g4, g5⟩ := cells6 h6.1
      clear h6
      go_wp2_with fail
      exact bodyPost_ret (res_cell3 rfl _ ⟨w.heap.size, 0, none⟩ _ (.int .i64 0) (.int .i64 c) _ rfl rfl rfl (Blk.load (blk6 HC6.out.1) _ Tryz.underlying25 rfl size_valS)) rfl ⟨HC6.out.out, .inl ⟨c, HE.out, rfl⟩⟩
    · have HX := Lib.hid (show R = pLn (acc.snoc [] v) deep (s.drop at') by rw [hL.out.2.1, pL_eq, hr]; rfl)
      have HAT := Lib.hid (show k < at' ∧ at' ≤ s.length by
        have := pV_lt hr
        rw [List.length_drop, List.length_drop] at this
        exact ⟨by omega, hle⟩)
      have HEX := Lib.hid (show acc.ext ≤ k from hL.out.1.2.2)
      have HATK := Lib.hid (show at_ ≤ k from hL.out.1.1)
      have b6 : Below wr.heap.size wr (w5.alloc (.cells #[.int .i64 v.kd, .bool v.is, .int .i64 v.n, .string ⟨v.s.toArray⟩, .slice A nl cl, .slice B nm cm] 25)) := b5.alloc b5.size _
      have HS6 := Lib.hid (show CSt w 4 (.slice A9 acc.ext c9) (.slice none 0 0) (w5.alloc (.cells #[.int .i64 v.kd, .bool v.is, .int .i64 v.n, .string ⟨v.s.toArray⟩, .slice A nl cl, .slice B nm cm] 25)) ∧
        RowJ (w.heap.size + 2) false (w5.alloc (.cells #[.int .i64 v.kd, .bool v.is, .int .i64 v.n, .string ⟨v.s.toArray⟩, .slice A nl cl, .slice B nm cm] 25)) (.slice A9 acc.ext c9) (acc.snoc [] v) acc.ext ∧
        Blk (w5.alloc (.cells #[.int .i64 v.kd, .bool v.is, .int .i64 v.n, .string ⟨v.s.toArray⟩, .slice A nl cl, .slice B nm cm] 25)) w5.heap.size 25 [.int .i64 v.kd, .bool v.is, .int .i64 v.n, .string ⟨v.s.toArray⟩, .slice A nl cl, .slice B nm cm] ∧
        JCs (fun b => wr.heap.size ≤ b ∧ b < (w5.alloc (.cells #[.int .i64 v.kd, .bool v.is, .int .i64 v.n, .string ⟨v.s.toArray⟩, .slice A nl cl, .slice B nm cm] 25)).heap.size) (w5.alloc (.cells #[.int .i64 v.kd, .bool v.is, .int .i64 v.n, .string ⟨v.s.toArray⟩, .slice A nl cl, .slice B nm cm] 25)) [.int .i64 v.kd, .bool v.is, .int .i64 v.n, .string ⟨v.s.toArray⟩, .slice A nl cl, .slice B nm cm] ((acc.snoc [] v).fall acc.ext).val ∧
        wr.heap.size ≤ (w5.alloc (.cells #[.int .i64 v.kd, .bool v.is, .int .i64 v.n, .string ⟨v.s.toArray⟩, .slice A nl cl, .slice B nm cm] 25)).heap.size from
        ⟨hL.out.2.2.1.later b6, (hL.out.2.2.2.below b6).snoc, Blk.new _ _ _, by
          rw [(snoc_at acc [] v).2]
          exact (show VNew wr.heap.size w5 v A B nl cl nm cm from hv).cs.stay (fun b o hb => ((Below.refl w5.heap.size w5).alloc (Nat.le_refl _) _).cell (p := ⟨b, o, none⟩) hb.2) (fun b hb => ⟨hb.1, by have := hb.2; simp; omega⟩), b6.size⟩)
      have HO := Lib.hid (show (∀ b, (Value.slice A9 acc.ext c9).ownBlock = some b → b < wr.heap.size) ∧ w.heap.size + 2 ≤ wr.heap.size from ⟨fun b e => (hL.out.2.2.2.lt b e).2, hL.out.2.2.1.base⟩)
      have hk6 : acc.ext ≤ 1000000 := by have := HEX.out; omega
      clear b5 hr hL hv hle b6
      go_upto_region 6 with fail
      refine wp_gen (fun W => CSt w 4 (.slice A9 acc.ext c9) (.slice none 0 0) W ∧ RowJ (w.heap.size + 2) false W (.slice A9 acc.ext c9) (acc.snoc [] v) acc.ext ∧ Blk W w5.heap.size 25 [.int .i64 v.kd, .bool v.is, .int .i64 v.n, .string ⟨v.s.toArray⟩, .slice A nl cl, .slice B nm cm] ∧
        JCs (fun b => wr.heap.size ≤ b ∧ b < W.heap.size) W [.int .i64 v.kd, .bool v.is, .int .i64 v.n, .string ⟨v.s.toArray⟩, .slice A nl cl, .slice B nm cm] ((acc.snoc [] v).fall acc.ext).val ∧ wr.heap.size ≤ W.heap.size) HS6.out ?_
      clear HS6
      rintro W6 h6
      have H6 := Lib.hid h6
      obtain ⟨c0, c1, c2, c3, c4, c5, g0, g1, g2, g3, g4, g5⟩ := cells6 h6.1.2.1
      obtain ⟨d0, d1, d2, d3, d4, d5, _⟩ := cells6 h6.2.2.1
      clear h6
      have hb2 := H6.out.1.base
      go_wp2_with (at_builtin; refine wpList_append_row false rfl _ _ rfl (w.heap.size + 2) wr.heap.size (.slice A9 acc.ext c9) (acc.snoc [] v) acc.ext rfl H6.out.2.1 hk6 HO.out.2 HO.out.1 H6.out.2.2.2.2 [.int .i64 v.kd, .bool v.is, .int .i64 v.n, .string ⟨v.s.toArray⟩, .slice A nl cl, .slice B nm cm] (snoc_at acc [] v).1 _ _ rfl rfl rfl H6.out.2.2.2.1 ?_; intro A7 c7 w7 h7 g7; have b7 := RowJ.grown (Below.refl (w.heap.size + 2) W6) H6.out.2.1 g7 hb2; have H8 := Lib.hid (show CSt w 4 (.slice A9 acc.ext c9) (.slice none 0 0) w7 from ⟨H6.out.1.1.below b7 (by omega), H6.out.1.2.1.below b7 (by omega), H6.out.1.2.2.trans (b7.mono (by omega))⟩); obtain ⟨e0, e1, e2, e3, e4, e5, f0, f1, f2, f3, f4, f5⟩ := cells6 H8.out.2.1)
      have H9 := Lib.hid (show CSt w 4 (.slice A7 (acc.ext + 1) c7) (.slice none 0 0) (w7.setCell ⟨w.heap.size + 1, 4, none⟩ (.slice A7 (acc.ext + 1) c7)) ∧ RowJ (w.heap.size + 2) false (w7.setCell ⟨w.heap.size + 1, 4, none⟩ (.slice A7 (acc.ext + 1) c7)) (.slice A7 (acc.ext + 1) c7) (acc.snoc [] v) (acc.ext + 1) from ⟨H8.out.lst, h7.far (by omega)⟩)
      clear c0 c1 c2 c3 c4 c5 g0 g1 g2 g3 g4 g5 d0 d1 d2 d3 d4 d5 e0 e1 e2 e3 e4 e5 f0 f1 f2 f3 f4 f5 h7 g7 b7 H8 H6 hb2 HO
      generalize w7.setCell ⟨w.heap.size + 1, 4, none⟩ (.slice A7 (acc.ext + 1) c7) = W9 at H9 ⊢
      refine (refblank_calls s at' _ HS.out HAT.out.2).mono ?_
      rintro e w10 ⟨m, rfl, m1, m2, m3, rfl⟩
      have HM := Lib.hid m3
      have HML := Lib.hid m2
      have HMA := Lib.hid m1
      have hm6 : m ≤ 65536 := Nat.le_trans m2 HS.out
      have hmn : m ≤ n := by rw [← HN.out]; exact m2
      clear m1 m2 m3
      go_wp2_with fail
      refine (refhas_calls s [93] m _ HS.out HML.out (by decide)).mono ?_
      rintro e w11 ⟨rfl, rfl⟩
      by_cases h1 : [93] <+: s.drop m
      · rw [decide_eq_true h1]
        have HE := Lib.hid (ln_end (acc := acc.snoc [] v) (deep := deep) HM.out HML.out h1)
        have hmx : m + 1 ≤ n := by rw [← HN.out]; exact HE.out.2
        have hwr : IntKind.i64.wrap ((m : Int) + 1) = (m : Int) + 1 := IntWalk.i64_in _ (by omega)
        obtain ⟨c0, c1, c2, c3, c4, c5, g0, g1, g2, g3, g4, g5⟩ := cells6 H9.out.1.1
        obtain ⟨d0, d1, d2, d3, d4, d5, _⟩ := cells6 H9.out.1.2.1
        have HV := Lib.hid (VNs.lst H9.out.2 (snoc_ext acc [] v).symm (by rw [snoc_ext]; omega))
        go_wp2_with fail
        exact bodyPost_ret (res_cell3 rfl _ ⟨w.heap.size, 0, none⟩ _ (.int .i64 ((m : Int) + 1)) (.int .i64 0) _ rfl rfl rfl (Blk.load (blk6 H9.out.1.1) _ Tryz.underlying25 rfl size_valS)) rfl ⟨H9.out.1.out, .inr ⟨lstV (acc.snoc [] v), m + 1, A7, none, acc.ext + 1, c7, 0, 0, HX.out.trans HE.out.1, HE.out.2, by push_cast; rfl, VNs.set6 HV.out rfl⟩⟩
      rw [decide_eq_false h1]
      go_wp2_with fail
      refine (refhas_calls s [44] m _ HS.out HML.out (by decide)).mono ?_
      rintro e w12 ⟨rfl, rfl⟩
      by_cases h2 : [44] <+: s.drop m
      · rw [decide_eq_true h2]
        have HE := Lib.hid (ln_go (acc := acc.snoc [] v) (deep := deep) HM.out HML.out h2)
        have hmx : m + 1 ≤ n := by rw [← HN.out]; exact HE.out.2
        have hmk : k < m := by have := HMA.out; have := HAT.out.1; omega
        have hwr : IntKind.i64.wrap ((m : Int) + 1) = (m : Int) + 1 := IntWalk.i64_in _ (by omega)
        have HL9 := Lib.hid (show LSt s R deep at_ (m + 1) (acc.snoc [] v) w (.slice A7 (acc.ext + 1) c7) W9 from ⟨⟨by have := HATK.out; omega, HE.out.2, by rw [snoc_ext]; have := HEX.out; omega⟩, HX.out.trans HE.out.1, H9.out.1, by rw [snoc_ext]; exact H9.out.2⟩)
        go_wp2_with fail
        go_roundw
        case rel => exact ⟨m + 1, acc.snoc [] v, _, by go_num, hmx, HL9⟩
        case measure => simp [intOf]; omega
      · rw [decide_eq_false h2]
        have HE := Lib.hid (ln_bad (acc := acc.snoc [] v) (deep := deep) HM.out h1 h2)
        obtain ⟨c0, c1, c2, c3, c4, c5, g0, g1, g2, g3, g4, g5⟩ := cells6 H9.out.1.1
        go_wp2_with fail
        exact bodyPost_ret (res_cell3 rfl _ ⟨w.heap.size, 0, none⟩ _ (.int .i64 0) (.int .i64 4) _ rfl rfl rfl (Blk.load (blk6 H9.out.1.1) _ Tryz.underlying25 rfl size_valS)) rfl ⟨H9.out.1.out, .inl ⟨4, HX.out.trans HE.out, rfl⟩⟩
end Go.Proofs.YtajkgcmopmpihaaGreatDoor
namespace Go.Proofs.YtajkgcmopmpihaaGreatDoor
open Go.ChangeShapes Go.WideShapes Go.ChangeAt Go.RowKit Go.IntWalk
set_option linter.unusedVariables false

theorem findS_step (t : JT) (i : Nat) (key : List UInt8) (h : i < t.ext) : (t.fall i).findV key = if (t.fall i).key = key then some (t.fall i).val else (t.fall (i + 1)).findV key := by
  conv => lhs; rw [t.fall_of_lt i h]
  rfl
theorem findS_end (t : JT) (key : List UInt8) : (t.fall t.ext).findV key = none := by rw [JT.fall_all t _ (Nat.le_refl _)]; rfl
/-- A value whose parts lie below base. -/
def VOkBS (base : Nat) (w : World) (v : Jv) (A B : Option Addr) (nl cl nm cm : Nat) : Prop := Room nl cl v.l.ext ∧ Room nm cm v.m.ext ∧ JSl (· < base) w false A v.l ∧ JSl (· < base) w true B v.m ∧ Fit v.kd v.n v.s
theorem VOkBS.blw {base : Nat} {w w' : World} {v : Jv} {A B : Option Addr} {nl cl nm cm : Nat} (h : VOkBS base w v A B nl cl nm cm) (b : Below base w w') : VOkBS base w' v A B nl cl nm cm := ⟨h.1, h.2.1, h.2.2.1.blw b, h.2.2.2.1.blw b, h.2.2.2.2⟩
theorem VOkBS.ok {base : Nat} {w : World} {v : Jv} {A B : Option Addr} {nl cl nm cm : Nat} (h : VOkBS base w v A B nl cl nm cm) (hb : base ≤ w.heap.size) : VOk w v A B nl cl nm cm :=
  ⟨h.1, h.2.1, h.2.2.1.stay (fun _ _ _ => rfl) (fun x hx => Nat.lt_of_lt_of_le hx hb), h.2.2.2.1.stay (fun _ _ _ => rfl) (fun x hx => Nat.lt_of_lt_of_le hx hb), h.2.2.2.2⟩
theorem nullBS_ok (base : Nat) (w : World) : VOkBS base w nullV none none 0 0 0 0 := ⟨⟨rfl, Nat.le_refl _, by decide⟩, ⟨rfl, Nat.le_refl _, by decide⟩, .inl rfl, .inl rfl, by unfold Fit nullV; decide⟩
/-- What Find answers. -/
def FResS (base : Nat) (o : Option Jv) (w : World) (e : Ending) (w' : World) : Prop :=
  (∃ (A B : Option Addr) (nl cl nm cm : Nat), e = .returned (.tuple #[.agg #[.int .i64 (o.getD nullV).kd, .bool (o.getD nullV).is, .int .i64 (o.getD nullV).n, .string ⟨(o.getD nullV).s.toArray⟩, .slice A nl cl, .slice B nm cm], .bool o.isSome]) ∧ VOkBS base w' (o.getD nullV) A B nl cl nm cm) ∧ Below w.heap.size w w'
theorem res_cell2S {fn : Func} {p q : Tmp} {ty : TypeId} (h : fn.results = #[.cell p ty, .tmp q]) (tmps : Array Value) (a : Addr) (v u : Value) (W : World) (hp : tmps.getD p undef = .pointer (some a)) (hq : tmps.getD q undef = u) (hld : (loadVar ty a).run Tryz.prog W = .ok v W) : (results fn tmps).run Tryz.prog W = .ok (.tuple #[v, u]) W := by
  simp only [Array.getD_eq_getD_getElem?] at hp hq
  subst hq
  simp [results, h, hp, asAddr, hld]
set_option maxHeartbeats 4000000 in
theorem reffindS_calls (base : Nat) (t : JT) (A : Option Addr) (n c : Nat) (key : List UInt8) (w : World) (hn : Room n c t.ext) (hBs : base ≤ w.heap.size) (hs : JSl (· < base) w true A t) :
    Calls Tryz.prog 69 #[.slice A n c, .string ⟨key.toArray⟩] w (FResS base (t.findV key) w) := by
  obtain ⟨hn, hnc, hc47⟩ := hn
  obtain ⟨R, hR⟩ : ∃ R, t.findV key = R := ⟨_, rfl⟩
  have HS := Lib.hid hs
  have HNX := Lib.hid hn
  have HR0 := Lib.hid (show R = (t.fall 0).findV key by rw [JT.fall_zero, hR])
  rw [hR]
  clear hs hn hR
  go_enter Tryz.func69, Tryz.ntmps69
  go_wp2_with fail
  have hz := Blk.new w [.int .i64 0, .bool false, .int .i64 0, .string ⟨#[]⟩, .slice none 0 0, .slice none 0 0] 25
  have HB0 := Lib.hid ((Below.refl w.heap.size w).alloc (Nat.le_refl _) (.cells #[.int .i64 0, .bool false, .int .i64 0, .string ⟨#[]⟩, .slice none 0 0, .slice none 0 0] 25))
  go_loopw [10] (fun i wr => ∃ k : Nat, k ≤ n ∧ i = .int .i64 (k : Int) ∧ Hid (Below w.heap.size w wr) ∧ Hid (Blk wr w.heap.size 25 [.int .i64 0, .bool false, .int .i64 0, .string ⟨#[]⟩, .slice none 0 0, .slice none 0 0]) ∧ Hid (R = (t.fall k).findV key)) (fun i _ => n - (intOf i).toNat)
  case atStart => exact ⟨0, by omega, rfl, HB0, Lib.hid hz, HR0⟩
  case round =>
    obtain ⟨k, hk, rfl, hB, hZ, hF⟩ := hrel
    clear hz
    by_cases hlt : k < n
    · have hkx : k < t.ext := by rw [← HNX.out]; exact hlt
      obtain ⟨eb, eo, eA, enl, ecl, eB, enm, ecm, rfl, eP, ebl, eK, eKl, f0, f1, f2, f3, f4, f5, r1, r2, s1, s2, hf⟩ := (HS.out.blw (hB.out.mono hBs)).mb (i := k) _ hkx
      obtain ⟨eu, hev⟩ : ∃ eu, (t.fall k).val = eu := ⟨_, rfl⟩
      obtain ⟨ek, hek⟩ : ∃ ek, (t.fall k).key = ek := ⟨_, rfl⟩
      have HF2 := Lib.hid (show R = if ek = key then some eu else (t.fall (k + 1)).findV key by rw [hF.out, findS_step t k key hkx, hek, hev])
      rw [hev] at f0 f1 f2 f3 r1 r2 s1 s2 hf
      rw [hek] at eK
      have HV := Lib.hid (And.intro r1 (And.intro r2 (And.intro s1 (And.intro s2 hf))))
      have hz2 := hZ.out.alloc (.cells #[.string ⟨ek.toArray⟩, .int .i64 eu.kd, .bool eu.is, .int .i64 eu.n, .string ⟨eu.s.toArray⟩, .slice eA enl ecl, .slice eB enm ecm] 44)
      have HZ2 := Lib.hid hz2
      have HB2 := Lib.hid (hB.out.alloc hB.out.size (.cells #[.string ⟨ek.toArray⟩, .int .i64 eu.kd, .bool eu.is, .int .i64 eu.n, .string ⟨eu.s.toArray⟩, .slice eA enl ecl, .slice eB enm ecm] 44))
      clear eP eKl r1 r2 s1 s2 hf hev hek hkx
      by_cases hkk : ek = key
      · have ht : (ek == key) = true := by simpa using hkk
        have HF3 := Lib.hid (show R = some eu by rw [HF2.out, if_pos hkk])
        obtain ⟨c0, c1, c2, c3, c4, c5, g0, g1, g2, g3, g4, g5⟩ := cells6 hz2
        clear hkk hz2
        go_wp2_with fail
        have HB6 := Lib.hid (show Below w.heap.size wr (wr.alloc (.cells #[.string ⟨ek.toArray⟩, .int .i64 eu.kd, .bool eu.is, .int .i64 eu.n, .string ⟨eu.s.toArray⟩, .slice eA enl ecl, .slice eB enm ecm] 44)) from (Below.refl _ _).alloc hB.out.size _)
        rw [HF3.out]
        exact bodyPost_ret (res_cell2S rfl _ ⟨w.heap.size, 0, none⟩ _ (.bool true) _ rfl rfl (Blk.load (blk6 HZ2.out) _ Tryz.underlying25 rfl size_valS)) rfl ⟨⟨eA, eB, enl, ecl, enm, ecm, rfl, VOkBS.blw ⟨HV.out.1, HV.out.2.1, HV.out.2.2.1, HV.out.2.2.2.1, HV.out.2.2.2.2⟩ ((below6 HB6.out (Nat.le_refl _)).mono hBs)⟩, below6 HB2.out (Nat.le_refl _)⟩
      · have ht : (ek == key) = false := by simpa using hkk
        have HF3 := Lib.hid (show R = (t.fall (k + 1)).findV key by rw [HF2.out, if_neg hkk])
        clear hkk hz2
        go_wp2_with fail
        go_roundw
        case rel => exact ⟨k + 1, by omega, by go_num, HB2, HZ2, HF3⟩
        case measure => simp [intOf]; omega
    · obtain rfl : k = n := by omega
      have HF3 := Lib.hid (show R = none by rw [hF.out, HNX.out, findS_end])
      obtain ⟨c0, c1, c2, c3, c4, c5, g0, g1, g2, g3, g4, g5⟩ := cells6 hZ.out
      go_wp2_with fail
      rw [HF3.out]
      exact bodyPost_ret (res_cell2S rfl _ ⟨w.heap.size, 0, none⟩ _ (.bool false) _ rfl rfl (Blk.load (blk6 hZ.out) _ Tryz.underlying25 rfl size_valS)) rfl ⟨⟨none, none, 0, 0, 0, 0, rfl, nullBS_ok _ _⟩, below6 hB.out (Nat.le_refl _)⟩
end Go.Proofs.YtajkgcmopmpihaaGreatDoor
namespace Go.Proofs.YtajkgcmopmpihaaGreatDoor
open Go.Lib
set_option linter.unusedVariables false

def JT.app : JT → JT → JT
  | .nil, u => u
  | .cons k kd is n s l m r, u => .cons k kd is n s l m (r.app u)
theorem app_nil : ∀ t : JT, t.app .nil = t
  | .nil => rfl
  | .cons k kd is n s l m r => by unfold JT.app; rw [app_nil r]
theorem app_assoc : ∀ t u x : JT, (t.app u).app x = t.app (u.app x)
  | .nil, u, x => rfl
  | .cons k kd is n s l m r, u, x => by simp only [JT.app, app_assoc r u x]
/-- Strictly rising keys. -/
def SortK (ks : List (List UInt8)) : Prop := ks.Pairwise fun a b => compareBytes a b = -1
theorem sortJ_of {t : JT} (h : Rise (slts t)) : SortK t.keys := by
  unfold Rise slts at h
  unfold SortK
  rw [List.pairwise_map] at h
  exact h.imp fun {a b} h => by
    rw [← cmpP_key]; exact h
theorem cb_irr {a : List UInt8} (h : compareBytes a a = -1) : False := by rw [cb_self] at h; exact absurd h (by decide)
def lowJ (key : List UInt8) : JT → JT
  | .nil => .nil
  | .cons k kd is n s l m r => if compareBytes k key = -1 then .cons k kd is n s l m (lowJ key r) else lowJ key r
def highJ (key : List UInt8) : JT → JT
  | .nil => .nil
  | .cons k kd is n s l m r => if compareBytes key k = -1 then .cons k kd is n s l m (highJ key r) else highJ key r
def withJ (t : JT) (key : List UInt8) (v : Jv) : JT := (lowJ key t).app (JT.one key v (highJ key t))
theorem low_at (key : List UInt8) {t : JT} {i : Nat} (h : i < t.ext) : lowJ key (t.fall i) = if compareBytes (t.fall i).key key = -1 then JT.one (t.fall i).key (t.fall i).val (lowJ key (t.fall (i + 1))) else lowJ key (t.fall (i + 1)) := (congrArg (lowJ key) (t.fall_of_lt i h)).trans rfl
theorem high_at (key : List UInt8) {t : JT} {i : Nat} (h : i < t.ext) : highJ key (t.fall i) = if compareBytes key (t.fall i).key = -1 then JT.one (t.fall i).key (t.fall i).val (highJ key (t.fall (i + 1))) else highJ key (t.fall (i + 1)) := (congrArg (highJ key) (t.fall_of_lt i h)).trans rfl
theorem low_end (key : List UInt8) {t : JT} {i : Nat} (h : t.ext ≤ i) : lowJ key (t.fall i) = .nil := by rw [t.fall_all i h]; rfl
theorem high_end (key : List UInt8) {t : JT} {i : Nat} (h : t.ext ≤ i) : highJ key (t.fall i) = .nil := by rw [t.fall_all i h]; rfl
theorem fall_one {t : JT} {i : Nat} {k : List UInt8} {u : Jv} {r : JT} (h : t.fall i = JT.one k u r) : i < t.ext ∧ (t.fall i).key = k ∧ (t.fall i).val = u ∧ t.fall (i + 1) = r := by
  have h1 := JT.fall_ext t i
  rw [h] at h1
  have h2 : (r.ext + 1 : Nat) = t.ext - i := h1
  refine ⟨by omega, by rw [h]; rfl, by rw [h]; rfl, ?_⟩
  rw [JT.fall_succ, h]
  show r.fall 0 = r
  exact JT.fall_zero r
theorem fall_app : ∀ (a b : JT), (a.app b).fall a.ext = b
  | .nil, b => JT.fall_zero b
  | .cons k kd is n s l m r, b => fall_app r b
theorem ext_app : ∀ (a b : JT), (a.app b).ext = a.ext + b.ext
  | .nil, b => (Nat.zero_add _).symm
  | .cons k kd is n s l m r, b => by simp only [JT.app, JT.ext, ext_app r b]; omega
theorem bulk_app : ∀ (a b : JT), (a.app b).bulk = a.bulk + b.bulk
  | .nil, b => (Nat.zero_add _).symm
  | .cons k kd is n s l m r, b => by simp only [JT.app, JT.bulk, bulk_app r b]; omega
theorem lowhigh_bulk (key : List UInt8) : ∀ t : JT, (lowJ key t).bulk + (highJ key t).bulk ≤ t.bulk
  | .nil => Nat.le_refl _
  | .cons k kd is n s l m r => by
    have h := lowhigh_bulk key r
    unfold lowJ highJ
    by_cases h1 : compareBytes k key = -1
    · have h2 : ¬ compareBytes key k = -1 := fun h2 => cb_irr (cb_trans h1 h2)
      rw [if_pos h1, if_neg h2]; simp only [JT.bulk]; omega
    · rw [if_neg h1]
      by_cases h2 : compareBytes key k = -1
      · rw [if_pos h2]; simp only [JT.bulk]; omega
      · rw [if_neg h2]; simp only [JT.bulk]; omega
theorem with_bulk (t : JT) (key : List UInt8) (v : Jv) : (withJ t key v).bulk ≤ t.bulk + v.bulk := by
  have := lowhigh_bulk key t
  unfold withJ
  rw [bulk_app, JT.bulk_one]; omega
theorem findV_app : ∀ (a b : JT) (k : List UInt8), (a.app b).findV k = (match a.findV k with | some u => some u | none => b.findV k)
  | .nil, b, k => rfl
  | .cons k0 kd is n s l m r, b, k => by
    simp only [JT.app, JT.findV]
    by_cases h : k0 = k
    · rw [if_pos h, if_pos h]
    · rw [if_neg h, if_neg h]; exact findV_app r b k
theorem findV_low (key k : List UInt8) : ∀ t : JT, (lowJ key t).findV k = if compareBytes k key = -1 then t.findV k else none
  | .nil => by simp [lowJ, JT.findV]
  | .cons k0 kd is n s l m r => by
    have ih := findV_low key k r
    by_cases h1 : compareBytes k0 key = -1
    · rw [lowJ, if_pos h1, JT.findV, JT.findV]
      by_cases h : k0 = k
      · rw [if_pos h, if_pos h]; subst h; rw [if_pos h1]
      · rw [if_neg h, if_neg h]; exact ih
    · rw [lowJ, if_neg h1, ih, JT.findV]
      by_cases h : k0 = k
      · subst h; rw [if_neg h1, if_neg h1]
      · rw [if_neg h]
theorem findV_high (key k : List UInt8) : ∀ t : JT, (highJ key t).findV k = if compareBytes key k = -1 then t.findV k else none
  | .nil => by simp [highJ, JT.findV]
  | .cons k0 kd is n s l m r => by
    have ih := findV_high key k r
    by_cases h1 : compareBytes key k0 = -1
    · rw [highJ, if_pos h1, JT.findV, JT.findV]
      by_cases h : k0 = k
      · rw [if_pos h, if_pos h]; subst h; rw [if_pos h1]
      · rw [if_neg h, if_neg h]; exact ih
    · rw [highJ, if_neg h1, ih, JT.findV]
      by_cases h : k0 = k
      · subst h; rw [if_neg h1, if_neg h1]
      · rw [if_neg h]
theorem findV_with {t : JT} {key : List UInt8} {v : Jv} {k : List UInt8} (h : k ≠ key) : (withJ t key v).findV k = t.findV k := by
  unfold withJ
  rw [findV_app, findV_low]
  have h3 : (JT.one key v (highJ key t)).findV k = (highJ key t).findV k := if_neg (fun e => h e.symm)
  rw [h3, findV_high]
  rcases cb_three k key with h1 | h1 | h1
  · rw [if_pos h1]
    have h2 : ¬ compareBytes key k = -1 := fun h2 => cb_irr (cb_trans h1 h2)
    rw [if_neg h2]
    cases t.findV k <;> rfl
  · exact absurd (cb_eq h1) h
  · rw [if_neg (by rw [h1]; decide), if_pos (by rw [cb_anti, h1])]
def allR : JT → Bool
  | .nil => true
  | .cons k kd is n s l m r => (risF true none m && risF false none l) && allR r
theorem ris_all (mem : Bool) : ∀ (t : JT) (p : Option (List UInt8)), risF mem p t = true → allR t = true
  | .nil, _, _ => rfl
  | .cons k kd is n s l m r, p, h => by
    simp only [risF, Bool.and_eq_true] at h
    simp only [allR, Bool.and_eq_true]
    exact ⟨⟨h.1.1.2, h.1.2⟩, ris_all mem r _ h.2⟩
theorem ris_of : ∀ (t : JT) (p : Option (List UInt8)), SortK t.keys → (∀ q, p = some q → ∀ x ∈ t.keys, compareBytes q x = -1) → allR t = true → risF true p t = true
  | .nil, _, _, _, _ => rfl
  | .cons k kd is n s l m r, p, h1, h2, h3 => by
    simp only [allR, Bool.and_eq_true] at h3
    have ih := ris_of r (some k) (List.pairwise_cons.1 h1).2 (fun q hq x hx => by injection hq with hq; subst hq; exact (List.pairwise_cons.1 h1).1 x hx) h3.2
    simp only [risF, Bool.and_eq_true]
    refine ⟨⟨⟨?_, h3.1.1⟩, h3.1.2⟩, ih⟩
    cases p with
    | none => rfl
    | some q =>
      show (!true || Op.bytesLess q k) = true
      rw [bl_cb, h2 q rfl k (List.mem_cons_self ..)]
      rfl
theorem allR_app : ∀ (a b : JT), allR a = true → allR b = true → allR (a.app b) = true
  | .nil, b, _, h => h
  | .cons k kd is n s l m r, b, h1, h2 => by
    simp only [allR, Bool.and_eq_true] at h1
    simp only [JT.app, allR, Bool.and_eq_true]
    exact ⟨h1.1, allR_app r b h1.2 h2⟩
theorem allR_low (key : List UInt8) : ∀ t : JT, allR t = true → allR (lowJ key t) = true
  | .nil, _ => rfl
  | .cons k kd is n s l m r, h => by
    simp only [allR, Bool.and_eq_true] at h
    unfold lowJ
    split
    · simp only [allR, Bool.and_eq_true]; exact ⟨h.1, allR_low key r h.2⟩
    · exact allR_low key r h.2
theorem allR_high (key : List UInt8) : ∀ t : JT, allR t = true → allR (highJ key t) = true
  | .nil, _ => rfl
  | .cons k kd is n s l m r, h => by
    simp only [allR, Bool.and_eq_true] at h
    unfold highJ
    split
    · simp only [allR, Bool.and_eq_true]; exact ⟨h.1, allR_high key r h.2⟩
    · exact allR_high key r h.2
theorem keys_app : ∀ (a b : JT), (a.app b).keys = a.keys ++ b.keys
  | .nil, b => rfl
  | .cons k kd is n s l m r, b => by simp only [JT.app, JT.keys, keys_app r b, List.cons_append]
theorem keys_low (key : List UInt8) : ∀ t : JT, (lowJ key t).keys.Sublist t.keys ∧ ∀ x ∈ (lowJ key t).keys, compareBytes x key = -1
  | .nil => ⟨List.Sublist.refl _, fun x hx => by cases hx⟩
  | .cons k kd is n s l m r => by
    have ih := keys_low key r
    unfold lowJ
    by_cases h : compareBytes k key = -1
    · rw [if_pos h]
      refine ⟨ih.1.cons_cons _, fun x hx => ?_⟩
      rcases List.mem_cons.1 (show x ∈ k :: _ from hx) with rfl | hx
      · exact h
      · exact ih.2 x hx
    · rw [if_neg h]; exact ⟨ih.1.cons _, ih.2⟩
theorem keys_high (key : List UInt8) : ∀ t : JT, (highJ key t).keys.Sublist t.keys ∧ ∀ x ∈ (highJ key t).keys, compareBytes key x = -1
  | .nil => ⟨List.Sublist.refl _, fun x hx => by cases hx⟩
  | .cons k kd is n s l m r => by
    have ih := keys_high key r
    unfold highJ
    by_cases h : compareBytes key k = -1
    · rw [if_pos h]
      refine ⟨ih.1.cons_cons _, fun x hx => ?_⟩
      rcases List.mem_cons.1 (show x ∈ k :: _ from hx) with rfl | hx
      · exact h
      · exact ih.2 x hx
    · rw [if_neg h]; exact ⟨ih.1.cons _, ih.2⟩
theorem with_sort {t : JT} {key : List UInt8} {v : Jv} (h : SortK t.keys) : SortK (withJ t key v).keys := by
  unfold withJ SortK
  rw [keys_app]
  have h1 := keys_low key t
  have h2 := keys_high key t
  refine List.pairwise_append.2 ⟨h.sublist h1.1, List.pairwise_cons.2 ⟨fun x hx => h2.2 x hx, h.sublist h2.1⟩, fun a ha b hb => ?_⟩
  have hak := h1.2 a ha
  rcases List.mem_cons.1 (show b ∈ key :: _ from hb) with rfl | hb
  · exact hak
  · exact cb_trans hak (h2.2 b hb)
theorem with_ris {t : JT} {key : List UInt8} {v : Jv} (h : risF true none t = true) (hv : risV v = true) : risF true none (withJ t key v) = true := by
  refine ris_of _ none (with_sort (sortJ_of (rise_of none t h).1)) (fun q hq => by cases hq) ?_
  have ha := ris_all true t none h
  unfold withJ
  refine allR_app _ _ (allR_low key t ha) ?_
  show ((risF true none v.m && risF false none v.l) && allR (highJ key t)) = true
  rw [allR_high key t ha]
  unfold risV at hv
  rw [hv]; rfl
end Go.Proofs.YtajkgcmopmpihaaGreatDoor
namespace Go.Proofs.YtajkgcmopmpihaaGreatDoor
open Go.Lib
set_option linter.unusedVariables false

theorem findV_hasK : ∀ (t : JT) (key : List UInt8), (t.findV key).isSome = t.hasK key
  | .nil, _ => rfl
  | .cons k kd is n s l m r, key => by
    unfold JT.findV JT.hasK
    by_cases h : k = key
    · rw [if_pos h, beq_iff_eq.2 h]; rfl
    · rw [if_neg h, beq_eq_false_iff_ne.2 h, findV_hasK r key]; rfl
theorem low_no (key : List UInt8) : ∀ (t : JT), (∀ x ∈ t.keys, compareBytes key x = -1) → lowJ key t = .nil ∧ highJ key t = t
  | .nil, _ => ⟨rfl, rfl⟩
  | .cons k kd is n s l m r, h => by
    have h1 := h k (List.mem_cons_self ..)
    have ih := low_no key r (fun x hx => h x (List.mem_cons_of_mem _ hx))
    unfold lowJ highJ
    rw [if_neg (fun e => cb_irr (cb_trans e h1)), if_pos h1, ih.1, ih.2]
    exact ⟨rfl, rfl⟩
theorem with_ins : ∀ (t : JT) (key : List UInt8) (v : Jv), SortK t.keys → t.hasK key = false → withJ t key v = t.ins key v
  | .nil, _, _, _, _ => rfl
  | .cons k kd is n s l m r, key, v, hs, hk => by
    simp only [JT.hasK, Bool.or_eq_false_iff, beq_eq_false_iff_ne] at hk
    have h2 := List.pairwise_cons.1 (show List.Pairwise (fun a b => compareBytes a b = -1) (k :: r.keys) from hs)
    have ih := with_ins r key v h2.2 hk.2
    unfold JT.ins
    by_cases h : compareBytes k key = -1
    · rw [if_pos (by rw [bl_cb]; exact decide_eq_true h), ← ih]
      unfold withJ
      rw [show lowJ key (.cons k kd is n s l m r) = .cons k kd is n s l m (lowJ key r) from if_pos h, show highJ key (.cons k kd is n s l m r) = highJ key r from if_neg (fun e => cb_irr (cb_trans h e))]
      rfl
    · have h3 : compareBytes key k = -1 := by
        rcases cb_three key k with e | e | e
        · exact e
        · exact absurd (cb_eq e).symm hk.1
        · exact absurd (by rw [cb_anti, e]) h
      have hl := low_no key r (fun x hx => cb_trans h3 (h2.1 x hx))
      rw [if_neg (by rw [bl_cb]; exact fun e => h (of_decide_eq_true e))]
      unfold withJ
      rw [show lowJ key (.cons k kd is n s l m r) = lowJ key r from if_neg h, hl.1, show highJ key (.cons k kd is n s l m r) = .cons k kd is n s l m (highJ key r) from if_pos h3, hl.2]
      rfl
end Go.Proofs.YtajkgcmopmpihaaGreatDoor
