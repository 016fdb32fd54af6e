/- Layer 12: Content, the document's: the members one by one. -/
import Derived.Test.YtlfmknebkfnliaaJrD
namespace Go.Proofs.Ytlfmknebkfnliaa
open Go.ChangeShapes Go.WideShapes Go.ChangeAt Go.RowKit Go.IntWalk
set_option linter.unusedVariables false
set_option maxRecDepth 100000

theorem grown_box {w w9 w7 : World} {G k cm c7 : Nat} {B A7 : Option Addr} {R : JT} {T : TypeId} (HWG : Hid (w.heap.size + 2 ≤ G)) (HR9 : Hid (RowK w.heap.size (G + 1) true w9 (.slice B k cm) R k)) (HGL : Hid (G + 1 ≤ w9.heap.size))
    (HO9 : Hid (Blk w9 G T [.int .i64 5, .bool false, .int .i64 0, .string ⟨#[]⟩, .slice none 0 0, .slice B k cm])) (HBW9 : Hid (Below w.heap.size w w9)) (HZW9 : Hid (Blk w9 (w.heap.size + 1) T [.int .i64 0, .bool false, .int .i64 0, .string ⟨#[]⟩, .slice none 0 0, .slice none 0 0])) (h7 : RowK w.heap.size (G + 1) true w7 (.slice A7 (k + 1) c7) R (k + 1)) (g7 : w9.grownBy w7 (Value.slice B k cm).ownBlock) :
    Hid (RowK w.heap.size (G + 1) true w7 (.slice A7 (k + 1) c7) R (k + 1)) ∧ Hid (Below w.heap.size w w7) ∧ Hid (Blk w7 (w.heap.size + 1) T [.int .i64 0, .bool false, .int .i64 0, .string ⟨#[]⟩, .slice none 0 0, .slice none 0 0]) ∧ Hid (Blk w7 G T [.int .i64 5, .bool false, .int .i64 0, .string ⟨#[]⟩, .slice none 0 0, .slice B k cm]) ∧
    w7.cell? ⟨G, 0, none⟩ = some (.int .i64 5) ∧ w7.cell? ⟨G, 1, none⟩ = some (.bool false) ∧ w7.cell? ⟨G, 2, none⟩ = some (.int .i64 0) ∧ w7.cell? ⟨G, 3, none⟩ = some (.string ⟨#[]⟩) ∧ w7.cell? ⟨G, 4, none⟩ = some (.slice none 0 0) ∧ w7.cell? ⟨G, 5, none⟩ = some (.slice B k cm) ∧
    w7.frozen? ⟨G, 0, none⟩ = false ∧ w7.frozen? ⟨G, 1, none⟩ = false ∧ w7.frozen? ⟨G, 2, none⟩ = false ∧ w7.frozen? ⟨G, 3, none⟩ = false ∧ w7.frozen? ⟨G, 4, none⟩ = false ∧ w7.frozen? ⟨G, 5, none⟩ = false := by
  have hwg := HWG.out
  have b7 := RowK.grown (Below.refl _ _) HR9.out g7 HGL.out
  have HO7 : Blk w7 G T [.int .i64 5, .bool false, .int .i64 0, .string ⟨#[]⟩, .slice none 0 0, .slice B k cm] := HO9.out.below b7 (Nat.lt_succ_self G)
  exact ⟨Lib.hid h7, Lib.hid (HBW9.out.trans (b7.mono (by omega))), Lib.hid (HZW9.out.below b7 (by omega)), Lib.hid HO7, cells6s HO7⟩
theorem below6p {B g o : Nat} {a w : World} {x0 x1 x2 x3 x4 x5 : Value} (h : Below B a w) (hg : B ≤ g) : Below B a (set6o w g o x0 x1 x2 x3 x4 x5) :=
  (((((h.setCell hg _).setCell hg _).setCell hg _).setCell hg _).setCell hg _).setCell hg _
theorem gen_sgn {w wq w11 W1 : World} {G S k cm xnl xcl xnm xcm : Nat} {B xA xB : Option Addr} {x : Jv} {TM : TypeId} {e0 a0 a1 a2 a3 a4 a5 : Value} (hB12 : Below wq.heap.size wq w11) (hb : Below w11.heap.size w11 W1) (hsz : W1.heap.size = S + 1) (hS : w11.heap.size = S)
    (hL9 : Blk W1 S TM [.string ⟨#[115, 105, 103, 110, 101, 100]⟩, .int .i64 x.kd, .bool x.is, .int .i64 x.n, .string ⟨x.s.toArray⟩, .slice xA xnl xcl, .slice xB xnm xcm]) (hM : Blk w11 wq.heap.size TM [e0, a0, a1, a2, a3, a4, a5]) (hX : VOkB w.heap.size w11 x xA xB xnl xcl xnm xcm) (h1 : w.heap.size ≤ G) (h2 : wq.heap.size < S) (h3 : G + 1 ≤ wq.heap.size)
    (hB : ∀ b, (Value.slice B k cm).ownBlock = some b → G + 1 ≤ b ∧ b < wq.heap.size) :
    ∃ W, set6o W1 wq.heap.size 1 (.int .i64 5) (.bool false) (.int .i64 0) (.string ⟨#[]⟩) (.slice none 0 0) (.slice (some ⟨S, 0, none⟩) 1 1) = W ∧ Below wq.heap.size wq W ∧ Blk W wq.heap.size TM [e0, .int .i64 5, .bool false, .int .i64 0, .string ⟨#[]⟩, .slice none 0 0, .slice (some ⟨S, 0, none⟩) 1 1] ∧
      JSl (fun b => (b < w.heap.size ∨ G + 1 ≤ b) ∧ b < W.heap.size ∧ (Value.slice B k cm).ownBlock ≠ some b) W true (some ⟨S, 0, none⟩) (JT.one sgnK x .nil) := by
  have hP : ∀ b o, b < w.heap.size → (set6o W1 wq.heap.size 1 (.int .i64 5) (.bool false) (.int .i64 0) (.string ⟨#[]⟩) (.slice none 0 0) (.slice (some ⟨S, 0, none⟩) 1 1)).cell? ⟨b, o, none⟩ = w11.cell? ⟨b, o, none⟩ := fun b o hb0 => (cell6o (by omega)).trans (hb.cell (p := ⟨b, o, none⟩) (show b < w11.heap.size by omega))
  have hz : (set6o W1 wq.heap.size 1 (.int .i64 5) (.bool false) (.int .i64 0) (.string ⟨#[]⟩) (.slice none 0 0) (.slice (some ⟨S, 0, none⟩) 1 1)).heap.size = S + 1 := size6o.trans hsz
  have hPQ : ∀ b, b < w.heap.size → (b < w.heap.size ∨ G + 1 ≤ b) ∧ b < (set6o W1 wq.heap.size 1 (.int .i64 5) (.bool false) (.int .i64 0) (.string ⟨#[]⟩) (.slice none 0 0) (.slice (some ⟨S, 0, none⟩) 1 1)).heap.size ∧ (Value.slice B k cm).ownBlock ≠ some b := fun b hb0 => ⟨.inl hb0, by rw [hz]; omega, fun e => by have := (hB b e).1; omega⟩
  have hL : Blk (set6o W1 wq.heap.size 1 (.int .i64 5) (.bool false) (.int .i64 0) (.string ⟨#[]⟩) (.slice none 0 0) (.slice (some ⟨S, 0, none⟩) 1 1)) S TM _ := far6o hL9 (by omega)
  have hM1 : Blk W1 wq.heap.size TM [e0, a0, a1, a2, a3, a4, a5] := hM.below hb (by omega)
  have hM2 : Blk (set6o W1 wq.heap.size 1 (.int .i64 5) (.bool false) (.int .i64 0) (.string ⟨#[]⟩) (.slice none 0 0) (.slice (some ⟨S, 0, none⟩) 1 1)) wq.heap.size TM _ := blk6o hM1
  have hBe : Below wq.heap.size wq (set6o W1 wq.heap.size 1 (.int .i64 5) (.bool false) (.int .i64 0) (.string ⟨#[]⟩) (.slice none 0 0) (.slice (some ⟨S, 0, none⟩) 1 1)) := below6p (hB12.trans (hb.mono (by omega))) (Nat.le_refl _)
  have hj1 := hX.2.2.1.stay hP hPQ
  have hj2 := hX.2.2.2.1.stay hP hPQ
  have hps : (S < w.heap.size ∨ G + 1 ≤ S) ∧ S < (set6o W1 wq.heap.size 1 (.int .i64 5) (.bool false) (.int .i64 0) (.string ⟨#[]⟩) (.slice none 0 0) (.slice (some ⟨S, 0, none⟩) 1 1)).heap.size ∧ (Value.slice B k cm).ownBlock ≠ some S := ⟨.inr (by omega), by rw [hz]; omega, fun e => by have := (hB S e).2; omega⟩
  generalize set6o W1 wq.heap.size 1 (.int .i64 5) (.bool false) (.int .i64 0) (.string ⟨#[]⟩) (.slice none 0 0) (.slice (some ⟨S, 0, none⟩) 1 1) = W at *
  exact ⟨W, rfl, hBe, hM2, .inr ⟨S, 0, rfl, hps, row7r (k := sgnK) hL (by decide) hX.1 hX.2.1 hj1 hj2 hX.2.2.2.2⟩⟩
set_option maxHeartbeats 16000000 in
theorem refcontent_map (kind : List UInt8) (v : Jv) (A0 B0 : Option Addr) (nl0 cl0 nm0 cm0 : Nat) (w : World) (hv : VOk w v A0 B0 nl0 cl0 nm0 cm0) (hbk : v.m.ext ≤ 50000) (hc : kind ≠ [109, 46, 114, 111, 111, 109, 46, 99, 114, 101, 97, 116, 101]) (h5 : v.kd = 5) :
    Calls Try.prog 10 #[.string ⟨kind.toArray⟩, .agg #[.int .i64 v.kd, .bool v.is, .int .i64 v.n, .string ⟨v.s.toArray⟩, .slice A0 nl0 cl0, .slice B0 nm0 cm0]] w (CtPost (dcntJ kind v) w) := by
  have b2 : Below w.heap.size w ((w.alloc (.cells #[.int .i64 v.kd, .bool v.is, .int .i64 v.n, .string ⟨v.s.toArray⟩, .slice A0 nl0 cl0, .slice B0 nm0 cm0] 25)).alloc (.cells #[.int .i64 0, .bool false, .int .i64 0, .string ⟨#[]⟩, .slice none 0 0, .slice none 0 0] 25)) := ((Below.refl _ _).alloc (Nat.le_refl _) _).alloc (by simp) _
  have hx : Blk ((w.alloc (.cells #[.int .i64 v.kd, .bool v.is, .int .i64 v.n, .string ⟨v.s.toArray⟩, .slice A0 nl0 cl0, .slice B0 nm0 cm0] 25)).alloc (.cells #[.int .i64 0, .bool false, .int .i64 0, .string ⟨#[]⟩, .slice none 0 0, .slice none 0 0] 25)) w.heap.size 25 [.int .i64 v.kd, .bool v.is, .int .i64 v.n, .string ⟨v.s.toArray⟩, .slice A0 nl0 cl0, .slice B0 nm0 cm0] := (Blk.new w [.int .i64 v.kd, .bool v.is, .int .i64 v.n, .string ⟨v.s.toArray⟩, .slice A0 nl0 cl0, .slice B0 nm0 cm0] 25).alloc _
  have hz : Blk ((w.alloc (.cells #[.int .i64 v.kd, .bool v.is, .int .i64 v.n, .string ⟨v.s.toArray⟩, .slice A0 nl0 cl0, .slice B0 nm0 cm0] 25)).alloc (.cells #[.int .i64 0, .bool false, .int .i64 0, .string ⟨#[]⟩, .slice none 0 0, .slice none 0 0] 25)) (w.heap.size + 1) 25 [.int .i64 0, .bool false, .int .i64 0, .string ⟨#[]⟩, .slice none 0 0, .slice none 0 0] := by have h := Blk.new (w.alloc (.cells #[.int .i64 v.kd, .bool v.is, .int .i64 v.n, .string ⟨v.s.toArray⟩, .slice A0 nl0 cl0, .slice B0 nm0 cm0] 25)) [.int .i64 0, .bool false, .int .i64 0, .string ⟨#[]⟩, .slice none 0 0, .slice none 0 0] 25; rw [show (w.alloc (.cells #[.int .i64 v.kd, .bool v.is, .int .i64 v.n, .string ⟨v.s.toArray⟩, .slice A0 nl0 cl0, .slice B0 nm0 cm0] 25)).heap.size = w.heap.size + 1 by simp] at h; exact h
  have HS := Lib.hid (show JSl (· < w.heap.size) w true B0 v.m from hv.2.2.2.1)
  have HN := Lib.hid (show nm0 = v.m.ext from hv.2.1.1)
  have hnc : nm0 ≤ cm0 := hv.2.1.2.1
  have hn50 : nm0 ≤ 50000 := by rw [HN.out]; exact hbk
  have HW := Lib.hid (And.intro b2 (And.intro hx hz))
  have H5 := Lib.hid (And.intro hc h5)
  clear b2 hx hz hv hbk hc h5
  go_enter Try.func10, Try.ntmps10
  go_upto_region 1 with fail
  refine wp_gen (fun W => Below w.heap.size w W ∧ Blk W w.heap.size 25 [.int .i64 v.kd, .bool v.is, .int .i64 v.n, .string ⟨v.s.toArray⟩, .slice A0 nl0 cl0, .slice B0 nm0 cm0] ∧ Blk W (w.heap.size + 1) 25 [.int .i64 0, .bool false, .int .i64 0, .string ⟨#[]⟩, .slice none 0 0, .slice none 0 0]) HW.out ?_
  clear HW
  rintro wg ⟨gb, gx, gz⟩
  have hcb : (kind == [109, 46, 114, 111, 111, 109, 46, 99, 114, 101, 97, 116, 101]) = false := by rw [beq_eq_false_iff_ne]; exact H5.out.1
  have hn5 := kd_eqF H5.out.2
  have HE := Lib.hid (dcntJ_map H5.out.1 H5.out.2)
  go_upto_region 4 with fail
  refine wp_gen (fun W => Below wg.heap.size wg W ∧ Blk W wg.heap.size 25 [.int .i64 5, .bool false, .int .i64 0, .string ⟨#[]⟩, .slice none 0 0, .slice none 0 0]) ⟨(Below.refl _ _).alloc (Nat.le_refl _) _, Blk.new _ _ _⟩ ?_
  rintro wo ⟨gb2, go⟩
  obtain ⟨R, hR⟩ : ∃ R, docJ kind v.m = R := ⟨_, rfl⟩
  obtain ⟨G, hG⟩ : ∃ G, wg.heap.size = G := ⟨_, rfl⟩
  rw [hR] at HE
  have HWG := Lib.hid (show w.heap.size + 2 ≤ G by rw [← hG]; exact gz.lt)
  have HBo := Lib.hid (gb.then_ gb2)
  have HZo := Lib.hid (gz.later gb2)
  have HXo := gx.later gb2
  rw [hG] at go
  have HDo := Lib.hid (show DocSt w.heap.size G R kind v 0 wo from ⟨0, none, 0, go, RowK.nil _ _ _ _ _, by rw [JT.fall_zero, JT.fall_zero, hR], Nat.zero_le _, Nat.zero_le _⟩)
  rw [hG]
  obtain ⟨d0, d1, d2, d3, d4, d5, _⟩ := cells6s HXo
  have HRX := Lib.hid hR
  clear gb gx gz gb2 go hG HXo hR
  go_wp2_with fail
  clear d0 d1 d2 d3 d4 d5
  go_loopw [24] (fun i wr => ∃ q : Nat, q ≤ nm0 ∧ i = .int .i64 (q : Int) ∧ Hid (Below w.heap.size w wr) ∧ Hid (Blk wr (w.heap.size + 1) 25 [.int .i64 0, .bool false, .int .i64 0, .string ⟨#[]⟩, .slice none 0 0, .slice none 0 0]) ∧ Hid (DocSt w.heap.size G R kind v q wr)) (fun i _ => nm0 - (intOf i).toNat)
  case atStart => exact ⟨0, Nat.zero_le _, rfl, HBo, HZo, HDo⟩
  case round =>
    obtain ⟨wq, hwq⟩ : ∃ x, x = wr := ⟨_, rfl⟩
    subst hwq
    obtain ⟨q, hq, rfl, hBr, hZr, hDr⟩ := hrel
    obtain ⟨k, B, cm, hO, hRow, hRD, hkR, hkq⟩ := hDr.out
    have HOR := Lib.hid (And.intro hO (And.intro hRow (And.intro hRD (And.intro hkR hkq))))
    clear hO hRow hkR hkq hDr
    by_cases hlt : q < nm0
    · have hqx : q < v.m.ext := by rw [← HN.out]; exact hlt
      rw [docJ_at kind hqx] at hRD
      have HPQ := Lib.hid (fun (W : World) (hW : wq.heap.size ≤ W.heap.size) b (hb : b < w.heap.size) => show (b < w.heap.size ∨ G + 1 ≤ b) ∧ b < W.heap.size ∧ (Value.slice B k cm).ownBlock ≠ some b from ⟨.inl hb, by have := hBr.out.size; omega, fun e => by have := (HOR.out.2.1.lt b e).1; have := HWG.out; omega⟩)
      obtain ⟨eb, eo, eA, enl, ecl, eB, enm, ecm, rfl, eP, ebl, eK, eKl, f0, f1, f2, f3, f4, f5, r1, r2, s1, s2, hf⟩ := (HS.out.blw hBr.out).mb (i := q) _ hqx
      obtain ⟨eu, hev⟩ : ∃ eu, (v.m.fall q).val = eu := ⟨_, rfl⟩
      obtain ⟨ek, hek⟩ : ∃ ek, (v.m.fall q).key = ek := ⟨_, rfl⟩
      rw [hev] at f0 f1 f2 f3 r1 r2 s1 s2 hf hRD
      rw [hek] at eK eKl hRD
      have HKL := Lib.hid eKl
      have HRD := Lib.hid hRD
      have HEV := Lib.hid (show VOkB w.heap.size wq eu eA eB enl ecl enm ecm from ⟨r1, r2, s1, s2, hf⟩)
      have b5 : Below wq.heap.size wq (wq.alloc (.cells #[.string ⟨ek.toArray⟩, .int .i64 eu.kd, .bool eu.is, .int .i64 eu.n, .string ⟨eu.s.toArray⟩, .slice eA enl ecl, .slice eB enm ecm] 36)) := (Below.refl _ _).alloc (Nat.le_refl _) _
      have HB5 := Lib.hid b5
      have HM5 := Lib.hid (Blk.new wq [.string ⟨ek.toArray⟩, .int .i64 eu.kd, .bool eu.is, .int .i64 eu.n, .string ⟨eu.s.toArray⟩, .slice eA enl ecl, .slice eB enm ecm] 36)
      obtain ⟨ks, hks⟩ : ∃ ks, staysL kind = ks := ⟨_, rfl⟩
      have hn9 : ks.length ≤ 9 := by rw [← hks]; exact stays_len _
      have hkp := kept_calls kind
      rw [hks] at hkp
      have HKP := Lib.hid hkp
      have HKS := Lib.hid hks
      clear eP eKl r1 r2 s1 s2 hf hev hek hRD b5 hkp hks
      go_wp2_with fail
      refine (HKP.out _).mono ?_
      rintro e w8 ⟨⟨AK, rfl, hkc⟩, b8⟩
      have HB8 := Lib.hid (HB5.out.then_ b8)
      have HM8 := Lib.hid (HM5.out.later b8)
      have HKC := Lib.hid hkc
      clear b8 hkc f0 f1 f2 f3 f4 f5 eK ebl
      go_wp2_with fail
      go_loopw [8, 31] (fun b i wz => ∃ (r : Nat) (bb : Bool), r ≤ ks.length ∧ b = .bool bb ∧ i = .int .i64 (r : Int) ∧ Hid (Below w8.heap.size w8 wz) ∧ Hid (bb = decide (ek ∈ ks.take r))) (fun _ i _ => ks.length - (intOf i).toNat)
      case atStart => exact ⟨0, false, Nat.zero_le _, rfl, rfl, Lib.hid (Below.refl _ _), Lib.hid (by rw [List.take_zero]; rfl)⟩
      case round =>
        obtain ⟨r, bb, hr, rfl, rfl, hBz, hF⟩ := hrel
        by_cases hlt2 : r < ks.length
        · obtain ⟨g, hgk, hg1, hg2, hg3⟩ := HKC.out r hlt2
          subst hgk
          have hg4 := (hBz.out.cell (p := ⟨g, r, none⟩) hg2).trans hg3
          have hm4 := (HM8.out.later hBz.out).cell (k := 0) rfl
          obtain ⟨key, hkey⟩ : ∃ key, ks[r] = key := ⟨_, rfl⟩
          rw [hkey] at hg4
          have HT := Lib.hid (show ks.take (r + 1) = ks.take r ++ [key] by rw [← hkey, List.take_succ_eq_append_getElem hlt2])
          clear hg1 hg2 hg3 hkey
          cases bb with
          | true =>
            have HF2 := Lib.hid (show true = decide (ek ∈ ks.take (r + 1)) by
              have h := hF.out
              rw [eq_comm, decide_eq_true_eq] at h ⊢
              rw [HT.out]; exact List.mem_append_left _ h)
            go_wp2_with fail
            go_roundw
            case rel =>
              first
                | exact ⟨r + 1, true, by omega, rfl, by go_num, hBz, HF2⟩
                | (repeat apply Exists.intro
                   refine ⟨?e0, ?e2, ?e1, hBz, HF2⟩
                   case e2 => rfl
                   case e1 => go_num
                   case e0 => omega)
                | fail
            case measure => simp [intOf]; omega
          | false =>
            cases hqe : (key == ek) with
            | true =>
              have HF2 := Lib.hid (show true = decide (ek ∈ ks.take (r + 1)) by
                rw [eq_comm, decide_eq_true_eq, HT.out, ← (beq_iff_eq.1 hqe)]; exact List.mem_append_right _ (List.mem_singleton.2 rfl))
              go_wp2_with fail
              go_roundw
              case rel =>
                first
                  | exact ⟨r + 1, true, by omega, rfl, by go_num, hBz, HF2⟩
                  | (repeat apply Exists.intro
                     refine ⟨?e0, ?e2, ?e1, hBz, HF2⟩
                     case e2 => rfl
                     case e1 => go_num
                     case e0 => omega)
                  | fail
              case measure => simp [intOf]; omega
            | false =>
              have HF2 := Lib.hid (show false = decide (ek ∈ ks.take (r + 1)) by
                have h := hF.out
                rw [eq_comm, decide_eq_false_iff_not] at h ⊢
                rw [HT.out, List.mem_append, List.mem_singleton]
                rintro (h1 | h1)
                · exact h h1
                · exact (beq_eq_false_iff_ne.1 hqe) h1.symm)
              go_wp2_with fail
              go_roundw
              case rel =>
                first
                  | exact ⟨r + 1, false, by omega, rfl, by go_num, hBz, HF2⟩
                  | (repeat apply Exists.intro
                     refine ⟨?e0, ?e2, ?e1, hBz, HF2⟩
                     case e2 => rfl
                     case e1 => go_num
                     case e0 => omega)
                  | fail
              case measure => simp [intOf]; omega
        · obtain rfl : r = ks.length := by omega
          have hF' := hF.out
          rw [List.take_length] at hF'
          have HFB := Lib.hid hF'
          obtain ⟨w9, hw9⟩ : ∃ x, x = wr := ⟨_, rfl⟩
          subst hw9
          have HB9 := Lib.hid (HB8.out.then_ hBz.out)
          have HM9 := Lib.hid (HM8.out.later hBz.out)
          clear hF hF' hBz HB5 HM5 HKC
          have m0 := HM9.out.cell (k := 0) rfl; have m1 := HM9.out.cell (k := 1) rfl; have m2 := HM9.out.cell (k := 2) rfl; have m3 := HM9.out.cell (k := 3) rfl; have m4 := HM9.out.cell (k := 4) rfl; have m5 := HM9.out.cell (k := 5) rfl; have m6 := HM9.out.cell (k := 6) rfl
          by_cases hA : ek = tpiK
          · have hAb : (ek == [116, 104, 105, 114, 100, 95, 112, 97, 114, 116, 121, 95, 105, 110, 118, 105, 116, 101]) = true := by rw [beq_iff_eq]; exact hA
            have HFX := Lib.hid (show bb = false by rw [HFB.out, decide_eq_false_iff_not, hA, ← HKS.out]; exact tpi_not kind)
            obtain rfl := HFX.out
            by_cases hB : kind = kind0
            · have hBb : (kind == [109, 46, 114, 111, 111, 109, 46, 109, 101, 109, 98, 101, 114]) = true := by rw [beq_iff_eq]; exact hB
              by_cases hC : eu.kd = 5
              · have hCb : (eu.kd == 5) = true := by rw [beq_iff_eq]; exact hC
                have hks := kept_sgn (mv := eu) hB hA hC
                have hfd := fun W hW hS => reffind_calls w.heap.size eu.m eB enm ecm sgnK W HEV.out.2.1 hW hS
                cases hfv : eu.m.findV sgnK with
                | none =>
                  have HK := Lib.hid (show keptO kind ek eu = none by rw [hks, hfv]; rfl)
                  have HFD := Lib.hid (show Calls Try.prog 19 #[.slice eB enm ecm, .string ⟨#[115, 105, 103, 110, 101, 100]⟩] w9 (fun e w' => (∃ (A B : Option Addr) (nl cl nm cm : Nat) (u : Jv), e = .returned (.tuple #[.agg #[.int .i64 u.kd, .bool u.is, .int .i64 u.n, .string ⟨u.s.toArray⟩, .slice A nl cl, .slice B nm cm], .bool false]) ∧ True) ∧ Below w9.heap.size w9 w') from
                    (hfd w9 (Nat.le_trans hBr.out.size HB9.out.size) (HEV.out.2.2.2.1.blw (HB9.out.mono hBr.out.size))).mono (fun e w' h => by rw [hfv] at h; obtain ⟨⟨A, B, nl, cl, nm, cm, h1, _⟩, h2⟩ := h; exact ⟨⟨A, B, nl, cl, nm, cm, _, h1, trivial⟩, h2⟩))
                  clear hA hB hC hks hfv hfd
                  go_wp2_with fail
                  refine HFD.out.mono ?_
                  rintro e w10 ⟨⟨xA, xB, xnl, xcl, xnm, xcm, x, rfl, _⟩, b10⟩
                  have HB11 := Lib.hid (HB9.out.then_ (b10.then_ ((Below.refl _ _).alloc (Nat.le_refl _) (.cells #[.int .i64 x.kd, .bool x.is, .int .i64 x.n, .string ⟨x.s.toArray⟩, .slice xA xnl xcl, .slice xB xnm xcm] 25))))
                  clear b10 HB9 HM9 m0 m1 m2 m3 m4 m5 m6 HFD
                  have HDS := Lib.hid (show DocSt w.heap.size G R kind v (q + 1) (w10.alloc (.cells #[.int .i64 x.kd, .bool x.is, .int .i64 x.n, .string ⟨x.s.toArray⟩, .slice xA xnl xcl, .slice xB xnm xcm] 25)) from ⟨k, B, cm, HOR.out.1.later HB11.out, HOR.out.2.1.below HB11.out, by have h := HRD.out; rw [HK.out] at h; exact h, HOR.out.2.2.2.1, by have := HOR.out.2.2.2.2; omega⟩)
                  have HBF := Lib.hid (hBr.out.then_ HB11.out)
                  have HZF := Lib.hid (hZr.out.later HB11.out)
                  go_wp2_with fail
                  go_roundw
                  case rel =>
                    first
                      | exact ⟨q + 1, by omega, by go_num, HBF, HZF, HDS⟩
                      | (repeat apply Exists.intro
                         refine ⟨?e0, ?e1, HBF, HZF, HDS⟩
                         case e1 => go_num
                         case e0 => omega)
                      | (repeat apply Exists.intro
                         refine ⟨⟨?e0, ?e1, HBF, HZF, HDS⟩, ?f1⟩
                         case f1 => rfl
                         case e1 => go_num
                         case e0 => omega)
                      | fail
                  case measure => simp [intOf]; omega
                | some x =>
                  have HK := Lib.hid (show keptO kind ek eu = some (mapV (JT.one sgnK x .nil)) by rw [hks, hfv]; rfl)
                  have HFD := Lib.hid (show Calls Try.prog 19 #[.slice eB enm ecm, .string ⟨#[115, 105, 103, 110, 101, 100]⟩] w9 (fun e w' => (∃ (xA xB : Option Addr) (xnl xcl xnm xcm : Nat), e = .returned (.tuple #[.agg #[.int .i64 x.kd, .bool x.is, .int .i64 x.n, .string ⟨x.s.toArray⟩, .slice xA xnl xcl, .slice xB xnm xcm], .bool true]) ∧ VOkB w.heap.size w' x xA xB xnl xcl xnm xcm) ∧ Below w9.heap.size w9 w') from
                    (hfd w9 (Nat.le_trans hBr.out.size HB9.out.size) (HEV.out.2.2.2.1.blw (HB9.out.mono hBr.out.size))).mono (fun e w' h => by rw [hfv] at h; exact h))
                  clear hA hB hC hks hfv hfd
                  go_wp2_with fail
                  refine HFD.out.mono ?_
                  rintro e w10 ⟨⟨xA, xB, xnl, xcl, xnm, xcm, rfl, hxv⟩, b10⟩
                  have b11 : Below w9.heap.size w9 (w10.alloc (.cells #[.int .i64 x.kd, .bool x.is, .int .i64 x.n, .string ⟨x.s.toArray⟩, .slice xA xnl xcl, .slice xB xnm xcm] 25)) := b10.then_ ((Below.refl _ _).alloc (Nat.le_refl _) _)
                  have HB11 := Lib.hid (HB9.out.then_ b11)
                  have HM11 := Lib.hid (HM9.out.later b11)
                  have HT11 := Lib.hid (Blk.new w10 [.int .i64 x.kd, .bool x.is, .int .i64 x.n, .string ⟨x.s.toArray⟩, .slice xA xnl xcl, .slice xB xnm xcm] 25)
                  have HX11 := Lib.hid (hxv.blw (w' := w10.alloc (.cells #[.int .i64 x.kd, .bool x.is, .int .i64 x.n, .string ⟨x.s.toArray⟩, .slice xA xnl xcl, .slice xB xnm xcm] 25)) ((Below.refl _ _).alloc (by have := b10.size; have := HB9.out.size; have := hBr.out.size; omega) _))
                  have HWR := Lib.hid HM9.out.lt
                  clear b10 b11 hxv HFD m0 m1 m2 m3 m4 m5 m6
                  go_upto_region 18 with fail
                  refine wp_gen (fun W => Below wq.heap.size wq W ∧ Blk W wq.heap.size 36 [.string ⟨ek.toArray⟩, .int .i64 eu.kd, .bool eu.is, .int .i64 eu.n, .string ⟨eu.s.toArray⟩, .slice eA enl ecl, .slice eB enm ecm] ∧ Blk W w10.heap.size 25 [.int .i64 x.kd, .bool x.is, .int .i64 x.n, .string ⟨x.s.toArray⟩, .slice xA xnl xcl, .slice xB xnm xcm] ∧ VOkB w.heap.size W x xA xB xnl xcl xnm xcm) ⟨HB11.out, HM11.out, HT11.out, HX11.out⟩ ?_
                  rintro w11 ⟨g1, g2, g3, g4⟩
                  have HB12 := Lib.hid g1
                  have HM12 := Lib.hid g2
                  have HX12 := Lib.hid g4
                  obtain ⟨t0, t1, t2, t3, t4, t5, _⟩ := cells6s g3
                  have m0 := g2.cell (k := 0) rfl; have m1 := g2.cell (k := 1) rfl; have m2 := g2.cell (k := 2) rfl; have m3 := g2.cell (k := 3) rfl; have m4 := g2.cell (k := 4) rfl; have m5 := g2.cell (k := 5) rfl; have m6 := g2.cell (k := 6) rfl
                  have g5 := g2.alloc (.cells #[.string ⟨#[115, 105, 103, 110, 101, 100]⟩, .int .i64 x.kd, .bool x.is, .int .i64 x.n, .string ⟨x.s.toArray⟩, .slice xA xnl xcl, .slice xB xnm xcm] 36)
                  have n1 := g5.cell (k := 1) rfl; have n2 := g5.cell (k := 2) rfl; have n3 := g5.cell (k := 3) rfl; have n4 := g5.cell (k := 4) rfl; have n5 := g5.cell (k := 5) rfl; have n6 := g5.cell (k := 6) rfl
                  have y1 := g5.frozen 1; have y2 := g5.frozen 2; have y3 := g5.frozen 3; have y4 := g5.frozen 4; have y5 := g5.frozen 5; have y6 := g5.frozen 6
                  clear g1 g2 g3 g4 g5 HB11 HM11 HT11 HX11 HB9 HM9
                  go_upto_region 20 with fail
                  obtain ⟨S, hS⟩ : ∃ S, w11.heap.size = S := ⟨_, rfl⟩
                  have hsw := HB12.out.size
                  have hml := HM12.out.lt
                  have hwr := HWR.out
                  have hwg := HWG.out
                  have hor := HOR.out.1.lt
                  have hbs := hBr.out.size
                  have hbA : Below w11.heap.size w11 (w11.alloc (.cells #[.string ⟨#[115, 105, 103, 110, 101, 100]⟩, .int .i64 x.kd, .bool x.is, .int .i64 x.n, .string ⟨x.s.toArray⟩, .slice xA xnl xcl, .slice xB xnm xcm] 36)) := (Below.refl _ _).alloc (Nat.le_refl _) _
                  have hL9 : Blk (w11.alloc (.cells #[.string ⟨#[115, 105, 103, 110, 101, 100]⟩, .int .i64 x.kd, .bool x.is, .int .i64 x.n, .string ⟨x.s.toArray⟩, .slice xA xnl xcl, .slice xB xnm xcm] 36)) S 36 [.string ⟨#[115, 105, 103, 110, 101, 100]⟩, .int .i64 x.kd, .bool x.is, .int .i64 x.n, .string ⟨x.s.toArray⟩, .slice xA xnl xcl, .slice xB xnm xcm] := by rw [← hS]; exact Blk.new w11 [.string ⟨#[115, 105, 103, 110, 101, 100]⟩, .int .i64 x.kd, .bool x.is, .int .i64 x.n, .string ⟨x.s.toArray⟩, .slice xA xnl xcl, .slice xB xnm xcm] 36
                  have hsz : (w11.alloc (.cells #[.string ⟨#[115, 105, 103, 110, 101, 100]⟩, .int .i64 x.kd, .bool x.is, .int .i64 x.n, .string ⟨x.s.toArray⟩, .slice xA xnl xcl, .slice xB xnm xcm] 36)).heap.size = S + 1 := by rw [← hS]; simp
                  obtain ⟨W9, hW9, q1, q2, q3⟩ := gen_sgn (x := x) HB12.out hbA hsz hS hL9 HM12.out HX12.out (by omega) (by omega) (by omega) (B := B) (k := k) (cm := cm) (fun b e => HOR.out.2.1.lt b e)
                  have HGEN := Lib.hid (And.intro q1 (And.intro q2 q3))
                  clear q1 q2 q3
                  unfold set6o at hW9
                  rw [hS]
                  rw [hW9]
                  refine wp_gen (fun W => Below wq.heap.size wq W ∧ Blk W wq.heap.size 36 [.string ⟨ek.toArray⟩, .int .i64 5, .bool false, .int .i64 0, .string ⟨#[]⟩, .slice none 0 0, .slice (some ⟨S, 0, none⟩) 1 1] ∧ JSl (fun b => (b < w.heap.size ∨ G + 1 ≤ b) ∧ b < W.heap.size ∧ (Value.slice B k cm).ownBlock ≠ some b) W true (some ⟨S, 0, none⟩) (JT.one sgnK x .nil)) HGEN.out ?_
                  clear HGEN hsz hL9 hbA hsw hml hwr hwg hor hbs t0 t1 t2 t3 t4 t5 m0 m1 m2 m3 m4 m5 m6 n1 n2 n3 n4 n5 n6 y1 y2 y3 y4 y5 y6 HX12 HM12 HB12 hS
                  rintro w9 ⟨g1, g2, g3⟩
                  have HB9 := Lib.hid g1
                  have HJ := Lib.hid (show JCs (fun b => (b < w.heap.size ∨ G + 1 ≤ b) ∧ b < w9.heap.size ∧ (Value.slice B k cm).ownBlock ≠ some b) w9 [.int .i64 5, .bool false, .int .i64 0, .string ⟨#[]⟩, .slice none 0 0, .slice (some ⟨S, 0, none⟩) 1 1] (mapV (JT.one sgnK x .nil)) from ⟨none, 0, 0, some ⟨S, 0, none⟩, 1, 1, rfl, ⟨rfl, Nat.le_refl _, by decide⟩, ⟨rfl, Nat.le_refl _, by decide⟩, .inl rfl, g3, by show Fit 5 0 []; unfold Fit; decide⟩)
                  have m0 := g2.cell (k := 0) rfl; have m1 := g2.cell (k := 1) rfl; have m2 := g2.cell (k := 2) rfl; have m3 := g2.cell (k := 3) rfl; have m4 := g2.cell (k := 4) rfl; have m5 := g2.cell (k := 5) rfl; have m6 := g2.cell (k := 6) rfl
                  clear g1 g2 g3
                  have h1k := fall_one (show R.fall k = JT.one ek (mapV (JT.one sgnK x .nil)) (docJ kind (v.m.fall (q + 1))) by have h := HRD.out; rw [HK.out] at h; exact h)
                  have HKV := Lib.hid h1k
                  have HR9 := Lib.hid (HOR.out.2.1.below HB9.out)
                  have HO9 := Lib.hid (HOR.out.1.later HB9.out)
                  have HGL := Lib.hid (show G + 1 ≤ w9.heap.size from HO9.out.lt)
                  have hk6 : k ≤ 1000000 := by have := HOR.out.2.2.2.2; omega
                  have HEK := Lib.hid (show (R.fall k).key.length ≤ 140737488355328 by rw [HKV.out.2.1]; exact HKL.out)
                  have HJ2 := Lib.hid (show JCs (fun b => (b < w.heap.size ∨ G + 1 ≤ b) ∧ b < w9.heap.size ∧ (Value.slice B k cm).ownBlock ≠ some b) w9 [.int .i64 5, .bool false, .int .i64 0, .string ⟨#[]⟩, .slice none 0 0, .slice (some ⟨S, 0, none⟩) 1 1] (R.fall k).val by rw [HKV.out.2.2.1]; exact HJ.out)
                  have HQ7 := Lib.hid (show (newC true (R.fall k).key [.int .i64 5, .bool false, .int .i64 0, .string ⟨#[]⟩, .slice none 0 0, .slice (some ⟨S, 0, none⟩) 1 1]).toArray = (newC true ek [.int .i64 5, .bool false, .int .i64 0, .string ⟨#[]⟩, .slice none 0 0, .slice (some ⟨S, 0, none⟩) 1 1]).toArray by rw [HKV.out.2.1])
                  obtain ⟨o0, o1, o2, o3, o4, o5, _⟩ := cells6s HO9.out
                  have HKR := Lib.hid (And.intro HOR.out.2.2.2.1 HOR.out.2.2.2.2)
                  have HBW9 := Lib.hid (hBr.out.then_ HB9.out)
                  have HZW9 := Lib.hid (hZr.out.later HB9.out)
                  clear h1k o0 o1 o2 o3 o4
                  go_wp2_with (at_builtin; refine wpList_append_rowK true rfl _ _ rfl w.heap.size (G + 1) (.slice B k cm) R k rfl HR9.out hk6 HGL.out [.int .i64 5, .bool false, .int .i64 0, .string ⟨#[]⟩, .slice none 0 0, .slice (some ⟨S, 0, none⟩) 1 1] HEK.out _ _ rfl (HQ7.out.trans rfl).symm rfl HJ2.out ?_; intro A7 c7 w7 h7 g7; obtain ⟨HR7, HB7, HZ7, HO7, o0, o1, o2, o3, o4, o5, p0, p1, p2, p3, p4, p5⟩ := grown_box HWG HR9 HGL HO9 HBW9 HZW9 h7 g7; clear h7 g7)
                  have HDS := Lib.hid (show DocSt w.heap.size G R kind v (q + 1) (w7.setCell ⟨G, 5, none⟩ (.slice A7 (k + 1) c7)) from ⟨k + 1, A7, c7, HO7.out.set_ 5 _, HR7.out.set (by have := HWG.out; omega) (Nat.lt_succ_self G), HKV.out.2.2.2, by have := HKV.out.1; omega, by have := HKR.out.2; omega⟩)
                  have HBF := Lib.hid (show Below w.heap.size w (w7.setCell ⟨G, 5, none⟩ (.slice A7 (k + 1) c7)) from HB7.out.setCell (show w.heap.size ≤ G by have := HWG.out; omega) _)
                  have HZF := Lib.hid (show Blk (w7.setCell ⟨G, 5, none⟩ (.slice A7 (k + 1) c7)) (w.heap.size + 1) 25 [.int .i64 0, .bool false, .int .i64 0, .string ⟨#[]⟩, .slice none 0 0, .slice none 0 0] from (Deep.blk_setCell_other _ _ _ _ (show w.heap.size + 1 ≠ G by have := HWG.out; omega)).trans HZ7.out)
                  go_roundw
                  case rel =>
                    first
                      | exact ⟨q + 1, by omega, by go_num, HBF, HZF, HDS⟩
                      | (repeat apply Exists.intro
                         refine ⟨?e0, ?e1, HBF, HZF, HDS⟩
                         case e1 => go_num
                         case e0 => omega)
                      | (repeat apply Exists.intro
                         refine ⟨⟨?e0, ?e1, HBF, HZF, HDS⟩, ?f1⟩
                         case f1 => rfl
                         case e1 => go_num
                         case e0 => omega)
                      | fail
                  case measure => simp [intOf]; omega
              · have hCb : (eu.kd == 5) = false := by rw [beq_eq_false_iff_ne]; exact hC
                have HK := Lib.hid (kept_tpi (kind := kind) (mv := eu) hA (fun e => hC e.2))
                clear hA hB hC
                have HDS := Lib.hid (show DocSt w.heap.size G R kind v (q + 1) w9 from ⟨k, B, cm, HOR.out.1.later HB9.out, HOR.out.2.1.below HB9.out, by have h := HRD.out; rw [HK.out] at h; exact h, HOR.out.2.2.2.1, by have := HOR.out.2.2.2.2; omega⟩)
                have HBF := Lib.hid (hBr.out.then_ HB9.out)
                have HZF := Lib.hid (hZr.out.later HB9.out)
                go_wp2_with fail
                go_roundw
                case rel =>
                  first
                    | exact ⟨q + 1, by omega, by go_num, HBF, HZF, HDS⟩
                    | (repeat apply Exists.intro
                       refine ⟨?e0, ?e1, HBF, HZF, HDS⟩
                       case e1 => go_num
                       case e0 => omega)
                    | (repeat apply Exists.intro
                       refine ⟨⟨?e0, ?e1, HBF, HZF, HDS⟩, ?f1⟩
                       case f1 => rfl
                       case e1 => go_num
                       case e0 => omega)
                    | fail
                case measure => simp [intOf]; omega
            · have hBb : (kind == [109, 46, 114, 111, 111, 109, 46, 109, 101, 109, 98, 101, 114]) = false := by rw [beq_eq_false_iff_ne]; exact hB
              have HK := Lib.hid (kept_tpi (kind := kind) (mv := eu) hA (fun e => hB e.1))
              clear hA hB
              have HDS := Lib.hid (show DocSt w.heap.size G R kind v (q + 1) w9 from ⟨k, B, cm, HOR.out.1.later HB9.out, HOR.out.2.1.below HB9.out, by have h := HRD.out; rw [HK.out] at h; exact h, HOR.out.2.2.2.1, by have := HOR.out.2.2.2.2; omega⟩)
              have HBF := Lib.hid (hBr.out.then_ HB9.out)
              have HZF := Lib.hid (hZr.out.later HB9.out)
              go_wp2_with fail
              go_roundw
              case rel =>
                first
                  | exact ⟨q + 1, by omega, by go_num, HBF, HZF, HDS⟩
                  | (repeat apply Exists.intro
                     refine ⟨?e0, ?e1, HBF, HZF, HDS⟩
                     case e1 => go_num
                     case e0 => omega)
                  | (repeat apply Exists.intro
                     refine ⟨⟨?e0, ?e1, HBF, HZF, HDS⟩, ?f1⟩
                     case f1 => rfl
                     case e1 => go_num
                     case e0 => omega)
                  | fail
              case measure => simp [intOf]; omega
          · have hAb : (ek == [116, 104, 105, 114, 100, 95, 112, 97, 114, 116, 121, 95, 105, 110, 118, 105, 116, 101]) = false := by rw [beq_eq_false_iff_ne]; exact hA
            have hke := kept_else (kind := kind) (k := ek) (mv := eu) (fun e => hA e.2.1)
            clear hA
            cases bb with
            | true =>
              have HK := Lib.hid (show keptO kind ek eu = some eu by rw [hke, HKS.out, if_pos (of_decide_eq_true HFB.out.symm)])
              clear hke
              have HJ := Lib.hid (show JCs (fun b => (b < w.heap.size ∨ G + 1 ≤ b) ∧ b < w9.heap.size ∧ (Value.slice B k cm).ownBlock ≠ some b) w9 [.int .i64 eu.kd, .bool eu.is, .int .i64 eu.n, .string ⟨eu.s.toArray⟩, .slice eA enl ecl, .slice eB enm ecm] eu from ⟨eA, enl, ecl, eB, enm, ecm, rfl, HEV.out.1, HEV.out.2.1, (HEV.out.2.2.1.blw (HB9.out.mono hBr.out.size)).stay (fun _ _ _ => rfl) (HPQ.out w9 HB9.out.size), (HEV.out.2.2.2.1.blw (HB9.out.mono hBr.out.size)).stay (fun _ _ _ => rfl) (HPQ.out w9 HB9.out.size), HEV.out.2.2.2.2⟩)
              have h1k := fall_one (show R.fall k = JT.one ek eu (docJ kind (v.m.fall (q + 1))) by have h := HRD.out; rw [HK.out] at h; exact h)
              have HKV := Lib.hid h1k
              have HR9 := Lib.hid (HOR.out.2.1.below HB9.out)
              have HO9 := Lib.hid (HOR.out.1.later HB9.out)
              have HGL := Lib.hid (show G + 1 ≤ w9.heap.size from HO9.out.lt)
              have hk6 : k ≤ 1000000 := by have := HOR.out.2.2.2.2; omega
              have HEK := Lib.hid (show (R.fall k).key.length ≤ 140737488355328 by rw [HKV.out.2.1]; exact HKL.out)
              have HJ2 := Lib.hid (show JCs (fun b => (b < w.heap.size ∨ G + 1 ≤ b) ∧ b < w9.heap.size ∧ (Value.slice B k cm).ownBlock ≠ some b) w9 [.int .i64 eu.kd, .bool eu.is, .int .i64 eu.n, .string ⟨eu.s.toArray⟩, .slice eA enl ecl, .slice eB enm ecm] (R.fall k).val by rw [HKV.out.2.2.1]; exact HJ.out)
              have HQ7 := Lib.hid (show (newC true (R.fall k).key [.int .i64 eu.kd, .bool eu.is, .int .i64 eu.n, .string ⟨eu.s.toArray⟩, .slice eA enl ecl, .slice eB enm ecm]).toArray = (newC true ek [.int .i64 eu.kd, .bool eu.is, .int .i64 eu.n, .string ⟨eu.s.toArray⟩, .slice eA enl ecl, .slice eB enm ecm]).toArray by rw [HKV.out.2.1])
              obtain ⟨o0, o1, o2, o3, o4, o5, _⟩ := cells6s HO9.out
              have HKR := Lib.hid (And.intro HOR.out.2.2.2.1 HOR.out.2.2.2.2)
              have HBW9 := Lib.hid (hBr.out.then_ HB9.out)
              have HZW9 := Lib.hid (hZr.out.later HB9.out)
              clear h1k o0 o1 o2 o3 o4
              go_wp2_with (at_builtin; refine wpList_append_rowK true rfl _ _ rfl w.heap.size (G + 1) (.slice B k cm) R k rfl HR9.out hk6 HGL.out [.int .i64 eu.kd, .bool eu.is, .int .i64 eu.n, .string ⟨eu.s.toArray⟩, .slice eA enl ecl, .slice eB enm ecm] HEK.out _ _ rfl (HQ7.out.trans rfl).symm rfl HJ2.out ?_; intro A7 c7 w7 h7 g7; obtain ⟨HR7, HB7, HZ7, HO7, o0, o1, o2, o3, o4, o5, p0, p1, p2, p3, p4, p5⟩ := grown_box HWG HR9 HGL HO9 HBW9 HZW9 h7 g7; clear h7 g7)
              have HDS := Lib.hid (show DocSt w.heap.size G R kind v (q + 1) (w7.setCell ⟨G, 5, none⟩ (.slice A7 (k + 1) c7)) from ⟨k + 1, A7, c7, HO7.out.set_ 5 _, HR7.out.set (by have := HWG.out; omega) (Nat.lt_succ_self G), HKV.out.2.2.2, by have := HKV.out.1; omega, by have := HKR.out.2; omega⟩)
              have HBF := Lib.hid (show Below w.heap.size w (w7.setCell ⟨G, 5, none⟩ (.slice A7 (k + 1) c7)) from HB7.out.setCell (show w.heap.size ≤ G by have := HWG.out; omega) _)
              have HZF := Lib.hid (show Blk (w7.setCell ⟨G, 5, none⟩ (.slice A7 (k + 1) c7)) (w.heap.size + 1) 25 [.int .i64 0, .bool false, .int .i64 0, .string ⟨#[]⟩, .slice none 0 0, .slice none 0 0] from (Deep.blk_setCell_other _ _ _ _ (show w.heap.size + 1 ≠ G by have := HWG.out; omega)).trans HZ7.out)
              go_roundw
              case rel =>
                first
                  | exact ⟨q + 1, by omega, by go_num, HBF, HZF, HDS⟩
                  | (repeat apply Exists.intro
                     refine ⟨?e0, ?e1, HBF, HZF, HDS⟩
                     case e1 => go_num
                     case e0 => omega)
                  | (repeat apply Exists.intro
                     refine ⟨⟨?e0, ?e1, HBF, HZF, HDS⟩, ?f1⟩
                     case f1 => rfl
                     case e1 => go_num
                     case e0 => omega)
                  | fail
              case measure => simp [intOf]; omega
            | false =>
              have HK := Lib.hid (show keptO kind ek eu = none by rw [hke, HKS.out, if_neg (of_decide_eq_false HFB.out.symm)])
              clear hke
              have HDS := Lib.hid (show DocSt w.heap.size G R kind v (q + 1) w9 from ⟨k, B, cm, HOR.out.1.later HB9.out, HOR.out.2.1.below HB9.out, by have h := HRD.out; rw [HK.out] at h; exact h, HOR.out.2.2.2.1, by have := HOR.out.2.2.2.2; omega⟩)
              have HBF := Lib.hid (hBr.out.then_ HB9.out)
              have HZF := Lib.hid (hZr.out.later HB9.out)
              go_wp2_with fail
              go_roundw
              case rel =>
                first
                  | exact ⟨q + 1, by omega, by go_num, HBF, HZF, HDS⟩
                  | (repeat apply Exists.intro
                     refine ⟨?e0, ?e1, HBF, HZF, HDS⟩
                     case e1 => go_num
                     case e0 => omega)
                  | (repeat apply Exists.intro
                     refine ⟨⟨?e0, ?e1, HBF, HZF, HDS⟩, ?f1⟩
                     case f1 => rfl
                     case e1 => go_num
                     case e0 => omega)
                  | fail
              case measure => simp [intOf]; omega
    · obtain rfl : q = nm0 := by omega
      rw [docJ_end kind (by rw [← HN.out]; exact Nat.le_refl _)] at hRD
      have hkx : k = R.ext := by
        have h1 := JT.fall_ext R k
        rw [hRD] at h1
        have h2 : (0 : Nat) = R.ext - k := h1
        have := HOR.out.2.2.2.1
        omega
      subst hkx
      obtain ⟨w9, hw9⟩ : ∃ x, x = wq := ⟨_, rfl⟩
      subst hw9
      obtain ⟨A9, c9, he9, hroom, hjs⟩ := HOR.out.2.1.done (Nat.le_trans HOR.out.2.2.2.2 (Nat.le_trans hn50 (by decide)))
      have hA9 : B = A9 := by injection he9
      have hC9 : cm = c9 := by injection he9
      subst hA9 hC9
      have HL9 := Lib.hid (And.intro hroom hjs)
      have HO9 := Lib.hid HOR.out.1
      have HRQ := Lib.hid hRD
      clear he9 hroom hjs hRD
      obtain ⟨o0, o1, o2, o3, o4, o5, _⟩ := cells6s HO9.out
      obtain ⟨z0, z1, z2, z3, z4, z5, y0, y1, y2, y3, y4, y5⟩ := cells6s hZr.out
      go_wp2_with fail
      rw [HE.out]
      refine bodyPost_ret (res_cell6 rfl _ ⟨w.heap.size + 1, 0, none⟩ _ _ rfl (Blk.load (blk6o (o := 0) hZr.out) _ Try.underlying25 rfl size_v6)) rfl ⟨⟨none, B, 0, 0, R.ext, cm, rfl, ⟨rfl, Nat.le_refl _, by decide⟩, HL9.out.1, .inl rfl, HL9.out.2.stay (fun b o hb => cell6o (by have := hb.1; have := HWG.out; omega)) (fun b hb => by show b < (set6o _ _ 0 _ _ _ _ _ _).heap.size; rw [size6o]; exact hb.2), by show Fit 5 0 []; unfold Fit; decide⟩, below6o hBr.out (by omega)⟩
theorem refcontent_calls (kind : List UInt8) (v : Jv) (A0 B0 : Option Addr) (nl0 cl0 nm0 cm0 : Nat) (w : World) (hv : VOk w v A0 B0 nl0 cl0 nm0 cm0) (hbk : v.m.ext ≤ 50000) :
    Calls Try.prog 10 #[.string ⟨kind.toArray⟩, .agg #[.int .i64 v.kd, .bool v.is, .int .i64 v.n, .string ⟨v.s.toArray⟩, .slice A0 nl0 cl0, .slice B0 nm0 cm0]] w (CtPost (dcntJ kind v) w) := by
  by_cases hc : kind = [109, 46, 114, 111, 111, 109, 46, 99, 114, 101, 97, 116, 101]
  · exact refcontent_cre kind v A0 B0 nl0 cl0 nm0 cm0 w hv hbk hc
  · by_cases h5 : v.kd = 5
    · exact refcontent_map kind v A0 B0 nl0 cl0 nm0 cm0 w hv hbk hc h5
    · exact refcontent_oth kind v A0 B0 nl0 cl0 nm0 cm0 w hv hbk hc h5
end Go.Proofs.Ytlfmknebkfnliaa
