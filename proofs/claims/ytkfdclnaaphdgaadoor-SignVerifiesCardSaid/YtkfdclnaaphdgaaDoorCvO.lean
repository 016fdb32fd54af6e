/- Layer 6: the document's multiples of a point, walked. -/
import Derived.Test.YtkfdclnaaphdgaaDoorCvG
namespace Go.Proofs.YtkfdclnaaphdgaaDoor
open Go.ChangeShapes Go.WideShapes Go.ChangeAt Go.RowKit Go.IntWalk
set_option linter.unusedVariables false

theorem Pt.times_double (k : Nat) (p : Pt) : (Pt.times k p).add (Pt.times k p) = Pt.times (k + k) p := (Pt.times_add k k p).symm
theorem Pt.times_next (k : Nat) (p : Pt) : (Pt.times k p).add p = Pt.times (k + 1) p := rfl
def MwS (p : Pt) (es : List UInt8) (c1 : List Value) (w : World) (go n : Nat) (wr : World) : Prop :=
  ∃ co, Blk wr go 52 co ∧ RL co (Pt.times (leN es / 2 ^ n) p) ∧ Blk wr w.heap.size 52 c1 ∧ Blk wr (w.heap.size + 1) 52 C64 ∧ Below w.heap.size w wr
set_option maxRecDepth 100000 in
set_option maxHeartbeats 8000000 in
theorem refMulP {c1 : List Value} {p : Pt} (h1 : RL c1 p) (es : List UInt8) (hl : es.length = 32) (w : World) :
    Calls Tryd.prog 22 #[.agg c1.toArray, .string ⟨es.toArray⟩] w (RPPost (Pt.times (leN es) p) w) := by
  have HL := Lib.hid hl
  have HP := Lib.hid h1
  clear hl h1
  have hbs : (⟨es.toArray⟩ : ByteArray).size = es.length := rfl
  go_enter Tryd.func22, Tryd.ntmps22
  go_upto_region 1 with fail
  refine wp_gen (fun W => Blk W w.heap.size 52 c1 ∧ Blk W (w.heap.size + 1) 52 C64 ∧ Below w.heap.size w W) ?_ ?_
  · exact alloc2 w _ _ _ _
  rintro W0 ⟨Bp2, Bp4, HB⟩
  go_wp2_with fail
  refine (refZeroP _).mono ?_
  rintro e W1 ⟨_, rfl, ⟨v5, rfl, h5⟩, HX⟩
  replace Bp2 := Bp2.later HX
  replace Bp4 := Bp4.later HX
  replace HB := HB.then_ HX
  clear HX
  obtain ⟨T0, HL0, N0⟩ := letS (W := W1) (T := 52) (z := C64) (cs := v5) (by rw [h5.len]; rfl)
  go_upto_region 2 with (refine wpList_store_mid rfl 52 _ _ rfl W1.heap.size 0 v5.toArray rfl rfl T0 h5.sizeA h5.one ?_)
  have Lp4 := Bp4.lt
  obtain ⟨g, eg⟩ : ∃ g, W1.heap.size = g := ⟨_, rfl⟩
  rw [eg] at N0 Lp4 ⊢
  have hz : leN es / 2 ^ 256 = 0 := Nat.div_eq_of_lt (by have := leN_lt es; rw [HL.out] at this; rw [show (2 : Nat) ^ 256 = 256 ^ 32 by decide]; exact this)
  refine wp_gen (fun W => MwS p es c1 w g 256 W) ⟨v5, N0, by rw [hz]; exact h5, Bp2.later (eg ▸ HL0), Bp4.later (eg ▸ HL0), HB.then_ (eg ▸ HL0)⟩ ?_
  clear Bp2 Bp4 HB T0 HL0 N0 eg hz h5
  have HG := Lib.hid Lp4
  clear Lp4
  rintro W2 hp
  have HPS := Lib.hid hp
  clear hp
  go_wp2_with fail
  go_loopw [6] (fun i wr => ∃ (n : Nat) (z : Int), n ≤ 256 ∧ i = .int .i64 z ∧ z = (n : Int) - 1 ∧ MwS p es c1 w g n wr) (fun i _ => (intOf i + 1).toNat)
  case atStart => exact ⟨256, 255, by omega, rfl, by omega, HPS.out⟩
  case round =>
    obtain ⟨n, z, hn, rfl, hz, hp⟩ := hrel
    clear HPS
    obtain ⟨co, Bo, ho, B2, B4, HB⟩ := hp
    have hlt := HG.out
    cases n with
    | succ m =>
      obtain rfl : z = (m : Int) := by omega
      have HO := Lib.hid ho
      have HR := Lib.hid Bo
      have HR2 := Lib.hid (And.intro B2 (And.intro B4 HB))
      clear ho Bo B2 B4 HB hz
      go_wp2_with (refine wpList_load_mid rfl 52 _ rfl g 0 rfl co _ HR.out.rng Tryd.underlying52 rfl HO.out.size ?_)
      refine (refSumP HO.out HO.out _).mono ?_
      rintro e w2 ⟨_, rfl, ⟨c2, rfl, h2⟩, b2⟩
      rw [Pt.times_double] at h2
      have no2 := HR.out.later b2
      have hlen : c2.length = co.length := by rw [h2.len, HO.out.len]
      have HT := Lib.hid (no2.there (n := c2.toArray.size) (by rw [List.size_toArray]; exact hlen))
      have HQ2 := Lib.hid h2
      have no3 := no2.setAll hlen
      have B23 := (HR2.out.1.later b2).setFar (g2 := g) (by omega) 0 c2
      have B43 := (HR2.out.2.1.later b2).setFar (g2 := g) (by omega) 0 c2
      have HB3 := blw_cells (show w.heap.size ≤ g by omega) c2 0 _ (HR2.out.2.2.then_ b2)
      have HQ := Lib.hid (And.intro no3 (And.intro B23 (And.intro B43 HB3)))
      clear no2 no3 hlen h2 B23 B43 HB3 b2 HR HR2
      obtain ⟨q, hq⟩ : ∃ q, m / 8 = q := ⟨_, rfl⟩
      obtain ⟨t, ht⟩ : ∃ t, m % 8 = t := ⟨_, rfl⟩
      have hlm : m / 8 < es.length := by rw [HL.out]; omega
      have hbit := bit_at es m hlm
      simp only [hq, ht] at hbit hlm
      have hbb := bits_one (es[q]).toNat t (es[q]).toNat_lt
      have HEX := Lib.hid (exp_step (leN es) m)
      have f1 : (m : Int) / 8 = (q : Int) := by omega
      have f2 : Int.tmod (m : Int) 8 = (t : Int) := by rw [Int.tmod_eq_emod_of_nonneg (by omega)]; omega
      have ht8 : t < 8 := by omega
      have e1 : IntKind.i64.wrap ((m : Int) - 1) = (m : Int) - 1 := IntWalk.i64_in _ (by omega)
      have hm0 : decide ((0 : Int) ≤ (m : Int)) = true := by simp
      have hmb : (m : Int) < 256 := by omega
      rcases Nat.mod_two_eq_zero_or_one ((es[q]).toNat / 2 ^ t) with hz | hz
      · rw [hz] at hbit hbb
        have hexp : leN es / 2 ^ m = leN es / 2 ^ (m + 1) + leN es / 2 ^ (m + 1) := by have := HEX.out; omega
        have HNW : Hid (MwS p es c1 w g m (w2.setCells g 0 c2)) := Lib.hid ⟨c2, HQ.out.1, by rw [hexp]; exact HQ2.out, HQ.out.2.1, HQ.out.2.2.1, HQ.out.2.2.2⟩
        clear hbit hexp hz hq ht
        go_wp2_with (refine wpList_store_mid rfl 52 _ _ rfl g 0 c2.toArray rfl rfl HT.out HQ2.out.sizeA HQ2.out.one ?_)
        exact ⟨⟨m, (m : Int) - 1, by omega, rfl, rfl, HNW.out⟩, by simp [intOf]⟩
      · rw [hz] at hbit hbb
        have hexp : leN es / 2 ^ m = leN es / 2 ^ (m + 1) + leN es / 2 ^ (m + 1) + 1 := by have := HEX.out; omega
        have HXP := Lib.hid hexp
        clear hbit hexp hz hq ht
        go_wp2_with (first
          | (refine wpList_store_mid rfl 52 _ _ rfl g 0 c2.toArray rfl rfl HT.out HQ2.out.sizeA HQ2.out.one ?_)
          | (refine wpList_load_mid rfl 52 _ rfl g 0 rfl c2 _ HQ.out.1.rng Tryd.underlying52 rfl HQ2.out.size ?_)
          | (refine wpList_load_mid rfl 52 _ rfl w.heap.size 0 rfl c1 _ HQ.out.2.1.rng Tryd.underlying52 rfl HP.out.size ?_))
        refine (refSumP HQ2.out HP.out _).mono ?_
        rintro e w4 ⟨_, rfl, ⟨c4, rfl, h4⟩, b4⟩
        rw [Pt.times_next] at h4
        have no4 := HQ.out.1.later b4
        have hlen : c4.length = c2.length := by rw [h4.len, HQ2.out.len]
        have HT4 := Lib.hid (no4.there (n := c4.toArray.size) (by rw [List.size_toArray]; exact hlen))
        have HQ4 := Lib.hid h4
        have HNW : Hid (MwS p es c1 w g m (w4.setCells g 0 c4)) := Lib.hid ⟨c4, no4.setAll hlen, by rw [HXP.out]; exact HQ4.out, (HQ.out.2.1.later b4).setFar (g2 := g) (by omega) 0 c4, (HQ.out.2.2.1.later b4).setFar (g2 := g) (by omega) 0 c4, blw_cells (show w.heap.size ≤ g by omega) c4 0 _ (HQ.out.2.2.2.then_ b4)⟩
        clear no4 hlen h4 b4
        go_wp2_with (refine wpList_store_mid rfl 52 _ _ rfl g 0 c4.toArray rfl rfl HT4.out HQ4.out.sizeA HQ4.out.one ?_)
        exact ⟨⟨m, (m : Int) - 1, by omega, rfl, rfl, HNW.out⟩, by simp [intOf]⟩
    | zero =>
      obtain rfl : z = -1 := by omega
      rw [Nat.pow_zero, Nat.div_one] at ho
      have HO := Lib.hid ho
      have HR := Lib.hid Bo
      obtain ⟨T0, HL1, N0⟩ := ansB (cs := co) B4 HB (by omega) (Below.refl _ _) (by rw [ho.len]; rfl)
      have HF := Lib.hid (And.intro T0 (And.intro HL1 N0))
      clear ho Bo B2 B4 HB hz T0 HL1 N0
      go_wp2_with (first
        | (refine wpList_load_mid rfl 52 _ rfl g 0 rfl co _ HR.out.rng Tryd.underlying52 rfl HO.out.size ?_)
        | (refine wpList_store_mid rfl 52 _ _ rfl (w.heap.size + 1) 0 co.toArray rfl rfl HF.out.1 HO.out.sizeA HO.out.one ?_))
      exact bodyPost_ret (v := .agg co.toArray) (res_cell rfl _ _ _ _ rfl (HF.out.2.2.load 52 Tryd.underlying52 rfl HO.out.size)) rfl ⟨_, rfl, ⟨_, rfl, HO.out⟩, HF.out.2.1⟩
end Go.Proofs.YtkfdclnaaphdgaaDoor
