/- Layers 4 and 6: texts put together (DoE DoF DoG DoH). -/
import Derived.Test.YtkfdclnaaphdgaaDoorDmA
import Derived.Test.YtkfdclnaaphdgaaDoorLh
namespace Go.Proofs.YtkfdclnaaphdgaaDoor.Dh
open Go.Proofs.YtkfdclnaaphdgaaDoor
open Go.ChangeShapes Go.WideShapes Go.ChangeAt Go.RowKit Go.IntWalk
set_option linter.unusedVariables false

/-- A digest's cells. -/
def HC (s : S8) (wt : List UInt8) (n tot : Nat) : List Value := us s.list ++ (u8b wt ++ [.int .i64 (n : Int), .int .u64 (tot : Int)])
theorem us8_len (s : S8) : (us s.list).length = 8 := rfl
theorem u8b_len (l : List UInt8) : (u8b l).length = l.length := by simp [u8b]
theorem HC_len (s : S8) (wt : List UInt8) (n tot : Nat) (h : wt.length = 128) : (HC s wt n tot).length = 138 := by
  simp [HC, u8b_len, h, us8_len]
theorem HC_count (s : S8) (wt : List UInt8) (n tot : Nat) (h : wt.length = 128) : (HC s wt n tot)[136]? = some (.int .i64 (n : Int)) := by
  unfold HC
  rw [List.getElem?_append_right (by rw [us8_len]; omega), us8_len, List.getElem?_append_right (by rw [u8b_len, h]; omega), u8b_len, h]; rfl
theorem HC_total (s : S8) (wt : List UInt8) (n tot : Nat) (h : wt.length = 128) : (HC s wt n tot)[137]? = some (.int .u64 (tot : Int)) := by
  unfold HC
  rw [List.getElem?_append_right (by rw [us8_len]; omega), us8_len, List.getElem?_append_right (by rw [u8b_len, h]; omega), u8b_len, h]; rfl
theorem HC_setCount (s : S8) (wt : List UInt8) (n m tot : Nat) (h : wt.length = 128) : (HC s wt n tot).set 136 (.int .i64 (m : Int)) = HC s wt m tot := by
  unfold HC
  rw [List.set_append, us8_len, if_neg (by omega), List.set_append, u8b_len, h, if_neg (by omega)]; rfl
theorem HC_setTotal (s : S8) (wt : List UInt8) (n m tot : Nat) (h : wt.length = 128) : (HC s wt n tot).set 137 (.int .u64 (m : Int)) = HC s wt n m := by
  unfold HC
  rw [List.set_append, us8_len, if_neg (by omega), List.set_append, u8b_len, h, if_neg (by omega)]; rfl
theorem HC_state (s t : S8) (wt : List UInt8) (n tot : Nat) : (HC s wt n tot).take 0 ++ us t.list ++ (HC s wt n tot).drop (0 + (us t.list).length) = HC t wt n tot := rfl
theorem HC_wait (s : S8) (wt : List UInt8) (n tot : Nat) (h : wt.length = 128) : ((HC s wt n tot).drop 8).take 128 = u8b wt := by
  unfold HC
  rw [List.drop_append_of_le_length (by rw [us8_len]; omega), show (us s.list).drop 8 = [] from rfl, List.nil_append, List.take_append_of_le_length (by rw [u8b_len]; omega), List.take_of_length_le (by rw [u8b_len]; omega)]
theorem HC_words (s : S8) (wt : List UInt8) (n tot : Nat) : ((HC s wt n tot).drop 0).take 8 = us s.list := rfl
theorem HC_splice (s : S8) (wt ps : List UInt8) (n tot m : Nat) (h : wt.length = 128) (hm : m + ps.length ≤ 128) :
    (HC s wt n tot).take (8 + m) ++ (u8b ps ++ (HC s wt n tot).drop (8 + m + (u8b ps).length)) = HC s (splice wt m ps) n tot := by
  unfold HC splice
  rw [u8b_len, List.take_append, us8_len, List.drop_append, us8_len, show 8 + m - 8 = m by omega, show 8 + m + ps.length - 8 = m + ps.length by omega,
    List.take_of_length_le (show (us s.list).length ≤ 8 + m by rw [us8_len]; omega), List.drop_of_length_le (show (us s.list).length ≤ 8 + m + ps.length by rw [us8_len]; omega),
    List.nil_append, List.take_append_of_le_length (by rw [u8b_len]; omega), List.drop_append_of_le_length (by rw [u8b_len]; omega)]
  simp [u8b, List.map_take, List.map_drop]
/-- The digest under way at block g: bs were given; so many are told. -/
def HSt (w : World) (g : Nat) (bs : List UInt8) (tot : Nat) : Prop :=
  ∃ wt : List UInt8, wt.length = 128 ∧ wt.take (bs.length % 128) = bs.drop (128 * (bs.length / 128)) ∧ Blk w g 130 (HC (stN bs (bs.length / 128)) wt (bs.length % 128) tot)
theorem wait_step (xs ps wt : List UInt8) (hw : wt.length = 128) (ht : wt.take (xs.length % 128) = xs.drop (128 * (xs.length / 128))) (hn : xs.length % 128 + ps.length ≤ 128) :
    (splice wt (xs.length % 128) ps).length = 128 ∧ (splice wt (xs.length % 128) ps).take (xs.length % 128 + ps.length) = (xs ++ ps).drop (128 * (xs.length / 128)) := by
  refine ⟨by rw [length_splice _ _ _ (by omega), hw], ?_⟩
  rw [List.drop_append_of_le_length (by omega), ← ht]
  unfold splice
  rw [← List.append_assoc, List.take_append_of_le_length (by simp; omega), List.take_of_length_le (by simp; omega)]
theorem stN_same (xs ps : List UInt8) : stN (xs ++ ps) (xs.length / 128) = stN xs (xs.length / 128) := stN_app _ _ _ (by omega)
/-- A piece that doesn't fill the block. -/
theorem piece_part (xs ps wt : List UInt8) (hw : wt.length = 128) (ht : wt.take (xs.length % 128) = xs.drop (128 * (xs.length / 128))) (hn : xs.length % 128 + ps.length < 128) {W : World} {g tot m : Nat} (hm : xs.length % 128 + ps.length = m)
    (hB : Blk W g 130 (HC (stN xs (xs.length / 128)) (splice wt (xs.length % 128) ps) m tot)) : HSt W g (xs ++ ps) tot := by
  obtain ⟨h1, h2⟩ := wait_step xs ps wt hw ht (by omega)
  have e1 : (xs ++ ps).length / 128 = xs.length / 128 := by rw [List.length_append]; omega
  have e2 : (xs ++ ps).length % 128 = m := by rw [List.length_append]; omega
  refine ⟨_, h1, ?_, ?_⟩
  · rw [e1, e2, ← hm]; exact h2
  · rw [e1, e2, stN_same]; exact hB
/-- A piece that fills it. -/
theorem piece_full (xs ps wt : List UInt8) (hw : wt.length = 128) (ht : wt.take (xs.length % 128) = xs.drop (128 * (xs.length / 128))) (hn : xs.length % 128 + ps.length = 128) {W : World} {g tot : Nat}
    (hB : Blk W g 130 (HC (comp (stN xs (xs.length / 128)) (splice wt (xs.length % 128) ps)) (splice wt (xs.length % 128) ps) 0 tot)) : HSt W g (xs ++ ps) tot := by
  obtain ⟨h1, h2⟩ := wait_step xs ps wt hw ht (by omega)
  have e1 : (xs ++ ps).length / 128 = xs.length / 128 + 1 := by rw [List.length_append]; omega
  have e2 : (xs ++ ps).length % 128 = 0 := by rw [List.length_append]; omega
  refine ⟨_, h1, ?_, ?_⟩
  · rw [e1, e2, List.take_zero, List.drop_of_length_le (by rw [List.length_append]; omega)]
  · have h3 : ((xs ++ ps).drop (128 * (xs.length / 128))).take 128 = splice wt (xs.length % 128) ps := by
      rw [← h2, hn, List.take_take, Nat.min_self, List.take_of_length_le (by omega)]
    rw [e1, e2]
    show Blk W g _ (HC (comp (stN (xs ++ ps) (xs.length / 128)) (((xs ++ ps).drop (128 * (xs.length / 128))).take 128)) _ 0 tot)
    rw [h3, stN_same]; exact hB
theorem Tab.kept {w w1 : World} {g : Nat} (h : Tab w) (hg : w.grownBy w1 (some g)) (h0 : 4 < g) : Tab w1 :=
  ⟨fun j v hv => (hg.cell_far ⟨4, 0 + j, none⟩ h.2 (by simp; omega)).trans (h.1 j v hv), Nat.lt_of_lt_of_le h.2 hg.size⟩
theorem rb_keptP {w w1 : World} {g : Nat} {A : Option Addr} {bs : List UInt8} (h : RB w A bs) (hg : w.grownBy w1 (some g)) (hap : 0 < bs.length → ∀ b o, A = some ⟨b, o, none⟩ → b ≠ g) : RB w1 A bs :=
  fun k hk => RB.kept h hg (hap (by omega)) k hk
def WrS (g : Nat) (bs cs : List UInt8) (w : World) (b : Value) (wr : World) : Prop :=
  ∃ (j n c : Nat) (A : Option Addr), j ≤ cs.length ∧ b = .slice A n c ∧ Hid (n = cs.length - j) ∧ n ≤ c ∧ RB wr A (cs.drop j) ∧ (j < cs.length → ∀ x o, A = some ⟨x, o, none⟩ → x ≠ g) ∧ HSt wr g (bs ++ cs.take j) (bs.length + cs.length) ∧ w.grownBy wr (some g) ∧ Tab wr
set_option maxRecDepth 100000 in
set_option maxHeartbeats 4000000 in
theorem write_calls (g : Nat) (bs cs : List UInt8) (hb : bs.length + cs.length < 2 ^ 40) (A : Option Addr) (n c : Nat) (hn : Hid (n = cs.length)) (hc : n ≤ c) (w : World) (hT : Tab w) (hg0 : 4 < g) (hr : RB w A cs)
    (hap : 0 < cs.length → ∀ x o, A = some ⟨x, o, none⟩ → x ≠ g) (hh : HSt w g bs bs.length) :
    Calls Tryd.prog 73 #[.pointer (some ⟨g, 0, none⟩), .slice A n c] w fun e w' => e = .returned (.tuple #[]) ∧ HSt w' g (bs ++ cs) (bs.length + cs.length) ∧ w.grownBy w' (some g) := by
  obtain ⟨wt, hwt, htk, hB⟩ := hh
  have c1 := hB.cell (HC_total _ wt _ _ hwt)
  have f1 := hB.frozen 137
  have hs1 := hB.set_ 137 (.int .u64 ((bs.length + cs.length : Nat) : Int))
  rw [HC_setTotal _ _ _ _ _ hwt] at hs1
  obtain ⟨t0, ht0⟩ : ∃ t, bs.length = t := ⟨_, rfl⟩
  obtain ⟨tt, htt⟩ : ∃ t, bs.length + cs.length = t := ⟨_, rfl⟩
  have HN := hn
  have hwn : IntKind.u64.wrap (n : Int) = (n : Int) := by rw [IntKind.wrap_u64, hn.out]; omega
  have htn : IntKind.u64.wrap ((t0 : Int) + (n : Int)) = (tt : Int) := by rw [IntKind.wrap_u64, hn.out]; omega
  have H0 : Hid (WrS g bs cs w (.slice A n c) (w.setCell ⟨g, 137, none⟩ (.int .u64 (tt : Int)))) := Lib.hid (by
    rw [← htt]
    have hgb := gb_setCell w g 137 (.int .u64 ((bs.length + cs.length : Nat) : Int))
    refine ⟨0, n, c, A, by omega, rfl, hn, hc, by rw [List.drop_zero]; exact rb_keptP hr hgb hap, hap, ⟨wt, hwt, by rw [List.take_zero, List.append_nil]; exact htk, by rw [List.take_zero, List.append_nil]; exact hs1⟩, hgb, ?_⟩
    exact ⟨fun j v hv => (hgb.cell_far ⟨4, 0 + j, none⟩ hT.2 (by simp; omega)).trans (hT.1 j v hv), Nat.lt_of_lt_of_le hT.2 hgb.size⟩)
  rw [ht0] at c1
  have HTT := Lib.hid htt
  clear hT hr hap hB hs1 htk hn ht0 htt
  go_enter Tryd.func73, Tryd.ntmps73
  go_wp2_with fail
  clear c1 f1 hwn htn
  go_loopw [1] (WrS g bs cs w) (fun b _ => match b with | .slice _ n _ => n | _ => 0)
  case atStart => exact H0.out
  case round =>
    clear H0 HN hc
    obtain ⟨j, n, c, A, hj, rfl, hn, hc, hr, hap, ⟨wt, hwt, htk, hB⟩, hgb, hT⟩ := hrel
    by_cases hp : j < cs.length
    · obtain ⟨xs, hxs⟩ : ∃ xs, bs ++ cs.take j = xs := ⟨_, rfl⟩
      rw [hxs] at htk hB
      obtain ⟨m, hm⟩ : ∃ m, xs.length % 128 = m := ⟨_, rfl⟩
      obtain ⟨q, hq⟩ : ∃ q, xs.length / 128 = q := ⟨_, rfl⟩
      rw [hm, hq] at hB
      have hmb : m < 128 := by omega
      have hn0 : 0 < n := by rw [hn.out]; omega
      have c2 := hB.cell (HC_count _ wt _ _ hwt)
      have im : (0 : Int) ≤ (m : Int) ∧ (m : Int) ≤ 128 := by omega
      have hne : ¬ (128 = m) := by omega
      obtain ⟨x, o, rfl, hxl⟩ := hr.some (by rw [List.length_drop]; omega)
      have hxg := hap hp x o rfl
      obtain ⟨ps, hps⟩ : ∃ ps, (cs.drop j).take (128 - m) = ps := ⟨_, rfl⟩
      have hpl0 : ps.length = min (128 - m) (cs.length - j) := by rw [← hps, List.length_take, List.length_drop]
      obtain ⟨pl, hpl⟩ : ∃ p, ps.length = p := ⟨_, rfl⟩
      have hrp : RB wr (some ⟨x, o, none⟩) ps := by rw [← hps]; exact hr.take _
      have H1 := Lib.hid (And.intro (And.intro hwt htk) (And.intro hB (And.intro hgb (And.intro hT hr))))
      have HXM := Lib.hid (And.intro hxs (And.intro hm hq))
      have HPS := Lib.hid (And.intro (And.intro hps hpl) (And.intro hpl0 hrp))
      have hpb : pl + m ≤ 128 ∧ 0 < pl ∧ pl ≤ n := by rw [hn.out]; omega
      clear hwt htk hB hgb hT hr hap hxs hm hq hps hpl hpl0 hrp
      go_wp2_with fail
      go_still_tail 9, (by kernel_rfl)
      change wpList _ _ _ _ _ wr.drew
      refine wpList_copy_own rfl (.tmp 27) (.tmp 28) 25 25 rfl 5 Tryd.underlying25 (by kernel_rfl) g (8 + m) (128 - m) (128 - m) ⟨x, o, none⟩ n c rfl rfl _ 130 H1.out.2.1 (u8b ps) ?_ ?_ ?_ ?_ ?_
      · rw [u8b_len, HPS.out.2.1, hn.out]; exact Nat.min_comm _ _
      · exact (HPS.out.2.2.drewN 1).src
      · rw [u8b_len, HPS.out.1.2]; show 8 + m + pl ≤ (HC _ _ _ _).length; rw [HC_len _ _ _ _ H1.out.1.1]; omega
      · intro v hv; obtain ⟨y, _, rfl⟩ := List.mem_map.1 hv; rfl
      have hspl := HC_splice (stN xs q) wt ps m (bs.length + cs.length) m H1.out.1.1 (by rw [HPS.out.1.2]; omega)
      refine wpList_gen (fun W5 => Blk W5 g 130 (HC (stN xs q) (splice wt m ps) m (bs.length + cs.length)) ∧ wr.grownBy W5 (some g)) ?_ ?_
      · have h5 := (H1.out.2.1.drew).setRow (HC (stN xs q) (splice wt m ps) m (bs.length + cs.length))
        exact ⟨by simp only [List.toList_toArray]; rw [hspl]; exact h5, (gb_drewN wr 1 _).trans (gb_setRow _ _ _)⟩
      rintro W5 ⟨hB5, hg5⟩
      have hws := wait_step xs ps wt H1.out.1.1 H1.out.1.2 (by rw [HXM.out.2.1, HPS.out.1.2]; omega)
      rw [HXM.out.2.1, HXM.out.2.2] at hws
      have hps2 : cs.take j ++ ps = cs.take (j + pl) := by
        have e : ps = (cs.drop j).take pl := by rw [← HPS.out.1.1, List.take_eq_take_min]; congr 1; rw [List.length_drop]; have := HPS.out.2.1; have := HPS.out.1.2; omega
        rw [e, ← List.take_add]
      have hxs2 : xs ++ ps = bs ++ cs.take (j + pl) := by rw [← HXM.out.1, List.append_assoc, hps2]
      have hdr : (cs.drop j).drop pl = cs.drop (j + pl) := by rw [List.drop_drop]
      have hr6 : ∀ W, wr.grownBy W (some g) → RB W (if c = pl then some ⟨x, o, none⟩ else some ⟨x, o + pl, none⟩) (cs.drop (j + pl)) := by
        intro W hW
        have h := (H1.out.2.2.2.2.kept hW (by rintro b o' h; injection h with h; injection h with h1; rw [← h1]; exact hxg)).cut pl c (by rw [List.length_drop, ← hn.out]; omega) (by rw [List.length_drop, ← hn.out]; exact hc)
        rw [hdr] at h
        by_cases e : c = pl
        · rw [if_pos e] at h ⊢; exact h
        · rw [if_neg e] at h ⊢; simpa [Addr.add, show ¬ (pl = 0) by omega] using h
      have c5 := hB5.cell (HC_count _ (splice wt m ps) _ _ hws.1)
      have f5 := hB5.frozen 136
      have hB6 := hB5.set_ 136 (.int .i64 ((m + pl : Nat) : Int))
      rw [HC_setCount _ _ _ _ _ hws.1] at hB6
      obtain ⟨mp, hmp⟩ : ∃ p, m + pl = p := ⟨_, rfl⟩
      rw [hmp] at hB6
      have ew : IntKind.i64.wrap ((m : Int) + (pl : Int)) = (mp : Int) := (IntWalk.i64_in _ (by omega)).trans (by omega)
      have hpl1 : (u8b ps).length = pl := by rw [u8b_len]; exact HPS.out.1.2
      rw [hpl1]
      have HB6 := Lib.hid (And.intro hB6 (hg5.trans (gb_setCell W5 g 136 (.int .i64 (mp : Int)))))
      have HW := Lib.hid hws
      have HR6 := Lib.hid hr6
      have HX2 := Lib.hid hxs2
      have hple : (pl : Int) ≤ (n : Int) ∧ (n : Int) ≤ (c : Int) := by omega
      have HMP := Lib.hid hmp
      clear hB5 hg5 hws hspl hps2 hxs2 hdr hr6 hpl1 hB6 hmp
      have hap6 : ∀ x' o', (if c = pl then some (⟨x, o, none⟩ : Addr) else some ⟨x, o + pl, none⟩) = some ⟨x', o', none⟩ → x' ≠ g := by
        intro x' o' h
        split at h <;> (injection h with h; injection h with h1; rw [← h1]; exact hxg)
      have HAP := Lib.hid hap6
      clear hap6
      by_cases hfull : mp = 128
      · have hfi : (mp : Int) = 128 := by omega
        have HFU := Lib.hid hfull
        obtain ⟨w5, hw5⟩ : ∃ l, splice wt m ps = l := ⟨_, rfl⟩
        rw [hw5] at HB6 HW
        have HW5 := Lib.hid hw5
        rw [hfi] at HB6
        clear hw5 hfull
        go_upto_region 7 with (fail)
        refine wp_gen (fun W6 => Blk W6 g 130 (HC (stN xs q) w5 mp (bs.length + cs.length)) ∧ wr.grownBy W6 (some g)) HB6.out ?_
        clear c5 f5 HB6 c2
        rintro W6 ⟨hB6, hg6⟩
        have hT6 := H1.out.2.2.2.1.kept hg6 hg0
        have hr1 : W6.rangeAt g 0 (us (stN xs q).list) := hB6.rngAt 0 8
        have hr2 : W6.rangeAt g 8 (u8b w5) := by
          have := hB6.rngAt 8 128
          rw [HC_wait _ _ _ _ HW.out.1] at this; exact this
        have hz2 : (Tryd.prog.info? 128).map (·.size) = some (u8b w5).length := by rw [u8b_len, HW.out.1]; exact sizeBlk
        have hca : ∀ W, Below W6.heap.size W6 W → Calls Tryd.prog 95 #[.agg (us (stN xs q).list).toArray, .agg (u8b w5).toArray] W fun e w' => e = .returned (.agg (us (comp (stN xs q) w5).list).toArray) ∧ Below W.heap.size W w' :=
          fun W hW => after_calls (stN xs q) (stN_inU _ _) w5 HW.out.1 W (hT6.later hW)
        clear hfi
        apply wp_region_g 10 (by kernel_rfl) (by kernel_rfl)
        simp only [List.take_succ_cons, List.take_zero, List.drop_succ_cons, List.drop_zero]
        apply lg_pure (.pointer (some ⟨g, 0, none⟩)) rfl (by intro W; go_simp)
        simp only [Act.put, List.setIfInBounds_toArray, List.set_cons_succ, List.set_cons_zero]
        apply lg_pure (.pointer (some ⟨g, 0, none⟩)) rfl (by intro W; go_simp)
        simp only [Act.put, List.setIfInBounds_toArray, List.set_cons_succ, List.set_cons_zero]
        apply lg_pure (.pointer (some ⟨g, 0, none⟩)) rfl (by intro W; go_simp)
        simp only [Act.put, List.setIfInBounds_toArray, List.set_cons_succ, List.set_cons_zero]
        apply lg_pure (.pointer (some ⟨g, 0, none⟩)) rfl (by intro W; go_simp)
        simp only [Act.put, List.setIfInBounds_toArray, List.set_cons_succ, List.set_cons_zero]
        apply lg_load 86 (.tmp 49) rfl g 0 (us (stN xs q).list) _ hr1 hB6.lt Tryd.underlying86 rfl size8 rfl rfl
        simp only [Act.put, List.setIfInBounds_toArray, List.set_cons_succ, List.set_cons_zero]
        apply lg_pure (.pointer (some ⟨g, 0, none⟩)) rfl (by intro W; go_simp)
        simp only [Act.put, List.setIfInBounds_toArray, List.set_cons_succ, List.set_cons_zero]
        apply lg_pure (.pointer (some ⟨g, 0, none⟩)) rfl (by intro W; go_simp)
        simp only [Act.put, List.setIfInBounds_toArray, List.set_cons_succ, List.set_cons_zero]
        apply lg_pure (.pointer (some ⟨g, 8, none⟩)) rfl (by intro W; go_simp)
        simp only [Act.put, List.setIfInBounds_toArray, List.set_cons_succ, List.set_cons_zero]
        apply lg_load 128 (.tmp 53) rfl g 8 (u8b w5) _ hr2 hB6.lt Tryd.underlying128 rfl hz2 rfl rfl
        simp only [Act.put, List.setIfInBounds_toArray, List.set_cons_succ, List.set_cons_zero]
        apply lg_callx_in (.agg (us (comp (stN xs q) w5).list).toArray) 95 #[.agg (us (stN xs q).list).toArray, .agg (u8b w5).toArray] rfl (by intro W; go_simp) hca
        simp only [Act.put, List.setIfInBounds_toArray, List.set_cons_succ, List.set_cons_zero]
        refine lg_nil ?_
        intro w7 hC7
        have hB7 := hB6.later hC7.1
        have hg7 : wr.grownBy w7 (some g) := hg6.trans (gb_below hC7.1)
        obtain ⟨st, hst⟩ : ∃ s, comp (stN xs q) w5 = s := ⟨_, rfl⟩
        rw [hst]
        have hth := hB7.thereAt (o := 0) (n := (us st.list).toArray.size) (by rw [HC_len _ _ _ _ HW.out.1]; show 0 + 8 ≤ _; omega)
        have hB8 := hB7.setAt (o := 0) (vs := us st.list) (by rw [HC_len _ _ _ _ HW.out.1]; show 0 + 8 ≤ _; omega)
        rw [HC_state] at hB8
        have hg8 := hg7.trans (gb_setCells g (us st.list) 0 w7)
        have c8 := hB8.cell (HC_count _ w5 _ _ HW.out.1)
        have f8 := hB8.frozen 136
        have hB9 := hB8.set_ 136 (.int .i64 ((0 : Nat) : Int))
        rw [HC_setCount _ _ _ _ _ HW.out.1] at hB9
        have hg9 := hg8.trans (gb_setCell (w7.setCells g 0 (us st.list)) g 136 (.int .i64 ((0 : Nat) : Int)))
        have HH := Lib.hid hth
        have HO : Hid ((us st.list).toArray.all (·.oneCell') = true) := Lib.hid (oneInts _ _)
        have HZ8 : Hid ((Tryd.prog.info? 86).map (·.size) = some (us st.list).toArray.size) := Lib.hid size8
        have H9 := Lib.hid (And.intro hB9 hg9)
        have HST := Lib.hid hst
        have hW8 : ∃ W, w7.setCells g 0 (us st.list) = W := ⟨_, rfl⟩
        clear hB6 hg6 hT6 hr1 hr2 hz2 hca hB7 hg7 hC7 hth hB8 hg8 hB9 hg9 hst
        go_upto_region 8 with (refine wpList_store_mid rfl 86 _ _ rfl g 0 (us st.list).toArray rfl rfl HH.out HZ8.out HO.out ?_)
        obtain ⟨W8, hW8⟩ := hW8
        rw [hW8] at c8 f8 H9
        rw [hW8]
        clear hW8 HH
        go_wp2_with fail
        refine ⟨⟨j + pl, n - pl, c - pl, _, by have := hn.out; omega, rfl, Lib.hid (by have := hn.out; omega), by omega, HR6.out _ H9.out.2, (fun _ => HAP.out), ?_, H1.out.2.2.1.trans H9.out.2, H1.out.2.2.2.1.kept H9.out.2 hg0⟩, by show n - pl < n; omega⟩
        rw [← HX2.out]
        refine piece_full xs ps wt H1.out.1.1 H1.out.1.2 (by rw [HXM.out.2.1, HPS.out.1.2]; have := HMP.out; have := HFU.out; omega) ?_
        rw [HXM.out.2.1, HXM.out.2.2, HW5.out, HST.out]
        exact H9.out.1
      · go_wp2_with fail
        refine ⟨⟨j + pl, n - pl, c - pl, _, by have := hn.out; omega, rfl, Lib.hid (by have := hn.out; omega), by omega, HR6.out _ HB6.out.2, (fun _ => HAP.out), ?_, H1.out.2.2.1.trans HB6.out.2, H1.out.2.2.2.1.kept HB6.out.2 hg0⟩, by show n - pl < n; omega⟩
        rw [← HX2.out]
        exact piece_part xs ps wt H1.out.1.1 H1.out.1.2 (by rw [HXM.out.2.1, HPS.out.1.2]; have := HMP.out; omega) (m := mp) (by rw [HXM.out.2.1, HPS.out.1.2, HMP.out]) (by rw [HXM.out.2.1, HXM.out.2.2]; exact HB6.out.1)
    · obtain rfl : j = cs.length := by omega
      have hn0 : n = 0 := by rw [hn.out]; omega
      subst hn0
      rw [List.take_length] at hB htk
      have H2 : Hid (HSt wr g (bs ++ cs) (bs.length + cs.length) ∧ w.grownBy wr (some g)) := Lib.hid ⟨⟨wt, hwt, htk, hB⟩, hgb⟩
      clear hB htk hgb hT hr hap hwt hn
      go_wp2_with fail
      exact bodyPost_end (v := .tuple #[]) (by simp [results, Tryd.results73, go_sem]) rfl ⟨rfl, H2.out⟩
end Go.Proofs.YtkfdclnaaphdgaaDoor.Dh
namespace Go.Proofs.YtkfdclnaaphdgaaDoor.Dh
open Go.Proofs.YtkfdclnaaphdgaaDoor
open Go.ChangeShapes Go.WideShapes Go.ChangeAt Go.RowKit Go.IntWalk
set_option linter.unusedVariables false

def tailP (n k : Nat) : List UInt8 := (List.range 16).map fun j => if 15 - j < k then UInt8.ofNat (8 * n / 256 ^ (15 - j) % 256) else 0
theorem tailP_len (n k : Nat) : (tailP n k).length = 16 := by simp [tailP]
theorem tailP_zero (n : Nat) : tailP n 0 = List.replicate 16 0 := by unfold tailP; simp; rfl
theorem tailP_step (n k : Nat) (hk : k < 8) : (tailP n k).set (15 - k) (UInt8.ofNat (8 * n / 256 ^ k % 256)) = tailP n (k + 1) := by
  apply List.ext_getElem?
  intro j
  rw [List.getElem?_set]
  by_cases hr : j < 16
  · simp only [tailP, List.getElem?_map, List.getElem?_range hr, Option.map_some, List.length_map, List.length_range]
    by_cases hj : 15 - k = j
    · subst hj
      rw [if_pos rfl, if_pos hr, if_pos (by omega), show 15 - (15 - k) = k by omega]
    · rw [if_neg hj]
      by_cases h2 : 15 - j < k
      · rw [if_pos h2, if_pos (by omega)]
      · rw [if_neg h2, if_neg (by omega)]
  · rw [List.getElem?_eq_none (by rw [tailP_len]; omega), List.getElem?_eq_none (by rw [tailP_len]; omega), tailP_len]
    split
    · rw [if_neg (by omega)]
    · rfl
theorem tailP_full (n : Nat) (h : n < 2 ^ 40) : tailP n 8 = tailF n := by
  unfold tailP tailF
  apply List.map_congr_left
  intro j hj
  have hj2 := List.mem_range.1 hj
  by_cases h2 : 15 - j < 8
  · rw [if_pos h2]
  · rw [if_neg h2]
    have h3 : 8 * n / 256 ^ (15 - j) = 0 := by
      apply Nat.div_eq_of_lt
      exact Nat.lt_of_lt_of_le (show 8 * n < 256 ^ 8 by omega) (Nat.pow_le_pow_right (by decide) (by omega))
    rw [h3]; rfl
theorem sizeTs : (Tryd.prog.info? 132).map (·.size) = some 16 := by kernel_rfl
theorem u8b_set (bs : List UInt8) (k : Nat) (c : UInt8) : (u8b bs).set k (.int .u8 (c.toNat : Int)) = u8b (bs.set k c) := by simp [u8b, List.map_set]
theorem one8b (bs : List UInt8) : (u8b bs).toArray.all (·.oneCell') = true := by
  apply all_oneCell_toArray
  intro v hv
  obtain ⟨y, _, rfl⟩ := List.mem_map.1 hv
  rfl
theorem u8v (m : Nat) : ((m % 256 : Nat) : Int) = ((UInt8.ofNat (m % 256)).toNat : Int) := by simp
theorem len_byte (n k : Nat) : (n : Int) * 8 / 2 ^ (8 * k) % 256 = ((8 * n / 256 ^ k % 256 : Nat) : Int) := by
  rw [Int.natCast_emod, Int.natCast_ediv, Int.natCast_mul, Int.natCast_pow, Int.pow_mul, Int.mul_comm]; rfl
theorem set_same {α : Type} {l : List α} {k : Nat} {v : α} (h : l[k]? = some v) : l.set k v = l := by
  apply List.ext_getElem?
  intro j
  rw [List.getElem?_set]
  by_cases hj : k = j
  · subst hj; rw [if_pos rfl, if_pos (List.getElem?_eq_some_iff.1 h).1, h]
  · rw [if_neg hj]
def LnS (n : Nat) (w : World) (k : Nat) (wr : World) : Prop := Blk wr (w.heap.size + 1) 132 (u8b (tailP n k)) ∧ Blk wr w.heap.size 132 (u8b (List.replicate 16 0)) ∧ Below w.heap.size w wr
set_option maxRecDepth 100000 in
set_option maxHeartbeats 4000000 in
theorem length_calls (n : Nat) (hn : n < 2 ^ 40) (w : World) :
    Calls Tryd.prog 96 #[.int .u64 (n : Int)] w fun e w' => e = .returned (.agg (u8b (tailF n)).toArray) ∧ Below w.heap.size w w' := by
  go_enter Tryd.func96, Tryd.ntmps96
  go_upto_region 2 with (fail)
  refine wp_gen (LnS n w 0) ?_ ?_
  · obtain ⟨h1, h2, h3⟩ := alloc2 w (u8b (List.replicate 16 0)) (u8b (List.replicate 16 0)) 132 132
    exact ⟨by rw [tailP_zero]; exact h2, h1, h3⟩
  intro W1 hs1
  have HS1 := Lib.hid hs1
  clear hs1
  go_wp2_with fail
  go_loopw [5] (fun i wr => ∃ k : Nat, k ≤ 8 ∧ i = .int .i64 (k : Int) ∧ LnS n w k wr) (fun i _ => 8 - (intOf i).toNat)
  case atStart => exact ⟨0, by omega, rfl, HS1.out⟩
  case round =>
    obtain ⟨k, hk, rfl, hu, hz, hbw⟩ := hrel
    by_cases hp : k < 8
    · obtain ⟨d, hd⟩ : ∃ d, 15 - k = d := ⟨_, rfl⟩
      have hkd : IntKind.i64.wrap (15 - (k : Int)) = (d : Int) := (IntWalk.i64_in _ (by omega)).trans (by omega)
      have hdl : d < 16 := by omega
      obtain ⟨y, hy⟩ : ∃ y, (u8b (tailP n k))[d]? = some y := ⟨_, List.getElem?_eq_getElem (by rw [u8b_len, tailP_len]; omega)⟩
      have c1 := hu.cell hy
      have f1 := hu.frozen d
      have HU := Lib.hid (And.intro hu (And.intro hz hbw))
      have HD := Lib.hid hd
      clear hu hz hbw hy hd
      go_wp2_with fail
      refine ⟨⟨k + 1, by omega, by go_num, ?_⟩, by simp [intOf]; omega⟩
      rw [len_byte n k, u8v (8 * n / 256 ^ k)]
      refine ⟨?_, HU.out.2.1.other (by omega) _, HU.out.2.2.setCell (by show w.heap.size ≤ w.heap.size + 1; omega) _⟩
      have h := HU.out.1.set_ d (.int .u8 ((UInt8.ofNat (8 * n / 256 ^ k % 256)).toNat : Int))
      rw [u8b_set, ← HD.out, tailP_step n k hp] at h
      rw [← HD.out]
      exact h
    · obtain rfl : k = 8 := by omega
      rw [show ((8 : Nat) : Int) = (8 : Int) from rfl]
      have h70 : (u8b (tailP n 8))[7]? = some (.int .u8 (((0 : UInt8).toNat : Nat) : Int)) := u8b_at (by simp [tailP])
      have c7 := hu.cell h70
      have f7 := hu.frozen 7
      have hu7 := hu.set_ 7 (.int .u8 ((n : Int) / 2305843009213693952))
      rw [show (u8b (tailP n 8)).set 7 (.int .u8 ((n : Int) / 2305843009213693952)) = u8b (tailP n 8) from by rw [show (n : Int) / 2305843009213693952 = (((0 : UInt8).toNat : Nat) : Int) by show _ = (0 : Int); omega]; exact set_same h70] at hu7
      have hz := hz.other (g2 := w.heap.size + 1) (k := 7) (by omega) (.int .u8 ((n : Int) / 2305843009213693952))
      have hbw := hbw.setCell (p := ⟨w.heap.size + 1, 7, none⟩) (by show w.heap.size ≤ w.heap.size + 1; omega) (.int .u8 ((n : Int) / 2305843009213693952))
      have hu := hu7
      have HCF := Lib.hid (And.intro c7 f7)
      clear h70 c7 f7 hu7
      rw [tailP_full n hn] at hu
      have hlen : (u8b (tailF n)).length = 16 := by rw [u8b_len, tailF_len]
      obtain ⟨fs, hfs⟩ : ∃ fs, u8b (tailF n) = fs := ⟨_, rfl⟩
      have hone : fs.toArray.all (·.oneCell') = true := by rw [← hfs]; exact one8b _
      rw [hfs] at hu hlen
      have hsz : (Tryd.prog.info? 132).map (·.size) = some fs.length := by rw [hlen]; exact sizeTs
      have HRF := Lib.hid hu.rng
      have HTH := Lib.hid (hz.there (n := fs.toArray.size) (by simp [hlen, u8b_len]))
      have HZ2 := Lib.hid (Blk.load (hz.setAll (vs := fs) (by simp [hlen, u8b_len])) 132 Tryd.underlying132 rfl hsz)
      have HB2 := Lib.hid (blw_cells (Nat.le_refl _) fs 0 _ hbw)
      have HO := Lib.hid hone
      have HZF := Lib.hid hsz
      have HZG : Hid ((Tryd.prog.info? 132).map (·.size) = some fs.toArray.size) := Lib.hid (by simpa using hsz)
      have HFS := Lib.hid hfs
      clear hu hz hbw hlen hfs hone hsz
      have c7 := HCF.out.1
      have f7 := HCF.out.2
      go_wp2_with (first
        | (refine wpList_load_mid rfl 132 _ rfl (w.heap.size + 1) 0 rfl fs _ HRF.out Tryd.underlying132 rfl HZF.out ?_)
        | (refine wpList_store_mid rfl 132 _ _ rfl w.heap.size 0 fs.toArray rfl rfl HTH.out HZG.out HO.out ?_))
      exact bodyPost_ret (v := .agg fs.toArray) (res_cell rfl _ _ _ _ rfl HZ2.out) rfl ⟨by rw [HFS.out], HB2.out⟩
end Go.Proofs.YtkfdclnaaphdgaaDoor.Dh
namespace Go.Proofs.YtkfdclnaaphdgaaDoor.Dh
open Go.Proofs.YtkfdclnaaphdgaaDoor
open Go.ChangeShapes Go.WideShapes Go.ChangeAt Go.RowKit Go.IntWalk
set_option linter.unusedVariables false

theorem sizeSz : (Tryd.prog.info? 28).map (·.size) = some 64 := by kernel_rfl
theorem sizeHash : (Tryd.prog.info? 130).map (·.size) = some 138 := by kernel_rfl
theorem HC_one (s : S8) (wt : List UInt8) (n tot : Nat) : (HC s wt n tot).toArray.all (·.oneCell') = true := by
  apply all_oneCell_toArray
  intro v hv
  simp only [HC, us, u8b, List.mem_append, List.mem_map, List.mem_cons, List.not_mem_nil, or_false] at hv
  rcases hv with ⟨y, _, rfl⟩ | ⟨y, _, rfl⟩ | rfl | rfl <;> rfl
theorem zeroHash : (Tryd.prog.info? 130).map (·.zero) = some (some (.agg (HC ⟨0, 0, 0, 0, 0, 0, 0, 0⟩ (List.replicate 128 0) 0 0).toArray)) := by kernel_rfl
theorem zeroBlk : (Tryd.prog.info? 128).map (·.zero) = some (some (.agg (u8b (List.replicate 128 0)).toArray)) := by kernel_rfl
def padL : List UInt8 := 128 :: List.replicate 127 0
theorem padL_len : padL.length = 128 := by simp [padL]
theorem padL_take (k : Nat) (h1 : 1 ≤ k) (h2 : k ≤ 128) : padL.take k = 128 :: List.replicate (k - 1) 0 := by
  obtain ⟨j, rfl⟩ : ∃ j, k = j + 1 := ⟨k - 1, by omega⟩
  unfold padL
  rw [List.take_succ_cons, List.take_replicate, show min j 127 = j by omega, Nat.add_sub_cancel]
theorem build_pad (W : World) : (Instr.build 128 #[(0, .int .u8 128)]).run Tryd.prog W = .ok (.agg (u8b padL).toArray) W := by kernel_rfl
theorem _root_.Go.Proofs.YtkfdclnaaphdgaaDoor.Blk.rbU {w : World} {g : Nat} {T : TypeId} {bs : List UInt8} (h : Blk w g T (u8b bs)) : RB w (some ⟨g, 0, none⟩) bs := by
  intro k hk
  refine ⟨g, 0, rfl, h.lt, ?_⟩
  rw [Nat.zero_add]
  refine h.cell ?_
  rw [u8b_at (List.getElem?_eq_getElem hk)]
  simp [List.getD, List.getElem?_eq_getElem hk]
def SmW (bs : List UInt8) (g : Nat) (w W : World) : Prop := Blk W w.heap.size 28 (u8b (List.replicate 64 0)) ∧ Blk W (w.heap.size + 1) 28 (u8b (List.replicate 64 0)) ∧ Below w.heap.size w W
theorem SmW.later {bs : List UInt8} {g : Nat} {w W W1 : World} (h : SmW bs g w W) (b : Below W.heap.size W W1) : SmW bs g w W1 := ⟨h.1.later b, h.2.1.later b, h.2.2.then_ b⟩
theorem SmW.gb {bs : List UInt8} {g x : Nat} {w W W1 : World} (h : SmW bs g w W) (b : W.grownBy W1 (some x)) (hx : w.heap.size + 1 < x) : SmW bs g w W1 :=
  ⟨h.1.kept b (by omega), h.2.1.kept b (by omega), h.2.2.gb b (by omega) h.2.2.size⟩
/-- The first k bytes are there. -/
def outP (D : List UInt8) (k : Nat) : List UInt8 := D.take k ++ List.replicate (64 - k) 0
theorem outP_zero (D : List UInt8) : outP D 0 = List.replicate 64 0 := by simp [outP]
theorem outP_len (D : List UInt8) (k : Nat) (h : D.length = 64) (hk : k ≤ 64) : (outP D k).length = 64 := by simp [outP]; omega
theorem outP_step (D : List UInt8) (k : Nat) (c : UInt8) (h : D[k]? = some c) (hl : D.length = 64) (hk : k < 64) : (outP D k).set k c = outP D (k + 1) := by
  unfold outP
  have hm : (D.take k).length = k := by rw [List.length_take]; omega
  rw [List.set_append, hm, if_neg (by omega), Nat.sub_self, show 64 - k = (64 - (k + 1)) + 1 by omega, List.replicate_succ, List.set_cons_zero, List.take_add_one, h]
  simp
theorem outP_full (D : List UInt8) (h : D.length = 64) : outP D 64 = D := by simp [outP, ← h]
theorem flat_at {f : Int → List UInt8} {n : Nat} (hf : ∀ x, (f x).length = n) : ∀ (l : List Int) (k j : Nat), k < l.length → j < n → (l.flatMap f)[n * k + j]? = (f (l.getD k 0))[j]?
  | [], k, j, h, _ => by simp at h
  | x :: l, 0, j, _, hj => by
    rw [List.flatMap_cons, Nat.mul_zero, Nat.zero_add, List.getElem?_append_left (by rw [hf]; exact hj)]; rfl
  | x :: l, k + 1, j, h, hj => by
    rw [List.flatMap_cons, List.getElem?_append_right (by rw [hf, Nat.mul_succ]; omega), hf, show n * (k + 1) + j - n = n * k + j by rw [Nat.mul_succ]; omega, flat_at hf l k j (by simpa using h) hj]; rfl
theorem digest_at (bs : List UInt8) (st : S8) (k j : Nat) (x : Int) (hd : digest bs = st.list.flatMap bytesW) (hx : st.list.getD k 0 = x) (hk : k < 8) (hj : j < 8) :
    (digest bs)[8 * k + j]? = some (UInt8.ofNat ((x / 2 ^ (56 - 8 * j)).toNat % 256)) := by
  rw [hd, flat_at (n := 8) (fun x => by simp [bytesW]) st.list k j hk hj, hx]
  simp [bytesW, hj]
theorem list_nonneg (s : S8) (h : s.InU) (k : Nat) : 0 ≤ s.list.getD k 0 := by
  unfold S8.InU InU at h
  have hk : k = 0 ∨ k = 1 ∨ k = 2 ∨ k = 3 ∨ k = 4 ∨ k = 5 ∨ k = 6 ∨ k = 7 ∨ 8 ≤ k := by omega
  rcases hk with rfl | rfl | rfl | rfl | rfl | rfl | rfl | rfl | hk
  · exact h.1.1
  · exact h.2.1.1
  · exact h.2.2.1.1
  · exact h.2.2.2.1.1
  · exact h.2.2.2.2.1.1
  · exact h.2.2.2.2.2.1.1
  · exact h.2.2.2.2.2.2.1.1
  · exact h.2.2.2.2.2.2.2.1
  · rw [List.getD_eq_getElem?_getD, List.getElem?_eq_none (show s.list.length ≤ k from hk)]; exact Int.le_refl 0
theorem byte_val (x : Int) (n : Nat) (h : 0 ≤ x) : x / 2 ^ n % 256 = ((UInt8.ofNat ((x / 2 ^ n).toNat % 256)).toNat : Int) := by
  obtain ⟨m, rfl⟩ : ∃ m : Nat, x = (m : Int) := ⟨x.toNat, by omega⟩
  have e : (m : Int) / 2 ^ n = ((m / 2 ^ n : Nat) : Int) := by rw [Int.natCast_ediv, Int.natCast_pow]; rfl
  rw [e, Int.toNat_natCast, ← u8v]; omega
def OuS (bs : List UInt8) (w : World) (k : Nat) (wr : World) : Prop := Blk wr (w.heap.size + 1) 28 (u8b (outP (digest bs) k)) ∧ Blk wr w.heap.size 28 (u8b (List.replicate 64 0)) ∧ Below w.heap.size w wr
set_option maxRecDepth 100000 in
set_option maxHeartbeats 4000000 in
theorem sum_calls (g : Nat) (bs : List UInt8) (hb : bs.length < 2 ^ 30) (w : World) (hT : Tab w) (hg0 : 4 < g) (hh : HSt w g bs bs.length) :
    Calls Tryd.prog 74 #[.pointer (some ⟨g, 0, none⟩)] w fun e w' => e = .returned (.agg (u8b (digest bs)).toArray) ∧ Below w.heap.size w w' := by
  obtain ⟨wt, hwt, htk, hB⟩ := hh
  have hgl := hB.lt
  have H0 := Lib.hid (And.intro htk (And.intro hB hT))
  clear htk hB hT
  go_enter Tryd.func74, Tryd.ntmps74
  go_upto_region 4 with (fail)
  refine wp_gen (fun W1 => SmW bs g w W1) (alloc2 w (u8b (List.replicate 64 0)) (u8b (List.replicate 64 0)) 28 28) ?_
  intro W1 hs1
  obtain ⟨fs, hfs⟩ : ∃ fs, HC (stN bs (bs.length / 128)) wt (bs.length % 128) bs.length = fs := ⟨_, rfl⟩
  have hfl : fs.length = 138 := by rw [← hfs]; exact HC_len _ _ _ _ hwt
  have hB1 := H0.out.2.1.below hs1.2.2 hgl
  rw [hfs] at hB1
  have HR1 := Lib.hid hB1.rng
  have HZ1 : Hid ((Tryd.prog.info? 130).map (·.size) = some fs.length) := Lib.hid (by rw [hfl]; exact sizeHash)
  have HZ2 : Hid ((Tryd.prog.info? 130).map (·.size) = some fs.toArray.size) := Lib.hid (by rw [List.size_toArray, hfl]; exact sizeHash)
  have HO1 : Hid (fs.toArray.all (·.oneCell') = true) := Lib.hid (by rw [← hfs]; exact HC_one _ _ _ _)
  obtain ⟨E, hE⟩ : ∃ E, W1.heap.size = E := ⟨_, rfl⟩
  obtain ⟨zs, hzs⟩ : ∃ z, HC ⟨0, 0, 0, 0, 0, 0, 0, 0⟩ (List.replicate 128 0) 0 0 = z := ⟨_, rfl⟩
  have hzl : zs.length = 138 := by rw [← hzs]; rfl
  have hzv : ∀ W, (zeroValue 130).run Tryd.prog W = .ok (.agg zs.toArray) W := fun W => run_zero (by rw [← hzs]; exact zeroHash) W
  have HT1 : Hid ((W1.alloc (.cells zs.toArray 130)).there W1.heap.size 0 fs.toArray.size) := Lib.hid ((Blk.new W1 zs 130).there (by rw [List.size_toArray, hfl, hzl]))
  have HZL := Lib.hid hzl
  have HS1 := Lib.hid (And.intro hs1 hB1)
  have HFS := Lib.hid (And.intro hfs hfl)
  have HEQ := Lib.hid hE
  clear hs1 hB1 hfs hfl hE hzs hzl
  go_upto_region 5 with (first
    | (refine wpList_load_mid rfl 130 _ rfl g 0 rfl fs _ HR1.out Tryd.underlying130 rfl HZ1.out ?_)
    | (refine wpList_store_mid rfl 130 _ _ rfl W1.heap.size 0 fs.toArray rfl rfl HT1.out HZ2.out HO1.out ?_))
  rw [HEQ.out]
  refine wp_gen (fun W2 => (SmW bs g w W2 ∧ Blk W2 E 130 fs) ∧ (w.heap.size + 1 < E ∧ (∀ B, B < E → W2.heap[B]? = W1.heap[B]?) ∧ E < W2.heap.size)) ?_ ?_
  · obtain ⟨h1, h2⟩ := HS1.out
    have hE := HEQ.out
    have hlt : w.heap.size + 1 < E := by rw [← hE]; exact h1.2.1.lt
    have b1 : Below W1.heap.size W1 (W1.alloc (.cells zs.toArray 130)) := (Below.refl _ _).alloc (Nat.le_refl _) _
    have b2 := blw_cells (Nat.le_refl _) fs 0 _ b1
    have hb := (Blk.new W1 zs 130).setAll (vs := fs) (by rw [HFS.out.2, HZL.out])
    rw [hE] at hb b2
    refine ⟨⟨h1.later (by rw [hE]; exact b2), hb⟩, hlt, fun B hB => b2.block B hB, hb.lt⟩
  rintro W2 ⟨⟨hs2, hb2⟩, hlt, hold, hE2⟩
  have hh2 : HSt W2 E bs bs.length := ⟨wt, hwt, H0.out.1, by rw [HFS.out.1]; exact hb2⟩
  have hg2 : Blk W2 g 130 (HC (stN bs (bs.length / 128)) wt (bs.length % 128) bs.length) := by
    have h := H0.out.2.1.below HS1.out.1.2.2 hgl
    exact (hold g (by omega)).trans h
  have H2 := Lib.hid (And.intro hs2 (And.intro hh2 hg2))
  have HOLD := Lib.hid hold
  clear hs2 hb2 hold hh2 hg2 hzv HT1 HO1 HZ1 HZ2 HR1 HS1 HFS HZL HEQ
  obtain ⟨F, hF⟩ : ∃ F, W2.heap.size = F := ⟨_, rfl⟩
  have hzb : ∀ W, (zeroValue 128).run Tryd.prog W = .ok (.agg (u8b (List.replicate 128 0)).toArray) W := fun W => run_zero zeroBlk W
  have hbu := build_pad
  have HT2 : Hid ((W2.alloc (.cells (u8b (List.replicate 128 0)).toArray 128)).there W2.heap.size 0 (u8b padL).toArray.size) := Lib.hid ((Blk.new W2 (u8b (List.replicate 128 0)) 128).there rfl)
  have HZ3 : Hid ((Tryd.prog.info? 128).map (·.size) = some (u8b padL).toArray.size) := Lib.hid sizeBlk
  have HO3 : Hid ((u8b padL).toArray.all (·.oneCell') = true) := Lib.hid (one8b _)
  have HF := Lib.hid hF
  clear hF
  go_upto_region 6 with (refine wpList_store_mid rfl 128 _ _ rfl W2.heap.size 0 (u8b padL).toArray rfl rfl HT2.out HZ3.out HO3.out ?_)
  rw [HF.out]
  clear hzb hbu
  refine wp_gen (fun W3 => (SmW bs g w W3 ∧ Blk W3 F 128 (u8b padL)) ∧ (HSt W3 E bs bs.length ∧ Blk W3 g 130 (HC (stN bs (bs.length / 128)) wt (bs.length % 128) bs.length))) ?_ ?_
  · have hF := HF.out
    have b1 : Below W2.heap.size W2 (W2.alloc (.cells (u8b (List.replicate 128 0)).toArray 128)) := (Below.refl _ _).alloc (Nat.le_refl _) _
    have b2 := blw_cells (Nat.le_refl _) (u8b padL) 0 _ b1
    have hb := (Blk.new W2 (u8b (List.replicate 128 0)) 128).setAll (vs := u8b padL) rfl
    obtain ⟨h1, ⟨wt2, h2, h3, h4⟩, h5⟩ := H2.out
    rw [hF] at hb b2
    have b3 : Below W2.heap.size W2 ((W2.alloc (.cells (u8b (List.replicate 128 0)).toArray 128)).setCells F 0 (u8b padL)) := by rw [hF]; exact b2
    exact ⟨⟨h1.later b3, hb⟩, ⟨wt2, h2, h3, h4.later b3⟩, h5.later b3⟩
  rintro W3 ⟨⟨hs3, hp3⟩, hh3, hg3⟩
  have hEF : E < F := by rw [← HF.out]; exact hE2
  obtain ⟨m, hm⟩ : ∃ m, bs.length % 128 = m := ⟨_, rfl⟩
  have c1 := hg3.cell (HC_count _ wt _ _ hwt)
  rw [hm] at c1
  obtain ⟨gp, hgp⟩ : ∃ x, gap bs.length = x := ⟨_, rfl⟩
  have hgp2 : 128 - (m + 16) % 128 = gp := by rw [← hgp, ← hm]; unfold gap; omega
  have hgb : 1 ≤ gp ∧ gp ≤ 128 := by omega
  have e1 : IntKind.i64.wrap ((m : Int) + 16) = ((m + 16 : Nat) : Int) := (IntWalk.i64_in _ (by omega)).trans (by omega)
  have e2 : Int.tmod ((m + 16 : Nat) : Int) 128 = (((m + 16) % 128 : Nat) : Int) := by rw [Int.tmod_eq_emod_of_nonneg (by omega)]; omega
  have e3 : IntKind.i64.wrap (128 - (((m + 16) % 128 : Nat) : Int)) = (gp : Int) := (IntWalk.i64_in _ (by omega)).trans (by omega)
  have e4 : (m + 16 : Int) % 128 = (((m + 16) % 128 : Nat) : Int) := by omega
  have e5 : (128 : Int) - (((m + 16) % 128 : Nat) : Int) = (gp : Int) := by omega
  obtain ⟨r, hr⟩ : ∃ r, (m + 16) % 128 = r := ⟨_, rfl⟩
  rw [hr] at e2 e3 e4 e5
  have hTab3 : Tab W3 := H0.out.2.2.later hs3.2.2
  have H3 := Lib.hid (And.intro (And.intro hs3 hp3) (And.intro hh3 (And.intro hg3 hTab3)))
  have HM := Lib.hid (And.intro hm hgp)
  have igp : (0 : Int) ≤ (gp : Int) ∧ (gp : Int) ≤ 128 := by omega
  clear hs3 hp3 hh3 hg3 hTab3 hm hgp hgp2 hr
  go_wp2_with fail
  have hpt := padL_take gp hgb.1 hgb.2
  have hptl : (padL.take gp).length = gp := by rw [List.length_take, padL_len]; omega
  refine (write_calls E bs (padL.take gp) (by rw [hptl]; omega) (some ⟨F, 0, none⟩) gp 128 (Lib.hid hptl.symm) hgb.2 W3 H3.out.2.2.2 (by omega) (H3.out.1.2.rbU.take gp) (by rintro _ x o h; injection h with h; injection h with h1; omega) H3.out.2.1).mono ?_
  rintro e w4 ⟨rfl, hh4, hg4⟩
  rw [hptl] at hh4
  have hs4 := H3.out.1.1.gb hg4 hlt
  have hb4 := H3.out.2.2.1.kept hg4 (by omega)
  have hT4 := H3.out.2.2.2.kept hg4 (by omega)
  have c2 := hb4.cell (HC_total _ wt _ _ hwt)
  obtain ⟨xs, hxs⟩ : ∃ xs, bs ++ padL.take gp = xs := ⟨_, rfl⟩
  rw [hxs] at hh4
  have hxl : bs.length + gp = xs.length := by rw [← hxs, List.length_append, hptl]
  rw [hxl] at hh4
  have H4 := Lib.hid (And.intro hs4 (And.intro hh4 hT4))
  have HX := Lib.hid (And.intro hxs (And.intro hxl hpt))
  obtain ⟨nb, hnb⟩ : ∃ n, bs.length = n := ⟨_, rfl⟩
  have hlc : ∀ W, Calls Tryd.prog 96 #[.int .u64 (nb : Int)] W fun e w' => e = .returned (.agg (u8b (tailF bs.length)).toArray) ∧ Below W.heap.size W w' := by rw [← hnb]; exact length_calls bs.length (by omega)
  rw [hnb] at c2
  have HLC := Lib.hid hlc
  have hE4 : E < w4.heap.size := by obtain ⟨_, _, _, h⟩ := hh4; exact h.lt
  clear hs4 hb4 hT4 hh4 hg4 hxs hxl hnb hlc hpt hptl H3 c1 e1 e2 e3 e4 e5 igp
  go_wp2_with fail
  refine (HLC.out _).mono ?_
  rintro e w5 ⟨rfl, b5⟩
  obtain ⟨ts, hts⟩ : ∃ l, u8b (tailF bs.length) = l := ⟨_, rfl⟩
  have htl : ts.length = 16 := by rw [← hts, u8b_len, tailF_len]
  rw [hts]
  have HT5 : Hid ((w5.alloc (.cells #[.int .u8 0, .int .u8 0, .int .u8 0, .int .u8 0, .int .u8 0, .int .u8 0, .int .u8 0, .int .u8 0, .int .u8 0, .int .u8 0, .int .u8 0, .int .u8 0, .int .u8 0, .int .u8 0, .int .u8 0, .int .u8 0] 132)).there w5.heap.size 0 ts.toArray.size) := Lib.hid ((Blk.new w5 (u8b (List.replicate 16 0)) 132).there (by rw [List.size_toArray, htl]; rfl))
  have HZ5 : Hid ((Tryd.prog.info? 132).map (·.size) = some ts.toArray.size) := Lib.hid (by rw [List.size_toArray, htl]; exact sizeTs)
  have HO5 : Hid (ts.toArray.all (·.oneCell') = true) := Lib.hid (by rw [← hts]; exact one8b _)
  have HTS := Lib.hid (And.intro hts htl)
  have HB5 := Lib.hid b5
  clear c2 hts htl b5
  go_upto_region 8 with (refine wpList_store_mid rfl 132 _ _ rfl w5.heap.size 0 ts.toArray rfl rfl HT5.out HZ5.out HO5.out ?_)
  obtain ⟨T, hTq⟩ : ∃ T, w5.heap.size = T := ⟨_, rfl⟩
  rw [hTq]
  refine wp_gen (fun W6 => (SmW bs g w W6 ∧ HSt W6 E xs xs.length) ∧ (Blk W6 T 132 (u8b (tailF bs.length)) ∧ Tab W6 ∧ E < T)) ?_ ?_
  · obtain ⟨h1, ⟨wt2, h2, h3, h4⟩, h5⟩ := H4.out
    have b1 : Below w5.heap.size w5 (w5.alloc (.cells #[.int .u8 0, .int .u8 0, .int .u8 0, .int .u8 0, .int .u8 0, .int .u8 0, .int .u8 0, .int .u8 0, .int .u8 0, .int .u8 0, .int .u8 0, .int .u8 0, .int .u8 0, .int .u8 0, .int .u8 0, .int .u8 0] 132)) := (Below.refl _ _).alloc (Nat.le_refl _) _
    have b2 := blw_cells (Nat.le_refl _) ts 0 _ b1
    have hb := (Blk.new w5 (u8b (List.replicate 16 0)) 132).setAll (vs := ts) (by rw [HTS.out.2]; rfl)
    have b3 := HB5.out.then_ b2
    rw [← hTq]
    exact ⟨⟨h1.later b3, ⟨wt2, h2, h3, h4.later b3⟩⟩, by rw [HTS.out.1]; exact hb, h5.later b3, by have := HB5.out.size; omega⟩
  rintro W6 ⟨⟨hs6, hh6⟩, ht6, hT6, hET⟩
  have H6 := Lib.hid (And.intro (And.intro hs6 hh6) (And.intro ht6 hT6))
  clear hs6 hh6 ht6 hT6 hTq HT5 HZ5 HO5 HTS HB5 H4 HLC
  go_wp2_with fail
  have hxb : xs.length < 2 ^ 31 := by have := HX.out.2.1; omega
  refine (write_calls E xs (tailF bs.length) (by rw [tailF_len]; omega) (some ⟨T, 0, none⟩) 16 16 (Lib.hid (tailF_len _).symm) (Nat.le_refl _) W6 H6.out.2.2 (by omega) H6.out.2.1.rbU (by rintro _ x o h; injection h with h; injection h with h1; omega) H6.out.1.2).mono ?_
  rintro e w7 ⟨rfl, hh7, hg7⟩
  have hpad : xs ++ tailF bs.length = padded bs := by rw [← HX.out.1, HX.out.2.2]; unfold padded; rw [HM.out.2]
  rw [hpad] at hh7
  have hs7 := H6.out.1.1.gb hg7 hlt
  obtain ⟨wt3, hw3, _, hb7⟩ := hh7
  obtain ⟨st, hst⟩ : ∃ s, stN (padded bs) ((padded bs).length / 128) = s := ⟨_, rfl⟩
  rw [hst] at hb7
  have hdg : digest bs = st.list.flatMap bytesW := by unfold digest; rw [hst]
  obtain ⟨cs, hcs⟩ : ∃ c, us st.list = c := ⟨_, rfl⟩
  have hr7 : w7.rangeAt E 0 cs := by rw [← hcs]; exact hb7.rngAt 0 8
  have hz7 : (Tryd.prog.info? 86).map (·.size) = some cs.length := by rw [← hcs]; exact size8
  have HR7 := Lib.hid hr7
  have HZ7 := Lib.hid hz7
  have HS7 := Lib.hid hs7
  have HDG := Lib.hid (And.intro hdg hcs)
  have HST : Hid st.InU := Lib.hid (by rw [← hst]; exact stN_inU _ _)
  clear hpad hb7 hst hdg hcs hr7 hz7 hs7 hg7 H6 HM HX H2 H0 HOLD
  go_wp2_with (refine wpList_load_mid rfl 86 _ rfl E 0 rfl cs _ HR7.out Tryd.underlying86 rfl HZ7.out ?_)
  go_loopw [35] (fun i wr => ∃ k : Nat, k ≤ 8 ∧ i = .int .i64 (k : Int) ∧ OuS bs w (8 * k) wr) (fun i _ => 8 - (intOf i).toNat)
  case atStart => exact ⟨0, by omega, rfl, by rw [outP_zero]; exact HS7.out.2.1, HS7.out.1, HS7.out.2.2⟩
  case round =>
    clear HS7
    obtain ⟨k, hk, rfl, hu⟩ := hrel
    by_cases hp : k < 8
    · obtain ⟨x, hx⟩ : ∃ x, st.list.getD k 0 = x := ⟨_, rfl⟩
      have hix := fun W => idx8 cs k hp (.int .u64 x) (by rw [← HDG.out.2, ← hx]; exact us_at (list_at st k hp)) W
      have HU := Lib.hid hu
      have HXX := Lib.hid hx
      have HX0 : Hid (0 ≤ x) := Lib.hid (by rw [← hx]; exact list_nonneg st HST.out k)
      clear hu hx
      go_wp2_with fail
      clear hix
      go_loopw [39] (fun i wr => ∃ j : Nat, j ≤ 8 ∧ i = .int .i64 (j : Int) ∧ OuS bs w (8 * k + j) wr) (fun i _ => 8 - (intOf i).toNat)
      case atStart => exact ⟨0, by omega, rfl, HU.out⟩
      case round =>
        clear HU
        obtain ⟨j, hj, rfl, hu, hz, hbw⟩ := hrel
        by_cases hq : j < 8
        · obtain ⟨i, hi⟩ : ∃ i, 8 * k + j = i := ⟨_, rfl⟩
          rw [hi] at hu
          have e1 : IntKind.i64.wrap (((k : Int) * 8) + (j : Int)) = (i : Int) := (IntWalk.i64_in _ (by omega)).trans (by omega)
          have hil : i < 64 := by omega
          obtain ⟨y, hy⟩ : ∃ y, (u8b (outP (digest bs) i))[i]? = some y := ⟨_, List.getElem?_eq_getElem (by rw [u8b_len, outP_len _ _ (digest_len bs) (by omega)]; omega)⟩
          have c1 := hu.cell hy
          have f1 := hu.frozen i
          have HU := Lib.hid (And.intro hu (And.intro hz hbw))
          have HI := Lib.hid hi
          have HXB := Lib.hid (digest_at bs st k j x HDG.out.1 HXX.out hp hq)
          clear hu hz hbw hy hi
          go_wp2_with fail
          refine ⟨⟨j + 1, by omega, by go_num, ?_⟩, by simp [intOf]; omega⟩
          rw [byte_val x (56 - 8 * j) HX0.out]
          have h := HU.out.1.set_ i (.int .u8 ((UInt8.ofNat ((x / 2 ^ (56 - 8 * j)).toNat % 256)).toNat : Int))
          rw [u8b_set, outP_step (digest bs) i _ (by rw [← HI.out]; exact HXB.out) (digest_len bs) hil] at h
          refine ⟨?_, HU.out.2.1.other (by omega) _, HU.out.2.2.setCell (by show w.heap.size ≤ w.heap.size + 1; omega) _⟩
          rw [show 8 * k + (j + 1) = i + 1 by rw [← HI.out]; omega]
          exact h
        · obtain rfl : j = 8 := by omega
          rw [show ((8 : Nat) : Int) = (8 : Int) from rfl]
          have HU : Hid (OuS bs w (8 * (k + 1)) wr) := Lib.hid (by rw [show 8 * (k + 1) = 8 * k + 8 by omega]; exact ⟨hu, hz, hbw⟩)
          clear hu hz hbw
          have e1 : IntKind.i64.wrap ((k : Int) + 1) = (k : Int) + 1 := IntWalk.i64_in _ (by omega)
          go_wp2_with fail
          exact ⟨⟨k + 1, by omega, by go_num, HU.out⟩, by simp [intOf]; omega⟩
    · obtain rfl : k = 8 := by omega
      rw [show ((8 : Nat) : Int) = (8 : Int) from rfl]
      obtain ⟨hu, hz, hbw⟩ := hu
      rw [show 8 * 8 = 64 from rfl, outP_full _ (digest_len bs)] at hu
      have hlen : (u8b (digest bs)).length = 64 := by rw [u8b_len, digest_len]
      obtain ⟨ds, hds⟩ : ∃ d, u8b (digest bs) = d := ⟨_, rfl⟩
      have hone : ds.toArray.all (·.oneCell') = true := by rw [← hds]; exact one8b _
      rw [hds] at hu hlen
      have hsz : (Tryd.prog.info? 28).map (·.size) = some ds.length := by rw [hlen]; exact sizeSz
      have HRF := Lib.hid hu.rng
      have HTH := Lib.hid (hz.there (n := ds.toArray.size) (by simp [hlen, u8b_len]))
      have HZ2 := Lib.hid (Blk.load (hz.setAll (vs := ds) (by simp [hlen, u8b_len])) 28 Tryd.underlying28 rfl hsz)
      have HB2 := Lib.hid (blw_cells (Nat.le_refl _) ds 0 _ hbw)
      have HO := Lib.hid hone
      have HZF := Lib.hid hsz
      have HZG : Hid ((Tryd.prog.info? 28).map (·.size) = some ds.toArray.size) := Lib.hid (by simpa using hsz)
      have HDS := Lib.hid hds
      clear hu hz hbw hlen hds hone hsz
      go_wp2_with (first
        | (refine wpList_load_mid rfl 28 _ rfl (w.heap.size + 1) 0 rfl ds _ HRF.out Tryd.underlying28 rfl HZF.out ?_)
        | (refine wpList_store_mid rfl 28 _ _ rfl w.heap.size 0 ds.toArray rfl rfl HTH.out HZG.out HO.out ?_))
      exact bodyPost_ret (v := .agg ds.toArray) (res_cell rfl _ _ _ _ rfl HZ2.out) rfl ⟨by rw [HDS.out], HB2.out⟩
end Go.Proofs.YtkfdclnaaphdgaaDoor.Dh
namespace Go.Proofs.YtkfdclnaaphdgaaDoor.Dh
open Go.Proofs.YtkfdclnaaphdgaaDoor
open Go.ChangeShapes Go.WideShapes Go.ChangeAt Go.RowKit Go.IntWalk
set_option linter.unusedVariables false

theorem wpList_build1 {P : Program} {ops : Array Oper} {rest : List Oper} {o : Oper} {a : Act} {Q : Exit → Act → World → Prop} {w : World} (hgd : o.guard = none) (ty : TypeId) (i : Nat) (y : Operand) (ho : o.op = .build ty #[(i, y)])
    (v : Value) (hv : a.eval y = v) (x : Value) (hrun : (Instr.build ty #[(i, v)]).run P w = .ok x w)
    (h : wpList P ops Q rest (a.put o.dst x) w) : wpList P ops Q (o :: rest) a w := by
  refine wpList_plain hgd fun K hK => ?_
  unfold Oper.wp
  have e : (#[(i, y)] : Array (Nat × Operand)).map (fun (i, x) => (i, a.eval x)) = #[(i, v)] := by simp [hv]
  simp only [execOp, ho, e]
  simp [hrun, Result.andThen]
  exact hK _ _ h
def startL : List Value := HC initS (List.replicate 128 0) 0 0
theorem build_new (W : World) : (Instr.build 130 #[(0, A8 initS)]).run Tryd.prog W = .ok (.agg startL.toArray) W := by kernel_rfl
theorem HSt.start {w : World} {g : Nat} (h : Blk w g 130 startL) : HSt w g [] 0 := ⟨List.replicate 128 0, rfl, rfl, h⟩
set_option maxRecDepth 100000 in
set_option maxHeartbeats 4000000 in
theorem new_calls (w : World) :
    Calls Tryd.prog 72 #[] w fun e w' => e = .returned (.pointer (some ⟨w.heap.size, 0, none⟩)) ∧ HSt w' w.heap.size [] 0 ∧ Below w.heap.size w w' := by
  obtain ⟨zs, hzs⟩ : ∃ z, startL = z := ⟨_, rfl⟩
  have hbu : ∀ W, (Instr.build 130 #[(0, .agg #[.int .u64 7640891576956012808, .int .u64 13503953896175478587, .int .u64 4354685564936845355, .int .u64 11912009170470909681, .int .u64 5840696475078001361, .int .u64 11170449401992604703, .int .u64 2270897969802886507, .int .u64 6620516959819538809])]).run Tryd.prog W = .ok (.agg zs.toArray) W := fun W => by rw [← hzs]; exact build_new W
  have HBU := Lib.hid hbu
  have H := Lib.hid (show HSt (w.alloc (.cells zs.toArray 130)) w.heap.size [] 0 from HSt.start (by rw [hzs]; exact Blk.new w zs _))
  clear hzs hbu
  go_enter Tryd.func72, Tryd.ntmps72
  go_wp2_with (refine wpList_build1 rfl 130 0 (.tmp 1) rfl (.agg #[.int .u64 7640891576956012808, .int .u64 13503953896175478587, .int .u64 4354685564936845355, .int .u64 11912009170470909681, .int .u64 5840696475078001361, .int .u64 11170449401992604703, .int .u64 2270897969802886507, .int .u64 6620516959819538809]) rfl (.agg zs.toArray) (HBU.out _) ?_)
  go_ret
  exact ⟨rfl, H.out, (Below.refl _ _).alloc (Nat.le_refl _) _⟩
end Go.Proofs.YtkfdclnaaphdgaaDoor.Dh
