/- Layer 3: bytes taken in, walked. -/
import Derived.Test.YtjdgccgpkmimkaaDoorDhD
import Derived.Test.YtjdgccgpkmimkaaDoorLh
namespace Go.Proofs.YtjdgccgpkmimkaaDoor
open Go.ChangeShapes Go.WideShapes Go.ChangeAt Go.RowKit Go.IntWalk
set_option linter.unusedVariables false

/-- A digest's cells. -/
def HC (s : S8) (wt : List UInt8) (n tot : Nat) : List Value := us s.list ++ (u8b wt ++ [.int .i64 (n : Int), .int .u64 (tot : Int)])
theorem us8_len (s : S8) : (us s.list).length = 8 := rfl
theorem u8b_len (l : List UInt8) : (u8b l).length = l.length := by simp [u8b]
theorem HC_len (s : S8) (wt : List UInt8) (n tot : Nat) (h : wt.length = 128) : (HC s wt n tot).length = 138 := by
  simp [HC, u8b_len, h, us8_len]
theorem HC_count (s : S8) (wt : List UInt8) (n tot : Nat) (h : wt.length = 128) : (HC s wt n tot)[136]? = some (.int .i64 (n : Int)) := by
  unfold HC
  rw [List.getElem?_append_right (by rw [us8_len]; omega), us8_len, List.getElem?_append_right (by rw [u8b_len, h]; omega), u8b_len, h]; rfl
theorem HC_total (s : S8) (wt : List UInt8) (n tot : Nat) (h : wt.length = 128) : (HC s wt n tot)[137]? = some (.int .u64 (tot : Int)) := by
  unfold HC
  rw [List.getElem?_append_right (by rw [us8_len]; omega), us8_len, List.getElem?_append_right (by rw [u8b_len, h]; omega), u8b_len, h]; rfl
theorem HC_setCount (s : S8) (wt : List UInt8) (n m tot : Nat) (h : wt.length = 128) : (HC s wt n tot).set 136 (.int .i64 (m : Int)) = HC s wt m tot := by
  unfold HC
  rw [List.set_append, us8_len, if_neg (by omega), List.set_append, u8b_len, h, if_neg (by omega)]; rfl
theorem HC_setTotal (s : S8) (wt : List UInt8) (n m tot : Nat) (h : wt.length = 128) : (HC s wt n tot).set 137 (.int .u64 (m : Int)) = HC s wt n m := by
  unfold HC
  rw [List.set_append, us8_len, if_neg (by omega), List.set_append, u8b_len, h, if_neg (by omega)]; rfl
theorem HC_state (s t : S8) (wt : List UInt8) (n tot : Nat) : (HC s wt n tot).take 0 ++ us t.list ++ (HC s wt n tot).drop (0 + (us t.list).length) = HC t wt n tot := rfl
theorem HC_wait (s : S8) (wt : List UInt8) (n tot : Nat) (h : wt.length = 128) : ((HC s wt n tot).drop 8).take 128 = u8b wt := by
  unfold HC
  rw [List.drop_append_of_le_length (by rw [us8_len]; omega), show (us s.list).drop 8 = [] from rfl, List.nil_append, List.take_append_of_le_length (by rw [u8b_len]; omega), List.take_of_length_le (by rw [u8b_len]; omega)]
theorem HC_words (s : S8) (wt : List UInt8) (n tot : Nat) : ((HC s wt n tot).drop 0).take 8 = us s.list := rfl
theorem HC_splice (s : S8) (wt ps : List UInt8) (n tot m : Nat) (h : wt.length = 128) (hm : m + ps.length ≤ 128) :
    (HC s wt n tot).take (8 + m) ++ (u8b ps ++ (HC s wt n tot).drop (8 + m + (u8b ps).length)) = HC s (splice wt m ps) n tot := by
  unfold HC splice
  rw [u8b_len, List.take_append, us8_len, List.drop_append, us8_len, show 8 + m - 8 = m by omega, show 8 + m + ps.length - 8 = m + ps.length by omega,
    List.take_of_length_le (show (us s.list).length ≤ 8 + m by rw [us8_len]; omega), List.drop_of_length_le (show (us s.list).length ≤ 8 + m + ps.length by rw [us8_len]; omega),
    List.nil_append, List.take_append_of_le_length (by rw [u8b_len]; omega), List.drop_append_of_le_length (by rw [u8b_len]; omega)]
  simp [u8b, List.map_take, List.map_drop]
/-- The digest under way at block g: bs were given; so many are told. -/
def HSt (w : World) (g : Nat) (bs : List UInt8) (tot : Nat) : Prop :=
  ∃ wt : List UInt8, wt.length = 128 ∧ wt.take (bs.length % 128) = bs.drop (128 * (bs.length / 128)) ∧ Blk w g 45 (HC (stN bs (bs.length / 128)) wt (bs.length % 128) tot)
theorem wait_step (xs ps wt : List UInt8) (hw : wt.length = 128) (ht : wt.take (xs.length % 128) = xs.drop (128 * (xs.length / 128))) (hn : xs.length % 128 + ps.length ≤ 128) :
    (splice wt (xs.length % 128) ps).length = 128 ∧ (splice wt (xs.length % 128) ps).take (xs.length % 128 + ps.length) = (xs ++ ps).drop (128 * (xs.length / 128)) := by
  refine ⟨by rw [length_splice _ _ _ (by omega), hw], ?_⟩
  rw [List.drop_append_of_le_length (by omega), ← ht]
  unfold splice
  rw [← List.append_assoc, List.take_append_of_le_length (by simp; omega), List.take_of_length_le (by simp; omega)]
theorem stN_same (xs ps : List UInt8) : stN (xs ++ ps) (xs.length / 128) = stN xs (xs.length / 128) := stN_app _ _ _ (by omega)
/-- A piece that doesn't fill the block. -/
theorem piece_part (xs ps wt : List UInt8) (hw : wt.length = 128) (ht : wt.take (xs.length % 128) = xs.drop (128 * (xs.length / 128))) (hn : xs.length % 128 + ps.length < 128) {W : World} {g tot m : Nat} (hm : xs.length % 128 + ps.length = m)
    (hB : Blk W g 45 (HC (stN xs (xs.length / 128)) (splice wt (xs.length % 128) ps) m tot)) : HSt W g (xs ++ ps) tot := by
  obtain ⟨h1, h2⟩ := wait_step xs ps wt hw ht (by omega)
  have e1 : (xs ++ ps).length / 128 = xs.length / 128 := by rw [List.length_append]; omega
  have e2 : (xs ++ ps).length % 128 = m := by rw [List.length_append]; omega
  refine ⟨_, h1, ?_, ?_⟩
  · rw [e1, e2, ← hm]; exact h2
  · rw [e1, e2, stN_same]; exact hB
/-- A piece that fills it. -/
theorem piece_full (xs ps wt : List UInt8) (hw : wt.length = 128) (ht : wt.take (xs.length % 128) = xs.drop (128 * (xs.length / 128))) (hn : xs.length % 128 + ps.length = 128) {W : World} {g tot : Nat}
    (hB : Blk W g 45 (HC (comp (stN xs (xs.length / 128)) (splice wt (xs.length % 128) ps)) (splice wt (xs.length % 128) ps) 0 tot)) : HSt W g (xs ++ ps) tot := by
  obtain ⟨h1, h2⟩ := wait_step xs ps wt hw ht (by omega)
  have e1 : (xs ++ ps).length / 128 = xs.length / 128 + 1 := by rw [List.length_append]; omega
  have e2 : (xs ++ ps).length % 128 = 0 := by rw [List.length_append]; omega
  refine ⟨_, h1, ?_, ?_⟩
  · rw [e1, e2, List.take_zero, List.drop_of_length_le (by rw [List.length_append]; omega)]
  · have h3 : ((xs ++ ps).drop (128 * (xs.length / 128))).take 128 = splice wt (xs.length % 128) ps := by
      rw [← h2, hn, List.take_take, Nat.min_self, List.take_of_length_le (by omega)]
    rw [e1, e2]
    show Blk W g _ (HC (comp (stN (xs ++ ps) (xs.length / 128)) (((xs ++ ps).drop (128 * (xs.length / 128))).take 128)) _ 0 tot)
    rw [h3, stN_same]; exact hB
theorem Tab.kept {w w1 : World} {g : Nat} (h : Tab w) (hg : w.grownBy w1 (some g)) (h0 : 0 < g) : Tab w1 :=
  ⟨fun j v hv => (hg.cell_far ⟨0, 0 + j, none⟩ h.2 (by simp; omega)).trans (h.1 j v hv), Nat.lt_of_lt_of_le h.2 hg.size⟩
theorem rb_keptP {w w1 : World} {g : Nat} {A : Option Addr} {bs : List UInt8} (h : RB w A bs) (hg : w.grownBy w1 (some g)) (hap : 0 < bs.length → ∀ b o, A = some ⟨b, o, none⟩ → b ≠ g) : RB w1 A bs :=
  fun k hk => RB.kept h hg (hap (by omega)) k hk
def WrS (g : Nat) (bs cs : List UInt8) (w : World) (b : Value) (wr : World) : Prop :=
  ∃ (j n c : Nat) (A : Option Addr), j ≤ cs.length ∧ b = .slice A n c ∧ Hid (n = cs.length - j) ∧ n ≤ c ∧ RB wr A (cs.drop j) ∧ (j < cs.length → ∀ x o, A = some ⟨x, o, none⟩ → x ≠ g) ∧ HSt wr g (bs ++ cs.take j) (bs.length + cs.length) ∧ w.grownBy wr (some g) ∧ Tab wr
set_option maxRecDepth 100000 in
set_option maxHeartbeats 4000000 in
theorem write_calls (g : Nat) (bs cs : List UInt8) (hb : bs.length + cs.length < 2 ^ 40) (A : Option Addr) (n c : Nat) (hn : Hid (n = cs.length)) (hc : n ≤ c) (w : World) (hT : Tab w) (hg0 : 0 < g) (hr : RB w A cs)
    (hap : 0 < cs.length → ∀ x o, A = some ⟨x, o, none⟩ → x ≠ g) (hh : HSt w g bs bs.length) :
    Calls Tryd.prog 11 #[.pointer (some ⟨g, 0, none⟩), .slice A n c] w fun e w' => e = .returned (.tuple #[]) ∧ HSt w' g (bs ++ cs) (bs.length + cs.length) ∧ w.grownBy w' (some g) := by
  obtain ⟨wt, hwt, htk, hB⟩ := hh
  have c1 := hB.cell (HC_total _ wt _ _ hwt)
  have f1 := hB.frozen 137
  have hs1 := hB.set_ 137 (.int .u64 ((bs.length + cs.length : Nat) : Int))
  rw [HC_setTotal _ _ _ _ _ hwt] at hs1
  obtain ⟨t0, ht0⟩ : ∃ t, bs.length = t := ⟨_, rfl⟩
  obtain ⟨tt, htt⟩ : ∃ t, bs.length + cs.length = t := ⟨_, rfl⟩
  have HN := hn
  have hwn : IntKind.u64.wrap (n : Int) = (n : Int) := by rw [IntKind.wrap_u64, hn.out]; omega
  have htn : IntKind.u64.wrap ((t0 : Int) + (n : Int)) = (tt : Int) := by rw [IntKind.wrap_u64, hn.out]; omega
  have H0 : Hid (WrS g bs cs w (.slice A n c) (w.setCell ⟨g, 137, none⟩ (.int .u64 (tt : Int)))) := Lib.hid (by
    rw [← htt]
    have hgb := gb_setCell w g 137 (.int .u64 ((bs.length + cs.length : Nat) : Int))
    refine ⟨0, n, c, A, by omega, rfl, hn, hc, by rw [List.drop_zero]; exact rb_keptP hr hgb hap, hap, ⟨wt, hwt, by rw [List.take_zero, List.append_nil]; exact htk, by rw [List.take_zero, List.append_nil]; exact hs1⟩, hgb, ?_⟩
    exact ⟨fun j v hv => (hgb.cell_far ⟨0, 0 + j, none⟩ hT.2 (by simp; omega)).trans (hT.1 j v hv), Nat.lt_of_lt_of_le hT.2 hgb.size⟩)
  rw [ht0] at c1
  have HTT := Lib.hid htt
  clear hT hr hap hB hs1 htk hn ht0 htt
  go_enter Tryd.func11, Tryd.ntmps11
  go_wp2_with fail
  clear c1 f1 hwn htn
  go_loopw [1] (WrS g bs cs w) (fun b _ => match b with | .slice _ n _ => n | _ => 0)
  case atStart => exact H0.out
  case round =>
    clear H0 HN hc
    obtain ⟨j, n, c, A, hj, rfl, hn, hc, hr, hap, ⟨wt, hwt, htk, hB⟩, hgb, hT⟩ := hrel
    by_cases hp : j < cs.length
    · obtain ⟨xs, hxs⟩ : ∃ xs, bs ++ cs.take j = xs := ⟨_, rfl⟩
      rw [hxs] at htk hB
      obtain ⟨m, hm⟩ : ∃ m, xs.length % 128 = m := ⟨_, rfl⟩
      obtain ⟨q, hq⟩ : ∃ q, xs.length / 128 = q := ⟨_, rfl⟩
      rw [hm, hq] at hB
      have hmb : m < 128 := by omega
      have hn0 : 0 < n := by rw [hn.out]; omega
      have c2 := hB.cell (HC_count _ wt _ _ hwt)
      have im : (0 : Int) ≤ (m : Int) ∧ (m : Int) ≤ 128 := by omega
      have hne : ¬ (128 = m) := by omega
      obtain ⟨x, o, rfl, hxl⟩ := hr.some (by rw [List.length_drop]; omega)
      have hxg := hap hp x o rfl
      obtain ⟨ps, hps⟩ : ∃ ps, (cs.drop j).take (128 - m) = ps := ⟨_, rfl⟩
      have hpl0 : ps.length = min (128 - m) (cs.length - j) := by rw [← hps, List.length_take, List.length_drop]
      obtain ⟨pl, hpl⟩ : ∃ p, ps.length = p := ⟨_, rfl⟩
      have hrp : RB wr (some ⟨x, o, none⟩) ps := by rw [← hps]; exact hr.take _
      have H1 := Lib.hid (And.intro (And.intro hwt htk) (And.intro hB (And.intro hgb (And.intro hT hr))))
      have HXM := Lib.hid (And.intro hxs (And.intro hm hq))
      have HPS := Lib.hid (And.intro (And.intro hps hpl) (And.intro hpl0 hrp))
      have hpb : pl + m ≤ 128 ∧ 0 < pl ∧ pl ≤ n := by rw [hn.out]; omega
      clear hwt htk hB hgb hT hr hap hxs hm hq hps hpl hpl0 hrp
      go_wp2_with fail
      go_still_tail 9, (by kernel_rfl)
      change wpList _ _ _ _ _ wr.drew
      refine wpList_copy_own rfl (.tmp 27) (.tmp 28) 22 22 rfl 5 Tryd.underlying22 (by kernel_rfl) g (8 + m) (128 - m) (128 - m) ⟨x, o, none⟩ n c rfl rfl _ 45 H1.out.2.1 (u8b ps) ?_ ?_ ?_ ?_ ?_
      · rw [u8b_len, HPS.out.2.1, hn.out]; exact Nat.min_comm _ _
      · exact (HPS.out.2.2.drewN 1).src
      · rw [u8b_len, HPS.out.1.2]; show 8 + m + pl ≤ (HC _ _ _ _).length; rw [HC_len _ _ _ _ H1.out.1.1]; omega
      · intro v hv; obtain ⟨y, _, rfl⟩ := List.mem_map.1 hv; rfl
      have hspl := HC_splice (stN xs q) wt ps m (bs.length + cs.length) m H1.out.1.1 (by rw [HPS.out.1.2]; omega)
      refine wpList_gen (fun W5 => Blk W5 g 45 (HC (stN xs q) (splice wt m ps) m (bs.length + cs.length)) ∧ wr.grownBy W5 (some g)) ?_ ?_
      · have h5 := (H1.out.2.1.drew).setRow (HC (stN xs q) (splice wt m ps) m (bs.length + cs.length))
        exact ⟨by simp only [List.toList_toArray]; rw [hspl]; exact h5, (gb_drewN wr 1 _).trans (gb_setRow _ _ _)⟩
      rintro W5 ⟨hB5, hg5⟩
      have hws := wait_step xs ps wt H1.out.1.1 H1.out.1.2 (by rw [HXM.out.2.1, HPS.out.1.2]; omega)
      rw [HXM.out.2.1, HXM.out.2.2] at hws
      have hps2 : cs.take j ++ ps = cs.take (j + pl) := by
        have e : ps = (cs.drop j).take pl := by rw [← HPS.out.1.1, List.take_eq_take_min]; congr 1; rw [List.length_drop]; have := HPS.out.2.1; have := HPS.out.1.2; omega
        rw [e, ← List.take_add]
      have hxs2 : xs ++ ps = bs ++ cs.take (j + pl) := by rw [← HXM.out.1, List.append_assoc, hps2]
      have hdr : (cs.drop j).drop pl = cs.drop (j + pl) := by rw [List.drop_drop]
      have hr6 : ∀ W, wr.grownBy W (some g) → RB W (if c = pl then some ⟨x, o, none⟩ else some ⟨x, o + pl, none⟩) (cs.drop (j + pl)) := by
        intro W hW
        have h := (H1.out.2.2.2.2.kept hW (by rintro b o' h; injection h with h; injection h with h1; rw [← h1]; exact hxg)).cut pl c (by rw [List.length_drop, ← hn.out]; omega) (by rw [List.length_drop, ← hn.out]; exact hc)
        rw [hdr] at h
        by_cases e : c = pl
        · rw [if_pos e] at h ⊢; exact h
        · rw [if_neg e] at h ⊢; simpa [Addr.add, show ¬ (pl = 0) by omega] using h
      have c5 := hB5.cell (HC_count _ (splice wt m ps) _ _ hws.1)
      have f5 := hB5.frozen 136
      have hB6 := hB5.set_ 136 (.int .i64 ((m + pl : Nat) : Int))
      rw [HC_setCount _ _ _ _ _ hws.1] at hB6
      obtain ⟨mp, hmp⟩ : ∃ p, m + pl = p := ⟨_, rfl⟩
      rw [hmp] at hB6
      have ew : IntKind.i64.wrap ((m : Int) + (pl : Int)) = (mp : Int) := (IntWalk.i64_in _ (by omega)).trans (by omega)
      have hpl1 : (u8b ps).length = pl := by rw [u8b_len]; exact HPS.out.1.2
      rw [hpl1]
      have HB6 := Lib.hid (And.intro hB6 (hg5.trans (gb_setCell W5 g 136 (.int .i64 (mp : Int)))))
      have HW := Lib.hid hws
      have HR6 := Lib.hid hr6
      have HX2 := Lib.hid hxs2
      have hple : (pl : Int) ≤ (n : Int) ∧ (n : Int) ≤ (c : Int) := by omega
      have HMP := Lib.hid hmp
      clear hB5 hg5 hws hspl hps2 hxs2 hdr hr6 hpl1 hB6 hmp
      have hap6 : ∀ x' o', (if c = pl then some (⟨x, o, none⟩ : Addr) else some ⟨x, o + pl, none⟩) = some ⟨x', o', none⟩ → x' ≠ g := by
        intro x' o' h
        split at h <;> (injection h with h; injection h with h1; rw [← h1]; exact hxg)
      have HAP := Lib.hid hap6
      clear hap6
      by_cases hfull : mp = 128
      · have hfi : (mp : Int) = 128 := by omega
        have HFU := Lib.hid hfull
        obtain ⟨w5, hw5⟩ : ∃ l, splice wt m ps = l := ⟨_, rfl⟩
        rw [hw5] at HB6 HW
        have HW5 := Lib.hid hw5
        rw [hfi] at HB6
        clear hw5 hfull
        go_upto_region 7 with (fail)
        refine wp_gen (fun W6 => Blk W6 g 45 (HC (stN xs q) w5 mp (bs.length + cs.length)) ∧ wr.grownBy W6 (some g)) HB6.out ?_
        clear c5 f5 HB6 c2
        rintro W6 ⟨hB6, hg6⟩
        have hT6 := H1.out.2.2.2.1.kept hg6 hg0
        have hr1 : W6.rangeAt g 0 (us (stN xs q).list) := hB6.rngAt 0 8
        have hr2 : W6.rangeAt g 8 (u8b w5) := by
          have := hB6.rngAt 8 128
          rw [HC_wait _ _ _ _ HW.out.1] at this; exact this
        have hz2 : (Tryd.prog.info? 43).map (·.size) = some (u8b w5).length := by rw [u8b_len, HW.out.1]; exact sizeBlk
        have hca : ∀ W, Below W6.heap.size W6 W → Calls Tryd.prog 16 #[.agg (us (stN xs q).list).toArray, .agg (u8b w5).toArray] W fun e w' => e = .returned (.agg (us (comp (stN xs q) w5).list).toArray) ∧ Below W.heap.size W w' :=
          fun W hW => after_calls (stN xs q) (stN_inU _ _) w5 HW.out.1 W (hT6.later hW)
        clear hfi
        apply wp_region_g 10 (by kernel_rfl) (by kernel_rfl)
        simp only [List.take_succ_cons, List.take_zero, List.drop_succ_cons, List.drop_zero]
        apply lg_pure (.pointer (some ⟨g, 0, none⟩)) rfl (by intro W; go_simp)
        simp only [Act.put, List.setIfInBounds_toArray, List.set_cons_succ, List.set_cons_zero]
        apply lg_pure (.pointer (some ⟨g, 0, none⟩)) rfl (by intro W; go_simp)
        simp only [Act.put, List.setIfInBounds_toArray, List.set_cons_succ, List.set_cons_zero]
        apply lg_pure (.pointer (some ⟨g, 0, none⟩)) rfl (by intro W; go_simp)
        simp only [Act.put, List.setIfInBounds_toArray, List.set_cons_succ, List.set_cons_zero]
        apply lg_pure (.pointer (some ⟨g, 0, none⟩)) rfl (by intro W; go_simp)
        simp only [Act.put, List.setIfInBounds_toArray, List.set_cons_succ, List.set_cons_zero]
        apply lg_load 42 (.tmp 49) rfl g 0 (us (stN xs q).list) _ hr1 hB6.lt Tryd.underlying42 rfl size8 rfl rfl
        simp only [Act.put, List.setIfInBounds_toArray, List.set_cons_succ, List.set_cons_zero]
        apply lg_pure (.pointer (some ⟨g, 0, none⟩)) rfl (by intro W; go_simp)
        simp only [Act.put, List.setIfInBounds_toArray, List.set_cons_succ, List.set_cons_zero]
        apply lg_pure (.pointer (some ⟨g, 0, none⟩)) rfl (by intro W; go_simp)
        simp only [Act.put, List.setIfInBounds_toArray, List.set_cons_succ, List.set_cons_zero]
        apply lg_pure (.pointer (some ⟨g, 8, none⟩)) rfl (by intro W; go_simp)
        simp only [Act.put, List.setIfInBounds_toArray, List.set_cons_succ, List.set_cons_zero]
        apply lg_load 43 (.tmp 53) rfl g 8 (u8b w5) _ hr2 hB6.lt Tryd.underlying43 rfl hz2 rfl rfl
        simp only [Act.put, List.setIfInBounds_toArray, List.set_cons_succ, List.set_cons_zero]
        apply lg_callx_in (.agg (us (comp (stN xs q) w5).list).toArray) 16 #[.agg (us (stN xs q).list).toArray, .agg (u8b w5).toArray] rfl (by intro W; go_simp) hca
        simp only [Act.put, List.setIfInBounds_toArray, List.set_cons_succ, List.set_cons_zero]
        refine lg_nil ?_
        intro w7 hC7
        have hB7 := hB6.later hC7.1
        have hg7 : wr.grownBy w7 (some g) := hg6.trans (gb_below hC7.1)
        obtain ⟨st, hst⟩ : ∃ s, comp (stN xs q) w5 = s := ⟨_, rfl⟩
        rw [hst]
        have hth := hB7.thereAt (o := 0) (n := (us st.list).toArray.size) (by rw [HC_len _ _ _ _ HW.out.1]; show 0 + 8 ≤ _; omega)
        have hB8 := hB7.setAt (o := 0) (vs := us st.list) (by rw [HC_len _ _ _ _ HW.out.1]; show 0 + 8 ≤ _; omega)
        rw [HC_state] at hB8
        have hg8 := hg7.trans (gb_setCells g (us st.list) 0 w7)
        have c8 := hB8.cell (HC_count _ w5 _ _ HW.out.1)
        have f8 := hB8.frozen 136
        have hB9 := hB8.set_ 136 (.int .i64 ((0 : Nat) : Int))
        rw [HC_setCount _ _ _ _ _ HW.out.1] at hB9
        have hg9 := hg8.trans (gb_setCell (w7.setCells g 0 (us st.list)) g 136 (.int .i64 ((0 : Nat) : Int)))
        have HH := Lib.hid hth
        have HO : Hid ((us st.list).toArray.all (·.oneCell') = true) := Lib.hid (oneInts _ _)
        have HZ8 : Hid ((Tryd.prog.info? 42).map (·.size) = some (us st.list).toArray.size) := Lib.hid size8
        have H9 := Lib.hid (And.intro hB9 hg9)
        have HST := Lib.hid hst
        have hW8 : ∃ W, w7.setCells g 0 (us st.list) = W := ⟨_, rfl⟩
        clear hB6 hg6 hT6 hr1 hr2 hz2 hca hB7 hg7 hC7 hth hB8 hg8 hB9 hg9 hst
        go_upto_region 8 with (refine wpList_store_mid rfl 42 _ _ rfl g 0 (us st.list).toArray rfl rfl HH.out HZ8.out HO.out ?_)
        obtain ⟨W8, hW8⟩ := hW8
        rw [hW8] at c8 f8 H9
        rw [hW8]
        clear hW8 HH
        go_wp2_with fail
        refine ⟨⟨j + pl, n - pl, c - pl, _, by have := hn.out; omega, rfl, Lib.hid (by have := hn.out; omega), by omega, HR6.out _ H9.out.2, (fun _ => HAP.out), ?_, H1.out.2.2.1.trans H9.out.2, H1.out.2.2.2.1.kept H9.out.2 hg0⟩, by show n - pl < n; omega⟩
        rw [← HX2.out]
        refine piece_full xs ps wt H1.out.1.1 H1.out.1.2 (by rw [HXM.out.2.1, HPS.out.1.2]; have := HMP.out; have := HFU.out; omega) ?_
        rw [HXM.out.2.1, HXM.out.2.2, HW5.out, HST.out]
        exact H9.out.1
      · go_wp2_with fail
        refine ⟨⟨j + pl, n - pl, c - pl, _, by have := hn.out; omega, rfl, Lib.hid (by have := hn.out; omega), by omega, HR6.out _ HB6.out.2, (fun _ => HAP.out), ?_, H1.out.2.2.1.trans HB6.out.2, H1.out.2.2.2.1.kept HB6.out.2 hg0⟩, by show n - pl < n; omega⟩
        rw [← HX2.out]
        exact piece_part xs ps wt H1.out.1.1 H1.out.1.2 (by rw [HXM.out.2.1, HPS.out.1.2]; have := HMP.out; omega) (m := mp) (by rw [HXM.out.2.1, HPS.out.1.2, HMP.out]) (by rw [HXM.out.2.1, HXM.out.2.2]; exact HB6.out.1)
    · obtain rfl : j = cs.length := by omega
      have hn0 : n = 0 := by rw [hn.out]; omega
      subst hn0
      rw [List.take_length] at hB htk
      have H2 : Hid (HSt wr g (bs ++ cs) (bs.length + cs.length) ∧ w.grownBy wr (some g)) := Lib.hid ⟨⟨wt, hwt, htk, hB⟩, hgb⟩
      clear hB htk hgb hT hr hap hwt hn
      go_wp2_with fail
      exact bodyPost_end (v := .tuple #[]) (by simp [results, Tryd.results11, go_sem]) rfl ⟨rfl, H2.out⟩
end Go.Proofs.YtjdgccgpkmimkaaDoor
