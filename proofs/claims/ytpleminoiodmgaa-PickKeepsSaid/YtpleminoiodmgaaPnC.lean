/- Layer 16: Compact of pairs that are apart; what an event that is no member's needs. -/
import Derived.Test.YtpleminoiodmgaaPnB
import Derived.Test.YtpleminoiodmgaaPkL
namespace Go.Proofs.Ytpleminoiodmgaa
open Go.ChangeShapes Go.WideShapes Go.ChangeAt Go.RowKit Go.IntWalk
set_option linter.unusedVariables false
set_option maxRecDepth 100000

/-- Pairs, one behind the other, in a block. -/
def PRow (w : World) (g : Nat) (l : List Pr) : Prop := ∀ i (h : i < l.length), w.rangeAt g (i * 2) [.string ⟨(l[i]).1.toArray⟩, .string ⟨(l[i]).2.toArray⟩]
theorem PRow.below {w w' : World} {g : Nat} {l : List Pr} (h : PRow w g l) (hb : Below w.heap.size w w') (hg : g < w.heap.size) : PRow w' g l := fun i hi j v hj =>
  (hb.cell (p := ⟨g, i * 2 + j, none⟩) hg).trans (h i hi j v hj)
theorem prow_holds {w : World} {g : Nat} {l : List Pr} (h : Go.Sort.HoldsK encP 2 w g 0 l.toArray) : PRow w g l := fun i hi j v hj => by
  have hi2 : i < l.toArray.size := by simpa using hi
  have e : l.toArray[i]! = l[i] := by rw [getElem!_pos l.toArray i hi2]; simp
  match j, hj with
  | 0, hj =>
    have h0 := (Go.Sort.HoldsK.cell h (c := 0) hi2 (by decide)).1
    rw [e, Nat.zero_add] at h0
    cases hj; exact h0
  | 1, hj =>
    have h0 := (Go.Sort.HoldsK.cell h (c := 1) hi2 (by decide)).1
    rw [e, Nat.zero_add] at h0
    cases hj; exact h0
/-- Pairs of which none is as the one behind it. -/
def Apart (l : List Pr) : Prop := ∀ i (h : i + 1 < l.length), l[i]'(by omega) ≠ l[i + 1]
def PairPost (l : List Pr) (w : World) (e : Ending) (w' : World) : Prop := (∃ g cap, e = .returned (.slice (some ⟨g, 0, none⟩) l.length cap) ∧ w.heap.size ≤ g ∧ g < w'.heap.size ∧ l.length ≤ cap ∧ cap ≤ 9223372036854775807 ∧ PRow w' g l) ∧ Below w.heap.size w w'
theorem size_pr : (Try.prog.info? 28).map (·.size) = some 2 := by kernel_rfl
set_option maxHeartbeats 4000000 in
theorem compact_apart (g n cap : Nat) (l : List Pr) (w : World) (hr : PRow w g l) (hn : n = l.length) (hl : l.length ≤ 1000000) (hc : n ≤ cap) (hg : g < w.heap.size) (ha : Apart l) :
    Calls Try.prog 30 #[.slice (some ⟨g, 0, none⟩) n cap] w (fun e w' => e = .returned (.slice (some ⟨g, 0, none⟩) n cap) ∧ Below w.heap.size w w') := by
  have HR := Lib.hid hr
  have HN := Lib.hid hn
  have HA := Lib.hid ha
  have hn6 : n ≤ 1000000 := by omega
  clear hr hn hl ha
  by_cases h2 : n < 2
  · go_enter Try.func30, Try.ntmps30
    go_wp2_with fail
    go_ret
    exact ⟨rfl, Below.refl _ _⟩
  go_enter Try.func30, Try.ntmps30
  go_wp2_with fail
  go_loopw [3] (fun i wr => ∃ j : Nat, j + 1 ≤ n ∧ i = .int .i64 ((j + 1 : Nat) : Int) ∧ Hid (Below w.heap.size w wr)) (fun i _ => n - (intOf i).toNat)
  case atStart => exact ⟨0, by omega, rfl, Lib.hid (Below.refl _ _)⟩
  case round =>
    obtain ⟨j, hj, rfl, hbe⟩ := hrel
    by_cases hlt : j + 1 < n
    · obtain ⟨x, hx⟩ : ∃ x, l[j]'(by rw [← HN.out]; omega) = x := ⟨_, rfl⟩
      obtain ⟨y, hy⟩ : ∃ y, l[j + 1]'(by rw [← HN.out]; omega) = y := ⟨_, rfl⟩
      have hne : x ≠ y := by rw [← hx, ← hy]; exact HA.out j (by rw [← HN.out]; omega)
      have r0 := HR.out.below hbe.out hg j (by rw [← HN.out]; omega)
      have r1 := HR.out.below hbe.out hg (j + 1) (by rw [← HN.out]; omega)
      have hgr : g < wr.heap.size := by have := hbe.out.size; omega
      rw [hx] at r0
      rw [hy] at r1
      obtain ⟨x1, x2⟩ := x
      obtain ⟨y1, y2⟩ := y
      dsimp only at r0 r1
      have htf : ((y1 == x1) && (y2 == x2)) = false := by
        by_cases h1 : y1 = x1
        · by_cases h2 : y2 = x2
          · exact absurd (by rw [h1, h2]) hne
          · simp [h2]
        · simp [h1]
      have HTF := Lib.hid htf
      have hq1 : ¬ n ≤ j := by omega
      have hq2 : ¬ ((j : Int) + 1 < 0) := by omega
      have hqw := wraps_i64 (j : Int) (by omega) (by omega)
      clear hx hy hne htf
      go_upto_region 6 with fail
      apply wp_region_ls (by kernel_rfl) (by kernel_rfl)
      apply ls_move (.slice (some ⟨g, 0, none⟩) n cap) (.tmp 0) rfl rfl rfl
      simp only [Act.put, List.setIfInBounds_toArray, List.set_cons_succ, List.set_cons_zero]
      apply ls_move (.int .i64 ((j + 1 : Nat) : Int)) (.tmp 3) rfl rfl rfl
      simp only [Act.put, List.setIfInBounds_toArray, List.set_cons_succ, List.set_cons_zero]
      apply ls_pure (.pointer (some ⟨g, (j + 1) * 2, none⟩)) rfl (by intro W; go_simp)
      simp only [Act.put, List.setIfInBounds_toArray, List.set_cons_succ, List.set_cons_zero]
      apply ls_load 28 (.tmp 18) rfl g ((j + 1) * 2) _ _ r1 hgr Try.underlying28 rfl size_pr rfl rfl
      simp only [Act.put, List.setIfInBounds_toArray, List.set_cons_succ, List.set_cons_zero]
      apply ls_move (.slice (some ⟨g, 0, none⟩) n cap) (.tmp 0) rfl rfl rfl
      simp only [Act.put, List.setIfInBounds_toArray, List.set_cons_succ, List.set_cons_zero]
      apply ls_move (.int .i64 ((j + 1 : Nat) : Int)) (.tmp 3) rfl rfl rfl
      simp only [Act.put, List.setIfInBounds_toArray, List.set_cons_succ, List.set_cons_zero]
      apply ls_pure (.int .i64 (j : Int)) rfl (by intro W; go_simp)
      simp only [Act.put, List.setIfInBounds_toArray, List.set_cons_succ, List.set_cons_zero]
      apply ls_pure (.pointer (some ⟨g, j * 2, none⟩)) rfl (by intro W; go_simp)
      simp only [Act.put, List.setIfInBounds_toArray, List.set_cons_succ, List.set_cons_zero]
      apply ls_load 28 (.tmp 23) rfl g (j * 2) _ _ r0 hgr Try.underlying28 rfl size_pr rfl rfl
      simp only [Act.put, List.setIfInBounds_toArray, List.set_cons_succ, List.set_cons_zero]
      apply ls_pure (.bool false) rfl (by intro W; rw [← HTF.out]; go_simp; by_cases h1 : y1 = x1 <;> by_cases h2 : y2 = x2 <;> simp [h1, h2])
      simp only [Act.put, List.setIfInBounds_toArray, List.set_cons_succ, List.set_cons_zero]
      refine ls_nil (Rs := []) ?_
      intro w4 b4
      have HB4 := Lib.hid (hbe.out.then_ b4)
      clear b4 r0 r1
      go_wp2_with fail
      exact ⟨⟨j + 1, by omega, by go_num, HB4⟩, by simp [intOf]; omega⟩
    · obtain rfl : n = j + 1 := by omega
      go_wp2_with fail
      go_ret
      exact ⟨rfl, hbe.out⟩
theorem blk_atP {w : World} (cs : List Value) (T : TypeId) {g : Nat} (h : w.heap.size = g) : Blk (w.alloc (.cells cs.toArray T)) g T cs := h ▸ Blk.new w cs T
theorem holds_blk {w : World} {g : Nat} {T : TypeId} {p q r : Pr} (h : Blk w g T [strV p.1, strV p.2, strV q.1, strV q.2, strV r.1, strV r.2]) : Go.Sort.HoldsK encP 2 w g 0 #[p, q, r] := fun j hj => by
  have hj6 : j < 6 := by simpa using hj
  rw [Nat.zero_add]
  match j, hj6 with
  | 0, _ => exact ⟨by rw [Go.Sort.get_flatK encP 2 _ 0 (by show 0 < 6; decide)]; exact h.cell (k := 0) rfl, h.frozen 0⟩
  | 1, _ => exact ⟨by rw [Go.Sort.get_flatK encP 2 _ 1 (by show 1 < 6; decide)]; exact h.cell (k := 1) rfl, h.frozen 1⟩
  | 2, _ => exact ⟨by rw [Go.Sort.get_flatK encP 2 _ 2 (by show 2 < 6; decide)]; exact h.cell (k := 2) rfl, h.frozen 2⟩
  | 3, _ => exact ⟨by rw [Go.Sort.get_flatK encP 2 _ 3 (by show 3 < 6; decide)]; exact h.cell (k := 3) rfl, h.frozen 3⟩
  | 4, _ => exact ⟨by rw [Go.Sort.get_flatK encP 2 _ 4 (by show 4 < 6; decide)]; exact h.cell (k := 4) rfl, h.frozen 4⟩
  | 5, _ => exact ⟨by rw [Go.Sort.get_flatK encP 2 _ 5 (by show 5 < 6; decide)]; exact h.cell (k := 5) rfl, h.frozen 5⟩
def baseP (s : List UInt8) : List Pr := [([109, 46, 114, 111, 111, 109, 46, 99, 114, 101, 97, 116, 101], []), ([109, 46, 114, 111, 111, 109, 46, 109, 101, 109, 98, 101, 114], s), ([109, 46, 114, 111, 111, 109, 46, 112, 111, 119, 101, 114, 95, 108, 101, 118, 101, 108, 115], [])]
theorem baseP_sort (s : List UInt8) : sortP [([109, 46, 114, 111, 111, 109, 46, 99, 114, 101, 97, 116, 101], []), ([109, 46, 114, 111, 111, 109, 46, 112, 111, 119, 101, 114, 95, 108, 101, 118, 101, 108, 115], []), ([109, 46, 114, 111, 111, 109, 46, 109, 101, 109, 98, 101, 114], s)] = baseP s := by
  refine sortP_eq (List.Perm.cons _ (List.Perm.swap _ _ _)) ?_
  have h1 : cmpP ([109, 46, 114, 111, 111, 109, 46, 109, 101, 109, 98, 101, 114], s) ([109, 46, 114, 111, 111, 109, 46, 99, 114, 101, 97, 116, 101], []) = 1 := by unfold cmpP; rw [if_neg (show ¬ Lib.compareBytes [109, 46, 114, 111, 111, 109, 46, 109, 101, 109, 98, 101, 114] [109, 46, 114, 111, 111, 109, 46, 99, 114, 101, 97, 116, 101] = 0 by decide)]; show Lib.compareBytes [109, 46, 114, 111, 111, 109, 46, 109, 101, 109, 98, 101, 114] [109, 46, 114, 111, 111, 109, 46, 99, 114, 101, 97, 116, 101] = 1; decide
  have h2 : cmpP ([109, 46, 114, 111, 111, 109, 46, 112, 111, 119, 101, 114, 95, 108, 101, 118, 101, 108, 115], []) ([109, 46, 114, 111, 111, 109, 46, 99, 114, 101, 97, 116, 101], []) = 1 := by decide
  have h3 : cmpP ([109, 46, 114, 111, 111, 109, 46, 112, 111, 119, 101, 114, 95, 108, 101, 118, 101, 108, 115], []) ([109, 46, 114, 111, 111, 109, 46, 109, 101, 109, 98, 101, 114], s) = 1 := by unfold cmpP; rw [if_neg (show ¬ Lib.compareBytes [109, 46, 114, 111, 111, 109, 46, 112, 111, 119, 101, 114, 95, 108, 101, 118, 101, 108, 115] [109, 46, 114, 111, 111, 109, 46, 109, 101, 109, 98, 101, 114] = 0 by decide)]; show Lib.compareBytes [109, 46, 114, 111, 111, 109, 46, 112, 111, 119, 101, 114, 95, 108, 101, 118, 101, 108, 115] [109, 46, 114, 111, 111, 109, 46, 109, 101, 109, 98, 101, 114] = 1; decide
  unfold baseP
  refine List.pairwise_cons.2 ⟨fun a ha => ?_, List.pairwise_cons.2 ⟨fun a ha => ?_, List.pairwise_singleton _ _⟩⟩
  · simp only [List.mem_cons, List.not_mem_nil, or_false] at ha
    rcases ha with rfl | rfl
    · rw [lt_cmpP, h1]; rfl
    · rw [lt_cmpP, h2]; rfl
  · simp only [List.mem_cons, List.not_mem_nil, or_false] at ha
    subst ha
    rw [lt_cmpP, h3]; rfl
theorem baseP_apart (s : List UInt8) : Apart (baseP s) := fun i hi => by
  have hi2 : i < 2 := by
    have h3 : i + 1 < 3 := hi
    omega
  match i, hi2 with
  | 0, _ => intro h; exact absurd (congrArg Prod.fst h) (show ¬ ([109, 46, 114, 111, 111, 109, 46, 99, 114, 101, 97, 116, 101] : List UInt8) = [109, 46, 114, 111, 111, 109, 46, 109, 101, 109, 98, 101, 114] by decide)
  | 1, _ => intro h; exact absurd (congrArg Prod.fst h) (show ¬ ([109, 46, 114, 111, 111, 109, 46, 109, 101, 109, 98, 101, 114] : List UInt8) = [109, 46, 114, 111, 111, 109, 46, 112, 111, 119, 101, 114, 95, 108, 101, 118, 101, 108, 115] by decide)
set_option maxHeartbeats 4000000 in
theorem needed_other (s t : List UInt8) (c0 c3 c4 c5 c6 c7 c8 c9 c10 c11 c12 c13 c14 c15 c16 : Value) (w : World) (h1 : t ≠ [109, 46, 114, 111, 111, 109, 46, 99, 114, 101, 97, 116, 101]) (h2 : t ≠ [109, 46, 114, 111, 111, 109, 46, 109, 101, 109, 98, 101, 114]) :
    Calls Try.prog 22 #[.agg #[c0, .string ⟨s.toArray⟩, .string ⟨t.toArray⟩, c3, c4, c5, c6, c7, c8, c9, c10, c11, c12, c13, c14, c15, c16]] w (PairPost (baseP s) w) := by
  have HX := Lib.hid (Blk.new w [c0, .string ⟨s.toArray⟩, .string ⟨t.toArray⟩, c3, c4, c5, c6, c7, c8, c9, c10, c11, c12, c13, c14, c15, c16] 51)
  have HB := Lib.hid (show Below w.heap.size w (w.alloc (.cells #[c0, .string ⟨s.toArray⟩, .string ⟨t.toArray⟩, c3, c4, c5, c6, c7, c8, c9, c10, c11, c12, c13, c14, c15, c16] 51)) from (Below.refl _ _).alloc (Nat.le_refl _) _)
  have t1 : (t == [109, 46, 114, 111, 111, 109, 46, 99, 114, 101, 97, 116, 101]) = false := by rw [beq_eq_false_iff_ne]; exact h1
  have t2 : (t == [109, 46, 114, 111, 111, 109, 46, 109, 101, 109, 98, 101, 114]) = false := by rw [beq_eq_false_iff_ne]; exact h2
  have d1 := HX.out.cell (k := 1) rfl
  have d2 := HX.out.cell (k := 2) rfl
  clear h1 h2
  go_enter Try.func22, Try.ntmps22
  go_upto_region 4 with fail
  refine wp_gen (fun W => Blk W (w.heap.size + 1) 28 [.string ⟨#[109, 46, 114, 111, 111, 109, 46, 99, 114, 101, 97, 116, 101]⟩, .string ⟨#[]⟩, .string ⟨#[109, 46, 114, 111, 111, 109, 46, 112, 111, 119, 101, 114, 95, 108, 101, 118, 101, 108, 115]⟩, .string ⟨#[]⟩, .string ⟨#[109, 46, 114, 111, 111, 109, 46, 109, 101, 109, 98, 101, 114]⟩, .string ⟨s.toArray⟩] ∧ Blk W w.heap.size 51 [c0, .string ⟨s.toArray⟩, .string ⟨t.toArray⟩, c3, c4, c5, c6, c7, c8, c9, c10, c11, c12, c13, c14, c15, c16] ∧ Below w.heap.size w W) ⟨blk_atP _ 28 (by simp), HX.out.alloc _, HB.out.alloc (by simp) _⟩ ?_
  clear d1 d2 HX HB
  rintro w1 ⟨g1, g2, g3⟩
  have d1 := g2.cell (k := 1) rfl
  have d2 := g2.cell (k := 2) rfl
  have HR := Lib.hid g1
  have HB := Lib.hid g3
  have HS := Lib.hid (sortP_calls (w.heap.size + 1) 3 #[([109, 46, 114, 111, 111, 109, 46, 99, 114, 101, 97, 116, 101], []), ([109, 46, 114, 111, 111, 109, 46, 112, 111, 119, 101, 114, 95, 108, 101, 118, 101, 108, 115], []), ([109, 46, 114, 111, 111, 109, 46, 109, 101, 109, 98, 101, 114], s)] w1 (holds_blk g1) g1.lt (by show 3 ≤ 1000000; decide))
  clear g1 g2 g3
  go_wp2_with fail
  refine HS.out.mono ?_
  rintro e w2 ⟨rfl, n, os, hw2⟩
  have hh := sortP_holds (n := n) (os := os) (holds_blk (p := ([109, 46, 114, 111, 111, 109, 46, 99, 114, 101, 97, 116, 101], [])) (q := ([109, 46, 114, 111, 111, 109, 46, 112, 111, 119, 101, 114, 95, 108, 101, 118, 101, 108, 115], [])) (r := ([109, 46, 114, 111, 111, 109, 46, 109, 101, 109, 98, 101, 114], s)) HR.out) HR.out.lt
  have hb2 := sortW_below (enc := encP) (k := 2) (n := n) (d := (sortP (#[([109, 46, 114, 111, 111, 109, 46, 99, 114, 101, 97, 116, 101], []), ([109, 46, 114, 111, 111, 109, 46, 112, 111, 119, 101, 114, 95, 108, 101, 118, 101, 108, 115], []), ([109, 46, 114, 111, 111, 109, 46, 109, 101, 109, 98, 101, 114], s)] : Array Pr).toList).toArray) (os := os) (w := w1) (blk := w.heap.size + 1) (off := 0) (B := w.heap.size) (by omega) HR.out.lt
  rw [← hw2] at hh hb2
  have he : (sortP (#[([109, 46, 114, 111, 111, 109, 46, 99, 114, 101, 97, 116, 101], []), ([109, 46, 114, 111, 111, 109, 46, 112, 111, 119, 101, 114, 95, 108, 101, 118, 101, 108, 115], []), ([109, 46, 114, 111, 111, 109, 46, 109, 101, 109, 98, 101, 114], s)] : Array Pr).toList) = baseP s := baseP_sort s
  rw [he] at hh
  have HP := Lib.hid (prow_holds hh)
  have HB2 := Lib.hid (HB.out.trans hb2)
  have HL := Lib.hid (show w.heap.size + 1 < w2.heap.size by have := hb2.size; have := HR.out.lt; omega)
  have HC := Lib.hid (compact_apart (w.heap.size + 1) 3 3 (baseP s) w2 HP.out rfl (by show 3 ≤ _; decide) (Nat.le_refl _) HL.out (baseP_apart s))
  clear hh hb2 hw2 he d1 d2
  go_wp2_with fail
  refine HC.out.mono ?_
  rintro e w3 ⟨rfl, b3⟩
  have HF := Lib.hid (And.intro (HP.out.below b3 HL.out) (And.intro (HB2.out.then_ b3) (show w.heap.size + 1 < w3.heap.size by have := b3.size; have := HL.out; omega)))
  clear b3
  go_wp2_with fail
  go_ret
  exact ⟨⟨w.heap.size + 1, 3, rfl, by omega, HF.out.2.2, Nat.le_refl _, by decide, HF.out.1⟩, HF.out.2.1⟩
end Go.Proofs.Ytpleminoiodmgaa
