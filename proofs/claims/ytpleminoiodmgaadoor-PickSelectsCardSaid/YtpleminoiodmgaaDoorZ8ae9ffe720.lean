/- Texts put together: PnC PkC PnP PnG Jv0. -/
import Derived.Test.YtpleminoiodmgaaDoorZc083eb38fd
import Derived.Test.YtpleminoiodmgaaDoorZba90169528
import Derived.Deep.Cut
import Derived.Deep.AppendLies
import Derived.WalkKit
namespace Go.Proofs.YtpleminoiodmgaaDoor
open Go.ChangeShapes Go.WideShapes Go.ChangeAt Go.RowKit Go.IntWalk
set_option linter.unusedVariables false
set_option maxRecDepth 100000

/-- Pairs, one behind the other, in a block. -/
def PRow (w : World) (g : Nat) (l : List Pr) : Prop := ∀ i (h : i < l.length), w.rangeAt g (i * 2) [.string ⟨(l[i]).1.toArray⟩, .string ⟨(l[i]).2.toArray⟩]
theorem PRow.below {w w' : World} {g : Nat} {l : List Pr} (h : PRow w g l) (hb : Below w.heap.size w w') (hg : g < w.heap.size) : PRow w' g l := fun i hi j v hj =>
  (hb.cell (p := ⟨g, i * 2 + j, none⟩) hg).trans (h i hi j v hj)
theorem prow_holds {w : World} {g : Nat} {l : List Pr} (h : Go.Sort.HoldsK encP 2 w g 0 l.toArray) : PRow w g l := fun i hi j v hj => by
  have hi2 : i < l.toArray.size := by simpa using hi
  have e : l.toArray[i]! = l[i] := by rw [getElem!_pos l.toArray i hi2]; simp
  match j, hj with
  | 0, hj =>
    have h0 := (Go.Sort.HoldsK.cell h (c := 0) hi2 (by decide)).1
    rw [e, Nat.zero_add] at h0
    cases hj; exact h0
  | 1, hj =>
    have h0 := (Go.Sort.HoldsK.cell h (c := 1) hi2 (by decide)).1
    rw [e, Nat.zero_add] at h0
    cases hj; exact h0
/-- Pairs of which none is as the one behind it. -/
def Apart (l : List Pr) : Prop := ∀ i (h : i + 1 < l.length), l[i]'(by omega) ≠ l[i + 1]
def PairPost (l : List Pr) (w : World) (e : Ending) (w' : World) : Prop := (∃ g cap, e = .returned (.slice (some ⟨g, 0, none⟩) l.length cap) ∧ w.heap.size ≤ g ∧ g < w'.heap.size ∧ l.length ≤ cap ∧ cap ≤ 9223372036854775807 ∧ PRow w' g l) ∧ Below w.heap.size w w'
theorem size_pr : (Tryd.prog.info? 35).map (·.size) = some 2 := by kernel_rfl
set_option maxHeartbeats 4000000 in
theorem compact_apart (g n cap : Nat) (l : List Pr) (w : World) (hr : PRow w g l) (hn : n = l.length) (hl : l.length ≤ 1000000) (hc : n ≤ cap) (hg : g < w.heap.size) (ha : Apart l) :
    Calls Tryd.prog 21 #[.slice (some ⟨g, 0, none⟩) n cap] w (fun e w' => e = .returned (.slice (some ⟨g, 0, none⟩) n cap) ∧ Below w.heap.size w w') := by
  have HR := Lib.hid hr
  have HN := Lib.hid hn
  have HA := Lib.hid ha
  have hn6 : n ≤ 1000000 := by omega
  clear hr hn hl ha
  by_cases h2 : n < 2
  · go_enter Tryd.func21, Tryd.ntmps21
    go_wp2_with fail
    go_ret
    exact ⟨rfl, Below.refl _ _⟩
  go_enter Tryd.func21, Tryd.ntmps21
  go_wp2_with fail
  go_loopw [3] (fun i wr => ∃ j : Nat, j + 1 ≤ n ∧ i = .int .i64 ((j + 1 : Nat) : Int) ∧ Hid (Below w.heap.size w wr)) (fun i _ => n - (intOf i).toNat)
  case atStart => exact ⟨0, by omega, rfl, Lib.hid (Below.refl _ _)⟩
  case round =>
    obtain ⟨j, hj, rfl, hbe⟩ := hrel
    by_cases hlt : j + 1 < n
    · obtain ⟨x, hx⟩ : ∃ x, l[j]'(by rw [← HN.out]; omega) = x := ⟨_, rfl⟩
      obtain ⟨y, hy⟩ : ∃ y, l[j + 1]'(by rw [← HN.out]; omega) = y := ⟨_, rfl⟩
      have hne : x ≠ y := by rw [← hx, ← hy]; exact HA.out j (by rw [← HN.out]; omega)
      have r0 := HR.out.below hbe.out hg j (by rw [← HN.out]; omega)
      have r1 := HR.out.below hbe.out hg (j + 1) (by rw [← HN.out]; omega)
      have hgr : g < wr.heap.size := by have := hbe.out.size; omega
      rw [hx] at r0
      rw [hy] at r1
      obtain ⟨x1, x2⟩ := x
      obtain ⟨y1, y2⟩ := y
      dsimp only at r0 r1
      have htf : ((y1 == x1) && (y2 == x2)) = false := by
        by_cases h1 : y1 = x1
        · by_cases h2 : y2 = x2
          · exact absurd (by rw [h1, h2]) hne
          · simp [h2]
        · simp [h1]
      have HTF := Lib.hid htf
      have hq1 : ¬ n ≤ j := by omega
      have hq2 : ¬ ((j : Int) + 1 < 0) := by omega
      have hqw := wraps_i64 (j : Int) (by omega) (by omega)
      clear hx hy hne htf
      go_upto_region 6 with fail
      apply wp_region_ls (by kernel_rfl) (by kernel_rfl)
      apply ls_move (.slice (some ⟨g, 0, none⟩) n cap) (.tmp 0) rfl rfl rfl
      simp only [Act.put, List.setIfInBounds_toArray, List.set_cons_succ, List.set_cons_zero]
      apply ls_move (.int .i64 ((j + 1 : Nat) : Int)) (.tmp 3) rfl rfl rfl
      simp only [Act.put, List.setIfInBounds_toArray, List.set_cons_succ, List.set_cons_zero]
      apply ls_pure (.pointer (some ⟨g, (j + 1) * 2, none⟩)) rfl (by intro W; go_simp)
      simp only [Act.put, List.setIfInBounds_toArray, List.set_cons_succ, List.set_cons_zero]
      apply ls_load 35 (.tmp 18) rfl g ((j + 1) * 2) _ _ r1 hgr Tryd.underlying35 rfl size_pr rfl rfl
      simp only [Act.put, List.setIfInBounds_toArray, List.set_cons_succ, List.set_cons_zero]
      apply ls_move (.slice (some ⟨g, 0, none⟩) n cap) (.tmp 0) rfl rfl rfl
      simp only [Act.put, List.setIfInBounds_toArray, List.set_cons_succ, List.set_cons_zero]
      apply ls_move (.int .i64 ((j + 1 : Nat) : Int)) (.tmp 3) rfl rfl rfl
      simp only [Act.put, List.setIfInBounds_toArray, List.set_cons_succ, List.set_cons_zero]
      apply ls_pure (.int .i64 (j : Int)) rfl (by intro W; go_simp)
      simp only [Act.put, List.setIfInBounds_toArray, List.set_cons_succ, List.set_cons_zero]
      apply ls_pure (.pointer (some ⟨g, j * 2, none⟩)) rfl (by intro W; go_simp)
      simp only [Act.put, List.setIfInBounds_toArray, List.set_cons_succ, List.set_cons_zero]
      apply ls_load 35 (.tmp 23) rfl g (j * 2) _ _ r0 hgr Tryd.underlying35 rfl size_pr rfl rfl
      simp only [Act.put, List.setIfInBounds_toArray, List.set_cons_succ, List.set_cons_zero]
      apply ls_pure (.bool false) rfl (by intro W; rw [← HTF.out]; go_simp; by_cases h1 : y1 = x1 <;> by_cases h2 : y2 = x2 <;> simp [h1, h2])
      simp only [Act.put, List.setIfInBounds_toArray, List.set_cons_succ, List.set_cons_zero]
      refine ls_nil (Rs := []) ?_
      intro w4 b4
      have HB4 := Lib.hid (hbe.out.then_ b4)
      clear b4 r0 r1
      go_wp2_with fail
      exact ⟨⟨j + 1, by omega, by go_num, HB4⟩, by simp [intOf]; omega⟩
    · obtain rfl : n = j + 1 := by omega
      go_wp2_with fail
      go_ret
      exact ⟨rfl, hbe.out⟩
theorem blk_atP {w : World} (cs : List Value) (T : TypeId) {g : Nat} (h : w.heap.size = g) : Blk (w.alloc (.cells cs.toArray T)) g T cs := h ▸ Blk.new w cs T
theorem holds_blk {w : World} {g : Nat} {T : TypeId} {p q r : Pr} (h : Blk w g T [strV p.1, strV p.2, strV q.1, strV q.2, strV r.1, strV r.2]) : Go.Sort.HoldsK encP 2 w g 0 #[p, q, r] := fun j hj => by
  have hj6 : j < 6 := by simpa using hj
  rw [Nat.zero_add]
  match j, hj6 with
  | 0, _ => exact ⟨by rw [Go.Sort.get_flatK encP 2 _ 0 (by show 0 < 6; decide)]; exact h.cell (k := 0) rfl, h.frozen 0⟩
  | 1, _ => exact ⟨by rw [Go.Sort.get_flatK encP 2 _ 1 (by show 1 < 6; decide)]; exact h.cell (k := 1) rfl, h.frozen 1⟩
  | 2, _ => exact ⟨by rw [Go.Sort.get_flatK encP 2 _ 2 (by show 2 < 6; decide)]; exact h.cell (k := 2) rfl, h.frozen 2⟩
  | 3, _ => exact ⟨by rw [Go.Sort.get_flatK encP 2 _ 3 (by show 3 < 6; decide)]; exact h.cell (k := 3) rfl, h.frozen 3⟩
  | 4, _ => exact ⟨by rw [Go.Sort.get_flatK encP 2 _ 4 (by show 4 < 6; decide)]; exact h.cell (k := 4) rfl, h.frozen 4⟩
  | 5, _ => exact ⟨by rw [Go.Sort.get_flatK encP 2 _ 5 (by show 5 < 6; decide)]; exact h.cell (k := 5) rfl, h.frozen 5⟩
def baseP (s : List UInt8) : List Pr := [([109, 46, 114, 111, 111, 109, 46, 99, 114, 101, 97, 116, 101], []), ([109, 46, 114, 111, 111, 109, 46, 109, 101, 109, 98, 101, 114], s), ([109, 46, 114, 111, 111, 109, 46, 112, 111, 119, 101, 114, 95, 108, 101, 118, 101, 108, 115], [])]
theorem baseP_sort (s : List UInt8) : sortP [([109, 46, 114, 111, 111, 109, 46, 99, 114, 101, 97, 116, 101], []), ([109, 46, 114, 111, 111, 109, 46, 112, 111, 119, 101, 114, 95, 108, 101, 118, 101, 108, 115], []), ([109, 46, 114, 111, 111, 109, 46, 109, 101, 109, 98, 101, 114], s)] = baseP s := by
  refine sortP_eq (List.Perm.cons _ (List.Perm.swap _ _ _)) ?_
  have h1 : cmpP ([109, 46, 114, 111, 111, 109, 46, 109, 101, 109, 98, 101, 114], s) ([109, 46, 114, 111, 111, 109, 46, 99, 114, 101, 97, 116, 101], []) = 1 := by unfold cmpP; rw [if_neg (show ¬ Lib.compareBytes [109, 46, 114, 111, 111, 109, 46, 109, 101, 109, 98, 101, 114] [109, 46, 114, 111, 111, 109, 46, 99, 114, 101, 97, 116, 101] = 0 by decide)]; show Lib.compareBytes [109, 46, 114, 111, 111, 109, 46, 109, 101, 109, 98, 101, 114] [109, 46, 114, 111, 111, 109, 46, 99, 114, 101, 97, 116, 101] = 1; decide
  have h2 : cmpP ([109, 46, 114, 111, 111, 109, 46, 112, 111, 119, 101, 114, 95, 108, 101, 118, 101, 108, 115], []) ([109, 46, 114, 111, 111, 109, 46, 99, 114, 101, 97, 116, 101], []) = 1 := by decide
  have h3 : cmpP ([109, 46, 114, 111, 111, 109, 46, 112, 111, 119, 101, 114, 95, 108, 101, 118, 101, 108, 115], []) ([109, 46, 114, 111, 111, 109, 46, 109, 101, 109, 98, 101, 114], s) = 1 := by unfold cmpP; rw [if_neg (show ¬ Lib.compareBytes [109, 46, 114, 111, 111, 109, 46, 112, 111, 119, 101, 114, 95, 108, 101, 118, 101, 108, 115] [109, 46, 114, 111, 111, 109, 46, 109, 101, 109, 98, 101, 114] = 0 by decide)]; show Lib.compareBytes [109, 46, 114, 111, 111, 109, 46, 112, 111, 119, 101, 114, 95, 108, 101, 118, 101, 108, 115] [109, 46, 114, 111, 111, 109, 46, 109, 101, 109, 98, 101, 114] = 1; decide
  unfold baseP
  refine List.pairwise_cons.2 ⟨fun a ha => ?_, List.pairwise_cons.2 ⟨fun a ha => ?_, List.pairwise_singleton _ _⟩⟩
  · simp only [List.mem_cons, List.not_mem_nil, or_false] at ha
    rcases ha with rfl | rfl
    · rw [lt_cmpP, h1]; rfl
    · rw [lt_cmpP, h2]; rfl
  · simp only [List.mem_cons, List.not_mem_nil, or_false] at ha
    subst ha
    rw [lt_cmpP, h3]; rfl
theorem baseP_apart (s : List UInt8) : Apart (baseP s) := fun i hi => by
  have hi2 : i < 2 := by
    have h3 : i + 1 < 3 := hi
    omega
  match i, hi2 with
  | 0, _ => intro h; exact absurd (congrArg Prod.fst h) (show ¬ ([109, 46, 114, 111, 111, 109, 46, 99, 114, 101, 97, 116, 101] : List UInt8) = [109, 46, 114, 111, 111, 109, 46, 109, 101, 109, 98, 101, 114] by decide)
  | 1, _ => intro h; exact absurd (congrArg Prod.fst h) (show ¬ ([109, 46, 114, 111, 111, 109, 46, 109, 101, 109, 98, 101, 114] : List UInt8) = [109, 46, 114, 111, 111, 109, 46, 112, 111, 119, 101, 114, 95, 108, 101, 118, 101, 108, 115] by decide)
set_option maxHeartbeats 4000000 in
theorem needed_other (s t : List UInt8) (c0 c3 c4 c5 c6 c7 c8 c9 c10 c11 c12 c13 c14 c15 c16 : Value) (w : World) (h1 : t ≠ [109, 46, 114, 111, 111, 109, 46, 99, 114, 101, 97, 116, 101]) (h2 : t ≠ [109, 46, 114, 111, 111, 109, 46, 109, 101, 109, 98, 101, 114]) :
    Calls Tryd.prog 8 #[.agg #[c0, .string ⟨s.toArray⟩, .string ⟨t.toArray⟩, c3, c4, c5, c6, c7, c8, c9, c10, c11, c12, c13, c14, c15, c16]] w (PairPost (baseP s) w) := by
  have HX := Lib.hid (Blk.new w [c0, .string ⟨s.toArray⟩, .string ⟨t.toArray⟩, c3, c4, c5, c6, c7, c8, c9, c10, c11, c12, c13, c14, c15, c16] 29)
  have HB := Lib.hid (show Below w.heap.size w (w.alloc (.cells #[c0, .string ⟨s.toArray⟩, .string ⟨t.toArray⟩, c3, c4, c5, c6, c7, c8, c9, c10, c11, c12, c13, c14, c15, c16] 29)) from (Below.refl _ _).alloc (Nat.le_refl _) _)
  have t1 : (t == [109, 46, 114, 111, 111, 109, 46, 99, 114, 101, 97, 116, 101]) = false := by rw [beq_eq_false_iff_ne]; exact h1
  have t2 : (t == [109, 46, 114, 111, 111, 109, 46, 109, 101, 109, 98, 101, 114]) = false := by rw [beq_eq_false_iff_ne]; exact h2
  have d1 := HX.out.cell (k := 1) rfl
  have d2 := HX.out.cell (k := 2) rfl
  clear h1 h2
  go_enter Tryd.func8, Tryd.ntmps8
  go_upto_region 4 with fail
  refine wp_gen (fun W => Blk W (w.heap.size + 1) 35 [.string ⟨#[109, 46, 114, 111, 111, 109, 46, 99, 114, 101, 97, 116, 101]⟩, .string ⟨#[]⟩, .string ⟨#[109, 46, 114, 111, 111, 109, 46, 112, 111, 119, 101, 114, 95, 108, 101, 118, 101, 108, 115]⟩, .string ⟨#[]⟩, .string ⟨#[109, 46, 114, 111, 111, 109, 46, 109, 101, 109, 98, 101, 114]⟩, .string ⟨s.toArray⟩] ∧ Blk W w.heap.size 29 [c0, .string ⟨s.toArray⟩, .string ⟨t.toArray⟩, c3, c4, c5, c6, c7, c8, c9, c10, c11, c12, c13, c14, c15, c16] ∧ Below w.heap.size w W) ⟨blk_atP _ 35 (by simp), HX.out.alloc _, HB.out.alloc (by simp) _⟩ ?_
  clear d1 d2 HX HB
  rintro w1 ⟨g1, g2, g3⟩
  have d1 := g2.cell (k := 1) rfl
  have d2 := g2.cell (k := 2) rfl
  have HR := Lib.hid g1
  have HB := Lib.hid g3
  have HS := Lib.hid (sortP_calls (w.heap.size + 1) 3 #[([109, 46, 114, 111, 111, 109, 46, 99, 114, 101, 97, 116, 101], []), ([109, 46, 114, 111, 111, 109, 46, 112, 111, 119, 101, 114, 95, 108, 101, 118, 101, 108, 115], []), ([109, 46, 114, 111, 111, 109, 46, 109, 101, 109, 98, 101, 114], s)] w1 (holds_blk g1) g1.lt (by show 3 ≤ 1000000; decide))
  clear g1 g2 g3
  go_wp2_with fail
  refine HS.out.mono ?_
  rintro e w2 ⟨rfl, n, os, hw2⟩
  have hh := sortP_holds (n := n) (os := os) (holds_blk (p := ([109, 46, 114, 111, 111, 109, 46, 99, 114, 101, 97, 116, 101], [])) (q := ([109, 46, 114, 111, 111, 109, 46, 112, 111, 119, 101, 114, 95, 108, 101, 118, 101, 108, 115], [])) (r := ([109, 46, 114, 111, 111, 109, 46, 109, 101, 109, 98, 101, 114], s)) HR.out) HR.out.lt
  have hb2 := sortW_below (enc := encP) (k := 2) (n := n) (d := (sortP (#[([109, 46, 114, 111, 111, 109, 46, 99, 114, 101, 97, 116, 101], []), ([109, 46, 114, 111, 111, 109, 46, 112, 111, 119, 101, 114, 95, 108, 101, 118, 101, 108, 115], []), ([109, 46, 114, 111, 111, 109, 46, 109, 101, 109, 98, 101, 114], s)] : Array Pr).toList).toArray) (os := os) (w := w1) (blk := w.heap.size + 1) (off := 0) (B := w.heap.size) (by omega) HR.out.lt
  rw [← hw2] at hh hb2
  have he : (sortP (#[([109, 46, 114, 111, 111, 109, 46, 99, 114, 101, 97, 116, 101], []), ([109, 46, 114, 111, 111, 109, 46, 112, 111, 119, 101, 114, 95, 108, 101, 118, 101, 108, 115], []), ([109, 46, 114, 111, 111, 109, 46, 109, 101, 109, 98, 101, 114], s)] : Array Pr).toList) = baseP s := baseP_sort s
  rw [he] at hh
  have HP := Lib.hid (prow_holds hh)
  have HB2 := Lib.hid (HB.out.trans hb2)
  have HL := Lib.hid (show w.heap.size + 1 < w2.heap.size by have := hb2.size; have := HR.out.lt; omega)
  have HC := Lib.hid (compact_apart (w.heap.size + 1) 3 3 (baseP s) w2 HP.out rfl (by show 3 ≤ _; decide) (Nat.le_refl _) HL.out (baseP_apart s))
  clear hh hb2 hw2 he d1 d2
  go_wp2_with fail
  refine HC.out.mono ?_
  rintro e w3 ⟨rfl, b3⟩
  have HF := Lib.hid (And.intro (HP.out.below b3 HL.out) (And.intro (HB2.out.then_ b3) (show w.heap.size + 1 < w3.heap.size by have := b3.size; have := HL.out; omega)))
  clear b3
  go_wp2_with fail
  go_ret
  exact ⟨⟨w.heap.size + 1, 3, rfl, by omega, HF.out.2.2, Nat.le_refl _, by decide, HF.out.1⟩, HF.out.2.1⟩
end Go.Proofs.YtpleminoiodmgaaDoor
namespace Go.Proofs.YtpleminoiodmgaaDoor
open Go.ChangeShapes Go.WideShapes Go.ChangeAt Go.RowKit Go.IntWalk
set_option linter.unusedVariables false

/-- A slot in a block of its own, and the load of one. -/
theorem size_slot : (Tryd.prog.info? 52).map (·.size) = some 3 := by kernel_rfl
theorem size_pair : (Tryd.prog.info? 35).map (·.size) = some 2 := by kernel_rfl
set_option maxHeartbeats 1000000 in
theorem closure_calls (s : Slt) (p : Pr) (w : World) : Calls Tryd.prog 56 #[s.val, prV p] w fun e w' => e = .returned (.int .i64 (cmpP s.pr p)) ∧ Below w.heap.size w w' := by
  obtain ⟨t, k, i⟩ := s
  obtain ⟨c, d⟩ := p
  unfold Slt.val prV
  dsimp only
  go_enter Tryd.func56, Tryd.ntmps56
  go_upto_region 1 with fail
  have hs : Blk ((w.alloc (.cells #[.string ⟨t.toArray⟩, .string ⟨k.toArray⟩, .string ⟨i.toArray⟩] 52)).alloc (.cells #[.string ⟨c.toArray⟩, .string ⟨d.toArray⟩] 35)) w.heap.size 52 [.string ⟨t.toArray⟩, .string ⟨k.toArray⟩, .string ⟨i.toArray⟩] := (Blk.new w _ _).alloc _
  have hp : Blk ((w.alloc (.cells #[.string ⟨t.toArray⟩, .string ⟨k.toArray⟩, .string ⟨i.toArray⟩] 52)).alloc (.cells #[.string ⟨c.toArray⟩, .string ⟨d.toArray⟩] 35)) (w.heap.size + 1) 35 [.string ⟨c.toArray⟩, .string ⟨d.toArray⟩] := by have := Blk.new (w.alloc (.cells #[.string ⟨t.toArray⟩, .string ⟨k.toArray⟩, .string ⟨i.toArray⟩] 52)) [.string ⟨c.toArray⟩, .string ⟨d.toArray⟩] 35; simpa using this
  have hB := below2 w (.cells #[.string ⟨t.toArray⟩, .string ⟨k.toArray⟩, .string ⟨i.toArray⟩] 52) (.cells #[.string ⟨c.toArray⟩, .string ⟨d.toArray⟩] 35)
  have HB := Lib.hid hB
  clear hB
  apply wp_region_ls (by kernel_rfl) (by kernel_rfl)
  apply ls_load 52 (.tmp 2) rfl w.heap.size 0 _ _ hs.rng hs.lt Tryd.underlying52 rfl size_slot rfl rfl
  simp only [Act.put, List.setIfInBounds_toArray, List.set_cons_succ, List.set_cons_zero]
  apply ls_callx (prV (t, k)) 57 #[Slt.val ⟨t, k, i⟩] rfl (by intro W; go_simp; rfl) (fun W => pairOf_calls ⟨t, k, i⟩ W)
  simp only [Act.put, List.setIfInBounds_toArray, List.set_cons_succ, List.set_cons_zero]
  apply ls_load 35 (.tmp 3) rfl (w.heap.size + 1) 0 _ _ hp.rng hp.lt Tryd.underlying35 rfl size_pair rfl rfl
  simp only [Act.put, List.setIfInBounds_toArray, List.set_cons_succ, List.set_cons_zero]
  apply ls_callx (.int .i64 (cmpP (t, k) (c, d))) 20 #[prV (t, k), prV (c, d)] rfl (by intro W; go_simp; rfl) (fun W => compare_calls _ _ W)
  simp only [Act.put, List.setIfInBounds_toArray, List.set_cons_succ, List.set_cons_zero]
  apply ls_assign (.int .i64 (cmpP (t, k) (c, d))) (.tmp 8) rfl rfl rfl
  simp only [Act.put, List.setIfInBounds_toArray, List.set_cons_succ, List.set_cons_zero]
  refine ls_nil (Rs := []) ?_
  intro w4 b4
  have hfin := HB.out.then_ b4
  clear hs hp b4
  go_wp2_with fail
  go_ret
  exact ⟨rfl, hfin⟩
end Go.Proofs.YtpleminoiodmgaaDoor
namespace Go.Proofs.YtpleminoiodmgaaDoor
open Go.ChangeShapes Go.WideShapes Go.ChangeAt Go.RowKit Go.IntWalk
set_option linter.unusedVariables false

def pcl (p : Pr) : List Value := [strV p.1, strV p.2]
def prC (l : List Pr) : List Value := l.flatMap pcl
theorem prC_cons (s : Pr) (l : List Pr) : prC (s :: l) = (pcl s) ++ prC l := rfl
theorem prC_app (l m : List Pr) : prC (l ++ m) = prC l ++ prC m := List.flatMap_append
theorem prC_len : ∀ l : List Pr, (prC l).length = l.length * 2
  | [] => rfl
  | s :: l => by rw [prC_cons, List.length_append, prC_len l, List.length_cons]; show 2 + _ = _; omega
theorem prC_get : ∀ {l : List Pr} {i j : Nat} (hi : i < l.length) (hj : j < 2), (prC l)[i * 2 + j]? = (pcl (l[i]))[j]?
  | s :: l, 0, j, hi, hj => by rw [prC_cons, List.getElem?_append_left (by show _ < 2; omega)]; simp
  | s :: l, i + 1, j, hi, hj => by
    rw [prC_cons, List.getElem?_append_right (by show 2 ≤ _; omega), show (i + 1) * 2 + j - (pcl s).length = i * 2 + j by show _ - 2 = _; omega, prC_get (by simpa using hi) hj]; rfl
theorem prC_of {l : List Pr} {q : Nat} {v : Value} (h : (prC l)[q]? = some v) : ∃ i j, ∃ hi : i < l.length, j < 2 ∧ q = i * 2 + j ∧ (pcl (l[i]))[j]? = some v := by
  have hq : q < (prC l).length := (List.getElem?_eq_some_iff.1 h).1
  rw [prC_len] at hq
  have hi : q / 2 < l.length := by omega
  refine ⟨q / 2, q % 2, hi, by omega, by omega, ?_⟩
  rw [← prC_get hi (by omega), show q / 2 * 2 + q % 2 = q by omega]
  exact h
theorem prC_take (l : List Pr) (i : Nat) : (prC l).take (i * 2) = prC (l.take i) := by
  induction l generalizing i with
  | nil => simp [prC]
  | cons s l ih =>
    cases i with
    | zero => simp [prC]
    | succ i =>
      rw [prC_cons, List.take_succ_cons, prC_cons, List.take_append, List.take_of_length_le (by show 2 ≤ _; omega), show (i + 1) * 2 - (pcl s).length = i * 2 by show _ - 2 = _; omega, ih]
theorem prC_drop (l : List Pr) (i : Nat) : (prC l).drop (i * 2) = prC (l.drop i) := by
  induction l generalizing i with
  | nil => simp [prC]
  | cons s l ih =>
    cases i with
    | zero => simp
    | succ i =>
      rw [prC_cons, List.drop_succ_cons, List.drop_append, List.drop_of_length_le (by show 2 ≤ _; omega), show (i + 1) * 2 - (pcl s).length = i * 2 by show _ - 2 = _; omega, ih]; rfl
theorem prC_one (l : List Pr) : ∀ v ∈ prC l, v.oneCell' = true := by
  intro v hv
  obtain ⟨s, _, hs⟩ := List.mem_flatMap.1 hv
  simp only [pcl, List.mem_cons, List.not_mem_nil, or_false] at hs
  rcases hs with rfl | rfl <;> rfl
/-- The slice at A reads pairs. -/
def LP (w : World) (A : Option Addr) (n c : Nat) (ps : List Pr) : Prop := RV w A (prC ps) ∧ Hid (n = ps.length) ∧ n ≤ c ∧ c ≤ 9223372036854775807
theorem LP.below {w w' : World} {A : Option Addr} {n c : Nat} {ps : List Pr} (h : LP w A n c ps) (hb : Below w.heap.size w w') : LP w' A n c ps := ⟨h.1.below hb, h.2⟩
theorem pr_row {w wr : World} {A : Option Addr} {xs : List Pr} (h : RV w A (prC xs)) (hb : Below w.heap.size w wr) {k : Nat} (hk : k < xs.length) : ∃ b off, A = some ⟨b, off, none⟩ ∧ b < wr.heap.size ∧
    wr.rangeAt b (off + k * 2) [.string ⟨(xs[k]).1.toArray⟩, .string ⟨(xs[k]).2.toArray⟩] := by
  obtain ⟨b, off, rfl, hb0, h0⟩ := h (k * 2 + 0) (strV (xs[k]).1) (by rw [prC_get hk (by decide)]; rfl)
  obtain ⟨b1, off1, e1, _, h1⟩ := h (k * 2 + 1) (strV (xs[k]).2) (by rw [prC_get hk (by decide)]; rfl)
  injection e1 with e1; injection e1 with e1 e3
  subst e1; subst e3
  refine ⟨b, off, rfl, Nat.lt_of_lt_of_le hb0 hb.size, fun j v hj => ?_⟩
  rw [hb.cell (p := ⟨b, off + k * 2 + j, none⟩) hb0]
  match j, hj with
  | 0, hj => cases hj; exact h0
  | 1, hj => cases hj; exact h1
/-- The value 'v' is a slice of pairs of the call's own. -/
def OwnP (base : Nat) (w : World) (v : Value) (xs : List Pr) : Prop := w.ownsRow base 35 2 v xs.length (prC xs)
section
variable {w w' : World} {base B : Nat} {v : Value} {xs : List Pr}
theorem OwnP.nil (base : Nat) (w : World) : OwnP base w (.slice none 0 0) [] := World.ownsRow_nil w base _ 2
theorem OwnP.alloc (h : OwnP base w v xs) (o : Obj) : OwnP base (w.alloc o) v xs := World.ownsRow.alloc h o
theorem OwnP.below (h : OwnP base w v xs) (hg : Below w.heap.size w w') : OwnP base w' v xs := by
  refine ⟨h.1, ?_⟩
  rcases h.2 with h2 | ⟨g, cap, cur, hv, hb, hh, r⟩
  · exact .inl h2
  · exact .inr ⟨g, cap, cur, hv, hb, by rw [hg.block g ((Array.getElem?_eq_some_iff.1 hh).1)]; exact hh, r⟩
theorem OwnP.lt (h : OwnP base w v xs) : ∀ k, v.ownBlock = .some k → base ≤ k ∧ k < w.heap.size := World.ownsRow.lt h
theorem Below.prs_grown {w0 : World} (hb : Below base w0 w) (h : OwnP base w v xs) (hg : w.grownBy w' v.ownBlock) (hw : base ≤ w.heap.size) : Below base w0 w' := by
  refine ⟨hg.os.trans hb.os, hg.tape.trans hb.tape, hg.output.trans hb.output, Nat.le_trans hb.size hg.size, fun k hk => ?_⟩
  refine (hg.block k (Nat.lt_of_lt_of_le hk hw) (fun e => ?_)).trans (hb.block k hk)
  have := (h.lt k e.symm).1
  omega
end
theorem info_pr : (Tryd.prog.info? 35).map (fun i => (i.zero, i.size, i.bytes)) = some (some (.agg #[.string ⟨#[]⟩, .string ⟨#[]⟩]), 2, 32) := by kernel_rfl
theorem wpList_append_prs {ops : Array Oper} {rest : List Oper} {o : Oper} {a : Act} {Q : Exit → Act → World → Prop} {w : World} (hgd : o.guard = none) (s x : Operand)
    (ho : o.op = .call { callee := .builtin .append, args := #[s, x], argTypes := #[32, 32] })
    (base : Nat) (v : Value) (xs : List Pr) (hs : a.eval s = v) (hown : OwnP base w v xs) (A : Addr) (n c : Nat) (ys : List Pr)
    (hx : a.eval x = .slice (some A) n c) (hl : RV w (some A) (prC ys)) (hn : Hid (n = ys.length)) (hlen : xs.length + n ≤ 1000000) (hbase : base ≤ w.heap.size)
    (h : ∀ v' w', OwnP base w' v' (xs ++ ys) → w.grownBy w' v.ownBlock → wpList Tryd.prog ops Q rest (a.put o.dst v') w') :
    wpList Tryd.prog ops Q (o :: rest) a w := by
  obtain ⟨i0, hi, hz0, hz1, hz2⟩ := info_parts info_pr
  have hn := hn.out
  subst hn
  refine wpList_append_own _ hgd s x 32 ho base 35 i0 _ 2 32 Tryd.underlying32 hi hz0 hz1 hz2 rfl (by decide) v _ _ hs hown A ys.length c (prC ys) hx (prC_len ys) ?_ (prC_one ys) (Nat.le_trans hlen (by decide)) (by omega) hbase ?_
  · intro j u hj
    obtain ⟨b, off, h1, _, h3⟩ := hl j u hj
    cases h1
    have hplain : (⟨b, off, none⟩ : Addr).add j = ⟨b, off + j, none⟩ := by unfold Addr.add; split <;> simp_all
    rw [hplain, h3]
  · intro v' w' h1 h2 _
    exact h v' w' (by unfold OwnP; rw [prC_app, List.length_append]; exact h1) h2
/-- 'append(own, pair)'. -/
theorem wpList_append_pr {ops : Array Oper} {rest : List Oper} {o : Oper} {a : Act} {Q : Exit → Act → World → Prop} {w : World} (hgd : o.guard = none) (s x : Operand)
    (ho : o.op = .call { callee := .builtin .append, args := #[s, x], argTypes := #[32, 32] })
    (base : Nat) (v : Value) (xs : List Pr) (hs : a.eval s = v) (hown : OwnP base w v xs) (y : Pr) (C : Array Value) (hC : C = (pcl y).toArray)
    (hx : a.eval x = .slice (some ⟨w.heap.size, 0, none⟩) 1 1) (hlen : xs.length + 1 ≤ 1000000) (hbase : base ≤ w.heap.size)
    (h : ∀ v' w', OwnP base w' v' (xs ++ [y]) → w.grownBy w' v.ownBlock → wpList Tryd.prog ops Q rest (a.put o.dst v') w') :
    wpList Tryd.prog ops Q (o :: rest) a (w.alloc (.cells C 35)) := by
  subst hC
  refine wpList_append_prs hgd s x ho base v xs hs (hown.alloc _) _ 1 1 [y] hx (RV.of_blk (Blk.new w (pcl y) 35)) (Lib.hid rfl) hlen (by simp; omega) ?_
  intro v' w' h1 h2
  exact h v' w' h1 ⟨h2.os, h2.tape, h2.output, Nat.le_trans (by simp) h2.size, fun k hk hne => (h2.block k (by simp; omega) hne).trans (heap_alloc_old w _ hk)⟩
theorem OwnP.form {base : Nat} {w : World} {v : Value} {xs : List Pr} (h : OwnP base w v xs) : ∃ A c, v = .slice A xs.length c ∧ LP w A xs.length c xs := by
  rcases h.2 with ⟨rfl, h0⟩ | ⟨g, cap, cur, rfl, hb, hh, hn, hm, hs, ht⟩
  · have : xs = [] := List.eq_nil_of_length_eq_zero h0
    subst this
    exact ⟨none, 0, rfl, RV.nil _ _, Lib.hid rfl, Nat.le_refl _, by decide⟩
  · refine ⟨_, cap, rfl, fun k u hu => ⟨g, 0, rfl, (Array.getElem?_eq_some_iff.1 hh).1, ?_⟩, Lib.hid rfl, hn, hm⟩
    rw [Nat.zero_add, cell_of_row _ _ _ _ _ _ hh]
    rw [← ht] at hu
    simp only [List.getElem?_take] at hu
    split at hu
    · simpa using hu
    · cases hu
end Go.Proofs.YtpleminoiodmgaaDoor
namespace Go.Proofs.YtpleminoiodmgaaDoor
open Go.ChangeShapes Go.WideShapes Go.ChangeAt Go.RowKit Go.IntWalk
set_option linter.unusedVariables false
set_option maxRecDepth 100000

def withP (xs : List Pr) (p : Pr) : List Pr := (xs.filter fun x => decide (cmpP x p = -1)) ++ p :: xs.filter fun x => decide (cmpP p x = -1)
def PrsPost (xs : List Pr) (w : World) (e : Ending) (w' : World) : Prop := ∃ v, e = .returned v ∧ OwnP w.heap.size w' v xs ∧ Below w.heap.size w w'
set_option maxHeartbeats 4000000 in
theorem refwithP_calls (A : Option Addr) (n c : Nat) (xs : List Pr) (p : Pr) (w : World) (hx : LP w A n c xs) (hnb : n ≤ 8192) : Calls Tryd.prog 22 #[.slice A n c, prV p] w (PrsPost (withP xs p) w) := by
  have HNB := Lib.hid hnb
  clear hnb
  obtain ⟨hrv, hn, hnc, hc63⟩ := hx
  have hnm : n ≤ 9223372036854775807 := Nat.le_trans hnc hc63
  obtain ⟨p1, p2⟩ := p
  unfold prV
  dsimp only
  go_enter Tryd.func22, Tryd.ntmps22
  go_wp2_with fail
  obtain ⟨wa, hwa⟩ : ∃ x, x = w.alloc (.cells #[.string ⟨p1.toArray⟩, .string ⟨p2.toArray⟩] 35) := ⟨_, rfl⟩
  have hpb : Blk wa w.heap.size 35 [.string ⟨p1.toArray⟩, .string ⟨p2.toArray⟩] := by rw [hwa]; exact Blk.new w _ _
  have hrv : RV wa A (prC xs) := by rw [hwa]; exact hrv.alloc _
  have hbw : Below w.heap.size w wa := by rw [hwa]; exact (Below.refl _ _).alloc (Nat.le_refl _) _
  rw [← hwa]
  have HH := Lib.hid (And.intro hrv (And.intro hpb (And.intro hbw hn.out)))
  clear hrv hpb hbw hn hwa
  go_loopw [5, 12] (fun o i wr => ∃ (k : Nat) (v : Value), k ≤ n ∧ v = o ∧ i = .int .i64 (k : Int) ∧ OwnP wa.heap.size wr v ((xs.take k).filter fun x => decide (cmpP x (p1, p2) = -1)) ∧ Below wa.heap.size wa wr) (fun o i _ => n - (intOf i).toNat)
  case atStart => exact ⟨0, .slice none 0 0, Nat.zero_le _, rfl, rfl, OwnP.nil _ _, Below.refl _ _⟩
  case round =>
    obtain ⟨k, v, hk, rfl, rfl, ho, hbe⟩ := hrel
    by_cases hp : k < n
    · have hkx : k < xs.length := by rw [← HH.out.2.2.2]; exact hp
      obtain ⟨b0, off, rfl, hb0, r0⟩ := pr_row HH.out.1 hbe hkx
      have hgx := List.getElem?_eq_getElem hkx
      obtain ⟨x, hxx⟩ : ∃ x, xs[k] = x := ⟨_, rfl⟩
      rw [hxx] at r0 hgx
      obtain ⟨x1, x2⟩ := x
      dsimp only at r0
      have HXK := Lib.hid hgx
      clear hxx hkx hgx
      have c0 := r0 0 _ rfl
      have c1 := r0 1 _ rfl
      rw [Nat.add_zero] at c0
      clear r0
      have HO := Lib.hid (And.intro ho hbe)
      clear ho
      go_upto_region 5 with fail
      obtain ⟨wv, hwv⟩ : ∃ x, x = wr.alloc (.cells #[.string ⟨x1.toArray⟩, .string ⟨x2.toArray⟩] 35) := ⟨_, rfl⟩
      rw [← hwv]
      have hsb : Blk wv wr.heap.size 35 [.string ⟨x1.toArray⟩, .string ⟨x2.toArray⟩] := by rw [hwv]; exact Blk.new wr _ _
      have hpw : Blk wv w.heap.size 35 [.string ⟨p1.toArray⟩, .string ⟨p2.toArray⟩] := by rw [hwv]; exact (HH.out.2.1.later hbe).alloc _
      have HV : Hid (OwnP wa.heap.size wv v ((xs.take k).filter fun x => decide (cmpP x (p1, p2) = -1)) ∧ Below wa.heap.size wa wv) := Lib.hid (by rw [hwv]; exact ⟨HO.out.1.alloc _, hbe.alloc hbe.size _⟩)
      obtain ⟨tb, htb⟩ : ∃ tb, decide (cmpP (x1, x2) (p1, p2) = -1) = tb := ⟨_, rfl⟩
      have HC : Hid (∀ W, Calls Tryd.prog 25 #[prV (x1, x2), prV (p1, p2)] W fun e w' => e = .returned (.bool tb) ∧ Below W.heap.size W w') := Lib.hid (fun W => by rw [← htb]; exact less_calls _ _ W)
      have HT := Lib.hid htb
      clear htb c0 c1 hwv hbe
      have y0 := hsb.cell (k := 0) rfl
      have y1 := hsb.cell (k := 1) rfl
      have z0 := hpw.cell (k := 0) rfl
      have z1 := hpw.cell (k := 1) rfl
      go_wp2_with fail
      refine (HC.out _).mono ?_
      rintro e w4 ⟨rfl, b4⟩
      clear y0 y1 z0 z1
      have hs4 := hsb.later b4
      have d0 := hs4.cell (k := 0) rfl
      have d1 := hs4.cell (k := 1) rfl
      have H4 := Lib.hid (And.intro (HV.out.1.below b4) (HV.out.2.then_ b4))
      clear hsb hpw b4 hs4
      cases tb with
      | true =>
        have HL : Hid (((xs.take k).filter fun x => decide (cmpP x (p1, p2) = -1)).length + 1 ≤ 1000000) := Lib.hid (by
          have h1 := List.length_filter_le (fun x : Pr => decide (cmpP x (p1, p2) = -1)) (xs.take k)
          have h0 := List.length_filter_le (fun x : Pr => decide (cmpP x (p1, p2) = -1)) xs
          have h2 := HNB.out
          have h3 := HH.out.2.2.2
          simp only [List.length_take, List.length_append, List.length_cons] at *
          omega)
        go_wp2_with (at_builtin; refine wpList_append_pr rfl _ _ rfl wa.heap.size v _ rfl H4.out.1 (x1, x2) _ rfl rfl HL.out H4.out.2.size ?_; intro v2 w5 h5 g5)
        have H5 := Lib.hid (And.intro h5 (Below.prs_grown H4.out.2 H4.out.1 g5 H4.out.2.size))
        clear h5 g5 d0 d1
        go_wp2_with fail
        refine ⟨⟨k + 1, v2, by omega, rfl, by go_num, ?_, H5.out.2⟩, by simp [intOf]; omega⟩
        have h6 := H5.out.1
        rw [List.take_add_one, HXK.out, Option.toList_some, List.filter_append, List.filter_cons_of_pos (by exact HT.out), List.filter_nil]
        simpa using h6
      | false =>
        clear d0 d1
        go_wp2_with fail
        refine ⟨⟨k + 1, v, by omega, rfl, by go_num, ?_, H4.out.2⟩, by simp [intOf]; omega⟩
        have h6 := H4.out.1
        rw [List.take_add_one, HXK.out, Option.toList_some, List.filter_append, List.filter_cons_of_neg (by exact fun h => of_decide_eq_false HT.out (of_decide_eq_true h)), List.filter_nil, List.append_nil]
        exact h6
    · have hkn : n = k := by omega
      subst hkn
      rw [List.take_of_length_le (by rw [← HH.out.2.2.2]; exact Nat.le_refl _)] at ho
      have hpw := HH.out.2.1.later hbe
      have d0 := hpw.cell (k := 0) rfl
      have d1 := hpw.cell (k := 1) rfl
      have H4 := Lib.hid (And.intro ho hbe)
      clear ho hbe hpw hp hk
      have HL : Hid ((xs.filter fun x => decide (cmpP x (p1, p2) = -1)).length + 1 ≤ 1000000) := Lib.hid (by
        have h0 := List.length_filter_le (fun x : Pr => decide (cmpP x (p1, p2) = -1)) xs
        have h2 := HNB.out
        have h3 := HH.out.2.2.2
        omega)
      go_wp2_with (at_builtin; refine wpList_append_pr rfl _ _ rfl wa.heap.size v _ rfl H4.out.1 (p1, p2) _ rfl rfl HL.out H4.out.2.size ?_; intro v2 w5 h5 g5)
      have h5b := Below.prs_grown H4.out.2 H4.out.1 g5 H4.out.2.size
      clear g5 d0 d1
      have H5 := Lib.hid (And.intro h5 h5b)
      clear h5 h5b
      go_wp2_with fail
      go_loopw [5, 30] (fun o i wr => ∃ (k : Nat) (v : Value), k ≤ n ∧ v = o ∧ i = .int .i64 (k : Int) ∧ OwnP wa.heap.size wr v ((xs.filter fun x => decide (cmpP x (p1, p2) = -1)) ++ ((p1, p2) : Pr) :: (xs.take k).filter fun x => decide (cmpP (p1, p2) x = -1)) ∧ Below wa.heap.size wa wr) (fun o i _ => n - (intOf i).toNat)
      case atStart => exact ⟨0, v2, Nat.zero_le _, rfl, rfl, by simpa using H5.out.1, H5.out.2⟩
      case round =>
        obtain ⟨k, v, hk, rfl, rfl, ho, hbe⟩ := hrel
        by_cases hp : k < n
        · have hkx : k < xs.length := by rw [← HH.out.2.2.2]; exact hp
          obtain ⟨b0, off, rfl, hb0, r0⟩ := pr_row HH.out.1 hbe hkx
          have hgx := List.getElem?_eq_getElem hkx
          obtain ⟨x, hxx⟩ : ∃ x, xs[k] = x := ⟨_, rfl⟩
          rw [hxx] at r0 hgx
          obtain ⟨x1, x2⟩ := x
          dsimp only at r0
          have HXK := Lib.hid hgx
          clear hxx hkx hgx
          have c0 := r0 0 _ rfl
          have c1 := r0 1 _ rfl
          rw [Nat.add_zero] at c0
          clear r0
          have HO := Lib.hid (And.intro ho hbe)
          clear ho
          go_upto_region 12 with fail
          obtain ⟨wv, hwv⟩ : ∃ x, x = wr.alloc (.cells #[.string ⟨x1.toArray⟩, .string ⟨x2.toArray⟩] 35) := ⟨_, rfl⟩
          rw [← hwv]
          have hsb : Blk wv wr.heap.size 35 [.string ⟨x1.toArray⟩, .string ⟨x2.toArray⟩] := by rw [hwv]; exact Blk.new wr _ _
          have hpw : Blk wv w.heap.size 35 [.string ⟨p1.toArray⟩, .string ⟨p2.toArray⟩] := by rw [hwv]; exact (HH.out.2.1.later hbe).alloc _
          have HV : Hid (OwnP wa.heap.size wv v ((xs.filter fun x => decide (cmpP x (p1, p2) = -1)) ++ ((p1, p2) : Pr) :: (xs.take k).filter fun x => decide (cmpP (p1, p2) x = -1)) ∧ Below wa.heap.size wa wv) := Lib.hid (by rw [hwv]; exact ⟨HO.out.1.alloc _, hbe.alloc hbe.size _⟩)
          obtain ⟨tb, htb⟩ : ∃ tb, decide (cmpP (p1, p2) (x1, x2) = -1) = tb := ⟨_, rfl⟩
          have HC : Hid (∀ W, Calls Tryd.prog 25 #[prV (p1, p2), prV (x1, x2)] W fun e w' => e = .returned (.bool tb) ∧ Below W.heap.size W w') := Lib.hid (fun W => by rw [← htb]; exact less_calls _ _ W)
          have HT := Lib.hid htb
          clear htb c0 c1 hwv hbe
          have y0 := hsb.cell (k := 0) rfl
          have y1 := hsb.cell (k := 1) rfl
          have z0 := hpw.cell (k := 0) rfl
          have z1 := hpw.cell (k := 1) rfl
          go_wp2_with fail
          refine (HC.out _).mono ?_
          rintro e w4 ⟨rfl, b4⟩
          clear y0 y1 z0 z1
          have hs4 := hsb.later b4
          have d0 := hs4.cell (k := 0) rfl
          have d1 := hs4.cell (k := 1) rfl
          have H4 := Lib.hid (And.intro (HV.out.1.below b4) (HV.out.2.then_ b4))
          clear hsb hpw b4 hs4
          cases tb with
          | true =>
            have HL : Hid (((xs.filter fun x => decide (cmpP x (p1, p2) = -1)) ++ ((p1, p2) : Pr) :: (xs.take k).filter fun x => decide (cmpP (p1, p2) x = -1)).length + 1 ≤ 1000000) := Lib.hid (by
              rw [List.length_append, List.length_cons]
              refine Nat.le_trans (Nat.add_le_add_right (Nat.add_le_add (List.length_filter_le _ _) (Nat.succ_le_succ (List.length_filter_le _ _))) 1) ?_
              rw [List.length_take]
              have h2 := HNB.out
              have h3 := HH.out.2.2.2
              omega)
            go_wp2_with (at_builtin; refine wpList_append_pr rfl _ _ rfl wa.heap.size v _ rfl H4.out.1 (x1, x2) _ rfl rfl HL.out H4.out.2.size ?_; intro v2 w5 h5 g5)
            have H5 := Lib.hid (And.intro h5 (Below.prs_grown H4.out.2 H4.out.1 g5 H4.out.2.size))
            clear h5 g5 d0 d1
            go_wp2_with fail
            refine ⟨⟨k + 1, v2, by omega, rfl, by go_num, ?_, H5.out.2⟩, by simp [intOf]; omega⟩
            have h6 := H5.out.1
            rw [List.take_add_one, HXK.out, Option.toList_some, List.filter_append, List.filter_cons_of_pos (by exact HT.out), List.filter_nil]
            simpa using h6
          | false =>
            clear d0 d1
            go_wp2_with fail
            refine ⟨⟨k + 1, v, by omega, rfl, by go_num, ?_, H4.out.2⟩, by simp [intOf]; omega⟩
            have h6 := H4.out.1
            rw [List.take_add_one, HXK.out, Option.toList_some, List.filter_append, List.filter_cons_of_neg (by exact fun h => of_decide_eq_false HT.out (of_decide_eq_true h)), List.filter_nil, List.append_nil]
            exact h6
        · have hkn : n = k := by omega
          subst hkn
          rw [List.take_of_length_le (by rw [← HH.out.2.2.2]; exact Nat.le_refl _)] at ho
          have HF := Lib.hid (And.intro ho hbe)
          clear ho hbe
          go_wp2_with fail
          go_ret
          exact ⟨v, rfl, ⟨HF.out.1.1, by
            rcases HF.out.1.2 with h | ⟨g, cap, cur, e, hb, r⟩
            · exact .inl h
            · exact .inr ⟨g, cap, cur, e, Nat.le_trans HH.out.2.2.1.size hb, r⟩⟩, HH.out.2.2.1.then_ HF.out.2⟩
end Go.Proofs.YtpleminoiodmgaaDoor
namespace Go.Proofs.YtpleminoiodmgaaDoor
set_option linter.unusedVariables false

/-- A row of members (k: the key) or of a list's values (k is then empty): kind, truth, number, text, list, map; then the rest of the row. -/
inductive JT where
  | nil
  | cons (k : List UInt8) (kd : Int) (is : Bool) (n : Int) (s : List UInt8) (l m : JT) (r : JT)
/-- A value. -/
structure Jv where
  kd : Int
  is : Bool
  n : Int
  s : List UInt8
  l : JT
  m : JT
namespace JT
def ext : JT → Nat
  | nil => 0
  | cons _ _ _ _ _ _ _ r => r.ext + 1
def bulk : JT → Nat
  | nil => 0
  | cons _ _ _ _ _ l m r => 1 + l.bulk + m.bulk + r.bulk
def fall : JT → Nat → JT
  | t, 0 => t
  | nil, _ + 1 => nil
  | cons _ _ _ _ _ _ _ r, i + 1 => r.fall i
def key : JT → List UInt8
  | nil => []
  | cons k _ _ _ _ _ _ _ => k
def val : JT → Jv
  | nil => ⟨0, false, 0, [], nil, nil⟩
  | cons _ kd is n s l m _ => ⟨kd, is, n, s, l, m⟩
def isNil : JT → Bool
  | nil => true
  | _ => false
def one (k : List UInt8) (v : Jv) (r : JT) : JT := cons k v.kd v.is v.n v.s v.l v.m r
theorem fall_zero (t : JT) : t.fall 0 = t := by cases t <;> rfl
theorem fall_nil (i : Nat) : nil.fall i = nil := by cases i <;> rfl
theorem fall_succ : ∀ (t : JT) (i : Nat), t.fall (i + 1) = (t.fall i).fall 1
  | nil, i => by rw [fall_nil, fall_nil, fall_nil]
  | cons k kd is n s l m r, 0 => rfl
  | cons k kd is n s l m r, i + 1 => fall_succ r i
theorem fall_ext : ∀ (t : JT) (i : Nat), (t.fall i).ext = t.ext - i
  | nil, i => by rw [fall_nil]; simp [ext]
  | cons k kd is n s l m r, 0 => by simp [fall]
  | cons k kd is n s l m r, i + 1 => by
    have := fall_ext r i
    simp only [fall, ext, this]; omega
theorem fall_of_lt : ∀ (t : JT) (i : Nat), i < t.ext → t.fall i = one (t.fall i).key (t.fall i).val (t.fall (i + 1))
  | nil, i, h => absurd h (by simp [ext])
  | cons k kd is n s l m r, 0, _ => by simp [fall, one, key, val]
  | cons k kd is n s l m r, i + 1, h => fall_of_lt r i (by simp [ext] at h; omega)
theorem fall_all (t : JT) (i : Nat) (h : t.ext ≤ i) : t.fall i = nil := by
  have := fall_ext t i
  cases hc : t.fall i with
  | nil => rfl
  | cons => rw [hc] at this; simp [ext] at this; omega
theorem isNil_iff (t : JT) : t.isNil = true ↔ t.ext = 0 := by cases t <;> simp [isNil, ext]
theorem isNil_eq (t : JT) : t.isNil = decide (t.ext = 0) := by cases t <;> simp [isNil, ext]
theorem bulk_fall : ∀ (t : JT) (i : Nat), (t.fall i).bulk ≤ t.bulk
  | nil, i => by rw [fall_nil]; exact Nat.le_refl _
  | cons k kd is n s l m r, 0 => Nat.le_refl _
  | cons k kd is n s l m r, i + 1 => by have := bulk_fall r i; simp only [fall, bulk]; omega
end JT
/-- What stands in a value, itself counted. -/
def Jv.bulk (v : Jv) : Nat := 1 + v.l.bulk + v.m.bulk
theorem JT.bulk_one (k : List UInt8) (v : Jv) (r : JT) : (JT.one k v r).bulk = v.bulk + r.bulk := by
  simp only [one, bulk, Jv.bulk]
theorem JT.bulk_val (t : JT) (i : Nat) (h : i < t.ext) : (t.fall i).val.bulk ≤ t.bulk := by
  have h1 := t.bulk_fall i
  have h2 := congrArg JT.bulk (t.fall_of_lt i h)
  rw [JT.bulk_one] at h2
  omega

end Go.Proofs.YtpleminoiodmgaaDoor
