/- Layer 16: slices.Insert of one slot, in a new row; all three; Put: walked. -/
import Derived.Test.YtpleminoiodmgaaPkO
namespace Go.Proofs.Ytpleminoiodmgaa
open Go.ChangeShapes Go.WideShapes Go.ChangeAt Go.RowKit Go.IntWalk Go.Lib
set_option linter.unusedVariables false

theorem zeroCells_len (z : Array Value) (hz : z.size = 3) (k : Nat) : (Builtin.zeroCells z k).toList.length = k * 3 := by
  simp [Builtin.zeroCells, hz]
set_option maxHeartbeats 4000000 in
set_option maxRecDepth 100000 in
theorem insert_grow (base g cap : Nat) (xs : List Slt) (n i : Nat) (y : Slt) (R : List Value) (w : World) (hB : Blk w g 24 (slC xs ++ R)) (hn : xs.length = n) (hi : i < n) (hnc : n ≤ cap) (hc : cap < n + 1) (hcm : cap ≤ 9223372036854775807) (hbg : base ≤ g) (hb : base ≤ w.heap.size) (hl : n ≤ 8192) :
    Calls Try.prog 19 #[.slice (some ⟨g, 0, none⟩) n cap, .int .i64 (i : Int), .slice (some ⟨w.heap.size, 0, none⟩) 1 1] (w.alloc (.cells y.cells.toArray 24)) fun e w' => ∃ v', e = .returned v' ∧ OwnS base w' v' (xs.take i ++ y :: xs.drop i) ∧ Below base w w' := by
  have hgs : g < w.heap.size := hB.lt
  obtain ⟨W, hW⟩ : ∃ W, W = w.alloc (.cells y.cells.toArray 24) := ⟨_, rfl⟩
  have hBW : Blk W g 24 (slC xs ++ R) := by rw [hW]; exact hB.alloc _
  have hYW : Blk W w.heap.size 24 y.cells := by rw [hW]; exact Blk.new w _ _
  have hbW : Below base w W := by rw [hW]; exact (Below.refl _ _).alloc hb _
  have hWs : W.heap.size = w.heap.size + 1 := by rw [hW]; simp
  rw [← hW]
  have hxs : slC xs = slC (xs.take i) ++ slC (xs.drop i) := by rw [← slC_app, List.take_append_drop]
  have hla : (slC (xs.take i)).length = i * 3 := by rw [slC_len, List.length_take]; omega
  have hlb : (slC (xs.drop i)).length = (n - i) * 3 := by rw [slC_len, List.length_drop]; omega
  obtain ⟨i0, hi0, hz0, hz1, hz2⟩ := info_parts info_slot
  obtain ⟨N, hN⟩ : ∃ N, W.heap.size = N := ⟨_, rfl⟩
  obtain ⟨G, hG⟩ : ∃ G, grownCap W (n + 1) cap 24 = G := ⟨_, rfl⟩
  have hGn : n + 1 ≤ G := by rw [← hG]; exact grownCap_ge W _ _ _
  have hG63 : G ≤ 9223372036854775807 := by
    have := grownCap_le_maxLen W (n + 1) cap 24 (by unfold maxLen; omega)
    rw [hG] at this
    unfold maxLen at this
    omega
  have hik : i + (n + 1 - i) = n + 1 := by omega
  obtain ⟨z, hz⟩ : ∃ z : Array Value, (Value.agg #[.string ⟨#[]⟩, .string ⟨#[]⟩, .string ⟨#[]⟩]).cells = z := ⟨_, rfl⟩
  have hz3 : z.size = 3 := by rw [← hz]; rfl
  obtain ⟨Z, hZ⟩ : ∃ Z, Z = (Builtin.zeroCells z (n + 1 - i)).toList ++ (Builtin.zeroCells z (G - (n + 1))).toList := ⟨_, rfl⟩
  have hZl : Z.length = (G - i) * 3 := by rw [hZ, List.length_append, zeroCells_len z hz3, zeroCells_len z hz3]; omega
  obtain ⟨W1, hW1⟩ : ∃ W1, W1 = W.drew.alloc (.cells (slC (xs.take i) ++ Z).toArray 24) := ⟨_, rfl⟩
  have hold : (Builtin.firstCells i0.size i (.slice (some ⟨g, 0, none⟩) i cap)).run Try.prog W.drew = .ok (slC (xs.take i)).toArray W.drew := by
    rw [hz1]
    exact run_firstCells_some W.drew 3 i ⟨g, 0, none⟩ i cap (slC (xs.take i)) hla (fun j v hj => by
      have hplain : (⟨g, 0, none⟩ : Addr).add j = ⟨g, j, none⟩ := by unfold Addr.add; split <;> simp_all
      rw [hplain]
      refine Blk.cell (w := W) hBW ?_
      rw [hxs, List.append_assoc, List.getElem?_append_left ((List.getElem?_eq_some_iff.1 hj).1)]
      exact hj)
  have hrz : ∀ ty, (Builtin.append_ #[22, 3] ty #[.slice (some ⟨g, 0, none⟩) i cap, .int .i64 ((n : Int) + 1 - (i : Int))]).run Try.prog W = .ok (.slice (some ⟨N, 0, none⟩) (n + 1) G) W1 := fun ty => by
    have h := Lib.run_append_grow_zeros W 22 3 ty 24 i0 _ .i64 .i64 Try.underlying22 Try.underlying3 hi0 hz0 (some ⟨g, 0, none⟩) i cap (slC (xs.take i)) hold (n + 1 - i) (by omega) (by omega) (by omega) (by omega) (by rw [hz2]; omega) (by rw [hz2, hik]; exact growslice_fits hc (by omega))
    rw [hik, hN, hG, hz] at h
    rw [show (n : Int) + 1 - (i : Int) = ((n + 1 - i : Nat) : Int) by omega, hW1, hZ]
    rw [h]
    congr 3
    apply Array.ext'
    simp
  have hB1 : Blk W1 N 24 (slC (xs.take i) ++ Z) := by rw [hW1, ← hN]; exact Blk.new W.drew _ _
  have hg1 : Blk W1 g 24 (slC xs ++ R) := by rw [hW1]; exact hBW.drew.alloc _
  have hY1 : Blk W1 w.heap.size 24 y.cells := by rw [hW1]; exact hYW.drew.alloc _
  have hbN : base ≤ N := by omega
  have hb1 : Below base w W1 := by rw [hW1]; exact (show Below base w W.drew from ⟨hbW.os, hbW.tape, hbW.output, hbW.size, hbW.block⟩).alloc (by show base ≤ W.heap.size; omega) _
  obtain ⟨L1, hL1⟩ : ∃ L1, L1 = (slC (xs.take i) ++ Z).take (i * 3) ++ slC [y] ++ (slC (xs.take i) ++ Z).drop (i * 3 + [y].length * 3) := ⟨_, rfl⟩
  obtain ⟨L2, hL2⟩ : ∃ L2, L2 = L1.take ((i + 1) * 3) ++ slC (xs.drop i) ++ L1.drop ((i + 1) * 3 + (xs.drop i).length * 3) := ⟨_, rfl⟩
  have hL1l : L1.length = G * 3 := by
    rw [hL1]
    simp only [List.length_append, List.length_take, List.length_drop, slC_len, hZl, hla, List.length_singleton]
    omega
  have hfin : L2 = slC (xs.take i ++ y :: xs.drop i) ++ Z.drop (3 + (n - i) * 3) := by
    have h := ins_grow (A := slC (xs.take i)) (B := slC (xs.drop i)) (Z := Z) (Y := slC [y]) (q := 3) (p := i * 3) hla rfl (by omega)
    have hh : L2 = slC (xs.take i) ++ (slC [y] ++ (slC (xs.drop i) ++ Z.drop (3 + (slC (xs.drop i)).length))) := by
      rw [← h, hL2, hL1]
      simp only [List.append_assoc, List.length_singleton, Nat.one_mul, slC_len, List.length_drop, Nat.add_mul]
    rw [hh, hlb, show xs.take i ++ y :: xs.drop i = xs.take i ++ ([y] ++ xs.drop i) from rfl, slC_app, slC_app, List.append_assoc, List.append_assoc]
  have hcp1 : ∀ ty dc, (Builtin.copy_ #[22, 22] ty #[.slice (some ⟨N, i * 3, none⟩) (n + 1 - i) dc, .slice (some ⟨w.heap.size, 0, none⟩) 1 1]).run Try.prog W1 = .ok (goInt [y].length) (W1.setRow N L1.toArray) := fun ty dc => by
    rw [hL1]
    exact run_copy_slots _ ty N (i * 3) (n + 1 - i) dc ⟨w.heap.size, 0, none⟩ 1 1 [y] _ 24 hB1 (by simp only [Nat.min_def, List.length_singleton]; split <;> omega)
      (fun j v hj => by
        have hplain : (⟨w.heap.size, 0, none⟩ : Addr).add j = ⟨w.heap.size, j, none⟩ := by unfold Addr.add; split <;> simp_all
        rw [hplain]
        exact hY1.cell hj)
      (by rw [List.length_append, hla, hZl]; simp; omega)
  obtain ⟨W2, hW2⟩ : ∃ W2, W2 = W1.setRow N L1.toArray := ⟨_, rfl⟩
  have hB2 : Blk W2 N 24 L1 := by rw [hW2]; exact blk_setRow hB1 L1
  have hg2 : Blk W2 g 24 (slC xs ++ R) := by rw [hW2]; exact (setRow_other W1 N g _ (by omega)).trans hg1
  have hb2 : Below base w W2 := by rw [hW2]; exact below_setRow hb1 hbN _
  rw [← hW2] at hcp1
  have hcp2 : ∀ ty dc sc, (Builtin.copy_ #[22, 22] ty #[.slice (some ⟨N, (i + 1) * 3, none⟩) (n - i) dc, .slice (some ⟨g, i * 3, none⟩) (n - i) sc]).run Try.prog W2.drew = .ok (goInt (xs.drop i).length) (W2.drew.setRow N L2.toArray) := fun ty dc sc => by
    rw [hL2]
    exact run_copy_slots W2.drew ty N ((i + 1) * 3) (n - i) dc ⟨g, i * 3, none⟩ (n - i) sc (xs.drop i) L1 24 hB2 (by rw [List.length_drop, hn]; simp)
      (fun j v hj => by
        have hplain : (⟨g, i * 3, none⟩ : Addr).add j = ⟨g, i * 3 + j, none⟩ := by unfold Addr.add; split <;> simp_all
        rw [hplain]
        refine Blk.cell (w := W2) hg2 ?_
        rw [hxs, List.append_assoc, List.getElem?_append_right (by omega), hla, show i * 3 + j - i * 3 = j by omega]
        have := (List.getElem?_eq_some_iff.1 hj).1
        rw [List.getElem?_append_left this]
        exact hj)
      (by rw [hL1l, List.length_drop]; omega)
  obtain ⟨W3, hW3⟩ : ∃ W3, W3 = W2.drew.setRow N L2.toArray := ⟨_, rfl⟩
  rw [← hW3] at hcp2
  have hB3 : Blk W3 N 24 L2 := by rw [hW3]; exact blk_setRow hB2.drew L2
  have HF : Hid (OwnS base W3 (.slice (some ⟨N, 0, none⟩) (n + 1) G) (xs.take i ++ y :: xs.drop i) ∧ Below base w W3) := Lib.hid (by
    refine ⟨⟨slC_len _, .inr ⟨N, G, L2.toArray, ?_, hbN, hB3, ?_, hG63, ?_, ?_⟩⟩, by rw [hW3]; exact below_setRow (show Below base w W2.drew from ⟨hb2.os, hb2.tape, hb2.output, hb2.size, hb2.block⟩) hbN _⟩
    · rw [show (xs.take i ++ y :: xs.drop i).length = n + 1 by simp; omega]
    · simp; omega
    · rw [hL2]; simp only [List.size_toArray, List.length_append, List.length_take, List.length_drop, slC_len, hL1l]; omega
    · rw [hfin]; simp only []; rw [← slC_len, List.take_left])
  have mixed : Try.prog.follows .mixedOrders = true := by kernel_rfl
  have hin2 : i ≤ n := by omega
  have hin : ¬ (i : Int) = (n : Int) := by omega
  have hci : ¬ cap = i := by omega
  have hGi : ¬ G = i := by omega
  have hGi1 : ¬ G = i + 1 := by omega
  have hcn : (cap : Int) < (n : Int) + 1 := by omega
  have hw1 : IntKind.i64.wrap ((i : Int) + 1) = (i : Int) + 1 := by rw [IntKind.wrap_i64]; omega
  have hbq1 : (0 : Int) ≤ (i : Int) + 1 := by omega
  have htn : ((i : Int) + 1).toNat = i + 1 := by omega
  have hb3 : (i : Int) ≤ (n : Int) + 1 := by omega
  have hb4 : (i : Int) ≤ (cap : Int) := by omega
  clear hL1 hL2 hfin hB2 hB1 hB3 hY1 hbW hBW hYW hxs hla hlb hL1l hW1 hW2 hW3 hW hB hold hZ hZl hz3 hz hg1 hg2 hb1 hb2 hik hi0 hz0 hz1 hz2 hN hG
  go_enter Try.func19, Try.ntmps19
  go_wp2_with (first
    | (at_builtin; refine Lib.wpList_append_run _ rfl _ _ _ _ rfl _ _ rfl rfl _ _ (hrz _) ?_)
    | (at_builtin; refine wpList_copy_runI _ rfl _ _ 22 22 rfl _ _ rfl rfl (hcp1 _ _) ?_))
  trace_state
  go_region_law_o (refine step_copy_runI rfl _ _ 22 22 rfl _ _ (by simp [Act.eval, Act.put]) (by simp [Act.eval, Act.put]) (hcp2 _ _ _) ?_)
  go_wp2_with fail
  go_ret
  exact ⟨_, rfl, HF.out⟩
end Go.Proofs.Ytpleminoiodmgaa
