/- Layer 16: slices.Insert of one slot, in the middle, walked. -/
import Derived.Test.YtpleminoiodmgaaPkN
namespace Go.Proofs.Ytpleminoiodmgaa
open Go.ChangeShapes Go.WideShapes Go.ChangeAt Go.RowKit Go.IntWalk Go.Lib
set_option linter.unusedVariables false

theorem blk_setRow {W : World} {g : Nat} {T : TypeId} {cs : List Value} (h : Blk W g T cs) (ds : List Value) : Blk (W.setRow g ds.toArray) g T ds := setRow_heap W g _ _ T _ h
set_option maxHeartbeats 4000000 in
set_option maxRecDepth 100000 in
theorem insert_room (base g cap : Nat) (xs : List Slt) (n i : Nat) (y : Slt) (R : List Value) (w : World) (hB : Blk w g 24 (slC xs ++ R)) (hn : xs.length = n) (hi : i < n) (hc : n + 1 ≤ cap) (hR : (slC xs ++ R).length = cap * 3) (hcm : cap ≤ 9223372036854775807) (hbg : base ≤ g) (hb : base ≤ w.heap.size) (hl : n ≤ 8192) :
    Calls Try.prog 19 #[.slice (some ⟨g, 0, none⟩) n cap, .int .i64 (i : Int), .slice (some ⟨w.heap.size, 0, none⟩) 1 1] (w.alloc (.cells y.cells.toArray 24)) fun e w' => ∃ v', e = .returned v' ∧ OwnS base w' v' (xs.take i ++ y :: xs.drop i) ∧ Below base w w' := by
  have hgs : g < w.heap.size := hB.lt
  obtain ⟨W, hW⟩ : ∃ W, W = w.alloc (.cells y.cells.toArray 24) := ⟨_, rfl⟩
  have hBW : Blk W g 24 (slC xs ++ R) := by rw [hW]; exact hB.alloc _
  have hYW : Blk W w.heap.size 24 y.cells := by rw [hW]; exact Blk.new w _ _
  have hbW : Below base w W := by rw [hW]; exact (Below.refl _ _).alloc hb _
  rw [← hW]
  have hxs : slC xs = slC (xs.take i) ++ slC (xs.drop i) := by rw [← slC_app, List.take_append_drop]
  have hRl : R.length = (cap - n) * 3 := by
    rw [List.length_append, slC_len, hn] at hR
    omega
  have hla : (slC (xs.take i)).length = i * 3 := by rw [slC_len, List.length_take]; omega
  have hlb : (slC (xs.drop i)).length = (n - i) * 3 := by rw [slC_len, List.length_drop]; omega
  obtain ⟨L1, hL1⟩ : ∃ L1, L1 = (slC xs ++ R).take ((i + 1) * 3) ++ slC (xs.drop i) ++ (slC xs ++ R).drop ((i + 1) * 3 + (xs.drop i).length * 3) := ⟨_, rfl⟩
  obtain ⟨L2, hL2⟩ : ∃ L2, L2 = L1.take (i * 3) ++ slC [y] ++ L1.drop (i * 3 + [y].length * 3) := ⟨_, rfl⟩
  have hL1l : L1.length = cap * 3 := by
    rw [hL1]
    simp only [List.length_append, List.length_take, List.length_drop, slC_len]
    rw [List.length_append, slC_len] at hR
    omega
  have hfin : L2 = slC (xs.take i ++ y :: xs.drop i) ++ R.drop 3 := by
    have h := ins_room (A := slC (xs.take i)) (B := slC (xs.drop i)) (R := R) (Y := slC [y]) (q := 3) (p := i * 3) hla rfl (by omega)
    have hh : L2 = slC (xs.take i) ++ (slC [y] ++ (slC (xs.drop i) ++ R.drop 3)) := by
      rw [← h, hL2, hL1, hxs]
      simp only [List.append_assoc, List.length_singleton, Nat.one_mul, slC_len, List.length_drop, Nat.add_mul]
    rw [hh, show xs.take i ++ y :: xs.drop i = xs.take i ++ ([y] ++ xs.drop i) from rfl, slC_app, slC_app, List.append_assoc, List.append_assoc]
  have hov : ∀ lb cb, (callFunc 25 #[.slice (some ⟨w.heap.size, 0, none⟩) 1 1, .slice (some ⟨g, (i + 1) * 3, none⟩) lb cb]).run Try.prog W = .ok (.value (.bool false)) W := fun lb cb => by
    rw [run_callFunc_extern Try.func25 (by kernel_rfl) (by kernel_rfl) (by kernel_rfl) (e := Extern.SlicesOverlaps.overlaps #[22, 22] #[4]) (by kernel_rfl),
      Lib.run_overlaps_apart W 22 4 24 Try.underlying22 3 (fun w => Try.sizeOf24 w) ⟨w.heap.size, 0, none⟩ ⟨g, (i + 1) * 3, none⟩ 1 1 lb cb (by show w.heap.size ≠ g; omega) 24 24 3 (cap * 3) (by unfold World.shape?; rw [show W.heap[(⟨w.heap.size, 0, none⟩ : Addr).block]? = _ from hYW]; rfl) (by unfold World.shape?; rw [show W.heap[(⟨g, (i + 1) * 3, none⟩ : Addr).block]? = _ from hBW]; simp only [List.size_toArray]; rw [hR]) (by omega) (hYW.frozen _) (hYW.frozen _)]
    rfl
  have hcp1 : ∀ ty dc sc, (Builtin.copy_ #[22, 22] ty #[.slice (some ⟨g, (i + 1) * 3, none⟩) (n - i) dc, .slice (some ⟨g, i * 3, none⟩) (n + 1 - i) sc]).run Try.prog W.drew = .ok (goInt (xs.drop i).length) (W.drew.setRow g L1.toArray) := fun ty dc sc => by
    rw [hL1]
    exact run_copy_slots W.drew ty g ((i + 1) * 3) (n - i) dc ⟨g, i * 3, none⟩ (n + 1 - i) sc (xs.drop i) (slC xs ++ R) 24 hBW (by rw [List.length_drop, hn]; simp only [Nat.min_def]; split <;> omega)
      (fun j v hj => by
        have hplain : (⟨g, i * 3, none⟩ : Addr).add j = ⟨g, i * 3 + j, none⟩ := by unfold Addr.add; split <;> simp_all
        rw [hplain]
        refine Blk.cell (w := W) hBW ?_
        rw [hxs, List.append_assoc, List.getElem?_append_right (by omega), hla, show i * 3 + j - i * 3 = j by omega]
        have := (List.getElem?_eq_some_iff.1 hj).1
        rw [List.getElem?_append_left this]
        exact hj)
      (by rw [hR, List.length_drop]; omega)
  have hB1 : Blk (W.drew.setRow g L1.toArray) g 24 L1 := blk_setRow hBW.drew L1
  have hY1 : Blk (W.drew.setRow g L1.toArray) w.heap.size 24 y.cells := (setRow_other W.drew g w.heap.size _ (by omega)).trans hYW
  have hcp2 : ∀ ty dc, (Builtin.copy_ #[22, 22] ty #[.slice (some ⟨g, i * 3, none⟩) (n + 1 - i) dc, .slice (some ⟨w.heap.size, 0, none⟩) 1 1]).run Try.prog (W.drew.setRow g L1.toArray) = .ok (goInt [y].length) ((W.drew.setRow g L1.toArray).setRow g L2.toArray) := fun ty dc => by
    rw [hL2]
    exact run_copy_slots _ ty g (i * 3) (n + 1 - i) dc ⟨w.heap.size, 0, none⟩ 1 1 [y] L1 24 hB1 (by simp only [Nat.min_def, List.length_singleton]; split <;> omega)
      (fun j v hj => by
        have hplain : (⟨w.heap.size, 0, none⟩ : Addr).add j = ⟨w.heap.size, j, none⟩ := by unfold Addr.add; split <;> simp_all
        rw [hplain]
        exact hY1.cell hj)
      (by rw [hL1l]; simp; omega)
  obtain ⟨W1, hW1⟩ : ∃ W1, W1 = W.drew.setRow g L1.toArray := ⟨_, rfl⟩
  rw [← hW1] at hcp1 hcp2 hB1
  have hB2 : Blk (W1.setRow g L2.toArray) g 24 L2 := blk_setRow hB1 L2
  have HF : Hid (OwnS base (W1.setRow g L2.toArray) (.slice (some ⟨g, 0, none⟩) (n + 1) cap) (xs.take i ++ y :: xs.drop i) ∧ Below base w (W1.setRow g L2.toArray)) := Lib.hid (by
    refine ⟨⟨slC_len _, .inr ⟨g, cap, L2.toArray, ?_, hbg, hB2, ?_, hcm, ?_, ?_⟩⟩, below_setRow (by rw [hW1]; exact below_setRow hbW.drew hbg _) hbg _⟩
    · rw [show (xs.take i ++ y :: xs.drop i).length = n + 1 by simp; omega]
    · simp; omega
    · rw [hL2]; simp only [List.size_toArray, List.length_append, List.length_take, List.length_drop, slC_len, List.length_singleton, hL1l]; omega
    · rw [hfin]; simp only []; rw [← slC_len, List.take_left])
  have mixed : Try.prog.follows .mixedOrders = true := by kernel_rfl
  have hin2 : i ≤ n := by omega
  have hin : ¬ (i : Int) = (n : Int) := by omega
  have hci : ¬ cap = i := by omega
  have hci1 : ¬ cap = i + 1 := by omega
  have hcn : ¬ (cap : Int) < (n : Int) + 1 := by omega
  have hw1 : IntKind.i64.wrap ((i : Int) + 1) = (i : Int) + 1 := by rw [IntKind.wrap_i64]; omega
  have hb1 : (0 : Int) ≤ (i : Int) + 1 := by omega
  have htn : ((i : Int) + 1).toNat = i + 1 := by omega
  have hb3 : (i : Int) ≤ (n : Int) + 1 := by omega
  clear hL1 hL2 hfin hB2 hB1 hY1 hbW hBW hYW hxs hla hlb hRl hL1l hR hW1 hW hB
  go_enter Try.func19, Try.ntmps19
  go_wp2_with (simp only [hov])
  go_region_law_o (refine step_copy_runI rfl _ _ 22 22 rfl _ _ (by simp [Act.eval, Act.put]) (by simp [Act.eval, Act.put]) (hcp1 _ _ _) ?_)
  trace_state
  go_wp2_with (at_builtin; refine wpList_copy_runI _ rfl _ _ 22 22 rfl _ _ rfl rfl (hcp2 _ _) ?_)
  go_ret
  exact ⟨_, rfl, HF.out⟩
end Go.Proofs.Ytpleminoiodmgaa
