/- Layer 4: the document's sums and differences. -/
import Derived.Test.YtpdoegfmngibgaaRfC
namespace Go.Proofs.Ytpdoegfmngibgaa
open Go.ChangeShapes Go.WideShapes Go.ChangeAt Go.RowKit Go.IntWalk
set_option linter.unusedVariables false

theorem blk3 (xs ys : List Int) (w : World) : NBlk (((w.alloc (.cells (i64s xs).toArray 33)).alloc (.cells (i64s ys).toArray 33)).alloc (.cells (i64s Z16).toArray 33)) w.heap.size xs ∧
    NBlk (((w.alloc (.cells (i64s xs).toArray 33)).alloc (.cells (i64s ys).toArray 33)).alloc (.cells (i64s Z16).toArray 33)) (w.heap.size + 1) ys ∧
    NBlk (((w.alloc (.cells (i64s xs).toArray 33)).alloc (.cells (i64s ys).toArray 33)).alloc (.cells (i64s Z16).toArray 33)) (w.heap.size + 1 + 1) Z16 ∧
    Below w.heap.size w (((w.alloc (.cells (i64s xs).toArray 33)).alloc (.cells (i64s ys).toArray 33)).alloc (.cells (i64s Z16).toArray 33)) := by
  have e1 : (w.alloc (.cells (i64s xs).toArray 33)).heap.size = w.heap.size + 1 := by simp
  have e2 : ((w.alloc (.cells (i64s xs).toArray 33)).alloc (.cells (i64s ys).toArray 33)).heap.size = w.heap.size + 1 + 1 := by simp
  have h1 := NBlk.new (w := w.alloc (.cells (i64s xs).toArray 33)) ys
  have h2 := NBlk.new (w := (w.alloc (.cells (i64s xs).toArray 33)).alloc (.cells (i64s ys).toArray 33)) Z16
  rw [e1] at h1
  rw [e2] at h2
  exact ⟨((NBlk.new _).alloc _).alloc _, h1.alloc _, h2, (((Below.refl _ _).alloc (Nat.le_refl _) _).alloc (by rw [e1]; omega) _).alloc (by rw [e2]; omega) _⟩
def zipAdd (xs ys : List Int) (k : Nat) : List Int := (List.range 16).map fun i => if i < k then xs.getD i 0 + ys.getD i 0 else xs.getD i 0
theorem zipAdd_len (xs ys : List Int) (k : Nat) : (zipAdd xs ys k).length = 16 := by simp [zipAdd]
theorem zipAdd_zero (xs ys : List Int) (h : xs.length = 16) : zipAdd xs ys 0 = xs := by
  apply List.ext_getElem?
  intro i
  by_cases hi : i < 16
  · simp [zipAdd, hi, List.getD_eq_getElem?_getD, h]
  · simp [zipAdd, hi, h]
theorem zipAdd_get (xs ys : List Int) (k : Nat) (h : k < xs.length) (hl : k < 16) : (zipAdd xs ys k)[k]? = some xs[k] := by
  simp [zipAdd, hl, List.getD_eq_getElem?_getD, h]
theorem zipAdd_set (xs ys : List Int) (k : Nat) (h : k < xs.length) (h2 : k < ys.length) (hl : xs.length = 16) : (zipAdd xs ys k).set k (xs[k] + ys[k]) = zipAdd xs ys (k + 1) := by
  apply List.ext_getElem?
  intro i
  rw [List.getElem?_set]
  by_cases e : k = i
  · subst e
    have hk : k < 16 := by omega
    simp [zipAdd, hk, List.getD_eq_getElem?_getD, h, h2]
  · rw [if_neg e]
    by_cases hi : i < 16
    · by_cases h1 : i < k
      · simp [zipAdd, hi, h1, Nat.lt_succ_of_lt h1]
      · simp [zipAdd, hi, h1, show ¬ i < k + 1 by omega]
    · simp [zipAdd, hi]
theorem zipAdd_bnd (xs ys : List Int) (hx : NumOk xs) (hy : NumOk ys) : ∀ x ∈ zipAdd xs ys 16, -2097152 ≤ x ∧ x ≤ 2097152 := by
  intro x h
  simp only [zipAdd, List.mem_map] at h
  obtain ⟨i, hi, rfl⟩ := h
  have hi := List.mem_range.1 hi
  rw [if_pos hi]
  have h1 := hx.2 (xs.getD i 0) (by rw [List.getD_eq_getElem?_getD, List.getElem?_eq_getElem (by rw [hx.1]; exact hi)]; exact List.getElem_mem _)
  have h2 := hy.2 (ys.getD i 0) (by rw [List.getD_eq_getElem?_getD, List.getElem?_eq_getElem (by rw [hy.1]; exact hi)]; exact List.getElem_mem _)
  omega
theorem zipAdd_val (xs ys : List Int) (hx : xs.length = 16) (hy : ys.length = 16) : valD (zipAdd xs ys 16) = valD xs + valD ys := by
  match xs, ys, hx, hy with
  | [a0, a1, a2, a3, a4, a5, a6, a7, a8, a9, a10, a11, a12, a13, a14, a15], [b0, b1, b2, b3, b4, b5, b6, b7, b8, b9, b10, b11, b12, b13, b14, b15], _, _ =>
    show valD [a0 + b0, a1 + b1, a2 + b2, a3 + b3, a4 + b4, a5 + b5, a6 + b6, a7 + b7, a8 + b8, a9 + b9, a10 + b10, a11 + b11, a12 + b12, a13 + b13, a14 + b14, a15 + b15] = _
    simp only [valD]
    omega
set_option maxRecDepth 100000 in
set_option maxHeartbeats 4000000 in
theorem refAdd_calls (xs ys : List Int) (hx : NumOk xs) (hy : NumOk ys) (w : World) :
    Calls Try.prog 21 #[A16 xs, A16 ys] w fun e w' => e = .returned (A16 (carryF (zipAdd xs ys 16))) ∧ Below w.heap.size w w' := by
  unfold A16
  go_enter Try.func21, Try.ntmps21
  have H0 := Lib.hid (blk3 xs ys w)
  have HX := Lib.hid hx
  have HY := Lib.hid hy
  obtain ⟨cx, hcx⟩ : ∃ cs, i64s xs = cs := ⟨_, rfl⟩
  obtain ⟨cy, hcy⟩ : ∃ cs, i64s ys = cs := ⟨_, rfl⟩
  rw [hcx, hcy] at H0
  rw [hcx, hcy]
  clear hx hy hcx hcy
  go_wp2_with fail
  go_loopw [5] (fun i wr => ∃ k : Nat, k ≤ 16 ∧ i = .int .i64 (k : Int) ∧ NBlk wr w.heap.size (zipAdd xs ys k) ∧ NBlk wr (w.heap.size + 1) ys ∧ NBlk wr (w.heap.size + 1 + 1) Z16 ∧ Below w.heap.size w wr) (fun i _ => 16 - (intOf i).toNat)
  case atStart => exact ⟨0, by omega, rfl, by rw [zipAdd_zero xs ys HX.out.1]; exact H0.out.1, H0.out.2.1, H0.out.2.2.1, H0.out.2.2.2⟩
  case round =>
    obtain ⟨k, hk, rfl, hn, hy, hz, hbw⟩ := hrel
    by_cases hp : k < 16
    · have hkx : k < xs.length := by rw [HX.out.1]; exact hp
      have hky : k < ys.length := by rw [HY.out.1]; exact hp
      have bx := HX.out.2 _ (List.getElem_mem hkx)
      have by' := HY.out.2 _ (List.getElem_mem hky)
      have g1 := hn.cell (zipAdd_get xs ys k hkx hp)
      have g2 := hn.frozen k
      have g3 := hy.cell (List.getElem?_eq_getElem hky)
      have hn2 := hn.set_ k (xs[k] + ys[k])
      rw [zipAdd_set xs ys k hkx hky HX.out.1] at hn2
      generalize xs[k] = x at *
      generalize ys[k] = y at *
      have hn3 := hy.other (k := k) (x := .int .i64 (x + y)) (show w.heap.size ≠ w.heap.size + 1 by omega)
      have hn4 := hz.other (k := k) (x := .int .i64 (x + y)) (show w.heap.size ≠ w.heap.size + 1 + 1 by omega)
      have hb2 := hbw.setCell (p := ⟨w.heap.size, k, none⟩) (Nat.le_refl _) (.int .i64 (x + y))
      have HN := Lib.hid (And.intro hn2 (And.intro hn3 (And.intro hn4 hb2)))
      have e1 : IntKind.i64.wrap ((k : Int) + 1) = (k : Int) + 1 := IntWalk.i64_in _ (by omega)
      have e2 : IntKind.i64.wrap (x + y) = x + y := IntWalk.i64_in _ (by omega)
      have hbk : decide ((k : Int) < 16) = true := by simp; omega
      clear hn hy hz hbw hn2 hn3 hn4 hb2 hkx hky
      go_wp2_with fail
      try rw [hbk]
      go_region
      all_goals go_wp2_with fail
      all_goals exact ⟨⟨k + 1, by omega, by go_num, HN.out.1, HN.out.2.1, HN.out.2.2.1, HN.out.2.2.2.drew⟩, by simp [intOf]; omega⟩
    · obtain rfl : k = 16 := by omega
      have hcl : (zipAdd xs ys 16).length = 16 := zipAdd_len _ _ _
      obtain ⟨fs, hfs⟩ : ∃ fs, i64s (zipAdd xs ys 16) = fs := ⟨_, rfl⟩
      have hcar : ∀ W, Calls Try.prog 37 #[.agg fs.toArray] W fun e w' => e = .returned (A16 (carryF (zipAdd xs ys 16))) ∧ Below W.heap.size W w' := by
        rw [← hfs]
        exact fun W => carry_calls _ hcl (fun x hx => by have := zipAdd_bnd xs ys HX.out HY.out x hx; omega) W
      have hr := hn.rng
      have hs1 := size16' _ hcl
      rw [hfs] at hr hs1
      have HF := Lib.hid (And.intro hr (And.intro hs1 (And.intro hz hbw)))
      have HC := Lib.hid hcar
      clear hn hy hz hbw hr hs1 hcar
      go_wp2_with (refine wpList_load_mid rfl 33 _ rfl w.heap.size 0 rfl fs _ HF.out.1 Try.underlying33 rfl HF.out.2.1 ?_)
      refine (HC.out _).mono ?_
      rintro e w1 ⟨rfl, b1⟩
      have hz1 := HF.out.2.2.1.later b1
      have hcl2 : (carryF (zipAdd xs ys 16)).length = 16 := by rw [carryF_len]; exact hcl
      have hbf := below_cells (show w.heap.size ≤ w.heap.size + 1 + 1 by omega) (i64s (carryF (zipAdd xs ys 16))) 0 _ (HF.out.2.2.2.then_ b1)
      have HT := Lib.hid (hz1.there (n := (i64s (carryF (zipAdd xs ys 16))).toArray.size) (by simp [i64s, hcl2, Z16]))
      have HS := Lib.hid (size16a _ hcl2)
      have HO := Lib.hid (one16 (carryF (zipAdd xs ys 16)))
      have HLD := Lib.hid (ld16 (hz1.setAll (ms := carryF (zipAdd xs ys 16)) (by rw [hcl2]; rfl)) hcl2)
      have HBF := Lib.hid hbf
      clear hz1 hbf b1 hcl hcl2 hfs
      go_wp2_with (refine wpList_store_mid rfl 33 _ _ rfl (w.heap.size + 1 + 1) 0 (i64s (carryF (zipAdd xs ys 16))).toArray rfl rfl HT.out HS.out HO.out ?_)
      exact bodyPost_ret (v := .agg (i64s (carryF (zipAdd xs ys 16))).toArray) (results_cell rfl _ _ _ _ rfl HLD.out) rfl ⟨rfl, HBF.out⟩
def zipSub (xs ys : List Int) (k : Nat) : List Int := (List.range 16).map fun i => if i < k then xs.getD i 0 - ys.getD i 0 else xs.getD i 0
theorem zipSub_len (xs ys : List Int) (k : Nat) : (zipSub xs ys k).length = 16 := by simp [zipSub]
theorem zipSub_zero (xs ys : List Int) (h : xs.length = 16) : zipSub xs ys 0 = xs := by
  apply List.ext_getElem?
  intro i
  by_cases hi : i < 16
  · simp [zipSub, hi, List.getD_eq_getElem?_getD, h]
  · simp [zipSub, hi, h]
theorem zipSub_get (xs ys : List Int) (k : Nat) (h : k < xs.length) (hl : k < 16) : (zipSub xs ys k)[k]? = some xs[k] := by
  simp [zipSub, hl, List.getD_eq_getElem?_getD, h]
theorem zipSub_set (xs ys : List Int) (k : Nat) (h : k < xs.length) (h2 : k < ys.length) (hl : xs.length = 16) : (zipSub xs ys k).set k (xs[k] - ys[k]) = zipSub xs ys (k + 1) := by
  apply List.ext_getElem?
  intro i
  rw [List.getElem?_set]
  by_cases e : k = i
  · subst e
    have hk : k < 16 := by omega
    simp [zipSub, hk, List.getD_eq_getElem?_getD, h, h2]
  · rw [if_neg e]
    by_cases hi : i < 16
    · by_cases h1 : i < k
      · simp [zipSub, hi, h1, Nat.lt_succ_of_lt h1]
      · simp [zipSub, hi, h1, show ¬ i < k + 1 by omega]
    · simp [zipSub, hi]
theorem zipSub_bnd (xs ys : List Int) (hx : NumOk xs) (hy : NumOk ys) : ∀ x ∈ zipSub xs ys 16, -2097152 ≤ x ∧ x ≤ 2097152 := by
  intro x h
  simp only [zipSub, List.mem_map] at h
  obtain ⟨i, hi, rfl⟩ := h
  have hi := List.mem_range.1 hi
  rw [if_pos hi]
  have h1 := hx.2 (xs.getD i 0) (by rw [List.getD_eq_getElem?_getD, List.getElem?_eq_getElem (by rw [hx.1]; exact hi)]; exact List.getElem_mem _)
  have h2 := hy.2 (ys.getD i 0) (by rw [List.getD_eq_getElem?_getD, List.getElem?_eq_getElem (by rw [hy.1]; exact hi)]; exact List.getElem_mem _)
  omega
theorem zipSub_val (xs ys : List Int) (hx : xs.length = 16) (hy : ys.length = 16) : valD (zipSub xs ys 16) = valD xs - valD ys := by
  match xs, ys, hx, hy with
  | [a0, a1, a2, a3, a4, a5, a6, a7, a8, a9, a10, a11, a12, a13, a14, a15], [b0, b1, b2, b3, b4, b5, b6, b7, b8, b9, b10, b11, b12, b13, b14, b15], _, _ =>
    show valD [a0 - b0, a1 - b1, a2 - b2, a3 - b3, a4 - b4, a5 - b5, a6 - b6, a7 - b7, a8 - b8, a9 - b9, a10 - b10, a11 - b11, a12 - b12, a13 - b13, a14 - b14, a15 - b15] = _
    simp only [valD]
    omega
set_option maxRecDepth 100000 in
set_option maxHeartbeats 4000000 in
theorem refSub_calls (xs ys : List Int) (hx : NumOk xs) (hy : NumOk ys) (w : World) :
    Calls Try.prog 23 #[A16 xs, A16 ys] w fun e w' => e = .returned (A16 (carryF (zipSub xs ys 16))) ∧ Below w.heap.size w w' := by
  unfold A16
  go_enter Try.func23, Try.ntmps23
  have H0 := Lib.hid (blk3 xs ys w)
  have HX := Lib.hid hx
  have HY := Lib.hid hy
  obtain ⟨cx, hcx⟩ : ∃ cs, i64s xs = cs := ⟨_, rfl⟩
  obtain ⟨cy, hcy⟩ : ∃ cs, i64s ys = cs := ⟨_, rfl⟩
  rw [hcx, hcy] at H0
  rw [hcx, hcy]
  clear hx hy hcx hcy
  go_wp2_with fail
  go_loopw [5] (fun i wr => ∃ k : Nat, k ≤ 16 ∧ i = .int .i64 (k : Int) ∧ NBlk wr w.heap.size (zipSub xs ys k) ∧ NBlk wr (w.heap.size + 1) ys ∧ NBlk wr (w.heap.size + 1 + 1) Z16 ∧ Below w.heap.size w wr) (fun i _ => 16 - (intOf i).toNat)
  case atStart => exact ⟨0, by omega, rfl, by rw [zipSub_zero xs ys HX.out.1]; exact H0.out.1, H0.out.2.1, H0.out.2.2.1, H0.out.2.2.2⟩
  case round =>
    obtain ⟨k, hk, rfl, hn, hy, hz, hbw⟩ := hrel
    by_cases hp : k < 16
    · have hkx : k < xs.length := by rw [HX.out.1]; exact hp
      have hky : k < ys.length := by rw [HY.out.1]; exact hp
      have bx := HX.out.2 _ (List.getElem_mem hkx)
      have by' := HY.out.2 _ (List.getElem_mem hky)
      have g1 := hn.cell (zipSub_get xs ys k hkx hp)
      have g2 := hn.frozen k
      have g3 := hy.cell (List.getElem?_eq_getElem hky)
      have hn2 := hn.set_ k (xs[k] - ys[k])
      rw [zipSub_set xs ys k hkx hky HX.out.1] at hn2
      generalize xs[k] = x at *
      generalize ys[k] = y at *
      have hn3 := hy.other (k := k) (x := .int .i64 (x - y)) (show w.heap.size ≠ w.heap.size + 1 by omega)
      have hn4 := hz.other (k := k) (x := .int .i64 (x - y)) (show w.heap.size ≠ w.heap.size + 1 + 1 by omega)
      have hb2 := hbw.setCell (p := ⟨w.heap.size, k, none⟩) (Nat.le_refl _) (.int .i64 (x - y))
      have HN := Lib.hid (And.intro hn2 (And.intro hn3 (And.intro hn4 hb2)))
      have e1 : IntKind.i64.wrap ((k : Int) + 1) = (k : Int) + 1 := IntWalk.i64_in _ (by omega)
      have e2 : IntKind.i64.wrap (x - y) = x - y := IntWalk.i64_in _ (by omega)
      have hbk : decide ((k : Int) < 16) = true := by simp; omega
      clear hn hy hz hbw hn2 hn3 hn4 hb2 hkx hky
      go_wp2_with fail
      try rw [hbk]
      go_region
      all_goals go_wp2_with fail
      all_goals exact ⟨⟨k + 1, by omega, by go_num, HN.out.1, HN.out.2.1, HN.out.2.2.1, HN.out.2.2.2.drew⟩, by simp [intOf]; omega⟩
    · obtain rfl : k = 16 := by omega
      have hcl : (zipSub xs ys 16).length = 16 := zipSub_len _ _ _
      obtain ⟨fs, hfs⟩ : ∃ fs, i64s (zipSub xs ys 16) = fs := ⟨_, rfl⟩
      have hcar : ∀ W, Calls Try.prog 37 #[.agg fs.toArray] W fun e w' => e = .returned (A16 (carryF (zipSub xs ys 16))) ∧ Below W.heap.size W w' := by
        rw [← hfs]
        exact fun W => carry_calls _ hcl (fun x hx => by have := zipSub_bnd xs ys HX.out HY.out x hx; omega) W
      have hr := hn.rng
      have hs1 := size16' _ hcl
      rw [hfs] at hr hs1
      have HF := Lib.hid (And.intro hr (And.intro hs1 (And.intro hz hbw)))
      have HC := Lib.hid hcar
      clear hn hy hz hbw hr hs1 hcar
      go_wp2_with (refine wpList_load_mid rfl 33 _ rfl w.heap.size 0 rfl fs _ HF.out.1 Try.underlying33 rfl HF.out.2.1 ?_)
      refine (HC.out _).mono ?_
      rintro e w1 ⟨rfl, b1⟩
      have hz1 := HF.out.2.2.1.later b1
      have hcl2 : (carryF (zipSub xs ys 16)).length = 16 := by rw [carryF_len]; exact hcl
      have hbf := below_cells (show w.heap.size ≤ w.heap.size + 1 + 1 by omega) (i64s (carryF (zipSub xs ys 16))) 0 _ (HF.out.2.2.2.then_ b1)
      have HT := Lib.hid (hz1.there (n := (i64s (carryF (zipSub xs ys 16))).toArray.size) (by simp [i64s, hcl2, Z16]))
      have HS := Lib.hid (size16a _ hcl2)
      have HO := Lib.hid (one16 (carryF (zipSub xs ys 16)))
      have HLD := Lib.hid (ld16 (hz1.setAll (ms := carryF (zipSub xs ys 16)) (by rw [hcl2]; rfl)) hcl2)
      have HBF := Lib.hid hbf
      clear hz1 hbf b1 hcl hcl2 hfs
      go_wp2_with (refine wpList_store_mid rfl 33 _ _ rfl (w.heap.size + 1 + 1) 0 (i64s (carryF (zipSub xs ys 16))).toArray rfl rfl HT.out HS.out HO.out ?_)
      exact bodyPost_ret (v := .agg (i64s (carryF (zipSub xs ys 16))).toArray) (results_cell rfl _ _ _ _ rfl HLD.out) rfl ⟨rfl, HBF.out⟩
end Go.Proofs.Ytpdoegfmngibgaa
