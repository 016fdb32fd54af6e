/- Layer 7: a seed's two parts, walked. -/
import Derived.Test.YtkfdclnaaphdgaaDoorSgA
import Derived.Test.YtkfdclnaaphdgaaDoorSgD
import Derived.Laws.CopyOwn
namespace Go.Proofs.YtkfdclnaaphdgaaDoor
open Go.ChangeShapes Go.WideShapes Go.ChangeAt Go.RowKit Go.IntWalk
set_option linter.unusedVariables false

theorem and_f8 : ∀ x : Fin 256, bits .and .u8 (x.val : Int) 248 = ((UInt8.ofNat (x.val - x.val % 8)).toNat : Int) := by decide +kernel
theorem or_40 : ∀ x : Fin 128, bits .or .u8 (x.val : Int) 64 = ((UInt8.ofNat (x.val % 64 + 64)).toNat : Int) := by decide +kernel
theorem res_cell2 {fn : Func} {p q : Tmp} {ty ty2 : TypeId} (h : fn.results = #[.cell p ty, .cell q ty2]) (tmps : Array Value) (a b : Addr) (v u : Value) (W : World) (hp : tmps.getD p undef = .pointer (some a)) (hq : tmps.getD q undef = .pointer (some b))
    (hld : (loadVar ty a).run Tryd.prog W = .ok v W) (hld2 : (loadVar ty2 b).run Tryd.prog W = .ok u W) : (results fn tmps).run Tryd.prog W = .ok (.tuple #[v, u]) W := by
  simp only [results, h]
  simp only [Array.getD_eq_getD_getElem?] at hp hq
  simp [hp, hq, asAddr, hld, hld2]
theorem row_whole (cur cs : List Value) (h : cs.length = cur.length) : (cur.toArray.toList.take 0 ++ (cs ++ cur.toArray.toList.drop (0 + cs.length))).toArray = cs.toArray := by
  rw [Nat.zero_add, h]; simp
theorem row_low (cur cs : List Value) (h : cs.length = 32) : (cur.toArray.toList.take 0 ++ (cs ++ cur.toArray.toList.drop (0 + cs.length))).toArray = (cs ++ cur.drop 32).toArray := by
  rw [Nat.zero_add, h]; simp
theorem row_high (cur cs : List Value) (hc : cur.length = 64) (h : cs.length = 32) : (cur.toArray.toList.take 32 ++ (cs ++ cur.toArray.toList.drop (32 + cs.length))).toArray = (cur.take 32 ++ cs).toArray := by
  rw [h]
  have : List.drop (32 + 32) cur = [] := List.drop_of_length_le (by omega)
  simp [this]
theorem u8s_take (bs : List UInt8) (n : Nat) : (u8s bs).take n = u8s (bs.take n) := by simp [u8s, List.map_take]
theorem u8s_drop (bs : List UInt8) (n : Nat) : (u8s bs).drop n = u8s (bs.drop n) := by simp [u8s, List.map_drop]
theorem u8s_app (xs bs : List UInt8) : u8s xs ++ u8s bs = u8s (xs ++ bs) := by simp [u8s]
theorem u8s_all (bs : List UInt8) : ∀ v ∈ u8s bs, v.oneCell' = true := by
  intro v hv
  obtain ⟨y, _, rfl⟩ := List.mem_map.1 hv
  rfl
/-- A part of a block of bytes, as a source of cells. -/
theorem Blk.src {W : World} {g o n : Nat} {T : TypeId} {bs : List UInt8} (h : Blk W g T (u8s bs)) : ∀ j v, (u8s ((bs.drop o).take n))[j]? = some v → W.cell? ((⟨g, o, none⟩ : Addr).add j) = some v := by
  intro j v hj
  have e : (⟨g, o, none⟩ : Addr).add j = ⟨g, o + j, none⟩ := by unfold Addr.add; split <;> simp_all
  rw [e]
  refine h.cell ?_
  rw [← u8s_take, ← u8s_drop, List.getElem?_take] at hj
  split at hj
  · rw [List.getElem?_drop] at hj; exact hj
  · cases hj
theorem sec_of (dg : List UInt8) (h : dg.length = 64) : ((dg.take 32).set 0 (UInt8.ofNat ((dg.getD 0 0).toNat - (dg.getD 0 0).toNat % 8))).set 31 (UInt8.ofNat ((dg.getD 31 0).toNat % 64 + 64)) = secB dg := by
  unfold secB
  generalize UInt8.ofNat ((dg.getD 0 0).toNat - (dg.getD 0 0).toNat % 8) = x
  generalize UInt8.ofNat ((dg.getD 31 0).toNat % 64 + 64) = y
  match dg, h with
  | a :: t, h =>
    have ht : t.length = 63 := by simpa using h
    apply List.ext_getElem?
    intro i
    rcases Nat.lt_or_ge i 32 with hi | hi
    · rcases Nat.eq_zero_or_pos i with rfl | hp
      · simp
      · obtain ⟨j, rfl⟩ : ∃ j, i = j + 1 := ⟨i - 1, by omega⟩
        by_cases hj : j = 30
        · subst hj
          simp [List.getElem?_set, ht]
        · have hlt : j < 30 := by omega
          simp [List.getElem?_set, List.getElem?_append, ht, hlt, List.getElem?_take, show ¬ 30 = j by omega, show j < 31 by omega]
    · simp [List.getElem?_set, List.getElem?_append, ht, List.getElem?_take, show ¬ 31 = i by omega, show ¬ i < 32 by omega]
theorem secB_len7 {dg : List UInt8} (h : dg.length = 64) : (secB dg).length = 32 := by simp [secB, h]
set_option maxRecDepth 100000 in
set_option maxHeartbeats 4000000 in
theorem parts_calls (bs : List UInt8) (hb : bs.length = 32) (w : World) (hT : Dh.Tab w) :
    Calls Tryd.prog 16 #[.agg (u8s bs).toArray] w fun e w' => e = .returned (.tuple #[.agg (u8s (secB (Dh.digest bs))).toArray, .agg (u8s ((Dh.digest bs).drop 32)).toArray]) ∧ Below w.heap.size w w' := by
  have HB := Lib.hid hb
  have HDC := Lib.hid (fun A W (hT : Dh.Tab W) hr => digested_calls A 1 1 [bs] (Lib.hid rfl) (by decide) (by decide) (by simp [hb]) W hT hr)
  simp only [List.flatten_cons, List.flatten_nil, List.append_nil] at HDC
  have hdl := Dh.digest_len bs
  obtain ⟨dg, hdg⟩ : ∃ d, Dh.digest bs = d := ⟨_, rfl⟩
  rw [hdg] at hdl HDC ⊢
  have HRB : Hid (∀ (W : World) (g : Nat), Blk W g 22 (u8s bs) → RBq (W.alloc (.cells #[.slice (some ⟨g, 0, none⟩) 32 32] 25)) (some ⟨W.heap.size, 0, none⟩) [bs]) :=
    Lib.hid (fun W g h => rbq1 (Blk.new W [.slice (some ⟨g, 0, none⟩) 32 32] 25) (RB.below (UBlk.rb h) ((Below.refl _ _).alloc (Nat.le_refl _) _)) (Lib.hid HB.out.symm) (Nat.le_refl _))
  have hub : (u8s bs).length = 32 := by rw [u8s_len, HB.out]
  clear hdg hb
  obtain ⟨ub, hub2⟩ : ∃ u, u8s bs = u := ⟨_, rfl⟩
  rw [hub2] at hub ⊢
  rw [hub2] at HRB
  have HTT := Lib.hid hT
  have HDL := Lib.hid hdl
  clear hT hub2 hdl
  go_enter Tryd.func16, Tryd.ntmps16
  go_upto_region 1 with (fail)
  refine wp_gen (fun W1 => Blk W1 w.heap.size 22 ub ∧ Blk W1 (w.heap.size + 1) 22 C32 ∧ Blk W1 (w.heap.size + 1 + 1) 22 C32 ∧ Below w.heap.size w W1) (alloc3 w ub C32 C32 22 22 22) ?_
  rintro W1 ⟨Bp, Bs, Br, HW⟩
  go_wp2_with fail
  refine (HDC.out _ _ (HTT.out.later (HW.alloc HW.size _)) (HRB.out W1 _ Bp)).mono ?_
  rintro e W2 ⟨rfl, b2⟩
  have hw2 := (HW.alloc HW.size (.cells #[.slice (some ⟨w.heap.size, 0, none⟩) 32 32] 25)).then_ b2
  have c2 : Below W1.heap.size W1 W2 := ((Below.refl _ _).alloc (Nat.le_refl _) _).step b2 (by simp)
  obtain ⟨T0, HL, N0⟩ := letS (W := W2) (T := 28) (z := Z64) (cs := u8s dg) (by rw [u8s_len, HDL.out]; rfl)
  have hS : (Tryd.prog.info? 28).map (·.size) = some (u8s dg).toArray.size := by rw [List.size_toArray, u8s_len, HDL.out]; exact size64b
  have hone := u8s_one dg
  have B2 : Blk ((W2.alloc (.cells Z64.toArray 28)).setCells W2.heap.size 0 (u8s dg)) (w.heap.size + 1) 22 C32 := (Bs.later c2).later HL
  have B3 : Blk ((W2.alloc (.cells Z64.toArray 28)).setCells W2.heap.size 0 (u8s dg)) (w.heap.size + 1 + 1) 22 C32 := (Br.later c2).later HL
  have HW3 := hw2.then_ HL
  have hlt2 : w.heap.size + 1 + 1 < W2.heap.size := (Br.later c2).lt
  obtain ⟨us, hus⟩ : ∃ q, u8s dg = q := ⟨_, rfl⟩
  rw [show Dh.u8b dg = us from hus]
  rw [hus] at T0 hS hone N0 B2 B3 HW3
  go_upto_region 2 with (refine wpList_store_mid rfl 28 _ _ rfl W2.heap.size 0 us.toArray rfl rfl T0 hS hone ?_)
  obtain ⟨g, eg⟩ : ∃ g, W2.heap.size = g := ⟨_, rfl⟩
  rw [eg] at N0 hlt2 ⊢
  have hE := Lib.hid eg
  refine wp_gen (fun W => Blk W (w.heap.size + 1) 22 C32 ∧ Blk W (w.heap.size + 1 + 1) 22 C32 ∧ Blk W g 28 (u8s dg) ∧ Below w.heap.size w W) ⟨hE.out ▸ B2, hE.out ▸ B3, hus ▸ N0, hE.out ▸ HW3⟩ ?_
  have HLT := Lib.hid hlt2
  clear T0 HL N0 hS hone B2 B3 HW3 hlt2 hE eg hus hw2 c2 b2 HRB HDC Bp Bs Br HW HTT
  rintro W3 ⟨B2, B3, Bg, HW⟩
  have hcl : C32.length = 32 := rfl
  have HX0 : Hid (u8s ((dg.drop 0).take 32) = u8s (dg.take 32)) := Lib.hid rfl
  have HX1 : Hid (u8s ((dg.drop 32).take 32) = u8s (dg.drop 32)) := Lib.hid (by rw [List.take_of_length_le (by rw [List.length_drop, HDL.out]; decide)])
  have HY0 : Hid ((u8s ((dg.drop 0).take 32)).length = 32) := Lib.hid (by rw [u8s_len, List.length_take, List.length_drop, HDL.out]; decide)
  have HY1 : Hid ((u8s ((dg.drop 32).take 32)).length = 32) := Lib.hid (by rw [u8s_len, List.length_take, List.length_drop, HDL.out]; decide)
  go_wp2_with fail
  apply wp_region_g 2 (by kernel_rfl) (by kernel_rfl)
  simp only [List.take_succ_cons, List.take_zero, List.drop_succ_cons, List.drop_zero]
  apply lg_pure (.slice (some ⟨w.heap.size + 1, 0, none⟩) 32 32) rfl (by intro W; go_simp)
  simp only [Act.put, List.setIfInBounds_toArray, List.set_cons_succ, List.set_cons_zero]
  apply lg_pure (.slice (some ⟨g, 0, none⟩) 32 64) rfl (by intro W; go_simp)
  simp only [Act.put, List.setIfInBounds_toArray, List.set_cons_succ, List.set_cons_zero]
  refine lg_nil ?_
  intro W4 hC
  refine wpList_copy_own rfl (.tmp 8) (.tmp 9) 25 25 rfl 5 Tryd.underlying25 (by kernel_rfl) (w.heap.size + 1) 0 32 32 ⟨g, 0, none⟩ 32 64 rfl rfl _ 22 (B2.later hC.1) (u8s ((dg.drop 0).take 32)) HY0.out (Bg.later hC.1).src (by rw [HY0.out]; decide) (u8s_all _) ?_
  rw [row_whole C32 _ (by rw [HY0.out]; rfl), HX0.out]
  refine wpList_gen (fun W => Blk W (w.heap.size + 1) 22 (u8s (dg.take 32)) ∧ Blk W (w.heap.size + 1 + 1) 22 C32 ∧ Blk W g 28 (u8s dg) ∧ Below w.heap.size w W)
    ⟨(B2.later hC.1).setRow _, (setRow_other _ _ _ _ (by omega)).trans (B3.later hC.1), (setRow_other _ _ _ _ (by have := HLT.out; omega)).trans (Bg.later hC.1), below_setRow (HW.then_ hC.1) (by omega) _⟩ ?_
  clear B2 B3 Bg HW hC
  rintro W5 ⟨B2, B3, Bg, HW⟩
  go_upto_region 3 with fail
  go_wp2_with fail
  apply wp_region_g 2 (by kernel_rfl) (by kernel_rfl)
  simp only [List.take_succ_cons, List.take_zero, List.drop_succ_cons, List.drop_zero]
  apply lg_pure (.slice (some ⟨w.heap.size + 1 + 1, 0, none⟩) 32 32) rfl (by intro W; go_simp)
  simp only [Act.put, List.setIfInBounds_toArray, List.set_cons_succ, List.set_cons_zero]
  apply lg_pure (.slice (some ⟨g, 32, none⟩) 32 32) rfl (by intro W; go_simp)
  simp only [Act.put, List.setIfInBounds_toArray, List.set_cons_succ, List.set_cons_zero]
  refine lg_nil ?_
  intro W6 hC
  refine wpList_copy_own rfl (.tmp 11) (.tmp 12) 25 25 rfl 5 Tryd.underlying25 (by kernel_rfl) (w.heap.size + 1 + 1) 0 32 32 ⟨g, 32, none⟩ 32 32 rfl rfl _ 22 (B3.later hC.1) (u8s ((dg.drop 32).take 32)) HY1.out (Bg.later hC.1).src (by rw [HY1.out]; decide) (u8s_all _) ?_
  rw [row_whole C32 _ (by rw [HY1.out]; rfl), HX1.out]
  refine wpList_gen (fun W => Blk W (w.heap.size + 1) 22 (u8s (dg.take 32)) ∧ Blk W (w.heap.size + 1 + 1) 22 (u8s (dg.drop 32)) ∧ Below w.heap.size w W)
    ⟨(setRow_other _ _ _ _ (by omega)).trans (B2.later hC.1), (B3.later hC.1).setRow _, below_setRow (HW.then_ hC.1) (by omega) _⟩ ?_
  clear B2 B3 Bg HW hC HX0 HX1 HY0 HY1
  rintro W7 ⟨B2, B3, HW⟩
  go_upto_region 4 with fail
  have hl := HDL.out
  obtain ⟨x, hx⟩ : ∃ x, dg.getD 0 0 = x := ⟨_, rfl⟩
  obtain ⟨y, hy⟩ : ∃ y, dg.getD 31 0 = y := ⟨_, rfl⟩
  have gx : (u8s (dg.take 32))[0]? = some (.int .u8 (x.toNat : Int)) := by rw [← hx]; simp [u8s, List.getElem?_take, List.getD, hl]
  have gy : (u8s ((dg.take 32).set 0 (UInt8.ofNat (x.toNat - x.toNat % 8))))[31]? = some (.int .u8 (y.toNat : Int)) := by rw [← hy]; simp [u8s, List.getElem?_take, List.getD, hl, List.getElem?_set]
  have cx := B2.cell gx
  have fx := B2.frozen 0
  have ex := and_f8 ⟨x.toNat, x.toNat_lt⟩
  simp only at ex
  have HG := Lib.hid gy
  have HXY := Lib.hid (And.intro hx hy)
  have HWW := Lib.hid HW
  have HB2 := Lib.hid B2
  have HB3 := Lib.hid B3
  obtain ⟨xf, hxf⟩ : ∃ z, UInt8.ofNat (x.toNat - x.toNat % 8) = z := ⟨_, rfl⟩
  rw [hxf] at ex HG
  have HXF := Lib.hid hxf
  clear gx gy hx hy hl HW B2 B3 hxf
  go_upto_region 5 with fail
  have hs := HB2.out.set_ 0 (.int .u8 (xf.toNat : Int))
  rw [u8s_set] at hs
  refine wp_gen (fun W => Blk W (w.heap.size + 1) 22 (u8s ((dg.take 32).set 0 xf)) ∧ Blk W (w.heap.size + 1 + 1) 22 (u8s (dg.drop 32)) ∧ Below w.heap.size w W)
    ⟨hs, HB3.out.other (by omega) _, HWW.out.setCell (by show w.heap.size ≤ w.heap.size + 1; omega) _⟩ ?_
  clear cx fx hs HB2 HB3 HWW ex
  rintro W8 ⟨B2, B3, HW⟩
  have cy := B2.cell HG.out
  have fy := B2.frozen 31
  have ey : bits .or .u8 ((y.toNat : Int) % 128) 64 = ((UInt8.ofNat (y.toNat % 64 + 64)).toNat : Int) := by
    have h := or_40 ⟨y.toNat % 128, by omega⟩
    simp only at h
    rw [show y.toNat % 128 % 64 = y.toNat % 64 by omega] at h
    rw [← h]; rfl
  have ea : bits .and .u8 (y.toNat : Int) 127 = (y.toNat : Int) % 128 := bits_mask .u8 8 (by decide) (fun x h0 h1 => by rw [IntKind.wrap_u8]; omega) 7 (by decide) _ (by omega) (by have := y.toNat_lt; omega)
  obtain ⟨yf, hyf⟩ : ∃ z, UInt8.ofNat (y.toNat % 64 + 64) = z := ⟨_, rfl⟩
  rw [hyf] at ey
  obtain ⟨ym, hym⟩ : ∃ z, (y.toNat : Int) % 128 = z := ⟨_, rfl⟩
  rw [hym] at ea ey
  have HYF := Lib.hid hyf
  have HYM := Lib.hid hym
  have HWW := Lib.hid HW
  have HB2 := Lib.hid B2
  have HB3 := Lib.hid B3
  clear hyf hym HW B2 B3
  go_upto_region 6 with fail
  have hs := HB2.out.set_ 31 (.int .u8 (yf.toNat : Int))
  rw [u8s_set] at hs
  have hsec : ((dg.take 32).set 0 xf).set 31 yf = secB dg := by
    have := sec_of dg HDL.out
    rwa [HXY.out.1, HXY.out.2, HXF.out, HYF.out] at this
  rw [hsec] at hs
  refine wp_gen (fun W => Blk W (w.heap.size + 1) 22 (u8s (secB dg)) ∧ Blk W (w.heap.size + 1 + 1) 22 (u8s (dg.drop 32)) ∧ Below w.heap.size w W)
    ⟨hs, HB3.out.other (by omega) _, HWW.out.setCell (by show w.heap.size ≤ w.heap.size + 1; omega) _⟩ ?_
  have l1 : (u8s (secB dg)).length = 32 := by rw [u8s_len, secB_len7 HDL.out]
  have l2 : (u8s (dg.drop 32)).length = 32 := by rw [u8s_len, List.length_drop, HDL.out]
  have o1 := u8s_one (secB dg)
  have o2 := u8s_one (dg.drop 32)
  obtain ⟨q1, hq1⟩ : ∃ q, u8s (secB dg) = q := ⟨_, rfl⟩
  obtain ⟨q2, hq2⟩ : ∃ q, u8s (dg.drop 32) = q := ⟨_, rfl⟩
  have HQ := Lib.hid (And.intro hq1 hq2)
  rw [hq1] at l1 o1 ⊢
  rw [hq2] at l2 o2 ⊢
  have s1 : (Tryd.prog.info? 22).map (·.size) = some q1.length := by rw [l1]; exact size32
  have s2 : (Tryd.prog.info? 22).map (·.size) = some q2.length := by rw [l2]; exact size32
  have t1 : (Tryd.prog.info? 22).map (·.size) = some q1.toArray.size := by rw [List.size_toArray]; exact s1
  have t2 : (Tryd.prog.info? 22).map (·.size) = some q2.toArray.size := by rw [List.size_toArray]; exact s2
  clear hs hsec hq1 hq2 cy fy ey ea HB2 HB3 HWW HYF HYM HXF HG HXY
  rintro W9 ⟨B2, B3, HW⟩
  have T1 := B2.there (n := q1.toArray.size) (by simp)
  have N1 := B2.setAll (vs := q1) rfl
  have N2 := B3.setFar (g2 := w.heap.size + 1) (by omega) 0 q1
  have T2 := N2.there (n := q2.toArray.size) (by simp)
  have M1 := N1.setFar (g2 := w.heap.size + 1 + 1) (by omega) 0 q2
  have M2 := N2.setAll (vs := q2) rfl
  have HWF := Lib.hid (blw_cells (b := w.heap.size + 1 + 1) (by omega) q2 0 _ (blw_cells (b := w.heap.size + 1) (by omega) q1 0 _ HW))
  have r1 := B2.rng
  have r2 := B3.rng
  clear B2 B3 HW N1 N2
  go_wp2_with (first
    | (refine wpList_load_mid rfl 22 _ rfl (w.heap.size + 1) 0 rfl q1 _ r1 Tryd.underlying22 rfl s1 ?_)
    | (refine wpList_load_mid rfl 22 _ rfl (w.heap.size + 1 + 1) 0 rfl q2 _ r2 Tryd.underlying22 rfl s2 ?_)
    | (refine wpList_store_mid rfl 22 _ _ rfl (w.heap.size + 1) 0 q1.toArray rfl rfl T1 t1 o1 ?_)
    | (refine wpList_store_mid rfl 22 _ _ rfl (w.heap.size + 1 + 1) 0 q2.toArray rfl rfl T2 t2 o2 ?_))
  exact bodyPost_ret (v := .tuple #[.agg q1.toArray, .agg q2.toArray]) (res_cell2 rfl _ _ _ _ _ _ rfl rfl (M1.load 22 Tryd.underlying22 rfl s1) (M2.load 22 Tryd.underlying22 rfl s2)) rfl ⟨by rw [HQ.out.1, HQ.out.2], HWF.out⟩
end Go.Proofs.YtkfdclnaaphdgaaDoor
