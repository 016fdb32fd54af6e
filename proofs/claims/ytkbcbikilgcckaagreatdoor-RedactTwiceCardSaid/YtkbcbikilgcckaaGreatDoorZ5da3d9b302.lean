/- Texts put together: RdE EcC EcN Nx JvW QuF QuG. -/
import Derived.Test.YtkbcbikilgcckaaGreatDoorZc2c2f53193
import Derived.Test.YtkbcbikilgcckaaGreatDoorZae125c35ba
import Derived.Test.YtkbcbikilgcckaaGreatDoorZfbe618e092
import Derived.Test.YtkbcbikilgcckaaGreatDoorZ4da26719d9
import Derived.Deep.Cut
import Derived.Test.YtkbcbikilgcckaaGreatDoorZ2071c6bcdc
import Derived.Test.YtkbcbikilgcckaaGreatDoorZcf87a46e79
import Derived.Lib.AppendZeros
import Derived.Lib.AppendZerosOnto
import Derived.Lib.SliceRun
import Derived.Test.YtkbcbikilgcckaaGreatDoorZb7a4c958af
import Derived.Test.YtkbcbikilgcckaaGreatDoorZe0ec6b32e3
import Derived.Test.YtkbcbikilgcckaaGreatDoorZb913a2313a
import Derived.WalkLawsBesides
import Derived.Test.YtkbcbikilgcckaaGreatDoorShelf
namespace Go.Proofs.YtkbcbikilgcckaaGreatDoor
open Go.ChangeShapes Go.WideShapes Go.ChangeAt Go.RowKit Go.IntWalk
set_option linter.unusedVariables false
set_option maxRecDepth 100000

theorem samev_calls (u : Jv) (W : World) (A2 B2 A4 B4 : Option Addr) (nl2 cl2 nm2 cm2 nl4 cl4 nm4 cm4 : Nat) (h2 : VOk W u A2 B2 nl2 cl2 nm2 cm2) (h4 : VOk W u A4 B4 nl4 cl4 nm4 cm4) : Calls Tryz.prog 18 #[.agg (vlC u A2 B2 nl2 cl2 nm2 cm2).toArray, .agg (vlC u A4 B4 nl4 cl4 nm4 cm4).toArray] W (fun e w' => e = .returned (.bool true) ∧ Below W.heap.size W w') := by
  have := same_calls u.bulk u u A2 B2 A4 B4 nl2 cl2 nm2 cm2 nl4 cl4 nm4 cm4 W (Nat.le_refl _) h2 h4
  rw [sameV_refl] at this
  exact this
section
variable {P : Program} {ops : Array Oper} {W0 : World} {Q : (World → Prop) → Act → Prop} {o : Oper} {rest : List Oper} {Fs : List Lft} {a : Act} {Z : World → Prop}
theorem lk_cell (v : Value) (b off : Nat) (hc : W0.cell? ⟨b, off, none⟩ = some v) (hb : b < W0.heap.size) (hw : Region.wanted o (yielded ops a.tmps) = true)
    (h1 : ∀ W, W.cell? ⟨b, off, none⟩ = some v → (execOp a.eval o).run P W = .ok (.value v) W) (h2 : wpLk P ops W0 Q rest Fs (fun w => Z w ∧ True) (a.put o.dst v)) :
    wpLk P ops W0 Q (o :: rest) (Lft.bare (· = v) :: Fs) Z a :=
  lk_run v hw (fun W hW => h1 W ((hW.cell (p := ⟨b, off, none⟩) hb).trans hc)) h2
end
set_option maxHeartbeats 16000000 in
theorem refsameE_calls (e : Ev) (a a2 : Ea) (w : World) (he : EOk w e a) (he2 : EOk w e a2) : Calls Tryz.prog 8 #[.agg (evC e a).toArray, .agg (evC e a2).toArray] w fun en w' => en = .returned (.bool true) ∧ Below w.heap.size w w' := by
  obtain ⟨W, hW⟩ : ∃ x, x = (w.alloc (.cells (evC e a).toArray 29)).alloc (.cells (evC e a2).toArray 29) := ⟨_, rfl⟩
  have h3 := alloc2 w (evC e a) (evC e a2) 29 29
  have HW := Lib.hid hW
  rw [← hW] at h3
  have H1 := Lib.hid h3
  have HE := Lib.hid he
  have HE2 := Lib.hid he2
  have hns : a.ns = a2.ns := he.2.2.2.1.2.1.out.trans he2.2.2.2.1.2.1.out.symm
  have HNS := Lib.hid he.2.2.2.1.2.1.out
  have hnm : a2.ns ≤ 140737488355328 := he2.2.2.2.1.2.2.2.1
  have hx := h3.1
  have hy := h3.2.1
  rw [hW] at hx hy
  have d0 := hx.cell (k := 0) rfl
  have d1 := hx.cell (k := 1) rfl
  have d2 := hx.cell (k := 2) rfl
  have d3 := hx.cell (k := 3) rfl
  have d4 := hx.cell (k := 4) rfl
  have d13 := hx.cell (k := 13) rfl
  have d14 := hx.cell (k := 14) rfl
  have d15 := hx.cell (k := 15) rfl
  have d16 := hx.cell (k := 16) rfl
  have e0 := hy.cell (k := 0) rfl
  have e1 := hy.cell (k := 1) rfl
  have e2 := hy.cell (k := 2) rfl
  have e3 := hy.cell (k := 3) rfl
  have e4 := hy.cell (k := 4) rfl
  have e13 := hy.cell (k := 13) rfl
  have e14 := hy.cell (k := 14) rfl
  have e15 := hy.cell (k := 15) rfl
  have e16 := hy.cell (k := 16) rfl
  rw [hns] at d16
  clear hx hy he he2 h3 hW
  go_enter Tryz.func8, Tryz.ntmps8
  go_wp2_with fail
  rw [← HW.out]
  have HX := Lib.hid H1.out
  clear d0 e0 d1 e1 d2 e2 d3 e3 d4 e4 d13 e13 d14 e14 d15 e15 d16 e16 HX
  go_loopw [72] (fun i wr => ∃ k : Nat, k ≤ a2.ns ∧ i = .int .i64 (k : Int) ∧ Hid (Below w.heap.size w wr ∧ Blk wr w.heap.size 29 (evC e a) ∧ Blk wr (w.heap.size + 1) 29 (evC e a2))) (fun i _ => a2.ns - (intOf i).toNat)
  case atStart => exact ⟨0, Nat.zero_le _, rfl, Lib.hid ⟨H1.out.2.2, H1.out.1, H1.out.2.1⟩⟩
  case round =>
    obtain ⟨k, hk, rfl, HK⟩ := hrel
    by_cases hp : k < a2.ns
    · have hkx : k < e.sg.length := by rw [← HNS.out, hns]; exact hp
      obtain ⟨b0, off, hA, hb0, r0⟩ := sg_row HE.out.2.2.2.1.1 HK.out.1 hkx
      obtain ⟨b1, off1, hA2, hb1, r1⟩ := sg_row HE2.out.2.2.2.1.1 HK.out.1 hkx
      obtain ⟨x, hxx⟩ : ∃ x, e.sg[k] = x := ⟨_, rfl⟩
      rw [hxx] at r0 r1
      obtain ⟨x1, x2, x3⟩ := x
      dsimp only at r0 r1
      have HR0 := Lib.hid r0
      have HR1 := Lib.hid r1
      have d16 := HK.out.2.1.cell (k := 16) rfl
      have e16 := HK.out.2.2.cell (k := 16) rfl
      rw [hA, hns] at d16
      rw [hA2] at e16
      have HD := Lib.hid d16
      have HF := Lib.hid e16
      have HBS0 := Lib.hid (Nat.lt_of_lt_of_le hb0 HK.out.1.size)
      have HBS1 := Lib.hid (Nat.lt_of_lt_of_le hb1 HK.out.1.size)
      clear hxx hkx r0 r1 hA hA2 d16 e16 hb0 hb1
      go_upto_region 6 with fail
      apply wp_region_lk (by kernel_rfl) (by kernel_rfl)
      apply lk_pure (.pointer (some ⟨w.heap.size, 16, none⟩)) rfl (by intro W; go_simp)
      simp only [Act.put, List.setIfInBounds_toArray, List.set_cons_succ, List.set_cons_zero]
      apply lk_cell (.slice (some ⟨b0, off, none⟩) a2.ns a.cs) w.heap.size 16 HD.out (HK.out.2.1.lt) rfl (by intro W hW; go_simp)
      simp only [Act.put, List.setIfInBounds_toArray, List.set_cons_succ, List.set_cons_zero]
      apply lk_move (.int .i64 (k : Int)) (.tmp 5) rfl rfl rfl
      simp only [Act.put, List.setIfInBounds_toArray, List.set_cons_succ, List.set_cons_zero]
      apply lk_pure (.pointer (some ⟨b0, off + k * 3, none⟩)) rfl (by intro W; go_simp)
      simp only [Act.put, List.setIfInBounds_toArray, List.set_cons_succ, List.set_cons_zero]
      apply lk_load 44 (.tmp 78) rfl b0 (off + k * 3) _ _ HR0.out HBS0.out Tryz.underlying44 rfl (size_sg _ _ _) rfl rfl
      simp only [Act.put, List.setIfInBounds_toArray, List.set_cons_succ, List.set_cons_zero]
      apply lk_pure (.pointer (some ⟨(w.heap.size + 1), 16, none⟩)) rfl (by intro W; go_simp)
      simp only [Act.put, List.setIfInBounds_toArray, List.set_cons_succ, List.set_cons_zero]
      apply lk_cell (.slice (some ⟨b1, off1, none⟩) a2.ns a2.cs) (w.heap.size + 1) 16 HF.out (HK.out.2.2.lt) rfl (by intro W hW; go_simp)
      simp only [Act.put, List.setIfInBounds_toArray, List.set_cons_succ, List.set_cons_zero]
      apply lk_move (.int .i64 (k : Int)) (.tmp 5) rfl rfl rfl
      simp only [Act.put, List.setIfInBounds_toArray, List.set_cons_succ, List.set_cons_zero]
      apply lk_pure (.pointer (some ⟨b1, off1 + k * 3, none⟩)) rfl (by intro W; go_simp)
      simp only [Act.put, List.setIfInBounds_toArray, List.set_cons_succ, List.set_cons_zero]
      apply lk_load 44 (.tmp 83) rfl b1 (off1 + k * 3) _ _ HR1.out HBS1.out Tryz.underlying44 rfl (size_sg _ _ _) rfl rfl
      simp only [Act.put, List.setIfInBounds_toArray, List.set_cons_succ, List.set_cons_zero]
      apply lk_pure (.bool false) rfl (by intro W; go_simp)
      simp only [Act.put, List.setIfInBounds_toArray, List.set_cons_succ, List.set_cons_zero]
      refine lk_nil (Fs := []) ?_
      intro w7 hb7 hz
      have H7 := Lib.hid (And.intro (HK.out.1.then_ hb7) (And.intro (HK.out.2.1.later hb7) (HK.out.2.2.later hb7)))
      clear hb7 hz
      go_wp2_with fail
      exact ⟨⟨k + 1, by omega, by go_num, Lib.hid H7.out⟩, by simp [intOf]; omega⟩
    · obtain rfl : a2.ns = k := by omega
      have HVA := Lib.hid (samev_calls e.ct wr a.A a.B a2.A a2.B a.nl a.cl a.nm a.cm a2.nl a2.cl a2.nm a2.cm (HE.out.1.below HK.out.1) (HE2.out.1.below HK.out.1))
      have hr1 := ev_ct (e := e) (a := a) (o := 0) HK.out.2.1.rng
      have hr2 := ev_ct (e := e) (a := a2) (o := 0) HK.out.2.2.rng
      go_wp2_with (first | (refine wpList_load_mid rfl 25 (.tmp 87) rfl w.heap.size 5 rfl (vlC e.ct a.A a.B a.nl a.cl a.nm a.cm) _ hr1 Tryz.underlying25 rfl (size_vl _ _ _ _ _ _ _) ?_) | (refine wpList_load_mid rfl 25 (.tmp 89) rfl (w.heap.size + 1) 5 rfl (vlC e.ct a2.A a2.B a2.nl a2.cl a2.nm a2.cm) _ hr2 Tryz.underlying25 rfl (size_vl _ _ _ _ _ _ _) ?_))
      clear hr1 hr2
      refine HVA.out.mono ?_
      rintro en w3 ⟨rfl, hb⟩
      have H3 := Lib.hid (And.intro (HK.out.1.then_ hb) (And.intro (HK.out.2.1.later hb) (HK.out.2.2.later hb)))
      clear hb HVA
      have d11 := H3.out.2.1.cell (k := 11) rfl
      have e11 := H3.out.2.2.cell (k := 11) rfl
      have HL := Lib.hid (reflist_calls a.P a2.P a.np a.cp a2.np a2.cp e.pv w3 (HE.out.2.1.below H3.out.1) (HE2.out.2.1.below H3.out.1))
      go_wp2_with fail
      refine HL.out.mono ?_
      rintro en w4 ⟨rfl, hb⟩
      have H4 := Lib.hid (And.intro (H3.out.1.then_ hb) (And.intro (H3.out.2.1.later hb) (H3.out.2.2.later hb)))
      clear hb HL d11 e11
      have d12 := H4.out.2.1.cell (k := 12) rfl
      have e12 := H4.out.2.2.cell (k := 12) rfl
      have HL := Lib.hid (reflist_calls a.U a2.U a.nu a.cu a2.nu a2.cu e.au w4 (HE.out.2.2.1.below H4.out.1) (HE2.out.2.2.1.below H4.out.1))
      go_wp2_with fail
      refine HL.out.mono ?_
      rintro en w5 ⟨rfl, hb⟩
      have H5 := Lib.hid (H4.out.1.then_ hb)
      clear hb HL d12 e12
      go_wp2_with fail
      go_ret
      exact ⟨rfl, H5.out⟩
end Go.Proofs.YtkbcbikilgcckaaGreatDoor
namespace Go.Proofs.YtkbcbikilgcckaaGreatDoor
open Go.ChangeShapes Go.WideShapes Go.ChangeAt Go.RowKit Go.IntWalk
set_option linter.unusedVariables false
set_option maxRecDepth 100000

theorem infoStr : (Tryz.prog.info? 9).map (fun i => (i.zero, i.size, i.bytes)) = some (some (.string ⟨#[]⟩), 1, 16) := by kernel_rfl
set_option maxHeartbeats 4000000 in
theorem growT_calls (n : Nat) (hn : n ≤ 1000000000000) (w : World) : Calls Tryz.prog 72 #[.slice none 0 0, .int .i64 (n : Int)] w fun e w' => ∃ v, e = .returned v ∧ OwnVs w.heap.size 9 w' v [] ∧ Below w.heap.size w w' := by
  have h1 : ¬ ((n : Int) < 0) := by omega
  have h3 : wrap64 ((n : Int) - 0) = (n : Int) := by unfold wrap64; omega
  by_cases h0 : n = 0
  · subst h0
    go_enter Tryz.func72, Tryz.ntmps72
    go_wp2_with fail
    go_ret
    exact ⟨_, rfl, OwnVs.nil _ _ _, Below.refl _ _⟩
  · have h4 : (0 : Int) < (n : Int) := by omega
    obtain ⟨i0, hi, hz0, hz1, hz2⟩ := info_parts infoStr
    have hold : (Builtin.firstCells i0.size 0 (.slice none 0 0)).run Tryz.prog w.drew = .ok ([] : List Value).toArray w.drew := run_firstCells_none w.drew i0.size 0 0 0
    have hrz : ∀ ty, (Builtin.append_ #[26, 3] ty #[.slice none 0 0, .int .i64 (n : Int)]).run Tryz.prog w =
        .ok (.slice (some ⟨w.heap.size, 0, none⟩) (0 + n) (grownCap w (0 + n) 0 9)) (w.drew.alloc (.cells (([] : List Value).toArray ++ Builtin.zeroCells (Value.string ⟨#[]⟩).cells n ++ Builtin.zeroCells (Value.string ⟨#[]⟩).cells (grownCap w (0 + n) 0 9 - (0 + n))) 9)) := fun ty =>
      Lib.run_append_grow_zeros w 26 3 ty 9 i0 (.string ⟨#[]⟩) .i64 .i64 Tryz.underlying26 Tryz.underlying3 hi hz0 none 0 0 [] hold n (by omega) (by rw [hz1]; decide) (by omega) (by omega) (by rw [hz2]; omega) (growslice_fits (by omega) (by rw [hz2]; omega))
    have hG1 := grownCap_ge w (0 + n) 0 9
    have hG2 := grownCap_le_maxLen w (0 + n) 0 9 (by unfold maxLen; omega)
    obtain ⟨G, hG⟩ : ∃ G, G = grownCap w (0 + n) 0 9 := ⟨_, rfl⟩
    rw [← hG] at hG1 hG2
    simp only [← hG] at hrz
    obtain ⟨cs, hcs⟩ : ∃ cs, cs = ([] : List Value).toArray ++ Builtin.zeroCells (Value.string ⟨#[]⟩).cells n ++ Builtin.zeroCells (Value.string ⟨#[]⟩).cells (G - (0 + n)) := ⟨_, rfl⟩
    have hsz : cs.size = G := by
      have z1 : (Value.string ⟨#[]⟩).cells.size = 1 := rfl
      rw [hcs, Array.size_append, Array.size_append, size_zeroCells, size_zeroCells, z1]
      simp; omega
    simp only [← hcs] at hrz
    have hbl : Below w.heap.size w (w.drew.alloc (.cells cs 9)) := (Below.refl _ _).drew.alloc (Nat.le_refl _) _
    have hown : OwnVs w.heap.size 9 (w.drew.alloc (.cells cs 9)) (.slice (some ⟨w.heap.size, 0, none⟩) 0 G) [] :=
      ⟨by simp, .inr ⟨w.heap.size, G, cs, rfl, Nat.le_refl _, heap_alloc_new w.drew _, Nat.zero_le _, hG2, by simpa using hsz, by simp⟩⟩
    have HF := Lib.hid (And.intro hown hbl)
    have hG63 : G ≤ 9223372036854775807 := hG2
    clear hown hbl hsz hcs hG hG2 hold
    go_enter Tryz.func72, Tryz.ntmps72
    go_wp2_with (at_builtin; refine Lib.wpList_append_run _ rfl _ _ _ _ rfl _ _ rfl rfl _ _ (hrz _) ?_)
    all_goals (go_ret; exact ⟨_, rfl, HF.out.1, HF.out.2⟩)
end Go.Proofs.YtkbcbikilgcckaaGreatDoor
namespace Go.Proofs.YtkbcbikilgcckaaGreatDoor
open Go.ChangeShapes Go.WideShapes Go.ChangeAt Go.RowKit Go.IntWalk
set_option linter.unusedVariables false
set_option maxRecDepth 100000

theorem OwnVs.grown' {base : Nat} {E : TypeId} {w0 w w' : World} {v : Value} {vs : List Value} (hb : Below base w0 w) (h : OwnVs base E w v vs) (hg : w.grownBy w' v.ownBlock) (hw : base ≤ w.heap.size) : Below base w0 w' := by
  refine ⟨hg.os.trans hb.os, hg.tape.trans hb.tape, hg.output.trans hb.output, Nat.le_trans hb.size hg.size, fun k hk => ?_⟩
  refine (hg.block k (Nat.lt_of_lt_of_le hk hw) (fun e => ?_)).trans (hb.block k hk)
  have := (h.lt k e.symm).1
  omega
theorem one_str (l : List (List UInt8)) : ∀ u ∈ l.map strV, u.oneCell' = true := by
  intro u hu
  obtain ⟨x, _, rfl⟩ := List.mem_map.1 hu
  rfl
def catK (xs ys : List (List UInt8)) (k : Nat) : List (List UInt8) := if k = 0 then [] else if k = 1 then xs else xs ++ ys
set_option maxHeartbeats 8000000 in
theorem concat_calls (b : Nat) (P U : Option Addr) (np cp nu cu : Nat) (xs ys : List (List UInt8)) (w : World) (hA : Blk w b 26 [.slice P np cp, .slice U nu cu]) (hP : RV w P (xs.map strV)) (hU : RV w U (ys.map strV)) (hnp : np = xs.length) (hnu : nu = ys.length) (h1 : np ≤ 1000000) (h2 : nu ≤ 1000000) :
    Calls Tryz.prog 42 #[.slice (some ⟨b, 0, none⟩) 2 2] w fun e w' => ∃ v, e = .returned v ∧ OwnVs w.heap.size 9 w' v ((xs ++ ys).map strV) ∧ Below w.heap.size w w' := by
  have c0 := hA.cell (k := 0) rfl
  have c1 := hA.cell (k := 1) rfl
  have HA := Lib.hid hA
  have HP := Lib.hid hP
  have HU := Lib.hid hU
  have HN := Lib.hid (And.intro hnp hnu)
  have hblt := hA.lt
  clear hA hP hU hnp hnu
  go_enter Tryz.func42, Tryz.ntmps42
  go_wp2_with fail
  go_loopw [3, 11] (fun t i wr => ∃ k : Nat, k ≤ 2 ∧ i = .int .i64 (k : Int) ∧ t = .int .i64 ((if k = 0 then 0 else if k = 1 then np else np + nu : Nat) : Int) ∧ w = wr) (fun _ i _ => 2 - (intOf i).toNat)
  case atStart => exact ⟨0, by decide, rfl, rfl, rfl⟩
  case round =>
    obtain ⟨k, hk, rfl, rfl, rfl⟩ := hrel
    rcases (show k = 0 ∨ k = 1 ∨ k = 2 by omega) with rfl | rfl | rfl
    · have a1 : ¬ ((np : Int) < 0) := by omega
      go_wp2_with fail
      exact ⟨⟨1, by decide, by go_num, by simp, trivial⟩, by decide⟩
    · have a1 : ¬ ((np : Int) + (nu : Int) < 0) := by omega
      have a2 : wrap64 ((np : Int) + (nu : Int)) = (np : Int) + (nu : Int) := wrap64_in _ (by omega)
      go_wp2_with fail
      exact ⟨⟨2, by decide, by go_num, by simp, trivial⟩, by decide⟩
    · have HG := Lib.hid (growT_calls (np + nu) (by omega) w)
      clear c0 c1
      rw [show (if 2 = 0 then 0 else if 2 = 1 then np else np + nu : Nat) = np + nu from rfl] at *
      go_wp2_with fail
      refine HG.out.mono ?_
      rintro e w1 ⟨v0, rfl, ho, hb⟩
      have H1 := Lib.hid (And.intro ho hb)
      clear HG ho hb
      go_wp2_with fail
      go_loopw [6, 27] (fun o i wr1 => ∃ (k : Nat) (v : Value), k ≤ 2 ∧ v = o ∧ i = .int .i64 (k : Int) ∧ Hid (OwnVs w.heap.size 9 wr1 v ((catK xs ys k).map strV) ∧ Below w.heap.size w wr1)) (fun _ i _ => 2 - (intOf i).toNat)
      case atStart => exact ⟨0, v0, by decide, rfl, rfl, Lib.hid H1.out⟩
      case round =>
        obtain ⟨k, v, hk, rfl, rfl, HO⟩ := hrel
        have hA2 := HA.out.later HO.out.2
        have hr := Nat.lt_of_lt_of_le hblt HO.out.2.size
        rcases (show k = 0 ∨ k = 1 ∨ k = 2 by omega) with rfl | rfl | rfl
        · have c0 := hA2.cell (k := 0) rfl
          have hrv := HP.out.below HO.out.2
          clear hA2
          go_wp2_with (refine wpList_append_vs rfl (.tmp 31) (.tmp 32) 26 9 Tryz.underlying26 infoStr rfl rfl w.heap.size _ _ rfl HO.out.1 P np cp _ rfl hrv (Lib.hid (by rw [List.length_map]; exact HN.out.1)) (one_str _) (by simp [catK, maxLen]; omega) (by simp [catK]; omega) HO.out.2.size ?_; intro v2 w3 o2 g2)
          exact ⟨⟨1, v2, by decide, rfl, by go_num, Lib.hid ⟨by simpa [catK] using o2, OwnVs.grown' HO.out.2 HO.out.1 g2 HO.out.2.size⟩⟩, by decide⟩
        · have c1 := hA2.cell (k := 1) rfl
          have hrv := HU.out.below HO.out.2
          clear hA2
          go_wp2_with (refine wpList_append_vs rfl (.tmp 31) (.tmp 32) 26 9 Tryz.underlying26 infoStr rfl rfl w.heap.size _ _ rfl HO.out.1 U nu cu _ rfl hrv (Lib.hid (by rw [List.length_map]; exact HN.out.2)) (one_str _) (by have := HN.out.1; simp [catK, maxLen]; omega) (by have := HN.out.1; simp [catK]; omega) HO.out.2.size ?_; intro v2 w3 o2 g2)
          exact ⟨⟨2, v2, by decide, rfl, by go_num, Lib.hid ⟨by simpa [catK] using o2, OwnVs.grown' HO.out.2 HO.out.1 g2 HO.out.2.size⟩⟩, by decide⟩
        · go_wp2_with fail
          go_ret
          exact ⟨_, rfl, by simpa [catK] using HO.out.1, HO.out.2⟩
/-- Every text is short. -/
def Smal (e : Ev) : Prop := (e.rm.length ≤ 1000000 ∧ e.sd.length ≤ 1000000 ∧ e.ty.length ≤ 1000000 ∧ e.ky.length ≤ 1000000 ∧ e.hs.length ≤ 1000000) ∧ (e.pv.length ≤ 1000000 ∧ e.au.length ≤ 1000000) ∧ (∀ x ∈ e.pv ++ e.au, x.length ≤ 1000000) ∧ ∀ x ∈ e.sg, x.t.length ≤ 1000000 ∧ x.k.length ≤ 1000000 ∧ x.i.length ≤ 1000000
set_option maxHeartbeats 8000000 in
theorem evnamed_calls (e : Ev) (a : Ea) (w : World) (hm : Max w) (he : EOk w e a) (hs : Smal e) : Calls Tryz.prog 24 #[.agg (evC e a).toArray] w (TellP (namedP e) w) := by
  have HE := Lib.hid he
  have HM := Lib.hid hm
  have HS := Lib.hid hs
  obtain ⟨W2, hW2⟩ : ∃ x, x = (w.alloc (.cells (evC e a).toArray 29)).alloc (.cells #[.slice a.P a.np a.cp, .slice a.U a.nu a.cu] 26) := ⟨_, rfl⟩
  have hb1 : Below w.heap.size w (w.alloc (.cells (evC e a).toArray 29)) := (Below.refl _ _).alloc (Nat.le_refl _) _
  have hb2 : Below w.heap.size w W2 := by rw [hW2]; exact hb1.alloc (by simp) _
  have hx0 : Blk (w.alloc (.cells (evC e a).toArray 29)) w.heap.size 29 (evC e a) := Blk.new w (evC e a) 29
  have hx : Blk W2 w.heap.size 29 (evC e a) := by rw [hW2]; exact hx0.alloc _
  have hy : Blk W2 (w.heap.size + 1) 26 [.slice a.P a.np a.cp, .slice a.U a.nu a.cu] := by
    rw [hW2]
    have := Blk.new (w.alloc (.cells (evC e a).toArray 29)) [.slice a.P a.np a.cp, .slice a.U a.nu a.cu] 26
    simpa using this
  have HB := Lib.hid hb2
  have HX := Lib.hid hx
  have HC := Lib.hid (concat_calls (w.heap.size + 1) a.P a.U a.np a.cp a.nu a.cu e.pv e.au W2 hy (he.2.1.1.below hb2) (he.2.2.1.1.below hb2) he.2.1.2.1.out he.2.2.1.2.1.out (by rw [he.2.1.2.1.out]; exact hs.2.1.1) (by rw [he.2.2.1.2.1.out]; exact hs.2.1.2))
  have d11 := hx0.cell (k := 11) rfl
  have d12 := hx0.cell (k := 12) rfl
  clear he hm hs hb1 hb2 hx hy hx0
  go_enter Tryz.func24, Tryz.ntmps24
  go_wp2_with fail
  rw [← hW2]
  clear d11 d12 hW2
  refine HC.out.mono ?_
  rintro en w3 ⟨v, rfl, ho, hb⟩
  obtain ⟨A, n, c, rfl, hr, hn, hnc⟩ := ho.form
  have hnl : n ≤ 140737488355328 := by
    have := hn.out
    have h1 := HS.out.2.1.1
    have h2 := HS.out.2.1.2
    simp at this; omega
  have HR := Lib.hid (And.intro hr hn.out)
  have H3 := Lib.hid (And.intro (HB.out.then_ hb) (HX.out.later hb))
  clear ho hr hn hb HC HB HX
  go_wp2_with fail
  go_loopw [12] (fun i wr => ∃ k : Nat, k ≤ n ∧ i = .int .i64 (k : Int) ∧ Hid (Below w3.heap.size w3 wr ∧ ∀ x ∈ (e.pv ++ e.au).take k, evF x = true)) (fun i _ => n - (intOf i).toNat)
  case atStart => exact ⟨0, Nat.zero_le _, rfl, Lib.hid ⟨Below.refl _ _, by simp⟩⟩
  case round =>
    obtain ⟨k, hk, rfl, HK⟩ := hrel
    by_cases hp : k < n
    · have hkx : k < (e.pv ++ e.au).length := by have := HR.out.2; simp at this ⊢; omega
      have hgx := List.getElem?_eq_getElem hkx
      have hmx := List.getElem_mem hkx
      obtain ⟨x, hxx⟩ : ∃ x, (e.pv ++ e.au)[k] = x := ⟨_, rfl⟩
      rw [hxx] at hgx hmx
      have hr := (HR.out.1.below HK.out.1) k (strV x) (by rw [List.getElem?_map, hgx]; rfl)
      obtain ⟨b, off, rfl, hb, hcc⟩ := hr
      have hcc : wr.cell? ⟨b, off + k, none⟩ = some (.string ⟨x.toArray⟩) := hcc
      have HQ := Lib.hid (event_calls ⟨x.toArray⟩ wr (by show x.length ≤ _; have := HS.out.2.2.1 x hmx; omega))
      obtain ⟨q, hq⟩ : ∃ q, evF x = q := ⟨_, rfl⟩
      have HQ : Hid (Calls Tryz.prog 43 #[.string ⟨x.toArray⟩] wr fun e w' => e = .returned (.bool q) ∧ Below wr.heap.size wr w') := by rw [← hq]; exact HQ
      have HT := Lib.hid (show q = true → ∀ y ∈ (e.pv ++ e.au).take (k + 1), evF y = true by
        intro h y hy
        rw [List.take_add_one, hgx] at hy
        rcases List.mem_append.1 hy with hy | hy
        · exact HK.out.2 y hy
        · have : y = x := by simpa using hy
          rw [this, hq, h])
      have HF := Lib.hid (show q = false → ¬ namedP e by
        intro h hh
        have := hh.1 x hmx
        rw [hq, h] at this; cases this)
      clear hq hxx hgx hmx hkx
      go_wp2_with fail
      refine HQ.out.mono ?_
      rintro en w4 ⟨rfl, hb4⟩
      have H4 := Lib.hid (HK.out.1.then_ hb4)
      clear hb4
      cases q with
      | true =>
        go_wp2_with fail
        exact ⟨⟨k + 1, by omega, by go_num, Lib.hid ⟨H4.out, HT.out trivial⟩⟩, by simp [intOf]; omega⟩
      | false =>
        go_wp2_with fail
        go_ret
        exact ⟨false, rfl, ⟨fun h => (by cases h), fun h => absurd h (HF.out trivial)⟩, H3.out.1.then_ H4.out⟩
    · obtain rfl : n = k := by omega
      have HALL := Lib.hid (show ∀ x ∈ e.pv ++ e.au, evF x = true by
        have := HK.out.2
        rw [HR.out.2, List.length_map, List.take_length] at this
        exact this)
      have hx := H3.out.2.later HK.out.1
      have d0 := hx.cell (k := 0) rfl
      have HX := Lib.hid hx
      have HB := Lib.hid (H3.out.1.then_ HK.out.1)
      have HQ := Lib.hid (Room_calls e.rm wr (HM.out.below (H3.out.1.then_ HK.out.1)) HS.out.1.1)
      obtain ⟨q, hq⟩ : ∃ q, roomF e.rm = q := ⟨_, rfl⟩
      rw [hq] at HQ
      have HQ1 := Lib.hid hq
      clear hx hq
      go_wp2_with fail
      refine HQ.out.mono ?_
      rintro en w4 ⟨rfl, hb4⟩
      have HX4 := Lib.hid (HX.out.later hb4)
      have H4 := Lib.hid (HB.out.then_ hb4)
      clear hb4 d0
      cases q with
      | false =>
        go_wp2_with fail
        go_ret
        exact ⟨false, rfl, ⟨fun h => (by cases h), fun h => (by have := h.2.1; rw [HQ1.out] at this; cases this)⟩, H4.out⟩
      | true =>
        have d1 := HX4.out.cell (k := 1) rfl
        have HU := Lib.hid (User_calls e.sd w4 (HM.out.below H4.out) HS.out.1.2.1)
        obtain ⟨q, hq⟩ : ∃ q, nUserF e.sd = q := ⟨_, rfl⟩
        rw [hq] at HU
        have HQ2 := Lib.hid hq
        clear hq
        go_wp2_with fail
        refine HU.out.mono ?_
        rintro en w5 ⟨rfl, hb5⟩
        have H5 := Lib.hid (H4.out.then_ hb5)
        clear hb5 d1
        go_wp2_with fail
        go_ret
        exact ⟨q, rfl, ⟨fun h => ⟨HALL.out, HQ1.out, HQ2.out.trans h⟩, fun h => HQ2.out.symm.trans h.2.2⟩, H5.out⟩
end Go.Proofs.YtkbcbikilgcckaaGreatDoor
namespace Go.Proofs.YtkbcbikilgcckaaGreatDoor
open Go.ChangeShapes Go.WideShapes Go.ChangeAt Go.RowKit Go.IntWalk
set_option linter.unusedVariables false

structure Nx (w w' : World) (g : Nat) (v v' : Value) : Prop where
  os : w'.os = w.os
  tape : w'.tape = w.tape
  output : w'.output = w.output
  size : w.heap.size ≤ w'.heap.size
  block : ∀ k, k < w.heap.size → k ≠ g → v.ownBlock ≠ some k → w'.heap[k]? = w.heap[k]?
  own : v'.ownBlock = v.ownBlock ∨ v'.ownBlock = none ∨ ∃ k, v'.ownBlock = some k ∧ w.heap.size ≤ k
section
variable {w w1 w2 : World} {g base : Nat} {v v1 v2 : Value}
theorem Nx.refl (w : World) (g : Nat) (v : Value) : Nx w w g v v := ⟨rfl, rfl, rfl, Nat.le_refl _, fun _ _ _ _ => rfl, .inl rfl⟩
theorem Nx.trans (h : Nx w w1 g v v1) (h2 : Nx w1 w2 g v1 v2) : Nx w w2 g v v2 := by
  refine ⟨h2.os.trans h.os, h2.tape.trans h.tape, h2.output.trans h.output, Nat.le_trans h.size h2.size, fun k hk hg ho => ?_, ?_⟩
  · refine (h2.block k (Nat.lt_of_lt_of_le hk h.size) hg ?_).trans (h.block k hk hg ho)
    rcases h.own with e | e | ⟨j, e, hj⟩
    · rw [e]; exact ho
    · rw [e]; simp
    · rw [e]; simp; omega
  · rcases h2.own with e | e | ⟨j, e, hj⟩
    · rw [e]; exact h.own
    · exact .inr (.inl e)
    · exact .inr (.inr ⟨j, e, Nat.le_trans h.size hj⟩)
theorem Nx.of_gb (h : w.grownBy w1 (some g)) : Nx w w1 g v v := ⟨h.os, h.tape, h.output, h.size, fun k hk hg _ => h.block k hk (by simpa using hg), .inl rfl⟩
theorem Nx.of_below (h : Below w.heap.size w w1) : Nx w w1 g v v := ⟨h.os, h.tape, h.output, h.size, fun k hk _ _ => h.block k hk, .inl rfl⟩
/-- Another's memory stays. -/
theorem Nx.blk (h : Nx w w1 g v v1) {m : Nat} {T : TypeId} {cs : List Value} (hb : Blk w m T cs) (hg : m ≠ g) (ho : v.ownBlock ≠ some m) : Blk w1 m T cs := (h.block m hb.lt hg ho).trans hb
theorem Nx.below {a : World} {B : Nat} (h : Nx w w1 g v v1) (hb : Below B a w) (hB : B ≤ g) (hw : B ≤ w.heap.size) (ho : ∀ k, v.ownBlock = some k → B ≤ k) : Below B a w1 :=
  ⟨h.os.trans hb.os, h.tape.trans hb.tape, h.output.trans hb.output, Nat.le_trans hb.size h.size, fun k hk => (h.block k (by omega) (by omega) (fun e => by have := ho k e; omega)).trans (hb.block k hk)⟩
theorem Nx.own_same {w w1 : World} {g : Nat} {v v' : Value} (h : Nx w w1 g v v) (e : v'.ownBlock = v.ownBlock) : Nx w w1 g v v' := ⟨h.os, h.tape, h.output, h.size, h.block, .inl e⟩
theorem Nx.own_turn {w w1 : World} {g : Nat} {v v' : Value} (h : w.grownBy w1 v.ownBlock) (e : v'.ownBlock = v.ownBlock ∨ v'.ownBlock = none ∨ ∃ k, v'.ownBlock = some k ∧ w.heap.size ≤ k) : Nx w w1 g v v' :=
  ⟨h.os, h.tape, h.output, h.size, fun k hk _ ho => h.block k hk (fun e => ho e.symm), e⟩
theorem own_slice (A : Option Addr) (n m cap : Nat) : (Value.slice A n cap).ownBlock = (Value.slice A m cap).ownBlock := by cases A <;> rfl
/-- The bytes' own memory stays, when another block alone turns. -/
theorem OwnF.gb {bs : List UInt8} (h : OwnF base w v bs) (hg : w.grownBy w1 (some g)) (hne : v.ownBlock ≠ some g) : OwnF base w1 v bs :=
  h.stay fun k hk => hg.block k (h.lt k hk).2 (by rw [← hk]; exact hne)
end
end Go.Proofs.YtkbcbikilgcckaaGreatDoor
namespace Go.Proofs.YtkbcbikilgcckaaGreatDoor
open Go.ChangeShapes Go.WideShapes Go.ChangeAt Go.RowKit Go.IntWalk
set_option linter.unusedVariables false

/-- What is given up with. -/
def flt (x : Int) : List PanicEntry := [{ v := .iface 90 (.agg #[.int .i64 x]), recovered := false }]
theorem giveUp_calls (x : Int) (w : World) : Calls Tryz.prog 109 #[.int .i64 x] w fun e w' => e = .panicked (flt x) ∧ w = w' := by
  go_enter Tryz.func109, Tryz.ntmps109
  go_wp2
  exact ⟨rfl, rfl, rfl⟩
/-- The writer at g, with its bytes. -/
def WSt (base : Nat) (w : World) (g : Nat) (v : Value) (bs : List UInt8) : Prop := OwnF base w v bs ∧ Blk w g 93 [v] ∧ v.ownBlock ≠ some g ∧ bs.length ≤ 65536
/-- How a call on the writer at g ends. -/
def WEnd (base g : Nat) (w : World) (v : Value) (r : Res) (e : Ending) (w' : World) : Prop :=
  match r with
  | .ok b => e = .returned (.tuple #[]) ∧ ∃ v', WSt base w' g v' b ∧ Nx w w' g v v'
  | .error x => e = .panicked (flt x) ∧ ∃ v', Nx w w' g v v'
section
variable {base g : Nat} {w w1 w2 : World} {v v1 : Value} {bs : List UInt8}
theorem WSt.lt (h : WSt base w g v bs) : g < w.heap.size := h.2.1.lt
theorem WSt.below (h : WSt base w g v bs) (b : Below w.heap.size w w1) : WSt base w1 g v bs := ⟨h.1.below b, h.2.1.later b, h.2.2⟩
theorem WSt.own (h : WSt base w g v bs) (k : Nat) (hk : v.ownBlock = some k) : base ≤ k ∧ k < w.heap.size := h.1.lt k hk
theorem WEnd.ok {r : Res} {b : List UInt8} (hr : r = .ok b) {v' : Value} (h1 : WSt base w1 g v' b) (h2 : Nx w w1 g v v') : WEnd base g w v r (.returned (.tuple #[])) w1 := by
  rw [hr]; exact ⟨rfl, v', h1, h2⟩
theorem WEnd.bad {r : Res} {x : Int} (hr : r = .error x) {v' : Value} (h2 : Nx w w1 g v v') : WEnd base g w v r (.panicked (flt x)) w1 := by
  rw [hr]; exact ⟨rfl, v', h2⟩
theorem WEnd.of_ok {r : Res} {b : List UInt8} (hr : r = .ok b) {e : Ending} (h : WEnd base g w v r e w1) : e = .returned (.tuple #[]) ∧ ∃ v', WSt base w1 g v' b ∧ Nx w w1 g v v' := by
  rw [hr] at h; exact h
theorem WEnd.of_bad {r : Res} {x : Int} (hr : r = .error x) {e : Ending} (h : WEnd base g w v r e w1) : e = .panicked (flt x) ∧ ∃ v', Nx w w1 g v v' := by
  rw [hr] at h; exact h
end
set_option maxHeartbeats 2000000 in
theorem put_w (base g : Nat) (v : Value) (b l : List UInt8) (w : World) (h : WSt base w g v b) (hB : base ≤ w.heap.size) (hl : l.length ≤ 70368744000000) :
    Calls Tryz.prog 110 #[.pointer (some ⟨g, 0, none⟩), .string ⟨l.toArray⟩] w (WEnd base g w v (lng (b ++ l))) := by
  have c0 : w.cell? ⟨g, 0, none⟩ = some v := h.2.1.cell rfl
  have f0 : w.frozen? ⟨g, 0, none⟩ = false := h.2.1.frozen _
  have HP := Lib.hid h
  have hbl := h.2.2.2
  clear h
  have hlt := HP.out.lt
  by_cases h6 : (b ++ l).length ≤ 65536
  all_goals
    have HR := Lib.hid h6
    go_enter Tryz.func110, Tryz.ntmps110
    go_wp2_with (at_builtin; refine wpList_append_text rfl _ _ rfl base v b rfl HP.out.1 l rfl (by omega) hB ?_; intro v1 w1 own1 gb1 ch1; obtain ⟨A1, n1, cap1, rfl, _, hn1, hc1⟩ := own1.form; have b1 := HP.out.2.1.of_gb gb1 HP.out.2.2.1; have c1 := b1.cell (k := 0) rfl; have f1 := b1.frozen 0; have hd1 := (by first | exact lng_test hn1 HR.out | exact lng_test' hn1 HR.out : decide ((65536 : Int) < (n1 : Int)) = _); clear c0 f0 h6)
  · go_end0
    refine WEnd.ok (lng_ok HR.out) (v' := .slice A1 n1 cap1) ⟨own1.gb (gb_setCell w1 g _ _) (ne_of_turn HP.out.2.2.1 hlt ch1), b1.set_ 0 _, ne_of_turn HP.out.2.2.1 hlt ch1, HR.out⟩ (Nx.trans (Nx.own_turn gb1 ch1) (Nx.of_gb (gb_setCell w1 g _ _)))
  · refine (giveUp_calls _ _).mono ?_
    rintro e w2 ⟨rfl, rfl⟩
    go_wp2_with fail
    exact ⟨rfl, WEnd.bad (lng_bad HR.out) (Nx.trans (Nx.own_turn gb1 ch1) (Nx.of_gb (gb_setCell w1 g _ _)))⟩
set_option maxHeartbeats 2000000 in
theorem open_w (base g : Nat) (v : Value) (b l : List UInt8) (deep : Nat) (w : World) (h : WSt base w g v b) (hB : base ≤ w.heap.size) (hl : l.length ≤ 70368744000000) :
    Calls Tryz.prog 132 #[.pointer (some ⟨g, 0, none⟩), .string ⟨l.toArray⟩, .int .i64 (deep : Int)] w (WEnd base g w v (if 32 ≤ deep then .error 5 else lng (b ++ l))) := by
  by_cases hd : 32 ≤ deep
  · have HR := Lib.hid (show (if 32 ≤ deep then (.error 5 : Res) else lng (b ++ l)) = .error 5 by rw [if_pos hd])
    have hd1 : (32 : Int) ≤ (deep : Int) := by omega
    clear hd
    go_enter Tryz.func132, Tryz.ntmps132
    go_wp2_with fail
    refine (giveUp_calls _ _).mono ?_
    rintro e w2 ⟨rfl, rfl⟩
    go_wp2_with fail
    exact ⟨rfl, WEnd.bad rfl (Nx.refl _ _ v)⟩
  · have HR : (if 32 ≤ deep then (.error 5 : Res) else lng (b ++ l)) = lng (b ++ l) := by rw [if_neg hd]
    rw [HR]
    clear HR
    have hd1 : ¬ (32 : Int) ≤ (deep : Int) := by omega
    have HP := Lib.hid h
    have HC := put_w base g v b l w h hB hl
    have HN := Lib.hid hd
    clear h hd
    cases hr : lng (b ++ l) with
    | ok b1 =>
      have HR := Lib.hid hr
      rw [hr] at HC
      clear hr
      go_enter Tryz.func132, Tryz.ntmps132
      go_wp2_with fail
      refine HC.mono ?_
      rintro e w2 ⟨rfl, v2, h2, n2⟩
      go_wp2_with fail
      go_end0
      exact WEnd.ok rfl h2 n2
    | error x =>
      have HR := Lib.hid hr
      rw [hr] at HC
      clear hr
      go_enter Tryz.func132, Tryz.ntmps132
      go_wp2_with fail
      refine HC.mono ?_
      rintro e w2 ⟨rfl, v2, n2⟩
      go_wp2_with fail
      exact ⟨rfl, WEnd.bad rfl n2⟩
end Go.Proofs.YtkbcbikilgcckaaGreatDoor
namespace Go.Proofs.YtkbcbikilgcckaaGreatDoor
open Go.Lib
set_option linter.unusedVariables false

set_option maxHeartbeats 2000000 in
theorem dN (n b0 b1 b2 b3 : Nat) (h0 : 128 ≤ b0) (hn : ¬((decodeN n b0 b1 b2 b3).1 = 65533 ∧ (decodeN n b0 b1 b2 b3).2 = 1)) :
    128 ≤ (decodeN n b0 b1 b2 b3).1 ∧ ((decodeN n b0 b1 b2 b3).1 < 55296 ∨ 57344 ≤ (decodeN n b0 b1 b2 b3).1 ∧ (decodeN n b0 b1 b2 b3).1 ≤ 1114111) ∧
      (1 < (decodeN n b0 b1 b2 b3).2 → 128 ≤ b1) ∧ (2 < (decodeN n b0 b1 b2 b3).2 → 128 ≤ b2) ∧ (3 < (decodeN n b0 b1 b2 b3).2 → 128 ≤ b3) ∧ (decodeN n b0 b1 b2 b3).2 ≤ 4 := by
  revert hn
  unfold decodeN
  repeat' split
  all_goals (intro hn; simp only [] at hn ⊢; omega)

theorem escL_app (a b : List UInt8) : escL (a ++ b) = escL a ++ escL b := by unfold escL; rw [List.flatMap_append]
theorem escL_plain : ∀ m : List UInt8, (∀ c ∈ m, 128 ≤ c.toNat) → escL m = m
  | [], _ => rfl
  | c :: m, h => by
    have ih := escL_plain m fun x hx => h x (by simp [hx])
    unfold escL at *
    rw [List.flatMap_cons, ih, escB_plain c (h c (by simp))]
    rfl

/-- a rune of more than one byte -/
theorem rune_multi (b : UInt8) (t : List UInt8) (hb : 128 ≤ b.toNat) (hn : ¬ NoR (b :: t)) :
    128 ≤ (decodeL (b :: t)).1 ∧ (decodeL (b :: t)).1 ≤ 1114111 ∧ Utf8.valid ((decodeL (b :: t)).1 : Int) = true ∧ escL ((b :: t).take (decodeL (b :: t)).2) = encodeRune ((decodeL (b :: t)).1 : Int) := by
  have he := encode_decode (b :: t) (by simp) hn
  have hle := decodeL_le (b :: t) (by simp)
  have hr := decodeL_rune (b :: t)
  unfold NoR at hn
  rw [decodeL_N] at hn
  have h := dN _ _ _ _ _ hb hn
  have e : decodeL (b :: t) = decodeN (b :: t).length b.toNat ((b :: t).getD 1 0).toNat ((b :: t).getD 2 0).toNat ((b :: t).getD 3 0).toNat := decodeL_N _
  rw [← e] at h
  obtain ⟨h1, h2, h3, h4, h5, h6⟩ := h
  refine ⟨h1, hr, ?_, ?_⟩
  · rw [validRune_eq]
    unfold validRune
    rw [decide_eq_true_eq]
    omega
  · rw [he]
    apply escL_plain
    intro c hc
    obtain ⟨j, hj, rfl⟩ := List.getElem_of_mem hc
    have hj2 : j < (decodeL (b :: t)).2 := by rw [List.length_take] at hj; omega
    have hjl : j < (b :: t).length := by omega
    rw [List.getElem_take]
    have hg : ∀ i (hi : i < (b :: t).length), ((b :: t).getD i 0).toNat = ((b :: t)[i]).toNat := fun i hi => by
      rw [List.getD_eq_getElem?_getD, List.getElem?_eq_getElem hi]; rfl
    have : j = 0 ∨ j = 1 ∨ j = 2 ∨ j = 3 := by omega
    rcases this with rfl | rfl | rfl | rfl
    · exact hb
    · rw [← hg 1 hjl]; exact h3 hj2
    · rw [← hg 2 hjl]; exact h4 hj2
    · rw [← hg 3 hjl]; exact h5 hj2
theorem escL_take_rune (l : List UInt8) (k d : Nat) : escL (l.take (k + d)) = escL (l.take k) ++ escL ((l.drop k).take d) := by
  rw [List.take_add, escL_app]
end Go.Proofs.YtkbcbikilgcckaaGreatDoor
namespace Go.Proofs.YtkbcbikilgcckaaGreatDoor
open Go.ChangeShapes Go.WideShapes Go.ChangeAt Go.RowKit Go.IntWalk
set_option linter.unusedVariables false

theorem cells_rune (r : Int) : Lib.runeCells r = (Lib.encodeRune r).map fun c => Value.int .u8 c.toNat := by
  unfold Lib.runeCells Lib.encodeRune
  rw [List.map_map]
  apply List.map_congr_left
  intro x hx
  have h := Lib.encodeRuneZ_byte r x hx
  show Value.int .u8 x = Value.int .u8 (x.toNat.toUInt8.toNat : Nat)
  congr 1
  have : x.toNat.toUInt8.toNat = x.toNat % 256 := by simp [Nat.toUInt8]
  rw [this]; omega
theorem len_rune (r : Int) : (Lib.runeCells r).length = (Lib.encodeRune r).length := by rw [cells_rune, List.length_map]
theorem len_rune4 (r : Int) : (Lib.encodeRune r).length ≤ 4 := by
  have := (Lib.encodeRuneZ_length r).2
  unfold Lib.encodeRune; rw [List.length_map]; exact this

theorem appendRune_own (base : Nat) (v : Value) (bs : List UInt8) (r : Nat) (hr : r ≤ 1114111) (w : World) (hown : OwnBs base w v bs) (hlen : bs.length ≤ 70368744177664) (hb : base ≤ w.heap.size) :
    Calls Tryz.prog 138 #[v, .int .i32 r] w fun e w' => ∃ v', e = .returned v' ∧ OwnBs base w' v' (bs ++ Lib.encodeRune (r : Int)) ∧ w.grownBy w' v.ownBlock := by
  refine (Tryz.utf8_AppendRune_plain base v _ _ (r : Int) (by omega) (by omega) w hown (by omega) hb).mono ?_
  rintro e w' ⟨v', rfl, h1, o, h2⟩
  refine ⟨v', rfl, ?_, ⟨h2.os, h2.tape, h2.output, Nat.le_trans (by simp) h2.size, fun k hk hne => (h2.block k (by simp; omega) hne).trans (heap_alloc_old w _ hk)⟩⟩
  unfold OwnBs
  rw [cells_rune] at h1
  simpa using h1

def meantF (c : UInt8) : Int := Lib.indexByte [8, 12, 10, 13, 9] c
theorem meant_low (c : UInt8) (w : World) (h : c.toNat < 128) :
    Calls Tryz.prog 134 #[.string ⟨#[8, 12, 10, 13, 9]⟩, .int .i32 c.toNat] w fun e w' => e = .returned (.int .i64 (meantF c)) ∧ Below w.heap.size w w' := by
  refine (Tryz.strings_IndexRune_ascii ⟨#[8, 12, 10, 13, 9]⟩ c.toNat w (by omega) (by omega)).mono ?_
  rintro e w' ⟨rfl, rfl⟩
  refine ⟨?_, Below.refl _ _⟩
  have : ((c.toNat : Int).toNat.toUInt8) = c := by simp
  rw [this]
  rfl
theorem meant_high (r : Nat) (w : World) (h0 : 128 ≤ r) (h1 : r ≤ 1114111) (hv : Utf8.valid (r : Int) = true) :
    Calls Tryz.prog 134 #[.string ⟨#[8, 12, 10, 13, 9]⟩, .int .i32 r] w fun e w' => e = .returned (.int .i64 (-1)) ∧ Below w.heap.size w w' :=
  indexRune_hi [8, 12, 10, 13, 9] r w (by decide) (by decide) ⟨by omega, by omega⟩ hv
theorem meant_none (c : UInt8) (h : ¬ (c = 8 ∨ c = 9 ∨ c = 10 ∨ c = 12 ∨ c = 13)) : meantF c = -1 := by
  apply indexByte_none
  intro b hb hc
  subst hc
  simp only [List.mem_cons, List.not_mem_nil, or_false] at hb
  apply h
  rcases hb with h | h | h | h | h <;> simp [h]
end Go.Proofs.YtkbcbikilgcckaaGreatDoor
