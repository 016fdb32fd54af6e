/- Layers 4 and 6: texts put together (SoE SoF SoL). -/
import Derived.Test.YtkfdclnaaphdgaaDoorAid
import Derived.RangeFuncNested
import Derived.RangeFuncBound
import Derived.RangeFuncCalls
import Derived.RangeFuncLeaves
import Derived.RangeFuncBox
import Derived.Shelf.Abstract
import Derived.WalkKit
import Derived.OwnWalkIn
import Derived.TacticsInMore
import Derived.LoopNIn
import Derived.LoopIn
import Derived.Test.YtkfdclnaaphdgaaDoorSmA
import Derived.Test.YtkfdclnaaphdgaaDoorLh
import Derived.Deep.RegionHeld3
import Derived.Laws.Tables
import Derived.Laws.CopyOwn
namespace Go.Proofs.YtkfdclnaaphdgaaDoor.Sc
open Go.Proofs.YtkfdclnaaphdgaaDoor
open Go.ChangeShapes Go.WideShapes Go.ChangeAt Go.RowKit Go.IntWalk Go.Shelf
set_option linter.unusedVariables false
attribute [local go_sem] Oper.semAt_some

/-- What has come when k rounds are over. -/
def upto {α : Type} (f : Nat → α) (k : Nat) : List α := (List.range k).map f
theorem upto_succ {α : Type} (f : Nat → α) (k : Nat) : upto f (k + 1) = upto f k ++ [f k] := by simp [upto, List.range_succ]
theorem upto_length {α : Type} (f : Nat → α) (k : Nat) : (upto f k).length = k := by simp [upto]
/-- The k-th of them, from the end. -/
def backAt (bs : List UInt8) (k : Nat) : Nat × UInt8 := (bs.length - 1 - k, bs.getD (bs.length - 1 - k) 0)
theorem backAt_is (bs : List UInt8) (k m : Nat) (h : m + 1 + k = bs.length) : backAt bs k = (m, bs.getD m 0) := by
  unfold backAt
  rw [show bs.length - 1 - k = m by omega]
/-- What a round keeps: what lay below n₀, and the box of the slice. -/
def KB (n₀ Bs : Nat) (W W' : World) : Prop := Below n₀ W W' ∧ W'.heap[Bs]? = W.heap[Bs]?
theorem KB.trans {n₀ Bs : Nat} {A B C : World} (h : KB n₀ Bs A B) (k : KB n₀ Bs B C) : KB n₀ Bs A C := ⟨h.1.trans k.1, k.2.trans h.2⟩
theorem KB.book {n₀ Bs : Nat} {w : World} (hn : n₀ ≤ w.heap.size) (hB : Bs < w.heap.size) (W : World) (l : Nat) (o o' : Obj) (hl : w.heap.size ≤ l) (h : W.heap[l]? = some o) (h1 : o.isCells = false) (h2 : o.isWalk = false) : KB n₀ Bs W (W.putObj l o') :=
  ⟨belowK_b hn W l o o' hl h h1 h2, by simp [World.putObj, Array.getElem?_setIfInBounds]; omega⟩
set_option maxRecDepth 100000 in
set_option maxHeartbeats 2000000 in
/-- The closure, for every loop body that keeps what lay below n₀. -/
theorem back1_in (F : Fence) (n : Nat) (h7 : F.fn 101) (hro : F.round = none) (hn : 1 ≤ n) (l Bs n₀ : Nat) (A : Option Addr) (len cap : Nat) (bs : List UInt8) (hlen : Hid (len = bs.length)) (hreach : len ≤ 2 ^ 62)
    (hb : 0 < bs.length → ∃ b off, A = some ⟨b, off, none⟩ ∧ b < n₀) (J Jx : List (Nat × UInt8) → World → Prop)
    (hY : ∀ pre x W, J pre W → pre.length < bs.length → YieldAt F (n - 1) Tryd.prog l #[.int .i64 (x.1 : Int), .int .u8 (x.2.toNat : Int)] W fun e W' =>
      (e = .returned (.bool true) ∧ J (pre ++ [x]) W' ∧ KB n₀ Bs W W') ∨ (e = .returned (.bool false) ∧ Jx (pre ++ [x]) W'))
    (W : World) (hBs : W.cell? ⟨Bs, 0, none⟩ = some (.slice A len cap)) (hr : RB W A bs) (h0 : J [] W) :
    CallsIn F n Tryd.prog 101 #[.func (.yield l) #[] #[], .pointer (some ⟨Bs, 0, none⟩)] W fun e W' => (∃ v, e = .returned v) ∧
      ((∃ ys, ys = upto (backAt bs) bs.length ∧ J ys W') ∨ (∃ pre, (∃ k, k ≤ bs.length ∧ pre = upto (backAt bs) k) ∧ Jx pre W')) := by
  have HR := Lib.hid hr
  clear hr
  refine callsIn_of_wp Tryd.func101 rfl h7 ?_ hro
  simp only [Tryd.ntmps101, List.size_toArray, List.length_cons, List.length_nil, Nat.reduceAdd, Nat.reduceSub, Array.replicate_succ, Array.replicate_zero, List.push_toArray, List.append_toArray, List.nil_append, List.cons_append]
  obtain ⟨z0, hz0⟩ : ∃ z : Int, (len : Int) - 1 = z := ⟨_, rfl⟩
  have HZ0 := Lib.hid hz0
  have hw0 : IntKind.i64.wrap ((len : Int) - 1) = z0 := (IntWalk.i64_in _ (by omega)).trans hz0
  clear hz0
  gi_wp2
  gi_loopw [3] (fun i wr => ∃ (k m : Nat) (z : Int), m + k = bs.length ∧ Hid (z = (m : Int) - 1) ∧ i = .int .i64 z ∧ J (upto (backAt bs) k) wr ∧ KB n₀ Bs W wr) (fun i _ => (intOf i + 1).toNat)
  case atStart => exact ⟨0, bs.length, z0, by omega, Lib.hid (by rw [← hlen.out]; exact HZ0.out.symm), rfl, h0, Below.refl _ _, rfl⟩
  case round =>
    obtain ⟨k, m, z, hmk, hz, rfl, hJs, hnx⟩ := hrel
    have hBs2 := (World.cell?_of_block (a := ⟨Bs, 0, none⟩) hnx.2).trans hBs
    clear hw0 hBs h0
    by_cases hm : 0 < m
    · obtain ⟨q, rfl⟩ : ∃ q, m = q + 1 := ⟨m - 1, by omega⟩
      obtain rfl : z = (q : Int) := by have := hz.out; omega
      obtain ⟨b, off, rfl, hbn⟩ := hb (by omega)
      obtain ⟨b', off', e, hbl, hcell⟩ := HR.out q (by omega)
      injection e with e
      injection e with e1 e2
      subst e1; subst e2
      have hc2 := (hnx.1.cell (p := ⟨b, off + q, none⟩) hbn).trans hcell
      obtain ⟨fn, tmps, assign, body, hy, hR⟩ := hY _ (backAt bs k) wr hJs (by rw [upto_length]; omega)
      rw [backAt_is bs k q (by omega)] at hy
      dsimp only at hy
      obtain ⟨c, hc⟩ : ∃ c, bs.getD q 0 = c := ⟨_, rfl⟩
      rw [hc] at hc2 hy
      have i1 : (0 : Int) ≤ (q : Int) ∧ (q : Int) < (len : Int) := by rw [hlen.out]; omega
      have i0 : (0 : Int) ≤ (q : Int) := by omega
      obtain ⟨y, hyy⟩ : ∃ y : Int, (q : Int) - 1 = y := ⟨_, rfl⟩
      have HY := Lib.hid hyy
      have hwy : IntKind.i64.wrap ((q : Int) - 1) = y := (IntWalk.i64_in _ (by omega)).trans hyy
      clear hyy hcell hJs
      gi_wp2
      refine hR.mono ?_
      rintro e W3 (⟨rfl, hJ3, hk3⟩ | ⟨rfl, hJx3⟩)
      · gi_wp2
        go_roundw
        case rel => exact ⟨k + 1, q, y, by omega, Lib.hid HY.out.symm, rfl, by rw [upto_succ]; exact hJ3, hnx.trans hk3⟩
        case measure => simp [intOf]; have := HY.out; omega
      · gi_wp2
        refine bodyPost_ret (results_none rfl _ _ _) rfl ?_
        exact ⟨⟨_, rfl⟩, .inr ⟨_, ⟨k + 1, by omega, (upto_succ _ _).symm⟩, hJx3⟩⟩
    · obtain rfl : m = 0 := by omega
      have hz1 : z = -1 := by have := hz.out; omega
      subst hz1
      obtain rfl : k = bs.length := by omega
      gi_wp2
      go_end0
      exact ⟨⟨_, rfl⟩, .inl ⟨_, rfl, hJs⟩⟩
/-- slices.Backward(s): the slice value is boxed; the function value captures the box. -/
theorem backward_calls (A : Option Addr) (len cap : Nat) (w : World) :
    Calls Tryd.prog 89 #[.slice A len cap] w fun e w' => e = .returned (.func (.func 101) #[] #[.pointer (some ⟨w.heap.size, 0, none⟩)]) ∧ w' = w.alloc (.cells #[.slice A len cap] 25) := by
  go_enter Tryd.func89, Tryd.ntmps89
  go_wp2_with fail
  go_ret
  exact ⟨rfl, rfl⟩
/-- What slices.Backward hands back gives all bytes, from the last one on. -/
theorem back_stops (F : Fence) (n : Nat) (h7 : F.fn 101) (hro : F.round = none) (hn : 1 ≤ n) (Bs n₀ : Nat) (A : Option Addr) (len cap : Nat) (bs : List UInt8) (hlen : Hid (len = bs.length)) (hreach : len ≤ 2 ^ 62) (w : World)
    (hb : 0 < bs.length → ∃ b off, A = some ⟨b, off, none⟩ ∧ b < n₀) (hBn : Bs < w.heap.size) (hc : w.cell? ⟨Bs, 0, none⟩ = some (.slice A len cap)) (hr : RB w A bs) :
    SeqStopsK F n Tryd.prog 101 #[.pointer (some ⟨Bs, 0, none⟩)] (fun x : Nat × UInt8 => #[Value.int .i64 (x.1 : Int), Value.int .u8 (x.2.toNat : Int)]) (KB n₀ Bs) (fun ys => ys = upto (backAt bs) bs.length)
      (fun pre => ∃ k, k ≤ bs.length ∧ pre = upto (backAt bs) k) bs.length w := fun l J Jx W hW _ _ hY h0 =>
  back1_in F n h7 hro hn l Bs n₀ A len cap bs hlen hreach hb J Jx hY W ((hW.cell (p := ⟨Bs, 0, none⟩) hBn).trans hc) (hr.below hW) h0
end Go.Proofs.YtkfdclnaaphdgaaDoor.Sc
namespace Go.Proofs.YtkfdclnaaphdgaaDoor.Sc
open Go.Proofs.YtkfdclnaaphdgaaDoor
open Go.ChangeShapes Go.WideShapes Go.ChangeAt Go.RowKit Go.IntWalk Go.Shelf
set_option linter.unusedVariables false
attribute [local go_sem] Oper.semAt_some

def foldN (xs : List (Nat × UInt8)) : Nat := xs.foldl (fun r x => (256 * r + x.2.toNat) % LO) 0
theorem foldN_snoc (xs : List (Nat × UInt8)) (x : Nat × UInt8) : foldN (xs ++ [x]) = (256 * foldN xs + x.2.toNat) % LO := by simp [foldN]
theorem LO_pos : 0 < LO := by decide +kernel
theorem foldN_lt (xs : List (Nat × UInt8)) : foldN xs < LO := by
  rcases List.eq_nil_or_concat xs with rfl | ⟨ys, x, rfl⟩
  · exact LO_pos
  · rw [List.concat_eq_append, foldN_snoc]; exact Nat.mod_lt _ LO_pos
theorem foldN_upto (bs : List UInt8) : ∀ k, k ≤ bs.length → foldN (upto (backAt bs) k) = leN (bs.drop (bs.length - k)) % LO
  | 0, _ => by simp [upto, foldN, leN]
  | k + 1, h => by
    rw [upto_succ, foldN_snoc, foldN_upto bs k (by omega), backAt_is bs k (bs.length - 1 - k) (by omega)]
    have hd : bs.drop (bs.length - (k + 1)) = bs.getD (bs.length - 1 - k) 0 :: bs.drop (bs.length - k) := by
      rw [List.drop_eq_getElem_cons (by omega), show bs.length - (k + 1) + 1 = bs.length - k by omega]
      congr 1
      simp [List.getD, show bs.length - (k + 1) = bs.length - 1 - k by omega, List.getElem?_eq_getElem (show bs.length - 1 - k < bs.length by omega)]
    rw [hd]
    simp only [leN]
    rw [Nat.add_mod, Nat.mul_mod, Nat.mod_mod, ← Nat.mul_mod, ← Nat.add_mod, Nat.add_comm]
theorem calls_of_marks {P : Program} {f : FuncId} {fn : Func} {c : Code} {args : Array Value} {w : World} {R : Ending → World → Prop} (hf : P.funcs[f]? = some fn) (hb : fn.body = some c)
    (h : c.wp P (bodyPostM Fence.wide 9 P fn R) { tmps := args ++ Array.replicate (fn.ntmps - args.size) undef, defers := [] } w) : Calls P f args w R :=
  (callsIn_wide (n := 9)).1 (callsIn_of_wp_marks hf hb trivial (wpIn_wide.2 h) rfl)
theorem post_marks {P : Program} {fn : Func} {R : Ending → World → Prop} {tmps : Array Value} {D : Nat} {W : World} {v : Value} (hK : W.heap[D]? = some (.deferred (some [])))
    (hres : (results fn tmps).run P (W.putObj D (.deferred none)) = .ok v (W.putObj D (.deferred none))) (hR : R (.returned v) (W.putObj D (.deferred none))) :
    bodyPostM Fence.wide 9 P fn R .ret { tmps := tmps, defers := [{ target := .collected D, args := #[] }] } W :=
  ⟨by simp, .inl ⟨D, _, rfl, run_takeDeferred hK, v, hres, hR⟩⟩
def ReI (B Bs : Nat) (W3 : World) (xs : List (Nat × UInt8)) (W : World) : Prop :=
  (∃ a b c d : Nat, Blk W B 67 (nu [a, b, c, d]) ∧ IsW (V4 a b c d) (foldN xs)) ∧ KB B Bs W3 W
theorem ReI.own (B Bs S : Nat) (W3 : World) (hB : B < S) (hs : Bs < S) (h3 : B ≤ W3.heap.size) (h4 : Bs < W3.heap.size) : OwnFrom S (ReI B Bs W3) := by
  rintro xs W W' row ⟨⟨a, b, c, d, h1, h2⟩, h5⟩ hg hr
  refine ⟨⟨a, b, c, d, ?_, h2⟩, h5.1.grown hg (Nat.le_trans h3 h5.1.size) (fun k e => ?_), ?_⟩
  · exact (hg.block B h1.lt (fun e => by have := (hr B e.symm).1; omega)).trans h1
  · have := (hr k e).1; omega
  · have hsz := h5.1.size
    exact (hg.block Bs (by omega) (fun e => by have := (hr Bs e.symm).1; omega)).trans h5.2
set_option maxRecDepth 100000 in
set_option maxHeartbeats 4000000 in
theorem rest_calls (A : Option Addr) (len cap : Nat) (bs : List UInt8) (hlen : Hid (len = bs.length)) (hreach : len ≤ 2 ^ 62) (w : World) (hT : Tab w) (hr : RB w A bs) :
    Calls Tryd.prog 54 #[.slice A len cap] w (BPost (leN bs % LO) w) := by
  have H0 := Lib.hid (And.intro hT hr)
  clear hT hr
  refine calls_of_marks Tryd.func54 rfl ?_
  simp only [Tryd.ntmps54, List.size_toArray, List.length_cons, List.length_nil, Nat.reduceAdd, Nat.reduceSub, Array.replicate_succ, Array.replicate_zero, List.push_toArray, List.append_toArray, List.nil_append, List.cons_append]
  go_wp2_with fail
  refine (backward_calls A len cap _).mono ?_
  rintro e w3 ⟨rfl, rfl⟩
  have hal := alloc3 w (u8b (List.replicate 32 0)) (nu [0, 0, 0, 0]) [Value.slice A len cap] 22 67 25
  have HAL : Hid (_ ∧ _) := Lib.hid (And.intro hal.1 (And.intro hal.2.1 (And.intro hal.2.2.1 hal.2.2.2)))
  clear hal
  go_wp2_with fail
  refine wp_gen (fun W => Blk W w.heap.size 22 (u8b (List.replicate 32 0)) ∧ Blk W (w.heap.size + 1) 67 (nu [0, 0, 0, 0]) ∧ Blk W (w.heap.size + 1 + 1) 25 [Value.slice A len cap] ∧ Below w.heap.size w W) HAL.out ?_
  rintro W3 ⟨hz3, hn3, hs3, hb3⟩
  have hl3 := hs3.lt
  have hr3 := H0.out.2.below hb3
  have HB3 := Lib.hid hb3
  have HT3 := Lib.hid (H0.out.1.later hb3)
  have HZ3 := Lib.hid hz3
  clear HAL
  refine (wpIn_wide (n := 8)).1 (wpIn_rangeFunc_ownG (F := Fence.wide) (n := 8) rfl (by decide) (gf := 101) (lb := #[.pointer (some ⟨w.heap.size + 1 + 1, 0, none⟩)]) rfl trivial (enters_of Tryd.func101 (by kernel_rfl) rfl)
    (back_stops Fence.wide 7 trivial rfl (by decide) (w.heap.size + 1 + 1) (w.heap.size + 1) A len cap bs hlen hreach W3
      (fun h0 => by obtain ⟨x, o, e, hx⟩ := H0.out.2.some h0; exact ⟨x, o, e, by omega⟩) hl3 (hs3.cell rfl) hr3) (fun h k => h.trans k) (KB.book (by omega) hl3) (Below.refl _ _) (fun _ => rfl)
    (ReI (w.heap.size + 1) (w.heap.size + 1 + 1) W3) (fun _ _ _ => False) (ReI.own _ _ _ _ (by omega) hl3 (by omega) hl3) (fun _ _ _ _ _ hs _ _ => hs)
    ⟨⟨0, 0, 0, 0, hn3, ⟨0, 0, 0, 0, rfl, by decide, by decide, by decide, by decide, rfl⟩⟩, Below.refl _ _, rfl⟩
    (fun x => { tmps := #[.slice A len cap, undef, .pointer (some ⟨w.heap.size, 0, none⟩), .pointer (some ⟨w.heap.size + 1, 0, none⟩), undef, .int .u8 (x.2.toNat : Int), .slice A len cap, .func (.func 101) #[] #[.pointer (some ⟨w.heap.size + 1 + 1, 0, none⟩)], .int .i64 (x.1 : Int), .int .u8 (x.2.toNat : Int), undef, undef, undef, undef, undef], defers := [] }) ?assign ?body ?done ?stop)
  case assign =>
    intro l x W K hK
    gi_wp2
    exact hK
  case body =>
    rintro l pre x W ⟨⟨a, b, c, d, hB, hI⟩, hkb⟩ hlt
    have c0 := hB.cell (nu_at (k := 0) (n := a) rfl)
    have c1 := hB.cell (nu_at (k := 1) (n := b) rfl)
    have c2 := hB.cell (nu_at (k := 2) (n := c) rfl)
    have c3 := hB.cell (nu_at (k := 3) (n := d) rfl)
    have hI0 := hI
    unfold V4 at hI0
    have hTW : Tab W := ⟨fun j v hv => (hkb.1.cell (p := ⟨0, 0 + j, none⟩) (by show 0 < w.heap.size + 1; have := H0.out.1.2; omega)).trans (HT3.out.1 j v hv), by have := HT3.out.2; have := hkb.1.size; omega⟩
    have hpush := fun W' => pushed_calls (.agg #[.int .u64 (a : Int), .int .u64 (b : Int), .int .u64 (c : Int), .int .u64 (d : Int)]) (foldN pre) x.2.toNat hI0 (foldN_lt pre) x.2.toNat_lt W'
    gi_wp2
    refine ⟨trivial, ?_⟩
    refine (CallsIn.inRound l ((callsIn_wide (n := 5)).2 (hpush W hTW))).mono ?_
    rintro e W4 ⟨v4, rfl, hv4, b4⟩
    rw [← foldN_snoc] at hv4
    obtain ⟨a4, p4, q4, r4, rfl, h1, h2, h3, h4, hval⟩ := hv4
    have hB4 := hB.later b4
    have d0 := hB4.cell (nu_at (k := 0) (n := a) rfl)
    have d1 := hB4.cell (nu_at (k := 1) (n := b) rfl)
    have d2 := hB4.cell (nu_at (k := 2) (n := c) rfl)
    have d3 := hB4.cell (nu_at (k := 3) (n := d) rfl)
    have f0 := hB4.frozen 0
    have f1 := hB4.frozen 1
    have f2 := hB4.frozen 2
    have f3 := hB4.frozen 3
    have hE := (((hB4.set_ 0 (.int .u64 (a4 : Int))).set_ 1 (.int .u64 (p4 : Int))).set_ 2 (.int .u64 (q4 : Int))).set_ 3 (.int .u64 (r4 : Int))
    have hbW : Below (w.heap.size + 1) W W4 := b4.mono (by have := hB.lt; omega)
    have hbE : Below (w.heap.size + 1) W ((((W4.setCell ⟨w.heap.size + 1, 0, none⟩ (.int .u64 (a4 : Int))).setCell ⟨w.heap.size + 1, 1, none⟩ (.int .u64 (p4 : Int))).setCell ⟨w.heap.size + 1, 2, none⟩ (.int .u64 (q4 : Int))).setCell ⟨w.heap.size + 1, 3, none⟩ (.int .u64 (r4 : Int))) :=
      (((hbW.setCell (Nat.le_refl _) _).setCell (Nat.le_refl _) _).setCell (Nat.le_refl _) _).setCell (Nat.le_refl _) _
    have hbox : ((((W4.setCell ⟨w.heap.size + 1, 0, none⟩ (.int .u64 (a4 : Int))).setCell ⟨w.heap.size + 1, 1, none⟩ (.int .u64 (p4 : Int))).setCell ⟨w.heap.size + 1, 2, none⟩ (.int .u64 (q4 : Int))).setCell ⟨w.heap.size + 1, 3, none⟩ (.int .u64 (r4 : Int))).heap[w.heap.size + 1 + 1]? = W.heap[w.heap.size + 1 + 1]? := by
      have hlt2 : w.heap.size + 1 + 1 < W.heap.size := Nat.lt_of_lt_of_le hl3 hkb.1.size
      have := b4.block (w.heap.size + 1 + 1) hlt2
      rw [← this]
      simp [World.setCell, Array.getElem?_modify]
    have hkf : KeepsFrom W3.heap.size W ((((W4.setCell ⟨w.heap.size + 1, 0, none⟩ (.int .u64 (a4 : Int))).setCell ⟨w.heap.size + 1, 1, none⟩ (.int .u64 (p4 : Int))).setCell ⟨w.heap.size + 1, 2, none⟩ (.int .u64 (q4 : Int))).setCell ⟨w.heap.size + 1, 3, none⟩ (.int .u64 (r4 : Int))) :=
      (KeepsFrom.of_grownBy (gb_below b4 (row := none)) (fun j e => by cases e)).trans (((((KeepsOthers.setCell _ _ _).trans (KeepsOthers.setCell _ _ _)).trans (KeepsOthers.setCell _ _ _)).trans (KeepsOthers.setCell _ _ _)).from _)
    have HFIN : Hid (KeepsFrom W3.heap.size W ((((W4.setCell ⟨w.heap.size + 1, 0, none⟩ (.int .u64 (a4 : Int))).setCell ⟨w.heap.size + 1, 1, none⟩ (.int .u64 (p4 : Int))).setCell ⟨w.heap.size + 1, 2, none⟩ (.int .u64 (q4 : Int))).setCell ⟨w.heap.size + 1, 3, none⟩ (.int .u64 (r4 : Int))) ∧ KB (w.heap.size + 1) (w.heap.size + 1 + 1) W ((((W4.setCell ⟨w.heap.size + 1, 0, none⟩ (.int .u64 (a4 : Int))).setCell ⟨w.heap.size + 1, 1, none⟩ (.int .u64 (p4 : Int))).setCell ⟨w.heap.size + 1, 2, none⟩ (.int .u64 (q4 : Int))).setCell ⟨w.heap.size + 1, 3, none⟩ (.int .u64 (r4 : Int))) ∧ ReI (w.heap.size + 1) (w.heap.size + 1 + 1) W3 (pre ++ [x]) ((((W4.setCell ⟨w.heap.size + 1, 0, none⟩ (.int .u64 (a4 : Int))).setCell ⟨w.heap.size + 1, 1, none⟩ (.int .u64 (p4 : Int))).setCell ⟨w.heap.size + 1, 2, none⟩ (.int .u64 (q4 : Int))).setCell ⟨w.heap.size + 1, 3, none⟩ (.int .u64 (r4 : Int)))) :=
      Lib.hid ⟨hkf, ⟨hbE, hbox⟩, ⟨a4, p4, q4, r4, hE, ⟨a4, p4, q4, r4, rfl, h1, h2, h3, h4, hval⟩⟩, hkb.1.trans hbE, hbox.trans hkb.2⟩
    clear hkf hbE hbox hE hbW hval h1 h2 h3 h4 b4 hB4 hpush hI0 c0 c1 c2 c3
    unfold V4
    gi_wp2
    exact HFIN.out
  case done =>
    rintro D ys W hD rfl ⟨⟨a, b, c, d, hB, hI⟩, hkb⟩ hK
    have HR := Lib.hid hB.rng
    have HIW : Hid (IsW (.agg (nu [a, b, c, d]).toArray) (leN bs % LO)) := Lib.hid (by
      have := foldN_upto bs bs.length (Nat.le_refl _)
      rw [Nat.sub_self, List.drop_zero] at this
      rw [← this]; exact hI)
    have HS := Lib.hid (show (Tryd.prog.info? 67).map (·.size) = some (nu [a, b, c, d]).length from size4)
    obtain ⟨dv, hdv⟩ : ∃ q, nu [a, b, c, d] = q := ⟨_, rfl⟩
    rw [hdv] at HR HIW HS
    have HKB := Lib.hid hkb
    have HKD := Lib.hid hK
    clear hB hI hdv hkb hK
    go_wp2_with (refine wpList_load_mid rfl 67 _ rfl (w.heap.size + 1) 0 rfl dv _ HR.out Tryd.underlying67 rfl HS.out ?_)
    refine (bytes_calls _ _ HIW.out _).mono ?_
    rintro e w5 ⟨rfl, b5⟩
    have hl32 := leB_len 32 (leN bs % LO)
    have hz5 : Blk w5 w.heap.size 22 (u8b (List.replicate 32 0)) := ((HKB.out.1.block w.heap.size (by omega)).trans HZ3.out |> fun h => (Blk.later (g := w.heap.size) h b5))
    have HT5 := Lib.hid (hz5.there (n := (u8b (leB 32 (leN bs % LO))).toArray.size) (by simp [u8b_len, hl32]))
    have hz6 := hz5.setAll (vs := u8b (leB 32 (leN bs % LO))) (by simp [u8b_len, hl32])
    have HS5 := Lib.hid (show (Tryd.prog.info? 22).map (·.size) = some (u8b (leB 32 (leN bs % LO))).toArray.size by simpa using size32u _ hl32)
    have HO5 := Lib.hid (one8b (leB 32 (leN bs % LO)))
    have hDl : D < W.heap.size := (Array.getElem?_eq_some_iff.1 HKD.out).1
    have hDw : w.heap.size + 1 + 1 < D := by have := hl3; omega
    have hK5 : (w5.setCells w.heap.size 0 (u8b (leB 32 (leN bs % LO)))).heap[D]? = some (.deferred (some [])) := (blkOther (by omega) _ _ _).trans ((b5.block D hDl).trans HKD.out)
    have hb5 : Below w.heap.size w w5 := (HB3.out.trans (HKB.out.1.mono (by omega))).then_ b5
    have hb6 := blw_cells (Nat.le_refl _) (u8b (leB 32 (leN bs % LO))) 0 _ hb5
    have HF : Hid ((loadVar 22 ⟨w.heap.size, 0, none⟩).run Tryd.prog ((w5.setCells w.heap.size 0 (u8b (leB 32 (leN bs % LO)))).putObj D (.deferred none)) = .ok (.agg (u8b (leB 32 (leN bs % LO))).toArray) ((w5.setCells w.heap.size 0 (u8b (leB 32 (leN bs % LO)))).putObj D (.deferred none))) :=
      Lib.hid (Blk.load (show Blk _ w.heap.size 22 _ from (World.putObj_heap_other (by omega)).trans hz6) 22 Tryd.underlying22 rfl (size32u _ hl32))
    have HB6 : Hid (Below w.heap.size w ((w5.setCells w.heap.size 0 (u8b (leB 32 (leN bs % LO)))).putObj D (.deferred none))) := Lib.hid (hb6.trans (belowK_b (w := w) (Nat.le_refl _) _ D _ _ (by omega) hK5 rfl rfl))
    have HK5 := Lib.hid hK5
    unfold A32
    obtain ⟨rv, hrv⟩ : ∃ q, u8b (leB 32 (leN bs % LO)) = q := ⟨_, rfl⟩
    have HRV := Lib.hid hrv
    rw [hrv] at HT5 HS5 HO5 HF HB6 HK5 ⊢
    clear hz5 hz6 hK5 hb5 hb6 hrv b5 HR HIW HS
    go_wp2_with (refine wpList_store_mid rfl 22 _ _ rfl w.heap.size 0 rv.toArray rfl rfl HT5.out HS5.out HO5.out ?_)
    exact post_marks HK5.out (res_cell rfl _ _ _ _ rfl HF.out) ⟨by unfold A32; rw [HRV.out], HB6.out⟩
  case stop =>
    rintro D c pre W _ _ h _
    exact h.elim
end Go.Proofs.YtkfdclnaaphdgaaDoor.Sc
namespace Go.Proofs.YtkfdclnaaphdgaaDoor.Sc
open Go.Proofs.YtkfdclnaaphdgaaDoor
open Go.ChangeShapes Go.WideShapes Go.ChangeAt Go.RowKit Go.IntWalk
set_option linter.unusedVariables false
theorem rb_blk {w : World} {g : Nat} {bs : List UInt8} {T : TypeId} (h : Blk w g T (u8b bs)) : RB w (some ⟨g, 0, none⟩) bs := by
  intro k hk
  refine ⟨g, 0, rfl, h.lt, ?_⟩
  rw [Nat.zero_add]
  have := h.cell (u8b_at (List.getElem?_eq_getElem hk))
  rw [this]; simp [List.getD, hk]

def MaPost (s : Nat) (w : World) (e : Ending) (w' : World) : Prop := ∃ lo hi : Nat, e = .returned (.tuple #[.int .u64 (lo : Int), .int .u64 (hi : Int)]) ∧ lo < 2 ^ 64 ∧ hi < 2 ^ 64 ∧ lo + 2 ^ 64 * hi = s ∧ w' = w
set_option maxRecDepth 100000 in
set_option maxHeartbeats 4000000 in
theorem mulAdd_calls (a b c d : Nat) (ha : a < 2 ^ 64) (hb : b < 2 ^ 64) (hc : c < 2 ^ 64) (hd : d < 2 ^ 64) (w : World) :
    Calls Tryd.prog 55 #[.int .u64 (a : Int), .int .u64 (b : Int), .int .u64 (c : Int), .int .u64 (d : Int)] w (MaPost (a * b + c + d) w) := by
  have hab : a * b ≤ (2 ^ 64 - 1) * (2 ^ 64 - 1) := Nat.mul_le_mul (by omega) (by omega)
  have HM := Lib.hid (fun W => Tryd.bits_Mul64 a b ha hb W)
  generalize a * b = q at *
  obtain ⟨hi, hhi⟩ : ∃ x, q / 18446744073709551616 = x := ⟨_, rfl⟩
  obtain ⟨lo, hlo⟩ : ∃ x, q % 18446744073709551616 = x := ⟨_, rfl⟩
  have g1 : ∀ W : World, (callFunc 56 #[.int .u64 (lo : Int), .int .u64 (c : Int), .int .u64 0]).run Tryd.prog W = _ := fun W => add64_run lo c 0 (by omega) W
  obtain ⟨s1, hs1⟩ : ∃ s, (lo + c + 0) % 18446744073709551616 = s := ⟨_, rfl⟩
  obtain ⟨u1, hu1⟩ : ∃ c1, (lo + c + 0) / 18446744073709551616 = c1 := ⟨_, rfl⟩
  rw [hs1, hu1] at g1
  have g2 : ∀ W : World, (callFunc 56 #[.int .u64 (s1 : Int), .int .u64 (d : Int), .int .u64 0]).run Tryd.prog W = _ := fun W => add64_run s1 d 0 (by omega) W
  obtain ⟨s2, hs2⟩ : ∃ s, (s1 + d + 0) % 18446744073709551616 = s := ⟨_, rfl⟩
  obtain ⟨u2, hu2⟩ : ∃ c1, (s1 + d + 0) / 18446744073709551616 = c1 := ⟨_, rfl⟩
  rw [hs2, hu2] at g2
  have e1 : IntKind.u64.wrap ((hi : Int) + (u1 : Int)) = ((hi + u1 : Nat) : Int) := by rw [IntKind.wrap_u64]; omega
  have e2 : IntKind.u64.wrap (((hi + u1 : Nat) : Int) + (u2 : Int)) = ((hi + u1 + u2 : Nat) : Int) := by rw [IntKind.wrap_u64]; omega
  have HR : Hid (s2 < 2 ^ 64 ∧ hi + u1 + u2 < 2 ^ 64 ∧ s2 + 2 ^ 64 * (hi + u1 + u2) = q + c + d) := Lib.hid ⟨by omega, by omega, by omega⟩
  rw [hhi, hlo] at HM
  obtain ⟨hx, hhx⟩ : ∃ x, hi + u1 = x := ⟨_, rfl⟩
  rw [hhx] at e1 e2 HR
  obtain ⟨hy, hhy⟩ : ∃ x, hx + u2 = x := ⟨_, rfl⟩
  rw [hhy] at e2 HR
  clear hs1 hu1 hs2 hu2 hhi hlo hab ha hb hc hd hhx hhy
  go_enter Tryd.func55, Tryd.ntmps55
  go_wp2_with fail
  refine (HM.out _).mono ?_
  rintro e w2 ⟨rfl, rfl⟩
  go_wp2_with fail
  exact bodyPost_ret (v := .tuple #[.int .u64 (s2 : Int), .int .u64 (hy : Int)]) (by simp [results, Tryd.results55, go_sem]) rfl ⟨s2, hy, rfl, HR.out.1, HR.out.2.1, HR.out.2.2, rfl⟩
theorem valW_set2 : ∀ (l : List Nat) (i x old : Nat), l[i]? = some old → valW (l.set i x) + 2 ^ (64 * i) * old = valW l + 2 ^ (64 * i) * x
  | [], i, x, old, h => by simp at h
  | y :: l, 0, x, old, h => by
    simp at h; subst h
    simp only [List.set_cons_zero, valW, Nat.mul_zero, Nat.pow_zero, Nat.one_mul]; omega
  | y :: l, i + 1, x, old, h => by
    have ih := valW_set2 l i x old (by simpa using h)
    rw [List.set_cons_succ, valW, valW, show 64 * (i + 1) = 64 * i + 64 by omega, Nat.pow_add]
    have e1 : 2 ^ (64 * i) * 2 ^ 64 * old = 2 ^ 64 * (2 ^ (64 * i) * old) := by rw [Nat.mul_comm (2 ^ (64 * i)) (2 ^ 64), Nat.mul_assoc]
    have e2 : 2 ^ (64 * i) * 2 ^ 64 * x = 2 ^ 64 * (2 ^ (64 * i) * x) := by rw [Nat.mul_comm (2 ^ (64 * i)) (2 ^ 64), Nat.mul_assoc]
    rw [e1, e2]; omega
def RowM (V p up : Nat) (ss : List Nat) : Prop := ss.length = 8 ∧ (∀ x ∈ ss, x < 2 ^ 64) ∧ up < 2 ^ 64 ∧ valW ss + 2 ^ (64 * p) * up = V
theorem RowM.step {V p up s q lo hi : Nat} {ss : List Nat} (h : RowM V p up ss) (hs : ss[p]? = some s) (hlo : lo < 2 ^ 64) (hhi : hi < 2 ^ 64) (he : lo + 2 ^ 64 * hi = q + s + up) : RowM (V + 2 ^ (64 * p) * q) (p + 1) hi (ss.set p lo) := by
  obtain ⟨h1, h2, h3, h4⟩ := h
  refine ⟨by rw [List.length_set]; exact h1, fun x hx => ?_, hhi, ?_⟩
  · rcases List.mem_or_eq_of_mem_set hx with h | rfl
    · exact h2 x h
    · exact hlo
  · have h5 := valW_set2 ss p lo s hs
    have h6 : 2 ^ (64 * p) * lo + 2 ^ (64 * p) * (2 ^ 64 * hi) = 2 ^ (64 * p) * q + 2 ^ (64 * p) * s + 2 ^ (64 * p) * up := by rw [← Nat.mul_add, ← Nat.mul_add, ← Nat.mul_add, he]
    rw [show 64 * (p + 1) = 64 * p + 64 by omega, Nat.pow_add, Nat.mul_assoc]
    omega
theorem RowM.at {V p up q : Nat} {ss : List Nat} (h : RowM V p up ss) (hq : q < 8) : ∃ s, ss[q]? = some s ∧ s < 2 ^ 64 :=
  ⟨ss[q]'(by rw [h.1]; exact hq), List.getElem?_eq_getElem (by rw [h.1]; exact hq), h.2.1 _ (List.getElem_mem _)⟩
theorem RowM.over {V up : Nat} {ss : List Nat} (h : RowM V 8 up ss) (hV : V < 256 ^ 64) : up = 0 := by
  obtain ⟨_, _, _, h4⟩ := h
  rcases Nat.eq_zero_or_pos up with h | h
  · exact h
  · have e : 2 ^ (64 * 8) = 256 ^ 64 := by decide +kernel
    rw [e] at h4
    have : 256 ^ 64 * 1 ≤ 256 ^ 64 * up := Nat.mul_le_mul_left _ h
    omega
/-- Where products are gathered. -/
def MuS (w : World) (gx gy gs : Nat) (ma mb ss : List Nat) (wr : World) : Prop :=
  Blk wr gx 67 (nu ma) ∧ Blk wr gy 67 (nu mb) ∧ Blk wr gs 86 (nu ss) ∧ Blk wr (w.heap.size + 1 + 1 + 1) 22 (u8b (List.replicate 32 0)) ∧ Below w.heap.size w wr
theorem valW_take_le : ∀ (l : List Nat) (k : Nat), valW (l.take k) ≤ valW l
  | [], k => by simp
  | x :: l, 0 => by simp [valW]
  | x :: l, k + 1 => by
    have := valW_take_le l k
    simp only [List.take_succ_cons, valW]; omega
theorem valW_div : ∀ (l : List Nat) (j x : Nat), (∀ x ∈ l, x < 2 ^ 64) → l[j]? = some x → valW l / 2 ^ (64 * j) % 2 ^ 64 = x
  | [], j, x, _, h => by simp at h
  | y :: l, 0, x, hl, h => by
    simp at h; subst h
    have := hl y (List.mem_cons_self ..)
    simp only [valW, Nat.mul_zero, Nat.pow_zero, Nat.div_one]; omega
  | y :: l, j + 1, x, hl, h => by
    have ih := valW_div l j x (fun z hz => hl z (List.mem_cons_of_mem _ hz)) (by simpa using h)
    have hy := hl y (List.mem_cons_self ..)
    rw [show 64 * (j + 1) = 64 + 64 * j by omega, Nat.pow_add, ← Nat.div_div_eq_div_mul, valW, show (y + 2 ^ 64 * valW l) / 2 ^ 64 = valW l by omega]
    exact ih
theorem byte_word8 (ss : List Nat) (k j x : Nat) (hl : ∀ x ∈ ss, x < 2 ^ 64) (hj : k / 8 = j) (hx : ss[j]? = some x) :
    ((x / 2 ^ (8 * (k % 8)) % 256 : Nat) : Int) = ((byteF (valW ss) k).toNat : Int) := by
  have key : x / 2 ^ (8 * (k % 8)) % 256 = valW ss / 256 ^ k % 256 := by
    obtain ⟨r, hr⟩ : ∃ r, k % 8 = r := ⟨_, rfl⟩
    have e1 : (256 : Nat) ^ k = 2 ^ (64 * j) * 2 ^ (8 * r) := by rw [show (256 : Nat) = 2 ^ 8 from rfl, ← Nat.pow_mul, ← Nat.pow_add]; congr 1; omega
    rw [hr, e1, ← Nat.div_div_eq_div_mul, ← valW_div ss j x hl hx]
    generalize valW ss / 2 ^ (64 * j) = y
    have hr8 : r = 0 ∨ r = 1 ∨ r = 2 ∨ r = 3 ∨ r = 4 ∨ r = 5 ∨ r = 6 ∨ r = 7 := by omega
    rcases hr8 with rfl | rfl | rfl | rfl | rfl | rfl | rfl | rfl <;> omega
  rw [key]
  unfold byteF
  simp
def outG (N k : Nat) : List UInt8 := (leB 64 N).take k ++ List.replicate (64 - k) 0
theorem outG_step (N k : Nat) (hk : k < 64) : (outG N k).set k (byteF N k) = outG N (k + 1) := by
  unfold outG
  have hm : ((leB 64 N).take k).length = k := by rw [List.length_take, leB_len]; omega
  rw [List.set_append, hm, if_neg (by omega), Nat.sub_self, show 64 - k = (64 - (k + 1)) + 1 by omega, List.replicate_succ, List.set_cons_zero, List.take_add_one, leB_get 64 N k hk]
  simp
theorem outG_full (N : Nat) : outG N 64 = leB 64 N := by
  unfold outG
  rw [List.take_of_length_le (by rw [leB_len]; exact Nat.le_refl _)]; simp
theorem outG_zero (N : Nat) : outG N 0 = List.replicate 64 0 := by simp [outG]
theorem outG_len (N k : Nat) (hk : k ≤ 64) : (outG N k).length = 64 := by simp [outG, leB_len]; omega
theorem prod_lt (x y z : Nat) (hx : x < 256 ^ 32) (hy : y < 256 ^ 32) (hz : z < 256 ^ 32) : x * y + z < 256 ^ 64 := by
  have b5 : x * y ≤ (256 ^ 32 - 1) * (256 ^ 32 - 1) := Nat.mul_le_mul (by omega) (by omega)
  have b6 : (256 ^ 32 - 1) * (256 ^ 32 - 1) + 256 ^ 32 < 256 ^ 64 := by decide +kernel
  omega
theorem powmul (k j x y : Nat) : 2 ^ (64 * k) * (x * (2 ^ (64 * j) * y)) = 2 ^ (64 * (k + j)) * (x * y) := by
  rw [Nat.mul_left_comm x, ← Nat.mul_assoc, ← Nat.pow_add, Nat.mul_add]
theorem MuS.set_ {w wr : World} {gx gy gs : Nat} {ma mb ts : List Nat} (h : MuS w gx gy gs ma mb ts wr) (hn : gs ≠ gx ∧ gs ≠ gy ∧ gs ≠ w.heap.size + 1 + 1 + 1 ∧ gx ≠ gy ∧ w.heap.size ≤ gs) (p lo : Nat) :
    MuS w gx gy gs ma mb (ts.set p lo) (wr.setCell ⟨gs, p, none⟩ (.int .u64 (lo : Int))) :=
  ⟨h.1.other hn.1 _, h.2.1.other hn.2.1 _, by rw [← nu_set]; exact h.2.2.1.set_ p _, h.2.2.2.1.other hn.2.2.1 _, h.2.2.2.2.setCell hn.2.2.2.2 _⟩
theorem MuS.drewN {w wr : World} {gx gy gs : Nat} {ma mb ts : List Nat} (h : MuS w gx gy gs ma mb ts wr) (n : Nat) : MuS w gx gy gs ma mb ts (wr.drewN n) :=
  ⟨h.1.drewN n, h.2.1.drewN n, h.2.2.1.drewN n, h.2.2.2.1.drewN n, h.2.2.2.2.drewN n⟩
def AlS (w : World) (ga gs N : Nat) (ss : List Nat) (k : Nat) (wr : World) : Prop :=
  Blk wr ga 28 (u8b (outG N k)) ∧ Blk wr gs 86 (nu ss) ∧ Blk wr (w.heap.size + 1 + 1 + 1) 22 (u8b (List.replicate 32 0)) ∧ Below w.heap.size w wr
theorem AlS.step {w wr : World} {ga gs N k : Nat} {ss : List Nat} (h : AlS w ga gs N ss k wr) (hk : k < 64) (hn : ga ≠ gs ∧ ga ≠ w.heap.size + 1 + 1 + 1 ∧ w.heap.size ≤ ga) :
    AlS w ga gs N ss (k + 1) (wr.setCell ⟨ga, k, none⟩ (.int .u8 ((byteF N k).toNat : Int))) :=
  ⟨by rw [← outG_step N k hk, ← u8b_set]; exact h.1.set_ k _, h.2.1.other hn.1 _, h.2.2.1.other hn.2.1 _, h.2.2.2.setCell hn.2.2 _⟩
set_option maxRecDepth 100000 in
set_option maxHeartbeats 8000000 in
theorem mul_calls (xs ys zs : List UInt8) (ha : xs.length = 32) (hb : ys.length = 32) (hc : zs.length = 32) (w : World) (hT : Tab w) :
    Calls Tryd.prog 25 #[A32 xs, A32 ys, A32 zs] w (BPost ((leN xs * leN ys + leN zs) % LO) w) := by
  have HTT := Lib.hid hT
  have HNA := Lib.hid (numberOf_calls xs ha)
  have HNB := Lib.hid (numberOf_calls ys hb)
  have HNC := Lib.hid (numberOf_calls zs hc)
  have hsa := size32u xs ha
  have hsb := size32u ys hb
  have hsc := size32u zs hc
  unfold A32 at HNA HNB HNC ⊢
  obtain ⟨ca, hca⟩ : ∃ q, u8b xs = q := ⟨_, rfl⟩
  obtain ⟨cb, hcb⟩ : ∃ q, u8b ys = q := ⟨_, rfl⟩
  obtain ⟨cc, hcc⟩ : ∃ q, u8b zs = q := ⟨_, rfl⟩
  rw [hca] at hsa HNA ⊢
  rw [hcb] at hsb HNB ⊢
  rw [hcc] at hsc HNC ⊢
  clear hca hcb hcc
  go_enter Tryd.func25, Tryd.ntmps25
  go_wp2_with fail
  have hal := alloc3 w ca cb cc 22 22 22
  have hT1 := hT.later (Below.mono hal.2.2.2 (Nat.le_refl _))
  obtain ⟨w0, hw0⟩ : ∃ w1, ((w.alloc (.cells ca.toArray 22)).alloc (.cells cb.toArray 22)).alloc (.cells cc.toArray 22) = w1 := ⟨_, rfl⟩
  have hsz0 : w0.heap.size = w.heap.size + 1 + 1 + 1 := by rw [← hw0]; simp
  rw [hw0] at hal hT1 ⊢
  obtain ⟨i1a, i1b, i1c, ib1⟩ := hal
  have h1a := i1a.alloc (.cells #[.int .u8 0, .int .u8 0, .int .u8 0, .int .u8 0, .int .u8 0, .int .u8 0, .int .u8 0, .int .u8 0, .int .u8 0, .int .u8 0, .int .u8 0, .int .u8 0, .int .u8 0, .int .u8 0, .int .u8 0, .int .u8 0, .int .u8 0, .int .u8 0, .int .u8 0, .int .u8 0, .int .u8 0, .int .u8 0, .int .u8 0, .int .u8 0, .int .u8 0, .int .u8 0, .int .u8 0, .int .u8 0, .int .u8 0, .int .u8 0, .int .u8 0, .int .u8 0] 22)
  have h1b := i1b.alloc (.cells #[.int .u8 0, .int .u8 0, .int .u8 0, .int .u8 0, .int .u8 0, .int .u8 0, .int .u8 0, .int .u8 0, .int .u8 0, .int .u8 0, .int .u8 0, .int .u8 0, .int .u8 0, .int .u8 0, .int .u8 0, .int .u8 0, .int .u8 0, .int .u8 0, .int .u8 0, .int .u8 0, .int .u8 0, .int .u8 0, .int .u8 0, .int .u8 0, .int .u8 0, .int .u8 0, .int .u8 0, .int .u8 0, .int .u8 0, .int .u8 0, .int .u8 0, .int .u8 0] 22)
  have h1c := i1c.alloc (.cells #[.int .u8 0, .int .u8 0, .int .u8 0, .int .u8 0, .int .u8 0, .int .u8 0, .int .u8 0, .int .u8 0, .int .u8 0, .int .u8 0, .int .u8 0, .int .u8 0, .int .u8 0, .int .u8 0, .int .u8 0, .int .u8 0, .int .u8 0, .int .u8 0, .int .u8 0, .int .u8 0, .int .u8 0, .int .u8 0, .int .u8 0, .int .u8 0, .int .u8 0, .int .u8 0, .int .u8 0, .int .u8 0, .int .u8 0, .int .u8 0, .int .u8 0, .int .u8 0] 22)
  have h1r : Blk (w0.alloc (.cells #[.int .u8 0, .int .u8 0, .int .u8 0, .int .u8 0, .int .u8 0, .int .u8 0, .int .u8 0, .int .u8 0, .int .u8 0, .int .u8 0, .int .u8 0, .int .u8 0, .int .u8 0, .int .u8 0, .int .u8 0, .int .u8 0, .int .u8 0, .int .u8 0, .int .u8 0, .int .u8 0, .int .u8 0, .int .u8 0, .int .u8 0, .int .u8 0, .int .u8 0, .int .u8 0, .int .u8 0, .int .u8 0, .int .u8 0, .int .u8 0, .int .u8 0, .int .u8 0] 22)) w0.heap.size 22 (u8b (List.replicate 32 0)) := Blk.new _ _ _
  have hb1 : Below w.heap.size w (w0.alloc (.cells #[.int .u8 0, .int .u8 0, .int .u8 0, .int .u8 0, .int .u8 0, .int .u8 0, .int .u8 0, .int .u8 0, .int .u8 0, .int .u8 0, .int .u8 0, .int .u8 0, .int .u8 0, .int .u8 0, .int .u8 0, .int .u8 0, .int .u8 0, .int .u8 0, .int .u8 0, .int .u8 0, .int .u8 0, .int .u8 0, .int .u8 0, .int .u8 0, .int .u8 0, .int .u8 0, .int .u8 0, .int .u8 0, .int .u8 0, .int .u8 0, .int .u8 0, .int .u8 0] 22)) := Below.alloc (Below.mono ib1 (Nat.le_refl _)) (by omega) _
  have hT2 := hT1.later (Below.alloc (Below.refl w0.heap.size w0) (Nat.le_refl _) (.cells #[.int .u8 0, .int .u8 0, .int .u8 0, .int .u8 0, .int .u8 0, .int .u8 0, .int .u8 0, .int .u8 0, .int .u8 0, .int .u8 0, .int .u8 0, .int .u8 0, .int .u8 0, .int .u8 0, .int .u8 0, .int .u8 0, .int .u8 0, .int .u8 0, .int .u8 0, .int .u8 0, .int .u8 0, .int .u8 0, .int .u8 0, .int .u8 0, .int .u8 0, .int .u8 0, .int .u8 0, .int .u8 0, .int .u8 0, .int .u8 0, .int .u8 0, .int .u8 0] 22))
  generalize w0.alloc (.cells #[.int .u8 0, .int .u8 0, .int .u8 0, .int .u8 0, .int .u8 0, .int .u8 0, .int .u8 0, .int .u8 0, .int .u8 0, .int .u8 0, .int .u8 0, .int .u8 0, .int .u8 0, .int .u8 0, .int .u8 0, .int .u8 0, .int .u8 0, .int .u8 0, .int .u8 0, .int .u8 0, .int .u8 0, .int .u8 0, .int .u8 0, .int .u8 0, .int .u8 0, .int .u8 0, .int .u8 0, .int .u8 0, .int .u8 0, .int .u8 0, .int .u8 0, .int .u8 0] 22) = w1 at *
  clear hw0 hT i1a i1b i1c ib1 hT1
  have HC1 := Lib.hid h1c
  have HR1 := Lib.hid h1r
  apply wp_region_g 6 (by kernel_rfl) (by kernel_rfl)
  simp only [List.take_succ_cons, List.take_zero, List.drop_succ_cons, List.drop_zero]
  apply lg_load 22 (.tmp 3) rfl w.heap.size 0 ca _ h1a.rng h1a.lt Tryd.underlying22 rfl hsa rfl rfl
  simp only [Act.put, List.setIfInBounds_toArray, List.set_cons_succ, List.set_cons_zero]
  apply lg_call (fun v => IsW v (leN xs)) 35 #[.agg ca.toArray] rfl (by intro W; go_simp) (fun W => HNA.out W)
  intro v1 hv1
  simp only [Act.put, List.setIfInBounds_toArray, List.set_cons_succ, List.set_cons_zero]
  apply lg_load 22 (.tmp 4) rfl (w.heap.size + 1) 0 cb _ h1b.rng h1b.lt Tryd.underlying22 rfl hsb rfl rfl
  simp only [Act.put, List.setIfInBounds_toArray, List.set_cons_succ, List.set_cons_zero]
  apply lg_call (fun v => IsW v (leN ys)) 35 #[.agg cb.toArray] rfl (by intro W; go_simp) (fun W => HNB.out W)
  intro v2 hv2
  simp only [Act.put, List.setIfInBounds_toArray, List.set_cons_succ, List.set_cons_zero]
  apply lg_alloc (.cells #[.int .u64 0, .int .u64 0, .int .u64 0, .int .u64 0] 67) (.cells #[.int .u64 0, .int .u64 0, .int .u64 0, .int .u64 0] 67) rfl (by intro W; go_simp) (fun W => heap_alloc_new W _)
  intro gx hgx
  simp only [Act.put, List.setIfInBounds_toArray, List.set_cons_succ, List.set_cons_zero]
  apply lg_alloc (.cells #[.int .u64 0, .int .u64 0, .int .u64 0, .int .u64 0] 67) (.cells #[.int .u64 0, .int .u64 0, .int .u64 0, .int .u64 0] 67) rfl (by intro W; go_simp) (fun W => heap_alloc_new W _)
  intro gy hgy
  simp only [Act.put, List.setIfInBounds_toArray, List.set_cons_succ, List.set_cons_zero]
  refine lg_nil ?_
  intro w5 hC5
  have hne : gx ≠ gy := by
    intro h
    subst h
    simp [upd] at hgy
  have bx : Blk w5 gx 67 (nu [0, 0, 0, 0]) := (hC5.2 gx (.cells #[.int .u64 0, .int .u64 0, .int .u64 0, .int .u64 0] 67) (by simp [upd, hne])).2
  have lx : w1.heap.size ≤ gx := (hC5.2 gx (.cells #[.int .u64 0, .int .u64 0, .int .u64 0, .int .u64 0] 67) (by simp [upd, hne])).1
  have by_ : Blk w5 gy 67 (nu [0, 0, 0, 0]) := (hC5.2 gy (.cells #[.int .u64 0, .int .u64 0, .int .u64 0, .int .u64 0] 67) (by simp [upd])).2
  have ly : w1.heap.size ≤ gy := (hC5.2 gy (.cells #[.int .u64 0, .int .u64 0, .int .u64 0, .int .u64 0] 67) (by simp [upd])).1
  obtain ⟨a0, a1, a2, a3, rfl, la0, la1, la2, la3, vala⟩ := hv1
  obtain ⟨b0, b1, b2, b3, rfl, lb0, lb1, lb2, lb3, valb⟩ := hv2
  unfold V4
  have hgw := hb1.size
  have bx2 := bx.setAll (vs := nu [a0, a1, a2, a3]) rfl
  have by2 := by_.setFar hne 0 (nu [a0, a1, a2, a3])
  have by3 := by2.setAll (vs := nu [b0, b1, b2, b3]) rfl
  have bx3 := bx2.setFar (g2 := gy) (fun h => hne h.symm) 0 (nu [b0, b1, b2, b3])
  have hb2 := blw_cells (show w.heap.size ≤ gy by omega) (nu [b0, b1, b2, b3]) 0 _ (blw_cells (show w.heap.size ≤ gx by omega) (nu [a0, a1, a2, a3]) 0 _ (hb1.then_ hC5.1))
  have hk2 := blw_cells (show w1.heap.size ≤ gy by omega) (nu [b0, b1, b2, b3]) 0 _ (blw_cells (show w1.heap.size ≤ gx by omega) (nu [a0, a1, a2, a3]) 0 _ hC5.1)
  refine wpList_store_mid rfl 67 _ _ rfl gx 0 (nu [a0, a1, a2, a3]).toArray rfl rfl (bx.there rfl) size4 (oneNu _) ?_
  refine wpList_store_mid rfl 67 _ _ rfl gy 0 (nu [b0, b1, b2, b3]).toArray rfl rfl (by2.there rfl) size4 (oneNu _) ?_
  simp only [Act.put]
  change wpList _ _ _ _ _ ((w5.setCells gx 0 (nu [a0, a1, a2, a3])).setCells gy 0 (nu [b0, b1, b2, b3]))
  generalize (w5.setCells gx 0 (nu [a0, a1, a2, a3])).setCells gy 0 (nu [b0, b1, b2, b3]) = W2 at *
  have h2c := h1c.later hk2
  have h2r := h1r.later hk2
  have HT2 := Lib.hid (hT2.later hk2)
  have hlx := bx3.lt
  have hly := by3.lt
  have hW2 : w1.heap.size ≤ W2.heap.size := hk2.size
  have hw01 : w0.heap.size < w1.heap.size := h1r.lt
  have H2 := Lib.hid (And.intro bx3 (And.intro by3 (And.intro h2c (And.intro h2r hb2))))
  have HVA := Lib.hid (And.intro vala (And.intro la0 (And.intro la1 (And.intro la2 la3))))
  have HVB := Lib.hid (And.intro valb (And.intro lb0 (And.intro lb1 (And.intro lb2 lb3))))
  clear bx by_ bx2 by2 by3 bx3 hb2 hk2 hC5 h1a h1b h1c h1r hb1 hgx hgy h2c h2r vala valb la0 la1 la2 la3 lb0 lb1 lb2 lb3 HNA HNB hsa hsb HC1 HR1 hT2
  have hz8 : Blk (W2.alloc (.cells #[.int .u64 0, .int .u64 0, .int .u64 0, .int .u64 0, .int .u64 0, .int .u64 0, .int .u64 0, .int .u64 0] 86)) W2.heap.size 86 (nu (List.replicate 8 0)) := Blk.new W2 (nu (List.replicate 8 0)) _
  have HZ8 := Lib.hid hz8
  have HA8 := Lib.hid (show Below W2.heap.size W2 (W2.alloc (.cells #[.int .u64 0, .int .u64 0, .int .u64 0, .int .u64 0, .int .u64 0, .int .u64 0, .int .u64 0, .int .u64 0] 86)) from Below.alloc (Below.refl _ _) (Nat.le_refl _) _)
  have HRC := Lib.hid ((H2.out.2.2.1.later HA8.out).rng)
  have HSC := Lib.hid hsc
  clear hz8 hsc
  go_wp2_with (refine wpList_load_mid rfl 22 _ rfl (w.heap.size + 1 + 1) 0 rfl cc _ HRC.out Tryd.underlying22 rfl HSC.out ?_)
  refine (HNC.out _).mono ?_
  rintro e w3 ⟨v3, rfl, hv3, b3⟩
  obtain ⟨c0, c1, c2, c3, rfl, lc0, lc1, lc2, lc3, valc⟩ := hv3
  unfold V4
  obtain ⟨gs, hgs⟩ : ∃ g, W2.heap.size = g := ⟨_, rfl⟩
  have h3x := (H2.out.1.later HA8.out).later b3
  have h3y := (H2.out.2.1.later HA8.out).later b3
  have h3r := (H2.out.2.2.2.1.later HA8.out).later b3
  have h3b := (H2.out.2.2.2.2.then_ HA8.out).then_ b3
  have h3s := HZ8.out.later b3
  have hT3 := (HT2.out.later HA8.out).later b3
  have hs3 : W2.heap.size < w3.heap.size := h3s.lt
  rw [hgs] at h3s hs3 hlx hly hW2 ⊢
  have H3 := Lib.hid (And.intro h3x (And.intro h3y (And.intro h3s (And.intro h3r (And.intro h3b hT3)))))
  have HVC := Lib.hid (And.intro valc (And.intro lc0 (And.intro lc1 (And.intro lc2 lc3))))
  clear h3x h3y h3r h3b h3s hT3 b3 HRC HZ8 HA8 H2 HT2 valc lc0 lc1 lc2 lc3
  go_wp2_with fail
  apply wp_region_g 2 (by kernel_rfl) (by kernel_rfl)
  simp only [List.take_succ_cons, List.take_zero, List.drop_succ_cons, List.drop_zero]
  apply lg_pure (.slice (some ⟨gs, 0, none⟩) 8 8) rfl (by intro W; go_simp)
  simp only [Act.put, List.setIfInBounds_toArray, List.set_cons_succ, List.set_cons_zero]
  apply lg_pure (.slice (some ⟨w3.heap.size, 0, none⟩) 4 4) rfl (by intro W; go_simp)
  simp only [Act.put, List.setIfInBounds_toArray, List.set_cons_succ, List.set_cons_zero]
  refine lg_nil ?_
  intro w4 hC4
  have hbl : Below w3.heap.size w3 w4 := (Below.alloc (Below.refl w3.heap.size w3) (Nat.le_refl _) _).step hC4.1 (by simp)
  have hlow : Blk w4 w3.heap.size 67 (nu [c0, c1, c2, c3]) := (Blk.new w3 (nu [c0, c1, c2, c3]) 67).later hC4.1
  obtain ⟨h3x, h3y, h3s, h3r, h3b, hT3⟩ := H3.out
  have h4s := h3s.later hbl
  refine wpList_copy_own rfl (.tmp 23) (.tmp 24) 87 87 rfl 37 Tryd.underlying87 (by kernel_rfl) gs 0 8 8 ⟨w3.heap.size, 0, none⟩ 4 4 rfl rfl _ 86 h4s (nu [c0, c1, c2, c3]) rfl ?_ (by simp [nu]) ?_ ?_
  · intro j v hj
    have : (⟨w3.heap.size, 0, none⟩ : Addr).add j = ⟨w3.heap.size, j, none⟩ := by unfold Addr.add; split <;> simp_all
    rw [this]; exact hlow.cell hj
  · intro v hv
    obtain ⟨y, _, rfl⟩ := List.mem_map.1 hv
    rfl
  simp only [Act.put, List.setIfInBounds_toArray, List.set_cons_succ, List.set_cons_zero]
  have h5s : Blk (w4.setRow gs (nu [c0, c1, c2, c3, 0, 0, 0, 0]).toArray) gs 86 (nu [c0, c1, c2, c3, 0, 0, 0, 0]) := setRow_heap w4 gs _ _ _ _ h4s
  have hgn : gs ≠ gx ∧ gs ≠ gy ∧ gs ≠ w.heap.size + 1 + 1 + 1 ∧ gx ≠ gy ∧ w.heap.size ≤ gs := ⟨by omega, by omega, by omega, hne, by omega⟩
  have H5 : Hid (MuS w gx gy gs [a0, a1, a2, a3] [b0, b1, b2, b3] [c0, c1, c2, c3, 0, 0, 0, 0] (w4.setRow gs (nu [c0, c1, c2, c3, 0, 0, 0, 0]).toArray)) :=
    Lib.hid ⟨(setRow_other _ _ _ _ (fun h => hgn.1 h.symm)).trans (h3x.later hbl), (setRow_other _ _ _ _ (fun h => hgn.2.1 h.symm)).trans (h3y.later hbl), h5s, (setRow_other _ _ _ _ (fun h => hgn.2.2.1 h.symm)).trans (hsz0 ▸ (h3r.later hbl)), below_setRow (h3b.then_ hbl) hgn.2.2.2.2 _⟩
  have HGN := Lib.hid hgn
  change wpList _ _ _ _ _ (w4.setRow gs (nu [c0, c1, c2, c3, 0, 0, 0, 0]).toArray)
  generalize w4.setRow gs (nu [c0, c1, c2, c3, 0, 0, 0, 0]).toArray = W5 at *
  clear hC4 hbl hlow h3x h3y h3s h3r h3b hT3 h4s h5s hgn H3 hsz0 hgw lx ly hlx hly hW2 hw01 hs3 hgs hne
  obtain ⟨ma, hma⟩ : ∃ l, [a0, a1, a2, a3] = l := ⟨_, rfl⟩
  obtain ⟨mb, hmb⟩ : ∃ l, [b0, b1, b2, b3] = l := ⟨_, rfl⟩
  have HMA : Hid (ma.length = 4 ∧ (∀ x ∈ ma, x < 2 ^ 64) ∧ valW ma = leN xs) := Lib.hid (by
    rw [← hma]
    obtain ⟨q0, q1, q2, q3, q4⟩ := HVA.out
    refine ⟨rfl, ?_, ?_⟩
    · intro x hx; simp at hx; rcases hx with rfl | rfl | rfl | rfl <;> assumption
    · simp only [valW]; omega)
  have HMB : Hid (mb.length = 4 ∧ (∀ x ∈ mb, x < 2 ^ 64) ∧ valW mb = leN ys) := Lib.hid (by
    rw [← hmb]
    obtain ⟨q0, q1, q2, q3, q4⟩ := HVB.out
    refine ⟨rfl, ?_, ?_⟩
    · intro x hx; simp at hx; rcases hx with rfl | rfl | rfl | rfl <;> assumption
    · simp only [valW]; omega)
  have HM0 : Hid (RowM (leN zs) 0 0 [c0, c1, c2, c3, 0, 0, 0, 0]) := Lib.hid (by
    obtain ⟨q0, q1, q2, q3, q4⟩ := HVC.out
    refine ⟨rfl, ?_, by decide, ?_⟩
    · intro x hx; simp at hx; omega
    · simp only [valW]; omega)
  obtain ⟨v1, hv1⟩ : ∃ v : Value, .agg #[.int .u64 (a0 : Int), .int .u64 (a1 : Int), .int .u64 (a2 : Int), .int .u64 (a3 : Int)] = v := ⟨_, rfl⟩
  obtain ⟨v2, hv2⟩ : ∃ v : Value, .agg #[.int .u64 (b0 : Int), .int .u64 (b1 : Int), .int .u64 (b2 : Int), .int .u64 (b3 : Int)] = v := ⟨_, rfl⟩
  obtain ⟨v3, hv3⟩ : ∃ v : Value, .agg #[.int .u64 (c0 : Int), .int .u64 (c1 : Int), .int .u64 (c2 : Int), .int .u64 (c3 : Int)] = v := ⟨_, rfl⟩
  rw [hma, hmb] at H5
  go_wp2_with fail
  rw [hv1, hv2, hv3]
  clear hv1 hv2 hv3 hma hmb HVA HVB HVC
  go_loopw [26] (fun iv wr => ∃ (k : Nat) (ss : List Nat), k ≤ 4 ∧ iv = .int .i64 (k : Int) ∧ RowM (leN zs + valW (ma.take k) * leN ys) 0 0 ss ∧ MuS w gx gy gs ma mb ss wr) (fun iv _ => 4 - (intOf iv).toNat)
  case atStart => exact ⟨0, _, by omega, rfl, by simpa [valW] using HM0.out, H5.out⟩
  case round =>
    clear H5 HM0
    obtain ⟨k, ss, hk, rfl, hrow, hmu⟩ := hrel
    have HK := Lib.hid (And.intro hrow hmu)
    clear hrow hmu
    by_cases hk4 : k < 4
    · have hb4 : decide ((k : Int) < 4) = true := by simp; omega
      obtain ⟨x, hx⟩ : ∃ x, ma[k]? = some x := ⟨_, List.getElem?_eq_getElem (by rw [HMA.out.1]; exact hk4)⟩
      have HX := Lib.hid hx
      have HX2 := Lib.hid (HMA.out.2.1 x (List.mem_of_getElem? hx))
      clear hx
      go_wp2_with fail
      go_loopw [12, 29] (fun uv jv wi => ∃ (j u : Nat) (ts : List Nat), j ≤ 4 ∧ jv = .int .i64 (j : Int) ∧ uv = .int .u64 (u : Int) ∧ RowM (leN zs + valW (ma.take k) * leN ys + 2 ^ (64 * k) * (x * valW (mb.take j))) (k + j) u ts ∧ MuS w gx gy gs ma mb ts wi) (fun _ jv _ => 4 - (intOf jv).toNat)
      case atStart => exact ⟨0, 0, ss, by omega, rfl, rfl, by obtain ⟨r1, r2, r3, r4⟩ := HK.out.1; exact ⟨r1, r2, by decide, by simp [valW] at r4 ⊢; exact r4⟩, HK.out.2⟩
      case round =>
        obtain ⟨j, u, ts, hj, rfl, rfl, hrow, hmu⟩ := hrel
        by_cases hj4 : j < 4
        · have hbj : decide ((j : Int) < 4) = true := by simp; omega
          obtain ⟨y, hy⟩ : ∃ y, mb[j]? = some y := ⟨_, List.getElem?_eq_getElem (by rw [HMB.out.1]; exact hj4)⟩
          obtain ⟨s, hs, hsl⟩ := hrow.at (q := k + j) (by omega)
          have hyl := HMB.out.2.1 y (List.mem_of_getElem? hy)
          have hul := hrow.2.2.1
          have hvt := valW_take mb j y hy
          have cx := hmu.1.cell (nu_at HX.out)
          have cy := hmu.2.1.cell (nu_at hy)
          have cs := hmu.2.2.1.cell (nu_at hs)
          have fs := hmu.2.2.1.frozen (k + j)
          have HR := Lib.hid (And.intro hrow hs)
          have HMU := Lib.hid hmu
          have HC := Lib.hid (fun W => mulAdd_calls x y s u HX2.out hyl hsl hul W)
          obtain ⟨p, hp⟩ : ∃ p, k + j = p := ⟨_, rfl⟩
          have e1 : IntKind.i64.wrap ((k : Int) + (j : Int)) = (p : Int) := (IntWalk.i64_in _ (by omega)).trans (by omega)
          rw [hp] at cs fs HR
          have i1 : (0 : Int) ≤ (k : Int) ∧ (k : Int) < 4 := by omega
          have i2 : (0 : Int) ≤ (j : Int) ∧ (j : Int) < 4 := by omega
          have i3 : (0 : Int) ≤ (p : Int) ∧ (p : Int) < 8 := by omega
          clear hrow hmu hs hy hyl hsl hul
          go_wp2_with fail
          have n1 := HGN.out.1
          have n2 : gx ≠ gs := fun h => HGN.out.1 h.symm
          have n3 := HGN.out.2.1
          have n4 : gy ≠ gs := fun h => HGN.out.2.1 h.symm
          go_region_with (first | (go_at_call 55; (with_reducible refine (HC.out _).mono ?_); rintro e wv ⟨lo, hi, rfl, hlo, hhi, he, rfl⟩))
          all_goals
            (have hst := HR.out.1.step HR.out.2 hlo hhi he
             have hst2 : RowM (leN zs + valW (ma.take k) * leN ys + 2 ^ (64 * k) * (x * valW (mb.take (j + 1)))) (k + (j + 1)) hi (ts.set p lo) := by
               rw [hvt, Nat.mul_add x, Nat.mul_add, powmul, hp, ← Nat.add_assoc, show k + (j + 1) = p + 1 by omega]; exact hst
             have HST := Lib.hid (And.intro hst2 ((HMU.out.drewN 1).set_ HGN.out p lo))
             clear hst hst2 hlo hhi he cx cy cs fs hvt
             go_wp2_with fail
             refine ⟨?_, by simp [intOf]; omega⟩
             repeat apply Exists.intro
             refine ⟨⟨j + 1, hi, ts.set p lo, by omega, by go_num, rfl, HST.out.1, HST.out.2⟩, ?_⟩
             rfl)
        · obtain rfl : j = 4 := by omega
          have hbj : decide (((4 : Nat) : Int) < 4) = false := by simp
          have hrow2 : RowM (leN zs + valW (ma.take (k + 1)) * leN ys) (k + 4) u ts := by
            have h4 : valW (mb.take 4) = leN ys := by rw [List.take_of_length_le (by rw [HMB.out.1]; exact Nat.le_refl _)]; exact HMB.out.2.2
            rw [h4] at hrow
            rw [valW_take ma k x HX.out, Nat.add_mul, Nat.mul_assoc, ← Nat.add_assoc]
            exact hrow
          have HR := Lib.hid (And.intro hrow2 hmu)
          clear hrow hrow2 hmu
          go_wp2_with fail
          go_loopw [12, 14] (fun uv jv wi => ∃ (q u : Nat) (ts : List Nat), q ≤ 8 ∧ jv = .int .i64 (q : Int) ∧ uv = .int .u64 (u : Int) ∧ RowM (leN zs + valW (ma.take (k + 1)) * leN ys) q u ts ∧ MuS w gx gy gs ma mb ts wi) (fun _ jv _ => 8 - (intOf jv).toNat)
          case atStart => exact ⟨k + 4, u, ts, by omega, by go_num, rfl, HR.out.1, HR.out.2⟩
          case round =>
            clear HR
            obtain ⟨q, u, ts, hq, rfl, rfl, hrow, hmu⟩ := hrel
            by_cases hq8 : q < 8
            · have hbq : decide ((q : Int) < 8) = true := by simp; omega
              obtain ⟨s, hs, hsl⟩ := hrow.at hq8
              have hul := hrow.2.2.1
              have cs := hmu.2.2.1.cell (nu_at hs)
              have fs := hmu.2.2.1.frozen q
              have i3 : (0 : Int) ≤ (q : Int) ∧ (q : Int) < 8 := by omega
              have g1 : ∀ W : World, (callFunc 56 #[.int .u64 (s : Int), .int .u64 (u : Int), .int .u64 0]).run Tryd.prog W = _ := fun W => add64_run s u 0 (by omega) W
              obtain ⟨lo, hlo⟩ : ∃ z, (s + u + 0) % 18446744073709551616 = z := ⟨_, rfl⟩
              obtain ⟨hi, hhi⟩ : ∃ z, (s + u + 0) / 18446744073709551616 = z := ⟨_, rfl⟩
              rw [hlo, hhi] at g1
              have hst := hrow.step (q := 0) (lo := lo) (hi := hi) hs (by omega) (by omega) (by omega)
              rw [Nat.mul_zero, Nat.add_zero] at hst
              have HST := Lib.hid (And.intro hst (hmu.set_ HGN.out q lo))
              clear hst hlo hhi hrow hmu hs hsl hul
              go_wp2_with fail
              exact ⟨⟨q + 1, hi, ts.set q lo, by omega, by go_num, rfl, HST.out.1, HST.out.2⟩, by simp [intOf]; omega⟩
            · obtain rfl : q = 8 := by omega
              have hV : leN zs + valW (ma.take (k + 1)) * leN ys < 256 ^ 64 := by
                have b1 := leN_lt zs
                have b2 := leN_lt ys
                have b3 := leN_lt xs
                rw [hc] at b1
                rw [hb] at b2
                rw [ha] at b3
                have b4 : valW (ma.take (k + 1)) ≤ leN xs := by rw [← HMA.out.2.2]; exact valW_take_le ma (k + 1)
                rw [Nat.add_comm]
                exact prod_lt _ _ _ (Nat.lt_of_le_of_lt b4 b3) b2 b1
              obtain rfl := hrow.over hV
              have HE := Lib.hid (And.intro hrow hmu)
              clear hrow hmu hV
              go_wp2_with fail
              exact ⟨⟨k + 1, ts, by omega, by go_num, by obtain ⟨r1, r2, r3, r4⟩ := HE.out.1; exact ⟨r1, r2, r3, by rw [show 2 ^ (64 * 8) = 256 ^ 64 by decide +kernel, Nat.mul_zero] at r4; rw [Nat.mul_zero]; exact r4⟩, HE.out.2⟩, by simp [intOf]; omega⟩
    · obtain rfl : k = 4 := by omega
      obtain ⟨hrow, hmu⟩ := HK.out
      have hV : valW ss = leN xs * leN ys + leN zs := by
        have h := hrow.2.2.2
        rw [List.take_of_length_le (by rw [HMA.out.1]; exact Nat.le_refl _), HMA.out.2.2] at h
        simp at h; omega
      have HV := Lib.hid (And.intro hV (And.intro hrow.1 hrow.2.1))
      have hz64 : Blk (wr.alloc (.cells #[.int .u8 0, .int .u8 0, .int .u8 0, .int .u8 0, .int .u8 0, .int .u8 0, .int .u8 0, .int .u8 0, .int .u8 0, .int .u8 0, .int .u8 0, .int .u8 0, .int .u8 0, .int .u8 0, .int .u8 0, .int .u8 0, .int .u8 0, .int .u8 0, .int .u8 0, .int .u8 0, .int .u8 0, .int .u8 0, .int .u8 0, .int .u8 0, .int .u8 0, .int .u8 0, .int .u8 0, .int .u8 0, .int .u8 0, .int .u8 0, .int .u8 0, .int .u8 0, .int .u8 0, .int .u8 0, .int .u8 0, .int .u8 0, .int .u8 0, .int .u8 0, .int .u8 0, .int .u8 0, .int .u8 0, .int .u8 0, .int .u8 0, .int .u8 0, .int .u8 0, .int .u8 0, .int .u8 0, .int .u8 0, .int .u8 0, .int .u8 0, .int .u8 0, .int .u8 0, .int .u8 0, .int .u8 0, .int .u8 0, .int .u8 0, .int .u8 0, .int .u8 0, .int .u8 0, .int .u8 0, .int .u8 0, .int .u8 0, .int .u8 0, .int .u8 0] 28)) wr.heap.size 28 (u8b (outG (valW ss) 0)) := by rw [outG_zero]; exact Blk.new wr (u8b (List.replicate 64 0)) _
      have hal := Below.alloc (Below.refl wr.heap.size wr) (Nat.le_refl _) (.cells #[.int .u8 0, .int .u8 0, .int .u8 0, .int .u8 0, .int .u8 0, .int .u8 0, .int .u8 0, .int .u8 0, .int .u8 0, .int .u8 0, .int .u8 0, .int .u8 0, .int .u8 0, .int .u8 0, .int .u8 0, .int .u8 0, .int .u8 0, .int .u8 0, .int .u8 0, .int .u8 0, .int .u8 0, .int .u8 0, .int .u8 0, .int .u8 0, .int .u8 0, .int .u8 0, .int .u8 0, .int .u8 0, .int .u8 0, .int .u8 0, .int .u8 0, .int .u8 0, .int .u8 0, .int .u8 0, .int .u8 0, .int .u8 0, .int .u8 0, .int .u8 0, .int .u8 0, .int .u8 0, .int .u8 0, .int .u8 0, .int .u8 0, .int .u8 0, .int .u8 0, .int .u8 0, .int .u8 0, .int .u8 0, .int .u8 0, .int .u8 0, .int .u8 0, .int .u8 0, .int .u8 0, .int .u8 0, .int .u8 0, .int .u8 0, .int .u8 0, .int .u8 0, .int .u8 0, .int .u8 0, .int .u8 0, .int .u8 0, .int .u8 0, .int .u8 0] 28)
      have hs1 := (hmu.2.2.1).later hal
      have hr1 := (hmu.2.2.2.1).later hal
      have hlr := hmu.2.2.2.1.lt
      have hls := hmu.2.2.1.lt
      have hb1 := hmu.2.2.2.2.then_ hal
      have H6 : Hid (AlS w wr.heap.size gs (valW ss) ss 0 _) := Lib.hid (And.intro hz64 (And.intro hs1 (And.intro hr1 hb1)))
      have hwg := hmu.2.2.2.2.size
      have hb4 : decide (((4 : Nat) : Int) < 4) = false := by simp
      clear HK hrow hmu hV hz64 hal hs1 hr1 hb1
      go_wp2_with fail
      obtain ⟨ga, hga⟩ : ∃ g, wr.heap.size = g := ⟨_, rfl⟩
      rw [hga] at H6 hlr hls hwg ⊢
      have HN : Hid (ga ≠ gs ∧ ga ≠ w.heap.size + 1 + 1 + 1 ∧ w.heap.size ≤ ga) := Lib.hid ⟨by omega, by omega, hwg⟩
      clear hga hlr hls hwg
      obtain ⟨N, hN⟩ : ∃ n, valW ss = n := ⟨_, rfl⟩
      rw [hN] at H6
      have HVN := Lib.hid hN
      clear hN
      go_loopw [70] (fun iv wi => ∃ q : Nat, q ≤ 64 ∧ iv = .int .i64 (q : Int) ∧ AlS w ga gs N ss q wi) (fun iv _ => 64 - (intOf iv).toNat)
      case atStart => exact ⟨0, by omega, rfl, H6.out⟩
      case round =>
        clear H6
        obtain ⟨q, hq, rfl, hal⟩ := hrel
        by_cases hq64 : q < 64
        · have hb1 : decide ((q : Int) < 64) = true := by simp; omega
          have hk8 : (q : Int) / 8 = ((q / 8 : Nat) : Int) := by omega
          obtain ⟨j, hj⟩ : ∃ j, q / 8 = j := ⟨_, rfl⟩
          rw [hj] at hk8
          have hjl : j < 8 := by omega
          obtain ⟨x, hx⟩ : ∃ x, ss[j]? = some x := ⟨_, List.getElem?_eq_getElem (by rw [HV.out.2.1]; exact hjl)⟩
          have hcell := hal.2.1.cell (nu_at hx)
          have hbyte := byte_word8 ss q j x HV.out.2.2 hj hx
          rw [HVN.out] at hbyte
          have hlen : q < (u8b (outG N q)).length := by rw [u8b_len, outG_len N q hq]; exact hq64
          obtain ⟨ov, hov⟩ : ∃ v, (u8b (outG N q))[q]? = some v := ⟨_, List.getElem?_eq_getElem hlen⟩
          have hold := hal.1.cell hov
          have hfr := hal.1.frozen q
          have HB2 := Lib.hid (hal.step hq64 HN.out)
          obtain ⟨y, hy⟩ : ∃ y, ((byteF N q).toNat : Int) = y := ⟨_, rfl⟩
          rw [hy] at hbyte HB2
          obtain ⟨r, hr⟩ : ∃ r, q % 8 = r := ⟨_, rfl⟩
          rw [hr] at hbyte
          have hr8 : (q : Int) % 8 = (r : Int) := by omega
          have hrl : r < 8 := by omega
          have hcv : IntKind.u8.wrap ((x : Int) / 2 ^ (8 * r)) = y := by
            rw [← hbyte, IntKind.wrap_u8, Int.natCast_emod, Int.natCast_ediv, Int.natCast_pow]; rfl
          clear hal hx hbyte hlen hov hy hj hr
          go_wp2_with fail
          exact ⟨⟨q + 1, by omega, by go_num, HB2.out⟩, by simp [intOf]; omega⟩
        · obtain rfl : q = 64 := by omega
          have hb1 : decide (((64 : Nat) : Int) < 64) = false := by simp
          have HA := Lib.hid hal
          clear hal
          go_wp2_with fail
          have hN2 : N = leN xs * leN ys + leN zs := by rw [← HVN.out]; exact HV.out.1
          have hNl : leN (leB 64 N) = N := by
            rw [leN_leB, Nat.mod_eq_of_lt]
            have b1 := leN_lt xs
            have b2 := leN_lt ys
            have b3 := leN_lt zs
            rw [ha] at b1
            rw [hb] at b2
            rw [hc] at b3
            rw [hN2]; exact prod_lt _ _ _ b1 b2 b3
          obtain ⟨hal, _, har, hab⟩ := HA.out
          rw [outG_full] at hal
          refine (rest_calls (some ⟨ga, 0, none⟩) 64 64 (leB 64 N) (Lib.hid (leB_len _ _).symm) (by decide) wr (HTT.out.later hab) (rb_blk hal)).mono ?_
          rintro e w7 ⟨rfl, b7⟩
          rw [hNl, hN2]
          obtain ⟨R, hR⟩ : ∃ r, (leN xs * leN ys + leN zs) % LO = r := ⟨_, rfl⟩
          rw [hR]
          have hr7 := har.later b7
          have hb7 := hab.then_ b7
          have hl32 := leB_len 32 R
          have HTH := Lib.hid (hr7.there (n := (u8b (leB 32 R)).toArray.size) (by simp [u8b_len, leB_len]))
          have hz2 := hr7.setAll (vs := u8b (leB 32 R)) (by simp [u8b_len, leB_len])
          have HZ2 := Lib.hid (Blk.load hz2 22 Tryd.underlying22 rfl (size32u _ (leB_len _ _)))
          have HB2 := Lib.hid (blw_cells (show w.heap.size ≤ w.heap.size + 1 + 1 + 1 by omega) (u8b (leB 32 R)) 0 _ hb7)
          have HO : Hid ((u8b (leB 32 R)).toArray.all (·.oneCell') = true) := Lib.hid (one8b _)
          have HG2 : Hid ((Tryd.prog.info? 22).map (·.size) = some (u8b (leB 32 R)).toArray.size) := Lib.hid (by simpa using size32u _ (leB_len 32 R))
          unfold A32
          obtain ⟨dv, hdv⟩ : ∃ d, u8b (leB 32 R) = d := ⟨_, rfl⟩
          rw [hdv] at HTH HZ2 HB2 HO HG2 ⊢
          have HDV := Lib.hid hdv
          clear hal har hab hr7 hb7 hz2 hdv hNl hN2 b7 HA
          go_wp2_with (refine wpList_store_mid rfl 22 _ _ rfl (w.heap.size + 1 + 1 + 1) 0 dv.toArray rfl rfl HTH.out HG2.out HO.out ?_)
          exact bodyPost_ret (v := .agg dv.toArray) (res_cell rfl _ _ _ _ rfl HZ2.out) rfl ⟨by unfold A32; rw [hR, HDV.out], HB2.out⟩
end Go.Proofs.YtkfdclnaaphdgaaDoor.Sc
