/- Layer 5: slices.Backward, walked. -/
import Derived.Test.YtoligamlafgaoaaDoorAid
import Derived.RangeFuncNested
import Derived.RangeFuncBound
import Derived.RangeFuncCalls
import Derived.RangeFuncLeaves
import Derived.RangeFuncBox
import Derived.Shelf.Abstract
import Derived.WalkKit
import Derived.OwnWalkIn
import Derived.TacticsInMore
import Derived.LoopNIn
import Derived.LoopIn
namespace Go.Proofs.YtoligamlafgaoaaDoor.Sc
open Go.Proofs.YtoligamlafgaoaaDoor
open Go.ChangeShapes Go.WideShapes Go.ChangeAt Go.RowKit Go.IntWalk Go.Shelf
set_option linter.unusedVariables false
attribute [local go_sem] Oper.semAt_some

/-- What has come when k rounds are over. -/
def upto {α : Type} (f : Nat → α) (k : Nat) : List α := (List.range k).map f
theorem upto_succ {α : Type} (f : Nat → α) (k : Nat) : upto f (k + 1) = upto f k ++ [f k] := by simp [upto, List.range_succ]
theorem upto_length {α : Type} (f : Nat → α) (k : Nat) : (upto f k).length = k := by simp [upto]
/-- The k-th of them, from the end. -/
def backAt (bs : List UInt8) (k : Nat) : Nat × UInt8 := (bs.length - 1 - k, bs.getD (bs.length - 1 - k) 0)
theorem backAt_is (bs : List UInt8) (k m : Nat) (h : m + 1 + k = bs.length) : backAt bs k = (m, bs.getD m 0) := by
  unfold backAt
  rw [show bs.length - 1 - k = m by omega]
/-- What a round keeps: what lay below n₀, and the box of the slice. -/
def KB (n₀ Bs : Nat) (W W' : World) : Prop := Below n₀ W W' ∧ W'.heap[Bs]? = W.heap[Bs]?
theorem KB.trans {n₀ Bs : Nat} {A B C : World} (h : KB n₀ Bs A B) (k : KB n₀ Bs B C) : KB n₀ Bs A C := ⟨h.1.trans k.1, k.2.trans h.2⟩
theorem KB.book {n₀ Bs : Nat} {w : World} (hn : n₀ ≤ w.heap.size) (hB : Bs < w.heap.size) (W : World) (l : Nat) (o o' : Obj) (hl : w.heap.size ≤ l) (h : W.heap[l]? = some o) (h1 : o.isCells = false) (h2 : o.isWalk = false) : KB n₀ Bs W (W.putObj l o') :=
  ⟨belowK_b hn W l o o' hl h h1 h2, by simp [World.putObj, Array.getElem?_setIfInBounds]; omega⟩
set_option maxRecDepth 100000 in
set_option maxHeartbeats 2000000 in
/-- The closure, for every loop body that keeps what lay below n₀. -/
theorem back1_in (F : Fence) (n : Nat) (h7 : F.fn 71) (hro : F.round = none) (hn : 1 ≤ n) (l Bs n₀ : Nat) (A : Option Addr) (len cap : Nat) (bs : List UInt8) (hlen : Hid (len = bs.length)) (hreach : len ≤ 2 ^ 62)
    (hb : 0 < bs.length → ∃ b off, A = some ⟨b, off, none⟩ ∧ b < n₀) (J Jx : List (Nat × UInt8) → World → Prop)
    (hY : ∀ pre x W, J pre W → pre.length < bs.length → YieldAt F (n - 1) Tryd.prog l #[.int .i64 (x.1 : Int), .int .u8 (x.2.toNat : Int)] W fun e W' =>
      (e = .returned (.bool true) ∧ J (pre ++ [x]) W' ∧ KB n₀ Bs W W') ∨ (e = .returned (.bool false) ∧ Jx (pre ++ [x]) W'))
    (W : World) (hBs : W.cell? ⟨Bs, 0, none⟩ = some (.slice A len cap)) (hr : RB W A bs) (h0 : J [] W) :
    CallsIn F n Tryd.prog 71 #[.func (.yield l) #[] #[], .pointer (some ⟨Bs, 0, none⟩)] W fun e W' => (∃ v, e = .returned v) ∧
      ((∃ ys, ys = upto (backAt bs) bs.length ∧ J ys W') ∨ (∃ pre, (∃ k, k ≤ bs.length ∧ pre = upto (backAt bs) k) ∧ Jx pre W')) := by
  have HR := Lib.hid hr
  clear hr
  refine callsIn_of_wp Tryd.func71 rfl h7 ?_ hro
  simp only [Tryd.ntmps71, List.size_toArray, List.length_cons, List.length_nil, Nat.reduceAdd, Nat.reduceSub, Array.replicate_succ, Array.replicate_zero, List.push_toArray, List.append_toArray, List.nil_append, List.cons_append]
  obtain ⟨z0, hz0⟩ : ∃ z : Int, (len : Int) - 1 = z := ⟨_, rfl⟩
  have HZ0 := Lib.hid hz0
  have hw0 : IntKind.i64.wrap ((len : Int) - 1) = z0 := (IntWalk.i64_in _ (by omega)).trans hz0
  clear hz0
  gi_wp2
  gi_loopw [3] (fun i wr => ∃ (k m : Nat) (z : Int), m + k = bs.length ∧ Hid (z = (m : Int) - 1) ∧ i = .int .i64 z ∧ J (upto (backAt bs) k) wr ∧ KB n₀ Bs W wr) (fun i _ => (intOf i + 1).toNat)
  case atStart => exact ⟨0, bs.length, z0, by omega, Lib.hid (by rw [← hlen.out]; exact HZ0.out.symm), rfl, h0, Below.refl _ _, rfl⟩
  case round =>
    obtain ⟨k, m, z, hmk, hz, rfl, hJs, hnx⟩ := hrel
    have hBs2 := (World.cell?_of_block (a := ⟨Bs, 0, none⟩) hnx.2).trans hBs
    clear hw0 hBs h0
    by_cases hm : 0 < m
    · obtain ⟨q, rfl⟩ : ∃ q, m = q + 1 := ⟨m - 1, by omega⟩
      obtain rfl : z = (q : Int) := by have := hz.out; omega
      obtain ⟨b, off, rfl, hbn⟩ := hb (by omega)
      obtain ⟨b', off', e, hbl, hcell⟩ := HR.out q (by omega)
      injection e with e
      injection e with e1 e2
      subst e1; subst e2
      have hc2 := (hnx.1.cell (p := ⟨b, off + q, none⟩) hbn).trans hcell
      obtain ⟨fn, tmps, assign, body, hy, hR⟩ := hY _ (backAt bs k) wr hJs (by rw [upto_length]; omega)
      rw [backAt_is bs k q (by omega)] at hy
      dsimp only at hy
      obtain ⟨c, hc⟩ : ∃ c, bs.getD q 0 = c := ⟨_, rfl⟩
      rw [hc] at hc2 hy
      have i1 : (0 : Int) ≤ (q : Int) ∧ (q : Int) < (len : Int) := by rw [hlen.out]; omega
      have i0 : (0 : Int) ≤ (q : Int) := by omega
      obtain ⟨y, hyy⟩ : ∃ y : Int, (q : Int) - 1 = y := ⟨_, rfl⟩
      have HY := Lib.hid hyy
      have hwy : IntKind.i64.wrap ((q : Int) - 1) = y := (IntWalk.i64_in _ (by omega)).trans hyy
      clear hyy hcell hJs
      gi_wp2
      refine hR.mono ?_
      rintro e W3 (⟨rfl, hJ3, hk3⟩ | ⟨rfl, hJx3⟩)
      · gi_wp2
        go_roundw
        case rel => exact ⟨k + 1, q, y, by omega, Lib.hid HY.out.symm, rfl, by rw [upto_succ]; exact hJ3, hnx.trans hk3⟩
        case measure => simp [intOf]; have := HY.out; omega
      · gi_wp2
        refine bodyPost_ret (results_none rfl _ _ _) rfl ?_
        exact ⟨⟨_, rfl⟩, .inr ⟨_, ⟨k + 1, by omega, (upto_succ _ _).symm⟩, hJx3⟩⟩
    · obtain rfl : m = 0 := by omega
      have hz1 : z = -1 := by have := hz.out; omega
      subst hz1
      obtain rfl : k = bs.length := by omega
      gi_wp2
      go_end0
      exact ⟨⟨_, rfl⟩, .inl ⟨_, rfl, hJs⟩⟩
/-- slices.Backward(s): the slice value is boxed; the function value captures the box. -/
theorem backward_calls (A : Option Addr) (len cap : Nat) (w : World) :
    Calls Tryd.prog 54 #[.slice A len cap] w fun e w' => e = .returned (.func (.func 71) #[] #[.pointer (some ⟨w.heap.size, 0, none⟩)]) ∧ w' = w.alloc (.cells #[.slice A len cap] 39) := by
  go_enter Tryd.func54, Tryd.ntmps54
  go_wp2_with fail
  go_ret
  exact ⟨rfl, rfl⟩
/-- What slices.Backward hands back gives all bytes, from the last one on. -/
theorem back_stops (F : Fence) (n : Nat) (h7 : F.fn 71) (hro : F.round = none) (hn : 1 ≤ n) (Bs n₀ : Nat) (A : Option Addr) (len cap : Nat) (bs : List UInt8) (hlen : Hid (len = bs.length)) (hreach : len ≤ 2 ^ 62) (w : World)
    (hb : 0 < bs.length → ∃ b off, A = some ⟨b, off, none⟩ ∧ b < n₀) (hBn : Bs < w.heap.size) (hc : w.cell? ⟨Bs, 0, none⟩ = some (.slice A len cap)) (hr : RB w A bs) :
    SeqStopsK F n Tryd.prog 71 #[.pointer (some ⟨Bs, 0, none⟩)] (fun x : Nat × UInt8 => #[Value.int .i64 (x.1 : Int), Value.int .u8 (x.2.toNat : Int)]) (KB n₀ Bs) (fun ys => ys = upto (backAt bs) bs.length)
      (fun pre => ∃ k, k ≤ bs.length ∧ pre = upto (backAt bs) k) bs.length w := fun l J Jx W hW _ _ hY h0 =>
  back1_in F n h7 hro hn l Bs n₀ A len cap bs hlen hreach hb J Jx hY W ((hW.cell (p := ⟨Bs, 0, none⟩) hBn).trans hc) (hr.below hW) h0
end Go.Proofs.YtoligamlafgaoaaDoor.Sc
