/- JSON: slices.Insert of one member at a row's end, walked. -/
import Derived.Test.YtlfmknebkfnliaaJfD
namespace Go.Proofs.Ytlfmknebkfnliaa
open Go.ChangeShapes Go.WideShapes Go.ChangeAt Go.RowKit Go.IntWalk
set_option linter.unusedVariables false
set_option maxRecDepth 100000

/-- 'append(own, one member)', the member's cells just laid. -/
theorem wpList_append_c7 {ops : Array Oper} {rest : List Oper} {o : Oper} {a : Act} {Q : Exit → Act → World → Prop} {w : World} (hgd : o.guard = none) (s x : Operand)
    (ho : o.op = .call { callee := .builtin .append, args := #[s, x], argTypes := #[23, 23] })
    (base : Nat) (v : Value) (n : Nat) (cs : List Value) (hs : a.eval s = v) (hown : w.ownsRow base 36 7 v n cs) (c7 : List Value) (C : Array Value) (hC : C = c7.toArray) (h7 : c7.length = 7) (h1 : ∀ u ∈ c7, u.oneCell' = true)
    (hx : a.eval x = .slice (some ⟨w.heap.size, 0, none⟩) 1 1) (hn : n ≤ 60000) (hbase : base ≤ w.heap.size)
    (h : ∀ g cap w', w'.ownsRow base 36 7 (.slice (some ⟨g, 0, none⟩) (n + 1) cap) (n + 1) (cs ++ c7) → w.grownBy w' v.ownBlock → wpList Try.prog ops Q rest (a.put o.dst (.slice (some ⟨g, 0, none⟩) (n + 1) cap)) w') :
    wpList Try.prog ops Q (o :: rest) a (w.alloc (.cells C 36)) := by
  subst hC
  obtain ⟨i, hi, hz, hsz, hby⟩ := info_parts info_memD
  have hB := Blk.new w c7 36
  refine wpList_append_lies _ hgd s x 23 ho base 36 i _ 7 104 Try.underlying23 hi hz hsz hby rfl (by decide) v n cs hs (World.ownsRow.alloc hown _) ⟨w.heap.size, 0, none⟩ 1 1 c7 hx (by rw [h7]) ?_ h1 (by decide) (Nat.le_trans (show n + 1 ≤ 60001 by omega) (by decide)) (by omega) (by simp; omega) _ rfl ?_
  · intro j u hj
    have hplain : (⟨w.heap.size, 0, none⟩ : Addr).add j = ⟨w.heap.size, j, none⟩ := by unfold Addr.add; split <;> simp_all
    rw [hplain]
    exact hB.cell hj
  · intro g cap w' h2 h3 _ _
    exact h g cap w' h2 ⟨h3.os, h3.tape, h3.output, Nat.le_trans (by simp) h3.size, fun k hk hne => (h3.block k (by simp; omega) hne).trans (heap_alloc_old w _ hk)⟩
set_option maxHeartbeats 4000000 in
theorem insertM_end (base : Nat) (v : Value) (n : Nat) (cs c7 : List Value) (C : Array Value) (hC : C = c7.toArray) (w : World) (ho : w.ownsRow base 36 7 v n cs) (hb : base ≤ w.heap.size) (hl : n ≤ 60000) (h7 : c7.length = 7) (h1 : ∀ u ∈ c7, u.oneCell' = true) :
    Calls Try.prog 26 #[v, .int .i64 (n : Int), .slice (some ⟨w.heap.size, 0, none⟩) 1 1] (w.alloc (.cells C 36)) fun e w' =>
      ∃ A c, e = .returned (.slice A (n + 1) c) ∧ w'.ownsRow base 36 7 (.slice A (n + 1) c) (n + 1) (cs ++ c7) ∧ w.grownBy w' v.ownBlock := by
  subst hC
  have HO := Lib.hid (And.intro ho (And.intro hb (And.intro h7 h1)))
  rcases ho.2 with ⟨rfl, h0⟩ | ⟨g, cap, cur, rfl, hbg, hh, hn, hm, hs, ht⟩
  · subst h0
    clear ho hl hb h7 h1
    go_enter Try.func26, Try.ntmps26
    go_wp2_with (at_builtin; refine wpList_append_c7 rfl _ _ rfl base _ 0 cs rfl HO.out.1 c7 _ rfl HO.out.2.2.1 HO.out.2.2.2 rfl (by decide) HO.out.2.1 ?_; intro g2 cap2 w5 h5 g5)
    have H5 := Lib.hid (And.intro h5 g5)
    clear h5 g5
    go_wp2_with fail
    go_ret
    exact ⟨_, _, rfl, H5.out.1, H5.out.2⟩
  · have hcm : cap ≤ 9223372036854775807 := hm
    clear ho hh ht hs hbg hb hm h7 h1
    have hci : cap = n ∨ ¬ cap = n := Classical.em _
    rcases hci with hci | hci
    all_goals
      go_enter Try.func26, Try.ntmps26
      go_wp2_with (at_builtin; refine wpList_append_c7 rfl _ _ rfl base _ n cs rfl HO.out.1 c7 _ rfl HO.out.2.2.1 HO.out.2.2.2 rfl hl HO.out.2.1 ?_; intro g2 cap2 w5 h5 g5)
      have H5 := Lib.hid (And.intro h5 g5)
      clear h5 g5
      go_wp2_with fail
      go_ret
      exact ⟨_, _, rfl, H5.out.1, H5.out.2⟩
end Go.Proofs.Ytlfmknebkfnliaa
