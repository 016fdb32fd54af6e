/- Layer 16: rows of slots of a call's own; the document's Put; whether two states are the same: walked. -/
import Derived.Test.YtpleminoiodmgaaPkG
import Derived.Deep.AppendLies
namespace Go.Proofs.Ytpleminoiodmgaa
open Go.ChangeShapes Go.WideShapes Go.ChangeAt Go.RowKit Go.IntWalk
set_option linter.unusedVariables false

/-- The value 'v' is a slice of slots of the call's own. -/
def OwnS (base : Nat) (w : World) (v : Value) (xs : List Slt) : Prop := w.ownsRow base 24 3 v xs.length (slC xs)
section
variable {w w' : World} {base B : Nat} {v : Value} {xs : List Slt}
theorem OwnS.nil (base : Nat) (w : World) : OwnS base w (.slice none 0 0) [] := World.ownsRow_nil w base _ 3
theorem OwnS.alloc (h : OwnS base w v xs) (o : Obj) : OwnS base (w.alloc o) v xs := World.ownsRow.alloc h o
theorem OwnS.below (h : OwnS base w v xs) (hg : Below w.heap.size w w') : OwnS base w' v xs := by
  refine ⟨h.1, ?_⟩
  rcases h.2 with h2 | ⟨g, cap, cur, hv, hb, hh, r⟩
  · exact .inl h2
  · exact .inr ⟨g, cap, cur, hv, hb, by rw [hg.block g ((Array.getElem?_eq_some_iff.1 hh).1)]; exact hh, r⟩
theorem OwnS.lt (h : OwnS base w v xs) : ∀ k, v.ownBlock = .some k → base ≤ k ∧ k < w.heap.size := World.ownsRow.lt h
theorem OwnS.sls (h : OwnS base w v xs) (hok : ∀ x ∈ xs, x.ok) : ∃ A n c, v = .slice A n c ∧ Sls w A n c xs := by
  rcases h.2 with ⟨rfl, h0⟩ | ⟨g, cap, cur, rfl, hb, hh, hn, hm, hs, ht⟩
  · have : xs = [] := List.eq_nil_of_length_eq_zero h0
    subst this
    exact ⟨none, 0, 0, rfl, RV.nil _ _, Lib.hid rfl, Nat.le_refl _, by decide, hok⟩
  · refine ⟨_, _, cap, rfl, fun k u hu => ⟨g, 0, rfl, (Array.getElem?_eq_some_iff.1 hh).1, ?_⟩, Lib.hid rfl, hn, hm, hok⟩
    rw [Nat.zero_add, cell_of_row _ _ _ _ _ _ hh]
    rw [← ht] at hu
    simp only [List.getElem?_take] at hu
    split at hu
    · simpa using hu
    · cases hu
theorem Below.own_grown {w0 : World} (hb : Below base w0 w) (h : OwnS base w v xs) (hg : w.grownBy w' v.ownBlock) (hw : base ≤ w.heap.size) : Below base w0 w' := by
  refine ⟨hg.os.trans hb.os, hg.tape.trans hb.tape, hg.output.trans hb.output, Nat.le_trans hb.size hg.size, fun k hk => ?_⟩
  refine (hg.block k (Nat.lt_of_lt_of_le hk hw) (fun e => ?_)).trans (hb.block k hk)
  have := (h.lt k e.symm).1
  omega
end
theorem info_slot : (Try.prog.info? 24).map (fun i => (i.zero, i.size, i.bytes)) = some (some (.agg #[.string ⟨#[]⟩, .string ⟨#[]⟩, .string ⟨#[]⟩]), 3, 48) := by kernel_rfl
theorem wpList_append_slots {ops : Array Oper} {rest : List Oper} {o : Oper} {a : Act} {Q : Exit → Act → World → Prop} {w : World} (hgd : o.guard = none) (s x : Operand)
    (ho : o.op = .call { callee := .builtin .append, args := #[s, x], argTypes := #[22, 22] })
    (base : Nat) (v : Value) (xs : List Slt) (hs : a.eval s = v) (hown : OwnS base w v xs) (A : Addr) (n c : Nat) (ys : List Slt)
    (hx : a.eval x = .slice (some A) n c) (hl : RV w (some A) (slC ys)) (hn : Hid (n = ys.length)) (hlen : xs.length + n ≤ 1000000) (hbase : base ≤ w.heap.size)
    (h : ∀ v' w', OwnS base w' v' (xs ++ ys) → w.grownBy w' v.ownBlock → wpList Try.prog ops Q rest (a.put o.dst v') w') :
    wpList Try.prog ops Q (o :: rest) a w := by
  obtain ⟨i0, hi, hz0, hz1, hz2⟩ := info_parts info_slot
  have hn := hn.out
  subst hn
  refine wpList_append_own _ hgd s x 22 ho base 24 i0 _ 3 48 Try.underlying22 hi hz0 hz1 hz2 rfl (by decide) v _ _ hs hown A ys.length c (slC ys) hx (slC_len ys) ?_ (slC_one ys) (Nat.le_trans hlen (by decide)) (by omega) hbase ?_
  · intro j u hj
    obtain ⟨b, off, h1, _, h3⟩ := hl j u hj
    cases h1
    have hplain : (⟨b, off, none⟩ : Addr).add j = ⟨b, off + j, none⟩ := by unfold Addr.add; split <;> simp_all
    rw [hplain, h3]
  · intro v' w' h1 h2 _
    exact h v' w' (by unfold OwnS; rw [slC_app, List.length_append]; exact h1) h2
/-- 'append(own, slot)'. -/
theorem wpList_append_slot {ops : Array Oper} {rest : List Oper} {o : Oper} {a : Act} {Q : Exit → Act → World → Prop} {w : World} (hgd : o.guard = none) (s x : Operand)
    (ho : o.op = .call { callee := .builtin .append, args := #[s, x], argTypes := #[22, 22] })
    (base : Nat) (v : Value) (xs : List Slt) (hs : a.eval s = v) (hown : OwnS base w v xs) (y : Slt) (C : Array Value) (hC : C = y.cells.toArray)
    (hx : a.eval x = .slice (some ⟨w.heap.size, 0, none⟩) 1 1) (hlen : xs.length + 1 ≤ 1000000) (hbase : base ≤ w.heap.size)
    (h : ∀ v' w', OwnS base w' v' (xs ++ [y]) → w.grownBy w' v.ownBlock → wpList Try.prog ops Q rest (a.put o.dst v') w') :
    wpList Try.prog ops Q (o :: rest) a (w.alloc (.cells C 24)) := by
  subst hC
  refine wpList_append_slots hgd s x ho base v xs hs (hown.alloc _) _ 1 1 [y] hx (RV.of_blk (Blk.new w y.cells 24)) (Lib.hid rfl) hlen (by simp; omega) ?_
  intro v' w' h1 h2
  exact h v' w' h1 ⟨h2.os, h2.tape, h2.output, Nat.le_trans (by simp) h2.size, fun k hk hne => (h2.block k (by simp; omega) hne).trans (heap_alloc_old w _ hk)⟩
set_option maxHeartbeats 4000000 in
set_option maxRecDepth 100000 in
theorem same_calls (A : Option Addr) (n c : Nat) (B : Option Addr) (m d : Nat) (xs : List Slt) (w : World) (hx : Sls w A n c xs) (hy : Sls w B m d xs) : Calls Try.prog 13 #[.slice A n c, .slice B m d] w fun e w' => e = .returned (.bool true) ∧ Below w.heap.size w w' := by
  obtain ⟨hrv, hn, hnc, hc63, hok⟩ := hx
  obtain ⟨hrw, hm, _, _, _⟩ := hy
  obtain rfl : n = m := hn.out.trans hm.out.symm
  have hnm : n ≤ 9223372036854775807 := Nat.le_trans hnc hc63
  have HH := Lib.hid (And.intro hrv (And.intro hrw hn.out))
  clear hrv hn hok hrw hm
  go_enter Try.func13, Try.ntmps13
  go_wp2_with fail
  go_loopw [13] (fun i wr => ∃ k : Nat, k ≤ n ∧ i = .int .i64 (k : Int) ∧ Below w.heap.size w wr) (fun i _ => n - (intOf i).toNat)
  case atStart => exact ⟨0, Nat.zero_le _, rfl, Below.refl _ _⟩
  case round =>
    obtain ⟨k, hk, rfl, hbe⟩ := hrel
    by_cases hp : k < n
    · have hkx : k < xs.length := by rw [← HH.out.2.2]; exact hp
      obtain ⟨b0, off, rfl, hb0, r0⟩ := slot_row HH.out.1 hbe hkx
      obtain ⟨b1, off1, rfl, hb1, r1⟩ := slot_row HH.out.2.1 hbe hkx
      obtain ⟨x, hxx⟩ : ∃ x, xs[k] = x := ⟨_, rfl⟩
      rw [hxx] at r0 r1
      obtain ⟨xt, xk, xi⟩ := x
      dsimp only at r0 r1
      clear hxx hkx
      have c0 := r0 0 _ rfl
      have c1 := r0 1 _ rfl
      have c2 := r0 2 _ rfl
      have d0 := r1 0 _ rfl
      have d1 := r1 1 _ rfl
      have d2 := r1 2 _ rfl
      rw [Nat.add_zero] at c0 d0
      have HB := Lib.hid hbe
      clear r0 r1 hbe
      go_wp2_with fail
      go_quiet (fail)
      go_wp2_with fail
      exact ⟨⟨k + 1, by omega, by go_num, HB.out.drewN _⟩, by simp [intOf]; omega⟩
    · have hkn : k = n := by omega
      subst hkn
      go_wp2_with fail
      go_ret
      exact ⟨rfl, hbe⟩
end Go.Proofs.Ytpleminoiodmgaa
