/- api.Value: rows of a call's own, their parts told: old ones or new ones. -/
import Derived.Test.YtlfmknebkfnliaaJvD
namespace Go.Proofs.Ytlfmknebkfnliaa
open Go.ChangeShapes Go.WideShapes Go.ChangeAt Go.RowKit Go.IntWalk
set_option linter.unusedVariables false
set_option maxRecDepth 100000

def RowK (lo base : Nat) (mem : Bool) (w : World) (L : Value) (t : JT) (k : Nat) : Prop :=
  ∃ cs : List Value, w.ownsRow base (tyM mem) (stM mem) L k cs ∧ ∀ i, i < k → RowE (fun b => (b < lo ∨ base ≤ b) ∧ b < w.heap.size ∧ L.ownBlock ≠ some b) mem w cs t i
section
variable {lo base k : Nat} {mem : Bool} {w w' : World} {L : Value} {t : JT}
theorem RowK.nil (lo base : Nat) (mem : Bool) (w : World) (t : JT) : RowK lo base mem w (.slice none 0 0) t 0 := ⟨[], World.ownsRow_nil w base _ _, fun i hi => absurd hi (Nat.not_lt_zero i)⟩
theorem RowK.lt (h : RowK lo base mem w L t k) : ∀ b, L.ownBlock = some b → base ≤ b ∧ b < w.heap.size := by obtain ⟨cs, h1, _⟩ := h; exact World.ownsRow.lt h1
theorem RowK.below (h : RowK lo base mem w L t k) (hg : Below w.heap.size w w') : RowK lo base mem w' L t k := by
  obtain ⟨cs, h0, h1⟩ := h
  refine ⟨cs, ⟨h0.1, ?_⟩, fun i hi => ⟨(h1 i hi).1, ?_⟩⟩
  · rcases h0.2 with h2 | ⟨g, cap, cur, hv, hb, hh, r⟩
    · exact .inl h2
    · exact .inr ⟨g, cap, cur, hv, hb, by rw [hg.block g ((Array.getElem?_eq_some_iff.1 hh).1)]; exact hh, r⟩
  · obtain ⟨_, e, h2, h3⟩ := h1 i hi
    exact ⟨e, h2, h3.stay (fun b o hb => hg.cell (p := ⟨b, o, none⟩) hb.2.1) (fun b hb => ⟨hb.1, Nat.lt_of_lt_of_le hb.2.1 hg.size, hb.2.2⟩)⟩
theorem RowK.alloc (h : RowK lo base mem w L t k) (o : Obj) : RowK lo base mem (w.alloc o) L t k := h.below ((Below.refl _ _).alloc (Nat.le_refl _) _)
theorem RowK.drewN (h : RowK lo base mem w L t k) (n : Nat) : RowK lo base mem (w.drewN n) L t k := h.below ((Below.refl _ _).drewN n)
theorem RowK.grown {w0 : World} (hb : Below base w0 w) (h : RowK lo base mem w L t k) (hg : w.grownBy w' L.ownBlock) (hw : base ≤ w.heap.size) : Below base w0 w' := by
  refine ⟨hg.os.trans hb.os, hg.tape.trans hb.tape, hg.output.trans hb.output, Nat.le_trans hb.size hg.size, fun k hk => ?_⟩
  refine (hg.block k (Nat.lt_of_lt_of_le hk hw) (fun e => ?_)).trans (hb.block k hk)
  have := (h.lt k e.symm).1
  omega
theorem RowK.app {cs : List Value} {g cap : Nat} (h1 : ∀ i, i < k → RowE (fun b => (b < lo ∨ base ≤ b) ∧ b < w.heap.size ∧ L.ownBlock ≠ some b) mem w cs t i) (hl : cs.length = k * stM mem)
    (hg : w.grownBy w' L.ownBlock) (hgg : L.ownBlock = some g ∨ g = w.heap.size) (e : List Value)
    (hkey : if mem then (t.fall k).key.length ≤ 140737488355328 else (t.fall k).key = [])
    (h' : w'.ownsRow base (tyM mem) (stM mem) (.slice (some ⟨g, 0, none⟩) (k + 1) cap) (k + 1) (cs ++ newC mem (t.fall k).key e))
    (hc : JCs (fun b => (b < lo ∨ base ≤ b) ∧ b < w.heap.size ∧ L.ownBlock ≠ some b) w e (t.fall k).val) : RowK lo base mem w' (.slice (some ⟨g, 0, none⟩) (k + 1) cap) t (k + 1) := by
  have hst : ∀ {e : List Value} {v : Jv}, JCs (fun b => (b < lo ∨ base ≤ b) ∧ b < w.heap.size ∧ L.ownBlock ≠ some b) w e v →
      JCs (fun b => (b < lo ∨ base ≤ b) ∧ b < w'.heap.size ∧ (Value.slice (some ⟨g, 0, none⟩) (k + 1) cap).ownBlock ≠ some b) w' e v := fun h =>
    h.stay (fun b o hb => hg.cell_far ⟨b, o, none⟩ hb.2.1 (fun e => hb.2.2 e.symm)) (fun b hb => ⟨hb.1, Nat.lt_of_lt_of_le hb.2.1 hg.size, fun e => by
      simp only [Value.ownBlock, Option.some.injEq] at e
      rcases hgg with h2 | h2
      · exact hb.2.2 (by rw [h2, e])
      · have := hb.2.1; omega⟩)
  refine ⟨_, h', fun i hi => ?_⟩
  rcases Nat.lt_succ_iff_lt_or_eq.1 hi with hi | rfl
  · obtain ⟨h2, e2, h3, h4⟩ := h1 i hi
    refine ⟨?_, e2, fun j v hj => getD_app_l (h3 j v hj), hst h4⟩
    cases mem with
    | true => exact ⟨getD_app_l h2.1, h2.2⟩
    | false => exact h2
  · refine ⟨?_, e, fun j v hj => ?_, hst hc⟩
    · cases mem with
      | true => refine ⟨?_, hkey⟩; rw [← hl, show cs.length = cs.length + 0 from rfl, getD_app_r]; rfl
      | false => exact hkey
    · rw [← hl, Nat.add_assoc, getD_app_r]
      cases mem with
      | true => rw [show kwM true = 1 from rfl, Nat.add_comm]; exact hj
      | false => rw [show kwM false = 0 from rfl, Nat.zero_add]; exact hj
theorem RowK.done (h : RowK lo base mem w L t t.ext) (he : t.ext ≤ 140737488355328) : ∃ (A : Option Addr) (c : Nat), L = .slice A t.ext c ∧ Room t.ext c t.ext ∧ JSl (fun b => (b < lo ∨ base ≤ b) ∧ b < w.heap.size) w mem A t := by
  obtain ⟨cs, h0, h1⟩ := h
  rcases h0.2 with ⟨rfl, hn⟩ | ⟨g, cap, cur, rfl, hb, hh, hnc, hmx, hs, ht⟩
  · refine ⟨none, 0, by rw [hn], ⟨rfl, by omega, he⟩, .inl ?_⟩
    cases t with
    | nil => rfl
    | cons => simp [JT.ext] at hn
  · refine ⟨_, cap, rfl, ⟨rfl, hnc, he⟩, .inr ⟨g, 0, rfl, ⟨.inr hb, (Array.getElem?_eq_some_iff.1 hh).1⟩, JIn.of t mem g 0 (fun i hi => ?_)⟩⟩
    have hc : ∀ (k : Nat) (u : Value), cs[k]? = some u → w.cell? ⟨g, k, none⟩ = some u := fun k u hu => by
      rw [cell_of_row _ _ _ _ _ _ hh]
      rw [← ht] at hu
      simp only [List.getElem?_take] at hu
      split at hu
      · simpa using hu
      · cases hu
    obtain ⟨h2, e, h3, h4⟩ := h1 i hi
    refine ⟨?_, e, fun j v hj => ?_, h4.stay (fun _ _ _ => rfl) (fun b hb => ⟨hb.1, hb.2.1⟩)⟩
    · cases mem with
      | true => exact ⟨by rw [Nat.zero_add]; exact hc _ _ h2.1, h2.2⟩
      | false => exact h2
    · rw [Nat.zero_add]; exact hc _ _ (h3 j v hj)
end
/-- 'append(own, one element)'. -/
theorem wp_append_rowK {o : Oper} {a : Act} {K : Act → World → Prop} {Q : Exit → Act → World → Prop} {W : World} (mem : Bool) (s x : Operand)
    (ho : o.op = .call { callee := .builtin .append, args := #[s, x], argTypes := #[tsM mem, tsM mem] })
    (lo base : Nat) (L : Value) (t : JT) (k : Nat) (hs : a.eval s = L) (hrow : RowK lo base mem W L t k) (hk : k ≤ 1000000) (hbW : base ≤ W.heap.size)
    (B : Nat) (e : List Value) (hkey : if mem then (t.fall k).key.length ≤ 140737488355328 else (t.fall k).key = [])
    (hx : a.eval x = .slice (some ⟨B, 0, none⟩) 1 1) (hB : Blk W B (tyM mem) (newC mem (t.fall k).key e)) (hc : JCs (fun b => (b < lo ∨ base ≤ b) ∧ b < W.heap.size ∧ L.ownBlock ≠ some b) W e (t.fall k).val)
    (h : ∀ A c w', RowK lo base mem w' (.slice A (k + 1) c) t (k + 1) → W.grownBy w' L.ownBlock → K (a.put o.dst (.slice A (k + 1) c)) w') : o.wp Try.prog a W K Q := by
  obtain ⟨i, z, hi, hz, hsz, hby, hzs⟩ := info_row mem
  obtain ⟨cs, hown, h1⟩ := hrow
  have h6 : e.length = 6 := by obtain ⟨A, nl, cl, B, nm, cm, rfl, _⟩ := hc; rfl
  have h1c : ∀ u ∈ newC mem (t.fall k).key e, u.oneCell' = true := by
    obtain ⟨A, nl, cl, B, nm, cm, rfl, _⟩ := hc
    intro u hu
    cases mem with
    | true =>
      simp only [newC, if_true, List.mem_cons, List.not_mem_nil, or_false] at hu
      rcases hu with rfl | rfl | rfl | rfl | rfl | rfl | rfl <;> rfl
    | false =>
      simp only [newC, Bool.false_eq_true, if_false, List.mem_cons, List.not_mem_nil, or_false] at hu
      rcases hu with rfl | rfl | rfl | rfl | rfl | rfl <;> rfl
  have hnl : (newC mem (t.fall k).key e).length = 1 * stM mem := by
    cases mem with
    | true => simp [newC, h6, stM, kwM]
    | false => simp [newC, h6, stM, kwM]
  have hb : (k + 1) * i.bytes ≤ 140737488355328 := by
    rw [hby]
    cases mem with
    | true => simp only [if_true]; omega
    | false => simp only [Bool.false_eq_true, if_false]; omega
  refine wp_append_lies W s x (tsM mem) ho base (tyM mem) i z (stM mem) i.bytes (under_row mem) hi hz hsz rfl hzs (by cases mem <;> decide) L k cs hs hown ⟨B, 0, none⟩ 1 1 (newC mem (t.fall k).key e) hx hnl ?_ h1c (by decide) (Nat.le_trans (show k + 1 ≤ 1000001 by omega) (by decide)) hb hbW _ rfl ?_
  · intro j u hj
    have hplain : (⟨B, 0, none⟩ : Addr).add j = ⟨B, j, none⟩ := by unfold Addr.add; split <;> simp_all
    rw [hplain]
    exact hB.cell hj
  · intro g cap w' h2 h3 h4 _
    exact h _ cap w' (RowK.app h1 hown.1 h3 h4 e hkey h2 hc) h3
/-- .. in a list of operations, the element just built. -/
theorem wpList_append_rowK {ops : Array Oper} {rest : List Oper} {o : Oper} {a : Act} {Q : Exit → Act → World → Prop} {W : World} (mem : Bool) (hgd : o.guard = none) (s x : Operand)
    (ho : o.op = .call { callee := .builtin .append, args := #[s, x], argTypes := #[tsM mem, tsM mem] })
    (lo base : Nat) (L : Value) (t : JT) (k : Nat) (hs : a.eval s = L) (hrow : RowK lo base mem W L t k) (hk : k ≤ 1000000) (hbW : base ≤ W.heap.size)
    (e : List Value) (hkey : if mem then (t.fall k).key.length ≤ 140737488355328 else (t.fall k).key = []) (C : Array Value) (T : TypeId) (hT : T = tyM mem) (hC : C = (newC mem (t.fall k).key e).toArray)
    (hx : a.eval x = .slice (some ⟨W.heap.size, 0, none⟩) 1 1) (hc : JCs (fun b => (b < lo ∨ base ≤ b) ∧ b < W.heap.size ∧ L.ownBlock ≠ some b) W e (t.fall k).val)
    (h : ∀ A c w', RowK lo base mem w' (.slice A (k + 1) c) t (k + 1) → W.grownBy w' L.ownBlock → wpList Try.prog ops Q rest (a.put o.dst (.slice A (k + 1) c)) w') :
    wpList Try.prog ops Q (o :: rest) a (W.alloc (.cells C T)) := by
  subst hT hC
  refine wpList_plain hgd fun K hK => wp_append_rowK mem s x ho lo base L t k hs (hrow.alloc _) hk (by simp; omega) W.heap.size e hkey hx (Blk.new W _ _) ?_ ?_
  · exact hc.stay (fun b o hb => ((Below.refl _ _).alloc (Nat.le_refl _) _ : Below W.heap.size W _).cell (p := ⟨b, o, none⟩) hb.2.1) (fun b hb => ⟨hb.1, by have := hb.2.1; simp; omega, hb.2.2⟩)
  · intro A c w' h1 h2
    exact hK _ _ (h A c w' h1 ⟨h2.os, h2.tape, h2.output, Nat.le_trans (by simp) h2.size, fun k hk hne => (h2.block k (by simp; omega) hne).trans (heap_alloc_old W _ hk)⟩)
end Go.Proofs.Ytlfmknebkfnliaa
