/- Texts put together: JvD JvN Mp QuP. -/
import Derived.Test.YtajkgcmopmpihaaGreatDoorYcc81974a9e
import Derived.Deep.AppendLies
import Derived.Maps.RangeWalk
import Derived.Maps.OwnSet
import Derived.Lib.ValidLaws
import Derived.Lib.MapLaws
import Derived.Lib.TrimUEq
import Derived.Lib.DecodeNEq
namespace Go.Proofs.YtajkgcmopmpihaaGreatDoor
open Go.ChangeShapes Go.WideShapes Go.ChangeAt Go.RowKit Go.IntWalk
set_option linter.unusedVariables false
set_option maxRecDepth 100000
theorem ext_le_bulk : ∀ t : JT, t.ext ≤ t.bulk
  | .nil => Nat.le_refl _
  | .cons k kd is n s l m r => by have := ext_le_bulk r; simp only [JT.ext, JT.bulk]; omega
def tyM (mem : Bool) : TypeId := if mem then 44 else 25
def tsM (mem : Bool) : TypeId := if mem then 23 else 22
theorem info_memD : (Tryz.prog.info? 44).map (fun i => (i.zero, i.size, i.bytes)) = some (some (.agg #[.string ⟨#[]⟩, .int .i64 0, .bool false, .int .i64 0, .string ⟨#[]⟩, .slice none 0 0, .slice none 0 0]), 7, 104) := by kernel_rfl
theorem info_valD : (Tryz.prog.info? 25).map (fun i => (i.zero, i.size, i.bytes)) = some (some (.agg #[.int .i64 0, .bool false, .int .i64 0, .string ⟨#[]⟩, .slice none 0 0, .slice none 0 0]), 6, 88) := by kernel_rfl
theorem info_row (mem : Bool) : ∃ i z, Tryz.prog.info? (tyM mem) = some i ∧ i.zero = some z ∧ i.size = stM mem ∧ i.bytes = (if mem then 104 else 88) ∧ z.cells.size = stM mem := by
  cases mem with
  | true => obtain ⟨i, h1, h2, h3, h4⟩ := info_parts info_memD; exact ⟨i, _, h1, h2, h3, h4, rfl⟩
  | false => obtain ⟨i, h1, h2, h3, h4⟩ := info_parts info_valD; exact ⟨i, _, h1, h2, h3, h4, rfl⟩
theorem under_row (mem : Bool) : Tryz.prog.underlying (tsM mem) = some (.slice (tyM mem)) := by
  cases mem with
  | true => exact Tryz.underlying23
  | false => exact Tryz.underlying22
theorem JIn.of {P : Nat → Prop} {w : World} : ∀ (t : JT) (mem : Bool) (b o : Nat),
    (∀ i, i < t.ext → (if mem then w.cell? ⟨b, o + i * stM mem, none⟩ = some (strV (t.fall i).key) ∧ (t.fall i).key.length ≤ 140737488355328 else (t.fall i).key = []) ∧
      ∃ cs, w.rangeAt b (o + i * stM mem + kwM mem) cs ∧ JCs P w cs (t.fall i).val) → JIn P w mem b o t
  | .nil, _, _, _, _ => trivial
  | .cons k kd is n s l m r, mem, b, o, h => by
    obtain ⟨h1, cs, h2, A, nl, cl, B, nm, cm, rfl, h3, h4, h5, h6, h7⟩ := h 0 (by simp [JT.ext])
    rw [Nat.zero_mul, Nat.add_zero] at h1 h2
    refine ⟨h1, ⟨A, nl, cl, B, nm, cm, h2, h3, h4, h5, h6⟩, h7, JIn.of r mem b _ (fun i hi => ?_)⟩
    have := h (i + 1) (by simp [JT.ext]; omega)
    rw [show o + (i + 1) * stM mem = o + stM mem + i * stM mem by rw [Nat.succ_mul]; omega] at this
    exact this
def RowE (P : Nat → Prop) (mem : Bool) (w : World) (cs : List Value) (t : JT) (i : Nat) : Prop :=
  (if mem then cs[i * stM mem]? = some (strV (t.fall i).key) ∧ (t.fall i).key.length ≤ 140737488355328 else (t.fall i).key = []) ∧
    ∃ e : List Value, (∀ j v, e[j]? = some v → cs[i * stM mem + kwM mem + j]? = some v) ∧ JCs P w e (t.fall i).val
def RowJ (base : Nat) (mem : Bool) (w : World) (L : Value) (t : JT) (k : Nat) : Prop :=
  ∃ cs : List Value, w.ownsRow base (tyM mem) (stM mem) L k cs ∧ ∀ i, i < k → RowE (fun b => base ≤ b ∧ b < w.heap.size ∧ L.ownBlock ≠ some b) mem w cs t i
def newC (mem : Bool) (key : List UInt8) (e : List Value) : List Value := if mem then strV key :: e else e
section
variable {base k : Nat} {mem : Bool} {w w' : World} {L : Value} {t : JT}
theorem RowJ.nil (base : Nat) (mem : Bool) (w : World) (t : JT) : RowJ base mem w (.slice none 0 0) t 0 := ⟨[], World.ownsRow_nil w base _ _, fun i hi => absurd hi (Nat.not_lt_zero i)⟩
theorem RowJ.lt (h : RowJ base mem w L t k) : ∀ b, L.ownBlock = some b → base ≤ b ∧ b < w.heap.size := by obtain ⟨cs, h1, _⟩ := h; exact World.ownsRow.lt h1
theorem RowJ.below (h : RowJ base mem w L t k) (hg : Below w.heap.size w w') : RowJ base mem w' L t k := by
  obtain ⟨cs, h0, h1⟩ := h
  refine ⟨cs, ⟨h0.1, ?_⟩, fun i hi => ⟨(h1 i hi).1, ?_⟩⟩
  · rcases h0.2 with h2 | ⟨g, cap, cur, hv, hb, hh, r⟩
    · exact .inl h2
    · exact .inr ⟨g, cap, cur, hv, hb, by rw [hg.block g ((Array.getElem?_eq_some_iff.1 hh).1)]; exact hh, r⟩
  · obtain ⟨_, e, h2, h3⟩ := h1 i hi
    exact ⟨e, h2, h3.stay (fun b o hb => hg.cell (p := ⟨b, o, none⟩) hb.2.1) (fun b hb => ⟨hb.1, Nat.lt_of_lt_of_le hb.2.1 hg.size, hb.2.2⟩)⟩
theorem RowJ.alloc (h : RowJ base mem w L t k) (o : Obj) : RowJ base mem (w.alloc o) L t k := h.below ((Below.refl _ _).alloc (Nat.le_refl _) _)
theorem RowJ.drewN (h : RowJ base mem w L t k) (n : Nat) : RowJ base mem (w.drewN n) L t k := h.below ((Below.refl _ _).drewN n)
theorem RowJ.grown {w0 : World} (hb : Below base w0 w) (h : RowJ base mem w L t k) (hg : w.grownBy w' L.ownBlock) (hw : base ≤ w.heap.size) : Below base w0 w' := by
  refine ⟨hg.os.trans hb.os, hg.tape.trans hb.tape, hg.output.trans hb.output, Nat.le_trans hb.size hg.size, fun k hk => ?_⟩
  refine (hg.block k (Nat.lt_of_lt_of_le hk hw) (fun e => ?_)).trans (hb.block k hk)
  have := (h.lt k e.symm).1
  omega
theorem getD_app_l {α : Type} {xs ys : List α} {i : Nat} {v : α} (h : xs[i]? = some v) : (xs ++ ys)[i]? = some v := by
  rw [List.getElem?_append_left (List.getElem?_eq_some_iff.1 h).1]; exact h
theorem getD_app_r {α : Type} {xs ys : List α} {i : Nat} : (xs ++ ys)[xs.length + i]? = ys[i]? := by
  rw [List.getElem?_append_right (Nat.le_add_right _ _)]; congr 1; omega
theorem RowJ.app {cs : List Value} {g cap : Nat} (h1 : ∀ i, i < k → RowE (fun b => base ≤ b ∧ b < w.heap.size ∧ L.ownBlock ≠ some b) mem w cs t i) (hl : cs.length = k * stM mem)
    (hg : w.grownBy w' L.ownBlock) (hgg : L.ownBlock = some g ∨ g = w.heap.size) (e : List Value)
    (hkey : if mem then (t.fall k).key.length ≤ 140737488355328 else (t.fall k).key = [])
    (h' : w'.ownsRow base (tyM mem) (stM mem) (.slice (some ⟨g, 0, none⟩) (k + 1) cap) (k + 1) (cs ++ newC mem (t.fall k).key e))
    (hc : JCs (fun b => base ≤ b ∧ b < w.heap.size ∧ L.ownBlock ≠ some b) w e (t.fall k).val) : RowJ base mem w' (.slice (some ⟨g, 0, none⟩) (k + 1) cap) t (k + 1) := by
  have hst : ∀ {e : List Value} {v : Jv}, JCs (fun b => base ≤ b ∧ b < w.heap.size ∧ L.ownBlock ≠ some b) w e v →
      JCs (fun b => base ≤ b ∧ b < w'.heap.size ∧ (Value.slice (some ⟨g, 0, none⟩) (k + 1) cap).ownBlock ≠ some b) w' e v := fun h =>
    h.stay (fun b o hb => hg.cell_far ⟨b, o, none⟩ hb.2.1 (fun e => hb.2.2 e.symm)) (fun b hb => ⟨hb.1, Nat.lt_of_lt_of_le hb.2.1 hg.size, fun e => by
      simp only [Value.ownBlock, Option.some.injEq] at e
      rcases hgg with h2 | h2
      · exact hb.2.2 (by rw [h2, e])
      · have := hb.2.1; omega⟩)
  refine ⟨_, h', fun i hi => ?_⟩
  rcases Nat.lt_succ_iff_lt_or_eq.1 hi with hi | rfl
  · obtain ⟨h2, e2, h3, h4⟩ := h1 i hi
    refine ⟨?_, e2, fun j v hj => getD_app_l (h3 j v hj), hst h4⟩
    cases mem with
    | true => exact ⟨getD_app_l h2.1, h2.2⟩
    | false => exact h2
  · refine ⟨?_, e, fun j v hj => ?_, hst hc⟩
    · cases mem with
      | true => refine ⟨?_, hkey⟩; rw [← hl, show cs.length = cs.length + 0 from rfl, getD_app_r]; rfl
      | false => exact hkey
    · rw [← hl, Nat.add_assoc, getD_app_r]
      cases mem with
      | true => rw [show kwM true = 1 from rfl, Nat.add_comm]; exact hj
      | false => rw [show kwM false = 0 from rfl, Nat.zero_add]; exact hj
theorem RowJ.done (h : RowJ base mem w L t t.ext) (he : t.ext ≤ 140737488355328) : ∃ (A : Option Addr) (c : Nat), L = .slice A t.ext c ∧ Room t.ext c t.ext ∧ JSl (fun b => base ≤ b ∧ b < w.heap.size) w mem A t := by
  obtain ⟨cs, h0, h1⟩ := h
  rcases h0.2 with ⟨rfl, hn⟩ | ⟨g, cap, cur, rfl, hb, hh, hnc, hmx, hs, ht⟩
  · refine ⟨none, 0, by rw [hn], ⟨rfl, by omega, he⟩, .inl ?_⟩
    cases t with
    | nil => rfl
    | cons => simp [JT.ext] at hn
  · refine ⟨_, cap, rfl, ⟨rfl, hnc, he⟩, .inr ⟨g, 0, rfl, ⟨hb, (Array.getElem?_eq_some_iff.1 hh).1⟩, JIn.of t mem g 0 (fun i hi => ?_)⟩⟩
    have hc : ∀ (k : Nat) (u : Value), cs[k]? = some u → w.cell? ⟨g, k, none⟩ = some u := fun k u hu => by
      rw [cell_of_row _ _ _ _ _ _ hh]
      rw [← ht] at hu
      simp only [List.getElem?_take] at hu
      split at hu
      · simpa using hu
      · cases hu
    obtain ⟨h2, e, h3, h4⟩ := h1 i hi
    refine ⟨?_, e, fun j v hj => ?_, h4.stay (fun _ _ _ => rfl) (fun b hb => ⟨hb.1, hb.2.1⟩)⟩
    · cases mem with
      | true => exact ⟨by rw [Nat.zero_add]; exact hc _ _ h2.1, h2.2⟩
      | false => exact h2
    · rw [Nat.zero_add]; exact hc _ _ (h3 j v hj)
end
theorem wp_append_row {o : Oper} {a : Act} {K : Act → World → Prop} {Q : Exit → Act → World → Prop} {W : World} (mem : Bool) (s x : Operand)
    (ho : o.op = .call { callee := .builtin .append, args := #[s, x], argTypes := #[tsM mem, tsM mem] })
    (base H : Nat) (L : Value) (t : JT) (k : Nat) (hs : a.eval s = L) (hrow : RowJ base mem W L t k) (hk : k ≤ 1000000) (hbH : base ≤ H) (hHL : ∀ b, L.ownBlock = some b → b < H) (hHW : H ≤ W.heap.size)
    (B : Nat) (e : List Value) (hkey : if mem then (t.fall k).key.length ≤ 140737488355328 else (t.fall k).key = [])
    (hx : a.eval x = .slice (some ⟨B, 0, none⟩) 1 1) (hB : Blk W B (tyM mem) (newC mem (t.fall k).key e)) (hc : JCs (fun b => H ≤ b ∧ b < W.heap.size) W e (t.fall k).val)
    (h : ∀ A c w', RowJ base mem w' (.slice A (k + 1) c) t (k + 1) → W.grownBy w' L.ownBlock → K (a.put o.dst (.slice A (k + 1) c)) w') : o.wp Tryz.prog a W K Q := by
  obtain ⟨i, z, hi, hz, hsz, hby, hzs⟩ := info_row mem
  obtain ⟨cs, hown, h1⟩ := hrow
  have h6 : e.length = 6 := by obtain ⟨A, nl, cl, B, nm, cm, rfl, _⟩ := hc; rfl
  have h1c : ∀ u ∈ newC mem (t.fall k).key e, u.oneCell' = true := by
    obtain ⟨A, nl, cl, B, nm, cm, rfl, _⟩ := hc
    intro u hu
    cases mem with
    | true =>
      simp only [newC, if_true, List.mem_cons, List.not_mem_nil, or_false] at hu
      rcases hu with rfl | rfl | rfl | rfl | rfl | rfl | rfl <;> rfl
    | false =>
      simp only [newC, Bool.false_eq_true, if_false, List.mem_cons, List.not_mem_nil, or_false] at hu
      rcases hu with rfl | rfl | rfl | rfl | rfl | rfl <;> rfl
  have hnl : (newC mem (t.fall k).key e).length = 1 * stM mem := by
    cases mem with
    | true => simp [newC, h6, stM, kwM]
    | false => simp [newC, h6, stM, kwM]
  have hb : (k + 1) * i.bytes ≤ 140737488355328 := by
    rw [hby]
    cases mem with
    | true => simp only [if_true]; omega
    | false => simp only [Bool.false_eq_true, if_false]; omega
  refine wp_append_lies W s x (tsM mem) ho base (tyM mem) i z (stM mem) i.bytes (under_row mem) hi hz hsz rfl hzs (by cases mem <;> decide) L k cs hs hown ⟨B, 0, none⟩ 1 1 (newC mem (t.fall k).key e) hx hnl ?_ h1c (by decide) (Nat.le_trans (show k + 1 ≤ 1000001 by omega) (by decide)) hb (Nat.le_trans hbH hHW) _ rfl ?_
  · intro j u hj
    have hplain : (⟨B, 0, none⟩ : Addr).add j = ⟨B, j, none⟩ := by unfold Addr.add; split <;> simp_all
    rw [hplain]
    exact hB.cell hj
  · intro g cap w' h2 h3 h4 _
    exact h _ cap w' (RowJ.app h1 hown.1 h3 h4 e hkey h2 (hc.stay (fun _ _ _ => rfl) (fun b hb => ⟨Nat.le_trans hbH hb.1, hb.2, fun e => by have := hHL b e; have := hb.1; omega⟩))) h3
theorem wpList_append_row {ops : Array Oper} {rest : List Oper} {o : Oper} {a : Act} {Q : Exit → Act → World → Prop} {W : World} (mem : Bool) (hgd : o.guard = none) (s x : Operand)
    (ho : o.op = .call { callee := .builtin .append, args := #[s, x], argTypes := #[tsM mem, tsM mem] })
    (base H : Nat) (L : Value) (t : JT) (k : Nat) (hs : a.eval s = L) (hrow : RowJ base mem W L t k) (hk : k ≤ 1000000) (hbH : base ≤ H) (hHL : ∀ b, L.ownBlock = some b → b < H) (hHW : H ≤ W.heap.size)
    (e : List Value) (hkey : if mem then (t.fall k).key.length ≤ 140737488355328 else (t.fall k).key = []) (C : Array Value) (T : TypeId) (hT : T = tyM mem) (hC : C = (newC mem (t.fall k).key e).toArray)
    (hx : a.eval x = .slice (some ⟨W.heap.size, 0, none⟩) 1 1) (hc : JCs (fun b => H ≤ b ∧ b < W.heap.size) W e (t.fall k).val)
    (h : ∀ A c w', RowJ base mem w' (.slice A (k + 1) c) t (k + 1) → W.grownBy w' L.ownBlock → wpList Tryz.prog ops Q rest (a.put o.dst (.slice A (k + 1) c)) w') :
    wpList Tryz.prog ops Q (o :: rest) a (W.alloc (.cells C T)) := by
  subst hT hC
  refine wpList_plain hgd fun K hK => wp_append_row mem s x ho base H L t k hs (hrow.alloc _) hk hbH hHL (by simp; omega) W.heap.size e hkey hx (Blk.new W _ _) ?_ ?_
  · exact hc.stay (fun b o hb => ((Below.refl _ _).alloc (Nat.le_refl _) _ : Below W.heap.size W _).cell (p := ⟨b, o, none⟩) hb.2) (fun b hb => ⟨hb.1, by simp; omega⟩)
  · intro A c w' h1 h2
    exact hK _ _ (h A c w' h1 ⟨h2.os, h2.tape, h2.output, Nat.le_trans (by simp) h2.size, fun k hk hne => (h2.block k (by simp; omega) hne).trans (heap_alloc_old W _ hk)⟩)
theorem step_append_row {ops : Array Oper} {o : Oper} {a : Act} {K : Act → World → Prop} {Q : Exit → Act → World → Prop} {E : Prop} {W : World} (mem : Bool) (hgd : o.guard = none) (s x : Operand)
    (ho : o.op = .call { callee := .builtin .append, args := #[s, x], argTypes := #[tsM mem, tsM mem] })
    (w0 w6 : World) (hb6 : Below w6.heap.size w6 W) (H : Nat) (L : Value) (t : JT) (k : Nat) (hs : a.eval s = L) (hrow : RowJ w0.heap.size mem w6 L t k) (hb0 : Below w0.heap.size w0 w6) (hk : k ≤ 1000000) (hbH : w0.heap.size ≤ H) (hHL : ∀ b, L.ownBlock = some b → b < H) (hHW : H ≤ w6.heap.size)
    (e : List Value) (hkey : if mem then (t.fall k).key.length ≤ 140737488355328 else (t.fall k).key = []) (B : Nat)
    (hx : a.eval x = .slice (some ⟨B, 0, none⟩) 1 1) (hB : Blk W B (tyM mem) (newC mem (t.fall k).key e)) (hc : JCs (fun b => H ≤ b ∧ b < w6.heap.size) w6 e (t.fall k).val)
    (h : ∀ A c w', RowJ w0.heap.size mem w' (.slice A (k + 1) c) t (k + 1) → Below w0.heap.size w0 w' → (∀ b, b < w6.heap.size → L.ownBlock ≠ some b → w'.heap[b]? = w6.heap[b]?) → K (a.put o.dst (.slice A (k + 1) c)) w') :
    if Region.wanted o (yielded ops a.tmps) = true then Oper.wp Tryz.prog o a W K Q else E := by
  have hw : Region.wanted o (yielded ops a.tmps) = true := by simp [Region.wanted, hgd]
  rw [if_pos hw]
  refine wp_append_row mem s x ho w0.heap.size H L t k hs (hrow.below hb6) hk hbH hHL (Nat.le_trans hHW hb6.size) B e hkey hx hB ?_ ?_
  · exact hc.stay (fun b o hb => hb6.cell (p := ⟨b, o, none⟩) hb.2) (fun b hb => ⟨hb.1, Nat.lt_of_lt_of_le hb.2 hb6.size⟩)
  · intro A c w' h1 h2
    exact h A c w' h1 (RowJ.grown (hb0.then_ hb6) (hrow.below hb6) h2 (Nat.le_trans hb0.size hb6.size)) (fun b hb hne => (h2.block b (Nat.lt_of_lt_of_le hb hb6.size) (fun e => hne e.symm)).trans (hb6.block b hb))
def VNew (lo : Nat) (w : World) (v : Jv) (A B : Option Addr) (nl cl nm cm : Nat) : Prop :=
  Room nl cl v.l.ext ∧ Room nm cm v.m.ext ∧ JSl (fun b => lo ≤ b ∧ b < w.heap.size) w false A v.l ∧ JSl (fun b => lo ≤ b ∧ b < w.heap.size) w true B v.m ∧ Fit v.kd v.n v.s
theorem VNew.ok {lo : Nat} {w : World} {v : Jv} {A B : Option Addr} {nl cl nm cm : Nat} (h : VNew lo w v A B nl cl nm cm) : VOk w v A B nl cl nm cm :=
  ⟨h.1, h.2.1, h.2.2.1.stay (fun _ _ _ => rfl) (fun _ hb => hb.2), h.2.2.2.1.stay (fun _ _ _ => rfl) (fun _ hb => hb.2), h.2.2.2.2⟩
theorem VNew.cs {lo : Nat} {w : World} {v : Jv} {A B : Option Addr} {nl cl nm cm : Nat} (h : VNew lo w v A B nl cl nm cm) :
    JCs (fun b => lo ≤ b ∧ b < w.heap.size) w [.int .i64 v.kd, .bool v.is, .int .i64 v.n, strV v.s, .slice A nl cl, .slice B nm cm] v := ⟨A, nl, cl, B, nm, cm, rfl, h.1, h.2.1, h.2.2.1, h.2.2.2.1, h.2.2.2.2⟩
end Go.Proofs.YtajkgcmopmpihaaGreatDoor
namespace Go.Proofs.YtajkgcmopmpihaaGreatDoor
open Go.ChangeShapes Go.WideShapes Go.ChangeAt Go.RowKit Go.IntWalk
set_option linter.unusedVariables false
set_option maxRecDepth 100000
def JT.snoc : JT → List UInt8 → Jv → JT
  | .nil, key, v => JT.one key v .nil
  | .cons k kd is n s l m r, key, v => .cons k kd is n s l m (r.snoc key v)
theorem snoc_ext : ∀ (t : JT) (key : List UInt8) (v : Jv), (t.snoc key v).ext = t.ext + 1
  | .nil, key, v => rfl
  | .cons k kd is n s l m r, key, v => by simp only [JT.snoc, JT.ext, snoc_ext r key v]
theorem snoc_lt : ∀ (t : JT) (key : List UInt8) (v : Jv) (i : Nat), i < t.ext → ((t.snoc key v).fall i).key = (t.fall i).key ∧ ((t.snoc key v).fall i).val = (t.fall i).val
  | .nil, key, v, i, h => absurd h (by simp [JT.ext])
  | .cons k kd is n s l m r, key, v, 0, h => ⟨rfl, rfl⟩
  | .cons k kd is n s l m r, key, v, i + 1, h => snoc_lt r key v i (by simp [JT.ext] at h; omega)
theorem snoc_at : ∀ (t : JT) (key : List UInt8) (v : Jv), ((t.snoc key v).fall t.ext).key = key ∧ ((t.snoc key v).fall t.ext).val = v
  | .nil, key, v => ⟨rfl, rfl⟩
  | .cons k kd is n s l m r, key, v => snoc_at r key v
def mapV (t : JT) : Jv := ⟨5, false, 0, [], .nil, t⟩
theorem ownsRow_below {base n sz : Nat} {T : TypeId} {w w' : World} {L : Value} {cs : List Value} (h : w.ownsRow base T sz L n cs) (hg : Below w.heap.size w w') : w'.ownsRow base T sz L n cs := by
  refine ⟨h.1, ?_⟩
  rcases h.2 with h2 | ⟨g, cap, cur, hv, hb, hh, r⟩
  · exact .inl h2
  · exact .inr ⟨g, cap, cur, hv, hb, by rw [hg.block g ((Array.getElem?_eq_some_iff.1 hh).1)]; exact hh, r⟩
theorem ownsRow_set {base n sz g2 o : Nat} {T : TypeId} {w : World} {L v : Value} {cs : List Value} (h : w.ownsRow base T sz L n cs) (hg : g2 < base) : (w.setCell ⟨g2, o, none⟩ v).ownsRow base T sz L n cs := by
  refine ⟨h.1, ?_⟩
  rcases h.2 with h2 | ⟨g, cap, cur, hv, hb, hh, r⟩
  · exact .inl h2
  · exact .inr ⟨g, cap, cur, hv, hb, (Deep.blk_setCell_other _ _ _ _ (show g ≠ g2 by omega)).trans hh, r⟩
theorem cell_far {w : World} {g k b o : Nat} {v : Value} (h : b ≠ g) : (w.setCell ⟨g, k, none⟩ v).cell? ⟨b, o, none⟩ = w.cell? ⟨b, o, none⟩ := World.cell?_of_block (w := w) (Deep.blk_setCell_other _ _ _ _ h)
theorem fit_map : Fit 5 0 [] := by unfold Fit; decide
def VPar (P : Nat → Prop) (w : World) (v : Jv) (A B : Option Addr) (nl cl nm cm : Nat) : Prop := Room nl cl v.l.ext ∧ Room nm cm v.m.ext ∧ JSl P w false A v.l ∧ JSl P w true B v.m ∧ Fit v.kd v.n v.s
theorem VPar.to {P Q : Nat → Prop} {w w' : World} {v : Jv} {A B : Option Addr} {nl cl nm cm : Nat} (h : VPar P w v A B nl cl nm cm) (hc : ∀ b o, P b → w'.cell? ⟨b, o, none⟩ = w.cell? ⟨b, o, none⟩) (hq : ∀ b, P b → Q b) : VPar Q w' v A B nl cl nm cm :=
  ⟨h.1, h.2.1, h.2.2.1.stay hc hq, h.2.2.2.1.stay hc hq, h.2.2.2.2⟩
theorem VPar.ok {P : Nat → Prop} {w : World} {v : Jv} {A B : Option Addr} {nl cl nm cm : Nat} (h : VPar P w v A B nl cl nm cm) (hP : ∀ b, P b → b < w.heap.size) : VOk w v A B nl cl nm cm := VPar.to h (fun _ _ _ => rfl) hP
end Go.Proofs.YtajkgcmopmpihaaGreatDoor
namespace Go.Proofs.YtajkgcmopmpihaaGreatDoor
open Go.Maps Go.RowKit Go.MapKept Go.ChangeMaps
set_option linter.unusedVariables false
def tokR (v : Value) : Option (DataW Value × List MemPlace) := some (.held v, [])
def Mp (P : Program) (k : TypeId) (w : World) (b : Nat) (m : List UInt8 → Option Value) (n : Nat) : Prop :=
  ∃ D, w.ownsMap P k tokR b n D ∧ Maps.size D = n ∧ (∀ s, Maps.has D (.string s) = (m s).isSome) ∧ ∀ s v, m s = some v → ∀ z, D.atKey (.string s) z = .held v
def mUpd {α : Type} (m : List UInt8 → Option α) (s : List UInt8) (v : α) : List UInt8 → Option α := fun x => if x = s then some v else m x
theorem mUpd_same {α : Type} (m : List UInt8 → Option α) (s : List UInt8) (v : α) : mUpd m s v s = some v := if_pos rfl
theorem mUpd_other {α : Type} (m : List UInt8 → Option α) {s x : List UInt8} (v : α) (h : x ≠ s) : mUpd m s v x = m x := if_neg h
def mDel {α : Type} (m : List UInt8 → Option α) (s : List UInt8) : List UInt8 → Option α := fun x => if x = s then none else m x
section
variable {P : Program} {k : TypeId} {w : World} {b n : Nat} {m : List UInt8 → Option Value}
theorem keyS (hk : P.underlying k = some .string) {s : List UInt8} (hs : s.length ≤ maxLen) : keyOf P k (.string ⟨s.toArray⟩) = some (.string s) := by
  have : (⟨s.toArray⟩ : ByteArray).size ≤ maxLen := hs
  simp [keyOf, hk, mapKey, this]
theorem keyS_inv (hk : P.underlying k = some .string) {v : Value} {kl : Lit} (h : keyOf P k v = some kl) : ∃ s : List UInt8, v = .string ⟨s.toArray⟩ ∧ kl = .string s ∧ s.length ≤ maxLen := by
  cases v <;> simp [keyOf, hk, mapKey] at h
  rename_i a
  obtain ⟨⟨l⟩⟩ := a
  obtain ⟨h1, h2⟩ := h
  exact ⟨l, rfl, h2.symm, h1⟩
theorem owns_size {D : DataW Value} (h : w.ownsMap P k tokR b n D) : w.ownsMap P k tokR b (Maps.size D) D := by
  obtain ⟨es, clock, hb, F, hs, rfl⟩ := h
  exact ⟨es, clock, hb, F, by simp [Maps.size, length_sorted], rfl⟩
theorem Mp.made (P : Program) (k : TypeId) (w : World) : Mp P k (w.alloc (.map #[] 0)) w.heap.size (fun _ => none) 0 :=
  ⟨.map [], World.ownsMap_made w P k tokR, rfl, fun _ => rfl, fun _ _ h => by cases h⟩
theorem Mp.lt (h : Mp P k w b m n) : b < w.heap.size := by obtain ⟨D, h, _⟩ := h; exact h.lt
theorem Mp.stay {w' : World} (h : Mp P k w b m n) (hb : w'.heap[b]? = w.heap[b]?) : Mp P k w' b m n := by
  obtain ⟨D, ⟨es, clock, h1, F, h2, h3⟩, h4⟩ := h
  exact ⟨D, ⟨es, clock, hb.trans h1, F, h2, h3⟩, h4⟩
theorem Mp.below {w' : World} {B : Nat} (h : Mp P k w b m n) (hb : Below B w w') (hB : b < B) : Mp P k w' b m n := h.stay (hb.block b hB)
theorem Mp.later {w' : World} (h : Mp P k w b m n) (hb : Below w.heap.size w w') : Mp P k w' b m n := h.below hb h.lt
theorem Mp.alloc (h : Mp P k w b m n) (o : Obj) : Mp P k (w.alloc o) b m n := h.later ((Below.refl _ _).alloc (Nat.le_refl _) _)
theorem Mp.look_ok {t e : TypeId} (h : Mp P k w b m n) (hk : P.underlying k = some .string) (ht : P.underlying t = some (.map k e)) {z : Value} (hz : (zeroValue e).run P w = .ok z w) {s : List UInt8} (hs : s.length ≤ maxLen) :
    (Instr.lookup t (.map (some b)) (.string ⟨s.toArray⟩) true).run P w = .ok (.tuple #[(m s).getD z, .bool (m s).isSome]) w := by
  obtain ⟨D, h, _, h1, h2⟩ := h
  obtain ⟨v, ps, h3, h4⟩ := h.look_ok (string_keyed hk) ht hz (zd := .held z) (zp := []) rfl (keyS hk hs)
  rw [h3, h1]
  have : v = (m s).getD z := by
    unfold tokR at h4
    injection h4 with h4
    injection h4 with h4 _
    cases hm : m s with
    | some u => rw [h2 s u hm] at h4; injection h4
    | none =>
      have : Maps.has D (.string s) = false := by rw [h1, hm]; rfl
      rw [Maps.atKey_of_not_has this] at h4; injection h4
  rw [this]
theorem Mp.len {t e : TypeId} (h : Mp P k w b m n) (ht : P.underlying t = some (.map k e)) (ty : TypeId) : (Builtin.len_ #[t] ty #[.map (some b)]).run P w = .ok (.int .i64 n) w := by
  obtain ⟨D, h, rfl, _⟩ := h
  exact h.len ht ty
structure Turn (w w' : World) (b : Nat) : Prop where
  os : w'.os = w.os
  tape : w'.tape = w.tape
  output : w'.output = w.output
  size : w'.heap.size = w.heap.size
  block : ∀ i, i ≠ b → w'.heap[i]? = w.heap[i]?
theorem Turn.of {w' : World} (h : w.mapTurned w' b) : Turn w w' b := by
  obtain ⟨es, c, es', c', hb, rfl⟩ := h
  exact ⟨rfl, rfl, rfl, by simp [setBlock], fun i hi => heap_setBlock_other hb _ hi⟩
theorem Turn.below {w' : World} {B : Nat} (h : Turn w w' b) (hB : B ≤ b) : Below B w w' := ⟨h.os, h.tape, h.output, by rw [h.size]; exact Nat.le_refl _, fun i hi => h.block i (by omega)⟩
theorem Mp.upd_of {D : DataW Value} {kl : Lit} {v : Value} {s : List UInt8} {w' : World} (hkl : kl = .string s) {n' : Nat} (ho : w'.ownsMap P k tokR b n' (D.put kl (.held v))) (hT : Maps.Tidy D) (hsz : Maps.size D = n) (h1 : ∀ s, Maps.has D (.string s) = (m s).isSome) (h2 : ∀ s v, m s = some v → ∀ z, D.atKey (.string s) z = .held v) :
    Mp P k w' b (mUpd m s v) (if (m s).isSome then n else n + 1) := by
  subst hkl
  have hIK : WideAt.IsKeyLit (.string s) := trivial
  have hsz2 : Maps.size (D.put (.string s) (.held v)) = if (m s).isSome then n else n + 1 := by rw [Maps.size_put hT, h1 s, hsz]
  have := owns_size ho
  rw [hsz2] at this
  refine ⟨_, this, hsz2, fun x => ?_, fun x u hx z => ?_⟩
  · by_cases hxs : x = s
    · subst hxs; rw [mUpd_same]; exact Maps.has_put_same hT.isMap hIK _
    · rw [mUpd_other m v hxs, Maps.has_put_other (fun e => hxs (by injection e)), h1]
  · by_cases hxs : x = s
    · subst hxs; rw [mUpd_same] at hx; injection hx with hx; subst hx; exact Maps.atKey_put_same hT.isMap hIK _ _
    · rw [mUpd_other m v hxs] at hx; rw [Maps.atKey_put_other (fun e => hxs (by injection e))]; exact h2 x u hx z
theorem Mp.store {t e : TypeId} (h : Mp P k w b m n) (hk : P.underlying k = some .string) (ht : P.underlying t = some (.map k e)) (hn : n < maxLen) {s : List UInt8} (hs : s.length ≤ maxLen) (v : Value) :
    ∃ w', (Instr.mapUpdate t (.map (some b)) (.string ⟨s.toArray⟩) v).run P w = .ok () w' ∧ Mp P k w' b (mUpd m s v) (if (m s).isSome then n else n + 1) ∧ Turn w w' b := by
  obtain ⟨D, h, hsz, h1, h2⟩ := h
  have hT := h.tidy (string_keyed hk)
  obtain ⟨w', h3, h4, h5⟩ := h.store (string_keyed hk) ht hn (keyS hk hs) (val := v) (d := .held v) (ps := []) rfl
  exact ⟨w', h3, Mp.upd_of rfl h4 hT hsz h1 h2, Turn.of h5⟩
theorem Mp.drop {t e : TypeId} (h : Mp P k w b m n) (hk : P.underlying k = some .string) (ht : P.underlying t = some (.map k e)) {s : List UInt8} (hs : s.length ≤ maxLen) (ty : TypeId) :
    ∃ w', (Builtin.delete_ #[t, k] ty #[.map (some b), .string ⟨s.toArray⟩]).run P w = .ok (.tuple #[]) w' ∧ Mp P k w' b (mDel m s) (if (m s).isSome then n - 1 else n) ∧ Turn w w' b := by
  obtain ⟨D, h, hsz, h1, h2⟩ := h
  have hT := h.tidy (string_keyed hk)
  obtain ⟨w', h3, h4, h5⟩ := h.drop (string_keyed hk) ht (keyS hk hs) ty
  have hsd := Maps.size_del (k := .string s) hT
  rw [h1 s, hsz] at hsd
  have hs2 : Maps.size (D.del (.string s)) = if (m s).isSome then n - 1 else n := by
    cases hm : (m s).isSome with
    | true => rw [hm] at hsd; simp only [if_true] at hsd ⊢; omega
    | false => rw [hm] at hsd; simp at hsd ⊢; exact hsd
  have h6 := owns_size h4
  rw [hs2] at h6
  refine ⟨w', h3, ⟨_, h6, hs2, fun x => ?_, fun x u hx z => ?_⟩, Turn.of h5⟩
  · by_cases hxs : x = s
    · subst hxs; rw [Maps.has_del_same]; simp [mDel]
    · rw [Maps.has_del_other (fun e => hxs (by injection e)), h1]; simp [mDel, hxs]
  · by_cases hxs : x = s
    · subst hxs; simp [mDel] at hx
    · rw [Maps.atKey_del_other (fun e => hxs (by injection e))]; simp only [mDel, if_neg hxs] at hx; exact h2 x u hx z
def Rg (P : Program) (k : TypeId) (w : World) (b r : Nat) (m : List UInt8 → Option Value) (n : Nat) (left : List UInt8 → Bool) (cnt : Nat) : Prop :=
  ∃ D lf, w.ranges P k tokR b r n D lf cnt ∧ Maps.size D = n ∧ (∀ s, Maps.has D (.string s) = (m s).isSome) ∧ (∀ s v, m s = some v → ∀ z, D.atKey (.string s) z = .held v) ∧ ∀ s, lf (.string s) = left s
variable {r cnt : Nat} {left : List UInt8 → Bool}
theorem Rg.lt (h : Rg P k w b r m n left cnt) : r < w.heap.size ∧ b < w.heap.size ∧ r ≠ b := by obtain ⟨D, lf, h, _⟩ := h; exact ⟨h.lt, h.owns.lt, h.ne⟩
theorem Rg.stay {w' : World} (h : Rg P k w b r m n left cnt) (hb : w'.heap[b]? = w.heap[b]?) (hr : w'.heap[r]? = w.heap[r]?) : Rg P k w' b r m n left cnt := by
  obtain ⟨D, lf, ⟨es, clock, since, seen, c0, g1, F, g2, g3, g4, rest⟩, h2⟩ := h
  exact ⟨D, lf, ⟨es, clock, since, seen, c0, hb.trans g1, F, g2, g3, hr.trans g4, rest⟩, h2⟩
theorem Rg.below {w' : World} {B : Nat} (h : Rg P k w b r m n left cnt) (hb : Below B w w') (h1 : b < B) (h2 : r < B) : Rg P k w' b r m n left cnt := h.stay (hb.block b h1) (hb.block r h2)
theorem Rg.later {w' : World} (h : Rg P k w b r m n left cnt) (hb : Below w.heap.size w w') : Rg P k w' b r m n left cnt := h.below hb h.lt.2.1 h.lt.1
theorem Mp.range {t e : TypeId} (h : Mp P k w b m n) (hk : P.underlying k = some .string) (ht : P.underlying t = some (.map k e)) :
    ∃ w', (Instr.range t (.map (some b))).run P w = .ok (.pointer (some ⟨w.heap.size, 0, none⟩)) w' ∧ Rg P k w' b w.heap.size m n (fun s => (m s).isSome) n ∧ Below w.heap.size w w' ∧ w'.heap.size = w.heap.size + 1 := by
  obtain ⟨D, h, hsz, h1, h2⟩ := h
  obtain ⟨w', h3, h4, h5, h6⟩ := h.range (string_keyed hk) ht
  rw [hsz] at h4
  exact ⟨w', h3, ⟨D, _, h4, hsz, h1, h2, fun s => h1 s⟩, ⟨h5.os, h5.tape, h5.output, h5.size, fun i hi => h5.block i hi (by simp)⟩, h6⟩
theorem Rg.next (h : Rg P k w b r m n left cnt) (hk : P.underlying k = some .string) (ty : TypeId) :
    (cnt = 0 ∧ (∀ s, left s = false) ∧ (Instr.next (.pointer (some ⟨r, 0, none⟩)) false ty).run P w = .ok (.tuple #[.bool false]) w) ∨
    ∃ s v w' cnt', left s = true ∧ m s = some v ∧ s.length ≤ maxLen ∧ (Instr.next (.pointer (some ⟨r, 0, none⟩)) false ty).run P w = .ok (.tuple #[.bool true, .string ⟨s.toArray⟩, v]) w' ∧
      Rg P k w' b r m n (fun x => left x && !(x == s)) cnt' ∧ cnt' < cnt ∧ Turn w w' r ∧ (Instr.entry (.pointer (some ⟨r, 0, none⟩))).run P w' = .ok (.tuple #[.string ⟨s.toArray⟩, v]) w' := by
  obtain ⟨D, lf, h, hsz, h1, h2, h3⟩ := h
  rcases h.next (string_keyed hk) ty with ⟨h4, h5, h6⟩ | ⟨key, v, kl, y, w', cnt', hkey, hl, hv, hat, hrun, hrg, hlt, hgr, hs, hen⟩
  · exact .inl ⟨h4, fun s => by rw [← h3]; exact h5 _, h6⟩
  · obtain ⟨s, rfl, rfl, hs2⟩ := keyS_inv hk hkey
    have hv2 : y = (.held v, []) := by unfold tokR at hv; injection hv with hv; exact hv.symm
    subst hv2
    have hms : m s = some v := by
      cases hm : m s with
      | none =>
        have hf : Maps.has D (.string s) = false := by rw [h1, hm]; rfl
        have := hat .nil
        rw [Maps.atKey_of_not_has hf] at this
        cases this
      | some u =>
        have := h2 s u hm .nil
        rw [hat] at this
        injection this with this
        rw [this]
    refine .inr ⟨s, v, w', cnt', by rw [← h3]; exact hl, hms, hs2, hrun, ⟨D, _, hrg, hsz, h1, h2, fun x => ?_⟩, hlt, ⟨hgr.os, hgr.tape, hgr.output, hs, fun i hi => ?_⟩, hen⟩
    · show (lf (.string x) && !(Lit.sameKey (.string x) (.string s))) = _
      rw [h3]; rfl
    · by_cases hi2 : i < w.heap.size
      · exact hgr.block i hi2 (by simpa using hi)
      · rw [Array.getElem?_eq_none (by omega), Array.getElem?_eq_none (by omega)]
end
end Go.Proofs.YtajkgcmopmpihaaGreatDoor
namespace Go.Proofs.YtajkgcmopmpihaaGreatDoor
open Go.Lib
set_option linter.unusedVariables false
def NoR (l : List UInt8) : Prop := (decodeL l).1 = 65533 ∧ (decodeL l).2 = 1
instance (l : List UInt8) : Decidable (NoR l) := by unfold NoR; infer_instance
def runeF (l : List UInt8) : Nat × Nat := if l = [] ∨ NoR l then (0, 0) else decodeL l
theorem runeF_nil : runeF [] = (0, 0) := by simp [runeF]
theorem runeF_of {l : List UInt8} (h : l ≠ []) : runeF l = if NoR l then (0, 0) else decodeL l := by simp [runeF, h]
def refN (n b0 b1 b2 b3 : Nat) : Nat × Nat := if (decodeN n b0 b1 b2 b3).1 = 65533 ∧ (decodeN n b0 b1 b2 b3).2 = 1 then (0, 0) else decodeN n b0 b1 b2 b3
theorem runeF_N {l : List UInt8} (h : l ≠ []) : runeF l = refN l.length (l.getD 0 0).toNat (l.getD 1 0).toNat (l.getD 2 0).toNat (l.getD 3 0).toNat := by
  rw [runeF_of h]; unfold NoR refN; simp only [decodeL_N]
theorem ref_1 {n b0 b1 b2 b3 : Nat} (h : b0 < 128) : refN n b0 b1 b2 b3 = (b0, 1) := by
  have : decodeN n b0 b1 b2 b3 = (b0, 1) := by simp [decodeN, h]
  unfold refN; rw [this]; simp; omega
theorem ref_0 {n b0 b1 b2 b3 : Nat} (h0 : b0 < 256) (h : 128 ≤ b0 ∧ b0 < 192 ∨ 248 ≤ b0) : refN n b0 b1 b2 b3 = (0, 0) := by
  have : decodeN n b0 b1 b2 b3 = (65533, 1) := by
    unfold decodeN
    rw [if_neg (by omega), if_neg (by omega), if_neg (by omega), if_neg (by omega)]
  unfold refN; rw [this]; simp
def okC (least c : Nat) : Bool := decide (least ≤ c ∧ c ≤ 1114111 ∧ (c < 55296 ∨ 57343 < c))
def contB (b : Nat) : Bool := decide (128 ≤ b ∧ b < 192)
set_option maxHeartbeats 2000000 in
theorem ref_2 {n b0 b1 b2 b3 : Nat} (h : 192 ≤ b0 ∧ b0 < 224) : refN n b0 b1 b2 b3 =
    if 2 ≤ n ∧ contB b1 = true ∧ okC 128 (b0 % 32 * 64 + b1 % 64) = true then (b0 % 32 * 64 + b1 % 64, 2) else (0, 0) := by
  have e : decodeN n b0 b1 b2 b3 = if 1 < n ∧ b1 / 64 = 2 then (if b0 % 32 * 64 + b1 % 64 ≥ 128 then (b0 % 32 * 64 + b1 % 64, 2) else (65533, 1)) else (65533, 1) := by
    unfold decodeN
    have a1 : b0 / 32 = 6 := by omega
    rw [if_neg (by omega)]
    simp only [a1, true_and]
    by_cases hc : 1 < n ∧ b1 / 64 = 2
    · rw [if_pos hc, if_pos hc]
    · rw [if_neg hc, if_neg hc, if_neg (by omega), if_neg (by omega)]
  unfold refN; rw [e]
  simp only [okC, contB, decide_eq_true_eq]
  repeat' split
  all_goals first | rfl | (exfalso; omega) | (exfalso; simp_all <;> omega)
set_option maxHeartbeats 2000000 in
theorem ref_3 {n b0 b1 b2 b3 : Nat} (h : 224 ≤ b0 ∧ b0 < 240) : refN n b0 b1 b2 b3 =
    if 3 ≤ n ∧ contB b1 = true ∧ contB b2 = true ∧ okC 2048 ((b0 % 16 * 64 + b1 % 64) * 64 + b2 % 64) = true then ((b0 % 16 * 64 + b1 % 64) * 64 + b2 % 64, 3) else (0, 0) := by
  have e : decodeN n b0 b1 b2 b3 = if (1 < n ∧ b1 / 64 = 2) ∧ (2 < n ∧ b2 / 64 = 2) then
    (if b0 % 16 * 4096 + b1 % 64 * 64 + b2 % 64 ≥ 2048 ∧ (b0 % 16 * 4096 + b1 % 64 * 64 + b2 % 64 < 55296 ∨ (57344 ≤ b0 % 16 * 4096 + b1 % 64 * 64 + b2 % 64 ∧ b0 % 16 * 4096 + b1 % 64 * 64 + b2 % 64 ≤ 1114111))
     then (b0 % 16 * 4096 + b1 % 64 * 64 + b2 % 64, 3) else (65533, 1)) else (65533, 1) := by
    unfold decodeN
    have a1 : b0 / 16 = 14 := by omega
    rw [if_neg (by omega), if_neg (by omega)]
    simp only [a1, true_and]
    rw [if_neg (show ¬ (b0 / 8 = 30 ∧ _) by omega)]
  have ec : (b0 % 16 * 64 + b1 % 64) * 64 + b2 % 64 = b0 % 16 * 4096 + b1 % 64 * 64 + b2 % 64 := by omega
  unfold refN; rw [e, ec]
  generalize hC : b0 % 16 * 4096 + b1 % 64 * 64 + b2 % 64 = C
  simp only [okC, contB, decide_eq_true_eq]
  repeat' split
  all_goals first | rfl | (exfalso; omega) | (exfalso; simp_all <;> omega)
set_option maxHeartbeats 2000000 in
theorem ref_4 {n b0 b1 b2 b3 : Nat} (h : 240 ≤ b0 ∧ b0 < 248) : refN n b0 b1 b2 b3 =
    if 4 ≤ n ∧ contB b1 = true ∧ contB b2 = true ∧ contB b3 = true ∧ okC 65536 (((b0 % 8 * 64 + b1 % 64) * 64 + b2 % 64) * 64 + b3 % 64) = true then (((b0 % 8 * 64 + b1 % 64) * 64 + b2 % 64) * 64 + b3 % 64, 4) else (0, 0) := by
  have e : decodeN n b0 b1 b2 b3 = if (1 < n ∧ b1 / 64 = 2) ∧ (2 < n ∧ b2 / 64 = 2) ∧ (3 < n ∧ b3 / 64 = 2) then
    (if b0 % 8 * 262144 + b1 % 64 * 4096 + b2 % 64 * 64 + b3 % 64 ≥ 65536 ∧ (b0 % 8 * 262144 + b1 % 64 * 4096 + b2 % 64 * 64 + b3 % 64 < 55296 ∨ (57344 ≤ b0 % 8 * 262144 + b1 % 64 * 4096 + b2 % 64 * 64 + b3 % 64 ∧ b0 % 8 * 262144 + b1 % 64 * 4096 + b2 % 64 * 64 + b3 % 64 ≤ 1114111))
     then (b0 % 8 * 262144 + b1 % 64 * 4096 + b2 % 64 * 64 + b3 % 64, 4) else (65533, 1)) else (65533, 1) := by
    unfold decodeN
    have a1 : b0 / 8 = 30 := by omega
    rw [if_neg (by omega), if_neg (by omega), if_neg (by omega)]
    simp only [a1, true_and]
  have ec : ((b0 % 8 * 64 + b1 % 64) * 64 + b2 % 64) * 64 + b3 % 64 = b0 % 8 * 262144 + b1 % 64 * 4096 + b2 % 64 * 64 + b3 % 64 := by omega
  unfold refN; rw [e, ec]
  generalize hC : b0 % 8 * 262144 + b1 % 64 * 4096 + b2 % 64 * 64 + b3 % 64 = C
  simp only [okC, contB, decide_eq_true_eq]
  repeat' split
  all_goals first | rfl | (exfalso; omega) | (exfalso; simp_all <;> omega)
theorem noR_iff (l : List UInt8) (hne : l ≠ []) (h : (decodeL l).1 = 65533) : NoR l ↔ hasPrefix l [239, 191, 189] = false := by
  constructor
  · intro hn
    cases hp : hasPrefix l [239, 191, 189]
    · rfl
    · exfalso
      obtain ⟨t, rfl⟩ : ∃ t, l = 239 :: 191 :: 189 :: t := by
        match l, hp with
        | a :: b :: c :: t, hp => simp [hasPrefix] at hp; obtain ⟨rfl, rfl, rfl⟩ := hp; exact ⟨t, rfl⟩
        | [], hp => simp [hasPrefix] at hp
        | [_], hp => simp [hasPrefix] at hp
        | [_, _], hp => simp [hasPrefix] at hp
      have h2 := hn.2
      rw [decodeL_N] at h2
      have e : decodeN (t.length + 3) 239 191 189 ((239 :: 191 :: 189 :: t : List UInt8).getD 3 0).toNat = (65533, 3) := by
        unfold decodeN
        rw [if_neg (by omega), if_neg (by omega), if_pos (by omega), if_pos (by omega)]
      have e2 : decodeN (239 :: 191 :: 189 :: t : List UInt8).length ((239 :: 191 :: 189 :: t : List UInt8).getD 0 0).toNat ((239 :: 191 :: 189 :: t : List UInt8).getD 1 0).toNat ((239 :: 191 :: 189 :: t : List UInt8).getD 2 0).toNat ((239 :: 191 :: 189 :: t : List UInt8).getD 3 0).toNat = (65533, 3) := e
      rw [e2] at h2
      exact absurd h2 (by decide)
  · intro hp
    by_cases hn : NoR l
    · exact hn
    · exfalso
      have he := encode_decode l hne hn
      rw [h] at he
      have e : encodeRune ((65533 : Nat) : Int) = [239, 191, 189] := by decide
      rw [e] at he
      have hl : l = [239, 191, 189] ++ l.drop (decodeL l).2 := by rw [he, List.take_append_drop]
      rw [hl] at hp
      simp [hasPrefix] at hp
end Go.Proofs.YtajkgcmopmpihaaGreatDoor
