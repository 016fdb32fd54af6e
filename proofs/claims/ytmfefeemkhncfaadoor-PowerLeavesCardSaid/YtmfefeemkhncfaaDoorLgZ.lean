/- Steps of drawn regions, beside XLg's, for seats without bytes. No dump. -/
import Derived.Test.YtmfefeemkhncfaaDoorLg
namespace Go.Proofs.YtmfefeemkhncfaaDoor
open Go.ChangeShapes Go.WideShapes Go.ChangeAt Go.RowKit Go.IntWalk
section
variable {P : Program} {ops : Array Oper} {w0 : World} {Lq : Gh → Act → Prop} {o : Oper} {rest : List Oper} {kds : List Kd} {s : Gh} {a : Act}
theorem lg_run (x : Value) (hw : Region.wanted o (yielded ops a.tmps) = true) (h1 : ∀ W, Below w0.heap.size w0 W → (execOp a.eval o).run P W = .ok (.value x) W) (h2 : wpG P ops w0 Lq rest kds s (a.put o.dst x)) : wpG P ops w0 Lq (o :: rest) (.rel (· = x) :: kds) s a :=
  ⟨⟨⟨_, rfl⟩, .inl ⟨hw, fun s W hW => by unfold lsAt; rw [h1 W hW.1]; exact ⟨rfl, rfl⟩⟩⟩, fun v hv => by subst hv; exact h2⟩
theorem lg_skip (hw : Region.wanted o (yielded ops a.tmps) = false) (h2 : wpG P ops w0 Lq rest kds s (a.put o.dst undef)) : wpG P ops w0 Lq (o :: rest) (.rel (· = undef) :: kds) s a :=
  ⟨⟨⟨_, rfl⟩, .inr ⟨hw, rfl⟩⟩, fun v hv => by subst hv; exact h2⟩
theorem lg_call_in (R : Value → Prop) (f : FuncId) (args : Array Value) (hw : Region.wanted o (yielded ops a.tmps) = true) (he : ∀ W, (execOp a.eval o).run P W = .ok (.enter f args) W)
    (hc : ∀ W, Below w0.heap.size w0 W → Calls P f args W (fun e W' => ∃ v, e = .returned v ∧ R v ∧ Below W.heap.size W W')) (h2 : ∀ v, R v → wpG P ops w0 Lq rest kds s (a.put o.dst v)) : wpG P ops w0 Lq (o :: rest) (.rel R :: kds) s a := by
  have hne : ∃ v, R v := by
    obtain ⟨_, _, _, ⟨v, _, hv, _⟩, _⟩ := hc w0 (Below.refl _ _) []; exact ⟨v, hv⟩
  refine ⟨⟨hne, .inl ⟨hw, fun s W hW => ?_⟩⟩, h2⟩
  unfold lsAt
  rw [he]
  exact ⟨rfl, (hc W hW.1).mono fun e W' ⟨v, he, hv, hb⟩ => ⟨v, he, hv, hW.grow hb⟩⟩
theorem lg_callx_in (x : Value) (f : FuncId) (args : Array Value) (hw : Region.wanted o (yielded ops a.tmps) = true) (he : ∀ W, (execOp a.eval o).run P W = .ok (.enter f args) W)
    (hc : ∀ W, Below w0.heap.size w0 W → Calls P f args W (fun e W' => e = .returned x ∧ Below W.heap.size W W')) (h2 : wpG P ops w0 Lq rest kds s (a.put o.dst x)) : wpG P ops w0 Lq (o :: rest) (.rel (· = x) :: kds) s a :=
  lg_call_in _ f args hw he (fun W hW => (hc W hW).mono fun e W' ⟨h1, h2⟩ => ⟨x, h1, rfl, h2⟩) (fun v hv => by subst hv; exact h2)
end
/-- Two variables made in a region, then both stored. -/
theorem let2 {w1 w5 : World} {g k : Nat} {T U : TypeId} {z y cs ds : List Value} (hC : Cg w1 (upd (upd (fun _ => none) g (.cells z.toArray T (0, 0))) k (.cells y.toArray U (0, 0))) w5) (hk : upd (fun _ => none) g (Obj.cells z.toArray T (0, 0)) k = none) (hl : cs.length = z.length) (hm : ds.length = y.length) :
    w5.there g 0 cs.toArray.size ∧ (w5.setCells g 0 cs).there k 0 ds.toArray.size ∧ Below w1.heap.size w1 ((w5.setCells g 0 cs).setCells k 0 ds) ∧ Blk ((w5.setCells g 0 cs).setCells k 0 ds) g T cs ∧ Blk ((w5.setCells g 0 cs).setCells k 0 ds) k U ds ∧ w1.heap.size ≤ g ∧ w1.heap.size ≤ k := by
  have hne : k ≠ g := (upd_none.1 hk).1
  have h := hC.2 g (.cells z.toArray T (0, 0)) (by simp [upd, Ne.symm hne])
  have h2 := hC.2 k (.cells y.toArray U (0, 0)) (by simp [upd])
  have hb : Blk w5 g T z := h.2
  have hb2 : Blk w5 k U y := h2.2
  have hc := hb2.setFar (g2 := g) (Ne.symm hne) 0 cs
  exact ⟨hb.there (by simp [hl]), hc.there (by simp [hm]), blw_cells h2.1 ds 0 _ (blw_cells h.1 cs 0 _ hC.1), (hb.setAll hl).setFar hne 0 ds, hc.setAll hm, h.1, h2.1⟩
end Go.Proofs.YtmfefeemkhncfaaDoor
