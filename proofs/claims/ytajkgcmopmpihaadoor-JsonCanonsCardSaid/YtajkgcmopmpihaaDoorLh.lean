/- Steps of drawn regions, beside XLg's: reads that hang on old memory, calls that ask for it. No dump. -/
import Derived.Test.YtajkgcmopmpihaaDoorLg
import Derived.Test.YtajkgcmopmpihaaDoorBk
namespace Go.Proofs.YtajkgcmopmpihaaDoor
open Go.ChangeShapes Go.WideShapes Go.ChangeAt Go.RowKit Go.IntWalk
section
variable {P : Program} {ops : Array Oper} {w0 : World} {Lq : Gh → Act → Prop} {o : Oper} {rest : List Oper} {kds : List Kd} {s : Gh} {a : Act}
theorem lg_run (x : Value) (hw : Region.wanted o (yielded ops a.tmps) = true) (h1 : ∀ W, Below w0.heap.size w0 W → (execOp a.eval o).run P W = .ok (.value x) W) (h2 : wpG P ops w0 Lq rest kds s (a.put o.dst x)) : wpG P ops w0 Lq (o :: rest) (.rel (· = x) :: kds) s a :=
  ⟨⟨⟨_, rfl⟩, .inl ⟨hw, fun s W hW => by unfold lsAt; rw [h1 W hW.1]; exact ⟨rfl, rfl⟩⟩⟩, fun v hv => by subst hv; exact h2⟩
theorem lg_skip (hw : Region.wanted o (yielded ops a.tmps) = false) (h2 : wpG P ops w0 Lq rest kds s (a.put o.dst undef)) : wpG P ops w0 Lq (o :: rest) (.rel (· = undef) :: kds) s a :=
  ⟨⟨⟨_, rfl⟩, .inr ⟨hw, rfl⟩⟩, fun v hv => by subst hv; exact h2⟩
theorem lg_call_in (R : Value → Prop) (f : FuncId) (args : Array Value) (hw : Region.wanted o (yielded ops a.tmps) = true) (he : ∀ W, (execOp a.eval o).run P W = .ok (.enter f args) W)
    (hc : ∀ W, Below w0.heap.size w0 W → Calls P f args W (fun e W' => ∃ v, e = .returned v ∧ R v ∧ Below W.heap.size W W')) (h2 : ∀ v, R v → wpG P ops w0 Lq rest kds s (a.put o.dst v)) : wpG P ops w0 Lq (o :: rest) (.rel R :: kds) s a := by
  have hne : ∃ v, R v := by
    obtain ⟨_, _, _, ⟨v, _, hv, _⟩, _⟩ := hc w0 (Below.refl _ _) []; exact ⟨v, hv⟩
  refine ⟨⟨hne, .inl ⟨hw, fun s W hW => ?_⟩⟩, h2⟩
  unfold lsAt
  rw [he]
  exact ⟨rfl, (hc W hW.1).mono fun e W' ⟨v, he, hv, hb⟩ => ⟨v, he, hv, hW.grow hb⟩⟩
theorem lg_callx_in (x : Value) (f : FuncId) (args : Array Value) (hw : Region.wanted o (yielded ops a.tmps) = true) (he : ∀ W, (execOp a.eval o).run P W = .ok (.enter f args) W)
    (hc : ∀ W, Below w0.heap.size w0 W → Calls P f args W (fun e W' => e = .returned x ∧ Below W.heap.size W W')) (h2 : wpG P ops w0 Lq rest kds s (a.put o.dst x)) : wpG P ops w0 Lq (o :: rest) (.rel (· = x) :: kds) s a :=
  lg_call_in _ f args hw he (fun W hW => (hc W hW).mono fun e W' ⟨h1, h2⟩ => ⟨x, h1, rfl, h2⟩) (fun v hv => by subst hv; exact h2)
end
/-- A slice of bytes, as a source of cells. -/
theorem RB.src {w : World} {x o : Nat} {bs : List UInt8} (h : RB w (some ⟨x, o, none⟩) bs) : ∀ j v, (bs.map fun c => Value.int .u8 (c.toNat : Int))[j]? = some v → w.cell? ((⟨x, o, none⟩ : Addr).add j) = some v := by
  intro j v hj
  have hjl : j < bs.length := by
    rcases Nat.lt_or_ge j bs.length with h | h
    · exact h
    · simp [List.getElem?_eq_none h] at hj
  obtain ⟨b, off, h1, _, h3⟩ := h j hjl
  cases h1
  have hplain : (⟨x, o, none⟩ : Addr).add j = ⟨x, o + j, none⟩ := by unfold Addr.add; split <;> simp_all
  rw [hplain, h3]
  simp [hjl] at hj
  subst hj
  simp [List.getD, List.getElem?_eq_getElem hjl]
theorem RB.some {w : World} {A : Option Addr} {bs : List UInt8} (h : RB w A bs) (h0 : 0 < bs.length) : ∃ x o, A = .some ⟨x, o, none⟩ ∧ x < w.heap.size := by
  obtain ⟨b, off, h1, h2, _⟩ := h 0 h0; exact ⟨b, off, h1, h2⟩
end Go.Proofs.YtajkgcmopmpihaaDoor
