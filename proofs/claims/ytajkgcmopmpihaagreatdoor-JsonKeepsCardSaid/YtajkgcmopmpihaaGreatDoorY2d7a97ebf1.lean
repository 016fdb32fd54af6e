/- Texts put together: Ls Lg Lh. -/
import Derived.Test.YtajkgcmopmpihaaGreatDoorYcc66149044
import Derived.Deep.Quiet
import Derived.Deep.QuietTactic
import Derived.BigQuiet
import Derived.WalkKit
import Derived.Below
import Derived.WalkSpells
import Derived.RowKit3
import Derived.Deep.MidRow
import Derived.StillTail
namespace Go.Proofs.YtajkgcmopmpihaaGreatDoor
open Go.RowKit
section
variable {P : Program} {ops : Array Oper} {md : Region.Mode} {C : World → Prop}
def lsUpon (P : Program) (C : World → Prop) (w : World) (R : Value → Prop) : Result Next → Prop
  | .ok (.value u) w' => w' = w ∧ R u
  | .ok .skip w' => w' = w ∧ R undef
  | .ok (.enter f args) w' => w' = w ∧ Calls P f args w (fun e w'' => ∃ v, e = .returned v ∧ R v ∧ C w'')
  | _ => False
def lsAt (P : Program) (o : Oper) (a : Act) (C : World → Prop) (w : World) (R : Value → Prop) : Prop := lsUpon P C w R ((execOp a.eval o).run P w)
def LsIn (P : Program) (ops : Array Oper) (C : World → Prop) (o : Oper) (R : Value → Prop) (a : Act) : Prop :=
  (∃ v, R v) ∧ ((Region.wanted o (yielded ops a.tmps) = true ∧ ∀ w, C w → lsAt P o a C w R) ∨ (Region.wanted o (yielded ops a.tmps) = false ∧ R undef))
def wpLs (P : Program) (ops : Array Oper) (C : World → Prop) (Q : Act → Prop) : List Oper → List (Value → Prop) → Act → Prop
  | [], _, a => Q a
  | o :: rest, R :: Rs, a => LsIn P ops C o R a ∧ ∀ v, R v → wpLs P ops C Q rest Rs (a.put o.dst v)
  | _ :: _, [], _ => False
theorem lsAt_some {o : Oper} {a : Act} {w : World} {R : Value → Prop} (h : lsAt P o a C w R) : ∃ v, R v := by
  unfold lsAt at h
  generalize (execOp a.eval o).run P w = r at h
  cases r with
  | ok n w' =>
    cases n <;> simp only [lsUpon] at h
    case value u => exact ⟨u, h.2⟩
    case skip => exact ⟨undef, h.2⟩
    case enter f args => obtain ⟨_, _, _, ⟨v, _, hv, _⟩, _⟩ := h.2 []; exact ⟨v, hv⟩
  | halt x w' => simp only [lsUpon] at h
theorem ls_nil {Q : Act → Prop} {Rs : List (Value → Prop)} {a : Act} (h : Q a) : wpLs P ops C Q [] Rs a := by unfold wpLs; exact h
theorem ls_cons {Q : Act → Prop} {o : Oper} {rest : List Oper} {R : Value → Prop} {Rs : List (Value → Prop)} {a : Act} {w0 : World} (hC : C w0) (hw : Region.wanted o (yielded ops a.tmps) = true)
    (h1 : ∀ w, C w → lsAt P o a C w R) (h2 : ∀ v, R v → wpLs P ops C Q rest Rs (a.put o.dst v)) : wpLs P ops C Q (o :: rest) (R :: Rs) a :=
  ⟨⟨lsAt_some (h1 w0 hC), .inl ⟨hw, h1⟩⟩, h2⟩
theorem ls_exact {Q : Act → Prop} {o : Oper} {rest : List Oper} {x : Value} {Rs : List (Value → Prop)} {a : Act} (hw : Region.wanted o (yielded ops a.tmps) = true)
    (h1 : ∀ w, C w → lsAt P o a C w (· = x)) (h2 : wpLs P ops C Q rest Rs (a.put o.dst x)) : wpLs P ops C Q (o :: rest) ((· = x) :: Rs) a :=
  ⟨⟨⟨x, rfl⟩, .inl ⟨hw, h1⟩⟩, fun v hv => by subst hv; exact h2⟩
theorem ls_skip {Q : Act → Prop} {o : Oper} {rest : List Oper} {Rs : List (Value → Prop)} {a : Act} (hw : Region.wanted o (yielded ops a.tmps) = false)
    (h2 : wpLs P ops C Q rest Rs (a.put o.dst undef)) : wpLs P ops C Q (o :: rest) ((· = undef) :: Rs) a :=
  ⟨⟨⟨undef, rfl⟩, .inr ⟨hw, rfl⟩⟩, fun v hv => by subst hv; exact h2⟩
def lOp (P : Program) (ops : Array Oper) (C : World → Prop) (F : Nat → Value → Prop) (i : Nat) (K : Act → Prop) (a : Act) : Prop :=
  match ops[i]? with
  | none => K a
  | some o => LsIn P ops C o (F i) a ∧ ∀ v, F i v → K (a.put o.dst v)
theorem lOp_mono {F : Nat → Value → Prop} {i : Nat} {a : Act} {K K' : Act → Prop} (h : ∀ a, K a → K' a) (hh : lOp P ops C F i K a) : lOp P ops C F i K' a := by
  unfold lOp at *
  split
  · exact h _ (by simpa [*] using hh)
  · rename_i o ho
    simp only [ho] at hh
    exact ⟨hh.1, fun v hv => h _ (hh.2 v hv)⟩
def wpAnyLs (P : Program) (md : Region.Mode) (ops : Array Oper) (C : World → Prop) (F : Nat → Value → Prop) (Q : Act → Prop) : Nat → Array Bool → Act → Prop
  | 0, listed, a => Region.ready md ops listed = [] ∧ Q a
  | fuel + 1, listed, a =>
    (Region.ready md ops listed = [] → Q a) ∧
    ∀ i ∈ Region.ready md ops listed, lOp P ops C F i (wpAnyLs P md ops C F Q fuel (listed.setIfInBounds i true)) a
theorem wp_of_ls {o : Oper} {a : Act} {R : Value → Prop} {K' : Act → World → Prop} {Q' : Exit → Act → World → Prop} {w : World} (hw : C w) (h : ∀ v w', R v → C w' → K' (a.put o.dst v) w') (hh : lsAt P o a C w R) : o.wp P a w K' Q' := by
  unfold lsAt at hh
  unfold Oper.wp
  generalize (execOp a.eval o).run P w = r at *
  cases r with
  | ok n w' =>
    cases n <;> simp only [lsUpon] at hh <;> simp only [Oper.upon]
    case value u => obtain ⟨e1, e2⟩ := hh; rw [e1]; exact h _ _ e2 hw
    case skip => obtain ⟨e1, e2⟩ := hh; rw [e1]; exact h _ _ e2 hw
    case enter f args =>
      obtain ⟨e1, hc⟩ := hh
      rw [e1]
      exact hc.mono fun e w'' ⟨v, he, hv, hw''⟩ => by subst he; exact h _ _ hv hw''
  | halt x w' => simp only [lsUpon] at hh
theorem wpOp_of_lOp {F : Nat → Value → Prop} {i : Nat} {a : Act} {K : Act → Prop} {K' : Act → World → Prop} {Q' : Exit → Act → World → Prop} {w : World} (hC : C w) (h : ∀ a w', C w' → K a → K' a w') (hh : lOp P ops C F i K a) : wpOp P ops Q' i K' a w := by
  unfold lOp at hh
  unfold wpOp
  split
  · rename_i ho; simp only [ho] at hh; exact h _ _ hC hh
  · rename_i o ho
    simp only [ho] at hh
    obtain ⟨⟨_, hl⟩, hk⟩ := hh
    rcases hl with ⟨hw, hl⟩ | ⟨hw, hu⟩
    · simp only [hw, if_true]; exact .inl (wp_of_ls hC (fun v w' hv hw' => h _ _ hw' (hk v hv)) (hl w hC))
    · simp only [hw]; exact h _ _ hC (hk undef hu)
theorem wpAny_of_ls {F : Nat → Value → Prop} {Q : Act → Prop} {Q' : Exit → Act → World → Prop} (hQ : ∀ a w, C w → Q a → Q' .normal a w) : ∀ (fuel : Nat) (listed : Array Bool) (a : Act) (w : World), C w →
    wpAnyLs P md ops C F Q fuel listed a → wpAny P md ops Q' fuel listed a w
  | 0, _, _, _, hw, h => ⟨h.1, hQ _ _ hw h.2⟩
  | fuel + 1, _, _, _, hw, h => ⟨fun h0 => hQ _ _ hw (h.1 h0), fun i hi => wpOp_of_lOp hw (fun a' w' hw' => wpAny_of_ls hQ fuel _ a' w' hw') (h.2 i hi)⟩
theorem LsIn.of_same {o : Oper} {R : Value → Prop} {a a' : Act} (hy : LsIn P ops C o R a) (he : execOp a'.eval o = execOp a.eval o)
    (hw : Region.wanted o (yielded ops a'.tmps) = Region.wanted o (yielded ops a.tmps)) : LsIn P ops C o R a' := by
  unfold LsIn lsAt at *
  rw [he, hw]
  exact hy
theorem lOp_put {F : Nat → Value → Prop} {i j : Nat} {oi oj : Oper} (hj : ops[j]? = some oj) (hap : oi.apart ops oj = true)
    (hsi : ∀ cs b, oi.op ≠ .select cs b) (hsj : ∀ cs b, oj.op ≠ .select cs b) {K : Act → Prop} {a : Act}
    (hy : LsIn P ops C oi (F i) a) (h : ∀ v, F i v → lOp P ops C F j K (a.put oi.dst v)) :
    lOp P ops C F j (fun a' => LsIn P ops C oi (F i) a' ∧ ∀ v, F i v → K (a'.put oi.dst v)) a := by
  obtain ⟨h1, h2, h3⟩ := Oper.apart_spec hap
  have keep : ∀ (a : Act), LsIn P ops C oi (F i) a → ∀ u, LsIn P ops C oi (F i) (a.put oj.dst u) := fun a hy u =>
    hy.of_same (execOp_put oi hsi a oj.dst u h3) (wanted_put oi a oj.dst u h3)
  obtain ⟨v0, hv0⟩ := hy.1
  unfold lOp at *
  simp only [hj] at *
  refine ⟨(h v0 hv0).1.of_same (execOp_put oj hsj a oi.dst v0 h1).symm (wanted_put oj a oi.dst v0 h1).symm, fun u hu => ⟨keep a hy u, fun v hv => ?_⟩⟩
  rw [← Act.put_comm a v u h2]
  exact (h v hv).2 u hu
theorem wpAnyLs_first {F : Nat → Value → Prop} {Q : Act → Prop} {i : Nat} {oi : Oper} (hi : ops[i]? = some oi) (hsel : ∀ (j : Nat) (o : Oper) cs b, ops[j]? = some o → o.op ≠ .select cs b) :
    ∀ (fuel : Nat) (listed : Array Bool) (a : Act),
      (∀ j oj, ops[j]? = some oj → j ≠ i → listed.getD j true = false → (∀ e ∈ oj.after, Region.binds md e = true → e.on ≠ i) → oi.apart ops oj = true) →
      i ∈ Region.ready md ops listed → LsIn P ops C oi (F i) a →
      (∀ v, F i v → wpAnyLs P md ops C F Q fuel (listed.setIfInBounds i true) (a.put oi.dst v)) → wpAnyLs P md ops C F Q (fuel + 1) listed a := by
  intro fuel
  induction fuel with
  | zero =>
    intro listed a _ hr hy H
    refine ⟨fun h => (by rw [h] at hr; cases hr), fun j hj => ?_⟩
    by_cases hji : j = i
    · subst hji; unfold lOp; simp only [hi]; exact ⟨hy, H⟩
    · obtain ⟨v0, hv0⟩ := hy.1
      have := ready_mono hj hji
      rw [(H v0 hv0).1] at this
      cases this
  | succ fuel ih =>
    intro listed a hfree hr hy H
    refine ⟨fun h => (by rw [h] at hr; cases hr), fun j hj => ?_⟩
    by_cases hji : j = i
    · subst hji; unfold lOp; simp only [hi]; exact ⟨hy, H⟩
    · have h1 := fun v hv => (H v hv).2 j (ready_mono hj hji)
      obtain ⟨hjun, oj, hoj, hall⟩ := mem_ready.1 hj
      have hnot : ∀ e ∈ oj.after, Region.binds md e = true → e.on ≠ i := fun e he hb heq => by
        have h1 := hall e he hb
        have h0 := (mem_ready.1 hr).1
        rw [heq] at h1
        rcases Nat.lt_or_ge i listed.size with h' | h'
        · simp [h'] at h0 h1; rw [h0] at h1; cases h1
        · simp [Array.getElem?_eq_none h'] at h1
      have h2 := lOp_put hoj (hfree j oj hoj hji hjun hnot) (fun cs b => hsel i oi cs b hi) (fun cs b => hsel j oj cs b hoj) hy h1
      have hfree' : ∀ k ok, ops[k]? = some ok → k ≠ i → (listed.setIfInBounds j true).getD k true = false →
          (∀ e ∈ ok.after, Region.binds md e = true → e.on ≠ i) → oi.apart ops ok = true := fun k ok hk hki hun hno => by
        refine hfree k ok hk hki ?_ hno
        by_cases hjk : j = k
        · subst hjk; exact hjun
        · rw [getD_set_ne true hjk] at hun; exact hun
      refine lOp_mono (fun a' h3 => ih (listed.setIfInBounds j true) a' hfree' (ready_mono hr (Ne.symm hji)) h3.1 (fun v hv => ?_)) h2
      rw [Array.setIfInBounds_comm _ _ hji]
      exact h3.2 v hv
theorem wpAnyLs_lex {F : Nat → Value → Prop} {Q : Act → Prop} (hs : Region.noSelect ops = true) : ∀ (l : List Oper) (Rs : List (Value → Prop)) (k : Nat) (listed : Array Bool) (a : Act), (∀ j, l[j]? = ops[k + j]?) →
    (∀ j R, Rs[j]? = some R → F (k + j) = R) → Region.lexFrom md ops l.length k listed = true → wpLs P ops C Q l Rs a → wpAnyLs P md ops C F Q l.length listed a
  | [], _, _, _, _, _, _, hB, h => ⟨by simpa [Region.lexFrom] using hB, by simpa [wpLs] using h⟩
  | o :: l, [], k, listed, a, hl, hF, hB, h => by simp [wpLs] at h
  | o :: l, R :: Rs, k, listed, a, hl, hF, hB, h => by
    have h0 : ops[k]? = some o := by simpa using (hl 0).symm
    simp only [List.length_cons, Region.lexFrom, Bool.and_eq_true] at hB
    obtain ⟨⟨hr, hf⟩, hB'⟩ := hB
    unfold wpLs at h
    obtain ⟨hy, hK⟩ := h
    have hR : F k = R := by simpa using hF 0 R (by simp)
    rw [← hR] at hy hK
    exact wpAnyLs_first h0 (Region.noSelect_spec hs) l.length listed a (Region.free_spec h0 hf) (by simpa using hr) hy
      (fun v hv => wpAnyLs_lex hs l Rs (k + 1) _ _ (fun j => by have := hl (j + 1); simpa [Nat.add_assoc, Nat.add_comm 1 j] using this)
        (fun j R hj => by have := hF (j + 1) R (by simpa using hj); rw [← this]; congr 1; omega) hB' (hK v hv))
theorem wp_region_ls {id : Nat} {Q : Exit → Act → World → Prop} {a : Act} {w : World} {l : List Oper} {Rs : List (Value → Prop)} (hm : P.follows .mixedOrders = true) (hB : Region.lexB .any l.toArray = true)
    (h : wpLs P l.toArray (fun w' => Below w.heap.size w w') (fun a' => ∀ w', Below w.heap.size w w' → Q .normal a' w') l Rs a) : (Code.region id l.toArray true).wp P Q a w := by
  simp only [Region.lexB, Bool.and_eq_true] at hB
  refine wp_region_any hm (wpAny_of_ls (C := fun w' => Below w.heap.size w w') (F := fun i => Rs.getD i (fun _ => False)) (Q := fun a' => ∀ w', Below w.heap.size w w' → Q .normal a' w') (fun _ w' hw' h => h w' hw') _ _ _ _ ((Below.refl w.heap.size w).drewN 1) ?_)
  have := wpAnyLs_lex (P := P) (C := fun w' => Below w.heap.size w w') (F := fun i => Rs.getD i (fun _ => False)) (md := .any) hB.1 l Rs 0 (Array.replicate l.toArray.size false) a (by simp) (fun j R hj => by simp [hj]) (by simpa using hB.2) h
  simpa using this
/-! The steps. -/
variable {W0 : World} {Q : Act → Prop} {o : Oper} {rest : List Oper} {Rs : List (Value → Prop)} {a : Act}
theorem ls_pure (x : Value) (hw : Region.wanted o (yielded ops a.tmps) = true) (h1 : ∀ W, (execOp a.eval o).run P W = .ok (.value x) W) (h2 : wpLs P ops C Q rest Rs (a.put o.dst x)) :
    wpLs P ops C Q (o :: rest) ((· = x) :: Rs) a :=
  ls_exact hw (fun W _ => by unfold lsAt; rw [h1]; exact ⟨rfl, rfl⟩) h2
theorem ls_move (v : Value) (x : Operand) (hw : Region.wanted o (yielded ops a.tmps) = true) (ho : o.op = .move x) (hv : a.eval x = v) (h2 : wpLs P ops C Q rest Rs (a.put o.dst v)) :
    wpLs P ops C Q (o :: rest) ((· = v) :: Rs) a :=
  ls_pure _ hw (fun W => by rw [BigFrame.run_move x ho W, hv]) h2
theorem ls_load (ty : TypeId) (x : Operand) (ho : o.op = .load ty x) (b off : Nat) (cs : List Value) (d : TypeDesc) (hc : W0.rangeAt b off cs) (hb : b < W0.heap.size)
    (hu : P.underlying ty = some d) (hd : d.isRow = true) (hi : (P.info? ty).map (·.size) = some cs.length) (hw : Region.wanted o (yielded ops a.tmps) = true) (hx : a.eval x = .pointer (some ⟨b, off, none⟩))
    (h2 : wpLs P ops (fun w' => Below W0.heap.size W0 w') Q rest Rs (a.put o.dst (.agg cs.toArray))) :
    wpLs P ops (fun w' => Below W0.heap.size W0 w') Q (o :: rest) ((· = .agg cs.toArray) :: Rs) a :=
  ls_exact hw (fun W hW => by
    have hr : W.rangeAt b off cs := fun j v hv => (hW.cell (p := ⟨b, off + j, none⟩) hb).trans (hc j v hv)
    unfold lsAt execOp
    simp only [ho, hx, Instr.loadAt, Instr.sureAddr, Sem.run_bind, Sem.run_pure, Result.andThen_ok, run_loadVar_mid W b off ty cs d hr hu hd hi]
    exact ⟨rfl, rfl⟩) h2
end
end Go.Proofs.YtajkgcmopmpihaaGreatDoor
namespace Go.Proofs.YtajkgcmopmpihaaGreatDoor
open Go.RowKit
section
variable {P : Program} {ops : Array Oper} {md : Region.Mode} {w0 : World}
abbrev Gh := Nat → Option Obj
def upd (s : Gh) (g : Nat) (Z : Obj) : Gh := fun k => if k = g then some Z else s k
theorem upd_none {s : Gh} {g h : Nat} {Z : Obj} : upd s g Z h = none ↔ h ≠ g ∧ s h = none := by
  unfold upd; by_cases e : h = g <;> simp [e]
def Bnd (s : Gh) : Prop := ∃ N, ∀ g, N ≤ g → s g = none
theorem Bnd.upd {s : Gh} (h : Bnd s) (g : Nat) (Z : Obj) : Bnd (upd s g Z) := by
  obtain ⟨N, hN⟩ := h
  exact ⟨N + g + 1, fun k hk => upd_none.2 ⟨by omega, hN k (by omega)⟩⟩
def Cg (w0 : World) (s : Gh) (w : World) : Prop := Below w0.heap.size w0 w ∧ ∀ g o, s g = some o → w0.heap.size ≤ g ∧ w.heap[g]? = some o
theorem Cg.grow {s : Gh} {w w' : World} (h : Cg w0 s w) (b : Below w.heap.size w w') : Cg w0 s w' :=
  ⟨h.1.then_ b, fun g o hg => ⟨(h.2 g o hg).1, (b.block g (Array.getElem?_eq_some_iff.1 (h.2 g o hg).2).1).trans (h.2 g o hg).2⟩⟩
theorem Cg.alloc {s : Gh} {w : World} {Z' : Obj} (h : Cg w0 s w) (Z : Obj) (hz : (w.alloc Z).heap[w.heap.size]? = some Z') : Cg w0 (upd s w.heap.size Z') (w.alloc Z) := by
  refine ⟨h.1.alloc h.1.size _, fun g o hg => ?_⟩
  unfold upd at hg
  by_cases e : g = w.heap.size
  · subst e; simp at hg; subst hg; exact ⟨h.1.size, hz⟩
  · simp [e] at hg
    exact ⟨(h.2 g o hg).1, (heap_alloc_old _ _ (Array.getElem?_eq_some_iff.1 (h.2 g o hg).2).1).trans (h.2 g o hg).2⟩
inductive Kd
  | rel (R : Value → Prop)
  | alloc (f : Nat → Value) (Z Z' : Obj)
def Spec (P : Program) (ops : Array Oper) (w0 : World) (kd : Kd) (o : Oper) (a : Act) : Prop :=
  match kd with
  | .rel R => (∃ v, R v) ∧ ((Region.wanted o (yielded ops a.tmps) = true ∧ ∀ s w, Cg w0 s w → lsAt P o a (Cg w0 s) w R) ∨ (Region.wanted o (yielded ops a.tmps) = false ∧ R undef))
  | .alloc f Z Z' => Region.wanted o (yielded ops a.tmps) = true ∧ ∀ w, (execOp a.eval o).run P w = .ok (.value (f w.heap.size)) (w.alloc Z) ∧ (w.alloc Z).heap[w.heap.size]? = some Z'
theorem Spec.of_same {kd : Kd} {o : Oper} {a a' : Act} (hy : Spec P ops w0 kd o a) (he : execOp a'.eval o = execOp a.eval o)
    (hw : Region.wanted o (yielded ops a'.tmps) = Region.wanted o (yielded ops a.tmps)) : Spec P ops w0 kd o a' := by
  cases kd <;> (unfold Spec at *; simp only [lsAt] at *; rw [he, hw]; exact hy)
/-! The steps. -/
variable {Lq : Gh → Act → Prop} {o : Oper} {rest : List Oper} {kds : List Kd} {s : Gh} {a : Act}
end
end Go.Proofs.YtajkgcmopmpihaaGreatDoor
namespace Go.Proofs.YtajkgcmopmpihaaGreatDoor
open Go.ChangeShapes Go.WideShapes Go.ChangeAt Go.RowKit Go.IntWalk
section
variable {P : Program} {ops : Array Oper} {w0 : World} {Lq : Gh → Act → Prop} {o : Oper} {rest : List Oper} {kds : List Kd} {s : Gh} {a : Act}
end
theorem RB.some {w : World} {A : Option Addr} {bs : List UInt8} (h : RB w A bs) (h0 : 0 < bs.length) : ∃ x o, A = .some ⟨x, o, none⟩ ∧ x < w.heap.size := by
  obtain ⟨b, off, h1, h2, _⟩ := h 0 h0; exact ⟨b, off, h1, h2⟩
end Go.Proofs.YtajkgcmopmpihaaGreatDoor
