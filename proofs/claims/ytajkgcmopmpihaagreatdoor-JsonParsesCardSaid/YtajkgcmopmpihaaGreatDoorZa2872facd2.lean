/- Texts put together: Ls Lg Lh. -/
import Derived.Test.YtajkgcmopmpihaaGreatDoorZ95f4d1de1b
import Derived.Deep.Quiet
import Derived.Deep.QuietTactic
import Derived.BigQuiet
import Derived.WalkKit
import Derived.Below
import Derived.WalkSpells
import Derived.RowKit3
import Derived.Deep.MidRow
import Derived.StillTail
namespace Go.Proofs.YtajkgcmopmpihaaGreatDoor
open Go.RowKit
section
variable {P : Program} {ops : Array Oper} {md : Region.Mode} {C : World → Prop}
def lsUpon (P : Program) (C : World → Prop) (w : World) (R : Value → Prop) : Result Next → Prop
  | .ok (.value u) w' => w' = w ∧ R u
  | .ok .skip w' => w' = w ∧ R undef
  | .ok (.enter f args) w' => w' = w ∧ Calls P f args w (fun e w'' => ∃ v, e = .returned v ∧ R v ∧ C w'')
  | _ => False
def lsAt (P : Program) (o : Oper) (a : Act) (C : World → Prop) (w : World) (R : Value → Prop) : Prop := lsUpon P C w R ((execOp a.eval o).run P w)
def LsIn (P : Program) (ops : Array Oper) (C : World → Prop) (o : Oper) (R : Value → Prop) (a : Act) : Prop :=
  (∃ v, R v) ∧ ((Region.wanted o (yielded ops a.tmps) = true ∧ ∀ w, C w → lsAt P o a C w R) ∨ (Region.wanted o (yielded ops a.tmps) = false ∧ R undef))
def wpLs (P : Program) (ops : Array Oper) (C : World → Prop) (Q : Act → Prop) : List Oper → List (Value → Prop) → Act → Prop
  | [], _, a => Q a
  | o :: rest, R :: Rs, a => LsIn P ops C o R a ∧ ∀ v, R v → wpLs P ops C Q rest Rs (a.put o.dst v)
  | _ :: _, [], _ => False
theorem lsAt_some {o : Oper} {a : Act} {w : World} {R : Value → Prop} (h : lsAt P o a C w R) : ∃ v, R v := by
  unfold lsAt at h
  generalize (execOp a.eval o).run P w = r at h
  cases r with
  | ok n w' =>
    cases n <;> simp only [lsUpon] at h
    case value u => exact ⟨u, h.2⟩
    case skip => exact ⟨undef, h.2⟩
    case enter f args => obtain ⟨_, _, _, ⟨v, _, hv, _⟩, _⟩ := h.2 []; exact ⟨v, hv⟩
  | halt x w' => simp only [lsUpon] at h
theorem ls_nil {Q : Act → Prop} {Rs : List (Value → Prop)} {a : Act} (h : Q a) : wpLs P ops C Q [] Rs a := by unfold wpLs; exact h
theorem ls_cons {Q : Act → Prop} {o : Oper} {rest : List Oper} {R : Value → Prop} {Rs : List (Value → Prop)} {a : Act} {w0 : World} (hC : C w0) (hw : Region.wanted o (yielded ops a.tmps) = true)
    (h1 : ∀ w, C w → lsAt P o a C w R) (h2 : ∀ v, R v → wpLs P ops C Q rest Rs (a.put o.dst v)) : wpLs P ops C Q (o :: rest) (R :: Rs) a :=
  ⟨⟨lsAt_some (h1 w0 hC), .inl ⟨hw, h1⟩⟩, h2⟩
theorem ls_exact {Q : Act → Prop} {o : Oper} {rest : List Oper} {x : Value} {Rs : List (Value → Prop)} {a : Act} (hw : Region.wanted o (yielded ops a.tmps) = true)
    (h1 : ∀ w, C w → lsAt P o a C w (· = x)) (h2 : wpLs P ops C Q rest Rs (a.put o.dst x)) : wpLs P ops C Q (o :: rest) ((· = x) :: Rs) a :=
  ⟨⟨⟨x, rfl⟩, .inl ⟨hw, h1⟩⟩, fun v hv => by subst hv; exact h2⟩
theorem ls_skip {Q : Act → Prop} {o : Oper} {rest : List Oper} {Rs : List (Value → Prop)} {a : Act} (hw : Region.wanted o (yielded ops a.tmps) = false)
    (h2 : wpLs P ops C Q rest Rs (a.put o.dst undef)) : wpLs P ops C Q (o :: rest) ((· = undef) :: Rs) a :=
  ⟨⟨⟨undef, rfl⟩, .inr ⟨hw, rfl⟩⟩, fun v hv => by subst hv; exact h2⟩

def lOp (P : Program) (ops : Array Oper) (C : World → Prop) (F : Nat → Value → Prop) (i : Nat) (K : Act → Prop) (a : Act) : Prop :=
  match ops[i]? with
  | none => K a
  | some o => LsIn P ops C o (F i) a ∧ ∀ v, F i v → K (a.put o.dst v)
theorem lOp_mono {F : Nat → Value → Prop} {i : Nat} {a : Act} {K K' : Act → Prop} (h : ∀ a, K a → K' a) (hh : lOp P ops C F i K a) : lOp P ops C F i K' a := by
  unfold lOp at *
  split
  · exact h _ (by simpa [*] using hh)
  · rename_i o ho
    simp only [ho] at hh
    exact ⟨hh.1, fun v hv => h _ (hh.2 v hv)⟩
def wpAnyLs (P : Program) (md : Region.Mode) (ops : Array Oper) (C : World → Prop) (F : Nat → Value → Prop) (Q : Act → Prop) : Nat → Array Bool → Act → Prop
  | 0, listed, a => Region.ready md ops listed = [] ∧ Q a
  | fuel + 1, listed, a =>
    (Region.ready md ops listed = [] → Q a) ∧
    ∀ i ∈ Region.ready md ops listed, lOp P ops C F i (wpAnyLs P md ops C F Q fuel (listed.setIfInBounds i true)) a
theorem wp_of_ls {o : Oper} {a : Act} {R : Value → Prop} {K' : Act → World → Prop} {Q' : Exit → Act → World → Prop} {w : World} (hw : C w) (h : ∀ v w', R v → C w' → K' (a.put o.dst v) w') (hh : lsAt P o a C w R) : o.wp P a w K' Q' := by
  unfold lsAt at hh
  unfold Oper.wp
  generalize (execOp a.eval o).run P w = r at *
  cases r with
  | ok n w' =>
    cases n <;> simp only [lsUpon] at hh <;> simp only [Oper.upon]
    case value u => obtain ⟨e1, e2⟩ := hh; rw [e1]; exact h _ _ e2 hw
    case skip => obtain ⟨e1, e2⟩ := hh; rw [e1]; exact h _ _ e2 hw
    case enter f args =>
      obtain ⟨e1, hc⟩ := hh
      rw [e1]
      exact hc.mono fun e w'' ⟨v, he, hv, hw''⟩ => by subst he; exact h _ _ hv hw''
  | halt x w' => simp only [lsUpon] at hh
theorem wpOp_of_lOp {F : Nat → Value → Prop} {i : Nat} {a : Act} {K : Act → Prop} {K' : Act → World → Prop} {Q' : Exit → Act → World → Prop} {w : World} (hC : C w) (h : ∀ a w', C w' → K a → K' a w') (hh : lOp P ops C F i K a) : wpOp P ops Q' i K' a w := by
  unfold lOp at hh
  unfold wpOp
  split
  · rename_i ho; simp only [ho] at hh; exact h _ _ hC hh
  · rename_i o ho
    simp only [ho] at hh
    obtain ⟨⟨_, hl⟩, hk⟩ := hh
    rcases hl with ⟨hw, hl⟩ | ⟨hw, hu⟩
    · simp only [hw, if_true]; exact .inl (wp_of_ls hC (fun v w' hv hw' => h _ _ hw' (hk v hv)) (hl w hC))
    · simp only [hw]; exact h _ _ hC (hk undef hu)
theorem wpAny_of_ls {F : Nat → Value → Prop} {Q : Act → Prop} {Q' : Exit → Act → World → Prop} (hQ : ∀ a w, C w → Q a → Q' .normal a w) : ∀ (fuel : Nat) (listed : Array Bool) (a : Act) (w : World), C w →
    wpAnyLs P md ops C F Q fuel listed a → wpAny P md ops Q' fuel listed a w
  | 0, _, _, _, hw, h => ⟨h.1, hQ _ _ hw h.2⟩
  | fuel + 1, _, _, _, hw, h => ⟨fun h0 => hQ _ _ hw (h.1 h0), fun i hi => wpOp_of_lOp hw (fun a' w' hw' => wpAny_of_ls hQ fuel _ a' w' hw') (h.2 i hi)⟩
theorem LsIn.of_same {o : Oper} {R : Value → Prop} {a a' : Act} (hy : LsIn P ops C o R a) (he : execOp a'.eval o = execOp a.eval o)
    (hw : Region.wanted o (yielded ops a'.tmps) = Region.wanted o (yielded ops a.tmps)) : LsIn P ops C o R a' := by
  unfold LsIn lsAt at *
  rw [he, hw]
  exact hy
theorem lOp_put {F : Nat → Value → Prop} {i j : Nat} {oi oj : Oper} (hj : ops[j]? = some oj) (hap : oi.apart ops oj = true)
    (hsi : ∀ cs b, oi.op ≠ .select cs b) (hsj : ∀ cs b, oj.op ≠ .select cs b) {K : Act → Prop} {a : Act}
    (hy : LsIn P ops C oi (F i) a) (h : ∀ v, F i v → lOp P ops C F j K (a.put oi.dst v)) :
    lOp P ops C F j (fun a' => LsIn P ops C oi (F i) a' ∧ ∀ v, F i v → K (a'.put oi.dst v)) a := by
  obtain ⟨h1, h2, h3⟩ := Oper.apart_spec hap
  have keep : ∀ (a : Act), LsIn P ops C oi (F i) a → ∀ u, LsIn P ops C oi (F i) (a.put oj.dst u) := fun a hy u =>
    hy.of_same (execOp_put oi hsi a oj.dst u h3) (wanted_put oi a oj.dst u h3)
  obtain ⟨v0, hv0⟩ := hy.1
  unfold lOp at *
  simp only [hj] at *
  refine ⟨(h v0 hv0).1.of_same (execOp_put oj hsj a oi.dst v0 h1).symm (wanted_put oj a oi.dst v0 h1).symm, fun u hu => ⟨keep a hy u, fun v hv => ?_⟩⟩
  rw [← Act.put_comm a v u h2]
  exact (h v hv).2 u hu
theorem wpAnyLs_first {F : Nat → Value → Prop} {Q : Act → Prop} {i : Nat} {oi : Oper} (hi : ops[i]? = some oi) (hsel : ∀ (j : Nat) (o : Oper) cs b, ops[j]? = some o → o.op ≠ .select cs b) :
    ∀ (fuel : Nat) (listed : Array Bool) (a : Act),
      (∀ j oj, ops[j]? = some oj → j ≠ i → listed.getD j true = false → (∀ e ∈ oj.after, Region.binds md e = true → e.on ≠ i) → oi.apart ops oj = true) →
      i ∈ Region.ready md ops listed → LsIn P ops C oi (F i) a →
      (∀ v, F i v → wpAnyLs P md ops C F Q fuel (listed.setIfInBounds i true) (a.put oi.dst v)) → wpAnyLs P md ops C F Q (fuel + 1) listed a := by
  intro fuel
  induction fuel with
  | zero =>
    intro listed a _ hr hy H
    refine ⟨fun h => (by rw [h] at hr; cases hr), fun j hj => ?_⟩
    by_cases hji : j = i
    · subst hji; unfold lOp; simp only [hi]; exact ⟨hy, H⟩
    · obtain ⟨v0, hv0⟩ := hy.1
      have := ready_mono hj hji
      rw [(H v0 hv0).1] at this
      cases this
  | succ fuel ih =>
    intro listed a hfree hr hy H
    refine ⟨fun h => (by rw [h] at hr; cases hr), fun j hj => ?_⟩
    by_cases hji : j = i
    · subst hji; unfold lOp; simp only [hi]; exact ⟨hy, H⟩
    · have h1 := fun v hv => (H v hv).2 j (ready_mono hj hji)
      obtain ⟨hjun, oj, hoj, hall⟩ := mem_ready.1 hj
      have hnot : ∀ e ∈ oj.after, Region.binds md e = true → e.on ≠ i := fun e he hb heq => by
        have h1 := hall e he hb
        have h0 := (mem_ready.1 hr).1
        rw [heq] at h1
        rcases Nat.lt_or_ge i listed.size with h' | h'
        · simp [h'] at h0 h1; rw [h0] at h1; cases h1
        · simp [Array.getElem?_eq_none h'] at h1
      have h2 := lOp_put hoj (hfree j oj hoj hji hjun hnot) (fun cs b => hsel i oi cs b hi) (fun cs b => hsel j oj cs b hoj) hy h1
      have hfree' : ∀ k ok, ops[k]? = some ok → k ≠ i → (listed.setIfInBounds j true).getD k true = false →
          (∀ e ∈ ok.after, Region.binds md e = true → e.on ≠ i) → oi.apart ops ok = true := fun k ok hk hki hun hno => by
        refine hfree k ok hk hki ?_ hno
        by_cases hjk : j = k
        · subst hjk; exact hjun
        · rw [getD_set_ne true hjk] at hun; exact hun
      refine lOp_mono (fun a' h3 => ih (listed.setIfInBounds j true) a' hfree' (ready_mono hr (Ne.symm hji)) h3.1 (fun v hv => ?_)) h2
      rw [Array.setIfInBounds_comm _ _ hji]
      exact h3.2 v hv
theorem wpAnyLs_lex {F : Nat → Value → Prop} {Q : Act → Prop} (hs : Region.noSelect ops = true) : ∀ (l : List Oper) (Rs : List (Value → Prop)) (k : Nat) (listed : Array Bool) (a : Act), (∀ j, l[j]? = ops[k + j]?) →
    (∀ j R, Rs[j]? = some R → F (k + j) = R) → Region.lexFrom md ops l.length k listed = true → wpLs P ops C Q l Rs a → wpAnyLs P md ops C F Q l.length listed a
  | [], _, _, _, _, _, _, hB, h => ⟨by simpa [Region.lexFrom] using hB, by simpa [wpLs] using h⟩
  | o :: l, [], k, listed, a, hl, hF, hB, h => by simp [wpLs] at h
  | o :: l, R :: Rs, k, listed, a, hl, hF, hB, h => by
    have h0 : ops[k]? = some o := by simpa using (hl 0).symm
    simp only [List.length_cons, Region.lexFrom, Bool.and_eq_true] at hB
    obtain ⟨⟨hr, hf⟩, hB'⟩ := hB
    unfold wpLs at h
    obtain ⟨hy, hK⟩ := h
    have hR : F k = R := by simpa using hF 0 R (by simp)
    rw [← hR] at hy hK
    exact wpAnyLs_first h0 (Region.noSelect_spec hs) l.length listed a (Region.free_spec h0 hf) (by simpa using hr) hy
      (fun v hv => wpAnyLs_lex hs l Rs (k + 1) _ _ (fun j => by have := hl (j + 1); simpa [Nat.add_assoc, Nat.add_comm 1 j] using this)
        (fun j R hj => by have := hF (j + 1) R (by simpa using hj); rw [← this]; congr 1; omega) hB' (hK v hv))
theorem wp_region_ls {id : Nat} {Q : Exit → Act → World → Prop} {a : Act} {w : World} {l : List Oper} {Rs : List (Value → Prop)} (hm : P.follows .mixedOrders = true) (hB : Region.lexB .any l.toArray = true)
    (h : wpLs P l.toArray (fun w' => Below w.heap.size w w') (fun a' => ∀ w', Below w.heap.size w w' → Q .normal a' w') l Rs a) : (Code.region id l.toArray true).wp P Q a w := by
  simp only [Region.lexB, Bool.and_eq_true] at hB
  refine wp_region_any hm (wpAny_of_ls (C := fun w' => Below w.heap.size w w') (F := fun i => Rs.getD i (fun _ => False)) (Q := fun a' => ∀ w', Below w.heap.size w w' → Q .normal a' w') (fun _ w' hw' h => h w' hw') _ _ _ _ ((Below.refl w.heap.size w).drewN 1) ?_)
  have := wpAnyLs_lex (P := P) (C := fun w' => Below w.heap.size w w') (F := fun i => Rs.getD i (fun _ => False)) (md := .any) hB.1 l Rs 0 (Array.replicate l.toArray.size false) a (by simp) (fun j R hj => by simp [hj]) (by simpa using hB.2) h
  simpa using this
/-! The steps. -/
variable {W0 : World} {Q : Act → Prop} {o : Oper} {rest : List Oper} {Rs : List (Value → Prop)} {a : Act}
theorem ls_pure (x : Value) (hw : Region.wanted o (yielded ops a.tmps) = true) (h1 : ∀ W, (execOp a.eval o).run P W = .ok (.value x) W) (h2 : wpLs P ops C Q rest Rs (a.put o.dst x)) :
    wpLs P ops C Q (o :: rest) ((· = x) :: Rs) a :=
  ls_exact hw (fun W _ => by unfold lsAt; rw [h1]; exact ⟨rfl, rfl⟩) h2
theorem ls_move (v : Value) (x : Operand) (hw : Region.wanted o (yielded ops a.tmps) = true) (ho : o.op = .move x) (hv : a.eval x = v) (h2 : wpLs P ops C Q rest Rs (a.put o.dst v)) :
    wpLs P ops C Q (o :: rest) ((· = v) :: Rs) a :=
  ls_pure _ hw (fun W => by rw [BigFrame.run_move x ho W, hv]) h2
theorem ls_assign (v : Value) (x : Operand) (hw : Region.wanted o (yielded ops a.tmps) = true) (ho : o.op = .assign x) (hv : a.eval x = v) (h2 : wpLs P ops C Q rest Rs (a.put o.dst v)) :
    wpLs P ops C Q (o :: rest) ((· = v) :: Rs) a :=
  ls_pure _ hw (fun W => by rw [BigFrame.run_assign x ho W, hv]) h2
theorem ls_load (ty : TypeId) (x : Operand) (ho : o.op = .load ty x) (b off : Nat) (cs : List Value) (d : TypeDesc) (hc : W0.rangeAt b off cs) (hb : b < W0.heap.size)
    (hu : P.underlying ty = some d) (hd : d.isRow = true) (hi : (P.info? ty).map (·.size) = some cs.length) (hw : Region.wanted o (yielded ops a.tmps) = true) (hx : a.eval x = .pointer (some ⟨b, off, none⟩))
    (h2 : wpLs P ops (fun w' => Below W0.heap.size W0 w') Q rest Rs (a.put o.dst (.agg cs.toArray))) :
    wpLs P ops (fun w' => Below W0.heap.size W0 w') Q (o :: rest) ((· = .agg cs.toArray) :: Rs) a :=
  ls_exact hw (fun W hW => by
    have hr : W.rangeAt b off cs := fun j v hv => (hW.cell (p := ⟨b, off + j, none⟩) hb).trans (hc j v hv)
    unfold lsAt execOp
    simp only [ho, hx, Instr.loadAt, Instr.sureAddr, Sem.run_bind, Sem.run_pure, Result.andThen_ok, run_loadVar_mid W b off ty cs d hr hu hd hi]
    exact ⟨rfl, rfl⟩) h2
theorem ls_call (R : Value → Prop) (f : FuncId) (args : Array Value) (hw : Region.wanted o (yielded ops a.tmps) = true) (he : ∀ W, (execOp a.eval o).run P W = .ok (.enter f args) W)
    (hc : ∀ W, Calls P f args W (fun e W' => ∃ v, e = .returned v ∧ R v ∧ Below W.heap.size W W')) (h2 : ∀ v, R v → wpLs P ops (fun w' => Below W0.heap.size W0 w') Q rest Rs (a.put o.dst v)) :
    wpLs P ops (fun w' => Below W0.heap.size W0 w') Q (o :: rest) (R :: Rs) a :=
  ls_cons (w0 := W0) (Below.refl _ _) hw (fun W hW => by
    unfold lsAt
    rw [he]
    exact ⟨rfl, (hc W).mono fun e W' ⟨v, he, hv, hb⟩ => ⟨v, he, hv, hW.then_ hb⟩⟩) h2
theorem ls_callx (x : Value) (f : FuncId) (args : Array Value) (hw : Region.wanted o (yielded ops a.tmps) = true) (he : ∀ W, (execOp a.eval o).run P W = .ok (.enter f args) W)
    (hc : ∀ W, Calls P f args W (fun e W' => e = .returned x ∧ Below W.heap.size W W')) (h2 : wpLs P ops (fun w' => Below W0.heap.size W0 w') Q rest Rs (a.put o.dst x)) :
    wpLs P ops (fun w' => Below W0.heap.size W0 w') Q (o :: rest) ((· = x) :: Rs) a :=
  ls_call _ f args hw he (fun W => (hc W).mono fun e W' ⟨h1, h2⟩ => ⟨x, h1, rfl, h2⟩) (fun v hv => by subst hv; exact h2)
end
end Go.Proofs.YtajkgcmopmpihaaGreatDoor
namespace Go.Proofs.YtajkgcmopmpihaaGreatDoor
open Go.RowKit
section
variable {P : Program} {ops : Array Oper} {md : Region.Mode} {w0 : World}
abbrev Gh := Nat → Option Obj
def upd (s : Gh) (g : Nat) (Z : Obj) : Gh := fun k => if k = g then some Z else s k
theorem upd_none {s : Gh} {g h : Nat} {Z : Obj} : upd s g Z h = none ↔ h ≠ g ∧ s h = none := by
  unfold upd; by_cases e : h = g <;> simp [e]
theorem upd_comm (s : Gh) {g h : Nat} (hne : g ≠ h) (Y Z : Obj) : upd (upd s g Y) h Z = upd (upd s h Z) g Y := by
  funext k; unfold upd
  by_cases e1 : k = h
  · by_cases e2 : k = g
    · omega
    · simp [e1]; omega
  · simp [e1]
def Bnd (s : Gh) : Prop := ∃ N, ∀ g, N ≤ g → s g = none
theorem Bnd.upd {s : Gh} (h : Bnd s) (g : Nat) (Z : Obj) : Bnd (upd s g Z) := by
  obtain ⟨N, hN⟩ := h
  exact ⟨N + g + 1, fun k hk => upd_none.2 ⟨by omega, hN k (by omega)⟩⟩
/-- The class: old memory is as it was, the region's blocks hold what the ghost says. -/
def Cg (w0 : World) (s : Gh) (w : World) : Prop := Below w0.heap.size w0 w ∧ ∀ g o, s g = some o → w0.heap.size ≤ g ∧ w.heap[g]? = some o
theorem Cg.grow {s : Gh} {w w' : World} (h : Cg w0 s w) (b : Below w.heap.size w w') : Cg w0 s w' :=
  ⟨h.1.then_ b, fun g o hg => ⟨(h.2 g o hg).1, (b.block g (Array.getElem?_eq_some_iff.1 (h.2 g o hg).2).1).trans (h.2 g o hg).2⟩⟩
theorem Cg.fresh {s : Gh} {w : World} (h : Cg w0 s w) : s w.heap.size = none := by
  cases e : s w.heap.size with
  | none => rfl
  | some o => have := (Array.getElem?_eq_some_iff.1 (h.2 _ o e).2).1; omega
theorem Cg.alloc {s : Gh} {w : World} {Z' : Obj} (h : Cg w0 s w) (Z : Obj) (hz : (w.alloc Z).heap[w.heap.size]? = some Z') : Cg w0 (upd s w.heap.size Z') (w.alloc Z) := by
  refine ⟨h.1.alloc h.1.size _, fun g o hg => ?_⟩
  unfold upd at hg
  by_cases e : g = w.heap.size
  · subst e; simp at hg; subst hg; exact ⟨h.1.size, hz⟩
  · simp [e] at hg
    exact ⟨(h.2 g o hg).1, (heap_alloc_old _ _ (Array.getElem?_eq_some_iff.1 (h.2 g o hg).2).1).trans (h.2 g o hg).2⟩
inductive Kd
  | rel (R : Value → Prop)
  | alloc (f : Nat → Value) (Z Z' : Obj)
def Spec (P : Program) (ops : Array Oper) (w0 : World) (kd : Kd) (o : Oper) (a : Act) : Prop :=
  match kd with
  | .rel R => (∃ v, R v) ∧ ((Region.wanted o (yielded ops a.tmps) = true ∧ ∀ s w, Cg w0 s w → lsAt P o a (Cg w0 s) w R) ∨ (Region.wanted o (yielded ops a.tmps) = false ∧ R undef))
  | .alloc f Z Z' => Region.wanted o (yielded ops a.tmps) = true ∧ ∀ w, (execOp a.eval o).run P w = .ok (.value (f w.heap.size)) (w.alloc Z) ∧ (w.alloc Z).heap[w.heap.size]? = some Z'
def nextG (kd : Kd) (s : Gh) (K : Gh → Act → Prop) (a : Act) (o : Oper) : Prop :=
  match kd with
  | .rel R => ∀ v, R v → K s (a.put o.dst v)
  | .alloc f _ Z' => ∀ g, s g = none → K (upd s g Z') (a.put o.dst (f g))
theorem nextG_mono {kd : Kd} {s : Gh} {K K' : Gh → Act → Prop} {a : Act} {o : Oper} (hs : Bnd s) (h : ∀ s a, Bnd s → K s a → K' s a) (hh : nextG kd s K a o) : nextG kd s K' a o := by
  cases kd with
  | rel R => exact fun v hv => h _ _ hs (hh v hv)
  | alloc f Z Z' => exact fun g hg => h _ _ (hs.upd g Z') (hh g hg)
theorem Spec.of_same {kd : Kd} {o : Oper} {a a' : Act} (hy : Spec P ops w0 kd o a) (he : execOp a'.eval o = execOp a.eval o)
    (hw : Region.wanted o (yielded ops a'.tmps) = Region.wanted o (yielded ops a.tmps)) : Spec P ops w0 kd o a' := by
  cases kd <;> (unfold Spec at *; simp only [lsAt] at *; rw [he, hw]; exact hy)
def gOp (P : Program) (ops : Array Oper) (w0 : World) (F : Nat → Kd) (i : Nat) (K : Gh → Act → Prop) (s : Gh) (a : Act) : Prop :=
  match ops[i]? with
  | none => K s a
  | some o => Spec P ops w0 (F i) o a ∧ nextG (F i) s K a o
theorem gOp_mono {F : Nat → Kd} {i : Nat} {s : Gh} {a : Act} {K K' : Gh → Act → Prop} (hs : Bnd s) (h : ∀ s a, Bnd s → K s a → K' s a) (hh : gOp P ops w0 F i K s a) : gOp P ops w0 F i K' s a := by
  unfold gOp at *
  split
  · exact h _ _ hs (by simpa [*] using hh)
  · rename_i o ho
    simp only [ho] at hh
    exact ⟨hh.1, nextG_mono hs h hh.2⟩
theorem gOp_put {F : Nat → Kd} {i j : Nat} {oi oj : Oper} (hj : ops[j]? = some oj) (hap : oi.apart ops oj = true)
    (hsi : ∀ cs b, oi.op ≠ .select cs b) (hsj : ∀ cs b, oj.op ≠ .select cs b) {K : Gh → Act → Prop} {s : Gh} {a : Act} (hs : Bnd s)
    (hy : Spec P ops w0 (F i) oi a) (h : nextG (F i) s (fun s1 a1 => gOp P ops w0 F j K s1 a1) a oi) :
    gOp P ops w0 F j (fun s' a' => Spec P ops w0 (F i) oi a' ∧ nextG (F i) s' K a' oi) s a := by
  obtain ⟨h1, h2, h3⟩ := Oper.apart_spec hap
  have keep : ∀ u, Spec P ops w0 (F i) oi (a.put oj.dst u) := fun u =>
    hy.of_same (execOp_put oi hsi a oj.dst u h3) (wanted_put oi a oj.dst u h3)
  have back : ∀ v, Spec P ops w0 (F j) oj (a.put oi.dst v) → Spec P ops w0 (F j) oj a := fun v hv =>
    hv.of_same (execOp_put oj hsj a oi.dst v h1).symm (wanted_put oj a oi.dst v h1).symm
  unfold gOp at *
  simp only [hj] at *
  cases hi : F i with
  | rel R =>
    rw [hi] at hy h keep
    obtain ⟨v0, hv0⟩ := hy.1
    refine ⟨back v0 (h v0 hv0).1, ?_⟩
    cases hk : F j with
    | rel R2 =>
      rw [hk] at h
      intro u hu
      refine ⟨keep u, fun v hv => ?_⟩
      rw [← Act.put_comm a v u h2]
      exact (h v hv).2 u hu
    | alloc f Z Z' =>
      rw [hk] at h
      intro g hg
      refine ⟨keep _, fun v hv => ?_⟩
      rw [← Act.put_comm a v _ h2]
      exact (h v hv).2 g hg
  | alloc f Z Z' =>
    rw [hi] at hy h keep
    obtain ⟨N, hN⟩ := hs
    refine ⟨back _ (h N (hN N (Nat.le_refl _))).1, ?_⟩
    cases hk : F j with
    | rel R2 =>
      rw [hk] at h
      intro u hu
      refine ⟨keep u, fun g hg => ?_⟩
      rw [← Act.put_comm a _ u h2]
      exact (h g hg).2 u hu
    | alloc f2 Y Y' =>
      rw [hk] at h
      intro k hk2
      refine ⟨keep _, fun g hg => ?_⟩
      obtain ⟨hne, hg2⟩ := upd_none.1 hg
      rw [← Act.put_comm a _ _ h2, upd_comm s (Ne.symm hne)]
      exact (h g hg2).2 k (upd_none.2 ⟨Ne.symm hne, hk2⟩)
theorem wp_of_spec {kd : Kd} {s : Gh} {o : Oper} {a : Act} {w : World} {K : Gh → Act → Prop} {K' : Act → World → Prop} {Q' : Exit → Act → World → Prop} (hC : Cg w0 s w) (h : ∀ s a w', Cg w0 s w' → K s a → K' a w')
    (hh : Spec P ops w0 kd o a) (hn : nextG kd s K a o) : if Region.wanted o (yielded ops a.tmps) then o.wp P a w K' Q' ∨ (o.asks P a w ∧ LetsOut Q') else K' (a.put o.dst undef) w := by
  cases kd with
  | rel R =>
    obtain ⟨_, hl⟩ := hh
    rcases hl with ⟨hw, hl⟩ | ⟨hw, hu⟩
    · simp only [hw, if_true]; exact .inl (wp_of_ls hC (fun v w' hv hw' => h _ _ _ hw' (hn v hv)) (hl s w hC))
    · simp only [hw]; exact h _ _ _ hC (hn undef hu)
  | alloc f Z Z' =>
    obtain ⟨hw, hl⟩ := hh
    simp only [hw, if_true]
    left
    unfold Oper.wp
    rw [(hl w).1]
    exact h _ _ _ (hC.alloc Z (hl w).2) (hn _ hC.fresh)
theorem wpOp_of_gOp {F : Nat → Kd} {i : Nat} {s : Gh} {a : Act} {K : Gh → Act → Prop} {K' : Act → World → Prop} {Q' : Exit → Act → World → Prop} {w : World} (hC : Cg w0 s w) (h : ∀ s a w', Cg w0 s w' → K s a → K' a w') (hh : gOp P ops w0 F i K s a) : wpOp P ops Q' i K' a w := by
  unfold gOp at hh
  unfold wpOp
  split
  · rename_i ho; simp only [ho] at hh; exact h _ _ _ hC hh
  · rename_i o ho
    simp only [ho] at hh
    exact wp_of_spec hC h hh.1 hh.2
def wpAnyG (P : Program) (md : Region.Mode) (ops : Array Oper) (w0 : World) (F : Nat → Kd) (n : Nat) (L : Array Bool → Gh → Act → Prop) : Nat → Array Bool → Gh → Act → Prop
  | 0, listed, s, a => L listed s a
  | f + 1, listed, s, a =>
    Region.ready md ops listed ≠ [] ∧ ∀ i ∈ Region.ready md ops listed, i < n ∧ gOp P ops w0 F i (wpAnyG P md ops w0 F n L f (listed.setIfInBounds i true)) s a
theorem wpAny_of_headG {F : Nat → Kd} {n g : Nat} {L : Array Bool → Gh → Act → Prop} {Q' : Exit → Act → World → Prop} (hL : ∀ listed s a w, Cg w0 s w → L listed s a → wpAny P md ops Q' g listed a w) :
    ∀ (f : Nat) (listed : Array Bool) (s : Gh) (a : Act) (w : World), Cg w0 s w → wpAnyG P md ops w0 F n L f listed s a → wpAny P md ops Q' (f + g) listed a w
  | 0, listed, s, a, w, hC, h => by rw [Nat.zero_add]; exact hL _ _ _ _ hC h
  | f + 1, listed, s, a, w, hC, h => by
    rw [show f + 1 + g = (f + g) + 1 by omega]
    exact ⟨fun h0 => absurd h0 h.1, fun i hi => wpOp_of_gOp hC (fun s' a' w' hC' h' => wpAny_of_headG hL f _ s' a' w' hC' h') (h.2 i hi).2⟩
theorem wpAnyG_first {F : Nat → Kd} {n i : Nat} {oi : Oper} {L : Array Bool → Gh → Act → Prop} (hi : ops[i]? = some oi) (hsel : ∀ (j : Nat) (o : Oper) cs b, ops[j]? = some o → o.op ≠ .select cs b)
    (hs : Region.sinkB md ops n = true) (hc : Region.chainB md ops n = true) (hn : n < ops.size) (hin : i < n)
    (hdone : ∀ listed s a, L listed s a → ∀ j ∈ Region.ready md ops listed, n ≤ j) :
    ∀ (f : Nat) (listed : Array Bool) (s : Gh) (a : Act), Bnd s → HeadInv md ops n listed →
      (∀ j oj, ops[j]? = some oj → j ≠ i → listed.getD j true = false → (∀ e ∈ oj.after, Region.binds md e = true → e.on ≠ i) → oi.apart ops oj = true) →
      i ∈ Region.ready md ops listed → Spec P ops w0 (F i) oi a →
      nextG (F i) s (wpAnyG P md ops w0 F n L f (listed.setIfInBounds i true)) a oi → wpAnyG P md ops w0 F n L (f + 1) listed s a := by
  intro f
  induction f with
  | zero =>
    intro listed s a hbs inv _ hr hy H
    have hun := (mem_ready.1 hr).1
    refine ⟨fun h => (by rw [h] at hr; cases hr), fun j hj => ?_⟩
    have hjn : j < n := by
      rcases Nat.lt_or_ge j n with h | h
      · exact h
      · exact absurd hj (tail_waits hs hc hn inv _ i rfl hin hun j h)
    refine ⟨hjn, ?_⟩
    by_cases hji : j = i
    · subst hji; unfold gOp; simp only [hi]; exact ⟨hy, H⟩
    · have hL : ∃ s' a', L (listed.setIfInBounds i true) s' a' := by
        cases hk : F i with
        | rel R => rw [hk] at hy H; obtain ⟨v0, hv0⟩ := hy.1; exact ⟨_, _, H v0 hv0⟩
        | alloc f Z Z' => rw [hk] at H; obtain ⟨N, hN⟩ := hbs; exact ⟨_, _, H N (hN N (Nat.le_refl _))⟩
      obtain ⟨s', a', hL⟩ := hL
      have := hdone _ _ _ hL j (ready_mono hj hji)
      omega
  | succ f ih =>
    intro listed s a hbs inv hfree hr hy H
    have hun := (mem_ready.1 hr).1
    refine ⟨fun h => (by rw [h] at hr; cases hr), fun j hj => ?_⟩
    have hjn : j < n := by
      rcases Nat.lt_or_ge j n with h | h
      · exact h
      · exact absurd hj (tail_waits hs hc hn inv _ i rfl hin hun j h)
    refine ⟨hjn, ?_⟩
    by_cases hji : j = i
    · subst hji; unfold gOp; simp only [hi]; exact ⟨hy, H⟩
    · have h1 : nextG (F i) s (fun s1 a1 => gOp P ops w0 F j (wpAnyG P md ops w0 F n L f ((listed.setIfInBounds i true).setIfInBounds j true)) s1 a1) a oi :=
        nextG_mono hbs (fun s1 a1 _ h => (h.2 j (ready_mono hj hji)).2) H
      obtain ⟨hjun, oj, hoj, hall⟩ := mem_ready.1 hj
      have hnot : ∀ e ∈ oj.after, Region.binds md e = true → e.on ≠ i := fun e he hb heq => by
        have h1 := hall e he hb
        have h0 := (mem_ready.1 hr).1
        rw [heq] at h1
        rcases Nat.lt_or_ge i listed.size with h' | h'
        · simp [h'] at h0 h1; rw [h0] at h1; cases h1
        · simp [Array.getElem?_eq_none h'] at h1
      have h2 := gOp_put hoj (hfree j oj hoj hji hjun hnot) (fun cs b => hsel i oi cs b hi) (fun cs b => hsel j oj cs b hoj) hbs hy h1
      have hfree' : ∀ k ok, ops[k]? = some ok → k ≠ i → (listed.setIfInBounds j true).getD k true = false →
          (∀ e ∈ ok.after, Region.binds md e = true → e.on ≠ i) → oi.apart ops ok = true := fun k ok hk hki hun hno => by
        refine hfree k ok hk hki ?_ hno
        by_cases hjk : j = k
        · subst hjk; exact hjun
        · rw [getD_set_ne true hjk] at hun; exact hun
      refine gOp_mono hbs (fun s' a' hbs' h3 => ih (listed.setIfInBounds j true) s' a' hbs' (inv.set hj hjn) hfree' (ready_mono hr (Ne.symm hji)) h3.1 ?_) h2
      rw [Array.setIfInBounds_comm _ _ hji]
      exact h3.2
/-- The head, in the order of the text. -/
def wpG (P : Program) (ops : Array Oper) (w0 : World) (Lq : Gh → Act → Prop) : List Oper → List Kd → Gh → Act → Prop
  | [], _, s, a => Lq s a
  | o :: rest, kd :: kds, s, a => Spec P ops w0 kd o a ∧ nextG kd s (wpG P ops w0 Lq rest kds) a o
  | _ :: _, [], _, _ => False
theorem wpAnyG_lex {F : Nat → Kd} {n g : Nat} {Lq : Gh → Act → Prop} (hsel : Region.noSelect ops = true) (hs : Region.sinkB md ops n = true) (hc : Region.chainB md ops n = true) (hn : n < ops.size) :
    ∀ (l : List Oper) (kds : List Kd) (k : Nat) (listed : Array Bool) (s : Gh) (a : Act), (∀ j, j < l.length → l[j]? = ops[k + j]?) → (∀ j kd, kds[j]? = some kd → F (k + j) = kd) → k + l.length = n → Bnd s → HeadInv md ops n listed →
    Region.lexHead md ops g l.length k listed = true → wpG P ops w0 Lq l kds s a →
    wpAnyG P md ops w0 F n (fun listed' s' a' => Region.seqB md ops g n listed' = true ∧ Lq s' a') l.length listed s a
  | [], _, k, listed, s, a, hl, _, hk, _, inv, hB, h => by
    have : k = n := by simpa using hk
    subst this
    exact ⟨by simpa [Region.lexHead] using hB, by simpa [wpG] using h⟩
  | o :: l, [], k, listed, s, a, hl, _, hk, _, inv, hB, h => by simp [wpG] at h
  | o :: l, kd :: kds, k, listed, s, a, hl, hF, hk, hbs, inv, hB, h => by
    have h0 : ops[k]? = some o := by simpa using (hl 0 (by simp)).symm
    simp only [List.length_cons, Region.lexHead, Bool.and_eq_true] at hB
    obtain ⟨⟨hr, hf⟩, hB'⟩ := hB
    have hkn : k < n := by simp only [List.length_cons] at hk; omega
    have hr' : k ∈ Region.ready md ops listed := by simpa using hr
    unfold wpG at h
    obtain ⟨hy, hK⟩ := h
    have hR : F k = kd := by simpa using hF 0 kd (by simp)
    rw [← hR] at hy hK
    exact wpAnyG_first h0 (Region.noSelect_spec hsel) hs hc hn hkn (fun listed' s' a' hL => seqB_ready hL.1) l.length listed s a hbs inv (Region.free_spec h0 hf) hr' hy
      (nextG_mono hbs (fun s' a' hbs' hK' => wpAnyG_lex hsel hs hc hn l kds (k + 1) _ s' a' (fun j hj => by have := hl (j + 1) (by simp; omega); simpa [Nat.add_assoc, Nat.add_comm 1 j] using this)
        (fun j kd hj => by have := hF (j + 1) kd (by simpa using hj); rw [← this]; congr 1; omega) (by simp only [List.length_cons] at hk; omega) hbs' (inv.set hr' hkn) hB' hK') hK)
theorem wp_region_g {id : Nat} {Q : Exit → Act → World → Prop} {a : Act} {w : World} {l : List Oper} {kds : List Kd} (n : Nat) (hm : P.follows .mixedOrders = true) (hB : Region.lexTailB .any l.toArray n = true)
    (h : wpG P l.toArray w (fun s a' => ∀ w', Cg w s w' → wpList P l.toArray Q (l.drop n) a' w') (l.take n) kds (fun _ => none) a) : (Code.region id l.toArray true).wp P Q a w := by
  simp only [Region.lexTailB, Bool.and_eq_true, decide_eq_true_eq] at hB
  obtain ⟨⟨⟨⟨hsel, hn⟩, hs⟩, hc⟩, hlex⟩ := hB
  have hn' : n < l.length := by simpa using hn
  have htl : (l.take n).length = n := by simp; omega
  have hdl : (l.drop n).length = l.toArray.size - n := by simp
  have inv0 : HeadInv .any l.toArray n (Array.replicate l.toArray.size false) :=
    ⟨by simp, fun j oj _ hl => (by rw [getD_replicate_false] at hl; cases hl), fun t _ ht => getD_in (by simpa using ht) (getD_replicate_false _ _)⟩
  have hC : Cg w (fun _ => none) { w with drawn := w.drawn + 1 } := ⟨(Below.refl w.heap.size w).drewN 1, fun g o hg => by cases hg⟩
  have H := wpAnyG_lex (P := P) (w0 := w) (md := .any) (F := fun i => kds.getD i (.rel fun _ => False)) (g := l.toArray.size - n) hsel hs hc hn (l.take n) kds 0 _ (fun _ => none) a (fun j hj => by
    have hj' : j < n := by rw [htl] at hj; exact hj
    simp [hj']) (fun j kd hj => by simp [hj]) (by simpa using htl) ⟨0, fun _ _ => rfl⟩ inv0 (by rw [htl]; exact hlex) h
  refine wp_region_any hm ?_
  have := wpAny_of_headG (Q' := Q) (g := l.toArray.size - n) (fun listed s a' w' hC' hL => by
    have := wpAny_of_seq (md := .any) (Q' := Q) (l.drop n) n listed a' w' (fun j => by simp [List.getElem?_drop]) (by rw [hdl]; exact hL.1) (hL.2 w' hC')
    rwa [hdl] at this) _ _ _ _ _ hC H
  rw [htl, show n + (l.toArray.size - n) = l.toArray.size by omega] at this
  exact this
/-! The steps. -/
variable {Lq : Gh → Act → Prop} {o : Oper} {rest : List Oper} {kds : List Kd} {s : Gh} {a : Act}
theorem lg_nil (h : Lq s a) : wpG P ops w0 Lq [] [] s a := by unfold wpG; exact h
theorem lg_load (ty : TypeId) (x : Operand) (ho : o.op = .load ty x) (b off : Nat) (cs : List Value) (d : TypeDesc) (hc : w0.rangeAt b off cs) (hb : b < w0.heap.size)
    (hu : P.underlying ty = some d) (hd : d.isRow = true) (hi : (P.info? ty).map (·.size) = some cs.length) (hw : Region.wanted o (yielded ops a.tmps) = true) (hx : a.eval x = .pointer (some ⟨b, off, none⟩))
    (h2 : wpG P ops w0 Lq rest kds s (a.put o.dst (.agg cs.toArray))) : wpG P ops w0 Lq (o :: rest) (.rel (· = .agg cs.toArray) :: kds) s a :=
  ⟨⟨⟨_, rfl⟩, .inl ⟨hw, fun s W hW => by
    have hr : W.rangeAt b off cs := fun j v hv => (hW.1.cell (p := ⟨b, off + j, none⟩) hb).trans (hc j v hv)
    unfold lsAt execOp
    simp only [ho, hx, Instr.loadAt, Instr.sureAddr, Sem.run_bind, Sem.run_pure, Result.andThen_ok, run_loadVar_mid W b off ty cs d hr hu hd hi]
    exact ⟨rfl, rfl⟩⟩⟩, fun v hv => by subst hv; exact h2⟩
theorem lg_call (R : Value → Prop) (f : FuncId) (args : Array Value) (hw : Region.wanted o (yielded ops a.tmps) = true) (he : ∀ W, (execOp a.eval o).run P W = .ok (.enter f args) W)
    (hc : ∀ W, Calls P f args W (fun e W' => ∃ v, e = .returned v ∧ R v ∧ Below W.heap.size W W')) (h2 : ∀ v, R v → wpG P ops w0 Lq rest kds s (a.put o.dst v)) : wpG P ops w0 Lq (o :: rest) (.rel R :: kds) s a := by
  have hne : ∃ v, R v := by
    obtain ⟨_, _, _, ⟨v, _, hv, _⟩, _⟩ := hc w0 []; exact ⟨v, hv⟩
  refine ⟨⟨hne, .inl ⟨hw, fun s W hW => ?_⟩⟩, h2⟩
  unfold lsAt
  rw [he]
  exact ⟨rfl, (hc W).mono fun e W' ⟨v, he, hv, hb⟩ => ⟨v, he, hv, hW.grow hb⟩⟩
theorem lg_pure (x : Value) (hw : Region.wanted o (yielded ops a.tmps) = true) (h1 : ∀ W, (execOp a.eval o).run P W = .ok (.value x) W) (h2 : wpG P ops w0 Lq rest kds s (a.put o.dst x)) : wpG P ops w0 Lq (o :: rest) (.rel (· = x) :: kds) s a :=
  ⟨⟨⟨_, rfl⟩, .inl ⟨hw, fun s W hW => by unfold lsAt; rw [h1]; exact ⟨rfl, rfl⟩⟩⟩, fun v hv => by subst hv; exact h2⟩
theorem lg_allocV (f : Nat → Value) (Z : Obj) (Z' : Obj) (hw : Region.wanted o (yielded ops a.tmps) = true) (he : ∀ W, (execOp a.eval o).run P W = .ok (.value (f W.heap.size)) (W.alloc Z)) (hz : ∀ W : World, (W.alloc Z).heap[W.heap.size]? = some Z')
    (h2 : ∀ g, s g = none → wpG P ops w0 Lq rest kds (upd s g Z') (a.put o.dst (f g))) : wpG P ops w0 Lq (o :: rest) (.alloc f Z Z' :: kds) s a :=
  ⟨⟨hw, fun W => ⟨he W, hz W⟩⟩, h2⟩
theorem lg_alloc (Z : Obj) (Z' : Obj) (hw : Region.wanted o (yielded ops a.tmps) = true) (he : ∀ W, (execOp a.eval o).run P W = .ok (.value (.pointer (some ⟨W.heap.size, 0, none⟩))) (W.alloc Z)) (hz : ∀ W : World, (W.alloc Z).heap[W.heap.size]? = some Z')
    (h2 : ∀ g, s g = none → wpG P ops w0 Lq rest kds (upd s g Z') (a.put o.dst (.pointer (some ⟨g, 0, none⟩)))) : wpG P ops w0 Lq (o :: rest) (.alloc (fun g => .pointer (some ⟨g, 0, none⟩)) Z Z' :: kds) s a :=
  lg_allocV (fun g => .pointer (some ⟨g, 0, none⟩)) Z Z' hw he hz h2
end
end Go.Proofs.YtajkgcmopmpihaaGreatDoor
namespace Go.Proofs.YtajkgcmopmpihaaGreatDoor
open Go.ChangeShapes Go.WideShapes Go.ChangeAt Go.RowKit Go.IntWalk
section
variable {P : Program} {ops : Array Oper} {w0 : World} {Lq : Gh → Act → Prop} {o : Oper} {rest : List Oper} {kds : List Kd} {s : Gh} {a : Act}
theorem lg_run (x : Value) (hw : Region.wanted o (yielded ops a.tmps) = true) (h1 : ∀ W, Below w0.heap.size w0 W → (execOp a.eval o).run P W = .ok (.value x) W) (h2 : wpG P ops w0 Lq rest kds s (a.put o.dst x)) : wpG P ops w0 Lq (o :: rest) (.rel (· = x) :: kds) s a :=
  ⟨⟨⟨_, rfl⟩, .inl ⟨hw, fun s W hW => by unfold lsAt; rw [h1 W hW.1]; exact ⟨rfl, rfl⟩⟩⟩, fun v hv => by subst hv; exact h2⟩
theorem lg_skip (hw : Region.wanted o (yielded ops a.tmps) = false) (h2 : wpG P ops w0 Lq rest kds s (a.put o.dst undef)) : wpG P ops w0 Lq (o :: rest) (.rel (· = undef) :: kds) s a :=
  ⟨⟨⟨_, rfl⟩, .inr ⟨hw, rfl⟩⟩, fun v hv => by subst hv; exact h2⟩
theorem lg_call_in (R : Value → Prop) (f : FuncId) (args : Array Value) (hw : Region.wanted o (yielded ops a.tmps) = true) (he : ∀ W, (execOp a.eval o).run P W = .ok (.enter f args) W)
    (hc : ∀ W, Below w0.heap.size w0 W → Calls P f args W (fun e W' => ∃ v, e = .returned v ∧ R v ∧ Below W.heap.size W W')) (h2 : ∀ v, R v → wpG P ops w0 Lq rest kds s (a.put o.dst v)) : wpG P ops w0 Lq (o :: rest) (.rel R :: kds) s a := by
  have hne : ∃ v, R v := by
    obtain ⟨_, _, _, ⟨v, _, hv, _⟩, _⟩ := hc w0 (Below.refl _ _) []; exact ⟨v, hv⟩
  refine ⟨⟨hne, .inl ⟨hw, fun s W hW => ?_⟩⟩, h2⟩
  unfold lsAt
  rw [he]
  exact ⟨rfl, (hc W hW.1).mono fun e W' ⟨v, he, hv, hb⟩ => ⟨v, he, hv, hW.grow hb⟩⟩
theorem lg_callx_in (x : Value) (f : FuncId) (args : Array Value) (hw : Region.wanted o (yielded ops a.tmps) = true) (he : ∀ W, (execOp a.eval o).run P W = .ok (.enter f args) W)
    (hc : ∀ W, Below w0.heap.size w0 W → Calls P f args W (fun e W' => e = .returned x ∧ Below W.heap.size W W')) (h2 : wpG P ops w0 Lq rest kds s (a.put o.dst x)) : wpG P ops w0 Lq (o :: rest) (.rel (· = x) :: kds) s a :=
  lg_call_in _ f args hw he (fun W hW => (hc W hW).mono fun e W' ⟨h1, h2⟩ => ⟨x, h1, rfl, h2⟩) (fun v hv => by subst hv; exact h2)
end
/-- A slice of bytes, as a source of cells. -/
theorem RB.src {w : World} {x o : Nat} {bs : List UInt8} (h : RB w (some ⟨x, o, none⟩) bs) : ∀ j v, (bs.map fun c => Value.int .u8 (c.toNat : Int))[j]? = some v → w.cell? ((⟨x, o, none⟩ : Addr).add j) = some v := by
  intro j v hj
  have hjl : j < bs.length := by
    rcases Nat.lt_or_ge j bs.length with h | h
    · exact h
    · simp [List.getElem?_eq_none h] at hj
  obtain ⟨b, off, h1, _, h3⟩ := h j hjl
  cases h1
  have hplain : (⟨x, o, none⟩ : Addr).add j = ⟨x, o + j, none⟩ := by unfold Addr.add; split <;> simp_all
  rw [hplain, h3]
  simp [hjl] at hj
  subst hj
  simp [List.getD, List.getElem?_eq_getElem hjl]
theorem RB.some {w : World} {A : Option Addr} {bs : List UInt8} (h : RB w A bs) (h0 : 0 < bs.length) : ∃ x o, A = .some ⟨x, o, none⟩ ∧ x < w.heap.size := by
  obtain ⟨b, off, h1, h2, _⟩ := h 0 h0; exact ⟨b, off, h1, h2⟩
end Go.Proofs.YtajkgcmopmpihaaGreatDoor
