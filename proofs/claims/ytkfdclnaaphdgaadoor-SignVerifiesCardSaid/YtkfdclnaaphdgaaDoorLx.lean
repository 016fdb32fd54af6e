/- A region in which a part of a tuple may be taken out behind a store: it may be taken to be taken out ahead of it. No dump. -/
import Derived.Test.YtkfdclnaaphdgaaDoorLh
namespace Go.Proofs.YtkfdclnaaphdgaaDoor
open Go.RowKit
section
variable {P : Program} {md : Region.Mode}
/-- Number j waits for number i, too. -/
def edgeO (i : Nat) (o : Oper) : Oper := { o with after := o.after.push ⟨i, .data⟩ }
def addEdge (i j : Nat) (l : List Oper) : List Oper := l.modify j (edgeO i)
theorem addEdge_at {i j m : Nat} {l : List Oper} : (addEdge i j l).toArray[m]? = if m = j then (l.toArray[m]?).map (edgeO i) else l.toArray[m]? := by
  simp only [addEdge, List.getElem?_toArray]
  rw [List.getElem?_modify]
  by_cases h : j = m
  · subst h; simp
  · simp [h, Ne.symm h]
theorem yielded_edge {i j : Nat} {l : List Oper} (t : Array Value) : yielded (addEdge i j l).toArray t = yielded l.toArray t := by
  funext m
  unfold yielded
  rw [addEdge_at]
  by_cases h : m = j
  · rw [if_pos h]; cases l.toArray[m]? <;> rfl
  · rw [if_neg h]
theorem exec_edge (ρ : Operand → Value) (i : Nat) (o : Oper) : execOp ρ (edgeO i o) = execOp ρ o := rfl
theorem wpOp_edge {i j m : Nat} {l : List Oper} {Q : Exit → Act → World → Prop} {K : Act → World → Prop} {a : Act} {w : World} (h : wpOp P (addEdge i j l).toArray Q m K a w) : wpOp P l.toArray Q m K a w := by
  unfold wpOp at h ⊢
  rw [addEdge_at] at h
  by_cases hm : m = j
  · rw [if_pos hm] at h
    cases ho : l.toArray[m]? with
    | none => rw [ho] at h; exact h
    | some o =>
      rw [ho] at h
      simp only [Option.map_some] at h
      rw [yielded_edge] at h
      exact h
  · rw [if_neg hm] at h
    cases ho : l.toArray[m]? with
    | none => rw [ho] at h; exact h
    | some o =>
      rw [ho] at h
      simp only at h
      rw [yielded_edge] at h
      exact h
theorem ready_edge {i j m : Nat} {l : List Oper} {listed : Array Bool} (hb : Region.binds md ⟨i, .data⟩ = true) :
    m ∈ Region.ready md (addEdge i j l).toArray listed ↔ m ∈ Region.ready md l.toArray listed ∧ (m = j → listed.getD i false = true) := by
  rw [mem_ready, mem_ready, addEdge_at]
  by_cases hm : m = j
  · subst hm
    rw [if_pos rfl]
    constructor
    · rintro ⟨h1, o, ho, hall⟩
      obtain ⟨o2, ho2, rfl⟩ := Option.map_eq_some_iff.1 ho
      refine ⟨⟨h1, o2, ho2, fun e he hbe => hall e ?_ hbe⟩, fun _ => hall ⟨i, .data⟩ ?_ hb⟩
      · simp [edgeO, he]
      · simp [edgeO]
    · rintro ⟨⟨h1, o, ho, hall⟩, h2⟩
      refine ⟨h1, _, by rw [ho]; rfl, fun e he hbe => ?_⟩
      simp only [edgeO, Array.mem_push] at he
      rcases he with he | rfl
      · exact hall e he hbe
      · exact h2 rfl
  · rw [if_neg hm]
    exact ⟨fun h => ⟨h, fun e => absurd e hm⟩, fun h => h.1⟩
/-- Taking a part out of a tuple asks nothing of the world. -/
theorem extract_pure {ops : Array Oper} {Q : Exit → Act → World → Prop} {i : Nat} {oi : Oper} {t : Operand} {k : Nat} {K : Act → World → Prop} {a : Act} {w : World} (hi : ops[i]? = some oi) (hop : oi.op = .extract t k) (hgd : oi.guard = none)
    (h : wpOp P ops Q i K a w) : ∃ v, Yields P ops oi v a ∧ K (a.put oi.dst v) w := by
  unfold wpOp at h
  simp only [hi] at h
  have hw : Region.wanted oi (yielded ops a.tmps) = true := by simp [Region.wanted, hgd]
  rw [if_pos hw] at h
  rcases h with h | h
  · unfold Oper.wp at h
    have hrun : ∀ W, (execOp a.eval oi).run P W = ((Instr.extract (a.eval t) k).run P W).andThen fun v w' => .ok (.value v) w' := by
      intro W
      unfold execOp
      rw [hop]
      simp only [Sem.run_bind, Sem.run_pure]
    rw [hrun] at h
    unfold Instr.extract at h hrun
    cases hv : a.eval t with
    | tuple vs =>
      rw [hv] at h hrun
      cases hk : vs[k]? with
      | some v =>
        simp only [hk, Sem.run_pure, Result.andThen_ok] at h hrun
        exact ⟨v, .inl ⟨hw, hrun⟩, h⟩
      | none =>
        simp only [hk] at h
        simp [stuck, Result.andThen, Oper.upon] at h
    | _ =>
      rw [hv] at h
      simp [stuck, Result.andThen, Oper.upon] at h
  · exfalso
    have h1 := h.1.1
    unfold execOp at h1
    rw [hop] at h1
    simp only [Instr.extract] at h1
    cases hv : a.eval t with
    | tuple vs =>
      rw [hv] at h1
      cases hk : vs[k]? with
      | some v => simp [hk, -Sem.runT_eq, Sem.runT, bind, pure, Functor.map, Sem.bind, Sem.pure, Sem.halt] at h1
      | none => simp [hk, stuck, -Sem.runT_eq, Sem.runT, bind, pure, Functor.map, Sem.bind, Sem.pure, Sem.halt] at h1
    | _ => rw [hv] at h1; simp [stuck, -Sem.runT_eq, Sem.runT, bind, pure, Functor.map, Sem.bind, Sem.pure, Sem.halt] at h1
theorem wpAny_edge {l : List Oper} {i j : Nat} {oi oj : Oper} {t : Operand} {k : Nat} {Q : Exit → Act → World → Prop} (hb : Region.binds md ⟨i, .data⟩ = true) (hi : l.toArray[i]? = some oi) (hj : l.toArray[j]? = some oj) (hlt : i < j) (hop : oi.op = .extract t k) (hgd : oi.guard = none)
    (hsel : ∀ (m : Nat) (o : Oper) cs b, l.toArray[m]? = some o → o.op ≠ .select cs b) (hQ : ∀ v c a w, Q (.panic c) (a.put oi.dst v) w → Q (.panic c) a w)
    (hdeps : ∀ e ∈ oi.after, Region.binds md e = true → ∃ e' ∈ oj.after, Region.binds md e' = true ∧ e'.on = e.on)
    (hfree : ∀ (m : Nat) (om : Oper), l.toArray[m]? = some om → m ≠ i → (∀ e ∈ oi.after, Region.binds md e = true → e.on ≠ m) → (∀ e ∈ om.after, Region.binds md e = true → e.on ≠ i) → oi.apart l.toArray om = true) :
    ∀ (fuel : Nat) (listed : Array Bool) (a : Act) (w : World), wpAny P md (addEdge i j l).toArray Q fuel listed a w → wpAny P md l.toArray Q fuel listed a w := by
  have hij : i ≠ j := by omega
  -- what may come up is what may come up with the edge, unless number i may
  have key : ∀ listed : Array Bool, i ∉ Region.ready md l.toArray listed → ∀ m, m ∈ Region.ready md l.toArray listed → m ∈ Region.ready md (addEdge i j l).toArray listed := by
    intro listed hni m hm
    refine (ready_edge hb).2 ⟨hm, fun hmj => ?_⟩
    subst hmj
    cases hl : listed.getD i false with
    | true => rfl
    | false =>
      exfalso
      apply hni
      obtain ⟨h1, o, ho, hall⟩ := mem_ready.1 hm
      rw [hj] at ho
      cases ho
      refine mem_ready.2 ⟨?_, oi, hi, fun e he hbe => ?_⟩
      · have hsz : i < listed.size := by
          rcases Nat.lt_or_ge m listed.size with h | h
          · omega
          · simp [Array.getElem?_eq_none h] at h1
        simp [hsz] at hl ⊢
        exact hl
      · obtain ⟨e', he', hb', hon⟩ := hdeps e he hbe
        rw [← hon]; exact hall e' he' hb'
  intro fuel
  induction fuel with
  | zero =>
    intro listed a w h
    refine ⟨?_, h.2⟩
    by_cases hri : i ∈ Region.ready md l.toArray listed
    · have : i ∈ Region.ready md (addEdge i j l).toArray listed := (ready_edge hb).2 ⟨hri, fun e => absurd e hij⟩
      rw [h.1] at this; cases this
    · apply List.eq_nil_iff_forall_not_mem.2
      intro m hm
      have := key listed hri m hm
      rw [h.1] at this; cases this
  | succ fuel ih =>
    intro listed a w h
    by_cases hri : i ∈ Region.ready md l.toArray listed
    · have hr' : i ∈ Region.ready md (addEdge i j l).toArray listed := (ready_edge hb).2 ⟨hri, fun e => absurd e hij⟩
      obtain ⟨v, hy, hk⟩ := extract_pure hi hop hgd (wpOp_edge (h.2 i hr'))
      exact wpAny_first hi hsel (fun c a w hh => hQ v c a w hh) fuel listed a w (fun m om hm hne hun hno => hfree m om hm hne (fun e he hbe hon => by
        obtain ⟨_, o2, ho2, hall⟩ := mem_ready.1 hri
        rw [hi] at ho2
        cases ho2
        have h1 := hall e he hbe
        rw [hon] at h1
        rcases Nat.lt_or_ge m listed.size with h' | h'
        · simp [h'] at h1 hun; rw [hun] at h1; cases h1
        · simp [Array.getElem?_eq_none h'] at h1) hno) hri hy (ih _ _ _ hk)
    · refine ⟨fun h0 => h.1 ?_, fun m hm => wpOp_mono (fun a' w' h' => ih _ a' w' h') (wpOp_edge (h.2 m (key listed hri m hm)))⟩
      apply List.eq_nil_iff_forall_not_mem.2
      intro m hm
      have := ((ready_edge hb).1 hm).1
      rw [h0] at this; cases this
/-- What is asked of the two numbers, to be told by the kernel. -/
def lateB (md : Region.Mode) (l : List Oper) (i j : Nat) : Bool :=
  decide (i < j) && Region.noSelect l.toArray && Region.binds md ⟨i, .data⟩ && (match l[i]?, l[j]? with
    | some oi, some oj => (match oi.op with | .extract _ _ => true | _ => false) && oi.guard.isNone &&
        (oi.after.all fun e => !Region.binds md e || oj.after.any fun e' => Region.binds md e' && e'.on == e.on) &&
        Region.free md l.toArray ((List.range l.length).map fun m => oi.after.any fun e => Region.binds md e && e.on == m).toArray i
    | _, _ => false)
theorem wp_region_late {id : Nat} {Q : Exit → Act → World → Prop} {a : Act} {w : World} {l : List Oper} (i j : Nat) (hm : P.follows .mixedOrders = true) (hQ : ∀ v c a w, Q (.panic c) (Act.put a ((l[i]?).bind (·.dst)) v) w → Q (.panic c) a w) (hB : lateB .any l i j = true)
    (h : wpAny P .any (addEdge i j l).toArray Q (addEdge i j l).toArray.size (Array.replicate (addEdge i j l).toArray.size false) a { w with drawn := w.drawn + 1 }) : (Code.region id l.toArray true).wp P Q a w := by
  refine wp_region_any hm ?_
  unfold lateB at hB
  simp only [Bool.and_eq_true, decide_eq_true_eq] at hB
  obtain ⟨⟨⟨hlt, hsel⟩, hb⟩, hrest⟩ := hB
  have hsz : (addEdge i j l).toArray.size = l.toArray.size := by simp [addEdge]
  rw [hsz] at h
  cases hi : l[i]? with
  | none => rw [hi] at hrest; simp at hrest
  | some oi =>
    cases hj : l[j]? with
    | none => rw [hi, hj] at hrest; simp at hrest
    | some oj =>
      rw [hi, hj] at hrest
      simp only [Bool.and_eq_true] at hrest
      obtain ⟨⟨⟨hop, hgd⟩, hdeps⟩, hfree⟩ := hrest
      rw [hi] at hQ
      have hi' : l.toArray[i]? = some oi := by simpa using hi
      have hj' : l.toArray[j]? = some oj := by simpa using hj
      cases hopx : oi.op with
      | extract t k =>
        refine wpAny_edge hb hi' hj' hlt hopx (by simpa using hgd) (Region.noSelect_spec hsel) (fun v c a w => hQ v c a w) ?_ ?_ _ _ _ _ h
        · intro e he hbe
          have h1 := Array.all_eq_true_iff_forall_mem.1 hdeps e he
          rw [hbe] at h1
          simp only [Bool.not_true, Bool.false_or] at h1
          obtain ⟨e', he', hh⟩ := Array.any_eq_true'.1 h1
          simp only [Bool.and_eq_true, beq_iff_eq] at hh
          exact ⟨e', he', hh.1, hh.2⟩
        · intro m om hmo hne hnd hno
          have hlm : m < l.length := by have := (Array.getElem?_eq_some_iff.1 hmo).1; simpa using this
          refine Region.free_spec hi' hfree m om hmo hne ?_ hno
          simp only [Array.getD_eq_getD_getElem?, List.getElem?_toArray, List.getElem?_map, List.getElem?_range hlm, Option.map_some, Option.getD_some]
          cases hany : oi.after.any fun e => Region.binds Region.Mode.any e && e.on == m with
          | false => rfl
          | true =>
            obtain ⟨e, he, hh⟩ := Array.any_eq_true'.1 hany
            simp only [Bool.and_eq_true, beq_iff_eq] at hh
            exact absurd hh.2 (hnd e he hh.1)
      | _ => rw [hopx] at hop; simp at hop
theorem wpAny_g {Q : Exit → Act → World → Prop} {a : Act} {w : World} {l : List Oper} {kds : List Kd} (n : Nat) (hB : Region.lexTailB .any l.toArray n = true)
    (h : wpG P l.toArray w (fun s a' => ∀ w', Cg w s w' → wpList P l.toArray Q (l.drop n) a' w') (l.take n) kds (fun _ => none) a) : wpAny P .any l.toArray Q l.toArray.size (Array.replicate l.toArray.size false) a { w with drawn := w.drawn + 1 } := by
  simp only [Region.lexTailB, Bool.and_eq_true, decide_eq_true_eq] at hB
  obtain ⟨⟨⟨⟨hsel, hn⟩, hs⟩, hc⟩, hlex⟩ := hB
  have hn' : n < l.length := by simpa using hn
  have htl : (l.take n).length = n := by simp; omega
  have hdl : (l.drop n).length = l.toArray.size - n := by simp
  have inv0 : HeadInv .any l.toArray n (Array.replicate l.toArray.size false) :=
    ⟨by simp, fun j oj _ hl => (by rw [getD_replicate_false] at hl; cases hl), fun t _ ht => getD_in (by simpa using ht) (getD_replicate_false _ _)⟩
  have hC : Cg w (fun _ => none) { w with drawn := w.drawn + 1 } := ⟨(Below.refl w.heap.size w).drewN 1, fun g o hg => by cases hg⟩
  have H := wpAnyG_lex (P := P) (w0 := w) (md := .any) (F := fun i => kds.getD i (.rel fun _ => False)) (g := l.toArray.size - n) hsel hs hc hn (l.take n) kds 0 _ (fun _ => none) a (fun j hj => by
    have hj' : j < n := by rw [htl] at hj; exact hj
    simp [hj']) (fun j kd hj => by simp [hj]) (by simpa using htl) ⟨0, fun _ _ => rfl⟩ inv0 (by rw [htl]; exact hlex) h
  have := wpAny_of_headG (Q' := Q) (g := l.toArray.size - n) (fun listed s a' w' hC' hL => by
    have := wpAny_of_seq (md := .any) (Q' := Q) (l.drop n) n listed a' w' (fun j => by simp [List.getElem?_drop]) (by rw [hdl]; exact hL.1) (hL.2 w' hC')
    rwa [hdl] at this) _ _ _ _ _ hC H
  rw [htl, show n + (l.toArray.size - n) = l.toArray.size by omega] at this
  exact this
/-- As 'wp_region_g', where number i (a part taken out of a tuple) needn't come ahead of the store of number j. -/
theorem wp_region_gl {id : Nat} {Q : Exit → Act → World → Prop} {a : Act} {w : World} {l : List Oper} {kds : List Kd} (i j n : Nat) (hm : P.follows .mixedOrders = true) (hQ : ∀ v c a w, Q (.panic c) (Act.put a ((l[i]?).bind (·.dst)) v) w → Q (.panic c) a w)
    (hL : lateB .any l i j = true) (hB : Region.lexTailB .any (addEdge i j l).toArray n = true)
    (h : wpG P (addEdge i j l).toArray w (fun s a' => ∀ w', Cg w s w' → wpList P (addEdge i j l).toArray Q ((addEdge i j l).drop n) a' w') ((addEdge i j l).take n) kds (fun _ => none) a) : (Code.region id l.toArray true).wp P Q a w :=
  wp_region_late i j hm hQ hL (wpAny_g n hB h)
end
end Go.Proofs.YtkfdclnaaphdgaaDoor
