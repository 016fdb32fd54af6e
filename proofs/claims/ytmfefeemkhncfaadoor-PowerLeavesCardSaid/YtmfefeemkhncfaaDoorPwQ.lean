/- Layer 14: rows of members of a call's own, appended to; the document's tables, pure. -/
import Derived.Test.YtmfefeemkhncfaaDoorPwP
import Derived.Deep.AppendLies
namespace Go.Proofs.YtmfefeemkhncfaaDoor
open Go.ChangeShapes Go.WideShapes Go.ChangeAt Go.RowKit Go.IntWalk
set_option linter.unusedVariables false
set_option maxRecDepth 100000

def keysJ : JT → List (List UInt8)
  | .nil => []
  | .cons k _ _ _ _ _ _ r => k :: keysJ r
theorem keysJ_len : ∀ t : JT, (keysJ t).length = t.ext
  | .nil => rfl
  | .cons k kd is n s l m r => by simp only [keysJ, List.length_cons, JT.ext, keysJ_len r]
theorem anyK_keys (g : List UInt8 → Bool) : ∀ t : JT, anyK (fun k _ => g k) t = (keysJ t).any g
  | .nil => rfl
  | .cons k kd is n s l m r => by simp only [anyK, keysJ, List.any_cons, anyK_keys g r]
/-- The cells of a row of members, its keys told. -/
def MRow : List (List UInt8) → List Value → Prop
  | [], cs => cs = []
  | k :: ks, cs => ∃ (kd : Int) (is : Bool) (n : Int) (s : List UInt8) (A : Option Addr) (nl cl : Nat) (B : Option Addr) (nm cm : Nat) (cs' : List Value),
      cs = strV k :: .int .i64 kd :: .bool is :: .int .i64 n :: strV s :: .slice A nl cl :: .slice B nm cm :: cs' ∧ MRow ks cs'
theorem MRow.len : ∀ {ks : List (List UInt8)} {cs : List Value}, MRow ks cs → cs.length = ks.length * 7
  | [], _, h => by rw [show _ = [] from h]; rfl
  | k :: ks, _, ⟨_, _, _, _, _, _, _, _, _, _, cs', e, h⟩ => by
    have := MRow.len h
    subst e
    simp only [List.length_cons, this]
    omega
theorem MRow.one : ∀ {ks : List (List UInt8)} {cs : List Value}, MRow ks cs → ∀ u ∈ cs, u.oneCell' = true
  | [], _, h, u, hu => by rw [show _ = [] from h] at hu; cases hu
  | k :: ks, _, ⟨_, _, _, _, _, _, _, _, _, _, cs', e, h⟩, u, hu => by
    subst e
    simp only [List.mem_cons] at hu
    rcases hu with rfl | rfl | rfl | rfl | rfl | rfl | rfl | hu
    all_goals first | rfl | exact MRow.one h u hu
theorem MRow.app : ∀ {ks ls : List (List UInt8)} {cs ds : List Value}, MRow ks cs → MRow ls ds → MRow (ks ++ ls) (cs ++ ds)
  | [], ls, _, ds, h, h2 => by rw [show _ = [] from h]; exact h2
  | k :: ks, ls, _, ds, ⟨kd, is, n, s, A, nl, cl, B, nm, cm, cs', e, h⟩, h2 => by
    subst e
    exact ⟨kd, is, n, s, A, nl, cl, B, nm, cm, cs' ++ ds, rfl, MRow.app h h2⟩
theorem MRow.at_ : ∀ {ks : List (List UInt8)} {cs : List Value} {i : Nat}, MRow ks cs → (h : i < ks.length) → ∃ (kd : Int) (is : Bool) (n : Int) (s : List UInt8) (A : Option Addr) (nl cl : Nat) (B : Option Addr) (nm cm : Nat),
      cs[i * 7]? = some (strV ks[i]) ∧ cs[i * 7 + 1]? = some (.int .i64 kd) ∧ cs[i * 7 + 2]? = some (.bool is) ∧ cs[i * 7 + 3]? = some (.int .i64 n) ∧ cs[i * 7 + 4]? = some (strV s) ∧ cs[i * 7 + 5]? = some (.slice A nl cl) ∧ cs[i * 7 + 6]? = some (.slice B nm cm)
  | [], _, _, _, hi => absurd hi (by simp)
  | k :: ks, _, 0, ⟨kd, is, n, s, A, nl, cl, B, nm, cm, cs', e, h⟩, _ => by
    subst e
    exact ⟨kd, is, n, s, A, nl, cl, B, nm, cm, rfl, rfl, rfl, rfl, rfl, rfl, rfl⟩
  | k :: ks, _, i + 1, ⟨kd, is, n, s, A, nl, cl, B, nm, cm, cs', e, h⟩, hi => by
    subst e
    obtain ⟨kd, is, n, s, A, nl, cl, B, nm, cm, h0, h1, h2, h3, h4, h5, h6⟩ := MRow.at_ (i := i) h (by simpa using hi)
    have e7 : (i + 1) * 7 = i * 7 + 7 := by omega
    refine ⟨kd, is, n, s, A, nl, cl, B, nm, cm, ?_, ?_, ?_, ?_, ?_, ?_, ?_⟩
    all_goals (rw [e7]; simp only [List.getElem?_cons_succ, Nat.add_right_comm _ 7, List.getElem_cons_succ]; assumption)
theorem JIn.mrow {P : Nat → Prop} {w : World} : ∀ (t : JT) (b o : Nat), JIn P w true b o t → ∃ cs, w.rangeAt b o cs ∧ MRow (keysJ t) cs
  | .nil, b, o, _ => ⟨[], fun j v h => by simp at h, rfl⟩
  | .cons k kd is n s l m r, b, o, h => by
    obtain ⟨⟨hk, _⟩, ⟨A, nl, cl, B, nm, cm, hr, _⟩, _, hrest⟩ := h
    obtain ⟨cs', hr', hm'⟩ := JIn.mrow r b _ hrest
    refine ⟨strV k :: .int .i64 kd :: .bool is :: .int .i64 n :: strV s :: .slice A nl cl :: .slice B nm cm :: cs', ?_, kd, is, n, s, A, nl, cl, B, nm, cm, cs', rfl, hm'⟩
    have e1 : kwM true = 1 := rfl
    have e7 : stM true = 7 := rfl
    rw [e1] at hr
    rw [e7] at hr'
    intro j v hj
    match j, hj with
    | 0, hj => simp at hj; subst hj; exact hk
    | 1, hj => exact hr 0 v (by simpa using hj)
    | 2, hj => exact hr 1 v (by simpa using hj)
    | 3, hj => exact hr 2 v (by simpa using hj)
    | 4, hj => exact hr 3 v (by simpa using hj)
    | 5, hj => exact hr 4 v (by simpa using hj)
    | 6, hj => exact hr 5 v (by simpa using hj)
    | j + 7, hj =>
      have := hr' j v (by simpa using hj)
      rw [show o + (j + 7) = o + 7 + j by omega]
      exact this
/-- The slice 'v' holds a row of members of the call's own. -/
def OwnM (base : Nat) (w : World) (v : Value) (ks : List (List UInt8)) : Prop := ∃ cs, MRow ks cs ∧ w.ownsRow base 44 7 v ks.length cs
section
variable {w w' : World} {base : Nat} {v : Value} {ks : List (List UInt8)}
theorem OwnM.empty {base : Nat} {w : World} (hb : base ≤ w.heap.size) : OwnM base (w.alloc (.cells #[] 44)) (.slice (some ⟨w.heap.size, 0, none⟩) 0 0) [] :=
  ⟨[], rfl, rfl, .inr ⟨w.heap.size, 0, #[], rfl, hb, heap_alloc_new w _, Nat.le_refl _, by decide, rfl, rfl⟩⟩
theorem OwnM.alloc (h : OwnM base w v ks) (o : Obj) : OwnM base (w.alloc o) v ks := by obtain ⟨cs, h1, h2⟩ := h; exact ⟨cs, h1, World.ownsRow.alloc h2 o⟩
theorem OwnM.drewN (h : OwnM base w v ks) (n : Nat) : OwnM base (w.drewN n) v ks := h
theorem OwnM.below (h : OwnM base w v ks) (hg : Below w.heap.size w w') : OwnM base w' v ks := by
  obtain ⟨cs, h0, h⟩ := h
  refine ⟨cs, h0, h.1, ?_⟩
  rcases h.2 with h2 | ⟨g, cap, cur, hv, hb, hh, r⟩
  · exact .inl h2
  · exact .inr ⟨g, cap, cur, hv, hb, by rw [hg.block g ((Array.getElem?_eq_some_iff.1 hh).1)]; exact hh, r⟩
theorem OwnM.lt (h : OwnM base w v ks) : ∀ k, v.ownBlock = .some k → base ≤ k ∧ k < w.heap.size := by obtain ⟨cs, h1, h2⟩ := h; exact World.ownsRow.lt h2
theorem OwnM.grown {w0 : World} (hb : Below base w0 w) (h : OwnM base w v ks) (hg : w.grownBy w' v.ownBlock) (hw : base ≤ w.heap.size) : Below base w0 w' := by
  refine ⟨hg.os.trans hb.os, hg.tape.trans hb.tape, hg.output.trans hb.output, Nat.le_trans hb.size hg.size, fun k hk => ?_⟩
  refine (hg.block k (Nat.lt_of_lt_of_le hk hw) (fun e => ?_)).trans (hb.block k hk)
  have := (h.lt k e.symm).1
  omega
end
theorem OwnM.form {w : World} {base : Nat} {v : Value} {ks : List (List UInt8)} (h : OwnM base w v ks) : ∃ A cap, v = .slice A ks.length cap := by
  obtain ⟨cs, _, h⟩ := h
  rcases h.2 with ⟨rfl, h0⟩ | ⟨g, cap, cur, rfl, _⟩
  · exact ⟨none, 0, by rw [h0]⟩
  · exact ⟨_, cap, rfl⟩
/-- One member of the row. -/
theorem OwnM.at_ {w : World} {base : Nat} {A : Option Addr} {n c : Nat} {ks : List (List UInt8)} (h : OwnM base w (.slice A n c) ks) {i : Nat} (hi : i < ks.length) :
    ∃ (g : Nat) (kd : Int) (is : Bool) (m : Int) (s : List UInt8) (A1 : Option Addr) (nl cl : Nat) (B1 : Option Addr) (nm cm : Nat), A = some ⟨g, 0, none⟩ ∧ base ≤ g ∧ g < w.heap.size ∧
      w.cell? ⟨g, i * 7, none⟩ = some (.string ⟨(ks[i]).toArray⟩) ∧ w.cell? ⟨g, i * 7 + 1, none⟩ = some (.int .i64 kd) ∧ w.cell? ⟨g, i * 7 + 2, none⟩ = some (.bool is) ∧ w.cell? ⟨g, i * 7 + 3, none⟩ = some (.int .i64 m) ∧ w.cell? ⟨g, i * 7 + 4, none⟩ = some (.string ⟨s.toArray⟩) ∧
      w.cell? ⟨g, i * 7 + 5, none⟩ = some (.slice A1 nl cl) ∧ w.cell? ⟨g, i * 7 + 6, none⟩ = some (.slice B1 nm cm) := by
  obtain ⟨cs, hm, h⟩ := h
  rcases h.2 with ⟨_, h0⟩ | ⟨g, cap, cur, hv, hb, hh, hn, hmx, hs, ht⟩
  · omega
  · obtain ⟨kd, is, m, s, A1, nl, cl, B1, nm, cm, h0, h1, h2, h3, h4, h5, h6⟩ := hm.at_ hi
    injection hv with hA _ _
    have hc : ∀ (k : Nat) (u : Value), cs[k]? = some u → w.cell? ⟨g, k, none⟩ = some u := fun k u hu => by
      rw [cell_of_row _ _ _ _ _ _ hh]
      rw [← ht] at hu
      simp only [List.getElem?_take] at hu
      split at hu
      · simpa using hu
      · cases hu
    exact ⟨g, kd, is, m, s, A1, nl, cl, B1, nm, cm, hA, hb, (Array.getElem?_eq_some_iff.1 hh).1, hc _ _ h0, hc _ _ h1, hc _ _ h2, hc _ _ h3, hc _ _ h4, hc _ _ h5, hc _ _ h6⟩
theorem info_mem : (Tryd.prog.info? 44).map (fun i => (i.zero, i.size, i.bytes)) = some (some (.agg #[.string ⟨#[]⟩, .int .i64 0, .bool false, .int .i64 0, .string ⟨#[]⟩, .slice none 0 0, .slice none 0 0]), 7, 104) := by kernel_rfl
theorem run_append_zeroM (w : World) (base : Nat) (ty : TypeId) (v : Value) (ks : List (List UInt8)) (hown : OwnM base w v ks) (A : Option Addr) (c : Nat) :
    (Builtin.append_ #[23, 23] ty #[v, .slice A 0 c]).run Tryd.prog w = .ok v w := by
  obtain ⟨i0, hi, hz0, hz1, hz2⟩ := info_parts info_mem
  obtain ⟨cs, _, hown⟩ := hown
  rcases hown.2 with ⟨rfl, _⟩ | ⟨g, cap, cur, rfl, _, _, hnc, _⟩
  · cases A <;> simp [Builtin.append_, run_underlying Tryd.underlying23, sizeOf, typeInfo, hi, Builtin.lenOf, Builtin.firstCells, loadCells, loadCellsFrom, Result.andThen]
  · cases A <;> simp [Builtin.append_, run_underlying Tryd.underlying23, sizeOf, typeInfo, hi, Builtin.lenOf, Builtin.firstCells, hnc, loadCells, loadCellsFrom, storeCells, Result.andThen]
/-- 'append(own, a map's members...)', at a step of a region that draws its order. -/
theorem step_append_mem {P : Nat → Prop} {ops : Array Oper} {o : Oper} {a : Act} {K : Act → World → Prop} {Q : Exit → Act → World → Prop} {E : Prop} {W : World} (hgd : o.guard = none) (s x : Operand)
    (ho : o.op = .call { callee := .builtin .append, args := #[s, x], argTypes := #[23, 23] })
    (base : Nat) (v : Value) (ks : List (List UInt8)) (hs : a.eval s = v) (hown : OwnM base W v ks) (A : Option Addr) (n c : Nat) (t : JT) (hx : a.eval x = .slice A n c) (hn : n = t.ext)
    (hl : JSl P W true A t) (hlen : ks.length + n ≤ 1000000) (hbase : base ≤ W.heap.size)
    (h : ∀ v' w', OwnM base w' v' (ks ++ keysJ t) → W.grownBy w' v.ownBlock → K (a.put o.dst v') w') :
    if Region.wanted o (yielded ops a.tmps) = true then Oper.wp Tryd.prog o a W K Q else E := by
  have hw : Region.wanted o (yielded ops a.tmps) = true := by simp [Region.wanted, hgd]
  have zero : t = .nil → (if Region.wanted o (yielded ops a.tmps) = true then Oper.wp Tryd.prog o a W K Q else E) := fun ht => by
    subst ht
    obtain rfl : n = 0 := hn
    rw [if_pos hw]
    have hrun := run_append_zeroM W base o.type v ks hown A c
    unfold Oper.wp
    simp [execOp, ho, resolve, invoke, builtin, hs, hx, hrun, Result.andThen]
    exact h v W (by simpa [keysJ] using hown) ⟨rfl, rfl, rfl, Nat.le_refl _, fun _ _ _ => rfl⟩
  rcases hl with ht | ⟨b, off, rfl, _, hj⟩
  · exact zero ht
  · rcases Nat.eq_zero_or_pos n with h0 | h0
    · exact zero (by cases t with | nil => rfl | cons => rw [hn] at h0; simp [JT.ext] at h0)
    · obtain ⟨i0, hi, hz0, hz1, hz2⟩ := info_parts info_mem
      obtain ⟨ds, hr, hm⟩ := JIn.mrow t b off hj
      obtain ⟨cs, hc, hown⟩ := hown
      have hkl : (keysJ t).length = n := by rw [keysJ_len, hn]
      refine step_append_lies W hgd s x 23 ho base 44 i0 _ 7 104 Tryd.underlying23 hi hz0 hz1 hz2 rfl (by decide) v _ _ hs hown ⟨b, off, none⟩ n c ds hx (by rw [hm.len, hkl]) ?_ hm.one h0 (Nat.le_trans hlen (by decide)) (by omega) hbase _ rfl ?_
      · intro j u hju
        have hplain : (⟨b, off, none⟩ : Addr).add j = ⟨b, off + j, none⟩ := by unfold Addr.add; split <;> simp_all
        rw [hplain]
        exact hr j u hju
      · intro g cap w' h1 h2 _ _
        exact h _ w' ⟨cs ++ ds, hc.app hm, by rw [List.length_append, hkl]; exact h1⟩ h2
/-- .. over a world that is kept. -/
theorem step_append_in {ops : Array Oper} {o : Oper} {a : Act} {K : Act → World → Prop} {Q : Exit → Act → World → Prop} {E : Prop} {W : World} (hgd : o.guard = none) (s x : Operand)
    (ho : o.op = .call { callee := .builtin .append, args := #[s, x], argTypes := #[23, 23] })
    (WA : World) (v : Value) (ks : List (List UInt8)) (hs : a.eval s = v) (hown : OwnM WA.heap.size W v ks) (hb : Below WA.heap.size WA W) (A : Option Addr) (n c : Nat) (t : JT) (hx : a.eval x = .slice A n c) (hn : n = t.ext)
    (hl : JSl (· < WA.heap.size) WA true A t) (hlen : ks.length + n ≤ 1000000)
    (h : ∀ v' w', OwnM WA.heap.size w' v' (ks ++ keysJ t) → Below WA.heap.size WA w' → K (a.put o.dst v') w') :
    if Region.wanted o (yielded ops a.tmps) = true then Oper.wp Tryd.prog o a W K Q else E :=
  step_append_mem hgd s x ho WA.heap.size v ks hs hown A n c t hx hn (hl.blw hb) hlen hb.size (fun v' w' h1 h2 => h v' w' h1 (OwnM.grown hb hown h2 hb.size))
end Go.Proofs.YtmfefeemkhncfaaDoor
