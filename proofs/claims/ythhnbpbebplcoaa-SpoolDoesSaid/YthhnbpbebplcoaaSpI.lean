/- Layer 19: the program's Open, walked. -/
import Derived.Test.YthhnbpbebplcoaaSpH
import Derived.Deep.DeepCutAuto
namespace Go.Proofs.Ythhnbpbebplcoaa
open Go.ChangeShapes Go.WideShapes Go.ChangeAt Go.RowKit Go.IntWalk Go.Shelf
set_option linter.unusedVariables false
attribute [local go_sem] Oper.semAt_some

theorem calls_of_marks {P : Program} {f : FuncId} {fn : Func} {c : Code} {args : Array Value} {w : World} {R : Ending → World → Prop} (hf : P.funcs[f]? = some fn) (hb : fn.body = some c)
    (h : c.wp P (bodyPostM Fence.wide 9 P fn R) { tmps := args ++ Array.replicate (fn.ntmps - args.size) undef, defers := [] } w) : Calls P f args w R :=
  (callsIn_wide (n := 9)).1 (callsIn_of_wp_marks hf hb trivial (wpIn_wide.2 h) rfl)
theorem post_marks {P : Program} {fn : Func} {R : Ending → World → Prop} {tmps : Array Value} {D : Nat} {W : World} {v : Value} (hK : W.heap[D]? = some (.deferred (some [])))
    (hres : (results fn tmps).run P (W.putObj D (.deferred none)) = .ok v (W.putObj D (.deferred none))) (hR : R (.returned v) (W.putObj D (.deferred none))) :
    bodyPostM Fence.wide 9 P fn R .ret { tmps := tmps, defers := [{ target := .collected D, args := #[] }] } W :=
  ⟨by simp, .inl ⟨D, _, rfl, run_takeDeferred hK, v, hres, hR⟩⟩
theorem post_early {P : Program} {fn : Func} {R : Ending → World → Prop} {tmps : Array Value} {W : World} {v : Value} (hres : (results fn tmps).run P W = .ok v W) (hR : R (.returned v) W) :
    bodyPostM Fence.wide 9 P fn R .ret { tmps := tmps, defers := [] } W := ⟨v, hres, hR⟩
theorem cell_new (w : World) (C : Array Value) (T : TypeId) (f : Nat × Nat) (v : Value) (h : C[0]? = some v) : (w.alloc (.cells C T f)).cell? ⟨w.heap.size, 0, none⟩ = some v := by
  rw [cell_of_row _ _ _ _ _ _ (heap_alloc_new w _)]; exact h
theorem open_res (W : World) (tmps : Array Value) (b0 b1 : Nat) (A : Option Addr) (n c : Nat) (e : Int) (h2 : tmps.getD 2 undef = .pointer (some ⟨b0, 0, none⟩)) (h3 : tmps.getD 3 undef = .pointer (some ⟨b1, 0, none⟩))
    (c0 : W.cell? ⟨b0, 0, none⟩ = some (.slice A n c)) (c1 : W.cell? ⟨b1, 0, none⟩ = some (.int .i64 e)) :
    (results Try.f16 tmps).run Try.prog W = .ok (.tuple #[.slice A n c, .int .i64 e]) W := by
  have hl0 : (loadVar 34 ⟨b0, 0, none⟩).run Try.prog W = .ok (.slice A n c) W := by go_simp
  have hl1 : (loadVar 31 ⟨b1, 0, none⟩).run Try.prog W = .ok (.int .i64 e) W := by go_simp
  simp only [Array.getD_eq_getD_getElem?] at h2 h3
  simp only [results, Try.results16]
  simp [h2, h3, asAddr, hl0, hl1]
theorem trim_line (z : List UInt8) : Lib.trimSuffix (z ++ [10]) [10] = z := by
  unfold Lib.trimSuffix Lib.hasSuffix
  rw [if_pos (by rw [List.isSuffixOf_iff_suffix]; exact List.suffix_append _ _)]
  simp
theorem trim_calls (z : List UInt8) (hz : z.length ≤ 8388608) (w : World) : Calls Try.prog 37 #[.string ⟨(z ++ [10]).toArray⟩, .string ⟨#[10]⟩] w fun e w' => e = .returned (.string ⟨z.toArray⟩) ∧ w = w' := by
  have := Try.strings_TrimSuffix ⟨(z ++ [10]).toArray⟩ ⟨#[10]⟩ w (by show (z ++ [10]).length ≤ _; simp; omega)
  have e1 : (⟨(z ++ [10]).toArray⟩ : ByteArray).data.toList = z ++ [10] := rfl
  have e2 : (⟨#[10]⟩ : ByteArray).data.toList = [10] := rfl
  rw [e1, e2, trim_line] at this
  exact this.mono fun e w' h => ⟨h.1, h.2.symm⟩
/-- 'append(own, a, b, ..)' inside a fence. -/
theorem wpListIn_append_lits {F : Fence} {n : Nat} {ops : Array Oper} {rest : List Oper} {o : Oper} {a : Act} {Q : Exit → Act → World → Prop} {w : World} (hgd : o.guard = none) (s x : Operand) (S E : TypeId) {z : Value} {bytes : Nat}
    (hS : Try.prog.underlying S = some (.slice E)) (hE : (Try.prog.info? E).map (fun i => (i.zero, i.size, i.bytes)) = some (some z, 1, bytes)) (hzc : z.cells.size = 1)
    (ho : o.op = .call { callee := .builtin .append, args := #[s, x], argTypes := #[S, S] })
    (base : Nat) (v : Value) (vs : List Value) (hs : a.eval s = v) (hown : OwnVs base E w v vs) (l : List Value) (T : TypeId) (C : Array Value) (hC : C = l.toArray) (m : Nat)
    (hx : a.eval x = .slice (some ⟨w.heap.size, 0, none⟩) m m) (hm : Hid (m = l.length)) (h1 : ∀ u ∈ l, u.oneCell' = true) (h63 : vs.length + m ≤ maxLen) (hlen : (vs.length + m) * bytes ≤ 140737488355328) (hbase : base ≤ w.heap.size)
    (h : ∀ v' w', OwnVs base E w' v' (vs ++ l) → w.grownBy w' v.ownBlock → wpListIn F n Try.prog ops Q rest (a.put o.dst v') w') :
    wpListIn F n Try.prog ops Q (o :: rest) a (w.alloc (.cells C T)) := by
  obtain ⟨i0, hi, hz0, hz1, hz2⟩ := info_parts hE
  have hm := hm.out
  subst hm
  subst hC
  refine wpListIn_append_own _ hgd s x S ho base E i0 z 1 bytes hS hi hz0 hz1 hz2 hzc (by decide) v _ _ hs (OwnVs.alloc hown _) ⟨w.heap.size, 0, none⟩ l.length l.length l hx (by simp) ?_ h1 h63 hlen (by simp; omega) ?_
  · intro j u hj
    have hplain : (⟨w.heap.size, 0, none⟩ : Addr).add j = ⟨w.heap.size, j, none⟩ := by unfold Addr.add; split <;> simp_all
    rw [hplain]
    exact (Blk.new w l T).cell hj
  · intro v' w' r1 r2 _
    exact h v' w' (by simpa [OwnVs] using r1) ⟨r2.os, r2.tape, r2.output, Nat.le_trans (by simp) r2.size, fun k hk hne => (r2.block k (by simp; omega) hne).trans (heap_alloc_old w _ hk)⟩
/-- Where the loop over the lines stands. -/
def OpI (w W3 : World) (B6 Bs : Nat) (pre : List (List UInt8)) (W : World) : Prop :=
  Below w.heap.size w W ∧ W3.heap.size ≤ W.heap.size ∧ Blk W w.heap.size 34 [.slice none 0 0] ∧ Blk W (w.heap.size + 1) 31 [.int .i64 0] ∧
    ∃ (rs : List (List UInt8)) (v6 : Value), recsL pre = some rs ∧ Blk W B6 34 [v6] ∧ OwnVs W3.heap.size 9 W v6 (rs.map strV)
/-- Where it has been left. -/
def OpX (w : World) (zs : List (List UInt8)) (pre : List (List UInt8)) (W : World) : Prop :=
  Below w.heap.size w W ∧ recsL zs = none ∧ Blk W w.heap.size 34 [.slice none 0 0] ∧ Blk W (w.heap.size + 1) 31 [.int .i64 4]
theorem OwnVs.row {base : Nat} {E : TypeId} {w : World} {v : Value} {vs : List Value} (h : OwnVs base E w v vs) {k : Nat} (hk : v.ownBlock = some k) : ∃ o : Obj, w.heap[k]? = some o ∧ o.isCells = true := by
  rcases h.2 with ⟨rfl, _⟩ | ⟨g, cap, cur, rfl, _, hh, _⟩
  · cases hk
  · simp only [Value.ownBlock, Option.some.injEq] at hk
    subst hk
    exact ⟨_, hh, rfl⟩
theorem flatL_ge (zs : List (List UInt8)) : zs.length ≤ (flatL zs).length := by
  induction zs with
  | nil => simp
  | cons z zs ih => rw [flatL_cons]; simp; omega
/-- A round that has taken a record. -/
theorem OpI.round {w W3 W W4 w5 : World} {B6 Bs : Nat} {pre rs : List (List UInt8)} {x b : List UInt8} {v6 v5 : Value} (hw : w.heap.size + 1 < B6) (h6 : B6 < Bs) (hs : Bs < W3.heap.size) (hx : decF true x = some b)
    (hI : Below w.heap.size w W ∧ W3.heap.size ≤ W.heap.size ∧ Blk W w.heap.size 34 [.slice none 0 0] ∧ Blk W (w.heap.size + 1) 31 [.int .i64 0] ∧ recsL pre = some rs ∧ Blk W B6 34 [v6] ∧ OwnVs W3.heap.size 9 W v6 (rs.map strV))
    (b4 : Below W.heap.size W W4) (g5 : W4.grownBy w5 v6.ownBlock) (o5 : OwnVs W3.heap.size 9 w5 v5 (rs.map strV ++ [strV b])) :
    KeepsFrom W3.heap.size W (w5.setCell ⟨B6, 0, none⟩ v5) ∧ (w5.setCell ⟨B6, 0, none⟩ v5).heap[Bs]? = W.heap[Bs]? ∧ OpI w W3 B6 Bs (pre ++ [x]) (w5.setCell ⟨B6, 0, none⟩ v5) := by
  obtain ⟨i1, i2, i3, i4, i5, i6, i7⟩ := hI
  have o4 : OwnVs W3.heap.size 9 W4 v6 (rs.map strV) := OwnVs.below i7 b4 (Nat.le_refl _)
  have hne : ∀ k, k < W3.heap.size → v6.ownBlock ≠ some k := fun k hk e => by have := (i7.lt k e).1; omega
  have hne5 : v5.ownBlock = none ∨ v5.ownBlock ≠ some B6 := .inr (fun e => by have := (o5.lt _ e).1; omega)
  have hsz := b4.size
  refine ⟨?_, ?_, ?_⟩
  · exact ((KeepsFrom.of_grownBy (gb_below b4 (row := none)) (fun j e => by cases e)).trans ((KeepsOthers.of_grownBy g5 (fun j o e ho => by
      obtain ⟨o', h1, h2⟩ := o4.row e
      rw [ho] at h1; cases h1; exact h2)).from _)).trans ((KeepsOthers.setCell _ _ _).from _)
  · have h1 : (w5.setCell ⟨B6, 0, none⟩ v5).heap[Bs]? = w5.heap[Bs]? := by
      simp [World.setCell, Array.getElem?_modify]; omega
    rw [h1]
    exact (g5.block Bs (by omega) (fun e => hne Bs hs e.symm)).trans (b4.block Bs (by omega))
  · refine ⟨(((i1.then_ b4).grown g5 (i1.then_ b4).size (fun k e => by have := (i7.lt k e).1; omega)).setCell (by show w.heap.size ≤ B6; omega) _), by have h2 := g5.size; simp [World.setCell]; omega, ?_, ?_, rs ++ [b], v5, recsL_snoc _ _ _ _ i5 hx, ?_, ?_⟩
    · exact ((i3.later b4).keptR g5 (hne _ (by omega))).other (by omega) _
    · exact ((i4.later b4).keptR g5 (hne _ (by omega))).other (by omega) _
    · exact ((i6.later b4).keptR g5 (hne _ (by omega))).set_ 0 v5
    · have := OwnVs.kept o5 (gb_setCell w5 B6 0 v5) hne5
      simpa using this
theorem OpI.box {w W3 : World} {B6 Bs : Nat} (h6 : B6 ≠ Bs) (hs : Bs < W3.heap.size) (hw : w.heap.size + 1 < Bs) : BoxFree Bs (OpI w W3 B6 Bs) := by
  rintro pre W W' ⟨b, z, a0, a1, rs, v6, hr, hb6, ho⟩ hg
  refine ⟨b.gb hg (by omega) b.size, Nat.le_trans z hg.size, a0.kept hg (by omega), a1.kept hg (by omega), rs, v6, hr, hb6.kept hg h6, ho.kept hg ?_⟩
  by_cases hn : v6.ownBlock = none
  · exact .inl hn
  · refine .inr fun e => ?_
    have := (ho.lt _ e).1
    omega
theorem OpI.own {w W3 : World} {B6 Bs : Nat} (h6 : B6 < W3.heap.size) (hw : w.heap.size + 1 < W3.heap.size) : OwnFrom W3.heap.size (OpI w W3 B6 Bs) := by
  rintro pre W W' row ⟨b, z, a0, a1, rs, v6, hr, hb6, ho⟩ hg hrow
  have hne : ∀ k, k < W3.heap.size → row ≠ some k := fun k hk e => by have := (hrow k e).1; omega
  refine ⟨b.grown hg b.size (fun k e => by have := (hrow k e).1; omega), Nat.le_trans z hg.size, a0.keptR hg (hne _ (by omega)), a1.keptR hg (hne _ (by omega)), rs, v6, hr, hb6.keptR hg (hne _ h6), ho.kept hg ?_⟩
  by_cases hn : v6.ownBlock = none
  · exact .inl hn
  · refine .inr fun e => ?_
    obtain ⟨k, hk⟩ := Option.ne_none_iff_exists'.1 hn
    obtain ⟨o, h1, h2⟩ := ho.row hk
    obtain ⟨_, o2, h3, h4⟩ := hrow k (e ▸ hk)
    rw [h1] at h3
    cases h3
    rw [h2] at h4
    cases h4
theorem OpX.own {w : World} {zs : List (List UInt8)} {S : Nat} (hw : w.heap.size + 1 < S) : OwnFrom S (OpX w zs) := by
  rintro pre W W' row ⟨b, z, a0, a1⟩ hg hrow
  have hne : ∀ k, k < S → row ≠ some k := fun k hk e => by have := (hrow k e).1; omega
  exact ⟨b.grown hg b.size (fun k e => by have := (hrow k e).1; omega), z, a0.keptR hg (hne _ (by omega)), a1.keptR hg (hne _ (by omega))⟩
theorem OwnVs.stay {base : Nat} {E : TypeId} {w w1 : World} {v : Value} {vs : List Value} (h : OwnVs base E w v vs) (hk : ∀ k, v.ownBlock = some k → w1.heap[k]? = w.heap[k]?) : OwnVs base E w1 v vs := by
  refine ⟨h.1, ?_⟩
  rcases h.2 with h2 | ⟨g, cap, cur, hv, hg, hh, r⟩
  · exact .inl h2
  · subst hv
    exact .inr ⟨g, cap, cur, rfl, hg, (hk g rfl).trans hh, r⟩
theorem OwnVs.lower {base b2 : Nat} {E : TypeId} {w : World} {v : Value} {vs : List Value} (h : OwnVs base E w v vs) (hb : b2 ≤ base) : OwnVs b2 E w v vs := by
  refine ⟨h.1, ?_⟩
  rcases h.2 with h2 | ⟨g, cap, cur, hv, hg, r⟩
  · exact .inl h2
  · exact .inr ⟨g, cap, cur, hv, Nat.le_trans hb hg, r⟩
/-- Behind the loop. -/
theorem open_done {base g : Nat} {w W : World} {A : Option Addr} {n cap S F M D : Nat} {s : Sp} {rs : List (List UInt8)} {v6 : Value} (hp : PSt base w g (.slice A n cap) s) (hok : s.Ok) (hdn : s.dn = false)
    (hF : (flatL (splitF s.bs).1).length = F) (b : Below w.heap.size w W) (a0 : Blk W w.heap.size 34 [.slice none 0 0]) (a1 : Blk W (w.heap.size + 1) 31 [.int .i64 0])
    (ho : OwnVs S 9 W v6 (rs.map strV)) (hS : w.heap.size + 1 < S) (hr : recsL (splitF s.bs).1 = some rs) (hD : S ≤ D) (hK : W.heap[D]? = some (.deferred (some []))) (hM : min s.sy F = M) (W' : World)
    (hW' : W' = ((((W.setCell ⟨g, 0, none⟩ (.slice A F cap)).setCell ⟨g, 1, none⟩ (.int .i64 (M : Int))).setCell ⟨w.heap.size, 0, none⟩ v6).setCell ⟨w.heap.size + 1, 0, none⟩ (.int .i64 0))) :
    W'.heap[D]? = some (.deferred (some [])) ∧ Blk (W'.putObj D (.deferred none)) w.heap.size 34 [v6] ∧ Blk (W'.putObj D (.deferred none)) (w.heap.size + 1) 31 [.int .i64 0] ∧
    PSt base (W'.putObj D (.deferred none)) g (.slice A F cap) s.open_.1 ∧ Nx w (W'.putObj D (.deferred none)) g (.slice A n cap) (.slice A F cap) ∧ OwnVs w.heap.size 9 (W'.putObj D (.deferred none)) v6 (s.open_.2.1.map strV) ∧ s.open_.2.2 = 0 := by
  have hgl : g < w.heap.size := hp.lt
  have hso : s.open_ = ({ s with bs := flatL s.lines, sy := min s.sy (flatL s.lines).length }, rs, 0) := by
    unfold Sp.open_
    rw [if_neg (by simp [hdn])]
    unfold Sp.lines
    rw [hr]
  have hoth : ∀ (X : World) (k j : Nat) (v : Value) (i : Nat), i ≠ k → (X.setCell ⟨k, j, none⟩ v).heap[i]? = X.heap[i]? := fun X k j v i h => by
    simp [World.setCell, Array.getElem?_modify]; omega
  have hall : ∀ i, i ≠ g → i ≠ w.heap.size → i ≠ w.heap.size + 1 → W'.heap[i]? = W.heap[i]? := fun i h1 h2 h3 => by
    rw [hW', hoth _ _ _ _ _ h3, hoth _ _ _ _ _ h2, hoth _ _ _ _ _ h1, hoth _ _ _ _ _ h1]
  have hDk : W'.heap[D]? = some (.deferred (some [])) := (hall D (by omega) (by omega) (by omega)).trans hK
  have hgW : Blk W' g 54 (PCs (.slice A F cap) { s with bs := flatL s.lines, sy := M }) := by
    have h := ((((hp.below b).2.1.set_ 0 (.slice A F cap)).set_ 1 (.int .i64 (M : Int))).other (g2 := w.heap.size) (k := 0) (by omega) v6).other (g2 := w.heap.size + 1) (k := 0) (by omega) (.int .i64 0)
    rw [hW']
    exact h
  have hgb : W.grownBy W' none ∨ True := .inr trivial
  have hos : W'.os = W.os ∧ W'.tape = W.tape ∧ W'.output = W.output ∧ W'.heap.size = W.heap.size := by rw [hW']; simp [World.setCell]
  have hne : (Value.slice A F cap).ownBlock ≠ some g := by rw [own_slice A F n cap]; exact hp.2.2
  have hflt : flatL s.lines = s.bs.take F := by unfold Sp.lines; rw [← hF]; exact flatL_take _
  have hFl : F ≤ s.bs.length := by rw [← hF]; exact flatL_le _
  have hnS : ∀ k, k < S → v6.ownBlock ≠ some k := fun k hk e => by have := (ho.lt k e).1; omega
  refine ⟨hDk, (World.putObj_heap_other (by omega)).trans ?_, (World.putObj_heap_other (by omega)).trans ?_, ?_, ?_, ?_, by rw [hso]⟩
  · rw [hW']
    exact ((((a0.other (by omega) _).other (by omega) _).set_ 0 v6).other (by omega) _)
  · rw [hW']
    exact ((((a1.other (by omega) _).other (by omega) _).other (by omega) _).set_ 0 (.int .i64 0))
  · rw [hso]
    refine ⟨?_, (World.putObj_heap_other (by omega)).trans ?_, hne⟩
    · dsimp only
      rw [hflt]
      have h1 := ((hp.1.below b).take F hFl)
      refine h1.stay fun k hk => (World.putObj_heap_other ?_).trans (hall k ?_ ?_ ?_)
      · intro e; have := (hp.1.lt k (by rw [own_slice A n F cap]; exact hk)).2; omega
      · intro e; exact hne (by rw [hk, e])
      · have := (hp.1.lt k (by rw [own_slice A n F cap]; exact hk)).2; omega
      · have := (hp.1.lt k (by rw [own_slice A n F cap]; exact hk)).2; omega
    · have e : (flatL s.lines).length = F := hF
      rw [e, hM]
      exact hgW
  · refine ⟨?_, ?_, ?_, ?_, fun k hk hkg hko => ?_, .inl (own_slice A F n cap)⟩
    · show W'.os = _; rw [hos.1]; exact b.os
    · show W'.tape = _; rw [hos.2.1]; exact b.tape
    · show W'.output = _; rw [hos.2.2.1]; exact b.output
    · have := b.size; simp [World.putObj]; omega
    · exact ((World.putObj_heap_other (by omega)).trans (hall k hkg (by omega) (by omega))).trans (b.block k hk)
  · rw [hso]
    have h1 := (ho.lower (b2 := w.heap.size) (by omega))
    have h2 : OwnVs w.heap.size 9 W' v6 (rs.map strV) := by
      rw [hW']
      exact (((h1.kept (gb_setCell _ g _ _) (.inr (hnS g (by omega)))).kept (gb_setCell _ g _ _) (.inr (hnS g (by omega)))).kept (gb_setCell _ w.heap.size _ _) (.inr (hnS _ (by omega)))).kept (gb_setCell _ (w.heap.size + 1) _ _) (.inr (hnS _ (by omega)))
    refine h2.kept (grownBy_putObj' W' D _) ?_
    refine .inr fun e => ?_
    obtain ⟨o, h3, h4⟩ := h2.row e
    rw [hDk] at h3
    cases h3
    cases h4
/-- What Open answers: the program's. -/
def POpenPost (base g : Nat) (v : Value) (s : Sp) (w : World) (e : Ending) (w' : World) : Prop :=
  ∃ v' out, PSt base w' g v' s.open_.1 ∧ Nx w w' g v v' ∧ OwnVs w.heap.size 9 w' out (s.open_.2.1.map strV) ∧ e = .returned (.tuple #[out, .int .i64 s.open_.2.2]) ∧ v'.ownBlock = v.ownBlock
/-- With the power off: no loop is come to. -/
theorem alloc5 (w : World) (c1 c2 c3 c4 c5 : List Value) (T1 T2 T3 T4 T5 : TypeId) : ∀ W, W = (((((w.alloc (.cells c1.toArray T1)).alloc (.cells c2.toArray T2)).alloc (.cells c3.toArray T3)).alloc (.cells c4.toArray T4)).alloc (.cells c5.toArray T5)) →
    Blk W w.heap.size T1 c1 ∧ Blk W (w.heap.size + 1) T2 c2 ∧ Blk W (w.heap.size + 1 + 1) T3 c3 ∧ Blk W (w.heap.size + 1 + 1 + 1) T4 c4 ∧ Blk W (w.heap.size + 1 + 1 + 1 + 1) T5 c5 ∧ Below w.heap.size w W ∧ W.heap.size = w.heap.size + 1 + 1 + 1 + 1 + 1 := by
  rintro W rfl
  obtain ⟨h1, h2, h3, h4⟩ := alloc3 w c1 c2 c3 T1 T2 T3
  have hs : (((w.alloc (.cells c1.toArray T1)).alloc (.cells c2.toArray T2)).alloc (.cells c3.toArray T3)).heap.size = w.heap.size + 1 + 1 + 1 := by simp
  generalize (((w.alloc (.cells c1.toArray T1)).alloc (.cells c2.toArray T2)).alloc (.cells c3.toArray T3)) = W1 at *
  obtain ⟨a1, a2, a3⟩ := alloc2 W1 c4 c5 T4 T5
  rw [hs] at a1 a2
  exact ⟨h1.later a3, h2.later a3, h3.later a3, a1, a2, h4.then_ a3, by simp [hs]⟩
set_option maxRecDepth 100000 in
set_option maxHeartbeats 4000000 in
theorem open_calls (base g : Nat) (v : Value) (s : Sp) (hs : s.Ok) (w : World) (h : PSt base w g v s) (hb : base ≤ w.heap.size) :
    Calls Try.prog 16 #[.pointer (some ⟨g, 0, none⟩)] w (POpenPost base g v s w) := by
  have HP := Lib.hid h
  by_cases hd : s.dn = true
  · have HS := Lib.hid (show s.open_ = (s, [], 50) by unfold Sp.open_; rw [if_pos hd])
    have hrd : Hid (∀ W, PSt base W g v s → Calls Try.prog 29 #[.pointer (some ⟨g, 0, none⟩)] W fun e w' => e = .returned (.int .i64 50) ∧ W = w') := Lib.hid (fun W hW => by
      have := ready_calls base g v s W hW
      rw [hd] at this
      exact this)
    clear h hd hs
    refine calls_of_marks Try.func16 rfl ?_
    simp only [Try.ntmps16, List.size_toArray, List.length_cons, List.length_nil, Nat.reduceAdd, Nat.reduceSub, Array.replicate_succ, Array.replicate_zero, List.push_toArray, List.append_toArray, List.nil_append, List.cons_append]
    go_upto_region 1 with fail
    refine wp_gen (fun W => Blk W w.heap.size 34 [.slice none 0 0] ∧ Blk W (w.heap.size + 1) 31 [.int .i64 0] ∧ Below w.heap.size w W ∧ W.heap.size = w.heap.size + 1 + 1) ?_ ?_
    · obtain ⟨h1, h2, h3⟩ := alloc2 w [.slice none 0 0] [.int .i64 0] 34 31
      exact ⟨h1, h2, h3, by simp⟩
    rintro W1 ⟨a0, a1, b1, z1⟩
    have HA := Lib.hid (And.intro a0 (And.intro a1 (And.intro b1 z1)))
    have d0 := a0.cell (k := 0) rfl
    have d1 := a1.cell (k := 0) rfl
    have e0 := a0.frozen 0
    have e1 := a1.frozen 0
    have hr1 := hrd.out W1 (HP.out.below b1)
    clear a0 a1 b1 z1
    go_wp2_with fail
    refine hr1.mono ?_
    rintro e w2 ⟨rfl, rfl⟩
    clear hr1
    go_wp2_with fail
    have k0 := (HA.out.1.set_ 0 (.slice none 0 0)).other (g2 := w.heap.size + 1) (k := 0) (by omega) (.int .i64 50)
    have k1 := (HA.out.2.1.other (g2 := w.heap.size) (k := 0) (by omega) (.slice none 0 0)).set_ 0 (.int .i64 50)
    have hb2 : Below w.heap.size w _ := (HA.out.2.2.1.setCell (p := ⟨w.heap.size, 0, none⟩) (Nat.le_refl _) (.slice none 0 0)).setCell (p := ⟨w.heap.size + 1, 0, none⟩) (Nat.le_succ _) (.int .i64 50)
    refine post_early (open_res _ _ w.heap.size (w.heap.size + 1) none 0 0 50 rfl rfl (k0.cell rfl) (k1.cell rfl)) ?_
    unfold POpenPost
    rw [HS.out]
    exact ⟨v, _, HP.out.below hb2, Nx.of_below hb2, OwnVs.nil _ _ _, rfl, rfl⟩
  · replace hd : s.dn = false := by simpa using hd
    have HS := Lib.hid (show s.open_ = (match recsL s.lines with
      | none => (s, [], 4)
      | some rs => ({ s with bs := flatL s.lines, sy := min s.sy (flatL s.lines).length }, rs, 0)) by unfold Sp.open_; rw [if_neg (by simp [hd])]; rfl)
    have hrd : Hid (∀ W, PSt base W g v s → Calls Try.prog 29 #[.pointer (some ⟨g, 0, none⟩)] W fun e w' => e = .returned (.int .i64 0) ∧ W = w') := Lib.hid (fun W hW => by
      have := ready_calls base g v s W hW
      rw [hd] at this
      exact this)
    have HOK := Lib.hid hs
    have HDN := Lib.hid hd
    clear h hd hs
    refine calls_of_marks Try.func16 rfl ?_
    simp only [Try.ntmps16, List.size_toArray, List.length_cons, List.length_nil, Nat.reduceAdd, Nat.reduceSub, Array.replicate_succ, Array.replicate_zero, List.push_toArray, List.append_toArray, List.nil_append, List.cons_append]
    go_upto_region 1 with fail
    refine wp_gen (fun W => Blk W w.heap.size 34 [.slice none 0 0] ∧ Blk W (w.heap.size + 1) 31 [.int .i64 0] ∧ Below w.heap.size w W ∧ W.heap.size = w.heap.size + 1 + 1) ?_ ?_
    · obtain ⟨h1, h2, h3⟩ := alloc2 w [.slice none 0 0] [.int .i64 0] 34 31
      exact ⟨h1, h2, h3, by simp⟩
    rintro W1 ⟨a0, a1, b1, z1⟩
    obtain ⟨A, n, cap, rfl, hr, hn, hc⟩ := HP.out.1.form
    have p1 := HP.out.below b1
    obtain ⟨c0, c1, c2, c3, c4, c5, f0, f1, f2, f3, f4, f5⟩ := PSt.cells p1.2.1
    have hr1 := hrd.out W1 p1
    have HA := Lib.hid (And.intro a0 (And.intro a1 (And.intro b1 z1)))
    clear a0 a1 p1 hrd f0 f1 f2 f3 f4 f5 c1 c2 c3 c4 c5
    have hrW := hr.below b1
    obtain ⟨F, hF⟩ : ∃ F, (flatL (splitF s.bs).1).length = F := ⟨_, rfl⟩
    have hFn : F ≤ n := by rw [hn.out, ← hF]; exact flatL_le _
    have hnl : n ≤ 4194304 := by rw [hn.out]; exact HOK.out.len
    have hwF : IntKind.i64.wrap ((F : Int) - 1 + 1) = (F : Int) := (IntWalk.i64_in _ (by omega)).trans (by omega)
    have hFc : F ≤ cap := by omega
    have HLI : Hid (∀ W b o, Below W1.heap.size W1 W → W.cell? ⟨b, o, none⟩ = some (.int .u8 10) → Calls Try.prog 34 #[.slice A n cap, .slice (some ⟨b, o, none⟩) 1 1] W fun e w' => e = .returned (.int .i64 ((F : Int) - 1)) ∧ W = w') := Lib.hid (fun W b o hW hc => by
      have := lastIndex_calls A n cap s.bs b o W (hrW.below hW) hn HOK.out.len hc
      rw [hF] at this
      exact this)
    have HR := Lib.hid (And.intro hr hrW)
    have HFF := Lib.hid hF
    clear hr hrW hF b1 z1
    go_wp2_with fail
    refine hr1.mono ?_
    rintro e w2 ⟨rfl, rfl⟩
    clear hr1
    have hcv := run_bytes_const
    go_wp2_with fail
    refine (HLI.out _ _ _ ((Below.refl _ _).alloc (Nat.le_refl _) _) (cell_new _ _ _ _ _ rfl)).mono ?_
    rintro e w2 ⟨rfl, rfl⟩
    clear hcv HLI
    have hcs : (convert 52 9 (.slice A F cap)).run Try.prog ((W1.alloc (.cells #[.int .u8 10] 5 (1, 2))).alloc (.cells #[.slice none 0 0] 34)) = .ok (.string ⟨(s.bs.take F).toArray⟩) ((W1.alloc (.cells #[.int .u8 10] 5 (1, 2))).alloc (.cells #[.slice none 0 0] 34)) :=
      run_str_rb _ A F cap _ ((HR.out.2.take F).below (((Below.refl _ _).alloc (Nat.le_refl _) _).alloc (by simp) _)) (Lib.hid (by rw [List.length_take]; have := hn.out; omega))
    have hbc : Below W1.heap.size W1 ((W1.alloc (.cells #[.int .u8 10] 5 (1, 2))).alloc (.cells #[.slice none 0 0] 34)) := ((Below.refl _ _).alloc (Nat.le_refl _) _).alloc (by simp) _
    have cX := (HP.out.below (HA.out.2.2.1.then_ hbc)).2.1.cell (k := 0) rfl
    clear hbc c0
    obtain ⟨zs, hzs⟩ : ∃ q, (splitF s.bs).1 = q := ⟨_, rfl⟩
    have hfl : s.bs.take F = flatL zs := by rw [← HFF.out, ← hzs, ← flatL_take]
    have hgood := (splitF_good s.bs).1
    rw [hzs] at hgood
    have HZ := Lib.hid hzs
    have hflen : (flatL zs).length ≤ 8388608 := by rw [← hfl, List.length_take]; have := hn.out; omega
    rw [hfl] at hcs
    rw [hfl] at *
    go_wp2_with fail
    refine (lines_calls (flatL zs) _).mono ?_
    rintro e w3 ⟨rfl, rfl⟩
    have hsz2 : ((W1.alloc (.cells #[.int .u8 10] 5 (1, 2))).alloc (.cells #[.slice none 0 0] 34)).heap.size = W1.heap.size + 1 + 1 := by simp
    have hA3 : (((W1.alloc (.cells #[.int .u8 10] 5 (1, 2))).alloc (.cells #[.slice none 0 0] 34)).alloc (.cells #[strV (flatL zs)] 9)).heap.size = W1.heap.size + 1 + 1 + 1 := by simp
    have hb3 : Below W1.heap.size W1 (((W1.alloc (.cells #[.int .u8 10] 5 (1, 2))).alloc (.cells #[.slice none 0 0] 34)).alloc (.cells #[strV (flatL zs)] 9)) := (((Below.refl _ _).alloc (Nat.le_refl _) _).alloc (by simp) _).alloc (by simp only [World.size_alloc]; omega) _
    have h6 : Blk (((W1.alloc (.cells #[.int .u8 10] 5 (1, 2))).alloc (.cells #[.slice none 0 0] 34)).alloc (.cells #[strV (flatL zs)] 9)) (W1.heap.size + 1) 34 [.slice none 0 0] := by
      have := (Blk.new (W1.alloc (.cells #[.int .u8 10] 5 (1, 2))) [.slice none 0 0] 34).alloc (.cells #[strV (flatL zs)] 9)
      simpa using this
    have h7 : Blk (((W1.alloc (.cells #[.int .u8 10] 5 (1, 2))).alloc (.cells #[.slice none 0 0] 34)).alloc (.cells #[strV (flatL zs)] 9)) (W1.heap.size + 1 + 1) 9 [strV (flatL zs)] := by
      have := Blk.new ((W1.alloc (.cells #[.int .u8 10] 5 (1, 2))).alloc (.cells #[.slice none 0 0] 34)) [strV (flatL zs)] 9
      rw [hsz2] at this
      exact this
    rw [hsz2]
    have HALL := Lib.hid (And.intro hA3 (And.intro hb3 (And.intro h6 h7)))
    clear hA3 hb3 h6 h7 hsz2 hcs cX
    go_wp2_with fail
    refine wp_gen (fun W3 => W3.heap.size = W1.heap.size + 1 + 1 + 1 ∧ Below W1.heap.size W1 W3 ∧ Blk W3 (W1.heap.size + 1) 34 [.slice none 0 0] ∧ Blk W3 (W1.heap.size + 1 + 1) 9 [strV (flatL zs)]) HALL.out ?_
    rintro W3 ⟨hsz3, hb3, h6, h7⟩
    clear HALL
    have HSZ := Lib.hid hsz3
    have HW1 := Lib.hid HA.out.2.2.2
    have hlt3 : w.heap.size + 1 + 1 + 1 + 1 < W3.heap.size := by have := HW1.out; omega
    have hlt3' : w.heap.size + 1 < W3.heap.size := by omega
    have hW1g : w.heap.size + 1 < W1.heap.size := by have := HW1.out; omega
    clear hsz3
    have hbw3 := HA.out.2.2.1.then_ hb3
    have H0 := Lib.hid (show OpI w W3 (W1.heap.size + 1) (W1.heap.size + 1 + 1) [] W3 from ⟨hbw3, Nat.le_refl _, HA.out.1.later hb3, HA.out.2.1.later hb3, [], _, rfl, h6, OwnVs.nil _ _ _⟩)
    refine (wpIn_wide (n := 8)).1 (range_box (F := Fence.wide) (n := 8) rfl (by decide) (gf := 44) (lb := #[.pointer (some ⟨W1.heap.size + 1 + 1, 0, none⟩)]) rfl trivial (enters_of Try.func44 (by kernel_rfl) rfl)
      h7.lt (lines_box zs hgood hflen (W1.heap.size + 1 + 1) W3 h7) (fun _ => rfl) (OpI w W3 (W1.heap.size + 1) (W1.heap.size + 1 + 1)) (OpX w zs) (OpI.box (by omega) h7.lt (by omega)) (OpI.own h6.lt (by omega)) (OpX.own (by omega)) H0.out
      (fun z => { tmps := #[.pointer (some ⟨g, 0, none⟩), undef, .pointer (some ⟨w.heap.size, 0, none⟩), .pointer (some ⟨w.heap.size + 1, 0, none⟩), .int .i64 0, .int .i64 (F : Int), .pointer (some ⟨W1.heap.size + 1, 0, none⟩), .string ⟨(z ++ [10]).toArray⟩, undef, undef, .pointer (some ⟨g, 0, none⟩), .int .i64 0, .int .i64 0, .bool false, undef, .pointer (some ⟨g, 0, none⟩), .pointer (some ⟨g, 0, none⟩), .pointer (some ⟨g, 0, none⟩), .slice A n cap, .slice (some ⟨W1.heap.size, 0, none⟩) 1 1, .slice (some ⟨W1.heap.size, 0, none⟩) 1 1, .int .i64 ((F : Int) - 1), .int .i64 (F : Int), .pointer (some ⟨g, 0, none⟩), .pointer (some ⟨g, 0, none⟩), .pointer (some ⟨g, 0, none⟩), .slice A n cap, .int .i64 (F : Int), .slice A F cap, .string ⟨(flatL zs).toArray⟩, .func (.func 44) #[] #[.pointer (some ⟨W1.heap.size + 1 + 1, 0, none⟩)], .string ⟨(z ++ [10]).toArray⟩, undef, undef, undef, undef, undef, undef, undef, undef, undef, undef, undef, undef, undef, undef, undef, undef, undef, undef, undef, undef, undef, undef, undef, undef, undef, undef, undef, undef, undef, undef, undef, undef], defers := [] }) ?assign ?body ?done ?stop)
    case assign =>
      intro l x W K hK
      unfold strV
      gi_wp2
      exact hK
    case body =>
      rintro l pre x W ⟨b, hz, a0, a1, rs, v6, hr, hb6, ho⟩ ⟨hlt, hpx⟩
      have d0 := a0.cell (k := 0) rfl
      have d1 := a1.cell (k := 0) rfl
      have e0 := a0.frozen 0
      have e1 := a1.frozen 0
      have d6 := hb6.cell (k := 0) rfl
      have e6 := hb6.frozen 0
      have hxl : x.length ≤ 8388608 := by
        have h1 := congrArg (fun q => (flatL q).length) hpx
        simp only [flatL_app, flatL_cons, List.length_append, List.length_cons] at h1
        omega
      have HI := Lib.hid (And.intro b (And.intro hz (And.intro a0 (And.intro a1 (And.intro hr (And.intro hb6 ho))))))
      have HPX := Lib.hid hpx
      clear b hz a0 a1 hr hb6 ho hpx
      gi_wp2_with fail
      refine ⟨trivial, ?_⟩
      refine (CallsIn.inRound l ((callsIn_wide (n := 5)).2 (trim_calls x hxl _))).mono ?_
      rintro e W4 ⟨rfl, rfl⟩
      gi_wp2_with fail
      refine ⟨trivial, ?_⟩
      refine (CallsIn.inRound l ((callsIn_wide (n := 5)).2 (decode_list x true _ (by omega)))).mono ?_
      intro e W4 hD
      obtain ⟨A4, n4, c4, rfl, hrb, hn4, b4, _⟩ := hD.open_
      clear hD
      have hx5 : ∀ k, Blk W k 34 [Value.slice none 0 0] → Blk W4 k 34 [Value.slice none 0 0] := fun k h => h.later b4
      cases hd : decF true x with
      | none =>
        have hs : (none : Option (List UInt8)).isSome = false := rfl
        have A0 := HI.out.2.2.1.later b4
        have A1 := HI.out.2.2.2.1.later b4
        have D0 := A0.cell (k := 0) rfl
        have D1 := A1.cell (k := 0) rfl
        have E0 := A0.frozen 0
        have E1 := A1.frozen 0
        have HX : Hid (KeepsFrom W3.heap.size W ((W4.setCell ⟨w.heap.size, 0, none⟩ (.slice none 0 0)).setCell ⟨w.heap.size + 1, 0, none⟩ (.int .i64 4)) ∧ OpX w zs (pre ++ [x]) ((W4.setCell ⟨w.heap.size, 0, none⟩ (.slice none 0 0)).setCell ⟨w.heap.size + 1, 0, none⟩ (.int .i64 4))) := Lib.hid (by
          refine ⟨((KeepsFrom.of_grownBy (gb_below b4 (row := none)) (fun j e => by cases e)).trans ((KeepsOthers.setCell _ _ _).from _)).trans ((KeepsOthers.setCell _ _ _).from _), ?_, ?_, ?_, ?_⟩
          · exact ((HI.out.1.then_ b4).setCell (by show w.heap.size ≤ w.heap.size; omega) _).setCell (by show w.heap.size ≤ w.heap.size + 1; omega) _
          · rw [HPX.out]; exact recsL_bad _ _ _ hd
          · exact (A0.set_ 0 (.slice none 0 0)).other (by omega) _
          · exact (A1.other (by omega) _).set_ 0 (.int .i64 4))
        clear A0 A1 hrb hn4 b4 hx5 d0 d1 d6 e0 e1 e6
        gi_wp2_with fail
        exact HX.out
      | some b =>
        rw [hd] at hrb hn4
        have hs : (some b).isSome = true := rfl
        have hcv := run_str_rb W4 A4 n4 c4 b hrb hn4
        have o4 : OwnVs W3.heap.size 9 W4 v6 (rs.map strV) := OwnVs.below HI.out.2.2.2.2.2.2 b4 (Nat.le_refl _)
        obtain ⟨A6, n6, c6, rfl, _, _, _⟩ := o4.form
        have B6k := HI.out.2.2.2.2.2.1.later b4
        have D6 := B6k.cell (k := 0) rfl
        have E6 := B6k.frozen 0
        have hrl : rs.length ≤ 8388608 := by
          have h1 := recsL_len _ _ HI.out.2.2.2.2.1
          have h2 := flatL_ge zs
          omega
        have hn3 : Hid (1 = [strV b].length) := Lib.hid rfl
        have hlm : (rs.map strV).length + 1 ≤ maxLen := by simp; unfold maxLen; omega
        have hlb : ((rs.map strV).length + 1) * 16 ≤ 140737488355328 := by simp; omega
        have hbs : W3.heap.size ≤ W4.heap.size := Nat.le_trans HI.out.2.1 b4.size
        have HONE := Lib.hid (show ∀ u ∈ [strV b], u.oneCell' = true from oneStr [b])
        have hne6 : (Value.slice A6 n6 c6).ownBlock ≠ some (W1.heap.size + 1) := fun e => by have := (o4.lt _ e).1; have := h6.lt; omega
        have HB6 := Lib.hid (And.intro b4 (And.intro B6k hd))
        clear hrb hn4 hx5 d0 d1 d6 e0 e1 e6 b4 B6k hd
        gi_wp2_with (first
          | (refine wpListIn_append_lits rfl (.tmp 40) (.tmp 43) 34 9 Try.underlying34 infoStr rfl rfl W3.heap.size _ _ rfl o4 [strV b] _ _ rfl 1 rfl hn3 HONE.out hlm hlb hbs ?_; intro v5 w5 o5 g5; obtain ⟨A5, n5, c5, rfl, _, _, _⟩ := o5.form; have B5 := HB6.out.2.1.keptR g5 hne6; have D5 := B5.cell (k := 0) rfl; have E5 := B5.frozen 0))
        exact OpI.round (by omega) (Nat.lt_succ_self _) h7.lt HB6.out.2.2 HI.out HB6.out.1 g5 o5
    case done =>
      rintro D ys W hD rfl ⟨b, hz, a0, a1, rs, v6, hr, hb6, ho⟩ hK
      obtain ⟨A6, n6, c6, rfl, _, _, _⟩ := ho.form
      have pW := HP.out.below b
      obtain ⟨c0, c1, c2, c3, c4, c5, f0, f1, f2, f3, f4, f5⟩ := PSt.cells pW.2.1
      have d6 := hb6.cell (k := 0) rfl
      have d0 := a0.cell (k := 0) rfl
      have d1 := a1.cell (k := 0) rfl
      have e0 := a0.frozen 0
      have e1 := a1.frozen 0
      obtain ⟨sy, hsy⟩ : ∃ y, s.sy = y := ⟨_, rfl⟩
      rw [hsy] at c1
      obtain ⟨M, hM⟩ : ∃ M, min sy F = M := ⟨_, rfl⟩
      have hmin : min (sy : Int) (F : Int) = (M : Int) := by rw [← hM]; omega
      have hgl : g < w.heap.size := HP.out.lt
      have HD := Lib.hid (And.intro b (And.intro hz (And.intro a0 (And.intro a1 (And.intro hr (And.intro hb6 ho))))))
      have HK := Lib.hid (And.intro hK (And.intro hD (And.intro hsy hM)))
      have HPW := Lib.hid pW
      clear b hz a0 a1 hr hb6 ho hK hsy hM pW c2 c3 c4 c5 f2 f3 f4 f5 H0
      go_wp2_with fail
      obtain ⟨r1, r2, r3, r4, r5, r6, r7⟩ := open_done (M := M) HP.out HOK.out HDN.out HFF.out HD.out.1 HD.out.2.2.1 HD.out.2.2.2.1 HD.out.2.2.2.2.2.2 hlt3' (by rw [HZ.out]; exact HD.out.2.2.2.2.1) HK.out.2.1 HK.out.1 (by rw [HK.out.2.2.1]; exact HK.out.2.2.2) _ rfl
      refine post_marks r1 (open_res _ _ w.heap.size (w.heap.size + 1) A6 n6 c6 0 rfl rfl (r2.cell rfl) (r3.cell rfl)) ?_
      exact ⟨_, _, r4, r5, r6, by rw [r7], own_slice A F n cap⟩
    case stop =>
      rintro D pre W hD ⟨b, hno, a0, a1⟩ hK
      have hDw : w.heap.size + 1 < D := by omega
      have k0 : Blk (W.putObj D (.deferred none)) w.heap.size 34 [.slice none 0 0] := (World.putObj_heap_other (by omega)).trans a0
      have k1 : Blk (W.putObj D (.deferred none)) (w.heap.size + 1) 31 [.int .i64 4] := (World.putObj_heap_other (by omega)).trans a1
      have hb2 : Below w.heap.size w (W.putObj D (.deferred none)) := b.trans (belowK_b (w := w) (Nat.le_refl _) _ D _ _ (by omega) hK rfl rfl)
      have HE : Hid (s.open_ = (s, [], 4)) := Lib.hid (by rw [HS.out]; unfold Sp.lines; rw [HZ.out, hno])
      gi_wp2_with fail
      refine post_marks hK (open_res _ _ w.heap.size (w.heap.size + 1) none 0 0 4 rfl rfl (k0.cell rfl) (k1.cell rfl)) ?_
      unfold POpenPost
      rw [HE.out]
      exact ⟨_, _, HP.out.below hb2, Nx.of_below hb2, OwnVs.nil _ _ _, rfl, rfl⟩
end Go.Proofs.Ythhnbpbebplcoaa
