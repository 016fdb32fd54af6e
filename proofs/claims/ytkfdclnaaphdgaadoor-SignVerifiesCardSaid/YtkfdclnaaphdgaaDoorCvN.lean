/- Layer 6: the document's numbers and points in cells. -/
import Derived.Test.YtkfdclnaaphdgaaDoorCvC
namespace Go.Proofs.YtkfdclnaaphdgaaDoor
open Go.ChangeShapes Go.WideShapes Go.ChangeAt Go.RowKit Go.IntWalk
set_option linter.unusedVariables false

/-- Sixteen cells that hold a number of the field, as the document keeps it. -/
def N (cs : List Value) (a : F) : Prop := IsNum (.agg cs.toArray) a.val
theorem N.ints {cs : List Value} {a : F} (h : N cs a) : ∃ ds : List Int, cs = i64s ds ∧ ds.length = 16 := by
  obtain ⟨ds, h1, h2, _⟩ := h
  unfold A16 at h1
  injection h1 with h1
  exact ⟨ds, by simpa using congrArg Array.toList h1, h2.1⟩
theorem N.len {cs : List Value} {a : F} (h : N cs a) : cs.length = 16 := by
  obtain ⟨ds, rfl, h2⟩ := h.ints; simp [i64s, h2]
theorem len16 (cs : List Value) (h : cs.length = 16) : ∃ a0 a1 a2 a3 a4 a5 a6 a7 a8 a9 a10 a11 a12 a13 a14 a15 : Value, cs = [a0, a1, a2, a3, a4, a5, a6, a7, a8, a9, a10, a11, a12, a13, a14, a15] := by
  match cs, h with
  | [a0, a1, a2, a3, a4, a5, a6, a7, a8, a9, a10, a11, a12, a13, a14, a15], _ => exact ⟨_, _, _, _, _, _, _, _, _, _, _, _, _, _, _, _, rfl⟩
theorem N.form {cs : List Value} {a : F} (h : N cs a) : ∃ a0 a1 a2 a3 a4 a5 a6 a7 a8 a9 a10 a11 a12 a13 a14 a15 : Value, cs = [a0, a1, a2, a3, a4, a5, a6, a7, a8, a9, a10, a11, a12, a13, a14, a15] := len16 cs h.len
theorem N.all {cs : List Value} {a : F} (h : N cs a) : ∀ v ∈ cs, v.oneCell' = true := by
  obtain ⟨ds, rfl, h2⟩ := h.ints
  intro v hv
  obtain ⟨y, _, rfl⟩ := List.mem_map.1 hv
  rfl
theorem N.one {cs : List Value} {a : F} (h : N cs a) : cs.toArray.all (·.oneCell') = true := all_oneCell_toArray h.all
theorem size16n : (Tryd.prog.info? 50).map (·.size) = some 16 := by kernel_rfl
theorem N.size {cs : List Value} {a : F} (h : N cs a) : (Tryd.prog.info? 50).map (·.size) = some cs.length := by rw [h.len]; exact size16n
theorem N.sizeA {cs : List Value} {a : F} (h : N cs a) : (Tryd.prog.info? 50).map (·.size) = some cs.toArray.size := by rw [List.size_toArray, h.len]; exact size16n
def C16 : List Value := i64s Z16
def C64 : List Value := List.replicate 64 (.int .i64 0)
theorem N.zero : N C16 0 := IsNum.zero
def NV (v : Value) (a : F) : Prop := ∃ cs, v = .agg cs.toArray ∧ N cs a
def NFPost (a : F) (w : World) (e : Ending) (w' : World) : Prop := ∃ v, e = .returned v ∧ NV v a ∧ Below w.heap.size w w'
theorem IsNum.congr {v : Value} {r s : Nat} (h : IsNum v r) (e : r % P = s % P) : IsNum v s := by
  obtain ⟨ds, h1, h2, h3⟩ := h; exact ⟨ds, h1, h2, by rw [h3, e]⟩
theorem NV.of {v : Value} {r : Nat} {a : F} (h : IsNum v r) (e : r % P = a.val) : NV v a := by
  have h2 := h.congr (s := a.val) (by rw [e, Nat.mod_eq_of_lt a.isLt])
  obtain ⟨ds, h1, h3, h4⟩ := h2
  exact ⟨i64s ds, h1, ds, rfl, h3, h4⟩
theorem NFPost.of {r : Nat} {a : F} {w : World} {e : Ending} {w' : World} (h : NPost r w e w') (he : r % P = a.val) : NFPost a w e w' := by
  obtain ⟨v, h1, h2, h3⟩ := h; exact ⟨v, h1, NV.of h2 he, h3⟩
section
variable {cx cy : List Value} {x y : F}
theorem nadd_calls (hx : N cx x) (hy : N cy y) (w : World) : Calls Tryd.prog 67 #[.agg cx.toArray, .agg cy.toArray] w (NFPost (x + y) w) :=
  (refAdd_num _ _ _ _ hx hy w).mono fun e w' h => NFPost.of h (F.add_val x y).symm
theorem nsub_calls (hx : N cx x) (hy : N cy y) (w : World) : Calls Tryd.prog 66 #[.agg cx.toArray, .agg cy.toArray] w (NFPost (x - y) w) :=
  (refSub_num _ _ _ _ hx hy w).mono fun e w' h => NFPost.of h (F.sub_val x y).symm
theorem nmul_calls (hx : N cx x) (hy : N cy y) (w : World) : Calls Tryd.prog 51 #[.agg cx.toArray, .agg cy.toArray] w (NFPost (x * y) w) :=
  (refMul_num _ _ _ _ hx hy w).mono fun e w' h => NFPost.of h (F.mul_val x y).symm
theorem ninv_calls (hx : N cx x) (w : World) : Calls Tryd.prog 49 #[.agg cx.toArray] w (NFPost (fi x) w) :=
  (refInv_num _ _ hx w).mono fun e w' h => NFPost.of h (fo_val _).symm
theorem nis_calls (hx : N cx x) (hy : N cy y) (w : World) : Calls Tryd.prog 70 #[.agg cx.toArray, .agg cy.toArray] w fun e w' => e = .returned (.bool (decide (x = y))) ∧ Below w.heap.size w w' :=
  (refIs_calls _ _ _ _ hx hy w).mono fun e w' h => by
    refine ⟨?_, h.2⟩
    rw [h.1, Nat.mod_eq_of_lt x.isLt, Nat.mod_eq_of_lt y.isLt]
    congr 2
    exact decide_eq_decide.2 ⟨fun h => F.ext h, fun h => by rw [h]⟩
theorem nodd_calls (hx : N cx x) (w : World) : Calls Tryd.prog 52 #[.agg cx.toArray] w fun e w' => e = .returned (.bool (decide (x.val % 2 = 1))) ∧ Below w.heap.size w w' :=
  (refOdd_calls _ _ hx w).mono fun e w' h => by rwa [Nat.mod_eq_of_lt x.isLt] at h
theorem nbytes_calls (hx : N cx x) (w : World) : Calls Tryd.prog 50 #[.agg cx.toArray] w fun e w' => e = .returned (.string ⟨(leB 32 x.val).toArray⟩) ∧ Below w.heap.size w w' :=
  (refBytes_calls _ _ hx w).mono fun e w' h => by rwa [Nat.mod_eq_of_lt x.isLt] at h
end
theorem nsmall_calls (n : Nat) (hn : n < 2 ^ 32) (a : F) (ha : n = a.val) (w : World) : Calls Tryd.prog 65 #[.int .i64 (n : Int)] w (NFPost a w) :=
  (refSmall_calls n hn w).mono fun e w' h => NFPost.of h (by rw [ha, Nat.mod_eq_of_lt a.isLt])
theorem nof_calls (bs : List UInt8) (hl : bs.length = 32) (w : World) : Calls Tryd.prog 64 #[.string ⟨bs.toArray⟩] w (NFPost (fo (leN bs)) w) :=
  (refOf_calls bs hl w).mono fun e w' h => by
    have hnum : IsNum (A16 (digD bs 16)) (leN bs) := ⟨digD bs 16, rfl, ⟨digD_len _ _, fun x hx => by have := digD_rng bs 16 x hx; omega⟩, by rw [digD_val bs hl]; rfl⟩
    exact ⟨_, h.1, NV.of hnum (fo_val _).symm, h.2⟩
/-- Sixty-four cells that stand for a point, as the document keeps it. -/
def R4 (c : List Value) (X Y Z T : F) : Prop := ∃ cx cy cz ct, c = cx ++ cy ++ cz ++ ct ∧ N cx X ∧ N cy Y ∧ N cz Z ∧ N ct T
def RL (c : List Value) (p : Pt) : Prop := ∃ X Y Z T, R4 c X Y Z T ∧ Rep X Y Z T p
def RPost (X Y Z T : F) (w : World) (e : Ending) (w' : World) : Prop := ∃ v, e = .returned v ∧ (∃ c, v = .agg c.toArray ∧ R4 c X Y Z T) ∧ Below w.heap.size w w'
def RPPost (p : Pt) (w : World) (e : Ending) (w' : World) : Prop := ∃ v, e = .returned v ∧ (∃ c, v = .agg c.toArray ∧ RL c p) ∧ Below w.heap.size w w'
theorem RPost.pt {X Y Z T : F} {p : Pt} {w : World} {e : Ending} {w' : World} (h : RPost X Y Z T w e w') (r : Rep X Y Z T p) : RPPost p w e w' := by
  obtain ⟨v, h1, ⟨c, h2, h3⟩, h4⟩ := h; exact ⟨v, h1, ⟨c, h2, X, Y, Z, T, h3, r⟩, h4⟩
theorem size64n : (Tryd.prog.info? 52).map (·.size) = some 64 := by kernel_rfl
section
variable {cx cy cz ct c : List Value} {X Y Z T : F}
theorem R4.mk (hx : N cx X) (hy : N cy Y) (hz : N cz Z) (ht : N ct T) : R4 (cx ++ cy ++ cz ++ ct) X Y Z T := ⟨_, _, _, _, rfl, hx, hy, hz, ht⟩
theorem R4.len (h : R4 c X Y Z T) : c.length = 64 := by
  obtain ⟨cx, cy, cz, ct, rfl, hx, hy, hz, ht⟩ := h
  simp [hx.len, hy.len, hz.len, ht.len]
theorem R4.all (h : R4 c X Y Z T) : ∀ v ∈ c, v.oneCell' = true := by
  obtain ⟨cx, cy, cz, ct, rfl, hx, hy, hz, ht⟩ := h
  intro v hv
  simp only [List.mem_append] at hv
  rcases hv with ((hv | hv) | hv) | hv
  · exact hx.all v hv
  · exact hy.all v hv
  · exact hz.all v hv
  · exact ht.all v hv
theorem R4.one (h : R4 c X Y Z T) : c.toArray.all (·.oneCell') = true := all_oneCell_toArray h.all
theorem R4.size (h : R4 c X Y Z T) : (Tryd.prog.info? 52).map (·.size) = some c.length := by rw [h.len]; exact size64n
theorem R4.sizeA (h : R4 c X Y Z T) : (Tryd.prog.info? 52).map (·.size) = some c.toArray.size := by rw [List.size_toArray, h.len]; exact size64n
theorem RL.len {p : Pt} (h : RL c p) : c.length = 64 := by obtain ⟨_, _, _, _, h, _⟩ := h; exact h.len
theorem RL.one {p : Pt} (h : RL c p) : c.toArray.all (·.oneCell') = true := by obtain ⟨_, _, _, _, h, _⟩ := h; exact h.one
theorem RL.size {p : Pt} (h : RL c p) : (Tryd.prog.info? 52).map (·.size) = some c.length := by rw [h.len]; exact size64n
theorem RL.sizeA {p : Pt} (h : RL c p) : (Tryd.prog.info? 52).map (·.size) = some c.toArray.size := by rw [List.size_toArray, h.len]; exact size64n
theorem R4.rows {w : World} {g : Nat} {K : TypeId} (hx : N cx X) (hy : N cy Y) (hz : N cz Z) (ht : N ct T) (h : Blk w g K (cx ++ cy ++ cz ++ ct)) :
    w.rangeAt g 0 cx ∧ w.rangeAt g 16 cy ∧ w.rangeAt g 32 cz ∧ w.rangeAt g 48 ct := by
  obtain ⟨_, _, _, _, _, _, _, _, _, _, _, _, _, _, _, _, rfl⟩ := hx.form
  obtain ⟨_, _, _, _, _, _, _, _, _, _, _, _, _, _, _, _, rfl⟩ := hy.form
  obtain ⟨_, _, _, _, _, _, _, _, _, _, _, _, _, _, _, _, rfl⟩ := hz.form
  obtain ⟨_, _, _, _, _, _, _, _, _, _, _, _, _, _, _, _, rfl⟩ := ht.form
  exact ⟨h.rngAt 0 16, h.rngAt 16 16, h.rngAt 32 16, h.rngAt 48 16⟩
theorem build4n (hx : N cx X) (hy : N cy Y) (hz : N cz Z) (ht : N ct T) (w : World) :
    (Instr.build 52 #[(0, .agg cx.toArray), (1, .agg cy.toArray), (2, .agg cz.toArray), (3, .agg ct.toArray)]).run Tryd.prog w = .ok (.agg (cx ++ cy ++ cz ++ ct).toArray) w := by
  obtain ⟨_, _, _, _, _, _, _, _, _, _, _, _, _, _, _, _, rfl⟩ := hx.form
  obtain ⟨_, _, _, _, _, _, _, _, _, _, _, _, _, _, _, _, rfl⟩ := hy.form
  obtain ⟨_, _, _, _, _, _, _, _, _, _, _, _, _, _, _, _, rfl⟩ := hz.form
  obtain ⟨_, _, _, _, _, _, _, _, _, _, _, _, _, _, _, _, rfl⟩ := ht.form
  exact run_build w _ _ _ (by kernel_rfl)
theorem build2n (hy : N cy Y) (hz : N cz Z) (w : World) :
    (Instr.build 52 #[(1, .agg cy.toArray), (2, .agg cz.toArray)]).run Tryd.prog w = .ok (.agg (C16 ++ cy ++ cz ++ C16).toArray) w := by
  obtain ⟨_, _, _, _, _, _, _, _, _, _, _, _, _, _, _, _, rfl⟩ := hy.form
  obtain ⟨_, _, _, _, _, _, _, _, _, _, _, _, _, _, _, _, rfl⟩ := hz.form
  exact run_build w _ _ _ (by kernel_rfl)
theorem build0n (w : World) : (Instr.build 50 #[]).run Tryd.prog w = .ok (.agg C16.toArray) w := run_build w _ _ _ (by kernel_rfl)
end
section
variable {ops : Array Oper} {w0 : World} {Lq : Gh → Act → Prop} {o : Oper} {rest : List Oper} {kds : List Kd} {s : Gh} {a : Act}
theorem lg_n (x : F) (f : FuncId) (args : Array Value) (hw : Region.wanted o (yielded ops a.tmps) = true) (he : ∀ W, (execOp a.eval o).run Tryd.prog W = .ok (.enter f args) W)
    (hc : ∀ W, Calls Tryd.prog f args W (NFPost x W)) (h2 : ∀ v, NV v x → wpG Tryd.prog ops w0 Lq rest kds s (a.put o.dst v)) : wpG Tryd.prog ops w0 Lq (o :: rest) (.rel (fun v => NV v x) :: kds) s a :=
  lg_call _ f args hw he hc h2
theorem lg_ne {g off : Nat} {cs : List Value} {b : F} (x : Operand) (hE : N cs b) (hr : w0.rangeAt g off cs) (hb : g < w0.heap.size) (ho : o.op = .load 50 x) (hw : Region.wanted o (yielded ops a.tmps) = true) (hx : a.eval x = .pointer (some ⟨g, off, none⟩))
    (h2 : wpG Tryd.prog ops w0 Lq rest kds s (a.put o.dst (.agg cs.toArray))) : wpG Tryd.prog ops w0 Lq (o :: rest) (.rel (· = .agg cs.toArray) :: kds) s a :=
  lg_load 50 x ho g off _ _ hr hb Tryd.underlying50 rfl hE.size hw hx h2
end
end Go.Proofs.YtkfdclnaaphdgaaDoor
