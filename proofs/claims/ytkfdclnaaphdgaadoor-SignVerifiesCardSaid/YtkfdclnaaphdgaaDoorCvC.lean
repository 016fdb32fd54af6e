/- Layer 6: what the walks share: numbers of the field in cells, points in cells. -/
import Derived.Test.YtkfdclnaaphdgaaDoorCvB
import Derived.Test.YtkfdclnaaphdgaaDoorFmD
import Derived.Test.YtkfdclnaaphdgaaDoorLh
import Derived.Test.YtkfdclnaaphdgaaDoorBk
import Derived.Laws.Tables
namespace Go.Proofs.YtkfdclnaaphdgaaDoor
open Go.ChangeShapes Go.WideShapes Go.ChangeAt Go.RowKit Go.IntWalk
set_option linter.unusedVariables false

/-- Five cells that hold a number of the field. -/
def E (cs : List Value) (a : F) : Prop := IsEl (.agg cs.toArray) a.val
theorem E.form {cs : List Value} {a : F} (h : E cs a) : ∃ l0 l1 l2 l3 l4 : Nat, cs = [.int .u64 (l0 : Int), .int .u64 (l1 : Int), .int .u64 (l2 : Int), .int .u64 (l3 : Int), .int .u64 (l4 : Int)] := by
  obtain ⟨a0, a1, a2, a3, a4, h1, _⟩ := h
  unfold E5 at h1
  injection h1 with h1
  exact ⟨a0, a1, a2, a3, a4, by simpa using congrArg Array.toList h1⟩
theorem E.len {cs : List Value} {a : F} (h : E cs a) : cs.length = 5 := by
  obtain ⟨_, _, _, _, _, rfl⟩ := h.form; rfl
theorem E.all {cs : List Value} {a : F} (h : E cs a) : ∀ v ∈ cs, v.oneCell' = true := by
  obtain ⟨_, _, _, _, _, rfl⟩ := h.form; intro v hv; simp at hv; rcases hv with rfl | rfl | rfl | rfl | rfl <;> rfl
theorem E.one {cs : List Value} {a : F} (h : E cs a) : cs.toArray.all (·.oneCell') = true := all_oneCell_toArray h.all
theorem E.size {cs : List Value} {a : F} (h : E cs a) : (Tryd.prog.info? 40).map (·.size) = some cs.length := by rw [h.len]; exact size5
theorem E.sizeA {cs : List Value} {a : F} (h : E cs a) : (Tryd.prog.info? 40).map (·.size) = some cs.toArray.size := by rw [List.size_toArray, h.len]; exact size5
theorem E.zero : E [.int .u64 0, .int .u64 0, .int .u64 0, .int .u64 0, .int .u64 0] 0 := IsEl.zero
def EV (v : Value) (a : F) : Prop := ∃ cs, v = .agg cs.toArray ∧ E cs a
def FPost (a : F) (w : World) (e : Ending) (w' : World) : Prop := ∃ v, e = .returned v ∧ EV v a ∧ Below w.heap.size w w'
theorem EV.of {v : Value} {r : Nat} {a : F} (h : IsEl v r) (e : r % P = a.val) : EV v a := by
  have h2 := h.congr (s := a.val) (by rw [e, Nat.mod_eq_of_lt a.isLt])
  obtain ⟨a0, a1, a2, a3, a4, h1, h3⟩ := h2
  exact ⟨_, h1, a0, a1, a2, a3, a4, rfl, h3⟩
theorem FPost.of {r : Nat} {a : F} {w : World} {e : Ending} {w' : World} (h : ElPost r w e w') (he : r % P = a.val) : FPost a w e w' := by
  obtain ⟨v, h1, h2, h3⟩ := h; exact ⟨v, h1, EV.of h2 he, h3⟩
section
variable {cx cy : List Value} {x y : F}
theorem fadd_calls (hx : E cx x) (hy : E cy y) (w : World) : Calls Tryd.prog 59 #[.agg cx.toArray, .agg cy.toArray] w (FPost (x + y) w) :=
  (add_calls _ _ _ _ hx hy w).mono fun e w' h => FPost.of h (F.add_val x y).symm
theorem fsub_calls (hx : E cx x) (hy : E cy y) (w : World) : Calls Tryd.prog 60 #[.agg cx.toArray, .agg cy.toArray] w (FPost (x - y) w) :=
  (sub_calls _ _ _ _ hx hy w).mono fun e w' h => FPost.of h (F.sub_val x y).symm
theorem fmul_calls (hx : E cx x) (hy : E cy y) (w : World) : Calls Tryd.prog 45 #[.agg cx.toArray, .agg cy.toArray] w (FPost (x * y) w) :=
  (mul_calls _ _ _ _ hx hy w).mono fun e w' h => FPost.of h (F.mul_val x y).symm
theorem fneg_calls (hx : E cx x) (w : World) : Calls Tryd.prog 63 #[.agg cx.toArray] w (FPost (-x) w) :=
  (neg_calls _ _ hx w).mono fun e w' h => FPost.of h (F.neg_val x).symm
theorem finv_calls (hx : E cx x) (w : World) : Calls Tryd.prog 44 #[.agg cx.toArray] w (FPost (fi x) w) :=
  (inv_calls _ _ hx w).mono fun e w' h => FPost.of h (fo_val _).symm
theorem fis_calls (hx : E cx x) (hy : E cy y) (w : World) : Calls Tryd.prog 62 #[.agg cx.toArray, .agg cy.toArray] w fun e w' => e = .returned (.bool (decide (x = y))) ∧ Below w.heap.size w w' :=
  (is_calls _ _ _ _ hx hy w).mono fun e w' h => by
    refine ⟨?_, h.2⟩
    rw [h.1, Nat.mod_eq_of_lt x.isLt, Nat.mod_eq_of_lt y.isLt]
    congr 2
    exact decide_eq_decide.2 ⟨fun h => F.ext h, fun h => by rw [h]⟩
theorem fodd_calls (hx : E cx x) (w : World) : Calls Tryd.prog 47 #[.agg cx.toArray] w fun e w' => e = .returned (.bool (decide (x.val % 2 = 1))) ∧ Below w.heap.size w w' :=
  (odd_calls _ _ hx w).mono fun e w' h => by rwa [Nat.mod_eq_of_lt x.isLt] at h
theorem fbytes_calls (hx : E cx x) (w : World) : Calls Tryd.prog 46 #[.agg cx.toArray] w (BPost (leB 32 x.val) w) :=
  (bytes_calls _ _ hx w).mono fun e w' h => by rwa [Nat.mod_eq_of_lt x.isLt] at h
end
theorem fsmall_calls (n : Nat) (hn : n < 2 ^ 32) (a : F) (ha : n = a.val) (w : World) : Calls Tryd.prog 58 #[.int .u32 (n : Int)] w (FPost a w) :=
  (small_calls n hn w).mono fun e w' h => FPost.of h (by rw [ha, Nat.mod_eq_of_lt a.isLt])
theorem fof_calls (bs : List UInt8) (hl : bs.length = 32) (w : World) : Calls Tryd.prog 39 #[A32 bs] w (FPost (fo (leN bs)) w) :=
  (of_calls bs hl w).mono fun e w' h => FPost.of h (fo_val _).symm
theorem zero_val : (0 : F).val = 0 := by decide +kernel
/-- Twenty cells that stand for a point: four numbers. -/
def Q4 (c : List Value) (X Y Z T : F) : Prop := ∃ cx cy cz ct, c = cx ++ cy ++ cz ++ ct ∧ E cx X ∧ E cy Y ∧ E cz Z ∧ E ct T
def PL (c : List Value) (p : Pt) : Prop := ∃ X Y Z T, Q4 c X Y Z T ∧ Rep X Y Z T p
def QPost (X Y Z T : F) (w : World) (e : Ending) (w' : World) : Prop := ∃ v, e = .returned v ∧ (∃ c, v = .agg c.toArray ∧ Q4 c X Y Z T) ∧ Below w.heap.size w w'
def PPost (p : Pt) (w : World) (e : Ending) (w' : World) : Prop := ∃ v, e = .returned v ∧ (∃ c, v = .agg c.toArray ∧ PL c p) ∧ Below w.heap.size w w'
theorem QPost.pt {X Y Z T : F} {p : Pt} {w : World} {e : Ending} {w' : World} (h : QPost X Y Z T w e w') (r : Rep X Y Z T p) : PPost p w e w' := by
  obtain ⟨v, h1, ⟨c, h2, h3⟩, h4⟩ := h; exact ⟨v, h1, ⟨c, h2, X, Y, Z, T, h3, r⟩, h4⟩
theorem size20 : (Tryd.prog.info? 42).map (·.size) = some 20 := by kernel_rfl
section
variable {cx cy cz ct c : List Value} {X Y Z T : F}
theorem Q4.mk (hx : E cx X) (hy : E cy Y) (hz : E cz Z) (ht : E ct T) : Q4 (cx ++ cy ++ cz ++ ct) X Y Z T := ⟨_, _, _, _, rfl, hx, hy, hz, ht⟩
theorem Q4.len (h : Q4 c X Y Z T) : c.length = 20 := by
  obtain ⟨cx, cy, cz, ct, rfl, hx, hy, hz, ht⟩ := h
  simp [hx.len, hy.len, hz.len, ht.len]
theorem Q4.all (h : Q4 c X Y Z T) : ∀ v ∈ c, v.oneCell' = true := by
  obtain ⟨cx, cy, cz, ct, rfl, hx, hy, hz, ht⟩ := h
  intro v hv
  simp only [List.mem_append] at hv
  rcases hv with ((hv | hv) | hv) | hv
  · exact hx.all v hv
  · exact hy.all v hv
  · exact hz.all v hv
  · exact ht.all v hv
theorem Q4.one (h : Q4 c X Y Z T) : c.toArray.all (·.oneCell') = true := all_oneCell_toArray h.all
theorem Q4.size (h : Q4 c X Y Z T) : (Tryd.prog.info? 42).map (·.size) = some c.length := by rw [h.len]; exact size20
theorem Q4.sizeA (h : Q4 c X Y Z T) : (Tryd.prog.info? 42).map (·.size) = some c.toArray.size := by rw [List.size_toArray, h.len]; exact size20
theorem PL.len {p : Pt} (h : PL c p) : c.length = 20 := by obtain ⟨_, _, _, _, h, _⟩ := h; exact h.len
theorem PL.one {p : Pt} (h : PL c p) : c.toArray.all (·.oneCell') = true := by obtain ⟨_, _, _, _, h, _⟩ := h; exact h.one
theorem PL.size {p : Pt} (h : PL c p) : (Tryd.prog.info? 42).map (·.size) = some c.length := by rw [h.len]; exact size20
theorem PL.sizeA {p : Pt} (h : PL c p) : (Tryd.prog.info? 42).map (·.size) = some c.toArray.size := by rw [List.size_toArray, h.len]; exact size20
/-- The four parts of a point that lies in a block. -/
theorem Q4.rows {w : World} {g : Nat} {K : TypeId} (hx : E cx X) (hy : E cy Y) (hz : E cz Z) (ht : E ct T) (h : Blk w g K (cx ++ cy ++ cz ++ ct)) :
    w.rangeAt g 0 cx ∧ w.rangeAt g 5 cy ∧ w.rangeAt g 10 cz ∧ w.rangeAt g 15 ct := by
  obtain ⟨_, _, _, _, _, rfl⟩ := hx.form
  obtain ⟨_, _, _, _, _, rfl⟩ := hy.form
  obtain ⟨_, _, _, _, _, rfl⟩ := hz.form
  obtain ⟨_, _, _, _, _, rfl⟩ := ht.form
  exact ⟨h.rngAt 0 5, h.rngAt 5 5, h.rngAt 10 5, h.rngAt 15 5⟩
theorem build4 (hx : E cx X) (hy : E cy Y) (hz : E cz Z) (ht : E ct T) (w : World) :
    (Instr.build 42 #[(0, .agg cx.toArray), (1, .agg cy.toArray), (2, .agg cz.toArray), (3, .agg ct.toArray)]).run Tryd.prog w = .ok (.agg (cx ++ cy ++ cz ++ ct).toArray) w := by
  obtain ⟨_, _, _, _, _, rfl⟩ := hx.form
  obtain ⟨_, _, _, _, _, rfl⟩ := hy.form
  obtain ⟨_, _, _, _, _, rfl⟩ := hz.form
  obtain ⟨_, _, _, _, _, rfl⟩ := ht.form
  exact run_build w _ _ _ (by kernel_rfl)
end
theorem run_buildop {o : Oper} {a : Act} {T : TypeId} {parts : Array (Nat × Operand)} {vs : Array (Nat × Value)} {x : Value} {W : World} (ho : o.op = .build T parts) (hv : parts.map (fun y => (y.1, a.eval y.2)) = vs)
    (h : (Instr.build T vs).run Tryd.prog W = .ok x W) : (execOp a.eval o).run Tryd.prog W = .ok (.value x) W := by
  subst hv
  unfold execOp
  rw [ho]
  simp only [Sem.run_bind, h, Result.andThen_ok, Sem.run_pure]
theorem wpList_buildop {ops : Array Oper} {rest : List Oper} {o : Oper} {a : Act} {Q : Exit → Act → World → Prop} {W : World} {T : TypeId} {parts : Array (Nat × Operand)} {vs : Array (Nat × Value)} {x : Value} (hgd : o.guard = none) (ho : o.op = .build T parts)
    (hv : parts.map (fun y => (y.1, a.eval y.2)) = vs) (h : (Instr.build T vs).run Tryd.prog W = .ok x W) (hk : wpList Tryd.prog ops Q rest (a.put o.dst x) W) : wpList Tryd.prog ops Q (o :: rest) a W :=
  wpList_plain hgd fun K hK => by
    unfold Oper.wp
    rw [run_buildop ho hv h]
    exact hK _ _ hk
/-! The variables that a region makes and fills. -/
theorem let1 {w1 w5 : World} {g : Nat} {T : TypeId} {z cs : List Value} (hC : Cg w1 (upd (fun _ => none) g (.cells z.toArray T (0, 0))) w5) (hl : cs.length = z.length) :
    w5.there g 0 cs.toArray.size ∧ Below w1.heap.size w1 (w5.setCells g 0 cs) ∧ Blk (w5.setCells g 0 cs) g T cs ∧ w1.heap.size ≤ g := by
  have h := hC.2 g (.cells z.toArray T (0, 0)) (by simp [upd])
  have hb : Blk w5 g T z := h.2
  exact ⟨hb.there (by simp [hl]), blw_cells h.1 cs 0 _ hC.1, hb.setAll hl, h.1⟩
theorem let2 {w1 w5 : World} {g k : Nat} {T U : TypeId} {z y cs ds : List Value} (hC : Cg w1 (upd (upd (fun _ => none) g (.cells z.toArray T (0, 0))) k (.cells y.toArray U (0, 0))) w5) (hk : upd (fun _ => none) g (Obj.cells z.toArray T (0, 0)) k = none) (hl : cs.length = z.length) (hm : ds.length = y.length) :
    w5.there g 0 cs.toArray.size ∧ (w5.setCells g 0 cs).there k 0 ds.toArray.size ∧ Below w1.heap.size w1 ((w5.setCells g 0 cs).setCells k 0 ds) ∧ Blk ((w5.setCells g 0 cs).setCells k 0 ds) g T cs ∧ Blk ((w5.setCells g 0 cs).setCells k 0 ds) k U ds ∧ w1.heap.size ≤ g ∧ w1.heap.size ≤ k := by
  have hne : k ≠ g := (upd_none.1 hk).1
  have h := hC.2 g (.cells z.toArray T (0, 0)) (by simp [upd, Ne.symm hne])
  have h2 := hC.2 k (.cells y.toArray U (0, 0)) (by simp [upd])
  have hb : Blk w5 g T z := h.2
  have hb2 : Blk w5 k U y := h2.2
  have hc := hb2.setFar (g2 := g) (Ne.symm hne) 0 cs
  exact ⟨hb.there (by simp [hl]), hc.there (by simp [hm]), blw_cells h2.1 ds 0 _ (blw_cells h.1 cs 0 _ hC.1), (hb.setAll hl).setFar hne 0 ds, hc.setAll hm, h.1, h2.1⟩
theorem let3 {w1 w5 : World} {g k j : Nat} {T U V : TypeId} {z y x cs ds es : List Value} (hC : Cg w1 (upd (upd (upd (fun _ => none) g (.cells z.toArray T (0, 0))) k (.cells y.toArray U (0, 0))) j (.cells x.toArray V (0, 0))) w5)
    (hk : upd (fun _ => none) g (Obj.cells z.toArray T (0, 0)) k = none) (hj : upd (upd (fun _ => none) g (Obj.cells z.toArray T (0, 0))) k (.cells y.toArray U (0, 0)) j = none) (hl : cs.length = z.length) (hm : ds.length = y.length) (hn : es.length = x.length) :
    w5.there g 0 cs.toArray.size ∧ (w5.setCells g 0 cs).there k 0 ds.toArray.size ∧ ((w5.setCells g 0 cs).setCells k 0 ds).there j 0 es.toArray.size ∧ Below w1.heap.size w1 (((w5.setCells g 0 cs).setCells k 0 ds).setCells j 0 es) ∧
    Blk (((w5.setCells g 0 cs).setCells k 0 ds).setCells j 0 es) g T cs ∧ Blk (((w5.setCells g 0 cs).setCells k 0 ds).setCells j 0 es) k U ds ∧ Blk (((w5.setCells g 0 cs).setCells k 0 ds).setCells j 0 es) j V es ∧ w1.heap.size ≤ g ∧ w1.heap.size ≤ k ∧ w1.heap.size ≤ j := by
  have hkg : k ≠ g := (upd_none.1 hk).1
  have hjk : j ≠ k := (upd_none.1 hj).1
  have hjg : j ≠ g := (upd_none.1 (upd_none.1 hj).2).1
  have h := hC.2 g (.cells z.toArray T (0, 0)) (by simp [upd, Ne.symm hkg, Ne.symm hjg])
  have h2 := hC.2 k (.cells y.toArray U (0, 0)) (by simp [upd, Ne.symm hjk])
  have h3 := hC.2 j (.cells x.toArray V (0, 0)) (by simp [upd])
  have b1 : Blk w5 g T z := h.2
  have b2 : Blk w5 k U y := h2.2
  have b3 : Blk w5 j V x := h3.2
  have c2 := b2.setFar (g2 := g) (Ne.symm hkg) 0 cs
  have c3 := (b3.setFar (g2 := g) (Ne.symm hjg) 0 cs).setFar (g2 := k) (Ne.symm hjk) 0 ds
  exact ⟨b1.there (by simp [hl]), c2.there (by simp [hm]), c3.there (by simp [hn]), blw_cells h3.1 es 0 _ (blw_cells h2.1 ds 0 _ (blw_cells h.1 cs 0 _ hC.1)),
    ((b1.setAll hl).setFar hkg 0 ds).setFar hjg 0 es, (c2.setAll hm).setFar hjk 0 es, c3.setAll hn, h.1, h2.1, h3.1⟩
theorem letS {W : World} {T : TypeId} {z cs : List Value} (hl : cs.length = z.length) :
    (W.alloc (.cells z.toArray T)).there W.heap.size 0 cs.toArray.size ∧ Below W.heap.size W ((W.alloc (.cells z.toArray T)).setCells W.heap.size 0 cs) ∧ Blk ((W.alloc (.cells z.toArray T)).setCells W.heap.size 0 cs) W.heap.size T cs :=
  ⟨(Blk.new W z T).there (by simp [hl]), blw_cells (Nat.le_refl _) cs 0 _ ((Below.refl _ _).alloc (Nat.le_refl _) _), (Blk.new W z T).setAll hl⟩
theorem alloc4 (w : World) (c1 c2 c3 c4 : List Value) (T1 T2 T3 T4 : TypeId) : Blk ((((w.alloc (.cells c1.toArray T1)).alloc (.cells c2.toArray T2)).alloc (.cells c3.toArray T3)).alloc (.cells c4.toArray T4)) w.heap.size T1 c1 ∧
    Blk ((((w.alloc (.cells c1.toArray T1)).alloc (.cells c2.toArray T2)).alloc (.cells c3.toArray T3)).alloc (.cells c4.toArray T4)) (w.heap.size + 1) T2 c2 ∧
    Blk ((((w.alloc (.cells c1.toArray T1)).alloc (.cells c2.toArray T2)).alloc (.cells c3.toArray T3)).alloc (.cells c4.toArray T4)) (w.heap.size + 1 + 1) T3 c3 ∧
    Blk ((((w.alloc (.cells c1.toArray T1)).alloc (.cells c2.toArray T2)).alloc (.cells c3.toArray T3)).alloc (.cells c4.toArray T4)) (w.heap.size + 1 + 1 + 1) T4 c4 ∧
    Below w.heap.size w ((((w.alloc (.cells c1.toArray T1)).alloc (.cells c2.toArray T2)).alloc (.cells c3.toArray T3)).alloc (.cells c4.toArray T4)) := by
  obtain ⟨h1, h2, h3, h4⟩ := alloc3 w c1 c2 c3 T1 T2 T3
  refine ⟨h1.alloc _, h2.alloc _, h3.alloc _, ?_, h4.alloc h4.size _⟩
  have := Blk.new (((w.alloc (.cells c1.toArray T1)).alloc (.cells c2.toArray T2)).alloc (.cells c3.toArray T3)) c4 T4
  simpa using this
theorem alloc5 (w : World) (c1 c2 c3 c4 c5 : List Value) (T1 T2 T3 T4 T5 : TypeId) : Blk (((((w.alloc (.cells c1.toArray T1)).alloc (.cells c2.toArray T2)).alloc (.cells c3.toArray T3)).alloc (.cells c4.toArray T4)).alloc (.cells c5.toArray T5)) w.heap.size T1 c1 ∧
    Blk (((((w.alloc (.cells c1.toArray T1)).alloc (.cells c2.toArray T2)).alloc (.cells c3.toArray T3)).alloc (.cells c4.toArray T4)).alloc (.cells c5.toArray T5)) (w.heap.size + 1) T2 c2 ∧
    Blk (((((w.alloc (.cells c1.toArray T1)).alloc (.cells c2.toArray T2)).alloc (.cells c3.toArray T3)).alloc (.cells c4.toArray T4)).alloc (.cells c5.toArray T5)) (w.heap.size + 1 + 1) T3 c3 ∧
    Blk (((((w.alloc (.cells c1.toArray T1)).alloc (.cells c2.toArray T2)).alloc (.cells c3.toArray T3)).alloc (.cells c4.toArray T4)).alloc (.cells c5.toArray T5)) (w.heap.size + 1 + 1 + 1) T4 c4 ∧
    Blk (((((w.alloc (.cells c1.toArray T1)).alloc (.cells c2.toArray T2)).alloc (.cells c3.toArray T3)).alloc (.cells c4.toArray T4)).alloc (.cells c5.toArray T5)) (w.heap.size + 1 + 1 + 1 + 1) T5 c5 ∧
    Below w.heap.size w (((((w.alloc (.cells c1.toArray T1)).alloc (.cells c2.toArray T2)).alloc (.cells c3.toArray T3)).alloc (.cells c4.toArray T4)).alloc (.cells c5.toArray T5)) := by
  obtain ⟨h1, h2, h3, h4, h5⟩ := alloc4 w c1 c2 c3 c4 T1 T2 T3 T4
  refine ⟨h1.alloc _, h2.alloc _, h3.alloc _, h4.alloc _, ?_, h5.alloc h5.size _⟩
  have := Blk.new ((((w.alloc (.cells c1.toArray T1)).alloc (.cells c2.toArray T2)).alloc (.cells c3.toArray T3)).alloc (.cells c4.toArray T4)) c5 T5
  simpa using this
/-- Its answer lies in a block that was made at the beginning: what is stored there is what is answered. -/
theorem ansB {w W w5 : World} {gr : Nat} {T : TypeId} {z cs : List Value} (hr : Blk W gr T z) (hb : Below w.heap.size w W) (hg : w.heap.size ≤ gr) (h5 : Below W.heap.size W w5) (hl : cs.length = z.length) :
    w5.there gr 0 cs.toArray.size ∧ Below w.heap.size w (w5.setCells gr 0 cs) ∧ Blk (w5.setCells gr 0 cs) gr T cs :=
  ⟨(hr.later h5).there (by simp [hl]), blw_cells hg cs 0 _ (hb.then_ h5), (hr.later h5).setAll hl⟩
def C20 : List Value := [.int .u64 0, .int .u64 0, .int .u64 0, .int .u64 0, .int .u64 0, .int .u64 0, .int .u64 0, .int .u64 0, .int .u64 0, .int .u64 0, .int .u64 0, .int .u64 0, .int .u64 0, .int .u64 0, .int .u64 0, .int .u64 0, .int .u64 0, .int .u64 0, .int .u64 0, .int .u64 0]
def C32 : List Value := u8s (List.replicate 32 0)
def C5 : List Value := [.int .u64 0, .int .u64 0, .int .u64 0, .int .u64 0, .int .u64 0]
section
variable {ops : Array Oper} {w0 : World} {Lq : Gh → Act → Prop} {o : Oper} {rest : List Oper} {kds : List Kd} {s : Gh} {a : Act}
theorem lg_f (x : F) (f : FuncId) (args : Array Value) (hw : Region.wanted o (yielded ops a.tmps) = true) (he : ∀ W, (execOp a.eval o).run Tryd.prog W = .ok (.enter f args) W)
    (hc : ∀ W, Calls Tryd.prog f args W (FPost x W)) (h2 : ∀ v, EV v x → wpG Tryd.prog ops w0 Lq rest kds s (a.put o.dst v)) : wpG Tryd.prog ops w0 Lq (o :: rest) (.rel (fun v => EV v x) :: kds) s a :=
  lg_call _ f args hw he hc h2
/-- A value that is told by what it is alone. -/
theorem lg_rv (R : Value → Prop) (v0 : Value) (hv : R v0) (hw : Region.wanted o (yielded ops a.tmps) = true) (h1 : ∀ W, (execOp a.eval o).run Tryd.prog W = .ok (.value v0) W)
    (h2 : ∀ v, R v → wpG Tryd.prog ops w0 Lq rest kds s (a.put o.dst v)) : wpG Tryd.prog ops w0 Lq (o :: rest) (.rel R :: kds) s a :=
  ⟨⟨⟨_, hv⟩, .inl ⟨hw, fun s W hW => by unfold lsAt; rw [h1 W]; exact ⟨rfl, hv⟩⟩⟩, h2⟩
/-- A part of a block that holds a number. -/
theorem lg_e {g off : Nat} {cs : List Value} {b : F} (x : Operand) (hE : E cs b) (hr : w0.rangeAt g off cs) (hb : g < w0.heap.size) (ho : o.op = .load 40 x) (hw : Region.wanted o (yielded ops a.tmps) = true) (hx : a.eval x = .pointer (some ⟨g, off, none⟩))
    (h2 : wpG Tryd.prog ops w0 Lq rest kds s (a.put o.dst (.agg cs.toArray))) : wpG Tryd.prog ops w0 Lq (o :: rest) (.rel (· = .agg cs.toArray) :: kds) s a :=
  lg_load 40 x ho g off _ _ hr hb Tryd.underlying40 rfl hE.size hw hx h2
end
end Go.Proofs.YtkfdclnaaphdgaaDoor
