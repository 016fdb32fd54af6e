/- Texts put together: SpA JvM Str JvL JvE. -/
import Derived.Test.YtajkgcmopmpihaaGreatDoorYcc66149044
import Derived.Test.YtajkgcmopmpihaaGreatDoorY2d7a97ebf1
import Derived.Lib.AppendStr
import Derived.Lib.ConvBytes
import Derived.Laws.IdiomCopy
import Derived.Deep.Slices
import Derived.Deep.Strs
import Derived.Lib.SmallJoins
namespace Go.Proofs.YtajkgcmopmpihaaGreatDoor
open Go.ChangeShapes Go.WideShapes Go.ChangeAt Go.RowKit Go.IntWalk
set_option linter.unusedVariables false
def u8c (bs : List UInt8) : List Value := bs.map fun c => Value.int .u8 (c.toNat : Int)
theorem u8c_len (bs : List UInt8) : (u8c bs).length = bs.length := by simp [u8c]
theorem u8c_app (xs ys : List UInt8) : u8c xs ++ u8c ys = u8c (xs ++ ys) := by simp [u8c]
theorem u8c_take (bs : List UInt8) (n : Nat) : (u8c bs).take n = u8c (bs.take n) := by simp [u8c, List.map_take]
def OwnF (base : Nat) (w : World) (v : Value) (bs : List UInt8) : Prop :=
  (v = .slice none 0 0 ∧ bs = []) ∨
  ∃ g cap cur fz, v = .slice (some ⟨g, 0, none⟩) bs.length cap ∧ base ≤ g ∧ w.heap[g]? = some (.cells cur 5 fz) ∧ (fz.2 = 0 ∨ cap ≤ fz.1) ∧ bs.length ≤ cap ∧ cap ≤ maxLen ∧ cur.size = cap ∧ cur.toList.take bs.length = u8c bs
section
variable {base : Nat} {w w' : World} {v : Value} {bs : List UInt8}
theorem OwnF.lt (h : OwnF base w v bs) : ∀ k, v.ownBlock = some k → base ≤ k ∧ k < w.heap.size := by
  intro k hk
  rcases h with ⟨rfl, _⟩ | ⟨g, cap, cur, fz, rfl, hb, hh, _⟩
  · cases hk
  · simp only [Value.ownBlock, Option.some.injEq] at hk
    subst hk
    exact ⟨hb, (Array.getElem?_eq_some_iff.1 hh).1⟩
theorem OwnF.stay (h : OwnF base w v bs) (hk : ∀ k, v.ownBlock = some k → w'.heap[k]? = w.heap[k]?) : OwnF base w' v bs := by
  rcases h with h | ⟨g, cap, cur, fz, rfl, hb, hh, r⟩
  · exact .inl h
  · exact .inr ⟨g, cap, cur, fz, rfl, hb, (hk g rfl).trans hh, r⟩
theorem OwnF.below (h : OwnF base w v bs) (b : Below w.heap.size w w') : OwnF base w' v bs := h.stay fun k hk => b.block k (h.lt k hk).2
theorem OwnF.form (h : OwnF base w v bs) : ∃ A n cap, v = .slice A n cap ∧ RB w A bs ∧ Hid (n = bs.length) ∧ n ≤ cap := by
  rcases h with ⟨rfl, rfl⟩ | ⟨g, cap, cur, fz, rfl, hb, hh, hf, hn, hm, hs, ht⟩
  · exact ⟨none, 0, 0, rfl, fun k hk => absurd hk (by simp), Lib.hid rfl, Nat.le_refl _⟩
  · refine ⟨_, _, _, rfl, fun k hk => ⟨g, 0, rfl, (Array.getElem?_eq_some_iff.1 hh).1, ?_⟩, Lib.hid rfl, hn⟩
    rw [Nat.zero_add, cell_of_row w g k cur _ fz hh]
    have h1 : (u8c bs)[k]? = some (.int .u8 ((bs.getD k 0).toNat : Int)) := by simp [u8c, List.getD, hk]
    rw [← ht, List.getElem?_take, if_pos hk] at h1
    simpa using h1
theorem OwnF.of_own (h : OwnBs base w v bs) : OwnF base w v bs := by
  rcases h.2 with ⟨rfl, h0⟩ | ⟨g, cap, cur, rfl, hb, hh, hn, hm, hs, ht⟩
  · exact .inl ⟨rfl, List.eq_nil_of_length_eq_zero h0⟩
  · exact .inr ⟨g, cap, cur, (0, 0), rfl, hb, hh, .inl rfl, hn, hm, by simpa using hs, by simpa [u8c] using ht⟩
theorem OwnF.take {A : Option Addr} {n cap : Nat} (h : OwnF base w (.slice A n cap) bs) (k : Nat) (hk : k ≤ bs.length) : OwnF base w (.slice A k cap) (bs.take k) := by
  rcases h with ⟨h1, rfl⟩ | ⟨g, cap, cur, fz, h1, hb, hh, hf, hn, hm, hs, ht⟩
  · cases h1
    have : k = 0 := by simpa using hk
    subst this
    exact .inl ⟨rfl, rfl⟩
  · cases h1
    have hl : (bs.take k).length = k := by rw [List.length_take]; omega
    refine .inr ⟨g, cap, cur, fz, by rw [hl], hb, hh, hf, by omega, hm, hs, ?_⟩
    rw [hl, ← u8c_take, ← ht, List.take_take, Nat.min_eq_left hk]
theorem run_append_text (w : World) (base : Nat) (ty : TypeId) (v : Value) (bs : List UInt8) (hown : OwnF base w v bs) (l : List UInt8) (hlen : bs.length + l.length ≤ 70368744177664) (hbase : base ≤ w.heap.size) :
    ∃ v' w', (Builtin.append_ #[58, 9] ty #[v, .string ⟨l.toArray⟩]).run Tryz.prog w = .ok v' w' ∧ OwnF base w' v' (bs ++ l) ∧ w.grownBy w' v.ownBlock ∧ (v'.ownBlock = v.ownBlock ∨ v'.ownBlock = none ∨ ∃ k, v'.ownBlock = some k ∧ w.heap.size ≤ k) := by
  obtain ⟨i0, hi, hz0, hz1, hz2⟩ := info_parts infoU8
  have hsz : (⟨l.toArray⟩ : ByteArray).size = l.length := rfl
  have hsc : Lib.strCells ⟨l.toArray⟩ = u8c l := rfl
  have ht := Tryz.underlying58
  have hu := Tryz.underlying9
  rcases hown with ⟨rfl, rfl⟩ | ⟨g, cap, cur, fz, rfl, hbg, hg, hf, hnc, hcm, hcs, htake⟩
  · obtain ⟨v', w', h1, h2, h3, h4⟩ := Lib.run_append_own_string (P := Tryz.prog) w w.heap.size 58 9 ty 5 i0 ht hu hi hz0 hz1 hz2 (.slice none 0 0) 0 [] ⟨rfl, .inl ⟨rfl, rfl⟩⟩ ⟨l.toArray⟩ (by rw [hsz]; unfold maxLen; simp at hlen; omega) (by rw [hsz]; simp at hlen; omega) (Nat.le_refl _)
    rw [hsc, hsz, Nat.zero_add, List.nil_append] at h2
    have h5 : OwnBs w.heap.size w' v' l := h2
    refine ⟨v', w', h1, ?_, h3, ?_⟩
    · rcases OwnF.of_own h5 with h | ⟨g, cap, cur, fz, e, hb, r⟩
      · exact .inl h
      · exact .inr ⟨g, cap, cur, fz, e, by omega, r⟩
    · cases ho : v'.ownBlock with
      | none => exact .inr (.inl rfl)
      | some k => exact .inr (.inr ⟨k, rfl, (h5.lt k ho).1⟩)
  · by_cases hroom : bs.length + l.length ≤ cap
    · have hcell : ∀ j, j < (u8c l).length → (w.cell? ⟨g, bs.length + 0 + j, none⟩).isSome = true := fun j hj => by
        rw [u8c_len] at hj
        rw [cell_of_row w g _ cur _ fz hg]
        simp
        omega
      have hfro : ∀ j, j < (u8c l).length → w.frozen? ⟨g, bs.length + 0 + j, none⟩ = false := fun j hj => by
        rw [u8c_len] at hj
        obtain ⟨lo, hi'⟩ := fz
        simp only [World.frozen?, hg, Bool.and_eq_false_iff, decide_eq_false_iff_not]
        simp only at hf
        omega
      have hst := run_storeCells_cells (P := Tryz.prog) g bs.length (u8c l) 0 w hcell hfro (fun u hu => by
        obtain ⟨y, _, rfl⟩ := List.mem_map.1 hu
        rfl)
      have hfc := Lib.run_firstCells_string (P := Tryz.prog) w 1 ⟨l.toArray⟩
      rw [Nat.add_zero] at hst
      rw [hsc, hsz] at hfc
      have hrun : (Builtin.append_ #[58, 9] ty #[.slice (some ⟨g, 0, none⟩) bs.length cap, .string ⟨l.toArray⟩]).run Tryz.prog w = .ok (.slice (some ⟨g, 0, none⟩) (bs.length + l.length) cap) (w.setCells g bs.length (u8c l)) := by
        simp [Builtin.append_, run_underlying ht, run_underlying hu, sizeOf, typeInfo, hi, hz1, Builtin.lenOf, hsz, hroom, hfc, Addr.add_lit, hst]
      have hrow := blkSetCells (u8c l) bs.length w cur.toList (by simpa using hg) (by rw [u8c_len]; simp; omega)
      refine ⟨_, _, hrun, .inr ⟨g, cap, _, fz, by rw [List.length_append], hbg, hrow, hf, by rw [List.length_append]; exact hroom, hcm, ?_, ?_⟩, gb_setCells g _ _ _, .inl rfl⟩
      · simp only [List.size_toArray, List.length_append, List.length_take, List.length_drop, Array.length_toList, u8c_len]
        omega
      · rw [htake, u8c_app]
        show List.take _ (u8c (bs ++ l) ++ _) = _
        exact List.take_left' (u8c_len _)
    · have holds : ∀ j u, (u8c bs)[j]? = some u → w.cell? ((⟨g, 0, none⟩ : Addr).add j) = some u := fun j u hj => by
        have hadd : (⟨g, 0, none⟩ : Addr).add j = ⟨g, j, none⟩ := by unfold Addr.add; split <;> simp_all
        rw [hadd, cell_of_row w g j cur _ fz hg]
        rw [← htake, List.getElem?_take] at hj
        split at hj
        · simpa using hj
        · cases hj
      have hr := Lib.run_append_grow_string (P := Tryz.prog) w 58 9 ty 5 i0 (.int .u8 0) ht hu hi hz0 ⟨g, 0, none⟩ bs.length cap (u8c bs) (by rw [hz1, u8c_len, Nat.mul_one]) holds ⟨l.toArray⟩ (by rw [hsz]; omega) (by rw [hsz]; omega) (by rw [hz2]; exact growslice_fits (by rw [hsz]; omega) (by rw [hsz]; omega))
      rw [hsz, hsc] at hr
      have hge := grownCap_ge w (bs.length + l.length) cap 5
      have hcm2 : grownCap w (bs.length + l.length) cap 5 ≤ maxLen := grownCap_le_maxLen w (bs.length + l.length) cap 5 (by unfold maxLen; omega)
      refine ⟨_, _, hr, .inr ⟨w.heap.size, _, _, (0, 0), by rw [List.length_append], hbase, heap_alloc_new w.drew _, .inl rfl, by rw [List.length_append]; exact hge, hcm2, ?_, ?_⟩, ⟨rfl, rfl, rfl, by simp, fun k hk _ => heap_alloc_old w.drew _ hk⟩, .inr (.inr ⟨_, rfl, Nat.le_refl _⟩)⟩
      · have hz1 : (Value.int IntKind.u8 0).cells.size = 1 := rfl
        simp only [Array.size_append, List.size_toArray, size_zeroCells, hz1, u8c_len]
        omega
      · simp only [Array.toList_append]
        rw [u8c_app]
        exact List.take_left' (u8c_len _)
theorem wpList_append_text {ops : Array Oper} {rest : List Oper} {o : Oper} {a : Act} {Q : Exit → Act → World → Prop} {w : World} (hgd : o.guard = none) (s x : Operand)
    (ho : o.op = .call { callee := .builtin .append, args := #[s, x], argTypes := #[58, 9] })
    (base : Nat) (v : Value) (bs : List UInt8) (hs : a.eval s = v) (hown : OwnF base w v bs) (l : List UInt8) (hx : a.eval x = .string ⟨l.toArray⟩) (hlen : bs.length + l.length ≤ 70368744177664) (hbase : base ≤ w.heap.size)
    (h : ∀ v' w', OwnF base w' v' (bs ++ l) → w.grownBy w' v.ownBlock → (v'.ownBlock = v.ownBlock ∨ v'.ownBlock = none ∨ ∃ k, v'.ownBlock = some k ∧ w.heap.size ≤ k) → wpList Tryz.prog ops Q rest (a.put o.dst v') w') :
    wpList Tryz.prog ops Q (o :: rest) a w := by
  refine wpList_plain hgd fun K hK => ?_
  obtain ⟨v', w', hr, h2, h3, h4⟩ := run_append_text w base o.type v bs hown l hlen hbase
  unfold Oper.wp execOp
  simp only [ho, resolve, invoke, builtin, Sem.run_bind, Sem.run_pure, Result.andThen_ok, List.map_toArray, List.map_cons, List.map_nil, hs, hx, hr]
  exact hK _ _ (h v' w' h2 h3 h4)
end
end Go.Proofs.YtajkgcmopmpihaaGreatDoor
namespace Go.Proofs.YtajkgcmopmpihaaGreatDoor
open Go.ChangeShapes Go.WideShapes Go.ChangeAt Go.RowKit
set_option linter.unusedVariables false
def kwM (mem : Bool) : Nat := if mem then 1 else 0
def stM (mem : Bool) : Nat := kwM mem + 6
def Fit (kd n : Int) (s : List UInt8) : Prop := (-9223372036854775808 ≤ kd ∧ kd ≤ 9223372036854775807) ∧ (-9223372036854775808 ≤ n ∧ n ≤ 9223372036854775807) ∧ s.length ≤ 140737488355328
def Room (n c ext : Nat) : Prop := n = ext ∧ n ≤ c ∧ n ≤ 140737488355328
def JIn (P : Nat → Prop) (w : World) : Bool → Nat → Nat → JT → Prop
  | _, _, _, .nil => True
  | mem, b, o, .cons k kd is n s l m r =>
    (if mem then w.cell? ⟨b, o, none⟩ = some (strV k) ∧ k.length ≤ 140737488355328 else k = []) ∧
    (∃ A nl cl B nm cm, w.rangeAt b (o + kwM mem) [.int .i64 kd, .bool is, .int .i64 n, strV s, .slice A nl cl, .slice B nm cm] ∧ Room nl cl l.ext ∧ Room nm cm m.ext ∧
      (l = .nil ∨ ∃ b' o', A = some ⟨b', o', none⟩ ∧ P b' ∧ JIn P w false b' o' l) ∧ (m = .nil ∨ ∃ b' o', B = some ⟨b', o', none⟩ ∧ P b' ∧ JIn P w true b' o' m)) ∧
    Fit kd n s ∧ JIn P w mem b (o + stM mem) r
def JSl (P : Nat → Prop) (w : World) (mem : Bool) (A : Option Addr) (t : JT) : Prop := t = .nil ∨ ∃ b o, A = some ⟨b, o, none⟩ ∧ P b ∧ JIn P w mem b o t
def JCs (P : Nat → Prop) (w : World) (cs : List Value) (v : Jv) : Prop :=
  ∃ A nl cl B nm cm, cs = [.int .i64 v.kd, .bool v.is, .int .i64 v.n, strV v.s, .slice A nl cl, .slice B nm cm] ∧ Room nl cl v.l.ext ∧ Room nm cm v.m.ext ∧ JSl P w false A v.l ∧ JSl P w true B v.m ∧ Fit v.kd v.n v.s
section
variable {P Q : Nat → Prop} {w w' : World} {mem : Bool}
theorem JIn.stay (hP : ∀ b o, P b → w'.cell? ⟨b, o, none⟩ = w.cell? ⟨b, o, none⟩) (hPQ : ∀ b, P b → Q b) : ∀ (t : JT) (mem : Bool) (b o : Nat), P b → JIn P w mem b o t → JIn Q w' mem b o t
  | .nil, _, _, _, _, _ => trivial
  | .cons k kd is n s l m r, mem, b, o, hb, h => by
    obtain ⟨h1, ⟨A, nl, cl, B, nm, cm, h2, h3, h4, h5, h6⟩, h7, h8⟩ := h
    refine ⟨?_, ⟨A, nl, cl, B, nm, cm, ?_, h3, h4, ?_, ?_⟩, h7, JIn.stay hP hPQ r mem b _ hb h8⟩
    · cases mem with
      | true => exact ⟨(hP _ _ hb).trans h1.1, h1.2⟩
      | false => exact h1
    · intro j v hj
      rw [hP _ _ hb]
      exact h2 j v hj
    · rcases h5 with h5 | ⟨b', o', e, hb', h5⟩
      · exact .inl h5
      · exact .inr ⟨b', o', e, hPQ _ hb', JIn.stay hP hPQ l false b' o' hb' h5⟩
    · rcases h6 with h6 | ⟨b', o', e, hb', h6⟩
      · exact .inl h6
      · exact .inr ⟨b', o', e, hPQ _ hb', JIn.stay hP hPQ m true b' o' hb' h6⟩
theorem JSl.stay {A : Option Addr} {t : JT} (h : JSl P w mem A t) (hP : ∀ b o, P b → w'.cell? ⟨b, o, none⟩ = w.cell? ⟨b, o, none⟩) (hPQ : ∀ b, P b → Q b) : JSl Q w' mem A t := by
  rcases h with h | ⟨b, o, e, hb, h⟩
  · exact .inl h
  · exact .inr ⟨b, o, e, hPQ _ hb, JIn.stay hP hPQ t mem b o hb h⟩
theorem JCs.stay {cs : List Value} {v : Jv} (h : JCs P w cs v) (hP : ∀ b o, P b → w'.cell? ⟨b, o, none⟩ = w.cell? ⟨b, o, none⟩) (hPQ : ∀ b, P b → Q b) : JCs Q w' cs v := by
  obtain ⟨A, nl, cl, B, nm, cm, e, h1, h2, h3, h4, h5⟩ := h
  exact ⟨A, nl, cl, B, nm, cm, e, h1, h2, h3.stay hP hPQ, h4.stay hP hPQ, h5⟩
theorem JIn.at_ : ∀ (t : JT) (mem : Bool) (b o i : Nat), JIn P w mem b o t → i < t.ext →
    (if mem then w.cell? ⟨b, o + i * stM mem, none⟩ = some (strV (t.fall i).key) ∧ (t.fall i).key.length ≤ 140737488355328 else (t.fall i).key = []) ∧
    ∃ cs, w.rangeAt b (o + i * stM mem + kwM mem) cs ∧ JCs P w cs (t.fall i).val
  | .nil, _, _, _, i, _, hi => absurd hi (by simp [JT.ext])
  | .cons k kd is n s l m r, mem, b, o, 0, h, _ => by
    obtain ⟨h1, ⟨A, nl, cl, B, nm, cm, h2, h3, h4, h5, h6⟩, h7, h8⟩ := h
    rw [JT.fall_zero, Nat.zero_mul, Nat.add_zero]
    exact ⟨h1, _, h2, A, nl, cl, B, nm, cm, rfl, h3, h4, h5, h6, h7⟩
  | .cons k kd is n s l m r, mem, b, o, i + 1, h, hi => by
    have := JIn.at_ r mem b (o + stM mem) i h.2.2.2 (by simp [JT.ext] at hi; omega)
    rw [show o + stM mem + i * stM mem = o + (i + 1) * stM mem by rw [Nat.succ_mul]; omega] at this
    exact this
theorem JSl.at_ {A : Option Addr} {t : JT} (h : JSl P w mem A t) {i : Nat} (hi : i < t.ext) : ∃ b o, A = some ⟨b, o, none⟩ ∧ P b ∧ b < w.heap.size ∧
    (if mem then w.cell? ⟨b, o + i * stM mem, none⟩ = some (strV (t.fall i).key) ∧ (t.fall i).key.length ≤ 140737488355328 else (t.fall i).key = []) ∧
    ∃ cs, w.rangeAt b (o + i * stM mem + kwM mem) cs ∧ JCs P w cs (t.fall i).val := by
  rcases h with h | ⟨b, o, e, hb, h⟩
  · rw [h] at hi; exact absurd hi (by simp [JT.ext])
  · obtain ⟨h1, cs, h2, h3⟩ := JIn.at_ t mem b o i h hi
    refine ⟨b, o, e, hb, ?_, h1, cs, h2, h3⟩
    obtain ⟨A, nl, cl, B, nm, cm, rfl, _⟩ := h3
    exact World.block_lt_of_cell? w _ (h2 0 _ rfl)
end
def JVal (w : World) (V : Value) (v : Jv) : Prop := ∃ cs : List Value, V = .agg cs.toArray ∧ JCs (· < w.heap.size) w cs v
theorem JCs.below {w w' : World} {cs : List Value} {v : Jv} (h : JCs (· < w.heap.size) w cs v) (hb : Below w.heap.size w w') : JCs (· < w'.heap.size) w' cs v :=
  h.stay (fun b o hlt => hb.cell (p := ⟨b, o, none⟩) hlt) (fun b hlt => Nat.lt_of_lt_of_le hlt hb.size)
theorem JVal.below {w w' : World} {V : Value} {v : Jv} (h : JVal w V v) (hb : Below w.heap.size w w') : JVal w' V v :=
  let ⟨cs, e, h1⟩ := h; ⟨cs, e, h1.below hb⟩
end Go.Proofs.YtajkgcmopmpihaaGreatDoor
namespace Go.Proofs.YtajkgcmopmpihaaGreatDoor
open Go.ChangeShapes Go.WideShapes Go.ChangeAt Go.RowKit Go.IntWalk
set_option linter.unusedVariables false
@[go_sem] theorem str_extract (l : List UInt8) (a b : Nat) : (⟨l.toArray⟩ : ByteArray).extract a b = ⟨((l.take b).drop a).toArray⟩ := by
  have h : ((⟨l.toArray⟩ : ByteArray).extract a b).data = ((l.take b).drop a).toArray := by
    simp [ByteArray.data_extract, List.extract_eq_take_drop, List.drop_take]
  exact congrArg ByteArray.mk h
@[go_sem] theorem str_get (l : List UInt8) (i : Nat) (h : i < (⟨l.toArray⟩ : ByteArray).size) : (⟨l.toArray⟩ : ByteArray)[i]'h = l[i]'h := rfl
@[go_sem] theorem str_data (l : List UInt8) : (⟨l.toArray⟩ : ByteArray).data.toList = l := rfl
theorem str_split (s : ByteArray) : ∃ l : List UInt8, s = ⟨l.toArray⟩ ∧ s.size = l.length := ⟨s.data.toList, by simp, rfl⟩
end Go.Proofs.YtajkgcmopmpihaaGreatDoor
namespace Go.Proofs.YtajkgcmopmpihaaGreatDoor
open Go.ChangeShapes Go.WideShapes Go.ChangeAt Go.RowKit
set_option linter.unusedVariables false
set_option maxRecDepth 100000
def VOk (w : World) (v : Jv) (A B : Option Addr) (nl cl nm cm : Nat) : Prop :=
  Room nl cl v.l.ext ∧ Room nm cm v.m.ext ∧ JSl (· < w.heap.size) w false A v.l ∧ JSl (· < w.heap.size) w true B v.m ∧ Fit v.kd v.n v.s
theorem VOk.below {w w' : World} {v : Jv} {A B : Option Addr} {nl cl nm cm : Nat} (h : VOk w v A B nl cl nm cm) (b : Below w.heap.size w w') : VOk w' v A B nl cl nm cm :=
  ⟨h.1, h.2.1, h.2.2.1.stay (fun b' o hb => b.cell (p := ⟨b', o, none⟩) hb) (fun x hx => Nat.lt_of_lt_of_le hx b.size), h.2.2.2.1.stay (fun b' o hb => b.cell (p := ⟨b', o, none⟩) hb) (fun x hx => Nat.lt_of_lt_of_le hx b.size), h.2.2.2.2⟩
theorem JIn.make {P : Nat → Prop} {w : World} {mem : Bool} {b : Nat} : ∀ (n o : Nat), (∀ i, i < n → ∃ (k : List UInt8) (v : Jv) (cs : List Value), (if mem then w.cell? ⟨b, o + i * stM mem, none⟩ = some (strV k) ∧ k.length ≤ 140737488355328 else k = []) ∧ w.rangeAt b (o + i * stM mem + kwM mem) cs ∧ JCs P w cs v) →
    ∃ t : JT, t.ext = n ∧ JIn P w mem b o t
  | 0, o, _ => ⟨.nil, rfl, trivial⟩
  | n + 1, o, h => by
    obtain ⟨t, h1, h2⟩ := JIn.make (P := P) (w := w) (mem := mem) (b := b) n (o + stM mem) (fun i hi => by
      have := h (i + 1) (by omega)
      rwa [show o + (i + 1) * stM mem = o + stM mem + i * stM mem by rw [Nat.succ_mul]; omega] at this)
    obtain ⟨k, v, cs, h3, h4, A, nl, cl, B, nm, cm, rfl, h5, h6, h7, h8, h9⟩ := h 0 (by omega)
    rw [Nat.zero_mul, Nat.add_zero] at h3 h4
    exact ⟨.cons k v.kd v.is v.n v.s v.l v.m t, by simp [JT.ext, h1], h3, ⟨A, nl, cl, B, nm, cm, h4, h5, h6, h7, h8⟩, h9, h2⟩
section
variable {H : Type} {enc : TypeId × Value → H} {w : World} {base : Nat} {held : Bool}
theorem add_plain2 (b off i j : Nat) : ((⟨b, off, none⟩ : Addr).add i).add j = ⟨b, off + (i + j), none⟩ := by
  rw [← Nat.add_assoc]; unfold Addr.add; split <;> split <;> simp_all
theorem weights_in {T e : TypeId} (ht : Tryz.prog.underlying T = some (.slice e)) (f : Nat → DataW H) (n : Nat) (rest : List (DataW H)) {i : Nat} (hi : i < n) {q : Nat} (hq : q ∈ (f i).weights Tryz.prog e) :
    q ∈ (DataW.slice ((List.range n).map f) rest).weights Tryz.prog T := by
  have key : ∀ (l : List (DataW H)), f i ∈ l → q ∈ DataW.weightsAll Tryz.prog e l := by
    intro l
    induction l with
    | nil => intro h; cases h
    | cons x l ih =>
      intro h
      simp only [DataW.weightsAll, List.mem_append]
      rcases List.mem_cons.1 h with rfl | h
      · exact .inl hq
      · exact .inr (ih h)
  have := key ((List.range n).map f) (List.mem_map.2 ⟨i, List.mem_range.2 hi, rfl⟩)
  simp only [DataW.weights, ht, List.mem_cons, List.mem_append]
  exact .inr (.inl this)
theorem open_depth {t e : TypeId} {fuel : Nat} {cs : List Value} {x : DataW H × List MemPlace} (ht : Tryz.prog.underlying t = some (.slice e)) (h : DataW.trod enc Tryz.prog w base (fun _ => true) held fuel t cs = some x) :
    (cs = [.slice none 0 0] ∧ x = (.nil, [])) ∨
    ∃ (a : Addr) (len cap n : Nat) (D : Nat → DataW H) (rest : List (DataW H)), n < fuel ∧ cs = [.slice (some a) len cap] ∧ len ≤ cap ∧ cap * Tryz.prog.bytesOf e ∈ x.1.weights Tryz.prog t ∧ x.1 = .slice ((List.range len).map D) rest ∧
      ∀ i, i < len → ∃ cs' p, w.cells? base (a.add (i * Tryz.prog.cellsOf e)) (Tryz.prog.cellsOf e) = some cs' ∧ DataW.trod enc Tryz.prog w base (fun _ => true) held n e cs' = some (D i, p) := by
  rcases DataW.trod_slice ht h with h0 | ⟨a, len, cap, elems, rest, n, rfl, rfl, rfl, hb, hl, hm, hlen, hel, hsp, _⟩
  · exact .inl h0
  refine .inr ⟨a, len, cap, n, fun i => (elems.getD i (.nil, [])).1, rest.map (·.1), by omega, rfl, hl, ?_, ?_, fun i hi => ?_⟩
  · have h1 := (hsp rfl).1
    have h2 : elems.length + rest.length = cap := by omega
    rw [← h2]
    simp [DataW.weights, ht]
  · have : elems.map (·.1) = (List.range len).map fun i => (elems.getD i (.nil, [])).1 := by
      refine List.ext_getElem (by simp [hlen]) fun i h1 h2 => ?_
      simp at h1
      simp [List.getD, h1]
    simp only [this]
  · have key := hel i hi
    have hi2 : i < elems.length := by omega
    rw [List.getElem?_eq_getElem hi2] at key
    obtain ⟨cs', h1, h2⟩ := Option.bind_eq_some_iff.1 key
    refine ⟨cs', (elems.getD i (.nil, [])).2, h1, ?_⟩
    rw [h2]; simp [List.getD, hi2]
set_option maxHeartbeats 4000000 in
/-- A value's cells, read as data. -/
theorem open_jv : ∀ (fuel : Nat) (cs : List Value) (x : DataW H × List MemPlace), DataW.trod enc Tryz.prog w base (fun _ => true) held fuel 25 cs = some x → (∀ q ∈ x.1.weights Tryz.prog 25, q ≤ reachBytes) →
    ∃ v, JCs (· < w.heap.size) w cs v := by
  intro fuel
  induction fuel using Nat.strongRecOn with
  | _ fuel IH =>
    intro cs x h hwt
    obtain ⟨xs, n, rfl, rfl, hl, hlen, hf⟩ := DataW.trod_struct Tryz.underlying25 h
    have hrch : reachBytes < 2 ^ 47 := by decide
    have c6 : Tryz.prog.cellsOf 25 = 6 := by kernel_rfl
    have c7 : Tryz.prog.cellsOf 44 = 7 := by kernel_rfl
    have hci : Tryz.prog.cellsOf 3 = 1 := by kernel_rfl
    have hcb : Tryz.prog.cellsOf 4 = 1 := by kernel_rfl
    have hcs : Tryz.prog.cellsOf 9 = 1 := by kernel_rfl
    have hcl : Tryz.prog.cellsOf 22 = 1 := by kernel_rfl
    have hcm : Tryz.prog.cellsOf 23 = 1 := by kernel_rfl
    match xs, hlen with
    | [y0, y1, y2, y3, y4, y5], _ =>
      have t0 : DataW.trod enc Tryz.prog w base (fun _ => true) held n 3 ((cs.drop 0).take (Tryz.prog.cellsOf 3)) = some y0 := hf 0 _ rfl
      have t1 : DataW.trod enc Tryz.prog w base (fun _ => true) held n 4 ((cs.drop 1).take (Tryz.prog.cellsOf 4)) = some y1 := hf 1 _ rfl
      have t2 : DataW.trod enc Tryz.prog w base (fun _ => true) held n 3 ((cs.drop 2).take (Tryz.prog.cellsOf 3)) = some y2 := hf 2 _ rfl
      have t3 : DataW.trod enc Tryz.prog w base (fun _ => true) held n 9 ((cs.drop 3).take (Tryz.prog.cellsOf 9)) = some y3 := hf 3 _ rfl
      have t4 : DataW.trod enc Tryz.prog w base (fun _ => true) held n 22 ((cs.drop 4).take (Tryz.prog.cellsOf 22)) = some y4 := hf 4 _ rfl
      have t5 : DataW.trod enc Tryz.prog w base (fun _ => true) held n 23 ((cs.drop 5).take (Tryz.prog.cellsOf 23)) = some y5 := hf 5 _ rfl
      clear hf
      rw [hci] at t0
      rw [hcb] at t1
      rw [hci] at t2
      rw [hcs] at t3
      rw [hcl] at t4
      rw [hcm] at t5
      rw [c6] at hl
      match cs, hl with
      | [z0, z1, z2, z3, z4, z5], _ =>
      simp only [List.drop_zero, List.drop_succ_cons, List.take_succ_cons, List.take_zero] at t0 t1 t2 t3 t4 t5
      obtain ⟨kd, e0, q0, w0⟩ := DataW.trod_int Tryz.underlying3 t0
      obtain ⟨is, e1, q1⟩ := DataW.trod_bool Tryz.underlying4 t1
      obtain ⟨nn, e2, q2, w2⟩ := DataW.trod_int Tryz.underlying3 t2
      obtain ⟨s0, e3, q3, w3⟩ := DataW.trod_string Tryz.underlying9 t3
      obtain ⟨s, rfl, hss⟩ := str_split s0
      have hwe : ∀ (j : Nat) (T : TypeId) (y : DataW H × List MemPlace), ([(3, y0), (4, y1), (3, y2), (9, y3), (22, y4), (23, y5)] : List (TypeId × (DataW H × List MemPlace)))[j]? = some (T, y) → ∀ q ∈ y.1.weights Tryz.prog T, q ≤ reachBytes := by
        intro j T y hj q hq
        refine hwt q ?_
        simp only [DataW.weights, Tryz.underlying25, List.map_cons, List.map_nil]
        match j, hj with
        | 0, hj => injection hj with hj; injection hj with e1 e2; subst e1; subst e2; exact DataW.weights_mem_each (j := 0) rfl rfl q hq
        | 1, hj => injection hj with hj; injection hj with e1 e2; subst e1; subst e2; exact DataW.weights_mem_each (j := 1) rfl rfl q hq
        | 2, hj => injection hj with hj; injection hj with e1 e2; subst e1; subst e2; exact DataW.weights_mem_each (j := 2) rfl rfl q hq
        | 3, hj => injection hj with hj; injection hj with e1 e2; subst e1; subst e2; exact DataW.weights_mem_each (j := 3) rfl rfl q hq
        | 4, hj => injection hj with hj; injection hj with e1 e2; subst e1; subst e2; exact DataW.weights_mem_each (j := 4) rfl rfl q hq
        | 5, hj => injection hj with hj; injection hj with e1 e2; subst e1; subst e2; exact DataW.weights_mem_each (j := 5) rfl rfl q hq
        | j + 6, hj => simp at hj
      have hsl : s.length ≤ 140737488355328 := by
        have := hwe 3 _ y3 rfl s.length (by rw [q3]; simp [DataW.weights])
        omega
      injection e0 with e0 _
      injection e1 with e1 _
      injection e2 with e2 _
      injection e3 with e3 _
      subst e0 e1 e2 e3
      have hfit : Fit kd nn s := by
        refine ⟨?_, ?_, hsl⟩
        · simpa [Lit.wf, IntKind.min, IntKind.max, IntKind.signed, IntKind.bits] using w0
        · simpa [Lit.wf, IntKind.min, IntKind.max, IntKind.signed, IntKind.bits] using w2
      -- a slice's elements
      have hA : ∃ (A : Option Addr) (nl cl : Nat) (l : JT), z4 = .slice A nl cl ∧ Room nl cl l.ext ∧ JSl (· < w.heap.size) w false A l := by
        rcases open_depth Tryz.underlying22 t4 with ⟨ec, _⟩ | ⟨a, len, cap, k, D, rest, hk, ec, hle, hcap, hx, hall⟩
        · injection ec with ec _
          exact ⟨none, 0, 0, .nil, ec, ⟨rfl, Nat.le_refl _, by decide⟩, .inl rfl⟩
        · injection ec with ec _
          have hcap : cap ≤ 140737488355328 := by
            have h1 := hwe 4 _ y4 rfl _ hcap
            have h2 : 1 ≤ Tryz.prog.bytesOf 25 := by decide +kernel
            have h3 := Nat.mul_le_mul_left cap h2
            omega
          rw [c6] at hall
          by_cases h0 : len = 0
          · subst h0
            exact ⟨some a, 0, cap, .nil, ec, ⟨rfl, hle, Nat.zero_le _⟩, .inl rfl⟩
          · obtain ⟨b, off, spot⟩ := a
            have hspot : spot = none := by
              obtain ⟨cs', p, h1, h2⟩ := hall 0 (by omega)
              obtain ⟨_, hlen', hc'⟩ := World.cells?_some h1
              have h3 := hc' 0 (by decide)
              rw [List.getElem?_eq_getElem (by omega)] at h3
              simpa [Addr.add] using World.cell?_spot h3
            subst hspot
            obtain ⟨t, ht1, ht2⟩ := JIn.make (P := (· < w.heap.size)) (w := w) (mem := false) (b := b) len off (fun i hi => by
              obtain ⟨cs', p, h1, h2⟩ := hall i hi
              obtain ⟨_, hlen', hc'⟩ := World.cells?_some h1
              obtain ⟨v, hv⟩ := IH k (by omega) cs' _ h2 (fun q hq => hwe 4 _ y4 rfl q (by rw [hx]; exact weights_in Tryz.underlying22 D len rest hi hq))
              refine ⟨[], v, cs', rfl, fun j u hj => ?_, hv⟩
              have hj6 : j < 6 := by rw [← hlen']; exact (List.getElem?_eq_some_iff.1 hj).1
              have h3 := hc' j hj6
              rw [add_plain2, hj] at h3
              show w.cell? ⟨b, off + i * 6 + 0 + j, none⟩ = some u
              rw [show off + i * 6 + 0 + j = off + (i * 6 + j) by omega]
              exact h3)
            have hbl : b < w.heap.size := by
              obtain ⟨cs', p, h1, h2⟩ := hall 0 (by omega)
              obtain ⟨_, hlen', hc'⟩ := World.cells?_some h1
              have h3 := hc' 0 (by decide)
              rw [List.getElem?_eq_getElem (by omega)] at h3
              rw [add_plain2] at h3
              exact World.block_lt_of_cell? w _ h3
            exact ⟨_, len, cap, t, ec, ⟨ht1.symm, hle, Nat.le_trans hle hcap⟩, .inr ⟨b, off, rfl, hbl, ht2⟩⟩
      have hB : ∃ (B : Option Addr) (nm cm : Nat) (m : JT), z5 = .slice B nm cm ∧ Room nm cm m.ext ∧ JSl (· < w.heap.size) w true B m := by
        rcases open_depth Tryz.underlying23 t5 with ⟨ec, _⟩ | ⟨a, len, cap, k, D, rest, hk, ec, hle, hcap, hx, hall⟩
        · injection ec with ec _
          exact ⟨none, 0, 0, .nil, ec, ⟨rfl, Nat.le_refl _, by decide⟩, .inl rfl⟩
        · injection ec with ec _
          have hcap : cap ≤ 140737488355328 := by
            have h1 := hwe 5 _ y5 rfl _ hcap
            have h2 : 1 ≤ Tryz.prog.bytesOf 44 := by decide +kernel
            have h3 := Nat.mul_le_mul_left cap h2
            omega
          rw [c7] at hall
          by_cases h0 : len = 0
          · subst h0
            exact ⟨some a, 0, cap, .nil, ec, ⟨rfl, hle, Nat.zero_le _⟩, .inl rfl⟩
          · obtain ⟨b, off, spot⟩ := a
            have hspot : spot = none := by
              obtain ⟨cs', p, h1, h2⟩ := hall 0 (by omega)
              obtain ⟨_, hlen', hc'⟩ := World.cells?_some h1
              have h3 := hc' 0 (by decide)
              rw [List.getElem?_eq_getElem (by omega)] at h3
              simpa [Addr.add] using World.cell?_spot h3
            subst hspot
            obtain ⟨t, ht1, ht2⟩ := JIn.make (P := (· < w.heap.size)) (w := w) (mem := true) (b := b) len off (fun i hi => by
              obtain ⟨cs', p, h1, h2⟩ := hall i hi
              obtain ⟨_, hlen', hc'⟩ := World.cells?_some h1
              obtain ⟨ys, k2, hk2, hD, hl2, hlen2, hf2⟩ := DataW.trod_struct Tryz.underlying44 h2
              match ys, hlen2 with
              | [u0, u1], _ =>
              have s0 : DataW.trod enc Tryz.prog w base (fun _ => true) held k2 9 ((cs'.drop 0).take (Tryz.prog.cellsOf 9)) = some u0 := hf2 0 _ rfl
              have s1 : DataW.trod enc Tryz.prog w base (fun _ => true) held k2 25 ((cs'.drop 1).take (Tryz.prog.cellsOf 25)) = some u1 := hf2 1 _ rfl
              rw [hcs] at s0
              rw [c6] at s1
              injection hD with hD _
              have hDw : ∀ q ∈ u0.1.weights Tryz.prog 9 ++ u1.1.weights Tryz.prog 25, q ≤ reachBytes := fun q hq => hwe 5 _ y5 rfl q (by
                rw [hx]
                refine weights_in Tryz.underlying23 D len rest hi ?_
                rw [hD]
                simp only [DataW.weights, Tryz.underlying44, List.map_cons, List.map_nil]
                rcases List.mem_append.1 hq with hq | hq
                · exact DataW.weights_mem_each (j := 0) rfl rfl q hq
                · exact DataW.weights_mem_each (j := 1) rfl rfl q hq)
              obtain ⟨k0, e6, q6, w6⟩ := DataW.trod_string Tryz.underlying9 s0
              obtain ⟨kk, rfl, hkk⟩ := str_split k0
              obtain ⟨v, hv⟩ := IH k2 (by omega) _ _ s1 (fun q hq => hDw q (List.mem_append.2 (.inr hq)))
              have hkl : kk.length ≤ 140737488355328 := by
                have := hDw kk.length (List.mem_append.2 (.inl (by rw [q6]; simp [DataW.weights])))
                omega
              have cell : ∀ j u, cs'[j]? = some u → w.cell? ⟨b, off + i * 7 + j, none⟩ = some u := fun j u hj => by
                have hj7 : j < 7 := by rw [← hlen']; exact (List.getElem?_eq_some_iff.1 hj).1
                have h3 := hc' j hj7
                rw [add_plain2, hj] at h3
                rw [show off + i * 7 + j = off + (i * 7 + j) by omega]
                exact h3
              refine ⟨kk, v, (cs'.drop 1).take 6, ⟨?_, hkl⟩, fun j u hj => ?_, hv⟩
              · refine cell 0 _ ?_
                have h5 := congrArg (fun q => q[0]?) e6
                exact (show cs'[0]? = some (.string ⟨kk.toArray⟩) by simpa [List.getElem?_take, List.getElem?_drop] using h5)
              · have hj6 : cs'[1 + j]? = some u := by
                  rw [List.getElem?_take] at hj
                  split at hj
                  · rwa [List.getElem?_drop] at hj
                  · cases hj
                have := cell (1 + j) u hj6
                show w.cell? ⟨b, off + i * 7 + 1 + j, none⟩ = some u
                rwa [show off + i * 7 + 1 + j = off + i * 7 + (1 + j) by omega])
            have hbl : b < w.heap.size := by
              obtain ⟨cs', p, h1, h2⟩ := hall 0 (by omega)
              obtain ⟨_, hlen', hc'⟩ := World.cells?_some h1
              have h3 := hc' 0 (by decide)
              rw [List.getElem?_eq_getElem (by omega)] at h3
              rw [add_plain2] at h3
              exact World.block_lt_of_cell? w _ h3
            exact ⟨_, len, cap, t, ec, ⟨ht1.symm, hle, Nat.le_trans hle hcap⟩, .inr ⟨b, off, rfl, hbl, ht2⟩⟩
      obtain ⟨A, nl, cl, l, rfl, h1, h2⟩ := hA
      obtain ⟨B, nm, cm, m, rfl, h3, h4⟩ := hB
      exact ⟨⟨kd, is, nn, s, l, m⟩, A, nl, cl, B, nm, cm, rfl, h1, h3, h2, h4, hfit⟩
theorem open_value {W : World} {r : _} {b0 : Nat} {v : Value} {d : DataW H} {p : List MemPlace} (hv : Value.okWide Tryz.prog W r b0 25 v) (h : DataW.Trod enc Tryz.prog w base (fun _ => true) held 25 v d p) (hwt : ∀ q ∈ d.weights Tryz.prog 25, q ≤ reachBytes) :
    ∃ (a : Jv) (A B : Option Addr) (nl cl nm cm : Nat), v = .agg #[.int .i64 a.kd, .bool a.is, .int .i64 a.n, .string ⟨a.s.toArray⟩, .slice A nl cl, .slice B nm cm] ∧ VOk w a A B nl cl nm cm := by
  unfold Value.okWide at hv
  rw [Tryz.underlying25] at hv
  obtain ⟨cs, rfl, hsz, _⟩ := hv
  obtain ⟨fuel, hf⟩ := h
  obtain ⟨a, A, nl, cl, B, nm, cm, e, h1, h2, h3, h4, h5⟩ := open_jv fuel _ _ hf hwt
  refine ⟨a, A, B, nl, cl, nm, cm, ?_, h1, h2, h3, h4, h5⟩
  obtain ⟨L⟩ := cs
  simp only [Value.cells] at e
  rw [e]; rfl
end
end Go.Proofs.YtajkgcmopmpihaaGreatDoor
namespace Go.Proofs.YtajkgcmopmpihaaGreatDoor
open Go.ChangeShapes Go.WideShapes Go.ChangeAt Go.RowKit Go.IntWalk
set_option linter.unusedVariables false
section
variable {base : Nat} {w w1 w' : World} {mem : Bool} {A : Option Addr} {t : JT}
theorem JSl.blw (h : JSl (· < base) w mem A t) (b : Below base w w') : JSl (· < base) w' mem A t :=
  h.stay (fun b' o hb => b.cell (p := ⟨b', o, none⟩) hb) (fun _ h => h)
theorem JSl.el (P : Nat → Prop) (h : JSl P w false A t) {i : Nat} (hi : i < t.ext) : ∃ b o A1 nl cl B1 nm cm, A = some ⟨b, o, none⟩ ∧ P b ∧ b < w.heap.size ∧
    w.cell? ⟨b, o + i * 6, none⟩ = some (.int .i64 (t.fall i).val.kd) ∧ w.cell? ⟨b, o + i * 6 + 1, none⟩ = some (.bool (t.fall i).val.is) ∧ w.cell? ⟨b, o + i * 6 + 2, none⟩ = some (.int .i64 (t.fall i).val.n) ∧
    w.cell? ⟨b, o + i * 6 + 3, none⟩ = some (.string ⟨(t.fall i).val.s.toArray⟩) ∧ w.cell? ⟨b, o + i * 6 + 4, none⟩ = some (.slice A1 nl cl) ∧ w.cell? ⟨b, o + i * 6 + 5, none⟩ = some (.slice B1 nm cm) ∧
    Room nl cl (t.fall i).val.l.ext ∧ Room nm cm (t.fall i).val.m.ext ∧ JSl P w false A1 (t.fall i).val.l ∧ JSl P w true B1 (t.fall i).val.m ∧ Fit (t.fall i).val.kd (t.fall i).val.n (t.fall i).val.s := by
  obtain ⟨b, o, e, hP, hb, _, cs, hr, A1, nl, cl, B1, nm, cm, rfl, h1, h2, h3, h4, h5⟩ := h.at_ hi
  exact ⟨b, o, A1, nl, cl, B1, nm, cm, e, hP, hb, hr 0 _ rfl, hr 1 _ rfl, hr 2 _ rfl, hr 3 _ rfl, hr 4 _ rfl, hr 5 _ rfl, h1, h2, h3, h4, h5⟩
theorem JSl.mb (P : Nat → Prop) (h : JSl P w true A t) {i : Nat} (hi : i < t.ext) : ∃ b o A1 nl cl B1 nm cm, A = some ⟨b, o, none⟩ ∧ P b ∧ b < w.heap.size ∧
    w.cell? ⟨b, o + i * 7, none⟩ = some (.string ⟨(t.fall i).key.toArray⟩) ∧ (t.fall i).key.length ≤ 140737488355328 ∧
    w.cell? ⟨b, o + i * 7 + 1, none⟩ = some (.int .i64 (t.fall i).val.kd) ∧ w.cell? ⟨b, o + i * 7 + 2, none⟩ = some (.bool (t.fall i).val.is) ∧ w.cell? ⟨b, o + i * 7 + 3, none⟩ = some (.int .i64 (t.fall i).val.n) ∧
    w.cell? ⟨b, o + i * 7 + 4, none⟩ = some (.string ⟨(t.fall i).val.s.toArray⟩) ∧ w.cell? ⟨b, o + i * 7 + 5, none⟩ = some (.slice A1 nl cl) ∧ w.cell? ⟨b, o + i * 7 + 6, none⟩ = some (.slice B1 nm cm) ∧
    Room nl cl (t.fall i).val.l.ext ∧ Room nm cm (t.fall i).val.m.ext ∧ JSl P w false A1 (t.fall i).val.l ∧ JSl P w true B1 (t.fall i).val.m ∧ Fit (t.fall i).val.kd (t.fall i).val.n (t.fall i).val.s := by
  obtain ⟨b, o, e, hP, hb, hk, cs, hr, A1, nl, cl, B1, nm, cm, rfl, h1, h2, h3, h4, h5⟩ := h.at_ hi
  exact ⟨b, o, A1, nl, cl, B1, nm, cm, e, hP, hb, hk.1, hk.2, hr 0 _ rfl, hr 1 _ rfl, hr 2 _ rfl, hr 3 _ rfl, hr 4 _ rfl, hr 5 _ rfl, h1, h2, h3, h4, h5⟩
end
theorem JSl.up {w w' : World} {mem : Bool} {A : Option Addr} {t : JT} (h : JSl (· < w.heap.size) w mem A t) (b : Below w.heap.size w w') : JSl (· < w'.heap.size) w' mem A t :=
  h.stay (fun b' o hb => b.cell (p := ⟨b', o, none⟩) hb) (fun x hx => Nat.lt_of_lt_of_le hx b.size)
end Go.Proofs.YtajkgcmopmpihaaGreatDoor
