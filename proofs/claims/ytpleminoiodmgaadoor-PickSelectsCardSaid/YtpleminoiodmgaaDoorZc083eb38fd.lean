/- Texts put together: SpA Str Sv Cb PkA PkM PkB PnB. -/
import Derived.Test.YtpleminoiodmgaaDoorZ99228b509f
import Derived.Test.YtpleminoiodmgaaDoorZba90169528
import Derived.Lib.AppendStr
import Derived.Lib.ConvBytes
import Derived.Laws.IdiomCopy
import Derived.WalkKit
import Derived.Lib.Bytealg
import Derived.Deep.Slices
import Derived.Deep.Strs
import Derived.Test.YtpleminoiodmgaaDoorShelf
import Derived.Shelf.SlSortCmp.NoneTotal
namespace Go.Proofs.YtpleminoiodmgaaDoor
open Go.ChangeShapes Go.WideShapes Go.ChangeAt Go.RowKit Go.IntWalk
set_option linter.unusedVariables false

def u8c (bs : List UInt8) : List Value := bs.map fun c => Value.int .u8 (c.toNat : Int)
theorem u8c_len (bs : List UInt8) : (u8c bs).length = bs.length := by simp [u8c]
theorem u8c_app (xs ys : List UInt8) : u8c xs ++ u8c ys = u8c (xs ++ ys) := by simp [u8c]
theorem u8c_take (bs : List UInt8) (n : Nat) : (u8c bs).take n = u8c (bs.take n) := by simp [u8c, List.map_take]
/-- A slice of one's own; of its row no cell is frozen. -/
def OwnF (base : Nat) (w : World) (v : Value) (bs : List UInt8) : Prop :=
  (v = .slice none 0 0 ∧ bs = []) ∨
  ∃ g cap cur fz, v = .slice (some ⟨g, 0, none⟩) bs.length cap ∧ base ≤ g ∧ w.heap[g]? = some (.cells cur 5 fz) ∧ (fz.2 = 0 ∨ cap ≤ fz.1) ∧ bs.length ≤ cap ∧ cap ≤ maxLen ∧ cur.size = cap ∧ cur.toList.take bs.length = u8c bs
section
variable {base : Nat} {w w' : World} {v : Value} {bs : List UInt8}
theorem OwnF.lt (h : OwnF base w v bs) : ∀ k, v.ownBlock = some k → base ≤ k ∧ k < w.heap.size := by
  intro k hk
  rcases h with ⟨rfl, _⟩ | ⟨g, cap, cur, fz, rfl, hb, hh, _⟩
  · cases hk
  · simp only [Value.ownBlock, Option.some.injEq] at hk
    subst hk
    exact ⟨hb, (Array.getElem?_eq_some_iff.1 hh).1⟩
theorem OwnF.stay (h : OwnF base w v bs) (hk : ∀ k, v.ownBlock = some k → w'.heap[k]? = w.heap[k]?) : OwnF base w' v bs := by
  rcases h with h | ⟨g, cap, cur, fz, rfl, hb, hh, r⟩
  · exact .inl h
  · exact .inr ⟨g, cap, cur, fz, rfl, hb, (hk g rfl).trans hh, r⟩
theorem OwnF.below (h : OwnF base w v bs) (b : Below w.heap.size w w') : OwnF base w' v bs := h.stay fun k hk => b.block k (h.lt k hk).2
theorem OwnF.form (h : OwnF base w v bs) : ∃ A n cap, v = .slice A n cap ∧ RB w A bs ∧ Hid (n = bs.length) ∧ n ≤ cap := by
  rcases h with ⟨rfl, rfl⟩ | ⟨g, cap, cur, fz, rfl, hb, hh, hf, hn, hm, hs, ht⟩
  · exact ⟨none, 0, 0, rfl, fun k hk => absurd hk (by simp), Lib.hid rfl, Nat.le_refl _⟩
  · refine ⟨_, _, _, rfl, fun k hk => ⟨g, 0, rfl, (Array.getElem?_eq_some_iff.1 hh).1, ?_⟩, Lib.hid rfl, hn⟩
    rw [Nat.zero_add, cell_of_row w g k cur _ fz hh]
    have h1 : (u8c bs)[k]? = some (.int .u8 ((bs.getD k 0).toNat : Int)) := by simp [u8c, List.getD, hk]
    rw [← ht, List.getElem?_take, if_pos hk] at h1
    simpa using h1
theorem OwnF.of_own (h : OwnBs base w v bs) : OwnF base w v bs := by
  rcases h.2 with ⟨rfl, h0⟩ | ⟨g, cap, cur, rfl, hb, hh, hn, hm, hs, ht⟩
  · exact .inl ⟨rfl, List.eq_nil_of_length_eq_zero h0⟩
  · exact .inr ⟨g, cap, cur, (0, 0), rfl, hb, hh, .inl rfl, hn, hm, by simpa using hs, by simpa [u8c] using ht⟩
/-- Cut short. -/
theorem OwnF.take {A : Option Addr} {n cap : Nat} (h : OwnF base w (.slice A n cap) bs) (k : Nat) (hk : k ≤ bs.length) : OwnF base w (.slice A k cap) (bs.take k) := by
  rcases h with ⟨h1, rfl⟩ | ⟨g, cap, cur, fz, h1, hb, hh, hf, hn, hm, hs, ht⟩
  · cases h1
    have : k = 0 := by simpa using hk
    subst this
    exact .inl ⟨rfl, rfl⟩
  · cases h1
    have hl : (bs.take k).length = k := by rw [List.length_take]; omega
    refine .inr ⟨g, cap, cur, fz, by rw [hl], hb, hh, hf, by omega, hm, hs, ?_⟩
    rw [hl, ← u8c_take, ← ht, List.take_take, Nat.min_eq_left hk]
/-- What '[]byte(s)' leaves. -/
theorem own_conv (w : World) (bs : List UInt8) (hl : bs.length ≤ 70368744177664) : ∃ v w', (convert 9 74 (.string ⟨bs.toArray⟩)).run Tryd.prog w = .ok v w' ∧ OwnF w.heap.size w' v bs ∧ Below w.heap.size w w' := by
  refine ⟨_, _, Lib.run_convert_string_bytes w _ _ 5 ⟨bs.toArray⟩ Tryd.underlying9 Tryd.underlying74 Tryd.underlying5, ?_, ?_⟩
  · have hsz : (⟨bs.toArray⟩ : ByteArray).size = bs.length := rfl
    have hge := grownCap_ge w bs.length 0 5
    have hcs : (Lib.bytesCells w 5 ⟨bs.toArray⟩).size = grownCap w bs.length 0 5 := by
      simp only [Lib.bytesCells, Array.size_append, Array.size_map, Array.size_replicate, hsz]
      simp
      omega
    refine .inr ⟨w.heap.size, grownCap w bs.length 0 5, _, _, rfl, Nat.le_refl _, Lib.bytesWorld_at_new w _ _, .inr (by rw [hcs]; exact Nat.le_refl _), hge, grownCap_le_maxLen w _ _ _ (by unfold maxLen; omega), hcs, ?_⟩
    simp [Lib.bytesCells, u8c]
  · refine ⟨?_, ?_, ?_, ?_, fun k hk => Lib.bytesWorld_at_old w _ _ k hk⟩
    all_goals simp [Lib.bytesWorld, World.freeze, World.alloc, World.drew, -World.alloc_eq, -World.drew_eq]
/-- 'append(own, text...)'. -/
theorem run_append_text (w : World) (base : Nat) (ty : TypeId) (v : Value) (bs : List UInt8) (hown : OwnF base w v bs) (l : List UInt8) (hlen : bs.length + l.length ≤ 70368744177664) (hbase : base ≤ w.heap.size) :
    ∃ v' w', (Builtin.append_ #[74, 9] ty #[v, .string ⟨l.toArray⟩]).run Tryd.prog w = .ok v' w' ∧ OwnF base w' v' (bs ++ l) ∧ w.grownBy w' v.ownBlock ∧ (v'.ownBlock = v.ownBlock ∨ v'.ownBlock = none ∨ ∃ k, v'.ownBlock = some k ∧ w.heap.size ≤ k) := by
  obtain ⟨i0, hi, hz0, hz1, hz2⟩ := info_parts infoU8
  have hsz : (⟨l.toArray⟩ : ByteArray).size = l.length := rfl
  have hsc : Lib.strCells ⟨l.toArray⟩ = u8c l := rfl
  have ht := Tryd.underlying74
  have hu := Tryd.underlying9
  rcases hown with ⟨rfl, rfl⟩ | ⟨g, cap, cur, fz, rfl, hbg, hg, hf, hnc, hcm, hcs, htake⟩
  · obtain ⟨v', w', h1, h2, h3, h4⟩ := Lib.run_append_own_string (P := Tryd.prog) w w.heap.size 74 9 ty 5 i0 ht hu hi hz0 hz1 hz2 (.slice none 0 0) 0 [] ⟨rfl, .inl ⟨rfl, rfl⟩⟩ ⟨l.toArray⟩ (by rw [hsz]; unfold maxLen; simp at hlen; omega) (by rw [hsz]; simp at hlen; omega) (Nat.le_refl _)
    rw [hsc, hsz, Nat.zero_add, List.nil_append] at h2
    have h5 : OwnBs w.heap.size w' v' l := h2
    refine ⟨v', w', h1, ?_, h3, ?_⟩
    · rcases OwnF.of_own h5 with h | ⟨g, cap, cur, fz, e, hb, r⟩
      · exact .inl h
      · exact .inr ⟨g, cap, cur, fz, e, by omega, r⟩
    · cases ho : v'.ownBlock with
      | none => exact .inr (.inl rfl)
      | some k => exact .inr (.inr ⟨k, rfl, (h5.lt k ho).1⟩)
  · by_cases hroom : bs.length + l.length ≤ cap
    · have hcell : ∀ j, j < (u8c l).length → (w.cell? ⟨g, bs.length + 0 + j, none⟩).isSome = true := fun j hj => by
        rw [u8c_len] at hj
        rw [cell_of_row w g _ cur _ fz hg]
        simp
        omega
      have hfro : ∀ j, j < (u8c l).length → w.frozen? ⟨g, bs.length + 0 + j, none⟩ = false := fun j hj => by
        rw [u8c_len] at hj
        obtain ⟨lo, hi'⟩ := fz
        simp only [World.frozen?, hg, Bool.and_eq_false_iff, decide_eq_false_iff_not]
        simp only at hf
        omega
      have hst := run_storeCells_cells (P := Tryd.prog) g bs.length (u8c l) 0 w hcell hfro (fun u hu => by
        obtain ⟨y, _, rfl⟩ := List.mem_map.1 hu
        rfl)
      have hfc := Lib.run_firstCells_string (P := Tryd.prog) w 1 ⟨l.toArray⟩
      rw [Nat.add_zero] at hst
      rw [hsc, hsz] at hfc
      have hrun : (Builtin.append_ #[74, 9] ty #[.slice (some ⟨g, 0, none⟩) bs.length cap, .string ⟨l.toArray⟩]).run Tryd.prog w = .ok (.slice (some ⟨g, 0, none⟩) (bs.length + l.length) cap) (w.setCells g bs.length (u8c l)) := by
        simp [Builtin.append_, run_underlying ht, run_underlying hu, sizeOf, typeInfo, hi, hz1, Builtin.lenOf, hsz, hroom, hfc, Addr.add_lit, hst]
      have hrow := blkSetCells (u8c l) bs.length w cur.toList (by simpa using hg) (by rw [u8c_len]; simp; omega)
      refine ⟨_, _, hrun, .inr ⟨g, cap, _, fz, by rw [List.length_append], hbg, hrow, hf, by rw [List.length_append]; exact hroom, hcm, ?_, ?_⟩, gb_setCells g _ _ _, .inl rfl⟩
      · simp only [List.size_toArray, List.length_append, List.length_take, List.length_drop, Array.length_toList, u8c_len]
        omega
      · rw [htake, u8c_app]
        show List.take _ (u8c (bs ++ l) ++ _) = _
        exact List.take_left' (u8c_len _)
    · have holds : ∀ j u, (u8c bs)[j]? = some u → w.cell? ((⟨g, 0, none⟩ : Addr).add j) = some u := fun j u hj => by
        have hadd : (⟨g, 0, none⟩ : Addr).add j = ⟨g, j, none⟩ := by unfold Addr.add; split <;> simp_all
        rw [hadd, cell_of_row w g j cur _ fz hg]
        rw [← htake, List.getElem?_take] at hj
        split at hj
        · simpa using hj
        · cases hj
      have hr := Lib.run_append_grow_string (P := Tryd.prog) w 74 9 ty 5 i0 (.int .u8 0) ht hu hi hz0 ⟨g, 0, none⟩ bs.length cap (u8c bs) (by rw [hz1, u8c_len, Nat.mul_one]) holds ⟨l.toArray⟩ (by rw [hsz]; omega) (by rw [hsz]; omega) (by rw [hz2]; exact growslice_fits (by rw [hsz]; omega) (by rw [hsz]; omega))
      rw [hsz, hsc] at hr
      have hge := grownCap_ge w (bs.length + l.length) cap 5
      have hcm2 : grownCap w (bs.length + l.length) cap 5 ≤ maxLen := grownCap_le_maxLen w (bs.length + l.length) cap 5 (by unfold maxLen; omega)
      refine ⟨_, _, hr, .inr ⟨w.heap.size, _, _, (0, 0), by rw [List.length_append], hbase, heap_alloc_new w.drew _, .inl rfl, by rw [List.length_append]; exact hge, hcm2, ?_, ?_⟩, ⟨rfl, rfl, rfl, by simp, fun k hk _ => heap_alloc_old w.drew _ hk⟩, .inr (.inr ⟨_, rfl, Nat.le_refl _⟩)⟩
      · have hz1 : (Value.int IntKind.u8 0).cells.size = 1 := rfl
        simp only [Array.size_append, List.size_toArray, size_zeroCells, hz1, u8c_len]
        omega
      · simp only [Array.toList_append]
        rw [u8c_app]
        exact List.take_left' (u8c_len _)
theorem wpList_append_text {ops : Array Oper} {rest : List Oper} {o : Oper} {a : Act} {Q : Exit → Act → World → Prop} {w : World} (hgd : o.guard = none) (s x : Operand)
    (ho : o.op = .call { callee := .builtin .append, args := #[s, x], argTypes := #[74, 9] })
    (base : Nat) (v : Value) (bs : List UInt8) (hs : a.eval s = v) (hown : OwnF base w v bs) (l : List UInt8) (hx : a.eval x = .string ⟨l.toArray⟩) (hlen : bs.length + l.length ≤ 70368744177664) (hbase : base ≤ w.heap.size)
    (h : ∀ v' w', OwnF base w' v' (bs ++ l) → w.grownBy w' v.ownBlock → (v'.ownBlock = v.ownBlock ∨ v'.ownBlock = none ∨ ∃ k, v'.ownBlock = some k ∧ w.heap.size ≤ k) → wpList Tryd.prog ops Q rest (a.put o.dst v') w') :
    wpList Tryd.prog ops Q (o :: rest) a w := by
  refine wpList_plain hgd fun K hK => ?_
  obtain ⟨v', w', hr, h2, h3, h4⟩ := run_append_text w base o.type v bs hown l hlen hbase
  unfold Oper.wp execOp
  simp only [ho, resolve, invoke, builtin, Sem.run_bind, Sem.run_pure, Result.andThen_ok, List.map_toArray, List.map_cons, List.map_nil, hs, hx, hr]
  exact hK _ _ (h v' w' h2 h3 h4)
end
end Go.Proofs.YtpleminoiodmgaaDoor
namespace Go.Proofs.YtpleminoiodmgaaDoor
open Go.ChangeShapes Go.WideShapes Go.ChangeAt Go.RowKit Go.IntWalk
set_option linter.unusedVariables false

@[go_sem] theorem str_extract (l : List UInt8) (a b : Nat) : (⟨l.toArray⟩ : ByteArray).extract a b = ⟨((l.take b).drop a).toArray⟩ := by
  have h : ((⟨l.toArray⟩ : ByteArray).extract a b).data = ((l.take b).drop a).toArray := by
    simp [ByteArray.data_extract, List.extract_eq_take_drop, List.drop_take]
  exact congrArg ByteArray.mk h
@[go_sem] theorem str_get (l : List UInt8) (i : Nat) (h : i < (⟨l.toArray⟩ : ByteArray).size) : (⟨l.toArray⟩ : ByteArray)[i]'h = l[i]'h := rfl
@[go_sem] theorem str_data (l : List UInt8) : (⟨l.toArray⟩ : ByteArray).data.toList = l := rfl
theorem str_split (s : ByteArray) : ∃ l : List UInt8, s = ⟨l.toArray⟩ ∧ s.size = l.length := ⟨s.data.toList, by simp, rfl⟩
end Go.Proofs.YtpleminoiodmgaaDoor
namespace Go.Proofs.YtpleminoiodmgaaDoor


def strV (l : List UInt8) : Value := .string ⟨l.toArray⟩
end Go.Proofs.YtpleminoiodmgaaDoor
namespace Go.Proofs.YtpleminoiodmgaaDoor
open Go.Lib
set_option linter.unusedVariables false

theorem cb_self : ∀ a : List UInt8, compareBytes a a = 0
  | [] => rfl
  | x :: a => by
    unfold compareBytes
    rw [if_neg (UInt8.lt_irrefl x), if_neg (UInt8.lt_irrefl x)]
    exact cb_self a
theorem cb_eq : ∀ {a b : List UInt8}, compareBytes a b = 0 → a = b
  | [], [], _ => rfl
  | [], _ :: _, h => by simp [compareBytes] at h
  | _ :: _, [], h => by simp [compareBytes] at h
  | x :: a, y :: b, h => by
    unfold compareBytes at h
    split at h
    · simp at h
    · rename_i h1
      split at h
      · simp at h
      · rename_i h2
        have hxy : x = y := UInt8.toNat_inj.1 (by
          have h3 := UInt8.not_lt.1 h1
          have h4 := UInt8.not_lt.1 h2
          rw [UInt8.le_iff_toNat_le] at h3 h4
          omega)
        rw [hxy, cb_eq h]
theorem cb_three : ∀ a b : List UInt8, compareBytes a b = -1 ∨ compareBytes a b = 0 ∨ compareBytes a b = 1
  | [], [] => .inr (.inl rfl)
  | [], _ :: _ => .inl rfl
  | _ :: _, [] => .inr (.inr rfl)
  | x :: a, y :: b => by
    unfold compareBytes
    split
    · exact .inl rfl
    · split
      · exact .inr (.inr rfl)
      · exact cb_three a b
theorem cb_anti : ∀ a b : List UInt8, compareBytes b a = - compareBytes a b
  | [], [] => rfl
  | [], _ :: _ => rfl
  | _ :: _, [] => rfl
  | x :: a, y :: b => by
    unfold compareBytes
    by_cases h1 : x < y
    · have h2 : ¬ y < x := by rw [UInt8.lt_iff_toNat_lt] at *; omega
      rw [if_pos h1, if_neg h2, if_pos h1]; rfl
    · by_cases h2 : y < x
      · rw [if_pos h2, if_neg h1, if_pos h2]
      · rw [if_neg h1, if_neg h2, if_neg h2, if_neg h1]
        exact cb_anti a b
theorem cb_trans : ∀ {a b c : List UInt8}, compareBytes a b = -1 → compareBytes b c = -1 → compareBytes a c = -1
  | [], [], _, h, _ => by simp [compareBytes] at h
  | _, _ :: _, [], _, h => by simp [compareBytes] at h
  | [], _ :: _, _ :: _, _, _ => rfl
  | _ :: _, [], _, h, _ => by simp [compareBytes] at h
  | x :: a, y :: b, z :: c, h1, h2 => by
    unfold compareBytes at h1 h2 ⊢
    have L : ∀ p q : UInt8, p < q ↔ p.toNat < q.toNat := fun p q => UInt8.lt_iff_toNat_lt
    by_cases hxz : x < z
    · rw [if_pos hxz]
    · rw [if_neg hxz]
      split at h1
      · rename_i hxy
        split at h2
        · rename_i hyz; rw [L] at *; omega
        · rename_i hyz
          split at h2
          · simp at h2
          · rename_i hzy; rw [L] at *; omega
      · rename_i hxy
        split at h1
        · simp at h1
        · rename_i hyx
          split at h2
          · rename_i hyz; rw [L] at *; omega
          · rename_i hyz
            split at h2
            · simp at h2
            · rename_i hzy
              rw [if_neg (by rw [L] at *; omega)]
              exact cb_trans h1 h2
/-- '<' of texts. -/
theorem bl_cb : ∀ a b : List UInt8, Op.bytesLess a b = decide (compareBytes a b = -1)
  | [], [] => rfl
  | [], _ :: _ => rfl
  | _ :: _, [] => rfl
  | x :: a, y :: b => by
    have ih := bl_cb a b
    unfold Op.bytesLess compareBytes
    by_cases h1 : x < y
    · rw [if_pos h1]; simp [h1]
    · rw [if_neg h1]
      by_cases h2 : y < x
      · rw [if_pos h2]
        have h3 : x ≠ y := by intro e; subst e; exact UInt8.lt_irrefl _ h2
        simp [h1, h3]
      · rw [if_neg h2, ← ih]
        have hxy : x = y := UInt8.toNat_inj.1 (by
          have h3 := UInt8.not_lt.1 h1
          have h4 := UInt8.not_lt.1 h2
          rw [UInt8.le_iff_toNat_le] at h3 h4
          omega)
        simp [hxy]
/-- A pair. -/
abbrev Pr := List UInt8 × List UInt8
/-- How two pairs stand. -/
def cmpP (p q : Pr) : Int := if compareBytes p.1 q.1 = 0 then compareBytes p.2 q.2 else compareBytes p.1 q.1
theorem cmpP_three (p q : Pr) : cmpP p q = -1 ∨ cmpP p q = 0 ∨ cmpP p q = 1 := by
  unfold cmpP; split
  · exact cb_three _ _
  · exact cb_three _ _
theorem cmpP_self (p : Pr) : cmpP p p = 0 := by unfold cmpP; rw [if_pos (cb_self _)]; exact cb_self _
theorem cmpP_eq {p q : Pr} (h : cmpP p q = 0) : p = q := by
  unfold cmpP at h
  split at h
  · rename_i h1; exact Prod.ext (cb_eq h1) (cb_eq h)
  · rename_i h1; exact absurd h h1
theorem cmpP_anti (p q : Pr) : cmpP q p = - cmpP p q := by
  unfold cmpP
  rw [cb_anti p.1 q.1, cb_anti p.2 q.2]
  by_cases h : compareBytes p.1 q.1 = 0
  · rw [if_pos h, if_pos (by omega)]
  · rw [if_neg h, if_neg (by omega)]
theorem cmpP_trans {p q r : Pr} (h1 : cmpP p q = -1) (h2 : cmpP q r = -1) : cmpP p r = -1 := by
  unfold cmpP at *
  split at h1
  · rename_i e1
    have := cb_eq e1
    rw [this]
    split at h2
    · rename_i e2; rw [if_pos e2]; exact cb_trans h1 h2
    · rename_i e2; rw [if_neg e2]; exact h2
  · rename_i e1
    split at h2
    · rename_i e2
      have := cb_eq e2
      rw [← this, if_neg e1]; exact h1
    · rename_i e2
      have := cb_trans h1 h2
      rw [if_neg (by omega)]; exact this
/-- A slot of a state. -/
structure Slt where
  t : List UInt8
  k : List UInt8
  i : List UInt8
def Slt.pr (s : Slt) : Pr := (s.t, s.k)
/-- By rising pairs, each once. -/
def Rise (l : List Slt) : Prop := l.Pairwise fun a b => cmpP a.pr b.pr = -1
/-- How many stand below a pair. -/
def posF (l : List Slt) (p : Pr) : Nat := (l.takeWhile fun s => decide (cmpP s.pr p = -1)).length
theorem posF_le (l : List Slt) (p : Pr) : posF l p ≤ l.length := (List.takeWhile_sublist _).length_le
theorem rise_at {l : List Slt} (h : Rise l) {i j : Nat} (hi : i < j) (hj : j < l.length) : cmpP (l[i]).pr (l[j]).pr = -1 := List.pairwise_iff_getElem.1 h i j (by omega) hj hi
theorem posF_low : ∀ (l : List Slt) (p : Pr) (i : Nat) (h : i < l.length), i < posF l p → cmpP (l[i]).pr p = -1
  | [], _, _, h, _ => absurd h (by simp)
  | s :: l, p, i, h, hi => by
    unfold posF at hi
    by_cases hs : cmpP s.pr p = -1
    · rw [List.takeWhile_cons_of_pos (by simp [hs])] at hi
      cases i with
      | zero => exact hs
      | succ i => exact posF_low l p i (by simpa using h) (by unfold posF; simpa using hi)
    · rw [List.takeWhile_cons_of_neg (by simp [hs])] at hi
      simp at hi
theorem posF_high : ∀ {l : List Slt} (_ : Rise l) (p : Pr) (i : Nat) (h : i < l.length), posF l p ≤ i → cmpP (l[i]).pr p ≠ -1
  | [], _, _, _, h, _ => absurd h (by simp)
  | s :: l, hr, p, i, h, hi => by
    unfold posF at hi
    by_cases hs : cmpP s.pr p = -1
    · rw [List.takeWhile_cons_of_pos (by simp [hs])] at hi
      cases i with
      | zero => simp at hi
      | succ i =>
        have := posF_high (List.Pairwise.of_cons hr) p i (by simpa using h) (by unfold posF; simpa using hi)
        simpa using this
    · cases i with
      | zero => exact hs
      | succ i =>
        intro e
        have h1 := (List.pairwise_cons.1 hr).1 (l[i]'(by simpa using h)) (List.getElem_mem _)
        exact hs (cmpP_trans h1 (by simpa using e))
/-- The least place from which on nothing stands below p is where p is, or belongs. -/
theorem posF_uniq {l : List Slt} (hr : Rise l) (p : Pr) (i : Nat) (hi : i ≤ l.length) (h1 : ∀ j, ∀ h : j < l.length, j < i → cmpP (l[j]).pr p = -1) (h2 : ∀ j, ∀ h : j < l.length, i ≤ j → cmpP (l[j]).pr p ≠ -1) : i = posF l p := by
  rcases Nat.lt_trichotomy i (posF l p) with h | h | h
  · have := posF_le l p
    exact absurd (posF_low l p i (by omega) h) (h2 i (by omega) (Nat.le_refl _))
  · exact h
  · exact absurd (h1 (posF l p) (by omega) h) (posF_high hr p _ (by omega) (Nat.le_refl _))
def foundF (l : List Slt) (p : Pr) : Bool := match l[posF l p]? with
  | some s => decide (cmpP s.pr p = 0)
  | none => false
end Go.Proofs.YtpleminoiodmgaaDoor
namespace Go.Proofs.YtpleminoiodmgaaDoor
open Go.Lib
set_option linter.unusedVariables false

/-- A pair's name. -/
def getF (l : List Slt) (p : Pr) : List UInt8 × Bool := match l.find? fun s => decide (s.pr = p) with
  | some s => (s.i, true)
  | none => ([], false)
/-- With a slot. -/
def putSl (l : List Slt) (s : Slt) : List Slt := (l.filter fun x => decide (cmpP x.pr s.pr = -1)) ++ s :: l.filter fun x => decide (cmpP s.pr x.pr = -1)
theorem split_pos {l : List Slt} (hr : Rise l) (p : Pr) : (l.filter fun x => decide (cmpP x.pr p = -1)) = l.take (posF l p) ∧
    (l.filter fun x => decide (cmpP p x.pr = -1)) = l.drop (posF l p + (if foundF l p then 1 else 0)) := by
  induction l with
  | nil => simp [posF, foundF]
  | cons s l ih =>
    obtain ⟨h1, h2⟩ := ih (List.Pairwise.of_cons hr)
    have hall := (List.pairwise_cons.1 hr).1
    by_cases hs : cmpP s.pr p = -1
    · have hps : cmpP p s.pr ≠ -1 := by rw [cmpP_anti s.pr p, hs]; decide
      have e : posF (s :: l) p = posF l p + 1 := by unfold posF; rw [List.takeWhile_cons_of_pos (by simp [hs])]; simp
      have f : foundF (s :: l) p = foundF l p := by unfold foundF; rw [e]; simp
      rw [List.filter_cons_of_pos (by simp [hs]), List.filter_cons_of_neg (by simp [hps]), h1, h2, e, f]
      refine ⟨by simp, ?_⟩
      rw [show posF l p + 1 + (if foundF l p = true then 1 else 0) = (posF l p + (if foundF l p = true then 1 else 0)) + 1 by omega]
      simp
    · have e : posF (s :: l) p = 0 := by unfold posF; rw [List.takeWhile_cons_of_neg (by simp [hs])]; rfl
      have hlow : ∀ x ∈ l, cmpP x.pr p ≠ -1 := fun x hx h => hs (cmpP_trans (hall x hx) h)
      have hhigh : ∀ x ∈ l, cmpP p x.pr = -1 := fun x hx => by
        have h3 := hall x hx
        rcases cmpP_three s.pr p with h | h | h
        · exact absurd h hs
        · rw [← cmpP_eq h]; exact h3
        · exact cmpP_trans (by rw [cmpP_anti s.pr p, h]) h3
      have hfl : (l.filter fun x => decide (cmpP p x.pr = -1)) = l := List.filter_eq_self.2 (fun x hx => by simp [hhigh x hx])
      rw [e]
      refine ⟨?_, ?_⟩
      · rw [List.take_zero, List.filter_eq_nil_iff]
        intro x hx
        rcases List.mem_cons.1 hx with rfl | hx
        · simp [hs]
        · simp [hlow x hx]
      · rcases cmpP_three s.pr p with h | h | h
        · exact absurd h hs
        · have hf : foundF (s :: l) p = true := by unfold foundF; rw [e]; simp [h]
          rw [List.filter_cons_of_neg (by rw [cmpP_anti s.pr p, h]; decide), hfl, hf]; simp
        · have hf : foundF (s :: l) p = false := by unfold foundF; rw [e]; simp [h]
          rw [List.filter_cons_of_pos (by rw [cmpP_anti s.pr p, h]; decide), hfl, hf]; simp
theorem putSl_split {l : List Slt} (hr : Rise l) (s : Slt) : putSl l s = l.take (posF l s.pr) ++ s :: l.drop (posF l s.pr + (if foundF l s.pr then 1 else 0)) := by
  unfold putSl
  rw [(split_pos hr s.pr).1, (split_pos hr s.pr).2]
theorem putSl_rise {l : List Slt} (hr : Rise l) (s : Slt) : Rise (putSl l s) := by
  unfold Rise putSl
  rw [List.pairwise_append]
  refine ⟨List.Pairwise.filter _ hr, ?_, ?_⟩
  · rw [List.pairwise_cons]
    refine ⟨fun x hx => ?_, List.Pairwise.filter _ hr⟩
    have := (List.mem_filter.1 hx).2
    simpa using this
  · intro a ha b hb
    have h1 : cmpP a.pr s.pr = -1 := by simpa using (List.mem_filter.1 ha).2
    rcases List.mem_cons.1 hb with rfl | hb
    · exact h1
    · have h2 : cmpP s.pr b.pr = -1 := by simpa using (List.mem_filter.1 hb).2
      exact cmpP_trans h1 h2
theorem getF_pos {l : List Slt} (hr : Rise l) (p : Pr) : getF l p = if foundF l p then (((l[posF l p]?).map (·.i)).getD [], true) else ([], false) := by
  induction l with
  | nil => rfl
  | cons s l ih =>
    have ih := ih (List.Pairwise.of_cons hr)
    have hall := (List.pairwise_cons.1 hr).1
    by_cases hs : cmpP s.pr p = -1
    · have e : posF (s :: l) p = posF l p + 1 := by unfold posF; rw [List.takeWhile_cons_of_pos (by simp [hs])]; simp
      have f : foundF (s :: l) p = foundF l p := by unfold foundF; rw [e]; simp
      have hne : ¬ s.pr = p := by intro h; rw [h, cmpP_self] at hs; exact absurd hs (by decide)
      have g : getF (s :: l) p = getF l p := by unfold getF; rw [List.find?_cons_of_neg (by simp [hne])]
      rw [g, ih, f, e]
      simp
    · have e : posF (s :: l) p = 0 := by unfold posF; rw [List.takeWhile_cons_of_neg (by simp [hs])]; rfl
      rcases cmpP_three s.pr p with h | h | h
      · exact absurd h hs
      · have hf : foundF (s :: l) p = true := by unfold foundF; rw [e]; simp [h]
        have heq := cmpP_eq h
        rw [hf, e]
        unfold getF
        rw [List.find?_cons_of_pos (by simp [heq])]
        simp
      · have hf : foundF (s :: l) p = false := by unfold foundF; rw [e]; simp [h]
        rw [hf]
        unfold getF
        have hno : (s :: l).find? (fun x => decide (x.pr = p)) = none := by
          rw [List.find?_eq_none]
          intro x hx
          have hps : cmpP p s.pr = -1 := by rw [cmpP_anti s.pr p, h]
          rcases List.mem_cons.1 hx with rfl | hx
          · simp; intro e2; rw [e2, cmpP_self] at h; exact absurd h (by decide)
          · simp; intro e2
            have h5 := cmpP_trans hps (hall x hx)
            rw [e2, cmpP_self] at h5
            exact absurd h5 (by decide)
        rw [hno]; rfl
end Go.Proofs.YtpleminoiodmgaaDoor
namespace Go.Proofs.YtpleminoiodmgaaDoor
open Go.ChangeShapes Go.WideShapes Go.ChangeAt Go.RowKit
set_option linter.unusedVariables false

def Slt.cells (s : Slt) : List Value := [strV s.t, strV s.k, strV s.i]
def Slt.ok (s : Slt) : Prop := s.t.length ≤ 140737488355328 ∧ s.k.length ≤ 140737488355328 ∧ s.i.length ≤ 140737488355328
/-- A slot, a pair by value. -/
def Slt.val (s : Slt) : Value := .agg #[.string ⟨s.t.toArray⟩, .string ⟨s.k.toArray⟩, .string ⟨s.i.toArray⟩]
def prV (p : Pr) : Value := .agg #[.string ⟨p.1.toArray⟩, .string ⟨p.2.toArray⟩]
def slC (l : List Slt) : List Value := l.flatMap Slt.cells
theorem slC_cons (s : Slt) (l : List Slt) : slC (s :: l) = s.cells ++ slC l := rfl
theorem slC_app (l m : List Slt) : slC (l ++ m) = slC l ++ slC m := List.flatMap_append
theorem slC_len : ∀ l : List Slt, (slC l).length = l.length * 3
  | [] => rfl
  | s :: l => by rw [slC_cons, List.length_append, slC_len l, List.length_cons]; show 3 + _ = _; omega
theorem slC_get : ∀ {l : List Slt} {i j : Nat} (hi : i < l.length) (hj : j < 3), (slC l)[i * 3 + j]? = (l[i]).cells[j]?
  | s :: l, 0, j, hi, hj => by rw [slC_cons, List.getElem?_append_left (by show _ < 3; omega)]; simp
  | s :: l, i + 1, j, hi, hj => by
    rw [slC_cons, List.getElem?_append_right (by show 3 ≤ _; omega), show (i + 1) * 3 + j - s.cells.length = i * 3 + j by show _ - 3 = _; omega, slC_get (by simpa using hi) hj]; rfl
theorem slC_of {l : List Slt} {q : Nat} {v : Value} (h : (slC l)[q]? = some v) : ∃ i j, ∃ hi : i < l.length, j < 3 ∧ q = i * 3 + j ∧ (l[i]).cells[j]? = some v := by
  have hq : q < (slC l).length := (List.getElem?_eq_some_iff.1 h).1
  rw [slC_len] at hq
  have hi : q / 3 < l.length := by omega
  refine ⟨q / 3, q % 3, hi, by omega, by omega, ?_⟩
  rw [← slC_get hi (by omega), show q / 3 * 3 + q % 3 = q by omega]
  exact h
theorem slC_take (l : List Slt) (i : Nat) : (slC l).take (i * 3) = slC (l.take i) := by
  induction l generalizing i with
  | nil => simp [slC]
  | cons s l ih =>
    cases i with
    | zero => simp [slC]
    | succ i =>
      rw [slC_cons, List.take_succ_cons, slC_cons, List.take_append, List.take_of_length_le (by show 3 ≤ _; omega), show (i + 1) * 3 - s.cells.length = i * 3 by show _ - 3 = _; omega, ih]
theorem slC_drop (l : List Slt) (i : Nat) : (slC l).drop (i * 3) = slC (l.drop i) := by
  induction l generalizing i with
  | nil => simp [slC]
  | cons s l ih =>
    cases i with
    | zero => simp
    | succ i =>
      rw [slC_cons, List.drop_succ_cons, List.drop_append, List.drop_of_length_le (by show 3 ≤ _; omega), show (i + 1) * 3 - s.cells.length = i * 3 by show _ - 3 = _; omega, ih]; rfl
theorem slC_one (l : List Slt) : ∀ v ∈ slC l, v.oneCell' = true := by
  intro v hv
  obtain ⟨s, _, hs⟩ := List.mem_flatMap.1 hv
  simp only [Slt.cells, List.mem_cons, List.not_mem_nil, or_false] at hs
  rcases hs with rfl | rfl | rfl <;> rfl
/-- A slot of a slice of slots. -/
theorem slots_at {w : World} {A : Option Addr} {xs : List Slt} (h : RV w A (slC xs)) {k : Nat} (hk : k < xs.length) : ∃ b off, A = some ⟨b, off, none⟩ ∧ b < w.heap.size ∧
    w.cell? ⟨b, off + k * 3, none⟩ = some (.string ⟨(xs[k]).t.toArray⟩) ∧ w.cell? ⟨b, off + k * 3 + 1, none⟩ = some (.string ⟨(xs[k]).k.toArray⟩) ∧ w.cell? ⟨b, off + k * 3 + 2, none⟩ = some (.string ⟨(xs[k]).i.toArray⟩) := by
  obtain ⟨b, off, rfl, hb, h0⟩ := h (k * 3 + 0) (strV (xs[k]).t) (by rw [slC_get hk (by decide)]; rfl)
  obtain ⟨b1, off1, e1, _, h1⟩ := h (k * 3 + 1) (strV (xs[k]).k) (by rw [slC_get hk (by decide)]; rfl)
  obtain ⟨b2, off2, e2, _, h2⟩ := h (k * 3 + 2) (strV (xs[k]).i) (by rw [slC_get hk (by decide)]; rfl)
  injection e1 with e1; injection e1 with e1 e3
  injection e2 with e2; injection e2 with e2 e4
  subst e1; subst e2; subst e3; subst e4
  exact ⟨b, off, rfl, hb, h0, h1, h2⟩
/-- The slice at 'A' reads slots. -/
def Own37 (w : World) (A : Option Addr) (n c : Nat) (xs : List Slt) : Prop := RV w A (slC xs) ∧ Hid (n = xs.length) ∧ n ≤ c ∧ c ≤ 9223372036854775807 ∧ ∀ x ∈ xs, x.ok
abbrev Sls := @Own37
theorem Sls.below {w w' : World} {A : Option Addr} {n c : Nat} {xs : List Slt} (h : Sls w A n c xs) (hb : Below w.heap.size w w') : Sls w' A n c xs := ⟨h.1.below hb, h.2⟩
theorem slots_open {H : Type} {enc : TypeId × Value → H} {w : World} {base : Nat} {held : Bool} {A : Option Addr} {n c : Nat} {d : DataW H} {p : List MemPlace}
    (h : DataW.Trod enc Tryd.prog w base (fun _ => true) held 37 (.slice A n c) d p) (hwt : ∀ q ∈ d.weights Tryd.prog 37, q ≤ reachBytes) : ∃ xs, Own37 w A n c xs := by
  obtain ⟨fuel, hf⟩ := h
  have h4 : Tryd.prog.cellsOf 52 = 3 := by kernel_rfl
  rcases Deep.open_slice Tryd.underlying37 hf with ⟨hcs, _⟩ | ⟨a, len, cap, m, q, D, Pl, hcs, hb, hl, hm, hmm, hx, hall⟩
  · simp [Value.cells] at hcs
    obtain ⟨rfl, rfl, rfl⟩ := hcs
    exact ⟨[], RV.nil _ _, Lib.hid rfl, Nat.le_refl _, by decide, by simp⟩
  · simp [Value.cells] at hcs
    obtain ⟨rfl, rfl, rfl⟩ := hcs
    simp only [if_true] at hmm
    subst hmm
    rw [h4] at hall
    injection hx with hx _
    subst hx
    have hrch : reachBytes < 2 ^ 47 := by decide
    have each : ∀ i, i < n → ∃ y : Slt, y.ok ∧ ∀ j, j < 3 → w.cell? ((a.add (i * 3)).add j) = y.cells[j]? := by
      intro i hi
      obtain ⟨cs, h1, h2⟩ := hall i (by omega)
      obtain ⟨_, hlen, hc⟩ := World.cells?_some h1
      obtain ⟨y0, y1, y2, m4, hD4, _, t0, t1, t2⟩ := Deep.trod_struct3 Tryd.underlying52 h2
      have hcs : Tryd.prog.cellsOf 9 = 1 := by kernel_rfl
      obtain ⟨s0, e0, q0, w0⟩ := DataW.trod_string Tryd.underlying9 t0
      obtain ⟨s1, e1, q1, w1⟩ := DataW.trod_string Tryd.underlying9 t1
      obtain ⟨s2, e2, q2, w2⟩ := DataW.trod_string Tryd.underlying9 t2
      obtain ⟨l0, rfl, hs0⟩ := str_split s0
      obtain ⟨l1, rfl, hs1⟩ := str_split s1
      obtain ⟨l2, rfl, hs2⟩ := str_split s2
      have hin : ∀ L : List UInt8, (L = l0 ∨ L = l1 ∨ L = l2) → L.length ≤ 140737488355328 := by
        intro L hL
        have hin : L.length ∈ (D i).weights Tryd.prog 52 := by
          injection hD4 with hD4 _
          rw [hD4, q0, q1, q2]
          rcases hL with rfl | rfl | rfl <;> simp [DataW.weights, Tryd.underlying52, DataW.weightsEach]
        have key : ∀ (Q : List (DataW H)), D i ∈ Q → L.length ∈ DataW.weightsAll Tryd.prog 52 Q := by
          intro Q
          induction Q with
          | nil => intro h; cases h
          | cons x Q ih =>
            intro h
            simp only [DataW.weightsAll, List.mem_append]
            rcases List.mem_cons.1 h with rfl | h
            · exact .inl hin
            · exact .inr (ih h)
        have h9 := key ((List.range n).map D) (List.mem_map.2 ⟨i, List.mem_range.2 hi, rfl⟩)
        have h8 := hwt L.length (by
          simp only [DataW.weights, Tryd.underlying37, List.mem_cons, List.mem_append]
          exact .inr (.inl h9))
        omega
      dsimp only at e0 e1 e2
      rw [hcs] at e0 e1 e2
      have g : ∀ (k : Nat) (v : Value), (cs.drop k).take 1 = [v] → cs[k]? = some v := fun k v h => by
        have h5 := congrArg (fun q => q[0]?) h
        simpa [List.getElem?_take, List.getElem?_drop] using h5
      refine ⟨⟨l0, l1, l2⟩, ⟨hin _ (.inl rfl), hin _ (.inr (.inl rfl)), hin _ (.inr (.inr rfl))⟩, fun j hj => ?_⟩
      rw [hc j hj]
      obtain rfl | rfl | rfl : j = 0 ∨ j = 1 ∨ j = 2 := by omega
      · exact g 0 _ e0
      · exact g 1 _ e1
      · exact g 2 _ e2
    obtain ⟨y, hy⟩ : ∃ y : Nat → Slt, ∀ i, i < n → (y i).ok ∧ ∀ j, j < 3 → w.cell? ((a.add (i * 3)).add j) = (y i).cells[j]? :=
      ⟨fun i => if hi : i < n then Classical.choose (each i hi) else ⟨[], [], []⟩, fun i hi => by simp only [dif_pos hi]; exact Classical.choose_spec (each i hi)⟩
    refine ⟨(List.range n).map y, fun k v hk => ?_, Lib.hid (by simp), hl, hm, ?_⟩
    · obtain ⟨i, j, hi, hj, rfl, hv⟩ := slC_of hk
      have hi2 : i < n := by simpa using hi
      have eg : ((List.range n).map y)[i] = y i := by simp
      rw [eg] at hv
      obtain ⟨b, off, spot⟩ := a
      have h5 := (hy i hi2).2 j hj
      rw [hv] at h5
      have h00 := (hy 0 (by omega)).2 0 (by decide)
      have hspot : spot = none := by
        have h01 : (y 0).cells[0]? = some (strV (y 0).t) := rfl
        rw [h01] at h00
        simpa [Addr.add] using World.cell?_spot h00
      subst hspot
      have hplain : ((⟨b, off, none⟩ : Addr).add (i * 3)).add j = ⟨b, off + (i * 3 + j), none⟩ := by
        rw [← Nat.add_assoc]; unfold Addr.add; split <;> split <;> simp_all
      rw [hplain] at h5
      exact ⟨b, off, rfl, World.block_lt_of_cell? w _ h5, h5⟩
    · intro x hx
      obtain ⟨i, hi, rfl⟩ := List.mem_map.1 hx
      exact (hy i (List.mem_range.1 hi)).1
end Go.Proofs.YtpleminoiodmgaaDoor
namespace Go.Proofs.YtpleminoiodmgaaDoor
open Go.ChangeShapes Go.WideShapes Go.ChangeAt Go.RowKit Go.IntWalk
set_option linter.unusedVariables false

theorem below2 (w : World) (o1 o2 : Obj) : Below w.heap.size w ((w.alloc o1).alloc o2) := ((Below.refl _ _).alloc (Nat.le_refl _) _).alloc (by simp) _
theorem pairOf_calls (s : Slt) (w : World) : Calls Tryd.prog 57 #[s.val] w fun e w' => e = .returned (prV s.pr) ∧ Below w.heap.size w w' := by
  obtain ⟨t, k, i⟩ := s
  unfold Slt.val
  dsimp only
  go_enter Tryd.func57, Tryd.ntmps57
  go_wp2
  exact bodyPost_ret (v := prV (t, k)) (by simp [results, Tryd.results57, go_sem, prV]) rfl ⟨rfl, below2 _ _ _⟩
theorem of_calls (s : Slt) (w : World) : Calls Tryd.prog 26 #[s.val] w fun e w' => e = .returned (prV s.pr) ∧ Below w.heap.size w w' := by
  obtain ⟨t, k, i⟩ := s
  unfold Slt.val
  dsimp only
  go_enter Tryd.func26, Tryd.ntmps26
  go_wp2
  exact bodyPost_ret (v := prV (t, k)) (by simp [results, Tryd.results26, go_sem, prV]) rfl ⟨rfl, below2 _ _ _⟩
theorem compare_calls (p q : Pr) (w : World) : Calls Tryd.prog 20 #[prV p, prV q] w fun e w' => e = .returned (.int .i64 (cmpP p q)) ∧ Below w.heap.size w w' := by
  obtain ⟨a, b⟩ := p
  obtain ⟨c, d⟩ := q
  unfold prV
  dsimp only
  by_cases h0 : Lib.compareBytes a c = 0
  · have HC : Hid (cmpP (a, b) (c, d) = Lib.compareBytes b d) := Lib.hid (if_pos h0)
    go_enter Tryd.func20, Tryd.ntmps20
    go_wp2_with fail
    refine (Tryd.strings_Compare _ _ _).mono ?_
    rintro e w1 ⟨rfl, rfl⟩
    simp only [str_data, h0]
    go_wp2_with fail
    refine (Tryd.strings_Compare _ _ _).mono ?_
    rintro e w1 ⟨rfl, rfl⟩
    go_wp2_with fail
    go_ret
    exact ⟨by rw [HC.out]; rfl, below2 _ _ _⟩
  · have HC : Hid (cmpP (a, b) (c, d) = Lib.compareBytes a c) := Lib.hid (if_neg h0)
    obtain ⟨z, hz⟩ : ∃ z, Lib.compareBytes a c = z := ⟨_, rfl⟩
    rw [hz] at HC h0
    have ht : (z != 0) = true := by simpa using h0
    have HZ := Lib.hid hz
    clear hz h0
    go_enter Tryd.func20, Tryd.ntmps20
    go_wp2_with fail
    refine (Tryd.strings_Compare _ _ _).mono ?_
    rintro e w1 ⟨rfl, rfl⟩
    simp only [str_data, HZ.out]
    go_wp2_with fail
    go_ret
    exact ⟨by rw [HC.out]; rfl, below2 _ _ _⟩
theorem less_calls (p q : Pr) (w : World) : Calls Tryd.prog 25 #[prV p, prV q] w fun e w' => e = .returned (.bool (decide (cmpP p q = -1))) ∧ Below w.heap.size w w' := by
  obtain ⟨a, b⟩ := p
  obtain ⟨c, d⟩ := q
  unfold prV
  dsimp only
  by_cases h0 : a = c
  · subst h0
    have HC : Hid (decide (cmpP (a, b) (a, d) = -1) = Op.bytesLess b d) := Lib.hid (by rw [bl_cb]; unfold cmpP; rw [if_pos (cb_self a)])
    go_enter Tryd.func25, Tryd.ntmps25
    go_wp2_with fail
    go_ret
    exact ⟨by rw [HC.out]; rfl, below2 _ _ _⟩
  · have HC : Hid (decide (cmpP (a, b) (c, d) = -1) = Op.bytesLess a c) := Lib.hid (by rw [bl_cb]; unfold cmpP; rw [if_neg (fun h => h0 (cb_eq h))])
    have ht : (a == c) = false := by simpa using h0
    go_enter Tryd.func25, Tryd.ntmps25
    go_wp2_with fail
    go_ret
    exact ⟨by rw [HC.out]; rfl, below2 _ _ _⟩
end Go.Proofs.YtpleminoiodmgaaDoor
namespace Go.Proofs.YtpleminoiodmgaaDoor
open Go.ChangeShapes Go.WideShapes Go.ChangeAt Go.RowKit Go.IntWalk
set_option linter.unusedVariables false
set_option maxRecDepth 100000

def encP (p : Pr) : List Value := [strV p.1, strV p.2]
theorem compare_grow (p q : Pr) (w : World) : Calls Tryd.prog 20 #[prV p, prV q] w fun e w' => e = .returned (.int .i64 (cmpP p q)) ∧ ∃ n os, w' = Go.Sort.grow (w.drewN n) os := by
  obtain ⟨a, b⟩ := p
  obtain ⟨c, d⟩ := q
  unfold prV
  dsimp only
  by_cases h0 : Lib.compareBytes a c = 0
  · have HC : Hid (cmpP (a, b) (c, d) = Lib.compareBytes b d) := Lib.hid (if_pos h0)
    go_enter Tryd.func20, Tryd.ntmps20
    go_wp2_with fail
    refine (Tryd.strings_Compare _ _ _).mono ?_
    rintro e w1 ⟨rfl, rfl⟩
    simp only [str_data, h0]
    go_wp2_with fail
    refine (Tryd.strings_Compare _ _ _).mono ?_
    rintro e w1 ⟨rfl, rfl⟩
    go_wp2_with fail
    go_ret
    exact ⟨by rw [HC.out]; rfl, 0, _, by rw [Go.Sort.alloc_eq_grow, Go.Sort.alloc_eq_grow, Go.Sort.grow_grow]; rfl⟩
  · have HC : Hid (cmpP (a, b) (c, d) = Lib.compareBytes a c) := Lib.hid (if_neg h0)
    obtain ⟨z, hz⟩ : ∃ z, Lib.compareBytes a c = z := ⟨_, rfl⟩
    rw [hz] at HC h0
    have ht : (z != 0) = true := by simpa using h0
    have HZ := Lib.hid hz
    clear hz h0
    go_enter Tryd.func20, Tryd.ntmps20
    go_wp2_with fail
    refine (Tryd.strings_Compare _ _ _).mono ?_
    rintro e w1 ⟨rfl, rfl⟩
    simp only [str_data, HZ.out]
    go_wp2_with fail
    go_ret
    exact ⟨by rw [HC.out]; rfl, 0, _, by rw [Go.Sort.alloc_eq_grow, Go.Sort.alloc_eq_grow, Go.Sort.grow_grow]; rfl⟩
theorem lt_cmpP (x y : Pr) : ltOf cmpP x y = decide (cmpP x y = -1) := by
  unfold ltOf
  rcases cmpP_three x y with h | h | h <;> rw [h] <;> rfl
theorem swoP : Go.Sort.SWO (ltOf cmpP) where
  irrefl x := by rw [lt_cmpP, cmpP_self]; rfl
  trans x y z h1 h2 := by
    rw [lt_cmpP, decide_eq_true_eq] at *
    exact cmpP_trans h1 h2
  ntrans x y z h1 h2 := by
    rw [lt_cmpP, decide_eq_false_iff_not] at *
    intro h3
    rcases cmpP_three x y with h | h | h
    · exact h1 h
    · have := cmpP_eq h; subst this; exact h2 h3
    · have h4 : cmpP y x = -1 := by rw [cmpP_anti, h]
      exact h2 (cmpP_trans h4 h3)
theorem totP (x y : Pr) (h1 : ltOf cmpP x y = false) (h2 : ltOf cmpP y x = false) : x = y := by
  rw [lt_cmpP, decide_eq_false_iff_not] at *
  rcases cmpP_three x y with h | h | h
  · exact absurd h h1
  · exact cmpP_eq h
  · exact absurd (by rw [cmpP_anti, h]) h2
/-- Pairs in their order. -/
def sortP (l : List Pr) : List Pr := l.mergeSort fun x y => !ltOf cmpP y x
theorem leP_trans (a b c : Pr) (h1 : (!ltOf cmpP b a) = true) (h2 : (!ltOf cmpP c b) = true) : (!ltOf cmpP c a) = true := by
  rw [Bool.not_eq_true'] at *
  exact swoP.ntrans c b a h2 h1
theorem leP_total (a b : Pr) : ((!ltOf cmpP b a) || (!ltOf cmpP a b)) = true := by
  rw [lt_cmpP, lt_cmpP]
  rcases cmpP_three a b with h | h | h
  · rw [h, cmpP_anti, h]; rfl
  · rw [h, cmpP_anti, h]; rfl
  · rw [h, cmpP_anti, h]; rfl
theorem sortP_eq {l m : List Pr} (hp : l.Perm m) (hs : m.Pairwise fun x y => (!ltOf cmpP y x) = true) : sortP l = m := by
  unfold sortP
  refine List.Perm.eq_of_pairwise (le := fun x y => (!ltOf cmpP y x) = true) (fun a b _ _ h1 h2 => ?_) (List.pairwise_mergeSort leP_trans leP_total l) hs ((List.mergeSort_perm l _).trans hp)
  rw [Bool.not_eq_true'] at h1 h2
  exact totP a b h2 h1
theorem sortW_below {enc : Pr → List Value} {k : Nat} {w : World} {blk off n : Nat} {d : Array Pr} {os : Array Obj} {B : Nat} (h : B ≤ blk) (h2 : blk < w.heap.size) : Below B w (sortWorldK enc k w blk off n d os) := by
  refine ⟨rfl, rfl, rfl, ?_, fun i hi => ?_⟩
  · simp [sortWorldK, Go.Sort.grow, Go.Sort.putRowK, Go.Sort.putRow, Go.Sort.mapBlock, Go.Sort.ahead]
  · unfold sortWorldK Go.Sort.grow Go.Sort.putRowK Go.Sort.putRow Go.Sort.mapBlock Go.Sort.ahead
    show (w.heap.modify blk _ ++ os)[i]? = w.heap[i]?
    by_cases hw : i < w.heap.size
    · rw [Array.getElem?_append_left (by simpa using hw), Array.getElem?_modify, if_neg (by omega)]
    · omega
/-- slices.SortFunc at pairs. -/
theorem sortP_calls (g cap : Nat) (d : Array Pr) (w : World) (hH : Go.Sort.HoldsK encP 2 w g 0 d) (hg : g < w.heap.size) (hd : d.size ≤ 1000000) :
    Calls Tryd.prog 19 #[.slice (some ⟨g, 0, none⟩) d.size cap, .func (.func 20) #[] #[]] w fun e w' =>
      e = .returned (.tuple #[]) ∧ ∃ n os, w' = sortWorldK encP 2 w g 0 n (sortP d.toList).toArray os :=
  AnyQ.slices_SortFunc_total Tryd.sortPr 2 Tryd.isAgg35 Tryd.sizeOf35 encP (fun _ => rfl) (fun x v hv => by
      simp only [encP, List.mem_cons, List.not_mem_nil, or_false] at hv
      rcases hv with rfl | rfl <;> rfl) cmpP swoP 20 #[] g 0 cap d w (enters_of Tryd.func20 (by kernel_rfl) rfl)
    (fun m os dk _ x y => (compare_grow x y _)) hH hg (by omega) totP
/-- .. what lies there behind it. -/
theorem sortP_holds {g n : Nat} {d : Array Pr} {w : World} {os : Array Obj} (hH : Go.Sort.HoldsK encP 2 w g 0 d) (hg : g < w.heap.size) : Go.Sort.HoldsK encP 2 (sortWorldK encP 2 w g 0 n (sortP d.toList).toArray os) g 0 (sortP d.toList).toArray :=
  holdsK_sortWorldK_c encP 2 w g 0 d _ n os hH hg (by simp [sortP])
end Go.Proofs.YtpleminoiodmgaaDoor
