/- Layer 19: bytes of one's own whose row may bear a mark behind its cells, and texts put behind them. -/
import Derived.Test.YtajkgcmopmpihaaDoorOwn
import Derived.Test.YtajkgcmopmpihaaDoorLh
import Derived.Lib.AppendStr
import Derived.Lib.ConvBytes
import Derived.Laws.IdiomCopy
namespace Go.Proofs.YtajkgcmopmpihaaDoor
open Go.ChangeShapes Go.WideShapes Go.ChangeAt Go.RowKit Go.IntWalk
set_option linter.unusedVariables false

def u8c (bs : List UInt8) : List Value := bs.map fun c => Value.int .u8 (c.toNat : Int)
theorem u8c_len (bs : List UInt8) : (u8c bs).length = bs.length := by simp [u8c]
theorem u8c_app (xs ys : List UInt8) : u8c xs ++ u8c ys = u8c (xs ++ ys) := by simp [u8c]
theorem u8c_take (bs : List UInt8) (n : Nat) : (u8c bs).take n = u8c (bs.take n) := by simp [u8c, List.map_take]
/-- A slice of one's own; of its row no cell is frozen. -/
def OwnF (base : Nat) (w : World) (v : Value) (bs : List UInt8) : Prop :=
  (v = .slice none 0 0 ∧ bs = []) ∨
  ∃ g cap cur fz, v = .slice (some ⟨g, 0, none⟩) bs.length cap ∧ base ≤ g ∧ w.heap[g]? = some (.cells cur 5 fz) ∧ (fz.2 = 0 ∨ cap ≤ fz.1) ∧ bs.length ≤ cap ∧ cap ≤ maxLen ∧ cur.size = cap ∧ cur.toList.take bs.length = u8c bs
section
variable {base : Nat} {w w' : World} {v : Value} {bs : List UInt8}
theorem OwnF.lt (h : OwnF base w v bs) : ∀ k, v.ownBlock = some k → base ≤ k ∧ k < w.heap.size := by
  intro k hk
  rcases h with ⟨rfl, _⟩ | ⟨g, cap, cur, fz, rfl, hb, hh, _⟩
  · cases hk
  · simp only [Value.ownBlock, Option.some.injEq] at hk
    subst hk
    exact ⟨hb, (Array.getElem?_eq_some_iff.1 hh).1⟩
theorem OwnF.stay (h : OwnF base w v bs) (hk : ∀ k, v.ownBlock = some k → w'.heap[k]? = w.heap[k]?) : OwnF base w' v bs := by
  rcases h with h | ⟨g, cap, cur, fz, rfl, hb, hh, r⟩
  · exact .inl h
  · exact .inr ⟨g, cap, cur, fz, rfl, hb, (hk g rfl).trans hh, r⟩
theorem OwnF.below (h : OwnF base w v bs) (b : Below w.heap.size w w') : OwnF base w' v bs := h.stay fun k hk => b.block k (h.lt k hk).2
theorem OwnF.form (h : OwnF base w v bs) : ∃ A n cap, v = .slice A n cap ∧ RB w A bs ∧ Hid (n = bs.length) ∧ n ≤ cap := by
  rcases h with ⟨rfl, rfl⟩ | ⟨g, cap, cur, fz, rfl, hb, hh, hf, hn, hm, hs, ht⟩
  · exact ⟨none, 0, 0, rfl, fun k hk => absurd hk (by simp), Lib.hid rfl, Nat.le_refl _⟩
  · refine ⟨_, _, _, rfl, fun k hk => ⟨g, 0, rfl, (Array.getElem?_eq_some_iff.1 hh).1, ?_⟩, Lib.hid rfl, hn⟩
    rw [Nat.zero_add, cell_of_row w g k cur _ fz hh]
    have h1 : (u8c bs)[k]? = some (.int .u8 ((bs.getD k 0).toNat : Int)) := by simp [u8c, List.getD, hk]
    rw [← ht, List.getElem?_take, if_pos hk] at h1
    simpa using h1
theorem OwnF.of_own (h : OwnBs base w v bs) : OwnF base w v bs := by
  rcases h.2 with ⟨rfl, h0⟩ | ⟨g, cap, cur, rfl, hb, hh, hn, hm, hs, ht⟩
  · exact .inl ⟨rfl, List.eq_nil_of_length_eq_zero h0⟩
  · exact .inr ⟨g, cap, cur, (0, 0), rfl, hb, hh, .inl rfl, hn, hm, by simpa using hs, by simpa [u8c] using ht⟩
/-- Cut short. -/
theorem OwnF.take {A : Option Addr} {n cap : Nat} (h : OwnF base w (.slice A n cap) bs) (k : Nat) (hk : k ≤ bs.length) : OwnF base w (.slice A k cap) (bs.take k) := by
  rcases h with ⟨h1, rfl⟩ | ⟨g, cap, cur, fz, h1, hb, hh, hf, hn, hm, hs, ht⟩
  · cases h1
    have : k = 0 := by simpa using hk
    subst this
    exact .inl ⟨rfl, rfl⟩
  · cases h1
    have hl : (bs.take k).length = k := by rw [List.length_take]; omega
    refine .inr ⟨g, cap, cur, fz, by rw [hl], hb, hh, hf, by omega, hm, hs, ?_⟩
    rw [hl, ← u8c_take, ← ht, List.take_take, Nat.min_eq_left hk]
/-- What '[]byte(s)' leaves. -/
theorem own_conv (w : World) (bs : List UInt8) (hl : bs.length ≤ 70368744177664) : ∃ v w', (convert 9 33 (.string ⟨bs.toArray⟩)).run Tryd.prog w = .ok v w' ∧ OwnF w.heap.size w' v bs ∧ Below w.heap.size w w' := by
  refine ⟨_, _, Lib.run_convert_string_bytes w _ _ 5 ⟨bs.toArray⟩ Tryd.underlying9 Tryd.underlying33 Tryd.underlying5, ?_, ?_⟩
  · have hsz : (⟨bs.toArray⟩ : ByteArray).size = bs.length := rfl
    have hge := grownCap_ge w bs.length 0 5
    have hcs : (Lib.bytesCells w 5 ⟨bs.toArray⟩).size = grownCap w bs.length 0 5 := by
      simp only [Lib.bytesCells, Array.size_append, Array.size_map, Array.size_replicate, hsz]
      simp
      omega
    refine .inr ⟨w.heap.size, grownCap w bs.length 0 5, _, _, rfl, Nat.le_refl _, Lib.bytesWorld_at_new w _ _, .inr (by rw [hcs]; exact Nat.le_refl _), hge, grownCap_le_maxLen w _ _ _ (by unfold maxLen; omega), hcs, ?_⟩
    simp [Lib.bytesCells, u8c]
  · refine ⟨?_, ?_, ?_, ?_, fun k hk => Lib.bytesWorld_at_old w _ _ k hk⟩
    all_goals simp [Lib.bytesWorld, World.freeze, World.alloc, World.drew, -World.alloc_eq, -World.drew_eq]
/-- 'append(own, text...)'. -/
theorem run_append_text (w : World) (base : Nat) (ty : TypeId) (v : Value) (bs : List UInt8) (hown : OwnF base w v bs) (l : List UInt8) (hlen : bs.length + l.length ≤ 70368744177664) (hbase : base ≤ w.heap.size) :
    ∃ v' w', (Builtin.append_ #[33, 9] ty #[v, .string ⟨l.toArray⟩]).run Tryd.prog w = .ok v' w' ∧ OwnF base w' v' (bs ++ l) ∧ w.grownBy w' v.ownBlock ∧ (v'.ownBlock = v.ownBlock ∨ v'.ownBlock = none ∨ ∃ k, v'.ownBlock = some k ∧ w.heap.size ≤ k) := by
  obtain ⟨i0, hi, hz0, hz1, hz2⟩ := info_parts infoU8
  have hsz : (⟨l.toArray⟩ : ByteArray).size = l.length := rfl
  have hsc : Lib.strCells ⟨l.toArray⟩ = u8c l := rfl
  have ht := Tryd.underlying33
  have hu := Tryd.underlying9
  rcases hown with ⟨rfl, rfl⟩ | ⟨g, cap, cur, fz, rfl, hbg, hg, hf, hnc, hcm, hcs, htake⟩
  · obtain ⟨v', w', h1, h2, h3, h4⟩ := Lib.run_append_own_string (P := Tryd.prog) w w.heap.size 33 9 ty 5 i0 ht hu hi hz0 hz1 hz2 (.slice none 0 0) 0 [] ⟨rfl, .inl ⟨rfl, rfl⟩⟩ ⟨l.toArray⟩ (by rw [hsz]; unfold maxLen; simp at hlen; omega) (by rw [hsz]; simp at hlen; omega) (Nat.le_refl _)
    rw [hsc, hsz, Nat.zero_add, List.nil_append] at h2
    have h5 : OwnBs w.heap.size w' v' l := h2
    refine ⟨v', w', h1, ?_, h3, ?_⟩
    · rcases OwnF.of_own h5 with h | ⟨g, cap, cur, fz, e, hb, r⟩
      · exact .inl h
      · exact .inr ⟨g, cap, cur, fz, e, by omega, r⟩
    · cases ho : v'.ownBlock with
      | none => exact .inr (.inl rfl)
      | some k => exact .inr (.inr ⟨k, rfl, (h5.lt k ho).1⟩)
  · by_cases hroom : bs.length + l.length ≤ cap
    · have hcell : ∀ j, j < (u8c l).length → (w.cell? ⟨g, bs.length + 0 + j, none⟩).isSome = true := fun j hj => by
        rw [u8c_len] at hj
        rw [cell_of_row w g _ cur _ fz hg]
        simp
        omega
      have hfro : ∀ j, j < (u8c l).length → w.frozen? ⟨g, bs.length + 0 + j, none⟩ = false := fun j hj => by
        rw [u8c_len] at hj
        obtain ⟨lo, hi'⟩ := fz
        simp only [World.frozen?, hg, Bool.and_eq_false_iff, decide_eq_false_iff_not]
        simp only at hf
        omega
      have hst := run_storeCells_cells (P := Tryd.prog) g bs.length (u8c l) 0 w hcell hfro (fun u hu => by
        obtain ⟨y, _, rfl⟩ := List.mem_map.1 hu
        rfl)
      have hfc := Lib.run_firstCells_string (P := Tryd.prog) w 1 ⟨l.toArray⟩
      rw [Nat.add_zero] at hst
      rw [hsc, hsz] at hfc
      have hrun : (Builtin.append_ #[33, 9] ty #[.slice (some ⟨g, 0, none⟩) bs.length cap, .string ⟨l.toArray⟩]).run Tryd.prog w = .ok (.slice (some ⟨g, 0, none⟩) (bs.length + l.length) cap) (w.setCells g bs.length (u8c l)) := by
        simp [Builtin.append_, run_underlying ht, run_underlying hu, sizeOf, typeInfo, hi, hz1, Builtin.lenOf, hsz, hroom, hfc, Addr.add_lit, hst]
      have hrow := blkSetCells (u8c l) bs.length w cur.toList (by simpa using hg) (by rw [u8c_len]; simp; omega)
      refine ⟨_, _, hrun, .inr ⟨g, cap, _, fz, by rw [List.length_append], hbg, hrow, hf, by rw [List.length_append]; exact hroom, hcm, ?_, ?_⟩, gb_setCells g _ _ _, .inl rfl⟩
      · simp only [List.size_toArray, List.length_append, List.length_take, List.length_drop, Array.length_toList, u8c_len]
        omega
      · rw [htake, u8c_app]
        show List.take _ (u8c (bs ++ l) ++ _) = _
        exact List.take_left' (u8c_len _)
    · have holds : ∀ j u, (u8c bs)[j]? = some u → w.cell? ((⟨g, 0, none⟩ : Addr).add j) = some u := fun j u hj => by
        have hadd : (⟨g, 0, none⟩ : Addr).add j = ⟨g, j, none⟩ := by unfold Addr.add; split <;> simp_all
        rw [hadd, cell_of_row w g j cur _ fz hg]
        rw [← htake, List.getElem?_take] at hj
        split at hj
        · simpa using hj
        · cases hj
      have hr := Lib.run_append_grow_string (P := Tryd.prog) w 33 9 ty 5 i0 (.int .u8 0) ht hu hi hz0 ⟨g, 0, none⟩ bs.length cap (u8c bs) (by rw [hz1, u8c_len, Nat.mul_one]) holds ⟨l.toArray⟩ (by rw [hsz]; omega) (by rw [hsz]; omega) (by rw [hz2]; exact growslice_fits (by rw [hsz]; omega) (by rw [hsz]; omega))
      rw [hsz, hsc] at hr
      have hge := grownCap_ge w (bs.length + l.length) cap 5
      have hcm2 : grownCap w (bs.length + l.length) cap 5 ≤ maxLen := grownCap_le_maxLen w (bs.length + l.length) cap 5 (by unfold maxLen; omega)
      refine ⟨_, _, hr, .inr ⟨w.heap.size, _, _, (0, 0), by rw [List.length_append], hbase, heap_alloc_new w.drew _, .inl rfl, by rw [List.length_append]; exact hge, hcm2, ?_, ?_⟩, ⟨rfl, rfl, rfl, by simp, fun k hk _ => heap_alloc_old w.drew _ hk⟩, .inr (.inr ⟨_, rfl, Nat.le_refl _⟩)⟩
      · have hz1 : (Value.int IntKind.u8 0).cells.size = 1 := rfl
        simp only [Array.size_append, List.size_toArray, size_zeroCells, hz1, u8c_len]
        omega
      · simp only [Array.toList_append]
        rw [u8c_app]
        exact List.take_left' (u8c_len _)
theorem wpList_append_text {ops : Array Oper} {rest : List Oper} {o : Oper} {a : Act} {Q : Exit → Act → World → Prop} {w : World} (hgd : o.guard = none) (s x : Operand)
    (ho : o.op = .call { callee := .builtin .append, args := #[s, x], argTypes := #[33, 9] })
    (base : Nat) (v : Value) (bs : List UInt8) (hs : a.eval s = v) (hown : OwnF base w v bs) (l : List UInt8) (hx : a.eval x = .string ⟨l.toArray⟩) (hlen : bs.length + l.length ≤ 70368744177664) (hbase : base ≤ w.heap.size)
    (h : ∀ v' w', OwnF base w' v' (bs ++ l) → w.grownBy w' v.ownBlock → (v'.ownBlock = v.ownBlock ∨ v'.ownBlock = none ∨ ∃ k, v'.ownBlock = some k ∧ w.heap.size ≤ k) → wpList Tryd.prog ops Q rest (a.put o.dst v') w') :
    wpList Tryd.prog ops Q (o :: rest) a w := by
  refine wpList_plain hgd fun K hK => ?_
  obtain ⟨v', w', hr, h2, h3, h4⟩ := run_append_text w base o.type v bs hown l hlen hbase
  unfold Oper.wp execOp
  simp only [ho, resolve, invoke, builtin, Sem.run_bind, Sem.run_pure, Result.andThen_ok, List.map_toArray, List.map_cons, List.map_nil, hs, hx, hr]
  exact hK _ _ (h v' w' h2 h3 h4)
end
end Go.Proofs.YtajkgcmopmpihaaDoor
