/- General lemmas on bits, numbers, slices of bytes; no program is named. -/
import Derived.Test.YtajkgcmopmpihaaDoorRows
import Derived.WalkKit
import Derived.ProofKit
import Derived.OpenShut
import Derived.BigQuiet
import Derived.Deep.QuietTactic
import Derived.Lib.Hide
import Derived.Lib.SlBytesConst
import Derived.Lib.OthersKept
namespace Go.Proofs.YtajkgcmopmpihaaDoor
open Go.ChangeShapes Go.WideShapes Go.ChangeAt Go.RowKit Go.IntWalk
set_option linter.unusedVariables false

theorem ret_int {k : IntKind} {a b : Int} (h : a = b) : Ending.returned (.int k a) = .returned (.int k b) := by rw [h]
theorem ret_bool {a b : Bool} (h : a = b) : Ending.returned (.bool a) = .returned (.bool b) := by rw [h]
theorem ret_str {a b : List UInt8} (h : a = b) : Ending.returned (.string ⟨a.toArray⟩) = .returned (.string ⟨b.toArray⟩) := by rw [h]

theorem wraps_i64 (n : Int) (h₀ : 0 ≤ n) (h₁ : n < 2 ^ 63) : IntKind.i64.wrap n = n := by rw [IntKind.wrap_i64]; omega
theorem wraps_u32 (n : Int) (h₀ : 0 ≤ n) (h₁ : n < 2 ^ 32) : IntKind.u32.wrap n = n := by rw [IntKind.wrap_u32]; omega
theorem wraps_u64 (n : Int) (h₀ : 0 ≤ n) (h₁ : n < 2 ^ 64) : IntKind.u64.wrap n = n := by rw [IntKind.wrap_u64]; omega

theorem i64_and_nat (a b : Nat) (ha : a < 2 ^ 63) (hb : b < 2 ^ 63) : bits .and .i64 (a : Int) (b : Int) = ((a &&& b : Nat) : Int) :=
  (bits_nat .i64 63 (by decide) wraps_i64 a b ha hb).1
theorem i64_or_nat (a b : Nat) (ha : a < 2 ^ 63) (hb : b < 2 ^ 63) : bits .or .i64 (a : Int) (b : Int) = ((a ||| b : Nat) : Int) :=
  (bits_nat .i64 63 (by decide) wraps_i64 a b ha hb).2
theorem i64_and1 (x : Int) (h0 : 0 ≤ x) (h1 : x < 2 ^ 63) : bits .and .i64 x 1 = x % 2 := bits_mask .i64 63 (by decide) wraps_i64 1 (by decide) x h0 h1
theorem u32_and63 (x : Int) (h0 : 0 ≤ x) (h1 : x < 2 ^ 32) : bits .and .u32 x 63 = x % 64 := bits_mask .u32 32 (by decide) wraps_u32 6 (by decide) x h0 h1

/-- The slice at 'A' has the bytes bs. -/
def RB (w : World) (A : Option Addr) (bs : List UInt8) : Prop :=
  ∀ k, k < bs.length → ∃ b off, A = some ⟨b, off, none⟩ ∧ b < w.heap.size ∧ w.cell? ⟨b, off + k, none⟩ = some (.int .u8 (bs.getD k 0).toNat)

theorem RB.below {w w' : World} {A : Option Addr} {bs : List UInt8} (h : RB w A bs) (hb : Below w.heap.size w w') : RB w' A bs := by
  intro k hk
  obtain ⟨b, off, rfl, hlt, hc⟩ := h k hk
  exact ⟨b, off, rfl, by have := hb.size; omega, (hb.cell (p := ⟨b, off + k, none⟩) hlt).trans hc⟩

/-- The value 'v' is a slice of the call's own, with the bytes bs. -/
def OwnBs (base : Nat) (w : World) (v : Value) (bs : List UInt8) : Prop := w.ownsRow base 5 1 v bs.length (bs.map fun c => Value.int .u8 c.toNat)

theorem infoU8 : (Tryd.prog.info? 5).map (fun i => (i.zero, i.size, i.bytes)) = some (some (.int .u8 0), 1, 1) := by kernel_rfl

theorem OwnBs.lt {base : Nat} {w : World} {v : Value} {bs : List UInt8} (h : OwnBs base w v bs) : ∀ k, v.ownBlock = some k → base ≤ k ∧ k < w.heap.size := World.ownsRow.lt h
theorem OwnBs.kept {base : Nat} {w w' : World} {v : Value} {bs : List UInt8} {row : Option Nat} (h : OwnBs base w v bs) (hg : w.grownBy w' row) (hne : v.ownBlock = none ∨ v.ownBlock ≠ row) : OwnBs base w' v bs := World.ownsRow.kept h hg hne
theorem OwnBs.below {base B : Nat} {w w' : World} {v : Value} {bs : List UInt8} (h : OwnBs base w v bs) (hg : Below B w w') (hB : w.heap.size ≤ B) : OwnBs base w' v bs := by
  refine ⟨h.1, ?_⟩
  rcases h.2 with h2 | ⟨g, cap, cur, hv, hb, hh, r⟩
  · exact .inl h2
  · exact .inr ⟨g, cap, cur, hv, hb, by rw [hg.block g (by have := (Array.getElem?_eq_some_iff.1 hh).1; omega)]; exact hh, r⟩
theorem OwnBs.nil (base : Nat) (w : World) : OwnBs base w (.slice none 0 0) [] := World.ownsRow_nil w base _ 1
theorem OwnBs.made (base : Nat) (w : World) (cur : Array Value) (cap : Nat) (hb : base ≤ w.heap.size) (hm : cap ≤ maxLen) (hs : cur.size = cap) :
    OwnBs base (w.alloc (.cells cur 5)) (.slice (some ⟨w.heap.size, 0, none⟩) 0 cap) [] := World.ownsRow_made w cur cap hb hm (by omega)
theorem OwnBs.form {base : Nat} {w : World} {v : Value} {bs : List UInt8} (h : OwnBs base w v bs) :
    ∃ A n cap, v = .slice A n cap ∧ RB w A bs ∧ Hid (n = bs.length) := by
  rcases h.2 with ⟨rfl, h0⟩ | ⟨g, cap, cur, rfl, hb, hh, hn, hm, hs, ht⟩
  · exact ⟨none, 0, 0, rfl, fun k hk => absurd hk (by omega), h0.symm⟩
  · refine ⟨_, _, cap, rfl, fun k hk => ⟨g, 0, rfl, (Array.getElem?_eq_some_iff.1 hh).1, ?_⟩, (rfl : _ = _)⟩
    have := World.ownsRow.cells h (g := g) rfl k (Value.int .u8 (bs.getD k 0).toNat) (by simp [hk])
    rw [← this]
    simp [Addr.add]
    split <;> simp_all

theorem _root_.Go.RowKit.Below.of_alloc {w w1 : World} {o : Obj} (h : Below (w.alloc o).heap.size (w.alloc o) w1) : Below w.heap.size w w1 :=
  ((Below.refl _ _).alloc (Nat.le_refl _) _).trans (h.mono (by simp))
theorem _root_.Go.RowKit.Below.step {B : Nat} {w w1 w2 : World} (h : Below B w w1) (h2 : Below w1.heap.size w1 w2) (hB : B ≤ w.heap.size) : Below B w w2 := h.trans (h2.mono (Nat.le_trans hB h.size))
theorem _root_.Go.RowKit.Below.then_ {w w1 w2 : World} (h : Below w.heap.size w w1) (h2 : Below w1.heap.size w1 w2) : Below w.heap.size w w2 := h.trans (h2.mono h.size)

theorem OwnBs.iterAt {base : Nat} {w : World} {v : Value} {bs : List UInt8} (h : OwnBs base w v bs) {k : Nat} {s : ByteArray} {pos : Nat} (hk : w.heap[k]? = some (.stringIter s pos)) (p' : Nat) : OwnBs base (w.iterAt k s p') v bs := by
  refine ⟨h.1, ?_⟩
  rcases h.2 with h2 | ⟨g, cap, cur, hv, hb, hh, r⟩
  · exact .inl h2
  · have hne : g ≠ k := by intro e; subst e; rw [hk] at hh; cases hh
    exact .inr ⟨g, cap, cur, hv, hb, (Lib.iterAt_other _ _ _ _ _ hne).trans hh, r⟩
/-- An own row is no block of another kind. -/
theorem OwnBs.ne {base : Nat} {w : World} {v : Value} {bs : List UInt8} (h : OwnBs base w v bs) {k : Nat} {o : Obj} (hk : w.heap[k]? = some o) (ho : ∀ c f, o ≠ .cells c 5 f) : some k ≠ v.ownBlock := by
  intro e
  rcases h.2 with ⟨rfl, _⟩ | ⟨g, cap, cur, rfl, hb, hh, r⟩
  · cases e
  · simp [Value.ownBlock] at e
    subst e
    rw [hk] at hh
    cases hh
    exact ho _ _ rfl

/-- Block g holds just the bytes bs. -/
def BlkBs (w : World) (g : Nat) (bs : List UInt8) : Prop := w.heap[g]? = some (.cells (bs.map fun c => Value.int .u8 c.toNat).toArray 5 (0, 0))
theorem BlkBs.of_own {base : Nat} {w : World} {g n : Nat} {bs : List UInt8} (h : OwnBs base w (.slice (some ⟨g, 0, none⟩) n n) bs) : BlkBs w g bs := by
  rcases h.2 with ⟨h2, _⟩ | ⟨g', cap, cur, hv, hb, hh, hn, hm, hs, ht⟩
  · cases h2
  · injection hv with h1 h2 h3
    injection h1 with h1
    injection h1 with h1
    subst h1; subst h3
    unfold BlkBs
    rw [hh, ← ht, List.take_of_length_le (by simp; omega)]
theorem BlkBs.own {base : Nat} {w : World} {g n : Nat} {bs : List UInt8} (h : BlkBs w g bs) (hb : base ≤ g) (hn : bs.length = n) (hm : n ≤ maxLen) : OwnBs base w (.slice (some ⟨g, 0, none⟩) n n) bs := by
  subst hn
  exact ⟨by simp, .inr ⟨g, _, _, rfl, hb, h, Nat.le_refl _, hm, by simp, List.take_of_length_le (by simp)⟩⟩
theorem BlkBs.cell {w : World} {g : Nat} {bs : List UInt8} (h : BlkBs w g bs) {k : Nat} (hk : k < bs.length) : w.cell? ⟨g, k, none⟩ = some (.int .u8 (bs.getD k 0).toNat) := by
  rw [cell_of_row _ _ _ _ _ _ h]; simp [hk]
theorem BlkBs.frozen {w : World} {g : Nat} {bs : List UInt8} (h : BlkBs w g bs) (k : Nat) : w.frozen? ⟨g, k, none⟩ = false := by
  unfold BlkBs at h
  simp [World.frozen?, h]
theorem BlkBs.lt {w : World} {g : Nat} {bs : List UInt8} (h : BlkBs w g bs) : g < w.heap.size := (Array.getElem?_eq_some_iff.1 h).1
theorem BlkBs.set_ {w : World} {g : Nat} {bs : List UInt8} (h : BlkBs w g bs) (k : Nat) (c : UInt8) : BlkBs (w.setCell ⟨g, k, none⟩ (.int .u8 c.toNat)) g (bs.set k c) := by
  unfold BlkBs at h ⊢
  simp [World.setCell, Array.getElem?_modify, h, List.map_set]
theorem BlkBs.drewN {w : World} {g : Nat} {bs : List UInt8} (h : BlkBs w g bs) (n : Nat) : BlkBs (w.drewN n) g bs := h
theorem BlkBs.below {B : Nat} {w w' : World} {g : Nat} {bs : List UInt8} (h : BlkBs w g bs) (hb : Below B w w') (hg : g < B) : BlkBs w' g bs := (hb.block g hg).trans h
theorem zeros_u8 (n : Nat) : (madeCells (Value.int .u8 0).cells (n * 1)).toList = (List.replicate n (0 : UInt8)).map fun c => Value.int .u8 c.toNat := by
  simp [madeCells, Value.cells, Nat.mod_one, List.map_const']

theorem Calls.quiet_of_eq {P : Program} {f : FuncId} {args : Array Value} {w : World} {n : Nat} {v : Value}
    (h : Calls P f args (w.drewN n) fun e w' => e = .returned v ∧ w.drewN n = w') : Calls P f args (w.drewN n) fun e w'' => e = .returned v ∧ ∃ m, w'' = w.drewN m :=
  h.mono fun _ _ ⟨he, hm⟩ => ⟨he, n, hm.symm⟩
theorem _root_.Go.RowKit.Below.drewN {B : Nat} {a w : World} (h : Below B a w) (n : Nat) : Below B a (w.drewN n) := ⟨h.os, h.tape, h.output, h.size, h.block⟩
theorem RB.drewN {w : World} {A : Option Addr} {bs : List UInt8} (h : RB w A bs) (n : Nat) : RB (w.drewN n) A bs := h
theorem OwnBs.drewN {base : Nat} {w : World} {v : Value} {bs : List UInt8} (h : OwnBs base w v bs) (n : Nat) : OwnBs base (w.drewN n) v bs := h

/-- A part of a slice: 's[k:]'. -/
theorem RB.cut {w : World} {A : Option Addr} {bs : List UInt8} (h : RB w A bs) (k cap : Nat) (hk : k ≤ bs.length) (hc : bs.length ≤ cap) : RB w (if cap = k then A else A.map (·.add k)) (bs.drop k) := by
  intro j hj
  rw [List.length_drop] at hj
  obtain ⟨b, off, rfl, hlt, hcell⟩ := h (k + j) (by omega)
  rw [if_neg (by omega)]
  refine ⟨b, off + k, by simp [Addr.add], hlt, ?_⟩
  rw [Nat.add_assoc, hcell]
  simp [List.getD]
theorem RB.take {w : World} {A : Option Addr} {bs : List UInt8} (h : RB w A bs) (k : Nat) : RB w A (bs.take k) := by
  intro j hj
  rw [List.length_take] at hj
  obtain ⟨b, off, rfl, hlt, hcell⟩ := h j (by omega)
  refine ⟨b, off, rfl, hlt, ?_⟩
  rw [hcell]
  simp [List.getD, show j < k from by omega]

/-- What the frame tells of a slice of bytes that came in. -/
theorem rb_of_row {w : World} {a : Option Addr} {len cap : Nat} {zs : List Int}
    (h : (a = none ∧ len = 0 ∧ cap = 0 ∧ zs = []) ∨
      ∃ x, a = some x ∧ len ≤ cap ∧ cap ≤ maxLen ∧ zs.length = cap ∧ (∀ i, i < zs.length → w.cell? (x.add i) = some (.int .u8 (zs.getD i 0))) ∧ ∀ n ∈ zs, (Lit.int .u8 n).wf = true) :
    ∃ bs : List UInt8, RB w a bs ∧ Hid (len = bs.length) ∧ len ≤ cap := by
  rcases h with ⟨rfl, rfl, rfl, rfl⟩ | ⟨x, rfl, hl, hm, hz, hc, hw⟩
  · exact ⟨[], fun k hk => absurd hk (by simp), rfl, Nat.le_refl _⟩
  · refine ⟨(zs.take len).map fun z => UInt8.ofNat z.toNat, fun k hk => ?_, by show _ = _; simp; omega, hl⟩
    have hk' : k < len := by simp at hk; omega
    obtain ⟨b, off, rfl, hcell⟩ := ints_at hc (by omega)
    have h1 := hcell k (by omega)
    refine ⟨b, off, rfl, World.block_lt_of_cell? w _ h1, ?_⟩
    rw [h1]
    have hkz : k < zs.length := by omega
    have hwf : 0 ≤ zs[k] ∧ zs[k] ≤ 255 := by simpa [Lit.wf, IntKind.min, IntKind.max, IntKind.signed, IntKind.bits] using hw zs[k] (List.getElem_mem hkz)
    simp [List.getD, hkz, hk']
    omega

theorem run_str_rb (w : World) (A : Option Addr) (n c : Nat) (bs : List UInt8) (h : RB w A bs) (hn : Hid (n = bs.length)) :
    (convert 33 9 (.slice A n c)).run Tryd.prog w = .ok (.string ⟨bs.toArray⟩) w := by
  have hn := hn.out
  subst hn
  cases A with
  | none =>
    have hb : bs = [] := by
      cases bs with
      | nil => rfl
      | cons x l => obtain ⟨b, off, h1, _⟩ := h 0 (by simp); cases h1
    subst hb
    exact run_convert_bytes_nil w _ _ Tryd.underlying33 Tryd.underlying5 _ _ _ Tryd.underlying9
  | some a =>
    have hl : (loadCells a bs.length).run Tryd.prog w = .ok ((bs.map fun c => (c.toNat : Int)).map (Value.int .u8)).toArray w := by
      have := run_loadCells_list (P := Tryd.prog) w a ((bs.map fun c => (c.toNat : Int)).map (Value.int .u8)) (fun j v hj => by
        have hjl : j < bs.length := by
          rcases Nat.lt_or_ge j bs.length with h | h
          · exact h
          · simp [List.getElem?_eq_none h] at hj
        obtain ⟨b, off, h1, _, h3⟩ := h j hjl
        cases h1
        have hplain : (⟨b, off, none⟩ : Addr).add j = ⟨b, off + j, none⟩ := by unfold Addr.add; split <;> simp_all
        rw [hplain, h3]
        simp [hjl] at hj
        subst hj
        simp [List.getD, List.getElem?_eq_getElem hjl])
      simpa using this
    rw [run_convert_bytes_string w _ _ _ _ _ c Tryd.underlying33 Tryd.underlying5 Tryd.underlying9, run_bytesToString w _ _ c _ hl, foldl_push_bytes]
    congr 3
    show (#[] ++ _) = _
    simp [Function.comp_def]

/-- The slice behind '[]byte(constant)'. -/
theorem rb_const (w : World) (l : List UInt8) (C : Array Value) (hC : C = (l.map fun c => Value.int .u8 c.toNat).toArray) (f : Nat × Nat) : RB (w.alloc (.cells C 5 f)) (some ⟨w.heap.size, 0, none⟩) l := by
  subst hC
  intro k hk
  refine ⟨w.heap.size, 0, rfl, by simp, ?_⟩
  have : (w.alloc (.cells (l.map fun c => Value.int .u8 c.toNat).toArray 5 f)).heap[w.heap.size]? = some (.cells (l.map fun c => Value.int .u8 c.toNat).toArray 5 f) := heap_alloc_new w _
  rw [cell_of_row _ _ _ _ _ _ this]
  simp [hk]
theorem run_bytes_const (w : World) (C : Array Value) (n c : Nat) :
    (convert 33 33 (.slice (some ⟨w.heap.size, 0, none⟩) n c)).run Tryd.prog (w.alloc (.cells C 5)) = .ok (.slice (some ⟨w.heap.size, 0, none⟩) n c) (w.alloc (.cells C 5 (C.size, C.size + 1))) :=
  Lib.run_convert_bytes_const w 33 5 C n c Tryd.underlying33 Tryd.underlying5

theorem wpList_append_u8 {ops : Array Oper} {rest : List Oper} {o : Oper} {a : Act} {Q : Exit → Act → World → Prop} {w : World} {y : Int} (hgd : o.guard = none) (s x : Operand)
    (ho : o.op = .call { callee := .builtin .append, args := #[s, x], argTypes := #[33, 33] })
    (base : Nat) (v : Value) (bs : List UInt8) (hs : a.eval s = v) (hown : OwnBs base w v bs) (c : UInt8) (hy : y = c.toNat)
    (hx : a.eval x = .slice (some ⟨w.heap.size, 0, none⟩) 1 1) (hlen : bs.length ≤ 70368744177664) (hbase : base ≤ w.heap.size)
    (h : ∀ v' w', OwnBs base w' v' (bs ++ [c]) → w.grownBy w' v.ownBlock → wpList Tryd.prog ops Q rest (a.put o.dst v') w') :
    wpList Tryd.prog ops Q (o :: rest) a (w.alloc (.cells #[.int .u8 y] 5)) := by
  subst hy
  obtain ⟨i0, hi, hz0, hz1, hz2⟩ := info_parts infoU8
  refine wpList_append_own _ hgd s x 33 ho base 5 i0 (.int .u8 0) 1 1 Tryd.underlying33 hi hz0 hz1 hz2 rfl (by decide) v _ _ hs (hown.alloc _) ⟨w.heap.size, 0, none⟩ 1 1 [.int .u8 c.toNat] hx rfl ?_ ?_ ?_ ?_ ?_ ?_
  · intro j u hj
    match j, hj with
    | 0, hj => simp at hj; subst hj; simp [Addr.add]
  · intro u hu; simp at hu; subst hu; rfl
  · unfold maxLen; omega
  · omega
  · simp; omega
  · intro v' w' h1 h2 _
    refine h v' w' (by simpa [OwnBs] using h1) ⟨h2.os, h2.tape, h2.output, Nat.le_trans (by simp) h2.size, fun k hk hne => (h2.block k (by simp; omega) hne).trans (heap_alloc_old w _ hk)⟩

/-- Nothing is appended. -/
theorem run_append_none (w : World) (base : Nat) (ty : TypeId) (v : Value) (bs : List UInt8) (hown : OwnBs base w v bs) (c : Nat) :
    (Builtin.append_ #[33, 33] ty #[v, .slice none 0 c]).run Tryd.prog w = .ok v w := by
  obtain ⟨i0, hi, hz0, hz1, hz2⟩ := info_parts infoU8
  rcases hown.2 with ⟨rfl, _⟩ | ⟨g, cap, cur, rfl, _, _, hnc, _⟩
  · simp [Builtin.append_, run_underlying Tryd.underlying33, sizeOf, typeInfo, hi, Builtin.lenOf, Builtin.firstCells]
  · simp [Builtin.append_, run_underlying Tryd.underlying33, sizeOf, typeInfo, hi, Builtin.lenOf, Builtin.firstCells, hnc, storeCells]

/-- 'append(own, other...)'. -/
theorem wpList_append_rb {ops : Array Oper} {rest : List Oper} {o : Oper} {a : Act} {Q : Exit → Act → World → Prop} {w : World} (hgd : o.guard = none) (s x : Operand)
    (ho : o.op = .call { callee := .builtin .append, args := #[s, x], argTypes := #[33, 33] })
    (base : Nat) (v : Value) (bs : List UInt8) (hs : a.eval s = v) (hown : OwnBs base w v bs) (A : Option Addr) (n c : Nat) (l : List UInt8)
    (hx : a.eval x = .slice A n c) (hl : RB w A l) (hn : Hid (n = l.length)) (hlen : bs.length + n ≤ 70368744177664) (hbase : base ≤ w.heap.size)
    (h : ∀ v' w', OwnBs base w' v' (bs ++ l) → w.grownBy w' v.ownBlock → wpList Tryd.prog ops Q rest (a.put o.dst v') w') :
    wpList Tryd.prog ops Q (o :: rest) a w := by
  obtain ⟨i0, hi, hz0, hz1, hz2⟩ := info_parts infoU8
  have hn := hn.out
  subst hn
  cases A with
  | none =>
    have hb : l = [] := by
      cases l with
      | nil => rfl
      | cons y l => obtain ⟨b, off, h1, _⟩ := hl 0 (by simp); cases h1
    subst hb
    refine wpList_plain hgd fun K hK => ?_
    have hrun := run_append_none w base o.type v bs hown c
    unfold Oper.wp
    simp [execOp, ho, resolve, invoke, builtin, hs, hx, hrun, Result.andThen]
    exact hK _ _ (h v w (by simpa using hown) ⟨rfl, rfl, rfl, Nat.le_refl _, fun _ _ _ => rfl⟩)
  | some ad =>
    refine wpList_append_own _ hgd s x 33 ho base 5 i0 (.int .u8 0) 1 1 Tryd.underlying33 hi hz0 hz1 hz2 rfl (by decide) v _ _ hs hown ad l.length c (l.map fun c => Value.int .u8 c.toNat) hx (by simp) ?_ ?_ ?_ ?_ hbase ?_
    · intro j u hj
      have hjl : j < l.length := by
        rcases Nat.lt_or_ge j l.length with h | h
        · exact h
        · simp [List.getElem?_eq_none h] at hj
      obtain ⟨b, off, h1, _, h3⟩ := hl j hjl
      cases h1
      have hplain : (⟨b, off, none⟩ : Addr).add j = ⟨b, off + j, none⟩ := by unfold Addr.add; split <;> simp_all
      rw [hplain, h3]
      simp [hjl] at hj
      subst hj
      simp [List.getD, List.getElem?_eq_getElem hjl]
    · intro u hu
      obtain ⟨y, _, rfl⟩ := List.mem_map.1 hu
      rfl
    · unfold maxLen; omega
    · omega
    · intro v' w' h1 h2 _
      exact h v' w' (by simpa [OwnBs] using h1) h2

/-- A cell of an own row: it is there, not frozen, and may be written. -/
theorem OwnBs.at_ {base : Nat} {w : World} {A : Option Addr} {n c : Nat} {bs : List UInt8} (h : OwnBs base w (.slice A n c) bs) {k : Nat} (hk : k < bs.length) :
    ∃ g, A = some ⟨g, 0, none⟩ ∧ base ≤ g ∧ w.cell? ⟨g, k, none⟩ = some (.int .u8 (bs.getD k 0).toNat) ∧ w.frozen? ⟨g, k, none⟩ = false ∧
      ∀ y : UInt8, OwnBs base (w.setCell ⟨g, k, none⟩ (.int .u8 y.toNat)) (.slice A n c) (bs.set k y) := by
  rcases h.2 with ⟨h2, h0⟩ | ⟨g, cap, cur, hv, hb, hh, hn, hm, hs, ht⟩
  · omega
  · injection hv with h1 h2 h3
    subst h1; subst h2; subst h3
    refine ⟨g, rfl, hb, ?_, by simp [World.frozen?, hh], fun y => ?_⟩
    · have := World.ownsRow.cells h (g := g) rfl k (Value.int .u8 (bs.getD k 0).toNat) (by simp [hk])
      rw [← this]
      simp [Addr.add]
      split <;> simp_all
    · have hlen : (bs.set k y).length = bs.length := by simp
      refine ⟨by simp, .inr ⟨g, c, cur.setIfInBounds k (.int .u8 y.toNat), by rw [hlen], hb, ?_, by rw [hlen]; exact hn, hm, by simpa using hs, ?_⟩⟩
      · simp [World.setCell, Array.getElem?_modify, hh]
      · rw [hlen, Array.toList_setIfInBounds, List.take_set, ht, List.map_set]
end Go.Proofs.YtajkgcmopmpihaaDoor
