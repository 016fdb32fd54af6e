/- Texts put together: Jv0 Sv Aid Bk Own. -/
import Derived.WalkKit
import Derived.Test.YtajkgcmopmpihaaGreatDoorRows
import Derived.ProofKit
import Derived.OpenShut
import Derived.BigQuiet
import Derived.Deep.QuietTactic
import Derived.Lib.Hide
import Derived.Lib.SlBytesConst
import Derived.Lib.OthersKept
import Derived.Deep.MidRow
import Derived.Laws.CopyOwn
import Derived.Maps.AppendAt
import Derived.Deep.AppendLies
namespace Go.Proofs.YtajkgcmopmpihaaGreatDoor
set_option linter.unusedVariables false
inductive JT where
  | nil
  | cons (k : List UInt8) (kd : Int) (is : Bool) (n : Int) (s : List UInt8) (l m : JT) (r : JT)
structure Jv where
  kd : Int
  is : Bool
  n : Int
  s : List UInt8
  l : JT
  m : JT
namespace JT
def ext : JT → Nat
  | nil => 0
  | cons _ _ _ _ _ _ _ r => r.ext + 1
def bulk : JT → Nat
  | nil => 0
  | cons _ _ _ _ _ l m r => 1 + l.bulk + m.bulk + r.bulk
def fall : JT → Nat → JT
  | t, 0 => t
  | nil, _ + 1 => nil
  | cons _ _ _ _ _ _ _ r, i + 1 => r.fall i
def key : JT → List UInt8
  | nil => []
  | cons k _ _ _ _ _ _ _ => k
def val : JT → Jv
  | nil => ⟨0, false, 0, [], nil, nil⟩
  | cons _ kd is n s l m _ => ⟨kd, is, n, s, l, m⟩
def isNil : JT → Bool
  | nil => true
  | _ => false
def one (k : List UInt8) (v : Jv) (r : JT) : JT := cons k v.kd v.is v.n v.s v.l v.m r
theorem fall_zero (t : JT) : t.fall 0 = t := by cases t <;> rfl
theorem fall_nil (i : Nat) : nil.fall i = nil := by cases i <;> rfl
theorem fall_succ : ∀ (t : JT) (i : Nat), t.fall (i + 1) = (t.fall i).fall 1
  | nil, i => by rw [fall_nil, fall_nil, fall_nil]
  | cons k kd is n s l m r, 0 => rfl
  | cons k kd is n s l m r, i + 1 => fall_succ r i
theorem fall_ext : ∀ (t : JT) (i : Nat), (t.fall i).ext = t.ext - i
  | nil, i => by rw [fall_nil]; simp [ext]
  | cons k kd is n s l m r, 0 => by simp [fall]
  | cons k kd is n s l m r, i + 1 => by
    have := fall_ext r i
    simp only [fall, ext, this]; omega
theorem fall_of_lt : ∀ (t : JT) (i : Nat), i < t.ext → t.fall i = one (t.fall i).key (t.fall i).val (t.fall (i + 1))
  | nil, i, h => absurd h (by simp [ext])
  | cons k kd is n s l m r, 0, _ => by simp [fall, one, key, val]
  | cons k kd is n s l m r, i + 1, h => fall_of_lt r i (by simp [ext] at h; omega)
theorem fall_all (t : JT) (i : Nat) (h : t.ext ≤ i) : t.fall i = nil := by
  have := fall_ext t i
  cases hc : t.fall i with
  | nil => rfl
  | cons => rw [hc] at this; simp [ext] at this; omega
theorem isNil_eq (t : JT) : t.isNil = decide (t.ext = 0) := by cases t <;> simp [isNil, ext]
theorem bulk_fall : ∀ (t : JT) (i : Nat), (t.fall i).bulk ≤ t.bulk
  | nil, i => by rw [fall_nil]; exact Nat.le_refl _
  | cons k kd is n s l m r, 0 => Nat.le_refl _
  | cons k kd is n s l m r, i + 1 => by have := bulk_fall r i; simp only [fall, bulk]; omega
end JT
def Jv.bulk (v : Jv) : Nat := 1 + v.l.bulk + v.m.bulk
theorem JT.bulk_one (k : List UInt8) (v : Jv) (r : JT) : (JT.one k v r).bulk = v.bulk + r.bulk := by
  simp only [one, bulk, Jv.bulk]
theorem JT.bulk_val (t : JT) (i : Nat) (h : i < t.ext) : (t.fall i).val.bulk ≤ t.bulk := by
  have h1 := t.bulk_fall i
  have h2 := congrArg JT.bulk (t.fall_of_lt i h)
  rw [JT.bulk_one] at h2
  omega
end Go.Proofs.YtajkgcmopmpihaaGreatDoor
namespace Go.Proofs.YtajkgcmopmpihaaGreatDoor
def strV (l : List UInt8) : Value := .string ⟨l.toArray⟩
end Go.Proofs.YtajkgcmopmpihaaGreatDoor
namespace Go.Proofs.YtajkgcmopmpihaaGreatDoor
open Go.ChangeShapes Go.WideShapes Go.ChangeAt Go.RowKit Go.IntWalk
set_option linter.unusedVariables false
theorem ret_int {k : IntKind} {a b : Int} (h : a = b) : Ending.returned (.int k a) = .returned (.int k b) := by rw [h]
theorem ret_bool {a b : Bool} (h : a = b) : Ending.returned (.bool a) = .returned (.bool b) := by rw [h]
def RB (w : World) (A : Option Addr) (bs : List UInt8) : Prop :=
  ∀ k, k < bs.length → ∃ b off, A = some ⟨b, off, none⟩ ∧ b < w.heap.size ∧ w.cell? ⟨b, off + k, none⟩ = some (.int .u8 (bs.getD k 0).toNat)
theorem RB.below {w w' : World} {A : Option Addr} {bs : List UInt8} (h : RB w A bs) (hb : Below w.heap.size w w') : RB w' A bs := by
  intro k hk
  obtain ⟨b, off, rfl, hlt, hc⟩ := h k hk
  exact ⟨b, off, rfl, by have := hb.size; omega, (hb.cell (p := ⟨b, off + k, none⟩) hlt).trans hc⟩
def OwnBs (base : Nat) (w : World) (v : Value) (bs : List UInt8) : Prop := w.ownsRow base 5 1 v bs.length (bs.map fun c => Value.int .u8 c.toNat)
theorem infoU8 : (Tryz.prog.info? 5).map (fun i => (i.zero, i.size, i.bytes)) = some (some (.int .u8 0), 1, 1) := by kernel_rfl
theorem OwnBs.lt {base : Nat} {w : World} {v : Value} {bs : List UInt8} (h : OwnBs base w v bs) : ∀ k, v.ownBlock = some k → base ≤ k ∧ k < w.heap.size := World.ownsRow.lt h
theorem OwnBs.kept {base : Nat} {w w' : World} {v : Value} {bs : List UInt8} {row : Option Nat} (h : OwnBs base w v bs) (hg : w.grownBy w' row) (hne : v.ownBlock = none ∨ v.ownBlock ≠ row) : OwnBs base w' v bs := World.ownsRow.kept h hg hne
theorem OwnBs.below {base B : Nat} {w w' : World} {v : Value} {bs : List UInt8} (h : OwnBs base w v bs) (hg : Below B w w') (hB : w.heap.size ≤ B) : OwnBs base w' v bs := by
  refine ⟨h.1, ?_⟩
  rcases h.2 with h2 | ⟨g, cap, cur, hv, hb, hh, r⟩
  · exact .inl h2
  · exact .inr ⟨g, cap, cur, hv, hb, by rw [hg.block g (by have := (Array.getElem?_eq_some_iff.1 hh).1; omega)]; exact hh, r⟩
theorem OwnBs.nil (base : Nat) (w : World) : OwnBs base w (.slice none 0 0) [] := World.ownsRow_nil w base _ 1
theorem OwnBs.made (base : Nat) (w : World) (cur : Array Value) (cap : Nat) (hb : base ≤ w.heap.size) (hm : cap ≤ maxLen) (hs : cur.size = cap) :
    OwnBs base (w.alloc (.cells cur 5)) (.slice (some ⟨w.heap.size, 0, none⟩) 0 cap) [] := World.ownsRow_made w cur cap hb hm (by omega)
theorem OwnBs.form {base : Nat} {w : World} {v : Value} {bs : List UInt8} (h : OwnBs base w v bs) :
    ∃ A n cap, v = .slice A n cap ∧ RB w A bs ∧ Hid (n = bs.length) := by
  rcases h.2 with ⟨rfl, h0⟩ | ⟨g, cap, cur, rfl, hb, hh, hn, hm, hs, ht⟩
  · exact ⟨none, 0, 0, rfl, fun k hk => absurd hk (by omega), h0.symm⟩
  · refine ⟨_, _, cap, rfl, fun k hk => ⟨g, 0, rfl, (Array.getElem?_eq_some_iff.1 hh).1, ?_⟩, (rfl : _ = _)⟩
    have := World.ownsRow.cells h (g := g) rfl k (Value.int .u8 (bs.getD k 0).toNat) (by simp [hk])
    rw [← this]
    simp [Addr.add]
    split <;> simp_all
theorem _root_.Go.RowKit.Below.step {B : Nat} {w w1 w2 : World} (h : Below B w w1) (h2 : Below w1.heap.size w1 w2) (hB : B ≤ w.heap.size) : Below B w w2 := h.trans (h2.mono (Nat.le_trans hB h.size))
theorem _root_.Go.RowKit.Below.then_ {w w1 w2 : World} (h : Below w.heap.size w w1) (h2 : Below w1.heap.size w1 w2) : Below w.heap.size w w2 := h.trans (h2.mono h.size)
theorem OwnBs.iterAt {base : Nat} {w : World} {v : Value} {bs : List UInt8} (h : OwnBs base w v bs) {k : Nat} {s : ByteArray} {pos : Nat} (hk : w.heap[k]? = some (.stringIter s pos)) (p' : Nat) : OwnBs base (w.iterAt k s p') v bs := by
  refine ⟨h.1, ?_⟩
  rcases h.2 with h2 | ⟨g, cap, cur, hv, hb, hh, r⟩
  · exact .inl h2
  · have hne : g ≠ k := by intro e; subst e; rw [hk] at hh; cases hh
    exact .inr ⟨g, cap, cur, hv, hb, (Lib.iterAt_other _ _ _ _ _ hne).trans hh, r⟩
theorem OwnBs.ne {base : Nat} {w : World} {v : Value} {bs : List UInt8} (h : OwnBs base w v bs) {k : Nat} {o : Obj} (hk : w.heap[k]? = some o) (ho : ∀ c f, o ≠ .cells c 5 f) : some k ≠ v.ownBlock := by
  intro e
  rcases h.2 with ⟨rfl, _⟩ | ⟨g, cap, cur, rfl, hb, hh, r⟩
  · cases e
  · simp [Value.ownBlock] at e
    subst e
    rw [hk] at hh
    cases hh
    exact ho _ _ rfl
def BlkBs (w : World) (g : Nat) (bs : List UInt8) : Prop := w.heap[g]? = some (.cells (bs.map fun c => Value.int .u8 c.toNat).toArray 5 (0, 0))
theorem BlkBs.of_own {base : Nat} {w : World} {g n : Nat} {bs : List UInt8} (h : OwnBs base w (.slice (some ⟨g, 0, none⟩) n n) bs) : BlkBs w g bs := by
  rcases h.2 with ⟨h2, _⟩ | ⟨g', cap, cur, hv, hb, hh, hn, hm, hs, ht⟩
  · cases h2
  · injection hv with h1 h2 h3
    injection h1 with h1
    injection h1 with h1
    subst h1; subst h3
    unfold BlkBs
    rw [hh, ← ht, List.take_of_length_le (by simp; omega)]
theorem BlkBs.own {base : Nat} {w : World} {g n : Nat} {bs : List UInt8} (h : BlkBs w g bs) (hb : base ≤ g) (hn : bs.length = n) (hm : n ≤ maxLen) : OwnBs base w (.slice (some ⟨g, 0, none⟩) n n) bs := by
  subst hn
  exact ⟨by simp, .inr ⟨g, _, _, rfl, hb, h, Nat.le_refl _, hm, by simp, List.take_of_length_le (by simp)⟩⟩
theorem BlkBs.cell {w : World} {g : Nat} {bs : List UInt8} (h : BlkBs w g bs) {k : Nat} (hk : k < bs.length) : w.cell? ⟨g, k, none⟩ = some (.int .u8 (bs.getD k 0).toNat) := by
  rw [cell_of_row _ _ _ _ _ _ h]; simp [hk]
theorem BlkBs.frozen {w : World} {g : Nat} {bs : List UInt8} (h : BlkBs w g bs) (k : Nat) : w.frozen? ⟨g, k, none⟩ = false := by
  unfold BlkBs at h
  simp [World.frozen?, h]
theorem BlkBs.lt {w : World} {g : Nat} {bs : List UInt8} (h : BlkBs w g bs) : g < w.heap.size := (Array.getElem?_eq_some_iff.1 h).1
theorem BlkBs.set_ {w : World} {g : Nat} {bs : List UInt8} (h : BlkBs w g bs) (k : Nat) (c : UInt8) : BlkBs (w.setCell ⟨g, k, none⟩ (.int .u8 c.toNat)) g (bs.set k c) := by
  unfold BlkBs at h ⊢
  simp [World.setCell, Array.getElem?_modify, h, List.map_set]
theorem BlkBs.drewN {w : World} {g : Nat} {bs : List UInt8} (h : BlkBs w g bs) (n : Nat) : BlkBs (w.drewN n) g bs := h
theorem BlkBs.below {B : Nat} {w w' : World} {g : Nat} {bs : List UInt8} (h : BlkBs w g bs) (hb : Below B w w') (hg : g < B) : BlkBs w' g bs := (hb.block g hg).trans h
theorem _root_.Go.RowKit.Below.drewN {B : Nat} {a w : World} (h : Below B a w) (n : Nat) : Below B a (w.drewN n) := ⟨h.os, h.tape, h.output, h.size, h.block⟩
theorem RB.drewN {w : World} {A : Option Addr} {bs : List UInt8} (h : RB w A bs) (n : Nat) : RB (w.drewN n) A bs := h
theorem OwnBs.drewN {base : Nat} {w : World} {v : Value} {bs : List UInt8} (h : OwnBs base w v bs) (n : Nat) : OwnBs base (w.drewN n) v bs := h
theorem RB.take {w : World} {A : Option Addr} {bs : List UInt8} (h : RB w A bs) (k : Nat) : RB w A (bs.take k) := by
  intro j hj
  rw [List.length_take] at hj
  obtain ⟨b, off, rfl, hlt, hcell⟩ := h j (by omega)
  refine ⟨b, off, rfl, hlt, ?_⟩
  rw [hcell]
  simp [List.getD, show j < k from by omega]
theorem run_str_rb (w : World) (A : Option Addr) (n c : Nat) (bs : List UInt8) (h : RB w A bs) (hn : Hid (n = bs.length)) :
    (convert 58 9 (.slice A n c)).run Tryz.prog w = .ok (.string ⟨bs.toArray⟩) w := by
  have hn := hn.out
  subst hn
  cases A with
  | none =>
    have hb : bs = [] := by
      cases bs with
      | nil => rfl
      | cons x l => obtain ⟨b, off, h1, _⟩ := h 0 (by simp); cases h1
    subst hb
    exact run_convert_bytes_nil w _ _ Tryz.underlying58 Tryz.underlying5 _ _ _ Tryz.underlying9
  | some a =>
    have hl : (loadCells a bs.length).run Tryz.prog w = .ok ((bs.map fun c => (c.toNat : Int)).map (Value.int .u8)).toArray w := by
      have := run_loadCells_list (P := Tryz.prog) w a ((bs.map fun c => (c.toNat : Int)).map (Value.int .u8)) (fun j v hj => by
        have hjl : j < bs.length := by
          rcases Nat.lt_or_ge j bs.length with h | h
          · exact h
          · simp [List.getElem?_eq_none h] at hj
        obtain ⟨b, off, h1, _, h3⟩ := h j hjl
        cases h1
        have hplain : (⟨b, off, none⟩ : Addr).add j = ⟨b, off + j, none⟩ := by unfold Addr.add; split <;> simp_all
        rw [hplain, h3]
        simp [hjl] at hj
        subst hj
        simp [List.getD, List.getElem?_eq_getElem hjl])
      simpa using this
    rw [run_convert_bytes_string w _ _ _ _ _ c Tryz.underlying58 Tryz.underlying5 Tryz.underlying9, run_bytesToString w _ _ c _ hl, foldl_push_bytes]
    congr 3
    show (#[] ++ _) = _
    simp [Function.comp_def]
theorem rb_const (w : World) (l : List UInt8) (C : Array Value) (hC : C = (l.map fun c => Value.int .u8 c.toNat).toArray) (f : Nat × Nat) : RB (w.alloc (.cells C 5 f)) (some ⟨w.heap.size, 0, none⟩) l := by
  subst hC
  intro k hk
  refine ⟨w.heap.size, 0, rfl, by simp, ?_⟩
  have : (w.alloc (.cells (l.map fun c => Value.int .u8 c.toNat).toArray 5 f)).heap[w.heap.size]? = some (.cells (l.map fun c => Value.int .u8 c.toNat).toArray 5 f) := heap_alloc_new w _
  rw [cell_of_row _ _ _ _ _ _ this]
  simp [hk]
theorem run_append_none (w : World) (base : Nat) (ty : TypeId) (v : Value) (bs : List UInt8) (hown : OwnBs base w v bs) (c : Nat) :
    (Builtin.append_ #[58, 58] ty #[v, .slice none 0 c]).run Tryz.prog w = .ok v w := by
  obtain ⟨i0, hi, hz0, hz1, hz2⟩ := info_parts infoU8
  rcases hown.2 with ⟨rfl, _⟩ | ⟨g, cap, cur, rfl, _, _, hnc, _⟩
  · simp [Builtin.append_, run_underlying Tryz.underlying58, sizeOf, typeInfo, hi, Builtin.lenOf, Builtin.firstCells]
  · simp [Builtin.append_, run_underlying Tryz.underlying58, sizeOf, typeInfo, hi, Builtin.lenOf, Builtin.firstCells, hnc, storeCells]
theorem wpList_append_rb {ops : Array Oper} {rest : List Oper} {o : Oper} {a : Act} {Q : Exit → Act → World → Prop} {w : World} (hgd : o.guard = none) (s x : Operand)
    (ho : o.op = .call { callee := .builtin .append, args := #[s, x], argTypes := #[58, 58] })
    (base : Nat) (v : Value) (bs : List UInt8) (hs : a.eval s = v) (hown : OwnBs base w v bs) (A : Option Addr) (n c : Nat) (l : List UInt8)
    (hx : a.eval x = .slice A n c) (hl : RB w A l) (hn : Hid (n = l.length)) (hlen : bs.length + n ≤ 70368744177664) (hbase : base ≤ w.heap.size)
    (h : ∀ v' w', OwnBs base w' v' (bs ++ l) → w.grownBy w' v.ownBlock → wpList Tryz.prog ops Q rest (a.put o.dst v') w') :
    wpList Tryz.prog ops Q (o :: rest) a w := by
  obtain ⟨i0, hi, hz0, hz1, hz2⟩ := info_parts infoU8
  have hn := hn.out
  subst hn
  cases A with
  | none =>
    have hb : l = [] := by
      cases l with
      | nil => rfl
      | cons y l => obtain ⟨b, off, h1, _⟩ := hl 0 (by simp); cases h1
    subst hb
    refine wpList_plain hgd fun K hK => ?_
    have hrun := run_append_none w base o.type v bs hown c
    unfold Oper.wp
    simp [execOp, ho, resolve, invoke, builtin, hs, hx, hrun, Result.andThen]
    exact hK _ _ (h v w (by simpa using hown) ⟨rfl, rfl, rfl, Nat.le_refl _, fun _ _ _ => rfl⟩)
  | some ad =>
    refine wpList_append_own _ hgd s x 58 ho base 5 i0 (.int .u8 0) 1 1 Tryz.underlying58 hi hz0 hz1 hz2 rfl (by decide) v _ _ hs hown ad l.length c (l.map fun c => Value.int .u8 c.toNat) hx (by simp) ?_ ?_ ?_ ?_ hbase ?_
    · intro j u hj
      have hjl : j < l.length := by
        rcases Nat.lt_or_ge j l.length with h | h
        · exact h
        · simp [List.getElem?_eq_none h] at hj
      obtain ⟨b, off, h1, _, h3⟩ := hl j hjl
      cases h1
      have hplain : (⟨b, off, none⟩ : Addr).add j = ⟨b, off + j, none⟩ := by unfold Addr.add; split <;> simp_all
      rw [hplain, h3]
      simp [hjl] at hj
      subst hj
      simp [List.getD, List.getElem?_eq_getElem hjl]
    · intro u hu
      obtain ⟨y, _, rfl⟩ := List.mem_map.1 hu
      rfl
    · unfold maxLen; omega
    · omega
    · intro v' w' h1 h2 _
      exact h v' w' (by simpa [OwnBs] using h1) h2
theorem OwnBs.at_ {base : Nat} {w : World} {A : Option Addr} {n c : Nat} {bs : List UInt8} (h : OwnBs base w (.slice A n c) bs) {k : Nat} (hk : k < bs.length) :
    ∃ g, A = some ⟨g, 0, none⟩ ∧ base ≤ g ∧ w.cell? ⟨g, k, none⟩ = some (.int .u8 (bs.getD k 0).toNat) ∧ w.frozen? ⟨g, k, none⟩ = false ∧
      ∀ y : UInt8, OwnBs base (w.setCell ⟨g, k, none⟩ (.int .u8 y.toNat)) (.slice A n c) (bs.set k y) := by
  rcases h.2 with ⟨h2, h0⟩ | ⟨g, cap, cur, hv, hb, hh, hn, hm, hs, ht⟩
  · omega
  · injection hv with h1 h2 h3
    subst h1; subst h2; subst h3
    refine ⟨g, rfl, hb, ?_, by simp [World.frozen?, hh], fun y => ?_⟩
    · have := World.ownsRow.cells h (g := g) rfl k (Value.int .u8 (bs.getD k 0).toNat) (by simp [hk])
      rw [← this]
      simp [Addr.add]
      split <;> simp_all
    · have hlen : (bs.set k y).length = bs.length := by simp
      refine ⟨by simp, .inr ⟨g, c, cur.setIfInBounds k (.int .u8 y.toNat), by rw [hlen], hb, ?_, by rw [hlen]; exact hn, hm, by simpa using hs, ?_⟩⟩
      · simp [World.setCell, Array.getElem?_modify, hh]
      · rw [hlen, Array.toList_setIfInBounds, List.take_set, ht, List.map_set]
end Go.Proofs.YtajkgcmopmpihaaGreatDoor
namespace Go.Proofs.YtajkgcmopmpihaaGreatDoor
open Go.ChangeShapes Go.WideShapes Go.ChangeAt Go.RowKit Go.IntWalk
set_option linter.unusedVariables false
def Blk (w : World) (g : Nat) (T : TypeId) (cs : List Value) : Prop := w.heap[g]? = some (.cells cs.toArray T (0, 0))
section
variable {w w1 W : World} {g g2 k : Nat} {T : TypeId} {cs : List Value}
theorem Blk.lt (h : Blk w g T cs) : g < w.heap.size := (Array.getElem?_eq_some_iff.1 h).1
theorem Blk.cell (h : Blk w g T cs) {v : Value} (hk : cs[k]? = some v) : w.cell? ⟨g, k, none⟩ = some v := by
  unfold Blk at h
  rw [cell_of_row _ _ _ _ _ _ h]; simp [hk]
theorem Blk.frozen (h : Blk w g T cs) (k : Nat) : w.frozen? ⟨g, k, none⟩ = false := by
  unfold Blk at h; simp [World.frozen?, h]
theorem Blk.new (w : World) (cs : List Value) (T : TypeId) : Blk (w.alloc (.cells cs.toArray T)) w.heap.size T cs := heap_alloc_new w _
theorem Blk.alloc (h : Blk w g T cs) (o : Obj) : Blk (w.alloc o) g T cs := (heap_alloc_old w _ h.lt).trans h
theorem Blk.drewN (h : Blk w g T cs) (n : Nat) : Blk (w.drewN n) g T cs := h
theorem Blk.drew (h : Blk w g T cs) : Blk w.drew g T cs := h
theorem Blk.later (h : Blk w g T cs) (b : Below w.heap.size w w1) : Blk w1 g T cs := (b.block g h.lt).trans h
theorem Blk.below {B : Nat} (h : Blk w g T cs) (b : Below B w w1) (hg : g < B) : Blk w1 g T cs := (b.block g hg).trans h
theorem Blk.set_ (h : Blk w g T cs) (k : Nat) (v : Value) : Blk (w.setCell ⟨g, k, none⟩ v) g T (cs.set k v) := by
  unfold Blk at h ⊢
  simp [World.setCell, Array.getElem?_modify, h]
theorem Blk.other (h : Blk w g T cs) (hne : g2 ≠ g) (v : Value) : Blk (w.setCell ⟨g2, k, none⟩ v) g T cs := by
  unfold Blk at h ⊢
  simp [World.setCell, Array.getElem?_modify, h, hne]
theorem Blk.rng (h : Blk w g T cs) : w.rangeAt g 0 cs := by
  intro j v hv
  rw [Nat.zero_add]; exact h.cell hv
theorem Blk.thereAt (h : Blk w g T cs) {o n : Nat} (hn : o + n ≤ cs.length) : w.there g o n := by
  intro j hj
  exact ⟨by rw [h.cell (List.getElem?_eq_getElem (show o + j < cs.length by omega))]; rfl, h.frozen _⟩
theorem Blk.there (h : Blk w g T cs) {n : Nat} (hn : n = cs.length) : w.there g 0 n := h.thereAt (by omega)
end
theorem blkSetCells {g : Nat} {T : TypeId} {fr : Nat × Nat} : ∀ (vs : List Value) (o : Nat) (W : World) (cs : List Value), W.heap[g]? = some (.cells cs.toArray T fr) → o + vs.length ≤ cs.length →
    (W.setCells g o vs).heap[g]? = some (.cells (cs.take o ++ vs ++ cs.drop (o + vs.length)).toArray T fr)
  | [], o, W, cs, h, _ => by simpa [World.setCells] using h
  | v :: vs, o, W, cs, h, hl => by
    have hlt : o < cs.length := by simp at hl; omega
    have h1 : (W.setCell ⟨g, o, none⟩ v).heap[g]? = some (.cells (cs.set o v).toArray T fr) := by
      simp [World.setCell, Array.getElem?_modify, h]
    have h2 := blkSetCells vs (o + 1) (W.setCell ⟨g, o, none⟩ v) (cs.set o v) h1 (by simp at hl ⊢; omega)
    have hto : (cs.take o).length = o := by simp; omega
    have e : ((cs.set o v).take (o + 1) ++ vs ++ (cs.set o v).drop (o + 1 + vs.length)) = cs.take o ++ (v :: vs) ++ cs.drop (o + (v :: vs).length) := by
      have d1 : (cs.take o).take (o + 1) = cs.take o := List.take_of_length_le (by omega)
      have d2 : (cs.take o).drop (o + 1 + vs.length) = [] := List.drop_of_length_le (by omega)
      rw [List.set_eq_take_append_cons_drop, if_pos hlt, List.take_append, List.drop_append, hto, d1, d2, show o + 1 - o = 1 by omega, show o + 1 + vs.length - o = vs.length + 1 by omega]
      simp [Nat.add_comm, Nat.add_left_comm]
    rw [e] at h2
    exact h2
section
variable {W : World} {g g2 : Nat} {T : TypeId} {cs vs : List Value}
end
theorem res_cell {fn : Func} {p : Tmp} {ty : TypeId} (h : fn.results = #[.cell p ty]) (tmps : Array Value) (a : Addr) (v : Value) (W : World) (hp : tmps.getD p undef = .pointer (some a)) (hld : (loadVar ty a).run Tryz.prog W = .ok v W) : (results fn tmps).run Tryz.prog W = .ok v W := by
  simp only [results, h]
  simp only [Array.getD_eq_getD_getElem?] at hp
  simp [hp, asAddr, hld]
theorem Blk.load {w : World} {g : Nat} {T : TypeId} {cs : List Value} (h : Blk w g T cs) (ty : TypeId) {d : TypeDesc} (hu : Tryz.prog.underlying ty = some d) (hd : d.isRow = true) (hi : (Tryz.prog.info? ty).map (·.size) = some cs.length) :
    (loadVar ty ⟨g, 0, none⟩).run Tryz.prog w = .ok (.agg cs.toArray) w := run_loadVar_mid _ _ _ _ cs _ h.rng hu hd hi
theorem wp_gen {P : Program} {c : Code} {Q : Exit → Act → World → Prop} {a : Act} {W : World} (R : World → Prop) (h : R W) (hk : ∀ W1, R W1 → Code.wp P c Q a W1) : Code.wp P c Q a W := hk W h
/-! Worlds in which one block alone has turned. -/
theorem gb_setCell (w : World) (g k : Nat) (v : Value) : w.grownBy (w.setCell ⟨g, k, none⟩ v) (some g) :=
  ⟨rfl, rfl, rfl, by simp [World.setCell], fun i _ hne => by simp [World.setCell, Array.getElem?_modify]; intro e; subst e; simp at hne⟩
theorem gb_setCells (g : Nat) : ∀ (vs : List Value) (o : Nat) (w : World), w.grownBy (w.setCells g o vs) (some g)
  | [], _, w => World.grownBy.refl _ _
  | v :: vs, o, w => (gb_setCell w g o v).trans (gb_setCells g vs (o + 1) _)
theorem gb_drewN (w : World) (n : Nat) (row : Option Nat) : w.grownBy (w.drewN n) row := ⟨rfl, rfl, rfl, Nat.le_refl _, fun _ _ _ => rfl⟩
theorem Blk.kept {w w1 : World} {x g : Nat} {T : TypeId} {cs : List Value} (h : Blk w x T cs) (hg : w.grownBy w1 (some g)) (hne : x ≠ g) : Blk w1 x T cs :=
  (hg.block x h.lt (by simp; omega)).trans h
theorem RB.kept {w w1 : World} {g : Nat} {A : Option Addr} {bs : List UInt8} (h : RB w A bs) (hg : w.grownBy w1 (some g)) (hap : ∀ b o, A = some ⟨b, o, none⟩ → b ≠ g) : RB w1 A bs := by
  intro k hk
  obtain ⟨b, off, rfl, hlt, hc⟩ := h k hk
  exact ⟨b, off, rfl, Nat.lt_of_lt_of_le hlt hg.size, (hg.cell_far ⟨b, off + k, none⟩ hlt (by simp; exact hap b off rfl)).trans hc⟩
theorem _root_.Go.RowKit.Below.gb {B g : Nat} {a w w1 : World} (h : Below B a w) (hg : w.grownBy w1 (some g)) (hB : B ≤ g) (hw : B ≤ w.heap.size) : Below B a w1 :=
  ⟨hg.os.trans h.os, hg.tape.trans h.tape, hg.output.trans h.output, Nat.le_trans h.size hg.size, fun k hk => (hg.block k (by omega) (by simp; omega)).trans (h.block k hk)⟩
theorem Blk.setRow {w : World} {g : Nat} {T : TypeId} {cs : List Value} (h : Blk w g T cs) (ds : List Value) : Blk (w.setRow g ds.toArray) g T ds := setRow_heap w g _ _ T _ h
end Go.Proofs.YtajkgcmopmpihaaGreatDoor
namespace Go.Proofs.YtajkgcmopmpihaaGreatDoor
open Go.ChangeShapes Go.WideShapes Go.ChangeAt Go.RowKit Go.IntWalk
set_option linter.unusedVariables false
def RV (w : World) (A : Option Addr) (vs : List Value) : Prop :=
  ∀ (k : Nat) (v : Value), vs[k]? = some v → ∃ b off, A = some ⟨b, off, none⟩ ∧ b < w.heap.size ∧ w.cell? ⟨b, off + k, none⟩ = some v
def OwnVs (base : Nat) (E : TypeId) (w : World) (v : Value) (vs : List Value) : Prop := w.ownsRow base E 1 v vs.length vs
section
variable {w w' W : World} {A : Option Addr} {vs l : List Value} {base B : Nat} {E : TypeId} {v : Value}
theorem RV.below (h : RV w A vs) (hb : Below w.heap.size w w') : RV w' A vs := by
  intro k u hu
  obtain ⟨b, off, rfl, hlt, hc⟩ := h k u hu
  exact ⟨b, off, rfl, by have := hb.size; omega, (hb.cell (p := ⟨b, off + k, none⟩) hlt).trans hc⟩
theorem RV.drewN (h : RV w A vs) (n : Nat) : RV (w.drewN n) A vs := h
theorem RV.drew (h : RV w A vs) : RV w.drew A vs := h
theorem RV.nil (w : World) (A : Option Addr) : RV w A [] := fun k v h => by simp at h
theorem RV.alloc (h : RV w A vs) (o : Obj) : RV (w.alloc o) A vs := h.below ((Below.refl _ _).alloc (Nat.le_refl _) _)
theorem RV.kept (h : RV w A vs) {row : Option Nat} (hg : w.grownBy w' row) (hne : ∀ b o, A = some ⟨b, o, none⟩ → some b ≠ row) : RV w' A vs := by
  intro k u hu
  obtain ⟨b, off, rfl, hlt, hc⟩ := h k u hu
  exact ⟨b, off, rfl, Nat.lt_of_lt_of_le hlt hg.size, (hg.cell_far ⟨b, off + k, none⟩ hlt (hne b off rfl)).trans hc⟩
theorem RV.at_ (h : RV w A vs) {k : Nat} {u : Value} (hu : vs[k]? = some u) : ∃ b off, A = some ⟨b, off, none⟩ ∧ b < w.heap.size ∧ w.cell? ⟨b, off + k, none⟩ = some u := h k u hu
theorem RV.some (h : RV w A vs) (h0 : 0 < vs.length) : ∃ b off, A = .some ⟨b, off, none⟩ ∧ b < w.heap.size ∧ ∀ (k : Nat) (u : Value), vs[k]? = .some u → w.cell? ⟨b, off + k, none⟩ = .some u := by
  obtain ⟨b, off, rfl, hlt, _⟩ := h 0 _ (List.getElem?_eq_getElem h0)
  refine ⟨b, off, rfl, hlt, fun k u hu => ?_⟩
  obtain ⟨b2, o2, he, _, hc⟩ := h k u hu
  injection he with he; injection he with h1 h2
  subst h1; subst h2; exact hc
theorem RV.take (h : RV w A vs) (n : Nat) : RV w A (vs.take n) := fun k u hu => h k u (by
  rw [List.getElem?_take] at hu
  split at hu
  · exact hu
  · cases hu)
theorem OwnVs.lt (h : OwnVs base E w v vs) : ∀ k, v.ownBlock = .some k → base ≤ k ∧ k < w.heap.size := World.ownsRow.lt h
theorem OwnVs.kept {row : Option Nat} (h : OwnVs base E w v vs) (hg : w.grownBy w' row) (hne : v.ownBlock = none ∨ v.ownBlock ≠ row) : OwnVs base E w' v vs := World.ownsRow.kept h hg hne
theorem OwnVs.below (h : OwnVs base E w v vs) (hg : Below B w w') (hB : w.heap.size ≤ B) : OwnVs base E w' v vs := by
  refine ⟨h.1, ?_⟩
  rcases h.2 with h2 | ⟨g, cap, cur, hv, hb, hh, r⟩
  · exact .inl h2
  · exact .inr ⟨g, cap, cur, hv, hb, by rw [hg.block g (by have := (Array.getElem?_eq_some_iff.1 hh).1; omega)]; exact hh, r⟩
theorem OwnVs.drewN (h : OwnVs base E w v vs) (n : Nat) : OwnVs base E (w.drewN n) v vs := h
theorem OwnVs.alloc (h : OwnVs base E w v vs) (o : Obj) : OwnVs base E (w.alloc o) v vs := World.ownsRow.alloc h o
theorem OwnVs.nil (base : Nat) (E : TypeId) (w : World) : OwnVs base E w (.slice none 0 0) [] := World.ownsRow_nil w base _ 1
theorem OwnVs.form (h : OwnVs base E w v vs) : ∃ A n cap, v = .slice A n cap ∧ RV w A vs ∧ Hid (n = vs.length) ∧ n ≤ cap := by
  rcases h.2 with ⟨rfl, h0⟩ | ⟨g, cap, cur, rfl, hb, hh, hn, hm, hs, ht⟩
  · refine ⟨none, 0, 0, rfl, fun k u hu => ?_, h0.symm, Nat.le_refl _⟩
    have := (List.getElem?_eq_some_iff.1 hu).1; omega
  · refine ⟨_, _, cap, rfl, fun k u hu => ⟨g, 0, rfl, (Array.getElem?_eq_some_iff.1 hh).1, ?_⟩, (rfl : _ = _), hn⟩
    rw [Nat.zero_add, cell_of_row _ _ _ _ _ _ hh]
    rw [← ht] at hu
    simp only [Nat.mul_one, List.getElem?_take] at hu
    split at hu
    · simpa using hu
    · cases hu
end
end Go.Proofs.YtajkgcmopmpihaaGreatDoor
