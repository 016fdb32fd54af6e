/- Texts put together: JvK JrD JrG RdB. -/
import Derived.Test.YtkbcbikilgcckaaGreatDoorZ3b60d505ed
import Derived.Test.YtkbcbikilgcckaaGreatDoorZde89d2bae6
import Derived.Test.YtkbcbikilgcckaaGreatDoorZae04991262
import Derived.Test.YtkbcbikilgcckaaGreatDoorZb7a362efa3
namespace Go.Proofs.YtkbcbikilgcckaaGreatDoor
open Go.ChangeShapes Go.WideShapes Go.ChangeAt Go.RowKit Go.IntWalk
set_option linter.unusedVariables false
set_option maxRecDepth 100000

def RowK (lo base : Nat) (mem : Bool) (w : World) (L : Value) (t : JT) (k : Nat) : Prop :=
  ∃ cs : List Value, w.ownsRow base (tyM mem) (stM mem) L k cs ∧ ∀ i, i < k → RowE (fun b => (b < lo ∨ base ≤ b) ∧ b < w.heap.size ∧ L.ownBlock ≠ some b) mem w cs t i
section
variable {lo base k : Nat} {mem : Bool} {w w' : World} {L : Value} {t : JT}
theorem RowK.nil (lo base : Nat) (mem : Bool) (w : World) (t : JT) : RowK lo base mem w (.slice none 0 0) t 0 := ⟨[], World.ownsRow_nil w base _ _, fun i hi => absurd hi (Nat.not_lt_zero i)⟩
theorem RowK.lt (h : RowK lo base mem w L t k) : ∀ b, L.ownBlock = some b → base ≤ b ∧ b < w.heap.size := by obtain ⟨cs, h1, _⟩ := h; exact World.ownsRow.lt h1
theorem RowK.below (h : RowK lo base mem w L t k) (hg : Below w.heap.size w w') : RowK lo base mem w' L t k := by
  obtain ⟨cs, h0, h1⟩ := h
  refine ⟨cs, ⟨h0.1, ?_⟩, fun i hi => ⟨(h1 i hi).1, ?_⟩⟩
  · rcases h0.2 with h2 | ⟨g, cap, cur, hv, hb, hh, r⟩
    · exact .inl h2
    · exact .inr ⟨g, cap, cur, hv, hb, by rw [hg.block g ((Array.getElem?_eq_some_iff.1 hh).1)]; exact hh, r⟩
  · obtain ⟨_, e, h2, h3⟩ := h1 i hi
    exact ⟨e, h2, h3.stay (fun b o hb => hg.cell (p := ⟨b, o, none⟩) hb.2.1) (fun b hb => ⟨hb.1, Nat.lt_of_lt_of_le hb.2.1 hg.size, hb.2.2⟩)⟩
theorem RowK.alloc (h : RowK lo base mem w L t k) (o : Obj) : RowK lo base mem (w.alloc o) L t k := h.below ((Below.refl _ _).alloc (Nat.le_refl _) _)
theorem RowK.drewN (h : RowK lo base mem w L t k) (n : Nat) : RowK lo base mem (w.drewN n) L t k := h.below ((Below.refl _ _).drewN n)
theorem RowK.grown {w0 : World} (hb : Below base w0 w) (h : RowK lo base mem w L t k) (hg : w.grownBy w' L.ownBlock) (hw : base ≤ w.heap.size) : Below base w0 w' := by
  refine ⟨hg.os.trans hb.os, hg.tape.trans hb.tape, hg.output.trans hb.output, Nat.le_trans hb.size hg.size, fun k hk => ?_⟩
  refine (hg.block k (Nat.lt_of_lt_of_le hk hw) (fun e => ?_)).trans (hb.block k hk)
  have := (h.lt k e.symm).1
  omega
theorem RowK.app {cs : List Value} {g cap : Nat} (h1 : ∀ i, i < k → RowE (fun b => (b < lo ∨ base ≤ b) ∧ b < w.heap.size ∧ L.ownBlock ≠ some b) mem w cs t i) (hl : cs.length = k * stM mem)
    (hg : w.grownBy w' L.ownBlock) (hgg : L.ownBlock = some g ∨ g = w.heap.size) (e : List Value)
    (hkey : if mem then (t.fall k).key.length ≤ 140737488355328 else (t.fall k).key = [])
    (h' : w'.ownsRow base (tyM mem) (stM mem) (.slice (some ⟨g, 0, none⟩) (k + 1) cap) (k + 1) (cs ++ newC mem (t.fall k).key e))
    (hc : JCs (fun b => (b < lo ∨ base ≤ b) ∧ b < w.heap.size ∧ L.ownBlock ≠ some b) w e (t.fall k).val) : RowK lo base mem w' (.slice (some ⟨g, 0, none⟩) (k + 1) cap) t (k + 1) := by
  have hst : ∀ {e : List Value} {v : Jv}, JCs (fun b => (b < lo ∨ base ≤ b) ∧ b < w.heap.size ∧ L.ownBlock ≠ some b) w e v →
      JCs (fun b => (b < lo ∨ base ≤ b) ∧ b < w'.heap.size ∧ (Value.slice (some ⟨g, 0, none⟩) (k + 1) cap).ownBlock ≠ some b) w' e v := fun h =>
    h.stay (fun b o hb => hg.cell_far ⟨b, o, none⟩ hb.2.1 (fun e => hb.2.2 e.symm)) (fun b hb => ⟨hb.1, Nat.lt_of_lt_of_le hb.2.1 hg.size, fun e => by
      simp only [Value.ownBlock, Option.some.injEq] at e
      rcases hgg with h2 | h2
      · exact hb.2.2 (by rw [h2, e])
      · have := hb.2.1; omega⟩)
  refine ⟨_, h', fun i hi => ?_⟩
  rcases Nat.lt_succ_iff_lt_or_eq.1 hi with hi | rfl
  · obtain ⟨h2, e2, h3, h4⟩ := h1 i hi
    refine ⟨?_, e2, fun j v hj => getD_app_l (h3 j v hj), hst h4⟩
    cases mem with
    | true => exact ⟨getD_app_l h2.1, h2.2⟩
    | false => exact h2
  · refine ⟨?_, e, fun j v hj => ?_, hst hc⟩
    · cases mem with
      | true => refine ⟨?_, hkey⟩; rw [← hl, show cs.length = cs.length + 0 from rfl, getD_app_r]; rfl
      | false => exact hkey
    · rw [← hl, Nat.add_assoc, getD_app_r]
      cases mem with
      | true => rw [show kwM true = 1 from rfl, Nat.add_comm]; exact hj
      | false => rw [show kwM false = 0 from rfl, Nat.zero_add]; exact hj
theorem RowK.done (h : RowK lo base mem w L t t.ext) (he : t.ext ≤ 140737488355328) : ∃ (A : Option Addr) (c : Nat), L = .slice A t.ext c ∧ Room t.ext c t.ext ∧ JSl (fun b => (b < lo ∨ base ≤ b) ∧ b < w.heap.size) w mem A t := by
  obtain ⟨cs, h0, h1⟩ := h
  rcases h0.2 with ⟨rfl, hn⟩ | ⟨g, cap, cur, rfl, hb, hh, hnc, hmx, hs, ht⟩
  · refine ⟨none, 0, by rw [hn], ⟨rfl, by omega, he⟩, .inl ?_⟩
    cases t with
    | nil => rfl
    | cons => simp [JT.ext] at hn
  · refine ⟨_, cap, rfl, ⟨rfl, hnc, he⟩, .inr ⟨g, 0, rfl, ⟨.inr hb, (Array.getElem?_eq_some_iff.1 hh).1⟩, JIn.of t mem g 0 (fun i hi => ?_)⟩⟩
    have hc : ∀ (k : Nat) (u : Value), cs[k]? = some u → w.cell? ⟨g, k, none⟩ = some u := fun k u hu => by
      rw [cell_of_row _ _ _ _ _ _ hh]
      rw [← ht] at hu
      simp only [List.getElem?_take] at hu
      split at hu
      · simpa using hu
      · cases hu
    obtain ⟨h2, e, h3, h4⟩ := h1 i hi
    refine ⟨?_, e, fun j v hj => ?_, h4.stay (fun _ _ _ => rfl) (fun b hb => ⟨hb.1, hb.2.1⟩)⟩
    · cases mem with
      | true => exact ⟨by rw [Nat.zero_add]; exact hc _ _ h2.1, h2.2⟩
      | false => exact h2
    · rw [Nat.zero_add]; exact hc _ _ (h3 j v hj)
end
/-- 'append(own, one element)'. -/
theorem wp_append_rowK {o : Oper} {a : Act} {K : Act → World → Prop} {Q : Exit → Act → World → Prop} {W : World} (mem : Bool) (s x : Operand)
    (ho : o.op = .call { callee := .builtin .append, args := #[s, x], argTypes := #[tsM mem, tsM mem] })
    (lo base : Nat) (L : Value) (t : JT) (k : Nat) (hs : a.eval s = L) (hrow : RowK lo base mem W L t k) (hk : k ≤ 1000000) (hbW : base ≤ W.heap.size)
    (B : Nat) (e : List Value) (hkey : if mem then (t.fall k).key.length ≤ 140737488355328 else (t.fall k).key = [])
    (hx : a.eval x = .slice (some ⟨B, 0, none⟩) 1 1) (hB : Blk W B (tyM mem) (newC mem (t.fall k).key e)) (hc : JCs (fun b => (b < lo ∨ base ≤ b) ∧ b < W.heap.size ∧ L.ownBlock ≠ some b) W e (t.fall k).val)
    (h : ∀ A c w', RowK lo base mem w' (.slice A (k + 1) c) t (k + 1) → W.grownBy w' L.ownBlock → K (a.put o.dst (.slice A (k + 1) c)) w') : o.wp Tryz.prog a W K Q := by
  obtain ⟨i, z, hi, hz, hsz, hby, hzs⟩ := info_row mem
  obtain ⟨cs, hown, h1⟩ := hrow
  have h6 : e.length = 6 := by obtain ⟨A, nl, cl, B, nm, cm, rfl, _⟩ := hc; rfl
  have h1c : ∀ u ∈ newC mem (t.fall k).key e, u.oneCell' = true := by
    obtain ⟨A, nl, cl, B, nm, cm, rfl, _⟩ := hc
    intro u hu
    cases mem with
    | true =>
      simp only [newC, if_true, List.mem_cons, List.not_mem_nil, or_false] at hu
      rcases hu with rfl | rfl | rfl | rfl | rfl | rfl | rfl <;> rfl
    | false =>
      simp only [newC, Bool.false_eq_true, if_false, List.mem_cons, List.not_mem_nil, or_false] at hu
      rcases hu with rfl | rfl | rfl | rfl | rfl | rfl <;> rfl
  have hnl : (newC mem (t.fall k).key e).length = 1 * stM mem := by
    cases mem with
    | true => simp [newC, h6, stM, kwM]
    | false => simp [newC, h6, stM, kwM]
  have hb : (k + 1) * i.bytes ≤ 140737488355328 := by
    rw [hby]
    cases mem with
    | true => simp only [if_true]; omega
    | false => simp only [Bool.false_eq_true, if_false]; omega
  refine wp_append_lies W s x (tsM mem) ho base (tyM mem) i z (stM mem) i.bytes (under_row mem) hi hz hsz rfl hzs (by cases mem <;> decide) L k cs hs hown ⟨B, 0, none⟩ 1 1 (newC mem (t.fall k).key e) hx hnl ?_ h1c (by decide) (Nat.le_trans (show k + 1 ≤ 1000001 by omega) (by decide)) hb hbW _ rfl ?_
  · intro j u hj
    have hplain : (⟨B, 0, none⟩ : Addr).add j = ⟨B, j, none⟩ := by unfold Addr.add; split <;> simp_all
    rw [hplain]
    exact hB.cell hj
  · intro g cap w' h2 h3 h4 _
    exact h _ cap w' (RowK.app h1 hown.1 h3 h4 e hkey h2 hc) h3
/-- .. in a list of operations, the element just built. -/
theorem wpList_append_rowK {ops : Array Oper} {rest : List Oper} {o : Oper} {a : Act} {Q : Exit → Act → World → Prop} {W : World} (mem : Bool) (hgd : o.guard = none) (s x : Operand)
    (ho : o.op = .call { callee := .builtin .append, args := #[s, x], argTypes := #[tsM mem, tsM mem] })
    (lo base : Nat) (L : Value) (t : JT) (k : Nat) (hs : a.eval s = L) (hrow : RowK lo base mem W L t k) (hk : k ≤ 1000000) (hbW : base ≤ W.heap.size)
    (e : List Value) (hkey : if mem then (t.fall k).key.length ≤ 140737488355328 else (t.fall k).key = []) (C : Array Value) (T : TypeId) (hT : T = tyM mem) (hC : C = (newC mem (t.fall k).key e).toArray)
    (hx : a.eval x = .slice (some ⟨W.heap.size, 0, none⟩) 1 1) (hc : JCs (fun b => (b < lo ∨ base ≤ b) ∧ b < W.heap.size ∧ L.ownBlock ≠ some b) W e (t.fall k).val)
    (h : ∀ A c w', RowK lo base mem w' (.slice A (k + 1) c) t (k + 1) → W.grownBy w' L.ownBlock → wpList Tryz.prog ops Q rest (a.put o.dst (.slice A (k + 1) c)) w') :
    wpList Tryz.prog ops Q (o :: rest) a (W.alloc (.cells C T)) := by
  subst hT hC
  refine wpList_plain hgd fun K hK => wp_append_rowK mem s x ho lo base L t k hs (hrow.alloc _) hk (by simp; omega) W.heap.size e hkey hx (Blk.new W _ _) ?_ ?_
  · exact hc.stay (fun b o hb => ((Below.refl _ _).alloc (Nat.le_refl _) _ : Below W.heap.size W _).cell (p := ⟨b, o, none⟩) hb.2.1) (fun b hb => ⟨hb.1, by have := hb.2.1; simp; omega, hb.2.2⟩)
  · intro A c w' h1 h2
    exact hK _ _ (h A c w' h1 ⟨h2.os, h2.tape, h2.output, Nat.le_trans (by simp) h2.size, fun k hk hne => (h2.block k (by simp; omega) hne).trans (heap_alloc_old W _ hk)⟩)
end Go.Proofs.YtkbcbikilgcckaaGreatDoor
namespace Go.Proofs.YtkbcbikilgcckaaGreatDoor
open Go.ChangeShapes Go.WideShapes Go.ChangeAt Go.RowKit Go.IntWalk
set_option linter.unusedVariables false
set_option maxRecDepth 100000

/-- What of a member stays. -/
def keptO (kind k : List UInt8) (mv : Jv) : Option Jv :=
  if kind = kind0 ∧ k = tpiK ∧ mv.kd = 5 then (mv.m.findV sgnK).map fun x => mapV (JT.one sgnK x .nil) else if k ∈ staysL kind then some mv else none
def docJ (kind : List UInt8) : JT → JT
  | .nil => .nil
  | .cons k kd is n s l m r => match keptO kind k ⟨kd, is, n, s, l, m⟩ with
    | some u => JT.one k u (docJ kind r)
    | none => docJ kind r
theorem docJ_at (kind : List UInt8) {t : JT} {i : Nat} (h : i < t.ext) : docJ kind (t.fall i) = match keptO kind (t.fall i).key (t.fall i).val with
    | some u => JT.one (t.fall i).key u (docJ kind (t.fall (i + 1)))
    | none => docJ kind (t.fall (i + 1)) := (congrArg (docJ kind) (t.fall_of_lt i h)).trans rfl
theorem docJ_end (kind : List UInt8) {t : JT} {i : Nat} (h : t.ext ≤ i) : docJ kind (t.fall i) = .nil := by rw [t.fall_all i h]; rfl
def dcntJ (kind : List UInt8) (v : Jv) : Jv := if kind = [109, 46, 114, 111, 111, 109, 46, 99, 114, 101, 97, 116, 101] then v else if v.kd = 5 then mapV (docJ kind v.m) else mapV .nil
/-- The state of the loop over the members: the box out lies at G. -/
def DocSt (lo G : Nat) (R : JT) (kind : List UInt8) (v : Jv) (q : Nat) (wr : World) : Prop := ∃ (k : Nat) (B : Option Addr) (cm : Nat), Blk wr G 25 [.int .i64 5, .bool false, .int .i64 0, .string ⟨#[]⟩, .slice none 0 0, .slice B k cm] ∧ RowK lo (G + 1) true wr (.slice B k cm) R k ∧
  R.fall k = docJ kind (v.m.fall q) ∧ k ≤ R.ext ∧ k ≤ q
theorem tpi_not (kind : List UInt8) : tpiK ∉ staysL kind := by
  unfold staysL
  repeat' split
  all_goals decide
theorem kept_else {kind k : List UInt8} {mv : Jv} (h : ¬ (kind = kind0 ∧ k = tpiK ∧ mv.kd = 5)) : keptO kind k mv = if k ∈ staysL kind then some mv else none := if_neg h
theorem kept_tpi {kind k : List UInt8} {mv : Jv} (hk : k = tpiK) (h : ¬ (kind = kind0 ∧ mv.kd = 5)) : keptO kind k mv = none := by
  rw [kept_else (fun e => h ⟨e.1, e.2.2⟩), hk, if_neg (tpi_not kind)]
theorem kept_sgn {kind k : List UInt8} {mv : Jv} (h1 : kind = kind0) (h2 : k = tpiK) (h3 : mv.kd = 5) : keptO kind k mv = (mv.m.findV sgnK).map fun x => mapV (JT.one sgnK x .nil) := if_pos ⟨h1, h2, h3⟩
theorem RowK.set {lo base k g o : Nat} {mem : Bool} {w : World} {L v : Value} {t : JT} (h : RowK lo base mem w L t k) (h1 : lo ≤ g) (h2 : g < base) : RowK lo base mem (w.setCell ⟨g, o, none⟩ v) L t k := by
  obtain ⟨cs, h0, h3⟩ := h
  refine ⟨cs, ⟨h0.1, ?_⟩, fun i hi => ⟨(h3 i hi).1, ?_⟩⟩
  · rcases h0.2 with h4 | ⟨G, cap, cur, hv, hb, hh, r⟩
    · exact .inl h4
    · exact .inr ⟨G, cap, cur, hv, hb, (Deep.blk_setCell_other _ _ _ _ (show G ≠ g by omega)).trans hh, r⟩
  · obtain ⟨_, e, h5, h6⟩ := h3 i hi
    refine ⟨e, h5, h6.stay (fun b o' hb => World.cell?_of_block (w := w) (Deep.blk_setCell_other _ _ _ _ (show b ≠ g by have := hb.1; omega))) (fun b hb => ⟨hb.1, by simpa [World.setCell] using hb.2.1, hb.2.2⟩)⟩
theorem kd_neT {a b : Int} (h : ¬ a = b) : (a != b) = true := by rw [bne_iff_ne]; exact h
theorem kd_eqF {a b : Int} (h : a = b) : (a != b) = false := by simp [h]
theorem dcntJ_oth {kind : List UInt8} {v : Jv} (h1 : kind ≠ [109, 46, 114, 111, 111, 109, 46, 99, 114, 101, 97, 116, 101]) (h2 : ¬ v.kd = 5) : dcntJ kind v = mapV .nil := by unfold dcntJ; rw [if_neg h1, if_neg h2]
theorem dcntJ_map {kind : List UInt8} {v : Jv} (h1 : kind ≠ [109, 46, 114, 111, 111, 109, 46, 99, 114, 101, 97, 116, 101]) (h2 : v.kd = 5) : dcntJ kind v = mapV (docJ kind v.m) := by unfold dcntJ; rw [if_neg h1, if_pos h2]
set_option maxHeartbeats 16000000 in
theorem refcontent_cre (kind : List UInt8) (v : Jv) (A0 B0 : Option Addr) (nl0 cl0 nm0 cm0 : Nat) (w : World) (hv : VOk w v A0 B0 nl0 cl0 nm0 cm0) (hbk : v.m.ext ≤ 50000) (hc : kind = [109, 46, 114, 111, 111, 109, 46, 99, 114, 101, 97, 116, 101]) :
    Calls Tryz.prog 21 #[.string ⟨kind.toArray⟩, .agg #[.int .i64 v.kd, .bool v.is, .int .i64 v.n, .string ⟨v.s.toArray⟩, .slice A0 nl0 cl0, .slice B0 nm0 cm0]] w (CtPost (dcntJ kind v) w) := by
  have b2 : Below w.heap.size w ((w.alloc (.cells #[.int .i64 v.kd, .bool v.is, .int .i64 v.n, .string ⟨v.s.toArray⟩, .slice A0 nl0 cl0, .slice B0 nm0 cm0] 25)).alloc (.cells #[.int .i64 0, .bool false, .int .i64 0, .string ⟨#[]⟩, .slice none 0 0, .slice none 0 0] 25)) := ((Below.refl _ _).alloc (Nat.le_refl _) _).alloc (by simp) _
  have hx : Blk ((w.alloc (.cells #[.int .i64 v.kd, .bool v.is, .int .i64 v.n, .string ⟨v.s.toArray⟩, .slice A0 nl0 cl0, .slice B0 nm0 cm0] 25)).alloc (.cells #[.int .i64 0, .bool false, .int .i64 0, .string ⟨#[]⟩, .slice none 0 0, .slice none 0 0] 25)) w.heap.size 25 [.int .i64 v.kd, .bool v.is, .int .i64 v.n, .string ⟨v.s.toArray⟩, .slice A0 nl0 cl0, .slice B0 nm0 cm0] := (Blk.new w [.int .i64 v.kd, .bool v.is, .int .i64 v.n, .string ⟨v.s.toArray⟩, .slice A0 nl0 cl0, .slice B0 nm0 cm0] 25).alloc _
  have hz : Blk ((w.alloc (.cells #[.int .i64 v.kd, .bool v.is, .int .i64 v.n, .string ⟨v.s.toArray⟩, .slice A0 nl0 cl0, .slice B0 nm0 cm0] 25)).alloc (.cells #[.int .i64 0, .bool false, .int .i64 0, .string ⟨#[]⟩, .slice none 0 0, .slice none 0 0] 25)) (w.heap.size + 1) 25 [.int .i64 0, .bool false, .int .i64 0, .string ⟨#[]⟩, .slice none 0 0, .slice none 0 0] := by have h := Blk.new (w.alloc (.cells #[.int .i64 v.kd, .bool v.is, .int .i64 v.n, .string ⟨v.s.toArray⟩, .slice A0 nl0 cl0, .slice B0 nm0 cm0] 25)) [.int .i64 0, .bool false, .int .i64 0, .string ⟨#[]⟩, .slice none 0 0, .slice none 0 0] 25; rw [show (w.alloc (.cells #[.int .i64 v.kd, .bool v.is, .int .i64 v.n, .string ⟨v.s.toArray⟩, .slice A0 nl0 cl0, .slice B0 nm0 cm0] 25)).heap.size = w.heap.size + 1 by simp] at h; exact h
  have HV0 := Lib.hid hv
  have HN := Lib.hid (And.intro hv.2.1.1 hv.2.1.2.2)
  have HBK := Lib.hid hbk
  have HW := Lib.hid (And.intro b2 (And.intro hx hz))
  clear b2 hx hz hv hbk
  go_enter Tryz.func21, Tryz.ntmps21
  go_upto_region 1 with fail
  refine wp_gen (fun W => Below w.heap.size w W ∧ Blk W w.heap.size 25 [.int .i64 v.kd, .bool v.is, .int .i64 v.n, .string ⟨v.s.toArray⟩, .slice A0 nl0 cl0, .slice B0 nm0 cm0] ∧ Blk W (w.heap.size + 1) 25 [.int .i64 0, .bool false, .int .i64 0, .string ⟨#[]⟩, .slice none 0 0, .slice none 0 0]) HW.out ?_
  clear HW
  rintro wg ⟨gb, gx, gz⟩
  have HB := Lib.hid gb
  have HX := Lib.hid gx
  have HZ := Lib.hid gz
  obtain ⟨d0, d1, d2, d3, d4, d5, _⟩ := cells6s gx
  obtain ⟨z0, z1, z2, z3, z4, z5, y0, y1, y2, y3, y4, y5⟩ := cells6s gz
  clear gb gx gz
  have hcb : (kind == [109, 46, 114, 111, 111, 109, 46, 99, 114, 101, 97, 116, 101]) = true := by rw [beq_iff_eq]; exact hc
  have HE := Lib.hid (show dcntJ kind v = v by unfold dcntJ; rw [if_pos hc])
  clear hc
  go_wp2_with fail
  rw [HE.out]
  have hb9 : Below w.heap.size w (set6o wg (w.heap.size + 1) 0 (.int .i64 v.kd) (.bool v.is) (.int .i64 v.n) (.string ⟨v.s.toArray⟩) (.slice A0 nl0 cl0) (.slice B0 nm0 cm0)) := below6o HB.out (by omega)
  have hv9 := HV0.out.below hb9
  exact bodyPost_ret (res_cell6 rfl _ ⟨w.heap.size + 1, 0, none⟩ _ _ rfl (Blk.load (blk6o (o := 0) HZ.out) _ Tryz.underlying25 rfl size_v6)) rfl ⟨⟨A0, B0, nl0, cl0, nm0, cm0, rfl, hv9⟩, hb9⟩
set_option maxHeartbeats 16000000 in
theorem refcontent_oth (kind : List UInt8) (v : Jv) (A0 B0 : Option Addr) (nl0 cl0 nm0 cm0 : Nat) (w : World) (hv : VOk w v A0 B0 nl0 cl0 nm0 cm0) (hbk : v.m.ext ≤ 50000) (hc : kind ≠ [109, 46, 114, 111, 111, 109, 46, 99, 114, 101, 97, 116, 101]) (h5 : ¬ v.kd = 5) :
    Calls Tryz.prog 21 #[.string ⟨kind.toArray⟩, .agg #[.int .i64 v.kd, .bool v.is, .int .i64 v.n, .string ⟨v.s.toArray⟩, .slice A0 nl0 cl0, .slice B0 nm0 cm0]] w (CtPost (dcntJ kind v) w) := by
  have b2 : Below w.heap.size w ((w.alloc (.cells #[.int .i64 v.kd, .bool v.is, .int .i64 v.n, .string ⟨v.s.toArray⟩, .slice A0 nl0 cl0, .slice B0 nm0 cm0] 25)).alloc (.cells #[.int .i64 0, .bool false, .int .i64 0, .string ⟨#[]⟩, .slice none 0 0, .slice none 0 0] 25)) := ((Below.refl _ _).alloc (Nat.le_refl _) _).alloc (by simp) _
  have hx : Blk ((w.alloc (.cells #[.int .i64 v.kd, .bool v.is, .int .i64 v.n, .string ⟨v.s.toArray⟩, .slice A0 nl0 cl0, .slice B0 nm0 cm0] 25)).alloc (.cells #[.int .i64 0, .bool false, .int .i64 0, .string ⟨#[]⟩, .slice none 0 0, .slice none 0 0] 25)) w.heap.size 25 [.int .i64 v.kd, .bool v.is, .int .i64 v.n, .string ⟨v.s.toArray⟩, .slice A0 nl0 cl0, .slice B0 nm0 cm0] := (Blk.new w [.int .i64 v.kd, .bool v.is, .int .i64 v.n, .string ⟨v.s.toArray⟩, .slice A0 nl0 cl0, .slice B0 nm0 cm0] 25).alloc _
  have hz : Blk ((w.alloc (.cells #[.int .i64 v.kd, .bool v.is, .int .i64 v.n, .string ⟨v.s.toArray⟩, .slice A0 nl0 cl0, .slice B0 nm0 cm0] 25)).alloc (.cells #[.int .i64 0, .bool false, .int .i64 0, .string ⟨#[]⟩, .slice none 0 0, .slice none 0 0] 25)) (w.heap.size + 1) 25 [.int .i64 0, .bool false, .int .i64 0, .string ⟨#[]⟩, .slice none 0 0, .slice none 0 0] := by have h := Blk.new (w.alloc (.cells #[.int .i64 v.kd, .bool v.is, .int .i64 v.n, .string ⟨v.s.toArray⟩, .slice A0 nl0 cl0, .slice B0 nm0 cm0] 25)) [.int .i64 0, .bool false, .int .i64 0, .string ⟨#[]⟩, .slice none 0 0, .slice none 0 0] 25; rw [show (w.alloc (.cells #[.int .i64 v.kd, .bool v.is, .int .i64 v.n, .string ⟨v.s.toArray⟩, .slice A0 nl0 cl0, .slice B0 nm0 cm0] 25)).heap.size = w.heap.size + 1 by simp] at h; exact h
  have HV0 := Lib.hid hv
  have HN := Lib.hid (And.intro hv.2.1.1 hv.2.1.2.2)
  have HBK := Lib.hid hbk
  have HW := Lib.hid (And.intro b2 (And.intro hx hz))
  clear b2 hx hz hv hbk
  go_enter Tryz.func21, Tryz.ntmps21
  go_upto_region 1 with fail
  refine wp_gen (fun W => Below w.heap.size w W ∧ Blk W w.heap.size 25 [.int .i64 v.kd, .bool v.is, .int .i64 v.n, .string ⟨v.s.toArray⟩, .slice A0 nl0 cl0, .slice B0 nm0 cm0] ∧ Blk W (w.heap.size + 1) 25 [.int .i64 0, .bool false, .int .i64 0, .string ⟨#[]⟩, .slice none 0 0, .slice none 0 0]) HW.out ?_
  clear HW
  rintro wg ⟨gb, gx, gz⟩
  have HB := Lib.hid gb
  have HX := Lib.hid gx
  have HZ := Lib.hid gz
  obtain ⟨d0, d1, d2, d3, d4, d5, _⟩ := cells6s gx
  obtain ⟨z0, z1, z2, z3, z4, z5, y0, y1, y2, y3, y4, y5⟩ := cells6s gz
  clear gb gx gz
  have hcb : (kind == [109, 46, 114, 111, 111, 109, 46, 99, 114, 101, 97, 116, 101]) = false := by rw [beq_eq_false_iff_ne]; exact hc
  have hn5 := kd_neT h5
  have HE := Lib.hid (dcntJ_oth hc h5)
  clear hc h5
  go_upto_region 4 with fail
  refine wp_gen (fun W => Below wg.heap.size wg W ∧ Blk W wg.heap.size 25 [.int .i64 5, .bool false, .int .i64 0, .string ⟨#[]⟩, .slice none 0 0, .slice none 0 0]) ⟨(Below.refl _ _).alloc (Nat.le_refl _) _, Blk.new _ _ _⟩ ?_
  rintro wo ⟨gb, go⟩
  have HZ2 := Lib.hid (HZ.out.later gb)
  have HX2 := Lib.hid (HX.out.later gb)
  have HB2 := Lib.hid (HB.out.then_ gb)
  obtain ⟨o0, o1, o2, o3, o4, o5, _⟩ := cells6s go
  clear gb go d0 d1 d2 d3 d4 d5 z0 z1 z2 z3 z4 z5 y0 y1 y2 y3 y4 y5
  obtain ⟨d0, d1, d2, d3, d4, d5, _⟩ := cells6s HX2.out
  obtain ⟨z0, z1, z2, z3, z4, z5, y0, y1, y2, y3, y4, y5⟩ := cells6s HZ2.out
  go_wp2_with fail
  rw [HE.out]
  exact bodyPost_ret (res_cell6 rfl _ ⟨w.heap.size + 1, 0, none⟩ _ _ rfl (Blk.load (blk6o (o := 0) HZ2.out) _ Tryz.underlying25 rfl size_v6)) rfl ⟨⟨none, none, 0, 0, 0, 0, rfl, ⟨rfl, Nat.le_refl _, by decide⟩, ⟨rfl, Nat.le_refl _, by decide⟩, .inl rfl, .inl rfl, by unfold Fit mapV; decide⟩, below6o HB2.out (by omega)⟩
end Go.Proofs.YtkbcbikilgcckaaGreatDoor
namespace Go.Proofs.YtkbcbikilgcckaaGreatDoor
open Go.ChangeShapes Go.WideShapes Go.ChangeAt Go.RowKit Go.Lib
set_option linter.unusedVariables false

theorem snoc_app : ∀ (t : JT) (k : List UInt8) (u : Jv), t.snoc k u = t.app (JT.one k u .nil)
  | .nil, k, u => rfl
  | .cons k0 kd is n s l m r, k, u => by simp only [JT.snoc, JT.app, snoc_app r k u]
/-- What is laid of a row, by a list of keys. -/
def buildJ (f : List UInt8 → Jv → Option Jv) (t : JT) : List (List UInt8) → JT
  | [] => .nil
  | k :: ks => match (t.findV k).bind (f k) with
    | some u => JT.one k u (buildJ f t ks)
    | none => buildJ f t ks
theorem build_cons (f : List UInt8 → Jv → Option Jv) (t : JT) (k : List UInt8) (ks : List (List UInt8)) : buildJ f t (k :: ks) = match (t.findV k).bind (f k) with
    | some u => JT.one k u (buildJ f t ks)
    | none => buildJ f t ks := rfl
theorem build_app (f : List UInt8 → Jv → Option Jv) (t : JT) : ∀ a b : List (List UInt8), buildJ f t (a ++ b) = (buildJ f t a).app (buildJ f t b)
  | [], b => rfl
  | k :: ks, b => by
    rw [List.cons_append, build_cons, build_cons, build_app f t ks b]
    cases (t.findV k).bind (f k) <;> rfl
theorem findV_none : ∀ {t : JT} {k : List UInt8}, k ∉ t.keys → t.findV k = none
  | .nil, k, _ => rfl
  | .cons k0 kd is n s l m r, k, h => by
    unfold JT.keys at h
    rw [List.mem_cons] at h
    unfold JT.findV
    rw [if_neg (fun e => h (.inl e.symm))]
    exact findV_none (fun e => h (.inr e))
theorem build_skip {f : List UInt8 → Jv → Option Jv} {k0 s : List UInt8} {kd n : Int} {is : Bool} {l m r : JT} : ∀ (L : List (List UInt8)), k0 ∉ L → buildJ f (.cons k0 kd is n s l m r) L = buildJ f r L
  | [], _ => rfl
  | k :: ks, h => by
    rw [List.mem_cons] at h
    have e : (JT.cons k0 kd is n s l m r).findV k = r.findV k := by
      conv => lhs; unfold JT.findV
      rw [if_neg (fun e => h (.inl e))]
    rw [build_cons, build_cons, e, build_skip ks (fun e => h (.inr e))]
theorem build_nil (f : List UInt8 → Jv → Option Jv) : ∀ L : List (List UInt8), buildJ f .nil L = .nil
  | [] => rfl
  | k :: ks => by show buildJ f .nil ks = .nil; exact build_nil f ks
theorem doc_build (kind : List UInt8) : ∀ (t : JT) (L : List (List UInt8)), SortK t.keys → SortK L → (∀ k, k ∉ L → k ∈ t.keys → ∀ v, keptO kind k v = none) → docJ kind t = buildJ (keptO kind) t L
  | .nil, L, _, _, _ => (build_nil _ L).symm
  | .cons k0 kd is n s l m r, L, ht, hL, hz => by
    have ht1 : ∀ x ∈ r.keys, compareBytes k0 x = -1 := (List.pairwise_cons.1 ht).1
    have ht2 : SortK r.keys := (List.pairwise_cons.1 ht).2
    have hd : docJ kind (.cons k0 kd is n s l m r) = match keptO kind k0 ⟨kd, is, n, s, l, m⟩ with
      | some u => JT.one k0 u (docJ kind r)
      | none => docJ kind r := rfl
    have hmem : ∀ x, x ∈ (JT.cons k0 kd is n s l m r).keys ↔ x = k0 ∨ x ∈ r.keys := fun x => List.mem_cons
    induction L with
    | nil =>
      rw [hd, hz k0 (by simp) ((hmem k0).2 (.inl rfl))]
      exact (doc_build kind r [] ht2 hL (fun k h1 h2 => hz k h1 ((hmem k).2 (.inr h2)))).trans rfl
    | cons k1 ks ih =>
      have hL1 : ∀ x ∈ ks, compareBytes k1 x = -1 := (List.pairwise_cons.1 hL).1
      have hL2 : SortK ks := (List.pairwise_cons.1 hL).2
      rcases cb_three k0 k1 with hc | hc | hc
      · have hn : k0 ∉ k1 :: ks := by
          rw [List.mem_cons]
          rintro (e | e)
          · subst e; exact cb_irr hc
          · exact cb_irr (cb_trans hc (hL1 _ e))
        rw [hd, hz k0 hn ((hmem k0).2 (.inl rfl)), build_skip _ hn]
        exact doc_build kind r _ ht2 hL (fun k h1 h2 => hz k h1 ((hmem k).2 (.inr h2)))
      · have e := cb_eq hc
        subst e
        have hn : k0 ∉ ks := fun e => cb_irr (hL1 _ e)
        have hr := doc_build kind r ks ht2 hL2 (fun k h1 h2 => hz k (by
          rw [List.mem_cons]
          rintro (e | e)
          · subst e; exact cb_irr (ht1 _ h2)
          · exact h1 e) ((hmem k).2 (.inr h2)))
        rw [hd, hr]
        rw [build_cons, build_skip _ hn, show (JT.cons k0 kd is n s l m r).findV k0 = some ⟨kd, is, n, s, l, m⟩ from if_pos rfl]
        rfl
      · have hc' : compareBytes k1 k0 = -1 := by rw [cb_anti, hc]
        have hn : k1 ∉ (JT.cons k0 kd is n s l m r).keys := by
          rw [hmem]
          rintro (e | e)
          · subst e; exact cb_irr hc'
          · exact cb_irr (cb_trans hc' (ht1 _ e))
        rw [build_cons, findV_none hn]
        exact ih hL2 (fun k h1 h2 => hz k (by
          rw [List.mem_cons]
          rintro (e | e)
          · subst e; exact hn h2
          · exact h1 e) h2)
theorem out_build (kind : List UInt8) (v : Jv) (h5 : v.kd = 5) : ∀ (ks : List (List UInt8)) (t : JT), (∀ k ∈ ks, k ∈ staysL kind) → outJ v ks t = t.app (buildJ (keptO kind) v.m ks)
  | [], t, _ => (app_nil t).symm
  | k :: ks, t, h => by
    have hk := h k (List.mem_cons_self ..)
    have hne : k ≠ tpiK := fun e => tpi_not kind (e ▸ hk)
    have hf : ∀ mv, keptO kind k mv = some mv := fun mv => by rw [kept_else (fun e => hne e.2.1), if_pos hk]
    show outJ v ks (stepJ v t k) = _
    rw [out_build kind v h5 ks _ (fun x hx => h x (List.mem_cons_of_mem _ hx))]
    unfold stepJ getJ
    rw [if_pos h5]
    rw [build_cons]
    cases hv : v.m.findV k with
    | none => rfl
    | some mv =>
      show (t.snoc k mv).app _ = t.app _
      rw [show (some mv : Option Jv).bind (keptO kind k) = some mv from hf mv]
      rw [snoc_app, app_assoc]
      rfl
def keysX (kind : List UInt8) : List (List UInt8) := staysL kind ++ if kind = kind0 then [tpiK] else []
theorem fin_build (kind : List UInt8) (v : Jv) (h5 : v.kd = 5) : finJ kind v (outJ v (staysL kind) .nil) = buildJ (keptO kind) v.m (keysX kind) := by
  rw [out_build kind v h5 _ _ (fun _ h => h)]
  unfold finJ keysX
  rw [build_app]
  show (if kind = kind0 then _ else buildJ (keptO kind) v.m (staysL kind)) = _
  by_cases hk : kind = kind0
  · rw [if_pos hk, if_pos hk]
    unfold getJ
    rw [if_pos h5]
    rw [build_cons]
    cases hv : v.m.findV tpiK with
    | none =>
      exact (app_nil _).symm
    | some mv =>
      rw [show (some mv : Option Jv).getD nullV = mv from rfl, show (some mv : Option Jv).bind (keptO kind tpiK) = keptO kind tpiK mv from rfl]
      by_cases hm : mv.kd = 5
      · rw [if_pos hm, kept_sgn hk rfl hm]
        cases hs : mv.m.findV sgnK with
        | none => exact (app_nil _).symm
        | some x => exact snoc_app _ _ _
      · rw [if_neg hm, kept_tpi rfl (fun e => hm e.2)]
        exact (app_nil _).symm
  · rw [if_neg hk, if_neg hk]
    exact (app_nil _).symm
theorem out_none (v : Jv) (h5 : ¬ v.kd = 5) : ∀ (ks : List (List UInt8)) (t : JT), outJ v ks t = t
  | [], t => rfl
  | k :: ks, t => by
    show outJ v ks (stepJ v t k) = t
    unfold stepJ getJ
    rw [if_neg h5]
    exact out_none v h5 ks t
theorem cont_doc (kind : List UInt8) (v : Jv) (hr : risV v = true) : contJ kind v = dcntJ kind v := by
  unfold contJ dcntJ
  by_cases hc : kind = [109, 46, 114, 111, 111, 109, 46, 99, 114, 101, 97, 116, 101]
  · rw [if_pos hc, if_pos hc]
  rw [if_neg hc, if_neg hc]
  by_cases h5 : v.kd = 5
  · rw [if_pos h5, fin_build kind v h5, ← doc_build kind v.m (keysX kind) (sortJ_of (rise_top hr)) (staysX_sorted kind) (fun k h1 _ mv => ?_)]
    unfold keysX at h1
    unfold keptO
    rw [List.mem_append] at h1
    rw [if_neg, if_neg (fun e => h1 (.inl e))]
    rintro ⟨e1, e2, _⟩
    exact h1 (.inr (by rw [if_pos e1, e2]; exact List.mem_singleton.2 rfl))
  · rw [if_neg h5, out_none v h5]
    unfold finJ getJ
    rw [if_neg h5]
    by_cases hk : kind = kind0
    · rw [if_pos hk]; rfl
    · rw [if_neg hk]
/-- What stays hangs on what stands under the keys that stay alone. -/
theorem cont_more (kind : List UInt8) (v u : Jv) (hc : kind ≠ [109, 46, 114, 111, 111, 109, 46, 99, 114, 101, 97, 116, 101]) (h : ∀ k, k ∈ staysL kind ∨ k = tpiK → getJ v k = getJ u k) : contJ kind v = contJ kind u := by
  have ho : ∀ (ks : List (List UInt8)) (t : JT), (∀ k ∈ ks, k ∈ staysL kind) → outJ v ks t = outJ u ks t := by
    intro ks
    induction ks with
    | nil => intro t _; rfl
    | cons k ks ih =>
      intro t hk
      show outJ v ks (stepJ v t k) = outJ u ks (stepJ u t k)
      rw [show stepJ v t k = stepJ u t k by unfold stepJ; rw [h k (.inl (hk k (List.mem_cons_self ..)))]]
      exact ih _ (fun x hx => hk x (List.mem_cons_of_mem _ hx))
  unfold contJ
  rw [if_neg hc, if_neg hc, ho _ _ (fun _ h => h)]
  unfold finJ
  rw [h tpiK (.inr rfl)]
end Go.Proofs.YtkbcbikilgcckaaGreatDoor
namespace Go.Proofs.YtkbcbikilgcckaaGreatDoor
set_option linter.unusedVariables false

/-- It never fails with 0. -/
def NoZ (g : List UInt8 → Res) : Prop := ∀ b e, g b = .error e → e ≠ 0
theorem noz_lng (x : List UInt8) : NoZ (fun b => lng (b ++ x)) := by
  intro b e h
  simp only [lng] at h
  split at h
  · cases h
  · injection h with h; rw [← h]; decide
theorem noz_err (e : Int) (he : e ≠ 0) : NoZ (fun _ => .error e) := by intro b x h; injection h with h; rw [← h]; exact he
theorem noz_ok : NoZ (fun b => .ok b) := by intro b e h; cases h
theorem noz_ite {p : Prop} [Decidable p] {g h : List UInt8 → Res} (hg : NoZ g) (hh : NoZ h) : NoZ (fun b => if p then g b else h b) := by
  intro b e he
  by_cases hp : p
  · simp only [hp, if_true] at he; exact hg b e he
  · simp only [hp, if_false] at he; exact hh b e he
theorem noz_then {g h : List UInt8 → Res} (hg : NoZ g) (hh : NoZ h) : NoZ (fun b => (g b).then h) := by
  intro b e he
  cases hb : g b with
  | error x => simp only [hb, Res.then] at he; injection he with he; rw [← he]; exact hg b x hb
  | ok b1 => simp only [hb, Res.then] at he; exact hh b1 e he
theorem noz_txt (s : List UInt8) : NoZ (fun b => txt b s) := by
  unfold txt
  exact noz_ite (noz_err _ (by decide)) (noz_ite (noz_lng _) (noz_err _ (by decide)))
theorem noz_wrB {v : Jv} {deep : Nat} {wl wm : List UInt8 → Res} (h1 : NoZ wl) (h2 : NoZ wm) : NoZ (wrB v deep wl wm) := by
  unfold wrB
  exact noz_ite (noz_err _ (by decide)) (noz_ite (noz_lng _) (noz_ite (noz_lng _) (noz_ite (noz_lng _) (noz_ite (noz_txt _) (noz_ite (noz_err _ (by decide)) (noz_ite (noz_then (noz_lng _) (noz_then h1 (noz_lng _))) (noz_then (noz_lng _) (noz_then h2 (noz_lng _)))))))))
theorem noz_wrK (mem : Bool) (prev : Option (List UInt8)) (k : List UInt8) : NoZ (wrK mem prev k) := by
  unfold wrK
  refine noz_then (g := fun b => match prev with | none => .ok b | some p => (lng (b ++ [44])).then fun b => if mem && leqB k p then .error 1 else .ok b) ?_ ?_
  · cases prev with
    | none => exact noz_ok
    | some p => exact noz_then (noz_lng _) (noz_ite (noz_err _ (by decide)) noz_ok)
  · exact noz_ite (noz_then (noz_txt _) (noz_lng _)) noz_ok
theorem noz_wrF : ∀ (t : JT) (mem : Bool) (deep : Nat) (prev : Option (List UInt8)), NoZ (wrF mem t deep prev)
  | .nil, mem, deep, prev => by
    have : wrF mem .nil deep prev = fun b => .ok b := by funext b; rfl
    rw [this]; exact noz_ok
  | .cons k kd is n s l m r, mem, deep, prev => by
    have : wrF mem (.cons k kd is n s l m r) deep prev = fun b => (wrK mem prev k b).then fun b => (wrB ⟨kd, is, n, s, l, m⟩ deep (fun b => wrF false l (deep + 1) none b) (fun b => wrF true m (deep + 1) none b) b).then fun b => wrF mem r deep (some k) b := by funext b; rfl
    rw [this]
    exact noz_then (noz_wrK _ _ _) (noz_then (noz_wrB (noz_wrF l _ _ _) (noz_wrF m _ _ _)) (noz_wrF r _ _ _))
theorem noz_wrV (v : Jv) (deep : Nat) : NoZ (wrV v deep) := noz_wrB (noz_wrF _ _ _ _) (noz_wrF _ _ _ _)
theorem can_ok {v : Jv} (h : (canF v).2 = 0) : ∃ b, wrV v 0 [] = .ok b := by
  unfold canF at h
  cases hb : wrV v 0 [] with
  | ok b => exact ⟨b, rfl⟩
  | error e => rw [hb] at h; exact absurd h (noz_wrV v 0 [] e hb)
theorem can_of {v : Jv} {b : List UInt8} (h : wrV v 0 [] = .ok b) : (canF v).2 = 0 := by unfold canF; rw [h]
theorem doc_flt (kind : List UInt8) : ∀ t : JT, docJ kind t = fltJ (keptO kind) t
  | .nil => rfl
  | .cons k kd is n s l m r => by
    simp only [docJ, fltJ, doc_flt kind r]
    cases keptO kind k ⟨kd, is, n, s, l, m⟩ <;> rfl
theorem kept_les {kind k : List UInt8} {v u : Jv} (h : keptO kind k v = some u) (d : Nat) : Les (wrV v d) (wrV u d) := by
  unfold keptO at h
  split at h
  · rename_i h1
    cases hx : v.m.findV sgnK with
    | none => rw [hx] at h; cases h
    | some x =>
      rw [hx] at h
      injection h with h
      rw [← h]
      exact les_map d h1.2.2 (find_les sgnK (d + 1) v.m none x hx)
  · split at h
    · injection h with h; rw [← h]; exact (fine_wrV _ _).les
    · cases h
theorem kept_kept {kind k : List UInt8} {v u : Jv} (h : keptO kind k v = some u) : keptO kind k u = some u := by
  unfold keptO at h
  split at h
  · rename_i h1
    cases hx : v.m.findV sgnK with
    | none => rw [hx] at h; cases h
    | some x =>
      rw [hx] at h
      injection h with h
      rw [← h]
      unfold keptO
      rw [if_pos ⟨h1.1, h1.2.1, rfl⟩]
      have : (mapV (JT.one sgnK x .nil)).m.findV sgnK = some x := by
        show (JT.one sgnK x .nil).findV sgnK = some x
        simp [JT.one, JT.findV]
      rw [this]; rfl
  · rename_i h1
    split at h
    · rename_i h2
      injection h with h
      rw [← h]
      unfold keptO
      rw [if_neg h1, if_pos h2]
    · cases h
theorem doc_doc (kind : List UInt8) : ∀ t : JT, docJ kind (docJ kind t) = docJ kind t
  | .nil => rfl
  | .cons k kd is n s l m r => by
    cases hu : keptO kind k ⟨kd, is, n, s, l, m⟩ with
    | none =>
      have e : docJ kind (.cons k kd is n s l m r) = docJ kind r := by simp only [docJ, hu]
      rw [e]; exact doc_doc kind r
    | some u =>
      have e : docJ kind (.cons k kd is n s l m r) = JT.one k u (docJ kind r) := by simp only [docJ, hu]
      have e2 : docJ kind (JT.one k u (docJ kind r)) = match keptO kind k u with
        | some u => JT.one k u (docJ kind (docJ kind r))
        | none => docJ kind (docJ kind r) := rfl
      rw [e, e2, kept_kept hu, doc_doc kind r]
/-- What stays of a content, once more. -/
theorem dcnt_dcnt (kind : List UInt8) (v : Jv) : dcntJ kind (dcntJ kind v) = dcntJ kind v := by
  by_cases hc : kind = [109, 46, 114, 111, 111, 109, 46, 99, 114, 101, 97, 116, 101]
  · unfold dcntJ; rw [if_pos hc, if_pos hc]
  · by_cases h5 : v.kd = 5
    · rw [dcntJ_map hc h5, dcntJ_map hc rfl]
      show mapV (docJ kind (docJ kind v.m)) = _
      rw [doc_doc]
    · rw [dcntJ_oth hc h5, dcntJ_map hc rfl]; rfl
/-- Canon takes what stays of a map that it takes. -/
theorem dcnt_can (kind : List UInt8) {v : Jv} (h5 : v.kd = 5) (hc : (canF v).2 = 0) : (dcntJ kind v).kd = 5 ∧ (canF (dcntJ kind v)).2 = 0 := by
  by_cases hk : kind = [109, 46, 114, 111, 111, 109, 46, 99, 114, 101, 97, 116, 101]
  · unfold dcntJ; rw [if_pos hk]; exact ⟨h5, hc⟩
  · rw [dcntJ_map hk h5]
    refine ⟨rfl, ?_⟩
    obtain ⟨b, hb⟩ := can_ok hc
    rw [doc_flt]
    obtain ⟨c, h1, _⟩ := les_map 0 h5 (flt_les (keptO kind) 1 (fun k v u h => kept_les h 1) v.m none none (.inl rfl)) [] b hb [] (Nat.le_refl _)
    exact can_of h1
theorem ris_find (key : List UInt8) : ∀ (t : JT) (mem : Bool) (p : Option (List UInt8)) (x : Jv), t.findV key = some x → risF mem p t = true → risV x = true
  | .nil, mem, p, x, h, _ => by cases h
  | .cons k kd is n s l m r, mem, p, x, h, hr => by
    unfold JT.findV at h
    simp only [risF, Bool.and_eq_true] at hr
    obtain ⟨⟨⟨_, hm⟩, hl⟩, hr⟩ := hr
    by_cases hk : k = key
    · rw [if_pos hk] at h
      injection h with h
      rw [← h]
      unfold risV
      simp [hm, hl]
    · rw [if_neg hk] at h
      exact ris_find key r mem _ x h hr
theorem kept_ris {kind k : List UInt8} {v u : Jv} (h : keptO kind k v = some u) (hr : risV v = true) : risV u = true := by
  unfold keptO at h
  split at h
  · cases hx : v.m.findV sgnK with
    | none => rw [hx] at h; cases h
    | some x =>
      rw [hx] at h
      injection h with h
      rw [← h]
      unfold risV at hr
      rw [Bool.and_eq_true] at hr
      have hx2 := ris_find sgnK v.m true none x hx hr.1
      unfold risV at hx2 ⊢
      rw [Bool.and_eq_true] at hx2
      simp [mapV, JT.one, risF, hx2.1, hx2.2]
  · split at h
    · injection h with h; rw [← h]; exact hr
    · cases h
theorem ris_doc (kind : List UInt8) : ∀ (t : JT) (p q : Option (List UInt8)), PrevLe q p → risF true p t = true → risF true q (docJ kind t) = true
  | .nil, p, q, _, _ => rfl
  | .cons k kd is n s l m r, p, q, hq, hr => by
    simp only [risF, Bool.and_eq_true] at hr
    obtain ⟨⟨⟨hp, hm⟩, hl⟩, hr⟩ := hr
    have hqk : PrevLe q (some k) ∧ ∀ q', q = some q' → Op.bytesLess q' k = true := by
      rcases hq with rfl | ⟨q, p, rfl, rfl, hqp⟩
      · exact ⟨.inl rfl, fun _ h => by cases h⟩
      · have hp : Op.bytesLess p k = true := by simpa using hp
        have : Op.bytesLess q k = true := by
          rcases hqp with rfl | hqp
          · exact hp
          · exact sless_trans hqp hp
        exact ⟨.inr ⟨q, k, rfl, rfl, .inr this⟩, fun _ h => by injection h with h; rw [← h]; exact this⟩
    have hv : risV ⟨kd, is, n, s, l, m⟩ = true := by unfold risV; simp [hm, hl]
    cases hu : keptO kind k ⟨kd, is, n, s, l, m⟩ with
    | none =>
      have e : docJ kind (.cons k kd is n s l m r) = docJ kind r := by simp only [docJ, hu]
      rw [e]; exact ris_doc kind r (some k) q hqk.1 hr
    | some u =>
      have e : docJ kind (.cons k kd is n s l m r) = JT.one k u (docJ kind r) := by simp only [docJ, hu]
      have h2 := kept_ris hu hv
      unfold risV at h2
      rw [Bool.and_eq_true] at h2
      have h3 := ris_doc kind r (some k) (some k) (prevLe_refl _) hr
      rw [e]
      simp only [JT.one, risF, h2.1, h2.2, h3, Bool.and_true]
      cases q with
      | none => rfl
      | some q => simpa using hqk.2 q rfl
/-- What stays of a content rises. -/
theorem dcnt_ris (kind : List UInt8) {v : Jv} (hr : risV v = true) : risV (dcntJ kind v) = true := by
  by_cases hk : kind = [109, 46, 114, 111, 111, 109, 46, 99, 114, 101, 97, 116, 101]
  · unfold dcntJ; rw [if_pos hk]; exact hr
  · by_cases h5 : v.kd = 5
    · rw [dcntJ_map hk h5]
      unfold risV at hr ⊢
      rw [Bool.and_eq_true] at hr
      have := ris_doc kind v.m none none (.inl rfl) hr.1
      simp only [mapV]
      rw [this]; rfl
    · rw [dcntJ_oth hk h5]; rfl
theorem find_bulk (key : List UInt8) : ∀ (t : JT) (x : Jv), t.findV key = some x → x.bulk ≤ t.bulk
  | .nil, x, h => by cases h
  | .cons k kd is n s l m r, x, h => by
    have e := JT.bulk_one k ⟨kd, is, n, s, l, m⟩ r
    have e2 : (JT.one k ⟨kd, is, n, s, l, m⟩ r) = .cons k kd is n s l m r := rfl
    rw [e2] at e
    unfold JT.findV at h
    by_cases hk : k = key
    · rw [if_pos hk] at h
      injection h with h
      rw [← h]; omega
    · rw [if_neg hk] at h
      have := find_bulk key r x h; omega
theorem kept_bulk {kind k : List UInt8} {v u : Jv} (h : keptO kind k v = some u) : u.bulk ≤ v.bulk := by
  unfold keptO at h
  split at h
  · cases hx : v.m.findV sgnK with
    | none => rw [hx] at h; cases h
    | some x =>
      rw [hx] at h
      injection h with h
      have := find_bulk sgnK v.m x hx
      have e := JT.bulk_one sgnK x .nil
      have e3 : (JT.nil).bulk = 0 := rfl
      rw [← h]
      unfold Jv.bulk mapV
      show 1 + JT.nil.bulk + (JT.one sgnK x .nil).bulk ≤ _
      rw [e, e3]; omega
  · split at h
    · injection h with h; rw [← h]; exact Nat.le_refl _
    · cases h
theorem doc_bulk (kind : List UInt8) : ∀ t : JT, (docJ kind t).bulk ≤ t.bulk
  | .nil => Nat.le_refl _
  | .cons k kd is n s l m r => by
    have e := JT.bulk_one k ⟨kd, is, n, s, l, m⟩ r
    have e2 : (JT.one k ⟨kd, is, n, s, l, m⟩ r) = .cons k kd is n s l m r := rfl
    rw [e2] at e
    have ih := doc_bulk kind r
    cases hu : keptO kind k ⟨kd, is, n, s, l, m⟩ with
    | none =>
      have e3 : docJ kind (.cons k kd is n s l m r) = docJ kind r := by simp only [docJ, hu]
      rw [e3]; omega
    | some u =>
      have e3 : docJ kind (.cons k kd is n s l m r) = JT.one k u (docJ kind r) := by simp only [docJ, hu]
      have := kept_bulk hu
      rw [e3, JT.bulk_one]; omega
theorem dcnt_bulk (kind : List UInt8) (v : Jv) : (dcntJ kind v).bulk ≤ v.bulk := by
  have e3 : (JT.nil).bulk = 0 := rfl
  by_cases hk : kind = [109, 46, 114, 111, 111, 109, 46, 99, 114, 101, 97, 116, 101]
  · unfold dcntJ; rw [if_pos hk]; exact Nat.le_refl _
  · by_cases h5 : v.kd = 5
    · rw [dcntJ_map hk h5]
      have := doc_bulk kind v.m
      unfold Jv.bulk mapV
      show 1 + JT.nil.bulk + (docJ kind v.m).bulk ≤ _
      rw [e3]; omega
    · rw [dcntJ_oth hk h5]
      unfold Jv.bulk mapV
      show 1 + JT.nil.bulk + JT.nil.bulk ≤ _
      rw [e3]; omega
/-- An event of which what must stay alone stays. -/
def stripE (e : Ev) : Ev := { e with ct := dcntJ e.ty e.ct }
theorem strip_strip (e : Ev) : stripE (stripE e) = stripE e := by unfold stripE; simp only [dcnt_dcnt]
theorem strip_can {e : Ev} (h : CanBe e) : CanBe (stripE e) := by
  obtain ⟨h1, ⟨h2, h3, h4⟩, h5, h6, h7⟩ := h
  obtain ⟨h8, h9⟩ := dcnt_can e.ty h3 h4
  exact ⟨h1, ⟨h2, h8, h9⟩, h5, h6, h7⟩
theorem strip_chk {e : Ev} (h : ChkIs e 0) : ChkIs (stripE e) 0 := by
  rcases h with ⟨_, h⟩ | ⟨h1, h2, _⟩ | ⟨_, _, h⟩
  · cases h
  · exact .inr (.inl ⟨h1, strip_can h2, rfl⟩)
  · cases h
end Go.Proofs.YtkbcbikilgcckaaGreatDoor
