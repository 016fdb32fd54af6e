/- Texts put together: JsK JsW. -/
import Derived.Test.YtajkgcmopmpihaaGreatDoorZ9ecfc66fe4
import Derived.Test.YtajkgcmopmpihaaGreatDoorZce7774b59c
import Derived.WalkLawsBesides
import Derived.Test.YtajkgcmopmpihaaGreatDoorZb4a9d0ce6f
namespace Go.Proofs.YtajkgcmopmpihaaGreatDoor
open Go.ChangeShapes Go.WideShapes Go.ChangeAt Go.RowKit Go.IntWalk
set_option linter.unusedVariables false
set_option maxRecDepth 100000

def RowQ (P : Nat → Prop) (base : Nat) (mem : Bool) (w : World) (L : Value) (t : JT) (k : Nat) : Prop :=
  ∃ cs : List Value, w.ownsRow base (tyM mem) (stM mem) L k cs ∧ ∀ i, i < k → RowE (fun b => (P b ∨ base ≤ b) ∧ b < w.heap.size ∧ L.ownBlock ≠ some b) mem w cs t i
theorem JSl.pw {P : Nat → Prop} {n : Nat} {w w' : World} {mem : Bool} {A : Option Addr} {t : JT} (hP : ∀ b, P b → b < n) (h : JSl P w mem A t) (b : Below n w w') : JSl P w' mem A t :=
  h.stay (fun b' o hb => b.cell (p := ⟨b', o, none⟩) (hP _ hb)) (fun _ h => h)
/-- A value whose parts lie where P says. -/
def VP (P : Nat → Prop) (w : World) (v : Jv) (A B : Option Addr) (nl cl nm cm : Nat) : Prop := Room nl cl v.l.ext ∧ Room nm cm v.m.ext ∧ JSl P w false A v.l ∧ JSl P w true B v.m ∧ Fit v.kd v.n v.s
section
variable {P : Nat → Prop} {base k : Nat} {mem : Bool} {w w' : World} {L : Value} {t : JT}
theorem RowQ.nil (P : Nat → Prop) (base : Nat) (mem : Bool) (w : World) (t : JT) : RowQ P base mem w (.slice none 0 0) t 0 := ⟨[], World.ownsRow_nil w base _ _, fun i hi => absurd hi (Nat.not_lt_zero i)⟩
theorem RowQ.lt (h : RowQ P base mem w L t k) : ∀ b, L.ownBlock = some b → base ≤ b ∧ b < w.heap.size := by obtain ⟨cs, h1, _⟩ := h; exact World.ownsRow.lt h1
theorem RowQ.below (h : RowQ P base mem w L t k) (hg : Below w.heap.size w w') : RowQ P base mem w' L t k := by
  obtain ⟨cs, h0, h1⟩ := h
  refine ⟨cs, ⟨h0.1, ?_⟩, fun i hi => ⟨(h1 i hi).1, ?_⟩⟩
  · rcases h0.2 with h2 | ⟨g, cap, cur, hv, hb, hh, r⟩
    · exact .inl h2
    · exact .inr ⟨g, cap, cur, hv, hb, by rw [hg.block g ((Array.getElem?_eq_some_iff.1 hh).1)]; exact hh, r⟩
  · obtain ⟨_, e, h2, h3⟩ := h1 i hi
    exact ⟨e, h2, h3.stay (fun b o hb => hg.cell (p := ⟨b, o, none⟩) hb.2.1) (fun b hb => ⟨hb.1, Nat.lt_of_lt_of_le hb.2.1 hg.size, hb.2.2⟩)⟩
theorem RowQ.alloc (h : RowQ P base mem w L t k) (o : Obj) : RowQ P base mem (w.alloc o) L t k := h.below ((Below.refl _ _).alloc (Nat.le_refl _) _)
theorem RowQ.drewN (h : RowQ P base mem w L t k) (n : Nat) : RowQ P base mem (w.drewN n) L t k := h.below ((Below.refl _ _).drewN n)
theorem RowQ.grown {w0 : World} (hb : Below base w0 w) (h : RowQ P base mem w L t k) (hg : w.grownBy w' L.ownBlock) (hw : base ≤ w.heap.size) : Below base w0 w' := by
  refine ⟨hg.os.trans hb.os, hg.tape.trans hb.tape, hg.output.trans hb.output, Nat.le_trans hb.size hg.size, fun k hk => ?_⟩
  refine (hg.block k (Nat.lt_of_lt_of_le hk hw) (fun e => ?_)).trans (hb.block k hk)
  have := (h.lt k e.symm).1
  omega
theorem RowQ.app {cs : List Value} {g cap : Nat} (h1 : ∀ i, i < k → RowE (fun b => (P b ∨ base ≤ b) ∧ b < w.heap.size ∧ L.ownBlock ≠ some b) mem w cs t i) (hl : cs.length = k * stM mem)
    (hg : w.grownBy w' L.ownBlock) (hgg : L.ownBlock = some g ∨ g = w.heap.size) (e : List Value)
    (hkey : if mem then (t.fall k).key.length ≤ 140737488355328 else (t.fall k).key = [])
    (h' : w'.ownsRow base (tyM mem) (stM mem) (.slice (some ⟨g, 0, none⟩) (k + 1) cap) (k + 1) (cs ++ newC mem (t.fall k).key e))
    (hc : JCs (fun b => (P b ∨ base ≤ b) ∧ b < w.heap.size ∧ L.ownBlock ≠ some b) w e (t.fall k).val) : RowQ P base mem w' (.slice (some ⟨g, 0, none⟩) (k + 1) cap) t (k + 1) := by
  have hst : ∀ {e : List Value} {v : Jv}, JCs (fun b => (P b ∨ base ≤ b) ∧ b < w.heap.size ∧ L.ownBlock ≠ some b) w e v →
      JCs (fun b => (P b ∨ base ≤ b) ∧ b < w'.heap.size ∧ (Value.slice (some ⟨g, 0, none⟩) (k + 1) cap).ownBlock ≠ some b) w' e v := fun h =>
    h.stay (fun b o hb => hg.cell_far ⟨b, o, none⟩ hb.2.1 (fun e => hb.2.2 e.symm)) (fun b hb => ⟨hb.1, Nat.lt_of_lt_of_le hb.2.1 hg.size, fun e => by
      simp only [Value.ownBlock, Option.some.injEq] at e
      rcases hgg with h2 | h2
      · exact hb.2.2 (by rw [h2, e])
      · have := hb.2.1; omega⟩)
  refine ⟨_, h', fun i hi => ?_⟩
  rcases Nat.lt_succ_iff_lt_or_eq.1 hi with hi | rfl
  · obtain ⟨h2, e2, h3, h4⟩ := h1 i hi
    refine ⟨?_, e2, fun j v hj => getD_app_l (h3 j v hj), hst h4⟩
    cases mem with
    | true => exact ⟨getD_app_l h2.1, h2.2⟩
    | false => exact h2
  · refine ⟨?_, e, fun j v hj => ?_, hst hc⟩
    · cases mem with
      | true => refine ⟨?_, hkey⟩; rw [← hl, show cs.length = cs.length + 0 from rfl, getD_app_r]; rfl
      | false => exact hkey
    · rw [← hl, Nat.add_assoc, getD_app_r]
      cases mem with
      | true => rw [show kwM true = 1 from rfl, Nat.add_comm]; exact hj
      | false => rw [show kwM false = 0 from rfl, Nat.zero_add]; exact hj
theorem RowQ.done (h : RowQ P base mem w L t t.ext) (he : t.ext ≤ 140737488355328) : ∃ (A : Option Addr) (c : Nat), L = .slice A t.ext c ∧ Room t.ext c t.ext ∧ JSl (fun b => (P b ∨ base ≤ b) ∧ b < w.heap.size) w mem A t := by
  obtain ⟨cs, h0, h1⟩ := h
  rcases h0.2 with ⟨rfl, hn⟩ | ⟨g, cap, cur, rfl, hb, hh, hnc, hmx, hs, ht⟩
  · refine ⟨none, 0, by rw [hn], ⟨rfl, by omega, he⟩, .inl ?_⟩
    cases t with
    | nil => rfl
    | cons => simp [JT.ext] at hn
  · refine ⟨_, cap, rfl, ⟨rfl, hnc, he⟩, .inr ⟨g, 0, rfl, ⟨.inr hb, (Array.getElem?_eq_some_iff.1 hh).1⟩, JIn.of t mem g 0 (fun i hi => ?_)⟩⟩
    have hc : ∀ (k : Nat) (u : Value), cs[k]? = some u → w.cell? ⟨g, k, none⟩ = some u := fun k u hu => by
      rw [cell_of_row _ _ _ _ _ _ hh]
      rw [← ht] at hu
      simp only [List.getElem?_take] at hu
      split at hu
      · simpa using hu
      · cases hu
    obtain ⟨h2, e, h3, h4⟩ := h1 i hi
    refine ⟨?_, e, fun j v hj => ?_, h4.stay (fun _ _ _ => rfl) (fun b hb => ⟨hb.1, hb.2.1⟩)⟩
    · cases mem with
      | true => exact ⟨by rw [Nat.zero_add]; exact hc _ _ h2.1, h2.2⟩
      | false => exact h2
    · rw [Nat.zero_add]; exact hc _ _ (h3 j v hj)
end
/-- 'append(own, one element)'. -/
theorem wp_append_rowQ {o : Oper} {a : Act} {K : Act → World → Prop} {Q : Exit → Act → World → Prop} {W : World} (mem : Bool) (s x : Operand)
    (ho : o.op = .call { callee := .builtin .append, args := #[s, x], argTypes := #[tsM mem, tsM mem] })
    (P : Nat → Prop) (base : Nat) (L : Value) (t : JT) (k : Nat) (hs : a.eval s = L) (hrow : RowQ P base mem W L t k) (hk : k ≤ 1000000) (hbW : base ≤ W.heap.size)
    (B : Nat) (e : List Value) (hkey : if mem then (t.fall k).key.length ≤ 140737488355328 else (t.fall k).key = [])
    (hx : a.eval x = .slice (some ⟨B, 0, none⟩) 1 1) (hB : Blk W B (tyM mem) (newC mem (t.fall k).key e)) (hc : JCs (fun b => (P b ∨ base ≤ b) ∧ b < W.heap.size ∧ L.ownBlock ≠ some b) W e (t.fall k).val)
    (h : ∀ A c w', RowQ P base mem w' (.slice A (k + 1) c) t (k + 1) → W.grownBy w' L.ownBlock → K (a.put o.dst (.slice A (k + 1) c)) w') : o.wp Tryz.prog a W K Q := by
  obtain ⟨i, z, hi, hz, hsz, hby, hzs⟩ := info_row mem
  obtain ⟨cs, hown, h1⟩ := hrow
  have h6 : e.length = 6 := by obtain ⟨A, nl, cl, B, nm, cm, rfl, _⟩ := hc; rfl
  have h1c : ∀ u ∈ newC mem (t.fall k).key e, u.oneCell' = true := by
    obtain ⟨A, nl, cl, B, nm, cm, rfl, _⟩ := hc
    intro u hu
    cases mem with
    | true =>
      simp only [newC, if_true, List.mem_cons, List.not_mem_nil, or_false] at hu
      rcases hu with rfl | rfl | rfl | rfl | rfl | rfl | rfl <;> rfl
    | false =>
      simp only [newC, Bool.false_eq_true, if_false, List.mem_cons, List.not_mem_nil, or_false] at hu
      rcases hu with rfl | rfl | rfl | rfl | rfl | rfl <;> rfl
  have hnl : (newC mem (t.fall k).key e).length = 1 * stM mem := by
    cases mem with
    | true => simp [newC, h6, stM, kwM]
    | false => simp [newC, h6, stM, kwM]
  have hb : (k + 1) * i.bytes ≤ 140737488355328 := by
    rw [hby]
    cases mem with
    | true => simp only [if_true]; omega
    | false => simp only [Bool.false_eq_true, if_false]; omega
  refine wp_append_lies W s x (tsM mem) ho base (tyM mem) i z (stM mem) i.bytes (under_row mem) hi hz hsz rfl hzs (by cases mem <;> decide) L k cs hs hown ⟨B, 0, none⟩ 1 1 (newC mem (t.fall k).key e) hx hnl ?_ h1c (by decide) (Nat.le_trans (show k + 1 ≤ 1000001 by omega) (by decide)) hb hbW _ rfl ?_
  · intro j u hj
    have hplain : (⟨B, 0, none⟩ : Addr).add j = ⟨B, j, none⟩ := by unfold Addr.add; split <;> simp_all
    rw [hplain]
    exact hB.cell hj
  · intro g cap w' h2 h3 h4 _
    exact h _ cap w' (RowQ.app h1 hown.1 h3 h4 e hkey h2 hc) h3
/-- .. in a list of operations, the element just built. -/
theorem wpList_append_rowQ {ops : Array Oper} {rest : List Oper} {o : Oper} {a : Act} {Q : Exit → Act → World → Prop} {W : World} (mem : Bool) (hgd : o.guard = none) (s x : Operand)
    (ho : o.op = .call { callee := .builtin .append, args := #[s, x], argTypes := #[tsM mem, tsM mem] })
    (P : Nat → Prop) (base : Nat) (L : Value) (t : JT) (k : Nat) (hs : a.eval s = L) (hrow : RowQ P base mem W L t k) (hk : k ≤ 1000000) (hbW : base ≤ W.heap.size)
    (e : List Value) (hkey : if mem then (t.fall k).key.length ≤ 140737488355328 else (t.fall k).key = []) (C : Array Value) (T : TypeId) (hT : T = tyM mem) (hC : C = (newC mem (t.fall k).key e).toArray)
    (hx : a.eval x = .slice (some ⟨W.heap.size, 0, none⟩) 1 1) (hc : JCs (fun b => (P b ∨ base ≤ b) ∧ b < W.heap.size ∧ L.ownBlock ≠ some b) W e (t.fall k).val)
    (h : ∀ A c w', RowQ P base mem w' (.slice A (k + 1) c) t (k + 1) → W.grownBy w' L.ownBlock → wpList Tryz.prog ops Q rest (a.put o.dst (.slice A (k + 1) c)) w') :
    wpList Tryz.prog ops Q (o :: rest) a (W.alloc (.cells C T)) := by
  subst hT hC
  refine wpList_plain hgd fun K hK => wp_append_rowQ mem s x ho P base L t k hs (hrow.alloc _) hk (by simp; omega) W.heap.size e hkey hx (Blk.new W _ _) ?_ ?_
  · exact hc.stay (fun b o hb => ((Below.refl _ _).alloc (Nat.le_refl _) _ : Below W.heap.size W _).cell (p := ⟨b, o, none⟩) hb.2.1) (fun b hb => ⟨hb.1, by have := hb.2.1; simp; omega, hb.2.2⟩)
  · intro A c w' h1 h2
    exact hK _ _ (h A c w' h1 ⟨h2.os, h2.tape, h2.output, Nat.le_trans (by simp) h2.size, fun k hk hne => (h2.block k (by simp; omega) hne).trans (heap_alloc_old W _ hk)⟩)
end Go.Proofs.YtajkgcmopmpihaaGreatDoor
namespace Go.Proofs.YtajkgcmopmpihaaGreatDoor
open Go.ChangeShapes Go.WideShapes Go.ChangeAt Go.RowKit Go.IntWalk
set_option linter.unusedVariables false
set_option maxRecDepth 100000

theorem bl_listsQ (a : List UInt8) : (ByteArray.mk a.toArray).toList = a := by rw [ByteArray.toList_eq]
def WQt1 (P : Nat → Prop) (lo : Nat) (R : JT) (key : List UInt8) (v : Jv) (t : JT) (q k : Nat) (B : Option Addr) (cm : Nat) (w : World) : Prop :=
  RowQ P (lo + 1) true w (.slice B k cm) R k ∧ R.fall k = (lowJ key (t.fall q)).app (JT.one key v (highJ key t)) ∧ k ≤ R.ext ∧ k ≤ q + 0
def WQt2 (P : Nat → Prop) (lo : Nat) (R : JT) (key : List UInt8) (v : Jv) (t : JT) (q k : Nat) (B : Option Addr) (cm : Nat) (w : World) : Prop :=
  RowQ P (lo + 1) true w (.slice B k cm) R k ∧ R.fall k = highJ key (t.fall q) ∧ k ≤ R.ext ∧ k ≤ q + 100001
def WQPost (P : Nat → Prop) (R : JT) (w : World) (e : Ending) (w' : World) : Prop := (∃ (A : Option Addr) (c : Nat), e = .returned (.slice A R.ext c) ∧ Room R.ext c R.ext ∧ JSl (fun b => (P b ∨ w.heap.size + 1 ≤ b) ∧ b < w'.heap.size) w' true A R) ∧ Below w.heap.size w w'
theorem grown_withQ {P : Nat → Prop} {w w9 w7 : World} {k cm c7 : Nat} {B A7 : Option Addr} {R : JT} {T : TypeId} {cs : List Value} (HR9 : Hid (RowQ P (w.heap.size + 1) true w9 (.slice B k cm) R k)) (HGL : Hid (w.heap.size + 1 ≤ w9.heap.size))
    (HBW9 : Hid (Below w.heap.size w w9)) (HZW9 : Hid (Blk w9 w.heap.size T cs)) (h7 : RowQ P (w.heap.size + 1) true w7 (.slice A7 (k + 1) c7) R (k + 1)) (g7 : w9.grownBy w7 (Value.slice B k cm).ownBlock) :
    Hid (RowQ P (w.heap.size + 1) true w7 (.slice A7 (k + 1) c7) R (k + 1)) ∧ Hid (Below w.heap.size w w7) ∧ Hid (Blk w7 w.heap.size T cs) := by
  have b7 := RowQ.grown (Below.refl _ _) HR9.out g7 HGL.out
  exact ⟨Lib.hid h7, Lib.hid (HBW9.out.trans (b7.mono (by omega))), Lib.hid (HZW9.out.below b7 (Nat.lt_succ_self _))⟩
set_option maxHeartbeats 16000000 in
theorem refwithP_calls (P : Nat → Prop) (t : JT) (A : Option Addr) (n0 c0 : Nat) (key : List UInt8) (v : Jv) (A1 B1 : Option Addr) (nl1 cl1 nm1 cm1 : Nat) (w : World) (hPl : ∀ b, P b → b < w.heap.size) (hn : Room n0 c0 t.ext) (hs : JSl P w true A t) (hv : VP P w v A1 B1 nl1 cl1 nm1 cm1) (hky : key.length ≤ 140737488355328) (h50 : t.ext ≤ 100000) :
    Calls Tryz.prog 70 #[.slice A n0 c0, .agg #[.string ⟨key.toArray⟩, .int .i64 v.kd, .bool v.is, .int .i64 v.n, .string ⟨v.s.toArray⟩, .slice A1 nl1 cl1, .slice B1 nm1 cm1]] w (WQPost P (withJ t key v) w) := by
  have HPL := Lib.hid hPl
  have HS := Lib.hid hs
  have HN := Lib.hid (show n0 = t.ext from hn.1)
  have hn50 : n0 ≤ 100000 := by rw [HN.out]; exact h50
  have hnc : n0 ≤ c0 := hn.2.1
  have HVV := Lib.hid (show VP P w v A1 B1 nl1 cl1 nm1 cm1 from hv)
  have HKY := Lib.hid hky
  have HB0 := Lib.hid (show Below w.heap.size w (w.alloc (.cells #[.string ⟨key.toArray⟩, .int .i64 v.kd, .bool v.is, .int .i64 v.n, .string ⟨v.s.toArray⟩, .slice A1 nl1 cl1, .slice B1 nm1 cm1] 44)) from (Below.refl _ _).alloc (Nat.le_refl _) _)
  have HZ0 := Lib.hid (Blk.new w [.string ⟨key.toArray⟩, .int .i64 v.kd, .bool v.is, .int .i64 v.n, .string ⟨v.s.toArray⟩, .slice A1 nl1 cl1, .slice B1 nm1 cm1] 44)
  obtain ⟨R, hR⟩ : ∃ R, withJ t key v = R := ⟨_, rfl⟩
  have HD0 := Lib.hid (show WQt1 P w.heap.size R key v t 0 0 none 0 (w.alloc (.cells #[.string ⟨key.toArray⟩, .int .i64 v.kd, .bool v.is, .int .i64 v.n, .string ⟨v.s.toArray⟩, .slice A1 nl1 cl1, .slice B1 nm1 cm1] 44)) from ⟨RowQ.nil _ _ _ _ _, by rw [JT.fall_zero, JT.fall_zero, ← hR]; rfl, Nat.zero_le _, Nat.zero_le _⟩)
  rw [hR]
  clear hPl hn hs hv hky h50 hR
  go_enter Tryz.func70, Tryz.ntmps70
  go_wp2_with fail
  go_loopw [5, 12] (fun L i wr => ∃ (q k : Nat) (B : Option Addr) (cm : Nat), q ≤ n0 ∧ L = .slice B k cm ∧ i = .int .i64 (q : Int) ∧ Hid (Below w.heap.size w wr) ∧ Hid (Blk wr w.heap.size 44 [.string ⟨key.toArray⟩, .int .i64 v.kd, .bool v.is, .int .i64 v.n, .string ⟨v.s.toArray⟩, .slice A1 nl1 cl1, .slice B1 nm1 cm1]) ∧ Hid (WQt1 P w.heap.size R key v t q k B cm wr)) (fun _ i _ => n0 - (intOf i).toNat)
  case atStart => exact ⟨0, 0, none, 0, Nat.zero_le _, rfl, rfl, HB0, HZ0, HD0⟩
  case round =>
    obtain ⟨wq, hwq⟩ : ∃ x, x = wr := ⟨_, rfl⟩
    subst hwq
    obtain ⟨q, k, B, cm, hq, rfl, rfl, hBr, hZr, hOR⟩ := hrel
    have HOR := Lib.hid (show RowQ P (w.heap.size + 1) true wq (.slice B k cm) R k ∧ R.fall k = (lowJ key (t.fall q)).app (JT.one key v (highJ key t)) ∧ k ≤ R.ext ∧ k ≤ q + 0 from hOR.out)
    clear hOR
    by_cases hlt : q < n0
    · have hqx : q < t.ext := by rw [← HN.out]; exact hlt
      have HAT := Lib.hid (low_at key hqx)
      obtain ⟨eb, eo, eA, enl, ecl, eB, enm, ecm, rfl, eP, ebl, eK, eKl, f0, f1, f2, f3, f4, f5, r1, r2, s1, s2, hf⟩ := (HS.out.pw HPL.out hBr.out).mb (i := q) _ hqx
      obtain ⟨eu, hev⟩ : ∃ eu, (t.fall q).val = eu := ⟨_, rfl⟩
      obtain ⟨ek, hek⟩ : ∃ ek, (t.fall q).key = ek := ⟨_, rfl⟩
      rw [hev] at f0 f1 f2 f3 r1 r2 s1 s2 hf
      rw [hek] at eK eKl
      rw [hev, hek] at HAT
      have HKL := Lib.hid eKl
      have HEV := Lib.hid (show VP P wq eu eA eB enl ecl enm ecm from ⟨r1, r2, s1, s2, hf⟩)
      have b5 : Below wq.heap.size wq (wq.alloc (.cells #[.string ⟨ek.toArray⟩, .int .i64 eu.kd, .bool eu.is, .int .i64 eu.n, .string ⟨eu.s.toArray⟩, .slice eA enl ecl, .slice eB enm ecm] 44)) := (Below.refl _ _).alloc (Nat.le_refl _) _
      have HB9 := Lib.hid b5
      have HM5 := Blk.new wq [.string ⟨ek.toArray⟩, .int .i64 eu.kd, .bool eu.is, .int .i64 eu.n, .string ⟨eu.s.toArray⟩, .slice eA enl ecl, .slice eB enm ecm] 44
      have m0 := HM5.cell (k := 0) rfl; have m1 := HM5.cell (k := 1) rfl; have m2 := HM5.cell (k := 2) rfl; have m3 := HM5.cell (k := 3) rfl; have m4 := HM5.cell (k := 4) rfl; have m5 := HM5.cell (k := 5) rfl; have m6 := HM5.cell (k := 6) rfl
      have x0 := (hZr.out.later b5).cell (k := 0) rfl
      have HPQ := Lib.hid (fun b (hb : P b) => show (P b ∨ w.heap.size + 1 ≤ b) ∧ b < (wq.alloc (.cells #[.string ⟨ek.toArray⟩, .int .i64 eu.kd, .bool eu.is, .int .i64 eu.n, .string ⟨eu.s.toArray⟩, .slice eA enl ecl, .slice eB enm ecm] 44)).heap.size ∧ (Value.slice B k cm).ownBlock ≠ some b from ⟨.inl hb, by have := HPL.out b hb; have := hBr.out.size; simp; omega, fun e => by have := HPL.out b hb; have := (HOR.out.1.lt b e).1; omega⟩)
      clear eP eKl r1 r2 s1 s2 hf hev hek b5 HM5
      by_cases hc : Lib.compareBytes ek key = -1
      · have hl : Op.bytesLess ek key = true := by rw [bl_cb]; exact decide_eq_true hc
        have HP := Lib.hid hc
        clear hc
        have h1k := fall_one (show R.fall k = JT.one ek eu ((lowJ key (t.fall (q + 1))).app (JT.one key v (highJ key t))) by rw [HOR.out.2.1]; rw [HAT.out, if_pos HP.out]; rfl)
        have HKV := Lib.hid h1k
        have HR9 := Lib.hid (HOR.out.1.below HB9.out)
        have HGL := Lib.hid (show w.heap.size + 1 ≤ (wq.alloc (.cells #[.string ⟨ek.toArray⟩, .int .i64 eu.kd, .bool eu.is, .int .i64 eu.n, .string ⟨eu.s.toArray⟩, .slice eA enl ecl, .slice eB enm ecm] 44)).heap.size by have := hZr.out.lt; simp; omega)
        have hk6 : k ≤ 1000000 := by have := HOR.out.2.2.2; omega
        have HEK := Lib.hid (show (R.fall k).key.length ≤ 140737488355328 by rw [HKV.out.2.1]; exact HKL.out)
        have HJ2 := Lib.hid (show JCs (fun b => (P b ∨ w.heap.size + 1 ≤ b) ∧ b < (wq.alloc (.cells #[.string ⟨ek.toArray⟩, .int .i64 eu.kd, .bool eu.is, .int .i64 eu.n, .string ⟨eu.s.toArray⟩, .slice eA enl ecl, .slice eB enm ecm] 44)).heap.size ∧ (Value.slice B k cm).ownBlock ≠ some b) (wq.alloc (.cells #[.string ⟨ek.toArray⟩, .int .i64 eu.kd, .bool eu.is, .int .i64 eu.n, .string ⟨eu.s.toArray⟩, .slice eA enl ecl, .slice eB enm ecm] 44)) [.int .i64 eu.kd, .bool eu.is, .int .i64 eu.n, .string ⟨eu.s.toArray⟩, .slice eA enl ecl, .slice eB enm ecm] (R.fall k).val by rw [HKV.out.2.2.1]; exact ⟨eA, enl, ecl, eB, enm, ecm, rfl, HEV.out.1, HEV.out.2.1, (HEV.out.2.2.1.pw HPL.out (HB9.out.mono hBr.out.size)).stay (fun _ _ _ => rfl) HPQ.out, (HEV.out.2.2.2.1.pw HPL.out (HB9.out.mono hBr.out.size)).stay (fun _ _ _ => rfl) HPQ.out, HEV.out.2.2.2.2⟩)
        have HQ7 := Lib.hid (show (newC true (R.fall k).key [.int .i64 eu.kd, .bool eu.is, .int .i64 eu.n, .string ⟨eu.s.toArray⟩, .slice eA enl ecl, .slice eB enm ecm]).toArray = (newC true ek [.int .i64 eu.kd, .bool eu.is, .int .i64 eu.n, .string ⟨eu.s.toArray⟩, .slice eA enl ecl, .slice eB enm ecm]).toArray by rw [HKV.out.2.1])
        have HBW9 := Lib.hid (hBr.out.then_ HB9.out)
        have HZW9 := Lib.hid (hZr.out.later HB9.out)
        have HKR := Lib.hid HOR.out.2.2.2
        clear h1k
        go_wp2_with (at_builtin; refine wpList_append_rowQ true rfl _ _ rfl P (w.heap.size + 1) (.slice B k cm) R k rfl HR9.out hk6 HGL.out [.int .i64 eu.kd, .bool eu.is, .int .i64 eu.n, .string ⟨eu.s.toArray⟩, .slice eA enl ecl, .slice eB enm ecm] HEK.out _ _ rfl (HQ7.out.trans rfl).symm (by show Value.slice (some ⟨wq.heap.size + 1, 0, none⟩) 1 1 = _; simp) HJ2.out ?_; intro A7 c7 w7 h7 g7; obtain ⟨HR7, HB7, HZ7⟩ := grown_withQ HR9 HGL HBW9 HZW9 h7 g7; clear h7 g7)
        have HDS := Lib.hid (show WQt1 P w.heap.size R key v t (q + 1) (k + 1) A7 c7 w7 from ⟨HR7.out, HKV.out.2.2.2, by have := HKV.out.1; omega, by have := HKR.out; omega⟩)
        have HBF := HB7
        have HZF := HZ7
        go_wp2_with fail
        go_roundw
        case rel =>
          first
            | exact ⟨q + 1, k + 1, A7, c7, by omega, rfl, by go_num, HBF, HZF, HDS⟩
            | (repeat apply Exists.intro
               refine ⟨?e0, ?e2, ?e1, HBF, HZF, HDS⟩
               case e2 => rfl
               case e1 => go_num
               case e0 => omega)
            | (repeat apply Exists.intro
               refine ⟨⟨?e0, ?e2, ?e1, HBF, HZF, HDS⟩, ?f1⟩
               case f1 => rfl
               case e2 => rfl
               case e1 => go_num
               case e0 => omega)
            | fail
        case measure => simp [intOf]; omega
      · have hl : Op.bytesLess ek key = false := by rw [bl_cb]; exact decide_eq_false hc
        have HP := Lib.hid hc
        clear hc
        have HDS := Lib.hid (show WQt1 P w.heap.size R key v t (q + 1) k B cm (wq.alloc (.cells #[.string ⟨ek.toArray⟩, .int .i64 eu.kd, .bool eu.is, .int .i64 eu.n, .string ⟨eu.s.toArray⟩, .slice eA enl ecl, .slice eB enm ecm] 44)) from ⟨HOR.out.1.below HB9.out, by rw [HOR.out.2.1]; rw [HAT.out, if_neg HP.out], HOR.out.2.2.1, by have := HOR.out.2.2.2; omega⟩)
        have HBF := Lib.hid (hBr.out.then_ HB9.out)
        have HZF := Lib.hid (hZr.out.later HB9.out)
        go_wp2_with fail
        go_roundw
        case rel =>
          first
            | exact ⟨q + 1, k, B, cm, by omega, rfl, by go_num, HBF, HZF, HDS⟩
            | (repeat apply Exists.intro
               refine ⟨?e0, ?e2, ?e1, HBF, HZF, HDS⟩
               case e2 => rfl
               case e1 => go_num
               case e0 => omega)
            | (repeat apply Exists.intro
               refine ⟨⟨?e0, ?e2, ?e1, HBF, HZF, HDS⟩, ?f1⟩
               case f1 => rfl
               case e2 => rfl
               case e1 => go_num
               case e0 => omega)
            | fail
        case measure => simp [intOf]; omega
    · obtain rfl : n0 = q := by omega
      have h1k := fall_one (show R.fall k = JT.one key v (highJ key t) by rw [HOR.out.2.1, low_end key (by rw [← HN.out]; exact Nat.le_refl _)]; rfl)
      have HKV := Lib.hid h1k
      have HR9 := Lib.hid HOR.out.1
      have HGL := Lib.hid (show w.heap.size + 1 ≤ wq.heap.size from hZr.out.lt)
      have hk6 : k ≤ 1000000 := by have := HOR.out.2.2.2; omega
      have HEK := Lib.hid (show (R.fall k).key.length ≤ 140737488355328 by rw [HKV.out.2.1]; exact HKY.out)
      have HPQ := Lib.hid (fun b (hb : P b) => show (P b ∨ w.heap.size + 1 ≤ b) ∧ b < wq.heap.size ∧ (Value.slice B k cm).ownBlock ≠ some b from ⟨.inl hb, by have := HPL.out b hb; have := hBr.out.size; omega, fun e => by have := HPL.out b hb; have := (HOR.out.1.lt b e).1; omega⟩)
      have HJ2 := Lib.hid (show JCs (fun b => (P b ∨ w.heap.size + 1 ≤ b) ∧ b < wq.heap.size ∧ (Value.slice B k cm).ownBlock ≠ some b) wq [.int .i64 v.kd, .bool v.is, .int .i64 v.n, .string ⟨v.s.toArray⟩, .slice A1 nl1 cl1, .slice B1 nm1 cm1] (R.fall k).val by rw [HKV.out.2.2.1]; exact ⟨A1, nl1, cl1, B1, nm1, cm1, rfl, HVV.out.1, HVV.out.2.1, (HVV.out.2.2.1.pw HPL.out hBr.out).stay (fun _ _ _ => rfl) HPQ.out, (HVV.out.2.2.2.1.pw HPL.out hBr.out).stay (fun _ _ _ => rfl) HPQ.out, HVV.out.2.2.2.2⟩)
      have HQ7 := Lib.hid (show (newC true (R.fall k).key [.int .i64 v.kd, .bool v.is, .int .i64 v.n, .string ⟨v.s.toArray⟩, .slice A1 nl1 cl1, .slice B1 nm1 cm1]).toArray = (newC true key [.int .i64 v.kd, .bool v.is, .int .i64 v.n, .string ⟨v.s.toArray⟩, .slice A1 nl1 cl1, .slice B1 nm1 cm1]).toArray by rw [HKV.out.2.1])
      have HBW9 := hBr
      have HZW9 := hZr
      have HKR := Lib.hid (show k ≤ n0 by have := HOR.out.2.2.2; omega)
      have hZ := hZr.out
      have m0 := hZ.cell (k := 0) rfl; have m1 := hZ.cell (k := 1) rfl; have m2 := hZ.cell (k := 2) rfl; have m3 := hZ.cell (k := 3) rfl; have m4 := hZ.cell (k := 4) rfl; have m5 := hZ.cell (k := 5) rfl; have m6 := hZ.cell (k := 6) rfl
      clear h1k hZ
      go_wp2_with (at_builtin; refine wpList_append_rowQ true rfl _ _ rfl P (w.heap.size + 1) (.slice B k cm) R k rfl HR9.out hk6 HGL.out [.int .i64 v.kd, .bool v.is, .int .i64 v.n, .string ⟨v.s.toArray⟩, .slice A1 nl1 cl1, .slice B1 nm1 cm1] HEK.out _ _ rfl (HQ7.out.trans rfl).symm rfl HJ2.out ?_; intro A7 c7 w7 h7 g7; obtain ⟨HR7, HB7, HZ7⟩ := grown_withQ HR9 HGL HBW9 HZW9 h7 g7; clear h7 g7)
      clear m0 m1 m2 m3 m4 m5 m6 HOR hBr hZr HR9 HGL HBW9 HZW9
      go_loopw [5, 32] (fun L i wr => ∃ (q k : Nat) (B : Option Addr) (cm : Nat), q ≤ n0 ∧ L = .slice B k cm ∧ i = .int .i64 (q : Int) ∧ Hid (Below w.heap.size w wr) ∧ Hid (Blk wr w.heap.size 44 [.string ⟨key.toArray⟩, .int .i64 v.kd, .bool v.is, .int .i64 v.n, .string ⟨v.s.toArray⟩, .slice A1 nl1 cl1, .slice B1 nm1 cm1]) ∧ Hid (WQt2 P w.heap.size R key v t q k B cm wr)) (fun _ i _ => n0 - (intOf i).toNat)
      case atStart => exact ⟨0, k + 1, A7, c7, Nat.zero_le _, rfl, rfl, HB7, HZ7, Lib.hid ⟨HR7.out, by rw [JT.fall_zero]; exact HKV.out.2.2.2, HKV.out.1, by have := HKR.out; omega⟩⟩
      case round =>
        obtain ⟨wq, hwq⟩ : ∃ x, x = wr := ⟨_, rfl⟩
        subst hwq
        obtain ⟨q, k, B, cm, hq, rfl, rfl, hBr, hZr, hOR⟩ := hrel
        have HOR := Lib.hid (show RowQ P (w.heap.size + 1) true wq (.slice B k cm) R k ∧ R.fall k = highJ key (t.fall q) ∧ k ≤ R.ext ∧ k ≤ q + 100001 from hOR.out)
        clear hOR
        by_cases hlt : q < n0
        · have hqx : q < t.ext := by rw [← HN.out]; exact hlt
          have HAT := Lib.hid (high_at key hqx)
          obtain ⟨eb, eo, eA, enl, ecl, eB, enm, ecm, rfl, eP, ebl, eK, eKl, f0, f1, f2, f3, f4, f5, r1, r2, s1, s2, hf⟩ := (HS.out.pw HPL.out hBr.out).mb (i := q) _ hqx
          obtain ⟨eu, hev⟩ : ∃ eu, (t.fall q).val = eu := ⟨_, rfl⟩
          obtain ⟨ek, hek⟩ : ∃ ek, (t.fall q).key = ek := ⟨_, rfl⟩
          rw [hev] at f0 f1 f2 f3 r1 r2 s1 s2 hf
          rw [hek] at eK eKl
          rw [hev, hek] at HAT
          have HKL := Lib.hid eKl
          have HEV := Lib.hid (show VP P wq eu eA eB enl ecl enm ecm from ⟨r1, r2, s1, s2, hf⟩)
          have b5 : Below wq.heap.size wq (wq.alloc (.cells #[.string ⟨ek.toArray⟩, .int .i64 eu.kd, .bool eu.is, .int .i64 eu.n, .string ⟨eu.s.toArray⟩, .slice eA enl ecl, .slice eB enm ecm] 44)) := (Below.refl _ _).alloc (Nat.le_refl _) _
          have HB9 := Lib.hid b5
          have HM5 := Blk.new wq [.string ⟨ek.toArray⟩, .int .i64 eu.kd, .bool eu.is, .int .i64 eu.n, .string ⟨eu.s.toArray⟩, .slice eA enl ecl, .slice eB enm ecm] 44
          have m0 := HM5.cell (k := 0) rfl; have m1 := HM5.cell (k := 1) rfl; have m2 := HM5.cell (k := 2) rfl; have m3 := HM5.cell (k := 3) rfl; have m4 := HM5.cell (k := 4) rfl; have m5 := HM5.cell (k := 5) rfl; have m6 := HM5.cell (k := 6) rfl
          have x0 := (hZr.out.later b5).cell (k := 0) rfl
          have HPQ := Lib.hid (fun b (hb : P b) => show (P b ∨ w.heap.size + 1 ≤ b) ∧ b < (wq.alloc (.cells #[.string ⟨ek.toArray⟩, .int .i64 eu.kd, .bool eu.is, .int .i64 eu.n, .string ⟨eu.s.toArray⟩, .slice eA enl ecl, .slice eB enm ecm] 44)).heap.size ∧ (Value.slice B k cm).ownBlock ≠ some b from ⟨.inl hb, by have := HPL.out b hb; have := hBr.out.size; simp; omega, fun e => by have := HPL.out b hb; have := (HOR.out.1.lt b e).1; omega⟩)
          clear eP eKl r1 r2 s1 s2 hf hev hek b5 HM5
          by_cases hc : Lib.compareBytes key ek = -1
          · have hl : Op.bytesLess ek key = false := by rw [bl_cb]; exact decide_eq_false (fun h => cb_irr (cb_trans h hc))
            have hl2 : (ek == key) = false := by rw [beq_eq_false_iff_ne]; exact fun h => cb_irr (h ▸ hc)
            have HP := Lib.hid hc
            clear hc
            have h1k := fall_one (show R.fall k = JT.one ek eu (highJ key (t.fall (q + 1))) by rw [HOR.out.2.1]; rw [HAT.out, if_pos HP.out])
            have HKV := Lib.hid h1k
            have HR9 := Lib.hid (HOR.out.1.below HB9.out)
            have HGL := Lib.hid (show w.heap.size + 1 ≤ (wq.alloc (.cells #[.string ⟨ek.toArray⟩, .int .i64 eu.kd, .bool eu.is, .int .i64 eu.n, .string ⟨eu.s.toArray⟩, .slice eA enl ecl, .slice eB enm ecm] 44)).heap.size by have := hZr.out.lt; simp; omega)
            have hk6 : k ≤ 1000000 := by have := HOR.out.2.2.2; omega
            have HEK := Lib.hid (show (R.fall k).key.length ≤ 140737488355328 by rw [HKV.out.2.1]; exact HKL.out)
            have HJ2 := Lib.hid (show JCs (fun b => (P b ∨ w.heap.size + 1 ≤ b) ∧ b < (wq.alloc (.cells #[.string ⟨ek.toArray⟩, .int .i64 eu.kd, .bool eu.is, .int .i64 eu.n, .string ⟨eu.s.toArray⟩, .slice eA enl ecl, .slice eB enm ecm] 44)).heap.size ∧ (Value.slice B k cm).ownBlock ≠ some b) (wq.alloc (.cells #[.string ⟨ek.toArray⟩, .int .i64 eu.kd, .bool eu.is, .int .i64 eu.n, .string ⟨eu.s.toArray⟩, .slice eA enl ecl, .slice eB enm ecm] 44)) [.int .i64 eu.kd, .bool eu.is, .int .i64 eu.n, .string ⟨eu.s.toArray⟩, .slice eA enl ecl, .slice eB enm ecm] (R.fall k).val by rw [HKV.out.2.2.1]; exact ⟨eA, enl, ecl, eB, enm, ecm, rfl, HEV.out.1, HEV.out.2.1, (HEV.out.2.2.1.pw HPL.out (HB9.out.mono hBr.out.size)).stay (fun _ _ _ => rfl) HPQ.out, (HEV.out.2.2.2.1.pw HPL.out (HB9.out.mono hBr.out.size)).stay (fun _ _ _ => rfl) HPQ.out, HEV.out.2.2.2.2⟩)
            have HQ7 := Lib.hid (show (newC true (R.fall k).key [.int .i64 eu.kd, .bool eu.is, .int .i64 eu.n, .string ⟨eu.s.toArray⟩, .slice eA enl ecl, .slice eB enm ecm]).toArray = (newC true ek [.int .i64 eu.kd, .bool eu.is, .int .i64 eu.n, .string ⟨eu.s.toArray⟩, .slice eA enl ecl, .slice eB enm ecm]).toArray by rw [HKV.out.2.1])
            have HBW9 := Lib.hid (hBr.out.then_ HB9.out)
            have HZW9 := Lib.hid (hZr.out.later HB9.out)
            have HKR := Lib.hid HOR.out.2.2.2
            clear h1k
            go_wp2_with (at_builtin; refine wpList_append_rowQ true rfl _ _ rfl P (w.heap.size + 1) (.slice B k cm) R k rfl HR9.out hk6 HGL.out [.int .i64 eu.kd, .bool eu.is, .int .i64 eu.n, .string ⟨eu.s.toArray⟩, .slice eA enl ecl, .slice eB enm ecm] HEK.out _ _ rfl (HQ7.out.trans rfl).symm (by show Value.slice (some ⟨wq.heap.size + 1, 0, none⟩) 1 1 = _; simp) HJ2.out ?_; intro A7 c7 w7 h7 g7; obtain ⟨HR7, HB7, HZ7⟩ := grown_withQ HR9 HGL HBW9 HZW9 h7 g7; clear h7 g7)
            have HDS := Lib.hid (show WQt2 P w.heap.size R key v t (q + 1) (k + 1) A7 c7 w7 from ⟨HR7.out, HKV.out.2.2.2, by have := HKV.out.1; omega, by have := HKR.out; omega⟩)
            have HBF := HB7
            have HZF := HZ7
            go_wp2_with fail
            go_roundw
            case rel =>
              first
                | exact ⟨q + 1, k + 1, A7, c7, by omega, rfl, by go_num, HBF, HZF, HDS⟩
                | (repeat apply Exists.intro
                   refine ⟨?e0, ?e2, ?e1, HBF, HZF, HDS⟩
                   case e2 => rfl
                   case e1 => go_num
                   case e0 => omega)
                | (repeat apply Exists.intro
                   refine ⟨⟨?e0, ?e2, ?e1, HBF, HZF, HDS⟩, ?f1⟩
                   case f1 => rfl
                   case e2 => rfl
                   case e1 => go_num
                   case e0 => omega)
                | fail
            case measure => simp [intOf]; omega
          · by_cases hq2 : ek = key
            · have hl : Op.bytesLess ek key = false := by rw [bl_cb, hq2]; exact decide_eq_false (fun h => cb_irr h)
              have hl2 : (ek == key) = true := by rw [beq_iff_eq]; exact hq2
              have HP := Lib.hid hc
              clear hc hq2
              have HDS := Lib.hid (show WQt2 P w.heap.size R key v t (q + 1) k B cm (wq.alloc (.cells #[.string ⟨ek.toArray⟩, .int .i64 eu.kd, .bool eu.is, .int .i64 eu.n, .string ⟨eu.s.toArray⟩, .slice eA enl ecl, .slice eB enm ecm] 44)) from ⟨HOR.out.1.below HB9.out, by rw [HOR.out.2.1]; rw [HAT.out, if_neg HP.out], HOR.out.2.2.1, by have := HOR.out.2.2.2; omega⟩)
              have HBF := Lib.hid (hBr.out.then_ HB9.out)
              have HZF := Lib.hid (hZr.out.later HB9.out)
              go_wp2_with fail
              go_roundw
              case rel =>
                first
                  | exact ⟨q + 1, k, B, cm, by omega, rfl, by go_num, HBF, HZF, HDS⟩
                  | (repeat apply Exists.intro
                     refine ⟨?e0, ?e2, ?e1, HBF, HZF, HDS⟩
                     case e2 => rfl
                     case e1 => go_num
                     case e0 => omega)
                  | (repeat apply Exists.intro
                     refine ⟨⟨?e0, ?e2, ?e1, HBF, HZF, HDS⟩, ?f1⟩
                     case f1 => rfl
                     case e2 => rfl
                     case e1 => go_num
                     case e0 => omega)
                  | fail
              case measure => simp [intOf]; omega
            · have hl : Op.bytesLess ek key = true := by
                rw [bl_cb]
                rcases cb_three ek key with h | h | h
                · exact decide_eq_true h
                · exact absurd (cb_eq h) hq2
                · exact absurd (by rw [cb_anti, h]) hc
              have hl2 : (ek == key) = false := by rw [beq_eq_false_iff_ne]; exact hq2
              have HP := Lib.hid hc
              clear hc hq2
              have HDS := Lib.hid (show WQt2 P w.heap.size R key v t (q + 1) k B cm (wq.alloc (.cells #[.string ⟨ek.toArray⟩, .int .i64 eu.kd, .bool eu.is, .int .i64 eu.n, .string ⟨eu.s.toArray⟩, .slice eA enl ecl, .slice eB enm ecm] 44)) from ⟨HOR.out.1.below HB9.out, by rw [HOR.out.2.1]; rw [HAT.out, if_neg HP.out], HOR.out.2.2.1, by have := HOR.out.2.2.2; omega⟩)
              have HBF := Lib.hid (hBr.out.then_ HB9.out)
              have HZF := Lib.hid (hZr.out.later HB9.out)
              go_wp2_with fail
              go_roundw
              case rel =>
                first
                  | exact ⟨q + 1, k, B, cm, by omega, rfl, by go_num, HBF, HZF, HDS⟩
                  | (repeat apply Exists.intro
                     refine ⟨?e0, ?e2, ?e1, HBF, HZF, HDS⟩
                     case e2 => rfl
                     case e1 => go_num
                     case e0 => omega)
                  | (repeat apply Exists.intro
                     refine ⟨⟨?e0, ?e2, ?e1, HBF, HZF, HDS⟩, ?f1⟩
                     case f1 => rfl
                     case e2 => rfl
                     case e1 => go_num
                     case e0 => omega)
                  | fail
              case measure => simp [intOf]; omega
        · obtain rfl : n0 = q := by omega
          have hkx : k = R.ext := by
            have h1 := JT.fall_ext R k
            rw [HOR.out.2.1, high_end key (by rw [← HN.out]; exact Nat.le_refl _)] at h1
            have h2 : (0 : Nat) = R.ext - k := h1
            have := HOR.out.2.2.1
            omega
          subst hkx
          obtain ⟨A9, c9, he9, hroom, hjs⟩ := HOR.out.1.done (Nat.le_trans HOR.out.2.2.2 (by omega))
          have hA9 : B = A9 := by injection he9
          have hC9 : cm = c9 := by injection he9
          subst hA9 hC9
          have HE9 := Lib.hid (And.intro hroom hjs)
          clear he9 hroom hjs
          go_wp2_with fail
          go_ret
          exact ⟨⟨_, _, rfl, HE9.out.1, HE9.out.2⟩, hBr.out⟩

end Go.Proofs.YtajkgcmopmpihaaGreatDoor
