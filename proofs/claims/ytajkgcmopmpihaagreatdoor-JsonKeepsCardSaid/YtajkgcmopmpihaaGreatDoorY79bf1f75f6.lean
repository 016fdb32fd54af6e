/- Texts put together: JpM JpC JvU Nx JvW. -/
import Derived.Test.YtajkgcmopmpihaaGreatDoorY49b39df4f7
import Derived.Test.YtajkgcmopmpihaaGreatDoorYd7ba4700c6
import Derived.Test.YtajkgcmopmpihaaGreatDoorYcc66149044
import Derived.Test.YtajkgcmopmpihaaGreatDoorYcc81974a9e
import Derived.Test.YtajkgcmopmpihaaGreatDoorShelfK
import Derived.Lib.AppendStr
import Derived.Lib.LaidTab
import Derived.Lib.ItoaNum
import Derived.WalkLawsBesides
import Derived.Recover
import Derived.Sort.Grow
namespace Go.Proofs.YtajkgcmopmpihaaGreatDoor
open Go.Lib
set_option linter.unusedVariables false
inductive Fr where
  | l (acc : JT)
  | t (acc : JT) (key : List UInt8)
  | k (acc : JT)
def sortA : JT → JT → JT
  | out, .nil => out
  | out, .cons k kd is n s l m r => sortA (out.ins k ⟨kd, is, n, s, l, m⟩) r
def sortJ (t : JT) : JT := sortA .nil t
theorem sortA_snoc : ∀ (t out : JT) (k : List UInt8) (v : Jv), sortA out (t.snoc k v) = (sortA out t).ins k v
  | .nil, out, k, v => by obtain ⟨_, _, _, _, _, _⟩ := v; rfl
  | .cons k0 kd is n s l m r, out, k, v => by simp only [JT.snoc, sortA]; exact sortA_snoc r _ k v
theorem sortJ_snoc (t : JT) (k : List UInt8) (v : Jv) : sortJ (t.snoc k v) = (sortJ t).ins k v := sortA_snoc t .nil k v
theorem ins_hasK : ∀ (t : JT) (k : List UInt8) (v : Jv) (key : List UInt8), (t.ins k v).hasK key = (k == key || t.hasK key)
  | .nil, k, v, key => by obtain ⟨_, _, _, _, _, _⟩ := v; simp [JT.ins, JT.one, JT.hasK]
  | .cons k0 kd is n s l m r, k, v, key => by
    obtain ⟨_, _, _, _, _, _⟩ := v
    simp only [JT.ins]
    split
    · simp only [JT.hasK, ins_hasK r k _ key, Bool.or_left_comm]
    · simp [JT.one, JT.hasK]
theorem snoc_hasK : ∀ (t : JT) (k : List UInt8) (v : Jv) (key : List UInt8), (t.snoc k v).hasK key = (t.hasK key || k == key)
  | .nil, k, v, key => by obtain ⟨_, _, _, _, _, _⟩ := v; simp [JT.snoc, JT.one, JT.hasK]
  | .cons k0 kd is n s l m r, k, v, key => by simp only [JT.snoc, JT.hasK, snoc_hasK r k v key, Bool.or_assoc]
theorem sortA_hasK : ∀ (t out : JT) (key : List UInt8), (sortA out t).hasK key = (out.hasK key || t.hasK key)
  | .nil, out, key => by simp [sortA, JT.hasK]
  | .cons k kd is n s l m r, out, key => by
    simp only [sortA, sortA_hasK r, ins_hasK, JT.hasK]
    cases out.hasK key <;> cases (k == key) <;> simp
theorem sortJ_hasK (t : JT) (key : List UInt8) : (sortJ t).hasK key = t.hasK key := by unfold sortJ; rw [sortA_hasK]; simp [JT.hasK]
def JT.apart : JT → Prop
  | .nil => True
  | .cons k _ _ _ _ _ _ r => r.hasK k = false ∧ r.apart
theorem snoc_apart : ∀ {t : JT} {k : List UInt8} {v : Jv}, t.apart → t.hasK k = false → (t.snoc k v).apart
  | .nil, k, v, _, _ => by obtain ⟨_, _, _, _, _, _⟩ := v; exact ⟨rfl, trivial⟩
  | .cons k0 kd is n s l m r, k, v, h, h2 => by
    simp only [JT.hasK, Bool.or_eq_false_iff, beq_eq_false_iff_ne] at h2
    refine ⟨?_, snoc_apart h.2 h2.2⟩
    rw [snoc_hasK, h.1, Bool.false_or, beq_eq_false_iff_ne]
    exact fun e => h2.1 e.symm
def resume : List Fr → PRes → PRes
  | [], r => r
  | _ :: _, .error e => .error e
  | .l acc :: fs, .ok p => resume fs (pLn (acc.snoc [] p.1) (fs.length + 1) p.2)
  | .t acc k :: fs, .ok p => resume fs (pTn ((sortJ acc).ins k p.1) (fs.length + 1) p.2)
  | .k _ :: _, .ok _ => .error 0
theorem resume_err : ∀ (fs : List Fr) (e : Int), resume fs (.error e) = .error e
  | [], _ => rfl
  | .l _ :: _, _ => rfl
  | .t _ _ :: _, _ => rfl
  | .k _ :: _, _ => rfl
theorem resume_l (acc : JT) (fs : List Fr) (r : PRes) : resume (.l acc :: fs) r = resume fs (r.then fun x q => pLn (acc.snoc [] x) (fs.length + 1) q) := by
  cases r with
  | error e => simp only [PRes.then, resume_err, resume]
  | ok p => rfl
theorem resume_t (acc : JT) (k : List UInt8) (fs : List Fr) (r : PRes) : resume (.t acc k :: fs) r = resume fs (r.then fun x q => pTn ((sortJ acc).ins k x) (fs.length + 1) q) := by
  cases r with
  | error e => simp only [PRes.then, resume_err, resume]
  | ok p => rfl
theorem skip_skip (r : List UInt8) : skipB (skipB r) = skipB r := by
  unfold skipB
  induction r with
  | nil => rfl
  | cons c r ih =>
    simp only [List.dropWhile_cons]
    split
    · exact ih
    · rename_i h; simp [h]
theorem pV_skip (n : Nat) (r : List UInt8) : pV n (skipB r) = pV n r := by rw [pV_eq, pV_eq, skip_skip]
theorem pT_skip (acc : JT) (n : Nat) (r : List UInt8) : pT acc n (skipB r) = pT acc n r := by rw [pT_eq, pT_eq, skip_skip]
theorem pL_push (acc : JT) (fs : List Fr) (r : List UInt8) : resume fs (pL acc (fs.length + 1) r) = resume (.l acc :: fs) (pV (fs.length + 1) r) := by rw [pL_eq, resume_l]
def keyF (acc : JT) (r : List UInt8) : Except Int (List UInt8 × List UInt8) := match skipB r with
  | [] => .error 4
  | c :: q => if c = 34 then (match scan q with
      | none => .error 4
      | some p => if acc.hasK p.1 then .error 6 else match skipB (q.drop p.2) with
        | [] => .error 4
        | d :: q2 => if d = 58 then .ok (p.1, q2) else .error 4)
    else .error 4
theorem pT_push (acc : JT) (fs : List Fr) (r : List UInt8) : resume fs (pT (sortJ acc) (fs.length + 1) r) = (match keyF acc r with | .error e => .error e | .ok p => resume (.t acc p.1 :: fs) (pV (fs.length + 1) p.2)) := by
  rw [pT_eq]
  unfold keyF
  cases hs : skipB r with
  | nil => exact resume_err _ _
  | cons c q =>
    dsimp only
    by_cases hc : c = 34
    · rw [if_pos hc, if_pos hc]
      unfold pK
      cases hk : scan q with
      | none => exact resume_err _ _
      | some p =>
        dsimp only
        rw [sortJ_hasK]
        by_cases hh : acc.hasK p.1 = true
        · rw [if_pos hh, if_pos hh]; exact resume_err _ _
        · rw [if_neg hh, if_neg hh]
          cases hd : skipB (q.drop p.2) with
          | nil => exact resume_err _ _
          | cons d q2 =>
            dsimp only
            by_cases h58 : d = 58
            · rw [if_pos h58, if_pos h58]; exact (resume_t _ _ _ _).symm
            · rw [if_neg h58, if_neg h58]; exact resume_err _ _
    · rw [if_neg hc, if_neg hc]; exact resume_err _ _
end Go.Proofs.YtajkgcmopmpihaaGreatDoor
namespace Go.Proofs.YtajkgcmopmpihaaGreatDoor
open Go.ChangeShapes Go.WideShapes Go.ChangeAt Go.RowKit Go.IntWalk
set_option linter.unusedVariables false
set_option maxRecDepth 100000
structure Chg (C : Nat → Prop) (w w' : World) : Prop where
  os : w'.os = w.os
  tape : w'.tape = w.tape
  output : w'.output = w.output
  size : w.heap.size ≤ w'.heap.size
  block : ∀ b, b < w.heap.size → ¬ C b → w'.heap[b]? = w.heap[b]?
section
variable {C D : Nat → Prop} {a b w w' w2 : World}
theorem Chg.refl (C : Nat → Prop) (w : World) : Chg C w w := ⟨rfl, rfl, rfl, Nat.le_refl _, fun _ _ _ => rfl⟩
theorem Chg.trans (h : Chg C w w') (k : Chg D w' w2) (hD : ∀ b, b < w.heap.size → D b → C b) : Chg C w w2 :=
  ⟨k.os.trans h.os, k.tape.trans h.tape, k.output.trans h.output, Nat.le_trans h.size k.size, fun b hb hn => (k.block b (Nat.lt_of_lt_of_le hb h.size) (fun hd => hn (hD b hb hd))).trans (h.block b hb hn)⟩
theorem Chg.then_ (h : Chg C w w') (k : Chg C w' w2) : Chg C w w2 := h.trans k (fun _ _ h => h)
theorem Chg.mono (h : Chg C w w') (hC : ∀ b, b < w.heap.size → C b → D b) : Chg D w w' := ⟨h.os, h.tape, h.output, h.size, fun b hb hn => h.block b hb (fun hc => hn (hC b hb hc))⟩
theorem Chg.of (h : Below w.heap.size w w') : Chg C w w' := ⟨h.os, h.tape, h.output, h.size, fun b hb _ => h.block b hb⟩
theorem Chg.thenB (h : Chg C w w') (k : Below w'.heap.size w' w2) : Chg C w w2 := h.then_ (Chg.of k)
theorem Chg.drewN (h : Chg C w w') (n : Nat) : Chg C w (w'.drewN n) := h.thenB ((Below.refl _ _).drewN n)
theorem Chg.drew (h : Chg C w w') : Chg C w w'.drew := h.thenB ((Below.refl _ _).drew)
theorem Chg.alloc (h : Chg C w w') (o : Obj) : Chg C w (w'.alloc o) := h.thenB ((Below.refl _ _).alloc (Nat.le_refl _) _)
theorem Chg.set1 {g k : Nat} (hg : C g) (v : Value) (w : World) : Chg C w (w.setCell ⟨g, k, none⟩ v) := by
  have := (Below.refl 0 w).setCell (p := ⟨g, k, none⟩) (Nat.zero_le _) v
  exact ⟨this.os, this.tape, this.output, this.size, fun b _ hn => Deep.blk_setCell_other _ _ _ _ (fun e => hn (by rw [e]; exact hg))⟩
theorem Chg.setCell (h : Chg C w w') {g k : Nat} (hg : C g ∨ w.heap.size ≤ g) (v : Value) : Chg C w (w'.setCell ⟨g, k, none⟩ v) := by
  have := (Below.refl 0 w').setCell (p := ⟨g, k, none⟩) (Nat.zero_le _) v
  exact ⟨this.os.trans h.os, this.tape.trans h.tape, this.output.trans h.output, Nat.le_trans h.size this.size, fun b hb hn => (Deep.blk_setCell_other _ _ _ _ (fun e => by
    have e2 : b = g := e
    rcases hg with hg | hg
    · exact hn (by rw [e2]; exact hg)
    · omega)).trans (h.block b hb hn)⟩
theorem Chg.grown {row : Option Nat} (h : Chg C w w') (k : w'.grownBy w2 row) (hr : ∀ b, row = some b → C b ∨ w.heap.size ≤ b) : Chg C w w2 :=
  ⟨k.os.trans h.os, k.tape.trans h.tape, k.output.trans h.output, Nat.le_trans h.size k.size, fun b hb hn => (k.block b (Nat.lt_of_lt_of_le hb h.size) (fun e => by
    rcases hr b e.symm with h1 | h1
    · exact hn h1
    · omega)).trans (h.block b hb hn)⟩
theorem Chg.turn {g : Nat} (h : Chg C w w') (k : Turn w' w2 g) (hg : C g ∨ w.heap.size ≤ g) : Chg C w w2 :=
  ⟨k.os.trans h.os, k.tape.trans h.tape, k.output.trans h.output, by rw [k.size]; exact h.size, fun b hb hn => (k.block b (fun e => by
    rcases hg with h1 | h1
    · exact hn (by rw [e]; exact h1)
    · omega)).trans (h.block b hb hn)⟩
theorem Chg.blk {g : Nat} {T : TypeId} {cs : List Value} (h : Chg C w w') (hb : Blk w g T cs) (hn : ¬ C g) : Blk w' g T cs := (h.block g hb.lt hn).trans hb
theorem Chg.cell {g o : Nat} (h : Chg C w w') (hg : g < w.heap.size) (hn : ¬ C g) : w'.cell? ⟨g, o, none⟩ = w.cell? ⟨g, o, none⟩ := World.cell?_of_block (w := w) (h.block g hg hn)
theorem Chg.below {B : Nat} {w0 : World} (h : Chg C w w') (h0 : Below B w0 w) (hB : B ≤ w.heap.size) (hC : ∀ b, b < w.heap.size → C b → B ≤ b) : Below B w0 w' :=
  ⟨h.os.trans h0.os, h.tape.trans h0.tape, h.output.trans h0.output, Nat.le_trans h0.size h.size, fun k hk => (h.block k (Nat.lt_of_lt_of_le hk hB) (fun hc => by have := hC k (Nat.lt_of_lt_of_le hk hB) hc; omega)).trans (h0.block k hk)⟩
end
def RowP (P : Nat → Prop) (base : Nat) (mem : Bool) (w : World) (L : Value) (t : JT) (k : Nat) : Prop :=
  ∃ cs : List Value, w.ownsRow base (tyM mem) (stM mem) L k cs ∧ ∀ i, i < k → RowE P mem w cs t i
section
variable {P P' : Nat → Prop} {base k : Nat} {mem : Bool} {w w' : World} {L : Value} {t t' : JT}
theorem RowP.nil (P : Nat → Prop) (base : Nat) (mem : Bool) (w : World) (t : JT) : RowP P base mem w (.slice none 0 0) t 0 := ⟨[], World.ownsRow_nil w base _ _, fun i hi => absurd hi (Nat.not_lt_zero i)⟩
theorem RowP.lt (h : RowP P base mem w L t k) : ∀ b, L.ownBlock = some b → base ≤ b ∧ b < w.heap.size := by obtain ⟨cs, h1, _⟩ := h; exact World.ownsRow.lt h1
theorem RowP.stay (h : RowP P base mem w L t k) (hg : ∀ g, L.ownBlock = some g → w'.heap[g]? = w.heap[g]?) (hc : ∀ b o, P b → w'.cell? ⟨b, o, none⟩ = w.cell? ⟨b, o, none⟩) (hq : ∀ b, P b → P' b) : RowP P' base mem w' L t k := by
  obtain ⟨cs, h0, h1⟩ := h
  refine ⟨cs, ⟨h0.1, ?_⟩, fun i hi => ⟨(h1 i hi).1, ?_⟩⟩
  · rcases h0.2 with h2 | ⟨g, cap, cur, hv, hb, hh, r⟩
    · exact .inl h2
    · exact .inr ⟨g, cap, cur, hv, hb, by rw [hg g (by rw [hv]; rfl)]; exact hh, r⟩
  · obtain ⟨_, e, h2, h3⟩ := h1 i hi
    exact ⟨e, h2, h3.stay hc hq⟩
theorem RowP.like (h : RowP P base mem w L t k) (he : ∀ i, i < k → (t'.fall i).key = (t.fall i).key ∧ (t'.fall i).val = (t.fall i).val) : RowP P base mem w L t' k := by
  obtain ⟨cs, h0, h1⟩ := h
  refine ⟨cs, h0, fun i hi => ?_⟩
  obtain ⟨h2, e, h3, h4⟩ := h1 i hi
  obtain ⟨e1, e2⟩ := he i hi
  exact ⟨by rw [e1]; exact h2, e, h3, by rw [e2]; exact h4⟩
theorem RowP.app {cs : List Value} {g cap : Nat} (h1 : ∀ i, i < k → RowE P mem w cs t i) (hl : cs.length = k * stM mem) (hP : ∀ b, P b → b < w.heap.size ∧ L.ownBlock ≠ some b)
    (hg : w.grownBy w' L.ownBlock) (e : List Value)
    (hkey : if mem then (t.fall k).key.length ≤ 140737488355328 else (t.fall k).key = [])
    (h' : w'.ownsRow base (tyM mem) (stM mem) (.slice (some ⟨g, 0, none⟩) (k + 1) cap) (k + 1) (cs ++ newC mem (t.fall k).key e))
    (hc : JCs P w e (t.fall k).val) : RowP P base mem w' (.slice (some ⟨g, 0, none⟩) (k + 1) cap) t (k + 1) := by
  have hst : ∀ {e : List Value} {v : Jv}, JCs P w e v → JCs P w' e v := fun h => h.stay (fun b o hb => hg.cell_far ⟨b, o, none⟩ (hP b hb).1 (fun e => (hP b hb).2 e.symm)) (fun b hb => hb)
  refine ⟨_, h', fun i hi => ?_⟩
  rcases Nat.lt_succ_iff_lt_or_eq.1 hi with hi | rfl
  · obtain ⟨h2, e2, h3, h4⟩ := h1 i hi
    refine ⟨?_, e2, fun j v hj => getD_app_l (h3 j v hj), hst h4⟩
    cases mem with
    | true => exact ⟨getD_app_l h2.1, h2.2⟩
    | false => exact h2
  · refine ⟨?_, e, fun j v hj => ?_, hst hc⟩
    · cases mem with
      | true => refine ⟨?_, hkey⟩; rw [← hl, show cs.length = cs.length + 0 from rfl, getD_app_r]; rfl
      | false => exact hkey
    · rw [← hl, Nat.add_assoc, getD_app_r]
      cases mem with
      | true => rw [show kwM true = 1 from rfl, Nat.add_comm]; exact hj
      | false => rw [show kwM false = 0 from rfl, Nat.zero_add]; exact hj
end
theorem wp_append_rowP {o : Oper} {a : Act} {K : Act → World → Prop} {Q : Exit → Act → World → Prop} {W : World} (mem : Bool) (s x : Operand)
    (ho : o.op = .call { callee := .builtin .append, args := #[s, x], argTypes := #[tsM mem, tsM mem] })
    (P : Nat → Prop) (base : Nat) (L : Value) (t : JT) (k : Nat) (hs : a.eval s = L) (hrow : RowP P base mem W L t k) (hk : k ≤ 1000000) (hP : ∀ b, P b → b < W.heap.size ∧ L.ownBlock ≠ some b) (hbW : base ≤ W.heap.size)
    (B : Nat) (e : List Value) (hkey : if mem then (t.fall k).key.length ≤ 140737488355328 else (t.fall k).key = [])
    (hx : a.eval x = .slice (some ⟨B, 0, none⟩) 1 1) (hB : Blk W B (tyM mem) (newC mem (t.fall k).key e)) (hc : JCs P W e (t.fall k).val)
    (h : ∀ g c w', RowP P base mem w' (.slice (some ⟨g, 0, none⟩) (k + 1) c) t (k + 1) → (L.ownBlock = some g ∨ g = W.heap.size) → W.grownBy w' L.ownBlock → K (a.put o.dst (.slice (some ⟨g, 0, none⟩) (k + 1) c)) w') : o.wp Tryz.prog a W K Q := by
  obtain ⟨i, z, hi, hz, hsz, hby, hzs⟩ := info_row mem
  obtain ⟨cs, hown, h1⟩ := hrow
  have h6 : e.length = 6 := by obtain ⟨A, nl, cl, B, nm, cm, rfl, _⟩ := hc; rfl
  have h1c : ∀ u ∈ newC mem (t.fall k).key e, u.oneCell' = true := by
    obtain ⟨A, nl, cl, B, nm, cm, rfl, _⟩ := hc
    intro u hu
    cases mem with
    | true =>
      simp only [newC, if_true, List.mem_cons, List.not_mem_nil, or_false] at hu
      rcases hu with rfl | rfl | rfl | rfl | rfl | rfl | rfl <;> rfl
    | false =>
      simp only [newC, Bool.false_eq_true, if_false, List.mem_cons, List.not_mem_nil, or_false] at hu
      rcases hu with rfl | rfl | rfl | rfl | rfl | rfl <;> rfl
  have hnl : (newC mem (t.fall k).key e).length = 1 * stM mem := by
    cases mem with
    | true => simp [newC, h6, stM, kwM]
    | false => simp [newC, h6, stM, kwM]
  have hb : (k + 1) * i.bytes ≤ 140737488355328 := by
    rw [hby]
    cases mem with
    | true => simp only [if_true]; omega
    | false => simp only [Bool.false_eq_true, if_false]; omega
  refine wp_append_lies W s x (tsM mem) ho base (tyM mem) i z (stM mem) i.bytes (under_row mem) hi hz hsz rfl hzs (by cases mem <;> decide) L k cs hs hown ⟨B, 0, none⟩ 1 1 (newC mem (t.fall k).key e) hx hnl ?_ h1c (by decide) (Nat.le_trans (show k + 1 ≤ 1000001 by omega) (by decide)) hb hbW _ rfl ?_
  · intro j u hj
    have hplain : (⟨B, 0, none⟩ : Addr).add j = ⟨B, j, none⟩ := by unfold Addr.add; split <;> simp_all
    rw [hplain]
    exact hB.cell hj
  · intro g cap w' h2 h3 h4 _
    exact h g cap w' (RowP.app h1 hown.1 hP h3 e hkey h2 hc) h4 h3
structure Frm where
  fr : Fr
  g : Nat
  L : Value
  mb : Nat
  F : Nat → Prop
def Fr.acc : Fr → JT
  | .l a => a
  | .t a _ => a
  | .k a => a
def Fr.mem : Fr → Bool
  | .l _ => false
  | .t _ _ => true
  | .k _ => true
def Fr.ty : Fr → TypeId
  | .l _ => 90
  | .t _ _ => 94
  | .k _ => 94
def Frm.ptr (f : Frm) : Value := .iface f.fr.ty (.pointer (some ⟨f.g, 0, none⟩))
def SeenIs (w : World) (b : Nat) (p : List UInt8 → Bool) (N : Nat) : Prop := ∃ n, n ≤ N ∧ Mp Tryz.prog 9 w b (fun s => if p s then some (.agg #[]) else none) n
def Frm.box (f : Frm) (w : World) : Prop := match f.fr with
  | .l _ => Blk w f.g 92 [f.L] ∧ f.mb = f.g
  | .t acc key => Blk w f.g 97 [f.L, .map (some f.mb), .string ⟨key.toArray⟩] ∧ SeenIs w f.mb (fun x => acc.hasK x || key == x) (acc.ext + 1) ∧ f.mb ≠ f.g ∧ acc.apart ∧ acc.hasK key = false ∧ key.length ≤ 300000
  | .k acc => (∃ key : List UInt8, Blk w f.g 97 [f.L, .map (some f.mb), .string ⟨key.toArray⟩]) ∧ SeenIs w f.mb (fun x => acc.hasK x) acc.ext ∧ f.mb ≠ f.g ∧ acc.apart
def FIn (base : Nat) (w : World) (f : Frm) : Prop :=
  f.box w ∧ f.F f.g ∧ f.F f.mb ∧ (∀ b, f.L.ownBlock = some b → f.F b ∧ b ≠ f.g ∧ b ≠ f.mb) ∧ (∀ b, f.F b → base ≤ b ∧ b < w.heap.size) ∧
  ∃ P : Nat → Prop, RowP P 0 f.fr.mem w f.L f.fr.acc f.fr.acc.ext ∧ ∀ b, P b → f.F b ∧ b ≠ f.g ∧ b ≠ f.mb ∧ f.L.ownBlock ≠ some b
section
variable {base : Nat} {w w' : World} {f : Frm}
theorem SeenIs.stay {b N : Nat} {p : List UInt8 → Bool} (h : SeenIs w b p N) (hb : w'.heap[b]? = w.heap[b]?) : SeenIs w' b p N := by
  obtain ⟨n, h1, h2⟩ := h
  exact ⟨n, h1, h2.stay hb⟩
theorem Frm.box_stay (h : f.box w) (hg : w'.heap[f.g]? = w.heap[f.g]?) (hm : w'.heap[f.mb]? = w.heap[f.mb]?) : f.box w' := by
  unfold Frm.box at *
  split at h
  · exact ⟨hg.trans h.1, h.2⟩
  · exact ⟨hg.trans h.1, h.2.1.stay hm, h.2.2⟩
  · obtain ⟨⟨key, h1⟩, h2, h3⟩ := h; exact ⟨⟨key, hg.trans h1⟩, h2.stay hm, h3⟩
theorem FIn.stay (h : FIn base w f) (hs : w.heap.size ≤ w'.heap.size) (hb : ∀ b, f.F b → w'.heap[b]? = w.heap[b]?) : FIn base w' f := by
  obtain ⟨h1, h2, h3, h4, h5, P, h6, h7⟩ := h
  exact ⟨Frm.box_stay h1 (hb _ h2) (hb _ h3), h2, h3, h4, fun b hf => ⟨(h5 b hf).1, Nat.lt_of_lt_of_le (h5 b hf).2 hs⟩, P, h6.stay (fun g hg => hb g (h4 g hg).1) (fun b o hp => World.cell?_of_block (w := w) (hb b (h7 b hp).1)) (fun _ h => h), h7⟩
theorem FIn.chg {C : Nat → Prop} (h : FIn base w f) (hc : Chg C w w') (hn : ∀ b, f.F b → ¬ C b) : FIn base w' f :=
  h.stay hc.size (fun b hf => hc.block b (h.2.2.2.2.1 b hf).2 (hn b hf))
end
structure RSt (base : Nat) (w : World) (r : Nat) (s : List UInt8) (at_ : Nat) (U : Value) (fs : List Frm) : Prop where
  blk : Blk w r 50 [.string ⟨s.toArray⟩, .int .i64 (at_ : Int), U]
  own : OwnVs base 20 w U (fs.reverse.map Frm.ptr)
  ur : ∀ b, U.ownBlock = some b → b ≠ r
  away : ∀ f ∈ fs, ¬ f.F r ∧ ∀ b, U.ownBlock = some b → ¬ f.F b
  ins : ∀ f ∈ fs, FIn base w f
  apart : fs.Pairwise (fun f f' => ∀ b, f.F b → ¬ f'.F b)
  hr : base ≤ r
  len : fs.length ≤ 32
  hat : at_ ≤ s.length
  hs : s.length ≤ 65536
  sub : ∀ f ∈ fs, f.fr.acc.ext ≤ at_
section
variable {base : Nat} {w w' : World} {r : Nat} {s : List UInt8} {at_ at' : Nat} {U : Value} {fs : List Frm}
theorem RSt.lt (h : RSt base w r s at_ U fs) : r < w.heap.size := h.blk.lt
theorem RSt.move (h : RSt base w r s at_ U fs) (hc : Chg (· = r) w w') (hb : Blk w' r 50 [.string ⟨s.toArray⟩, .int .i64 (at' : Int), U]) (h1 : at_ ≤ at') (h2 : at' ≤ s.length) : RSt base w' r s at' U fs :=
  ⟨hb, by
    refine ⟨h.own.1, ?_⟩
    rcases h.own.2 with h3 | ⟨g, cap, cur, hv, hb, hh, q⟩
    · exact .inl h3
    · exact .inr ⟨g, cap, cur, hv, hb, by rw [hc.block g ((Array.getElem?_eq_some_iff.1 hh).1) (h.ur g (by rw [hv]; rfl))]; exact hh, q⟩, h.ur, h.away, fun f hf => (h.ins f hf).chg hc (fun b hb e => (h.away f hf).1 (by rw [← e]; exact hb)), h.apart, h.hr, h.len, h2, h.hs, fun f hf => by have := h.sub f hf; omega⟩
theorem RSt.later (h : RSt base w r s at_ U fs) (hb : Below w.heap.size w w') : RSt base w' r s at_ U fs :=
  h.move (Chg.of hb) (h.blk.later hb) (Nat.le_refl _) h.hat
end
end Go.Proofs.YtajkgcmopmpihaaGreatDoor
namespace Go.Proofs.YtajkgcmopmpihaaGreatDoor
open Go.ChangeShapes Go.WideShapes Go.ChangeAt Go.RowKit Go.IntWalk
set_option linter.unusedVariables false
set_option maxRecDepth 100000
theorem lng_ok {b : List UInt8} (h : b.length ≤ 65536) : lng b = .ok b := by unfold lng; rw [if_pos h]
theorem lng_bad {b : List UInt8} (h : ¬ b.length ≤ 65536) : lng b = .error 3 := by unfold lng; rw [if_neg h]
theorem lng_test {b : List UInt8} {n : Nat} (hn : Hid (n = b.length)) (h : b.length ≤ 65536) : decide ((65536 : Int) < (n : Int)) = false := by
  have := hn.out; simp; omega
theorem lng_test' {b : List UInt8} {n : Nat} (hn : Hid (n = b.length)) (h : ¬ b.length ≤ 65536) : decide ((65536 : Int) < (n : Int)) = true := by
  have := hn.out; simp; omega
theorem ne_of_turn {w : World} {g : Nat} {v v1 : Value} (h : v.ownBlock ≠ some g) (hg : g < w.heap.size) (ch : v1.ownBlock = v.ownBlock ∨ v1.ownBlock = none ∨ ∃ k, v1.ownBlock = some k ∧ w.heap.size ≤ k) : v1.ownBlock ≠ some g := by
  rcases ch with e | e | ⟨k, e, hk⟩
  · rw [e]; exact h
  · rw [e]; simp
  · rw [e]; simp; omega
theorem Blk.of_gb {w w1 : World} {g : Nat} {T : TypeId} {cs : List Value} {row : Option Nat} (h : Blk w g T cs) (hg : w.grownBy w1 row) (hne : row ≠ some g) : Blk w1 g T cs := (hg.block g h.lt (fun e => hne e.symm)).trans h
theorem escB_le (c : UInt8) : (escB c).length ≤ 6 := by
  unfold escB
  repeat' split
  all_goals simp
theorem escL_le (l : List UInt8) : (escL l).length ≤ 6 * l.length := by
  unfold escL
  induction l with
  | nil => simp
  | cons c l ih => rw [List.flatMap_cons, List.length_append, List.length_cons]; have := escB_le c; omega
theorem putF_le (l : List UInt8) : (putF l).length ≤ 6 * l.length + 2 := by
  have := escL_le l
  unfold putF
  split
  · simp; omega
  · simp
theorem gPow : Tryz.prog.globalNamed "internal/strconv.uint64pow10" = some 3 := by kernel_rfl
def PowT (base : Nat) (w : World) : Prop := 3 < base ∧ Lib.TabIs Tryz.prog w "internal/strconv.uint64pow10" .u64 Lib.pow10Tab
theorem PowT.blw {base : Nat} {w w' : World} (h : PowT base w) (b : Below base w w') : PowT base w' := by
  refine ⟨h.1, ?_⟩
  have h2 := h.2
  unfold Lib.TabIs World.var? at h2 ⊢
  rw [gPow] at h2 ⊢
  simp only [Option.bind_some] at h2 ⊢
  rw [b.block _ h.1]
  exact h2
theorem then_ok (b : List UInt8) (f : List UInt8 → Res) : Res.then (.ok b) f = f b := rfl
theorem then_bad (x : Int) (f : List UInt8 → Res) : Res.then (.error x) f = .error x := rfl
theorem wrK_lS (p k b : List UInt8) : wrK false (some p) k b = lng (b ++ [44]) := by
  unfold wrK
  cases lng (b ++ [44]) <;> rfl
theorem prevK_pos {t : JT} {i : Nat} (h : 0 < i) : prevK t i = some (t.fall (i - 1)).key := by unfold prevK; rw [if_neg (by omega)]
def wrL (t : JT) (deep : Nat) (b : List UInt8) : Res := (if 32 ≤ deep then .error 5 else lng (b ++ [91])).then fun b => (wrF false t (deep + 1) none b).then fun b => lng (b ++ [93])
def LStep (R : Res) (mem : Bool) (t : JT) (deep k : Nat) (b : List UInt8) : Prop := R = wrF mem (t.fall k) deep (prevK t k) b
def wrM (t : JT) (deep : Nat) (b : List UInt8) : Res := (if 32 ≤ deep then .error 5 else lng (b ++ [123])).then fun b => (wrF true t (deep + 1) none b).then fun b => lng (b ++ [125])
def wrT (t : JT) (k deep : Nat) (ek : List UInt8) (ev : Jv) (b : List UInt8) : Res :=
  (txt b ek).then fun b => (lng (b ++ [58])).then fun b => (wrV ev (deep + 1) b).then fun b => wrF true (t.fall (k + 1)) (deep + 1) (prevK t (k + 1)) b
theorem wrK_m0 (t : JT) (k deep : Nat) (ek : List UInt8) (ev : Jv) (b : List UInt8) : ((wrK true none ek b).then fun b => (wrV ev (deep + 1) b).then fun b => wrF true (t.fall (k + 1)) (deep + 1) (prevK t (k + 1)) b) = wrT t k deep ek ev b := by
  unfold wrK wrT
  simp only [then_ok, if_true]
  cases txt b ek with
  | error x => rfl
  | ok b => simp only [then_ok]
theorem wrK_mS (t : JT) (k deep : Nat) (p ek : List UInt8) (ev : Jv) (b : List UInt8) : ((wrK true (some p) ek b).then fun b => (wrV ev (deep + 1) b).then fun b => wrF true (t.fall (k + 1)) (deep + 1) (prevK t (k + 1)) b) =
    (lng (b ++ [44])).then fun b => if leqB ek p then .error 1 else wrT t k deep ek ev b := by
  unfold wrK wrT
  cases lng (b ++ [44]) with
  | error x => rfl
  | ok b =>
    simp only [then_ok, Bool.true_and, if_true]
    cases leqB ek p with
    | true => rfl
    | false =>
      simp only [Bool.false_eq_true, if_false, then_ok]
      cases txt b ek with
      | error x => rfl
      | ok b => simp only [then_ok]
theorem below_grow {w w' : World} (h : ∃ k os, w' = Sort.grow (w.drewN k) os) : Below w.heap.size w w' := by
  obtain ⟨k, os, rfl⟩ := h
  exact ⟨rfl, rfl, rfl, by simp [Sort.grow], fun i hi => by simp [Sort.grow, Array.getElem?_append, hi]⟩
theorem decDigits_le (k : Nat) : ∀ u, u < 10 ^ (k + 1) → (Lib.decDigits u).length ≤ k + 1 := by
  induction k with
  | zero => intro u h; rw [Lib.decDigits, dif_pos (by simpa using h)]; simp
  | succ k ih =>
    intro u h
    rw [Lib.decDigits]
    split
    · simp
    · rw [List.length_append]
      have := ih (u / 10) (by rw [Nat.pow_succ] at h; omega)
      simp; omega
theorem itoa_le (n : Int) (h0 : -9223372036854775808 ≤ n) (h1 : n ≤ 9223372036854775807) : (Lib.itoa n).length ≤ 21 := by
  unfold Lib.itoa
  split
  · have := decDigits_le 19 n.natAbs (by simp; omega)
    simp; omega
  · have := decDigits_le 19 n.toNat (by simp; omega)
    omega
theorem itoa_calls (base : Nat) (n : Int) (h0 : -9223372036854775808 ≤ n) (h1 : n ≤ 9223372036854775807) (w : World) (hT : PowT base w) :
    Calls Tryz.prog 46 #[.int .i64 n] w fun e w' => e = .returned (.string ⟨(Lib.itoa n).toArray⟩) ∧ Below w.heap.size w w' :=
  (Tryz.strconv_Itoa n h0 h1 w hT.2).mono fun e w' ⟨h1, h2⟩ => ⟨h1, below_grow h2⟩
theorem fmtB (b : Bool) : Lib.formatBool b = if b then [116, 114, 117, 101] else [102, 97, 108, 115, 101] := by cases b <;> decide
theorem bare_kd {v : Jv} (h : v.bare = true) : v.kd = 0 ∨ v.kd = 1 ∨ v.kd = 2 ∨ v.kd = 3 ∨ v.kd = 4 ∨ v.kd = 5 := by
  unfold Jv.bare at h
  simp only [Bool.and_eq_true, decide_eq_true_eq] at h
  omega
theorem wrV_bad {v : Jv} (h : v.bare = false) (deep : Nat) (b : List UInt8) : wrV v deep b = .error 1 := by unfold wrV wrB; rw [if_pos h]
theorem wrV_0 {v : Jv} (h : v.bare = true) (hk : v.kd = 0) (deep : Nat) (b : List UInt8) : wrV v deep b = lng (b ++ [110, 117, 108, 108]) := by
  unfold wrV wrB; rw [hk, h]; simp
theorem wrV_1 {v : Jv} (h : v.bare = true) (hk : v.kd = 1) (deep : Nat) (b : List UInt8) : wrV v deep b = lng (b ++ (if v.is then [116, 114, 117, 101] else [102, 97, 108, 115, 101])) := by
  unfold wrV wrB; rw [hk, h]; simp
theorem wrV_2 {v : Jv} (h : v.bare = true) (hk : v.kd = 2) (deep : Nat) (b : List UInt8) : wrV v deep b = lng (b ++ Lib.itoa v.n) := by
  unfold wrV wrB; rw [hk, h]; simp
theorem wrV_3 {v : Jv} (h : v.bare = true) (hk : v.kd = 3) (deep : Nat) (b : List UInt8) : wrV v deep b = txt b v.s := by
  unfold wrV wrB; rw [hk, h]; simp
theorem wrV_4 {v : Jv} (h : v.bare = true) (hk : v.kd = 4) (deep : Nat) (b : List UInt8) : wrV v deep b = wrL v.l deep b := by
  unfold wrV wrB wrL; rw [hk, h]
  by_cases hd : 32 ≤ deep
  · simp [hd, then_bad]
  · simp [hd]
theorem wrV_5 {v : Jv} (h : v.bare = true) (hk : v.kd = 5) (deep : Nat) (b : List UInt8) : wrV v deep b = wrM v.m deep b := by
  unfold wrV wrB wrM; rw [hk, h]
  by_cases hd : 32 ≤ deep
  · simp [hd, then_bad]
  · simp [hd]
theorem below_drewN {B : Nat} {a w : World} (h : Below B a w) (n : Nat) : Below B a (w.drewN n) := ⟨h.os, h.tape, h.output, h.size, h.block⟩
def CanPost (v : Jv) (w : World) (e : Ending) (w' : World) : Prop := e = .returned (.tuple #[.string ⟨(canF v).1.toArray⟩, .int .i64 (canF v).2]) ∧ Below w.heap.size w w'
end Go.Proofs.YtajkgcmopmpihaaGreatDoor
namespace Go.Proofs.YtajkgcmopmpihaaGreatDoor
open Go.ChangeShapes Go.WideShapes Go.ChangeAt Go.RowKit Go.IntWalk
set_option linter.unusedVariables false
structure Nx (w w' : World) (g : Nat) (v v' : Value) : Prop where
  os : w'.os = w.os
  tape : w'.tape = w.tape
  output : w'.output = w.output
  size : w.heap.size ≤ w'.heap.size
  block : ∀ k, k < w.heap.size → k ≠ g → v.ownBlock ≠ some k → w'.heap[k]? = w.heap[k]?
  own : v'.ownBlock = v.ownBlock ∨ v'.ownBlock = none ∨ ∃ k, v'.ownBlock = some k ∧ w.heap.size ≤ k
section
variable {w w1 w2 : World} {g base : Nat} {v v1 v2 : Value}
theorem Nx.refl (w : World) (g : Nat) (v : Value) : Nx w w g v v := ⟨rfl, rfl, rfl, Nat.le_refl _, fun _ _ _ _ => rfl, .inl rfl⟩
theorem Nx.trans (h : Nx w w1 g v v1) (h2 : Nx w1 w2 g v1 v2) : Nx w w2 g v v2 := by
  refine ⟨h2.os.trans h.os, h2.tape.trans h.tape, h2.output.trans h.output, Nat.le_trans h.size h2.size, fun k hk hg ho => ?_, ?_⟩
  · refine (h2.block k (Nat.lt_of_lt_of_le hk h.size) hg ?_).trans (h.block k hk hg ho)
    rcases h.own with e | e | ⟨j, e, hj⟩
    · rw [e]; exact ho
    · rw [e]; simp
    · rw [e]; simp; omega
  · rcases h2.own with e | e | ⟨j, e, hj⟩
    · rw [e]; exact h.own
    · exact .inr (.inl e)
    · exact .inr (.inr ⟨j, e, Nat.le_trans h.size hj⟩)
theorem Nx.of_gb (h : w.grownBy w1 (some g)) : Nx w w1 g v v := ⟨h.os, h.tape, h.output, h.size, fun k hk hg _ => h.block k hk (by simpa using hg), .inl rfl⟩
theorem Nx.of_below (h : Below w.heap.size w w1) : Nx w w1 g v v := ⟨h.os, h.tape, h.output, h.size, fun k hk _ _ => h.block k hk, .inl rfl⟩
theorem Nx.blk (h : Nx w w1 g v v1) {m : Nat} {T : TypeId} {cs : List Value} (hb : Blk w m T cs) (hg : m ≠ g) (ho : v.ownBlock ≠ some m) : Blk w1 m T cs := (h.block m hb.lt hg ho).trans hb
theorem Nx.below {a : World} {B : Nat} (h : Nx w w1 g v v1) (hb : Below B a w) (hB : B ≤ g) (hw : B ≤ w.heap.size) (ho : ∀ k, v.ownBlock = some k → B ≤ k) : Below B a w1 :=
  ⟨h.os.trans hb.os, h.tape.trans hb.tape, h.output.trans hb.output, Nat.le_trans hb.size h.size, fun k hk => (h.block k (by omega) (by omega) (fun e => by have := ho k e; omega)).trans (hb.block k hk)⟩
theorem Nx.own_turn {w w1 : World} {g : Nat} {v v' : Value} (h : w.grownBy w1 v.ownBlock) (e : v'.ownBlock = v.ownBlock ∨ v'.ownBlock = none ∨ ∃ k, v'.ownBlock = some k ∧ w.heap.size ≤ k) : Nx w w1 g v v' :=
  ⟨h.os, h.tape, h.output, h.size, fun k hk _ ho => h.block k hk (fun e => ho e.symm), e⟩
theorem OwnF.gb {bs : List UInt8} (h : OwnF base w v bs) (hg : w.grownBy w1 (some g)) (hne : v.ownBlock ≠ some g) : OwnF base w1 v bs :=
  h.stay fun k hk => hg.block k (h.lt k hk).2 (by rw [← hk]; exact hne)
end
end Go.Proofs.YtajkgcmopmpihaaGreatDoor
namespace Go.Proofs.YtajkgcmopmpihaaGreatDoor
open Go.ChangeShapes Go.WideShapes Go.ChangeAt Go.RowKit Go.IntWalk
set_option linter.unusedVariables false
def flt (x : Int) : List PanicEntry := [{ v := .iface 46 (.agg #[.int .i64 x]), recovered := false }]
theorem giveUp_calls (x : Int) (w : World) : Calls Tryz.prog 24 #[.int .i64 x] w fun e w' => e = .panicked (flt x) ∧ w = w' := by
  go_enter Tryz.func24, Tryz.ntmps24
  go_wp2
  exact ⟨rfl, rfl, rfl⟩
def WSt (base : Nat) (w : World) (g : Nat) (v : Value) (bs : List UInt8) : Prop := OwnF base w v bs ∧ Blk w g 60 [v] ∧ v.ownBlock ≠ some g ∧ bs.length ≤ 65536
def WEnd (base g : Nat) (w : World) (v : Value) (r : Res) (e : Ending) (w' : World) : Prop :=
  match r with
  | .ok b => e = .returned (.tuple #[]) ∧ ∃ v', WSt base w' g v' b ∧ Nx w w' g v v'
  | .error x => e = .panicked (flt x) ∧ ∃ v', Nx w w' g v v'
section
variable {base g : Nat} {w w1 w2 : World} {v v1 : Value} {bs : List UInt8}
theorem WSt.lt (h : WSt base w g v bs) : g < w.heap.size := h.2.1.lt
theorem WSt.below (h : WSt base w g v bs) (b : Below w.heap.size w w1) : WSt base w1 g v bs := ⟨h.1.below b, h.2.1.later b, h.2.2⟩
theorem WSt.own (h : WSt base w g v bs) (k : Nat) (hk : v.ownBlock = some k) : base ≤ k ∧ k < w.heap.size := h.1.lt k hk
theorem WEnd.ok {r : Res} {b : List UInt8} (hr : r = .ok b) {v' : Value} (h1 : WSt base w1 g v' b) (h2 : Nx w w1 g v v') : WEnd base g w v r (.returned (.tuple #[])) w1 := by
  rw [hr]; exact ⟨rfl, v', h1, h2⟩
theorem WEnd.bad {r : Res} {x : Int} (hr : r = .error x) {v' : Value} (h2 : Nx w w1 g v v') : WEnd base g w v r (.panicked (flt x)) w1 := by
  rw [hr]; exact ⟨rfl, v', h2⟩
theorem WEnd.of_ok {r : Res} {b : List UInt8} (hr : r = .ok b) {e : Ending} (h : WEnd base g w v r e w1) : e = .returned (.tuple #[]) ∧ ∃ v', WSt base w1 g v' b ∧ Nx w w1 g v v' := by
  rw [hr] at h; exact h
theorem WEnd.of_bad {r : Res} {x : Int} (hr : r = .error x) {e : Ending} (h : WEnd base g w v r e w1) : e = .panicked (flt x) ∧ ∃ v', Nx w w1 g v v' := by
  rw [hr] at h; exact h
end
set_option maxHeartbeats 2000000 in
theorem put_w (base g : Nat) (v : Value) (b l : List UInt8) (w : World) (h : WSt base w g v b) (hB : base ≤ w.heap.size) (hl : l.length ≤ 70368744000000) :
    Calls Tryz.prog 44 #[.pointer (some ⟨g, 0, none⟩), .string ⟨l.toArray⟩] w (WEnd base g w v (lng (b ++ l))) := by
  have c0 : w.cell? ⟨g, 0, none⟩ = some v := h.2.1.cell rfl
  have f0 : w.frozen? ⟨g, 0, none⟩ = false := h.2.1.frozen _
  have HP := Lib.hid h
  have hbl := h.2.2.2
  clear h
  have hlt := HP.out.lt
  by_cases h6 : (b ++ l).length ≤ 65536
  all_goals
    have HR := Lib.hid h6
    go_enter Tryz.func44, Tryz.ntmps44
    go_wp2_with (at_builtin; refine wpList_append_text rfl _ _ rfl base v b rfl HP.out.1 l rfl (by omega) hB ?_; intro v1 w1 own1 gb1 ch1; obtain ⟨A1, n1, cap1, rfl, _, hn1, hc1⟩ := own1.form; have b1 := HP.out.2.1.of_gb gb1 HP.out.2.2.1; have c1 := b1.cell (k := 0) rfl; have f1 := b1.frozen 0; have hd1 := (by first | exact lng_test hn1 HR.out | exact lng_test' hn1 HR.out : decide ((65536 : Int) < (n1 : Int)) = _); clear c0 f0 h6)
  · go_end0
    refine WEnd.ok (lng_ok HR.out) (v' := .slice A1 n1 cap1) ⟨own1.gb (gb_setCell w1 g _ _) (ne_of_turn HP.out.2.2.1 hlt ch1), b1.set_ 0 _, ne_of_turn HP.out.2.2.1 hlt ch1, HR.out⟩ (Nx.trans (Nx.own_turn gb1 ch1) (Nx.of_gb (gb_setCell w1 g _ _)))
  · refine (giveUp_calls _ _).mono ?_
    rintro e w2 ⟨rfl, rfl⟩
    go_wp2_with fail
    exact ⟨rfl, WEnd.bad (lng_bad HR.out) (Nx.trans (Nx.own_turn gb1 ch1) (Nx.of_gb (gb_setCell w1 g _ _)))⟩
set_option maxHeartbeats 2000000 in
theorem open_w (base g : Nat) (v : Value) (b l : List UInt8) (deep : Nat) (w : World) (h : WSt base w g v b) (hB : base ≤ w.heap.size) (hl : l.length ≤ 70368744000000) :
    Calls Tryz.prog 76 #[.pointer (some ⟨g, 0, none⟩), .string ⟨l.toArray⟩, .int .i64 (deep : Int)] w (WEnd base g w v (if 32 ≤ deep then .error 5 else lng (b ++ l))) := by
  by_cases hd : 32 ≤ deep
  · have HR := Lib.hid (show (if 32 ≤ deep then (.error 5 : Res) else lng (b ++ l)) = .error 5 by rw [if_pos hd])
    have hd1 : (32 : Int) ≤ (deep : Int) := by omega
    clear hd
    go_enter Tryz.func76, Tryz.ntmps76
    go_wp2_with fail
    refine (giveUp_calls _ _).mono ?_
    rintro e w2 ⟨rfl, rfl⟩
    go_wp2_with fail
    exact ⟨rfl, WEnd.bad rfl (Nx.refl _ _ v)⟩
  · have HR : (if 32 ≤ deep then (.error 5 : Res) else lng (b ++ l)) = lng (b ++ l) := by rw [if_neg hd]
    rw [HR]
    clear HR
    have hd1 : ¬ (32 : Int) ≤ (deep : Int) := by omega
    have HP := Lib.hid h
    have HC := put_w base g v b l w h hB hl
    have HN := Lib.hid hd
    clear h hd
    cases hr : lng (b ++ l) with
    | ok b1 =>
      have HR := Lib.hid hr
      rw [hr] at HC
      clear hr
      go_enter Tryz.func76, Tryz.ntmps76
      go_wp2_with fail
      refine HC.mono ?_
      rintro e w2 ⟨rfl, v2, h2, n2⟩
      go_wp2_with fail
      go_end0
      exact WEnd.ok rfl h2 n2
    | error x =>
      have HR := Lib.hid hr
      rw [hr] at HC
      clear hr
      go_enter Tryz.func76, Tryz.ntmps76
      go_wp2_with fail
      refine HC.mono ?_
      rintro e w2 ⟨rfl, v2, n2⟩
      go_wp2_with fail
      exact ⟨rfl, WEnd.bad rfl n2⟩
end Go.Proofs.YtajkgcmopmpihaaGreatDoor
