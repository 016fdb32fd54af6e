/- Texts put together: PwA JvM JvL JvE JgB. -/
import Derived.Test.YtpleminoiodmgaaDoorZ8ae9ffe720
import Derived.Test.YtpleminoiodmgaaDoorZc083eb38fd
import Derived.Deep.Slices
import Derived.Deep.Strs
import Derived.Lib.SmallJoins
import Derived.Test.YtpleminoiodmgaaDoorShelf
import Derived.Test.YtpleminoiodmgaaDoorZba90169528
import Derived.Deep.Cut
namespace Go.Proofs.YtpleminoiodmgaaDoor
open Go.Lib
set_option linter.unusedVariables false

/-- A row's keys. -/
def JT.keys : JT → List (List UInt8)
  | .nil => []
  | .cons k _ _ _ _ _ _ r => k :: r.keys
def keyP (k : List UInt8) : Pr := (k, [])
def slts (t : JT) : List Slt := t.keys.map fun k => ⟨k, [], []⟩
theorem slts_len : ∀ t : JT, (slts t).length = t.ext
  | .nil => rfl
  | .cons k _ _ _ _ _ _ r => by have := slts_len r; simp [slts, JT.keys, JT.ext] at this ⊢; exact this
theorem slts_at : ∀ (t : JT) (i : Nat) (h : i < (slts t).length), ((slts t)[i]).pr = keyP (t.fall i).key
  | .nil, i, h => absurd h (by simp [slts, JT.keys])
  | .cons k _ _ _ _ _ _ r, 0, h => rfl
  | .cons k _ _ _ _ _ _ r, i + 1, h => by
    have := slts_at r i (by simpa [slts, JT.keys] using h)
    show _ = keyP (r.fall i).key
    simpa [slts, JT.keys] using this
theorem cmpP_key (a b : List UInt8) : cmpP (keyP a) (keyP b) = compareBytes a b := by
  unfold cmpP keyP
  dsimp only
  split
  · rename_i h; rw [h]; rfl
  · rfl
/-- Do the keys rise, in all maps? -/
def risF (mem : Bool) : Option (List UInt8) → JT → Bool
  | _, .nil => true
  | prev, .cons k _ _ _ _ l m r => (match prev with | none => true | some p => !mem || Op.bytesLess p k) && risF true none m && risF false none l && risF mem (some k) r
def risV (v : Jv) : Bool := risF true none v.m && risF false none v.l
theorem rise_of (p : Option (List UInt8)) : ∀ t : JT, risF true p t = true → Rise (slts t) ∧ ∀ q, p = some q → ∀ s ∈ slts t, cmpP (keyP q) s.pr = -1
  | .nil, _ => ⟨List.Pairwise.nil, fun _ _ s hs => by simp [slts, JT.keys] at hs⟩
  | .cons k kd is n s l m r, h => by
    simp only [risF, Bool.and_eq_true, Bool.not_true, Bool.false_or] at h
    obtain ⟨⟨⟨h1, _⟩, _⟩, h4⟩ := h
    obtain ⟨h5, h6⟩ := rise_of (some k) r h4
    have hk : ∀ s ∈ slts r, cmpP (keyP k) s.pr = -1 := h6 k rfl
    refine ⟨List.pairwise_cons.2 ⟨fun b hb => hk b hb, h5⟩, fun q hq s hs => ?_⟩
    subst hq
    have hqk : cmpP (keyP q) (keyP k) = -1 := by
      rw [cmpP_key]
      dsimp only at h1
      rw [bl_cb] at h1
      simpa using h1
    rcases List.mem_cons.1 (show s ∈ (⟨k, [], []⟩ : Slt) :: slts r from hs) with rfl | hs
    · exact hqk
    · exact cmpP_trans hqk (hk s hs)
theorem rise_top {v : Jv} (h : risV v = true) : Rise (slts v.m) := by
  unfold risV at h
  simp only [Bool.and_eq_true] at h
  exact (rise_of none v.m h.1).1
theorem ris_fall (mem : Bool) : ∀ (t : JT) (p : Option (List UInt8)) (i : Nat), risF mem p t = true → i < t.ext → risV (t.fall i).val = true
  | .nil, _, i, _, hi => absurd hi (by simp [JT.ext])
  | .cons k kd is n s l m r, p, 0, h, _ => by
    simp only [risF, Bool.and_eq_true] at h
    simp [risV, JT.fall, JT.val, h]
  | .cons k kd is n s l m r, p, i + 1, h, hi => by
    simp only [risF, Bool.and_eq_true] at h
    exact ris_fall mem r (some k) i h.2 (by simp [JT.ext] at hi; omega)
/-- The value of a key. -/
def JT.findV : JT → List UInt8 → Option Jv
  | .nil, _ => none
  | .cons k kd is n s l m r, key => if k = key then some ⟨kd, is, n, s, l, m⟩ else r.findV key
theorem findV_pos : ∀ {t : JT} (_ : Rise (slts t)) (key : List UInt8), t.findV key = if foundF (slts t) (keyP key) then some (t.fall (posF (slts t) (keyP key))).val else none
  | .nil, _, key => rfl
  | .cons k kd is n s l m r, hr, key => by
    have hr2 : Rise (slts r) := List.Pairwise.of_cons hr
    have hall := (List.pairwise_cons.1 (show List.Pairwise (fun a b => cmpP a.pr b.pr = -1) ((⟨k, [], []⟩ : Slt) :: slts r) from hr)).1
    have ih := findV_pos hr2 key
    have es : slts (.cons k kd is n s l m r) = (⟨k, [], []⟩ : Slt) :: slts r := rfl
    rw [es]
    have hpr : (⟨k, [], []⟩ : Slt).pr = keyP k := rfl
    by_cases hs : cmpP (keyP k) (keyP key) = -1
    · have e : posF ((⟨k, [], []⟩ : Slt) :: slts r) (keyP key) = posF (slts r) (keyP key) + 1 := by unfold posF; rw [List.takeWhile_cons_of_pos (by simp [hpr, hs])]; simp
      have f : foundF ((⟨k, [], []⟩ : Slt) :: slts r) (keyP key) = foundF (slts r) (keyP key) := by unfold foundF; rw [e]; simp
      have hne : ¬ k = key := by intro h; rw [h, cmpP_self] at hs; exact absurd hs (by decide)
      rw [f, e]
      simp only [JT.findV, if_neg hne, JT.fall]
      exact ih
    · have e : posF ((⟨k, [], []⟩ : Slt) :: slts r) (keyP key) = 0 := by unfold posF; rw [List.takeWhile_cons_of_neg (by simp [hpr, hs])]; rfl
      rcases cmpP_three (keyP k) (keyP key) with h | h | h
      · exact absurd h hs
      · have hf : foundF ((⟨k, [], []⟩ : Slt) :: slts r) (keyP key) = true := by unfold foundF; rw [e]; simp [hpr, h]
        have heq : k = key := by have := cmpP_eq h; injection this
        rw [hf, e, if_pos rfl]
        simp [JT.findV, heq, JT.fall, JT.val]
      · have hf : foundF ((⟨k, [], []⟩ : Slt) :: slts r) (keyP key) = false := by unfold foundF; rw [e]; simp [hpr, h]
        have hne : ¬ k = key := by intro e2; rw [e2, cmpP_self] at h; exact absurd h (by decide)
        rw [hf]
        simp only [JT.findV, if_neg hne]
        rw [ih]
        have hr0 : foundF (slts r) (keyP key) = false := by
          unfold foundF
          cases hg : (slts r)[posF (slts r) (keyP key)]? with
          | none => rfl
          | some x =>
            have hx := List.mem_of_getElem? hg
            have h1 := hall x hx
            have h2 : cmpP (keyP key) (keyP k) = -1 := by rw [cmpP_anti (keyP k) (keyP key), h]
            have h3 := cmpP_trans h2 h1
            have h4 : cmpP x.pr (keyP key) = 1 := by rw [cmpP_anti (keyP key) x.pr, h3]; decide
            simp [h4]
        rw [hr0]; simp
def nullV : Jv := ⟨0, false, 0, [], .nil, .nil⟩
/-- The value of a key; null: it is no map, or hasn't it. -/
def memF (v : Jv) (key : List UInt8) : Jv := if v.kd = 5 then (v.m.findV key).getD nullV else nullV
/-- A member that is a number. -/
def toldF (v : Jv) (key : List UInt8) : Option Int := if (memF v key).kd = 2 then some (memF v key).n else none
/-- A level that stands alone, if it isn't told. -/
def startF (name : List UInt8) : Int := if name = [98, 97, 110] ∨ name = [107, 105, 99, 107] ∨ name = [114, 101, 100, 97, 99, 116] ∨ name = [115, 116, 97, 116, 101, 95, 100, 101, 102, 97, 117, 108, 116] then 50 else 0
def levelF (v : Jv) (name : List UInt8) : Int := (toldF v name).getD (startF name)
def usersK : List UInt8 := [117, 115, 101, 114, 115]
def userF (v : Jv) (creator user : List UInt8) : Int :=
  if v.kd = 5 then (toldF (memF v usersK) user).getD (levelF v [117, 115, 101, 114, 115, 95, 100, 101, 102, 97, 117, 108, 116]) else if user = creator then 100 else 0
def sendF (v : Jv) (kind : List UInt8) (state : Bool) : Int :=
  match toldF (memF v [101, 118, 101, 110, 116, 115]) kind with
  | some n => n
  | none => if state then (if v.kd = 5 then levelF v [115, 116, 97, 116, 101, 95, 100, 101, 102, 97, 117, 108, 116] else 0) else levelF v [101, 118, 101, 110, 116, 115, 95, 100, 101, 102, 97, 117, 108, 116]
end Go.Proofs.YtpleminoiodmgaaDoor
namespace Go.Proofs.YtpleminoiodmgaaDoor
open Go.ChangeShapes Go.WideShapes Go.ChangeAt Go.RowKit
set_option linter.unusedVariables false

def kwM (mem : Bool) : Nat := if mem then 1 else 0
def stM (mem : Bool) : Nat := kwM mem + 6
/-- What fits its type. -/
def Fit (kd n : Int) (s : List UInt8) : Prop := (-9223372036854775808 ≤ kd ∧ kd ≤ 9223372036854775807) ∧ (-9223372036854775808 ≤ n ∧ n ≤ 9223372036854775807) ∧ s.length ≤ 140737488355328
def Room (n c ext : Nat) : Prop := n = ext ∧ n ≤ c ∧ n ≤ 140737488355328
/-- From the place b, o on lies a row; its parts lie in blocks of P. -/
def JIn (P : Nat → Prop) (w : World) : Bool → Nat → Nat → JT → Prop
  | _, _, _, .nil => True
  | mem, b, o, .cons k kd is n s l m r =>
    (if mem then w.cell? ⟨b, o, none⟩ = some (strV k) ∧ k.length ≤ 140737488355328 else k = []) ∧
    (∃ A nl cl B nm cm, w.rangeAt b (o + kwM mem) [.int .i64 kd, .bool is, .int .i64 n, strV s, .slice A nl cl, .slice B nm cm] ∧ Room nl cl l.ext ∧ Room nm cm m.ext ∧
      (l = .nil ∨ ∃ b' o', A = some ⟨b', o', none⟩ ∧ P b' ∧ JIn P w false b' o' l) ∧ (m = .nil ∨ ∃ b' o', B = some ⟨b', o', none⟩ ∧ P b' ∧ JIn P w true b' o' m)) ∧
    Fit kd n s ∧ JIn P w mem b (o + stM mem) r
/-- The slice at A reads a row. -/
def JSl (P : Nat → Prop) (w : World) (mem : Bool) (A : Option Addr) (t : JT) : Prop := t = .nil ∨ ∃ b o, A = some ⟨b, o, none⟩ ∧ P b ∧ JIn P w mem b o t
/-- A value's cells. -/
def JCs (P : Nat → Prop) (w : World) (cs : List Value) (v : Jv) : Prop :=
  ∃ A nl cl B nm cm, cs = [.int .i64 v.kd, .bool v.is, .int .i64 v.n, strV v.s, .slice A nl cl, .slice B nm cm] ∧ Room nl cl v.l.ext ∧ Room nm cm v.m.ext ∧ JSl P w false A v.l ∧ JSl P w true B v.m ∧ Fit v.kd v.n v.s
section
variable {P Q : Nat → Prop} {w w' : World} {mem : Bool}
theorem JIn.stay (hP : ∀ b o, P b → w'.cell? ⟨b, o, none⟩ = w.cell? ⟨b, o, none⟩) (hPQ : ∀ b, P b → Q b) : ∀ (t : JT) (mem : Bool) (b o : Nat), P b → JIn P w mem b o t → JIn Q w' mem b o t
  | .nil, _, _, _, _, _ => trivial
  | .cons k kd is n s l m r, mem, b, o, hb, h => by
    obtain ⟨h1, ⟨A, nl, cl, B, nm, cm, h2, h3, h4, h5, h6⟩, h7, h8⟩ := h
    refine ⟨?_, ⟨A, nl, cl, B, nm, cm, ?_, h3, h4, ?_, ?_⟩, h7, JIn.stay hP hPQ r mem b _ hb h8⟩
    · cases mem with
      | true => exact ⟨(hP _ _ hb).trans h1.1, h1.2⟩
      | false => exact h1
    · intro j v hj
      rw [hP _ _ hb]
      exact h2 j v hj
    · rcases h5 with h5 | ⟨b', o', e, hb', h5⟩
      · exact .inl h5
      · exact .inr ⟨b', o', e, hPQ _ hb', JIn.stay hP hPQ l false b' o' hb' h5⟩
    · rcases h6 with h6 | ⟨b', o', e, hb', h6⟩
      · exact .inl h6
      · exact .inr ⟨b', o', e, hPQ _ hb', JIn.stay hP hPQ m true b' o' hb' h6⟩
theorem JSl.stay {A : Option Addr} {t : JT} (h : JSl P w mem A t) (hP : ∀ b o, P b → w'.cell? ⟨b, o, none⟩ = w.cell? ⟨b, o, none⟩) (hPQ : ∀ b, P b → Q b) : JSl Q w' mem A t := by
  rcases h with h | ⟨b, o, e, hb, h⟩
  · exact .inl h
  · exact .inr ⟨b, o, e, hPQ _ hb, JIn.stay hP hPQ t mem b o hb h⟩
theorem JCs.stay {cs : List Value} {v : Jv} (h : JCs P w cs v) (hP : ∀ b o, P b → w'.cell? ⟨b, o, none⟩ = w.cell? ⟨b, o, none⟩) (hPQ : ∀ b, P b → Q b) : JCs Q w' cs v := by
  obtain ⟨A, nl, cl, B, nm, cm, e, h1, h2, h3, h4, h5⟩ := h
  exact ⟨A, nl, cl, B, nm, cm, e, h1, h2, h3.stay hP hPQ, h4.stay hP hPQ, h5⟩
/-- The i-th of a row. -/
theorem JIn.at_ : ∀ (t : JT) (mem : Bool) (b o i : Nat), JIn P w mem b o t → i < t.ext →
    (if mem then w.cell? ⟨b, o + i * stM mem, none⟩ = some (strV (t.fall i).key) ∧ (t.fall i).key.length ≤ 140737488355328 else (t.fall i).key = []) ∧
    ∃ cs, w.rangeAt b (o + i * stM mem + kwM mem) cs ∧ JCs P w cs (t.fall i).val
  | .nil, _, _, _, i, _, hi => absurd hi (by simp [JT.ext])
  | .cons k kd is n s l m r, mem, b, o, 0, h, _ => by
    obtain ⟨h1, ⟨A, nl, cl, B, nm, cm, h2, h3, h4, h5, h6⟩, h7, h8⟩ := h
    rw [JT.fall_zero, Nat.zero_mul, Nat.add_zero]
    exact ⟨h1, _, h2, A, nl, cl, B, nm, cm, rfl, h3, h4, h5, h6, h7⟩
  | .cons k kd is n s l m r, mem, b, o, i + 1, h, hi => by
    have := JIn.at_ r mem b (o + stM mem) i h.2.2.2 (by simp [JT.ext] at hi; omega)
    rw [show o + stM mem + i * stM mem = o + (i + 1) * stM mem by rw [Nat.succ_mul]; omega] at this
    exact this
theorem JSl.at_ {A : Option Addr} {t : JT} (h : JSl P w mem A t) {i : Nat} (hi : i < t.ext) : ∃ b o, A = some ⟨b, o, none⟩ ∧ P b ∧ b < w.heap.size ∧
    (if mem then w.cell? ⟨b, o + i * stM mem, none⟩ = some (strV (t.fall i).key) ∧ (t.fall i).key.length ≤ 140737488355328 else (t.fall i).key = []) ∧
    ∃ cs, w.rangeAt b (o + i * stM mem + kwM mem) cs ∧ JCs P w cs (t.fall i).val := by
  rcases h with h | ⟨b, o, e, hb, h⟩
  · rw [h] at hi; exact absurd hi (by simp [JT.ext])
  · obtain ⟨h1, cs, h2, h3⟩ := JIn.at_ t mem b o i h hi
    refine ⟨b, o, e, hb, ?_, h1, cs, h2, h3⟩
    obtain ⟨A, nl, cl, B, nm, cm, rfl, _⟩ := h3
    exact World.block_lt_of_cell? w _ (h2 0 _ rfl)
end
/-- A value out of the caller's memory. -/
def JVal (w : World) (V : Value) (v : Jv) : Prop := ∃ cs : List Value, V = .agg cs.toArray ∧ JCs (· < w.heap.size) w cs v
theorem JCs.below {w w' : World} {cs : List Value} {v : Jv} (h : JCs (· < w.heap.size) w cs v) (hb : Below w.heap.size w w') : JCs (· < w'.heap.size) w' cs v :=
  h.stay (fun b o hlt => hb.cell (p := ⟨b, o, none⟩) hlt) (fun b hlt => Nat.lt_of_lt_of_le hlt hb.size)
theorem JVal.below {w w' : World} {V : Value} {v : Jv} (h : JVal w V v) (hb : Below w.heap.size w w') : JVal w' V v :=
  let ⟨cs, e, h1⟩ := h; ⟨cs, e, h1.below hb⟩
end Go.Proofs.YtpleminoiodmgaaDoor
namespace Go.Proofs.YtpleminoiodmgaaDoor
open Go.ChangeShapes Go.WideShapes Go.ChangeAt Go.RowKit
set_option linter.unusedVariables false
set_option maxRecDepth 100000

/-- A value by value, with what it leads to. -/
def VOk (w : World) (v : Jv) (A B : Option Addr) (nl cl nm cm : Nat) : Prop :=
  Room nl cl v.l.ext ∧ Room nm cm v.m.ext ∧ JSl (· < w.heap.size) w false A v.l ∧ JSl (· < w.heap.size) w true B v.m ∧ Fit v.kd v.n v.s
def vCs (v : Jv) (A B : Option Addr) (nl cl nm cm : Nat) : List Value := [.int .i64 v.kd, .bool v.is, .int .i64 v.n, strV v.s, .slice A nl cl, .slice B nm cm]
theorem VOk.below {w w' : World} {v : Jv} {A B : Option Addr} {nl cl nm cm : Nat} (h : VOk w v A B nl cl nm cm) (b : Below w.heap.size w w') : VOk w' v A B nl cl nm cm :=
  ⟨h.1, h.2.1, h.2.2.1.stay (fun b' o hb => b.cell (p := ⟨b', o, none⟩) hb) (fun x hx => Nat.lt_of_lt_of_le hx b.size), h.2.2.2.1.stay (fun b' o hb => b.cell (p := ⟨b', o, none⟩) hb) (fun x hx => Nat.lt_of_lt_of_le hx b.size), h.2.2.2.2⟩
/-- Rows put together from their elements. -/
theorem JIn.make {P : Nat → Prop} {w : World} {mem : Bool} {b : Nat} : ∀ (n o : Nat), (∀ i, i < n → ∃ (k : List UInt8) (v : Jv) (cs : List Value), (if mem then w.cell? ⟨b, o + i * stM mem, none⟩ = some (strV k) ∧ k.length ≤ 140737488355328 else k = []) ∧ w.rangeAt b (o + i * stM mem + kwM mem) cs ∧ JCs P w cs v) →
    ∃ t : JT, t.ext = n ∧ JIn P w mem b o t
  | 0, o, _ => ⟨.nil, rfl, trivial⟩
  | n + 1, o, h => by
    obtain ⟨t, h1, h2⟩ := JIn.make (P := P) (w := w) (mem := mem) (b := b) n (o + stM mem) (fun i hi => by
      have := h (i + 1) (by omega)
      rwa [show o + (i + 1) * stM mem = o + stM mem + i * stM mem by rw [Nat.succ_mul]; omega] at this)
    obtain ⟨k, v, cs, h3, h4, A, nl, cl, B, nm, cm, rfl, h5, h6, h7, h8, h9⟩ := h 0 (by omega)
    rw [Nat.zero_mul, Nat.add_zero] at h3 h4
    exact ⟨.cons k v.kd v.is v.n v.s v.l v.m t, by simp [JT.ext, h1], h3, ⟨A, nl, cl, B, nm, cm, h4, h5, h6, h7, h8⟩, h9, h2⟩
section
variable {H : Type} {enc : TypeId × Value → H} {w : World} {base : Nat} {held : Bool}
theorem plain_at {w : World} {b off : Nat} {spot : Option _} {v : Value} (h : w.cell? ⟨b, off, spot⟩ = some v) : spot = none := World.cell?_spot h
theorem add_plain2 (b off i j : Nat) : ((⟨b, off, none⟩ : Addr).add i).add j = ⟨b, off + (i + j), none⟩ := by
  rw [← Nat.add_assoc]; unfold Addr.add; split <;> split <;> simp_all
theorem weights_in {T e : TypeId} (ht : Tryd.prog.underlying T = some (.slice e)) (f : Nat → DataW H) (n : Nat) (rest : List (DataW H)) {i : Nat} (hi : i < n) {q : Nat} (hq : q ∈ (f i).weights Tryd.prog e) :
    q ∈ (DataW.slice ((List.range n).map f) rest).weights Tryd.prog T := by
  have key : ∀ (l : List (DataW H)), f i ∈ l → q ∈ DataW.weightsAll Tryd.prog e l := by
    intro l
    induction l with
    | nil => intro h; cases h
    | cons x l ih =>
      intro h
      simp only [DataW.weightsAll, List.mem_append]
      rcases List.mem_cons.1 h with rfl | h
      · exact .inl hq
      · exact .inr (ih h)
  have := key ((List.range n).map f) (List.mem_map.2 ⟨i, List.mem_range.2 hi, rfl⟩)
  simp only [DataW.weights, ht, List.mem_cons, List.mem_append]
  exact .inr (.inl this)
/-- A slice opened, with the depth that is left. -/
theorem open_depth {t e : TypeId} {fuel : Nat} {cs : List Value} {x : DataW H × List MemPlace} (ht : Tryd.prog.underlying t = some (.slice e)) (h : DataW.trod enc Tryd.prog w base (fun _ => true) held fuel t cs = some x) :
    (cs = [.slice none 0 0] ∧ x = (.nil, [])) ∨
    ∃ (a : Addr) (len cap n : Nat) (D : Nat → DataW H) (rest : List (DataW H)), n < fuel ∧ cs = [.slice (some a) len cap] ∧ len ≤ cap ∧ cap * Tryd.prog.bytesOf e ∈ x.1.weights Tryd.prog t ∧ x.1 = .slice ((List.range len).map D) rest ∧
      ∀ i, i < len → ∃ cs' p, w.cells? base (a.add (i * Tryd.prog.cellsOf e)) (Tryd.prog.cellsOf e) = some cs' ∧ DataW.trod enc Tryd.prog w base (fun _ => true) held n e cs' = some (D i, p) := by
  rcases DataW.trod_slice ht h with h0 | ⟨a, len, cap, elems, rest, n, rfl, rfl, rfl, hb, hl, hm, hlen, hel, hsp, _⟩
  · exact .inl h0
  refine .inr ⟨a, len, cap, n, fun i => (elems.getD i (.nil, [])).1, rest.map (·.1), by omega, rfl, hl, ?_, ?_, fun i hi => ?_⟩
  · have h1 := (hsp rfl).1
    have h2 : elems.length + rest.length = cap := by omega
    rw [← h2]
    simp [DataW.weights, ht]
  · have : elems.map (·.1) = (List.range len).map fun i => (elems.getD i (.nil, [])).1 := by
      refine List.ext_getElem (by simp [hlen]) fun i h1 h2 => ?_
      simp at h1
      simp [List.getD, h1]
    simp only [this]
  · have key := hel i hi
    have hi2 : i < elems.length := by omega
    rw [List.getElem?_eq_getElem hi2] at key
    obtain ⟨cs', h1, h2⟩ := Option.bind_eq_some_iff.1 key
    refine ⟨cs', (elems.getD i (.nil, [])).2, h1, ?_⟩
    rw [h2]; simp [List.getD, hi2]
set_option maxHeartbeats 4000000 in
/-- A value's cells, read as data. -/
theorem open_jv : ∀ (fuel : Nat) (cs : List Value) (x : DataW H × List MemPlace), DataW.trod enc Tryd.prog w base (fun _ => true) held fuel 25 cs = some x → (∀ q ∈ x.1.weights Tryd.prog 25, q ≤ reachBytes) →
    ∃ v, JCs (· < w.heap.size) w cs v := by
  intro fuel
  induction fuel using Nat.strongRecOn with
  | _ fuel IH =>
    intro cs x h hwt
    obtain ⟨xs, n, rfl, rfl, hl, hlen, hf⟩ := DataW.trod_struct Tryd.underlying25 h
    have hrch : reachBytes < 2 ^ 47 := by decide
    have c6 : Tryd.prog.cellsOf 25 = 6 := by kernel_rfl
    have c7 : Tryd.prog.cellsOf 70 = 7 := by kernel_rfl
    have hci : Tryd.prog.cellsOf 3 = 1 := by kernel_rfl
    have hcb : Tryd.prog.cellsOf 4 = 1 := by kernel_rfl
    have hcs : Tryd.prog.cellsOf 9 = 1 := by kernel_rfl
    have hcl : Tryd.prog.cellsOf 22 = 1 := by kernel_rfl
    have hcm : Tryd.prog.cellsOf 23 = 1 := by kernel_rfl
    match xs, hlen with
    | [y0, y1, y2, y3, y4, y5], _ =>
      have t0 : DataW.trod enc Tryd.prog w base (fun _ => true) held n 3 ((cs.drop 0).take (Tryd.prog.cellsOf 3)) = some y0 := hf 0 _ rfl
      have t1 : DataW.trod enc Tryd.prog w base (fun _ => true) held n 4 ((cs.drop 1).take (Tryd.prog.cellsOf 4)) = some y1 := hf 1 _ rfl
      have t2 : DataW.trod enc Tryd.prog w base (fun _ => true) held n 3 ((cs.drop 2).take (Tryd.prog.cellsOf 3)) = some y2 := hf 2 _ rfl
      have t3 : DataW.trod enc Tryd.prog w base (fun _ => true) held n 9 ((cs.drop 3).take (Tryd.prog.cellsOf 9)) = some y3 := hf 3 _ rfl
      have t4 : DataW.trod enc Tryd.prog w base (fun _ => true) held n 22 ((cs.drop 4).take (Tryd.prog.cellsOf 22)) = some y4 := hf 4 _ rfl
      have t5 : DataW.trod enc Tryd.prog w base (fun _ => true) held n 23 ((cs.drop 5).take (Tryd.prog.cellsOf 23)) = some y5 := hf 5 _ rfl
      clear hf
      rw [hci] at t0
      rw [hcb] at t1
      rw [hci] at t2
      rw [hcs] at t3
      rw [hcl] at t4
      rw [hcm] at t5
      rw [c6] at hl
      match cs, hl with
      | [z0, z1, z2, z3, z4, z5], _ =>
      simp only [List.drop_zero, List.drop_succ_cons, List.take_succ_cons, List.take_zero] at t0 t1 t2 t3 t4 t5
      obtain ⟨kd, e0, q0, w0⟩ := DataW.trod_int Tryd.underlying3 t0
      obtain ⟨is, e1, q1⟩ := DataW.trod_bool Tryd.underlying4 t1
      obtain ⟨nn, e2, q2, w2⟩ := DataW.trod_int Tryd.underlying3 t2
      obtain ⟨s0, e3, q3, w3⟩ := DataW.trod_string Tryd.underlying9 t3
      obtain ⟨s, rfl, hss⟩ := str_split s0
      have hwe : ∀ (j : Nat) (T : TypeId) (y : DataW H × List MemPlace), ([(3, y0), (4, y1), (3, y2), (9, y3), (22, y4), (23, y5)] : List (TypeId × (DataW H × List MemPlace)))[j]? = some (T, y) → ∀ q ∈ y.1.weights Tryd.prog T, q ≤ reachBytes := by
        intro j T y hj q hq
        refine hwt q ?_
        simp only [DataW.weights, Tryd.underlying25, List.map_cons, List.map_nil]
        match j, hj with
        | 0, hj => injection hj with hj; injection hj with e1 e2; subst e1; subst e2; exact DataW.weights_mem_each (j := 0) rfl rfl q hq
        | 1, hj => injection hj with hj; injection hj with e1 e2; subst e1; subst e2; exact DataW.weights_mem_each (j := 1) rfl rfl q hq
        | 2, hj => injection hj with hj; injection hj with e1 e2; subst e1; subst e2; exact DataW.weights_mem_each (j := 2) rfl rfl q hq
        | 3, hj => injection hj with hj; injection hj with e1 e2; subst e1; subst e2; exact DataW.weights_mem_each (j := 3) rfl rfl q hq
        | 4, hj => injection hj with hj; injection hj with e1 e2; subst e1; subst e2; exact DataW.weights_mem_each (j := 4) rfl rfl q hq
        | 5, hj => injection hj with hj; injection hj with e1 e2; subst e1; subst e2; exact DataW.weights_mem_each (j := 5) rfl rfl q hq
        | j + 6, hj => simp at hj
      have hsl : s.length ≤ 140737488355328 := by
        have := hwe 3 _ y3 rfl s.length (by rw [q3]; simp [DataW.weights])
        omega
      injection e0 with e0 _
      injection e1 with e1 _
      injection e2 with e2 _
      injection e3 with e3 _
      subst e0 e1 e2 e3
      have hfit : Fit kd nn s := by
        refine ⟨?_, ?_, hsl⟩
        · simpa [Lit.wf, IntKind.min, IntKind.max, IntKind.signed, IntKind.bits] using w0
        · simpa [Lit.wf, IntKind.min, IntKind.max, IntKind.signed, IntKind.bits] using w2
      -- a slice's elements
      have hA : ∃ (A : Option Addr) (nl cl : Nat) (l : JT), z4 = .slice A nl cl ∧ Room nl cl l.ext ∧ JSl (· < w.heap.size) w false A l := by
        rcases open_depth Tryd.underlying22 t4 with ⟨ec, _⟩ | ⟨a, len, cap, k, D, rest, hk, ec, hle, hcap, hx, hall⟩
        · injection ec with ec _
          exact ⟨none, 0, 0, .nil, ec, ⟨rfl, Nat.le_refl _, by decide⟩, .inl rfl⟩
        · injection ec with ec _
          have hcap : cap ≤ 140737488355328 := by
            have h1 := hwe 4 _ y4 rfl _ hcap
            have h2 : 1 ≤ Tryd.prog.bytesOf 25 := by decide +kernel
            have h3 := Nat.mul_le_mul_left cap h2
            omega
          rw [c6] at hall
          by_cases h0 : len = 0
          · subst h0
            exact ⟨some a, 0, cap, .nil, ec, ⟨rfl, hle, Nat.zero_le _⟩, .inl rfl⟩
          · obtain ⟨b, off, spot⟩ := a
            have hspot : spot = none := by
              obtain ⟨cs', p, h1, h2⟩ := hall 0 (by omega)
              obtain ⟨_, hlen', hc'⟩ := World.cells?_some h1
              have h3 := hc' 0 (by decide)
              rw [List.getElem?_eq_getElem (by omega)] at h3
              simpa [Addr.add] using World.cell?_spot h3
            subst hspot
            obtain ⟨t, ht1, ht2⟩ := JIn.make (P := (· < w.heap.size)) (w := w) (mem := false) (b := b) len off (fun i hi => by
              obtain ⟨cs', p, h1, h2⟩ := hall i hi
              obtain ⟨_, hlen', hc'⟩ := World.cells?_some h1
              obtain ⟨v, hv⟩ := IH k (by omega) cs' _ h2 (fun q hq => hwe 4 _ y4 rfl q (by rw [hx]; exact weights_in Tryd.underlying22 D len rest hi hq))
              refine ⟨[], v, cs', rfl, fun j u hj => ?_, hv⟩
              have hj6 : j < 6 := by rw [← hlen']; exact (List.getElem?_eq_some_iff.1 hj).1
              have h3 := hc' j hj6
              rw [add_plain2, hj] at h3
              show w.cell? ⟨b, off + i * 6 + 0 + j, none⟩ = some u
              rw [show off + i * 6 + 0 + j = off + (i * 6 + j) by omega]
              exact h3)
            have hbl : b < w.heap.size := by
              obtain ⟨cs', p, h1, h2⟩ := hall 0 (by omega)
              obtain ⟨_, hlen', hc'⟩ := World.cells?_some h1
              have h3 := hc' 0 (by decide)
              rw [List.getElem?_eq_getElem (by omega)] at h3
              rw [add_plain2] at h3
              exact World.block_lt_of_cell? w _ h3
            exact ⟨_, len, cap, t, ec, ⟨ht1.symm, hle, Nat.le_trans hle hcap⟩, .inr ⟨b, off, rfl, hbl, ht2⟩⟩
      have hB : ∃ (B : Option Addr) (nm cm : Nat) (m : JT), z5 = .slice B nm cm ∧ Room nm cm m.ext ∧ JSl (· < w.heap.size) w true B m := by
        rcases open_depth Tryd.underlying23 t5 with ⟨ec, _⟩ | ⟨a, len, cap, k, D, rest, hk, ec, hle, hcap, hx, hall⟩
        · injection ec with ec _
          exact ⟨none, 0, 0, .nil, ec, ⟨rfl, Nat.le_refl _, by decide⟩, .inl rfl⟩
        · injection ec with ec _
          have hcap : cap ≤ 140737488355328 := by
            have h1 := hwe 5 _ y5 rfl _ hcap
            have h2 : 1 ≤ Tryd.prog.bytesOf 70 := by decide +kernel
            have h3 := Nat.mul_le_mul_left cap h2
            omega
          rw [c7] at hall
          by_cases h0 : len = 0
          · subst h0
            exact ⟨some a, 0, cap, .nil, ec, ⟨rfl, hle, Nat.zero_le _⟩, .inl rfl⟩
          · obtain ⟨b, off, spot⟩ := a
            have hspot : spot = none := by
              obtain ⟨cs', p, h1, h2⟩ := hall 0 (by omega)
              obtain ⟨_, hlen', hc'⟩ := World.cells?_some h1
              have h3 := hc' 0 (by decide)
              rw [List.getElem?_eq_getElem (by omega)] at h3
              simpa [Addr.add] using World.cell?_spot h3
            subst hspot
            obtain ⟨t, ht1, ht2⟩ := JIn.make (P := (· < w.heap.size)) (w := w) (mem := true) (b := b) len off (fun i hi => by
              obtain ⟨cs', p, h1, h2⟩ := hall i hi
              obtain ⟨_, hlen', hc'⟩ := World.cells?_some h1
              obtain ⟨ys, k2, hk2, hD, hl2, hlen2, hf2⟩ := DataW.trod_struct Tryd.underlying70 h2
              match ys, hlen2 with
              | [u0, u1], _ =>
              have s0 : DataW.trod enc Tryd.prog w base (fun _ => true) held k2 9 ((cs'.drop 0).take (Tryd.prog.cellsOf 9)) = some u0 := hf2 0 _ rfl
              have s1 : DataW.trod enc Tryd.prog w base (fun _ => true) held k2 25 ((cs'.drop 1).take (Tryd.prog.cellsOf 25)) = some u1 := hf2 1 _ rfl
              rw [hcs] at s0
              rw [c6] at s1
              injection hD with hD _
              have hDw : ∀ q ∈ u0.1.weights Tryd.prog 9 ++ u1.1.weights Tryd.prog 25, q ≤ reachBytes := fun q hq => hwe 5 _ y5 rfl q (by
                rw [hx]
                refine weights_in Tryd.underlying23 D len rest hi ?_
                rw [hD]
                simp only [DataW.weights, Tryd.underlying70, List.map_cons, List.map_nil]
                rcases List.mem_append.1 hq with hq | hq
                · exact DataW.weights_mem_each (j := 0) rfl rfl q hq
                · exact DataW.weights_mem_each (j := 1) rfl rfl q hq)
              obtain ⟨k0, e6, q6, w6⟩ := DataW.trod_string Tryd.underlying9 s0
              obtain ⟨kk, rfl, hkk⟩ := str_split k0
              obtain ⟨v, hv⟩ := IH k2 (by omega) _ _ s1 (fun q hq => hDw q (List.mem_append.2 (.inr hq)))
              have hkl : kk.length ≤ 140737488355328 := by
                have := hDw kk.length (List.mem_append.2 (.inl (by rw [q6]; simp [DataW.weights])))
                omega
              have cell : ∀ j u, cs'[j]? = some u → w.cell? ⟨b, off + i * 7 + j, none⟩ = some u := fun j u hj => by
                have hj7 : j < 7 := by rw [← hlen']; exact (List.getElem?_eq_some_iff.1 hj).1
                have h3 := hc' j hj7
                rw [add_plain2, hj] at h3
                rw [show off + i * 7 + j = off + (i * 7 + j) by omega]
                exact h3
              refine ⟨kk, v, (cs'.drop 1).take 6, ⟨?_, hkl⟩, fun j u hj => ?_, hv⟩
              · refine cell 0 _ ?_
                have h5 := congrArg (fun q => q[0]?) e6
                exact (show cs'[0]? = some (.string ⟨kk.toArray⟩) by simpa [List.getElem?_take, List.getElem?_drop] using h5)
              · have hj6 : cs'[1 + j]? = some u := by
                  rw [List.getElem?_take] at hj
                  split at hj
                  · rwa [List.getElem?_drop] at hj
                  · cases hj
                have := cell (1 + j) u hj6
                show w.cell? ⟨b, off + i * 7 + 1 + j, none⟩ = some u
                rwa [show off + i * 7 + 1 + j = off + i * 7 + (1 + j) by omega])
            have hbl : b < w.heap.size := by
              obtain ⟨cs', p, h1, h2⟩ := hall 0 (by omega)
              obtain ⟨_, hlen', hc'⟩ := World.cells?_some h1
              have h3 := hc' 0 (by decide)
              rw [List.getElem?_eq_getElem (by omega)] at h3
              rw [add_plain2] at h3
              exact World.block_lt_of_cell? w _ h3
            exact ⟨_, len, cap, t, ec, ⟨ht1.symm, hle, Nat.le_trans hle hcap⟩, .inr ⟨b, off, rfl, hbl, ht2⟩⟩
      obtain ⟨A, nl, cl, l, rfl, h1, h2⟩ := hA
      obtain ⟨B, nm, cm, m, rfl, h3, h4⟩ := hB
      exact ⟨⟨kd, is, nn, s, l, m⟩, A, nl, cl, B, nm, cm, rfl, h1, h3, h2, h4, hfit⟩
/-- A value among a law's parameters. -/
theorem open_value {W : World} {r : _} {b0 : Nat} {v : Value} {d : DataW H} {p : List MemPlace} (hv : Value.okWide Tryd.prog W r b0 25 v) (h : DataW.Trod enc Tryd.prog w base (fun _ => true) held 25 v d p) (hwt : ∀ q ∈ d.weights Tryd.prog 25, q ≤ reachBytes) :
    ∃ (a : Jv) (A B : Option Addr) (nl cl nm cm : Nat), v = .agg #[.int .i64 a.kd, .bool a.is, .int .i64 a.n, .string ⟨a.s.toArray⟩, .slice A nl cl, .slice B nm cm] ∧ VOk w a A B nl cl nm cm := by
  unfold Value.okWide at hv
  rw [Tryd.underlying25] at hv
  obtain ⟨cs, rfl, hsz, _⟩ := hv
  obtain ⟨fuel, hf⟩ := h
  obtain ⟨a, A, nl, cl, B, nm, cm, e, h1, h2, h3, h4, h5⟩ := open_jv fuel _ _ hf hwt
  refine ⟨a, A, B, nl, cl, nm, cm, ?_, h1, h2, h3, h4, h5⟩
  obtain ⟨L⟩ := cs
  simp only [Value.cells] at e
  rw [e]; rfl
end
end Go.Proofs.YtpleminoiodmgaaDoor
namespace Go.Proofs.YtpleminoiodmgaaDoor
open Go.ChangeShapes Go.WideShapes Go.ChangeAt Go.RowKit Go.IntWalk
set_option linter.unusedVariables false

section
variable {base : Nat} {w w1 w' : World} {mem : Bool} {A : Option Addr} {t : JT}
theorem JSl.blw (h : JSl (· < base) w mem A t) (b : Below base w w') : JSl (· < base) w' mem A t :=
  h.stay (fun b' o hb => b.cell (p := ⟨b', o, none⟩) hb) (fun _ h => h)
/-- The i-th value of a list, its cells told one by one. -/
theorem JSl.el (P : Nat → Prop) (h : JSl P w false A t) {i : Nat} (hi : i < t.ext) : ∃ b o A1 nl cl B1 nm cm, A = some ⟨b, o, none⟩ ∧ P b ∧ b < w.heap.size ∧
    w.cell? ⟨b, o + i * 6, none⟩ = some (.int .i64 (t.fall i).val.kd) ∧ w.cell? ⟨b, o + i * 6 + 1, none⟩ = some (.bool (t.fall i).val.is) ∧ w.cell? ⟨b, o + i * 6 + 2, none⟩ = some (.int .i64 (t.fall i).val.n) ∧
    w.cell? ⟨b, o + i * 6 + 3, none⟩ = some (.string ⟨(t.fall i).val.s.toArray⟩) ∧ w.cell? ⟨b, o + i * 6 + 4, none⟩ = some (.slice A1 nl cl) ∧ w.cell? ⟨b, o + i * 6 + 5, none⟩ = some (.slice B1 nm cm) ∧
    Room nl cl (t.fall i).val.l.ext ∧ Room nm cm (t.fall i).val.m.ext ∧ JSl P w false A1 (t.fall i).val.l ∧ JSl P w true B1 (t.fall i).val.m ∧ Fit (t.fall i).val.kd (t.fall i).val.n (t.fall i).val.s := by
  obtain ⟨b, o, e, hP, hb, _, cs, hr, A1, nl, cl, B1, nm, cm, rfl, h1, h2, h3, h4, h5⟩ := h.at_ hi
  exact ⟨b, o, A1, nl, cl, B1, nm, cm, e, hP, hb, hr 0 _ rfl, hr 1 _ rfl, hr 2 _ rfl, hr 3 _ rfl, hr 4 _ rfl, hr 5 _ rfl, h1, h2, h3, h4, h5⟩
/-- The i-th member of a map. -/
theorem JSl.mb (P : Nat → Prop) (h : JSl P w true A t) {i : Nat} (hi : i < t.ext) : ∃ b o A1 nl cl B1 nm cm, A = some ⟨b, o, none⟩ ∧ P b ∧ b < w.heap.size ∧
    w.cell? ⟨b, o + i * 7, none⟩ = some (.string ⟨(t.fall i).key.toArray⟩) ∧ (t.fall i).key.length ≤ 140737488355328 ∧
    w.cell? ⟨b, o + i * 7 + 1, none⟩ = some (.int .i64 (t.fall i).val.kd) ∧ w.cell? ⟨b, o + i * 7 + 2, none⟩ = some (.bool (t.fall i).val.is) ∧ w.cell? ⟨b, o + i * 7 + 3, none⟩ = some (.int .i64 (t.fall i).val.n) ∧
    w.cell? ⟨b, o + i * 7 + 4, none⟩ = some (.string ⟨(t.fall i).val.s.toArray⟩) ∧ w.cell? ⟨b, o + i * 7 + 5, none⟩ = some (.slice A1 nl cl) ∧ w.cell? ⟨b, o + i * 7 + 6, none⟩ = some (.slice B1 nm cm) ∧
    Room nl cl (t.fall i).val.l.ext ∧ Room nm cm (t.fall i).val.m.ext ∧ JSl P w false A1 (t.fall i).val.l ∧ JSl P w true B1 (t.fall i).val.m ∧ Fit (t.fall i).val.kd (t.fall i).val.n (t.fall i).val.s := by
  obtain ⟨b, o, e, hP, hb, hk, cs, hr, A1, nl, cl, B1, nm, cm, rfl, h1, h2, h3, h4, h5⟩ := h.at_ hi
  exact ⟨b, o, A1, nl, cl, B1, nm, cm, e, hP, hb, hk.1, hk.2, hr 0 _ rfl, hr 1 _ rfl, hr 2 _ rfl, hr 3 _ rfl, hr 4 _ rfl, hr 5 _ rfl, h1, h2, h3, h4, h5⟩
end
theorem JSl.up {w w' : World} {mem : Bool} {A : Option Addr} {t : JT} (h : JSl (· < w.heap.size) w mem A t) (b : Below w.heap.size w w') : JSl (· < w'.heap.size) w' mem A t :=
  h.stay (fun b' o hb => b.cell (p := ⟨b', o, none⟩) hb) (fun x hx => Nat.lt_of_lt_of_le hx b.size)
end Go.Proofs.YtpleminoiodmgaaDoor
namespace Go.Proofs.YtpleminoiodmgaaDoor
open Go.ChangeShapes Go.WideShapes Go.ChangeAt Go.RowKit Go.IntWalk
set_option linter.unusedVariables false

theorem size_mem : (Tryd.prog.info? 70).map (·.size) = some 7 := by kernel_rfl
theorem size_val : (Tryd.prog.info? 25).map (·.size) = some 6 := by kernel_rfl
theorem closureJ_calls (ek : List UInt8) (eu : Jv) (eA eB : Option Addr) (enl ecl enm ecm : Nat) (key : List UInt8) (W : World) :
    Calls Tryd.prog 63 #[.agg #[.string ⟨ek.toArray⟩, .int .i64 eu.kd, .bool eu.is, .int .i64 eu.n, .string ⟨eu.s.toArray⟩, .slice eA enl ecl, .slice eB enm ecm], .string ⟨key.toArray⟩] W fun e w' => e = .returned (.int .i64 (cmpP (keyP ek) (keyP key))) ∧ Below W.heap.size W w' := by
  rw [cmpP_key]
  go_enter Tryd.func63, Tryd.ntmps63
  go_wp2_with fail
  refine (Tryd.strings_Compare _ _ _).mono ?_
  rintro e w1 ⟨rfl, rfl⟩
  go_wp2_with fail
  go_ret
  exact ⟨rfl, (Below.refl _ _).alloc (Nat.le_refl _) _⟩
theorem half_uJ (a b : Nat) (ha : a ≤ 140737488355328) (hb : b ≤ 140737488355328) : IntKind.u64.wrap ((a : Int) + (b : Int)) = (a : Int) + (b : Int) := by rw [IntKind.wrap_u64]; omega
theorem half_dJ (a b h : Nat) (hh : (a + b) / 2 = h) : ((a : Int) + (b : Int)) / 2 = (h : Int) := by omega
theorem half_wJ (h : Nat) (hh : h ≤ 140737488355328) : wrap64 (h : Int) = (h : Int) := wrap64_in _ (by omega)
theorem half_sJ (a b : Nat) (ha : a ≤ 140737488355328) (hb : b ≤ 140737488355328) : wrap64 ((a : Int) + (b : Int)) = (a : Int) + (b : Int) := wrap64_in _ (by omega)
theorem cmp_at {t : JT} {i : Nat} (h : i < (slts t).length) {ek : List UInt8} (hek : (t.fall i).key = ek) : ((slts t)[i]).pr = keyP ek := by rw [slts_at t i h, hek]
set_option maxHeartbeats 4000000 in
set_option maxRecDepth 100000 in
theorem search_callsJ (A : Option Addr) (n c : Nat) (t : JT) (key : List UInt8) (w : World) (hn : Room n c t.ext) (hs : JSl (· < w.heap.size) w true A t) (hr : Rise (slts t)) : Calls Tryd.prog 62 #[.slice A n c, .string ⟨key.toArray⟩, .func (Fn.func 63) #[] #[]] w fun e w' => e = .returned (.tuple #[.int .i64 (posF (slts t) (keyP key) : Int), .bool (foundF (slts t) (keyP key))]) ∧ Below w.heap.size w w' := by
  obtain ⟨hn, hnc, hc63⟩ := hn
  have hlen : n = (slts t).length := by rw [slts_len]; exact hn
  obtain ⟨ps, hps⟩ : ∃ ps, posF (slts t) (keyP key) = ps := ⟨_, rfl⟩
  have hpn : ps ≤ n := by rw [← hps, hlen]; exact posF_le _ _
  have HS := Lib.hid hs
  have HH := Lib.hid (And.intro hr hlen)
  have HP := Lib.hid hps
  rw [hps]
  have hn47 : n ≤ 140737488355328 := hc63
  clear hs hn hr hlen hps hnc hc63
  go_enter Tryd.func62, Tryd.ntmps62
  go_wp2_with fail
  go_loopw [9, 10] (fun i j wr => ∃ a b : Nat, a ≤ ps ∧ ps ≤ b ∧ b ≤ n ∧ i = .int .i64 (a : Int) ∧ j = .int .i64 (b : Int) ∧ Hid (Below w.heap.size w wr)) (fun i j _ => (intOf j - intOf i).toNat)
  case atStart => exact ⟨0, n, Nat.zero_le _, hpn, Nat.le_refl _, rfl, rfl, Lib.hid (Below.refl _ _)⟩
  case round =>
    obtain ⟨a, b, ha, hab, hb, rfl, rfl, hbe⟩ := hrel
    by_cases hlt : a < b
    · have hb2 : b ≤ 140737488355328 := Nat.le_trans hb hn47
      have ha2 : a ≤ 140737488355328 := Nat.le_trans (Nat.le_of_lt hlt) hb2
      obtain ⟨h, hh⟩ : ∃ h, (a + b) / 2 = h := ⟨_, rfl⟩
      have hah : a ≤ h := by omega
      have hhb : h < b := by omega
      have hkn : h < n := by omega
      have e3 := half_dJ a b h hh
      have e4 := half_wJ h (by omega)
      have e1 := half_sJ a b ha2 hb2
      have e2 := half_uJ a b ha2 hb2
      have hk : h < (slts t).length := by rw [← HH.out.2]; exact hkn
      obtain ⟨b0, off, eA, enl, ecl, eB, enm, ecm, rfl, eP, ebl, eK, eKl, f0, f1, f2, f3, f4, f5, r1, r2, s1, s2, hf⟩ := (HS.out.up hbe.out).mb (i := h) _ (by rw [← slts_len]; exact hk)
      obtain ⟨eu, hev⟩ : ∃ eu, (t.fall h).val = eu := ⟨_, rfl⟩
      obtain ⟨ek, hek⟩ : ∃ ek, (t.fall h).key = ek := ⟨_, rfl⟩
      rw [hev] at f0 f1 f2 f3
      rw [hek] at eK
      have HX := Lib.hid (cmp_at hk hek)
      have HKK := Lib.hid hk
      clear eP eKl r1 r2 s1 s2 hf hev hek hh
      go_wp2_with fail
      refine (closureJ_calls ek eu eA eB enl ecl enm ecm key _).mono ?_
      rintro e w4 ⟨rfl, b4⟩
      have HB4 := Lib.hid (hbe.out.then_ b4)
      clear b4 eK f0 f1 f2 f3 f4 f5 e1 e2 e3 e4
      obtain ⟨z, hz⟩ : ∃ z, cmpP (keyP ek) (keyP key) = z := ⟨_, rfl⟩
      have HZ := Lib.hid hz
      rw [hz]
      clear hz
      by_cases hz0 : z < 0
      · have HPP : h + 1 ≤ ps := by
          have h1 : ¬ ps ≤ h := fun h2 => by
            have h5 := posF_high HH.out.1 (keyP key) h HKK.out (by rw [HP.out]; exact h2)
            rw [HX.out, HZ.out] at h5
            rcases cmpP_three (keyP ek) (keyP key) with h3 | h3 | h3 <;> rw [HZ.out] at h3 <;> omega
          omega
        go_wp2_with fail
        exact ⟨⟨h + 1, b, HPP, hab, hb, by go_num, rfl, HB4⟩, by simp [intOf]; omega⟩
      · have HPP : ps ≤ h := by
          rcases Nat.lt_or_ge h ps with h2 | h2
          · have h5 := posF_low (slts t) (keyP key) h HKK.out (by rw [HP.out]; exact h2)
            rw [HX.out, HZ.out] at h5
            omega
          · exact h2
        go_wp2_with fail
        exact ⟨⟨a, h, ha, HPP, by omega, rfl, rfl, HB4⟩, by simp [intOf]; omega⟩
    · obtain rfl : a = ps := by omega
      obtain rfl : b = a := by omega
      rcases Nat.lt_or_ge b n with hbn | hbn
      · have hk : b < (slts t).length := by rw [← HH.out.2]; exact hbn
        obtain ⟨b0, off, eA, enl, ecl, eB, enm, ecm, rfl, eP, ebl, eK, eKl, f0, f1, f2, f3, f4, f5, r1, r2, s1, s2, hf⟩ := (HS.out.up hbe.out).mb (i := b) _ (by rw [← slts_len]; exact hk)
        obtain ⟨eu, hev⟩ : ∃ eu, (t.fall b).val = eu := ⟨_, rfl⟩
        obtain ⟨ek, hek⟩ : ∃ ek, (t.fall b).key = ek := ⟨_, rfl⟩
        rw [hev] at f0 f1 f2 f3
        rw [hek] at eK
        obtain ⟨z, hz⟩ : ∃ z, cmpP (keyP ek) (keyP key) = z := ⟨_, rfl⟩
        have HF := Lib.hid (show foundF (slts t) (keyP key) = (z == 0) by
          unfold foundF
          rw [HP.out, List.getElem?_eq_getElem hk]
          dsimp only
          rw [cmp_at hk hek, hz]
          by_cases h : z = 0 <;> simp [h])
        have HZ := Lib.hid hz
        clear eP eKl r1 r2 s1 s2 hf hev hek hz
        go_wp2_with fail
        refine (closureJ_calls ek eu eA eB enl ecl enm ecm key _).mono ?_
        rintro e w4 ⟨rfl, b4⟩
        rw [HZ.out]
        have HB4 := Lib.hid (hbe.out.then_ b4)
        clear b4 eK f0 f1 f2 f3 f4 f5
        go_wp2_with fail
        go_ret2
        refine ⟨?_, HB4.out⟩
        rw [HF.out]; rfl
      · obtain rfl : b = n := by omega
        have HF := Lib.hid (show foundF (slts t) (keyP key) = false by
          unfold foundF
          rw [HP.out, HH.out.2, List.getElem?_eq_none (Nat.le_refl _)])
        go_wp2_with fail
        go_ret2
        refine ⟨?_, hbe.out⟩
        rw [HF.out]; rfl
end Go.Proofs.YtpleminoiodmgaaDoor
