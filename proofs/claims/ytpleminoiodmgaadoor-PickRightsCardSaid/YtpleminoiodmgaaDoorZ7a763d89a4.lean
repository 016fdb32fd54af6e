/- Texts put together: PkA PkM PkB PnB PnC PkC. -/
import Derived.Test.YtpleminoiodmgaaDoorZ05c27cc510
import Derived.Test.YtpleminoiodmgaaDoorZ6d00e8390f
import Derived.Test.YtpleminoiodmgaaDoorZ6fac9017d4
import Derived.Deep.Slices
import Derived.Deep.Strs
import Derived.Test.YtpleminoiodmgaaDoorShelf
import Derived.Shelf.SlSortCmp.NoneTotal
import Derived.Test.YtpleminoiodmgaaDoorZ3a5727b0d7
import Derived.Deep.Cut
namespace Go.Proofs.YtpleminoiodmgaaDoor
open Go.Lib
set_option linter.unusedVariables false

/-- A pair's name. -/
def getF (l : List Slt) (p : Pr) : List UInt8 × Bool := match l.find? fun s => decide (s.pr = p) with
  | some s => (s.i, true)
  | none => ([], false)
/-- With a slot. -/
def putSl (l : List Slt) (s : Slt) : List Slt := (l.filter fun x => decide (cmpP x.pr s.pr = -1)) ++ s :: l.filter fun x => decide (cmpP s.pr x.pr = -1)
theorem split_pos {l : List Slt} (hr : Rise l) (p : Pr) : (l.filter fun x => decide (cmpP x.pr p = -1)) = l.take (posF l p) ∧
    (l.filter fun x => decide (cmpP p x.pr = -1)) = l.drop (posF l p + (if foundF l p then 1 else 0)) := by
  induction l with
  | nil => simp [posF, foundF]
  | cons s l ih =>
    obtain ⟨h1, h2⟩ := ih (List.Pairwise.of_cons hr)
    have hall := (List.pairwise_cons.1 hr).1
    by_cases hs : cmpP s.pr p = -1
    · have hps : cmpP p s.pr ≠ -1 := by rw [cmpP_anti s.pr p, hs]; decide
      have e : posF (s :: l) p = posF l p + 1 := by unfold posF; rw [List.takeWhile_cons_of_pos (by simp [hs])]; simp
      have f : foundF (s :: l) p = foundF l p := by unfold foundF; rw [e]; simp
      rw [List.filter_cons_of_pos (by simp [hs]), List.filter_cons_of_neg (by simp [hps]), h1, h2, e, f]
      refine ⟨by simp, ?_⟩
      rw [show posF l p + 1 + (if foundF l p = true then 1 else 0) = (posF l p + (if foundF l p = true then 1 else 0)) + 1 by omega]
      simp
    · have e : posF (s :: l) p = 0 := by unfold posF; rw [List.takeWhile_cons_of_neg (by simp [hs])]; rfl
      have hlow : ∀ x ∈ l, cmpP x.pr p ≠ -1 := fun x hx h => hs (cmpP_trans (hall x hx) h)
      have hhigh : ∀ x ∈ l, cmpP p x.pr = -1 := fun x hx => by
        have h3 := hall x hx
        rcases cmpP_three s.pr p with h | h | h
        · exact absurd h hs
        · rw [← cmpP_eq h]; exact h3
        · exact cmpP_trans (by rw [cmpP_anti s.pr p, h]) h3
      have hfl : (l.filter fun x => decide (cmpP p x.pr = -1)) = l := List.filter_eq_self.2 (fun x hx => by simp [hhigh x hx])
      rw [e]
      refine ⟨?_, ?_⟩
      · rw [List.take_zero, List.filter_eq_nil_iff]
        intro x hx
        rcases List.mem_cons.1 hx with rfl | hx
        · simp [hs]
        · simp [hlow x hx]
      · rcases cmpP_three s.pr p with h | h | h
        · exact absurd h hs
        · have hf : foundF (s :: l) p = true := by unfold foundF; rw [e]; simp [h]
          rw [List.filter_cons_of_neg (by rw [cmpP_anti s.pr p, h]; decide), hfl, hf]; simp
        · have hf : foundF (s :: l) p = false := by unfold foundF; rw [e]; simp [h]
          rw [List.filter_cons_of_pos (by rw [cmpP_anti s.pr p, h]; decide), hfl, hf]; simp
theorem putSl_split {l : List Slt} (hr : Rise l) (s : Slt) : putSl l s = l.take (posF l s.pr) ++ s :: l.drop (posF l s.pr + (if foundF l s.pr then 1 else 0)) := by
  unfold putSl
  rw [(split_pos hr s.pr).1, (split_pos hr s.pr).2]
theorem putSl_rise {l : List Slt} (hr : Rise l) (s : Slt) : Rise (putSl l s) := by
  unfold Rise putSl
  rw [List.pairwise_append]
  refine ⟨List.Pairwise.filter _ hr, ?_, ?_⟩
  · rw [List.pairwise_cons]
    refine ⟨fun x hx => ?_, List.Pairwise.filter _ hr⟩
    have := (List.mem_filter.1 hx).2
    simpa using this
  · intro a ha b hb
    have h1 : cmpP a.pr s.pr = -1 := by simpa using (List.mem_filter.1 ha).2
    rcases List.mem_cons.1 hb with rfl | hb
    · exact h1
    · have h2 : cmpP s.pr b.pr = -1 := by simpa using (List.mem_filter.1 hb).2
      exact cmpP_trans h1 h2
theorem getF_pos {l : List Slt} (hr : Rise l) (p : Pr) : getF l p = if foundF l p then (((l[posF l p]?).map (·.i)).getD [], true) else ([], false) := by
  induction l with
  | nil => rfl
  | cons s l ih =>
    have ih := ih (List.Pairwise.of_cons hr)
    have hall := (List.pairwise_cons.1 hr).1
    by_cases hs : cmpP s.pr p = -1
    · have e : posF (s :: l) p = posF l p + 1 := by unfold posF; rw [List.takeWhile_cons_of_pos (by simp [hs])]; simp
      have f : foundF (s :: l) p = foundF l p := by unfold foundF; rw [e]; simp
      have hne : ¬ s.pr = p := by intro h; rw [h, cmpP_self] at hs; exact absurd hs (by decide)
      have g : getF (s :: l) p = getF l p := by unfold getF; rw [List.find?_cons_of_neg (by simp [hne])]
      rw [g, ih, f, e]
      simp
    · have e : posF (s :: l) p = 0 := by unfold posF; rw [List.takeWhile_cons_of_neg (by simp [hs])]; rfl
      rcases cmpP_three s.pr p with h | h | h
      · exact absurd h hs
      · have hf : foundF (s :: l) p = true := by unfold foundF; rw [e]; simp [h]
        have heq := cmpP_eq h
        rw [hf, e]
        unfold getF
        rw [List.find?_cons_of_pos (by simp [heq])]
        simp
      · have hf : foundF (s :: l) p = false := by unfold foundF; rw [e]; simp [h]
        rw [hf]
        unfold getF
        have hno : (s :: l).find? (fun x => decide (x.pr = p)) = none := by
          rw [List.find?_eq_none]
          intro x hx
          have hps : cmpP p s.pr = -1 := by rw [cmpP_anti s.pr p, h]
          rcases List.mem_cons.1 hx with rfl | hx
          · simp; intro e2; rw [e2, cmpP_self] at h; exact absurd h (by decide)
          · simp; intro e2
            have h5 := cmpP_trans hps (hall x hx)
            rw [e2, cmpP_self] at h5
            exact absurd h5 (by decide)
        rw [hno]; rfl
end Go.Proofs.YtpleminoiodmgaaDoor
namespace Go.Proofs.YtpleminoiodmgaaDoor
open Go.ChangeShapes Go.WideShapes Go.ChangeAt Go.RowKit
set_option linter.unusedVariables false

def Slt.cells (s : Slt) : List Value := [strV s.t, strV s.k, strV s.i]
def Slt.ok (s : Slt) : Prop := s.t.length ≤ 140737488355328 ∧ s.k.length ≤ 140737488355328 ∧ s.i.length ≤ 140737488355328
/-- A slot, a pair by value. -/
def Slt.val (s : Slt) : Value := .agg #[.string ⟨s.t.toArray⟩, .string ⟨s.k.toArray⟩, .string ⟨s.i.toArray⟩]
def prV (p : Pr) : Value := .agg #[.string ⟨p.1.toArray⟩, .string ⟨p.2.toArray⟩]
def slC (l : List Slt) : List Value := l.flatMap Slt.cells
theorem slC_cons (s : Slt) (l : List Slt) : slC (s :: l) = s.cells ++ slC l := rfl
theorem slC_app (l m : List Slt) : slC (l ++ m) = slC l ++ slC m := List.flatMap_append
theorem slC_len : ∀ l : List Slt, (slC l).length = l.length * 3
  | [] => rfl
  | s :: l => by rw [slC_cons, List.length_append, slC_len l, List.length_cons]; show 3 + _ = _; omega
theorem slC_get : ∀ {l : List Slt} {i j : Nat} (hi : i < l.length) (hj : j < 3), (slC l)[i * 3 + j]? = (l[i]).cells[j]?
  | s :: l, 0, j, hi, hj => by rw [slC_cons, List.getElem?_append_left (by show _ < 3; omega)]; simp
  | s :: l, i + 1, j, hi, hj => by
    rw [slC_cons, List.getElem?_append_right (by show 3 ≤ _; omega), show (i + 1) * 3 + j - s.cells.length = i * 3 + j by show _ - 3 = _; omega, slC_get (by simpa using hi) hj]; rfl
theorem slC_of {l : List Slt} {q : Nat} {v : Value} (h : (slC l)[q]? = some v) : ∃ i j, ∃ hi : i < l.length, j < 3 ∧ q = i * 3 + j ∧ (l[i]).cells[j]? = some v := by
  have hq : q < (slC l).length := (List.getElem?_eq_some_iff.1 h).1
  rw [slC_len] at hq
  have hi : q / 3 < l.length := by omega
  refine ⟨q / 3, q % 3, hi, by omega, by omega, ?_⟩
  rw [← slC_get hi (by omega), show q / 3 * 3 + q % 3 = q by omega]
  exact h
theorem slC_take (l : List Slt) (i : Nat) : (slC l).take (i * 3) = slC (l.take i) := by
  induction l generalizing i with
  | nil => simp [slC]
  | cons s l ih =>
    cases i with
    | zero => simp [slC]
    | succ i =>
      rw [slC_cons, List.take_succ_cons, slC_cons, List.take_append, List.take_of_length_le (by show 3 ≤ _; omega), show (i + 1) * 3 - s.cells.length = i * 3 by show _ - 3 = _; omega, ih]
theorem slC_drop (l : List Slt) (i : Nat) : (slC l).drop (i * 3) = slC (l.drop i) := by
  induction l generalizing i with
  | nil => simp [slC]
  | cons s l ih =>
    cases i with
    | zero => simp
    | succ i =>
      rw [slC_cons, List.drop_succ_cons, List.drop_append, List.drop_of_length_le (by show 3 ≤ _; omega), show (i + 1) * 3 - s.cells.length = i * 3 by show _ - 3 = _; omega, ih]; rfl
theorem slC_one (l : List Slt) : ∀ v ∈ slC l, v.oneCell' = true := by
  intro v hv
  obtain ⟨s, _, hs⟩ := List.mem_flatMap.1 hv
  simp only [Slt.cells, List.mem_cons, List.not_mem_nil, or_false] at hs
  rcases hs with rfl | rfl | rfl <;> rfl
/-- A slot of a slice of slots. -/
theorem slots_at {w : World} {A : Option Addr} {xs : List Slt} (h : RV w A (slC xs)) {k : Nat} (hk : k < xs.length) : ∃ b off, A = some ⟨b, off, none⟩ ∧ b < w.heap.size ∧
    w.cell? ⟨b, off + k * 3, none⟩ = some (.string ⟨(xs[k]).t.toArray⟩) ∧ w.cell? ⟨b, off + k * 3 + 1, none⟩ = some (.string ⟨(xs[k]).k.toArray⟩) ∧ w.cell? ⟨b, off + k * 3 + 2, none⟩ = some (.string ⟨(xs[k]).i.toArray⟩) := by
  obtain ⟨b, off, rfl, hb, h0⟩ := h (k * 3 + 0) (strV (xs[k]).t) (by rw [slC_get hk (by decide)]; rfl)
  obtain ⟨b1, off1, e1, _, h1⟩ := h (k * 3 + 1) (strV (xs[k]).k) (by rw [slC_get hk (by decide)]; rfl)
  obtain ⟨b2, off2, e2, _, h2⟩ := h (k * 3 + 2) (strV (xs[k]).i) (by rw [slC_get hk (by decide)]; rfl)
  injection e1 with e1; injection e1 with e1 e3
  injection e2 with e2; injection e2 with e2 e4
  subst e1; subst e2; subst e3; subst e4
  exact ⟨b, off, rfl, hb, h0, h1, h2⟩
/-- The slice at 'A' reads slots. -/
def Own37 (w : World) (A : Option Addr) (n c : Nat) (xs : List Slt) : Prop := RV w A (slC xs) ∧ Hid (n = xs.length) ∧ n ≤ c ∧ c ≤ 9223372036854775807 ∧ ∀ x ∈ xs, x.ok
abbrev Sls := @Own37
theorem Sls.below {w w' : World} {A : Option Addr} {n c : Nat} {xs : List Slt} (h : Sls w A n c xs) (hb : Below w.heap.size w w') : Sls w' A n c xs := ⟨h.1.below hb, h.2⟩
theorem slots_open {H : Type} {enc : TypeId × Value → H} {w : World} {base : Nat} {held : Bool} {A : Option Addr} {n c : Nat} {d : DataW H} {p : List MemPlace}
    (h : DataW.Trod enc Tryd.prog w base (fun _ => true) held 37 (.slice A n c) d p) (hwt : ∀ q ∈ d.weights Tryd.prog 37, q ≤ reachBytes) : ∃ xs, Own37 w A n c xs := by
  obtain ⟨fuel, hf⟩ := h
  have h4 : Tryd.prog.cellsOf 52 = 3 := by kernel_rfl
  rcases Deep.open_slice Tryd.underlying37 hf with ⟨hcs, _⟩ | ⟨a, len, cap, m, q, D, Pl, hcs, hb, hl, hm, hmm, hx, hall⟩
  · simp [Value.cells] at hcs
    obtain ⟨rfl, rfl, rfl⟩ := hcs
    exact ⟨[], RV.nil _ _, Lib.hid rfl, Nat.le_refl _, by decide, by simp⟩
  · simp [Value.cells] at hcs
    obtain ⟨rfl, rfl, rfl⟩ := hcs
    simp only [if_true] at hmm
    subst hmm
    rw [h4] at hall
    injection hx with hx _
    subst hx
    have hrch : reachBytes < 2 ^ 47 := by decide
    have each : ∀ i, i < n → ∃ y : Slt, y.ok ∧ ∀ j, j < 3 → w.cell? ((a.add (i * 3)).add j) = y.cells[j]? := by
      intro i hi
      obtain ⟨cs, h1, h2⟩ := hall i (by omega)
      obtain ⟨_, hlen, hc⟩ := World.cells?_some h1
      obtain ⟨y0, y1, y2, m4, hD4, _, t0, t1, t2⟩ := Deep.trod_struct3 Tryd.underlying52 h2
      have hcs : Tryd.prog.cellsOf 9 = 1 := by kernel_rfl
      obtain ⟨s0, e0, q0, w0⟩ := DataW.trod_string Tryd.underlying9 t0
      obtain ⟨s1, e1, q1, w1⟩ := DataW.trod_string Tryd.underlying9 t1
      obtain ⟨s2, e2, q2, w2⟩ := DataW.trod_string Tryd.underlying9 t2
      obtain ⟨l0, rfl, hs0⟩ := str_split s0
      obtain ⟨l1, rfl, hs1⟩ := str_split s1
      obtain ⟨l2, rfl, hs2⟩ := str_split s2
      have hin : ∀ L : List UInt8, (L = l0 ∨ L = l1 ∨ L = l2) → L.length ≤ 140737488355328 := by
        intro L hL
        have hin : L.length ∈ (D i).weights Tryd.prog 52 := by
          injection hD4 with hD4 _
          rw [hD4, q0, q1, q2]
          rcases hL with rfl | rfl | rfl <;> simp [DataW.weights, Tryd.underlying52, DataW.weightsEach]
        have key : ∀ (Q : List (DataW H)), D i ∈ Q → L.length ∈ DataW.weightsAll Tryd.prog 52 Q := by
          intro Q
          induction Q with
          | nil => intro h; cases h
          | cons x Q ih =>
            intro h
            simp only [DataW.weightsAll, List.mem_append]
            rcases List.mem_cons.1 h with rfl | h
            · exact .inl hin
            · exact .inr (ih h)
        have h9 := key ((List.range n).map D) (List.mem_map.2 ⟨i, List.mem_range.2 hi, rfl⟩)
        have h8 := hwt L.length (by
          simp only [DataW.weights, Tryd.underlying37, List.mem_cons, List.mem_append]
          exact .inr (.inl h9))
        omega
      dsimp only at e0 e1 e2
      rw [hcs] at e0 e1 e2
      have g : ∀ (k : Nat) (v : Value), (cs.drop k).take 1 = [v] → cs[k]? = some v := fun k v h => by
        have h5 := congrArg (fun q => q[0]?) h
        simpa [List.getElem?_take, List.getElem?_drop] using h5
      refine ⟨⟨l0, l1, l2⟩, ⟨hin _ (.inl rfl), hin _ (.inr (.inl rfl)), hin _ (.inr (.inr rfl))⟩, fun j hj => ?_⟩
      rw [hc j hj]
      obtain rfl | rfl | rfl : j = 0 ∨ j = 1 ∨ j = 2 := by omega
      · exact g 0 _ e0
      · exact g 1 _ e1
      · exact g 2 _ e2
    obtain ⟨y, hy⟩ : ∃ y : Nat → Slt, ∀ i, i < n → (y i).ok ∧ ∀ j, j < 3 → w.cell? ((a.add (i * 3)).add j) = (y i).cells[j]? :=
      ⟨fun i => if hi : i < n then Classical.choose (each i hi) else ⟨[], [], []⟩, fun i hi => by simp only [dif_pos hi]; exact Classical.choose_spec (each i hi)⟩
    refine ⟨(List.range n).map y, fun k v hk => ?_, Lib.hid (by simp), hl, hm, ?_⟩
    · obtain ⟨i, j, hi, hj, rfl, hv⟩ := slC_of hk
      have hi2 : i < n := by simpa using hi
      have eg : ((List.range n).map y)[i] = y i := by simp
      rw [eg] at hv
      obtain ⟨b, off, spot⟩ := a
      have h5 := (hy i hi2).2 j hj
      rw [hv] at h5
      have h00 := (hy 0 (by omega)).2 0 (by decide)
      have hspot : spot = none := by
        have h01 : (y 0).cells[0]? = some (strV (y 0).t) := rfl
        rw [h01] at h00
        simpa [Addr.add] using World.cell?_spot h00
      subst hspot
      have hplain : ((⟨b, off, none⟩ : Addr).add (i * 3)).add j = ⟨b, off + (i * 3 + j), none⟩ := by
        rw [← Nat.add_assoc]; unfold Addr.add; split <;> split <;> simp_all
      rw [hplain] at h5
      exact ⟨b, off, rfl, World.block_lt_of_cell? w _ h5, h5⟩
    · intro x hx
      obtain ⟨i, hi, rfl⟩ := List.mem_map.1 hx
      exact (hy i (List.mem_range.1 hi)).1
end Go.Proofs.YtpleminoiodmgaaDoor
namespace Go.Proofs.YtpleminoiodmgaaDoor
open Go.ChangeShapes Go.WideShapes Go.ChangeAt Go.RowKit Go.IntWalk
set_option linter.unusedVariables false

theorem below2 (w : World) (o1 o2 : Obj) : Below w.heap.size w ((w.alloc o1).alloc o2) := ((Below.refl _ _).alloc (Nat.le_refl _) _).alloc (by simp) _
theorem pairOf_calls (s : Slt) (w : World) : Calls Tryd.prog 57 #[s.val] w fun e w' => e = .returned (prV s.pr) ∧ Below w.heap.size w w' := by
  obtain ⟨t, k, i⟩ := s
  unfold Slt.val
  dsimp only
  go_enter Tryd.func57, Tryd.ntmps57
  go_wp2
  exact bodyPost_ret (v := prV (t, k)) (by simp [results, Tryd.results57, go_sem, prV]) rfl ⟨rfl, below2 _ _ _⟩
theorem of_calls (s : Slt) (w : World) : Calls Tryd.prog 26 #[s.val] w fun e w' => e = .returned (prV s.pr) ∧ Below w.heap.size w w' := by
  obtain ⟨t, k, i⟩ := s
  unfold Slt.val
  dsimp only
  go_enter Tryd.func26, Tryd.ntmps26
  go_wp2
  exact bodyPost_ret (v := prV (t, k)) (by simp [results, Tryd.results26, go_sem, prV]) rfl ⟨rfl, below2 _ _ _⟩
theorem compare_calls (p q : Pr) (w : World) : Calls Tryd.prog 20 #[prV p, prV q] w fun e w' => e = .returned (.int .i64 (cmpP p q)) ∧ Below w.heap.size w w' := by
  obtain ⟨a, b⟩ := p
  obtain ⟨c, d⟩ := q
  unfold prV
  dsimp only
  by_cases h0 : Lib.compareBytes a c = 0
  · have HC : Hid (cmpP (a, b) (c, d) = Lib.compareBytes b d) := Lib.hid (if_pos h0)
    go_enter Tryd.func20, Tryd.ntmps20
    go_wp2_with fail
    refine (Tryd.strings_Compare _ _ _).mono ?_
    rintro e w1 ⟨rfl, rfl⟩
    simp only [str_data, h0]
    go_wp2_with fail
    refine (Tryd.strings_Compare _ _ _).mono ?_
    rintro e w1 ⟨rfl, rfl⟩
    go_wp2_with fail
    go_ret
    exact ⟨by rw [HC.out]; rfl, below2 _ _ _⟩
  · have HC : Hid (cmpP (a, b) (c, d) = Lib.compareBytes a c) := Lib.hid (if_neg h0)
    obtain ⟨z, hz⟩ : ∃ z, Lib.compareBytes a c = z := ⟨_, rfl⟩
    rw [hz] at HC h0
    have ht : (z != 0) = true := by simpa using h0
    have HZ := Lib.hid hz
    clear hz h0
    go_enter Tryd.func20, Tryd.ntmps20
    go_wp2_with fail
    refine (Tryd.strings_Compare _ _ _).mono ?_
    rintro e w1 ⟨rfl, rfl⟩
    simp only [str_data, HZ.out]
    go_wp2_with fail
    go_ret
    exact ⟨by rw [HC.out]; rfl, below2 _ _ _⟩
theorem less_calls (p q : Pr) (w : World) : Calls Tryd.prog 25 #[prV p, prV q] w fun e w' => e = .returned (.bool (decide (cmpP p q = -1))) ∧ Below w.heap.size w w' := by
  obtain ⟨a, b⟩ := p
  obtain ⟨c, d⟩ := q
  unfold prV
  dsimp only
  by_cases h0 : a = c
  · subst h0
    have HC : Hid (decide (cmpP (a, b) (a, d) = -1) = Op.bytesLess b d) := Lib.hid (by rw [bl_cb]; unfold cmpP; rw [if_pos (cb_self a)])
    go_enter Tryd.func25, Tryd.ntmps25
    go_wp2_with fail
    go_ret
    exact ⟨by rw [HC.out]; rfl, below2 _ _ _⟩
  · have HC : Hid (decide (cmpP (a, b) (c, d) = -1) = Op.bytesLess a c) := Lib.hid (by rw [bl_cb]; unfold cmpP; rw [if_neg (fun h => h0 (cb_eq h))])
    have ht : (a == c) = false := by simpa using h0
    go_enter Tryd.func25, Tryd.ntmps25
    go_wp2_with fail
    go_ret
    exact ⟨by rw [HC.out]; rfl, below2 _ _ _⟩
end Go.Proofs.YtpleminoiodmgaaDoor
namespace Go.Proofs.YtpleminoiodmgaaDoor
open Go.ChangeShapes Go.WideShapes Go.ChangeAt Go.RowKit Go.IntWalk
set_option linter.unusedVariables false
set_option maxRecDepth 100000

def encP (p : Pr) : List Value := [strV p.1, strV p.2]
theorem compare_grow (p q : Pr) (w : World) : Calls Tryd.prog 20 #[prV p, prV q] w fun e w' => e = .returned (.int .i64 (cmpP p q)) ∧ ∃ n os, w' = Go.Sort.grow (w.drewN n) os := by
  obtain ⟨a, b⟩ := p
  obtain ⟨c, d⟩ := q
  unfold prV
  dsimp only
  by_cases h0 : Lib.compareBytes a c = 0
  · have HC : Hid (cmpP (a, b) (c, d) = Lib.compareBytes b d) := Lib.hid (if_pos h0)
    go_enter Tryd.func20, Tryd.ntmps20
    go_wp2_with fail
    refine (Tryd.strings_Compare _ _ _).mono ?_
    rintro e w1 ⟨rfl, rfl⟩
    simp only [str_data, h0]
    go_wp2_with fail
    refine (Tryd.strings_Compare _ _ _).mono ?_
    rintro e w1 ⟨rfl, rfl⟩
    go_wp2_with fail
    go_ret
    exact ⟨by rw [HC.out]; rfl, 0, _, by rw [Go.Sort.alloc_eq_grow, Go.Sort.alloc_eq_grow, Go.Sort.grow_grow]; rfl⟩
  · have HC : Hid (cmpP (a, b) (c, d) = Lib.compareBytes a c) := Lib.hid (if_neg h0)
    obtain ⟨z, hz⟩ : ∃ z, Lib.compareBytes a c = z := ⟨_, rfl⟩
    rw [hz] at HC h0
    have ht : (z != 0) = true := by simpa using h0
    have HZ := Lib.hid hz
    clear hz h0
    go_enter Tryd.func20, Tryd.ntmps20
    go_wp2_with fail
    refine (Tryd.strings_Compare _ _ _).mono ?_
    rintro e w1 ⟨rfl, rfl⟩
    simp only [str_data, HZ.out]
    go_wp2_with fail
    go_ret
    exact ⟨by rw [HC.out]; rfl, 0, _, by rw [Go.Sort.alloc_eq_grow, Go.Sort.alloc_eq_grow, Go.Sort.grow_grow]; rfl⟩
theorem lt_cmpP (x y : Pr) : ltOf cmpP x y = decide (cmpP x y = -1) := by
  unfold ltOf
  rcases cmpP_three x y with h | h | h <;> rw [h] <;> rfl
theorem swoP : Go.Sort.SWO (ltOf cmpP) where
  irrefl x := by rw [lt_cmpP, cmpP_self]; rfl
  trans x y z h1 h2 := by
    rw [lt_cmpP, decide_eq_true_eq] at *
    exact cmpP_trans h1 h2
  ntrans x y z h1 h2 := by
    rw [lt_cmpP, decide_eq_false_iff_not] at *
    intro h3
    rcases cmpP_three x y with h | h | h
    · exact h1 h
    · have := cmpP_eq h; subst this; exact h2 h3
    · have h4 : cmpP y x = -1 := by rw [cmpP_anti, h]
      exact h2 (cmpP_trans h4 h3)
theorem totP (x y : Pr) (h1 : ltOf cmpP x y = false) (h2 : ltOf cmpP y x = false) : x = y := by
  rw [lt_cmpP, decide_eq_false_iff_not] at *
  rcases cmpP_three x y with h | h | h
  · exact absurd h h1
  · exact cmpP_eq h
  · exact absurd (by rw [cmpP_anti, h]) h2
/-- Pairs in their order. -/
def sortP (l : List Pr) : List Pr := l.mergeSort fun x y => !ltOf cmpP y x
theorem leP_trans (a b c : Pr) (h1 : (!ltOf cmpP b a) = true) (h2 : (!ltOf cmpP c b) = true) : (!ltOf cmpP c a) = true := by
  rw [Bool.not_eq_true'] at *
  exact swoP.ntrans c b a h2 h1
theorem leP_total (a b : Pr) : ((!ltOf cmpP b a) || (!ltOf cmpP a b)) = true := by
  rw [lt_cmpP, lt_cmpP]
  rcases cmpP_three a b with h | h | h
  · rw [h, cmpP_anti, h]; rfl
  · rw [h, cmpP_anti, h]; rfl
  · rw [h, cmpP_anti, h]; rfl
theorem sortP_eq {l m : List Pr} (hp : l.Perm m) (hs : m.Pairwise fun x y => (!ltOf cmpP y x) = true) : sortP l = m := by
  unfold sortP
  refine List.Perm.eq_of_pairwise (le := fun x y => (!ltOf cmpP y x) = true) (fun a b _ _ h1 h2 => ?_) (List.pairwise_mergeSort leP_trans leP_total l) hs ((List.mergeSort_perm l _).trans hp)
  rw [Bool.not_eq_true'] at h1 h2
  exact totP a b h2 h1
theorem sortW_below {enc : Pr → List Value} {k : Nat} {w : World} {blk off n : Nat} {d : Array Pr} {os : Array Obj} {B : Nat} (h : B ≤ blk) (h2 : blk < w.heap.size) : Below B w (sortWorldK enc k w blk off n d os) := by
  refine ⟨rfl, rfl, rfl, ?_, fun i hi => ?_⟩
  · simp [sortWorldK, Go.Sort.grow, Go.Sort.putRowK, Go.Sort.putRow, Go.Sort.mapBlock, Go.Sort.ahead]
  · unfold sortWorldK Go.Sort.grow Go.Sort.putRowK Go.Sort.putRow Go.Sort.mapBlock Go.Sort.ahead
    show (w.heap.modify blk _ ++ os)[i]? = w.heap[i]?
    by_cases hw : i < w.heap.size
    · rw [Array.getElem?_append_left (by simpa using hw), Array.getElem?_modify, if_neg (by omega)]
    · omega
/-- slices.SortFunc at pairs. -/
theorem sortP_calls (g cap : Nat) (d : Array Pr) (w : World) (hH : Go.Sort.HoldsK encP 2 w g 0 d) (hg : g < w.heap.size) (hd : d.size ≤ 1000000) :
    Calls Tryd.prog 19 #[.slice (some ⟨g, 0, none⟩) d.size cap, .func (.func 20) #[] #[]] w fun e w' =>
      e = .returned (.tuple #[]) ∧ ∃ n os, w' = sortWorldK encP 2 w g 0 n (sortP d.toList).toArray os :=
  AnyQ.slices_SortFunc_total Tryd.sortPr 2 Tryd.isAgg35 Tryd.sizeOf35 encP (fun _ => rfl) (fun x v hv => by
      simp only [encP, List.mem_cons, List.not_mem_nil, or_false] at hv
      rcases hv with rfl | rfl <;> rfl) cmpP swoP 20 #[] g 0 cap d w (enters_of Tryd.func20 (by kernel_rfl) rfl)
    (fun m os dk _ x y => (compare_grow x y _)) hH hg (by omega) totP
/-- .. what lies there behind it. -/
theorem sortP_holds {g n : Nat} {d : Array Pr} {w : World} {os : Array Obj} (hH : Go.Sort.HoldsK encP 2 w g 0 d) (hg : g < w.heap.size) : Go.Sort.HoldsK encP 2 (sortWorldK encP 2 w g 0 n (sortP d.toList).toArray os) g 0 (sortP d.toList).toArray :=
  holdsK_sortWorldK_c encP 2 w g 0 d _ n os hH hg (by simp [sortP])
end Go.Proofs.YtpleminoiodmgaaDoor
namespace Go.Proofs.YtpleminoiodmgaaDoor
open Go.ChangeShapes Go.WideShapes Go.ChangeAt Go.RowKit Go.IntWalk
set_option linter.unusedVariables false
set_option maxRecDepth 100000

/-- Pairs, one behind the other, in a block. -/
def PRow (w : World) (g : Nat) (l : List Pr) : Prop := ∀ i (h : i < l.length), w.rangeAt g (i * 2) [.string ⟨(l[i]).1.toArray⟩, .string ⟨(l[i]).2.toArray⟩]
theorem PRow.below {w w' : World} {g : Nat} {l : List Pr} (h : PRow w g l) (hb : Below w.heap.size w w') (hg : g < w.heap.size) : PRow w' g l := fun i hi j v hj =>
  (hb.cell (p := ⟨g, i * 2 + j, none⟩) hg).trans (h i hi j v hj)
theorem prow_holds {w : World} {g : Nat} {l : List Pr} (h : Go.Sort.HoldsK encP 2 w g 0 l.toArray) : PRow w g l := fun i hi j v hj => by
  have hi2 : i < l.toArray.size := by simpa using hi
  have e : l.toArray[i]! = l[i] := by rw [getElem!_pos l.toArray i hi2]; simp
  match j, hj with
  | 0, hj =>
    have h0 := (Go.Sort.HoldsK.cell h (c := 0) hi2 (by decide)).1
    rw [e, Nat.zero_add] at h0
    cases hj; exact h0
  | 1, hj =>
    have h0 := (Go.Sort.HoldsK.cell h (c := 1) hi2 (by decide)).1
    rw [e, Nat.zero_add] at h0
    cases hj; exact h0
/-- Pairs of which none is as the one behind it. -/
def Apart (l : List Pr) : Prop := ∀ i (h : i + 1 < l.length), l[i]'(by omega) ≠ l[i + 1]
def PairPost (l : List Pr) (w : World) (e : Ending) (w' : World) : Prop := (∃ g cap, e = .returned (.slice (some ⟨g, 0, none⟩) l.length cap) ∧ w.heap.size ≤ g ∧ g < w'.heap.size ∧ l.length ≤ cap ∧ cap ≤ 9223372036854775807 ∧ PRow w' g l) ∧ Below w.heap.size w w'
theorem size_pr : (Tryd.prog.info? 35).map (·.size) = some 2 := by kernel_rfl
set_option maxHeartbeats 4000000 in
theorem compact_apart (g n cap : Nat) (l : List Pr) (w : World) (hr : PRow w g l) (hn : n = l.length) (hl : l.length ≤ 1000000) (hc : n ≤ cap) (hg : g < w.heap.size) (ha : Apart l) :
    Calls Tryd.prog 21 #[.slice (some ⟨g, 0, none⟩) n cap] w (fun e w' => e = .returned (.slice (some ⟨g, 0, none⟩) n cap) ∧ Below w.heap.size w w') := by
  have HR := Lib.hid hr
  have HN := Lib.hid hn
  have HA := Lib.hid ha
  have hn6 : n ≤ 1000000 := by omega
  clear hr hn hl ha
  by_cases h2 : n < 2
  · go_enter Tryd.func21, Tryd.ntmps21
    go_wp2_with fail
    go_ret
    exact ⟨rfl, Below.refl _ _⟩
  go_enter Tryd.func21, Tryd.ntmps21
  go_wp2_with fail
  go_loopw [3] (fun i wr => ∃ j : Nat, j + 1 ≤ n ∧ i = .int .i64 ((j + 1 : Nat) : Int) ∧ Hid (Below w.heap.size w wr)) (fun i _ => n - (intOf i).toNat)
  case atStart => exact ⟨0, by omega, rfl, Lib.hid (Below.refl _ _)⟩
  case round =>
    obtain ⟨j, hj, rfl, hbe⟩ := hrel
    by_cases hlt : j + 1 < n
    · obtain ⟨x, hx⟩ : ∃ x, l[j]'(by rw [← HN.out]; omega) = x := ⟨_, rfl⟩
      obtain ⟨y, hy⟩ : ∃ y, l[j + 1]'(by rw [← HN.out]; omega) = y := ⟨_, rfl⟩
      have hne : x ≠ y := by rw [← hx, ← hy]; exact HA.out j (by rw [← HN.out]; omega)
      have r0 := HR.out.below hbe.out hg j (by rw [← HN.out]; omega)
      have r1 := HR.out.below hbe.out hg (j + 1) (by rw [← HN.out]; omega)
      have hgr : g < wr.heap.size := by have := hbe.out.size; omega
      rw [hx] at r0
      rw [hy] at r1
      obtain ⟨x1, x2⟩ := x
      obtain ⟨y1, y2⟩ := y
      dsimp only at r0 r1
      have htf : ((y1 == x1) && (y2 == x2)) = false := by
        by_cases h1 : y1 = x1
        · by_cases h2 : y2 = x2
          · exact absurd (by rw [h1, h2]) hne
          · simp [h2]
        · simp [h1]
      have HTF := Lib.hid htf
      have hq1 : ¬ n ≤ j := by omega
      have hq2 : ¬ ((j : Int) + 1 < 0) := by omega
      have hqw := wraps_i64 (j : Int) (by omega) (by omega)
      clear hx hy hne htf
      go_upto_region 6 with fail
      apply wp_region_ls (by kernel_rfl) (by kernel_rfl)
      apply ls_move (.slice (some ⟨g, 0, none⟩) n cap) (.tmp 0) rfl rfl rfl
      simp only [Act.put, List.setIfInBounds_toArray, List.set_cons_succ, List.set_cons_zero]
      apply ls_move (.int .i64 ((j + 1 : Nat) : Int)) (.tmp 3) rfl rfl rfl
      simp only [Act.put, List.setIfInBounds_toArray, List.set_cons_succ, List.set_cons_zero]
      apply ls_pure (.pointer (some ⟨g, (j + 1) * 2, none⟩)) rfl (by intro W; go_simp)
      simp only [Act.put, List.setIfInBounds_toArray, List.set_cons_succ, List.set_cons_zero]
      apply ls_load 35 (.tmp 18) rfl g ((j + 1) * 2) _ _ r1 hgr Tryd.underlying35 rfl size_pr rfl rfl
      simp only [Act.put, List.setIfInBounds_toArray, List.set_cons_succ, List.set_cons_zero]
      apply ls_move (.slice (some ⟨g, 0, none⟩) n cap) (.tmp 0) rfl rfl rfl
      simp only [Act.put, List.setIfInBounds_toArray, List.set_cons_succ, List.set_cons_zero]
      apply ls_move (.int .i64 ((j + 1 : Nat) : Int)) (.tmp 3) rfl rfl rfl
      simp only [Act.put, List.setIfInBounds_toArray, List.set_cons_succ, List.set_cons_zero]
      apply ls_pure (.int .i64 (j : Int)) rfl (by intro W; go_simp)
      simp only [Act.put, List.setIfInBounds_toArray, List.set_cons_succ, List.set_cons_zero]
      apply ls_pure (.pointer (some ⟨g, j * 2, none⟩)) rfl (by intro W; go_simp)
      simp only [Act.put, List.setIfInBounds_toArray, List.set_cons_succ, List.set_cons_zero]
      apply ls_load 35 (.tmp 23) rfl g (j * 2) _ _ r0 hgr Tryd.underlying35 rfl size_pr rfl rfl
      simp only [Act.put, List.setIfInBounds_toArray, List.set_cons_succ, List.set_cons_zero]
      apply ls_pure (.bool false) rfl (by intro W; rw [← HTF.out]; go_simp; by_cases h1 : y1 = x1 <;> by_cases h2 : y2 = x2 <;> simp [h1, h2])
      simp only [Act.put, List.setIfInBounds_toArray, List.set_cons_succ, List.set_cons_zero]
      refine ls_nil (Rs := []) ?_
      intro w4 b4
      have HB4 := Lib.hid (hbe.out.then_ b4)
      clear b4 r0 r1
      go_wp2_with fail
      exact ⟨⟨j + 1, by omega, by go_num, HB4⟩, by simp [intOf]; omega⟩
    · obtain rfl : n = j + 1 := by omega
      go_wp2_with fail
      go_ret
      exact ⟨rfl, hbe.out⟩
theorem blk_atP {w : World} (cs : List Value) (T : TypeId) {g : Nat} (h : w.heap.size = g) : Blk (w.alloc (.cells cs.toArray T)) g T cs := h ▸ Blk.new w cs T
theorem holds_blk {w : World} {g : Nat} {T : TypeId} {p q r : Pr} (h : Blk w g T [strV p.1, strV p.2, strV q.1, strV q.2, strV r.1, strV r.2]) : Go.Sort.HoldsK encP 2 w g 0 #[p, q, r] := fun j hj => by
  have hj6 : j < 6 := by simpa using hj
  rw [Nat.zero_add]
  match j, hj6 with
  | 0, _ => exact ⟨by rw [Go.Sort.get_flatK encP 2 _ 0 (by show 0 < 6; decide)]; exact h.cell (k := 0) rfl, h.frozen 0⟩
  | 1, _ => exact ⟨by rw [Go.Sort.get_flatK encP 2 _ 1 (by show 1 < 6; decide)]; exact h.cell (k := 1) rfl, h.frozen 1⟩
  | 2, _ => exact ⟨by rw [Go.Sort.get_flatK encP 2 _ 2 (by show 2 < 6; decide)]; exact h.cell (k := 2) rfl, h.frozen 2⟩
  | 3, _ => exact ⟨by rw [Go.Sort.get_flatK encP 2 _ 3 (by show 3 < 6; decide)]; exact h.cell (k := 3) rfl, h.frozen 3⟩
  | 4, _ => exact ⟨by rw [Go.Sort.get_flatK encP 2 _ 4 (by show 4 < 6; decide)]; exact h.cell (k := 4) rfl, h.frozen 4⟩
  | 5, _ => exact ⟨by rw [Go.Sort.get_flatK encP 2 _ 5 (by show 5 < 6; decide)]; exact h.cell (k := 5) rfl, h.frozen 5⟩
def baseP (s : List UInt8) : List Pr := [([109, 46, 114, 111, 111, 109, 46, 99, 114, 101, 97, 116, 101], []), ([109, 46, 114, 111, 111, 109, 46, 109, 101, 109, 98, 101, 114], s), ([109, 46, 114, 111, 111, 109, 46, 112, 111, 119, 101, 114, 95, 108, 101, 118, 101, 108, 115], [])]
theorem baseP_sort (s : List UInt8) : sortP [([109, 46, 114, 111, 111, 109, 46, 99, 114, 101, 97, 116, 101], []), ([109, 46, 114, 111, 111, 109, 46, 112, 111, 119, 101, 114, 95, 108, 101, 118, 101, 108, 115], []), ([109, 46, 114, 111, 111, 109, 46, 109, 101, 109, 98, 101, 114], s)] = baseP s := by
  refine sortP_eq (List.Perm.cons _ (List.Perm.swap _ _ _)) ?_
  have h1 : cmpP ([109, 46, 114, 111, 111, 109, 46, 109, 101, 109, 98, 101, 114], s) ([109, 46, 114, 111, 111, 109, 46, 99, 114, 101, 97, 116, 101], []) = 1 := by unfold cmpP; rw [if_neg (show ¬ Lib.compareBytes [109, 46, 114, 111, 111, 109, 46, 109, 101, 109, 98, 101, 114] [109, 46, 114, 111, 111, 109, 46, 99, 114, 101, 97, 116, 101] = 0 by decide)]; show Lib.compareBytes [109, 46, 114, 111, 111, 109, 46, 109, 101, 109, 98, 101, 114] [109, 46, 114, 111, 111, 109, 46, 99, 114, 101, 97, 116, 101] = 1; decide
  have h2 : cmpP ([109, 46, 114, 111, 111, 109, 46, 112, 111, 119, 101, 114, 95, 108, 101, 118, 101, 108, 115], []) ([109, 46, 114, 111, 111, 109, 46, 99, 114, 101, 97, 116, 101], []) = 1 := by decide
  have h3 : cmpP ([109, 46, 114, 111, 111, 109, 46, 112, 111, 119, 101, 114, 95, 108, 101, 118, 101, 108, 115], []) ([109, 46, 114, 111, 111, 109, 46, 109, 101, 109, 98, 101, 114], s) = 1 := by unfold cmpP; rw [if_neg (show ¬ Lib.compareBytes [109, 46, 114, 111, 111, 109, 46, 112, 111, 119, 101, 114, 95, 108, 101, 118, 101, 108, 115] [109, 46, 114, 111, 111, 109, 46, 109, 101, 109, 98, 101, 114] = 0 by decide)]; show Lib.compareBytes [109, 46, 114, 111, 111, 109, 46, 112, 111, 119, 101, 114, 95, 108, 101, 118, 101, 108, 115] [109, 46, 114, 111, 111, 109, 46, 109, 101, 109, 98, 101, 114] = 1; decide
  unfold baseP
  refine List.pairwise_cons.2 ⟨fun a ha => ?_, List.pairwise_cons.2 ⟨fun a ha => ?_, List.pairwise_singleton _ _⟩⟩
  · simp only [List.mem_cons, List.not_mem_nil, or_false] at ha
    rcases ha with rfl | rfl
    · rw [lt_cmpP, h1]; rfl
    · rw [lt_cmpP, h2]; rfl
  · simp only [List.mem_cons, List.not_mem_nil, or_false] at ha
    subst ha
    rw [lt_cmpP, h3]; rfl
theorem baseP_apart (s : List UInt8) : Apart (baseP s) := fun i hi => by
  have hi2 : i < 2 := by
    have h3 : i + 1 < 3 := hi
    omega
  match i, hi2 with
  | 0, _ => intro h; exact absurd (congrArg Prod.fst h) (show ¬ ([109, 46, 114, 111, 111, 109, 46, 99, 114, 101, 97, 116, 101] : List UInt8) = [109, 46, 114, 111, 111, 109, 46, 109, 101, 109, 98, 101, 114] by decide)
  | 1, _ => intro h; exact absurd (congrArg Prod.fst h) (show ¬ ([109, 46, 114, 111, 111, 109, 46, 109, 101, 109, 98, 101, 114] : List UInt8) = [109, 46, 114, 111, 111, 109, 46, 112, 111, 119, 101, 114, 95, 108, 101, 118, 101, 108, 115] by decide)
set_option maxHeartbeats 4000000 in
theorem needed_other (s t : List UInt8) (c0 c3 c4 c5 c6 c7 c8 c9 c10 c11 c12 c13 c14 c15 c16 : Value) (w : World) (h1 : t ≠ [109, 46, 114, 111, 111, 109, 46, 99, 114, 101, 97, 116, 101]) (h2 : t ≠ [109, 46, 114, 111, 111, 109, 46, 109, 101, 109, 98, 101, 114]) :
    Calls Tryd.prog 8 #[.agg #[c0, .string ⟨s.toArray⟩, .string ⟨t.toArray⟩, c3, c4, c5, c6, c7, c8, c9, c10, c11, c12, c13, c14, c15, c16]] w (PairPost (baseP s) w) := by
  have HX := Lib.hid (Blk.new w [c0, .string ⟨s.toArray⟩, .string ⟨t.toArray⟩, c3, c4, c5, c6, c7, c8, c9, c10, c11, c12, c13, c14, c15, c16] 29)
  have HB := Lib.hid (show Below w.heap.size w (w.alloc (.cells #[c0, .string ⟨s.toArray⟩, .string ⟨t.toArray⟩, c3, c4, c5, c6, c7, c8, c9, c10, c11, c12, c13, c14, c15, c16] 29)) from (Below.refl _ _).alloc (Nat.le_refl _) _)
  have t1 : (t == [109, 46, 114, 111, 111, 109, 46, 99, 114, 101, 97, 116, 101]) = false := by rw [beq_eq_false_iff_ne]; exact h1
  have t2 : (t == [109, 46, 114, 111, 111, 109, 46, 109, 101, 109, 98, 101, 114]) = false := by rw [beq_eq_false_iff_ne]; exact h2
  have d1 := HX.out.cell (k := 1) rfl
  have d2 := HX.out.cell (k := 2) rfl
  clear h1 h2
  go_enter Tryd.func8, Tryd.ntmps8
  go_upto_region 4 with fail
  refine wp_gen (fun W => Blk W (w.heap.size + 1) 35 [.string ⟨#[109, 46, 114, 111, 111, 109, 46, 99, 114, 101, 97, 116, 101]⟩, .string ⟨#[]⟩, .string ⟨#[109, 46, 114, 111, 111, 109, 46, 112, 111, 119, 101, 114, 95, 108, 101, 118, 101, 108, 115]⟩, .string ⟨#[]⟩, .string ⟨#[109, 46, 114, 111, 111, 109, 46, 109, 101, 109, 98, 101, 114]⟩, .string ⟨s.toArray⟩] ∧ Blk W w.heap.size 29 [c0, .string ⟨s.toArray⟩, .string ⟨t.toArray⟩, c3, c4, c5, c6, c7, c8, c9, c10, c11, c12, c13, c14, c15, c16] ∧ Below w.heap.size w W) ⟨blk_atP _ 35 (by simp), HX.out.alloc _, HB.out.alloc (by simp) _⟩ ?_
  clear d1 d2 HX HB
  rintro w1 ⟨g1, g2, g3⟩
  have d1 := g2.cell (k := 1) rfl
  have d2 := g2.cell (k := 2) rfl
  have HR := Lib.hid g1
  have HB := Lib.hid g3
  have HS := Lib.hid (sortP_calls (w.heap.size + 1) 3 #[([109, 46, 114, 111, 111, 109, 46, 99, 114, 101, 97, 116, 101], []), ([109, 46, 114, 111, 111, 109, 46, 112, 111, 119, 101, 114, 95, 108, 101, 118, 101, 108, 115], []), ([109, 46, 114, 111, 111, 109, 46, 109, 101, 109, 98, 101, 114], s)] w1 (holds_blk g1) g1.lt (by show 3 ≤ 1000000; decide))
  clear g1 g2 g3
  go_wp2_with fail
  refine HS.out.mono ?_
  rintro e w2 ⟨rfl, n, os, hw2⟩
  have hh := sortP_holds (n := n) (os := os) (holds_blk (p := ([109, 46, 114, 111, 111, 109, 46, 99, 114, 101, 97, 116, 101], [])) (q := ([109, 46, 114, 111, 111, 109, 46, 112, 111, 119, 101, 114, 95, 108, 101, 118, 101, 108, 115], [])) (r := ([109, 46, 114, 111, 111, 109, 46, 109, 101, 109, 98, 101, 114], s)) HR.out) HR.out.lt
  have hb2 := sortW_below (enc := encP) (k := 2) (n := n) (d := (sortP (#[([109, 46, 114, 111, 111, 109, 46, 99, 114, 101, 97, 116, 101], []), ([109, 46, 114, 111, 111, 109, 46, 112, 111, 119, 101, 114, 95, 108, 101, 118, 101, 108, 115], []), ([109, 46, 114, 111, 111, 109, 46, 109, 101, 109, 98, 101, 114], s)] : Array Pr).toList).toArray) (os := os) (w := w1) (blk := w.heap.size + 1) (off := 0) (B := w.heap.size) (by omega) HR.out.lt
  rw [← hw2] at hh hb2
  have he : (sortP (#[([109, 46, 114, 111, 111, 109, 46, 99, 114, 101, 97, 116, 101], []), ([109, 46, 114, 111, 111, 109, 46, 112, 111, 119, 101, 114, 95, 108, 101, 118, 101, 108, 115], []), ([109, 46, 114, 111, 111, 109, 46, 109, 101, 109, 98, 101, 114], s)] : Array Pr).toList) = baseP s := baseP_sort s
  rw [he] at hh
  have HP := Lib.hid (prow_holds hh)
  have HB2 := Lib.hid (HB.out.trans hb2)
  have HL := Lib.hid (show w.heap.size + 1 < w2.heap.size by have := hb2.size; have := HR.out.lt; omega)
  have HC := Lib.hid (compact_apart (w.heap.size + 1) 3 3 (baseP s) w2 HP.out rfl (by show 3 ≤ _; decide) (Nat.le_refl _) HL.out (baseP_apart s))
  clear hh hb2 hw2 he d1 d2
  go_wp2_with fail
  refine HC.out.mono ?_
  rintro e w3 ⟨rfl, b3⟩
  have HF := Lib.hid (And.intro (HP.out.below b3 HL.out) (And.intro (HB2.out.then_ b3) (show w.heap.size + 1 < w3.heap.size by have := b3.size; have := HL.out; omega)))
  clear b3
  go_wp2_with fail
  go_ret
  exact ⟨⟨w.heap.size + 1, 3, rfl, by omega, HF.out.2.2, Nat.le_refl _, by decide, HF.out.1⟩, HF.out.2.1⟩
end Go.Proofs.YtpleminoiodmgaaDoor
namespace Go.Proofs.YtpleminoiodmgaaDoor
open Go.ChangeShapes Go.WideShapes Go.ChangeAt Go.RowKit Go.IntWalk
set_option linter.unusedVariables false

/-- A slot in a block of its own, and the load of one. -/
theorem size_slot : (Tryd.prog.info? 52).map (·.size) = some 3 := by kernel_rfl
theorem size_pair : (Tryd.prog.info? 35).map (·.size) = some 2 := by kernel_rfl
set_option maxHeartbeats 1000000 in
theorem closure_calls (s : Slt) (p : Pr) (w : World) : Calls Tryd.prog 56 #[s.val, prV p] w fun e w' => e = .returned (.int .i64 (cmpP s.pr p)) ∧ Below w.heap.size w w' := by
  obtain ⟨t, k, i⟩ := s
  obtain ⟨c, d⟩ := p
  unfold Slt.val prV
  dsimp only
  go_enter Tryd.func56, Tryd.ntmps56
  go_upto_region 1 with fail
  have hs : Blk ((w.alloc (.cells #[.string ⟨t.toArray⟩, .string ⟨k.toArray⟩, .string ⟨i.toArray⟩] 52)).alloc (.cells #[.string ⟨c.toArray⟩, .string ⟨d.toArray⟩] 35)) w.heap.size 52 [.string ⟨t.toArray⟩, .string ⟨k.toArray⟩, .string ⟨i.toArray⟩] := (Blk.new w _ _).alloc _
  have hp : Blk ((w.alloc (.cells #[.string ⟨t.toArray⟩, .string ⟨k.toArray⟩, .string ⟨i.toArray⟩] 52)).alloc (.cells #[.string ⟨c.toArray⟩, .string ⟨d.toArray⟩] 35)) (w.heap.size + 1) 35 [.string ⟨c.toArray⟩, .string ⟨d.toArray⟩] := by have := Blk.new (w.alloc (.cells #[.string ⟨t.toArray⟩, .string ⟨k.toArray⟩, .string ⟨i.toArray⟩] 52)) [.string ⟨c.toArray⟩, .string ⟨d.toArray⟩] 35; simpa using this
  have hB := below2 w (.cells #[.string ⟨t.toArray⟩, .string ⟨k.toArray⟩, .string ⟨i.toArray⟩] 52) (.cells #[.string ⟨c.toArray⟩, .string ⟨d.toArray⟩] 35)
  have HB := Lib.hid hB
  clear hB
  apply wp_region_ls (by kernel_rfl) (by kernel_rfl)
  apply ls_load 52 (.tmp 2) rfl w.heap.size 0 _ _ hs.rng hs.lt Tryd.underlying52 rfl size_slot rfl rfl
  simp only [Act.put, List.setIfInBounds_toArray, List.set_cons_succ, List.set_cons_zero]
  apply ls_callx (prV (t, k)) 57 #[Slt.val ⟨t, k, i⟩] rfl (by intro W; go_simp; rfl) (fun W => pairOf_calls ⟨t, k, i⟩ W)
  simp only [Act.put, List.setIfInBounds_toArray, List.set_cons_succ, List.set_cons_zero]
  apply ls_load 35 (.tmp 3) rfl (w.heap.size + 1) 0 _ _ hp.rng hp.lt Tryd.underlying35 rfl size_pair rfl rfl
  simp only [Act.put, List.setIfInBounds_toArray, List.set_cons_succ, List.set_cons_zero]
  apply ls_callx (.int .i64 (cmpP (t, k) (c, d))) 20 #[prV (t, k), prV (c, d)] rfl (by intro W; go_simp; rfl) (fun W => compare_calls _ _ W)
  simp only [Act.put, List.setIfInBounds_toArray, List.set_cons_succ, List.set_cons_zero]
  apply ls_assign (.int .i64 (cmpP (t, k) (c, d))) (.tmp 8) rfl rfl rfl
  simp only [Act.put, List.setIfInBounds_toArray, List.set_cons_succ, List.set_cons_zero]
  refine ls_nil (Rs := []) ?_
  intro w4 b4
  have hfin := HB.out.then_ b4
  clear hs hp b4
  go_wp2_with fail
  go_ret
  exact ⟨rfl, hfin⟩
end Go.Proofs.YtpleminoiodmgaaDoor
