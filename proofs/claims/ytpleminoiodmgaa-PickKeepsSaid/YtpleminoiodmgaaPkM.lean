/- Layer 16: slots in memory; what a law's parameters of slots read. No function is named. -/
import Derived.Test.YtpleminoiodmgaaPkZ
import Derived.Test.YtpleminoiodmgaaPkA
import Derived.Deep.Slices
import Derived.Deep.Strs
namespace Go.Proofs.Ytpleminoiodmgaa
open Go.ChangeShapes Go.WideShapes Go.ChangeAt Go.RowKit
set_option linter.unusedVariables false

def strV (l : List UInt8) : Value := .string ⟨l.toArray⟩
def Slt.cells (s : Slt) : List Value := [strV s.t, strV s.k, strV s.i]
def Slt.ok (s : Slt) : Prop := s.t.length ≤ 140737488355328 ∧ s.k.length ≤ 140737488355328 ∧ s.i.length ≤ 140737488355328
/-- A slot, a pair by value. -/
def Slt.val (s : Slt) : Value := .agg #[.string ⟨s.t.toArray⟩, .string ⟨s.k.toArray⟩, .string ⟨s.i.toArray⟩]
def prV (p : Pr) : Value := .agg #[.string ⟨p.1.toArray⟩, .string ⟨p.2.toArray⟩]
def slC (l : List Slt) : List Value := l.flatMap Slt.cells
theorem slC_cons (s : Slt) (l : List Slt) : slC (s :: l) = s.cells ++ slC l := rfl
theorem slC_app (l m : List Slt) : slC (l ++ m) = slC l ++ slC m := List.flatMap_append
theorem slC_len : ∀ l : List Slt, (slC l).length = l.length * 3
  | [] => rfl
  | s :: l => by rw [slC_cons, List.length_append, slC_len l, List.length_cons]; show 3 + _ = _; omega
theorem slC_get : ∀ {l : List Slt} {i j : Nat} (hi : i < l.length) (hj : j < 3), (slC l)[i * 3 + j]? = (l[i]).cells[j]?
  | s :: l, 0, j, hi, hj => by rw [slC_cons, List.getElem?_append_left (by show _ < 3; omega)]; simp
  | s :: l, i + 1, j, hi, hj => by
    rw [slC_cons, List.getElem?_append_right (by show 3 ≤ _; omega), show (i + 1) * 3 + j - s.cells.length = i * 3 + j by show _ - 3 = _; omega, slC_get (by simpa using hi) hj]; rfl
theorem slC_of {l : List Slt} {q : Nat} {v : Value} (h : (slC l)[q]? = some v) : ∃ i j, ∃ hi : i < l.length, j < 3 ∧ q = i * 3 + j ∧ (l[i]).cells[j]? = some v := by
  have hq : q < (slC l).length := (List.getElem?_eq_some_iff.1 h).1
  rw [slC_len] at hq
  have hi : q / 3 < l.length := by omega
  refine ⟨q / 3, q % 3, hi, by omega, by omega, ?_⟩
  rw [← slC_get hi (by omega), show q / 3 * 3 + q % 3 = q by omega]
  exact h
theorem slC_take (l : List Slt) (i : Nat) : (slC l).take (i * 3) = slC (l.take i) := by
  induction l generalizing i with
  | nil => simp [slC]
  | cons s l ih =>
    cases i with
    | zero => simp [slC]
    | succ i =>
      rw [slC_cons, List.take_succ_cons, slC_cons, List.take_append, List.take_of_length_le (by show 3 ≤ _; omega), show (i + 1) * 3 - s.cells.length = i * 3 by show _ - 3 = _; omega, ih]
theorem slC_drop (l : List Slt) (i : Nat) : (slC l).drop (i * 3) = slC (l.drop i) := by
  induction l generalizing i with
  | nil => simp [slC]
  | cons s l ih =>
    cases i with
    | zero => simp
    | succ i =>
      rw [slC_cons, List.drop_succ_cons, List.drop_append, List.drop_of_length_le (by show 3 ≤ _; omega), show (i + 1) * 3 - s.cells.length = i * 3 by show _ - 3 = _; omega, ih]; rfl
theorem slC_one (l : List Slt) : ∀ v ∈ slC l, v.oneCell' = true := by
  intro v hv
  obtain ⟨s, _, hs⟩ := List.mem_flatMap.1 hv
  simp only [Slt.cells, List.mem_cons, List.not_mem_nil, or_false] at hs
  rcases hs with rfl | rfl | rfl <;> rfl
/-- A slot of a slice of slots. -/
theorem slots_at {w : World} {A : Option Addr} {xs : List Slt} (h : RV w A (slC xs)) {k : Nat} (hk : k < xs.length) : ∃ b off, A = some ⟨b, off, none⟩ ∧ b < w.heap.size ∧
    w.cell? ⟨b, off + k * 3, none⟩ = some (.string ⟨(xs[k]).t.toArray⟩) ∧ w.cell? ⟨b, off + k * 3 + 1, none⟩ = some (.string ⟨(xs[k]).k.toArray⟩) ∧ w.cell? ⟨b, off + k * 3 + 2, none⟩ = some (.string ⟨(xs[k]).i.toArray⟩) := by
  obtain ⟨b, off, rfl, hb, h0⟩ := h (k * 3 + 0) (strV (xs[k]).t) (by rw [slC_get hk (by decide)]; rfl)
  obtain ⟨b1, off1, e1, _, h1⟩ := h (k * 3 + 1) (strV (xs[k]).k) (by rw [slC_get hk (by decide)]; rfl)
  obtain ⟨b2, off2, e2, _, h2⟩ := h (k * 3 + 2) (strV (xs[k]).i) (by rw [slC_get hk (by decide)]; rfl)
  injection e1 with e1; injection e1 with e1 e3
  injection e2 with e2; injection e2 with e2 e4
  subst e1; subst e2; subst e3; subst e4
  exact ⟨b, off, rfl, hb, h0, h1, h2⟩
/-- The slice at 'A' reads slots. -/
def Own22 (w : World) (A : Option Addr) (n c : Nat) (xs : List Slt) : Prop := RV w A (slC xs) ∧ Hid (n = xs.length) ∧ n ≤ c ∧ c ≤ 9223372036854775807 ∧ ∀ x ∈ xs, x.ok
abbrev Sls := @Own22
theorem Sls.below {w w' : World} {A : Option Addr} {n c : Nat} {xs : List Slt} (h : Sls w A n c xs) (hb : Below w.heap.size w w') : Sls w' A n c xs := ⟨h.1.below hb, h.2⟩
theorem slots_open {H : Type} {enc : TypeId × Value → H} {w : World} {base : Nat} {held : Bool} {A : Option Addr} {n c : Nat} {d : DataW H} {p : List MemPlace}
    (h : DataW.Trod enc Try.prog w base (fun _ => true) held 22 (.slice A n c) d p) (hwt : ∀ q ∈ d.weights Try.prog 22, q ≤ reachBytes) : ∃ xs, Own22 w A n c xs := by
  obtain ⟨fuel, hf⟩ := h
  have h4 : Try.prog.cellsOf 24 = 3 := by kernel_rfl
  rcases Deep.open_slice Try.underlying22 hf with ⟨hcs, _⟩ | ⟨a, len, cap, m, q, D, Pl, hcs, hb, hl, hm, hmm, hx, hall⟩
  · simp [Value.cells] at hcs
    obtain ⟨rfl, rfl, rfl⟩ := hcs
    exact ⟨[], RV.nil _ _, Lib.hid rfl, Nat.le_refl _, by decide, by simp⟩
  · simp [Value.cells] at hcs
    obtain ⟨rfl, rfl, rfl⟩ := hcs
    simp only [if_true] at hmm
    subst hmm
    rw [h4] at hall
    injection hx with hx _
    subst hx
    have hrch : reachBytes < 2 ^ 47 := by decide
    have each : ∀ i, i < n → ∃ y : Slt, y.ok ∧ ∀ j, j < 3 → w.cell? ((a.add (i * 3)).add j) = y.cells[j]? := by
      intro i hi
      obtain ⟨cs, h1, h2⟩ := hall i (by omega)
      obtain ⟨_, hlen, hc⟩ := World.cells?_some h1
      obtain ⟨y0, y1, y2, m4, hD4, _, t0, t1, t2⟩ := Deep.trod_struct3 Try.underlying24 h2
      have hcs : Try.prog.cellsOf 9 = 1 := by kernel_rfl
      obtain ⟨s0, e0, q0, w0⟩ := DataW.trod_string Try.underlying9 t0
      obtain ⟨s1, e1, q1, w1⟩ := DataW.trod_string Try.underlying9 t1
      obtain ⟨s2, e2, q2, w2⟩ := DataW.trod_string Try.underlying9 t2
      obtain ⟨l0, rfl, hs0⟩ := str_split s0
      obtain ⟨l1, rfl, hs1⟩ := str_split s1
      obtain ⟨l2, rfl, hs2⟩ := str_split s2
      have hin : ∀ L : List UInt8, (L = l0 ∨ L = l1 ∨ L = l2) → L.length ≤ 140737488355328 := by
        intro L hL
        have hin : L.length ∈ (D i).weights Try.prog 24 := by
          injection hD4 with hD4 _
          rw [hD4, q0, q1, q2]
          rcases hL with rfl | rfl | rfl <;> simp [DataW.weights, Try.underlying24, DataW.weightsEach]
        have key : ∀ (Q : List (DataW H)), D i ∈ Q → L.length ∈ DataW.weightsAll Try.prog 24 Q := by
          intro Q
          induction Q with
          | nil => intro h; cases h
          | cons x Q ih =>
            intro h
            simp only [DataW.weightsAll, List.mem_append]
            rcases List.mem_cons.1 h with rfl | h
            · exact .inl hin
            · exact .inr (ih h)
        have h9 := key ((List.range n).map D) (List.mem_map.2 ⟨i, List.mem_range.2 hi, rfl⟩)
        have h8 := hwt L.length (by
          simp only [DataW.weights, Try.underlying22, List.mem_cons, List.mem_append]
          exact .inr (.inl h9))
        omega
      dsimp only at e0 e1 e2
      rw [hcs] at e0 e1 e2
      have g : ∀ (k : Nat) (v : Value), (cs.drop k).take 1 = [v] → cs[k]? = some v := fun k v h => by
        have h5 := congrArg (fun q => q[0]?) h
        simpa [List.getElem?_take, List.getElem?_drop] using h5
      refine ⟨⟨l0, l1, l2⟩, ⟨hin _ (.inl rfl), hin _ (.inr (.inl rfl)), hin _ (.inr (.inr rfl))⟩, fun j hj => ?_⟩
      rw [hc j hj]
      obtain rfl | rfl | rfl : j = 0 ∨ j = 1 ∨ j = 2 := by omega
      · exact g 0 _ e0
      · exact g 1 _ e1
      · exact g 2 _ e2
    obtain ⟨y, hy⟩ : ∃ y : Nat → Slt, ∀ i, i < n → (y i).ok ∧ ∀ j, j < 3 → w.cell? ((a.add (i * 3)).add j) = (y i).cells[j]? :=
      ⟨fun i => if hi : i < n then Classical.choose (each i hi) else ⟨[], [], []⟩, fun i hi => by simp only [dif_pos hi]; exact Classical.choose_spec (each i hi)⟩
    refine ⟨(List.range n).map y, fun k v hk => ?_, Lib.hid (by simp), hl, hm, ?_⟩
    · obtain ⟨i, j, hi, hj, rfl, hv⟩ := slC_of hk
      have hi2 : i < n := by simpa using hi
      have eg : ((List.range n).map y)[i] = y i := by simp
      rw [eg] at hv
      obtain ⟨b, off, spot⟩ := a
      have h5 := (hy i hi2).2 j hj
      rw [hv] at h5
      have h00 := (hy 0 (by omega)).2 0 (by decide)
      have hspot : spot = none := by
        have h01 : (y 0).cells[0]? = some (strV (y 0).t) := rfl
        rw [h01] at h00
        simpa [Addr.add] using World.cell?_spot h00
      subst hspot
      have hplain : ((⟨b, off, none⟩ : Addr).add (i * 3)).add j = ⟨b, off + (i * 3 + j), none⟩ := by
        rw [← Nat.add_assoc]; unfold Addr.add; split <;> split <;> simp_all
      rw [hplain] at h5
      exact ⟨b, off, rfl, World.block_lt_of_cell? w _ h5, h5⟩
    · intro x hx
      obtain ⟨i, hi, rfl⟩ := List.mem_map.1 hx
      exact (hy i (List.mem_range.1 hi)).1
end Go.Proofs.Ytpleminoiodmgaa
