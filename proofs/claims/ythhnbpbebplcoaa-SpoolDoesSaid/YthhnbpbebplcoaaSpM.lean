/- Layer 19: lists of texts, of truths, of calls among a law's parameters: what they read. No function is named. -/
import Derived.Test.YthhnbpbebplcoaaSpK
import Derived.Deep.Slices
import Derived.Lib.SmallJoins
namespace Go.Proofs.Ythhnbpbebplcoaa
open Go.ChangeShapes Go.WideShapes Go.ChangeAt Go.RowKit
set_option linter.unusedVariables false

section
variable {H : Type} {enc : TypeId × Value → H} {w : World} {base : Nat} {held : Bool}
theorem one_open {α : Type} (f : α → Value) (Q : α → Prop) {t e : TypeId} (ht : Try.prog.underlying t = some (.slice e)) (hc : Try.prog.cellsOf e = 1)
    (hel : ∀ {n V x}, DataW.trod enc Try.prog w base (fun _ => true) held n e [V] = some x → (∀ q ∈ x.1.weights Try.prog e, q ≤ reachBytes) → ∃ y, V = f y ∧ Q y) {A : Option Addr} {n c : Nat} {d : DataW H} {p : List MemPlace}
    (h : DataW.Trod enc Try.prog w base (fun _ => true) held t (.slice A n c) d p) (hby : 1 ≤ Try.prog.bytesOf e) (hwt : ∀ q ∈ d.weights Try.prog t, q ≤ reachBytes) : ∃ xs : List α, RV w A (xs.map f) ∧ Hid (n = xs.length) ∧ n ≤ c ∧ c ≤ 2 ^ 47 ∧ ∀ x ∈ xs, Q x := by
  obtain ⟨fuel, hf⟩ := h
  have hrch : reachBytes < 2 ^ 47 := by decide
  rcases Deep.open_slice1 ht hc hf with ⟨hcs, _⟩ | ⟨a, len, cap, m, q, V, D, Pl, hcs, hb, hl, hm, hmm, hx, hall⟩
  · simp [Value.cells] at hcs
    obtain ⟨rfl, rfl, rfl⟩ := hcs
    exact ⟨[], RV.nil _ _, Lib.hid rfl, Nat.le_refl _, by decide, by simp⟩
  · simp [Value.cells] at hcs
    obtain ⟨rfl, rfl, rfl⟩ := hcs
    simp only [if_true] at hmm
    subst hmm
    injection hx with hx _
    subst hx
    have hcap : m ≤ 2 ^ 47 := by
      have h1 := hwt ((((List.range n).map D).length + ((List.range (m - n)).map fun j => D (n + j)).length) * Try.prog.bytesOf e) (by simp [DataW.weights, ht])
      have h2 : ((List.range n).map D).length + ((List.range (m - n)).map fun j => D (n + j)).length = m := by simp; omega
      rw [h2] at h1
      have h3 : m * 1 ≤ m * Try.prog.bytesOf e := Nat.mul_le_mul_left m hby
      omega
    have each : ∀ i, i < n → ∃ y : α, w.cell? (a.add i) = some (f y) ∧ Q y := by
      intro i hi
      obtain ⟨h1, h2⟩ := hall i (by omega)
      obtain ⟨y, e, hq⟩ := hel h2 (fun q hq => by
        refine hwt q ?_
        have key : ∀ (l : List (DataW H)), D i ∈ l → q ∈ DataW.weightsAll Try.prog e l := by
          intro l
          induction l with
          | nil => intro h; cases h
          | cons x l ih =>
            intro h
            simp only [DataW.weightsAll, List.mem_append]
            rcases List.mem_cons.1 h with rfl | h
            · exact .inl hq
            · exact .inr (ih h)
        have := key ((List.range n).map D) (List.mem_map.2 ⟨i, List.mem_range.2 hi, rfl⟩)
        simp only [DataW.weights, ht, List.mem_cons, List.mem_append]
        exact .inr (.inl this))
      exact ⟨y, by rw [h1, e], hq⟩
    have hmk : ∀ k, k ≤ n → ∃ xs : List α, xs.length = k ∧ (∀ i, i < k → ∃ y, xs[i]? = some y ∧ w.cell? (a.add i) = some (f y)) ∧ ∀ x ∈ xs, Q x := by
      intro k
      induction k with
      | zero => exact fun _ => ⟨[], rfl, fun i hi => absurd hi (by omega), by simp⟩
      | succ k ih =>
        intro hk
        obtain ⟨xs, h1, h2, h3⟩ := ih (by omega)
        obtain ⟨y, h4, h5⟩ := each k (by omega)
        refine ⟨xs ++ [y], by simp [h1], fun i hi => ?_, ?_⟩
        · by_cases hik : i < k
          · obtain ⟨z, h6, h7⟩ := h2 i hik
            exact ⟨z, by rw [List.getElem?_append_left (by omega)]; exact h6, h7⟩
          · obtain rfl : i = k := by omega
            exact ⟨y, by rw [List.getElem?_append_right (by omega), h1]; simp, h4⟩
        · intro x hx
          rcases List.mem_append.1 hx with hx | hx
          · exact h3 x hx
          · rw [List.mem_singleton.1 hx]; exact h5
    obtain ⟨xs, h1, h2, h3⟩ := hmk n (Nat.le_refl _)
    refine ⟨xs, fun k u hu => ?_, Lib.hid h1.symm, hl, hcap, h3⟩
    obtain ⟨b, off, spot⟩ := a
    have hk : k < n := by
      have := (List.getElem?_eq_some_iff.1 hu).1
      simp at this; omega
    obtain ⟨y, e1, e2⟩ := h2 k hk
    have hspot : spot = none := by
      obtain ⟨y0, _, e0⟩ := h2 0 (by omega)
      simpa [Addr.add] using World.cell?_spot e0
    subst hspot
    have hplain : (⟨b, off, none⟩ : Addr).add k = ⟨b, off + k, none⟩ := by unfold Addr.add; split <;> simp_all
    have e3 : w.cell? ⟨b, off + k, none⟩ = some (f y) := by rw [← hplain]; exact e2
    refine ⟨b, off, rfl, World.block_lt_of_cell? w _ e3, ?_⟩
    rw [e3]
    rw [List.getElem?_map, e1] at hu
    exact hu
end
/-- The slice at 'A' reads texts. -/
def Own34 (w : World) (A : Option Addr) (n c : Nat) (xs : List (List UInt8)) : Prop := RV w A (xs.map strV) ∧ Hid (n = xs.length) ∧ n ≤ c ∧ c ≤ 2 ^ 47 ∧ ∀ x ∈ xs, x.length ≤ 140737488355328
/-- The slice at 'A' reads truths. -/
def Own44 (w : World) (A : Option Addr) (n c : Nat) (xs : List Bool) : Prop := RV w A (xs.map Value.bool) ∧ Hid (n = xs.length) ∧ n ≤ c ∧ c ≤ 2 ^ 47
theorem strs_open {H : Type} {enc : TypeId × Value → H} {w : World} {base : Nat} {held : Bool} {A : Option Addr} {n c : Nat} {d : DataW H} {p : List MemPlace}
    (h : DataW.Trod enc Try.prog w base (fun _ => true) held 34 (.slice A n c) d p) (hwt : ∀ q ∈ d.weights Try.prog 34, q ≤ reachBytes) : ∃ xs, Own34 w A n c xs := by
  refine one_open strV (fun x => x.length ≤ 140737488355328) Try.underlying34 (by kernel_rfl) (fun {n V x} hx hw => ?_) h (by decide +kernel) hwt
  obtain ⟨s, hs, rfl, hl⟩ := DataW.trod_string Try.underlying9 hx
  obtain ⟨l, rfl, hsl⟩ := str_split s
  injection hs with hs _
  refine ⟨l, hs, ?_⟩
  have h1 := hw l.length (by simp [DataW.weights])
  have hrch : reachBytes < 2 ^ 47 := by decide
  omega
theorem bools_open {H : Type} {enc : TypeId × Value → H} {w : World} {base : Nat} {held : Bool} {A : Option Addr} {n c : Nat} {d : DataW H} {p : List MemPlace}
    (h : DataW.Trod enc Try.prog w base (fun _ => true) held 44 (.slice A n c) d p) (hwt : ∀ q ∈ d.weights Try.prog 44, q ≤ reachBytes) : ∃ xs, Own44 w A n c xs := by
  obtain ⟨xs, h1, h2, h3, h5, _⟩ := one_open Value.bool (fun _ => True) Try.underlying44 (by kernel_rfl) (fun {n V x} hx _ => by
    obtain ⟨b, hb, _⟩ := DataW.trod_bool Try.underlying4 hx
    injection hb with hb _
    exact ⟨b, hb, trivial⟩) h (by decide +kernel) hwt
  exact ⟨xs, h1, h2, h3, h5⟩
/-- A call of a script. -/
structure Cal where
  kd : Int
  n : Int
  k : Int
  s : List UInt8
def Cal.cells (c : Cal) : List Value := [.int .i64 c.kd, .int .i64 c.n, .int .i64 c.k, strV c.s]
def Cal.ok (c : Cal) : Prop := (-9223372036854775808 ≤ c.n ∧ c.n ≤ 9223372036854775807) ∧ (-9223372036854775808 ≤ c.k ∧ c.k ≤ 9223372036854775807) ∧ c.s.length ≤ 140737488355328
/-- The slice at 'A' reads calls. -/
def Own22 (w : World) (A : Option Addr) (n c : Nat) (xs : List Cal) : Prop :=
  (∀ k, ∀ h : k < xs.length, (xs[k]).ok ∧ ∃ b off, A = some ⟨b, off, none⟩ ∧ b < w.heap.size ∧ w.rangeAt b (off + k * 4) (xs[k]).cells) ∧ Hid (n = xs.length) ∧ n ≤ c ∧ c ≤ 9223372036854775807
theorem calls_open {H : Type} {enc : TypeId × Value → H} {w : World} {base : Nat} {held : Bool} {A : Option Addr} {n c : Nat} {d : DataW H} {p : List MemPlace}
    (h : DataW.Trod enc Try.prog w base (fun _ => true) held 22 (.slice A n c) d p) (hwt : ∀ q ∈ d.weights Try.prog 22, q ≤ reachBytes) : ∃ xs, Own22 w A n c xs := by
  obtain ⟨fuel, hf⟩ := h
  have h4 : Try.prog.cellsOf 30 = 4 := by kernel_rfl
  rcases Deep.open_slice Try.underlying22 hf with ⟨hcs, _⟩ | ⟨a, len, cap, m, q, D, Pl, hcs, hb, hl, hm, hmm, hx, hall⟩
  · simp [Value.cells] at hcs
    obtain ⟨rfl, rfl, rfl⟩ := hcs
    exact ⟨[], fun k hk => absurd hk (by simp), Lib.hid rfl, Nat.le_refl _, by decide⟩
  · simp [Value.cells] at hcs
    obtain ⟨rfl, rfl, rfl⟩ := hcs
    simp only [if_true] at hmm
    subst hmm
    rw [h4] at hall
    injection hx with hx _
    subst hx
    have hrch : reachBytes < 2 ^ 47 := by decide
    have each : ∀ i, i < n → ∃ y : Cal, y.ok ∧ ∀ j, j < 4 → w.cell? ((a.add (i * 4)).add j) = y.cells[j]? := by
      intro i hi
      obtain ⟨cs, h1, h2⟩ := hall i (by omega)
      obtain ⟨_, hlen, hc⟩ := World.cells?_some h1
      obtain ⟨y0, y1, y2, y3, m4, hD4, _, t0, t1, t2, t3⟩ := Go.Joins.trod_struct4 Try.underlying30 h2
      have hci : Try.prog.cellsOf 3 = 1 := by kernel_rfl
      have hcs : Try.prog.cellsOf 9 = 1 := by kernel_rfl
      obtain ⟨z0, e0, _, w0⟩ := DataW.trod_int (k := .i64) Try.underlying3 t0
      obtain ⟨z1, e1, _, w1⟩ := DataW.trod_int (k := .i64) Try.underlying3 t1
      obtain ⟨z2, e2, _, w2⟩ := DataW.trod_int (k := .i64) Try.underlying3 t2
      obtain ⟨s3, e3, q3, w3⟩ := DataW.trod_string Try.underlying9 t3
      obtain ⟨l, rfl, hsl⟩ := str_split s3
      have w3 : l.length ≤ 140737488355328 := by
        have hin : l.length ∈ (D i).weights Try.prog 30 := by
          injection hD4 with hD4 _
          rw [hD4, q3]
          simp [DataW.weights, Try.underlying30, DataW.weightsEach]
        have key : ∀ (L : List (DataW H)), D i ∈ L → l.length ∈ DataW.weightsAll Try.prog 30 L := by
          intro L
          induction L with
          | nil => intro h; cases h
          | cons x L ih =>
            intro h
            simp only [DataW.weightsAll, List.mem_append]
            rcases List.mem_cons.1 h with rfl | h
            · exact .inl hin
            · exact .inr (ih h)
        have h9 := key ((List.range n).map D) (List.mem_map.2 ⟨i, List.mem_range.2 hi, rfl⟩)
        have h8 := hwt l.length (by
          simp only [DataW.weights, Try.underlying22, List.mem_cons, List.mem_append]
          exact .inr (.inl h9))
        omega
      dsimp only at e0 e1 e2 e3
      rw [hci] at e0 e1 e2
      rw [hcs] at e3
      have g : ∀ (k : Nat) (v : Value), (cs.drop k).take 1 = [v] → cs[k]? = some v := fun k v h => by
        have h5 := congrArg (fun q => q[0]?) h
        simpa [List.getElem?_take, List.getElem?_drop] using h5
      refine ⟨⟨z0, z1, z2, l⟩, ⟨bounds_i64 w1, bounds_i64 w2, w3⟩, fun j hj => ?_⟩
      rw [hc j hj]
      obtain rfl | rfl | rfl | rfl : j = 0 ∨ j = 1 ∨ j = 2 ∨ j = 3 := by omega
      · exact g 0 _ e0
      · exact g 1 _ e1
      · exact g 2 _ e2
      · exact g 3 _ e3
    obtain ⟨y, hy⟩ : ∃ y : Nat → Cal, ∀ i, i < n → (y i).ok ∧ ∀ j, j < 4 → w.cell? ((a.add (i * 4)).add j) = (y i).cells[j]? :=
      ⟨fun i => if hi : i < n then Classical.choose (each i hi) else ⟨0, 0, 0, []⟩, fun i hi => by simp only [dif_pos hi]; exact Classical.choose_spec (each i hi)⟩
    refine ⟨(List.range n).map y, fun k hk => ?_, Lib.hid (by simp), hl, hm⟩
    have hk2 : k < n := by simpa using hk
    have eg : ((List.range n).map y)[k] = y k := by simp
    rw [eg]
    refine ⟨(hy k hk2).1, ?_⟩
    obtain ⟨b, off, spot⟩ := a
    have h00 := (hy 0 (by omega)).2 0 (by decide)
    have hspot : spot = none := by
      have h01 : (y 0).cells[0]? = some (.int .i64 (y 0).kd) := rfl
      rw [h01] at h00
      simpa [Addr.add] using World.cell?_spot h00
    subst hspot
    have hcell : ∀ j, j < 4 → w.cell? ⟨b, off + k * 4 + j, none⟩ = (y k).cells[j]? := fun j hj => by
      have h5 := (hy k hk2).2 j hj
      have hplain : ((⟨b, off, none⟩ : Addr).add (k * 4)).add j = ⟨b, off + k * 4 + j, none⟩ := by
        unfold Addr.add; split <;> split <;> simp_all
      rwa [hplain] at h5
    have h0 : w.cell? ⟨b, off + k * 4 + 0, none⟩ = some (.int .i64 (y k).kd) := hcell 0 (by decide)
    refine ⟨b, off, rfl, World.block_lt_of_cell? w _ h0, fun j v hj => ?_⟩
    have hj4 : j < 4 := (List.getElem?_eq_some_iff.1 hj).1
    rw [hcell j hj4]
    exact hj
end Go.Proofs.Ythhnbpbebplcoaa
