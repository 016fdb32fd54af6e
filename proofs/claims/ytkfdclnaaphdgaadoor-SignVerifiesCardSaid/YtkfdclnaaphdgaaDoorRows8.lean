/- A slice of slices of bytes among a law's parameters: what it reads. No function is named. -/
import Derived.Test.YtkfdclnaaphdgaaDoorAid
import Derived.WalkKit
import Derived.ProofKit
import Derived.OpenShut
import Derived.Deep.Slices
namespace Go.Proofs.YtkfdclnaaphdgaaDoor
open Go.ChangeShapes Go.WideShapes Go.ChangeAt Go.RowKit
set_option linter.unusedVariables false

/-- The slice at 'A' reads slices of bytes, bss. -/
def RBs (w : World) (A : Option Addr) (bss : List (List UInt8)) : Prop :=
  ∀ k, k < bss.length → ∃ b off Ak nk ck, A = some ⟨b, off, none⟩ ∧ b < w.heap.size ∧ w.cell? ⟨b, off + k, none⟩ = some (.slice Ak nk ck) ∧ RB w Ak (bss.getD k []) ∧ Hid (nk = (bss.getD k []).length) ∧ nk ≤ ck ∧ ck ≤ 2 ^ 47
theorem RBs.below {w w' : World} {A : Option Addr} {bss : List (List UInt8)} (h : RBs w A bss) (hb : Below w.heap.size w w') : RBs w' A bss := by
  intro k hk
  obtain ⟨b, off, Ak, nk, ck, rfl, hlt, hc, hr, hn⟩ := h k hk
  exact ⟨b, off, Ak, nk, ck, rfl, by have := hb.size; omega, (hb.cell (p := ⟨b, off + k, none⟩) hlt).trans hc, hr.below hb, hn⟩
def Own84 (w : World) (A : Option Addr) (n c : Nat) (bss : List (List UInt8)) : Prop := RBs w A bss ∧ Hid (n = bss.length) ∧ n ≤ c ∧ c ≤ 2 ^ 47
theorem rows_open {H : Type} {enc : TypeId × Value → H} {w : World} {base : Nat} {held : Bool} {A : Option Addr} {n c : Nat} {d : DataW H} {p : List MemPlace}
    (h : DataW.Trod enc Tryd.prog w base (fun _ => true) held 84 (.slice A n c) d p) (hwt : ∀ q ∈ d.weights Tryd.prog 84, q ≤ reachBytes) : ∃ bss, Own84 w A n c bss := by
  obtain ⟨fuel, hf⟩ := h
  have hb24 : Tryd.prog.bytesOf 25 = 24 := by kernel_rfl
  have hb1 : Tryd.prog.bytesOf 5 = 1 := by kernel_rfl
  have hrch : reachBytes < 2 ^ 47 := by decide
  rcases Deep.open_slice1 Tryd.underlying84 (by kernel_rfl) hf with ⟨hcs, _⟩ | ⟨a, len, cap, m, q, V, D, Pl, hcs, hb, hl, hm, hmm, hx, hall⟩
  · simp [Value.cells] at hcs
    obtain ⟨rfl, rfl, rfl⟩ := hcs
    exact ⟨[], fun k hk => absurd hk (by simp), rfl, Nat.le_refl _, by decide⟩
  · simp [Value.cells] at hcs
    obtain ⟨rfl, rfl, rfl⟩ := hcs
    simp only [if_true] at hmm
    subst hmm
    injection hx with hx _
    subst hx
    have hcap : m ≤ 2 ^ 47 := by
      have h1 := hwt (((List.range n).map D).length * 24 + ((List.range (m - n)).map fun j => D (n + j)).length * 24) (by simp [DataW.weights, Tryd.underlying84, hb24, Nat.add_mul])
      simp at h1
      omega
    have hin : ∀ i, i < n → ∀ q ∈ (D i).weights Tryd.prog 25, q ≤ reachBytes := by
      intro i hi q hq
      refine hwt q ?_
      have key : ∀ (l : List (DataW H)), D i ∈ l → q ∈ DataW.weightsAll Tryd.prog 25 l := by
        intro l
        induction l with
        | nil => intro h; cases h
        | cons x l ih =>
          intro h
          simp only [DataW.weightsAll, List.mem_append]
          rcases List.mem_cons.1 h with rfl | h
          · exact .inl hq
          · exact .inr (ih h)
      have := key ((List.range n).map D) (List.mem_map.2 ⟨i, List.mem_range.2 hi, rfl⟩)
      simp only [DataW.weights, Tryd.underlying84, List.mem_cons, List.mem_append]
      exact .inr (.inl this)
    have each : ∀ i, i < n → ∃ Ak nk ck, ∃ bs : List UInt8, V i = .slice Ak nk ck ∧ RB w Ak bs ∧ Hid (nk = bs.length) ∧ nk ≤ ck ∧ ck ≤ 2 ^ 47 := by
      intro i hi
      rcases open_ints Tryd.underlying25 Tryd.underlying5 (by kernel_rfl) (hall i (by omega)).2 with ⟨hcs, _⟩ | ⟨x, l, c, zs, hcs, _, hl2, hm2, hz, hd, hcell, hwz⟩
      · obtain ⟨bs, h1, h2, h3⟩ := rb_of_row (w := w) (a := none) (len := 0) (cap := 0) (zs := []) (.inl ⟨rfl, rfl, rfl, rfl⟩)
        exact ⟨none, 0, 0, bs, by simpa using hcs, h1, h2, h3, by decide⟩
      · obtain ⟨bs, h1, h2, h3⟩ := rb_of_row (.inr ⟨x, rfl, hl2, hm2, by simpa using hz, hcell, hwz⟩)
        refine ⟨some x, l, c, bs, by simpa using hcs, h1, h2, h3, ?_⟩
        injection hd with hd _
        have h4 := hin i hi (c * 1) (by
          rw [hd]
          simp [DataW.weights, Tryd.underlying25, hb1, lits]
          simp at hz
          left; omega)
        omega
    obtain ⟨y, hy⟩ : ∃ y : Nat → List UInt8, ∀ i, i < n → ∃ Ak nk ck, V i = .slice Ak nk ck ∧ RB w Ak (y i) ∧ Hid (nk = (y i).length) ∧ nk ≤ ck ∧ ck ≤ 2 ^ 47 := by
      have each2 : ∀ i, i < n → ∃ bs : List UInt8, ∃ Ak nk ck, V i = .slice Ak nk ck ∧ RB w Ak bs ∧ Hid (nk = bs.length) ∧ nk ≤ ck ∧ ck ≤ 2 ^ 47 := by
        intro i hi
        obtain ⟨Ak, nk, ck, bs, h⟩ := each i hi; exact ⟨bs, Ak, nk, ck, h⟩
      refine ⟨fun i => if hi : i < n then Classical.choose (each2 i hi) else [], fun i hi => ?_⟩
      simp only [dif_pos hi]
      exact Classical.choose_spec (each2 i hi)
    refine ⟨(List.range n).map y, fun k hk => ?_, Lib.hid (by simp), hl, hcap⟩
    have hk : k < n := by simpa using hk
    have h0 := (hall k (by omega)).1
    obtain ⟨b, off, spot⟩ := a
    have hspot : spot = none := by simpa [Addr.add] using World.cell?_spot (hall 0 (by omega)).1
    subst hspot
    obtain ⟨Ak, nk, ck, e, h1, h2, h3, h4⟩ := hy k hk
    rw [Go.WideShapes.add_plain, e] at h0
    have eg : ((List.range n).map y).getD k [] = y k := by simp [List.getD, hk]
    rw [eg]
    exact ⟨b, off, Ak, nk, ck, rfl, World.block_lt_of_cell? w _ h0, h0, h1, h2, h3, h4⟩
end Go.Proofs.YtkfdclnaaphdgaaDoor
