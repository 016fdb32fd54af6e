/- Layer 16: a slot by value among a law's parameters: opened, shut. No function is named. -/
import Derived.Test.YtpleminoiodmgaaPkM
namespace Go.Proofs.Ytpleminoiodmgaa
open Go.ChangeShapes Go.WideShapes Go.ChangeAt Go.RowKit
set_option linter.unusedVariables false

theorem open_slot {H : Type} {enc : TypeId × Value → H} {w W : World} {base b0 : Nat} {r : _} {spare : Nat → Bool} {held : Bool} {v : Value} {d : DataW H} {p : List MemPlace}
    (hv : Value.okWide Try.prog W r b0 24 v) (h : DataW.Trod enc Try.prog w base spare held 24 v d p) :
    ∃ s : Slt, v = s.val ∧ d = .agg [.lit (.string s.t), .lit (.string s.k), .lit (.string s.i)] ∧ p = [] := by
  unfold Value.okWide at hv
  rw [Try.underlying24] at hv
  obtain ⟨cs, rfl, hsz, _⟩ := hv
  obtain ⟨fuel, hf⟩ := h
  obtain ⟨y0, y1, y2, m4, hD4, _, t0, t1, t2⟩ := Deep.trod_struct3 Try.underlying24 hf
  have hcs : Try.prog.cellsOf 9 = 1 := by kernel_rfl
  have hc3 : Try.prog.cellsOf 24 = 3 := by kernel_rfl
  rw [hc3] at hsz
  obtain ⟨s0, e0, q0, w0⟩ := DataW.trod_string Try.underlying9 t0
  obtain ⟨s1, e1, q1, w1⟩ := DataW.trod_string Try.underlying9 t1
  obtain ⟨s2, e2, q2, w2⟩ := DataW.trod_string Try.underlying9 t2
  obtain ⟨l0, rfl, _⟩ := str_split s0
  obtain ⟨l1, rfl, _⟩ := str_split s1
  obtain ⟨l2, rfl, _⟩ := str_split s2
  dsimp only at e0 e1 e2
  rw [hcs] at e0 e1 e2
  obtain ⟨L⟩ := cs
  simp only [Value.cells, List.size_toArray] at e0 e1 e2 hsz
  match L, hsz with
  | [a, b, c], _ =>
    simp at e0 e1 e2
    injection hD4 with h1 h2
    refine ⟨⟨l0, l1, l2⟩, ?_, ?_, ?_⟩
    · unfold Slt.val; rw [e0, e1, e2]
    · rw [h1, q0, q1, q2]
    · rw [h2, q0, q1, q2]; rfl
theorem shut_slot {H : Type} {enc : TypeId × Value → H} {w : World} {base : Nat} {spare : Nat → Bool} {held : Bool} (s : Slt) (hs : s.ok) :
    DataW.Trod enc Try.prog w base spare held 24 s.val (.agg [.lit (.string s.t), .lit (.string s.k), .lit (.string s.i)]) [] := by
  have hcs : Try.prog.cellsOf 9 = 1 := by kernel_rfl
  have hc3 : Try.prog.cellsOf 24 = 3 := by kernel_rfl
  have h1 : ∀ l : List UInt8, l.length ≤ 140737488355328 → DataW.trod enc Try.prog w base spare held 1 9 [.string ⟨l.toArray⟩] = some (.lit (.string l), []) := fun l hl => by
    simp [DataW.trod, Try.underlying9]
    exact Nat.le_trans hl (by decide)
  refine ⟨2, ?_⟩
  exact Deep.trod_struct3_mk (n := 1) (y0 := (.lit (.string s.t), [])) (y1 := (.lit (.string s.k), [])) (y2 := (.lit (.string s.i), [])) Try.underlying24 (by rw [hc3]; rfl) (by rw [hcs]; exact h1 _ hs.1) (by rw [hcs]; exact h1 _ hs.2.1) (by rw [hcs]; exact h1 _ hs.2.2)
theorem slot_ok {H : Type} {s : Slt} (h : ∀ q ∈ (DataW.agg [.lit (.string s.t), .lit (.string s.k), .lit (.string s.i)] : DataW H).weights Try.prog 24, q ≤ reachBytes) : s.ok := by
  have hr : reachBytes < 2 ^ 47 := by decide
  have h1 : ∀ L : List UInt8, (L = s.t ∨ L = s.k ∨ L = s.i) → L.length ≤ 140737488355328 := fun L hL => by
    have := h L.length (by rcases hL with rfl | rfl | rfl <;> simp [DataW.weights, Try.underlying24, DataW.weightsEach])
    omega
  exact ⟨h1 _ (.inl rfl), h1 _ (.inr (.inl rfl)), h1 _ (.inr (.inr rfl))⟩
end Go.Proofs.Ytpleminoiodmgaa
