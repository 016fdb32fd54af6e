/- Slices of [32]byte, slices of int, among a law's parameters: what they read. No function is named. -/
import Derived.Test.YtpdoegfmngibgaaArr
import Derived.Test.YtpdoegfmngibgaaFdN
import Derived.Deep.Slices
namespace Go.Proofs.Ytpdoegfmngibgaa
open Go.ChangeShapes Go.WideShapes Go.ChangeAt Go.RowKit
set_option linter.unusedVariables false

section
variable {H : Type} {enc : TypeId × Value → H} {w W : World} {base : Nat} {spare : Nat → Bool} {held : Bool}
theorem arr8_cells {P : Program} {T E : TypeId} {n fuel : Nat} {cs : List Value} {x : DataW H × List MemPlace} (hu : P.underlying T = some (.array n E)) (he : P.underlying E = some (.int .u8)) (h1 : P.cellsOf E = 1) (hn : P.cellsOf T = n)
    (h : DataW.trod enc P w base spare held fuel T cs = some x) : ∃ bs : List UInt8, bs.length = n ∧ cs = bs.map cellB := by
  obtain ⟨xs, m, _, hx, hl, hxl, hall⟩ := DataW.trod_array hu h
  have hcl : cs.length = n := by rw [hl, hn]
  obtain ⟨bs, hbl, e1, e2⟩ := cells_of_pts (H := H) n cs xs hcl hxl (fun i hi => by
    have h2 := hall i hi
    rw [h1, Nat.mul_one] at h2
    have hi2 : i < cs.length := by omega
    have e : (cs.drop i).take 1 = [cs[i]] := by
      rw [List.drop_eq_getElem_cons hi2]; rfl
    have hxi : xs[i]? = some xs[i] := List.getElem?_eq_getElem (by omega)
    rw [e, hxi] at h2
    obtain ⟨z, hz, hx2, hwf⟩ := DataW.trod_int he h2
    obtain ⟨c, rfl⟩ := u8_of_wf hwf
    refine ⟨c, ?_, by rw [hxi, hx2]; rfl⟩
    rw [List.getElem?_eq_getElem hi2]
    simpa [cellB] using hz)
  exact ⟨bs, hbl, e1⟩
end
/-- The slice at 'A' reads arrays of 32 bytes. -/
def Own53 (w : World) (A : Option Addr) (n c : Nat) (xs : List (List UInt8)) : Prop :=
  (∀ k, k < xs.length → (xs.getD k []).length = 32 ∧ ∃ b off, A = some ⟨b, off, none⟩ ∧ b < w.heap.size ∧ w.rangeAt b (off + k * 32) (u8s (xs.getD k []))) ∧ Hid (n = xs.length) ∧ n ≤ c
/-- The slice at 'A' reads numbers. -/
def Own54 (w : World) (A : Option Addr) (n c : Nat) (zs : List Int) : Prop :=
  (∀ k, k < zs.length → ∃ b off, A = some ⟨b, off, none⟩ ∧ b < w.heap.size ∧ w.cell? ⟨b, off + k, none⟩ = some (.int .i64 (zs.getD k 0))) ∧ Hid (n = zs.length) ∧ n ≤ c
theorem arrs_open {H : Type} {enc : TypeId × Value → H} {w : World} {base : Nat} {held : Bool} {A : Option Addr} {n c : Nat} {d : DataW H} {p : List MemPlace}
    (h : DataW.Trod enc Try.prog w base (fun _ => true) held 53 (.slice A n c) d p) : ∃ xs, Own53 w A n c xs := by
  obtain ⟨fuel, hf⟩ := h
  have h32 : Try.prog.cellsOf 22 = 32 := by kernel_rfl
  rcases Deep.open_slice Try.underlying53 hf with ⟨hcs, _⟩ | ⟨a, len, cap, m, q, D, Pl, hcs, hb, hl, hm, hmm, hx, hall⟩
  · simp [Value.cells] at hcs
    obtain ⟨rfl, rfl, rfl⟩ := hcs
    exact ⟨[], fun k hk => absurd hk (by simp), Lib.hid rfl, Nat.le_refl _⟩
  · simp [Value.cells] at hcs
    obtain ⟨rfl, rfl, rfl⟩ := hcs
    simp only [if_true] at hmm
    subst hmm
    rw [h32] at hall
    have each : ∀ i, i < n → ∃ bs : List UInt8, bs.length = 32 ∧ ∀ j, j < 32 → w.cell? ((a.add (i * 32)).add j) = (bs.map cellB)[j]? := by
      intro i hi
      obtain ⟨cs, h1, h2⟩ := hall i (by omega)
      obtain ⟨_, hlen, hc⟩ := World.cells?_some h1
      obtain ⟨bs, hbl, rfl⟩ := arr8_cells Try.underlying22 Try.underlying5 (by kernel_rfl) h32 h2
      exact ⟨bs, hbl, hc⟩
    obtain ⟨y, hy⟩ : ∃ y : Nat → List UInt8, ∀ i, i < n → (y i).length = 32 ∧ ∀ j, j < 32 → w.cell? ((a.add (i * 32)).add j) = ((y i).map cellB)[j]? :=
      ⟨fun i => if hi : i < n then Classical.choose (each i hi) else [], fun i hi => by simp only [dif_pos hi]; exact Classical.choose_spec (each i hi)⟩
    refine ⟨(List.range n).map y, fun k hk => ?_, Lib.hid (by simp), hl⟩
    have hk : k < n := by simpa using hk
    have eg : ((List.range n).map y).getD k [] = y k := by simp [List.getD, hk]
    rw [eg]
    obtain ⟨hl32, hc⟩ := hy k hk
    obtain ⟨b, off, spot⟩ := a
    have h00 := (hy 0 (by omega)).2 0 (by decide)
    have hspot : spot = none := by
      have h0l := (hy 0 (by omega)).1
      rw [List.getElem?_eq_getElem (by simp; omega)] at h00
      simpa [Addr.add] using World.cell?_spot h00
    subst hspot
    have hcell : ∀ j, j < 32 → w.cell? ⟨b, off + k * 32 + j, none⟩ = ((y k).map cellB)[j]? := fun j hj => by
      have := hc j hj
      rwa [Go.WideShapes.add_plain, Go.WideShapes.add_plain] at this
    refine ⟨hl32, b, off, rfl, ?_, fun j v hv => ?_⟩
    · have := hcell 0 (by decide)
      rw [List.getElem?_eq_getElem (by simp; omega)] at this
      exact World.block_lt_of_cell? w _ this
    · have hj : j < 32 := by
        have := (List.getElem?_eq_some_iff.1 hv).1
        simpa [u8s, hl32] using this
      rw [hcell j hj, ← hv]
      rfl
theorem ints_open {H : Type} {enc : TypeId × Value → H} {w : World} {base : Nat} {held : Bool} {A : Option Addr} {n c : Nat} {d : DataW H} {p : List MemPlace}
    (h : DataW.Trod enc Try.prog w base (fun _ => true) held 54 (.slice A n c) d p) : ∃ zs, Own54 w A n c zs := by
  obtain ⟨fuel, hf⟩ := h
  rcases open_ints Try.underlying54 Try.underlying3 (by kernel_rfl) hf with ⟨hcs, _⟩ | ⟨a, l, c2, zs, hcs, _, hl, hm, hz, _, hcell, hwz⟩
  · simp [Value.cells] at hcs
    obtain ⟨rfl, rfl, rfl⟩ := hcs
    exact ⟨[], fun k hk => absurd hk (by simp), Lib.hid rfl, Nat.le_refl _⟩
  · simp [Value.cells] at hcs
    obtain ⟨rfl, rfl, rfl⟩ := hcs
    simp at hz
    refine ⟨zs.take n, fun k hk => ?_, Lib.hid (by simp; omega), hl⟩
    have hk' : k < n := by simp at hk; omega
    obtain ⟨b, off, rfl, hc⟩ := ints_at hcell (by omega)
    have h1 := hc k (by omega)
    refine ⟨b, off, rfl, World.block_lt_of_cell? w _ h1, ?_⟩
    rw [h1]
    have : (zs.take n).getD k 0 = zs.getD k 0 := by simp [List.getD, List.getElem?_take, hk']
    rw [this]
end Go.Proofs.Ytpdoegfmngibgaa
