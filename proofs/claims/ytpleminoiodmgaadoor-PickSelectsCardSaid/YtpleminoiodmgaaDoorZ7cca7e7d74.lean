/- Texts put together: JvS6. -/
import Derived.Test.YtpleminoiodmgaaDoorZ0641978827
namespace Go.Proofs.YtpleminoiodmgaaDoor
open Go.ChangeShapes Go.WideShapes Go.ChangeAt Go.RowKit Go.IntWalk
set_option linter.unusedVariables false

theorem size_v6 : (Tryd.prog.info? 25).map (·.size) = some 6 := by kernel_rfl
theorem cells6s {w : World} {g : Nat} {T : TypeId} {a0 a1 a2 a3 a4 a5 : Value} (h : Blk w g T [a0, a1, a2, a3, a4, a5]) : w.cell? ⟨g, 0, none⟩ = some a0 ∧ w.cell? ⟨g, 1, none⟩ = some a1 ∧ w.cell? ⟨g, 2, none⟩ = some a2 ∧ w.cell? ⟨g, 3, none⟩ = some a3 ∧ w.cell? ⟨g, 4, none⟩ = some a4 ∧ w.cell? ⟨g, 5, none⟩ = some a5 ∧
    w.frozen? ⟨g, 0, none⟩ = false ∧ w.frozen? ⟨g, 1, none⟩ = false ∧ w.frozen? ⟨g, 2, none⟩ = false ∧ w.frozen? ⟨g, 3, none⟩ = false ∧ w.frozen? ⟨g, 4, none⟩ = false ∧ w.frozen? ⟨g, 5, none⟩ = false :=
  ⟨h.cell rfl, h.cell rfl, h.cell rfl, h.cell rfl, h.cell rfl, h.cell rfl, h.frozen _, h.frozen _, h.frozen _, h.frozen _, h.frozen _, h.frozen _⟩
theorem res_cell6 {fn : Func} {p : Tmp} {ty : TypeId} (h : fn.results = #[.cell p ty]) (tmps : Array Value) (a : Addr) (v : Value) (W : World) (hp : tmps.getD p undef = .pointer (some a)) (hld : (loadVar ty a).run Tryd.prog W = .ok v W) : (results fn tmps).run Tryd.prog W = .ok v W := by
  simp only [Array.getD_eq_getD_getElem?] at hp
  simp [results, h, hp, asAddr, hld]
theorem res_cell62 {fn : Func} {p q : Tmp} {ty : TypeId} (h : fn.results = #[.cell p ty, .tmp q]) (tmps : Array Value) (a : Addr) (v u : Value) (W : World) (hp : tmps.getD p undef = .pointer (some a)) (hq : tmps.getD q undef = u) (hld : (loadVar ty a).run Tryd.prog W = .ok v W) : (results fn tmps).run Tryd.prog W = .ok (.tuple #[v, u]) W := by
  simp only [Array.getD_eq_getD_getElem?] at hp hq
  subst hq
  simp [results, h, hp, asAddr, hld]
end Go.Proofs.YtpleminoiodmgaaDoor
