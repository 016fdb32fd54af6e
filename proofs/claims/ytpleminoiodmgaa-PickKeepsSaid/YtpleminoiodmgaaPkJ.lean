/- Layer 16: slices.Clone of slots, walked. -/
import Derived.Test.YtpleminoiodmgaaPkI
import Derived.Lib.SliceRun
namespace Go.Proofs.Ytpleminoiodmgaa
open Go.ChangeShapes Go.WideShapes Go.ChangeAt Go.RowKit Go.IntWalk
set_option linter.unusedVariables false

theorem OwnS.empty {base : Nat} {w : World} (hb : base ≤ w.heap.size) : OwnS base (w.alloc (.cells #[] 24)) (.slice (some ⟨w.heap.size, 0, none⟩) 0 0) [] :=
  ⟨rfl, .inr ⟨w.heap.size, 0, #[], rfl, hb, heap_alloc_new w _, Nat.le_refl _, by decide, rfl, rfl⟩⟩
set_option maxHeartbeats 4000000 in
set_option maxRecDepth 100000 in
theorem clone_calls (A : Option Addr) (n c : Nat) (xs : List Slt) (w : World) (hx : Sls w A n c xs) (hnb : n ≤ 8192) : Calls Try.prog 18 #[.slice A n c] w (PutPost xs w) := by
  obtain ⟨hrv, hn, hnc, hc63, hok⟩ := hx
  cases A with
  | none =>
    have hxs : xs = [] := by
      cases xs with
      | nil => rfl
      | cons y l =>
        obtain ⟨b, off, h1, _⟩ := hrv 0 (strV y.t) rfl
        cases h1
    subst hxs
    have hn0 : n = 0 := hn.out
    subst hn0
    have he : ∀ W, (binOp .eql 22 (.slice none 0 c) (.slice none 0 0)).run Try.prog W = .ok (.bool true) W := fun W => Lib.run_eql_slice_nil W _ _ none 0 c 0 0 Try.underlying22
    go_enter Try.func18, Try.ntmps18
    go_wp2_with fail
    go_ret
    exact ⟨_, rfl, OwnS.nil _ _, Below.refl _ _⟩
  | some A =>
    have HX := Lib.hid (And.intro hrv (And.intro hn.out hnb))
    have hnm : n ≤ 9223372036854775807 := Nat.le_trans hnc hc63
    clear hrv hn hok hnb
    have he : ∀ W, (binOp .eql 22 (.slice (some A) n c) (.slice none 0 0)).run Try.prog W = .ok (.bool false) W := fun W => Lib.run_eql_slice_nil W _ _ (some A) n c 0 0 Try.underlying22
    go_enter Try.func18, Try.ntmps18
    go_wp2_with (at_builtin; refine wpList_append_slots rfl _ _ rfl w.heap.size _ _ rfl (OwnS.empty (Nat.le_refl _)) A n c xs rfl (HX.out.1.alloc _) (Lib.hid HX.out.2.1) (by have := HX.out.2.2; simp; omega) (by simp) ?_; intro v2 w5 h5 g5)
    have H5 := Lib.hid (And.intro h5 (Below.own_grown ((Below.refl w.heap.size w).alloc (Nat.le_refl _) _) (OwnS.empty (Nat.le_refl _)) g5 (by simp)))
    clear h5 g5
    go_wp2_with fail
    go_ret
    exact ⟨_, rfl, H5.out.1, H5.out.2⟩
end Go.Proofs.Ytpleminoiodmgaa
