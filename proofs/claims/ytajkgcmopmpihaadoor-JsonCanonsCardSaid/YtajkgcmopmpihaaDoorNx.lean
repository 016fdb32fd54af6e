/- What a call on a thing with bytes of its own leaves of everything else. No function is named. -/
import Derived.Test.YtajkgcmopmpihaaDoorSpA
namespace Go.Proofs.YtajkgcmopmpihaaDoor
open Go.ChangeShapes Go.WideShapes Go.ChangeAt Go.RowKit Go.IntWalk
set_option linter.unusedVariables false

structure Nx (w w' : World) (g : Nat) (v v' : Value) : Prop where
  os : w'.os = w.os
  tape : w'.tape = w.tape
  output : w'.output = w.output
  size : w.heap.size ≤ w'.heap.size
  block : ∀ k, k < w.heap.size → k ≠ g → v.ownBlock ≠ some k → w'.heap[k]? = w.heap[k]?
  own : v'.ownBlock = v.ownBlock ∨ v'.ownBlock = none ∨ ∃ k, v'.ownBlock = some k ∧ w.heap.size ≤ k
section
variable {w w1 w2 : World} {g base : Nat} {v v1 v2 : Value}
theorem Nx.refl (w : World) (g : Nat) (v : Value) : Nx w w g v v := ⟨rfl, rfl, rfl, Nat.le_refl _, fun _ _ _ _ => rfl, .inl rfl⟩
theorem Nx.trans (h : Nx w w1 g v v1) (h2 : Nx w1 w2 g v1 v2) : Nx w w2 g v v2 := by
  refine ⟨h2.os.trans h.os, h2.tape.trans h.tape, h2.output.trans h.output, Nat.le_trans h.size h2.size, fun k hk hg ho => ?_, ?_⟩
  · refine (h2.block k (Nat.lt_of_lt_of_le hk h.size) hg ?_).trans (h.block k hk hg ho)
    rcases h.own with e | e | ⟨j, e, hj⟩
    · rw [e]; exact ho
    · rw [e]; simp
    · rw [e]; simp; omega
  · rcases h2.own with e | e | ⟨j, e, hj⟩
    · rw [e]; exact h.own
    · exact .inr (.inl e)
    · exact .inr (.inr ⟨j, e, Nat.le_trans h.size hj⟩)
theorem Nx.of_gb (h : w.grownBy w1 (some g)) : Nx w w1 g v v := ⟨h.os, h.tape, h.output, h.size, fun k hk hg _ => h.block k hk (by simpa using hg), .inl rfl⟩
theorem Nx.of_below (h : Below w.heap.size w w1) : Nx w w1 g v v := ⟨h.os, h.tape, h.output, h.size, fun k hk _ _ => h.block k hk, .inl rfl⟩
/-- Another's memory stays. -/
theorem Nx.blk (h : Nx w w1 g v v1) {m : Nat} {T : TypeId} {cs : List Value} (hb : Blk w m T cs) (hg : m ≠ g) (ho : v.ownBlock ≠ some m) : Blk w1 m T cs := (h.block m hb.lt hg ho).trans hb
theorem Nx.below {a : World} {B : Nat} (h : Nx w w1 g v v1) (hb : Below B a w) (hB : B ≤ g) (hw : B ≤ w.heap.size) (ho : ∀ k, v.ownBlock = some k → B ≤ k) : Below B a w1 :=
  ⟨h.os.trans hb.os, h.tape.trans hb.tape, h.output.trans hb.output, Nat.le_trans hb.size h.size, fun k hk => (h.block k (by omega) (by omega) (fun e => by have := ho k e; omega)).trans (hb.block k hk)⟩
theorem Nx.own_same {w w1 : World} {g : Nat} {v v' : Value} (h : Nx w w1 g v v) (e : v'.ownBlock = v.ownBlock) : Nx w w1 g v v' := ⟨h.os, h.tape, h.output, h.size, h.block, .inl e⟩
theorem Nx.own_turn {w w1 : World} {g : Nat} {v v' : Value} (h : w.grownBy w1 v.ownBlock) (e : v'.ownBlock = v.ownBlock ∨ v'.ownBlock = none ∨ ∃ k, v'.ownBlock = some k ∧ w.heap.size ≤ k) : Nx w w1 g v v' :=
  ⟨h.os, h.tape, h.output, h.size, fun k hk _ ho => h.block k hk (fun e => ho e.symm), e⟩
theorem own_slice (A : Option Addr) (n m cap : Nat) : (Value.slice A n cap).ownBlock = (Value.slice A m cap).ownBlock := by cases A <;> rfl
/-- The bytes' own memory stays, when another block alone turns. -/
theorem OwnF.gb {bs : List UInt8} (h : OwnF base w v bs) (hg : w.grownBy w1 (some g)) (hne : v.ownBlock ≠ some g) : OwnF base w1 v bs :=
  h.stay fun k hk => hg.block k (h.lt k hk).2 (by rw [← hk]; exact hne)
end
end Go.Proofs.YtajkgcmopmpihaaDoor
