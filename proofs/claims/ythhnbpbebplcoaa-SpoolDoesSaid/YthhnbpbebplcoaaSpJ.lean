/- Layer 19: what the document tells, and two spools, walked. -/
import Derived.Test.YthhnbpbebplcoaaSpI
namespace Go.Proofs.Ythhnbpbebplcoaa
open Go.ChangeShapes Go.WideShapes Go.ChangeAt Go.RowKit Go.IntWalk
set_option linter.unusedVariables false

theorem OwnF.lower19 {base b2 : Nat} {w : World} {v : Value} {bs : List UInt8} (h : OwnF base w v bs) (hb : b2 ≤ base) : OwnF b2 w v bs := by
  rcases h with h | ⟨g, cap, cur, fz, e, hg, r⟩
  · exact .inl h
  · exact .inr ⟨g, cap, cur, fz, e, Nat.le_trans hb hg, r⟩
section
variable {base g g2 : Nat} {w w1 : World} {v v1 v2 : Value} {s s1 s2 : Sp}
/-- A spool of the call's own. -/
def Mine (B : Nat) (w0 w : World) (g : Nat) (v : Value) (s : Sp) : Prop := PSt B w g v s ∧ B ≤ g ∧ Below B w0 w ∧ B ≤ w.heap.size
theorem Mine.next {B : Nat} {w0 : World} (h : Mine B w0 w g v s) (p : PSt B w1 g v1 s1) (n : Nx w w1 g v v1) : Mine B w0 w1 g v1 s1 :=
  ⟨p, h.2.1, n.below h.2.2.1 h.2.1 h.2.2.2 (fun k e => (h.1.own k e).1), Nat.le_trans h.2.2.2 n.size⟩
theorem Mine.later {B : Nat} {w0 : World} (h : Mine B w0 w g v s) (b : Below w.heap.size w w1) : Mine B w0 w1 g v s :=
  ⟨h.1.below b, h.2.1, h.2.2.1.trans (b.mono h.2.2.2), Nat.le_trans h.2.2.2 b.size⟩
/-- Another spool stays. -/
def Apart (g : Nat) (v : Value) (g2 : Nat) (v2 : Value) : Prop := g ≠ g2 ∧ v.ownBlock ≠ some g2 ∧ v2.ownBlock ≠ some g ∧ ∀ k, v.ownBlock = some k → v2.ownBlock ≠ some k
theorem Apart.symm (h : Apart g v g2 v2) : Apart g2 v2 g v := ⟨h.1.symm, h.2.2.1, h.2.1, fun k e e2 => h.2.2.2 k e2 e⟩
theorem Apart.next (h : Apart g v g2 v2) (p2 : PSt base w g2 v2 s2) (n : Nx w w1 g v v1) : Apart g v1 g2 v2 := by
  rcases n.own with e | e | ⟨k, e, hk⟩
  · exact ⟨h.1, by rw [e]; exact h.2.1, h.2.2.1, by rw [e]; exact h.2.2.2⟩
  · exact ⟨h.1, by rw [e]; simp, h.2.2.1, by rw [e]; intro k hk; cases hk⟩
  · refine ⟨h.1, ?_, h.2.2.1, ?_⟩
    · rw [e]; have := p2.lt; simp; omega
    · intro j hj e2
      rw [e] at hj
      cases hj
      have := (p2.own _ e2).2
      omega
theorem PSt.stay (p2 : PSt base w g2 v2 s2) (h : Apart g v g2 v2) (n : Nx w w1 g v v1) : PSt base w1 g2 v2 s2 := by
  refine ⟨p2.1.stay fun k hk => n.block k (p2.own k hk).2 ?_ ?_, n.blk p2.2.1 h.1.symm h.2.1, p2.2.2⟩
  · intro e; exact h.2.2.1 (by rw [hk, e])
  · intro e; exact h.2.2.2 k e hk
/-- Two spools of the call's own. -/
def Pair (B : Nat) (w0 w : World) (g : Nat) (v : Value) (s : Sp) (g2 : Nat) (v2 : Value) (s2 : Sp) : Prop := Mine B w0 w g v s ∧ Mine B w0 w g2 v2 s2 ∧ Apart g v g2 v2
theorem Pair.symm {B : Nat} {w0 : World} (h : Pair B w0 w g v s g2 v2 s2) : Pair B w0 w g2 v2 s2 g v s := ⟨h.2.1, h.1, h.2.2.symm⟩
theorem Pair.left {B : Nat} {w0 : World} (h : Pair B w0 w g v s g2 v2 s2) (p : PSt B w1 g v1 s1) (n : Nx w w1 g v v1) : Pair B w0 w1 g v1 s1 g2 v2 s2 :=
  ⟨h.1.next p n, ⟨h.2.1.1.stay h.2.2 n, h.2.1.2.1, (h.1.next p n).2.2.1, (h.1.next p n).2.2.2⟩, h.2.2.next h.2.1.1 n⟩
theorem Pair.right {B : Nat} {w0 : World} (h : Pair B w0 w g v s g2 v2 s2) (p : PSt B w1 g2 v1 s1) (n : Nx w w1 g2 v2 v1) : Pair B w0 w1 g v s g2 v1 s1 := (h.symm.left p n).symm
theorem Pair.later {B : Nat} {w0 : World} (h : Pair B w0 w g v s g2 v2 s2) (b : Below w.heap.size w w1) : Pair B w0 w1 g v s g2 v2 s2 := ⟨h.1.later b, h.2.1.later b, h.2.2⟩
end
set_option maxRecDepth 100000 in
set_option maxHeartbeats 4000000 in
theorem alive19_calls (w : World) : Calls Try.prog 8 #[] w fun e w' => e = .returned (.bool true) ∧ Below w.heap.size w w' := by
  have r1 : ((Sp.new []).app [102]).2 = 0 := by decide
  have r2 : ((Sp.new []).app [102]).1.bs = [90, 103, 10] := by decide
  obtain ⟨t1, ht1⟩ : ∃ t, ((Sp.new []).app [102]).1 = t := ⟨_, rfl⟩
  have k1 : t1.Ok ∧ t1.ac = 1 := ⟨by rw [← ht1]; exact Sp.Ok.app (Sp.new_ok [] (by decide)) _, by rw [← ht1]; decide⟩
  obtain ⟨t2, ht2⟩ : ∃ t, (t1.off 2).on = t := ⟨_, rfl⟩
  have k2 : t2.Ok := by rw [← ht2]; exact Sp.Ok.on (Sp.Ok.off k1.1 _)
  have o1 : t2.open_.2.1 = [] := by rw [← ht2, ← ht1]; decide
  have o2 : t2.open_.2.2 = 0 := by rw [← ht2, ← ht1]; decide
  have o3 : t2.open_.1.bs = [] := by rw [← ht2, ← ht1]; decide
  have o4 : t2.open_.1.ac = 1 := by rw [← ht2, ← ht1]; decide
  rw [ht1] at r2
  have HH := Lib.hid (And.intro r1 (And.intro r2 (And.intro ht1 (And.intro k1 (And.intro ht2 (And.intro k2 (And.intro o1 (And.intro o2 (And.intro o3 o4)))))))))
  clear r1 r2 ht1 k1 ht2 k2 o1 o2 o3 o4
  go_enter Try.func8, Try.ntmps8
  go_wp2_with fail
  refine (new_calls [] (by decide) w).mono ?_
  rintro e w1 ⟨g, v, rfl, hg, p1, b1⟩
  have M1 := Lib.hid (show Mine w.heap.size w w1 g v (Sp.new []) from ⟨p1, hg, b1, b1.size⟩)
  clear p1 b1
  go_wp2_with fail
  refine (append_calls w.heap.size g v (Sp.new []) [102] (by decide) (Sp.new_ok [] (by decide)) (by decide) w1 M1.out.1 M1.out.2.2.2).mono ?_
  rintro e w2 ⟨rfl, v2, p2, n2⟩
  rw [HH.out.1]
  rw [HH.out.2.2.1] at p2
  have M2 := Lib.hid (M1.out.next p2 n2)
  clear p2 n2
  go_wp2_with fail
  refine (bytes_calls w.heap.size g v2 _ w2 M2.out.1).mono ?_
  rintro e w3 ⟨rfl, rfl⟩
  rw [HH.out.2.1]
  unfold strV
  go_wp2_with fail
  refine (off_calls w.heap.size g v2 _ 2 (by omega) HH.out.2.2.2.1.1 w2 M2.out.1).mono ?_
  rintro e w3 ⟨rfl, v3, p3, n3⟩
  have M3 := Lib.hid (M2.out.next p3 n3)
  clear p3 n3
  go_wp2_with fail
  refine (on_calls w.heap.size g v3 _ w3 M3.out.1).mono ?_
  rintro e w4 ⟨rfl, p4, n4⟩
  rw [HH.out.2.2.2.2.1] at p4
  have M4 := Lib.hid (M3.out.next p4 n4)
  clear p4 n4
  go_wp2_with fail
  refine (open_calls w.heap.size g v3 t2 HH.out.2.2.2.2.2.1 w4 M4.out.1 M4.out.2.2.2).mono ?_
  rintro e w5 ⟨v5, out, p5, n5, ho, rfl, ow5⟩
  rw [HH.out.2.2.2.2.2.2.1] at ho
  rw [HH.out.2.2.2.2.2.2.2.1]
  obtain ⟨A, n, cap, rfl, _, hn, _⟩ := ho.form
  have hn0 : n = 0 := hn.out
  subst hn0
  have M5 := Lib.hid (M4.out.next p5 n5)
  clear p5 n5 ho hn ow5
  go_wp2_with fail
  refine (bytes_calls w.heap.size g v5 _ w5 M5.out.1).mono ?_
  rintro e w6 ⟨rfl, rfl⟩
  rw [HH.out.2.2.2.2.2.2.2.2.1]
  unfold strV
  go_wp2_with fail
  refine (acts_calls w.heap.size g v5 _ w5 M5.out.1).mono ?_
  rintro e w6 ⟨rfl, rfl⟩
  rw [HH.out.2.2.2.2.2.2.2.2.2]
  go_wp2_with fail
  go_ret
  exact ⟨rfl, M5.out.2.2.1⟩
end Go.Proofs.Ythhnbpbebplcoaa
