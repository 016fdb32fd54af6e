/- Layer 9: Canon. -/
import Derived.Test.YtajkgcmopmpihaaDoorJvV
import Derived.Recover
import Derived.Tactics
import Derived.Tactics2
import Derived.Defers
import Derived.Laws.Pointers
namespace Go.Proofs.YtajkgcmopmpihaaDoor
open Go.ChangeShapes Go.WideShapes Go.ChangeAt Go.RowKit Go.IntWalk
set_option linter.unusedVariables false

theorem catch_panicking (b : Nat) (s0 : ByteArray) (x x0 : Int) (older : List PanicEntry) (w : World) (hp : w.cell? ⟨b, 0, none⟩ = some (.string s0)) (hq : w.cell? ⟨b + 1, 0, none⟩ = some (.int .i64 x0)) (fp : w.frozen? ⟨b, 0, none⟩ = false) (fq : w.frozen? ⟨b + 1, 0, none⟩ = false) :
    CallsD Tryd.prog 7 #[.pointer (some ⟨b, 0, none⟩), .pointer (some ⟨b + 1, 0, none⟩)] (.panicking ({ v := .iface 31 (.agg #[.int .i64 x]), recovered := false } :: older)) w fun e u' w' =>
      e = .returned (.tuple #[]) ∧ u' = .panicking ({ v := .iface 31 (.agg #[.int .i64 x]), recovered := true } :: older) ∧ ∃ n, w' = ((w.setCell ⟨b, 0, none⟩ (.string ⟨#[]⟩)).setCell ⟨b + 1, 0, none⟩ (.int .i64 x)).drewN n := by
  refine callsD_of_wpS Tryd.func7 rfl fun c₀ cs hu => ?_
  apply wpS_seq
  apply wpS_region
  simp [wpOpsS, go_sem, recoverD, hu, Tryd.ntmps7, Exit.thenS]
  apply wpS_seq
  apply wpS_region
  simp [wpOpsS, go_sem, Exit.thenS]
  refine wpS_cond (t := true) (by simp [Act.eval, Array.replicate]) ?_
  simp only [if_true]
  refine wpS_of_wp ?_
  have hta : ∀ w, (Instr.typeAssert (.iface 31 (.agg #[.int .i64 x])) 20 31 false).run Tryd.prog w = .ok (.agg #[.int .i64 x]) w := fun _ => by kernel_rfl
  have hfd : ∀ w, (Instr.field 31 (.agg #[.int .i64 x]) 0).run Tryd.prog w = .ok (.int .i64 x) w := fun _ => by kernel_rfl
  change Code.wp _ _ _ { tmps := #[.pointer (some ⟨b, 0, none⟩), .pointer (some ⟨b + 1, 0, none⟩), .iface 31 (.agg #[.int .i64 x]), .iface 31 (.agg #[.int .i64 x]), .iface 31 (.agg #[.int .i64 x]), .bool true, undef, undef, undef], defers := [] } w
  go_region
  exact ⟨rfl, _, rfl, .tuple #[], results_none rfl _ _ _, rfl, rfl, 1, rfl⟩
theorem catch_idle (p q : Addr) (w : World) :
    CallsD Tryd.prog 7 #[.pointer (some p), .pointer (some q)] .returning w fun e u' w' => e = .returned (.tuple #[]) ∧ u' = .returning ∧ w' = w := by
  refine callsD_of_wpS Tryd.func7 rfl fun c₀ cs hu => ?_
  apply wpS_seq
  apply wpS_region
  simp [wpOpsS, go_sem, recoverD, hu, Tryd.ntmps7, Exit.thenS]
  apply wpS_seq
  apply wpS_region
  simp [wpOpsS, go_sem, Exit.thenS]
  refine wpS_cond (t := false) (by simp [Act.eval, Array.replicate]) ?_
  simp only [Bool.false_eq_true, if_false]
  refine wpS_of_wp (wp_skip ?_)
  cases c₀
  simp_all [bodyPostS, results, Tryd.results7]
theorem below_drewN {B : Nat} {a w : World} (h : Below B a w) (n : Nat) : Below B a (w.drewN n) := ⟨h.os, h.tape, h.output, h.size, h.block⟩
/-- What Canon answers. -/
def CanPost (v : Jv) (w : World) (e : Ending) (w' : World) : Prop := e = .returned (.tuple #[.string ⟨(canF v).1.toArray⟩, .int .i64 (canF v).2]) ∧ Below w.heap.size w w'
set_option maxHeartbeats 4000000 in
theorem canon_calls (v : Jv) (A B : Option Addr) (nl cl nm cm : Nat) (w : World) (rl : Room nl cl v.l.ext) (rm : Room nm cm v.m.ext) (sl : JSl (· < w.heap.size) w false A v.l) (sm : JSl (· < w.heap.size) w true B v.m) (hf : Fit v.kd v.n v.s) (hT : PowT w.heap.size w) :
    Calls Tryd.prog 4 #[.agg #[.int .i64 v.kd, .bool v.is, .int .i64 v.n, .string ⟨v.s.toArray⟩, .slice A nl cl, .slice B nm cm]] w (CanPost v w) := by
  have hmf : ∀ (fn : Fn) (first cap : Array Value) (w : World), (Instr.makeFunc fn first cap).run Tryd.prog w = .ok (.func fn first cap) w := fun _ _ _ _ => rfl
  obtain ⟨W4, hW4⟩ : ∃ W4, W4 = ((((w.alloc (.cells #[.int .i64 v.kd, .bool v.is, .int .i64 v.n, .string ⟨v.s.toArray⟩, .slice A nl cl, .slice B nm cm] 25)).alloc (.cells #[.string ⟨#[]⟩] 9)).alloc (.cells #[.int .i64 0] 26)).alloc (.cells #[.slice none 0 0] 35)) := ⟨_, rfl⟩
  have A4 : Blk W4 (w.heap.size + 1) 9 [.string ⟨#[]⟩] ∧ Blk W4 (w.heap.size + 1 + 1) 26 [.int .i64 0] ∧ Blk W4 (w.heap.size + 1 + 1 + 1) 35 [.slice none 0 0] ∧ Below w.heap.size w W4 ∧ w.heap.size + 1 + 1 + 1 < W4.heap.size := by
    subst hW4
    refine ⟨?_, ?_, ?_, ?_, by simp⟩
    · have := ((Blk.new (w.alloc (.cells #[.int .i64 v.kd, .bool v.is, .int .i64 v.n, .string ⟨v.s.toArray⟩, .slice A nl cl, .slice B nm cm] 25)) [.string ⟨#[]⟩] 9).alloc (.cells #[.int .i64 0] 26)).alloc (.cells #[.slice none 0 0] 35)
      simpa using this
    · have := (Blk.new ((w.alloc (.cells #[.int .i64 v.kd, .bool v.is, .int .i64 v.n, .string ⟨v.s.toArray⟩, .slice A nl cl, .slice B nm cm] 25)).alloc (.cells #[.string ⟨#[]⟩] 9)) [.int .i64 0] 26).alloc (.cells #[.slice none 0 0] 35)
      simpa using this
    · have := Blk.new (((w.alloc (.cells #[.int .i64 v.kd, .bool v.is, .int .i64 v.n, .string ⟨v.s.toArray⟩, .slice A nl cl, .slice B nm cm] 25)).alloc (.cells #[.string ⟨#[]⟩] 9)).alloc (.cells #[.int .i64 0] 26)) [.slice none 0 0] 35
      simpa using this
    · exact ((((Below.refl _ _).alloc (Nat.le_refl _) _).alloc (by simp) _).alloc (by simp; omega) _).alloc (by simp; omega) _
  obtain ⟨k1, k2, k3, b4, h4⟩ := A4
  have HV := value_w v.bulk v 0 0 w.heap.size (w.heap.size + 1 + 1 + 1) (.slice none 0 0) [] W4 A B nl cl nm cm (Nat.le_refl _) (by omega) rfl (by omega) (by omega) rl rm (sl.blw b4) (sm.blw b4) hf ⟨.inl ⟨rfl, rfl⟩, k3, by simp [Value.ownBlock], by simp⟩ (hT.blw b4)
  have HK := Lib.hid (And.intro k1 (And.intro k2 (And.intro b4 h4)))
  rw [hW4] at HV
  have HW4 := Lib.hid hW4
  clear k1 k2 k3 b4 h4 hW4 rl rm sl sm hf hT
  cases hr : wrV v 0 [] with
  | error x =>
    have HC := Lib.hid (show canF v = ([], x) by unfold canF; rw [hr])
    rw [hr] at HV
    clear hr
    go_enter_defers Tryd.func4, Tryd.ntmps4
    go_wp2_with fail
    refine HV.mono ?_
    rintro e w2 ⟨rfl, v2, n2⟩
    rw [← HW4.out] at n2
    have c1 := n2.blk HK.out.1 (by omega) (by simp [Value.ownBlock])
    have c2 := n2.blk HK.out.2.1 (by omega) (by simp [Value.ownBlock])
    have hb2 := n2.below HK.out.2.2.1 (show w.heap.size ≤ w.heap.size + 1 + 1 + 1 by omega) (by have := HK.out.2.2.2; omega) (by simp [Value.ownBlock])
    go_wp2_with fail
    refine leaves_cons (f := 7) (args := #[.pointer (some ⟨w.heap.size + 1, 0, none⟩), .pointer (some ⟨w.heap.size + 1 + 1, 0, none⟩)]) (by simp) (by simp [go_sem]) ?_
    refine (catch_panicking (w.heap.size + 1) ⟨#[]⟩ x 0 [] w2 (c1.cell rfl) (c2.cell rfl) (c1.frozen 0) (c2.frozen 0)).mono ?_
    rintro e u' w'' ⟨rfl, rfl, q, rfl⟩
    have d1 := ((c1.set_ 0 (.string ⟨#[]⟩)).other (g2 := w.heap.size + 1 + 1) (k := 0) (by omega) (.int .i64 x)).drewN q
    have d2 := ((c2.other (g2 := w.heap.size + 1) (k := 0) (by omega) (.string ⟨#[]⟩)).set_ 0 (.int .i64 x)).drewN q
    have e1 := d1.cell (k := 0) rfl
    have e2 := d2.cell (k := 0) rfl
    have HB := Lib.hid hb2
    clear d1 d2 c1 c2 hb2 n2
    simp [Leaves, settle, results, Tryd.results4, go_sem, e1, e2]
    exact ⟨by rw [HC.out], below_drewN ((HB.out.setCell (by dsimp only; omega) _).setCell (by dsimp only; omega) _) q⟩
  | ok b =>
    have HC := Lib.hid (show canF v = (b, 0) by unfold canF; rw [hr])
    rw [hr] at HV
    clear hr
    go_enter_defers Tryd.func4, Tryd.ntmps4
    go_wp2_with fail
    refine HV.mono ?_
    rintro e w2 ⟨rfl, v2, h2, n2⟩
    rw [← HW4.out] at n2
    have c1 := n2.blk HK.out.1 (by omega) (by simp [Value.ownBlock])
    have c2 := n2.blk HK.out.2.1 (by omega) (by simp [Value.ownBlock])
    have hb2 := n2.below HK.out.2.2.1 (show w.heap.size ≤ w.heap.size + 1 + 1 + 1 by omega) (by have := HK.out.2.2.2; omega) (by simp [Value.ownBlock])
    have c3 := h2.2.1.cell (k := 0) rfl
    obtain ⟨A2, m2, cap2, rfl, hrb, hn2, hc2⟩ := h2.1.form
    have hcv := run_str_rb w2 A2 m2 cap2 b hrb hn2
    have e1 := c1.cell (k := 0) rfl
    have e2 := c2.cell (k := 0) rfl
    have f1 := c1.frozen 0
    have f2 := c2.frozen 0
    have HB := Lib.hid hb2
    have d1 := ((c1.set_ 0 (.string ⟨b.toArray⟩)).other (g2 := w.heap.size + 1 + 1) (k := 0) (by omega) (.int .i64 0)).cell (k := 0) rfl
    have d2 := ((c2.other (g2 := w.heap.size + 1) (k := 0) (by omega) (.string ⟨b.toArray⟩)).set_ 0 (.int .i64 0)).cell (k := 0) rfl
    clear c1 c2 hb2 h2 n2 hrb hn2 hc2
    go_wp2_with fail
    refine leaves_cons (f := 7) (args := #[.pointer (some ⟨w.heap.size + 1, 0, none⟩), .pointer (some ⟨w.heap.size + 1 + 1, 0, none⟩)]) (by simp) (by simp [go_sem]) ?_
    refine (catch_idle ⟨w.heap.size + 1, 0, none⟩ ⟨w.heap.size + 1 + 1, 0, none⟩ _).mono ?_
    rintro e u' w'' ⟨rfl, rfl, rfl⟩
    simp [Leaves, settle, results, Tryd.results4, go_sem, d1, d2]
    exact ⟨by rw [HC.out], (HB.out.setCell (by dsimp only; omega) _).setCell (by dsimp only; omega) _⟩
end Go.Proofs.YtajkgcmopmpihaaDoor
