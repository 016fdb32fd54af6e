/- Layer 19: the program's spool, walked: New, Append, Sync. -/
import Derived.Test.YthhnbpbebplcoaaSpE
import Derived.Test.YthhnbpbebplcoaaLetB
import Derived.Deep.RegionHeld3
import Derived.Deep.RegionWith
import Derived.Deep.RegionLaw
namespace Go.Proofs.Ythhnbpbebplcoaa
open Go.ChangeShapes Go.WideShapes Go.ChangeAt Go.RowKit Go.IntWalk
set_option linter.unusedVariables false

theorem lenF_line (l : List UInt8) : lenF (l.length : Int) = ((lineF l).length : Int) := by
  unfold lineF lenF
  rw [encF_length]
  split
  · omega
  · split
    · omega
    · split <;> omega
/-- 'append(own, text...)' at a step of a region that draws its order. -/
theorem step_append_text {ops : Array Oper} {o : Oper} {a : Act} {K : Act → World → Prop} {Q : Exit → Act → World → Prop} {E : Prop} {W : World} (hgd : o.guard = none) (s x : Operand)
    (ho : o.op = .call { callee := .builtin .append, args := #[s, x], argTypes := #[52, 9] })
    (base : Nat) (v : Value) (bs : List UInt8) (hs : a.eval s = v) (hown : OwnF base W v bs) (l : List UInt8) (hx : a.eval x = .string ⟨l.toArray⟩) (hlen : bs.length + l.length ≤ 70368744177664) (hbase : base ≤ W.heap.size)
    (h : ∀ v' w', OwnF base w' v' (bs ++ l) → W.grownBy w' v.ownBlock → (v'.ownBlock = v.ownBlock ∨ v'.ownBlock = none ∨ ∃ k, v'.ownBlock = some k ∧ W.heap.size ≤ k) → K (a.put o.dst v') w') :
    if Region.wanted o (yielded ops a.tmps) = true then Oper.wp Try.prog o a W K Q else E := by
  rw [if_pos (by simp [Region.wanted, hgd])]
  obtain ⟨v', w', hr, h2, h3, h4⟩ := run_append_text W base o.type v bs hown l hlen hbase
  unfold Oper.wp execOp
  simp only [ho, resolve, invoke, builtin, Sem.run_bind, Sem.run_pure, Result.andThen_ok, List.map_toArray, List.map_cons, List.map_nil, hs, hx, hr]
  exact h v' w' h2 h3 h4
/-- A call at a step of a region that draws its order. -/
theorem step_go {ops : Array Oper} {o : Oper} {a : Act} {K : Act → World → Prop} {Q : Exit → Act → World → Prop} {E : Prop} {W : World} (hgd : o.guard = none) (f : FuncId) (args : Array Value)
    (he : (execOp a.eval o).run Try.prog W = .ok (.enter f args) W) (R : Value → World → Prop) (hc : Calls Try.prog f args W fun e w' => ∃ v, e = .returned v ∧ R v w') (h : ∀ v w', R v w' → K (a.put o.dst v) w') :
    if Region.wanted o (yielded ops a.tmps) = true then Oper.wp Try.prog o a W K Q else E := by
  rw [if_pos (by simp [Region.wanted, hgd])]
  unfold Oper.wp
  rw [he]
  exact hc.mono fun e w' ⟨v, he, hr⟩ => by subst he; exact h v w' hr
theorem Blk.keptR {w w1 : World} {x : Nat} {row : Option Nat} {T : TypeId} {cs : List Value} (h : Blk w x T cs) (hg : w.grownBy w1 row) (hne : row ≠ some x) : Blk w1 x T cs :=
  (hg.block x h.lt (fun e => hne e.symm)).trans h
theorem app_done {base g : Nat} {W1 wv w3 : World} {v v3 : Value} {s : Sp} {ls : List UInt8} (hq : Below W1.heap.size W1 wv) (hp : PSt base wv g v s) (ho : OwnF base w3 v3 (s.bs ++ ls)) (hg : wv.grownBy w3 v.ownBlock)
    (hw : v3.ownBlock = v.ownBlock ∨ v3.ownBlock = none ∨ ∃ k, v3.ownBlock = some k ∧ wv.heap.size ≤ k) (hB : Blk w3 g 54 (PCs v s)) :
    PSt base (w3.setCell ⟨g, 0, none⟩ v3) g v3 { s with bs := s.bs ++ ls } ∧ Nx W1 (w3.setCell ⟨g, 0, none⟩ v3) g v v3 := by
  have hne : v3.ownBlock ≠ some g := by
    rcases hw with e | e | ⟨k, e, hk⟩
    · rw [e]; exact hp.2.2
    · rw [e]; simp
    · rw [e]; have := hp.lt; simp; omega
  refine ⟨⟨ho.gb (gb_setCell _ _ _ _) hne, hB.set_ 0 v3, hne⟩, ?_⟩
  exact ((Nx.of_below hq).trans ⟨hg.os, hg.tape, hg.output, hg.size, fun k hk _ h => hg.block k hk (fun e => h e.symm), hw⟩).trans (Nx.of_gb (gb_setCell _ _ _ _))
theorem enc_any (base : Nat) (v : Value) (bs : List UInt8) (w : World) (h : OwnF base w v bs) (hl : bs.length ≤ 68719476736) :
    Calls Try.prog 31 #[v, .bool true] w fun e w' => e = .returned (.string ⟨(lineF bs).toArray⟩) ∧ Below w.heap.size w w' := by
  obtain ⟨A, n, cap, rfl, hr, hn, hc⟩ := h.form
  have := hn.out
  exact encode_calls A n cap bs true w hr hn.out (by omega)
set_option maxHeartbeats 2000000 in
theorem new_calls (l : List UInt8) (hl : l.length ≤ 4194304) (w : World) :
    Calls Try.prog 10 #[.string ⟨l.toArray⟩] w fun e w' => ∃ g v, e = .returned (.pointer (some ⟨g, 0, none⟩)) ∧ w.heap.size ≤ g ∧ PSt w.heap.size w' g v (Sp.new l) ∧ Below w.heap.size w w' := by
  obtain ⟨v, w1, hcv, ho, hb⟩ := own_conv w l (by omega)
  have hm : (if (4194304 : Int) < (l.length : Int) then (4194304 : Int) else (l.length : Int)) = (l.length : Int) := if_neg (by omega)
  obtain ⟨A, n, cap, rfl, _, _, _⟩ := ho.form
  have HO := Lib.hid ho
  clear ho hl
  go_enter Try.func10, Try.ntmps10
  go_wp2_with fail
  go_ret
  have hne : (Value.slice A n cap).ownBlock ≠ some w1.heap.size := by
    intro e
    have := (HO.out.lt _ e).2
    omega
  have hal : Below w1.heap.size w1 (w1.alloc (.cells (PCs (Value.slice A n cap) (Sp.new l)).toArray 54)) := (Below.refl _ _).alloc (Nat.le_refl _) _
  exact ⟨w1.heap.size, _, rfl, hb.size, ⟨HO.out.below hal, Blk.new w1 _ _, hne⟩, hb.then_ hal⟩
set_option maxHeartbeats 4000000 in
theorem append_calls (base g : Nat) (v : Value) (s : Sp) (l : List UInt8) (hl : l.length ≤ 68719476736) (hs : s.Ok) (hac : s.ac < 1000000) (w : World) (h : PSt base w g v s) (hb : base ≤ w.heap.size) :
    Calls Try.prog 12 #[.pointer (some ⟨g, 0, none⟩), .string ⟨l.toArray⟩] w fun e w' => e = .returned (.int .i64 (s.app l).2) ∧ ∃ v', PSt base w' g v' (s.app l).1 ∧ Nx w w' g v v' := by
  have HP := Lib.hid h
  have hrd := ready_calls base g v s w h
  by_cases hd : s.dn = true
  · have HS := Lib.hid (show s.app l = (s, 50) by unfold Sp.app; rw [if_pos hd])
    rw [hd] at hrd
    have e0 : errD true = 50 := rfl
    rw [e0] at hrd
    clear h hd hs
    go_enter Try.func12, Try.ntmps12
    go_wp2_with fail
    refine hrd.mono ?_
    rintro e w1 ⟨rfl, rfl⟩
    go_wp2_with fail
    go_ret
    rw [HS.out]
    exact ⟨rfl, v, HP.out, Nx.refl _ _ _⟩
  · replace hd : s.dn = false := by simpa using hd
    rw [hd] at hrd
    have e0 : errD false = 0 := rfl
    rw [e0] at hrd
    obtain ⟨c0, c1, c2, c3, c4, c5, f0, f1, f2, f3, f4, f5⟩ := PSt.cells h.2.1
    obtain ⟨A, n, cap, rfl, hr, hn, hc⟩ := h.1.form
    have hbl := hs.len
    have hnl : n ≤ 4194304 := by rw [hn.out]; exact hbl
    have hll : (lineF l).length ≤ 137438953472 := by unfold lineF; rw [encF_length]; omega
    have hlf := lenF_line l
    obtain ⟨q, hq⟩ : ∃ q, lineF l = q := ⟨_, rfl⟩
    rw [hq] at hll hlf
    have HQ := Lib.hid hq
    have HD := Lib.hid hd
    have HOK := Lib.hid hs
    have HLEN : Hid (∀ W, Calls Try.prog 30 #[.int .i64 (l.length : Int)] W fun e w' => e = .returned (.int .i64 (q.length : Int)) ∧ W = w') := Lib.hid (fun W => by
      have := len_calls (l.length : Int) W (by omega) (by omega)
      rw [hlf] at this
      exact this)
    clear h hs hd hq hr hbl hlf
    by_cases hf : 4194304 < n + q.length + 1
    · have hB : decide ((4194304 : Int) < (n : Int) + (q.length : Int) + 1) = true := decide_eq_true (by omega)
      have HF : Hid (s.app l = (s, 51)) := Lib.hid (by
        have := hn.out
        unfold Sp.app
        rw [if_neg (by simp [HD.out]), if_pos (by unfold Sp.full; rw [HQ.out]; exact decide_eq_true (by omega))])
      clear hf
      go_enter Try.func12, Try.ntmps12
      go_wp2_with fail
      refine hrd.mono ?_
      rintro e w1 ⟨rfl, rfl⟩
      go_wp2_with fail
      go_quiet ((go_at_call 30; exact Calls.quiet_of_eq (HLEN.out _)))
      go_wp2_with fail
      go_ret
      rw [HF.out]
      exact ⟨rfl, _, HP.out.below ((Below.refl _ _).drewN _), Nx.of_below ((Below.refl _ _).drewN _)⟩
    · have hB : decide ((4194304 : Int) < (n : Int) + (q.length : Int) + 1) = false := decide_eq_false (by omega)
      have HF : Hid (s.app l = (({ s with bs := s.bs ++ (q ++ [10]) } : Sp).act.1, errD ({ s with bs := s.bs ++ (q ++ [10]) } : Sp).act.2)) := Lib.hid (by
        have := hn.out
        unfold Sp.app
        rw [if_neg (by simp [HD.out]), if_neg (by unfold Sp.full; rw [HQ.out, decide_eq_false (by omega)]; simp), HQ.out]; rfl)
      have HOK2 : Hid (Sp.Ok { s with bs := s.bs ++ (q ++ [10]) }) := Lib.hid (by
        have := hn.out
        have h := HOK.out
        have hsy := h.sy
        exact ⟨by simp; omega, by simp; omega, h.lf, h.kp⟩)
      clear hf
      go_enter Try.func12, Try.ntmps12
      go_wp2_with fail
      refine hrd.mono ?_
      rintro e w1 ⟨rfl, rfl⟩
      go_wp2_with fail
      go_quiet ((go_at_call 30; exact Calls.quiet_of_eq (HLEN.out _)))
      go_wp2_with fail
      refine wp_gen (fun W1 => PSt base W1 g (.slice A n cap) s ∧ Nx w W1 g (.slice A n cap) (.slice A n cap)) ⟨HP.out.below ((Below.refl _ _).drewN _), Nx.of_below ((Below.refl _ _).drewN _)⟩ ?_
      rintro W1 ⟨p1, n1⟩
      have hb1 : base ≤ W1.heap.size := Nat.le_trans hb n1.size
      have hlen : s.bs.length + (q ++ [10]).length ≤ 70368744177664 := by have := hn.out; simp; omega
      obtain ⟨f, hf⟩ : ∃ f : World → Value × World, ∀ W, (convert 9 52 (.string ⟨l.toArray⟩)).run Try.prog W = .ok (f W).1 (f W).2 ∧ OwnF W.heap.size (f W).2 (f W).1 l ∧ Below W.heap.size W (f W).2 :=
        ⟨fun W => (Classical.choose (own_conv W l (by omega)), Classical.choose (Classical.choose_spec (own_conv W l (by omega)))), fun W => Classical.choose_spec (Classical.choose_spec (own_conv W l (by omega)))⟩
      have hcv := fun W => (hf W).1
      have HF2 := Lib.hid (fun W => (hf W).2)
      have c0 := p1.2.1.cell (k := 0) rfl
      have HCL : Hid (∀ W, Below W1.heap.size W1 W → W.cell? ⟨g, 0, none⟩ = some (.slice A n cap)) := Lib.hid (fun W hW => (p1.below hW).2.1.cell rfl)
      have HPW : Hid (∀ W, Below W1.heap.size W1 W → PSt base W g (.slice A n cap) s) := Lib.hid (fun W hW => p1.below hW)
      have HEN : Hid (∀ W, Calls Try.prog 31 #[(f W).1, .bool true] (f W).2 fun e w' => ∃ v, e = .returned v ∧ v = .string ⟨q.toArray⟩ ∧ Below (f W).2.heap.size (f W).2 w') := Lib.hid (fun W => by
        have := enc_any _ _ l (f W).2 (hf W).2.1 hl
        rw [HQ.out] at this
        exact this.mono fun e w' ⟨h1, h2⟩ => ⟨_, h1, rfl, h2⟩)
      have h63 : ¬ 9223372036854775807 < q.length + 1 := by omega
      have HP1 := Lib.hid p1
      have HN1 := Lib.hid n1
      clear hf p1 n1 hrd c1 c2 c3 c4 c5 f0 f1 f2 f3 f4 f5 HP
      have cA : (f W1.drew).2.cell? ⟨g, 0, none⟩ = some (.slice A n cap) := HCL.out _ (Below.then_ (Below.refl _ _).drew (HF2.out _).2)
      go_region_law
        ((first
          | (refine step_go rfl 31 #[(f W1.drew).1, .bool true] (by go_simp) (fun v w' => v = .string ⟨q.toArray⟩ ∧ Below (f W1.drew).2.heap.size (f W1.drew).2 w') (HEN.out W1.drew) ?_; rintro v wv ⟨rfl, bv⟩; have hq1 : Below W1.heap.size W1 wv := (Below.then_ (Below.then_ (Below.refl _ _).drew (HF2.out _).2) bv); have c1 := HCL.out _ hq1)
          | (refine step_append_text (by rfl) _ _ (by rfl) base _ s.bs (by rfl) (HPW.out _ hq1).1 (q ++ [10]) (by rfl) hlen (Nat.le_trans hb1 hq1.size) ?_; intro v3 w3 ho3 g3 hw3; obtain ⟨A3, n3, cap3, rfl, -, -, -⟩ := ho3.form; have hB3 := (HPW.out _ hq1).2.1.keptR g3 (HPW.out _ hq1).2.2; have c3 := hB3.cell (k := 0) rfl; have f3 := hB3.frozen 0)))
      all_goals
        obtain ⟨p4, n4⟩ := app_done hq1 (HPW.out _ hq1) ho3 g3 hw3 hB3
        have hA := act_calls base g _ { s with bs := s.bs ++ (q ++ [10]) } HOK2.out hac HD.out _ p4
        have HN4 := Lib.hid n4
        clear c0 c1 cA c3 f3 hB3 g3 hw3 ho3 p4 n4
        go_wp2_with fail
        refine hA.mono ?_
        rintro e w5 ⟨rfl, v5, p5, n5⟩
        go_wp2_with fail
        go_ret
        rw [HF.out]
        exact ⟨rfl, v5, p5, HN1.out.trans (HN4.out.trans n5)⟩
end Go.Proofs.Ythhnbpbebplcoaa
