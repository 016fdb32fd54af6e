/- Layer 19: the program's spool, walked: what makes no memory. -/
import Derived.Test.YthhnbpbebplcoaaSpC
namespace Go.Proofs.Ythhnbpbebplcoaa
open Go.ChangeShapes Go.WideShapes Go.ChangeAt Go.RowKit Go.IntWalk
set_option linter.unusedVariables false

/-- The program's spool's cells. -/
def PCs (v : Value) (s : Sp) : List Value := [v, .int .i64 (s.sy : Int), .bool s.dn, .int .i64 (s.ac : Int), .int .i64 (s.lf : Int), .int .i64 s.kp]
def PSt (base : Nat) (w : World) (g : Nat) (v : Value) (s : Sp) : Prop := OwnF base w v s.bs ∧ Blk w g 54 (PCs v s) ∧ v.ownBlock ≠ some g
/-- What a call on the spool at g leaves of everything else. -/
structure Nx (w w' : World) (g : Nat) (v v' : Value) : Prop where
  os : w'.os = w.os
  tape : w'.tape = w.tape
  output : w'.output = w.output
  size : w.heap.size ≤ w'.heap.size
  block : ∀ k, k < w.heap.size → k ≠ g → v.ownBlock ≠ some k → w'.heap[k]? = w.heap[k]?
  own : v'.ownBlock = v.ownBlock ∨ v'.ownBlock = none ∨ ∃ k, v'.ownBlock = some k ∧ w.heap.size ≤ k
section
variable {w w1 w2 : World} {g base : Nat} {v v1 v2 : Value} {s : Sp}
theorem Nx.refl (w : World) (g : Nat) (v : Value) : Nx w w g v v := ⟨rfl, rfl, rfl, Nat.le_refl _, fun _ _ _ _ => rfl, .inl rfl⟩
theorem Nx.trans (h : Nx w w1 g v v1) (h2 : Nx w1 w2 g v1 v2) : Nx w w2 g v v2 := by
  refine ⟨h2.os.trans h.os, h2.tape.trans h.tape, h2.output.trans h.output, Nat.le_trans h.size h2.size, fun k hk hg ho => ?_, ?_⟩
  · refine (h2.block k (Nat.lt_of_lt_of_le hk h.size) hg ?_).trans (h.block k hk hg ho)
    rcases h.own with e | e | ⟨j, e, hj⟩
    · rw [e]; exact ho
    · rw [e]; simp
    · rw [e]; simp; omega
  · rcases h2.own with e | e | ⟨j, e, hj⟩
    · rw [e]; exact h.own
    · exact .inr (.inl e)
    · exact .inr (.inr ⟨j, e, Nat.le_trans h.size hj⟩)
theorem Nx.of_gb (h : w.grownBy w1 (some g)) : Nx w w1 g v v := ⟨h.os, h.tape, h.output, h.size, fun k hk hg _ => h.block k hk (by simpa using hg), .inl rfl⟩
theorem Nx.of_below (h : Below w.heap.size w w1) : Nx w w1 g v v := ⟨h.os, h.tape, h.output, h.size, fun k hk _ _ => h.block k hk, .inl rfl⟩
theorem PSt.lt (h : PSt base w g v s) : g < w.heap.size := h.2.1.lt
theorem PSt.below (h : PSt base w g v s) (b : Below w.heap.size w w1) : PSt base w1 g v s := ⟨h.1.below b, h.2.1.later b, h.2.2⟩
theorem PSt.own (h : PSt base w g v s) (k : Nat) (hk : v.ownBlock = some k) : base ≤ k ∧ k < w.heap.size := h.1.lt k hk
/-- Another's memory stays. -/
theorem Nx.blk (h : Nx w w1 g v v1) {m : Nat} {T : TypeId} {cs : List Value} (hb : Blk w m T cs) (hg : m ≠ g) (ho : v.ownBlock ≠ some m) : Blk w1 m T cs := (h.block m hb.lt hg ho).trans hb
theorem Nx.below {a : World} {B : Nat} (h : Nx w w1 g v v1) (hb : Below B a w) (hB : B ≤ g) (hw : B ≤ w.heap.size) (ho : ∀ k, v.ownBlock = some k → B ≤ k) : Below B a w1 :=
  ⟨h.os.trans hb.os, h.tape.trans hb.tape, h.output.trans hb.output, Nat.le_trans hb.size h.size, fun k hk => (h.block k (by omega) (by omega) (fun e => by have := ho k e; omega)).trans (hb.block k hk)⟩
theorem PSt.cells (h : Blk w g 54 (PCs v s)) :
    w.cell? ⟨g, 0, none⟩ = some v ∧ w.cell? ⟨g, 1, none⟩ = some (.int .i64 (s.sy : Int)) ∧ w.cell? ⟨g, 2, none⟩ = some (.bool s.dn) ∧ w.cell? ⟨g, 3, none⟩ = some (.int .i64 (s.ac : Int)) ∧ w.cell? ⟨g, 4, none⟩ = some (.int .i64 (s.lf : Int)) ∧ w.cell? ⟨g, 5, none⟩ = some (.int .i64 s.kp) ∧
    w.frozen? ⟨g, 0, none⟩ = false ∧ w.frozen? ⟨g, 1, none⟩ = false ∧ w.frozen? ⟨g, 2, none⟩ = false ∧ w.frozen? ⟨g, 3, none⟩ = false ∧ w.frozen? ⟨g, 4, none⟩ = false ∧ w.frozen? ⟨g, 5, none⟩ = false :=
  ⟨h.cell rfl, h.cell rfl, h.cell rfl, h.cell rfl, h.cell rfl, h.cell rfl, h.frozen _, h.frozen _, h.frozen _, h.frozen _, h.frozen _, h.frozen _⟩
theorem Nx.own_same {w w1 : World} {g : Nat} {v v' : Value} (h : Nx w w1 g v v) (e : v'.ownBlock = v.ownBlock) : Nx w w1 g v v' := ⟨h.os, h.tape, h.output, h.size, h.block, .inl e⟩
theorem own_slice (A : Option Addr) (n m cap : Nat) : (Value.slice A n cap).ownBlock = (Value.slice A m cap).ownBlock := by cases A <;> rfl
/-- The bytes' own memory stays, when the spool's own block alone turns. -/
theorem OwnF.gb {bs : List UInt8} (h : OwnF base w v bs) (hg : w.grownBy w1 (some g)) (hne : v.ownBlock ≠ some g) : OwnF base w1 v bs :=
  h.stay fun k hk => hg.block k (h.lt k hk).2 (by rw [← hk]; exact hne)
end
set_option maxHeartbeats 2000000 in
theorem off_calls (base g : Nat) (v : Value) (s : Sp) (k : Int) (hk : -9223372036854775808 ≤ k ∧ k ≤ 9223372036854775807) (hs : s.Ok) (w : World) (h : PSt base w g v s) :
    Calls Try.prog 19 #[.pointer (some ⟨g, 0, none⟩), .int .i64 k] w fun e w' => e = .returned (.tuple #[]) ∧ ∃ v', PSt base w' g v' (s.off k) ∧ Nx w w' g v v' := by
  obtain ⟨c0, c1, c2, c3, c4, c5, f0, f1, f2, f3, f4, f5⟩ := PSt.cells h.2.1
  have HP := Lib.hid h
  by_cases hd : s.dn = true
  · have HS := Lib.hid (show s.off k = s by unfold Sp.off; rw [if_pos hd])
    rw [hd] at c2
    clear h hd hs hk
    go_enter Try.func19, Try.ntmps19
    go_wp2_with fail
    exact bodyPost_ret (results_none rfl _ _ _) rfl ⟨rfl, v, by rw [HS.out]; exact HP.out, Nx.refl _ _ _⟩
  · replace hd : s.dn = false := by simpa using hd
    obtain ⟨A, n, cap, rfl, hr, hn, hc⟩ := h.1.form
    have hsy := hs.sy
    have hbl := hs.len
    have hnl : n ≤ 4194304 := by rw [hn.out]; exact hbl
    have hoff := s.offK_le k hsy
    obtain ⟨q, hq⟩ : ∃ q, s.offK k = q := ⟨_, rfl⟩
    rw [hq] at hoff
    obtain ⟨sy, hsy0⟩ : ∃ y, s.sy = y := ⟨_, rfl⟩
    have hw1 : IntKind.i64.wrap ((n : Int) - (sy : Int)) = (n : Int) - (sy : Int) := IntWalk.i64_in _ (by omega)
    have HS := Lib.hid (show s.off k = { s with bs := s.bs.take (sy + q), sy := sy + q, dn := true, lf := 0 } by unfold Sp.off; rw [if_neg (by simp [hd]), hq, hsy0])
    rw [hsy0] at c1 hsy hoff
    rw [hd] at c2
    have hnn := hn.out
    have hsc : sy + q ≤ cap := by omega
    have hsn : sy + q ≤ n := by omega
    obtain ⟨z, hz⟩ : ∃ z, (if (n : Int) - (sy : Int) < k then (n : Int) - (sy : Int) else k) = z := ⟨_, rfl⟩
    have hzq : (if 0 < z then z else 0) = (q : Int) := by
      have := hq
      unfold Sp.offK at this
      rw [hsy0] at this
      split at hz <;> split <;> omega
    have HSY := Lib.hid (And.intro hsy0 hd)
    clear h hd hs hr hq hnn hsy hoff hbl hsy0
    go_enter Try.func19, Try.ntmps19
    go_wp2_with fail
    go_quiet (fail)
    clear hz hzq
    go_wp2_with fail
    go_region
    go_wp2_with fail
    go_end0
    refine ⟨rfl, .slice A (sy + q) cap, ?_, ?_⟩
    · have hg : (w.drewN (nq + 1)).grownBy (((((w.drewN (nq + 1)).setCell ⟨g, 0, none⟩ (Value.slice A (sy + q) cap)).setCell ⟨g, 1, none⟩ (.int .i64 ((sy : Int) + (q : Int)))).setCell ⟨g, 2, none⟩ (.bool true)).setCell ⟨g, 4, none⟩ (.int .i64 0)) (some g) :=
        ((((gb_setCell _ g _ _).trans (gb_setCell _ g _ _)).trans (gb_setCell _ g _ _)).trans (gb_setCell _ g _ _))
      have hne : (Value.slice A (sy + q) cap).ownBlock ≠ some g := by rw [own_slice A (sy + q) n cap]; exact HP.out.2.2
      rw [HS.out]
      refine ⟨?_, ?_, hne⟩
      · have h2 := (HP.out.1.take (sy + q) (by rw [← hn.out]; exact hsn))
        exact OwnF.gb (show OwnF base (w.drewN (nq + 1)) _ _ from h2) hg hne
      · have h3 := ((((HP.out.2.1.drewN (nq + 1)).set_ 0 (Value.slice A (sy + q) cap)).set_ 1 (.int .i64 ((sy : Int) + (q : Int)))).set_ 2 (.bool true)).set_ 4 (.int .i64 0)
        rw [← Int.natCast_add] at h3 ⊢
        exact h3
    · refine Nx.own_same ((Nx.of_gb (gb_drewN w (nq + 1) _)).trans (Nx.of_gb ?_)) (own_slice A (sy + q) n cap)
      exact ((((gb_setCell _ g _ _).trans (gb_setCell _ g _ _)).trans (gb_setCell _ g _ _)).trans (gb_setCell _ g _ _))
theorem on_calls (base g : Nat) (v : Value) (s : Sp) (w : World) (h : PSt base w g v s) :
    Calls Try.prog 21 #[.pointer (some ⟨g, 0, none⟩)] w fun e w' => e = .returned (.tuple #[]) ∧ PSt base w' g v s.on ∧ Nx w w' g v v := by
  obtain ⟨c0, c1, c2, c3, c4, c5, f0, f1, f2, f3, f4, f5⟩ := PSt.cells h.2.1
  have HP := Lib.hid h
  clear h
  go_enter Try.func21, Try.ntmps21
  go_wp2_with fail
  go_end0
  exact ⟨rfl, ⟨OwnF.gb HP.out.1 (gb_setCell w g _ _) HP.out.2.2, HP.out.2.1.set_ 2 (.bool false), HP.out.2.2⟩, Nx.of_gb (gb_setCell w g _ _)⟩
theorem arm_calls (base g : Nat) (v : Value) (s : Sp) (n k : Int) (w : World) (h : PSt base w g v s) :
    Calls Try.prog 22 #[.pointer (some ⟨g, 0, none⟩), .int .i64 n, .int .i64 k] w fun e w' => e = .returned (.tuple #[]) ∧ PSt base w' g v (s.arm n k) ∧ Nx w w' g v v := by
  obtain ⟨c0, c1, c2, c3, c4, c5, f0, f1, f2, f3, f4, f5⟩ := PSt.cells h.2.1
  have HP := Lib.hid h
  clear h
  by_cases hn : 0 < n
  · obtain ⟨q, rfl⟩ : ∃ q : Nat, n = (q : Int) := ⟨n.toNat, by omega⟩
    go_enter Try.func22, Try.ntmps22
    go_wp2_with fail
    go_end0
    have hg := (gb_setCell w g 4 (.int .i64 (q : Int))).trans (gb_setCell _ g 5 (.int .i64 k))
    exact ⟨rfl, ⟨OwnF.gb HP.out.1 hg HP.out.2.2, (HP.out.2.1.set_ 4 (.int .i64 (q : Int))).set_ 5 (.int .i64 k), HP.out.2.2⟩, Nx.of_gb hg⟩
  · have HN := Lib.hid (show n.toNat = 0 by omega)
    go_enter Try.func22, Try.ntmps22
    go_wp2_with fail
    go_end0
    have hg := (gb_setCell w g 4 (.int .i64 0)).trans (gb_setCell _ g 5 (.int .i64 k))
    have h3 := (HP.out.2.1.set_ 4 (.int .i64 0)).set_ 5 (.int .i64 k)
    have e : s.arm n k = { s with lf := 0, kp := k } := by unfold Sp.arm; rw [HN.out]
    rw [e]
    exact ⟨rfl, ⟨OwnF.gb HP.out.1 hg HP.out.2.2, h3, HP.out.2.2⟩, Nx.of_gb hg⟩
/-- The error that tells that the power is off. -/
def errD (b : Bool) : Int := if b then 50 else 0
theorem bytes_calls (base g : Nat) (v : Value) (s : Sp) (w : World) (h : PSt base w g v s) :
    Calls Try.prog 24 #[.pointer (some ⟨g, 0, none⟩)] w fun e w' => e = .returned (strV s.bs) ∧ w = w' := by
  obtain ⟨c0, c1, c2, c3, c4, c5, f0, f1, f2, f3, f4, f5⟩ := PSt.cells h.2.1
  obtain ⟨A, n, cap, rfl, hr, hn, hc⟩ := h.1.form
  have hcv := run_str_rb w A n cap s.bs hr hn
  clear h hr hn
  go_enter Try.func24, Try.ntmps24
  go_wp2_with fail
  go_ret
  exact ⟨rfl, rfl⟩
theorem acts_calls (base g : Nat) (v : Value) (s : Sp) (w : World) (h : PSt base w g v s) :
    Calls Try.prog 25 #[.pointer (some ⟨g, 0, none⟩)] w fun e w' => e = .returned (.int .i64 (s.ac : Int)) ∧ w = w' := by
  obtain ⟨c0, c1, c2, c3, c4, c5, f0, f1, f2, f3, f4, f5⟩ := PSt.cells h.2.1
  clear h
  go_enter Try.func25, Try.ntmps25
  go_wp2_with fail
  go_ret
  exact ⟨rfl, rfl⟩
theorem down_calls (base g : Nat) (v : Value) (s : Sp) (w : World) (h : PSt base w g v s) :
    Calls Try.prog 26 #[.pointer (some ⟨g, 0, none⟩)] w fun e w' => e = .returned (.bool s.dn) ∧ w = w' := by
  obtain ⟨c0, c1, c2, c3, c4, c5, f0, f1, f2, f3, f4, f5⟩ := PSt.cells h.2.1
  clear h
  go_enter Try.func26, Try.ntmps26
  go_wp2_with fail
  go_ret
  exact ⟨rfl, rfl⟩
theorem ready_calls (base g : Nat) (v : Value) (s : Sp) (w : World) (h : PSt base w g v s) :
    Calls Try.prog 29 #[.pointer (some ⟨g, 0, none⟩)] w fun e w' => e = .returned (.int .i64 (errD s.dn)) ∧ w = w' := by
  obtain ⟨c0, c1, c2, c3, c4, c5, f0, f1, f2, f3, f4, f5⟩ := PSt.cells h.2.1
  clear h
  cases hd : s.dn <;> rw [hd] at c2
  all_goals
    clear hd
    go_enter Try.func29, Try.ntmps29
    go_wp2_with fail
    go_ret
    exact ⟨rfl, rfl⟩
set_option maxHeartbeats 2000000 in
theorem act_calls (base g : Nat) (v : Value) (s : Sp) (hs : s.Ok) (hac : s.ac < 1000000) (hd : s.dn = false) (w : World) (h : PSt base w g v s) :
    Calls Try.prog 32 #[.pointer (some ⟨g, 0, none⟩)] w fun e w' => e = .returned (.int .i64 (errD s.act.2)) ∧ ∃ v', PSt base w' g v' s.act.1 ∧ Nx w w' g v v' := by
  obtain ⟨bs, sy, dn, ac, lf, kp⟩ := s
  dsimp only at hac hd
  subst hd
  have hlf := hs.lf
  dsimp only at hlf
  have HS : Hid (Sp.Ok ⟨bs, sy, false, ac + 1, 0, kp⟩) := Lib.hid ⟨hs.sy, hs.len, by show 0 < 2 ^ 63; omega, hs.kp⟩
  have HKP := Lib.hid hs.kp
  clear hs
  obtain ⟨c0, c1, c2, c3, c4, c5, f0, f1, f2, f3, f4, f5⟩ := PSt.cells h.2.1
  have HP := Lib.hid h
  have HG1 := Lib.hid (gb_setCell w g 3 (.int .i64 ((ac : Int) + 1)))
  have H3 := Lib.hid (show PSt base (w.setCell ⟨g, 3, none⟩ (.int .i64 ((ac : Int) + 1))) g v ⟨bs, sy, false, ac + 1, lf, kp⟩ from
    ⟨h.1.gb HG1.out h.2.2, by have := h.2.1.set_ 3 (.int .i64 ((ac : Int) + 1)); rw [← Int.natCast_one, ← Int.natCast_add] at this ⊢; exact this, h.2.2⟩)
  clear h
  by_cases h0 : lf = 0
  · subst h0
    go_enter Try.func32, Try.ntmps32
    go_wp2_with fail
    go_ret
    exact ⟨rfl, v, H3.out, Nx.of_gb HG1.out⟩
  · obtain ⟨q, rfl⟩ : ∃ q, lf = q + 1 := ⟨lf - 1, by omega⟩
    have H4 := Lib.hid (show PSt base ((w.setCell ⟨g, 3, none⟩ (.int .i64 ((ac : Int) + 1))).setCell ⟨g, 4, none⟩ (.int .i64 (q : Int))) g v ⟨bs, sy, false, ac + 1, q, kp⟩ from
      ⟨H3.out.1.gb (gb_setCell _ g _ _) H3.out.2.2, H3.out.2.1.set_ 4 (.int .i64 (q : Int)), H3.out.2.2⟩)
    have HG2 := Lib.hid (HG1.out.trans (gb_setCell _ g 4 (.int .i64 (q : Int))))
    have hqq : ((q + 1 : Nat) : Int) - 1 = (q : Int) := by omega
    have hq2 : (q : Int) + 1 - 1 = (q : Int) := by omega
    by_cases h1 : q = 0
    · subst h1
      go_enter Try.func32, Try.ntmps32
      go_wp2_with fail
      refine (off_calls base g v ⟨bs, sy, false, ac + 1, 0, kp⟩ kp HKP.out HS.out _ H4.out).mono ?_
      rintro e w2 ⟨rfl, v2, p2, n2⟩
      go_wp2
      go_ret
      exact ⟨rfl, v2, p2, (Nx.of_gb HG2.out).trans n2⟩
    · have hqp : decide (0 < (q : Int)) = true := decide_eq_true (by omega)
      have HA : Hid (Sp.act ⟨bs, sy, false, ac, q + 1, kp⟩ = (⟨bs, sy, false, ac + 1, q, kp⟩, false)) := Lib.hid (by unfold Sp.act; rw [if_neg (by simp), if_neg (by dsimp only; omega)]; rfl)
      go_enter Try.func32, Try.ntmps32
      go_wp2_with fail
      go_ret
      rw [HA.out]
      exact ⟨rfl, v, H4.out, Nx.of_gb HG2.out⟩
end Go.Proofs.Ythhnbpbebplcoaa
