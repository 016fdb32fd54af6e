/- Layer 5: text; what Rest answers. -/
import Derived.Test.YtmegjpjfkpgmbaaDoorScF
import Derived.Test.YtmegjpjfkpgmbaaDoorScI
import Derived.Test.YtmegjpjfkpgmbaaDoorLh
import Derived.Stop.BytesEq
namespace Go.Proofs.YtmegjpjfkpgmbaaDoor
open Go.ChangeShapes Go.WideShapes Go.ChangeAt Go.RowKit Go.IntWalk
set_option linter.unusedVariables false

theorem noGuard32 : Tryd.prog.eqGuardType Tryd.prog.depth 23 = false := by kernel_rfl
theorem guard_bytes (op : BinOp) (b c : List UInt8) (x y : Operand) (W : World) : (eqGuard op 23 x y (A32 b) (A32 c)).run Tryd.prog W = .ok () W :=
  run_eqGuard_agg W op 23 x y _ _ noGuard32
theorem eq_bytes (b c : List UInt8) (hb : b.length = 32) (hc : c.length = 32) (W : World) : (binOp .eql 23 (A32 b) (A32 c)).run Tryd.prog W = .ok (.bool (b == c)) W :=
  Go.run_eql_bytes W 23 5 32 Tryd.underlying23 Tryd.underlying5 (fun w => Tryd.sizeOf5 w) b c hb hc
theorem neq_bytes (b c : List UInt8) (hb : b.length = 32) (hc : c.length = 32) (W : World) : (binOp .neq 23 (A32 b) (A32 c)).run Tryd.prog W = .ok (.bool (!(b == c))) W := by
  show (binOp .neq 23 (.agg (b.map fun c => Value.int .u8 c.toNat).toArray) (.agg (c.map fun c => Value.int .u8 c.toNat).toArray)).run Tryd.prog W = .ok (.bool (!(b == c))) W
  rw [run_neq_struct, show (Op.equalIn 10000 23 (.agg (b.map fun c => Value.int .u8 c.toNat).toArray) (.agg (c.map fun c => Value.int .u8 c.toNat).toArray)).run Tryd.prog W = .ok (b == c) W from
    run_equalIn_bytes W 9998 23 5 32 Tryd.underlying23 Tryd.underlying5 (fun w => Tryd.sizeOf5 w) b c hb hc]
  rfl
def byteN (n : UInt8) : List UInt8 := n :: List.replicate 31 0
theorem litB7 : A32 (byteN 7) = .agg #[.int .u8 7, .int .u8 0, .int .u8 0, .int .u8 0, .int .u8 0, .int .u8 0, .int .u8 0, .int .u8 0, .int .u8 0, .int .u8 0, .int .u8 0, .int .u8 0, .int .u8 0, .int .u8 0, .int .u8 0, .int .u8 0, .int .u8 0, .int .u8 0, .int .u8 0, .int .u8 0, .int .u8 0, .int .u8 0, .int .u8 0, .int .u8 0, .int .u8 0, .int .u8 0, .int .u8 0, .int .u8 0, .int .u8 0, .int .u8 0, .int .u8 0, .int .u8 0] := rfl
theorem litB10 : A32 (byteN 10) = .agg #[.int .u8 10, .int .u8 0, .int .u8 0, .int .u8 0, .int .u8 0, .int .u8 0, .int .u8 0, .int .u8 0, .int .u8 0, .int .u8 0, .int .u8 0, .int .u8 0, .int .u8 0, .int .u8 0, .int .u8 0, .int .u8 0, .int .u8 0, .int .u8 0, .int .u8 0, .int .u8 0, .int .u8 0, .int .u8 0, .int .u8 0, .int .u8 0, .int .u8 0, .int .u8 0, .int .u8 0, .int .u8 0, .int .u8 0, .int .u8 0, .int .u8 0, .int .u8 0] := rfl
theorem rb_blk {w : World} {g : Nat} {bs : List UInt8} {T : TypeId} (h : Blk w g T (u8b bs)) : RB w (some ⟨g, 0, none⟩) bs := by
  intro k hk
  refine ⟨g, 0, rfl, h.lt, ?_⟩
  rw [Nat.zero_add]
  have := h.cell (u8b_at (List.getElem?_eq_getElem hk))
  rw [this]; simp [List.getD, hk]
section
variable {P : Program} {ops : Array Oper} {w0 : World} {Lq : Gh → Act → Prop} {o : Oper} {rest : List Oper} {kds : List Kd} {s : Gh} {a : Act}
theorem lg_skip (hw : Region.wanted o (yielded ops a.tmps) = false) (h2 : wpG P ops w0 Lq rest kds s (a.put o.dst undef)) : wpG P ops w0 Lq (o :: rest) (.rel (· = undef) :: kds) s a :=
  ⟨⟨⟨_, rfl⟩, .inr ⟨hw, rfl⟩⟩, fun v hv => by subst hv; exact h2⟩
end
set_option maxRecDepth 100000 in
theorem text_calls (bs : List UInt8) (hl : bs.length = 32) (w : World) :
    Calls Tryd.prog 10 #[A32 bs] w fun e w' => e = .returned (.string ⟨bs.toArray⟩) ∧ Below w.heap.size w w' := by
  unfold A32
  have h0 : Blk (w.alloc (.cells (u8b bs).toArray 23)) w.heap.size 23 (u8b bs) := Blk.new _ _ _
  have hs := run_str_rb _ (some ⟨w.heap.size, 0, none⟩) 32 32 bs (rb_blk h0) (Lib.hid hl.symm)
  have hb := (Below.refl w.heap.size w).alloc (Nat.le_refl _) (.cells (u8b bs).toArray 23)
  have HB := Lib.hid hb
  obtain ⟨cs, hcs⟩ : ∃ cs, u8b bs = cs := ⟨_, rfl⟩
  rw [hcs] at hs HB ⊢
  clear h0 hb hcs
  go_enter Tryd.func10, Tryd.ntmps10
  go_wp2_with fail
  go_ret
  exact ⟨rfl, HB.out⟩
set_option maxRecDepth 100000 in
set_option maxHeartbeats 4000000 in
theorem scalarRests_walk (A : Option Addr) (n c : Nat) (bs : List UInt8) {w : World} (hr : RB w A bs) (hn : Hid (n = bs.length)) (hc : n ≤ c) (hT : Tab w) :
    Calls Tryd.prog 3 #[.slice A n c] w fun e w' => e = .returned (.bool true) ∧ Below w.heap.size w w' := by
  have hT1 := hT.later ((Below.refl w.heap.size w).alloc (Nat.le_refl _) (.cells #[.int .u8 7] 5))
  have hk1 := rb_const w [7] #[.int .u8 7] rfl (0, 0)
  have H0 := Lib.hid (And.intro hT hr)
  have H1 := Lib.hid (And.intro hT1 hk1)
  have g1 := guard_bytes .neq (leB 32 (leN [7] % LO)) (byteN 7)
  have q1 := neq_bytes (leB 32 (leN [7] % LO)) (byteN 7) (leB_len _ _) rfl
  have e7 : (!(leB 32 (leN [7] % LO) == byteN 7)) = false := by decide +kernel
  rw [litB7] at g1
  rw [e7, litB7] at q1
  clear hT hr hT1 hk1 e7
  go_enter Tryd.func3, Tryd.ntmps3
  go_wp2_with fail
  refine (rest_calls _ 1 1 [7] (Lib.hid rfl) (by decide) _ H1.out.1 H1.out.2).mono ?_
  rintro e w1 ⟨rfl, b1⟩
  have hb1 : Below w.heap.size w w1 := (Below.of_alloc b1)
  have HB1 := Lib.hid (And.intro (H0.out.1.later hb1) (And.intro (H0.out.2.below hb1) hb1))
  clear b1 hb1 H1
  go_wp2_with fail
  clear g1 q1
  generalize A32 (byteN 7) = z7 at *
  by_cases hbig : 1024 < n
  · have hb : decide ((1024 : Int) < (n : Int)) = true := by simp; omega
    apply wp_region_g 12 (by kernel_rfl) (by kernel_rfl)
    simp only [List.take_succ_cons, List.take_zero, List.drop_succ_cons, List.drop_zero]
    apply lg_pure (.slice A n c) rfl (by intro W; go_simp)
    simp only [Act.put, List.setIfInBounds_toArray, List.set_cons_succ, List.set_cons_zero]
    apply lg_pure (.int .i64 (n : Int)) rfl (by intro W; go_simp)
    simp only [Act.put, List.setIfInBounds_toArray, List.set_cons_succ, List.set_cons_zero]
    apply lg_pure (.bool true) rfl (by intro W; go_simp)
    simp only [Act.put, List.setIfInBounds_toArray, List.set_cons_succ, List.set_cons_zero]
    apply lg_pure (.bool true) rfl (by intro W; go_simp)
    simp only [Act.put, List.setIfInBounds_toArray, List.set_cons_succ, List.set_cons_zero]
    apply lg_skip rfl
    simp only [Act.put, List.setIfInBounds_toArray, List.set_cons_succ, List.set_cons_zero]
    apply lg_skip rfl
    simp only [Act.put, List.setIfInBounds_toArray, List.set_cons_succ, List.set_cons_zero]
    apply lg_skip rfl
    simp only [Act.put, List.setIfInBounds_toArray, List.set_cons_succ, List.set_cons_zero]
    apply lg_skip rfl
    simp only [Act.put, List.setIfInBounds_toArray, List.set_cons_succ, List.set_cons_zero]
    apply lg_skip rfl
    simp only [Act.put, List.setIfInBounds_toArray, List.set_cons_succ, List.set_cons_zero]
    apply lg_skip rfl
    simp only [Act.put, List.setIfInBounds_toArray, List.set_cons_succ, List.set_cons_zero]
    apply lg_skip rfl
    simp only [Act.put, List.setIfInBounds_toArray, List.set_cons_succ, List.set_cons_zero]
    apply lg_pure (.bool true) rfl (by intro W; go_simp)
    simp only [Act.put, List.setIfInBounds_toArray, List.set_cons_succ, List.set_cons_zero]
    refine lg_nil ?_
    intro w7 hC7
    have H7 := Lib.hid (HB1.out.2.2.then_ hC7.1)
    clear hC7
    go_wp2_with fail
    go_ret
    exact ⟨rfl, H7.out⟩
  · have hb : decide ((1024 : Int) < (n : Int)) = false := by simp; omega
    have hlen : n ≤ 2 ^ 40 := by omega
    apply wp_region_g 12 (by kernel_rfl) (by kernel_rfl)
    simp only [List.take_succ_cons, List.take_zero, List.drop_succ_cons, List.drop_zero]
    apply lg_pure (.slice A n c) rfl (by intro W; go_simp)
    simp only [Act.put, List.setIfInBounds_toArray, List.set_cons_succ, List.set_cons_zero]
    apply lg_pure (.int .i64 (n : Int)) rfl (by intro W; go_simp)
    simp only [Act.put, List.setIfInBounds_toArray, List.set_cons_succ, List.set_cons_zero]
    apply lg_pure (.bool false) rfl (by intro W; go_simp)
    simp only [Act.put, List.setIfInBounds_toArray, List.set_cons_succ, List.set_cons_zero]
    apply lg_pure (.bool false) rfl (by intro W; go_simp)
    simp only [Act.put, List.setIfInBounds_toArray, List.set_cons_succ, List.set_cons_zero]
    apply lg_pure (.slice A n c) rfl (by intro W; go_simp)
    simp only [Act.put, List.setIfInBounds_toArray, List.set_cons_succ, List.set_cons_zero]
    apply lg_callx_in (A32 (leB 32 (leN bs % LO))) 9 #[.slice A n c] rfl (by intro W; go_simp) (fun W hW => rest_calls A n c bs hn (by omega) W (HB1.out.1.later hW) (HB1.out.2.1.below hW))
    simp only [Act.put, List.setIfInBounds_toArray, List.set_cons_succ, List.set_cons_zero]
    apply lg_callx_in (.string ⟨(leB 32 (leN bs % LO)).toArray⟩) 10 #[A32 (leB 32 (leN bs % LO))] rfl (by intro W; go_simp) (fun W hW => text_calls _ (leB_len _ _) W)
    simp only [Act.put, List.setIfInBounds_toArray, List.set_cons_succ, List.set_cons_zero]
    apply lg_pure (.slice A n c) rfl (by intro W; go_simp)
    simp only [Act.put, List.setIfInBounds_toArray, List.set_cons_succ, List.set_cons_zero]
    apply lg_run (.string ⟨bs.toArray⟩) rfl (by intro W hW; have := run_str_rb W A n c _ (HB1.out.2.1.below hW) hn; go_simp)
    simp only [Act.put, List.setIfInBounds_toArray, List.set_cons_succ, List.set_cons_zero]
    apply lg_callx_in (.string ⟨(leB 32 (leN bs % LO)).toArray⟩) 11 #[.string ⟨bs.toArray⟩] rfl (by intro W; go_simp) (fun W hW => refRest_calls bs (by rw [← hn.out]; exact hlen) W)
    simp only [Act.put, List.setIfInBounds_toArray, List.set_cons_succ, List.set_cons_zero]
    apply lg_pure (.bool true) rfl (by intro W; go_simp)
    simp only [Act.put, List.setIfInBounds_toArray, List.set_cons_succ, List.set_cons_zero]
    apply lg_pure (.bool true) rfl (by intro W; go_simp)
    simp only [Act.put, List.setIfInBounds_toArray, List.set_cons_succ, List.set_cons_zero]
    refine lg_nil ?_
    intro w7 hC7
    have H7 := Lib.hid (HB1.out.2.2.then_ hC7.1)
    clear hC7
    go_wp2_with fail
    go_ret
    exact ⟨rfl, H7.out⟩
end Go.Proofs.YtmegjpjfkpgmbaaDoor
