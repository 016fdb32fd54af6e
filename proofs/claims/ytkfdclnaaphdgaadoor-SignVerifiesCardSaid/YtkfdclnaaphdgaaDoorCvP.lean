/- Layer 6: the program's multiples of a point, walked. -/
import Derived.Test.YtkfdclnaaphdgaaDoorCvO
namespace Go.Proofs.YtkfdclnaaphdgaaDoor
open Go.ChangeShapes Go.WideShapes Go.ChangeAt Go.RowKit Go.IntWalk
set_option linter.unusedVariables false

theorem nib_at (es : List UInt8) (m : Nat) (h : m / 2 < es.length) : (es[m / 2]).toNat / 2 ^ (4 * (m % 2)) % 16 = leN es / 16 ^ m % 16 := by
  rw [← leN_at es (m / 2) h]
  have e : (16 : Nat) ^ m = 256 ^ (m / 2) * 2 ^ (4 * (m % 2)) := by
    rw [show (256 : Nat) = 2 ^ 8 by decide, show (16 : Nat) = 2 ^ 4 by decide, ← Nat.pow_mul, ← Nat.pow_mul, ← Nat.pow_add]; congr 1; omega
  rw [e, ← Nat.div_div_eq_div_mul]
  generalize leN es / 256 ^ (m / 2) = x
  have ht : m % 2 < 2 := Nat.mod_lt _ (by decide)
  generalize m % 2 = t at *
  rcases (show t = 0 ∨ t = 1 by omega) with rfl | rfl <;> simp only [Nat.mul_zero, Nat.mul_one, Nat.pow_zero, Nat.reducePow] <;> omega
theorem nib_step (e m : Nat) : 16 * (e / 16 ^ (m + 1)) + e / 16 ^ m % 16 = e / 16 ^ m := by
  rw [Nat.pow_succ, ← Nat.div_div_eq_div_mul]; omega
theorem bits_nib (c t : Nat) (h : c < 256) : bits .and .u8 ((c : Int) / 2 ^ t) 15 = ((c / 2 ^ t % 16 : Nat) : Int) := by
  have e : (c : Int) / 2 ^ t = ((c / 2 ^ t : Nat) : Int) := by rw [Int.natCast_ediv, Int.natCast_pow]; rfl
  have hle : c / 2 ^ t ≤ c := Nat.div_le_self _ _
  rw [e]
  generalize c / 2 ^ t = d at *
  have h1 : bits .and .u8 (d : Int) 15 = (d : Int) % 16 := bits_mask .u8 8 (by decide) (fun x h0 h1 => by rw [IntKind.wrap_u8]; omega) 4 (by decide) _ (by omega) (by omega)
  rw [h1]; omega
/-- Sixteen points' cells: the first ones are multiples. -/
def Ms (p : Pt) (n : Nat) (ms : List Value) : Prop := ms.length = 320 ∧ ∀ j, j ≤ n → PL ((ms.drop (20 * j)).take 20) (Pt.times j p)
theorem Ms.step {p : Pt} {n : Nat} {ms c : List Value} (h : Ms p n ms) (hc : PL c (Pt.times (n + 1) p)) (hn : n + 1 < 16) : Ms p (n + 1) (ms.take (20 * (n + 1)) ++ c ++ ms.drop (20 * (n + 1) + c.length)) := by
  have hl := hc.len
  have hm := h.1
  have ht : (ms.take (20 * (n + 1))).length = 20 * (n + 1) := by rw [List.length_take]; omega
  refine ⟨by simp [hl, hm]; omega, fun j hj => ?_⟩
  rcases Nat.lt_or_ge n j with hx | hx
  · obtain rfl : j = n + 1 := by omega
    have e : ((ms.take (20 * (n + 1)) ++ c ++ ms.drop (20 * (n + 1) + c.length)).drop (20 * (n + 1))).take 20 = c := by
      rw [List.append_assoc, List.drop_append, ht, List.drop_of_length_le (by omega), Nat.sub_self, List.drop_zero, List.nil_append, List.take_append, List.take_of_length_le (by omega), hl]
      simp
    rw [e]; exact hc
  · have e : ((ms.take (20 * (n + 1)) ++ c ++ ms.drop (20 * (n + 1) + c.length)).drop (20 * j)).take 20 = (ms.drop (20 * j)).take 20 := by
      rw [List.append_assoc, List.drop_append, ht, show 20 * j - 20 * (n + 1) = 0 by omega, List.drop_zero, List.take_append, List.length_drop, ht, show 20 - (20 * (n + 1) - 20 * j) = 0 by omega, List.take_zero, List.append_nil, List.drop_take, List.take_take, Nat.min_eq_left (by omega)]
    rw [e]; exact h.2 j hx
theorem idx16 (k : IntKind) (g i : Nat) (hi : i < 16) (W : World) : (Instr.indexAt 75 (.pointer (some ⟨g, 0, none⟩)) (.int k (i : Int))).run Tryd.prog W = .ok (.pointer (some ⟨g, 20 * i, none⟩)) W := by
  have e : i * 20 = 20 * i := Nat.mul_comm _ _
  simp [Instr.indexAt, e, Addr.add, go_sem]
  rw [if_pos hi]
  split
  · rename_i h
    rw [h]
  · rfl
theorem run_idxop {o : Oper} {a : Act} {T : TypeId} {x ix : Operand} {vx vi y : Value} {W : World} (ho : o.op = .indexAddr T x ix) (hx : a.eval x = vx) (hi : a.eval ix = vi) (h : (Instr.indexAt T vx vi).run Tryd.prog W = .ok y W) :
    (execOp a.eval o).run Tryd.prog W = .ok (.value y) W := by
  subst hx hi
  unfold execOp
  rw [ho]
  simp only [Sem.run_bind, h, Result.andThen_ok, Sem.run_pure]
theorem wpList_idxop {ops : Array Oper} {rest : List Oper} {o : Oper} {a : Act} {Q : Exit → Act → World → Prop} {W : World} {T : TypeId} {x ix : Operand} {vx vi y : Value} (hgd : o.guard = none) (ho : o.op = .indexAddr T x ix)
    (hx : a.eval x = vx) (hi : a.eval ix = vi) (h : (Instr.indexAt T vx vi).run Tryd.prog W = .ok y W) (hk : wpList Tryd.prog ops Q rest (a.put o.dst y) W) : wpList Tryd.prog ops Q (o :: rest) a W :=
  wpList_plain hgd fun K hK => by
    unfold Oper.wp
    rw [run_idxop ho hx hi h]
    exact hK _ _ hk
def C320 : List Value := List.replicate 320 (.int .u64 0)
theorem zero320 : (Tryd.prog.info? 75).map (·.zero) = some (some (.agg C320.toArray)) := by kernel_rfl
theorem size320 : (Tryd.prog.info? 75).map (·.size) = some 320 := by kernel_rfl
theorem build16 {c : List Value} {p : Pt} (hc : PL c p) (w : World) : (Instr.build 75 #[(0, .agg c.toArray)]).run Tryd.prog w = .ok (.agg (c ++ List.replicate 300 (Value.int .u64 0)).toArray) w := by
  obtain ⟨_, _, _, _, ⟨_, _, _, _, rfl, hx, hy, hz, ht⟩, _⟩ := hc
  obtain ⟨_, _, _, _, _, rfl⟩ := hx.form
  obtain ⟨_, _, _, _, _, rfl⟩ := hy.form
  obtain ⟨_, _, _, _, _, rfl⟩ := hz.form
  obtain ⟨_, _, _, _, _, rfl⟩ := ht.form
  exact run_build w _ _ _ (by kernel_rfl)
theorem Ms.start {c : List Value} {p : Pt} (hc : PL c Pt.zero) : Ms p 0 (c ++ List.replicate 300 (Value.int .u64 0)) := by
  refine ⟨by rw [List.length_append, hc.len, List.length_replicate], fun j hj => ?_⟩
  obtain rfl : j = 0 := by omega
  rw [Nat.mul_zero, List.drop_zero, List.take_append, hc.len, Nat.sub_self, List.take_zero, List.append_nil, List.take_of_length_le (by rw [hc.len]; omega)]
  exact hc
def MpA (p : Pt) (es : List UInt8) (c1 dd : List Value) (w : World) (g5 g6 n : Nat) (wr : World) : Prop :=
  ∃ ms, Ms p n ms ∧ Blk wr g6 75 ms ∧ Blk wr w.heap.size 42 c1 ∧ Blk wr (w.heap.size + 1) 22 (u8s es) ∧ Blk wr (w.heap.size + 1 + 1) 42 C20 ∧ Blk wr g5 40 dd ∧ Below w.heap.size w wr
def MpB (p : Pt) (es : List UInt8) (dd ms : List Value) (w : World) (g5 g6 g8 k : Nat) (wr : World) : Prop :=
  ∃ co, Blk wr g8 42 co ∧ PL co (Pt.times k p) ∧ Blk wr g6 75 ms ∧ Blk wr (w.heap.size + 1) 22 (u8s es) ∧ Blk wr (w.heap.size + 1 + 1) 42 C20 ∧ Blk wr g5 40 dd ∧ Below w.heap.size w wr
theorem PL.all {c : List Value} {p : Pt} (h : PL c p) : ∀ v ∈ c, v.oneCell' = true := by obtain ⟨_, _, _, _, h, _⟩ := h; exact h.all
theorem Ms.one0 {c : List Value} {p : Pt} (h : PL c p) : (c ++ List.replicate 300 (Value.int .u64 0)).toArray.all (·.oneCell') = true := by
  apply all_oneCell_toArray
  intro v hv
  rcases List.mem_append.1 hv with hv | hv
  · exact h.all v hv
  · rw [List.eq_of_mem_replicate hv]; rfl
theorem pow2_next (k j : Nat) : Nat.add (2 ^ j * k) (2 ^ j * k) = 2 ^ (j + 1) * k := by
  show 2 ^ j * k + 2 ^ j * k = _
  rw [Nat.pow_succ, Nat.mul_assoc, Nat.mul_comm 2 k, ← Nat.mul_assoc]; omega
set_option maxRecDepth 100000 in
set_option maxHeartbeats 8000000 in
theorem mulP {c1 : List Value} {p : Pt} (h1 : PL c1 p) (es : List UInt8) (hl : es.length = 32) (w : World) (hT : TabD w) :
    Calls Tryd.prog 18 #[.agg c1.toArray, A32 es] w (PPost (Pt.times (leN es) p) w) := by
  have HL := Lib.hid hl
  have HP := Lib.hid h1
  have HTT := Lib.hid hT
  clear hl h1 hT
  obtain ⟨zs, hzs⟩ : ∃ z, C320 = z := ⟨_, rfl⟩
  have hzv : ∀ W, (zeroValue 75).run Tryd.prog W = .ok (.agg zs.toArray) W := fun W => run_zero (by rw [← hzs]; exact zero320) W
  have HZL : Hid (zs.length = 320) := Lib.hid (by rw [← hzs]; rfl)
  clear hzs
  unfold A32
  go_enter Tryd.func18, Tryd.ntmps18
  go_upto_region 1 with fail
  refine wp_gen (fun W => Blk W w.heap.size 42 c1 ∧ Blk W (w.heap.size + 1) 22 (u8s es) ∧ Blk W (w.heap.size + 1 + 1) 42 C20 ∧ Below w.heap.size w W) ?_ ?_
  · exact alloc3 w _ _ _ _ _ _
  rintro W0 ⟨Bp2, Bp3, Bp4, HB⟩
  go_wp2_with fail
  refine (twiceD_calls _ (HTT.out.later HB)).mono ?_
  rintro e W1 ⟨_, rfl, ⟨dd, rfl, hd⟩, HX⟩
  replace Bp2 := Bp2.later HX
  replace Bp3 := Bp3.later HX
  replace Bp4 := Bp4.later HX
  replace HB := HB.then_ HX
  clear HX
  obtain ⟨T0, HL0, N0⟩ := letS (W := W1) (T := 40) (z := C5) (cs := dd) (by rw [hd.len]; rfl)
  go_upto_region 2 with (refine wpList_store_mid rfl 40 _ _ rfl W1.heap.size 0 dd.toArray rfl rfl T0 hd.sizeA hd.one ?_)
  have Lp4 := Bp4.lt
  obtain ⟨g5, eg⟩ : ∃ g, W1.heap.size = g := ⟨_, rfl⟩
  rw [eg] at N0 Lp4 ⊢
  refine wp_gen (fun W => Blk W w.heap.size 42 c1 ∧ Blk W (w.heap.size + 1) 22 (u8s es) ∧ Blk W (w.heap.size + 1 + 1) 42 C20 ∧ Blk W g5 40 dd ∧ Below w.heap.size w W) ⟨Bp2.later (eg ▸ HL0), Bp3.later (eg ▸ HL0), Bp4.later (eg ▸ HL0), N0, HB.then_ (eg ▸ HL0)⟩ ?_
  clear Bp2 Bp3 Bp4 HB T0 HL0 N0 eg
  have HD := Lib.hid hd
  clear hd
  rintro W2 ⟨Bp2, Bp3, Bp4, Bp5, HB⟩
  go_wp2_with fail
  refine (zero_calls _).mono ?_
  rintro e W3 ⟨_, rfl, ⟨cz, rfl, hcz⟩, HX⟩
  replace Bp2 := Bp2.later HX
  replace Bp3 := Bp3.later HX
  replace Bp4 := Bp4.later HX
  replace Bp5 := Bp5.later HX
  replace HB := HB.then_ HX
  clear HX
  have hbd := fun W => build16 hcz W
  have hms : Ms p 0 (cz ++ List.replicate 300 (Value.int .u64 0)) := Ms.start hcz
  have hone := Ms.one0 hcz
  obtain ⟨ms, ems⟩ : ∃ ms, cz ++ List.replicate 300 (Value.int .u64 0) = ms := ⟨_, rfl⟩
  rw [ems] at hms hone
  simp only [ems] at hbd
  clear ems hcz
  obtain ⟨T0, HL0, N0⟩ := letS (W := W3) (T := 75) (z := zs) (cs := ms) (by rw [hms.1, HZL.out])
  have hsz : (Tryd.prog.info? 75).map (·.size) = some ms.toArray.size := by rw [List.size_toArray, hms.1]; exact size320
  go_upto_region 3 with (first
    | (refine wpList_buildop (vs := #[(0, .agg cz.toArray)]) rfl rfl (by first | rfl | go_simp) (hbd _) ?_)
    | (refine wpList_store_mid rfl 75 _ _ rfl W3.heap.size 0 ms.toArray rfl rfl T0 hsz hone ?_))
  have Lp5 := Bp5.lt
  obtain ⟨g6, eg⟩ : ∃ g, W3.heap.size = g := ⟨_, rfl⟩
  rw [eg] at N0 Lp5 ⊢
  refine wp_gen (fun W => MpA p es c1 dd w g5 g6 0 W) ⟨ms, hms, N0, Bp2.later (eg ▸ HL0), Bp3.later (eg ▸ HL0), Bp4.later (eg ▸ HL0), Bp5.later (eg ▸ HL0), HB.then_ (eg ▸ HL0)⟩ ?_
  clear Bp2 Bp3 Bp4 Bp5 HB T0 HL0 N0 eg hms hone hsz hbd hzv HZL
  have HG5 : Hid (w.heap.size + 1 + 1 < g5) := Lib.hid Lp4
  have HG6 : Hid (g5 < g6) := Lib.hid Lp5
  clear Lp4 Lp5
  rintro W4 hp
  have HPS := Lib.hid hp
  clear hp
  go_wp2_with fail
  go_loopw [14] (fun iv wr => ∃ (i : Nat), i ≤ 15 ∧ iv = .int .i64 (i : Int) ∧ MpA p es c1 dd w g5 g6 i wr) (fun iv _ => 15 - (intOf iv).toNat)
  case atStart => exact ⟨0, by omega, rfl, HPS.out⟩
  case round =>
    clear HPS
    obtain ⟨i, hi, rfl, hp⟩ := hrel
    obtain ⟨mt, hms, B6, B2, B3, B4, B5, HB⟩ := hp
    by_cases h15 : i < 15
    · have hd0 : decide ((i : Int) < 15) = true := by simp; omega
      have hml := hms.2 i (Nat.le_refl _)
      have hrng := B6.rngAt (20 * i) 20
      have L6 := B6.lt
      have L2 := B2.lt
      have L5 := B5.lt
      obtain ⟨mi, hmi⟩ : ∃ m, (mt.drop (20 * i)).take 20 = m := ⟨_, rfl⟩
      rw [hmi] at hml hrng
      clear hmi
      have e1 : IntKind.i64.wrap ((i : Int) + 1) = ((i + 1 : Nat) : Int) := (IntWalk.i64_in _ (by omega)).trans (by omega)
      obtain ⟨j, hj⟩ : ∃ j, i + 1 = j := ⟨_, rfl⟩
      rw [hj] at e1
      go_upto_region 6 with fail
      apply wp_region_g 8 (by kernel_rfl) (by kernel_rfl)
      simp only [List.take_succ_cons, List.take_zero, List.drop_succ_cons, List.drop_zero]
      apply lg_pure (.int .i64 (i : Int)) rfl (by intro W; go_simp)
      simp only [Act.put, List.setIfInBounds_toArray, List.set_cons_succ, List.set_cons_zero]
      apply lg_pure (.int .i64 (j : Int)) rfl (by intro W; have := e1; go_simp)
      simp only [Act.put, List.setIfInBounds_toArray, List.set_cons_succ, List.set_cons_zero]
      apply lg_pure (.int .i64 (i : Int)) rfl (by intro W; go_simp)
      simp only [Act.put, List.setIfInBounds_toArray, List.set_cons_succ, List.set_cons_zero]
      apply lg_pure (.pointer (some ⟨g6, 20 * i, none⟩)) rfl (fun W => run_idxop rfl rfl rfl (idx16 .i64 g6 i (by omega) W))
      simp only [Act.put, List.setIfInBounds_toArray, List.set_cons_succ, List.set_cons_zero]
      apply lg_load 42 (.tmp 20) rfl g6 (20 * i) mi _ hrng L6 Tryd.underlying42 rfl hml.size rfl rfl
      simp only [Act.put, List.setIfInBounds_toArray, List.set_cons_succ, List.set_cons_zero]
      apply lg_load 42 (.tmp 2) rfl w.heap.size 0 c1 _ B2.rng L2 Tryd.underlying42 rfl HP.out.size rfl rfl
      simp only [Act.put, List.setIfInBounds_toArray, List.set_cons_succ, List.set_cons_zero]
      apply lg_load 40 (.tmp 5) rfl g5 0 dd _ B5.rng L5 Tryd.underlying40 rfl HD.out.size rfl rfl
      simp only [Act.put, List.setIfInBounds_toArray, List.set_cons_succ, List.set_cons_zero]
      apply lg_call_in (fun v => ∃ c, v = .agg c.toArray ∧ PL c ((Pt.times i p).add p)) 42 #[.agg (mi).toArray, .agg (c1).toArray, .agg dd.toArray] rfl (by intro W; go_simp) (fun W hW => plusP hml HP.out HD.out W)
      rintro _ ⟨c9, rfl, h9⟩
      simp only [Act.put, List.setIfInBounds_toArray, List.set_cons_succ, List.set_cons_zero]
      refine lg_nil ?_
      intro WY1 hC
      rw [Pt.times_next] at h9
      have C6 := B6.later hC.1
      have hst := hms.step h9 (by omega)
      have hset := C6.setAt (vs := c9) (o := 20 * (i + 1)) (by rw [h9.len, hms.1]; omega)
      have hth := C6.thereAt (o := 20 * (i + 1)) (n := c9.toArray.size) (by rw [List.size_toArray, h9.len, hms.1]; omega)
      have HG5o := HG5.out
      have HG6o := HG6.out
      have C2 := (B2.later hC.1).setFar (g2 := g6) (by omega) (20 * (i + 1)) c9
      have C3 := (B3.later hC.1).setFar (g2 := g6) (by omega) (20 * (i + 1)) c9
      have C4 := (B4.later hC.1).setFar (g2 := g6) (by omega) (20 * (i + 1)) c9
      have C5' := (B5.later hC.1).setFar (g2 := g6) (by omega) (20 * (i + 1)) c9
      have CB := blw_cells (show w.heap.size ≤ g6 by omega) c9 (20 * (i + 1)) _ (HB.then_ hC.1)
      have HNW : Hid (MpA p es c1 dd w g5 g6 (i + 1) (WY1.setCells g6 (20 * (i + 1)) c9)) := Lib.hid ⟨_, hst, hset, C2, C3, C4, C5', CB⟩
      rw [hj] at HNW hth
      have H9 := Lib.hid h9
      have HTH := Lib.hid hth
      clear hst hset C2 C3 C4 C5' CB C6 hth h9 hms B6 B2 B3 B4 B5 HB hrng L6 L2 L5 hml
      refine wpList_idxop (vx := .pointer (some ⟨g6, 0, none⟩)) (vi := .int .i64 (j : Int)) rfl rfl rfl rfl (idx16 .i64 g6 j (by omega) _) ?_
      simp only [Act.put, List.setIfInBounds_toArray, List.set_cons_succ, List.set_cons_zero]
      refine wpList_store_mid rfl 42 _ _ rfl g6 (20 * j) c9.toArray rfl rfl HTH.out H9.out.sizeA H9.out.one ?_
      simp only [Act.put]
      go_wp2_with fail
      exact ⟨⟨j, by omega, rfl, HNW.out⟩, by simp [intOf]; omega⟩
    · obtain rfl : i = 15 := by omega
      have hms2 := Lib.hid hms
      have HB3 := Lib.hid B3
      have HB4 := Lib.hid B4
      have HB5 := Lib.hid B5
      have HB6 := Lib.hid B6
      have HBB := Lib.hid HB
      clear hms B2 B3 B4 B5 B6 HB h15 hi
      go_wp2_with fail
      refine (zero_calls _).mono ?_
      rintro e W5 ⟨_, rfl, ⟨c0, rfl, h0⟩, HX⟩
      have B3 := HB3.out.later HX
      have B4 := HB4.out.later HX
      have B5 := HB5.out.later HX
      have B6 := HB6.out.later HX
      have HB := HBB.out.then_ HX
      clear HX HB3 HB4 HB5 HB6 HBB
      obtain ⟨T0, HL0, N0⟩ := letS (W := W5) (T := 42) (z := C20) (cs := c0) (by rw [h0.len]; rfl)
      go_upto_region 9 with (refine wpList_store_mid rfl 42 _ _ rfl W5.heap.size 0 c0.toArray rfl rfl T0 h0.sizeA h0.one ?_)
      have L6 := B6.lt
      obtain ⟨g8, eg⟩ : ∃ g, W5.heap.size = g := ⟨_, rfl⟩
      rw [eg] at N0 L6 ⊢
      have hz : leN es / 16 ^ 64 = 0 := Nat.div_eq_of_lt (by have := leN_lt es; rw [HL.out] at this; rw [show (16 : Nat) ^ 64 = 256 ^ 32 by decide]; exact this)
      refine wp_gen (fun W => MpB p es dd mt w g5 g6 g8 (leN es / 16 ^ 64) W) ⟨c0, N0, by rw [hz]; exact h0, B6.later (eg ▸ HL0), B3.later (eg ▸ HL0), B4.later (eg ▸ HL0), B5.later (eg ▸ HL0), HB.then_ (eg ▸ HL0)⟩ ?_
      clear B3 B4 B5 B6 HB T0 HL0 N0 eg hz h0
      have HG8 : Hid (g6 < g8) := Lib.hid L6
      clear L6
      rintro W6 hp
      have HPS := Lib.hid hp
      clear hp
      go_wp2_with fail
      go_loopw [28] (fun iv wr => ∃ (i n : Nat), i + n = 64 ∧ iv = .int .i64 (i : Int) ∧ MpB p es dd mt w g5 g6 g8 (leN es / 16 ^ n) wr) (fun iv _ => 64 - (intOf iv).toNat)
      case atStart => exact ⟨0, 64, by omega, rfl, HPS.out⟩
      case round =>
        clear HPS
        obtain ⟨i, n, hin, rfl, hp⟩ := hrel
        cases n with
        | succ m =>
          have hd1 : decide ((i : Int) < 64) = true := by simp; omega
          have HPS := Lib.hid hp
          clear hp
          go_wp2_with fail
          go_loopw [31] (fun jv wr => ∃ (j : Nat), j ≤ 4 ∧ jv = .int .i64 (j : Int) ∧ MpB p es dd mt w g5 g6 g8 (2 ^ j * (leN es / 16 ^ (m + 1))) wr) (fun jv _ => 4 - (intOf jv).toNat)
          case atStart => exact ⟨0, by omega, rfl, by rw [Nat.pow_zero, Nat.one_mul]; exact HPS.out⟩
          case round =>
            clear HPS
            obtain ⟨j, hj, rfl, hp⟩ := hrel
            obtain ⟨co, Bo, ho, B6, B3, B4, B5, HB⟩ := hp
            by_cases hj4 : j < 4
            · have hd2 : decide ((j : Int) < 4) = true := by simp; omega
              have HO := Lib.hid ho
              have HR := Lib.hid Bo
              have HR2 := Lib.hid (And.intro B6 (And.intro B3 (And.intro B4 (And.intro B5 HB))))
              clear ho Bo B6 B3 B4 B5 HB
              go_wp2_with (refine wpList_load_mid rfl 42 _ rfl g8 0 rfl co _ HR.out.rng Tryd.underlying42 rfl HO.out.size ?_)
              refine (twiceP HO.out _).mono ?_
              rintro e w2 ⟨_, rfl, ⟨c2, rfl, h2⟩, b2⟩
              rw [Pt.times_double] at h2
              have no2 := HR.out.later b2
              have hlen : c2.length = co.length := by rw [h2.len, HO.out.len]
              have HT := Lib.hid (no2.there (n := c2.toArray.size) (by rw [List.size_toArray]; exact hlen))
              have HQ2 := Lib.hid h2
              have HG5o := HG5.out
              have HG6o := HG6.out
              have HG8o := HG8.out
              have HNW : Hid (MpB p es dd mt w g5 g6 g8 (2 ^ (j + 1) * (leN es / 16 ^ (m + 1))) (w2.setCells g8 0 c2)) := Lib.hid ⟨c2, no2.setAll hlen, by rw [← pow2_next]; exact h2, (HR2.out.1.later b2).setFar (g2 := g8) (by omega) 0 c2, (HR2.out.2.1.later b2).setFar (g2 := g8) (by omega) 0 c2, (HR2.out.2.2.1.later b2).setFar (g2 := g8) (by omega) 0 c2, (HR2.out.2.2.2.1.later b2).setFar (g2 := g8) (by omega) 0 c2, blw_cells (show w.heap.size ≤ g8 by omega) c2 0 _ (HR2.out.2.2.2.2.then_ b2)⟩
              clear no2 hlen h2 b2 HR HR2 HG5o HG6o HG8o
              have e1 : IntKind.i64.wrap ((j : Int) + 1) = ((j + 1 : Nat) : Int) := (IntWalk.i64_in _ (by omega)).trans (by omega)
              go_wp2_with (refine wpList_store_mid rfl 42 _ _ rfl g8 0 c2.toArray rfl rfl HT.out HQ2.out.sizeA HQ2.out.one ?_)
              exact ⟨⟨j + 1, by omega, by go_num, HNW.out⟩, by simp [intOf]; omega⟩
            · obtain rfl : j = 4 := by omega
              rw [show (2 : Nat) ^ 4 = 16 by decide] at ho
              have hmm : m / 2 < es.length := by rw [HL.out]; omega
              have hnib := nib_at es m hmm
              obtain ⟨r, hr⟩ : ∃ r, m / 2 = r := ⟨_, rfl⟩
              obtain ⟨s, hs⟩ : ∃ s, m % 2 = s := ⟨_, rfl⟩
              simp only [hr, hs] at hnib hmm
              obtain ⟨c, hc⟩ : ∃ c, es[r].toNat = c := ⟨_, rfl⟩
              have hc256 : c < 256 := by rw [← hc]; exact (es[r]).toNat_lt
              have hcell : (u8s es)[r]? = some (.int .u8 (c : Int)) := by
                unfold u8s
                rw [List.getElem?_map, List.getElem?_eq_getElem hmm, Option.map_some, ← hc]
              have cs := B3.cell hcell
              rw [hc] at hnib
              have hbb := bits_nib c (4 * s) hc256
              rw [hnib] at hbb
              have hnx := nib_step (leN es) m
              obtain ⟨d, hdd⟩ : ∃ d, leN es / 16 ^ m % 16 = d := ⟨_, rfl⟩
              have hd16 : d < 16 := by rw [← hdd]; exact Nat.mod_lt _ (by decide)
              rw [hdd] at hbb hnx
              clear hdd hnib hcell hc hmm
              have q1 : Int.tdiv (i : Int) 2 = ((i / 2 : Nat) : Int) := by rw [Int.tdiv_eq_ediv_of_nonneg (by omega)]; omega
              have q1' : (i : Int) / 2 = ((i / 2 : Nat) : Int) := by omega
              obtain ⟨i2, hi2⟩ : ∃ q, i / 2 = q := ⟨_, rfl⟩
              rw [hi2] at q1 q1'
              have q2 : IntKind.i64.wrap (31 - (i2 : Int)) = (r : Int) := (IntWalk.i64_in _ (by omega)).trans (by omega)
              have q3 : Int.tmod (i : Int) 2 = ((i % 2 : Nat) : Int) := by rw [Int.tmod_eq_emod_of_nonneg (by omega)]; omega
              obtain ⟨i3, hi3⟩ : ∃ q, i % 2 = q := ⟨_, rfl⟩
              rw [hi3] at q3
              have q4 : IntKind.i64.wrap (1 - (i3 : Int)) = (s : Int) := (IntWalk.i64_in _ (by omega)).trans (by omega)
              obtain ⟨s4, hs4⟩ : ∃ q, 4 * s = q := ⟨_, rfl⟩
              have q5 : IntKind.i64.wrap (4 * (s : Int)) = (s4 : Int) := (IntWalk.i64_in _ (by omega)).trans (by omega)
              rw [hs4] at hbb
              have hr32 : (0 : Int) ≤ (r : Int) ∧ (r : Int) < 32 := by omega
              have hs48 : s4 < 8 := by omega
              have hd2 : decide (((4 : Nat) : Int) < 4) = false := by simp
              have HR := Lib.hid Bo
              have HO := Lib.hid ho
              have HR2 := Lib.hid (And.intro B6 (And.intro B3 (And.intro B4 (And.intro B5 HB))))
              have HI := Lib.hid (And.intro hi2 (And.intro hi3 (And.intro hr (And.intro hs hs4))))
              have HNX := Lib.hid hnx
              clear ho Bo B6 B3 B4 B5 HB hi2 hi3 hr hs hs4 hnx
              go_upto_region 17 with fail
              have L8 := HR.out.lt
              have L6 := HR2.out.1.lt
              have L5 := HR2.out.2.2.2.1.lt
              have hmd := hms2.out.2 d (by omega)
              have hrng := HR2.out.1.rngAt (20 * d) 20
              obtain ⟨md, hme⟩ : ∃ m, (mt.drop (20 * d)).take 20 = m := ⟨_, rfl⟩
              rw [hme] at hmd hrng
              clear hme
              apply wp_region_g 6 (by kernel_rfl) (by kernel_rfl)
              simp only [List.take_succ_cons, List.take_zero, List.drop_succ_cons, List.drop_zero]
              apply lg_load 42 (.tmp 8) rfl g8 0 co _ HR.out.rng L8 Tryd.underlying42 rfl HO.out.size rfl rfl
              simp only [Act.put, List.setIfInBounds_toArray, List.set_cons_succ, List.set_cons_zero]
              apply lg_pure (.int .u8 (d : Int)) rfl (by intro W; go_simp)
              simp only [Act.put, List.setIfInBounds_toArray, List.set_cons_succ, List.set_cons_zero]
              apply lg_pure (.pointer (some ⟨g6, 20 * d, none⟩)) rfl (fun W => run_idxop rfl rfl rfl (idx16 .u8 g6 d hd16 W))
              simp only [Act.put, List.setIfInBounds_toArray, List.set_cons_succ, List.set_cons_zero]
              apply lg_load 42 (.tmp 49) rfl g6 (20 * d) md _ hrng L6 Tryd.underlying42 rfl hmd.size rfl rfl
              simp only [Act.put, List.setIfInBounds_toArray, List.set_cons_succ, List.set_cons_zero]
              apply lg_load 40 (.tmp 5) rfl g5 0 dd _ HR2.out.2.2.2.1.rng L5 Tryd.underlying40 rfl HD.out.size rfl rfl
              simp only [Act.put, List.setIfInBounds_toArray, List.set_cons_succ, List.set_cons_zero]
              apply lg_call_in (fun v => ∃ c, v = .agg c.toArray ∧ PL c ((Pt.times (16 * (leN es / 16 ^ (m + 1))) p).add (Pt.times d p))) 42 #[.agg (co).toArray, .agg (md).toArray, .agg dd.toArray] rfl (by intro W; go_simp) (fun W hW => plusP HO.out hmd HD.out W)
              rintro _ ⟨c9, rfl, h9⟩
              simp only [Act.put, List.setIfInBounds_toArray, List.set_cons_succ, List.set_cons_zero]
              refine lg_nil ?_
              intro WY1 hC
              rw [← Pt.times_add, HNX.out] at h9
              have no2 := HR.out.later hC.1
              have hlen : c9.length = co.length := by rw [h9.len, HO.out.len]
              have HT := Lib.hid (no2.there (n := c9.toArray.size) (by rw [List.size_toArray]; exact hlen))
              have H9 := Lib.hid h9
              have HG5o := HG5.out
              have HG6o := HG6.out
              have HG8o := HG8.out
              have HNW : Hid (MpB p es dd mt w g5 g6 g8 (leN es / 16 ^ m) (WY1.setCells g8 0 c9)) := Lib.hid ⟨c9, no2.setAll hlen, h9, (HR2.out.1.later hC.1).setFar (g2 := g8) (by omega) 0 c9, (HR2.out.2.1.later hC.1).setFar (g2 := g8) (by omega) 0 c9, (HR2.out.2.2.1.later hC.1).setFar (g2 := g8) (by omega) 0 c9, (HR2.out.2.2.2.1.later hC.1).setFar (g2 := g8) (by omega) 0 c9, blw_cells (show w.heap.size ≤ g8 by omega) c9 0 _ (HR2.out.2.2.2.2.then_ hC.1)⟩
              clear no2 hlen h9 HR HR2 HG5o HG6o HG8o hrng hmd L8 L6 L5 hC
              have e9 : IntKind.i64.wrap ((i : Int) + 1) = ((i + 1 : Nat) : Int) := (IntWalk.i64_in _ (by omega)).trans (by omega)
              refine wpList_store_mid rfl 42 _ _ rfl g8 0 c9.toArray rfl rfl HT.out H9.out.sizeA H9.out.one ?_
              simp only [Act.put]
              go_wp2_with fail
              exact ⟨⟨i + 1, m, by omega, by go_num, HNW.out⟩, by simp [intOf]; omega⟩
        | zero =>
          obtain rfl : i = 64 := by omega
          obtain ⟨co, Bo, ho, B6, B3, B4, B5, HB⟩ := hp
          rw [Nat.pow_zero, Nat.div_one] at ho
          have HO := Lib.hid ho
          have HR := Lib.hid Bo
          have HG5o := HG5.out
          have HG6o := HG6.out
          have HG8o := HG8.out
          obtain ⟨T0, HL1, N0⟩ := ansB (cs := co) B4 HB (by omega) (Below.refl _ _) (by rw [ho.len]; rfl)
          have HF := Lib.hid (And.intro T0 (And.intro HL1 N0))
          clear ho Bo B6 B3 B4 B5 HB T0 HL1 N0
          go_wp2_with (first
            | (refine wpList_load_mid rfl 42 _ rfl g8 0 rfl co _ HR.out.rng Tryd.underlying42 rfl HO.out.size ?_)
            | (refine wpList_store_mid rfl 42 _ _ rfl (w.heap.size + 1 + 1) 0 co.toArray rfl rfl HF.out.1 HO.out.sizeA HO.out.one ?_))
          exact bodyPost_ret (v := .agg co.toArray) (res_cell rfl _ _ _ _ rfl (HF.out.2.2.load 42 Tryd.underlying42 rfl HO.out.size)) rfl ⟨_, rfl, ⟨_, rfl, HO.out⟩, HF.out.2.1⟩
end Go.Proofs.YtkfdclnaaphdgaaDoor
