/- Layer 6: CurveTimes, walked. -/
import Derived.Test.YtoligamlafgaoaaDoorCwE
import Derived.Test.YtoligamlafgaoaaDoorArr
namespace Go.Proofs.YtoligamlafgaoaaDoor
open Go.ChangeShapes Go.WideShapes Go.ChangeAt Go.RowKit Go.IntWalk
set_option linter.unusedVariables false

/-- A row of bytes that the law writes, and what so many times a point is. -/
theorem mul_known {parts : Array (Nat × Value)} {bs : List UInt8} {k : Nat} (hl : bs.length = 32) (hk : leN bs = k) (hb : ∀ W, (Instr.build 22 parts).run Tryd.prog W = .ok (A32 bs) W) :
    ∃ u : List Value, Hid (∀ W, (Instr.build 22 parts).run Tryd.prog W = .ok (.agg u.toArray) W) ∧ Hid (∀ c p, PL c p → ∀ W, TabD W → Calls Tryd.prog 22 #[.agg c.toArray, .agg u.toArray] W (PPost (Pt.times k p) W)) :=
  ⟨u8s bs, Lib.hid hb, Lib.hid fun c p h W hT => hk ▸ mulP h bs hl W hT⟩
theorem leN_rep : ∀ k, leN (List.replicate k 0) = 0
  | 0 => rfl
  | k + 1 => by rw [List.replicate_succ, leN, leN_rep k]; rfl
theorem leN_byteN (n : UInt8) : leN (byteN n) = n.toNat := by rw [byteN, leN, leN_rep]; omega
def byteN2 (x y : UInt8) : List UInt8 := x :: y :: List.replicate 30 0
theorem leN_byteN2 (x y : UInt8) : leN (byteN2 x y) = x.toNat + 256 * y.toNat := by rw [byteN2, leN, leN, leN_rep]; omega
theorem bld0 (W : World) : (Instr.build 22 #[]).run Tryd.prog W = .ok (A32 (List.replicate 32 0)) W := run_build W _ _ _ (by kernel_rfl)
theorem bld1 (n : UInt8) (W : World) : (Instr.build 22 #[(0, .int .u8 (n.toNat : Int))]).run Tryd.prog W = .ok (A32 (byteN n)) W := by
  obtain ⟨z, hz⟩ : ∃ z : Int, (n.toNat : Int) = z := ⟨_, rfl⟩
  unfold A32 byteN u8s
  rw [List.map_cons, hz]
  exact run_build W _ _ _ (by kernel_rfl)
theorem bld2 (x y : UInt8) (W : World) : (Instr.build 22 #[(0, .int .u8 (x.toNat : Int)), (1, .int .u8 (y.toNat : Int))]).run Tryd.prog W = .ok (A32 (byteN2 x y)) W := by
  obtain ⟨z, hz⟩ : ∃ z : Int, (x.toNat : Int) = z := ⟨_, rfl⟩
  obtain ⟨z2, hz2⟩ : ∃ z : Int, (y.toNat : Int) = z := ⟨_, rfl⟩
  unfold A32 byteN2 u8s
  rw [List.map_cons, List.map_cons, hz, hz2]
  exact run_build W _ _ _ (by kernel_rfl)
set_option maxRecDepth 100000 in
set_option maxHeartbeats 8000000 in
theorem curveTimes_walk (xs : List UInt8) (hxs : xs.length = 32) (a1 : Int) (w1 : (Lit.int .u8 a1).wf = true) (a2 : Int) (w2 : (Lit.int .u8 a2).wf = true) (w : World) (hT : Tab3 w) :
    Calls Tryd.prog 7 #[.agg (xs.map fun c => Value.int .u8 (c.toNat : Int)).toArray, .int .u8 a1, .int .u8 a2] w fun e w' => e = .returned (.bool true) ∧ Below w.heap.size w w' := by
  obtain ⟨n, rfl⟩ := u8_of_wf w1
  obtain ⟨m, rfl⟩ := u8_of_wf w2
  have hn := n.toNat_lt
  have hm := m.toNat_lt
  obtain ⟨x, y, hxy⟩ : ∃ x y : UInt8, x.toNat + 256 * y.toNat = n.toNat + m.toNat := ⟨UInt8.ofNat ((n.toNat + m.toNat) % 256), UInt8.ofNat ((n.toNat + m.toNat) / 256), by simp; omega⟩
  have hx := x.toNat_lt
  have hy := y.toNat_lt
  have e1 : IntKind.u64.wrap (n.toNat : Int) = (n.toNat : Int) := by rw [IntKind.wrap_u64]; omega
  have e2 : IntKind.u64.wrap (m.toNat : Int) = (m.toNat : Int) := by rw [IntKind.wrap_u64]; omega
  obtain ⟨s, hs⟩ : ∃ s, n.toNat + m.toNat = s := ⟨_, rfl⟩
  have e3 : IntKind.u64.wrap ((n.toNat : Int) + (m.toNat : Int)) = (s : Int) := by rw [IntKind.wrap_u64]; omega
  have e4 : IntKind.u8.wrap (s : Int) = (x.toNat : Int) := by rw [IntKind.wrap_u8]; omega
  have e5 : (s : Int) / 256 = (y.toNat : Int) := by omega
  have e6 : IntKind.u8.wrap (y.toNat : Int) = (y.toNat : Int) := by rw [IntKind.wrap_u8]; omega
  have E4 := Lib.hid e4
  have E5 := Lib.hid e5
  have E6 := Lib.hid e6
  have HS := Lib.hid hs
  have HXY := Lib.hid (hxy.trans hs)
  have E123 := Lib.hid (And.intro e1 (And.intro e2 e3))
  clear e1 e2 e3 e4 e5 e6 hs hxy hn hm hx hy w1 w2
  obtain ⟨un, Bun, Mun⟩ := mul_known (parts := #[(0, .int .u8 (n.toNat : Int))]) (bs := byteN n) (k := n.toNat) rfl (leN_byteN n) (bld1 n)
  obtain ⟨um, Bum, Mum⟩ := mul_known (parts := #[(0, .int .u8 (m.toNat : Int))]) (bs := byteN m) (k := m.toNat) rfl (leN_byteN m) (bld1 m)
  obtain ⟨us, Bus, Mus⟩ := mul_known (parts := #[(0, .int .u8 (x.toNat : Int)), (1, .int .u8 (y.toNat : Int))]) (bs := byteN2 x y) (k := s) rfl ((leN_byteN2 x y).trans HXY.out) (bld2 x y)
  obtain ⟨u0, Bu0, Mu0⟩ := mul_known (parts := #[]) (bs := List.replicate 32 0) (k := 0) rfl (leN_rep 32) bld0
  obtain ⟨u1, Bu1, Mu1⟩ := mul_known (parts := #[(0, .int .u8 1)]) (bs := byteN 1) (k := 1) rfl (leN_byteN 1) (bld1 1)
  obtain ⟨u2, Bu2, Mu2⟩ := mul_known (parts := #[(0, .int .u8 2)]) (bs := byteN 2) (k := 2) rfl (leN_byteN 2) (bld1 2)
  obtain ⟨zn, hzn⟩ : ∃ z : Int, (n.toNat : Int) = z := ⟨_, rfl⟩
  obtain ⟨zm, hzm⟩ : ∃ z : Int, (m.toNat : Int) = z := ⟨_, rfl⟩
  obtain ⟨zx, hzx⟩ : ∃ z : Int, (x.toNat : Int) = z := ⟨_, rfl⟩
  obtain ⟨zy, hzy⟩ : ∃ z : Int, (y.toNat : Int) = z := ⟨_, rfl⟩
  obtain ⟨zs, hzs⟩ : ∃ z : Int, (s : Int) = z := ⟨_, rfl⟩
  rw [hzn] at Bun
  rw [hzm] at Bum
  rw [hzx, hzy] at Bus
  rw [hzn, hzm, hzs] at E123
  rw [hzs, hzx] at E4
  rw [hzs, hzy] at E5
  rw [hzy] at E6
  rw [hzn, hzm]
  clear hzn hzm hzx hzy hzs
  have hszxs := size32' xs hxs
  have hdcxs : ∀ W, TabD W → Calls Tryd.prog 12 #[.agg (u8s xs).toArray] W (DPost xs W) := fun W h => decode_calls xs hxs W h
  have hrdxs := refDecode_calls xs hxs
  have HRBxs : Hid (∀ (W : World) (g : Nat), Blk W g 22 (u8s xs) → (convert 39 9 (.slice (some ⟨g, 0, none⟩) 32 32)).run Tryd.prog W = .ok (.string ⟨xs.toArray⟩) W) := Lib.hid (fun W g h => run_str_rb W (some ⟨g, 0, none⟩) 32 32 xs (UBlk.rb h) (Lib.hid hxs.symm))
  have HGQxs := Lib.hid (fun op x y W => guard_bytes op xs xs x y W)
  have HQQxs := Lib.hid (fun W => eqin_bytes xs xs hxs hxs W)
  rw [beq_self_eq_true] at HQQxs
  unfold A32 at HGQxs HQQxs
  have HENxs : Hid (∀ (c : List Value) (W : World), dOk xs = true → PL c (decP xs) → Calls Tryd.prog 11 #[.agg c.toArray] W fun e w' => e = .returned (.agg (u8s xs).toArray) ∧ Below W.heap.size W w') := Lib.hid (fun c W hk h => by
    have := bytesP h W
    unfold BPost at this
    rwa [enc_dec hxs hk] at this)
  obtain ⟨uxs, huxs⟩ : ∃ q, u8s xs = q := ⟨_, rfl⟩
  rw [show (xs.map fun c => Value.int .u8 (c.toNat : Int)) = uxs from huxs]
  rw [huxs] at hszxs HRBxs HGQxs HQQxs HENxs
  simp only [huxs] at hdcxs
  have HDCxs := Lib.hid hdcxs
  have HRDxs := Lib.hid hrdxs
  clear huxs hdcxs hrdxs
  go_enter Tryd.func7, Tryd.ntmps7
  go_upto_region 1 with fail
  refine wp_gen (fun W => Blk W w.heap.size 22 uxs ∧ Below w.heap.size w W ∧ Tab3 W) ?_ ?_
  · obtain ⟨a0, hb⟩ := alloc1 w uxs 22
    exact ⟨a0, hb, hT.later hb⟩
  rintro W0 ⟨Bp3, HB, HT⟩
  have Lp3 := Bp3.lt
  go_wp2_with fail
  refine (alive6_calls _ HT.2).mono ?_
  rintro e wz ⟨rfl, bz⟩
  replace Bp3 := Bp3.later bz
  replace Lp3 := Bp3.lt
  replace HB := HB.then_ bz
  replace HT := HT.later bz
  clear bz
  go_upto_region 3 with fail
  go_wp2_with (refine wpList_load_mid rfl 22 _ rfl w.heap.size 0 rfl uxs _ Bp3.rng Tryd.underlying22 rfl hszxs ?_)
  refine (HDCxs.out _ HT.1).mono ?_
  rintro e WD3 ⟨c7, rfl, hlc7, hoc7, hpc7, bD⟩
  replace Bp3 := Bp3.later bD
  replace Lp3 := Bp3.lt
  replace HB := HB.then_ bD
  replace HT := HT.later bD
  clear bD
  obtain ⟨T0, HL, N0⟩ := letS (W := WD3) (T := 28) (z := C20) (cs := c7) (by rw [hlc7]; rfl)
  have hS : (Tryd.prog.info? 28).map (·.size) = some c7.toArray.size := by rw [List.size_toArray, hlc7]; exact size20
  go_upto_region 4 with (refine wpList_store_mid rfl 28 _ _ rfl WD3.heap.size 0 c7.toArray rfl rfl T0 hS hoc7 ?_)
  obtain ⟨g7, eg⟩ : ∃ g, WD3.heap.size = g := ⟨_, rfl⟩
  rw [eg] at N0 ⊢
  have hE : Hid (WD3.heap.size = g7) := Lib.hid eg
  refine wp_gen (fun W => Blk W w.heap.size 22 uxs ∧ Blk W g7 28 c7 ∧ Below w.heap.size w W ∧ Tab3 W) ⟨Bp3.later (hE.out ▸ HL), N0, HB.then_ (hE.out ▸ HL), HT.later (hE.out ▸ HL)⟩ ?_
  clear T0 HL N0 eg hE hS
  clear Bp3 Lp3 HB HT
  rintro W1 ⟨Bp3, Bn7, HB, HT⟩
  have Lp3 := Bp3.lt
  have Ln7 := Bn7.lt
  cases hkxs : dOk xs with
  | false =>
    have HF := Lib.hid HB
    clear Bp3 Bn7 Lp3 Ln7 HB HT
    go_wp2_with fail
    all_goals (go_ret; exact ⟨rfl, HF.out⟩)
  | true =>
    replace hpc7 := hpc7 hkxs
    go_upto_region 6 with fail
    have e1 := E123.out.1
    have e2 := E123.out.2.1
    have e3 := E123.out.2.2
    clear E123
    go_upto_region 7 with fail
    clear e1 e2 e3
    go_wp2_with fail
    apply wp_region_g 41 (by kernel_rfl) (by kernel_rfl)
    simp only [List.take_succ_cons, List.take_zero, List.drop_succ_cons, List.drop_zero]
    apply lg_load 28 (.tmp 7) rfl g7 0 c7 _ Bn7.rng Ln7 Tryd.underlying28 rfl hpc7.size rfl rfl
    simp only [Act.put, List.setIfInBounds_toArray, List.set_cons_succ, List.set_cons_zero]
    apply lg_pure (.int .u8 zn) rfl (by intro W; go_simp)
    simp only [Act.put, List.setIfInBounds_toArray, List.set_cons_succ, List.set_cons_zero]
    apply lg_pure (.agg un.toArray) rfl (fun W => run_buildop (vs := #[(0, .int .u8 zn)]) rfl (by first | rfl | go_simp) (Bun.out W))
    simp only [Act.put, List.setIfInBounds_toArray, List.set_cons_succ, List.set_cons_zero]
    apply lg_call_in (fun v => ∃ c, v = .agg c.toArray ∧ PL c (Pt.times n.toNat (decP xs))) 22 #[.agg (c7).toArray, .agg un.toArray] rfl (by intro W; go_simp) (fun W hW => Mun.out _ _ hpc7 W (HT.1.later hW))
    rintro _ ⟨v27, rfl, h27⟩
    simp only [Act.put, List.setIfInBounds_toArray, List.set_cons_succ, List.set_cons_zero]
    apply lg_load 28 (.tmp 7) rfl g7 0 c7 _ Bn7.rng Ln7 Tryd.underlying28 rfl hpc7.size rfl rfl
    simp only [Act.put, List.setIfInBounds_toArray, List.set_cons_succ, List.set_cons_zero]
    apply lg_pure (.int .u8 zm) rfl (by intro W; go_simp)
    simp only [Act.put, List.setIfInBounds_toArray, List.set_cons_succ, List.set_cons_zero]
    apply lg_pure (.agg um.toArray) rfl (fun W => run_buildop (vs := #[(0, .int .u8 zm)]) rfl (by first | rfl | go_simp) (Bum.out W))
    simp only [Act.put, List.setIfInBounds_toArray, List.set_cons_succ, List.set_cons_zero]
    apply lg_call_in (fun v => ∃ c, v = .agg c.toArray ∧ PL c (Pt.times m.toNat (decP xs))) 22 #[.agg (c7).toArray, .agg um.toArray] rfl (by intro W; go_simp) (fun W hW => Mum.out _ _ hpc7 W (HT.1.later hW))
    rintro _ ⟨v31, rfl, h31⟩
    simp only [Act.put, List.setIfInBounds_toArray, List.set_cons_succ, List.set_cons_zero]
    apply lg_call_in (fun v => ∃ c, v = .agg c.toArray ∧ PL c ((Pt.times n.toNat (decP xs)).add (Pt.times m.toNat (decP xs)))) 18 #[.agg (v27).toArray, .agg (v31).toArray] rfl (by intro W; go_simp) (fun W hW => addP h27 h31 W (HT.1.later hW))
    rintro _ ⟨v32, rfl, h32⟩
    simp only [Act.put, List.setIfInBounds_toArray, List.set_cons_succ, List.set_cons_zero]
    apply lg_load 28 (.tmp 7) rfl g7 0 c7 _ Bn7.rng Ln7 Tryd.underlying28 rfl hpc7.size rfl rfl
    simp only [Act.put, List.setIfInBounds_toArray, List.set_cons_succ, List.set_cons_zero]
    apply lg_pure (.int .u64 zs) rfl (by intro W; go_simp)
    simp only [Act.put, List.setIfInBounds_toArray, List.set_cons_succ, List.set_cons_zero]
    apply lg_pure (.int .u8 zx) rfl (by intro W; have h1 := E4.out; go_simp)
    simp only [Act.put, List.setIfInBounds_toArray, List.set_cons_succ, List.set_cons_zero]
    apply lg_pure (.int .u64 zs) rfl (by intro W; go_simp)
    simp only [Act.put, List.setIfInBounds_toArray, List.set_cons_succ, List.set_cons_zero]
    apply lg_pure (.int .u64 zy) rfl (by intro W; have h1 := E5.out; go_simp)
    simp only [Act.put, List.setIfInBounds_toArray, List.set_cons_succ, List.set_cons_zero]
    apply lg_pure (.int .u8 zy) rfl (by intro W; have h1 := E6.out; go_simp)
    simp only [Act.put, List.setIfInBounds_toArray, List.set_cons_succ, List.set_cons_zero]
    apply lg_pure (.agg us.toArray) rfl (fun W => run_buildop (vs := #[(0, .int .u8 zx), (1, .int .u8 zy)]) rfl (by first | rfl | go_simp) (Bus.out W))
    simp only [Act.put, List.setIfInBounds_toArray, List.set_cons_succ, List.set_cons_zero]
    apply lg_call_in (fun v => ∃ c, v = .agg c.toArray ∧ PL c (Pt.times s (decP xs))) 22 #[.agg (c7).toArray, .agg us.toArray] rfl (by intro W; go_simp) (fun W hW => Mus.out _ _ hpc7 W (HT.1.later hW))
    rintro _ ⟨v40, rfl, h40⟩
    simp only [Act.put, List.setIfInBounds_toArray, List.set_cons_succ, List.set_cons_zero]
    apply lg_callx (.bool true) 16 #[.agg (v32).toArray, .agg (v40).toArray] rfl (by intro W; go_simp) (fun W => (isP h32 h40 W).mono fun e W' ⟨b, h1, h2, h3⟩ => ⟨by rw [h1, h2.2 (by rw [← Pt.times_add, HS.out])], h3⟩)
    simp only [Act.put, List.setIfInBounds_toArray, List.set_cons_succ, List.set_cons_zero]
    apply lg_pure (.bool true) rfl (by intro W; go_simp)
    simp only [Act.put, List.setIfInBounds_toArray, List.set_cons_succ, List.set_cons_zero]
    apply lg_load 28 (.tmp 7) rfl g7 0 c7 _ Bn7.rng Ln7 Tryd.underlying28 rfl hpc7.size rfl rfl
    simp only [Act.put, List.setIfInBounds_toArray, List.set_cons_succ, List.set_cons_zero]
    apply lg_pure (.agg u0.toArray) rfl (fun W => run_buildop (vs := #[]) rfl (by first | rfl | go_simp) (Bu0.out W))
    simp only [Act.put, List.setIfInBounds_toArray, List.set_cons_succ, List.set_cons_zero]
    apply lg_call_in (fun v => ∃ c, v = .agg c.toArray ∧ PL c (Pt.times 0 (decP xs))) 22 #[.agg (c7).toArray, .agg u0.toArray] rfl (by intro W; go_simp) (fun W hW => Mu0.out _ _ hpc7 W (HT.1.later hW))
    rintro _ ⟨v45, rfl, h45⟩
    simp only [Act.put, List.setIfInBounds_toArray, List.set_cons_succ, List.set_cons_zero]
    apply lg_call_in (fun v => ∃ c, v = .agg c.toArray ∧ PL c Pt.zero) 10 #[] rfl (by intro W; go_simp) (fun W hW => zero_calls W)
    rintro _ ⟨v46, rfl, h46⟩
    simp only [Act.put, List.setIfInBounds_toArray, List.set_cons_succ, List.set_cons_zero]
    apply lg_callx (.bool true) 16 #[.agg (v45).toArray, .agg (v46).toArray] rfl (by intro W; go_simp) (fun W => (isP h45 h46 W).mono fun e W' ⟨b, h1, h2, h3⟩ => ⟨by rw [h1, h2.2 rfl], h3⟩)
    simp only [Act.put, List.setIfInBounds_toArray, List.set_cons_succ, List.set_cons_zero]
    apply lg_pure (.bool true) rfl (by intro W; go_simp)
    simp only [Act.put, List.setIfInBounds_toArray, List.set_cons_succ, List.set_cons_zero]
    apply lg_pure (.bool true) rfl (by intro W; go_simp)
    simp only [Act.put, List.setIfInBounds_toArray, List.set_cons_succ, List.set_cons_zero]
    apply lg_load 28 (.tmp 7) rfl g7 0 c7 _ Bn7.rng Ln7 Tryd.underlying28 rfl hpc7.size rfl rfl
    simp only [Act.put, List.setIfInBounds_toArray, List.set_cons_succ, List.set_cons_zero]
    apply lg_pure (.agg u1.toArray) rfl (fun W => run_buildop (vs := #[(0, .int .u8 1)]) rfl (by first | rfl | go_simp) (Bu1.out W))
    simp only [Act.put, List.setIfInBounds_toArray, List.set_cons_succ, List.set_cons_zero]
    apply lg_call_in (fun v => ∃ c, v = .agg c.toArray ∧ PL c (Pt.times 1 (decP xs))) 22 #[.agg (c7).toArray, .agg u1.toArray] rfl (by intro W; go_simp) (fun W hW => Mu1.out _ _ hpc7 W (HT.1.later hW))
    rintro _ ⟨v52, rfl, h52⟩
    simp only [Act.put, List.setIfInBounds_toArray, List.set_cons_succ, List.set_cons_zero]
    apply lg_load 28 (.tmp 7) rfl g7 0 c7 _ Bn7.rng Ln7 Tryd.underlying28 rfl hpc7.size rfl rfl
    simp only [Act.put, List.setIfInBounds_toArray, List.set_cons_succ, List.set_cons_zero]
    apply lg_callx (.bool true) 16 #[.agg (v52).toArray, .agg (c7).toArray] rfl (by intro W; go_simp) (fun W => (isP h52 hpc7 W).mono fun e W' ⟨b, h1, h2, h3⟩ => ⟨by rw [h1, h2.2 (Pt.times_one _)], h3⟩)
    simp only [Act.put, List.setIfInBounds_toArray, List.set_cons_succ, List.set_cons_zero]
    apply lg_pure (.bool true) rfl (by intro W; go_simp)
    simp only [Act.put, List.setIfInBounds_toArray, List.set_cons_succ, List.set_cons_zero]
    apply lg_pure (.bool true) rfl (by intro W; go_simp)
    simp only [Act.put, List.setIfInBounds_toArray, List.set_cons_succ, List.set_cons_zero]
    apply lg_load 28 (.tmp 7) rfl g7 0 c7 _ Bn7.rng Ln7 Tryd.underlying28 rfl hpc7.size rfl rfl
    simp only [Act.put, List.setIfInBounds_toArray, List.set_cons_succ, List.set_cons_zero]
    apply lg_pure (.agg u2.toArray) rfl (fun W => run_buildop (vs := #[(0, .int .u8 2)]) rfl (by first | rfl | go_simp) (Bu2.out W))
    simp only [Act.put, List.setIfInBounds_toArray, List.set_cons_succ, List.set_cons_zero]
    apply lg_call_in (fun v => ∃ c, v = .agg c.toArray ∧ PL c (Pt.times 2 (decP xs))) 22 #[.agg (c7).toArray, .agg u2.toArray] rfl (by intro W; go_simp) (fun W hW => Mu2.out _ _ hpc7 W (HT.1.later hW))
    rintro _ ⟨v59, rfl, h59⟩
    simp only [Act.put, List.setIfInBounds_toArray, List.set_cons_succ, List.set_cons_zero]
    apply lg_load 28 (.tmp 7) rfl g7 0 c7 _ Bn7.rng Ln7 Tryd.underlying28 rfl hpc7.size rfl rfl
    simp only [Act.put, List.setIfInBounds_toArray, List.set_cons_succ, List.set_cons_zero]
    apply lg_load 28 (.tmp 7) rfl g7 0 c7 _ Bn7.rng Ln7 Tryd.underlying28 rfl hpc7.size rfl rfl
    simp only [Act.put, List.setIfInBounds_toArray, List.set_cons_succ, List.set_cons_zero]
    apply lg_call_in (fun v => ∃ c, v = .agg c.toArray ∧ PL c ((decP xs).add (decP xs))) 18 #[.agg (c7).toArray, .agg (c7).toArray] rfl (by intro W; go_simp) (fun W hW => addP hpc7 hpc7 W (HT.1.later hW))
    rintro _ ⟨v62, rfl, h62⟩
    simp only [Act.put, List.setIfInBounds_toArray, List.set_cons_succ, List.set_cons_zero]
    apply lg_callx (.bool true) 16 #[.agg (v59).toArray, .agg (v62).toArray] rfl (by intro W; go_simp) (fun W => (isP h59 h62 W).mono fun e W' ⟨b, h1, h2, h3⟩ => ⟨by rw [h1, h2.2 (Pt.times_two _)], h3⟩)
    simp only [Act.put, List.setIfInBounds_toArray, List.set_cons_succ, List.set_cons_zero]
    apply lg_pure (.bool true) rfl (by intro W; go_simp)
    simp only [Act.put, List.setIfInBounds_toArray, List.set_cons_succ, List.set_cons_zero]
    refine lg_nil ?_
    intro WY hC
    have HL := Lib.hid (HB.then_ hC.1)
    clear hC
    go_wp2_with fail
    go_ret
    exact ⟨rfl, HL.out⟩
end Go.Proofs.YtoligamlafgaoaaDoor
