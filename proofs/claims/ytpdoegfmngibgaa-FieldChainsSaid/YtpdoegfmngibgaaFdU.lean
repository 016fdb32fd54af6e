/- Layer 4: FieldRoots, walked. -/
import Derived.Test.YtpdoegfmngibgaaRfN
import Derived.Test.YtpdoegfmngibgaaBk
namespace Go.Proofs.Ytpdoegfmngibgaa
open Go.ChangeShapes Go.WideShapes Go.ChangeAt Go.RowKit Go.IntWalk
set_option linter.unusedVariables false

theorem neg_sq {y a : Nat} (h : a + y = P) : a * a % P = y * y % P := by
  refine both_neg (w := a * y) ?_ ?_
  · rw [← Nat.mul_add, h]; exact Nat.mul_mod_left _ _
  · rw [← Nat.add_mul, Nat.add_comm y a, h]; exact Nat.mul_mod_right _ _
theorem rootV_sq {r : Nat} (h : rootOk r = true) : rootV r * rootV r % P = r % P := by
  have h1 := of_decide_eq_true h
  unfold rootV
  split
  · have hy := mod_lt_P (rootX r)
    rw [neg_sq (y := rootX r % P) (by omega), ← Nat.mul_mod]; exact h1
  · exact h1
theorem rootV_even (r : Nat) : decide (rootV r % P % 2 = 1) = false := by
  apply decide_eq_false
  unfold rootV
  have hp := P_odd
  split
  · rename_i h
    have hy := mod_lt_P (rootX r)
    rw [Nat.mod_eq_of_lt (show P - rootX r % P < P by omega)]
    omega
  · assumption
theorem rootOk_sq (b : Nat) : rootOk (b * b) = true := by
  apply decide_eq_true
  unfold rootX
  split
  · assumption
  · rename_i h
    exact (root_of_square b).resolve_left h
theorem rootV_back (b : Nat) : rootV (b * b) % P = b % P ∨ rootV (b * b) % P = (P - b % P) % P := by
  rcases sq_eq (rootV_sq (rootOk_sq b)) with h | h
  · exact .inl h
  · exact .inr (neg_of_sum h)
set_option maxRecDepth 100000 in
set_option maxHeartbeats 16000000 in
theorem fieldRoots_walk (bsx : List UInt8) (hlx : bsx.length = 32) (w : World) :
    Calls Try.prog 7 #[.agg (bsx.map fun c => Value.int .u8 (c.toNat : Int)).toArray] w fun e w' => e = .returned (.bool true) ∧ Below w.heap.size w w' := by
  obtain ⟨cx, hcx⟩ : ∃ cs, u8s bsx = cs := ⟨_, rfl⟩
  rw [show (bsx.map fun c => Value.int .u8 (c.toNat : Int)) = cx from hcx]
  have HCX := Lib.hid hcx
  have hof : ∀ W, Calls Try.prog 13 #[.agg cx.toArray] W (ElPost (leN bsx) W) := by rw [← hcx]; exact fun W => of_calls bsx hlx W
  have hnum : ∀ W, Calls Try.prog 15 #[.agg cx.toArray] W (NPost (leN bsx) W) := by rw [← hcx]; exact fun W => num_calls bsx hlx W
  have HOF := Lib.hid (And.intro hof hnum)
  have hsz : (Try.prog.info? 22).map (·.size) = some cx.length := by rw [← hcx]; exact size32' bsx hlx
  have HSZ := Lib.hid hsz
  clear hcx hof hsz hnum
  obtain ⟨n, hn⟩ : ∃ n, leN bsx = n := ⟨_, rfl⟩
  rw [hn] at HOF
  clear hn
  go_enter Try.func7, Try.ntmps7
  go_wp2_with fail
  refine (alive_calls _).mono ?_
  rintro e w4 ⟨rfl, b14⟩
  have ux : UBlk w4 w.heap.size bsx := by
    have h := b14.block w.heap.size (by simp)
    unfold UBlk; rw [h, heap_alloc_new, HCX.out]
  have hr : w4.rangeAt w.heap.size 0 cx := by rw [← HCX.out]; exact ux.rng
  have HW4 := Lib.hid (And.intro ux (And.intro (below1 b14) hr))
  clear b14 ux hr
  go_wp2_with (refine wpList_load_mid rfl 22 _ rfl w.heap.size 0 rfl cx _ HW4.out.2.2 Try.underlying22 rfl HSZ.out ?_)
  refine (HOF.out.1 _).mono ?_
  rintro e w5 ⟨vx, rfl, hvx, b5⟩
  obtain ⟨x0, x1, x2, x3, x4, rfl, okx, valx⟩ := hvx.form
  have HX : Hid (IsEl (E5 x0 x1 x2 x3 x4) n) := Lib.hid hvx
  have HEx0 : EBlk (w5.alloc (.cells #[.int .u64 (x0 : Int), .int .u64 (x1 : Int), .int .u64 (x2 : Int), .int .u64 (x3 : Int), .int .u64 (x4 : Int)] 27)) w5.heap.size [x0, x1, x2, x3, x4] := heap_alloc_new w5 _
  have HB6 := Lib.hid (And.intro HEx0 (And.intro ((HW4.out.1.later b5).alloc (.cells #[.int .u64 (x0 : Int), .int .u64 (x1 : Int), .int .u64 (x2 : Int), .int .u64 (x3 : Int), .int .u64 (x4 : Int)] 27)) ((HW4.out.2.1.then_ b5).alloc (HW4.out.2.1.then_ b5).size (.cells #[.int .u64 (x0 : Int), .int .u64 (x1 : Int), .int .u64 (x2 : Int), .int .u64 (x3 : Int), .int .u64 (x4 : Int)] 27))))
  clear okx valx hvx b5 HW4 HEx0
  go_upto_region 4 with fail
  obtain ⟨gx, hgx⟩ : ∃ g, w5.heap.size = g := ⟨_, rfl⟩
  rw [hgx] at HB6 ⊢
  refine wp_gen (fun W6 => EBlk W6 gx [x0, x1, x2, x3, x4] ∧ UBlk W6 w.heap.size bsx ∧ Below w.heap.size w W6) HB6.out ?_
  rintro W6 h6
  have H6 := Lib.hid h6
  have H6r := Lib.hid h6.1.rng
  clear h6 HB6 hgx
  go_wp2_with (refine wpList_load_mid rfl 27 _ rfl gx 0 rfl ([x0, x1, x2, x3, x4].map fun (n : Nat) => Value.int .u64 (n : Int)) _ H6r.out Try.underlying27 rfl size5 ?_)
  refine (root_calls _ _ HX.out _).mono ?_
  rintro e w7 ⟨u7, rfl, hu7, b7⟩
  obtain ⟨ok, hok⟩ : ∃ b, rootOk n = b := ⟨_, rfl⟩
  obtain ⟨rv, hrv⟩ : ∃ m, (if rootOk n = true then rootV n else 0) = m := ⟨_, rfl⟩
  rw [hok] at hrv
  rw [hok, hrv] at hu7
  rw [hok]
  have HOK := Lib.hid (And.intro hok hrv)
  clear hok hrv
  obtain ⟨r0, r1, r2, r3, r4, rfl, okr, valr⟩ := hu7.form
  have HR : Hid (IsEl (E5 r0 r1 r2 r3 r4) rv) := Lib.hid hu7
  have her : EBlk (w7.alloc (.cells #[.int .u64 (r0 : Int), .int .u64 (r1 : Int), .int .u64 (r2 : Int), .int .u64 (r3 : Int), .int .u64 (r4 : Int)] 27)) w7.heap.size [r0, r1, r2, r3, r4] := heap_alloc_new w7 _
  have hgx7 : gx < w7.heap.size := (Array.getElem?_eq_some_iff.1 (EBlk.later H6.out.1 b7)).1
  have HB8 := Lib.hid (And.intro (EBlk.alloc (EBlk.later H6.out.1 b7) (.cells #[.int .u64 (r0 : Int), .int .u64 (r1 : Int), .int .u64 (r2 : Int), .int .u64 (r3 : Int), .int .u64 (r4 : Int)] 27)) (And.intro her (And.intro ((H6.out.2.1.later b7).alloc (.cells #[.int .u64 (r0 : Int), .int .u64 (r1 : Int), .int .u64 (r2 : Int), .int .u64 (r3 : Int), .int .u64 (r4 : Int)] 27)) ((H6.out.2.2.then_ b7).alloc (H6.out.2.2.then_ b7).size (.cells #[.int .u64 (r0 : Int), .int .u64 (r1 : Int), .int .u64 (r2 : Int), .int .u64 (r3 : Int), .int .u64 (r4 : Int)] 27)))))
  clear okr valr hu7 b7 H6 H6r her
  go_upto_region 5 with fail
  obtain ⟨gr, hgr⟩ : ∃ g, w7.heap.size = g := ⟨_, rfl⟩
  rw [hgr] at HB8 hgx7 ⊢
  refine wp_gen (fun W8 => EBlk W8 gx [x0, x1, x2, x3, x4] ∧ EBlk W8 gr [r0, r1, r2, r3, r4] ∧ UBlk W8 w.heap.size bsx ∧ Below w.heap.size w W8) HB8.out ?_
  rintro W8 h8
  have H8 := Lib.hid h8
  have H8r : Hid (W8.rangeAt w.heap.size 0 cx) := Lib.hid (by rw [← HCX.out]; exact h8.2.2.1.rng)
  clear h8 HB8 hgr
  go_wp2_with (refine wpList_load_mid rfl 22 _ rfl w.heap.size 0 rfl cx _ H8r.out Try.underlying22 rfl HSZ.out ?_)
  refine (HOF.out.2 _).mono ?_
  rintro e w9 ⟨v9, rfl, hv9, b9⟩
  have HV9 := Lib.hid hv9
  have H9 := Lib.hid (And.intro (EBlk.later H8.out.1 b9) (And.intro (EBlk.later H8.out.2.1 b9) (H8.out.2.2.2.then_ b9)))
  clear hv9 b9 H8 H8r
  go_wp2_with fail
  refine (refRoot_calls _ _ HV9.out _).mono ?_
  rintro e w10 ⟨u10, rfl, hu10, b10⟩
  rw [HOK.out.1] at hu10
  rw [HOK.out.2] at hu10
  rw [HOK.out.1]
  obtain ⟨ss, rfl, oks, vals⟩ := hu10
  have HS : Hid (IsNum (A16 ss) rv) := Lib.hid ⟨ss, rfl, oks, vals⟩
  have hls := oks.1
  unfold A16
  have hz10 : NBlk (w10.alloc (.cells #[.int .i64 0, .int .i64 0, .int .i64 0, .int .i64 0, .int .i64 0, .int .i64 0, .int .i64 0, .int .i64 0, .int .i64 0, .int .i64 0, .int .i64 0, .int .i64 0, .int .i64 0, .int .i64 0, .int .i64 0, .int .i64 0] 33)) w10.heap.size Z16 := heap_alloc_new w10 _
  obtain ⟨th, hs11⟩ := hz10.put (ms := ss) rfl hls
  have e1 := EBlk.later H9.out.1 b10
  have e2 := EBlk.later H9.out.2.1 b10
  have l1 : gx < w10.heap.size := (Array.getElem?_eq_some_iff.1 e1).1
  have l2 : gr < w10.heap.size := (Array.getElem?_eq_some_iff.1 e2).1
  have bb := H9.out.2.2.then_ b10
  have HB11 := Lib.hid (And.intro ((EBlk.alloc e1 (.cells #[.int .i64 0, .int .i64 0, .int .i64 0, .int .i64 0, .int .i64 0, .int .i64 0, .int .i64 0, .int .i64 0, .int .i64 0, .int .i64 0, .int .i64 0, .int .i64 0, .int .i64 0, .int .i64 0, .int .i64 0, .int .i64 0] 33)).setFar (show w10.heap.size ≠ gx by omega) (i64s ss)) (And.intro ((EBlk.alloc e2 (.cells #[.int .i64 0, .int .i64 0, .int .i64 0, .int .i64 0, .int .i64 0, .int .i64 0, .int .i64 0, .int .i64 0, .int .i64 0, .int .i64 0, .int .i64 0, .int .i64 0, .int .i64 0, .int .i64 0, .int .i64 0, .int .i64 0] 33)).setFar (show w10.heap.size ≠ gr by omega) (i64s ss)) (And.intro hs11 (below_cells bb.size (i64s ss) 0 _ (bb.alloc bb.size (.cells #[.int .i64 0, .int .i64 0, .int .i64 0, .int .i64 0, .int .i64 0, .int .i64 0, .int .i64 0, .int .i64 0, .int .i64 0, .int .i64 0, .int .i64 0, .int .i64 0, .int .i64 0, .int .i64 0, .int .i64 0, .int .i64 0] 33))))))
  have HT := Lib.hid th
  have HSA := Lib.hid (size16a ss hls)
  have HON := Lib.hid (one16 ss)
  obtain ⟨sv, hsv⟩ : ∃ c, i64s ss = c := ⟨_, rfl⟩
  rw [hsv] at HT HSA HON HB11 ⊢
  have HSV := Lib.hid hsv
  clear oks vals hz10 th hs11 e1 e2 bb b10 H9 hsv hgx7
  go_upto_region 6 with (refine wpList_store_mid rfl 33 _ _ rfl w10.heap.size 0 sv.toArray rfl rfl HT.out HSA.out HON.out ?_)
  obtain ⟨gs, hgs⟩ : ∃ g, w10.heap.size = g := ⟨_, rfl⟩
  rw [hgs] at HB11 ⊢
  refine wp_gen (fun W11 => EBlk W11 gx [x0, x1, x2, x3, x4] ∧ EBlk W11 gr [r0, r1, r2, r3, r4] ∧ NBlk W11 gs ss ∧ Below w.heap.size w W11) HB11.out ?_
  rintro W11 ⟨HEx, HEr, HNs, HBW⟩
  have LX : gx < W11.heap.size := (Array.getElem?_eq_some_iff.1 HEx).1
  have LR : gr < W11.heap.size := (Array.getElem?_eq_some_iff.1 HEr).1
  have LS : gs < W11.heap.size := HNs.lt
  clear HB11 hgs HT HSA HON l1 l2
  have HMM : Hid (ok = true → rv * rv % P = n % P ∧ decide (rv % P % 2 = 1) = false) := Lib.hid (fun h => by
    have h1 := HOK.out.1
    have h2 := HOK.out.2
    rw [h] at h1 h2
    rw [if_pos rfl] at h2
    subst h2
    exact ⟨rootV_sq h1, rootV_even n⟩)
  cases ok with
  | true =>
    obtain ⟨hmm1, hmm2⟩ : (rv * rv % P = n % P) ∧ decide (rv % P % 2 = 1) = false := HMM.out rfl
    apply wp_region_ls (by kernel_rfl) (by kernel_rfl)
    apply ls_move (.bool true) (.tmp 5) rfl rfl rfl
    simp only [Act.put, List.setIfInBounds_toArray, List.set_cons_succ, List.set_cons_zero]
    apply ls_move (.bool true) (.tmp 7) rfl rfl rfl
    simp only [Act.put, List.setIfInBounds_toArray, List.set_cons_succ, List.set_cons_zero]
    apply ls_pure (.bool false) rfl (by intro W; go_simp)
    simp only [Act.put, List.setIfInBounds_toArray, List.set_cons_succ, List.set_cons_zero]
    apply ls_move (.bool false) (.tmp 27) rfl rfl rfl
    simp only [Act.put, List.setIfInBounds_toArray, List.set_cons_succ, List.set_cons_zero]
    apply ls_el (.tmp 4) HEr LR rfl rfl rfl
    simp only [Act.put, List.setIfInBounds_toArray, List.set_cons_succ, List.set_cons_zero]
    apply ls_num (.tmp 6) HNs hls LS rfl rfl rfl
    simp only [Act.put, List.setIfInBounds_toArray, List.set_cons_succ, List.set_cons_zero]
    apply ls_callx (.bool true) 14 #[E5 r0 r1 r2 r3 r4, A16 ss] rfl (by intro W; go_simp) (fun W => (isx_calls _ _ _ _ HR.out HS.out W).mono fun e W' h => ⟨by rw [h.1]; exact ret_bool (decide_eq_true rfl), h.2⟩)
    simp only [Act.put, List.setIfInBounds_toArray, List.set_cons_succ, List.set_cons_zero]
    apply ls_pure (.bool false) rfl (by intro W; go_simp)
    simp only [Act.put, List.setIfInBounds_toArray, List.set_cons_succ, List.set_cons_zero]
    apply ls_pure (.bool false) rfl (by intro W; go_simp)
    simp only [Act.put, List.setIfInBounds_toArray, List.set_cons_succ, List.set_cons_zero]
    apply ls_move (.bool false) (.tmp 33) rfl rfl rfl
    simp only [Act.put, List.setIfInBounds_toArray, List.set_cons_succ, List.set_cons_zero]
    apply ls_move (.bool true) (.tmp 5) rfl rfl rfl
    simp only [Act.put, List.setIfInBounds_toArray, List.set_cons_succ, List.set_cons_zero]
    apply ls_move (.bool true) (.tmp 35) rfl rfl rfl
    simp only [Act.put, List.setIfInBounds_toArray, List.set_cons_succ, List.set_cons_zero]
    apply ls_el (.tmp 4) HEr LR rfl rfl rfl
    simp only [Act.put, List.setIfInBounds_toArray, List.set_cons_succ, List.set_cons_zero]
    apply ls_el (.tmp 4) HEr LR rfl rfl rfl
    simp only [Act.put, List.setIfInBounds_toArray, List.set_cons_succ, List.set_cons_zero]
    apply ls_call_el (rv * rv) 26 #[E5 r0 r1 r2 r3 r4, E5 r0 r1 r2 r3 r4] rfl (by intro W; go_simp) (fun W => mul_calls _ _ _ _ HR.out HR.out W)
    intro v39 hv39
    simp only [Act.put, List.setIfInBounds_toArray, List.set_cons_succ, List.set_cons_zero]
    apply ls_el (.tmp 3) HEx LX rfl rfl rfl
    simp only [Act.put, List.setIfInBounds_toArray, List.set_cons_succ, List.set_cons_zero]
    apply ls_callx (.bool true) 17 #[v39, E5 x0 x1 x2 x3 x4] rfl (by intro W; go_simp) (fun W => (is_calls _ _ _ _ hv39 HX.out W).mono fun e W' h => ⟨by rw [h.1]; exact ret_bool (decide_eq_true hmm1), h.2⟩)
    simp only [Act.put, List.setIfInBounds_toArray, List.set_cons_succ, List.set_cons_zero]
    apply ls_pure (.bool false) rfl (by intro W; go_simp)
    simp only [Act.put, List.setIfInBounds_toArray, List.set_cons_succ, List.set_cons_zero]
    apply ls_move (.bool false) (.tmp 42) rfl rfl rfl
    simp only [Act.put, List.setIfInBounds_toArray, List.set_cons_succ, List.set_cons_zero]
    apply ls_el (.tmp 4) HEr LR rfl rfl rfl
    simp only [Act.put, List.setIfInBounds_toArray, List.set_cons_succ, List.set_cons_zero]
    apply ls_callx (.bool false) 18 #[E5 r0 r1 r2 r3 r4] rfl (by intro W; go_simp) (fun W => (odd_calls _ _ HR.out W).mono fun e W' h => ⟨by rw [h.1]; exact ret_bool hmm2, h.2⟩)
    simp only [Act.put, List.setIfInBounds_toArray, List.set_cons_succ, List.set_cons_zero]
    apply ls_pure (.bool false) rfl (by intro W; go_simp)
    simp only [Act.put, List.setIfInBounds_toArray, List.set_cons_succ, List.set_cons_zero]
    apply ls_pure (.bool false) rfl (by intro W; go_simp)
    simp only [Act.put, List.setIfInBounds_toArray, List.set_cons_succ, List.set_cons_zero]
    apply ls_pure (.bool false) rfl (by intro W; go_simp)
    simp only [Act.put, List.setIfInBounds_toArray, List.set_cons_succ, List.set_cons_zero]
    refine ls_nil (Rs := []) ?_
    intro w12 b12
    have H12 := Lib.hid (And.intro (EBlk.later HEx b12) (HBW.then_ b12))
    have H12r := Lib.hid H12.out.1.rng
    clear HEx HEr HNs HBW LX LR LS b12 HMM hv39 hmm1 hmm2
    go_wp2_with (refine wpList_load_mid rfl 27 _ rfl gx 0 rfl ([x0, x1, x2, x3, x4].map fun (n : Nat) => Value.int .u64 (n : Int)) _ H12r.out Try.underlying27 rfl size5 ?_)
    refine (mul_calls _ _ _ _ HX.out HX.out _).mono ?_
    rintro e w13 ⟨v13, rfl, hv13, b13⟩
    have HV13 := Lib.hid hv13
    have H13 := Lib.hid (And.intro (EBlk.later H12.out.1 b13) (H12.out.2.then_ b13))
    clear hv13 b13 H12 H12r
    go_wp2_with fail
    refine (root_calls _ _ HV13.out _).mono ?_
    rintro e w14 ⟨u14, rfl, hu14, b14⟩
    rw [if_pos (rootOk_sq n)] at hu14
    rw [rootOk_sq n]
    obtain ⟨q0, q1, q2, q3, q4, rfl, okq, valq⟩ := hu14.form
    have HQ : Hid (IsEl (E5 q0 q1 q2 q3 q4) (rootV (n * n))) := Lib.hid hu14
    have heq : EBlk (w14.alloc (.cells #[.int .u64 (q0 : Int), .int .u64 (q1 : Int), .int .u64 (q2 : Int), .int .u64 (q3 : Int), .int .u64 (q4 : Int)] 27)) w14.heap.size [q0, q1, q2, q3, q4] := heap_alloc_new w14 _
    have e1 := EBlk.later H13.out.1 b14
    have bb := H13.out.2.then_ b14
    have HB14 := Lib.hid (And.intro (EBlk.alloc e1 (.cells #[.int .u64 (q0 : Int), .int .u64 (q1 : Int), .int .u64 (q2 : Int), .int .u64 (q3 : Int), .int .u64 (q4 : Int)] 27)) (And.intro heq (bb.alloc bb.size (.cells #[.int .u64 (q0 : Int), .int .u64 (q1 : Int), .int .u64 (q2 : Int), .int .u64 (q3 : Int), .int .u64 (q4 : Int)] 27))))
    clear okq valq hu14 b14 heq e1 bb H13
    go_upto_region 9 with fail
    obtain ⟨gq, hgq⟩ : ∃ g, w14.heap.size = g := ⟨_, rfl⟩
    rw [hgq] at HB14 ⊢
    refine wp_gen (fun W15 => EBlk W15 gx [x0, x1, x2, x3, x4] ∧ EBlk W15 gq [q0, q1, q2, q3, q4] ∧ Below w.heap.size w W15) HB14.out ?_
    rintro W15 ⟨HEx, HEq, HBW⟩
    have LX : gx < W15.heap.size := (Array.getElem?_eq_some_iff.1 HEx).1
    have LQ : gq < W15.heap.size := (Array.getElem?_eq_some_iff.1 HEq).1
    clear HB14 hgq
    obtain ⟨d, hd⟩ : ∃ d, decide (rootV (n * n) % P = n % P) = d := ⟨_, rfl⟩
    cases d with
    | true =>
      apply wp_region_ls (by kernel_rfl) (by kernel_rfl)
      apply ls_move (.bool true) (.tmp 9) rfl rfl rfl
      simp only [Act.put, List.setIfInBounds_toArray, List.set_cons_succ, List.set_cons_zero]
      apply ls_move (.bool true) (.tmp 56) rfl rfl rfl
      simp only [Act.put, List.setIfInBounds_toArray, List.set_cons_succ, List.set_cons_zero]
      apply ls_el (.tmp 8) HEq LQ rfl rfl rfl
      simp only [Act.put, List.setIfInBounds_toArray, List.set_cons_succ, List.set_cons_zero]
      apply ls_el (.tmp 3) HEx LX rfl rfl rfl
      simp only [Act.put, List.setIfInBounds_toArray, List.set_cons_succ, List.set_cons_zero]
      apply ls_callx (.bool true) 17 #[E5 q0 q1 q2 q3 q4, E5 x0 x1 x2 x3 x4] rfl (by intro W; go_simp) (fun W => (is_calls _ _ _ _ HQ.out HX.out W).mono fun e W' h => ⟨by rw [h.1]; exact ret_bool hd, h.2⟩)
      simp only [Act.put, List.setIfInBounds_toArray, List.set_cons_succ, List.set_cons_zero]
      apply ls_move (.bool true) (.tmp 60) rfl rfl rfl
      simp only [Act.put, List.setIfInBounds_toArray, List.set_cons_succ, List.set_cons_zero]
      apply ls_skip rfl
      simp only [Act.put, List.setIfInBounds_toArray, List.set_cons_succ, List.set_cons_zero]
      apply ls_skip rfl
      simp only [Act.put, List.setIfInBounds_toArray, List.set_cons_succ, List.set_cons_zero]
      apply ls_skip rfl
      simp only [Act.put, List.setIfInBounds_toArray, List.set_cons_succ, List.set_cons_zero]
      apply ls_skip rfl
      simp only [Act.put, List.setIfInBounds_toArray, List.set_cons_succ, List.set_cons_zero]
      apply ls_pure (.bool true) rfl (by intro W; go_simp)
      simp only [Act.put, List.setIfInBounds_toArray, List.set_cons_succ, List.set_cons_zero]
      apply ls_pure (.bool true) rfl (by intro W; go_simp)
      simp only [Act.put, List.setIfInBounds_toArray, List.set_cons_succ, List.set_cons_zero]
      apply ls_assign (.bool true) (.tmp 67) rfl rfl rfl
      simp only [Act.put, List.setIfInBounds_toArray, List.set_cons_succ, List.set_cons_zero]
      refine ls_nil (Rs := []) ?_
      intro w16 b16
      have H16 := Lib.hid (HBW.then_ b16)
      clear HEx HEq HBW LX LQ b16
      go_wp2_with fail
      go_ret
      exact ⟨rfl, H16.out⟩
    | false =>
      have hd2 : decide (rootV (n * n) % P = (P - n % P) % P) = true := decide_eq_true ((rootV_back n).resolve_left (of_decide_eq_false hd))
      apply wp_region_ls (by kernel_rfl) (by kernel_rfl)
      apply ls_move (.bool true) (.tmp 9) rfl rfl rfl
      simp only [Act.put, List.setIfInBounds_toArray, List.set_cons_succ, List.set_cons_zero]
      apply ls_move (.bool true) (.tmp 56) rfl rfl rfl
      simp only [Act.put, List.setIfInBounds_toArray, List.set_cons_succ, List.set_cons_zero]
      apply ls_el (.tmp 8) HEq LQ rfl rfl rfl
      simp only [Act.put, List.setIfInBounds_toArray, List.set_cons_succ, List.set_cons_zero]
      apply ls_el (.tmp 3) HEx LX rfl rfl rfl
      simp only [Act.put, List.setIfInBounds_toArray, List.set_cons_succ, List.set_cons_zero]
      apply ls_callx (.bool false) 17 #[E5 q0 q1 q2 q3 q4, E5 x0 x1 x2 x3 x4] rfl (by intro W; go_simp) (fun W => (is_calls _ _ _ _ HQ.out HX.out W).mono fun e W' h => ⟨by rw [h.1]; exact ret_bool hd, h.2⟩)
      simp only [Act.put, List.setIfInBounds_toArray, List.set_cons_succ, List.set_cons_zero]
      apply ls_move (.bool false) (.tmp 60) rfl rfl rfl
      simp only [Act.put, List.setIfInBounds_toArray, List.set_cons_succ, List.set_cons_zero]
      apply ls_el (.tmp 8) HEq LQ rfl rfl rfl
      simp only [Act.put, List.setIfInBounds_toArray, List.set_cons_succ, List.set_cons_zero]
      apply ls_el (.tmp 3) HEx LX rfl rfl rfl
      simp only [Act.put, List.setIfInBounds_toArray, List.set_cons_succ, List.set_cons_zero]
      apply ls_call_el (P - n % P) 24 #[E5 x0 x1 x2 x3 x4] rfl (by intro W; go_simp) (fun W => neg_calls _ _ HX.out W)
      intro v64 hv64
      simp only [Act.put, List.setIfInBounds_toArray, List.set_cons_succ, List.set_cons_zero]
      apply ls_callx (.bool true) 17 #[E5 q0 q1 q2 q3 q4, v64] rfl (by intro W; go_simp) (fun W => (is_calls _ _ _ _ HQ.out hv64 W).mono fun e W' h => ⟨by rw [h.1]; exact ret_bool hd2, h.2⟩)
      simp only [Act.put, List.setIfInBounds_toArray, List.set_cons_succ, List.set_cons_zero]
      apply ls_pure (.bool true) rfl (by intro W; go_simp)
      simp only [Act.put, List.setIfInBounds_toArray, List.set_cons_succ, List.set_cons_zero]
      apply ls_pure (.bool true) rfl (by intro W; go_simp)
      simp only [Act.put, List.setIfInBounds_toArray, List.set_cons_succ, List.set_cons_zero]
      apply ls_assign (.bool true) (.tmp 67) rfl rfl rfl
      simp only [Act.put, List.setIfInBounds_toArray, List.set_cons_succ, List.set_cons_zero]
      refine ls_nil (Rs := []) ?_
      intro w16 b16
      have H16 := Lib.hid (HBW.then_ b16)
      clear HEx HEq HBW LX LQ b16
      go_wp2_with fail
      go_ret
      exact ⟨rfl, H16.out⟩
  | false =>
    apply wp_region_ls (by kernel_rfl) (by kernel_rfl)
    apply ls_move (.bool false) (.tmp 5) rfl rfl rfl
    simp only [Act.put, List.setIfInBounds_toArray, List.set_cons_succ, List.set_cons_zero]
    apply ls_move (.bool false) (.tmp 7) rfl rfl rfl
    simp only [Act.put, List.setIfInBounds_toArray, List.set_cons_succ, List.set_cons_zero]
    apply ls_pure (.bool false) rfl (by intro W; go_simp)
    simp only [Act.put, List.setIfInBounds_toArray, List.set_cons_succ, List.set_cons_zero]
    apply ls_move (.bool false) (.tmp 27) rfl rfl rfl
    simp only [Act.put, List.setIfInBounds_toArray, List.set_cons_succ, List.set_cons_zero]
    apply ls_el (.tmp 4) HEr LR rfl rfl rfl
    simp only [Act.put, List.setIfInBounds_toArray, List.set_cons_succ, List.set_cons_zero]
    apply ls_num (.tmp 6) HNs hls LS rfl rfl rfl
    simp only [Act.put, List.setIfInBounds_toArray, List.set_cons_succ, List.set_cons_zero]
    apply ls_callx (.bool true) 14 #[E5 r0 r1 r2 r3 r4, A16 ss] rfl (by intro W; go_simp) (fun W => (isx_calls _ _ _ _ HR.out HS.out W).mono fun e W' h => ⟨by rw [h.1]; exact ret_bool (decide_eq_true rfl), h.2⟩)
    simp only [Act.put, List.setIfInBounds_toArray, List.set_cons_succ, List.set_cons_zero]
    apply ls_pure (.bool false) rfl (by intro W; go_simp)
    simp only [Act.put, List.setIfInBounds_toArray, List.set_cons_succ, List.set_cons_zero]
    apply ls_pure (.bool false) rfl (by intro W; go_simp)
    simp only [Act.put, List.setIfInBounds_toArray, List.set_cons_succ, List.set_cons_zero]
    apply ls_move (.bool false) (.tmp 33) rfl rfl rfl
    simp only [Act.put, List.setIfInBounds_toArray, List.set_cons_succ, List.set_cons_zero]
    apply ls_move (.bool false) (.tmp 5) rfl rfl rfl
    simp only [Act.put, List.setIfInBounds_toArray, List.set_cons_succ, List.set_cons_zero]
    apply ls_move (.bool false) (.tmp 35) rfl rfl rfl
    simp only [Act.put, List.setIfInBounds_toArray, List.set_cons_succ, List.set_cons_zero]
    apply ls_skip rfl
    simp only [Act.put, List.setIfInBounds_toArray, List.set_cons_succ, List.set_cons_zero]
    apply ls_skip rfl
    simp only [Act.put, List.setIfInBounds_toArray, List.set_cons_succ, List.set_cons_zero]
    apply ls_skip rfl
    simp only [Act.put, List.setIfInBounds_toArray, List.set_cons_succ, List.set_cons_zero]
    apply ls_skip rfl
    simp only [Act.put, List.setIfInBounds_toArray, List.set_cons_succ, List.set_cons_zero]
    apply ls_skip rfl
    simp only [Act.put, List.setIfInBounds_toArray, List.set_cons_succ, List.set_cons_zero]
    apply ls_skip rfl
    simp only [Act.put, List.setIfInBounds_toArray, List.set_cons_succ, List.set_cons_zero]
    apply ls_skip rfl
    simp only [Act.put, List.setIfInBounds_toArray, List.set_cons_succ, List.set_cons_zero]
    apply ls_skip rfl
    simp only [Act.put, List.setIfInBounds_toArray, List.set_cons_succ, List.set_cons_zero]
    apply ls_skip rfl
    simp only [Act.put, List.setIfInBounds_toArray, List.set_cons_succ, List.set_cons_zero]
    apply ls_skip rfl
    simp only [Act.put, List.setIfInBounds_toArray, List.set_cons_succ, List.set_cons_zero]
    apply ls_pure (.bool false) rfl (by intro W; go_simp)
    simp only [Act.put, List.setIfInBounds_toArray, List.set_cons_succ, List.set_cons_zero]
    apply ls_pure (.bool false) rfl (by intro W; go_simp)
    simp only [Act.put, List.setIfInBounds_toArray, List.set_cons_succ, List.set_cons_zero]
    refine ls_nil (Rs := []) ?_
    intro w12 b12
    have H12 := Lib.hid (And.intro (EBlk.later HEx b12) (HBW.then_ b12))
    have H12r := Lib.hid H12.out.1.rng
    clear HEx HEr HNs HBW LX LR LS b12 HMM
    go_wp2_with (refine wpList_load_mid rfl 27 _ rfl gx 0 rfl ([x0, x1, x2, x3, x4].map fun (n : Nat) => Value.int .u64 (n : Int)) _ H12r.out Try.underlying27 rfl size5 ?_)
    refine (mul_calls _ _ _ _ HX.out HX.out _).mono ?_
    rintro e w13 ⟨v13, rfl, hv13, b13⟩
    have HV13 := Lib.hid hv13
    have H13 := Lib.hid (And.intro (EBlk.later H12.out.1 b13) (H12.out.2.then_ b13))
    clear hv13 b13 H12 H12r
    go_wp2_with fail
    refine (root_calls _ _ HV13.out _).mono ?_
    rintro e w14 ⟨u14, rfl, hu14, b14⟩
    rw [if_pos (rootOk_sq n)] at hu14
    rw [rootOk_sq n]
    obtain ⟨q0, q1, q2, q3, q4, rfl, okq, valq⟩ := hu14.form
    have HQ : Hid (IsEl (E5 q0 q1 q2 q3 q4) (rootV (n * n))) := Lib.hid hu14
    have heq : EBlk (w14.alloc (.cells #[.int .u64 (q0 : Int), .int .u64 (q1 : Int), .int .u64 (q2 : Int), .int .u64 (q3 : Int), .int .u64 (q4 : Int)] 27)) w14.heap.size [q0, q1, q2, q3, q4] := heap_alloc_new w14 _
    have e1 := EBlk.later H13.out.1 b14
    have bb := H13.out.2.then_ b14
    have HB14 := Lib.hid (And.intro (EBlk.alloc e1 (.cells #[.int .u64 (q0 : Int), .int .u64 (q1 : Int), .int .u64 (q2 : Int), .int .u64 (q3 : Int), .int .u64 (q4 : Int)] 27)) (And.intro heq (bb.alloc bb.size (.cells #[.int .u64 (q0 : Int), .int .u64 (q1 : Int), .int .u64 (q2 : Int), .int .u64 (q3 : Int), .int .u64 (q4 : Int)] 27))))
    clear okq valq hu14 b14 heq e1 bb H13
    go_upto_region 9 with fail
    obtain ⟨gq, hgq⟩ : ∃ g, w14.heap.size = g := ⟨_, rfl⟩
    rw [hgq] at HB14 ⊢
    refine wp_gen (fun W15 => EBlk W15 gx [x0, x1, x2, x3, x4] ∧ EBlk W15 gq [q0, q1, q2, q3, q4] ∧ Below w.heap.size w W15) HB14.out ?_
    rintro W15 ⟨HEx, HEq, HBW⟩
    have LX : gx < W15.heap.size := (Array.getElem?_eq_some_iff.1 HEx).1
    have LQ : gq < W15.heap.size := (Array.getElem?_eq_some_iff.1 HEq).1
    clear HB14 hgq
    obtain ⟨d, hd⟩ : ∃ d, decide (rootV (n * n) % P = n % P) = d := ⟨_, rfl⟩
    cases d with
    | true =>
      apply wp_region_ls (by kernel_rfl) (by kernel_rfl)
      apply ls_move (.bool true) (.tmp 9) rfl rfl rfl
      simp only [Act.put, List.setIfInBounds_toArray, List.set_cons_succ, List.set_cons_zero]
      apply ls_move (.bool true) (.tmp 56) rfl rfl rfl
      simp only [Act.put, List.setIfInBounds_toArray, List.set_cons_succ, List.set_cons_zero]
      apply ls_el (.tmp 8) HEq LQ rfl rfl rfl
      simp only [Act.put, List.setIfInBounds_toArray, List.set_cons_succ, List.set_cons_zero]
      apply ls_el (.tmp 3) HEx LX rfl rfl rfl
      simp only [Act.put, List.setIfInBounds_toArray, List.set_cons_succ, List.set_cons_zero]
      apply ls_callx (.bool true) 17 #[E5 q0 q1 q2 q3 q4, E5 x0 x1 x2 x3 x4] rfl (by intro W; go_simp) (fun W => (is_calls _ _ _ _ HQ.out HX.out W).mono fun e W' h => ⟨by rw [h.1]; exact ret_bool hd, h.2⟩)
      simp only [Act.put, List.setIfInBounds_toArray, List.set_cons_succ, List.set_cons_zero]
      apply ls_move (.bool true) (.tmp 60) rfl rfl rfl
      simp only [Act.put, List.setIfInBounds_toArray, List.set_cons_succ, List.set_cons_zero]
      apply ls_skip rfl
      simp only [Act.put, List.setIfInBounds_toArray, List.set_cons_succ, List.set_cons_zero]
      apply ls_skip rfl
      simp only [Act.put, List.setIfInBounds_toArray, List.set_cons_succ, List.set_cons_zero]
      apply ls_skip rfl
      simp only [Act.put, List.setIfInBounds_toArray, List.set_cons_succ, List.set_cons_zero]
      apply ls_skip rfl
      simp only [Act.put, List.setIfInBounds_toArray, List.set_cons_succ, List.set_cons_zero]
      apply ls_pure (.bool true) rfl (by intro W; go_simp)
      simp only [Act.put, List.setIfInBounds_toArray, List.set_cons_succ, List.set_cons_zero]
      apply ls_pure (.bool true) rfl (by intro W; go_simp)
      simp only [Act.put, List.setIfInBounds_toArray, List.set_cons_succ, List.set_cons_zero]
      apply ls_assign (.bool true) (.tmp 67) rfl rfl rfl
      simp only [Act.put, List.setIfInBounds_toArray, List.set_cons_succ, List.set_cons_zero]
      refine ls_nil (Rs := []) ?_
      intro w16 b16
      have H16 := Lib.hid (HBW.then_ b16)
      clear HEx HEq HBW LX LQ b16
      go_wp2_with fail
      go_ret
      exact ⟨rfl, H16.out⟩
    | false =>
      have hd2 : decide (rootV (n * n) % P = (P - n % P) % P) = true := decide_eq_true ((rootV_back n).resolve_left (of_decide_eq_false hd))
      apply wp_region_ls (by kernel_rfl) (by kernel_rfl)
      apply ls_move (.bool true) (.tmp 9) rfl rfl rfl
      simp only [Act.put, List.setIfInBounds_toArray, List.set_cons_succ, List.set_cons_zero]
      apply ls_move (.bool true) (.tmp 56) rfl rfl rfl
      simp only [Act.put, List.setIfInBounds_toArray, List.set_cons_succ, List.set_cons_zero]
      apply ls_el (.tmp 8) HEq LQ rfl rfl rfl
      simp only [Act.put, List.setIfInBounds_toArray, List.set_cons_succ, List.set_cons_zero]
      apply ls_el (.tmp 3) HEx LX rfl rfl rfl
      simp only [Act.put, List.setIfInBounds_toArray, List.set_cons_succ, List.set_cons_zero]
      apply ls_callx (.bool false) 17 #[E5 q0 q1 q2 q3 q4, E5 x0 x1 x2 x3 x4] rfl (by intro W; go_simp) (fun W => (is_calls _ _ _ _ HQ.out HX.out W).mono fun e W' h => ⟨by rw [h.1]; exact ret_bool hd, h.2⟩)
      simp only [Act.put, List.setIfInBounds_toArray, List.set_cons_succ, List.set_cons_zero]
      apply ls_move (.bool false) (.tmp 60) rfl rfl rfl
      simp only [Act.put, List.setIfInBounds_toArray, List.set_cons_succ, List.set_cons_zero]
      apply ls_el (.tmp 8) HEq LQ rfl rfl rfl
      simp only [Act.put, List.setIfInBounds_toArray, List.set_cons_succ, List.set_cons_zero]
      apply ls_el (.tmp 3) HEx LX rfl rfl rfl
      simp only [Act.put, List.setIfInBounds_toArray, List.set_cons_succ, List.set_cons_zero]
      apply ls_call_el (P - n % P) 24 #[E5 x0 x1 x2 x3 x4] rfl (by intro W; go_simp) (fun W => neg_calls _ _ HX.out W)
      intro v64 hv64
      simp only [Act.put, List.setIfInBounds_toArray, List.set_cons_succ, List.set_cons_zero]
      apply ls_callx (.bool true) 17 #[E5 q0 q1 q2 q3 q4, v64] rfl (by intro W; go_simp) (fun W => (is_calls _ _ _ _ HQ.out hv64 W).mono fun e W' h => ⟨by rw [h.1]; exact ret_bool hd2, h.2⟩)
      simp only [Act.put, List.setIfInBounds_toArray, List.set_cons_succ, List.set_cons_zero]
      apply ls_pure (.bool true) rfl (by intro W; go_simp)
      simp only [Act.put, List.setIfInBounds_toArray, List.set_cons_succ, List.set_cons_zero]
      apply ls_pure (.bool true) rfl (by intro W; go_simp)
      simp only [Act.put, List.setIfInBounds_toArray, List.set_cons_succ, List.set_cons_zero]
      apply ls_assign (.bool true) (.tmp 67) rfl rfl rfl
      simp only [Act.put, List.setIfInBounds_toArray, List.set_cons_succ, List.set_cons_zero]
      refine ls_nil (Rs := []) ?_
      intro w16 b16
      have H16 := Lib.hid (HBW.then_ b16)
      clear HEx HEq HBW LX LQ b16
      go_wp2_with fail
      go_ret
      exact ⟨rfl, H16.out⟩
end Go.Proofs.Ytpdoegfmngibgaa
