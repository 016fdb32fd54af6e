/- Layer 4: the document's Is and Root, walked. -/
import Derived.Test.YtpdoegfmngibgaaRfM
import Derived.Test.YtpdoegfmngibgaaFdT
namespace Go.Proofs.Ytpdoegfmngibgaa
open Go.ChangeShapes Go.WideShapes Go.ChangeAt Go.RowKit Go.IntWalk
set_option linter.unusedVariables false

def ZN4 : Obj := .cells #[.int .i64 0, .int .i64 0, .int .i64 0, .int .i64 0, .int .i64 0, .int .i64 0, .int .i64 0, .int .i64 0, .int .i64 0, .int .i64 0, .int .i64 0, .int .i64 0, .int .i64 0, .int .i64 0, .int .i64 0, .int .i64 0] 33
def ZN4' : Obj := .cells #[.int .i64 0, .int .i64 0, .int .i64 0, .int .i64 0, .int .i64 0, .int .i64 0, .int .i64 0, .int .i64 0, .int .i64 0, .int .i64 0, .int .i64 0, .int .i64 0, .int .i64 0, .int .i64 0, .int .i64 0, .int .i64 0] 33 (0, 0)
theorem two_blocks (w : World) (cs : List Value) (o : Obj) (ds : List Int) (h : i64s ds = cs) : NBlk ((w.alloc (.cells cs.toArray 33)).alloc o) w.heap.size ds ∧ Below w.heap.size w ((w.alloc (.cells cs.toArray 33)).alloc o) := by
  subst h
  exact ⟨(NBlk.new _).alloc _, ((Below.refl _ _).alloc (Nat.le_refl _) _).alloc (by simp) _⟩
theorem second_block (w : World) (cs : List Value) (o : Obj) (ds : List Int) (h : i64s ds = cs) : NBlk ((w.alloc o).alloc (.cells cs.toArray 33)) (w.heap.size + 1) ds := by
  subst h
  have := NBlk.new (w := w.alloc o) ds
  rwa [show (w.alloc o).heap.size = w.heap.size + 1 by simp] at this
set_option maxRecDepth 100000 in
set_option maxHeartbeats 4000000 in
theorem refIs_calls (u v : Value) (r s : Nat) (hu : IsNum u r) (hv : IsNum v s) (w : World) :
    Calls Try.prog 44 #[u, v] w fun e w' => e = .returned (.bool (decide (r % P = s % P))) ∧ Below w.heap.size w w' := by
  have HU := Lib.hid hu
  have HV := Lib.hid hv
  obtain ⟨xs, rfl, hox, _⟩ := hu
  obtain ⟨ys, rfl, hoy, _⟩ := hv
  unfold A16
  obtain ⟨cs, hcs⟩ : ∃ cs, i64s xs = cs := ⟨_, rfl⟩
  obtain ⟨ds, hds⟩ : ∃ ds, i64s ys = ds := ⟨_, rfl⟩
  rw [hcs, hds]
  have H0 := Lib.hid (And.intro (two_blocks w cs (.cells ds.toArray 33) xs hcs) (And.intro (second_block w ds (.cells cs.toArray 33) ys hds) (And.intro hox.1 hoy.1)))
  clear hcs hds hox hoy
  go_enter Try.func44, Try.ntmps44
  go_wp2_with fail
  obtain ⟨⟨hx, hb0⟩, hy, hlx, hly⟩ := H0.out
  generalize (w.alloc (.cells cs.toArray 33)).alloc (.cells ds.toArray 33) = W1 at *
  have hxt := hx.lt
  have hyt := hy.lt
  have heq : ((⟨(leB 32 (r % P)).toArray⟩ : ByteArray).toList == (⟨(leB 32 (s % P)).toArray⟩ : ByteArray).toList) = decide (r % P = s % P) := by
    rw [← leB_eq (mod_lt_P r) (mod_lt_P s)]
    simp [ByteArray.toList_eq]
  apply wp_region_ls (by kernel_rfl) (by kernel_rfl)
  apply ls_num (.tmp 2) hx hlx hxt rfl rfl rfl
  simp only [Act.put, List.setIfInBounds_toArray, List.set_cons_succ, List.set_cons_zero]
  apply ls_callx (.string ⟨(leB 32 (r % P)).toArray⟩) 35 #[A16 xs] rfl (by intro W; go_simp) (fun W => refBytes_calls _ _ HU.out W)
  simp only [Act.put, List.setIfInBounds_toArray, List.set_cons_succ, List.set_cons_zero]
  apply ls_num (.tmp 3) hy hly hyt rfl rfl rfl
  simp only [Act.put, List.setIfInBounds_toArray, List.set_cons_succ, List.set_cons_zero]
  apply ls_callx (.string ⟨(leB 32 (s % P)).toArray⟩) 35 #[A16 ys] rfl (by intro W; go_simp) (fun W => refBytes_calls _ _ HV.out W)
  simp only [Act.put, List.setIfInBounds_toArray, List.set_cons_succ, List.set_cons_zero]
  apply ls_pure (.bool (decide (r % P = s % P))) rfl (by intro W; rw [← heq]; go_simp)
  simp only [Act.put, List.setIfInBounds_toArray, List.set_cons_succ, List.set_cons_zero]
  apply ls_assign (.bool (decide (r % P = s % P))) (.tmp 9) rfl rfl rfl
  simp only [Act.put, List.setIfInBounds_toArray, List.set_cons_succ, List.set_cons_zero]
  refine ls_nil (Rs := []) ?_
  intro w4 b4
  have hfin := hb0.then_ b4
  clear hb0 b4 hx hy hxt hyt heq hlx hly H0
  go_wp2_with fail
  go_ret
  exact ⟨rfl, hfin⟩
theorem results_cell_tmp {fn : Func} {p q : Tmp} {ty : TypeId} (h : fn.results = #[.cell p ty, .tmp q]) (tmps : Array Value) (a : Addr) (v u : Value) (W : World) (hp : tmps.getD p undef = .pointer (some a)) (hq : tmps.getD q undef = u)
    (hld : (loadVar ty a).run Try.prog W = .ok v W) : (results fn tmps).run Try.prog W = .ok (.tuple #[v, u]) W := by
  simp only [results, h]
  simp only [Array.getD_eq_getD_getElem?] at hp hq
  simp [hp, hq, asAddr, hld]
def RefRootPost (r : Nat) (w : World) (e : Ending) (w' : World) : Prop := ∃ u, e = .returned (.tuple #[u, .bool (rootOk r)]) ∧ IsNum u (if rootOk r = true then rootV r else 0) ∧ Below w.heap.size w w'
def NMid (g n : Nat) (av : List Int) (w wc : World) : Prop := ∃ xs, NBlk wc g xs ∧ IsNum (A16 xs) n ∧ NBlk wc w.heap.size av ∧ NBlk wc (w.heap.size + 1) Z16 ∧ Below w.heap.size w wc
theorem IsNum.len {xs : List Int} {n : Nat} (h : IsNum (A16 xs) n) : xs.length = 16 := by
  obtain ⟨ys, e, hok, _⟩ := h
  have := hok.1
  unfold A16 at e
  injection e with e
  have e2 := congrArg Array.size e
  simp [i64s] at e2
  omega
theorem NBlk.put {W : World} {g : Nat} {ls ms : List Int} (h : NBlk W g ls) (hl : ls.length = 16) (hm : ms.length = 16) : W.there g 0 (i64s ms).toArray.size ∧ NBlk (W.setCells g 0 (i64s ms)) g ms :=
  ⟨h.there (by simp [i64s, hl, hm]), h.setAll (by rw [hl, hm])⟩
set_option maxRecDepth 100000 in
set_option maxHeartbeats 8000000 in
theorem refRoot_calls (v : Value) (r : Nat) (hv : IsNum v r) (w : World) : Calls Try.prog 33 #[v] w (RefRootPost r w) := by
  have HV := Lib.hid hv
  obtain ⟨av, rfl, hok, hval⟩ := hv
  unfold A16
  obtain ⟨cs, hcs⟩ : ∃ cs, i64s av = cs := ⟨_, rfl⟩
  rw [hcs]
  have H0 := Lib.hid (And.intro (two_blocks w cs (.cells #[.int .i64 0, .int .i64 0, .int .i64 0, .int .i64 0, .int .i64 0, .int .i64 0, .int .i64 0, .int .i64 0, .int .i64 0, .int .i64 0, .int .i64 0, .int .i64 0, .int .i64 0, .int .i64 0, .int .i64 0, .int .i64 0] 33) av hcs) (And.intro (second_block w (i64s Z16) (.cells cs.toArray 33) Z16 rfl) hok.1))
  clear hcs hok hval
  go_enter Try.func33, Try.ntmps33
  go_wp2_with fail
  obtain ⟨⟨ha, hb0⟩, hz, hla⟩ := H0.out
  change NBlk ((w.alloc (.cells cs.toArray 33)).alloc (.cells #[.int .i64 0, .int .i64 0, .int .i64 0, .int .i64 0, .int .i64 0, .int .i64 0, .int .i64 0, .int .i64 0, .int .i64 0, .int .i64 0, .int .i64 0, .int .i64 0, .int .i64 0, .int .i64 0, .int .i64 0, .int .i64 0] 33)) (w.heap.size + 1) Z16 at hz
  generalize (w.alloc (.cells cs.toArray 33)).alloc (.cells #[.int .i64 0, .int .i64 0, .int .i64 0, .int .i64 0, .int .i64 0, .int .i64 0, .int .i64 0, .int .i64 0, .int .i64 0, .int .i64 0, .int .i64 0, .int .i64 0, .int .i64 0, .int .i64 0, .int .i64 0, .int .i64 0] 33) = W1 at *
  have hat := ha.lt
  have hzt := hz.lt
  apply wp_region_g 4 (by kernel_rfl) (by kernel_rfl)
  simp only [List.take_succ_cons, List.take_zero, List.drop_succ_cons, List.drop_zero]
  apply lg_num (.tmp 1) ha hla hat rfl rfl rfl
  simp only [Act.put, List.setIfInBounds_toArray, List.set_cons_succ, List.set_cons_zero]
  apply lg_callx (.string ⟨(onesF 252 1).toArray⟩) 43 #[.int .i64 252, .int .i64 2] rfl (by intro W; go_simp) exp_252
  simp only [Act.put, List.setIfInBounds_toArray, List.set_cons_succ, List.set_cons_zero]
  apply lg_call_num (r ^ leN (onesF 252 1)) 29 #[A16 av, .string ⟨(onesF 252 1).toArray⟩] rfl (by intro W; go_simp) (fun W => refPow_calls _ _ HV.out _ (onesF_len _ _) W)
  intro vx hvx
  simp only [Act.put, List.setIfInBounds_toArray, List.set_cons_succ, List.set_cons_zero]
  apply lg_alloc ZN4 ZN4' rfl (by intro W; go_simp; rfl) (fun W => heap_alloc_new W _)
  intro g hg
  simp only [Act.put, List.setIfInBounds_toArray, List.set_cons_succ, List.set_cons_zero]
  refine lg_nil ?_
  intro w2 hC2
  rw [leN_252] at hvx
  obtain ⟨xs, rfl, okx, valx⟩ := hvx
  have HX : Hid (IsNum (A16 xs) (r ^ E8)) := Lib.hid ⟨xs, rfl, okx, valx⟩
  have eg : NBlk w2 g Z16 := (hC2.2 g ZN4' (by simp [upd])).2
  have bg : W1.heap.size ≤ g := (hC2.2 g ZN4' (by simp [upd])).1
  obtain ⟨th, eg3⟩ := eg.put (ms := xs) rfl okx.1
  have ha3 := (ha.later hC2.1).setFar (show g ≠ w.heap.size by omega) (i64s xs)
  have hz3 := (hz.later hC2.1).setFar (show g ≠ w.heap.size + 1 by omega) (i64s xs)
  have hb3 := below_cells (show w.heap.size ≤ g by omega) (i64s xs) 0 _ (hb0.then_ hC2.1)
  refine wpList_store_mid rfl 33 _ _ rfl g 0 (i64s xs).toArray rfl rfl th (size16a xs okx.1) (one16 xs) ?_
  simp only [Act.put]
  generalize w2.setCells g 0 (i64s xs) = W3 at *
  have hgw : w.heap.size + 1 < g := by omega
  clear okx valx eg hC2 ha hz hb0 hat hzt hg bg th H0
  have H3 := Lib.hid (And.intro eg3 (And.intro ha3 (And.intro hz3 hb3)))
  clear eg3 ha3 hz3 hb3
  go_wp2_with fail
  obtain ⟨HEx, HEa, HEz, HBW⟩ := H3.out
  have HLx : g < W3.heap.size := HEx.lt
  have hlx := HX.out.len
  apply wp_region_g 6 (by kernel_rfl) (by kernel_rfl)
  simp only [List.take_succ_cons, List.take_zero, List.drop_succ_cons, List.drop_zero]
  apply lg_num (.tmp 4) HEx hlx HLx rfl rfl rfl
  simp only [Act.put, List.setIfInBounds_toArray, List.set_cons_succ, List.set_cons_zero]
  apply lg_call_num 2 16 #[.int .i64 2] rfl (by intro W; go_simp) (fun W => refSmall_calls 2 (by decide) W)
  intro vs hvs
  simp only [Act.put, List.setIfInBounds_toArray, List.set_cons_succ, List.set_cons_zero]
  apply lg_callx (.string ⟨(onesF 253 4).toArray⟩) 43 #[.int .i64 253, .int .i64 5] rfl (by intro W; go_simp) exp_253
  simp only [Act.put, List.setIfInBounds_toArray, List.set_cons_succ, List.set_cons_zero]
  apply lg_call_num (2 ^ leN (onesF 253 4)) 29 #[vs, .string ⟨(onesF 253 4).toArray⟩] rfl (by intro W; go_simp) (fun W => refPow_calls _ _ hvs _ (onesF_len _ _) W)
  intro vt hvt
  simp only [Act.put, List.setIfInBounds_toArray, List.set_cons_succ, List.set_cons_zero]
  apply lg_call_num (r ^ E8 * 2 ^ leN (onesF 253 4)) 27 #[A16 xs, vt] rfl (by intro W; go_simp) (fun W => refMul_num _ _ _ _ HX.out hvt W)
  intro vy hvy
  simp only [Act.put, List.setIfInBounds_toArray, List.set_cons_succ, List.set_cons_zero]
  apply lg_alloc ZN4 ZN4' rfl (by intro W; go_simp; rfl) (fun W => heap_alloc_new W _)
  intro gy hgy
  simp only [Act.put, List.setIfInBounds_toArray, List.set_cons_succ, List.set_cons_zero]
  refine lg_nil ?_
  intro w4 hC4
  rw [leN_253] at hvy
  obtain ⟨ys, rfl, oky, valy⟩ := hvy
  have HY : Hid (IsNum (A16 ys) (r ^ E8 * 2 ^ E4)) := Lib.hid ⟨ys, rfl, oky, valy⟩
  have eg : NBlk w4 gy Z16 := (hC4.2 gy ZN4' (by simp [upd])).2
  have bg : W3.heap.size ≤ gy := (hC4.2 gy ZN4' (by simp [upd])).1
  obtain ⟨th, ey⟩ := eg.put (ms := ys) rfl oky.1
  have ex := (HEx.later hC4.1).setFar (show gy ≠ g by omega) (i64s ys)
  have ea := (HEa.later hC4.1).setFar (show gy ≠ w.heap.size by omega) (i64s ys)
  have ez := (HEz.later hC4.1).setFar (show gy ≠ w.heap.size + 1 by omega) (i64s ys)
  have eb := below_cells (show w.heap.size ≤ gy by omega) (i64s ys) 0 _ (HBW.then_ hC4.1)
  refine wpList_store_mid rfl 33 _ _ rfl gy 0 (i64s ys).toArray rfl rfl th (size16a ys oky.1) (one16 ys) ?_
  simp only [Act.put]
  generalize w4.setCells gy 0 (i64s ys) = W5 at *
  have H5 := Lib.hid (And.intro ex (And.intro ea (And.intro ez (And.intro eb ey))))
  have hgy2 : g < gy := by omega
  clear oky valy eg hC4 HEx HEa HEz HBW HLx hgy bg th H3 ex ea ez eb ey hvs hvt
  go_wp2_with fail
  obtain ⟨HEx, HEa, HEz, HBW, HEy⟩ := H5.out
  have HLx : g < W5.heap.size := HEx.lt
  have HLa : w.heap.size < W5.heap.size := HEa.lt
  obtain ⟨d1, hd1⟩ : ∃ d, decide (r ^ E8 * r ^ E8 % P = r % P) = d := ⟨_, rfl⟩
  apply wp_region_ls (by kernel_rfl) (by kernel_rfl)
  apply ls_num (.tmp 4) HEx hlx HLx rfl rfl rfl
  simp only [Act.put, List.setIfInBounds_toArray, List.set_cons_succ, List.set_cons_zero]
  apply ls_num (.tmp 4) HEx hlx HLx rfl rfl rfl
  simp only [Act.put, List.setIfInBounds_toArray, List.set_cons_succ, List.set_cons_zero]
  apply ls_call_num (r ^ E8 * r ^ E8) 27 #[A16 xs, A16 xs] rfl (by intro W; go_simp) (fun W => refMul_num _ _ _ _ HX.out HX.out W)
  intro v1 hv1
  simp only [Act.put, List.setIfInBounds_toArray, List.set_cons_succ, List.set_cons_zero]
  apply ls_num (.tmp 1) HEa hla HLa rfl rfl rfl
  simp only [Act.put, List.setIfInBounds_toArray, List.set_cons_succ, List.set_cons_zero]
  apply ls_callx (.bool d1) 44 #[v1, A16 av] rfl (by intro W; go_simp) (fun W => (refIs_calls _ _ _ _ hv1 HV.out W).mono fun e W' h => ⟨by rw [h.1, hd1], h.2⟩)
  simp only [Act.put, List.setIfInBounds_toArray, List.set_cons_succ, List.set_cons_zero]
  apply ls_pure (.bool (!d1)) rfl (by intro W; go_simp)
  simp only [Act.put, List.setIfInBounds_toArray, List.set_cons_succ, List.set_cons_zero]
  refine ls_nil (Rs := []) ?_
  intro w6 b6
  have HK := Lib.hid (And.intro (HEx.later b6) (And.intro (HEa.later b6) (And.intro (HEz.later b6) (And.intro (HBW.then_ b6) (HEy.later b6)))))
  have HD1 := Lib.hid hd1
  clear HEx HEa HEz HBW HEy HLx HLa hv1 b6 hd1 H5
  go_upto_if 19 with (fail)
  go_cut [] from 20 (fun wc => NMid g (rootX r) av w wc)
  case first =>
    cases d1 with
    | true =>
      go_wp2_with fail
      go_meet
      case rel => exact ⟨xs, HK.out.1, (by unfold rootX; rw [if_pos (of_decide_eq_true HD1.out)]; exact HX.out), HK.out.2.1, HK.out.2.2.1, HK.out.2.2.2.1⟩
    | false =>
      have hly := HY.out.len
      have HRY := Lib.hid HK.out.2.2.2.2.rng
      have HSY := Lib.hid (size16' ys hly)
      obtain ⟨th, ex⟩ := HK.out.1.put (ms := ys) hlx hly
      have HT := Lib.hid th
      have HSA := Lib.hid (size16a ys hly)
      have HON := Lib.hid (one16 ys)
      have hk2 : Hid (NMid g (rootX r) av w (w6.setCells g 0 (i64s ys))) :=
        Lib.hid ⟨ys, ex, (by unfold rootX; rw [if_neg (of_decide_eq_false HD1.out)]; exact HY.out), HK.out.2.1.setFar (by omega) _, HK.out.2.2.1.setFar (by omega) _, below_cells (by omega) _ _ _ HK.out.2.2.2.1⟩
      clear th ex
      obtain ⟨yv, hyv⟩ : ∃ c, i64s ys = c := ⟨_, rfl⟩
      rw [hyv] at HRY HSY HT HSA HON hk2
      clear hyv
      go_wp2_with (first
        | (refine wpList_load_mid rfl 33 _ rfl gy 0 rfl yv _ HRY.out Try.underlying33 rfl HSY.out ?_)
        | (refine wpList_store_mid rfl 33 _ _ rfl g 0 yv.toArray rfl rfl HT.out HSA.out HON.out ?_))
      go_meet
      case rel => exact hk2.out
  case rest =>
    obtain ⟨zs, HEz0, HIY, HEa, HEz, HBW⟩ := hcut
    have HZ := Lib.hid HIY
    have hlz := HIY.len
    clear HIY HK HD1 HX HY hlx
    have HEx := HEz0
    clear HEz0
    go_wp2_with fail
    have HLx : g < (wc).heap.size := HEx.lt
    have HLa : w.heap.size < (wc).heap.size := HEa.lt
    obtain ⟨d2, hd2⟩ : ∃ d, rootOk r = d := ⟨_, rfl⟩
    apply wp_region_ls (by kernel_rfl) (by kernel_rfl)
    apply ls_num (.tmp 4) HEx hlz HLx rfl rfl rfl
    simp only [Act.put, List.setIfInBounds_toArray, List.set_cons_succ, List.set_cons_zero]
    apply ls_num (.tmp 4) HEx hlz HLx rfl rfl rfl
    simp only [Act.put, List.setIfInBounds_toArray, List.set_cons_succ, List.set_cons_zero]
    apply ls_call_num (rootX r * rootX r) 27 #[A16 zs, A16 zs] rfl (by intro W; go_simp) (fun W => refMul_num _ _ _ _ HZ.out HZ.out W)
    intro v2 hv2
    simp only [Act.put, List.setIfInBounds_toArray, List.set_cons_succ, List.set_cons_zero]
    apply ls_num (.tmp 1) HEa hla HLa rfl rfl rfl
    simp only [Act.put, List.setIfInBounds_toArray, List.set_cons_succ, List.set_cons_zero]
    apply ls_callx (.bool d2) 44 #[v2, A16 av] rfl (by intro W; go_simp) (fun W => (refIs_calls _ _ _ _ hv2 HV.out W).mono fun e W' h => ⟨by rw [h.1]; exact ret_bool hd2, h.2⟩)
    simp only [Act.put, List.setIfInBounds_toArray, List.set_cons_succ, List.set_cons_zero]
    apply ls_pure (.bool (!d2)) rfl (by intro W; go_simp)
    simp only [Act.put, List.setIfInBounds_toArray, List.set_cons_succ, List.set_cons_zero]
    refine ls_nil (Rs := []) ?_
    intro w8 b8
    have H8 := Lib.hid (And.intro (HEx.later b8) (And.intro (HEz.later b8) (HBW.then_ b8)))
    have HD2 := Lib.hid hd2
    clear HEx HEa HEz HBW HLx HLa hv2 b8 hd2
    cases d2 with
    | false =>
      have hput : w8.there (w.heap.size + 1) 0 (#[.int .i64 0, .int .i64 0, .int .i64 0, .int .i64 0, .int .i64 0, .int .i64 0, .int .i64 0, .int .i64 0, .int .i64 0, .int .i64 0, .int .i64 0, .int .i64 0, .int .i64 0, .int .i64 0, .int .i64 0, .int .i64 0] : Array Value).size ∧ NBlk (w8.setCells (w.heap.size + 1) 0 (#[.int .i64 0, .int .i64 0, .int .i64 0, .int .i64 0, .int .i64 0, .int .i64 0, .int .i64 0, .int .i64 0, .int .i64 0, .int .i64 0, .int .i64 0, .int .i64 0, .int .i64 0, .int .i64 0, .int .i64 0, .int .i64 0] : Array Value).toList) (w.heap.size + 1) Z16 := H8.out.2.1.put (ms := Z16) rfl rfl
      have hb9 : Below w.heap.size w (w8.setCells (w.heap.size + 1) 0 (#[.int .i64 0, .int .i64 0, .int .i64 0, .int .i64 0, .int .i64 0, .int .i64 0, .int .i64 0, .int .i64 0, .int .i64 0, .int .i64 0, .int .i64 0, .int .i64 0, .int .i64 0, .int .i64 0, .int .i64 0, .int .i64 0] : Array Value).toList) := below_cells (show w.heap.size ≤ w.heap.size + 1 by omega) _ 0 _ H8.out.2.2
      obtain ⟨ZV, hZV⟩ : ∃ z : Array Value, #[.int .i64 0, .int .i64 0, .int .i64 0, .int .i64 0, .int .i64 0, .int .i64 0, .int .i64 0, .int .i64 0, .int .i64 0, .int .i64 0, .int .i64 0, .int .i64 0, .int .i64 0, .int .i64 0, .int .i64 0, .int .i64 0] = z := ⟨_, rfl⟩
      have hS : (Try.prog.info? 33).map (·.size) = some ZV.size := by rw [← hZV]; exact size16
      have hO : ZV.all (·.oneCell') = true := by rw [← hZV]; exact one16 Z16
      rw [hZV] at hput hb9
      have HT9 := Lib.hid hput.1
      have HO9 := Lib.hid hO
      have HS9 := Lib.hid hS
      have HL9 := Lib.hid (ld16 hput.2 rfl)
      have HB9 := Lib.hid hb9
      have HZV := Lib.hid hZV
      clear hput hb9 hO hS hZV
      go_wp2_with (refine wpList_store_mid rfl 33 _ _ rfl (w.heap.size + 1) 0 ZV rfl (by rw [← HZV.out]; rfl) HT9.out HS9.out HO9.out ?_; generalize w8.setCells (w.heap.size + 1) 0 ZV.toList = W9 at HL9 HB9 ⊢)
      exact bodyPost_ret (v := .tuple #[.agg (i64s Z16).toArray, .bool false]) (results_cell_tmp rfl _ _ _ _ _ rfl rfl HL9.out) rfl ⟨_, by rw [HD2.out], by rw [HD2.out, if_neg (by decide)]; exact IsNum.zero, HB9.out⟩
    | true =>
      have H8r := Lib.hid H8.out.1.rng
      have H8s := Lib.hid (size16' zs hlz)
      obtain ⟨zv, hzv⟩ : ∃ c, i64s zs = c := ⟨_, rfl⟩
      rw [hzv] at H8r H8s
      have HZV := Lib.hid hzv
      clear hzv
      go_wp2_with (first | (go_not_at_if 29; fail) | (refine wpList_load_mid rfl 33 _ rfl g 0 rfl zv _ H8r.out Try.underlying33 rfl H8s.out ?_))
      refine (refOdd_calls (.agg zv.toArray) (rootX r) (by rw [← HZV.out]; exact HZ.out) _).mono ?_
      rintro e w9 ⟨rfl, b9⟩
      have H9 := Lib.hid (And.intro (H8.out.1.later b9) (And.intro (H8.out.2.1.later b9) (H8.out.2.2.then_ b9)))
      clear b9
      obtain ⟨od, hod⟩ : ∃ b, decide (rootX r % P % 2 = 1) = b := ⟨_, rfl⟩
      rw [hod]
      have HOD := Lib.hid hod
      clear hod
      go_upto_if 29 with (fail)
      go_cut [] from 30 (fun wc => ∃ ns, NBlk wc g ns ∧ IsNum (A16 ns) (rootV r) ∧ NBlk wc (w.heap.size + 1) Z16 ∧ Below w.heap.size w wc)
      case first =>
        cases od with
        | true =>
          have hodd := of_decide_eq_true HOD.out
          have H9r := Lib.hid H9.out.1.rng
          rw [HZV.out] at H9r
          have HZ0 : Hid (IsNum (.agg #[.int .i64 0, .int .i64 0, .int .i64 0, .int .i64 0, .int .i64 0, .int .i64 0, .int .i64 0, .int .i64 0, .int .i64 0, .int .i64 0, .int .i64 0, .int .i64 0, .int .i64 0, .int .i64 0, .int .i64 0, .int .i64 0]) 0) := Lib.hid IsNum.zero
          have HZ1 : Hid (IsNum (.agg zv.toArray) (rootX r)) := Lib.hid (by rw [← HZV.out]; exact HZ.out)
          go_wp2_with (refine wpList_load_mid rfl 33 _ rfl g 0 rfl zv _ H9r.out Try.underlying33 rfl H8s.out ?_)
          refine (refSub_num _ _ 0 (rootX r) HZ0.out HZ1.out _).mono ?_
          rintro e wn ⟨vn, rfl, hvn, bn⟩
          obtain ⟨ns, rfl, okn, valn⟩ := hvn
          have HNV : Hid (IsNum (A16 ns) (rootV r)) := Lib.hid (by unfold rootV; rw [if_pos hodd]; have h : IsNum (A16 ns) (0 + (P - rootX r % P)) := ⟨ns, rfl, okn, valn⟩; rwa [Nat.zero_add] at h)
          obtain ⟨th, ex⟩ := (H9.out.1.later bn).put (ms := ns) hlz okn.1
          have HT10 := Lib.hid th
          have HO10 := Lib.hid (one16 ns)
          have HS10 := Lib.hid (size16a ns okn.1)
          have H11 : Hid (∃ ms, NBlk (wn.setCells g 0 (i64s ns)) g ms ∧ IsNum (A16 ms) (rootV r) ∧ NBlk (wn.setCells g 0 (i64s ns)) (w.heap.size + 1) Z16 ∧ Below w.heap.size w (wn.setCells g 0 (i64s ns))) :=
            Lib.hid ⟨ns, ex, HNV.out, (H9.out.2.1.later bn).setFar (by omega) _, below_cells (by omega) _ 0 _ (H9.out.2.2.then_ bn)⟩
          unfold A16
          obtain ⟨nv, hnv⟩ : ∃ c, i64s ns = c := ⟨_, rfl⟩
          rw [hnv] at HT10 HO10 HS10 H11 ⊢
          clear okn valn bn th ex hodd hnv HNV
          go_wp2_with (refine wpList_store_mid rfl 33 _ _ rfl g 0 nv.toArray rfl rfl HT10.out HS10.out HO10.out ?_)
          go_meet
          case rel => exact H11.out
        | false =>
          have hodd := of_decide_eq_false HOD.out
          go_wp2_with fail
          go_meet
          case rel => exact ⟨zs, H9.out.1, (by unfold rootV; rw [if_neg hodd]; exact HZ.out), H9.out.2.1, H9.out.2.2⟩
      case rest =>
        obtain ⟨ns, En, HNV0, Ez, HB⟩ := hcut
        have HNV := Lib.hid HNV0
        have hln := HNV0.len
        have HR11 := Lib.hid En.rng
        have HS11 := Lib.hid (size16' ns hln)
        obtain ⟨th, hz3⟩ := Ez.put (ms := ns) rfl hln
        have HT11 := Lib.hid th
        have HO10 := Lib.hid (one16 ns)
        have HSA11 := Lib.hid (size16a ns hln)
        have HL11 := Lib.hid (ld16 hz3 hln)
        have HB11 := Lib.hid (below_cells (show w.heap.size ≤ w.heap.size + 1 by omega) (i64s ns) 0 _ HB)
        clear hz3 th En Ez HB HNV0
        obtain ⟨nv, hnv⟩ : ∃ c, i64s ns = c := ⟨_, rfl⟩
        rw [hnv] at HR11 HS11 HT11 HO10 HSA11 HL11 HB11
        have HNW := Lib.hid hnv
        clear hnv
        go_wp2_with (first
          | (refine wpList_load_mid rfl 33 _ rfl g 0 rfl nv _ HR11.out Try.underlying33 rfl HS11.out ?_)
          | (refine wpList_store_mid rfl 33 _ _ rfl (w.heap.size + 1) 0 nv.toArray rfl rfl HT11.out HSA11.out HO10.out ?_))
        exact bodyPost_ret (v := .tuple #[.agg nv.toArray, .bool true]) (results_cell_tmp rfl _ _ _ _ _ rfl rfl HL11.out) rfl ⟨_, by rw [HD2.out], by rw [HD2.out, if_pos rfl, ← HNW.out]; exact HNV.out, HB11.out⟩
end Go.Proofs.Ytpdoegfmngibgaa
