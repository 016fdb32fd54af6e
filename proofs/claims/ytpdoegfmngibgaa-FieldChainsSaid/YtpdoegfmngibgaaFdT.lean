/- Layer 4: Root, walked. -/
import Derived.Test.YtpdoegfmngibgaaFdN
import Derived.Test.YtpdoegfmngibgaaRoot
import Derived.Deep.DeepCutAuto
namespace Go.Proofs.Ytpdoegfmngibgaa
open Go.ChangeShapes Go.WideShapes Go.ChangeAt Go.RowKit Go.IntWalk
set_option linter.unusedVariables false

def rootX (r : Nat) : Nat := if r ^ E8 * r ^ E8 % P = r % P then r ^ E8 else r ^ E8 * 2 ^ E4
def rootOk (r : Nat) : Bool := decide (rootX r * rootX r % P = r % P)
def rootV (r : Nat) : Nat := if rootX r % P % 2 = 1 then P - rootX r % P else rootX r
def RootPost (r : Nat) (w : World) (e : Ending) (w' : World) : Prop := ∃ u, e = .returned (.tuple #[u, .bool (rootOk r)]) ∧ IsEl u (if rootOk r = true then rootV r else 0) ∧ Below w.heap.size w w'
def RMid (g n : Nat) (a0 a1 a2 a3 a4 : Nat) (w wc : World) : Prop := ∃ x0 x1 x2 x3 x4, EBlk wc g [x0, x1, x2, x3, x4] ∧ IsEl (E5 x0 x1 x2 x3 x4) n ∧ EBlk wc w.heap.size [a0, a1, a2, a3, a4] ∧ EBlk wc (w.heap.size + 1) [0, 0, 0, 0, 0] ∧ Below w.heap.size w wc
def ZE4 : Obj := .cells #[.int .u64 0, .int .u64 0, .int .u64 0, .int .u64 0, .int .u64 0] 27
def ZE4' : Obj := .cells #[.int .u64 0, .int .u64 0, .int .u64 0, .int .u64 0, .int .u64 0] 27 (0, 0)
theorem one5x (ls : List Nat) : (ls.map fun (n : Nat) => Value.int .u64 (n : Int)).toArray.all (·.oneCell') = true := by
  apply all_oneCell_toArray
  intro v hv
  obtain ⟨y, _, rfl⟩ := List.mem_map.1 hv
  rfl
theorem EBlk.thereL {w : World} {g n : Nat} {ls : List Nat} (h : EBlk w g ls) (hn : n = ls.length) : w.there g 0 n := by
  intro j hj
  have hj2 : j < ls.length := by omega
  rw [Nat.zero_add]
  exact ⟨by rw [h.cell (List.getElem?_eq_getElem hj2)]; rfl, h.frozen j⟩
theorem leN_252 : leN (onesF 252 1) = E8 := by rw [leN_ones 252 1 (by decide)]; rfl
theorem leN_253 : leN (onesF 253 4) = E4 := by rw [leN_ones 253 4 (by decide)]; rfl
set_option maxRecDepth 100000 in
set_option maxHeartbeats 8000000 in
theorem root_calls (v : Value) (r : Nat) (hv : IsEl v r) (w : World) : Calls Try.prog 32 #[v] w (RootPost r w) := by
  obtain ⟨a0, a1, a2, a3, a4, rfl, hok, hval⟩ := hv.form
  have HV : Hid (IsEl (E5 a0 a1 a2 a3 a4) r) := Lib.hid hv
  clear hok hval hv
  go_enter Try.func32, Try.ntmps32
  go_wp2_with fail
  have ha : EBlk ((w.alloc (.cells #[.int .u64 (a0 : Int), .int .u64 (a1 : Int), .int .u64 (a2 : Int), .int .u64 (a3 : Int), .int .u64 (a4 : Int)] 27)).alloc (.cells #[.int .u64 0, .int .u64 0, .int .u64 0, .int .u64 0, .int .u64 0] 27)) w.heap.size [a0, a1, a2, a3, a4] :=
    (heap_alloc_old _ _ (by simp)).trans (heap_alloc_new w _)
  have hz : EBlk ((w.alloc (.cells #[.int .u64 (a0 : Int), .int .u64 (a1 : Int), .int .u64 (a2 : Int), .int .u64 (a3 : Int), .int .u64 (a4 : Int)] 27)).alloc (.cells #[.int .u64 0, .int .u64 0, .int .u64 0, .int .u64 0, .int .u64 0] 27)) (w.heap.size + 1) [0, 0, 0, 0, 0] := by
    have := heap_alloc_new (w.alloc (.cells #[.int .u64 (a0 : Int), .int .u64 (a1 : Int), .int .u64 (a2 : Int), .int .u64 (a3 : Int), .int .u64 (a4 : Int)] 27)) (.cells #[.int .u64 0, .int .u64 0, .int .u64 0, .int .u64 0, .int .u64 0] 27)
    rw [show (w.alloc (.cells #[.int .u64 (a0 : Int), .int .u64 (a1 : Int), .int .u64 (a2 : Int), .int .u64 (a3 : Int), .int .u64 (a4 : Int)] 27)).heap.size = w.heap.size + 1 by simp] at this
    exact this
  have hb : Below w.heap.size w ((w.alloc (.cells #[.int .u64 (a0 : Int), .int .u64 (a1 : Int), .int .u64 (a2 : Int), .int .u64 (a3 : Int), .int .u64 (a4 : Int)] 27)).alloc (.cells #[.int .u64 0, .int .u64 0, .int .u64 0, .int .u64 0, .int .u64 0] 27)) :=
    ((Below.refl _ _).alloc (Nat.le_refl _) _).alloc (by simp) _
  generalize (w.alloc (.cells #[.int .u64 (a0 : Int), .int .u64 (a1 : Int), .int .u64 (a2 : Int), .int .u64 (a3 : Int), .int .u64 (a4 : Int)] 27)).alloc (.cells #[.int .u64 0, .int .u64 0, .int .u64 0, .int .u64 0, .int .u64 0] 27) = W1 at *
  have hla : w.heap.size < W1.heap.size := (Array.getElem?_eq_some_iff.1 ha).1
  have hlz : w.heap.size + 1 < W1.heap.size := (Array.getElem?_eq_some_iff.1 hz).1
  apply wp_region_g 4 (by kernel_rfl) (by kernel_rfl)
  simp only [List.take_succ_cons, List.take_zero, List.drop_succ_cons, List.drop_zero]
  apply lg_load 27 (.tmp 1) rfl w.heap.size 0 _ _ ha.rng hla Try.underlying27 rfl size5 rfl rfl
  apply lg_call (· = A32 (onesF 252 1)) 42 #[.int .i64 252, .int .u8 1] rfl (by intro W; go_simp) (fun W => (ones_252 W).mono fun e W' h => ⟨_, h.1, rfl, h.2⟩)
  intro vo hvo
  subst hvo
  apply lg_call_el (r ^ leN (onesF 252 1)) 28 #[E5 a0 a1 a2 a3 a4, A32 (onesF 252 1)] rfl (by intro W; go_simp; rfl) (fun W => pow_calls _ _ _ HV.out (onesF_len _ _) W)
  intro vx hvx
  apply lg_alloc ZE4 ZE4' rfl (by intro W; go_simp; rfl) (fun W => heap_alloc_new W _)
  intro g hg
  refine lg_nil ?_
  intro w2 hC2
  rw [leN_252] at hvx
  obtain ⟨x0, x1, x2, x3, x4, rfl, okx, valx⟩ := hvx.form
  have HX : Hid (IsEl (E5 x0 x1 x2 x3 x4) (r ^ E8)) := Lib.hid hvx
  have eg : EBlk w2 g [0, 0, 0, 0, 0] := (hC2.2 g ZE4' (by simp [upd])).2
  have bg : W1.heap.size ≤ g := (hC2.2 g ZE4' (by simp [upd])).1
  have eg3 := eg.setAll (ms := [x0, x1, x2, x3, x4]) rfl
  have ha3 := (EBlk.later ha hC2.1).setFar (show g ≠ w.heap.size by omega) ([x0, x1, x2, x3, x4].map fun (n : Nat) => Value.int .u64 (n : Int))
  have hz3 := (EBlk.later hz hC2.1).setFar (show g ≠ w.heap.size + 1 by omega) ([x0, x1, x2, x3, x4].map fun (n : Nat) => Value.int .u64 (n : Int))
  have hb3 := below_cells (show w.heap.size ≤ g by omega) ([x0, x1, x2, x3, x4].map fun (n : Nat) => Value.int .u64 (n : Int)) 0 _ (hb.then_ hC2.1)
  refine wpList_store_mid rfl 27 _ _ rfl g 0 ([x0, x1, x2, x3, x4].map fun (n : Nat) => Value.int .u64 (n : Int)).toArray rfl rfl (eg.there rfl) size5 (one5x _) ?_
  simp only [Act.put]
  generalize w2.setCells g 0 ([x0, x1, x2, x3, x4].map fun (n : Nat) => Value.int .u64 (n : Int)) = W3 at *
  have hgw : w.heap.size + 1 < g := by omega
  clear okx valx hvx eg hC2 ha hz hb hla hlz hg bg
  have H3 := Lib.hid (And.intro eg3 (And.intro ha3 (And.intro hz3 hb3)))
  clear eg3 ha3 hz3 hb3
  go_wp2_with fail
  obtain ⟨HEx, HEa, HEz, HBW⟩ := H3.out
  have HLx : g < W3.heap.size := (Array.getElem?_eq_some_iff.1 HEx).1
  have HLa : w.heap.size < W3.heap.size := (Array.getElem?_eq_some_iff.1 HEa).1
  obtain ⟨d1, hd1⟩ : ∃ d, decide (r ^ E8 * r ^ E8 % P = r % P) = d := ⟨_, rfl⟩
  apply wp_region_ls (by kernel_rfl) (by kernel_rfl)
  apply ls_el (.tmp 4) HEx HLx rfl rfl rfl
  simp only [Act.put, List.setIfInBounds_toArray, List.set_cons_succ, List.set_cons_zero]
  apply ls_el (.tmp 4) HEx HLx rfl rfl rfl
  simp only [Act.put, List.setIfInBounds_toArray, List.set_cons_succ, List.set_cons_zero]
  apply ls_call_el (r ^ E8 * r ^ E8) 26 #[E5 x0 x1 x2 x3 x4, E5 x0 x1 x2 x3 x4] rfl (by intro W; go_simp) (fun W => mul_calls _ _ _ _ HX.out HX.out W)
  intro v1 hv1
  simp only [Act.put, List.setIfInBounds_toArray, List.set_cons_succ, List.set_cons_zero]
  apply ls_el (.tmp 1) HEa HLa rfl rfl rfl
  simp only [Act.put, List.setIfInBounds_toArray, List.set_cons_succ, List.set_cons_zero]
  apply ls_callx (.bool d1) 17 #[v1, E5 a0 a1 a2 a3 a4] rfl (by intro W; go_simp) (fun W => (is_calls _ _ _ _ hv1 HV.out W).mono fun e W' h => ⟨by rw [h.1, hd1], h.2⟩)
  simp only [Act.put, List.setIfInBounds_toArray, List.set_cons_succ, List.set_cons_zero]
  apply ls_pure (.bool (!d1)) rfl (by intro W; go_simp)
  simp only [Act.put, List.setIfInBounds_toArray, List.set_cons_succ, List.set_cons_zero]
  refine ls_nil (Rs := []) ?_
  intro w6 b6
  have HK := Lib.hid (And.intro (EBlk.later HEx b6) (And.intro (EBlk.later HEa b6) (And.intro (EBlk.later HEz b6) (HBW.then_ b6))))
  have HD1 := Lib.hid hd1
  clear HEx HEa HEz HBW HLx HLa hv1 b6 hd1 H3
  go_upto_if 14 with (fail)
  go_cut [] from 15 (fun wc => RMid g (rootX r) a0 a1 a2 a3 a4 w wc)
  case first =>
    cases d1 with
    | true =>
      go_wp2_with fail
      go_meet
      case rel => exact ⟨x0, x1, x2, x3, x4, HK.out.1, (by unfold rootX; rw [if_pos (of_decide_eq_true HD1.out)]; exact HX.out), HK.out.2.1, HK.out.2.2.1, HK.out.2.2.2⟩
    | false =>
      go_wp2_with fail
      refine (small_calls 2 (by decide) _).mono ?_
      rintro e wa ⟨c2, rfl, hc2, ba⟩
      go_wp2_with fail
      refine (ones_253 _).mono ?_
      rintro e wb ⟨rfl, bb⟩
      go_wp2_with fail
      refine (pow_calls _ _ _ hc2 (onesF_len _ _) _).mono ?_
      rintro e wc ⟨t5, rfl, ht5, bc⟩
      rw [leN_253] at ht5
      obtain ⟨t0, t1, t2, t3, t4, rfl, okt, valt⟩ := ht5.form
      have HT5 : Hid (IsEl (E5 t0 t1 t2 t3 t4) (2 ^ E4)) := Lib.hid ht5
      have b7 := (ba.then_ bb).then_ bc
      have eg := (EBlk.later HK.out.1 b7).alloc (.cells #[.int .u64 (t0 : Int), .int .u64 (t1 : Int), .int .u64 (t2 : Int), .int .u64 (t3 : Int), .int .u64 (t4 : Int)] 27)
      have ea := (EBlk.later HK.out.2.1 b7).alloc (.cells #[.int .u64 (t0 : Int), .int .u64 (t1 : Int), .int .u64 (t2 : Int), .int .u64 (t3 : Int), .int .u64 (t4 : Int)] 27)
      have ez := (EBlk.later HK.out.2.2.1 b7).alloc (.cells #[.int .u64 (t0 : Int), .int .u64 (t1 : Int), .int .u64 (t2 : Int), .int .u64 (t3 : Int), .int .u64 (t4 : Int)] 27)
      have hb8 := HK.out.2.2.2.then_ b7
      have hb9 := hb8.alloc hb8.size (.cells #[.int .u64 (t0 : Int), .int .u64 (t1 : Int), .int .u64 (t2 : Int), .int .u64 (t3 : Int), .int .u64 (t4 : Int)] 27)
      have HRG := Lib.hid (And.intro eg.rng (And.intro eg (And.intro ea (And.intro ez hb9))))
      clear okt valt ht5 b7 eg ea ez hb8 hb9 ba bb bc hc2
      go_wp2_with (refine wpList_load_mid rfl 27 _ rfl g 0 rfl ([x0, x1, x2, x3, x4].map fun (n : Nat) => Value.int .u64 (n : Int)) _ HRG.out.1 Try.underlying27 rfl size5 ?_)
      refine (mul_calls _ _ _ _ HX.out HT5.out _).mono ?_
      rintro e wd ⟨vy, rfl, hvy, bd⟩
      obtain ⟨y0, y1, y2, y3, y4, rfl, oky, valy⟩ := hvy.form
      have HY : Hid (IsEl (E5 y0 y1 y2 y3 y4) (rootX r)) := Lib.hid (by unfold rootX; rw [if_neg (of_decide_eq_false HD1.out)]; exact hvy)
      have eg := EBlk.later HRG.out.2.1 bd
      have HT := Lib.hid (eg.thereL (n := ([y0, y1, y2, y3, y4].map fun (n : Nat) => Value.int .u64 (n : Int)).toArray.size) rfl)
      have HON := Lib.hid (one5x [y0, y1, y2, y3, y4])
      have hk2 : Hid (EBlk (wd.setCells g 0 ([y0, y1, y2, y3, y4].map fun (n : Nat) => Value.int .u64 (n : Int))) g [y0, y1, y2, y3, y4] ∧ EBlk (wd.setCells g 0 ([y0, y1, y2, y3, y4].map fun (n : Nat) => Value.int .u64 (n : Int))) w.heap.size [a0, a1, a2, a3, a4] ∧ EBlk (wd.setCells g 0 ([y0, y1, y2, y3, y4].map fun (n : Nat) => Value.int .u64 (n : Int))) (w.heap.size + 1) [0, 0, 0, 0, 0] ∧ Below w.heap.size w (wd.setCells g 0 ([y0, y1, y2, y3, y4].map fun (n : Nat) => Value.int .u64 (n : Int)))) :=
        Lib.hid ⟨eg.setAll rfl, (EBlk.later HRG.out.2.2.1 bd).setFar (by omega) _, (EBlk.later HRG.out.2.2.2.1 bd).setFar (by omega) _, below_cells (by omega) _ _ _ (HRG.out.2.2.2.2.then_ bd)⟩
      clear oky valy hvy eg bd
      go_wp2_with (refine wpList_store_mid rfl 27 _ _ rfl g 0 ([y0, y1, y2, y3, y4].map fun (n : Nat) => Value.int .u64 (n : Int)).toArray rfl rfl HT.out size5 HON.out ?_)
      go_meet
      case rel => exact ⟨y0, y1, y2, y3, y4, hk2.out.1, HY.out, hk2.out.2.1, hk2.out.2.2.1, hk2.out.2.2.2⟩
  case rest =>
    obtain ⟨x0, x1, x2, x3, x4, HEx, HIY, HEa, HEz, HBW⟩ := hcut
    have HY := Lib.hid HIY
    clear HIY HK HD1 HX
    go_wp2_with fail
    have HLx : g < (wc).heap.size := (Array.getElem?_eq_some_iff.1 HEx).1
    have HLa : w.heap.size < (wc).heap.size := (Array.getElem?_eq_some_iff.1 HEa).1
    obtain ⟨d2, hd2⟩ : ∃ d, rootOk r = d := ⟨_, rfl⟩
    apply wp_region_ls (by kernel_rfl) (by kernel_rfl)
    apply ls_el (.tmp 4) HEx HLx rfl rfl rfl
    simp only [Act.put, List.setIfInBounds_toArray, List.set_cons_succ, List.set_cons_zero]
    apply ls_el (.tmp 4) HEx HLx rfl rfl rfl
    simp only [Act.put, List.setIfInBounds_toArray, List.set_cons_succ, List.set_cons_zero]
    apply ls_call_el (rootX r * rootX r) 26 #[E5 x0 x1 x2 x3 x4, E5 x0 x1 x2 x3 x4] rfl (by intro W; go_simp) (fun W => mul_calls _ _ _ _ HY.out HY.out W)
    intro v2 hv2
    simp only [Act.put, List.setIfInBounds_toArray, List.set_cons_succ, List.set_cons_zero]
    apply ls_el (.tmp 1) HEa HLa rfl rfl rfl
    simp only [Act.put, List.setIfInBounds_toArray, List.set_cons_succ, List.set_cons_zero]
    apply ls_callx (.bool d2) 17 #[v2, E5 a0 a1 a2 a3 a4] rfl (by intro W; go_simp) (fun W => (is_calls _ _ _ _ hv2 HV.out W).mono fun e W' h => ⟨by rw [h.1]; exact ret_bool hd2, h.2⟩)
    simp only [Act.put, List.setIfInBounds_toArray, List.set_cons_succ, List.set_cons_zero]
    apply ls_pure (.bool (!d2)) rfl (by intro W; go_simp)
    simp only [Act.put, List.setIfInBounds_toArray, List.set_cons_succ, List.set_cons_zero]
    refine ls_nil (Rs := []) ?_
    intro w8 b8
    have H8 := Lib.hid (And.intro (EBlk.later HEx b8) (And.intro (EBlk.later HEz b8) (HBW.then_ b8)))
    have HD2 := Lib.hid hd2
    clear HEx HEa HEz HBW HLx HLa hv2 b8 hd2
    cases d2 with
    | false =>
      have hz9 := H8.out.2.1.setAll (ms := [0, 0, 0, 0, 0]) rfl
      have hb9 := below_cells (show w.heap.size ≤ w.heap.size + 1 by omega) ([0, 0, 0, 0, 0].map fun (n : Nat) => Value.int .u64 (n : Int)) 0 _ H8.out.2.2
      have H9 := Lib.hid (And.intro hz9 hb9)
      have HT9 := Lib.hid (H8.out.2.1.thereL (n := ([0, 0, 0, 0, 0].map fun (n : Nat) => Value.int .u64 (n : Int)).toArray.size) rfl)
      have HO9 := Lib.hid (one5x [0, 0, 0, 0, 0])
      clear hz9 hb9
      go_wp2_with (refine wpList_store_mid rfl 27 _ _ rfl (w.heap.size + 1) 0 ([0, 0, 0, 0, 0].map fun (n : Nat) => Value.int .u64 (n : Int)).toArray rfl rfl HT9.out size5 HO9.out ?_)
      obtain ⟨hz9, hb9⟩ := H9.out
      change bodyPost _ _ _ _ _ (w8.setCells (w.heap.size + 1) 0 ([0, 0, 0, 0, 0].map fun (n : Nat) => Value.int .u64 (n : Int)))
      generalize w8.setCells (w.heap.size + 1) 0 ([0, 0, 0, 0, 0].map fun (n : Nat) => Value.int .u64 (n : Int)) = W9 at *
      have q0 := hz9.cell (k := 0) rfl
      have q1 := hz9.cell (k := 1) rfl
      have q2 := hz9.cell (k := 2) rfl
      have q3 := hz9.cell (k := 3) rfl
      have q4 := hz9.cell (k := 4) rfl
      exact bodyPost_ret (v := .tuple #[E5 0 0 0 0 0, .bool false]) (by simp [results, Try.results32, go_sem, q0, q1, q2, q3, q4, E5]) rfl ⟨_, by rw [HD2.out], by rw [HD2.out, if_neg (by decide)]; exact IsEl.zero, hb9⟩
    | true =>
      have H8r := Lib.hid H8.out.1.rng
      go_wp2_with (first | (go_not_at_if 29; fail) | (refine wpList_load_mid rfl 27 _ rfl g 0 rfl ([x0, x1, x2, x3, x4].map fun (n : Nat) => Value.int .u64 (n : Int)) _ H8r.out Try.underlying27 rfl size5 ?_))
      refine (odd_calls _ _ HY.out _).mono ?_
      rintro e w9 ⟨rfl, b9⟩
      have H9 := Lib.hid (And.intro (EBlk.later H8.out.1 b9) (And.intro (EBlk.later H8.out.2.1 b9) (H8.out.2.2.then_ b9)))
      have H9r := Lib.hid H9.out.1.rng
      clear b9
      obtain ⟨od, hod⟩ : ∃ b, decide (rootX r % P % 2 = 1) = b := ⟨_, rfl⟩
      rw [hod]
      have HOD := Lib.hid hod
      clear hod
      go_upto_if 29 with (fail)
      go_cut [] from 30 (fun wc => ∃ n0 n1 n2 n3 n4, EBlk wc g [n0, n1, n2, n3, n4] ∧ IsEl (E5 n0 n1 n2 n3 n4) (rootV r) ∧ EBlk wc (w.heap.size + 1) [0, 0, 0, 0, 0] ∧ Below w.heap.size w wc)
      case first =>
        cases od with
        | true =>
          have hodd := of_decide_eq_true HOD.out
          go_wp2_with (refine wpList_load_mid rfl 27 _ rfl g 0 rfl ([x0, x1, x2, x3, x4].map fun (n : Nat) => Value.int .u64 (n : Int)) _ H9r.out Try.underlying27 rfl size5 ?_)
          refine (neg_calls _ _ HY.out _).mono ?_
          rintro e wn ⟨vn, rfl, hvn, bn⟩
          obtain ⟨n0, n1, n2, n3, n4, rfl, okn, valn⟩ := hvn.form
          have HNV : Hid (IsEl (E5 n0 n1 n2 n3 n4) (rootV r)) := Lib.hid (by unfold rootV; rw [if_pos hodd]; exact hvn)
          have eg := EBlk.later H9.out.1 bn
          have ez := EBlk.later H9.out.2.1 bn
          have HT10 := Lib.hid (eg.thereL (n := ([n0, n1, n2, n3, n4].map fun (n : Nat) => Value.int .u64 (n : Int)).toArray.size) rfl)
          have HO10 := Lib.hid (one5x [n0, n1, n2, n3, n4])
          have eg2 := eg.setAll (ms := [n0, n1, n2, n3, n4]) rfl
          have ez2 := ez.setFar (show g ≠ w.heap.size + 1 by omega) ([n0, n1, n2, n3, n4].map fun (n : Nat) => Value.int .u64 (n : Int))
          have hb2 := below_cells (show w.heap.size ≤ g by omega) ([n0, n1, n2, n3, n4].map fun (n : Nat) => Value.int .u64 (n : Int)) 0 _ (H9.out.2.2.then_ bn)
          have H10 := Lib.hid (And.intro eg2 (And.intro ez2 hb2))
          clear okn valn hvn bn eg ez eg2 ez2 hb2 hodd
          go_wp2_with (refine wpList_store_mid rfl 27 _ _ rfl g 0 ([n0, n1, n2, n3, n4].map fun (n : Nat) => Value.int .u64 (n : Int)).toArray rfl rfl HT10.out size5 HO10.out ?_)
          go_meet
          case rel => exact ⟨n0, n1, n2, n3, n4, H10.out.1, HNV.out, H10.out.2.1, H10.out.2.2⟩
        | false =>
          have hodd := of_decide_eq_false HOD.out
          go_wp2_with fail
          go_meet
          case rel => exact ⟨x0, x1, x2, x3, x4, H9.out.1, (by unfold rootV; rw [if_neg hodd]; exact HY.out), H9.out.2.1, H9.out.2.2⟩
      case rest =>
        obtain ⟨n0, n1, n2, n3, n4, En, HNV0, Ez, HB⟩ := hcut
        have HNV := Lib.hid HNV0
        have HR11 := Lib.hid En.rng
        have HT11 := Lib.hid (Ez.thereL (n := ([n0, n1, n2, n3, n4].map fun (n : Nat) => Value.int .u64 (n : Int)).toArray.size) rfl)
        have HO10 := Lib.hid (one5x [n0, n1, n2, n3, n4])
        have hz3 := Ez.setAll (ms := [n0, n1, n2, n3, n4]) rfl
        have hb3 := below_cells (show w.heap.size ≤ w.heap.size + 1 by omega) ([n0, n1, n2, n3, n4].map fun (n : Nat) => Value.int .u64 (n : Int)) 0 _ HB
        have H11 := Lib.hid (And.intro hz3 hb3)
        clear hz3 hb3 En Ez HB HNV0
        go_wp2_with (first
          | (refine wpList_load_mid rfl 27 _ rfl g 0 rfl ([n0, n1, n2, n3, n4].map fun (n : Nat) => Value.int .u64 (n : Int)) _ HR11.out Try.underlying27 rfl size5 ?_)
          | (refine wpList_store_mid rfl 27 _ _ rfl (w.heap.size + 1) 0 ([n0, n1, n2, n3, n4].map fun (n : Nat) => Value.int .u64 (n : Int)).toArray rfl rfl HT11.out size5 HO10.out ?_))
        obtain ⟨hz3, hb3⟩ := H11.out
        change bodyPost _ _ _ _ _ (World.setCells _ (w.heap.size + 1) 0 ([n0, n1, n2, n3, n4].map fun (n : Nat) => Value.int .u64 (n : Int)))
        generalize World.setCells _ (w.heap.size + 1) 0 ([n0, n1, n2, n3, n4].map fun (n : Nat) => Value.int .u64 (n : Int)) = W9 at *
        have q0 := hz3.cell (k := 0) rfl
        have q1 := hz3.cell (k := 1) rfl
        have q2 := hz3.cell (k := 2) rfl
        have q3 := hz3.cell (k := 3) rfl
        have q4 := hz3.cell (k := 4) rfl
        exact bodyPost_ret (v := .tuple #[E5 n0 n1 n2 n3 n4, .bool true]) (by simp [results, Try.results32, go_sem, q0, q1, q2, q3, q4, E5]) rfl ⟨_, by rw [HD2.out], by rw [HD2.out, if_pos rfl]; exact HNV.out, hb3⟩
end Go.Proofs.Ytpdoegfmngibgaa
