/- Layer 4: FieldLaws, walked. -/
import Derived.Test.YtpdoegfmngibgaaFdN
namespace Go.Proofs.Ytpdoegfmngibgaa
open Go.ChangeShapes Go.WideShapes Go.ChangeAt Go.RowKit Go.IntWalk
set_option linter.unusedVariables false

theorem Ppos : 2 < P := by decide +kernel
theorem law1 {a b : Nat} : decide ((a + b) % P = (b + a) % P) = true := by rw [Nat.add_comm, decide_eq_true rfl]
theorem law2 {a b : Nat} : decide (a * b % P = b * a % P) = true := by rw [Nat.mul_comm, decide_eq_true rfl]
theorem law3 {a b c : Nat} : decide (a * b * c % P = a * (b * c) % P) = true := by rw [Nat.mul_assoc, decide_eq_true rfl]
theorem law4 {a b c : Nat} : decide ((a + b) * c % P = (a * c + b * c) % P) = true := by rw [Nat.add_mul, decide_eq_true rfl]
theorem add_back (a b : Nat) : (a + b + (P - b % P)) % P = a % P := by
  have hp := Ppos
  have h1 : b % P < P := Nat.mod_lt _ (by omega)
  have h2 := Nat.div_add_mod b P
  rw [show a + b + (P - b % P) = a + P * (b / P + 1) by rw [Nat.mul_add]; omega, Nat.add_mul_mod_self_left]
theorem law5 {a b : Nat} : decide ((a + b + (P - b % P)) % P = a % P) = true := by rw [add_back, decide_eq_true rfl]
theorem law6 {a : Nat} : decide ((a + (P - a % P)) % P = 0 % P) = true := by
  have := add_back 0 a
  rw [Nat.zero_add] at this
  rw [this, decide_eq_true rfl]
theorem law8 : decide (0 ^ (P - 2) % P = 0 % P) = true := by
  rw [Nat.zero_pow (by have := Ppos; omega), decide_eq_true rfl]
theorem law7 (a : Nat) : decide (a * a ^ (P - 2) % P = 1 % P) = !decide (a % P = 0 % P) := by
  have hp := Ppos
  have h1 : 1 % P = 1 := Nat.mod_eq_of_lt (by omega)
  rw [h1, Nat.zero_mod, Nat.mul_comm, ← Nat.pow_succ, show (P - 2).succ = P - 1 by omega]
  by_cases h : a % P = 0
  · have hp : a ^ (P - 1) % P = 0 := by rw [Nat.pow_mod, h, Nat.zero_pow (by omega), Nat.zero_mod]
    rw [hp, h]; rfl
  · have hp := prmP.fermat1 (a := a) (fun hd => h (Nat.mod_eq_zero_of_dvd hd))
    rw [hp, decide_eq_false h, decide_eq_true rfl]; rfl
def ZE : Obj := .cells #[.int .u64 0, .int .u64 0, .int .u64 0, .int .u64 0, .int .u64 0] 27
def ZE' : Obj := .cells #[.int .u64 0, .int .u64 0, .int .u64 0, .int .u64 0, .int .u64 0] 27 (0, 0)
theorem zero5 (W : World) : (zeroValue 27).run Try.prog W = .ok (E5 0 0 0 0 0) W := by kernel_rfl
theorem one5 (ls : List Nat) : (ls.map fun (n : Nat) => Value.int .u64 (n : Int)).toArray.all (·.oneCell') = true := by
  apply all_oneCell_toArray
  intro v hv
  obtain ⟨y, _, rfl⟩ := List.mem_map.1 hv
  rfl
set_option maxRecDepth 100000 in
set_option maxHeartbeats 8000000 in
theorem fieldLaws_walk (bsx : List UInt8) (hlx : bsx.length = 32) (bsy : List UInt8) (hly : bsy.length = 32) (bsz : List UInt8) (hlz : bsz.length = 32) (w : World) :
    Calls Try.prog 8 #[.agg (bsx.map fun c => Value.int .u8 (c.toNat : Int)).toArray, .agg (bsy.map fun c => Value.int .u8 (c.toNat : Int)).toArray, .agg (bsz.map fun c => Value.int .u8 (c.toNat : Int)).toArray] w fun e w' => e = .returned (.bool true) ∧ Below w.heap.size w w' := by
  obtain ⟨cx, hcx⟩ : ∃ cs, u8s bsx = cs := ⟨_, rfl⟩
  obtain ⟨cy, hcy⟩ : ∃ cs, u8s bsy = cs := ⟨_, rfl⟩
  obtain ⟨cz, hcz⟩ : ∃ cs, u8s bsz = cs := ⟨_, rfl⟩
  rw [show (bsx.map fun c => Value.int .u8 (c.toNat : Int)) = cx from hcx, show (bsy.map fun c => Value.int .u8 (c.toNat : Int)) = cy from hcy, show (bsz.map fun c => Value.int .u8 (c.toNat : Int)) = cz from hcz]
  have HCX := Lib.hid hcx
  have HCY := Lib.hid hcy
  have HCZ := Lib.hid hcz
  clear hcx hcy hcz
  go_enter Try.func8, Try.ntmps8
  go_wp2_with fail
  refine (alive_calls _).mono ?_
  rintro e w1 ⟨rfl, b1⟩
  have hb1 : Below w.heap.size w w1 := below3 b1
  have ux : UBlk w1 w.heap.size bsx := by
    have h := b1.block w.heap.size (by simp; omega)
    unfold UBlk; rw [h, heap_alloc_old _ _ (by simp; omega), heap_alloc_old _ _ (by simp), heap_alloc_new, HCX.out]
  have uy : UBlk w1 (w.heap.size + 1) bsy := by
    have h := b1.block (w.heap.size + 1) (by simp)
    have h2 := heap_alloc_new (w.alloc (.cells cx.toArray 22)) (.cells cy.toArray 22)
    rw [show (w.alloc (.cells cx.toArray 22)).heap.size = w.heap.size + 1 by simp] at h2
    unfold UBlk; rw [h, heap_alloc_old _ _ (by simp), h2, HCY.out]
  have uz : UBlk w1 (w.heap.size + 1 + 1) bsz := by
    have h := b1.block (w.heap.size + 1 + 1) (by simp)
    have h2 := heap_alloc_new ((w.alloc (.cells cx.toArray 22)).alloc (.cells cy.toArray 22)) (.cells cz.toArray 22)
    rw [show ((w.alloc (.cells cx.toArray 22)).alloc (.cells cy.toArray 22)).heap.size = w.heap.size + 1 + 1 by simp] at h2
    unfold UBlk; rw [h, h2, HCZ.out]
  have lx : w.heap.size < w1.heap.size := (Array.getElem?_eq_some_iff.1 ux).1
  have ly : w.heap.size + 1 < w1.heap.size := (Array.getElem?_eq_some_iff.1 uy).1
  have lz : w.heap.size + 1 + 1 < w1.heap.size := (Array.getElem?_eq_some_iff.1 uz).1
  have HUX := Lib.hid ux
  have HUY := Lib.hid uy
  have HUZ := Lib.hid uz
  have HB1 := Lib.hid hb1
  clear b1 hb1 ux uy uz
  obtain ⟨rx, hrx⟩ : ∃ r, leN bsx = r := ⟨_, rfl⟩
  obtain ⟨ry, hry⟩ : ∃ r, leN bsy = r := ⟨_, rfl⟩
  obtain ⟨rz, hrz⟩ : ∃ r, leN bsz = r := ⟨_, rfl⟩
  have HOX : Hid (∀ W, Calls Try.prog 13 #[A32 bsx] W (ElPost rx W)) := Lib.hid (by rw [← hrx]; exact fun W => of_calls bsx hlx W)
  have HOY : Hid (∀ W, Calls Try.prog 13 #[A32 bsy] W (ElPost ry W)) := Lib.hid (by rw [← hry]; exact fun W => of_calls bsy hly W)
  have HOZ : Hid (∀ W, Calls Try.prog 13 #[A32 bsz] W (ElPost rz W)) := Lib.hid (by rw [← hrz]; exact fun W => of_calls bsz hlz W)
  clear hrx hry hrz
  go_wp2_with fail
  apply wp_region_g 9 (by kernel_rfl) (by kernel_rfl)
  simp only [List.take_succ_cons, List.take_zero, List.drop_succ_cons, List.drop_zero]
  apply lg_b32 (.tmp 3) HUX.out hlx lx rfl rfl rfl
  simp only [Act.put, List.setIfInBounds_toArray, List.set_cons_succ, List.set_cons_zero]
  apply lg_call_el rx 13 #[A32 bsx] rfl (by intro W; go_simp) HOX.out
  intro vx hvx
  simp only [Act.put, List.setIfInBounds_toArray, List.set_cons_succ, List.set_cons_zero]
  apply lg_b32 (.tmp 4) HUY.out hly ly rfl rfl rfl
  simp only [Act.put, List.setIfInBounds_toArray, List.set_cons_succ, List.set_cons_zero]
  apply lg_call_el ry 13 #[A32 bsy] rfl (by intro W; go_simp) HOY.out
  intro vy hvy
  simp only [Act.put, List.setIfInBounds_toArray, List.set_cons_succ, List.set_cons_zero]
  apply lg_b32 (.tmp 5) HUZ.out hlz lz rfl rfl rfl
  simp only [Act.put, List.setIfInBounds_toArray, List.set_cons_succ, List.set_cons_zero]
  apply lg_call_el rz 13 #[A32 bsz] rfl (by intro W; go_simp) HOZ.out
  intro vz hvz
  simp only [Act.put, List.setIfInBounds_toArray, List.set_cons_succ, List.set_cons_zero]
  apply lg_alloc ZE ZE' rfl (by intro W; go_simp; rfl) (fun W => heap_alloc_new W _)
  intro gx hgx
  simp only [Act.put, List.setIfInBounds_toArray, List.set_cons_succ, List.set_cons_zero]
  apply lg_alloc ZE ZE' rfl (by intro W; go_simp; rfl) (fun W => heap_alloc_new W _)
  intro gy hgy
  simp only [Act.put, List.setIfInBounds_toArray, List.set_cons_succ, List.set_cons_zero]
  apply lg_alloc ZE ZE' rfl (by intro W; go_simp; rfl) (fun W => heap_alloc_new W _)
  intro gz hgz
  simp only [Act.put, List.setIfInBounds_toArray, List.set_cons_succ, List.set_cons_zero]
  refine lg_nil ?_
  intro w2 hC2
  have nyx : gy ≠ gx := (upd_none.1 hgy).1
  have nzy : gz ≠ gy := (upd_none.1 hgz).1
  have nzx : gz ≠ gx := (upd_none.1 (upd_none.1 hgz).2).1
  have ex : EBlk w2 gx [0, 0, 0, 0, 0] := (hC2.2 gx ZE' (by simp [upd, Ne.symm nyx, Ne.symm nzx])).2
  have ey : EBlk w2 gy [0, 0, 0, 0, 0] := (hC2.2 gy ZE' (by simp [upd, Ne.symm nzy])).2
  have ez : EBlk w2 gz [0, 0, 0, 0, 0] := (hC2.2 gz ZE' (by simp [upd])).2
  have bx : w1.heap.size ≤ gx := (hC2.2 gx ZE' (by simp [upd, Ne.symm nyx, Ne.symm nzx])).1
  have by' : w1.heap.size ≤ gy := (hC2.2 gy ZE' (by simp [upd, Ne.symm nzy])).1
  have bz : w1.heap.size ≤ gz := (hC2.2 gz ZE' (by simp [upd])).1
  obtain ⟨x0, x1, x2, x3, x4, rfl, okx, valx⟩ := hvx.form
  obtain ⟨y0, y1, y2, y3, y4, rfl, oky, valy⟩ := hvy.form
  obtain ⟨z0, z1, z2, z3, z4, rfl, okz, valz⟩ := hvz.form
  have HXx : Hid (IsEl (E5 x0 x1 x2 x3 x4) rx) := Lib.hid hvx
  have HXy : Hid (IsEl (E5 y0 y1 y2 y3 y4) ry) := Lib.hid hvy
  have HXz : Hid (IsEl (E5 z0 z1 z2 z3 z4) rz) := Lib.hid hvz
  have HXo : Hid (IsEl (E5 0 0 0 0 0) 0) := Lib.hid IsEl.zero
  have ex3 := ((ex.setAll (ms := [x0, x1, x2, x3, x4]) rfl).setFar nyx ([y0, y1, y2, y3, y4].map fun (n : Nat) => Value.int .u64 (n : Int))).setFar nzx ([z0, z1, z2, z3, z4].map fun (n : Nat) => Value.int .u64 (n : Int))
  have ey2 := ey.setFar (Ne.symm nyx) ([x0, x1, x2, x3, x4].map fun (n : Nat) => Value.int .u64 (n : Int))
  have ey3 := (ey2.setAll (ms := [y0, y1, y2, y3, y4]) rfl).setFar nzy ([z0, z1, z2, z3, z4].map fun (n : Nat) => Value.int .u64 (n : Int))
  have ez2 := (ez.setFar (Ne.symm nzx) ([x0, x1, x2, x3, x4].map fun (n : Nat) => Value.int .u64 (n : Int))).setFar (Ne.symm nzy) ([y0, y1, y2, y3, y4].map fun (n : Nat) => Value.int .u64 (n : Int))
  have ez3 := ez2.setAll (ms := [z0, z1, z2, z3, z4]) rfl
  have bW := below_cells (Nat.le_trans HB1.out.size bz) ([z0, z1, z2, z3, z4].map fun (n : Nat) => Value.int .u64 (n : Int)) 0 _ (below_cells (Nat.le_trans HB1.out.size by') ([y0, y1, y2, y3, y4].map fun (n : Nat) => Value.int .u64 (n : Int)) 0 _
    (below_cells (Nat.le_trans HB1.out.size bx) ([x0, x1, x2, x3, x4].map fun (n : Nat) => Value.int .u64 (n : Int)) 0 _ (HB1.out.then_ hC2.1)))
  refine wpList_store_mid rfl 27 _ _ rfl gx 0 ([x0, x1, x2, x3, x4].map fun (n : Nat) => Value.int .u64 (n : Int)).toArray rfl rfl (ex.there rfl) size5 (one5 _) ?_
  refine wpList_store_mid rfl 27 _ _ rfl gy 0 ([y0, y1, y2, y3, y4].map fun (n : Nat) => Value.int .u64 (n : Int)).toArray rfl rfl (ey2.there rfl) size5 (one5 _) ?_
  refine wpList_store_mid rfl 27 _ _ rfl gz 0 ([z0, z1, z2, z3, z4].map fun (n : Nat) => Value.int .u64 (n : Int)).toArray rfl rfl (ez2.there rfl) size5 (one5 _) ?_
  simp only [Act.put]
  generalize ((w2.setCells gx 0 ([x0, x1, x2, x3, x4].map fun (n : Nat) => Value.int .u64 (n : Int))).setCells gy 0 ([y0, y1, y2, y3, y4].map fun (n : Nat) => Value.int .u64 (n : Int))).setCells gz 0 ([z0, z1, z2, z3, z4].map fun (n : Nat) => Value.int .u64 (n : Int)) = W3 at *
  clear okx oky okz valx valy valz hvx hvy hvz ex ey ez ey2 ez2 hC2 bx by' bz hgx hgy hgz
  have HE3 := Lib.hid (And.intro ex3 (And.intro ey3 (And.intro ez3 bW)))
  clear ex3 ey3 ez3 bW
  go_wp2_with fail
  obtain ⟨HEx, HEy, HEz, HBW⟩ := HE3.out
  have HLx : gx < W3.heap.size := (Array.getElem?_eq_some_iff.1 HEx).1
  have HLy : gy < W3.heap.size := (Array.getElem?_eq_some_iff.1 HEy).1
  have HLz : gz < W3.heap.size := (Array.getElem?_eq_some_iff.1 HEz).1
  apply wp_region_ls (by kernel_rfl) (by kernel_rfl)
  apply ls_el (.tmp 7) HEx HLx rfl rfl rfl
  simp only [Act.put, List.setIfInBounds_toArray, List.set_cons_succ, List.set_cons_zero]
  apply ls_el (.tmp 8) HEy HLy rfl rfl rfl
  simp only [Act.put, List.setIfInBounds_toArray, List.set_cons_succ, List.set_cons_zero]
  apply ls_call_el (rx + ry) 20 #[E5 x0 x1 x2 x3 x4, E5 y0 y1 y2 y3 y4] rfl (by intro W; go_simp) (fun W => add_calls _ _ _ _ HXx.out HXy.out W)
  intro v1 hv1
  simp only [Act.put, List.setIfInBounds_toArray, List.set_cons_succ, List.set_cons_zero]
  apply ls_el (.tmp 8) HEy HLy rfl rfl rfl
  simp only [Act.put, List.setIfInBounds_toArray, List.set_cons_succ, List.set_cons_zero]
  apply ls_el (.tmp 7) HEx HLx rfl rfl rfl
  simp only [Act.put, List.setIfInBounds_toArray, List.set_cons_succ, List.set_cons_zero]
  apply ls_call_el (ry + rx) 20 #[E5 y0 y1 y2 y3 y4, E5 x0 x1 x2 x3 x4] rfl (by intro W; go_simp) (fun W => add_calls _ _ _ _ HXy.out HXx.out W)
  intro v2 hv2
  simp only [Act.put, List.setIfInBounds_toArray, List.set_cons_succ, List.set_cons_zero]
  apply ls_callx (.bool true) 17 #[v1, v2] rfl (by intro W; go_simp) (fun W => (is_calls _ _ _ _ hv1 hv2 W).mono fun e W' h => ⟨by rw [h.1, law1], h.2⟩)
  simp only [Act.put, List.setIfInBounds_toArray, List.set_cons_succ, List.set_cons_zero]
  apply ls_pure (.bool false) rfl (by intro W; go_simp)
  simp only [Act.put, List.setIfInBounds_toArray, List.set_cons_succ, List.set_cons_zero]
  apply ls_move (.bool false) (.tmp 26) rfl rfl rfl
  simp only [Act.put, List.setIfInBounds_toArray, List.set_cons_succ, List.set_cons_zero]
  apply ls_el (.tmp 7) HEx HLx rfl rfl rfl
  simp only [Act.put, List.setIfInBounds_toArray, List.set_cons_succ, List.set_cons_zero]
  apply ls_el (.tmp 8) HEy HLy rfl rfl rfl
  simp only [Act.put, List.setIfInBounds_toArray, List.set_cons_succ, List.set_cons_zero]
  apply ls_call_el (rx * ry) 26 #[E5 x0 x1 x2 x3 x4, E5 y0 y1 y2 y3 y4] rfl (by intro W; go_simp) (fun W => mul_calls _ _ _ _ HXx.out HXy.out W)
  intro v3 hv3
  simp only [Act.put, List.setIfInBounds_toArray, List.set_cons_succ, List.set_cons_zero]
  apply ls_el (.tmp 8) HEy HLy rfl rfl rfl
  simp only [Act.put, List.setIfInBounds_toArray, List.set_cons_succ, List.set_cons_zero]
  apply ls_el (.tmp 7) HEx HLx rfl rfl rfl
  simp only [Act.put, List.setIfInBounds_toArray, List.set_cons_succ, List.set_cons_zero]
  apply ls_call_el (ry * rx) 26 #[E5 y0 y1 y2 y3 y4, E5 x0 x1 x2 x3 x4] rfl (by intro W; go_simp) (fun W => mul_calls _ _ _ _ HXy.out HXx.out W)
  intro v4 hv4
  simp only [Act.put, List.setIfInBounds_toArray, List.set_cons_succ, List.set_cons_zero]
  apply ls_callx (.bool true) 17 #[v3, v4] rfl (by intro W; go_simp) (fun W => (is_calls _ _ _ _ hv3 hv4 W).mono fun e W' h => ⟨by rw [h.1, law2], h.2⟩)
  simp only [Act.put, List.setIfInBounds_toArray, List.set_cons_succ, List.set_cons_zero]
  apply ls_pure (.bool false) rfl (by intro W; go_simp)
  simp only [Act.put, List.setIfInBounds_toArray, List.set_cons_succ, List.set_cons_zero]
  apply ls_pure (.bool false) rfl (by intro W; go_simp)
  simp only [Act.put, List.setIfInBounds_toArray, List.set_cons_succ, List.set_cons_zero]
  apply ls_move (.bool false) (.tmp 36) rfl rfl rfl
  simp only [Act.put, List.setIfInBounds_toArray, List.set_cons_succ, List.set_cons_zero]
  apply ls_el (.tmp 7) HEx HLx rfl rfl rfl
  simp only [Act.put, List.setIfInBounds_toArray, List.set_cons_succ, List.set_cons_zero]
  apply ls_el (.tmp 8) HEy HLy rfl rfl rfl
  simp only [Act.put, List.setIfInBounds_toArray, List.set_cons_succ, List.set_cons_zero]
  apply ls_call_el (rx * ry) 26 #[E5 x0 x1 x2 x3 x4, E5 y0 y1 y2 y3 y4] rfl (by intro W; go_simp) (fun W => mul_calls _ _ _ _ HXx.out HXy.out W)
  intro v5 hv5
  simp only [Act.put, List.setIfInBounds_toArray, List.set_cons_succ, List.set_cons_zero]
  apply ls_el (.tmp 9) HEz HLz rfl rfl rfl
  simp only [Act.put, List.setIfInBounds_toArray, List.set_cons_succ, List.set_cons_zero]
  apply ls_call_el ((rx * ry) * rz) 26 #[v5, E5 z0 z1 z2 z3 z4] rfl (by intro W; go_simp) (fun W => mul_calls _ _ _ _ hv5 HXz.out W)
  intro v6 hv6
  simp only [Act.put, List.setIfInBounds_toArray, List.set_cons_succ, List.set_cons_zero]
  apply ls_el (.tmp 7) HEx HLx rfl rfl rfl
  simp only [Act.put, List.setIfInBounds_toArray, List.set_cons_succ, List.set_cons_zero]
  apply ls_el (.tmp 8) HEy HLy rfl rfl rfl
  simp only [Act.put, List.setIfInBounds_toArray, List.set_cons_succ, List.set_cons_zero]
  apply ls_el (.tmp 9) HEz HLz rfl rfl rfl
  simp only [Act.put, List.setIfInBounds_toArray, List.set_cons_succ, List.set_cons_zero]
  apply ls_call_el (ry * rz) 26 #[E5 y0 y1 y2 y3 y4, E5 z0 z1 z2 z3 z4] rfl (by intro W; go_simp) (fun W => mul_calls _ _ _ _ HXy.out HXz.out W)
  intro v7 hv7
  simp only [Act.put, List.setIfInBounds_toArray, List.set_cons_succ, List.set_cons_zero]
  apply ls_call_el (rx * (ry * rz)) 26 #[E5 x0 x1 x2 x3 x4, v7] rfl (by intro W; go_simp) (fun W => mul_calls _ _ _ _ HXx.out hv7 W)
  intro v8 hv8
  simp only [Act.put, List.setIfInBounds_toArray, List.set_cons_succ, List.set_cons_zero]
  apply ls_callx (.bool true) 17 #[v6, v8] rfl (by intro W; go_simp) (fun W => (is_calls _ _ _ _ hv6 hv8 W).mono fun e W' h => ⟨by rw [h.1, law3], h.2⟩)
  simp only [Act.put, List.setIfInBounds_toArray, List.set_cons_succ, List.set_cons_zero]
  apply ls_pure (.bool false) rfl (by intro W; go_simp)
  simp only [Act.put, List.setIfInBounds_toArray, List.set_cons_succ, List.set_cons_zero]
  apply ls_pure (.bool false) rfl (by intro W; go_simp)
  simp only [Act.put, List.setIfInBounds_toArray, List.set_cons_succ, List.set_cons_zero]
  apply ls_move (.bool false) (.tmp 50) rfl rfl rfl
  simp only [Act.put, List.setIfInBounds_toArray, List.set_cons_succ, List.set_cons_zero]
  apply ls_el (.tmp 7) HEx HLx rfl rfl rfl
  simp only [Act.put, List.setIfInBounds_toArray, List.set_cons_succ, List.set_cons_zero]
  apply ls_el (.tmp 8) HEy HLy rfl rfl rfl
  simp only [Act.put, List.setIfInBounds_toArray, List.set_cons_succ, List.set_cons_zero]
  apply ls_call_el (rx + ry) 20 #[E5 x0 x1 x2 x3 x4, E5 y0 y1 y2 y3 y4] rfl (by intro W; go_simp) (fun W => add_calls _ _ _ _ HXx.out HXy.out W)
  intro v9 hv9
  simp only [Act.put, List.setIfInBounds_toArray, List.set_cons_succ, List.set_cons_zero]
  apply ls_el (.tmp 9) HEz HLz rfl rfl rfl
  simp only [Act.put, List.setIfInBounds_toArray, List.set_cons_succ, List.set_cons_zero]
  apply ls_call_el ((rx + ry) * rz) 26 #[v9, E5 z0 z1 z2 z3 z4] rfl (by intro W; go_simp) (fun W => mul_calls _ _ _ _ hv9 HXz.out W)
  intro v10 hv10
  simp only [Act.put, List.setIfInBounds_toArray, List.set_cons_succ, List.set_cons_zero]
  apply ls_el (.tmp 7) HEx HLx rfl rfl rfl
  simp only [Act.put, List.setIfInBounds_toArray, List.set_cons_succ, List.set_cons_zero]
  apply ls_el (.tmp 9) HEz HLz rfl rfl rfl
  simp only [Act.put, List.setIfInBounds_toArray, List.set_cons_succ, List.set_cons_zero]
  apply ls_call_el (rx * rz) 26 #[E5 x0 x1 x2 x3 x4, E5 z0 z1 z2 z3 z4] rfl (by intro W; go_simp) (fun W => mul_calls _ _ _ _ HXx.out HXz.out W)
  intro v11 hv11
  simp only [Act.put, List.setIfInBounds_toArray, List.set_cons_succ, List.set_cons_zero]
  apply ls_el (.tmp 8) HEy HLy rfl rfl rfl
  simp only [Act.put, List.setIfInBounds_toArray, List.set_cons_succ, List.set_cons_zero]
  apply ls_el (.tmp 9) HEz HLz rfl rfl rfl
  simp only [Act.put, List.setIfInBounds_toArray, List.set_cons_succ, List.set_cons_zero]
  apply ls_call_el (ry * rz) 26 #[E5 y0 y1 y2 y3 y4, E5 z0 z1 z2 z3 z4] rfl (by intro W; go_simp) (fun W => mul_calls _ _ _ _ HXy.out HXz.out W)
  intro v12 hv12
  simp only [Act.put, List.setIfInBounds_toArray, List.set_cons_succ, List.set_cons_zero]
  apply ls_call_el ((rx * rz) + (ry * rz)) 20 #[v11, v12] rfl (by intro W; go_simp) (fun W => add_calls _ _ _ _ hv11 hv12 W)
  intro v13 hv13
  simp only [Act.put, List.setIfInBounds_toArray, List.set_cons_succ, List.set_cons_zero]
  apply ls_callx (.bool true) 17 #[v10, v13] rfl (by intro W; go_simp) (fun W => (is_calls _ _ _ _ hv10 hv13 W).mono fun e W' h => ⟨by rw [h.1, law4], h.2⟩)
  simp only [Act.put, List.setIfInBounds_toArray, List.set_cons_succ, List.set_cons_zero]
  apply ls_pure (.bool false) rfl (by intro W; go_simp)
  simp only [Act.put, List.setIfInBounds_toArray, List.set_cons_succ, List.set_cons_zero]
  apply ls_pure (.bool false) rfl (by intro W; go_simp)
  simp only [Act.put, List.setIfInBounds_toArray, List.set_cons_succ, List.set_cons_zero]
  refine ls_nil (Rs := []) ?_
  intro w6 b6
  have ex6 := (EBlk.later HEx b6)
  have ey6 := (EBlk.later HEy b6)
  have ez6 := (EBlk.later HEz b6)
  have b6' := HBW.then_ b6
  have H6 := Lib.hid (And.intro ex6 (And.intro ey6 (And.intro ez6 b6')))
  clear ex6 ey6 ez6 b6' HEx HEy HEz HBW HE3 HLx HLy HLz b6 nyx nzy nzx hv1 hv2 hv3 hv4 hv5 hv6 hv7 hv8 hv9 hv10 hv11 hv12 hv13
  go_wp2_with fail
  obtain ⟨ex6, ey6, ez6, b7⟩ := H6.out
  have HEx := EBlk.alloc ex6 (.cells #[.int .u64 0, .int .u64 0, .int .u64 0, .int .u64 0, .int .u64 0] 27)
  have HEy := EBlk.alloc ey6 (.cells #[.int .u64 0, .int .u64 0, .int .u64 0, .int .u64 0, .int .u64 0] 27)
  have HEz := EBlk.alloc ez6 (.cells #[.int .u64 0, .int .u64 0, .int .u64 0, .int .u64 0, .int .u64 0] 27)
  have HEo : EBlk (w6.alloc (.cells #[.int .u64 0, .int .u64 0, .int .u64 0, .int .u64 0, .int .u64 0] 27)) w6.heap.size [0, 0, 0, 0, 0] := heap_alloc_new w6 _
  have HBW := b7.alloc b7.size (.cells #[.int .u64 0, .int .u64 0, .int .u64 0, .int .u64 0, .int .u64 0] 27)
  generalize w6.alloc (.cells #[.int .u64 0, .int .u64 0, .int .u64 0, .int .u64 0, .int .u64 0] 27) = W7 at *
  generalize w6.heap.size = go at *
  have HLx : gx < W7.heap.size := (Array.getElem?_eq_some_iff.1 HEx).1
  have HLy : gy < W7.heap.size := (Array.getElem?_eq_some_iff.1 HEy).1
  have HLz : gz < W7.heap.size := (Array.getElem?_eq_some_iff.1 HEz).1
  have HLo : go < W7.heap.size := (Array.getElem?_eq_some_iff.1 HEo).1
  obtain ⟨d, hd1, hd2⟩ : ∃ d : Bool, decide (rx * rx ^ (P - 2) % P = 1 % P) = !d ∧ decide (rx % P = 0 % P) = d := ⟨_, law7 _, rfl⟩
  clear ex6 ey6 ez6 b7
  apply wp_region_ls (by kernel_rfl) (by kernel_rfl)
  apply ls_el (.tmp 7) HEx HLx rfl rfl rfl
  simp only [Act.put, List.setIfInBounds_toArray, List.set_cons_succ, List.set_cons_zero]
  apply ls_el (.tmp 8) HEy HLy rfl rfl rfl
  simp only [Act.put, List.setIfInBounds_toArray, List.set_cons_succ, List.set_cons_zero]
  apply ls_call_el (rx + ry) 20 #[E5 x0 x1 x2 x3 x4, E5 y0 y1 y2 y3 y4] rfl (by intro W; go_simp) (fun W => add_calls _ _ _ _ HXx.out HXy.out W)
  intro v14 hv14
  simp only [Act.put, List.setIfInBounds_toArray, List.set_cons_succ, List.set_cons_zero]
  apply ls_el (.tmp 8) HEy HLy rfl rfl rfl
  simp only [Act.put, List.setIfInBounds_toArray, List.set_cons_succ, List.set_cons_zero]
  apply ls_call_el ((rx + ry) + (P - ry % P)) 22 #[v14, E5 y0 y1 y2 y3 y4] rfl (by intro W; go_simp) (fun W => sub_calls _ _ _ _ hv14 HXy.out W)
  intro v15 hv15
  simp only [Act.put, List.setIfInBounds_toArray, List.set_cons_succ, List.set_cons_zero]
  apply ls_el (.tmp 7) HEx HLx rfl rfl rfl
  simp only [Act.put, List.setIfInBounds_toArray, List.set_cons_succ, List.set_cons_zero]
  apply ls_callx (.bool true) 17 #[v15, E5 x0 x1 x2 x3 x4] rfl (by intro W; go_simp) (fun W => (is_calls _ _ _ _ hv15 HXx.out W).mono fun e W' h => ⟨by rw [h.1, law5], h.2⟩)
  simp only [Act.put, List.setIfInBounds_toArray, List.set_cons_succ, List.set_cons_zero]
  apply ls_move (.bool true) (.tmp 74) rfl rfl rfl
  simp only [Act.put, List.setIfInBounds_toArray, List.set_cons_succ, List.set_cons_zero]
  apply ls_el (.tmp 7) HEx HLx rfl rfl rfl
  simp only [Act.put, List.setIfInBounds_toArray, List.set_cons_succ, List.set_cons_zero]
  apply ls_el (.tmp 7) HEx HLx rfl rfl rfl
  simp only [Act.put, List.setIfInBounds_toArray, List.set_cons_succ, List.set_cons_zero]
  apply ls_call_el (P - rx % P) 24 #[E5 x0 x1 x2 x3 x4] rfl (by intro W; go_simp) (fun W => neg_calls _ _ HXx.out W)
  intro v16 hv16
  simp only [Act.put, List.setIfInBounds_toArray, List.set_cons_succ, List.set_cons_zero]
  apply ls_call_el (rx + (P - rx % P)) 20 #[E5 x0 x1 x2 x3 x4, v16] rfl (by intro W; go_simp) (fun W => add_calls _ _ _ _ HXx.out hv16 W)
  intro v17 hv17
  simp only [Act.put, List.setIfInBounds_toArray, List.set_cons_succ, List.set_cons_zero]
  apply ls_el (.tmp 10) HEo HLo rfl rfl rfl
  simp only [Act.put, List.setIfInBounds_toArray, List.set_cons_succ, List.set_cons_zero]
  apply ls_callx (.bool true) 17 #[v17, E5 0 0 0 0 0] rfl (by intro W; go_simp) (fun W => (is_calls _ _ _ _ hv17 HXo.out W).mono fun e W' h => ⟨by rw [h.1, law6], h.2⟩)
  simp only [Act.put, List.setIfInBounds_toArray, List.set_cons_succ, List.set_cons_zero]
  apply ls_pure (.bool true) rfl (by intro W; go_simp)
  simp only [Act.put, List.setIfInBounds_toArray, List.set_cons_succ, List.set_cons_zero]
  apply ls_move (.bool true) (.tmp 82) rfl rfl rfl
  simp only [Act.put, List.setIfInBounds_toArray, List.set_cons_succ, List.set_cons_zero]
  apply ls_el (.tmp 7) HEx HLx rfl rfl rfl
  simp only [Act.put, List.setIfInBounds_toArray, List.set_cons_succ, List.set_cons_zero]
  apply ls_el (.tmp 7) HEx HLx rfl rfl rfl
  simp only [Act.put, List.setIfInBounds_toArray, List.set_cons_succ, List.set_cons_zero]
  apply ls_call_el (rx ^ (P - 2)) 30 #[E5 x0 x1 x2 x3 x4] rfl (by intro W; go_simp) (fun W => inv_calls _ _ HXx.out W)
  intro v18 hv18
  simp only [Act.put, List.setIfInBounds_toArray, List.set_cons_succ, List.set_cons_zero]
  apply ls_call_el (rx * (rx ^ (P - 2))) 26 #[E5 x0 x1 x2 x3 x4, v18] rfl (by intro W; go_simp) (fun W => mul_calls _ _ _ _ HXx.out hv18 W)
  intro v19 hv19
  simp only [Act.put, List.setIfInBounds_toArray, List.set_cons_succ, List.set_cons_zero]
  apply ls_call_el (1) 11 #[.int .u32 1] rfl (by intro W; go_simp) (fun W => small_calls 1 (by decide) W)
  intro v20 hv20
  simp only [Act.put, List.setIfInBounds_toArray, List.set_cons_succ, List.set_cons_zero]
  apply ls_callx (.bool (!d)) 17 #[v19, v20] rfl (by intro W; go_simp) (fun W => (is_calls _ _ _ _ hv19 hv20 W).mono fun e W' h => ⟨by rw [h.1, hd1], h.2⟩)
  simp only [Act.put, List.setIfInBounds_toArray, List.set_cons_succ, List.set_cons_zero]
  apply ls_el (.tmp 7) HEx HLx rfl rfl rfl
  simp only [Act.put, List.setIfInBounds_toArray, List.set_cons_succ, List.set_cons_zero]
  apply ls_el (.tmp 10) HEo HLo rfl rfl rfl
  simp only [Act.put, List.setIfInBounds_toArray, List.set_cons_succ, List.set_cons_zero]
  apply ls_callx (.bool d) 17 #[E5 x0 x1 x2 x3 x4, E5 0 0 0 0 0] rfl (by intro W; go_simp) (fun W => (is_calls _ _ _ _ HXx.out HXo.out W).mono fun e W' h => ⟨by rw [h.1, hd2], h.2⟩)
  simp only [Act.put, List.setIfInBounds_toArray, List.set_cons_succ, List.set_cons_zero]
  apply ls_pure (.bool true) rfl (by intro W; cases d <;> go_simp)
  simp only [Act.put, List.setIfInBounds_toArray, List.set_cons_succ, List.set_cons_zero]
  apply ls_pure (.bool true) rfl (by intro W; go_simp)
  simp only [Act.put, List.setIfInBounds_toArray, List.set_cons_succ, List.set_cons_zero]
  apply ls_move (.bool true) (.tmp 94) rfl rfl rfl
  simp only [Act.put, List.setIfInBounds_toArray, List.set_cons_succ, List.set_cons_zero]
  apply ls_el (.tmp 10) HEo HLo rfl rfl rfl
  simp only [Act.put, List.setIfInBounds_toArray, List.set_cons_succ, List.set_cons_zero]
  apply ls_call_el (0 ^ (P - 2)) 30 #[E5 0 0 0 0 0] rfl (by intro W; go_simp) (fun W => inv_calls _ _ HXo.out W)
  intro v21 hv21
  simp only [Act.put, List.setIfInBounds_toArray, List.set_cons_succ, List.set_cons_zero]
  apply ls_el (.tmp 10) HEo HLo rfl rfl rfl
  simp only [Act.put, List.setIfInBounds_toArray, List.set_cons_succ, List.set_cons_zero]
  apply ls_callx (.bool true) 17 #[v21, E5 0 0 0 0 0] rfl (by intro W; go_simp) (fun W => (is_calls _ _ _ _ hv21 HXo.out W).mono fun e W' h => ⟨by rw [h.1, law8], h.2⟩)
  simp only [Act.put, List.setIfInBounds_toArray, List.set_cons_succ, List.set_cons_zero]
  apply ls_pure (.bool true) rfl (by intro W; go_simp)
  simp only [Act.put, List.setIfInBounds_toArray, List.set_cons_succ, List.set_cons_zero]
  apply ls_assign (.bool true) (.tmp 100) rfl rfl rfl
  simp only [Act.put, List.setIfInBounds_toArray, List.set_cons_succ, List.set_cons_zero]
  refine ls_nil (Rs := []) ?_
  intro w8 b8
  have hfin := HBW.then_ b8
  clear HBW b8 HEx HEy HEz HEo HLx HLy HLz HLo hd1 hd2 H6
  go_wp2_with fail
  go_ret
  exact ⟨rfl, hfin⟩
end Go.Proofs.Ytpdoegfmngibgaa
