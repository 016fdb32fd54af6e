/- Layer 4: FieldChains, walked. -/
import Derived.Test.YtpdoegfmngibgaaFdU
import Derived.Test.YtpdoegfmngibgaaArrs
namespace Go.Proofs.Ytpdoegfmngibgaa
open Go.ChangeShapes Go.WideShapes Go.ChangeAt Go.RowKit Go.IntWalk
set_option linter.unusedVariables false

theorem and3 (z : Int) : ∃ j : Nat, j < 4 ∧ bits .and .i64 z 3 = (j : Int) := by
  unfold bits
  simp only []
  have h : ∀ b : BitVec IntKind.i64.bits, (b &&& BitVec.ofInt IntKind.i64.bits 3).toNat < 4 := by
    intro b
    rw [BitVec.toNat_and]
    exact Nat.lt_of_le_of_lt Nat.and_le_right (by decide)
  have h2 := h (BitVec.ofInt _ z)
  exact ⟨_, h2, IntWalk.i64_in _ (by omega)⟩
theorem Ppos0 : 0 < P := by decide +kernel
section
variable {ops : Array Oper} {w0 : World} {Lq : Gh → Act → Prop} {o : Oper} {rest : List Oper} {kds : List Kd} {s : Gh} {a : Act}
theorem lg_el {g m0 m1 m2 m3 m4 : Nat} (x : Operand) (hE : EBlk w0 g [m0, m1, m2, m3, m4]) (hb : g < w0.heap.size) (ho : o.op = .load 27 x) (hw : Region.wanted o (yielded ops a.tmps) = true) (hx : a.eval x = .pointer (some ⟨g, 0, none⟩))
    (h2 : wpG Try.prog ops w0 Lq rest kds s (a.put o.dst (E5 m0 m1 m2 m3 m4))) : wpG Try.prog ops w0 Lq (o :: rest) (.rel (· = E5 m0 m1 m2 m3 m4) :: kds) s a :=
  lg_load 27 x ho g 0 _ _ hE.rng hb Try.underlying27 rfl size5 hw hx h2
end
theorem neg_neg_add (s m : Nat) : (s + (P - (P - m % P) % P)) % P = (s + m) % P := by
  have hp := Ppos0
  have h1 := mod_lt_P m
  by_cases h0 : m % P = 0
  · rw [h0, Nat.sub_zero, Nat.mod_self, Nat.sub_zero, Nat.add_mod_right, Nat.add_mod s m, h0, Nat.add_zero, Nat.mod_mod]
  · rw [Nat.mod_eq_of_lt (show P - m % P < P by omega), show P - (P - m % P) = m % P by omega, Nat.add_mod, Nat.mod_mod, ← Nat.add_mod]
def ChS (w : World) (g7 g8 : Nat) (m : Nat) (wr : World) : Prop :=
  ∃ x0 x1 x2 x3 x4 ys, EBlk wr g7 [x0, x1, x2, x3, x4] ∧ IsEl (E5 x0 x1 x2 x3 x4) m ∧ NBlk wr g8 ys ∧ IsNum (A16 ys) m ∧ Below w.heap.size w wr
theorem fieldChains_open1 {H : Type} {enc : TypeId × Value → H} {w : World} {base : Nat} {held : Bool} {A : Option Addr} {n c : Nat} {d : DataW H} {p : List MemPlace}
    (h : DataW.Trod enc Try.prog w base (fun _ => true) held 53 (.slice A n c) d p) (hwt : ∀ q ∈ d.weights Try.prog 53, q ≤ reachBytes) : ∃ xs, Own53 w A n c xs := arrs_open h
theorem fieldChains_open2 {H : Type} {enc : TypeId × Value → H} {w : World} {base : Nat} {held : Bool} {A : Option Addr} {n c : Nat} {d : DataW H} {p : List MemPlace}
    (h : DataW.Trod enc Try.prog w base (fun _ => true) held 54 (.slice A n c) d p) (hwt : ∀ q ∈ d.weights Try.prog 54, q ≤ reachBytes) : ∃ xs, Own54 w A n c xs := ints_open h
set_option maxRecDepth 100000 in
set_option maxHeartbeats 16000000 in
theorem fieldChains_walk (bsx : List UInt8) (hlx : bsx.length = 32) (A : Option Addr) (n c : Nat) (ss : List (List UInt8)) {w : World} (hs : Own53 w A n c ss)
    (B : Option Addr) (q d : Nat) (zs : List Int) (hz : Own54 w B q d zs) :
    Calls Try.prog 9 #[.agg (bsx.map fun c => Value.int .u8 (c.toNat : Int)).toArray, .slice A n c, .slice B q d] w fun e w' => e = .returned (.bool true) ∧ Below w.heap.size w w' := by
  obtain ⟨hs, hn, hc⟩ := hs
  obtain ⟨hz, hq, hd⟩ := hz
  obtain ⟨cx, hcx⟩ : ∃ cs, u8s bsx = cs := ⟨_, rfl⟩
  rw [show (bsx.map fun c => Value.int .u8 (c.toNat : Int)) = cx from hcx]
  have HCX := Lib.hid hcx
  have HSZs := Lib.hid (And.intro hs hz)
  clear hcx hs hz
  go_enter Try.func9, Try.ntmps9
  go_wp2_with fail
  refine (alive_calls _).mono ?_
  rintro e w4 ⟨rfl, b14⟩
  have ux : UBlk w4 w.heap.size bsx := by
    have h := b14.block w.heap.size (by simp)
    unfold UBlk; rw [h, heap_alloc_new, HCX.out]
  have HW4 := Lib.hid (And.intro ux (below1 b14))
  clear b14 ux
  by_cases hbig : 60 < n
  · have hd : decide (60 < (n : Int)) = true := by simp; omega
    go_wp2_with fail
    go_ret
    exact ⟨rfl, HW4.out.2⟩
  by_cases hfew : q < n
  · have hd : decide (60 < (n : Int)) = false := by simp; omega
    have hd2 : decide ((q : Int) < (n : Int)) = true := by simp; omega
    go_wp2_with fail
    go_ret
    exact ⟨rfl, HW4.out.2⟩
  have hd1 : decide (60 < (n : Int)) = false := by simp; omega
  have hd2 : decide ((q : Int) < (n : Int)) = false := by simp; omega
  go_upto_region 5 with fail
  obtain ⟨HUx, HBW0⟩ := HW4.out
  have LUx : w.heap.size < w4.heap.size := (Array.getElem?_eq_some_iff.1 HUx).1
  clear HW4
  apply wp_region_g 6 (by kernel_rfl) (by kernel_rfl)
  simp only [List.take_succ_cons, List.take_zero, List.drop_succ_cons, List.drop_zero]
  apply lg_b32 (.tmp 3) HUx hlx LUx rfl rfl rfl
  simp only [Act.put, List.setIfInBounds_toArray, List.set_cons_succ, List.set_cons_zero]
  apply lg_call_el (leN bsx) 13 #[A32 bsx] rfl (by intro W; go_simp) (fun W => of_calls _ hlx W)
  intro vx hvx
  simp only [Act.put, List.setIfInBounds_toArray, List.set_cons_succ, List.set_cons_zero]
  apply lg_b32 (.tmp 3) HUx hlx LUx rfl rfl rfl
  simp only [Act.put, List.setIfInBounds_toArray, List.set_cons_succ, List.set_cons_zero]
  apply lg_call_num (leN bsx) 15 #[A32 bsx] rfl (by intro W; go_simp) (fun W => num_calls _ hlx W)
  intro vy hvy
  simp only [Act.put, List.setIfInBounds_toArray, List.set_cons_succ, List.set_cons_zero]
  apply lg_alloc ZE4 ZE4' rfl (by intro W; go_simp; rfl) (fun W => heap_alloc_new W _)
  intro g7 hg7
  simp only [Act.put, List.setIfInBounds_toArray, List.set_cons_succ, List.set_cons_zero]
  apply lg_alloc ZN4 ZN4' rfl (by intro W; go_simp; rfl) (fun W => heap_alloc_new W _)
  intro g8 hg8
  simp only [Act.put, List.setIfInBounds_toArray, List.set_cons_succ, List.set_cons_zero]
  refine lg_nil ?_
  intro w5 hC5
  obtain ⟨p0, p1, p2, p3, p4, rfl, okp, valp⟩ := hvx.form
  obtain ⟨qs, rfl, okq, valq⟩ := hvy
  have hnq : IsNum (A16 qs) (leN bsx) := ⟨qs, rfl, okq, valq⟩
  have hne : g7 ≠ g8 := by
    intro h
    subst h
    simp [upd] at hg8
  have ex : EBlk w5 g7 [0, 0, 0, 0, 0] := (hC5.2 g7 ZE4' (by simp [upd, hne])).2
  have b7 : w4.heap.size ≤ g7 := (hC5.2 g7 ZE4' (by simp [upd, hne])).1
  have ey : NBlk w5 g8 Z16 := (hC5.2 g8 ZN4' (by simp [upd])).2
  have b8 : w4.heap.size ≤ g8 := (hC5.2 g8 ZN4' (by simp [upd])).1
  have hw4s := HBW0.size
  have ex2 := ex.setAll (ms := [p0, p1, p2, p3, p4]) rfl
  have ey2 := ey.setFar (show g7 ≠ g8 from hne) ([p0, p1, p2, p3, p4].map fun (n : Nat) => Value.int .u64 (n : Int))
  obtain ⟨th, ey3⟩ := ey2.put (ms := qs) rfl okq.1
  have ex3 := ex2.setFar (show g8 ≠ g7 from fun h => hne h.symm) (i64s qs)
  have hb2 := below_cells (show w.heap.size ≤ g8 by omega) (i64s qs) 0 _ (below_cells (show w.heap.size ≤ g7 by omega) ([p0, p1, p2, p3, p4].map fun (n : Nat) => Value.int .u64 (n : Int)) 0 _ (HBW0.then_ hC5.1))
  have H5 : Hid (ChS w g7 g8 (leN bsx) ((w5.setCells g7 0 ([p0, p1, p2, p3, p4].map fun (n : Nat) => Value.int .u64 (n : Int))).setCells g8 0 (i64s qs))) := Lib.hid ⟨p0, p1, p2, p3, p4, qs, ex3, hvx, ey3, hnq, hb2⟩
  refine wpList_store_mid rfl 27 _ _ rfl g7 0 ([p0, p1, p2, p3, p4].map fun (n : Nat) => Value.int .u64 (n : Int)).toArray rfl rfl (ex.there rfl) size5 (one5x _) ?_
  refine wpList_store_mid rfl 33 _ _ rfl g8 0 (i64s qs).toArray rfl rfl th (size16a qs okq.1) (one16 qs) ?_
  simp only [Act.put]
  change wpList _ _ _ _ _ ((w5.setCells g7 0 ([p0, p1, p2, p3, p4].map fun (n : Nat) => Value.int .u64 (n : Int))).setCells g8 0 (i64s qs))
  generalize (w5.setCells g7 0 ([p0, p1, p2, p3, p4].map fun (n : Nat) => Value.int .u64 (n : Int))).setCells g8 0 (i64s qs) = W5 at *
  have hgw : w.heap.size ≤ g7 ∧ w.heap.size ≤ g8 := by omega
  clear hvx okp valp okq valq hnq ex ey ex2 ey2 th ey3 ex3 hb2 hC5 HUx HBW0 LUx b7 b8 hg7 hg8 hw4s
  go_wp2_with fail
  go_loopw [29] (fun i wr => ∃ k m : Nat, k ≤ n ∧ i = .int .i64 (k : Nat) ∧ ChS w g7 g8 m wr) (fun i _ => n - (intOf i).toNat)
  case atStart => exact ⟨0, _, Nat.zero_le _, rfl, H5.out⟩
  case round =>
    clear H5
    obtain ⟨k, m, hk, rfl, hcs⟩ := hrel
    by_cases hlt : k < n
    · have hlt1 : decide ((k : Int) < (n : Int)) = true := by simp; omega
      obtain ⟨hls, b, off, rfl, hbl, hrg⟩ := HSZs.out.1 k (by rw [← hn.out]; exact hlt)
      obtain ⟨b2, off2, rfl, hbl2, hcz⟩ := HSZs.out.2 k (by rw [← hq.out]; omega)
      obtain ⟨x0, x1, x2, x3, x4, ys, hEx, hx, hNy, hy, hBW⟩ := hcs
      have HX := Lib.hid hx
      have HY := Lib.hid hy
      have hly := hy.len
      obtain ⟨sb, hsb⟩ : ∃ s, ss.getD k [] = s := ⟨_, rfl⟩
      obtain ⟨z, hzz⟩ : ∃ z, zs.getD k 0 = z := ⟨_, rfl⟩
      rw [hsb] at hls hrg
      rw [hzz] at hcz
      have hrg2 : wr.rangeAt b (off + k * 32) (u8s sb) := fun j v hv => (hBW.cell (p := ⟨b, off + k * 32 + j, none⟩) hbl).trans (hrg j v hv)
      have hcz2 := (hBW.cell (p := ⟨b2, off2 + k, none⟩) hbl2).trans hcz
      have hu0 := UBlk.new0 wr
      have u1 := hu0.setAll (cs := sb) (by rw [hls]; rfl)
      have l7 : g7 < wr.heap.size := (Array.getElem?_eq_some_iff.1 hEx).1
      have l8 : g8 < wr.heap.size := hNy.lt
      have e2 := (EBlk.alloc hEx (.cells #[.int .u8 0, .int .u8 0, .int .u8 0, .int .u8 0, .int .u8 0, .int .u8 0, .int .u8 0, .int .u8 0, .int .u8 0, .int .u8 0, .int .u8 0, .int .u8 0, .int .u8 0, .int .u8 0, .int .u8 0, .int .u8 0, .int .u8 0, .int .u8 0, .int .u8 0, .int .u8 0, .int .u8 0, .int .u8 0, .int .u8 0, .int .u8 0, .int .u8 0, .int .u8 0, .int .u8 0, .int .u8 0, .int .u8 0, .int .u8 0, .int .u8 0, .int .u8 0] 22)).setFar (g2 := wr.heap.size) (by omega) (u8s sb)
      have n2 := (hNy.alloc (.cells #[.int .u8 0, .int .u8 0, .int .u8 0, .int .u8 0, .int .u8 0, .int .u8 0, .int .u8 0, .int .u8 0, .int .u8 0, .int .u8 0, .int .u8 0, .int .u8 0, .int .u8 0, .int .u8 0, .int .u8 0, .int .u8 0, .int .u8 0, .int .u8 0, .int .u8 0, .int .u8 0, .int .u8 0, .int .u8 0, .int .u8 0, .int .u8 0, .int .u8 0, .int .u8 0, .int .u8 0, .int .u8 0, .int .u8 0, .int .u8 0, .int .u8 0, .int .u8 0] 22)).setFar (g2 := wr.heap.size) (by omega) (u8s sb)
      have bw2 := below_cells hBW.size (u8s sb) 0 _ (hBW.alloc hBW.size (.cells #[.int .u8 0, .int .u8 0, .int .u8 0, .int .u8 0, .int .u8 0, .int .u8 0, .int .u8 0, .int .u8 0, .int .u8 0, .int .u8 0, .int .u8 0, .int .u8 0, .int .u8 0, .int .u8 0, .int .u8 0, .int .u8 0, .int .u8 0, .int .u8 0, .int .u8 0, .int .u8 0, .int .u8 0, .int .u8 0, .int .u8 0, .int .u8 0, .int .u8 0, .int .u8 0, .int .u8 0, .int .u8 0, .int .u8 0, .int .u8 0, .int .u8 0, .int .u8 0] 22))
      have c2 := (bw2.cell (p := ⟨b2, off2 + k, none⟩) hbl2).trans hcz
      have hne78 : g7 ≠ g8 := hne
      have HT := Lib.hid (hu0.there (n := (u8s sb).toArray.size) (by simp [u8s, hls]))
      have HS := Lib.hid (show (Try.prog.info? 22).map (·.size) = some (u8s sb).toArray.size by simpa using size32' sb hls)
      have HSL := Lib.hid (size32' sb hls)
      have HO := Lib.hid (one8 sb)
      have HRG := Lib.hid hrg2
      have HA := Lib.hid (And.intro u1 (And.intro n2 (And.intro bw2 (And.intro e2 c2))))
      have HC2 := Lib.hid hcz2
      obtain ⟨sv, hsv⟩ : ∃ c, u8s sb = c := ⟨_, rfl⟩
      rw [hsv] at HT HS HSL HO HRG HA
      clear hEx hx hNy hy hBW hrg hcz hrg2 hcz2 hu0 u1 e2 n2 bw2 c2 hsb hzz hsv hlx
      go_upto_region 9 with (first
        | (refine wpList_load_mid rfl 22 _ rfl b (off + k * 32) rfl sv _ HRG.out Try.underlying22 rfl HSL.out ?_)
        | (refine wpList_store_mid rfl 22 _ _ rfl wr.heap.size 0 sv.toArray rfl rfl HT.out HS.out HO.out ?_))
      obtain ⟨gs, hgs⟩ : ∃ g, wr.heap.size = g := ⟨_, rfl⟩
      rw [hgs] at HA ⊢
      refine wp_gen (fun W8 => UBlk W8 gs sb ∧ NBlk W8 g8 ys ∧ Below w.heap.size w W8 ∧ EBlk W8 g7 [x0, x1, x2, x3, x4] ∧ W8.cell? ⟨b2, off2 + k, none⟩ = some (.int .i64 z)) HA.out ?_
      rintro W8 ⟨HUs, HNy, HBW, HEx, hcell⟩
      have LX : g7 < W8.heap.size := (Array.getElem?_eq_some_iff.1 HEx).1
      have LSS : gs < W8.heap.size := (Array.getElem?_eq_some_iff.1 HUs).1
      have LY : g8 < W8.heap.size := HNy.lt
      clear HA HT HS HSL HO HRG HC2 hgs
      obtain ⟨j, hj, hbits⟩ := and3 z
      obtain rfl | rfl | rfl | rfl : j = 0 ∨ j = 1 ∨ j = 2 ∨ j = 3 := by omega
      · go_wp2_with fail
        clear hcell hbits
        apply wp_region_g 8 (by kernel_rfl) (by kernel_rfl)
        simp only [List.take_succ_cons, List.take_zero, List.drop_succ_cons, List.drop_zero]
        apply lg_el (.tmp 7) HEx LX rfl rfl rfl
        simp only [Act.put, List.setIfInBounds_toArray, List.set_cons_succ, List.set_cons_zero]
        apply lg_b32 (.tmp 10) HUs hls LSS rfl rfl rfl
        simp only [Act.put, List.setIfInBounds_toArray, List.set_cons_succ, List.set_cons_zero]
        apply lg_call_el (leN sb) 13 #[A32 sb] rfl (by intro W; go_simp) (fun W => of_calls _ hls W)
        intro vo hvo
        simp only [Act.put, List.setIfInBounds_toArray, List.set_cons_succ, List.set_cons_zero]
        apply lg_call_el (m + leN sb) 20 #[E5 x0 x1 x2 x3 x4, vo] rfl (by intro W; go_simp) (fun W => add_calls _ _ _ _ HX.out hvo W)
        intro vx hvx
        simp only [Act.put, List.setIfInBounds_toArray, List.set_cons_succ, List.set_cons_zero]
        apply lg_num (.tmp 8) HNy hly LY rfl rfl rfl
        simp only [Act.put, List.setIfInBounds_toArray, List.set_cons_succ, List.set_cons_zero]
        apply lg_b32 (.tmp 10) HUs hls LSS rfl rfl rfl
        simp only [Act.put, List.setIfInBounds_toArray, List.set_cons_succ, List.set_cons_zero]
        apply lg_call_num (leN sb) 15 #[A32 sb] rfl (by intro W; go_simp) (fun W => num_calls _ hls W)
        intro vn hvn
        simp only [Act.put, List.setIfInBounds_toArray, List.set_cons_succ, List.set_cons_zero]
        apply lg_call_num (m + leN sb) 21 #[A16 ys, vn] rfl (by intro W; go_simp) (fun W => refAdd_num _ _ _ _ HY.out hvn W)
        intro vy hvy
        simp only [Act.put, List.setIfInBounds_toArray, List.set_cons_succ, List.set_cons_zero]
        refine lg_nil ?_
        intro w9 hC9
        obtain ⟨p0, p1, p2, p3, p4, rfl, okp, valp⟩ := hvx.form
        obtain ⟨qs, rfl, okq, valq⟩ := hvy
        have hnq : IsNum (A16 qs) (m + leN sb) := ⟨qs, rfl, okq, valq⟩
        have ex := EBlk.later HEx hC9.1
        have ey := HNy.later hC9.1
        have ex2 := ex.setAll (ms := [p0, p1, p2, p3, p4]) rfl
        have ey2 := ey.setFar (show g7 ≠ g8 by omega) ([p0, p1, p2, p3, p4].map fun (n : Nat) => Value.int .u64 (n : Int))
        obtain ⟨th, ey3⟩ := ey2.put (ms := qs) hly okq.1
        have ex3 := ex2.setFar (show g8 ≠ g7 by omega) (i64s qs)
        have hb2 := below_cells (show w.heap.size ≤ g8 by omega) (i64s qs) 0 _ (below_cells (show w.heap.size ≤ g7 by omega) ([p0, p1, p2, p3, p4].map fun (n : Nat) => Value.int .u64 (n : Int)) 0 _ (HBW.then_ hC9.1))
        have H9 : Hid (ChS w g7 g8 (m + leN sb) ((w9.setCells g7 0 ([p0, p1, p2, p3, p4].map fun (n : Nat) => Value.int .u64 (n : Int))).setCells g8 0 (i64s qs))) := Lib.hid ⟨p0, p1, p2, p3, p4, qs, ex3, hvx, ey3, hnq, hb2⟩
        refine wpList_store_mid rfl 27 _ _ rfl g7 0 ([p0, p1, p2, p3, p4].map fun (n : Nat) => Value.int .u64 (n : Int)).toArray rfl rfl (ex.thereL rfl) size5 (one5x _) ?_
        refine wpList_store_mid rfl 33 _ _ rfl g8 0 (i64s qs).toArray rfl rfl th (size16a qs okq.1) (one16 qs) ?_
        simp only [Act.put]
        change wpList _ _ _ _ _ ((w9.setCells g7 0 ([p0, p1, p2, p3, p4].map fun (n : Nat) => Value.int .u64 (n : Int))).setCells g8 0 (i64s qs))
        generalize (w9.setCells g7 0 ([p0, p1, p2, p3, p4].map fun (n : Nat) => Value.int .u64 (n : Int))).setCells g8 0 (i64s qs) = W9 at *
        clear hvx hvo hvn okp valp okq valq hnq ex ey ex2 ey2 th ey3 ex3 hb2 hC9 HEx HUs HNy HBW LX LSS LY
        go_wp2_with fail
        go_roundw
        case rel => exact ⟨k + 1, _, by omega, by go_num, H9.out⟩
        case measure => simp [intOf]; omega
      · go_wp2_with fail
        clear hcell hbits
        apply wp_region_g 8 (by kernel_rfl) (by kernel_rfl)
        simp only [List.take_succ_cons, List.take_zero, List.drop_succ_cons, List.drop_zero]
        apply lg_el (.tmp 7) HEx LX rfl rfl rfl
        simp only [Act.put, List.setIfInBounds_toArray, List.set_cons_succ, List.set_cons_zero]
        apply lg_b32 (.tmp 10) HUs hls LSS rfl rfl rfl
        simp only [Act.put, List.setIfInBounds_toArray, List.set_cons_succ, List.set_cons_zero]
        apply lg_call_el (leN sb) 13 #[A32 sb] rfl (by intro W; go_simp) (fun W => of_calls _ hls W)
        intro vo hvo
        simp only [Act.put, List.setIfInBounds_toArray, List.set_cons_succ, List.set_cons_zero]
        apply lg_call_el (m + (P - leN sb % P)) 22 #[E5 x0 x1 x2 x3 x4, vo] rfl (by intro W; go_simp) (fun W => sub_calls _ _ _ _ HX.out hvo W)
        intro vx hvx
        simp only [Act.put, List.setIfInBounds_toArray, List.set_cons_succ, List.set_cons_zero]
        apply lg_num (.tmp 8) HNy hly LY rfl rfl rfl
        simp only [Act.put, List.setIfInBounds_toArray, List.set_cons_succ, List.set_cons_zero]
        apply lg_b32 (.tmp 10) HUs hls LSS rfl rfl rfl
        simp only [Act.put, List.setIfInBounds_toArray, List.set_cons_succ, List.set_cons_zero]
        apply lg_call_num (leN sb) 15 #[A32 sb] rfl (by intro W; go_simp) (fun W => num_calls _ hls W)
        intro vn hvn
        simp only [Act.put, List.setIfInBounds_toArray, List.set_cons_succ, List.set_cons_zero]
        apply lg_call_num (m + (P - leN sb % P)) 23 #[A16 ys, vn] rfl (by intro W; go_simp) (fun W => refSub_num _ _ _ _ HY.out hvn W)
        intro vy hvy
        simp only [Act.put, List.setIfInBounds_toArray, List.set_cons_succ, List.set_cons_zero]
        refine lg_nil ?_
        intro w9 hC9
        obtain ⟨p0, p1, p2, p3, p4, rfl, okp, valp⟩ := hvx.form
        obtain ⟨qs, rfl, okq, valq⟩ := hvy
        have hnq : IsNum (A16 qs) (m + (P - leN sb % P)) := ⟨qs, rfl, okq, valq⟩
        have ex := EBlk.later HEx hC9.1
        have ey := HNy.later hC9.1
        have ex2 := ex.setAll (ms := [p0, p1, p2, p3, p4]) rfl
        have ey2 := ey.setFar (show g7 ≠ g8 by omega) ([p0, p1, p2, p3, p4].map fun (n : Nat) => Value.int .u64 (n : Int))
        obtain ⟨th, ey3⟩ := ey2.put (ms := qs) hly okq.1
        have ex3 := ex2.setFar (show g8 ≠ g7 by omega) (i64s qs)
        have hb2 := below_cells (show w.heap.size ≤ g8 by omega) (i64s qs) 0 _ (below_cells (show w.heap.size ≤ g7 by omega) ([p0, p1, p2, p3, p4].map fun (n : Nat) => Value.int .u64 (n : Int)) 0 _ (HBW.then_ hC9.1))
        have H9 : Hid (ChS w g7 g8 (m + (P - leN sb % P)) ((w9.setCells g7 0 ([p0, p1, p2, p3, p4].map fun (n : Nat) => Value.int .u64 (n : Int))).setCells g8 0 (i64s qs))) := Lib.hid ⟨p0, p1, p2, p3, p4, qs, ex3, hvx, ey3, hnq, hb2⟩
        refine wpList_store_mid rfl 27 _ _ rfl g7 0 ([p0, p1, p2, p3, p4].map fun (n : Nat) => Value.int .u64 (n : Int)).toArray rfl rfl (ex.thereL rfl) size5 (one5x _) ?_
        refine wpList_store_mid rfl 33 _ _ rfl g8 0 (i64s qs).toArray rfl rfl th (size16a qs okq.1) (one16 qs) ?_
        simp only [Act.put]
        change wpList _ _ _ _ _ ((w9.setCells g7 0 ([p0, p1, p2, p3, p4].map fun (n : Nat) => Value.int .u64 (n : Int))).setCells g8 0 (i64s qs))
        generalize (w9.setCells g7 0 ([p0, p1, p2, p3, p4].map fun (n : Nat) => Value.int .u64 (n : Int))).setCells g8 0 (i64s qs) = W9 at *
        clear hvx hvo hvn okp valp okq valq hnq ex ey ex2 ey2 th ey3 ex3 hb2 hC9 HEx HUs HNy HBW LX LSS LY
        go_wp2_with fail
        go_roundw
        case rel => exact ⟨k + 1, _, by omega, by go_num, H9.out⟩
        case measure => simp [intOf]; omega
      · go_wp2_with fail
        clear hcell hbits
        apply wp_region_g 8 (by kernel_rfl) (by kernel_rfl)
        simp only [List.take_succ_cons, List.take_zero, List.drop_succ_cons, List.drop_zero]
        apply lg_el (.tmp 7) HEx LX rfl rfl rfl
        simp only [Act.put, List.setIfInBounds_toArray, List.set_cons_succ, List.set_cons_zero]
        apply lg_b32 (.tmp 10) HUs hls LSS rfl rfl rfl
        simp only [Act.put, List.setIfInBounds_toArray, List.set_cons_succ, List.set_cons_zero]
        apply lg_call_el (leN sb) 13 #[A32 sb] rfl (by intro W; go_simp) (fun W => of_calls _ hls W)
        intro vo hvo
        simp only [Act.put, List.setIfInBounds_toArray, List.set_cons_succ, List.set_cons_zero]
        apply lg_call_el (m * leN sb) 26 #[E5 x0 x1 x2 x3 x4, vo] rfl (by intro W; go_simp) (fun W => mul_calls _ _ _ _ HX.out hvo W)
        intro vx hvx
        simp only [Act.put, List.setIfInBounds_toArray, List.set_cons_succ, List.set_cons_zero]
        apply lg_num (.tmp 8) HNy hly LY rfl rfl rfl
        simp only [Act.put, List.setIfInBounds_toArray, List.set_cons_succ, List.set_cons_zero]
        apply lg_b32 (.tmp 10) HUs hls LSS rfl rfl rfl
        simp only [Act.put, List.setIfInBounds_toArray, List.set_cons_succ, List.set_cons_zero]
        apply lg_call_num (leN sb) 15 #[A32 sb] rfl (by intro W; go_simp) (fun W => num_calls _ hls W)
        intro vn hvn
        simp only [Act.put, List.setIfInBounds_toArray, List.set_cons_succ, List.set_cons_zero]
        apply lg_call_num (m * leN sb) 27 #[A16 ys, vn] rfl (by intro W; go_simp) (fun W => refMul_num _ _ _ _ HY.out hvn W)
        intro vy hvy
        simp only [Act.put, List.setIfInBounds_toArray, List.set_cons_succ, List.set_cons_zero]
        refine lg_nil ?_
        intro w9 hC9
        obtain ⟨p0, p1, p2, p3, p4, rfl, okp, valp⟩ := hvx.form
        obtain ⟨qs, rfl, okq, valq⟩ := hvy
        have hnq : IsNum (A16 qs) (m * leN sb) := ⟨qs, rfl, okq, valq⟩
        have ex := EBlk.later HEx hC9.1
        have ey := HNy.later hC9.1
        have ex2 := ex.setAll (ms := [p0, p1, p2, p3, p4]) rfl
        have ey2 := ey.setFar (show g7 ≠ g8 by omega) ([p0, p1, p2, p3, p4].map fun (n : Nat) => Value.int .u64 (n : Int))
        obtain ⟨th, ey3⟩ := ey2.put (ms := qs) hly okq.1
        have ex3 := ex2.setFar (show g8 ≠ g7 by omega) (i64s qs)
        have hb2 := below_cells (show w.heap.size ≤ g8 by omega) (i64s qs) 0 _ (below_cells (show w.heap.size ≤ g7 by omega) ([p0, p1, p2, p3, p4].map fun (n : Nat) => Value.int .u64 (n : Int)) 0 _ (HBW.then_ hC9.1))
        have H9 : Hid (ChS w g7 g8 (m * leN sb) ((w9.setCells g7 0 ([p0, p1, p2, p3, p4].map fun (n : Nat) => Value.int .u64 (n : Int))).setCells g8 0 (i64s qs))) := Lib.hid ⟨p0, p1, p2, p3, p4, qs, ex3, hvx, ey3, hnq, hb2⟩
        refine wpList_store_mid rfl 27 _ _ rfl g7 0 ([p0, p1, p2, p3, p4].map fun (n : Nat) => Value.int .u64 (n : Int)).toArray rfl rfl (ex.thereL rfl) size5 (one5x _) ?_
        refine wpList_store_mid rfl 33 _ _ rfl g8 0 (i64s qs).toArray rfl rfl th (size16a qs okq.1) (one16 qs) ?_
        simp only [Act.put]
        change wpList _ _ _ _ _ ((w9.setCells g7 0 ([p0, p1, p2, p3, p4].map fun (n : Nat) => Value.int .u64 (n : Int))).setCells g8 0 (i64s qs))
        generalize (w9.setCells g7 0 ([p0, p1, p2, p3, p4].map fun (n : Nat) => Value.int .u64 (n : Int))).setCells g8 0 (i64s qs) = W9 at *
        clear hvx hvo hvn okp valp okq valq hnq ex ey ex2 ey2 th ey3 ex3 hb2 hC9 HEx HUs HNy HBW LX LSS LY
        go_wp2_with fail
        go_roundw
        case rel => exact ⟨k + 1, _, by omega, by go_num, H9.out⟩
        case measure => simp [intOf]; omega
      · go_wp2_with fail
        clear hcell hbits
        apply wp_region_g 9 (by kernel_rfl) (by kernel_rfl)
        simp only [List.take_succ_cons, List.take_zero, List.drop_succ_cons, List.drop_zero]
        apply lg_b32 (.tmp 10) HUs hls LSS rfl rfl rfl
        simp only [Act.put, List.setIfInBounds_toArray, List.set_cons_succ, List.set_cons_zero]
        apply lg_call_el (leN sb) 13 #[A32 sb] rfl (by intro W; go_simp) (fun W => of_calls _ hls W)
        intro vo hvo
        simp only [Act.put, List.setIfInBounds_toArray, List.set_cons_succ, List.set_cons_zero]
        apply lg_el (.tmp 7) HEx LX rfl rfl rfl
        simp only [Act.put, List.setIfInBounds_toArray, List.set_cons_succ, List.set_cons_zero]
        apply lg_call_el (P - m % P) 24 #[E5 x0 x1 x2 x3 x4] rfl (by intro W; go_simp) (fun W => neg_calls _ _ HX.out W)
        intro vg hvg
        simp only [Act.put, List.setIfInBounds_toArray, List.set_cons_succ, List.set_cons_zero]
        apply lg_call_el (leN sb + (P - (P - m % P) % P)) 22 #[vo, vg] rfl (by intro W; go_simp) (fun W => sub_calls _ _ _ _ hvo hvg W)
        intro vx hvx0
        simp only [Act.put, List.setIfInBounds_toArray, List.set_cons_succ, List.set_cons_zero]
        apply lg_b32 (.tmp 10) HUs hls LSS rfl rfl rfl
        simp only [Act.put, List.setIfInBounds_toArray, List.set_cons_succ, List.set_cons_zero]
        apply lg_call_num (leN sb) 15 #[A32 sb] rfl (by intro W; go_simp) (fun W => num_calls _ hls W)
        intro vn hvn
        simp only [Act.put, List.setIfInBounds_toArray, List.set_cons_succ, List.set_cons_zero]
        apply lg_num (.tmp 8) HNy hly LY rfl rfl rfl
        simp only [Act.put, List.setIfInBounds_toArray, List.set_cons_succ, List.set_cons_zero]
        apply lg_call_num (leN sb + m) 21 #[vn, A16 ys] rfl (by intro W; go_simp) (fun W => refAdd_num _ _ _ _ hvn HY.out W)
        intro vy hvy
        simp only [Act.put, List.setIfInBounds_toArray, List.set_cons_succ, List.set_cons_zero]
        refine lg_nil ?_
        intro w9 hC9
        have hvx : IsEl vx (leN sb + m) := hvx0.congr (neg_neg_add _ _)
        obtain ⟨p0, p1, p2, p3, p4, rfl, okp, valp⟩ := hvx.form
        obtain ⟨qs, rfl, okq, valq⟩ := hvy
        have hnq : IsNum (A16 qs) (leN sb + m) := ⟨qs, rfl, okq, valq⟩
        have ex := EBlk.later HEx hC9.1
        have ey := HNy.later hC9.1
        have ex2 := ex.setAll (ms := [p0, p1, p2, p3, p4]) rfl
        have ey2 := ey.setFar (show g7 ≠ g8 by omega) ([p0, p1, p2, p3, p4].map fun (n : Nat) => Value.int .u64 (n : Int))
        obtain ⟨th, ey3⟩ := ey2.put (ms := qs) hly okq.1
        have ex3 := ex2.setFar (show g8 ≠ g7 by omega) (i64s qs)
        have hb2 := below_cells (show w.heap.size ≤ g8 by omega) (i64s qs) 0 _ (below_cells (show w.heap.size ≤ g7 by omega) ([p0, p1, p2, p3, p4].map fun (n : Nat) => Value.int .u64 (n : Int)) 0 _ (HBW.then_ hC9.1))
        have H9 : Hid (ChS w g7 g8 (leN sb + m) ((w9.setCells g7 0 ([p0, p1, p2, p3, p4].map fun (n : Nat) => Value.int .u64 (n : Int))).setCells g8 0 (i64s qs))) := Lib.hid ⟨p0, p1, p2, p3, p4, qs, ex3, hvx, ey3, hnq, hb2⟩
        refine wpList_store_mid rfl 27 _ _ rfl g7 0 ([p0, p1, p2, p3, p4].map fun (n : Nat) => Value.int .u64 (n : Int)).toArray rfl rfl (ex.thereL rfl) size5 (one5x _) ?_
        refine wpList_store_mid rfl 33 _ _ rfl g8 0 (i64s qs).toArray rfl rfl th (size16a qs okq.1) (one16 qs) ?_
        simp only [Act.put]
        change wpList _ _ _ _ _ ((w9.setCells g7 0 ([p0, p1, p2, p3, p4].map fun (n : Nat) => Value.int .u64 (n : Int))).setCells g8 0 (i64s qs))
        generalize (w9.setCells g7 0 ([p0, p1, p2, p3, p4].map fun (n : Nat) => Value.int .u64 (n : Int))).setCells g8 0 (i64s qs) = W9 at *
        clear hvx hvo hvn okp valp okq valq hnq ex ey ex2 ey2 th ey3 ex3 hb2 hC9 HEx HUs HNy HBW LX LSS LY hvg hvx0
        go_wp2_with fail
        go_roundw
        case rel => exact ⟨k + 1, _, by omega, by go_num, H9.out⟩
        case measure => simp [intOf]; omega
    · have hlt1 : decide ((k : Int) < (n : Int)) = false := by simp; omega
      obtain ⟨x0, x1, x2, x3, x4, ys, hEx, hx, hNy, hy, hBW⟩ := hcs
      have HX := Lib.hid hx
      have HY := Lib.hid hy
      have hly := hy.len
      have HRX := Lib.hid hEx.rng
      have HRY := Lib.hid hNy.rng
      have HSY := Lib.hid (size16' ys hly)
      have HBW := Lib.hid hBW
      obtain ⟨yv, hyv⟩ : ∃ c, i64s ys = c := ⟨_, rfl⟩
      rw [hyv] at HRY HSY
      have HYV := Lib.hid hyv
      clear hEx hx hNy hy hBW hyv
      go_wp2_with (first
        | (refine wpList_load_mid rfl 27 _ rfl g7 0 rfl ([x0, x1, x2, x3, x4].map fun (n : Nat) => Value.int .u64 (n : Int)) _ HRX.out Try.underlying27 rfl size5 ?_)
        | (refine wpList_load_mid rfl 33 _ rfl g8 0 rfl yv _ HRY.out Try.underlying33 rfl HSY.out ?_))
      refine (isx_calls _ (.agg yv.toArray) m m HX.out (by rw [← HYV.out]; exact HY.out) _).mono ?_
      rintro e w9 ⟨rfl, b9⟩
      have H9 := Lib.hid (HBW.out.then_ b9)
      have htt : decide (m % P = m % P) = true := decide_eq_true rfl
      rw [htt]
      clear b9
      go_wp2_with fail
      go_ret
      exact ⟨rfl, H9.out⟩
end Go.Proofs.Ytpdoegfmngibgaa
