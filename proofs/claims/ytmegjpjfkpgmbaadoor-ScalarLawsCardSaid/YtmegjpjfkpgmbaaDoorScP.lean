/- Layer 5: the law of sums and products. -/
import Derived.Test.YtmegjpjfkpgmbaaDoorScN
import Derived.Test.YtmegjpjfkpgmbaaDoorScO
namespace Go.Proofs.YtmegjpjfkpgmbaaDoor
open Go.ChangeShapes Go.WideShapes Go.ChangeAt Go.RowKit Go.IntWalk
set_option linter.unusedVariables false

theorem leN_out (x : Nat) : leN (leB 32 (x % LO)) = x % LO := by
  rw [leN_leB, Nat.mod_eq_of_lt (Nat.lt_trans (Nat.mod_lt _ LO_pos) (by decide +kernel))]
theorem law3 (a b c : Nat) : ((a * 1 + b) % LO * c + 0) % LO = (a * c + (b * c + 0) % LO) % LO := by
  rw [Nat.add_zero, Nat.add_zero, Nat.mul_one, Nat.mod_mul_mod, Nat.add_mod_mod, Nat.add_mul]
theorem law4 (a : Nat) : (a * 1 + (LO - a % LO) % LO) % LO = 0 := by
  have h := Nat.mod_lt a LO_pos
  rw [Nat.mul_one, Nat.add_mod_mod, ← Nat.mod_add_mod, show a % LO + (LO - a % LO) = LO by omega, Nat.mod_self]
theorem law5 (a : Nat) : (LO - (LO - a % LO) % LO % LO) % LO = a % LO := by
  have h := Nat.mod_lt a LO_pos
  rw [Nat.mod_mod]
  rcases Nat.eq_zero_or_pos (a % LO) with h0 | h0
  · rw [h0, Nat.sub_zero, Nat.mod_self, Nat.sub_zero, Nat.mod_self]
  · rw [Nat.mod_eq_of_lt (show LO - a % LO < LO by omega), show LO - (LO - a % LO) = a % LO by omega, Nat.mod_mod]
theorem litM1 : Value.agg #[.int .u8 1, .int .u8 0, .int .u8 0, .int .u8 0, .int .u8 0, .int .u8 0, .int .u8 0, .int .u8 0, .int .u8 0, .int .u8 0, .int .u8 0, .int .u8 0, .int .u8 0, .int .u8 0, .int .u8 0, .int .u8 0, .int .u8 0, .int .u8 0, .int .u8 0, .int .u8 0, .int .u8 0, .int .u8 0, .int .u8 0, .int .u8 0, .int .u8 0, .int .u8 0, .int .u8 0, .int .u8 0, .int .u8 0, .int .u8 0, .int .u8 0, .int .u8 0] = A32 (byteN 1) := rfl
theorem litM0 : Value.agg #[.int .u8 0, .int .u8 0, .int .u8 0, .int .u8 0, .int .u8 0, .int .u8 0, .int .u8 0, .int .u8 0, .int .u8 0, .int .u8 0, .int .u8 0, .int .u8 0, .int .u8 0, .int .u8 0, .int .u8 0, .int .u8 0, .int .u8 0, .int .u8 0, .int .u8 0, .int .u8 0, .int .u8 0, .int .u8 0, .int .u8 0, .int .u8 0, .int .u8 0, .int .u8 0, .int .u8 0, .int .u8 0, .int .u8 0, .int .u8 0, .int .u8 0, .int .u8 0] = A32 (byteN 0) := rfl
theorem noughtB : leB 32 0 = byteN 0 := by decide +kernel
theorem oneB : leN (byteN 1) = 1 := by decide +kernel
theorem zeroB : leN (byteN 0) = 0 := by decide +kernel
set_option maxRecDepth 100000 in
set_option maxHeartbeats 8000000 in
theorem scalarLaws_walk (xs : List UInt8) (hx : xs.length = 32) (ys : List UInt8) (hy : ys.length = 32) (zs : List UInt8) (hz : zs.length = 32) (w : World) (hT : Tab w) :
    Calls Tryd.prog 6 #[.agg (xs.map fun c => Value.int .u8 (c.toNat : Int)).toArray, .agg (ys.map fun c => Value.int .u8 (c.toNat : Int)).toArray, .agg (zs.map fun c => Value.int .u8 (c.toNat : Int)).toArray] w fun e w' => e = .returned (.bool true) ∧ Below w.heap.size w w' := by
  have hal := alloc3 w (u8b xs) (u8b ys) (u8b zs) 23 23 23
  have hT0 := hT.later hal.2.2.2
  have HSX := Lib.hid (size32u xs hx)
  have HSY := Lib.hid (size32u ys hy)
  have HSZ := Lib.hid (size32u zs hz)
  obtain ⟨cx, hcx⟩ : ∃ cs, u8b xs = cs := ⟨_, rfl⟩
  obtain ⟨cy, hcy⟩ : ∃ cs, u8b ys = cs := ⟨_, rfl⟩
  obtain ⟨cz, hcz⟩ : ∃ cs, u8b zs = cs := ⟨_, rfl⟩
  rw [show (xs.map fun c => Value.int .u8 (c.toNat : Int)) = cx from hcx, show (ys.map fun c => Value.int .u8 (c.toNat : Int)) = cy from hcy, show (zs.map fun c => Value.int .u8 (c.toNat : Int)) = cz from hcz]
  rw [hcx] at hal hT0 HSX
  rw [hcy] at hal hT0 HSY
  rw [hcz] at hal hT0 HSZ
  have HX := Lib.hid (show A32 xs = .agg cx.toArray by unfold A32; rw [hcx])
  have HY := Lib.hid (show A32 ys = .agg cy.toArray by unfold A32; rw [hcy])
  have HZ := Lib.hid (show A32 zs = .agg cz.toArray by unfold A32; rw [hcz])
  have HCX := Lib.hid hcx
  have H0 := Lib.hid (And.intro hal hT0)
  clear hT hal hT0 hcx hcy hcz
  go_enter Tryd.func6, Tryd.ntmps6
  go_wp2_with fail
  refine (alive_calls _ H0.out.2).mono ?_
  rintro e w1 ⟨rfl, b1⟩
  have h1x := H0.out.1.1.later b1
  have h1y := H0.out.1.2.1.later b1
  have h1z := H0.out.1.2.2.1.later b1
  have hT1 := H0.out.2.later b1
  have hb1 := H0.out.1.2.2.2.then_ b1
  have H1 := Lib.hid (And.intro h1x (And.intro h1y (And.intro h1z (And.intro hT1 hb1))))
  clear b1 H0 h1x h1y h1z hT1 hb1
  have bz1 : Blk ((w1.alloc (.cells #[.int .u8 0, .int .u8 0, .int .u8 0, .int .u8 0, .int .u8 0, .int .u8 0, .int .u8 0, .int .u8 0, .int .u8 0, .int .u8 0, .int .u8 0, .int .u8 0, .int .u8 0, .int .u8 0, .int .u8 0, .int .u8 0, .int .u8 0, .int .u8 0, .int .u8 0, .int .u8 0, .int .u8 0, .int .u8 0, .int .u8 0, .int .u8 0, .int .u8 0, .int .u8 0, .int .u8 0, .int .u8 0, .int .u8 0, .int .u8 0, .int .u8 0, .int .u8 0] 23)).alloc (.cells #[.int .u8 0, .int .u8 0, .int .u8 0, .int .u8 0, .int .u8 0, .int .u8 0, .int .u8 0, .int .u8 0, .int .u8 0, .int .u8 0, .int .u8 0, .int .u8 0, .int .u8 0, .int .u8 0, .int .u8 0, .int .u8 0, .int .u8 0, .int .u8 0, .int .u8 0, .int .u8 0, .int .u8 0, .int .u8 0, .int .u8 0, .int .u8 0, .int .u8 0, .int .u8 0, .int .u8 0, .int .u8 0, .int .u8 0, .int .u8 0, .int .u8 0, .int .u8 0] 23)) w1.heap.size 23 (u8b (List.replicate 32 0)) := (Blk.new w1 (u8b (List.replicate 32 0)) _).alloc _
  have bz2 : Blk ((w1.alloc (.cells #[.int .u8 0, .int .u8 0, .int .u8 0, .int .u8 0, .int .u8 0, .int .u8 0, .int .u8 0, .int .u8 0, .int .u8 0, .int .u8 0, .int .u8 0, .int .u8 0, .int .u8 0, .int .u8 0, .int .u8 0, .int .u8 0, .int .u8 0, .int .u8 0, .int .u8 0, .int .u8 0, .int .u8 0, .int .u8 0, .int .u8 0, .int .u8 0, .int .u8 0, .int .u8 0, .int .u8 0, .int .u8 0, .int .u8 0, .int .u8 0, .int .u8 0, .int .u8 0] 23)).alloc (.cells #[.int .u8 0, .int .u8 0, .int .u8 0, .int .u8 0, .int .u8 0, .int .u8 0, .int .u8 0, .int .u8 0, .int .u8 0, .int .u8 0, .int .u8 0, .int .u8 0, .int .u8 0, .int .u8 0, .int .u8 0, .int .u8 0, .int .u8 0, .int .u8 0, .int .u8 0, .int .u8 0, .int .u8 0, .int .u8 0, .int .u8 0, .int .u8 0, .int .u8 0, .int .u8 0, .int .u8 0, .int .u8 0, .int .u8 0, .int .u8 0, .int .u8 0, .int .u8 0] 23)) (w1.heap.size + 1) 23 (u8b (List.replicate 32 0)) := by
    have := Blk.new (w1.alloc (.cells #[.int .u8 0, .int .u8 0, .int .u8 0, .int .u8 0, .int .u8 0, .int .u8 0, .int .u8 0, .int .u8 0, .int .u8 0, .int .u8 0, .int .u8 0, .int .u8 0, .int .u8 0, .int .u8 0, .int .u8 0, .int .u8 0, .int .u8 0, .int .u8 0, .int .u8 0, .int .u8 0, .int .u8 0, .int .u8 0, .int .u8 0, .int .u8 0, .int .u8 0, .int .u8 0, .int .u8 0, .int .u8 0, .int .u8 0, .int .u8 0, .int .u8 0, .int .u8 0] 23)) (u8b (List.replicate 32 0)) 23
    rwa [show (w1.alloc (.cells #[.int .u8 0, .int .u8 0, .int .u8 0, .int .u8 0, .int .u8 0, .int .u8 0, .int .u8 0, .int .u8 0, .int .u8 0, .int .u8 0, .int .u8 0, .int .u8 0, .int .u8 0, .int .u8 0, .int .u8 0, .int .u8 0, .int .u8 0, .int .u8 0, .int .u8 0, .int .u8 0, .int .u8 0, .int .u8 0, .int .u8 0, .int .u8 0, .int .u8 0, .int .u8 0, .int .u8 0, .int .u8 0, .int .u8 0, .int .u8 0, .int .u8 0, .int .u8 0] 23)).heap.size = w1.heap.size + 1 by simp] at this
  have hal0 : Below w1.heap.size w1 ((w1.alloc (.cells #[.int .u8 0, .int .u8 0, .int .u8 0, .int .u8 0, .int .u8 0, .int .u8 0, .int .u8 0, .int .u8 0, .int .u8 0, .int .u8 0, .int .u8 0, .int .u8 0, .int .u8 0, .int .u8 0, .int .u8 0, .int .u8 0, .int .u8 0, .int .u8 0, .int .u8 0, .int .u8 0, .int .u8 0, .int .u8 0, .int .u8 0, .int .u8 0, .int .u8 0, .int .u8 0, .int .u8 0, .int .u8 0, .int .u8 0, .int .u8 0, .int .u8 0, .int .u8 0] 23)).alloc (.cells #[.int .u8 0, .int .u8 0, .int .u8 0, .int .u8 0, .int .u8 0, .int .u8 0, .int .u8 0, .int .u8 0, .int .u8 0, .int .u8 0, .int .u8 0, .int .u8 0, .int .u8 0, .int .u8 0, .int .u8 0, .int .u8 0, .int .u8 0, .int .u8 0, .int .u8 0, .int .u8 0, .int .u8 0, .int .u8 0, .int .u8 0, .int .u8 0, .int .u8 0, .int .u8 0, .int .u8 0, .int .u8 0, .int .u8 0, .int .u8 0, .int .u8 0, .int .u8 0] 23)) := ((Below.refl w1.heap.size w1).alloc (Nat.le_refl _) _).alloc (by simp) _
  have s1 := bz1.setAll (vs := u8b (byteN 1)) rfl
  have s2 := bz2.setFar (g2 := w1.heap.size) (by omega) 0 (u8b (byteN 1))
  have s3 := s2.setAll (vs := u8b (byteN 0)) rfl
  have s4 := s1.setFar (g2 := w1.heap.size + 1) (by omega) 0 (u8b (byteN 0))
  have hal1 := blw_cells (show w1.heap.size ≤ w1.heap.size + 1 by omega) (u8b (byteN 0)) 0 _ (blw_cells (Nat.le_refl w1.heap.size) (u8b (byteN 1)) 0 _ hal0)
  have th1 := bz1.there (n := (u8b (byteN 1)).toArray.size) rfl
  have th2 := s2.there (n := (u8b (byteN 0)).toArray.size) rfl
  have HO1 := Lib.hid (size32u (byteN 1) rfl)
  have HO0 := Lib.hid (size32u (byteN 0) rfl)
  have HA1 : Hid ((Tryd.prog.info? 23).map (·.size) = some (u8b (byteN 1)).toArray.size) := Lib.hid (size32u (byteN 1) rfl)
  have HA0 : Hid ((Tryd.prog.info? 23).map (·.size) = some (u8b (byteN 0)).toArray.size) := Lib.hid (size32u (byteN 0) rfl)
  have HE1 := Lib.hid (one8b (byteN 1))
  have HE0 := Lib.hid (one8b (byteN 0))
  have HL1 : Hid (#[.int .u8 1, .int .u8 0, .int .u8 0, .int .u8 0, .int .u8 0, .int .u8 0, .int .u8 0, .int .u8 0, .int .u8 0, .int .u8 0, .int .u8 0, .int .u8 0, .int .u8 0, .int .u8 0, .int .u8 0, .int .u8 0, .int .u8 0, .int .u8 0, .int .u8 0, .int .u8 0, .int .u8 0, .int .u8 0, .int .u8 0, .int .u8 0, .int .u8 0, .int .u8 0, .int .u8 0, .int .u8 0, .int .u8 0, .int .u8 0, .int .u8 0, .int .u8 0] = (u8b (byteN 1)).toArray) := Lib.hid rfl
  have HL0 : Hid (#[.int .u8 0, .int .u8 0, .int .u8 0, .int .u8 0, .int .u8 0, .int .u8 0, .int .u8 0, .int .u8 0, .int .u8 0, .int .u8 0, .int .u8 0, .int .u8 0, .int .u8 0, .int .u8 0, .int .u8 0, .int .u8 0, .int .u8 0, .int .u8 0, .int .u8 0, .int .u8 0, .int .u8 0, .int .u8 0, .int .u8 0, .int .u8 0, .int .u8 0, .int .u8 0, .int .u8 0, .int .u8 0, .int .u8 0, .int .u8 0, .int .u8 0, .int .u8 0] = (u8b (byteN 0)).toArray) := Lib.hid rfl
  have HV1 : Hid (A32 (byteN 1) = .agg (u8b (byteN 1)).toArray) := Lib.hid rfl
  have HV0 : Hid (A32 (byteN 0) = .agg (u8b (byteN 0)).toArray) := Lib.hid rfl
  obtain ⟨c1, hc1⟩ : ∃ c, u8b (byteN 1) = c := ⟨_, rfl⟩
  obtain ⟨c0, hc0⟩ : ∃ c, u8b (byteN 0) = c := ⟨_, rfl⟩
  rw [hc1] at s2 s3 s4 hal1 th1 th2 HO1 HA1 HE1 HL1 HV1
  rw [hc0] at s3 s4 hal1 th2 HO0 HA0 HE0 HL0 HV0
  have HS3 := Lib.hid (And.intro s4 (And.intro s3 hal1))
  have TH1 := Lib.hid th1
  have TH2 := Lib.hid th2
  clear bz1 bz2 hal0 s1 s2 s3 s4 hal1 th1 th2 hc1 hc0
  go_upto_region 4 with (first
    | (refine wpList_store_mid rfl 23 _ _ rfl w1.heap.size 0 c1.toArray rfl (by rw [← HL1.out]; rfl) TH1.out HA1.out HE1.out ?_)
    | (refine wpList_store_mid rfl 23 _ _ rfl (w1.heap.size + 1) 0 c0.toArray rfl (by rw [← HL0.out]; rfl) TH2.out HA0.out HE0.out ?_))
  obtain ⟨v1, hv1⟩ : ∃ v : Value, .agg #[.int .u8 1, .int .u8 0, .int .u8 0, .int .u8 0, .int .u8 0, .int .u8 0, .int .u8 0, .int .u8 0, .int .u8 0, .int .u8 0, .int .u8 0, .int .u8 0, .int .u8 0, .int .u8 0, .int .u8 0, .int .u8 0, .int .u8 0, .int .u8 0, .int .u8 0, .int .u8 0, .int .u8 0, .int .u8 0, .int .u8 0, .int .u8 0, .int .u8 0, .int .u8 0, .int .u8 0, .int .u8 0, .int .u8 0, .int .u8 0, .int .u8 0, .int .u8 0] = v := ⟨_, rfl⟩
  obtain ⟨v0, hv0⟩ : ∃ v : Value, .agg #[.int .u8 0, .int .u8 0, .int .u8 0, .int .u8 0, .int .u8 0, .int .u8 0, .int .u8 0, .int .u8 0, .int .u8 0, .int .u8 0, .int .u8 0, .int .u8 0, .int .u8 0, .int .u8 0, .int .u8 0, .int .u8 0, .int .u8 0, .int .u8 0, .int .u8 0, .int .u8 0, .int .u8 0, .int .u8 0, .int .u8 0, .int .u8 0, .int .u8 0, .int .u8 0, .int .u8 0, .int .u8 0, .int .u8 0, .int .u8 0, .int .u8 0, .int .u8 0] = v := ⟨_, rfl⟩
  go_frame
  rw [hv1, hv0]
  clear hv1 hv0 TH1 TH2
  obtain ⟨g1, hg1⟩ : ∃ g, w1.heap.size = g := ⟨_, rfl⟩
  rw [hg1] at HS3 ⊢
  refine wp_gen (fun W => Blk W w.heap.size 23 cx ∧ Blk W (w.heap.size + 1) 23 cy ∧ Blk W (w.heap.size + 1 + 1) 23 cz ∧ Blk W g1 23 c1 ∧ Blk W (g1 + 1) 23 c0 ∧ Tab W ∧ Below w.heap.size w W)
    ⟨H1.out.1.later (by rw [hg1]; exact hg1 ▸ HS3.out.2.2), H1.out.2.1.later (by rw [hg1]; exact hg1 ▸ HS3.out.2.2), H1.out.2.2.1.later (by rw [hg1]; exact hg1 ▸ HS3.out.2.2), HS3.out.1, HS3.out.2.1, H1.out.2.2.2.1.later (by rw [hg1]; exact hg1 ▸ HS3.out.2.2), H1.out.2.2.2.2.then_ (by rw [hg1]; exact hg1 ▸ HS3.out.2.2)⟩ ?_
  rintro W2 ⟨h2x, h2y, h2z, ho, hz0, hT2, hb2⟩
  clear HS3 hg1
  have hm1 : ∀ W, Tab W → Calls Tryd.prog 15 #[.agg cx.toArray, .agg c1.toArray, .agg cy.toArray] W (BPost ((leN xs * 1 + leN ys) % LO) W) := fun W h => by rw [← HX.out, ← HV1.out, ← HY.out, ← oneB]; exact mul_calls xs (byteN 1) ys hx rfl hy W h
  have HRX := Lib.hid h2x.rng
  have HRY := Lib.hid h2y.rng
  have HRO := Lib.hid ho.rng
  have HM1 := Lib.hid (hm1 _ hT2)
  have H2 := Lib.hid (And.intro h2x (And.intro h2y (And.intro h2z (And.intro ho (And.intro hz0 (And.intro hT2 hb2))))))
  clear h2x h2y h2z ho hz0 hT2 hb2 hm1 H1
  go_wp2_with (first
    | (refine wpList_load_mid rfl 23 _ rfl w.heap.size 0 rfl cx _ HRX.out Tryd.underlying23 rfl HSX.out ?_)
    | (refine wpList_load_mid rfl 23 _ rfl g1 0 rfl c1 _ HRO.out Tryd.underlying23 rfl HO1.out ?_)
    | (refine wpList_load_mid rfl 23 _ rfl (w.heap.size + 1) 0 rfl cy _ HRY.out Tryd.underlying23 rfl HSY.out ?_))
  refine HM1.out.mono ?_
  rintro e w5 ⟨rfl, b5⟩
  obtain ⟨S, hS⟩ : ∃ q, leB 32 ((leN xs * 1 + leN ys) % LO) = q := ⟨_, rfl⟩
  have hlS : S.length = 32 := by rw [← hS]; exact leB_len _ _
  rw [hS]
  obtain ⟨th, hbk, hbl⟩ := laid32 w5 S hlS
  have hb5 := b5.then_ hbl
  have H5 := Lib.hid (And.intro (H2.out.1.later hb5) (And.intro (H2.out.2.1.later hb5) (And.intro (H2.out.2.2.1.later hb5) (And.intro (H2.out.2.2.2.1.later hb5) (And.intro (H2.out.2.2.2.2.1.later hb5) (And.intro hbk (And.intro (H2.out.2.2.2.2.2.1.later hb5) (H2.out.2.2.2.2.2.2.then_ hb5))))))))
  have HTH := Lib.hid th
  have HSA := Lib.hid (show (Tryd.prog.info? 23).map (·.size) = some (u8b S).toArray.size by simpa using size32u S hlS)
  have HOS := Lib.hid (one8b S)
  have HSS := Lib.hid (size32u S hlS)
  have HSD := Lib.hid (And.intro hS hlS)
  unfold A32
  obtain ⟨sv, hsv⟩ : ∃ c, u8b S = c := ⟨_, rfl⟩
  rw [hsv] at HTH HSA HOS HSS H5 ⊢
  have HSV := Lib.hid (show A32 S = .agg sv.toArray by unfold A32; rw [hsv])
  clear th hbk hbl hb5 b5 H2 HM1 HRX HRY HRO hsv hS hlS
  go_upto_region 5 with (refine wpList_store_mid rfl 23 _ _ rfl w5.heap.size 0 sv.toArray rfl rfl HTH.out HSA.out HOS.out ?_)
  obtain ⟨gs, hgs⟩ : ∃ g, w5.heap.size = g := ⟨_, rfl⟩
  rw [hgs] at H5 ⊢
  refine wp_gen (fun W => Blk W w.heap.size 23 cx ∧ Blk W (w.heap.size + 1) 23 cy ∧ Blk W (w.heap.size + 1 + 1) 23 cz ∧ Blk W g1 23 c1 ∧ Blk W (g1 + 1) 23 c0 ∧ Blk W gs 23 sv ∧ Tab W ∧ Below w.heap.size w W) H5.out ?_
  intro W6 h6
  have H5 := Lib.hid h6
  clear h6 hgs HTH
  obtain ⟨Q, hQ⟩ : ∃ q, leB 32 ((leN xs * leN ys + leN zs) % LO) = q := ⟨_, rfl⟩
  have hlQ : Q.length = 32 := by rw [← hQ]; exact leB_len _ _
  obtain ⟨qv, hqv⟩ : ∃ c, u8b Q = c := ⟨_, rfl⟩
  have hQV : A32 Q = .agg qv.toArray := by unfold A32; rw [hqv]
  have hm2 : ∀ W, Tab W → Calls Tryd.prog 15 #[.agg cy.toArray, .agg c1.toArray, .agg cx.toArray] W fun e w' => e = .returned (.agg sv.toArray) ∧ Below W.heap.size W w' := fun W h => by
    have := mul_calls ys (byteN 1) xs hy rfl hx W h
    unfold BPost at this
    rwa [oneB, Nat.mul_one, Nat.add_comm (leN ys), ← Nat.mul_one (leN xs), HSD.out.1, HSV.out, HX.out, HY.out, HV1.out] at this
  have hm3 : ∀ W, Tab W → Calls Tryd.prog 15 #[.agg cx.toArray, .agg cy.toArray, .agg cz.toArray] W fun e w' => e = .returned (.agg qv.toArray) ∧ Below W.heap.size W w' := fun W h => by
    have := mul_calls xs ys zs hx hy hz W h
    unfold BPost at this
    rwa [hQ, hQV, HX.out, HY.out, HZ.out] at this
  have hm4 : ∀ W, Tab W → Calls Tryd.prog 15 #[.agg cy.toArray, .agg cx.toArray, .agg cz.toArray] W fun e w' => e = .returned (.agg qv.toArray) ∧ Below W.heap.size W w' := fun W h => by
    have := mul_calls ys xs zs hy hx hz W h
    unfold BPost at this
    rwa [Nat.mul_comm (leN ys), hQ, hQV, HX.out, HY.out, HZ.out] at this
  have gS := fun x y W => guard_bytes .neq S S x y W
  have qS := fun W => neq_bytes S S HSD.out.2 HSD.out.2 W
  have gQ := fun x y W => guard_bytes .neq Q Q x y W
  have qQ := fun W => neq_bytes Q Q hlQ hlQ W
  rw [HSV.out] at gS qS
  rw [hQV] at gQ qQ
  rw [show (!(S == S)) = false by simp] at qS
  rw [show (!(Q == Q)) = false by simp] at qQ
  clear hqv hQV hlQ hQ
  apply wp_region_g 16 (by kernel_rfl) (by kernel_rfl)
  simp only [List.take_succ_cons, List.take_zero, List.drop_succ_cons, List.drop_zero]
  apply lg_load 23 (.tmp 9) rfl gs 0 sv _ H5.out.2.2.2.2.2.1.rng H5.out.2.2.2.2.2.1.lt Tryd.underlying23 rfl HSS.out rfl rfl
  simp only [Act.put, List.setIfInBounds_toArray, List.set_cons_succ, List.set_cons_zero]
  apply lg_load 23 (.tmp 4) rfl (w.heap.size + 1) 0 cy _ H5.out.2.1.rng H5.out.2.1.lt Tryd.underlying23 rfl HSY.out rfl rfl
  simp only [Act.put, List.setIfInBounds_toArray, List.set_cons_succ, List.set_cons_zero]
  apply lg_load 23 (.tmp 7) rfl g1 0 c1 _ H5.out.2.2.2.1.rng H5.out.2.2.2.1.lt Tryd.underlying23 rfl HO1.out rfl rfl
  simp only [Act.put, List.setIfInBounds_toArray, List.set_cons_succ, List.set_cons_zero]
  apply lg_load 23 (.tmp 3) rfl w.heap.size 0 cx _ H5.out.1.rng H5.out.1.lt Tryd.underlying23 rfl HSX.out rfl rfl
  simp only [Act.put, List.setIfInBounds_toArray, List.set_cons_succ, List.set_cons_zero]
  apply lg_callx_in (.agg sv.toArray) 15 #[.agg cy.toArray, .agg c1.toArray, .agg cx.toArray] rfl (by intro W; go_simp) (fun W hW => hm2 W (H5.out.2.2.2.2.2.2.1.later hW))
  simp only [Act.put, List.setIfInBounds_toArray, List.set_cons_succ, List.set_cons_zero]
  apply lg_pure (.bool false) rfl (by intro W; have h1 := gS (.tmp 18) (.tmp 22) W; have h2 := qS W; go_simp)
  simp only [Act.put, List.setIfInBounds_toArray, List.set_cons_succ, List.set_cons_zero]
  apply lg_pure (.bool false) rfl (by intro W; go_simp)
  simp only [Act.put, List.setIfInBounds_toArray, List.set_cons_succ, List.set_cons_zero]
  apply lg_load 23 (.tmp 3) rfl w.heap.size 0 cx _ H5.out.1.rng H5.out.1.lt Tryd.underlying23 rfl HSX.out rfl rfl
  simp only [Act.put, List.setIfInBounds_toArray, List.set_cons_succ, List.set_cons_zero]
  apply lg_load 23 (.tmp 4) rfl (w.heap.size + 1) 0 cy _ H5.out.2.1.rng H5.out.2.1.lt Tryd.underlying23 rfl HSY.out rfl rfl
  simp only [Act.put, List.setIfInBounds_toArray, List.set_cons_succ, List.set_cons_zero]
  apply lg_load 23 (.tmp 5) rfl (w.heap.size + 1 + 1) 0 cz _ H5.out.2.2.1.rng H5.out.2.2.1.lt Tryd.underlying23 rfl HSZ.out rfl rfl
  simp only [Act.put, List.setIfInBounds_toArray, List.set_cons_succ, List.set_cons_zero]
  apply lg_callx_in (.agg qv.toArray) 15 #[.agg cx.toArray, .agg cy.toArray, .agg cz.toArray] rfl (by intro W; go_simp) (fun W hW => hm3 W (H5.out.2.2.2.2.2.2.1.later hW))
  simp only [Act.put, List.setIfInBounds_toArray, List.set_cons_succ, List.set_cons_zero]
  apply lg_load 23 (.tmp 4) rfl (w.heap.size + 1) 0 cy _ H5.out.2.1.rng H5.out.2.1.lt Tryd.underlying23 rfl HSY.out rfl rfl
  simp only [Act.put, List.setIfInBounds_toArray, List.set_cons_succ, List.set_cons_zero]
  apply lg_load 23 (.tmp 3) rfl w.heap.size 0 cx _ H5.out.1.rng H5.out.1.lt Tryd.underlying23 rfl HSX.out rfl rfl
  simp only [Act.put, List.setIfInBounds_toArray, List.set_cons_succ, List.set_cons_zero]
  apply lg_load 23 (.tmp 5) rfl (w.heap.size + 1 + 1) 0 cz _ H5.out.2.2.1.rng H5.out.2.2.1.lt Tryd.underlying23 rfl HSZ.out rfl rfl
  simp only [Act.put, List.setIfInBounds_toArray, List.set_cons_succ, List.set_cons_zero]
  apply lg_callx_in (.agg qv.toArray) 15 #[.agg cy.toArray, .agg cx.toArray, .agg cz.toArray] rfl (by intro W; go_simp) (fun W hW => hm4 W (H5.out.2.2.2.2.2.2.1.later hW))
  simp only [Act.put, List.setIfInBounds_toArray, List.set_cons_succ, List.set_cons_zero]
  apply lg_pure (.bool false) rfl (by intro W; have h1 := gQ (.tmp 28) (.tmp 32) W; have h2 := qQ W; go_simp)
  simp only [Act.put, List.setIfInBounds_toArray, List.set_cons_succ, List.set_cons_zero]
  refine lg_nil ?_
  intro w7 hC7
  have H7 := Lib.hid (show Blk w7 w.heap.size 23 cx ∧ Blk w7 (w.heap.size + 1) 23 cy ∧ Blk w7 (w.heap.size + 1 + 1) 23 cz ∧ Blk w7 g1 23 c1 ∧ Blk w7 (g1 + 1) 23 c0 ∧ Blk w7 gs 23 sv ∧ Tab w7 ∧ Below w.heap.size w w7 from
    ⟨H5.out.1.later hC7.1, H5.out.2.1.later hC7.1, H5.out.2.2.1.later hC7.1, H5.out.2.2.2.1.later hC7.1, H5.out.2.2.2.2.1.later hC7.1, H5.out.2.2.2.2.2.1.later hC7.1, H5.out.2.2.2.2.2.2.1.later hC7.1, H5.out.2.2.2.2.2.2.2.then_ hC7.1⟩)
  clear hC7 H5 hm2 hm3 hm4 gS qS gQ qQ
  go_wp2_with fail
  obtain ⟨T, hT⟩ : ∃ q, leB 32 (((leN xs * 1 + leN ys) % LO * leN zs + 0) % LO) = q := ⟨_, rfl⟩
  have hlT : T.length = 32 := by rw [← hT]; exact leB_len _ _
  obtain ⟨tv, htv⟩ : ∃ c, u8b T = c := ⟨_, rfl⟩
  have hTV : A32 T = .agg tv.toArray := by unfold A32; rw [htv]
  obtain ⟨U, hU⟩ : ∃ q, leB 32 ((leN ys * leN zs + 0) % LO) = q := ⟨_, rfl⟩
  have hlU : U.length = 32 := by rw [← hU]; exact leB_len _ _
  obtain ⟨uv, huv⟩ : ∃ c, u8b U = c := ⟨_, rfl⟩
  have hUV : A32 U = .agg uv.toArray := by unfold A32; rw [huv]
  obtain ⟨Nn, hNn⟩ : ∃ q, leB 32 ((LO - leN xs % LO) % LO) = q := ⟨_, rfl⟩
  have hlNn : Nn.length = 32 := by rw [← hNn]; exact leB_len _ _
  obtain ⟨nv, hnv⟩ : ∃ c, u8b Nn = c := ⟨_, rfl⟩
  have hNnV : A32 Nn = .agg nv.toArray := by unfold A32; rw [hnv]
  obtain ⟨R, hR⟩ : ∃ q, leB 32 (leN xs % LO) = q := ⟨_, rfl⟩
  have hlR : R.length = 32 := by rw [← hR]; exact leB_len _ _
  obtain ⟨rv, hrv⟩ : ∃ c, u8b R = c := ⟨_, rfl⟩
  have hRV : A32 R = .agg rv.toArray := by unfold A32; rw [hrv]
  have eS : leN S = (leN xs * 1 + leN ys) % LO := by rw [← HSD.out.1]; exact leN_out _
  have eU : leN U = (leN ys * leN zs + 0) % LO := by rw [← hU]; exact leN_out _
  have eN : leN Nn = (LO - leN xs % LO) % LO := by rw [← hNn]; exact leN_out _
  have k1 : ∀ W, Tab W → Calls Tryd.prog 15 #[.agg sv.toArray, .agg cz.toArray, .agg c0.toArray] W fun e w' => e = .returned (.agg tv.toArray) ∧ Below W.heap.size W w' := fun W h => by
    have := mul_calls S zs (byteN 0) HSD.out.2 hz rfl W h
    unfold BPost at this
    rwa [eS, zeroB, hT, hTV, HSV.out, HZ.out, HV0.out] at this
  have k2 : ∀ W, Tab W → Calls Tryd.prog 15 #[.agg cy.toArray, .agg cz.toArray, .agg c0.toArray] W fun e w' => e = .returned (.agg uv.toArray) ∧ Below W.heap.size W w' := fun W h => by
    have := mul_calls ys zs (byteN 0) hy hz rfl W h
    unfold BPost at this
    rwa [zeroB, hU, hUV, HY.out, HZ.out, HV0.out] at this
  have k3 : ∀ W, Tab W → Calls Tryd.prog 15 #[.agg cx.toArray, .agg cz.toArray, .agg uv.toArray] W fun e w' => e = .returned (.agg tv.toArray) ∧ Below W.heap.size W w' := fun W h => by
    have := mul_calls xs zs U hx hz hlU W h
    unfold BPost at this
    rwa [eU, ← law3, hT, hTV, HX.out, HZ.out, hUV] at this
  have k4 : ∀ W, Tab W → Calls Tryd.prog 17 #[.agg cx.toArray] W fun e w' => e = .returned (.agg nv.toArray) ∧ Below W.heap.size W w' := fun W h => by
    have := neg_calls xs hx W h
    unfold BPost at this
    rwa [hNn, hNnV, HX.out] at this
  have k5 : ∀ W, Tab W → Calls Tryd.prog 15 #[.agg cx.toArray, .agg c1.toArray, .agg nv.toArray] W fun e w' => e = .returned (.agg c0.toArray) ∧ Below W.heap.size W w' := fun W h => by
    have := mul_calls xs (byteN 1) Nn hx rfl hlNn W h
    unfold BPost at this
    rwa [oneB, eN, law4, noughtB, HX.out, HV1.out, hNnV, HV0.out] at this
  have k6 : ∀ W, Tab W → Calls Tryd.prog 17 #[.agg nv.toArray] W fun e w' => e = .returned (.agg rv.toArray) ∧ Below W.heap.size W w' := fun W h => by
    have := neg_calls Nn hlNn W h
    unfold BPost at this
    rwa [eN, law5, hR, hRV, hNnV] at this
  have k7 : ∀ W, Below w7.heap.size w7 W → Calls Tryd.prog 9 #[.slice (some ⟨w.heap.size, 0, none⟩) 32 32] W fun e w' => e = .returned (.agg rv.toArray) ∧ Below W.heap.size W w' := fun W hW => by
    have := rest_calls (some ⟨w.heap.size, 0, none⟩) 32 32 xs (Lib.hid hx.symm) (by decide) W (H7.out.2.2.2.2.2.2.1.later hW) (rb_blk (T := 23) (by rw [HCX.out]; exact H7.out.1.later hW))
    unfold BPost at this
    rwa [hR, hRV] at this
  have gT := fun x y W => guard_bytes .eql T T x y W
  have qT := fun W => eq_bytes T T hlT hlT W
  have gZ := fun x y W => guard_bytes .eql (byteN 0) (byteN 0) x y W
  have qZ := fun W => eq_bytes (byteN 0) (byteN 0) rfl rfl W
  have gR := fun x y W => guard_bytes .eql R R x y W
  have qR := fun W => eq_bytes R R hlR hlR W
  rw [hTV] at gT qT
  rw [HV0.out] at gZ qZ
  rw [hRV] at gR qR
  rw [beq_self_eq_true] at qT qZ qR
  clear hT hlT htv hTV hU hlU huv hUV hNn hlNn hnv hNnV hR hlR hrv hRV eS eU eN
  apply wp_region_g 29 (by kernel_rfl) (by kernel_rfl)
  simp only [List.take_succ_cons, List.take_zero, List.drop_succ_cons, List.drop_zero]
  apply lg_load 23 (.tmp 9) rfl gs 0 sv _ H7.out.2.2.2.2.2.1.rng H7.out.2.2.2.2.2.1.lt Tryd.underlying23 rfl HSS.out rfl rfl
  simp only [Act.put, List.setIfInBounds_toArray, List.set_cons_succ, List.set_cons_zero]
  apply lg_load 23 (.tmp 5) rfl (w.heap.size + 1 + 1) 0 cz _ H7.out.2.2.1.rng H7.out.2.2.1.lt Tryd.underlying23 rfl HSZ.out rfl rfl
  simp only [Act.put, List.setIfInBounds_toArray, List.set_cons_succ, List.set_cons_zero]
  apply lg_load 23 (.tmp 8) rfl (g1 + 1) 0 c0 _ H7.out.2.2.2.2.1.rng H7.out.2.2.2.2.1.lt Tryd.underlying23 rfl HO0.out rfl rfl
  simp only [Act.put, List.setIfInBounds_toArray, List.set_cons_succ, List.set_cons_zero]
  apply lg_callx_in (.agg tv.toArray) 15 #[.agg sv.toArray, .agg cz.toArray, .agg c0.toArray] rfl (by intro W; go_simp) (fun W hW => k1 W (H7.out.2.2.2.2.2.2.1.later hW))
  simp only [Act.put, List.setIfInBounds_toArray, List.set_cons_succ, List.set_cons_zero]
  apply lg_load 23 (.tmp 3) rfl w.heap.size 0 cx _ H7.out.1.rng H7.out.1.lt Tryd.underlying23 rfl HSX.out rfl rfl
  simp only [Act.put, List.setIfInBounds_toArray, List.set_cons_succ, List.set_cons_zero]
  apply lg_load 23 (.tmp 5) rfl (w.heap.size + 1 + 1) 0 cz _ H7.out.2.2.1.rng H7.out.2.2.1.lt Tryd.underlying23 rfl HSZ.out rfl rfl
  simp only [Act.put, List.setIfInBounds_toArray, List.set_cons_succ, List.set_cons_zero]
  apply lg_load 23 (.tmp 4) rfl (w.heap.size + 1) 0 cy _ H7.out.2.1.rng H7.out.2.1.lt Tryd.underlying23 rfl HSY.out rfl rfl
  simp only [Act.put, List.setIfInBounds_toArray, List.set_cons_succ, List.set_cons_zero]
  apply lg_load 23 (.tmp 5) rfl (w.heap.size + 1 + 1) 0 cz _ H7.out.2.2.1.rng H7.out.2.2.1.lt Tryd.underlying23 rfl HSZ.out rfl rfl
  simp only [Act.put, List.setIfInBounds_toArray, List.set_cons_succ, List.set_cons_zero]
  apply lg_load 23 (.tmp 8) rfl (g1 + 1) 0 c0 _ H7.out.2.2.2.2.1.rng H7.out.2.2.2.2.1.lt Tryd.underlying23 rfl HO0.out rfl rfl
  simp only [Act.put, List.setIfInBounds_toArray, List.set_cons_succ, List.set_cons_zero]
  apply lg_callx_in (.agg uv.toArray) 15 #[.agg cy.toArray, .agg cz.toArray, .agg c0.toArray] rfl (by intro W; go_simp) (fun W hW => k2 W (H7.out.2.2.2.2.2.2.1.later hW))
  simp only [Act.put, List.setIfInBounds_toArray, List.set_cons_succ, List.set_cons_zero]
  apply lg_callx_in (.agg tv.toArray) 15 #[.agg cx.toArray, .agg cz.toArray, .agg uv.toArray] rfl (by intro W; go_simp) (fun W hW => k3 W (H7.out.2.2.2.2.2.2.1.later hW))
  simp only [Act.put, List.setIfInBounds_toArray, List.set_cons_succ, List.set_cons_zero]
  apply lg_pure (.bool true) rfl (by intro W; have h1 := gT (.tmp 38) (.tmp 45) W; have h2 := qT W; go_simp)
  simp only [Act.put, List.setIfInBounds_toArray, List.set_cons_succ, List.set_cons_zero]
  apply lg_pure (.bool true) rfl (by intro W; go_simp)
  simp only [Act.put, List.setIfInBounds_toArray, List.set_cons_succ, List.set_cons_zero]
  apply lg_load 23 (.tmp 3) rfl w.heap.size 0 cx _ H7.out.1.rng H7.out.1.lt Tryd.underlying23 rfl HSX.out rfl rfl
  simp only [Act.put, List.setIfInBounds_toArray, List.set_cons_succ, List.set_cons_zero]
  apply lg_load 23 (.tmp 7) rfl g1 0 c1 _ H7.out.2.2.2.1.rng H7.out.2.2.2.1.lt Tryd.underlying23 rfl HO1.out rfl rfl
  simp only [Act.put, List.setIfInBounds_toArray, List.set_cons_succ, List.set_cons_zero]
  apply lg_load 23 (.tmp 3) rfl w.heap.size 0 cx _ H7.out.1.rng H7.out.1.lt Tryd.underlying23 rfl HSX.out rfl rfl
  simp only [Act.put, List.setIfInBounds_toArray, List.set_cons_succ, List.set_cons_zero]
  apply lg_callx_in (.agg nv.toArray) 17 #[.agg cx.toArray] rfl (by intro W; go_simp) (fun W hW => k4 W (H7.out.2.2.2.2.2.2.1.later hW))
  simp only [Act.put, List.setIfInBounds_toArray, List.set_cons_succ, List.set_cons_zero]
  apply lg_callx_in (.agg c0.toArray) 15 #[.agg cx.toArray, .agg c1.toArray, .agg nv.toArray] rfl (by intro W; go_simp) (fun W hW => k5 W (H7.out.2.2.2.2.2.2.1.later hW))
  simp only [Act.put, List.setIfInBounds_toArray, List.set_cons_succ, List.set_cons_zero]
  apply lg_load 23 (.tmp 8) rfl (g1 + 1) 0 c0 _ H7.out.2.2.2.2.1.rng H7.out.2.2.2.2.1.lt Tryd.underlying23 rfl HO0.out rfl rfl
  simp only [Act.put, List.setIfInBounds_toArray, List.set_cons_succ, List.set_cons_zero]
  apply lg_pure (.bool true) rfl (by intro W; have h1 := gZ (.tmp 52) (.tmp 53) W; have h2 := qZ W; go_simp)
  simp only [Act.put, List.setIfInBounds_toArray, List.set_cons_succ, List.set_cons_zero]
  apply lg_pure (.bool true) rfl (by intro W; go_simp)
  simp only [Act.put, List.setIfInBounds_toArray, List.set_cons_succ, List.set_cons_zero]
  apply lg_pure (.bool true) rfl (by intro W; go_simp)
  simp only [Act.put, List.setIfInBounds_toArray, List.set_cons_succ, List.set_cons_zero]
  apply lg_load 23 (.tmp 3) rfl w.heap.size 0 cx _ H7.out.1.rng H7.out.1.lt Tryd.underlying23 rfl HSX.out rfl rfl
  simp only [Act.put, List.setIfInBounds_toArray, List.set_cons_succ, List.set_cons_zero]
  apply lg_callx_in (.agg nv.toArray) 17 #[.agg cx.toArray] rfl (by intro W; go_simp) (fun W hW => k4 W (H7.out.2.2.2.2.2.2.1.later hW))
  simp only [Act.put, List.setIfInBounds_toArray, List.set_cons_succ, List.set_cons_zero]
  apply lg_callx_in (.agg rv.toArray) 17 #[.agg nv.toArray] rfl (by intro W; go_simp) (fun W hW => k6 W (H7.out.2.2.2.2.2.2.1.later hW))
  simp only [Act.put, List.setIfInBounds_toArray, List.set_cons_succ, List.set_cons_zero]
  apply lg_pure (.slice (some ⟨w.heap.size, 0, none⟩) 32 32) rfl (by intro W; go_simp)
  simp only [Act.put, List.setIfInBounds_toArray, List.set_cons_succ, List.set_cons_zero]
  apply lg_callx_in (.agg rv.toArray) 9 #[.slice (some ⟨w.heap.size, 0, none⟩) 32 32] rfl (by intro W; go_simp) k7
  simp only [Act.put, List.setIfInBounds_toArray, List.set_cons_succ, List.set_cons_zero]
  apply lg_pure (.bool true) rfl (by intro W; have h1 := gR (.tmp 59) (.tmp 61) W; have h2 := qR W; go_simp)
  simp only [Act.put, List.setIfInBounds_toArray, List.set_cons_succ, List.set_cons_zero]
  apply lg_pure (.bool true) rfl (by intro W; go_simp)
  simp only [Act.put, List.setIfInBounds_toArray, List.set_cons_succ, List.set_cons_zero]
  refine lg_nil ?_
  intro w9 hC9
  have H9 := Lib.hid (H7.out.2.2.2.2.2.2.2.then_ hC9.1)
  clear hC9 k1 k2 k3 k4 k5 k6 k7 gT qT gZ qZ gR qR H7
  go_wp2_with fail
  go_ret
  exact ⟨rfl, H9.out⟩
end Go.Proofs.YtmegjpjfkpgmbaaDoor
