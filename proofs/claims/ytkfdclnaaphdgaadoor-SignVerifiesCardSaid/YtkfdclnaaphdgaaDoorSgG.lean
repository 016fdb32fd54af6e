/- Layer 7: alive, SignKeys, walked. -/
import Derived.Test.YtkfdclnaaphdgaaDoorSgF
import Derived.Test.YtkfdclnaaphdgaaDoorLh
namespace Go.Proofs.YtkfdclnaaphdgaaDoor
open Go.ChangeShapes Go.WideShapes Go.ChangeAt Go.RowKit Go.IntWalk
set_option linter.unusedVariables false

/-- Bytes in a block, or the first of them, as a text. -/
theorem blk_str {W : World} {g n c : Nat} {T : TypeId} {bs : List UInt8} (h : Blk W g T (u8s bs)) (hn : n ≤ bs.length) : (convert 25 9 (.slice (some ⟨g, 0, none⟩) n c)).run Tryd.prog W = .ok (.string ⟨(bs.take n).toArray⟩) W :=
  run_str_rb W (some ⟨g, 0, none⟩) n c (bs.take n) (fun k hk => by
    have hk2 : k < n ∧ k < bs.length := by rw [List.length_take] at hk; omega
    refine ⟨g, 0, rfl, h.lt, ?_⟩
    rw [Nat.zero_add]
    refine h.cell ?_
    simp [u8s, List.getD, List.getElem?_take, hk2.1, hk2.2]) (Lib.hid (by simp; omega))
theorem blk_strAll {W : World} {g n c : Nat} {T : TypeId} {bs : List UInt8} (h : Blk W g T (u8s bs)) (hn : n = bs.length) : (convert 25 9 (.slice (some ⟨g, 0, none⟩) n c)).run Tryd.prog W = .ok (.string ⟨bs.toArray⟩) W := by
  have := blk_str (c := c) h (n := n) (by omega)
  rwa [List.take_of_length_le (by omega)] at this
theorem public_known (seed : List UInt8) (hs : seed.length = 32) : ∃ ub uk : List Value, u8s seed = ub ∧ u8s (pubL seed) = uk ∧ ub.length = 32 ∧ uk.length = 32 ∧ ub.toArray.all (·.oneCell') = true ∧ uk.toArray.all (·.oneCell') = true ∧
    Hid (∀ W, TabK W → Calls Tryd.prog 9 #[.agg ub.toArray] W fun e w' => e = .returned (.agg uk.toArray) ∧ Below W.heap.size W w') :=
  ⟨_, _, rfl, rfl, by rw [u8s_len, hs], by rw [u8s_len]; exact enc_len _, u8s_one _, u8s_one _, Lib.hid (fun W hT => public_calls seed hs W hT)⟩
theorem seed_build (W : World) : (Instr.build 22 #[(0, .int .u8 157), (1, .int .u8 97), (2, .int .u8 177), (3, .int .u8 157), (4, .int .u8 239), (5, .int .u8 253), (6, .int .u8 90), (7, .int .u8 96), (8, .int .u8 186), (9, .int .u8 132), (10, .int .u8 74), (11, .int .u8 244), (12, .int .u8 146), (13, .int .u8 236), (14, .int .u8 44), (15, .int .u8 196), (16, .int .u8 68), (17, .int .u8 73), (18, .int .u8 197), (19, .int .u8 105), (20, .int .u8 123), (21, .int .u8 50), (22, .int .u8 105), (23, .int .u8 25), (24, .int .u8 112), (25, .int .u8 59), (26, .int .u8 172), (27, .int .u8 3), (28, .int .u8 28), (29, .int .u8 174), (30, .int .u8 127), (31, .int .u8 96)]).run Tryd.prog W = .ok (.agg (u8s seedK).toArray) W := run_build W _ _ _ (by kernel_rfl)
set_option maxRecDepth 100000 in
set_option maxHeartbeats 4000000 in
theorem alive7_calls (w : World) (hT : TabK w) : Calls Tryd.prog 8 #[] w fun e w' => e = .returned (.bool true) ∧ Below w.heap.size w w' := by
  obtain ⟨ub, uk, hub, huk, lub, luk, oub, ouk, HPU⟩ := public_known seedK rfl
  have HSB : Hid (∀ W, (Instr.build 22 #[(0, .int .u8 157), (1, .int .u8 97), (2, .int .u8 177), (3, .int .u8 157), (4, .int .u8 239), (5, .int .u8 253), (6, .int .u8 90), (7, .int .u8 96), (8, .int .u8 186), (9, .int .u8 132), (10, .int .u8 74), (11, .int .u8 244), (12, .int .u8 146), (13, .int .u8 236), (14, .int .u8 44), (15, .int .u8 196), (16, .int .u8 68), (17, .int .u8 73), (18, .int .u8 197), (19, .int .u8 105), (20, .int .u8 123), (21, .int .u8 50), (22, .int .u8 105), (23, .int .u8 25), (24, .int .u8 112), (25, .int .u8 59), (26, .int .u8 172), (27, .int .u8 3), (28, .int .u8 28), (29, .int .u8 174), (30, .int .u8 127), (31, .int .u8 96)]).run Tryd.prog W = .ok (.agg ub.toArray) W) := Lib.hid (fun W => hub ▸ seed_build W)
  have HST : Hid (∀ (W : World) (g : Nat), Blk W g 22 uk → (convert 25 9 (.slice (some ⟨g, 0, none⟩) 4 32)).run Tryd.prog W = .ok (.string ⟨#[215, 90, 152, 1]⟩) W) := Lib.hid (fun W g h => by
    rw [← huk, key_bytes] at h
    exact blk_str (c := 32) h (n := 4) (by decide))
  have szb := sz32 lub
  have sAb := sz32A lub
  have sAk := sz32A luk
  clear hub huk
  go_enter Tryd.func8, Tryd.ntmps8
  go_upto_region 1 with fail
  obtain ⟨T0, HL, N0⟩ := letS (W := w) (T := 22) (z := C32) (cs := ub) (by rw [lub]; rfl)
  go_upto_region 2 with (first
    | (refine wpList_buildop (vs := #[(0, .int .u8 157), (1, .int .u8 97), (2, .int .u8 177), (3, .int .u8 157), (4, .int .u8 239), (5, .int .u8 253), (6, .int .u8 90), (7, .int .u8 96), (8, .int .u8 186), (9, .int .u8 132), (10, .int .u8 74), (11, .int .u8 244), (12, .int .u8 146), (13, .int .u8 236), (14, .int .u8 44), (15, .int .u8 196), (16, .int .u8 68), (17, .int .u8 73), (18, .int .u8 197), (19, .int .u8 105), (20, .int .u8 123), (21, .int .u8 50), (22, .int .u8 105), (23, .int .u8 25), (24, .int .u8 112), (25, .int .u8 59), (26, .int .u8 172), (27, .int .u8 3), (28, .int .u8 28), (29, .int .u8 174), (30, .int .u8 127), (31, .int .u8 96)]) rfl rfl (by first | rfl | go_simp) (HSB.out _) ?_)
    | (refine wpList_store_mid rfl 22 _ _ rfl w.heap.size 0 ub.toArray rfl rfl T0 sAb oub ?_))
  refine wp_gen (fun W => Blk W w.heap.size 22 ub ∧ Below w.heap.size w W ∧ TabK W) ⟨N0, HL, hT.later HL⟩ ?_
  clear T0 HL N0 hT HSB
  rintro W1 ⟨Bp, HB, HT⟩
  go_wp2_with (refine wpList_load_mid rfl 22 _ rfl w.heap.size 0 rfl ub _ Bp.rng Tryd.underlying22 rfl szb ?_)
  refine (HPU.out _ HT).mono ?_
  rintro e W2 ⟨rfl, b2⟩
  obtain ⟨T0, HL, N0⟩ := letS (W := W2) (T := 22) (z := C32) (cs := uk) (by rw [luk]; rfl)
  go_upto_region 3 with (refine wpList_store_mid rfl 22 _ _ rfl W2.heap.size 0 uk.toArray rfl rfl T0 sAk ouk ?_)
  have HST2 := HST.out _ _ N0
  have HF := (HB.then_ b2).then_ HL
  refine wp_gen (fun W => (convert 25 9 (.slice (some ⟨W2.heap.size, 0, none⟩) 4 32)).run Tryd.prog W = .ok (.string ⟨#[215, 90, 152, 1]⟩) W ∧ Below w.heap.size w W) ⟨HST2, HF⟩ ?_
  clear HST2 HF T0 HL N0 HB HT Bp b2 HST
  rintro W3 ⟨hs, hb⟩
  have HB := Lib.hid hb
  clear hb
  go_wp2_with fail
  go_ret
  exact ⟨rfl, HB.out⟩
set_option maxRecDepth 100000 in
set_option maxHeartbeats 4000000 in
theorem signKeys_walk (seed : List UInt8) (hs : seed.length = 32) (w : World) (hT : TabK w) :
    Calls Tryd.prog 3 #[.agg (seed.map fun c => Value.int .u8 (c.toNat : Int)).toArray] w fun e w' => e = .returned (.bool true) ∧ Below w.heap.size w w' := by
  obtain ⟨ub, uk, hub, huk, lub, luk, oub, ouk, HPU⟩ := public_known seed hs
  have HRP : Hid (∀ W, Calls Tryd.prog 10 #[.string ⟨seed.toArray⟩] W fun e w' => e = .returned (.string ⟨(pubL seed).toArray⟩) ∧ Below W.heap.size W w') := Lib.hid (refPublic_calls seed hs)
  have HSB : Hid (∀ (W : World) (g : Nat), Blk W g 22 ub → (convert 25 9 (.slice (some ⟨g, 0, none⟩) 32 32)).run Tryd.prog W = .ok (.string ⟨seed.toArray⟩) W) := Lib.hid (fun W g h => blk_strAll (hub ▸ h) hs.symm)
  have HSK : Hid (∀ (W : World) (g : Nat), Blk W g 22 uk → (convert 25 9 (.slice (some ⟨g, 0, none⟩) 32 32)).run Tryd.prog W = .ok (.string ⟨(pubL seed).toArray⟩) W) := Lib.hid (fun W g h => blk_strAll (huk ▸ h) (enc_len _).symm)
  rw [show (seed.map fun c => Value.int .u8 (c.toNat : Int)) = ub from hub]
  have szb := sz32 lub
  have sAk := sz32A luk
  clear hub huk hs
  obtain ⟨pk, hpk⟩ : ∃ p, pubL seed = p := ⟨_, rfl⟩
  rw [hpk] at HRP HSK
  clear hpk
  go_enter Tryd.func3, Tryd.ntmps3
  go_upto_region 1 with fail
  refine wp_gen (fun W => Blk W w.heap.size 22 ub ∧ Below w.heap.size w W ∧ TabK W) ?_ ?_
  · obtain ⟨a0, hb⟩ := alloc1 w ub 22
    exact ⟨a0, hb, hT.later hb⟩
  rintro W0 ⟨Bp, HB, HT⟩
  go_wp2_with fail
  refine (alive7_calls _ HT).mono ?_
  rintro e wz ⟨rfl, bz⟩
  replace Bp := Bp.later bz
  replace HB := HB.then_ bz
  replace HT := HT.later bz
  clear bz
  go_upto_region 3 with fail
  go_wp2_with (refine wpList_load_mid rfl 22 _ rfl w.heap.size 0 rfl ub _ Bp.rng Tryd.underlying22 rfl szb ?_)
  refine (HPU.out _ HT).mono ?_
  rintro e W2 ⟨rfl, b2⟩
  obtain ⟨T0, HL, N0⟩ := letS (W := W2) (T := 22) (z := C32) (cs := uk) (by rw [luk]; rfl)
  go_upto_region 4 with (refine wpList_store_mid rfl 22 _ _ rfl W2.heap.size 0 uk.toArray rfl rfl T0 sAk ouk ?_)
  obtain ⟨g, eg⟩ : ∃ g, W2.heap.size = g := ⟨_, rfl⟩
  rw [eg] at N0 ⊢
  have hE : Hid (W2.heap.size = g) := Lib.hid eg
  have bb := b2.then_ HL
  refine wp_gen (fun W => Blk W w.heap.size 22 ub ∧ Blk W g 22 uk ∧ Below w.heap.size w W) ⟨hE.out ▸ Bp.later bb, hE.out ▸ N0, hE.out ▸ HB.then_ bb⟩ ?_
  clear T0 HL N0 eg hE bb b2 Bp HB HT HPU
  rintro W3 ⟨Bp, Bk, HB⟩
  have Lp := Bp.lt
  have Lk := Bk.lt
  go_wp2_with fail
  apply wp_region_g 6 (by kernel_rfl) (by kernel_rfl)
  simp only [List.take_succ_cons, List.take_zero, List.drop_succ_cons, List.drop_zero]
  apply lg_pure (.slice (some ⟨g, 0, none⟩) 32 32) rfl (by intro W; go_simp)
  simp only [Act.put, List.setIfInBounds_toArray, List.set_cons_succ, List.set_cons_zero]
  apply lg_run (.string ⟨pk.toArray⟩) rfl (by intro W hW; have hcv := HSK.out W _ (Bk.later hW); go_simp)
  simp only [Act.put, List.setIfInBounds_toArray, List.set_cons_succ, List.set_cons_zero]
  apply lg_pure (.slice (some ⟨w.heap.size, 0, none⟩) 32 32) rfl (by intro W; go_simp)
  simp only [Act.put, List.setIfInBounds_toArray, List.set_cons_succ, List.set_cons_zero]
  apply lg_run (.string ⟨seed.toArray⟩) rfl (by intro W hW; have hcv := HSB.out W _ (Bp.later hW); go_simp)
  simp only [Act.put, List.setIfInBounds_toArray, List.set_cons_succ, List.set_cons_zero]
  apply lg_callx_in (.string ⟨pk.toArray⟩) 10 #[.string ⟨seed.toArray⟩] rfl (by intro W; go_simp) (fun W hW => HRP.out W)
  simp only [Act.put, List.setIfInBounds_toArray, List.set_cons_succ, List.set_cons_zero]
  apply lg_pure (.bool true) rfl (by intro W; go_simp)
  simp only [Act.put, List.setIfInBounds_toArray, List.set_cons_succ, List.set_cons_zero]
  refine lg_nil ?_
  intro WY hC
  have HL := Lib.hid (HB.then_ hC.1)
  clear hC
  go_wp2_with fail
  go_ret
  exact ⟨rfl, HL.out⟩
end Go.Proofs.YtkfdclnaaphdgaaDoor
