/- Layer 7: the program's Public, walked. -/
import Derived.Test.YtkfdclnaaphdgaaDoorSgB
import Derived.Test.YtkfdclnaaphdgaaDoorSgP
import Derived.Test.YtkfdclnaaphdgaaDoorCvP
import Derived.Test.YtkfdclnaaphdgaaDoorCvE
namespace Go.Proofs.YtkfdclnaaphdgaaDoor
open Go.ChangeShapes Go.WideShapes Go.ChangeAt Go.RowKit Go.IntWalk
set_option linter.unusedVariables false

/-- All tables that signatures read. -/
def TabK (w : World) : Prop := Dh.Tab w ∧ TabD w ∧ TabB w
theorem TabK.later {w w1 : World} (h : TabK w) (b : Below w.heap.size w w1) : TabK w1 := ⟨h.1.later b, h.2.1.later b, h.2.2.later b⟩
theorem letS2 {W : World} {T U : TypeId} {z y cs ds : List Value} (hl : cs.length = z.length) (hm : ds.length = y.length) :
    ((W.alloc (.cells z.toArray T)).alloc (.cells y.toArray U)).there W.heap.size 0 cs.toArray.size ∧
    (((W.alloc (.cells z.toArray T)).alloc (.cells y.toArray U)).setCells W.heap.size 0 cs).there (W.heap.size + 1) 0 ds.toArray.size ∧
    Below W.heap.size W ((((W.alloc (.cells z.toArray T)).alloc (.cells y.toArray U)).setCells W.heap.size 0 cs).setCells (W.heap.size + 1) 0 ds) ∧
    Blk ((((W.alloc (.cells z.toArray T)).alloc (.cells y.toArray U)).setCells W.heap.size 0 cs).setCells (W.heap.size + 1) 0 ds) W.heap.size T cs ∧
    Blk ((((W.alloc (.cells z.toArray T)).alloc (.cells y.toArray U)).setCells W.heap.size 0 cs).setCells (W.heap.size + 1) 0 ds) (W.heap.size + 1) U ds := by
  obtain ⟨a0, a1, hb⟩ := alloc2 W z y T U
  have b1 : Blk (((W.alloc (.cells z.toArray T)).alloc (.cells y.toArray U)).setCells W.heap.size 0 cs) (W.heap.size + 1) U y := a1.setFar (by omega) 0 cs
  exact ⟨a0.there (by simp [hl]), b1.there (by simp [hm]), blw_cells (by omega) ds 0 _ (blw_cells (Nat.le_refl _) cs 0 _ hb), (a0.setAll hl).setFar (by omega) 0 ds, b1.setAll hm⟩
/-- What a seed leaves, as cells under names. -/
theorem parts_known (seed : List UInt8) (hs : seed.length = 32) : ∃ ub us vs : List Value, u8s seed = ub ∧ u8s (secL seed) = us ∧ u8s (preL seed) = vs ∧ us.length = 32 ∧ vs.length = 32 ∧ us.toArray.all (·.oneCell') = true ∧ vs.toArray.all (·.oneCell') = true ∧ ub.length = 32 ∧
    Hid (∀ W, Dh.Tab W → Calls Tryd.prog 16 #[.agg ub.toArray] W fun e w' => e = .returned (.tuple #[.agg us.toArray, .agg vs.toArray]) ∧ Below W.heap.size W w') ∧
    Hid (∀ c p W, PL c p → TabD W → Calls Tryd.prog 18 #[.agg c.toArray, .agg us.toArray] W (PPost (Pt.times (leN (secL seed)) p) W)) :=
  ⟨_, _, _, rfl, rfl, rfl, by rw [u8s_len, secL_len], by rw [u8s_len, preL_len], u8s_one _, u8s_one _, by rw [u8s_len, hs], Lib.hid (fun W hT => parts_calls seed hs W hT), Lib.hid (fun c p W h hT => mulP h _ (secL_len seed) W hT)⟩
theorem sz32 {cs : List Value} (h : cs.length = 32) : (Tryd.prog.info? 22).map (·.size) = some cs.length := by rw [h]; exact size32
theorem sz32A {cs : List Value} (h : cs.length = 32) : (Tryd.prog.info? 22).map (·.size) = some cs.toArray.size := by rw [List.size_toArray, h]; exact size32
theorem enc_known (L : List UInt8) : ∃ uk : List Value, u8s L = uk ∧ uk.toArray.all (·.oneCell') = true ∧ uk.length = L.length ∧ Hid (∀ c p W, PL c p → encL p = L → Calls Tryd.prog 19 #[.agg c.toArray] W fun e w' => e = .returned (.agg uk.toArray) ∧ Below W.heap.size W w') :=
  ⟨_, rfl, u8s_one _, u8s_len _, Lib.hid (fun c p W h e => by subst e; exact bytesP h W)⟩
set_option maxRecDepth 100000 in
set_option maxHeartbeats 4000000 in
theorem public_calls (seed : List UInt8) (hs : seed.length = 32) (w : World) (hT : TabK w) :
    Calls Tryd.prog 9 #[.agg (u8s seed).toArray] w fun e w' => e = .returned (.agg (u8s (pubL seed)).toArray) ∧ Below w.heap.size w w' := by
  obtain ⟨ub, us, vs, hub, hus, hvs, lus, lvs, ous, ovs, lub, HPA, HMU⟩ := parts_known seed hs
  obtain ⟨uk, huk, ouk, luk, HEN⟩ := enc_known (pubL seed)
  have HPB : Hid (encL (Pt.times (leN (secL seed)) baseP) = pubL seed) := Lib.hid rfl
  rw [show (pubL seed).length = 32 from enc_len _] at luk
  rw [hub, huk]
  have szb := sz32 lub
  have szs := sz32 lus
  have sAs := sz32A lus
  have sAv := sz32A lvs
  have sAk := sz32A luk
  have szk := sz32 luk
  clear hub hus hvs huk hs
  go_enter Tryd.func9, Tryd.ntmps9
  go_upto_region 1 with fail
  refine wp_gen (fun W => Blk W w.heap.size 22 ub ∧ Blk W (w.heap.size + 1) 22 C32 ∧ Below w.heap.size w W ∧ TabK W) ?_ ?_
  · obtain ⟨a0, a1, hb⟩ := alloc2 w ub C32 22 22
    exact ⟨a0, a1, hb, hT.later hb⟩
  rintro W0 ⟨Bp, Br, HB, HT⟩
  go_wp2_with (refine wpList_load_mid rfl 22 _ rfl w.heap.size 0 rfl ub _ Bp.rng Tryd.underlying22 rfl szb ?_)
  refine (HPA.out _ HT.1).mono ?_
  rintro e W2 ⟨rfl, b2⟩
  obtain ⟨T1, T2, HL, N1, N2⟩ := letS2 (W := W2) (T := 22) (U := 22) (z := C32) (y := C32) (cs := us) (ds := vs) (by rw [lus]; rfl) (by rw [lvs]; rfl)
  go_upto_region 2 with (first
    | (refine wpList_store_mid rfl 22 _ _ rfl W2.heap.size 0 us.toArray rfl rfl T1 sAs ous ?_)
    | (refine wpList_store_mid rfl 22 _ _ rfl (W2.heap.size + 1) 0 vs.toArray rfl rfl T2 sAv ovs ?_))
  have bb := b2.then_ HL
  obtain ⟨g, eg⟩ : ∃ g, W2.heap.size = g := ⟨_, rfl⟩
  rw [eg] at N1 ⊢
  have hE : Hid (W2.heap.size = g) := Lib.hid eg
  refine wp_gen (fun W => Blk W (w.heap.size + 1) 22 C32 ∧ Blk W g 22 us ∧ Below w.heap.size w W ∧ TabK W) ⟨hE.out ▸ Br.later bb, hE.out ▸ N1, hE.out ▸ HB.then_ bb, hE.out ▸ HT.later bb⟩ ?_
  clear T1 T2 HL N1 N2 eg hE bb b2 Bp Br HB HT
  rintro W3 ⟨Br, Bs, HB, HT⟩
  have Ls := Bs.lt
  go_wp2_with fail
  apply wp_region_g 4 (by kernel_rfl) (by kernel_rfl)
  simp only [List.take_succ_cons, List.take_zero, List.drop_succ_cons, List.drop_zero]
  apply lg_call_in (fun v => ∃ c, v = .agg c.toArray ∧ PL c baseP) 17 #[] rfl (by intro W; go_simp) (fun W hW => base_calls W (HT.2.2.later hW))
  rintro _ ⟨c10, rfl, h10⟩
  simp only [Act.put, List.setIfInBounds_toArray, List.set_cons_succ, List.set_cons_zero]
  apply lg_load 22 (.tmp 3) rfl g 0 us _ Bs.rng Ls Tryd.underlying22 rfl szs rfl rfl
  simp only [Act.put, List.setIfInBounds_toArray, List.set_cons_succ, List.set_cons_zero]
  apply lg_call_in (fun v => ∃ c, v = .agg c.toArray ∧ PL c (Pt.times (leN (secL seed)) baseP)) 18 #[.agg c10.toArray, .agg us.toArray] rfl (by intro W; go_simp) (fun W hW => HMU.out _ _ W h10 (HT.2.1.later hW))
  rintro _ ⟨c12, rfl, h12⟩
  simp only [Act.put, List.setIfInBounds_toArray, List.set_cons_succ, List.set_cons_zero]
  apply lg_callx_in (.agg uk.toArray) 19 #[.agg c12.toArray] rfl (by intro W; go_simp) (fun W hW => HEN.out _ _ W h12 HPB.out)
  simp only [Act.put, List.setIfInBounds_toArray, List.set_cons_succ, List.set_cons_zero]
  refine lg_nil ?_
  intro WY hC
  obtain ⟨T0, HL, N0⟩ := ansB (cs := uk) Br HB (by omega) hC.1 (by rw [luk]; rfl)
  refine wpList_store_mid rfl 22 _ _ rfl (w.heap.size + 1) 0 uk.toArray rfl rfl T0 sAk ouk ?_
  simp only [Act.put]
  go_wp2_with fail
  exact bodyPost_ret (v := .agg uk.toArray) (res_cell rfl _ _ _ _ rfl (N0.load 22 Tryd.underlying22 rfl szk)) rfl ⟨rfl, HL⟩
end Go.Proofs.YtkfdclnaaphdgaaDoor
