/- Layer 3: what is alive; the law that Of answers what the document says. -/
import Derived.Test.YtjdgccgpkmimkaaDoorDhL
namespace Go.Proofs.YtjdgccgpkmimkaaDoor
open Go.ChangeShapes Go.WideShapes Go.ChangeAt Go.RowKit Go.IntWalk
set_option linter.unusedVariables false

set_option maxRecDepth 1000000 in
theorem abcD : (digest [97, 98, 99]).take 8 = [221, 175, 53, 161, 147, 97, 122, 186] := by decide +kernel
set_option maxRecDepth 100000 in
set_option maxHeartbeats 4000000 in
theorem alive_calls (w : World) (hT : Tab w) :
    Calls Tryd.prog 7 #[] w fun e w' => e = .returned (.bool true) ∧ Below w.heap.size w w' := by
  have hb1 : Below w.heap.size w (w.alloc (.cells #[.int .u8 97, .int .u8 98, .int .u8 99] 5 (3, 4))) := (Below.refl _ _).alloc (Nat.le_refl _) _
  have hr1 : RB (w.alloc (.cells #[.int .u8 97, .int .u8 98, .int .u8 99] 5 (3, 4))) (some ⟨w.heap.size, 0, none⟩) [97, 98, 99] := rb_const w [97, 98, 99] _ rfl _
  have H1 := Lib.hid (And.intro (hT.later hb1) (And.intro hr1 hb1))
  have kc := fun (w : World) (C : Array Value) (n c : Nat) => run_bytes_const w C n c
  clear hT hb1 hr1
  go_enter Tryd.func7, Tryd.ntmps7
  go_wp2_with fail
  refine (of_calls [97, 98, 99] (by decide) _ 3 3 (Lib.hid rfl) (Nat.le_refl _) _ H1.out.1 H1.out.2.1).mono ?_
  rintro e w2 ⟨rfl, b2⟩
  have hb2 := Below.of_alloc b2
  obtain ⟨ds, hds⟩ : ∃ d, u8b (digest [97, 98, 99]) = d := ⟨_, rfl⟩
  have hlen : ds.length = 64 := by rw [← hds, u8b_len, digest_len]
  have hone : ds.toArray.all (·.oneCell') = true := by rw [← hds]; exact one8b _
  rw [hds]
  have hz : Blk (w2.alloc (.cells #[.int .u8 0, .int .u8 0, .int .u8 0, .int .u8 0, .int .u8 0, .int .u8 0, .int .u8 0, .int .u8 0, .int .u8 0, .int .u8 0, .int .u8 0, .int .u8 0, .int .u8 0, .int .u8 0, .int .u8 0, .int .u8 0, .int .u8 0, .int .u8 0, .int .u8 0, .int .u8 0, .int .u8 0, .int .u8 0, .int .u8 0, .int .u8 0, .int .u8 0, .int .u8 0, .int .u8 0, .int .u8 0, .int .u8 0, .int .u8 0, .int .u8 0, .int .u8 0, .int .u8 0, .int .u8 0, .int .u8 0, .int .u8 0, .int .u8 0, .int .u8 0, .int .u8 0, .int .u8 0, .int .u8 0, .int .u8 0, .int .u8 0, .int .u8 0, .int .u8 0, .int .u8 0, .int .u8 0, .int .u8 0, .int .u8 0, .int .u8 0, .int .u8 0, .int .u8 0, .int .u8 0, .int .u8 0, .int .u8 0, .int .u8 0, .int .u8 0, .int .u8 0, .int .u8 0, .int .u8 0, .int .u8 0, .int .u8 0, .int .u8 0, .int .u8 0] 24)) w2.heap.size 24 (u8b (List.replicate 64 0)) := Blk.new w2 _ _
  have HTH := Lib.hid (hz.there (n := ds.toArray.size) (by simp [hlen, u8b_len]))
  have hB3 := hz.setAll (vs := ds) (by simp [hlen, u8b_len])
  have hb3 := blw_cells (Nat.le_refl _) ds 0 _ ((Below.refl w2.heap.size w2).alloc (Nat.le_refl _) (.cells #[.int .u8 0, .int .u8 0, .int .u8 0, .int .u8 0, .int .u8 0, .int .u8 0, .int .u8 0, .int .u8 0, .int .u8 0, .int .u8 0, .int .u8 0, .int .u8 0, .int .u8 0, .int .u8 0, .int .u8 0, .int .u8 0, .int .u8 0, .int .u8 0, .int .u8 0, .int .u8 0, .int .u8 0, .int .u8 0, .int .u8 0, .int .u8 0, .int .u8 0, .int .u8 0, .int .u8 0, .int .u8 0, .int .u8 0, .int .u8 0, .int .u8 0, .int .u8 0, .int .u8 0, .int .u8 0, .int .u8 0, .int .u8 0, .int .u8 0, .int .u8 0, .int .u8 0, .int .u8 0, .int .u8 0, .int .u8 0, .int .u8 0, .int .u8 0, .int .u8 0, .int .u8 0, .int .u8 0, .int .u8 0, .int .u8 0, .int .u8 0, .int .u8 0, .int .u8 0, .int .u8 0, .int .u8 0, .int .u8 0, .int .u8 0, .int .u8 0, .int .u8 0, .int .u8 0, .int .u8 0, .int .u8 0, .int .u8 0, .int .u8 0, .int .u8 0] 24))
  have HB := Lib.hid (hb2.then_ hb3)
  have HO := Lib.hid hone
  have HZG : Hid ((Tryd.prog.info? 24).map (·.size) = some ds.toArray.size) := Lib.hid (by rw [List.size_toArray, hlen]; exact sizeSz)
  rw [← hds] at hB3
  have hr3 := hB3.rbU.take 8
  rw [abcD] at hr3
  have hstr := run_str_rb _ _ 8 64 _ hr3 (Lib.hid rfl)
  rw [hds] at hstr
  clear hds hlen hone hz hB3 hb3 hb2 b2 hr3
  go_wp2_with (refine wpList_store_mid rfl 24 _ _ rfl w2.heap.size 0 ds.toArray rfl rfl HTH.out HZG.out HO.out ?_)
  go_ret
  exact ⟨rfl, HB.out⟩
/-- A digest that was laid in a block of its own. -/
theorem laid_digest (w w2 : World) (bs : List UInt8) (hb : Below w.heap.size w w2) :
    Blk ((w2.alloc (.cells #[.int .u8 0, .int .u8 0, .int .u8 0, .int .u8 0, .int .u8 0, .int .u8 0, .int .u8 0, .int .u8 0, .int .u8 0, .int .u8 0, .int .u8 0, .int .u8 0, .int .u8 0, .int .u8 0, .int .u8 0, .int .u8 0, .int .u8 0, .int .u8 0, .int .u8 0, .int .u8 0, .int .u8 0, .int .u8 0, .int .u8 0, .int .u8 0, .int .u8 0, .int .u8 0, .int .u8 0, .int .u8 0, .int .u8 0, .int .u8 0, .int .u8 0, .int .u8 0, .int .u8 0, .int .u8 0, .int .u8 0, .int .u8 0, .int .u8 0, .int .u8 0, .int .u8 0, .int .u8 0, .int .u8 0, .int .u8 0, .int .u8 0, .int .u8 0, .int .u8 0, .int .u8 0, .int .u8 0, .int .u8 0, .int .u8 0, .int .u8 0, .int .u8 0, .int .u8 0, .int .u8 0, .int .u8 0, .int .u8 0, .int .u8 0, .int .u8 0, .int .u8 0, .int .u8 0, .int .u8 0, .int .u8 0, .int .u8 0, .int .u8 0, .int .u8 0] 24)).setCells w2.heap.size 0 (u8b (digest bs))) w2.heap.size 24 (u8b (digest bs)) ∧
    Below w.heap.size w ((w2.alloc (.cells #[.int .u8 0, .int .u8 0, .int .u8 0, .int .u8 0, .int .u8 0, .int .u8 0, .int .u8 0, .int .u8 0, .int .u8 0, .int .u8 0, .int .u8 0, .int .u8 0, .int .u8 0, .int .u8 0, .int .u8 0, .int .u8 0, .int .u8 0, .int .u8 0, .int .u8 0, .int .u8 0, .int .u8 0, .int .u8 0, .int .u8 0, .int .u8 0, .int .u8 0, .int .u8 0, .int .u8 0, .int .u8 0, .int .u8 0, .int .u8 0, .int .u8 0, .int .u8 0, .int .u8 0, .int .u8 0, .int .u8 0, .int .u8 0, .int .u8 0, .int .u8 0, .int .u8 0, .int .u8 0, .int .u8 0, .int .u8 0, .int .u8 0, .int .u8 0, .int .u8 0, .int .u8 0, .int .u8 0, .int .u8 0, .int .u8 0, .int .u8 0, .int .u8 0, .int .u8 0, .int .u8 0, .int .u8 0, .int .u8 0, .int .u8 0, .int .u8 0, .int .u8 0, .int .u8 0, .int .u8 0, .int .u8 0, .int .u8 0, .int .u8 0, .int .u8 0] 24)).setCells w2.heap.size 0 (u8b (digest bs))) ∧
    (w2.alloc (.cells #[.int .u8 0, .int .u8 0, .int .u8 0, .int .u8 0, .int .u8 0, .int .u8 0, .int .u8 0, .int .u8 0, .int .u8 0, .int .u8 0, .int .u8 0, .int .u8 0, .int .u8 0, .int .u8 0, .int .u8 0, .int .u8 0, .int .u8 0, .int .u8 0, .int .u8 0, .int .u8 0, .int .u8 0, .int .u8 0, .int .u8 0, .int .u8 0, .int .u8 0, .int .u8 0, .int .u8 0, .int .u8 0, .int .u8 0, .int .u8 0, .int .u8 0, .int .u8 0, .int .u8 0, .int .u8 0, .int .u8 0, .int .u8 0, .int .u8 0, .int .u8 0, .int .u8 0, .int .u8 0, .int .u8 0, .int .u8 0, .int .u8 0, .int .u8 0, .int .u8 0, .int .u8 0, .int .u8 0, .int .u8 0, .int .u8 0, .int .u8 0, .int .u8 0, .int .u8 0, .int .u8 0, .int .u8 0, .int .u8 0, .int .u8 0, .int .u8 0, .int .u8 0, .int .u8 0, .int .u8 0, .int .u8 0, .int .u8 0, .int .u8 0, .int .u8 0] 24)).there w2.heap.size 0 (u8b (digest bs)).toArray.size ∧ (u8b (digest bs)).toArray.all (·.oneCell') = true ∧
    (Tryd.prog.info? 24).map (·.size) = some (u8b (digest bs)).toArray.size := by
  have hlen : (u8b (digest bs)).length = 64 := by rw [u8b_len, digest_len]
  have hz : Blk (w2.alloc (.cells #[.int .u8 0, .int .u8 0, .int .u8 0, .int .u8 0, .int .u8 0, .int .u8 0, .int .u8 0, .int .u8 0, .int .u8 0, .int .u8 0, .int .u8 0, .int .u8 0, .int .u8 0, .int .u8 0, .int .u8 0, .int .u8 0, .int .u8 0, .int .u8 0, .int .u8 0, .int .u8 0, .int .u8 0, .int .u8 0, .int .u8 0, .int .u8 0, .int .u8 0, .int .u8 0, .int .u8 0, .int .u8 0, .int .u8 0, .int .u8 0, .int .u8 0, .int .u8 0, .int .u8 0, .int .u8 0, .int .u8 0, .int .u8 0, .int .u8 0, .int .u8 0, .int .u8 0, .int .u8 0, .int .u8 0, .int .u8 0, .int .u8 0, .int .u8 0, .int .u8 0, .int .u8 0, .int .u8 0, .int .u8 0, .int .u8 0, .int .u8 0, .int .u8 0, .int .u8 0, .int .u8 0, .int .u8 0, .int .u8 0, .int .u8 0, .int .u8 0, .int .u8 0, .int .u8 0, .int .u8 0, .int .u8 0, .int .u8 0, .int .u8 0, .int .u8 0] 24)) w2.heap.size 24 (u8b (List.replicate 64 0)) := Blk.new w2 _ _
  refine ⟨hz.setAll (by simp [hlen, u8b_len]), ?_, hz.there (by simp [hlen, u8b_len]), one8b _, by rw [List.size_toArray, hlen]; exact sizeSz⟩
  exact hb.then_ (blw_cells (Nat.le_refl _) _ 0 _ ((Below.refl w2.heap.size w2).alloc (Nat.le_refl _) (.cells #[.int .u8 0, .int .u8 0, .int .u8 0, .int .u8 0, .int .u8 0, .int .u8 0, .int .u8 0, .int .u8 0, .int .u8 0, .int .u8 0, .int .u8 0, .int .u8 0, .int .u8 0, .int .u8 0, .int .u8 0, .int .u8 0, .int .u8 0, .int .u8 0, .int .u8 0, .int .u8 0, .int .u8 0, .int .u8 0, .int .u8 0, .int .u8 0, .int .u8 0, .int .u8 0, .int .u8 0, .int .u8 0, .int .u8 0, .int .u8 0, .int .u8 0, .int .u8 0, .int .u8 0, .int .u8 0, .int .u8 0, .int .u8 0, .int .u8 0, .int .u8 0, .int .u8 0, .int .u8 0, .int .u8 0, .int .u8 0, .int .u8 0, .int .u8 0, .int .u8 0, .int .u8 0, .int .u8 0, .int .u8 0, .int .u8 0, .int .u8 0, .int .u8 0, .int .u8 0, .int .u8 0, .int .u8 0, .int .u8 0, .int .u8 0, .int .u8 0, .int .u8 0, .int .u8 0, .int .u8 0, .int .u8 0, .int .u8 0, .int .u8 0, .int .u8 0] 24)))
set_option maxRecDepth 100000 in
set_option maxHeartbeats 4000000 in
theorem digest2Is_walk (A : Option Addr) (n c : Nat) (bs : List UInt8) {w : World} (hr : RB w A bs) (hn : Hid (n = bs.length)) (hc : n ≤ c) (hT : Tab w) :
    Calls Tryd.prog 3 #[.slice A n c] w fun e w' => e = .returned (.bool true) ∧ Below w.heap.size w w' := by
  have H0 := Lib.hid (And.intro hT hr)
  clear hT hr
  go_enter Tryd.func3, Tryd.ntmps3
  go_wp2_with fail
  refine (alive_calls _ H0.out.1).mono ?_
  rintro e w1 ⟨rfl, b1⟩
  by_cases hbig : 8192 < n
  · have B1 := Lib.hid b1
    clear b1
    go_wp2_with fail
    go_ret
    exact ⟨rfl, B1.out⟩
  · have hbs : bs.length < 2 ^ 30 := by rw [← hn.out]; omega
    have H1 := Lib.hid (And.intro (H0.out.1.later b1) (And.intro (H0.out.2.below b1) b1))
    clear b1 H0
    go_wp2_with fail
    refine (of_calls bs hbs A n c hn hc _ H1.out.1 H1.out.2.1).mono ?_
    rintro e w2 ⟨rfl, b2⟩
    have hl := laid_digest w1 w2 bs b2
    obtain ⟨ds, hds⟩ : ∃ d, u8b (digest bs) = d := ⟨_, rfl⟩
    rw [hds] at hl ⊢
    have HL := Lib.hid hl
    have HDS := Lib.hid hds
    clear hl hds b2
    go_upto_region 6 with (refine wpList_store_mid rfl 24 _ _ rfl w2.heap.size 0 ds.toArray rfl rfl HL.out.2.2.1 HL.out.2.2.2.2 HL.out.2.2.2.1 ?_)
    obtain ⟨g, hg⟩ : ∃ g, w2.heap.size = g := ⟨_, rfl⟩
    rw [hg] at HL ⊢
    refine wp_gen (fun W6 => Blk W6 g 24 (u8b (digest bs)) ∧ RB W6 A bs ∧ Below w.heap.size w W6) ⟨by rw [HDS.out]; exact HL.out.1, H1.out.2.1.below HL.out.2.1, H1.out.2.2.then_ HL.out.2.1⟩ ?_
    rintro W6 ⟨hB6, hr6, hb6⟩
    have H6 := Lib.hid hb6
    have hcv : ∀ W, Below W6.heap.size W6 W → (convert 22 9 (.slice (some ⟨g, 0, none⟩) 64 64)).run Tryd.prog W = .ok (.string ⟨(digest bs).toArray⟩) W := fun W hW => run_str_rb W _ 64 64 _ (hB6.later hW).rbU (Lib.hid (digest_len bs).symm)
    clear hb6 HL hg HDS H1
    apply wp_region_g 5 (by kernel_rfl) (by kernel_rfl)
    simp only [List.take_succ_cons, List.take_zero, List.drop_succ_cons, List.drop_zero]
    apply lg_pure (.slice (some ⟨g, 0, none⟩) 64 64) rfl (by intro W; go_simp)
    simp only [Act.put, List.setIfInBounds_toArray, List.set_cons_succ, List.set_cons_zero]
    apply lg_run (.string ⟨(digest bs).toArray⟩) rfl (by intro W hW; have := hcv W hW; go_simp)
    simp only [Act.put, List.setIfInBounds_toArray, List.set_cons_succ, List.set_cons_zero]
    apply lg_pure (.slice A n c) rfl (by intro W; go_simp)
    simp only [Act.put, List.setIfInBounds_toArray, List.set_cons_succ, List.set_cons_zero]
    apply lg_callx_in (.string ⟨(digest bs).toArray⟩) 9 #[.slice A n c] rfl (by intro W; go_simp) (fun W hW => refOf_calls bs hbs A n c hn W (hr6.below hW))
    simp only [Act.put, List.setIfInBounds_toArray, List.set_cons_succ, List.set_cons_zero]
    apply lg_pure (.bool true) rfl (by intro W; go_simp)
    simp only [Act.put, List.setIfInBounds_toArray, List.set_cons_succ, List.set_cons_zero]
    refine lg_nil ?_
    intro w7 hC7
    have H7 := Lib.hid (H6.out.then_ hC7.1)
    clear hC7 hcv hB6 hr6
    go_wp2_with fail
    go_ret
    exact ⟨rfl, H7.out⟩
end Go.Proofs.YtjdgccgpkmimkaaDoor
