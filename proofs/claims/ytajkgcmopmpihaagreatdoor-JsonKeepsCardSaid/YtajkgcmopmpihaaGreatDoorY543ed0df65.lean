/- Texts put together: Jp6 JpD. -/
import Derived.Test.YtajkgcmopmpihaaGreatDoorYd56e8cdc81
import Derived.Test.YtajkgcmopmpihaaGreatDoorY49b39df4f7
namespace Go.Proofs.YtajkgcmopmpihaaGreatDoor
open Go.ChangeShapes Go.WideShapes Go.ChangeAt Go.RowKit Go.IntWalk
set_option linter.unusedVariables false
set_option maxRecDepth 100000
theorem lay_t_no {acc : JT} {key : List UInt8} {fs : List Fr} {v : Jv} {r : List UInt8} (h : (skipB r).head? ≠ some 125) (h2 : (skipB r).head? ≠ some 44) : resume (.t acc key :: fs) (.ok (v, r)) = .error 4 := by
  have e : pTn ((sortJ acc).ins key v) (fs.length + 1) r = .error 4 := by
    unfold pTn
    cases hs : skipB r with
    | nil => rfl
    | cons c q =>
      rw [hs] at h h2
      dsimp only
      rw [if_neg (fun e => h (by rw [e]; rfl)), if_neg (fun e => h2 (by rw [e]; rfl))]
  show resume fs (pTn ((sortJ acc).ins key v) (fs.length + 1) r) = _
  rw [e, resume_err]
theorem lay_t_end {acc : JT} {key : List UInt8} {fs : List Fr} {v : Jv} {r q : List UInt8} (h : skipB r = 125 :: q) : resume (.t acc key :: fs) (.ok (v, r)) = resume fs (.ok (mapV (sortJ (acc.snoc key v)), q)) := by
  show resume fs (pTn ((sortJ acc).ins key v) (fs.length + 1) r) = _
  unfold pTn
  rw [h, sortJ_snoc]; rfl
theorem lay_t_go {acc : JT} {key : List UInt8} {fs : List Fr} {v : Jv} {r q : List UInt8} (h : skipB r = 44 :: q) : resume (.t acc key :: fs) (.ok (v, r)) = (match keyF (acc.snoc key v) q with | .error e => .error e | .ok p => resume (.t (acc.snoc key v) p.1 :: fs) (pV (fs.length + 1) p.2)) := by
  have e : resume (.t acc key :: fs) (.ok (v, r)) = resume fs (pT (sortJ (acc.snoc key v)) (fs.length + 1) q) := by
    show resume fs (pTn ((sortJ acc).ins key v) (fs.length + 1) r) = _
    unfold pTn
    rw [h, sortJ_snoc]
    rfl
  exact e.trans (pT_push _ _ _)
theorem seen_snoc {w w' : World} {mb : Nat} {acc : JT} {key : List UInt8} {v : Jv} (h : SeenIs w mb (fun x => acc.hasK x || key == x) (acc.ext + 1)) (hm : w'.heap[mb]? = w.heap[mb]?) : SeenIs w' mb (fun x => (acc.snoc key v).hasK x) (acc.snoc key v).ext := by
  rw [snoc_ext]
  have e : (fun x => (acc.snoc key v).hasK x) = fun x => acc.hasK x || key == x := funext fun x => snoc_hasK acc key v x
  rw [e]
  exact h.stay hm
set_option maxHeartbeats 4000000 in
theorem lay_table (base : Nat) (Z : Nat → Prop) (w : World) (r : Nat) (s : List UInt8) (at_ : Nat) (U : Value) (acc : JT) (key : List UInt8) (g : Nat) (L : Value) (mb : Nat) (F : Nat → Prop) (fs : List Frm) (Fv : Nat → Prop) (v : Jv) (A B : Option Addr) (nl cl nm cm : Nat)
    (h : Whole9 base w r s at_ U (⟨.t acc key, g, L, mb, F⟩ :: fs) Fv v A B nl cl nm cm) (hZ : Zs Z w w (⟨.t acc key, g, L, mb, F⟩ :: fs)) (hZv : ∀ b, Z b → ¬ Fv b) :
    Calls Tryz.prog 36 #[.pointer (some ⟨r, 0, none⟩), valC v A B nl cl nm cm] w (StPost base Z w r s at_ (resume (.t acc key :: fs.map (·.fr)) (.ok (v, s.drop at_)))) := by
  obtain ⟨h, hv, ho, hx⟩ := h
  have b0 : Below w.heap.size w ((w.alloc (.cells #[.int .i64 v.kd, .bool v.is, .int .i64 v.n, .string ⟨v.s.toArray⟩, .slice A nl cl, .slice B nm cm] 25)).alloc (.cells #[.int .i64 0, .bool false, .int .i64 0, .string ⟨#[]⟩, .slice none 0 0, .slice none 0 0] 25)) := ((Below.refl _ _).alloc (Nat.le_refl _) _).alloc (by simp) _
  have z0 : Blk ((w.alloc (.cells #[.int .i64 v.kd, .bool v.is, .int .i64 v.n, .string ⟨v.s.toArray⟩, .slice A nl cl, .slice B nm cm] 25)).alloc (.cells #[.int .i64 0, .bool false, .int .i64 0, .string ⟨#[]⟩, .slice none 0 0, .slice none 0 0] 25)) w.heap.size 25 [.int .i64 v.kd, .bool v.is, .int .i64 v.n, .string ⟨v.s.toArray⟩, .slice A nl cl, .slice B nm cm] := (Blk.new w [.int .i64 v.kd, .bool v.is, .int .i64 v.n, .string ⟨v.s.toArray⟩, .slice A nl cl, .slice B nm cm] 25).later ((Below.refl _ _).alloc (Nat.le_refl _) _)
  have z1 : Blk ((w.alloc (.cells #[.int .i64 v.kd, .bool v.is, .int .i64 v.n, .string ⟨v.s.toArray⟩, .slice A nl cl, .slice B nm cm] 25)).alloc (.cells #[.int .i64 0, .bool false, .int .i64 0, .string ⟨#[]⟩, .slice none 0 0, .slice none 0 0] 25)) (w.heap.size + 1) 25 [.int .i64 0, .bool false, .int .i64 0, .string ⟨#[]⟩, .slice none 0 0, .slice none 0 0] := by
    have := Blk.new (w.alloc (.cells #[.int .i64 v.kd, .bool v.is, .int .i64 v.n, .string ⟨v.s.toArray⟩, .slice A nl cl, .slice B nm cm] 25)) [.int .i64 0, .bool false, .int .i64 0, .string ⟨#[]⟩, .slice none 0 0, .slice none 0 0] 25
    simpa using this
  have HI := Lib.hid (And.intro (h.later b0) (And.intro b0 (And.intro z0 z1)))
  have HV := Lib.hid (And.intro hv (And.intro ho hx.1))
  have HZ := Lib.hid (And.intro hZ hZv)
  clear hZ hZv
  have H := Lib.hid h
  obtain ⟨ub, cap, hU, hub, _, hubr, hubF⟩ := h.top
  subst hU
  obtain ⟨m, hm⟩ : ∃ m, fs.length = m := ⟨_, rfl⟩
  have hm32 : m ≤ 32 := by have := h.len; simp at this; omega
  have HM := Lib.hid hm
  rw [hm] at HI
  have hwr : IntKind.i64.wrap (m : Int) = (m : Int) := IntWalk.i64_in _ (by omega)
  clear h b0 hub hubr hubF hv ho hx z0 z1 hm
  unfold valC
  go_enter Tryz.func36, Tryz.ntmps36
  go_upto_region 1 with fail
  refine wp_gen (fun W => RSt base W r s at_ (.slice (some ⟨ub, 0, none⟩) (m + 1) cap) (⟨.t acc key, g, L, mb, F⟩ :: fs) ∧ Below w.heap.size w W ∧ Blk W w.heap.size 25 [.int .i64 v.kd, .bool v.is, .int .i64 v.n, .string ⟨v.s.toArray⟩, .slice A nl cl, .slice B nm cm] ∧ Blk W (w.heap.size + 1) 25 [.int .i64 0, .bool false, .int .i64 0, .string ⟨#[]⟩, .slice none 0 0, .slice none 0 0]) HI.out ?_
  clear HI
  rintro W0 ⟨g1, g2, g3, g4⟩
  have H0 := Lib.hid (And.intro g1 (And.intro g2 (And.intro g3 g4)))
  obtain ⟨ub2, cap2, hU2, hub, dt, _, _⟩ := g1.top
  injection hU2 with e1 e2 e3
  injection e1 with e1
  injection e1 with e1
  subst e1
  have d2 := g1.blk.cell (k := 2) rfl
  rw [HM.out] at dt
  have dt2 : W0.cell? ⟨ub, m, none⟩ = some (.iface 94 (.pointer (some ⟨g, 0, none⟩))) := dt
  have HL := Lib.hid g1.lt
  have HU := Lib.hid hub
  clear dt g1 g2 g3 g4 e2 e3 hub
  apply wp_region_lk (by kernel_rfl) (by kernel_rfl)
  apply lk_pure _ rfl (by intro W; go_simp; rfl)
  simp only [Act.put, List.setIfInBounds_toArray, List.set_cons_succ, List.set_cons_zero]
  apply lk_pure _ rfl (by intro W; go_simp; rfl)
  simp only [Act.put, List.setIfInBounds_toArray, List.set_cons_succ, List.set_cons_zero]
  apply lk_pure _ rfl (by intro W; go_simp; rfl)
  simp only [Act.put, List.setIfInBounds_toArray, List.set_cons_succ, List.set_cons_zero]
  apply lk_cell (.slice (some ⟨ub, 0, none⟩) (m + 1) cap) (r) (2) d2 HL.out rfl (by intro W hW; go_simp)
  simp only [Act.put, List.setIfInBounds_toArray, List.set_cons_succ, List.set_cons_zero]
  apply lk_pure _ rfl (by intro W; go_simp; rfl)
  simp only [Act.put, List.setIfInBounds_toArray, List.set_cons_succ, List.set_cons_zero]
  apply lk_pure _ rfl (by intro W; go_simp; rfl)
  simp only [Act.put, List.setIfInBounds_toArray, List.set_cons_succ, List.set_cons_zero]
  apply lk_pure _ rfl (by intro W; go_simp; rfl)
  simp only [Act.put, List.setIfInBounds_toArray, List.set_cons_succ, List.set_cons_zero]
  apply lk_cell (.slice (some ⟨ub, 0, none⟩) (m + 1) cap) (r) (2) d2 HL.out rfl (by intro W hW; go_simp)
  simp only [Act.put, List.setIfInBounds_toArray, List.set_cons_succ, List.set_cons_zero]
  apply lk_pure _ rfl (by intro W; go_simp; rfl)
  simp only [Act.put, List.setIfInBounds_toArray, List.set_cons_succ, List.set_cons_zero]
  apply lk_pure _ rfl (by intro W; go_simp; rfl)
  simp only [Act.put, List.setIfInBounds_toArray, List.set_cons_succ, List.set_cons_zero]
  apply lk_pure (.pointer (some ⟨ub, m, none⟩)) rfl (by intro W; go_simp; intro hbad; omega)
  simp only [Act.put, List.setIfInBounds_toArray, List.set_cons_succ, List.set_cons_zero]
  apply lk_cell (.iface 94 (.pointer (some ⟨g, 0, none⟩))) (ub) (m) dt2 HU.out rfl (by intro W hW; go_simp)
  simp only [Act.put, List.setIfInBounds_toArray, List.set_cons_succ, List.set_cons_zero]
  apply lk_pure _ rfl (by intro W; go_simp; rfl)
  simp only [Act.put, List.setIfInBounds_toArray, List.set_cons_succ, List.set_cons_zero]
  refine lk_nil (Fs := []) ?_
  intro W1 hb1 hz
  have H1 := Lib.hid (And.intro (H0.out.1.later hb1) (And.intro (H0.out.2.1.then_ hb1) (And.intro (H0.out.2.2.1.later hb1) (H0.out.2.2.2.later hb1))))
  have hta : (Instr.typeAssert (.iface 94 (.pointer (some ⟨g, 0, none⟩))) 20 90 true).run Tryz.prog W1 = .ok (.tuple #[.pointer none, .bool false]) W1 := by first | rfl | (unfold Instr.typeAssert; go_simp; rfl) | (unfold Instr.typeAssert; go_simp; done)
  have htb : (Instr.typeAssert (.iface 94 (.pointer (some ⟨g, 0, none⟩))) 20 94 false).run Tryz.prog W1 = .ok (.pointer (some ⟨g, 0, none⟩)) W1 := by first | rfl | (unfold Instr.typeAssert; go_simp; rfl) | (unfold Instr.typeAssert; go_simp; done)
  clear d2 dt2 hz hb1 H0 HL HU hwr
  go_upto_region 10 with fail
  have hin : FIn base W1 ⟨.t acc key, g, L, mb, F⟩ := H1.out.1.ins _ (List.mem_cons_self ..)
  obtain ⟨h1f, h2f, h3f, h4f, h5f, P, hrow, hPf⟩ := hin
  obtain ⟨A9, c9, hL, hac, _⟩ := RowP.part (Q := F) hrow rfl (fun b hb => (hPf b hb).1) (fun q hq => (h4f q hq).1)
  obtain ⟨hbl, hseen, hmg, hap, hhk, hkl⟩ : Blk W1 g 97 [L, .map (some mb), .string ⟨key.toArray⟩] ∧ SeenIs W1 mb (fun x => acc.hasK x || key == x) (acc.ext + 1) ∧ mb ≠ g ∧ acc.apart ∧ acc.hasK key = false ∧ key.length ≤ 300000 := h1f
  obtain ⟨n, hn⟩ : ∃ n, acc.ext = n := ⟨_, rfl⟩
  have hL2 : L = .slice A9 n c9 := by rw [← hn]; exact hL
  have HNN := Lib.hid hn
  have HROW := Lib.hid (And.intro (show RowP P 0 true W1 L acc acc.ext from hrow) (And.intro (show F g from h2f) (And.intro (show ∀ b, L.ownBlock = some b → F b ∧ b ≠ g ∧ b ≠ mb from h4f) (And.intro (show ∀ b, F b → base ≤ b ∧ b < W1.heap.size from h5f) (And.intro (show ∀ b, P b → F b ∧ b ≠ g ∧ b ≠ mb ∧ L.ownBlock ≠ some b from hPf) (show F mb from h3f))))))
  have HBL := Lib.hid (And.intro hbl (And.intro hseen (And.intro hmg (And.intro hap (And.intro hhk hkl)))))
  have dl := hbl.cell (k := 0) rfl
  have dk := hbl.cell (k := 2) rfl
  rw [hL2] at dl
  have HG := Lib.hid hbl.lt
  have HB1 := Lib.hid H1.out.2.2.1.lt
  have HRB : W1.rangeAt w.heap.size 0 [.int .i64 v.kd, .bool v.is, .int .i64 v.n, .string ⟨v.s.toArray⟩, .slice A nl cl, .slice B nm cm] := fun j v hj => by rw [Nat.zero_add]; exact H1.out.2.2.1.cell hj
  clear h2f h3f h4f h5f hrow hPf hL hac hbl hn hta htb hseen hmg hap hhk hkl
  apply wp_region_lw 12 6 #[true, true, true, true, true, true, true, true, true, true, true, true, false, false, false, false, false, false] (by kernel_rfl) (by kernel_rfl) (by decide) (by rfl) (by kernel_rfl) (by kernel_rfl) (by kernel_rfl) (by kernel_rfl)
  simp only [List.take_succ_cons, List.take_zero]
  apply lk_pure _ rfl (by intro W; go_simp; rfl)
  simp only [Act.put, List.setIfInBounds_toArray, List.set_cons_succ, List.set_cons_zero]
  apply lk_pure _ rfl (by intro W; go_simp; rfl)
  simp only [Act.put, List.setIfInBounds_toArray, List.set_cons_succ, List.set_cons_zero]
  apply lk_pure _ rfl (by intro W; go_simp; rfl)
  simp only [Act.put, List.setIfInBounds_toArray, List.set_cons_succ, List.set_cons_zero]
  apply lk_cell (.slice A9 n c9) (g) (0) dl HG.out rfl (by intro W hW; go_simp)
  simp only [Act.put, List.setIfInBounds_toArray, List.set_cons_succ, List.set_cons_zero]
  apply lk_pure _ rfl (by intro W; go_simp; rfl)
  simp only [Act.put, List.setIfInBounds_toArray, List.set_cons_succ, List.set_cons_zero]
  apply lk_pure _ rfl (by intro W; go_simp; rfl)
  simp only [Act.put, List.setIfInBounds_toArray, List.set_cons_succ, List.set_cons_zero]
  apply lk_pure _ rfl (by intro W; go_simp; rfl)
  simp only [Act.put, List.setIfInBounds_toArray, List.set_cons_succ, List.set_cons_zero]
  apply lk_cell (.string ⟨key.toArray⟩) (g) (2) dk HG.out rfl (by intro W hW; go_simp)
  simp only [Act.put, List.setIfInBounds_toArray, List.set_cons_succ, List.set_cons_zero]
  apply lk_load 25 (.tmp 3) rfl (w.heap.size) (0) _ _ HRB HB1.out Tryz.underlying25 rfl (size_v6) rfl rfl
  simp only [Act.put, List.setIfInBounds_toArray, List.set_cons_succ, List.set_cons_zero]
  apply lk_pure (.agg #[.string ⟨key.toArray⟩, .int .i64 v.kd, .bool v.is, .int .i64 v.n, .string ⟨v.s.toArray⟩, .slice A nl cl, .slice B nm cm]) rfl (by intro W; go_simp)
  simp only [Act.put, List.setIfInBounds_toArray, List.set_cons_succ, List.set_cons_zero]
  apply lk_pure _ rfl (by intro W; go_simp; rfl)
  simp only [Act.put, List.setIfInBounds_toArray, List.set_cons_succ, List.set_cons_zero]
  apply lk_step (F := oneF 44 [.string ⟨#[]⟩, .int .i64 0, .bool false, .int .i64 0, .string ⟨#[]⟩, .slice none 0 0, .slice none 0 0]) rfl ⟨⟨_, 0, rfl⟩, fun W hW => by unfold lkAt; go_simp; exact ⟨⟨_, rfl⟩, ⟨_, rfl, Blk.new _ _ _⟩, (Below.refl _ _).alloc (Nat.le_refl _) _⟩⟩
  rintro _ ⟨b6, rfl⟩
  simp only [Act.put, List.setIfInBounds_toArray, List.set_cons_succ, List.set_cons_zero]
  refine lk_nil (Fs := []) ?_
  intro W2 hb2 hz
  obtain ⟨b7, e7, hB7⟩ := hz.2
  injection e7 with e7
  injection e7 with e7
  injection e7 with e7
  subst e7
  have hrow2 : RowP P 0 true W2 L (acc.snoc [] nullJ) acc.ext := (HROW.out.1.stay (fun q hq => hb2.block q (HROW.out.2.2.2.1 q (HROW.out.2.2.1 q hq).1).2) (fun b o hp => hb2.cell (p := ⟨b, o, none⟩) (HROW.out.2.2.2.1 b (HROW.out.2.2.2.2.1 b hp).1).2) (fun _ h => h)).like (fun i hi => snoc_lt acc [] nullJ i hi)
  have hP2 : ∀ b, P b → b < W2.heap.size ∧ L.ownBlock ≠ some b := fun b hb => ⟨Nat.lt_of_lt_of_le (HROW.out.2.2.2.1 b (HROW.out.2.2.2.2.1 b hb).1).2 hb2.size, (HROW.out.2.2.2.2.1 b hb).2.2.2⟩
  have hk2 : acc.ext ≤ 1000000 := by have h1 := H.out.sub _ (List.mem_cons_self ..); have h2 := H.out.hat; have h3 := H.out.hs; have h4 : acc.ext ≤ at_ := h1; omega
  have hs2 := snoc_at acc [] nullJ
  have H2 := Lib.hid (And.intro (H1.out.1.later hb2) (And.intro (H1.out.2.1.then_ hb2) (And.intro (H1.out.2.2.1.later hb2) (And.intro (H1.out.2.2.2.later hb2) (And.intro (HBL.out.1.later hb2) (show SeenIs W2 mb (fun x => acc.hasK x || key == x) (acc.ext + 1) from HBL.out.2.1.stay (hb2.block mb (HROW.out.2.2.2.1 mb HROW.out.2.2.2.2.2).2)))))))
  clear dl dk HRB hz
  refine wa_op 12 (by kernel_rfl) rfl rfl ?_
  refine wp_append_rowP true (.tmp 51) (.tmp 59) rfl P 0 L (acc.snoc [] nullJ) acc.ext (by rw [hL2]; rfl) hrow2 hk2 hP2 (Nat.zero_le _) b6 [.int .i64 0, .bool false, .int .i64 0, .string ⟨#[]⟩, .slice none 0 0, .slice none 0 0] (by rw [hs2.1]; exact Nat.zero_le _) rfl (by rw [hs2.1]; exact hB7) (by rw [hs2.2]; exact null_jcs _ _) ?_
  intro g2 c2 W3 hrow3 hgr3 hg3
  simp only [Act.put, List.setIfInBounds_toArray, List.set_cons_succ, List.set_cons_zero]
  rw [HNN.out]
  refine wa_pure 13 (.pointer (some ⟨g2, n * 7, none⟩)) rfl (by kernel_rfl) (by kernel_rfl) (by kernel_rfl) (fun _ _ _ h => h) rfl (by intro W; go_simp; intro hbad; omega) ?_
  simp only [Act.put, List.setIfInBounds_toArray, List.set_cons_succ, List.set_cons_zero]
  refine wa_pure 15 (.pointer (some ⟨g, 0, none⟩)) rfl (by kernel_rfl) (by kernel_rfl) (by kernel_rfl) (fun _ _ _ h => h) rfl (by intro W; go_simp; done) ?_
  simp only [Act.put, List.setIfInBounds_toArray, List.set_cons_succ, List.set_cons_zero]
  refine wa_pure 16 (.pointer (some ⟨g, 0, none⟩)) rfl (by kernel_rfl) (by kernel_rfl) (by kernel_rfl) (fun _ _ _ h => h) rfl (by intro W; go_simp; done) ?_
  simp only [Act.put, List.setIfInBounds_toArray, List.set_cons_succ, List.set_cons_zero]
  have hth3 : W3.there g2 (n * 7) 7 := by have := hrow3.there; rw [HNN.out] at this; exact this
  have hbl3 : Blk W3 g 97 [L, .map (some mb), .string ⟨key.toArray⟩] := (hg3.block g H2.out.2.2.2.2.1.lt (fun e => (HROW.out.2.2.1 g e.symm).2.1 rfl)).trans H2.out.2.2.2.2.1
  have hmb3 : W3.heap[mb]? = W2.heap[mb]? := hg3.block mb (Nat.lt_of_lt_of_le (HROW.out.2.2.2.1 mb HROW.out.2.2.2.2.2).2 hb2.size) (fun e => (HROW.out.2.2.1 mb e.symm).2.2 rfl)
  have hgm : g2 ≠ g := by
    rcases hgr3 with e | e
    · exact (HROW.out.2.2.1 g2 e).2.1
    · have := H2.out.2.2.2.2.1.lt; omega
  have hblA : Blk (W3.setCells g2 (n * 7) [.string ⟨key.toArray⟩, .int .i64 v.kd, .bool v.is, .int .i64 v.n, .string ⟨v.s.toArray⟩, .slice A nl cl, .slice B nm cm]) g 97 [L, .map (some mb), .string ⟨key.toArray⟩] := (setCells_chg (g := g2) [.string ⟨key.toArray⟩, .int .i64 v.kd, .bool v.is, .int .i64 v.n, .string ⟨v.s.toArray⟩, .slice A nl cl, .slice B nm cm] (n * 7) W3).blk hbl3 (fun e => hgm e.symm)
  have hthB : (W3.setCell ⟨g, 0, none⟩ (.slice (some ⟨g2, 0, none⟩) (n + 1) c2)).there g2 (n * 7) 7 := World.there_setCells hth3 g 0 [.slice (some ⟨g2, 0, none⟩) (n + 1) c2]
  have k1 := hbl3.cell (k := 0) rfl
  have k2 := hbl3.frozen 0
  have hrun : ∀ WA : World, WA.cell? ⟨g, 0, none⟩ = some L → WA.frozen? ⟨g, 0, none⟩ = false → (Instr.storeAt 23 (.pointer (some ⟨g, 0, none⟩)) (.slice (some ⟨g2, 0, none⟩) (n + 1) c2)).run Tryz.prog WA = .ok () (WA.setCell ⟨g, 0, none⟩ (.slice (some ⟨g2, 0, none⟩) (n + 1) c2)) := fun WA k1 k2 => by go_simp
  have hall : (#[.string ⟨key.toArray⟩, .int .i64 v.kd, .bool v.is, .int .i64 v.n, .string ⟨v.s.toArray⟩, .slice A nl cl, .slice B nm cm] : Array Value).all (·.oneCell') = true := by simp [Value.oneCell']
  have hrunA : (Instr.storeAt 23 (.pointer (some ⟨g, 0, none⟩)) (.slice (some ⟨g2, 0, none⟩) (n + 1) c2)).run Tryz.prog (W3.setCells g2 (n * 7) [.string ⟨key.toArray⟩, .int .i64 v.kd, .bool v.is, .int .i64 v.n, .string ⟨v.s.toArray⟩, .slice A nl cl, .slice B nm cm]) = .ok () ((W3.setCell ⟨g, 0, none⟩ (.slice (some ⟨g2, 0, none⟩) (n + 1) c2)).setCells g2 (n * 7) [.string ⟨key.toArray⟩, .int .i64 v.kd, .bool v.is, .int .i64 v.n, .string ⟨v.s.toArray⟩, .slice A nl cl, .slice B nm cm]) := (hrun _ (hblA.cell (k := 0) rfl) (hblA.frozen 0)).trans (congrArg (Result.ok ()) (setCells_comm hgm _ [.string ⟨key.toArray⟩, .int .i64 v.kd, .bool v.is, .int .i64 v.n, .string ⟨v.s.toArray⟩, .slice A nl cl, .slice B nm cm] (n * 7) W3))
  have hsz7 : (Tryz.prog.info? 44).map (·.size) = some 7 := by kernel_rfl
  refine wa_two_st (W3.setCells g2 (n * 7) [.string ⟨key.toArray⟩, .int .i64 v.kd, .bool v.is, .int .i64 v.n, .string ⟨v.s.toArray⟩, .slice A nl cl, .slice B nm cm]) (W3.setCell ⟨g, 0, none⟩ (.slice (some ⟨g2, 0, none⟩) (n + 1) c2)) ((W3.setCell ⟨g, 0, none⟩ (.slice (some ⟨g2, 0, none⟩) (n + 1) c2)).setCells g2 (n * 7) [.string ⟨key.toArray⟩, .int .i64 v.kd, .bool v.is, .int .i64 v.n, .string ⟨v.s.toArray⟩, .slice A nl cl, .slice B nm cm]) 14 17 (by kernel_rfl) rfl rfl rfl rfl rfl rfl (by kernel_rfl) (by kernel_rfl) (by kernel_rfl) (by kernel_rfl) ?_ ?_ ?_ ?_ ?_
  · exact exec_store_mid _ (.tmp 61) (.tmp 57) rfl g2 (n * 7) #[.string ⟨key.toArray⟩, .int .i64 v.kd, .bool v.is, .int .i64 v.n, .string ⟨v.s.toArray⟩, .slice A nl cl, .slice B nm cm] rfl rfl hth3 hsz7 hall
  · exact exec_store_one _ (.tmp 63) (.tmp 60) rfl _ _ rfl rfl hrunA
  · exact exec_store_one _ (.tmp 63) (.tmp 60) rfl _ _ rfl rfl (hrun _ k1 k2)
  · exact exec_store_mid _ (.tmp 61) (.tmp 57) rfl g2 (n * 7) #[.string ⟨key.toArray⟩, .int .i64 v.kd, .bool v.is, .int .i64 v.n, .string ⟨v.s.toArray⟩, .slice A nl cl, .slice B nm cm] rfl rfl hthB hsz7 hall
  have hLAY := lay_mid (acc := acc) (fr0 := .t acc key) (fr1 := .k (acc.snoc key v)) (mem := true) (key := key) rfl rfl rfl rfl rfl (by have := H.out; rw [HM.out] at this; exact this) HV.out.1 (by have := HV.out.2.1; rw [HM.out] at this; exact this) HV.out.2.2 H2.out.1 H2.out.2.1 H2.out.2.2.2.1 HZ.out.1 HZ.out.2 HROW.out.2.2.2.2.1 (show key.length ≤ 140737488355328 from Nat.le_trans HBL.out.2.2.2.2.2 (by decide)) hrow3 hgr3 hg3 (fun W4 e1 e2 => ⟨⟨key, e1.trans (hbl3.set_ 0 _)⟩, seen_snoc H2.out.2.2.2.2.2 (e2.trans ((Deep.blk_setCell_other _ _ _ _ HBL.out.2.2.1).trans hmb3)), HBL.out.2.2.1, snoc_apart HBL.out.2.2.2.1 HBL.out.2.2.2.2.1⟩)
  rw [HNN.out] at hLAY
  have HS4 : LaySt base Z w r s at_ (.slice (some ⟨ub, 0, none⟩) (m + 1) cap) ⟨.k (acc.snoc key v), g, .slice (some ⟨g2, 0, none⟩) (n + 1) c2, mb, fun b => F b ∨ Fv b ∨ b = g2⟩ fs (w.heap.size + 1) ((W3.setCell ⟨g, 0, none⟩ (.slice (some ⟨g2, 0, none⟩) (n + 1) c2)).setCells g2 (n * 7) [.string ⟨key.toArray⟩, .int .i64 v.kd, .bool v.is, .int .i64 v.n, .string ⟨v.s.toArray⟩, .slice A nl cl, .slice B nm cm]) := hLAY
  clear hLAY hthB hrunA hrun hall k1 k2 hblA hgm hbl3 hmb3 hth3 hrow3 hgr3 hg3 H2 hs2 hk2 hP2 hrow2 hB7 hb2
  generalize (W3.setCell ⟨g, 0, none⟩ (.slice (some ⟨g2, 0, none⟩) (n + 1) c2)).setCells g2 (n * 7) [.string ⟨key.toArray⟩, .int .i64 v.kd, .bool v.is, .int .i64 v.n, .string ⟨v.s.toArray⟩, .slice A nl cl, .slice B nm cm] = W4 at HS4 ⊢
  have H4 := Lib.hid HS4
  clear HS4
  go_wp2_with fail
  refine (pass_calls base _ r s at_ 44 _ _ H4.out.st).mono ?_
  rintro e W5 ⟨b, k, rfl, p1, p2, p3, p4, p5⟩
  have H5 := Lib.hid (And.intro (H4.out.next p2 p1 p3) (And.intro p3 (And.intro p4 p5)))
  clear p1 p2 p3 p4 p5 H4
  cases b with
  | true =>
    go_wp2_with fail
    have HP := Lib.hid (H5.out.2.2.1 (by first | rfl | trivial))
    have HGO := Lib.hid (lay_t_go (acc := acc) (key := key) (fs := fs.map (·.fr)) (v := v) HP.out.1)
    refine (key_calls base _ r s k _ _ _ _ _ _ _ H5.out.1.st).mono ?_
    rintro e W6 ⟨c6, ⟨c, hkc, rfl⟩ | ⟨k2, at2, hkc, rfl, m2, m3, m4⟩⟩
    · have hB6 : Below base w W6 := c6.below H5.out.1.below (Nat.le_trans H5.out.1.st.hr (Nat.le_of_lt H5.out.1.st.lt)) (fun b _ e => by
        rcases e with e | e
        · rw [e]; exact H5.out.1.st.hr
        · exact ((H5.out.1.st.ins _ (List.mem_cons_self ..)).2.2.2.2.1 b e).1)
      have H6 := Lib.hid (And.intro hB6 (show resume (.t acc key :: fs.map (·.fr)) (.ok (v, s.drop at_)) = .error c by rw [HGO.out, hkc]))
      clear c6 hkc hB6
      go_wp2_with fail
      exact ⟨rfl, StPost.bad H6.out.1 H6.out.2⟩
    · have hB6 : Below base w W6 := c6.below H5.out.1.below (Nat.le_trans H5.out.1.st.hr (Nat.le_of_lt H5.out.1.st.lt)) (fun b _ e => by
        rcases e with e | e
        · rw [e]; exact H5.out.1.st.hr
        · exact ((H5.out.1.st.ins _ (List.mem_cons_self ..)).2.2.2.2.1 b e).1)
      have hb6 : Blk W6 (w.heap.size + 1) 25 [.int .i64 0, .bool false, .int .i64 0, .string ⟨#[]⟩, .slice none 0 0, .slice none 0 0] := c6.blk H5.out.1.res (fun e => by
        rcases e with e | e
        · exact (H5.out.1.st.une H5.out.1.res).1 e.symm
        · exact H5.out.1.away _ (List.mem_cons_self ..) e)
      have hres : resume (.t acc key :: fs.map (·.fr)) (.ok (v, s.drop at_)) = resume (.t (acc.snoc key v) k2 :: fs.map (·.fr)) (pV (fs.length + 1) (s.drop at2)) := by rw [HGO.out, hkc]; dsimp only; rw [List.length_map]
      have H6 := Lib.hid (And.intro hB6 (And.intro m4 (And.intro hb6 (And.intro hres (And.intro (Nat.lt_trans HP.out.2 m2) (((H5.out.1.zsC c6).sub (fun x hx => List.mem_cons_of_mem _ hx)).cons (f := ⟨.t (acc.snoc key v) k2, g, .slice (some ⟨g2, 0, none⟩) (n + 1) c2, mb, fun b => F b ∨ Fv b ∨ b = g2⟩) H5.out.1.zf))))))
      obtain ⟨z0, z1, z2, z3, z4, z5, y0, y1, y2, y3, y4, y5⟩ := cells6s hb6
      clear c6 hkc hB6 hb6 hres m2 m3 m4
      go_wp2_with fail
      exact bodyPost_ret (res_cell62 (p := 4) (q := 5) rfl _ ⟨w.heap.size + 1, 0, none⟩ _ _ _ rfl rfl (Blk.load (blk6 H6.out.2.2.1) _ Tryz.underlying25 rfl size_v6)) rfl (StPost.no H6.out.1 H6.out.2.1 H6.out.2.2.1 H5.out.1.bq (fun x hx => by
        rcases List.mem_cons.1 hx with rfl | hx
        · exact H5.out.1.away ⟨.k (acc.snoc key v), g, .slice (some ⟨g2, 0, none⟩) (n + 1) c2, mb, fun b => F b ∨ Fv b ∨ b = g2⟩ (List.mem_cons_self ..)
        · exact H5.out.1.away x (List.mem_cons_of_mem _ hx)) H5.out.1.qn H6.out.2.2.2.2.2 H6.out.2.2.2.2.1 H6.out.2.2.2.1)
  | false =>
    go_wp2_with fail
    refine (must_calls base _ r s k 125 _ _ H5.out.1.st).mono ?_
    rintro e W6 ⟨c6, ⟨at2, rfl, m1, m2, m3⟩ | ⟨rfl, m1⟩⟩
    · have HN := H5.out.2.2.2 (by first | rfl | trivial)
      rw [HN.1, skip_skip] at m2
      have H6 := Lib.hid (And.intro (H5.out.1.next c6 m1 (Nat.le_of_lt m3)) (And.intro m2 (Nat.lt_of_le_of_lt H5.out.2.1 m3)))
      clear c6 m1 m2 m3 HN H5
      go_wp2_with fail
      refine (close_table base _ r s at2 _ _ _ _ _ _ _ H6.out.1.st).mono ?_
      rintro e W7 ⟨c7, A7, nl7, cl7, B7, nm7, cm7, U7, rfl, v7, r7, u7, x7⟩
      have hb7 : Blk W7 (w.heap.size + 1) 25 [.int .i64 0, .bool false, .int .i64 0, .string ⟨#[]⟩, .slice none 0 0, .slice none 0 0] := c7.blk H6.out.1.res (fun e => by
        rcases e with e | e
        · exact (H6.out.1.st.une H6.out.1.res).1 e.symm
        · exact H6.out.1.away _ (List.mem_cons_self ..) e)
      have hB7 : Below base w W7 := c7.below H6.out.1.below (Nat.le_trans H6.out.1.st.hr (Nat.le_of_lt H6.out.1.st.lt)) (fun b _ e => by
        rcases e with e | e
        · rw [e]; exact H6.out.1.st.hr
        · exact ((H6.out.1.st.ins _ (List.mem_cons_self ..)).2.2.2.2.1 b e).1)
      have H7 := Lib.hid (And.intro hb7 (And.intro hB7 (And.intro (show Whole9 base W7 r s at2 U7 fs _ (mapV (sortJ (acc.snoc key v))) A7 B7 nl7 cl7 nm7 cm7 from ⟨r7, v7, H6.out.1.own (hc := c7) r7 u7, H6.out.1.low, x7⟩) ((H6.out.1.zsC c7).sub (fun x hx => List.mem_cons_of_mem _ hx)))))
      obtain ⟨z0, z1, z2, z3, z4, z5, y0, y1, y2, y3, y4, y5⟩ := cells6s hb7
      clear c7 v7 r7 u7 x7 hb7 hB7
      go_wp2_with fail
      exact bodyPost_ret (res_cell62 (p := 4) (q := 5) rfl _ ⟨w.heap.size + 1, 0, none⟩ _ _ _ rfl rfl (Blk.load (blk6 H7.out.1) _ Tryz.underlying25 rfl size_v6)) rfl (StPost.yes H7.out.2.1 H7.out.2.2.1 H7.out.1 H6.out.1.bq (fun x hx => H6.out.1.away x (List.mem_cons_of_mem _ hx)) (H6.out.1.away _ (List.mem_cons_self ..)) H6.out.1.qn H7.out.2.2.2 H6.out.1.zf H6.out.2.2 (lay_t_end H6.out.2.1))
    · have HN := H5.out.2.2.2 (by first | rfl | trivial)
      rw [HN.1, skip_skip] at m1
      have hB6 : Below base w W6 := c6.below H5.out.1.below (Nat.le_trans H5.out.1.st.hr (Nat.le_of_lt H5.out.1.st.lt)) (fun b _ e => by rw [e]; exact H5.out.1.st.hr)
      have H6 := Lib.hid (And.intro hB6 (lay_t_no (acc := acc) (key := key) (fs := fs.map (·.fr)) (v := v) m1 (by have := HN.2; rw [HN.1] at this; exact this)))
      clear c6 m1 HN hB6
      go_wp2_with fail
      exact ⟨rfl, StPost.bad H6.out.1 H6.out.2⟩
end Go.Proofs.YtajkgcmopmpihaaGreatDoor
namespace Go.Proofs.YtajkgcmopmpihaaGreatDoor
open Go.Lib
set_option linter.unusedVariables false
def expN (q : List UInt8) : Bool :=
  let q2 := match q with | [] => [] | d :: q3 => if d = 43 ∨ d = 45 then q3 else q
  !q2.isEmpty && q2.all digB
def tailN (r : List UInt8) : Bool := match r with
  | [] => true
  | c :: q => if c = 101 ∨ c = 69 then expN q else false
def fracN (r : List UInt8) : Bool := match r with
  | [] => tailN r
  | c :: q => if c = 46 then (if q.dropWhile digB = q then false else tailN (q.dropWhile digB)) else tailN r
def isNumF (w : List UInt8) : Bool :=
  let r := signF w
  match r with
  | [] => false
  | c :: q => if c = 48 then fracN q else if r.dropWhile digB = r then false else fracN (r.dropWhile digB)
theorem drop_self {l : List UInt8} : l.dropWhile digB = l ↔ (l.takeWhile digB).isEmpty = true := by
  cases l with
  | nil => simp
  | cons c l =>
    by_cases h : digB c = true
    · simp only [List.dropWhile_cons, List.takeWhile_cons, h, if_true]
      constructor
      · intro e
        have := congrArg List.length e
        have h2 := (List.dropWhile_sublist (l := l) digB).length_le
        simp at this; omega
      · intro e; simp at e
    · simp [h]
theorem all_iff (l : List UInt8) : (!l.isEmpty && l.all digB) = (!(l.takeWhile digB).isEmpty && (l.dropWhile digB).isEmpty) := by
  cases l with
  | nil => rfl
  | cons c l =>
    by_cases h : digB c = true
    · have : ∀ m : List UInt8, m.all digB = (m.dropWhile digB).isEmpty := by
        intro m
        induction m with
        | nil => rfl
        | cons d m ih =>
          by_cases hd : digB d = true
          · simp [hd, ih]
          · simp [hd]
      simp [h, this l]
    · simp [h]
theorem exp_fst (r : List UInt8) (more : Bool) : (expF r more).1 = tailN r := by
  cases r with
  | nil => rfl
  | cons c q =>
    unfold expF tailN
    dsimp only
    by_cases h : c = 101 ∨ c = 69
    · rw [if_pos h, if_pos h]
      unfold expN
      have key : ∀ q2 : List UInt8, (if (q2.takeWhile digB).isEmpty then (false, false) else ((q2.dropWhile digB).isEmpty, true)).1 = (!q2.isEmpty && q2.all digB) := by
        intro q2
        rw [all_iff]
        by_cases h2 : (q2.takeWhile digB).isEmpty = true
        · rw [if_pos h2, h2]; rfl
        · rw [if_neg h2]
          have h3 : (q2.takeWhile digB).isEmpty = false := by simpa using h2
          rw [h3]; rfl
      cases q with
      | nil => exact key []
      | cons d q3 => exact key (if d = 43 ∨ d = 45 then q3 else d :: q3)
    · rw [if_neg h, if_neg h]
theorem frac_fst (r : List UInt8) : (fracF r).1 = fracN r := by
  cases r with
  | nil => rfl
  | cons c q =>
    unfold fracF fracN
    dsimp only
    by_cases h : c = 46
    · rw [if_pos h, if_pos h]
      by_cases h2 : (q.takeWhile digB).isEmpty = true
      · rw [if_pos h2, if_pos (drop_self.2 h2)]
      · rw [if_neg h2, if_neg (fun e => h2 (drop_self.1 e)), exp_fst]
    · rw [if_neg h, if_neg h, exp_fst]
theorem whole_fst (w : List UInt8) : (wholeF w).1 = isNumF w := by
  unfold wholeF isNumF
  dsimp only
  obtain ⟨r, hr⟩ : ∃ r, signF w = r := ⟨_, rfl⟩
  rw [hr]
  cases r with
  | nil => rfl
  | cons c q =>
    dsimp only
    by_cases h48 : c = 48
    · subst h48
      rw [if_pos rfl]
      have hd : digB 48 = true := by decide
      simp only [List.takeWhile_cons, hd, if_true, List.dropWhile_cons, List.length_cons, List.head?_cons, beq_self_eq_true, Bool.and_true, List.isEmpty_cons, Bool.false_or, decide_eq_true_eq]
      by_cases hq : (q.takeWhile digB).isEmpty = true
      · have h0 : (q.takeWhile digB).length = 0 := by simpa using hq
        rw [if_neg (by omega), frac_fst, drop_self.2 hq]
      · have h0 : (q.takeWhile digB).length ≠ 0 := by simpa using hq
        rw [if_pos (by omega)]
        cases q with
        | nil => simp at h0
        | cons d q =>
          have hdd : digB d = true := by
            by_cases hdd : digB d = true
            · exact hdd
            · simp [hdd] at h0
          have hn := (by simpa [digB] using hdd : 48 ≤ d.toNat ∧ d.toNat ≤ 57)
          have h1 : d ≠ 46 := fun e => by rw [e] at hn; exact absurd hn.1 (by decide)
          have h2 : ¬ (d = 101 ∨ d = 69) := fun e => by rcases e with e | e <;> · rw [e] at hn; exact absurd hn.2 (by decide)
          unfold fracN tailN
          simp only [if_neg h1, if_neg h2]
    · rw [if_neg h48]
      have hh : ((c :: q).head? == some 48) = false := by simpa using h48
      by_cases hq : ((c :: q).takeWhile digB).isEmpty = true
      · rw [if_pos (by rw [hq]; rfl), if_pos (drop_self.2 hq)]
      · rw [if_neg (by rw [hh]; simpa using hq), if_neg (fun e => hq (drop_self.1 e)), frac_fst]
end Go.Proofs.YtajkgcmopmpihaaGreatDoor
