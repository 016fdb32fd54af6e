/- Texts put together: Jp5 Jp4. -/
import Derived.Test.YtajkgcmopmpihaaGreatDoorY5f05dbc411
namespace Go.Proofs.YtajkgcmopmpihaaGreatDoor
open Go.ChangeShapes Go.WideShapes Go.ChangeAt Go.RowKit Go.IntWalk
set_option linter.unusedVariables false
set_option maxRecDepth 100000
theorem lay_mid {base : Nat} {Z : Nat → Prop} {w W2 W3 : World} {r : Nat} {s : List UInt8} {at_ : Nat} {U : Value} {mem : Bool} {fr0 fr1 : Fr} {acc : JT} {key key0 : List UInt8} {v u : Jv} {g g2 c2 mb : Nat} {L : Value} {F Fv P : Nat → Prop} {fs : List Frm} {A B : Option Addr} {nl cl nm cm : Nat}
    (hacc0 : fr0.acc = acc) (hmem0 : fr0.mem = mem) (hacc1 : fr1.acc = acc.snoc key v) (hmem1 : fr1.mem = mem) (hty : fr1.ty = fr0.ty)
    (H : RSt base w r s at_ U (⟨fr0, g, L, mb, F⟩ :: fs)) (hv : VPar Fv w v A B nl cl nm cm) (ho : Own9 base w r U (⟨fr0, g, L, mb, F⟩ :: fs) Fv) (hx : ∀ f ∈ (⟨fr0, g, L, mb, F⟩ :: fs : List Frm), f.fr.acc.ext < at_)
    (H2 : RSt base W2 r s at_ U (⟨fr0, g, L, mb, F⟩ :: fs)) (hb2 : Below w.heap.size w W2) (hq : Blk W2 (w.heap.size + 1) 25 [.int .i64 0, .bool false, .int .i64 0, .string ⟨#[]⟩, .slice none 0 0, .slice none 0 0])
    (hZ : Zs Z w w (⟨fr0, g, L, mb, F⟩ :: fs)) (hZv : ∀ b, Z b → ¬ Fv b)
    (hPf : ∀ b, P b → F b ∧ b ≠ g ∧ b ≠ mb ∧ L.ownBlock ≠ some b) (hkey : if mem then key.length ≤ 140737488355328 else key = [])
    (hrow3 : RowP P 0 mem W3 (.slice (some ⟨g2, 0, none⟩) (acc.ext + 1) c2) (acc.snoc key0 u) (acc.ext + 1)) (hgr3 : L.ownBlock = some g2 ∨ g2 = W2.heap.size) (hg3 : W2.grownBy W3 L.ownBlock)
    (hbox : ∀ W4 : World, W4.heap[g]? = (W3.setCell ⟨g, 0, none⟩ (.slice (some ⟨g2, 0, none⟩) (acc.ext + 1) c2)).heap[g]? → W4.heap[mb]? = (W3.setCell ⟨g, 0, none⟩ (.slice (some ⟨g2, 0, none⟩) (acc.ext + 1) c2)).heap[mb]? → Frm.box ⟨fr1, g, .slice (some ⟨g2, 0, none⟩) (acc.ext + 1) c2, mb, fun b => F b ∨ Fv b ∨ b = g2⟩ W4) :
    LaySt base Z w r s at_ U ⟨fr1, g, .slice (some ⟨g2, 0, none⟩) (acc.ext + 1) c2, mb, fun b => F b ∨ Fv b ∨ b = g2⟩ fs (w.heap.size + 1)
      ((W3.setCell ⟨g, 0, none⟩ (.slice (some ⟨g2, 0, none⟩) (acc.ext + 1) c2)).setCells g2 (acc.ext * stM mem) (newC mem key [.int .i64 v.kd, .bool v.is, .int .i64 v.n, .string ⟨v.s.toArray⟩, .slice A nl cl, .slice B nm cm])) := by
  obtain ⟨h1f, hFm, hFmb, h4f, hFw2, _, _, _⟩ := H2.ins _ (List.mem_cons_self ..)
  have hFm : F g := hFm
  have hFmb : F mb := hFmb
  have h4f : ∀ b, L.ownBlock = some b → F b ∧ b ≠ g ∧ b ≠ mb := h4f
  have hsub : ∀ b, L.ownBlock = some b → F b := fun b e => (h4f b e).1
  have hFw : ∀ b, F b → base ≤ b ∧ b < w.heap.size := fun b hb => (H.ins _ (List.mem_cons_self ..)).2.2.2.2.1 b hb
  have hbw : base ≤ w.heap.size := Nat.le_trans H.hr (Nat.le_of_lt H.lt)
  have hw2 : w.heap.size + 1 < W2.heap.size := hq.lt
  have hwle : w.heap.size ≤ W2.heap.size := hb2.size
  have hg2 : F g2 ∨ g2 = W2.heap.size := hgr3.imp (hsub g2) id
  have hgm : g2 ≠ g ∧ g2 ≠ mb := by
    rcases hgr3 with e | e
    · exact (h4f g2 e).2
    · have h1 := (hFw g hFm).2
      have h2 := (hFw mb hFmb).2
      exact ⟨by omega, by omega⟩
  obtain ⟨WS, hWS⟩ : ∃ WS, W3.setCell ⟨g, 0, none⟩ (.slice (some ⟨g2, 0, none⟩) (acc.ext + 1) c2) = WS := ⟨_, rfl⟩
  have hcS : Chg (fun b => b = g) W3 WS := by rw [← hWS]; exact Chg.set1 (C := (· = g)) rfl _ _
  rw [hWS] at hbox ⊢
  have hcA : Chg F W2 W3 := (Chg.refl F W2).grown hg3 (fun b e => .inl (hsub b e))
  have hcA2 : Chg F W2 WS := hcA.then_ (hcS.mono (fun b _ e => by rw [e]; exact hFm))
  have hFvn : ∀ b, Fv b → ¬ F b ∧ b < w.heap.size := fun b hb => ⟨(ho b hb).2.2.2.2 _ (List.mem_cons_self ..), (ho b hb).2.1⟩
  have hP2 : ∀ b, P b → b < W2.heap.size := fun b hb => Nat.lt_of_lt_of_le (hFw b (hPf b hb).1).2 hwle
  have hvS : VPar Fv WS v A B nl cl nm cm := hv.to (fun b o hb => (hcA2.cell (o := o) (Nat.lt_of_lt_of_le (hFvn b hb).2 hwle) (hFvn b hb).1).trans (hb2.cell (p := ⟨b, o, none⟩) (hFvn b hb).2)) (fun _ h => h)
  have hrowS : RowP P 0 mem WS (.slice (some ⟨g2, 0, none⟩) (acc.ext + 1) c2) (acc.snoc key0 u) (acc.ext + 1) := hrow3.stay (fun q hq => by
    injection hq with hq
    have e9 : g2 = q := hq
    rw [← e9]
    exact hcS.block g2 (hrow3.lt g2 rfl).2 hgm.1) (fun b o hb => hcS.cell (Nat.lt_of_lt_of_le (hP2 b hb) hg3.size) (hPf b hb).2.1) (fun _ h => h)
  have hPg : ∀ b, P b → b ≠ g2 := fun b hb e => by
    rcases hgr3 with e2 | e2
    · exact (hPf b hb).2.2.2 (by rw [e]; exact e2)
    · have := hP2 b hb; omega
  have hFg : ∀ b, Fv b → b ≠ g2 := fun b hb e => by
    rcases hg2 with e2 | e2
    · exact (hFvn b hb).1 (by rw [e]; exact e2)
    · have := (hFvn b hb).2; omega
  have hrow4 := hrowS.put (P' := fun b => P b ∨ Fv b) (v := v) (key := key) (e := [.int .i64 v.kd, .bool v.is, .int .i64 v.n, .string ⟨v.s.toArray⟩, .slice A nl cl, .slice B nm cm]) (fun b hb => .inl hb) (fun b hb => hb.elim (hPg b) (hFg b)) ⟨A, nl, cl, B, nm, cm, rfl, hvS.1, hvS.2.1, hvS.2.2.1.stay (fun _ _ _ => rfl) (fun b hb => .inr hb), hvS.2.2.2.1.stay (fun _ _ _ => rfl) (fun b hb => .inr hb), hvS.2.2.2.2⟩ hkey
  have hc4 : Chg (fun b => b = g2) WS _ := setCells_chg (newC mem key [.int .i64 v.kd, .bool v.is, .int .i64 v.n, .string ⟨v.s.toArray⟩, .slice A nl cl, .slice B nm cm]) (acc.ext * stM mem) WS
  generalize WS.setCells g2 (acc.ext * stM mem) (newC mem key [.int .i64 v.kd, .bool v.is, .int .i64 v.n, .string ⟨v.s.toArray⟩, .slice A nl cl, .slice B nm cm]) = W4 at hrow4 hc4 ⊢
  have hcB : Chg (fun b => F b ∨ b = g2) W2 W4 := (hcA2.mono (fun b _ e => .inl e)).then_ (hc4.mono (fun b _ e => .inr e))
  have hlt4 : g2 < W4.heap.size := (hrow4.lt g2 rfl).2
  have hbg : base ≤ g2 := by
    rcases hg2 with e | e
    · exact (hFw g2 e).1
    · omega
  have hle4 : w.heap.size ≤ W4.heap.size := Nat.le_trans hwle hcB.size
  have hgS : g < WS.heap.size := Nat.lt_of_lt_of_le (hFw g hFm).2 (Nat.le_trans hwle hcA2.size)
  have hmS : mb < WS.heap.size := Nat.lt_of_lt_of_le (hFw mb hFmb).2 (Nat.le_trans hwle hcA2.size)
  have hxe : (acc.snoc key v).ext = acc.ext + 1 := snoc_ext _ _ _
  have hin4 : FIn base W4 ⟨fr1, g, .slice (some ⟨g2, 0, none⟩) (acc.ext + 1) c2, mb, fun b => F b ∨ Fv b ∨ b = g2⟩ := by
    refine ⟨hbox W4 (hc4.block g hgS (fun e => hgm.1 e.symm)) (hc4.block mb hmS (fun e => hgm.2 e.symm)), .inl hFm, .inl hFmb, fun b e => ?_, fun b hb => ?_, fun b => P b ∨ Fv b, ?_, fun b hb => ?_⟩
    · injection e with e
      have e9 : g2 = b := e
      subst e9
      exact ⟨.inr (.inr rfl), hgm.1, hgm.2⟩
    · rcases hb with hb | hb | hb
      · exact ⟨(hFw b hb).1, Nat.lt_of_lt_of_le (hFw b hb).2 hle4⟩
      · exact ⟨(ho b hb).1, Nat.lt_of_lt_of_le (hFvn b hb).2 hle4⟩
      · rw [hb]; exact ⟨hbg, hlt4⟩
    · show RowP _ 0 fr1.mem W4 _ fr1.acc fr1.acc.ext
      rw [hacc1, hmem1, hxe]
      exact hrow4
    · have hne : b ≠ g2 := hb.elim (hPg b) (hFg b)
      have hbm : b ≠ g := hb.elim (fun h => (hPf b h).2.1) (fun h e => (hFvn b h).1 (by rw [e]; exact hFm))
      have hbmb : b ≠ mb := hb.elim (fun h => (hPf b h).2.2.1) (fun h e => (hFvn b h).1 (by rw [e]; exact hFmb))
      exact ⟨hb.elim (fun h => .inl (hPf b h).1) (fun h => .inr (.inl h)), hbm, hbmb, fun e => by injection e with e; exact hne e.symm⟩
  have hx4 : acc.ext < at_ := by
    have := hx ⟨fr0, g, L, mb, F⟩ (List.mem_cons_self ..)
    dsimp only at this
    rw [hacc0] at this
    exact this
  refine ⟨?_, ?_, ?_, by omega, fun x hx h => ?_, fun x hxm => hx x (List.mem_cons_of_mem _ hxm), by omega, ?_⟩
  · refine H2.inTop2 (E := fun b => Fv b ∨ b = W2.heap.size) hcB (fun b hb e => ?_) (fun b hb => ?_) (fun b hb => ?_) ?_ hin4 (by show fr1.acc.ext ≤ at_; rw [hacc1, hxe]; exact hx4)
    · rcases e with e | e
      · exact e
      · rcases hg2 with e2 | e2
        · rw [e]; exact e2
        · omega
    · rcases hb with hb | hb | hb
      · exact .inl hb
      · exact .inr (.inl hb)
      · rw [hb]; exact hg2.imp id .inr
    · rcases hb with hb | hb
      · exact ⟨(ho b hb).2.2.1, (ho b hb).2.2.2.1, fun x hx => (ho b hb).2.2.2.2 x (List.mem_cons_of_mem _ hx)⟩
      · refine ⟨fun e => ?_, fun e => ?_, fun x hx h => ?_⟩
        · have := H2.lt; omega
        · obtain ⟨ub3, cap3, hU3, hub3, _, _, _⟩ := H2.top
          rw [hU3] at e
          injection e with e
          have e9 : ub3 = b := e
          omega
        · have := ((H2.ins x (List.mem_cons_of_mem _ hx)).2.2.2.2.1 b h).2; omega
    · show Value.iface fr1.ty _ = Value.iface fr0.ty _
      rw [hty]
  · exact hcB.below (hb2.mono hbw) (by omega) (fun b _ e => by
      rcases e with e | e
      · exact (hFw b e).1
      · omega)
  · exact hcB.blk hq (fun e => by
      rcases e with e | e
      · have := (hFw _ e).2; omega
      · rcases hg2 with e2 | e2
        · have := (hFw _ e2).2; omega
        · omega)
  · rcases List.mem_cons.1 hx with rfl | hx
    · rcases h with h | h | h
      · have := (hFw _ h).2; omega
      · have := (hFvn _ h).2; omega
      · rcases hg2 with e2 | e2
        · have := (hFw _ e2).2; omega
        · omega
    · have := ((H.ins x (List.mem_cons_of_mem _ hx)).2.2.2.2.1 _ h).2; omega
  · have hnF : ∀ b, Z b → ¬ F b := fun b hb => (hZ b hb).2.2.2 _ (List.mem_cons_self ..)
    have hng : ∀ b, Z b → b ≠ g2 := fun b hb e => by
      rcases hg2 with e2 | e2
      · exact hnF b hb (by rw [e]; exact e2)
      · have := (hZ b hb).1; omega
    refine Zs.cons (((hZ.sub (fun x hx => List.mem_cons_of_mem _ hx)).chg (Nat.le_refl _) (Chg.of hb2 : Chg (fun _ => False) w W2) (fun _ _ h => h)).chg hwle hcB (fun b hb e => e.elim (hnF b hb) (hng b hb))) (fun b hb e => ?_)
    rcases e with e | e | e
    · exact hnF b hb e
    · exact hZv b hb e
    · exact hng b hb e
end Go.Proofs.YtajkgcmopmpihaaGreatDoor
namespace Go.Proofs.YtajkgcmopmpihaaGreatDoor
open Go.ChangeShapes Go.WideShapes Go.ChangeAt Go.RowKit Go.IntWalk
set_option linter.unusedVariables false
set_option maxRecDepth 100000
def oneF (T : TypeId) (cs : List Value) : Lft := ⟨fun x => ∃ b : Nat, x = .slice (some ⟨b, 0, none⟩) 1 1, fun x w => ∃ b : Nat, x = .slice (some ⟨b, 0, none⟩) 1 1 ∧ Blk w b T cs, fun x w w' ⟨b, h1, h2⟩ hb => ⟨b, h1, h2.later hb⟩⟩
theorem lay_l_no {acc : JT} {fs : List Fr} {v : Jv} {r : List UInt8} (h : (skipB r).head? ≠ some 93) (h2 : (skipB r).head? ≠ some 44) : resume (.l acc :: fs) (.ok (v, r)) = .error 4 := by
  have e : pLn (acc.snoc [] v) (fs.length + 1) r = .error 4 := by
    unfold pLn
    cases hs : skipB r with
    | nil => rfl
    | cons c q =>
      rw [hs] at h h2
      dsimp only
      rw [if_neg (fun e => h (by rw [e]; rfl)), if_neg (fun e => h2 (by rw [e]; rfl))]
  show resume fs (pLn (acc.snoc [] v) (fs.length + 1) r) = _
  rw [e, resume_err]
theorem lay_l_end {acc : JT} {fs : List Fr} {v : Jv} {r q : List UInt8} (h : skipB r = 93 :: q) : resume (.l acc :: fs) (.ok (v, r)) = resume fs (.ok (lstV (acc.snoc [] v), q)) := by
  show resume fs (pLn (acc.snoc [] v) (fs.length + 1) r) = _
  unfold pLn
  rw [h]; rfl
theorem lay_l_go {acc : JT} {fs : List Fr} {v : Jv} {r q : List UInt8} (h : skipB r = 44 :: q) : resume (.l acc :: fs) (.ok (v, r)) = resume (.l (acc.snoc [] v) :: fs) (pV (fs.length + 1) q) := by
  show resume fs (pLn (acc.snoc [] v) (fs.length + 1) r) = _
  unfold pLn
  rw [h]
  exact pL_push _ _ _
set_option maxHeartbeats 4000000 in
theorem lay_list (base : Nat) (Z : Nat → Prop) (w : World) (r : Nat) (s : List UInt8) (at_ : Nat) (U : Value) (acc : JT) (g : Nat) (L : Value) (mb : Nat) (F : Nat → Prop) (fs : List Frm) (Fv : Nat → Prop) (v : Jv) (A B : Option Addr) (nl cl nm cm : Nat)
    (h : Whole9 base w r s at_ U (⟨.l acc, g, L, mb, F⟩ :: fs) Fv v A B nl cl nm cm) (hZ : Zs Z w w (⟨.l acc, g, L, mb, F⟩ :: fs)) (hZv : ∀ b, Z b → ¬ Fv b) :
    Calls Tryz.prog 36 #[.pointer (some ⟨r, 0, none⟩), valC v A B nl cl nm cm] w (StPost base Z w r s at_ (resume (.l acc :: fs.map (·.fr)) (.ok (v, s.drop at_)))) := by
  obtain ⟨h, hv, ho, hx⟩ := h
  have b0 : Below w.heap.size w ((w.alloc (.cells #[.int .i64 v.kd, .bool v.is, .int .i64 v.n, .string ⟨v.s.toArray⟩, .slice A nl cl, .slice B nm cm] 25)).alloc (.cells #[.int .i64 0, .bool false, .int .i64 0, .string ⟨#[]⟩, .slice none 0 0, .slice none 0 0] 25)) := ((Below.refl _ _).alloc (Nat.le_refl _) _).alloc (by simp) _
  have z0 : Blk ((w.alloc (.cells #[.int .i64 v.kd, .bool v.is, .int .i64 v.n, .string ⟨v.s.toArray⟩, .slice A nl cl, .slice B nm cm] 25)).alloc (.cells #[.int .i64 0, .bool false, .int .i64 0, .string ⟨#[]⟩, .slice none 0 0, .slice none 0 0] 25)) w.heap.size 25 [.int .i64 v.kd, .bool v.is, .int .i64 v.n, .string ⟨v.s.toArray⟩, .slice A nl cl, .slice B nm cm] := (Blk.new w [.int .i64 v.kd, .bool v.is, .int .i64 v.n, .string ⟨v.s.toArray⟩, .slice A nl cl, .slice B nm cm] 25).later ((Below.refl _ _).alloc (Nat.le_refl _) _)
  have z1 : Blk ((w.alloc (.cells #[.int .i64 v.kd, .bool v.is, .int .i64 v.n, .string ⟨v.s.toArray⟩, .slice A nl cl, .slice B nm cm] 25)).alloc (.cells #[.int .i64 0, .bool false, .int .i64 0, .string ⟨#[]⟩, .slice none 0 0, .slice none 0 0] 25)) (w.heap.size + 1) 25 [.int .i64 0, .bool false, .int .i64 0, .string ⟨#[]⟩, .slice none 0 0, .slice none 0 0] := by
    have := Blk.new (w.alloc (.cells #[.int .i64 v.kd, .bool v.is, .int .i64 v.n, .string ⟨v.s.toArray⟩, .slice A nl cl, .slice B nm cm] 25)) [.int .i64 0, .bool false, .int .i64 0, .string ⟨#[]⟩, .slice none 0 0, .slice none 0 0] 25
    simpa using this
  have HI := Lib.hid (And.intro (h.later b0) (And.intro b0 (And.intro z0 z1)))
  have HV := Lib.hid (And.intro hv (And.intro ho hx.1))
  have HZ := Lib.hid (And.intro hZ hZv)
  clear hZ hZv
  have H := Lib.hid h
  obtain ⟨ub, cap, hU, hub, _, hubr, hubF⟩ := h.top
  subst hU
  obtain ⟨m, hm⟩ : ∃ m, fs.length = m := ⟨_, rfl⟩
  have hm32 : m ≤ 32 := by have := h.len; simp at this; omega
  have HM := Lib.hid hm
  rw [hm] at HI
  have hwr : IntKind.i64.wrap (m : Int) = (m : Int) := IntWalk.i64_in _ (by omega)
  clear h b0 hub hubr hubF hv ho hx z0 z1 hm
  unfold valC
  go_enter Tryz.func36, Tryz.ntmps36
  go_upto_region 1 with fail
  refine wp_gen (fun W => RSt base W r s at_ (.slice (some ⟨ub, 0, none⟩) (m + 1) cap) (⟨.l acc, g, L, mb, F⟩ :: fs) ∧ Below w.heap.size w W ∧ Blk W w.heap.size 25 [.int .i64 v.kd, .bool v.is, .int .i64 v.n, .string ⟨v.s.toArray⟩, .slice A nl cl, .slice B nm cm] ∧ Blk W (w.heap.size + 1) 25 [.int .i64 0, .bool false, .int .i64 0, .string ⟨#[]⟩, .slice none 0 0, .slice none 0 0]) HI.out ?_
  clear HI
  rintro W0 ⟨g1, g2, g3, g4⟩
  have H0 := Lib.hid (And.intro g1 (And.intro g2 (And.intro g3 g4)))
  obtain ⟨ub2, cap2, hU2, hub, dt, _, _⟩ := g1.top
  injection hU2 with e1 e2 e3
  injection e1 with e1
  injection e1 with e1
  subst e1
  have d2 := g1.blk.cell (k := 2) rfl
  rw [HM.out] at dt
  have dt2 : W0.cell? ⟨ub, m, none⟩ = some (.iface 90 (.pointer (some ⟨g, 0, none⟩))) := dt
  have HL := Lib.hid g1.lt
  have HU := Lib.hid hub
  clear dt g1 g2 g3 g4 e2 e3 hub
  apply wp_region_lk (by kernel_rfl) (by kernel_rfl)
  apply lk_pure _ rfl (by intro W; go_simp; rfl)
  simp only [Act.put, List.setIfInBounds_toArray, List.set_cons_succ, List.set_cons_zero]
  apply lk_pure _ rfl (by intro W; go_simp; rfl)
  simp only [Act.put, List.setIfInBounds_toArray, List.set_cons_succ, List.set_cons_zero]
  apply lk_pure _ rfl (by intro W; go_simp; rfl)
  simp only [Act.put, List.setIfInBounds_toArray, List.set_cons_succ, List.set_cons_zero]
  apply lk_cell (.slice (some ⟨ub, 0, none⟩) (m + 1) cap) (r) (2) d2 HL.out rfl (by intro W hW; go_simp)
  simp only [Act.put, List.setIfInBounds_toArray, List.set_cons_succ, List.set_cons_zero]
  apply lk_pure _ rfl (by intro W; go_simp; rfl)
  simp only [Act.put, List.setIfInBounds_toArray, List.set_cons_succ, List.set_cons_zero]
  apply lk_pure _ rfl (by intro W; go_simp; rfl)
  simp only [Act.put, List.setIfInBounds_toArray, List.set_cons_succ, List.set_cons_zero]
  apply lk_pure _ rfl (by intro W; go_simp; rfl)
  simp only [Act.put, List.setIfInBounds_toArray, List.set_cons_succ, List.set_cons_zero]
  apply lk_cell (.slice (some ⟨ub, 0, none⟩) (m + 1) cap) (r) (2) d2 HL.out rfl (by intro W hW; go_simp)
  simp only [Act.put, List.setIfInBounds_toArray, List.set_cons_succ, List.set_cons_zero]
  apply lk_pure _ rfl (by intro W; go_simp; rfl)
  simp only [Act.put, List.setIfInBounds_toArray, List.set_cons_succ, List.set_cons_zero]
  apply lk_pure _ rfl (by intro W; go_simp; rfl)
  simp only [Act.put, List.setIfInBounds_toArray, List.set_cons_succ, List.set_cons_zero]
  apply lk_pure (.pointer (some ⟨ub, m, none⟩)) rfl (by intro W; go_simp; intro hbad; omega)
  simp only [Act.put, List.setIfInBounds_toArray, List.set_cons_succ, List.set_cons_zero]
  apply lk_cell (.iface 90 (.pointer (some ⟨g, 0, none⟩))) (ub) (m) dt2 HU.out rfl (by intro W hW; go_simp)
  simp only [Act.put, List.setIfInBounds_toArray, List.set_cons_succ, List.set_cons_zero]
  apply lk_pure _ rfl (by intro W; go_simp; rfl)
  simp only [Act.put, List.setIfInBounds_toArray, List.set_cons_succ, List.set_cons_zero]
  refine lk_nil (Fs := []) ?_
  intro W1 hb1 hz
  have H1 := Lib.hid (And.intro (H0.out.1.later hb1) (And.intro (H0.out.2.1.then_ hb1) (And.intro (H0.out.2.2.1.later hb1) (H0.out.2.2.2.later hb1))))
  have hta : (Instr.typeAssert (.iface 90 (.pointer (some ⟨g, 0, none⟩))) 20 90 true).run Tryz.prog W1 = .ok (.tuple #[.pointer (some ⟨g, 0, none⟩), .bool true]) W1 := by first | rfl | (unfold Instr.typeAssert; go_simp; rfl) | (unfold Instr.typeAssert; go_simp; done)
  clear d2 dt2 hz hb1 H0 HL HU hwr
  go_upto_region 4 with fail
  have hin : FIn base W1 ⟨.l acc, g, L, mb, F⟩ := H1.out.1.ins _ (List.mem_cons_self ..)
  obtain ⟨h1f, h2f, h3f, h4f, h5f, P, hrow, hPf⟩ := hin
  obtain ⟨A9, c9, hL, hac, _⟩ := RowP.part (Q := F) hrow rfl (fun b hb => (hPf b hb).1) (fun q hq => (h4f q hq).1)
  have hbl : Blk W1 g 92 [L] := h1f.1
  have hmg : mb = g := h1f.2
  subst hmg
  obtain ⟨n, hn⟩ : ∃ n, acc.ext = n := ⟨_, rfl⟩
  have hL2 : L = .slice A9 n c9 := by rw [← hn]; exact hL
  have HNN := Lib.hid hn
  have HROW := Lib.hid (And.intro (show RowP P 0 false W1 L acc acc.ext from hrow) (And.intro h2f (And.intro (show ∀ b, L.ownBlock = some b → F b ∧ b ≠ mb ∧ b ≠ mb from h4f) (And.intro h5f (show ∀ b, P b → F b ∧ b ≠ mb ∧ b ≠ mb ∧ L.ownBlock ≠ some b from hPf)))))
  have HBL := Lib.hid (And.intro hbl (show n ≤ c9 by rw [← hn]; exact hac))
  have dl := hbl.cell (k := 0) rfl
  rw [hL2] at dl
  have HG := Lib.hid hbl.lt
  have HB1 := Lib.hid H1.out.2.2.1.lt
  have HRB : W1.rangeAt w.heap.size 0 [.int .i64 v.kd, .bool v.is, .int .i64 v.n, .string ⟨v.s.toArray⟩, .slice A nl cl, .slice B nm cm] := fun j v hj => by rw [Nat.zero_add]; exact H1.out.2.2.1.cell hj
  clear h1f h2f h3f h4f h5f hrow hPf hL hac hbl hn hta
  apply wp_region_lw 7 6 #[true, true, true, true, true, true, true, false, false, false, false, false, false] (by kernel_rfl) (by kernel_rfl) (by decide) (by rfl) (by kernel_rfl) (by kernel_rfl) (by kernel_rfl) (by kernel_rfl)
  simp only [List.take_succ_cons, List.take_zero]
  apply lk_pure _ rfl (by intro W; go_simp; rfl)
  simp only [Act.put, List.setIfInBounds_toArray, List.set_cons_succ, List.set_cons_zero]
  apply lk_pure _ rfl (by intro W; go_simp; rfl)
  simp only [Act.put, List.setIfInBounds_toArray, List.set_cons_succ, List.set_cons_zero]
  apply lk_pure _ rfl (by intro W; go_simp; rfl)
  simp only [Act.put, List.setIfInBounds_toArray, List.set_cons_succ, List.set_cons_zero]
  apply lk_cell (.slice A9 n c9) (mb) (0) dl HG.out rfl (by intro W hW; go_simp)
  simp only [Act.put, List.setIfInBounds_toArray, List.set_cons_succ, List.set_cons_zero]
  apply lk_load 25 (.tmp 3) rfl (w.heap.size) (0) _ _ HRB HB1.out Tryz.underlying25 rfl (size_v6) rfl rfl
  simp only [Act.put, List.setIfInBounds_toArray, List.set_cons_succ, List.set_cons_zero]
  apply lk_pure _ rfl (by intro W; go_simp; rfl)
  simp only [Act.put, List.setIfInBounds_toArray, List.set_cons_succ, List.set_cons_zero]
  apply lk_step (F := oneF 25 [.int .i64 0, .bool false, .int .i64 0, .string ⟨#[]⟩, .slice none 0 0, .slice none 0 0]) rfl ⟨⟨_, 0, rfl⟩, fun W hW => by unfold lkAt; go_simp; exact ⟨⟨_, rfl⟩, ⟨_, rfl, Blk.new _ _ _⟩, (Below.refl _ _).alloc (Nat.le_refl _) _⟩⟩
  rintro _ ⟨b6, rfl⟩
  simp only [Act.put, List.setIfInBounds_toArray, List.set_cons_succ, List.set_cons_zero]
  refine lk_nil (Fs := []) ?_
  intro W2 hb2 hz
  obtain ⟨b7, e7, hB7⟩ := hz.2
  injection e7 with e7
  injection e7 with e7
  injection e7 with e7
  subst e7
  have hrow2 : RowP P 0 false W2 L (acc.snoc [] nullJ) acc.ext := (HROW.out.1.stay (fun q hq => hb2.block q (HROW.out.2.2.2.1 q (HROW.out.2.2.1 q hq).1).2) (fun b o hp => hb2.cell (p := ⟨b, o, none⟩) (HROW.out.2.2.2.1 b (HROW.out.2.2.2.2 b hp).1).2) (fun _ h => h)).like (fun i hi => snoc_lt acc [] nullJ i hi)
  have hP2 : ∀ b, P b → b < W2.heap.size ∧ L.ownBlock ≠ some b := fun b hb => ⟨Nat.lt_of_lt_of_le (HROW.out.2.2.2.1 b (HROW.out.2.2.2.2 b hb).1).2 hb2.size, (HROW.out.2.2.2.2 b hb).2.2.2⟩
  have hk2 : acc.ext ≤ 1000000 := by have h1 := H.out.sub _ (List.mem_cons_self ..); have h2 := H.out.hat; have h3 := H.out.hs; have h4 : acc.ext ≤ at_ := h1; omega
  have hs2 := snoc_at acc [] nullJ
  have H2 := Lib.hid (And.intro (H1.out.1.later hb2) (And.intro (H1.out.2.1.then_ hb2) (And.intro (H1.out.2.2.1.later hb2) (And.intro (H1.out.2.2.2.later hb2) (And.intro (HBL.out.1.later hb2) hb2)))))
  clear dl HRB hz
  refine wa_op 7 (by kernel_rfl) rfl rfl ?_
  refine wp_append_rowP false (.tmp 31) (.tmp 34) rfl P 0 L (acc.snoc [] nullJ) acc.ext (by rw [hL2]; rfl) hrow2 hk2 hP2 (Nat.zero_le _) b6 [.int .i64 0, .bool false, .int .i64 0, .string ⟨#[]⟩, .slice none 0 0, .slice none 0 0] (by rw [hs2.1]; rfl) rfl hB7 (by rw [hs2.2]; exact null_jcs _ _) ?_
  intro g2 c2 W3 hrow3 hgr3 hg3
  simp only [Act.put, List.setIfInBounds_toArray, List.set_cons_succ, List.set_cons_zero]
  rw [HNN.out]
  refine wa_pure 8 (.pointer (some ⟨g2, n * 6, none⟩)) rfl (by kernel_rfl) (by kernel_rfl) (by kernel_rfl) (fun _ _ _ h => h) rfl (by intro W; go_simp; intro hbad; omega) ?_
  simp only [Act.put, List.setIfInBounds_toArray, List.set_cons_succ, List.set_cons_zero]
  refine wa_pure 10 (.pointer (some ⟨mb, 0, none⟩)) rfl (by kernel_rfl) (by kernel_rfl) (by kernel_rfl) (fun _ _ _ h => h) rfl (by intro W; go_simp; done) ?_
  simp only [Act.put, List.setIfInBounds_toArray, List.set_cons_succ, List.set_cons_zero]
  refine wa_pure 11 (.pointer (some ⟨mb, 0, none⟩)) rfl (by kernel_rfl) (by kernel_rfl) (by kernel_rfl) (fun _ _ _ h => h) rfl (by intro W; go_simp; done) ?_
  simp only [Act.put, List.setIfInBounds_toArray, List.set_cons_succ, List.set_cons_zero]
  have hth3 : W3.there g2 (n * 6) 6 := by have := hrow3.there; rw [HNN.out] at this; exact this
  have hbl3 : Blk W3 mb 92 [L] := (hg3.block mb H2.out.2.2.2.2.1.lt (fun e => (HROW.out.2.2.1 mb e.symm).2.1 rfl)).trans H2.out.2.2.2.2.1
  have hgm : g2 ≠ mb := by
    rcases hgr3 with e | e
    · exact (HROW.out.2.2.1 g2 e).2.1
    · have := H2.out.2.2.2.2.1.lt; omega
  have hblA : Blk (W3.setCells g2 (n * 6) [.int .i64 v.kd, .bool v.is, .int .i64 v.n, .string ⟨v.s.toArray⟩, .slice A nl cl, .slice B nm cm]) mb 92 [L] := (setCells_chg (g := g2) [.int .i64 v.kd, .bool v.is, .int .i64 v.n, .string ⟨v.s.toArray⟩, .slice A nl cl, .slice B nm cm] (n * 6) W3).blk hbl3 (fun e => hgm e.symm)
  have hthB : (W3.setCell ⟨mb, 0, none⟩ (.slice (some ⟨g2, 0, none⟩) (n + 1) c2)).there g2 (n * 6) 6 := World.there_setCells hth3 mb 0 [.slice (some ⟨g2, 0, none⟩) (n + 1) c2]
  have k1 := hbl3.cell (k := 0) rfl
  have k2 := hbl3.frozen 0
  have hrun : ∀ WA : World, WA.cell? ⟨mb, 0, none⟩ = some L → WA.frozen? ⟨mb, 0, none⟩ = false → (Instr.storeAt 22 (.pointer (some ⟨mb, 0, none⟩)) (.slice (some ⟨g2, 0, none⟩) (n + 1) c2)).run Tryz.prog WA = .ok () (WA.setCell ⟨mb, 0, none⟩ (.slice (some ⟨g2, 0, none⟩) (n + 1) c2)) := fun WA k1 k2 => by go_simp
  have hall : (#[.int .i64 v.kd, .bool v.is, .int .i64 v.n, .string ⟨v.s.toArray⟩, .slice A nl cl, .slice B nm cm] : Array Value).all (·.oneCell') = true := by simp [Value.oneCell']
  have hrunA : (Instr.storeAt 22 (.pointer (some ⟨mb, 0, none⟩)) (.slice (some ⟨g2, 0, none⟩) (n + 1) c2)).run Tryz.prog (W3.setCells g2 (n * 6) [.int .i64 v.kd, .bool v.is, .int .i64 v.n, .string ⟨v.s.toArray⟩, .slice A nl cl, .slice B nm cm]) = .ok () ((W3.setCell ⟨mb, 0, none⟩ (.slice (some ⟨g2, 0, none⟩) (n + 1) c2)).setCells g2 (n * 6) [.int .i64 v.kd, .bool v.is, .int .i64 v.n, .string ⟨v.s.toArray⟩, .slice A nl cl, .slice B nm cm]) := (hrun _ (hblA.cell (k := 0) rfl) (hblA.frozen 0)).trans (congrArg (Result.ok ()) (setCells_comm hgm _ [.int .i64 v.kd, .bool v.is, .int .i64 v.n, .string ⟨v.s.toArray⟩, .slice A nl cl, .slice B nm cm] (n * 6) W3))
  refine wa_two_st (W3.setCells g2 (n * 6) [.int .i64 v.kd, .bool v.is, .int .i64 v.n, .string ⟨v.s.toArray⟩, .slice A nl cl, .slice B nm cm]) (W3.setCell ⟨mb, 0, none⟩ (.slice (some ⟨g2, 0, none⟩) (n + 1) c2)) ((W3.setCell ⟨mb, 0, none⟩ (.slice (some ⟨g2, 0, none⟩) (n + 1) c2)).setCells g2 (n * 6) [.int .i64 v.kd, .bool v.is, .int .i64 v.n, .string ⟨v.s.toArray⟩, .slice A nl cl, .slice B nm cm]) 9 12 (by kernel_rfl) rfl rfl rfl rfl rfl rfl (by kernel_rfl) (by kernel_rfl) (by kernel_rfl) (by kernel_rfl) ?_ ?_ ?_ ?_ ?_
  · exact exec_store_mid _ (.tmp 36) (.tmp 32) rfl g2 (n * 6) #[.int .i64 v.kd, .bool v.is, .int .i64 v.n, .string ⟨v.s.toArray⟩, .slice A nl cl, .slice B nm cm] rfl rfl hth3 size_v6 hall
  · exact exec_store_one _ (.tmp 38) (.tmp 35) rfl _ _ rfl rfl hrunA
  · exact exec_store_one _ (.tmp 38) (.tmp 35) rfl _ _ rfl rfl (hrun _ k1 k2)
  · exact exec_store_mid _ (.tmp 36) (.tmp 32) rfl g2 (n * 6) #[.int .i64 v.kd, .bool v.is, .int .i64 v.n, .string ⟨v.s.toArray⟩, .slice A nl cl, .slice B nm cm] rfl rfl hthB size_v6 hall
  have hLAY := lay_mid (acc := acc) (fr0 := .l acc) (fr1 := .l (acc.snoc [] v)) (mem := false) (key := []) rfl rfl rfl rfl rfl (by have := H.out; rw [HM.out] at this; exact this) HV.out.1 (by have := HV.out.2.1; rw [HM.out] at this; exact this) HV.out.2.2 H2.out.1 H2.out.2.1 H2.out.2.2.2.1 HZ.out.1 HZ.out.2 HROW.out.2.2.2.2 rfl hrow3 hgr3 hg3 (fun W4 e1 e2 => ⟨e1.trans (hbl3.set_ 0 _), rfl⟩)
  rw [HNN.out] at hLAY
  have HS4 : LaySt base Z w r s at_ (.slice (some ⟨ub, 0, none⟩) (m + 1) cap) ⟨.l (acc.snoc [] v), mb, .slice (some ⟨g2, 0, none⟩) (n + 1) c2, mb, fun b => F b ∨ Fv b ∨ b = g2⟩ fs (w.heap.size + 1) ((W3.setCell ⟨mb, 0, none⟩ (.slice (some ⟨g2, 0, none⟩) (n + 1) c2)).setCells g2 (n * 6) [.int .i64 v.kd, .bool v.is, .int .i64 v.n, .string ⟨v.s.toArray⟩, .slice A nl cl, .slice B nm cm]) := hLAY
  clear hLAY hthB hrunA hrun hall k1 k2 hblA hgm hbl3 hth3 hrow3 hgr3 hg3 H2 hs2 hk2 hP2 hrow2 hB7
  generalize (W3.setCell ⟨mb, 0, none⟩ (.slice (some ⟨g2, 0, none⟩) (n + 1) c2)).setCells g2 (n * 6) [.int .i64 v.kd, .bool v.is, .int .i64 v.n, .string ⟨v.s.toArray⟩, .slice A nl cl, .slice B nm cm] = W4 at HS4 ⊢
  have H4 := Lib.hid HS4
  clear HS4
  go_wp2_with fail
  refine (pass_calls base _ r s at_ 44 _ _ H4.out.st).mono ?_
  rintro e W5 ⟨b, k, rfl, p1, p2, p3, p4, p5⟩
  have H5 := Lib.hid (And.intro (H4.out.next p2 p1 p3) (And.intro p3 (And.intro p4 p5)))
  clear p1 p2 p3 p4 p5 H4
  cases b with
  | true =>
    obtain ⟨z0, z1, z2, z3, z4, z5, y0, y1, y2, y3, y4, y5⟩ := cells6s H5.out.1.res
    go_wp2_with fail
    have HP := H5.out.2.2.1 (by first | rfl | trivial)
    exact bodyPost_ret (res_cell62 (p := 4) (q := 5) rfl _ ⟨w.heap.size + 1, 0, none⟩ _ _ _ rfl rfl (Blk.load (blk6 H5.out.1.res) _ Tryz.underlying25 rfl size_v6)) rfl (StPost.no H5.out.1.below H5.out.1.st H5.out.1.res H5.out.1.bq H5.out.1.away H5.out.1.qn H5.out.1.zs HP.2 (by have := lay_l_go (acc := acc) (fs := fs.map (·.fr)) (v := v) HP.1; rw [List.length_map] at this; exact this))
  | false =>
    go_wp2_with fail
    refine (must_calls base _ r s k 93 _ _ H5.out.1.st).mono ?_
    rintro e W6 ⟨c6, ⟨at2, rfl, m1, m2, m3⟩ | ⟨rfl, m1⟩⟩
    · have HN := H5.out.2.2.2 (by first | rfl | trivial)
      rw [HN.1, skip_skip] at m2
      have H6 := Lib.hid (And.intro (H5.out.1.next c6 m1 (Nat.le_of_lt m3)) (And.intro m2 (Nat.lt_of_le_of_lt H5.out.2.1 m3)))
      clear c6 m1 m2 m3 HN H5
      go_wp2_with fail
      refine (close_list base _ r s at2 _ _ _ _ _ _ _ H6.out.1.st).mono ?_
      rintro e W7 ⟨c7, A7, nl7, cl7, B7, nm7, cm7, U7, rfl, v7, r7, u7, x7⟩
      have hb7 : Blk W7 (w.heap.size + 1) 25 [.int .i64 0, .bool false, .int .i64 0, .string ⟨#[]⟩, .slice none 0 0, .slice none 0 0] := c7.blk H6.out.1.res (fun e => by
        rcases e with e | e
        · exact (H6.out.1.st.une H6.out.1.res).1 e.symm
        · exact H6.out.1.away _ (List.mem_cons_self ..) e)
      have hB7 : Below base w W7 := c7.below H6.out.1.below (Nat.le_trans H6.out.1.st.hr (Nat.le_of_lt H6.out.1.st.lt)) (fun b _ e => by
        rcases e with e | e
        · rw [e]; exact H6.out.1.st.hr
        · exact ((H6.out.1.st.ins _ (List.mem_cons_self ..)).2.2.2.2.1 b e).1)
      have H7 := Lib.hid (And.intro hb7 (And.intro hB7 (And.intro (show Whole9 base W7 r s at2 U7 fs _ (lstV (acc.snoc [] v)) A7 B7 nl7 cl7 nm7 cm7 from ⟨r7, v7, H6.out.1.own (hc := c7) r7 u7, H6.out.1.low, x7⟩) ((H6.out.1.zsC c7).sub (fun x hx => List.mem_cons_of_mem _ hx)))))
      obtain ⟨z0, z1, z2, z3, z4, z5, y0, y1, y2, y3, y4, y5⟩ := cells6s hb7
      clear c7 v7 r7 u7 x7 hb7 hB7
      go_wp2_with fail
      exact bodyPost_ret (res_cell62 (p := 4) (q := 5) rfl _ ⟨w.heap.size + 1, 0, none⟩ _ _ _ rfl rfl (Blk.load (blk6 H7.out.1) _ Tryz.underlying25 rfl size_v6)) rfl (StPost.yes H7.out.2.1 H7.out.2.2.1 H7.out.1 H6.out.1.bq (fun x hx => H6.out.1.away x (List.mem_cons_of_mem _ hx)) (H6.out.1.away _ (List.mem_cons_self ..)) H6.out.1.qn H7.out.2.2.2 H6.out.1.zf H6.out.2.2 (lay_l_end H6.out.2.1))
    · have HN := H5.out.2.2.2 (by first | rfl | trivial)
      rw [HN.1, skip_skip] at m1
      have hB6 : Below base w W6 := c6.below H5.out.1.below (Nat.le_trans H5.out.1.st.hr (Nat.le_of_lt H5.out.1.st.lt)) (fun b _ e => by rw [e]; exact H5.out.1.st.hr)
      have H6 := Lib.hid (And.intro hB6 (lay_l_no (acc := acc) (fs := fs.map (·.fr)) (v := v) m1 (by have := HN.2; rw [HN.1] at this; exact this)))
      clear c6 m1 HN hB6
      go_wp2_with fail
      exact ⟨rfl, StPost.bad H6.out.1 H6.out.2⟩
end Go.Proofs.YtajkgcmopmpihaaGreatDoor
