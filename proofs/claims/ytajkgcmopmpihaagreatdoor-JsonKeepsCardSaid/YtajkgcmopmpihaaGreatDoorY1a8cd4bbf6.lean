/- Texts put together: JpQ Cb JpS JpT JpU JpW. -/
import Derived.Test.YtajkgcmopmpihaaGreatDoorY7bdaacbea7
import Derived.Test.YtajkgcmopmpihaaGreatDoorYd7ba4700c6
import Derived.WalkKit
import Derived.Lib.Bytealg
import Derived.Shelf.SlSortCmp.WholeK
namespace Go.Proofs.YtajkgcmopmpihaaGreatDoor
open Go.ChangeShapes Go.WideShapes Go.ChangeAt Go.RowKit Go.IntWalk
set_option linter.unusedVariables false
set_option maxRecDepth 100000
section
variable {base : Nat} {w w' : World} {r : Nat} {s : List UInt8} {at_ : Nat} {U : Value} {f f' : Frm} {fs : List Frm}
theorem RSt.top (h : RSt base w r s at_ U (f :: fs)) : ∃ ub cap, U = .slice (some ⟨ub, 0, none⟩) (fs.length + 1) cap ∧ ub < w.heap.size ∧ w.cell? ⟨ub, fs.length, none⟩ = some f.ptr ∧ ub ≠ r ∧ ¬ f.F ub := by
  have ho := h.own
  unfold OwnVs at ho
  obtain ⟨g, cap, hv, hb, hg⟩ := World.ownsRow.form ho (by simp)
  have hlen : ((f :: fs).reverse.map Frm.ptr).length = fs.length + 1 := by simp
  rw [hlen] at hv
  refine ⟨g, cap, hv, hg, ?_, h.ur g (by rw [hv]; rfl), (h.away f (List.mem_cons_self ..)).2 g (by rw [hv]; rfl)⟩
  rcases ho.2 with ⟨h0, _⟩ | ⟨g2, cap2, cur, hv2, hb2, hh, q⟩
  · rw [hv] at h0; cases h0
  · have hgg : g = g2 := by rw [hv] at hv2; injection hv2 with e1 e2 e3; injection e1 with e1; injection e1 with e1
    subst hgg
    rw [hlen, Nat.mul_one] at q
    have h5 : cur.toList[fs.length]? = some f.ptr := by
      have h6 : (cur.toList.take (fs.length + 1))[fs.length]? = ((f :: fs).reverse.map Frm.ptr)[fs.length]? := by
        have h7 := q.2.2.2
        rw [Nat.mul_one] at h7
        rw [h7]
      rw [List.getElem?_take_of_lt (Nat.lt_succ_self _)] at h6
      rw [h6]
      simp [List.reverse_cons, List.map_append]
    have hB : Blk w g 20 cur.toList := by unfold Blk; exact hh
    exact hB.cell h5
theorem RSt.inTop (h : RSt base w r s at_ U (f :: fs)) {C : Nat → Prop} (hc : Chg C w w') (hC : ∀ b, b < w.heap.size → C b → f.F b) (hF : f'.F = f.F) (hp : f'.ptr = f.ptr) (hin : FIn base w' f') (hx : f'.fr.acc.ext ≤ at_) : RSt base w' r s at_ U (f' :: fs) := by
  have hf := h.ins f (List.mem_cons_self ..)
  have ha := h.away f (List.mem_cons_self ..)
  have hap := List.pairwise_cons.1 h.apart
  have hcF : Chg f.F w w' := hc.mono hC
  refine ⟨hcF.blk h.blk ha.1, ?_, h.ur, ?_, ?_, ?_, h.hr, by have := h.len; simpa using this, h.hat, h.hs, ?_⟩
  · have ho := h.own
    rw [show (f' :: fs).reverse.map Frm.ptr = (f :: fs).reverse.map Frm.ptr by simp [hp]]
    refine ⟨ho.1, ?_⟩
    rcases ho.2 with h3 | ⟨q, cap, cur, hv, hb2, hh, rest⟩
    · exact .inl h3
    · exact .inr ⟨q, cap, cur, hv, hb2, by rw [hcF.block q ((Array.getElem?_eq_some_iff.1 hh).1) (ha.2 q (by rw [hv]; rfl))]; exact hh, rest⟩
  · intro x hx
    rcases List.mem_cons.1 hx with rfl | hx
    · rw [hF]; exact ha
    · exact h.away x (List.mem_cons_of_mem _ hx)
  · intro x hx
    rcases List.mem_cons.1 hx with rfl | hx
    · exact hin
    · exact (h.ins x (List.mem_cons_of_mem _ hx)).chg hcF (fun b hb hfb => hap.1 x hx b hfb hb)
  · exact List.pairwise_cons.2 ⟨fun x hx b hb => hap.1 x hx b (by rw [← hF]; exact hb), hap.2⟩
  · intro x hxm
    rcases List.mem_cons.1 hxm with rfl | hxm
    · exact hx
    · exact h.sub x (List.mem_cons_of_mem _ hxm)
end
theorem FIn.refr {base : Nat} {w w' : World} {fr fr' : Fr} {g mb : Nat} {L : Value} {F : Nat → Prop} (h : FIn base w ⟨fr, g, L, mb, F⟩) (hc : Chg (fun b => b = g ∨ b = mb) w w') (hacc : fr'.acc = fr.acc) (hmem : fr'.mem = fr.mem) (hbox : Frm.box ⟨fr', g, L, mb, F⟩ w') : FIn base w' ⟨fr', g, L, mb, F⟩ := by
  obtain ⟨h1, h2, h3, h4, h5, P, h6, h7⟩ := h
  refine ⟨hbox, h2, h3, h4, fun b hb => ⟨(h5 b hb).1, Nat.lt_of_lt_of_le (h5 b hb).2 hc.size⟩, P, ?_, h7⟩
  show RowP P 0 fr'.mem w' L fr'.acc fr'.acc.ext
  rw [hacc, hmem]
  exact h6.stay (fun q hq => hc.block q (h5 q (h4 q hq).1).2 (fun e => by
      rcases e with e | e
      · exact (h4 q hq).2.1 e
      · exact (h4 q hq).2.2 e)) (fun b o hp => hc.cell (h5 b (h7 b hp).1).2 (fun e => by
      rcases e with e | e
      · exact (h7 b hp).2.1 e
      · exact (h7 b hp).2.2.1 e)) (fun _ h => h)
theorem ite_le9 {c : Prop} [Decidable c] (n : Nat) : (if c then n else n + 1) ≤ n + 1 := by split <;> omega
theorem SeenIs.upd {w : World} {b n N : Nat} {acc : JT} {k : List UInt8} (h : Mp Tryz.prog 9 w b (mUpd (fun s => if acc.hasK s = true then some (Value.agg #[]) else none) k (.agg #[])) n) (hn : n ≤ N) : SeenIs w b (fun x => acc.hasK x || k == x) N := by
  refine ⟨n, hn, ?_⟩
  have e : (fun s => if (acc.hasK s || k == s) = true then some (Value.agg #[]) else none) = mUpd (fun s => if acc.hasK s = true then some (Value.agg #[]) else none) k (Value.agg #[]) := funext fun x => by
    unfold mUpd
    by_cases hx : x = k
    · subst hx; simp
    · have hx2 : (k == x) = false := beq_eq_false_iff_ne.2 (fun e => hx e.symm)
      simp [hx, hx2]
  show Mp Tryz.prog 9 w b (fun s => if (acc.hasK s || k == s) = true then some (Value.agg #[]) else none) n
  rw [e]; exact h
theorem key_quo (acc : JT) (r : List UInt8) : keyF acc r = match quoF (skipB r) with | none => .error 4 | some p => if acc.hasK p.1 then .error 6 else match skipB p.2 with | [] => .error 4 | d :: q2 => if d = 58 then .ok (p.1, q2) else .error 4 := by
  unfold keyF quoF
  cases skipB r with
  | nil => rfl
  | cons c q =>
    dsimp only
    by_cases hc : c = 34
    · rw [if_pos hc, if_pos hc]
      cases scan q with
      | none => rfl
      | some p => rfl
    · rw [if_neg hc, if_neg hc]
theorem key_no {acc : JT} {r : List UInt8} (h : quoF (skipB r) = none) : keyF acc r = .error 4 := by rw [key_quo, h]
def allF : Lft := ⟨fun v => ∃ b : Nat, v = .pointer (some ⟨b, 0, none⟩), fun _ _ => True, fun _ _ _ _ _ => trivial⟩
def KyPost (base : Nat) (w : World) (r : Nat) (s : List UInt8) (at_ : Nat) (U : Value) (acc : JT) (g : Nat) (L : Value) (mb : Nat) (F : Nat → Prop) (fs : List Frm) (e : Ending) (w' : World) : Prop :=
  Chg (fun b => b = r ∨ F b) w w' ∧ ((∃ c, keyF acc (s.drop at_) = .error c ∧ e = .panicked (flt c)) ∨
    ∃ k at', keyF acc (s.drop at_) = .ok (k, s.drop at') ∧ e = .returned (.tuple #[]) ∧ at_ < at' ∧ k.length ≤ 300000 ∧ RSt base w' r s at' U (⟨.t acc k, g, L, mb, F⟩ :: fs))
set_option maxHeartbeats 4000000 in
theorem key_calls (base : Nat) (w : World) (r : Nat) (s : List UInt8) (at_ : Nat) (U : Value) (acc : JT) (g : Nat) (L : Value) (mb : Nat) (F : Nat → Prop) (fs : List Frm) (h : RSt base w r s at_ U (⟨.k acc, g, L, mb, F⟩ :: fs)) :
    Calls Tryz.prog 59 #[.pointer (some ⟨r, 0, none⟩)] w (KyPost base w r s at_ U acc g L mb F fs) := by
  have H := Lib.hid h
  obtain ⟨ub, cap, hU, hub, dt, hne, hnf⟩ := h.top
  subst hU
  obtain ⟨m, hm⟩ : ∃ m, fs.length = m := ⟨_, rfl⟩
  have hm32 : m ≤ 32 := by have := h.len; simp at this; omega
  have d2 := h.blk.cell (k := 2) rfl
  rw [hm] at dt d2
  have HM := Lib.hid hm
  have dt2 : w.cell? ⟨ub, m, none⟩ = some (.iface 94 (.pointer (some ⟨g, 0, none⟩))) := dt
  have HL := Lib.hid h.lt
  have HU := Lib.hid hub
  rw [hm] at H
  rw [hm]
  clear h hub dt hne hnf hm
  have hwr : IntKind.i64.wrap (m : Int) = (m : Int) := IntWalk.i64_in _ (by omega)
  go_enter Tryz.func59, Tryz.ntmps59
  go_upto_region 0 with fail
  apply wp_region_lk (by kernel_rfl) (by kernel_rfl)
  apply lk_pure _ rfl (by intro W; go_simp; rfl)
  simp only [Act.put, List.setIfInBounds_toArray, List.set_cons_succ, List.set_cons_zero]
  apply lk_pure _ rfl (by intro W; go_simp; rfl)
  simp only [Act.put, List.setIfInBounds_toArray, List.set_cons_succ, List.set_cons_zero]
  apply lk_pure _ rfl (by intro W; go_simp; rfl)
  simp only [Act.put, List.setIfInBounds_toArray, List.set_cons_succ, List.set_cons_zero]
  apply lk_cell (.slice (some ⟨ub, 0, none⟩) (m + 1) cap) (r) (2) d2 HL.out rfl (by intro W hW; go_simp)
  simp only [Act.put, List.setIfInBounds_toArray, List.set_cons_succ, List.set_cons_zero]
  apply lk_pure _ rfl (by intro W; go_simp; rfl)
  simp only [Act.put, List.setIfInBounds_toArray, List.set_cons_succ, List.set_cons_zero]
  apply lk_pure _ rfl (by intro W; go_simp; rfl)
  simp only [Act.put, List.setIfInBounds_toArray, List.set_cons_succ, List.set_cons_zero]
  apply lk_pure _ rfl (by intro W; go_simp; rfl)
  simp only [Act.put, List.setIfInBounds_toArray, List.set_cons_succ, List.set_cons_zero]
  apply lk_cell (.slice (some ⟨ub, 0, none⟩) (m + 1) cap) (r) (2) d2 HL.out rfl (by intro W hW; go_simp)
  simp only [Act.put, List.setIfInBounds_toArray, List.set_cons_succ, List.set_cons_zero]
  apply lk_pure _ rfl (by intro W; go_simp; rfl)
  simp only [Act.put, List.setIfInBounds_toArray, List.set_cons_succ, List.set_cons_zero]
  apply lk_pure _ rfl (by intro W; go_simp; rfl)
  simp only [Act.put, List.setIfInBounds_toArray, List.set_cons_succ, List.set_cons_zero]
  apply lk_pure (.pointer (some ⟨ub, m, none⟩)) rfl (by intro W; go_simp; intro hbad; omega)
  simp only [Act.put, List.setIfInBounds_toArray, List.set_cons_succ, List.set_cons_zero]
  apply lk_cell (.iface 94 (.pointer (some ⟨g, 0, none⟩))) (ub) (m) dt2 HU.out rfl (by intro W hW; go_simp)
  simp only [Act.put, List.setIfInBounds_toArray, List.set_cons_succ, List.set_cons_zero]
  apply lk_pure _ rfl (by intro W; go_simp; rfl)
  simp only [Act.put, List.setIfInBounds_toArray, List.set_cons_succ, List.set_cons_zero]
  apply lk_pure _ rfl (by intro W; go_simp; rfl)
  simp only [Act.put, List.setIfInBounds_toArray, List.set_cons_succ, List.set_cons_zero]
  refine lk_nil (Fs := []) ?_
  intro w1 hb1 hz
  have H1 := Lib.hid (And.intro (H.out.later hb1) (Chg.of hb1 : Chg (fun b => b = r ∨ F b) w w1))
  clear d2 dt2 hz hb1 hwr
  go_wp2_with fail
  refine (next_calls base _ r s at_ _ _ H1.out.1).mono ?_
  rintro e w2 ⟨k1, rfl, n1, n2, n3, n4⟩
  have H2 := Lib.hid (And.intro n1 (And.intro n2 (And.intro n3 (H1.out.2.then_ (n4.mono (fun b _ e => .inl e))))))
  clear n1 n2 n3 n4 H1
  go_wp2_with fail
  refine (quoted_calls base _ r s k1 _ _ H2.out.2.2.1).mono ?_
  rintro e w3 ⟨c3, ⟨hq, rfl⟩ | ⟨k, at', rfl, hq, q2, q3, q4⟩⟩
  · have H3 := Lib.hid (And.intro (H2.out.2.2.2.then_ (c3.mono (fun b _ e => .inl e))) hq)
    go_wp2_with fail
    exact ⟨rfl, H3.out.1, .inl ⟨4, key_no (by rw [← H2.out.1]; exact H3.out.2), rfl⟩⟩
  · have H3 := Lib.hid (And.intro (H2.out.2.2.2.then_ (c3.mono (fun b _ e => .inl e))) (And.intro hq (And.intro q2 (And.intro q3 q4))))
    have hf := q4.ins _ (List.mem_cons_self ..)
    have hk6 : k.length ≤ 300000 := q3
    obtain ⟨⟨key0, hbk⟩, hseen, hmg, hap⟩ : (∃ key : List UInt8, Blk w3 g 97 [L, .map (some mb), .string ⟨key.toArray⟩]) ∧ SeenIs w3 mb (fun x => acc.hasK x) acc.ext ∧ mb ≠ g ∧ acc.apart := hf.1
    have HAP := Lib.hid hap
    have f2 := hbk.frozen 2
    have hb4 := hbk.set_ 2 (.string ⟨k.toArray⟩)
    have hc4 : Chg (fun b => b = g ∨ b = mb) w3 (w3.setCell ⟨g, 2, none⟩ (.string ⟨k.toArray⟩)) := Chg.set1 (.inl rfl) _ _
    have hs4 : SeenIs (w3.setCell ⟨g, 2, none⟩ (.string ⟨k.toArray⟩)) mb (fun x => acc.hasK x) acc.ext := hseen.stay (Deep.blk_setCell_other _ _ _ _ hmg)
    have hf4 : FIn base (w3.setCell ⟨g, 2, none⟩ (.string ⟨k.toArray⟩)) ⟨.k acc, g, L, mb, F⟩ := hf.refr hc4 rfl rfl ⟨⟨k, hb4⟩, hs4, hmg, hap⟩
    have hr4 : RSt base (w3.setCell ⟨g, 2, none⟩ (.string ⟨k.toArray⟩)) r s at' (.slice (some ⟨ub, 0, none⟩) (m + 1) cap) (⟨.k acc, g, L, mb, F⟩ :: fs) := q4.inTop hc4 (fun b _ e => by
      rcases e with e | e
      · rw [e]; exact hf.2.1
      · rw [e]; exact hf.2.2.1) rfl rfl hf4 (q4.sub _ (List.mem_cons_self ..))
    have H4 := Lib.hid (And.intro hr4 (And.intro ((H3.out.1.then_ (Chg.set1 (C := fun b => b = r ∨ F b) (g := g) (k := 2) (.inr hf.2.1) (.string ⟨k.toArray⟩) w3))) (And.intro hb4 (And.intro hs4 (And.intro hmg hf4)))))
    have HQ := Lib.hid (And.intro (show quoF (skipB (s.drop at_)) = some (k, s.drop at') by rw [← H2.out.1]; exact hq) (show at_ < at' from Nat.lt_of_le_of_lt H2.out.2.1 q2))
    have c1 := hbk.cell (k := 1) rfl
    have c2 := hbk.cell (k := 2) rfl
    clear hq q2 q3 q4 c3 hap hf hseen hmg hc4 hs4 hf4 hr4 hb4 H3 hbk
    go_upto_region 3 with fail
    refine wp_gen (fun W => RSt base W r s at' (.slice (some ⟨ub, 0, none⟩) (m + 1) cap) (⟨.k acc, g, L, mb, F⟩ :: fs) ∧ Chg (fun b => b = r ∨ F b) w W ∧ Blk W g 97 [L, .map (some mb), .string ⟨k.toArray⟩] ∧ SeenIs W mb (fun x => acc.hasK x) acc.ext ∧ mb ≠ g ∧ FIn base W ⟨.k acc, g, L, mb, F⟩) H4.out ?_
    clear c1 c2 f2 H4 H2
    rintro w4 ⟨g1, g2, g3, g4, g5, g6⟩
    have H5 := Lib.hid (And.intro g1 (And.intro g2 (And.intro g3 (And.intro g4 (And.intro g5 g6)))))
    have c1 := g3.cell (k := 1) rfl
    have c2 := g3.cell (k := 2) rfl
    have HG := Lib.hid g3.lt
    obtain ⟨nn, hnn, hmp⟩ := g4
    have HLK := Lib.hid (fun (W : World) (hW : Below w4.heap.size w4 W) => (hmp.later hW).look_ok (t := 95) (e := 119) (z := .agg #[]) rfl rfl rfl (s := k) (by simp [maxLen]; omega))
    obtain ⟨q, hq⟩ : ∃ q, acc.hasK k = q := ⟨_, rfl⟩
    have HQK := Lib.hid hq
    have HMP := Lib.hid (And.intro hmp (show nn ≤ 65536 by have h1 := g1.sub _ (List.mem_cons_self ..); have h2 := g1.hat; have h3 := g1.hs; have h4 : acc.ext ≤ at' := h1; omega))
    clear g1 g2 g3 g5 g6 hmp
    apply wp_region_lo [0, 1, 2, 3, 4, 5, 6, 7, 8, 9, 10, 12, 13, 11, 14] (by kernel_rfl) (by decide) (by rfl) (by kernel_rfl) (by kernel_rfl)
    case hl =>
      simp only [List.map_cons, List.map_nil, List.getElem?_cons_zero, List.getElem?_cons_succ]
      repeat apply maps_cons
      exact maps_nil
    apply lk_pure _ rfl (by intro W; go_simp; rfl)
    simp only [Act.put, List.setIfInBounds_toArray, List.set_cons_succ, List.set_cons_zero]
    apply lk_pure _ rfl (by intro W; go_simp; rfl)
    simp only [Act.put, List.setIfInBounds_toArray, List.set_cons_succ, List.set_cons_zero]
    apply lk_pure _ rfl (by intro W; go_simp; rfl)
    simp only [Act.put, List.setIfInBounds_toArray, List.set_cons_succ, List.set_cons_zero]
    apply lk_cell (.map (some mb)) (g) (1) c1 HG.out rfl (by intro W hW; go_simp)
    simp only [Act.put, List.setIfInBounds_toArray, List.set_cons_succ, List.set_cons_zero]
    apply lk_pure _ rfl (by intro W; go_simp; rfl)
    simp only [Act.put, List.setIfInBounds_toArray, List.set_cons_succ, List.set_cons_zero]
    apply lk_pure _ rfl (by intro W; go_simp; rfl)
    simp only [Act.put, List.setIfInBounds_toArray, List.set_cons_succ, List.set_cons_zero]
    apply lk_pure _ rfl (by intro W; go_simp; rfl)
    simp only [Act.put, List.setIfInBounds_toArray, List.set_cons_succ, List.set_cons_zero]
    apply lk_cell (.string ⟨k.toArray⟩) (g) (2) c2 HG.out rfl (by intro W hW; go_simp)
    simp only [Act.put, List.setIfInBounds_toArray, List.set_cons_succ, List.set_cons_zero]
    apply lk_run (.tuple #[.agg #[], .bool q]) rfl (by
      intro W hW
      have h := HLK.out W hW
      go_simp
      cases q <;> exact ⟨rfl, rfl⟩)
    simp only [Act.put, List.setIfInBounds_toArray, List.set_cons_succ, List.set_cons_zero]
    apply lk_pure _ rfl (by intro W; go_simp; rfl)
    simp only [Act.put, List.setIfInBounds_toArray, List.set_cons_succ, List.set_cons_zero]
    apply lk_pure _ rfl (by intro W; go_simp; rfl)
    simp only [Act.put, List.setIfInBounds_toArray, List.set_cons_succ, List.set_cons_zero]
    apply lk_step (F := allF) rfl ⟨⟨_, 0, rfl⟩, fun W hW => by unfold lkAt; go_simp; exact ⟨⟨_, rfl⟩, trivial, (Below.refl _ _).alloc (Nat.le_refl _) _⟩⟩
    rintro _ ⟨b5, rfl⟩
    simp only [Act.put, List.setIfInBounds_toArray, List.set_cons_succ, List.set_cons_zero]
    apply lk_step (F := Lft.bare (· = undef)) rfl ⟨⟨_, rfl⟩, fun W hW => by unfold lkAt; go_simp; exact ⟨rfl, trivial, Below.refl _ _⟩⟩
    rintro _ rfl
    simp only [Act.put]
    apply lk_pure _ rfl (by intro W; go_simp; rfl)
    simp only [Act.put, List.setIfInBounds_toArray, List.set_cons_succ, List.set_cons_zero]
    apply lk_pure _ rfl (by intro W; go_simp; rfl)
    simp only [Act.put, List.setIfInBounds_toArray, List.set_cons_succ, List.set_cons_zero]
    refine lk_nil (Fs := []) ?_
    intro w5 hb5 hz
    have H6 := Lib.hid (And.intro (H5.out.1.later hb5) (And.intro (H5.out.2.1.thenB hb5) (And.intro (H5.out.2.2.1.later hb5) (And.intro (HMP.out.1.later hb5) (And.intro H5.out.2.2.2.2.1 (H5.out.2.2.2.2.2.chg (Chg.of hb5 : Chg (fun _ => False) w4 w5) (fun _ _ h => h)))))))
    clear c1 c2 hb5 hz HLK H5
    cases q with
    | true =>
      go_wp2_with fail
      refine (giveUp_calls 6 _).mono ?_
      rintro e w6 ⟨rfl, rfl⟩
      go_wp2_with fail
      exact ⟨rfl, H6.out.2.1, .inl ⟨6, by rw [key_quo, HQ.out.1]; dsimp only; rw [if_pos HQK.out], rfl⟩⟩
    | false =>
      have c1 := H6.out.2.2.1.cell (k := 1) rfl
      have c2 := H6.out.2.2.1.cell (k := 2) rfl
      have HG5 := Lib.hid H6.out.2.2.1.lt
      go_upto_region 6 with fail
      apply wp_region_lkt 9 (by kernel_rfl) (by kernel_rfl)
      simp only [List.take_succ_cons, List.take_zero, List.drop_succ_cons, List.drop_zero]
      apply lk_pure _ rfl (by intro W; go_simp; rfl)
      simp only [Act.put, List.setIfInBounds_toArray, List.set_cons_succ, List.set_cons_zero]
      apply lk_pure _ rfl (by intro W; go_simp; rfl)
      simp only [Act.put, List.setIfInBounds_toArray, List.set_cons_succ, List.set_cons_zero]
      apply lk_pure _ rfl (by intro W; go_simp; rfl)
      simp only [Act.put, List.setIfInBounds_toArray, List.set_cons_succ, List.set_cons_zero]
      apply lk_cell (.map (some mb)) (g) (1) c1 HG5.out rfl (by intro W hW; go_simp)
      simp only [Act.put, List.setIfInBounds_toArray, List.set_cons_succ, List.set_cons_zero]
      apply lk_pure _ rfl (by intro W; go_simp; rfl)
      simp only [Act.put, List.setIfInBounds_toArray, List.set_cons_succ, List.set_cons_zero]
      apply lk_pure _ rfl (by intro W; go_simp; rfl)
      simp only [Act.put, List.setIfInBounds_toArray, List.set_cons_succ, List.set_cons_zero]
      apply lk_pure _ rfl (by intro W; go_simp; rfl)
      simp only [Act.put, List.setIfInBounds_toArray, List.set_cons_succ, List.set_cons_zero]
      apply lk_cell (.string ⟨k.toArray⟩) (g) (2) c2 HG5.out rfl (by intro W hW; go_simp)
      simp only [Act.put, List.setIfInBounds_toArray, List.set_cons_succ, List.set_cons_zero]
      apply lk_pure _ rfl (by intro W; go_simp; rfl)
      simp only [Act.put, List.setIfInBounds_toArray, List.set_cons_succ, List.set_cons_zero]
      refine lk_nil (Fs := []) ?_
      intro w6 hb6 hz
      have H7 := Lib.hid (And.intro (H6.out.1.later hb6) (And.intro (H6.out.2.1.thenB hb6) (And.intro (H6.out.2.2.1.later hb6) (And.intro (H6.out.2.2.2.1.later hb6) (And.intro H6.out.2.2.2.2.1 (H6.out.2.2.2.2.2.chg (Chg.of hb6 : Chg (fun _ => False) w5 w6) (fun _ _ h => h)))))))
      clear c1 c2 hb6 hz H6
      obtain ⟨w7, hrun, hmp7, ht7⟩ := H7.out.2.2.2.1.store (t := 95) (e := 119) rfl rfl (Nat.lt_of_le_of_lt HMP.out.2 (by decide)) (s := k) (by simp [maxLen]; omega) (.agg #[])
      have hc7 : Chg (fun b => b = g ∨ b = mb) w6 w7 := (Chg.refl _ _).turn ht7 (.inl (.inr rfl))
      have hs7 : SeenIs w7 mb (fun x => acc.hasK x || k == x) (acc.ext + 1) := SeenIs.upd hmp7 (Nat.le_trans (ite_le9 nn) (by omega))
      have hb7 : Blk w7 g 97 [L, .map (some mb), .string ⟨k.toArray⟩] := (ht7.block g (Ne.symm H7.out.2.2.2.2.1)).trans H7.out.2.2.1
      have hf7 : FIn base w7 ⟨.t acc k, g, L, mb, F⟩ := H7.out.2.2.2.2.2.refr hc7 rfl rfl ⟨hb7, hs7, H7.out.2.2.2.2.1, HAP.out, HQK.out, hk6⟩
      have hr7 : RSt base w7 r s at' (.slice (some ⟨ub, 0, none⟩) (m + 1) cap) (⟨.t acc k, g, L, mb, F⟩ :: fs) := H7.out.1.inTop hc7 (fun b _ e => by
        rcases e with e | e
        · rw [e]; exact H7.out.2.2.2.2.2.2.1
        · rw [e]; exact H7.out.2.2.2.2.2.2.2.1) rfl rfl hf7 (H7.out.1.sub ⟨.k acc, g, L, mb, F⟩ (List.mem_cons_self ..))
      have H8 := Lib.hid (And.intro hr7 (H7.out.2.1.then_ (hc7.mono (D := fun b => b = r ∨ F b) (fun b _ e => by
        rcases e with e | e
        · right; rw [e]; exact H7.out.2.2.2.2.2.2.1
        · right; rw [e]; exact H7.out.2.2.2.2.2.2.2.1))))
      clear hc7 hs7 hb7 hf7 hr7 hmp7 ht7 hnn HMP
      go_wp2_with fail
      refine (must_calls base _ r s at' 58 _ _ H8.out.1).mono ?_
      rintro e w8 ⟨c8, ⟨at2, rfl, m1, m2, m3⟩ | ⟨rfl, m1⟩⟩
      · go_wp2_with fail
        have HK := Lib.hid (show keyF acc (s.drop at_) = .ok (k, s.drop at2) by rw [key_quo, HQ.out.1]; dsimp only; rw [if_neg (by rw [HQK.out]; decide), m2]; dsimp only; rw [if_pos rfl])
        go_end0
        exact ⟨H8.out.2.then_ (c8.mono (fun b _ e => .inl e)), .inr ⟨k, at2, HK.out, rfl, Nat.lt_trans HQ.out.2 m3, hk6, m1⟩⟩
      · go_wp2_with fail
        have HK := Lib.hid (show keyF acc (s.drop at_) = .error 4 by
          rw [key_quo, HQ.out.1]; dsimp only; rw [if_neg (by rw [HQK.out]; decide)]
          cases hsk : skipB (s.drop at') with
          | nil => rfl
          | cons d q2 =>
            dsimp only
            rw [if_neg (by rintro rfl; exact m1 (by rw [hsk]; rfl))])
        exact ⟨rfl, H8.out.2.then_ (c8.mono (fun b _ e => .inl e)), .inl ⟨4, HK.out, rfl⟩⟩
end Go.Proofs.YtajkgcmopmpihaaGreatDoor
namespace Go.Proofs.YtajkgcmopmpihaaGreatDoor
open Go.Lib
set_option linter.unusedVariables false
theorem cb_self : ∀ a : List UInt8, compareBytes a a = 0
  | [] => rfl
  | x :: a => by
    unfold compareBytes
    rw [if_neg (UInt8.lt_irrefl x), if_neg (UInt8.lt_irrefl x)]
    exact cb_self a
theorem cb_eq : ∀ {a b : List UInt8}, compareBytes a b = 0 → a = b
  | [], [], _ => rfl
  | [], _ :: _, h => by simp [compareBytes] at h
  | _ :: _, [], h => by simp [compareBytes] at h
  | x :: a, y :: b, h => by
    unfold compareBytes at h
    split at h
    · simp at h
    · rename_i h1
      split at h
      · simp at h
      · rename_i h2
        have hxy : x = y := UInt8.toNat_inj.1 (by
          have h3 := UInt8.not_lt.1 h1
          have h4 := UInt8.not_lt.1 h2
          rw [UInt8.le_iff_toNat_le] at h3 h4
          omega)
        rw [hxy, cb_eq h]
theorem cb_three : ∀ a b : List UInt8, compareBytes a b = -1 ∨ compareBytes a b = 0 ∨ compareBytes a b = 1
  | [], [] => .inr (.inl rfl)
  | [], _ :: _ => .inl rfl
  | _ :: _, [] => .inr (.inr rfl)
  | x :: a, y :: b => by
    unfold compareBytes
    split
    · exact .inl rfl
    · split
      · exact .inr (.inr rfl)
      · exact cb_three a b
theorem cb_anti : ∀ a b : List UInt8, compareBytes b a = - compareBytes a b
  | [], [] => rfl
  | [], _ :: _ => rfl
  | _ :: _, [] => rfl
  | x :: a, y :: b => by
    unfold compareBytes
    by_cases h1 : x < y
    · have h2 : ¬ y < x := by rw [UInt8.lt_iff_toNat_lt] at *; omega
      rw [if_pos h1, if_neg h2, if_pos h1]; rfl
    · by_cases h2 : y < x
      · rw [if_pos h2, if_neg h1, if_pos h2]
      · rw [if_neg h1, if_neg h2, if_neg h2, if_neg h1]
        exact cb_anti a b
theorem cb_trans : ∀ {a b c : List UInt8}, compareBytes a b = -1 → compareBytes b c = -1 → compareBytes a c = -1
  | [], [], _, h, _ => by simp [compareBytes] at h
  | _, _ :: _, [], _, h => by simp [compareBytes] at h
  | [], _ :: _, _ :: _, _, _ => rfl
  | _ :: _, [], _, h, _ => by simp [compareBytes] at h
  | x :: a, y :: b, z :: c, h1, h2 => by
    unfold compareBytes at h1 h2 ⊢
    have L : ∀ p q : UInt8, p < q ↔ p.toNat < q.toNat := fun p q => UInt8.lt_iff_toNat_lt
    by_cases hxz : x < z
    · rw [if_pos hxz]
    · rw [if_neg hxz]
      split at h1
      · rename_i hxy
        split at h2
        · rename_i hyz; rw [L] at *; omega
        · rename_i hyz
          split at h2
          · simp at h2
          · rename_i hzy; rw [L] at *; omega
      · rename_i hxy
        split at h1
        · simp at h1
        · rename_i hyx
          split at h2
          · rename_i hyz; rw [L] at *; omega
          · rename_i hyz
            split at h2
            · simp at h2
            · rename_i hzy
              rw [if_neg (by rw [L] at *; omega)]
              exact cb_trans h1 h2
theorem bl_cb : ∀ a b : List UInt8, Op.bytesLess a b = decide (compareBytes a b = -1)
  | [], [] => rfl
  | [], _ :: _ => rfl
  | _ :: _, [] => rfl
  | x :: a, y :: b => by
    have ih := bl_cb a b
    unfold Op.bytesLess compareBytes
    by_cases h1 : x < y
    · rw [if_pos h1]; simp [h1]
    · rw [if_neg h1]
      by_cases h2 : y < x
      · rw [if_pos h2]
        have h3 : x ≠ y := by intro e; subst e; exact UInt8.lt_irrefl _ h2
        simp [h1, h3]
      · rw [if_neg h2, ← ih]
        have hxy : x = y := UInt8.toNat_inj.1 (by
          have h3 := UInt8.not_lt.1 h1
          have h4 := UInt8.not_lt.1 h2
          rw [UInt8.le_iff_toNat_le] at h3 h4
          omega)
        simp [hxy]
abbrev Pr := List UInt8 × List UInt8
def cmpP (p q : Pr) : Int := if compareBytes p.1 q.1 = 0 then compareBytes p.2 q.2 else compareBytes p.1 q.1
theorem cmpP_three (p q : Pr) : cmpP p q = -1 ∨ cmpP p q = 0 ∨ cmpP p q = 1 := by
  unfold cmpP; split
  · exact cb_three _ _
  · exact cb_three _ _
theorem cmpP_trans {p q r : Pr} (h1 : cmpP p q = -1) (h2 : cmpP q r = -1) : cmpP p r = -1 := by
  unfold cmpP at *
  split at h1
  · rename_i e1
    have := cb_eq e1
    rw [this]
    split at h2
    · rename_i e2; rw [if_pos e2]; exact cb_trans h1 h2
    · rename_i e2; rw [if_neg e2]; exact h2
  · rename_i e1
    split at h2
    · rename_i e2
      have := cb_eq e2
      rw [← this, if_neg e1]; exact h1
    · rename_i e2
      have := cb_trans h1 h2
      rw [if_neg (by omega)]; exact this
structure Slt where
  t : List UInt8
  k : List UInt8
  i : List UInt8
def Slt.pr (s : Slt) : Pr := (s.t, s.k)
def Rise (l : List Slt) : Prop := l.Pairwise fun a b => cmpP a.pr b.pr = -1
def posF (l : List Slt) (p : Pr) : Nat := (l.takeWhile fun s => decide (cmpP s.pr p = -1)).length
theorem posF_le (l : List Slt) (p : Pr) : posF l p ≤ l.length := (List.takeWhile_sublist _).length_le
theorem posF_low : ∀ (l : List Slt) (p : Pr) (i : Nat) (h : i < l.length), i < posF l p → cmpP (l[i]).pr p = -1
  | [], _, _, h, _ => absurd h (by simp)
  | s :: l, p, i, h, hi => by
    unfold posF at hi
    by_cases hs : cmpP s.pr p = -1
    · rw [List.takeWhile_cons_of_pos (by simp [hs])] at hi
      cases i with
      | zero => exact hs
      | succ i => exact posF_low l p i (by simpa using h) (by unfold posF; simpa using hi)
    · rw [List.takeWhile_cons_of_neg (by simp [hs])] at hi
      simp at hi
theorem posF_high : ∀ {l : List Slt} (_ : Rise l) (p : Pr) (i : Nat) (h : i < l.length), posF l p ≤ i → cmpP (l[i]).pr p ≠ -1
  | [], _, _, _, h, _ => absurd h (by simp)
  | s :: l, hr, p, i, h, hi => by
    unfold posF at hi
    by_cases hs : cmpP s.pr p = -1
    · rw [List.takeWhile_cons_of_pos (by simp [hs])] at hi
      cases i with
      | zero => simp at hi
      | succ i =>
        have := posF_high (List.Pairwise.of_cons hr) p i (by simpa using h) (by unfold posF; simpa using hi)
        simpa using this
    · cases i with
      | zero => exact hs
      | succ i =>
        intro e
        have h1 := (List.pairwise_cons.1 hr).1 (l[i]'(by simpa using h)) (List.getElem_mem _)
        exact hs (cmpP_trans h1 (by simpa using e))
def foundF (l : List Slt) (p : Pr) : Bool := match l[posF l p]? with
  | some s => decide (cmpP s.pr p = 0)
  | none => false
end Go.Proofs.YtajkgcmopmpihaaGreatDoor
namespace Go.Proofs.YtajkgcmopmpihaaGreatDoor
open Go.ChangeShapes Go.WideShapes Go.ChangeAt Go.RowKit Go.IntWalk Go.Sort
set_option linter.unusedVariables false
set_option maxRecDepth 100000
structure Mb where
  key : List UInt8
  kd : Int
  is : Bool
  n : Int
  s : List UInt8
  A : Option Addr
  nl : Nat
  cl : Nat
  B : Option Addr
  nm : Nat
  cm : Nat
instance : Inhabited Mb := ⟨⟨[], 0, false, 0, [], none, 0, 0, none, 0, 0⟩⟩
def encM (m : Mb) : List Value := [.string ⟨m.key.toArray⟩, .int .i64 m.kd, .bool m.is, .int .i64 m.n, .string ⟨m.s.toArray⟩, .slice m.A m.nl m.cl, .slice m.B m.nm m.cm]
def cmpM (x y : Mb) : Int := Lib.compareBytes x.key y.key
theorem lt_cmpM (x y : Mb) : ltOf cmpM x y = decide (cmpM x y = -1) := by
  unfold ltOf cmpM
  rcases cb_three x.key y.key with h | h | h <;> rw [h] <;> rfl
theorem swoM : Go.Sort.SWO (ltOf cmpM) where
  irrefl x := by rw [lt_cmpM]; unfold cmpM; rw [cb_self]; rfl
  trans x y z h1 h2 := by
    rw [lt_cmpM, decide_eq_true_eq] at *
    exact cb_trans h1 h2
  ntrans x y z h1 h2 := by
    rw [lt_cmpM, decide_eq_false_iff_not] at *
    unfold cmpM at *
    intro h3
    rcases cb_three x.key y.key with h | h | h
    · exact h1 h
    · rw [cb_eq h] at h3; exact h2 h3
    · have h4 : Lib.compareBytes y.key x.key = -1 := by rw [cb_anti, h]
      exact h2 (cb_trans h4 h3)
theorem lessM (x y : Mb) : ltOf cmpM x y = Op.bytesLess x.key y.key := by rw [lt_cmpM, bl_cb]; rfl
theorem closer_grow (x y : Mb) (w : World) : Calls Tryz.prog 80 #[.agg (encM x).toArray, .agg (encM y).toArray] w fun e w' => e = .returned (.int .i64 (cmpM x y)) ∧ ∃ n os, w' = Go.Sort.grow (w.drewN n) os := by
  obtain ⟨k1, a1, a2, a3, a4, a5, a6, a7, a8, a9, a10⟩ := x
  obtain ⟨k2, b1, b2, b3, b4, b5, b6, b7, b8, b9, b10⟩ := y
  unfold encM cmpM
  dsimp only
  obtain ⟨z, hz⟩ : ∃ z, Lib.compareBytes k1 k2 = z := ⟨_, rfl⟩
  rw [hz]
  have HZ := Lib.hid hz
  clear hz
  go_enter Tryz.func80, Tryz.ntmps80
  go_wp2_with fail
  refine (Tryz.strings_Compare _ _ _).mono ?_
  rintro e w1 ⟨rfl, rfl⟩
  simp only [HZ.out]
  go_wp2_with fail
  go_ret
  exact ⟨rfl, 0, _, by rw [Go.Sort.alloc_eq_grow, Go.Sort.alloc_eq_grow, Go.Sort.grow_grow]; rfl⟩
theorem sortM_calls (g cap : Nat) (d : Array Mb) (w : World) (hH : Go.Sort.HoldsK encM 7 w g 0 d) (hg : g < w.heap.size) (hd : d.size ≤ 1000000) :
    Calls Tryz.prog 79 #[.slice (some ⟨g, 0, none⟩) d.size cap, .func (.func 80) #[] #[]] w fun e w' =>
      e = .returned (.tuple #[]) ∧ ∃ d' n os, PermIn 0 d.size d d' ∧ SortedIn (ltOf cmpM) 0 d.size d' ∧ w' = sortWorldK encM 7 w g 0 n d' os :=
  AnyQ.slices_SortFunc Tryz.sortMb 7 Tryz.isAgg44 Tryz.sizeOf44 encM (fun _ => rfl) (fun x v hv => by
      simp only [encM, List.mem_cons, List.not_mem_nil, or_false] at hv
      rcases hv with rfl | rfl | rfl | rfl | rfl | rfl | rfl <;> rfl) cmpM swoM 80 #[] g 0 cap d w (enters_of Tryz.func80 (by kernel_rfl) rfl)
    (fun m os dk _ x y => (closer_grow x y _)) hH hg (by omega)
end Go.Proofs.YtajkgcmopmpihaaGreatDoor
namespace Go.Proofs.YtajkgcmopmpihaaGreatDoor
open Go.Sort
set_option linter.unusedVariables false
def insM : List Mb → Mb → List Mb
  | [], m => [m]
  | a :: l, m => if Op.bytesLess a.key m.key then a :: insM l m else m :: a :: l
def sortAM : List Mb → List Mb → List Mb
  | out, [] => out
  | out, m :: l => sortAM (insM out m) l
theorem insM_perm : ∀ (l : List Mb) (m : Mb), (insM l m).Perm (m :: l)
  | [], m => List.Perm.refl _
  | a :: l, m => by
    unfold insM
    split
    · exact ((insM_perm l m).cons a).trans (List.Perm.swap m a l)
    · exact List.Perm.refl _
theorem sortAM_perm : ∀ (l out : List Mb), (sortAM out l).Perm (l ++ out)
  | [], out => List.Perm.refl _
  | m :: l, out => by
    unfold sortAM
    refine (sortAM_perm l _).trans ?_
    refine ((insM_perm out m).append_left l).trans ?_
    exact List.perm_middle
abbrev LeM (x y : Mb) : Prop := Op.bytesLess y.key x.key = false
theorem LeM.trans {x y z : Mb} (h1 : LeM x y) (h2 : LeM y z) : LeM x z := by
  unfold LeM at *
  rw [← lessM] at *
  exact swoM.ntrans z y x h2 h1
theorem less_le {x y : Mb} (h : Op.bytesLess x.key y.key = true) : LeM x y := by
  unfold LeM
  rw [← lessM] at *
  cases hq : ltOf cmpM y x with
  | false => rfl
  | true => have := swoM.trans x y x h hq; rw [swoM.irrefl] at this; cases this
theorem insM_sorted : ∀ (l : List Mb) (m : Mb), l.Pairwise LeM → (insM l m).Pairwise LeM
  | [], m, _ => List.pairwise_singleton _ _
  | a :: l, m, h => by
    obtain ⟨h1, h2⟩ := List.pairwise_cons.1 h
    unfold insM
    split
    · rename_i hl
      refine List.pairwise_cons.2 ⟨fun y hy => ?_, insM_sorted l m h2⟩
      rcases List.mem_cons.1 ((insM_perm l m).mem_iff.1 hy) with rfl | hy
      · exact less_le hl
      · exact h1 y hy
    · rename_i hl
      have hl2 : LeM m a := by unfold LeM; simpa using hl
      refine List.pairwise_cons.2 ⟨fun y hy => ?_, h⟩
      rcases List.mem_cons.1 hy with rfl | hy
      · exact hl2
      · exact hl2.trans (h1 y hy)
theorem sortAM_sorted : ∀ (l out : List Mb), out.Pairwise LeM → (sortAM out l).Pairwise LeM
  | [], out, h => h
  | m :: l, out, h => by unfold sortAM; exact sortAM_sorted l _ (insM_sorted out m h)
theorem apart_inj : ∀ {l : List Mb}, l.Pairwise (fun a b => a.key ≠ b.key) → ∀ {a b : Mb}, a ∈ l → b ∈ l → a.key = b.key → a = b
  | [], _, a, b, ha, _, _ => by cases ha
  | x :: l, h, a, b, ha, hb, e => by
    obtain ⟨h1, h2⟩ := List.pairwise_cons.1 h
    rcases List.mem_cons.1 ha with e1 | ha2
    · rcases List.mem_cons.1 hb with e2 | hb2
      · rw [e1, e2]
      · exact absurd (by rw [← e1]; exact e) (h1 b hb2)
    · rcases List.mem_cons.1 hb with e2 | hb2
      · exact absurd (by rw [← e2]; exact e.symm) (h1 a ha2)
      · exact apart_inj h2 ha2 hb2 e
theorem leM_anti {a b : Mb} (h1 : LeM a b) (h2 : LeM b a) : a.key = b.key := by
  unfold LeM at *
  rw [bl_cb, decide_eq_false_iff_not] at *
  rcases cb_three a.key b.key with h | h | h
  · exact absurd h h2
  · exact cb_eq h
  · exact absurd (by rw [cb_anti, h]) h1
theorem sorted_is {l l' : List Mb} (hp : l'.Perm l) (hs : l'.Pairwise LeM) (hd : l.Pairwise (fun a b => a.key ≠ b.key)) : l' = sortAM [] l := by
  have hp2 : (sortAM [] l).Perm l := by have := sortAM_perm l []; rwa [List.append_nil] at this
  exact List.Perm.eq_of_pairwise (le := LeM) (fun a b ha hb h1 h2 => apart_inj hd (hp.mem_iff.1 ha) (hp2.mem_iff.1 hb) (leM_anti h1 h2)) hs (sortAM_sorted l [] List.Pairwise.nil) (hp.trans hp2.symm)
def LyM (R : Mb → List UInt8 → Jv → Prop) : List Mb → JT → Prop
  | [], .nil => True
  | m :: l, .cons k kd is n s a b r => R m k ⟨kd, is, n, s, a, b⟩ ∧ LyM R l r
  | _, _ => False
theorem LyM.ins {R : Mb → List UInt8 → Jv → Prop} (hR : ∀ m k v, R m k v → m.key = k) : ∀ {l : List Mb} {t : JT} {m : Mb} {k : List UInt8} {v : Jv}, LyM R l t → R m k v → LyM R (insM l m) (t.ins k v)
  | [], .nil, m, k, v, _, h => by obtain ⟨_, _, _, _, _, _⟩ := v; exact ⟨h, trivial⟩
  | a :: l, .cons k0 kd is n s x y r, m, k, v, h, hm => by
    obtain ⟨_, _, _, _, _, _⟩ := v
    unfold insM JT.ins
    rw [hR _ _ _ h.1, hR _ _ _ hm]
    split
    · exact ⟨h.1, LyM.ins hR h.2 hm⟩
    · exact ⟨hm, h⟩
  | [], .cons .., _, _, _, h, _ => by cases h
  | _ :: _, .nil, _, _, _, h, _ => by cases h
theorem LyM.sortedA {R : Mb → List UInt8 → Jv → Prop} (hR : ∀ m k v, R m k v → m.key = k) : ∀ {l out : List Mb} {t o : JT}, LyM R out o → LyM R l t → LyM R (sortAM out l) (sortA o t)
  | [], out, .nil, o, h, _ => h
  | m :: l, out, .cons k kd is n s x y r, o, h, hl => by unfold sortAM sortA; exact LyM.sortedA hR (h.ins hR hl.1) hl.2
  | [], _, .cons .., _, _, h => by cases h
  | _ :: _, _, .nil, _, _, h => by cases h
theorem sort_lays {R : Mb → List UInt8 → Jv → Prop} (hR : ∀ m k v, R m k v → m.key = k) {d d' : Array Mb} {t : JT} (hp : PermIn 0 d.size d d') (hs : SortedIn (ltOf cmpM) 0 d.size d') (hd : d.toList.Pairwise (fun a b => a.key ≠ b.key)) (h : LyM R d.toList t) : LyM R d'.toList (sortJ t) := by
  obtain ⟨h1, _, h3⟩ := hp
  have e1 : d'.extract 0 d.size = d' := by rw [← h1]; simp
  have e2 : d.extract 0 d.size = d := by simp
  rw [e1, e2] at h3
  have h4 : d'.toList.Pairwise LeM := by
    rw [List.pairwise_iff_getElem]
    intro i j hi hj hij
    have := hs i j (Nat.zero_le _) hij (by rw [← h1]; simpa using hj)
    rw [lessM] at this
    have ei : d'[i]! = d'.toList[i] := by simp at hi; simp [hi]
    have ej : d'[j]! = d'.toList[j] := by simp at hj; simp [hj]
    rw [ei, ej] at this
    exact this
  rw [sorted_is h3 h4 hd]
  exact LyM.sortedA hR (show LyM R [] .nil from trivial) h
end Go.Proofs.YtajkgcmopmpihaaGreatDoor
namespace Go.Proofs.YtajkgcmopmpihaaGreatDoor
open Go.ChangeShapes Go.WideShapes Go.ChangeAt Go.RowKit Go.IntWalk Go.Sort
set_option linter.unusedVariables false
set_option maxRecDepth 100000
set_option maxHeartbeats 4000000 in
theorem ins_nil (c : Value) (w : World) : Calls Tryz.prog 117 #[.slice none 0 0, .int .i64 0, .int .i64 0, c] w fun e w' => e = .returned (.tuple #[]) ∧ Below w.heap.size w w' := by
  go_enter Tryz.func117, Tryz.ntmps117
  go_wp2_with fail
  go_loopw [8] (fun v wr => v = .int .i64 1 ∧ wr = w) (fun _ _ => 0)
  case atStart => exact ⟨rfl, rfl⟩
  case round =>
    obtain ⟨rfl, rfl⟩ := hrel
    go_wp2_with fail
    go_end0
    exact ⟨rfl, Below.refl _ _⟩
set_option maxHeartbeats 4000000 in
theorem pdq_nil (c : Value) (m : Int) (w : World) : Calls Tryz.prog 95 #[.slice none 0 0, .int .i64 0, .int .i64 0, .int .i64 m, c] w fun e w' => e = .returned (.tuple #[]) ∧ Below w.heap.size w w' := by
  go_enter Tryz.func95, Tryz.ntmps95
  go_wp2_with fail
  go_loopw [1, 2] (fun a b wr => a = .int .i64 0 ∧ b = .int .i64 0 ∧ wr = w) (fun _ _ _ => 0)
  case atStart => exact ⟨rfl, rfl, rfl⟩
  case round =>
    obtain ⟨rfl, rfl, rfl⟩ := hrel
    go_wp2_with fail
    refine (ins_nil c _).mono ?_
    rintro e w1 ⟨rfl, h1⟩
    go_wp2_with fail
    refine bodyPost_ret (results_none rfl _ _ _) rfl ?_
    exact ⟨rfl, h1⟩
set_option maxHeartbeats 4000000 in
theorem sort_nil (w : World) : Calls Tryz.prog 79 #[.slice none 0 0, .func (.func 80) #[] #[]] w fun e w' => e = .returned (.tuple #[]) ∧ Below w.heap.size w w' := by
  go_enter Tryz.func79, Tryz.ntmps79
  go_wp2_with fail
  refine (Tryz.bits_Len 0 _ (by decide) (by decide)).mono ?_
  rintro e w1 ⟨rfl, rfl⟩
  go_wp2_with fail
  refine (pdq_nil _ _ _).mono ?_
  rintro e w2 ⟨rfl, h1⟩
  go_wp2_with fail
  go_end0
  exact ⟨rfl, h1⟩
end Go.Proofs.YtajkgcmopmpihaaGreatDoor
namespace Go.Proofs.YtajkgcmopmpihaaGreatDoor
open Go.Sort
set_option linter.unusedVariables false
theorem row_ex {P : Nat → Mb → Prop} : ∀ n, (∀ i, i < n → ∃ m, P i m) → ∃ l : List Mb, l.length = n ∧ ∀ i (h : i < l.length), P i l[i]
  | 0, _ => ⟨[], rfl, fun i h => by cases h⟩
  | n + 1, h => by
    obtain ⟨l, h1, h2⟩ := row_ex n (fun i hi => h i (Nat.lt_succ_of_lt hi))
    obtain ⟨m, hm⟩ := h n (Nat.lt_succ_self n)
    refine ⟨l ++ [m], by simp [h1], fun i hi => ?_⟩
    by_cases hi2 : i < l.length
    · rw [List.getElem_append_left hi2]; exact h2 i hi2
    · have e : i = n := by simp [h1] at hi; omega
      subst e
      rw [List.getElem_append_right (by omega)]
      simpa [h1] using hm
theorem lyM_of {R : Mb → List UInt8 → Jv → Prop} : ∀ {l : List Mb} {t : JT}, l.length = t.ext → (∀ i (h : i < l.length), R l[i] (t.fall i).key (t.fall i).val) → LyM R l t
  | [], .nil, _, _ => trivial
  | m :: l, .cons k kd is n s a b r, h, h2 => ⟨h2 0 (Nat.succ_pos _), lyM_of (by simpa [JT.ext] using h) (fun i hi => h2 (i + 1) (Nat.succ_lt_succ hi))⟩
  | [], .cons .., h, _ => by simp [JT.ext] at h
  | _ :: _, .nil, h, _ => by simp [JT.ext] at h
theorem LyM.at {R : Mb → List UInt8 → Jv → Prop} : ∀ {l : List Mb} {t : JT}, LyM R l t → l.length = t.ext ∧ ∀ i (h : i < l.length), R l[i] (t.fall i).key (t.fall i).val
  | [], .nil, _ => ⟨rfl, fun i h => by cases h⟩
  | m :: l, .cons k kd is n s a b r, h => by
    obtain ⟨h1, h2⟩ := h.2.at
    refine ⟨by simp [JT.ext, h1], fun i hi => ?_⟩
    cases i with
    | zero => exact h.1
    | succ i => exact h2 i (Nat.lt_of_succ_lt_succ hi)
  | [], .cons .., h => by cases h
  | _ :: _, .nil, h => by cases h
theorem hasK_no : ∀ {t : JT} {k : List UInt8}, t.hasK k = false → ∀ i, i < t.ext → (t.fall i).key ≠ k
  | .cons k0 kd is n s l m r, k, h, 0, _ => by
    simp only [JT.hasK, Bool.or_eq_false_iff, beq_eq_false_iff_ne] at h
    exact h.1
  | .cons k0 kd is n s l m r, k, h, i + 1, hi => by
    simp only [JT.hasK, Bool.or_eq_false_iff] at h
    exact hasK_no h.2 i (by simpa [JT.ext] using hi)
theorem apart_keys {R : Mb → List UInt8 → Jv → Prop} (hR : ∀ m k v, R m k v → m.key = k) : ∀ {l : List Mb} {t : JT}, LyM R l t → t.apart → l.Pairwise (fun a b => a.key ≠ b.key)
  | [], .nil, _, _ => List.Pairwise.nil
  | m :: l, .cons k kd is n s a b r, h, ha => by
    refine List.pairwise_cons.2 ⟨fun x hx => ?_, apart_keys hR h.2 ha.2⟩
    obtain ⟨i, hi, rfl⟩ := List.mem_iff_getElem.1 hx
    obtain ⟨h1, h2⟩ := h.2.at
    rw [hR _ _ _ h.1, hR _ _ _ (h2 i hi)]
    exact fun e => hasK_no ha.1 i (by rw [← h1]; exact hi) e.symm
  | [], .cons .., h, _ => by cases h
  | _ :: _, .nil, h, _ => by cases h
end Go.Proofs.YtajkgcmopmpihaaGreatDoor
