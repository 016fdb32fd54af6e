/- Texts put together: PnY PnZ. -/
import Derived.Test.YtpleminoiodmgaaDoorZ2db9786099
import Derived.Test.YtpleminoiodmgaaDoorZ9a4b2937d6
namespace Go.Proofs.YtpleminoiodmgaaDoor
open Go.ChangeShapes Go.WideShapes Go.ChangeAt Go.RowKit Go.IntWalk
set_option linter.unusedVariables false
set_option maxRecDepth 100000

section
variable {P : Program} {ops : Array Oper} {W0 : World} {Q : Act → Prop} {o : Oper} {rest : List Oper} {Rs : List (Value → Prop)} {a : Act}
theorem ls_rd (x : Value) (hw : Region.wanted o (yielded ops a.tmps) = true) (h1 : ∀ W, Below W0.heap.size W0 W → (execOp a.eval o).run P W = .ok (.value x) W) (h2 : wpLs P ops (fun w' => Below W0.heap.size W0 w') Q rest Rs (a.put o.dst x)) :
    wpLs P ops (fun w' => Below W0.heap.size W0 w') Q (o :: rest) ((· = x) :: Rs) a :=
  ls_exact hw (fun W hW => by unfold lsAt; rw [h1 W hW]; exact ⟨rfl, rfl⟩) h2
end
theorem withP_or {l : List Pr} {p x : Pr} (h : x ∈ withP l p) : x ∈ l ∨ x = p := by
  unfold withP at h
  rw [List.mem_append, List.mem_cons] at h
  rcases h with h | h | h
  · exact .inl (List.mem_filter.1 h).1
  · exact .inr h
  · exact .inl (List.mem_filter.1 h).1
/-- Of needed pairs none but the first is a create's. -/
theorem ned_cre {e : Ev} {x : Pr} (h : x ∈ nedF e) (hc : x.1 = creT) : x.2 = [] := by
  have h1 : ∀ x ∈ ned1 e, x.1 = creT → x.2 = [] := by
    intro x hx hc
    unfold ned1 at hx
    rcases withP_or hx with hx | hx
    · rcases withP_or hx with hx | hx
      · rw [List.mem_singleton.1 hx]
      · rw [hx]
    · rw [hx] at hc; dsimp only at hc; exact absurd hc (by decide)
  have h3 : ∀ x ∈ ned3 e, x.1 = creT → x.2 = [] := by
    intro x hx hc
    unfold ned3 at hx
    dsimp only at hx
    split at hx
    · rcases withP_or hx with hx | hx
      · rcases withP_or hx with hx | hx
        · exact h1 x hx hc
        · rw [hx] at hc; dsimp only at hc; exact absurd hc (by decide)
      · rw [hx]
    · rcases withP_or hx with hx | hx
      · exact h1 x hx hc
      · rw [hx] at hc; dsimp only at hc; exact absurd hc (by decide)
  have h4 : ∀ x ∈ ned4 e, x.1 = creT → x.2 = [] := by
    intro x hx hc
    unfold ned4 at hx
    split at hx
    · rcases withP_or hx with hx | hx
      · exact h3 x hx hc
      · rw [hx] at hc; dsimp only at hc; exact absurd hc (by decide)
    · exact h3 x hx hc
  have h5 : ∀ x ∈ ned5 e, x.1 = creT → x.2 = [] := by
    intro x hx hc
    unfold ned5 at hx
    split at hx
    · rcases withP_or hx with hx | hx
      · exact h4 x hx hc
      · rw [hx] at hc; dsimp only at hc; exact absurd hc (by decide)
    · exact h4 x hx hc
  unfold nedF at h
  split at h
  · cases h
  · split at h
    · exact h5 x h hc
    · exact h1 x h hc
theorem right_ref (e : Ev) (l : List (Ev × Ea)) : RightP e l ↔ (∀ k, k < l.length → okAt (nedF e) l k) ∧ (e.ty = creT ∨ ∃ x ∈ l, x.1.ty = creT) := by
  unfold RightP
  refine ⟨fun ⟨h1, h2⟩ => ⟨h1, ?_⟩, fun ⟨h1, h2⟩ => ⟨h1, ?_⟩⟩
  · rcases h2 with h2 | h2
    · exact .inl h2
    · obtain ⟨x, hx, hp⟩ := List.mem_map.1 h2
      exact .inr ⟨x, hx, by injection hp⟩
  · rcases h2 with h2 | ⟨x, hx, ht⟩
    · exact .inl h2
    · obtain ⟨k, hk, hkx⟩ := List.getElem_of_mem hx
      obtain ⟨y, hy, _, hm, _⟩ := h1 k hk
      rw [List.getElem?_eq_getElem hk, hkx] at hy
      injection hy with hy
      subst hy
      have h3 := ned_cre hm ht
      refine .inr (List.mem_map.2 ⟨x, hx, ?_⟩)
      show (x.1.ty, x.1.ky) = (creT, [])
      rw [ht]
      show (creT, x.1.ky) = (creT, [])
      rw [show x.1.ky = [] from h3]
set_option maxHeartbeats 16000000 in
theorem refright_calls (e : Ev) (a : Ea) (A : Option Addr) (n c : Nat) (l : List (Ev × Ea)) (w : World) (he : EOk w e a) (hx : EvR w A n c l) (h40 : n ≤ 40) : Calls Tryd.prog 15 #[.agg (evC e a).toArray, .slice A n c] w (RtPost (RightP e l) w) := by
  have b0 : Below w.heap.size w (w.alloc (.cells (evC e a).toArray 29)) := (Below.refl _ _).alloc (Nat.le_refl _) _
  have HB := Lib.hid b0
  have hX := Blk.new w (evC e a) 29
  have HX := Lib.hid hX
  have HE := Lib.hid he
  have HL := Lib.hid hx
  have H40 := Lib.hid h40
  have hnm : n ≤ 140737488355328 := Nat.le_trans hx.2.2.1 hx.2.2.2.1
  obtain ⟨ps, hps⟩ : ∃ ps, nedF e = ps := ⟨_, rfl⟩
  have HND : Hid (∀ W, Below w.heap.size w W → Calls Tryd.prog 9 #[.agg (evC e a).toArray] W (fun en W' => ∃ v, en = .returned v ∧ (ftP ps).R v ∧ (ftP ps).M v W' ∧ Below W.heap.size W W')) := Lib.hid (fun W hW => by
    refine (refneeded_calls e a W (he.below hW)).mono ?_
    rw [hps]
    exact fun en W' h => ftP_of h)
  have HRP : Hid (RightP e l ↔ (∀ k, k < l.length → okAt ps l k) ∧ (e.ty = creT ∨ ∃ x ∈ l, x.1.ty = creT)) := Lib.hid (by rw [right_ref, hps])
  have c2 := hX.cell (k := 2) rfl
  obtain ⟨cf0, hcf0⟩ : ∃ q, (e.ty == [109, 46, 114, 111, 111, 109, 46, 99, 114, 101, 97, 116, 101]) = q := ⟨_, rfl⟩
  have HC0 := Lib.hid hcf0
  clear he b0 hx h40 hps hX
  go_enter Tryd.func15, Tryd.ntmps15
  go_wp2_with fail
  clear hcf0 c2

  go_loopw [5, 15] (fun o i wr => ∃ (k : Nat) (cf : Bool), k ≤ n ∧ o = .bool cf ∧ i = .int .i64 (k : Int) ∧ Hid (Blk wr w.heap.size 29 (evC e a) ∧ Below w.heap.size w wr ∧ (cf = true ↔ e.ty = creT ∨ ∃ x ∈ l.take k, x.1.ty = creT) ∧ ∀ j, j < k → okAt ps l j)) (fun o i _ => n - (intOf i).toNat)
  case atStart => exact ⟨0, cf0, Nat.zero_le _, rfl, rfl, Lib.hid ⟨HX.out, HB.out, ⟨fun h => .inl (by rw [← HC0.out] at h; simpa [creT] using h), fun h => by
    rcases h with h | ⟨x, hx, _⟩
    · rw [← HC0.out]; simpa [creT] using h
    · simp at hx⟩, fun j hj => absurd hj (Nat.not_lt_zero _)⟩⟩
  case round =>
    obtain ⟨wq, hwq⟩ : ∃ x, x = wr := ⟨_, rfl⟩
    subst hwq
    obtain ⟨k, cf, hk, rfl, rfl, HO⟩ := hrel
    by_cases hp : k < n
    · have hkx : k < l.length := by rw [← HL.out.2.1.out]; exact hp
      obtain ⟨b0, off, rfl, hb0, r0⟩ := ev_row HL.out HO.out.2.1 hkx
      have hgx := List.getElem?_eq_getElem hkx
      obtain ⟨x, hxx⟩ : ∃ x, l[k] = x := ⟨_, rfl⟩
      rw [hxx] at r0 hgx
      obtain ⟨x1, x2⟩ := x
      dsimp only at r0
      have HXK := Lib.hid hgx
      have HR0 := Lib.hid r0
      obtain ⟨T0, hbl, hN0⟩ := letE wq x1 x2
      have HT0 := Lib.hid T0
      have HBAD : Hid (¬ okAt ps l k → ¬ RightP e l) := Lib.hid (fun h h2 => h ((HRP.out.1 h2).1 k hkx))
      clear hxx hkx hgx r0 T0
      go_upto_region 5 with (first | (refine wpList_load_mid rfl 29 (.tmp 18) rfl b0 (off + k * 17) rfl (evC x1 x2) _ HR0.out Tryd.underlying29 rfl (size_ev x1 x2) ?_) | (refine wpList_store_mid rfl 29 _ _ rfl wq.heap.size 0 (evC x1 x2).toArray rfl rfl HT0.out (size_evA x1 x2) (one_ev x1 x2) ?_))
      obtain ⟨g6, eg⟩ : ∃ g, wq.heap.size = g := ⟨_, rfl⟩
      have hbl1 := HO.out.2.1.then_ hbl
      have hbe := HO.out.1.later hbl
      rw [eg] at hN0 hbl1 hbe ⊢
      refine wp_gen (fun W => Blk W g6 29 (evC x1 x2) ∧ Below w.heap.size w W ∧ Blk W w.heap.size 29 (evC e a)) ⟨hN0, hbl1, hbe⟩ ?_
      clear hbl hN0 HT0 hbl1 hbe
      rintro w3 ⟨hN, hB3, hE3⟩
      have c2 := hN.cell (k := 2) rfl
      have c4 := hN.cell (k := 4) rfl
      have hg6 := hN.lt
      have H3 := Lib.hid (And.intro hN (And.intro hB3 hE3))
      clear hN hB3 hE3
      go_upto_region 6 with fail
      obtain ⟨g9, eg9⟩ : ∃ g, w3.heap.size = g := ⟨_, rfl⟩
      have hal : Below w3.heap.size w3 (w3.alloc (.cells #[.string ⟨x1.ty.toArray⟩, .string ⟨x1.ky.toArray⟩] 35)) := (Below.refl _ _).alloc (Nat.le_refl _) _
      have h4 : Blk (w3.alloc (.cells #[.string ⟨x1.ty.toArray⟩, .string ⟨x1.ky.toArray⟩] 35)) w3.heap.size 35 [.string ⟨x1.ty.toArray⟩, .string ⟨x1.ky.toArray⟩] := Blk.new w3 _ _
      have h5 := H3.out.1.later hal
      have h6 := H3.out.2.1.then_ hal
      have h7 := H3.out.2.2.later hal
      rw [eg9] at h4 ⊢
      refine wp_gen (fun W => Blk W w.heap.size 29 (evC e a) ∧ Blk W g6 29 (evC x1 x2) ∧ Blk W g9 35 [.string ⟨x1.ty.toArray⟩, .string ⟨x1.ky.toArray⟩] ∧ Below w.heap.size w W) ⟨h7, h5, h4, h6⟩ ?_
      clear hal h4 h5 h6 h7 c2 c4 H3 hg6 eg9
      rintro w4 ⟨h4, h5, h6, h7⟩
      have c3 := h5.cell (k := 3) rfl
      have hg6 := h5.lt
      obtain ⟨st, hst⟩ : ∃ q, x1.st = q := ⟨_, rfl⟩
      rw [hst] at c3
      have HST := Lib.hid hst
      have HWb := Lib.hid h7
      have H4 := Lib.hid (And.intro h4 (And.intro h5 (And.intro h6 h7)))
      clear h4 h5 h6 h7 hst
      cases st with
      | false =>
        have HF := Lib.hid (HBAD.out (okAt.nst HXK.out HST.out))
        apply wp_region_lk (by kernel_rfl) (by kernel_rfl)
        apply lk_pure (.pointer (some ⟨g6, 3, none⟩)) rfl (by intro W; go_simp)
        simp only [Act.put, List.setIfInBounds_toArray, List.set_cons_succ, List.set_cons_zero]
        apply lk_run (.bool false) rfl (by intro W hW; have c := hW.cell (p := ⟨g6, 3, none⟩) hg6; rw [c3] at c; go_simp)
        simp only [Act.put, List.setIfInBounds_toArray, List.set_cons_succ, List.set_cons_zero]
        apply lk_pure (.bool true) rfl (by intro W; go_simp)
        simp only [Act.put, List.setIfInBounds_toArray, List.set_cons_succ, List.set_cons_zero]
        apply lk_move (.bool true) (.tmp 27) rfl rfl rfl
        simp only [Act.put, List.setIfInBounds_toArray, List.set_cons_succ, List.set_cons_zero]
        apply lk_skip0 rfl
        simp only [Act.put, List.setIfInBounds_toArray, List.set_cons_succ, List.set_cons_zero]
        apply lk_skip0 rfl
        simp only [Act.put, List.setIfInBounds_toArray, List.set_cons_succ, List.set_cons_zero]
        apply lk_skip0 rfl
        simp only [Act.put, List.setIfInBounds_toArray, List.set_cons_succ, List.set_cons_zero]
        apply lk_skip0 rfl
        simp only [Act.put, List.setIfInBounds_toArray, List.set_cons_succ, List.set_cons_zero]
        apply lk_skip0 rfl
        simp only [Act.put, List.setIfInBounds_toArray, List.set_cons_succ, List.set_cons_zero]
        apply lk_pure (.bool true) rfl (by intro W; go_simp)
        simp only [Act.put, List.setIfInBounds_toArray, List.set_cons_succ, List.set_cons_zero]
        refine lk_nil (Fs := []) ?_
        intro w5 hb5 hz
        clear hz
        have HB5 := Lib.hid (HWb.out.then_ hb5)
        clear hb5 c3 hg6
        go_wp2_with fail
        go_ret
        exact ⟨false, rfl, ⟨fun h => (by cases h), fun h => absurd h HF.out⟩, HB5.out⟩
      | true =>
        apply wp_region_lkt 7 (by kernel_rfl) (by kernel_rfl)
        simp only [List.take_succ_cons, List.take_zero, List.drop_succ_cons, List.drop_zero]
        apply lk_pure (.pointer (some ⟨g6, 3, none⟩)) rfl (by intro W; go_simp)
        simp only [Act.put, List.setIfInBounds_toArray, List.set_cons_succ, List.set_cons_zero]
        apply lk_run (.bool true) rfl (by intro W hW; have c := hW.cell (p := ⟨g6, 3, none⟩) hg6; rw [c3] at c; go_simp)
        simp only [Act.put, List.setIfInBounds_toArray, List.set_cons_succ, List.set_cons_zero]
        apply lk_pure (.bool false) rfl (by intro W; go_simp)
        simp only [Act.put, List.setIfInBounds_toArray, List.set_cons_succ, List.set_cons_zero]
        apply lk_move (.bool false) (.tmp 27) rfl rfl rfl
        simp only [Act.put, List.setIfInBounds_toArray, List.set_cons_succ, List.set_cons_zero]
        apply lk_load 29 (.tmp 2) rfl w.heap.size 0 (evC e a) _ H4.out.1.rng H4.out.1.lt Tryd.underlying29 rfl (size_ev e a) rfl rfl
        simp only [Act.put, List.setIfInBounds_toArray, List.set_cons_succ, List.set_cons_zero]
        apply lk_call (ftP ps) 9 #[.agg (evC e a).toArray] rfl (by intro W; go_simp) (fun W hW => HND.out W (HWb.out.then_ hW))
        simp only [Act.put, List.setIfInBounds_toArray, List.set_cons_succ, List.set_cons_zero]
        rintro _ ⟨NA, nc, rfl⟩
        apply lk_load 35 (.tmp 8) rfl g9 0 _ _ H4.out.2.2.1.rng H4.out.2.2.1.lt Tryd.underlying35 rfl size_pr rfl rfl
        simp only [Act.put, List.setIfInBounds_toArray, List.set_cons_succ, List.set_cons_zero]
        refine lk_nil (Fs := []) ?_
        intro w5 hb5 hz
        obtain ⟨⟨-, hq⟩, -⟩ := hz
        have hnl : LP w5 NA ps.length nc ps := ftP_in hq
        clear hq
        have HI := Lib.hid (refin_calls NA ps.length nc ps (x1.ty, x1.ky) w5 hnl)
        have H5 := Lib.hid (And.intro (H4.out.1.later hb5) (And.intro (H4.out.2.1.later hb5) (HWb.out.then_ hb5)))
        obtain ⟨q1, hq1⟩ : ∃ q, decide ((x1.ty, x1.ky) ∈ ps) = q := ⟨_, rfl⟩
        rw [hq1] at HI
        have HQ1 := Lib.hid hq1
        unfold prV at HI
        dsimp only at HI
        clear hq1 hb5 hnl c3 hg6 H4 HWb
        go_wp2_with fail
        refine HI.out.mono ?_
        rintro en w6 ⟨rfl, hb⟩
        have H6 := Lib.hid (And.intro (H5.out.1.later hb) (And.intro (H5.out.2.1.later hb) (H5.out.2.2.then_ hb)))
        clear hb HI
        cases q1 with
        | false =>
          have HF := Lib.hid (HBAD.out (okAt.nmem HXK.out (of_decide_eq_false HQ1.out)))
          go_wp2_with fail
          go_ret
          exact ⟨false, rfl, ⟨fun h => (by cases h), fun h => absurd h HF.out⟩, H6.out.2.2⟩
        | true =>
          go_wp2_with fail
          go_loopw [9] (fun i wr => ∃ j : Nat, j ≤ k ∧ i = .int .i64 (j : Int) ∧ Hid (Below w6.heap.size w6 wr ∧ ∀ y ∈ l.take j, prE y ≠ (x1.ty, x1.ky))) (fun i _ => k - (intOf i).toNat)
          case atStart => exact ⟨0, Nat.zero_le _, rfl, Lib.hid ⟨Below.refl _ _, by simp⟩⟩
          case round =>
            obtain ⟨w7, hw7⟩ : ∃ x, x = wr := ⟨_, rfl⟩
            subst hw7
            obtain ⟨j, hj, rfl, HJ⟩ := hrel
            by_cases hjk : j < k
            · have hjx : j < l.length := by have := HL.out.2.1.out; omega
              obtain ⟨b1, off1, eA, hb1, r1⟩ := ev_row HL.out (H6.out.2.2.then_ HJ.out.1) hjx
              injection eA with eA
              injection eA with e1 e2
              subst e1; subst e2
              have hgy := List.getElem?_eq_getElem hjx
              obtain ⟨y, hyy⟩ : ∃ y, l[j] = y := ⟨_, rfl⟩
              rw [hyy] at r1 hgy
              obtain ⟨y1, y2⟩ := y
              dsimp only at r1
              have HYK := Lib.hid hgy
              have hby : b0 < w7.heap.size := Nat.lt_of_lt_of_le hb1 (H6.out.2.2.then_ HJ.out.1).size
              have HY := Lib.hid (And.intro (r1 2 _ rfl) (And.intro (r1 4 _ rfl) hby))
              have h6l := H6.out.2.1.later HJ.out.1
              have HX6 := Lib.hid (And.intro (h6l.cell (k := 2) rfl) (And.intro (h6l.cell (k := 4) rfl) h6l.lt))
              have hnj : ¬ n ≤ j := by omega
              have hjn : j < n := by omega
              obtain ⟨t1, ht1⟩ : ∃ q, (y1.ty == x1.ty) = q := ⟨_, rfl⟩
              obtain ⟨t2, ht2⟩ : ∃ q, (y1.ky == x1.ky) = q := ⟨_, rfl⟩
              have HT1 := Lib.hid ht1
              have HT2 := Lib.hid ht2
              have HJS : Hid (¬ (y1.ty = x1.ty ∧ y1.ky = x1.ky) → ∀ y ∈ l.take (j + 1), prE y ≠ (x1.ty, x1.ky)) := Lib.hid (fun h y hy => by
                rw [List.take_add_one, HYK.out, Option.toList_some, List.mem_append] at hy
                rcases hy with hy | hy
                · exact HJ.out.2 y hy
                · rw [List.mem_singleton.1 hy]; exact fun h2 => h (by injection h2 with a b; exact ⟨a, b⟩))
              clear r1 hyy hgy hjx hb1 hby h6l ht1 ht2
              go_upto_region 11 with fail
              cases t1 with
              | false =>
                apply wp_region_ls (by kernel_rfl) (by kernel_rfl)
                apply ls_move (.slice (some ⟨b0, off, none⟩) n c) (.tmp 1) rfl rfl rfl
                simp only [Act.put, List.setIfInBounds_toArray, List.set_cons_succ, List.set_cons_zero]
                apply ls_move (.int .i64 (j : Int)) (.tmp 9) rfl rfl rfl
                simp only [Act.put, List.setIfInBounds_toArray, List.set_cons_succ, List.set_cons_zero]
                apply ls_pure (.pointer (some ⟨b0, off + j * 17, none⟩)) rfl (by intro W; go_simp)
                simp only [Act.put, List.setIfInBounds_toArray, List.set_cons_succ, List.set_cons_zero]
                apply ls_pure (.pointer (some ⟨b0, off + j * 17 + 2, none⟩)) rfl (by intro W; go_simp)
                simp only [Act.put, List.setIfInBounds_toArray, List.set_cons_succ, List.set_cons_zero]
                apply ls_rd (.string ⟨y1.ty.toArray⟩) rfl (by intro W hW; have c := hW.cell (p := ⟨b0, off + j * 17 + 2, none⟩) HY.out.2.2; rw [HY.out.1] at c; go_simp)
                simp only [Act.put, List.setIfInBounds_toArray, List.set_cons_succ, List.set_cons_zero]
                apply ls_pure (.pointer (some ⟨g6, 2, none⟩)) rfl (by intro W; go_simp)
                simp only [Act.put, List.setIfInBounds_toArray, List.set_cons_succ, List.set_cons_zero]
                apply ls_rd (.string ⟨x1.ty.toArray⟩) rfl (by intro W hW; have c := hW.cell (p := ⟨g6, 2, none⟩) HX6.out.2.2; rw [HX6.out.1] at c; go_simp)
                simp only [Act.put, List.setIfInBounds_toArray, List.set_cons_succ, List.set_cons_zero]
                apply ls_pure (.bool false) rfl (by intro W; have h := HT1.out; first | (go_simp; done) | (go_simp; exact h) | (go_simp; simp [h]))
                simp only [Act.put, List.setIfInBounds_toArray, List.set_cons_succ, List.set_cons_zero]
                apply ls_move (.bool false) (.tmp 47) rfl rfl rfl
                simp only [Act.put, List.setIfInBounds_toArray, List.set_cons_succ, List.set_cons_zero]
                apply ls_skip rfl
                simp only [Act.put, List.setIfInBounds_toArray, List.set_cons_succ, List.set_cons_zero]
                apply ls_skip rfl
                simp only [Act.put, List.setIfInBounds_toArray, List.set_cons_succ, List.set_cons_zero]
                apply ls_skip rfl
                simp only [Act.put, List.setIfInBounds_toArray, List.set_cons_succ, List.set_cons_zero]
                apply ls_skip rfl
                simp only [Act.put, List.setIfInBounds_toArray, List.set_cons_succ, List.set_cons_zero]
                apply ls_skip rfl
                simp only [Act.put, List.setIfInBounds_toArray, List.set_cons_succ, List.set_cons_zero]
                apply ls_skip rfl
                simp only [Act.put, List.setIfInBounds_toArray, List.set_cons_succ, List.set_cons_zero]
                apply ls_skip rfl
                simp only [Act.put, List.setIfInBounds_toArray, List.set_cons_succ, List.set_cons_zero]
                apply ls_skip rfl
                simp only [Act.put, List.setIfInBounds_toArray, List.set_cons_succ, List.set_cons_zero]
                apply ls_pure (.bool false) rfl (by intro W; go_simp)
                simp only [Act.put, List.setIfInBounds_toArray, List.set_cons_succ, List.set_cons_zero]
                refine ls_nil (Rs := []) ?_
                intro w8 b8
                have HB8 := Lib.hid (HJ.out.1.then_ b8)
                have hne : ¬ (y1.ty = x1.ty ∧ y1.ky = x1.ky) := fun h => by have := HT1.out; rw [h.1] at this; simp at this
                have HNN := Lib.hid (HJS.out hne)
                clear b8 hne
                go_wp2_with fail
                exact ⟨⟨j + 1, by omega, by go_num, Lib.hid ⟨HB8.out, HNN.out⟩⟩, by simp [intOf]; omega⟩
              | true =>
                apply wp_region_ls (by kernel_rfl) (by kernel_rfl)
                apply ls_move (.slice (some ⟨b0, off, none⟩) n c) (.tmp 1) rfl rfl rfl
                simp only [Act.put, List.setIfInBounds_toArray, List.set_cons_succ, List.set_cons_zero]
                apply ls_move (.int .i64 (j : Int)) (.tmp 9) rfl rfl rfl
                simp only [Act.put, List.setIfInBounds_toArray, List.set_cons_succ, List.set_cons_zero]
                apply ls_pure (.pointer (some ⟨b0, off + j * 17, none⟩)) rfl (by intro W; go_simp)
                simp only [Act.put, List.setIfInBounds_toArray, List.set_cons_succ, List.set_cons_zero]
                apply ls_pure (.pointer (some ⟨b0, off + j * 17 + 2, none⟩)) rfl (by intro W; go_simp)
                simp only [Act.put, List.setIfInBounds_toArray, List.set_cons_succ, List.set_cons_zero]
                apply ls_rd (.string ⟨y1.ty.toArray⟩) rfl (by intro W hW; have c := hW.cell (p := ⟨b0, off + j * 17 + 2, none⟩) HY.out.2.2; rw [HY.out.1] at c; go_simp)
                simp only [Act.put, List.setIfInBounds_toArray, List.set_cons_succ, List.set_cons_zero]
                apply ls_pure (.pointer (some ⟨g6, 2, none⟩)) rfl (by intro W; go_simp)
                simp only [Act.put, List.setIfInBounds_toArray, List.set_cons_succ, List.set_cons_zero]
                apply ls_rd (.string ⟨x1.ty.toArray⟩) rfl (by intro W hW; have c := hW.cell (p := ⟨g6, 2, none⟩) HX6.out.2.2; rw [HX6.out.1] at c; go_simp)
                simp only [Act.put, List.setIfInBounds_toArray, List.set_cons_succ, List.set_cons_zero]
                apply ls_pure (.bool true) rfl (by intro W; have h := HT1.out; first | (go_simp; done) | (go_simp; exact h) | (go_simp; simp [h]))
                simp only [Act.put, List.setIfInBounds_toArray, List.set_cons_succ, List.set_cons_zero]
                apply ls_move (.bool true) (.tmp 47) rfl rfl rfl
                simp only [Act.put, List.setIfInBounds_toArray, List.set_cons_succ, List.set_cons_zero]
                apply ls_move (.slice (some ⟨b0, off, none⟩) n c) (.tmp 1) rfl rfl rfl
                simp only [Act.put, List.setIfInBounds_toArray, List.set_cons_succ, List.set_cons_zero]
                apply ls_move (.int .i64 (j : Int)) (.tmp 9) rfl rfl rfl
                simp only [Act.put, List.setIfInBounds_toArray, List.set_cons_succ, List.set_cons_zero]
                apply ls_pure (.pointer (some ⟨b0, off + j * 17, none⟩)) rfl (by intro W; go_simp)
                simp only [Act.put, List.setIfInBounds_toArray, List.set_cons_succ, List.set_cons_zero]
                apply ls_pure (.pointer (some ⟨b0, off + j * 17 + 4, none⟩)) rfl (by intro W; go_simp)
                simp only [Act.put, List.setIfInBounds_toArray, List.set_cons_succ, List.set_cons_zero]
                apply ls_rd (.string ⟨y1.ky.toArray⟩) rfl (by intro W hW; have c := hW.cell (p := ⟨b0, off + j * 17 + 4, none⟩) HY.out.2.2; rw [HY.out.2.1] at c; go_simp)
                simp only [Act.put, List.setIfInBounds_toArray, List.set_cons_succ, List.set_cons_zero]
                apply ls_pure (.pointer (some ⟨g6, 4, none⟩)) rfl (by intro W; go_simp)
                simp only [Act.put, List.setIfInBounds_toArray, List.set_cons_succ, List.set_cons_zero]
                apply ls_rd (.string ⟨x1.ky.toArray⟩) rfl (by intro W hW; have c := hW.cell (p := ⟨g6, 4, none⟩) HX6.out.2.2; rw [HX6.out.2.1] at c; go_simp)
                simp only [Act.put, List.setIfInBounds_toArray, List.set_cons_succ, List.set_cons_zero]
                apply ls_pure (.bool t2) rfl (by intro W; rw [← HT2.out]; go_simp)
                simp only [Act.put, List.setIfInBounds_toArray, List.set_cons_succ, List.set_cons_zero]
                apply ls_pure (.bool t2) rfl (by intro W; go_simp)
                simp only [Act.put, List.setIfInBounds_toArray, List.set_cons_succ, List.set_cons_zero]
                refine ls_nil (Rs := []) ?_
                intro w8 b8
                have HB8 := Lib.hid (HJ.out.1.then_ b8)
                clear b8
                cases t2 with
                | true =>
                  have hm : (x1.ty, x1.ky) ∈ (l.take k).map prE := List.mem_map.2 ⟨(y1, y2), by
                    refine List.mem_of_getElem? (i := j) ?_
                    rw [List.getElem?_take, if_pos hjk]; exact HYK.out, by
                    show (y1.ty, y1.ky) = (x1.ty, x1.ky)
                    rw [show y1.ty = x1.ty by simpa using HT1.out, show y1.ky = x1.ky by simpa using HT2.out]⟩
                  have HF := Lib.hid (HBAD.out (okAt.twice HXK.out hm))
                  clear hm
                  go_wp2_with fail
                  go_ret
                  exact ⟨false, rfl, ⟨fun h => (by cases h), fun h => absurd h HF.out⟩, H6.out.2.2.then_ HB8.out⟩
                | false =>
                  have hne : ¬ (y1.ty = x1.ty ∧ y1.ky = x1.ky) := fun h => by have := HT2.out; rw [h.2] at this; simp at this
                  have HNN := Lib.hid (HJS.out hne)
                  clear hne
                  go_wp2_with fail
                  exact ⟨⟨j + 1, by omega, by go_num, Lib.hid ⟨HB8.out, HNN.out⟩⟩, by simp [intOf]; omega⟩
            · obtain rfl : k = j := by omega
              have H8 := Lib.hid (And.intro (H6.out.1.later HJ.out.1) (And.intro (H6.out.2.1.later HJ.out.1) (H6.out.2.2.then_ HJ.out.1)))
              have hOK : okAt ps l k := ⟨(x1, x2), HXK.out, HST.out, of_decide_eq_true HQ1.out, fun h => by
                obtain ⟨y, hy, e⟩ := List.mem_map.1 h
                exact HJ.out.2 y hy e⟩
              have HOK : Hid (∀ j, j < k + 1 → okAt ps l j) := Lib.hid (fun j hj => by
                rcases Nat.lt_or_ge j k with h | h
                · exact HO.out.2.2.2 j h
                · obtain rfl : j = k := by omega
                  exact hOK)
              have c2 := H8.out.2.1.cell (k := 2) rfl
              clear hOK
              obtain ⟨t3, ht3⟩ : ∃ q, (x1.ty == [109, 46, 114, 111, 111, 109, 46, 99, 114, 101, 97, 116, 101]) = q := ⟨_, rfl⟩
              have HT3 := Lib.hid ht3
              have HCF : Hid ((cf || t3) = true ↔ e.ty = creT ∨ ∃ x ∈ l.take (k + 1), x.1.ty = creT) := Lib.hid (by
                rw [List.take_add_one, HXK.out, Option.toList_some, Bool.or_eq_true, HO.out.2.2.1, ← ht3]
                constructor
                · rintro (h | h)
                  · rcases h with h | ⟨y, hy, h⟩
                    · exact .inl h
                    · exact .inr ⟨y, List.mem_append_left _ hy, h⟩
                  · exact .inr ⟨(x1, x2), List.mem_append_right _ (List.mem_singleton.2 rfl), by simpa [creT] using h⟩
                · rintro (h | ⟨y, hy, h⟩)
                  · exact .inl (.inl h)
                  · rcases List.mem_append.1 hy with hy | hy
                    · exact .inl (.inr ⟨y, hy, h⟩)
                    · rw [List.mem_singleton.1 hy] at h
                      exact .inr (by simpa [creT] using h))
              cases cf with
              | true =>
                clear c2 ht3
                go_wp2_with fail
                exact ⟨⟨k + 1, _, by omega, rfl, by go_num, Lib.hid ⟨H8.out.1, H8.out.2.2, by simpa using HCF.out, HOK.out⟩⟩, by simp [intOf]; omega⟩
              | false =>
                cases t3 with
                | true =>
                  go_wp2_with fail
                  exact ⟨⟨k + 1, _, by omega, rfl, by go_num, Lib.hid ⟨H8.out.1, H8.out.2.2, by simpa using HCF.out, HOK.out⟩⟩, by simp [intOf]; omega⟩
                | false =>
                  go_wp2_with fail
                  exact ⟨⟨k + 1, _, by omega, rfl, by go_num, Lib.hid ⟨H8.out.1, H8.out.2.2, by simpa using HCF.out, HOK.out⟩⟩, by simp [intOf]; omega⟩
    · obtain rfl : n = k := by omega
      have hn := HL.out.2.1.out
      have HR : Hid (RightP e l ↔ cf = true) := Lib.hid (HRP.out.trans ⟨fun h => HO.out.2.2.1.2 (by rw [hn, List.take_length]; exact h.2), fun h => ⟨fun j hj => HO.out.2.2.2 j (by omega), by have := HO.out.2.2.1.1 h; rw [hn, List.take_length] at this; exact this⟩⟩)
      go_wp2_with fail
      go_ret
      exact ⟨cf, rfl, HR.out.symm, HO.out.2.1⟩
end Go.Proofs.YtpleminoiodmgaaDoor
namespace Go.Proofs.YtpleminoiodmgaaDoor
open Go.ChangeShapes Go.WideShapes Go.ChangeAt Go.RowKit Go.IntWalk
set_option linter.unusedVariables false
set_option maxRecDepth 100000

abbrev Own41 := @EvR
def ftG (e : Ev) (l : List (Ev × Ea)) : Lft := Lft.bare fun v => ∃ r, v = .bool r ∧ (r = false → l.length ≤ 40 ∧ (GF e 2048 ∧ risV e.ct = true) ∧ ∀ x ∈ l, GF x.1 2048 ∧ risV x.1.ct = true)
set_option maxHeartbeats 16000000 in
theorem rights_walk (e : Ev) (a : Ea) (A : Option Addr) (n c : Nat) (l : List (Ev × Ea)) (w : World) (he : EOk w e a) (hx : EvR w A n c l) (hT : TabJ w) : Calls Tryd.prog 5 #[.agg (evC e a).toArray, .slice A n c] w fun en w' => en = .returned (.bool true) ∧ Below w.heap.size w w' := by
  have b0 : Below w.heap.size w (w.alloc (.cells (evC e a).toArray 29)) := (Below.refl _ _).alloc (Nat.le_refl _) _
  have HB0 := Lib.hid b0
  have HX := Lib.hid (Blk.new w (evC e a) 29)
  have HE := Lib.hid he
  have HT := Lib.hid hT
  have HL := Lib.hid hx
  obtain ⟨rb, hrb⟩ : ∃ rb : Bool, rb = true ↔ RightP e l := by
    by_cases h : RightP e l
    · exact ⟨true, ⟨fun _ => h, fun _ => rfl⟩⟩
    · exact ⟨false, ⟨fun h2 => (by cases h2), fun h2 => absurd h2 h⟩⟩
  have HRB := Lib.hid hrb
  have hfin : ∀ {W : World} {en : Ending} {W' : World}, RtPost (RightP e l) W en W' → ∃ v, en = .returned v ∧ (Lft.bare (· = .bool rb)).R v ∧ (Lft.bare (· = .bool rb)).M v W' ∧ Below W.heap.size W W' := by
    rintro W en W' ⟨r, rfl, hr, hb⟩
    have : r = rb := by
      cases r <;> cases rb <;> first | rfl | (exfalso; have h1 := hr.trans hrb.symm; simp at h1)
    subst this
    exact ⟨_, rfl, rfl, trivial, hb⟩
  have HFIN : Hid (∀ (W : World) (en : Ending) (W' : World), RtPost (RightP e l) W en W' → ∃ v, en = .returned v ∧ (Lft.bare (· = .bool rb)).R v ∧ (Lft.bare (· = .bool rb)).M v W' ∧ Below W.heap.size W W') := Lib.hid (fun W en W' h => hfin h)
  clear he hT b0 hx hrb hfin
  go_enter Tryd.func5, Tryd.ntmps5
  go_wp2_with fail
  refine (alive_calls _).mono ?_
  rintro en w1 ⟨rfl, hb⟩
  have HB1 := Lib.hid (HB0.out.then_ hb)
  have HX1 := Lib.hid (HX.out.later hb)
  clear hb
  go_upto_region 3 with fail
  apply wp_region_lk (by kernel_rfl) (by kernel_rfl)
  apply lk_load 29 (.tmp 2) rfl w.heap.size 0 (evC e a) _ HX1.out.rng HX1.out.lt Tryd.underlying29 rfl (size_ev e a) rfl rfl
  simp only [Act.put, List.setIfInBounds_toArray, List.set_cons_succ, List.set_cons_zero]
  apply lk_move (.slice A n c) (.tmp 1) rfl rfl rfl
  simp only [Act.put, List.setIfInBounds_toArray, List.set_cons_succ, List.set_cons_zero]
  apply lk_call (ftG e l) 7 #[.agg (evC e a).toArray, .slice A n c] rfl (by intro W; go_simp) (fun W hW => (greatL_calls e a A n c l W (HE.out.below (HB1.out.then_ hW)) (HL.out.below (HB1.out.then_ hW)) (HT.out.below (HB1.out.then_ hW))).mono fun en W' ⟨r, h1, h2, h3⟩ => ⟨_, h1, ⟨r, rfl, h2⟩, trivial, h3⟩)
  rintro _ ⟨r, rfl, hr⟩
  simp only [Act.put, List.setIfInBounds_toArray, List.set_cons_succ, List.set_cons_zero]
  apply lk_move_in (ftG e l).R (.tmp 9) rfl rfl ⟨r, rfl, hr⟩
  clear hr
  rintro _ ⟨r, rfl, hr⟩
  simp only [Act.put, List.setIfInBounds_toArray, List.set_cons_succ, List.set_cons_zero]
  cases r with
  | false =>
    obtain ⟨h40, ⟨hgf, hri⟩, -⟩ := hr rfl
    have hbk : e.ct.bulk ≤ 50000 := by obtain ⟨T, _, _, h, _⟩ := hgf; omega
    have h41 : n ≤ 40 := by rw [HL.out.2.1.out]; exact h40
    have HH := Lib.hid (And.intro h41 (And.intro hri hbk))
    clear hgf hri hbk h40 h41 hr
    apply lk_load 29 (.tmp 2) rfl w.heap.size 0 (evC e a) _ HX1.out.rng HX1.out.lt Tryd.underlying29 rfl (size_ev e a) rfl rfl
    simp only [Act.put, List.setIfInBounds_toArray, List.set_cons_succ, List.set_cons_zero]
    apply lk_move (.slice A n c) (.tmp 1) rfl rfl rfl
    simp only [Act.put, List.setIfInBounds_toArray, List.set_cons_succ, List.set_cons_zero]
    apply lk_call (Lft.bare (· = .bool rb)) 14 #[.agg (evC e a).toArray, .slice A n c] rfl (by intro W; go_simp) (fun W hW => (right_calls e a A n c l W (HE.out.below (HB1.out.then_ hW)) (HL.out.below (HB1.out.then_ hW)) HH.out.1 HH.out.2.1 HH.out.2.2).mono fun en W' h => HFIN.out W en W' h)
    simp only [Act.put, List.setIfInBounds_toArray, List.set_cons_succ, List.set_cons_zero]
    rintro _ rfl
    apply lk_load 29 (.tmp 2) rfl w.heap.size 0 (evC e a) _ HX1.out.rng HX1.out.lt Tryd.underlying29 rfl (size_ev e a) rfl rfl
    simp only [Act.put, List.setIfInBounds_toArray, List.set_cons_succ, List.set_cons_zero]
    apply lk_move (.slice A n c) (.tmp 1) rfl rfl rfl
    simp only [Act.put, List.setIfInBounds_toArray, List.set_cons_succ, List.set_cons_zero]
    apply lk_call (Lft.bare (· = .bool rb)) 15 #[.agg (evC e a).toArray, .slice A n c] rfl (by intro W; go_simp) (fun W hW => (refright_calls e a A n c l W (HE.out.below (HB1.out.then_ hW)) (HL.out.below (HB1.out.then_ hW)) HH.out.1).mono fun en W' h => HFIN.out W en W' h)
    simp only [Act.put, List.setIfInBounds_toArray, List.set_cons_succ, List.set_cons_zero]
    rintro _ rfl
    apply lk_pure (.bool true) rfl (by intro W; cases rb <;> go_simp)
    simp only [Act.put, List.setIfInBounds_toArray, List.set_cons_succ, List.set_cons_zero]
    apply lk_pure (.bool true) rfl (by intro W; go_simp)
    simp only [Act.put, List.setIfInBounds_toArray, List.set_cons_succ, List.set_cons_zero]
    apply lk_assign (.bool true) (.tmp 18) rfl rfl rfl
    simp only [Act.put, List.setIfInBounds_toArray, List.set_cons_succ, List.set_cons_zero]
    refine lk_nil (Fs := []) ?_
    intro w5 hb5 hz
    have HB5 := Lib.hid (HB1.out.then_ hb5)
    clear hb5 hz
    go_wp2_with fail
    go_ret
    exact ⟨rfl, HB5.out⟩
  | true =>
    clear hr
    apply lk_skip rfl
    simp only [Act.put, List.setIfInBounds_toArray, List.set_cons_succ, List.set_cons_zero]
    apply lk_skip rfl
    simp only [Act.put, List.setIfInBounds_toArray, List.set_cons_succ, List.set_cons_zero]
    apply lk_skip rfl
    simp only [Act.put, List.setIfInBounds_toArray, List.set_cons_succ, List.set_cons_zero]
    apply lk_skip rfl
    simp only [Act.put, List.setIfInBounds_toArray, List.set_cons_succ, List.set_cons_zero]
    apply lk_skip rfl
    simp only [Act.put, List.setIfInBounds_toArray, List.set_cons_succ, List.set_cons_zero]
    apply lk_skip rfl
    simp only [Act.put, List.setIfInBounds_toArray, List.set_cons_succ, List.set_cons_zero]
    apply lk_skip rfl
    simp only [Act.put, List.setIfInBounds_toArray, List.set_cons_succ, List.set_cons_zero]
    apply lk_pure (.bool true) rfl (by intro W; go_simp)
    simp only [Act.put, List.setIfInBounds_toArray, List.set_cons_succ, List.set_cons_zero]
    apply lk_assign (.bool true) (.tmp 18) rfl rfl rfl
    simp only [Act.put, List.setIfInBounds_toArray, List.set_cons_succ, List.set_cons_zero]
    refine lk_nil (Fs := []) ?_
    intro w5 hb5 hz
    have HB5 := Lib.hid (HB1.out.then_ hb5)
    clear hb5 hz
    go_wp2_with fail
    go_ret
    exact ⟨rfl, HB5.out⟩
theorem pickRights_open1 {H : Type} {enc : TypeId × Value → H} {w : World} {base : Nat} {held : Bool} {A : Option Addr} {n c : Nat} {d : DataW H} {p : List MemPlace}
    (h : DataW.Trod enc Tryd.prog w base (fun _ => true) held 41 (.slice A n c) d p) (hwt : ∀ q ∈ d.weights Tryd.prog 41, q ≤ reachBytes) : ∃ xs, Own41 w A n c xs := events_open h hwt
theorem pickRights_walk (e : Ev) (a : Ea) {w : World} (he : EOk w e a) (A : Option Addr) (n c : Nat) (l : List (Ev × Ea)) (hx : Own41 w A n c l) (hT : TabJ w) :
    Calls Tryd.prog 5 #[.agg (evC e a).toArray, .slice A n c] w fun e w' => e = .returned (.bool true) ∧ Below w.heap.size w w' := rights_walk e a A n c l w he hx hT
end Go.Proofs.YtpleminoiodmgaaDoor
