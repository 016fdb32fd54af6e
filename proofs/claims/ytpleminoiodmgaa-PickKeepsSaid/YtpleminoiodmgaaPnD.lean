/- Layer 16: it lives; the law PickKeeps. -/
import Derived.Test.YtpleminoiodmgaaPnC
import Derived.Test.YtpleminoiodmgaaPkS
namespace Go.Proofs.Ytpleminoiodmgaa
open Go.ChangeShapes Go.WideShapes Go.ChangeAt Go.RowKit Go.IntWalk
set_option linter.unusedVariables false
set_option maxRecDepth 100000

set_option maxHeartbeats 4000000 in
theorem alive_calls (w : World) : Calls Try.prog 15 #[] w fun e w' => e = .returned (.bool true) ∧ Below w.heap.size w w' := by
  go_enter Try.func15, Try.ntmps15
  go_wp2_with fail
  refine (needed_other [64, 97, 58, 120] [109, 46, 114, 111, 111, 109, 46, 109, 101, 115, 115, 97, 103, 101] _ _ _ _ _ _ _ _ _ _ _ _ _ _ _ w (by decide) (by decide)).mono ?_
  rintro e w1 ⟨⟨g, cap, he, h1, h2, h3, h4, h5⟩, b1⟩
  have he2 : e = .returned (.slice (some ⟨g, 0, none⟩) 3 cap) := he
  subst he2
  have h33 : 3 ≤ cap := h3
  have c2 := h5 1 (by show 1 < 3; decide) 0 _ rfl
  have c3 := h5 1 (by show 1 < 3; decide) 1 _ rfl
  have c4 := h5 2 (by show 2 < 3; decide) 0 _ rfl
  have c5 := h5 2 (by show 2 < 3; decide) 1 _ rfl
  have k2 : w1.cell? ⟨g, 2, none⟩ = some (.string ⟨#[109, 46, 114, 111, 111, 109, 46, 109, 101, 109, 98, 101, 114]⟩) := c2
  have k3 : w1.cell? ⟨g, 3, none⟩ = some (.string ⟨#[64, 97, 58, 120]⟩) := c3
  have k4 : w1.cell? ⟨g, 4, none⟩ = some (.string ⟨#[109, 46, 114, 111, 111, 109, 46, 112, 111, 119, 101, 114, 95, 108, 101, 118, 101, 108, 115]⟩) := c4
  have k5 : w1.cell? ⟨g, 5, none⟩ = some (.string ⟨#[]⟩) := c5
  have HB := Lib.hid b1
  clear h3 h5 c2 c3 c4 c5 b1 he
  go_wp2_with fail
  go_ret
  exact ⟨rfl, HB.out⟩
theorem Sls.left {w : World} {A : Option Addr} {n m c : Nat} {xs ys : List Slt} (h : Sls w A n c (xs ++ ys)) (hm : m = xs.length) : Sls w A m c xs := by
  obtain ⟨h1, h2, h3, h4, h5⟩ := h
  have h2' := h2.out
  rw [List.length_append] at h2'
  refine ⟨fun k v hk => h1 k v ?_, Lib.hid hm, by omega, h4, fun x hx => h5 x (List.mem_append_left _ hx)⟩
  rw [slC_app, List.getElem?_append_left (List.getElem?_eq_some_iff.1 hk).1]; exact hk
theorem putF_pos (l : List Slt) (s : Slt) : 1 ≤ (putF l s).length := by unfold putF; simp only [List.length_append, List.length_cons]; omega
def sparS : Slt := ⟨[], [], [115, 112, 97, 114, 101]⟩
set_option maxHeartbeats 16000000 in
theorem keeps_walk (A : Option Addr) (n c : Nat) (xs : List Slt) {w : World} (hx : Own22 w A n c xs) (s : Slt) (hs : s.ok) :
    Calls Try.prog 5 #[.slice A n c, s.val] w fun e w' => e = .returned (.bool true) ∧ Below w.heap.size w w' := by
  have HX := Lib.hid hx
  have hnm : n ≤ 9223372036854775807 := Nat.le_trans hx.2.2.1 hx.2.2.2.1
  have HS := Lib.hid hs
  clear hx hs
  obtain ⟨st, sk, si⟩ := s
  unfold Slt.val
  dsimp only
  go_enter Try.func5, Try.ntmps5
  go_wp2_with fail
  obtain ⟨wa, hwa⟩ : ∃ x, x = w.alloc (.cells #[.string ⟨st.toArray⟩, .string ⟨sk.toArray⟩, .string ⟨si.toArray⟩] 24) := ⟨_, rfl⟩
  have hpb : Blk wa w.heap.size 24 [.string ⟨st.toArray⟩, .string ⟨sk.toArray⟩, .string ⟨si.toArray⟩] := by rw [hwa]; exact Blk.new w _ _
  have hba : Below w.heap.size w wa := by rw [hwa]; exact (Below.refl _ _).alloc (Nat.le_refl _) _
  rw [← hwa]
  have HA := Lib.hid (And.intro hba hpb)
  clear hba hpb hwa
  refine (alive_calls wa).mono ?_
  rintro e w1 ⟨rfl, b1⟩
  have H1 := Lib.hid (And.intro (HA.out.1.then_ b1) (HA.out.2.later b1))
  clear b1
  go_wp2_with fail
  refine (long_calls A n c xs w1 (Sls.below HX.out H1.out.1)).mono ?_
  rintro e w2 ⟨r, rfl, hr, b2⟩
  have H2 := Lib.hid (And.intro (H1.out.1.then_ b2) (H1.out.2.later b2))
  clear b2
  cases r with
  | true =>
    clear hr
    go_wp2_with fail
    go_ret
    exact ⟨rfl, H2.out.1⟩
  | false =>
    have HN : Hid (n ≤ 8192) := Lib.hid (by rw [HX.out.2.1.out]; exact hr rfl)
    have d0 := H2.out.2.cell (k := 0) rfl
    have d1 := H2.out.2.cell (k := 1) rfl
    have d2 := H2.out.2.cell (k := 2) rfl
    clear hr
    go_wp2_with fail
    refine (long_calls (some ⟨w2.heap.size, 0, none⟩) 1 1 [⟨st, sk, si⟩] _ ⟨RV.of_blk (Blk.new w2 (Slt.cells ⟨st, sk, si⟩) 24), Lib.hid rfl, Nat.le_refl _, by decide, by simpa using HS.out⟩).mono ?_
    rintro e w3 ⟨r, rfl, _, b3⟩
    have H3 := Lib.hid (And.intro (H2.out.1.then_ (Below.of_alloc b3)) (H2.out.2.later (Below.of_alloc b3)))
    clear b3 d0 d1 d2
    cases r with
    | true =>
      go_wp2_with fail
      go_ret
      exact ⟨rfl, H3.out.1⟩
    | false =>
      go_wp2_with fail
      refine (refGood_calls A n c xs w3 (Sls.below HX.out H3.out.1)).mono ?_
      rintro e w5 ⟨r, rfl, hr1, b5⟩
      have H5 := Lib.hid (And.intro (H3.out.1.then_ b5) (H3.out.2.later b5))
      clear b5
      cases r with
      | false =>
        go_wp2_with fail
        go_ret
        exact ⟨rfl, H5.out.1⟩
      | true =>
        have HRise : Hid (Rise xs) := Lib.hid (hr1.1 rfl).rise
        clear hr1
        have hne : HX = HX := rfl
        cases A with
        | none =>
          have hxs : xs = [] := by
            cases xs with
            | nil => rfl
            | cons y l =>
              obtain ⟨b, off, h1, _⟩ := HX.out.1 0 (strV y.t) rfl
              cases h1
          have hn0 : n = 0 := by rw [HX.out.2.1.out, hxs]; rfl
          subst hxs
          subst hn0
          go_upto_region 6 with (at_builtin; refine wpList_append_slot rfl _ _ rfl w5.heap.size (.slice (some ⟨w5.heap.size, 0, none⟩) 0 0) [] rfl (OwnS.empty (Nat.le_refl _)) sparS _ rfl (by show Value.slice (some ⟨w5.heap.size + 1, 0, none⟩) 1 1 = _; simp) (by decide) (by simp) ?_; intro v7 w7 h7 g7; (have h8 := Lib.hid (And.intro (show OwnS w5.heap.size w7 v7 ([] ++ [sparS]) from h7) (Below.own_grown ((Below.refl w5.heap.size w5).alloc (Nat.le_refl _) _) (OwnS.empty (Nat.le_refl _)) g7 (by simp)))); clear h7 g7)
          have HOK : ∀ x ∈ ([] : List Slt) ++ [sparS], x.ok := fun x hx => by
            rcases List.mem_append.1 hx with h | h
            · exact HX.out.2.2.2.2 x h
            · rw [List.mem_singleton] at h; subst h; exact ⟨by decide, by decide, by decide⟩
          obtain ⟨A7, c7, rfl, hs7⟩ := h8.out.1.form HOK
          obtain ⟨L7, hL7⟩ : ∃ L7, (([] : List Slt) ++ [sparS]).length = L7 := ⟨_, rfl⟩
          rw [hL7] at hs7 h8 ⊢
          have hLn : L7 = 0 + 1 := by rw [← hL7, List.length_append, ← HX.out.2.1.out]; rfl
          subst hLn
          obtain ⟨b7, o7, rfl, hb7, r7⟩ := slot_row (k := 0) hs7.1 (Below.refl _ _) (by omega)
          have HSP := Lib.hid (show w7.rangeAt b7 (o7 + 0 * 3) [.string ⟨#[]⟩, .string ⟨#[]⟩, .string ⟨#[115, 112, 97, 114, 101]⟩] by
            have e : (([] : List Slt) ++ [sparS])[0]'(by omega) = sparS := by rw [List.getElem_append_right (by have := HX.out.2.1.out; omega)]; exact List.getElem_singleton _
            rw [e] at r7; exact r7)
          have hc7 : 0 + 1 ≤ c7 := hs7.2.2.1
          have hc8 : c7 ≤ 9223372036854775807 := hs7.2.2.2.1
          have HM := Lib.hid (hs7.left HX.out.2.1.out)
          have HB7 := Lib.hid (H5.out.1.then_ h8.out.2)
          have HP7 := Lib.hid (H5.out.2.later h8.out.2)
          have HPUT : Hid (∀ W, Below w7.heap.size w7 W → Calls Try.prog 6 #[.slice (some ⟨b7, o7, none⟩) 0 c7, .agg #[.string ⟨st.toArray⟩, .string ⟨sk.toArray⟩, .string ⟨si.toArray⟩]] W (PutPost (putF ([] : List Slt) ⟨st, sk, si⟩) W)) := Lib.hid (fun W hW => put_calls _ 0 c7 ([] : List Slt) ⟨st, sk, si⟩ W (Sls.below HM.out hW) HN.out HRise.out)
          obtain ⟨d0, d1, d2⟩ := cells3 HP7.out
          clear r7 hs7 h8 hL7 HOK
          go_region_with ((go_at_call 6; (with_reducible refine (HPUT.out _ (by first | exact Below.refl _ _ | exact (Below.refl _ _).drew | exact ((Below.refl _ _).drew).drew)).mono ?_); rintro e w8 ⟨v8, rfl, h9, b8⟩; have b78 : Below w7.heap.size w7 w8 := (by first | exact b8 | exact ((Below.refl _ _).drew).then_ b8 | exact ((Below.refl _ _).drew.drew).then_ b8); have h9' : OwnS w7.heap.size w8 v8 (putF ([] : List Slt) ⟨st, sk, si⟩) := h9; have K8 := Lib.hid (And.intro h9' b78); clear h9 h9' b8 b78))
          all_goals
            obtain ⟨p, hp⟩ : ∃ p, putF ([] : List Slt) ⟨st, sk, si⟩ = p := ⟨_, rfl⟩
            have hp1 : 1 ≤ p.length := by rw [← hp]; exact putF_pos _ _
            rw [hp] at K8
            obtain ⟨hlc, hrow⟩ := K8.out.1
            rcases hrow with ⟨_, h0⟩ | ⟨g, cap, cur, hv, hgb, hgh, hpc, hcm, hcs, _⟩
            · omega
            subst hv
            obtain ⟨m, hm⟩ : ∃ m, p.length = m := ⟨_, rfl⟩
            rw [hm] at hp1 hpc K8 ⊢
            have hBL : Blk w8 g 24 cur.toList := hgh
            have HBL := Lib.hid hBL
            have HCL := Lib.hid (show m * 3 ≤ cur.toList.length by rw [Array.length_toList, hcs]; exact Nat.mul_le_mul_right 3 hpc)
            have HGB := Lib.hid hgb
            have HB8 := Lib.hid K8.out.2
            have hm63 : m ≤ 9223372036854775807 := Nat.le_trans hpc hcm
            clear hlc hgb hgh hcm hcs hBL hp hm d0 d1 d2 HPUT K8
            go_wp2_with fail
            go_loopw [36] (fun i wr => ∃ k : Nat, k ≤ m ∧ i = .int .i64 (k : Int) ∧ Hid (Below w7.heap.size w7 wr) ∧ Hid (∃ cs, Blk wr g 24 cs ∧ m * 3 ≤ cs.length)) (fun i _ => m - (intOf i).toNat)
            case atStart => exact ⟨0, Nat.zero_le _, rfl, HB8, Lib.hid ⟨_, HBL.out, HCL.out⟩⟩
            case round =>
              obtain ⟨wq, hwq⟩ : ∃ x, x = wr := ⟨_, rfl⟩
              subst hwq
              obtain ⟨k, hk, rfl, hbe, hbk⟩ := hrel
              by_cases hlt : k < m
              · obtain ⟨cs, hcs, hcl⟩ := hbk.out
                have e0 := hcs.cell (List.getElem?_eq_getElem (show k * 3 < cs.length by omega))
                have e1 := hcs.cell (List.getElem?_eq_getElem (show k * 3 + 1 < cs.length by omega))
                have e2 := hcs.cell (List.getElem?_eq_getElem (show k * 3 + 2 < cs.length by omega))
                have f0 := hcs.frozen (k * 3)
                have f1 := hcs.frozen (k * 3 + 1)
                have f2 := hcs.frozen (k * 3 + 2)
                have HBF := Lib.hid (((hbe.out.setCell (p := ⟨g, k * 3, none⟩) HGB.out (.string ⟨#[]⟩)).setCell (p := ⟨g, k * 3 + 1, none⟩) HGB.out (.string ⟨#[]⟩)).setCell (p := ⟨g, k * 3 + 2, none⟩) HGB.out (.string ⟨#[]⟩))
                have HBK := Lib.hid (show ∃ cs2, Blk (((wq.setCell ⟨g, k * 3, none⟩ (.string ⟨#[]⟩)).setCell ⟨g, k * 3 + 1, none⟩ (.string ⟨#[]⟩)).setCell ⟨g, k * 3 + 2, none⟩ (.string ⟨#[]⟩)) g 24 cs2 ∧ m * 3 ≤ cs2.length from ⟨_, ((hcs.set_ (k * 3) (.string ⟨#[]⟩)).set_ (k * 3 + 1) (.string ⟨#[]⟩)).set_ (k * 3 + 2) (.string ⟨#[]⟩), by simp only [List.length_set]; exact hcl⟩)
                generalize cs[k * 3] = u0 at e0
                generalize cs[k * 3 + 1] = u1 at e1
                generalize cs[k * 3 + 2] = u2 at e2
                clear hcs hcl hbk
                go_wp2_with fail
                go_roundw
                case rel =>
                  first
                    | exact ⟨k + 1, by omega, by go_num, HBF, HBK⟩
                    | (repeat apply Exists.intro
                       refine ⟨⟨?e0, ?e1, HBF, HBK⟩, ?f1⟩
                       case f1 => rfl
                       case e1 => go_num
                       case e0 => omega)
                    | fail
                case measure => simp [intOf]; omega
              · obtain rfl : m = k := by omega
                have hsp := HSP.out 2 _ rfl
                have k2 : wq.cell? ⟨b7, o7 + 0 * 3 + 2, none⟩ = some (.string ⟨#[115, 112, 97, 114, 101]⟩) := (hbe.out.cell (p := ⟨b7, o7 + 0 * 3 + 2, none⟩) hb7).trans hsp
                have HSM := Lib.hid (same_calls (some ⟨b7, o7, none⟩) 0 c7 none 0 c ([] : List Slt) wq (Sls.below HM.out hbe.out) (Sls.below HX.out (HB7.out.then_ hbe.out)))
                have HBQ := Lib.hid (HB7.out.then_ hbe.out)
                have hbq := HBQ.out.size
                have hb7q : b7 < wq.heap.size := by have := hbe.out.size; omega
                clear hsp hbe hbk
                go_wp2_with fail
                refine HSM.out.mono ?_
                rintro e w9 ⟨rfl, b9⟩
                have k3 := (b9.cell (p := ⟨b7, o7 + 0 * 3 + 2, none⟩) hb7q).trans k2
                have HBZ := Lib.hid (HBQ.out.then_ b9)
                clear b9 k2
                go_wp2_with fail
                go_ret
                exact ⟨rfl, HBZ.out⟩
        | some A0 =>
          go_upto_region 6 with (at_builtin; first
            | (refine wpList_append_slots rfl _ _ rfl w5.heap.size _ _ rfl (OwnS.empty (Nat.le_refl _)) A0 n c xs rfl ((HX.out.1.below H5.out.1).alloc _) HX.out.2.1 (by have := HN.out; simp; omega) (by simp) ?_; intro v6 w6 h6 g6; have h6' := Lib.hid (And.intro (show OwnS w5.heap.size w6 v6 xs from h6) (Below.own_grown ((Below.refl w5.heap.size w5).alloc (Nat.le_refl _) _) (OwnS.empty (Nat.le_refl _)) g6 (by simp))); clear h6 g6)
            | (refine wpList_append_slot rfl _ _ rfl w5.heap.size v6 xs rfl h6'.out.1 sparS _ rfl rfl (by have := HN.out; have := HX.out.2.1.out; omega) h6'.out.2.size ?_; intro v7 w7 h7 g7; have h8 := Lib.hid (And.intro (show OwnS w5.heap.size w7 v7 (xs ++ [sparS]) from h7) (Below.own_grown h6'.out.2 h6'.out.1 g7 h6'.out.2.size)); clear h7 g7 h6'))
          have HOK : ∀ x ∈ xs ++ [sparS], x.ok := fun x hx => by
            rcases List.mem_append.1 hx with h | h
            · exact HX.out.2.2.2.2 x h
            · rw [List.mem_singleton] at h; subst h; exact ⟨by decide, by decide, by decide⟩
          obtain ⟨A7, c7, rfl, hs7⟩ := h8.out.1.form HOK
          obtain ⟨L7, hL7⟩ : ∃ L7, (xs ++ [sparS]).length = L7 := ⟨_, rfl⟩
          rw [hL7] at hs7 h8 ⊢
          have hLn : L7 = n + 1 := by rw [← hL7, List.length_append, ← HX.out.2.1.out]; rfl
          subst hLn
          obtain ⟨b7, o7, rfl, hb7, r7⟩ := slot_row (k := n) hs7.1 (Below.refl _ _) (by omega)
          have HSP := Lib.hid (show w7.rangeAt b7 (o7 + n * 3) [.string ⟨#[]⟩, .string ⟨#[]⟩, .string ⟨#[115, 112, 97, 114, 101]⟩] by
            have e : (xs ++ [sparS])[n]'(by omega) = sparS := by rw [List.getElem_append_right (by have := HX.out.2.1.out; omega)]; exact List.getElem_singleton _
            rw [e] at r7; exact r7)
          have hc7 : n + 1 ≤ c7 := hs7.2.2.1
          have hc8 : c7 ≤ 9223372036854775807 := hs7.2.2.2.1
          have HM := Lib.hid (hs7.left HX.out.2.1.out)
          have HB7 := Lib.hid (H5.out.1.then_ h8.out.2)
          have HP7 := Lib.hid (H5.out.2.later h8.out.2)
          have HPUT : Hid (∀ W, Below w7.heap.size w7 W → Calls Try.prog 6 #[.slice (some ⟨b7, o7, none⟩) n c7, .agg #[.string ⟨st.toArray⟩, .string ⟨sk.toArray⟩, .string ⟨si.toArray⟩]] W (PutPost (putF xs ⟨st, sk, si⟩) W)) := Lib.hid (fun W hW => put_calls _ n c7 xs ⟨st, sk, si⟩ W (Sls.below HM.out hW) HN.out HRise.out)
          obtain ⟨d0, d1, d2⟩ := cells3 HP7.out
          clear r7 hs7 h8 hL7 HOK
          go_region_with ((go_at_call 6; (with_reducible refine (HPUT.out _ (by first | exact Below.refl _ _ | exact (Below.refl _ _).drew | exact ((Below.refl _ _).drew).drew)).mono ?_); rintro e w8 ⟨v8, rfl, h9, b8⟩; have b78 : Below w7.heap.size w7 w8 := (by first | exact b8 | exact ((Below.refl _ _).drew).then_ b8 | exact ((Below.refl _ _).drew.drew).then_ b8); have h9' : OwnS w7.heap.size w8 v8 (putF xs ⟨st, sk, si⟩) := h9; have K8 := Lib.hid (And.intro h9' b78); clear h9 h9' b8 b78))
          all_goals
            obtain ⟨p, hp⟩ : ∃ p, putF xs ⟨st, sk, si⟩ = p := ⟨_, rfl⟩
            have hp1 : 1 ≤ p.length := by rw [← hp]; exact putF_pos _ _
            rw [hp] at K8
            obtain ⟨hlc, hrow⟩ := K8.out.1
            rcases hrow with ⟨_, h0⟩ | ⟨g, cap, cur, hv, hgb, hgh, hpc, hcm, hcs, _⟩
            · omega
            subst hv
            obtain ⟨m, hm⟩ : ∃ m, p.length = m := ⟨_, rfl⟩
            rw [hm] at hp1 hpc K8 ⊢
            have hBL : Blk w8 g 24 cur.toList := hgh
            have HBL := Lib.hid hBL
            have HCL := Lib.hid (show m * 3 ≤ cur.toList.length by rw [Array.length_toList, hcs]; exact Nat.mul_le_mul_right 3 hpc)
            have HGB := Lib.hid hgb
            have HB8 := Lib.hid K8.out.2
            have hm63 : m ≤ 9223372036854775807 := Nat.le_trans hpc hcm
            clear hlc hgb hgh hcm hcs hBL hp hm d0 d1 d2 HPUT K8
            go_wp2_with fail
            go_loopw [36] (fun i wr => ∃ k : Nat, k ≤ m ∧ i = .int .i64 (k : Int) ∧ Hid (Below w7.heap.size w7 wr) ∧ Hid (∃ cs, Blk wr g 24 cs ∧ m * 3 ≤ cs.length)) (fun i _ => m - (intOf i).toNat)
            case atStart => exact ⟨0, Nat.zero_le _, rfl, HB8, Lib.hid ⟨_, HBL.out, HCL.out⟩⟩
            case round =>
              obtain ⟨wq, hwq⟩ : ∃ x, x = wr := ⟨_, rfl⟩
              subst hwq
              obtain ⟨k, hk, rfl, hbe, hbk⟩ := hrel
              by_cases hlt : k < m
              · obtain ⟨cs, hcs, hcl⟩ := hbk.out
                have e0 := hcs.cell (List.getElem?_eq_getElem (show k * 3 < cs.length by omega))
                have e1 := hcs.cell (List.getElem?_eq_getElem (show k * 3 + 1 < cs.length by omega))
                have e2 := hcs.cell (List.getElem?_eq_getElem (show k * 3 + 2 < cs.length by omega))
                have f0 := hcs.frozen (k * 3)
                have f1 := hcs.frozen (k * 3 + 1)
                have f2 := hcs.frozen (k * 3 + 2)
                have HBF := Lib.hid (((hbe.out.setCell (p := ⟨g, k * 3, none⟩) HGB.out (.string ⟨#[]⟩)).setCell (p := ⟨g, k * 3 + 1, none⟩) HGB.out (.string ⟨#[]⟩)).setCell (p := ⟨g, k * 3 + 2, none⟩) HGB.out (.string ⟨#[]⟩))
                have HBK := Lib.hid (show ∃ cs2, Blk (((wq.setCell ⟨g, k * 3, none⟩ (.string ⟨#[]⟩)).setCell ⟨g, k * 3 + 1, none⟩ (.string ⟨#[]⟩)).setCell ⟨g, k * 3 + 2, none⟩ (.string ⟨#[]⟩)) g 24 cs2 ∧ m * 3 ≤ cs2.length from ⟨_, ((hcs.set_ (k * 3) (.string ⟨#[]⟩)).set_ (k * 3 + 1) (.string ⟨#[]⟩)).set_ (k * 3 + 2) (.string ⟨#[]⟩), by simp only [List.length_set]; exact hcl⟩)
                generalize cs[k * 3] = u0 at e0
                generalize cs[k * 3 + 1] = u1 at e1
                generalize cs[k * 3 + 2] = u2 at e2
                clear hcs hcl hbk
                go_wp2_with fail
                go_roundw
                case rel =>
                  first
                    | exact ⟨k + 1, by omega, by go_num, HBF, HBK⟩
                    | (repeat apply Exists.intro
                       refine ⟨⟨?e0, ?e1, HBF, HBK⟩, ?f1⟩
                       case f1 => rfl
                       case e1 => go_num
                       case e0 => omega)
                    | fail
                case measure => simp [intOf]; omega
              · obtain rfl : m = k := by omega
                have hsp := HSP.out 2 _ rfl
                have k2 : wq.cell? ⟨b7, o7 + n * 3 + 2, none⟩ = some (.string ⟨#[115, 112, 97, 114, 101]⟩) := (hbe.out.cell (p := ⟨b7, o7 + n * 3 + 2, none⟩) hb7).trans hsp
                have HSM := Lib.hid (same_calls (some ⟨b7, o7, none⟩) n c7 (some A0) n c xs wq (Sls.below HM.out hbe.out) (Sls.below HX.out (HB7.out.then_ hbe.out)))
                have HBQ := Lib.hid (HB7.out.then_ hbe.out)
                have hbq := HBQ.out.size
                have hb7q : b7 < wq.heap.size := by have := hbe.out.size; omega
                clear hsp hbe hbk
                go_wp2_with fail
                refine HSM.out.mono ?_
                rintro e w9 ⟨rfl, b9⟩
                have k3 := (b9.cell (p := ⟨b7, o7 + n * 3 + 2, none⟩) hb7q).trans k2
                have HBZ := Lib.hid (HBQ.out.then_ b9)
                clear b9 k2
                go_wp2_with fail
                go_ret
                exact ⟨rfl, HBZ.out⟩
theorem pickKeeps_open0 {H : Type} {enc : TypeId × Value → H} {w : World} {base : Nat} {held : Bool} {A : Option Addr} {n c : Nat} {d : DataW H} {p : List MemPlace}
    (h : DataW.Trod enc Try.prog w base (fun _ => true) held 22 (.slice A n c) d p) (hwt : ∀ q ∈ d.weights Try.prog 22, q ≤ reachBytes) : ∃ xs, Own22 w A n c xs := slots_open h hwt
theorem pickKeeps_walk (A : Option Addr) (n c : Nat) (xs : List Slt) {w : World} (hx : Own22 w A n c xs) (s : Slt) (hs : s.ok) :
    Calls Try.prog 5 #[.slice A n c, s.val] w fun e w' => e = .returned (.bool true) ∧ Below w.heap.size w w' := keeps_walk A n c xs hx s hs
end Go.Proofs.Ytpleminoiodmgaa
