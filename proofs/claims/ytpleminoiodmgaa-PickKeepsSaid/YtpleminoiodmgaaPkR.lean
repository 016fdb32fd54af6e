/- Layer 16: PickFills, walked. -/
import Derived.Test.YtpleminoiodmgaaPkQ
namespace Go.Proofs.Ytpleminoiodmgaa
open Go.ChangeShapes Go.WideShapes Go.ChangeAt Go.RowKit Go.IntWalk
set_option linter.unusedVariables false

theorem OwnS.form {base : Nat} {w : World} {v : Value} {xs : List Slt} (h : OwnS base w v xs) (hok : ∀ x ∈ xs, x.ok) : ∃ A c, v = .slice A xs.length c ∧ Sls w A xs.length c xs := by
  obtain ⟨A, n, c, e, hs⟩ := h.sls hok
  have hn := hs.2.1.out
  subst hn
  exact ⟨A, c, e, hs⟩
/-- Slots put together one by one. -/
def fillF (xs : List Slt) (k : Nat) : List Slt := (xs.take k).foldl putF []
theorem fillF_succ {xs : List Slt} {k : Nat} {x : Slt} (h : xs[k]? = some x) : fillF xs (k + 1) = putF (fillF xs k) x := by
  unfold fillF
  rw [List.take_add_one, h, Option.toList_some, List.foldl_append]; rfl
theorem fillF_good (xs : List Slt) (hok : ∀ x ∈ xs, x.ok) : ∀ k, k ≤ xs.length → Rise (fillF xs k) ∧ (fillF xs k).length ≤ k ∧ ∀ x ∈ fillF xs k, x.ok
  | 0, _ => by simp [fillF, Rise]
  | k + 1, hk => by
    obtain ⟨h1, h2, h3⟩ := fillF_good xs hok k (by omega)
    rw [fillF_succ (List.getElem?_eq_getElem (show k < xs.length by omega))]
    refine ⟨putF_rise h1 _, ?_, fun x hx => ?_⟩
    · have := putF_len _ h1 (xs[k]'(by omega)); omega
    · rcases putF_mem hx with h | h
      · exact h3 x h
      · rw [h]; exact hok _ (List.getElem_mem _)
/-- The last slot of a pair so far, and what the state has of it. -/
def LastP (xs : List Slt) (p : Pr) (k : Nat) (cur : Slt) : Prop := cur.pr = p ∧ ((∃ j x, j < k ∧ xs[j]? = some x ∧ x.pr = p) → getF (fillF xs k) p = (cur.i, true))
theorem LastP.step {xs : List Slt} {p : Pr} {k : Nat} {cur x : Slt} (h : LastP xs p k cur) (hx : xs[k]? = some x) : LastP xs p (k + 1) (if x.pr = p then x else cur) := by
  unfold LastP
  rw [fillF_succ hx, getF_putF]
  by_cases hp : x.pr = p
  · rw [if_pos hp, if_pos hp]; exact ⟨hp, fun _ => rfl⟩
  · rw [if_neg hp, if_neg hp]
    refine ⟨h.1, fun ⟨j, y, hj, hy, hyp⟩ => h.2 ⟨j, y, ?_, hy, hyp⟩⟩
    rcases Nat.lt_or_ge j k with h1 | h1
    · exact h1
    · obtain rfl : j = k := by omega
      rw [hx] at hy
      injection hy with hy
      rw [hy] at hp
      exact absurd hyp hp
theorem ok_one : ∀ x ∈ putF [] (Slt.mk [] [] []), x.ok := by
  intro x hx
  rcases putF_mem hx with h | h
  · cases h
  · rw [h]; exact ⟨by simp, by simp, by simp⟩
theorem OwnS.set_ {base g k : Nat} {w : World} {v u : Value} {xs : List Slt} (h : OwnS base w v xs) (hne : v.ownBlock ≠ some g) : OwnS base (w.setCell ⟨g, k, none⟩ u) v xs :=
  World.ownsRow.kept h (gb_setCell w g k u) (.inr hne)
theorem ls_cell {P : Program} {ops : Array Oper} {W0 : World} {Q : Act → Prop} {o : Oper} {rest : List Oper} {Rs : List (Value → Prop)} {a : Act} (ty : TypeId) (x : Operand) (ho : o.op = .load ty x) (b off : Nat) (v : Value) (hc : W0.cell? ⟨b, off, none⟩ = some v) (hb : b < W0.heap.size)
    (hrun : ∀ W : World, W.cell? ⟨b, off, none⟩ = some v → (loadVar ty ⟨b, off, none⟩).run P W = .ok v W) (hw : Region.wanted o (yielded ops a.tmps) = true) (hx : a.eval x = .pointer (some ⟨b, off, none⟩))
    (h2 : wpLs P ops (fun w' => Below W0.heap.size W0 w') Q rest Rs (a.put o.dst v)) :
    wpLs P ops (fun w' => Below W0.heap.size W0 w') Q (o :: rest) ((· = v) :: Rs) a :=
  ls_exact hw (fun W hW => by
    unfold lsAt execOp
    simp only [ho, hx, Instr.loadAt, Instr.sureAddr, Sem.run_bind, Sem.run_pure, Result.andThen_ok, hrun W ((hW.cell (p := ⟨b, off, none⟩) hb).trans hc)]
    exact ⟨rfl, rfl⟩) h2
theorem ls_callw {P : Program} {ops : Array Oper} {W0 : World} {Q : Act → Prop} {o : Oper} {rest : List Oper} {Rs : List (Value → Prop)} {a : Act} (x : Value) (f : FuncId) (args : Array Value) (hw : Region.wanted o (yielded ops a.tmps) = true) (he : ∀ W, (execOp a.eval o).run P W = .ok (.enter f args) W)
    (hc : ∀ W, Below W0.heap.size W0 W → Calls P f args W (fun e W' => e = .returned x ∧ Below W.heap.size W W')) (h2 : wpLs P ops (fun w' => Below W0.heap.size W0 w') Q rest Rs (a.put o.dst x)) :
    wpLs P ops (fun w' => Below W0.heap.size W0 w') Q (o :: rest) ((· = x) :: Rs) a :=
  ls_cons (w0 := W0) (Below.refl _ _) hw (fun W hW => by
    unfold lsAt
    rw [he]
    exact ⟨rfl, (hc W hW).mono fun e W' ⟨h1, hb⟩ => ⟨x, h1, rfl, hW.then_ hb⟩⟩) (fun v hv => by subst hv; exact h2)
theorem pickFills_open0 {H : Type} {enc : TypeId × Value → H} {w : World} {base : Nat} {held : Bool} {A : Option Addr} {n c : Nat} {d : DataW H} {p : List MemPlace}
    (h : DataW.Trod enc Try.prog w base (fun _ => true) held 22 (.slice A n c) d p) (hwt : ∀ q ∈ d.weights Try.prog 22, q ≤ reachBytes) : ∃ xs, Own22 w A n c xs := slots_open h hwt
set_option maxHeartbeats 8000000 in
set_option maxRecDepth 100000 in
theorem pickFills_walk (A : Option Addr) (n c : Nat) (xs : List Slt) {w : World} (hx : Own22 w A n c xs) (z : Int) (hz : (Lit.int .i64 z).wf = true) :
    Calls Try.prog 4 #[.slice A n c, .int .i64 z] w fun e w' => e = .returned (.bool true) ∧ Below w.heap.size w w' := by
  have HX := Lib.hid hx
  have hnm : n ≤ 9223372036854775807 := Nat.le_trans hx.2.2.1 hx.2.2.2.1
  clear hx hz
  go_enter Try.func4, Try.ntmps4
  go_wp2_with fail
  refine (put_calls none 0 0 [] ⟨[], [], []⟩ w ⟨RV.nil _ _, Lib.hid rfl, Nat.le_refl _, by decide, by simp⟩ (by decide) List.Pairwise.nil).mono ?_
  rintro e w1 ⟨v1, rfl, o1, b1⟩
  obtain ⟨A1, c1, rfl, _⟩ := o1.form ok_one
  rw [show (putF [] (Slt.mk [] [] [])).length = 1 from rfl]
  have H1 := Lib.hid b1
  clear o1 b1
  go_wp2_with fail
  refine (long_calls A n c xs w1 (Sls.below HX.out H1.out)).mono ?_
  rintro e w2 ⟨r, rfl, hr, b2⟩
  have H2 := Lib.hid (H1.out.then_ b2)
  clear b2
  cases r with
  | true =>
    clear hr
    go_wp2_with fail
    go_ret
    exact ⟨rfl, H2.out⟩
  | false =>
    clear hr
    by_cases h60 : 60 < n
    · go_wp2_with fail
      go_ret
      exact ⟨rfl, H2.out⟩
    · by_cases hz0 : z < 0
      · go_wp2_with fail
        go_ret
        exact ⟨rfl, H2.out⟩
      · obtain ⟨t, rfl⟩ : ∃ t : Nat, z = (t : Int) := ⟨z.toNat, by omega⟩
        by_cases htn : n ≤ t
        · go_wp2_with fail
          go_ret
          exact ⟨rfl, H2.out⟩
        · have hkn : t < n := by omega
          have t1 : decide (60 < (n : Int)) = false := decide_eq_false (by omega)
          have t2 : decide ((t : Int) < 0) = false := decide_eq_false (by omega)
          have t3 : decide (n ≤ t) = false := decide_eq_false htn
          clear hz0
          go_wp2_with fail
          go_loopw [5, 36] (fun o i wr => ∃ (k : Nat) (v : Value), k ≤ n ∧ v = o ∧ i = .int .i64 (k : Int) ∧ OwnS w.heap.size wr v (fillF xs k) ∧ Below w.heap.size w wr) (fun o i _ => n - (intOf i).toNat)
          case atStart => exact ⟨0, .slice none 0 0, Nat.zero_le _, rfl, rfl, OwnS.nil _ _, H2.out⟩
          case round =>
            obtain ⟨k, v, hk, rfl, rfl, ho, hbe⟩ := hrel
            by_cases hp : k < n
            · have hkx : k < xs.length := by rw [← HX.out.2.1.out]; exact hp
              obtain ⟨b0, off, rfl, hb0, r0⟩ := slot_row HX.out.1 hbe hkx
              have hgx := List.getElem?_eq_getElem hkx
              obtain ⟨x, hxx⟩ : ∃ x, xs[k] = x := ⟨_, rfl⟩
              rw [hxx] at r0 hgx
              obtain ⟨xt, xk, xi⟩ := x
              dsimp only at r0
              have HXK := Lib.hid hgx
              clear hxx hgx
              have e0 := r0 0 _ rfl
              have e1 := r0 1 _ rfl
              have e2 := r0 2 _ rfl
              rw [Nat.add_zero] at e0
              clear r0 hkx
              obtain ⟨hrise, hlen, hok⟩ := fillF_good xs HX.out.2.2.2.2 k (by rw [← HX.out.2.1.out]; exact hk)
              obtain ⟨A2, c2, rfl, hs2⟩ := ho.form hok
              have HO := Lib.hid (And.intro ho (And.intro hbe (And.intro hs2 (And.intro hrise hlen))))
              clear ho hbe hs2 hrise hlen hok
              obtain ⟨m, hm⟩ : ∃ m, (fillF xs k).length = m := ⟨_, rfl⟩
              rw [hm] at HO ⊢
              clear hm
              go_wp2_with fail
              refine (put_calls A2 m c2 (fillF xs k) ⟨xt, xk, xi⟩ _ (HO.out.2.2.1.below ((Below.refl _ _).alloc (Nat.le_refl _) _)) (by have := HO.out.2.2.2.2; omega) HO.out.2.2.2.1).mono ?_
              rintro e w4 ⟨v4, rfl, o4, b4⟩
              have b5 := HO.out.2.1.then_ (Below.of_alloc b4)
              have H5 := Lib.hid (And.intro (show OwnS w.heap.size w4 v4 (fillF xs (k + 1)) by rw [fillF_succ HXK.out]; exact o4.lower (Nat.le_trans HO.out.2.1.size (by simp))) b5)
              clear o4 b4 b5 e0 e1 e2
              go_wp2_with fail
              exact ⟨⟨k + 1, v4, by omega, rfl, by go_num, H5.out.1, H5.out.2⟩, by simp [intOf]; omega⟩
            · have hkn2 : n = k := by omega
              subst hkn2
              have htx : t < xs.length := by rw [← HX.out.2.1.out]; exact hkn
              obtain ⟨b0, off, rfl, hb0, r0⟩ := slot_row HX.out.1 hbe htx
              have hgx := List.getElem?_eq_getElem htx
              obtain ⟨x, hxx⟩ : ∃ x, xs[t] = x := ⟨_, rfl⟩
              rw [hxx] at r0 hgx
              obtain ⟨lt, lk, li⟩ := x
              dsimp only at r0
              have HXT := Lib.hid hgx
              have e0 := r0 0 _ rfl
              have e1 := r0 1 _ rfl
              have e2 := r0 2 _ rfl
              rw [Nat.add_zero] at e0
              obtain ⟨hrise, hlen, hok⟩ := fillF_good xs HX.out.2.2.2.2 n (by rw [← HX.out.2.1.out]; exact Nat.le_refl _)
              have HG := Lib.hid (And.intro hrise (And.intro hlen hok))
              have HO := Lib.hid (And.intro ho hbe)
              have HNE : Hid (v.ownBlock ≠ some wr.heap.size) := Lib.hid (fun e => by have := (ho.lt _ e).2; omega)
              clear r0 hxx hgx htx hrise hlen hok ho
              go_wp2_with fail
              obtain ⟨g8, hg8⟩ : ∃ g, wr.heap.size = g := ⟨_, rfl⟩
              obtain ⟨wb, hwb⟩ : ∃ x, x = wr.alloc (.cells #[.string ⟨lt.toArray⟩, .string ⟨lk.toArray⟩, .string ⟨li.toArray⟩] 24) := ⟨_, rfl⟩
              have hcb : Blk wb g8 24 [.string ⟨lt.toArray⟩, .string ⟨lk.toArray⟩, .string ⟨li.toArray⟩] := by rw [hwb, ← hg8]; exact Blk.new wr _ _
              have HB8 : Hid (w.heap.size ≤ g8 ∧ v.ownBlock ≠ some g8) := Lib.hid ⟨by rw [← hg8]; exact HO.out.2.size, by rw [← hg8]; exact HNE.out⟩
              have HS8 : Hid (OwnS w.heap.size wb v (fillF xs n) ∧ Below w.heap.size w wb) := Lib.hid (by rw [hwb]; exact ⟨HO.out.1.alloc _, HO.out.2.alloc HO.out.2.size _⟩)
              rw [← hwb, hg8]
              have HCB := Lib.hid hcb
              clear hwb hg8 hcb e0 e1 e2 hbe
              go_loopw [50] (fun i wr => ∃ (k : Nat) (cur : Slt), k ≤ n ∧ i = .int .i64 (k : Int) ∧ Blk wr g8 24 [.string ⟨cur.t.toArray⟩, .string ⟨cur.k.toArray⟩, .string ⟨cur.i.toArray⟩] ∧ LastP xs (lt, lk) k cur ∧ OwnS w.heap.size wr v (fillF xs n) ∧ Below w.heap.size w wr) (fun i _ => n - (intOf i).toNat)
              case atStart => exact ⟨0, ⟨lt, lk, li⟩, Nat.zero_le _, rfl, HCB.out, ⟨rfl, fun ⟨j, _, hj, _⟩ => absurd hj (by omega)⟩, HS8.out.1, HS8.out.2⟩
              case round =>
               obtain ⟨k, cur, hk, rfl, hc8, hlp, ho, hbe⟩ := hrel
               obtain ⟨ct, ck, ci⟩ := cur
               dsimp only at hc8
               have HO := Lib.hid (And.intro ho (And.intro hbe hlp))
               clear ho hlp
               by_cases hp : k < n
               · have hkx : k < xs.length := by rw [← HX.out.2.1.out]; exact hp
                 have hrow := slot_row HX.out.1 hbe hkx
                 obtain ⟨b3, off3, eA, hb3, r0⟩ := hrow
                 injection eA with eA; injection eA with eA1 eA2
                 subst eA1; subst eA2
                 have hgx := List.getElem?_eq_getElem hkx
                 obtain ⟨x, hxx⟩ : ∃ x, xs[k] = x := ⟨_, rfl⟩
                 rw [hxx] at r0 hgx
                 obtain ⟨xt, xk, xi⟩ := x
                 dsimp only at r0
                 have HXK := Lib.hid hgx
                 clear hxx hgx hkx
                 have e0 := r0 0 _ rfl
                 have e1 := r0 1 _ rfl
                 have e2 := r0 2 _ rfl
                 rw [Nat.add_zero] at e0
                 clear r0
                 go_upto_region 15 with fail
                 obtain ⟨wv, hwv⟩ : ∃ x, x = wr.alloc (.cells #[.string ⟨xt.toArray⟩, .string ⟨xk.toArray⟩, .string ⟨xi.toArray⟩] 24) := ⟨_, rfl⟩
                 rw [← hwv]
                 have hsb : Blk wv wr.heap.size 24 [.string ⟨xt.toArray⟩, .string ⟨xk.toArray⟩, .string ⟨xi.toArray⟩] := by rw [hwv]; exact Blk.new wr _ _
                 have hc8 : Blk wv g8 24 [.string ⟨ct.toArray⟩, .string ⟨ck.toArray⟩, .string ⟨ci.toArray⟩] := by rw [hwv]; exact hc8.alloc _
                 have HV : Hid (OwnS w.heap.size wv v (fillF xs n) ∧ Below w.heap.size w wv) := Lib.hid (by rw [hwv]; exact ⟨HO.out.1.alloc _, HO.out.2.1.alloc HO.out.2.1.size _⟩)
                 obtain ⟨tb, htb⟩ : ∃ tb, decide ((xt, xk) = (ct, ck)) = tb := ⟨_, rfl⟩
                 have hte : ((xt == ct) && (xk == ck)) = tb := by rw [← htb]; by_cases h1 : xt = ct <;> by_cases h2 : xk = ck <;> simp [h1, h2]
                 have HT := Lib.hid (And.intro htb hte)
                 have HLP := Lib.hid (HO.out.2.2.step HXK.out)
                 clear htb hte e0 e1 e2 hwv hbe
                 apply wp_region_ls (by kernel_rfl) (by kernel_rfl)
                 apply ls_load 24 (.tmp 10) rfl wr.heap.size 0 _ _ hsb.rng hsb.lt Try.underlying24 rfl size_slot rfl rfl
                 simp only [Act.put, List.setIfInBounds_toArray, List.set_cons_succ, List.set_cons_zero]
                 apply ls_callx (prV (xt, xk)) 10 #[Slt.val ⟨xt, xk, xi⟩] rfl (by intro W; go_simp; rfl) (fun W => of_calls ⟨xt, xk, xi⟩ W)
                 simp only [Act.put, List.setIfInBounds_toArray, List.set_cons_succ, List.set_cons_zero]
                 apply ls_load 24 (.tmp 8) rfl g8 0 _ _ hc8.rng hc8.lt Try.underlying24 rfl size_slot rfl rfl
                 simp only [Act.put, List.setIfInBounds_toArray, List.set_cons_succ, List.set_cons_zero]
                 apply ls_callx (prV (ct, ck)) 10 #[Slt.val ⟨ct, ck, ci⟩] rfl (by intro W; go_simp; rfl) (fun W => of_calls ⟨ct, ck, ci⟩ W)
                 simp only [Act.put, List.setIfInBounds_toArray, List.set_cons_succ, List.set_cons_zero]
                 apply ls_pure (.bool tb) rfl (by intro W; rw [← HT.out.2]; unfold prV; go_simp; by_cases h1 : xt = ct <;> by_cases h2 : xk = ck <;> simp [h1, h2])
                 simp only [Act.put, List.setIfInBounds_toArray, List.set_cons_succ, List.set_cons_zero]
                 refine ls_nil (Rs := []) ?_
                 intro w4 b4
                 have hs4 := hsb.later b4
                 have hc4 := hc8.later b4
                 have d0 := hs4.cell (k := 0) rfl
                 have d1 := hs4.cell (k := 1) rfl
                 have d2 := hs4.cell (k := 2) rfl
                 have q0 := hc4.cell (k := 0) rfl
                 have q1 := hc4.cell (k := 1) rfl
                 have q2 := hc4.cell (k := 2) rfl
                 have f0 := hc4.frozen 0
                 have f1 := hc4.frozen 1
                 have f2 := hc4.frozen 2
                 have H4 := Lib.hid (And.intro (HV.out.1.below b4) (And.intro (HV.out.2.then_ b4) hc4))
                 have hpr : (Slt.mk ct ck ci).pr = (lt, lk) := HO.out.2.2.1
                 have HPR := Lib.hid hpr
                 clear hsb hc8 b4 hs4 hc4 hpr
                 cases tb with
                 | true =>
                   go_wp2_with fail
                   refine ⟨⟨k + 1, ⟨xt, xk, xi⟩, by omega, by go_num, ?_, ?_, ?_, ?_⟩, by simp [intOf]; omega⟩
                   · exact ((H4.out.2.2.set_ 0 (.string ⟨xt.toArray⟩)).set_ 1 (.string ⟨xk.toArray⟩)).set_ 2 (.string ⟨xi.toArray⟩)
                   · have h := HLP.out
                     have he : (Slt.mk xt xk xi).pr = (lt, lk) := (of_decide_eq_true HT.out.1).trans HPR.out
                     rw [if_pos he] at h
                     exact h
                   · exact ((H4.out.1.set_ HB8.out.2).set_ HB8.out.2).set_ HB8.out.2
                   · exact ((H4.out.2.1.setCell (p := ⟨g8, 0, none⟩) HB8.out.1 _).setCell (p := ⟨g8, 1, none⟩) HB8.out.1 _).setCell (p := ⟨g8, 2, none⟩) HB8.out.1 _
                 | false =>
                   go_wp2_with fail
                   refine ⟨⟨k + 1, ⟨ct, ck, ci⟩, by omega, by go_num, H4.out.2.2, ?_, H4.out.1, H4.out.2.1⟩, by simp [intOf]; omega⟩
                   have h := HLP.out
                   have he : ¬ (Slt.mk xt xk xi).pr = (lt, lk) := fun e => of_decide_eq_false HT.out.1 (e.trans HPR.out.symm)
                   rw [if_neg he] at h
                   exact h
               · have hkn3 : n = k := by omega
                 subst hkn3
                 have q0 := hc8.cell (k := 0) rfl
                 have q1 := hc8.cell (k := 1) rfl
                 have q2 := hc8.cell (k := 2) rfl
                 obtain ⟨A2, c2, rfl, hs2⟩ := HO.out.1.form HG.out.2.2
                 have hml : (fillF xs n).length ≤ 8192 := by have := HG.out.2.1; omega
                 obtain ⟨m, hm⟩ : ∃ m, (fillF xs n).length = m := ⟨_, rfl⟩
                 rw [hm] at hs2 hml ⊢
                 have HM := Lib.hid (And.intro hs2 (And.intro hml hc8))
                 have HGF : Hid (getF (fillF xs n) (ct, ck) = (ci, true)) := Lib.hid (by
                   have h1 : (Slt.mk ct ck ci).pr = (lt, lk) := HO.out.2.2.1
                   have h2 := HO.out.2.2.2 ⟨t, _, hkn, HXT.out, rfl⟩
                   rw [show (ct, ck) = (lt, lk) from h1]
                   exact h2)
                 have HBE := Lib.hid hbe
                 clear hs2 hml hm hc8 hbe
                 go_wp2_with fail
                 refine (of_calls ⟨ct, ck, ci⟩ _).mono ?_
                 rintro e w5 ⟨rfl, b5⟩
                 have H5 := Lib.hid b5
                 clear b5
                 go_wp2_with fail
                 refine (get_calls A2 m c2 (fillF xs n) (ct, ck) w5 (Sls.below HM.out.1 H5.out) (Nat.le_trans HM.out.2.1 (by decide)) HG.out.1).mono ?_
                 rintro e w6 ⟨rfl, b6⟩
                 rw [HGF.out]
                 unfold strV
                 dsimp only
                 have H6 := Lib.hid (H5.out.then_ b6)
                 clear b6 q0 q1 q2
                 have hc6 := HM.out.2.2.later H6.out
                 have HC6 := Lib.hid hc6
                 have HGC : Hid (Calls Try.prog 8 #[.slice A2 m c2] w6 fun e w' => e = .returned (.bool true) ∧ Below w6.heap.size w6 w') := Lib.hid ((good_calls A2 m c2 (fillF xs n) w6 (Sls.below HM.out.1 H6.out)).mono (fun e w' ⟨r, he, hr, hb⟩ => ⟨by rw [he, hr.2 (Steps.of_rise HG.out.1)], hb⟩))
                 clear hc6
                 go_wp2_with fail
                 refine HGC.out.mono ?_
                 rintro e w7 ⟨rfl, b7⟩
                 have s2 := (HC6.out.later b7).cell (k := 2) rfl
                 have H7 := Lib.hid (HBE.out.then_ (H6.out.then_ b7))
                 clear b7
                 go_wp2_with fail
                 go_ret
                 exact ⟨rfl, H7.out⟩
end Go.Proofs.Ytpleminoiodmgaa
