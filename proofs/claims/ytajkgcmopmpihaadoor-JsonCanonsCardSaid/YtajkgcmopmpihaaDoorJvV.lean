/- Layer 9: the program's writer, walked: values; Canon. -/
import Derived.Test.YtajkgcmopmpihaaDoorJvZ
import Derived.Test.YtajkgcmopmpihaaDoorJvS
import Derived.Test.YtajkgcmopmpihaaDoorShelf
import Derived.Recover
import Derived.Sort.Grow
namespace Go.Proofs.YtajkgcmopmpihaaDoor
open Go.ChangeShapes Go.WideShapes Go.ChangeAt Go.RowKit Go.IntWalk
set_option linter.unusedVariables false

theorem below_grow {w w' : World} (h : ∃ k os, w' = Sort.grow (w.drewN k) os) : Below w.heap.size w w' := by
  obtain ⟨k, os, rfl⟩ := h
  exact ⟨rfl, rfl, rfl, by simp [Sort.grow], fun i hi => by simp [Sort.grow, Array.getElem?_append, hi]⟩
theorem decDigits_le (k : Nat) : ∀ u, u < 10 ^ (k + 1) → (Lib.decDigits u).length ≤ k + 1 := by
  induction k with
  | zero => intro u h; rw [Lib.decDigits, dif_pos (by simpa using h)]; simp
  | succ k ih =>
    intro u h
    rw [Lib.decDigits]
    split
    · simp
    · rw [List.length_append]
      have := ih (u / 10) (by rw [Nat.pow_succ] at h; omega)
      simp; omega
theorem itoa_le (n : Int) (h0 : -9223372036854775808 ≤ n) (h1 : n ≤ 9223372036854775807) : (Lib.itoa n).length ≤ 21 := by
  unfold Lib.itoa
  split
  · have := decDigits_le 19 n.natAbs (by simp; omega)
    simp; omega
  · have := decDigits_le 19 n.toNat (by simp; omega)
    omega
theorem itoa_calls (base : Nat) (n : Int) (h0 : -9223372036854775808 ≤ n) (h1 : n ≤ 9223372036854775807) (w : World) (hT : PowT base w) :
    Calls Tryd.prog 15 #[.int .i64 n] w fun e w' => e = .returned (.string ⟨(Lib.itoa n).toArray⟩) ∧ Below w.heap.size w w' :=
  (Tryd.strconv_Itoa n h0 h1 w hT.2).mono fun e w' ⟨h1, h2⟩ => ⟨h1, below_grow h2⟩
theorem fmtB (b : Bool) : Lib.formatBool b = if b then [116, 114, 117, 101] else [102, 97, 108, 115, 101] := by cases b <;> decide
theorem bare_kd {v : Jv} (h : v.bare = true) : v.kd = 0 ∨ v.kd = 1 ∨ v.kd = 2 ∨ v.kd = 3 ∨ v.kd = 4 ∨ v.kd = 5 := by
  unfold Jv.bare at h
  simp only [Bool.and_eq_true, decide_eq_true_eq] at h
  omega
theorem wrV_bad {v : Jv} (h : v.bare = false) (deep : Nat) (b : List UInt8) : wrV v deep b = .error 1 := by unfold wrV wrB; rw [if_pos h]
theorem wrV_0 {v : Jv} (h : v.bare = true) (hk : v.kd = 0) (deep : Nat) (b : List UInt8) : wrV v deep b = lng (b ++ [110, 117, 108, 108]) := by
  unfold wrV wrB; rw [hk, h]; simp
theorem wrV_1 {v : Jv} (h : v.bare = true) (hk : v.kd = 1) (deep : Nat) (b : List UInt8) : wrV v deep b = lng (b ++ (if v.is then [116, 114, 117, 101] else [102, 97, 108, 115, 101])) := by
  unfold wrV wrB; rw [hk, h]; simp
theorem wrV_2 {v : Jv} (h : v.bare = true) (hk : v.kd = 2) (deep : Nat) (b : List UInt8) : wrV v deep b = lng (b ++ Lib.itoa v.n) := by
  unfold wrV wrB; rw [hk, h]; simp
theorem wrV_3 {v : Jv} (h : v.bare = true) (hk : v.kd = 3) (deep : Nat) (b : List UInt8) : wrV v deep b = txt b v.s := by
  unfold wrV wrB; rw [hk, h]; simp
theorem wrV_4 {v : Jv} (h : v.bare = true) (hk : v.kd = 4) (deep : Nat) (b : List UInt8) : wrV v deep b = wrL v.l deep b := by
  unfold wrV wrB wrL; rw [hk, h]
  by_cases hd : 32 ≤ deep
  · simp [hd, then_bad]
  · simp [hd]
theorem wrV_5 {v : Jv} (h : v.bare = true) (hk : v.kd = 5) (deep : Nat) (b : List UInt8) : wrV v deep b = wrM v.m deep b := by
  unfold wrV wrB wrM; rw [hk, h]
  by_cases hd : 32 ≤ deep
  · simp [hd, then_bad]
  · simp [hd]
set_option maxHeartbeats 16000000 in
theorem value_w : ∀ N, ValC N := by
  intro N
  induction N with
  | zero => intro jv deep dI base g v b w A B nl cl nm cm h; unfold Jv.bulk at h; omega
  | succ N IH =>
    intro jv deep dI base g v b w A B nl cl nm cm hN hd hdI hg hB rl rm sl sm hf h hT
    subst hdI
    have hlN : jv.l.bulk ≤ N := by unfold Jv.bulk at hN; omega
    have hmN : jv.m.bulk ≤ N := by unfold Jv.bulk at hN; omega
    have HS := fun w => shaped_calls jv A B nl cl nm cm w rl rm
    have hbk := @bare_kd jv
    have E0 := Lib.hid (@wrV_bad jv)
    have E1 := Lib.hid (@wrV_0 jv)
    have E2 := Lib.hid (@wrV_1 jv)
    have E3 := Lib.hid (@wrV_2 jv)
    have E4 := Lib.hid (@wrV_3 jv)
    have E5 := Lib.hid (@wrV_4 jv)
    have E6 := Lib.hid (@wrV_5 jv)
    obtain ⟨jb, hjb⟩ : ∃ jb, jv.bare = jb := ⟨_, rfl⟩
    obtain ⟨R, hR⟩ : ∃ R, wrV jv deep b = R := ⟨_, rfl⟩
    have HR := Lib.hid hR
    have HJB := Lib.hid hjb
    rw [hjb] at hbk
    simp only [hjb] at HS
    rw [hR]
    clear hjb hR
    obtain ⟨kd, is, n, s, l, m⟩ := jv
    dsimp only at *
    have H := Lib.hid h
    have HX := Lib.hid (And.intro hT (And.intro rl (And.intro rm (And.intro sl (And.intro sm hf)))))
    have hown : ∀ k, v.ownBlock = some k → base ≤ k := fun k hk => (h.own k hk).1
    have HOWN := Lib.hid hown
    clear h hT rl rm sl sm hf hN hown
    cases jb with
    | false =>
      have HE := Lib.hid (show R = .error 1 by rw [← HR.out]; exact E0.out HJB.out deep b)
      clear hbk
      go_enter Tryd.func8, Tryd.ntmps8
      go_wp2_with fail
      refine (HS _).mono ?_
      rintro e w1 ⟨rfl, b1⟩
      go_wp2_with fail
      refine (giveUp_calls _ _).mono ?_
      rintro e w2 ⟨rfl, rfl⟩
      go_wp2_with fail
      exact ⟨rfl, WEnd.bad HE.out (Nx.of_below (((Below.refl _ _).alloc (Nat.le_refl _) _).trans (b1.mono (by simp))))⟩
    | true =>
      rcases hbk rfl with rfl | rfl | rfl | rfl | rfl | rfl
      · have HE := Lib.hid (show R = lng (b ++ [110, 117, 108, 108]) by rw [← HR.out]; exact E1.out HJB.out rfl deep b)
        clear hbk
        cases hr : (lng (b ++ [110, 117, 108, 108]) : Res)
        all_goals
          have HR2 := Lib.hid hr
          clear hr
          go_enter Tryd.func8, Tryd.ntmps8
          go_wp2_with fail
          refine (HS _).mono ?_
          rintro e w1 ⟨rfl, b1⟩
          have hb1 : Below w.heap.size w w1 := ((Below.refl _ _).alloc (Nat.le_refl _) _).trans (b1.mono (by simp))
          have bx := (Blk.new w [.int .i64 0, .bool is, .int .i64 n, .string ⟨s.toArray⟩, .slice A nl cl, .slice B nm cm] 25).later b1
          have d0 := bx.cell (k := 0) rfl
          have d1 := bx.cell (k := 1) rfl
          have d2 := bx.cell (k := 2) rfl
          have d3 := bx.cell (k := 3) rfl
          have d4 := bx.cell (k := 4) rfl
          have d5 := bx.cell (k := 5) rfl
          have HB1 := Lib.hid hb1
          clear b1 hb1 bx
          go_wp2_with fail
          refine (put_w base g v b [110, 117, 108, 108] w1 (H.out.below HB1.out) (Nat.le_trans hB HB1.out.size) (by simp)).mono ?_
          intro e w3 hE
          first | (obtain ⟨rfl, v3, h3, n3⟩ := WEnd.of_ok HR2.out hE; clear hE) | (obtain ⟨rfl, v3, n3⟩ := WEnd.of_bad HR2.out hE; clear hE)
          go_wp2_with fail
        · exact ⟨rfl, WEnd.bad (HE.out.trans HR2.out) ((Nx.of_below HB1.out).trans n3)⟩
        · go_end0
          exact WEnd.ok (HE.out.trans HR2.out) h3 ((Nx.of_below HB1.out).trans n3)
      · obtain ⟨fb, hfb⟩ : ∃ fb, (if is then [116, 114, 117, 101] else [102, 97, 108, 115, 101] : List UInt8) = fb := ⟨_, rfl⟩
        have hfl : fb.length ≤ 5 := by rw [← hfb]; split <;> simp
        have HFB : ∀ w, Calls Tryd.prog 14 #[.bool is] w fun e w' => e = .returned (.string ⟨fb.toArray⟩) ∧ w' = w := fun w => by
          have := Tryd.strconv_FormatBool is w
          rw [fmtB, hfb] at this
          exact this
        have HE := Lib.hid (show R = lng (b ++ fb) by rw [← HR.out, ← hfb]; exact E2.out HJB.out rfl deep b)
        clear hfb
        clear hbk
        cases hr : (lng (b ++ fb) : Res)
        all_goals
          have HR2 := Lib.hid hr
          clear hr
          go_enter Tryd.func8, Tryd.ntmps8
          go_wp2_with fail
          refine (HS _).mono ?_
          rintro e w1 ⟨rfl, b1⟩
          have hb1 : Below w.heap.size w w1 := ((Below.refl _ _).alloc (Nat.le_refl _) _).trans (b1.mono (by simp))
          have bx := (Blk.new w [.int .i64 1, .bool is, .int .i64 n, .string ⟨s.toArray⟩, .slice A nl cl, .slice B nm cm] 25).later b1
          have d0 := bx.cell (k := 0) rfl
          have d1 := bx.cell (k := 1) rfl
          have d2 := bx.cell (k := 2) rfl
          have d3 := bx.cell (k := 3) rfl
          have d4 := bx.cell (k := 4) rfl
          have d5 := bx.cell (k := 5) rfl
          have HB1 := Lib.hid hb1
          clear b1 hb1 bx
          go_wp2_with fail
          refine (HFB _).mono ?_
          rintro e w2 ⟨rfl, rfl⟩
          go_wp2_with fail
          refine (put_w base g v b fb _ (H.out.below HB1.out) (Nat.le_trans hB HB1.out.size) (by omega)).mono ?_
          intro e w3 hE
          first | (obtain ⟨rfl, v3, h3, n3⟩ := WEnd.of_ok HR2.out hE; clear hE) | (obtain ⟨rfl, v3, n3⟩ := WEnd.of_bad HR2.out hE; clear hE)
          go_wp2_with fail
        · exact ⟨rfl, WEnd.bad (HE.out.trans HR2.out) ((Nx.of_below HB1.out).trans n3)⟩
        · go_end0
          exact WEnd.ok (HE.out.trans HR2.out) h3 ((Nx.of_below HB1.out).trans n3)
      · have HE := Lib.hid (show R = lng (b ++ Lib.itoa n) by rw [← HR.out]; exact E3.out HJB.out rfl deep b)
        clear hbk
        cases hr : (lng (b ++ Lib.itoa n) : Res)
        all_goals
          have HR2 := Lib.hid hr
          clear hr
          go_enter Tryd.func8, Tryd.ntmps8
          go_wp2_with fail
          refine (HS _).mono ?_
          rintro e w1 ⟨rfl, b1⟩
          have hb1 : Below w.heap.size w w1 := ((Below.refl _ _).alloc (Nat.le_refl _) _).trans (b1.mono (by simp))
          have bx := (Blk.new w [.int .i64 2, .bool is, .int .i64 n, .string ⟨s.toArray⟩, .slice A nl cl, .slice B nm cm] 25).later b1
          have d0 := bx.cell (k := 0) rfl
          have d1 := bx.cell (k := 1) rfl
          have d2 := bx.cell (k := 2) rfl
          have d3 := bx.cell (k := 3) rfl
          have d4 := bx.cell (k := 4) rfl
          have d5 := bx.cell (k := 5) rfl
          have HB1 := Lib.hid hb1
          clear b1 hb1 bx
          go_wp2_with fail
          refine (itoa_calls base n HX.out.2.2.2.2.2.2.1.1 HX.out.2.2.2.2.2.2.1.2 _ (HX.out.1.blw (HB1.out.mono hB))).mono ?_
          rintro e w2 ⟨rfl, b2⟩
          have HB2 := Lib.hid (HB1.out.trans (b2.mono HB1.out.size))
          clear b2
          go_wp2_with fail
          refine (put_w base g v b _ _ (H.out.below HB2.out) (Nat.le_trans hB HB2.out.size) (Nat.le_trans (itoa_le n HX.out.2.2.2.2.2.2.1.1 HX.out.2.2.2.2.2.2.1.2) (by decide))).mono ?_
          intro e w3 hE
          first | (obtain ⟨rfl, v3, h3, n3⟩ := WEnd.of_ok HR2.out hE; clear hE) | (obtain ⟨rfl, v3, n3⟩ := WEnd.of_bad HR2.out hE; clear hE)
          go_wp2_with fail
        · exact ⟨rfl, WEnd.bad (HE.out.trans HR2.out) ((Nx.of_below HB2.out).trans n3)⟩
        · go_end0
          exact WEnd.ok (HE.out.trans HR2.out) h3 ((Nx.of_below HB2.out).trans n3)
      · have HE := Lib.hid (show R = txt b s by rw [← HR.out]; exact E4.out HJB.out rfl deep b)
        clear hbk
        cases hr : (txt b s : Res)
        all_goals
          have HR2 := Lib.hid hr
          clear hr
          go_enter Tryd.func8, Tryd.ntmps8
          go_wp2_with fail
          refine (HS _).mono ?_
          rintro e w1 ⟨rfl, b1⟩
          have hb1 : Below w.heap.size w w1 := ((Below.refl _ _).alloc (Nat.le_refl _) _).trans (b1.mono (by simp))
          have bx := (Blk.new w [.int .i64 3, .bool is, .int .i64 n, .string ⟨s.toArray⟩, .slice A nl cl, .slice B nm cm] 25).later b1
          have d0 := bx.cell (k := 0) rfl
          have d1 := bx.cell (k := 1) rfl
          have d2 := bx.cell (k := 2) rfl
          have d3 := bx.cell (k := 3) rfl
          have d4 := bx.cell (k := 4) rfl
          have d5 := bx.cell (k := 5) rfl
          have HB1 := Lib.hid hb1
          clear b1 hb1 bx
          go_wp2_with fail
          refine (text_w base g v b s _ (H.out.below HB1.out) (Nat.le_trans hB HB1.out.size) HX.out.2.2.2.2.2.2.2).mono ?_
          intro e w3 hE
          first | (obtain ⟨rfl, v3, h3, n3⟩ := WEnd.of_ok HR2.out hE; clear hE) | (obtain ⟨rfl, v3, n3⟩ := WEnd.of_bad HR2.out hE; clear hE)
          go_wp2_with fail
        · exact ⟨rfl, WEnd.bad (HE.out.trans HR2.out) ((Nx.of_below HB1.out).trans n3)⟩
        · go_end0
          exact WEnd.ok (HE.out.trans HR2.out) h3 ((Nx.of_below HB1.out).trans n3)
      · have HE := Lib.hid (show R = wrL l deep b by rw [← HR.out]; exact E5.out HJB.out rfl deep b)
        clear hbk
        cases hr : (wrL l deep b : Res)
        all_goals
          have HR2 := Lib.hid hr
          clear hr
          go_enter Tryd.func8, Tryd.ntmps8
          go_wp2_with fail
          refine (HS _).mono ?_
          rintro e w1 ⟨rfl, b1⟩
          have hb1 : Below w.heap.size w w1 := ((Below.refl _ _).alloc (Nat.le_refl _) _).trans (b1.mono (by simp))
          have bx := (Blk.new w [.int .i64 4, .bool is, .int .i64 n, .string ⟨s.toArray⟩, .slice A nl cl, .slice B nm cm] 25).later b1
          have d0 := bx.cell (k := 0) rfl
          have d1 := bx.cell (k := 1) rfl
          have d2 := bx.cell (k := 2) rfl
          have d3 := bx.cell (k := 3) rfl
          have d4 := bx.cell (k := 4) rfl
          have d5 := bx.cell (k := 5) rfl
          have HB1 := Lib.hid hb1
          clear b1 hb1 bx
          go_wp2_with fail
          refine (list_w N IH l deep base g v b _ A nl cl hlN hd hg (Nat.le_trans hB HB1.out.size) HX.out.2.1 (HX.out.2.2.2.1.blw (HB1.out.mono hB)) (H.out.below HB1.out) (HX.out.1.blw (HB1.out.mono hB))).mono ?_
          intro e w3 hE
          first | (obtain ⟨rfl, v3, h3, n3⟩ := WEnd.of_ok HR2.out hE; clear hE) | (obtain ⟨rfl, v3, n3⟩ := WEnd.of_bad HR2.out hE; clear hE)
          go_wp2_with fail
        · exact ⟨rfl, WEnd.bad (HE.out.trans HR2.out) ((Nx.of_below HB1.out).trans n3)⟩
        · go_end0
          exact WEnd.ok (HE.out.trans HR2.out) h3 ((Nx.of_below HB1.out).trans n3)
      · have HE := Lib.hid (show R = wrM m deep b by rw [← HR.out]; exact E6.out HJB.out rfl deep b)
        clear hbk
        cases hr : (wrM m deep b : Res)
        all_goals
          have HR2 := Lib.hid hr
          clear hr
          go_enter Tryd.func8, Tryd.ntmps8
          go_wp2_with fail
          refine (HS _).mono ?_
          rintro e w1 ⟨rfl, b1⟩
          have hb1 : Below w.heap.size w w1 := ((Below.refl _ _).alloc (Nat.le_refl _) _).trans (b1.mono (by simp))
          have bx := (Blk.new w [.int .i64 5, .bool is, .int .i64 n, .string ⟨s.toArray⟩, .slice A nl cl, .slice B nm cm] 25).later b1
          have d0 := bx.cell (k := 0) rfl
          have d1 := bx.cell (k := 1) rfl
          have d2 := bx.cell (k := 2) rfl
          have d3 := bx.cell (k := 3) rfl
          have d4 := bx.cell (k := 4) rfl
          have d5 := bx.cell (k := 5) rfl
          have HB1 := Lib.hid hb1
          clear b1 hb1 bx
          go_wp2_with fail
          refine (members_w N IH m deep base g v b _ B nm cm hmN hd hg (Nat.le_trans hB HB1.out.size) HX.out.2.2.1 (HX.out.2.2.2.2.1.blw (HB1.out.mono hB)) (H.out.below HB1.out) (HX.out.1.blw (HB1.out.mono hB))).mono ?_
          intro e w3 hE
          first | (obtain ⟨rfl, v3, h3, n3⟩ := WEnd.of_ok HR2.out hE; clear hE) | (obtain ⟨rfl, v3, n3⟩ := WEnd.of_bad HR2.out hE; clear hE)
          go_wp2_with fail
        · exact ⟨rfl, WEnd.bad (HE.out.trans HR2.out) ((Nx.of_below HB1.out).trans n3)⟩
        · go_end0
          exact WEnd.ok (HE.out.trans HR2.out) h3 ((Nx.of_below HB1.out).trans n3)
/-- END OF VALUE -/
theorem endV : True := trivial
end Go.Proofs.YtajkgcmopmpihaaDoor
