/- Texts put together: Jp7 Jp8. -/
import Derived.Test.YtajkgcmopmpihaaGreatDoorY543ed0df65
import Derived.Test.YtajkgcmopmpihaaGreatDoorY04880a4e4d
namespace Go.Proofs.YtajkgcmopmpihaaGreatDoor
open Go.ChangeShapes Go.WideShapes Go.ChangeAt Go.RowKit Go.IntWalk
set_option linter.unusedVariables false
set_option maxRecDepth 100000
structure BgSt (base : Nat) (Z : Nat → Prop) (w : World) (r : Nat) (s : List UInt8) (at_ : Nat) (U : Value) (fs : List Frm) (q : Nat) (W : World) : Prop where
  st : RSt base W r s at_ U fs
  below : Below base w W
  res : Blk W q 25 [.int .i64 0, .bool false, .int .i64 0, .string ⟨#[]⟩, .slice none 0 0, .slice none 0 0]
  bq : base ≤ q
  away : ∀ x ∈ fs, ¬ x.F q
  err : ErrC W
  hr : 2 < r
  qn : w.heap.size ≤ q
  zs : Zs Z w W fs
section
variable {base : Nat} {Z : Nat → Prop} {w W W' : World} {r q : Nat} {s : List UInt8} {at_ at' : Nat} {U : Value} {fs : List Frm}
theorem BgSt.next (h : BgSt base Z w r s at_ U fs q W) (hc : Chg (· = r) W W') (h2 : RSt base W' r s at' U fs) : BgSt base Z w r s at' U fs q W' :=
  ⟨h2, hc.below h.below (Nat.le_trans h.st.hr (Nat.le_of_lt h.st.lt)) (fun b _ e => by rw [e]; exact h.st.hr), hc.blk h.res (fun e => (h.st.une h.res).1 e.symm), h.bq, h.away, h.err.chg hc (fun e => by have := h.hr; have e2 : 1 = r := e; omega) (fun e => by have := h.hr; have e2 : 2 = r := e; omega), h.hr, h.qn, h.zs.chg h.below.size hc (fun b hb e => by
    obtain ⟨cs, hb2⟩ := (h.zs b hb).2.2.1
    exact (h.st.une hb2).1 e.symm)⟩
theorem BgSt.later (h : BgSt base Z w r s at_ U fs q W) (hb : Below W.heap.size W W') : BgSt base Z w r s at_ U fs q W' :=
  ⟨h.st.later hb, h.below.trans (hb.mono (Nat.le_trans h.st.hr (Nat.le_of_lt h.st.lt))), h.res.later hb, h.bq, h.away, h.err.chg (Chg.of hb : Chg (fun _ => False) W W') (fun e => e) (fun e => e), h.hr, h.qn, h.zs.chg h.below.size (Chg.of hb : Chg (fun _ => False) W W') (fun _ _ h => h)⟩
theorem bare_par {v : Jv} (hl : v.l = .nil) (hm : v.m = .nil) (hf : Fit v.kd v.n v.s) : VPar (fun _ => False) W v none none 0 0 0 0 :=
  ⟨by rw [hl]; exact ⟨rfl, Nat.le_refl _, Nat.zero_le _⟩, by rw [hm]; exact ⟨rfl, Nat.le_refl _, Nat.zero_le _⟩, .inl hl, .inl hm, hf⟩
theorem BgSt.bare (h : BgSt base Z w r s at' U fs q W) (hs : ∀ x ∈ fs, x.fr.acc.ext ≤ at_) (h1 : at_ < at') {R : PRes} {v : Jv} (hl : v.l = .nil) (hm : v.m = .nil) (hf : Fit v.kd v.n v.s) (hR : R = resume (fs.map (·.fr)) (.ok (v, s.drop at'))) :
    StPost base Z w r s at_ R (.returned (.tuple #[valC v none none 0 0 0 0, .bool true])) (set6 W q (.int .i64 v.kd) (.bool v.is) (.int .i64 v.n) (.string ⟨v.s.toArray⟩) (.slice none 0 0) (.slice none 0 0)) :=
  StPost.yes h.below ⟨h.st, bare_par hl hm hf, fun b hb => hb.elim, fun x hx => Nat.lt_of_le_of_lt (hs x hx) h1, UnfV.none _ _⟩ h.res h.bq h.away (fun h => h) h.qn h.zs (fun _ _ h => h) h1 hR
end
theorem pV_at {n k : Nat} {s r q : List UInt8} {c : UInt8} (h : s.drop k = skipB r) (hc : s.drop k = c :: q) : pV n r = pC n c q := by rw [pV_eq, ← h, hc]
theorem drop_cons {s q : List UInt8} {k : Nat} {c : UInt8} (h : s.drop k = c :: q) : q = s.drop (k + 1) ∧ k < s.length := by
  have hl : k < s.length := by
    rcases Nat.lt_or_ge k s.length with h2 | h2
    · exact h2
    · rw [List.drop_of_length_le h2] at h; cases h
  rw [List.drop_eq_getElem_cons hl] at h
  injection h with h1 h2
  exact ⟨h2.symm, hl⟩
theorem pC_quo {n : Nat} {q : List UInt8} : pC n 34 q = (match quoF (34 :: q) with | none => .error 4 | some p => .ok (⟨3, false, 0, p.1, .nil, .nil⟩, p.2)) := by
  unfold pC
  rw [quo_q, if_neg (by decide), if_neg (by decide), if_pos rfl]
  cases scan q <;> rfl
theorem pC_num2 {n : Nat} {c : UInt8} {q : List UInt8} (h : c = 45 ∨ digB c = true) : pC n c q = numP (c :: q) := by
  have hc : c.toNat = 45 ∨ (48 ≤ c.toNat ∧ c.toNat ≤ 57) := by
    rcases h with rfl | h
    · exact .inl rfl
    · unfold digB at h; simp only [Bool.and_eq_true, decide_eq_true_eq] at h; exact .inr h
  have hne : ∀ d : UInt8, d.toNat ≠ 45 → (d.toNat < 48 ∨ 57 < d.toNat) → c ≠ d := fun d h1 h2 e => by subst e; omega
  unfold pC
  rw [if_neg (hne 91 (by decide) (by decide)), if_neg (hne 123 (by decide) (by decide)), if_neg (hne 34 (by decide) (by decide)), if_pos h]
theorem pC_word {n : Nat} {c : UInt8} {q : List UInt8} (h1 : c ≠ 91) (h2 : c ≠ 123) (h3 : c ≠ 34) (h4 : ¬ (c = 45 ∨ digB c = true)) : pC n c q = (match wordF (c :: q) with | none => .error 4 | some p => .ok (p.1, (c :: q).drop p.2)) := by
  unfold pC wordF
  rw [if_neg h1, if_neg h2, if_neg h3, if_neg h4]
  split
  · rfl
  · split
    · rfl
    · split
      · rfl
      · rfl
theorem num_fit {r r' : List UInt8} {n : Int} (h : numP r = .ok (⟨2, false, n, [], .nil, .nil⟩, r')) : Fit 2 n [] ∧ (-9007199254740991 ≤ n ∧ n ≤ 9007199254740991) := by
  unfold numP at h
  split at h
  · cases h
  · split at h
    · split at h
      · cases h
      · rename_i hn
        injection h with h
        injection h with h _
        injection h with _ _ h
        have : ¬ (n < -9007199254740991) ∧ ¬ (9007199254740991 < n) := by
          rw [← h]; exact ⟨fun e => hn (.inr (.inl e)), fun e => hn (.inr (.inr e))⟩
        exact ⟨⟨by decide, ⟨by omega, by omega⟩, by decide⟩, by omega⟩
    · cases h
theorem word_fit {r : List UInt8} {v : Jv} {n : Nat} (h : wordF r = some (v, n)) : v.l = .nil ∧ v.m = .nil ∧ Fit v.kd v.n v.s := by
  unfold wordF at h
  split at h
  · injection h with h; injection h with h _; subst h; exact ⟨rfl, rfl, ⟨by decide, by decide⟩, ⟨by decide, by decide⟩, by decide⟩
  · split at h
    · injection h with h; injection h with h _; subst h; exact ⟨rfl, rfl, ⟨by decide, by decide⟩, ⟨by decide, by decide⟩, by decide⟩
    · split at h
      · injection h with h; injection h with h _; subst h; exact ⟨rfl, rfl, ⟨by decide, by decide⟩, ⟨by decide, by decide⟩, by decide⟩
      · cases h
set_option maxHeartbeats 4000000 in
theorem begin_text (base : Nat) (Z : Nat → Prop) (w : World) (r : Nat) (s : List UInt8) (at_ : Nat) (U : Value) (fs : List Frm) (h : RSt base w r s at_ U fs) (hE : ErrC w) (hr3 : 2 < r) (hZ : Zs Z w w fs) (hc : ∃ q, skipB (s.drop at_) = 34 :: q) :
    Calls Tryz.prog 35 #[.pointer (some ⟨r, 0, none⟩)] w (StPost base Z w r s at_ (resume (fs.map (·.fr)) (pV fs.length (s.drop at_)))) := by
  have b0 : Below w.heap.size w (w.alloc (.cells #[.int .i64 0, .bool false, .int .i64 0, .string ⟨#[]⟩, .slice none 0 0, .slice none 0 0] 25)) := (Below.refl _ _).alloc (Nat.le_refl _) _
  have hbw : base ≤ w.heap.size := Nat.le_trans h.hr (Nat.le_of_lt h.lt)
  have HI := Lib.hid (show BgSt base Z w r s at_ U fs w.heap.size (w.alloc (.cells #[.int .i64 0, .bool false, .int .i64 0, .string ⟨#[]⟩, .slice none 0 0, .slice none 0 0] 25)) from ⟨h.later b0, b0.mono hbw, Blk.new w [.int .i64 0, .bool false, .int .i64 0, .string ⟨#[]⟩, .slice none 0 0, .slice none 0 0] 25, hbw, fun f hf hb => absurd ((h.ins f hf).2.2.2.2.1 _ hb).2 (Nat.lt_irrefl _), hE.chg (Chg.of b0 : Chg (fun _ => False) _ _) (fun e => e) (fun e => e), hr3, Nat.le_refl _, hZ.chg (Nat.le_refl _) (Chg.of b0 : Chg (fun _ => False) _ _) (fun _ _ h => h)⟩)
  have HSUB := Lib.hid h.sub
  have HC := Lib.hid hc
  clear h hE hr3 b0 hbw hc hZ
  go_enter Tryz.func35, Tryz.ntmps35
  go_upto_region 1 with fail
  refine wp_gen (fun W => BgSt base Z w r s at_ U fs w.heap.size W) HI.out ?_
  clear HI
  rintro W0 g0
  have H0 := Lib.hid g0
  clear g0
  go_wp2_with fail
  refine (next_calls base _ r s at_ _ _ H0.out.st).mono ?_
  rintro e W1 ⟨k, rfl, n1, n2, n3, n4⟩
  have H1 := Lib.hid (And.intro (H0.out.next n4 n3) (And.intro n1 n2))
  clear n1 n2 n3 n4 H0
  obtain ⟨q, hq⟩ := HC.out
  have hk : s.drop k = 34 :: q := by rw [H1.out.2.1]; exact hq
  have hz : ((headU (s.drop k) : Nat) : Int) = 34 := by rw [hk]; rfl
  rw [hz]
  have HR := Lib.hid (show pV fs.length (s.drop at_) = pC fs.length 34 q from pV_at H1.out.2.1 hk)
  have HK := Lib.hid hk
  clear hk hz hq
  go_wp2_with fail
  refine (quoted_calls base _ r s k _ _ H1.out.1.st).mono ?_
  rintro e W2 ⟨c2, ⟨hq, rfl⟩ | ⟨kk, at2, rfl, hq, q2, q3, q4⟩⟩
  · have HB := Lib.hid (And.intro (show Below base w W2 from c2.below H1.out.1.below (Nat.le_trans H1.out.1.st.hr (Nat.le_of_lt H1.out.1.st.lt)) (fun b _ e => by rw [e]; exact H1.out.1.st.hr)) (show resume (fs.map (·.fr)) (pV fs.length (s.drop at_)) = .error 4 by rw [HR.out, pC_quo, ← HK.out, hq]; exact resume_err _ _))
    clear c2 hq
    go_wp2_with fail
    exact ⟨rfl, StPost.bad HB.out.1 HB.out.2⟩
  · have H2 := Lib.hid (And.intro (H1.out.1.next c2 q4) (And.intro (Nat.lt_of_le_of_lt H1.out.2.2 q2) (And.intro (show pV fs.length (s.drop at_) = .ok (⟨3, false, 0, kk, .nil, .nil⟩, s.drop at2) by rw [HR.out, pC_quo, ← HK.out, hq]) q3)))
    clear c2 hq q2 q3 q4
    go_wp2_with fail
    refine (jtext_calls kk _).mono ?_
    rintro e W3 ⟨rfl, b3⟩
    have H3 := Lib.hid (H2.out.1.later b3)
    clear b3
    unfold bareV
    obtain ⟨z0, z1, z2, z3, z4, z5, y0, y1, y2, y3, y4, y5⟩ := cells6s H3.out.res
    go_wp2_with fail
    exact bodyPost_ret (res_cell62 (p := 2) (q := 3) rfl _ ⟨w.heap.size, 0, none⟩ _ _ _ rfl rfl (Blk.load (blk6 H3.out.res) _ Tryz.underlying25 rfl size_v6)) rfl (H3.out.bare HSUB.out H2.out.2.1 (v := ⟨3, false, 0, kk, .nil, .nil⟩) rfl rfl (show Fit 3 0 kk from ⟨⟨by decide, by decide⟩, ⟨by decide, by decide⟩, Nat.le_trans H2.out.2.2.2 (by decide)⟩) (by rw [H2.out.2.2.1]))
set_option maxHeartbeats 4000000 in
theorem begin_num (base : Nat) (Z : Nat → Prop) (w : World) (r : Nat) (s : List UInt8) (at_ : Nat) (U : Value) (fs : List Frm) (h : RSt base w r s at_ U fs) (hE : ErrC w) (hr3 : 2 < r) (hZ : Zs Z w w fs) (hc : ∃ c q, skipB (s.drop at_) = c :: q ∧ (c = 45 ∨ digB c = true)) :
    Calls Tryz.prog 35 #[.pointer (some ⟨r, 0, none⟩)] w (StPost base Z w r s at_ (resume (fs.map (·.fr)) (pV fs.length (s.drop at_)))) := by
  have b0 : Below w.heap.size w (w.alloc (.cells #[.int .i64 0, .bool false, .int .i64 0, .string ⟨#[]⟩, .slice none 0 0, .slice none 0 0] 25)) := (Below.refl _ _).alloc (Nat.le_refl _) _
  have hbw : base ≤ w.heap.size := Nat.le_trans h.hr (Nat.le_of_lt h.lt)
  have HI := Lib.hid (show BgSt base Z w r s at_ U fs w.heap.size (w.alloc (.cells #[.int .i64 0, .bool false, .int .i64 0, .string ⟨#[]⟩, .slice none 0 0, .slice none 0 0] 25)) from ⟨h.later b0, b0.mono hbw, Blk.new w [.int .i64 0, .bool false, .int .i64 0, .string ⟨#[]⟩, .slice none 0 0, .slice none 0 0] 25, hbw, fun f hf hb => absurd ((h.ins f hf).2.2.2.2.1 _ hb).2 (Nat.lt_irrefl _), hE.chg (Chg.of b0 : Chg (fun _ => False) _ _) (fun e => e) (fun e => e), hr3, Nat.le_refl _, hZ.chg (Nat.le_refl _) (Chg.of b0 : Chg (fun _ => False) _ _) (fun _ _ h => h)⟩)
  have HSUB := Lib.hid h.sub
  have HC := Lib.hid hc
  clear h hE hr3 b0 hbw hc hZ
  go_enter Tryz.func35, Tryz.ntmps35
  go_upto_region 1 with fail
  refine wp_gen (fun W => BgSt base Z w r s at_ U fs w.heap.size W) HI.out ?_
  clear HI
  rintro W0 g0
  have H0 := Lib.hid g0
  clear g0
  go_wp2_with fail
  refine (next_calls base _ r s at_ _ _ H0.out.st).mono ?_
  rintro e W1 ⟨k, rfl, n1, n2, n3, n4⟩
  have H1 := Lib.hid (And.intro (H0.out.next n4 n3) (And.intro n1 n2))
  clear n1 n2 n3 n4 H0
  obtain ⟨c, q, hq, hcd⟩ := HC.out
  have hk : s.drop k = c :: q := by rw [H1.out.2.1]; exact hq
  obtain ⟨z, hz⟩ : ∃ z, c.toNat = z := ⟨_, rfl⟩
  have hz2 : headU (s.drop k) = z := by rw [hk]; exact hz
  rw [hz2]
  have HR := Lib.hid (show pV fs.length (s.drop at_) = numP (s.drop k) by rw [pV_at H1.out.2.1 hk, pC_num2 hcd, hk])
  have hzz : z = 45 ∨ (48 ≤ z ∧ z ≤ 57) := by
    rcases hcd with e | e
    · left; rw [← hz, e]; rfl
    · right; rw [← hz]; unfold digB at e; simpa using e
  have HKL := Lib.hid (drop_cons hk).2
  clear hk hz hq hcd hz2
  have g1 : ((z : Int) == 91) = false := by rw [beq_eq_false_iff_ne]; omega
  have g2 : ((z : Int) == 123) = false := by rw [beq_eq_false_iff_ne]; omega
  have g3 : ((z : Int) == 34) = false := by rw [beq_eq_false_iff_ne]; omega
  have KEY : ∀ d1 d2 d3 : Bool, ((z : Int) == 45) = d1 → decide ((48 : Int) ≤ (z : Int)) = d2 → decide ((z : Int) ≤ 57) = d3 → (d1 = true ∨ (d2 = true ∧ d3 = true)) := fun d1 d2 d3 e1 e2 e3 => by
    rcases hzz with h | h
    · left; rw [← e1, h]; rfl
    · right; exact ⟨by rw [← e2]; simp; omega, by rw [← e3]; simp; omega⟩
  obtain ⟨d1, e1⟩ : ∃ d, ((z : Int) == 45) = d := ⟨_, rfl⟩
  obtain ⟨d2, e2⟩ : ∃ d, decide ((48 : Int) ≤ (z : Int)) = d := ⟨_, rfl⟩
  obtain ⟨d3, e3⟩ : ∃ d, decide ((z : Int) ≤ 57) = d := ⟨_, rfl⟩
  have HKEY := Lib.hid (KEY d1 d2 d3 e1 e2 e3)
  clear KEY hzz
  have TAIL : True := trivial
  rcases (show (d1 = true) ∨ (d1 = false ∧ d2 = true ∧ d3 = true) from by rcases HKEY.out with h | h; exact .inl h; cases d1; exact .inr ⟨rfl, h⟩; exact .inl rfl) with h1 | ⟨h1, h2, h3⟩
  · subst h1
    go_wp2_with fail
    refine (jnumber_calls base _ r s k _ _ H1.out.1.st H1.out.1.err H1.out.1.hr).mono ?_
    rintro e W2 ⟨c2, ⟨c, hn, rfl⟩ | ⟨n, at2, hn, rfl, q4⟩⟩
    · have HB := Lib.hid (And.intro (show Below base w W2 from c2.below H1.out.1.below (Nat.le_trans H1.out.1.st.hr (Nat.le_of_lt H1.out.1.st.lt)) (fun b _ e => by rw [e]; exact H1.out.1.st.hr)) (show resume (fs.map (·.fr)) (pV fs.length (s.drop at_)) = .error c by rw [HR.out, hn]; exact resume_err _ _))
      clear c2 hn
      go_wp2_with fail
      exact ⟨rfl, StPost.bad HB.out.1 HB.out.2⟩
    · have hlt : k < at2 := by
        have h1 := numP_lt hn
        dsimp only at h1
        rw [List.length_drop, List.length_drop] at h1
        omega
      have H2 := Lib.hid (And.intro (H1.out.1.next c2 q4) (And.intro (Nat.lt_of_le_of_lt H1.out.2.2 hlt) (And.intro (show pV fs.length (s.drop at_) = .ok (⟨2, false, n, [], .nil, .nil⟩, s.drop at2) by rw [HR.out, hn]) (num_fit hn).1)))
      clear c2 hn q4 hlt
      go_wp2_with fail
      refine (jnum_calls n _).mono ?_
      rintro e W3 ⟨rfl, b3⟩
      have H3 := Lib.hid (H2.out.1.later b3)
      clear b3
      unfold bareV
      obtain ⟨z0, z1, z2, z3, z4, z5, y0, y1, y2, y3, y4, y5⟩ := cells6s H3.out.res
      go_wp2_with fail
      exact bodyPost_ret (res_cell62 (p := 2) (q := 3) rfl _ ⟨w.heap.size, 0, none⟩ _ _ _ rfl rfl (Blk.load (blk6 H3.out.res) _ Tryz.underlying25 rfl size_v6)) rfl (H3.out.bare HSUB.out H2.out.2.1 (v := ⟨2, false, n, [], .nil, .nil⟩) rfl rfl H2.out.2.2.2 (by rw [H2.out.2.2.1]))
  · subst h1 h2 h3
    go_wp2_with fail
    refine (jnumber_calls base _ r s k _ _ H1.out.1.st H1.out.1.err H1.out.1.hr).mono ?_
    rintro e W2 ⟨c2, ⟨c, hn, rfl⟩ | ⟨n, at2, hn, rfl, q4⟩⟩
    · have HB := Lib.hid (And.intro (show Below base w W2 from c2.below H1.out.1.below (Nat.le_trans H1.out.1.st.hr (Nat.le_of_lt H1.out.1.st.lt)) (fun b _ e => by rw [e]; exact H1.out.1.st.hr)) (show resume (fs.map (·.fr)) (pV fs.length (s.drop at_)) = .error c by rw [HR.out, hn]; exact resume_err _ _))
      clear c2 hn
      go_wp2_with fail
      exact ⟨rfl, StPost.bad HB.out.1 HB.out.2⟩
    · have hlt : k < at2 := by
        have h1 := numP_lt hn
        dsimp only at h1
        rw [List.length_drop, List.length_drop] at h1
        omega
      have H2 := Lib.hid (And.intro (H1.out.1.next c2 q4) (And.intro (Nat.lt_of_le_of_lt H1.out.2.2 hlt) (And.intro (show pV fs.length (s.drop at_) = .ok (⟨2, false, n, [], .nil, .nil⟩, s.drop at2) by rw [HR.out, hn]) (num_fit hn).1)))
      clear c2 hn q4 hlt
      go_wp2_with fail
      refine (jnum_calls n _).mono ?_
      rintro e W3 ⟨rfl, b3⟩
      have H3 := Lib.hid (H2.out.1.later b3)
      clear b3
      unfold bareV
      obtain ⟨z0, z1, z2, z3, z4, z5, y0, y1, y2, y3, y4, y5⟩ := cells6s H3.out.res
      go_wp2_with fail
      exact bodyPost_ret (res_cell62 (p := 2) (q := 3) rfl _ ⟨w.heap.size, 0, none⟩ _ _ _ rfl rfl (Blk.load (blk6 H3.out.res) _ Tryz.underlying25 rfl size_v6)) rfl (H3.out.bare HSUB.out H2.out.2.1 (v := ⟨2, false, n, [], .nil, .nil⟩) rfl rfl H2.out.2.2.2 (by rw [H2.out.2.2.1]))
set_option maxHeartbeats 4000000 in
theorem begin_word (base : Nat) (Z : Nat → Prop) (w : World) (r : Nat) (s : List UInt8) (at_ : Nat) (U : Value) (fs : List Frm) (h : RSt base w r s at_ U fs) (hE : ErrC w) (hr3 : 2 < r) (hZ : Zs Z w w fs) (hc : ∀ c q, skipB (s.drop at_) = c :: q → c ≠ 91 ∧ c ≠ 123 ∧ c ≠ 34 ∧ ¬ (c = 45 ∨ digB c = true)) :
    Calls Tryz.prog 35 #[.pointer (some ⟨r, 0, none⟩)] w (StPost base Z w r s at_ (resume (fs.map (·.fr)) (pV fs.length (s.drop at_)))) := by
  have b0 : Below w.heap.size w (w.alloc (.cells #[.int .i64 0, .bool false, .int .i64 0, .string ⟨#[]⟩, .slice none 0 0, .slice none 0 0] 25)) := (Below.refl _ _).alloc (Nat.le_refl _) _
  have hbw : base ≤ w.heap.size := Nat.le_trans h.hr (Nat.le_of_lt h.lt)
  have HI := Lib.hid (show BgSt base Z w r s at_ U fs w.heap.size (w.alloc (.cells #[.int .i64 0, .bool false, .int .i64 0, .string ⟨#[]⟩, .slice none 0 0, .slice none 0 0] 25)) from ⟨h.later b0, b0.mono hbw, Blk.new w [.int .i64 0, .bool false, .int .i64 0, .string ⟨#[]⟩, .slice none 0 0, .slice none 0 0] 25, hbw, fun f hf hb => absurd ((h.ins f hf).2.2.2.2.1 _ hb).2 (Nat.lt_irrefl _), hE.chg (Chg.of b0 : Chg (fun _ => False) _ _) (fun e => e) (fun e => e), hr3, Nat.le_refl _, hZ.chg (Nat.le_refl _) (Chg.of b0 : Chg (fun _ => False) _ _) (fun _ _ h => h)⟩)
  have HSUB := Lib.hid h.sub
  have HC := Lib.hid hc
  clear h hE hr3 b0 hbw hc hZ
  go_enter Tryz.func35, Tryz.ntmps35
  go_upto_region 1 with fail
  refine wp_gen (fun W => BgSt base Z w r s at_ U fs w.heap.size W) HI.out ?_
  clear HI
  rintro W0 g0
  have H0 := Lib.hid g0
  clear g0
  go_wp2_with fail
  refine (next_calls base _ r s at_ _ _ H0.out.st).mono ?_
  rintro e W1 ⟨k, rfl, n1, n2, n3, n4⟩
  have H1 := Lib.hid (And.intro (H0.out.next n4 n3) (And.intro n1 n2))
  clear n1 n2 n3 n4 H0
  obtain ⟨z, hz⟩ : ∃ z, headU (s.drop k) = z := ⟨_, rfl⟩
  rw [hz]
  have HR := Lib.hid (show pV fs.length (s.drop at_) = (match wordF (s.drop k) with | none => .error 4 | some p => .ok (p.1, (s.drop k).drop p.2)) by
    cases hk : s.drop k with
    | nil => rw [pV_eq, ← H1.out.2.1, hk]; rfl
    | cons c q =>
      have hcc := HC.out c q (by rw [← H1.out.2.1]; exact hk)
      rw [pV_at H1.out.2.1 hk, pC_word hcc.1 hcc.2.1 hcc.2.2.1 hcc.2.2.2])
  have hzz : z ≠ 91 ∧ z ≠ 123 ∧ z ≠ 34 ∧ z ≠ 45 ∧ ¬ (48 ≤ z ∧ z ≤ 57) := by
    cases hk : s.drop k with
    | nil => rw [hk] at hz; have e : z = 0 := hz.symm; subst e; decide
    | cons c q =>
      have hcc := HC.out c q (by rw [← H1.out.2.1]; exact hk)
      rw [hk] at hz
      have hz : c.toNat = z := hz
      have hne : ∀ d : UInt8, c ≠ d → z ≠ d.toNat := fun d hd e => hd (UInt8.toNat_inj.1 (hz.trans e))
      refine ⟨hne 91 hcc.1, hne 123 hcc.2.1, hne 34 hcc.2.2.1, hne 45 (fun e => hcc.2.2.2 (.inl e)), fun e => hcc.2.2.2 (.inr ?_)⟩
      unfold digB; rw [hz]; simpa using e
  clear hz
  have g1 : ((z : Int) == 91) = false := by rw [beq_eq_false_iff_ne]; omega
  have g2 : ((z : Int) == 123) = false := by rw [beq_eq_false_iff_ne]; omega
  have g3 : ((z : Int) == 34) = false := by rw [beq_eq_false_iff_ne]; omega
  have g4 : ((z : Int) == 45) = false := by rw [beq_eq_false_iff_ne]; omega
  rcases (show decide ((48 : Int) ≤ (z : Int)) = false ∨ (decide ((48 : Int) ≤ (z : Int)) = true ∧ decide ((z : Int) ≤ 57) = false) from by
    by_cases h : 48 ≤ z
    · exact .inr ⟨by simp; omega, by simp; omega⟩
    · exact .inl (by simp; omega)) with h1 | ⟨h1, h2⟩
  · clear hzz
    go_wp2_with fail
    refine (word_calls base _ r s k _ _ H1.out.1.st).mono ?_
    rintro e W2 ⟨c2, ⟨hn, rfl⟩ | ⟨v, n, hn, rfl, h0, q4⟩⟩
    · have HB := Lib.hid (And.intro (show Below base w W2 from c2.below H1.out.1.below (Nat.le_trans H1.out.1.st.hr (Nat.le_of_lt H1.out.1.st.lt)) (fun b _ e => by rw [e]; exact H1.out.1.st.hr)) (show resume (fs.map (·.fr)) (pV fs.length (s.drop at_)) = .error 4 by rw [HR.out, hn]; exact resume_err _ _))
      clear c2 hn
      go_wp2_with fail
      exact ⟨rfl, StPost.bad HB.out.1 HB.out.2⟩
    · have H2 := Lib.hid (And.intro (H1.out.1.next c2 q4) (And.intro (Nat.lt_of_le_of_lt H1.out.2.2 (Nat.lt_add_of_pos_right h0)) (And.intro (show pV fs.length (s.drop at_) = .ok (v, s.drop (k + n)) by rw [HR.out, hn]; dsimp only; rw [List.drop_drop]) (word_fit hn))))
      clear c2 hn q4 h0
      unfold bareV
      obtain ⟨z0, z1, z2, z3, z4, z5, y0, y1, y2, y3, y4, y5⟩ := cells6s H2.out.1.res
      go_wp2_with fail
      exact bodyPost_ret (res_cell62 (p := 2) (q := 3) rfl _ ⟨w.heap.size, 0, none⟩ _ _ _ rfl rfl (Blk.load (blk6 H2.out.1.res) _ Tryz.underlying25 rfl size_v6)) rfl (H2.out.1.bare HSUB.out H2.out.2.1 (v := v) H2.out.2.2.2.1 H2.out.2.2.2.2.1 H2.out.2.2.2.2.2 (by rw [H2.out.2.2.1]))
  · clear hzz
    go_wp2_with fail
    refine (word_calls base _ r s k _ _ H1.out.1.st).mono ?_
    rintro e W2 ⟨c2, ⟨hn, rfl⟩ | ⟨v, n, hn, rfl, h0, q4⟩⟩
    · have HB := Lib.hid (And.intro (show Below base w W2 from c2.below H1.out.1.below (Nat.le_trans H1.out.1.st.hr (Nat.le_of_lt H1.out.1.st.lt)) (fun b _ e => by rw [e]; exact H1.out.1.st.hr)) (show resume (fs.map (·.fr)) (pV fs.length (s.drop at_)) = .error 4 by rw [HR.out, hn]; exact resume_err _ _))
      clear c2 hn
      go_wp2_with fail
      exact ⟨rfl, StPost.bad HB.out.1 HB.out.2⟩
    · have H2 := Lib.hid (And.intro (H1.out.1.next c2 q4) (And.intro (Nat.lt_of_le_of_lt H1.out.2.2 (Nat.lt_add_of_pos_right h0)) (And.intro (show pV fs.length (s.drop at_) = .ok (v, s.drop (k + n)) by rw [HR.out, hn]; dsimp only; rw [List.drop_drop]) (word_fit hn))))
      clear c2 hn q4 h0
      unfold bareV
      obtain ⟨z0, z1, z2, z3, z4, z5, y0, y1, y2, y3, y4, y5⟩ := cells6s H2.out.1.res
      go_wp2_with fail
      exact bodyPost_ret (res_cell62 (p := 2) (q := 3) rfl _ ⟨w.heap.size, 0, none⟩ _ _ _ rfl rfl (Blk.load (blk6 H2.out.1.res) _ Tryz.underlying25 rfl size_v6)) rfl (H2.out.1.bare HSUB.out H2.out.2.1 (v := v) H2.out.2.2.2.1 H2.out.2.2.2.2.1 H2.out.2.2.2.2.2 (by rw [H2.out.2.2.1]))
end Go.Proofs.YtajkgcmopmpihaaGreatDoor
namespace Go.Proofs.YtajkgcmopmpihaaGreatDoor
open Go.ChangeShapes Go.WideShapes Go.ChangeAt Go.RowKit Go.IntWalk
set_option linter.unusedVariables false
set_option maxRecDepth 100000
theorem pC_list {n : Nat} {q : List UInt8} : pC n 91 q = (if n = 32 then .error 5 else match skipB q with | [] => pL .nil (n + 1) q | d :: q2 => if d = 93 then .ok (lstV .nil, q2) else pL .nil (n + 1) q) := by
  unfold pC; rw [if_pos rfl]; rfl
theorem pC_list_end {n : Nat} {q q2 : List UInt8} (h : n ≠ 32) (hq : skipB q = 93 :: q2) : pC n 91 q = .ok (lstV .nil, q2) := by
  rw [pC_list, if_neg h, hq]; rfl
theorem pC_list_go {n : Nat} {q : List UInt8} (h : n ≠ 32) (hq : (skipB q).head? ≠ some 93) : pC n 91 q = pL .nil (n + 1) q := by
  rw [pC_list, if_neg h]
  cases hs : skipB q with
  | nil => rfl
  | cons d q2 =>
    rw [hs] at hq
    dsimp only
    rw [if_neg (fun e => hq (by rw [e]; rfl))]
theorem pC_table {n : Nat} {q : List UInt8} : pC n 123 q = (if n = 32 then .error 5 else match skipB q with | [] => pT .nil (n + 1) q | d :: q2 => if d = 125 then .ok (mapV .nil, q2) else pT .nil (n + 1) q) := by
  unfold pC; rw [if_neg (by decide), if_pos rfl]; rfl
theorem pC_table_end {n : Nat} {q q2 : List UInt8} (h : n ≠ 32) (hq : skipB q = 125 :: q2) : pC n 123 q = .ok (mapV .nil, q2) := by
  rw [pC_table, if_neg h, hq]; rfl
theorem pC_table_go {n : Nat} {q : List UInt8} (h : n ≠ 32) (hq : (skipB q).head? ≠ some 125) : pC n 123 q = pT .nil (n + 1) q := by
  rw [pC_table, if_neg h]
  cases hs : skipB q with
  | nil => rfl
  | cons d q2 =>
    rw [hs] at hq
    dsimp only
    rw [if_neg (fun e => hq (by rw [e]; rfl))]
theorem keyF_skip (acc : JT) (r : List UInt8) : keyF acc (skipB r) = keyF acc r := by unfold keyF; rw [skip_skip]
theorem fin_newl {base : Nat} {W : World} (hb : base ≤ W.heap.size) : FIn base (W.alloc (.cells #[.slice none 0 0] 92)) ⟨.l .nil, W.heap.size, .slice none 0 0, W.heap.size, fun b => b = W.heap.size⟩ :=
  ⟨⟨Blk.new W [.slice none 0 0] 92, rfl⟩, rfl, rfl, fun b e => (by cases e), fun b e => ⟨by omega, by rw [e]; simp⟩, fun _ => False, RowP.nil _ _ _ _ _, fun b hb => hb.elim⟩
theorem fin_newt {base : Nat} {W : World} (hb : base ≤ W.heap.size) : FIn base ((W.alloc (.map #[] 0)).alloc (.cells #[.slice none 0 0, .map (some W.heap.size), .string ⟨#[]⟩] 97)) ⟨.k .nil, W.heap.size + 1, .slice none 0 0, W.heap.size, fun b => b = W.heap.size ∨ b = W.heap.size + 1⟩ := by
  have h1 : Blk ((W.alloc (.map #[] 0)).alloc (.cells #[.slice none 0 0, .map (some W.heap.size), .string ⟨#[]⟩] 97)) (W.heap.size + 1) 97 [.slice none 0 0, .map (some W.heap.size), .string ⟨([] : List UInt8).toArray⟩] := by
    have := Blk.new (W.alloc (.map #[] 0)) [.slice none 0 0, .map (some W.heap.size), .string ⟨#[]⟩] 97
    simpa using this
  have h2 := (Mp.made Tryz.prog 9 W).alloc (.cells #[.slice none 0 0, .map (some W.heap.size), .string ⟨#[]⟩] 97)
  refine ⟨⟨⟨[], h1⟩, ⟨0, Nat.le_refl _, ?_⟩, (show W.heap.size ≠ W.heap.size + 1 by omega), trivial⟩, .inr rfl, .inl rfl, fun b e => (by cases e), fun b e => ?_, fun _ => False, RowP.nil _ _ _ _ _, fun b hb => hb.elim⟩
  · have e : (fun s => if JT.nil.hasK s = true then some (Value.agg #[]) else none) = fun _ => none := funext fun s => by simp [JT.hasK]
    show Mp Tryz.prog 9 _ W.heap.size (fun s => if JT.nil.hasK s = true then some (Value.agg #[]) else none) 0
    rw [e]
    exact h2
  · rcases e with e | e <;> rw [e] <;> simp <;> omega
theorem BgSt.open_ {base : Nat} {Z : Nat → Prop} {w W W2 : World} {r q k : Nat} {s : List UInt8} {U U2 : Value} {f : Frm} {fs : List Frm} (h : BgSt base Z w r s k U fs q W) (hc : Chg (rU r U) W W2) (h2 : RSt base W2 r s (k + 1) U2 (f :: fs)) (hf : ¬ f.F q) (hzf : ∀ b, Z b → ¬ f.F b) : LaySt base Z w r s (k + 1) U2 f fs q W2 :=
  ⟨h2, hc.below h.below (Nat.le_trans h.st.hr (Nat.le_of_lt h.st.lt)) (fun b _ e => by
    rcases e with e | e
    · rw [e]; exact h.st.hr
    · exact (World.ownsRow.lt h.st.own b e).1), hc.blk h.res (fun e => by
    rcases e with e | e
    · exact (h.st.une h.res).1 e.symm
    · exact (h.st.une h.res).2 _ e rfl), h.bq, fun x hx => by
    rcases List.mem_cons.1 hx with rfl | hx
    · exact hf
    · exact h.away x hx, fun x hx => Nat.lt_succ_of_le (h.st.sub x hx), h.qn, (h.zs.chg h.below.size hc (fun b hb e => by
    obtain ⟨cs, hb2⟩ := (h.zs b hb).2.2.1
    rcases e with e | e
    · exact (h.st.une hb2).1 e.symm
    · exact (h.st.une hb2).2 _ e rfl)).cons hzf⟩
set_option maxHeartbeats 4000000 in
theorem begin_list (base : Nat) (Z : Nat → Prop) (w : World) (r : Nat) (s : List UInt8) (at_ : Nat) (U : Value) (fs : List Frm) (h : RSt base w r s at_ U fs) (hE : ErrC w) (hr3 : 2 < r) (hZ : Zs Z w w fs) (hc : ∃ q, skipB (s.drop at_) = 91 :: q) :
    Calls Tryz.prog 35 #[.pointer (some ⟨r, 0, none⟩)] w (StPost base Z w r s at_ (resume (fs.map (·.fr)) (pV fs.length (s.drop at_)))) := by
  have b0 : Below w.heap.size w (w.alloc (.cells #[.int .i64 0, .bool false, .int .i64 0, .string ⟨#[]⟩, .slice none 0 0, .slice none 0 0] 25)) := (Below.refl _ _).alloc (Nat.le_refl _) _
  have hbw : base ≤ w.heap.size := Nat.le_trans h.hr (Nat.le_of_lt h.lt)
  have HI := Lib.hid (show BgSt base Z w r s at_ U fs w.heap.size (w.alloc (.cells #[.int .i64 0, .bool false, .int .i64 0, .string ⟨#[]⟩, .slice none 0 0, .slice none 0 0] 25)) from ⟨h.later b0, b0.mono hbw, Blk.new w [.int .i64 0, .bool false, .int .i64 0, .string ⟨#[]⟩, .slice none 0 0, .slice none 0 0] 25, hbw, fun f hf hb => absurd ((h.ins f hf).2.2.2.2.1 _ hb).2 (Nat.lt_irrefl _), hE.chg (Chg.of b0 : Chg (fun _ => False) _ _) (fun e => e) (fun e => e), hr3, Nat.le_refl _, hZ.chg (Nat.le_refl _) (Chg.of b0 : Chg (fun _ => False) _ _) (fun _ _ h => h)⟩)
  have HSUB := Lib.hid h.sub
  have HC := Lib.hid hc
  clear h hE hr3 b0 hbw hc hZ
  go_enter Tryz.func35, Tryz.ntmps35
  go_upto_region 1 with fail
  refine wp_gen (fun W => BgSt base Z w r s at_ U fs w.heap.size W) HI.out ?_
  clear HI
  rintro W0 g0
  have H0 := Lib.hid g0
  clear g0
  go_wp2_with fail
  refine (next_calls base _ r s at_ _ _ H0.out.st).mono ?_
  rintro e W1 ⟨k, rfl, n1, n2, n3, n4⟩
  have H1 := Lib.hid (And.intro (H0.out.next n4 n3) (And.intro n1 n2))
  clear n1 n2 n3 n4 H0
  obtain ⟨q, hq⟩ := HC.out
  have hk : s.drop k = 91 :: q := by rw [H1.out.2.1]; exact hq
  obtain ⟨hqq, hkl⟩ := drop_cons hk
  subst hqq
  have hz : ((headU (s.drop k) : Nat) : Int) = 91 := by rw [hk]; rfl
  rw [hz]
  have HR := Lib.hid (show pV fs.length (s.drop at_) = pC fs.length 91 (s.drop (k + 1)) from pV_at H1.out.2.1 hk)
  have HKL := Lib.hid hkl
  have hbA : Below W1.heap.size W1 (W1.alloc (.cells #[.slice none 0 0] 92)) := (Below.refl _ _).alloc (Nat.le_refl _) _
  have HA := Lib.hid (And.intro (H1.out.1.later hbA) (fin_newl (W := W1) (Nat.le_trans H1.out.1.st.hr (Nat.le_of_lt H1.out.1.st.lt))))
  have HFA := Lib.hid (show ∀ b, W1.heap.size ≤ b → b ≠ r ∧ (∀ g, U.ownBlock = some g → g ≠ b) ∧ (∀ f' ∈ fs, ¬ f'.F b) ∧ b ≠ w.heap.size from fun b hb => ⟨by have := H1.out.1.st.lt; omega, fun g hg => by have := (World.ownsRow.lt H1.out.1.st.own g hg).2; omega, fun f' hf' hbf => by have := ((H1.out.1.st.ins f' hf').2.2.2.2.1 b hbf).2; omega, by have := H1.out.1.res.lt; omega⟩)
  clear hk hz hq hkl hbA
  go_wp2_with fail
  refine (open_calls base _ r s k _ _ ⟨.l .nil, W1.heap.size, .slice none 0 0, W1.heap.size, fun b => b = W1.heap.size⟩ HA.out.1.st HKL.out HA.out.2 (fun e => (HFA.out _ (Nat.le_refl _)).1 e.symm) (fun b hb e => (HFA.out _ (Nat.le_refl _)).2.1 b hb e) (fun f' hf' b hb h => by subst hb; exact (HFA.out _ (Nat.le_refl _)).2.2.1 f' hf' h) rfl).mono ?_
  rintro e W2 ⟨c2, ⟨rfl, h32⟩ | ⟨rfl, h32, U2, st2⟩⟩
  · have HB := Lib.hid (And.intro (show Below base w W2 from c2.below HA.out.1.below (Nat.le_trans HA.out.1.st.hr (Nat.le_of_lt HA.out.1.st.lt)) (fun b _ e => by
      rcases e with e | e
      · rw [e]; exact HA.out.1.st.hr
      · exact (World.ownsRow.lt HA.out.1.st.own b e).1)) (show resume (fs.map (·.fr)) (pV fs.length (s.drop at_)) = .error 5 by rw [HR.out, pC_list, if_pos h32]; exact resume_err _ _))
    clear c2 h32
    go_wp2_with fail
    exact ⟨rfl, StPost.bad HB.out.1 HB.out.2⟩
  · have H2 := Lib.hid (And.intro (HA.out.1.open_ c2 st2 (fun e => (HFA.out _ (Nat.le_refl _)).2.2.2 e.symm) (fun b hb e => by have h1 := (HA.out.1.zs b hb).1; have h2 := H1.out.1.below.size; have e : b = W1.heap.size := e; omega)) h32)
    clear c2 st2 h32
    go_wp2_with fail
    refine (pass_calls base _ r s (k + 1) 93 _ _ H2.out.1.st).mono ?_
    rintro e W3 ⟨b, k3, rfl, p1, p2, p3, p4, p5⟩
    have H3 := Lib.hid (And.intro (H2.out.1.next p2 p1 p3) (And.intro (show at_ < k3 from Nat.lt_of_le_of_lt H1.out.2.2 p3) (And.intro p4 p5)))
    clear p1 p2 p3 p4 p5
    cases b with
    | true =>
      have hend := (H3.out.2.2.1 (by first | rfl | trivial)).1
      have HE := Lib.hid (show resume (fs.map (·.fr)) (pV fs.length (s.drop at_)) = resume (fs.map (·.fr)) (.ok (lstV .nil, s.drop k3)) by rw [HR.out, pC_list_end H2.out.2 hend])
      clear hend
      go_wp2_with fail
      refine (close_list base _ r s k3 _ _ _ _ _ _ _ H3.out.1.st).mono ?_
      rintro e W7 ⟨c7, A7, nl7, cl7, B7, nm7, cm7, U7, rfl, v7, r7, u7, x7⟩
      have hb7 : Blk W7 w.heap.size 25 [.int .i64 0, .bool false, .int .i64 0, .string ⟨#[]⟩, .slice none 0 0, .slice none 0 0] := c7.blk H3.out.1.res (fun e => by
        rcases e with e | e
        · exact (H3.out.1.st.une H3.out.1.res).1 e.symm
        · exact H3.out.1.away _ (List.mem_cons_self ..) e)
      have hB7 : Below base w W7 := c7.below H3.out.1.below (Nat.le_trans H3.out.1.st.hr (Nat.le_of_lt H3.out.1.st.lt)) (fun b _ e => by
        rcases e with e | e
        · rw [e]; exact H3.out.1.st.hr
        · exact ((H3.out.1.st.ins _ (List.mem_cons_self ..)).2.2.2.2.1 b e).1)
      have H7 := Lib.hid (And.intro hb7 (And.intro hB7 (And.intro (show Whole9 base W7 r s k3 U7 fs _ (lstV .nil) A7 B7 nl7 cl7 nm7 cm7 from ⟨r7, v7, H3.out.1.own (hc := c7) r7 u7, H3.out.1.low, x7⟩) ((H3.out.1.zsC c7).sub (fun x hx => List.mem_cons_of_mem _ hx)))))
      obtain ⟨z0, z1, z2, z3, z4, z5, y0, y1, y2, y3, y4, y5⟩ := cells6s hb7
      clear c7 v7 r7 u7 x7 hb7 hB7
      go_wp2_with fail
      exact bodyPost_ret (res_cell62 (p := 2) (q := 3) rfl _ ⟨w.heap.size, 0, none⟩ _ _ _ rfl rfl (Blk.load (blk6 H7.out.1) _ Tryz.underlying25 rfl size_v6)) rfl (StPost.yes H7.out.2.1 H7.out.2.2.1 H7.out.1 H3.out.1.bq (fun x hx => H3.out.1.away x (List.mem_cons_of_mem _ hx)) (H3.out.1.away _ (List.mem_cons_self ..)) H3.out.1.qn H7.out.2.2.2 H3.out.1.zf H3.out.2.1 HE.out)
    | false =>
      have hno := H3.out.2.2.2 (by first | rfl | trivial)
      have HE := Lib.hid (show resume (fs.map (·.fr)) (pV fs.length (s.drop at_)) = resume (.l .nil :: fs.map (·.fr)) (pV (fs.length + 1) (s.drop k3)) by
        rw [HR.out, pC_list_go H2.out.2 (by rw [← hno.1]; exact hno.2), hno.1, pV_skip]
        have := pL_push .nil (fs.map (·.fr)) (s.drop (k + 1))
        rw [List.length_map] at this
        exact this)
      clear hno
      obtain ⟨z0, z1, z2, z3, z4, z5, y0, y1, y2, y3, y4, y5⟩ := cells6s H3.out.1.res
      go_wp2_with fail
      exact bodyPost_ret (res_cell62 (p := 2) (q := 3) rfl _ ⟨w.heap.size, 0, none⟩ _ _ _ rfl rfl (Blk.load (blk6 H3.out.1.res) _ Tryz.underlying25 rfl size_v6)) rfl (StPost.no H3.out.1.below H3.out.1.st H3.out.1.res H3.out.1.bq H3.out.1.away H3.out.1.qn H3.out.1.zs H3.out.2.1 HE.out)
set_option maxHeartbeats 4000000 in
theorem begin_table (base : Nat) (Z : Nat → Prop) (w : World) (r : Nat) (s : List UInt8) (at_ : Nat) (U : Value) (fs : List Frm) (h : RSt base w r s at_ U fs) (hE : ErrC w) (hr3 : 2 < r) (hZ : Zs Z w w fs) (hc : ∃ q, skipB (s.drop at_) = 123 :: q) :
    Calls Tryz.prog 35 #[.pointer (some ⟨r, 0, none⟩)] w (StPost base Z w r s at_ (resume (fs.map (·.fr)) (pV fs.length (s.drop at_)))) := by
  have b0 : Below w.heap.size w (w.alloc (.cells #[.int .i64 0, .bool false, .int .i64 0, .string ⟨#[]⟩, .slice none 0 0, .slice none 0 0] 25)) := (Below.refl _ _).alloc (Nat.le_refl _) _
  have hbw : base ≤ w.heap.size := Nat.le_trans h.hr (Nat.le_of_lt h.lt)
  have HI := Lib.hid (show BgSt base Z w r s at_ U fs w.heap.size (w.alloc (.cells #[.int .i64 0, .bool false, .int .i64 0, .string ⟨#[]⟩, .slice none 0 0, .slice none 0 0] 25)) from ⟨h.later b0, b0.mono hbw, Blk.new w [.int .i64 0, .bool false, .int .i64 0, .string ⟨#[]⟩, .slice none 0 0, .slice none 0 0] 25, hbw, fun f hf hb => absurd ((h.ins f hf).2.2.2.2.1 _ hb).2 (Nat.lt_irrefl _), hE.chg (Chg.of b0 : Chg (fun _ => False) _ _) (fun e => e) (fun e => e), hr3, Nat.le_refl _, hZ.chg (Nat.le_refl _) (Chg.of b0 : Chg (fun _ => False) _ _) (fun _ _ h => h)⟩)
  have HSUB := Lib.hid h.sub
  have HC := Lib.hid hc
  clear h hE hr3 b0 hbw hc hZ
  go_enter Tryz.func35, Tryz.ntmps35
  go_upto_region 1 with fail
  refine wp_gen (fun W => BgSt base Z w r s at_ U fs w.heap.size W) HI.out ?_
  clear HI
  rintro W0 g0
  have H0 := Lib.hid g0
  clear g0
  go_wp2_with fail
  refine (next_calls base _ r s at_ _ _ H0.out.st).mono ?_
  rintro e W1 ⟨k, rfl, n1, n2, n3, n4⟩
  have H1 := Lib.hid (And.intro (H0.out.next n4 n3) (And.intro n1 n2))
  clear n1 n2 n3 n4 H0
  obtain ⟨q, hq⟩ := HC.out
  have hk : s.drop k = 123 :: q := by rw [H1.out.2.1]; exact hq
  obtain ⟨hqq, hkl⟩ := drop_cons hk
  subst hqq
  have hz : ((headU (s.drop k) : Nat) : Int) = 123 := by rw [hk]; rfl
  rw [hz]
  have HR := Lib.hid (show pV fs.length (s.drop at_) = pC fs.length 123 (s.drop (k + 1)) from pV_at H1.out.2.1 hk)
  have HKL := Lib.hid hkl
  have hbA : Below W1.heap.size W1 ((W1.alloc (.map #[] 0)).alloc (.cells #[.slice none 0 0, .map (some W1.heap.size), .string ⟨#[]⟩] 97)) := ((Below.refl _ _).alloc (Nat.le_refl _) _).alloc (by simp) _
  have HA := Lib.hid (And.intro (H1.out.1.later hbA) (fin_newt (W := W1) (Nat.le_trans H1.out.1.st.hr (Nat.le_of_lt H1.out.1.st.lt))))
  have HFA := Lib.hid (show ∀ b, W1.heap.size ≤ b → b ≠ r ∧ (∀ g, U.ownBlock = some g → g ≠ b) ∧ (∀ f' ∈ fs, ¬ f'.F b) ∧ b ≠ w.heap.size from fun b hb => ⟨by have := H1.out.1.st.lt; omega, fun g hg => by have := (World.ownsRow.lt H1.out.1.st.own g hg).2; omega, fun f' hf' hbf => by have := ((H1.out.1.st.ins f' hf').2.2.2.2.1 b hbf).2; omega, by have := H1.out.1.res.lt; omega⟩)
  clear hk hz hq hkl hbA
  have hmk : (Instr.makeMap 95 none).run Tryz.prog W1 = .ok (.map (some W1.heap.size)) (W1.alloc (.map #[] 0)) := rfl
  go_wp2_with fail
  refine (open_calls base _ r s k _ _ ⟨.k .nil, W1.heap.size + 1, .slice none 0 0, W1.heap.size, fun b => b = W1.heap.size ∨ b = W1.heap.size + 1⟩ HA.out.1.st HKL.out HA.out.2 (fun e => e.elim (fun e => (HFA.out _ (Nat.le_refl _)).1 e.symm) (fun e => (HFA.out _ (Nat.le_succ _)).1 e.symm)) (fun b hb e => e.elim (fun e => (HFA.out _ (Nat.le_refl _)).2.1 b hb e) (fun e => (HFA.out _ (Nat.le_succ _)).2.1 b hb e)) (fun f' hf' b hb h => by rcases hb with hb | hb <;> subst hb; exact (HFA.out _ (Nat.le_refl _)).2.2.1 f' hf' h; exact (HFA.out _ (Nat.le_succ _)).2.2.1 f' hf' h) rfl).mono ?_
  rintro e W2 ⟨c2, ⟨rfl, h32⟩ | ⟨rfl, h32, U2, st2⟩⟩
  · have HB := Lib.hid (And.intro (show Below base w W2 from c2.below HA.out.1.below (Nat.le_trans HA.out.1.st.hr (Nat.le_of_lt HA.out.1.st.lt)) (fun b _ e => by
      rcases e with e | e
      · rw [e]; exact HA.out.1.st.hr
      · exact (World.ownsRow.lt HA.out.1.st.own b e).1)) (show resume (fs.map (·.fr)) (pV fs.length (s.drop at_)) = .error 5 by rw [HR.out, pC_table, if_pos h32]; exact resume_err _ _))
    clear c2 h32
    go_wp2_with fail
    exact ⟨rfl, StPost.bad HB.out.1 HB.out.2⟩
  · have H2 := Lib.hid (And.intro (HA.out.1.open_ c2 st2 (fun e => e.elim (fun e => (HFA.out _ (Nat.le_refl _)).2.2.2 e.symm) (fun e => (HFA.out _ (Nat.le_succ _)).2.2.2 e.symm)) (fun b hb e => by have h1 := (HA.out.1.zs b hb).1; have h2 := H1.out.1.below.size; rcases e with e | e <;> omega)) h32)
    clear c2 st2 h32
    go_wp2_with fail
    refine (pass_calls base _ r s (k + 1) 125 _ _ H2.out.1.st).mono ?_
    rintro e W3 ⟨b, k3, rfl, p1, p2, p3, p4, p5⟩
    have H3 := Lib.hid (And.intro (H2.out.1.next p2 p1 p3) (And.intro (show at_ < k3 from Nat.lt_of_le_of_lt H1.out.2.2 p3) (And.intro p4 p5)))
    clear p1 p2 p3 p4 p5
    cases b with
    | true =>
      have hend := (H3.out.2.2.1 (by first | rfl | trivial)).1
      have HE := Lib.hid (show resume (fs.map (·.fr)) (pV fs.length (s.drop at_)) = resume (fs.map (·.fr)) (.ok (mapV .nil, s.drop k3)) by rw [HR.out, pC_table_end H2.out.2 hend])
      clear hend
      go_wp2_with fail
      refine (close_table base _ r s k3 _ _ _ _ _ _ _ H3.out.1.st).mono ?_
      rintro e W7 ⟨c7, A7, nl7, cl7, B7, nm7, cm7, U7, rfl, v7, r7, u7, x7⟩
      have hb7 : Blk W7 w.heap.size 25 [.int .i64 0, .bool false, .int .i64 0, .string ⟨#[]⟩, .slice none 0 0, .slice none 0 0] := c7.blk H3.out.1.res (fun e => by
        rcases e with e | e
        · exact (H3.out.1.st.une H3.out.1.res).1 e.symm
        · exact H3.out.1.away _ (List.mem_cons_self ..) e)
      have hB7 : Below base w W7 := c7.below H3.out.1.below (Nat.le_trans H3.out.1.st.hr (Nat.le_of_lt H3.out.1.st.lt)) (fun b _ e => by
        rcases e with e | e
        · rw [e]; exact H3.out.1.st.hr
        · exact ((H3.out.1.st.ins _ (List.mem_cons_self ..)).2.2.2.2.1 b e).1)
      have H7 := Lib.hid (And.intro hb7 (And.intro hB7 (And.intro (show Whole9 base W7 r s k3 U7 fs _ (mapV .nil) A7 B7 nl7 cl7 nm7 cm7 from ⟨r7, v7, H3.out.1.own (hc := c7) r7 u7, H3.out.1.low, x7⟩) ((H3.out.1.zsC c7).sub (fun x hx => List.mem_cons_of_mem _ hx)))))
      obtain ⟨z0, z1, z2, z3, z4, z5, y0, y1, y2, y3, y4, y5⟩ := cells6s hb7
      clear c7 v7 r7 u7 x7 hb7 hB7
      go_wp2_with fail
      exact bodyPost_ret (res_cell62 (p := 2) (q := 3) rfl _ ⟨w.heap.size, 0, none⟩ _ _ _ rfl rfl (Blk.load (blk6 H7.out.1) _ Tryz.underlying25 rfl size_v6)) rfl (StPost.yes H7.out.2.1 H7.out.2.2.1 H7.out.1 H3.out.1.bq (fun x hx => H3.out.1.away x (List.mem_cons_of_mem _ hx)) (H3.out.1.away _ (List.mem_cons_self ..)) H3.out.1.qn H7.out.2.2.2 H3.out.1.zf H3.out.2.1 HE.out)
    | false =>
      have hno := H3.out.2.2.2 (by first | rfl | trivial)
      have HE := Lib.hid (show resume (fs.map (·.fr)) (pV fs.length (s.drop at_)) = (match keyF .nil (s.drop k3) with | .error e => .error e | .ok p => resume (.t .nil p.1 :: fs.map (·.fr)) (pV (fs.length + 1) p.2)) by
        rw [HR.out, pC_table_go H2.out.2 (by rw [← hno.1]; exact hno.2), hno.1, keyF_skip]
        have := pT_push .nil (fs.map (·.fr)) (s.drop (k + 1))
        rw [List.length_map] at this
        exact this)
      clear hno
      go_wp2_with fail
      refine (key_calls base _ r s k3 _ _ _ _ _ _ _ H3.out.1.st).mono ?_
      rintro e W6 ⟨c6, ⟨c, hkc, rfl⟩ | ⟨k2, at2, hkc, rfl, m2, m3, m4⟩⟩
      · have hB6 : Below base w W6 := c6.below H3.out.1.below (Nat.le_trans H3.out.1.st.hr (Nat.le_of_lt H3.out.1.st.lt)) (fun b _ e => by
          rcases e with e | e
          · rw [e]; exact H3.out.1.st.hr
          · exact ((H3.out.1.st.ins _ (List.mem_cons_self ..)).2.2.2.2.1 b e).1)
        have H6 := Lib.hid (And.intro hB6 (show resume (fs.map (·.fr)) (pV fs.length (s.drop at_)) = .error c by rw [HE.out, hkc]))
        clear c6 hkc hB6
        go_wp2_with fail
        exact ⟨rfl, StPost.bad H6.out.1 H6.out.2⟩
      · have hB6 : Below base w W6 := c6.below H3.out.1.below (Nat.le_trans H3.out.1.st.hr (Nat.le_of_lt H3.out.1.st.lt)) (fun b _ e => by
          rcases e with e | e
          · rw [e]; exact H3.out.1.st.hr
          · exact ((H3.out.1.st.ins _ (List.mem_cons_self ..)).2.2.2.2.1 b e).1)
        have hb6 : Blk W6 w.heap.size 25 [.int .i64 0, .bool false, .int .i64 0, .string ⟨#[]⟩, .slice none 0 0, .slice none 0 0] := c6.blk H3.out.1.res (fun e => by
          rcases e with e | e
          · exact (H3.out.1.st.une H3.out.1.res).1 e.symm
          · exact H3.out.1.away _ (List.mem_cons_self ..) e)
        have hres : resume (fs.map (·.fr)) (pV fs.length (s.drop at_)) = resume (.t .nil k2 :: fs.map (·.fr)) (pV (fs.length + 1) (s.drop at2)) := by rw [HE.out, hkc]
        have H6 := Lib.hid (And.intro hB6 (And.intro m4 (And.intro hb6 (And.intro hres (And.intro (Nat.lt_trans H3.out.2.1 m2) (((H3.out.1.zsC c6).sub (fun x hx => List.mem_cons_of_mem _ hx)).cons (f := ⟨.t .nil k2, W1.heap.size + 1, .slice none 0 0, W1.heap.size, fun b => b = W1.heap.size ∨ b = W1.heap.size + 1⟩) H3.out.1.zf))))))
        obtain ⟨z0, z1, z2, z3, z4, z5, y0, y1, y2, y3, y4, y5⟩ := cells6s hb6
        clear c6 hkc hB6 hb6 hres m2 m3 m4
        go_wp2_with fail
        exact bodyPost_ret (res_cell62 (p := 2) (q := 3) rfl _ ⟨w.heap.size, 0, none⟩ _ _ _ rfl rfl (Blk.load (blk6 H6.out.2.2.1) _ Tryz.underlying25 rfl size_v6)) rfl (StPost.no H6.out.1 H6.out.2.1 H6.out.2.2.1 H3.out.1.bq (fun x hx => by
          rcases List.mem_cons.1 hx with rfl | hx
          · exact H3.out.1.away ⟨.k .nil, W1.heap.size + 1, .slice none 0 0, W1.heap.size, fun b => b = W1.heap.size ∨ b = W1.heap.size + 1⟩ (List.mem_cons_self ..)
          · exact H3.out.1.away x (List.mem_cons_of_mem _ hx)) H3.out.1.qn H6.out.2.2.2.2.2 H6.out.2.2.2.2.1 H6.out.2.2.2.1)
end Go.Proofs.YtajkgcmopmpihaaGreatDoor
