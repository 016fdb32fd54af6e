/- Layer 19: SpoolReads, walked. -/
import Derived.Test.YthhnbpbebplcoaaSpK
namespace Go.Proofs.Ythhnbpbebplcoaa
open Go.ChangeShapes Go.WideShapes Go.ChangeAt Go.RowKit Go.IntWalk
set_option linter.unusedVariables false

theorem same_quiet (A B : Option Addr) (n c n2 c2 : Nat) (xs : List (List UInt8)) (w : World) (m : Nat) (ha : RV w A (xs.map strV)) (hn : Hid (n = xs.length)) (hb : RV w B (xs.map strV)) (hn2 : Hid (n2 = xs.length)) (h62 : xs.length ≤ 1099511627776) :
    Calls Try.prog 18 #[.slice A n c, .slice B n2 c2] (w.drewN m) fun e w'' => e = .returned (.bool true) ∧ ∃ k, w'' = w.drewN k := by
  refine Calls.quiet_of ((same_calls A B n c n2 c2 xs xs (w.drewN m) (ha.drewN m) hn (hb.drewN m) hn2 h62).mono ?_)
  rintro e w' ⟨rfl, k, rfl⟩
  exact ⟨by rw [decide_eq_true rfl], k, rfl⟩
theorem PSt.drewN {base g : Nat} {v : Value} {s : Sp} {w : World} (h : PSt base w g v s) (n : Nat) : PSt base (w.drewN n) g v s := h
set_option maxRecDepth 100000 in
set_option maxHeartbeats 4000000 in
theorem spoolReads_walk (b : ByteArray) (hb : b.size ≤ maxLen) {w : World} :
    Calls Try.prog 5 #[.string b] w fun e w' => e = .returned (.bool true) ∧ Below w.heap.size w w' := by
  obtain ⟨l, rfl, hl⟩ := str_split b
  rw [hl] at hb
  clear hl
  unfold maxLen at hb
  by_cases h1 : 16384 < l.length
  · go_enter Try.func5, Try.ntmps5
    go_wp2_with fail
    refine (alive19_calls w).mono ?_
    rintro e w1 ⟨rfl, b1⟩
    go_wp2_with fail
    go_ret
    exact ⟨rfl, b1⟩
  have hok : (Sp.new l).Ok := Sp.new_ok l (by omega)
  obtain ⟨s1, hs1⟩ : ∃ t, (Sp.new l).open_.1 = t := ⟨_, rfl⟩
  have hok1 : s1.Ok := by rw [← hs1]; exact Sp.Ok.open_ hok
  have hfl := flatL_le l
  have hft := flatL_take l
  obtain ⟨F, hF⟩ : ∃ F, (flatL (splitF l).1).length = F := ⟨_, rfl⟩
  rw [hF] at hfl hft
  have hno := (splitF_good l).1
  cases hr : recsL (splitF l).1 with
  | none =>
    have ho : (Sp.new l).open_ = (Sp.new l, [], 4) := by
      unfold Sp.open_ Sp.lines Sp.new
      dsimp only
      rw [if_neg (by simp), hr]
    have e1 : s1 = Sp.new l := by rw [← hs1, ho]
    have HO := Lib.hid ho
    have HOK := Lib.hid (And.intro hok hr)
    have HB := Lib.hid (show (Sp.new l).bs = l ∧ (Sp.new l).ac = 0 from ⟨rfl, rfl⟩)
    clear ho e1 hok hs1 hok1 hfl hft hno hF hr
    go_enter Try.func5, Try.ntmps5
    go_wp2_with fail
    refine (alive19_calls w).mono ?_
    rintro e w1 ⟨rfl, b1⟩
    have B1 := Lib.hid b1
    clear b1
    go_wp2_with fail
    refine (new_calls l (by omega) w1).mono ?_
    rintro e w2 ⟨g, v, rfl, hg, p2, b2⟩
    have M2 := Lib.hid (show Mine w1.heap.size w1 w2 g v (Sp.new l) from ⟨p2, hg, b2, b2.size⟩)
    clear p2 b2
    go_wp2_with fail
    refine (open_calls w1.heap.size g v (Sp.new l) HOK.out.1 w2 M2.out.1 M2.out.2.2.2).mono ?_
    rintro e w3 ⟨v3, out, p3, n3, ho3, rfl, ow3⟩
    rw [HO.out] at p3 ho3 ⊢
    dsimp only at p3 ho3 ⊢
    have M3 := Lib.hid (M2.out.next p3 n3)
    obtain ⟨A, n, cap, rfl, hrv, hn, _⟩ := ho3.form
    have HRV := Lib.hid (And.intro hrv hn)
    have HOW := Lib.hid ow3
    clear p3 n3 ho3 hrv hn ow3
    go_wp2_with fail
    refine (records_calls l (by omega) w3).mono ?_
    rintro e w4 ⟨b4, (⟨_, rfl⟩ | ⟨rs, v4, h4, _⟩)⟩
    · have M4 := Lib.hid (M3.out.later b4)
      have HR4 := Lib.hid (And.intro (HRV.out.1.below b4) HRV.out.2)
      clear b4
      go_wp2_with fail
      refine (same_calls A none n cap 0 0 [] [] w4 HR4.out.1 HR4.out.2 (RV.nil _ _) (Lib.hid rfl) (by simp)).mono ?_
      rintro e w5 ⟨rfl, k5, rfl⟩
      rw [show decide (([] : List (List UInt8)) = []) = true from decide_eq_true rfl]
      go_wp2_with fail
      refine (bytes_calls w1.heap.size g v3 _ _ (M4.out.1.drewN k5)).mono ?_
      rintro e w6 ⟨rfl, rfl⟩
      rw [HB.out.1]
      unfold strV
      go_wp2_with fail
      refine (open_calls w1.heap.size g v3 (Sp.new l) HOK.out.1 _ (M4.out.1.drewN k5) M4.out.2.2.2).mono ?_
      rintro e w6 ⟨v6, out6, p6, n6, ho6, rfl, ow6⟩
      rw [HO.out] at p6 ho6 ⊢
      dsimp only at p6 ho6 ⊢
      have M6 := Lib.hid ((M4.out.later ((Below.refl _ _).drewN k5)).next p6 n6)
      obtain ⟨A6, nn6, cap6, rfl, hrv6, hn6, _⟩ := ho6.form
      have HR6 := Lib.hid (And.intro hrv6 hn6)
      clear p6 n6 ho6 hrv6 hn6 ow6
      have hrA : RV w6 A (([] : List (List UInt8)).map strV) := RV.nil _ _
      have HQ := Lib.hid hrA
      clear hrA
      have HAC : Hid (∀ k, Calls Try.prog 25 #[.pointer (some ⟨g, 0, none⟩)] (w6.drewN k) fun e w' => e = .returned (.int .i64 0) ∧ w6.drewN k = w') := Lib.hid (fun k => by
        have := acts_calls w1.heap.size g v6 (Sp.new l) _ (M6.out.1.drewN k)
        rw [HB.out.2] at this
        exact this)
      have HSQ : Hid (∀ k, Calls Try.prog 18 #[.slice A6 nn6 cap6, .slice A n cap] (w6.drewN k) fun e w'' => e = .returned (.bool true) ∧ ∃ j, w'' = w6.drewN j) := Lib.hid (fun k => same_quiet A6 A nn6 cap6 n cap [] w6 k HR6.out.1 HR6.out.2 HQ.out HR4.out.2 (by simp))
      go_wp2_with fail
      go_quiet (first
        | (go_at_call 18; exact HSQ.out _)
        | (go_at_call 25; exact Calls.quiet_of_eq (HAC.out _)))
      go_wp2_with fail
      go_ret
      exact ⟨rfl, (B1.out.then_ M6.out.2.2.1).drewN _⟩
    · exfalso
      rw [HOK.out.2] at h4
      cases h4
  | some rs =>
    have ho : (Sp.new l).open_ = (⟨flatL (splitF l).1, min l.length (flatL (splitF l).1).length, false, 0, 0, 0⟩, rs, 0) := by
      unfold Sp.open_ Sp.lines Sp.new
      dsimp only
      rw [if_neg (by simp), hr]
    rw [ho] at hs1
    dsimp only at hs1
    have ho1 : s1.open_.2 = (rs, 0) ∧ s1.open_.1.bs = flatL (splitF l).1 ∧ s1.open_.1.ac = 0 := by
      have hsp : (splitF (flatL (splitF l).1)).1 = (splitF l).1 := by
        have := splitF_uniq (splitF l).1 [] hno (by simp)
        rw [List.append_nil] at this
        rw [this]
      rw [← hs1]
      unfold Sp.open_ Sp.lines
      dsimp only
      rw [if_neg (by simp), hsp, hr]
      exact ⟨rfl, rfl, rfl⟩
    have hrs : rs.length ≤ 16384 := by
      have h2 := recsL_len _ _ hr
      have h3 := flatL_ge (splitF l).1
      omega
    have hin : (Sp.new l).open_.2 = (rs, 0) := by rw [ho]
    have hi1 : (Sp.new l).open_.1 = s1 := by rw [ho]; exact hs1
    have HO := Lib.hid (And.intro hin (And.intro hi1 ho1))
    have HOK := Lib.hid (And.intro hok (And.intro hok1 hr))
    have HFT := Lib.hid (And.intro hft hF)
    have hFl : F ≤ 16384 := by omega
    have hFl2 : F ≤ l.length := hfl
    clear ho hok hs1 hok1 hfl hft hno hF hr hin hi1 ho1
    go_enter Try.func5, Try.ntmps5
    go_wp2_with fail
    refine (alive19_calls w).mono ?_
    rintro e w1 ⟨rfl, b1⟩
    have B1 := Lib.hid b1
    clear b1
    go_wp2_with fail
    refine (new_calls l (by omega) w1).mono ?_
    rintro e w2 ⟨g, v, rfl, hg, p2, b2⟩
    have M2 := Lib.hid (show Mine w1.heap.size w1 w2 g v (Sp.new l) from ⟨p2, hg, b2, b2.size⟩)
    clear p2 b2
    go_wp2_with fail
    refine (open_calls w1.heap.size g v (Sp.new l) HOK.out.1 w2 M2.out.1 M2.out.2.2.2).mono ?_
    rintro e w3 ⟨v3, out, p3, n3, ho3, rfl, ow3⟩
    rw [HO.out.2.1] at p3
    rw [HO.out.1] at ho3 ⊢
    dsimp only at ho3 ⊢
    have M3 := Lib.hid (M2.out.next p3 n3)
    obtain ⟨A, n, cap, rfl, hrv, hn, _⟩ := ho3.form
    have HRV := Lib.hid (And.intro hrv (And.intro (Lib.hid (show n = rs.length by rw [hn.out]; simp)) ho3))
    have HOW := Lib.hid ow3
    clear p3 n3 ho3 hrv hn ow3
    go_wp2_with fail
    refine (records_calls l (by omega) w3).mono ?_
    rintro e w4 ⟨b4, (⟨h4, _⟩ | ⟨rs2, v4, h4, ho4, rfl⟩)⟩
    · exfalso
      rw [HOK.out.2.2] at h4
      cases h4
    · rw [HOK.out.2.2] at h4
      cases h4
      rw [HFT.out.2]
      obtain ⟨A4, n4, cap4, rfl, hrv4, hn4, _⟩ := ho4.form
      have M4 := Lib.hid (M3.out.later b4)
      have HR4 := Lib.hid (And.intro (HRV.out.1.below b4) (And.intro HRV.out.2.1 (And.intro hrv4 (And.intro (Lib.hid (show n4 = rs.length by rw [hn4.out]; simp)) (HRV.out.2.2.below b4 (Nat.le_refl _))))))
      clear b4 hrv4 hn4 ho4
      go_wp2_with fail
      refine (same_calls A A4 n cap n4 cap4 rs rs w4 HR4.out.1 HR4.out.2.1 HR4.out.2.2.1 HR4.out.2.2.2.1 (by omega)).mono ?_
      rintro e w5 ⟨rfl, k5, rfl⟩
      rw [show decide (rs = rs) = true from decide_eq_true rfl]
      go_wp2_with fail
      refine (open_calls w1.heap.size g v3 s1 HOK.out.2.1 _ (M4.out.1.drewN k5) M4.out.2.2.2).mono ?_
      rintro e w6 ⟨v6, out6, p6, n6, ho6, rfl, ow6⟩
      rw [HO.out.2.2.1] at ho6 ⊢
      dsimp only at ho6 ⊢
      have M6 := Lib.hid ((M4.out.later ((Below.refl _ _).drewN k5)).next p6 n6)
      obtain ⟨A6, nn6, cap6, rfl, hrv6, hn6, _⟩ := ho6.form
      have HR6 := Lib.hid (And.intro hrv6 (Lib.hid (show nn6 = rs.length by rw [hn6.out]; simp)))
      have HQ : Hid (RV w6 A (rs.map strV)) := Lib.hid (by
        have h4 := HR4.out.2.2.2.2
        have hown := OwnVs.stay (w1 := w6) h4 (fun k hk => n6.block k (h4.lt k hk).2 (by have := (h4.lt k hk).1; have := M2.out.1.lt; omega) (by
          rw [HOW.out]
          intro e
          have h5 := (M2.out.1.own k e).2
          have h6 := (h4.lt k hk).1
          omega))
        obtain ⟨A', n', c', e, hrv', _, _⟩ := hown.form
        cases e
        exact hrv')
      clear p6 n6 ho6 hrv6 hn6 ow6
      have HAC : Hid (∀ k, Calls Try.prog 25 #[.pointer (some ⟨g, 0, none⟩)] (w6.drewN k) fun e w' => e = .returned (.int .i64 0) ∧ w6.drewN k = w') := Lib.hid (fun k => by
        have := acts_calls w1.heap.size g v6 s1.open_.1 _ (M6.out.1.drewN k)
        rw [HO.out.2.2.2.2] at this
        exact this)
      have HBY : Hid (∀ k, Calls Try.prog 24 #[.pointer (some ⟨g, 0, none⟩)] (w6.drewN k) fun e w' => e = .returned (.string ⟨(l.take F).toArray⟩) ∧ w6.drewN k = w') := Lib.hid (fun k => by
        have := bytes_calls w1.heap.size g v6 s1.open_.1 _ (M6.out.1.drewN k)
        rw [HO.out.2.2.2.1, HFT.out.1] at this
        exact this)
      have HSQ : Hid (∀ k, Calls Try.prog 18 #[.slice A6 nn6 cap6, .slice A n cap] (w6.drewN k) fun e w'' => e = .returned (.bool true) ∧ ∃ j, w'' = w6.drewN j) := Lib.hid (fun k => same_quiet A6 A nn6 cap6 n cap rs w6 k HR6.out.1 HR6.out.2 HQ.out HR4.out.2.1 (by omega))
      go_wp2_with fail
      go_quiet (first
        | (go_at_call 18; exact HSQ.out _)
        | (go_at_call 24; exact Calls.quiet_of_eq (HBY.out _))
        | (go_at_call 25; exact Calls.quiet_of_eq (HAC.out _)))
      go_wp2_with fail
      go_ret
      exact ⟨rfl, (B1.out.then_ M6.out.2.2.1).drewN _⟩
end Go.Proofs.Ythhnbpbebplcoaa
