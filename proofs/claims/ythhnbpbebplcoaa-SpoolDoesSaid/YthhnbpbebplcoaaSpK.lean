/- Layer 19: SpoolParts, SpoolReads, walked. -/
import Derived.Test.YthhnbpbebplcoaaSpJ
namespace Go.Proofs.Ythhnbpbebplcoaa
open Go.ChangeShapes Go.WideShapes Go.ChangeAt Go.RowKit Go.IntWalk
set_option linter.unusedVariables false

theorem lineF_len (l : List UInt8) : (lineF l).length = (8 * l.length + 5) / 6 := by unfold lineF; rw [encF_length]
theorem app_plain (s : Sp) (l : List UInt8) (hd : s.dn = false) (hl : s.lf = 0) (hf : s.bs.length + (lineF l).length + 1 ≤ 4194304) : s.app l = ({ s with bs := s.bs ++ (lineF l ++ [10]), ac := s.ac + 1 }, 0) := by
  have h1 : s.full l = false := by unfold Sp.full; exact decide_eq_false (by omega)
  unfold Sp.app
  rw [if_neg (by simp [hd]), if_neg (by simp [h1])]
  unfold Sp.act
  dsimp only
  rw [if_pos hl]; rfl
theorem sync_plain (s : Sp) (hd : s.dn = false) (hl : s.lf = 0) : s.sync = ({ s with ac := s.ac + 1, sy := s.bs.length }, 0) := by
  unfold Sp.sync
  rw [if_neg (by simp [hd])]
  unfold Sp.act
  rw [if_pos hl]; rfl
theorem lines_no10 (rs : List (List UInt8)) : ∀ z ∈ rs.map lineF, (10 : UInt8) ∉ z := by
  intro z hz
  obtain ⟨r, _, rfl⟩ := List.mem_map.1 hz
  exact lineF_no10 r
theorem split_lines (rs : List (List UInt8)) : splitF (flatL (rs.map lineF)) = (rs.map lineF, []) := by
  have := splitF_uniq (rs.map lineF) [] (lines_no10 rs) (by simp)
  rwa [List.append_nil] at this
theorem open_lines (s : Sp) (rs : List (List UInt8)) (hd : s.dn = false) (hb : s.bs = flatL (rs.map lineF)) : s.open_ = ({ s with sy := min s.sy s.bs.length }, rs, 0) := by
  unfold Sp.open_
  rw [if_neg (by simp [hd])]
  have h1 : s.lines = rs.map lineF := by unfold Sp.lines; rw [hb, split_lines]
  rw [h1, recsL_lines, ← hb]
theorem str_eq_iff (x y : List UInt8) : ((⟨x.toArray⟩ : ByteArray) = ⟨y.toArray⟩) ↔ x = y := ⟨fun e => by injection e with e; injection e, fun e => by rw [e]⟩
set_option maxRecDepth 100000 in
set_option maxHeartbeats 4000000 in
theorem spoolParts_walk (a : ByteArray) (ha : a.size ≤ maxLen) (b : ByteArray) (hb : b.size ≤ maxLen) {w : World} :
    Calls Try.prog 6 #[.string a, .string b] w fun e w' => e = .returned (.bool true) ∧ Below w.heap.size w w' := by
  obtain ⟨la, rfl, hla⟩ := str_split a
  obtain ⟨lb, rfl, hlb⟩ := str_split b
  rw [hla] at ha
  rw [hlb] at hb
  clear hla hlb
  unfold maxLen at ha hb
  by_cases h1 : 4096 < la.length
  · go_enter Try.func6, Try.ntmps6
    go_wp2_with fail
    refine (alive19_calls w).mono ?_
    rintro e w1 ⟨rfl, b1⟩
    go_wp2_with fail
    go_ret
    exact ⟨rfl, b1⟩
  by_cases h2 : 4096 < lb.length
  · go_enter Try.func6, Try.ntmps6
    go_wp2_with fail
    refine (alive19_calls w).mono ?_
    rintro e w1 ⟨rfl, b1⟩
    go_wp2_with fail
    go_ret
    exact ⟨rfl, b1⟩
  have hfa := lineF_len la
  have hfb := lineF_len lb
  have HA := Lib.hid (app_plain (Sp.new []) la rfl rfl (by show 0 + _ + 1 ≤ _; omega))
  have HB := Lib.hid (app_plain (Sp.new []) lb rfl rfl (by show 0 + _ + 1 ≤ _; omega))
  have HOKA := Lib.hid (Sp.Ok.app (Sp.new_ok [] (by decide)) la)
  have HOKB := Lib.hid (Sp.Ok.app (Sp.new_ok [] (by decide)) lb)
  obtain ⟨s1, hs1⟩ : ∃ t, ((Sp.new []).app la).1 = t := ⟨_, rfl⟩
  obtain ⟨o1, ho1⟩ : ∃ t, ((Sp.new []).app lb).1 = t := ⟨_, rfl⟩
  rw [hs1] at HOKA
  rw [ho1] at HOKB
  have e1 : s1 = ⟨flatL ([la].map lineF), 0, false, 1, 0, 0⟩ := by rw [← hs1, HA.out]; simp [Sp.new, flatL]
  have e2 : o1 = ⟨lineF lb ++ [10], 0, false, 1, 0, 0⟩ := by rw [← ho1, HB.out]; rfl
  obtain ⟨s2, hs2⟩ : ∃ t, s1.sync.1 = t := ⟨_, rfl⟩
  have e3 : s2 = ⟨flatL ([la].map lineF), (flatL ([la].map lineF)).length, false, 2, 0, 0⟩ := by rw [← hs2, e1, sync_plain _ rfl rfl]
  have HOK2 : Hid s2.Ok := Lib.hid (by rw [← hs2]; exact Sp.Ok.sync HOKA.out)
  have HS := Lib.hid (And.intro hs1 (And.intro ho1 hs2))
  have HAC := Lib.hid (show s1.ac < 1000000 by rw [e1]; show 1 < 1000000; decide)
  have HOP := Lib.hid (open_lines s2 [la] (by rw [e3]) (by rw [e3]))
  have HDN := Lib.hid (show s2.dn = false by rw [e3])
  have HOF := Lib.hid (show (o1.off 0).dn = true ∧ (o1.off 0).bs = [] by
    rw [e2]
    unfold Sp.off Sp.offK
    simp
    omega)
  clear e1 e2 e3 hs1 ho1 hs2 HA HB hfa hfb
  go_enter Try.func6, Try.ntmps6
  go_wp2_with fail
  refine (alive19_calls w).mono ?_
  rintro e w1 ⟨rfl, b1⟩
  have B1 := Lib.hid b1
  clear b1
  go_wp2_with fail
  refine (new_calls [] (by decide) w1).mono ?_
  rintro e w2 ⟨g, v, rfl, hg, p2, b2⟩
  go_wp2_with fail
  refine (new_calls [] (by decide) w2).mono ?_
  rintro e w3 ⟨g2, v2, rfl, hg2, p3, b3⟩
  have hgl := p2.lt
  have hsz := b2.size
  have hap : Apart g v g2 v2 := by
    refine ⟨by omega, ?_, ?_, ?_⟩
    · intro e; have := (p2.own _ e).2; omega
    · intro e; have := (p3.own _ e).1; omega
    · intro k h1 h2; have := (p2.own _ h1).2; have := (p3.own _ h2).1; omega
  have M1 : Mine w1.heap.size w1 w3 g v (Sp.new []) := ⟨p2.below b3, hg, b2.then_ b3, Nat.le_trans b2.size b3.size⟩
  have M2 : Mine w1.heap.size w1 w3 g2 v2 (Sp.new []) := ⟨⟨(p3.1.stay (w' := w3) fun _ _ => rfl).lower19 (by omega), p3.2.1, p3.2.2⟩, by omega, b2.then_ b3, Nat.le_trans b2.size b3.size⟩
  have H0 : Hid (Pair w1.heap.size w1 w3 g v (Sp.new []) g2 v2 (Sp.new [])) := Lib.hid ⟨M1, M2, hap⟩
  clear p2 b2 p3 b3 hgl hsz hap M1 M2
  go_wp2_with fail
  refine (append_calls w1.heap.size g v (Sp.new []) la (by omega) (Sp.new_ok [] (by decide)) (by decide) w3 H0.out.1.1 H0.out.1.2.2.2).mono ?_
  rintro e w4 ⟨rfl, v4, p4, n4⟩
  rw [HS.out.1] at p4
  have H1 := Lib.hid (H0.out.left p4 n4)
  clear p4 n4
  go_wp2_with fail
  refine (append_calls w1.heap.size g2 v2 (Sp.new []) lb (by omega) (Sp.new_ok [] (by decide)) (by decide) w4 H1.out.2.1.1 H1.out.2.1.2.2.2).mono ?_
  rintro e w5 ⟨rfl, v5, p5, n5⟩
  rw [HS.out.2.1] at p5
  have H2 := Lib.hid (H1.out.right p5 n5)
  clear p5 n5
  go_wp2_with fail
  refine (sync_calls w1.heap.size g v4 s1 HOKA.out HAC.out w5 H2.out.1.1).mono ?_
  rintro e w6 ⟨rfl, v6, p6, n6⟩
  rw [HS.out.2.2] at p6
  have H3 := Lib.hid (H2.out.left p6 n6)
  clear p6 n6
  go_wp2_with fail
  refine (off_calls w1.heap.size g2 v5 o1 0 (by omega) HOKB.out w6 H3.out.2.1.1).mono ?_
  rintro e w7 ⟨rfl, v7, p7, n7⟩
  have H4 := Lib.hid (H3.out.right p7 n7)
  clear p7 n7
  go_wp2_with fail
  refine (open_calls w1.heap.size g v6 s2 HOK2.out w7 H4.out.1.1 H4.out.1.2.2.2).mono ?_
  rintro e w8 ⟨v8, out, p8, n8, ho, rfl, ow8⟩
  rw [HOP.out] at p8 ho ⊢
  dsimp only at p8 ho ⊢
  have H5 := Lib.hid (H4.out.left p8 n8)
  obtain ⟨A, n, cap, rfl, hrv, hn, _⟩ := ho.form
  have hn1 : n = 1 := by rw [hn.out]; rfl
  subst hn1
  have HRV := Lib.hid hrv
  clear p8 n8 ho hn hrv ow8
  go_wp2_with fail
  have hal : Below w8.heap.size w8 (w8.alloc (.cells #[.string ⟨la.toArray⟩] 9)) := (Below.refl _ _).alloc (Nat.le_refl _) _
  refine (same_calls A (some ⟨w8.heap.size, 0, none⟩) 1 cap 1 1 [la] [la] _ (HRV.out.below hal) (Lib.hid rfl) (RV.of_blk (Blk.new w8 [strV la] 9)) (Lib.hid rfl) (by simp)).mono ?_
  rintro e w9 ⟨rfl, nn, rfl⟩
  have H6 := Lib.hid (H5.out.later (hal.drewN nn))
  rw [show decide ([la] = [la]) = true from decide_eq_true rfl]
  clear hal
  go_wp2_with fail
  refine (down_calls w1.heap.size g2 v7 _ _ H6.out.2.1.1).mono ?_
  rintro e w9 ⟨rfl, rfl⟩
  rw [HOF.out.1]
  go_wp2_with fail
  refine (down_calls w1.heap.size g v8 _ _ H6.out.1.1).mono ?_
  rintro e w9 ⟨rfl, rfl⟩
  rw [HDN.out]
  go_wp2_with fail
  refine (bytes_calls w1.heap.size g2 v7 _ _ H6.out.2.1.1).mono ?_
  rintro e w9 ⟨rfl, rfl⟩
  rw [HOF.out.2]
  unfold strV
  go_wp2_with fail
  go_ret
  exact ⟨rfl, B1.out.then_ H6.out.1.2.2.1⟩
end Go.Proofs.Ythhnbpbebplcoaa
