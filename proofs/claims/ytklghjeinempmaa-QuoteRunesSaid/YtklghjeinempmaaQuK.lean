/- Layer 8: the document's Take. -/
import Derived.Test.YtklghjeinempmaaQuJ
namespace Go.Proofs.Ytklghjeinempmaa
open Go.ChangeShapes Go.WideShapes Go.ChangeAt Go.RowKit Go.IntWalk
set_option linter.unusedVariables false

def TakePost (l : List UInt8) (a : Int) (w : World) (e : Ending) (w' : World) : Prop :=
  e = .returned (.tuple #[.string ⟨(takeF l a).1.toArray⟩, .int .i64 (takeF l a).2.1, .bool (takeF l a).2.2]) ∧ Below w.heap.size w w'
theorem TakePost.no {l : List UInt8} {a : Int} {w w' : World} (h : takeF l a = ([], 0, false)) (hb : Below w.heap.size w w') : TakePost l a w (.returned (.tuple #[.string ⟨#[]⟩, .int .i64 0, .bool false])) w' := by
  unfold TakePost; rw [h]; exact ⟨rfl, hb⟩
theorem TakePost.yes {l out : List UInt8} {a i : Int} {w w' : World} (h : takeF l a = (out, i, true)) (hb : Below w.heap.size w w') : TakePost l a w (.returned (.tuple #[.string ⟨out.toArray⟩, .int .i64 i, .bool true])) w' := by
  unfold TakePost; rw [h]; exact ⟨rfl, hb⟩
theorem takeF_no (l : List UInt8) (a : Int) (h : ¬ (0 ≤ a ∧ a < l.length ∧ l.getD a.toNat 0 = 34)) : takeF l a = ([], 0, false) := by unfold takeF; rw [if_neg h]
theorem takeF_in (l : List UInt8) (a : Nat) (h : a < l.length) (hq : l.getD a 0 = 34) : takeF l (a : Int) = fin (a + 1) (scan (l.drop (a + 1))) := by
  unfold takeF; rw [if_pos ⟨by omega, by omega, by simpa using hq⟩]; simp
theorem take_none {l : List UInt8} {a : Int} {n : Nat} {R : Option (List UInt8 × Nat)} (h : takeF l a = fin n R) (hr : R = none) : takeF l a = ([], 0, false) := by rw [h, hr]; rfl
theorem take_some {l out : List UInt8} {a : Int} {n k : Nat} {R : Option (List UInt8 × Nat)} (h : takeF l a = fin n R) (hr : R = some (out, k)) : takeF l a = (out, ((n + k : Nat) : Int), true) := by rw [h, hr]; rfl
theorem enc_len4 (r : Nat) : (Lib.encodeRune (r : Int)).length ≤ 4 := len_rune4 r

theorem take_next {l out x : List UInt8} {a j k d : Nat} {R : Option (List UInt8 × Nat)} {w w2 : World} {v' : Value} (HJ : j = a + 1 + k) (hd : d ≠ 0 ∧ d ≤ l.length - j)
    (hF : Far R (out ++ x) (k + d) (l.drop (j + d))) (hol : out.length ≤ 4 * k) (hx : x.length ≤ 4) (hown : OwnBs w.heap.size w2 v' (out ++ x)) (hb : Below w.heap.size w w2) :
    (∃ (j1 k1 : Nat) (out1 : List UInt8), j1 ≤ l.length ∧ Value.int IntKind.i64 ((j : Int) + (d : Int)) = .int .i64 (j1 : Int) ∧ Hid (j1 = a + 1 + k1) ∧ OwnBs w.heap.size w2 v' out1 ∧ Below w.heap.size w w2 ∧ out1.length ≤ 4 * k1 ∧ Hid (Far R out1 k1 (l.drop j1))) ∧
      l.length - (intOf (Value.int IntKind.i64 ((j : Int) + (d : Int)))).toNat < l.length - (intOf (Value.int IntKind.i64 (j : Int))).toNat := by
  obtain ⟨h0, h1⟩ := hd
  refine ⟨⟨j + d, k + d, out ++ x, by omega, by go_num, ?_, hown, hb, by rw [List.length_append]; omega, hF⟩, by simp [intOf]; omega⟩
  show _ = _
  omega
set_option maxRecDepth 100000 in
set_option maxHeartbeats 4000000 in
theorem reftake_calls (l : List UInt8) (a : Int) (w : World) (hl : l.length ≤ 1000000) :
    Calls Try.prog 14 #[.string ⟨l.toArray⟩, .int .i64 a] w (TakePost l a w) := by
  by_cases h0 : a < 0
  · have HE := Lib.hid (takeF_no l a (by omega))
    go_enter Try.func14, Try.ntmps14
    go_wp2
    go_ret3
    exact TakePost.no HE.out (Below.refl _ _)
  · by_cases h1 : (l.length : Int) ≤ a
    · have HE := Lib.hid (takeF_no l a (by omega))
      go_enter Try.func14, Try.ntmps14
      go_wp2
      go_ret3
      exact TakePost.no HE.out (Below.refl _ _)
    · obtain ⟨a, rfl⟩ : ∃ n : Nat, a = (n : Int) := ⟨a.toNat, by omega⟩
      have ha : a < l.length := by omega
      obtain ⟨c0, hc0⟩ : ∃ c, l[a] = c := ⟨_, rfl⟩
      have hg : l.getD a 0 = c0 := by rw [List.getD_eq_getElem?_getD, List.getElem?_eq_getElem ha]; exact hc0
      by_cases hq : c0 = 34
      · subst hq
        have HT := Lib.hid (takeF_in l a ha hg)
        obtain ⟨R, hR⟩ : ∃ R, scan (l.drop (a + 1)) = R := ⟨_, rfl⟩
        rw [hR] at HT
        have HF : Hid (Far R [] 0 (l.drop (a + 1))) := by rw [← hR]; exact Far.start _
        clear hR hg
        go_enter Try.func14, Try.ntmps14
        go_wp2_with fail
        go_loopw [7, 8] (fun v i wr => ∃ (j k : Nat) (out : List UInt8), j ≤ l.length ∧ i = .int .i64 (j : Int) ∧ Hid (j = a + 1 + k) ∧ OwnBs w.heap.size wr v out ∧ Below w.heap.size w wr ∧ out.length ≤ 4 * k ∧ Hid (Far R out k (l.drop j)))
          (fun _ i _ => l.length - (intOf i).toNat)
        case atStart => exact ⟨a + 1, 0, [], by omega, by go_num, rfl, OwnBs.nil _ _, Below.refl _ _, by simp, HF⟩
        case round =>
          obtain ⟨j, k, out, hj, rfl, HJ, hown, hbr, hol, hF⟩ := hrel
          have hsz := hbr.size
          have hkl : k ≤ 1000000 := by have := HJ.out; omega
          by_cases hp : j < l.length
          · obtain ⟨c, hc⟩ : ∃ c, l[j] = c := ⟨_, rfl⟩
            obtain ⟨t, ht⟩ : ∃ t, l.drop (j + 1) = t := ⟨_, rfl⟩
            have hm : l.drop j = c :: t := by rw [List.drop_eq_getElem_cons hp, hc, ht]
            have hml : (c :: t).length = l.length - j := by rw [← hm, List.length_drop]
            have hcl := c.toNat_lt
            rw [hm] at hF
            have hdr : ∀ d, (c :: t).drop d = l.drop (j + d) := fun d => by rw [← hm, List.drop_drop]
            have HDR := Lib.hid hdr
            have HML := Lib.hid hml
            clear ht hml hdr
            by_cases h34 : c = 34
            · subst h34
              have HR := Lib.hid (take_some HT.out hF.out.quote)
              obtain ⟨A, n, cap, rfl, hrb, hn⟩ := hown.form
              have hstr := run_str_rb wr A n cap _ hrb hn
              go_wp2
              go_ret3
              rw [show ((j : Int) + 1) = ((a + 1 + (k + 1) : Nat) : Int) by have := HJ.out; omega]
              exact TakePost.yes HR.out hbr
            · have n1 : ((c.toNat : Int) == 34) = false := neq8 c 34 h34
              have HF := Lib.hid hF.out
              have H34 := Lib.hid h34
              have HHM := Lib.hid hm
              clear hF h34
              have hle2 : (c :: t).length ≤ 1000000 := by rw [HML.out]; omega
              have hst := stepF_ok (c :: t)
              have HST := Lib.hid hst
              clear hst
              by_cases h92 : c = 92
              · subst h92
                have hsf : stepF (92 :: t) = escF (92 :: t) := if_pos rfl
                obtain ⟨⟨r0, d0⟩, hrf⟩ : ∃ p, runeF (92 :: t) = p := ⟨_, rfl⟩
                have HRF := Lib.hid hrf
                obtain ⟨⟨r, d⟩, hes⟩ : ∃ p, escF (92 :: t) = p := ⟨_, rfl⟩
                have HES := Lib.hid hes
                have HSF := Lib.hid (hsf.trans hes)
                clear hsf hes hrf n1
                by_cases hd : d = 0
                · subst hd
                  have HR := Lib.hid (take_none HT.out (HF.out.fail H34.out (by rw [HSF.out])))
                  go_wp2_with fail
                  refine (rune_calls (92 :: t) _ hle2).mono ?_
                  rw [HRF.out]
                  rintro e w1 ⟨rfl, rfl⟩
                  go_wp2_with fail
                  refine (refescape_calls (92 :: t) _ hle2).mono ?_
                  rw [HES.out]
                  rintro e w1 ⟨n, rfl, rfl⟩
                  go_wp2
                  go_ret3
                  exact TakePost.no HR.out (hbr.drewN n)
                · have hnz : (stepF (92 :: t)).2 ≠ 0 := by rw [HSF.out]; exact hd
                  have hok := HST.out hnz
                  have hnx := HF.out.next H34.out hnz
                  rw [HSF.out] at hok hnx
                  obtain ⟨HOK, hdl, _⟩ := hok
                  simp only at HOK hdl hnx
                  rw [HDR.out] at hnx
                  have HOK := Lib.hid HOK
                  have HNX := Lib.hid hnx
                  rw [HML.out] at hdl
                  have n2 : ((d : Int) == 0) = false := by rw [beq_eq_false_iff_ne]; omega
                  have hds : d ≤ 1000000 := by omega
                  have HD := Lib.hid (And.intro hd hdl)
                  clear hnx hnz hd hdl
                  go_wp2_with fail
                  refine (rune_calls (92 :: t) _ hle2).mono ?_
                  rw [HRF.out]
                  rintro e w1 ⟨rfl, rfl⟩
                  go_wp2_with fail
                  refine (refescape_calls (92 :: t) _ hle2).mono ?_
                  rw [HES.out]
                  rintro e w1 ⟨n, rfl, rfl⟩
                  go_wp2_with fail
                  refine (refbytes_calls r _ HOK.out).mono ?_
                  rintro e w1 ⟨rfl, b1⟩
                  have hown1 := (hown.drewN n).below b1 (Nat.le_refl _)
                  have hb1 := (hbr.drewN n).trans (b1.mono hsz)
                  have hl4 := enc_len4 r
                  go_wp2_with (at_builtin; (refine wpList_append_str rfl _ _ rfl w.heap.size _ _ rfl hown1 _ rfl (by omega) hb1.size ?_; intro v' w2 hown' hgrow'))
                  exact take_next HJ.out HD.out HNX.out hol hl4 hown' (hb1.grown hgrow' hb1.size (fun k hk => (hown1.lt k hk).1))
              · have hsf : stepF (c :: t) = if (runeF (c :: t)).1 < 32 then (0, 0) else runeF (c :: t) := if_neg h92
                have n2 : ((c.toNat : Int) == 92) = false := neq8 c 92 h92
                obtain ⟨⟨r, d⟩, hrf⟩ : ∃ p, runeF (c :: t) = p := ⟨_, rfl⟩
                rw [hrf] at hsf
                simp only at hsf
                have HRF := Lib.hid hrf
                clear hrf h92
                by_cases hbad : d = 0 ∨ r < 32
                · have h0 : (stepF (c :: t)).2 = 0 := by
                    rw [hsf]
                    by_cases h32 : r < 32
                    · rw [if_pos h32]
                    · rw [if_neg h32]; exact hbad.resolve_right h32
                  have HR := Lib.hid (take_none HT.out (HF.out.fail H34.out h0))
                  have hbad2 : ((d : Int) == 0) = true ∨ (((d : Int) == 0) = false ∧ decide ((r : Int) < 32) = true) := by
                    by_cases hd : d = 0
                    · left; subst hd; rfl
                    · right; exact ⟨by rw [beq_eq_false_iff_ne]; omega, decide_eq_true (by omega)⟩
                  clear hsf h0 hbad
                  rcases hbad2 with n3 | ⟨n3, n4⟩
                  all_goals
                    go_wp2_with fail
                    refine (rune_calls (c :: t) _ hle2).mono ?_
                    rw [HRF.out]
                    rintro e w1 ⟨rfl, rfl⟩
                    go_wp2
                    go_ret3
                    exact TakePost.no HR.out hbr
                · have hd : d ≠ 0 := fun h => hbad (.inl h)
                  have h32 : ¬ r < 32 := fun h => hbad (.inr h)
                  have HSF := Lib.hid (hsf.trans (if_neg h32))
                  have hnz : (stepF (c :: t)).2 ≠ 0 := by rw [HSF.out]; exact hd
                  have hok := HST.out hnz
                  have hnx := HF.out.next H34.out hnz
                  rw [HSF.out] at hok hnx
                  obtain ⟨HOK, hdl, _⟩ := hok
                  simp only at HOK hdl hnx
                  rw [HDR.out] at hnx
                  have HOK := Lib.hid HOK
                  have HNX := Lib.hid hnx
                  rw [HML.out] at hdl
                  have n3 : ((d : Int) == 0) = false := by rw [beq_eq_false_iff_ne]; omega
                  have n4 : decide ((r : Int) < 32) = false := decide_eq_false (by omega)
                  have hds : d ≤ 1000000 := by omega
                  have HD := Lib.hid (And.intro hd hdl)
                  clear hnx hnz hd hdl hsf hbad h32
                  go_wp2_with fail
                  refine (rune_calls (c :: t) _ hle2).mono ?_
                  rw [HRF.out]
                  rintro e w1 ⟨rfl, rfl⟩
                  go_wp2_with fail
                  refine (refbytes_calls r _ HOK.out).mono ?_
                  rintro e w1 ⟨rfl, b1⟩
                  have hown1 := hown.below b1 (Nat.le_refl _)
                  have hb1 := hbr.trans (b1.mono hsz)
                  have hl4 := enc_len4 r
                  go_wp2_with (at_builtin; (refine wpList_append_str rfl _ _ rfl w.heap.size _ _ rfl hown1 _ rfl (by omega) hb1.size ?_; intro v' w2 hown' hgrow'))
                  exact take_next HJ.out HD.out HNX.out hol hl4 hown' (hb1.grown hgrow' hb1.size (fun k hk => (hown1.lt k hk).1))
          · have HR := Lib.hid (take_none HT.out (by have h2 := hF.out; rw [List.drop_of_length_le (by omega)] at h2; exact h2.done))
            go_wp2
            go_ret3
            exact TakePost.no HR.out hbr
      · have n1 : ((c0.toNat : Int) != 34) = true := by rw [bne_iff_ne]; intro h; exact hq (UInt8.toNat_inj.1 (by have : (34 : UInt8).toNat = 34 := rfl; omega))
        have HE := Lib.hid (takeF_no l a (fun h => hq (by have := h.2.2; simp only [Int.toNat_natCast] at this; rw [hg] at this; exact this)))
        clear hq hg
        have hcl := c0.toNat_lt
        go_enter Try.func14, Try.ntmps14
        go_wp2
        go_ret3
        exact TakePost.no HE.out (Below.refl _ _)
end Go.Proofs.Ytklghjeinempmaa
