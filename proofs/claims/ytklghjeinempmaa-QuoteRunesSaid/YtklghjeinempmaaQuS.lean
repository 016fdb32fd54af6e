/- Layer 8: the program's Take. -/
import Derived.Test.YtklghjeinempmaaQuK
import Derived.Test.YtklghjeinempmaaQuH
namespace Go.Proofs.Ytklghjeinempmaa
open Go.ChangeShapes Go.WideShapes Go.ChangeAt Go.RowKit Go.IntWalk
set_option linter.unusedVariables false

/-- What holds at the head of each round: at place k, all ahead of nx read. -/
def TakeRel (q : List UInt8) (R : Option (List UInt8 × Nat)) (w : World) (v x : Value) (wr : World) : Prop :=
  ∃ (k nx : Nat) (out : List UInt8), k ≤ nx ∧ nx ≤ q.length ∧ (∀ j, k ≤ j → j < nx → (q.getD j 0).toNat < 128) ∧ x = .int .i64 (nx : Int) ∧ OwnBs w.heap.size wr v out ∧ Below w.heap.size w wr ∧
    wr.heap[w.heap.size]? = some (.stringIter ⟨q.toArray⟩ k) ∧ out.length ≤ 4 * nx ∧ Far R out nx (q.drop nx)

theorem runelen (r : Int) (w : World) : Calls Try.prog 22 #[.int .i32 r] w fun e w' => e = .returned (.int .i64 (Lib.runeLen r)) ∧ w = w' :=
  (Try.utf8_RuneLen r w).mono fun _ _ ⟨h1, h2⟩ => ⟨h1, h2.symm⟩
theorem take_fin {q out x : List UInt8} {R : Option (List UInt8 × Nat)} {w wr wx w2 : World} {v v' : Value} {k d n : Nat} {i : Int} (hi : i = (n : Int)) (hr0 : wr.heap[w.heap.size]? = some (.stringIter ⟨q.toArray⟩ k)) (hd : 1 ≤ d) (hkd : k + d ≤ n) (hnq : n ≤ q.length)
    (hasc : ∀ j, k + d ≤ j → j < n → (q.getD j 0).toNat < 128) (hown : OwnBs w.heap.size wx v out) (hb : Below w.heap.size w wx) (hit : wx.heap[w.heap.size]? = some (.stringIter ⟨q.toArray⟩ (k + d)))
    (hol : out.length ≤ 4 * k) (hx : x.length ≤ 4) (hF : Far R (out ++ x) n (q.drop n)) (hown' : OwnBs w.heap.size w2 v' (out ++ x)) (hg : wx.grownBy w2 v.ownBlock) :
    TakeRel q R w v' (.int .i64 i) w2 ∧ q.length - w2.iterPos w.heap.size < q.length - wr.iterPos w.heap.size := by
  subst hi
  have hi2 : w2.heap[w.heap.size]? = some (.stringIter ⟨q.toArray⟩ (k + d)) := (hg.block _ (Array.getElem?_eq_some_iff.1 hit).1 (hown.ne hit (by intro c f h; cases h))).trans hit
  refine ⟨⟨k + d, n, out ++ x, hkd, hnq, hasc, rfl, hown', hb.grown hg hb.size (fun k hk => (hown.lt k hk).1), hi2, by rw [List.length_append]; omega, hF⟩, ?_⟩
  have e1 : w2.iterPos w.heap.size = k + d := by simp [World.iterPos, hi2]
  have e2 : wr.iterPos w.heap.size = k := by simp [World.iterPos, hr0]
  rw [e1, e2]; omega

set_option maxRecDepth 100000 in
set_option maxHeartbeats 8000000 in
theorem take_calls (l : List UInt8) (a : Int) (w : World) (hl : l.length ≤ 1000000) :
    Calls Try.prog 13 #[.string ⟨l.toArray⟩, .int .i64 a] w (TakePost l a w) := by
  by_cases h0 : a < 0
  · have HE := Lib.hid (takeF_no l a (by omega))
    go_enter Try.func13, Try.ntmps13
    go_wp2
    go_ret3
    exact TakePost.no HE.out (Below.refl _ _)
  · by_cases h1 : (l.length : Int) ≤ a
    · have HE := Lib.hid (takeF_no l a (by omega))
      go_enter Try.func13, Try.ntmps13
      go_wp2
      go_ret3
      exact TakePost.no HE.out (Below.refl _ _)
    · obtain ⟨a, rfl⟩ : ∃ n : Nat, a = (n : Int) := ⟨a.toNat, by omega⟩
      have ha : a < l.length := by omega
      obtain ⟨c0, hc0⟩ : ∃ c, l[a] = c := ⟨_, rfl⟩
      have hg : l.getD a 0 = c0 := by rw [List.getD_eq_getElem?_getD, List.getElem?_eq_getElem ha]; exact hc0
      by_cases hq : c0 = 34
      · subst hq
        have HT := Lib.hid (takeF_in l a ha hg)
        obtain ⟨q, hq⟩ : ∃ q, l.drop (a + 1) = q := ⟨_, rfl⟩
        have hql : q.length = l.length - (a + 1) := by rw [← hq, List.length_drop]
        have hqs : q.length ≤ 1000000 := by omega
        rw [hq] at HT
        obtain ⟨R, hR⟩ : ∃ R, scan q = R := ⟨_, rfl⟩
        rw [hR] at HT
        have HF : Hid (Far R [] 0 q) := by rw [← hR]; exact Far.start _
        have HQL := Lib.hid hql
        clear hR hg hql
        go_enter Try.func13, Try.ntmps13
        go_wp2_with fail
        have hrel0 : TakeRel q R w (.slice none 0 0) (.int .i64 0) (w.iter ⟨q.toArray⟩ 0) :=
          ⟨0, 0, [], Nat.le_refl _, Nat.zero_le _, fun j h1 h2 => by omega, rfl, OwnBs.nil _ _, (Below.refl _ _).alloc (Nat.le_refl _) _, World.iter_heap w _ 0, by simp, HF.out⟩
        go_loopw [8, 9] (TakeRel q R w) (fun _ _ wr => q.length - wr.iterPos w.heap.size)
        case atStart => exact hrel0
        case round =>
          clear hrel0
          obtain ⟨k, nx, out, hkn, hnq, hasc, rfl, hown, hbr, hit, hol, hF⟩ := hrel
          have hsz := hbr.size
          by_cases hp : k < q.length
          · have hnx := fun ty => Lib.run_next_any_at (P := Try.prog) wr w.heap.size ⟨q.toArray⟩ k ty hit hp
            have hdl : Utf8.decode ⟨q.toArray⟩ k = Lib.decodeL (q.drop k) := (Lib.decodeL_drop ⟨q.toArray⟩ k).symm
            rw [hdl] at hnx
            clear hdl
            obtain ⟨c, hc⟩ : ∃ c, q[k] = c := ⟨_, rfl⟩
            obtain ⟨t, ht⟩ : ∃ t, q.drop (k + 1) = t := ⟨_, rfl⟩
            have hm : q.drop k = c :: t := by rw [List.drop_eq_getElem_cons hp, hc, ht]
            have hml : (c :: t).length = q.length - k := by rw [← hm, List.length_drop]
            have hcl := c.toNat_lt
            rw [hm] at hnx
            have hdr : ∀ d, (c :: t).drop d = q.drop (k + d) := fun d => by rw [← hm, List.drop_drop]
            have HDR := Lib.hid hdr
            have HML := Lib.hid hml
            have HA := Lib.hid hasc
            clear ht hml hdr hasc
            by_cases hlt : k < nx
            · have hlow : c.toNat < 128 := by
                have := HA.out k (Nat.le_refl _) hlt
                rw [List.getD_eq_getElem?_getD, List.getElem?_eq_getElem hp] at this
                rw [← hc]; exact this
              rw [Lib.decodeL_ascii c t hlow] at hnx
              simp only at hnx
              have hown1 := hown.iterAt hit (k + 1)
              have hb1 := Lib.below_iterAt hbr (Nat.le_refl _) ⟨q.toArray⟩ (k + 1)
              have hit1 := Lib.iterAt_heap wr w.heap.size ⟨q.toArray⟩ k (k + 1) hit
              have HFF := Lib.hid hF
              have HR2 : Hid (TakeRel q R w u8 (.int .i64 (nx : Int)) (wr.iterAt w.heap.size ⟨q.toArray⟩ (k + 1))) := 
                ⟨k + 1, nx, out, hlt, hnq, fun j h1 h2 => HA.out j (by omega) h2, rfl, hown1, hb1, hit1, hol, HFF.out⟩
              have HM2 : Hid (q.length - (wr.iterAt w.heap.size ⟨q.toArray⟩ (k + 1)).iterPos w.heap.size < q.length - wr.iterPos w.heap.size) := by
                have e1 : (wr.iterAt w.heap.size ⟨q.toArray⟩ (k + 1)).iterPos w.heap.size = k + 1 := by simp [World.iterPos, hit1]
                have e2 : wr.iterPos w.heap.size = k := by simp [World.iterPos, hit]
                show _ < _
                rw [e1, e2]; omega
              clear hF hown hown1 hb1 hit1 hc hm
              go_wp2_with fail
              exact ⟨HR2.out, HM2.out⟩
            · obtain rfl : nx = k := by omega
              clear hkn hlt HA
              rw [hm] at hF
              have HFF := Lib.hid hF
              have HHM := Lib.hid hm
              clear hF
              by_cases hlow : c.toNat < 128
              · rw [Lib.decodeL_ascii c t hlow] at hnx
                simp only at hnx
                have hown1 := hown.iterAt hit (nx + 1)
                have hb1 := Lib.below_iterAt hbr (Nat.le_refl _) ⟨q.toArray⟩ (nx + 1)
                have hit1 := Lib.iterAt_heap wr w.heap.size ⟨q.toArray⟩ nx (nx + 1) hit
                have hs1 := hb1.size
                have HRL : Hid (Lib.runeLen (c.toNat : Int) = 1) := by
                  show _ = _; unfold Lib.runeLen; rw [if_neg (by omega), if_pos (by omega)]
                clear hown hbr
                by_cases h34 : c = 34
                · subst h34
                  have HRL : Hid (Lib.runeLen 34 = 1) := by show _ = _; decide
                  have HR := Lib.hid (take_some HT.out HFF.out.quote)
                  obtain ⟨A, n, cap, rfl, hrb, hn⟩ := hown1.form
                  have hstr := run_str_rb _ A n cap _ hrb hn
                  go_wp2_with fail
                  refine (runelen _ _).mono ?_
                  rintro e wx ⟨rfl, rfl⟩
                  rw [HRL.out]
                  go_wp2
                  go_ret3
                  rw [show ((a : Int) + 1 + (nx : Int) + 1) = ((a + 1 + (nx + 1) : Nat) : Int) by omega]
                  exact TakePost.yes HR.out hb1
                · have n1 : ((c.toNat : Int) == 34) = false := neq8 c 34 h34
                  by_cases h92 : c = 92
                  · subst h92
                    have HRL : Hid (Lib.runeLen 92 = 1) := by show _ = _; decide
                    have hsf : stepF (92 :: t) = escF (92 :: t) := if_pos rfl
                    obtain ⟨⟨r, d⟩, hes⟩ : ∃ p, escF (92 :: t) = p := ⟨_, rfl⟩
                    have HES := Lib.hid hes
                    have hsf2 := hsf.trans hes
                    have hle2 : (92 :: t).length ≤ 1000000 := by rw [HML.out]; omega
                    have HSF := Lib.hid hsf2
                    clear hsf hes hsf2 n1 hlow
                    by_cases hd : d = 0
                    · subst hd
                      have HR := Lib.hid (take_none HT.out (HFF.out.fail h34 (by rw [HSF.out])))
                      go_wp2_with fail
                      refine (runelen _ _).mono ?_
                      rintro e wx ⟨rfl, rfl⟩
                      rw [HRL.out]
                      go_wp2_with fail
                      refine (escaped_calls (92 :: t) _ hle2).mono ?_
                      rw [HES.out]
                      rintro e w1 ⟨rfl, b1⟩
                      go_wp2
                      go_ret3
                      exact TakePost.no HR.out (hb1.trans (b1.mono hs1))
                    · have hnz : (stepF (92 :: t)).2 ≠ 0 := by rw [HSF.out]; exact hd
                      have hek := escF_ok (92 :: t) rfl (by rw [HES.out]; exact hd)
                      have hnext := HFF.out.next h34 hnz
                      rw [HSF.out, HDR.out] at hnext
                      rw [HES.out] at hek
                      obtain ⟨HOK, hdl, hasc⟩ := hek
                      simp only at HOK hdl hasc hnext
                      rw [HML.out] at hdl
                      have HK := Lib.hid HOK
                      have HN := Lib.hid hnext
                      have n2 : ((d : Int) == 0) = false := by rw [beq_eq_false_iff_ne]; omega
                      have HD := Lib.hid (And.intro hd hdl)
                      have hds : d ≤ 1000000 := by omega
                      have HA : Hid (∀ j, nx + 1 ≤ j → j < nx + d → (q.getD j 0).toNat < 128) := by
                        intro j hj1 hj2
                        have := hasc (j - nx) (by omega)
                        rw [← HHM.out, List.getD_eq_getElem?_getD, List.getElem?_drop, ← List.getD_eq_getElem?_getD, show nx + (j - nx) = j by omega] at this
                        exact this
                      clear hnext hnz hd hdl hasc HOK
                      go_wp2_with fail
                      refine (runelen _ _).mono ?_
                      rintro e wx ⟨rfl, rfl⟩
                      rw [HRL.out]
                      go_wp2_with fail
                      refine (escaped_calls (92 :: t) _ hle2).mono ?_
                      rw [HES.out]
                      rintro e w1 ⟨rfl, b1⟩
                      have hown2 := hown1.below b1 (Nat.le_refl _)
                      have hb2 := hb1.trans (b1.mono hs1)
                      have hit2 := (b1.block _ (Array.getElem?_eq_some_iff.1 hit1).1).trans hit1
                      have hs2 := hb2.size
                      go_wp2_with fail
                      refine (appendRune_own w.heap.size u8 _ r HK.out.le _ hown2 (by omega) hs2).mono ?_
                      rintro e w2 ⟨v', rfl, hown', hgrow'⟩
                      go_wp2_with fail
                      exact take_fin (by omega) hit (Nat.le_refl 1) (by have := HD.out; omega) (by have := HD.out; omega) HA.out hown2 hb2 hit2 hol (len_rune4 r) HN.out hown' hgrow'
                  · have n2 : ((c.toNat : Int) == 92) = false := neq8 c 92 h92
                    have n5 : ((c.toNat : Int) == 65533) = false := by rw [beq_eq_false_iff_ne]; omega
                    have hrf : runeF (c :: t) = (c.toNat, 1) := cls_1 c t hlow
                    have hsf : stepF (c :: t) = if (runeF (c :: t)).1 < 32 then (0, 0) else runeF (c :: t) := if_neg h92
                    rw [hrf] at hsf
                    simp only at hsf
                    by_cases h32 : c.toNat < 32
                    · rw [if_pos h32] at hsf
                      have HR := Lib.hid (take_none HT.out (HFF.out.fail h34 (by rw [hsf])))
                      clear hrf hsf
                      go_wp2_with fail
                      refine (runelen _ _).mono ?_
                      rintro e wx ⟨rfl, rfl⟩
                      rw [HRL.out]
                      go_wp2
                      go_ret3
                      exact TakePost.no HR.out hb1
                    · rw [if_neg h32] at hsf
                      have hnext := HFF.out.next h34 (by rw [hsf]; simp)
                      rw [hsf, HDR.out] at hnext
                      simp only at hnext
                      have HN := Lib.hid hnext
                      have n6 : decide ((c.toNat : Int) < 32) = false := decide_eq_false (by omega)
                      clear hrf hsf hnext h32 h34 h92 hcl
                      go_wp2_with fail
                      refine (runelen _ _).mono ?_
                      rintro e wx ⟨rfl, rfl⟩
                      rw [HRL.out]
                      go_wp2_with fail
                      refine (appendRune_own w.heap.size u8 _ c.toNat (by omega) _ hown1 (by omega) hs1).mono ?_
                      rintro e w2 ⟨v', rfl, hown', hgrow'⟩
                      go_wp2_with fail
                      exact take_fin (by omega) hit (Nat.le_refl 1) (Nat.le_refl _) (by omega) (fun j h1 h2 => by omega) hown1 hb1 hit1 hol (len_rune4 _) HN.out hown' hgrow'
              · obtain ⟨h1, h2, h3⟩ := rune_hi c t (by omega)
                have hdw := Lib.decodeL_width (c :: t)
                have hdl := Lib.decodeL_le (c :: t) (by simp)
                have hne : (c :: t) ≠ [] := by simp
                have hnr := noR_iff (c :: t) hne
                have hln := len_decode (c :: t) hne
                have hrn : runeF (c :: t) = if NoR (c :: t) then (0, 0) else Lib.decodeL (c :: t) := runeF_of hne
                have h34 : c ≠ 34 := by intro h; subst h; exact hlow (by decide)
                have h92 : c ≠ 92 := by intro h; subst h; exact hlow (by decide)
                have hsf : stepF (c :: t) = if (runeF (c :: t)).1 < 32 then (0, 0) else runeF (c :: t) := if_neg h92
                obtain ⟨⟨r, d⟩, hrd⟩ : ∃ p, Lib.decodeL (c :: t) = p := ⟨_, rfl⟩
                rw [hrd] at hnx h1 h2 h3 hdw hdl hnr hln hrn
                simp only at hnx h1 h2 h3 hdw hdl hnr hln hrn
                rw [HML.out] at hdl
                have n1 : ((r : Int) == 34) = false := by rw [beq_eq_false_iff_ne]; omega
                have n2 : ((r : Int) == 92) = false := by rw [beq_eq_false_iff_ne]; omega
                have n3 : decide ((r : Int) < 32) = false := decide_eq_false (by omega)
                have hown1 := hown.iterAt hit (nx + d)
                have hb1 := Lib.below_iterAt hbr (Nat.le_refl _) ⟨q.toArray⟩ (nx + d)
                have hit1 := Lib.iterAt_heap wr w.heap.size ⟨q.toArray⟩ nx (nx + d) hit
                have hs1 := hb1.size
                clear hown hbr
                by_cases hn : NoR (c :: t)
                · have hr : r = 65533 := by have := hn.1; rw [hrd] at this; exact this
                  rw [if_pos hn] at hrn
                  rw [hrn] at hsf
                  simp only at hsf
                  have HR := Lib.hid (take_none HT.out (HFF.out.fail h34 (by rw [hsf]; simp)))
                  have HP := Lib.hid ((hnr hr).1 hn)
                  have n5 : ((r : Int) == 65533) = true := by rw [hr]; rfl
                  have HRL : Hid (Lib.runeLen (r : Int) = 3) := by show _ = _; rw [hr]; decide
                  clear hr hrn hsf hln hnr h1 h2 h3 hrd hn hlow
                  go_wp2_with fail
                  refine (runelen _ _).mono ?_
                  rintro e wx ⟨rfl, rfl⟩
                  rw [HRL.out]
                  go_wp2_with fail
                  refine (told_calls _ _).mono ?_
                  rintro e wx ⟨rfl, rfl⟩
                  rw [HP.out]
                  go_wp2
                  go_ret3
                  exact TakePost.no HR.out hb1
                · rw [if_neg hn] at hrn
                  rw [hrn] at hsf
                  simp only at hsf
                  rw [if_neg (by omega)] at hsf
                  have hnz : (stepF (c :: t)).2 ≠ 0 := by rw [hsf]; simp only []; omega
                  have hnext := HFF.out.next h34 hnz
                  rw [hsf, HDR.out] at hnext
                  simp only at hnext
                  have HN := Lib.hid hnext
                  have HRL : Hid (Lib.runeLen (r : Int) = (d : Int)) := hln hn
                  have n6 : ((d : Int) == 0) = false := by rw [beq_eq_false_iff_ne]; omega
                  have hds : d ≤ 1000000 := by omega
                  have HD := Lib.hid (And.intro hdw hdl)
                  have H2 := Lib.hid h2
                  by_cases hr : r = 65533
                  · have HP : Hid (Lib.hasPrefix (c :: t) [239, 191, 189] = true) := by
                      show _ = _
                      cases h : Lib.hasPrefix (c :: t) [239, 191, 189]
                      · exact absurd ((hnr hr).2 h) hn
                      · rfl
                    have n5 : ((r : Int) == 65533) = true := by rw [hr]; rfl
                    clear hr hrn hsf hln hnr h1 h2 h3 hrd hn hlow hnext hnz hdw hdl
                    go_wp2_with fail
                    refine (runelen _ _).mono ?_
                    rintro e wx ⟨rfl, rfl⟩
                    rw [HRL.out]
                    go_wp2_with fail
                    refine (told_calls _ _).mono ?_
                    rintro e wx ⟨rfl, rfl⟩
                    rw [HP.out]
                    go_wp2_with fail
                    refine (appendRune_own w.heap.size u8 _ r H2.out _ hown1 (by omega) hs1).mono ?_
                    rintro e w2 ⟨v', rfl, hown', hgrow'⟩
                    go_wp2_with fail
                    exact take_fin (by omega) hit HD.out.1 (Nat.le_refl _) (by have := HD.out; omega) (fun j h1 h2 => by omega) hown1 hb1 hit1 hol (len_rune4 _) HN.out hown' hgrow'
                  · have n5 : ((r : Int) == 65533) = false := by rw [beq_eq_false_iff_ne]; omega
                    clear hr hrn hsf hln hnr h1 h2 h3 hrd hn hlow hnext hnz hdw hdl
                    go_wp2_with fail
                    refine (runelen _ _).mono ?_
                    rintro e wx ⟨rfl, rfl⟩
                    rw [HRL.out]
                    go_wp2_with fail
                    refine (appendRune_own w.heap.size u8 _ r H2.out _ hown1 (by omega) hs1).mono ?_
                    rintro e w2 ⟨v', rfl, hown', hgrow'⟩
                    go_wp2_with fail
                    exact take_fin (by omega) hit HD.out.1 (Nat.le_refl _) (by have := HD.out; omega) (fun j h1 h2 => by omega) hown1 hb1 hit1 hol (len_rune4 _) HN.out hown' hgrow'
          · have HR := Lib.hid (take_none HT.out (by rw [List.drop_of_length_le (by omega)] at hF; exact hF.done))
            have hnx := fun ty => Lib.run_next_end_at (P := Try.prog) wr w.heap.size ⟨q.toArray⟩ k ty hit hp
            go_wp2
            go_ret3
            exact TakePost.no HR.out hbr
      · have n1 : ((c0.toNat : Int) != 34) = true := by rw [bne_iff_ne]; intro h; exact hq (UInt8.toNat_inj.1 (by have : (34 : UInt8).toNat = 34 := rfl; omega))
        have HE := Lib.hid (takeF_no l a (fun h => hq (by have := h.2.2; simp only [Int.toNat_natCast] at this; rw [hg] at this; exact this)))
        clear hq hg
        have hcl := c0.toNat_lt
        go_enter Try.func13, Try.ntmps13
        go_wp2
        go_ret3
        exact TakePost.no HE.out (Below.refl _ _)
end Go.Proofs.Ytklghjeinempmaa
