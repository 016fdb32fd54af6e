/- The walk of the law LettersKeeps. -/
import Derived.Test.YtkehjhglknalfaaLetG
namespace Go.Proofs.Ytkehjhglknalfaa
open Go.ChangeShapes Go.WideShapes Go.ChangeAt Go.RowKit Go.IntWalk
set_option linter.unusedVariables false

set_option maxHeartbeats 1000000 in
theorem lettersKeeps_walk (A : Option Addr) (n c : Nat) (bs : List UInt8) {w : World} (hA : RB w A bs) (hn : Hid (n = bs.length)) (hnc : n ≤ c) (u : Bool) :
    Calls Try.prog 8 #[.slice A n c, .bool u] w fun e w' => e = .returned (.bool true) ∧ Below w.heap.size w w' := by
  go_enter Try.func8, Try.ntmps8
  go_wp2_with fail
  refine (alive_calls _).mono ?_
  rintro e w1 ⟨rfl, b1⟩
  by_cases hl : n ≤ 16384
  · have hown0 : OwnBs w.heap.size (w1.alloc (.cells #[] 5)) (.slice (some ⟨w1.heap.size, 0, none⟩) 0 0) [] := OwnBs.made _ _ #[] 0 b1.size (by decide) rfl
    have b1' : Below w.heap.size w (w1.alloc (.cells #[] 5)) := b1.alloc b1.size _
    go_wp2_with (at_builtin; refine wpList_append_rb rfl (.tmp 17) (.tmp 18) rfl w.heap.size _ _ rfl hown0 A n c bs rfl (hA.below b1') hn (by simp; omega) b1'.size ?_; intro v2 w2 hown2 hgrow2)
    have b2 : Below w.heap.size w w2 := b1'.grown hgrow2 b1'.size (fun k hk => (hown0.lt k hk).1)
    clear hown0 hgrow2 b1' b1
    rw [List.nil_append] at hown2
    obtain ⟨A2, n2, c2, rfl, hrb2, hn2⟩ := hown2.form
    have hn2b : n2 ≤ 16384 := by rw [hn2.out, ← hn.out]; exact hl
    go_wp2_with fail
    refine (encode_calls _ _ _ bs _ _ hrb2 hn2.out (by omega)).mono ?_
    rintro e w3 ⟨rfl, hb3⟩
    have b3 := b2.then_ hb3
    have hc1 := run_str_rb w3 A2 n2 c2 _ (hrb2.below hb3) hn2
    have hc2 := run_str_rb w3 A n c _ (hA.below b3) hn
    clear hown2 hrb2
    have hlen : (encF u bs).length ≤ 68719476736 := by rw [encF_length, ← hn.out]; omega
    have hdec := decF_encF u bs
    have HD := Lib.hid hdec; clear hdec
    go_wp2_with fail
    refine (decode_list _ _ _ hlen).mono ?_
    intro e w4 h
    obtain ⟨A4, n4, c4, rfl, hrb4, hn4, hb4, hown4⟩ := h.open_
    have b4 := b3.then_ hb4
    have hown4 := hown4 bs HD.out
    rw [HD.out] at hrb4 hn4 ⊢
    simp only [Option.getD_some] at hrb4 hn4
    clear h hb4 hc1 hc2 hb3
    have hsz3 := b3.size
    go_wp2_with fail
    go_loopw [36] (fun v wr => ∃ k l, k ≤ n4 ∧ v = .int .i64 (k : Nat) ∧ OwnBs w3.heap.size wr (.slice A4 n4 c4) l ∧ Hid (n4 = l.length) ∧ Below w.heap.size w wr) (fun v _ => n4 - (intOf v).toNat)
    case atStart => exact ⟨0, bs, Nat.zero_le _, rfl, hown4, hn4, b4⟩
    case round =>
      clear hown4 hrb4 b4
      obtain ⟨k, l, hk, rfl, hown, hnl, hbr⟩ := hrel
      have hn4b : n4 ≤ 16384 := by rw [hn4.out, ← hn.out]; exact hl
      by_cases hlt : k < n4
      · obtain ⟨g, rfl, hbg, hcell, hfr, hset⟩ := hown.at_ (k := k) (by rw [← hnl.out]; exact hlt)
        have hset := hset 0
        go_wp2
        go_roundw
        case rel => exact ⟨k + 1, l.set k 0, by omega, by go_num, hset, by show _ = _; rw [List.length_set]; exact hnl.out, hbr.setCell (by show w.heap.size ≤ g; omega) _⟩
        case measure => simp [intOf]; omega
      · clear hown
        go_wp2_with fail
        refine (decode_list _ _ _ hlen).mono ?_
        intro e w5 h
        obtain ⟨A5, n5, c5, rfl, hrb5, hn5, hb5, _⟩ := h.open_
        have b5 := hbr.then_ hb5
        rw [HD.out] at hrb5 hn5 ⊢
        simp only [Option.getD_some] at hrb5 hn5
        have hc1 := run_str_rb w5 A5 n5 c5 _ hrb5 hn5
        have hc2 := run_str_rb w5 A n c _ (hA.below b5) hn
        clear h hb5
        go_wp2
        go_ret
        exact ⟨by simp, b5⟩
  · go_wp2
    go_ret
    exact ⟨rfl, b1⟩
end Go.Proofs.Ytkehjhglknalfaa
