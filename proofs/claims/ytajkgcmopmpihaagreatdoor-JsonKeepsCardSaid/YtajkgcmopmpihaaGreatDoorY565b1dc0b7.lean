/- Texts put together: JgB JgN JkP JkD. -/
import Derived.Test.YtajkgcmopmpihaaGreatDoorYa5abd111d9
import Derived.Test.YtajkgcmopmpihaaGreatDoorYcc81974a9e
import Derived.Test.YtajkgcmopmpihaaGreatDoorShelfK
import Derived.Test.YtajkgcmopmpihaaGreatDoorY2d7a97ebf1
import Derived.Deep.Cut
import Derived.Test.YtajkgcmopmpihaaGreatDoorYe1f5adcbe4
import Derived.Test.YtajkgcmopmpihaaGreatDoorYbc60d53a70
import Derived.Test.YtajkgcmopmpihaaGreatDoorY5f05dbc411
import Derived.Test.YtajkgcmopmpihaaGreatDoorYd56e8cdc81
namespace Go.Proofs.YtajkgcmopmpihaaGreatDoor
open Go.ChangeShapes Go.WideShapes Go.ChangeAt Go.RowKit Go.IntWalk
set_option linter.unusedVariables false
theorem closureJ_calls (ek : List UInt8) (eu : Jv) (eA eB : Option Addr) (enl ecl enm ecm : Nat) (key : List UInt8) (W : World) :
    Calls Tryz.prog 51 #[.agg #[.string ⟨ek.toArray⟩, .int .i64 eu.kd, .bool eu.is, .int .i64 eu.n, .string ⟨eu.s.toArray⟩, .slice eA enl ecl, .slice eB enm ecm], .string ⟨key.toArray⟩] W fun e w' => e = .returned (.int .i64 (cmpP (keyP ek) (keyP key))) ∧ Below W.heap.size W w' := by
  rw [cmpP_key]
  go_enter Tryz.func51, Tryz.ntmps51
  go_wp2_with fail
  refine (Tryz.strings_Compare _ _ _).mono ?_
  rintro e w1 ⟨rfl, rfl⟩
  go_wp2_with fail
  go_ret
  exact ⟨rfl, (Below.refl _ _).alloc (Nat.le_refl _) _⟩
theorem half_uJ (a b : Nat) (ha : a ≤ 140737488355328) (hb : b ≤ 140737488355328) : IntKind.u64.wrap ((a : Int) + (b : Int)) = (a : Int) + (b : Int) := by rw [IntKind.wrap_u64]; omega
theorem half_dJ (a b h : Nat) (hh : (a + b) / 2 = h) : ((a : Int) + (b : Int)) / 2 = (h : Int) := by omega
theorem half_wJ (h : Nat) (hh : h ≤ 140737488355328) : wrap64 (h : Int) = (h : Int) := wrap64_in _ (by omega)
theorem half_sJ (a b : Nat) (ha : a ≤ 140737488355328) (hb : b ≤ 140737488355328) : wrap64 ((a : Int) + (b : Int)) = (a : Int) + (b : Int) := wrap64_in _ (by omega)
theorem cmp_at {t : JT} {i : Nat} (h : i < (slts t).length) {ek : List UInt8} (hek : (t.fall i).key = ek) : ((slts t)[i]).pr = keyP ek := by rw [slts_at t i h, hek]
set_option maxHeartbeats 4000000 in
set_option maxRecDepth 100000 in
theorem search_callsJ (A : Option Addr) (n c : Nat) (t : JT) (key : List UInt8) (w : World) (hn : Room n c t.ext) (hs : JSl (· < w.heap.size) w true A t) (hr : Rise (slts t)) : Calls Tryz.prog 50 #[.slice A n c, .string ⟨key.toArray⟩, .func (Fn.func 51) #[] #[]] w fun e w' => e = .returned (.tuple #[.int .i64 (posF (slts t) (keyP key) : Int), .bool (foundF (slts t) (keyP key))]) ∧ Below w.heap.size w w' := by
  obtain ⟨hn, hnc, hc63⟩ := hn
  have hlen : n = (slts t).length := by rw [slts_len]; exact hn
  obtain ⟨ps, hps⟩ : ∃ ps, posF (slts t) (keyP key) = ps := ⟨_, rfl⟩
  have hpn : ps ≤ n := by rw [← hps, hlen]; exact posF_le _ _
  have HS := Lib.hid hs
  have HH := Lib.hid (And.intro hr hlen)
  have HP := Lib.hid hps
  rw [hps]
  have hn47 : n ≤ 140737488355328 := hc63
  clear hs hn hr hlen hps hnc hc63
  go_enter Tryz.func50, Tryz.ntmps50
  go_wp2_with fail
  go_loopw [9, 10] (fun i j wr => ∃ a b : Nat, a ≤ ps ∧ ps ≤ b ∧ b ≤ n ∧ i = .int .i64 (a : Int) ∧ j = .int .i64 (b : Int) ∧ Hid (Below w.heap.size w wr)) (fun i j _ => (intOf j - intOf i).toNat)
  case atStart => exact ⟨0, n, Nat.zero_le _, hpn, Nat.le_refl _, rfl, rfl, Lib.hid (Below.refl _ _)⟩
  case round =>
    obtain ⟨a, b, ha, hab, hb, rfl, rfl, hbe⟩ := hrel
    by_cases hlt : a < b
    · have hb2 : b ≤ 140737488355328 := Nat.le_trans hb hn47
      have ha2 : a ≤ 140737488355328 := Nat.le_trans (Nat.le_of_lt hlt) hb2
      obtain ⟨h, hh⟩ : ∃ h, (a + b) / 2 = h := ⟨_, rfl⟩
      have hah : a ≤ h := by omega
      have hhb : h < b := by omega
      have hkn : h < n := by omega
      have e3 := half_dJ a b h hh
      have e4 := half_wJ h (by omega)
      have e1 := half_sJ a b ha2 hb2
      have e2 := half_uJ a b ha2 hb2
      have hk : h < (slts t).length := by rw [← HH.out.2]; exact hkn
      obtain ⟨b0, off, eA, enl, ecl, eB, enm, ecm, rfl, eP, ebl, eK, eKl, f0, f1, f2, f3, f4, f5, r1, r2, s1, s2, hf⟩ := (HS.out.up hbe.out).mb (i := h) _ (by rw [← slts_len]; exact hk)
      obtain ⟨eu, hev⟩ : ∃ eu, (t.fall h).val = eu := ⟨_, rfl⟩
      obtain ⟨ek, hek⟩ : ∃ ek, (t.fall h).key = ek := ⟨_, rfl⟩
      rw [hev] at f0 f1 f2 f3
      rw [hek] at eK
      have HX := Lib.hid (cmp_at hk hek)
      have HKK := Lib.hid hk
      clear eP eKl r1 r2 s1 s2 hf hev hek hh
      go_wp2_with fail
      refine (closureJ_calls ek eu eA eB enl ecl enm ecm key _).mono ?_
      rintro e w4 ⟨rfl, b4⟩
      have HB4 := Lib.hid (hbe.out.then_ b4)
      clear b4 eK f0 f1 f2 f3 f4 f5 e1 e2 e3 e4
      obtain ⟨z, hz⟩ : ∃ z, cmpP (keyP ek) (keyP key) = z := ⟨_, rfl⟩
      have HZ := Lib.hid hz
      rw [hz]
      clear hz
      by_cases hz0 : z < 0
      · have HPP : h + 1 ≤ ps := by
          have h1 : ¬ ps ≤ h := fun h2 => by
            have h5 := posF_high HH.out.1 (keyP key) h HKK.out (by rw [HP.out]; exact h2)
            rw [HX.out, HZ.out] at h5
            rcases cmpP_three (keyP ek) (keyP key) with h3 | h3 | h3 <;> rw [HZ.out] at h3 <;> omega
          omega
        go_wp2_with fail
        exact ⟨⟨h + 1, b, HPP, hab, hb, by go_num, rfl, HB4⟩, by simp [intOf]; omega⟩
      · have HPP : ps ≤ h := by
          rcases Nat.lt_or_ge h ps with h2 | h2
          · have h5 := posF_low (slts t) (keyP key) h HKK.out (by rw [HP.out]; exact h2)
            rw [HX.out, HZ.out] at h5
            omega
          · exact h2
        go_wp2_with fail
        exact ⟨⟨a, h, ha, HPP, by omega, rfl, rfl, HB4⟩, by simp [intOf]; omega⟩
    · obtain rfl : a = ps := by omega
      obtain rfl : b = a := by omega
      rcases Nat.lt_or_ge b n with hbn | hbn
      · have hk : b < (slts t).length := by rw [← HH.out.2]; exact hbn
        obtain ⟨b0, off, eA, enl, ecl, eB, enm, ecm, rfl, eP, ebl, eK, eKl, f0, f1, f2, f3, f4, f5, r1, r2, s1, s2, hf⟩ := (HS.out.up hbe.out).mb (i := b) _ (by rw [← slts_len]; exact hk)
        obtain ⟨eu, hev⟩ : ∃ eu, (t.fall b).val = eu := ⟨_, rfl⟩
        obtain ⟨ek, hek⟩ : ∃ ek, (t.fall b).key = ek := ⟨_, rfl⟩
        rw [hev] at f0 f1 f2 f3
        rw [hek] at eK
        obtain ⟨z, hz⟩ : ∃ z, cmpP (keyP ek) (keyP key) = z := ⟨_, rfl⟩
        have HF := Lib.hid (show foundF (slts t) (keyP key) = (z == 0) by
          unfold foundF
          rw [HP.out, List.getElem?_eq_getElem hk]
          dsimp only
          rw [cmp_at hk hek, hz]
          by_cases h : z = 0 <;> simp [h])
        have HZ := Lib.hid hz
        clear eP eKl r1 r2 s1 s2 hf hev hek hz
        go_wp2_with fail
        refine (closureJ_calls ek eu eA eB enl ecl enm ecm key _).mono ?_
        rintro e w4 ⟨rfl, b4⟩
        rw [HZ.out]
        have HB4 := Lib.hid (hbe.out.then_ b4)
        clear b4 eK f0 f1 f2 f3 f4 f5
        go_wp2_with fail
        go_ret2
        refine ⟨?_, HB4.out⟩
        rw [HF.out]; rfl
      · obtain rfl : b = n := by omega
        have HF := Lib.hid (show foundF (slts t) (keyP key) = false by
          unfold foundF
          rw [HP.out, HH.out.2, List.getElem?_eq_none (Nat.le_refl _)])
        go_wp2_with fail
        go_ret2
        refine ⟨?_, hbe.out⟩
        rw [HF.out]; rfl
end Go.Proofs.YtajkgcmopmpihaaGreatDoor
namespace Go.Proofs.YtajkgcmopmpihaaGreatDoor
open Go.ChangeShapes Go.WideShapes Go.ChangeAt Go.RowKit Go.IntWalk
set_option linter.unusedVariables false
set_option maxRecDepth 100000
theorem foundJ_lt {t : JT} {key : List UInt8} (h : foundF (slts t) (keyP key) = true) : posF (slts t) (keyP key) < t.ext := by
  unfold foundF at h
  cases hg : (slts t)[posF (slts t) (keyP key)]? with
  | none => rw [hg] at h; cases h
  | some x => have := (List.getElem?_eq_some_iff.1 hg).1; rw [slts_len] at this; exact this
def fposJ (v : Jv) (key : List UInt8) : Nat := if v.kd = 5 then posF (slts v.m) (keyP key) else 0
def ffndJ (v : Jv) (key : List UInt8) : Bool := if v.kd = 5 then foundF (slts v.m) (keyP key) else false
theorem ne_beq {a b : Int} (h : ¬ a = b) : (a != b) = true := by rw [bne_iff_ne]; exact h
theorem eq_beq {a b : Int} (h : a = b) : (a != b) = false := by simp [h]
set_option maxHeartbeats 4000000 in
theorem jfind_calls (v : Jv) (A0 B0 : Option Addr) (nl0 cl0 nm0 cm0 : Nat) (key : List UInt8) (w : World) (hv : VOk w v A0 B0 nl0 cl0 nm0 cm0) (hr : Rise (slts v.m)) :
    Calls Tryz.prog 32 #[.agg #[.int .i64 v.kd, .bool v.is, .int .i64 v.n, .string ⟨v.s.toArray⟩, .slice A0 nl0 cl0, .slice B0 nm0 cm0], .string ⟨key.toArray⟩] w fun e w' => e = .returned (.tuple #[.int .i64 (fposJ v key : Int), .bool (ffndJ v key)]) ∧ Below w.heap.size w w' := by
  have b1 : Below w.heap.size w (w.alloc (.cells #[.int .i64 v.kd, .bool v.is, .int .i64 v.n, .string ⟨v.s.toArray⟩, .slice A0 nl0 cl0, .slice B0 nm0 cm0] 25)) := (Below.refl _ _).alloc (Nat.le_refl _) _
  have hx := Blk.new w [.int .i64 v.kd, .bool v.is, .int .i64 v.n, .string ⟨v.s.toArray⟩, .slice A0 nl0 cl0, .slice B0 nm0 cm0] 25
  have d0 := hx.cell (k := 0) rfl; have d5 := hx.cell (k := 5) rfl
  have HB := Lib.hid b1
  by_cases h5 : v.kd = 5
  · have HS := Lib.hid (search_callsJ B0 nm0 cm0 v.m key _ hv.2.1 (hv.2.2.2.1.up b1) hr)
    have HE := Lib.hid (show fposJ v key = posF (slts v.m) (keyP key) ∧ ffndJ v key = foundF (slts v.m) (keyP key) by unfold fposJ ffndJ; rw [if_pos h5, if_pos h5]; exact ⟨rfl, rfl⟩)
    have hn5 := eq_beq h5
    clear h5 b1 hx hv hr
    go_enter Tryz.func32, Tryz.ntmps32
    go_wp2_with fail
    refine HS.out.mono ?_
    rintro e w2 ⟨rfl, b2⟩
    rw [← HE.out.1, ← HE.out.2]
    have HB2 := Lib.hid (HB.out.then_ b2)
    clear b2 d0 d5
    go_wp2_with fail
    go_ret2
    exact ⟨rfl, HB2.out⟩
  · have HE := Lib.hid (show fposJ v key = 0 ∧ ffndJ v key = false by unfold fposJ ffndJ; rw [if_neg h5, if_neg h5]; exact ⟨rfl, rfl⟩)
    have hn5 := ne_beq h5
    clear h5 b1 hx hv hr
    go_enter Tryz.func32, Tryz.ntmps32
    go_wp2_with fail
    go_ret2
    rw [HE.out.1, HE.out.2]
    exact ⟨rfl, HB.out⟩
end Go.Proofs.YtajkgcmopmpihaaGreatDoor
namespace Go.Proofs.YtajkgcmopmpihaaGreatDoor
open Go.ChangeShapes Go.WideShapes Go.ChangeAt Go.RowKit Go.IntWalk
set_option linter.unusedVariables false
set_option maxRecDepth 100000
def Q4 (w : World) (X U : List Value) (M : Value) (W : World) : Prop := Below w.heap.size w W ∧ Blk W w.heap.size 25 X ∧ Blk W (w.heap.size + 1) 25 U ∧ Blk W (w.heap.size + 2) 25 [.int .i64 0, .bool false, .int .i64 0, .string ⟨#[]⟩, .slice none 0 0, .slice none 0 0] ∧ Blk W (w.heap.size + 3) 25 [.int .i64 5, .bool false, .int .i64 0, .string ⟨#[]⟩, .slice none 0 0, M]
section
variable {w W W' : World} {X U : List Value} {M : Value}
theorem Q4.later (h : Q4 w X U M W) (b : Below W.heap.size W W') : Q4 w X U M W' := ⟨h.1.then_ b, h.2.1.later b, h.2.2.1.later b, h.2.2.2.1.later b, h.2.2.2.2.later b⟩
theorem Q4.low (h : Q4 w X U M W) (b : Below (w.heap.size + 4) W W') : Q4 w X U M W' := ⟨h.1.trans (b.mono (by omega)), h.2.1.below b (by omega), h.2.2.1.below b (by omega), h.2.2.2.1.below b (by omega), h.2.2.2.2.below b (by omega)⟩
theorem Q4.setM (h : Q4 w X U M W) (M' : Value) : Q4 w X U M' (W.setCell ⟨w.heap.size + 3, 5, none⟩ M') :=
  ⟨h.1.setCell (p := ⟨w.heap.size + 3, 5, none⟩) (by show _ ≤ w.heap.size + 3; omega) _, Blk.far1 h.2.1 (by omega) _ _, Blk.far1 h.2.2.1 (by omega) _ _, Blk.far1 h.2.2.2.1 (by omega) _ _, h.2.2.2.2.set_ 5 _⟩
theorem Q4.start (w : World) (X U : List Value) : Q4 w X U (.slice none 0 0) ((((w.alloc (.cells X.toArray 25)).alloc (.cells U.toArray 25)).alloc (.cells #[.int .i64 0, .bool false, .int .i64 0, .string ⟨#[]⟩, .slice none 0 0, .slice none 0 0] 25)).alloc (.cells #[.int .i64 5, .bool false, .int .i64 0, .string ⟨#[]⟩, .slice none 0 0, .slice none 0 0] 25)) := by
  obtain ⟨W1, h1⟩ : ∃ W1, W1 = w.alloc (.cells X.toArray 25) := ⟨_, rfl⟩
  obtain ⟨W2, h2⟩ : ∃ W2, W2 = W1.alloc (.cells U.toArray 25) := ⟨_, rfl⟩
  obtain ⟨W3, h3⟩ : ∃ W3, W3 = W2.alloc (.cells #[.int .i64 0, .bool false, .int .i64 0, .string ⟨#[]⟩, .slice none 0 0, .slice none 0 0] 25) := ⟨_, rfl⟩
  have s1 : W1.heap.size = w.heap.size + 1 := by rw [h1]; simp
  have s2 : W2.heap.size = w.heap.size + 2 := by rw [h2]; simp [s1]
  have s3 : W3.heap.size = w.heap.size + 3 := by rw [h3]; simp [s2]
  have b1 : Below w.heap.size w W1 := by rw [h1]; exact (Below.refl _ _).alloc (Nat.le_refl _) _
  have b2 : Below W1.heap.size W1 W2 := by rw [h2]; exact (Below.refl _ _).alloc (Nat.le_refl _) _
  have b3 : Below W2.heap.size W2 W3 := by rw [h3]; exact (Below.refl _ _).alloc (Nat.le_refl _) _
  have g1 : Blk W1 w.heap.size 25 X := by rw [h1]; exact Blk.new _ _ _
  have g2 : Blk W2 (w.heap.size + 1) 25 U := by rw [h2, ← s1]; exact Blk.new _ _ _
  have g3 : Blk W3 (w.heap.size + 2) 25 [.int .i64 0, .bool false, .int .i64 0, .string ⟨#[]⟩, .slice none 0 0, .slice none 0 0] := by rw [h3, ← s2]; exact Blk.new _ _ _
  rw [← h1, ← h2, ← h3]
  have b4 : Below W3.heap.size W3 (W3.alloc (.cells #[.int .i64 5, .bool false, .int .i64 0, .string ⟨#[]⟩, .slice none 0 0, .slice none 0 0] 25)) := (Below.refl _ _).alloc (Nat.le_refl _) _
  exact ⟨((b1.then_ b2).then_ b3).then_ b4, ((g1.later b2).later b3).later b4, (g2.later b3).later b4, g3.later b4, by rw [← s3]; exact Blk.new _ _ _⟩
end
def Put9 (w : World) (e : Ending) (w' : World) : Prop :=
  (∃ (A : Option Addr) (n c : Nat), e = .returned (.agg #[.int .i64 5, .bool false, .int .i64 0, .string ⟨#[]⟩, .slice none 0 0, .slice A n c]) ∧ n ≤ 100000 ∧ Wri w.heap.size 7 44 A n w') ∧ Below w.heap.size w w'
theorem Put9.mk {w W : World} {X U : List Value} {A : Option Addr} {n c : Nat} {e : Ending} (he : e = .returned (.agg #[.int .i64 5, .bool false, .int .i64 0, .string ⟨#[]⟩, .slice none 0 0, .slice A n c])) (hn : n ≤ 100000) (h : Q4 w X U (.slice A n c) W) (hw : Wri (w.heap.size + 4) 7 44 A n W) :
    Put9 w e (set6 W (w.heap.size + 2) (.int .i64 5) (.bool false) (.int .i64 0) (.string ⟨#[]⟩) (.slice none 0 0) (.slice A n c)) :=
  ⟨⟨A, n, c, he, hn, (hw.chg (chg6s W (w.heap.size + 2)) (fun b hb e => by have e2 : b = w.heap.size + 2 := e; omega)).low (by omega)⟩, below6 h.1 (by omega)⟩
theorem ownsRow_lo {base lo n sz : Nat} {T : TypeId} {w : World} {L : Value} {cs : List Value} (h : w.ownsRow base T sz L n cs) (hl : lo ≤ base) : w.ownsRow lo T sz L n cs :=
  ⟨h.1, h.2.imp id (fun ⟨g, cap, cur, e, hb, r⟩ => ⟨g, cap, cur, e, Nat.le_trans hl hb, r⟩)⟩
theorem row_ones {P : Nat → Prop} {w : World} {ds : List Value} {t : JT} {n : Nat} (hl : ds.length = n * 7) (h : ∀ i, i < n → RowE P true w ds t i) : ∀ u ∈ ds, u.oneCell' = true := by
  intro u hu
  obtain ⟨k, hk, rfl⟩ := List.getElem_of_mem hu
  obtain ⟨h1, e, h2, A, nl, cl, B, nm, cm, rfl, _⟩ := h (k / 7) (by omega)
  have h1 := h1.1
  have hm : k = k / 7 * 7 + k % 7 := by omega
  have hg : ds[k]? = some ds[k] := List.getElem?_eq_getElem hk
  have h7 : k % 7 < 7 := Nat.mod_lt _ (by decide)
  have hst : stM true = 7 := rfl
  have hkw : kwM true = 1 := rfl
  rw [hst] at h1
  rw [hst, hkw] at h2
  obtain ⟨j, hj⟩ : ∃ j, k % 7 = j := ⟨_, rfl⟩
  rw [hj] at hm h7
  have key : ∀ x, ds[k / 7 * 7 + j]? = some x → x.oneCell' = true → ds[k].oneCell' = true := fun x hx ho => by
    rw [← hm, hg] at hx
    injection hx with hx
    rw [hx]; exact ho
  have hc : j = 0 ∨ j = 1 ∨ j = 2 ∨ j = 3 ∨ j = 4 ∨ j = 5 ∨ j = 6 := by omega
  rcases hc with rfl | rfl | rfl | rfl | rfl | rfl | rfl
  · exact key _ h1 rfl
  · exact key _ (h2 0 _ rfl) rfl
  · exact key _ (h2 1 _ rfl) rfl
  · exact key _ (h2 2 _ rfl) rfl
  · exact key _ (h2 3 _ rfl) rfl
  · exact key _ (h2 4 _ rfl) rfl
  · exact key _ (h2 5 _ rfl) rfl
set_option maxHeartbeats 8000000 in
theorem put9_calls (v u : Jv) (A0 B0 A1 B1 : Option Addr) (nl0 cl0 nm0 cm0 nl1 cl1 nm1 cm1 : Nat) (key : List UInt8) (w : World) (hv : VOk w v A0 B0 nl0 cl0 nm0 cm0) (hr : Rise (slts v.m)) (hn : v.m.ext ≤ 50000) :
    Calls Tryz.prog 19 #[.agg #[.int .i64 v.kd, .bool v.is, .int .i64 v.n, .string ⟨v.s.toArray⟩, .slice A0 nl0 cl0, .slice B0 nm0 cm0], .string ⟨key.toArray⟩, .agg #[.int .i64 u.kd, .bool u.is, .int .i64 u.n, .string ⟨u.s.toArray⟩, .slice A1 nl1 cl1, .slice B1 nm1 cm1]] w (Put9 w) := by
  have HQ0 := Lib.hid (Q4.start w [.int .i64 v.kd, .bool v.is, .int .i64 v.n, .string ⟨v.s.toArray⟩, .slice A0 nl0 cl0, .slice B0 nm0 cm0] [.int .i64 u.kd, .bool u.is, .int .i64 u.n, .string ⟨u.s.toArray⟩, .slice A1 nl1 cl1, .slice B1 nm1 cm1])
  have HV := Lib.hid hv
  have HR := Lib.hid hr
  have hn5 : nm0 ≤ 50000 := by rw [hv.2.1.1]; exact hn
  have HNN := Lib.hid (show nm0 = v.m.ext from hv.2.1.1)
  obtain ⟨i, hi⟩ : ∃ i, fposJ v key = i := ⟨_, rfl⟩
  obtain ⟨fd, hfd⟩ : ∃ fd, ffndJ v key = fd := ⟨_, rfl⟩
  have HIF := Lib.hid (And.intro hi hfd)
  clear hv hr hn hi hfd
  go_enter Tryz.func19, Tryz.ntmps19
  go_upto_region 2 with fail
  rw [show w.heap.size + 1 + 1 + 1 = w.heap.size + 3 from rfl, show w.heap.size + 1 + 1 = w.heap.size + 2 from rfl]
  refine wp_gen (fun W => Q4 w [.int .i64 v.kd, .bool v.is, .int .i64 v.n, .string ⟨v.s.toArray⟩, .slice A0 nl0 cl0, .slice B0 nm0 cm0] [.int .i64 u.kd, .bool u.is, .int .i64 u.n, .string ⟨u.s.toArray⟩, .slice A1 nl1 cl1, .slice B1 nm1 cm1] (.slice none 0 0) W) HQ0.out ?_
  clear HQ0
  rintro W hQ
  have HQ := Lib.hid hQ
  obtain ⟨d0, d1, d2, d3, d4, d5, _⟩ := cells6s hQ.2.1
  clear hQ
  by_cases h5 : v.kd = 5
  · have q1 : (v.kd == 5) = true := by simpa using h5
    have HI0 := Lib.hid (show i = posF (slts v.m) (keyP key) ∧ fd = foundF (slts v.m) (keyP key) by rw [← HIF.out.1, ← HIF.out.2]; unfold fposJ ffndJ; rw [if_pos h5, if_pos h5]; exact ⟨rfl, rfl⟩)
    have HCM := Lib.hid (cloneM_calls (· < W.heap.size) B0 nm0 cm0 v.m W (fun b hb => hb) HNN.out (by omega) (HV.out.below HQ.out.1).2.2.2.1)
    obtain ⟨o0, o1, o2, o3, o4, o5, p0, p1, p2, p3, p4, p5⟩ := cells6s HQ.out.2.2.2.2
    clear h5
    go_wp2_with fail
    refine HCM.out.mono ?_
    rintro e w5 ⟨⟨A3, c3, rfl, hc3, _, ds, hown, hrow⟩, b5⟩
    have HQ5 := Lib.hid (HQ.out.later b5)
    have HO5 := Lib.hid (And.intro hown (row_ones hown.1 (fun i hi => hrow i (by rw [← HNN.out]; exact hi))))
    have HWS := Lib.hid (show w.heap.size + 4 ≤ W.heap.size from HQ.out.2.2.2.2.lt)
    clear hown hrow b5 d0 d1 d2 d3 d4 d5 o0 o1 o2 o3 o4 o5 p0 p1 p2 p3 p4 p5 HCM
    obtain ⟨o0, o1, o2, o3, o4, o5, p0, p1, p2, p3, p4, p5⟩ := cells6s HQ5.out.2.2.2.2
    go_upto_region 4 with fail
    refine wp_gen (fun W2 => Q4 w [.int .i64 v.kd, .bool v.is, .int .i64 v.n, .string ⟨v.s.toArray⟩, .slice A0 nl0 cl0, .slice B0 nm0 cm0] [.int .i64 u.kd, .bool u.is, .int .i64 u.n, .string ⟨u.s.toArray⟩, .slice A1 nl1 cl1, .slice B1 nm1 cm1] (.slice A3 nm0 c3) W2 ∧ W2.ownsRow (w.heap.size + 4) 44 7 (.slice A3 nm0 c3) nm0 ds) ⟨HQ5.out.setM _, ownsRow_set (ownsRow_lo HO5.out.1 HWS.out) (by omega)⟩ ?_
    rintro W2 ⟨g1, g2⟩
    clear HQ HQ5 o0 o1 o2 o3 o4 o5 p0 p1 p2 p3 p4 p5
    have HQ := Lib.hid g1
    have HW2 := Lib.hid g2
    have hff := jfind_calls v A0 B0 nl0 cl0 nm0 cm0 key _ (HV.out.below g1.1) HR.out
    rw [HIF.out.1, HIF.out.2] at hff
    have HFI := Lib.hid hff
    obtain ⟨d0, d1, d2, d3, d4, d5, _⟩ := cells6s g1.2.1
    clear g1 g2 hff
    go_wp2_with fail
    refine HFI.out.mono ?_
    rintro e wh ⟨rfl, b6⟩
    have HQ3 := Lib.hid (HQ.out.later b6)
    have HW := Lib.hid (And.intro (ownsRow_below HW2.out b6) HO5.out.2)
    clear HQ HW2 d0 d1 d2 d3 d4 d5 b6 HFI
    have HQ := HQ3
    clear HQ3
    cases fd with
    | true =>
      have hlt : i < nm0 := by rw [HNN.out, HI0.out.1]; exact foundJ_lt HI0.out.2.symm
      obtain ⟨A4, c4, e4, hwr⟩ := own_wri HW.out.1
      injection e4 with e1 e2 e3
      subst e1 e3
      obtain ⟨gb, go_, rfl, hlo, hgl, hth⟩ := hwr.there hlt
      have HTH := Lib.hid (And.intro hlo (And.intro hwr (show wh.there gb (go_ + i * 7 + 1) 6 from fun j hj => by
        have := hth (1 + j) (by omega)
        rw [← Nat.add_assoc] at this; exact this)))
      obtain ⟨o0, o1, o2, o3, o4, o5, p0, p1, p2, p3, p4, p5⟩ := cells6s HQ.out.2.2.2.2
      obtain ⟨e0, e1, e2, e3, e4, e5, _⟩ := cells6s HQ.out.2.2.1
      have hii : (i : Int) < (nm0 : Int) := by omega
      clear hlo hgl hth hwr
      have HN1 := Lib.hid (show (#[.int .i64 u.kd, .bool u.is, .int .i64 u.n, .string ⟨u.s.toArray⟩, .slice A1 nl1 cl1, .slice B1 nm1 cm1] : Array Value).all (·.oneCell') = true by simp [Value.oneCell'])
      go_upto_region 8 with (refine wpList_store_mid rfl 25 _ _ rfl gb (go_ + i * 7 + 1) #[.int .i64 u.kd, .bool u.is, .int .i64 u.n, .string ⟨u.s.toArray⟩, .slice A1 nl1 cl1, .slice B1 nm1 cm1] rfl rfl HTH.out.2.2 size_v6 HN1.out ?_)
      refine wp_gen (fun W => Q4 w [.int .i64 v.kd, .bool v.is, .int .i64 v.n, .string ⟨v.s.toArray⟩, .slice A0 nl0 cl0, .slice B0 nm0 cm0] [.int .i64 u.kd, .bool u.is, .int .i64 u.n, .string ⟨u.s.toArray⟩, .slice A1 nl1 cl1, .slice B1 nm1 cm1] (.slice (some ⟨gb, go_, none⟩) nm0 c3) W ∧ Wri (w.heap.size + 4) 7 44 (some ⟨gb, go_, none⟩) nm0 W) ⟨HQ.out.low ((setCells_chg _ _ _).below (Below.refl (w.heap.size + 4) wh) HQ.out.2.2.2.2.lt (fun b _ e => by have e2 : b = gb := e; have := HTH.out.1; omega)), HTH.out.2.1.put _ _⟩ ?_
      rintro W8 ⟨h1, h2⟩
      have HQ8 := Lib.hid h1
      have HW8 := Lib.hid h2
      clear h1 h2 o0 o1 o2 o3 o4 o5 p0 p1 p2 p3 p4 p5 e0 e1 e2 e3 e4 e5
      obtain ⟨o0, o1, o2, o3, o4, o5, p0, p1, p2, p3, p4, p5⟩ := cells6s HQ8.out.2.2.2.2
      obtain ⟨g0, g1, g2, g3, g4, g5, k0, k1, k2, k3, k4, k5⟩ := cells6s HQ8.out.2.2.2.1
      go_wp2_with fail
      exact bodyPost_ret (res_cell6 rfl _ ⟨w.heap.size + 2, 0, none⟩ _ _ rfl (Blk.load (blk6 HQ8.out.2.2.2.1) _ Tryz.underlying25 rfl size_v6)) rfl (Put9.mk rfl (by omega) HQ8.out HW8.out)
    | false =>
      have HI := Lib.hid (show i ≤ nm0 by rw [HNN.out, HI0.out.1]; rw [← slts_len v.m]; exact posF_le ..)
      have HIN := Lib.hid (insertM_any (w.heap.size + 4) (.slice A3 nm0 c3) nm0 i ds [.string ⟨key.toArray⟩, .int .i64 u.kd, .bool u.is, .int .i64 u.n, .string ⟨u.s.toArray⟩, .slice A1 nl1 cl1, .slice B1 nm1 cm1] _ HW.out.1 HI.out (HQ.out.2.2.2.2.lt) (by omega) rfl HW.out.2 (by intro u hu; simp only [List.mem_cons, List.not_mem_nil, or_false] at hu; rcases hu with rfl | rfl | rfl | rfl | rfl | rfl | rfl <;> rfl))
      obtain ⟨o0, o1, o2, o3, o4, o5, p0, p1, p2, p3, p4, p5⟩ := cells6s HQ.out.2.2.2.2
      obtain ⟨e0, e1, e2, e3, e4, e5, _⟩ := cells6s HQ.out.2.2.1
      go_wp2_with fail
      refine HIN.out.mono ?_
      rintro e w7 ⟨v', rfl, ⟨ds2, hown⟩, b7⟩
      obtain ⟨A4, c4, rfl, hwr⟩ := own_wri hown
      have HQ7 := Lib.hid (HQ.out.low b7)
      have HW7 := Lib.hid hwr
      clear hown hwr b7 o0 o1 o2 o3 o4 o5 p0 p1 p2 p3 p4 p5 e0 e1 e2 e3 e4 e5 HIN
      obtain ⟨o0, o1, o2, o3, o4, o5, p0, p1, p2, p3, p4, p5⟩ := cells6s HQ7.out.2.2.2.2
      obtain ⟨g0, g1, g2, g3, g4, g5, k0, k1, k2, k3, k4, k5⟩ := cells6s HQ7.out.2.2.2.1
      go_wp2_with fail
      exact bodyPost_ret (res_cell6 rfl _ ⟨w.heap.size + 2, 0, none⟩ _ _ rfl (Blk.load (blk6 (HQ7.out.setM (.slice A4 (nm0 + 1) c4)).2.2.2.1) _ Tryz.underlying25 rfl size_v6)) rfl (Put9.mk rfl (by omega) (HQ7.out.setM (.slice A4 (nm0 + 1) c4)) (HW7.out.chg (Chg.set1 (C := (· = w.heap.size + 3)) rfl _ _) (fun b hb e => by have e2 : b = w.heap.size + 3 := e; omega)))
  · have q1 : (v.kd == 5) = false := by simpa using h5
    have hE : fposJ v key = 0 ∧ ffndJ v key = false := by unfold fposJ ffndJ; rw [if_neg h5, if_neg h5]; exact ⟨rfl, rfl⟩
    rw [HIF.out.1, HIF.out.2] at hE
    obtain ⟨hi0, rfl⟩ := hE
    have hff := jfind_calls v A0 B0 nl0 cl0 nm0 cm0 key W (HV.out.below HQ.out.1) HR.out
    rw [HIF.out.1, HIF.out.2] at hff
    have HFI := Lib.hid hff
    clear h5 hff
    go_wp2_with fail
    refine HFI.out.mono ?_
    rintro e wh ⟨rfl, b6⟩
    have HQ3 := Lib.hid (HQ.out.later b6)
    obtain ⟨ds, hds⟩ : ∃ ds : List Value, ds = [] := ⟨_, rfl⟩
    have HW := Lib.hid (show wh.ownsRow (w.heap.size + 4) 44 7 (.slice none 0 0) 0 ds ∧ ∀ u ∈ ds, u.oneCell' = true by subst hds; exact ⟨World.ownsRow_nil _ _ _ _, fun u hu => by cases hu⟩)
    have HI := Lib.hid (show i ≤ 0 by omega)
    clear HQ d0 d1 d2 d3 d4 d5 b6 HFI hi0 hds
    have HQ := HQ3
    clear HQ3
    have HIN := Lib.hid (insertM_any (w.heap.size + 4) (.slice none 0 0) 0 i ds [.string ⟨key.toArray⟩, .int .i64 u.kd, .bool u.is, .int .i64 u.n, .string ⟨u.s.toArray⟩, .slice A1 nl1 cl1, .slice B1 nm1 cm1] _ HW.out.1 HI.out (HQ.out.2.2.2.2.lt) (by omega) rfl HW.out.2 (by intro u hu; simp only [List.mem_cons, List.not_mem_nil, or_false] at hu; rcases hu with rfl | rfl | rfl | rfl | rfl | rfl | rfl <;> rfl))
    obtain ⟨o0, o1, o2, o3, o4, o5, p0, p1, p2, p3, p4, p5⟩ := cells6s HQ.out.2.2.2.2
    obtain ⟨e0, e1, e2, e3, e4, e5, _⟩ := cells6s HQ.out.2.2.1
    go_wp2_with fail
    refine HIN.out.mono ?_
    rintro e w7 ⟨v', rfl, ⟨ds2, hown⟩, b7⟩
    obtain ⟨A4, c4, rfl, hwr⟩ := own_wri hown
    have HQ7 := Lib.hid (HQ.out.low b7)
    have HW7 := Lib.hid hwr
    clear hown hwr b7 o0 o1 o2 o3 o4 o5 p0 p1 p2 p3 p4 p5 e0 e1 e2 e3 e4 e5 HIN
    obtain ⟨o0, o1, o2, o3, o4, o5, p0, p1, p2, p3, p4, p5⟩ := cells6s HQ7.out.2.2.2.2
    obtain ⟨g0, g1, g2, g3, g4, g5, k0, k1, k2, k3, k4, k5⟩ := cells6s HQ7.out.2.2.2.1
    go_wp2_with fail
    exact bodyPost_ret (res_cell6 rfl _ ⟨w.heap.size + 2, 0, none⟩ _ _ rfl (Blk.load (blk6 (HQ7.out.setM (.slice A4 (0 + 1) c4)).2.2.2.1) _ Tryz.underlying25 rfl size_v6)) rfl (Put9.mk rfl (by omega) (HQ7.out.setM (.slice A4 (0 + 1) c4)) (HW7.out.chg (Chg.set1 (C := (· = w.heap.size + 3)) rfl _ _) (fun b hb e => by have e2 : b = w.heap.size + 3 := e; omega)))
end Go.Proofs.YtajkgcmopmpihaaGreatDoor
namespace Go.Proofs.YtajkgcmopmpihaaGreatDoor
open Go.ChangeShapes Go.WideShapes Go.ChangeAt Go.RowKit Go.IntWalk
set_option linter.unusedVariables false
set_option maxRecDepth 100000
theorem wpList_append_c7B {ops : Array Oper} {rest : List Oper} {o : Oper} {a : Act} {Q : Exit → Act → World → Prop} {w : World} (hgd : o.guard = none) (s x : Operand)
    (ho : o.op = .call { callee := .builtin .append, args := #[s, x], argTypes := #[23, 23] })
    (base : Nat) (v : Value) (n : Nat) (cs : List Value) (hs : a.eval s = v) (hown : w.ownsRow base 44 7 v n cs) (c7 : List Value) (B : Nat) (hB : Blk w B 44 c7) (h7 : c7.length = 7) (h1 : ∀ u ∈ c7, u.oneCell' = true)
    (hx : a.eval x = .slice (some ⟨B, 0, none⟩) 1 1) (hn : n ≤ 60000) (hbase : base ≤ w.heap.size)
    (h : ∀ g cap w', w'.ownsRow base 44 7 (.slice (some ⟨g, 0, none⟩) (n + 1) cap) (n + 1) (cs ++ c7) → Below base w w' → wpList Tryz.prog ops Q rest (a.put o.dst (.slice (some ⟨g, 0, none⟩) (n + 1) cap)) w') :
    wpList Tryz.prog ops Q (o :: rest) a w := by
  obtain ⟨i, hi, hz, hsz, hby⟩ := info_parts info_memD
  refine wpList_append_lies _ hgd s x 23 ho base 44 i _ 7 104 Tryz.underlying23 hi hz hsz hby rfl (by decide) v n cs hs hown ⟨B, 0, none⟩ 1 1 c7 hx (by rw [h7]) ?_ h1 (by decide) (Nat.le_trans (show n + 1 ≤ 60001 by omega) (by decide)) (by omega) hbase _ rfl ?_
  · intro j u hj
    rw [add_plain0]
    exact hB.cell hj
  · intro g cap w' h2 h3 _ _
    exact h g cap w' h2 ((Below.refl base w).grown h3 hbase (fun k hk => (World.ownsRow.lt hown k hk).1))
def Q3 (w : World) (X : List Value) (M : Value) (W : World) : Prop := Below w.heap.size w W ∧ Blk W w.heap.size 25 X ∧ Blk W (w.heap.size + 1) 25 [.int .i64 0, .bool false, .int .i64 0, .string ⟨#[]⟩, .slice none 0 0, .slice none 0 0] ∧ Blk W (w.heap.size + 2) 25 [.int .i64 5, .bool false, .int .i64 0, .string ⟨#[]⟩, .slice none 0 0, M]
section
variable {w W W' : World} {X : List Value} {M : Value}
theorem Q3.later (h : Q3 w X M W) (b : Below W.heap.size W W') : Q3 w X M W' := ⟨h.1.then_ b, h.2.1.later b, h.2.2.1.later b, h.2.2.2.later b⟩
theorem Q3.low (h : Q3 w X M W) (b : Below (w.heap.size + 3) W W') : Q3 w X M W' := ⟨h.1.trans (b.mono (by omega)), h.2.1.below b (by omega), h.2.2.1.below b (by omega), h.2.2.2.below b (by omega)⟩
theorem Q3.setM (h : Q3 w X M W) (M' : Value) : Q3 w X M' (W.setCell ⟨w.heap.size + 2, 5, none⟩ M') :=
  ⟨h.1.setCell (p := ⟨w.heap.size + 2, 5, none⟩) (by show _ ≤ w.heap.size + 2; omega) _, Blk.far1 h.2.1 (by omega) _ _, Blk.far1 h.2.2.1 (by omega) _ _, h.2.2.2.set_ 5 _⟩
theorem Q3.start (w : World) (X : List Value) : Q3 w X (.slice none 0 0) (((w.alloc (.cells X.toArray 25)).alloc (.cells #[.int .i64 0, .bool false, .int .i64 0, .string ⟨#[]⟩, .slice none 0 0, .slice none 0 0] 25)).alloc (.cells #[.int .i64 5, .bool false, .int .i64 0, .string ⟨#[]⟩, .slice none 0 0, .slice none 0 0] 25)) := by
  obtain ⟨W1, h1⟩ : ∃ W1, W1 = w.alloc (.cells X.toArray 25) := ⟨_, rfl⟩
  obtain ⟨W3, h3⟩ : ∃ W3, W3 = W1.alloc (.cells #[.int .i64 0, .bool false, .int .i64 0, .string ⟨#[]⟩, .slice none 0 0, .slice none 0 0] 25) := ⟨_, rfl⟩
  have s1 : W1.heap.size = w.heap.size + 1 := by rw [h1]; simp
  have s3 : W3.heap.size = w.heap.size + 2 := by rw [h3]; simp [s1]
  have b1 : Below w.heap.size w W1 := by rw [h1]; exact (Below.refl _ _).alloc (Nat.le_refl _) _
  have b3 : Below W1.heap.size W1 W3 := by rw [h3]; exact (Below.refl _ _).alloc (Nat.le_refl _) _
  have g1 : Blk W1 w.heap.size 25 X := by rw [h1]; exact Blk.new _ _ _
  have g3 : Blk W3 (w.heap.size + 1) 25 [.int .i64 0, .bool false, .int .i64 0, .string ⟨#[]⟩, .slice none 0 0, .slice none 0 0] := by rw [h3, ← s1]; exact Blk.new _ _ _
  rw [← h1, ← h3]
  have b4 : Below W3.heap.size W3 (W3.alloc (.cells #[.int .i64 5, .bool false, .int .i64 0, .string ⟨#[]⟩, .slice none 0 0, .slice none 0 0] 25)) := (Below.refl _ _).alloc (Nat.le_refl _) _
  exact ⟨(b1.then_ b3).then_ b4, (g1.later b3).later b4, g3.later b4, by rw [← s3]; exact Blk.new _ _ _⟩
end
theorem Put9.mk3 {w W : World} {X : List Value} {A : Option Addr} {n c : Nat} {e : Ending} (he : e = .returned (.agg #[.int .i64 5, .bool false, .int .i64 0, .string ⟨#[]⟩, .slice none 0 0, .slice A n c])) (hn : n ≤ 100000) (h : Q3 w X (.slice A n c) W) (hw : Wri (w.heap.size + 3) 7 44 A n W) :
    Put9 w e (set6 W (w.heap.size + 1) (.int .i64 5) (.bool false) (.int .i64 0) (.string ⟨#[]⟩) (.slice none 0 0) (.slice A n c)) :=
  ⟨⟨A, n, c, he, hn, (hw.chg (chg6s W (w.heap.size + 1)) (fun b hb e => by have e2 : b = w.heap.size + 1 := e; omega)).low (by omega)⟩, below6 h.1 (by omega)⟩
def cpF (a : Jv) : Lft := Lft.bare fun x => ∃ (A B : Option Addr) (nl cl nm cm : Nat), x = .agg #[.int .i64 a.kd, .bool a.is, .int .i64 a.n, .string ⟨a.s.toArray⟩, .slice A nl cl, .slice B nm cm]
def mbC (ek : List UInt8) (a : Jv) (A B : Option Addr) (nl cl nm cm : Nat) : List Value := [.string ⟨ek.toArray⟩, .int .i64 a.kd, .bool a.is, .int .i64 a.n, .string ⟨a.s.toArray⟩, .slice A nl cl, .slice B nm cm]
def cpM (ek : List UInt8) (a : Jv) : Lft := Lft.bare fun x => ∃ (A B : Option Addr) (nl cl nm cm : Nat), x = .agg #[.string ⟨ek.toArray⟩, .int .i64 a.kd, .bool a.is, .int .i64 a.n, .string ⟨a.s.toArray⟩, .slice A nl cl, .slice B nm cm]
def cpS (ek : List UInt8) (a : Jv) : Lft := ⟨fun x => ∃ b : Nat, x = .slice (some ⟨b, 0, none⟩) 1 1, fun x w => ∃ (b : Nat) (A B : Option Addr) (nl cl nm cm : Nat), x = .slice (some ⟨b, 0, none⟩) 1 1 ∧ Blk w b 44 (mbC ek a A B nl cl nm cm), fun x w w' ⟨b, A, B, nl, cl, nm, cm, h1, h2⟩ hb => ⟨b, A, B, nl, cl, nm, cm, h1, h2.later hb⟩⟩
def DSt (w : World) (X : List Value) (A : Option Addr) (k c : Nat) (cs : List Value) (W : World) : Prop := Q3 w X (.slice A k c) W ∧ W.ownsRow (w.heap.size + 3) 44 7 (.slice A k c) k cs
set_option maxHeartbeats 8000000 in
theorem drop9_calls (v : Jv) (A0 B0 : Option Addr) (nl0 cl0 nm0 cm0 : Nat) (key : List UInt8) (w : World) (hv : VOk w v A0 B0 nl0 cl0 nm0 cm0) (hbk : v.bulk ≤ 50000) :
    Calls Tryz.prog 20 #[.agg #[.int .i64 v.kd, .bool v.is, .int .i64 v.n, .string ⟨v.s.toArray⟩, .slice A0 nl0 cl0, .slice B0 nm0 cm0], .string ⟨key.toArray⟩] w (Put9 w) := by
  have HQ0 := Lib.hid (Q3.start w [.int .i64 v.kd, .bool v.is, .int .i64 v.n, .string ⟨v.s.toArray⟩, .slice A0 nl0 cl0, .slice B0 nm0 cm0])
  have hex := ext_le_bulk v.m
  have hvb : v.m.bulk ≤ 50000 := by unfold Jv.bulk at hbk; omega
  have hn5 : nm0 ≤ 50000 := by rw [hv.2.1.1]; omega
  have HV := Lib.hid hv
  have HBK := Lib.hid hvb
  have HNN := Lib.hid (show nm0 = v.m.ext from hv.2.1.1)
  have hnc : nm0 ≤ cm0 := hv.2.1.2.1
  clear hv hbk hex hvb
  go_enter Tryz.func20, Tryz.ntmps20
  go_upto_region 2 with fail
  rw [show w.heap.size + 1 + 1 = w.heap.size + 2 from rfl]
  refine wp_gen (fun W => Q3 w [.int .i64 v.kd, .bool v.is, .int .i64 v.n, .string ⟨v.s.toArray⟩, .slice A0 nl0 cl0, .slice B0 nm0 cm0] (.slice none 0 0) W) HQ0.out ?_
  clear HQ0
  rintro W hQ
  have HQ := Lib.hid hQ
  obtain ⟨d0, d1, d2, d3, d4, d5, _⟩ := cells6s hQ.2.1
  clear hQ
  by_cases h5 : v.kd = 5
  · have q1 : (v.kd != 5) = false := by simpa using h5
    clear h5
    go_wp2_with fail
    go_loopw [16] (fun iv wr => ∃ (i k c : Nat) (A : Option Addr) (cs : List Value), iv = .int .i64 (i : Int) ∧ i ≤ nm0 ∧ k ≤ i ∧ Hid (DSt w [.int .i64 v.kd, .bool v.is, .int .i64 v.n, .string ⟨v.s.toArray⟩, .slice A0 nl0 cl0, .slice B0 nm0 cm0] A k c cs wr)) (fun iv _ => nm0 - (intOf iv).toNat)
    case atStart => exact ⟨0, 0, 0, none, [], rfl, Nat.zero_le _, Nat.le_refl _, Lib.hid ⟨HQ.out, World.ownsRow_nil _ _ _ _⟩⟩
    case round =>
      obtain ⟨i, k, c, A, cs, rfl, hi, hki, hD⟩ := hrel
      clear d0 d1 d2 d3 d4 d5
      by_cases hlt : i < nm0
      · have hix : i < v.m.ext := by rw [← HNN.out]; exact hlt
        have hii : (i : Int) < (nm0 : Int) := by omega
        obtain ⟨eb, eo, eA, enl, ecl, eB, enm, ecm, hE0, eP, ebl, eK, eKl, f0, f1, f2, f3, f4, f5, r1, r2, s1, s2, hf⟩ := JSl.mb _ (JSl.blw HV.out.2.2.2.1 hD.out.1.1) (i := i) hix
        subst hE0
        have hbu := JT.bulk_val v.m i hix
        obtain ⟨eu, hev⟩ : ∃ eu, (v.m.fall i).val = eu := ⟨_, rfl⟩
        obtain ⟨ek, hek⟩ : ∃ ek, (v.m.fall i).key = ek := ⟨_, rfl⟩
        rw [hev] at f0 f1 f2 f3 r1 r2 s1 s2 hf hbu
        rw [hek] at eK eKl
        have HBU := Lib.hid (show eu.bulk ≤ 50000 by have := HBK.out; omega)
        have b5 : Below wr.heap.size wr (wr.alloc (.cells #[.string ⟨ek.toArray⟩, .int .i64 eu.kd, .bool eu.is, .int .i64 eu.n, .string ⟨eu.s.toArray⟩, .slice eA enl ecl, .slice eB enm ecm] 44)) := (Below.refl _ _).alloc (Nat.le_refl _) _
        have H5 := Lib.hid (show DSt w [.int .i64 v.kd, .bool v.is, .int .i64 v.n, .string ⟨v.s.toArray⟩, .slice A0 nl0 cl0, .slice (some ⟨eb, eo, none⟩) nm0 cm0] A k c cs (wr.alloc (.cells #[.string ⟨ek.toArray⟩, .int .i64 eu.kd, .bool eu.is, .int .i64 eu.n, .string ⟨eu.s.toArray⟩, .slice eA enl ecl, .slice eB enm ecm] 44)) ∧ Blk (wr.alloc (.cells #[.string ⟨ek.toArray⟩, .int .i64 eu.kd, .bool eu.is, .int .i64 eu.n, .string ⟨eu.s.toArray⟩, .slice eA enl ecl, .slice eB enm ecm] 44)) wr.heap.size 44 [.string ⟨ek.toArray⟩, .int .i64 eu.kd, .bool eu.is, .int .i64 eu.n, .string ⟨eu.s.toArray⟩, .slice eA enl ecl, .slice eB enm ecm] ∧ VOk (wr.alloc (.cells #[.string ⟨ek.toArray⟩, .int .i64 eu.kd, .bool eu.is, .int .i64 eu.n, .string ⟨eu.s.toArray⟩, .slice eA enl ecl, .slice eB enm ecm] 44)) eu eA eB enl ecl enm ecm from
          ⟨⟨hD.out.1.later b5, ownsRow_below hD.out.2 b5⟩, Blk.new _ _ _, VOk.below (v := eu) ⟨r1, r2, s1.stay (fun _ _ _ => rfl) (fun b hb => Nat.lt_of_lt_of_le hb hD.out.1.1.size), s2.stay (fun _ _ _ => rfl) (fun b hb => Nat.lt_of_lt_of_le hb hD.out.1.1.size), hf⟩ b5⟩)
        clear eP ebl eKl r1 r2 s1 s2 hf hbu hev hek b5 hix hlt hD
        go_upto_region 7 with fail
        refine wp_gen (fun W => DSt w [.int .i64 v.kd, .bool v.is, .int .i64 v.n, .string ⟨v.s.toArray⟩, .slice A0 nl0 cl0, .slice (some ⟨eb, eo, none⟩) nm0 cm0] A k c cs W ∧ Blk W wr.heap.size 44 [.string ⟨ek.toArray⟩, .int .i64 eu.kd, .bool eu.is, .int .i64 eu.n, .string ⟨eu.s.toArray⟩, .slice eA enl ecl, .slice eB enm ecm] ∧ VOk W eu eA eB enl ecl enm ecm) H5.out ?_
        clear H5 eK f0 f1 f2 f3 f4 f5
        rintro W5 h5
        have H5 := Lib.hid h5
        have m0 := h5.2.1.cell (k := 0) rfl
        clear h5
        have hwi : IntKind.i64.wrap ((i : Int) + 1) = (i : Int) + 1 := IntWalk.i64_in _ (by omega)
        by_cases hk : ek = key
        · have q2 : (ek == key) = true := by simpa using hk
          have q3 : (ek != key) = false := by simp [hk]
          go_wp2_with fail
          exact ⟨⟨i + 1, k, c, A, cs, by push_cast; rfl, by omega, by omega, Lib.hid H5.out.1⟩, by simp [intOf]; omega⟩
        · have q2 : (ek == key) = false := by simpa using hk
          have q3 : (ek != key) = true := by rw [bne_iff_ne]; exact hk
          have HFR := Lib.hid (fun W (hb : Below W5.heap.size W5 W) => fresh_calls eu eA eB enl ecl enm ecm W (H5.out.2.2.below hb) HBU.out)
          have o5 := H5.out.1.1.2.2.2.cell (k := 5) rfl
          have HL2 := Lib.hid H5.out.1.1.2.2.2.lt
          have HLM := Lib.hid H5.out.2.1.lt
          have HRB : W5.rangeAt wr.heap.size 1 [.int .i64 eu.kd, .bool eu.is, .int .i64 eu.n, .string ⟨eu.s.toArray⟩, .slice eA enl ecl, .slice eB enm ecm] := fun j x hj => by rw [Nat.add_comm]; exact H5.out.2.1.cell (k := j + 1) hj
          clear hk
          go_upto_region 8 with fail
          apply wp_region_lkt 9 (by kernel_rfl) (by kernel_rfl)
          simp only [List.take_succ_cons, List.take_zero, List.drop_succ_cons, List.drop_zero]
          apply lk_pure _ rfl (by intro W; go_simp; rfl)
          simp only [Act.put, List.setIfInBounds_toArray, List.set_cons_succ, List.set_cons_zero]
          apply lk_cell (.slice A k c) (w.heap.size + 2) 5 o5 HL2.out rfl (by intro W hW; go_simp)
          simp only [Act.put, List.setIfInBounds_toArray, List.set_cons_succ, List.set_cons_zero]
          apply lk_pure _ rfl (by intro W; go_simp; rfl)
          simp only [Act.put, List.setIfInBounds_toArray, List.set_cons_succ, List.set_cons_zero]
          apply lk_cell (.string ⟨ek.toArray⟩) wr.heap.size 0 m0 HLM.out rfl (by intro W hW; go_simp)
          simp only [Act.put, List.setIfInBounds_toArray, List.set_cons_succ, List.set_cons_zero]
          apply lk_pure _ rfl (by intro W; go_simp; rfl)
          simp only [Act.put, List.setIfInBounds_toArray, List.set_cons_succ, List.set_cons_zero]
          apply lk_load 25 (.tmp 28) rfl wr.heap.size 1 _ _ HRB HLM.out Tryz.underlying25 rfl size_v6 rfl rfl
          simp only [Act.put, List.setIfInBounds_toArray, List.set_cons_succ, List.set_cons_zero]
          apply lk_call (cpF eu) 34 #[.agg #[.int .i64 eu.kd, .bool eu.is, .int .i64 eu.n, .string ⟨eu.s.toArray⟩, .slice eA enl ecl, .slice eB enm ecm]] rfl (by intro W; first | (go_simp; done) | (go_simp; exact ⟨rfl, rfl⟩)) (fun W hb => (HFR.out W hb).mono (fun e W' ⟨⟨A, B, nl, cl, nm, cm, he, _⟩, hb2⟩ => ⟨_, he, ⟨A, B, nl, cl, nm, cm, rfl⟩, trivial, hb2⟩))
          rintro _ ⟨fA, fB, fnl, fcl, fnm, fcm, rfl⟩
          simp only [Act.put, List.setIfInBounds_toArray, List.set_cons_succ, List.set_cons_zero]
          apply lk_step (F := cpM ek eu) rfl ⟨⟨_, none, none, 0, 0, 0, 0, rfl⟩, fun W hW => by unfold lkAt; go_simp; exact ⟨⟨_, _, _, _, _, _, rfl⟩, trivial, Below.refl _ _⟩⟩
          rintro _ ⟨gA, gB, gnl, gcl, gnm, gcm, rfl⟩
          simp only [Act.put, List.setIfInBounds_toArray, List.set_cons_succ, List.set_cons_zero]
          apply lk_step (F := cpS ek eu) rfl ⟨⟨_, 0, rfl⟩, fun W hW => by unfold lkAt; go_simp; exact ⟨⟨_, rfl⟩, ⟨_, gA, gB, gnl, gcl, gnm, gcm, rfl, Blk.new _ _ _⟩, (Below.refl _ _).alloc (Nat.le_refl _) _⟩⟩
          rintro _ ⟨b7, rfl⟩
          simp only [Act.put, List.setIfInBounds_toArray, List.set_cons_succ, List.set_cons_zero]
          refine lk_nil (Fs := []) ?_
          intro W7 hb7 hz
          obtain ⟨b8, hA, hB, hnl, hcl, hnm, hcm, e8, hB8⟩ := hz.2
          injection e8 with e8
          injection e8 with e8
          injection e8 with e8
          subst e8
          have hown := ownsRow_below H5.out.1.2 hb7
          have H7 := Lib.hid (H5.out.1.1.later hb7)
          have hsz7 : w.heap.size + 3 ≤ W7.heap.size := H7.out.2.2.2.lt
          clear hz HRB o5 m0
          refine wpList_append_c7B rfl (.tmp 25) (.tmp 32) rfl (w.heap.size + 3) (.slice A k c) k cs rfl hown (mbC ek eu hA hB hnl hcl hnm hcm) b7 hB8 rfl (by intro u hu; simp only [mbC, List.mem_cons, List.not_mem_nil, or_false] at hu; rcases hu with rfl | rfl | rfl | rfl | rfl | rfl | rfl <;> rfl) rfl (by omega) hsz7 ?_
          intro g9 c9 w9 h9 b9
          simp only [Act.put, List.setIfInBounds_toArray, List.set_cons_succ, List.set_cons_zero]
          have HQ9 := Lib.hid (H7.out.low b9)
          have HO9 := Lib.hid h9
          obtain ⟨o0, o1, o2, o3, o4, o5, p0, p1, p2, p3, p4, p5⟩ := cells6s HQ9.out.2.2.2
          clear h9 b9 hown hB8 hsz7
          go_wp2_with fail
          exact ⟨⟨i + 1, k + 1, c9, _, _, by push_cast; rfl, by omega, by omega, Lib.hid ⟨HQ9.out.setM _, ownsRow_set HO9.out (by omega)⟩⟩, by simp [intOf]; omega⟩
      · have hii : ¬ (i : Int) < (nm0 : Int) := by omega
        obtain ⟨A4, c4, e4, hwr⟩ := own_wri hD.out.2
        injection e4 with e1 e2 e3
        subst e1 e3
        have HW := Lib.hid hwr
        obtain ⟨o0, o1, o2, o3, o4, o5, p0, p1, p2, p3, p4, p5⟩ := cells6s hD.out.1.2.2.2
        obtain ⟨g0, g1, g2, g3, g4, g5, k0, k1, k2, k3, k4, k5⟩ := cells6s hD.out.1.2.2.1
        clear hwr hlt
        go_wp2_with fail
        exact bodyPost_ret (res_cell6 rfl _ ⟨w.heap.size + 1, 0, none⟩ _ _ rfl (Blk.load (blk6 hD.out.1.2.2.1) _ Tryz.underlying25 rfl size_v6)) rfl (Put9.mk3 rfl (by omega) hD.out.1 HW.out)
  · have q1 : (v.kd != 5) = true := by rw [bne_iff_ne]; exact h5
    clear h5
    obtain ⟨o0, o1, o2, o3, o4, o5, p0, p1, p2, p3, p4, p5⟩ := cells6s HQ.out.2.2.2
    obtain ⟨g0, g1, g2, g3, g4, g5, k0, k1, k2, k3, k4, k5⟩ := cells6s HQ.out.2.2.1
    go_wp2_with fail
    exact bodyPost_ret (res_cell6 rfl _ ⟨w.heap.size + 1, 0, none⟩ _ _ rfl (Blk.load (blk6 HQ.out.2.2.1) _ Tryz.underlying25 rfl size_v6)) rfl (Put9.mk3 rfl (by omega) HQ.out (.inl rfl))
end Go.Proofs.YtajkgcmopmpihaaGreatDoor
