/- Layer 14: it lives; the law PowerNull. -/
import Derived.Test.YtmfefeemkhncfaaDoorPwM
namespace Go.Proofs.YtmfefeemkhncfaaDoor
open Go.ChangeShapes Go.WideShapes Go.ChangeAt Go.RowKit Go.IntWalk
set_option linter.unusedVariables false
set_option maxRecDepth 100000

theorem al_1 : userF lvV [] [64, 97, 58, 120] = 100 := lv_user
theorem al_2 : userF lvV [64, 98, 58, 120] [64, 98, 58, 120] = 0 := by decide
theorem al_3 : sendF lvV [109] true = 50 := lv_send
theorem al_4 : sendF lvV [109] false = 0 := by decide
theorem al_5 : userF nullV [64, 99, 58, 120] [64, 99, 58, 120] = 100 := by decide
theorem nu_ris : risV nullV = true := by decide
set_option maxHeartbeats 4000000 in
theorem alive_calls (w : World) (hL : LonT w) : Calls Tryd.prog 21 #[] w fun e w' => e = .returned (.bool true) ∧ Below w.heap.size w w' := by
  have HL := Lib.hid hL
  have HB0 := Lib.hid (Below.refl w.heap.size w)
  clear hL
  go_enter Tryd.func21, Tryd.ntmps21
  go_wp2_with fail
  refine (levels_calls _).mono ?_
  rintro e w1 ⟨⟨A, B, nl, cl, nm, cm, rfl, hv⟩, b⟩
  have HB1 := Lib.hid (HB0.out.then_ b)
  have hc := user_calls lvV A B nl cl nm cm [] [64, 97, 58, 120] w1 hv lv_ris (HL.out.below HB1.out)
  rw [al_1] at hc
  clear b hv
  go_wp2_with fail
  refine hc.mono ?_
  rintro e w2 ⟨rfl, b⟩
  have HB2 := Lib.hid (HB1.out.then_ b)
  clear b hc
  go_wp2_with fail
  refine (levels_calls _).mono ?_
  rintro e w3 ⟨⟨A, B, nl, cl, nm, cm, rfl, hv⟩, b⟩
  have HB3 := Lib.hid (HB2.out.then_ b)
  have hc := user_calls lvV A B nl cl nm cm [64, 98, 58, 120] [64, 98, 58, 120] w3 hv lv_ris (HL.out.below HB3.out)
  rw [al_2] at hc
  clear b hv
  go_wp2_with fail
  refine hc.mono ?_
  rintro e w4 ⟨rfl, b⟩
  have HB4 := Lib.hid (HB3.out.then_ b)
  clear b hc
  go_wp2_with fail
  refine (levels_calls _).mono ?_
  rintro e w5 ⟨⟨A, B, nl, cl, nm, cm, rfl, hv⟩, b⟩
  have HB5 := Lib.hid (HB4.out.then_ b)
  have hc := send_calls lvV A B nl cl nm cm [109] true w5 hv lv_ris (HL.out.below HB5.out)
  rw [al_3] at hc
  clear b hv
  go_wp2_with fail
  refine hc.mono ?_
  rintro e w6 ⟨rfl, b⟩
  have HB6 := Lib.hid (HB5.out.then_ b)
  clear b hc
  go_wp2_with fail
  refine (levels_calls _).mono ?_
  rintro e w7 ⟨⟨A, B, nl, cl, nm, cm, rfl, hv⟩, b⟩
  have HB7 := Lib.hid (HB6.out.then_ b)
  have hc := send_calls lvV A B nl cl nm cm [109] false w7 hv lv_ris (HL.out.below HB7.out)
  rw [al_4] at hc
  clear b hv
  go_wp2_with fail
  refine hc.mono ?_
  rintro e w8 ⟨rfl, b⟩
  have HB8 := Lib.hid (HB7.out.then_ b)
  clear b hc
  have hc := user_calls nullV none none 0 0 0 0 [64, 99, 58, 120] [64, 99, 58, 120] _ (null_ok w8) nu_ris (HL.out.below HB8.out)
  rw [al_5] at hc
  go_wp2_with fail
  refine hc.mono ?_
  rintro e w9 ⟨rfl, b⟩
  have HB9 := Lib.hid (HB8.out.then_ b)
  clear b hc
  go_wp2_with fail
  go_ret
  exact ⟨rfl, HB9.out⟩
theorem nu_user (c u : List UInt8) : userF nullV c u = if u = c then 100 else 0 := rfl
theorem nu_send (k : List UInt8) (st : Bool) : sendF nullV k st = 0 := by cases st <;> rfl
theorem nu_ban : levelF nullV [98, 97, 110] = 50 := by decide
theorem nu_kick : levelF nullV [107, 105, 99, 107] = 50 := by decide
theorem nu_red : levelF nullV [114, 101, 100, 97, 99, 116] = 50 := by decide
theorem nu_inv : levelF nullV [105, 110, 118, 105, 116, 101] = 0 := by decide
theorem nu_chg (u : List UInt8) : changeF nullV nullV (-1) u = true := by
  rfl
/-- Both laid variables. -/
def LonTab (w : World) : Prop := LonT w ∧ TabT w
theorem LonTab.below {w w' : World} (h : LonTab w) (b : Below w.heap.size w w') : LonTab w' := ⟨h.1.below b, h.2.below b⟩
def tabD {H : Type} : DataW H := .slice (tabN.map fun s => .lit (.string s)) []
theorem gTab : Tryd.prog.globalNamed "hustings/power.tables" = some 1 := by kernel_rfl
theorem gTabT : (Tryd.prog.globals[1]?).map (·.type) = some 49 := by kernel_rfl
theorem tab_of_laid {W : World} (h : laidMet Tryd.prog [("hustings/power.tables", tabD)] W) : TabT W := by
  obtain ⟨ps, ⟨g', t', cs, fuel, p, q, hg', ht', hvar, hd, _, _⟩, _⟩ := h
  obtain rfl := Option.some.inj (gTab.symm.trans hg')
  obtain rfl := Option.some.inj (gTabT.symm.trans ht')
  have c1 : Tryd.prog.cellsOf 9 = 1 := by kernel_rfl
  rcases open_depth (enc := fun _ => ()) Tryd.underlying49 hd with ⟨_, hx⟩ | ⟨a, len, cap, n, D, rest, _, ec, hle, _, hx, hall⟩
  · unfold tabD at hx; cases hx
  · unfold tabD at hx
    injection hx with hx hrest
    rw [c1] at hall
    have hlen : len = 3 := by have := congrArg List.length hx; simp at this; rw [← this]; rfl
    subst hlen
    obtain ⟨b, off, spot⟩ := a
    have hel : ∀ k (hk : k < tabN.length), D k = .lit (.string tabN[k]) := fun k hk => by
      have h1 := congrArg (fun l => l[k]?) hx
      have hk7 : k < 3 := hk
      simp [hk, hk7] at h1
      exact h1.symm
    have hc0 : W.cell? ⟨1, 0, none⟩ = some (.slice (some ⟨b, off, spot⟩) 3 cap) := by
      have h1 := World.var?_cell gTab hvar 0
      rw [h1, ← Array.getElem?_toList, ec]; rfl
    have each : ∀ k (hk : k < tabN.length), W.cell? (((⟨b, off, spot⟩ : Addr).add (k * 1)).add 0) = some (.string ⟨(tabN[k]).toArray⟩) := fun k hk => by
      obtain ⟨cs', p', h1, h2⟩ := hall k hk
      rw [hel k hk] at h2
      obtain ⟨_, hlen', hc'⟩ := World.cells?_some h1
      obtain ⟨s0, e0, q0, _⟩ := DataW.trod_string Tryd.underlying9 h2
      injection q0 with q0; injection q0 with q0
      match cs', hlen' with
      | [z0], _ =>
        simp at e0
        rw [hc' 0 (by decide)]
        obtain ⟨l, rfl, _⟩ := str_split s0
        simp at q0
        rw [q0, ← e0]; rfl
    have hspot : spot = none := by
      have hv := each 0 (by decide)
      simpa [Addr.add] using World.cell?_spot hv
    subst hspot
    refine ⟨World.block_lt_of_cell? W _ hc0, b, off, cap, ?_, hc0, fun k hk => ?_⟩
    · have hv := each 0 (by decide)
      rw [add_plain2] at hv
      exact World.block_lt_of_cell? W _ hv
    · have hv := each k hk
      rw [add_plain2] at hv
      simpa using hv
set_option maxHeartbeats 8000000 in
theorem null_walk (c u k : List UInt8) (st : Bool) (w : World) (hT : LonTab w) :
    Calls Tryd.prog 10 #[.string ⟨c.toArray⟩, .string ⟨u.toArray⟩, .string ⟨k.toArray⟩, .bool st] w fun e w' => e = .returned (.bool true) ∧ Below w.heap.size w w' := by
  have HLL := Lib.hid hT
  obtain ⟨sc, hsc⟩ : ∃ sn, c.length = sn := ⟨_, rfl⟩
  have hs1 : (⟨c.toArray⟩ : ByteArray).size = sc := hsc
  obtain ⟨su, hsu⟩ : ∃ sn, u.length = sn := ⟨_, rfl⟩
  have hs2 : (⟨u.toArray⟩ : ByteArray).size = su := hsu
  obtain ⟨sk, hsk⟩ : ∃ sn, k.length = sn := ⟨_, rfl⟩
  have hs3 : (⟨k.toArray⟩ : ByteArray).size = sk := hsk
  clear hT hsc hsu hsk
  go_enter Tryd.func10, Tryd.ntmps10
  go_wp2_with fail
  refine (alive_calls w HLL.out.1).mono ?_
  rintro e w1 ⟨rfl, b1⟩
  have HB1 := Lib.hid b1
  clear b1
  by_cases h1 : 1024 < sc
  · have t1 : decide ((1024 : Int) < (sc : Int)) = true := by simp; omega
    go_wp2_with fail
    go_ret
    exact ⟨rfl, HB1.out⟩
  have t1 : decide ((1024 : Int) < (sc : Int)) = false := by simp; omega
  by_cases h2 : 1024 < su
  · have t2 : decide ((1024 : Int) < (su : Int)) = true := by simp; omega
    go_wp2_with fail
    go_ret
    exact ⟨rfl, HB1.out⟩
  have t2 : decide ((1024 : Int) < (su : Int)) = false := by simp; omega
  by_cases h3 : 1024 < sk
  · have t3 : decide ((1024 : Int) < (sk : Int)) = true := by simp; omega
    go_wp2_with fail
    go_ret
    exact ⟨rfl, HB1.out⟩
  have t3 : decide ((1024 : Int) < (sk : Int)) = false := by simp; omega
  have hb2 : Below w1.heap.size w1 (w1.alloc (.cells #[.int .i64 0, .bool false, .int .i64 0, .string ⟨#[]⟩, .slice none 0 0, .slice none 0 0] 25)) := (Below.refl _ _).alloc (Nat.le_refl _) _
  have HB2 := Lib.hid (HB1.out.then_ hb2)
  have HN2 := Lib.hid (Blk.new w1 [.int .i64 0, .bool false, .int .i64 0, .string ⟨#[]⟩, .slice none 0 0, .slice none 0 0] 25)
  clear hb2 h1 h2 h3
  cases hcu : (u == c) with
  | true =>
    have HNU := Lib.hid (show userF nullV c u = 100 by rw [nu_user, if_pos (by simpa using hcu)])
    have hc := user_calls nullV none none 0 0 0 0 c u _ (null_ok _) nu_ris (HLL.out.1.below HB2.out)
    rw [HNU.out] at hc
    have hx := HN2.out
    have d0 := hx.cell (k := 0) rfl; have d1 := hx.cell (k := 1) rfl; have d2 := hx.cell (k := 2) rfl; have d3 := hx.cell (k := 3) rfl; have d4 := hx.cell (k := 4) rfl; have d5 := hx.cell (k := 5) rfl
    clear hx
    go_wp2_with fail
    refine hc.mono ?_
    rintro e w3 ⟨rfl, b⟩
    have HB3 := Lib.hid (HB2.out.then_ b)
    have HN3 := Lib.hid (HN2.out.later b)
    clear b hc d0 d1 d2 d3 d4 d5
    have hc := send_calls nullV none none 0 0 0 0 k st _ (null_ok _) nu_ris (HLL.out.1.below HB3.out)
    rw [nu_send] at hc
    have hx := HN3.out
    have d0 := hx.cell (k := 0) rfl; have d1 := hx.cell (k := 1) rfl; have d2 := hx.cell (k := 2) rfl; have d3 := hx.cell (k := 3) rfl; have d4 := hx.cell (k := 4) rfl; have d5 := hx.cell (k := 5) rfl
    clear hx
    go_wp2_with fail
    refine hc.mono ?_
    rintro e w4 ⟨rfl, b⟩
    have HB4 := Lib.hid (HB3.out.then_ b)
    have HN4 := Lib.hid (HN3.out.later b)
    clear b hc d0 d1 d2 d3 d4 d5
    have hc := level_calls nullV none none 0 0 0 0 [98, 97, 110] _ (null_ok _) null_rise (HLL.out.1.below HB4.out)
    rw [nu_ban] at hc
    have hx := HN4.out
    have d0 := hx.cell (k := 0) rfl; have d1 := hx.cell (k := 1) rfl; have d2 := hx.cell (k := 2) rfl; have d3 := hx.cell (k := 3) rfl; have d4 := hx.cell (k := 4) rfl; have d5 := hx.cell (k := 5) rfl
    clear hx
    go_wp2_with fail
    refine hc.mono ?_
    rintro e w5 ⟨rfl, b⟩
    have HB5 := Lib.hid (HB4.out.then_ b)
    have HN5 := Lib.hid (HN4.out.later b)
    clear b hc d0 d1 d2 d3 d4 d5
    have hc := level_calls nullV none none 0 0 0 0 [107, 105, 99, 107] _ (null_ok _) null_rise (HLL.out.1.below HB5.out)
    rw [nu_kick] at hc
    have hx := HN5.out
    have d0 := hx.cell (k := 0) rfl; have d1 := hx.cell (k := 1) rfl; have d2 := hx.cell (k := 2) rfl; have d3 := hx.cell (k := 3) rfl; have d4 := hx.cell (k := 4) rfl; have d5 := hx.cell (k := 5) rfl
    clear hx
    go_wp2_with fail
    refine hc.mono ?_
    rintro e w6 ⟨rfl, b⟩
    have HB6 := Lib.hid (HB5.out.then_ b)
    have HN6 := Lib.hid (HN5.out.later b)
    clear b hc d0 d1 d2 d3 d4 d5
    have hc := level_calls nullV none none 0 0 0 0 [114, 101, 100, 97, 99, 116] _ (null_ok _) null_rise (HLL.out.1.below HB6.out)
    rw [nu_red] at hc
    have hx := HN6.out
    have d0 := hx.cell (k := 0) rfl; have d1 := hx.cell (k := 1) rfl; have d2 := hx.cell (k := 2) rfl; have d3 := hx.cell (k := 3) rfl; have d4 := hx.cell (k := 4) rfl; have d5 := hx.cell (k := 5) rfl
    clear hx
    go_wp2_with fail
    refine hc.mono ?_
    rintro e w7 ⟨rfl, b⟩
    have HB7 := Lib.hid (HB6.out.then_ b)
    have HN7 := Lib.hid (HN6.out.later b)
    clear b hc d0 d1 d2 d3 d4 d5
    have hc := level_calls nullV none none 0 0 0 0 [105, 110, 118, 105, 116, 101] _ (null_ok _) null_rise (HLL.out.1.below HB7.out)
    rw [nu_inv] at hc
    have hx := HN7.out
    have d0 := hx.cell (k := 0) rfl; have d1 := hx.cell (k := 1) rfl; have d2 := hx.cell (k := 2) rfl; have d3 := hx.cell (k := 3) rfl; have d4 := hx.cell (k := 4) rfl; have d5 := hx.cell (k := 5) rfl
    clear hx
    go_wp2_with fail
    refine hc.mono ?_
    rintro e w8 ⟨rfl, b⟩
    have HB8 := Lib.hid (HB7.out.then_ b)
    have HN8 := Lib.hid (HN7.out.later b)
    clear b hc d0 d1 d2 d3 d4 d5
    have hc := change_calls nullV nullV none none none none 0 0 0 0 0 0 0 0 u (-1) _ (null_ok _) (null_ok _) nu_ris nu_ris (HLL.out.1.below HB8.out) (HLL.out.2.below HB8.out)
    rw [nu_chg] at hc
    have hx := HN8.out
    have d0 := hx.cell (k := 0) rfl; have d1 := hx.cell (k := 1) rfl; have d2 := hx.cell (k := 2) rfl; have d3 := hx.cell (k := 3) rfl; have d4 := hx.cell (k := 4) rfl; have d5 := hx.cell (k := 5) rfl
    clear hx
    go_wp2_with fail
    refine hc.mono ?_
    rintro e w9 ⟨rfl, b⟩
    have HB9 := Lib.hid (HB8.out.then_ b)
    have HN9 := Lib.hid (HN8.out.later b)
    clear b hc d0 d1 d2 d3 d4 d5
    go_wp2_with fail
    go_ret
    exact ⟨rfl, HB9.out⟩
  | false =>
    have HNU := Lib.hid (show userF nullV c u = 0 by rw [nu_user, if_neg (by simpa using hcu)])
    have hc := user_calls nullV none none 0 0 0 0 c u _ (null_ok _) nu_ris (HLL.out.1.below HB2.out)
    rw [HNU.out] at hc
    have hx := HN2.out
    have d0 := hx.cell (k := 0) rfl; have d1 := hx.cell (k := 1) rfl; have d2 := hx.cell (k := 2) rfl; have d3 := hx.cell (k := 3) rfl; have d4 := hx.cell (k := 4) rfl; have d5 := hx.cell (k := 5) rfl
    clear hx
    go_wp2_with fail
    refine hc.mono ?_
    rintro e w3 ⟨rfl, b⟩
    have HB3 := Lib.hid (HB2.out.then_ b)
    have HN3 := Lib.hid (HN2.out.later b)
    clear b hc d0 d1 d2 d3 d4 d5
    have hc := send_calls nullV none none 0 0 0 0 k st _ (null_ok _) nu_ris (HLL.out.1.below HB3.out)
    rw [nu_send] at hc
    have hx := HN3.out
    have d0 := hx.cell (k := 0) rfl; have d1 := hx.cell (k := 1) rfl; have d2 := hx.cell (k := 2) rfl; have d3 := hx.cell (k := 3) rfl; have d4 := hx.cell (k := 4) rfl; have d5 := hx.cell (k := 5) rfl
    clear hx
    go_wp2_with fail
    refine hc.mono ?_
    rintro e w4 ⟨rfl, b⟩
    have HB4 := Lib.hid (HB3.out.then_ b)
    have HN4 := Lib.hid (HN3.out.later b)
    clear b hc d0 d1 d2 d3 d4 d5
    have hc := level_calls nullV none none 0 0 0 0 [98, 97, 110] _ (null_ok _) null_rise (HLL.out.1.below HB4.out)
    rw [nu_ban] at hc
    have hx := HN4.out
    have d0 := hx.cell (k := 0) rfl; have d1 := hx.cell (k := 1) rfl; have d2 := hx.cell (k := 2) rfl; have d3 := hx.cell (k := 3) rfl; have d4 := hx.cell (k := 4) rfl; have d5 := hx.cell (k := 5) rfl
    clear hx
    go_wp2_with fail
    refine hc.mono ?_
    rintro e w5 ⟨rfl, b⟩
    have HB5 := Lib.hid (HB4.out.then_ b)
    have HN5 := Lib.hid (HN4.out.later b)
    clear b hc d0 d1 d2 d3 d4 d5
    have hc := level_calls nullV none none 0 0 0 0 [107, 105, 99, 107] _ (null_ok _) null_rise (HLL.out.1.below HB5.out)
    rw [nu_kick] at hc
    have hx := HN5.out
    have d0 := hx.cell (k := 0) rfl; have d1 := hx.cell (k := 1) rfl; have d2 := hx.cell (k := 2) rfl; have d3 := hx.cell (k := 3) rfl; have d4 := hx.cell (k := 4) rfl; have d5 := hx.cell (k := 5) rfl
    clear hx
    go_wp2_with fail
    refine hc.mono ?_
    rintro e w6 ⟨rfl, b⟩
    have HB6 := Lib.hid (HB5.out.then_ b)
    have HN6 := Lib.hid (HN5.out.later b)
    clear b hc d0 d1 d2 d3 d4 d5
    have hc := level_calls nullV none none 0 0 0 0 [114, 101, 100, 97, 99, 116] _ (null_ok _) null_rise (HLL.out.1.below HB6.out)
    rw [nu_red] at hc
    have hx := HN6.out
    have d0 := hx.cell (k := 0) rfl; have d1 := hx.cell (k := 1) rfl; have d2 := hx.cell (k := 2) rfl; have d3 := hx.cell (k := 3) rfl; have d4 := hx.cell (k := 4) rfl; have d5 := hx.cell (k := 5) rfl
    clear hx
    go_wp2_with fail
    refine hc.mono ?_
    rintro e w7 ⟨rfl, b⟩
    have HB7 := Lib.hid (HB6.out.then_ b)
    have HN7 := Lib.hid (HN6.out.later b)
    clear b hc d0 d1 d2 d3 d4 d5
    have hc := level_calls nullV none none 0 0 0 0 [105, 110, 118, 105, 116, 101] _ (null_ok _) null_rise (HLL.out.1.below HB7.out)
    rw [nu_inv] at hc
    have hx := HN7.out
    have d0 := hx.cell (k := 0) rfl; have d1 := hx.cell (k := 1) rfl; have d2 := hx.cell (k := 2) rfl; have d3 := hx.cell (k := 3) rfl; have d4 := hx.cell (k := 4) rfl; have d5 := hx.cell (k := 5) rfl
    clear hx
    go_wp2_with fail
    refine hc.mono ?_
    rintro e w8 ⟨rfl, b⟩
    have HB8 := Lib.hid (HB7.out.then_ b)
    have HN8 := Lib.hid (HN7.out.later b)
    clear b hc d0 d1 d2 d3 d4 d5
    have hc := change_calls nullV nullV none none none none 0 0 0 0 0 0 0 0 u (-1) _ (null_ok _) (null_ok _) nu_ris nu_ris (HLL.out.1.below HB8.out) (HLL.out.2.below HB8.out)
    rw [nu_chg] at hc
    have hx := HN8.out
    have d0 := hx.cell (k := 0) rfl; have d1 := hx.cell (k := 1) rfl; have d2 := hx.cell (k := 2) rfl; have d3 := hx.cell (k := 3) rfl; have d4 := hx.cell (k := 4) rfl; have d5 := hx.cell (k := 5) rfl
    clear hx
    go_wp2_with fail
    refine hc.mono ?_
    rintro e w9 ⟨rfl, b⟩
    have HB9 := Lib.hid (HB8.out.then_ b)
    have HN9 := Lib.hid (HN8.out.later b)
    clear b hc d0 d1 d2 d3 d4 d5
    go_wp2_with fail
    go_ret
    exact ⟨rfl, HB9.out⟩
theorem powerNull_walk {w : World} (a0 : ByteArray) (w0 : a0.size ≤ maxLen) (a1 : ByteArray) (w1 : a1.size ≤ maxLen) (a2 : ByteArray) (w2 : a2.size ≤ maxLen) (a3 : Bool) (hT : LonTab w) :
    Calls Tryd.prog 10 #[.string a0, .string a1, .string a2, .bool a3] w fun e w' => e = .returned (.bool true) ∧ Below w.heap.size w w' := by
  obtain ⟨l0, rfl, _⟩ := str_split a0
  obtain ⟨l1, rfl, _⟩ := str_split a1
  obtain ⟨l2, rfl, _⟩ := str_split a2
  exact null_walk l0 l1 l2 a3 w hT
end Go.Proofs.YtmfefeemkhncfaaDoor
