/- Layer 14: the document's Find, Told, Level. -/
import Derived.Test.YtmfefeemkhncfaaDoorPwD
namespace Go.Proofs.YtmfefeemkhncfaaDoor
open Go.ChangeShapes Go.WideShapes Go.ChangeAt Go.RowKit Go.IntWalk
set_option linter.unusedVariables false

theorem findV_step (t : JT) (i : Nat) (key : List UInt8) (h : i < t.ext) : (t.fall i).findV key = if (t.fall i).key = key then some (t.fall i).val else (t.fall (i + 1)).findV key := by
  conv => lhs; rw [t.fall_of_lt i h]
  rfl
theorem findV_end (t : JT) (key : List UInt8) : (t.fall t.ext).findV key = none := by rw [JT.fall_all t _ (Nat.le_refl _)]; rfl
/-- A value whose parts lie below base. -/
def VOkB (base : Nat) (w : World) (v : Jv) (A B : Option Addr) (nl cl nm cm : Nat) : Prop := Room nl cl v.l.ext ∧ Room nm cm v.m.ext ∧ JSl (· < base) w false A v.l ∧ JSl (· < base) w true B v.m ∧ Fit v.kd v.n v.s
theorem VOkB.blw {base : Nat} {w w' : World} {v : Jv} {A B : Option Addr} {nl cl nm cm : Nat} (h : VOkB base w v A B nl cl nm cm) (b : Below base w w') : VOkB base w' v A B nl cl nm cm := ⟨h.1, h.2.1, h.2.2.1.blw b, h.2.2.2.1.blw b, h.2.2.2.2⟩
theorem VOkB.ok {base : Nat} {w : World} {v : Jv} {A B : Option Addr} {nl cl nm cm : Nat} (h : VOkB base w v A B nl cl nm cm) (hb : base ≤ w.heap.size) : VOk w v A B nl cl nm cm :=
  ⟨h.1, h.2.1, h.2.2.1.stay (fun _ _ _ => rfl) (fun x hx => Nat.lt_of_lt_of_le hx hb), h.2.2.2.1.stay (fun _ _ _ => rfl) (fun x hx => Nat.lt_of_lt_of_le hx hb), h.2.2.2.2⟩
theorem nullB_ok (base : Nat) (w : World) : VOkB base w nullV none none 0 0 0 0 := ⟨⟨rfl, Nat.le_refl _, by decide⟩, ⟨rfl, Nat.le_refl _, by decide⟩, .inl rfl, .inl rfl, by unfold Fit nullV; decide⟩
/-- What Find answers. -/
def FRes (base : Nat) (o : Option Jv) (w : World) (e : Ending) (w' : World) : Prop :=
  (∃ (A B : Option Addr) (nl cl nm cm : Nat), e = .returned (.tuple #[.agg #[.int .i64 (o.getD nullV).kd, .bool (o.getD nullV).is, .int .i64 (o.getD nullV).n, .string ⟨(o.getD nullV).s.toArray⟩, .slice A nl cl, .slice B nm cm], .bool o.isSome]) ∧ VOkB base w' (o.getD nullV) A B nl cl nm cm) ∧ Below w.heap.size w w'
theorem res_cell2 {fn : Func} {p q : Tmp} {ty : TypeId} (h : fn.results = #[.cell p ty, .tmp q]) (tmps : Array Value) (a : Addr) (v u : Value) (W : World) (hp : tmps.getD p undef = .pointer (some a)) (hq : tmps.getD q undef = u) (hld : (loadVar ty a).run Tryd.prog W = .ok v W) : (results fn tmps).run Tryd.prog W = .ok (.tuple #[v, u]) W := by
  simp only [Array.getD_eq_getD_getElem?] at hp hq
  subst hq
  simp [results, h, hp, asAddr, hld]
set_option maxHeartbeats 4000000 in
theorem reffind_calls (base : Nat) (t : JT) (A : Option Addr) (n c : Nat) (key : List UInt8) (w : World) (hn : Room n c t.ext) (hBs : base ≤ w.heap.size) (hs : JSl (· < base) w true A t) :
    Calls Tryd.prog 43 #[.slice A n c, .string ⟨key.toArray⟩] w (FRes base (t.findV key) w) := by
  obtain ⟨hn, hnc, hc47⟩ := hn
  obtain ⟨R, hR⟩ : ∃ R, t.findV key = R := ⟨_, rfl⟩
  have HS := Lib.hid hs
  have HNX := Lib.hid hn
  have HR0 := Lib.hid (show R = (t.fall 0).findV key by rw [JT.fall_zero, hR])
  rw [hR]
  clear hs hn hR
  go_enter Tryd.func43, Tryd.ntmps43
  go_wp2_with fail
  have hz := Blk.new w [.int .i64 0, .bool false, .int .i64 0, .string ⟨#[]⟩, .slice none 0 0, .slice none 0 0] 25
  have HB0 := Lib.hid ((Below.refl w.heap.size w).alloc (Nat.le_refl _) (.cells #[.int .i64 0, .bool false, .int .i64 0, .string ⟨#[]⟩, .slice none 0 0, .slice none 0 0] 25))
  go_loopw [10] (fun i wr => ∃ k : Nat, k ≤ n ∧ i = .int .i64 (k : Int) ∧ Hid (Below w.heap.size w wr) ∧ Hid (Blk wr w.heap.size 25 [.int .i64 0, .bool false, .int .i64 0, .string ⟨#[]⟩, .slice none 0 0, .slice none 0 0]) ∧ Hid (R = (t.fall k).findV key)) (fun i _ => n - (intOf i).toNat)
  case atStart => exact ⟨0, by omega, rfl, HB0, Lib.hid hz, HR0⟩
  case round =>
    obtain ⟨k, hk, rfl, hB, hZ, hF⟩ := hrel
    clear hz
    by_cases hlt : k < n
    · have hkx : k < t.ext := by rw [← HNX.out]; exact hlt
      obtain ⟨eb, eo, eA, enl, ecl, eB, enm, ecm, rfl, eP, ebl, eK, eKl, f0, f1, f2, f3, f4, f5, r1, r2, s1, s2, hf⟩ := (HS.out.blw (hB.out.mono hBs)).mb (i := k) _ hkx
      obtain ⟨eu, hev⟩ : ∃ eu, (t.fall k).val = eu := ⟨_, rfl⟩
      obtain ⟨ek, hek⟩ : ∃ ek, (t.fall k).key = ek := ⟨_, rfl⟩
      have HF2 := Lib.hid (show R = if ek = key then some eu else (t.fall (k + 1)).findV key by rw [hF.out, findV_step t k key hkx, hek, hev])
      rw [hev] at f0 f1 f2 f3 r1 r2 s1 s2 hf
      rw [hek] at eK
      have HV := Lib.hid (And.intro r1 (And.intro r2 (And.intro s1 (And.intro s2 hf))))
      have hz2 := hZ.out.alloc (.cells #[.string ⟨ek.toArray⟩, .int .i64 eu.kd, .bool eu.is, .int .i64 eu.n, .string ⟨eu.s.toArray⟩, .slice eA enl ecl, .slice eB enm ecm] 44)
      have HZ2 := Lib.hid hz2
      have HB2 := Lib.hid (hB.out.alloc hB.out.size (.cells #[.string ⟨ek.toArray⟩, .int .i64 eu.kd, .bool eu.is, .int .i64 eu.n, .string ⟨eu.s.toArray⟩, .slice eA enl ecl, .slice eB enm ecm] 44))
      clear eP eKl r1 r2 s1 s2 hf hev hek hkx
      by_cases hkk : ek = key
      · have ht : (ek == key) = true := by simpa using hkk
        have HF3 := Lib.hid (show R = some eu by rw [HF2.out, if_pos hkk])
        obtain ⟨c0, c1, c2, c3, c4, c5, g0, g1, g2, g3, g4, g5⟩ := cells6 hz2
        clear hkk hz2
        go_wp2_with fail
        have HB6 := Lib.hid (show Below w.heap.size wr (wr.alloc (.cells #[.string ⟨ek.toArray⟩, .int .i64 eu.kd, .bool eu.is, .int .i64 eu.n, .string ⟨eu.s.toArray⟩, .slice eA enl ecl, .slice eB enm ecm] 44)) from (Below.refl _ _).alloc hB.out.size _)
        rw [HF3.out]
        exact bodyPost_ret (res_cell2 rfl _ ⟨w.heap.size, 0, none⟩ _ (.bool true) _ rfl rfl (Blk.load (blk6 HZ2.out) _ Tryd.underlying25 rfl size_val)) rfl ⟨⟨eA, eB, enl, ecl, enm, ecm, rfl, VOkB.blw ⟨HV.out.1, HV.out.2.1, HV.out.2.2.1, HV.out.2.2.2.1, HV.out.2.2.2.2⟩ ((below6 HB6.out (Nat.le_refl _)).mono hBs)⟩, below6 HB2.out (Nat.le_refl _)⟩
      · have ht : (ek == key) = false := by simpa using hkk
        have HF3 := Lib.hid (show R = (t.fall (k + 1)).findV key by rw [HF2.out, if_neg hkk])
        clear hkk hz2
        go_wp2_with fail
        go_roundw
        case rel => exact ⟨k + 1, by omega, by go_num, HB2, HZ2, HF3⟩
        case measure => simp [intOf]; omega
    · obtain rfl : k = n := by omega
      have HF3 := Lib.hid (show R = none by rw [hF.out, HNX.out, findV_end])
      obtain ⟨c0, c1, c2, c3, c4, c5, g0, g1, g2, g3, g4, g5⟩ := cells6 hZ.out
      go_wp2_with fail
      rw [HF3.out]
      exact bodyPost_ret (res_cell2 rfl _ ⟨w.heap.size, 0, none⟩ _ (.bool false) _ rfl rfl (Blk.load (blk6 hZ.out) _ Tryd.underlying25 rfl size_val)) rfl ⟨⟨none, none, 0, 0, 0, 0, rfl, nullB_ok _ _⟩, below6 hB.out (Nat.le_refl _)⟩
set_option maxHeartbeats 4000000 in
theorem reftold_calls (v : Jv) (A B : Option Addr) (nl cl nm cm : Nat) (key : List UInt8) (w : World) (hv : VOk w v A B nl cl nm cm) :
    Calls Tryd.prog 24 #[.agg #[.int .i64 v.kd, .bool v.is, .int .i64 v.n, .string ⟨v.s.toArray⟩, .slice A nl cl, .slice B nm cm], .string ⟨key.toArray⟩] w fun e w' => e = .returned (.tuple #[.int .i64 ((toldF v key).getD 0), .bool (toldF v key).isSome]) ∧ Below w.heap.size w w' := by
  have hb1 : Below w.heap.size w (w.alloc (.cells #[.int .i64 v.kd, .bool v.is, .int .i64 v.n, .string ⟨v.s.toArray⟩, .slice A nl cl, .slice B nm cm] 25)) := (Below.refl _ _).alloc (Nat.le_refl _) _
  have HB := Lib.hid hb1
  by_cases h5 : v.kd = 5
  · have hk : (v.kd != 5) = false := by rw [h5]; rfl
    have hm := reffind_calls _ v.m B nm cm key _ hv.2.1 (Nat.le_refl _) (hv.2.2.2.1.up hb1)
    obtain ⟨o, ho⟩ : ∃ o, v.m.findV key = o := ⟨_, rfl⟩
    rw [ho] at hm
    have HT := Lib.hid (show toldF v key = if (o.getD nullV).kd = 2 then some (o.getD nullV).n else none by unfold toldF memF; rw [if_pos h5, ho])
    clear hb1 hv ho h5
    cases o with
    | none =>
      go_enter Tryd.func24, Tryd.ntmps24
      go_wp2_with fail
      refine hm.mono ?_
      rintro e w1 ⟨⟨A1, B1, nl1, cl1, nm1, cm1, rfl, hv1⟩, b1⟩
      have HB1 := Lib.hid (HB.out.then_ b1)
      clear b1 hm hv1
      go_wp2_with fail
      go_ret2
      rw [HT.out]
      exact ⟨rfl, HB1.out.alloc HB1.out.size _⟩
    | some mv =>
      by_cases h2 : mv.kd = 2
      · have hk2 : (mv.kd != 2) = false := by rw [h2]; rfl
        have HT2 := Lib.hid (show toldF v key = some mv.n by rw [HT.out]; exact if_pos h2)
        clear h2
        go_enter Tryd.func24, Tryd.ntmps24
        go_wp2_with fail
        refine hm.mono ?_
        rintro e w1 ⟨⟨A1, B1, nl1, cl1, nm1, cm1, rfl, hv1⟩, b1⟩
        have HB1 := Lib.hid (HB.out.then_ b1)
        clear b1 hm hv1
        go_wp2_with fail
        go_ret2
        rw [HT2.out]
        exact ⟨rfl, HB1.out.alloc HB1.out.size _⟩
      · have hk2 : (mv.kd != 2) = true := by rw [bne_iff_ne]; exact h2
        have HT2 := Lib.hid (show toldF v key = none by rw [HT.out]; exact if_neg h2)
        clear h2
        go_enter Tryd.func24, Tryd.ntmps24
        go_wp2_with fail
        refine hm.mono ?_
        rintro e w1 ⟨⟨A1, B1, nl1, cl1, nm1, cm1, rfl, hv1⟩, b1⟩
        have HB1 := Lib.hid (HB.out.then_ b1)
        clear b1 hm hv1
        go_wp2_with fail
        go_ret2
        rw [HT2.out]
        exact ⟨rfl, HB1.out.alloc HB1.out.size _⟩
  · have hk : (v.kd != 5) = true := by rw [bne_iff_ne]; exact h5
    have HT := Lib.hid (show toldF v key = none by unfold toldF; rw [memF_no h5]; rfl)
    clear hb1 hv h5
    go_enter Tryd.func24, Tryd.ntmps24
    go_wp2_with fail
    go_ret2
    rw [HT.out]
    exact ⟨rfl, HB.out⟩
/-- What a level is if it isn't told. -/
theorem refelse_calls (name : List UInt8) (w : World) : Calls Tryd.prog 38 #[.string ⟨name.toArray⟩] w fun e w' => e = .returned (.int .i64 (startF name)) ∧ w = w' := by
  by_cases h1 : name = [98, 97, 110]
  · subst h1
    go_enter Tryd.func38, Tryd.ntmps38
    go_wp2_with fail
    go_ret
    exact ⟨rfl, rfl⟩
  by_cases h2 : name = [107, 105, 99, 107]
  · subst h2
    go_enter Tryd.func38, Tryd.ntmps38
    go_wp2_with fail
    go_ret
    exact ⟨rfl, rfl⟩
  by_cases h3 : name = [114, 101, 100, 97, 99, 116]
  · subst h3
    go_enter Tryd.func38, Tryd.ntmps38
    go_wp2_with fail
    go_ret
    exact ⟨rfl, rfl⟩
  by_cases h4 : name = [115, 116, 97, 116, 101, 95, 100, 101, 102, 97, 117, 108, 116]
  · subst h4
    go_enter Tryd.func38, Tryd.ntmps38
    go_wp2_with fail
    go_ret
    exact ⟨rfl, rfl⟩
  have HS := Lib.hid (show startF name = 0 by unfold startF; rw [if_neg]; rintro (e | e | e | e); exact h1 e; exact h2 e; exact h3 e; exact h4 e)
  have b1 : (name == [98, 97, 110]) = false := by simpa using h1
  have b2 : (name == [107, 105, 99, 107]) = false := by simpa using h2
  have b3 : (name == [114, 101, 100, 97, 99, 116]) = false := by simpa using h3
  have b4 : (name == [115, 116, 97, 116, 101, 95, 100, 101, 102, 97, 117, 108, 116]) = false := by simpa using h4
  clear h1 h2 h3 h4
  go_enter Tryd.func38, Tryd.ntmps38
  go_wp2_with fail
  go_ret
  exact ⟨ret_int HS.out.symm, rfl⟩
set_option maxHeartbeats 4000000 in
theorem reflevel_calls (v : Jv) (A B : Option Addr) (nl cl nm cm : Nat) (key : List UInt8) (w : World) (hv : VOk w v A B nl cl nm cm) :
    Calls Tryd.prog 16 #[.agg #[.int .i64 v.kd, .bool v.is, .int .i64 v.n, .string ⟨v.s.toArray⟩, .slice A nl cl, .slice B nm cm], .string ⟨key.toArray⟩] w fun e w' => e = .returned (.int .i64 (levelF v key)) ∧ Below w.heap.size w w' := by
  have hb1 : Below w.heap.size w (w.alloc (.cells #[.int .i64 v.kd, .bool v.is, .int .i64 v.n, .string ⟨v.s.toArray⟩, .slice A nl cl, .slice B nm cm] 25)) := (Below.refl _ _).alloc (Nat.le_refl _) _
  have hm := reftold_calls v A B nl cl nm cm key _ (hv.below hb1)
  obtain ⟨tv, htv⟩ : ∃ tv, toldF v key = tv := ⟨_, rfl⟩
  rw [htv] at hm
  have HT := Lib.hid (show levelF v key = tv.getD (startF key) by unfold levelF; rw [htv])
  have HB := Lib.hid hb1
  clear hb1 hv htv
  cases tv with
  | some n =>
    go_enter Tryd.func16, Tryd.ntmps16
    go_wp2_with fail
    refine hm.mono ?_
    rintro e w1 ⟨rfl, b1⟩
    have HB1 := Lib.hid (HB.out.then_ b1)
    clear b1 hm
    go_wp2_with fail
    go_ret
    rw [HT.out]
    exact ⟨rfl, HB1.out⟩
  | none =>
    go_enter Tryd.func16, Tryd.ntmps16
    go_wp2_with fail
    refine hm.mono ?_
    rintro e w1 ⟨rfl, b1⟩
    have HB1 := Lib.hid (HB.out.then_ b1)
    clear b1 hm
    go_wp2_with fail
    refine (refelse_calls key _).mono ?_
    rintro e w2 ⟨rfl, rfl⟩
    go_wp2_with fail
    go_ret
    rw [HT.out]
    exact ⟨rfl, HB1.out⟩
end Go.Proofs.YtmfefeemkhncfaaDoor
