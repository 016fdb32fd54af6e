/- Layer 14: levels that stand alone. -/
import Derived.Test.YtmfefeemkhncfaaDoorPwC
namespace Go.Proofs.YtmfefeemkhncfaaDoor
open Go.ChangeShapes Go.WideShapes Go.ChangeAt Go.RowKit Go.IntWalk
set_option linter.unusedVariables false

/-- The levels that stand alone, as the program lays them. -/
def lonN : List (List UInt8 × Int) := [([98, 97, 110], 50), ([101, 118, 101, 110, 116, 115, 95, 100, 101, 102, 97, 117, 108, 116], 0), ([105, 110, 118, 105, 116, 101], 0), ([107, 105, 99, 107], 50), ([114, 101, 100, 97, 99, 116], 50), ([115, 116, 97, 116, 101, 95, 100, 101, 102, 97, 117, 108, 116], 50), ([117, 115, 101, 114, 115, 95, 100, 101, 102, 97, 117, 108, 116], 0)]
/-- The variable leads to them. -/
def LonT (w : World) : Prop := 0 < w.heap.size ∧ ∃ b o cp, b < w.heap.size ∧ w.cell? ⟨0, 0, none⟩ = some (.slice (some ⟨b, o, none⟩) 7 cp) ∧
  ∀ k (h : k < lonN.length), w.cell? ⟨b, o + k * 2, none⟩ = some (.string ⟨(lonN[k]).1.toArray⟩) ∧ w.cell? ⟨b, o + k * 2 + 1, none⟩ = some (.int .i64 (lonN[k]).2)
theorem LonT.below {w w' : World} (h : LonT w) (b : Below w.heap.size w w') : LonT w' := by
  obtain ⟨h1, b0, o, cp, h2, h3, h4⟩ := h
  refine ⟨Nat.lt_of_lt_of_le h1 b.size, b0, o, cp, Nat.lt_of_lt_of_le h2 b.size, (b.cell (p := ⟨_, 0, none⟩) h1).trans h3, fun k hk => ⟨(b.cell (p := ⟨b0, _, none⟩) h2).trans (h4 k hk).1, (b.cell (p := ⟨b0, _, none⟩) h2).trans (h4 k hk).2⟩⟩
theorem start_at : ∀ k : Fin 7, startF (lonN[k.val]'(by have := k.isLt; exact this)).1 = (lonN[k.val]'(by have := k.isLt; exact this)).2 := by decide
theorem start_no {name : List UInt8} (h : ∀ k (hk : k < lonN.length), (lonN[k]).1 ≠ name) : startF name = 0 := by
  unfold startF
  rw [if_neg]
  rintro (e | e | e | e)
  · exact h 0 (by decide) e.symm
  · exact h 3 (by decide) e.symm
  · exact h 4 (by decide) e.symm
  · exact h 5 (by decide) e.symm
theorem lone_is (nm name : List UInt8) (st : Int) (nb : Nat) (w : World) (hnb : nb < w.heap.size) (hc : w.cell? ⟨nb, 0, none⟩ = some (.string ⟨name.toArray⟩)) {tb : Bool} (h : (nm == name) = tb) :
    Calls Tryd.prog 37 #[.agg #[.string ⟨nm.toArray⟩, .int .i64 st], .pointer (some ⟨nb, 0, none⟩)] w fun e w' => e = .returned (.bool tb) ∧ Below w.heap.size w w' := by
  go_enter Tryd.func37, Tryd.ntmps37
  have hne : ¬ nb = w.heap.size := by omega
  have hc2 : (w.alloc (.cells #[.string ⟨nm.toArray⟩, .int .i64 st] 58)).cell? ⟨nb, 0, none⟩ = some (.string ⟨name.toArray⟩) := (((Below.refl _ _).alloc (Nat.le_refl _) _ : Below w.heap.size w _).cell (p := ⟨nb, 0, none⟩) hnb).trans hc
  go_wp2_with fail
  go_ret
  exact ⟨rfl, (Below.refl _ _).alloc (Nat.le_refl _) _⟩
section
variable {H : Type}
/-- What the row lists of them. -/
def lonD : DataW Unit := .slice (lonN.map fun p => .agg [.lit (.string p.1), .lit (.int .i64 p.2)]) []
theorem gLon : Tryd.prog.globalNamed "hustings/power.lones" = some 0 := by kernel_rfl
theorem gLonT : (Tryd.prog.globals[0]?).map (·.type) = some 56 := by kernel_rfl
theorem lon_of_laid {W : World} (h : laidMet Tryd.prog [("hustings/power.lones", lonD)] W) : LonT W := by
  obtain ⟨ps, ⟨g', t', cs, fuel, p, q, hg', ht', hvar, hd, _, _⟩, _⟩ := h
  obtain rfl := Option.some.inj (gLon.symm.trans hg')
  obtain rfl := Option.some.inj (gLonT.symm.trans ht')
  have c2 : Tryd.prog.cellsOf 58 = 2 := by kernel_rfl
  rcases open_depth (enc := fun _ => ()) Tryd.underlying56 hd with ⟨_, hx⟩ | ⟨a, len, cap, n, D, rest, _, ec, hle, _, hx, hall⟩
  · unfold lonD at hx; cases hx
  · unfold lonD at hx
    injection hx with hx hrest
    rw [c2] at hall
    have hlen : len = 7 := by have := congrArg List.length hx; simp at this; rw [← this]; rfl
    subst hlen
    obtain ⟨b, off, spot⟩ := a
    have hel : ∀ k (hk : k < lonN.length), D k = .agg [.lit (.string (lonN[k]).1), .lit (.int .i64 (lonN[k]).2)] := fun k hk => by
      have h1 := congrArg (fun l => l[k]?) hx
      have hk7 : k < 7 := hk
      simp [hk, hk7] at h1
      exact h1.symm
    have hc0 : W.cell? ⟨0, 0, none⟩ = some (.slice (some ⟨b, off, spot⟩) 7 cap) := by
      have h1 := World.var?_cell gLon hvar 0
      rw [h1, ← Array.getElem?_toList, ec]; rfl
    have each : ∀ k (hk : k < lonN.length), ∀ j, j < 2 → ∃ v, W.cell? (((⟨b, off, spot⟩ : Addr).add (k * 2)).add j) = some v ∧ (j = 0 → v = .string ⟨(lonN[k]).1.toArray⟩) ∧ (j = 1 → v = .int .i64 (lonN[k]).2) := fun k hk => by
      obtain ⟨cs', p', h1, h2⟩ := hall k hk
      rw [hel k hk] at h2
      obtain ⟨_, hlen', hc'⟩ := World.cells?_some h1
      obtain ⟨y0, y1, m, hD, _, t0, t1⟩ := Go.ChangeShapes.trod_struct2 Tryd.underlying58 h2
      have hcs : Tryd.prog.cellsOf 9 = 1 := by kernel_rfl
      have hci : Tryd.prog.cellsOf 3 = 1 := by kernel_rfl
      obtain ⟨s0, e0, q0, _⟩ := DataW.trod_string Tryd.underlying9 t0
      obtain ⟨n1, e1, q1, _⟩ := DataW.trod_int Tryd.underlying3 t1
      injection hD with hD _
      rw [q0, q1] at hD
      injection hD with hD
      injection hD with hD0 hD1
      injection hD1 with hD1 _
      injection hD0 with hD0; injection hD0 with hD0
      injection hD1 with hD1; injection hD1 with _ hD1
      dsimp only at e0 e1
      rw [hcs] at e0
      rw [hci] at e1
      intro j hj
      match cs', hlen' with
      | [z0, z1], _ =>
        simp at e0 e1
        rcases (show j = 0 ∨ j = 1 by omega) with rfl | rfl
        · refine ⟨z0, by rw [hc' 0 (by decide)]; rfl, fun _ => ?_, fun h => absurd h (by decide)⟩
          rw [e0]
          obtain ⟨l, rfl, _⟩ := str_split s0
          simp at hD0
          rw [hD0]
        · refine ⟨z1, by rw [hc' 1 (by decide)]; rfl, fun h => absurd h (by decide), fun _ => ?_⟩
          rw [e1, hD1]
    have hspot : spot = none := by
      obtain ⟨v, hv, _⟩ := each 0 (by decide) 0 (by decide)
      simpa [Addr.add] using World.cell?_spot hv
    subst hspot
    refine ⟨World.block_lt_of_cell? W _ hc0, b, off, cap, ?_, hc0, fun k hk => ⟨?_, ?_⟩⟩
    · obtain ⟨v, hv, _⟩ := each 0 (by decide) 0 (by decide)
      rw [add_plain2] at hv
      exact World.block_lt_of_cell? W _ hv
    · obtain ⟨v, hv, h0, _⟩ := each k hk 0 (by decide)
      rw [add_plain2, h0 rfl] at hv
      exact hv
    · obtain ⟨v, hv, _, h1⟩ := each k hk 1 (by decide)
      rw [add_plain2, h1 rfl] at hv
      rw [Nat.add_assoc]; exact hv
end
/-- Where a name stands. -/
def IdxPost (name : List UInt8) (w : World) (e : Ending) (w' : World) : Prop :=
  ((∃ k, ∃ h : k < lonN.length, (lonN[k]).1 = name ∧ e = .returned (.int .i64 (k : Int))) ∨ ((∀ k (h : k < lonN.length), (lonN[k]).1 ≠ name) ∧ e = .returned (.int .i64 (-1)))) ∧ Below w.heap.size w w'
set_option maxHeartbeats 2000000 in
theorem index_calls (name : List UInt8) (nb b o cp : Nat) (w : World) (hnb : nb < w.heap.size) (hc : w.cell? ⟨nb, 0, none⟩ = some (.string ⟨name.toArray⟩)) (hb : b < w.heap.size)
    (hl : ∀ k (h : k < lonN.length), w.cell? ⟨b, o + k * 2, none⟩ = some (.string ⟨(lonN[k]).1.toArray⟩) ∧ w.cell? ⟨b, o + k * 2 + 1, none⟩ = some (.int .i64 (lonN[k]).2)) :
    Calls Tryd.prog 36 #[.slice (some ⟨b, o, none⟩) 7 cp, .func (Fn.func 37) #[] #[.pointer (some ⟨nb, 0, none⟩)]] w (IdxPost name w) := by
  have HH := Lib.hid (And.intro hc hl)
  have h7 : lonN.length = 7 := rfl
  have H7 := Lib.hid h7
  clear hc hl h7
  go_enter Tryd.func36, Tryd.ntmps36
  go_wp2_with fail
  go_loopw [8] (fun i wr => ∃ k : Nat, k ≤ 7 ∧ i = .int .i64 (k : Int) ∧ Hid (Below w.heap.size w wr) ∧ Hid (∀ j (h : j < lonN.length), j < k → (lonN[j]).1 ≠ name)) (fun i _ => 7 - (intOf i).toNat)
  case atStart => exact ⟨0, by omega, rfl, Lib.hid (Below.refl _ _), Lib.hid (fun j h hj => absurd hj (by omega))⟩
  case round =>
    obtain ⟨k, hk, rfl, hB, hN⟩ := hrel
    by_cases hlt : k < 7
    · have hkl : k < lonN.length := hlt
      have k0 : wr.cell? ⟨b, o + k * 2, none⟩ = some (.string ⟨(lonN[k]).1.toArray⟩) := (hB.out.cell (p := ⟨b, _, none⟩) hb).trans (HH.out.2 k hkl).1
      have k1 : wr.cell? ⟨b, o + k * 2 + 1, none⟩ = some (.int .i64 (lonN[k]).2) := (hB.out.cell (p := ⟨b, _, none⟩) hb).trans (HH.out.2 k hkl).2
      have hbr : b < wr.heap.size := Nat.lt_of_lt_of_le hb hB.out.size
      have hnr : nb < wr.heap.size := Nat.lt_of_lt_of_le hnb hB.out.size
      have hcr : wr.cell? ⟨nb, 0, none⟩ = some (.string ⟨name.toArray⟩) := (hB.out.cell (p := ⟨nb, 0, none⟩) hnb).trans HH.out.1
      obtain ⟨nm, hnm⟩ : ∃ nm, (lonN[k]).1 = nm := ⟨_, rfl⟩
      obtain ⟨st, hst⟩ : ∃ st, (lonN[k]).2 = st := ⟨_, rfl⟩
      rw [hnm] at k0
      rw [hst] at k1
      have HNM := Lib.hid hnm
      have HCR := Lib.hid (And.intro hnr hcr)
      clear hnm hst hcr hnr
      cases ht : (nm == name) with
      | true =>
        have HE := Lib.hid (show nm = name by simpa using ht)
        have HC := lone_is nm name st nb wr HCR.out.1 HCR.out.2 ht
        clear ht
        go_wp2_with fail
        refine HC.mono ?_
        rintro e w3 ⟨rfl, b3⟩
        have HB3 := Lib.hid (hB.out.then_ b3)
        clear b3 HC k0 k1
        go_wp2_with fail
        go_ret
        exact ⟨.inl ⟨k, hkl, HNM.out.trans HE.out, rfl⟩, HB3.out⟩
      | false =>
        have HE := Lib.hid (show nm ≠ name by simpa using ht)
        have HC := lone_is nm name st nb wr HCR.out.1 HCR.out.2 ht
        have HN2 := Lib.hid (show ∀ j (h : j < lonN.length), j < k + 1 → (lonN[j]).1 ≠ name by
          intro j h hj
          by_cases e : j = k
          · subst e; rw [HNM.out]; exact HE.out
          · exact hN.out j h (by omega))
        clear ht
        go_wp2_with fail
        refine HC.mono ?_
        rintro e w3 ⟨rfl, b3⟩
        have HB3 := Lib.hid (hB.out.then_ b3)
        clear b3 HC k0 k1
        go_wp2_with fail
        go_roundw
        case rel => exact ⟨k + 1, by omega, by go_num, HB3, HN2⟩
        case measure => simp [intOf]; omega
    · obtain rfl : k = 7 := by omega
      go_wp2_with fail
      go_ret
      exact ⟨.inr ⟨fun j h => hN.out j h (by have := H7.out; omega), rfl⟩, hB.out⟩
set_option maxHeartbeats 4000000 in
theorem level_calls (v : Jv) (A B : Option Addr) (nl cl nm cm : Nat) (name : List UInt8) (w : World) (hv : VOk w v A B nl cl nm cm) (hr : Rise (slts v.m)) (hL : LonT w) :
    Calls Tryd.prog 15 #[.agg #[.int .i64 v.kd, .bool v.is, .int .i64 v.n, .string ⟨v.s.toArray⟩, .slice A nl cl, .slice B nm cm], .string ⟨name.toArray⟩] w fun e w' => e = .returned (.int .i64 (levelF v name)) ∧ Below w.heap.size w w' := by
  have hb2 : Below w.heap.size w ((w.alloc (.cells #[.int .i64 v.kd, .bool v.is, .int .i64 v.n, .string ⟨v.s.toArray⟩, .slice A nl cl, .slice B nm cm] 25)).alloc (.cells #[.string ⟨name.toArray⟩] 9)) := ((Below.refl _ _).alloc (Nat.le_refl _) _).alloc (by simp) _
  have hm := told_calls v A B nl cl nm cm name _ (hv.below hb2) hr
  have hx := (Blk.new w [.int .i64 v.kd, .bool v.is, .int .i64 v.n, .string ⟨v.s.toArray⟩, .slice A nl cl, .slice B nm cm] 25).alloc (.cells #[.string ⟨name.toArray⟩] 9)
  have hn := Blk.new (w.alloc (.cells #[.int .i64 v.kd, .bool v.is, .int .i64 v.n, .string ⟨v.s.toArray⟩, .slice A nl cl, .slice B nm cm] 25)) [.string ⟨name.toArray⟩] 9
  rw [show (w.alloc (.cells #[.int .i64 v.kd, .bool v.is, .int .i64 v.n, .string ⟨v.s.toArray⟩, .slice A nl cl, .slice B nm cm] 25)).heap.size = w.heap.size + 1 by simp] at hn
  have HB := Lib.hid hb2
  have HN := Lib.hid hn
  have HL := Lib.hid hL
  obtain ⟨tv, htv⟩ : ∃ tv, toldF v name = tv := ⟨_, rfl⟩
  rw [htv] at hm
  have HT := Lib.hid (show levelF v name = tv.getD (startF name) by unfold levelF; rw [htv])
  clear hb2 hv hr hx hn htv hL
  cases tv with
  | some n =>
    go_enter Tryd.func15, Tryd.ntmps15
    go_wp2_with fail
    refine hm.mono ?_
    rintro e w1 ⟨rfl, b1, hn1⟩
    have HB1 := Lib.hid (HB.out.trans (b1.mono (by simp; omega)))
    clear b1 hm hn1
    go_wp2_with fail
    go_ret
    rw [HT.out]
    exact ⟨rfl, HB1.out.alloc HB1.out.size _⟩
  | none =>
    go_enter Tryd.func15, Tryd.ntmps15
    go_wp2_with fail
    refine hm.mono ?_
    rintro e w1 ⟨rfl, b1, hn1⟩
    have HB1 := Lib.hid (HB.out.trans (b1.mono (by simp; omega)))
    have hn2 := (HN.out.later b1).alloc (.cells #[.int .i64 0, .bool false] 53)
    have hB2 := HB1.out.alloc HB1.out.size (.cells #[.int .i64 0, .bool false] 53)
    have HLL := Lib.hid (HL.out.below hB2)
    obtain ⟨hg, b, o, cp, hbl, hgc, hcs⟩ := HL.out.below hB2
    have HI := index_calls name (w.heap.size + 1) b o cp _ hn2.lt (hn2.cell rfl) hbl hcs
    have HCS := Lib.hid hcs
    have HB2 := Lib.hid hB2
    have HG := Lib.hid hg
    clear b1 hm hn1 hn2 hB2 hcs hg
    go_wp2_with fail
    refine HI.mono ?_
    rintro e w3 ⟨hor, b3⟩
    have HB3 := Lib.hid (HB2.out.then_ b3)
    have gc3 : w3.cell? ⟨0, 0, none⟩ = some (.slice (some ⟨b, o, none⟩) 7 cp) := (b3.cell (p := ⟨0, 0, none⟩) HG.out).trans hgc
    have HC3 := Lib.hid (fun k (h : k < lonN.length) => (b3.cell (p := ⟨b, o + k * 2 + 1, none⟩) hbl).trans (HCS.out k h).2)
    clear b3 HI hgc
    rcases hor with ⟨k, hk, hnm, rfl⟩ | ⟨hno, rfl⟩
    · have hst : startF name = (lonN[k]).2 := by rw [← hnm]; exact start_at ⟨k, hk⟩
      have k1 := HC3.out k hk
      rw [← hst] at k1
      have hk7 : k < 7 := hk
      have HST := Lib.hid hst
      clear hst hnm
      go_wp2_with fail
      go_ret
      rw [HT.out]
      exact ⟨rfl, HB3.out⟩
    · have HS := Lib.hid (start_no hno)
      clear hno
      go_wp2_with fail
      go_ret
      rw [HT.out]
      exact ⟨ret_int HS.out.symm, HB3.out⟩
end Go.Proofs.YtmfefeemkhncfaaDoor
