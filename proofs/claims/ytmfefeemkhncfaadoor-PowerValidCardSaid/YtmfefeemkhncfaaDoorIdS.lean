/- The contracts of Server, User, Room, Key, Domain. -/
import Derived.Test.YtmfefeemkhncfaaDoorIdP
import Derived.HandedShaped
import Derived.Shelf.Vars
namespace Go.Proofs.YtmfefeemkhncfaaDoor
open Go.ChangeShapes Go.WideShapes Go.ChangeAt Go.RowKit Go.IntWalk
set_option linter.unusedVariables false

/-- The library's own variable that strings.Cut reads holds some number. -/
def Max (w : World) : Prop := ∃ m, w.cell? ⟨2, 0, none⟩ = some (.int .i64 m)
theorem Max.below {w w' : World} (h : Max w) (hb : Below w.heap.size w w') : Max w' := by
  obtain ⟨m, hm⟩ := h
  exact ⟨m, (hb.cell (p := ⟨2, 0, none⟩) (World.block_lt_of_cell? w _ hm)).trans hm⟩

theorem max_of_shaped {w : World} (h : w.ShapedOpen Tryd.prog) : Max w :=
  cell_of_shapedOpen_int (t := 3) (zero := #[.int .i64 0]) h (of_decide_eq_true (by kernel_rfl)) (by kernel_rfl) rfl (by kernel_rfl) (by kernel_rfl) Tryd.underlying3

theorem cut_calls (l : List UInt8) (w : World) (hm : Max w) (hl : l.length ≤ 1000000) :
    Calls Tryd.prog 65 #[.string ⟨l.toArray⟩, .string ⟨#[58]⟩] w fun e w' =>
      e = .returned (.tuple #[.string ⟨(l.take (colonF l)).toArray⟩, .string ⟨(l.drop (colonF l + 1)).toArray⟩, .bool (decide (colonF l < l.length))]) ∧ Below w.heap.size w w' := by
  obtain ⟨m, hm⟩ := hm
  refine (Tryd.strings_Cut ⟨l.toArray⟩ ⟨#[58]⟩ m w (by show l.length < _; omega) hm).mono ?_
  rintro e w' ⟨rfl, n, rfl⟩
  rw [show (⟨l.toArray⟩ : ByteArray).data.toList = l from rfl, show (⟨#[58]⟩ : ByteArray).data.toList = [58] from rfl, cut_colon]
  exact ⟨rfl, (Below.refl _ _).drewN _⟩

theorem tells_digit (w : World) : Tells (.func (.func 70) #[] #[]) isDigit w :=
  ⟨70, #[], rfl, fun a w' => by kernel_rfl, fun r w' hb hr hok => (digit_calls r w').mono fun e w2 ⟨h1, h2⟩ => ⟨h1, by rw [← h2]; exact Below.refl _ _⟩⟩

def amongV (w : World) : Value := .func (.func 69) #[] #[.pointer (some ⟨w.heap.size, 0, none⟩)]

theorem among_make (l : List UInt8) (w : World) :
    Calls Tryd.prog 63 #[.string ⟨l.toArray⟩] w fun e w' => e = .returned (amongV w) ∧ Below w.heap.size w w' ∧ w'.cell? ⟨w.heap.size, 0, none⟩ = some (.string ⟨l.toArray⟩) := by
  have hmf : ∀ (fn : Fn) (first cap : Array Value) (w : World), (Instr.makeFunc fn first cap).run Tryd.prog w = .ok (.func fn first cap) w := fun _ _ _ _ => rfl
  go_enter Tryd.func63, Tryd.ntmps63
  go_wp2
  go_ret
  refine ⟨rfl, (Below.refl _ _).alloc (Nat.le_refl _) _, ?_⟩
  rw [World.cell?_alloc_at _ _ _ _ rfl]; rfl
theorem tells_among (l : List UInt8) (w w1 : World) (hl : ∀ b ∈ l, b.toNat < 128) (hlen : l.length ≤ 1000000) (hc : w1.cell? ⟨w.heap.size, 0, none⟩ = some (.string ⟨l.toArray⟩)) : Tells (amongV w) (isAmong l) w1 :=
  ⟨69, #[.pointer (some ⟨w.heap.size, 0, none⟩)], rfl, fun a w' => by kernel_rfl, fun r w' hb hr hok =>
    among_calls l r _ w' hl hlen hr hok ((hb.cell (p := ⟨w.heap.size, 0, none⟩) (World.block_lt_of_cell? w1 _ hc)).trans hc)⟩

theorem dots_ascii : ∀ b ∈ ([46, 45] : List UInt8), b.toNat < 128 := by decide

set_option maxHeartbeats 1000000 in
theorem server_calls (l : List UInt8) (w : World) (hm : Max w) (hl : l.length ≤ 1000000) :
    Calls Tryd.prog 68 #[.string ⟨l.toArray⟩] w fun e w' => e = .returned (.bool (serverF l)) ∧ Below w.heap.size w w' := by
  obtain ⟨i, hi⟩ : ∃ i, i = colonF l := ⟨_, rfl⟩
  have hile : i ≤ l.length := by rw [hi]; exact colonF_le l
  have hcut := cut_calls l w hm hl
  have hpl : (l.drop (i + 1)).length = l.length - (i + 1) := List.length_drop
  have htl : (l.take i).length ≤ l.length := by rw [List.length_take]; omega
  have HB1 := Lib.hid (serverF_bad l)
  have HG1 := Lib.hid (serverF_good l)
  rw [← hi] at hcut HB1 HG1
  have HI := Lib.hid hi; clear hi
  have HCUT := Lib.hid hcut; clear hcut
  obtain ⟨P, hP⟩ : ∃ P, P = l.drop (i + 1) := ⟨_, rfl⟩
  obtain ⟨T, hT⟩ : ∃ T, T = l.take i := ⟨_, rfl⟩
  rw [← hP] at HCUT HB1 HG1 hpl
  rw [← hT] at HCUT HG1 htl
  have HP := Lib.hid hP; clear hP
  have HT := Lib.hid hT; clear hT
  have hPb : P.length ≤ 1000000 := by omega
  have hTb : T.length ≤ 1000000 := by omega
  have HPL := Lib.hid hpl; clear hpl
  -- the end: from the test of the whole length on
  by_cases hport : i < l.length
  · have hd1 : decide (i < l.length) = true := by simpa using hport
    by_cases h5 : P.length ≤ 5
    · cases hPd : onlyF isDigit P with
      | false =>
        have HE : Hid (serverF l = false) := HB1.out hport (.inr hPd)
        go_enter Tryd.func68, Tryd.ntmps68
        go_wp2_with fail
        refine HCUT.out.mono ?_
        rintro e w1 ⟨rfl, b1⟩
        go_wp2_with fail
        refine (only_calls ⟨P.toArray⟩ _ isDigit _ (fun r h => digit_lt h) (by show P.length ≤ _; omega) (tells_digit _)).mono ?_
        rintro e w2 ⟨rfl, hb2⟩
        rw [show (⟨P.toArray⟩ : ByteArray).data.toList = P from rfl, hPd]
        go_wp2
        go_ret
        exact ⟨ret_bool HE.out.symm, b1.then_ hb2⟩
      | true =>
        have HE : Hid (serverF l = (decide (l.length ≤ 255) && onlyF (isAmong [46, 45]) T)) := HG1.out (fun _ => ⟨by have := HPL.out; omega, hPd⟩)
        by_cases h255 : l.length ≤ 255
        · have hd255 : decide ((l.length : Int) ≤ 255) = true := by simp; omega
          go_enter Tryd.func68, Tryd.ntmps68
          go_wp2_with fail
          refine HCUT.out.mono ?_
          rintro e w1 ⟨rfl, b1⟩
          go_wp2_with fail
          refine (only_calls ⟨P.toArray⟩ _ isDigit _ (fun r h => digit_lt h) (by show P.length ≤ _; omega) (tells_digit _)).mono ?_
          rintro e w2 ⟨rfl, hb2⟩
          have b2 := b1.then_ hb2
          rw [show (⟨P.toArray⟩ : ByteArray).data.toList = P from rfl, hPd]
          go_wp2_with fail
          refine (among_make [46, 45] _).mono ?_
          rintro e w3 ⟨rfl, hb3, hc3⟩
          have b3 := b2.then_ hb3
          go_wp2_with fail
          refine (only_calls ⟨T.toArray⟩ _ (isAmong [46, 45]) _ (fun r h => among_lt h) (by show T.length ≤ _; omega) (tells_among [46, 45] _ _ dots_ascii (by simp) hc3)).mono ?_
          rintro e w4 ⟨rfl, hb4⟩
          rw [show (⟨T.toArray⟩ : ByteArray).data.toList = T from rfl]
          go_wp2
          go_ret
          exact ⟨ret_bool (by rw [HE.out]; simp [h255]), b3.then_ hb4⟩
        · have hd255 : decide ((l.length : Int) ≤ 255) = false := by simp; omega
          go_enter Tryd.func68, Tryd.ntmps68
          go_wp2_with fail
          refine HCUT.out.mono ?_
          rintro e w1 ⟨rfl, b1⟩
          go_wp2_with fail
          refine (only_calls ⟨P.toArray⟩ _ isDigit _ (fun r h => digit_lt h) (by show P.length ≤ _; omega) (tells_digit _)).mono ?_
          rintro e w2 ⟨rfl, hb2⟩
          have b2 := b1.then_ hb2
          rw [show (⟨P.toArray⟩ : ByteArray).data.toList = P from rfl, hPd]
          go_wp2
          go_ret
          exact ⟨ret_bool (by rw [HE.out]; simp [h255]), b2⟩
    · have HE : Hid (serverF l = false) := HB1.out hport (.inl (by have := HPL.out; omega))
      have h5' : decide ((P.length : Int) > 5) = true := by simp; omega
      go_enter Tryd.func68, Tryd.ntmps68
      go_wp2_with fail
      refine HCUT.out.mono ?_
      rintro e w1 ⟨rfl, b1⟩
      go_wp2
      go_ret
      exact ⟨ret_bool HE.out.symm, b1⟩
  · have hd1 : decide (i < l.length) = false := by simpa using hport
    have HE : Hid (serverF l = (decide (l.length ≤ 255) && onlyF (isAmong [46, 45]) T)) := HG1.out (fun h => absurd h hport)
    by_cases h255 : l.length ≤ 255
    · have hd255 : decide ((l.length : Int) ≤ 255) = true := by simp; omega
      go_enter Tryd.func68, Tryd.ntmps68
      go_wp2_with fail
      refine HCUT.out.mono ?_
      rintro e w1 ⟨rfl, b2⟩
      go_wp2_with fail
      refine (among_make [46, 45] _).mono ?_
      rintro e w3 ⟨rfl, hb3, hc3⟩
      have b3 := b2.then_ hb3
      go_wp2_with fail
      refine (only_calls ⟨T.toArray⟩ _ (isAmong [46, 45]) _ (fun r h => among_lt h) (by show T.length ≤ _; omega) (tells_among [46, 45] _ _ dots_ascii (by simp) hc3)).mono ?_
      rintro e w4 ⟨rfl, hb4⟩
      rw [show (⟨T.toArray⟩ : ByteArray).data.toList = T from rfl]
      go_wp2
      go_ret
      exact ⟨ret_bool (by rw [HE.out]; simp [h255]), b3.then_ hb4⟩
    · have hd255 : decide ((l.length : Int) ≤ 255) = false := by simp; omega
      go_enter Tryd.func68, Tryd.ntmps68
      go_wp2_with fail
      refine HCUT.out.mono ?_
      rintro e w1 ⟨rfl, b2⟩
      go_wp2
      go_ret
      exact ⟨ret_bool (by rw [HE.out]; simp [h255]), b2⟩

theorem Tells.below {v : Value} {p : Int → Bool} {w w1 : World} (h : Tells v p w) (hb : Below w.heap.size w w1) : Tells v p w1 := by
  obtain ⟨F, caps, h1, h2, h3⟩ := h
  exact ⟨F, caps, h1, h2, fun r w' hb' => h3 r w' (hb.then_ hb')⟩

def pickS (ok : Bool) (server : List UInt8) : List UInt8 := if ok then server else []
def AtPost (ok : Bool) (server : List UInt8) (w : World) (e : Ending) (w' : World) : Prop :=
  e = .returned (.tuple #[.string ⟨(pickS ok server).toArray⟩, .bool ok]) ∧ Below w.heap.size w w'

set_option maxHeartbeats 1000000 in
theorem at_calls (l : List UInt8) (sign : UInt8) (v : Value) (p : Int → Bool) (w : World) (hm : Max w) (hl : l.length ≤ 1000000) (hp : ∀ r, p r = true → 0 ≤ r ∧ r < 128) (hv : Tells v p w) :
    Calls Tryd.prog 62 #[.string ⟨l.toArray⟩, .string ⟨#[sign]⟩, v] w (AtPost (namedF sign p l) (l.drop (colonF l + 1)) w) := by
  have hN := namedF_eq sign p l
  obtain ⟨i, hi⟩ : ∃ i, i = colonF l := ⟨_, rfl⟩
  have hcut := cut_calls l w hm hl
  rw [← hi] at hN hcut ⊢
  clear hi
  have hO1 : (l.take i).length ≤ 1000000 := by rw [List.length_take]; omega
  have hP1 : (l.drop (i + 1)).length ≤ 1000000 := by rw [List.length_drop]; omega
  obtain ⟨O, hO⟩ : ∃ O, O = l.take i := ⟨_, rfl⟩
  obtain ⟨P, hP⟩ : ∃ P, P = l.drop (i + 1) := ⟨_, rfl⟩
  rw [← hO] at hN hcut hO1
  rw [← hP] at hN hcut hP1 ⊢
  clear hO hP
  have HN := Lib.hid hN; clear hN
  have HCUT := Lib.hid hcut; clear hcut
  cases hpx : Lib.hasPrefix O [sign] with
  | false =>
    have HE : Hid (namedF sign p l = false) := by show _ = _; rw [HN.out, hpx]; rfl
    go_enter Tryd.func62, Tryd.ntmps62
    go_wp2_with fail
    refine HCUT.out.mono ?_
    rintro e w1 ⟨rfl, b1⟩
    go_wp2_with fail
    refine (Tryd.strings_CutPrefix ⟨O.toArray⟩ ⟨#[sign]⟩ _).mono ?_
    rintro e w' ⟨rfl, hw⟩
    have hw' := hw.symm; clear hw; subst hw'
    rw [show (⟨O.toArray⟩ : ByteArray).data.toList = O from rfl, show (⟨#[sign]⟩ : ByteArray).data.toList = [sign] from rfl, hpx]
    go_wp2
    go_ret2
    exact ⟨by rw [HE.out]; rfl, b1⟩
  | true =>
    have htr : Lib.trimPrefix O [sign] = O.drop 1 := by unfold Lib.trimPrefix; rw [hpx]; rfl
    have HTR := Lib.hid htr; clear htr
    have hO2 : (O.drop 1).length ≤ 1000000 := by rw [List.length_drop]; omega
    obtain ⟨T, hT⟩ : ∃ T, T = O.drop 1 := ⟨_, rfl⟩
    rw [← hT] at HTR HN hO2
    clear hT
    by_cases h255 : l.length ≤ 255
    · have hd255 : decide ((l.length : Int) > 255) = false := by simp; omega
      cases hon : onlyF p T with
      | false =>
        have HE : Hid (namedF sign p l = false) := by show _ = _; rw [HN.out, hon]; simp
        go_enter Tryd.func62, Tryd.ntmps62
        go_wp2_with fail
        refine HCUT.out.mono ?_
        rintro e w1 ⟨rfl, b1⟩
        go_wp2_with fail
        refine (Tryd.strings_CutPrefix ⟨O.toArray⟩ ⟨#[sign]⟩ _).mono ?_
        rintro e w' ⟨rfl, hw⟩
        have hw' := hw.symm; clear hw; subst hw'
        rw [show (⟨O.toArray⟩ : ByteArray).data.toList = O from rfl, show (⟨#[sign]⟩ : ByteArray).data.toList = [sign] from rfl, hpx]
        rw [HTR.out]
        go_wp2_with fail
        refine (only_calls ⟨T.toArray⟩ v p _ hp (by show T.length ≤ _; omega) (hv.below b1)).mono ?_
        rintro e w2 ⟨rfl, hb2⟩
        rw [show (⟨T.toArray⟩ : ByteArray).data.toList = T from rfl, hon]
        go_wp2
        go_ret2
        exact ⟨by rw [HE.out]; rfl, b1.then_ hb2⟩
      | true =>
        have HE : Hid (namedF sign p l = serverF P) := by show _ = _; rw [HN.out, hon, hpx]; simp [h255]
        go_enter Tryd.func62, Tryd.ntmps62
        go_wp2_with fail
        refine HCUT.out.mono ?_
        rintro e w1 ⟨rfl, b1⟩
        go_wp2_with fail
        refine (Tryd.strings_CutPrefix ⟨O.toArray⟩ ⟨#[sign]⟩ _).mono ?_
        rintro e w' ⟨rfl, hw⟩
        have hw' := hw.symm; clear hw; subst hw'
        rw [show (⟨O.toArray⟩ : ByteArray).data.toList = O from rfl, show (⟨#[sign]⟩ : ByteArray).data.toList = [sign] from rfl, hpx]
        rw [HTR.out]
        go_wp2_with fail
        refine (only_calls ⟨T.toArray⟩ v p _ hp (by show T.length ≤ _; omega) (hv.below b1)).mono ?_
        rintro e w2 ⟨rfl, hb2⟩
        rw [show (⟨T.toArray⟩ : ByteArray).data.toList = T from rfl, hon]
        have b2 := b1.then_ hb2
        go_wp2_with fail
        refine (server_calls P _ (hm.below b2) hP1).mono ?_
        rintro e w3 ⟨rfl, hb3⟩
        have b3 := b2.then_ hb3
        cases hsv : serverF P with
        | true =>
          rw [hsv] at HE
          go_wp2
          go_ret2
          exact ⟨by rw [HE.out]; rfl, b3⟩
        | false =>
          rw [hsv] at HE
          go_wp2
          go_ret2
          exact ⟨by rw [HE.out]; rfl, b3⟩
    · have hd255 : decide ((l.length : Int) > 255) = true := by simp; omega
      have HE : Hid (namedF sign p l = false) := by show _ = _; rw [HN.out]; simp [h255]
      go_enter Tryd.func62, Tryd.ntmps62
      go_wp2_with fail
      refine HCUT.out.mono ?_
      rintro e w1 ⟨rfl, b1⟩
      go_wp2_with fail
      refine (Tryd.strings_CutPrefix ⟨O.toArray⟩ ⟨#[sign]⟩ _).mono ?_
      rintro e w' ⟨rfl, hw⟩
      have hw' := hw.symm; clear hw; subst hw'
      rw [show (⟨O.toArray⟩ : ByteArray).data.toList = O from rfl, show (⟨#[sign]⟩ : ByteArray).data.toList = [sign] from rfl, hpx]
      rw [HTR.out]
      go_wp2
      go_ret2
      exact ⟨by rw [HE.out]; rfl, b1⟩
end Go.Proofs.YtmfefeemkhncfaaDoor
