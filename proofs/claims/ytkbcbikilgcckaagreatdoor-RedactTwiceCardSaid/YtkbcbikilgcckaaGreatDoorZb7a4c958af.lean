/- Texts put together: EcA QuV IdS IdO IdQ IdUu IdKc IdU. -/
import Derived.Test.YtkbcbikilgcckaaGreatDoorZ2071c6bcdc
import Derived.Test.YtkbcbikilgcckaaGreatDoorZb913a2313a
import Derived.Test.YtkbcbikilgcckaaGreatDoorZ3ff1f1dbf5
import Derived.HandedShaped
import Derived.Shelf.Vars
namespace Go.Proofs.YtkbcbikilgcckaaGreatDoor
set_option linter.unusedVariables false

/-- Do letters stand for so many bytes? -/
def letN (s : List UInt8) (n : Nat) : Bool := match decF false s with | some b => decide (b.length = n) | none => false
theorem letN_32 (s : List UInt8) : letN s 32 = (decide (s.length = 43) && (decF false s).isSome) := by
  unfold letN
  cases h : decF false s with
  | none => simp
  | some b => have := (decF_len h).1; simp; omega
theorem letN_64 (s : List UInt8) : letN s 64 = (decide (s.length = 86) && (decF false s).isSome) := by
  unfold letN
  cases h : decF false s with
  | none => simp
  | some b => have := (decF_len h).1; simp; omega
theorem letN_200 (s : List UInt8) (n : Nat) (hn : n ≤ 64) (hs : 200 < s.length) : letN s n = false := by
  unfold letN
  cases h : decF false s with
  | none => rfl
  | some b => have := (decF_len h).1; simp; omega
def shortF (s : List UInt8) : Bool := decide (s.length ≤ 255) && Lib.validD s
def sigOk (s : Sg) : Prop := serverF s.t = true ∧ keyF s.k = true ∧ letN s.i 64 = true
def sgR (a b : Sg) : Prop := Op.bytesLess a.t b.t = true ∨ (a.t = b.t ∧ Op.bytesLess a.k b.k = true)
/-- The signature at a place is right, and above the one ahead. -/
def sigAt (l : List Sg) (i : Nat) : Prop := ∃ x, l[i]? = some x ∧ sigOk x ∧ ∀ y, 0 < i → l[i - 1]? = some y → sgR y x
def sigsP (l : List Sg) : Prop := ∀ i, i < l.length → sigAt l i
def ManyP (e : Ev) : Prop := 20 < e.pv.length ∨ 10 < e.au.length
def namedP (e : Ev) : Prop := (∀ x ∈ e.pv ++ e.au, evF x = true) ∧ roomF e.rm = true ∧ nUserF e.sd = true
def typedP (e : Ev) : Prop := (e.ty ≠ [] ∧ shortF e.ty = true ∧ shortF e.ky = true ∧ (e.ky = [] ∨ e.st = true)) ∧ e.ct.kd = 5 ∧ (canF e.ct).2 = 0
def countP (e : Ev) : Prop := (0 ≤ e.dp ∧ e.dp ≤ 9007199254740991) ∧ (0 ≤ e.tm ∧ e.tm ≤ 9007199254740991)
def CanBe (e : Ev) : Prop := namedP e ∧ typedP e ∧ countP e ∧ letN e.hs 32 = true ∧ sigsP e.sg
def ChkIs (e : Ev) (x : Int) : Prop := (ManyP e ∧ x = 22) ∨ (¬ ManyP e ∧ CanBe e ∧ x = 0) ∨ (¬ ManyP e ∧ ¬ CanBe e ∧ x = 21)
theorem ChkIs.one {e : Ev} {x y : Int} (h1 : ChkIs e x) (h2 : ChkIs e y) : x = y := by
  rcases h1 with ⟨a, rfl⟩ | ⟨a, b, rfl⟩ | ⟨a, b, rfl⟩ <;> rcases h2 with ⟨c, rfl⟩ | ⟨c, d, rfl⟩ | ⟨c, d, rfl⟩ <;> first | rfl | exact absurd c a | exact absurd a c | exact absurd b d | exact absurd d b
end Go.Proofs.YtkbcbikilgcckaaGreatDoor
namespace Go.Proofs.YtkbcbikilgcckaaGreatDoor
open Go.ChangeShapes Go.WideShapes Go.ChangeAt Go.RowKit Go.IntWalk
set_option linter.unusedVariables false

theorem told_calls (l : List UInt8) (w : World) :
    Calls Tryz.prog 107 #[.string ⟨l.toArray⟩] w fun e w' => e = .returned (.bool (Lib.hasPrefix l [239, 191, 189])) ∧ w' = w := by
  go_enter Tryz.func107, Tryz.ntmps107
  go_wp2_with fail
  refine (Tryz.strings_HasPrefix ⟨l.toArray⟩ ⟨#[239, 191, 189]⟩ _).mono ?_
  rintro e w1 ⟨rfl, rfl⟩
  go_wp2
  go_ret
  exact ⟨rfl, rfl⟩

set_option maxHeartbeats 2000000 in
theorem valid_calls (l : List UInt8) (w : World) (hl : l.length ≤ 1000000) :
    Calls Tryz.prog 76 #[.string ⟨l.toArray⟩] w fun e w' => e = .returned (.bool (Lib.validD l)) ∧ Below w.heap.size w w' := by
  go_enter Tryz.func76, Tryz.ntmps76
  go_wp2_with fail
  go_loopw [] (fun wr => ∃ k, k ≤ l.length ∧ wr = w.iter ⟨l.toArray⟩ k ∧ Hid (Lib.validD l = Lib.validD (l.drop k))) (fun wr => l.length - wr.iterPos w.heap.size)
  case atStart => exact ⟨0, Nat.zero_le _, rfl, rfl⟩
  case round =>
    obtain ⟨k, hk, rfl, hv⟩ := hrel
    by_cases hp : k < l.length
    · have hnx := fun ty => run_next_any (P := Tryz.prog) w ⟨l.toArray⟩ k ty hp
      have hdl : Utf8.decode ⟨l.toArray⟩ k = Lib.decodeL (l.drop k) := (Lib.decodeL_drop ⟨l.toArray⟩ k).symm
      rw [hdl] at hnx
      have hne : l.drop k ≠ [] := by intro h; have := congrArg List.length h; rw [List.length_drop] at this; simp at this; omega
      obtain ⟨m, hm⟩ : ∃ m, l.drop k = m := ⟨_, rfl⟩
      have hml : m.length = l.length - k := by rw [← hm, List.length_drop]
      have hwd := Lib.decodeL_width m
      have hle := Lib.decodeL_le m (hm ▸ hne)
      rw [hm] at hnx hne hv
      have hdd : ∀ d, m.drop d = l.drop (k + d) := fun d => by rw [← hm, List.drop_drop]
      by_cases hr : (Lib.decodeL m).1 = 65533
      · have HN := Lib.hid (noR_iff m hne hr)
        have HT := Lib.hid (told_calls m)
        by_cases hn : NoR m
        · have HE := Lib.hid (hv.out.trans (valid_stop m hne hn))
          have HP : Hid (Lib.hasPrefix m [239, 191, 189] = false) := HN.out.1 hn
          generalize Lib.decodeL m = p at *
          obtain ⟨r, d⟩ := p
          simp only at *
          subst hr
          clear hdd
          go_wp2_with fail
          trace_state
          refine (HT.out _).mono ?_
          rintro e w1 ⟨rfl, rfl⟩
          rw [HP.out]
          go_wp2
          go_ret
          exact ⟨ret_bool HE.out.symm, (Below.refl _ _).alloc (Nat.le_refl _) _⟩
        · have HE := Lib.hid (hv.out.trans (valid_go m hne hn))
          have HP : Hid (Lib.hasPrefix m [239, 191, 189] = true) := by
            show _ = _
            cases h : Lib.hasPrefix m [239, 191, 189]
            · exact absurd (HN.out.2 h) hn
            · rfl
          generalize Lib.decodeL m = p at *
          obtain ⟨r, d⟩ := p
          simp only at *
          subst hr
          rw [hdd] at HE
          clear hdd
          go_wp2_with fail
          refine (HT.out _).mono ?_
          rintro e w1 ⟨rfl, rfl⟩
          rw [HP.out]
          go_wp2
          go_roundw
          case rel => exact ⟨k + d, by omega, rfl, HE⟩
          case measure => simp; omega
      · have hn : ¬ NoR m := fun h => hr h.1
        have HE := Lib.hid (hv.out.trans (valid_go m hne hn))
        generalize Lib.decodeL m = p at *
        obtain ⟨r, d⟩ := p
        simp only at *
        rw [hdd] at HE
        clear hdd
        have hne2 : ((r : Int) == 65533) = false := by rw [beq_eq_false_iff_ne]; omega
        go_wp2
        go_roundw
        case rel => exact ⟨k + d, by omega, rfl, HE⟩
        case measure => simp; omega
    · have hnx := fun ty => run_next_end (P := Tryz.prog) w ⟨l.toArray⟩ k ty hp
      have HE : Hid (Lib.validD l = true) := by
        show _ = _
        rw [hv.out, List.drop_of_length_le (by omega)]; rfl
      go_wp2
      go_ret
      exact ⟨ret_bool HE.out.symm, (Below.refl _ _).alloc (Nat.le_refl _) _⟩
end Go.Proofs.YtkbcbikilgcckaaGreatDoor
namespace Go.Proofs.YtkbcbikilgcckaaGreatDoor
open Go.ChangeShapes Go.WideShapes Go.ChangeAt Go.RowKit Go.IntWalk
set_option linter.unusedVariables false

/-- The library's own variable that strings.Cut reads holds some number. -/
def Max (w : World) : Prop := ∃ m, w.cell? ⟨0, 0, none⟩ = some (.int .i64 m)
theorem Max.below {w w' : World} (h : Max w) (hb : Below w.heap.size w w') : Max w' := by
  obtain ⟨m, hm⟩ := h
  exact ⟨m, (hb.cell (p := ⟨0, 0, none⟩) (World.block_lt_of_cell? w _ hm)).trans hm⟩

theorem max_of_shaped {w : World} (h : w.ShapedOpen Tryz.prog) : Max w :=
  cell_of_shapedOpen_int (t := 3) (zero := #[.int .i64 0]) h (of_decide_eq_true (by kernel_rfl)) (by kernel_rfl) rfl (by kernel_rfl) (by kernel_rfl) Tryz.underlying3

theorem cut_calls (l : List UInt8) (w : World) (hm : Max w) (hl : l.length ≤ 1000000) :
    Calls Tryz.prog 80 #[.string ⟨l.toArray⟩, .string ⟨#[58]⟩] w fun e w' =>
      e = .returned (.tuple #[.string ⟨(l.take (colonF l)).toArray⟩, .string ⟨(l.drop (colonF l + 1)).toArray⟩, .bool (decide (colonF l < l.length))]) ∧ Below w.heap.size w w' := by
  obtain ⟨m, hm⟩ := hm
  refine (Tryz.strings_Cut ⟨l.toArray⟩ ⟨#[58]⟩ m w (by show l.length < _; omega) hm).mono ?_
  rintro e w' ⟨rfl, n, rfl⟩
  rw [show (⟨l.toArray⟩ : ByteArray).data.toList = l from rfl, show (⟨#[58]⟩ : ByteArray).data.toList = [58] from rfl, cut_colon]
  exact ⟨rfl, (Below.refl _ _).drewN _⟩

theorem tells_digit (w : World) : Tells (.func (.func 82) #[] #[]) isDigit w :=
  ⟨82, #[], rfl, fun a w' => by kernel_rfl, fun r w' hb hr hok => (digit_calls r w').mono fun e w2 ⟨h1, h2⟩ => ⟨h1, by rw [← h2]; exact Below.refl _ _⟩⟩

def amongV (w : World) : Value := .func (.func 116) #[] #[.pointer (some ⟨w.heap.size, 0, none⟩)]

theorem among_make (l : List UInt8) (w : World) :
    Calls Tryz.prog 83 #[.string ⟨l.toArray⟩] w fun e w' => e = .returned (amongV w) ∧ Below w.heap.size w w' ∧ w'.cell? ⟨w.heap.size, 0, none⟩ = some (.string ⟨l.toArray⟩) := by
  have hmf : ∀ (fn : Fn) (first cap : Array Value) (w : World), (Instr.makeFunc fn first cap).run Tryz.prog w = .ok (.func fn first cap) w := fun _ _ _ _ => rfl
  go_enter Tryz.func83, Tryz.ntmps83
  go_wp2
  go_ret
  refine ⟨rfl, (Below.refl _ _).alloc (Nat.le_refl _) _, ?_⟩
  rw [World.cell?_alloc_at _ _ _ _ rfl]; rfl
theorem tells_among (l : List UInt8) (w w1 : World) (hl : ∀ b ∈ l, b.toNat < 128) (hlen : l.length ≤ 1000000) (hc : w1.cell? ⟨w.heap.size, 0, none⟩ = some (.string ⟨l.toArray⟩)) : Tells (amongV w) (isAmong l) w1 :=
  ⟨116, #[.pointer (some ⟨w.heap.size, 0, none⟩)], rfl, fun a w' => by kernel_rfl, fun r w' hb hr hok =>
    among_calls l r _ w' hl hlen hr hok ((hb.cell (p := ⟨w.heap.size, 0, none⟩) (World.block_lt_of_cell? w1 _ hc)).trans hc)⟩

theorem dots_ascii : ∀ b ∈ ([46, 45] : List UInt8), b.toNat < 128 := by decide

set_option maxHeartbeats 1000000 in
theorem server_calls (l : List UInt8) (w : World) (hm : Max w) (hl : l.length ≤ 1000000) :
    Calls Tryz.prog 50 #[.string ⟨l.toArray⟩] w fun e w' => e = .returned (.bool (serverF l)) ∧ Below w.heap.size w w' := by
  obtain ⟨i, hi⟩ : ∃ i, i = colonF l := ⟨_, rfl⟩
  have hile : i ≤ l.length := by rw [hi]; exact colonF_le l
  have hcut := cut_calls l w hm hl
  have hpl : (l.drop (i + 1)).length = l.length - (i + 1) := List.length_drop
  have htl : (l.take i).length ≤ l.length := by rw [List.length_take]; omega
  have HB1 := Lib.hid (serverF_bad l)
  have HG1 := Lib.hid (serverF_good l)
  rw [← hi] at hcut HB1 HG1
  have HI := Lib.hid hi; clear hi
  have HCUT := Lib.hid hcut; clear hcut
  obtain ⟨P, hP⟩ : ∃ P, P = l.drop (i + 1) := ⟨_, rfl⟩
  obtain ⟨T, hT⟩ : ∃ T, T = l.take i := ⟨_, rfl⟩
  rw [← hP] at HCUT HB1 HG1 hpl
  rw [← hT] at HCUT HG1 htl
  have HP := Lib.hid hP; clear hP
  have HT := Lib.hid hT; clear hT
  have hPb : P.length ≤ 1000000 := by omega
  have hTb : T.length ≤ 1000000 := by omega
  have HPL := Lib.hid hpl; clear hpl
  -- the end: from the test of the whole length on
  by_cases hport : i < l.length
  · have hd1 : decide (i < l.length) = true := by simpa using hport
    by_cases h5 : P.length ≤ 5
    · cases hPd : onlyF isDigit P with
      | false =>
        have HE : Hid (serverF l = false) := HB1.out hport (.inr hPd)
        go_enter Tryz.func50, Tryz.ntmps50
        go_wp2_with fail
        refine HCUT.out.mono ?_
        rintro e w1 ⟨rfl, b1⟩
        go_wp2_with fail
        refine (only_calls ⟨P.toArray⟩ _ isDigit _ (fun r h => digit_lt h) (by show P.length ≤ _; omega) (tells_digit _)).mono ?_
        rintro e w2 ⟨rfl, hb2⟩
        rw [show (⟨P.toArray⟩ : ByteArray).data.toList = P from rfl, hPd]
        go_wp2
        go_ret
        exact ⟨ret_bool HE.out.symm, b1.then_ hb2⟩
      | true =>
        have HE : Hid (serverF l = (decide (l.length ≤ 255) && onlyF (isAmong [46, 45]) T)) := HG1.out (fun _ => ⟨by have := HPL.out; omega, hPd⟩)
        by_cases h255 : l.length ≤ 255
        · have hd255 : decide ((l.length : Int) ≤ 255) = true := by simp; omega
          go_enter Tryz.func50, Tryz.ntmps50
          go_wp2_with fail
          refine HCUT.out.mono ?_
          rintro e w1 ⟨rfl, b1⟩
          go_wp2_with fail
          refine (only_calls ⟨P.toArray⟩ _ isDigit _ (fun r h => digit_lt h) (by show P.length ≤ _; omega) (tells_digit _)).mono ?_
          rintro e w2 ⟨rfl, hb2⟩
          have b2 := b1.then_ hb2
          rw [show (⟨P.toArray⟩ : ByteArray).data.toList = P from rfl, hPd]
          go_wp2_with fail
          refine (among_make [46, 45] _).mono ?_
          rintro e w3 ⟨rfl, hb3, hc3⟩
          have b3 := b2.then_ hb3
          go_wp2_with fail
          refine (only_calls ⟨T.toArray⟩ _ (isAmong [46, 45]) _ (fun r h => among_lt h) (by show T.length ≤ _; omega) (tells_among [46, 45] _ _ dots_ascii (by simp) hc3)).mono ?_
          rintro e w4 ⟨rfl, hb4⟩
          rw [show (⟨T.toArray⟩ : ByteArray).data.toList = T from rfl]
          go_wp2
          go_ret
          exact ⟨ret_bool (by rw [HE.out]; simp [h255]), b3.then_ hb4⟩
        · have hd255 : decide ((l.length : Int) ≤ 255) = false := by simp; omega
          go_enter Tryz.func50, Tryz.ntmps50
          go_wp2_with fail
          refine HCUT.out.mono ?_
          rintro e w1 ⟨rfl, b1⟩
          go_wp2_with fail
          refine (only_calls ⟨P.toArray⟩ _ isDigit _ (fun r h => digit_lt h) (by show P.length ≤ _; omega) (tells_digit _)).mono ?_
          rintro e w2 ⟨rfl, hb2⟩
          have b2 := b1.then_ hb2
          rw [show (⟨P.toArray⟩ : ByteArray).data.toList = P from rfl, hPd]
          go_wp2
          go_ret
          exact ⟨ret_bool (by rw [HE.out]; simp [h255]), b2⟩
    · have HE : Hid (serverF l = false) := HB1.out hport (.inl (by have := HPL.out; omega))
      have h5' : decide ((P.length : Int) > 5) = true := by simp; omega
      go_enter Tryz.func50, Tryz.ntmps50
      go_wp2_with fail
      refine HCUT.out.mono ?_
      rintro e w1 ⟨rfl, b1⟩
      go_wp2
      go_ret
      exact ⟨ret_bool HE.out.symm, b1⟩
  · have hd1 : decide (i < l.length) = false := by simpa using hport
    have HE : Hid (serverF l = (decide (l.length ≤ 255) && onlyF (isAmong [46, 45]) T)) := HG1.out (fun h => absurd h hport)
    by_cases h255 : l.length ≤ 255
    · have hd255 : decide ((l.length : Int) ≤ 255) = true := by simp; omega
      go_enter Tryz.func50, Tryz.ntmps50
      go_wp2_with fail
      refine HCUT.out.mono ?_
      rintro e w1 ⟨rfl, b2⟩
      go_wp2_with fail
      refine (among_make [46, 45] _).mono ?_
      rintro e w3 ⟨rfl, hb3, hc3⟩
      have b3 := b2.then_ hb3
      go_wp2_with fail
      refine (only_calls ⟨T.toArray⟩ _ (isAmong [46, 45]) _ (fun r h => among_lt h) (by show T.length ≤ _; omega) (tells_among [46, 45] _ _ dots_ascii (by simp) hc3)).mono ?_
      rintro e w4 ⟨rfl, hb4⟩
      rw [show (⟨T.toArray⟩ : ByteArray).data.toList = T from rfl]
      go_wp2
      go_ret
      exact ⟨ret_bool (by rw [HE.out]; simp [h255]), b3.then_ hb4⟩
    · have hd255 : decide ((l.length : Int) ≤ 255) = false := by simp; omega
      go_enter Tryz.func50, Tryz.ntmps50
      go_wp2_with fail
      refine HCUT.out.mono ?_
      rintro e w1 ⟨rfl, b2⟩
      go_wp2
      go_ret
      exact ⟨ret_bool (by rw [HE.out]; simp [h255]), b2⟩

theorem Tells.below {v : Value} {p : Int → Bool} {w w1 : World} (h : Tells v p w) (hb : Below w.heap.size w w1) : Tells v p w1 := by
  obtain ⟨F, caps, h1, h2, h3⟩ := h
  exact ⟨F, caps, h1, h2, fun r w' hb' => h3 r w' (hb.then_ hb')⟩

def pickS (ok : Bool) (server : List UInt8) : List UInt8 := if ok then server else []
def AtPost (ok : Bool) (server : List UInt8) (w : World) (e : Ending) (w' : World) : Prop :=
  e = .returned (.tuple #[.string ⟨(pickS ok server).toArray⟩, .bool ok]) ∧ Below w.heap.size w w'

set_option maxHeartbeats 1000000 in
theorem at_calls (l : List UInt8) (sign : UInt8) (v : Value) (p : Int → Bool) (w : World) (hm : Max w) (hl : l.length ≤ 1000000) (hp : ∀ r, p r = true → 0 ≤ r ∧ r < 128) (hv : Tells v p w) :
    Calls Tryz.prog 106 #[.string ⟨l.toArray⟩, .string ⟨#[sign]⟩, v] w (AtPost (namedF sign p l) (l.drop (colonF l + 1)) w) := by
  have hN := namedF_eq sign p l
  obtain ⟨i, hi⟩ : ∃ i, i = colonF l := ⟨_, rfl⟩
  have hcut := cut_calls l w hm hl
  rw [← hi] at hN hcut ⊢
  clear hi
  have hO1 : (l.take i).length ≤ 1000000 := by rw [List.length_take]; omega
  have hP1 : (l.drop (i + 1)).length ≤ 1000000 := by rw [List.length_drop]; omega
  obtain ⟨O, hO⟩ : ∃ O, O = l.take i := ⟨_, rfl⟩
  obtain ⟨P, hP⟩ : ∃ P, P = l.drop (i + 1) := ⟨_, rfl⟩
  rw [← hO] at hN hcut hO1
  rw [← hP] at hN hcut hP1 ⊢
  clear hO hP
  have HN := Lib.hid hN; clear hN
  have HCUT := Lib.hid hcut; clear hcut
  cases hpx : Lib.hasPrefix O [sign] with
  | false =>
    have HE : Hid (namedF sign p l = false) := by show _ = _; rw [HN.out, hpx]; rfl
    go_enter Tryz.func106, Tryz.ntmps106
    go_wp2_with fail
    refine HCUT.out.mono ?_
    rintro e w1 ⟨rfl, b1⟩
    go_wp2_with fail
    refine (Tryz.strings_CutPrefix ⟨O.toArray⟩ ⟨#[sign]⟩ _).mono ?_
    rintro e w' ⟨rfl, hw⟩
    have hw' := hw.symm; clear hw; subst hw'
    rw [show (⟨O.toArray⟩ : ByteArray).data.toList = O from rfl, show (⟨#[sign]⟩ : ByteArray).data.toList = [sign] from rfl, hpx]
    go_wp2
    go_ret2
    exact ⟨by rw [HE.out]; rfl, b1⟩
  | true =>
    have htr : Lib.trimPrefix O [sign] = O.drop 1 := by unfold Lib.trimPrefix; rw [hpx]; rfl
    have HTR := Lib.hid htr; clear htr
    have hO2 : (O.drop 1).length ≤ 1000000 := by rw [List.length_drop]; omega
    obtain ⟨T, hT⟩ : ∃ T, T = O.drop 1 := ⟨_, rfl⟩
    rw [← hT] at HTR HN hO2
    clear hT
    by_cases h255 : l.length ≤ 255
    · have hd255 : decide ((l.length : Int) > 255) = false := by simp; omega
      cases hon : onlyF p T with
      | false =>
        have HE : Hid (namedF sign p l = false) := by show _ = _; rw [HN.out, hon]; simp
        go_enter Tryz.func106, Tryz.ntmps106
        go_wp2_with fail
        refine HCUT.out.mono ?_
        rintro e w1 ⟨rfl, b1⟩
        go_wp2_with fail
        refine (Tryz.strings_CutPrefix ⟨O.toArray⟩ ⟨#[sign]⟩ _).mono ?_
        rintro e w' ⟨rfl, hw⟩
        have hw' := hw.symm; clear hw; subst hw'
        rw [show (⟨O.toArray⟩ : ByteArray).data.toList = O from rfl, show (⟨#[sign]⟩ : ByteArray).data.toList = [sign] from rfl, hpx]
        rw [HTR.out]
        go_wp2_with fail
        refine (only_calls ⟨T.toArray⟩ v p _ hp (by show T.length ≤ _; omega) (hv.below b1)).mono ?_
        rintro e w2 ⟨rfl, hb2⟩
        rw [show (⟨T.toArray⟩ : ByteArray).data.toList = T from rfl, hon]
        go_wp2
        go_ret2
        exact ⟨by rw [HE.out]; rfl, b1.then_ hb2⟩
      | true =>
        have HE : Hid (namedF sign p l = serverF P) := by show _ = _; rw [HN.out, hon, hpx]; simp [h255]
        go_enter Tryz.func106, Tryz.ntmps106
        go_wp2_with fail
        refine HCUT.out.mono ?_
        rintro e w1 ⟨rfl, b1⟩
        go_wp2_with fail
        refine (Tryz.strings_CutPrefix ⟨O.toArray⟩ ⟨#[sign]⟩ _).mono ?_
        rintro e w' ⟨rfl, hw⟩
        have hw' := hw.symm; clear hw; subst hw'
        rw [show (⟨O.toArray⟩ : ByteArray).data.toList = O from rfl, show (⟨#[sign]⟩ : ByteArray).data.toList = [sign] from rfl, hpx]
        rw [HTR.out]
        go_wp2_with fail
        refine (only_calls ⟨T.toArray⟩ v p _ hp (by show T.length ≤ _; omega) (hv.below b1)).mono ?_
        rintro e w2 ⟨rfl, hb2⟩
        rw [show (⟨T.toArray⟩ : ByteArray).data.toList = T from rfl, hon]
        have b2 := b1.then_ hb2
        go_wp2_with fail
        refine (server_calls P _ (hm.below b2) hP1).mono ?_
        rintro e w3 ⟨rfl, hb3⟩
        have b3 := b2.then_ hb3
        cases hsv : serverF P with
        | true =>
          rw [hsv] at HE
          go_wp2
          go_ret2
          exact ⟨by rw [HE.out]; rfl, b3⟩
        | false =>
          rw [hsv] at HE
          go_wp2
          go_ret2
          exact ⟨by rw [HE.out]; rfl, b3⟩
    · have hd255 : decide ((l.length : Int) > 255) = true := by simp; omega
      have HE : Hid (namedF sign p l = false) := by show _ = _; rw [HN.out]; simp [h255]
      go_enter Tryz.func106, Tryz.ntmps106
      go_wp2_with fail
      refine HCUT.out.mono ?_
      rintro e w1 ⟨rfl, b1⟩
      go_wp2_with fail
      refine (Tryz.strings_CutPrefix ⟨O.toArray⟩ ⟨#[sign]⟩ _).mono ?_
      rintro e w' ⟨rfl, hw⟩
      have hw' := hw.symm; clear hw; subst hw'
      rw [show (⟨O.toArray⟩ : ByteArray).data.toList = O from rfl, show (⟨#[sign]⟩ : ByteArray).data.toList = [sign] from rfl, hpx]
      rw [HTR.out]
      go_wp2
      go_ret2
      exact ⟨by rw [HE.out]; rfl, b1⟩
end Go.Proofs.YtkbcbikilgcckaaGreatDoor
namespace Go.Proofs.YtkbcbikilgcckaaGreatDoor
open Go.ChangeShapes Go.WideShapes Go.ChangeAt Go.RowKit Go.IntWalk
set_option linter.unusedVariables false

set_option maxRecDepth 100000 in
set_option maxHeartbeats 4000000 in
theorem of_calls (l K G : List UInt8) (w : World) (hl : l.length ≤ 1000000) (hKl : K.length ≤ 1000) (hGl : G.length ≤ 1000) (hK : ∀ k ∈ K, k = 97 ∨ k = 65 ∨ k = 48) :
    Calls Tryz.prog 98 #[.string ⟨l.toArray⟩, .string ⟨K.toArray⟩, .string ⟨G.toArray⟩] w fun e w' => e = .returned (.bool (ofF K G l)) ∧ w = w' := by
  go_enter Tryz.func98, Tryz.ntmps98
  go_wp2
  go_loop [7] (fun v => ∃ i : Nat, i ≤ l.length ∧ v = .int .i64 i ∧ Hid (∀ c ∈ l.take i, (kindsB K c.toNat || G.contains c) = true)) (fun v => l.length - (intOf v).toNat)
  case atStart => exact ⟨0, Nat.zero_le _, rfl, fun c hc => by simp at hc⟩
  case round =>
    obtain ⟨i, hi, rfl, hall⟩ := hrel
    by_cases hlt : i < l.length
    · obtain ⟨c, hc⟩ : ∃ c, l[i] = c := ⟨_, rfl⟩
      have hcl := c.toNat_lt
      go_wp2_with fail
      go_loop [9, 10] (fun ok v => ∃ j : Nat, j ≤ K.length ∧ v = .int .i64 j ∧ ok = .bool ((K.take j).any fun k => kindB c.toNat k.toNat)) (fun _ v => K.length - (intOf v).toNat)
      case atStart => exact ⟨0, Nat.zero_le _, rfl, by simp⟩
      case round =>
        obtain ⟨j, hj, rfl, rfl⟩ := hrel
        by_cases hjlt : j < K.length
        · have hk := hK K[j] (List.getElem_mem hjlt)
          have HT := Lib.hid (any_take (fun k : UInt8 => kindB c.toNat k.toNat) K j hjlt)
          obtain ⟨B, hB⟩ : ∃ B, B = (K.take j).any fun k => kindB c.toNat k.toNat := ⟨_, rfl⟩
          rw [← hB] at HT ⊢
          clear hB
          obtain ⟨k, hk2⟩ : ∃ k, K[j] = k := ⟨_, rfl⟩
          rw [hk2] at hk HT
          rcases hk with rfl | rfl | rfl
          all_goals
            go_wp2
            all_goals
              refine ⟨⟨j + 1, by omega, by go_num, ?_⟩, by simp [intOf]; omega⟩
              rw [HT.out]
              congr 1
              clear HT
              rw [Bool.eq_iff_iff]
              simp only [kindB, Bool.or_eq_true, Bool.and_eq_true, decide_eq_true_eq, beq_iff_eq, UInt8.reduceToNat] at *
              first | omega | (simp_all; done) | (simp_all; omega)
        · have hjn : j = K.length := by omega
          rw [hjn, List.take_length]
          clear hjn
          obtain ⟨B, hB⟩ : ∃ B, B = K.any fun k => kindB c.toNat k.toNat := ⟨_, rfl⟩
          rw [← hB]
          have HB := Lib.hid hB; clear hB
          go_wp2_with fail
          go_loop [9, 11] (fun ok v => ∃ j : Nat, j ≤ G.length ∧ v = .int .i64 j ∧ ok = .bool (B || (G.take j).any fun g => g == c)) (fun _ v => G.length - (intOf v).toNat)
          case atStart => exact ⟨0, Nat.zero_le _, rfl, by simp⟩
          case round =>
            obtain ⟨m, hm, rfl, rfl⟩ := hrel
            by_cases hmlt : m < G.length
            · have HT' : (B || (G.take (m + 1)).any fun g => g == c) = ((B || (G.take m).any fun g => g == c) || G[m] == c) := by rw [any_take (fun g : UInt8 => g == c) G m hmlt, Bool.or_assoc]
              obtain ⟨O, hO⟩ : ∃ O, O = (B || (G.take m).any fun g => g == c) := ⟨_, rfl⟩
              rw [← hO] at HT' ⊢
              clear hO
              obtain ⟨g, hg2⟩ : ∃ g, G[m] = g := ⟨_, rfl⟩
              rw [hg2] at HT'
              have HT2 := Lib.hid HT'; clear HT'
              cases O
              all_goals
                go_wp2
                refine ⟨⟨m + 1, by omega, by go_num, ?_⟩, by simp [intOf]; omega⟩
                rw [HT2.out]
                first
                  | rfl
                  | (congr 1; rw [Bool.eq_iff_iff]; simp; exact ⟨fun h => UInt8.toNat_inj.1 (by omega), fun h => by rw [h]⟩)
            · have hmn : m = G.length := by omega
              rw [hmn, List.take_length]
              clear hmn
              have HBK : Hid (kindsB K c.toNat = B) := HB.out.symm
              cases hO : (B || G.any fun g => g == c) with
              | true =>
                go_wp2
                go_round
                case rel => exact ⟨i + 1, by omega, by go_num, by
                  intro x hx
                  rw [List.take_add_one, List.getElem?_eq_getElem hlt] at hx
                  simp only [Option.toList_some, List.mem_append, List.mem_singleton] at hx
                  rcases hx with hx | hx
                  · exact hall.out x hx
                  · rw [hx, hc, HBK.out, contains_any]; exact hO⟩
                case measure => simp [intOf]; omega
              | false =>
                have HE : Hid (ofF K G l = false) := ofF_bad K G l i hlt (by rw [hc, HBK.out, contains_any]; exact hO)
                go_wp2
                go_ret
                exact ⟨ret_bool HE.out.symm, rfl⟩
    · have hin : i = l.length := by omega
      have HE : Hid (ofF K G l = !l.isEmpty) := by
        refine ofF_all K G l ?_
        have h1 := hall.out
        rw [hin, List.take_length] at h1
        exact h1
      go_wp2
      go_ret
      refine ⟨ret_bool ?_, rfl⟩
      rw [HE.out]
end Go.Proofs.YtkbcbikilgcckaaGreatDoor
namespace Go.Proofs.YtkbcbikilgcckaaGreatDoor
open Go.ChangeShapes Go.WideShapes Go.ChangeAt Go.RowKit Go.IntWalk
set_option linter.unusedVariables false

theorem signs_eq (G : List UInt8) (hG : ∀ b ∈ G, b.toNat < 128) (c : UInt8) : inSigns G c.toNat = G.contains c := by
  unfold inSigns
  rw [show ((c.toNat : Int).toNat.toUInt8) = c from by simp]
  by_cases h : c.toNat < 128
  · rw [decide_eq_true (show (0 : Int) ≤ c.toNat ∧ (c.toNat : Int) < 128 from by omega)]; simp
  · rw [decide_eq_false (show ¬ ((0 : Int) ≤ c.toNat ∧ (c.toNat : Int) < 128) from by omega)]
    cases hc : G.contains c with
    | false => rfl
    | true => have := hG c (by simpa using hc); omega
theorem only_among (G l : List UInt8) (hG : ∀ b ∈ G, b.toNat < 128) : ofF [97, 48] G l = onlyF (isAmong G) l := by
  unfold ofF onlyF
  congr 1
  refine List.all_congr rfl fun c => ?_
  rw [← signs_eq G hG c]
  unfold isAmong
  generalize inSigns G c.toNat = S
  unfold kindsB kindB isDigit
  generalize c.toNat = C
  rw [Bool.eq_iff_iff]
  simp
  cases S <;> simp <;> omega
theorem only_caps (G l : List UInt8) (hG : ∀ b ∈ G, b.toNat < 128) : ofF [97, 65, 48] G l = onlyF (isCap G) l := by
  unfold ofF onlyF
  congr 1
  refine List.all_congr rfl fun c => ?_
  rw [← signs_eq G hG c]
  unfold isCap isAmong
  generalize inSigns G c.toNat = S
  unfold kindsB kindB isDigit
  generalize c.toNat = C
  rw [Bool.eq_iff_iff]
  simp
  cases S <;> simp <;> omega
theorem only_digits (l : List UInt8) : ofF [48] [] l = onlyF isDigit l := by
  unfold ofF onlyF
  congr 1
  refine List.all_congr rfl fun c => ?_
  unfold kindsB kindB isDigit
  generalize c.toNat = C
  rw [Bool.eq_iff_iff]
  simp
  omega

set_option maxHeartbeats 1000000 in
theorem colon_calls (l : List UInt8) (w : World) (hl : l.length ≤ 1000000) :
    Calls Tryz.prog 97 #[.string ⟨l.toArray⟩] w fun e w' => e = .returned (.int .i64 (colonF l)) ∧ w = w' := by
  go_enter Tryz.func97, Tryz.ntmps97
  go_wp2
  go_loop [3] (fun v => ∃ i : Nat, i ≤ l.length ∧ v = .int .i64 i ∧ Hid (∀ j, j < i → l.getD j 0 ≠ 58)) (fun v => l.length - (intOf v).toNat)
  case atStart => exact ⟨0, Nat.zero_le _, rfl, fun j hj => absurd hj (by omega)⟩
  case round =>
    obtain ⟨i, hi, rfl, hall⟩ := hrel
    by_cases hlt : i < l.length
    · obtain ⟨c, hc⟩ : ∃ c, l[i] = c := ⟨_, rfl⟩
      have hcg : Hid (l.getD i 0 = c) := by show _ = _; rw [List.getD_eq_getElem?_getD, List.getElem?_eq_getElem hlt]; exact hc
      by_cases h58 : c = 58
      · subst h58
        have HE : Hid (colonF l = i) := colon_of l i hall.out (.inl ⟨hlt, hcg.out⟩)
        go_wp2
        go_ret
        exact ⟨ret_int (by rw [HE.out]), rfl⟩
      · have hne : ((c.toNat : Int) == 58) = false := by
          rw [beq_eq_false_iff_ne]; intro h; exact h58 (UInt8.toNat_inj.1 (by show c.toNat = 58; omega))
        go_wp2
        go_round
        case rel => exact ⟨i + 1, by omega, by go_num, fun j hj => by
          by_cases h : j < i
          · exact hall.out j h
          · rw [show j = i from by omega, hcg.out]; exact h58⟩
        case measure => simp [intOf]; omega
    · have HE : Hid (colonF l = l.length) := by
        have hin : i = l.length := by omega
        rw [← hin]; exact colon_of l i hall.out (.inr hin)
      go_wp2
      go_ret
      exact ⟨ret_int (by rw [HE.out]), rfl⟩

theorem k0 : ∀ k ∈ ([97, 48] : List UInt8), k = 97 ∨ k = 65 ∨ k = 48 := by decide
theorem k1 : ∀ k ∈ ([48] : List UInt8), k = 97 ∨ k = 65 ∨ k = 48 := by decide
theorem k2 : ∀ k ∈ ([97, 65, 48] : List UInt8), k = 97 ∨ k = 65 ∨ k = 48 := by decide
theorem dots_ascii' : ∀ b ∈ ([46, 45] : List UInt8), b.toNat < 128 := by decide

set_option maxHeartbeats 1000000 in
theorem refserver_calls (l : List UInt8) (w : World) (hl : l.length ≤ 1000000) :
    Calls Tryz.prog 62 #[.string ⟨l.toArray⟩] w fun e w' => e = .returned (.bool (serverF l)) ∧ w = w' := by
  obtain ⟨i, hi⟩ : ∃ i, i = colonF l := ⟨_, rfl⟩
  have hile : i ≤ l.length := by rw [hi]; exact colonF_le l
  have hT1 : (l.take i).length ≤ 1000000 := by rw [List.length_take]; omega
  have hD1 : (l.drop (i + 1)).length ≤ 1000000 := by rw [List.length_drop]; omega
  have HD : Hid (serverF l = (decide (l.length ≤ 255) && onlyF (isAmong [46, 45]) (l.take i) && (decide (i = l.length) || (decide (l.length - i ≤ 6) && onlyF isDigit (l.drop (i + 1)))))) := by
    show _ = _; unfold serverF; rw [← hi]
  have hcol := colon_calls l w hl
  rw [← hi] at hcol
  have HCOL := Lib.hid hcol; clear hcol hi
  have hOf := fun w => of_calls (l.take i) [97, 48] [46, 45] w hT1 (by simp) (by simp) k0
  rw [only_among _ _ dots_ascii'] at hOf
  have HOF := Lib.hid hOf; clear hOf
  have hOf2 := fun w => of_calls (l.drop (i + 1)) [48] [] w hD1 (by simp) (by simp) k1
  rw [only_digits] at hOf2
  have HOF2 := Lib.hid hOf2; clear hOf2
  by_cases h255 : l.length ≤ 255
  · cases hT : onlyF (isAmong [46, 45]) (l.take i) with
    | true =>
      rw [hT] at HD HOF
      by_cases hin : i = l.length
      · have hin' : ((i : Int) == (l.length : Int)) = true := by simp [hin]
        have HE : Hid (serverF l = true) := by show _ = _; rw [HD.out]; simp [h255, hin]
        clear hin
        go_enter Tryz.func62, Tryz.ntmps62
        go_wp2_with fail
        refine HCOL.out.mono ?_
        rintro e w' ⟨rfl, rfl⟩
        go_wp2_with fail
        refine (HOF.out _).mono ?_
        rintro e w' ⟨rfl, rfl⟩
        go_wp2
        go_ret
        exact ⟨ret_bool HE.out.symm, rfl⟩
      · have hin' : ((i : Int) == (l.length : Int)) = false := by simp; omega
        by_cases h6 : l.length - i ≤ 6
        · have h6' : decide ((l.length : Int) - (i : Int) ≤ 6) = true := by simp; omega
          have HE : Hid (serverF l = onlyF isDigit (l.drop (i + 1))) := by show _ = _; rw [HD.out]; simp [h255, hin, h6]
          have hi1 : (i : Int) + 1 ≤ (l.length : Int) := by omega
          go_enter Tryz.func62, Tryz.ntmps62
          go_wp2_with fail
          refine HCOL.out.mono ?_
          rintro e w' ⟨rfl, rfl⟩
          go_wp2_with fail
          refine (HOF.out _).mono ?_
          rintro e w' ⟨rfl, rfl⟩
          go_wp2_with fail
          refine (HOF2.out _).mono ?_
          rintro e w' ⟨rfl, rfl⟩
          go_wp2
          go_ret
          exact ⟨ret_bool HE.out.symm, rfl⟩
        · have h6' : decide ((l.length : Int) - (i : Int) ≤ 6) = false := by simp; omega
          have HE : Hid (serverF l = false) := by show _ = _; rw [HD.out]; simp [h255, hin, h6]
          go_enter Tryz.func62, Tryz.ntmps62
          go_wp2_with fail
          refine HCOL.out.mono ?_
          rintro e w' ⟨rfl, rfl⟩
          go_wp2_with fail
          refine (HOF.out _).mono ?_
          rintro e w' ⟨rfl, rfl⟩
          go_wp2
          go_ret
          exact ⟨ret_bool HE.out.symm, rfl⟩
    | false =>
      rw [hT] at HD HOF
      have HE : Hid (serverF l = false) := by show _ = _; rw [HD.out]; simp
      go_enter Tryz.func62, Tryz.ntmps62
      go_wp2_with fail
      refine HCOL.out.mono ?_
      rintro e w' ⟨rfl, rfl⟩
      go_wp2_with fail
      refine (HOF.out _).mono ?_
      rintro e w' ⟨rfl, rfl⟩
      go_wp2
      go_ret
      exact ⟨ret_bool HE.out.symm, rfl⟩
  · have HE : Hid (serverF l = false) := by show _ = _; rw [HD.out]; simp [h255]
    go_enter Tryz.func62, Tryz.ntmps62
    go_wp2_with fail
    refine HCOL.out.mono ?_
    rintro e w' ⟨rfl, rfl⟩
    go_wp2
    go_ret
    exact ⟨ret_bool HE.out.symm, rfl⟩
end Go.Proofs.YtkbcbikilgcckaaGreatDoor
namespace Go.Proofs.YtkbcbikilgcckaaGreatDoor
open Go.ChangeShapes Go.WideShapes Go.ChangeAt Go.RowKit Go.IntWalk
set_option linter.unusedVariables false

theorem usr_ascii : ∀ b ∈ ([46, 95, 61, 45, 47, 43] : List UInt8), b.toNat < 128 := by decide
theorem AtPost.eq {ok : Bool} {server : List UInt8} {w w' w0 : World} {e : Ending} (h : AtPost ok server w e w') : e = .returned (.tuple #[.string ⟨(pickS ok server).toArray⟩, .bool ok]) ∧ Below w.heap.size w w' := h

set_option maxHeartbeats 1000000 in
theorem nUser_calls (l : List UInt8) (w : World) (hm : Max w) (hl : l.length ≤ 1000000) :
    Calls Tryz.prog 75 #[.string ⟨l.toArray⟩] w (AtPost (nUserF l) (l.drop (colonF l + 1)) w) := by
  go_enter Tryz.func75, Tryz.ntmps75
  go_wp2_with fail
  refine (among_make [46, 95, 61, 45, 47, 43] _).mono ?_
  rintro e w1 ⟨rfl, b1, hc1⟩
  go_wp2_with fail
  refine (at_calls l 64 _ _ _ (hm.below b1) hl (fun r h => among_lt h) (tells_among [46, 95, 61, 45, 47, 43] _ _ usr_ascii (by simp) hc1)).mono ?_
  rintro e w2 ⟨rfl, hb2⟩
  go_wp2
  go_ret2
  exact ⟨rfl, b1.then_ hb2⟩

theorem User_calls (l : List UInt8) (w : World) (hm : Max w) (hl : l.length ≤ 1000000) :
    Calls Tryz.prog 45 #[.string ⟨l.toArray⟩] w fun e w' => e = .returned (.bool (nUserF l)) ∧ Below w.heap.size w w' := by
  go_enter Tryz.func45, Tryz.ntmps45
  go_wp2_with fail
  refine (nUser_calls l _ hm hl).mono ?_
  rintro e w1 ⟨rfl, b1⟩
  go_wp2
  go_ret
  exact ⟨rfl, b1⟩

end Go.Proofs.YtkbcbikilgcckaaGreatDoor
namespace Go.Proofs.YtkbcbikilgcckaaGreatDoor
open Go.ChangeShapes Go.WideShapes Go.ChangeAt Go.RowKit Go.IntWalk
set_option linter.unusedVariables false

set_option maxHeartbeats 1000000 in
theorem cap_calls (l : List UInt8) (r : Int) (b b2 : Nat) (w : World) (hl : ∀ b ∈ l, b.toNat < 128) (hlen : l.length ≤ 1000000) (hr : 0 ≤ r ∧ r ≤ 1114111) (hok : Utf8.valid r = true)
    (hc : w.cell? ⟨b, 0, none⟩ = some (.string ⟨l.toArray⟩)) (hc2 : w.cell? ⟨b2, 0, none⟩ = some (.func (.func 116) #[] #[.pointer (some ⟨b, 0, none⟩)])) :
    Calls Tryz.prog 118 #[.int .i32 r, .pointer (some ⟨b2, 0, none⟩)] w fun e w' => e = .returned (.bool (isCap l r)) ∧ Below w.heap.size w w' := by
  by_cases h2 : 65 ≤ r ∧ r ≤ 90
  · obtain ⟨h2a, h2b⟩ := h2
    have HE : Hid (isCap l r = true) := by show _ = _; simp [isCap, h2a, h2b]
    go_enter Tryz.func118, Tryz.ntmps118
    go_wp2
    go_ret
    exact ⟨ret_bool HE.out.symm, Below.refl _ _⟩
  · have HE : Hid (isCap l r = isAmong l r) := by show _ = _; unfold isCap; rw [decide_eq_false h2]; simp
    by_cases h3 : 65 ≤ r
    · have h4 : decide (r ≤ 90) = false := by simp; omega
      go_enter Tryz.func118, Tryz.ntmps118
      go_wp2_with (go_at_call 116; refine (among_calls l r b _ hl hlen hr hok hc).mono ?_; rintro e w' ⟨rfl, hb⟩)
      go_ret
      exact ⟨ret_bool HE.out.symm, hb⟩
    · have h4 : decide (65 ≤ r) = false := by simp; omega
      go_enter Tryz.func118, Tryz.ntmps118
      go_wp2_with (go_at_call 116; refine (among_calls l r b _ hl hlen hr hok hc).mono ?_; rintro e w' ⟨rfl, hb⟩)
      go_ret
      exact ⟨ret_bool HE.out.symm, hb⟩

end Go.Proofs.YtkbcbikilgcckaaGreatDoor
namespace Go.Proofs.YtkbcbikilgcckaaGreatDoor
open Go.ChangeShapes Go.WideShapes Go.ChangeAt Go.RowKit Go.IntWalk
set_option linter.unusedVariables false

theorem room_ascii : ∀ b ∈ ([95, 45] : List UInt8), b.toNat < 128 := by decide
theorem key_ascii : ∀ b ∈ ([95] : List UInt8), b.toNat < 128 := by decide

def capV (w : World) : Value := .func (.func 118) #[] #[.pointer (some ⟨w.heap.size, 0, none⟩)]
theorem cap_make (v : Value) (w : World) (hv1 : ∃ F caps, v = .func (.func F) #[] caps) :
    Calls Tryz.prog 84 #[v] w fun e w' => e = .returned (capV w) ∧ Below w.heap.size w w' ∧ w'.cell? ⟨w.heap.size, 0, none⟩ = some v := by
  obtain ⟨F, caps, rfl⟩ := hv1
  have hmf : ∀ (fn : Fn) (first cap : Array Value) (w : World), (Instr.makeFunc fn first cap).run Tryz.prog w = .ok (.func fn first cap) w := fun _ _ _ _ => rfl
  go_enter Tryz.func84, Tryz.ntmps84
  go_wp2
  go_ret
  refine ⟨rfl, (Below.refl _ _).alloc (Nat.le_refl _) _, ?_⟩
  rw [World.cell?_alloc_at _ _ _ _ rfl]; rfl
theorem tells_cap (l : List UInt8) (w w1 w2 : World) (hl : ∀ b ∈ l, b.toNat < 128) (hlen : l.length ≤ 1000000) (hc : w2.cell? ⟨w.heap.size, 0, none⟩ = some (.string ⟨l.toArray⟩))
    (hc2 : w2.cell? ⟨w1.heap.size, 0, none⟩ = some (amongV w)) : Tells (capV w1) (isCap l) w2 :=
  ⟨118, #[.pointer (some ⟨w1.heap.size, 0, none⟩)], rfl, fun a w' => by kernel_rfl, fun r w' hb hr hok =>
    cap_calls l r _ _ w' hl hlen hr hok ((hb.cell (p := ⟨w.heap.size, 0, none⟩) (World.block_lt_of_cell? w2 _ hc)).trans hc) ((hb.cell (p := ⟨w1.heap.size, 0, none⟩) (World.block_lt_of_cell? w2 _ hc2)).trans hc2)⟩

set_option maxHeartbeats 1000000 in
theorem room_calls (l : List UInt8) (w : World) (hm : Max w) (hl : l.length ≤ 1000000) :
    Calls Tryz.prog 74 #[.string ⟨l.toArray⟩] w (AtPost (roomF l) (l.drop (colonF l + 1)) w) := by
  go_enter Tryz.func74, Tryz.ntmps74
  go_wp2_with fail
  refine (among_make [95, 45] _).mono ?_
  rintro e w1 ⟨rfl, b1, hc1⟩
  go_wp2_with fail
  refine (cap_make (amongV w) _ ⟨_, _, rfl⟩).mono ?_
  rintro e w2 ⟨rfl, hb2, hc2⟩
  have b2 := b1.then_ hb2
  have hc1' := (hb2.cell (p := ⟨w.heap.size, 0, none⟩) (World.block_lt_of_cell? w1 _ hc1)).trans hc1
  go_wp2_with fail
  refine (at_calls l 33 _ _ _ (hm.below b2) hl (fun r h => cap_lt h) (tells_cap [95, 45] _ _ _ room_ascii (by simp) hc1' hc2)).mono ?_
  rintro e w3 ⟨rfl, hb3⟩
  go_wp2
  go_ret2
  exact ⟨rfl, b2.then_ hb3⟩

theorem Room_calls (l : List UInt8) (w : World) (hm : Max w) (hl : l.length ≤ 1000000) :
    Calls Tryz.prog 44 #[.string ⟨l.toArray⟩] w fun e w' => e = .returned (.bool (roomF l)) ∧ Below w.heap.size w w' := by
  go_enter Tryz.func44, Tryz.ntmps44
  go_wp2_with fail
  refine (room_calls l _ hm hl).mono ?_
  rintro e w1 ⟨rfl, b1⟩
  go_wp2
  go_ret
  exact ⟨rfl, b1⟩

theorem prefix_key (l : List UInt8) : Lib.hasPrefix l [101, 100, 50, 53, 53, 49, 57, 58] = (l.take 8 == [101, 100, 50, 53, 53, 49, 57, 58]) := by
  unfold Lib.hasPrefix
  rw [Bool.eq_iff_iff, List.isPrefixOf_iff_prefix, List.prefix_iff_eq_take]
  exact ⟨fun h => beq_iff_eq.2 h.symm, fun h => (beq_iff_eq.1 h).symm⟩

set_option maxHeartbeats 1000000 in
theorem Key_calls (l : List UInt8) (w : World) (hm : Max w) (hl : l.length ≤ 1000000) :
    Calls Tryz.prog 51 #[.string ⟨l.toArray⟩] w fun e w' => e = .returned (.bool (keyF l)) ∧ Below w.heap.size w w' := by
  cases hpx : Lib.hasPrefix l [101, 100, 50, 53, 53, 49, 57, 58] with
  | false =>
    have HE : Hid (keyF l = false) := by show _ = _; unfold keyF; rw [hpx]; rfl
    go_enter Tryz.func51, Tryz.ntmps51
    go_wp2_with fail
    refine (Tryz.strings_CutPrefix ⟨l.toArray⟩ ⟨#[101, 100, 50, 53, 53, 49, 57, 58]⟩ _).mono ?_
    rintro e w' ⟨rfl, rfl⟩
    rw [show (⟨l.toArray⟩ : ByteArray).data.toList = l from rfl, show (⟨#[101, 100, 50, 53, 53, 49, 57, 58]⟩ : ByteArray).data.toList = [101, 100, 50, 53, 53, 49, 57, 58] from rfl, hpx]
    go_wp2
    go_ret
    exact ⟨ret_bool HE.out.symm, Below.refl _ _⟩
  | true =>
    have HTR : Hid (Lib.trimPrefix l [101, 100, 50, 53, 53, 49, 57, 58] = l.drop 8) := by show _ = _; unfold Lib.trimPrefix; rw [hpx]; rfl
    have hT1 : (l.drop 8).length ≤ 1000000 := by rw [List.length_drop]; omega
    by_cases h255 : l.length ≤ 255
    · have hd255 : decide ((l.length : Int) ≤ 255) = true := by simp; omega
      have HE : Hid (keyF l = onlyF (isCap [95]) (l.drop 8)) := by show _ = _; unfold keyF; rw [hpx]; simp [h255]
      obtain ⟨T, hT⟩ : ∃ T, T = l.drop 8 := ⟨_, rfl⟩
      rw [← hT] at HE HTR hT1
      clear hT
      go_enter Tryz.func51, Tryz.ntmps51
      go_wp2_with fail
      refine (Tryz.strings_CutPrefix ⟨l.toArray⟩ ⟨#[101, 100, 50, 53, 53, 49, 57, 58]⟩ _).mono ?_
      rintro e w' ⟨rfl, hw⟩
      have hw' := hw.symm; clear hw; subst hw'
      rw [show (⟨l.toArray⟩ : ByteArray).data.toList = l from rfl, show (⟨#[101, 100, 50, 53, 53, 49, 57, 58]⟩ : ByteArray).data.toList = [101, 100, 50, 53, 53, 49, 57, 58] from rfl, hpx, HTR.out]
      go_wp2_with fail
      refine (among_make [95] _).mono ?_
      rintro e w1 ⟨rfl, b1, hc1⟩
      go_wp2_with fail
      refine (cap_make (amongV w) _ ⟨_, _, rfl⟩).mono ?_
      rintro e w2 ⟨rfl, hb2, hc2⟩
      have b2 := b1.then_ hb2
      have hc1' := (hb2.cell (p := ⟨w.heap.size, 0, none⟩) (World.block_lt_of_cell? w1 _ hc1)).trans hc1
      go_wp2_with fail
      refine (only_calls ⟨T.toArray⟩ _ _ _ (fun r h => cap_lt h) (by show T.length ≤ _; omega) (tells_cap [95] _ _ _ key_ascii (by simp) hc1' hc2)).mono ?_
      rintro e w3 ⟨rfl, hb3⟩
      rw [show (⟨T.toArray⟩ : ByteArray).data.toList = T from rfl]
      go_wp2
      go_ret
      exact ⟨ret_bool HE.out.symm, b2.then_ hb3⟩
    · have hd255 : decide ((l.length : Int) ≤ 255) = false := by simp; omega
      have HE : Hid (keyF l = false) := by show _ = _; unfold keyF; simp [h255]
      go_enter Tryz.func51, Tryz.ntmps51
      go_wp2_with fail
      refine (Tryz.strings_CutPrefix ⟨l.toArray⟩ ⟨#[101, 100, 50, 53, 53, 49, 57, 58]⟩ _).mono ?_
      rintro e w' ⟨rfl, rfl⟩
      rw [show (⟨l.toArray⟩ : ByteArray).data.toList = l from rfl, show (⟨#[101, 100, 50, 53, 53, 49, 57, 58]⟩ : ByteArray).data.toList = [101, 100, 50, 53, 53, 49, 57, 58] from rfl, hpx]
      go_wp2
      go_ret
      exact ⟨ret_bool HE.out.symm, Below.refl _ _⟩
end Go.Proofs.YtkbcbikilgcckaaGreatDoor
