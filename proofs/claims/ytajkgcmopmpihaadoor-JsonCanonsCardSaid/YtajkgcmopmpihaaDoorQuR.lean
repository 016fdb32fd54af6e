/- Layer 8: the document's way to read a rune. -/
import Derived.Test.YtajkgcmopmpihaaDoorQuC
namespace Go.Proofs.YtajkgcmopmpihaaDoor
open Go.ChangeShapes Go.WideShapes Go.ChangeAt Go.RowKit Go.IntWalk
set_option linter.unusedVariables false

def TwoI (p : Nat × Nat) (w : World) (e : Ending) (w' : World) : Prop := e = .returned (.tuple #[.int .i64 (p.1 : Nat), .int .i64 (p.2 : Nat)]) ∧ w = w'
theorem TwoI.of {p q : Nat × Nat} {w : World} (h : q = p) : TwoI q w (.returned (.tuple #[.int .i64 (p.1 : Nat), .int .i64 (p.2 : Nat)])) w := by subst h; exact ⟨rfl, rfl⟩

set_option maxRecDepth 100000 in
set_option maxHeartbeats 2000000 in
theorem rune_low (b : UInt8) (t : List UInt8) (w : World) (hl : (b :: t).length ≤ 1000000) (h : b.toNat < 128) :
    Calls Tryd.prog 42 #[.string ⟨(b :: t).toArray⟩] w (TwoI (runeF (b :: t)) w) := by
  have HE := Lib.hid (cls_1 b t h)
  go_enter Tryd.func42, Tryd.ntmps42
  go_wp2
  go_ret2
  exact TwoI.of HE.out

set_option maxRecDepth 100000 in
set_option maxHeartbeats 2000000 in
theorem rune_none (b : UInt8) (t : List UInt8) (w : World) (hl : (b :: t).length ≤ 1000000) (h : 128 ≤ b.toNat ∧ b.toNat < 192 ∨ 248 ≤ b.toNat) :
    Calls Tryd.prog 42 #[.string ⟨(b :: t).toArray⟩] w (TwoI (runeF (b :: t)) w) := by
  have HE := Lib.hid (cls_0 b t h)
  have hlt := b.toNat_lt
  go_enter Tryd.func42, Tryd.ntmps42
  go_wp2
  all_goals (go_ret2; exact TwoI.of (p := (0, 0)) HE.out)
set_option maxRecDepth 100000 in
set_option maxHeartbeats 4000000 in
theorem rune_2 (b : UInt8) (t : List UInt8) (w : World) (hl : (b :: t).length ≤ 1000000) (h : 192 ≤ b.toNat ∧ b.toNat < 224) :
    Calls Tryd.prog 42 #[.string ⟨(b :: t).toArray⟩] w (TwoI (runeF (b :: t)) w) := by
  have HC := Lib.hid (cls_2 b t h)
  have hc0 : b.toNat % 32 < 32 := by omega
  have hlt := b.toNat_lt
  by_cases hs : t.length + 1 < 2
  · have HE := Lib.hid (HC.out.short hs)
    go_enter Tryd.func42, Tryd.ntmps42
    go_wp2
    all_goals (go_ret2; exact TwoI.of (p := (0, 0)) HE.out)
  · go_enter Tryd.func42, Tryd.ntmps42
    go_wp2
    go_loop [4, 7] (fun c v => ∃ k : Nat, k ≤ 2 - 1 ∧ v = .int .i64 ((k + 1 : Nat) : Int) ∧ c = .int .i64 (accF (b.toNat % 32) (b :: t) k : Nat) ∧ Hid (∀ j, 1 ≤ j → j < k + 1 → contB ((b :: t).getD j 0).toNat = true)) (fun _ v => 2 - (intOf v).toNat)
    case atStart => exact ⟨0, by omega, rfl, by show Value.int _ _ = Value.int _ _; congr 1, fun j h1 h2 => by omega⟩
    case round =>
      obtain ⟨k, hk, rfl, rfl, hall⟩ := hrel
      obtain ⟨C, hC⟩ : ∃ C, accF (b.toNat % 32) (b :: t) k = C := ⟨_, rfl⟩
      have hCs := accF_small (b :: t) hc0 (k := k) (by omega)
      rw [hC] at hCs
      rw [hC]
      have HC2 := Lib.hid hC; clear hC
      by_cases hlt2 : k < 2 - 1
      · have hin : k + 1 < (b :: t).length := by rw [List.length_cons]; omega
        obtain ⟨d, hd⟩ : ∃ d, (b :: t)[k + 1] = d := ⟨_, rfl⟩
        have hdg : Hid ((b :: t).getD (k + 1) 0 = d) := by show _ = _; rw [List.getD_eq_getElem?_getD, List.getElem?_eq_getElem hin]; exact hd
        have hdl := d.toNat_lt
        by_cases hb : 128 ≤ d.toNat ∧ d.toNat < 192
        · go_wp2
          go_round
          case rel =>
            have e : accF (b.toNat % 32) (b :: t) (k + 1) = C * 64 + d.toNat % 64 := by
              show accF (b.toNat % 32) (b :: t) k * 64 + ((b :: t).getD (k + 1) 0).toNat % 64 = _
              rw [HC2.out, hdg.out]
            refine ⟨_, _, _, _, ⟨k + 1, by omega, by go_num, ?_, fun j h1 h2 => ?_⟩, rfl, rfl, rfl, rfl⟩
            · rw [e]; congr 1
            · rw [← List.getD_eq_getElem?_getD]
              by_cases h : j < k + 1
              · exact hall.out j h1 h
              · rw [show j = k + 1 from by omega, hdg.out]; simp [contB]; omega
          case measure => simp [intOf]; omega
        · have HE := Lib.hid (HC.out.bad (k + 1) (by omega) (by omega) (by rw [hdg.out]; simp only [contB]; exact decide_eq_false hb))
          go_wp2
          all_goals (go_ret2; exact TwoI.of (p := (0, 0)) HE.out)
      · have hk' : k = 2 - 1 := by omega
        cases hok : okC 128 C with
        | false =>
          have HE := Lib.hid (HC.out.out (by rw [← hk', HC2.out]; exact hok))
          simp only [okC, decide_eq_false_iff_not] at hok
          go_wp2
          all_goals first | (exfalso; omega) | (go_ret2; exact TwoI.of (p := (0, 0)) HE.out)
        | true =>
          have HE := Lib.hid (HC.out.good (by rw [List.length_cons]; omega) (by rw [← show k + 1 = 2 from by omega]; exact hall.out) (by rw [← hk', HC2.out]; exact hok))
          rw [← hk', HC2.out] at HE
          simp only [okC, decide_eq_true_eq] at hok
          go_wp2
          all_goals first | (exfalso; omega) | (go_ret2; exact TwoI.of (p := (C, 2)) HE.out)

set_option maxRecDepth 100000 in
set_option maxHeartbeats 4000000 in
theorem rune_3 (b : UInt8) (t : List UInt8) (w : World) (hl : (b :: t).length ≤ 1000000) (h : 224 ≤ b.toNat ∧ b.toNat < 240) :
    Calls Tryd.prog 42 #[.string ⟨(b :: t).toArray⟩] w (TwoI (runeF (b :: t)) w) := by
  have HC := Lib.hid (cls_3 b t h)
  have hc0 : b.toNat % 16 < 32 := by omega
  have hlt := b.toNat_lt
  by_cases hs : t.length + 1 < 3
  · have HE := Lib.hid (HC.out.short hs)
    go_enter Tryd.func42, Tryd.ntmps42
    go_wp2
    all_goals (go_ret2; exact TwoI.of (p := (0, 0)) HE.out)
  · go_enter Tryd.func42, Tryd.ntmps42
    go_wp2
    go_loop [4, 7] (fun c v => ∃ k : Nat, k ≤ 3 - 1 ∧ v = .int .i64 ((k + 1 : Nat) : Int) ∧ c = .int .i64 (accF (b.toNat % 16) (b :: t) k : Nat) ∧ Hid (∀ j, 1 ≤ j → j < k + 1 → contB ((b :: t).getD j 0).toNat = true)) (fun _ v => 3 - (intOf v).toNat)
    case atStart => exact ⟨0, by omega, rfl, by show Value.int _ _ = Value.int _ _; congr 1, fun j h1 h2 => by omega⟩
    case round =>
      obtain ⟨k, hk, rfl, rfl, hall⟩ := hrel
      obtain ⟨C, hC⟩ : ∃ C, accF (b.toNat % 16) (b :: t) k = C := ⟨_, rfl⟩
      have hCs := accF_small (b :: t) hc0 (k := k) (by omega)
      rw [hC] at hCs
      rw [hC]
      have HC2 := Lib.hid hC; clear hC
      by_cases hlt2 : k < 3 - 1
      · have hin : k + 1 < (b :: t).length := by rw [List.length_cons]; omega
        obtain ⟨d, hd⟩ : ∃ d, (b :: t)[k + 1] = d := ⟨_, rfl⟩
        have hdg : Hid ((b :: t).getD (k + 1) 0 = d) := by show _ = _; rw [List.getD_eq_getElem?_getD, List.getElem?_eq_getElem hin]; exact hd
        have hdl := d.toNat_lt
        by_cases hb : 128 ≤ d.toNat ∧ d.toNat < 192
        · go_wp2
          go_round
          case rel =>
            have e : accF (b.toNat % 16) (b :: t) (k + 1) = C * 64 + d.toNat % 64 := by
              show accF (b.toNat % 16) (b :: t) k * 64 + ((b :: t).getD (k + 1) 0).toNat % 64 = _
              rw [HC2.out, hdg.out]
            refine ⟨_, _, _, _, ⟨k + 1, by omega, by go_num, ?_, fun j h1 h2 => ?_⟩, rfl, rfl, rfl, rfl⟩
            · rw [e]; congr 1
            · rw [← List.getD_eq_getElem?_getD]
              by_cases h : j < k + 1
              · exact hall.out j h1 h
              · rw [show j = k + 1 from by omega, hdg.out]; simp [contB]; omega
          case measure => simp [intOf]; omega
        · have HE := Lib.hid (HC.out.bad (k + 1) (by omega) (by omega) (by rw [hdg.out]; simp only [contB]; exact decide_eq_false hb))
          go_wp2
          all_goals (go_ret2; exact TwoI.of (p := (0, 0)) HE.out)
      · have hk' : k = 3 - 1 := by omega
        cases hok : okC 2048 C with
        | false =>
          have HE := Lib.hid (HC.out.out (by rw [← hk', HC2.out]; exact hok))
          simp only [okC, decide_eq_false_iff_not] at hok
          go_wp2
          all_goals first | (exfalso; omega) | (go_ret2; exact TwoI.of (p := (0, 0)) HE.out)
        | true =>
          have HE := Lib.hid (HC.out.good (by rw [List.length_cons]; omega) (by rw [← show k + 1 = 3 from by omega]; exact hall.out) (by rw [← hk', HC2.out]; exact hok))
          rw [← hk', HC2.out] at HE
          simp only [okC, decide_eq_true_eq] at hok
          go_wp2
          all_goals first | (exfalso; omega) | (go_ret2; exact TwoI.of (p := (C, 3)) HE.out)

set_option maxRecDepth 100000 in
set_option maxHeartbeats 4000000 in
theorem rune_4 (b : UInt8) (t : List UInt8) (w : World) (hl : (b :: t).length ≤ 1000000) (h : 240 ≤ b.toNat ∧ b.toNat < 248) :
    Calls Tryd.prog 42 #[.string ⟨(b :: t).toArray⟩] w (TwoI (runeF (b :: t)) w) := by
  have HC := Lib.hid (cls_4 b t h)
  have hc0 : b.toNat % 8 < 32 := by omega
  have hlt := b.toNat_lt
  by_cases hs : t.length + 1 < 4
  · have HE := Lib.hid (HC.out.short hs)
    go_enter Tryd.func42, Tryd.ntmps42
    go_wp2
    all_goals (go_ret2; exact TwoI.of (p := (0, 0)) HE.out)
  · go_enter Tryd.func42, Tryd.ntmps42
    go_wp2
    go_loop [4, 7] (fun c v => ∃ k : Nat, k ≤ 4 - 1 ∧ v = .int .i64 ((k + 1 : Nat) : Int) ∧ c = .int .i64 (accF (b.toNat % 8) (b :: t) k : Nat) ∧ Hid (∀ j, 1 ≤ j → j < k + 1 → contB ((b :: t).getD j 0).toNat = true)) (fun _ v => 4 - (intOf v).toNat)
    case atStart => exact ⟨0, by omega, rfl, by show Value.int _ _ = Value.int _ _; congr 1, fun j h1 h2 => by omega⟩
    case round =>
      obtain ⟨k, hk, rfl, rfl, hall⟩ := hrel
      obtain ⟨C, hC⟩ : ∃ C, accF (b.toNat % 8) (b :: t) k = C := ⟨_, rfl⟩
      have hCs := accF_small (b :: t) hc0 (k := k) (by omega)
      rw [hC] at hCs
      rw [hC]
      have HC2 := Lib.hid hC; clear hC
      by_cases hlt2 : k < 4 - 1
      · have hin : k + 1 < (b :: t).length := by rw [List.length_cons]; omega
        obtain ⟨d, hd⟩ : ∃ d, (b :: t)[k + 1] = d := ⟨_, rfl⟩
        have hdg : Hid ((b :: t).getD (k + 1) 0 = d) := by show _ = _; rw [List.getD_eq_getElem?_getD, List.getElem?_eq_getElem hin]; exact hd
        have hdl := d.toNat_lt
        by_cases hb : 128 ≤ d.toNat ∧ d.toNat < 192
        · go_wp2
          go_round
          case rel =>
            have e : accF (b.toNat % 8) (b :: t) (k + 1) = C * 64 + d.toNat % 64 := by
              show accF (b.toNat % 8) (b :: t) k * 64 + ((b :: t).getD (k + 1) 0).toNat % 64 = _
              rw [HC2.out, hdg.out]
            refine ⟨_, _, _, _, ⟨k + 1, by omega, by go_num, ?_, fun j h1 h2 => ?_⟩, rfl, rfl, rfl, rfl⟩
            · rw [e]; congr 1
            · rw [← List.getD_eq_getElem?_getD]
              by_cases h : j < k + 1
              · exact hall.out j h1 h
              · rw [show j = k + 1 from by omega, hdg.out]; simp [contB]; omega
          case measure => simp [intOf]; omega
        · have HE := Lib.hid (HC.out.bad (k + 1) (by omega) (by omega) (by rw [hdg.out]; simp only [contB]; exact decide_eq_false hb))
          go_wp2
          all_goals (go_ret2; exact TwoI.of (p := (0, 0)) HE.out)
      · have hk' : k = 4 - 1 := by omega
        cases hok : okC 65536 C with
        | false =>
          have HE := Lib.hid (HC.out.out (by rw [← hk', HC2.out]; exact hok))
          simp only [okC, decide_eq_false_iff_not] at hok
          go_wp2
          all_goals first | (exfalso; omega) | (go_ret2; exact TwoI.of (p := (0, 0)) HE.out)
        | true =>
          have HE := Lib.hid (HC.out.good (by rw [List.length_cons]; omega) (by rw [← show k + 1 = 4 from by omega]; exact hall.out) (by rw [← hk', HC2.out]; exact hok))
          rw [← hk', HC2.out] at HE
          simp only [okC, decide_eq_true_eq] at hok
          go_wp2
          all_goals first | (exfalso; omega) | (go_ret2; exact TwoI.of (p := (C, 4)) HE.out)

set_option maxRecDepth 100000 in
set_option maxHeartbeats 2000000 in
theorem rune_nil (w : World) :
    Calls Tryd.prog 42 #[.string ⟨([] : List UInt8).toArray⟩] w (TwoI (runeF []) w) := by
  go_enter Tryd.func42, Tryd.ntmps42
  go_wp2
  go_ret2
  exact TwoI.of (p := (0, 0)) runeF_nil
theorem rune_calls (l : List UInt8) (w : World) (hl : l.length ≤ 1000000) :
    Calls Tryd.prog 42 #[.string ⟨l.toArray⟩] w (TwoI (runeF l) w) := by
  cases l with
  | nil => exact rune_nil w
  | cons b t =>
    have hlt := b.toNat_lt
    by_cases h1 : b.toNat < 128
    · exact rune_low b t w hl h1
    · by_cases h2 : b.toNat < 192
      · exact rune_none b t w hl (.inl ⟨by omega, h2⟩)
      · by_cases h3 : b.toNat < 224
        · exact rune_2 b t w hl ⟨by omega, h3⟩
        · by_cases h4 : b.toNat < 240
          · exact rune_3 b t w hl ⟨by omega, h4⟩
          · by_cases h5 : b.toNat < 248
            · exact rune_4 b t w hl ⟨by omega, h5⟩
            · exact rune_none b t w hl (.inr (by omega))
end Go.Proofs.YtajkgcmopmpihaaDoor
