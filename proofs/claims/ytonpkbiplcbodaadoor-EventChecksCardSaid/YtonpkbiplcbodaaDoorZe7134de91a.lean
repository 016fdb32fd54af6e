/- Texts put together: IdU Cb EcB. -/
import Derived.Test.YtonpkbiplcbodaaDoorZ1b1d291a22
import Derived.WalkKit
import Derived.Lib.Bytealg
import Derived.Test.YtonpkbiplcbodaaDoorZ61d21aa1e9
import Derived.Test.YtonpkbiplcbodaaDoorZ6f0bdd4368
namespace Go.Proofs.YtonpkbiplcbodaaDoor
open Go.ChangeShapes Go.WideShapes Go.ChangeAt Go.RowKit Go.IntWalk
set_option linter.unusedVariables false

theorem room_ascii : ∀ b ∈ ([95, 45] : List UInt8), b.toNat < 128 := by decide
theorem key_ascii : ∀ b ∈ ([95] : List UInt8), b.toNat < 128 := by decide

def capV (w : World) : Value := .func (.func 71) #[] #[.pointer (some ⟨w.heap.size, 0, none⟩)]
theorem cap_make (v : Value) (w : World) (hv1 : ∃ F caps, v = .func (.func F) #[] caps) :
    Calls Tryd.prog 51 #[v] w fun e w' => e = .returned (capV w) ∧ Below w.heap.size w w' ∧ w'.cell? ⟨w.heap.size, 0, none⟩ = some v := by
  obtain ⟨F, caps, rfl⟩ := hv1
  have hmf : ∀ (fn : Fn) (first cap : Array Value) (w : World), (Instr.makeFunc fn first cap).run Tryd.prog w = .ok (.func fn first cap) w := fun _ _ _ _ => rfl
  go_enter Tryd.func51, Tryd.ntmps51
  go_wp2
  go_ret
  refine ⟨rfl, (Below.refl _ _).alloc (Nat.le_refl _) _, ?_⟩
  rw [World.cell?_alloc_at _ _ _ _ rfl]; rfl
theorem tells_cap (l : List UInt8) (w w1 w2 : World) (hl : ∀ b ∈ l, b.toNat < 128) (hlen : l.length ≤ 1000000) (hc : w2.cell? ⟨w.heap.size, 0, none⟩ = some (.string ⟨l.toArray⟩))
    (hc2 : w2.cell? ⟨w1.heap.size, 0, none⟩ = some (amongV w)) : Tells (capV w1) (isCap l) w2 :=
  ⟨71, #[.pointer (some ⟨w1.heap.size, 0, none⟩)], rfl, fun a w' => by kernel_rfl, fun r w' hb hr hok =>
    cap_calls l r _ _ w' hl hlen hr hok ((hb.cell (p := ⟨w.heap.size, 0, none⟩) (World.block_lt_of_cell? w2 _ hc)).trans hc) ((hb.cell (p := ⟨w1.heap.size, 0, none⟩) (World.block_lt_of_cell? w2 _ hc2)).trans hc2)⟩

set_option maxHeartbeats 1000000 in
theorem room_calls (l : List UInt8) (w : World) (hm : Max w) (hl : l.length ≤ 1000000) :
    Calls Tryd.prog 41 #[.string ⟨l.toArray⟩] w (AtPost (roomF l) (l.drop (colonF l + 1)) w) := by
  go_enter Tryd.func41, Tryd.ntmps41
  go_wp2_with fail
  refine (among_make [95, 45] _).mono ?_
  rintro e w1 ⟨rfl, b1, hc1⟩
  go_wp2_with fail
  refine (cap_make (amongV w) _ ⟨_, _, rfl⟩).mono ?_
  rintro e w2 ⟨rfl, hb2, hc2⟩
  have b2 := b1.then_ hb2
  have hc1' := (hb2.cell (p := ⟨w.heap.size, 0, none⟩) (World.block_lt_of_cell? w1 _ hc1)).trans hc1
  go_wp2_with fail
  refine (at_calls l 33 _ _ _ (hm.below b2) hl (fun r h => cap_lt h) (tells_cap [95, 45] _ _ _ room_ascii (by simp) hc1' hc2)).mono ?_
  rintro e w3 ⟨rfl, hb3⟩
  go_wp2
  go_ret2
  exact ⟨rfl, b2.then_ hb3⟩

theorem Room_calls (l : List UInt8) (w : World) (hm : Max w) (hl : l.length ≤ 1000000) :
    Calls Tryd.prog 24 #[.string ⟨l.toArray⟩] w fun e w' => e = .returned (.bool (roomF l)) ∧ Below w.heap.size w w' := by
  go_enter Tryd.func24, Tryd.ntmps24
  go_wp2_with fail
  refine (room_calls l _ hm hl).mono ?_
  rintro e w1 ⟨rfl, b1⟩
  go_wp2
  go_ret
  exact ⟨rfl, b1⟩

theorem prefix_key (l : List UInt8) : Lib.hasPrefix l [101, 100, 50, 53, 53, 49, 57, 58] = (l.take 8 == [101, 100, 50, 53, 53, 49, 57, 58]) := by
  unfold Lib.hasPrefix
  rw [Bool.eq_iff_iff, List.isPrefixOf_iff_prefix, List.prefix_iff_eq_take]
  exact ⟨fun h => beq_iff_eq.2 h.symm, fun h => (beq_iff_eq.1 h).symm⟩

set_option maxHeartbeats 1000000 in
theorem Key_calls (l : List UInt8) (w : World) (hm : Max w) (hl : l.length ≤ 1000000) :
    Calls Tryd.prog 31 #[.string ⟨l.toArray⟩] w fun e w' => e = .returned (.bool (keyF l)) ∧ Below w.heap.size w w' := by
  cases hpx : Lib.hasPrefix l [101, 100, 50, 53, 53, 49, 57, 58] with
  | false =>
    have HE : Hid (keyF l = false) := by show _ = _; unfold keyF; rw [hpx]; rfl
    go_enter Tryd.func31, Tryd.ntmps31
    go_wp2_with fail
    refine (Tryd.strings_CutPrefix ⟨l.toArray⟩ ⟨#[101, 100, 50, 53, 53, 49, 57, 58]⟩ _).mono ?_
    rintro e w' ⟨rfl, rfl⟩
    rw [show (⟨l.toArray⟩ : ByteArray).data.toList = l from rfl, show (⟨#[101, 100, 50, 53, 53, 49, 57, 58]⟩ : ByteArray).data.toList = [101, 100, 50, 53, 53, 49, 57, 58] from rfl, hpx]
    go_wp2
    go_ret
    exact ⟨ret_bool HE.out.symm, Below.refl _ _⟩
  | true =>
    have HTR : Hid (Lib.trimPrefix l [101, 100, 50, 53, 53, 49, 57, 58] = l.drop 8) := by show _ = _; unfold Lib.trimPrefix; rw [hpx]; rfl
    have hT1 : (l.drop 8).length ≤ 1000000 := by rw [List.length_drop]; omega
    by_cases h255 : l.length ≤ 255
    · have hd255 : decide ((l.length : Int) ≤ 255) = true := by simp; omega
      have HE : Hid (keyF l = onlyF (isCap [95]) (l.drop 8)) := by show _ = _; unfold keyF; rw [hpx]; simp [h255]
      obtain ⟨T, hT⟩ : ∃ T, T = l.drop 8 := ⟨_, rfl⟩
      rw [← hT] at HE HTR hT1
      clear hT
      go_enter Tryd.func31, Tryd.ntmps31
      go_wp2_with fail
      refine (Tryd.strings_CutPrefix ⟨l.toArray⟩ ⟨#[101, 100, 50, 53, 53, 49, 57, 58]⟩ _).mono ?_
      rintro e w' ⟨rfl, hw⟩
      have hw' := hw.symm; clear hw; subst hw'
      rw [show (⟨l.toArray⟩ : ByteArray).data.toList = l from rfl, show (⟨#[101, 100, 50, 53, 53, 49, 57, 58]⟩ : ByteArray).data.toList = [101, 100, 50, 53, 53, 49, 57, 58] from rfl, hpx, HTR.out]
      go_wp2_with fail
      refine (among_make [95] _).mono ?_
      rintro e w1 ⟨rfl, b1, hc1⟩
      go_wp2_with fail
      refine (cap_make (amongV w) _ ⟨_, _, rfl⟩).mono ?_
      rintro e w2 ⟨rfl, hb2, hc2⟩
      have b2 := b1.then_ hb2
      have hc1' := (hb2.cell (p := ⟨w.heap.size, 0, none⟩) (World.block_lt_of_cell? w1 _ hc1)).trans hc1
      go_wp2_with fail
      refine (only_calls ⟨T.toArray⟩ _ _ _ (fun r h => cap_lt h) (by show T.length ≤ _; omega) (tells_cap [95] _ _ _ key_ascii (by simp) hc1' hc2)).mono ?_
      rintro e w3 ⟨rfl, hb3⟩
      rw [show (⟨T.toArray⟩ : ByteArray).data.toList = T from rfl]
      go_wp2
      go_ret
      exact ⟨ret_bool HE.out.symm, b2.then_ hb3⟩
    · have hd255 : decide ((l.length : Int) ≤ 255) = false := by simp; omega
      have HE : Hid (keyF l = false) := by show _ = _; unfold keyF; simp [h255]
      go_enter Tryd.func31, Tryd.ntmps31
      go_wp2_with fail
      refine (Tryd.strings_CutPrefix ⟨l.toArray⟩ ⟨#[101, 100, 50, 53, 53, 49, 57, 58]⟩ _).mono ?_
      rintro e w' ⟨rfl, rfl⟩
      rw [show (⟨l.toArray⟩ : ByteArray).data.toList = l from rfl, show (⟨#[101, 100, 50, 53, 53, 49, 57, 58]⟩ : ByteArray).data.toList = [101, 100, 50, 53, 53, 49, 57, 58] from rfl, hpx]
      go_wp2
      go_ret
      exact ⟨ret_bool HE.out.symm, Below.refl _ _⟩
end Go.Proofs.YtonpkbiplcbodaaDoor
namespace Go.Proofs.YtonpkbiplcbodaaDoor
open Go.Lib
set_option linter.unusedVariables false

theorem cb_self : ∀ a : List UInt8, compareBytes a a = 0
  | [] => rfl
  | x :: a => by
    unfold compareBytes
    rw [if_neg (UInt8.lt_irrefl x), if_neg (UInt8.lt_irrefl x)]
    exact cb_self a
theorem cb_eq : ∀ {a b : List UInt8}, compareBytes a b = 0 → a = b
  | [], [], _ => rfl
  | [], _ :: _, h => by simp [compareBytes] at h
  | _ :: _, [], h => by simp [compareBytes] at h
  | x :: a, y :: b, h => by
    unfold compareBytes at h
    split at h
    · simp at h
    · rename_i h1
      split at h
      · simp at h
      · rename_i h2
        have hxy : x = y := UInt8.toNat_inj.1 (by
          have h3 := UInt8.not_lt.1 h1
          have h4 := UInt8.not_lt.1 h2
          rw [UInt8.le_iff_toNat_le] at h3 h4
          omega)
        rw [hxy, cb_eq h]
theorem cb_three : ∀ a b : List UInt8, compareBytes a b = -1 ∨ compareBytes a b = 0 ∨ compareBytes a b = 1
  | [], [] => .inr (.inl rfl)
  | [], _ :: _ => .inl rfl
  | _ :: _, [] => .inr (.inr rfl)
  | x :: a, y :: b => by
    unfold compareBytes
    split
    · exact .inl rfl
    · split
      · exact .inr (.inr rfl)
      · exact cb_three a b
theorem cb_anti : ∀ a b : List UInt8, compareBytes b a = - compareBytes a b
  | [], [] => rfl
  | [], _ :: _ => rfl
  | _ :: _, [] => rfl
  | x :: a, y :: b => by
    unfold compareBytes
    by_cases h1 : x < y
    · have h2 : ¬ y < x := by rw [UInt8.lt_iff_toNat_lt] at *; omega
      rw [if_pos h1, if_neg h2, if_pos h1]; rfl
    · by_cases h2 : y < x
      · rw [if_pos h2, if_neg h1, if_pos h2]
      · rw [if_neg h1, if_neg h2, if_neg h2, if_neg h1]
        exact cb_anti a b
theorem cb_trans : ∀ {a b c : List UInt8}, compareBytes a b = -1 → compareBytes b c = -1 → compareBytes a c = -1
  | [], [], _, h, _ => by simp [compareBytes] at h
  | _, _ :: _, [], _, h => by simp [compareBytes] at h
  | [], _ :: _, _ :: _, _, _ => rfl
  | _ :: _, [], _, h, _ => by simp [compareBytes] at h
  | x :: a, y :: b, z :: c, h1, h2 => by
    unfold compareBytes at h1 h2 ⊢
    have L : ∀ p q : UInt8, p < q ↔ p.toNat < q.toNat := fun p q => UInt8.lt_iff_toNat_lt
    by_cases hxz : x < z
    · rw [if_pos hxz]
    · rw [if_neg hxz]
      split at h1
      · rename_i hxy
        split at h2
        · rename_i hyz; rw [L] at *; omega
        · rename_i hyz
          split at h2
          · simp at h2
          · rename_i hzy; rw [L] at *; omega
      · rename_i hxy
        split at h1
        · simp at h1
        · rename_i hyx
          split at h2
          · rename_i hyz; rw [L] at *; omega
          · rename_i hyz
            split at h2
            · simp at h2
            · rename_i hzy
              rw [if_neg (by rw [L] at *; omega)]
              exact cb_trans h1 h2
/-- '<' of texts. -/
theorem bl_cb : ∀ a b : List UInt8, Op.bytesLess a b = decide (compareBytes a b = -1)
  | [], [] => rfl
  | [], _ :: _ => rfl
  | _ :: _, [] => rfl
  | x :: a, y :: b => by
    have ih := bl_cb a b
    unfold Op.bytesLess compareBytes
    by_cases h1 : x < y
    · rw [if_pos h1]; simp [h1]
    · rw [if_neg h1]
      by_cases h2 : y < x
      · rw [if_pos h2]
        have h3 : x ≠ y := by intro e; subst e; exact UInt8.lt_irrefl _ h2
        simp [h1, h3]
      · rw [if_neg h2, ← ih]
        have hxy : x = y := UInt8.toNat_inj.1 (by
          have h3 := UInt8.not_lt.1 h1
          have h4 := UInt8.not_lt.1 h2
          rw [UInt8.le_iff_toNat_le] at h3 h4
          omega)
        simp [hxy]
/-- A pair. -/
abbrev Pr := List UInt8 × List UInt8
/-- How two pairs stand. -/
def cmpP (p q : Pr) : Int := if compareBytes p.1 q.1 = 0 then compareBytes p.2 q.2 else compareBytes p.1 q.1
theorem cmpP_three (p q : Pr) : cmpP p q = -1 ∨ cmpP p q = 0 ∨ cmpP p q = 1 := by
  unfold cmpP; split
  · exact cb_three _ _
  · exact cb_three _ _
theorem cmpP_self (p : Pr) : cmpP p p = 0 := by unfold cmpP; rw [if_pos (cb_self _)]; exact cb_self _
theorem cmpP_eq {p q : Pr} (h : cmpP p q = 0) : p = q := by
  unfold cmpP at h
  split at h
  · rename_i h1; exact Prod.ext (cb_eq h1) (cb_eq h)
  · rename_i h1; exact absurd h h1
theorem cmpP_anti (p q : Pr) : cmpP q p = - cmpP p q := by
  unfold cmpP
  rw [cb_anti p.1 q.1, cb_anti p.2 q.2]
  by_cases h : compareBytes p.1 q.1 = 0
  · rw [if_pos h, if_pos (by omega)]
  · rw [if_neg h, if_neg (by omega)]
theorem cmpP_trans {p q r : Pr} (h1 : cmpP p q = -1) (h2 : cmpP q r = -1) : cmpP p r = -1 := by
  unfold cmpP at *
  split at h1
  · rename_i e1
    have := cb_eq e1
    rw [this]
    split at h2
    · rename_i e2; rw [if_pos e2]; exact cb_trans h1 h2
    · rename_i e2; rw [if_neg e2]; exact h2
  · rename_i e1
    split at h2
    · rename_i e2
      have := cb_eq e2
      rw [← this, if_neg e1]; exact h1
    · rename_i e2
      have := cb_trans h1 h2
      rw [if_neg (by omega)]; exact this
/-- A slot of a state. -/
structure Slt where
  t : List UInt8
  k : List UInt8
  i : List UInt8
def Slt.pr (s : Slt) : Pr := (s.t, s.k)
/-- By rising pairs, each once. -/
def Rise (l : List Slt) : Prop := l.Pairwise fun a b => cmpP a.pr b.pr = -1
/-- How many stand below a pair. -/
def posF (l : List Slt) (p : Pr) : Nat := (l.takeWhile fun s => decide (cmpP s.pr p = -1)).length
theorem posF_le (l : List Slt) (p : Pr) : posF l p ≤ l.length := (List.takeWhile_sublist _).length_le
theorem rise_at {l : List Slt} (h : Rise l) {i j : Nat} (hi : i < j) (hj : j < l.length) : cmpP (l[i]).pr (l[j]).pr = -1 := List.pairwise_iff_getElem.1 h i j (by omega) hj hi
theorem posF_low : ∀ (l : List Slt) (p : Pr) (i : Nat) (h : i < l.length), i < posF l p → cmpP (l[i]).pr p = -1
  | [], _, _, h, _ => absurd h (by simp)
  | s :: l, p, i, h, hi => by
    unfold posF at hi
    by_cases hs : cmpP s.pr p = -1
    · rw [List.takeWhile_cons_of_pos (by simp [hs])] at hi
      cases i with
      | zero => exact hs
      | succ i => exact posF_low l p i (by simpa using h) (by unfold posF; simpa using hi)
    · rw [List.takeWhile_cons_of_neg (by simp [hs])] at hi
      simp at hi
theorem posF_high : ∀ {l : List Slt} (_ : Rise l) (p : Pr) (i : Nat) (h : i < l.length), posF l p ≤ i → cmpP (l[i]).pr p ≠ -1
  | [], _, _, _, h, _ => absurd h (by simp)
  | s :: l, hr, p, i, h, hi => by
    unfold posF at hi
    by_cases hs : cmpP s.pr p = -1
    · rw [List.takeWhile_cons_of_pos (by simp [hs])] at hi
      cases i with
      | zero => simp at hi
      | succ i =>
        have := posF_high (List.Pairwise.of_cons hr) p i (by simpa using h) (by unfold posF; simpa using hi)
        simpa using this
    · cases i with
      | zero => exact hs
      | succ i =>
        intro e
        have h1 := (List.pairwise_cons.1 hr).1 (l[i]'(by simpa using h)) (List.getElem_mem _)
        exact hs (cmpP_trans h1 (by simpa using e))
/-- The least place from which on nothing stands below p is where p is, or belongs. -/
theorem posF_uniq {l : List Slt} (hr : Rise l) (p : Pr) (i : Nat) (hi : i ≤ l.length) (h1 : ∀ j, ∀ h : j < l.length, j < i → cmpP (l[j]).pr p = -1) (h2 : ∀ j, ∀ h : j < l.length, i ≤ j → cmpP (l[j]).pr p ≠ -1) : i = posF l p := by
  rcases Nat.lt_trichotomy i (posF l p) with h | h | h
  · have := posF_le l p
    exact absurd (posF_low l p i (by omega) h) (h2 i (by omega) (Nat.le_refl _))
  · exact h
  · exact absurd (h1 (posF l p) (by omega) h) (posF_high hr p _ (by omega) (Nat.le_refl _))
def foundF (l : List Slt) (p : Pr) : Bool := match l[posF l p]? with
  | some s => decide (cmpP s.pr p = 0)
  | none => false
end Go.Proofs.YtonpkbiplcbodaaDoor
namespace Go.Proofs.YtonpkbiplcbodaaDoor
open Go.ChangeShapes Go.WideShapes Go.ChangeAt Go.RowKit Go.IntWalk
set_option linter.unusedVariables false
set_option maxRecDepth 100000

theorem isLet_calls (l : List UInt8) (n : Nat) (hn : n = 32 ∨ n = 64) (w : World) (hl : l.length ≤ 1000000) : Calls Tryd.prog 11 #[.string ⟨l.toArray⟩, .int .i64 (n : Int)] w fun e w' => e = .returned (.bool (letN l n)) ∧ Below w.heap.size w w' := by
  obtain ⟨k, hk, hlk⟩ : ∃ k : Nat, lenF (n : Int) = (k : Int) ∧ letN l n = (decide (l.length = k) && (decF false l).isSome) := by
    rcases hn with rfl | rfl
    · exact ⟨43, by decide, letN_32 l⟩
    · exact ⟨86, by decide, letN_64 l⟩
  have hn2 : (n : Int) ≤ 1152921504606846976 := by omega
  have HLK := Lib.hid hlk
  have HN := Lib.hid hn2
  have HD := Lib.hid (show Calls Tryd.prog 29 #[.string ⟨l.toArray⟩, .bool false] w (DecPost false l w.heap.size w) from decode_calls ⟨l.toArray⟩ false w (by show l.length ≤ _; omega))
  have hlen := len_calls (n : Int) w hn2 (by omega)
  rw [hk] at hlen
  have HLEN := Lib.hid hlen
  clear hlk hn2 hlen hk hn
  by_cases h : l.length = k
  · have t0 : decide ((l.length : Int) = (k : Int)) = true := by simp; omega
    have HE := Lib.hid h
    go_enter Tryd.func11, Tryd.ntmps11
    go_wp2_with fail
    refine HLEN.out.mono ?_
    rintro e w1 ⟨rfl, rfl⟩
    go_wp2_with fail
    refine HD.out.mono ?_
    rintro e w2 hd
    unfold DecPost at hd
    cases hq : decF false l with
    | none =>
      rw [hq] at hd
      obtain ⟨rfl, hb⟩ := hd
      have HQ := Lib.hid hq
      clear hq
      go_wp2_with fail
      go_ret
      exact ⟨by rw [HLK.out, HQ.out]; simp, hb⟩
    | some o =>
      rw [hq] at hd
      obtain ⟨⟨v, rfl, -⟩, hb⟩ := hd
      have HQ := Lib.hid hq
      clear hq
      go_wp2_with fail
      go_ret
      exact ⟨by rw [HLK.out, HQ.out, HE.out]; simp, hb⟩
  · have t0 : decide ((l.length : Int) = (k : Int)) = false := by simp; omega
    have HE := Lib.hid h
    have t1 : ¬ ((l.length : Int) = (k : Int)) := by omega
    go_enter Tryd.func11, Tryd.ntmps11
    go_wp2_with fail
    refine HLEN.out.mono ?_
    rintro e w1 ⟨rfl, rfl⟩
    go_wp2_with fail
    go_ret
    exact ⟨by rw [HLK.out, decide_eq_false HE.out]; rfl, Below.refl _ _⟩
theorem short_calls (l : List UInt8) (w : World) (hl : l.length ≤ 1000000) : Calls Tryd.prog 26 #[.string ⟨l.toArray⟩] w fun e w' => e = .returned (.bool (shortF l)) ∧ Below w.heap.size w w' := by
  have HV := Lib.hid (valid_calls l w hl)
  by_cases h : l.length ≤ 255
  · have t0 : decide ((l.length : Int) ≤ 255) = true := by simp; omega
    have HE := Lib.hid h
    obtain ⟨q, hq⟩ : ∃ q, Lib.validD l = q := ⟨_, rfl⟩
    rw [hq] at HV
    have HQ := Lib.hid hq
    clear hq
    go_enter Tryd.func26, Tryd.ntmps26
    go_wp2_with fail
    refine HV.out.mono ?_
    rintro e w1 ⟨rfl, hb⟩
    go_wp2_with fail
    go_ret
    exact ⟨by unfold shortF; rw [HQ.out, decide_eq_true HE.out]; rfl, hb⟩
  · have t0 : decide ((l.length : Int) ≤ 255) = false := by simp; omega
    have HE := Lib.hid h
    have t1 : ¬ ((l.length : Int) ≤ 255) := by omega
    go_enter Tryd.func26, Tryd.ntmps26
    go_wp2_with fail
    go_ret
    exact ⟨by unfold shortF; rw [decide_eq_false HE.out]; rfl, Below.refl _ _⟩
/-- A result that tells whether something is so. -/
def TellP (P : Prop) (w : World) (en : Ending) (w' : World) : Prop := ∃ r, en = .returned (.bool r) ∧ (r = true ↔ P) ∧ Below w.heap.size w w'
set_option maxHeartbeats 4000000 in
theorem evrises_calls (a b : Sg) (w : World) : Calls Tryd.prog 32 #[a.val, b.val] w (TellP (sgR a b) w) := by
  obtain ⟨a1, a2, a3⟩ := a
  obtain ⟨b1, b2, b3⟩ := b
  unfold Sg.val
  dsimp only
  obtain ⟨w2, hw2⟩ : ∃ x, x = (w.alloc (.cells #[.string ⟨a1.toArray⟩, .string ⟨a2.toArray⟩, .string ⟨a3.toArray⟩] 38)).alloc (.cells #[.string ⟨b1.toArray⟩, .string ⟨b2.toArray⟩, .string ⟨b3.toArray⟩] 38) := ⟨_, rfl⟩
  have h3 := alloc2 w [.string ⟨a1.toArray⟩, .string ⟨a2.toArray⟩, .string ⟨a3.toArray⟩] [.string ⟨b1.toArray⟩, .string ⟨b2.toArray⟩, .string ⟨b3.toArray⟩] 38 38
  have HB : Hid (Below w.heap.size w w2) := Lib.hid (by rw [hw2]; exact h3.2.2)
  obtain ⟨q1, hq1⟩ : ∃ q, Op.bytesLess a1 b1 = q := ⟨_, rfl⟩
  obtain ⟨q2, hq2⟩ : ∃ q, (a1 == b1) = q := ⟨_, rfl⟩
  obtain ⟨q3, hq3⟩ : ∃ q, Op.bytesLess a2 b2 = q := ⟨_, rfl⟩
  have HR : Hid ((q1 || (q2 && q3)) = true ↔ sgR ⟨a1, a2, a3⟩ ⟨b1, b2, b3⟩) := Lib.hid (by
    unfold sgR
    rw [← hq1, ← hq2, ← hq3]; simp)
  clear h3
  go_enter Tryd.func32, Tryd.ntmps32
  cases q1 with
  | true =>
    go_wp2_with fail
    rw [← hw2]
    go_ret
    exact ⟨true, rfl, HR.out, HB.out⟩
  | false =>
    cases q2 with
    | false =>
      go_wp2_with fail
      rw [← hw2]
      go_ret
      exact ⟨false, rfl, HR.out, HB.out⟩
    | true =>
      cases q3 with
      | false =>
        go_wp2_with fail
        rw [← hw2]
        go_ret
        exact ⟨false, rfl, HR.out, HB.out⟩
      | true =>
        go_wp2_with fail
        rw [← hw2]
        go_ret
        exact ⟨true, rfl, HR.out, HB.out⟩
end Go.Proofs.YtonpkbiplcbodaaDoor
