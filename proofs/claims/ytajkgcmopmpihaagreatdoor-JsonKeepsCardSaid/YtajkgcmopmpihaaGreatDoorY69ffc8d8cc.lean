/- Texts put together: JpK. -/
import Derived.Test.YtajkgcmopmpihaaGreatDoorY543ed0df65
import Derived.Test.YtajkgcmopmpihaaGreatDoorYbc60d53a70
import Derived.Shelf.Strings.SlTrimAscii
namespace Go.Proofs.YtajkgcmopmpihaaGreatDoor
open Go.ChangeShapes Go.WideShapes Go.ChangeAt Go.RowKit Go.IntWalk
set_option linter.unusedVariables false
set_option maxRecDepth 100000
theorem dig_mem (c : UInt8) : [48, 49, 50, 51, 52, 53, 54, 55, 56, 57].contains c = digB c := by
 unfold digB
 rw [Bool.eq_iff_iff]
 simp only [List.contains_eq_mem, List.mem_cons, List.not_mem_nil, or_false, decide_eq_true_eq, Bool.and_eq_true, ← UInt8.toNat_inj]
 simp
 omega
theorem dw_nil (p : UInt8 → Bool) : ∀ l : List UInt8, l.dropWhile p = [] ↔ ∀ c ∈ l, p c = true
 | [] => by simp
 | c :: l => by
  have ih := dw_nil p l
  by_cases h : p c = true
  ·rw [List.dropWhile_cons, if_pos h, ih]; simp [h]
  ·rw [List.dropWhile_cons, if_neg h]; simp [h]
theorem dig_fun : (fun c => [48, 49, 50, 51, 52, 53, 54, 55, 56, 57].contains c) = digB := funext dig_mem
theorem tp_calls (l : List UInt8) (w : World) : Calls Tryz.prog 100 #[.string ⟨l.toArray⟩, .string ⟨#[45]⟩] w fun e w' => e = .returned (.string ⟨(signF l).toArray⟩) ∧ w = w' := by
 refine (Tryz.strings_TrimPrefix ⟨l.toArray⟩ ⟨#[45]⟩ w).mono ?_
 rintro e w' ⟨rfl, h⟩
 refine ⟨?_, h.symm⟩
 have : Lib.trimPrefix l [45] = signF l := by
  cases l with
  | nil => rfl
  | cons c q =>
   unfold Lib.trimPrefix signF
   by_cases hc : c = 45
   ·subst hc; simp [Lib.hasPrefix]
   ·have hc2 : (45 == c) = false := by rw [beq_eq_false_iff_ne]; exact fun e => hc e.symm
    simp [hc, Lib.hasPrefix]; exact fun e => hc e.symm
 simp [this]
theorem tl_calls (l : List UInt8) (w : World) : Calls Tryz.prog 101 #[.string ⟨l.toArray⟩, .string ⟨#[48, 49, 50, 51, 52, 53, 54, 55, 56, 57]⟩] w fun e w' => e = .returned (.string ⟨(l.dropWhile digB).toArray⟩) ∧ Below w.heap.size w w' := by
 refine (Any.strings_TrimLeft_laid Tryz.lays161 (by kernel_rfl) ⟨l.toArray⟩ ⟨#[48, 49, 50, 51, 52, 53, 54, 55, 56, 57]⟩ w (by decide) (ascii_of_all (by decide))).mono ?_
 rintro e w' ⟨rfl, h⟩
 refine ⟨?_, h⟩
 simp only [Lib.trimLeftS, dig_fun]
theorem tr_nil (l : List UInt8) : (Lib.trimS l [48, 49, 50, 51, 52, 53, 54, 55, 56, 57] = []) ↔ l.all digB = true := by
 simp only [Lib.trimS, Lib.trimLeftS, Lib.trimRightS, dig_fun]
 constructor
 ·intro h
  have h1 : ∀ c ∈ (l.reverse.dropWhile digB).reverse, digB c = true := by
   have := (dw_nil _ _).1 h
   exact this
  rw [List.all_eq_true]
  intro c hc
  have h2 : l.reverse = l.reverse.takeWhile digB ++ l.reverse.dropWhile digB := List.takeWhile_append_dropWhile.symm
  have h3 : c ∈ l.reverse := List.mem_reverse.2 hc
  rw [h2, List.mem_append] at h3
  rcases h3 with h3 | h3
  ·exact List.all_eq_true.1 List.all_takeWhile c h3
  ·exact h1 c (List.mem_reverse.2 h3)
 ·intro h
  rw [List.all_eq_true] at h
  have h2 : l.reverse.dropWhile digB = [] := (dw_nil _ _).2 (fun c hc => h c (List.mem_reverse.1 hc))
  rw [h2]; rfl
theorem tr_calls (l : List UInt8) (hl : l.length ≤ 65536) (w : World) : Calls Tryz.prog 102 #[.string ⟨l.toArray⟩, .string ⟨#[48, 49, 50, 51, 52, 53, 54, 55, 56, 57]⟩] w fun e w' => (∃ m : List UInt8, e = .returned (.string ⟨m.toArray⟩) ∧ m.isEmpty = l.all digB) ∧ Below w.heap.size w w' := by
 refine (Any.strings_Trim_laid Tryz.lays160 (by kernel_rfl) ⟨l.toArray⟩ ⟨#[48, 49, 50, 51, 52, 53, 54, 55, 56, 57]⟩ w (by show l.length ≤ _; omega) (by decide) (ascii_of_all (by decide))).mono ?_
 rintro e w' ⟨rfl, h⟩
 refine ⟨⟨_, rfl, ?_⟩, h⟩
 rw [Bool.eq_iff_iff, List.isEmpty_iff]
 exact tr_nil l
def headN (r : List UInt8) : Bool := match r with
 | [] => false
 | c :: q => if c = 48 then fracN q else if r.dropWhile digB = r then false else fracN (r.dropWhile digB)
theorem sig_le (l : List UInt8) : (signF l).length ≤ l.length := by
 unfold signF
 split
 ·exact Nat.le_refl _
 ·split
  ·simp
  ·exact Nat.le_refl _
theorem frac_no {r : List UInt8} (h : ¬ [46] <+: r) : fracN r = tailN r := by
 cases r with
 | nil => rfl
 | cons c q =>
  unfold fracN; dsimp only
  rw [if_neg (by rintro rfl; exact h ⟨q, rfl⟩)]
theorem head_no {r : List UInt8} (h : ¬ [48] <+: r) : headN r = if r.dropWhile digB = r then false else fracN (r.dropWhile digB) := by
 cases r with
 | nil => rfl
 | cons c q =>
  unfold headN; dsimp only
  rw [if_neg (by rintro rfl; exact h ⟨q, rfl⟩)]
theorem frac_dot (q : List UInt8) : fracN (46 :: q) = if q.dropWhile digB = q then false else tailN (q.dropWhile digB) := by unfold fracN; dsimp only; rw [if_pos rfl]
theorem u8_ne {c : UInt8} {n : Nat} (h : ¬ c = UInt8.ofNat n) (hn : n < 256) : ¬ (c.toNat : Int) = (n : Int) := by
 intro e; apply h; apply UInt8.toNat_inj.1; rw [UInt8.toNat_ofNat']; omega
set_option maxHeartbeats 4000000 in
theorem isnum_calls (l : List UInt8) (hl : l.length ≤ 65536) (w : World) : Calls Tryz.prog 82 #[.string ⟨l.toArray⟩] w (fun e w' => e = .returned (.bool (isNumF l)) ∧ Below w.heap.size w w') := by
 have HP := Lib.hid (fun W => tp_calls l W)
 obtain ⟨R, hR⟩ : ∃ R, signF l = R := ⟨_, rfl⟩
 have hRl : R.length ≤ 65536 := by rw [← hR]; exact Nat.le_trans (sig_le l) hl
 have HI := Lib.hid (show isNumF l = headN R by rw [← hR]; rfl)
 rw [hR] at HP
 clear hR
 go_enter Tryz.func82, Tryz.ntmps82
 go_wp2_with fail
 refine (HP.out _).mono ?_
 rintro e w1 ⟨rfl, rfl⟩
 have HR := Lib.hid hRl
 clear hRl
 go_wp2_with fail
 by_cases h0 : [48] <+: R
 ·have hd : decide ([48] <+: R) = true := decide_eq_true h0
  obtain ⟨q, rfl⟩ : ∃ q, R = 48 :: q := by obtain ⟨q, hq⟩ := h0; exact ⟨q, hq.symm⟩
  have HF := Lib.hid (show isNumF l = fracN q by rw [HI.out]; unfold headN; dsimp only; rw [if_pos rfl])
  have HQ := Lib.hid (show q.length ≤ 65536 by have := HR.out; simp at this; omega)
  have HB := Lib.hid (Below.refl w.heap.size w)
  clear h0 HP HI HR
  refine (pre_calls [48] _ _).mono ?_
  rintro e w2 ⟨rfl, rfl⟩
  clear hd
  go_upto_region 7 with fail
  go_wp2_with fail
  by_cases hp : [46] <+: q
  ·have hpd : decide ([46] <+: q) = true := decide_eq_true hp
   obtain ⟨qd, rfl⟩ : ∃ qd, q = 46 :: qd := by obtain ⟨q, hq⟩ := hp; exact ⟨q, hq.symm⟩
   clear hp
   refine (pre_calls [46] _ _).mono ?_
   rintro e w9 ⟨rfl, rfl⟩
   go_upto_region 8 with fail
   clear hpd
   go_wp2_with fail
   refine (tl_calls qd _).mono ?_
   rintro e w3 ⟨rfl, hb⟩
   have HB := Lib.hid (HB.out.then_ hb)
   clear hb
   have HF := Lib.hid (HF.out.trans (frac_dot qd))
   obtain ⟨D, hD⟩ : ∃ D, qd.dropWhile digB = D := ⟨_, rfl⟩
   have HQ := Lib.hid (show D.length ≤ 65536 by have h1 := HQ.out; have h2 := (List.dropWhile_sublist (l := qd) digB).length_le; rw [hD] at h2; simp at h1; omega)
   rw [hD] at HF
   rw [hD]
   clear hD
   by_cases he : D = qd
   ·subst he
    have HF := Lib.hid (show isNumF l = false by rw [HF.out, if_pos rfl])
    go_wp2_with fail
    go_ret
    exact ⟨by rw [HF.out]; rfl, HB.out⟩
   ·have HF := Lib.hid (show isNumF l = tailN D by rw [HF.out, if_neg he])
    have hbe : (D == qd) = false := beq_eq_false_iff_ne.2 he
    clear he
    go_upto_region 12 with fail
    clear hbe
    cases D with
    | nil =>
     go_wp2_with fail
     go_ret
     exact ⟨by rw [HF.out]; rfl, HB.out⟩
    | cons c q2 =>
     by_cases hc : c = 101 ∨ c = 69
     ·rcases hc with rfl | rfl
      ·go_upto_region 15 with fail
       cases q2 with
       | nil =>
        go_wp2_with fail
        go_ret
        exact ⟨by rw [HF.out]; rfl, HB.out⟩
       | cons d q3 =>
        by_cases hd : d = 43 ∨ d = 45
        ·rcases hd with rfl | rfl
         ·cases q3 with
          | nil =>
           go_wp2_with fail
           go_ret
           exact ⟨by rw [HF.out]; rfl, HB.out⟩
          | cons d2 q4 =>
           go_wp2_with fail
           refine (tr_calls (d2 :: q4) (by have := HQ.out; simp at this ⊢; omega) _).mono ?_
           rintro e w9 ⟨⟨m, rfl, hm⟩, hb9⟩
           have HB9 := Lib.hid (HB.out.then_ hb9)
           have HM := Lib.hid hm
           clear hb9 hm
           go_wp2_with fail
           go_ret
           exact ⟨by rw [HF.out]; show Ending.returned (Value.bool m.isEmpty) = _; rw [HM.out]; rfl, HB9.out⟩
         ·cases q3 with
          | nil =>
           go_wp2_with fail
           go_ret
           exact ⟨by rw [HF.out]; rfl, HB.out⟩
          | cons d2 q4 =>
           go_wp2_with fail
           refine (tr_calls (d2 :: q4) (by have := HQ.out; simp at this ⊢; omega) _).mono ?_
           rintro e w9 ⟨⟨m, rfl, hm⟩, hb9⟩
           have HB9 := Lib.hid (HB.out.then_ hb9)
           have HM := Lib.hid hm
           clear hb9 hm
           go_wp2_with fail
           go_ret
           exact ⟨by rw [HF.out]; show Ending.returned (Value.bool m.isEmpty) = _; rw [HM.out]; rfl, HB9.out⟩
        ·have HE := Lib.hid hd
         have hd1 : ¬ (d.toNat : Int) = 43 := u8_ne (n := 43) (fun e => hd (.inl e)) (by decide)
         have hd2 : ¬ (d.toNat : Int) = 45 := u8_ne (n := 45) (fun e => hd (.inr e)) (by decide)
         have hd3 : ((d.toNat : Int) == 43) = false := beq_eq_false_iff_ne.2 hd1
         have hd4 : ((d.toNat : Int) == 45) = false := beq_eq_false_iff_ne.2 hd2
         clear hd
         go_wp2_with fail
         refine (tr_calls (d :: q3) (by have := HQ.out; simp at this ⊢; omega) _).mono ?_
         rintro e w9 ⟨⟨m, rfl, hm⟩, hb9⟩
         have HB9 := Lib.hid (HB.out.then_ hb9)
         have HM := Lib.hid hm
         clear hb9 hm
         go_wp2_with fail
         go_ret
         exact ⟨by rw [HF.out]; show Ending.returned (Value.bool m.isEmpty) = _; rw [HM.out]; unfold tailN; dsimp only; rw [if_pos (by decide)]; unfold expN; dsimp only; rw [if_neg HE.out]; rfl, HB9.out⟩
 
      ·go_upto_region 15 with fail
       cases q2 with
       | nil =>
        go_wp2_with fail
        go_ret
        exact ⟨by rw [HF.out]; rfl, HB.out⟩
       | cons d q3 =>
        by_cases hd : d = 43 ∨ d = 45
        ·rcases hd with rfl | rfl
         ·cases q3 with
          | nil =>
           go_wp2_with fail
           go_ret
           exact ⟨by rw [HF.out]; rfl, HB.out⟩
          | cons d2 q4 =>
           go_wp2_with fail
           refine (tr_calls (d2 :: q4) (by have := HQ.out; simp at this ⊢; omega) _).mono ?_
           rintro e w9 ⟨⟨m, rfl, hm⟩, hb9⟩
           have HB9 := Lib.hid (HB.out.then_ hb9)
           have HM := Lib.hid hm
           clear hb9 hm
           go_wp2_with fail
           go_ret
           exact ⟨by rw [HF.out]; show Ending.returned (Value.bool m.isEmpty) = _; rw [HM.out]; rfl, HB9.out⟩
         ·cases q3 with
          | nil =>
           go_wp2_with fail
           go_ret
           exact ⟨by rw [HF.out]; rfl, HB.out⟩
          | cons d2 q4 =>
           go_wp2_with fail
           refine (tr_calls (d2 :: q4) (by have := HQ.out; simp at this ⊢; omega) _).mono ?_
           rintro e w9 ⟨⟨m, rfl, hm⟩, hb9⟩
           have HB9 := Lib.hid (HB.out.then_ hb9)
           have HM := Lib.hid hm
           clear hb9 hm
           go_wp2_with fail
           go_ret
           exact ⟨by rw [HF.out]; show Ending.returned (Value.bool m.isEmpty) = _; rw [HM.out]; rfl, HB9.out⟩
        ·have HE := Lib.hid hd
         have hd1 : ¬ (d.toNat : Int) = 43 := u8_ne (n := 43) (fun e => hd (.inl e)) (by decide)
         have hd2 : ¬ (d.toNat : Int) = 45 := u8_ne (n := 45) (fun e => hd (.inr e)) (by decide)
         have hd3 : ((d.toNat : Int) == 43) = false := beq_eq_false_iff_ne.2 hd1
         have hd4 : ((d.toNat : Int) == 45) = false := beq_eq_false_iff_ne.2 hd2
         clear hd
         go_wp2_with fail
         refine (tr_calls (d :: q3) (by have := HQ.out; simp at this ⊢; omega) _).mono ?_
         rintro e w9 ⟨⟨m, rfl, hm⟩, hb9⟩
         have HB9 := Lib.hid (HB.out.then_ hb9)
         have HM := Lib.hid hm
         clear hb9 hm
         go_wp2_with fail
         go_ret
         exact ⟨by rw [HF.out]; show Ending.returned (Value.bool m.isEmpty) = _; rw [HM.out]; unfold tailN; dsimp only; rw [if_pos (by decide)]; unfold expN; dsimp only; rw [if_neg HE.out]; rfl, HB9.out⟩
 
     ·have HE := Lib.hid hc
      have hc1 : ¬ (c.toNat : Int) = 101 := u8_ne (n := 101) (fun e => hc (.inl e)) (by decide)
      have hc2 : ¬ (c.toNat : Int) = 69 := u8_ne (n := 69) (fun e => hc (.inr e)) (by decide)
      have hc3 : ((c.toNat : Int) != 101) = true := bne_iff_ne.2 hc1
      have hc4 : ((c.toNat : Int) != 69) = true := bne_iff_ne.2 hc2
      clear hc
      go_wp2_with fail
      go_ret
      refine ⟨?_, HB.out⟩
      rw [HF.out]; rw [show tailN (c :: q2) = false from if_neg HE.out]; rfl
  ·have hpd : decide ([46] <+: q) = false := decide_eq_false hp
   refine (pre_calls [46] _ _).mono ?_
   rintro e w9 ⟨rfl, rfl⟩
   have HF := Lib.hid (HF.out.trans (frac_no hp))
   clear hp
   go_upto_region 12 with fail
   clear hpd
   cases q with
   | nil =>
    go_wp2_with fail
    go_ret
    exact ⟨by rw [HF.out]; rfl, HB.out⟩
   | cons c q2 =>
    by_cases hc : c = 101 ∨ c = 69
    ·rcases hc with rfl | rfl
     ·go_upto_region 15 with fail
      cases q2 with
      | nil =>
       go_wp2_with fail
       go_ret
       exact ⟨by rw [HF.out]; rfl, HB.out⟩
      | cons d q3 =>
       by_cases hd : d = 43 ∨ d = 45
       ·rcases hd with rfl | rfl
        ·cases q3 with
         | nil =>
          go_wp2_with fail
          go_ret
          exact ⟨by rw [HF.out]; rfl, HB.out⟩
         | cons d2 q4 =>
          go_wp2_with fail
          refine (tr_calls (d2 :: q4) (by have := HQ.out; simp at this ⊢; omega) _).mono ?_
          rintro e w9 ⟨⟨m, rfl, hm⟩, hb9⟩
          have HB9 := Lib.hid (HB.out.then_ hb9)
          have HM := Lib.hid hm
          clear hb9 hm
          go_wp2_with fail
          go_ret
          exact ⟨by rw [HF.out]; show Ending.returned (Value.bool m.isEmpty) = _; rw [HM.out]; rfl, HB9.out⟩
        ·cases q3 with
         | nil =>
          go_wp2_with fail
          go_ret
          exact ⟨by rw [HF.out]; rfl, HB.out⟩
         | cons d2 q4 =>
          go_wp2_with fail
          refine (tr_calls (d2 :: q4) (by have := HQ.out; simp at this ⊢; omega) _).mono ?_
          rintro e w9 ⟨⟨m, rfl, hm⟩, hb9⟩
          have HB9 := Lib.hid (HB.out.then_ hb9)
          have HM := Lib.hid hm
          clear hb9 hm
          go_wp2_with fail
          go_ret
          exact ⟨by rw [HF.out]; show Ending.returned (Value.bool m.isEmpty) = _; rw [HM.out]; rfl, HB9.out⟩
       ·have HE := Lib.hid hd
        have hd1 : ¬ (d.toNat : Int) = 43 := u8_ne (n := 43) (fun e => hd (.inl e)) (by decide)
        have hd2 : ¬ (d.toNat : Int) = 45 := u8_ne (n := 45) (fun e => hd (.inr e)) (by decide)
        have hd3 : ((d.toNat : Int) == 43) = false := beq_eq_false_iff_ne.2 hd1
        have hd4 : ((d.toNat : Int) == 45) = false := beq_eq_false_iff_ne.2 hd2
        clear hd
        go_wp2_with fail
        refine (tr_calls (d :: q3) (by have := HQ.out; simp at this ⊢; omega) _).mono ?_
        rintro e w9 ⟨⟨m, rfl, hm⟩, hb9⟩
        have HB9 := Lib.hid (HB.out.then_ hb9)
        have HM := Lib.hid hm
        clear hb9 hm
        go_wp2_with fail
        go_ret
        exact ⟨by rw [HF.out]; show Ending.returned (Value.bool m.isEmpty) = _; rw [HM.out]; unfold tailN; dsimp only; rw [if_pos (by decide)]; unfold expN; dsimp only; rw [if_neg HE.out]; rfl, HB9.out⟩
 
     ·go_upto_region 15 with fail
      cases q2 with
      | nil =>
       go_wp2_with fail
       go_ret
       exact ⟨by rw [HF.out]; rfl, HB.out⟩
      | cons d q3 =>
       by_cases hd : d = 43 ∨ d = 45
       ·rcases hd with rfl | rfl
        ·cases q3 with
         | nil =>
          go_wp2_with fail
          go_ret
          exact ⟨by rw [HF.out]; rfl, HB.out⟩
         | cons d2 q4 =>
          go_wp2_with fail
          refine (tr_calls (d2 :: q4) (by have := HQ.out; simp at this ⊢; omega) _).mono ?_
          rintro e w9 ⟨⟨m, rfl, hm⟩, hb9⟩
          have HB9 := Lib.hid (HB.out.then_ hb9)
          have HM := Lib.hid hm
          clear hb9 hm
          go_wp2_with fail
          go_ret
          exact ⟨by rw [HF.out]; show Ending.returned (Value.bool m.isEmpty) = _; rw [HM.out]; rfl, HB9.out⟩
        ·cases q3 with
         | nil =>
          go_wp2_with fail
          go_ret
          exact ⟨by rw [HF.out]; rfl, HB.out⟩
         | cons d2 q4 =>
          go_wp2_with fail
          refine (tr_calls (d2 :: q4) (by have := HQ.out; simp at this ⊢; omega) _).mono ?_
          rintro e w9 ⟨⟨m, rfl, hm⟩, hb9⟩
          have HB9 := Lib.hid (HB.out.then_ hb9)
          have HM := Lib.hid hm
          clear hb9 hm
          go_wp2_with fail
          go_ret
          exact ⟨by rw [HF.out]; show Ending.returned (Value.bool m.isEmpty) = _; rw [HM.out]; rfl, HB9.out⟩
       ·have HE := Lib.hid hd
        have hd1 : ¬ (d.toNat : Int) = 43 := u8_ne (n := 43) (fun e => hd (.inl e)) (by decide)
        have hd2 : ¬ (d.toNat : Int) = 45 := u8_ne (n := 45) (fun e => hd (.inr e)) (by decide)
        have hd3 : ((d.toNat : Int) == 43) = false := beq_eq_false_iff_ne.2 hd1
        have hd4 : ((d.toNat : Int) == 45) = false := beq_eq_false_iff_ne.2 hd2
        clear hd
        go_wp2_with fail
        refine (tr_calls (d :: q3) (by have := HQ.out; simp at this ⊢; omega) _).mono ?_
        rintro e w9 ⟨⟨m, rfl, hm⟩, hb9⟩
        have HB9 := Lib.hid (HB.out.then_ hb9)
        have HM := Lib.hid hm
        clear hb9 hm
        go_wp2_with fail
        go_ret
        exact ⟨by rw [HF.out]; show Ending.returned (Value.bool m.isEmpty) = _; rw [HM.out]; unfold tailN; dsimp only; rw [if_pos (by decide)]; unfold expN; dsimp only; rw [if_neg HE.out]; rfl, HB9.out⟩
 
    ·have HE := Lib.hid hc
     have hc1 : ¬ (c.toNat : Int) = 101 := u8_ne (n := 101) (fun e => hc (.inl e)) (by decide)
     have hc2 : ¬ (c.toNat : Int) = 69 := u8_ne (n := 69) (fun e => hc (.inr e)) (by decide)
     have hc3 : ((c.toNat : Int) != 101) = true := bne_iff_ne.2 hc1
     have hc4 : ((c.toNat : Int) != 69) = true := bne_iff_ne.2 hc2
     clear hc
     go_wp2_with fail
     go_ret
     refine ⟨?_, HB.out⟩
     rw [HF.out]; rw [show tailN (c :: q2) = false from if_neg HE.out]; rfl
 ·have hd : decide ([48] <+: R) = false := decide_eq_false h0
  have HB := Lib.hid (Below.refl w.heap.size w)
  have HH := Lib.hid h0
  clear h0
  refine (pre_calls [48] _ _).mono ?_
  rintro e w2 ⟨rfl, rfl⟩
  go_upto_region 4 with fail
  clear hd
  go_wp2_with fail
  refine (tl_calls R _).mono ?_
  rintro e w3 ⟨rfl, hb⟩
  have HB := Lib.hid (HB.out.then_ hb)
  clear hb
  go_wp2_with fail
  refine (HP.out _).mono ?_
  rintro e w4 ⟨rfl, rfl⟩
  have HF := Lib.hid (show isNumF l = if R.dropWhile digB = R then false else fracN (R.dropWhile digB) by rw [HI.out]; exact head_no HH.out)
  obtain ⟨D, hD⟩ : ∃ D, R.dropWhile digB = D := ⟨_, rfl⟩
  have HQ := Lib.hid (show D.length ≤ 65536 by have h1 := HR.out; have h2 := (List.dropWhile_sublist (l := R) digB).length_le; rw [hD] at h2; omega)
  rw [hD] at HF
  rw [hD]
  clear hD HH HI
  by_cases he : D = R
  ·subst he
   have HF := Lib.hid (show isNumF l = false by rw [HF.out, if_pos rfl])
   go_wp2_with fail
   go_ret
   exact ⟨by rw [HF.out]; rfl, HB.out⟩
  ·have HF := Lib.hid (show isNumF l = fracN D by rw [HF.out, if_neg he])
   have hbe : (D == R) = false := beq_eq_false_iff_ne.2 he
   clear he HP HR
   go_upto_region 7 with fail
   clear hbe
   go_wp2_with fail
   by_cases hp : [46] <+: D
   ·have hpd : decide ([46] <+: D) = true := decide_eq_true hp
    obtain ⟨qd, rfl⟩ : ∃ qd, D = 46 :: qd := by obtain ⟨q, hq⟩ := hp; exact ⟨q, hq.symm⟩
    clear hp
    refine (pre_calls [46] _ _).mono ?_
    rintro e w9 ⟨rfl, rfl⟩
    go_upto_region 8 with fail
    clear hpd
    go_wp2_with fail
    refine (tl_calls qd _).mono ?_
    rintro e w3 ⟨rfl, hb⟩
    have HB := Lib.hid (HB.out.then_ hb)
    clear hb
    have HF := Lib.hid (HF.out.trans (frac_dot qd))
    obtain ⟨D, hD⟩ : ∃ D, qd.dropWhile digB = D := ⟨_, rfl⟩
    have HQ := Lib.hid (show D.length ≤ 65536 by have h1 := HQ.out; have h2 := (List.dropWhile_sublist (l := qd) digB).length_le; rw [hD] at h2; simp at h1; omega)
    rw [hD] at HF
    rw [hD]
    clear hD
    by_cases he : D = qd
    ·subst he
     have HF := Lib.hid (show isNumF l = false by rw [HF.out, if_pos rfl])
     go_wp2_with fail
     go_ret
     exact ⟨by rw [HF.out]; rfl, HB.out⟩
    ·have HF := Lib.hid (show isNumF l = tailN D by rw [HF.out, if_neg he])
     have hbe : (D == qd) = false := beq_eq_false_iff_ne.2 he
     clear he
     go_upto_region 12 with fail
     clear hbe
     cases D with
     | nil =>
      go_wp2_with fail
      go_ret
      exact ⟨by rw [HF.out]; rfl, HB.out⟩
     | cons c q2 =>
      by_cases hc : c = 101 ∨ c = 69
      ·rcases hc with rfl | rfl
       ·go_upto_region 15 with fail
        cases q2 with
        | nil =>
         go_wp2_with fail
         go_ret
         exact ⟨by rw [HF.out]; rfl, HB.out⟩
        | cons d q3 =>
         by_cases hd : d = 43 ∨ d = 45
         ·rcases hd with rfl | rfl
          ·cases q3 with
           | nil =>
            go_wp2_with fail
            go_ret
            exact ⟨by rw [HF.out]; rfl, HB.out⟩
           | cons d2 q4 =>
            go_wp2_with fail
            refine (tr_calls (d2 :: q4) (by have := HQ.out; simp at this ⊢; omega) _).mono ?_
            rintro e w9 ⟨⟨m, rfl, hm⟩, hb9⟩
            have HB9 := Lib.hid (HB.out.then_ hb9)
            have HM := Lib.hid hm
            clear hb9 hm
            go_wp2_with fail
            go_ret
            exact ⟨by rw [HF.out]; show Ending.returned (Value.bool m.isEmpty) = _; rw [HM.out]; rfl, HB9.out⟩
          ·cases q3 with
           | nil =>
            go_wp2_with fail
            go_ret
            exact ⟨by rw [HF.out]; rfl, HB.out⟩
           | cons d2 q4 =>
            go_wp2_with fail
            refine (tr_calls (d2 :: q4) (by have := HQ.out; simp at this ⊢; omega) _).mono ?_
            rintro e w9 ⟨⟨m, rfl, hm⟩, hb9⟩
            have HB9 := Lib.hid (HB.out.then_ hb9)
            have HM := Lib.hid hm
            clear hb9 hm
            go_wp2_with fail
            go_ret
            exact ⟨by rw [HF.out]; show Ending.returned (Value.bool m.isEmpty) = _; rw [HM.out]; rfl, HB9.out⟩
         ·have HE := Lib.hid hd
          have hd1 : ¬ (d.toNat : Int) = 43 := u8_ne (n := 43) (fun e => hd (.inl e)) (by decide)
          have hd2 : ¬ (d.toNat : Int) = 45 := u8_ne (n := 45) (fun e => hd (.inr e)) (by decide)
          have hd3 : ((d.toNat : Int) == 43) = false := beq_eq_false_iff_ne.2 hd1
          have hd4 : ((d.toNat : Int) == 45) = false := beq_eq_false_iff_ne.2 hd2
          clear hd
          go_wp2_with fail
          refine (tr_calls (d :: q3) (by have := HQ.out; simp at this ⊢; omega) _).mono ?_
          rintro e w9 ⟨⟨m, rfl, hm⟩, hb9⟩
          have HB9 := Lib.hid (HB.out.then_ hb9)
          have HM := Lib.hid hm
          clear hb9 hm
          go_wp2_with fail
          go_ret
          exact ⟨by rw [HF.out]; show Ending.returned (Value.bool m.isEmpty) = _; rw [HM.out]; unfold tailN; dsimp only; rw [if_pos (by decide)]; unfold expN; dsimp only; rw [if_neg HE.out]; rfl, HB9.out⟩
 
       ·go_upto_region 15 with fail
        cases q2 with
        | nil =>
         go_wp2_with fail
         go_ret
         exact ⟨by rw [HF.out]; rfl, HB.out⟩
        | cons d q3 =>
         by_cases hd : d = 43 ∨ d = 45
         ·rcases hd with rfl | rfl
          ·cases q3 with
           | nil =>
            go_wp2_with fail
            go_ret
            exact ⟨by rw [HF.out]; rfl, HB.out⟩
           | cons d2 q4 =>
            go_wp2_with fail
            refine (tr_calls (d2 :: q4) (by have := HQ.out; simp at this ⊢; omega) _).mono ?_
            rintro e w9 ⟨⟨m, rfl, hm⟩, hb9⟩
            have HB9 := Lib.hid (HB.out.then_ hb9)
            have HM := Lib.hid hm
            clear hb9 hm
            go_wp2_with fail
            go_ret
            exact ⟨by rw [HF.out]; show Ending.returned (Value.bool m.isEmpty) = _; rw [HM.out]; rfl, HB9.out⟩
          ·cases q3 with
           | nil =>
            go_wp2_with fail
            go_ret
            exact ⟨by rw [HF.out]; rfl, HB.out⟩
           | cons d2 q4 =>
            go_wp2_with fail
            refine (tr_calls (d2 :: q4) (by have := HQ.out; simp at this ⊢; omega) _).mono ?_
            rintro e w9 ⟨⟨m, rfl, hm⟩, hb9⟩
            have HB9 := Lib.hid (HB.out.then_ hb9)
            have HM := Lib.hid hm
            clear hb9 hm
            go_wp2_with fail
            go_ret
            exact ⟨by rw [HF.out]; show Ending.returned (Value.bool m.isEmpty) = _; rw [HM.out]; rfl, HB9.out⟩
         ·have HE := Lib.hid hd
          have hd1 : ¬ (d.toNat : Int) = 43 := u8_ne (n := 43) (fun e => hd (.inl e)) (by decide)
          have hd2 : ¬ (d.toNat : Int) = 45 := u8_ne (n := 45) (fun e => hd (.inr e)) (by decide)
          have hd3 : ((d.toNat : Int) == 43) = false := beq_eq_false_iff_ne.2 hd1
          have hd4 : ((d.toNat : Int) == 45) = false := beq_eq_false_iff_ne.2 hd2
          clear hd
          go_wp2_with fail
          refine (tr_calls (d :: q3) (by have := HQ.out; simp at this ⊢; omega) _).mono ?_
          rintro e w9 ⟨⟨m, rfl, hm⟩, hb9⟩
          have HB9 := Lib.hid (HB.out.then_ hb9)
          have HM := Lib.hid hm
          clear hb9 hm
          go_wp2_with fail
          go_ret
          exact ⟨by rw [HF.out]; show Ending.returned (Value.bool m.isEmpty) = _; rw [HM.out]; unfold tailN; dsimp only; rw [if_pos (by decide)]; unfold expN; dsimp only; rw [if_neg HE.out]; rfl, HB9.out⟩
 
      ·have HE := Lib.hid hc
       have hc1 : ¬ (c.toNat : Int) = 101 := u8_ne (n := 101) (fun e => hc (.inl e)) (by decide)
       have hc2 : ¬ (c.toNat : Int) = 69 := u8_ne (n := 69) (fun e => hc (.inr e)) (by decide)
       have hc3 : ((c.toNat : Int) != 101) = true := bne_iff_ne.2 hc1
       have hc4 : ((c.toNat : Int) != 69) = true := bne_iff_ne.2 hc2
       clear hc
       go_wp2_with fail
       go_ret
       refine ⟨?_, HB.out⟩
       rw [HF.out]; rw [show tailN (c :: q2) = false from if_neg HE.out]; rfl
   ·have hpd : decide ([46] <+: D) = false := decide_eq_false hp
    refine (pre_calls [46] _ _).mono ?_
    rintro e w9 ⟨rfl, rfl⟩
    have HF := Lib.hid (HF.out.trans (frac_no hp))
    clear hp
    go_upto_region 12 with fail
    clear hpd
    cases D with
    | nil =>
     go_wp2_with fail
     go_ret
     exact ⟨by rw [HF.out]; rfl, HB.out⟩
    | cons c q2 =>
     by_cases hc : c = 101 ∨ c = 69
     ·rcases hc with rfl | rfl
      ·go_upto_region 15 with fail
       cases q2 with
       | nil =>
        go_wp2_with fail
        go_ret
        exact ⟨by rw [HF.out]; rfl, HB.out⟩
       | cons d q3 =>
        by_cases hd : d = 43 ∨ d = 45
        ·rcases hd with rfl | rfl
         ·cases q3 with
          | nil =>
           go_wp2_with fail
           go_ret
           exact ⟨by rw [HF.out]; rfl, HB.out⟩
          | cons d2 q4 =>
           go_wp2_with fail
           refine (tr_calls (d2 :: q4) (by have := HQ.out; simp at this ⊢; omega) _).mono ?_
           rintro e w9 ⟨⟨m, rfl, hm⟩, hb9⟩
           have HB9 := Lib.hid (HB.out.then_ hb9)
           have HM := Lib.hid hm
           clear hb9 hm
           go_wp2_with fail
           go_ret
           exact ⟨by rw [HF.out]; show Ending.returned (Value.bool m.isEmpty) = _; rw [HM.out]; rfl, HB9.out⟩
         ·cases q3 with
          | nil =>
           go_wp2_with fail
           go_ret
           exact ⟨by rw [HF.out]; rfl, HB.out⟩
          | cons d2 q4 =>
           go_wp2_with fail
           refine (tr_calls (d2 :: q4) (by have := HQ.out; simp at this ⊢; omega) _).mono ?_
           rintro e w9 ⟨⟨m, rfl, hm⟩, hb9⟩
           have HB9 := Lib.hid (HB.out.then_ hb9)
           have HM := Lib.hid hm
           clear hb9 hm
           go_wp2_with fail
           go_ret
           exact ⟨by rw [HF.out]; show Ending.returned (Value.bool m.isEmpty) = _; rw [HM.out]; rfl, HB9.out⟩
        ·have HE := Lib.hid hd
         have hd1 : ¬ (d.toNat : Int) = 43 := u8_ne (n := 43) (fun e => hd (.inl e)) (by decide)
         have hd2 : ¬ (d.toNat : Int) = 45 := u8_ne (n := 45) (fun e => hd (.inr e)) (by decide)
         have hd3 : ((d.toNat : Int) == 43) = false := beq_eq_false_iff_ne.2 hd1
         have hd4 : ((d.toNat : Int) == 45) = false := beq_eq_false_iff_ne.2 hd2
         clear hd
         go_wp2_with fail
         refine (tr_calls (d :: q3) (by have := HQ.out; simp at this ⊢; omega) _).mono ?_
         rintro e w9 ⟨⟨m, rfl, hm⟩, hb9⟩
         have HB9 := Lib.hid (HB.out.then_ hb9)
         have HM := Lib.hid hm
         clear hb9 hm
         go_wp2_with fail
         go_ret
         exact ⟨by rw [HF.out]; show Ending.returned (Value.bool m.isEmpty) = _; rw [HM.out]; unfold tailN; dsimp only; rw [if_pos (by decide)]; unfold expN; dsimp only; rw [if_neg HE.out]; rfl, HB9.out⟩
 
      ·go_upto_region 15 with fail
       cases q2 with
       | nil =>
        go_wp2_with fail
        go_ret
        exact ⟨by rw [HF.out]; rfl, HB.out⟩
       | cons d q3 =>
        by_cases hd : d = 43 ∨ d = 45
        ·rcases hd with rfl | rfl
         ·cases q3 with
          | nil =>
           go_wp2_with fail
           go_ret
           exact ⟨by rw [HF.out]; rfl, HB.out⟩
          | cons d2 q4 =>
           go_wp2_with fail
           refine (tr_calls (d2 :: q4) (by have := HQ.out; simp at this ⊢; omega) _).mono ?_
           rintro e w9 ⟨⟨m, rfl, hm⟩, hb9⟩
           have HB9 := Lib.hid (HB.out.then_ hb9)
           have HM := Lib.hid hm
           clear hb9 hm
           go_wp2_with fail
           go_ret
           exact ⟨by rw [HF.out]; show Ending.returned (Value.bool m.isEmpty) = _; rw [HM.out]; rfl, HB9.out⟩
         ·cases q3 with
          | nil =>
           go_wp2_with fail
           go_ret
           exact ⟨by rw [HF.out]; rfl, HB.out⟩
          | cons d2 q4 =>
           go_wp2_with fail
           refine (tr_calls (d2 :: q4) (by have := HQ.out; simp at this ⊢; omega) _).mono ?_
           rintro e w9 ⟨⟨m, rfl, hm⟩, hb9⟩
           have HB9 := Lib.hid (HB.out.then_ hb9)
           have HM := Lib.hid hm
           clear hb9 hm
           go_wp2_with fail
           go_ret
           exact ⟨by rw [HF.out]; show Ending.returned (Value.bool m.isEmpty) = _; rw [HM.out]; rfl, HB9.out⟩
        ·have HE := Lib.hid hd
         have hd1 : ¬ (d.toNat : Int) = 43 := u8_ne (n := 43) (fun e => hd (.inl e)) (by decide)
         have hd2 : ¬ (d.toNat : Int) = 45 := u8_ne (n := 45) (fun e => hd (.inr e)) (by decide)
         have hd3 : ((d.toNat : Int) == 43) = false := beq_eq_false_iff_ne.2 hd1
         have hd4 : ((d.toNat : Int) == 45) = false := beq_eq_false_iff_ne.2 hd2
         clear hd
         go_wp2_with fail
         refine (tr_calls (d :: q3) (by have := HQ.out; simp at this ⊢; omega) _).mono ?_
         rintro e w9 ⟨⟨m, rfl, hm⟩, hb9⟩
         have HB9 := Lib.hid (HB.out.then_ hb9)
         have HM := Lib.hid hm
         clear hb9 hm
         go_wp2_with fail
         go_ret
         exact ⟨by rw [HF.out]; show Ending.returned (Value.bool m.isEmpty) = _; rw [HM.out]; unfold tailN; dsimp only; rw [if_pos (by decide)]; unfold expN; dsimp only; rw [if_neg HE.out]; rfl, HB9.out⟩
 
     ·have HE := Lib.hid hc
      have hc1 : ¬ (c.toNat : Int) = 101 := u8_ne (n := 101) (fun e => hc (.inl e)) (by decide)
      have hc2 : ¬ (c.toNat : Int) = 69 := u8_ne (n := 69) (fun e => hc (.inr e)) (by decide)
      have hc3 : ((c.toNat : Int) != 101) = true := bne_iff_ne.2 hc1
      have hc4 : ((c.toNat : Int) != 69) = true := bne_iff_ne.2 hc2
      clear hc
      go_wp2_with fail
      go_ret
      refine ⟨?_, HB.out⟩
      rw [HF.out]; rw [show tailN (c :: q2) = false from if_neg HE.out]; rfl
end Go.Proofs.YtajkgcmopmpihaaGreatDoor
