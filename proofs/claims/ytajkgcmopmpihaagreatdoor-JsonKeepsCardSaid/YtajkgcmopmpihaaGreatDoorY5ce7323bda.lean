/- Texts put together: Js2. -/
import Derived.Test.YtajkgcmopmpihaaGreatDoorYc29a1254e7
namespace Go.Proofs.YtajkgcmopmpihaaGreatDoor
open Go.ChangeShapes Go.WideShapes Go.ChangeAt Go.RowKit Go.IntWalk
set_option linter.unusedVariables false
set_option maxRecDepth 100000
theorem tw_len {s : List UInt8} {a k : Nat} {p : UInt8 → Bool} (h : s.drop k = (s.drop a).dropWhile p) (h1 : a ≤ k) (h2 : k ≤ s.length) : ((s.drop a).takeWhile p).length = k - a := by
 have := congrArg List.length (List.takeWhile_append_dropWhile (p := p) (l := s.drop a))
 rw [List.length_append, ← h, List.length_drop, List.length_drop] at this
 omega
theorem tw_empty {l : List UInt8} {p : UInt8 → Bool} {n : Nat} (h : (l.takeWhile p).length = n) : (l.takeWhile p).isEmpty = decide (n = 0) := by
 cases hx : l.takeWhile p with
 | nil => rw [hx] at h; rw [← h]; rfl
 | cons c q => rw [hx] at h; rw [← h]; simp
theorem pre_one {c : UInt8} {l : List UInt8} : ([c] <+: l) ↔ l.head? = some c := by
 cases l with
 | nil => simp
 | cons d q => simp [List.cons_prefix_cons, eq_comm]
theorem sign_yesW {s : List UInt8} (h : [45] <+: s.drop 0) : signF s = s.drop 1 ∧ 1 ≤ s.length := by
 rw [List.drop_zero, pre_one] at h
 cases s with
 | nil => cases h
 | cons c q => injection h with h; subst h; exact ⟨rfl, by simp⟩
theorem sign_noW {s : List UInt8} (h : ¬ [45] <+: s.drop 0) : signF s = s.drop 0 := by
 rw [List.drop_zero, pre_one] at h
 rw [List.drop_zero]
 cases s with
 | nil => rfl
 | cons c q => unfold signF; dsimp only; rw [if_neg (fun e => h (by rw [e]; rfl))]
theorem whole_at {s : List UInt8} {a k : Nat} (hs : signF s = s.drop a) (h : s.drop k = (s.drop a).dropWhile digB) (h1 : a ≤ k) (h2 : k ≤ s.length) :
  wholeF s = (if k = a ∨ (a + 1 < k ∧ (s.drop a).head? = some 48) then (false, false) else fracF (s.drop k)) := by
 have hl := tw_len h h1 h2
 unfold wholeF
 dsimp only
 rw [hs, tw_empty hl, hl, ← h]
 by_cases e : k = a
 ·have hr : (if k = a ∨ (a + 1 < k ∧ (s.drop a).head? = some 48) then ((false, false) : Bool × Bool) else fracF (s.drop k)) = (false, false) := if_pos (.inl e)
  have : decide (k - a = 0) = true := by simp; omega
  rw [hr, this]; rfl
 ·have e0 : decide (k - a = 0) = false := by simp; omega
  rw [e0, Bool.false_or]
  by_cases e1 : a + 1 < k
  ·have e2 : decide (1 < k - a) = true := by simp; omega
   rw [e2, Bool.true_and]
   by_cases e3 : (s.drop a).head? = some 48
   ·have hr : (if k = a ∨ (a + 1 < k ∧ (s.drop a).head? = some 48) then ((false, false) : Bool × Bool) else fracF (s.drop k)) = (false, false) := if_pos (.inr ⟨e1, e3⟩)
    have e4 : ((s.drop a).head? == some 48) = true := beq_iff_eq.2 e3
    rw [hr, e4]; rfl
   ·have hr : (if k = a ∨ (a + 1 < k ∧ (s.drop a).head? = some 48) then ((false, false) : Bool × Bool) else fracF (s.drop k)) = fracF (s.drop k) := if_neg (fun x => x.elim e (fun x => e3 x.2))
    have e4 : ((s.drop a).head? == some 48) = false := beq_eq_false_iff_ne.2 e3
    rw [hr, e4]; rfl
  ·have e2 : decide (1 < k - a) = false := by simp; omega
   have hr : (if k = a ∨ (a + 1 < k ∧ (s.drop a).head? = some 48) then ((false, false) : Bool × Bool) else fracF (s.drop k)) = fracF (s.drop k) := if_neg (fun x => x.elim e (fun x => e1 x.1))
   rw [hr, e2]; rfl
theorem frac_dotW {s : List UInt8} {k j : Nat} (hd : [46] <+: s.drop k) (h : s.drop j = (s.drop (k + 1)).dropWhile digB) (h1 : k + 1 ≤ j) (h2 : j ≤ s.length) : fracF (s.drop k) = if j = k + 1 then (false, false) else expF (s.drop j) true := by
 have hl := tw_len h h1 h2
 rw [pre_one] at hd
 have hk : k < s.length := by
  rcases Nat.lt_or_ge k s.length with x | x
  ·exact x
  ·rw [List.drop_of_length_le x] at hd; cases hd
 rw [List.drop_eq_getElem_cons hk] at hd ⊢
 injection hd with hd
 unfold fracF
 dsimp only
 rw [if_pos hd, tw_empty hl, ← h]
 by_cases e : j = k + 1
 ·rw [if_pos e, if_pos (by simp; omega)]
 ·rw [if_neg e, if_neg (by simp; omega)]
theorem frac_noW {r : List UInt8} (hd : ¬ [46] <+: r) : fracF r = expF r false := by
 rw [pre_one] at hd
 cases r with
 | nil => rfl
 | cons c q => unfold fracF; dsimp only; rw [if_neg (fun e => hd (by rw [e]; rfl))]
def sgnE (q : List UInt8) : List UInt8 := match q with | [] => [] | d :: q3 => if d = 43 ∨ d = 45 then q3 else q
theorem exp_eW {s : List UInt8} {k a j : Nat} {m : Bool} (hd : [101] <+: s.drop k ∨ [69] <+: s.drop k) (ha : sgnE (s.drop (k + 1)) = s.drop a) (h : s.drop j = (s.drop a).dropWhile digB) (h1 : a ≤ j) (h2 : j ≤ s.length) : expF (s.drop k) m = if j = a then (false, false) else (decide (j = s.length), true) := by
 have hl := tw_len h h1 h2
 rw [pre_one, pre_one] at hd
 have hk : k < s.length := by
  rcases Nat.lt_or_ge k s.length with x | x
  ·exact x
  ·rw [List.drop_of_length_le x] at hd; rcases hd with hd | hd <;> cases hd
 rw [List.drop_eq_getElem_cons hk] at hd ⊢
 have hd2 : s[k] = 101 ∨ s[k] = 69 := by rcases hd with hd | hd <;> (injection hd with hd; simp [hd])
 unfold expF
 dsimp only
 rw [if_pos hd2]
 show (if ((sgnE (s.drop (k + 1))).takeWhile digB).isEmpty = true then (false, false) else (((sgnE (s.drop (k + 1))).dropWhile digB).isEmpty, true)) = _
 rw [ha, tw_empty hl, ← h]
 by_cases e : j = a
 ·rw [if_pos e, if_pos (by simp; omega)]
 ·rw [if_neg e, if_neg (by simp; omega)]
  have : (s.drop j).isEmpty = decide (j = s.length) := by
   by_cases x : j = s.length
   ·rw [x, List.drop_length]; simp
   ·rw [List.drop_eq_getElem_cons (show j < s.length by omega), decide_eq_false x]; rfl
  rw [this]
theorem exp_noW {s : List UInt8} {k : Nat} {m : Bool} (h1 : ¬ [101] <+: s.drop k) (h2 : ¬ [69] <+: s.drop k) (hk : k ≤ s.length) : expF (s.drop k) m = (decide (k = s.length), m) := by
 rw [pre_one] at h1 h2
 by_cases x : k = s.length
 ·rw [x, List.drop_length]; simp [expF]
 ·rw [List.drop_eq_getElem_cons (by omega)] at h1 h2 ⊢
  unfold expF
  dsimp only
  rw [if_neg (by rintro (e | e); exact h1 (by rw [e]; rfl); exact h2 (by rw [e]; rfl))]
  simp [x]
theorem sgn_yes {s : List UInt8} {k : Nat} (h : [43] <+: s.drop k ∨ [45] <+: s.drop k) : sgnE (s.drop k) = s.drop (k + 1) ∧ k + 1 ≤ s.length := by
 rw [pre_one, pre_one] at h
 have hk : k < s.length := by
  rcases Nat.lt_or_ge k s.length with x | x
  ·exact x
  ·rw [List.drop_of_length_le x] at h; rcases h with h | h <;> cases h
 rw [List.drop_eq_getElem_cons hk] at h ⊢
 refine ⟨?_, hk⟩
 unfold sgnE
 dsimp only
 rw [if_pos (by rcases h with h | h <;> (injection h with h; simp [h]))]
theorem sgn_no {s : List UInt8} {k : Nat} (h1 : ¬ [43] <+: s.drop k) (h2 : ¬ [45] <+: s.drop k) : sgnE (s.drop k) = s.drop k := by
 rw [pre_one] at h1 h2
 cases hx : s.drop k with
 | nil => rfl
 | cons c q =>
  rw [hx] at h1 h2
  unfold sgnE
  dsimp only
  rw [if_neg (by rintro (e | e); exact h1 (by rw [e]; rfl); exact h2 (by rw [e]; rfl))]
theorem dec_int (j n : Nat) : decide (j = n) = ((j : Int) == (n : Int)) := by
 by_cases y : j = n
 ·rw [y, decide_eq_true rfl]; exact (beq_self_eq_true _).symm
 ·rw [decide_eq_false y]; exact (beq_eq_false_iff_ne.2 (fun e => y (by omega))).symm
theorem end_whole {s : List UInt8} {a b : Bool} (h : wholeF s = (a, b)) : (Ending.returned (.tuple #[.bool a, .bool b]) : Ending) = .returned (.tuple #[.bool (wholeF s).1, .bool (wholeF s).2]) := by rw [h]
set_option maxHeartbeats 16000000 in
theorem refwhole_neg (s : List UInt8) (w : World) (hs : s.length ≤ 65536) (hb : [45] <+: s.drop 0) : Calls Tryz.prog 71 #[.string ⟨s.toArray⟩] w fun e w' => e = .returned (.tuple #[.bool (wholeF s).1, .bool (wholeF s).2]) ∧ w = w' := by
 have HS := Lib.hid hs
 obtain ⟨n, hn⟩ : ∃ n, s.length = n := ⟨_, rfl⟩
 have hsz : (⟨s.toArray⟩ : ByteArray).size = n := hn
 have hn6 : n ≤ 65536 := by rw [← hn]; exact hs
 have HN := Lib.hid hn
 have HSA := Lib.hid (sign_yesW hb)
 have HSG := Lib.hid HSA.out.1
 have HA := Lib.hid HSA.out.2
 have HB := Lib.hid hb
 clear hs hn hb
 go_enter Tryz.func71, Tryz.ntmps71
 go_wp2_with fail
 refine (refhas_calls s [45] 0 w HS.out (Nat.zero_le _) (by decide)).mono ?_
 rintro e w1 ⟨rfl, rfl⟩
 rw [show decide ([45] <+: s.drop 0) = true from decide_eq_true HB.out]
 go_wp2_with fail
 refine (refdigits_calls s 1 w HS.out HA.out).mono ?_
 rintro e w2 ⟨k, rfl, k1, k2, k3, rfl⟩
 have HW := Lib.hid (whole_at HSG.out k3 k1 k2)
 have HK := Lib.hid k2
 have hk6 : k ≤ 65536 := Nat.le_trans k2 HS.out
 by_cases e1 : k = 1
 ·have q1 : ((k : Int) == 1) = true := by rw [e1]; rfl
  have HR := Lib.hid (show wholeF s = (false, false) by rw [HW.out, if_pos (.inl e1)])
  clear k1 k2 k3 e1
  go_wp2_with fail
  go_ret2
  exact ⟨end_whole HR.out, rfl⟩
 have q1 : ((k : Int) == 1) = false := by rw [beq_eq_false_iff_ne]; omega
 by_cases e2 : 1 + 1 < k
 ·have r1 : (2 : Int) < (k : Int) := by omega
  have r2 : decide ((2 : Int) < (k : Int)) = true := by simpa using r1
  have hal : 1 < s.length := by omega
  have han : 1 < n := by rw [← HN.out]; exact hal
  have hai : (1 : Int) < (n : Int) := by omega
  obtain ⟨c, hc⟩ : ∃ c, s[1] = c := ⟨_, rfl⟩
  have hhead : (s.drop 1).head? = some c := by rw [List.drop_eq_getElem_cons hal, hc]; rfl
  by_cases e3 : c = 48
  ·have HR := Lib.hid (show wholeF s = (false, false) by rw [HW.out, if_pos (.inr ⟨e2, by rw [hhead, e3]⟩)])
   subst e3
   clear k1 k2 k3 e1 e2 hhead
   go_wp2_with fail
   go_ret2
   exact ⟨end_whole HR.out, rfl⟩
  ·have HW2 := Lib.hid (show wholeF s = fracF (s.drop k) by rw [HW.out, if_neg (fun x => x.elim e1 (fun x => e3 (by have h := x.2; rw [hhead] at h; injection h)))])
   have q3 : ((c.toNat : Int) == 48) = false := by
    rw [beq_eq_false_iff_ne]
    intro e
    exact e3 (UInt8.toNat_inj.1 (by show c.toNat = 48; omega))
   clear k1 k2 k3 e1 e2 hhead e3
   go_wp2_with fail
   refine (refhas_calls s [46] k w HS.out HK.out (by decide)).mono ?_
   rintro e w3 ⟨rfl, rfl⟩
   by_cases hd : [46] <+: s.drop k
   ·rw [decide_eq_true hd]
    have hk1 : k + 1 ≤ s.length := by
     have h := hd
     rw [pre_one] at h
     rcases Nat.lt_or_ge k s.length with x | x
     ·exact x
     ·rw [List.drop_of_length_le x] at h; cases h
    have hwk : IntKind.i64.wrap ((k : Int) + 1) = (k : Int) + 1 := IntWalk.i64_in _ (by rw [HN.out] at hk1; omega)
    go_wp2_with fail
    refine (refdigits_calls s (k + 1) w HS.out hk1).mono ?_
    rintro e w4 ⟨j, rfl, y1, y2, y3, rfl⟩
    have HF := Lib.hid (frac_dotW hd y3 y1 y2)
    by_cases ej : j = k + 1
    ·have q1 : ((j : Int) == (k : Int) + 1) = true := by rw [ej]; simp
     have HR := Lib.hid (show wholeF s = (false, false) by rw [HW2.out, HF.out, if_pos ej])
     clear hd y1 y2 y3 ej hk1
     go_wp2_with fail
     go_ret2
     exact ⟨end_whole HR.out, rfl⟩
    ·have q1 : ((j : Int) == (k : Int) + 1) = false := by rw [beq_eq_false_iff_ne]; omega
     have HW4 := Lib.hid (show wholeF s = expF (s.drop j) true by rw [HW2.out, HF.out, if_neg ej])
     have HP := Lib.hid y2
     have hj6 : j ≤ 65536 := Nat.le_trans y2 HS.out
     clear hd y1 y2 y3 ej hk1 hwk
     obtain ⟨M, hM⟩ : ∃ M, M = true := ⟨_, rfl⟩
     rw [← hM] at HW4
     have HM := Lib.hid hM
     clear hM
     go_wp2_with fail
     refine (refhas_calls s [101] j w HS.out HP.out (by decide)).mono ?_
     rintro e w5 ⟨rfl, rfl⟩
     by_cases h1 : [101] <+: s.drop j
     ·rw [decide_eq_true h1]
      have HDE := Lib.hid (show [101] <+: s.drop (j) ∨ [69] <+: s.drop (j) from .inl h1)
      have hp1 : j + 1 ≤ s.length := by
       have h := HDE.out
       rw [pre_one, pre_one] at h
       rcases Nat.lt_or_ge (j) s.length with x | x
       ·exact x
       ·rw [List.drop_of_length_le x] at h; rcases h with h | h <;> cases h
      have hwp : IntKind.i64.wrap ((j : Int) + 1) = (j : Int) + 1 := IntWalk.i64_in _ (by rw [HN.out] at hp1; omega)
      have hwp2 : IntKind.i64.wrap ((j : Int) + 1 + 1) = (j : Int) + 1 + 1 := IntWalk.i64_in _ (by rw [HN.out] at hp1; omega)
      go_wp2_with fail
      refine (refhas_calls s [43] (j + 1) w HS.out hp1 (by decide)).mono ?_
      rintro e w7 ⟨rfl, rfl⟩
      by_cases g1 : [43] <+: s.drop (j + 1)
      ·rw [decide_eq_true g1]
       have HG := Lib.hid (sgn_yes (.inl g1))
       have HSE := Lib.hid HG.out.1
       clear g1
       go_wp2_with fail
       refine (refdigits_calls s (j + 1 + 1) w HS.out (by have := HG.out.2; omega)).mono ?_
       rintro e w9 ⟨j9, rfl, x1, x2, x3, rfl⟩
       have HE := Lib.hid (exp_eW (m := M) HDE.out HSE.out x3 x1 x2)
       by_cases ej : j9 = j + 1 + 1
       ·have q1 : ((j9 : Int) == ((j + 1 + 1 : Nat) : Int)) = true := by rw [ej]; simp
        have HR := Lib.hid (show wholeF s = (false, false) by rw [HW4.out, HE.out, if_pos ej])
        push_cast at q1
        clear x1 x2 x3 ej
        go_wp2_with fail
        go_ret2
        exact ⟨end_whole HR.out, rfl⟩
       ·have q1 : ((j9 : Int) == ((j + 1 + 1 : Nat) : Int)) = false := by rw [beq_eq_false_iff_ne]; omega
        have HR := Lib.hid (show wholeF s = (((j9 : Int) == (n : Int)), true) by
         rw [HW4.out, HE.out, if_neg ej, HN.out, dec_int])
        push_cast at q1
        clear x1 x2 x3 ej
        go_wp2_with fail
        go_ret2
        exact ⟨end_whole HR.out, rfl⟩
      ·rw [decide_eq_false g1]
       go_wp2_with fail
       refine (refhas_calls s [45] (j + 1) w HS.out hp1 (by decide)).mono ?_
       rintro e w8 ⟨rfl, rfl⟩
       by_cases g2 : [45] <+: s.drop (j + 1)
       ·rw [decide_eq_true g2]
        have HG := Lib.hid (sgn_yes (.inr g2))
        have HSE := Lib.hid HG.out.1
        clear g1 g2
        go_wp2_with fail
        refine (refdigits_calls s (j + 1 + 1) w HS.out (by have := HG.out.2; omega)).mono ?_
        rintro e w9 ⟨j9, rfl, x1, x2, x3, rfl⟩
        have HE := Lib.hid (exp_eW (m := M) HDE.out HSE.out x3 x1 x2)
        by_cases ej : j9 = j + 1 + 1
        ·have q1 : ((j9 : Int) == ((j + 1 + 1 : Nat) : Int)) = true := by rw [ej]; simp
         have HR := Lib.hid (show wholeF s = (false, false) by rw [HW4.out, HE.out, if_pos ej])
         push_cast at q1
         clear x1 x2 x3 ej
         go_wp2_with fail
         go_ret2
         exact ⟨end_whole HR.out, rfl⟩
        ·have q1 : ((j9 : Int) == ((j + 1 + 1 : Nat) : Int)) = false := by rw [beq_eq_false_iff_ne]; omega
         have HR := Lib.hid (show wholeF s = (((j9 : Int) == (n : Int)), true) by
          rw [HW4.out, HE.out, if_neg ej, HN.out, dec_int])
         push_cast at q1
         clear x1 x2 x3 ej
         go_wp2_with fail
         go_ret2
         exact ⟨end_whole HR.out, rfl⟩
       ·rw [decide_eq_false g2]
        have HSE := Lib.hid (sgn_no g1 g2)
        clear g1 g2
        go_wp2_with fail
        refine (refdigits_calls s (j + 1) w HS.out (by exact hp1)).mono ?_
        rintro e w9 ⟨j9, rfl, x1, x2, x3, rfl⟩
        have HE := Lib.hid (exp_eW (m := M) HDE.out HSE.out x3 x1 x2)
        by_cases ej : j9 = j + 1
        ·have q1 : ((j9 : Int) == ((j + 1 : Nat) : Int)) = true := by rw [ej]; simp
         have HR := Lib.hid (show wholeF s = (false, false) by rw [HW4.out, HE.out, if_pos ej])
         push_cast at q1
         clear x1 x2 x3 ej
         go_wp2_with fail
         go_ret2
         exact ⟨end_whole HR.out, rfl⟩
        ·have q1 : ((j9 : Int) == ((j + 1 : Nat) : Int)) = false := by rw [beq_eq_false_iff_ne]; omega
         have HR := Lib.hid (show wholeF s = (((j9 : Int) == (n : Int)), true) by
          rw [HW4.out, HE.out, if_neg ej, HN.out, dec_int])
         push_cast at q1
         clear x1 x2 x3 ej
         go_wp2_with fail
         go_ret2
         exact ⟨end_whole HR.out, rfl⟩
     ·rw [decide_eq_false h1]
      go_wp2_with fail
      refine (refhas_calls s [69] j w HS.out HP.out (by decide)).mono ?_
      rintro e w6 ⟨rfl, rfl⟩
      by_cases h2 : [69] <+: s.drop j
      ·rw [decide_eq_true h2]
       have HDE := Lib.hid (show [101] <+: s.drop (j) ∨ [69] <+: s.drop (j) from .inr h2)
       have hp1 : j + 1 ≤ s.length := by
        have h := HDE.out
        rw [pre_one, pre_one] at h
        rcases Nat.lt_or_ge (j) s.length with x | x
        ·exact x
        ·rw [List.drop_of_length_le x] at h; rcases h with h | h <;> cases h
       have hwp : IntKind.i64.wrap ((j : Int) + 1) = (j : Int) + 1 := IntWalk.i64_in _ (by rw [HN.out] at hp1; omega)
       have hwp2 : IntKind.i64.wrap ((j : Int) + 1 + 1) = (j : Int) + 1 + 1 := IntWalk.i64_in _ (by rw [HN.out] at hp1; omega)
       go_wp2_with fail
       refine (refhas_calls s [43] (j + 1) w HS.out hp1 (by decide)).mono ?_
       rintro e w7 ⟨rfl, rfl⟩
       by_cases g1 : [43] <+: s.drop (j + 1)
       ·rw [decide_eq_true g1]
        have HG := Lib.hid (sgn_yes (.inl g1))
        have HSE := Lib.hid HG.out.1
        clear g1
        go_wp2_with fail
        refine (refdigits_calls s (j + 1 + 1) w HS.out (by have := HG.out.2; omega)).mono ?_
        rintro e w9 ⟨j9, rfl, x1, x2, x3, rfl⟩
        have HE := Lib.hid (exp_eW (m := M) HDE.out HSE.out x3 x1 x2)
        by_cases ej : j9 = j + 1 + 1
        ·have q1 : ((j9 : Int) == ((j + 1 + 1 : Nat) : Int)) = true := by rw [ej]; simp
         have HR := Lib.hid (show wholeF s = (false, false) by rw [HW4.out, HE.out, if_pos ej])
         push_cast at q1
         clear x1 x2 x3 ej
         go_wp2_with fail
         go_ret2
         exact ⟨end_whole HR.out, rfl⟩
        ·have q1 : ((j9 : Int) == ((j + 1 + 1 : Nat) : Int)) = false := by rw [beq_eq_false_iff_ne]; omega
         have HR := Lib.hid (show wholeF s = (((j9 : Int) == (n : Int)), true) by
          rw [HW4.out, HE.out, if_neg ej, HN.out, dec_int])
         push_cast at q1
         clear x1 x2 x3 ej
         go_wp2_with fail
         go_ret2
         exact ⟨end_whole HR.out, rfl⟩
       ·rw [decide_eq_false g1]
        go_wp2_with fail
        refine (refhas_calls s [45] (j + 1) w HS.out hp1 (by decide)).mono ?_
        rintro e w8 ⟨rfl, rfl⟩
        by_cases g2 : [45] <+: s.drop (j + 1)
        ·rw [decide_eq_true g2]
         have HG := Lib.hid (sgn_yes (.inr g2))
         have HSE := Lib.hid HG.out.1
         clear g1 g2
         go_wp2_with fail
         refine (refdigits_calls s (j + 1 + 1) w HS.out (by have := HG.out.2; omega)).mono ?_
         rintro e w9 ⟨j9, rfl, x1, x2, x3, rfl⟩
         have HE := Lib.hid (exp_eW (m := M) HDE.out HSE.out x3 x1 x2)
         by_cases ej : j9 = j + 1 + 1
         ·have q1 : ((j9 : Int) == ((j + 1 + 1 : Nat) : Int)) = true := by rw [ej]; simp
          have HR := Lib.hid (show wholeF s = (false, false) by rw [HW4.out, HE.out, if_pos ej])
          push_cast at q1
          clear x1 x2 x3 ej
          go_wp2_with fail
          go_ret2
          exact ⟨end_whole HR.out, rfl⟩
         ·have q1 : ((j9 : Int) == ((j + 1 + 1 : Nat) : Int)) = false := by rw [beq_eq_false_iff_ne]; omega
          have HR := Lib.hid (show wholeF s = (((j9 : Int) == (n : Int)), true) by
           rw [HW4.out, HE.out, if_neg ej, HN.out, dec_int])
          push_cast at q1
          clear x1 x2 x3 ej
          go_wp2_with fail
          go_ret2
          exact ⟨end_whole HR.out, rfl⟩
        ·rw [decide_eq_false g2]
         have HSE := Lib.hid (sgn_no g1 g2)
         clear g1 g2
         go_wp2_with fail
         refine (refdigits_calls s (j + 1) w HS.out (by exact hp1)).mono ?_
         rintro e w9 ⟨j9, rfl, x1, x2, x3, rfl⟩
         have HE := Lib.hid (exp_eW (m := M) HDE.out HSE.out x3 x1 x2)
         by_cases ej : j9 = j + 1
         ·have q1 : ((j9 : Int) == ((j + 1 : Nat) : Int)) = true := by rw [ej]; simp
          have HR := Lib.hid (show wholeF s = (false, false) by rw [HW4.out, HE.out, if_pos ej])
          push_cast at q1
          clear x1 x2 x3 ej
          go_wp2_with fail
          go_ret2
          exact ⟨end_whole HR.out, rfl⟩
         ·have q1 : ((j9 : Int) == ((j + 1 : Nat) : Int)) = false := by rw [beq_eq_false_iff_ne]; omega
          have HR := Lib.hid (show wholeF s = (((j9 : Int) == (n : Int)), true) by
           rw [HW4.out, HE.out, if_neg ej, HN.out, dec_int])
          push_cast at q1
          clear x1 x2 x3 ej
          go_wp2_with fail
          go_ret2
          exact ⟨end_whole HR.out, rfl⟩
      ·rw [decide_eq_false h2]
       have HR := Lib.hid (show wholeF s = (((j : Int) == (n : Int)), true) by
        rw [HW4.out, exp_noW h1 h2 HP.out, HM.out, HN.out, dec_int])
       clear h1 h2
       go_wp2_with fail
       go_ret2
       exact ⟨end_whole HR.out, rfl⟩
   ·rw [decide_eq_false hd]
    have HW4 := Lib.hid (show wholeF s = expF (s.drop k) false by rw [HW2.out, frac_noW hd])
    have HP := HK
    clear hd
    obtain ⟨M, hM⟩ : ∃ M, M = false := ⟨_, rfl⟩
    rw [← hM] at HW4
    have HM := Lib.hid hM
    clear hM
    go_wp2_with fail
    refine (refhas_calls s [101] k w HS.out HP.out (by decide)).mono ?_
    rintro e w5 ⟨rfl, rfl⟩
    by_cases h1 : [101] <+: s.drop k
    ·rw [decide_eq_true h1]
     have HDE := Lib.hid (show [101] <+: s.drop (k) ∨ [69] <+: s.drop (k) from .inl h1)
     have hp1 : k + 1 ≤ s.length := by
      have h := HDE.out
      rw [pre_one, pre_one] at h
      rcases Nat.lt_or_ge (k) s.length with x | x
      ·exact x
      ·rw [List.drop_of_length_le x] at h; rcases h with h | h <;> cases h
     have hwp : IntKind.i64.wrap ((k : Int) + 1) = (k : Int) + 1 := IntWalk.i64_in _ (by rw [HN.out] at hp1; omega)
     have hwp2 : IntKind.i64.wrap ((k : Int) + 1 + 1) = (k : Int) + 1 + 1 := IntWalk.i64_in _ (by rw [HN.out] at hp1; omega)
     go_wp2_with fail
     refine (refhas_calls s [43] (k + 1) w HS.out hp1 (by decide)).mono ?_
     rintro e w7 ⟨rfl, rfl⟩
     by_cases g1 : [43] <+: s.drop (k + 1)
     ·rw [decide_eq_true g1]
      have HG := Lib.hid (sgn_yes (.inl g1))
      have HSE := Lib.hid HG.out.1
      clear g1
      go_wp2_with fail
      refine (refdigits_calls s (k + 1 + 1) w HS.out (by have := HG.out.2; omega)).mono ?_
      rintro e w9 ⟨j9, rfl, x1, x2, x3, rfl⟩
      have HE := Lib.hid (exp_eW (m := M) HDE.out HSE.out x3 x1 x2)
      by_cases ej : j9 = k + 1 + 1
      ·have q1 : ((j9 : Int) == ((k + 1 + 1 : Nat) : Int)) = true := by rw [ej]; simp
       have HR := Lib.hid (show wholeF s = (false, false) by rw [HW4.out, HE.out, if_pos ej])
       push_cast at q1
       clear x1 x2 x3 ej
       go_wp2_with fail
       go_ret2
       exact ⟨end_whole HR.out, rfl⟩
      ·have q1 : ((j9 : Int) == ((k + 1 + 1 : Nat) : Int)) = false := by rw [beq_eq_false_iff_ne]; omega
       have HR := Lib.hid (show wholeF s = (((j9 : Int) == (n : Int)), true) by
        rw [HW4.out, HE.out, if_neg ej, HN.out, dec_int])
       push_cast at q1
       clear x1 x2 x3 ej
       go_wp2_with fail
       go_ret2
       exact ⟨end_whole HR.out, rfl⟩
     ·rw [decide_eq_false g1]
      go_wp2_with fail
      refine (refhas_calls s [45] (k + 1) w HS.out hp1 (by decide)).mono ?_
      rintro e w8 ⟨rfl, rfl⟩
      by_cases g2 : [45] <+: s.drop (k + 1)
      ·rw [decide_eq_true g2]
       have HG := Lib.hid (sgn_yes (.inr g2))
       have HSE := Lib.hid HG.out.1
       clear g1 g2
       go_wp2_with fail
       refine (refdigits_calls s (k + 1 + 1) w HS.out (by have := HG.out.2; omega)).mono ?_
       rintro e w9 ⟨j9, rfl, x1, x2, x3, rfl⟩
       have HE := Lib.hid (exp_eW (m := M) HDE.out HSE.out x3 x1 x2)
       by_cases ej : j9 = k + 1 + 1
       ·have q1 : ((j9 : Int) == ((k + 1 + 1 : Nat) : Int)) = true := by rw [ej]; simp
        have HR := Lib.hid (show wholeF s = (false, false) by rw [HW4.out, HE.out, if_pos ej])
        push_cast at q1
        clear x1 x2 x3 ej
        go_wp2_with fail
        go_ret2
        exact ⟨end_whole HR.out, rfl⟩
       ·have q1 : ((j9 : Int) == ((k + 1 + 1 : Nat) : Int)) = false := by rw [beq_eq_false_iff_ne]; omega
        have HR := Lib.hid (show wholeF s = (((j9 : Int) == (n : Int)), true) by
         rw [HW4.out, HE.out, if_neg ej, HN.out, dec_int])
        push_cast at q1
        clear x1 x2 x3 ej
        go_wp2_with fail
        go_ret2
        exact ⟨end_whole HR.out, rfl⟩
      ·rw [decide_eq_false g2]
       have HSE := Lib.hid (sgn_no g1 g2)
       clear g1 g2
       go_wp2_with fail
       refine (refdigits_calls s (k + 1) w HS.out (by exact hp1)).mono ?_
       rintro e w9 ⟨j9, rfl, x1, x2, x3, rfl⟩
       have HE := Lib.hid (exp_eW (m := M) HDE.out HSE.out x3 x1 x2)
       by_cases ej : j9 = k + 1
       ·have q1 : ((j9 : Int) == ((k + 1 : Nat) : Int)) = true := by rw [ej]; simp
        have HR := Lib.hid (show wholeF s = (false, false) by rw [HW4.out, HE.out, if_pos ej])
        push_cast at q1
        clear x1 x2 x3 ej
        go_wp2_with fail
        go_ret2
        exact ⟨end_whole HR.out, rfl⟩
       ·have q1 : ((j9 : Int) == ((k + 1 : Nat) : Int)) = false := by rw [beq_eq_false_iff_ne]; omega
        have HR := Lib.hid (show wholeF s = (((j9 : Int) == (n : Int)), true) by
         rw [HW4.out, HE.out, if_neg ej, HN.out, dec_int])
        push_cast at q1
        clear x1 x2 x3 ej
        go_wp2_with fail
        go_ret2
        exact ⟨end_whole HR.out, rfl⟩
    ·rw [decide_eq_false h1]
     go_wp2_with fail
     refine (refhas_calls s [69] k w HS.out HP.out (by decide)).mono ?_
     rintro e w6 ⟨rfl, rfl⟩
     by_cases h2 : [69] <+: s.drop k
     ·rw [decide_eq_true h2]
      have HDE := Lib.hid (show [101] <+: s.drop (k) ∨ [69] <+: s.drop (k) from .inr h2)
      have hp1 : k + 1 ≤ s.length := by
       have h := HDE.out
       rw [pre_one, pre_one] at h
       rcases Nat.lt_or_ge (k) s.length with x | x
       ·exact x
       ·rw [List.drop_of_length_le x] at h; rcases h with h | h <;> cases h
      have hwp : IntKind.i64.wrap ((k : Int) + 1) = (k : Int) + 1 := IntWalk.i64_in _ (by rw [HN.out] at hp1; omega)
      have hwp2 : IntKind.i64.wrap ((k : Int) + 1 + 1) = (k : Int) + 1 + 1 := IntWalk.i64_in _ (by rw [HN.out] at hp1; omega)
      go_wp2_with fail
      refine (refhas_calls s [43] (k + 1) w HS.out hp1 (by decide)).mono ?_
      rintro e w7 ⟨rfl, rfl⟩
      by_cases g1 : [43] <+: s.drop (k + 1)
      ·rw [decide_eq_true g1]
       have HG := Lib.hid (sgn_yes (.inl g1))
       have HSE := Lib.hid HG.out.1
       clear g1
       go_wp2_with fail
       refine (refdigits_calls s (k + 1 + 1) w HS.out (by have := HG.out.2; omega)).mono ?_
       rintro e w9 ⟨j9, rfl, x1, x2, x3, rfl⟩
       have HE := Lib.hid (exp_eW (m := M) HDE.out HSE.out x3 x1 x2)
       by_cases ej : j9 = k + 1 + 1
       ·have q1 : ((j9 : Int) == ((k + 1 + 1 : Nat) : Int)) = true := by rw [ej]; simp
        have HR := Lib.hid (show wholeF s = (false, false) by rw [HW4.out, HE.out, if_pos ej])
        push_cast at q1
        clear x1 x2 x3 ej
        go_wp2_with fail
        go_ret2
        exact ⟨end_whole HR.out, rfl⟩
       ·have q1 : ((j9 : Int) == ((k + 1 + 1 : Nat) : Int)) = false := by rw [beq_eq_false_iff_ne]; omega
        have HR := Lib.hid (show wholeF s = (((j9 : Int) == (n : Int)), true) by
         rw [HW4.out, HE.out, if_neg ej, HN.out, dec_int])
        push_cast at q1
        clear x1 x2 x3 ej
        go_wp2_with fail
        go_ret2
        exact ⟨end_whole HR.out, rfl⟩
      ·rw [decide_eq_false g1]
       go_wp2_with fail
       refine (refhas_calls s [45] (k + 1) w HS.out hp1 (by decide)).mono ?_
       rintro e w8 ⟨rfl, rfl⟩
       by_cases g2 : [45] <+: s.drop (k + 1)
       ·rw [decide_eq_true g2]
        have HG := Lib.hid (sgn_yes (.inr g2))
        have HSE := Lib.hid HG.out.1
        clear g1 g2
        go_wp2_with fail
        refine (refdigits_calls s (k + 1 + 1) w HS.out (by have := HG.out.2; omega)).mono ?_
        rintro e w9 ⟨j9, rfl, x1, x2, x3, rfl⟩
        have HE := Lib.hid (exp_eW (m := M) HDE.out HSE.out x3 x1 x2)
        by_cases ej : j9 = k + 1 + 1
        ·have q1 : ((j9 : Int) == ((k + 1 + 1 : Nat) : Int)) = true := by rw [ej]; simp
         have HR := Lib.hid (show wholeF s = (false, false) by rw [HW4.out, HE.out, if_pos ej])
         push_cast at q1
         clear x1 x2 x3 ej
         go_wp2_with fail
         go_ret2
         exact ⟨end_whole HR.out, rfl⟩
        ·have q1 : ((j9 : Int) == ((k + 1 + 1 : Nat) : Int)) = false := by rw [beq_eq_false_iff_ne]; omega
         have HR := Lib.hid (show wholeF s = (((j9 : Int) == (n : Int)), true) by
          rw [HW4.out, HE.out, if_neg ej, HN.out, dec_int])
         push_cast at q1
         clear x1 x2 x3 ej
         go_wp2_with fail
         go_ret2
         exact ⟨end_whole HR.out, rfl⟩
       ·rw [decide_eq_false g2]
        have HSE := Lib.hid (sgn_no g1 g2)
        clear g1 g2
        go_wp2_with fail
        refine (refdigits_calls s (k + 1) w HS.out (by exact hp1)).mono ?_
        rintro e w9 ⟨j9, rfl, x1, x2, x3, rfl⟩
        have HE := Lib.hid (exp_eW (m := M) HDE.out HSE.out x3 x1 x2)
        by_cases ej : j9 = k + 1
        ·have q1 : ((j9 : Int) == ((k + 1 : Nat) : Int)) = true := by rw [ej]; simp
         have HR := Lib.hid (show wholeF s = (false, false) by rw [HW4.out, HE.out, if_pos ej])
         push_cast at q1
         clear x1 x2 x3 ej
         go_wp2_with fail
         go_ret2
         exact ⟨end_whole HR.out, rfl⟩
        ·have q1 : ((j9 : Int) == ((k + 1 : Nat) : Int)) = false := by rw [beq_eq_false_iff_ne]; omega
         have HR := Lib.hid (show wholeF s = (((j9 : Int) == (n : Int)), true) by
          rw [HW4.out, HE.out, if_neg ej, HN.out, dec_int])
         push_cast at q1
         clear x1 x2 x3 ej
         go_wp2_with fail
         go_ret2
         exact ⟨end_whole HR.out, rfl⟩
     ·rw [decide_eq_false h2]
      have HR := Lib.hid (show wholeF s = (((k : Int) == (n : Int)), false) by
       rw [HW4.out, exp_noW h1 h2 HP.out, HM.out, HN.out, dec_int])
      clear h1 h2
      go_wp2_with fail
      go_ret2
      exact ⟨end_whole HR.out, rfl⟩
 ·have r1 : ¬ (2 : Int) < (k : Int) := by omega
  have r2 : decide ((2 : Int) < (k : Int)) = false := by simpa using r1
  have HW2 := Lib.hid (show wholeF s = fracF (s.drop k) by rw [HW.out, if_neg (fun x => x.elim e1 (fun x => e2 x.1))])
  clear k1 k2 k3 e1 e2
  go_wp2_with fail
  refine (refhas_calls s [46] k w HS.out HK.out (by decide)).mono ?_
  rintro e w3 ⟨rfl, rfl⟩
  by_cases hd : [46] <+: s.drop k
  ·rw [decide_eq_true hd]
   have hk1 : k + 1 ≤ s.length := by
    have h := hd
    rw [pre_one] at h
    rcases Nat.lt_or_ge k s.length with x | x
    ·exact x
    ·rw [List.drop_of_length_le x] at h; cases h
   have hwk : IntKind.i64.wrap ((k : Int) + 1) = (k : Int) + 1 := IntWalk.i64_in _ (by rw [HN.out] at hk1; omega)
   go_wp2_with fail
   refine (refdigits_calls s (k + 1) w HS.out hk1).mono ?_
   rintro e w4 ⟨j, rfl, y1, y2, y3, rfl⟩
   have HF := Lib.hid (frac_dotW hd y3 y1 y2)
   by_cases ej : j = k + 1
   ·have q1 : ((j : Int) == (k : Int) + 1) = true := by rw [ej]; simp
    have HR := Lib.hid (show wholeF s = (false, false) by rw [HW2.out, HF.out, if_pos ej])
    clear hd y1 y2 y3 ej hk1
    go_wp2_with fail
    go_ret2
    exact ⟨end_whole HR.out, rfl⟩
   ·have q1 : ((j : Int) == (k : Int) + 1) = false := by rw [beq_eq_false_iff_ne]; omega
    have HW4 := Lib.hid (show wholeF s = expF (s.drop j) true by rw [HW2.out, HF.out, if_neg ej])
    have HP := Lib.hid y2
    have hj6 : j ≤ 65536 := Nat.le_trans y2 HS.out
    clear hd y1 y2 y3 ej hk1 hwk
    obtain ⟨M, hM⟩ : ∃ M, M = true := ⟨_, rfl⟩
    rw [← hM] at HW4
    have HM := Lib.hid hM
    clear hM
    go_wp2_with fail
    refine (refhas_calls s [101] j w HS.out HP.out (by decide)).mono ?_
    rintro e w5 ⟨rfl, rfl⟩
    by_cases h1 : [101] <+: s.drop j
    ·rw [decide_eq_true h1]
     have HDE := Lib.hid (show [101] <+: s.drop (j) ∨ [69] <+: s.drop (j) from .inl h1)
     have hp1 : j + 1 ≤ s.length := by
      have h := HDE.out
      rw [pre_one, pre_one] at h
      rcases Nat.lt_or_ge (j) s.length with x | x
      ·exact x
      ·rw [List.drop_of_length_le x] at h; rcases h with h | h <;> cases h
     have hwp : IntKind.i64.wrap ((j : Int) + 1) = (j : Int) + 1 := IntWalk.i64_in _ (by rw [HN.out] at hp1; omega)
     have hwp2 : IntKind.i64.wrap ((j : Int) + 1 + 1) = (j : Int) + 1 + 1 := IntWalk.i64_in _ (by rw [HN.out] at hp1; omega)
     go_wp2_with fail
     refine (refhas_calls s [43] (j + 1) w HS.out hp1 (by decide)).mono ?_
     rintro e w7 ⟨rfl, rfl⟩
     by_cases g1 : [43] <+: s.drop (j + 1)
     ·rw [decide_eq_true g1]
      have HG := Lib.hid (sgn_yes (.inl g1))
      have HSE := Lib.hid HG.out.1
      clear g1
      go_wp2_with fail
      refine (refdigits_calls s (j + 1 + 1) w HS.out (by have := HG.out.2; omega)).mono ?_
      rintro e w9 ⟨j9, rfl, x1, x2, x3, rfl⟩
      have HE := Lib.hid (exp_eW (m := M) HDE.out HSE.out x3 x1 x2)
      by_cases ej : j9 = j + 1 + 1
      ·have q1 : ((j9 : Int) == ((j + 1 + 1 : Nat) : Int)) = true := by rw [ej]; simp
       have HR := Lib.hid (show wholeF s = (false, false) by rw [HW4.out, HE.out, if_pos ej])
       push_cast at q1
       clear x1 x2 x3 ej
       go_wp2_with fail
       go_ret2
       exact ⟨end_whole HR.out, rfl⟩
      ·have q1 : ((j9 : Int) == ((j + 1 + 1 : Nat) : Int)) = false := by rw [beq_eq_false_iff_ne]; omega
       have HR := Lib.hid (show wholeF s = (((j9 : Int) == (n : Int)), true) by
        rw [HW4.out, HE.out, if_neg ej, HN.out, dec_int])
       push_cast at q1
       clear x1 x2 x3 ej
       go_wp2_with fail
       go_ret2
       exact ⟨end_whole HR.out, rfl⟩
     ·rw [decide_eq_false g1]
      go_wp2_with fail
      refine (refhas_calls s [45] (j + 1) w HS.out hp1 (by decide)).mono ?_
      rintro e w8 ⟨rfl, rfl⟩
      by_cases g2 : [45] <+: s.drop (j + 1)
      ·rw [decide_eq_true g2]
       have HG := Lib.hid (sgn_yes (.inr g2))
       have HSE := Lib.hid HG.out.1
       clear g1 g2
       go_wp2_with fail
       refine (refdigits_calls s (j + 1 + 1) w HS.out (by have := HG.out.2; omega)).mono ?_
       rintro e w9 ⟨j9, rfl, x1, x2, x3, rfl⟩
       have HE := Lib.hid (exp_eW (m := M) HDE.out HSE.out x3 x1 x2)
       by_cases ej : j9 = j + 1 + 1
       ·have q1 : ((j9 : Int) == ((j + 1 + 1 : Nat) : Int)) = true := by rw [ej]; simp
        have HR := Lib.hid (show wholeF s = (false, false) by rw [HW4.out, HE.out, if_pos ej])
        push_cast at q1
        clear x1 x2 x3 ej
        go_wp2_with fail
        go_ret2
        exact ⟨end_whole HR.out, rfl⟩
       ·have q1 : ((j9 : Int) == ((j + 1 + 1 : Nat) : Int)) = false := by rw [beq_eq_false_iff_ne]; omega
        have HR := Lib.hid (show wholeF s = (((j9 : Int) == (n : Int)), true) by
         rw [HW4.out, HE.out, if_neg ej, HN.out, dec_int])
        push_cast at q1
        clear x1 x2 x3 ej
        go_wp2_with fail
        go_ret2
        exact ⟨end_whole HR.out, rfl⟩
      ·rw [decide_eq_false g2]
       have HSE := Lib.hid (sgn_no g1 g2)
       clear g1 g2
       go_wp2_with fail
       refine (refdigits_calls s (j + 1) w HS.out (by exact hp1)).mono ?_
       rintro e w9 ⟨j9, rfl, x1, x2, x3, rfl⟩
       have HE := Lib.hid (exp_eW (m := M) HDE.out HSE.out x3 x1 x2)
       by_cases ej : j9 = j + 1
       ·have q1 : ((j9 : Int) == ((j + 1 : Nat) : Int)) = true := by rw [ej]; simp
        have HR := Lib.hid (show wholeF s = (false, false) by rw [HW4.out, HE.out, if_pos ej])
        push_cast at q1
        clear x1 x2 x3 ej
        go_wp2_with fail
        go_ret2
        exact ⟨end_whole HR.out, rfl⟩
       ·have q1 : ((j9 : Int) == ((j + 1 : Nat) : Int)) = false := by rw [beq_eq_false_iff_ne]; omega
        have HR := Lib.hid (show wholeF s = (((j9 : Int) == (n : Int)), true) by
         rw [HW4.out, HE.out, if_neg ej, HN.out, dec_int])
        push_cast at q1
        clear x1 x2 x3 ej
        go_wp2_with fail
        go_ret2
        exact ⟨end_whole HR.out, rfl⟩
    ·rw [decide_eq_false h1]
     go_wp2_with fail
     refine (refhas_calls s [69] j w HS.out HP.out (by decide)).mono ?_
     rintro e w6 ⟨rfl, rfl⟩
     by_cases h2 : [69] <+: s.drop j
     ·rw [decide_eq_true h2]
      have HDE := Lib.hid (show [101] <+: s.drop (j) ∨ [69] <+: s.drop (j) from .inr h2)
      have hp1 : j + 1 ≤ s.length := by
       have h := HDE.out
       rw [pre_one, pre_one] at h
       rcases Nat.lt_or_ge (j) s.length with x | x
       ·exact x
       ·rw [List.drop_of_length_le x] at h; rcases h with h | h <;> cases h
      have hwp : IntKind.i64.wrap ((j : Int) + 1) = (j : Int) + 1 := IntWalk.i64_in _ (by rw [HN.out] at hp1; omega)
      have hwp2 : IntKind.i64.wrap ((j : Int) + 1 + 1) = (j : Int) + 1 + 1 := IntWalk.i64_in _ (by rw [HN.out] at hp1; omega)
      go_wp2_with fail
      refine (refhas_calls s [43] (j + 1) w HS.out hp1 (by decide)).mono ?_
      rintro e w7 ⟨rfl, rfl⟩
      by_cases g1 : [43] <+: s.drop (j + 1)
      ·rw [decide_eq_true g1]
       have HG := Lib.hid (sgn_yes (.inl g1))
       have HSE := Lib.hid HG.out.1
       clear g1
       go_wp2_with fail
       refine (refdigits_calls s (j + 1 + 1) w HS.out (by have := HG.out.2; omega)).mono ?_
       rintro e w9 ⟨j9, rfl, x1, x2, x3, rfl⟩
       have HE := Lib.hid (exp_eW (m := M) HDE.out HSE.out x3 x1 x2)
       by_cases ej : j9 = j + 1 + 1
       ·have q1 : ((j9 : Int) == ((j + 1 + 1 : Nat) : Int)) = true := by rw [ej]; simp
        have HR := Lib.hid (show wholeF s = (false, false) by rw [HW4.out, HE.out, if_pos ej])
        push_cast at q1
        clear x1 x2 x3 ej
        go_wp2_with fail
        go_ret2
        exact ⟨end_whole HR.out, rfl⟩
       ·have q1 : ((j9 : Int) == ((j + 1 + 1 : Nat) : Int)) = false := by rw [beq_eq_false_iff_ne]; omega
        have HR := Lib.hid (show wholeF s = (((j9 : Int) == (n : Int)), true) by
         rw [HW4.out, HE.out, if_neg ej, HN.out, dec_int])
        push_cast at q1
        clear x1 x2 x3 ej
        go_wp2_with fail
        go_ret2
        exact ⟨end_whole HR.out, rfl⟩
      ·rw [decide_eq_false g1]
       go_wp2_with fail
       refine (refhas_calls s [45] (j + 1) w HS.out hp1 (by decide)).mono ?_
       rintro e w8 ⟨rfl, rfl⟩
       by_cases g2 : [45] <+: s.drop (j + 1)
       ·rw [decide_eq_true g2]
        have HG := Lib.hid (sgn_yes (.inr g2))
        have HSE := Lib.hid HG.out.1
        clear g1 g2
        go_wp2_with fail
        refine (refdigits_calls s (j + 1 + 1) w HS.out (by have := HG.out.2; omega)).mono ?_
        rintro e w9 ⟨j9, rfl, x1, x2, x3, rfl⟩
        have HE := Lib.hid (exp_eW (m := M) HDE.out HSE.out x3 x1 x2)
        by_cases ej : j9 = j + 1 + 1
        ·have q1 : ((j9 : Int) == ((j + 1 + 1 : Nat) : Int)) = true := by rw [ej]; simp
         have HR := Lib.hid (show wholeF s = (false, false) by rw [HW4.out, HE.out, if_pos ej])
         push_cast at q1
         clear x1 x2 x3 ej
         go_wp2_with fail
         go_ret2
         exact ⟨end_whole HR.out, rfl⟩
        ·have q1 : ((j9 : Int) == ((j + 1 + 1 : Nat) : Int)) = false := by rw [beq_eq_false_iff_ne]; omega
         have HR := Lib.hid (show wholeF s = (((j9 : Int) == (n : Int)), true) by
          rw [HW4.out, HE.out, if_neg ej, HN.out, dec_int])
         push_cast at q1
         clear x1 x2 x3 ej
         go_wp2_with fail
         go_ret2
         exact ⟨end_whole HR.out, rfl⟩
       ·rw [decide_eq_false g2]
        have HSE := Lib.hid (sgn_no g1 g2)
        clear g1 g2
        go_wp2_with fail
        refine (refdigits_calls s (j + 1) w HS.out (by exact hp1)).mono ?_
        rintro e w9 ⟨j9, rfl, x1, x2, x3, rfl⟩
        have HE := Lib.hid (exp_eW (m := M) HDE.out HSE.out x3 x1 x2)
        by_cases ej : j9 = j + 1
        ·have q1 : ((j9 : Int) == ((j + 1 : Nat) : Int)) = true := by rw [ej]; simp
         have HR := Lib.hid (show wholeF s = (false, false) by rw [HW4.out, HE.out, if_pos ej])
         push_cast at q1
         clear x1 x2 x3 ej
         go_wp2_with fail
         go_ret2
         exact ⟨end_whole HR.out, rfl⟩
        ·have q1 : ((j9 : Int) == ((j + 1 : Nat) : Int)) = false := by rw [beq_eq_false_iff_ne]; omega
         have HR := Lib.hid (show wholeF s = (((j9 : Int) == (n : Int)), true) by
          rw [HW4.out, HE.out, if_neg ej, HN.out, dec_int])
         push_cast at q1
         clear x1 x2 x3 ej
         go_wp2_with fail
         go_ret2
         exact ⟨end_whole HR.out, rfl⟩
     ·rw [decide_eq_false h2]
      have HR := Lib.hid (show wholeF s = (((j : Int) == (n : Int)), true) by
       rw [HW4.out, exp_noW h1 h2 HP.out, HM.out, HN.out, dec_int])
      clear h1 h2
      go_wp2_with fail
      go_ret2
      exact ⟨end_whole HR.out, rfl⟩
  ·rw [decide_eq_false hd]
   have HW4 := Lib.hid (show wholeF s = expF (s.drop k) false by rw [HW2.out, frac_noW hd])
   have HP := HK
   clear hd
   obtain ⟨M, hM⟩ : ∃ M, M = false := ⟨_, rfl⟩
   rw [← hM] at HW4
   have HM := Lib.hid hM
   clear hM
   go_wp2_with fail
   refine (refhas_calls s [101] k w HS.out HP.out (by decide)).mono ?_
   rintro e w5 ⟨rfl, rfl⟩
   by_cases h1 : [101] <+: s.drop k
   ·rw [decide_eq_true h1]
    have HDE := Lib.hid (show [101] <+: s.drop (k) ∨ [69] <+: s.drop (k) from .inl h1)
    have hp1 : k + 1 ≤ s.length := by
     have h := HDE.out
     rw [pre_one, pre_one] at h
     rcases Nat.lt_or_ge (k) s.length with x | x
     ·exact x
     ·rw [List.drop_of_length_le x] at h; rcases h with h | h <;> cases h
    have hwp : IntKind.i64.wrap ((k : Int) + 1) = (k : Int) + 1 := IntWalk.i64_in _ (by rw [HN.out] at hp1; omega)
    have hwp2 : IntKind.i64.wrap ((k : Int) + 1 + 1) = (k : Int) + 1 + 1 := IntWalk.i64_in _ (by rw [HN.out] at hp1; omega)
    go_wp2_with fail
    refine (refhas_calls s [43] (k + 1) w HS.out hp1 (by decide)).mono ?_
    rintro e w7 ⟨rfl, rfl⟩
    by_cases g1 : [43] <+: s.drop (k + 1)
    ·rw [decide_eq_true g1]
     have HG := Lib.hid (sgn_yes (.inl g1))
     have HSE := Lib.hid HG.out.1
     clear g1
     go_wp2_with fail
     refine (refdigits_calls s (k + 1 + 1) w HS.out (by have := HG.out.2; omega)).mono ?_
     rintro e w9 ⟨j9, rfl, x1, x2, x3, rfl⟩
     have HE := Lib.hid (exp_eW (m := M) HDE.out HSE.out x3 x1 x2)
     by_cases ej : j9 = k + 1 + 1
     ·have q1 : ((j9 : Int) == ((k + 1 + 1 : Nat) : Int)) = true := by rw [ej]; simp
      have HR := Lib.hid (show wholeF s = (false, false) by rw [HW4.out, HE.out, if_pos ej])
      push_cast at q1
      clear x1 x2 x3 ej
      go_wp2_with fail
      go_ret2
      exact ⟨end_whole HR.out, rfl⟩
     ·have q1 : ((j9 : Int) == ((k + 1 + 1 : Nat) : Int)) = false := by rw [beq_eq_false_iff_ne]; omega
      have HR := Lib.hid (show wholeF s = (((j9 : Int) == (n : Int)), true) by
       rw [HW4.out, HE.out, if_neg ej, HN.out, dec_int])
      push_cast at q1
      clear x1 x2 x3 ej
      go_wp2_with fail
      go_ret2
      exact ⟨end_whole HR.out, rfl⟩
    ·rw [decide_eq_false g1]
     go_wp2_with fail
     refine (refhas_calls s [45] (k + 1) w HS.out hp1 (by decide)).mono ?_
     rintro e w8 ⟨rfl, rfl⟩
     by_cases g2 : [45] <+: s.drop (k + 1)
     ·rw [decide_eq_true g2]
      have HG := Lib.hid (sgn_yes (.inr g2))
      have HSE := Lib.hid HG.out.1
      clear g1 g2
      go_wp2_with fail
      refine (refdigits_calls s (k + 1 + 1) w HS.out (by have := HG.out.2; omega)).mono ?_
      rintro e w9 ⟨j9, rfl, x1, x2, x3, rfl⟩
      have HE := Lib.hid (exp_eW (m := M) HDE.out HSE.out x3 x1 x2)
      by_cases ej : j9 = k + 1 + 1
      ·have q1 : ((j9 : Int) == ((k + 1 + 1 : Nat) : Int)) = true := by rw [ej]; simp
       have HR := Lib.hid (show wholeF s = (false, false) by rw [HW4.out, HE.out, if_pos ej])
       push_cast at q1
       clear x1 x2 x3 ej
       go_wp2_with fail
       go_ret2
       exact ⟨end_whole HR.out, rfl⟩
      ·have q1 : ((j9 : Int) == ((k + 1 + 1 : Nat) : Int)) = false := by rw [beq_eq_false_iff_ne]; omega
       have HR := Lib.hid (show wholeF s = (((j9 : Int) == (n : Int)), true) by
        rw [HW4.out, HE.out, if_neg ej, HN.out, dec_int])
       push_cast at q1
       clear x1 x2 x3 ej
       go_wp2_with fail
       go_ret2
       exact ⟨end_whole HR.out, rfl⟩
     ·rw [decide_eq_false g2]
      have HSE := Lib.hid (sgn_no g1 g2)
      clear g1 g2
      go_wp2_with fail
      refine (refdigits_calls s (k + 1) w HS.out (by exact hp1)).mono ?_
      rintro e w9 ⟨j9, rfl, x1, x2, x3, rfl⟩
      have HE := Lib.hid (exp_eW (m := M) HDE.out HSE.out x3 x1 x2)
      by_cases ej : j9 = k + 1
      ·have q1 : ((j9 : Int) == ((k + 1 : Nat) : Int)) = true := by rw [ej]; simp
       have HR := Lib.hid (show wholeF s = (false, false) by rw [HW4.out, HE.out, if_pos ej])
       push_cast at q1
       clear x1 x2 x3 ej
       go_wp2_with fail
       go_ret2
       exact ⟨end_whole HR.out, rfl⟩
      ·have q1 : ((j9 : Int) == ((k + 1 : Nat) : Int)) = false := by rw [beq_eq_false_iff_ne]; omega
       have HR := Lib.hid (show wholeF s = (((j9 : Int) == (n : Int)), true) by
        rw [HW4.out, HE.out, if_neg ej, HN.out, dec_int])
       push_cast at q1
       clear x1 x2 x3 ej
       go_wp2_with fail
       go_ret2
       exact ⟨end_whole HR.out, rfl⟩
   ·rw [decide_eq_false h1]
    go_wp2_with fail
    refine (refhas_calls s [69] k w HS.out HP.out (by decide)).mono ?_
    rintro e w6 ⟨rfl, rfl⟩
    by_cases h2 : [69] <+: s.drop k
    ·rw [decide_eq_true h2]
     have HDE := Lib.hid (show [101] <+: s.drop (k) ∨ [69] <+: s.drop (k) from .inr h2)
     have hp1 : k + 1 ≤ s.length := by
      have h := HDE.out
      rw [pre_one, pre_one] at h
      rcases Nat.lt_or_ge (k) s.length with x | x
      ·exact x
      ·rw [List.drop_of_length_le x] at h; rcases h with h | h <;> cases h
     have hwp : IntKind.i64.wrap ((k : Int) + 1) = (k : Int) + 1 := IntWalk.i64_in _ (by rw [HN.out] at hp1; omega)
     have hwp2 : IntKind.i64.wrap ((k : Int) + 1 + 1) = (k : Int) + 1 + 1 := IntWalk.i64_in _ (by rw [HN.out] at hp1; omega)
     go_wp2_with fail
     refine (refhas_calls s [43] (k + 1) w HS.out hp1 (by decide)).mono ?_
     rintro e w7 ⟨rfl, rfl⟩
     by_cases g1 : [43] <+: s.drop (k + 1)
     ·rw [decide_eq_true g1]
      have HG := Lib.hid (sgn_yes (.inl g1))
      have HSE := Lib.hid HG.out.1
      clear g1
      go_wp2_with fail
      refine (refdigits_calls s (k + 1 + 1) w HS.out (by have := HG.out.2; omega)).mono ?_
      rintro e w9 ⟨j9, rfl, x1, x2, x3, rfl⟩
      have HE := Lib.hid (exp_eW (m := M) HDE.out HSE.out x3 x1 x2)
      by_cases ej : j9 = k + 1 + 1
      ·have q1 : ((j9 : Int) == ((k + 1 + 1 : Nat) : Int)) = true := by rw [ej]; simp
       have HR := Lib.hid (show wholeF s = (false, false) by rw [HW4.out, HE.out, if_pos ej])
       push_cast at q1
       clear x1 x2 x3 ej
       go_wp2_with fail
       go_ret2
       exact ⟨end_whole HR.out, rfl⟩
      ·have q1 : ((j9 : Int) == ((k + 1 + 1 : Nat) : Int)) = false := by rw [beq_eq_false_iff_ne]; omega
       have HR := Lib.hid (show wholeF s = (((j9 : Int) == (n : Int)), true) by
        rw [HW4.out, HE.out, if_neg ej, HN.out, dec_int])
       push_cast at q1
       clear x1 x2 x3 ej
       go_wp2_with fail
       go_ret2
       exact ⟨end_whole HR.out, rfl⟩
     ·rw [decide_eq_false g1]
      go_wp2_with fail
      refine (refhas_calls s [45] (k + 1) w HS.out hp1 (by decide)).mono ?_
      rintro e w8 ⟨rfl, rfl⟩
      by_cases g2 : [45] <+: s.drop (k + 1)
      ·rw [decide_eq_true g2]
       have HG := Lib.hid (sgn_yes (.inr g2))
       have HSE := Lib.hid HG.out.1
       clear g1 g2
       go_wp2_with fail
       refine (refdigits_calls s (k + 1 + 1) w HS.out (by have := HG.out.2; omega)).mono ?_
       rintro e w9 ⟨j9, rfl, x1, x2, x3, rfl⟩
       have HE := Lib.hid (exp_eW (m := M) HDE.out HSE.out x3 x1 x2)
       by_cases ej : j9 = k + 1 + 1
       ·have q1 : ((j9 : Int) == ((k + 1 + 1 : Nat) : Int)) = true := by rw [ej]; simp
        have HR := Lib.hid (show wholeF s = (false, false) by rw [HW4.out, HE.out, if_pos ej])
        push_cast at q1
        clear x1 x2 x3 ej
        go_wp2_with fail
        go_ret2
        exact ⟨end_whole HR.out, rfl⟩
       ·have q1 : ((j9 : Int) == ((k + 1 + 1 : Nat) : Int)) = false := by rw [beq_eq_false_iff_ne]; omega
        have HR := Lib.hid (show wholeF s = (((j9 : Int) == (n : Int)), true) by
         rw [HW4.out, HE.out, if_neg ej, HN.out, dec_int])
        push_cast at q1
        clear x1 x2 x3 ej
        go_wp2_with fail
        go_ret2
        exact ⟨end_whole HR.out, rfl⟩
      ·rw [decide_eq_false g2]
       have HSE := Lib.hid (sgn_no g1 g2)
       clear g1 g2
       go_wp2_with fail
       refine (refdigits_calls s (k + 1) w HS.out (by exact hp1)).mono ?_
       rintro e w9 ⟨j9, rfl, x1, x2, x3, rfl⟩
       have HE := Lib.hid (exp_eW (m := M) HDE.out HSE.out x3 x1 x2)
       by_cases ej : j9 = k + 1
       ·have q1 : ((j9 : Int) == ((k + 1 : Nat) : Int)) = true := by rw [ej]; simp
        have HR := Lib.hid (show wholeF s = (false, false) by rw [HW4.out, HE.out, if_pos ej])
        push_cast at q1
        clear x1 x2 x3 ej
        go_wp2_with fail
        go_ret2
        exact ⟨end_whole HR.out, rfl⟩
       ·have q1 : ((j9 : Int) == ((k + 1 : Nat) : Int)) = false := by rw [beq_eq_false_iff_ne]; omega
        have HR := Lib.hid (show wholeF s = (((j9 : Int) == (n : Int)), true) by
         rw [HW4.out, HE.out, if_neg ej, HN.out, dec_int])
        push_cast at q1
        clear x1 x2 x3 ej
        go_wp2_with fail
        go_ret2
        exact ⟨end_whole HR.out, rfl⟩
    ·rw [decide_eq_false h2]
     have HR := Lib.hid (show wholeF s = (((k : Int) == (n : Int)), false) by
      rw [HW4.out, exp_noW h1 h2 HP.out, HM.out, HN.out, dec_int])
     clear h1 h2
     go_wp2_with fail
     go_ret2
     exact ⟨end_whole HR.out, rfl⟩
set_option maxHeartbeats 16000000 in
theorem refwhole_pos (s : List UInt8) (w : World) (hs : s.length ≤ 65536) (hb : ¬ [45] <+: s.drop 0) : Calls Tryz.prog 71 #[.string ⟨s.toArray⟩] w fun e w' => e = .returned (.tuple #[.bool (wholeF s).1, .bool (wholeF s).2]) ∧ w = w' := by
 have HS := Lib.hid hs
 obtain ⟨n, hn⟩ : ∃ n, s.length = n := ⟨_, rfl⟩
 have hsz : (⟨s.toArray⟩ : ByteArray).size = n := hn
 have hn6 : n ≤ 65536 := by rw [← hn]; exact hs
 have HN := Lib.hid hn
 have HSA := Lib.hid (And.intro (sign_noW hb) (Nat.zero_le s.length))
 have HSG := Lib.hid HSA.out.1
 have HA := Lib.hid HSA.out.2
 have HB := Lib.hid hb
 clear hs hn hb
 go_enter Tryz.func71, Tryz.ntmps71
 go_wp2_with fail
 refine (refhas_calls s [45] 0 w HS.out (Nat.zero_le _) (by decide)).mono ?_
 rintro e w1 ⟨rfl, rfl⟩
 rw [show decide ([45] <+: s.drop 0) = false from decide_eq_false HB.out]
 go_wp2_with fail
 refine (refdigits_calls s 0 w HS.out HA.out).mono ?_
 rintro e w2 ⟨k, rfl, k1, k2, k3, rfl⟩
 have HW := Lib.hid (whole_at HSG.out k3 k1 k2)
 have HK := Lib.hid k2
 have hk6 : k ≤ 65536 := Nat.le_trans k2 HS.out
 by_cases e1 : k = 0
 ·have q1 : ((k : Int) == 0) = true := by rw [e1]; rfl
  have HR := Lib.hid (show wholeF s = (false, false) by rw [HW.out, if_pos (.inl e1)])
  clear k1 k2 k3 e1
  go_wp2_with fail
  go_ret2
  exact ⟨end_whole HR.out, rfl⟩
 have q1 : ((k : Int) == 0) = false := by rw [beq_eq_false_iff_ne]; omega
 by_cases e2 : 0 + 1 < k
 ·have r1 : (1 : Int) < (k : Int) := by omega
  have r2 : decide ((1 : Int) < (k : Int)) = true := by simpa using r1
  have hal : 0 < s.length := by omega
  have han : 0 < n := by rw [← HN.out]; exact hal
  have hai : (0 : Int) < (n : Int) := by omega
  obtain ⟨c, hc⟩ : ∃ c, s[0] = c := ⟨_, rfl⟩
  have hhead : (s.drop 0).head? = some c := by rw [List.drop_eq_getElem_cons hal, hc]; rfl
  by_cases e3 : c = 48
  ·have HR := Lib.hid (show wholeF s = (false, false) by rw [HW.out, if_pos (.inr ⟨e2, by rw [hhead, e3]⟩)])
   subst e3
   clear k1 k2 k3 e1 e2 hhead
   go_wp2_with fail
   go_ret2
   exact ⟨end_whole HR.out, rfl⟩
  ·have HW2 := Lib.hid (show wholeF s = fracF (s.drop k) by rw [HW.out, if_neg (fun x => x.elim e1 (fun x => e3 (by have h := x.2; rw [hhead] at h; injection h)))])
   have q3 : ((c.toNat : Int) == 48) = false := by
    rw [beq_eq_false_iff_ne]
    intro e
    exact e3 (UInt8.toNat_inj.1 (by show c.toNat = 48; omega))
   clear k1 k2 k3 e1 e2 hhead e3
   go_wp2_with fail
   refine (refhas_calls s [46] k w HS.out HK.out (by decide)).mono ?_
   rintro e w3 ⟨rfl, rfl⟩
   by_cases hd : [46] <+: s.drop k
   ·rw [decide_eq_true hd]
    have hk1 : k + 1 ≤ s.length := by
     have h := hd
     rw [pre_one] at h
     rcases Nat.lt_or_ge k s.length with x | x
     ·exact x
     ·rw [List.drop_of_length_le x] at h; cases h
    have hwk : IntKind.i64.wrap ((k : Int) + 1) = (k : Int) + 1 := IntWalk.i64_in _ (by rw [HN.out] at hk1; omega)
    go_wp2_with fail
    refine (refdigits_calls s (k + 1) w HS.out hk1).mono ?_
    rintro e w4 ⟨j, rfl, y1, y2, y3, rfl⟩
    have HF := Lib.hid (frac_dotW hd y3 y1 y2)
    by_cases ej : j = k + 1
    ·have q1 : ((j : Int) == (k : Int) + 1) = true := by rw [ej]; simp
     have HR := Lib.hid (show wholeF s = (false, false) by rw [HW2.out, HF.out, if_pos ej])
     clear hd y1 y2 y3 ej hk1
     go_wp2_with fail
     go_ret2
     exact ⟨end_whole HR.out, rfl⟩
    ·have q1 : ((j : Int) == (k : Int) + 1) = false := by rw [beq_eq_false_iff_ne]; omega
     have HW4 := Lib.hid (show wholeF s = expF (s.drop j) true by rw [HW2.out, HF.out, if_neg ej])
     have HP := Lib.hid y2
     have hj6 : j ≤ 65536 := Nat.le_trans y2 HS.out
     clear hd y1 y2 y3 ej hk1 hwk
     obtain ⟨M, hM⟩ : ∃ M, M = true := ⟨_, rfl⟩
     rw [← hM] at HW4
     have HM := Lib.hid hM
     clear hM
     go_wp2_with fail
     refine (refhas_calls s [101] j w HS.out HP.out (by decide)).mono ?_
     rintro e w5 ⟨rfl, rfl⟩
     by_cases h1 : [101] <+: s.drop j
     ·rw [decide_eq_true h1]
      have HDE := Lib.hid (show [101] <+: s.drop (j) ∨ [69] <+: s.drop (j) from .inl h1)
      have hp1 : j + 1 ≤ s.length := by
       have h := HDE.out
       rw [pre_one, pre_one] at h
       rcases Nat.lt_or_ge (j) s.length with x | x
       ·exact x
       ·rw [List.drop_of_length_le x] at h; rcases h with h | h <;> cases h
      have hwp : IntKind.i64.wrap ((j : Int) + 1) = (j : Int) + 1 := IntWalk.i64_in _ (by rw [HN.out] at hp1; omega)
      have hwp2 : IntKind.i64.wrap ((j : Int) + 1 + 1) = (j : Int) + 1 + 1 := IntWalk.i64_in _ (by rw [HN.out] at hp1; omega)
      go_wp2_with fail
      refine (refhas_calls s [43] (j + 1) w HS.out hp1 (by decide)).mono ?_
      rintro e w7 ⟨rfl, rfl⟩
      by_cases g1 : [43] <+: s.drop (j + 1)
      ·rw [decide_eq_true g1]
       have HG := Lib.hid (sgn_yes (.inl g1))
       have HSE := Lib.hid HG.out.1
       clear g1
       go_wp2_with fail
       refine (refdigits_calls s (j + 1 + 1) w HS.out (by have := HG.out.2; omega)).mono ?_
       rintro e w9 ⟨j9, rfl, x1, x2, x3, rfl⟩
       have HE := Lib.hid (exp_eW (m := M) HDE.out HSE.out x3 x1 x2)
       by_cases ej : j9 = j + 1 + 1
       ·have q1 : ((j9 : Int) == ((j + 1 + 1 : Nat) : Int)) = true := by rw [ej]; simp
        have HR := Lib.hid (show wholeF s = (false, false) by rw [HW4.out, HE.out, if_pos ej])
        push_cast at q1
        clear x1 x2 x3 ej
        go_wp2_with fail
        go_ret2
        exact ⟨end_whole HR.out, rfl⟩
       ·have q1 : ((j9 : Int) == ((j + 1 + 1 : Nat) : Int)) = false := by rw [beq_eq_false_iff_ne]; omega
        have HR := Lib.hid (show wholeF s = (((j9 : Int) == (n : Int)), true) by
         rw [HW4.out, HE.out, if_neg ej, HN.out, dec_int])
        push_cast at q1
        clear x1 x2 x3 ej
        go_wp2_with fail
        go_ret2
        exact ⟨end_whole HR.out, rfl⟩
      ·rw [decide_eq_false g1]
       go_wp2_with fail
       refine (refhas_calls s [45] (j + 1) w HS.out hp1 (by decide)).mono ?_
       rintro e w8 ⟨rfl, rfl⟩
       by_cases g2 : [45] <+: s.drop (j + 1)
       ·rw [decide_eq_true g2]
        have HG := Lib.hid (sgn_yes (.inr g2))
        have HSE := Lib.hid HG.out.1
        clear g1 g2
        go_wp2_with fail
        refine (refdigits_calls s (j + 1 + 1) w HS.out (by have := HG.out.2; omega)).mono ?_
        rintro e w9 ⟨j9, rfl, x1, x2, x3, rfl⟩
        have HE := Lib.hid (exp_eW (m := M) HDE.out HSE.out x3 x1 x2)
        by_cases ej : j9 = j + 1 + 1
        ·have q1 : ((j9 : Int) == ((j + 1 + 1 : Nat) : Int)) = true := by rw [ej]; simp
         have HR := Lib.hid (show wholeF s = (false, false) by rw [HW4.out, HE.out, if_pos ej])
         push_cast at q1
         clear x1 x2 x3 ej
         go_wp2_with fail
         go_ret2
         exact ⟨end_whole HR.out, rfl⟩
        ·have q1 : ((j9 : Int) == ((j + 1 + 1 : Nat) : Int)) = false := by rw [beq_eq_false_iff_ne]; omega
         have HR := Lib.hid (show wholeF s = (((j9 : Int) == (n : Int)), true) by
          rw [HW4.out, HE.out, if_neg ej, HN.out, dec_int])
         push_cast at q1
         clear x1 x2 x3 ej
         go_wp2_with fail
         go_ret2
         exact ⟨end_whole HR.out, rfl⟩
       ·rw [decide_eq_false g2]
        have HSE := Lib.hid (sgn_no g1 g2)
        clear g1 g2
        go_wp2_with fail
        refine (refdigits_calls s (j + 1) w HS.out (by exact hp1)).mono ?_
        rintro e w9 ⟨j9, rfl, x1, x2, x3, rfl⟩
        have HE := Lib.hid (exp_eW (m := M) HDE.out HSE.out x3 x1 x2)
        by_cases ej : j9 = j + 1
        ·have q1 : ((j9 : Int) == ((j + 1 : Nat) : Int)) = true := by rw [ej]; simp
         have HR := Lib.hid (show wholeF s = (false, false) by rw [HW4.out, HE.out, if_pos ej])
         push_cast at q1
         clear x1 x2 x3 ej
         go_wp2_with fail
         go_ret2
         exact ⟨end_whole HR.out, rfl⟩
        ·have q1 : ((j9 : Int) == ((j + 1 : Nat) : Int)) = false := by rw [beq_eq_false_iff_ne]; omega
         have HR := Lib.hid (show wholeF s = (((j9 : Int) == (n : Int)), true) by
          rw [HW4.out, HE.out, if_neg ej, HN.out, dec_int])
         push_cast at q1
         clear x1 x2 x3 ej
         go_wp2_with fail
         go_ret2
         exact ⟨end_whole HR.out, rfl⟩
     ·rw [decide_eq_false h1]
      go_wp2_with fail
      refine (refhas_calls s [69] j w HS.out HP.out (by decide)).mono ?_
      rintro e w6 ⟨rfl, rfl⟩
      by_cases h2 : [69] <+: s.drop j
      ·rw [decide_eq_true h2]
       have HDE := Lib.hid (show [101] <+: s.drop (j) ∨ [69] <+: s.drop (j) from .inr h2)
       have hp1 : j + 1 ≤ s.length := by
        have h := HDE.out
        rw [pre_one, pre_one] at h
        rcases Nat.lt_or_ge (j) s.length with x | x
        ·exact x
        ·rw [List.drop_of_length_le x] at h; rcases h with h | h <;> cases h
       have hwp : IntKind.i64.wrap ((j : Int) + 1) = (j : Int) + 1 := IntWalk.i64_in _ (by rw [HN.out] at hp1; omega)
       have hwp2 : IntKind.i64.wrap ((j : Int) + 1 + 1) = (j : Int) + 1 + 1 := IntWalk.i64_in _ (by rw [HN.out] at hp1; omega)
       go_wp2_with fail
       refine (refhas_calls s [43] (j + 1) w HS.out hp1 (by decide)).mono ?_
       rintro e w7 ⟨rfl, rfl⟩
       by_cases g1 : [43] <+: s.drop (j + 1)
       ·rw [decide_eq_true g1]
        have HG := Lib.hid (sgn_yes (.inl g1))
        have HSE := Lib.hid HG.out.1
        clear g1
        go_wp2_with fail
        refine (refdigits_calls s (j + 1 + 1) w HS.out (by have := HG.out.2; omega)).mono ?_
        rintro e w9 ⟨j9, rfl, x1, x2, x3, rfl⟩
        have HE := Lib.hid (exp_eW (m := M) HDE.out HSE.out x3 x1 x2)
        by_cases ej : j9 = j + 1 + 1
        ·have q1 : ((j9 : Int) == ((j + 1 + 1 : Nat) : Int)) = true := by rw [ej]; simp
         have HR := Lib.hid (show wholeF s = (false, false) by rw [HW4.out, HE.out, if_pos ej])
         push_cast at q1
         clear x1 x2 x3 ej
         go_wp2_with fail
         go_ret2
         exact ⟨end_whole HR.out, rfl⟩
        ·have q1 : ((j9 : Int) == ((j + 1 + 1 : Nat) : Int)) = false := by rw [beq_eq_false_iff_ne]; omega
         have HR := Lib.hid (show wholeF s = (((j9 : Int) == (n : Int)), true) by
          rw [HW4.out, HE.out, if_neg ej, HN.out, dec_int])
         push_cast at q1
         clear x1 x2 x3 ej
         go_wp2_with fail
         go_ret2
         exact ⟨end_whole HR.out, rfl⟩
       ·rw [decide_eq_false g1]
        go_wp2_with fail
        refine (refhas_calls s [45] (j + 1) w HS.out hp1 (by decide)).mono ?_
        rintro e w8 ⟨rfl, rfl⟩
        by_cases g2 : [45] <+: s.drop (j + 1)
        ·rw [decide_eq_true g2]
         have HG := Lib.hid (sgn_yes (.inr g2))
         have HSE := Lib.hid HG.out.1
         clear g1 g2
         go_wp2_with fail
         refine (refdigits_calls s (j + 1 + 1) w HS.out (by have := HG.out.2; omega)).mono ?_
         rintro e w9 ⟨j9, rfl, x1, x2, x3, rfl⟩
         have HE := Lib.hid (exp_eW (m := M) HDE.out HSE.out x3 x1 x2)
         by_cases ej : j9 = j + 1 + 1
         ·have q1 : ((j9 : Int) == ((j + 1 + 1 : Nat) : Int)) = true := by rw [ej]; simp
          have HR := Lib.hid (show wholeF s = (false, false) by rw [HW4.out, HE.out, if_pos ej])
          push_cast at q1
          clear x1 x2 x3 ej
          go_wp2_with fail
          go_ret2
          exact ⟨end_whole HR.out, rfl⟩
         ·have q1 : ((j9 : Int) == ((j + 1 + 1 : Nat) : Int)) = false := by rw [beq_eq_false_iff_ne]; omega
          have HR := Lib.hid (show wholeF s = (((j9 : Int) == (n : Int)), true) by
           rw [HW4.out, HE.out, if_neg ej, HN.out, dec_int])
          push_cast at q1
          clear x1 x2 x3 ej
          go_wp2_with fail
          go_ret2
          exact ⟨end_whole HR.out, rfl⟩
        ·rw [decide_eq_false g2]
         have HSE := Lib.hid (sgn_no g1 g2)
         clear g1 g2
         go_wp2_with fail
         refine (refdigits_calls s (j + 1) w HS.out (by exact hp1)).mono ?_
         rintro e w9 ⟨j9, rfl, x1, x2, x3, rfl⟩
         have HE := Lib.hid (exp_eW (m := M) HDE.out HSE.out x3 x1 x2)
         by_cases ej : j9 = j + 1
         ·have q1 : ((j9 : Int) == ((j + 1 : Nat) : Int)) = true := by rw [ej]; simp
          have HR := Lib.hid (show wholeF s = (false, false) by rw [HW4.out, HE.out, if_pos ej])
          push_cast at q1
          clear x1 x2 x3 ej
          go_wp2_with fail
          go_ret2
          exact ⟨end_whole HR.out, rfl⟩
         ·have q1 : ((j9 : Int) == ((j + 1 : Nat) : Int)) = false := by rw [beq_eq_false_iff_ne]; omega
          have HR := Lib.hid (show wholeF s = (((j9 : Int) == (n : Int)), true) by
           rw [HW4.out, HE.out, if_neg ej, HN.out, dec_int])
          push_cast at q1
          clear x1 x2 x3 ej
          go_wp2_with fail
          go_ret2
          exact ⟨end_whole HR.out, rfl⟩
      ·rw [decide_eq_false h2]
       have HR := Lib.hid (show wholeF s = (((j : Int) == (n : Int)), true) by
        rw [HW4.out, exp_noW h1 h2 HP.out, HM.out, HN.out, dec_int])
       clear h1 h2
       go_wp2_with fail
       go_ret2
       exact ⟨end_whole HR.out, rfl⟩
   ·rw [decide_eq_false hd]
    have HW4 := Lib.hid (show wholeF s = expF (s.drop k) false by rw [HW2.out, frac_noW hd])
    have HP := HK
    clear hd
    obtain ⟨M, hM⟩ : ∃ M, M = false := ⟨_, rfl⟩
    rw [← hM] at HW4
    have HM := Lib.hid hM
    clear hM
    go_wp2_with fail
    refine (refhas_calls s [101] k w HS.out HP.out (by decide)).mono ?_
    rintro e w5 ⟨rfl, rfl⟩
    by_cases h1 : [101] <+: s.drop k
    ·rw [decide_eq_true h1]
     have HDE := Lib.hid (show [101] <+: s.drop (k) ∨ [69] <+: s.drop (k) from .inl h1)
     have hp1 : k + 1 ≤ s.length := by
      have h := HDE.out
      rw [pre_one, pre_one] at h
      rcases Nat.lt_or_ge (k) s.length with x | x
      ·exact x
      ·rw [List.drop_of_length_le x] at h; rcases h with h | h <;> cases h
     have hwp : IntKind.i64.wrap ((k : Int) + 1) = (k : Int) + 1 := IntWalk.i64_in _ (by rw [HN.out] at hp1; omega)
     have hwp2 : IntKind.i64.wrap ((k : Int) + 1 + 1) = (k : Int) + 1 + 1 := IntWalk.i64_in _ (by rw [HN.out] at hp1; omega)
     go_wp2_with fail
     refine (refhas_calls s [43] (k + 1) w HS.out hp1 (by decide)).mono ?_
     rintro e w7 ⟨rfl, rfl⟩
     by_cases g1 : [43] <+: s.drop (k + 1)
     ·rw [decide_eq_true g1]
      have HG := Lib.hid (sgn_yes (.inl g1))
      have HSE := Lib.hid HG.out.1
      clear g1
      go_wp2_with fail
      refine (refdigits_calls s (k + 1 + 1) w HS.out (by have := HG.out.2; omega)).mono ?_
      rintro e w9 ⟨j9, rfl, x1, x2, x3, rfl⟩
      have HE := Lib.hid (exp_eW (m := M) HDE.out HSE.out x3 x1 x2)
      by_cases ej : j9 = k + 1 + 1
      ·have q1 : ((j9 : Int) == ((k + 1 + 1 : Nat) : Int)) = true := by rw [ej]; simp
       have HR := Lib.hid (show wholeF s = (false, false) by rw [HW4.out, HE.out, if_pos ej])
       push_cast at q1
       clear x1 x2 x3 ej
       go_wp2_with fail
       go_ret2
       exact ⟨end_whole HR.out, rfl⟩
      ·have q1 : ((j9 : Int) == ((k + 1 + 1 : Nat) : Int)) = false := by rw [beq_eq_false_iff_ne]; omega
       have HR := Lib.hid (show wholeF s = (((j9 : Int) == (n : Int)), true) by
        rw [HW4.out, HE.out, if_neg ej, HN.out, dec_int])
       push_cast at q1
       clear x1 x2 x3 ej
       go_wp2_with fail
       go_ret2
       exact ⟨end_whole HR.out, rfl⟩
     ·rw [decide_eq_false g1]
      go_wp2_with fail
      refine (refhas_calls s [45] (k + 1) w HS.out hp1 (by decide)).mono ?_
      rintro e w8 ⟨rfl, rfl⟩
      by_cases g2 : [45] <+: s.drop (k + 1)
      ·rw [decide_eq_true g2]
       have HG := Lib.hid (sgn_yes (.inr g2))
       have HSE := Lib.hid HG.out.1
       clear g1 g2
       go_wp2_with fail
       refine (refdigits_calls s (k + 1 + 1) w HS.out (by have := HG.out.2; omega)).mono ?_
       rintro e w9 ⟨j9, rfl, x1, x2, x3, rfl⟩
       have HE := Lib.hid (exp_eW (m := M) HDE.out HSE.out x3 x1 x2)
       by_cases ej : j9 = k + 1 + 1
       ·have q1 : ((j9 : Int) == ((k + 1 + 1 : Nat) : Int)) = true := by rw [ej]; simp
        have HR := Lib.hid (show wholeF s = (false, false) by rw [HW4.out, HE.out, if_pos ej])
        push_cast at q1
        clear x1 x2 x3 ej
        go_wp2_with fail
        go_ret2
        exact ⟨end_whole HR.out, rfl⟩
       ·have q1 : ((j9 : Int) == ((k + 1 + 1 : Nat) : Int)) = false := by rw [beq_eq_false_iff_ne]; omega
        have HR := Lib.hid (show wholeF s = (((j9 : Int) == (n : Int)), true) by
         rw [HW4.out, HE.out, if_neg ej, HN.out, dec_int])
        push_cast at q1
        clear x1 x2 x3 ej
        go_wp2_with fail
        go_ret2
        exact ⟨end_whole HR.out, rfl⟩
      ·rw [decide_eq_false g2]
       have HSE := Lib.hid (sgn_no g1 g2)
       clear g1 g2
       go_wp2_with fail
       refine (refdigits_calls s (k + 1) w HS.out (by exact hp1)).mono ?_
       rintro e w9 ⟨j9, rfl, x1, x2, x3, rfl⟩
       have HE := Lib.hid (exp_eW (m := M) HDE.out HSE.out x3 x1 x2)
       by_cases ej : j9 = k + 1
       ·have q1 : ((j9 : Int) == ((k + 1 : Nat) : Int)) = true := by rw [ej]; simp
        have HR := Lib.hid (show wholeF s = (false, false) by rw [HW4.out, HE.out, if_pos ej])
        push_cast at q1
        clear x1 x2 x3 ej
        go_wp2_with fail
        go_ret2
        exact ⟨end_whole HR.out, rfl⟩
       ·have q1 : ((j9 : Int) == ((k + 1 : Nat) : Int)) = false := by rw [beq_eq_false_iff_ne]; omega
        have HR := Lib.hid (show wholeF s = (((j9 : Int) == (n : Int)), true) by
         rw [HW4.out, HE.out, if_neg ej, HN.out, dec_int])
        push_cast at q1
        clear x1 x2 x3 ej
        go_wp2_with fail
        go_ret2
        exact ⟨end_whole HR.out, rfl⟩
    ·rw [decide_eq_false h1]
     go_wp2_with fail
     refine (refhas_calls s [69] k w HS.out HP.out (by decide)).mono ?_
     rintro e w6 ⟨rfl, rfl⟩
     by_cases h2 : [69] <+: s.drop k
     ·rw [decide_eq_true h2]
      have HDE := Lib.hid (show [101] <+: s.drop (k) ∨ [69] <+: s.drop (k) from .inr h2)
      have hp1 : k + 1 ≤ s.length := by
       have h := HDE.out
       rw [pre_one, pre_one] at h
       rcases Nat.lt_or_ge (k) s.length with x | x
       ·exact x
       ·rw [List.drop_of_length_le x] at h; rcases h with h | h <;> cases h
      have hwp : IntKind.i64.wrap ((k : Int) + 1) = (k : Int) + 1 := IntWalk.i64_in _ (by rw [HN.out] at hp1; omega)
      have hwp2 : IntKind.i64.wrap ((k : Int) + 1 + 1) = (k : Int) + 1 + 1 := IntWalk.i64_in _ (by rw [HN.out] at hp1; omega)
      go_wp2_with fail
      refine (refhas_calls s [43] (k + 1) w HS.out hp1 (by decide)).mono ?_
      rintro e w7 ⟨rfl, rfl⟩
      by_cases g1 : [43] <+: s.drop (k + 1)
      ·rw [decide_eq_true g1]
       have HG := Lib.hid (sgn_yes (.inl g1))
       have HSE := Lib.hid HG.out.1
       clear g1
       go_wp2_with fail
       refine (refdigits_calls s (k + 1 + 1) w HS.out (by have := HG.out.2; omega)).mono ?_
       rintro e w9 ⟨j9, rfl, x1, x2, x3, rfl⟩
       have HE := Lib.hid (exp_eW (m := M) HDE.out HSE.out x3 x1 x2)
       by_cases ej : j9 = k + 1 + 1
       ·have q1 : ((j9 : Int) == ((k + 1 + 1 : Nat) : Int)) = true := by rw [ej]; simp
        have HR := Lib.hid (show wholeF s = (false, false) by rw [HW4.out, HE.out, if_pos ej])
        push_cast at q1
        clear x1 x2 x3 ej
        go_wp2_with fail
        go_ret2
        exact ⟨end_whole HR.out, rfl⟩
       ·have q1 : ((j9 : Int) == ((k + 1 + 1 : Nat) : Int)) = false := by rw [beq_eq_false_iff_ne]; omega
        have HR := Lib.hid (show wholeF s = (((j9 : Int) == (n : Int)), true) by
         rw [HW4.out, HE.out, if_neg ej, HN.out, dec_int])
        push_cast at q1
        clear x1 x2 x3 ej
        go_wp2_with fail
        go_ret2
        exact ⟨end_whole HR.out, rfl⟩
      ·rw [decide_eq_false g1]
       go_wp2_with fail
       refine (refhas_calls s [45] (k + 1) w HS.out hp1 (by decide)).mono ?_
       rintro e w8 ⟨rfl, rfl⟩
       by_cases g2 : [45] <+: s.drop (k + 1)
       ·rw [decide_eq_true g2]
        have HG := Lib.hid (sgn_yes (.inr g2))
        have HSE := Lib.hid HG.out.1
        clear g1 g2
        go_wp2_with fail
        refine (refdigits_calls s (k + 1 + 1) w HS.out (by have := HG.out.2; omega)).mono ?_
        rintro e w9 ⟨j9, rfl, x1, x2, x3, rfl⟩
        have HE := Lib.hid (exp_eW (m := M) HDE.out HSE.out x3 x1 x2)
        by_cases ej : j9 = k + 1 + 1
        ·have q1 : ((j9 : Int) == ((k + 1 + 1 : Nat) : Int)) = true := by rw [ej]; simp
         have HR := Lib.hid (show wholeF s = (false, false) by rw [HW4.out, HE.out, if_pos ej])
         push_cast at q1
         clear x1 x2 x3 ej
         go_wp2_with fail
         go_ret2
         exact ⟨end_whole HR.out, rfl⟩
        ·have q1 : ((j9 : Int) == ((k + 1 + 1 : Nat) : Int)) = false := by rw [beq_eq_false_iff_ne]; omega
         have HR := Lib.hid (show wholeF s = (((j9 : Int) == (n : Int)), true) by
          rw [HW4.out, HE.out, if_neg ej, HN.out, dec_int])
         push_cast at q1
         clear x1 x2 x3 ej
         go_wp2_with fail
         go_ret2
         exact ⟨end_whole HR.out, rfl⟩
       ·rw [decide_eq_false g2]
        have HSE := Lib.hid (sgn_no g1 g2)
        clear g1 g2
        go_wp2_with fail
        refine (refdigits_calls s (k + 1) w HS.out (by exact hp1)).mono ?_
        rintro e w9 ⟨j9, rfl, x1, x2, x3, rfl⟩
        have HE := Lib.hid (exp_eW (m := M) HDE.out HSE.out x3 x1 x2)
        by_cases ej : j9 = k + 1
        ·have q1 : ((j9 : Int) == ((k + 1 : Nat) : Int)) = true := by rw [ej]; simp
         have HR := Lib.hid (show wholeF s = (false, false) by rw [HW4.out, HE.out, if_pos ej])
         push_cast at q1
         clear x1 x2 x3 ej
         go_wp2_with fail
         go_ret2
         exact ⟨end_whole HR.out, rfl⟩
        ·have q1 : ((j9 : Int) == ((k + 1 : Nat) : Int)) = false := by rw [beq_eq_false_iff_ne]; omega
         have HR := Lib.hid (show wholeF s = (((j9 : Int) == (n : Int)), true) by
          rw [HW4.out, HE.out, if_neg ej, HN.out, dec_int])
         push_cast at q1
         clear x1 x2 x3 ej
         go_wp2_with fail
         go_ret2
         exact ⟨end_whole HR.out, rfl⟩
     ·rw [decide_eq_false h2]
      have HR := Lib.hid (show wholeF s = (((k : Int) == (n : Int)), false) by
       rw [HW4.out, exp_noW h1 h2 HP.out, HM.out, HN.out, dec_int])
      clear h1 h2
      go_wp2_with fail
      go_ret2
      exact ⟨end_whole HR.out, rfl⟩
 ·have r1 : ¬ (1 : Int) < (k : Int) := by omega
  have r2 : decide ((1 : Int) < (k : Int)) = false := by simpa using r1
  have HW2 := Lib.hid (show wholeF s = fracF (s.drop k) by rw [HW.out, if_neg (fun x => x.elim e1 (fun x => e2 x.1))])
  clear k1 k2 k3 e1 e2
  go_wp2_with fail
  refine (refhas_calls s [46] k w HS.out HK.out (by decide)).mono ?_
  rintro e w3 ⟨rfl, rfl⟩
  by_cases hd : [46] <+: s.drop k
  ·rw [decide_eq_true hd]
   have hk1 : k + 1 ≤ s.length := by
    have h := hd
    rw [pre_one] at h
    rcases Nat.lt_or_ge k s.length with x | x
    ·exact x
    ·rw [List.drop_of_length_le x] at h; cases h
   have hwk : IntKind.i64.wrap ((k : Int) + 1) = (k : Int) + 1 := IntWalk.i64_in _ (by rw [HN.out] at hk1; omega)
   go_wp2_with fail
   refine (refdigits_calls s (k + 1) w HS.out hk1).mono ?_
   rintro e w4 ⟨j, rfl, y1, y2, y3, rfl⟩
   have HF := Lib.hid (frac_dotW hd y3 y1 y2)
   by_cases ej : j = k + 1
   ·have q1 : ((j : Int) == (k : Int) + 1) = true := by rw [ej]; simp
    have HR := Lib.hid (show wholeF s = (false, false) by rw [HW2.out, HF.out, if_pos ej])
    clear hd y1 y2 y3 ej hk1
    go_wp2_with fail
    go_ret2
    exact ⟨end_whole HR.out, rfl⟩
   ·have q1 : ((j : Int) == (k : Int) + 1) = false := by rw [beq_eq_false_iff_ne]; omega
    have HW4 := Lib.hid (show wholeF s = expF (s.drop j) true by rw [HW2.out, HF.out, if_neg ej])
    have HP := Lib.hid y2
    have hj6 : j ≤ 65536 := Nat.le_trans y2 HS.out
    clear hd y1 y2 y3 ej hk1 hwk
    obtain ⟨M, hM⟩ : ∃ M, M = true := ⟨_, rfl⟩
    rw [← hM] at HW4
    have HM := Lib.hid hM
    clear hM
    go_wp2_with fail
    refine (refhas_calls s [101] j w HS.out HP.out (by decide)).mono ?_
    rintro e w5 ⟨rfl, rfl⟩
    by_cases h1 : [101] <+: s.drop j
    ·rw [decide_eq_true h1]
     have HDE := Lib.hid (show [101] <+: s.drop (j) ∨ [69] <+: s.drop (j) from .inl h1)
     have hp1 : j + 1 ≤ s.length := by
      have h := HDE.out
      rw [pre_one, pre_one] at h
      rcases Nat.lt_or_ge (j) s.length with x | x
      ·exact x
      ·rw [List.drop_of_length_le x] at h; rcases h with h | h <;> cases h
     have hwp : IntKind.i64.wrap ((j : Int) + 1) = (j : Int) + 1 := IntWalk.i64_in _ (by rw [HN.out] at hp1; omega)
     have hwp2 : IntKind.i64.wrap ((j : Int) + 1 + 1) = (j : Int) + 1 + 1 := IntWalk.i64_in _ (by rw [HN.out] at hp1; omega)
     go_wp2_with fail
     refine (refhas_calls s [43] (j + 1) w HS.out hp1 (by decide)).mono ?_
     rintro e w7 ⟨rfl, rfl⟩
     by_cases g1 : [43] <+: s.drop (j + 1)
     ·rw [decide_eq_true g1]
      have HG := Lib.hid (sgn_yes (.inl g1))
      have HSE := Lib.hid HG.out.1
      clear g1
      go_wp2_with fail
      refine (refdigits_calls s (j + 1 + 1) w HS.out (by have := HG.out.2; omega)).mono ?_
      rintro e w9 ⟨j9, rfl, x1, x2, x3, rfl⟩
      have HE := Lib.hid (exp_eW (m := M) HDE.out HSE.out x3 x1 x2)
      by_cases ej : j9 = j + 1 + 1
      ·have q1 : ((j9 : Int) == ((j + 1 + 1 : Nat) : Int)) = true := by rw [ej]; simp
       have HR := Lib.hid (show wholeF s = (false, false) by rw [HW4.out, HE.out, if_pos ej])
       push_cast at q1
       clear x1 x2 x3 ej
       go_wp2_with fail
       go_ret2
       exact ⟨end_whole HR.out, rfl⟩
      ·have q1 : ((j9 : Int) == ((j + 1 + 1 : Nat) : Int)) = false := by rw [beq_eq_false_iff_ne]; omega
       have HR := Lib.hid (show wholeF s = (((j9 : Int) == (n : Int)), true) by
        rw [HW4.out, HE.out, if_neg ej, HN.out, dec_int])
       push_cast at q1
       clear x1 x2 x3 ej
       go_wp2_with fail
       go_ret2
       exact ⟨end_whole HR.out, rfl⟩
     ·rw [decide_eq_false g1]
      go_wp2_with fail
      refine (refhas_calls s [45] (j + 1) w HS.out hp1 (by decide)).mono ?_
      rintro e w8 ⟨rfl, rfl⟩
      by_cases g2 : [45] <+: s.drop (j + 1)
      ·rw [decide_eq_true g2]
       have HG := Lib.hid (sgn_yes (.inr g2))
       have HSE := Lib.hid HG.out.1
       clear g1 g2
       go_wp2_with fail
       refine (refdigits_calls s (j + 1 + 1) w HS.out (by have := HG.out.2; omega)).mono ?_
       rintro e w9 ⟨j9, rfl, x1, x2, x3, rfl⟩
       have HE := Lib.hid (exp_eW (m := M) HDE.out HSE.out x3 x1 x2)
       by_cases ej : j9 = j + 1 + 1
       ·have q1 : ((j9 : Int) == ((j + 1 + 1 : Nat) : Int)) = true := by rw [ej]; simp
        have HR := Lib.hid (show wholeF s = (false, false) by rw [HW4.out, HE.out, if_pos ej])
        push_cast at q1
        clear x1 x2 x3 ej
        go_wp2_with fail
        go_ret2
        exact ⟨end_whole HR.out, rfl⟩
       ·have q1 : ((j9 : Int) == ((j + 1 + 1 : Nat) : Int)) = false := by rw [beq_eq_false_iff_ne]; omega
        have HR := Lib.hid (show wholeF s = (((j9 : Int) == (n : Int)), true) by
         rw [HW4.out, HE.out, if_neg ej, HN.out, dec_int])
        push_cast at q1
        clear x1 x2 x3 ej
        go_wp2_with fail
        go_ret2
        exact ⟨end_whole HR.out, rfl⟩
      ·rw [decide_eq_false g2]
       have HSE := Lib.hid (sgn_no g1 g2)
       clear g1 g2
       go_wp2_with fail
       refine (refdigits_calls s (j + 1) w HS.out (by exact hp1)).mono ?_
       rintro e w9 ⟨j9, rfl, x1, x2, x3, rfl⟩
       have HE := Lib.hid (exp_eW (m := M) HDE.out HSE.out x3 x1 x2)
       by_cases ej : j9 = j + 1
       ·have q1 : ((j9 : Int) == ((j + 1 : Nat) : Int)) = true := by rw [ej]; simp
        have HR := Lib.hid (show wholeF s = (false, false) by rw [HW4.out, HE.out, if_pos ej])
        push_cast at q1
        clear x1 x2 x3 ej
        go_wp2_with fail
        go_ret2
        exact ⟨end_whole HR.out, rfl⟩
       ·have q1 : ((j9 : Int) == ((j + 1 : Nat) : Int)) = false := by rw [beq_eq_false_iff_ne]; omega
        have HR := Lib.hid (show wholeF s = (((j9 : Int) == (n : Int)), true) by
         rw [HW4.out, HE.out, if_neg ej, HN.out, dec_int])
        push_cast at q1
        clear x1 x2 x3 ej
        go_wp2_with fail
        go_ret2
        exact ⟨end_whole HR.out, rfl⟩
    ·rw [decide_eq_false h1]
     go_wp2_with fail
     refine (refhas_calls s [69] j w HS.out HP.out (by decide)).mono ?_
     rintro e w6 ⟨rfl, rfl⟩
     by_cases h2 : [69] <+: s.drop j
     ·rw [decide_eq_true h2]
      have HDE := Lib.hid (show [101] <+: s.drop (j) ∨ [69] <+: s.drop (j) from .inr h2)
      have hp1 : j + 1 ≤ s.length := by
       have h := HDE.out
       rw [pre_one, pre_one] at h
       rcases Nat.lt_or_ge (j) s.length with x | x
       ·exact x
       ·rw [List.drop_of_length_le x] at h; rcases h with h | h <;> cases h
      have hwp : IntKind.i64.wrap ((j : Int) + 1) = (j : Int) + 1 := IntWalk.i64_in _ (by rw [HN.out] at hp1; omega)
      have hwp2 : IntKind.i64.wrap ((j : Int) + 1 + 1) = (j : Int) + 1 + 1 := IntWalk.i64_in _ (by rw [HN.out] at hp1; omega)
      go_wp2_with fail
      refine (refhas_calls s [43] (j + 1) w HS.out hp1 (by decide)).mono ?_
      rintro e w7 ⟨rfl, rfl⟩
      by_cases g1 : [43] <+: s.drop (j + 1)
      ·rw [decide_eq_true g1]
       have HG := Lib.hid (sgn_yes (.inl g1))
       have HSE := Lib.hid HG.out.1
       clear g1
       go_wp2_with fail
       refine (refdigits_calls s (j + 1 + 1) w HS.out (by have := HG.out.2; omega)).mono ?_
       rintro e w9 ⟨j9, rfl, x1, x2, x3, rfl⟩
       have HE := Lib.hid (exp_eW (m := M) HDE.out HSE.out x3 x1 x2)
       by_cases ej : j9 = j + 1 + 1
       ·have q1 : ((j9 : Int) == ((j + 1 + 1 : Nat) : Int)) = true := by rw [ej]; simp
        have HR := Lib.hid (show wholeF s = (false, false) by rw [HW4.out, HE.out, if_pos ej])
        push_cast at q1
        clear x1 x2 x3 ej
        go_wp2_with fail
        go_ret2
        exact ⟨end_whole HR.out, rfl⟩
       ·have q1 : ((j9 : Int) == ((j + 1 + 1 : Nat) : Int)) = false := by rw [beq_eq_false_iff_ne]; omega
        have HR := Lib.hid (show wholeF s = (((j9 : Int) == (n : Int)), true) by
         rw [HW4.out, HE.out, if_neg ej, HN.out, dec_int])
        push_cast at q1
        clear x1 x2 x3 ej
        go_wp2_with fail
        go_ret2
        exact ⟨end_whole HR.out, rfl⟩
      ·rw [decide_eq_false g1]
       go_wp2_with fail
       refine (refhas_calls s [45] (j + 1) w HS.out hp1 (by decide)).mono ?_
       rintro e w8 ⟨rfl, rfl⟩
       by_cases g2 : [45] <+: s.drop (j + 1)
       ·rw [decide_eq_true g2]
        have HG := Lib.hid (sgn_yes (.inr g2))
        have HSE := Lib.hid HG.out.1
        clear g1 g2
        go_wp2_with fail
        refine (refdigits_calls s (j + 1 + 1) w HS.out (by have := HG.out.2; omega)).mono ?_
        rintro e w9 ⟨j9, rfl, x1, x2, x3, rfl⟩
        have HE := Lib.hid (exp_eW (m := M) HDE.out HSE.out x3 x1 x2)
        by_cases ej : j9 = j + 1 + 1
        ·have q1 : ((j9 : Int) == ((j + 1 + 1 : Nat) : Int)) = true := by rw [ej]; simp
         have HR := Lib.hid (show wholeF s = (false, false) by rw [HW4.out, HE.out, if_pos ej])
         push_cast at q1
         clear x1 x2 x3 ej
         go_wp2_with fail
         go_ret2
         exact ⟨end_whole HR.out, rfl⟩
        ·have q1 : ((j9 : Int) == ((j + 1 + 1 : Nat) : Int)) = false := by rw [beq_eq_false_iff_ne]; omega
         have HR := Lib.hid (show wholeF s = (((j9 : Int) == (n : Int)), true) by
          rw [HW4.out, HE.out, if_neg ej, HN.out, dec_int])
         push_cast at q1
         clear x1 x2 x3 ej
         go_wp2_with fail
         go_ret2
         exact ⟨end_whole HR.out, rfl⟩
       ·rw [decide_eq_false g2]
        have HSE := Lib.hid (sgn_no g1 g2)
        clear g1 g2
        go_wp2_with fail
        refine (refdigits_calls s (j + 1) w HS.out (by exact hp1)).mono ?_
        rintro e w9 ⟨j9, rfl, x1, x2, x3, rfl⟩
        have HE := Lib.hid (exp_eW (m := M) HDE.out HSE.out x3 x1 x2)
        by_cases ej : j9 = j + 1
        ·have q1 : ((j9 : Int) == ((j + 1 : Nat) : Int)) = true := by rw [ej]; simp
         have HR := Lib.hid (show wholeF s = (false, false) by rw [HW4.out, HE.out, if_pos ej])
         push_cast at q1
         clear x1 x2 x3 ej
         go_wp2_with fail
         go_ret2
         exact ⟨end_whole HR.out, rfl⟩
        ·have q1 : ((j9 : Int) == ((j + 1 : Nat) : Int)) = false := by rw [beq_eq_false_iff_ne]; omega
         have HR := Lib.hid (show wholeF s = (((j9 : Int) == (n : Int)), true) by
          rw [HW4.out, HE.out, if_neg ej, HN.out, dec_int])
         push_cast at q1
         clear x1 x2 x3 ej
         go_wp2_with fail
         go_ret2
         exact ⟨end_whole HR.out, rfl⟩
     ·rw [decide_eq_false h2]
      have HR := Lib.hid (show wholeF s = (((j : Int) == (n : Int)), true) by
       rw [HW4.out, exp_noW h1 h2 HP.out, HM.out, HN.out, dec_int])
      clear h1 h2
      go_wp2_with fail
      go_ret2
      exact ⟨end_whole HR.out, rfl⟩
  ·rw [decide_eq_false hd]
   have HW4 := Lib.hid (show wholeF s = expF (s.drop k) false by rw [HW2.out, frac_noW hd])
   have HP := HK
   clear hd
   obtain ⟨M, hM⟩ : ∃ M, M = false := ⟨_, rfl⟩
   rw [← hM] at HW4
   have HM := Lib.hid hM
   clear hM
   go_wp2_with fail
   refine (refhas_calls s [101] k w HS.out HP.out (by decide)).mono ?_
   rintro e w5 ⟨rfl, rfl⟩
   by_cases h1 : [101] <+: s.drop k
   ·rw [decide_eq_true h1]
    have HDE := Lib.hid (show [101] <+: s.drop (k) ∨ [69] <+: s.drop (k) from .inl h1)
    have hp1 : k + 1 ≤ s.length := by
     have h := HDE.out
     rw [pre_one, pre_one] at h
     rcases Nat.lt_or_ge (k) s.length with x | x
     ·exact x
     ·rw [List.drop_of_length_le x] at h; rcases h with h | h <;> cases h
    have hwp : IntKind.i64.wrap ((k : Int) + 1) = (k : Int) + 1 := IntWalk.i64_in _ (by rw [HN.out] at hp1; omega)
    have hwp2 : IntKind.i64.wrap ((k : Int) + 1 + 1) = (k : Int) + 1 + 1 := IntWalk.i64_in _ (by rw [HN.out] at hp1; omega)
    go_wp2_with fail
    refine (refhas_calls s [43] (k + 1) w HS.out hp1 (by decide)).mono ?_
    rintro e w7 ⟨rfl, rfl⟩
    by_cases g1 : [43] <+: s.drop (k + 1)
    ·rw [decide_eq_true g1]
     have HG := Lib.hid (sgn_yes (.inl g1))
     have HSE := Lib.hid HG.out.1
     clear g1
     go_wp2_with fail
     refine (refdigits_calls s (k + 1 + 1) w HS.out (by have := HG.out.2; omega)).mono ?_
     rintro e w9 ⟨j9, rfl, x1, x2, x3, rfl⟩
     have HE := Lib.hid (exp_eW (m := M) HDE.out HSE.out x3 x1 x2)
     by_cases ej : j9 = k + 1 + 1
     ·have q1 : ((j9 : Int) == ((k + 1 + 1 : Nat) : Int)) = true := by rw [ej]; simp
      have HR := Lib.hid (show wholeF s = (false, false) by rw [HW4.out, HE.out, if_pos ej])
      push_cast at q1
      clear x1 x2 x3 ej
      go_wp2_with fail
      go_ret2
      exact ⟨end_whole HR.out, rfl⟩
     ·have q1 : ((j9 : Int) == ((k + 1 + 1 : Nat) : Int)) = false := by rw [beq_eq_false_iff_ne]; omega
      have HR := Lib.hid (show wholeF s = (((j9 : Int) == (n : Int)), true) by
       rw [HW4.out, HE.out, if_neg ej, HN.out, dec_int])
      push_cast at q1
      clear x1 x2 x3 ej
      go_wp2_with fail
      go_ret2
      exact ⟨end_whole HR.out, rfl⟩
    ·rw [decide_eq_false g1]
     go_wp2_with fail
     refine (refhas_calls s [45] (k + 1) w HS.out hp1 (by decide)).mono ?_
     rintro e w8 ⟨rfl, rfl⟩
     by_cases g2 : [45] <+: s.drop (k + 1)
     ·rw [decide_eq_true g2]
      have HG := Lib.hid (sgn_yes (.inr g2))
      have HSE := Lib.hid HG.out.1
      clear g1 g2
      go_wp2_with fail
      refine (refdigits_calls s (k + 1 + 1) w HS.out (by have := HG.out.2; omega)).mono ?_
      rintro e w9 ⟨j9, rfl, x1, x2, x3, rfl⟩
      have HE := Lib.hid (exp_eW (m := M) HDE.out HSE.out x3 x1 x2)
      by_cases ej : j9 = k + 1 + 1
      ·have q1 : ((j9 : Int) == ((k + 1 + 1 : Nat) : Int)) = true := by rw [ej]; simp
       have HR := Lib.hid (show wholeF s = (false, false) by rw [HW4.out, HE.out, if_pos ej])
       push_cast at q1
       clear x1 x2 x3 ej
       go_wp2_with fail
       go_ret2
       exact ⟨end_whole HR.out, rfl⟩
      ·have q1 : ((j9 : Int) == ((k + 1 + 1 : Nat) : Int)) = false := by rw [beq_eq_false_iff_ne]; omega
       have HR := Lib.hid (show wholeF s = (((j9 : Int) == (n : Int)), true) by
        rw [HW4.out, HE.out, if_neg ej, HN.out, dec_int])
       push_cast at q1
       clear x1 x2 x3 ej
       go_wp2_with fail
       go_ret2
       exact ⟨end_whole HR.out, rfl⟩
     ·rw [decide_eq_false g2]
      have HSE := Lib.hid (sgn_no g1 g2)
      clear g1 g2
      go_wp2_with fail
      refine (refdigits_calls s (k + 1) w HS.out (by exact hp1)).mono ?_
      rintro e w9 ⟨j9, rfl, x1, x2, x3, rfl⟩
      have HE := Lib.hid (exp_eW (m := M) HDE.out HSE.out x3 x1 x2)
      by_cases ej : j9 = k + 1
      ·have q1 : ((j9 : Int) == ((k + 1 : Nat) : Int)) = true := by rw [ej]; simp
       have HR := Lib.hid (show wholeF s = (false, false) by rw [HW4.out, HE.out, if_pos ej])
       push_cast at q1
       clear x1 x2 x3 ej
       go_wp2_with fail
       go_ret2
       exact ⟨end_whole HR.out, rfl⟩
      ·have q1 : ((j9 : Int) == ((k + 1 : Nat) : Int)) = false := by rw [beq_eq_false_iff_ne]; omega
       have HR := Lib.hid (show wholeF s = (((j9 : Int) == (n : Int)), true) by
        rw [HW4.out, HE.out, if_neg ej, HN.out, dec_int])
       push_cast at q1
       clear x1 x2 x3 ej
       go_wp2_with fail
       go_ret2
       exact ⟨end_whole HR.out, rfl⟩
   ·rw [decide_eq_false h1]
    go_wp2_with fail
    refine (refhas_calls s [69] k w HS.out HP.out (by decide)).mono ?_
    rintro e w6 ⟨rfl, rfl⟩
    by_cases h2 : [69] <+: s.drop k
    ·rw [decide_eq_true h2]
     have HDE := Lib.hid (show [101] <+: s.drop (k) ∨ [69] <+: s.drop (k) from .inr h2)
     have hp1 : k + 1 ≤ s.length := by
      have h := HDE.out
      rw [pre_one, pre_one] at h
      rcases Nat.lt_or_ge (k) s.length with x | x
      ·exact x
      ·rw [List.drop_of_length_le x] at h; rcases h with h | h <;> cases h
     have hwp : IntKind.i64.wrap ((k : Int) + 1) = (k : Int) + 1 := IntWalk.i64_in _ (by rw [HN.out] at hp1; omega)
     have hwp2 : IntKind.i64.wrap ((k : Int) + 1 + 1) = (k : Int) + 1 + 1 := IntWalk.i64_in _ (by rw [HN.out] at hp1; omega)
     go_wp2_with fail
     refine (refhas_calls s [43] (k + 1) w HS.out hp1 (by decide)).mono ?_
     rintro e w7 ⟨rfl, rfl⟩
     by_cases g1 : [43] <+: s.drop (k + 1)
     ·rw [decide_eq_true g1]
      have HG := Lib.hid (sgn_yes (.inl g1))
      have HSE := Lib.hid HG.out.1
      clear g1
      go_wp2_with fail
      refine (refdigits_calls s (k + 1 + 1) w HS.out (by have := HG.out.2; omega)).mono ?_
      rintro e w9 ⟨j9, rfl, x1, x2, x3, rfl⟩
      have HE := Lib.hid (exp_eW (m := M) HDE.out HSE.out x3 x1 x2)
      by_cases ej : j9 = k + 1 + 1
      ·have q1 : ((j9 : Int) == ((k + 1 + 1 : Nat) : Int)) = true := by rw [ej]; simp
       have HR := Lib.hid (show wholeF s = (false, false) by rw [HW4.out, HE.out, if_pos ej])
       push_cast at q1
       clear x1 x2 x3 ej
       go_wp2_with fail
       go_ret2
       exact ⟨end_whole HR.out, rfl⟩
      ·have q1 : ((j9 : Int) == ((k + 1 + 1 : Nat) : Int)) = false := by rw [beq_eq_false_iff_ne]; omega
       have HR := Lib.hid (show wholeF s = (((j9 : Int) == (n : Int)), true) by
        rw [HW4.out, HE.out, if_neg ej, HN.out, dec_int])
       push_cast at q1
       clear x1 x2 x3 ej
       go_wp2_with fail
       go_ret2
       exact ⟨end_whole HR.out, rfl⟩
     ·rw [decide_eq_false g1]
      go_wp2_with fail
      refine (refhas_calls s [45] (k + 1) w HS.out hp1 (by decide)).mono ?_
      rintro e w8 ⟨rfl, rfl⟩
      by_cases g2 : [45] <+: s.drop (k + 1)
      ·rw [decide_eq_true g2]
       have HG := Lib.hid (sgn_yes (.inr g2))
       have HSE := Lib.hid HG.out.1
       clear g1 g2
       go_wp2_with fail
       refine (refdigits_calls s (k + 1 + 1) w HS.out (by have := HG.out.2; omega)).mono ?_
       rintro e w9 ⟨j9, rfl, x1, x2, x3, rfl⟩
       have HE := Lib.hid (exp_eW (m := M) HDE.out HSE.out x3 x1 x2)
       by_cases ej : j9 = k + 1 + 1
       ·have q1 : ((j9 : Int) == ((k + 1 + 1 : Nat) : Int)) = true := by rw [ej]; simp
        have HR := Lib.hid (show wholeF s = (false, false) by rw [HW4.out, HE.out, if_pos ej])
        push_cast at q1
        clear x1 x2 x3 ej
        go_wp2_with fail
        go_ret2
        exact ⟨end_whole HR.out, rfl⟩
       ·have q1 : ((j9 : Int) == ((k + 1 + 1 : Nat) : Int)) = false := by rw [beq_eq_false_iff_ne]; omega
        have HR := Lib.hid (show wholeF s = (((j9 : Int) == (n : Int)), true) by
         rw [HW4.out, HE.out, if_neg ej, HN.out, dec_int])
        push_cast at q1
        clear x1 x2 x3 ej
        go_wp2_with fail
        go_ret2
        exact ⟨end_whole HR.out, rfl⟩
      ·rw [decide_eq_false g2]
       have HSE := Lib.hid (sgn_no g1 g2)
       clear g1 g2
       go_wp2_with fail
       refine (refdigits_calls s (k + 1) w HS.out (by exact hp1)).mono ?_
       rintro e w9 ⟨j9, rfl, x1, x2, x3, rfl⟩
       have HE := Lib.hid (exp_eW (m := M) HDE.out HSE.out x3 x1 x2)
       by_cases ej : j9 = k + 1
       ·have q1 : ((j9 : Int) == ((k + 1 : Nat) : Int)) = true := by rw [ej]; simp
        have HR := Lib.hid (show wholeF s = (false, false) by rw [HW4.out, HE.out, if_pos ej])
        push_cast at q1
        clear x1 x2 x3 ej
        go_wp2_with fail
        go_ret2
        exact ⟨end_whole HR.out, rfl⟩
       ·have q1 : ((j9 : Int) == ((k + 1 : Nat) : Int)) = false := by rw [beq_eq_false_iff_ne]; omega
        have HR := Lib.hid (show wholeF s = (((j9 : Int) == (n : Int)), true) by
         rw [HW4.out, HE.out, if_neg ej, HN.out, dec_int])
        push_cast at q1
        clear x1 x2 x3 ej
        go_wp2_with fail
        go_ret2
        exact ⟨end_whole HR.out, rfl⟩
    ·rw [decide_eq_false h2]
     have HR := Lib.hid (show wholeF s = (((k : Int) == (n : Int)), false) by
      rw [HW4.out, exp_noW h1 h2 HP.out, HM.out, HN.out, dec_int])
     clear h1 h2
     go_wp2_with fail
     go_ret2
     exact ⟨end_whole HR.out, rfl⟩
theorem refwhole_calls (s : List UInt8) (w : World) (hs : s.length ≤ 65536) : Calls Tryz.prog 71 #[.string ⟨s.toArray⟩] w fun e w' => e = .returned (.tuple #[.bool (wholeF s).1, .bool (wholeF s).2]) ∧ w = w' := by
 by_cases hb : [45] <+: s.drop 0
 ·exact refwhole_neg s w hs hb
 ·exact refwhole_pos s w hs hb
end Go.Proofs.YtajkgcmopmpihaaGreatDoor
