/- Texts put together: QuC QuE JvA QuF QuT JpA JpB. -/
import Derived.Test.YtajkgcmopmpihaaGreatDoorYd7ba4700c6
import Derived.Test.YtajkgcmopmpihaaGreatDoorYcc66149044
import Derived.Lib.ItoaNum
import Derived.Lib.Bytealg
import Derived.Lib.AtoiAll
namespace Go.Proofs.YtajkgcmopmpihaaGreatDoor
open Go.Lib
set_option linter.unusedVariables false
def accF (c0 : Nat) (l : List UInt8) : Nat → Nat
  | 0 => c0
  | k + 1 => accF c0 l k * 64 + (l.getD (k + 1) 0).toNat % 64
theorem accF_lt {c0 : Nat} (l : List UInt8) (h : c0 < 32) : ∀ k, accF c0 l k < 32 * 64 ^ k
  | 0 => by simp [accF]; exact h
  | k + 1 => by
    have ih := accF_lt l h k
    rw [Nat.pow_succ]
    show accF c0 l k * 64 + (l.getD (k + 1) 0).toNat % 64 < _
    omega
theorem accF_small {c0 : Nat} (l : List UInt8) (h : c0 < 32) {k : Nat} (hk : k ≤ 3) : accF c0 l k < 8388608 := by
  have h1 := accF_lt l h k
  have : k = 0 ∨ k = 1 ∨ k = 2 ∨ k = 3 := by omega
  rcases this with rfl | rfl | rfl | rfl <;> omega
structure Cls (l : List UInt8) (c0 N L : Nat) : Prop where
  short : l.length < N → runeF l = (0, 0)
  bad : ∀ j, 1 ≤ j → j < N → contB (l.getD j 0).toNat = false → runeF l = (0, 0)
  out : okC L (accF c0 l (N - 1)) = false → runeF l = (0, 0)
  good : N ≤ l.length → (∀ j, 1 ≤ j → j < N → contB (l.getD j 0).toNat = true) → okC L (accF c0 l (N - 1)) = true → runeF l = (accF c0 l (N - 1), N)
theorem cls_2 (b : UInt8) (t : List UInt8) (h : 192 ≤ b.toNat ∧ b.toNat < 224) : Cls (b :: t) (b.toNat % 32) 2 128 := by
  have e := (runeF_N (l := b :: t) (by simp)).trans (ref_2 (b0 := b.toNat) h)
  have ea : accF (b.toNat % 32) (b :: t) (2 - 1) = b.toNat % 32 * 64 + ((b :: t).getD 1 0).toNat % 64 := rfl
  rw [← ea] at e
  refine ⟨fun hs => ?_, fun j h1 h2 hb => ?_, fun ho => ?_, fun hs hg ho => ?_⟩
  · rw [e, if_neg (by omega)]
  · have : j = 1 := by omega
    subst this
    rw [e, hb]; simp
  · rw [e, ho]; simp
  · rw [e, if_pos ⟨hs, hg 1 (by omega) (by omega), ho⟩]
theorem cls_3 (b : UInt8) (t : List UInt8) (h : 224 ≤ b.toNat ∧ b.toNat < 240) : Cls (b :: t) (b.toNat % 16) 3 2048 := by
  have e := (runeF_N (l := b :: t) (by simp)).trans (ref_3 (b0 := b.toNat) h)
  have ea : accF (b.toNat % 16) (b :: t) (3 - 1) = (b.toNat % 16 * 64 + ((b :: t).getD 1 0).toNat % 64) * 64 + ((b :: t).getD 2 0).toNat % 64 := rfl
  rw [← ea] at e
  refine ⟨fun hs => ?_, fun j h1 h2 hb => ?_, fun ho => ?_, fun hs hg ho => ?_⟩
  · rw [e, if_neg (by omega)]
  · have : j = 1 ∨ j = 2 := by omega
    rcases this with rfl | rfl <;> (rw [e, hb]; simp)
  · rw [e, ho]; simp
  · rw [e, if_pos ⟨hs, hg 1 (by omega) (by omega), hg 2 (by omega) (by omega), ho⟩]
theorem cls_4 (b : UInt8) (t : List UInt8) (h : 240 ≤ b.toNat ∧ b.toNat < 248) : Cls (b :: t) (b.toNat % 8) 4 65536 := by
  have e := (runeF_N (l := b :: t) (by simp)).trans (ref_4 (b0 := b.toNat) h)
  have ea : accF (b.toNat % 8) (b :: t) (4 - 1) = ((b.toNat % 8 * 64 + ((b :: t).getD 1 0).toNat % 64) * 64 + ((b :: t).getD 2 0).toNat % 64) * 64 + ((b :: t).getD 3 0).toNat % 64 := rfl
  rw [← ea] at e
  refine ⟨fun hs => ?_, fun j h1 h2 hb => ?_, fun ho => ?_, fun hs hg ho => ?_⟩
  · rw [e, if_neg (by omega)]
  · have : j = 1 ∨ j = 2 ∨ j = 3 := by omega
    rcases this with rfl | rfl | rfl <;> (rw [e, hb]; simp)
  · rw [e, ho]; simp
  · rw [e, if_pos ⟨hs, hg 1 (by omega) (by omega), hg 2 (by omega) (by omega), hg 3 (by omega) (by omega), ho⟩]
theorem cls_1 (b : UInt8) (t : List UInt8) (h : b.toNat < 128) : runeF (b :: t) = (b.toNat, 1) := by
  rw [runeF_N (by simp)]; exact ref_1 h
theorem cls_0 (b : UInt8) (t : List UInt8) (h : 128 ≤ b.toNat ∧ b.toNat < 192 ∨ 248 ≤ b.toNat) : runeF (b :: t) = (0, 0) := by
  rw [runeF_N (by simp)]; exact ref_0 b.toNat_lt h
end Go.Proofs.YtajkgcmopmpihaaGreatDoor
namespace Go.Proofs.YtajkgcmopmpihaaGreatDoor
open Go.Lib
set_option linter.unusedVariables false
def hexB (n : Nat) : UInt8 := if n < 10 then UInt8.ofNat (48 + n) else UInt8.ofNat (87 + n)
def escB (c : UInt8) : List UInt8 :=
  if c = 34 ∨ c = 92 then [92, c]
  else if c = 8 then [92, 98] else if c = 9 then [92, 116] else if c = 10 then [92, 110] else if c = 12 then [92, 102] else if c = 13 then [92, 114]
  else if c.toNat < 32 then [92, 117, 48, 48, hexB (c.toNat / 16), hexB (c.toNat % 16)]
  else [c]
def escL (l : List UInt8) : List UInt8 := l.flatMap escB
def putF (l : List UInt8) : List UInt8 := if validD l then 34 :: escL l ++ [34] else []
theorem escL_take (l : List UInt8) (i : Nat) (h : i < l.length) : escL (l.take (i + 1)) = escL (l.take i) ++ escB l[i] := by
  unfold escL
  rw [List.take_add_one, List.getElem?_eq_getElem h, Option.toList_some, List.flatMap_append, List.flatMap_cons, List.flatMap_nil, List.append_nil]
theorem escB_len (c : UInt8) : (escB c).length ≤ 6 := by
  unfold escB
  by_cases h1 : c = 34 ∨ c = 92
  · rw [if_pos h1]; simp only [List.length_cons, List.length_nil]; omega
  rw [if_neg h1]
  repeat' split
  all_goals (simp only [List.length_cons, List.length_nil]; omega)
theorem escL_len : ∀ l : List UInt8, (escL l).length ≤ 6 * l.length
  | [] => by simp [escL]
  | c :: l => by
    have h1 := escB_len c
    have h2 := escL_len l
    simp only [escL, List.flatMap_cons, List.length_append, List.length_cons] at *
    omega
theorem escL_take_len (l : List UInt8) (i : Nat) (h : i ≤ l.length) : (escL (l.take i)).length ≤ 6 * i := by
  have := escL_len (l.take i)
  rw [List.length_take] at this
  omega
theorem escB_plain (c : UInt8) (h : 128 ≤ c.toNat) : escB c = [c] := by
  have e : ∀ d : UInt8, d.toNat < 128 → c ≠ d := fun d hd hc => by rw [hc] at h; omega
  unfold escB
  rw [if_neg (by intro h; rcases h with h | h; exact e 34 (by decide) h; exact e 92 (by decide) h), if_neg (e 8 (by decide)), if_neg (e 9 (by decide)), if_neg (e 10 (by decide)), if_neg (e 12 (by decide)), if_neg (e 13 (by decide)), if_neg (by omega)]
end Go.Proofs.YtajkgcmopmpihaaGreatDoor
namespace Go.Proofs.YtajkgcmopmpihaaGreatDoor
set_option linter.unusedVariables false
abbrev Res := Except Int (List UInt8)
def lng (b : List UInt8) : Res := if b.length ≤ 65536 then .ok b else .error 3
def txt (b s : List UInt8) : Res := if 65536 < s.length then .error 3 else if Lib.validD s then lng (b ++ putF s) else .error 1
def Res.then (r : Res) (f : List UInt8 → Res) : Res := match r with | .ok b => f b | .error e => .error e
def Jv.bare (v : Jv) : Bool :=
  (v.kd == 1 || !v.is) && (v.kd == 2 || v.n == 0) && (v.kd == 3 || v.s.isEmpty) && (v.kd == 4 || v.l.isNil) && (v.kd == 5 || v.m.isNil) && decide (0 ≤ v.kd) && decide (v.kd ≤ 5) && decide (-9007199254740991 ≤ v.n) && decide (v.n ≤ 9007199254740991)
def wrB (v : Jv) (deep : Nat) (wl wm : List UInt8 → Res) (b : List UInt8) : Res :=
  if v.bare = false then .error 1
  else if v.kd = 0 then lng (b ++ [110, 117, 108, 108])
  else if v.kd = 1 then lng (b ++ (if v.is then [116, 114, 117, 101] else [102, 97, 108, 115, 101]))
  else if v.kd = 2 then lng (b ++ Lib.itoa v.n)
  else if v.kd = 3 then txt b v.s
  else if 32 ≤ deep then .error 5
  else if v.kd = 4 then (lng (b ++ [91])).then fun b => (wl b).then fun b => lng (b ++ [93])
  else (lng (b ++ [123])).then fun b => (wm b).then fun b => lng (b ++ [125])
def leqB (a b : List UInt8) : Bool := Op.bytesLess a b || a == b
def wrK (mem : Bool) (prev : Option (List UInt8)) (k : List UInt8) (b : List UInt8) : Res :=
  Res.then (match prev with | none => .ok b | some p => (lng (b ++ [44])).then fun b => if mem && leqB k p then .error 1 else .ok b)
    fun b => if mem then (txt b k).then fun b => lng (b ++ [58]) else .ok b
def wrF (mem : Bool) : JT → Nat → Option (List UInt8) → List UInt8 → Res
  | .nil, _, _, b => .ok b
  | .cons k kd is n s l m r, deep, prev, b =>
    (wrK mem prev k b).then fun b => (wrB ⟨kd, is, n, s, l, m⟩ deep (fun b => wrF false l (deep + 1) none b) (fun b => wrF true m (deep + 1) none b) b).then fun b => wrF mem r deep (some k) b
def wrV (v : Jv) (deep : Nat) (b : List UInt8) : Res := wrB v deep (fun b => wrF false v.l (deep + 1) none b) (fun b => wrF true v.m (deep + 1) none b) b
theorem wrF_one (mem : Bool) (k : List UInt8) (v : Jv) (r : JT) (deep : Nat) (prev : Option (List UInt8)) (b : List UInt8) :
    wrF mem (.one k v r) deep prev b = (wrK mem prev k b).then fun b => (wrV v deep b).then fun b => wrF mem r deep (some k) b := rfl
def prevK (t : JT) (i : Nat) : Option (List UInt8) := if i = 0 then none else some (t.fall (i - 1)).key
theorem wrF_step (mem : Bool) (t : JT) (i deep : Nat) (b : List UInt8) (h : i < t.ext) :
    wrF mem (t.fall i) deep (prevK t i) b = (wrK mem (prevK t i) (t.fall i).key b).then fun b => (wrV (t.fall i).val deep b).then fun b => wrF mem (t.fall (i + 1)) deep (prevK t (i + 1)) b := by
  have e : prevK t (i + 1) = some (t.fall i).key := by simp [prevK]
  rw [e]
  conv => lhs; rw [t.fall_of_lt i h]
  exact wrF_one mem _ _ _ _ _ _
theorem wrF_end (mem : Bool) (t : JT) (deep : Nat) (p : Option (List UInt8)) (b : List UInt8) : wrF mem (t.fall t.ext) deep p b = .ok b := by
  rw [JT.fall_all t _ (Nat.le_refl _)]; rfl
def canF (v : Jv) : List UInt8 × Int := match wrV v 0 [] with | .ok b => (b, 0) | .error e => ([], e)
end Go.Proofs.YtajkgcmopmpihaaGreatDoor
namespace Go.Proofs.YtajkgcmopmpihaaGreatDoor
open Go.Lib
set_option linter.unusedVariables false
set_option maxHeartbeats 2000000 in
theorem dN (n b0 b1 b2 b3 : Nat) (h0 : 128 ≤ b0) (hn : ¬((decodeN n b0 b1 b2 b3).1 = 65533 ∧ (decodeN n b0 b1 b2 b3).2 = 1)) :
    128 ≤ (decodeN n b0 b1 b2 b3).1 ∧ ((decodeN n b0 b1 b2 b3).1 < 55296 ∨ 57344 ≤ (decodeN n b0 b1 b2 b3).1 ∧ (decodeN n b0 b1 b2 b3).1 ≤ 1114111) ∧
      (1 < (decodeN n b0 b1 b2 b3).2 → 128 ≤ b1) ∧ (2 < (decodeN n b0 b1 b2 b3).2 → 128 ≤ b2) ∧ (3 < (decodeN n b0 b1 b2 b3).2 → 128 ≤ b3) ∧ (decodeN n b0 b1 b2 b3).2 ≤ 4 := by
  revert hn
  unfold decodeN
  repeat' split
  all_goals (intro hn; simp only [] at hn ⊢; omega)
theorem escL_app (a b : List UInt8) : escL (a ++ b) = escL a ++ escL b := by unfold escL; rw [List.flatMap_append]
theorem escL_plain : ∀ m : List UInt8, (∀ c ∈ m, 128 ≤ c.toNat) → escL m = m
  | [], _ => rfl
  | c :: m, h => by
    have ih := escL_plain m fun x hx => h x (by simp [hx])
    unfold escL at *
    rw [List.flatMap_cons, ih, escB_plain c (h c (by simp))]
    rfl
theorem rune_multi (b : UInt8) (t : List UInt8) (hb : 128 ≤ b.toNat) (hn : ¬ NoR (b :: t)) :
    128 ≤ (decodeL (b :: t)).1 ∧ (decodeL (b :: t)).1 ≤ 1114111 ∧ Utf8.valid ((decodeL (b :: t)).1 : Int) = true ∧ escL ((b :: t).take (decodeL (b :: t)).2) = encodeRune ((decodeL (b :: t)).1 : Int) := by
  have he := encode_decode (b :: t) (by simp) hn
  have hle := decodeL_le (b :: t) (by simp)
  have hr := decodeL_rune (b :: t)
  unfold NoR at hn
  rw [decodeL_N] at hn
  have h := dN _ _ _ _ _ hb hn
  have e : decodeL (b :: t) = decodeN (b :: t).length b.toNat ((b :: t).getD 1 0).toNat ((b :: t).getD 2 0).toNat ((b :: t).getD 3 0).toNat := decodeL_N _
  rw [← e] at h
  obtain ⟨h1, h2, h3, h4, h5, h6⟩ := h
  refine ⟨h1, hr, ?_, ?_⟩
  · rw [validRune_eq]
    unfold validRune
    rw [decide_eq_true_eq]
    omega
  · rw [he]
    apply escL_plain
    intro c hc
    obtain ⟨j, hj, rfl⟩ := List.getElem_of_mem hc
    have hj2 : j < (decodeL (b :: t)).2 := by rw [List.length_take] at hj; omega
    have hjl : j < (b :: t).length := by omega
    rw [List.getElem_take]
    have hg : ∀ i (hi : i < (b :: t).length), ((b :: t).getD i 0).toNat = ((b :: t)[i]).toNat := fun i hi => by
      rw [List.getD_eq_getElem?_getD, List.getElem?_eq_getElem hi]; rfl
    have : j = 0 ∨ j = 1 ∨ j = 2 ∨ j = 3 := by omega
    rcases this with rfl | rfl | rfl | rfl
    · exact hb
    · rw [← hg 1 hjl]; exact h3 hj2
    · rw [← hg 2 hjl]; exact h4 hj2
    · rw [← hg 3 hjl]; exact h5 hj2
theorem escL_take_rune (l : List UInt8) (k d : Nat) : escL (l.take (k + d)) = escL (l.take k) ++ escL ((l.drop k).take d) := by
  rw [List.take_add, escL_app]
end Go.Proofs.YtajkgcmopmpihaaGreatDoor
namespace Go.Proofs.YtajkgcmopmpihaaGreatDoor
open Go.Lib
set_option linter.unusedVariables false
def digV (c : UInt8) : Option Nat :=
  if 48 ≤ c.toNat ∧ c.toNat ≤ 57 then some (c.toNat - 48)
  else if 97 ≤ c.toNat ∧ c.toNat ≤ 102 then some (c.toNat - 87)
  else if 65 ≤ c.toNat ∧ c.toNat ≤ 70 then some (c.toNat - 55)
  else none
theorem digV_lt {c : UInt8} {d : Nat} (h : digV c = some d) : d < 16 ∧ c.toNat < 128 := by
  unfold digV at h
  repeat' split at h
  all_goals (cases h; try omega)
def hexN (acc : Nat) : List UInt8 → Option Nat
  | [] => some acc
  | c :: t => match digV c with | none => none | some d => hexN (16 * acc + d) t
theorem hexN_none {acc : Nat} {c : UInt8} {t : List UInt8} (h : digV c = none) : hexN acc (c :: t) = none := by simp [hexN, h]
theorem hexN_some {acc d : Nat} {c : UInt8} {t : List UInt8} (h : digV c = some d) : hexN acc (c :: t) = hexN (16 * acc + d) t := by simp [hexN, h]
theorem hexN_lt : ∀ (t : List UInt8) (acc n : Nat), hexN acc t = some n → n < 16 ^ t.length * (acc + 1) ∧ ∀ c ∈ t, c.toNat < 128
  | [], acc, n, h => by simp [hexN] at h; subst h; simp
  | c :: t, acc, n, h => by
    cases hd : digV c with
    | none => rw [hexN_none hd] at h; cases h
    | some d =>
      rw [hexN_some hd] at h
      obtain ⟨h1, h2⟩ := hexN_lt t _ _ h
      obtain ⟨h3, h4⟩ := digV_lt hd
      refine ⟨Nat.lt_of_lt_of_le h1 ?_, ?_⟩
      · rw [List.length_cons, Nat.pow_succ, Nat.mul_assoc]
        exact Nat.mul_le_mul (Nat.le_refl _) (by omega)
      · intro x hx
        rcases List.mem_cons.1 hx with rfl | hx
        · exact h4
        · exact h2 x hx
def hexF (m : List UInt8) : Option Nat := if 6 ≤ m.length ∧ m.getD 0 0 = 92 ∧ m.getD 1 0 = 117 then hexN 0 ((m.drop 2).take 4) else none
theorem hexF_some {m : List UInt8} {n : Nat} (h : hexF m = some n) : n < 65536 ∧ 6 ≤ m.length ∧ ∀ j, j < 6 → (m.getD j 0).toNat < 128 := by
  unfold hexF at h
  by_cases hc : 6 ≤ m.length ∧ m.getD 0 0 = 92 ∧ m.getD 1 0 = 117
  · rw [if_pos hc] at h
    obtain ⟨h1, h2⟩ := hexN_lt _ _ _ h
    have hl : ((m.drop 2).take 4).length = 4 := by simp; omega
    rw [hl] at h1
    refine ⟨by omega, hc.1, fun j hj => ?_⟩
    by_cases h0 : j = 0
    · subst h0; rw [hc.2.1]; decide
    by_cases h1 : j = 1
    · subst h1; rw [hc.2.2]; decide
    apply h2
    have : m.getD j 0 = ((m.drop 2).take 4)[j - 2]'(by omega) := by
      rw [List.getElem_take, List.getElem_drop, List.getD_eq_getElem?_getD, List.getElem?_eq_getElem (by omega)]
      simp only [Option.getD_some]
      congr 1; omega
    rw [this]
    exact List.getElem_mem _
  · rw [if_neg hc] at h; cases h
def shortF (c : UInt8) : Option UInt8 :=
  if c = 34 then some 34 else if c = 92 then some 92 else if c = 47 then some 47 else if c = 98 then some 8 else if c = 102 then some 12 else if c = 110 then some 10 else if c = 114 then some 13 else if c = 116 then some 9 else none
theorem shortF_lt {c d : UInt8} (h : shortF c = some d) : d.toNat < 128 ∧ c.toNat < 128 := by
  unfold shortF at h
  repeat' split at h
  all_goals (cases h; try (rename_i hc; subst hc; decide))
def numF (m : List UInt8) : Nat × Nat :=
  match hexF m with
  | none => (0, 0)
  | some n => if 56320 ≤ n ∧ n < 57344 then (0, 0) else if n < 55296 ∨ 57344 ≤ n then (n, 6) else
    match hexF (m.drop 6) with
    | none => (0, 0)
    | some k => if 56320 ≤ k ∧ k < 57344 then (65536 + 1024 * (n - 55296) + (k - 56320), 12) else (0, 0)
def escF (m : List UInt8) : Nat × Nat :=
  if m.length < 2 then (0, 0) else
  match shortF (m.getD 1 0) with
  | some c => (c.toNat, 2)
  | none => numF m
def OkR (r : Nat) : Prop := r < 55296 ∨ 57344 ≤ r ∧ r ≤ 1114111
theorem OkR.valid {r : Nat} (h : OkR r) : Utf8.valid (r : Int) = true := by
  rw [validRune_eq]; unfold validRune; rw [decide_eq_true_eq]; unfold OkR at h; omega
theorem OkR.le {r : Nat} (h : OkR r) : r ≤ 1114111 := by unfold OkR at h; omega
theorem numF_ok (m : List UInt8) (h : (numF m).2 ≠ 0) : OkR (numF m).1 ∧ (numF m).2 ≤ m.length ∧ ∀ j, j < (numF m).2 → (m.getD j 0).toNat < 128 := by
  unfold numF at *
  cases h1 : hexF m with
  | none => rw [h1] at h; simp at h
  | some n =>
    rw [h1] at h
    obtain ⟨a1, a2, a3⟩ := hexF_some h1
    simp only at *
    by_cases c1 : 56320 ≤ n ∧ n < 57344
    · rw [if_pos c1] at h; simp at h
    · rw [if_neg c1] at h ⊢
      by_cases c2 : n < 55296 ∨ 57344 ≤ n
      · rw [if_pos c2]; exact ⟨by unfold OkR; simp only []; omega, a2, a3⟩
      · rw [if_neg c2] at h ⊢
        cases h2 : hexF (m.drop 6) with
        | none => rw [h2] at h; simp at h
        | some k =>
          rw [h2] at h
          obtain ⟨b1, b2, b3⟩ := hexF_some h2
          simp only at *
          by_cases c3 : 56320 ≤ k ∧ k < 57344
          · rw [if_pos c3]
            rw [List.length_drop] at b2
            refine ⟨by unfold OkR; simp only []; omega, by simp only []; omega, fun j hj => ?_⟩
            simp only at hj
            by_cases hj6 : j < 6
            · exact a3 j hj6
            · have := b3 (j - 6) (by omega)
              rw [List.getD_eq_getElem?_getD, List.getElem?_drop] at this
              rw [List.getD_eq_getElem?_getD]
              rwa [show 6 + (j - 6) = j from by omega] at this
          · rw [if_neg c3] at h; simp at h
theorem escF_ok (m : List UInt8) (h0 : m.getD 0 0 = 92) (h : (escF m).2 ≠ 0) : OkR (escF m).1 ∧ (escF m).2 ≤ m.length ∧ ∀ j, j < (escF m).2 → (m.getD j 0).toNat < 128 := by
  unfold escF at *
  by_cases hl : m.length < 2
  · rw [if_pos hl] at h; simp at h
  · rw [if_neg hl] at h ⊢
    cases hs : shortF (m.getD 1 0) with
    | none => rw [hs] at h; exact numF_ok m h
    | some c =>
      obtain ⟨h1, h2⟩ := shortF_lt hs
      simp only
      refine ⟨by unfold OkR; omega, by omega, fun j hj => ?_⟩
      have : j = 0 ∨ j = 1 := by omega
      rcases this with rfl | rfl
      · rw [h0]; decide
      · exact h2
def stepF (m : List UInt8) : Nat × Nat := if m.getD 0 0 = 92 then escF m else if (runeF m).1 < 32 then (0, 0) else runeF m
theorem runeF_ok (m : List UInt8) (h : (runeF m).2 ≠ 0) : m ≠ [] ∧ ¬ NoR m ∧ runeF m = decodeL m := by
  unfold runeF at *
  by_cases hc : m = [] ∨ NoR m
  · rw [if_pos hc] at h; simp at h
  · rw [if_neg hc]; exact ⟨fun h => hc (.inl h), fun h => hc (.inr h), rfl⟩
theorem decode_ok (m : List UInt8) (hne : m ≠ []) (hn : ¬ NoR m) : OkR (decodeL m).1 := by
  cases m with
  | nil => exact absurd rfl hne
  | cons c t =>
    by_cases h : c.toNat < 128
    · rw [decodeL_ascii c t h]; unfold OkR; simp only []; omega
    · obtain ⟨h1, h2, h3, h4⟩ := rune_multi c t (by omega) hn
      rw [validRune_eq] at h3
      unfold validRune at h3
      rw [decide_eq_true_eq] at h3
      unfold OkR; omega
theorem stepF_ok (m : List UInt8) (h : (stepF m).2 ≠ 0) : OkR (stepF m).1 ∧ (stepF m).2 ≤ m.length ∧ m ≠ [] := by
  unfold stepF at *
  by_cases h0 : m.getD 0 0 = 92
  · rw [if_pos h0] at h ⊢
    obtain ⟨h1, h2, _⟩ := escF_ok m h0 h
    exact ⟨h1, h2, by intro e; rw [e] at h0; simp at h0⟩
  · rw [if_neg h0] at h ⊢
    by_cases h1 : (runeF m).1 < 32
    · rw [if_pos h1] at h; simp at h
    · rw [if_neg h1] at h ⊢
      obtain ⟨a, b, c⟩ := runeF_ok m h
      rw [c]
      exact ⟨decode_ok m a b, decodeL_le m a, a⟩
def scanN : Nat → List UInt8 → Option (List UInt8 × Nat)
  | 0, _ => none
  | _ + 1, [] => none
  | n + 1, c :: t => if c = 34 then some ([], 1) else if (stepF (c :: t)).2 = 0 then none else
    (scanN n ((c :: t).drop (stepF (c :: t)).2)).map fun p => (encodeRune ((stepF (c :: t)).1 : Int) ++ p.1, (stepF (c :: t)).2 + p.2)
theorem scanN_fuel : ∀ (n k : Nat) (m : List UInt8), m.length ≤ n → m.length ≤ k → scanN n m = scanN k m
  | 0, 0, m, h1, h2 => rfl
  | 0, k + 1, m, h1, h2 => by
    have : m = [] := List.length_eq_zero_iff.1 (by omega)
    subst this; rfl
  | n + 1, 0, m, h1, h2 => by
    have : m = [] := List.length_eq_zero_iff.1 (by omega)
    subst this; rfl
  | n + 1, k + 1, [], h1, h2 => rfl
  | n + 1, k + 1, c :: t, h1, h2 => by
    unfold scanN
    by_cases h3 : c = 34
    · rw [if_pos h3, if_pos h3]
    · rw [if_neg h3, if_neg h3]
      by_cases h4 : (stepF (c :: t)).2 = 0
      · rw [if_pos h4, if_pos h4]
      · rw [if_neg h4, if_neg h4]
        rw [List.length_cons] at h1 h2
        rw [scanN_fuel n k _ (by rw [List.length_drop, List.length_cons]; omega) (by rw [List.length_drop, List.length_cons]; omega)]
def scan (m : List UInt8) : Option (List UInt8 × Nat) := scanN m.length m
theorem scan_nil : scan [] = none := rfl
theorem scan_quote (t : List UInt8) : scan (34 :: t) = some ([], 1) := by simp [scan, scanN]
theorem scan_fail (c : UInt8) (t : List UInt8) (h : c ≠ 34) (h0 : (stepF (c :: t)).2 = 0) : scan (c :: t) = none := by simp [scan, scanN, h, h0]
theorem scan_next (c : UInt8) (t : List UInt8) (h : c ≠ 34) (h0 : (stepF (c :: t)).2 ≠ 0) :
    scan (c :: t) = (scan ((c :: t).drop (stepF (c :: t)).2)).map fun p => (encodeRune ((stepF (c :: t)).1 : Int) ++ p.1, (stepF (c :: t)).2 + p.2) := by
  show scanN (t.length + 1) (c :: t) = _
  unfold scan
  rw [scanN, if_neg h, if_neg h0]
  rw [scanN_fuel t.length _ _ (by rw [List.length_drop, List.length_cons]; omega) (Nat.le_refl _)]
def fin (at_ : Nat) (R : Option (List UInt8 × Nat)) : List UInt8 × Int × Bool := match R with | none => ([], 0, false) | some p => (p.1, ((at_ + p.2 : Nat) : Int), true)
def takeF (l : List UInt8) (i : Int) : List UInt8 × Int × Bool :=
  if 0 ≤ i ∧ i < l.length ∧ l.getD i.toNat 0 = 34 then fin (i.toNat + 1) (scan (l.drop (i.toNat + 1))) else ([], 0, false)
def Far (R : Option (List UInt8 × Nat)) (out : List UInt8) (k : Nat) (m : List UInt8) : Prop := R = (scan m).map fun p => (out ++ p.1, k + p.2)
theorem Far.start (m : List UInt8) : Far (scan m) [] 0 m := by
  unfold Far
  cases scan m with
  | none => rfl
  | some p => simp
theorem Far.done {R : Option (List UInt8 × Nat)} {out : List UInt8} {k : Nat} (h : Far R out k []) : R = none := by rw [h, scan_nil]; rfl
theorem Far.quote {R : Option (List UInt8 × Nat)} {out t : List UInt8} {k : Nat} (h : Far R out k (34 :: t)) : R = some (out, k + 1) := by rw [h, scan_quote]; simp
theorem Far.fail {R : Option (List UInt8 × Nat)} {out t : List UInt8} {k : Nat} {c : UInt8} (h : Far R out k (c :: t)) (hc : c ≠ 34) (h0 : (stepF (c :: t)).2 = 0) : R = none := by rw [h, scan_fail c t hc h0]; rfl
theorem Far.next {R : Option (List UInt8 × Nat)} {out t : List UInt8} {k : Nat} {c : UInt8} (h : Far R out k (c :: t)) (hc : c ≠ 34) (h0 : (stepF (c :: t)).2 ≠ 0) :
    Far R (out ++ encodeRune ((stepF (c :: t)).1 : Int)) (k + (stepF (c :: t)).2) ((c :: t).drop (stepF (c :: t)).2) := by
  unfold Far at *
  rw [h, scan_next c t hc h0, Option.map_map]
  congr 1
  funext p
  simp [Function.comp, Nat.add_assoc]
theorem len_enc (r : Nat) (h : OkR r) : runeLen (r : Int) = ((encodeRune (r : Int)).length : Int) := by
  unfold encodeRune runeLen
  rw [List.length_map]
  unfold OkR at h
  by_cases h1 : r ≤ 127
  · rw [encodeRuneZ_one (by omega) (by omega), if_neg (by omega), if_pos (by omega)]; rfl
  · by_cases h2 : r ≤ 2047
    · rw [encodeRuneZ_two (by omega) (by omega), if_neg (by omega), if_neg (by omega), if_pos (by omega)]; rfl
    · by_cases h3 : r ≤ 65535
      · rw [encodeRuneZ_three (by omega), if_neg (by omega), if_neg (by omega), if_neg (by omega), if_neg (by omega), if_pos (by omega)]; rfl
      · rw [encodeRuneZ_four (by omega) (by omega), if_neg (by omega), if_neg (by omega), if_neg (by omega), if_neg (by omega), if_neg (by omega), if_pos (by omega)]; rfl
theorem len_decode (m : List UInt8) (hne : m ≠ []) (hn : ¬ NoR m) : runeLen ((decodeL m).1 : Int) = ((decodeL m).2 : Int) := by
  rw [len_enc _ (decode_ok m hne hn), encode_decode m hne hn, List.length_take, Nat.min_eq_left (decodeL_le m hne)]
def lowC (c : UInt8) : UInt8 := if 65 ≤ c.toNat ∧ c.toNat ≤ 70 then UInt8.ofNat (c.toNat + 32) else c
theorem dig_index : ∀ c : Fin 256, indexByte [48, 49, 50, 51, 52, 53, 54, 55, 56, 57, 97, 98, 99, 100, 101, 102] (lowC (UInt8.ofNat c.val)) = (match digV (UInt8.ofNat c.val) with | none => -1 | some d => (d : Int)) := by decide +kernel
theorem dig_at (c : UInt8) : indexByte [48, 49, 50, 51, 52, 53, 54, 55, 56, 57, 97, 98, 99, 100, 101, 102] (lowC c) = (match digV c with | none => -1 | some d => (d : Int)) := by
  have := dig_index ⟨c.toNat, c.toNat_lt⟩
  simpa using this
theorem dig_hi (c : UInt8) (h : 128 ≤ c.toNat) : digV c = none := by
  unfold digV
  rw [if_neg (by omega), if_neg (by omega), if_neg (by omega)]
theorem rune_hi (b : UInt8) (t : List UInt8) (hb : 128 ≤ b.toNat) : 128 ≤ (decodeL (b :: t)).1 ∧ (decodeL (b :: t)).1 ≤ 1114111 ∧ Utf8.valid ((decodeL (b :: t)).1 : Int) = true := by
  by_cases hn : NoR (b :: t)
  · rw [hn.1]; decide
  · obtain ⟨h1, h2, h3, _⟩ := rune_multi b t hb hn
    exact ⟨h1, h2, h3⟩
end Go.Proofs.YtajkgcmopmpihaaGreatDoor
namespace Go.Proofs.YtajkgcmopmpihaaGreatDoor
open Go.Lib
set_option linter.unusedVariables false
def blankB (c : UInt8) : Bool := c == 32 || c == 9 || c == 10 || c == 13
def skipB (r : List UInt8) : List UInt8 := r.dropWhile blankB
def digB (c : UInt8) : Bool := decide (48 ≤ c.toNat) && decide (c.toNat ≤ 57)
def numB (c : UInt8) : Bool := digB c || c == 43 || c == 45 || c == 46 || c == 101 || c == 69
def expF (r : List UInt8) (more : Bool) : Bool × Bool :=
  match r with
  | [] => (true, more)
  | c :: q => if c = 101 ∨ c = 69 then
      (let q2 := match q with | [] => [] | d :: q3 => if d = 43 ∨ d = 45 then q3 else q
       if (q2.takeWhile digB).isEmpty then (false, false) else ((q2.dropWhile digB).isEmpty, true))
    else (false, more)
def fracF (r : List UInt8) : Bool × Bool :=
  match r with
  | [] => (true, false)
  | c :: q => if c = 46 then (if (q.takeWhile digB).isEmpty then (false, false) else expF (q.dropWhile digB) true) else expF r false
def signF (w : List UInt8) : List UInt8 := match w with | [] => [] | c :: q => if c = 45 then q else w
def wholeF (w : List UInt8) : Bool × Bool :=
  let r := signF w
  if (r.takeWhile digB).isEmpty || (decide (1 < (r.takeWhile digB).length) && r.head? == some 48) then (false, false) else fracF (r.dropWhile digB)
abbrev PRes := Except Int (Jv × List UInt8)
def PRes.then (r : PRes) (f : Jv → List UInt8 → PRes) : PRes := match r with | .ok p => f p.1 p.2 | .error e => .error e
def nullJ : Jv := ⟨0, false, 0, [], .nil, .nil⟩
def numP (r : List UInt8) : PRes :=
  if (wholeF (r.takeWhile numB)).1 = false then .error 4
  else match atoiAll (r.takeWhile numB) with
    | .ok n => if r.takeWhile numB = [45, 48] ∨ n < -9007199254740991 ∨ 9007199254740991 < n then .error 7 else .ok (⟨2, false, n, [], .nil, .nil⟩, r.dropWhile numB)
    | _ => .error 7
inductive Md where
  | v
  | l (acc : JT)
  | t (acc : JT)
def JT.hasK : JT → List UInt8 → Bool
  | .nil, _ => false
  | .cons k _ _ _ _ _ _ r, key => k == key || r.hasK key
def JT.ins : JT → List UInt8 → Jv → JT
  | .nil, k, v => .one k v .nil
  | .cons k0 kd is n s l m r, k, v => if Op.bytesLess k0 k then .cons k0 kd is n s l m (r.ins k v) else .one k v (.cons k0 kd is n s l m r)
def lstV (t : JT) : Jv := ⟨4, false, 0, [], t, .nil⟩
def P : Nat → Md → Nat → List UInt8 → PRes
  | 0, _, _, _ => .error 99
  | f + 1, .v, deep, r0 =>
    match skipB r0 with
    | [] => .error 4
    | c :: q =>
      if c = 91 then
        (if deep = 32 then .error 5 else match skipB q with
          | [] => P f (.l .nil) (deep + 1) q
          | d :: q2 => if d = 93 then .ok (lstV .nil, q2) else P f (.l .nil) (deep + 1) q)
      else if c = 123 then
        (if deep = 32 then .error 5 else match skipB q with
          | [] => P f (.t .nil) (deep + 1) q
          | d :: q2 => if d = 125 then .ok (mapV .nil, q2) else P f (.t .nil) (deep + 1) q)
      else if c = 34 then
        (match scan q with
          | none => .error 4
          | some p => .ok (⟨3, false, 0, p.1, .nil, .nil⟩, q.drop p.2))
      else if c = 45 ∨ digB c then numP (c :: q)
      else if [110, 117, 108, 108] <+: (c :: q) then .ok (nullJ, q.drop 3)
      else if [116, 114, 117, 101] <+: (c :: q) then .ok (⟨1, true, 0, [], .nil, .nil⟩, q.drop 3)
      else if [102, 97, 108, 115, 101] <+: (c :: q) then .ok (⟨1, false, 0, [], .nil, .nil⟩, q.drop 4)
      else .error 4
  | f + 1, .l acc, deep, r0 =>
    (P f .v deep r0).then fun x r => match skipB r with
      | [] => .error 4
      | c :: q => if c = 93 then .ok (lstV (acc.snoc [] x), q) else if c = 44 then P f (.l (acc.snoc [] x)) deep q else .error 4
  | f + 1, .t acc, deep, r0 =>
    match skipB r0 with
    | [] => .error 4
    | c :: q => if c = 34 then
        (match scan q with
          | none => .error 4
          | some p => if acc.hasK p.1 then .error 6 else match skipB (q.drop p.2) with
            | [] => .error 4
            | d :: q2 => if d = 58 then (P f .v deep q2).then fun x r => match skipB r with
                | [] => .error 4
                | c2 :: q3 => if c2 = 125 then .ok (mapV (acc.ins p.1 x), q3) else if c2 = 44 then P f (.t (acc.ins p.1 x)) deep q3 else .error 4
              else .error 4)
      else .error 4
theorem skip_le (r : List UInt8) : (skipB r).length ≤ r.length := by
  unfold skipB; exact (List.dropWhile_sublist _).length_le
theorem numP_lt {r : List UInt8} {p : Jv × List UInt8} (h : numP r = .ok p) : p.2.length < r.length := by
  unfold numP at h
  split at h
  · cases h
  · rename_i hw
    split at h
    · split at h
      · cases h
      · cases h
        have hne : r.takeWhile numB ≠ [] := by
          intro e
          apply hw
          rw [e]; rfl
        have h1 := congrArg List.length (List.takeWhile_append_dropWhile (p := numB) (l := r))
        have h2 : 0 < (r.takeWhile numB).length := List.length_pos_iff.2 hne
        simp only [List.length_append] at h1
        dsimp only
        omega
    · cases h
theorem P_lt : ∀ (f : Nat) (m : Md) (deep : Nat) (r : List UInt8) (p : Jv × List UInt8), P f m deep r = .ok p → p.2.length < r.length
  | 0, _, _, _, _, h => by cases h
  | f + 1, .v, deep, r0, p, h => by
    have hs := skip_le r0
    unfold P at h
    split at h
    · cases h
    · rename_i c q hq
      have hl : q.length < r0.length := by rw [hq] at hs; simp at hs; omega
      have hsq := skip_le q
      split at h
      · split at h
        · cases h
        · split at h
          · have := P_lt f _ _ _ _ h; omega
          · rename_i d q2 hq2
            rw [hq2] at hsq
            simp at hsq
            split at h
            · cases h; dsimp only; omega
            · have := P_lt f _ _ _ _ h; omega
      · split at h
        · split at h
          · cases h
          · split at h
            · have := P_lt f _ _ _ _ h; omega
            · rename_i d q2 hq2
              rw [hq2] at hsq
              simp at hsq
              split at h
              · cases h; dsimp only; omega
              · have := P_lt f _ _ _ _ h; omega
        · split at h
          · split at h
            · cases h
            · cases h; simp; omega
          · split at h
            · have h1 := numP_lt h
              rw [← hq] at h1; omega
            · split at h
              · cases h; simp; omega
              · split at h
                · cases h; simp; omega
                · split at h
                  · cases h; simp; omega
                  · cases h
  | f + 1, .l acc, deep, r0, p, h => by
    unfold P at h
    cases hx : P f .v deep r0 with
    | error e => rw [hx] at h; cases h
    | ok x =>
      rw [hx] at h
      have h1 := P_lt f _ _ _ _ hx
      have h2 := skip_le x.2
      simp only [PRes.then] at h
      split at h
      · cases h
      · rename_i c q hq
        rw [hq] at h2
        simp at h2
        split at h
        · cases h; dsimp only; omega
        · split at h
          · have := P_lt f _ _ _ _ h; omega
          · cases h
  | f + 1, .t acc, deep, r0, p, h => by
    have hs := skip_le r0
    unfold P at h
    split at h
    · cases h
    · rename_i c q hq
      rw [hq] at hs
      simp at hs
      split at h
      · split at h
        · cases h
        · rename_i k hk
          split at h
          · cases h
          · have h3 := skip_le (q.drop k.2)
            split at h
            · cases h
            · rename_i d q2 hq2
              rw [hq2] at h3
              simp at h3
              split at h
              · cases hx : P f .v deep q2 with
                | error e => rw [hx] at h; cases h
                | ok x =>
                  rw [hx] at h
                  have h1 := P_lt f _ _ _ _ hx
                  have h2 := skip_le x.2
                  simp only [PRes.then] at h
                  split at h
                  · cases h
                  · rename_i c2 q3 hq3
                    rw [hq3] at h2
                    simp at h2
                    split at h
                    · cases h; dsimp only; omega
                    · split at h
                      · have := P_lt f _ _ _ _ h; omega
                      · cases h
              · cases h
      · cases h
end Go.Proofs.YtajkgcmopmpihaaGreatDoor
namespace Go.Proofs.YtajkgcmopmpihaaGreatDoor
open Go.Lib
set_option linter.unusedVariables false
def needP : Md → List UInt8 → Nat
  | .v, r => 2 * r.length + 1
  | _, r => 2 * r.length + 2
theorem P_fuel : ∀ (f g : Nat) (m : Md) (deep : Nat) (r : List UInt8), needP m r ≤ f → needP m r ≤ g → P f m deep r = P g m deep r
  | 0, _, m, _, _, h, _ => by cases m <;> simp [needP] at h
  | _ + 1, 0, m, _, _, _, h => by cases m <;> simp [needP] at h
  | f + 1, g + 1, .v, deep, r0, hf, hg => by
    simp only [needP] at hf hg
    have hs := skip_le r0
    unfold P
    split
    · rfl
    · rename_i c q hq
      have hl : q.length < r0.length := by rw [hq] at hs; simp at hs; omega
      have e1 : ∀ (a : JT) (d : Nat), P f (.l a) d q = P g (.l a) d q := fun a d => P_fuel f g (.l a) d q (by simp only [needP]; omega) (by simp only [needP]; omega)
      have e2 : ∀ (a : JT) (d : Nat), P f (.t a) d q = P g (.t a) d q := fun a d => P_fuel f g (.t a) d q (by simp only [needP]; omega) (by simp only [needP]; omega)
      simp only [e1, e2]
  | f + 1, g + 1, .l acc, deep, r0, hf, hg => by
    simp only [needP] at hf hg
    unfold P
    rw [P_fuel f g .v deep r0 (by simp only [needP]; omega) (by simp only [needP]; omega)]
    cases hx : P g .v deep r0 with
    | error e => rfl
    | ok x =>
      have h1 := P_lt g _ _ _ _ hx
      have h2 := skip_le x.2
      simp only [PRes.then]
      split
      · rfl
      · rename_i c q hq
        rw [hq] at h2
        simp at h2
        rw [P_fuel f g (.l (acc.snoc [] x.1)) deep q (by simp only [needP]; omega) (by simp only [needP]; omega)]
  | f + 1, g + 1, .t acc, deep, r0, hf, hg => by
    simp only [needP] at hf hg
    have hs := skip_le r0
    unfold P
    split
    · rfl
    · rename_i c q hq
      rw [hq] at hs
      simp at hs
      split
      · split
        · rfl
        · rename_i k hk
          split
          · rfl
          · have h3 := skip_le (q.drop k.2)
            split
            · rfl
            · rename_i d q2 hq2
              rw [hq2] at h3
              simp at h3
              split
              · rw [P_fuel f g .v deep q2 (by simp only [needP]; omega) (by simp only [needP]; omega)]
                cases hx : P g .v deep q2 with
                | error e => rfl
                | ok x =>
                  have h1 := P_lt g _ _ _ _ hx
                  have h2 := skip_le x.2
                  simp only [PRes.then]
                  split
                  · rfl
                  · rename_i c2 q3 hq3
                    rw [hq3] at h2
                    simp at h2
                    rw [P_fuel f g (.t (acc.ins k.1 x.1)) deep q3 (by simp only [needP]; omega) (by simp only [needP]; omega)]
              · rfl
      · rfl
def pV (deep : Nat) (r : List UInt8) : PRes := P (needP .v r) .v deep r
def pL (acc : JT) (deep : Nat) (r : List UInt8) : PRes := P (needP (.l acc) r) (.l acc) deep r
def pT (acc : JT) (deep : Nat) (r : List UInt8) : PRes := P (needP (.t acc) r) (.t acc) deep r
theorem pV_lt {deep : Nat} {r : List UInt8} {p : Jv × List UInt8} (h : pV deep r = .ok p) : p.2.length < r.length := P_lt _ _ _ _ _ h
def pLn (acc : JT) (deep : Nat) (r : List UInt8) : PRes := match skipB r with
  | [] => .error 4
  | c :: q => if c = 93 then .ok (lstV acc, q) else if c = 44 then pL acc deep q else .error 4
def pTn (acc : JT) (deep : Nat) (r : List UInt8) : PRes := match skipB r with
  | [] => .error 4
  | c :: q => if c = 125 then .ok (mapV acc, q) else if c = 44 then pT acc deep q else .error 4
theorem pL_eq (acc : JT) (deep : Nat) (r : List UInt8) : pL acc deep r = (pV deep r).then fun x q => pLn (acc.snoc [] x) deep q := by
  unfold pL
  show P (2 * r.length + 1 + 1) (.l acc) deep r = _
  rw [P]
  show PRes.then (pV deep r) _ = _
  cases hx : pV deep r with
  | error e => rfl
  | ok x =>
    have h1 := pV_lt hx
    have h2 := skip_le x.2
    simp only [PRes.then, pLn]
    split
    · rename_i hq; first | (rw [hq]; done) | rfl
    · rename_i c q hq
      rw [hq] at h2
      simp at h2
      try rw [hq]
      try dsimp only
      rw [P_fuel (2 * r.length + 1) (needP (.l (acc.snoc [] x.1)) q) (.l (acc.snoc [] x.1)) deep q (by simp only [needP]; omega) (Nat.le_refl _)]
      rfl
def pK (acc : JT) (deep : Nat) (q : List UInt8) : PRes := match scan q with
  | none => .error 4
  | some p => if acc.hasK p.1 then .error 6 else match skipB (q.drop p.2) with
    | [] => .error 4
    | d :: q2 => if d = 58 then (pV deep q2).then fun x r => pTn (acc.ins p.1 x) deep r else .error 4
theorem pT_eq (acc : JT) (deep : Nat) (r : List UInt8) : pT acc deep r = match skipB r with | [] => .error 4 | c :: q => if c = 34 then pK acc deep q else .error 4 := by
  have hs := skip_le r
  unfold pT
  show P (2 * r.length + 1 + 1) (.t acc) deep r = _
  rw [P]
  split
  · rename_i hq; first | (rw [hq]; done) | rfl
  · rename_i c q hq
    rw [hq] at hs
    simp at hs
    try rw [hq]
    try dsimp only
    unfold pK
    split
    · cases hk : scan q with
      | none => rfl
      | some k =>
        dsimp only
        split
        · rfl
        · have h3 := skip_le (q.drop k.2)
          split
          · rename_i hq2; first | (rw [hq2]; done) | rfl
          · rename_i d q2 hq2
            rw [hq2] at h3
            simp at h3
            try rw [hq2]
            try dsimp only
            split
            · rw [P_fuel (2 * r.length + 1) (needP .v q2) .v deep q2 (by simp only [needP]; omega) (Nat.le_refl _)]
              show PRes.then (pV deep q2) _ = PRes.then (pV deep q2) _
              cases hx : pV deep q2 with
              | error e => rfl
              | ok x =>
                have h1 := pV_lt hx
                have h2 := skip_le x.2
                simp only [PRes.then, pTn]
                split
                · rename_i hq3; first | (rw [hq3]; done) | rfl
                · rename_i c2 q3 hq3
                  rw [hq3] at h2
                  simp at h2
                  try rw [hq3]
                  try dsimp only
                  rw [P_fuel (2 * r.length + 1) (needP (.t (acc.ins k.1 x.1)) q3) (.t (acc.ins k.1 x.1)) deep q3 (by simp only [needP]; omega) (Nat.le_refl _)]
                  rfl
            · rfl
    · rfl
def pC (deep : Nat) (c : UInt8) (q : List UInt8) : PRes :=
  if c = 91 then (if deep = 32 then .error 5 else match skipB q with | [] => pL .nil (deep + 1) q | d :: q2 => if d = 93 then .ok (lstV .nil, q2) else pL .nil (deep + 1) q)
  else if c = 123 then (if deep = 32 then .error 5 else match skipB q with | [] => pT .nil (deep + 1) q | d :: q2 => if d = 125 then .ok (mapV .nil, q2) else pT .nil (deep + 1) q)
  else if c = 34 then (match scan q with | none => .error 4 | some p => .ok (⟨3, false, 0, p.1, .nil, .nil⟩, q.drop p.2))
  else if c = 45 ∨ digB c then numP (c :: q)
  else if [110, 117, 108, 108] <+: (c :: q) then .ok (nullJ, q.drop 3)
  else if [116, 114, 117, 101] <+: (c :: q) then .ok (⟨1, true, 0, [], .nil, .nil⟩, q.drop 3)
  else if [102, 97, 108, 115, 101] <+: (c :: q) then .ok (⟨1, false, 0, [], .nil, .nil⟩, q.drop 4)
  else .error 4
theorem pV_eq (deep : Nat) (r : List UInt8) : pV deep r = match skipB r with | [] => .error 4 | c :: q => pC deep c q := by
  have hs := skip_le r
  unfold pV
  show P (2 * r.length + 1) .v deep r = _
  rw [P]
  split
  · rename_i hq; first | (rw [hq]; done) | rfl
  · rename_i c q hq
    rw [hq] at hs
    simp at hs
    try rw [hq]
    try dsimp only
    unfold pC
    have e1 : ∀ (a : JT) (d : Nat), P (2 * r.length) (.l a) d q = pL a d q := fun a d => P_fuel _ _ (.l a) d q (by simp only [needP]; omega) (Nat.le_refl _)
    have e2 : ∀ (a : JT) (d : Nat), P (2 * r.length) (.t a) d q = pT a d q := fun a d => P_fuel _ _ (.t a) d q (by simp only [needP]; omega) (Nat.le_refl _)
    simp only [e1, e2] <;> rfl
def parF (s : List UInt8) : Jv × Int := if 65536 < s.length then (nullJ, 3) else
  match pV 0 s with
  | .error e => (nullJ, e)
  | .ok p => if (skipB p.2).isEmpty then (p.1, 0) else (nullJ, 4)
end Go.Proofs.YtajkgcmopmpihaaGreatDoor
