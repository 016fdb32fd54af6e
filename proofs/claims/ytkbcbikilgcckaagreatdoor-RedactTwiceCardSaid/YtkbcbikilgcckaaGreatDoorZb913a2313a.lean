/- Texts put together: QuP QuC QuE JvA RuneHi IdK IdP. -/
import Derived.Test.YtkbcbikilgcckaaGreatDoorZe0ec6b32e3
import Derived.Lib.ValidLaws
import Derived.Lib.MapLaws
import Derived.Lib.TrimUEq
import Derived.Lib.DecodeNEq
import Derived.Test.YtkbcbikilgcckaaGreatDoorZcf87a46e79
import Derived.Lib.ItoaNum
import Derived.Test.YtkbcbikilgcckaaGreatDoorShelf
import Derived.WalkSmall
namespace Go.Proofs.YtkbcbikilgcckaaGreatDoor
open Go.Lib
set_option linter.unusedVariables false

/-- no rune stands ahead -/
def NoR (l : List UInt8) : Prop := (decodeL l).1 = 65533 ∧ (decodeL l).2 = 1
instance (l : List UInt8) : Decidable (NoR l) := by unfold NoR; infer_instance
def runeF (l : List UInt8) : Nat × Nat := if l = [] ∨ NoR l then (0, 0) else decodeL l

theorem runeF_nil : runeF [] = (0, 0) := by simp [runeF]
theorem runeF_of {l : List UInt8} (h : l ≠ []) : runeF l = if NoR l then (0, 0) else decodeL l := by simp [runeF, h]

def refN (n b0 b1 b2 b3 : Nat) : Nat × Nat := if (decodeN n b0 b1 b2 b3).1 = 65533 ∧ (decodeN n b0 b1 b2 b3).2 = 1 then (0, 0) else decodeN n b0 b1 b2 b3
theorem runeF_N {l : List UInt8} (h : l ≠ []) : runeF l = refN l.length (l.getD 0 0).toNat (l.getD 1 0).toNat (l.getD 2 0).toNat (l.getD 3 0).toNat := by
  rw [runeF_of h]; unfold NoR refN; simp only [decodeL_N]

theorem ref_1 {n b0 b1 b2 b3 : Nat} (h : b0 < 128) : refN n b0 b1 b2 b3 = (b0, 1) := by
  have : decodeN n b0 b1 b2 b3 = (b0, 1) := by simp [decodeN, h]
  unfold refN; rw [this]; simp; omega
theorem ref_0 {n b0 b1 b2 b3 : Nat} (h0 : b0 < 256) (h : 128 ≤ b0 ∧ b0 < 192 ∨ 248 ≤ b0) : refN n b0 b1 b2 b3 = (0, 0) := by
  have : decodeN n b0 b1 b2 b3 = (65533, 1) := by
    unfold decodeN
    rw [if_neg (by omega), if_neg (by omega), if_neg (by omega), if_neg (by omega)]
  unfold refN; rw [this]; simp
def okC (least c : Nat) : Bool := decide (least ≤ c ∧ c ≤ 1114111 ∧ (c < 55296 ∨ 57343 < c))
def contB (b : Nat) : Bool := decide (128 ≤ b ∧ b < 192)
set_option maxHeartbeats 2000000 in
theorem ref_2 {n b0 b1 b2 b3 : Nat} (h : 192 ≤ b0 ∧ b0 < 224) : refN n b0 b1 b2 b3 =
    if 2 ≤ n ∧ contB b1 = true ∧ okC 128 (b0 % 32 * 64 + b1 % 64) = true then (b0 % 32 * 64 + b1 % 64, 2) else (0, 0) := by
  have e : decodeN n b0 b1 b2 b3 = if 1 < n ∧ b1 / 64 = 2 then (if b0 % 32 * 64 + b1 % 64 ≥ 128 then (b0 % 32 * 64 + b1 % 64, 2) else (65533, 1)) else (65533, 1) := by
    unfold decodeN
    have a1 : b0 / 32 = 6 := by omega
    rw [if_neg (by omega)]
    simp only [a1, true_and]
    by_cases hc : 1 < n ∧ b1 / 64 = 2
    · rw [if_pos hc, if_pos hc]
    · rw [if_neg hc, if_neg hc, if_neg (by omega), if_neg (by omega)]
  unfold refN; rw [e]
  simp only [okC, contB, decide_eq_true_eq]
  repeat' split
  all_goals first | rfl | (exfalso; omega) | (exfalso; simp_all <;> omega)
set_option maxHeartbeats 2000000 in
theorem ref_3 {n b0 b1 b2 b3 : Nat} (h : 224 ≤ b0 ∧ b0 < 240) : refN n b0 b1 b2 b3 =
    if 3 ≤ n ∧ contB b1 = true ∧ contB b2 = true ∧ okC 2048 ((b0 % 16 * 64 + b1 % 64) * 64 + b2 % 64) = true then ((b0 % 16 * 64 + b1 % 64) * 64 + b2 % 64, 3) else (0, 0) := by
  have e : decodeN n b0 b1 b2 b3 = if (1 < n ∧ b1 / 64 = 2) ∧ (2 < n ∧ b2 / 64 = 2) then
    (if b0 % 16 * 4096 + b1 % 64 * 64 + b2 % 64 ≥ 2048 ∧ (b0 % 16 * 4096 + b1 % 64 * 64 + b2 % 64 < 55296 ∨ (57344 ≤ b0 % 16 * 4096 + b1 % 64 * 64 + b2 % 64 ∧ b0 % 16 * 4096 + b1 % 64 * 64 + b2 % 64 ≤ 1114111))
     then (b0 % 16 * 4096 + b1 % 64 * 64 + b2 % 64, 3) else (65533, 1)) else (65533, 1) := by
    unfold decodeN
    have a1 : b0 / 16 = 14 := by omega
    rw [if_neg (by omega), if_neg (by omega)]
    simp only [a1, true_and]
    rw [if_neg (show ¬ (b0 / 8 = 30 ∧ _) by omega)]
  have ec : (b0 % 16 * 64 + b1 % 64) * 64 + b2 % 64 = b0 % 16 * 4096 + b1 % 64 * 64 + b2 % 64 := by omega
  unfold refN; rw [e, ec]
  generalize hC : b0 % 16 * 4096 + b1 % 64 * 64 + b2 % 64 = C
  simp only [okC, contB, decide_eq_true_eq]
  repeat' split
  all_goals first | rfl | (exfalso; omega) | (exfalso; simp_all <;> omega)
set_option maxHeartbeats 2000000 in
theorem ref_4 {n b0 b1 b2 b3 : Nat} (h : 240 ≤ b0 ∧ b0 < 248) : refN n b0 b1 b2 b3 =
    if 4 ≤ n ∧ contB b1 = true ∧ contB b2 = true ∧ contB b3 = true ∧ okC 65536 (((b0 % 8 * 64 + b1 % 64) * 64 + b2 % 64) * 64 + b3 % 64) = true then (((b0 % 8 * 64 + b1 % 64) * 64 + b2 % 64) * 64 + b3 % 64, 4) else (0, 0) := by
  have e : decodeN n b0 b1 b2 b3 = if (1 < n ∧ b1 / 64 = 2) ∧ (2 < n ∧ b2 / 64 = 2) ∧ (3 < n ∧ b3 / 64 = 2) then
    (if b0 % 8 * 262144 + b1 % 64 * 4096 + b2 % 64 * 64 + b3 % 64 ≥ 65536 ∧ (b0 % 8 * 262144 + b1 % 64 * 4096 + b2 % 64 * 64 + b3 % 64 < 55296 ∨ (57344 ≤ b0 % 8 * 262144 + b1 % 64 * 4096 + b2 % 64 * 64 + b3 % 64 ∧ b0 % 8 * 262144 + b1 % 64 * 4096 + b2 % 64 * 64 + b3 % 64 ≤ 1114111))
     then (b0 % 8 * 262144 + b1 % 64 * 4096 + b2 % 64 * 64 + b3 % 64, 4) else (65533, 1)) else (65533, 1) := by
    unfold decodeN
    have a1 : b0 / 8 = 30 := by omega
    rw [if_neg (by omega), if_neg (by omega), if_neg (by omega)]
    simp only [a1, true_and]
  have ec : ((b0 % 8 * 64 + b1 % 64) * 64 + b2 % 64) * 64 + b3 % 64 = b0 % 8 * 262144 + b1 % 64 * 4096 + b2 % 64 * 64 + b3 % 64 := by omega
  unfold refN; rw [e, ec]
  generalize hC : b0 % 8 * 262144 + b1 % 64 * 4096 + b2 % 64 * 64 + b3 % 64 = C
  simp only [okC, contB, decide_eq_true_eq]
  repeat' split
  all_goals first | rfl | (exfalso; omega) | (exfalso; simp_all <;> omega)

/-- what told decides -/
theorem noR_iff (l : List UInt8) (hne : l ≠ []) (h : (decodeL l).1 = 65533) : NoR l ↔ hasPrefix l [239, 191, 189] = false := by
  constructor
  · intro hn
    cases hp : hasPrefix l [239, 191, 189]
    · rfl
    · exfalso
      obtain ⟨t, rfl⟩ : ∃ t, l = 239 :: 191 :: 189 :: t := by
        match l, hp with
        | a :: b :: c :: t, hp => simp [hasPrefix] at hp; obtain ⟨rfl, rfl, rfl⟩ := hp; exact ⟨t, rfl⟩
        | [], hp => simp [hasPrefix] at hp
        | [_], hp => simp [hasPrefix] at hp
        | [_, _], hp => simp [hasPrefix] at hp
      have h2 := hn.2
      rw [decodeL_N] at h2
      have e : decodeN (t.length + 3) 239 191 189 ((239 :: 191 :: 189 :: t : List UInt8).getD 3 0).toNat = (65533, 3) := by
        unfold decodeN
        rw [if_neg (by omega), if_neg (by omega), if_pos (by omega), if_pos (by omega)]
      have e2 : decodeN (239 :: 191 :: 189 :: t : List UInt8).length ((239 :: 191 :: 189 :: t : List UInt8).getD 0 0).toNat ((239 :: 191 :: 189 :: t : List UInt8).getD 1 0).toNat ((239 :: 191 :: 189 :: t : List UInt8).getD 2 0).toNat ((239 :: 191 :: 189 :: t : List UInt8).getD 3 0).toNat = (65533, 3) := e
      rw [e2] at h2
      exact absurd h2 (by decide)
  · intro hp
    by_cases hn : NoR l
    · exact hn
    · exfalso
      have he := encode_decode l hne hn
      rw [h] at he
      have e : encodeRune ((65533 : Nat) : Int) = [239, 191, 189] := by decide
      rw [e] at he
      have hl : l = [239, 191, 189] ++ l.drop (decodeL l).2 := by rw [he, List.take_append_drop]
      rw [hl] at hp
      simp [hasPrefix] at hp
end Go.Proofs.YtkbcbikilgcckaaGreatDoor
namespace Go.Proofs.YtkbcbikilgcckaaGreatDoor
open Go.Lib
set_option linter.unusedVariables false

def accF (c0 : Nat) (l : List UInt8) : Nat → Nat
  | 0 => c0
  | k + 1 => accF c0 l k * 64 + (l.getD (k + 1) 0).toNat % 64
theorem accF_lt {c0 : Nat} (l : List UInt8) (h : c0 < 32) : ∀ k, accF c0 l k < 32 * 64 ^ k
  | 0 => by simp [accF]; exact h
  | k + 1 => by
    have ih := accF_lt l h k
    rw [Nat.pow_succ]
    show accF c0 l k * 64 + (l.getD (k + 1) 0).toNat % 64 < _
    omega
theorem accF_small {c0 : Nat} (l : List UInt8) (h : c0 < 32) {k : Nat} (hk : k ≤ 3) : accF c0 l k < 8388608 := by
  have h1 := accF_lt l h k
  have : k = 0 ∨ k = 1 ∨ k = 2 ∨ k = 3 := by omega
  rcases this with rfl | rfl | rfl | rfl <;> omega

/-- what the document's way answers of a rune of N bytes -/
structure Cls (l : List UInt8) (c0 N L : Nat) : Prop where
  short : l.length < N → runeF l = (0, 0)
  bad : ∀ j, 1 ≤ j → j < N → contB (l.getD j 0).toNat = false → runeF l = (0, 0)
  out : okC L (accF c0 l (N - 1)) = false → runeF l = (0, 0)
  good : N ≤ l.length → (∀ j, 1 ≤ j → j < N → contB (l.getD j 0).toNat = true) → okC L (accF c0 l (N - 1)) = true → runeF l = (accF c0 l (N - 1), N)

theorem cls_2 (b : UInt8) (t : List UInt8) (h : 192 ≤ b.toNat ∧ b.toNat < 224) : Cls (b :: t) (b.toNat % 32) 2 128 := by
  have e := (runeF_N (l := b :: t) (by simp)).trans (ref_2 (b0 := b.toNat) h)
  have ea : accF (b.toNat % 32) (b :: t) (2 - 1) = b.toNat % 32 * 64 + ((b :: t).getD 1 0).toNat % 64 := rfl
  rw [← ea] at e
  refine ⟨fun hs => ?_, fun j h1 h2 hb => ?_, fun ho => ?_, fun hs hg ho => ?_⟩
  · rw [e, if_neg (by omega)]
  · have : j = 1 := by omega
    subst this
    rw [e, hb]; simp
  · rw [e, ho]; simp
  · rw [e, if_pos ⟨hs, hg 1 (by omega) (by omega), ho⟩]
theorem cls_3 (b : UInt8) (t : List UInt8) (h : 224 ≤ b.toNat ∧ b.toNat < 240) : Cls (b :: t) (b.toNat % 16) 3 2048 := by
  have e := (runeF_N (l := b :: t) (by simp)).trans (ref_3 (b0 := b.toNat) h)
  have ea : accF (b.toNat % 16) (b :: t) (3 - 1) = (b.toNat % 16 * 64 + ((b :: t).getD 1 0).toNat % 64) * 64 + ((b :: t).getD 2 0).toNat % 64 := rfl
  rw [← ea] at e
  refine ⟨fun hs => ?_, fun j h1 h2 hb => ?_, fun ho => ?_, fun hs hg ho => ?_⟩
  · rw [e, if_neg (by omega)]
  · have : j = 1 ∨ j = 2 := by omega
    rcases this with rfl | rfl <;> (rw [e, hb]; simp)
  · rw [e, ho]; simp
  · rw [e, if_pos ⟨hs, hg 1 (by omega) (by omega), hg 2 (by omega) (by omega), ho⟩]
theorem cls_4 (b : UInt8) (t : List UInt8) (h : 240 ≤ b.toNat ∧ b.toNat < 248) : Cls (b :: t) (b.toNat % 8) 4 65536 := by
  have e := (runeF_N (l := b :: t) (by simp)).trans (ref_4 (b0 := b.toNat) h)
  have ea : accF (b.toNat % 8) (b :: t) (4 - 1) = ((b.toNat % 8 * 64 + ((b :: t).getD 1 0).toNat % 64) * 64 + ((b :: t).getD 2 0).toNat % 64) * 64 + ((b :: t).getD 3 0).toNat % 64 := rfl
  rw [← ea] at e
  refine ⟨fun hs => ?_, fun j h1 h2 hb => ?_, fun ho => ?_, fun hs hg ho => ?_⟩
  · rw [e, if_neg (by omega)]
  · have : j = 1 ∨ j = 2 ∨ j = 3 := by omega
    rcases this with rfl | rfl | rfl <;> (rw [e, hb]; simp)
  · rw [e, ho]; simp
  · rw [e, if_pos ⟨hs, hg 1 (by omega) (by omega), hg 2 (by omega) (by omega), hg 3 (by omega) (by omega), ho⟩]
theorem cls_1 (b : UInt8) (t : List UInt8) (h : b.toNat < 128) : runeF (b :: t) = (b.toNat, 1) := by
  rw [runeF_N (by simp)]; exact ref_1 h
theorem cls_0 (b : UInt8) (t : List UInt8) (h : 128 ≤ b.toNat ∧ b.toNat < 192 ∨ 248 ≤ b.toNat) : runeF (b :: t) = (0, 0) := by
  rw [runeF_N (by simp)]; exact ref_0 b.toNat_lt h
end Go.Proofs.YtkbcbikilgcckaaGreatDoor
namespace Go.Proofs.YtkbcbikilgcckaaGreatDoor
open Go.Lib
set_option linter.unusedVariables false

def hexB (n : Nat) : UInt8 := if n < 10 then UInt8.ofNat (48 + n) else UInt8.ofNat (87 + n)
def escB (c : UInt8) : List UInt8 :=
  if c = 34 ∨ c = 92 then [92, c]
  else if c = 8 then [92, 98] else if c = 9 then [92, 116] else if c = 10 then [92, 110] else if c = 12 then [92, 102] else if c = 13 then [92, 114]
  else if c.toNat < 32 then [92, 117, 48, 48, hexB (c.toNat / 16), hexB (c.toNat % 16)]
  else [c]
def escL (l : List UInt8) : List UInt8 := l.flatMap escB
def putF (l : List UInt8) : List UInt8 := if validD l then 34 :: escL l ++ [34] else []
theorem escL_take (l : List UInt8) (i : Nat) (h : i < l.length) : escL (l.take (i + 1)) = escL (l.take i) ++ escB l[i] := by
  unfold escL
  rw [List.take_add_one, List.getElem?_eq_getElem h, Option.toList_some, List.flatMap_append, List.flatMap_cons, List.flatMap_nil, List.append_nil]
theorem escB_len (c : UInt8) : (escB c).length ≤ 6 := by
  unfold escB
  by_cases h1 : c = 34 ∨ c = 92
  · rw [if_pos h1]; simp only [List.length_cons, List.length_nil]; omega
  rw [if_neg h1]
  repeat' split
  all_goals (simp only [List.length_cons, List.length_nil]; omega)
theorem escL_len : ∀ l : List UInt8, (escL l).length ≤ 6 * l.length
  | [] => by simp [escL]
  | c :: l => by
    have h1 := escB_len c
    have h2 := escL_len l
    simp only [escL, List.flatMap_cons, List.length_append, List.length_cons] at *
    omega
theorem escL_take_len (l : List UInt8) (i : Nat) (h : i ≤ l.length) : (escL (l.take i)).length ≤ 6 * i := by
  have := escL_len (l.take i)
  rw [List.length_take] at this
  omega
theorem escB_plain (c : UInt8) (h : 128 ≤ c.toNat) : escB c = [c] := by
  have e : ∀ d : UInt8, d.toNat < 128 → c ≠ d := fun d hd hc => by rw [hc] at h; omega
  unfold escB
  rw [if_neg (by intro h; rcases h with h | h; exact e 34 (by decide) h; exact e 92 (by decide) h), if_neg (e 8 (by decide)), if_neg (e 9 (by decide)), if_neg (e 10 (by decide)), if_neg (e 12 (by decide)), if_neg (e 13 (by decide)), if_neg (by omega)]
theorem hex_at (i : Nat) (h : i < 16) : (([48, 49, 50, 51, 52, 53, 54, 55, 56, 57, 97, 98, 99, 100, 101, 102] : List UInt8).getD i 0) = hexB i := by
  have : ∀ j : Fin 16, (([48, 49, 50, 51, 52, 53, 54, 55, 56, 57, 97, 98, 99, 100, 101, 102] : List UInt8).getD j.val 0) = hexB j.val := by decide
  exact this ⟨i, h⟩
end Go.Proofs.YtkbcbikilgcckaaGreatDoor
namespace Go.Proofs.YtkbcbikilgcckaaGreatDoor
set_option linter.unusedVariables false

abbrev Res := Except Int (List UInt8)
def lng (b : List UInt8) : Res := if b.length ≤ 65536 then .ok b else .error 3
/-- A text between quotes behind bytes. -/
def txt (b s : List UInt8) : Res := if 65536 < s.length then .error 3 else if Lib.validD s then lng (b ++ putF s) else .error 1
def Res.then (r : Res) (f : List UInt8 → Res) : Res := match r with | .ok b => f b | .error e => .error e
/-- Has a value nothing but what its kind has? -/
def Jv.bare (v : Jv) : Bool :=
  (v.kd == 1 || !v.is) && (v.kd == 2 || v.n == 0) && (v.kd == 3 || v.s.isEmpty) && (v.kd == 4 || v.l.isNil) && (v.kd == 5 || v.m.isNil) && decide (0 ≤ v.kd) && decide (v.kd ≤ 5) && decide (-9007199254740991 ≤ v.n) && decide (v.n ≤ 9007199254740991)
/-- A value that has no parts, or one with its parts' writers. -/
def wrB (v : Jv) (deep : Nat) (wl wm : List UInt8 → Res) (b : List UInt8) : Res :=
  if v.bare = false then .error 1
  else if v.kd = 0 then lng (b ++ [110, 117, 108, 108])
  else if v.kd = 1 then lng (b ++ (if v.is then [116, 114, 117, 101] else [102, 97, 108, 115, 101]))
  else if v.kd = 2 then lng (b ++ Lib.itoa v.n)
  else if v.kd = 3 then txt b v.s
  else if 32 ≤ deep then .error 5
  else if v.kd = 4 then (lng (b ++ [91])).then fun b => (wl b).then fun b => lng (b ++ [93])
  else (lng (b ++ [123])).then fun b => (wm b).then fun b => lng (b ++ [125])
/-- Go's order of texts. -/
def leqB (a b : List UInt8) : Bool := Op.bytesLess a b || a == b
/-- What stands ahead of a value in its row: a comma, a key that is more than the last one, a colon. -/
def wrK (mem : Bool) (prev : Option (List UInt8)) (k : List UInt8) (b : List UInt8) : Res :=
  Res.then (match prev with | none => .ok b | some p => (lng (b ++ [44])).then fun b => if mem && leqB k p then .error 1 else .ok b)
    fun b => if mem then (txt b k).then fun b => lng (b ++ [58]) else .ok b
/-- A row's values, with all that stands between them. -/
def wrF (mem : Bool) : JT → Nat → Option (List UInt8) → List UInt8 → Res
  | .nil, _, _, b => .ok b
  | .cons k kd is n s l m r, deep, prev, b =>
    (wrK mem prev k b).then fun b => (wrB ⟨kd, is, n, s, l, m⟩ deep (fun b => wrF false l (deep + 1) none b) (fun b => wrF true m (deep + 1) none b) b).then fun b => wrF mem r deep (some k) b
/-- A value's text behind bytes. -/
def wrV (v : Jv) (deep : Nat) (b : List UInt8) : Res := wrB v deep (fun b => wrF false v.l (deep + 1) none b) (fun b => wrF true v.m (deep + 1) none b) b
theorem wrF_one (mem : Bool) (k : List UInt8) (v : Jv) (r : JT) (deep : Nat) (prev : Option (List UInt8)) (b : List UInt8) :
    wrF mem (.one k v r) deep prev b = (wrK mem prev k b).then fun b => (wrV v deep b).then fun b => wrF mem r deep (some k) b := rfl
/-- The key ahead of the i-th. -/
def prevK (t : JT) (i : Nat) : Option (List UInt8) := if i = 0 then none else some (t.fall (i - 1)).key
theorem wrF_step (mem : Bool) (t : JT) (i deep : Nat) (b : List UInt8) (h : i < t.ext) :
    wrF mem (t.fall i) deep (prevK t i) b = (wrK mem (prevK t i) (t.fall i).key b).then fun b => (wrV (t.fall i).val deep b).then fun b => wrF mem (t.fall (i + 1)) deep (prevK t (i + 1)) b := by
  have e : prevK t (i + 1) = some (t.fall i).key := by simp [prevK]
  rw [e]
  conv => lhs; rw [t.fall_of_lt i h]
  exact wrF_one mem _ _ _ _ _ _
theorem wrF_end (mem : Bool) (t : JT) (deep : Nat) (p : Option (List UInt8)) (b : List UInt8) : wrF mem (t.fall t.ext) deep p b = .ok b := by
  rw [JT.fall_all t _ (Nat.le_refl _)]; rfl
/-- Canon. -/
def canF (v : Jv) : List UInt8 × Int := match wrV v 0 [] with | .ok b => (b, 0) | .error e => ([], e)
end Go.Proofs.YtkbcbikilgcckaaGreatDoor
namespace Go.Proofs.YtkbcbikilgcckaaGreatDoor
open Go.ChangeShapes Go.WideShapes Go.ChangeAt Go.RowKit Go.IntWalk
set_option linter.unusedVariables false

theorem indexByte_none (l : List UInt8) (c : UInt8) (h : ∀ b ∈ l, b ≠ c) : Lib.indexByte l c = -1 := by
  induction l with
  | nil => rfl
  | cons b l ih =>
    have hb : (b == c) = false := by rw [beq_eq_false_iff_ne]; exact h b (by simp)
    have := ih fun x hx => h x (by simp [hx])
    simp [Lib.indexByte, hb, this]

theorem decode_of_ascii (l : List UInt8) (hl : ∀ b ∈ l, b.toNat < 128) (pos : Nat) (h : pos < l.length) : Utf8.decode ⟨l.toArray⟩ pos = ((l.getD pos 0).toNat, 1) := by
  have h' : pos < (⟨l.toArray⟩ : ByteArray).size := h
  have hb : ((⟨l.toArray⟩ : ByteArray)[pos]'h').toNat < 128 := hl _ (List.getElem_mem h)
  rw [decode_ascii _ pos h' hb, List.getD_eq_getElem?_getD, List.getElem?_eq_getElem h]; rfl

theorem indexByte_no (l : List UInt8) (c : UInt8) (w : World) (h : ∀ b ∈ l, b ≠ c) :
    Calls Tryz.prog 143 #[.string ⟨l.toArray⟩, .int .u8 c.toNat] w fun e w' => e = .returned (.int .i64 (-1)) ∧ w' = w := by
  refine (Tryz.strings_IndexByte ⟨l.toArray⟩ c.toNat w).mono ?_
  rintro e w' ⟨rfl, h2⟩
  refine ⟨?_, h2⟩
  have hc : ((c.toNat : Int).toNat.toUInt8) = c := by simp
  rw [hc]
  rw [show (⟨l.toArray⟩ : ByteArray).data.toList = l from rfl, indexByte_none l c h]

def runeOK (r : Int) : Prop := r = 65533 ∨ (r ≠ 65533 ∧ Utf8.valid r = true)

set_option maxRecDepth 100000 in
set_option maxHeartbeats 1000000 in
theorem indexRune_hi (l : List UInt8) (r : Int) (w : World) (hl : ∀ b ∈ l, b.toNat < 128) (hlen : l.length ≤ 1000000) (hr : 128 ≤ r ∧ r ≤ 1114111) (hok : Utf8.valid r = true) :
    Calls Tryz.prog 134 #[.string ⟨l.toArray⟩, .int .i32 r] w fun e w' => e = .returned (.int .i64 (-1)) ∧ Below w.heap.size w w' := by
  by_cases he : r = 65533
  · subst he
    go_enter Tryz.func134, Tryz.ntmps134
    go_wp2_with fail
    go_loopw [] (fun wr => ∃ k, k ≤ l.length ∧ wr = w.iter ⟨l.toArray⟩ k) (fun wr => l.length - wr.iterPos w.heap.size)
    case atStart => exact ⟨0, Nat.zero_le _, rfl⟩
    case round =>
      obtain ⟨k, hk, rfl⟩ := hrel
      by_cases hp : k < l.length
      · have hnx := fun ty => run_next_any (P := Tryz.prog) w ⟨l.toArray⟩ k ty hp
        have hc : (l.getD k 0).toNat < 128 := hl _ (by rw [List.getD_eq_getElem?_getD, List.getElem?_eq_getElem hp]; exact List.getElem_mem hp)
        rw [decode_of_ascii l hl k hp] at hnx
        simp only at hnx
        generalize (l.getD k 0).toNat = C at *
        have hne : ((C : Int) == 65533) = false := by simp; omega
        go_wp2
        go_roundw
        case rel => exact ⟨k + 1, by omega, rfl⟩
        case measure => simp; omega
      · have hnx := fun ty => run_next_end (P := Tryz.prog) w ⟨l.toArray⟩ k ty hp
        go_wp2
        go_ret
        exact ⟨rfl, (Below.refl _ _).alloc (Nat.le_refl _) _⟩
  · have hne : (r == 65533) = false := by simpa using he
    have hv : Lib.validRune r = true := by rw [← hok]; exact (validRune_eq r).symm
    obtain ⟨e1, e2, e3⟩ := encode_facts r hok hr.1
    have e3 := e3 (by omega)
    obtain ⟨E, hE⟩ : ∃ E : List UInt8, Utf8.encode r = ⟨E.toArray⟩ := ⟨(Utf8.encode r).data.toList, by simp⟩
    rw [hE] at e1 e2
    have hlast : 128 ≤ (E.getD (E.length - 1) 0).toNat := by
      have h1 : E.length - 1 < E.length := by have : 2 ≤ E.length := e1; omega
      have h2 : ∀ (S : ByteArray) (hS : S = ⟨E.toArray⟩) (h : S.size - 1 < S.size), 128 ≤ (S[S.size - 1]'h).toNat → 128 ≤ (E.getD (E.length - 1) 0).toNat := by
        intro S hS h h3
        subst hS
        rw [List.getD_eq_getElem?_getD, List.getElem?_eq_getElem h1]
        exact h3
      exact h2 _ hE _ e3
    have e1' : 2 ≤ E.length := e1
    have e2' : E.length ≤ 4 := e2
    clear e1 e2 e3
    obtain ⟨last, hL⟩ : ∃ last, last = E.length - 1 := ⟨_, rfl⟩
    have hLI : (E.length : Int) - 1 = (last : Int) := by omega
    rw [← hL] at hlast
    have hL1 : 1 ≤ last ∧ last ≤ 3 := by omega
    have hLE : last < E.length := by omega
    obtain ⟨D, hD⟩ : ∃ D : UInt8, D = E.getD last 0 := ⟨_, rfl⟩
    rw [← hD] at hlast
    have hDE : E[last]'hLE = D := by rw [hD, List.getD_eq_getElem?_getD, List.getElem?_eq_getElem hLE]; rfl
    have HD := Lib.hid hD; clear hD
    have HL := Lib.hid hL; clear hL
    go_enter Tryz.func134, Tryz.ntmps134
    go_wp2_with ((go_at_call 144; refine (Tryz.utf8_ValidRune _ _).mono ?_; rintro e w' ⟨rfl, hw⟩; have hw' := hw.symm; clear hw; subst hw'))
    go_step3
    go_wp2_with fail
    try go_step3
    go_wp2_with fail
    refine wp_loop_rounds 1 ?_
    rw [rounds_succ]
    · by_cases hp : last < l.length
      · have hpI : (last : Int) < (l.length : Int) := by omega
        have hLEI : (last : Int) < (E.length : Int) := by omega
        have h0I : (0 : Int) ≤ (last : Int) := by omega
        obtain ⟨X, hX⟩ : ∃ X, X = l[last] := ⟨_, rfl⟩
        have hXl : X.toNat < 128 := by rw [hX]; exact hl _ (List.getElem_mem hp)
        have hX' : l[last] = X := hX.symm
        have hdl : decide (last < l.length) = true := by simpa using hp
        have hne2 : ((X.toNat : Int) != (D.toNat : Int)) = true := by simp; omega
        clear hX
        go_wp2_with fail
        go_step3
        go_wp2_with fail
        go_quiet (fail)
        have hno : ∀ b ∈ l.drop (last + 1), b ≠ D := by
          intro b hb e
          subst e
          have := hl b (List.mem_of_mem_drop hb)
          omega
        obtain ⟨wq, hwq⟩ : ∃ wq, wq = w.drewN nq := ⟨_, rfl⟩
        rw [← hwq]
        have HWQ := Lib.hid hwq; clear hwq
        have hp1 : (last : Int) + 1 ≤ (l.length : Int) := by omega
        have hl1 : l.length ≤ 1000000 := hlen
        go_wp2_with fail
        go_quiet ((go_at_call 143; exact Calls.quiet_of_same (indexByte_no _ D _ hno)))
        go_wp2
        simp only [Exit.noGoto_ret, Exit.inBlock, Exit.then]
        go_ret
        exact ⟨rfl, by rw [HWQ.out]; exact (((Below.refl _ _).drewN _).drewN _)⟩
      · go_wp2
        try rw [Exit.noGoto_ret]
        go_ret
        exact ⟨rfl, Below.refl _ _⟩

end Go.Proofs.YtkbcbikilgcckaaGreatDoor
namespace Go.Proofs.YtkbcbikilgcckaaGreatDoor
open Go.ChangeShapes Go.WideShapes Go.ChangeAt Go.RowKit Go.IntWalk
set_option linter.unusedVariables false

theorem decode_valid (s : ByteArray) (pos : Nat) : Utf8.valid ((Utf8.decode s pos).1 : Nat) = true := by
  have hb : ∀ k, (s.get! (pos + k)).toNat < 256 := fun k => (s.get! (pos + k)).toNat_lt
  have h0 := hb 0; have h1 := hb 1; have h2 := hb 2; have h3 := hb 3
  simp only [Utf8.decode]
  repeat' split
  all_goals first
    | (rename_i h; simp only [Bool.and_eq_true] at h; exact h.2)
    | (simp only [Utf8.valid, Utf8.runeError]; decide)
    | (simp only [Utf8.valid, Bool.or_eq_true, Bool.and_eq_true, decide_eq_true_eq]; omega)

/-- The kinds, on runes: digits; letters and digits and some signs; capitals too. -/
def isDigit (r : Int) : Bool := decide (48 ≤ r ∧ r ≤ 57)
def inSigns (others : List UInt8) (r : Int) : Bool := decide (0 ≤ r ∧ r < 128) && others.contains r.toNat.toUInt8
def isAmong (others : List UInt8) (r : Int) : Bool := isDigit r || decide (97 ≤ r ∧ r ≤ 122) || inSigns others r
def isCap (others : List UInt8) (r : Int) : Bool := decide (65 ≤ r ∧ r ≤ 90) || isAmong others r

theorem digit_calls (r : Int) (w : World) :
    Calls Tryz.prog 82 #[.int .i32 r] w fun e w' => e = .returned (.bool (isDigit r)) ∧ w = w' := by
  by_cases h1 : 48 ≤ r
  · by_cases h2 : r ≤ 57
    · go_enter Tryz.func82, Tryz.ntmps82
      go_wp2
      go_ret
      exact ⟨ret_bool (by simp [isDigit, h1, h2]), rfl⟩
    · have h2' : decide (r ≤ 57) = false := by simpa using h2
      go_enter Tryz.func82, Tryz.ntmps82
      go_wp2
      go_ret
      exact ⟨ret_bool (by simp [isDigit, h2]), rfl⟩
  · have h1' : decide (48 ≤ r) = false := by simpa using h1
    go_enter Tryz.func82, Tryz.ntmps82
    go_wp2
    go_ret
    exact ⟨ret_bool (by simp [isDigit]; omega), rfl⟩

theorem indexByte_contains (l : List UInt8) (c : UInt8) : decide (0 ≤ Lib.indexByte l c) = l.contains c := by
  induction l with
  | nil => rfl
  | cons b l ih =>
    simp only [Lib.indexByte, List.contains_cons]
    by_cases h : b = c
    · subst h; simp
    · have h1 : (b == c) = false := by simpa using h
      have h2 : (c == b) = false := by simpa using fun e => h e.symm
      simp only [h1, h2, Bool.false_eq_true, if_false, Bool.false_or]
      rw [← ih]
      by_cases h3 : Lib.indexByte l c = -1
      · simp [h3]
      · have : (Lib.indexByte l c == -1) = false := by simpa using h3
        simp only [this]
        have hge : -1 ≤ Lib.indexByte l c := by
          clear ih h3 this
          induction l with
          | nil => simp [Lib.indexByte]
          | cons x l ih =>
            simp only [Lib.indexByte]
            split
            · omega
            · split
              · omega
              · rename_i h5; have := ih; simp at h5; omega
        simp only [Bool.false_eq_true, if_false]
        congr 1
        simp only [eq_iff_iff]
        omega

theorem contains_calls (l : List UInt8) (r : Int) (w : World) (hl : ∀ b ∈ l, b.toNat < 128) (hlen : l.length ≤ 1000000) (hr : 0 ≤ r ∧ r ≤ 1114111) (hok : Utf8.valid r = true) :
    Calls Tryz.prog 117 #[.string ⟨l.toArray⟩, .int .i32 r] w fun e w' => e = .returned (.bool (inSigns l r)) ∧ Below w.heap.size w w' := by
  by_cases h : r < 128
  · refine (Tryz.strings_ContainsRune_ascii ⟨l.toArray⟩ r w hr.1 h).mono ?_
    rintro e w' ⟨rfl, rfl⟩
    refine ⟨?_, Below.refl _ _⟩
    rw [show (⟨l.toArray⟩ : ByteArray).data.toList = l from rfl, indexByte_contains]
    unfold inSigns; simp [hr.1, h]
  · go_enter Tryz.func117, Tryz.ntmps117
    go_wp2_with (go_at_call 134; refine (indexRune_hi l r _ hl hlen (by omega) hok).mono ?_; rintro e w' ⟨rfl, hb⟩)
    go_ret
    refine ⟨ret_bool ?_, hb⟩
    unfold inSigns; rw [decide_eq_false (show ¬ (0 ≤ r ∧ r < 128) from by omega)]; rfl

set_option maxHeartbeats 1000000 in
theorem among_calls (l : List UInt8) (r : Int) (b : Nat) (w : World) (hl : ∀ b ∈ l, b.toNat < 128) (hlen : l.length ≤ 1000000) (hr : 0 ≤ r ∧ r ≤ 1114111) (hok : Utf8.valid r = true)
    (hc : w.cell? ⟨b, 0, none⟩ = some (.string ⟨l.toArray⟩)) :
    Calls Tryz.prog 116 #[.int .i32 r, .pointer (some ⟨b, 0, none⟩)] w fun e w' => e = .returned (.bool (isAmong l r)) ∧ Below w.heap.size w w' := by
  by_cases h1 : isDigit r = true
  · have HE : Hid (isAmong l r = true) := by show _ = _; simp [isAmong, h1]
    go_enter Tryz.func116, Tryz.ntmps116
    go_wp2_with (go_at_call 82; refine (digit_calls r _).mono ?_; rintro e w' ⟨rfl, rfl⟩)
    go_ret
    exact ⟨ret_bool HE.out.symm, Below.refl _ _⟩
  · have h1' : isDigit r = false := by simpa using h1
    by_cases h2 : 97 ≤ r ∧ r ≤ 122
    · obtain ⟨h2a, h2b⟩ := h2
      have HE : Hid (isAmong l r = true) := by show _ = _; simp [isAmong, h2a, h2b]
      go_enter Tryz.func116, Tryz.ntmps116
      go_wp2_with (go_at_call 82; refine (digit_calls r _).mono ?_; rintro e w' ⟨rfl, rfl⟩)
      go_ret
      exact ⟨ret_bool HE.out.symm, Below.refl _ _⟩
    · have HE : Hid (isAmong l r = (inSigns l r)) := by
        show _ = _; unfold isAmong; rw [h1', decide_eq_false h2]; simp
      by_cases h3 : 97 ≤ r
      · have h4 : decide (r ≤ 122) = false := by simp; omega
        go_enter Tryz.func116, Tryz.ntmps116
        go_wp2_with (first | (go_at_call 82; refine (digit_calls r _).mono ?_; rintro e w' ⟨rfl, rfl⟩) | (go_at_call 117; refine (contains_calls l r _ hl hlen hr hok).mono ?_; rintro e w' ⟨rfl, hb⟩))
        go_ret
        exact ⟨ret_bool HE.out.symm, hb⟩
      · have h4 : decide (97 ≤ r) = false := by simp; omega
        go_enter Tryz.func116, Tryz.ntmps116
        go_wp2_with (first | (go_at_call 82; refine (digit_calls r _).mono ?_; rintro e w' ⟨rfl, rfl⟩) | (go_at_call 117; refine (contains_calls l r _ hl hlen hr hok).mono ?_; rintro e w' ⟨rfl, hb⟩))
        go_ret
        exact ⟨ret_bool HE.out.symm, hb⟩

/-- A text of one kind: not empty, each byte of the kind. -/
def onlyF (p : Int → Bool) (l : List UInt8) : Bool := !l.isEmpty && l.all fun c => p c.toNat
theorem digit_lt {r : Int} (h : isDigit r = true) : 0 ≤ r ∧ r < 128 := by simp [isDigit] at h; omega
theorem among_lt {l : List UInt8} {r : Int} (h : isAmong l r = true) : 0 ≤ r ∧ r < 128 := by
  simp only [isAmong, isDigit, inSigns, Bool.or_eq_true, Bool.and_eq_true, decide_eq_true_eq] at h; omega
theorem cap_lt {l : List UInt8} {r : Int} (h : isCap l r = true) : 0 ≤ r ∧ r < 128 := by
  simp only [isCap, Bool.or_eq_true, decide_eq_true_eq] at h
  rcases h with h | h
  · omega
  · exact among_lt h

/-- What is known of a function value: it answers p. -/
def Tells (v : Value) (p : Int → Bool) (w : World) : Prop :=
  ∃ F caps, v = .func (.func F) #[] caps ∧ (∀ (a : Array Value) (w' : World), (callFunc F a).run Tryz.prog w' = .ok (.enter F a) w') ∧ ∀ (r : Int) (w' : World), Below w.heap.size w w' → 0 ≤ r ∧ r ≤ 1114111 → Utf8.valid r = true →
    Calls Tryz.prog F (#[.int .i32 r] ++ caps) w' fun e w'' => e = .returned (.bool (p r)) ∧ Below w'.heap.size w' w''

theorem only_bad {p : Int → Bool} (hp : ∀ r, p r = true → 0 ≤ r ∧ r < 128) {s : ByteArray} {k : Nat} (hk : k < s.size) (h : p (Utf8.decode s k).1 = false) : onlyF p s.data.toList = false := by
  have hk' : k < s.data.toList.length := hk
  have hb : p (s.data.toList.getD k 0).toNat = false := by
    rcases Nat.lt_or_ge (s.data.toList.getD k 0).toNat 128 with h1 | h1
    · have e : s.data.toList.getD k 0 = s[k]'hk := by rw [List.getD_eq_getElem?_getD, List.getElem?_eq_getElem hk']; rfl
      rw [e] at h1 ⊢
      rw [decode_ascii s k hk h1] at h
      exact h
    · cases hq : p (s.data.toList.getD k 0).toNat with
      | false => rfl
      | true => have := hp _ hq; omega
  unfold onlyF
  rw [show (s.data.toList.all fun c => p c.toNat) = false from by
    rw [List.all_eq_false]
    refine ⟨s.data.toList[k], List.getElem_mem hk', ?_⟩
    rw [List.getD_eq_getElem?_getD, List.getElem?_eq_getElem hk'] at hb
    simpa using hb]
  simp
theorem only_width {p : Int → Bool} (hp : ∀ r, p r = true → 0 ≤ r ∧ r < 128) {s : ByteArray} {k : Nat} (hk : k < s.size) (h : p (Utf8.decode s k).1 = true) : Utf8.decode s k = ((s.data.toList.getD k 0).toNat, 1) := by
  have := hp _ h
  have hb : (s[k]'hk).toNat < 128 := by
    rcases Nat.lt_or_ge (s[k]'hk).toNat 128 with h1 | h1
    · exact h1
    · have := (decode_high s k hk h1).1; omega
  rw [decode_ascii s k hk hb]
  have h' : k < s.data.toList.length := hk
  rw [List.getD_eq_getElem?_getD, List.getElem?_eq_getElem h']
  rfl
theorem decode_max (s : ByteArray) (k : Nat) : (Utf8.decode s k).1 ≤ 1114111 := by
  have := decode_valid s k
  simp only [Utf8.valid, Bool.or_eq_true, Bool.and_eq_true, decide_eq_true_eq] at this
  omega

set_option maxHeartbeats 1000000 in
theorem only_calls (s : ByteArray) (v : Value) (p : Int → Bool) (w : World) (hp : ∀ r, p r = true → 0 ≤ r ∧ r < 128) (hs : s.size ≤ 1000000000) (hv : Tells v p w) :
    Calls Tryz.prog 81 #[.string s, v] w fun e w' => e = .returned (.bool (onlyF p s.data.toList)) ∧ Below w.heap.size w w' := by
  obtain ⟨F, caps, rfl, hcf, hcall⟩ := hv
  have HC := Lib.hid hcall; clear hcall
  have hsl : s.size = s.data.toList.length := rfl
  have HSL := Lib.hid hsl; clear hsl
  go_enter Tryz.func81, Tryz.ntmps81
  go_wp2_with fail
  go_loopw [] (fun wr => ∃ k, k ≤ s.size ∧ Below w.heap.size w wr ∧ wr.heap[w.heap.size]? = some (.stringIter s k) ∧ Hid (∀ c ∈ s.data.toList.take k, p c.toNat = true)) (fun wr => s.size - wr.iterPos w.heap.size)
  case atStart => exact ⟨0, Nat.zero_le _, (Below.refl _ _).alloc (Nat.le_refl _) _, World.iter_heap w s 0, fun c hc => by simp at hc⟩
  case round =>
    obtain ⟨k, hk, hbr, hit, hall⟩ := hrel
    by_cases hk' : k < s.size
    · have hnx := fun ty => Lib.run_next_any_at (P := Tryz.prog) wr w.heap.size s k ty hit hk'
      have hmx := decode_max s k
      have hb2 := Lib.below_iterAt hbr (Nat.le_refl _) s (k + (Utf8.decode s k).2)
      have hva := decode_valid s k
      have hb2' := hb2
      cases hpr : p (Utf8.decode s k).1 with
      | true =>
        have hw := only_width hp hk' hpr
        rw [hw] at hb2 hnx hmx hva hpr
        simp only at hb2 hnx hmx hva hpr
        have hk2 : k < s.data.toList.length := by rw [← HSL.out]; exact hk'
        have HALL2 : Hid (∀ c ∈ s.data.toList.take (k + 1), p c.toNat = true) := by
          intro c hc
          rw [List.take_add_one, List.getElem?_eq_getElem hk2] at hc
          simp only [Option.toList_some, List.mem_append, List.mem_singleton] at hc
          rcases hc with hc | rfl
          · exact hall.out c hc
          · have e : s.data.toList[k] = s.data.toList.getD k 0 := by rw [List.getD_eq_getElem?_getD, List.getElem?_eq_getElem hk2]; rfl
            rw [e]; exact hpr
        have hit2 := Lib.iterAt_heap wr w.heap.size s k (k + 1) hit
        clear hw
        generalize (s.data.toList.getD k 0).toNat = C at *
        go_wp2_with fail
        refine (HC.out _ _ hb2 ⟨by omega, by omega⟩ hva).mono ?_
        rintro e w2 ⟨rfl, hb3⟩
        rw [hpr]
        have hb4 := hb2.then_ hb3
        have hit3 : w2.heap[w.heap.size]? = some (.stringIter s (k + 1)) := (hb3.block _ (Array.getElem?_eq_some_iff.1 hit2).1).trans hit2
        go_wp2
        go_roundw
        case rel => exact ⟨k + 1, by omega, hb4, hit3, HALL2⟩
        case measure =>
          have e1 : w2.iterPos w.heap.size = k + 1 := by simp [World.iterPos, hit3]
          have e2 : wr.iterPos w.heap.size = k := by simp [World.iterPos, hit]
          rw [e1, e2]; omega
      | false =>
        have HF : Hid (onlyF p s.data.toList = false) := only_bad hp hk' hpr
        generalize (Utf8.decode s k).1 = C at *
        go_wp2_with fail
        refine (HC.out _ _ hb2 ⟨by omega, by omega⟩ hva).mono ?_
        rintro e w2 ⟨rfl, hb3⟩
        rw [hpr]
        have hb4 := hb2.then_ hb3
        go_wp2
        go_ret
        exact ⟨ret_bool HF.out.symm, hb4⟩
    · have hnx := fun ty => Lib.run_next_end_at (P := Tryz.prog) wr w.heap.size s k ty hit hk'
      have hkn : k = s.size := by omega
      have HE : Hid (onlyF p s.data.toList = !s.data.toList.isEmpty) := by
        show _ = _
        have h1 := hall.out
        rw [hkn, HSL.out, List.take_length] at h1
        unfold onlyF
        rw [show (s.data.toList.all fun c => p c.toNat) = true from List.all_eq_true.2 h1]
        simp
      go_wp2
      go_ret
      refine ⟨ret_bool ?_, hbr⟩
      rw [HE.out]
      clear HE hnx hit hall
      obtain ⟨l, rfl, _⟩ := str_split s
      simp
end Go.Proofs.YtkbcbikilgcckaaGreatDoor
namespace Go.Proofs.YtkbcbikilgcckaaGreatDoor
set_option linter.unusedVariables false

def colonF (l : List UInt8) : Nat := (l.takeWhile (· != 58)).length
theorem colonF_le (l : List UInt8) : colonF l ≤ l.length := (List.takeWhile_sublist _).length_le
theorem colonF_nil : colonF [] = 0 := rfl
theorem colonF_cons (c : UInt8) (l : List UInt8) : colonF (c :: l) = if c = 58 then 0 else colonF l + 1 := by
  unfold colonF
  by_cases h : c = 58
  · subst h; rfl
  · have : (c != 58) = true := by simpa using h
    simp [this, h]
theorem index_colon (l : List UInt8) : Lib.index l [58] = if colonF l < l.length then (colonF l : Int) else -1 := by
  induction l with
  | nil => rfl
  | cons c l ih =>
    rw [colonF_cons, Lib.index]
    by_cases h : c = 58
    · subst h; simp [List.isPrefixOf]
    · have h1 : ((58 : UInt8) == c) = false := by rw [beq_eq_false_iff_ne]; exact fun e => h e.symm
      have h2 : List.isPrefixOf [58] (c :: l) = false := by simp only [List.isPrefixOf, h1, Bool.false_and]
      rw [h2, if_neg h]
      simp only [Bool.false_eq_true, if_false, List.length_cons]
      by_cases h3 : colonF l < l.length
      · rw [if_pos h3] at ih
        rw [ih, if_pos (show colonF l + 1 < l.length + 1 from by omega)]
        have : ((colonF l : Int) == -1) = false := by rw [beq_eq_false_iff_ne]; omega
        rw [this]; simp
      · rw [if_neg h3] at ih
        rw [ih, if_neg (show ¬ colonF l + 1 < l.length + 1 from by omega)]; rfl

theorem cut_colon (l : List UInt8) : Lib.cut l [58] = (l.take (colonF l), l.drop (colonF l + 1), decide (colonF l < l.length)) := by
  unfold Lib.cut
  rw [index_colon]
  have := colonF_le l
  by_cases h : colonF l < l.length
  · rw [if_pos h, if_pos (by omega)]; simp [h]
  · rw [if_neg h, if_neg (by omega), List.take_of_length_le (by omega), List.drop_eq_nil_of_le (by omega)]; simp [h]
theorem colon_before (l : List UInt8) : ∀ k, k < colonF l → l.getD k 0 ≠ 58 := by
  induction l with
  | nil => intro k hk; simp [colonF] at hk
  | cons c l ih =>
    intro k hk
    rw [colonF_cons] at hk
    split at hk
    · omega
    · rename_i h
      cases k with
      | zero => simpa using h
      | succ k => simpa using ih k (by omega)
theorem colon_at (l : List UInt8) (h : colonF l < l.length) : l.getD (colonF l) 0 = 58 := by
  induction l with
  | nil => simp at h
  | cons c l ih =>
    rw [colonF_cons] at h ⊢
    split
    · rename_i hc; subst hc; rfl
    · rename_i hc
      rw [if_neg hc] at h
      simp only [List.length_cons] at h
      simpa using ih (by omega)
/-- The first colon, found from the beginning on. -/
theorem colon_of (l : List UInt8) (k : Nat) (hb : ∀ j, j < k → l.getD j 0 ≠ 58) (h : (k < l.length ∧ l.getD k 0 = 58) ∨ k = l.length) : colonF l = k := by
  have h1 := colon_before l
  have h2 := colon_at l
  have h3 := colonF_le l
  rcases Nat.lt_trichotomy (colonF l) k with hlt | heq | hgt
  · exfalso
    have : colonF l < l.length := by omega
    exact hb _ hlt (h2 this)
  · exact heq
  · exfalso
    rcases h with ⟨h4, h5⟩ | h4
    · exact h1 k hgt h5
    · omega

def serverF (l : List UInt8) : Bool :=
  decide (l.length ≤ 255) && onlyF (isAmong [46, 45]) (l.take (colonF l)) &&
    (decide (colonF l = l.length) || (decide (l.length - colonF l ≤ 6) && onlyF isDigit (l.drop (colonF l + 1))))
def namedF (sign : UInt8) (p : Int → Bool) (l : List UInt8) : Bool :=
  decide (l.length ≤ 255) && (decide (colonF l < l.length) && (decide (0 < colonF l) && (l.getD 0 0 == sign && (onlyF p ((l.take (colonF l)).drop 1) && serverF (l.drop (colonF l + 1))))))
def nUserF (l : List UInt8) : Bool := namedF 64 (isAmong [46, 95, 61, 45, 47, 43]) l
def roomF (l : List UInt8) : Bool := namedF 33 (isCap [95, 45]) l
def keyF (l : List UInt8) : Bool := Lib.hasPrefix l [101, 100, 50, 53, 53, 49, 57, 58] && decide (l.length ≤ 255) && onlyF (isCap [95]) (l.drop 8)
def domainF (l : List UInt8) : List UInt8 := if nUserF l || roomF l then l.drop (colonF l + 1) else []

theorem serverF_bad (l : List UInt8) (h1 : colonF l < l.length) (h2 : 5 < l.length - (colonF l + 1) ∨ onlyF isDigit (l.drop (colonF l + 1)) = false) : serverF l = false := by
  unfold serverF
  rw [decide_eq_false (show ¬ colonF l = l.length from by omega)]
  rcases h2 with h2 | h2
  · rw [decide_eq_false (show ¬ l.length - colonF l ≤ 6 from by omega)]; simp
  · rw [h2]; simp
theorem serverF_good (l : List UInt8) (h : colonF l < l.length → l.length - (colonF l + 1) ≤ 5 ∧ onlyF isDigit (l.drop (colonF l + 1)) = true) : serverF l = (decide (l.length ≤ 255) && onlyF (isAmong [46, 45]) (l.take (colonF l))) := by
  unfold serverF
  have := colonF_le l
  by_cases h1 : colonF l = l.length
  · rw [decide_eq_true h1]; simp
  · obtain ⟨h2, h3⟩ := h (by omega)
    rw [decide_eq_true (show l.length - colonF l ≤ 6 from by omega), h3]; simp

/-- The reference's kinds. -/
def kindB (c k : Nat) : Bool := (k == 97 && decide (97 ≤ c ∧ c ≤ 122)) || (k == 65 && decide (65 ≤ c ∧ c ≤ 90)) || (k == 48 && decide (48 ≤ c ∧ c ≤ 57))
def kindsB (K : List UInt8) (c : Nat) : Bool := K.any fun k => kindB c k.toNat
def ofF (K G : List UInt8) (l : List UInt8) : Bool := !l.isEmpty && l.all fun c => kindsB K c.toNat || G.contains c
theorem any_take {α : Type} (p : α → Bool) (K : List α) (j : Nat) (h : j < K.length) : (K.take (j + 1)).any p = ((K.take j).any p || p K[j]) := by
  rw [List.take_add_one, List.getElem?_eq_getElem h, List.any_append]; simp
theorem ofF_bad (K G l : List UInt8) (i : Nat) (h : i < l.length) (hb : (kindsB K (l[i]).toNat || G.contains l[i]) = false) : ofF K G l = false := by
  unfold ofF
  rw [show (l.all fun c => kindsB K c.toNat || G.contains c) = false from by rw [List.all_eq_false]; exact ⟨l[i], List.getElem_mem h, by simpa using hb⟩]
  simp
theorem ofF_all (K G l : List UInt8) (h : ∀ c ∈ l, (kindsB K c.toNat || G.contains c) = true) : ofF K G l = !l.isEmpty := by
  unfold ofF; rw [List.all_eq_true.2 h]; simp
theorem contains_any (G : List UInt8) (c : UInt8) : G.contains c = G.any fun g => g == c := by
  induction G with
  | nil => rfl
  | cons g G ih =>
    rw [List.contains_cons, List.any_cons, ih]
    congr 1
    exact Bool.beq_comm

theorem serverF_nil : serverF [] = false := by decide
theorem prefix_one (l : List UInt8) (c : UInt8) : Lib.hasPrefix l [c] = (decide (0 < l.length) && l.getD 0 0 == c) := by
  cases l with
  | nil => simp [Lib.hasPrefix]
  | cons b l =>
    have h : Lib.hasPrefix (b :: l) [c] = (c == b) := by
      unfold Lib.hasPrefix; simp [List.isPrefixOf]
    rw [h]
    simp
    exact Bool.beq_comm
theorem namedF_eq (sign : UInt8) (p : Int → Bool) (l : List UInt8) :
    namedF sign p l = (Lib.hasPrefix (l.take (colonF l)) [sign] && (decide (l.length ≤ 255) && (onlyF p ((l.take (colonF l)).drop 1) && serverF (l.drop (colonF l + 1))))) := by
  have hle := colonF_le l
  rw [prefix_one]
  unfold namedF
  by_cases h : colonF l < l.length
  · have h1 : (l.take (colonF l)).length = colonF l := by rw [List.length_take]; omega
    rw [decide_eq_true h, h1]
    by_cases h0 : 0 < colonF l
    · have h2 : (l.take (colonF l)).getD 0 0 = l.getD 0 0 := by
        simp only [List.getD_eq_getElem?_getD, List.getElem?_take, h0, if_true]
      rw [h2, decide_eq_true h0]
      cases decide (l.length ≤ 255) <;> cases (l.getD 0 0 == sign) <;> simp
    · rw [decide_eq_false h0]; simp
  · rw [decide_eq_false h, List.drop_eq_nil_of_le (show l.length ≤ colonF l + 1 from by omega), serverF_nil]; simp
theorem namedF_def (sign : UInt8) (p : Int → Bool) (l : List UInt8) : namedF sign p l =
    (decide (l.length ≤ 255) && (decide (colonF l < l.length) && (decide (0 < colonF l) && (l.getD 0 0 == sign && (onlyF p ((l.take (colonF l)).drop 1) && serverF (l.drop (colonF l + 1))))))) := rfl
end Go.Proofs.YtkbcbikilgcckaaGreatDoor
