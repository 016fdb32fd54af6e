/- Texts put together: QuC QuE JvA JvU QuR QuVr Lit. -/
import Derived.Test.YtpleminoiodmgaaDoorZa48dd830e9
import Derived.Test.YtpleminoiodmgaaDoorZ6fac9017d4
import Derived.Lib.ItoaNum
import Derived.Test.YtpleminoiodmgaaDoorZ6d00e8390f
import Derived.Test.YtpleminoiodmgaaDoorZ5b48fd9a65
import Derived.Test.YtpleminoiodmgaaDoorShelf
import Derived.Lib.AppendStr
import Derived.Lib.LaidTab
import Derived.WalkLawsBesides
import Derived.Recover
import Derived.Sort.Grow
import Derived.Deep.RegionHeld3
import Derived.Deep.AppendLies
namespace Go.Proofs.YtpleminoiodmgaaDoor
open Go.Lib
set_option linter.unusedVariables false

def accF (c0 : Nat) (l : List UInt8) : Nat → Nat
  | 0 => c0
  | k + 1 => accF c0 l k * 64 + (l.getD (k + 1) 0).toNat % 64
theorem accF_lt {c0 : Nat} (l : List UInt8) (h : c0 < 32) : ∀ k, accF c0 l k < 32 * 64 ^ k
  | 0 => by simp [accF]; exact h
  | k + 1 => by
    have ih := accF_lt l h k
    rw [Nat.pow_succ]
    show accF c0 l k * 64 + (l.getD (k + 1) 0).toNat % 64 < _
    omega
theorem accF_small {c0 : Nat} (l : List UInt8) (h : c0 < 32) {k : Nat} (hk : k ≤ 3) : accF c0 l k < 8388608 := by
  have h1 := accF_lt l h k
  have : k = 0 ∨ k = 1 ∨ k = 2 ∨ k = 3 := by omega
  rcases this with rfl | rfl | rfl | rfl <;> omega

/-- what the document's way answers of a rune of N bytes -/
structure Cls (l : List UInt8) (c0 N L : Nat) : Prop where
  short : l.length < N → runeF l = (0, 0)
  bad : ∀ j, 1 ≤ j → j < N → contB (l.getD j 0).toNat = false → runeF l = (0, 0)
  out : okC L (accF c0 l (N - 1)) = false → runeF l = (0, 0)
  good : N ≤ l.length → (∀ j, 1 ≤ j → j < N → contB (l.getD j 0).toNat = true) → okC L (accF c0 l (N - 1)) = true → runeF l = (accF c0 l (N - 1), N)

theorem cls_2 (b : UInt8) (t : List UInt8) (h : 192 ≤ b.toNat ∧ b.toNat < 224) : Cls (b :: t) (b.toNat % 32) 2 128 := by
  have e := (runeF_N (l := b :: t) (by simp)).trans (ref_2 (b0 := b.toNat) h)
  have ea : accF (b.toNat % 32) (b :: t) (2 - 1) = b.toNat % 32 * 64 + ((b :: t).getD 1 0).toNat % 64 := rfl
  rw [← ea] at e
  refine ⟨fun hs => ?_, fun j h1 h2 hb => ?_, fun ho => ?_, fun hs hg ho => ?_⟩
  · rw [e, if_neg (by omega)]
  · have : j = 1 := by omega
    subst this
    rw [e, hb]; simp
  · rw [e, ho]; simp
  · rw [e, if_pos ⟨hs, hg 1 (by omega) (by omega), ho⟩]
theorem cls_3 (b : UInt8) (t : List UInt8) (h : 224 ≤ b.toNat ∧ b.toNat < 240) : Cls (b :: t) (b.toNat % 16) 3 2048 := by
  have e := (runeF_N (l := b :: t) (by simp)).trans (ref_3 (b0 := b.toNat) h)
  have ea : accF (b.toNat % 16) (b :: t) (3 - 1) = (b.toNat % 16 * 64 + ((b :: t).getD 1 0).toNat % 64) * 64 + ((b :: t).getD 2 0).toNat % 64 := rfl
  rw [← ea] at e
  refine ⟨fun hs => ?_, fun j h1 h2 hb => ?_, fun ho => ?_, fun hs hg ho => ?_⟩
  · rw [e, if_neg (by omega)]
  · have : j = 1 ∨ j = 2 := by omega
    rcases this with rfl | rfl <;> (rw [e, hb]; simp)
  · rw [e, ho]; simp
  · rw [e, if_pos ⟨hs, hg 1 (by omega) (by omega), hg 2 (by omega) (by omega), ho⟩]
theorem cls_4 (b : UInt8) (t : List UInt8) (h : 240 ≤ b.toNat ∧ b.toNat < 248) : Cls (b :: t) (b.toNat % 8) 4 65536 := by
  have e := (runeF_N (l := b :: t) (by simp)).trans (ref_4 (b0 := b.toNat) h)
  have ea : accF (b.toNat % 8) (b :: t) (4 - 1) = ((b.toNat % 8 * 64 + ((b :: t).getD 1 0).toNat % 64) * 64 + ((b :: t).getD 2 0).toNat % 64) * 64 + ((b :: t).getD 3 0).toNat % 64 := rfl
  rw [← ea] at e
  refine ⟨fun hs => ?_, fun j h1 h2 hb => ?_, fun ho => ?_, fun hs hg ho => ?_⟩
  · rw [e, if_neg (by omega)]
  · have : j = 1 ∨ j = 2 ∨ j = 3 := by omega
    rcases this with rfl | rfl | rfl <;> (rw [e, hb]; simp)
  · rw [e, ho]; simp
  · rw [e, if_pos ⟨hs, hg 1 (by omega) (by omega), hg 2 (by omega) (by omega), hg 3 (by omega) (by omega), ho⟩]
theorem cls_1 (b : UInt8) (t : List UInt8) (h : b.toNat < 128) : runeF (b :: t) = (b.toNat, 1) := by
  rw [runeF_N (by simp)]; exact ref_1 h
theorem cls_0 (b : UInt8) (t : List UInt8) (h : 128 ≤ b.toNat ∧ b.toNat < 192 ∨ 248 ≤ b.toNat) : runeF (b :: t) = (0, 0) := by
  rw [runeF_N (by simp)]; exact ref_0 b.toNat_lt h
end Go.Proofs.YtpleminoiodmgaaDoor
namespace Go.Proofs.YtpleminoiodmgaaDoor
open Go.Lib
set_option linter.unusedVariables false

def hexB (n : Nat) : UInt8 := if n < 10 then UInt8.ofNat (48 + n) else UInt8.ofNat (87 + n)
def escB (c : UInt8) : List UInt8 :=
  if c = 34 ∨ c = 92 then [92, c]
  else if c = 8 then [92, 98] else if c = 9 then [92, 116] else if c = 10 then [92, 110] else if c = 12 then [92, 102] else if c = 13 then [92, 114]
  else if c.toNat < 32 then [92, 117, 48, 48, hexB (c.toNat / 16), hexB (c.toNat % 16)]
  else [c]
def escL (l : List UInt8) : List UInt8 := l.flatMap escB
def putF (l : List UInt8) : List UInt8 := if validD l then 34 :: escL l ++ [34] else []
theorem escL_take (l : List UInt8) (i : Nat) (h : i < l.length) : escL (l.take (i + 1)) = escL (l.take i) ++ escB l[i] := by
  unfold escL
  rw [List.take_add_one, List.getElem?_eq_getElem h, Option.toList_some, List.flatMap_append, List.flatMap_cons, List.flatMap_nil, List.append_nil]
theorem escB_len (c : UInt8) : (escB c).length ≤ 6 := by
  unfold escB
  by_cases h1 : c = 34 ∨ c = 92
  · rw [if_pos h1]; simp only [List.length_cons, List.length_nil]; omega
  rw [if_neg h1]
  repeat' split
  all_goals (simp only [List.length_cons, List.length_nil]; omega)
theorem escL_len : ∀ l : List UInt8, (escL l).length ≤ 6 * l.length
  | [] => by simp [escL]
  | c :: l => by
    have h1 := escB_len c
    have h2 := escL_len l
    simp only [escL, List.flatMap_cons, List.length_append, List.length_cons] at *
    omega
theorem escL_take_len (l : List UInt8) (i : Nat) (h : i ≤ l.length) : (escL (l.take i)).length ≤ 6 * i := by
  have := escL_len (l.take i)
  rw [List.length_take] at this
  omega
theorem escB_plain (c : UInt8) (h : 128 ≤ c.toNat) : escB c = [c] := by
  have e : ∀ d : UInt8, d.toNat < 128 → c ≠ d := fun d hd hc => by rw [hc] at h; omega
  unfold escB
  rw [if_neg (by intro h; rcases h with h | h; exact e 34 (by decide) h; exact e 92 (by decide) h), if_neg (e 8 (by decide)), if_neg (e 9 (by decide)), if_neg (e 10 (by decide)), if_neg (e 12 (by decide)), if_neg (e 13 (by decide)), if_neg (by omega)]
theorem hex_at (i : Nat) (h : i < 16) : (([48, 49, 50, 51, 52, 53, 54, 55, 56, 57, 97, 98, 99, 100, 101, 102] : List UInt8).getD i 0) = hexB i := by
  have : ∀ j : Fin 16, (([48, 49, 50, 51, 52, 53, 54, 55, 56, 57, 97, 98, 99, 100, 101, 102] : List UInt8).getD j.val 0) = hexB j.val := by decide
  exact this ⟨i, h⟩
end Go.Proofs.YtpleminoiodmgaaDoor
namespace Go.Proofs.YtpleminoiodmgaaDoor
set_option linter.unusedVariables false

abbrev Res := Except Int (List UInt8)
def lng (b : List UInt8) : Res := if b.length ≤ 65536 then .ok b else .error 3
/-- A text between quotes behind bytes. -/
def txt (b s : List UInt8) : Res := if 65536 < s.length then .error 3 else if Lib.validD s then lng (b ++ putF s) else .error 1
def Res.then (r : Res) (f : List UInt8 → Res) : Res := match r with | .ok b => f b | .error e => .error e
/-- Has a value nothing but what its kind has? -/
def Jv.bare (v : Jv) : Bool :=
  (v.kd == 1 || !v.is) && (v.kd == 2 || v.n == 0) && (v.kd == 3 || v.s.isEmpty) && (v.kd == 4 || v.l.isNil) && (v.kd == 5 || v.m.isNil) && decide (0 ≤ v.kd) && decide (v.kd ≤ 5) && decide (-9007199254740991 ≤ v.n) && decide (v.n ≤ 9007199254740991)
/-- A value that has no parts, or one with its parts' writers. -/
def wrB (v : Jv) (deep : Nat) (wl wm : List UInt8 → Res) (b : List UInt8) : Res :=
  if v.bare = false then .error 1
  else if v.kd = 0 then lng (b ++ [110, 117, 108, 108])
  else if v.kd = 1 then lng (b ++ (if v.is then [116, 114, 117, 101] else [102, 97, 108, 115, 101]))
  else if v.kd = 2 then lng (b ++ Lib.itoa v.n)
  else if v.kd = 3 then txt b v.s
  else if 32 ≤ deep then .error 5
  else if v.kd = 4 then (lng (b ++ [91])).then fun b => (wl b).then fun b => lng (b ++ [93])
  else (lng (b ++ [123])).then fun b => (wm b).then fun b => lng (b ++ [125])
/-- Go's order of texts. -/
def leqB (a b : List UInt8) : Bool := Op.bytesLess a b || a == b
/-- What stands ahead of a value in its row: a comma, a key that is more than the last one, a colon. -/
def wrK (mem : Bool) (prev : Option (List UInt8)) (k : List UInt8) (b : List UInt8) : Res :=
  Res.then (match prev with | none => .ok b | some p => (lng (b ++ [44])).then fun b => if mem && leqB k p then .error 1 else .ok b)
    fun b => if mem then (txt b k).then fun b => lng (b ++ [58]) else .ok b
/-- A row's values, with all that stands between them. -/
def wrF (mem : Bool) : JT → Nat → Option (List UInt8) → List UInt8 → Res
  | .nil, _, _, b => .ok b
  | .cons k kd is n s l m r, deep, prev, b =>
    (wrK mem prev k b).then fun b => (wrB ⟨kd, is, n, s, l, m⟩ deep (fun b => wrF false l (deep + 1) none b) (fun b => wrF true m (deep + 1) none b) b).then fun b => wrF mem r deep (some k) b
/-- A value's text behind bytes. -/
def wrV (v : Jv) (deep : Nat) (b : List UInt8) : Res := wrB v deep (fun b => wrF false v.l (deep + 1) none b) (fun b => wrF true v.m (deep + 1) none b) b
theorem wrF_one (mem : Bool) (k : List UInt8) (v : Jv) (r : JT) (deep : Nat) (prev : Option (List UInt8)) (b : List UInt8) :
    wrF mem (.one k v r) deep prev b = (wrK mem prev k b).then fun b => (wrV v deep b).then fun b => wrF mem r deep (some k) b := rfl
/-- The key ahead of the i-th. -/
def prevK (t : JT) (i : Nat) : Option (List UInt8) := if i = 0 then none else some (t.fall (i - 1)).key
theorem wrF_step (mem : Bool) (t : JT) (i deep : Nat) (b : List UInt8) (h : i < t.ext) :
    wrF mem (t.fall i) deep (prevK t i) b = (wrK mem (prevK t i) (t.fall i).key b).then fun b => (wrV (t.fall i).val deep b).then fun b => wrF mem (t.fall (i + 1)) deep (prevK t (i + 1)) b := by
  have e : prevK t (i + 1) = some (t.fall i).key := by simp [prevK]
  rw [e]
  conv => lhs; rw [t.fall_of_lt i h]
  exact wrF_one mem _ _ _ _ _ _
theorem wrF_end (mem : Bool) (t : JT) (deep : Nat) (p : Option (List UInt8)) (b : List UInt8) : wrF mem (t.fall t.ext) deep p b = .ok b := by
  rw [JT.fall_all t _ (Nat.le_refl _)]; rfl
/-- Canon. -/
def canF (v : Jv) : List UInt8 × Int := match wrV v 0 [] with | .ok b => (b, 0) | .error e => ([], e)
end Go.Proofs.YtpleminoiodmgaaDoor
namespace Go.Proofs.YtpleminoiodmgaaDoor
open Go.ChangeShapes Go.WideShapes Go.ChangeAt Go.RowKit Go.IntWalk
set_option linter.unusedVariables false
set_option maxRecDepth 100000

theorem natB (n : Nat) : ((n : Int) == 0) = decide (n = 0) := by
  rw [Bool.eq_iff_iff]; simp
set_option maxHeartbeats 4000000 in
theorem refbare_calls (v : Jv) (A B : Option Addr) (nl cl nm cm : Nat) (w : World) (h1 : Room nl cl v.l.ext) (h2 : Room nm cm v.m.ext) :
    Calls Tryd.prog 58 #[.agg #[.int .i64 v.kd, .bool v.is, .int .i64 v.n, .string ⟨v.s.toArray⟩, .slice A nl cl, .slice B nm cm]] w fun e w' => e = .returned (.bool v.bare) ∧ Below w.heap.size w w' := by
  obtain ⟨kd, is, n, s, l, m⟩ := v
  obtain ⟨rfl, _, _⟩ := h1
  obtain ⟨rfl, _, _⟩ := h2
  dsimp only
  rcases (show kd = 0 ∨ kd = 1 ∨ kd = 2 ∨ kd = 3 ∨ kd = 4 ∨ kd = 5 ∨ (¬ kd = 0 ∧ ¬ kd = 1 ∧ ¬ kd = 2 ∧ ¬ kd = 3 ∧ ¬ kd = 4 ∧ ¬ kd = 5) by omega) with rfl | rfl | rfl | rfl | rfl | rfl | ⟨k0, k1, k2, k3, k4, k5⟩
  all_goals
    go_enter Tryd.func58, Tryd.ntmps58
    go_wp2
    all_goals
      go_ret
      refine ⟨?_, ?_⟩
      · first
          | (simp [Jv.bare, JT.isNil_eq, *]; done)
          | (simp [Jv.bare, JT.isNil_eq, *]; intros; omega)
          | (simp [Jv.bare, JT.isNil_eq, natB, *]; done)
      · first
          | exact ((Below.refl _ _).alloc (Nat.le_refl _) _).alloc (by simp) _
          | exact (((Below.refl _ _).alloc (Nat.le_refl _) _).alloc (by simp) _).setCell (by simp) _
theorem lng_ok {b : List UInt8} (h : b.length ≤ 65536) : lng b = .ok b := by unfold lng; rw [if_pos h]
theorem lng_bad {b : List UInt8} (h : ¬ b.length ≤ 65536) : lng b = .error 3 := by unfold lng; rw [if_neg h]
theorem lng_test {b : List UInt8} {n : Nat} (hn : Hid (n = b.length)) (h : b.length ≤ 65536) : decide ((65536 : Int) < (n : Int)) = false := by
  have := hn.out; simp; omega
theorem lng_test' {b : List UInt8} {n : Nat} (hn : Hid (n = b.length)) (h : ¬ b.length ≤ 65536) : decide ((65536 : Int) < (n : Int)) = true := by
  have := hn.out; simp; omega
theorem ne_of_turn {w : World} {g : Nat} {v v1 : Value} (h : v.ownBlock ≠ some g) (hg : g < w.heap.size) (ch : v1.ownBlock = v.ownBlock ∨ v1.ownBlock = none ∨ ∃ k, v1.ownBlock = some k ∧ w.heap.size ≤ k) : v1.ownBlock ≠ some g := by
  rcases ch with e | e | ⟨k, e, hk⟩
  · rw [e]; exact h
  · rw [e]; simp
  · rw [e]; simp; omega
theorem Blk.of_gb {w w1 : World} {g : Nat} {T : TypeId} {cs : List Value} {row : Option Nat} (h : Blk w g T cs) (hg : w.grownBy w1 row) (hne : row ≠ some g) : Blk w1 g T cs := (hg.block g h.lt (fun e => hne e.symm)).trans h
theorem escB_le (c : UInt8) : (escB c).length ≤ 6 := by
  unfold escB
  repeat' split
  all_goals simp
theorem escL_le (l : List UInt8) : (escL l).length ≤ 6 * l.length := by
  unfold escL
  induction l with
  | nil => simp
  | cons c l ih => rw [List.flatMap_cons, List.length_append, List.length_cons]; have := escB_le c; omega
theorem putF_le (l : List UInt8) : (putF l).length ≤ 6 * l.length + 2 := by
  have := escL_le l
  unfold putF
  split
  · simp; omega
  · simp
theorem gPow : Tryd.prog.globalNamed "internal/strconv.uint64pow10" = some 1 := by kernel_rfl
/-- The library's powers of ten lie below base. -/
def PowT (base : Nat) (w : World) : Prop := 1 < base ∧ Lib.TabIs Tryd.prog w "internal/strconv.uint64pow10" .u64 Lib.pow10Tab
theorem PowT.blw {base : Nat} {w w' : World} (h : PowT base w) (b : Below base w w') : PowT base w' := by
  refine ⟨h.1, ?_⟩
  have h2 := h.2
  unfold Lib.TabIs World.var? at h2 ⊢
  rw [gPow] at h2 ⊢
  simp only [Option.bind_some] at h2 ⊢
  rw [b.block _ h.1]
  exact h2
theorem then_ok (b : List UInt8) (f : List UInt8 → Res) : Res.then (.ok b) f = f b := rfl
theorem then_bad (x : Int) (f : List UInt8 → Res) : Res.then (.error x) f = .error x := rfl
theorem wrK_l0 (k b : List UInt8) : wrK false none k b = .ok b := rfl
theorem wrK_lS (p k b : List UInt8) : wrK false (some p) k b = lng (b ++ [44]) := by
  unfold wrK
  cases lng (b ++ [44]) <;> rfl
theorem prevK_pos {t : JT} {i : Nat} (h : 0 < i) : prevK t i = some (t.fall (i - 1)).key := by unfold prevK; rw [if_neg (by omega)]
/-- A list's text. -/
def wrL (t : JT) (deep : Nat) (b : List UInt8) : Res := (if 32 ≤ deep then .error 5 else lng (b ++ [91])).then fun b => (wrF false t (deep + 1) none b).then fun b => lng (b ++ [93])
/-- Where the loop stands: of what is still to come the whole's answer is left. -/
def LStep (R : Res) (mem : Bool) (t : JT) (deep k : Nat) (b : List UInt8) : Prop := R = wrF mem (t.fall k) deep (prevK t k) b
/-- A map's text. -/
def wrM (t : JT) (deep : Nat) (b : List UInt8) : Res := (if 32 ≤ deep then .error 5 else lng (b ++ [123])).then fun b => (wrF true t (deep + 1) none b).then fun b => lng (b ++ [125])
/-- A member behind its comma. -/
def wrT (t : JT) (k deep : Nat) (ek : List UInt8) (ev : Jv) (b : List UInt8) : Res :=
  (txt b ek).then fun b => (lng (b ++ [58])).then fun b => (wrV ev (deep + 1) b).then fun b => wrF true (t.fall (k + 1)) (deep + 1) (prevK t (k + 1)) b
theorem wrK_m0 (t : JT) (k deep : Nat) (ek : List UInt8) (ev : Jv) (b : List UInt8) : ((wrK true none ek b).then fun b => (wrV ev (deep + 1) b).then fun b => wrF true (t.fall (k + 1)) (deep + 1) (prevK t (k + 1)) b) = wrT t k deep ek ev b := by
  unfold wrK wrT
  simp only [then_ok, if_true]
  cases txt b ek with
  | error x => rfl
  | ok b => simp only [then_ok]
theorem wrK_mS (t : JT) (k deep : Nat) (p ek : List UInt8) (ev : Jv) (b : List UInt8) : ((wrK true (some p) ek b).then fun b => (wrV ev (deep + 1) b).then fun b => wrF true (t.fall (k + 1)) (deep + 1) (prevK t (k + 1)) b) =
    (lng (b ++ [44])).then fun b => if leqB ek p then .error 1 else wrT t k deep ek ev b := by
  unfold wrK wrT
  cases lng (b ++ [44]) with
  | error x => rfl
  | ok b =>
    simp only [then_ok, Bool.true_and, if_true]
    cases leqB ek p with
    | true => rfl
    | false =>
      simp only [Bool.false_eq_true, if_false, then_ok]
      cases txt b ek with
      | error x => rfl
      | ok b => simp only [then_ok]
theorem below_grow {w w' : World} (h : ∃ k os, w' = Sort.grow (w.drewN k) os) : Below w.heap.size w w' := by
  obtain ⟨k, os, rfl⟩ := h
  exact ⟨rfl, rfl, rfl, by simp [Sort.grow], fun i hi => by simp [Sort.grow, Array.getElem?_append, hi]⟩
theorem decDigits_le (k : Nat) : ∀ u, u < 10 ^ (k + 1) → (Lib.decDigits u).length ≤ k + 1 := by
  induction k with
  | zero => intro u h; rw [Lib.decDigits, dif_pos (by simpa using h)]; simp
  | succ k ih =>
    intro u h
    rw [Lib.decDigits]
    split
    · simp
    · rw [List.length_append]
      have := ih (u / 10) (by rw [Nat.pow_succ] at h; omega)
      simp; omega
theorem itoa_le (n : Int) (h0 : -9223372036854775808 ≤ n) (h1 : n ≤ 9223372036854775807) : (Lib.itoa n).length ≤ 21 := by
  unfold Lib.itoa
  split
  · have := decDigits_le 19 n.natAbs (by simp; omega)
    simp; omega
  · have := decDigits_le 19 n.toNat (by simp; omega)
    omega
theorem itoa_calls (base : Nat) (n : Int) (h0 : -9223372036854775808 ≤ n) (h1 : n ≤ 9223372036854775807) (w : World) (hT : PowT base w) :
    Calls Tryd.prog 60 #[.int .i64 n] w fun e w' => e = .returned (.string ⟨(Lib.itoa n).toArray⟩) ∧ Below w.heap.size w w' :=
  (Tryd.strconv_Itoa n h0 h1 w hT.2).mono fun e w' ⟨h1, h2⟩ => ⟨h1, below_grow h2⟩
theorem fmtB (b : Bool) : Lib.formatBool b = if b then [116, 114, 117, 101] else [102, 97, 108, 115, 101] := by cases b <;> decide
theorem bare_kd {v : Jv} (h : v.bare = true) : v.kd = 0 ∨ v.kd = 1 ∨ v.kd = 2 ∨ v.kd = 3 ∨ v.kd = 4 ∨ v.kd = 5 := by
  unfold Jv.bare at h
  simp only [Bool.and_eq_true, decide_eq_true_eq] at h
  omega
theorem wrV_bad {v : Jv} (h : v.bare = false) (deep : Nat) (b : List UInt8) : wrV v deep b = .error 1 := by unfold wrV wrB; rw [if_pos h]
theorem wrV_0 {v : Jv} (h : v.bare = true) (hk : v.kd = 0) (deep : Nat) (b : List UInt8) : wrV v deep b = lng (b ++ [110, 117, 108, 108]) := by
  unfold wrV wrB; rw [hk, h]; simp
theorem wrV_1 {v : Jv} (h : v.bare = true) (hk : v.kd = 1) (deep : Nat) (b : List UInt8) : wrV v deep b = lng (b ++ (if v.is then [116, 114, 117, 101] else [102, 97, 108, 115, 101])) := by
  unfold wrV wrB; rw [hk, h]; simp
theorem wrV_2 {v : Jv} (h : v.bare = true) (hk : v.kd = 2) (deep : Nat) (b : List UInt8) : wrV v deep b = lng (b ++ Lib.itoa v.n) := by
  unfold wrV wrB; rw [hk, h]; simp
theorem wrV_3 {v : Jv} (h : v.bare = true) (hk : v.kd = 3) (deep : Nat) (b : List UInt8) : wrV v deep b = txt b v.s := by
  unfold wrV wrB; rw [hk, h]; simp
theorem wrV_4 {v : Jv} (h : v.bare = true) (hk : v.kd = 4) (deep : Nat) (b : List UInt8) : wrV v deep b = wrL v.l deep b := by
  unfold wrV wrB wrL; rw [hk, h]
  by_cases hd : 32 ≤ deep
  · simp [hd, then_bad]
  · simp [hd]
theorem wrV_5 {v : Jv} (h : v.bare = true) (hk : v.kd = 5) (deep : Nat) (b : List UInt8) : wrV v deep b = wrM v.m deep b := by
  unfold wrV wrB wrM; rw [hk, h]
  by_cases hd : 32 ≤ deep
  · simp [hd, then_bad]
  · simp [hd]
theorem below_drewN {B : Nat} {a w : World} (h : Below B a w) (n : Nat) : Below B a (w.drewN n) := ⟨h.os, h.tape, h.output, h.size, h.block⟩
/-- What Canon answers. -/
def CanPost (v : Jv) (w : World) (e : Ending) (w' : World) : Prop := e = .returned (.tuple #[.string ⟨(canF v).1.toArray⟩, .int .i64 (canF v).2]) ∧ Below w.heap.size w w'
end Go.Proofs.YtpleminoiodmgaaDoor
namespace Go.Proofs.YtpleminoiodmgaaDoor
open Go.ChangeShapes Go.WideShapes Go.ChangeAt Go.RowKit Go.IntWalk
set_option linter.unusedVariables false

def TwoI (p : Nat × Nat) (w : World) (e : Ending) (w' : World) : Prop := e = .returned (.tuple #[.int .i64 (p.1 : Nat), .int .i64 (p.2 : Nat)]) ∧ w = w'
theorem TwoI.of {p q : Nat × Nat} {w : World} (h : q = p) : TwoI q w (.returned (.tuple #[.int .i64 (p.1 : Nat), .int .i64 (p.2 : Nat)])) w := by subst h; exact ⟨rfl, rfl⟩

set_option maxRecDepth 100000 in
set_option maxHeartbeats 2000000 in
theorem rune_low (b : UInt8) (t : List UInt8) (w : World) (hl : (b :: t).length ≤ 1000000) (h : b.toNat < 128) :
    Calls Tryd.prog 82 #[.string ⟨(b :: t).toArray⟩] w (TwoI (runeF (b :: t)) w) := by
  have HE := Lib.hid (cls_1 b t h)
  go_enter Tryd.func82, Tryd.ntmps82
  go_wp2
  go_ret2
  exact TwoI.of HE.out

set_option maxRecDepth 100000 in
set_option maxHeartbeats 2000000 in
theorem rune_none (b : UInt8) (t : List UInt8) (w : World) (hl : (b :: t).length ≤ 1000000) (h : 128 ≤ b.toNat ∧ b.toNat < 192 ∨ 248 ≤ b.toNat) :
    Calls Tryd.prog 82 #[.string ⟨(b :: t).toArray⟩] w (TwoI (runeF (b :: t)) w) := by
  have HE := Lib.hid (cls_0 b t h)
  have hlt := b.toNat_lt
  go_enter Tryd.func82, Tryd.ntmps82
  go_wp2
  all_goals (go_ret2; exact TwoI.of (p := (0, 0)) HE.out)
set_option maxRecDepth 100000 in
set_option maxHeartbeats 4000000 in
theorem rune_2 (b : UInt8) (t : List UInt8) (w : World) (hl : (b :: t).length ≤ 1000000) (h : 192 ≤ b.toNat ∧ b.toNat < 224) :
    Calls Tryd.prog 82 #[.string ⟨(b :: t).toArray⟩] w (TwoI (runeF (b :: t)) w) := by
  have HC := Lib.hid (cls_2 b t h)
  have hc0 : b.toNat % 32 < 32 := by omega
  have hlt := b.toNat_lt
  by_cases hs : t.length + 1 < 2
  · have HE := Lib.hid (HC.out.short hs)
    go_enter Tryd.func82, Tryd.ntmps82
    go_wp2
    all_goals (go_ret2; exact TwoI.of (p := (0, 0)) HE.out)
  · go_enter Tryd.func82, Tryd.ntmps82
    go_wp2
    go_loop [4, 7] (fun c v => ∃ k : Nat, k ≤ 2 - 1 ∧ v = .int .i64 ((k + 1 : Nat) : Int) ∧ c = .int .i64 (accF (b.toNat % 32) (b :: t) k : Nat) ∧ Hid (∀ j, 1 ≤ j → j < k + 1 → contB ((b :: t).getD j 0).toNat = true)) (fun _ v => 2 - (intOf v).toNat)
    case atStart => exact ⟨0, by omega, rfl, by show Value.int _ _ = Value.int _ _; congr 1, fun j h1 h2 => by omega⟩
    case round =>
      obtain ⟨k, hk, rfl, rfl, hall⟩ := hrel
      obtain ⟨C, hC⟩ : ∃ C, accF (b.toNat % 32) (b :: t) k = C := ⟨_, rfl⟩
      have hCs := accF_small (b :: t) hc0 (k := k) (by omega)
      rw [hC] at hCs
      rw [hC]
      have HC2 := Lib.hid hC; clear hC
      by_cases hlt2 : k < 2 - 1
      · have hin : k + 1 < (b :: t).length := by rw [List.length_cons]; omega
        obtain ⟨d, hd⟩ : ∃ d, (b :: t)[k + 1] = d := ⟨_, rfl⟩
        have hdg : Hid ((b :: t).getD (k + 1) 0 = d) := by show _ = _; rw [List.getD_eq_getElem?_getD, List.getElem?_eq_getElem hin]; exact hd
        have hdl := d.toNat_lt
        by_cases hb : 128 ≤ d.toNat ∧ d.toNat < 192
        · go_wp2
          go_round
          case rel =>
            have e : accF (b.toNat % 32) (b :: t) (k + 1) = C * 64 + d.toNat % 64 := by
              show accF (b.toNat % 32) (b :: t) k * 64 + ((b :: t).getD (k + 1) 0).toNat % 64 = _
              rw [HC2.out, hdg.out]
            refine ⟨_, _, _, _, ⟨k + 1, by omega, by go_num, ?_, fun j h1 h2 => ?_⟩, rfl, rfl, rfl, rfl⟩
            · rw [e]; congr 1
            · rw [← List.getD_eq_getElem?_getD]
              by_cases h : j < k + 1
              · exact hall.out j h1 h
              · rw [show j = k + 1 from by omega, hdg.out]; simp [contB]; omega
          case measure => simp [intOf]; omega
        · have HE := Lib.hid (HC.out.bad (k + 1) (by omega) (by omega) (by rw [hdg.out]; simp only [contB]; exact decide_eq_false hb))
          go_wp2
          all_goals (go_ret2; exact TwoI.of (p := (0, 0)) HE.out)
      · have hk' : k = 2 - 1 := by omega
        cases hok : okC 128 C with
        | false =>
          have HE := Lib.hid (HC.out.out (by rw [← hk', HC2.out]; exact hok))
          simp only [okC, decide_eq_false_iff_not] at hok
          go_wp2
          all_goals first | (exfalso; omega) | (go_ret2; exact TwoI.of (p := (0, 0)) HE.out)
        | true =>
          have HE := Lib.hid (HC.out.good (by rw [List.length_cons]; omega) (by rw [← show k + 1 = 2 from by omega]; exact hall.out) (by rw [← hk', HC2.out]; exact hok))
          rw [← hk', HC2.out] at HE
          simp only [okC, decide_eq_true_eq] at hok
          go_wp2
          all_goals first | (exfalso; omega) | (go_ret2; exact TwoI.of (p := (C, 2)) HE.out)

set_option maxRecDepth 100000 in
set_option maxHeartbeats 4000000 in
theorem rune_3 (b : UInt8) (t : List UInt8) (w : World) (hl : (b :: t).length ≤ 1000000) (h : 224 ≤ b.toNat ∧ b.toNat < 240) :
    Calls Tryd.prog 82 #[.string ⟨(b :: t).toArray⟩] w (TwoI (runeF (b :: t)) w) := by
  have HC := Lib.hid (cls_3 b t h)
  have hc0 : b.toNat % 16 < 32 := by omega
  have hlt := b.toNat_lt
  by_cases hs : t.length + 1 < 3
  · have HE := Lib.hid (HC.out.short hs)
    go_enter Tryd.func82, Tryd.ntmps82
    go_wp2
    all_goals (go_ret2; exact TwoI.of (p := (0, 0)) HE.out)
  · go_enter Tryd.func82, Tryd.ntmps82
    go_wp2
    go_loop [4, 7] (fun c v => ∃ k : Nat, k ≤ 3 - 1 ∧ v = .int .i64 ((k + 1 : Nat) : Int) ∧ c = .int .i64 (accF (b.toNat % 16) (b :: t) k : Nat) ∧ Hid (∀ j, 1 ≤ j → j < k + 1 → contB ((b :: t).getD j 0).toNat = true)) (fun _ v => 3 - (intOf v).toNat)
    case atStart => exact ⟨0, by omega, rfl, by show Value.int _ _ = Value.int _ _; congr 1, fun j h1 h2 => by omega⟩
    case round =>
      obtain ⟨k, hk, rfl, rfl, hall⟩ := hrel
      obtain ⟨C, hC⟩ : ∃ C, accF (b.toNat % 16) (b :: t) k = C := ⟨_, rfl⟩
      have hCs := accF_small (b :: t) hc0 (k := k) (by omega)
      rw [hC] at hCs
      rw [hC]
      have HC2 := Lib.hid hC; clear hC
      by_cases hlt2 : k < 3 - 1
      · have hin : k + 1 < (b :: t).length := by rw [List.length_cons]; omega
        obtain ⟨d, hd⟩ : ∃ d, (b :: t)[k + 1] = d := ⟨_, rfl⟩
        have hdg : Hid ((b :: t).getD (k + 1) 0 = d) := by show _ = _; rw [List.getD_eq_getElem?_getD, List.getElem?_eq_getElem hin]; exact hd
        have hdl := d.toNat_lt
        by_cases hb : 128 ≤ d.toNat ∧ d.toNat < 192
        · go_wp2
          go_round
          case rel =>
            have e : accF (b.toNat % 16) (b :: t) (k + 1) = C * 64 + d.toNat % 64 := by
              show accF (b.toNat % 16) (b :: t) k * 64 + ((b :: t).getD (k + 1) 0).toNat % 64 = _
              rw [HC2.out, hdg.out]
            refine ⟨_, _, _, _, ⟨k + 1, by omega, by go_num, ?_, fun j h1 h2 => ?_⟩, rfl, rfl, rfl, rfl⟩
            · rw [e]; congr 1
            · rw [← List.getD_eq_getElem?_getD]
              by_cases h : j < k + 1
              · exact hall.out j h1 h
              · rw [show j = k + 1 from by omega, hdg.out]; simp [contB]; omega
          case measure => simp [intOf]; omega
        · have HE := Lib.hid (HC.out.bad (k + 1) (by omega) (by omega) (by rw [hdg.out]; simp only [contB]; exact decide_eq_false hb))
          go_wp2
          all_goals (go_ret2; exact TwoI.of (p := (0, 0)) HE.out)
      · have hk' : k = 3 - 1 := by omega
        cases hok : okC 2048 C with
        | false =>
          have HE := Lib.hid (HC.out.out (by rw [← hk', HC2.out]; exact hok))
          simp only [okC, decide_eq_false_iff_not] at hok
          go_wp2
          all_goals first | (exfalso; omega) | (go_ret2; exact TwoI.of (p := (0, 0)) HE.out)
        | true =>
          have HE := Lib.hid (HC.out.good (by rw [List.length_cons]; omega) (by rw [← show k + 1 = 3 from by omega]; exact hall.out) (by rw [← hk', HC2.out]; exact hok))
          rw [← hk', HC2.out] at HE
          simp only [okC, decide_eq_true_eq] at hok
          go_wp2
          all_goals first | (exfalso; omega) | (go_ret2; exact TwoI.of (p := (C, 3)) HE.out)

set_option maxRecDepth 100000 in
set_option maxHeartbeats 4000000 in
theorem rune_4 (b : UInt8) (t : List UInt8) (w : World) (hl : (b :: t).length ≤ 1000000) (h : 240 ≤ b.toNat ∧ b.toNat < 248) :
    Calls Tryd.prog 82 #[.string ⟨(b :: t).toArray⟩] w (TwoI (runeF (b :: t)) w) := by
  have HC := Lib.hid (cls_4 b t h)
  have hc0 : b.toNat % 8 < 32 := by omega
  have hlt := b.toNat_lt
  by_cases hs : t.length + 1 < 4
  · have HE := Lib.hid (HC.out.short hs)
    go_enter Tryd.func82, Tryd.ntmps82
    go_wp2
    all_goals (go_ret2; exact TwoI.of (p := (0, 0)) HE.out)
  · go_enter Tryd.func82, Tryd.ntmps82
    go_wp2
    go_loop [4, 7] (fun c v => ∃ k : Nat, k ≤ 4 - 1 ∧ v = .int .i64 ((k + 1 : Nat) : Int) ∧ c = .int .i64 (accF (b.toNat % 8) (b :: t) k : Nat) ∧ Hid (∀ j, 1 ≤ j → j < k + 1 → contB ((b :: t).getD j 0).toNat = true)) (fun _ v => 4 - (intOf v).toNat)
    case atStart => exact ⟨0, by omega, rfl, by show Value.int _ _ = Value.int _ _; congr 1, fun j h1 h2 => by omega⟩
    case round =>
      obtain ⟨k, hk, rfl, rfl, hall⟩ := hrel
      obtain ⟨C, hC⟩ : ∃ C, accF (b.toNat % 8) (b :: t) k = C := ⟨_, rfl⟩
      have hCs := accF_small (b :: t) hc0 (k := k) (by omega)
      rw [hC] at hCs
      rw [hC]
      have HC2 := Lib.hid hC; clear hC
      by_cases hlt2 : k < 4 - 1
      · have hin : k + 1 < (b :: t).length := by rw [List.length_cons]; omega
        obtain ⟨d, hd⟩ : ∃ d, (b :: t)[k + 1] = d := ⟨_, rfl⟩
        have hdg : Hid ((b :: t).getD (k + 1) 0 = d) := by show _ = _; rw [List.getD_eq_getElem?_getD, List.getElem?_eq_getElem hin]; exact hd
        have hdl := d.toNat_lt
        by_cases hb : 128 ≤ d.toNat ∧ d.toNat < 192
        · go_wp2
          go_round
          case rel =>
            have e : accF (b.toNat % 8) (b :: t) (k + 1) = C * 64 + d.toNat % 64 := by
              show accF (b.toNat % 8) (b :: t) k * 64 + ((b :: t).getD (k + 1) 0).toNat % 64 = _
              rw [HC2.out, hdg.out]
            refine ⟨_, _, _, _, ⟨k + 1, by omega, by go_num, ?_, fun j h1 h2 => ?_⟩, rfl, rfl, rfl, rfl⟩
            · rw [e]; congr 1
            · rw [← List.getD_eq_getElem?_getD]
              by_cases h : j < k + 1
              · exact hall.out j h1 h
              · rw [show j = k + 1 from by omega, hdg.out]; simp [contB]; omega
          case measure => simp [intOf]; omega
        · have HE := Lib.hid (HC.out.bad (k + 1) (by omega) (by omega) (by rw [hdg.out]; simp only [contB]; exact decide_eq_false hb))
          go_wp2
          all_goals (go_ret2; exact TwoI.of (p := (0, 0)) HE.out)
      · have hk' : k = 4 - 1 := by omega
        cases hok : okC 65536 C with
        | false =>
          have HE := Lib.hid (HC.out.out (by rw [← hk', HC2.out]; exact hok))
          simp only [okC, decide_eq_false_iff_not] at hok
          go_wp2
          all_goals first | (exfalso; omega) | (go_ret2; exact TwoI.of (p := (0, 0)) HE.out)
        | true =>
          have HE := Lib.hid (HC.out.good (by rw [List.length_cons]; omega) (by rw [← show k + 1 = 4 from by omega]; exact hall.out) (by rw [← hk', HC2.out]; exact hok))
          rw [← hk', HC2.out] at HE
          simp only [okC, decide_eq_true_eq] at hok
          go_wp2
          all_goals first | (exfalso; omega) | (go_ret2; exact TwoI.of (p := (C, 4)) HE.out)

set_option maxRecDepth 100000 in
set_option maxHeartbeats 2000000 in
theorem rune_nil (w : World) :
    Calls Tryd.prog 82 #[.string ⟨([] : List UInt8).toArray⟩] w (TwoI (runeF []) w) := by
  go_enter Tryd.func82, Tryd.ntmps82
  go_wp2
  go_ret2
  exact TwoI.of (p := (0, 0)) runeF_nil
theorem rune_calls (l : List UInt8) (w : World) (hl : l.length ≤ 1000000) :
    Calls Tryd.prog 82 #[.string ⟨l.toArray⟩] w (TwoI (runeF l) w) := by
  cases l with
  | nil => exact rune_nil w
  | cons b t =>
    have hlt := b.toNat_lt
    by_cases h1 : b.toNat < 128
    · exact rune_low b t w hl h1
    · by_cases h2 : b.toNat < 192
      · exact rune_none b t w hl (.inl ⟨by omega, h2⟩)
      · by_cases h3 : b.toNat < 224
        · exact rune_2 b t w hl ⟨by omega, h3⟩
        · by_cases h4 : b.toNat < 240
          · exact rune_3 b t w hl ⟨by omega, h4⟩
          · by_cases h5 : b.toNat < 248
            · exact rune_4 b t w hl ⟨by omega, h5⟩
            · exact rune_none b t w hl (.inr (by omega))
end Go.Proofs.YtpleminoiodmgaaDoor
namespace Go.Proofs.YtpleminoiodmgaaDoor
open Go.ChangeShapes Go.WideShapes Go.ChangeAt Go.RowKit Go.IntWalk
set_option linter.unusedVariables false

def strLen (v : Value) : Nat := match v with | .string s => s.size | _ => 0

theorem valid_stop (l : List UInt8) (hne : l ≠ []) (h : NoR l) : Lib.validD l = false := by
  rw [Lib.validD_step l hne]
  exact if_pos h
theorem valid_go (l : List UInt8) (hne : l ≠ []) (h : ¬ NoR l) : Lib.validD l = Lib.validD (l.drop (Lib.decodeL l).2) := by
  rw [Lib.validD_step l hne]
  exact if_neg h
theorem runeF_stop (l : List UInt8) (hne : l ≠ []) (h : NoR l) : runeF l = (0, 0) := by rw [runeF_of hne, if_pos h]
theorem runeF_go (l : List UInt8) (hne : l ≠ []) (h : ¬ NoR l) : runeF l = Lib.decodeL l := by rw [runeF_of hne, if_neg h]

set_option maxHeartbeats 2000000 in
theorem refvalid_calls (l : List UInt8) (w : World) (hl : l.length ≤ 1000000) :
    Calls Tryd.prog 77 #[.string ⟨l.toArray⟩] w fun e w' => e = .returned (.bool (Lib.validD l)) ∧ w = w' := by
  go_enter Tryd.func77, Tryd.ntmps77
  go_wp2
  go_loop [0] (fun s => ∃ m : List UInt8, m.length ≤ 1000000 ∧ s = .string ⟨m.toArray⟩ ∧ Hid (Lib.validD l = Lib.validD m)) (fun s => strLen s)
  case atStart => exact ⟨l, hl, rfl, rfl⟩
  case round =>
    obtain ⟨m, hm, rfl, hv⟩ := hrel
    by_cases hne : m = []
    · subst hne
      have HE : Hid (Lib.validD l = true) := hv.out
      go_wp2
      go_ret
      exact ⟨ret_bool HE.out.symm, rfl⟩
    · have hne' : m.isEmpty = false := by
        cases m with
        | nil => exact absurd rfl hne
        | cons b t => rfl
      by_cases hn : NoR m
      · have HR := Lib.hid (runeF_stop m hne hn)
        have HE := Lib.hid (hv.out.trans (valid_stop m hne hn))
        go_wp2_with fail
        refine (rune_calls m _ hm).mono ?_
        rintro e w1 ⟨rfl, rfl⟩
        rw [HR.out]
        go_wp2
        go_ret
        exact ⟨ret_bool HE.out.symm, rfl⟩
      · have HR := Lib.hid (runeF_go m hne hn)
        have HE := Lib.hid (hv.out.trans (valid_go m hne hn))
        have hw := Lib.decodeL_width m
        have hle := Lib.decodeL_le m hne
        generalize Lib.decodeL m = p at HR HE hw hle
        obtain ⟨r, d⟩ := p
        simp only at HE hw hle
        go_wp2_with fail
        refine (rune_calls m _ hm).mono ?_
        rintro e w1 ⟨rfl, rfl⟩
        rw [HR.out]
        have hd0 : ((d : Int) == 0) = false := by rw [beq_eq_false_iff_ne]; omega
        go_wp2
        go_round
        case rel => exact ⟨m.drop d, by rw [List.length_drop]; omega, rfl, HE⟩
        case measure =>
          show (m.drop d).length < m.length
          rw [List.length_drop]; omega

end Go.Proofs.YtpleminoiodmgaaDoor
namespace Go.Proofs.YtpleminoiodmgaaDoor
open Go.ChangeShapes Go.WideShapes Go.ChangeAt Go.RowKit Go.IntWalk
set_option linter.unusedVariables false

theorem wpList_append_lit {ops : Array Oper} {rest : List Oper} {o : Oper} {a : Act} {Q : Exit → Act → World → Prop} {w : World} (hgd : o.guard = none) (s x : Operand)
    (ho : o.op = .call { callee := .builtin .append, args := #[s, x], argTypes := #[74, 74] })
    (base : Nat) (v : Value) (bs : List UInt8) (hs : a.eval s = v) (hown : OwnBs base w v bs) (l : List UInt8) (C : Array Value) (hC : C = (l.map fun c => Value.int .u8 c.toNat).toArray)
    (n : Nat) (hx : a.eval x = .slice (some ⟨w.heap.size, 0, none⟩) n n) (hn : Hid (n = l.length)) (hlen : bs.length + n ≤ 70368744177664) (hbase : base ≤ w.heap.size)
    (h : ∀ v' w', OwnBs base w' v' (bs ++ l) → w.grownBy w' v.ownBlock → wpList Tryd.prog ops Q rest (a.put o.dst v') w') :
    wpList Tryd.prog ops Q (o :: rest) a (w.alloc (.cells C 5)) := by
  refine wpList_append_rb hgd s x ho base v bs hs (World.ownsRow.alloc hown _) _ n n l hx (rb_const w l C hC _) hn hlen (by simp; omega) ?_
  intro v' w' h1 h2
  exact h v' w' h1 ⟨h2.os, h2.tape, h2.output, Nat.le_trans (by simp) h2.size, fun k hk hne => (h2.block k (by simp; omega) hne).trans (heap_alloc_old w _ hk)⟩

/-- .. at a step of a region that draws its order -/
theorem step_append_lit {ops : Array Oper} {o : Oper} {a : Act} {K : Act → World → Prop} {Q : Exit → Act → World → Prop} {E : Prop} {W : World} (hgd : o.guard = none) (s x : Operand)
    (ho : o.op = .call { callee := .builtin .append, args := #[s, x], argTypes := #[74, 74] })
    (base : Nat) (v : Value) (bs : List UInt8) (hs : a.eval s = v) (hown : OwnBs base W v bs) (ad : Addr) (l : List UInt8) (n c : Nat) (hx : a.eval x = .slice (some ad) n c)
    (hl : RB W (some ad) l) (hn : n = l.length) (h0 : 0 < n) (hlen : bs.length + n ≤ 70368744177664) (hbase : base ≤ W.heap.size)
    (h : ∀ v' w', OwnBs base w' v' (bs ++ l) → W.grownBy w' v.ownBlock → K (a.put o.dst v') w') :
    if Region.wanted o (yielded ops a.tmps) = true then Oper.wp Tryd.prog o a W K Q else E := by
  obtain ⟨i0, hi, hz0, hz1, hz2⟩ := info_parts infoU8
  subst hn
  refine step_append_lies W hgd s x 74 ho base 5 i0 (.int .u8 0) 1 1 Tryd.underlying74 hi hz0 hz1 hz2 rfl (by decide) v _ _ hs hown ad l.length c (l.map fun c => Value.int .u8 c.toNat) hx (by simp) ?_ ?_ h0 (by unfold maxLen; omega) (by omega) hbase _ rfl ?_
  · intro j u hj
    have hjl : j < l.length := by
      rcases Nat.lt_or_ge j l.length with h | h
      · exact h
      · simp [List.getElem?_eq_none h] at hj
    obtain ⟨b, off, h1, _, h3⟩ := hl j hjl
    cases h1
    have hplain : (⟨b, off, none⟩ : Addr).add j = ⟨b, off + j, none⟩ := by unfold Addr.add; split <;> simp_all
    rw [hplain, h3]
    simp [hjl] at hj
    subst hj
    simp [List.getD, List.getElem?_eq_getElem hjl]
  · intro u hu
    obtain ⟨y, _, rfl⟩ := List.mem_map.1 hu
    rfl
  · intro g cap w' h1 h2 _ _
    exact h _ w' (by simpa [OwnBs] using h1) h2
end Go.Proofs.YtpleminoiodmgaaDoor
