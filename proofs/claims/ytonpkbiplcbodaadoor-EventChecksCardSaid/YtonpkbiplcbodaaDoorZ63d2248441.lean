/- Texts put together: EvV JvE JvU Lit QuO JvR. -/
import Derived.Test.YtonpkbiplcbodaaDoorZ3b8a46b19a
import Derived.Test.YtonpkbiplcbodaaDoorZfa1aa016e3
import Derived.Deep.MidRow
import Derived.Test.YtonpkbiplcbodaaDoorZ99ad442092
import Derived.Test.YtonpkbiplcbodaaDoorZ1b1d291a22
import Derived.Test.YtonpkbiplcbodaaDoorShelf
import Derived.Lib.AppendStr
import Derived.Lib.LaidTab
import Derived.Lib.ItoaNum
import Derived.WalkLawsBesides
import Derived.Recover
import Derived.Sort.Grow
import Derived.Deep.RegionHeld3
import Derived.Deep.AppendLies
import Derived.Test.YtonpkbiplcbodaaDoorZ9c31882606
namespace Go.Proofs.YtonpkbiplcbodaaDoor
open Go.ChangeShapes Go.WideShapes Go.ChangeAt Go.RowKit
set_option linter.unusedVariables false
set_option maxRecDepth 100000

/-- A variable of type Event before it is set. -/
def evZ : List Value := [.string ⟨#[]⟩, .string ⟨#[]⟩, .string ⟨#[]⟩, .bool false, .string ⟨#[]⟩, .int .i64 0, .bool false, .int .i64 0, .string ⟨#[]⟩, .slice none 0 0, .slice none 0 0, .slice none 0 0, .slice none 0 0, .int .i64 0, .int .i64 0, .string ⟨#[]⟩, .slice none 0 0]
theorem size_ev (e : Ev) (a : Ea) : (Tryd.prog.info? 29).map (·.size) = some (evC e a).length := by kernel_rfl
theorem size_evA (e : Ev) (a : Ea) : (Tryd.prog.info? 29).map (·.size) = some (evC e a).toArray.size := by kernel_rfl
theorem one_ev (e : Ev) (a : Ea) : (evC e a).toArray.all (·.oneCell') = true := by
  apply all_oneCell_toArray
  intro v hv
  simp only [evC, List.mem_cons, List.not_mem_nil, or_false] at hv
  rcases hv with h | h | h | h | h | h | h | h | h | h | h | h | h | h | h | h | h <;> subst h <;> rfl
theorem letE (W : World) (e : Ev) (a : Ea) :
    (W.alloc (.cells evZ.toArray 29)).there W.heap.size 0 (evC e a).toArray.size ∧ Below W.heap.size W ((W.alloc (.cells evZ.toArray 29)).setCells W.heap.size 0 (evC e a)) ∧ Blk ((W.alloc (.cells evZ.toArray 29)).setCells W.heap.size 0 (evC e a)) W.heap.size 29 (evC e a) :=
  ⟨(Blk.new W evZ 29).there rfl, blw_cells (Nat.le_refl _) (evC e a) 0 _ ((Below.refl _ _).alloc (Nat.le_refl _) _), (Blk.new W evZ 29).setAll rfl⟩
/-- A load of many cells behind a guard. -/
theorem wpList_load_gd {ops : Array Oper} {rest : List Oper} {op : Oper} {a : Act} {w : World} {Q : Exit → Act → World → Prop} (hw : Region.wanted op (yielded ops a.tmps) = true) (ty : TypeId) (x : Operand) (ho : op.op = .load ty x)
    (b o : Nat) (hx : a.eval x = .pointer (some ⟨b, o, none⟩)) (cs : List Value) (d : TypeDesc) (hc : w.rangeAt b o cs) (hu : Tryd.prog.underlying ty = some d) (hd : d.isRow = true) (hi : (Tryd.prog.info? ty).map (·.size) = some cs.length)
    (h : wpList Tryd.prog ops Q rest (a.put op.dst (.agg cs.toArray)) w) : wpList Tryd.prog ops Q (op :: rest) a w :=
  BigFrame.wpList_want hw fun _ hK => wp_load_mid ty x ho b o hx cs d hc hu hd hi (hK _ _ h)
/-- The cells of an event's content. -/
def vlC (v : Jv) (A B : Option Addr) (nl cl nm cm : Nat) : List Value := [.int .i64 v.kd, .bool v.is, .int .i64 v.n, .string ⟨v.s.toArray⟩, .slice A nl cl, .slice B nm cm]
theorem size_vl (v : Jv) (A B : Option Addr) (nl cl nm cm : Nat) : (Tryd.prog.info? 25).map (·.size) = some (vlC v A B nl cl nm cm).length := by kernel_rfl
theorem ev_ct {w : World} {b o : Nat} {e : Ev} {a : Ea} (h : w.rangeAt b o (evC e a)) : w.rangeAt b (o + 5) (vlC e.ct a.A a.B a.nl a.cl a.nm a.cm) := by
  intro j v hj
  have := h (5 + j) v (by
    match j, hj with
    | 0, hj => exact hj
    | 1, hj => exact hj
    | 2, hj => exact hj
    | 3, hj => exact hj
    | 4, hj => exact hj
    | 5, hj => exact hj)
  rw [Nat.add_assoc]; exact this
end Go.Proofs.YtonpkbiplcbodaaDoor
namespace Go.Proofs.YtonpkbiplcbodaaDoor
open Go.ChangeShapes Go.WideShapes Go.ChangeAt Go.RowKit Go.IntWalk
set_option linter.unusedVariables false

section
variable {base : Nat} {w w1 w' : World} {mem : Bool} {A : Option Addr} {t : JT}
theorem JSl.blw (h : JSl (· < base) w mem A t) (b : Below base w w') : JSl (· < base) w' mem A t :=
  h.stay (fun b' o hb => b.cell (p := ⟨b', o, none⟩) hb) (fun _ h => h)
/-- The i-th value of a list, its cells told one by one. -/
theorem JSl.el (P : Nat → Prop) (h : JSl P w false A t) {i : Nat} (hi : i < t.ext) : ∃ b o A1 nl cl B1 nm cm, A = some ⟨b, o, none⟩ ∧ P b ∧ b < w.heap.size ∧
    w.cell? ⟨b, o + i * 6, none⟩ = some (.int .i64 (t.fall i).val.kd) ∧ w.cell? ⟨b, o + i * 6 + 1, none⟩ = some (.bool (t.fall i).val.is) ∧ w.cell? ⟨b, o + i * 6 + 2, none⟩ = some (.int .i64 (t.fall i).val.n) ∧
    w.cell? ⟨b, o + i * 6 + 3, none⟩ = some (.string ⟨(t.fall i).val.s.toArray⟩) ∧ w.cell? ⟨b, o + i * 6 + 4, none⟩ = some (.slice A1 nl cl) ∧ w.cell? ⟨b, o + i * 6 + 5, none⟩ = some (.slice B1 nm cm) ∧
    Room nl cl (t.fall i).val.l.ext ∧ Room nm cm (t.fall i).val.m.ext ∧ JSl P w false A1 (t.fall i).val.l ∧ JSl P w true B1 (t.fall i).val.m ∧ Fit (t.fall i).val.kd (t.fall i).val.n (t.fall i).val.s := by
  obtain ⟨b, o, e, hP, hb, _, cs, hr, A1, nl, cl, B1, nm, cm, rfl, h1, h2, h3, h4, h5⟩ := h.at_ hi
  exact ⟨b, o, A1, nl, cl, B1, nm, cm, e, hP, hb, hr 0 _ rfl, hr 1 _ rfl, hr 2 _ rfl, hr 3 _ rfl, hr 4 _ rfl, hr 5 _ rfl, h1, h2, h3, h4, h5⟩
/-- The i-th member of a map. -/
theorem JSl.mb (P : Nat → Prop) (h : JSl P w true A t) {i : Nat} (hi : i < t.ext) : ∃ b o A1 nl cl B1 nm cm, A = some ⟨b, o, none⟩ ∧ P b ∧ b < w.heap.size ∧
    w.cell? ⟨b, o + i * 7, none⟩ = some (.string ⟨(t.fall i).key.toArray⟩) ∧ (t.fall i).key.length ≤ 140737488355328 ∧
    w.cell? ⟨b, o + i * 7 + 1, none⟩ = some (.int .i64 (t.fall i).val.kd) ∧ w.cell? ⟨b, o + i * 7 + 2, none⟩ = some (.bool (t.fall i).val.is) ∧ w.cell? ⟨b, o + i * 7 + 3, none⟩ = some (.int .i64 (t.fall i).val.n) ∧
    w.cell? ⟨b, o + i * 7 + 4, none⟩ = some (.string ⟨(t.fall i).val.s.toArray⟩) ∧ w.cell? ⟨b, o + i * 7 + 5, none⟩ = some (.slice A1 nl cl) ∧ w.cell? ⟨b, o + i * 7 + 6, none⟩ = some (.slice B1 nm cm) ∧
    Room nl cl (t.fall i).val.l.ext ∧ Room nm cm (t.fall i).val.m.ext ∧ JSl P w false A1 (t.fall i).val.l ∧ JSl P w true B1 (t.fall i).val.m ∧ Fit (t.fall i).val.kd (t.fall i).val.n (t.fall i).val.s := by
  obtain ⟨b, o, e, hP, hb, hk, cs, hr, A1, nl, cl, B1, nm, cm, rfl, h1, h2, h3, h4, h5⟩ := h.at_ hi
  exact ⟨b, o, A1, nl, cl, B1, nm, cm, e, hP, hb, hk.1, hk.2, hr 0 _ rfl, hr 1 _ rfl, hr 2 _ rfl, hr 3 _ rfl, hr 4 _ rfl, hr 5 _ rfl, h1, h2, h3, h4, h5⟩
end
theorem JSl.up {w w' : World} {mem : Bool} {A : Option Addr} {t : JT} (h : JSl (· < w.heap.size) w mem A t) (b : Below w.heap.size w w') : JSl (· < w'.heap.size) w' mem A t :=
  h.stay (fun b' o hb => b.cell (p := ⟨b', o, none⟩) hb) (fun x hx => Nat.lt_of_lt_of_le hx b.size)
end Go.Proofs.YtonpkbiplcbodaaDoor
namespace Go.Proofs.YtonpkbiplcbodaaDoor
open Go.ChangeShapes Go.WideShapes Go.ChangeAt Go.RowKit Go.IntWalk
set_option linter.unusedVariables false
set_option maxRecDepth 100000

theorem natB (n : Nat) : ((n : Int) == 0) = decide (n = 0) := by
  rw [Bool.eq_iff_iff]; simp
set_option maxHeartbeats 4000000 in
theorem refbare_calls (v : Jv) (A B : Option Addr) (nl cl nm cm : Nat) (w : World) (h1 : Room nl cl v.l.ext) (h2 : Room nm cm v.m.ext) :
    Calls Tryd.prog 53 #[.agg #[.int .i64 v.kd, .bool v.is, .int .i64 v.n, .string ⟨v.s.toArray⟩, .slice A nl cl, .slice B nm cm]] w fun e w' => e = .returned (.bool v.bare) ∧ Below w.heap.size w w' := by
  obtain ⟨kd, is, n, s, l, m⟩ := v
  obtain ⟨rfl, _, _⟩ := h1
  obtain ⟨rfl, _, _⟩ := h2
  dsimp only
  rcases (show kd = 0 ∨ kd = 1 ∨ kd = 2 ∨ kd = 3 ∨ kd = 4 ∨ kd = 5 ∨ (¬ kd = 0 ∧ ¬ kd = 1 ∧ ¬ kd = 2 ∧ ¬ kd = 3 ∧ ¬ kd = 4 ∧ ¬ kd = 5) by omega) with rfl | rfl | rfl | rfl | rfl | rfl | ⟨k0, k1, k2, k3, k4, k5⟩
  all_goals
    go_enter Tryd.func53, Tryd.ntmps53
    go_wp2
    all_goals
      go_ret
      refine ⟨?_, ?_⟩
      · first
          | (simp [Jv.bare, JT.isNil_eq, *]; done)
          | (simp [Jv.bare, JT.isNil_eq, *]; intros; omega)
          | (simp [Jv.bare, JT.isNil_eq, natB, *]; done)
      · first
          | exact ((Below.refl _ _).alloc (Nat.le_refl _) _).alloc (by simp) _
          | exact (((Below.refl _ _).alloc (Nat.le_refl _) _).alloc (by simp) _).setCell (by simp) _
theorem lng_ok {b : List UInt8} (h : b.length ≤ 65536) : lng b = .ok b := by unfold lng; rw [if_pos h]
theorem lng_bad {b : List UInt8} (h : ¬ b.length ≤ 65536) : lng b = .error 3 := by unfold lng; rw [if_neg h]
theorem lng_test {b : List UInt8} {n : Nat} (hn : Hid (n = b.length)) (h : b.length ≤ 65536) : decide ((65536 : Int) < (n : Int)) = false := by
  have := hn.out; simp; omega
theorem lng_test' {b : List UInt8} {n : Nat} (hn : Hid (n = b.length)) (h : ¬ b.length ≤ 65536) : decide ((65536 : Int) < (n : Int)) = true := by
  have := hn.out; simp; omega
theorem ne_of_turn {w : World} {g : Nat} {v v1 : Value} (h : v.ownBlock ≠ some g) (hg : g < w.heap.size) (ch : v1.ownBlock = v.ownBlock ∨ v1.ownBlock = none ∨ ∃ k, v1.ownBlock = some k ∧ w.heap.size ≤ k) : v1.ownBlock ≠ some g := by
  rcases ch with e | e | ⟨k, e, hk⟩
  · rw [e]; exact h
  · rw [e]; simp
  · rw [e]; simp; omega
theorem Blk.of_gb {w w1 : World} {g : Nat} {T : TypeId} {cs : List Value} {row : Option Nat} (h : Blk w g T cs) (hg : w.grownBy w1 row) (hne : row ≠ some g) : Blk w1 g T cs := (hg.block g h.lt (fun e => hne e.symm)).trans h
theorem escB_le (c : UInt8) : (escB c).length ≤ 6 := by
  unfold escB
  repeat' split
  all_goals simp
theorem escL_le (l : List UInt8) : (escL l).length ≤ 6 * l.length := by
  unfold escL
  induction l with
  | nil => simp
  | cons c l ih => rw [List.flatMap_cons, List.length_append, List.length_cons]; have := escB_le c; omega
theorem putF_le (l : List UInt8) : (putF l).length ≤ 6 * l.length + 2 := by
  have := escL_le l
  unfold putF
  split
  · simp; omega
  · simp
theorem gPow : Tryd.prog.globalNamed "internal/strconv.uint64pow10" = some 1 := by kernel_rfl
/-- The library's powers of ten lie below base. -/
def PowT (base : Nat) (w : World) : Prop := 1 < base ∧ Lib.TabIs Tryd.prog w "internal/strconv.uint64pow10" .u64 Lib.pow10Tab
theorem PowT.blw {base : Nat} {w w' : World} (h : PowT base w) (b : Below base w w') : PowT base w' := by
  refine ⟨h.1, ?_⟩
  have h2 := h.2
  unfold Lib.TabIs World.var? at h2 ⊢
  rw [gPow] at h2 ⊢
  simp only [Option.bind_some] at h2 ⊢
  rw [b.block _ h.1]
  exact h2
theorem then_ok (b : List UInt8) (f : List UInt8 → Res) : Res.then (.ok b) f = f b := rfl
theorem then_bad (x : Int) (f : List UInt8 → Res) : Res.then (.error x) f = .error x := rfl
theorem wrK_l0 (k b : List UInt8) : wrK false none k b = .ok b := rfl
theorem wrK_lS (p k b : List UInt8) : wrK false (some p) k b = lng (b ++ [44]) := by
  unfold wrK
  cases lng (b ++ [44]) <;> rfl
theorem prevK_pos {t : JT} {i : Nat} (h : 0 < i) : prevK t i = some (t.fall (i - 1)).key := by unfold prevK; rw [if_neg (by omega)]
/-- A list's text. -/
def wrL (t : JT) (deep : Nat) (b : List UInt8) : Res := (if 32 ≤ deep then .error 5 else lng (b ++ [91])).then fun b => (wrF false t (deep + 1) none b).then fun b => lng (b ++ [93])
/-- Where the loop stands: of what is still to come the whole's answer is left. -/
def LStep (R : Res) (mem : Bool) (t : JT) (deep k : Nat) (b : List UInt8) : Prop := R = wrF mem (t.fall k) deep (prevK t k) b
/-- A map's text. -/
def wrM (t : JT) (deep : Nat) (b : List UInt8) : Res := (if 32 ≤ deep then .error 5 else lng (b ++ [123])).then fun b => (wrF true t (deep + 1) none b).then fun b => lng (b ++ [125])
/-- A member behind its comma. -/
def wrT (t : JT) (k deep : Nat) (ek : List UInt8) (ev : Jv) (b : List UInt8) : Res :=
  (txt b ek).then fun b => (lng (b ++ [58])).then fun b => (wrV ev (deep + 1) b).then fun b => wrF true (t.fall (k + 1)) (deep + 1) (prevK t (k + 1)) b
theorem wrK_m0 (t : JT) (k deep : Nat) (ek : List UInt8) (ev : Jv) (b : List UInt8) : ((wrK true none ek b).then fun b => (wrV ev (deep + 1) b).then fun b => wrF true (t.fall (k + 1)) (deep + 1) (prevK t (k + 1)) b) = wrT t k deep ek ev b := by
  unfold wrK wrT
  simp only [then_ok, if_true]
  cases txt b ek with
  | error x => rfl
  | ok b => simp only [then_ok]
theorem wrK_mS (t : JT) (k deep : Nat) (p ek : List UInt8) (ev : Jv) (b : List UInt8) : ((wrK true (some p) ek b).then fun b => (wrV ev (deep + 1) b).then fun b => wrF true (t.fall (k + 1)) (deep + 1) (prevK t (k + 1)) b) =
    (lng (b ++ [44])).then fun b => if leqB ek p then .error 1 else wrT t k deep ek ev b := by
  unfold wrK wrT
  cases lng (b ++ [44]) with
  | error x => rfl
  | ok b =>
    simp only [then_ok, Bool.true_and, if_true]
    cases leqB ek p with
    | true => rfl
    | false =>
      simp only [Bool.false_eq_true, if_false, then_ok]
      cases txt b ek with
      | error x => rfl
      | ok b => simp only [then_ok]
theorem below_grow {w w' : World} (h : ∃ k os, w' = Sort.grow (w.drewN k) os) : Below w.heap.size w w' := by
  obtain ⟨k, os, rfl⟩ := h
  exact ⟨rfl, rfl, rfl, by simp [Sort.grow], fun i hi => by simp [Sort.grow, Array.getElem?_append, hi]⟩
theorem decDigits_le (k : Nat) : ∀ u, u < 10 ^ (k + 1) → (Lib.decDigits u).length ≤ k + 1 := by
  induction k with
  | zero => intro u h; rw [Lib.decDigits, dif_pos (by simpa using h)]; simp
  | succ k ih =>
    intro u h
    rw [Lib.decDigits]
    split
    · simp
    · rw [List.length_append]
      have := ih (u / 10) (by rw [Nat.pow_succ] at h; omega)
      simp; omega
theorem itoa_le (n : Int) (h0 : -9223372036854775808 ≤ n) (h1 : n ≤ 9223372036854775807) : (Lib.itoa n).length ≤ 21 := by
  unfold Lib.itoa
  split
  · have := decDigits_le 19 n.natAbs (by simp; omega)
    simp; omega
  · have := decDigits_le 19 n.toNat (by simp; omega)
    omega
theorem itoa_calls (base : Nat) (n : Int) (h0 : -9223372036854775808 ≤ n) (h1 : n ≤ 9223372036854775807) (w : World) (hT : PowT base w) :
    Calls Tryd.prog 55 #[.int .i64 n] w fun e w' => e = .returned (.string ⟨(Lib.itoa n).toArray⟩) ∧ Below w.heap.size w w' :=
  (Tryd.strconv_Itoa n h0 h1 w hT.2).mono fun e w' ⟨h1, h2⟩ => ⟨h1, below_grow h2⟩
theorem fmtB (b : Bool) : Lib.formatBool b = if b then [116, 114, 117, 101] else [102, 97, 108, 115, 101] := by cases b <;> decide
theorem bare_kd {v : Jv} (h : v.bare = true) : v.kd = 0 ∨ v.kd = 1 ∨ v.kd = 2 ∨ v.kd = 3 ∨ v.kd = 4 ∨ v.kd = 5 := by
  unfold Jv.bare at h
  simp only [Bool.and_eq_true, decide_eq_true_eq] at h
  omega
theorem wrV_bad {v : Jv} (h : v.bare = false) (deep : Nat) (b : List UInt8) : wrV v deep b = .error 1 := by unfold wrV wrB; rw [if_pos h]
theorem wrV_0 {v : Jv} (h : v.bare = true) (hk : v.kd = 0) (deep : Nat) (b : List UInt8) : wrV v deep b = lng (b ++ [110, 117, 108, 108]) := by
  unfold wrV wrB; rw [hk, h]; simp
theorem wrV_1 {v : Jv} (h : v.bare = true) (hk : v.kd = 1) (deep : Nat) (b : List UInt8) : wrV v deep b = lng (b ++ (if v.is then [116, 114, 117, 101] else [102, 97, 108, 115, 101])) := by
  unfold wrV wrB; rw [hk, h]; simp
theorem wrV_2 {v : Jv} (h : v.bare = true) (hk : v.kd = 2) (deep : Nat) (b : List UInt8) : wrV v deep b = lng (b ++ Lib.itoa v.n) := by
  unfold wrV wrB; rw [hk, h]; simp
theorem wrV_3 {v : Jv} (h : v.bare = true) (hk : v.kd = 3) (deep : Nat) (b : List UInt8) : wrV v deep b = txt b v.s := by
  unfold wrV wrB; rw [hk, h]; simp
theorem wrV_4 {v : Jv} (h : v.bare = true) (hk : v.kd = 4) (deep : Nat) (b : List UInt8) : wrV v deep b = wrL v.l deep b := by
  unfold wrV wrB wrL; rw [hk, h]
  by_cases hd : 32 ≤ deep
  · simp [hd, then_bad]
  · simp [hd]
theorem wrV_5 {v : Jv} (h : v.bare = true) (hk : v.kd = 5) (deep : Nat) (b : List UInt8) : wrV v deep b = wrM v.m deep b := by
  unfold wrV wrB wrM; rw [hk, h]
  by_cases hd : 32 ≤ deep
  · simp [hd, then_bad]
  · simp [hd]
theorem below_drewN {B : Nat} {a w : World} (h : Below B a w) (n : Nat) : Below B a (w.drewN n) := ⟨h.os, h.tape, h.output, h.size, h.block⟩
/-- What Canon answers. -/
def CanPost (v : Jv) (w : World) (e : Ending) (w' : World) : Prop := e = .returned (.tuple #[.string ⟨(canF v).1.toArray⟩, .int .i64 (canF v).2]) ∧ Below w.heap.size w w'
end Go.Proofs.YtonpkbiplcbodaaDoor
namespace Go.Proofs.YtonpkbiplcbodaaDoor
open Go.ChangeShapes Go.WideShapes Go.ChangeAt Go.RowKit Go.IntWalk
set_option linter.unusedVariables false

theorem wpList_append_lit {ops : Array Oper} {rest : List Oper} {o : Oper} {a : Act} {Q : Exit → Act → World → Prop} {w : World} (hgd : o.guard = none) (s x : Operand)
    (ho : o.op = .call { callee := .builtin .append, args := #[s, x], argTypes := #[45, 45] })
    (base : Nat) (v : Value) (bs : List UInt8) (hs : a.eval s = v) (hown : OwnBs base w v bs) (l : List UInt8) (C : Array Value) (hC : C = (l.map fun c => Value.int .u8 c.toNat).toArray)
    (n : Nat) (hx : a.eval x = .slice (some ⟨w.heap.size, 0, none⟩) n n) (hn : Hid (n = l.length)) (hlen : bs.length + n ≤ 70368744177664) (hbase : base ≤ w.heap.size)
    (h : ∀ v' w', OwnBs base w' v' (bs ++ l) → w.grownBy w' v.ownBlock → wpList Tryd.prog ops Q rest (a.put o.dst v') w') :
    wpList Tryd.prog ops Q (o :: rest) a (w.alloc (.cells C 5)) := by
  refine wpList_append_rb hgd s x ho base v bs hs (World.ownsRow.alloc hown _) _ n n l hx (rb_const w l C hC _) hn hlen (by simp; omega) ?_
  intro v' w' h1 h2
  exact h v' w' h1 ⟨h2.os, h2.tape, h2.output, Nat.le_trans (by simp) h2.size, fun k hk hne => (h2.block k (by simp; omega) hne).trans (heap_alloc_old w _ hk)⟩

/-- .. at a step of a region that draws its order -/
theorem step_append_lit {ops : Array Oper} {o : Oper} {a : Act} {K : Act → World → Prop} {Q : Exit → Act → World → Prop} {E : Prop} {W : World} (hgd : o.guard = none) (s x : Operand)
    (ho : o.op = .call { callee := .builtin .append, args := #[s, x], argTypes := #[45, 45] })
    (base : Nat) (v : Value) (bs : List UInt8) (hs : a.eval s = v) (hown : OwnBs base W v bs) (ad : Addr) (l : List UInt8) (n c : Nat) (hx : a.eval x = .slice (some ad) n c)
    (hl : RB W (some ad) l) (hn : n = l.length) (h0 : 0 < n) (hlen : bs.length + n ≤ 70368744177664) (hbase : base ≤ W.heap.size)
    (h : ∀ v' w', OwnBs base w' v' (bs ++ l) → W.grownBy w' v.ownBlock → K (a.put o.dst v') w') :
    if Region.wanted o (yielded ops a.tmps) = true then Oper.wp Tryd.prog o a W K Q else E := by
  obtain ⟨i0, hi, hz0, hz1, hz2⟩ := info_parts infoU8
  subst hn
  refine step_append_lies W hgd s x 45 ho base 5 i0 (.int .u8 0) 1 1 Tryd.underlying45 hi hz0 hz1 hz2 rfl (by decide) v _ _ hs hown ad l.length c (l.map fun c => Value.int .u8 c.toNat) hx (by simp) ?_ ?_ h0 (by unfold maxLen; omega) (by omega) hbase _ rfl ?_
  · intro j u hj
    have hjl : j < l.length := by
      rcases Nat.lt_or_ge j l.length with h | h
      · exact h
      · simp [List.getElem?_eq_none h] at hj
    obtain ⟨b, off, h1, _, h3⟩ := hl j hjl
    cases h1
    have hplain : (⟨b, off, none⟩ : Addr).add j = ⟨b, off + j, none⟩ := by unfold Addr.add; split <;> simp_all
    rw [hplain, h3]
    simp [hjl] at hj
    subst hj
    simp [List.getD, List.getElem?_eq_getElem hjl]
  · intro u hu
    obtain ⟨y, _, rfl⟩ := List.mem_map.1 hu
    rfl
  · intro g cap w' h1 h2 _ _
    exact h _ w' (by simpa [OwnBs] using h1) h2
end Go.Proofs.YtonpkbiplcbodaaDoor
namespace Go.Proofs.YtonpkbiplcbodaaDoor
open Go.ChangeShapes Go.WideShapes Go.ChangeAt Go.RowKit Go.IntWalk
set_option linter.unusedVariables false
set_option maxRecDepth 100000

def PutPost (l : List UInt8) (w : World) (e : Ending) (w' : World) : Prop := e = .returned (.tuple #[.string ⟨(putF l).toArray⟩, .bool (Lib.validD l)]) ∧ Below w.heap.size w w'
theorem PutPost.no {l : List UInt8} {w w' : World} (h : Lib.validD l = false) (hb : Below w.heap.size w w') : PutPost l w (.returned (.tuple #[.string ⟨#[]⟩, .bool false])) w' := by
  unfold PutPost putF; rw [h]; exact ⟨rfl, hb⟩
theorem PutPost.yes {l m : List UInt8} {w w' : World} (h : Lib.validD l = true) (hm : m = 34 :: escL l ++ [34]) (hb : Below w.heap.size w w') : PutPost l w (.returned (.tuple #[.string ⟨m.toArray⟩, .bool true])) w' := by
  unfold PutPost putF; rw [h, hm]; exact ⟨rfl, hb⟩
theorem own_quote (base : Nat) (w : World) (hb : base ≤ w.heap.size) : OwnBs base (w.alloc (.cells #[.int .u8 34] 5)) (.slice (some ⟨w.heap.size, 0, none⟩) 1 1) [34] := by
  refine BlkBs.own (g := w.heap.size) ?_ hb rfl (by unfold maxLen; omega)
  exact heap_alloc_new w _

theorem hex_get : ∀ j : Fin 16, ((⟨#[48, 49, 50, 51, 52, 53, 54, 55, 56, 57, 97, 98, 99, 100, 101, 102]⟩ : ByteArray)[j.val]'j.isLt) = hexB j.val := by decide
theorem hex_index (i : Int) (j : Nat) (W : World) (hi : i = (j : Int)) (hj : j < 16) (k : IntKind) :
    (Instr.index 9 (.string ⟨#[48, 49, 50, 51, 52, 53, 54, 55, 56, 57, 97, 98, 99, 100, 101, 102]⟩) (.int k i)).run Tryd.prog W = .ok (.int .u8 (hexB j).toNat) W := by
  subst hi
  rw [run_index_string W 9 _ k _ Tryd.underlying9, dif_pos ⟨by omega, by show (j : Int) < (16 : Nat); omega⟩]
  have := hex_get ⟨j, hj⟩
  simp only [Int.toNat_natCast]
  rw [this]

set_option maxHeartbeats 4000000 in
theorem refput_calls (l : List UInt8) (w : World) (hl : l.length ≤ 1000000) :
    Calls Tryd.prog 73 #[.string ⟨l.toArray⟩] w (PutPost l w) := by
  cases hv : Lib.validD l with
  | false =>
    have HV := Lib.hid hv; clear hv
    go_enter Tryd.func73, Tryd.ntmps73
    go_wp2_with fail
    refine (refvalid_calls l _ hl).mono ?_
    rintro e w1 ⟨rfl, rfl⟩
    rw [HV.out]
    go_wp2
    go_ret2
    exact PutPost.no HV.out (Below.refl _ _)
  | true =>
    have HV := Lib.hid hv; clear hv
    go_enter Tryd.func73, Tryd.ntmps73
    go_wp2_with fail
    refine (refvalid_calls l _ hl).mono ?_
    rintro e w1 ⟨rfl, rfl⟩
    rw [HV.out]
    go_wp2_with fail
    have hown0 := own_quote w.heap.size w (Nat.le_refl _)
    have hb0 : Below w.heap.size w (w.alloc (.cells #[.int .u8 34] 5)) := (Below.refl _ _).alloc (Nat.le_refl _) _
    go_loopw [5, 6] (fun v i wr => ∃ k, k ≤ l.length ∧ i = .int .i64 k ∧ OwnBs w.heap.size wr v (34 :: escL (l.take k)) ∧ Below w.heap.size w wr) (fun _ i _ => l.length - (intOf i).toNat)
    case atStart => exact ⟨0, Nat.zero_le _, rfl, by simpa [escL] using hown0, hb0⟩
    case round =>
      clear hown0 hb0
      obtain ⟨k, hk, rfl, hown, hbr⟩ := hrel
      have hsz := hbr.size
      have hlen := escL_take_len l k hk
      have hlen1 : (34 :: escL (l.take k)).length ≤ 6 * k + 1 := by simp; omega
      by_cases hp : k < l.length
      · have HT := Lib.hid (escL_take l k hp)
        obtain ⟨c, hc⟩ : ∃ c, l[k] = c := ⟨_, rfl⟩
        rw [hc] at HT
        have hcl := c.toNat_lt
        by_cases h34 : c = 34 ∨ c = 92
        · have HE : Hid (escB c = [92, c]) := by show _ = _; unfold escB; rw [if_pos h34]
          have hb : ((c.toNat : Int) == 34) = true ∨ (((c.toNat : Int) == 34) = false ∧ ((c.toNat : Int) == 92) = true) := by
            rcases h34 with rfl | rfl
            · exact .inl (by decide)
            · exact .inr ⟨by decide, by decide⟩
          clear h34
          rcases hb with h1 | ⟨h1, h2⟩
          all_goals
            go_wp2_with (at_builtin; (refine wpList_append_lit rfl _ _ rfl _ _ _ rfl hown [92, c] _ rfl 2 rfl rfl (by omega) (by omega) ?_; intro v' w2 hown' hgrow'))
            rw [List.cons_append, ← HE.out, ← HT.out] at hown'
            have hb3 : Below w.heap.size w w2 := hbr.grown hgrow' hsz (fun k hk => (hown.lt k hk).1)
            exact ⟨⟨k + 1, by omega, by go_num, hown', hb3⟩, by simp [intOf]; omega⟩
        · by_cases hsp : c = 8 ∨ c = 9 ∨ c = 10 ∨ c = 12 ∨ c = 13
          · clear h34
            rcases hsp with rfl | rfl | rfl | rfl | rfl
            · have HE : Hid (escB 8 = [92, 98]) := by show _ = _; decide
              go_wp2_with (at_builtin; (refine wpList_append_lit rfl _ _ rfl _ _ _ rfl hown [92, 98] _ rfl 2 rfl rfl (by omega) (by omega) ?_; intro v' w2 hown' hgrow'))
              rw [List.cons_append, ← HE.out, ← HT.out] at hown'
              have hb3 : Below w.heap.size w w2 := hbr.grown hgrow' hsz (fun k hk => (hown.lt k hk).1)
              exact ⟨⟨k + 1, by omega, by go_num, hown', hb3⟩, by simp [intOf]; omega⟩
            · have HE : Hid (escB 9 = [92, 116]) := by show _ = _; decide
              go_wp2_with (at_builtin; (refine wpList_append_lit rfl _ _ rfl _ _ _ rfl hown [92, 116] _ rfl 2 rfl rfl (by omega) (by omega) ?_; intro v' w2 hown' hgrow'))
              rw [List.cons_append, ← HE.out, ← HT.out] at hown'
              have hb3 : Below w.heap.size w w2 := hbr.grown hgrow' hsz (fun k hk => (hown.lt k hk).1)
              exact ⟨⟨k + 1, by omega, by go_num, hown', hb3⟩, by simp [intOf]; omega⟩
            · have HE : Hid (escB 10 = [92, 110]) := by show _ = _; decide
              go_wp2_with (at_builtin; (refine wpList_append_lit rfl _ _ rfl _ _ _ rfl hown [92, 110] _ rfl 2 rfl rfl (by omega) (by omega) ?_; intro v' w2 hown' hgrow'))
              rw [List.cons_append, ← HE.out, ← HT.out] at hown'
              have hb3 : Below w.heap.size w w2 := hbr.grown hgrow' hsz (fun k hk => (hown.lt k hk).1)
              exact ⟨⟨k + 1, by omega, by go_num, hown', hb3⟩, by simp [intOf]; omega⟩
            · have HE : Hid (escB 12 = [92, 102]) := by show _ = _; decide
              go_wp2_with (at_builtin; (refine wpList_append_lit rfl _ _ rfl _ _ _ rfl hown [92, 102] _ rfl 2 rfl rfl (by omega) (by omega) ?_; intro v' w2 hown' hgrow'))
              rw [List.cons_append, ← HE.out, ← HT.out] at hown'
              have hb3 : Below w.heap.size w w2 := hbr.grown hgrow' hsz (fun k hk => (hown.lt k hk).1)
              exact ⟨⟨k + 1, by omega, by go_num, hown', hb3⟩, by simp [intOf]; omega⟩
            · have HE : Hid (escB 13 = [92, 114]) := by show _ = _; decide
              go_wp2_with (at_builtin; (refine wpList_append_lit rfl _ _ rfl _ _ _ rfl hown [92, 114] _ rfl 2 rfl rfl (by omega) (by omega) ?_; intro v' w2 hown' hgrow'))
              rw [List.cons_append, ← HE.out, ← HT.out] at hown'
              have hb3 : Below w.heap.size w w2 := hbr.grown hgrow' hsz (fun k hk => (hown.lt k hk).1)
              exact ⟨⟨k + 1, by omega, by go_num, hown', hb3⟩, by simp [intOf]; omega⟩
          · have q8 : ∀ d : UInt8, c ≠ d → ((c.toNat : Int) == (d.toNat : Int)) = false := fun d hd => by
              rw [beq_eq_false_iff_ne]; intro h; exact hd (UInt8.toNat_inj.1 (by omega))
            have n1 : ((c.toNat : Int) == 34) = false := q8 34 (fun h => h34 (.inl h))
            have n2 : ((c.toNat : Int) == 92) = false := q8 92 (fun h => h34 (.inr h))
            have n3 : ((c.toNat : Int) == 8) = false := q8 8 (fun h => hsp (.inl h))
            have n4 : ((c.toNat : Int) == 9) = false := q8 9 (fun h => hsp (.inr (.inl h)))
            have n5 : ((c.toNat : Int) == 10) = false := q8 10 (fun h => hsp (.inr (.inr (.inl h))))
            have n6 : ((c.toNat : Int) == 12) = false := q8 12 (fun h => hsp (.inr (.inr (.inr (.inl h)))))
            have n7 : ((c.toNat : Int) == 13) = false := q8 13 (fun h => hsp (.inr (.inr (.inr (.inr h)))))
            have HE0 : Hid (escB c = if c.toNat < 32 then [92, 117, 48, 48, hexB (c.toNat / 16), hexB (c.toNat % 16)] else [c]) := by
              show _ = _
              unfold escB
              rw [if_neg h34, if_neg (fun h => hsp (.inl h)), if_neg (fun h => hsp (.inr (.inl h))), if_neg (fun h => hsp (.inr (.inr (.inl h)))), if_neg (fun h => hsp (.inr (.inr (.inr (.inl h))))), if_neg (fun h => hsp (.inr (.inr (.inr (.inr h)))))]
            clear q8 h34 hsp
            by_cases h32 : c.toNat < 32
            · have HE : Hid (escB c = [92, 117, 48, 48, hexB (c.toNat / 16), hexB (c.toNat % 16)]) := HE0.out.trans (if_pos h32)
              clear HE0
              have hW : IntKind.u8.wrap ((c.toNat : Int) / 16) = (c.toNat : Int) / 16 := by rw [IntKind.wrap_u8]; omega
              have hM : (c.toNat : Int).tmod 16 = (c.toNat : Int) % 16 := Int.tmod_eq_emod_of_nonneg (by omega)
              have hx1 := fun W => hex_index ((c.toNat : Int) / 16) (c.toNat / 16) W (by omega) (by omega) .u8
              have hx2 := fun W => hex_index ((c.toNat : Int) % 16) (c.toNat % 16) W (by omega) (by omega) .u8
              go_wp2_with fail
              go_region_held3 (fun _ => True) (trivial)
                ((refine step_append_lit (by rfl) _ _ (by rfl) w.heap.size _ _ (by rfl) (by first | exact World.ownsRow.alloc hown _ | exact (World.ownsRow.alloc hown _).drew | exact ((World.ownsRow.alloc hown _).drew).drew) ⟨wr.heap.size, 0, none⟩
                    [92, 117, 48, 48, hexB (c.toNat / 16), hexB (c.toNat % 16)] 6 6 (by rfl) (rb_const wr _ _ rfl (0, 0)) (by rfl) (by omega) (by omega) (by simp; omega) ?_; intro v' w2 hown' hgrow'))
              all_goals go_wp2
              all_goals
                rw [List.cons_append, ← HE.out, ← HT.out] at hown'
                have hb3 : Below w.heap.size w w2 := Below.grown (by first | exact hbr.alloc hsz _ | exact (hbr.alloc hsz _).drew) hgrow' (by simp; omega) (fun k hk => (hown.lt k hk).1)
                exact ⟨⟨k + 1, by omega, by go_num, hown', hb3⟩, by simp [intOf]; omega⟩
            · have HE : Hid (escB c = [c]) := HE0.out.trans (if_neg h32)
              clear HE0
              go_wp2_with (at_builtin; (refine wpList_append_lit rfl _ _ rfl _ _ _ rfl hown [c] _ rfl 1 rfl rfl (by omega) (by omega) ?_; intro v' w2 hown' hgrow'))
              rw [List.cons_append, ← HE.out, ← HT.out] at hown'
              have hb3 : Below w.heap.size w w2 := hbr.grown hgrow' hsz (fun k hk => (hown.lt k hk).1)
              exact ⟨⟨k + 1, by omega, by go_num, hown', hb3⟩, by simp [intOf]; omega⟩
      · have hkl : k = l.length := by omega
        rw [hkl, List.take_length] at hown hlen1
        go_wp2_with (at_builtin; (refine wpList_append_lit rfl _ _ rfl _ _ _ rfl hown [34] _ rfl 1 rfl rfl (by omega) (by omega) ?_; intro v' w2 hown' hgrow'))
        obtain ⟨A, n, cap, rfl, hrb, hn⟩ := hown'.form
        have hstr := run_str_rb w2 A n cap _ hrb hn
        have hb3 : Below w.heap.size w w2 := hbr.grown hgrow' hsz (fun k hk => (hown.lt k hk).1)
        go_simp
        go_wp2
        go_ret2
        exact PutPost.yes HV.out rfl hb3
end Go.Proofs.YtonpkbiplcbodaaDoor
namespace Go.Proofs.YtonpkbiplcbodaaDoor
open Go.ChangeShapes Go.WideShapes Go.ChangeAt Go.RowKit Go.IntWalk
set_option linter.unusedVariables false
set_option maxRecDepth 100000

theorem wpList_append_st {ops : Array Oper} {rest : List Oper} {o : Oper} {a : Act} {Q : Exit → Act → World → Prop} {w : World} (hgd : o.guard = none) (s x : Operand)
    (ho : o.op = .call { callee := .builtin .append, args := #[s, x], argTypes := #[45, 9] })
    (base : Nat) (v : Value) (bs : List UInt8) (hs : a.eval s = v) (hown : OwnBs base w v bs) (l : List UInt8) (hx : a.eval x = .string ⟨l.toArray⟩) (hlen : bs.length + l.length ≤ 70368744177664) (hbase : base ≤ w.heap.size)
    (h : ∀ v' w', OwnBs base w' v' (bs ++ l) → w.grownBy w' v.ownBlock → wpList Tryd.prog ops Q rest (a.put o.dst v') w') :
    wpList Tryd.prog ops Q (o :: rest) a w := by
  obtain ⟨i0, hi, hz0, hz1, hz2⟩ := info_parts infoU8
  refine Lib.wpList_append_own_string w hgd s x 45 9 ho base 5 i0 Tryd.underlying45 Tryd.underlying9 hi hz0 hz1 hz2 v _ _ hs hown ⟨l.toArray⟩ hx (by unfold maxLen; show _ + l.length ≤ _; omega) (by show _ + l.length ≤ _; omega) hbase ?_
  intro v' w' h1 h2 _
  refine h v' w' ?_ h2
  unfold OwnBs
  rw [List.length_append, List.map_append]
  exact h1
/-- What a call that puts bytes behind bytes of one's own leaves: all below base, and all that isn't bytes. -/
structure Nb (base : Nat) (w w' : World) : Prop where
  os : w'.os = w.os
  tape : w'.tape = w.tape
  output : w'.output = w.output
  size : w.heap.size ≤ w'.heap.size
  low : ∀ k, k < base → w'.heap[k]? = w.heap[k]?
  box : ∀ (k : Nat) (o : Obj), w.heap[k]? = some o → (∀ c f, o ≠ .cells c 5 f) → w'.heap[k]? = some o
section
variable {base : Nat} {w w1 w2 : World} {v : Value} {bs : List UInt8}
theorem Nb.refl (base : Nat) (w : World) : Nb base w w := ⟨rfl, rfl, rfl, Nat.le_refl _, fun _ _ => rfl, fun _ _ h _ => h⟩
theorem Nb.trans (h : Nb base w w1) (h2 : Nb base w1 w2) : Nb base w w2 :=
  ⟨h2.os.trans h.os, h2.tape.trans h.tape, h2.output.trans h.output, Nat.le_trans h.size h2.size, fun k hk => (h2.low k hk).trans (h.low k hk), fun k o hk ho => h2.box k o (h.box k o hk ho) ho⟩
theorem Nb.of_below (h : Below w.heap.size w w1) (hB : base ≤ w.heap.size) : Nb base w w1 :=
  ⟨h.os, h.tape, h.output, h.size, fun k hk => h.block k (by omega), fun k o hk _ => (h.block k (Array.getElem?_eq_some_iff.1 hk).1).trans hk⟩
theorem Nb.of_gb (hg : w.grownBy w1 v.ownBlock) (ho : OwnBs base w v bs) (hB : base ≤ w.heap.size) : Nb base w w1 :=
  ⟨hg.os, hg.tape, hg.output, hg.size, fun k hk => hg.block k (by omega) (fun e => by have := (ho.lt k e.symm).1; omega), fun k o hk hno => (hg.block k (Array.getElem?_eq_some_iff.1 hk).1 (ho.ne hk hno)).trans hk⟩
theorem Nb.below (h : Nb base w w1) : Below base w w1 := ⟨h.os, h.tape, h.output, h.size, h.low⟩
theorem Nb.blk (h : Nb base w w1) {m : Nat} {T : TypeId} {cs : List Value} (hb : Blk w m T cs) (hT : T ≠ 5) : Blk w1 m T cs := h.box m _ hb (fun c f e => by cases e; exact hT rfl)
end
/-- How a call of the document's writer ends. -/
def REnd (base : Nat) (w : World) (r : Res) (e : Ending) (w' : World) : Prop :=
  Nb base w w' ∧ match r with
  | .ok b => b.length ≤ 65536 ∧ ∃ v', e = .returned (.tuple #[v', .int .i64 0]) ∧ OwnBs base w' v' b
  | .error x => x ≠ 0 ∧ e = .returned (.tuple #[.slice none 0 0, .int .i64 x])
section
variable {base : Nat} {w w1 : World} {r : Res} {e : Ending}
theorem REnd.ok {b : List UInt8} {v' : Value} (hr : r = .ok b) (n : Nb base w w1) (hl : b.length ≤ 65536) (h : OwnBs base w1 v' b) : REnd base w r (.returned (.tuple #[v', .int .i64 0])) w1 := by
  rw [hr]; exact ⟨n, hl, v', rfl, h⟩
theorem REnd.bad {x : Int} (hr : r = .error x) (n : Nb base w w1) (hx : x ≠ 0) : REnd base w r (.returned (.tuple #[.slice none 0 0, .int .i64 x])) w1 := by
  rw [hr]; exact ⟨n, hx, rfl⟩
theorem REnd.of_ok {b : List UInt8} (hr : r = .ok b) (h : REnd base w r e w1) : Nb base w w1 ∧ b.length ≤ 65536 ∧ ∃ v', e = .returned (.tuple #[v', .int .i64 0]) ∧ OwnBs base w1 v' b := by rw [hr] at h; exact h
theorem REnd.of_bad {x : Int} (hr : r = .error x) (h : REnd base w r e w1) : Nb base w w1 ∧ x ≠ 0 ∧ e = .returned (.tuple #[.slice none 0 0, .int .i64 x]) := by rw [hr] at h; exact h
theorem REnd.nb (h : REnd base w r e w1) {w0 : World} (n : Nb base w0 w) : REnd base w0 r e w1 := ⟨n.trans h.1, h.2⟩
end
/-- The slice is handed back, unless it is too long. -/
theorem reflong_calls (base : Nat) (v : Value) (b : List UInt8) (w : World) (h : OwnBs base w v b) :
    Calls Tryd.prog 54 #[v] w (REnd base w (lng b)) := by
  obtain ⟨A, n, cap, rfl, hr, hn⟩ := h.form
  by_cases h6 : b.length ≤ 65536
  · have hd : decide ((65536 : Int) < (n : Int)) = false := by have := hn.out; simp; omega
    have HO := Lib.hid (And.intro h h6)
    clear h hn h6
    go_enter Tryd.func54, Tryd.ntmps54
    go_wp2_with fail
    go_ret2
    exact REnd.ok (by unfold lng; rw [if_pos HO.out.2]) (Nb.refl _ _) HO.out.2 HO.out.1
  · have hd : decide ((65536 : Int) < (n : Int)) = true := by have := hn.out; simp; omega
    have HO := Lib.hid h6
    clear h hn h6
    go_enter Tryd.func54, Tryd.ntmps54
    go_wp2_with fail
    go_ret2
    exact REnd.bad (by unfold lng; rw [if_neg HO.out]) (Nb.refl _ _) (by decide)
/-- Bytes behind bytes, if they are not too many. -/
theorem OwnBs.nbx {base : Nat} {w w1 : World} {v : Value} {bs : List UInt8} (h : OwnBs base w v bs) (b : Below w.heap.size w w1) : OwnBs base w1 v bs := h.below b (Nat.le_refl _)
set_option maxHeartbeats 2000000 in
theorem reftext_calls (base : Nat) (v : Value) (b l : List UInt8) (w : World) (h : OwnBs base w v b) (hb : b.length ≤ 65536) (hB : base ≤ w.heap.size) (hl : l.length ≤ 140737488355328) :
    Calls Tryd.prog 56 #[v, .string ⟨l.toArray⟩] w (REnd base w (txt b l)) := by
  by_cases h6 : 65536 < l.length
  · have HR := Lib.hid (show txt b l = .error 3 by unfold txt; rw [if_pos h6])
    have hd1 : decide ((65536 : Int) < (l.length : Int)) = true := by simp; omega
    clear h6 h
    go_enter Tryd.func56, Tryd.ntmps56
    go_wp2_with fail
    go_ret2
    exact REnd.bad HR.out (Nb.refl _ _) (by decide)
  · have hd1 : decide ((65536 : Int) < (l.length : Int)) = false := by simp; omega
    have HQ := refput_calls l w (by omega)
    have hpl := putF_le l
    obtain ⟨q, hq⟩ : ∃ q, putF l = q := ⟨_, rfl⟩
    rw [hq] at hpl
    have hql : q.length ≤ 70368744000000 := by omega
    have HP := Lib.hid h
    have HL := Lib.hid hl
    have H6 := Lib.hid h6
    unfold PutPost at HQ
    rw [hq] at HQ
    clear h hl hpl h6
    cases hv : Lib.validD l with
    | false =>
      have HR := Lib.hid (show txt b l = .error 1 by unfold txt; rw [if_neg H6.out, hv]; rfl)
      rw [hv] at HQ
      clear hq hv
      go_enter Tryd.func56, Tryd.ntmps56
      go_wp2_with fail
      refine HQ.mono ?_
      rintro e w1 ⟨rfl, b1⟩
      go_wp2_with fail
      go_ret2
      exact REnd.bad HR.out (Nb.of_below b1 hB) (by decide)
    | true =>
      have HR := Lib.hid (show txt b l = lng (b ++ q) by unfold txt; rw [if_neg H6.out, hv, if_pos rfl, hq])
      rw [hv] at HQ
      clear hq hv
      cases hr : lng (b ++ q)
      all_goals
        have HR2 := Lib.hid hr
        clear hr
        go_enter Tryd.func56, Tryd.ntmps56
        go_wp2_with fail
        refine HQ.mono ?_
        rintro e w1 ⟨rfl, b1⟩
        have HB1 := Lib.hid b1
        have hB1 : base ≤ w1.heap.size := Nat.le_trans hB b1.size
        clear b1
        go_wp2_with (at_builtin; refine wpList_append_st rfl _ _ rfl base v b rfl (HP.out.nbx HB1.out) q rfl (by omega) hB1 ?_; intro v2 w2 own2 gb2; have n2 := Lib.hid ((Nb.of_below HB1.out hB).trans (Nb.of_gb gb2 (HP.out.nbx HB1.out) hB1)); have own2' := Lib.hid own2; clear own2 gb2)
        refine (reflong_calls base v2 _ _ own2'.out).mono ?_
        intro e w3 hE
        first | (obtain ⟨n3, hx, rfl⟩ := REnd.of_bad HR2.out hE; clear hE; have N3 := Lib.hid n3; clear n3) | (obtain ⟨n3, hl3, v3, rfl, o3⟩ := REnd.of_ok HR2.out hE; clear hE; have N3 := Lib.hid (And.intro n3 o3); clear n3 o3)
        go_wp2_with fail
        go_ret2
      · exact REnd.bad (HR.out.trans HR2.out) (n2.out.trans N3.out) hx
      · exact REnd.ok (HR.out.trans HR2.out) (n2.out.trans N3.out.1) hl3 N3.out.2
end Go.Proofs.YtonpkbiplcbodaaDoor
