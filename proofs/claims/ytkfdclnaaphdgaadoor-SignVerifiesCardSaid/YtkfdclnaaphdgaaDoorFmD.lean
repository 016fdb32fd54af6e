/- Layers 4 and 6: texts put together (RfH RfI RfJ RfK RfL RfM Root FdT RfN). -/
import Derived.Test.YtkfdclnaaphdgaaDoorFmC
import Derived.Test.YtkfdclnaaphdgaaDoorFmB
import Derived.Deep.DeepCutAuto
namespace Go.Proofs.YtkfdclnaaphdgaaDoor
open Go.ChangeShapes Go.WideShapes Go.ChangeAt Go.RowKit Go.IntWalk
set_option linter.unusedVariables false

theorem UBlk.rb {w : World} {g : Nat} {bs : List UInt8} (h : UBlk w g bs) : RB w (some ⟨g, 0, none⟩) bs := by
  intro k hk
  refine ⟨g, 0, rfl, (Array.getElem?_eq_some_iff.1 h).1, ?_⟩
  rw [Nat.zero_add, h.cell hk]
  simp [List.getD_eq_getElem?_getD, hk]
theorem UBlk.new {w : World} (bs : List UInt8) : UBlk (w.alloc (.cells (u8s bs).toArray 22)) w.heap.size bs := heap_alloc_new w _
theorem UBlk.alloc {w : World} {g : Nat} {bs : List UInt8} (h : UBlk w g bs) (o : Obj) : UBlk (w.alloc o) g bs := (heap_alloc_old w _ (Array.getElem?_eq_some_iff.1 h).1).trans h
theorem UBlk.setFar {W : World} {g g2 : Nat} {bs : List UInt8} (h : UBlk W g bs) (hne : g2 ≠ g) (vs : List Value) : UBlk (W.setCells g2 0 vs) g bs := (setCells_other hne vs 0 W).trans h
theorem UBlk.thereL {w : World} {g n : Nat} {bs : List UInt8} (h : UBlk w g bs) (hn : n = bs.length) : w.there g 0 n := by
  intro j hj
  have hj2 : j < bs.length := by omega
  rw [Nat.zero_add]
  exact ⟨by rw [h.cell hj2]; rfl, h.frozen j⟩
def NPost (r : Nat) (w : World) (e : Ending) (w' : World) : Prop := ∃ v, e = .returned v ∧ IsNum v r ∧ Below w.heap.size w w'
section
variable {P : Program} {ops : Array Oper} {W0 : World} {Q : Act → Prop} {o : Oper} {rest : List Oper} {Rs : List (Value → Prop)} {a : Act}
theorem ls_run (x : Value) (hw : Region.wanted o (yielded ops a.tmps) = true) (h1 : ∀ W, Below W0.heap.size W0 W → (execOp a.eval o).run P W = .ok (.value x) W) (h2 : wpLs P ops (fun w' => Below W0.heap.size W0 w') Q rest Rs (a.put o.dst x)) :
    wpLs P ops (fun w' => Below W0.heap.size W0 w') Q (o :: rest) ((· = x) :: Rs) a :=
  ls_exact hw (fun W hW => by unfold lsAt; rw [h1 W hW]; exact ⟨rfl, rfl⟩) h2
theorem ls_num {g : Nat} {ds : List Int} (x : Operand) (hN : NBlk W0 g ds) (hl : ds.length = 16) (hb : g < W0.heap.size) (ho : o.op = .load 50 x) (hw : Region.wanted o (yielded ops a.tmps) = true) (hx : a.eval x = .pointer (some ⟨g, 0, none⟩))
    (h2 : wpLs Tryd.prog ops (fun w' => Below W0.heap.size W0 w') Q rest Rs (a.put o.dst (A16 ds))) : wpLs Tryd.prog ops (fun w' => Below W0.heap.size W0 w') Q (o :: rest) ((· = A16 ds) :: Rs) a :=
  ls_load 50 x ho g 0 _ _ hN.rng hb Tryd.underlying50 rfl (size16' ds hl) hw hx h2
theorem ls_call_num (r : Nat) (f : FuncId) (args : Array Value) (hw : Region.wanted o (yielded ops a.tmps) = true) (he : ∀ W, (execOp a.eval o).run P W = .ok (.enter f args) W)
    (hc : ∀ W, Calls P f args W (NPost r W)) (h2 : ∀ v, IsNum v r → wpLs P ops (fun w' => Below W0.heap.size W0 w') Q rest Rs (a.put o.dst v)) :
    wpLs P ops (fun w' => Below W0.heap.size W0 w') Q (o :: rest) ((fun v => IsNum v r) :: Rs) a :=
  ls_call _ f args hw he hc h2
end
end Go.Proofs.YtkfdclnaaphdgaaDoor
namespace Go.Proofs.YtkfdclnaaphdgaaDoor
open Go.ChangeShapes Go.WideShapes Go.ChangeAt Go.RowKit Go.IntWalk
set_option linter.unusedVariables false

theorem modN (r : Nat) : ((r % P : Nat) : Int) = (r : Int) % (P : Int) := by exact Int.natCast_emod r P
theorem refAdd_num (u v : Value) (r s : Nat) (hu : IsNum u r) (hv : IsNum v s) (w : World) : Calls Tryd.prog 67 #[u, v] w (NPost (r + s) w) := by
  obtain ⟨xs, rfl, hx, hxv⟩ := hu
  obtain ⟨ys, rfl, hy, hyv⟩ := hv
  refine (refAdd_calls xs ys hx hy w).mono ?_
  rintro e w' ⟨rfl, hb⟩
  refine ⟨_, rfl, ⟨_, rfl, carryF_ok _ (zipAdd_len _ _ _) (zipAdd_bnd xs ys hx hy), ?_⟩, hb⟩
  rw [carryF_mod _ (zipAdd_len _ _ _), zipAdd_val xs ys hx.1 hy.1, Int.add_emod, hxv, hyv, modN, modN, modN, ← Int.add_emod, Int.natCast_add]
theorem refSub_num (u v : Value) (r s : Nat) (hu : IsNum u r) (hv : IsNum v s) (w : World) : Calls Tryd.prog 66 #[u, v] w (NPost (r + (P - s % P)) w) := by
  obtain ⟨xs, rfl, hx, hxv⟩ := hu
  obtain ⟨ys, rfl, hy, hyv⟩ := hv
  refine (refSub_calls xs ys hx hy w).mono ?_
  rintro e w' ⟨rfl, hb⟩
  refine ⟨_, rfl, ⟨_, rfl, carryF_ok _ (zipSub_len _ _ _) (zipSub_bnd xs ys hx hy), ?_⟩, hb⟩
  have hp : s % P ≤ P := Nat.le_of_lt (mod_lt_P s)
  rw [carryF_mod _ (zipSub_len _ _ _), zipSub_val xs ys hx.1 hy.1, Int.sub_emod, hxv, hyv]
  rw [modN (r + (P - s % P)), Int.natCast_add, Int.natCast_sub hp, modN, modN, ← Int.sub_emod]
  rw [show (r : Int) + ((P : Int) - (s : Int) % (P : Int)) = ((r : Int) - (s : Int) % (P : Int)) + (P : Int) by omega, Int.add_emod_right, Int.sub_emod (r : Int) ((s : Int) % (P : Int)), Int.emod_emod, ← Int.sub_emod]
theorem IsNum.zero : IsNum (A16 Z16) 0 := ⟨Z16, rfl, ⟨rfl, by decide⟩, by decide +kernel⟩
set_option maxHeartbeats 4000000 in
theorem refOdd_calls (v : Value) (r : Nat) (hv : IsNum v r) (w : World) :
    Calls Tryd.prog 52 #[v] w fun e w' => e = .returned (.bool (decide (r % P % 2 = 1))) ∧ Below w.heap.size w w' := by
  obtain ⟨ds, rfl, hok, hval⟩ := hv
  unfold A16
  have hle : ∀ W, Calls Tryd.prog 87 #[.agg (i64s ds).toArray] W (RLeast r W) := fun W => refLeast_calls ds hok r hval W
  have h0 : NBlk (w.alloc (.cells (i64s ds).toArray 50)) w.heap.size ds := NBlk.new _
  have hsz := size16' ds hok.1
  obtain ⟨cs, hcs⟩ : ∃ cs, i64s ds = cs := ⟨_, rfl⟩
  have hrg := h0.rng
  rw [hcs] at hle h0 hsz hrg ⊢
  have H0 := Lib.hid (And.intro hrg (And.intro hsz hle))
  clear h0 hrg hsz hle hcs hok hval
  go_enter Tryd.func52, Tryd.ntmps52
  go_wp2_with (refine wpList_load_mid rfl 50 _ rfl w.heap.size 0 rfl cs _ H0.out.1 Tryd.underlying50 rfl H0.out.2.1 ?_)
  refine (H0.out.2.2 _).mono ?_
  rintro e w1 ⟨es, rfl, hdg, hve, b1⟩
  obtain ⟨d, t, rfl⟩ : ∃ d t, es = d :: t := by
    cases es with
    | nil => exact absurd hdg.1 (by simp)
    | cons d t => exact ⟨d, t, rfl⟩
  have hix : ∀ W : World, (Instr.index 50 (A16 (d :: t)) (.int .i64 0)).run Tryd.prog W = .ok (.int .i64 d) W := by
    intro W
    have h16 : 0 ≤ (0 : Int) ∧ (0 : Int) < (16 : Nat) := by decide
    simp [A16, i64s, Instr.index, run_underlying Tryd.underlying50, asIntOf, go_sem]
  have hd := hdg.2 d (List.mem_cons_self ..)
  have ht : Int.tmod d 2 = d % 2 := Int.tmod_eq_emod_of_nonneg hd.1
  have hres : (d % 2 == 1) = decide (r % P % 2 = 1) := by
    rw [Bool.eq_iff_iff, beq_iff_eq, decide_eq_true_eq]
    simp only [valD] at hve
    omega
  have hb := below1 b1
  have HR := Lib.hid (And.intro hres hb)
  clear hdg hve b1 hres hb
  go_wp2_with fail
  go_ret
  exact ⟨ret_bool HR.out.1, HR.out.2⟩
end Go.Proofs.YtkfdclnaaphdgaaDoor
namespace Go.Proofs.YtkfdclnaaphdgaaDoor
open Go.ChangeShapes Go.WideShapes Go.ChangeAt Go.RowKit Go.IntWalk
set_option linter.unusedVariables false

/-- What is added to place m of the row of products. -/
def addAt (t : List Int) (m : Nat) (x : Int) : List Int := t.set m (t.getD m 0 + x)
theorem addAt_len (t : List Int) (m : Nat) (x : Int) : (addAt t m x).length = t.length := by simp [addAt]
theorem valD_set : ∀ (t : List Int) (m : Nat) (x : Int), m < t.length → valD (t.set m (t.getD m 0 + x)) = valD t + 65536 ^ m * x
  | [], m, x, h => by simp at h
  | d :: t, 0, x, _ => by simp [valD]; omega
  | d :: t, m + 1, x, h => by
    have ih := valD_set t m x (by simpa using h)
    simp only [List.set_cons_succ, List.getD_cons_succ, valD, ih, Int.pow_succ]
    rw [Int.mul_add, show (65536 : Int) ^ m * 65536 * x = 65536 * (65536 ^ m * x) by rw [Int.mul_comm (65536 ^ m) 65536, Int.mul_assoc]]
    omega
theorem valD_addAt (t : List Int) (m : Nat) (x : Int) (h : m < t.length) : valD (addAt t m x) = valD t + 65536 ^ m * x := valD_set t m x h
/-- A row of products: behind j of the second's digits. -/
def rowF (t : List Int) (a : Int) (i : Nat) : List Int → Nat → List Int
  | [], _ => t
  | b :: bs, k => rowF (addAt t (i + k) (a * b)) a i bs (k + 1)
theorem rowF_len : ∀ (bs t : List Int) (a : Int) (i k : Nat), (rowF t a i bs k).length = t.length
  | [], t, a, i, k => rfl
  | b :: bs, t, a, i, k => by rw [rowF, rowF_len, addAt_len]
theorem rowF_val : ∀ (bs t : List Int) (a : Int) (i k : Nat), i + k + bs.length ≤ t.length → valD (rowF t a i bs k) = valD t + 65536 ^ (i + k) * (a * valD bs)
  | [], t, a, i, k, h => by simp [rowF, valD]
  | b :: bs, t, a, i, k, h => by
    have h' : i + k + (bs.length + 1) ≤ t.length := h
    rw [rowF, rowF_val bs _ a i (k + 1) (by rw [addAt_len]; omega), valD_addAt _ _ _ (by omega), valD, show i + (k + 1) = i + k + 1 by omega, Int.pow_succ]
    rw [Int.mul_add a, Int.mul_add, show a * (65536 * valD bs) = 65536 * (a * valD bs) by rw [← Int.mul_assoc, Int.mul_comm a, Int.mul_assoc], Int.mul_assoc]
    omega
def prodF (t : List Int) (ys : List Int) : List Int → Nat → List Int
  | [], _ => t
  | a :: xs, i => prodF (rowF t a i ys 0) ys xs (i + 1)
theorem prodF_len : ∀ (xs t ys : List Int) (i : Nat), (prodF t ys xs i).length = t.length
  | [], t, ys, i => rfl
  | a :: xs, t, ys, i => by rw [prodF, prodF_len, rowF_len]
theorem prodF_val : ∀ (xs t ys : List Int) (i : Nat), i + xs.length + ys.length ≤ t.length + 1 → valD (prodF t ys xs i) = valD t + 65536 ^ i * (valD xs * valD ys)
  | [], t, ys, i, h => by simp [prodF, valD]
  | a :: xs, t, ys, i, h => by
    have h' : i + (xs.length + 1) + ys.length ≤ t.length + 1 := h
    rw [prodF, prodF_val xs _ ys (i + 1) (by rw [rowF_len]; omega), rowF_val ys t a i 0 (by omega), valD, Int.pow_succ, Nat.add_zero]
    rw [Int.add_mul a, Int.mul_add (65536 ^ i), show 65536 * valD xs * valD ys = 65536 * (valD xs * valD ys) by rw [Int.mul_assoc], Int.mul_assoc (65536 ^ i) 65536]
    omega
/-- How great what is added up can be. -/
def Bnds (B : Int) (t : List Int) : Prop := ∀ x ∈ t, -B ≤ x ∧ x ≤ B
theorem addAt_bnd {B C : Int} {t : List Int} {m : Nat} {x : Int} (h : Bnds B t) (hm : m < t.length) (hx : -C ≤ x ∧ x ≤ C) (hC : 0 ≤ C) : Bnds (B + C) (addAt t m x) := by
  intro y hy
  have hg := h (t.getD m 0) (by rw [List.getD_eq_getElem?_getD, List.getElem?_eq_getElem hm]; exact List.getElem_mem _)
  unfold addAt at hy
  rcases List.mem_or_eq_of_mem_set hy with hy | rfl
  · have := h y hy; omega
  · omega
theorem mul_bnd {a b : Int} (ha : -262144 ≤ a ∧ a ≤ 262144) (hb : -262144 ≤ b ∧ b ≤ 262144) : -68719476736 ≤ a * b ∧ a * b ≤ 68719476736 := by
  have h1 := Int.mul_nonneg (show 0 ≤ 262144 - a by omega) (show 0 ≤ 262144 - b by omega)
  have h2 := Int.mul_nonneg (show 0 ≤ 262144 + a by omega) (show 0 ≤ 262144 + b by omega)
  have h3 := Int.mul_nonneg (show 0 ≤ 262144 - a by omega) (show 0 ≤ 262144 + b by omega)
  have h4 := Int.mul_nonneg (show 0 ≤ 262144 + a by omega) (show 0 ≤ 262144 - b by omega)
  simp only [Int.mul_sub, Int.mul_add, Int.sub_mul, Int.add_mul] at h1 h2 h3 h4
  generalize a * b = p at *
  omega
/-- The upper half is folded onto the lower. -/
def foldD (t : List Int) (k : Nat) : List Int := (List.range 16).map fun i => if i < k then (if i < 15 then t.getD i 0 + 38 * t.getD (i + 16) 0 else t.getD i 0) else 0
theorem foldD_len (t : List Int) (k : Nat) : (foldD t k).length = 16 := by simp [foldD]
theorem foldD_set (t : List Int) (k : Nat) (h : k < 16) : (foldD t k).set k (if k < 15 then t.getD k 0 + 38 * t.getD (k + 16) 0 else t.getD k 0) = foldD t (k + 1) := by
  apply List.ext_getElem?
  intro i
  rw [List.getElem?_set]
  by_cases e : k = i
  · subst e; simp [foldD, h]
  · rw [if_neg e]
    by_cases hi : i < 16
    · by_cases h1 : i < k
      · simp [foldD, hi, h1, Nat.lt_succ_of_lt h1]
      · simp [foldD, hi, h1, show ¬ i < k + 1 by omega]
    · simp [foldD, hi]
theorem foldD_val (t : List Int) (h : t.length = 31) : (valD (foldD t 16)) % (P : Int) = valD t % (P : Int) := by
  match t, h with
  | [t0, t1, t2, t3, t4, t5, t6, t7, t8, t9, t10, t11, t12, t13, t14, t15, t16, t17, t18, t19, t20, t21, t22, t23, t24, t25, t26, t27, t28, t29, t30], _ =>
    have e : valD [t0, t1, t2, t3, t4, t5, t6, t7, t8, t9, t10, t11, t12, t13, t14, t15, t16, t17, t18, t19, t20, t21, t22, t23, t24, t25, t26, t27, t28, t29, t30] =
      valD [t0 + 38 * t16, t1 + 38 * t17, t2 + 38 * t18, t3 + 38 * t19, t4 + 38 * t20, t5 + 38 * t21, t6 + 38 * t22, t7 + 38 * t23, t8 + 38 * t24, t9 + 38 * t25, t10 + 38 * t26, t11 + 38 * t27, t12 + 38 * t28, t13 + 38 * t29, t14 + 38 * t30, t15] +
        (P : Int) * (2 * valD [t16, t17, t18, t19, t20, t21, t22, t23, t24, t25, t26, t27, t28, t29, t30]) := by
      have hp : (P : Int) = 57896044618658097711785492504343953926634992332820282019728792003956564819949 := by decide +kernel
      rw [hp]
      simp only [valD]
      omega
    show valD [t0 + 38 * t16, t1 + 38 * t17, t2 + 38 * t18, t3 + 38 * t19, t4 + 38 * t20, t5 + 38 * t21, t6 + 38 * t22, t7 + 38 * t23, t8 + 38 * t24, t9 + 38 * t25, t10 + 38 * t26, t11 + 38 * t27, t12 + 38 * t28, t13 + 38 * t29, t14 + 38 * t30, t15] % (P : Int) = _
    rw [e, Int.add_mul_emod_self_left]
end Go.Proofs.YtkfdclnaaphdgaaDoor
namespace Go.Proofs.YtkfdclnaaphdgaaDoor
open Go.ChangeShapes Go.WideShapes Go.ChangeAt Go.RowKit Go.IntWalk
set_option linter.unusedVariables false

def Z31 : List Int := List.replicate 31 0
def TBlk (w : World) (g : Nat) (ds : List Int) : Prop := w.heap[g]? = some (.cells (i64s ds).toArray 119 (0, 0))
theorem TBlk.cell {w : World} {g : Nat} {ds : List Int} (h : TBlk w g ds) {k : Nat} {n : Int} (hk : ds[k]? = some n) : w.cell? ⟨g, k, none⟩ = some (.int .i64 n) := by
  rw [cell_of_row _ _ _ _ _ _ h]; simp [i64s, hk]
theorem TBlk.frozen {w : World} {g : Nat} {ds : List Int} (h : TBlk w g ds) (k : Nat) : w.frozen? ⟨g, k, none⟩ = false := by
  unfold TBlk at h; simp [World.frozen?, h]
theorem TBlk.set_ {w : World} {g : Nat} {ds : List Int} (h : TBlk w g ds) (k : Nat) (n : Int) : TBlk (w.setCell ⟨g, k, none⟩ (.int .i64 n)) g (ds.set k n) := by
  unfold TBlk at h ⊢
  simp [World.setCell, Array.getElem?_modify, h, i64s, List.map_set]
theorem TBlk.other {w : World} {g g2 k : Nat} {ds : List Int} {x : Value} (h : TBlk w g ds) (hne : g2 ≠ g) : TBlk (w.setCell ⟨g2, k, none⟩ x) g ds := by
  unfold TBlk at h ⊢
  simp [World.setCell, Array.getElem?_modify, h, hne]
theorem TBlk.alloc {w : World} {g : Nat} {ds : List Int} (h : TBlk w g ds) (o : Obj) : TBlk (w.alloc o) g ds := (heap_alloc_old w _ (Array.getElem?_eq_some_iff.1 h).1).trans h
/-- In a row, behind m places. -/
def Bnd2 (B : Int) (m : Nat) (t : List Int) : Prop := ∀ j x, t[j]? = some x → if j < m then -(B + 68719476736) ≤ x ∧ x ≤ B + 68719476736 else -B ≤ x ∧ x ≤ B
theorem Bnd2.step {B : Int} {m : Nat} {t : List Int} {p : Int} (h : Bnd2 B m t) (hm : m < t.length) (hp : -68719476736 ≤ p ∧ p ≤ 68719476736) (hB : 0 ≤ B) : Bnd2 B (m + 1) (addAt t m p) := by
  intro j x hx
  unfold addAt at hx
  rw [List.getElem?_set] at hx
  by_cases e : m = j
  · subst e
    rw [if_pos rfl, if_pos hm] at hx
    have hg := h m t[m] (List.getElem?_eq_getElem hm)
    rw [if_neg (by omega)] at hg
    rw [if_pos (by omega)]
    have hx := Option.some.inj hx
    rw [List.getD_eq_getElem?_getD, List.getElem?_eq_getElem hm, Option.getD_some] at hx
    omega
  · rw [if_neg e] at hx
    have hg := h j x hx
    by_cases h1 : j < m
    · rw [if_pos h1] at hg; rw [if_pos (by omega)]; exact hg
    · rw [if_neg h1] at hg; rw [if_neg (by omega)]; exact hg
theorem Bnd2.start {B : Int} {m : Nat} {t : List Int} (h : Bnds B t) (hB : 0 ≤ B) : Bnd2 B m t := by
  intro j x hx
  have := h x (List.mem_of_getElem? hx)
  split <;> omega
theorem Bnd2.done {B : Int} {m : Nat} {t : List Int} (h : Bnd2 B m t) : Bnds (B + 68719476736) t := by
  intro x hx
  obtain ⟨j, hj⟩ := List.getElem?_of_mem hx
  have := h j x hj
  by_cases e : j < m
  · rw [if_pos e] at this; omega
  · rw [if_neg e] at this; omega
def MulO (xs ys : List Int) (g i : Nat) (wr : World) : Prop := ∃ t, TBlk wr g t ∧ t.length = 31 ∧ Bnds ((i : Int) * 68719476736) t ∧ prodF t ys (xs.drop i) i = prodF Z31 ys xs 0
def MulI (xs ys : List Int) (g i k : Nat) (a : Int) (wr : World) : Prop := ∃ t, TBlk wr g t ∧ t.length = 31 ∧ Bnd2 ((i : Int) * 68719476736) (i + k) t ∧ prodF (rowF t a i (ys.drop k) k) ys (xs.drop (i + 1)) (i + 1) = prodF Z31 ys xs 0
theorem MulI.step {xs ys : List Int} {g i k : Nat} {a b : Int} {t : List Int} {wr : World} (ht : TBlk wr g t) (hl : t.length = 31) (hb : Bnd2 ((i : Int) * 68719476736) (i + k) t) (he : prodF (rowF t a i (ys.drop k) k) ys (xs.drop (i + 1)) (i + 1) = prodF Z31 ys xs 0)
    (hi : i < 16) (hk : k < 16) (hy : ys.length = 16) (hbk : ys[k]? = some b) (hp : -68719476736 ≤ a * b ∧ a * b ≤ 68719476736) {x : Int} (hx : t[i + k]? = some x) :
    MulI xs ys g i (k + 1) a (wr.setCell ⟨g, i + k, none⟩ (.int .i64 (x + a * b))) := by
  have hky : k < ys.length := by omega
  have hdr : ys.drop k = b :: ys.drop (k + 1) := by
    rw [List.drop_eq_getElem_cons hky]; congr 1; rw [List.getElem?_eq_getElem hky] at hbk; exact Option.some.inj hbk
  have hxx : t.getD (i + k) 0 = x := by rw [List.getD_eq_getElem?_getD, hx]; rfl
  refine ⟨addAt t (i + k) (a * b), ?_, by rw [addAt_len, hl], hb.step (by omega) hp (Int.mul_nonneg (Int.natCast_nonneg i) (by decide)), ?_⟩
  · have := ht.set_ (i + k) (x + a * b)
    unfold addAt; rw [hxx]; exact this
  · rw [hdr, rowF] at he; exact he
theorem MulI.done {xs ys : List Int} {g i : Nat} {a : Int} {wr : World} (h : MulI xs ys g i 16 a wr) (hy : ys.length = 16) : MulO xs ys g (i + 1) wr := by
  obtain ⟨t, ht, hl, hb, he⟩ := h
  rw [List.drop_of_length_le (by omega), rowF] at he
  refine ⟨t, ht, hl, ?_, he⟩
  have := hb.done
  rw [show ((i + 1 : Nat) : Int) * 68719476736 = (i : Int) * 68719476736 + 68719476736 by omega]
  exact this
theorem MulO.row {xs ys : List Int} {g i : Nat} {a : Int} {wr : World} (h : MulO xs ys g i wr) (hx : xs.length = 16) (hi : i < 16) (ha : xs[i]? = some a) : MulI xs ys g i 0 a wr := by
  obtain ⟨t, ht, hl, hb, he⟩ := h
  have hix : i < xs.length := by omega
  have hdr : xs.drop i = a :: xs.drop (i + 1) := by
    rw [List.drop_eq_getElem_cons hix]; congr 1; rw [List.getElem?_eq_getElem hix] at ha; exact Option.some.inj ha
  rw [hdr, prodF] at he
  exact ⟨t, ht, hl, Bnd2.start hb (Int.mul_nonneg (Int.natCast_nonneg i) (by decide)), he⟩
theorem blk4 (xs ys : List Int) (w : World) : NBlk ((((w.alloc (.cells (i64s xs).toArray 50)).alloc (.cells (i64s ys).toArray 50)).alloc (.cells (i64s Z16).toArray 50)).alloc (.cells #[.int .i64 0, .int .i64 0, .int .i64 0, .int .i64 0, .int .i64 0, .int .i64 0, .int .i64 0, .int .i64 0, .int .i64 0, .int .i64 0, .int .i64 0, .int .i64 0, .int .i64 0, .int .i64 0, .int .i64 0, .int .i64 0, .int .i64 0, .int .i64 0, .int .i64 0, .int .i64 0, .int .i64 0, .int .i64 0, .int .i64 0, .int .i64 0, .int .i64 0, .int .i64 0, .int .i64 0, .int .i64 0, .int .i64 0, .int .i64 0, .int .i64 0] 119)) w.heap.size xs ∧
    NBlk ((((w.alloc (.cells (i64s xs).toArray 50)).alloc (.cells (i64s ys).toArray 50)).alloc (.cells (i64s Z16).toArray 50)).alloc (.cells #[.int .i64 0, .int .i64 0, .int .i64 0, .int .i64 0, .int .i64 0, .int .i64 0, .int .i64 0, .int .i64 0, .int .i64 0, .int .i64 0, .int .i64 0, .int .i64 0, .int .i64 0, .int .i64 0, .int .i64 0, .int .i64 0, .int .i64 0, .int .i64 0, .int .i64 0, .int .i64 0, .int .i64 0, .int .i64 0, .int .i64 0, .int .i64 0, .int .i64 0, .int .i64 0, .int .i64 0, .int .i64 0, .int .i64 0, .int .i64 0, .int .i64 0] 119)) (w.heap.size + 1) ys ∧
    NBlk ((((w.alloc (.cells (i64s xs).toArray 50)).alloc (.cells (i64s ys).toArray 50)).alloc (.cells (i64s Z16).toArray 50)).alloc (.cells #[.int .i64 0, .int .i64 0, .int .i64 0, .int .i64 0, .int .i64 0, .int .i64 0, .int .i64 0, .int .i64 0, .int .i64 0, .int .i64 0, .int .i64 0, .int .i64 0, .int .i64 0, .int .i64 0, .int .i64 0, .int .i64 0, .int .i64 0, .int .i64 0, .int .i64 0, .int .i64 0, .int .i64 0, .int .i64 0, .int .i64 0, .int .i64 0, .int .i64 0, .int .i64 0, .int .i64 0, .int .i64 0, .int .i64 0, .int .i64 0, .int .i64 0] 119)) (w.heap.size + 1 + 1) Z16 ∧
    TBlk ((((w.alloc (.cells (i64s xs).toArray 50)).alloc (.cells (i64s ys).toArray 50)).alloc (.cells (i64s Z16).toArray 50)).alloc (.cells #[.int .i64 0, .int .i64 0, .int .i64 0, .int .i64 0, .int .i64 0, .int .i64 0, .int .i64 0, .int .i64 0, .int .i64 0, .int .i64 0, .int .i64 0, .int .i64 0, .int .i64 0, .int .i64 0, .int .i64 0, .int .i64 0, .int .i64 0, .int .i64 0, .int .i64 0, .int .i64 0, .int .i64 0, .int .i64 0, .int .i64 0, .int .i64 0, .int .i64 0, .int .i64 0, .int .i64 0, .int .i64 0, .int .i64 0, .int .i64 0, .int .i64 0] 119)) (w.heap.size + 1 + 1 + 1) Z31 ∧
    Below w.heap.size w ((((w.alloc (.cells (i64s xs).toArray 50)).alloc (.cells (i64s ys).toArray 50)).alloc (.cells (i64s Z16).toArray 50)).alloc (.cells #[.int .i64 0, .int .i64 0, .int .i64 0, .int .i64 0, .int .i64 0, .int .i64 0, .int .i64 0, .int .i64 0, .int .i64 0, .int .i64 0, .int .i64 0, .int .i64 0, .int .i64 0, .int .i64 0, .int .i64 0, .int .i64 0, .int .i64 0, .int .i64 0, .int .i64 0, .int .i64 0, .int .i64 0, .int .i64 0, .int .i64 0, .int .i64 0, .int .i64 0, .int .i64 0, .int .i64 0, .int .i64 0, .int .i64 0, .int .i64 0, .int .i64 0] 119)) := by
  obtain ⟨h1, h2, h3, h4⟩ := blk3 xs ys w
  have e3 : (((w.alloc (.cells (i64s xs).toArray 50)).alloc (.cells (i64s ys).toArray 50)).alloc (.cells (i64s Z16).toArray 50)).heap.size = w.heap.size + 1 + 1 + 1 := by simp
  have h5 := heap_alloc_new (((w.alloc (.cells (i64s xs).toArray 50)).alloc (.cells (i64s ys).toArray 50)).alloc (.cells (i64s Z16).toArray 50)) (.cells #[.int .i64 0, .int .i64 0, .int .i64 0, .int .i64 0, .int .i64 0, .int .i64 0, .int .i64 0, .int .i64 0, .int .i64 0, .int .i64 0, .int .i64 0, .int .i64 0, .int .i64 0, .int .i64 0, .int .i64 0, .int .i64 0, .int .i64 0, .int .i64 0, .int .i64 0, .int .i64 0, .int .i64 0, .int .i64 0, .int .i64 0, .int .i64 0, .int .i64 0, .int .i64 0, .int .i64 0, .int .i64 0, .int .i64 0, .int .i64 0, .int .i64 0] 119)
  rw [e3] at h5
  exact ⟨h1.alloc _, h2.alloc _, h3.alloc _, h5, h4.alloc (by rw [e3]; omega) _⟩
set_option maxRecDepth 100000 in
set_option maxHeartbeats 16000000 in
theorem refMul_calls (xs ys : List Int) (hx : NumOk xs) (hy : NumOk ys) (w : World) :
    Calls Tryd.prog 51 #[A16 xs, A16 ys] w fun e w' => e = .returned (A16 (carryF (carryF (foldD (prodF Z31 ys xs 0) 16)))) ∧ NumOk (carryF (carryF (foldD (prodF Z31 ys xs 0) 16))) ∧ Below w.heap.size w w' := by
  unfold A16
  go_enter Tryd.func51, Tryd.ntmps51
  have H0 := Lib.hid (blk4 xs ys w)
  have HX := Lib.hid hx
  have HY := Lib.hid hy
  obtain ⟨cx, hcx⟩ : ∃ cs, i64s xs = cs := ⟨_, rfl⟩
  obtain ⟨cy, hcy⟩ : ∃ cs, i64s ys = cs := ⟨_, rfl⟩
  rw [hcx, hcy] at H0
  rw [hcx, hcy]
  clear hx hy hcx hcy
  go_wp2_with fail
  go_loopw [6] (fun i wr => ∃ k : Nat, k ≤ 16 ∧ i = .int .i64 (k : Int) ∧ MulO xs ys (w.heap.size + 1 + 1 + 1) k wr ∧ NBlk wr w.heap.size xs ∧ NBlk wr (w.heap.size + 1) ys ∧ NBlk wr (w.heap.size + 1 + 1) Z16 ∧ Below w.heap.size w wr) (fun i _ => 16 - (intOf i).toNat)
  case atStart => exact ⟨0, by omega, rfl, ⟨Z31, H0.out.2.2.2.1, rfl, by intro x hx; rw [List.eq_of_mem_replicate hx]; decide, rfl⟩, H0.out.1, H0.out.2.1, H0.out.2.2.1, H0.out.2.2.2.2⟩
  case round =>
    obtain ⟨i, hi16, rfl, ho, hnx, hny, hnz, hbw⟩ := hrel
    by_cases hpi : i < 16
    · obtain ⟨a, ha⟩ : ∃ a, xs[i]? = some a := ⟨_, List.getElem?_eq_getElem (by rw [HX.out.1]; exact hpi)⟩
      have hab := HX.out.2 a (List.mem_of_getElem? ha)
      have hrow := ho.row HX.out.1 hpi ha
      have HR := Lib.hid (And.intro hrow (And.intro hnx (And.intro hny (And.intro hnz hbw))))
      have HA := Lib.hid ha
      have e1 : IntKind.i64.wrap ((i : Int) + 1) = (i : Int) + 1 := IntWalk.i64_in _ (by omega)
      have hbi : decide ((i : Int) < 16) = true := by simp; omega
      clear ho hnx hny hnz hbw hrow ha
      go_wp2_with fail
      try rw [hbi]
      go_loopw [7] (fun j wi => ∃ k : Nat, k ≤ 16 ∧ j = .int .i64 (k : Int) ∧ MulI xs ys (w.heap.size + 1 + 1 + 1) i k a wi ∧ NBlk wi w.heap.size xs ∧ NBlk wi (w.heap.size + 1) ys ∧ NBlk wi (w.heap.size + 1 + 1) Z16 ∧ Below w.heap.size w wi) (fun j _ => 16 - (intOf j).toNat)
      case atStart => exact ⟨0, by omega, rfl, HR.out⟩
      case round =>
        obtain ⟨k, hk16, rfl, hin, hnx, hny, hnz, hbw⟩ := hrel
        by_cases hpk : k < 16
        · obtain ⟨b, hb⟩ : ∃ b, ys[k]? = some b := ⟨_, List.getElem?_eq_getElem (by rw [HY.out.1]; exact hpk)⟩
          have hbb := HY.out.2 b (List.mem_of_getElem? hb)
          have hpr := mul_bnd hab hbb
          obtain ⟨t, ht, htl, htb, hte⟩ := hin
          obtain ⟨x, hx⟩ : ∃ x, t[i + k]? = some x := ⟨_, List.getElem?_eq_getElem (by omega)⟩
          have hxb : -1099511627776 ≤ x ∧ x ≤ 1099511627776 := by
            have := htb (i + k) x hx
            rw [if_neg (by omega)] at this
            omega
          have g1 := hnx.cell HA.out
          have g2 := hny.cell hb
          have g3 := ht.cell hx
          have g4 := ht.frozen (i + k)
          have hst := MulI.step ht htl htb hte hpi hpk HY.out.1 hb hpr hx
          have m1 := hnx.other (k := i + k) (x := .int .i64 (x + a * b)) (show w.heap.size + 1 + 1 + 1 ≠ w.heap.size by omega)
          have m2 := hny.other (k := i + k) (x := .int .i64 (x + a * b)) (show w.heap.size + 1 + 1 + 1 ≠ w.heap.size + 1 by omega)
          have m3 := hnz.other (k := i + k) (x := .int .i64 (x + a * b)) (show w.heap.size + 1 + 1 + 1 ≠ w.heap.size + 1 + 1 by omega)
          have m4 := hbw.setCell (p := ⟨w.heap.size + 1 + 1 + 1, i + k, none⟩) (show w.heap.size ≤ w.heap.size + 1 + 1 + 1 by omega) (.int .i64 (x + a * b))
          have HN := Lib.hid (And.intro hst (And.intro m1 (And.intro m2 (And.intro m3 m4))))
          obtain ⟨y, hy⟩ : ∃ y, a * b = y := ⟨_, rfl⟩
          rw [hy] at hpr HN
          have e2 : IntKind.i64.wrap ((k : Int) + 1) = (k : Int) + 1 := IntWalk.i64_in _ (by omega)
          have e3 : IntKind.i64.wrap ((i : Int) + (k : Int)) = (i : Int) + (k : Int) := IntWalk.i64_in _ (by omega)
          have e4 : ((i : Int) + (k : Int)).toNat = i + k := by omega
          have e5 : (0 : Int) ≤ (i : Int) + (k : Int) ∧ (i : Int) + (k : Int) < 31 := by omega
          have e6 : IntKind.i64.wrap (a * b) = y := by rw [hy]; exact IntWalk.i64_in _ (by omega)
          have e7 : IntKind.i64.wrap (x + y) = x + y := IntWalk.i64_in _ (by omega)
          have hbk : decide ((k : Int) < 16) = true := by simp; omega
          clear hy hst m1 m2 m3 m4 ht htl htb hte hnx hny hnz hbw hb hx
          go_wp2_with fail
          try rw [hbk]
          go_region
          all_goals go_wp2_with fail
          all_goals exact ⟨⟨k + 1, by omega, by go_num, HN.out.1, HN.out.2.1, HN.out.2.2.1, HN.out.2.2.2.1, HN.out.2.2.2.2.drew⟩, by simp [intOf]; omega⟩
        · obtain rfl : k = 16 := by omega
          have hdn := hin.done HY.out.1
          have HN := Lib.hid (And.intro hdn (And.intro hnx (And.intro hny (And.intro hnz hbw))))
          clear hin hdn hnx hny hnz hbw
          go_wp2_with fail
          exact ⟨⟨i + 1, by omega, by go_num, HN.out⟩, by simp [intOf]; omega⟩
    · obtain rfl : i = 16 := by omega
      obtain ⟨t, ht, htl, htb, hte⟩ := ho
      rw [List.drop_of_length_le (by rw [HX.out.1]; omega), prodF] at hte
      have HT := Lib.hid (And.intro ht (And.intro htl (And.intro htb (And.intro hnz hbw))))
      have HE := Lib.hid hte
      clear ht htl htb hte hnx hny hnz hbw
      go_wp2_with fail
      have hzp : NBlk (wr.alloc (.cells #[.int .i64 0, .int .i64 0, .int .i64 0, .int .i64 0, .int .i64 0, .int .i64 0, .int .i64 0, .int .i64 0, .int .i64 0, .int .i64 0, .int .i64 0, .int .i64 0, .int .i64 0, .int .i64 0, .int .i64 0, .int .i64 0] 50)) wr.heap.size (foldD t 0) := heap_alloc_new wr _
      have ht1 := HT.out.1.alloc (.cells #[.int .i64 0, .int .i64 0, .int .i64 0, .int .i64 0, .int .i64 0, .int .i64 0, .int .i64 0, .int .i64 0, .int .i64 0, .int .i64 0, .int .i64 0, .int .i64 0, .int .i64 0, .int .i64 0, .int .i64 0, .int .i64 0] 50)
      have hz1 := HT.out.2.2.2.1.alloc (.cells #[.int .i64 0, .int .i64 0, .int .i64 0, .int .i64 0, .int .i64 0, .int .i64 0, .int .i64 0, .int .i64 0, .int .i64 0, .int .i64 0, .int .i64 0, .int .i64 0, .int .i64 0, .int .i64 0, .int .i64 0, .int .i64 0] 50)
      have hb1 := HT.out.2.2.2.2.alloc HT.out.2.2.2.2.size (.cells #[.int .i64 0, .int .i64 0, .int .i64 0, .int .i64 0, .int .i64 0, .int .i64 0, .int .i64 0, .int .i64 0, .int .i64 0, .int .i64 0, .int .i64 0, .int .i64 0, .int .i64 0, .int .i64 0, .int .i64 0, .int .i64 0] 50)
      have hgp : w.heap.size + 1 + 1 + 1 < wr.heap.size := (Array.getElem?_eq_some_iff.1 HT.out.1).1
      have HL := Lib.hid (And.intro HT.out.2.1 HT.out.2.2.1)
      obtain ⟨gp, hg⟩ : ∃ gp, wr.heap.size = gp := ⟨_, rfl⟩
      rw [hg] at hzp hgp
      have HS := Lib.hid (And.intro hzp (And.intro ht1 (And.intro hz1 hb1)))
      clear hzp ht1 hz1 hb1 HT
      rw [hg]
      clear hg
      go_loopw [9] (fun i wi => ∃ k : Nat, k ≤ 16 ∧ i = .int .i64 (k : Int) ∧ NBlk wi gp (foldD t k) ∧ TBlk wi (w.heap.size + 1 + 1 + 1) t ∧ NBlk wi (w.heap.size + 1 + 1) Z16 ∧ Below w.heap.size w wi) (fun i _ => 16 - (intOf i).toNat)
      case atStart => exact ⟨0, by omega, rfl, HS.out⟩
      case round =>
        obtain ⟨k, hk16, rfl, hn, ht, hz, hbw⟩ := hrel
        by_cases hpk : k < 16
        · obtain ⟨x, hx⟩ : ∃ x, t[k]? = some x := ⟨_, List.getElem?_eq_getElem (by rw [HL.out.1]; omega)⟩
          have hxb := HL.out.2 x (List.mem_of_getElem? hx)
          have hfl : k < (foldD t k).length := by rw [foldD_len]; exact hpk
          have g1 := hn.cell (List.getElem?_eq_getElem hfl)
          have g2 := hn.frozen k
          have g3 := ht.cell hx
          have hbk : decide ((k : Int) < 16) = true := by simp; omega
          have e1 : IntKind.i64.wrap ((k : Int) + 1) = (k : Int) + 1 := IntWalk.i64_in _ (by omega)
          have hgx : t.getD k 0 = x := by rw [List.getD_eq_getElem?_getD, hx]; rfl
          generalize (foldD t k)[k] = v0 at g1
          by_cases hp15 : k < 15
          · obtain ⟨y, hy⟩ : ∃ y, t[k + 16]? = some y := ⟨_, List.getElem?_eq_getElem (by rw [HL.out.1]; omega)⟩
            have hyb := HL.out.2 y (List.mem_of_getElem? hy)
            have hgy : t.getD (k + 16) 0 = y := by rw [List.getD_eq_getElem?_getD, hy]; rfl
            have g5 := (ht.other (k := k) (x := .int .i64 x) (show gp ≠ w.heap.size + 1 + 1 + 1 by omega)).cell hy
            have n2 := (hn.set_ k x).set_ k (x + 38 * y)
            have hfs := foldD_set t k hpk
            rw [if_pos hp15, hgx, hgy] at hfs
            rw [List.set_set, hfs] at n2
            have t2 := (ht.other (k := k) (x := .int .i64 x) (show gp ≠ w.heap.size + 1 + 1 + 1 by omega)).other (k := k) (x := .int .i64 (x + 38 * y)) (show gp ≠ w.heap.size + 1 + 1 + 1 by omega)
            have z2 := (hz.other (k := k) (x := .int .i64 x) (show gp ≠ w.heap.size + 1 + 1 by omega)).other (k := k) (x := .int .i64 (x + 38 * y)) (show gp ≠ w.heap.size + 1 + 1 by omega)
            have b2 := (hbw.setCell (p := ⟨gp, k, none⟩) (show w.heap.size ≤ gp by omega) (.int .i64 x)).setCell (p := ⟨gp, k, none⟩) (show w.heap.size ≤ gp by omega) (.int .i64 (x + 38 * y))
            have b1 := hbw.setCell (p := ⟨gp, k, none⟩) (show w.heap.size ≤ gp by omega) (.int .i64 x)
            have HN := Lib.hid (And.intro n2 (And.intro t2 (And.intro z2 (And.intro b2 b1))))
            have e2 : IntKind.i64.wrap ((k : Int) + 16) = (k : Int) + 16 := IntWalk.i64_in _ (by omega)
            have e3 : ((k : Int) + 16).toNat = k + 16 := by omega
            have e4 : (0 : Int) ≤ (k : Int) + 16 ∧ (k : Int) + 16 < 31 := by omega
            have e5 : IntKind.i64.wrap (38 * y) = 38 * y := IntWalk.i64_in _ (by omega)
            have e6 : IntKind.i64.wrap (x + 38 * y) = x + 38 * y := IntWalk.i64_in _ (by omega)
            have hb15 : decide ((k : Int) < 15) = true := by simp; omega
            clear hn ht hz hbw n2 t2 z2 b2 b1 hfs hgx hgy hx hy hfl
            go_wp2_with fail
            try rw [hbk]
            try rw [hb15]
            go_region
            all_goals go_wp2_with fail
            all_goals exact ⟨⟨k + 1, by omega, by go_num, HN.out.1, HN.out.2.1, HN.out.2.2.1, HN.out.2.2.2.1.drew⟩, by simp [intOf]; omega⟩
          · obtain rfl : k = 15 := by omega
            have n2 := hn.set_ 15 x
            have hfs := foldD_set t 15 hpk
            rw [if_neg hp15, hgx] at hfs
            rw [hfs] at n2
            have t2 := ht.other (k := 15) (x := .int .i64 x) (show gp ≠ w.heap.size + 1 + 1 + 1 by omega)
            have z2 := hz.other (k := 15) (x := .int .i64 x) (show gp ≠ w.heap.size + 1 + 1 by omega)
            have b2 := hbw.setCell (p := ⟨gp, 15, none⟩) (show w.heap.size ≤ gp by omega) (.int .i64 x)
            have HN := Lib.hid (And.intro n2 (And.intro t2 (And.intro z2 b2)))
            clear hn ht hz hbw n2 t2 z2 b2 hfs hgx hx hfl
            go_wp2_with fail
            exact ⟨⟨16, by omega, by go_num, HN.out⟩, by simp [intOf]⟩
        · obtain rfl : k = 16 := by omega
          have hcl : (foldD t 16).length = 16 := foldD_len _ _
          have hfb : ∀ x ∈ foldD t 16, -140737488355328 ≤ x ∧ x ≤ 140737488355328 := by
            intro x hx
            simp only [foldD, List.mem_map] at hx
            obtain ⟨j, hj, rfl⟩ := hx
            have hj := List.mem_range.1 hj
            have h1 := HL.out.2 (t.getD j 0) (by rw [List.getD_eq_getElem?_getD, List.getElem?_eq_getElem (by rw [HL.out.1]; omega)]; exact List.getElem_mem _)
            rw [if_pos hj]
            by_cases h15 : j < 15
            · have h2 := HL.out.2 (t.getD (j + 16) 0) (by rw [List.getD_eq_getElem?_getD, List.getElem?_eq_getElem (by rw [HL.out.1]; omega)]; exact List.getElem_mem _)
              rw [if_pos h15]; omega
            · rw [if_neg h15]; omega
          obtain ⟨e1, es1, he1, he2, he3, he4⟩ := carryF_big _ hcl hfb
          have c2b : ∀ x ∈ carryF (foldD t 16), -140737488355328 ≤ x ∧ x ≤ 140737488355328 := by
            rw [he1]
            intro x hx
            rcases List.mem_cons.1 hx with rfl | hx
            · omega
            · have := he3 x hx; omega
          obtain ⟨fs, hfs⟩ : ∃ fs, i64s (foldD t 16) = fs := ⟨_, rfl⟩
          have hcar : ∀ W, Calls Tryd.prog 88 #[.agg fs.toArray] W fun e w' => e = .returned (A16 (carryF (foldD t 16))) ∧ Below W.heap.size W w' := by
            rw [← hfs]
            exact fun W => carry_calls _ hcl hfb W
          have hcl1 : (carryF (foldD t 16)).length = 16 := by rw [carryF_len]; exact hcl
          have hcar2 := fun W => carry_calls _ hcl1 c2b W
          have hr := hn.rng
          have hs1 := size16' _ hcl
          rw [hfs] at hr hs1
          obtain ⟨ds, hds⟩ : ∃ ds, carryF (carryF (foldD t 16)) = ds := ⟨_, rfl⟩
          have hdl : ds.length = 16 := by rw [← hds, carryF_len]; exact hcl1
          rw [hds] at hcar2
          have hok : NumOk (carryF (carryF (foldD t 16))) := by rw [he1]; exact carryF_small e1 es1 he2 he3 he4
          have HDS := Lib.hid (And.intro hds hok)
          have HF := Lib.hid (And.intro hr (And.intro hs1 (And.intro hz (And.intro hbw hdl))))
          have HC := Lib.hid (And.intro hcar hcar2)
          clear hn ht hz hbw hr hs1 hcar hcar2 hfb c2b he1 he2 he3 he4 hdl hds hok hcl hcl1 hfs
          go_wp2_with (refine wpList_load_mid rfl 50 _ rfl gp 0 rfl fs _ HF.out.1 Tryd.underlying50 rfl HF.out.2.1 ?_)
          refine (HC.out.1 _).mono ?_
          rintro e w1 ⟨rfl, b1⟩
          go_wp2_with fail
          refine (HC.out.2 _).mono ?_
          rintro e w2 ⟨rfl, b2⟩
          have b12 := b1.then_ b2
          have hz1 := HF.out.2.2.1.later b12
          have hbf := below_cells (show w.heap.size ≤ w.heap.size + 1 + 1 by omega) (i64s ds) 0 _ (HF.out.2.2.2.1.then_ b12)
          have HT2 := Lib.hid (hz1.there (n := (i64s ds).toArray.size) (by simp [i64s, HF.out.2.2.2.2, Z16]))
          have HS2 := Lib.hid (size16a _ HF.out.2.2.2.2)
          have HO2 := Lib.hid (one16 ds)
          have HLD := Lib.hid (ld16 (hz1.setAll (ms := ds) (by rw [HF.out.2.2.2.2]; rfl)) HF.out.2.2.2.2)
          have HBF := Lib.hid hbf
          clear hz1 hbf b1 b2 b12
          go_wp2_with (refine wpList_store_mid rfl 50 _ _ rfl (w.heap.size + 1 + 1) 0 (i64s ds).toArray rfl rfl HT2.out HS2.out HO2.out ?_)
          exact bodyPost_ret (v := .agg (i64s ds).toArray) (results_cell rfl _ _ _ _ rfl HLD.out) rfl ⟨by rw [← HE.out, HDS.out.1], by rw [← HE.out]; exact HDS.out.2, HBF.out⟩
theorem refMul_num (u v : Value) (r s : Nat) (hu : IsNum u r) (hv : IsNum v s) (w : World) : Calls Tryd.prog 51 #[u, v] w (NPost (r * s) w) := by
  obtain ⟨xs, rfl, hx, hxv⟩ := hu
  obtain ⟨ys, rfl, hy, hyv⟩ := hv
  refine (refMul_calls xs ys hx hy w).mono ?_
  rintro e w' ⟨rfl, hok, hb⟩
  refine ⟨_, rfl, ⟨_, rfl, hok, ?_⟩, hb⟩
  have hl : (prodF Z31 ys xs 0).length = 31 := by rw [prodF_len]; rfl
  have hz : valD Z31 = 0 := by decide +kernel
  have hpv := prodF_val xs Z31 ys 0 (by rw [hx.1, hy.1]; decide)
  rw [hz, Int.zero_add, Int.pow_zero, Int.one_mul] at hpv
  rw [carryF_mod _ (by rw [carryF_len, foldD_len]), carryF_mod _ (foldD_len _ _), foldD_val _ hl, hpv, Int.mul_emod, hxv, hyv, modN, modN, modN, ← Int.mul_emod, Int.natCast_mul]
end Go.Proofs.YtkfdclnaaphdgaaDoor
namespace Go.Proofs.YtkfdclnaaphdgaaDoor
open Go.ChangeShapes Go.WideShapes Go.ChangeAt Go.RowKit Go.IntWalk
set_option linter.unusedVariables false

theorem bit_at (es : List UInt8) (m : Nat) (h : m / 8 < es.length) : (es[m / 8]).toNat / 2 ^ (m % 8) % 2 = leN es / 2 ^ m % 2 := by
  rw [← leN_at es (m / 8) h]
  have e : (2 : Nat) ^ m = 256 ^ (m / 8) * 2 ^ (m % 8) := by
    rw [show (256 : Nat) = 2 ^ 8 by decide, ← Nat.pow_mul, ← Nat.pow_add]; congr 1; omega
  rw [e, ← Nat.div_div_eq_div_mul]
  generalize leN es / 256 ^ (m / 8) = x
  have ht : m % 8 < 8 := Nat.mod_lt _ (by decide)
  generalize m % 8 = t at *
  rcases (show t = 0 ∨ t = 1 ∨ t = 2 ∨ t = 3 ∨ t = 4 ∨ t = 5 ∨ t = 6 ∨ t = 7 by omega) with rfl | rfl | rfl | rfl | rfl | rfl | rfl | rfl <;> simp only [Nat.pow_zero, Nat.reducePow] <;> omega
theorem bits_one (c t : Nat) (h : c < 256) : (bits .and .u8 ((c : Int) / 2 ^ t) 1 == 1) = decide (c / 2 ^ t % 2 = 1) := by
  have e : (c : Int) / 2 ^ t = ((c / 2 ^ t : Nat) : Int) := by rw [Int.natCast_ediv, Int.natCast_pow]; rfl
  have hle : c / 2 ^ t ≤ c := Nat.div_le_self _ _
  rw [e]
  generalize c / 2 ^ t = d at *
  have h1 : bits .and .u8 (d : Int) 1 = (d : Int) % 2 := bits_mask .u8 8 (by decide) (fun x h0 h1 => by rw [IntKind.wrap_u8]; omega) 1 (by decide) _ (by omega) (by omega)
  rw [h1, Bool.eq_iff_iff, beq_iff_eq, decide_eq_true_eq]
  omega
theorem exp_step (e m : Nat) : e / 2 ^ m = e / 2 ^ (m + 1) + e / 2 ^ (m + 1) + e / 2 ^ m % 2 := by
  rw [Nat.pow_succ, ← Nat.div_div_eq_div_mul]; omega
def PwS (r : Nat) (es : List UInt8) (av : List Int) (w : World) (go n : Nat) (wr : World) : Prop :=
  ∃ os, NBlk wr go os ∧ NumOk os ∧ valD os % (P : Int) = ((r ^ (leN es / 2 ^ n) % P : Nat) : Int) ∧ NBlk wr w.heap.size av ∧ NBlk wr (w.heap.size + 1) Z16 ∧ Below w.heap.size w wr
set_option maxRecDepth 100000 in
set_option maxHeartbeats 8000000 in
theorem refPow_calls (v : Value) (r : Nat) (hv : IsNum v r) (es : List UInt8) (hl : es.length = 32) (w : World) :
    Calls Tryd.prog 85 #[v, .string ⟨es.toArray⟩] w (NPost (r ^ leN es) w) := by
  have HV := Lib.hid hv
  obtain ⟨av, rfl, hok, hval⟩ := hv
  unfold A16
  have h0 : NBlk ((w.alloc (.cells (i64s av).toArray 50)).alloc (.cells (i64s Z16).toArray 50)) w.heap.size av := (NBlk.new _).alloc _
  have hz0 : NBlk ((w.alloc (.cells (i64s av).toArray 50)).alloc (.cells (i64s Z16).toArray 50)) (w.heap.size + 1) Z16 := by
    have := NBlk.new (w := w.alloc (.cells (i64s av).toArray 50)) Z16
    rw [show (w.alloc (.cells (i64s av).toArray 50)).heap.size = w.heap.size + 1 by simp] at this
    exact this
  obtain ⟨cs, hcs⟩ : ∃ cs, i64s av = cs := ⟨_, rfl⟩
  rw [hcs] at h0 hz0 ⊢
  have H0 := Lib.hid (And.intro h0 (And.intro hz0 hok.1))
  have HL := Lib.hid hl
  clear h0 hz0 hok hval hcs hl
  have hbs : (⟨es.toArray⟩ : ByteArray).size = es.length := rfl
  go_enter Tryd.func85, Tryd.ntmps85
  go_wp2_with fail
  refine (refSmall_calls 1 (by decide) _).mono ?_
  rintro e w1 ⟨x1, rfl, hx1, b1⟩
  obtain ⟨os, rfl, hok1, hval1⟩ := hx1
  have n1 := H0.out.1.later b1
  have z1 := H0.out.2.1.later b1
  have bw1 : Below w.heap.size w w1 := below2 b1
  have lt1 := z1.lt
  have hzp : NBlk (w1.alloc (.cells #[.int .i64 0, .int .i64 0, .int .i64 0, .int .i64 0, .int .i64 0, .int .i64 0, .int .i64 0, .int .i64 0, .int .i64 0, .int .i64 0, .int .i64 0, .int .i64 0, .int .i64 0, .int .i64 0, .int .i64 0, .int .i64 0] 50)) w1.heap.size Z16 := heap_alloc_new w1 _
  have np := hzp.setAll (ms := os) (by rw [hok1.1]; rfl)
  have n2 := (n1.alloc (.cells #[.int .i64 0, .int .i64 0, .int .i64 0, .int .i64 0, .int .i64 0, .int .i64 0, .int .i64 0, .int .i64 0, .int .i64 0, .int .i64 0, .int .i64 0, .int .i64 0, .int .i64 0, .int .i64 0, .int .i64 0, .int .i64 0] 50)).setFar (g2 := w1.heap.size) (by omega) (i64s os)
  have z2 := (z1.alloc (.cells #[.int .i64 0, .int .i64 0, .int .i64 0, .int .i64 0, .int .i64 0, .int .i64 0, .int .i64 0, .int .i64 0, .int .i64 0, .int .i64 0, .int .i64 0, .int .i64 0, .int .i64 0, .int .i64 0, .int .i64 0, .int .i64 0] 50)).setFar (g2 := w1.heap.size) (by omega) (i64s os)
  have bw2 := below_cells bw1.size (i64s os) 0 _ (bw1.alloc bw1.size (.cells #[.int .i64 0, .int .i64 0, .int .i64 0, .int .i64 0, .int .i64 0, .int .i64 0, .int .i64 0, .int .i64 0, .int .i64 0, .int .i64 0, .int .i64 0, .int .i64 0, .int .i64 0, .int .i64 0, .int .i64 0, .int .i64 0] 50))
  have hps : PwS r es av w w1.heap.size 256 ((w1.alloc (.cells #[.int .i64 0, .int .i64 0, .int .i64 0, .int .i64 0, .int .i64 0, .int .i64 0, .int .i64 0, .int .i64 0, .int .i64 0, .int .i64 0, .int .i64 0, .int .i64 0, .int .i64 0, .int .i64 0, .int .i64 0, .int .i64 0] 50)).setCells w1.heap.size 0 (i64s os)) := by
    refine ⟨os, np, hok1, ?_, n2, z2, bw2⟩
    have hz : leN es / 2 ^ 256 = 0 := Nat.div_eq_of_lt (by have := leN_lt es; rw [HL.out] at this; rw [show (2 : Nat) ^ 256 = 256 ^ 32 by decide]; exact this)
    rw [hz, Nat.pow_zero, hval1]
  have HT := Lib.hid (hzp.there (n := (i64s os).toArray.size) (by simp [i64s, hok1.1, Z16]))
  have HS := Lib.hid (size16a os hok1.1)
  have HO := Lib.hid (one16 os)
  have HP := Lib.hid hps
  have HLT := Lib.hid (And.intro lt1 bw1.size)
  clear n1 z1 bw1 lt1 hzp np n2 z2 bw2 hps b1 hok1 hval1
  go_wp2_with (refine wpList_store_mid rfl 50 _ _ rfl w1.heap.size 0 (i64s os).toArray rfl rfl HT.out HS.out HO.out ?_)
  obtain ⟨go, hgo⟩ : ∃ go, w1.heap.size = go := ⟨_, rfl⟩
  rw [hgo] at HP HLT
  rw [hgo]
  clear HT HS HO hgo
  go_loopw [6] (fun i wr => ∃ (n : Nat) (z : Int), n ≤ 256 ∧ i = .int .i64 z ∧ z = (n : Int) - 1 ∧ PwS r es av w go n wr) (fun i _ => (intOf i + 1).toNat)
  case atStart => exact ⟨256, 255, by omega, rfl, by omega, HP.out⟩
  case round =>
    obtain ⟨n, z, hn, rfl, hz, hp⟩ := hrel
    obtain ⟨os, no, oko, vo, na, nz, bw⟩ := hp
    have hlt := HLT.out.1
    cases n with
    | succ m =>
      obtain rfl : z = (m : Int) := by omega
      have HN : Hid (IsNum (A16 os) (r ^ (leN es / 2 ^ (m + 1)))) := Lib.hid ⟨os, rfl, oko, vo⟩
      have HR := Lib.hid (And.intro no.rng (size16' os oko.1))
      have HB := Lib.hid (And.intro no (And.intro oko.1 (And.intro na (And.intro nz bw))))
      clear no oko vo na nz bw hz
      go_wp2_with (refine wpList_load_mid rfl 50 _ rfl go 0 rfl (i64s os) _ HR.out.1 Tryd.underlying50 rfl HR.out.2 ?_)
      refine (refMul_num _ _ _ _ HN.out HN.out _).mono ?_
      rintro e w2 ⟨x2, rfl, hx2, b2⟩
      obtain ⟨qs, rfl, okq, valq⟩ := hx2
      have no2 := HB.out.1.later b2
      have HNQ : Hid (IsNum (A16 qs) (r ^ (leN es / 2 ^ (m + 1)) * r ^ (leN es / 2 ^ (m + 1)))) := Lib.hid ⟨qs, rfl, okq, valq⟩
      have HT := Lib.hid (no2.there (n := (i64s qs).toArray.size) (by simp [i64s, okq.1, HB.out.2.1]))
      have HS := Lib.hid (size16a qs okq.1)
      have HO := Lib.hid (one16 qs)
      have no3 := no2.setAll (ms := qs) (by rw [HB.out.2.1, okq.1])
      have na3 := (HB.out.2.2.1.later b2).setFar (show go ≠ w.heap.size by omega) (i64s qs)
      have nz3 := (HB.out.2.2.2.1.later b2).setFar (show go ≠ w.heap.size + 1 by omega) (i64s qs)
      have bw3 := below_cells (show w.heap.size ≤ go by omega) (i64s qs) 0 _ (HB.out.2.2.2.2.then_ b2)
      have HQ := Lib.hid (And.intro no3 (And.intro na3 (And.intro nz3 (And.intro bw3 okq.1))))
      have HOQ := Lib.hid okq
      have HVQ := Lib.hid valq
      clear no2 no3 na3 nz3 bw3 okq valq b2
      obtain ⟨q, hq⟩ : ∃ q, m / 8 = q := ⟨_, rfl⟩
      obtain ⟨t, ht⟩ : ∃ t, m % 8 = t := ⟨_, rfl⟩
      have hlm : m / 8 < es.length := by rw [HL.out]; omega
      have hbit := bit_at es m hlm
      simp only [hq, ht] at hbit hlm
      have hbb := bits_one (es[q]).toNat t (es[q]).toNat_lt
      have HEX := Lib.hid (exp_step (leN es) m)
      have f1 : (m : Int) / 8 = (q : Int) := by omega
      have f2 : Int.tmod (m : Int) 8 = (t : Int) := by rw [Int.tmod_eq_emod_of_nonneg (by omega)]; omega
      have ht8 : t < 8 := by omega
      have e1 : IntKind.i64.wrap ((m : Int) - 1) = (m : Int) - 1 := IntWalk.i64_in _ (by omega)
      have hm0 : decide ((0 : Int) ≤ (m : Int)) = true := by simp
      have hmb : (m : Int) < 256 := by omega
      rcases Nat.mod_two_eq_zero_or_one ((es[q]).toNat / 2 ^ t) with hz | hz
      · rw [hz] at hbit hbb
        have hexp : leN es / 2 ^ m = leN es / 2 ^ (m + 1) + leN es / 2 ^ (m + 1) := by have := HEX.out; omega
        have hnew : PwS r es av w go m (w2.setCells go 0 (i64s qs)) := by
          refine ⟨qs, HQ.out.1, HOQ.out, ?_, HQ.out.2.1, HQ.out.2.2.1, HQ.out.2.2.2.1⟩
          rw [hexp, Nat.pow_add]; exact HVQ.out
        have HNW := Lib.hid hnew
        clear hbit hexp hnew hz hq ht
        go_wp2_with (refine wpList_store_mid rfl 50 _ _ rfl go 0 (i64s qs).toArray rfl rfl HT.out HS.out HO.out ?_)
        exact ⟨⟨m, (m : Int) - 1, by omega, rfl, rfl, HNW.out⟩, by simp [intOf]⟩
      · rw [hz] at hbit hbb
        have hexp : leN es / 2 ^ m = leN es / 2 ^ (m + 1) + leN es / 2 ^ (m + 1) + 1 := by have := HEX.out; omega
        have hrq := HQ.out.1.rng
        have hra := HQ.out.2.1.rng
        have hsa := size16' av H0.out.2.2
        have HRR := Lib.hid (And.intro hrq (And.intro (size16' qs HQ.out.2.2.2.2) (And.intro hra hsa)))
        have HXP := Lib.hid hexp
        clear hbit hexp hz hq ht hrq hra hsa
        go_wp2_with (first
          | (refine wpList_store_mid rfl 50 _ _ rfl go 0 (i64s qs).toArray rfl rfl HT.out HS.out HO.out ?_)
          | (refine wpList_load_mid rfl 50 _ rfl go 0 rfl (i64s qs) _ HRR.out.1 Tryd.underlying50 rfl HRR.out.2.1 ?_)
          | (refine wpList_load_mid rfl 50 _ rfl w.heap.size 0 rfl (i64s av) _ HRR.out.2.2.1 Tryd.underlying50 rfl HRR.out.2.2.2 ?_))
        refine (refMul_num _ _ _ _ HNQ.out HV.out _).mono ?_
        rintro e w4 ⟨x4, rfl, hx4, b4⟩
        obtain ⟨ts, rfl, okt, valt⟩ := hx4
        have no4 := HQ.out.1.later b4
        have HT4 := Lib.hid (no4.there (n := (i64s ts).toArray.size) (by simp [i64s, okt.1, HQ.out.2.2.2.2]))
        have HS4 := Lib.hid (size16a ts okt.1)
        have HO4 := Lib.hid (one16 ts)
        have hnew : PwS r es av w go m (w4.setCells go 0 (i64s ts)) := by
          refine ⟨ts, no4.setAll (by rw [HQ.out.2.2.2.2, okt.1]), okt, ?_, (HQ.out.2.1.later b4).setFar (show go ≠ w.heap.size by omega) _, (HQ.out.2.2.1.later b4).setFar (show go ≠ w.heap.size + 1 by omega) _, below_cells (show w.heap.size ≤ go by omega) _ _ _ (HQ.out.2.2.2.1.then_ b4)⟩
          rw [HXP.out, Nat.pow_add, Nat.pow_add, Nat.pow_one]; exact valt
        have HNW := Lib.hid hnew
        clear no4 okt valt b4 hnew
        go_wp2_with (refine wpList_store_mid rfl 50 _ _ rfl go 0 (i64s ts).toArray rfl rfl HT4.out HS4.out HO4.out ?_)
        exact ⟨⟨m, (m : Int) - 1, by omega, rfl, rfl, HNW.out⟩, by simp [intOf]⟩
    | zero =>
      obtain rfl : z = -1 := by omega
      have hval : IsNum (A16 os) (r ^ leN es) := ⟨os, rfl, oko, by rw [vo, Nat.pow_zero, Nat.div_one]⟩
      have hrg := no.rng
      have hbf := below_cells (show w.heap.size ≤ w.heap.size + 1 by omega) (i64s os) 0 _ bw
      have HF := Lib.hid (And.intro hrg (And.intro (size16' os oko.1) (And.intro (nz.there (n := (i64s os).toArray.size) (by simp [i64s, oko.1, Z16])) (And.intro (size16a os oko.1) (And.intro (one16 os) (And.intro (ld16 (nz.setAll (ms := os) (by rw [oko.1]; rfl)) oko.1) (And.intro hbf hval)))))))
      clear hval hrg hbf no oko vo na nz bw hz
      go_wp2_with (first
        | (refine wpList_load_mid rfl 50 _ rfl go 0 rfl (i64s os) _ HF.out.1 Tryd.underlying50 rfl HF.out.2.1 ?_)
        | (refine wpList_store_mid rfl 50 _ _ rfl (w.heap.size + 1) 0 (i64s os).toArray rfl rfl HF.out.2.2.1 HF.out.2.2.2.1 HF.out.2.2.2.2.1 ?_))
      exact bodyPost_ret (v := .agg (i64s os).toArray) (results_cell rfl _ _ _ _ rfl HF.out.2.2.2.2.2.1) rfl ⟨_, rfl, HF.out.2.2.2.2.2.2.2, HF.out.2.2.2.2.2.2.1⟩
end Go.Proofs.YtkfdclnaaphdgaaDoor
namespace Go.Proofs.YtkfdclnaaphdgaaDoor
open Go.ChangeShapes Go.WideShapes Go.ChangeAt Go.RowKit Go.IntWalk
set_option linter.unusedVariables false

def ExS (w : World) (k : Nat) (W : World) : Prop := UBlk W w.heap.size (bitsF k) ∧ Below w.heap.size w W
set_option maxRecDepth 100000 in
set_option maxHeartbeats 8000000 in
theorem refExp_calls (count less : Nat) (hc : count ≤ 255) (hc8 : 8 ≤ count) (hls : less < 255) (w : World) :
    Calls Tryd.prog 86 #[.int .i64 (count : Int), .int .i64 ((less + 1 : Nat) : Int)] w fun e w' => e = .returned (.string ⟨(onesF count less).toArray⟩) ∧ Below w.heap.size w w' := by
  have hs0 : ExS w 0 (w.alloc (.cells #[.int .u8 0, .int .u8 0, .int .u8 0, .int .u8 0, .int .u8 0, .int .u8 0, .int .u8 0, .int .u8 0, .int .u8 0, .int .u8 0, .int .u8 0, .int .u8 0, .int .u8 0, .int .u8 0, .int .u8 0, .int .u8 0, .int .u8 0, .int .u8 0, .int .u8 0, .int .u8 0, .int .u8 0, .int .u8 0, .int .u8 0, .int .u8 0, .int .u8 0, .int .u8 0, .int .u8 0, .int .u8 0, .int .u8 0, .int .u8 0, .int .u8 0, .int .u8 0] 22)) := ⟨heap_alloc_new w _, (Below.refl _ _).alloc (Nat.le_refl _) _⟩
  have HS0 := Lib.hid hs0
  clear hs0
  go_enter Tryd.func86, Tryd.ntmps86
  go_wp2_with fail
  go_loopw [6] (fun i wr => ∃ k : Nat, k ≤ count ∧ i = .int .i64 (k : Int) ∧ ExS w k wr) (fun i _ => count - (intOf i).toNat)
  case atStart => exact ⟨0, by omega, rfl, HS0.out⟩
  case round =>
    obtain ⟨k, hk, rfl, hu, hbw⟩ := hrel
    by_cases hp : k < count
    · have hb := (bits_step ⟨k, by omega⟩).1
      have hset := (bits_step ⟨k, by omega⟩).2
      simp only at hb hset
      obtain ⟨c, hcc, hcv⟩ := Option.map_eq_some_iff.1 hb
      have hlen := (List.getElem?_eq_some_iff.1 hcc).1
      have g1 := hu.cell hlen
      rw [(List.getElem?_eq_some_iff.1 hcc).2, hcv] at g1
      have g2 := hu.frozen (k / 8)
      have hu2 := hu.set_ (k / 8) (UInt8.ofNat (2 ^ (k % 8 + 1) - 1))
      rw [hset] at hu2
      have hlt2 : 2 ^ (k % 8 + 1) ≤ 2 ^ 8 := Nat.pow_le_pow_right (by decide) (by omega)
      have ex : ((UInt8.ofNat (2 ^ (k % 8 + 1) - 1)).toNat : Int) = ((2 ^ (k % 8 + 1) - 1 : Nat) : Int) := by simp; omega
      rw [ex] at hu2
      obtain ⟨j, hj⟩ : ∃ j, k / 8 = j := ⟨_, rfl⟩
      have hk8 : (k : Int) / 8 = (j : Int) := by omega
      rw [hj] at g1 g2 hu2
      have hj32 : j < 32 := by omega
      have ho := or_val k
      obtain ⟨t, ht⟩ : ∃ t, k % 8 = t := ⟨_, rfl⟩
      rw [ht] at g1 hu2 ho
      have hk8t : Int.tmod (k : Int) 8 = (t : Int) := by rw [Int.tmod_eq_emod_of_nonneg (by omega)]; omega
      have hb2 : Below w.heap.size w (wr.setCell ⟨w.heap.size, j, none⟩ (.int .u8 ((2 ^ (t + 1) - 1 : Nat) : Int))) := hbw.setCell (Nat.le_refl _) _
      have HN := Lib.hid (And.intro hu2 hb2)
      have HO := Lib.hid ho
      have e1 : IntKind.i64.wrap ((k : Int) + 1) = (k : Int) + 1 := IntWalk.i64_in _ (by omega)
      have hkc : decide ((k : Int) < (count : Int)) = true := by simp; omega
      have ht8 : t < 8 := by omega
      clear hb hset hcc hcv hlen hu hbw hu2 hb2 ex ho hj ht
      go_wp2_with fail
      exact ⟨⟨k + 1, by omega, by go_num, by rw [HO.out]; exact HN.out⟩, by simp [intOf]; omega⟩
    · obtain rfl : k = count := by omega
      obtain ⟨hset, hget⟩ := ones_set k less hc8 (by omega)
      have hlen := (List.getElem?_eq_some_iff.1 hget).1
      have g1 := hu.cell hlen
      rw [(List.getElem?_eq_some_iff.1 hget).2] at g1
      have g2 := hu.frozen 0
      have hu2 := hu.set_ 0 (UInt8.ofNat (255 - less))
      rw [hset] at hu2
      obtain ⟨x, hx⟩ : ∃ x, ((UInt8.ofNat (255 - less)).toNat : Int) = x := ⟨_, rfl⟩
      have hsub : IntKind.u8.wrap (255 - (less : Int)) = x := by rw [← hx, IntKind.wrap_u8]; simp; omega
      rw [hx] at hu2
      obtain ⟨m, hm⟩ : ∃ m : Nat, less + 1 = m := ⟨_, rfl⟩
      have e2 : (m : Int) - 1 = (less : Int) := by omega
      have e3 : IntKind.i64.wrap (less : Int) = (less : Int) := IntWalk.i64_in _ (by omega)
      have e4 : IntKind.u8.wrap (less : Int) = (less : Int) := by rw [IntKind.wrap_u8]; omega
      have hol : (onesF k less).length = 32 := onesF_len _ _
      have hstr := run_str_rb _ (some ⟨w.heap.size, 0, none⟩) 32 32 (onesF k less) hu2.rb hol.symm
      have HB := Lib.hid (hbw.setCell (p := ⟨w.heap.size, 0, none⟩) (Nat.le_refl _) (.int .u8 x))
      have hkk : decide ((k : Int) < (k : Int)) = false := by simp
      clear hu hbw hset hget hlen hu2 hx hol
      rw [hm]
      go_wp2_with fail
      go_ret
      exact ⟨rfl, HB.out⟩
theorem exp_255 (w : World) : Calls Tryd.prog 86 #[.int .i64 255, .int .i64 21] w fun e w' => e = .returned (.string ⟨(onesF 255 20).toArray⟩) ∧ Below w.heap.size w w' := refExp_calls 255 20 (by decide) (by decide) (by decide) w
theorem exp_252 (w : World) : Calls Tryd.prog 86 #[.int .i64 252, .int .i64 2] w fun e w' => e = .returned (.string ⟨(onesF 252 1).toArray⟩) ∧ Below w.heap.size w w' := refExp_calls 252 1 (by decide) (by decide) (by decide) w
theorem exp_253 (w : World) : Calls Tryd.prog 86 #[.int .i64 253, .int .i64 5] w fun e w' => e = .returned (.string ⟨(onesF 253 4).toArray⟩) ∧ Below w.heap.size w w' := refExp_calls 253 4 (by decide) (by decide) (by decide) w
section
variable {P : Program} {ops : Array Oper} {w0 : World} {Lq : Gh → Act → Prop} {o : Oper} {rest : List Oper} {kds : List Kd} {s : Gh} {a : Act}
theorem lg_num {g : Nat} {ds : List Int} (x : Operand) (hN : NBlk w0 g ds) (hl : ds.length = 16) (hb : g < w0.heap.size) (ho : o.op = .load 50 x) (hw : Region.wanted o (yielded ops a.tmps) = true) (hx : a.eval x = .pointer (some ⟨g, 0, none⟩))
    (h2 : wpG Tryd.prog ops w0 Lq rest kds s (a.put o.dst (A16 ds))) : wpG Tryd.prog ops w0 Lq (o :: rest) (.rel (· = A16 ds) :: kds) s a :=
  lg_load 50 x ho g 0 _ _ hN.rng hb Tryd.underlying50 rfl (size16' ds hl) hw hx h2
theorem lg_callx (x : Value) (f : FuncId) (args : Array Value) (hw : Region.wanted o (yielded ops a.tmps) = true) (he : ∀ W, (execOp a.eval o).run P W = .ok (.enter f args) W)
    (hc : ∀ W, Calls P f args W (fun e W' => e = .returned x ∧ Below W.heap.size W W')) (h2 : wpG P ops w0 Lq rest kds s (a.put o.dst x)) : wpG P ops w0 Lq (o :: rest) (.rel (· = x) :: kds) s a :=
  lg_call _ f args hw he (fun W => (hc W).mono fun e W' ⟨h1, h2⟩ => ⟨x, h1, rfl, h2⟩) (fun v hv => by subst hv; exact h2)
theorem lg_call_num (r : Nat) (f : FuncId) (args : Array Value) (hw : Region.wanted o (yielded ops a.tmps) = true) (he : ∀ W, (execOp a.eval o).run P W = .ok (.enter f args) W)
    (hc : ∀ W, Calls P f args W (NPost r W)) (h2 : ∀ v, IsNum v r → wpG P ops w0 Lq rest kds s (a.put o.dst v)) : wpG P ops w0 Lq (o :: rest) (.rel (fun v => IsNum v r) :: kds) s a :=
  lg_call _ f args hw he hc h2
end
set_option maxRecDepth 100000 in
set_option maxHeartbeats 4000000 in
theorem refInv_num (v : Value) (r : Nat) (hv : IsNum v r) (w : World) : Calls Tryd.prog 49 #[v] w (NPost (r ^ (P - 2)) w) := by
  have HV := Lib.hid hv
  obtain ⟨av, rfl, hok, hval⟩ := hv
  unfold A16
  have h0 : NBlk ((w.alloc (.cells (i64s av).toArray 50)).alloc (.cells #[.int .i64 0, .int .i64 0, .int .i64 0, .int .i64 0, .int .i64 0, .int .i64 0, .int .i64 0, .int .i64 0, .int .i64 0, .int .i64 0, .int .i64 0, .int .i64 0, .int .i64 0, .int .i64 0, .int .i64 0, .int .i64 0] 50)) w.heap.size av := (NBlk.new _).alloc _
  have hz0 : NBlk ((w.alloc (.cells (i64s av).toArray 50)).alloc (.cells #[.int .i64 0, .int .i64 0, .int .i64 0, .int .i64 0, .int .i64 0, .int .i64 0, .int .i64 0, .int .i64 0, .int .i64 0, .int .i64 0, .int .i64 0, .int .i64 0, .int .i64 0, .int .i64 0, .int .i64 0, .int .i64 0] 50)) (w.heap.size + 1) Z16 := by
    have := heap_alloc_new (w.alloc (.cells (i64s av).toArray 50)) (.cells #[.int .i64 0, .int .i64 0, .int .i64 0, .int .i64 0, .int .i64 0, .int .i64 0, .int .i64 0, .int .i64 0, .int .i64 0, .int .i64 0, .int .i64 0, .int .i64 0, .int .i64 0, .int .i64 0, .int .i64 0, .int .i64 0] 50)
    rw [show (w.alloc (.cells (i64s av).toArray 50)).heap.size = w.heap.size + 1 by simp] at this
    exact this
  have hb0 : Below w.heap.size w ((w.alloc (.cells (i64s av).toArray 50)).alloc (.cells #[.int .i64 0, .int .i64 0, .int .i64 0, .int .i64 0, .int .i64 0, .int .i64 0, .int .i64 0, .int .i64 0, .int .i64 0, .int .i64 0, .int .i64 0, .int .i64 0, .int .i64 0, .int .i64 0, .int .i64 0, .int .i64 0] 50)) := ((Below.refl _ _).alloc (Nat.le_refl _) _).alloc (by simp) _
  obtain ⟨cs, hcs⟩ : ∃ cs, i64s av = cs := ⟨_, rfl⟩
  rw [hcs] at h0 hz0 hb0 ⊢
  have H0 := Lib.hid (And.intro h0 (And.intro hz0 (And.intro hb0 hok.1)))
  clear h0 hz0 hb0 hok hval hcs
  go_enter Tryd.func49, Tryd.ntmps49
  go_wp2_with fail
  obtain ⟨h0, hz0, hb0, hl⟩ := H0.out
  generalize (w.alloc (.cells cs.toArray 50)).alloc (.cells #[.int .i64 0, .int .i64 0, .int .i64 0, .int .i64 0, .int .i64 0, .int .i64 0, .int .i64 0, .int .i64 0, .int .i64 0, .int .i64 0, .int .i64 0, .int .i64 0, .int .i64 0, .int .i64 0, .int .i64 0, .int .i64 0] 50) = W1 at *
  have hlt := h0.lt
  have hpe : leN (onesF 255 20) = P - 2 := by rw [leN_ones 255 20 (by decide)]; decide +kernel
  have hpow : ∀ W, Calls Tryd.prog 85 #[A16 av, .string ⟨(onesF 255 20).toArray⟩] W (NPost (r ^ (P - 2)) W) := by
    rw [← hpe]; exact fun W => refPow_calls _ _ HV.out _ (onesF_len _ _) W
  apply wp_region_g 3 (by kernel_rfl) (by kernel_rfl)
  simp only [List.take_succ_cons, List.take_zero, List.drop_succ_cons, List.drop_zero]
  apply lg_num (.tmp 1) h0 hl hlt rfl rfl rfl
  simp only [Act.put, List.setIfInBounds_toArray, List.set_cons_succ, List.set_cons_zero]
  apply lg_callx (.string ⟨(onesF 255 20).toArray⟩) 86 #[.int .i64 255, .int .i64 21] rfl (by intro W; go_simp) exp_255
  simp only [Act.put, List.setIfInBounds_toArray, List.set_cons_succ, List.set_cons_zero]
  apply lg_call_num (r ^ (P - 2)) 85 #[A16 av, .string ⟨(onesF 255 20).toArray⟩] rfl (by intro W; go_simp) hpow
  intro v5 hv5
  simp only [Act.put, List.setIfInBounds_toArray, List.set_cons_succ, List.set_cons_zero]
  refine lg_nil ?_
  intro w2 hC2
  obtain ⟨qs, rfl, okq, valq⟩ := hv5
  have hz2 := hz0.later hC2.1
  have hbf := below_cells (show w.heap.size ≤ w.heap.size + 1 by omega) (i64s qs) 0 _ (hb0.then_ hC2.1)
  have HLD := Lib.hid (ld16 (hz2.setAll (ms := qs) (by rw [okq.1]; rfl)) okq.1)
  have HBF := Lib.hid hbf
  have HNQ : Hid (IsNum (A16 qs) (r ^ (P - 2))) := Lib.hid ⟨qs, rfl, okq, valq⟩
  refine wpList_store_mid rfl 50 _ _ rfl (w.heap.size + 1) 0 (i64s qs).toArray rfl rfl (hz2.there (by simp [i64s, okq.1, Z16])) (size16a qs okq.1) (one16 qs) ?_
  simp only [Act.put]
  clear hz2 hbf okq valq hpow hpe h0 hz0 hb0 hl hlt hC2 H0
  go_wp2_with fail
  exact bodyPost_ret (v := .agg (i64s qs).toArray) (results_cell rfl _ _ _ _ rfl HLD.out) rfl ⟨_, rfl, HNQ.out, HBF.out⟩
end Go.Proofs.YtkfdclnaaphdgaaDoor
namespace Go.Proofs.YtkfdclnaaphdgaaDoor
set_option linter.unusedVariables false

/-- The root's first guess; what turns it. -/
def E8 : Nat := 2 ^ 252 - 2
def E4 : Nat := 2 ^ 253 - 5
theorem E8_two : 2 * (4 * E8) = (P - 1) + 4 := by decide +kernel
theorem P_odd : P % 2 = 1 := by decide +kernel
theorem turn_sq : (2 ^ E4 * 2 ^ E4) % P = P - 1 := by
  have h : pm 256 2 (E4 + E4) P = P - 1 := by decide +kernel
  rw [← Nat.pow_add, ← h]
  exact (pm_eq 256 2 (E4 + E4) P (by decide +kernel)).symm
theorem sq_eq {u v : Nat} (h : u * u % P = v * v % P) : u % P = v % P ∨ (u + v) % P = 0 := by
  have key : ∀ u v : Nat, v ≤ u → u * u % P = v * v % P → u % P = v % P ∨ (u + v) % P = 0 := by
    intro u v hle h
    have hd : P ∣ u * u - v * v := dvd_of_mod h (Nat.mul_le_mul hle hle)
    rw [Nat.mul_self_sub_mul_self_eq] at hd
    rcases prmP.mul hd with h1 | h1
    · exact .inr (Nat.mod_eq_zero_of_dvd h1)
    · left
      obtain ⟨k, hk⟩ := h1
      rw [show u = v + P * k by omega, Nat.add_mul_mod_self_left]
  rcases Nat.le_total v u with hle | hle
  · exact key u v hle h
  · rcases key v u hle h.symm with h1 | h1
    · exact .inl h1.symm
    · rw [Nat.add_comm]; exact .inr h1
theorem both_neg {u v w : Nat} (h1 : (u + w) % P = 0) (h2 : (v + w) % P = 0) : u % P = v % P := by
  have key : ∀ u v : Nat, v ≤ u → (u + w) % P = 0 → (v + w) % P = 0 → u % P = v % P := by
    intro u v hle h1 h2
    have hd : P ∣ (u + w) - (v + w) := Nat.dvd_sub (Nat.dvd_of_mod_eq_zero h1) (Nat.dvd_of_mod_eq_zero h2)
    obtain ⟨k, hk⟩ := hd
    rw [show u = v + P * k by omega, Nat.add_mul_mod_self_left]
  rcases Nat.le_total v u with hle | hle
  · exact key u v hle h1 h2
  · exact (key v u hle h2 h1).symm
theorem neg_of_sum {q x : Nat} (h : (q + x) % P = 0) : q % P = (P - x % P) % P := by
  refine both_neg h ?_
  have h1 : x % P < P := mod_lt_P x
  have h2 := Nat.div_add_mod x P
  rw [show P - x % P + x = P * (x / P + 1) by rw [Nat.mul_add]; omega, Nat.mul_mod_right]
/-- A square has a root: the first guess, or the turned one. -/
theorem root_of_square (b : Nat) : (b * b) ^ E8 * (b * b) ^ E8 % P = b * b % P ∨ (b * b) ^ E8 * 2 ^ E4 * ((b * b) ^ E8 * 2 ^ E4) % P = b * b % P := by
  have h4 : ((b * b) ^ E8 * (b * b) ^ E8) * ((b * b) ^ E8 * (b * b) ^ E8) % P = (b * b) * (b * b) % P := by
    have e : ((b * b) ^ E8 * (b * b) ^ E8) * ((b * b) ^ E8 * (b * b) ^ E8) = b ^ (P - 1) * ((b * b) * (b * b)) := by
      have e1 : (b * b) ^ E8 = b ^ (2 * E8) := by rw [← Nat.pow_two, ← Nat.pow_mul]
      have e2 : (b * b) * (b * b) = b ^ 4 := by rw [show (4 : Nat) = 2 + 2 by rfl, Nat.pow_add, Nat.pow_two]
      rw [e1, e2, ← Nat.pow_add, ← Nat.pow_add, ← Nat.pow_add, ← E8_two]
      congr 1
      try omega
    rw [e]
    by_cases hb : P ∣ b
    · obtain ⟨k, rfl⟩ := hb
      rw [show P * k * (P * k) * (P * k * (P * k)) = P * (k * (P * k) * (P * k * (P * k))) by simp only [Nat.mul_assoc], Nat.mul_mod_right, ← Nat.mul_assoc, Nat.mul_comm _ P, Nat.mul_assoc, Nat.mul_mod_right]
    · rw [Nat.mul_mod, prmP.fermat1 hb, Nat.one_mul, Nat.mod_mod]
  rcases sq_eq h4 with h | h
  · exact .inl h
  · right
    refine both_neg (w := (b * b) ^ E8 * (b * b) ^ E8) ?_ (by rw [Nat.add_comm]; exact h)
    generalize (b * b) ^ E8 = x
    have hT : P ∣ 2 ^ E4 * 2 ^ E4 + 1 := by
      refine Nat.dvd_of_mod_eq_zero ?_
      have h1 : 1 % P = 1 := Nat.mod_eq_of_lt (by have : 2 < P := by decide +kernel
                                                  omega)
      have hp : 1 ≤ P := by decide +kernel
      rw [Nat.add_mod, turn_sq, h1, Nat.sub_add_cancel hp, Nat.mod_self]
    obtain ⟨k, hk⟩ := hT
    rw [show x * 2 ^ E4 * (x * 2 ^ E4) + x * x = P * (x * x * k) by
      rw [Nat.mul_mul_mul_comm, show x * x * (2 ^ E4 * 2 ^ E4) + x * x = x * x * (2 ^ E4 * 2 ^ E4 + 1) by rw [Nat.mul_add, Nat.mul_one], hk, Nat.mul_left_comm]]
    exact Nat.mul_mod_right _ _
end Go.Proofs.YtkfdclnaaphdgaaDoor
namespace Go.Proofs.YtkfdclnaaphdgaaDoor
open Go.ChangeShapes Go.WideShapes Go.ChangeAt Go.RowKit Go.IntWalk
set_option linter.unusedVariables false

def rootX (r : Nat) : Nat := if r ^ E8 * r ^ E8 % P = r % P then r ^ E8 else r ^ E8 * 2 ^ E4
def rootOk (r : Nat) : Bool := decide (rootX r * rootX r % P = r % P)
def rootV (r : Nat) : Nat := if rootX r % P % 2 = 1 then P - rootX r % P else rootX r
def RootPost (r : Nat) (w : World) (e : Ending) (w' : World) : Prop := ∃ u, e = .returned (.tuple #[u, .bool (rootOk r)]) ∧ IsEl u (if rootOk r = true then rootV r else 0) ∧ Below w.heap.size w w'
def RMid (g n : Nat) (a0 a1 a2 a3 a4 : Nat) (w wc : World) : Prop := ∃ x0 x1 x2 x3 x4, EBlk wc g [x0, x1, x2, x3, x4] ∧ IsEl (E5 x0 x1 x2 x3 x4) n ∧ EBlk wc w.heap.size [a0, a1, a2, a3, a4] ∧ EBlk wc (w.heap.size + 1) [0, 0, 0, 0, 0] ∧ Below w.heap.size w wc
def ZE4 : Obj := .cells #[.int .u64 0, .int .u64 0, .int .u64 0, .int .u64 0, .int .u64 0] 40
def ZE4' : Obj := .cells #[.int .u64 0, .int .u64 0, .int .u64 0, .int .u64 0, .int .u64 0] 40 (0, 0)
theorem one5x (ls : List Nat) : (ls.map fun (n : Nat) => Value.int .u64 (n : Int)).toArray.all (·.oneCell') = true := by
  apply all_oneCell_toArray
  intro v hv
  obtain ⟨y, _, rfl⟩ := List.mem_map.1 hv
  rfl
theorem EBlk.thereL {w : World} {g n : Nat} {ls : List Nat} (h : EBlk w g ls) (hn : n = ls.length) : w.there g 0 n := by
  intro j hj
  have hj2 : j < ls.length := by omega
  rw [Nat.zero_add]
  exact ⟨by rw [h.cell (List.getElem?_eq_getElem hj2)]; rfl, h.frozen j⟩
theorem leN_252 : leN (onesF 252 1) = E8 := by rw [leN_ones 252 1 (by decide)]; rfl
theorem leN_253 : leN (onesF 253 4) = E4 := by rw [leN_ones 253 4 (by decide)]; rfl
set_option maxRecDepth 100000 in
set_option maxHeartbeats 8000000 in
theorem root_calls (v : Value) (r : Nat) (hv : IsEl v r) (w : World) : Calls Tryd.prog 61 #[v] w (RootPost r w) := by
  obtain ⟨a0, a1, a2, a3, a4, rfl, hok, hval⟩ := hv.form
  have HV : Hid (IsEl (E5 a0 a1 a2 a3 a4) r) := Lib.hid hv
  clear hok hval hv
  go_enter Tryd.func61, Tryd.ntmps61
  go_wp2_with fail
  have ha : EBlk ((w.alloc (.cells #[.int .u64 (a0 : Int), .int .u64 (a1 : Int), .int .u64 (a2 : Int), .int .u64 (a3 : Int), .int .u64 (a4 : Int)] 40)).alloc (.cells #[.int .u64 0, .int .u64 0, .int .u64 0, .int .u64 0, .int .u64 0] 40)) w.heap.size [a0, a1, a2, a3, a4] :=
    (heap_alloc_old _ _ (by simp)).trans (heap_alloc_new w _)
  have hz : EBlk ((w.alloc (.cells #[.int .u64 (a0 : Int), .int .u64 (a1 : Int), .int .u64 (a2 : Int), .int .u64 (a3 : Int), .int .u64 (a4 : Int)] 40)).alloc (.cells #[.int .u64 0, .int .u64 0, .int .u64 0, .int .u64 0, .int .u64 0] 40)) (w.heap.size + 1) [0, 0, 0, 0, 0] := by
    have := heap_alloc_new (w.alloc (.cells #[.int .u64 (a0 : Int), .int .u64 (a1 : Int), .int .u64 (a2 : Int), .int .u64 (a3 : Int), .int .u64 (a4 : Int)] 40)) (.cells #[.int .u64 0, .int .u64 0, .int .u64 0, .int .u64 0, .int .u64 0] 40)
    rw [show (w.alloc (.cells #[.int .u64 (a0 : Int), .int .u64 (a1 : Int), .int .u64 (a2 : Int), .int .u64 (a3 : Int), .int .u64 (a4 : Int)] 40)).heap.size = w.heap.size + 1 by simp] at this
    exact this
  have hb : Below w.heap.size w ((w.alloc (.cells #[.int .u64 (a0 : Int), .int .u64 (a1 : Int), .int .u64 (a2 : Int), .int .u64 (a3 : Int), .int .u64 (a4 : Int)] 40)).alloc (.cells #[.int .u64 0, .int .u64 0, .int .u64 0, .int .u64 0, .int .u64 0] 40)) :=
    ((Below.refl _ _).alloc (Nat.le_refl _) _).alloc (by simp) _
  generalize (w.alloc (.cells #[.int .u64 (a0 : Int), .int .u64 (a1 : Int), .int .u64 (a2 : Int), .int .u64 (a3 : Int), .int .u64 (a4 : Int)] 40)).alloc (.cells #[.int .u64 0, .int .u64 0, .int .u64 0, .int .u64 0, .int .u64 0] 40) = W1 at *
  have hla : w.heap.size < W1.heap.size := (Array.getElem?_eq_some_iff.1 ha).1
  have hlz : w.heap.size + 1 < W1.heap.size := (Array.getElem?_eq_some_iff.1 hz).1
  apply wp_region_g 4 (by kernel_rfl) (by kernel_rfl)
  simp only [List.take_succ_cons, List.take_zero, List.drop_succ_cons, List.drop_zero]
  apply lg_load 40 (.tmp 1) rfl w.heap.size 0 _ _ ha.rng hla Tryd.underlying40 rfl size5 rfl rfl
  apply lg_call (· = A32 (onesF 252 1)) 77 #[.int .i64 252, .int .u8 1] rfl (by intro W; go_simp) (fun W => (ones_252 W).mono fun e W' h => ⟨_, h.1, rfl, h.2⟩)
  intro vo hvo
  subst hvo
  apply lg_call_el (r ^ leN (onesF 252 1)) 76 #[E5 a0 a1 a2 a3 a4, A32 (onesF 252 1)] rfl (by intro W; go_simp; rfl) (fun W => pow_calls _ _ _ HV.out (onesF_len _ _) W)
  intro vx hvx
  apply lg_alloc ZE4 ZE4' rfl (by intro W; go_simp; rfl) (fun W => heap_alloc_new W _)
  intro g hg
  refine lg_nil ?_
  intro w2 hC2
  rw [leN_252] at hvx
  obtain ⟨x0, x1, x2, x3, x4, rfl, okx, valx⟩ := hvx.form
  have HX : Hid (IsEl (E5 x0 x1 x2 x3 x4) (r ^ E8)) := Lib.hid hvx
  have eg : EBlk w2 g [0, 0, 0, 0, 0] := (hC2.2 g ZE4' (by simp [upd])).2
  have bg : W1.heap.size ≤ g := (hC2.2 g ZE4' (by simp [upd])).1
  have eg3 := eg.setAll (ms := [x0, x1, x2, x3, x4]) rfl
  have ha3 := (EBlk.later ha hC2.1).setFar (show g ≠ w.heap.size by omega) ([x0, x1, x2, x3, x4].map fun (n : Nat) => Value.int .u64 (n : Int))
  have hz3 := (EBlk.later hz hC2.1).setFar (show g ≠ w.heap.size + 1 by omega) ([x0, x1, x2, x3, x4].map fun (n : Nat) => Value.int .u64 (n : Int))
  have hb3 := below_cells (show w.heap.size ≤ g by omega) ([x0, x1, x2, x3, x4].map fun (n : Nat) => Value.int .u64 (n : Int)) 0 _ (hb.then_ hC2.1)
  refine wpList_store_mid rfl 40 _ _ rfl g 0 ([x0, x1, x2, x3, x4].map fun (n : Nat) => Value.int .u64 (n : Int)).toArray rfl rfl (eg.there rfl) size5 (one5x _) ?_
  simp only [Act.put]
  generalize w2.setCells g 0 ([x0, x1, x2, x3, x4].map fun (n : Nat) => Value.int .u64 (n : Int)) = W3 at *
  have hgw : w.heap.size + 1 < g := by omega
  clear okx valx hvx eg hC2 ha hz hb hla hlz hg bg
  have H3 := Lib.hid (And.intro eg3 (And.intro ha3 (And.intro hz3 hb3)))
  clear eg3 ha3 hz3 hb3
  go_wp2_with fail
  obtain ⟨HEx, HEa, HEz, HBW⟩ := H3.out
  have HLx : g < W3.heap.size := (Array.getElem?_eq_some_iff.1 HEx).1
  have HLa : w.heap.size < W3.heap.size := (Array.getElem?_eq_some_iff.1 HEa).1
  obtain ⟨d1, hd1⟩ : ∃ d, decide (r ^ E8 * r ^ E8 % P = r % P) = d := ⟨_, rfl⟩
  apply wp_region_ls (by kernel_rfl) (by kernel_rfl)
  apply ls_el (.tmp 4) HEx HLx rfl rfl rfl
  simp only [Act.put, List.setIfInBounds_toArray, List.set_cons_succ, List.set_cons_zero]
  apply ls_el (.tmp 4) HEx HLx rfl rfl rfl
  simp only [Act.put, List.setIfInBounds_toArray, List.set_cons_succ, List.set_cons_zero]
  apply ls_call_el (r ^ E8 * r ^ E8) 45 #[E5 x0 x1 x2 x3 x4, E5 x0 x1 x2 x3 x4] rfl (by intro W; go_simp) (fun W => mul_calls _ _ _ _ HX.out HX.out W)
  intro v1 hv1
  simp only [Act.put, List.setIfInBounds_toArray, List.set_cons_succ, List.set_cons_zero]
  apply ls_el (.tmp 1) HEa HLa rfl rfl rfl
  simp only [Act.put, List.setIfInBounds_toArray, List.set_cons_succ, List.set_cons_zero]
  apply ls_callx (.bool d1) 62 #[v1, E5 a0 a1 a2 a3 a4] rfl (by intro W; go_simp) (fun W => (is_calls _ _ _ _ hv1 HV.out W).mono fun e W' h => ⟨by rw [h.1, hd1], h.2⟩)
  simp only [Act.put, List.setIfInBounds_toArray, List.set_cons_succ, List.set_cons_zero]
  apply ls_pure (.bool (!d1)) rfl (by intro W; go_simp)
  simp only [Act.put, List.setIfInBounds_toArray, List.set_cons_succ, List.set_cons_zero]
  refine ls_nil (Rs := []) ?_
  intro w6 b6
  have HK := Lib.hid (And.intro (EBlk.later HEx b6) (And.intro (EBlk.later HEa b6) (And.intro (EBlk.later HEz b6) (HBW.then_ b6))))
  have HD1 := Lib.hid hd1
  clear HEx HEa HEz HBW HLx HLa hv1 b6 hd1 H3
  go_upto_if 14 with (fail)
  go_cut [] from 15 (fun wc => RMid g (rootX r) a0 a1 a2 a3 a4 w wc)
  case first =>
    cases d1 with
    | true =>
      go_wp2_with fail
      go_meet
      case rel => exact ⟨x0, x1, x2, x3, x4, HK.out.1, (by unfold rootX; rw [if_pos (of_decide_eq_true HD1.out)]; exact HX.out), HK.out.2.1, HK.out.2.2.1, HK.out.2.2.2⟩
    | false =>
      go_wp2_with fail
      refine (small_calls 2 (by decide) _).mono ?_
      rintro e wa ⟨c2, rfl, hc2, ba⟩
      go_wp2_with fail
      refine (ones_253 _).mono ?_
      rintro e wb ⟨rfl, bb⟩
      go_wp2_with fail
      refine (pow_calls _ _ _ hc2 (onesF_len _ _) _).mono ?_
      rintro e wc ⟨t5, rfl, ht5, bc⟩
      rw [leN_253] at ht5
      obtain ⟨t0, t1, t2, t3, t4, rfl, okt, valt⟩ := ht5.form
      have HT5 : Hid (IsEl (E5 t0 t1 t2 t3 t4) (2 ^ E4)) := Lib.hid ht5
      have b7 := (ba.then_ bb).then_ bc
      have eg := (EBlk.later HK.out.1 b7).alloc (.cells #[.int .u64 (t0 : Int), .int .u64 (t1 : Int), .int .u64 (t2 : Int), .int .u64 (t3 : Int), .int .u64 (t4 : Int)] 40)
      have ea := (EBlk.later HK.out.2.1 b7).alloc (.cells #[.int .u64 (t0 : Int), .int .u64 (t1 : Int), .int .u64 (t2 : Int), .int .u64 (t3 : Int), .int .u64 (t4 : Int)] 40)
      have ez := (EBlk.later HK.out.2.2.1 b7).alloc (.cells #[.int .u64 (t0 : Int), .int .u64 (t1 : Int), .int .u64 (t2 : Int), .int .u64 (t3 : Int), .int .u64 (t4 : Int)] 40)
      have hb8 := HK.out.2.2.2.then_ b7
      have hb9 := hb8.alloc hb8.size (.cells #[.int .u64 (t0 : Int), .int .u64 (t1 : Int), .int .u64 (t2 : Int), .int .u64 (t3 : Int), .int .u64 (t4 : Int)] 40)
      have HRG := Lib.hid (And.intro eg.rng (And.intro eg (And.intro ea (And.intro ez hb9))))
      clear okt valt ht5 b7 eg ea ez hb8 hb9 ba bb bc hc2
      go_wp2_with (refine wpList_load_mid rfl 40 _ rfl g 0 rfl ([x0, x1, x2, x3, x4].map fun (n : Nat) => Value.int .u64 (n : Int)) _ HRG.out.1 Tryd.underlying40 rfl size5 ?_)
      refine (mul_calls _ _ _ _ HX.out HT5.out _).mono ?_
      rintro e wd ⟨vy, rfl, hvy, bd⟩
      obtain ⟨y0, y1, y2, y3, y4, rfl, oky, valy⟩ := hvy.form
      have HY : Hid (IsEl (E5 y0 y1 y2 y3 y4) (rootX r)) := Lib.hid (by unfold rootX; rw [if_neg (of_decide_eq_false HD1.out)]; exact hvy)
      have eg := EBlk.later HRG.out.2.1 bd
      have HT := Lib.hid (eg.thereL (n := ([y0, y1, y2, y3, y4].map fun (n : Nat) => Value.int .u64 (n : Int)).toArray.size) rfl)
      have HON := Lib.hid (one5x [y0, y1, y2, y3, y4])
      have hk2 : Hid (EBlk (wd.setCells g 0 ([y0, y1, y2, y3, y4].map fun (n : Nat) => Value.int .u64 (n : Int))) g [y0, y1, y2, y3, y4] ∧ EBlk (wd.setCells g 0 ([y0, y1, y2, y3, y4].map fun (n : Nat) => Value.int .u64 (n : Int))) w.heap.size [a0, a1, a2, a3, a4] ∧ EBlk (wd.setCells g 0 ([y0, y1, y2, y3, y4].map fun (n : Nat) => Value.int .u64 (n : Int))) (w.heap.size + 1) [0, 0, 0, 0, 0] ∧ Below w.heap.size w (wd.setCells g 0 ([y0, y1, y2, y3, y4].map fun (n : Nat) => Value.int .u64 (n : Int)))) :=
        Lib.hid ⟨eg.setAll rfl, (EBlk.later HRG.out.2.2.1 bd).setFar (by omega) _, (EBlk.later HRG.out.2.2.2.1 bd).setFar (by omega) _, below_cells (by omega) _ _ _ (HRG.out.2.2.2.2.then_ bd)⟩
      clear oky valy hvy eg bd
      go_wp2_with (refine wpList_store_mid rfl 40 _ _ rfl g 0 ([y0, y1, y2, y3, y4].map fun (n : Nat) => Value.int .u64 (n : Int)).toArray rfl rfl HT.out size5 HON.out ?_)
      go_meet
      case rel => exact ⟨y0, y1, y2, y3, y4, hk2.out.1, HY.out, hk2.out.2.1, hk2.out.2.2.1, hk2.out.2.2.2⟩
  case rest =>
    obtain ⟨x0, x1, x2, x3, x4, HEx, HIY, HEa, HEz, HBW⟩ := hcut
    have HY := Lib.hid HIY
    clear HIY HK HD1 HX
    go_wp2_with fail
    have HLx : g < (wc).heap.size := (Array.getElem?_eq_some_iff.1 HEx).1
    have HLa : w.heap.size < (wc).heap.size := (Array.getElem?_eq_some_iff.1 HEa).1
    obtain ⟨d2, hd2⟩ : ∃ d, rootOk r = d := ⟨_, rfl⟩
    apply wp_region_ls (by kernel_rfl) (by kernel_rfl)
    apply ls_el (.tmp 4) HEx HLx rfl rfl rfl
    simp only [Act.put, List.setIfInBounds_toArray, List.set_cons_succ, List.set_cons_zero]
    apply ls_el (.tmp 4) HEx HLx rfl rfl rfl
    simp only [Act.put, List.setIfInBounds_toArray, List.set_cons_succ, List.set_cons_zero]
    apply ls_call_el (rootX r * rootX r) 45 #[E5 x0 x1 x2 x3 x4, E5 x0 x1 x2 x3 x4] rfl (by intro W; go_simp) (fun W => mul_calls _ _ _ _ HY.out HY.out W)
    intro v2 hv2
    simp only [Act.put, List.setIfInBounds_toArray, List.set_cons_succ, List.set_cons_zero]
    apply ls_el (.tmp 1) HEa HLa rfl rfl rfl
    simp only [Act.put, List.setIfInBounds_toArray, List.set_cons_succ, List.set_cons_zero]
    apply ls_callx (.bool d2) 62 #[v2, E5 a0 a1 a2 a3 a4] rfl (by intro W; go_simp) (fun W => (is_calls _ _ _ _ hv2 HV.out W).mono fun e W' h => ⟨by rw [h.1]; exact ret_bool hd2, h.2⟩)
    simp only [Act.put, List.setIfInBounds_toArray, List.set_cons_succ, List.set_cons_zero]
    apply ls_pure (.bool (!d2)) rfl (by intro W; go_simp)
    simp only [Act.put, List.setIfInBounds_toArray, List.set_cons_succ, List.set_cons_zero]
    refine ls_nil (Rs := []) ?_
    intro w8 b8
    have H8 := Lib.hid (And.intro (EBlk.later HEx b8) (And.intro (EBlk.later HEz b8) (HBW.then_ b8)))
    have HD2 := Lib.hid hd2
    clear HEx HEa HEz HBW HLx HLa hv2 b8 hd2
    cases d2 with
    | false =>
      have hz9 := H8.out.2.1.setAll (ms := [0, 0, 0, 0, 0]) rfl
      have hb9 := below_cells (show w.heap.size ≤ w.heap.size + 1 by omega) ([0, 0, 0, 0, 0].map fun (n : Nat) => Value.int .u64 (n : Int)) 0 _ H8.out.2.2
      have H9 := Lib.hid (And.intro hz9 hb9)
      have HT9 := Lib.hid (H8.out.2.1.thereL (n := ([0, 0, 0, 0, 0].map fun (n : Nat) => Value.int .u64 (n : Int)).toArray.size) rfl)
      have HO9 := Lib.hid (one5x [0, 0, 0, 0, 0])
      clear hz9 hb9
      go_wp2_with (refine wpList_store_mid rfl 40 _ _ rfl (w.heap.size + 1) 0 ([0, 0, 0, 0, 0].map fun (n : Nat) => Value.int .u64 (n : Int)).toArray rfl rfl HT9.out size5 HO9.out ?_)
      obtain ⟨hz9, hb9⟩ := H9.out
      change bodyPost _ _ _ _ _ (w8.setCells (w.heap.size + 1) 0 ([0, 0, 0, 0, 0].map fun (n : Nat) => Value.int .u64 (n : Int)))
      generalize w8.setCells (w.heap.size + 1) 0 ([0, 0, 0, 0, 0].map fun (n : Nat) => Value.int .u64 (n : Int)) = W9 at *
      have q0 := hz9.cell (k := 0) rfl
      have q1 := hz9.cell (k := 1) rfl
      have q2 := hz9.cell (k := 2) rfl
      have q3 := hz9.cell (k := 3) rfl
      have q4 := hz9.cell (k := 4) rfl
      exact bodyPost_ret (v := .tuple #[E5 0 0 0 0 0, .bool false]) (by simp [results, Tryd.results61, go_sem, q0, q1, q2, q3, q4, E5]) rfl ⟨_, by rw [HD2.out], by rw [HD2.out, if_neg (by decide)]; exact IsEl.zero, hb9⟩
    | true =>
      have H8r := Lib.hid H8.out.1.rng
      go_wp2_with (first | (go_not_at_if 29; fail) | (refine wpList_load_mid rfl 40 _ rfl g 0 rfl ([x0, x1, x2, x3, x4].map fun (n : Nat) => Value.int .u64 (n : Int)) _ H8r.out Tryd.underlying40 rfl size5 ?_))
      refine (odd_calls _ _ HY.out _).mono ?_
      rintro e w9 ⟨rfl, b9⟩
      have H9 := Lib.hid (And.intro (EBlk.later H8.out.1 b9) (And.intro (EBlk.later H8.out.2.1 b9) (H8.out.2.2.then_ b9)))
      have H9r := Lib.hid H9.out.1.rng
      clear b9
      obtain ⟨od, hod⟩ : ∃ b, decide (rootX r % P % 2 = 1) = b := ⟨_, rfl⟩
      rw [hod]
      have HOD := Lib.hid hod
      clear hod
      go_upto_if 29 with (fail)
      go_cut [] from 30 (fun wc => ∃ n0 n1 n2 n3 n4, EBlk wc g [n0, n1, n2, n3, n4] ∧ IsEl (E5 n0 n1 n2 n3 n4) (rootV r) ∧ EBlk wc (w.heap.size + 1) [0, 0, 0, 0, 0] ∧ Below w.heap.size w wc)
      case first =>
        cases od with
        | true =>
          have hodd := of_decide_eq_true HOD.out
          go_wp2_with (refine wpList_load_mid rfl 40 _ rfl g 0 rfl ([x0, x1, x2, x3, x4].map fun (n : Nat) => Value.int .u64 (n : Int)) _ H9r.out Tryd.underlying40 rfl size5 ?_)
          refine (neg_calls _ _ HY.out _).mono ?_
          rintro e wn ⟨vn, rfl, hvn, bn⟩
          obtain ⟨n0, n1, n2, n3, n4, rfl, okn, valn⟩ := hvn.form
          have HNV : Hid (IsEl (E5 n0 n1 n2 n3 n4) (rootV r)) := Lib.hid (by unfold rootV; rw [if_pos hodd]; exact hvn)
          have eg := EBlk.later H9.out.1 bn
          have ez := EBlk.later H9.out.2.1 bn
          have HT10 := Lib.hid (eg.thereL (n := ([n0, n1, n2, n3, n4].map fun (n : Nat) => Value.int .u64 (n : Int)).toArray.size) rfl)
          have HO10 := Lib.hid (one5x [n0, n1, n2, n3, n4])
          have eg2 := eg.setAll (ms := [n0, n1, n2, n3, n4]) rfl
          have ez2 := ez.setFar (show g ≠ w.heap.size + 1 by omega) ([n0, n1, n2, n3, n4].map fun (n : Nat) => Value.int .u64 (n : Int))
          have hb2 := below_cells (show w.heap.size ≤ g by omega) ([n0, n1, n2, n3, n4].map fun (n : Nat) => Value.int .u64 (n : Int)) 0 _ (H9.out.2.2.then_ bn)
          have H10 := Lib.hid (And.intro eg2 (And.intro ez2 hb2))
          clear okn valn hvn bn eg ez eg2 ez2 hb2 hodd
          go_wp2_with (refine wpList_store_mid rfl 40 _ _ rfl g 0 ([n0, n1, n2, n3, n4].map fun (n : Nat) => Value.int .u64 (n : Int)).toArray rfl rfl HT10.out size5 HO10.out ?_)
          go_meet
          case rel => exact ⟨n0, n1, n2, n3, n4, H10.out.1, HNV.out, H10.out.2.1, H10.out.2.2⟩
        | false =>
          have hodd := of_decide_eq_false HOD.out
          go_wp2_with fail
          go_meet
          case rel => exact ⟨x0, x1, x2, x3, x4, H9.out.1, (by unfold rootV; rw [if_neg hodd]; exact HY.out), H9.out.2.1, H9.out.2.2⟩
      case rest =>
        obtain ⟨n0, n1, n2, n3, n4, En, HNV0, Ez, HB⟩ := hcut
        have HNV := Lib.hid HNV0
        have HR11 := Lib.hid En.rng
        have HT11 := Lib.hid (Ez.thereL (n := ([n0, n1, n2, n3, n4].map fun (n : Nat) => Value.int .u64 (n : Int)).toArray.size) rfl)
        have HO10 := Lib.hid (one5x [n0, n1, n2, n3, n4])
        have hz3 := Ez.setAll (ms := [n0, n1, n2, n3, n4]) rfl
        have hb3 := below_cells (show w.heap.size ≤ w.heap.size + 1 by omega) ([n0, n1, n2, n3, n4].map fun (n : Nat) => Value.int .u64 (n : Int)) 0 _ HB
        have H11 := Lib.hid (And.intro hz3 hb3)
        clear hz3 hb3 En Ez HB HNV0
        go_wp2_with (first
          | (refine wpList_load_mid rfl 40 _ rfl g 0 rfl ([n0, n1, n2, n3, n4].map fun (n : Nat) => Value.int .u64 (n : Int)) _ HR11.out Tryd.underlying40 rfl size5 ?_)
          | (refine wpList_store_mid rfl 40 _ _ rfl (w.heap.size + 1) 0 ([n0, n1, n2, n3, n4].map fun (n : Nat) => Value.int .u64 (n : Int)).toArray rfl rfl HT11.out size5 HO10.out ?_))
        obtain ⟨hz3, hb3⟩ := H11.out
        change bodyPost _ _ _ _ _ (World.setCells _ (w.heap.size + 1) 0 ([n0, n1, n2, n3, n4].map fun (n : Nat) => Value.int .u64 (n : Int)))
        generalize World.setCells _ (w.heap.size + 1) 0 ([n0, n1, n2, n3, n4].map fun (n : Nat) => Value.int .u64 (n : Int)) = W9 at *
        have q0 := hz3.cell (k := 0) rfl
        have q1 := hz3.cell (k := 1) rfl
        have q2 := hz3.cell (k := 2) rfl
        have q3 := hz3.cell (k := 3) rfl
        have q4 := hz3.cell (k := 4) rfl
        exact bodyPost_ret (v := .tuple #[E5 n0 n1 n2 n3 n4, .bool true]) (by simp [results, Tryd.results61, go_sem, q0, q1, q2, q3, q4, E5]) rfl ⟨_, by rw [HD2.out], by rw [HD2.out, if_pos rfl]; exact HNV.out, hb3⟩
end Go.Proofs.YtkfdclnaaphdgaaDoor
namespace Go.Proofs.YtkfdclnaaphdgaaDoor
open Go.ChangeShapes Go.WideShapes Go.ChangeAt Go.RowKit Go.IntWalk
set_option linter.unusedVariables false

def ZN4 : Obj := .cells #[.int .i64 0, .int .i64 0, .int .i64 0, .int .i64 0, .int .i64 0, .int .i64 0, .int .i64 0, .int .i64 0, .int .i64 0, .int .i64 0, .int .i64 0, .int .i64 0, .int .i64 0, .int .i64 0, .int .i64 0, .int .i64 0] 50
def ZN4' : Obj := .cells #[.int .i64 0, .int .i64 0, .int .i64 0, .int .i64 0, .int .i64 0, .int .i64 0, .int .i64 0, .int .i64 0, .int .i64 0, .int .i64 0, .int .i64 0, .int .i64 0, .int .i64 0, .int .i64 0, .int .i64 0, .int .i64 0] 50 (0, 0)
theorem two_blocks (w : World) (cs : List Value) (o : Obj) (ds : List Int) (h : i64s ds = cs) : NBlk ((w.alloc (.cells cs.toArray 50)).alloc o) w.heap.size ds ∧ Below w.heap.size w ((w.alloc (.cells cs.toArray 50)).alloc o) := by
  subst h
  exact ⟨(NBlk.new _).alloc _, ((Below.refl _ _).alloc (Nat.le_refl _) _).alloc (by simp) _⟩
theorem second_block (w : World) (cs : List Value) (o : Obj) (ds : List Int) (h : i64s ds = cs) : NBlk ((w.alloc o).alloc (.cells cs.toArray 50)) (w.heap.size + 1) ds := by
  subst h
  have := NBlk.new (w := w.alloc o) ds
  rwa [show (w.alloc o).heap.size = w.heap.size + 1 by simp] at this
set_option maxRecDepth 100000 in
set_option maxHeartbeats 4000000 in
theorem refIs_calls (u v : Value) (r s : Nat) (hu : IsNum u r) (hv : IsNum v s) (w : World) :
    Calls Tryd.prog 70 #[u, v] w fun e w' => e = .returned (.bool (decide (r % P = s % P))) ∧ Below w.heap.size w w' := by
  have HU := Lib.hid hu
  have HV := Lib.hid hv
  obtain ⟨xs, rfl, hox, _⟩ := hu
  obtain ⟨ys, rfl, hoy, _⟩ := hv
  unfold A16
  obtain ⟨cs, hcs⟩ : ∃ cs, i64s xs = cs := ⟨_, rfl⟩
  obtain ⟨ds, hds⟩ : ∃ ds, i64s ys = ds := ⟨_, rfl⟩
  rw [hcs, hds]
  have H0 := Lib.hid (And.intro (two_blocks w cs (.cells ds.toArray 50) xs hcs) (And.intro (second_block w ds (.cells cs.toArray 50) ys hds) (And.intro hox.1 hoy.1)))
  clear hcs hds hox hoy
  go_enter Tryd.func70, Tryd.ntmps70
  go_wp2_with fail
  obtain ⟨⟨hx, hb0⟩, hy, hlx, hly⟩ := H0.out
  generalize (w.alloc (.cells cs.toArray 50)).alloc (.cells ds.toArray 50) = W1 at *
  have hxt := hx.lt
  have hyt := hy.lt
  have heq : ((⟨(leB 32 (r % P)).toArray⟩ : ByteArray).toList == (⟨(leB 32 (s % P)).toArray⟩ : ByteArray).toList) = decide (r % P = s % P) := by
    rw [← leB_eq (mod_lt_P r) (mod_lt_P s)]
    simp [ByteArray.toList_eq]
  apply wp_region_ls (by kernel_rfl) (by kernel_rfl)
  apply ls_num (.tmp 2) hx hlx hxt rfl rfl rfl
  simp only [Act.put, List.setIfInBounds_toArray, List.set_cons_succ, List.set_cons_zero]
  apply ls_callx (.string ⟨(leB 32 (r % P)).toArray⟩) 50 #[A16 xs] rfl (by intro W; go_simp) (fun W => refBytes_calls _ _ HU.out W)
  simp only [Act.put, List.setIfInBounds_toArray, List.set_cons_succ, List.set_cons_zero]
  apply ls_num (.tmp 3) hy hly hyt rfl rfl rfl
  simp only [Act.put, List.setIfInBounds_toArray, List.set_cons_succ, List.set_cons_zero]
  apply ls_callx (.string ⟨(leB 32 (s % P)).toArray⟩) 50 #[A16 ys] rfl (by intro W; go_simp) (fun W => refBytes_calls _ _ HV.out W)
  simp only [Act.put, List.setIfInBounds_toArray, List.set_cons_succ, List.set_cons_zero]
  apply ls_pure (.bool (decide (r % P = s % P))) rfl (by intro W; rw [← heq]; go_simp)
  simp only [Act.put, List.setIfInBounds_toArray, List.set_cons_succ, List.set_cons_zero]
  apply ls_assign (.bool (decide (r % P = s % P))) (.tmp 9) rfl rfl rfl
  simp only [Act.put, List.setIfInBounds_toArray, List.set_cons_succ, List.set_cons_zero]
  refine ls_nil (Rs := []) ?_
  intro w4 b4
  have hfin := hb0.then_ b4
  clear hb0 b4 hx hy hxt hyt heq hlx hly H0
  go_wp2_with fail
  go_ret
  exact ⟨rfl, hfin⟩
theorem results_cell_tmp {fn : Func} {p q : Tmp} {ty : TypeId} (h : fn.results = #[.cell p ty, .tmp q]) (tmps : Array Value) (a : Addr) (v u : Value) (W : World) (hp : tmps.getD p undef = .pointer (some a)) (hq : tmps.getD q undef = u)
    (hld : (loadVar ty a).run Tryd.prog W = .ok v W) : (results fn tmps).run Tryd.prog W = .ok (.tuple #[v, u]) W := by
  simp only [results, h]
  simp only [Array.getD_eq_getD_getElem?] at hp hq
  simp [hp, hq, asAddr, hld]
def RefRootPost (r : Nat) (w : World) (e : Ending) (w' : World) : Prop := ∃ u, e = .returned (.tuple #[u, .bool (rootOk r)]) ∧ IsNum u (if rootOk r = true then rootV r else 0) ∧ Below w.heap.size w w'
def NMid (g n : Nat) (av : List Int) (w wc : World) : Prop := ∃ xs, NBlk wc g xs ∧ IsNum (A16 xs) n ∧ NBlk wc w.heap.size av ∧ NBlk wc (w.heap.size + 1) Z16 ∧ Below w.heap.size w wc
theorem IsNum.len {xs : List Int} {n : Nat} (h : IsNum (A16 xs) n) : xs.length = 16 := by
  obtain ⟨ys, e, hok, _⟩ := h
  have := hok.1
  unfold A16 at e
  injection e with e
  have e2 := congrArg Array.size e
  simp [i64s] at e2
  omega
theorem NBlk.put {W : World} {g : Nat} {ls ms : List Int} (h : NBlk W g ls) (hl : ls.length = 16) (hm : ms.length = 16) : W.there g 0 (i64s ms).toArray.size ∧ NBlk (W.setCells g 0 (i64s ms)) g ms :=
  ⟨h.there (by simp [i64s, hl, hm]), h.setAll (by rw [hl, hm])⟩
set_option maxRecDepth 100000 in
set_option maxHeartbeats 8000000 in
theorem refRoot_calls (v : Value) (r : Nat) (hv : IsNum v r) (w : World) : Calls Tryd.prog 69 #[v] w (RefRootPost r w) := by
  have HV := Lib.hid hv
  obtain ⟨av, rfl, hok, hval⟩ := hv
  unfold A16
  obtain ⟨cs, hcs⟩ : ∃ cs, i64s av = cs := ⟨_, rfl⟩
  rw [hcs]
  have H0 := Lib.hid (And.intro (two_blocks w cs (.cells #[.int .i64 0, .int .i64 0, .int .i64 0, .int .i64 0, .int .i64 0, .int .i64 0, .int .i64 0, .int .i64 0, .int .i64 0, .int .i64 0, .int .i64 0, .int .i64 0, .int .i64 0, .int .i64 0, .int .i64 0, .int .i64 0] 50) av hcs) (And.intro (second_block w (i64s Z16) (.cells cs.toArray 50) Z16 rfl) hok.1))
  clear hcs hok hval
  go_enter Tryd.func69, Tryd.ntmps69
  go_wp2_with fail
  obtain ⟨⟨ha, hb0⟩, hz, hla⟩ := H0.out
  change NBlk ((w.alloc (.cells cs.toArray 50)).alloc (.cells #[.int .i64 0, .int .i64 0, .int .i64 0, .int .i64 0, .int .i64 0, .int .i64 0, .int .i64 0, .int .i64 0, .int .i64 0, .int .i64 0, .int .i64 0, .int .i64 0, .int .i64 0, .int .i64 0, .int .i64 0, .int .i64 0] 50)) (w.heap.size + 1) Z16 at hz
  generalize (w.alloc (.cells cs.toArray 50)).alloc (.cells #[.int .i64 0, .int .i64 0, .int .i64 0, .int .i64 0, .int .i64 0, .int .i64 0, .int .i64 0, .int .i64 0, .int .i64 0, .int .i64 0, .int .i64 0, .int .i64 0, .int .i64 0, .int .i64 0, .int .i64 0, .int .i64 0] 50) = W1 at *
  have hat := ha.lt
  have hzt := hz.lt
  apply wp_region_g 4 (by kernel_rfl) (by kernel_rfl)
  simp only [List.take_succ_cons, List.take_zero, List.drop_succ_cons, List.drop_zero]
  apply lg_num (.tmp 1) ha hla hat rfl rfl rfl
  simp only [Act.put, List.setIfInBounds_toArray, List.set_cons_succ, List.set_cons_zero]
  apply lg_callx (.string ⟨(onesF 252 1).toArray⟩) 86 #[.int .i64 252, .int .i64 2] rfl (by intro W; go_simp) exp_252
  simp only [Act.put, List.setIfInBounds_toArray, List.set_cons_succ, List.set_cons_zero]
  apply lg_call_num (r ^ leN (onesF 252 1)) 85 #[A16 av, .string ⟨(onesF 252 1).toArray⟩] rfl (by intro W; go_simp) (fun W => refPow_calls _ _ HV.out _ (onesF_len _ _) W)
  intro vx hvx
  simp only [Act.put, List.setIfInBounds_toArray, List.set_cons_succ, List.set_cons_zero]
  apply lg_alloc ZN4 ZN4' rfl (by intro W; go_simp; rfl) (fun W => heap_alloc_new W _)
  intro g hg
  simp only [Act.put, List.setIfInBounds_toArray, List.set_cons_succ, List.set_cons_zero]
  refine lg_nil ?_
  intro w2 hC2
  rw [leN_252] at hvx
  obtain ⟨xs, rfl, okx, valx⟩ := hvx
  have HX : Hid (IsNum (A16 xs) (r ^ E8)) := Lib.hid ⟨xs, rfl, okx, valx⟩
  have eg : NBlk w2 g Z16 := (hC2.2 g ZN4' (by simp [upd])).2
  have bg : W1.heap.size ≤ g := (hC2.2 g ZN4' (by simp [upd])).1
  obtain ⟨th, eg3⟩ := eg.put (ms := xs) rfl okx.1
  have ha3 := (ha.later hC2.1).setFar (show g ≠ w.heap.size by omega) (i64s xs)
  have hz3 := (hz.later hC2.1).setFar (show g ≠ w.heap.size + 1 by omega) (i64s xs)
  have hb3 := below_cells (show w.heap.size ≤ g by omega) (i64s xs) 0 _ (hb0.then_ hC2.1)
  refine wpList_store_mid rfl 50 _ _ rfl g 0 (i64s xs).toArray rfl rfl th (size16a xs okx.1) (one16 xs) ?_
  simp only [Act.put]
  generalize w2.setCells g 0 (i64s xs) = W3 at *
  have hgw : w.heap.size + 1 < g := by omega
  clear okx valx eg hC2 ha hz hb0 hat hzt hg bg th H0
  have H3 := Lib.hid (And.intro eg3 (And.intro ha3 (And.intro hz3 hb3)))
  clear eg3 ha3 hz3 hb3
  go_wp2_with fail
  obtain ⟨HEx, HEa, HEz, HBW⟩ := H3.out
  have HLx : g < W3.heap.size := HEx.lt
  have hlx := HX.out.len
  apply wp_region_g 6 (by kernel_rfl) (by kernel_rfl)
  simp only [List.take_succ_cons, List.take_zero, List.drop_succ_cons, List.drop_zero]
  apply lg_num (.tmp 4) HEx hlx HLx rfl rfl rfl
  simp only [Act.put, List.setIfInBounds_toArray, List.set_cons_succ, List.set_cons_zero]
  apply lg_call_num 2 65 #[.int .i64 2] rfl (by intro W; go_simp) (fun W => refSmall_calls 2 (by decide) W)
  intro vs hvs
  simp only [Act.put, List.setIfInBounds_toArray, List.set_cons_succ, List.set_cons_zero]
  apply lg_callx (.string ⟨(onesF 253 4).toArray⟩) 86 #[.int .i64 253, .int .i64 5] rfl (by intro W; go_simp) exp_253
  simp only [Act.put, List.setIfInBounds_toArray, List.set_cons_succ, List.set_cons_zero]
  apply lg_call_num (2 ^ leN (onesF 253 4)) 85 #[vs, .string ⟨(onesF 253 4).toArray⟩] rfl (by intro W; go_simp) (fun W => refPow_calls _ _ hvs _ (onesF_len _ _) W)
  intro vt hvt
  simp only [Act.put, List.setIfInBounds_toArray, List.set_cons_succ, List.set_cons_zero]
  apply lg_call_num (r ^ E8 * 2 ^ leN (onesF 253 4)) 51 #[A16 xs, vt] rfl (by intro W; go_simp) (fun W => refMul_num _ _ _ _ HX.out hvt W)
  intro vy hvy
  simp only [Act.put, List.setIfInBounds_toArray, List.set_cons_succ, List.set_cons_zero]
  apply lg_alloc ZN4 ZN4' rfl (by intro W; go_simp; rfl) (fun W => heap_alloc_new W _)
  intro gy hgy
  simp only [Act.put, List.setIfInBounds_toArray, List.set_cons_succ, List.set_cons_zero]
  refine lg_nil ?_
  intro w4 hC4
  rw [leN_253] at hvy
  obtain ⟨ys, rfl, oky, valy⟩ := hvy
  have HY : Hid (IsNum (A16 ys) (r ^ E8 * 2 ^ E4)) := Lib.hid ⟨ys, rfl, oky, valy⟩
  have eg : NBlk w4 gy Z16 := (hC4.2 gy ZN4' (by simp [upd])).2
  have bg : W3.heap.size ≤ gy := (hC4.2 gy ZN4' (by simp [upd])).1
  obtain ⟨th, ey⟩ := eg.put (ms := ys) rfl oky.1
  have ex := (HEx.later hC4.1).setFar (show gy ≠ g by omega) (i64s ys)
  have ea := (HEa.later hC4.1).setFar (show gy ≠ w.heap.size by omega) (i64s ys)
  have ez := (HEz.later hC4.1).setFar (show gy ≠ w.heap.size + 1 by omega) (i64s ys)
  have eb := below_cells (show w.heap.size ≤ gy by omega) (i64s ys) 0 _ (HBW.then_ hC4.1)
  refine wpList_store_mid rfl 50 _ _ rfl gy 0 (i64s ys).toArray rfl rfl th (size16a ys oky.1) (one16 ys) ?_
  simp only [Act.put]
  generalize w4.setCells gy 0 (i64s ys) = W5 at *
  have H5 := Lib.hid (And.intro ex (And.intro ea (And.intro ez (And.intro eb ey))))
  have hgy2 : g < gy := by omega
  clear oky valy eg hC4 HEx HEa HEz HBW HLx hgy bg th H3 ex ea ez eb ey hvs hvt
  go_wp2_with fail
  obtain ⟨HEx, HEa, HEz, HBW, HEy⟩ := H5.out
  have HLx : g < W5.heap.size := HEx.lt
  have HLa : w.heap.size < W5.heap.size := HEa.lt
  obtain ⟨d1, hd1⟩ : ∃ d, decide (r ^ E8 * r ^ E8 % P = r % P) = d := ⟨_, rfl⟩
  apply wp_region_ls (by kernel_rfl) (by kernel_rfl)
  apply ls_num (.tmp 4) HEx hlx HLx rfl rfl rfl
  simp only [Act.put, List.setIfInBounds_toArray, List.set_cons_succ, List.set_cons_zero]
  apply ls_num (.tmp 4) HEx hlx HLx rfl rfl rfl
  simp only [Act.put, List.setIfInBounds_toArray, List.set_cons_succ, List.set_cons_zero]
  apply ls_call_num (r ^ E8 * r ^ E8) 51 #[A16 xs, A16 xs] rfl (by intro W; go_simp) (fun W => refMul_num _ _ _ _ HX.out HX.out W)
  intro v1 hv1
  simp only [Act.put, List.setIfInBounds_toArray, List.set_cons_succ, List.set_cons_zero]
  apply ls_num (.tmp 1) HEa hla HLa rfl rfl rfl
  simp only [Act.put, List.setIfInBounds_toArray, List.set_cons_succ, List.set_cons_zero]
  apply ls_callx (.bool d1) 70 #[v1, A16 av] rfl (by intro W; go_simp) (fun W => (refIs_calls _ _ _ _ hv1 HV.out W).mono fun e W' h => ⟨by rw [h.1, hd1], h.2⟩)
  simp only [Act.put, List.setIfInBounds_toArray, List.set_cons_succ, List.set_cons_zero]
  apply ls_pure (.bool (!d1)) rfl (by intro W; go_simp)
  simp only [Act.put, List.setIfInBounds_toArray, List.set_cons_succ, List.set_cons_zero]
  refine ls_nil (Rs := []) ?_
  intro w6 b6
  have HK := Lib.hid (And.intro (HEx.later b6) (And.intro (HEa.later b6) (And.intro (HEz.later b6) (And.intro (HBW.then_ b6) (HEy.later b6)))))
  have HD1 := Lib.hid hd1
  clear HEx HEa HEz HBW HEy HLx HLa hv1 b6 hd1 H5
  go_upto_if 19 with (fail)
  go_cut [] from 20 (fun wc => NMid g (rootX r) av w wc)
  case first =>
    cases d1 with
    | true =>
      go_wp2_with fail
      go_meet
      case rel => exact ⟨xs, HK.out.1, (by unfold rootX; rw [if_pos (of_decide_eq_true HD1.out)]; exact HX.out), HK.out.2.1, HK.out.2.2.1, HK.out.2.2.2.1⟩
    | false =>
      have hly := HY.out.len
      have HRY := Lib.hid HK.out.2.2.2.2.rng
      have HSY := Lib.hid (size16' ys hly)
      obtain ⟨th, ex⟩ := HK.out.1.put (ms := ys) hlx hly
      have HT := Lib.hid th
      have HSA := Lib.hid (size16a ys hly)
      have HON := Lib.hid (one16 ys)
      have hk2 : Hid (NMid g (rootX r) av w (w6.setCells g 0 (i64s ys))) :=
        Lib.hid ⟨ys, ex, (by unfold rootX; rw [if_neg (of_decide_eq_false HD1.out)]; exact HY.out), HK.out.2.1.setFar (by omega) _, HK.out.2.2.1.setFar (by omega) _, below_cells (by omega) _ _ _ HK.out.2.2.2.1⟩
      clear th ex
      obtain ⟨yv, hyv⟩ : ∃ c, i64s ys = c := ⟨_, rfl⟩
      rw [hyv] at HRY HSY HT HSA HON hk2
      clear hyv
      go_wp2_with (first
        | (refine wpList_load_mid rfl 50 _ rfl gy 0 rfl yv _ HRY.out Tryd.underlying50 rfl HSY.out ?_)
        | (refine wpList_store_mid rfl 50 _ _ rfl g 0 yv.toArray rfl rfl HT.out HSA.out HON.out ?_))
      go_meet
      case rel => exact hk2.out
  case rest =>
    obtain ⟨zs, HEz0, HIY, HEa, HEz, HBW⟩ := hcut
    have HZ := Lib.hid HIY
    have hlz := HIY.len
    clear HIY HK HD1 HX HY hlx
    have HEx := HEz0
    clear HEz0
    go_wp2_with fail
    have HLx : g < (wc).heap.size := HEx.lt
    have HLa : w.heap.size < (wc).heap.size := HEa.lt
    obtain ⟨d2, hd2⟩ : ∃ d, rootOk r = d := ⟨_, rfl⟩
    apply wp_region_ls (by kernel_rfl) (by kernel_rfl)
    apply ls_num (.tmp 4) HEx hlz HLx rfl rfl rfl
    simp only [Act.put, List.setIfInBounds_toArray, List.set_cons_succ, List.set_cons_zero]
    apply ls_num (.tmp 4) HEx hlz HLx rfl rfl rfl
    simp only [Act.put, List.setIfInBounds_toArray, List.set_cons_succ, List.set_cons_zero]
    apply ls_call_num (rootX r * rootX r) 51 #[A16 zs, A16 zs] rfl (by intro W; go_simp) (fun W => refMul_num _ _ _ _ HZ.out HZ.out W)
    intro v2 hv2
    simp only [Act.put, List.setIfInBounds_toArray, List.set_cons_succ, List.set_cons_zero]
    apply ls_num (.tmp 1) HEa hla HLa rfl rfl rfl
    simp only [Act.put, List.setIfInBounds_toArray, List.set_cons_succ, List.set_cons_zero]
    apply ls_callx (.bool d2) 70 #[v2, A16 av] rfl (by intro W; go_simp) (fun W => (refIs_calls _ _ _ _ hv2 HV.out W).mono fun e W' h => ⟨by rw [h.1]; exact ret_bool hd2, h.2⟩)
    simp only [Act.put, List.setIfInBounds_toArray, List.set_cons_succ, List.set_cons_zero]
    apply ls_pure (.bool (!d2)) rfl (by intro W; go_simp)
    simp only [Act.put, List.setIfInBounds_toArray, List.set_cons_succ, List.set_cons_zero]
    refine ls_nil (Rs := []) ?_
    intro w8 b8
    have H8 := Lib.hid (And.intro (HEx.later b8) (And.intro (HEz.later b8) (HBW.then_ b8)))
    have HD2 := Lib.hid hd2
    clear HEx HEa HEz HBW HLx HLa hv2 b8 hd2
    cases d2 with
    | false =>
      have hput : w8.there (w.heap.size + 1) 0 (#[.int .i64 0, .int .i64 0, .int .i64 0, .int .i64 0, .int .i64 0, .int .i64 0, .int .i64 0, .int .i64 0, .int .i64 0, .int .i64 0, .int .i64 0, .int .i64 0, .int .i64 0, .int .i64 0, .int .i64 0, .int .i64 0] : Array Value).size ∧ NBlk (w8.setCells (w.heap.size + 1) 0 (#[.int .i64 0, .int .i64 0, .int .i64 0, .int .i64 0, .int .i64 0, .int .i64 0, .int .i64 0, .int .i64 0, .int .i64 0, .int .i64 0, .int .i64 0, .int .i64 0, .int .i64 0, .int .i64 0, .int .i64 0, .int .i64 0] : Array Value).toList) (w.heap.size + 1) Z16 := H8.out.2.1.put (ms := Z16) rfl rfl
      have hb9 : Below w.heap.size w (w8.setCells (w.heap.size + 1) 0 (#[.int .i64 0, .int .i64 0, .int .i64 0, .int .i64 0, .int .i64 0, .int .i64 0, .int .i64 0, .int .i64 0, .int .i64 0, .int .i64 0, .int .i64 0, .int .i64 0, .int .i64 0, .int .i64 0, .int .i64 0, .int .i64 0] : Array Value).toList) := below_cells (show w.heap.size ≤ w.heap.size + 1 by omega) _ 0 _ H8.out.2.2
      obtain ⟨ZV, hZV⟩ : ∃ z : Array Value, #[.int .i64 0, .int .i64 0, .int .i64 0, .int .i64 0, .int .i64 0, .int .i64 0, .int .i64 0, .int .i64 0, .int .i64 0, .int .i64 0, .int .i64 0, .int .i64 0, .int .i64 0, .int .i64 0, .int .i64 0, .int .i64 0] = z := ⟨_, rfl⟩
      have hS : (Tryd.prog.info? 50).map (·.size) = some ZV.size := by rw [← hZV]; exact size16
      have hO : ZV.all (·.oneCell') = true := by rw [← hZV]; exact one16 Z16
      rw [hZV] at hput hb9
      have HT9 := Lib.hid hput.1
      have HO9 := Lib.hid hO
      have HS9 := Lib.hid hS
      have HL9 := Lib.hid (ld16 hput.2 rfl)
      have HB9 := Lib.hid hb9
      have HZV := Lib.hid hZV
      clear hput hb9 hO hS hZV
      go_wp2_with (refine wpList_store_mid rfl 50 _ _ rfl (w.heap.size + 1) 0 ZV rfl (by rw [← HZV.out]; rfl) HT9.out HS9.out HO9.out ?_; generalize w8.setCells (w.heap.size + 1) 0 ZV.toList = W9 at HL9 HB9 ⊢)
      exact bodyPost_ret (v := .tuple #[.agg (i64s Z16).toArray, .bool false]) (results_cell_tmp rfl _ _ _ _ _ rfl rfl HL9.out) rfl ⟨_, by rw [HD2.out], by rw [HD2.out, if_neg (by decide)]; exact IsNum.zero, HB9.out⟩
    | true =>
      have H8r := Lib.hid H8.out.1.rng
      have H8s := Lib.hid (size16' zs hlz)
      obtain ⟨zv, hzv⟩ : ∃ c, i64s zs = c := ⟨_, rfl⟩
      rw [hzv] at H8r H8s
      have HZV := Lib.hid hzv
      clear hzv
      go_wp2_with (first | (go_not_at_if 29; fail) | (refine wpList_load_mid rfl 50 _ rfl g 0 rfl zv _ H8r.out Tryd.underlying50 rfl H8s.out ?_))
      refine (refOdd_calls (.agg zv.toArray) (rootX r) (by rw [← HZV.out]; exact HZ.out) _).mono ?_
      rintro e w9 ⟨rfl, b9⟩
      have H9 := Lib.hid (And.intro (H8.out.1.later b9) (And.intro (H8.out.2.1.later b9) (H8.out.2.2.then_ b9)))
      clear b9
      obtain ⟨od, hod⟩ : ∃ b, decide (rootX r % P % 2 = 1) = b := ⟨_, rfl⟩
      rw [hod]
      have HOD := Lib.hid hod
      clear hod
      go_upto_if 29 with (fail)
      go_cut [] from 30 (fun wc => ∃ ns, NBlk wc g ns ∧ IsNum (A16 ns) (rootV r) ∧ NBlk wc (w.heap.size + 1) Z16 ∧ Below w.heap.size w wc)
      case first =>
        cases od with
        | true =>
          have hodd := of_decide_eq_true HOD.out
          have H9r := Lib.hid H9.out.1.rng
          rw [HZV.out] at H9r
          have HZ0 : Hid (IsNum (.agg #[.int .i64 0, .int .i64 0, .int .i64 0, .int .i64 0, .int .i64 0, .int .i64 0, .int .i64 0, .int .i64 0, .int .i64 0, .int .i64 0, .int .i64 0, .int .i64 0, .int .i64 0, .int .i64 0, .int .i64 0, .int .i64 0]) 0) := Lib.hid IsNum.zero
          have HZ1 : Hid (IsNum (.agg zv.toArray) (rootX r)) := Lib.hid (by rw [← HZV.out]; exact HZ.out)
          go_wp2_with (refine wpList_load_mid rfl 50 _ rfl g 0 rfl zv _ H9r.out Tryd.underlying50 rfl H8s.out ?_)
          refine (refSub_num _ _ 0 (rootX r) HZ0.out HZ1.out _).mono ?_
          rintro e wn ⟨vn, rfl, hvn, bn⟩
          obtain ⟨ns, rfl, okn, valn⟩ := hvn
          have HNV : Hid (IsNum (A16 ns) (rootV r)) := Lib.hid (by unfold rootV; rw [if_pos hodd]; have h : IsNum (A16 ns) (0 + (P - rootX r % P)) := ⟨ns, rfl, okn, valn⟩; rwa [Nat.zero_add] at h)
          obtain ⟨th, ex⟩ := (H9.out.1.later bn).put (ms := ns) hlz okn.1
          have HT10 := Lib.hid th
          have HO10 := Lib.hid (one16 ns)
          have HS10 := Lib.hid (size16a ns okn.1)
          have H11 : Hid (∃ ms, NBlk (wn.setCells g 0 (i64s ns)) g ms ∧ IsNum (A16 ms) (rootV r) ∧ NBlk (wn.setCells g 0 (i64s ns)) (w.heap.size + 1) Z16 ∧ Below w.heap.size w (wn.setCells g 0 (i64s ns))) :=
            Lib.hid ⟨ns, ex, HNV.out, (H9.out.2.1.later bn).setFar (by omega) _, below_cells (by omega) _ 0 _ (H9.out.2.2.then_ bn)⟩
          unfold A16
          obtain ⟨nv, hnv⟩ : ∃ c, i64s ns = c := ⟨_, rfl⟩
          rw [hnv] at HT10 HO10 HS10 H11 ⊢
          clear okn valn bn th ex hodd hnv HNV
          go_wp2_with (refine wpList_store_mid rfl 50 _ _ rfl g 0 nv.toArray rfl rfl HT10.out HS10.out HO10.out ?_)
          go_meet
          case rel => exact H11.out
        | false =>
          have hodd := of_decide_eq_false HOD.out
          go_wp2_with fail
          go_meet
          case rel => exact ⟨zs, H9.out.1, (by unfold rootV; rw [if_neg hodd]; exact HZ.out), H9.out.2.1, H9.out.2.2⟩
      case rest =>
        obtain ⟨ns, En, HNV0, Ez, HB⟩ := hcut
        have HNV := Lib.hid HNV0
        have hln := HNV0.len
        have HR11 := Lib.hid En.rng
        have HS11 := Lib.hid (size16' ns hln)
        obtain ⟨th, hz3⟩ := Ez.put (ms := ns) rfl hln
        have HT11 := Lib.hid th
        have HO10 := Lib.hid (one16 ns)
        have HSA11 := Lib.hid (size16a ns hln)
        have HL11 := Lib.hid (ld16 hz3 hln)
        have HB11 := Lib.hid (below_cells (show w.heap.size ≤ w.heap.size + 1 by omega) (i64s ns) 0 _ HB)
        clear hz3 th En Ez HB HNV0
        obtain ⟨nv, hnv⟩ : ∃ c, i64s ns = c := ⟨_, rfl⟩
        rw [hnv] at HR11 HS11 HT11 HO10 HSA11 HL11 HB11
        have HNW := Lib.hid hnv
        clear hnv
        go_wp2_with (first
          | (refine wpList_load_mid rfl 50 _ rfl g 0 rfl nv _ HR11.out Tryd.underlying50 rfl HS11.out ?_)
          | (refine wpList_store_mid rfl 50 _ _ rfl (w.heap.size + 1) 0 nv.toArray rfl rfl HT11.out HSA11.out HO10.out ?_))
        exact bodyPost_ret (v := .tuple #[.agg nv.toArray, .bool true]) (results_cell_tmp rfl _ _ _ _ _ rfl rfl HL11.out) rfl ⟨_, by rw [HD2.out], by rw [HD2.out, if_pos rfl, ← HNW.out]; exact HNV.out, HB11.out⟩
end Go.Proofs.YtkfdclnaaphdgaaDoor
