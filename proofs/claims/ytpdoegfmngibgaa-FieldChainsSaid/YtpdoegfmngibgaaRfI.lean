/- Layer 4: the document's sums, differences, odd numbers, as rests. -/
import Derived.Test.YtpdoegfmngibgaaRfH
namespace Go.Proofs.Ytpdoegfmngibgaa
open Go.ChangeShapes Go.WideShapes Go.ChangeAt Go.RowKit Go.IntWalk
set_option linter.unusedVariables false

theorem modN (r : Nat) : ((r % P : Nat) : Int) = (r : Int) % (P : Int) := by exact Int.natCast_emod r P
theorem refAdd_num (u v : Value) (r s : Nat) (hu : IsNum u r) (hv : IsNum v s) (w : World) : Calls Try.prog 21 #[u, v] w (NPost (r + s) w) := by
  obtain ⟨xs, rfl, hx, hxv⟩ := hu
  obtain ⟨ys, rfl, hy, hyv⟩ := hv
  refine (refAdd_calls xs ys hx hy w).mono ?_
  rintro e w' ⟨rfl, hb⟩
  refine ⟨_, rfl, ⟨_, rfl, carryF_ok _ (zipAdd_len _ _ _) (zipAdd_bnd xs ys hx hy), ?_⟩, hb⟩
  rw [carryF_mod _ (zipAdd_len _ _ _), zipAdd_val xs ys hx.1 hy.1, Int.add_emod, hxv, hyv, modN, modN, modN, ← Int.add_emod, Int.natCast_add]
theorem refSub_num (u v : Value) (r s : Nat) (hu : IsNum u r) (hv : IsNum v s) (w : World) : Calls Try.prog 23 #[u, v] w (NPost (r + (P - s % P)) w) := by
  obtain ⟨xs, rfl, hx, hxv⟩ := hu
  obtain ⟨ys, rfl, hy, hyv⟩ := hv
  refine (refSub_calls xs ys hx hy w).mono ?_
  rintro e w' ⟨rfl, hb⟩
  refine ⟨_, rfl, ⟨_, rfl, carryF_ok _ (zipSub_len _ _ _) (zipSub_bnd xs ys hx hy), ?_⟩, hb⟩
  have hp : s % P ≤ P := Nat.le_of_lt (mod_lt_P s)
  rw [carryF_mod _ (zipSub_len _ _ _), zipSub_val xs ys hx.1 hy.1, Int.sub_emod, hxv, hyv]
  rw [modN (r + (P - s % P)), Int.natCast_add, Int.natCast_sub hp, modN, modN, ← Int.sub_emod]
  rw [show (r : Int) + ((P : Int) - (s : Int) % (P : Int)) = ((r : Int) - (s : Int) % (P : Int)) + (P : Int) by omega, Int.add_emod_right, Int.sub_emod (r : Int) ((s : Int) % (P : Int)), Int.emod_emod, ← Int.sub_emod]
theorem IsNum.zero : IsNum (A16 Z16) 0 := ⟨Z16, rfl, ⟨rfl, by decide⟩, by decide +kernel⟩
set_option maxHeartbeats 4000000 in
theorem refOdd_calls (v : Value) (r : Nat) (hv : IsNum v r) (w : World) :
    Calls Try.prog 19 #[v] w fun e w' => e = .returned (.bool (decide (r % P % 2 = 1))) ∧ Below w.heap.size w w' := by
  obtain ⟨ds, rfl, hok, hval⟩ := hv
  unfold A16
  have hle : ∀ W, Calls Try.prog 38 #[.agg (i64s ds).toArray] W (RLeast r W) := fun W => refLeast_calls ds hok r hval W
  have h0 : NBlk (w.alloc (.cells (i64s ds).toArray 33)) w.heap.size ds := NBlk.new _
  have hsz := size16' ds hok.1
  obtain ⟨cs, hcs⟩ : ∃ cs, i64s ds = cs := ⟨_, rfl⟩
  have hrg := h0.rng
  rw [hcs] at hle h0 hsz hrg ⊢
  have H0 := Lib.hid (And.intro hrg (And.intro hsz hle))
  clear h0 hrg hsz hle hcs hok hval
  go_enter Try.func19, Try.ntmps19
  go_wp2_with (refine wpList_load_mid rfl 33 _ rfl w.heap.size 0 rfl cs _ H0.out.1 Try.underlying33 rfl H0.out.2.1 ?_)
  refine (H0.out.2.2 _).mono ?_
  rintro e w1 ⟨es, rfl, hdg, hve, b1⟩
  obtain ⟨d, t, rfl⟩ : ∃ d t, es = d :: t := by
    cases es with
    | nil => exact absurd hdg.1 (by simp)
    | cons d t => exact ⟨d, t, rfl⟩
  have hix : ∀ W : World, (Instr.index 33 (A16 (d :: t)) (.int .i64 0)).run Try.prog W = .ok (.int .i64 d) W := by
    intro W
    have h16 : 0 ≤ (0 : Int) ∧ (0 : Int) < (16 : Nat) := by decide
    simp [A16, i64s, Instr.index, run_underlying Try.underlying33, asIntOf, go_sem]
  have hd := hdg.2 d (List.mem_cons_self ..)
  have ht : Int.tmod d 2 = d % 2 := Int.tmod_eq_emod_of_nonneg hd.1
  have hres : (d % 2 == 1) = decide (r % P % 2 = 1) := by
    rw [Bool.eq_iff_iff, beq_iff_eq, decide_eq_true_eq]
    simp only [valD] at hve
    omega
  have hb := below1 b1
  have HR := Lib.hid (And.intro hres hb)
  clear hdg hve b1 hres hb
  go_wp2_with fail
  go_ret
  exact ⟨ret_bool HR.out.1, HR.out.2⟩
end Go.Proofs.Ytpdoegfmngibgaa
