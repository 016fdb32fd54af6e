/- Layer 12, no run: what the program's loop lays. -/
import Derived.Test.YtlfmknebkfnliaaJrA
import Derived.Test.YtlfmknebkfnliaaJwW
namespace Go.Proofs.Ytlfmknebkfnliaa
open Go.ChangeShapes Go.WideShapes Go.ChangeAt Go.RowKit Go.Lib
set_option linter.unusedVariables false

def stepJ (v : Jv) (t : JT) (key : List UInt8) : JT := match getJ v key with
  | some u => t.snoc key u
  | none => t
def outJ (v : Jv) : List (List UInt8) → JT → JT
  | [], t => t
  | k :: ks, t => outJ v ks (stepJ v t k)
theorem outJ_at (v : Jv) {ks : List (List UInt8)} {i : Nat} (h : i < ks.length) (t : JT) : outJ v (ks.drop i) t = outJ v (ks.drop (i + 1)) (stepJ v t ks[i]) := by
  rw [List.drop_eq_getElem_cons h]; rfl
/-- A row whose keys rise, each below all of some others. -/
def OkT (t : JT) (ks : List (List UInt8)) : Prop := Rise (slts t) ∧ ∀ s ∈ slts t, ∀ k ∈ ks, cmpP s.pr (keyP k) = -1
theorem slts_snoc : ∀ (t : JT) (key : List UInt8) (u : Jv), slts (t.snoc key u) = slts t ++ [⟨key, [], []⟩]
  | .nil, key, u => rfl
  | .cons k kd is n s l m r, key, u => by
    have := slts_snoc r key u
    unfold slts at this ⊢
    simp only [JT.snoc, JT.keys, List.map_cons, List.cons_append, this]
theorem OkT.nil (ks : List (List UInt8)) : OkT .nil ks := ⟨List.Pairwise.nil, fun s hs => by cases hs⟩
theorem OkT.step {v : Jv} {t : JT} {k : List UInt8} {ks : List (List UInt8)} (hs : SortK (k :: ks)) (h : OkT t (k :: ks)) : OkT (stepJ v t k) ks := by
  have hk := (List.pairwise_cons.1 hs).1
  unfold stepJ
  cases getJ v k with
  | none => exact ⟨h.1, fun s hx q hq => h.2 s hx q (List.mem_cons_of_mem _ hq)⟩
  | some u =>
    show OkT (t.snoc k u) ks
    refine ⟨?_, fun s hx q hq => ?_⟩
    · rw [slts_snoc]
      exact List.pairwise_append.2 ⟨h.1, List.pairwise_singleton _ _, fun a ha b hb => by
        rw [List.mem_singleton] at hb
        subst hb
        exact h.2 a ha k (List.mem_cons_self ..)⟩
    · rw [slts_snoc, List.mem_append, List.mem_singleton] at hx
      rcases hx with hx | rfl
      · exact h.2 s hx q (List.mem_cons_of_mem _ hq)
      · show cmpP (keyP k) (keyP q) = -1
        rw [cmpP_key]; exact hk q hq
theorem OkT.pos {t : JT} {key : List UInt8} {ks : List (List UInt8)} (h : OkT t (key :: ks)) : fposJ (mapV t) key = t.ext ∧ ffndJ (mapV t) key = false := by
  have hp : posF (slts t) (keyP key) = (slts t).length := (posF_uniq h.1 _ _ (Nat.le_refl _) (fun j hj _ => h.2 _ (List.getElem_mem hj) key (List.mem_cons_self ..)) (fun j hj hge => absurd hj (by omega))).symm
  unfold fposJ ffndJ
  rw [if_pos (show (mapV t).kd = 5 from rfl), if_pos (show (mapV t).kd = 5 from rfl)]
  refine ⟨hp.trans (slts_len t), ?_⟩
  show foundF (slts t) (keyP key) = false
  unfold foundF
  rw [hp, List.getElem?_eq_none (Nat.le_refl _)]
theorem stepJ_ext (v : Jv) (t : JT) (k : List UInt8) : (stepJ v t k).ext ≤ t.ext + 1 := by
  unfold stepJ
  cases getJ v k with
  | none => exact Nat.le_succ _
  | some u => show (t.snoc k u).ext ≤ _; rw [snoc_ext]; exact Nat.le_refl _
theorem stays_sorted (k : List UInt8) : SortK (staysL k) := by
  unfold staysL SortK
  repeat' split
  all_goals decide
theorem stays_len (k : List UInt8) : (staysL k).length ≤ 9 := by
  unfold staysL
  repeat' split
  all_goals decide
theorem stays_short (k : List UInt8) : ∀ x ∈ staysL k, x.length ≤ 100 := by
  unfold staysL
  repeat' split
  all_goals decide
end Go.Proofs.Ytlfmknebkfnliaa
