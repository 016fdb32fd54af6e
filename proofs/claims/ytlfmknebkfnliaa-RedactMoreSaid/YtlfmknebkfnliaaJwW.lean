/- Layer 9, no run: members by rising keys, with one more (hustingsref09.With). -/
import Derived.Test.YtlfmknebkfnliaaPwA
namespace Go.Proofs.Ytlfmknebkfnliaa
open Go.Lib
set_option linter.unusedVariables false

def JT.app : JT → JT → JT
  | .nil, u => u
  | .cons k kd is n s l m r, u => .cons k kd is n s l m (r.app u)
theorem app_nil : ∀ t : JT, t.app .nil = t
  | .nil => rfl
  | .cons k kd is n s l m r => by unfold JT.app; rw [app_nil r]
theorem app_assoc : ∀ t u x : JT, (t.app u).app x = t.app (u.app x)
  | .nil, u, x => rfl
  | .cons k kd is n s l m r, u, x => by simp only [JT.app, app_assoc r u x]
/-- Strictly rising keys. -/
def SortK (ks : List (List UInt8)) : Prop := ks.Pairwise fun a b => compareBytes a b = -1
theorem sortJ_of {t : JT} (h : Rise (slts t)) : SortK t.keys := by
  unfold Rise slts at h
  unfold SortK
  rw [List.pairwise_map] at h
  exact h.imp fun {a b} h => by
    rw [← cmpP_key]; exact h
theorem cb_irr {a : List UInt8} (h : compareBytes a a = -1) : False := by rw [cb_self] at h; exact absurd h (by decide)
def lowJ (key : List UInt8) : JT → JT
  | .nil => .nil
  | .cons k kd is n s l m r => if compareBytes k key = -1 then .cons k kd is n s l m (lowJ key r) else lowJ key r
def highJ (key : List UInt8) : JT → JT
  | .nil => .nil
  | .cons k kd is n s l m r => if compareBytes key k = -1 then .cons k kd is n s l m (highJ key r) else highJ key r
def withJ (t : JT) (key : List UInt8) (v : Jv) : JT := (lowJ key t).app (JT.one key v (highJ key t))
theorem low_at (key : List UInt8) {t : JT} {i : Nat} (h : i < t.ext) : lowJ key (t.fall i) = if compareBytes (t.fall i).key key = -1 then JT.one (t.fall i).key (t.fall i).val (lowJ key (t.fall (i + 1))) else lowJ key (t.fall (i + 1)) := (congrArg (lowJ key) (t.fall_of_lt i h)).trans rfl
theorem high_at (key : List UInt8) {t : JT} {i : Nat} (h : i < t.ext) : highJ key (t.fall i) = if compareBytes key (t.fall i).key = -1 then JT.one (t.fall i).key (t.fall i).val (highJ key (t.fall (i + 1))) else highJ key (t.fall (i + 1)) := (congrArg (highJ key) (t.fall_of_lt i h)).trans rfl
theorem low_end (key : List UInt8) {t : JT} {i : Nat} (h : t.ext ≤ i) : lowJ key (t.fall i) = .nil := by rw [t.fall_all i h]; rfl
theorem high_end (key : List UInt8) {t : JT} {i : Nat} (h : t.ext ≤ i) : highJ key (t.fall i) = .nil := by rw [t.fall_all i h]; rfl
theorem fall_one {t : JT} {i : Nat} {k : List UInt8} {u : Jv} {r : JT} (h : t.fall i = JT.one k u r) : i < t.ext ∧ (t.fall i).key = k ∧ (t.fall i).val = u ∧ t.fall (i + 1) = r := by
  have h1 := JT.fall_ext t i
  rw [h] at h1
  have h2 : (r.ext + 1 : Nat) = t.ext - i := h1
  refine ⟨by omega, by rw [h]; rfl, by rw [h]; rfl, ?_⟩
  rw [JT.fall_succ, h]
  show r.fall 0 = r
  exact JT.fall_zero r
theorem fall_app : ∀ (a b : JT), (a.app b).fall a.ext = b
  | .nil, b => JT.fall_zero b
  | .cons k kd is n s l m r, b => fall_app r b
theorem ext_app : ∀ (a b : JT), (a.app b).ext = a.ext + b.ext
  | .nil, b => (Nat.zero_add _).symm
  | .cons k kd is n s l m r, b => by simp only [JT.app, JT.ext, ext_app r b]; omega
theorem bulk_app : ∀ (a b : JT), (a.app b).bulk = a.bulk + b.bulk
  | .nil, b => (Nat.zero_add _).symm
  | .cons k kd is n s l m r, b => by simp only [JT.app, JT.bulk, bulk_app r b]; omega
theorem lowhigh_bulk (key : List UInt8) : ∀ t : JT, (lowJ key t).bulk + (highJ key t).bulk ≤ t.bulk
  | .nil => Nat.le_refl _
  | .cons k kd is n s l m r => by
    have h := lowhigh_bulk key r
    unfold lowJ highJ
    by_cases h1 : compareBytes k key = -1
    · have h2 : ¬ compareBytes key k = -1 := fun h2 => cb_irr (cb_trans h1 h2)
      rw [if_pos h1, if_neg h2]; simp only [JT.bulk]; omega
    · rw [if_neg h1]
      by_cases h2 : compareBytes key k = -1
      · rw [if_pos h2]; simp only [JT.bulk]; omega
      · rw [if_neg h2]; simp only [JT.bulk]; omega
theorem with_bulk (t : JT) (key : List UInt8) (v : Jv) : (withJ t key v).bulk ≤ t.bulk + v.bulk := by
  have := lowhigh_bulk key t
  unfold withJ
  rw [bulk_app, JT.bulk_one]; omega
theorem findV_app : ∀ (a b : JT) (k : List UInt8), (a.app b).findV k = (match a.findV k with | some u => some u | none => b.findV k)
  | .nil, b, k => rfl
  | .cons k0 kd is n s l m r, b, k => by
    simp only [JT.app, JT.findV]
    by_cases h : k0 = k
    · rw [if_pos h, if_pos h]
    · rw [if_neg h, if_neg h]; exact findV_app r b k
theorem findV_low (key k : List UInt8) : ∀ t : JT, (lowJ key t).findV k = if compareBytes k key = -1 then t.findV k else none
  | .nil => by simp [lowJ, JT.findV]
  | .cons k0 kd is n s l m r => by
    have ih := findV_low key k r
    by_cases h1 : compareBytes k0 key = -1
    · rw [lowJ, if_pos h1, JT.findV, JT.findV]
      by_cases h : k0 = k
      · rw [if_pos h, if_pos h]; subst h; rw [if_pos h1]
      · rw [if_neg h, if_neg h]; exact ih
    · rw [lowJ, if_neg h1, ih, JT.findV]
      by_cases h : k0 = k
      · subst h; rw [if_neg h1, if_neg h1]
      · rw [if_neg h]
theorem findV_high (key k : List UInt8) : ∀ t : JT, (highJ key t).findV k = if compareBytes key k = -1 then t.findV k else none
  | .nil => by simp [highJ, JT.findV]
  | .cons k0 kd is n s l m r => by
    have ih := findV_high key k r
    by_cases h1 : compareBytes key k0 = -1
    · rw [highJ, if_pos h1, JT.findV, JT.findV]
      by_cases h : k0 = k
      · rw [if_pos h, if_pos h]; subst h; rw [if_pos h1]
      · rw [if_neg h, if_neg h]; exact ih
    · rw [highJ, if_neg h1, ih, JT.findV]
      by_cases h : k0 = k
      · subst h; rw [if_neg h1, if_neg h1]
      · rw [if_neg h]
theorem findV_with {t : JT} {key : List UInt8} {v : Jv} {k : List UInt8} (h : k ≠ key) : (withJ t key v).findV k = t.findV k := by
  unfold withJ
  rw [findV_app, findV_low]
  have h3 : (JT.one key v (highJ key t)).findV k = (highJ key t).findV k := if_neg (fun e => h e.symm)
  rw [h3, findV_high]
  rcases cb_three k key with h1 | h1 | h1
  · rw [if_pos h1]
    have h2 : ¬ compareBytes key k = -1 := fun h2 => cb_irr (cb_trans h1 h2)
    rw [if_neg h2]
    cases t.findV k <;> rfl
  · exact absurd (cb_eq h1) h
  · rw [if_neg (by rw [h1]; decide), if_pos (by rw [cb_anti, h1])]
def allR : JT → Bool
  | .nil => true
  | .cons k kd is n s l m r => (risF true none m && risF false none l) && allR r
theorem ris_all (mem : Bool) : ∀ (t : JT) (p : Option (List UInt8)), risF mem p t = true → allR t = true
  | .nil, _, _ => rfl
  | .cons k kd is n s l m r, p, h => by
    simp only [risF, Bool.and_eq_true] at h
    simp only [allR, Bool.and_eq_true]
    exact ⟨⟨h.1.1.2, h.1.2⟩, ris_all mem r _ h.2⟩
theorem ris_of : ∀ (t : JT) (p : Option (List UInt8)), SortK t.keys → (∀ q, p = some q → ∀ x ∈ t.keys, compareBytes q x = -1) → allR t = true → risF true p t = true
  | .nil, _, _, _, _ => rfl
  | .cons k kd is n s l m r, p, h1, h2, h3 => by
    simp only [allR, Bool.and_eq_true] at h3
    have ih := ris_of r (some k) (List.pairwise_cons.1 h1).2 (fun q hq x hx => by injection hq with hq; subst hq; exact (List.pairwise_cons.1 h1).1 x hx) h3.2
    simp only [risF, Bool.and_eq_true]
    refine ⟨⟨⟨?_, h3.1.1⟩, h3.1.2⟩, ih⟩
    cases p with
    | none => rfl
    | some q =>
      show (!true || Op.bytesLess q k) = true
      rw [bl_cb, h2 q rfl k (List.mem_cons_self ..)]
      rfl
theorem allR_app : ∀ (a b : JT), allR a = true → allR b = true → allR (a.app b) = true
  | .nil, b, _, h => h
  | .cons k kd is n s l m r, b, h1, h2 => by
    simp only [allR, Bool.and_eq_true] at h1
    simp only [JT.app, allR, Bool.and_eq_true]
    exact ⟨h1.1, allR_app r b h1.2 h2⟩
theorem allR_low (key : List UInt8) : ∀ t : JT, allR t = true → allR (lowJ key t) = true
  | .nil, _ => rfl
  | .cons k kd is n s l m r, h => by
    simp only [allR, Bool.and_eq_true] at h
    unfold lowJ
    split
    · simp only [allR, Bool.and_eq_true]; exact ⟨h.1, allR_low key r h.2⟩
    · exact allR_low key r h.2
theorem allR_high (key : List UInt8) : ∀ t : JT, allR t = true → allR (highJ key t) = true
  | .nil, _ => rfl
  | .cons k kd is n s l m r, h => by
    simp only [allR, Bool.and_eq_true] at h
    unfold highJ
    split
    · simp only [allR, Bool.and_eq_true]; exact ⟨h.1, allR_high key r h.2⟩
    · exact allR_high key r h.2
theorem keys_app : ∀ (a b : JT), (a.app b).keys = a.keys ++ b.keys
  | .nil, b => rfl
  | .cons k kd is n s l m r, b => by simp only [JT.app, JT.keys, keys_app r b, List.cons_append]
theorem keys_low (key : List UInt8) : ∀ t : JT, (lowJ key t).keys.Sublist t.keys ∧ ∀ x ∈ (lowJ key t).keys, compareBytes x key = -1
  | .nil => ⟨List.Sublist.refl _, fun x hx => by cases hx⟩
  | .cons k kd is n s l m r => by
    have ih := keys_low key r
    unfold lowJ
    by_cases h : compareBytes k key = -1
    · rw [if_pos h]
      refine ⟨ih.1.cons_cons _, fun x hx => ?_⟩
      rcases List.mem_cons.1 (show x ∈ k :: _ from hx) with rfl | hx
      · exact h
      · exact ih.2 x hx
    · rw [if_neg h]; exact ⟨ih.1.cons _, ih.2⟩
theorem keys_high (key : List UInt8) : ∀ t : JT, (highJ key t).keys.Sublist t.keys ∧ ∀ x ∈ (highJ key t).keys, compareBytes key x = -1
  | .nil => ⟨List.Sublist.refl _, fun x hx => by cases hx⟩
  | .cons k kd is n s l m r => by
    have ih := keys_high key r
    unfold highJ
    by_cases h : compareBytes key k = -1
    · rw [if_pos h]
      refine ⟨ih.1.cons_cons _, fun x hx => ?_⟩
      rcases List.mem_cons.1 (show x ∈ k :: _ from hx) with rfl | hx
      · exact h
      · exact ih.2 x hx
    · rw [if_neg h]; exact ⟨ih.1.cons _, ih.2⟩
theorem with_sort {t : JT} {key : List UInt8} {v : Jv} (h : SortK t.keys) : SortK (withJ t key v).keys := by
  unfold withJ SortK
  rw [keys_app]
  have h1 := keys_low key t
  have h2 := keys_high key t
  refine List.pairwise_append.2 ⟨h.sublist h1.1, List.pairwise_cons.2 ⟨fun x hx => h2.2 x hx, h.sublist h2.1⟩, fun a ha b hb => ?_⟩
  have hak := h1.2 a ha
  rcases List.mem_cons.1 (show b ∈ key :: _ from hb) with rfl | hb
  · exact hak
  · exact cb_trans hak (h2.2 b hb)
theorem with_ris {t : JT} {key : List UInt8} {v : Jv} (h : risF true none t = true) (hv : risV v = true) : risF true none (withJ t key v) = true := by
  refine ris_of _ none (with_sort (sortJ_of (rise_of none t h).1)) (fun q hq => by cases hq) ?_
  have ha := ris_all true t none h
  unfold withJ
  refine allR_app _ _ (allR_low key t ha) ?_
  show ((risF true none v.m && risF false none v.l) && allR (highJ key t)) = true
  rw [allR_high key t ha]
  unfold risV at hv
  rw [hv]; rfl
end Go.Proofs.Ytlfmknebkfnliaa
