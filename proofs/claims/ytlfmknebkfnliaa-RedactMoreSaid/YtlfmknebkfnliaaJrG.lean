/- Layer 12, no run: what the program lays is what the document says. -/
import Derived.Test.YtlfmknebkfnliaaJrC
import Derived.Test.YtlfmknebkfnliaaJrD
import Derived.Test.YtlfmknebkfnliaaJwW
namespace Go.Proofs.Ytlfmknebkfnliaa
open Go.ChangeShapes Go.WideShapes Go.ChangeAt Go.RowKit Go.Lib
set_option linter.unusedVariables false

theorem snoc_app : ∀ (t : JT) (k : List UInt8) (u : Jv), t.snoc k u = t.app (JT.one k u .nil)
  | .nil, k, u => rfl
  | .cons k0 kd is n s l m r, k, u => by simp only [JT.snoc, JT.app, snoc_app r k u]
/-- What is laid of a row, by a list of keys. -/
def buildJ (f : List UInt8 → Jv → Option Jv) (t : JT) : List (List UInt8) → JT
  | [] => .nil
  | k :: ks => match (t.findV k).bind (f k) with
    | some u => JT.one k u (buildJ f t ks)
    | none => buildJ f t ks
theorem build_cons (f : List UInt8 → Jv → Option Jv) (t : JT) (k : List UInt8) (ks : List (List UInt8)) : buildJ f t (k :: ks) = match (t.findV k).bind (f k) with
    | some u => JT.one k u (buildJ f t ks)
    | none => buildJ f t ks := rfl
theorem build_app (f : List UInt8 → Jv → Option Jv) (t : JT) : ∀ a b : List (List UInt8), buildJ f t (a ++ b) = (buildJ f t a).app (buildJ f t b)
  | [], b => rfl
  | k :: ks, b => by
    rw [List.cons_append, build_cons, build_cons, build_app f t ks b]
    cases (t.findV k).bind (f k) <;> rfl
theorem findV_none : ∀ {t : JT} {k : List UInt8}, k ∉ t.keys → t.findV k = none
  | .nil, k, _ => rfl
  | .cons k0 kd is n s l m r, k, h => by
    unfold JT.keys at h
    rw [List.mem_cons] at h
    unfold JT.findV
    rw [if_neg (fun e => h (.inl e.symm))]
    exact findV_none (fun e => h (.inr e))
theorem build_skip {f : List UInt8 → Jv → Option Jv} {k0 s : List UInt8} {kd n : Int} {is : Bool} {l m r : JT} : ∀ (L : List (List UInt8)), k0 ∉ L → buildJ f (.cons k0 kd is n s l m r) L = buildJ f r L
  | [], _ => rfl
  | k :: ks, h => by
    rw [List.mem_cons] at h
    have e : (JT.cons k0 kd is n s l m r).findV k = r.findV k := by
      conv => lhs; unfold JT.findV
      rw [if_neg (fun e => h (.inl e))]
    rw [build_cons, build_cons, e, build_skip ks (fun e => h (.inr e))]
theorem build_nil (f : List UInt8 → Jv → Option Jv) : ∀ L : List (List UInt8), buildJ f .nil L = .nil
  | [] => rfl
  | k :: ks => by show buildJ f .nil ks = .nil; exact build_nil f ks
theorem doc_build (kind : List UInt8) : ∀ (t : JT) (L : List (List UInt8)), SortK t.keys → SortK L → (∀ k, k ∉ L → k ∈ t.keys → ∀ v, keptO kind k v = none) → docJ kind t = buildJ (keptO kind) t L
  | .nil, L, _, _, _ => (build_nil _ L).symm
  | .cons k0 kd is n s l m r, L, ht, hL, hz => by
    have ht1 : ∀ x ∈ r.keys, compareBytes k0 x = -1 := (List.pairwise_cons.1 ht).1
    have ht2 : SortK r.keys := (List.pairwise_cons.1 ht).2
    have hd : docJ kind (.cons k0 kd is n s l m r) = match keptO kind k0 ⟨kd, is, n, s, l, m⟩ with
      | some u => JT.one k0 u (docJ kind r)
      | none => docJ kind r := rfl
    have hmem : ∀ x, x ∈ (JT.cons k0 kd is n s l m r).keys ↔ x = k0 ∨ x ∈ r.keys := fun x => List.mem_cons
    induction L with
    | nil =>
      rw [hd, hz k0 (by simp) ((hmem k0).2 (.inl rfl))]
      exact (doc_build kind r [] ht2 hL (fun k h1 h2 => hz k h1 ((hmem k).2 (.inr h2)))).trans rfl
    | cons k1 ks ih =>
      have hL1 : ∀ x ∈ ks, compareBytes k1 x = -1 := (List.pairwise_cons.1 hL).1
      have hL2 : SortK ks := (List.pairwise_cons.1 hL).2
      rcases cb_three k0 k1 with hc | hc | hc
      · have hn : k0 ∉ k1 :: ks := by
          rw [List.mem_cons]
          rintro (e | e)
          · subst e; exact cb_irr hc
          · exact cb_irr (cb_trans hc (hL1 _ e))
        rw [hd, hz k0 hn ((hmem k0).2 (.inl rfl)), build_skip _ hn]
        exact doc_build kind r _ ht2 hL (fun k h1 h2 => hz k h1 ((hmem k).2 (.inr h2)))
      · have e := cb_eq hc
        subst e
        have hn : k0 ∉ ks := fun e => cb_irr (hL1 _ e)
        have hr := doc_build kind r ks ht2 hL2 (fun k h1 h2 => hz k (by
          rw [List.mem_cons]
          rintro (e | e)
          · subst e; exact cb_irr (ht1 _ h2)
          · exact h1 e) ((hmem k).2 (.inr h2)))
        rw [hd, hr]
        rw [build_cons, build_skip _ hn, show (JT.cons k0 kd is n s l m r).findV k0 = some ⟨kd, is, n, s, l, m⟩ from if_pos rfl]
        rfl
      · have hc' : compareBytes k1 k0 = -1 := by rw [cb_anti, hc]
        have hn : k1 ∉ (JT.cons k0 kd is n s l m r).keys := by
          rw [hmem]
          rintro (e | e)
          · subst e; exact cb_irr hc'
          · exact cb_irr (cb_trans hc' (ht1 _ e))
        rw [build_cons, findV_none hn]
        exact ih hL2 (fun k h1 h2 => hz k (by
          rw [List.mem_cons]
          rintro (e | e)
          · subst e; exact hn h2
          · exact h1 e) h2)
theorem out_build (kind : List UInt8) (v : Jv) (h5 : v.kd = 5) : ∀ (ks : List (List UInt8)) (t : JT), (∀ k ∈ ks, k ∈ staysL kind) → outJ v ks t = t.app (buildJ (keptO kind) v.m ks)
  | [], t, _ => (app_nil t).symm
  | k :: ks, t, h => by
    have hk := h k (List.mem_cons_self ..)
    have hne : k ≠ tpiK := fun e => tpi_not kind (e ▸ hk)
    have hf : ∀ mv, keptO kind k mv = some mv := fun mv => by rw [kept_else (fun e => hne e.2.1), if_pos hk]
    show outJ v ks (stepJ v t k) = _
    rw [out_build kind v h5 ks _ (fun x hx => h x (List.mem_cons_of_mem _ hx))]
    unfold stepJ getJ
    rw [if_pos h5]
    rw [build_cons]
    cases hv : v.m.findV k with
    | none => rfl
    | some mv =>
      show (t.snoc k mv).app _ = t.app _
      rw [show (some mv : Option Jv).bind (keptO kind k) = some mv from hf mv]
      rw [snoc_app, app_assoc]
      rfl
def keysX (kind : List UInt8) : List (List UInt8) := staysL kind ++ if kind = kind0 then [tpiK] else []
theorem fin_build (kind : List UInt8) (v : Jv) (h5 : v.kd = 5) : finJ kind v (outJ v (staysL kind) .nil) = buildJ (keptO kind) v.m (keysX kind) := by
  rw [out_build kind v h5 _ _ (fun _ h => h)]
  unfold finJ keysX
  rw [build_app]
  show (if kind = kind0 then _ else buildJ (keptO kind) v.m (staysL kind)) = _
  by_cases hk : kind = kind0
  · rw [if_pos hk, if_pos hk]
    unfold getJ
    rw [if_pos h5]
    rw [build_cons]
    cases hv : v.m.findV tpiK with
    | none =>
      exact (app_nil _).symm
    | some mv =>
      rw [show (some mv : Option Jv).getD nullV = mv from rfl, show (some mv : Option Jv).bind (keptO kind tpiK) = keptO kind tpiK mv from rfl]
      by_cases hm : mv.kd = 5
      · rw [if_pos hm, kept_sgn hk rfl hm]
        cases hs : mv.m.findV sgnK with
        | none => exact (app_nil _).symm
        | some x => exact snoc_app _ _ _
      · rw [if_neg hm, kept_tpi rfl (fun e => hm e.2)]
        exact (app_nil _).symm
  · rw [if_neg hk, if_neg hk]
    exact (app_nil _).symm
theorem out_none (v : Jv) (h5 : ¬ v.kd = 5) : ∀ (ks : List (List UInt8)) (t : JT), outJ v ks t = t
  | [], t => rfl
  | k :: ks, t => by
    show outJ v ks (stepJ v t k) = t
    unfold stepJ getJ
    rw [if_neg h5]
    exact out_none v h5 ks t
theorem cont_doc (kind : List UInt8) (v : Jv) (hr : risV v = true) : contJ kind v = dcntJ kind v := by
  unfold contJ dcntJ
  by_cases hc : kind = [109, 46, 114, 111, 111, 109, 46, 99, 114, 101, 97, 116, 101]
  · rw [if_pos hc, if_pos hc]
  rw [if_neg hc, if_neg hc]
  by_cases h5 : v.kd = 5
  · rw [if_pos h5, fin_build kind v h5, ← doc_build kind v.m (keysX kind) (sortJ_of (rise_top hr)) (staysX_sorted kind) (fun k h1 _ mv => ?_)]
    unfold keysX at h1
    unfold keptO
    rw [List.mem_append] at h1
    rw [if_neg, if_neg (fun e => h1 (.inl e))]
    rintro ⟨e1, e2, _⟩
    exact h1 (.inr (by rw [if_pos e1, e2]; exact List.mem_singleton.2 rfl))
  · rw [if_neg h5, out_none v h5]
    unfold finJ getJ
    rw [if_neg h5]
    by_cases hk : kind = kind0
    · rw [if_pos hk]; rfl
    · rw [if_neg hk]
/-- What stays hangs on what stands under the keys that stay alone. -/
theorem cont_more (kind : List UInt8) (v u : Jv) (hc : kind ≠ [109, 46, 114, 111, 111, 109, 46, 99, 114, 101, 97, 116, 101]) (h : ∀ k, k ∈ staysL kind ∨ k = tpiK → getJ v k = getJ u k) : contJ kind v = contJ kind u := by
  have ho : ∀ (ks : List (List UInt8)) (t : JT), (∀ k ∈ ks, k ∈ staysL kind) → outJ v ks t = outJ u ks t := by
    intro ks
    induction ks with
    | nil => intro t _; rfl
    | cons k ks ih =>
      intro t hk
      show outJ v ks (stepJ v t k) = outJ u ks (stepJ u t k)
      rw [show stepJ v t k = stepJ u t k by unfold stepJ; rw [h k (.inl (hk k (List.mem_cons_self ..)))]]
      exact ih _ (fun x hx => hk x (List.mem_cons_of_mem _ hx))
  unfold contJ
  rw [if_neg hc, if_neg hc, ho _ _ (fun _ h => h)]
  unfold finJ
  rw [h tpiK (.inr rfl)]
end Go.Proofs.Ytlfmknebkfnliaa
