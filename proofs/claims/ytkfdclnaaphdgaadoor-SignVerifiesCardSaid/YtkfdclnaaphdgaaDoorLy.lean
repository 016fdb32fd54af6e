/- As XLg, with calls that read what the region's own earlier operations made (a built slice): such an operation must come behind by an edge of its own. -/
import Derived.Test.YtkfdclnaaphdgaaDoorLg
namespace Go.Proofs.YtkfdclnaaphdgaaDoor
open Go.RowKit
section
variable {P : Program} {ops : Array Oper} {md : Region.Mode} {w0 : World} {al rs : List Nat}
def dstIn (o : Oper) (l : List Nat) : Bool := match o.dst with
  | some d => l.contains d
  | none => false
def Ext (s s' : Gh) : Prop := ∀ g o, s g = some o → s' g = some o
theorem Ext.refl (s : Gh) : Ext s s := fun _ _ h => h
theorem Ext.upd {s s' : Gh} {g : Nat} {Z : Obj} (h : Ext (upd s g Z) s') (hg : s g = none) : Ext s s' := fun k o hk => h k o (by
  unfold Go.Proofs.YtkfdclnaaphdgaaDoor.upd
  have : k ≠ g := fun e => by subst e; rw [hg] at hk; cases hk
  simp [this, hk])
inductive KdS
  | rel (R : Value → Prop)
  | relS (R : Value → Prop)
  | alloc (f : Nat → Value) (Z Z' : Obj)
def SpecS (P : Program) (ops : Array Oper) (w0 : World) (al rs : List Nat) (kd : KdS) (s : Gh) (o : Oper) (a : Act) : Prop :=
  match kd with
  | .rel R => (∃ v, R v) ∧ ((Region.wanted o (yielded ops a.tmps) = true ∧ ∀ s w, Cg w0 s w → lsAt P o a (Cg w0 s) w R) ∨ (Region.wanted o (yielded ops a.tmps) = false ∧ R undef))
  | .relS R => dstIn o rs = true ∧ (∃ v, R v) ∧ Region.wanted o (yielded ops a.tmps) = true ∧ ∀ s', Ext s s' → ∀ w, Cg w0 s' w → lsAt P o a (Cg w0 s') w R
  | .alloc f Z Z' => dstIn o al = true ∧ Region.wanted o (yielded ops a.tmps) = true ∧ ∀ w, (execOp a.eval o).run P w = .ok (.value (f w.heap.size)) (w.alloc Z) ∧ (w.alloc Z).heap[w.heap.size]? = some Z'
def nextS (kd : KdS) (s : Gh) (K : Gh → Act → Prop) (a : Act) (o : Oper) : Prop :=
  match kd with
  | .rel R => ∀ v, R v → K s (a.put o.dst v)
  | .relS R => ∀ v, R v → K s (a.put o.dst v)
  | .alloc f _ Z' => ∀ g, s g = none → K (upd s g Z') (a.put o.dst (f g))
theorem nextS_mono {kd : KdS} {s : Gh} {K K' : Gh → Act → Prop} {a : Act} {o : Oper} (hs : Bnd s) (h : ∀ s a, Bnd s → K s a → K' s a) (hh : nextS kd s K a o) : nextS kd s K' a o := by
  cases kd with
  | rel R => exact fun v hv => h _ _ hs (hh v hv)
  | relS R => exact fun v hv => h _ _ hs (hh v hv)
  | alloc f Z Z' => exact fun g hg => h _ _ (hs.upd g Z') (hh g hg)
theorem SpecS.of_same {kd : KdS} {s : Gh} {o : Oper} {a a' : Act} (hy : SpecS P ops w0 al rs kd s o a) (he : execOp a'.eval o = execOp a.eval o)
    (hw : Region.wanted o (yielded ops a'.tmps) = Region.wanted o (yielded ops a.tmps)) : SpecS P ops w0 al rs kd s o a' := by
  cases kd <;> (unfold SpecS at *; simp only [lsAt] at *; rw [he, hw]; exact hy)
theorem SpecS.ext {kd : KdS} {s : Gh} {g : Nat} {Z : Obj} {o : Oper} {a : Act} (hy : SpecS P ops w0 al rs kd s o a) (hg : s g = none) : SpecS P ops w0 al rs kd (upd s g Z) o a := by
  cases kd with
  | rel R => exact hy
  | relS R => exact ⟨hy.1, hy.2.1, hy.2.2.1, fun s' h => hy.2.2.2 s' (h.upd hg)⟩
  | alloc f Z Z' => exact hy
def gOpS (P : Program) (ops : Array Oper) (w0 : World) (al rs : List Nat) (F : Nat → KdS) (i : Nat) (K : Gh → Act → Prop) (s : Gh) (a : Act) : Prop :=
  match ops[i]? with
  | none => K s a
  | some o => SpecS P ops w0 al rs (F i) s o a ∧ nextS (F i) s K a o
theorem gOpS_mono {F : Nat → KdS} {i : Nat} {s : Gh} {a : Act} {K K' : Gh → Act → Prop} (hs : Bnd s) (h : ∀ s a, Bnd s → K s a → K' s a) (hh : gOpS P ops w0 al rs F i K s a) : gOpS P ops w0 al rs F i K' s a := by
  unfold gOpS at *
  split
  · exact h _ _ hs (by simpa [*] using hh)
  · rename_i o ho
    simp only [ho] at hh
    exact ⟨hh.1, nextS_mono hs h hh.2⟩
theorem gOpS_put {F : Nat → KdS} {i j : Nat} {oi oj : Oper} (hj : ops[j]? = some oj) (hap : oi.apart ops oj = true) (hno : dstIn oi al = true → dstIn oj rs = false)
    (hsi : ∀ cs b, oi.op ≠ .select cs b) (hsj : ∀ cs b, oj.op ≠ .select cs b) {K : Gh → Act → Prop} {s : Gh} {a : Act} (hs : Bnd s)
    (hy : SpecS P ops w0 al rs (F i) s oi a) (h : nextS (F i) s (fun s1 a1 => gOpS P ops w0 al rs F j K s1 a1) a oi) :
    gOpS P ops w0 al rs F j (fun s' a' => SpecS P ops w0 al rs (F i) s' oi a' ∧ nextS (F i) s' K a' oi) s a := by
  obtain ⟨h1, h2, h3⟩ := Oper.apart_spec hap
  have keep : ∀ s u, SpecS P ops w0 al rs (F i) s oi a → SpecS P ops w0 al rs (F i) s oi (a.put oj.dst u) := fun s u hy =>
    hy.of_same (execOp_put oi hsi a oj.dst u h3) (wanted_put oi a oj.dst u h3)
  have back : ∀ s v, SpecS P ops w0 al rs (F j) s oj (a.put oi.dst v) → SpecS P ops w0 al rs (F j) s oj a := fun s v hv =>
    hv.of_same (execOp_put oj hsj a oi.dst v h1).symm (wanted_put oj a oi.dst v h1).symm
  unfold gOpS at *
  simp only [hj] at *
  have same : ∀ (R : Value → Prop) (v0 : Value), R v0 → (∀ v, R v → (SpecS P ops w0 al rs (F j) s oj (a.put oi.dst v) ∧ nextS (F j) s K (a.put oi.dst v) oj)) → (∀ s a', nextS (F i) s K a' oi = (∀ v, R v → K s (a'.put oi.dst v))) →
      SpecS P ops w0 al rs (F j) s oj a ∧ nextS (F j) s (fun s' a' => SpecS P ops w0 al rs (F i) s' oi a' ∧ nextS (F i) s' K a' oi) a oj := by
    intro R v0 hv0 h hn
    refine ⟨back _ v0 (h v0 hv0).1, ?_⟩
    cases hk : F j with
    | rel R2 =>
      rw [hk] at h
      intro u hu
      refine ⟨keep _ u hy, ?_⟩
      rw [hn]
      intro v hv
      rw [← Act.put_comm a v u h2]
      exact (h v hv).2 u hu
    | relS R2 =>
      rw [hk] at h
      intro u hu
      refine ⟨keep _ u hy, ?_⟩
      rw [hn]
      intro v hv
      rw [← Act.put_comm a v u h2]
      exact (h v hv).2 u hu
    | alloc f Z Z' =>
      rw [hk] at h
      intro g hg
      refine ⟨keep _ _ (hy.ext hg), ?_⟩
      rw [hn]
      intro v hv
      rw [← Act.put_comm a v _ h2]
      exact (h v hv).2 g hg
  cases hi : F i with
  | rel R =>
    rw [hi] at hy h
    obtain ⟨v0, hv0⟩ := hy.1
    have := same R v0 hv0 h (fun s a' => by rw [hi]; rfl)
    rw [hi] at this
    exact this
  | relS R =>
    rw [hi] at hy h
    obtain ⟨v0, hv0⟩ := hy.2.1
    have := same R v0 hv0 h (fun s a' => by rw [hi]; rfl)
    rw [hi] at this
    exact this
  | alloc f Z Z' =>
    rw [hi] at hy h keep
    obtain ⟨N, hN⟩ := hs
    have hal := hno hy.1
    have hb := (h N (hN N (Nat.le_refl _))).1
    have hb2 : SpecS P ops w0 al rs (F j) s oj (a.put oi.dst (f N)) := by
      cases hk : F j with
      | rel R2 => rw [hk] at hb; exact hb
      | relS R2 => rw [hk] at hb; rw [hb.1] at hal; cases hal
      | alloc f2 Y Y' => rw [hk] at hb; exact hb
    refine ⟨back s _ hb2, ?_⟩
    cases hk : F j with
    | rel R2 =>
      rw [hk] at h
      intro u hu
      refine ⟨keep _ u hy, fun g hg => ?_⟩
      rw [← Act.put_comm a _ u h2]
      exact (h g hg).2 u hu
    | relS R2 => rw [hk] at hb; rw [hb.1] at hal; cases hal
    | alloc f2 Y Y' =>
      rw [hk] at h
      intro k hk2
      refine ⟨keep _ _ (hy.ext hk2), fun g hg => ?_⟩
      obtain ⟨hne, hg2⟩ := upd_none.1 hg
      rw [← Act.put_comm a _ _ h2, upd_comm s (Ne.symm hne)]
      exact (h g hg2).2 k (upd_none.2 ⟨Ne.symm hne, hk2⟩)
theorem wp_of_specS {kd : KdS} {s : Gh} {o : Oper} {a : Act} {w : World} {K : Gh → Act → Prop} {K' : Act → World → Prop} {Q' : Exit → Act → World → Prop} (hC : Cg w0 s w) (h : ∀ s a w', Cg w0 s w' → K s a → K' a w')
    (hh : SpecS P ops w0 al rs kd s o a) (hn : nextS kd s K a o) : if Region.wanted o (yielded ops a.tmps) then o.wp P a w K' Q' ∨ (o.asks P a w ∧ LetsOut Q') else K' (a.put o.dst undef) w := by
  cases kd with
  | rel R =>
    obtain ⟨_, hl⟩ := hh
    rcases hl with ⟨hw, hl⟩ | ⟨hw, hu⟩
    · simp only [hw, if_true]; exact .inl (wp_of_ls hC (fun v w' hv hw' => h _ _ _ hw' (hn v hv)) (hl s w hC))
    · simp only [hw]; exact h _ _ _ hC (hn undef hu)
  | relS R =>
    obtain ⟨_, _, hw, hl⟩ := hh
    simp only [hw, if_true]; exact .inl (wp_of_ls hC (fun v w' hv hw' => h _ _ _ hw' (hn v hv)) (hl s (Ext.refl s) w hC))
  | alloc f Z Z' =>
    obtain ⟨_, hw, hl⟩ := hh
    simp only [hw, if_true]
    left
    unfold Oper.wp
    rw [(hl w).1]
    exact h _ _ _ (hC.alloc Z (hl w).2) (hn _ hC.fresh)
theorem wpOp_of_gOpS {F : Nat → KdS} {i : Nat} {s : Gh} {a : Act} {K : Gh → Act → Prop} {K' : Act → World → Prop} {Q' : Exit → Act → World → Prop} {w : World} (hC : Cg w0 s w) (h : ∀ s a w', Cg w0 s w' → K s a → K' a w') (hh : gOpS P ops w0 al rs F i K s a) : wpOp P ops Q' i K' a w := by
  unfold gOpS at hh
  unfold wpOp
  split
  · rename_i ho; simp only [ho] at hh; exact h _ _ _ hC hh
  · rename_i o ho
    simp only [ho] at hh
    exact wp_of_specS hC h hh.1 hh.2
def wpAnyS (P : Program) (md : Region.Mode) (ops : Array Oper) (w0 : World) (al rs : List Nat) (F : Nat → KdS) (n : Nat) (L : Array Bool → Gh → Act → Prop) : Nat → Array Bool → Gh → Act → Prop
  | 0, listed, s, a => L listed s a
  | f + 1, listed, s, a =>
    Region.ready md ops listed ≠ [] ∧ ∀ i ∈ Region.ready md ops listed, i < n ∧ gOpS P ops w0 al rs F i (wpAnyS P md ops w0 al rs F n L f (listed.setIfInBounds i true)) s a
theorem wpAny_of_headS {F : Nat → KdS} {n g : Nat} {L : Array Bool → Gh → Act → Prop} {Q' : Exit → Act → World → Prop} (hL : ∀ listed s a w, Cg w0 s w → L listed s a → wpAny P md ops Q' g listed a w) :
    ∀ (f : Nat) (listed : Array Bool) (s : Gh) (a : Act) (w : World), Cg w0 s w → wpAnyS P md ops w0 al rs F n L f listed s a → wpAny P md ops Q' (f + g) listed a w
  | 0, listed, s, a, w, hC, h => by rw [Nat.zero_add]; exact hL _ _ _ _ hC h
  | f + 1, listed, s, a, w, hC, h => by
    rw [show f + 1 + g = (f + g) + 1 by omega]
    exact ⟨fun h0 => absurd h0 h.1, fun i hi => wpOp_of_gOpS hC (fun s' a' w' hC' h' => wpAny_of_headS hL f _ s' a' w' hC' h') (h.2 i hi).2⟩
theorem wpAnyS_first {F : Nat → KdS} {n i : Nat} {oi : Oper} {L : Array Bool → Gh → Act → Prop} (hi : ops[i]? = some oi) (hsel : ∀ (j : Nat) (o : Oper) cs b, ops[j]? = some o → o.op ≠ .select cs b)
    (hs : Region.sinkB md ops n = true) (hc : Region.chainB md ops n = true) (hn : n < ops.size) (hin : i < n)
    (hdone : ∀ listed s a, L listed s a → ∀ j ∈ Region.ready md ops listed, n ≤ j) :
    ∀ (f : Nat) (listed : Array Bool) (s : Gh) (a : Act), Bnd s → HeadInv md ops n listed →
      (∀ j oj, ops[j]? = some oj → j ≠ i → listed.getD j true = false → (∀ e ∈ oj.after, Region.binds md e = true → e.on ≠ i) → oi.apart ops oj = true ∧ (dstIn oi al = true → dstIn oj rs = false)) →
      i ∈ Region.ready md ops listed → SpecS P ops w0 al rs (F i) s oi a →
      nextS (F i) s (wpAnyS P md ops w0 al rs F n L f (listed.setIfInBounds i true)) a oi → wpAnyS P md ops w0 al rs F n L (f + 1) listed s a := by
  intro f
  induction f with
  | zero =>
    intro listed s a hbs inv _ hr hy H
    have hun := (mem_ready.1 hr).1
    refine ⟨fun h => (by rw [h] at hr; cases hr), fun j hj => ?_⟩
    have hjn : j < n := by
      rcases Nat.lt_or_ge j n with h | h
      · exact h
      · exact absurd hj (tail_waits hs hc hn inv _ i rfl hin hun j h)
    refine ⟨hjn, ?_⟩
    by_cases hji : j = i
    · subst hji; unfold gOpS; simp only [hi]; exact ⟨hy, H⟩
    · have hL : ∃ s' a', L (listed.setIfInBounds i true) s' a' := by
        cases hk : F i with
        | rel R => rw [hk] at hy H; obtain ⟨v0, hv0⟩ := hy.1; exact ⟨_, _, H v0 hv0⟩
        | relS R => rw [hk] at hy H; obtain ⟨v0, hv0⟩ := hy.2.1; exact ⟨_, _, H v0 hv0⟩
        | alloc f Z Z' => rw [hk] at H; obtain ⟨N, hN⟩ := hbs; exact ⟨_, _, H N (hN N (Nat.le_refl _))⟩
      obtain ⟨s', a', hL⟩ := hL
      have := hdone _ _ _ hL j (ready_mono hj hji)
      omega
  | succ f ih =>
    intro listed s a hbs inv hfree hr hy H
    have hun := (mem_ready.1 hr).1
    refine ⟨fun h => (by rw [h] at hr; cases hr), fun j hj => ?_⟩
    have hjn : j < n := by
      rcases Nat.lt_or_ge j n with h | h
      · exact h
      · exact absurd hj (tail_waits hs hc hn inv _ i rfl hin hun j h)
    refine ⟨hjn, ?_⟩
    by_cases hji : j = i
    · subst hji; unfold gOpS; simp only [hi]; exact ⟨hy, H⟩
    · have h1 : nextS (F i) s (fun s1 a1 => gOpS P ops w0 al rs F j (wpAnyS P md ops w0 al rs F n L f ((listed.setIfInBounds i true).setIfInBounds j true)) s1 a1) a oi :=
        nextS_mono hbs (fun s1 a1 _ h => (h.2 j (ready_mono hj hji)).2) H
      obtain ⟨hjun, oj, hoj, hall⟩ := mem_ready.1 hj
      have hnot : ∀ e ∈ oj.after, Region.binds md e = true → e.on ≠ i := fun e he hb heq => by
        have h1 := hall e he hb
        have h0 := (mem_ready.1 hr).1
        rw [heq] at h1
        rcases Nat.lt_or_ge i listed.size with h' | h'
        · simp [h'] at h0 h1; rw [h0] at h1; cases h1
        · simp [Array.getElem?_eq_none h'] at h1
      have h2 := gOpS_put hoj (hfree j oj hoj hji hjun hnot).1 (hfree j oj hoj hji hjun hnot).2 (fun cs b => hsel i oi cs b hi) (fun cs b => hsel j oj cs b hoj) hbs hy h1
      have hfree' : ∀ k ok, ops[k]? = some ok → k ≠ i → (listed.setIfInBounds j true).getD k true = false →
          (∀ e ∈ ok.after, Region.binds md e = true → e.on ≠ i) → oi.apart ops ok = true ∧ (dstIn oi al = true → dstIn ok rs = false) := fun k ok hk hki hun hno => by
        refine hfree k ok hk hki ?_ hno
        by_cases hjk : j = k
        · subst hjk; exact hjun
        · rw [getD_set_ne true hjk] at hun; exact hun
      refine gOpS_mono hbs (fun s' a' hbs' h3 => ih (listed.setIfInBounds j true) s' a' hbs' (inv.set hj hjn) hfree' (ready_mono hr (Ne.symm hji)) h3.1 ?_) h2
      rw [Array.setIfInBounds_comm _ _ hji]
      exact h3.2
/-- The head, in the order of the text. -/
def wpGS (P : Program) (ops : Array Oper) (w0 : World) (al rs : List Nat) (Lq : Gh → Act → Prop) : List Oper → List KdS → Gh → Act → Prop
  | [], _, s, a => Lq s a
  | o :: rest, kd :: kds, s, a => SpecS P ops w0 al rs kd s o a ∧ nextS kd s (wpGS P ops w0 al rs Lq rest kds) a o
  | _ :: _, [], _, _ => False
theorem getD_set_same (l : Array Bool) (k : Nat) : (l.setIfInBounds k true).getD k true = true := by
  rcases Nat.lt_or_ge k l.size with h | h
  · simp [h]
  · simp [h]
theorem wpAnyS_lex {F : Nat → KdS} {n g : Nat} {Lq : Gh → Act → Prop} (hsel : Region.noSelect ops = true) (hs : Region.sinkB md ops n = true) (hc : Region.chainB md ops n = true) (hn : n < ops.size)
    (hM : ∀ i j oi oj, i < j → ops[i]? = some oi → ops[j]? = some oj → dstIn oi al = true → dstIn oj rs = true → ∃ e ∈ oj.after, Region.binds md e = true ∧ e.on = i) :
    ∀ (l : List Oper) (kds : List KdS) (k : Nat) (listed : Array Bool) (s : Gh) (a : Act), (∀ j, j < l.length → l[j]? = ops[k + j]?) → (∀ j kd, kds[j]? = some kd → F (k + j) = kd) → k + l.length = n → Bnd s → (∀ j, j < k → listed.getD j true = true) → HeadInv md ops n listed →
    Region.lexHead md ops g l.length k listed = true → wpGS P ops w0 al rs Lq l kds s a →
    wpAnyS P md ops w0 al rs F n (fun listed' s' a' => Region.seqB md ops g n listed' = true ∧ Lq s' a') l.length listed s a
  | [], _, k, listed, s, a, hl, _, hk, _, _, inv, hB, h => by
    have : k = n := by simpa using hk
    subst this
    exact ⟨by simpa [Region.lexHead] using hB, by simpa [wpGS] using h⟩
  | o :: l, [], k, listed, s, a, hl, _, hk, _, _, inv, hB, h => by simp [wpGS] at h
  | o :: l, kd :: kds, k, listed, s, a, hl, hF, hk, hbs, hlist, inv, hB, h => by
    have h0 : ops[k]? = some o := by simpa using (hl 0 (by simp)).symm
    simp only [List.length_cons, Region.lexHead, Bool.and_eq_true] at hB
    obtain ⟨⟨hr, hf⟩, hB'⟩ := hB
    have hkn : k < n := by simp only [List.length_cons] at hk; omega
    have hr' : k ∈ Region.ready md ops listed := by simpa using hr
    unfold wpGS at h
    obtain ⟨hy, hK⟩ := h
    have hR : F k = kd := by simpa using hF 0 kd (by simp)
    rw [← hR] at hy hK
    exact wpAnyS_first h0 (Region.noSelect_spec hsel) hs hc hn hkn (fun listed' s' a' hL => seqB_ready hL.1) l.length listed s a hbs inv (fun j oj hj hne hu hnot => ⟨Region.free_spec h0 hf j oj hj hne hu hnot, fun ha => by
        rcases Nat.lt_trichotomy j k with h | h | h
        · rw [hlist j h] at hu; cases hu
        · exact absurd h hne
        · cases hd : dstIn oj rs with
          | false => rfl
          | true => obtain ⟨e, he, hb, hon⟩ := hM k j o oj h h0 hj ha hd; exact absurd hon (hnot e he hb)⟩) hr' hy
      (nextS_mono hbs (fun s' a' hbs' hK' => wpAnyS_lex hsel hs hc hn hM l kds (k + 1) _ s' a' (fun j hj => by have := hl (j + 1) (by simp; omega); simpa [Nat.add_assoc, Nat.add_comm 1 j] using this)
        (fun j kd hj => by have := hF (j + 1) kd (by simpa using hj); rw [← this]; congr 1; omega) (by simp only [List.length_cons] at hk; omega) hbs' (fun j hj => by
          by_cases hjk : k = j
          · subst hjk; exact getD_set_same _ _
          · rw [getD_set_ne true hjk]; exact hlist j (by omega)) (inv.set hr' hkn) hB' hK') hK)
/-- What reads what is made stands behind it by an edge of its own. -/
def madeB (al rs : List Nat) (l : List Oper) : Bool :=
  (List.range l.length).all fun j => (List.range j).all fun i => match l[i]?, l[j]? with
    | some oi, some oj => !(dstIn oi al && dstIn oj rs) || oj.after.any fun e => Region.binds .any e && e.on == i
    | _, _ => true
theorem madeB_spec {al rs : List Nat} {l : List Oper} (h : madeB al rs l = true) : ∀ i j oi oj, i < j → l.toArray[i]? = some oi → l.toArray[j]? = some oj → dstIn oi al = true → dstIn oj rs = true → ∃ e ∈ oj.after, Region.binds .any e = true ∧ e.on = i := by
  intro i j oi oj hij hi hj ha hr
  rw [List.getElem?_toArray] at hi hj
  have hjl : j < l.length := (List.getElem?_eq_some_iff.1 hj).1
  unfold madeB at h
  have h1 := List.all_eq_true.1 h j (List.mem_range.2 hjl)
  have h2 := List.all_eq_true.1 h1 i (List.mem_range.2 hij)
  rw [hi, hj] at h2
  simp only [ha, hr, Bool.and_true, Bool.not_true, Bool.false_or] at h2
  rw [Array.any_eq_true'] at h2
  obtain ⟨e, he, h3⟩ := h2
  rw [Bool.and_eq_true, beq_iff_eq] at h3
  exact ⟨e, he, h3.1, h3.2⟩
theorem wp_region_gs {id : Nat} {Q : Exit → Act → World → Prop} {a : Act} {w : World} {l : List Oper} {kds : List KdS} (n : Nat) (al rs : List Nat) (hm : P.follows .mixedOrders = true) (hB : Region.lexTailB .any l.toArray n = true) (hM : madeB al rs l = true)
    (h : wpGS P l.toArray w al rs (fun s a' => ∀ w', Cg w s w' → wpList P l.toArray Q (l.drop n) a' w') (l.take n) kds (fun _ => none) a) : (Code.region id l.toArray true).wp P Q a w := by
  simp only [Region.lexTailB, Bool.and_eq_true, decide_eq_true_eq] at hB
  obtain ⟨⟨⟨⟨hsel, hn⟩, hs⟩, hc⟩, hlex⟩ := hB
  have hn' : n < l.length := by simpa using hn
  have htl : (l.take n).length = n := by simp; omega
  have hdl : (l.drop n).length = l.toArray.size - n := by simp
  have inv0 : HeadInv .any l.toArray n (Array.replicate l.toArray.size false) :=
    ⟨by simp, fun j oj _ hl => (by rw [getD_replicate_false] at hl; cases hl), fun t _ ht => getD_in (by simpa using ht) (getD_replicate_false _ _)⟩
  have hC : Cg w (fun _ => none) { w with drawn := w.drawn + 1 } := ⟨(Below.refl w.heap.size w).drewN 1, fun g o hg => by cases hg⟩
  have H := wpAnyS_lex (P := P) (w0 := w) (al := al) (rs := rs) (md := .any) (F := fun i => kds.getD i (.rel fun _ => False)) (g := l.toArray.size - n) hsel hs hc hn (madeB_spec hM) (l.take n) kds 0 _ (fun _ => none) a (fun j hj => by
    have hj' : j < n := by rw [htl] at hj; exact hj
    simp [hj']) (fun j kd hj => by simp [hj]) (by simpa using htl) ⟨0, fun _ _ => rfl⟩ (fun j hj => absurd hj (by omega)) inv0 (by rw [htl]; exact hlex) h
  refine wp_region_any hm ?_
  have := wpAny_of_headS (Q' := Q) (g := l.toArray.size - n) (fun listed s a' w' hC' hL => by
    have := wpAny_of_seq (md := .any) (Q' := Q) (l.drop n) n listed a' w' (fun j => by simp [List.getElem?_drop]) (by rw [hdl]; exact hL.1) (hL.2 w' hC')
    rwa [hdl] at this) _ _ _ _ _ hC H
  rw [htl, show n + (l.toArray.size - n) = l.toArray.size by omega] at this
  exact this
/-! The steps. -/
variable {Lq : Gh → Act → Prop} {o : Oper} {rest : List Oper} {kds : List KdS} {s : Gh} {a : Act}
theorem Cg.less {s s' : Gh} {W : World} (h : Cg w0 s' W) (e : Ext s s') : Cg w0 s W := ⟨h.1, fun g o hg => h.2 g o (e g o hg)⟩
theorem gs_nil (h : Lq s a) : wpGS P ops w0 al rs Lq [] [] s a := by unfold wpGS; exact h
theorem gs_load (ty : TypeId) (x : Operand) (ho : o.op = .load ty x) (b off : Nat) (cs : List Value) (d : TypeDesc) (hc : w0.rangeAt b off cs) (hb : b < w0.heap.size)
    (hu : P.underlying ty = some d) (hd : d.isRow = true) (hi : (P.info? ty).map (·.size) = some cs.length) (hw : Region.wanted o (yielded ops a.tmps) = true) (hx : a.eval x = .pointer (some ⟨b, off, none⟩))
    (h2 : wpGS P ops w0 al rs Lq rest kds s (a.put o.dst (.agg cs.toArray))) : wpGS P ops w0 al rs Lq (o :: rest) (.rel (· = .agg cs.toArray) :: kds) s a :=
  ⟨⟨⟨_, rfl⟩, .inl ⟨hw, fun s W hW => by
    have hr : W.rangeAt b off cs := fun j v hv => (hW.1.cell (p := ⟨b, off + j, none⟩) hb).trans (hc j v hv)
    unfold lsAt execOp
    simp only [ho, hx, Instr.loadAt, Instr.sureAddr, Sem.run_bind, Sem.run_pure, Result.andThen_ok, run_loadVar_mid W b off ty cs d hr hu hd hi]
    exact ⟨rfl, rfl⟩⟩⟩, fun v hv => by subst hv; exact h2⟩
theorem gs_call_in (R : Value → Prop) (f : FuncId) (args : Array Value) (hw : Region.wanted o (yielded ops a.tmps) = true) (he : ∀ W, (execOp a.eval o).run P W = .ok (.enter f args) W)
    (hc : ∀ W, Below w0.heap.size w0 W → Calls P f args W (fun e W' => ∃ v, e = .returned v ∧ R v ∧ Below W.heap.size W W')) (h2 : ∀ v, R v → wpGS P ops w0 al rs Lq rest kds s (a.put o.dst v)) : wpGS P ops w0 al rs Lq (o :: rest) (.rel R :: kds) s a := by
  have hne : ∃ v, R v := by
    obtain ⟨_, _, _, ⟨v, _, hv, _⟩, _⟩ := hc w0 (Below.refl _ _) []; exact ⟨v, hv⟩
  refine ⟨⟨hne, .inl ⟨hw, fun s W hW => ?_⟩⟩, h2⟩
  unfold lsAt
  rw [he]
  exact ⟨rfl, (hc W hW.1).mono fun e W' ⟨v, he, hv, hb⟩ => ⟨v, he, hv, hW.grow hb⟩⟩
theorem gs_callx_in (x : Value) (f : FuncId) (args : Array Value) (hw : Region.wanted o (yielded ops a.tmps) = true) (he : ∀ W, (execOp a.eval o).run P W = .ok (.enter f args) W)
    (hc : ∀ W, Below w0.heap.size w0 W → Calls P f args W (fun e W' => e = .returned x ∧ Below W.heap.size W W')) (h2 : wpGS P ops w0 al rs Lq rest kds s (a.put o.dst x)) : wpGS P ops w0 al rs Lq (o :: rest) (.rel (· = x) :: kds) s a :=
  gs_call_in _ f args hw he (fun W hW => (hc W hW).mono fun e W' ⟨h1, h2⟩ => ⟨x, h1, rfl, h2⟩) (fun v hv => by subst hv; exact h2)
/-- A call that reads what the region made. -/
theorem gs_callxS (x : Value) (f : FuncId) (args : Array Value) (hd : dstIn o rs = true) (hw : Region.wanted o (yielded ops a.tmps) = true) (he : ∀ W, (execOp a.eval o).run P W = .ok (.enter f args) W)
    (hc : ∀ W, Cg w0 s W → Calls P f args W (fun e W' => e = .returned x ∧ Below W.heap.size W W')) (h2 : wpGS P ops w0 al rs Lq rest kds s (a.put o.dst x)) : wpGS P ops w0 al rs Lq (o :: rest) (.relS (· = x) :: kds) s a := by
  refine ⟨⟨hd, ⟨_, rfl⟩, hw, fun s' hs' W hW => ?_⟩, fun v hv => by subst hv; exact h2⟩
  unfold lsAt
  rw [he]
  exact ⟨rfl, (hc W (hW.less hs')).mono fun e W' ⟨he, hb⟩ => ⟨x, he, rfl, hW.grow hb⟩⟩
theorem gs_pure (x : Value) (hw : Region.wanted o (yielded ops a.tmps) = true) (h1 : ∀ W, (execOp a.eval o).run P W = .ok (.value x) W) (h2 : wpGS P ops w0 al rs Lq rest kds s (a.put o.dst x)) : wpGS P ops w0 al rs Lq (o :: rest) (.rel (· = x) :: kds) s a :=
  ⟨⟨⟨_, rfl⟩, .inl ⟨hw, fun s W hW => by unfold lsAt; rw [h1]; exact ⟨rfl, rfl⟩⟩⟩, fun v hv => by subst hv; exact h2⟩
theorem gs_run (x : Value) (hw : Region.wanted o (yielded ops a.tmps) = true) (h1 : ∀ W, Below w0.heap.size w0 W → (execOp a.eval o).run P W = .ok (.value x) W) (h2 : wpGS P ops w0 al rs Lq rest kds s (a.put o.dst x)) : wpGS P ops w0 al rs Lq (o :: rest) (.rel (· = x) :: kds) s a :=
  ⟨⟨⟨_, rfl⟩, .inl ⟨hw, fun s W hW => by unfold lsAt; rw [h1 W hW.1]; exact ⟨rfl, rfl⟩⟩⟩, fun v hv => by subst hv; exact h2⟩
theorem gs_skip (hw : Region.wanted o (yielded ops a.tmps) = false) (h2 : wpGS P ops w0 al rs Lq rest kds s (a.put o.dst undef)) : wpGS P ops w0 al rs Lq (o :: rest) (.rel (· = undef) :: kds) s a :=
  ⟨⟨⟨_, rfl⟩, .inr ⟨hw, rfl⟩⟩, fun v hv => by subst hv; exact h2⟩
theorem gs_allocV (f : Nat → Value) (Z : Obj) (Z' : Obj) (hd : dstIn o al = true) (hw : Region.wanted o (yielded ops a.tmps) = true) (he : ∀ W, (execOp a.eval o).run P W = .ok (.value (f W.heap.size)) (W.alloc Z)) (hz : ∀ W : World, (W.alloc Z).heap[W.heap.size]? = some Z')
    (h2 : ∀ g, s g = none → wpGS P ops w0 al rs Lq rest kds (upd s g Z') (a.put o.dst (f g))) : wpGS P ops w0 al rs Lq (o :: rest) (.alloc f Z Z' :: kds) s a :=
  ⟨⟨hd, hw, fun W => ⟨he W, hz W⟩⟩, h2⟩
theorem gs_alloc (Z : Obj) (Z' : Obj) (hd : dstIn o al = true) (hw : Region.wanted o (yielded ops a.tmps) = true) (he : ∀ W, (execOp a.eval o).run P W = .ok (.value (.pointer (some ⟨W.heap.size, 0, none⟩))) (W.alloc Z)) (hz : ∀ W : World, (W.alloc Z).heap[W.heap.size]? = some Z')
    (h2 : ∀ g, s g = none → wpGS P ops w0 al rs Lq rest kds (upd s g Z') (a.put o.dst (.pointer (some ⟨g, 0, none⟩)))) : wpGS P ops w0 al rs Lq (o :: rest) (.alloc (fun g => .pointer (some ⟨g, 0, none⟩)) Z Z' :: kds) s a :=
  gs_allocV (fun g => .pointer (some ⟨g, 0, none⟩)) Z Z' hd hw he hz h2
end
end Go.Proofs.YtkfdclnaaphdgaaDoor
