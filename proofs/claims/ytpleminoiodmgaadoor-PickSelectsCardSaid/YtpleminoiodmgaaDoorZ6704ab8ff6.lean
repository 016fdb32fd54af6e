/- Texts put together: Lk PnM. -/
import Derived.Test.YtpleminoiodmgaaDoorZba90169528
import Derived.StillTail
import Derived.Test.YtpleminoiodmgaaDoorZ014cb5d160
import Derived.Test.YtpleminoiodmgaaDoorZ10f2cc1a2a
namespace Go.Proofs.YtpleminoiodmgaaDoor
open Go.RowKit
/-- What an operation leaves: a value, and what lies in memory for good. -/
structure Lft where
  R : Value → Prop
  M : Value → World → Prop
  st : ∀ v w w', M v w → Below w.heap.size w w' → M v w'
def Lft.bare (R : Value → Prop) : Lft := ⟨R, fun _ _ => True, fun _ _ _ _ _ => trivial⟩
section
variable {P : Program} {ops : Array Oper} {md : Region.Mode} {w0 : World}
def lkUpon (P : Program) (w : World) (F : Lft) : Result Next → Prop
  | .ok (.value u) w' => F.R u ∧ F.M u w' ∧ Below w.heap.size w w'
  | .ok .skip w' => F.R undef ∧ F.M undef w' ∧ Below w.heap.size w w'
  | .ok (.enter f args) w' => w' = w ∧ Calls P f args w (fun e w'' => ∃ v, e = .returned v ∧ F.R v ∧ F.M v w'' ∧ Below w.heap.size w w'')
  | _ => False
def lkAt (P : Program) (o : Oper) (a : Act) (w : World) (F : Lft) : Prop := lkUpon P w F ((execOp a.eval o).run P w)
def LkIn (P : Program) (ops : Array Oper) (w0 : World) (o : Oper) (F : Lft) (a : Act) : Prop :=
  (∃ v, F.R v) ∧ ((Region.wanted o (yielded ops a.tmps) = true ∧ ∀ w, Below w0.heap.size w0 w → lkAt P o a w F) ∨ (Region.wanted o (yielded ops a.tmps) = false ∧ F.R undef ∧ ∀ w, F.M undef w))
def wpLk (P : Program) (ops : Array Oper) (w0 : World) (Q : (World → Prop) → Act → Prop) : List Oper → List Lft → (World → Prop) → Act → Prop
  | [], _, Z, a => Q Z a
  | o :: rest, F :: Fs, Z, a => LkIn P ops w0 o F a ∧ ∀ v, F.R v → wpLk P ops w0 Q rest Fs (fun w => Z w ∧ F.M v w) (a.put o.dst v)
  | _ :: _, [], _, _ => False
theorem wp_of_lk {o : Oper} {a : Act} {F : Lft} {K' : Act → World → Prop} {Q' : Exit → Act → World → Prop} {w : World} (h : ∀ v w', F.R v → F.M v w' → Below w.heap.size w w' → K' (a.put o.dst v) w') (hh : lkAt P o a w F) : o.wp P a w K' Q' := by
  unfold lkAt at hh
  unfold Oper.wp
  generalize (execOp a.eval o).run P w = r at *
  cases r with
  | ok n w' =>
    cases n <;> simp only [lkUpon] at hh <;> simp only [Oper.upon]
    case value u => exact h _ _ hh.1 hh.2.1 hh.2.2
    case skip => exact h _ _ hh.1 hh.2.1 hh.2.2
    case enter f args =>
      obtain ⟨e1, hc⟩ := hh
      rw [e1]
      exact hc.mono fun e w'' ⟨v, he, h1, h2, h3⟩ => by subst he; exact h _ _ h1 h2 h3
  | halt x w' => simp only [lkUpon] at hh
def kOp (P : Program) (ops : Array Oper) (w0 : World) (F : Nat → Lft) (i : Nat) (K : (World → Prop) → Act → Prop) (Z : World → Prop) (a : Act) : Prop :=
  match ops[i]? with
  | none => K Z a
  | some o => LkIn P ops w0 o (F i) a ∧ ∀ v, (F i).R v → K (fun w => Z w ∧ (F i).M v w) (a.put o.dst v)
theorem kOp_mono {F : Nat → Lft} {i : Nat} {Z Z' : World → Prop} {a : Act} {K K' : (World → Prop) → Act → Prop} (hz : ∀ w, Z' w → Z w) (h : ∀ Y Y' a, (∀ w, Y' w → Y w) → K Y a → K' Y' a) (hh : kOp P ops w0 F i K Z a) : kOp P ops w0 F i K' Z' a := by
  unfold kOp at *
  split
  · exact h _ _ _ hz (by simpa [*] using hh)
  · rename_i o ho
    simp only [ho] at hh
    exact ⟨hh.1, fun v hv => h _ _ _ (fun w hw => ⟨hz w hw.1, hw.2⟩) (hh.2 v hv)⟩
def wpAnyLk (P : Program) (md : Region.Mode) (ops : Array Oper) (w0 : World) (F : Nat → Lft) (Q : Act → World → Prop) : Nat → Array Bool → (World → Prop) → Act → Prop
  | 0, listed, Z, a => Region.ready md ops listed = [] ∧ ∀ w', Below w0.heap.size w0 w' → Z w' → Q a w'
  | fuel + 1, listed, Z, a =>
    (Region.ready md ops listed = [] → ∀ w', Below w0.heap.size w0 w' → Z w' → Q a w') ∧
    ∀ i ∈ Region.ready md ops listed, kOp P ops w0 F i (wpAnyLk P md ops w0 F Q fuel (listed.setIfInBounds i true)) Z a
theorem wpAnyLk_anti {F : Nat → Lft} {Q : Act → World → Prop} : ∀ (fuel : Nat) (listed : Array Bool) (Z Z' : World → Prop) (a : Act), (∀ w, Z' w → Z w) → wpAnyLk P md ops w0 F Q fuel listed Z a → wpAnyLk P md ops w0 F Q fuel listed Z' a
  | 0, _, _, _, _, hz, h => ⟨h.1, fun w' hb hw => h.2 w' hb (hz w' hw)⟩
  | fuel + 1, _, _, _, _, hz, h => ⟨fun h0 w' hb hw => h.1 h0 w' hb (hz w' hw), fun i hi => kOp_mono hz (fun Y Y' a' hy hk => wpAnyLk_anti fuel _ Y Y' a' hy hk) (h.2 i hi)⟩
def Stb (Z : World → Prop) : Prop := ∀ w w', Z w → Below w.heap.size w w' → Z w'
theorem Stb.and {Z : World → Prop} (h : Stb Z) (F : Lft) (v : Value) : Stb (fun w => Z w ∧ F.M v w) := fun w w' hw hb => ⟨h w w' hw.1 hb, F.st v w w' hw.2 hb⟩
theorem wpOp_of_kOp {F : Nat → Lft} {i : Nat} {Z : World → Prop} {a : Act} {K : (World → Prop) → Act → Prop} {K' : Act → World → Prop} {Q' : Exit → Act → World → Prop} {w : World} (hs : Stb Z) (hb : Below w0.heap.size w0 w) (hz : Z w)
    (h : ∀ Y a w', Stb Y → Below w0.heap.size w0 w' → Y w' → K Y a → K' a w') (hh : kOp P ops w0 F i K Z a) : wpOp P ops Q' i K' a w := by
  unfold kOp at hh
  unfold wpOp
  split
  · rename_i ho; simp only [ho] at hh; exact h _ _ _ hs hb hz hh
  · rename_i o ho
    simp only [ho] at hh
    obtain ⟨⟨_, hl⟩, hk⟩ := hh
    rcases hl with ⟨hw, hl⟩ | ⟨hw, hu, hm⟩
    · simp only [hw, if_true]; exact .inl (wp_of_lk (fun v w' h1 h2 h3 => h _ _ _ (hs.and (F i) v) (hb.then_ h3) ⟨hs _ _ hz h3, h2⟩ (hk v h1)) (hl w hb))
    · simp only [hw]; exact h _ _ _ (hs.and (F i) undef) hb ⟨hz, hm w⟩ (hk undef hu)
theorem wpAny_of_lk {F : Nat → Lft} {Q : Act → World → Prop} {Q' : Exit → Act → World → Prop} (hQ : ∀ a w, Q a w → Q' .normal a w) : ∀ (fuel : Nat) (listed : Array Bool) (Z : World → Prop) (a : Act) (w : World), Stb Z → Below w0.heap.size w0 w → Z w →
    wpAnyLk P md ops w0 F Q fuel listed Z a → wpAny P md ops Q' fuel listed a w
  | 0, _, _, _, _, _, hb, hz, h => ⟨h.1, hQ _ _ (h.2 _ hb hz)⟩
  | fuel + 1, _, _, _, _, hs, hb, hz, h => ⟨fun h0 => hQ _ _ (h.1 h0 _ hb hz), fun i hi => wpOp_of_kOp hs hb hz (fun Y a' w' hs' hb' hz' hk => wpAny_of_lk hQ fuel _ Y a' w' hs' hb' hz' hk) (h.2 i hi)⟩
theorem LkIn.of_same {o : Oper} {F : Lft} {a a' : Act} (hy : LkIn P ops w0 o F a) (he : execOp a'.eval o = execOp a.eval o)
    (hw : Region.wanted o (yielded ops a'.tmps) = Region.wanted o (yielded ops a.tmps)) : LkIn P ops w0 o F a' := by
  unfold LkIn lkAt at *
  rw [he, hw]
  exact hy
theorem kOp_put {F : Nat → Lft} {i j : Nat} {oi oj : Oper} (hj : ops[j]? = some oj) (hap : oi.apart ops oj = true)
    (hsi : ∀ cs b, oi.op ≠ .select cs b) (hsj : ∀ cs b, oj.op ≠ .select cs b) {K : (World → Prop) → Act → Prop} {Z : World → Prop} {a : Act} (hK : ∀ Y Y' a, (∀ w, Y' w → Y w) → K Y a → K Y' a)
    (hy : LkIn P ops w0 oi (F i) a) (h : ∀ v, (F i).R v → kOp P ops w0 F j K (fun w => Z w ∧ (F i).M v w) (a.put oi.dst v)) :
    kOp P ops w0 F j (fun Z' a' => LkIn P ops w0 oi (F i) a' ∧ ∀ v, (F i).R v → K (fun w => Z' w ∧ (F i).M v w) (a'.put oi.dst v)) Z a := by
  obtain ⟨h1, h2, h3⟩ := Oper.apart_spec hap
  have keep : ∀ (a : Act), LkIn P ops w0 oi (F i) a → ∀ u, LkIn P ops w0 oi (F i) (a.put oj.dst u) := fun a hy u =>
    hy.of_same (execOp_put oi hsi a oj.dst u h3) (wanted_put oi a oj.dst u h3)
  obtain ⟨v0, hv0⟩ := hy.1
  unfold kOp at *
  simp only [hj] at *
  refine ⟨(h v0 hv0).1.of_same (execOp_put oj hsj a oi.dst v0 h1).symm (wanted_put oj a oi.dst v0 h1).symm, fun u hu => ⟨keep a hy u, fun v hv => ?_⟩⟩
  rw [← Act.put_comm a v u h2]
  exact hK _ _ _ (fun w hw => ⟨⟨hw.1.1, hw.2⟩, hw.1.2⟩) ((h v hv).2 u hu)
theorem wpAnyLk_first {F : Nat → Lft} {Q : Act → World → Prop} {i : Nat} {oi : Oper} (hi : ops[i]? = some oi) (hsel : ∀ (j : Nat) (o : Oper) cs b, ops[j]? = some o → o.op ≠ .select cs b) :
    ∀ (fuel : Nat) (listed : Array Bool) (Z : World → Prop) (a : Act),
      (∀ j oj, ops[j]? = some oj → j ≠ i → listed.getD j true = false → (∀ e ∈ oj.after, Region.binds md e = true → e.on ≠ i) → oi.apart ops oj = true) →
      i ∈ Region.ready md ops listed → LkIn P ops w0 oi (F i) a →
      (∀ v, (F i).R v → wpAnyLk P md ops w0 F Q fuel (listed.setIfInBounds i true) (fun w => Z w ∧ (F i).M v w) (a.put oi.dst v)) → wpAnyLk P md ops w0 F Q (fuel + 1) listed Z a := by
  intro fuel
  induction fuel with
  | zero =>
    intro listed Z a _ hr hy H
    refine ⟨fun h => (by rw [h] at hr; cases hr), fun j hj => ?_⟩
    by_cases hji : j = i
    · subst hji; unfold kOp; simp only [hi]; exact ⟨hy, H⟩
    · obtain ⟨v0, hv0⟩ := hy.1
      have := ready_mono hj hji
      rw [(H v0 hv0).1] at this
      cases this
  | succ fuel ih =>
    intro listed Z a hfree hr hy H
    refine ⟨fun h => (by rw [h] at hr; cases hr), fun j hj => ?_⟩
    by_cases hji : j = i
    · subst hji; unfold kOp; simp only [hi]; exact ⟨hy, H⟩
    · have h1 := fun v hv => (H v hv).2 j (ready_mono hj hji)
      obtain ⟨hjun, oj, hoj, hall⟩ := mem_ready.1 hj
      have hnot : ∀ e ∈ oj.after, Region.binds md e = true → e.on ≠ i := fun e he hb heq => by
        have h1 := hall e he hb
        have h0 := (mem_ready.1 hr).1
        rw [heq] at h1
        rcases Nat.lt_or_ge i listed.size with h' | h'
        · simp [h'] at h0 h1; rw [h0] at h1; cases h1
        · simp [Array.getElem?_eq_none h'] at h1
      have h2 := kOp_put hoj (hfree j oj hoj hji hjun hnot) (fun cs b => hsel i oi cs b hi) (fun cs b => hsel j oj cs b hoj) (fun Y Y' a' hY hk => wpAnyLk_anti _ _ Y Y' a' hY hk) hy h1
      have hfree' : ∀ k ok, ops[k]? = some ok → k ≠ i → (listed.setIfInBounds j true).getD k true = false →
          (∀ e ∈ ok.after, Region.binds md e = true → e.on ≠ i) → oi.apart ops ok = true := fun k ok hk hki hun hno => by
        refine hfree k ok hk hki ?_ hno
        by_cases hjk : j = k
        · subst hjk; exact hjun
        · rw [getD_set_ne true hjk] at hun; exact hun
      refine kOp_mono (fun _ hw => hw) (fun Y Y' a' hY h3 => ih (listed.setIfInBounds j true) Y' a' hfree' (ready_mono hr (Ne.symm hji)) h3.1 (fun v hv => ?_)) h2
      rw [Array.setIfInBounds_comm _ _ hji]
      exact wpAnyLk_anti _ _ _ _ _ (fun w hw => ⟨hY w hw.1, hw.2⟩) (h3.2 v hv)
theorem wpAnyLk_lex {F : Nat → Lft} {Q : Act → World → Prop} (hs : Region.noSelect ops = true) : ∀ (l : List Oper) (Fs : List Lft) (k : Nat) (listed : Array Bool) (Z : World → Prop) (a : Act), (∀ j, l[j]? = ops[k + j]?) →
    (∀ j R, Fs[j]? = some R → F (k + j) = R) → Region.lexFrom md ops l.length k listed = true → wpLk P ops w0 (fun Z a => ∀ w', Below w0.heap.size w0 w' → Z w' → Q a w') l Fs Z a → wpAnyLk P md ops w0 F Q l.length listed Z a
  | [], _, _, _, _, _, _, _, hB, h => ⟨by simpa [Region.lexFrom] using hB, by simpa [wpLk] using h⟩
  | o :: l, [], k, listed, Z, a, hl, hF, hB, h => by simp [wpLk] at h
  | o :: l, R :: Fs, k, listed, Z, a, hl, hF, hB, h => by
    have h0 : ops[k]? = some o := by simpa using (hl 0).symm
    simp only [List.length_cons, Region.lexFrom, Bool.and_eq_true] at hB
    obtain ⟨⟨hr, hf⟩, hB'⟩ := hB
    unfold wpLk at h
    obtain ⟨hy, hK⟩ := h
    have hR : F k = R := by simpa using hF 0 R (by simp)
    rw [← hR] at hy hK
    exact wpAnyLk_first h0 (Region.noSelect_spec hs) l.length listed Z a (Region.free_spec h0 hf) (by simpa using hr) hy
      (fun v hv => wpAnyLk_lex hs l Fs (k + 1) _ _ _ (fun j => by have := hl (j + 1); simpa [Nat.add_assoc, Nat.add_comm 1 j] using this)
        (fun j R hj => by have := hF (j + 1) R (by simpa using hj); rw [← this]; congr 1; omega) hB' (hK v hv))
theorem wp_region_lk {id : Nat} {Q : Exit → Act → World → Prop} {a : Act} {w : World} {l : List Oper} {Fs : List Lft} (hm : P.follows .mixedOrders = true) (hB : Region.lexB .any l.toArray = true)
    (h : wpLk P l.toArray w (fun Z a' => ∀ w', Below w.heap.size w w' → Z w' → Q .normal a' w') l Fs (fun _ => True) a) : (Code.region id l.toArray true).wp P Q a w := by
  simp only [Region.lexB, Bool.and_eq_true] at hB
  refine wp_region_any hm (wpAny_of_lk (w0 := w) (F := fun i => Fs.getD i (Lft.bare fun _ => False)) (Q := fun a' w' => Q .normal a' w') (fun _ w' h => h) _ _ (fun _ => True) _ _ (fun _ _ _ _ => trivial) ((Below.refl w.heap.size w).drewN 1) trivial ?_)
  have := wpAnyLk_lex (P := P) (w0 := w) (F := fun i => Fs.getD i (Lft.bare fun _ => False)) (md := .any) hB.1 l Fs 0 (Array.replicate l.toArray.size false) (fun _ => True) a (by simp) (fun j R hj => by simp [hj]) (by simpa using hB.2) h
  simpa using this
/-! With a tail in one forced order. -/
def wpAnyLkT (P : Program) (md : Region.Mode) (ops : Array Oper) (w0 : World) (F : Nat → Lft) (n : Nat) (L : Array Bool → (World → Prop) → Act → Prop) : Nat → Array Bool → (World → Prop) → Act → Prop
  | 0, listed, Z, a => L listed Z a
  | f + 1, listed, Z, a =>
    Region.ready md ops listed ≠ [] ∧ ∀ i ∈ Region.ready md ops listed, i < n ∧ kOp P ops w0 F i (wpAnyLkT P md ops w0 F n L f (listed.setIfInBounds i true)) Z a
theorem wpAnyLkT_anti {F : Nat → Lft} {n : Nat} {L : Array Bool → (World → Prop) → Act → Prop} (hL : ∀ listed Z Z' a, (∀ w, Z' w → Z w) → L listed Z a → L listed Z' a) :
    ∀ (f : Nat) (listed : Array Bool) (Z Z' : World → Prop) (a : Act), (∀ w, Z' w → Z w) → wpAnyLkT P md ops w0 F n L f listed Z a → wpAnyLkT P md ops w0 F n L f listed Z' a
  | 0, _, _, _, _, hz, h => hL _ _ _ _ hz h
  | f + 1, _, _, _, _, hz, h => ⟨h.1, fun i hi => ⟨(h.2 i hi).1, kOp_mono hz (fun Y Y' a' hy hk => wpAnyLkT_anti hL f _ Y Y' a' hy hk) (h.2 i hi).2⟩⟩
theorem wpAny_of_headK {F : Nat → Lft} {n g : Nat} {L : Array Bool → (World → Prop) → Act → Prop} {Q' : Exit → Act → World → Prop} (hL : ∀ listed Z a w, Below w0.heap.size w0 w → Z w → L listed Z a → wpAny P md ops Q' g listed a w) :
    ∀ (f : Nat) (listed : Array Bool) (Z : World → Prop) (a : Act) (w : World), Stb Z → Below w0.heap.size w0 w → Z w → wpAnyLkT P md ops w0 F n L f listed Z a → wpAny P md ops Q' (f + g) listed a w
  | 0, listed, Z, a, w, _, hb, hz, h => by rw [Nat.zero_add]; exact hL _ _ _ _ hb hz h
  | f + 1, listed, Z, a, w, hs, hb, hz, h => by
    rw [show f + 1 + g = (f + g) + 1 by omega]
    exact ⟨fun h0 => absurd h0 h.1, fun i hi => wpOp_of_kOp hs hb hz (fun Y a' w' hs' hb' hz' hk => wpAny_of_headK hL f _ Y a' w' hs' hb' hz' hk) (h.2 i hi).2⟩
theorem wpAnyLkT_first {F : Nat → Lft} {n i : Nat} {oi : Oper} {L : Array Bool → (World → Prop) → Act → Prop} (hi : ops[i]? = some oi) (hsel : ∀ (j : Nat) (o : Oper) cs b, ops[j]? = some o → o.op ≠ .select cs b)
    (hs : Region.sinkB md ops n = true) (hc : Region.chainB md ops n = true) (hn : n < ops.size) (hin : i < n)
    (hdone : ∀ listed Z a, L listed Z a → ∀ j ∈ Region.ready md ops listed, n ≤ j) (hL : ∀ listed Z Z' a, (∀ w, Z' w → Z w) → L listed Z a → L listed Z' a) :
    ∀ (f : Nat) (listed : Array Bool) (Z : World → Prop) (a : Act), HeadInv md ops n listed →
      (∀ j oj, ops[j]? = some oj → j ≠ i → listed.getD j true = false → (∀ e ∈ oj.after, Region.binds md e = true → e.on ≠ i) → oi.apart ops oj = true) →
      i ∈ Region.ready md ops listed → LkIn P ops w0 oi (F i) a →
      (∀ v, (F i).R v → wpAnyLkT P md ops w0 F n L f (listed.setIfInBounds i true) (fun w => Z w ∧ (F i).M v w) (a.put oi.dst v)) → wpAnyLkT P md ops w0 F n L (f + 1) listed Z a := by
  intro f
  induction f with
  | zero =>
    intro listed Z a inv _ hr hy H
    have hun := (mem_ready.1 hr).1
    refine ⟨fun h => (by rw [h] at hr; cases hr), fun j hj => ?_⟩
    have hjn : j < n := by
      rcases Nat.lt_or_ge j n with h | h
      · exact h
      · exact absurd hj (tail_waits hs hc hn inv _ i rfl hin hun j h)
    refine ⟨hjn, ?_⟩
    by_cases hji : j = i
    · subst hji; unfold kOp; simp only [hi]; exact ⟨hy, H⟩
    · obtain ⟨v0, hv0⟩ := hy.1
      have := hdone _ _ _ (H v0 hv0) j (ready_mono hj hji)
      omega
  | succ f ih =>
    intro listed Z a inv hfree hr hy H
    have hun := (mem_ready.1 hr).1
    refine ⟨fun h => (by rw [h] at hr; cases hr), fun j hj => ?_⟩
    have hjn : j < n := by
      rcases Nat.lt_or_ge j n with h | h
      · exact h
      · exact absurd hj (tail_waits hs hc hn inv _ i rfl hin hun j h)
    refine ⟨hjn, ?_⟩
    by_cases hji : j = i
    · subst hji; unfold kOp; simp only [hi]; exact ⟨hy, H⟩
    · have h1 := fun v hv => ((H v hv).2 j (ready_mono hj hji)).2
      obtain ⟨hjun, oj, hoj, hall⟩ := mem_ready.1 hj
      have hnot : ∀ e ∈ oj.after, Region.binds md e = true → e.on ≠ i := fun e he hb heq => by
        have h1 := hall e he hb
        have h0 := (mem_ready.1 hr).1
        rw [heq] at h1
        rcases Nat.lt_or_ge i listed.size with h' | h'
        · simp [h'] at h0 h1; rw [h0] at h1; cases h1
        · simp [Array.getElem?_eq_none h'] at h1
      have h2 := kOp_put hoj (hfree j oj hoj hji hjun hnot) (fun cs b => hsel i oi cs b hi) (fun cs b => hsel j oj cs b hoj) (fun Y Y' a' hY hk => wpAnyLkT_anti hL _ _ Y Y' a' hY hk) hy h1
      have hfree' : ∀ k ok, ops[k]? = some ok → k ≠ i → (listed.setIfInBounds j true).getD k true = false →
          (∀ e ∈ ok.after, Region.binds md e = true → e.on ≠ i) → oi.apart ops ok = true := fun k ok hk hki hun hno => by
        refine hfree k ok hk hki ?_ hno
        by_cases hjk : j = k
        · subst hjk; exact hjun
        · rw [getD_set_ne true hjk] at hun; exact hun
      refine kOp_mono (fun _ hw => hw) (fun Y Y' a' hY h3 => ih (listed.setIfInBounds j true) Y' a' (inv.set hj hjn) hfree' (ready_mono hr (Ne.symm hji)) h3.1 (fun v hv => ?_)) h2
      rw [Array.setIfInBounds_comm _ _ hji]
      exact wpAnyLkT_anti hL _ _ _ _ _ (fun w hw => ⟨hY w hw.1, hw.2⟩) (h3.2 v hv)
theorem wpAnyLkT_lex {F : Nat → Lft} {n g : Nat} {Lq : (World → Prop) → Act → Prop} (hA : ∀ Z Z' a, (∀ w, Z' w → Z w) → Lq Z a → Lq Z' a) (hsel : Region.noSelect ops = true) (hs : Region.sinkB md ops n = true) (hc : Region.chainB md ops n = true) (hn : n < ops.size) :
    ∀ (l : List Oper) (Fs : List Lft) (k : Nat) (listed : Array Bool) (Z : World → Prop) (a : Act), (∀ j, j < l.length → l[j]? = ops[k + j]?) → (∀ j kd, Fs[j]? = some kd → F (k + j) = kd) → k + l.length = n → HeadInv md ops n listed →
    Region.lexHead md ops g l.length k listed = true → wpLk P ops w0 Lq l Fs Z a →
    wpAnyLkT P md ops w0 F n (fun listed' Z' a' => Region.seqB md ops g n listed' = true ∧ Lq Z' a') l.length listed Z a
  | [], _, k, listed, Z, a, hl, _, hk, inv, hB, h => by
    have : k = n := by simpa using hk
    subst this
    exact ⟨by simpa [Region.lexHead] using hB, by simpa [wpLk] using h⟩
  | o :: l, [], k, listed, Z, a, hl, _, hk, inv, hB, h => by simp [wpLk] at h
  | o :: l, kd :: Fs, k, listed, Z, a, hl, hF, hk, inv, hB, h => by
    have h0 : ops[k]? = some o := by simpa using (hl 0 (by simp)).symm
    simp only [List.length_cons, Region.lexHead, Bool.and_eq_true] at hB
    obtain ⟨⟨hr, hf⟩, hB'⟩ := hB
    have hkn : k < n := by simp only [List.length_cons] at hk; omega
    have hr' : k ∈ Region.ready md ops listed := by simpa using hr
    unfold wpLk at h
    obtain ⟨hy, hK⟩ := h
    have hR : F k = kd := by simpa using hF 0 kd (by simp)
    rw [← hR] at hy hK
    exact wpAnyLkT_first h0 (Region.noSelect_spec hsel) hs hc hn hkn (fun listed' Z' a' hL => seqB_ready hL.1) (fun listed' Y Y' a' hY hL => ⟨hL.1, hA Y Y' a' hY hL.2⟩) l.length listed Z a inv (Region.free_spec h0 hf) hr' hy
      (fun v hv => wpAnyLkT_lex hA hsel hs hc hn l Fs (k + 1) _ _ _ (fun j hj => by have := hl (j + 1) (by simp; omega); simpa [Nat.add_assoc, Nat.add_comm 1 j] using this)
        (fun j kd hj => by have := hF (j + 1) kd (by simpa using hj); rw [← this]; congr 1; omega) (by simp only [List.length_cons] at hk; omega) (inv.set hr' hkn) hB' (hK v hv))
theorem wp_region_lkt {id : Nat} {Q : Exit → Act → World → Prop} {a : Act} {w : World} {l : List Oper} {Fs : List Lft} (n : Nat) (hm : P.follows .mixedOrders = true) (hB : Region.lexTailB .any l.toArray n = true)
    (h : wpLk P l.toArray w (fun Z a' => ∀ w', Below w.heap.size w w' → Z w' → wpList P l.toArray Q (l.drop n) a' w') (l.take n) Fs (fun _ => True) a) : (Code.region id l.toArray true).wp P Q a w := by
  simp only [Region.lexTailB, Bool.and_eq_true, decide_eq_true_eq] at hB
  obtain ⟨⟨⟨⟨hsel, hn⟩, hs⟩, hc⟩, hlex⟩ := hB
  have hn' : n < l.length := by simpa using hn
  have htl : (l.take n).length = n := by simp; omega
  have hdl : (l.drop n).length = l.toArray.size - n := by simp
  have inv0 : HeadInv .any l.toArray n (Array.replicate l.toArray.size false) :=
    ⟨by simp, fun j oj _ hl => (by rw [getD_replicate_false] at hl; cases hl), fun t _ ht => getD_in (by simpa using ht) (getD_replicate_false _ _)⟩
  have H := wpAnyLkT_lex (P := P) (w0 := w) (md := .any) (F := fun i => Fs.getD i (Lft.bare fun _ => False)) (g := l.toArray.size - n) (fun Z Z' a' hz h w' hb hw => h w' hb (hz w' hw)) hsel hs hc hn (l.take n) Fs 0 _ (fun _ => True) a (fun j hj => by
    have hj' : j < n := by rw [htl] at hj; exact hj
    simp [hj']) (fun j kd hj => by simp [hj]) (by simpa using htl) inv0 (by rw [htl]; exact hlex) h
  refine wp_region_any hm ?_
  have := wpAny_of_headK (Q' := Q) (g := l.toArray.size - n) (fun listed Z a' w' hb hz hL => by
    have := wpAny_of_seq (md := .any) (Q' := Q) (l.drop n) n listed a' w' (fun j => by simp [List.getElem?_drop]) (by rw [hdl]; exact hL.1) (hL.2 w' hb hz)
    rwa [hdl] at this) _ _ (fun _ => True) _ { w with drawn := w.drawn + 1 } (fun _ _ _ _ => trivial) ((Below.refl w.heap.size w).drewN 1) trivial H
  rw [htl, show n + (l.toArray.size - n) = l.toArray.size by omega] at this
  exact this
/-! The steps. -/
variable {Q : (World → Prop) → Act → Prop} {o : Oper} {rest : List Oper} {Fs : List Lft} {Z : World → Prop} {a : Act}
theorem lk_nil (h : Q Z a) : wpLk P ops w0 Q [] Fs Z a := by unfold wpLk; exact h
theorem lk_pure (x : Value) (hw : Region.wanted o (yielded ops a.tmps) = true) (h1 : ∀ W, (execOp a.eval o).run P W = .ok (.value x) W) (h2 : wpLk P ops w0 Q rest Fs (fun w => Z w ∧ True) (a.put o.dst x)) :
    wpLk P ops w0 Q (o :: rest) (Lft.bare (· = x) :: Fs) Z a :=
  ⟨⟨⟨x, rfl⟩, .inl ⟨hw, fun W _ => by unfold lkAt; rw [h1]; exact ⟨rfl, trivial, Below.refl _ _⟩⟩⟩, fun v hv => by cases hv; exact h2⟩
theorem lk_move (v : Value) (x : Operand) (hw : Region.wanted o (yielded ops a.tmps) = true) (ho : o.op = .move x) (hv : a.eval x = v) (h2 : wpLk P ops w0 Q rest Fs (fun w => Z w ∧ True) (a.put o.dst v)) :
    wpLk P ops w0 Q (o :: rest) (Lft.bare (· = v) :: Fs) Z a :=
  lk_pure _ hw (fun W => by rw [BigFrame.run_move x ho W, hv]) h2
theorem lk_assign (v : Value) (x : Operand) (hw : Region.wanted o (yielded ops a.tmps) = true) (ho : o.op = .assign x) (hv : a.eval x = v) (h2 : wpLk P ops w0 Q rest Fs (fun w => Z w ∧ True) (a.put o.dst v)) :
    wpLk P ops w0 Q (o :: rest) (Lft.bare (· = v) :: Fs) Z a :=
  lk_pure _ hw (fun W => by rw [BigFrame.run_assign x ho W, hv]) h2
theorem lk_skip (hw : Region.wanted o (yielded ops a.tmps) = false) (h2 : wpLk P ops w0 Q rest Fs (fun w => Z w ∧ True) (a.put o.dst undef)) :
    wpLk P ops w0 Q (o :: rest) (Lft.bare (· = undef) :: Fs) Z a :=
  ⟨⟨⟨undef, rfl⟩, .inr ⟨hw, rfl, fun _ => trivial⟩⟩, fun v hv => by cases hv; exact h2⟩
/-- It reads old memory. -/
theorem lk_run (x : Value) (hw : Region.wanted o (yielded ops a.tmps) = true) (h1 : ∀ W, Below w0.heap.size w0 W → (execOp a.eval o).run P W = .ok (.value x) W) (h2 : wpLk P ops w0 Q rest Fs (fun w => Z w ∧ True) (a.put o.dst x)) :
    wpLk P ops w0 Q (o :: rest) (Lft.bare (· = x) :: Fs) Z a :=
  ⟨⟨⟨x, rfl⟩, .inl ⟨hw, fun W hW => by unfold lkAt; rw [h1 W hW]; exact ⟨rfl, trivial, Below.refl _ _⟩⟩⟩, fun v hv => by cases hv; exact h2⟩
theorem lk_load (ty : TypeId) (x : Operand) (ho : o.op = .load ty x) (b off : Nat) (cs : List Value) (d : TypeDesc) (hc : w0.rangeAt b off cs) (hb : b < w0.heap.size)
    (hu : P.underlying ty = some d) (hd : d.isRow = true) (hi : (P.info? ty).map (·.size) = some cs.length) (hw : Region.wanted o (yielded ops a.tmps) = true) (hx : a.eval x = .pointer (some ⟨b, off, none⟩))
    (h2 : wpLk P ops w0 Q rest Fs (fun w => Z w ∧ True) (a.put o.dst (.agg cs.toArray))) :
    wpLk P ops w0 Q (o :: rest) (Lft.bare (· = .agg cs.toArray) :: Fs) Z a :=
  ⟨⟨⟨_, rfl⟩, .inl ⟨hw, fun W hW => by
    have hr : W.rangeAt b off cs := fun j v hv => (hW.cell (p := ⟨b, off + j, none⟩) hb).trans (hc j v hv)
    unfold lkAt execOp
    simp only [ho, hx, Instr.loadAt, Instr.sureAddr, Sem.run_bind, Sem.run_pure, Result.andThen_ok, run_loadVar_mid W b off ty cs d hr hu hd hi]
    exact ⟨rfl, trivial, Below.refl _ _⟩⟩⟩, fun v hv => by cases hv; exact h2⟩
/-- A call: the value, and what it leaves in memory. -/
theorem lk_call (F : Lft) (f : FuncId) (args : Array Value) (hw : Region.wanted o (yielded ops a.tmps) = true) (he : ∀ W, (execOp a.eval o).run P W = .ok (.enter f args) W)
    (hc : ∀ W, Below w0.heap.size w0 W → Calls P f args W (fun e W' => ∃ v, e = .returned v ∧ F.R v ∧ F.M v W' ∧ Below W.heap.size W W')) (h2 : ∀ v, F.R v → wpLk P ops w0 Q rest Fs (fun w => Z w ∧ F.M v w) (a.put o.dst v)) :
    wpLk P ops w0 Q (o :: rest) (F :: Fs) Z a := by
  have hne : ∃ v, F.R v := by
    obtain ⟨_, _, _, ⟨v, _, hv, _⟩, _⟩ := hc w0 (Below.refl _ _) []; exact ⟨v, hv⟩
  exact ⟨⟨hne, .inl ⟨hw, fun W hW => by unfold lkAt; rw [he]; exact ⟨rfl, hc W hW⟩⟩⟩, h2⟩
end
end Go.Proofs.YtpleminoiodmgaaDoor
namespace Go.Proofs.YtpleminoiodmgaaDoor
open Go.ChangeShapes Go.WideShapes Go.ChangeAt Go.RowKit Go.IntWalk
set_option linter.unusedVariables false
set_option maxRecDepth 100000

theorem size_evE (e : Ev) (a : Ea) : (Tryd.prog.info? 29).map (·.size) = some (evC e a).length := by kernel_rfl
/-- A row of pairs that a call answers. -/
def ftP (l : List Pr) : Lft := ⟨fun v => ∃ A c, v = .slice A l.length c, fun v w => ∃ A c, v = .slice A l.length c ∧ LP w A l.length c l, fun v w w' ⟨A, c, e, h⟩ hb => ⟨A, c, e, h.below hb⟩⟩
theorem ftP_of {l : List Pr} {w w' : World} {en : Ending} (h : NedPost l w en w') : ∃ v, en = .returned v ∧ (ftP l).R v ∧ (ftP l).M v w' ∧ Below w.heap.size w w' := by
  obtain ⟨⟨A, c, e, hl⟩, hb⟩ := h
  exact ⟨_, e, ⟨A, c, rfl⟩, ⟨A, c, rfl, hl⟩, hb⟩
theorem ftP_in {l : List Pr} {w : World} {A : Option Addr} {c : Nat} (h : (ftP l).M (.slice A l.length c) w) : LP w A l.length c l := by
  obtain ⟨A1, c1, e, h⟩ := h
  injection e with e1 e2 e3
  subst e1 e3
  exact h
set_option maxHeartbeats 16000000 in
theorem pickNeeds_walk (e : Ev) (a : Ea) (w : World) (he : EOk w e a) (hT : TabJ w) : Calls Tryd.prog 3 #[.agg (evC e a).toArray] w fun en w' => en = .returned (.bool true) ∧ Below w.heap.size w w' := by
  have b0 : Below w.heap.size w (w.alloc (.cells (evC e a).toArray 29)) := (Below.refl _ _).alloc (Nat.le_refl _) _
  have HB0 := Lib.hid b0
  have HX := Lib.hid (Blk.new w (evC e a) 29)
  have HE := Lib.hid he
  have HT := Lib.hid hT
  clear he hT b0
  go_enter Tryd.func3, Tryd.ntmps3
  go_wp2_with fail
  refine (alive_calls _).mono ?_
  rintro en w1 ⟨rfl, hb⟩
  have HB1 := Lib.hid (HB0.out.then_ hb)
  have hx := HX.out.later hb
  have HX1 := Lib.hid hx
  have HG := Lib.hid (great0_calls e a w1 (HE.out.below HB1.out) (HT.out.below HB1.out))
  clear hb hx
  have HU := Tryd.underlying29
  have HSZ := size_evE e a
  go_wp2_with (refine wpList_load_mid rfl 29 _ rfl w.heap.size 0 rfl (evC e a) _ HX1.out.rng HU rfl HSZ ?_)
  refine HG.out.mono ?_
  rintro en w2 ⟨r, rfl, hr, hb⟩
  have HB2 := Lib.hid (HB1.out.then_ hb)
  have hx := HX1.out.later hb
  have HX2 := Lib.hid hx
  clear hb HG
  cases r with
  | true =>
    clear hr hx
    go_wp2_with fail
    go_ret
    exact ⟨rfl, HB2.out⟩
  | false =>
    obtain ⟨hgf, hri⟩ := hr rfl
    have hbk : e.ct.bulk ≤ 50000 := by obtain ⟨T, _, _, h, _⟩ := hgf; omega
    have hlt0 : w.heap.size < w2.heap.size := HX2.out.lt
    obtain ⟨l, hl⟩ : ∃ l, nedF e = l := ⟨_, rfl⟩
    have hc1 : ∀ W, Below w2.heap.size w2 W → Calls Tryd.prog 8 #[.agg (evC e a).toArray] W (fun en W' => ∃ v, en = .returned v ∧ (ftP l).R v ∧ (ftP l).M v W' ∧ Below W.heap.size W W') := fun W hW => by
      refine (needed_calls e a W (HE.out.below (HB2.out.then_ hW)) hri hbk).mono ?_
      rw [needed_one e, hl]
      exact fun en W' h => ftP_of h
    have hc2 : ∀ W, Below w2.heap.size w2 W → Calls Tryd.prog 9 #[.agg (evC e a).toArray] W (fun en W' => ∃ v, en = .returned v ∧ (ftP l).R v ∧ (ftP l).M v W' ∧ Below W.heap.size W W') := fun W hW => by
      refine (refneeded_calls e a W (HE.out.below (HB2.out.then_ hW))).mono ?_
      rw [hl]
      exact fun en W' h => ftP_of h
    have HC1 := Lib.hid hc1
    have HC2 := Lib.hid hc2
    have HL0 := Lib.hid hlt0
    clear hr hgf hri hbk hc1 hc2 hl hx hlt0
    go_upto_region 5 with fail
    apply wp_region_lkt 4 (by kernel_rfl) (by kernel_rfl)
    simp only [List.take_succ_cons, List.take_zero, List.drop_succ_cons, List.drop_zero]
    apply lk_load 29 (.tmp 1) rfl w.heap.size 0 (evC e a) _ HX2.out.rng HL0.out Tryd.underlying29 rfl (size_evE e a) rfl rfl
    simp only [Act.put, List.setIfInBounds_toArray, List.set_cons_succ, List.set_cons_zero]
    apply lk_call (ftP l) 8 #[.agg (evC e a).toArray] rfl (by intro W; go_simp) HC1.out
    rintro _ ⟨A1, c1, rfl⟩
    simp only [Act.put, List.setIfInBounds_toArray, List.set_cons_succ, List.set_cons_zero]
    apply lk_load 29 (.tmp 1) rfl w.heap.size 0 (evC e a) _ HX2.out.rng HL0.out Tryd.underlying29 rfl (size_evE e a) rfl rfl
    simp only [Act.put, List.setIfInBounds_toArray, List.set_cons_succ, List.set_cons_zero]
    apply lk_call (ftP l) 9 #[.agg (evC e a).toArray] rfl (by intro W; go_simp) HC2.out
    rintro _ ⟨A2, c2, rfl⟩
    simp only [Act.put, List.setIfInBounds_toArray, List.set_cons_succ, List.set_cons_zero]
    refine lk_nil (Fs := []) ?_
    intro w5 hbw hz
    obtain ⟨⟨⟨⟨-, -⟩, hq1⟩, -⟩, hq2⟩ := hz
    clear HC1 HC2 HX HX1 HX2 HL0
    as_aux_lemma =>
      have hl1 : LP w5 A1 l.length c1 l := ftP_in hq1
      have hl2 : LP w5 A2 l.length c2 l := ftP_in hq2
      generalize (evC e a).toArray = zv
      have HL1 := Lib.hid hl1
      have HL2 := Lib.hid hl2
      have HB5 := Lib.hid (HB2.out.then_ hbw)
      have hcc1 := hl1.2.2.1
      have hcm1 := hl1.2.2.2
      have hcc2 := hl2.2.2.1
      have hcm2 := hl2.2.2.2
      clear hl1 hl2 hbw hq1 hq2
      obtain ⟨n, hn⟩ : ∃ n, l.length = n := ⟨_, rfl⟩
      have HN := Lib.hid hn
      rw [hn] at HL1 HL2 hcc1 hcc2 ⊢
      clear hn
      have hnm : n ≤ 9223372036854775807 := Nat.le_trans hcc1 hcm1
      go_wp2_with fail
      go_loopw [21] (fun i wr => ∃ k : Nat, k ≤ n ∧ i = .int .i64 (k : Int) ∧ Hid (Below w5.heap.size w5 wr)) (fun i _ => n - (intOf i).toNat)
      case atStart => exact ⟨0, Nat.zero_le _, rfl, Lib.hid (Below.refl _ _)⟩
      case round => as_aux_lemma =>
        obtain ⟨wq, hwq⟩ : ∃ x, x = wr := ⟨_, rfl⟩
        subst hwq
        obtain ⟨k, hk, rfl, hbe⟩ := hrel
        by_cases hlt : k < n
        · obtain ⟨b1, o1, rfl, hb1, r1⟩ := pr_row HL1.out.1 hbe.out (k := k) (by rw [HN.out]; exact hlt)
          obtain ⟨b2, o2, rfl, hb2, r2⟩ := pr_row HL2.out.1 hbe.out (k := k) (by rw [HN.out]; exact hlt)
          obtain ⟨x, hx⟩ : ∃ x, l[k]'(by rw [HN.out]; exact hlt) = x := ⟨_, rfl⟩
          rw [hx] at r1 r2
          obtain ⟨x1, x2⟩ := x
          dsimp only at r1 r2
          have hnk : ¬ n ≤ k := by omega
          clear hx
          go_upto_region 11 with fail
          apply wp_region_ls (by kernel_rfl) (by kernel_rfl)
          apply ls_move (.slice (some ⟨b1, o1, none⟩) n c1) (.tmp 3) rfl rfl rfl
          simp only [Act.put, List.setIfInBounds_toArray, List.set_cons_succ, List.set_cons_zero]
          apply ls_move (.int .i64 (k : Int)) (.tmp 5) rfl rfl rfl
          simp only [Act.put, List.setIfInBounds_toArray, List.set_cons_succ, List.set_cons_zero]
          apply ls_pure (.pointer (some ⟨b1, o1 + k * 2, none⟩)) rfl (by intro W; go_simp)
          simp only [Act.put, List.setIfInBounds_toArray, List.set_cons_succ, List.set_cons_zero]
          apply ls_load 35 (.tmp 26) rfl b1 (o1 + k * 2) _ _ r1 hb1 Tryd.underlying35 rfl size_pr rfl rfl
          simp only [Act.put, List.setIfInBounds_toArray, List.set_cons_succ, List.set_cons_zero]
          apply ls_move (.slice (some ⟨b2, o2, none⟩) n c2) (.tmp 4) rfl rfl rfl
          simp only [Act.put, List.setIfInBounds_toArray, List.set_cons_succ, List.set_cons_zero]
          apply ls_move (.int .i64 (k : Int)) (.tmp 5) rfl rfl rfl
          simp only [Act.put, List.setIfInBounds_toArray, List.set_cons_succ, List.set_cons_zero]
          apply ls_pure (.pointer (some ⟨b2, o2 + k * 2, none⟩)) rfl (by intro W; go_simp)
          simp only [Act.put, List.setIfInBounds_toArray, List.set_cons_succ, List.set_cons_zero]
          apply ls_load 35 (.tmp 30) rfl b2 (o2 + k * 2) _ _ r2 hb2 Tryd.underlying35 rfl size_pr rfl rfl
          simp only [Act.put, List.setIfInBounds_toArray, List.set_cons_succ, List.set_cons_zero]
          apply ls_pure (.bool false) rfl (by intro W; go_simp)
          simp only [Act.put, List.setIfInBounds_toArray, List.set_cons_succ, List.set_cons_zero]
          refine ls_nil (Rs := []) ?_
          intro w6 b6
          have HB6 := Lib.hid (hbe.out.then_ b6)
          clear b6 r1 r2
          go_wp2_with fail
          exact ⟨⟨k + 1, by omega, by go_num, HB6⟩, by simp [intOf]; omega⟩
        · obtain rfl : n = k := by omega
          have HBF := Lib.hid (HB5.out.then_ hbe.out)
          go_wp2_with fail
          go_ret
          exact ⟨rfl, HBF.out⟩
end Go.Proofs.YtpleminoiodmgaaDoor
