/- Texts put together: Lk. -/
import Derived.Test.YtajkgcmopmpihaaGreatDoorY2d7a97ebf1
import Derived.StillTail
namespace Go.Proofs.YtajkgcmopmpihaaGreatDoor
open Go.RowKit
structure Lft where
  R : Value → Prop
  M : Value → World → Prop
  st : ∀ v w w', M v w → Below w.heap.size w w' → M v w'
def Lft.bare (R : Value → Prop) : Lft := ⟨R, fun _ _ => True, fun _ _ _ _ _ => trivial⟩
section
variable {P : Program} {ops : Array Oper} {md : Region.Mode} {w0 : World}
def lkUpon (P : Program) (w : World) (F : Lft) : Result Next → Prop
  | .ok (.value u) w' => F.R u ∧ F.M u w' ∧ Below w.heap.size w w'
  | .ok .skip w' => F.R undef ∧ F.M undef w' ∧ Below w.heap.size w w'
  | .ok (.enter f args) w' => w' = w ∧ Calls P f args w (fun e w'' => ∃ v, e = .returned v ∧ F.R v ∧ F.M v w'' ∧ Below w.heap.size w w'')
  | _ => False
def lkAt (P : Program) (o : Oper) (a : Act) (w : World) (F : Lft) : Prop := lkUpon P w F ((execOp a.eval o).run P w)
def LkIn (P : Program) (w0 : World) (o : Oper) (F : Lft) (a : Act) : Prop := (∃ v, F.R v) ∧ ∀ w, Below w0.heap.size w0 w → lkAt P o a w F
def stepK (P : Program) (ops : Array Oper) (w0 : World) (o : Oper) (F : Lft) (K : (World → Prop) → Act → Prop) (Z : World → Prop) (a : Act) : Prop :=
  (Region.wanted o (yielded ops a.tmps) = true → LkIn P w0 o F a ∧ ∀ v, F.R v → K (fun w => Z w ∧ F.M v w) (a.put o.dst v)) ∧ (Region.wanted o (yielded ops a.tmps) = false → K Z (a.put o.dst undef))
theorem stepK_mono {o : Oper} {F : Lft} {K K' : (World → Prop) → Act → Prop} {Z Z' : World → Prop} {a : Act} (hz : ∀ w, Z' w → Z w) (h : ∀ Y Y' a, (∀ w, Y' w → Y w) → K Y a → K' Y' a) (hh : stepK P ops w0 o F K Z a) : stepK P ops w0 o F K' Z' a :=
  ⟨fun hw => ⟨(hh.1 hw).1, fun v hv => h _ _ _ (fun w hw => ⟨hz w hw.1, hw.2⟩) ((hh.1 hw).2 v hv)⟩, fun hw => h _ _ _ hz (hh.2 hw)⟩
def wpLk (P : Program) (ops : Array Oper) (w0 : World) (Q : (World → Prop) → Act → Prop) : List Oper → List Lft → (World → Prop) → Act → Prop
  | [], _, Z, a => Q Z a
  | o :: rest, F :: Fs, Z, a => stepK P ops w0 o F (wpLk P ops w0 Q rest Fs) Z a
  | _ :: _, [], _, _ => False
theorem wp_of_lk {o : Oper} {a : Act} {F : Lft} {K' : Act → World → Prop} {Q' : Exit → Act → World → Prop} {w : World} (h : ∀ v w', F.R v → F.M v w' → Below w.heap.size w w' → K' (a.put o.dst v) w') (hh : lkAt P o a w F) : o.wp P a w K' Q' := by
  unfold lkAt at hh
  unfold Oper.wp
  generalize (execOp a.eval o).run P w = r at *
  cases r with
  | ok n w' =>
    cases n <;> simp only [lkUpon] at hh <;> simp only [Oper.upon]
    case value u => exact h _ _ hh.1 hh.2.1 hh.2.2
    case skip => exact h _ _ hh.1 hh.2.1 hh.2.2
    case enter f args =>
      obtain ⟨e1, hc⟩ := hh
      rw [e1]
      exact hc.mono fun e w'' ⟨v, he, h1, h2, h3⟩ => by subst he; exact h _ _ h1 h2 h3
  | halt x w' => simp only [lkUpon] at hh
def kOp (P : Program) (ops : Array Oper) (w0 : World) (F : Nat → Lft) (i : Nat) (K : (World → Prop) → Act → Prop) (Z : World → Prop) (a : Act) : Prop :=
  match ops[i]? with
  | none => K Z a
  | some o => stepK P ops w0 o (F i) K Z a
theorem kOp_mono {F : Nat → Lft} {i : Nat} {Z Z' : World → Prop} {a : Act} {K K' : (World → Prop) → Act → Prop} (hz : ∀ w, Z' w → Z w) (h : ∀ Y Y' a, (∀ w, Y' w → Y w) → K Y a → K' Y' a) (hh : kOp P ops w0 F i K Z a) : kOp P ops w0 F i K' Z' a := by
  unfold kOp at *
  split
  · exact h _ _ _ hz (by simpa [*] using hh)
  · rename_i o ho
    simp only [ho] at hh
    exact stepK_mono hz h hh
def wpAnyLk (P : Program) (md : Region.Mode) (ops : Array Oper) (w0 : World) (F : Nat → Lft) (Q : Act → World → Prop) : Nat → Array Bool → (World → Prop) → Act → Prop
  | 0, listed, Z, a => Region.ready md ops listed = [] ∧ ∀ w', Below w0.heap.size w0 w' → Z w' → Q a w'
  | fuel + 1, listed, Z, a =>
    (Region.ready md ops listed = [] → ∀ w', Below w0.heap.size w0 w' → Z w' → Q a w') ∧
    ∀ i ∈ Region.ready md ops listed, kOp P ops w0 F i (wpAnyLk P md ops w0 F Q fuel (listed.setIfInBounds i true)) Z a
theorem wpAnyLk_anti {F : Nat → Lft} {Q : Act → World → Prop} : ∀ (fuel : Nat) (listed : Array Bool) (Z Z' : World → Prop) (a : Act), (∀ w, Z' w → Z w) → wpAnyLk P md ops w0 F Q fuel listed Z a → wpAnyLk P md ops w0 F Q fuel listed Z' a
  | 0, _, _, _, _, hz, h => ⟨h.1, fun w' hb hw => h.2 w' hb (hz w' hw)⟩
  | fuel + 1, _, _, _, _, hz, h => ⟨fun h0 w' hb hw => h.1 h0 w' hb (hz w' hw), fun i hi => kOp_mono hz (fun Y Y' a' hy hk => wpAnyLk_anti fuel _ Y Y' a' hy hk) (h.2 i hi)⟩
def Stb (Z : World → Prop) : Prop := ∀ w w', Z w → Below w.heap.size w w' → Z w'
theorem Stb.and {Z : World → Prop} (h : Stb Z) (F : Lft) (v : Value) : Stb (fun w => Z w ∧ F.M v w) := fun w w' hw hb => ⟨h w w' hw.1 hb, F.st v w w' hw.2 hb⟩
theorem wpOp_of_kOp {F : Nat → Lft} {i : Nat} {Z : World → Prop} {a : Act} {K : (World → Prop) → Act → Prop} {K' : Act → World → Prop} {Q' : Exit → Act → World → Prop} {w : World} (hs : Stb Z) (hb : Below w0.heap.size w0 w) (hz : Z w)
    (h : ∀ Y a w', Stb Y → Below w0.heap.size w0 w' → Y w' → K Y a → K' a w') (hh : kOp P ops w0 F i K Z a) : wpOp P ops Q' i K' a w := by
  unfold kOp at hh
  unfold wpOp
  split
  · rename_i ho; simp only [ho] at hh; exact h _ _ _ hs hb hz hh
  · rename_i o ho
    simp only [ho] at hh
    cases hw : Region.wanted o (yielded ops a.tmps) with
    | true =>
      obtain ⟨⟨_, hl⟩, hk⟩ := hh.1 hw
      simp only [if_true]
      exact .inl (wp_of_lk (fun v w' h1 h2 h3 => h _ _ _ (hs.and (F i) v) (hb.then_ h3) ⟨hs _ _ hz h3, h2⟩ (hk v h1)) (hl w hb))
    | false => simp; exact h _ _ _ hs hb hz (hh.2 hw)
theorem wpAny_of_lk {F : Nat → Lft} {Q : Act → World → Prop} {Q' : Exit → Act → World → Prop} (hQ : ∀ a w, Q a w → Q' .normal a w) : ∀ (fuel : Nat) (listed : Array Bool) (Z : World → Prop) (a : Act) (w : World), Stb Z → Below w0.heap.size w0 w → Z w →
    wpAnyLk P md ops w0 F Q fuel listed Z a → wpAny P md ops Q' fuel listed a w
  | 0, _, _, _, _, _, hb, hz, h => ⟨h.1, hQ _ _ (h.2 _ hb hz)⟩
  | fuel + 1, _, _, _, _, hs, hb, hz, h => ⟨fun h0 => hQ _ _ (h.1 h0 _ hb hz), fun i hi => wpOp_of_kOp hs hb hz (fun Y a' w' hs' hb' hz' hk => wpAny_of_lk hQ fuel _ Y a' w' hs' hb' hz' hk) (h.2 i hi)⟩
theorem LkIn.of_same {o : Oper} {F : Lft} {a a' : Act} (hy : LkIn P w0 o F a) (he : execOp a'.eval o = execOp a.eval o) : LkIn P w0 o F a' := by
  unfold LkIn lkAt at *
  rw [he]
  exact hy
theorem kOp_put {F : Nat → Lft} {i j : Nat} {oi oj : Oper} (hj : ops[j]? = some oj) (hap : oi.apart ops oj = true)
    (hsi : ∀ cs b, oi.op ≠ .select cs b) (hsj : ∀ cs b, oj.op ≠ .select cs b) {K : (World → Prop) → Act → Prop} {Z : World → Prop} {a : Act} (hK : ∀ Y Y' a, (∀ w, Y' w → Y w) → K Y a → K Y' a)
    (h : stepK P ops w0 oi (F i) (fun Z1 a1 => kOp P ops w0 F j K Z1 a1) Z a) : kOp P ops w0 F j (fun Z1 a1 => stepK P ops w0 oi (F i) K Z1 a1) Z a := by
  obtain ⟨h1, h2, h3⟩ := Oper.apart_spec hap
  have wi : ∀ u, Region.wanted oi (yielded ops (a.put oj.dst u).tmps) = Region.wanted oi (yielded ops a.tmps) := fun u => wanted_put oi a oj.dst u h3
  have wj : ∀ v, Region.wanted oj (yielded ops (a.put oi.dst v).tmps) = Region.wanted oj (yielded ops a.tmps) := fun v => wanted_put oj a oi.dst v h1
  have ki : ∀ u, LkIn P w0 oi (F i) a → LkIn P w0 oi (F i) (a.put oj.dst u) := fun u hy => hy.of_same (execOp_put oi hsi a oj.dst u h3)
  have kj : ∀ v, LkIn P w0 oj (F j) (a.put oi.dst v) → LkIn P w0 oj (F j) a := fun v hy => hy.of_same (execOp_put oj hsj a oi.dst v h1).symm
  unfold kOp at *
  simp only [hj] at *
  cases hwi : Region.wanted oi (yielded ops a.tmps) with
  | false =>
    have hh := h.2 hwi
    refine ⟨fun hwj => ?_, fun hwj => ⟨fun hc => (by rw [wi, hwi] at hc; cases hc), fun _ => ?_⟩⟩
    · obtain ⟨l, r⟩ := hh.1 (by rw [wj]; exact hwj)
      exact ⟨kj _ l, fun u hu => ⟨fun hc => (by rw [wi, hwi] at hc; cases hc), fun _ => by rw [← Act.put_comm a undef u h2]; exact r u hu⟩⟩
    · rw [← Act.put_comm a undef undef h2]; exact hh.2 (by rw [wj]; exact hwj)
  | true =>
    obtain ⟨li, hv⟩ := h.1 hwi
    obtain ⟨v0, hv0⟩ := li.1
    refine ⟨fun hwj => ⟨kj v0 ((hv v0 hv0).1 (by rw [wj]; exact hwj)).1, fun u hu => ⟨fun _ => ⟨ki u li, fun v hvv => ?_⟩, fun hc => (by rw [wi, hwi] at hc; cases hc)⟩⟩, fun hwj => ⟨fun _ => ⟨ki _ li, fun v hvv => ?_⟩, fun hc => (by rw [wi, hwi] at hc; cases hc)⟩⟩
    · rw [← Act.put_comm a v u h2]
      exact hK _ _ _ (fun w hw => ⟨⟨hw.1.1, hw.2⟩, hw.1.2⟩) (((hv v hvv).1 (by rw [wj]; exact hwj)).2 u hu)
    · rw [← Act.put_comm a v undef h2]; exact (hv v hvv).2 (by rw [wj]; exact hwj)
theorem wpAnyLk_first {F : Nat → Lft} {Q : Act → World → Prop} {i : Nat} {oi : Oper} (hi : ops[i]? = some oi) (hsel : ∀ (j : Nat) (o : Oper) cs b, ops[j]? = some o → o.op ≠ .select cs b) :
    ∀ (fuel : Nat) (listed : Array Bool) (Z : World → Prop) (a : Act),
      (∀ j oj, ops[j]? = some oj → j ≠ i → listed.getD j true = false → (∀ e ∈ oj.after, Region.binds md e = true → e.on ≠ i) → oi.apart ops oj = true) →
      i ∈ Region.ready md ops listed → stepK P ops w0 oi (F i) (wpAnyLk P md ops w0 F Q fuel (listed.setIfInBounds i true)) Z a → wpAnyLk P md ops w0 F Q (fuel + 1) listed Z a := by
  intro fuel
  induction fuel with
  | zero =>
    intro listed Z a _ hr H
    refine ⟨fun h => (by rw [h] at hr; cases hr), fun j hj => ?_⟩
    by_cases hji : j = i
    · subst hji; unfold kOp; simp only [hi]; exact H
    · have := ready_mono hj hji
      obtain ⟨Z', a', hE⟩ : ∃ Z' a', wpAnyLk P md ops w0 F Q 0 (listed.setIfInBounds i true) Z' a' := by
        cases hw : Region.wanted oi (yielded ops a.tmps) with
        | true => obtain ⟨v0, hv0⟩ := (H.1 hw).1.1; exact ⟨_, _, (H.1 hw).2 v0 hv0⟩
        | false => exact ⟨_, _, H.2 hw⟩
      rw [hE.1] at this
      cases this
  | succ fuel ih =>
    intro listed Z a hfree hr H
    refine ⟨fun h => (by rw [h] at hr; cases hr), fun j hj => ?_⟩
    by_cases hji : j = i
    · subst hji; unfold kOp; simp only [hi]; exact H
    · have h1 : stepK P ops w0 oi (F i) (fun Z1 a1 => kOp P ops w0 F j (wpAnyLk P md ops w0 F Q fuel ((listed.setIfInBounds i true).setIfInBounds j true)) Z1 a1) Z a := stepK_mono (fun _ h => h) (fun Y Y' a' hY h => kOp_mono hY (fun Y1 Y2 a2 h2 hk => wpAnyLk_anti _ _ Y1 Y2 a2 h2 hk) (h.2 j (ready_mono hj hji))) H
      obtain ⟨hjun, oj, hoj, hall⟩ := mem_ready.1 hj
      have hnot : ∀ e ∈ oj.after, Region.binds md e = true → e.on ≠ i := fun e he hb heq => by
        have h1 := hall e he hb
        have h0 := (mem_ready.1 hr).1
        rw [heq] at h1
        rcases Nat.lt_or_ge i listed.size with h' | h'
        · simp [h'] at h0 h1; rw [h0] at h1; cases h1
        · simp [Array.getElem?_eq_none h'] at h1
      have h2 := kOp_put hoj (hfree j oj hoj hji hjun hnot) (fun cs b => hsel i oi cs b hi) (fun cs b => hsel j oj cs b hoj) (fun Y Y' a' hY hk => wpAnyLk_anti _ _ Y Y' a' hY hk) h1
      have hfree' : ∀ k ok, ops[k]? = some ok → k ≠ i → (listed.setIfInBounds j true).getD k true = false →
          (∀ e ∈ ok.after, Region.binds md e = true → e.on ≠ i) → oi.apart ops ok = true := fun k ok hk hki hun hno => by
        refine hfree k ok hk hki ?_ hno
        by_cases hjk : j = k
        · subst hjk; exact hjun
        · rw [getD_set_ne true hjk] at hun; exact hun
      refine kOp_mono (fun _ hw => hw) (fun Y Y' a' hY h3 => ih (listed.setIfInBounds j true) Y' a' hfree' (ready_mono hr (Ne.symm hji)) ?_) h2
      rw [Array.setIfInBounds_comm _ _ hji]
      exact stepK_mono hY (fun Y1 Y2 a2 h2 hk => wpAnyLk_anti _ _ Y1 Y2 a2 h2 hk) h3
theorem wpAnyLk_lex {F : Nat → Lft} {Q : Act → World → Prop} (hs : Region.noSelect ops = true) : ∀ (l : List Oper) (Fs : List Lft) (k : Nat) (listed : Array Bool) (Z : World → Prop) (a : Act), (∀ j, l[j]? = ops[k + j]?) →
    (∀ j R, Fs[j]? = some R → F (k + j) = R) → Region.lexFrom md ops l.length k listed = true → wpLk P ops w0 (fun Z a => ∀ w', Below w0.heap.size w0 w' → Z w' → Q a w') l Fs Z a → wpAnyLk P md ops w0 F Q l.length listed Z a
  | [], _, _, _, _, _, _, _, hB, h => ⟨by simpa [Region.lexFrom] using hB, by simpa [wpLk] using h⟩
  | o :: l, [], k, listed, Z, a, hl, hF, hB, h => by simp [wpLk] at h
  | o :: l, R :: Fs, k, listed, Z, a, hl, hF, hB, h => by
    have h0 : ops[k]? = some o := by simpa using (hl 0).symm
    simp only [List.length_cons, Region.lexFrom, Bool.and_eq_true] at hB
    obtain ⟨⟨hr, hf⟩, hB'⟩ := hB
    unfold wpLk at h
    have hR : F k = R := by simpa using hF 0 R (by simp)
    rw [← hR] at h
    exact wpAnyLk_first h0 (Region.noSelect_spec hs) l.length listed Z a (Region.free_spec h0 hf) (by simpa using hr)
      (stepK_mono (fun _ h => h) (fun Y Y' a' hY hK => wpAnyLk_anti _ _ Y Y' a' hY (wpAnyLk_lex hs l Fs (k + 1) _ _ _ (fun j => by have := hl (j + 1); simpa [Nat.add_assoc, Nat.add_comm 1 j] using this)
        (fun j R hj => by have := hF (j + 1) R (by simpa using hj); rw [← this]; congr 1; omega) hB' hK)) h)
theorem wp_region_lk {id : Nat} {Q : Exit → Act → World → Prop} {a : Act} {w : World} {l : List Oper} {Fs : List Lft} (hm : P.follows .mixedOrders = true) (hB : Region.lexB .any l.toArray = true)
    (h : wpLk P l.toArray w (fun Z a' => ∀ w', Below w.heap.size w w' → Z w' → Q .normal a' w') l Fs (fun _ => True) a) : (Code.region id l.toArray true).wp P Q a w := by
  simp only [Region.lexB, Bool.and_eq_true] at hB
  refine wp_region_any hm (wpAny_of_lk (w0 := w) (F := fun i => Fs.getD i (Lft.bare fun _ => False)) (Q := fun a' w' => Q .normal a' w') (fun _ w' h => h) _ _ (fun _ => True) _ _ (fun _ _ _ _ => trivial) ((Below.refl w.heap.size w).drewN 1) trivial ?_)
  have := wpAnyLk_lex (P := P) (w0 := w) (F := fun i => Fs.getD i (Lft.bare fun _ => False)) (md := .any) hB.1 l Fs 0 (Array.replicate l.toArray.size false) (fun _ => True) a (by simp) (fun j R hj => by simp [hj]) (by simpa using hB.2) h
  simpa using this
/-! With a tail in one forced order. -/
def wpAnyLkT (P : Program) (md : Region.Mode) (ops : Array Oper) (w0 : World) (F : Nat → Lft) (n : Nat) (L : Array Bool → (World → Prop) → Act → Prop) : Nat → Array Bool → (World → Prop) → Act → Prop
  | 0, listed, Z, a => L listed Z a
  | f + 1, listed, Z, a =>
    Region.ready md ops listed ≠ [] ∧ ∀ i ∈ Region.ready md ops listed, i < n ∧ kOp P ops w0 F i (wpAnyLkT P md ops w0 F n L f (listed.setIfInBounds i true)) Z a
theorem wpAnyLkT_anti {F : Nat → Lft} {n : Nat} {L : Array Bool → (World → Prop) → Act → Prop} (hL : ∀ listed Z Z' a, (∀ w, Z' w → Z w) → L listed Z a → L listed Z' a) :
    ∀ (f : Nat) (listed : Array Bool) (Z Z' : World → Prop) (a : Act), (∀ w, Z' w → Z w) → wpAnyLkT P md ops w0 F n L f listed Z a → wpAnyLkT P md ops w0 F n L f listed Z' a
  | 0, _, _, _, _, hz, h => hL _ _ _ _ hz h
  | f + 1, _, _, _, _, hz, h => ⟨h.1, fun i hi => ⟨(h.2 i hi).1, kOp_mono hz (fun Y Y' a' hy hk => wpAnyLkT_anti hL f _ Y Y' a' hy hk) (h.2 i hi).2⟩⟩
theorem wpAny_of_headK {F : Nat → Lft} {n g : Nat} {L : Array Bool → (World → Prop) → Act → Prop} {Q' : Exit → Act → World → Prop} (hL : ∀ listed Z a w, Below w0.heap.size w0 w → Z w → L listed Z a → wpAny P md ops Q' g listed a w) :
    ∀ (f : Nat) (listed : Array Bool) (Z : World → Prop) (a : Act) (w : World), Stb Z → Below w0.heap.size w0 w → Z w → wpAnyLkT P md ops w0 F n L f listed Z a → wpAny P md ops Q' (f + g) listed a w
  | 0, listed, Z, a, w, _, hb, hz, h => by rw [Nat.zero_add]; exact hL _ _ _ _ hb hz h
  | f + 1, listed, Z, a, w, hs, hb, hz, h => by
    rw [show f + 1 + g = (f + g) + 1 by omega]
    exact ⟨fun h0 => absurd h0 h.1, fun i hi => wpOp_of_kOp hs hb hz (fun Y a' w' hs' hb' hz' hk => wpAny_of_headK hL f _ Y a' w' hs' hb' hz' hk) (h.2 i hi).2⟩
theorem wpAnyLkT_first {F : Nat → Lft} {n i : Nat} {oi : Oper} {L : Array Bool → (World → Prop) → Act → Prop} (hi : ops[i]? = some oi) (hsel : ∀ (j : Nat) (o : Oper) cs b, ops[j]? = some o → o.op ≠ .select cs b)
    (hs : Region.sinkB md ops n = true) (hc : Region.chainB md ops n = true) (hn : n < ops.size) (hin : i < n)
    (hdone : ∀ listed Z a, L listed Z a → ∀ j ∈ Region.ready md ops listed, n ≤ j) (hL : ∀ listed Z Z' a, (∀ w, Z' w → Z w) → L listed Z a → L listed Z' a) :
    ∀ (f : Nat) (listed : Array Bool) (Z : World → Prop) (a : Act), HeadInv md ops n listed →
      (∀ j oj, ops[j]? = some oj → j ≠ i → listed.getD j true = false → (∀ e ∈ oj.after, Region.binds md e = true → e.on ≠ i) → oi.apart ops oj = true) →
      i ∈ Region.ready md ops listed → stepK P ops w0 oi (F i) (wpAnyLkT P md ops w0 F n L f (listed.setIfInBounds i true)) Z a → wpAnyLkT P md ops w0 F n L (f + 1) listed Z a := by
  intro f
  induction f with
  | zero =>
    intro listed Z a inv _ hr H
    have hun := (mem_ready.1 hr).1
    refine ⟨fun h => (by rw [h] at hr; cases hr), fun j hj => ?_⟩
    have hjn : j < n := by
      rcases Nat.lt_or_ge j n with h | h
      · exact h
      · exact absurd hj (tail_waits hs hc hn inv _ i rfl hin hun j h)
    refine ⟨hjn, ?_⟩
    by_cases hji : j = i
    · subst hji; unfold kOp; simp only [hi]; exact H
    · obtain ⟨Z', a', hE⟩ : ∃ Z' a', L (listed.setIfInBounds i true) Z' a' := by
        cases hw : Region.wanted oi (yielded ops a.tmps) with
        | true => obtain ⟨v0, hv0⟩ := (H.1 hw).1.1; exact ⟨_, _, (H.1 hw).2 v0 hv0⟩
        | false => exact ⟨_, _, H.2 hw⟩
      have := hdone _ _ _ hE j (ready_mono hj hji)
      omega
  | succ f ih =>
    intro listed Z a inv hfree hr H
    have hun := (mem_ready.1 hr).1
    refine ⟨fun h => (by rw [h] at hr; cases hr), fun j hj => ?_⟩
    have hjn : j < n := by
      rcases Nat.lt_or_ge j n with h | h
      · exact h
      · exact absurd hj (tail_waits hs hc hn inv _ i rfl hin hun j h)
    refine ⟨hjn, ?_⟩
    by_cases hji : j = i
    · subst hji; unfold kOp; simp only [hi]; exact H
    · have h1 : stepK P ops w0 oi (F i) (fun Z1 a1 => kOp P ops w0 F j (wpAnyLkT P md ops w0 F n L f ((listed.setIfInBounds i true).setIfInBounds j true)) Z1 a1) Z a := stepK_mono (fun _ h => h) (fun Y Y' a' hY h => kOp_mono hY (fun Y1 Y2 a2 h2 hk => wpAnyLkT_anti hL _ _ Y1 Y2 a2 h2 hk) (h.2 j (ready_mono hj hji)).2) H
      obtain ⟨hjun, oj, hoj, hall⟩ := mem_ready.1 hj
      have hnot : ∀ e ∈ oj.after, Region.binds md e = true → e.on ≠ i := fun e he hb heq => by
        have h1 := hall e he hb
        have h0 := (mem_ready.1 hr).1
        rw [heq] at h1
        rcases Nat.lt_or_ge i listed.size with h' | h'
        · simp [h'] at h0 h1; rw [h0] at h1; cases h1
        · simp [Array.getElem?_eq_none h'] at h1
      have h2 := kOp_put hoj (hfree j oj hoj hji hjun hnot) (fun cs b => hsel i oi cs b hi) (fun cs b => hsel j oj cs b hoj) (fun Y Y' a' hY hk => wpAnyLkT_anti hL _ _ Y Y' a' hY hk) h1
      have hfree' : ∀ k ok, ops[k]? = some ok → k ≠ i → (listed.setIfInBounds j true).getD k true = false →
          (∀ e ∈ ok.after, Region.binds md e = true → e.on ≠ i) → oi.apart ops ok = true := fun k ok hk hki hun hno => by
        refine hfree k ok hk hki ?_ hno
        by_cases hjk : j = k
        · subst hjk; exact hjun
        · rw [getD_set_ne true hjk] at hun; exact hun
      refine kOp_mono (fun _ hw => hw) (fun Y Y' a' hY h3 => ih (listed.setIfInBounds j true) Y' a' (inv.set hj hjn) hfree' (ready_mono hr (Ne.symm hji)) ?_) h2
      rw [Array.setIfInBounds_comm _ _ hji]
      exact stepK_mono hY (fun Y1 Y2 a2 h2 hk => wpAnyLkT_anti hL _ _ Y1 Y2 a2 h2 hk) h3
theorem wpAnyLkT_lex {F : Nat → Lft} {n g : Nat} {Lq : (World → Prop) → Act → Prop} (hA : ∀ Z Z' a, (∀ w, Z' w → Z w) → Lq Z a → Lq Z' a) (hsel : Region.noSelect ops = true) (hs : Region.sinkB md ops n = true) (hc : Region.chainB md ops n = true) (hn : n < ops.size) :
    ∀ (l : List Oper) (Fs : List Lft) (k : Nat) (listed : Array Bool) (Z : World → Prop) (a : Act), (∀ j, j < l.length → l[j]? = ops[k + j]?) → (∀ j kd, Fs[j]? = some kd → F (k + j) = kd) → k + l.length = n → HeadInv md ops n listed →
    Region.lexHead md ops g l.length k listed = true → wpLk P ops w0 Lq l Fs Z a →
    wpAnyLkT P md ops w0 F n (fun listed' Z' a' => Region.seqB md ops g n listed' = true ∧ Lq Z' a') l.length listed Z a
  | [], _, k, listed, Z, a, hl, _, hk, inv, hB, h => by
    have : k = n := by simpa using hk
    subst this
    exact ⟨by simpa [Region.lexHead] using hB, by simpa [wpLk] using h⟩
  | o :: l, [], k, listed, Z, a, hl, _, hk, inv, hB, h => by simp [wpLk] at h
  | o :: l, kd :: Fs, k, listed, Z, a, hl, hF, hk, inv, hB, h => by
    have h0 : ops[k]? = some o := by simpa using (hl 0 (by simp)).symm
    simp only [List.length_cons, Region.lexHead, Bool.and_eq_true] at hB
    obtain ⟨⟨hr, hf⟩, hB'⟩ := hB
    have hkn : k < n := by simp only [List.length_cons] at hk; omega
    have hr' : k ∈ Region.ready md ops listed := by simpa using hr
    unfold wpLk at h
    have hR : F k = kd := by simpa using hF 0 kd (by simp)
    rw [← hR] at h
    exact wpAnyLkT_first h0 (Region.noSelect_spec hsel) hs hc hn hkn (fun listed' Z' a' hL => seqB_ready hL.1) (fun listed' Y Y' a' hY hL => ⟨hL.1, hA Y Y' a' hY hL.2⟩) l.length listed Z a inv (Region.free_spec h0 hf) hr'
      (stepK_mono (fun _ h => h) (fun Y Y' a' hY hK => wpAnyLkT_anti (fun listed' Y Y' a' hY hL => ⟨hL.1, hA Y Y' a' hY hL.2⟩) _ _ Y Y' a' hY (wpAnyLkT_lex hA hsel hs hc hn l Fs (k + 1) _ _ _ (fun j hj => by have := hl (j + 1) (by simp; omega); simpa [Nat.add_assoc, Nat.add_comm 1 j] using this)
        (fun j kd hj => by have := hF (j + 1) kd (by simpa using hj); rw [← this]; congr 1; omega) (by simp only [List.length_cons] at hk; omega) (inv.set hr' hkn) hB' hK)) h)
theorem wp_region_lkt {id : Nat} {Q : Exit → Act → World → Prop} {a : Act} {w : World} {l : List Oper} {Fs : List Lft} (n : Nat) (hm : P.follows .mixedOrders = true) (hB : Region.lexTailB .any l.toArray n = true)
    (h : wpLk P l.toArray w (fun Z a' => ∀ w', Below w.heap.size w w' → Z w' → wpList P l.toArray Q (l.drop n) a' w') (l.take n) Fs (fun _ => True) a) : (Code.region id l.toArray true).wp P Q a w := by
  simp only [Region.lexTailB, Bool.and_eq_true, decide_eq_true_eq] at hB
  obtain ⟨⟨⟨⟨hsel, hn⟩, hs⟩, hc⟩, hlex⟩ := hB
  have hn' : n < l.length := by simpa using hn
  have htl : (l.take n).length = n := by simp; omega
  have hdl : (l.drop n).length = l.toArray.size - n := by simp
  have inv0 : HeadInv .any l.toArray n (Array.replicate l.toArray.size false) :=
    ⟨by simp, fun j oj _ hl => (by rw [getD_replicate_false] at hl; cases hl), fun t _ ht => getD_in (by simpa using ht) (getD_replicate_false _ _)⟩
  have H := wpAnyLkT_lex (P := P) (w0 := w) (md := .any) (F := fun i => Fs.getD i (Lft.bare fun _ => False)) (g := l.toArray.size - n) (fun Z Z' a' hz h w' hb hw => h w' hb (hz w' hw)) hsel hs hc hn (l.take n) Fs 0 _ (fun _ => True) a (fun j hj => by
    have hj' : j < n := by rw [htl] at hj; exact hj
    simp [hj']) (fun j kd hj => by simp [hj]) (by simpa using htl) inv0 (by rw [htl]; exact hlex) h
  refine wp_region_any hm ?_
  have := wpAny_of_headK (Q' := Q) (g := l.toArray.size - n) (fun listed Z a' w' hb hz hL => by
    have := wpAny_of_seq (md := .any) (Q' := Q) (l.drop n) n listed a' w' (fun j => by simp [List.getElem?_drop]) (by rw [hdl]; exact hL.1) (hL.2 w' hb hz)
    rwa [hdl] at this) _ _ (fun _ => True) _ { w with drawn := w.drawn + 1 } (fun _ _ _ _ => trivial) ((Below.refl w.heap.size w).drewN 1) trivial H
  rw [htl, show n + (l.toArray.size - n) = l.toArray.size by omega] at this
  exact this
/-! The steps. -/
variable {Q : (World → Prop) → Act → Prop} {o : Oper} {rest : List Oper} {Fs : List Lft} {Z : World → Prop} {a : Act}
theorem lk_nil (h : Q Z a) : wpLk P ops w0 Q [] Fs Z a := by unfold wpLk; exact h
theorem lk_step {F : Lft} (hw : Region.wanted o (yielded ops a.tmps) = true) (h1 : LkIn P w0 o F a) (h2 : ∀ v, F.R v → wpLk P ops w0 Q rest Fs (fun w => Z w ∧ F.M v w) (a.put o.dst v)) : wpLk P ops w0 Q (o :: rest) (F :: Fs) Z a :=
  ⟨fun _ => ⟨h1, h2⟩, fun h => by rw [hw] at h; cases h⟩
theorem lk_pure (x : Value) (hw : Region.wanted o (yielded ops a.tmps) = true) (h1 : ∀ W, (execOp a.eval o).run P W = .ok (.value x) W) (h2 : wpLk P ops w0 Q rest Fs (fun w => Z w ∧ True) (a.put o.dst x)) :
    wpLk P ops w0 Q (o :: rest) (Lft.bare (· = x) :: Fs) Z a :=
  lk_step hw ⟨⟨x, rfl⟩, fun W _ => by unfold lkAt; rw [h1]; exact ⟨rfl, trivial, Below.refl _ _⟩⟩ fun v hv => by cases hv; exact h2
theorem lk_skip {F : Lft} (hw : Region.wanted o (yielded ops a.tmps) = false) (h2 : wpLk P ops w0 Q rest Fs Z (a.put o.dst undef)) :
    wpLk P ops w0 Q (o :: rest) (F :: Fs) Z a :=
  ⟨fun h => (by rw [hw] at h; cases h), fun _ => h2⟩
theorem lk_skip0 (hw : Region.wanted o (yielded ops a.tmps) = false) (h2 : wpLk P ops w0 Q rest Fs Z (a.put o.dst undef)) : wpLk P ops w0 Q (o :: rest) (Lft.bare (· = undef) :: Fs) Z a := lk_skip hw h2
theorem lk_run (x : Value) (hw : Region.wanted o (yielded ops a.tmps) = true) (h1 : ∀ W, Below w0.heap.size w0 W → (execOp a.eval o).run P W = .ok (.value x) W) (h2 : wpLk P ops w0 Q rest Fs (fun w => Z w ∧ True) (a.put o.dst x)) :
    wpLk P ops w0 Q (o :: rest) (Lft.bare (· = x) :: Fs) Z a :=
  lk_step hw ⟨⟨x, rfl⟩, fun W hW => by unfold lkAt; rw [h1 W hW]; exact ⟨rfl, trivial, Below.refl _ _⟩⟩ fun v hv => by cases hv; exact h2
theorem lk_load (ty : TypeId) (x : Operand) (ho : o.op = .load ty x) (b off : Nat) (cs : List Value) (d : TypeDesc) (hc : w0.rangeAt b off cs) (hb : b < w0.heap.size)
    (hu : P.underlying ty = some d) (hd : d.isRow = true) (hi : (P.info? ty).map (·.size) = some cs.length) (hw : Region.wanted o (yielded ops a.tmps) = true) (hx : a.eval x = .pointer (some ⟨b, off, none⟩))
    (h2 : wpLk P ops w0 Q rest Fs (fun w => Z w ∧ True) (a.put o.dst (.agg cs.toArray))) :
    wpLk P ops w0 Q (o :: rest) (Lft.bare (· = .agg cs.toArray) :: Fs) Z a :=
  lk_step hw ⟨⟨_, rfl⟩, fun W hW => by
    have hr : W.rangeAt b off cs := fun j v hv => (hW.cell (p := ⟨b, off + j, none⟩) hb).trans (hc j v hv)
    unfold lkAt execOp
    simp only [ho, hx, Instr.loadAt, Instr.sureAddr, Sem.run_bind, Sem.run_pure, Result.andThen_ok, run_loadVar_mid W b off ty cs d hr hu hd hi]
    exact ⟨rfl, trivial, Below.refl _ _⟩⟩ fun v hv => by cases hv; exact h2
theorem lk_call (F : Lft) (f : FuncId) (args : Array Value) (hw : Region.wanted o (yielded ops a.tmps) = true) (he : ∀ W, (execOp a.eval o).run P W = .ok (.enter f args) W)
    (hc : ∀ W, Below w0.heap.size w0 W → Calls P f args W (fun e W' => ∃ v, e = .returned v ∧ F.R v ∧ F.M v W' ∧ Below W.heap.size W W')) (h2 : ∀ v, F.R v → wpLk P ops w0 Q rest Fs (fun w => Z w ∧ F.M v w) (a.put o.dst v)) :
    wpLk P ops w0 Q (o :: rest) (F :: Fs) Z a := by
  have hne : ∃ v, F.R v := by
    obtain ⟨_, _, _, ⟨v, _, hv, _⟩, _⟩ := hc w0 (Below.refl _ _) []; exact ⟨v, hv⟩
  exact lk_step hw ⟨hne, fun W hW => by unfold lkAt; rw [he]; exact ⟨rfl, hc W hW⟩⟩ h2
end
section
variable {P : Program} {ops : Array Oper} {W0 : World} {Q : (World → Prop) → Act → Prop} {o : Oper} {rest : List Oper} {Fs : List Lft} {a : Act} {Z : World → Prop}
theorem lk_cell (v : Value) (b off : Nat) (hc : W0.cell? ⟨b, off, none⟩ = some v) (hb : b < W0.heap.size) (hw : Region.wanted o (yielded ops a.tmps) = true)
    (h1 : ∀ W, W.cell? ⟨b, off, none⟩ = some v → (execOp a.eval o).run P W = .ok (.value v) W) (h2 : wpLk P ops W0 Q rest Fs (fun w => Z w ∧ True) (a.put o.dst v)) :
    wpLk P ops W0 Q (o :: rest) (Lft.bare (· = v) :: Fs) Z a :=
  lk_run v hw (fun W hW => h1 W ((hW.cell (p := ⟨b, off, none⟩) hb).trans hc)) h2
end
end Go.Proofs.YtajkgcmopmpihaaGreatDoor
