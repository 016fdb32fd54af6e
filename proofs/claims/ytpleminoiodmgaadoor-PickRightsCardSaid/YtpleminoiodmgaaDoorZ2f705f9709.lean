/- Texts put together: PnP PnG JgB JvD. -/
import Derived.Test.YtpleminoiodmgaaDoorZ7a763d89a4
import Derived.Deep.AppendLies
import Derived.Test.YtpleminoiodmgaaDoorZ05c27cc510
import Derived.Test.YtpleminoiodmgaaDoorZ6d00e8390f
import Derived.Test.YtpleminoiodmgaaDoorZ5b48fd9a65
import Derived.Test.YtpleminoiodmgaaDoorShelf
import Derived.Test.YtpleminoiodmgaaDoorZ3a5727b0d7
import Derived.Deep.Cut
namespace Go.Proofs.YtpleminoiodmgaaDoor
open Go.ChangeShapes Go.WideShapes Go.ChangeAt Go.RowKit Go.IntWalk
set_option linter.unusedVariables false

def pcl (p : Pr) : List Value := [strV p.1, strV p.2]
def prC (l : List Pr) : List Value := l.flatMap pcl
theorem prC_cons (s : Pr) (l : List Pr) : prC (s :: l) = (pcl s) ++ prC l := rfl
theorem prC_app (l m : List Pr) : prC (l ++ m) = prC l ++ prC m := List.flatMap_append
theorem prC_len : ∀ l : List Pr, (prC l).length = l.length * 2
  | [] => rfl
  | s :: l => by rw [prC_cons, List.length_append, prC_len l, List.length_cons]; show 2 + _ = _; omega
theorem prC_get : ∀ {l : List Pr} {i j : Nat} (hi : i < l.length) (hj : j < 2), (prC l)[i * 2 + j]? = (pcl (l[i]))[j]?
  | s :: l, 0, j, hi, hj => by rw [prC_cons, List.getElem?_append_left (by show _ < 2; omega)]; simp
  | s :: l, i + 1, j, hi, hj => by
    rw [prC_cons, List.getElem?_append_right (by show 2 ≤ _; omega), show (i + 1) * 2 + j - (pcl s).length = i * 2 + j by show _ - 2 = _; omega, prC_get (by simpa using hi) hj]; rfl
theorem prC_of {l : List Pr} {q : Nat} {v : Value} (h : (prC l)[q]? = some v) : ∃ i j, ∃ hi : i < l.length, j < 2 ∧ q = i * 2 + j ∧ (pcl (l[i]))[j]? = some v := by
  have hq : q < (prC l).length := (List.getElem?_eq_some_iff.1 h).1
  rw [prC_len] at hq
  have hi : q / 2 < l.length := by omega
  refine ⟨q / 2, q % 2, hi, by omega, by omega, ?_⟩
  rw [← prC_get hi (by omega), show q / 2 * 2 + q % 2 = q by omega]
  exact h
theorem prC_take (l : List Pr) (i : Nat) : (prC l).take (i * 2) = prC (l.take i) := by
  induction l generalizing i with
  | nil => simp [prC]
  | cons s l ih =>
    cases i with
    | zero => simp [prC]
    | succ i =>
      rw [prC_cons, List.take_succ_cons, prC_cons, List.take_append, List.take_of_length_le (by show 2 ≤ _; omega), show (i + 1) * 2 - (pcl s).length = i * 2 by show _ - 2 = _; omega, ih]
theorem prC_drop (l : List Pr) (i : Nat) : (prC l).drop (i * 2) = prC (l.drop i) := by
  induction l generalizing i with
  | nil => simp [prC]
  | cons s l ih =>
    cases i with
    | zero => simp
    | succ i =>
      rw [prC_cons, List.drop_succ_cons, List.drop_append, List.drop_of_length_le (by show 2 ≤ _; omega), show (i + 1) * 2 - (pcl s).length = i * 2 by show _ - 2 = _; omega, ih]; rfl
theorem prC_one (l : List Pr) : ∀ v ∈ prC l, v.oneCell' = true := by
  intro v hv
  obtain ⟨s, _, hs⟩ := List.mem_flatMap.1 hv
  simp only [pcl, List.mem_cons, List.not_mem_nil, or_false] at hs
  rcases hs with rfl | rfl <;> rfl
/-- The slice at A reads pairs. -/
def LP (w : World) (A : Option Addr) (n c : Nat) (ps : List Pr) : Prop := RV w A (prC ps) ∧ Hid (n = ps.length) ∧ n ≤ c ∧ c ≤ 9223372036854775807
theorem LP.below {w w' : World} {A : Option Addr} {n c : Nat} {ps : List Pr} (h : LP w A n c ps) (hb : Below w.heap.size w w') : LP w' A n c ps := ⟨h.1.below hb, h.2⟩
theorem pr_row {w wr : World} {A : Option Addr} {xs : List Pr} (h : RV w A (prC xs)) (hb : Below w.heap.size w wr) {k : Nat} (hk : k < xs.length) : ∃ b off, A = some ⟨b, off, none⟩ ∧ b < wr.heap.size ∧
    wr.rangeAt b (off + k * 2) [.string ⟨(xs[k]).1.toArray⟩, .string ⟨(xs[k]).2.toArray⟩] := by
  obtain ⟨b, off, rfl, hb0, h0⟩ := h (k * 2 + 0) (strV (xs[k]).1) (by rw [prC_get hk (by decide)]; rfl)
  obtain ⟨b1, off1, e1, _, h1⟩ := h (k * 2 + 1) (strV (xs[k]).2) (by rw [prC_get hk (by decide)]; rfl)
  injection e1 with e1; injection e1 with e1 e3
  subst e1; subst e3
  refine ⟨b, off, rfl, Nat.lt_of_lt_of_le hb0 hb.size, fun j v hj => ?_⟩
  rw [hb.cell (p := ⟨b, off + k * 2 + j, none⟩) hb0]
  match j, hj with
  | 0, hj => cases hj; exact h0
  | 1, hj => cases hj; exact h1
/-- The value 'v' is a slice of pairs of the call's own. -/
def OwnP (base : Nat) (w : World) (v : Value) (xs : List Pr) : Prop := w.ownsRow base 35 2 v xs.length (prC xs)
section
variable {w w' : World} {base B : Nat} {v : Value} {xs : List Pr}
theorem OwnP.nil (base : Nat) (w : World) : OwnP base w (.slice none 0 0) [] := World.ownsRow_nil w base _ 2
theorem OwnP.alloc (h : OwnP base w v xs) (o : Obj) : OwnP base (w.alloc o) v xs := World.ownsRow.alloc h o
theorem OwnP.below (h : OwnP base w v xs) (hg : Below w.heap.size w w') : OwnP base w' v xs := by
  refine ⟨h.1, ?_⟩
  rcases h.2 with h2 | ⟨g, cap, cur, hv, hb, hh, r⟩
  · exact .inl h2
  · exact .inr ⟨g, cap, cur, hv, hb, by rw [hg.block g ((Array.getElem?_eq_some_iff.1 hh).1)]; exact hh, r⟩
theorem OwnP.lt (h : OwnP base w v xs) : ∀ k, v.ownBlock = .some k → base ≤ k ∧ k < w.heap.size := World.ownsRow.lt h
theorem Below.prs_grown {w0 : World} (hb : Below base w0 w) (h : OwnP base w v xs) (hg : w.grownBy w' v.ownBlock) (hw : base ≤ w.heap.size) : Below base w0 w' := by
  refine ⟨hg.os.trans hb.os, hg.tape.trans hb.tape, hg.output.trans hb.output, Nat.le_trans hb.size hg.size, fun k hk => ?_⟩
  refine (hg.block k (Nat.lt_of_lt_of_le hk hw) (fun e => ?_)).trans (hb.block k hk)
  have := (h.lt k e.symm).1
  omega
end
theorem info_pr : (Tryd.prog.info? 35).map (fun i => (i.zero, i.size, i.bytes)) = some (some (.agg #[.string ⟨#[]⟩, .string ⟨#[]⟩]), 2, 32) := by kernel_rfl
theorem wpList_append_prs {ops : Array Oper} {rest : List Oper} {o : Oper} {a : Act} {Q : Exit → Act → World → Prop} {w : World} (hgd : o.guard = none) (s x : Operand)
    (ho : o.op = .call { callee := .builtin .append, args := #[s, x], argTypes := #[32, 32] })
    (base : Nat) (v : Value) (xs : List Pr) (hs : a.eval s = v) (hown : OwnP base w v xs) (A : Addr) (n c : Nat) (ys : List Pr)
    (hx : a.eval x = .slice (some A) n c) (hl : RV w (some A) (prC ys)) (hn : Hid (n = ys.length)) (hlen : xs.length + n ≤ 1000000) (hbase : base ≤ w.heap.size)
    (h : ∀ v' w', OwnP base w' v' (xs ++ ys) → w.grownBy w' v.ownBlock → wpList Tryd.prog ops Q rest (a.put o.dst v') w') :
    wpList Tryd.prog ops Q (o :: rest) a w := by
  obtain ⟨i0, hi, hz0, hz1, hz2⟩ := info_parts info_pr
  have hn := hn.out
  subst hn
  refine wpList_append_own _ hgd s x 32 ho base 35 i0 _ 2 32 Tryd.underlying32 hi hz0 hz1 hz2 rfl (by decide) v _ _ hs hown A ys.length c (prC ys) hx (prC_len ys) ?_ (prC_one ys) (Nat.le_trans hlen (by decide)) (by omega) hbase ?_
  · intro j u hj
    obtain ⟨b, off, h1, _, h3⟩ := hl j u hj
    cases h1
    have hplain : (⟨b, off, none⟩ : Addr).add j = ⟨b, off + j, none⟩ := by unfold Addr.add; split <;> simp_all
    rw [hplain, h3]
  · intro v' w' h1 h2 _
    exact h v' w' (by unfold OwnP; rw [prC_app, List.length_append]; exact h1) h2
/-- 'append(own, pair)'. -/
theorem wpList_append_pr {ops : Array Oper} {rest : List Oper} {o : Oper} {a : Act} {Q : Exit → Act → World → Prop} {w : World} (hgd : o.guard = none) (s x : Operand)
    (ho : o.op = .call { callee := .builtin .append, args := #[s, x], argTypes := #[32, 32] })
    (base : Nat) (v : Value) (xs : List Pr) (hs : a.eval s = v) (hown : OwnP base w v xs) (y : Pr) (C : Array Value) (hC : C = (pcl y).toArray)
    (hx : a.eval x = .slice (some ⟨w.heap.size, 0, none⟩) 1 1) (hlen : xs.length + 1 ≤ 1000000) (hbase : base ≤ w.heap.size)
    (h : ∀ v' w', OwnP base w' v' (xs ++ [y]) → w.grownBy w' v.ownBlock → wpList Tryd.prog ops Q rest (a.put o.dst v') w') :
    wpList Tryd.prog ops Q (o :: rest) a (w.alloc (.cells C 35)) := by
  subst hC
  refine wpList_append_prs hgd s x ho base v xs hs (hown.alloc _) _ 1 1 [y] hx (RV.of_blk (Blk.new w (pcl y) 35)) (Lib.hid rfl) hlen (by simp; omega) ?_
  intro v' w' h1 h2
  exact h v' w' h1 ⟨h2.os, h2.tape, h2.output, Nat.le_trans (by simp) h2.size, fun k hk hne => (h2.block k (by simp; omega) hne).trans (heap_alloc_old w _ hk)⟩
theorem OwnP.form {base : Nat} {w : World} {v : Value} {xs : List Pr} (h : OwnP base w v xs) : ∃ A c, v = .slice A xs.length c ∧ LP w A xs.length c xs := by
  rcases h.2 with ⟨rfl, h0⟩ | ⟨g, cap, cur, rfl, hb, hh, hn, hm, hs, ht⟩
  · have : xs = [] := List.eq_nil_of_length_eq_zero h0
    subst this
    exact ⟨none, 0, rfl, RV.nil _ _, Lib.hid rfl, Nat.le_refl _, by decide⟩
  · refine ⟨_, cap, rfl, fun k u hu => ⟨g, 0, rfl, (Array.getElem?_eq_some_iff.1 hh).1, ?_⟩, Lib.hid rfl, hn, hm⟩
    rw [Nat.zero_add, cell_of_row _ _ _ _ _ _ hh]
    rw [← ht] at hu
    simp only [List.getElem?_take] at hu
    split at hu
    · simpa using hu
    · cases hu
end Go.Proofs.YtpleminoiodmgaaDoor
namespace Go.Proofs.YtpleminoiodmgaaDoor
open Go.ChangeShapes Go.WideShapes Go.ChangeAt Go.RowKit Go.IntWalk
set_option linter.unusedVariables false
set_option maxRecDepth 100000

def withP (xs : List Pr) (p : Pr) : List Pr := (xs.filter fun x => decide (cmpP x p = -1)) ++ p :: xs.filter fun x => decide (cmpP p x = -1)
def PrsPost (xs : List Pr) (w : World) (e : Ending) (w' : World) : Prop := ∃ v, e = .returned v ∧ OwnP w.heap.size w' v xs ∧ Below w.heap.size w w'
set_option maxHeartbeats 4000000 in
theorem refwithP_calls (A : Option Addr) (n c : Nat) (xs : List Pr) (p : Pr) (w : World) (hx : LP w A n c xs) (hnb : n ≤ 8192) : Calls Tryd.prog 22 #[.slice A n c, prV p] w (PrsPost (withP xs p) w) := by
  have HNB := Lib.hid hnb
  clear hnb
  obtain ⟨hrv, hn, hnc, hc63⟩ := hx
  have hnm : n ≤ 9223372036854775807 := Nat.le_trans hnc hc63
  obtain ⟨p1, p2⟩ := p
  unfold prV
  dsimp only
  go_enter Tryd.func22, Tryd.ntmps22
  go_wp2_with fail
  obtain ⟨wa, hwa⟩ : ∃ x, x = w.alloc (.cells #[.string ⟨p1.toArray⟩, .string ⟨p2.toArray⟩] 35) := ⟨_, rfl⟩
  have hpb : Blk wa w.heap.size 35 [.string ⟨p1.toArray⟩, .string ⟨p2.toArray⟩] := by rw [hwa]; exact Blk.new w _ _
  have hrv : RV wa A (prC xs) := by rw [hwa]; exact hrv.alloc _
  have hbw : Below w.heap.size w wa := by rw [hwa]; exact (Below.refl _ _).alloc (Nat.le_refl _) _
  rw [← hwa]
  have HH := Lib.hid (And.intro hrv (And.intro hpb (And.intro hbw hn.out)))
  clear hrv hpb hbw hn hwa
  go_loopw [5, 12] (fun o i wr => ∃ (k : Nat) (v : Value), k ≤ n ∧ v = o ∧ i = .int .i64 (k : Int) ∧ OwnP wa.heap.size wr v ((xs.take k).filter fun x => decide (cmpP x (p1, p2) = -1)) ∧ Below wa.heap.size wa wr) (fun o i _ => n - (intOf i).toNat)
  case atStart => exact ⟨0, .slice none 0 0, Nat.zero_le _, rfl, rfl, OwnP.nil _ _, Below.refl _ _⟩
  case round =>
    obtain ⟨k, v, hk, rfl, rfl, ho, hbe⟩ := hrel
    by_cases hp : k < n
    · have hkx : k < xs.length := by rw [← HH.out.2.2.2]; exact hp
      obtain ⟨b0, off, rfl, hb0, r0⟩ := pr_row HH.out.1 hbe hkx
      have hgx := List.getElem?_eq_getElem hkx
      obtain ⟨x, hxx⟩ : ∃ x, xs[k] = x := ⟨_, rfl⟩
      rw [hxx] at r0 hgx
      obtain ⟨x1, x2⟩ := x
      dsimp only at r0
      have HXK := Lib.hid hgx
      clear hxx hkx hgx
      have c0 := r0 0 _ rfl
      have c1 := r0 1 _ rfl
      rw [Nat.add_zero] at c0
      clear r0
      have HO := Lib.hid (And.intro ho hbe)
      clear ho
      go_upto_region 5 with fail
      obtain ⟨wv, hwv⟩ : ∃ x, x = wr.alloc (.cells #[.string ⟨x1.toArray⟩, .string ⟨x2.toArray⟩] 35) := ⟨_, rfl⟩
      rw [← hwv]
      have hsb : Blk wv wr.heap.size 35 [.string ⟨x1.toArray⟩, .string ⟨x2.toArray⟩] := by rw [hwv]; exact Blk.new wr _ _
      have hpw : Blk wv w.heap.size 35 [.string ⟨p1.toArray⟩, .string ⟨p2.toArray⟩] := by rw [hwv]; exact (HH.out.2.1.later hbe).alloc _
      have HV : Hid (OwnP wa.heap.size wv v ((xs.take k).filter fun x => decide (cmpP x (p1, p2) = -1)) ∧ Below wa.heap.size wa wv) := Lib.hid (by rw [hwv]; exact ⟨HO.out.1.alloc _, hbe.alloc hbe.size _⟩)
      obtain ⟨tb, htb⟩ : ∃ tb, decide (cmpP (x1, x2) (p1, p2) = -1) = tb := ⟨_, rfl⟩
      have HC : Hid (∀ W, Calls Tryd.prog 25 #[prV (x1, x2), prV (p1, p2)] W fun e w' => e = .returned (.bool tb) ∧ Below W.heap.size W w') := Lib.hid (fun W => by rw [← htb]; exact less_calls _ _ W)
      have HT := Lib.hid htb
      clear htb c0 c1 hwv hbe
      have y0 := hsb.cell (k := 0) rfl
      have y1 := hsb.cell (k := 1) rfl
      have z0 := hpw.cell (k := 0) rfl
      have z1 := hpw.cell (k := 1) rfl
      go_wp2_with fail
      refine (HC.out _).mono ?_
      rintro e w4 ⟨rfl, b4⟩
      clear y0 y1 z0 z1
      have hs4 := hsb.later b4
      have d0 := hs4.cell (k := 0) rfl
      have d1 := hs4.cell (k := 1) rfl
      have H4 := Lib.hid (And.intro (HV.out.1.below b4) (HV.out.2.then_ b4))
      clear hsb hpw b4 hs4
      cases tb with
      | true =>
        have HL : Hid (((xs.take k).filter fun x => decide (cmpP x (p1, p2) = -1)).length + 1 ≤ 1000000) := Lib.hid (by
          have h1 := List.length_filter_le (fun x : Pr => decide (cmpP x (p1, p2) = -1)) (xs.take k)
          have h0 := List.length_filter_le (fun x : Pr => decide (cmpP x (p1, p2) = -1)) xs
          have h2 := HNB.out
          have h3 := HH.out.2.2.2
          simp only [List.length_take, List.length_append, List.length_cons] at *
          omega)
        go_wp2_with (at_builtin; refine wpList_append_pr rfl _ _ rfl wa.heap.size v _ rfl H4.out.1 (x1, x2) _ rfl rfl HL.out H4.out.2.size ?_; intro v2 w5 h5 g5)
        have H5 := Lib.hid (And.intro h5 (Below.prs_grown H4.out.2 H4.out.1 g5 H4.out.2.size))
        clear h5 g5 d0 d1
        go_wp2_with fail
        refine ⟨⟨k + 1, v2, by omega, rfl, by go_num, ?_, H5.out.2⟩, by simp [intOf]; omega⟩
        have h6 := H5.out.1
        rw [List.take_add_one, HXK.out, Option.toList_some, List.filter_append, List.filter_cons_of_pos (by exact HT.out), List.filter_nil]
        simpa using h6
      | false =>
        clear d0 d1
        go_wp2_with fail
        refine ⟨⟨k + 1, v, by omega, rfl, by go_num, ?_, H4.out.2⟩, by simp [intOf]; omega⟩
        have h6 := H4.out.1
        rw [List.take_add_one, HXK.out, Option.toList_some, List.filter_append, List.filter_cons_of_neg (by exact fun h => of_decide_eq_false HT.out (of_decide_eq_true h)), List.filter_nil, List.append_nil]
        exact h6
    · have hkn : n = k := by omega
      subst hkn
      rw [List.take_of_length_le (by rw [← HH.out.2.2.2]; exact Nat.le_refl _)] at ho
      have hpw := HH.out.2.1.later hbe
      have d0 := hpw.cell (k := 0) rfl
      have d1 := hpw.cell (k := 1) rfl
      have H4 := Lib.hid (And.intro ho hbe)
      clear ho hbe hpw hp hk
      have HL : Hid ((xs.filter fun x => decide (cmpP x (p1, p2) = -1)).length + 1 ≤ 1000000) := Lib.hid (by
        have h0 := List.length_filter_le (fun x : Pr => decide (cmpP x (p1, p2) = -1)) xs
        have h2 := HNB.out
        have h3 := HH.out.2.2.2
        omega)
      go_wp2_with (at_builtin; refine wpList_append_pr rfl _ _ rfl wa.heap.size v _ rfl H4.out.1 (p1, p2) _ rfl rfl HL.out H4.out.2.size ?_; intro v2 w5 h5 g5)
      have h5b := Below.prs_grown H4.out.2 H4.out.1 g5 H4.out.2.size
      clear g5 d0 d1
      have H5 := Lib.hid (And.intro h5 h5b)
      clear h5 h5b
      go_wp2_with fail
      go_loopw [5, 30] (fun o i wr => ∃ (k : Nat) (v : Value), k ≤ n ∧ v = o ∧ i = .int .i64 (k : Int) ∧ OwnP wa.heap.size wr v ((xs.filter fun x => decide (cmpP x (p1, p2) = -1)) ++ ((p1, p2) : Pr) :: (xs.take k).filter fun x => decide (cmpP (p1, p2) x = -1)) ∧ Below wa.heap.size wa wr) (fun o i _ => n - (intOf i).toNat)
      case atStart => exact ⟨0, v2, Nat.zero_le _, rfl, rfl, by simpa using H5.out.1, H5.out.2⟩
      case round =>
        obtain ⟨k, v, hk, rfl, rfl, ho, hbe⟩ := hrel
        by_cases hp : k < n
        · have hkx : k < xs.length := by rw [← HH.out.2.2.2]; exact hp
          obtain ⟨b0, off, rfl, hb0, r0⟩ := pr_row HH.out.1 hbe hkx
          have hgx := List.getElem?_eq_getElem hkx
          obtain ⟨x, hxx⟩ : ∃ x, xs[k] = x := ⟨_, rfl⟩
          rw [hxx] at r0 hgx
          obtain ⟨x1, x2⟩ := x
          dsimp only at r0
          have HXK := Lib.hid hgx
          clear hxx hkx hgx
          have c0 := r0 0 _ rfl
          have c1 := r0 1 _ rfl
          rw [Nat.add_zero] at c0
          clear r0
          have HO := Lib.hid (And.intro ho hbe)
          clear ho
          go_upto_region 12 with fail
          obtain ⟨wv, hwv⟩ : ∃ x, x = wr.alloc (.cells #[.string ⟨x1.toArray⟩, .string ⟨x2.toArray⟩] 35) := ⟨_, rfl⟩
          rw [← hwv]
          have hsb : Blk wv wr.heap.size 35 [.string ⟨x1.toArray⟩, .string ⟨x2.toArray⟩] := by rw [hwv]; exact Blk.new wr _ _
          have hpw : Blk wv w.heap.size 35 [.string ⟨p1.toArray⟩, .string ⟨p2.toArray⟩] := by rw [hwv]; exact (HH.out.2.1.later hbe).alloc _
          have HV : Hid (OwnP wa.heap.size wv v ((xs.filter fun x => decide (cmpP x (p1, p2) = -1)) ++ ((p1, p2) : Pr) :: (xs.take k).filter fun x => decide (cmpP (p1, p2) x = -1)) ∧ Below wa.heap.size wa wv) := Lib.hid (by rw [hwv]; exact ⟨HO.out.1.alloc _, hbe.alloc hbe.size _⟩)
          obtain ⟨tb, htb⟩ : ∃ tb, decide (cmpP (p1, p2) (x1, x2) = -1) = tb := ⟨_, rfl⟩
          have HC : Hid (∀ W, Calls Tryd.prog 25 #[prV (p1, p2), prV (x1, x2)] W fun e w' => e = .returned (.bool tb) ∧ Below W.heap.size W w') := Lib.hid (fun W => by rw [← htb]; exact less_calls _ _ W)
          have HT := Lib.hid htb
          clear htb c0 c1 hwv hbe
          have y0 := hsb.cell (k := 0) rfl
          have y1 := hsb.cell (k := 1) rfl
          have z0 := hpw.cell (k := 0) rfl
          have z1 := hpw.cell (k := 1) rfl
          go_wp2_with fail
          refine (HC.out _).mono ?_
          rintro e w4 ⟨rfl, b4⟩
          clear y0 y1 z0 z1
          have hs4 := hsb.later b4
          have d0 := hs4.cell (k := 0) rfl
          have d1 := hs4.cell (k := 1) rfl
          have H4 := Lib.hid (And.intro (HV.out.1.below b4) (HV.out.2.then_ b4))
          clear hsb hpw b4 hs4
          cases tb with
          | true =>
            have HL : Hid (((xs.filter fun x => decide (cmpP x (p1, p2) = -1)) ++ ((p1, p2) : Pr) :: (xs.take k).filter fun x => decide (cmpP (p1, p2) x = -1)).length + 1 ≤ 1000000) := Lib.hid (by
              rw [List.length_append, List.length_cons]
              refine Nat.le_trans (Nat.add_le_add_right (Nat.add_le_add (List.length_filter_le _ _) (Nat.succ_le_succ (List.length_filter_le _ _))) 1) ?_
              rw [List.length_take]
              have h2 := HNB.out
              have h3 := HH.out.2.2.2
              omega)
            go_wp2_with (at_builtin; refine wpList_append_pr rfl _ _ rfl wa.heap.size v _ rfl H4.out.1 (x1, x2) _ rfl rfl HL.out H4.out.2.size ?_; intro v2 w5 h5 g5)
            have H5 := Lib.hid (And.intro h5 (Below.prs_grown H4.out.2 H4.out.1 g5 H4.out.2.size))
            clear h5 g5 d0 d1
            go_wp2_with fail
            refine ⟨⟨k + 1, v2, by omega, rfl, by go_num, ?_, H5.out.2⟩, by simp [intOf]; omega⟩
            have h6 := H5.out.1
            rw [List.take_add_one, HXK.out, Option.toList_some, List.filter_append, List.filter_cons_of_pos (by exact HT.out), List.filter_nil]
            simpa using h6
          | false =>
            clear d0 d1
            go_wp2_with fail
            refine ⟨⟨k + 1, v, by omega, rfl, by go_num, ?_, H4.out.2⟩, by simp [intOf]; omega⟩
            have h6 := H4.out.1
            rw [List.take_add_one, HXK.out, Option.toList_some, List.filter_append, List.filter_cons_of_neg (by exact fun h => of_decide_eq_false HT.out (of_decide_eq_true h)), List.filter_nil, List.append_nil]
            exact h6
        · have hkn : n = k := by omega
          subst hkn
          rw [List.take_of_length_le (by rw [← HH.out.2.2.2]; exact Nat.le_refl _)] at ho
          have HF := Lib.hid (And.intro ho hbe)
          clear ho hbe
          go_wp2_with fail
          go_ret
          exact ⟨v, rfl, ⟨HF.out.1.1, by
            rcases HF.out.1.2 with h | ⟨g, cap, cur, e, hb, r⟩
            · exact .inl h
            · exact .inr ⟨g, cap, cur, e, Nat.le_trans HH.out.2.2.1.size hb, r⟩⟩, HH.out.2.2.1.then_ HF.out.2⟩
end Go.Proofs.YtpleminoiodmgaaDoor
namespace Go.Proofs.YtpleminoiodmgaaDoor
open Go.ChangeShapes Go.WideShapes Go.ChangeAt Go.RowKit Go.IntWalk
set_option linter.unusedVariables false

theorem size_mem : (Tryd.prog.info? 70).map (·.size) = some 7 := by kernel_rfl
theorem size_val : (Tryd.prog.info? 25).map (·.size) = some 6 := by kernel_rfl
theorem closureJ_calls (ek : List UInt8) (eu : Jv) (eA eB : Option Addr) (enl ecl enm ecm : Nat) (key : List UInt8) (W : World) :
    Calls Tryd.prog 63 #[.agg #[.string ⟨ek.toArray⟩, .int .i64 eu.kd, .bool eu.is, .int .i64 eu.n, .string ⟨eu.s.toArray⟩, .slice eA enl ecl, .slice eB enm ecm], .string ⟨key.toArray⟩] W fun e w' => e = .returned (.int .i64 (cmpP (keyP ek) (keyP key))) ∧ Below W.heap.size W w' := by
  rw [cmpP_key]
  go_enter Tryd.func63, Tryd.ntmps63
  go_wp2_with fail
  refine (Tryd.strings_Compare _ _ _).mono ?_
  rintro e w1 ⟨rfl, rfl⟩
  go_wp2_with fail
  go_ret
  exact ⟨rfl, (Below.refl _ _).alloc (Nat.le_refl _) _⟩
theorem half_uJ (a b : Nat) (ha : a ≤ 140737488355328) (hb : b ≤ 140737488355328) : IntKind.u64.wrap ((a : Int) + (b : Int)) = (a : Int) + (b : Int) := by rw [IntKind.wrap_u64]; omega
theorem half_dJ (a b h : Nat) (hh : (a + b) / 2 = h) : ((a : Int) + (b : Int)) / 2 = (h : Int) := by omega
theorem half_wJ (h : Nat) (hh : h ≤ 140737488355328) : wrap64 (h : Int) = (h : Int) := wrap64_in _ (by omega)
theorem half_sJ (a b : Nat) (ha : a ≤ 140737488355328) (hb : b ≤ 140737488355328) : wrap64 ((a : Int) + (b : Int)) = (a : Int) + (b : Int) := wrap64_in _ (by omega)
theorem cmp_at {t : JT} {i : Nat} (h : i < (slts t).length) {ek : List UInt8} (hek : (t.fall i).key = ek) : ((slts t)[i]).pr = keyP ek := by rw [slts_at t i h, hek]
set_option maxHeartbeats 4000000 in
set_option maxRecDepth 100000 in
theorem search_callsJ (A : Option Addr) (n c : Nat) (t : JT) (key : List UInt8) (w : World) (hn : Room n c t.ext) (hs : JSl (· < w.heap.size) w true A t) (hr : Rise (slts t)) : Calls Tryd.prog 62 #[.slice A n c, .string ⟨key.toArray⟩, .func (Fn.func 63) #[] #[]] w fun e w' => e = .returned (.tuple #[.int .i64 (posF (slts t) (keyP key) : Int), .bool (foundF (slts t) (keyP key))]) ∧ Below w.heap.size w w' := by
  obtain ⟨hn, hnc, hc63⟩ := hn
  have hlen : n = (slts t).length := by rw [slts_len]; exact hn
  obtain ⟨ps, hps⟩ : ∃ ps, posF (slts t) (keyP key) = ps := ⟨_, rfl⟩
  have hpn : ps ≤ n := by rw [← hps, hlen]; exact posF_le _ _
  have HS := Lib.hid hs
  have HH := Lib.hid (And.intro hr hlen)
  have HP := Lib.hid hps
  rw [hps]
  have hn47 : n ≤ 140737488355328 := hc63
  clear hs hn hr hlen hps hnc hc63
  go_enter Tryd.func62, Tryd.ntmps62
  go_wp2_with fail
  go_loopw [9, 10] (fun i j wr => ∃ a b : Nat, a ≤ ps ∧ ps ≤ b ∧ b ≤ n ∧ i = .int .i64 (a : Int) ∧ j = .int .i64 (b : Int) ∧ Hid (Below w.heap.size w wr)) (fun i j _ => (intOf j - intOf i).toNat)
  case atStart => exact ⟨0, n, Nat.zero_le _, hpn, Nat.le_refl _, rfl, rfl, Lib.hid (Below.refl _ _)⟩
  case round =>
    obtain ⟨a, b, ha, hab, hb, rfl, rfl, hbe⟩ := hrel
    by_cases hlt : a < b
    · have hb2 : b ≤ 140737488355328 := Nat.le_trans hb hn47
      have ha2 : a ≤ 140737488355328 := Nat.le_trans (Nat.le_of_lt hlt) hb2
      obtain ⟨h, hh⟩ : ∃ h, (a + b) / 2 = h := ⟨_, rfl⟩
      have hah : a ≤ h := by omega
      have hhb : h < b := by omega
      have hkn : h < n := by omega
      have e3 := half_dJ a b h hh
      have e4 := half_wJ h (by omega)
      have e1 := half_sJ a b ha2 hb2
      have e2 := half_uJ a b ha2 hb2
      have hk : h < (slts t).length := by rw [← HH.out.2]; exact hkn
      obtain ⟨b0, off, eA, enl, ecl, eB, enm, ecm, rfl, eP, ebl, eK, eKl, f0, f1, f2, f3, f4, f5, r1, r2, s1, s2, hf⟩ := (HS.out.up hbe.out).mb (i := h) _ (by rw [← slts_len]; exact hk)
      obtain ⟨eu, hev⟩ : ∃ eu, (t.fall h).val = eu := ⟨_, rfl⟩
      obtain ⟨ek, hek⟩ : ∃ ek, (t.fall h).key = ek := ⟨_, rfl⟩
      rw [hev] at f0 f1 f2 f3
      rw [hek] at eK
      have HX := Lib.hid (cmp_at hk hek)
      have HKK := Lib.hid hk
      clear eP eKl r1 r2 s1 s2 hf hev hek hh
      go_wp2_with fail
      refine (closureJ_calls ek eu eA eB enl ecl enm ecm key _).mono ?_
      rintro e w4 ⟨rfl, b4⟩
      have HB4 := Lib.hid (hbe.out.then_ b4)
      clear b4 eK f0 f1 f2 f3 f4 f5 e1 e2 e3 e4
      obtain ⟨z, hz⟩ : ∃ z, cmpP (keyP ek) (keyP key) = z := ⟨_, rfl⟩
      have HZ := Lib.hid hz
      rw [hz]
      clear hz
      by_cases hz0 : z < 0
      · have HPP : h + 1 ≤ ps := by
          have h1 : ¬ ps ≤ h := fun h2 => by
            have h5 := posF_high HH.out.1 (keyP key) h HKK.out (by rw [HP.out]; exact h2)
            rw [HX.out, HZ.out] at h5
            rcases cmpP_three (keyP ek) (keyP key) with h3 | h3 | h3 <;> rw [HZ.out] at h3 <;> omega
          omega
        go_wp2_with fail
        exact ⟨⟨h + 1, b, HPP, hab, hb, by go_num, rfl, HB4⟩, by simp [intOf]; omega⟩
      · have HPP : ps ≤ h := by
          rcases Nat.lt_or_ge h ps with h2 | h2
          · have h5 := posF_low (slts t) (keyP key) h HKK.out (by rw [HP.out]; exact h2)
            rw [HX.out, HZ.out] at h5
            omega
          · exact h2
        go_wp2_with fail
        exact ⟨⟨a, h, ha, HPP, by omega, rfl, rfl, HB4⟩, by simp [intOf]; omega⟩
    · obtain rfl : a = ps := by omega
      obtain rfl : b = a := by omega
      rcases Nat.lt_or_ge b n with hbn | hbn
      · have hk : b < (slts t).length := by rw [← HH.out.2]; exact hbn
        obtain ⟨b0, off, eA, enl, ecl, eB, enm, ecm, rfl, eP, ebl, eK, eKl, f0, f1, f2, f3, f4, f5, r1, r2, s1, s2, hf⟩ := (HS.out.up hbe.out).mb (i := b) _ (by rw [← slts_len]; exact hk)
        obtain ⟨eu, hev⟩ : ∃ eu, (t.fall b).val = eu := ⟨_, rfl⟩
        obtain ⟨ek, hek⟩ : ∃ ek, (t.fall b).key = ek := ⟨_, rfl⟩
        rw [hev] at f0 f1 f2 f3
        rw [hek] at eK
        obtain ⟨z, hz⟩ : ∃ z, cmpP (keyP ek) (keyP key) = z := ⟨_, rfl⟩
        have HF := Lib.hid (show foundF (slts t) (keyP key) = (z == 0) by
          unfold foundF
          rw [HP.out, List.getElem?_eq_getElem hk]
          dsimp only
          rw [cmp_at hk hek, hz]
          by_cases h : z = 0 <;> simp [h])
        have HZ := Lib.hid hz
        clear eP eKl r1 r2 s1 s2 hf hev hek hz
        go_wp2_with fail
        refine (closureJ_calls ek eu eA eB enl ecl enm ecm key _).mono ?_
        rintro e w4 ⟨rfl, b4⟩
        rw [HZ.out]
        have HB4 := Lib.hid (hbe.out.then_ b4)
        clear b4 eK f0 f1 f2 f3 f4 f5
        go_wp2_with fail
        go_ret2
        refine ⟨?_, HB4.out⟩
        rw [HF.out]; rfl
      · obtain rfl : b = n := by omega
        have HF := Lib.hid (show foundF (slts t) (keyP key) = false by
          unfold foundF
          rw [HP.out, HH.out.2, List.getElem?_eq_none (Nat.le_refl _)])
        go_wp2_with fail
        go_ret2
        refine ⟨?_, hbe.out⟩
        rw [HF.out]; rfl
end Go.Proofs.YtpleminoiodmgaaDoor
namespace Go.Proofs.YtpleminoiodmgaaDoor
open Go.ChangeShapes Go.WideShapes Go.ChangeAt Go.RowKit Go.IntWalk
set_option linter.unusedVariables false
set_option maxRecDepth 100000

theorem ext_le_bulk : ∀ t : JT, t.ext ≤ t.bulk
  | .nil => Nat.le_refl _
  | .cons k kd is n s l m r => by have := ext_le_bulk r; simp only [JT.ext, JT.bulk]; omega
def tyM (mem : Bool) : TypeId := if mem then 70 else 25
def tsM (mem : Bool) : TypeId := if mem then 23 else 22
theorem info_memD : (Tryd.prog.info? 70).map (fun i => (i.zero, i.size, i.bytes)) = some (some (.agg #[.string ⟨#[]⟩, .int .i64 0, .bool false, .int .i64 0, .string ⟨#[]⟩, .slice none 0 0, .slice none 0 0]), 7, 104) := by kernel_rfl
theorem info_valD : (Tryd.prog.info? 25).map (fun i => (i.zero, i.size, i.bytes)) = some (some (.agg #[.int .i64 0, .bool false, .int .i64 0, .string ⟨#[]⟩, .slice none 0 0, .slice none 0 0]), 6, 88) := by kernel_rfl
theorem info_row (mem : Bool) : ∃ i z, Tryd.prog.info? (tyM mem) = some i ∧ i.zero = some z ∧ i.size = stM mem ∧ i.bytes = (if mem then 104 else 88) ∧ z.cells.size = stM mem := by
  cases mem with
  | true => obtain ⟨i, h1, h2, h3, h4⟩ := info_parts info_memD; exact ⟨i, _, h1, h2, h3, h4, rfl⟩
  | false => obtain ⟨i, h1, h2, h3, h4⟩ := info_parts info_valD; exact ⟨i, _, h1, h2, h3, h4, rfl⟩
theorem under_row (mem : Bool) : Tryd.prog.underlying (tsM mem) = some (.slice (tyM mem)) := by
  cases mem with
  | true => exact Tryd.underlying23
  | false => exact Tryd.underlying22
/-- A row out of its elements. -/
theorem JIn.of {P : Nat → Prop} {w : World} : ∀ (t : JT) (mem : Bool) (b o : Nat),
    (∀ i, i < t.ext → (if mem then w.cell? ⟨b, o + i * stM mem, none⟩ = some (strV (t.fall i).key) ∧ (t.fall i).key.length ≤ 140737488355328 else (t.fall i).key = []) ∧
      ∃ cs, w.rangeAt b (o + i * stM mem + kwM mem) cs ∧ JCs P w cs (t.fall i).val) → JIn P w mem b o t
  | .nil, _, _, _, _ => trivial
  | .cons k kd is n s l m r, mem, b, o, h => by
    obtain ⟨h1, cs, h2, A, nl, cl, B, nm, cm, rfl, h3, h4, h5, h6, h7⟩ := h 0 (by simp [JT.ext])
    rw [Nat.zero_mul, Nat.add_zero] at h1 h2
    refine ⟨h1, ⟨A, nl, cl, B, nm, cm, h2, h3, h4, h5, h6⟩, h7, JIn.of r mem b _ (fun i hi => ?_)⟩
    have := h (i + 1) (by simp [JT.ext]; omega)
    rw [show o + (i + 1) * stM mem = o + stM mem + i * stM mem by rw [Nat.succ_mul]; omega] at this
    exact this
/-- 'L' is a row of the call's own: the first k of t, the parts in blocks of the call's own. -/
def RowE (P : Nat → Prop) (mem : Bool) (w : World) (cs : List Value) (t : JT) (i : Nat) : Prop :=
  (if mem then cs[i * stM mem]? = some (strV (t.fall i).key) ∧ (t.fall i).key.length ≤ 140737488355328 else (t.fall i).key = []) ∧
    ∃ e : List Value, (∀ j v, e[j]? = some v → cs[i * stM mem + kwM mem + j]? = some v) ∧ JCs P w e (t.fall i).val
def RowJ (base : Nat) (mem : Bool) (w : World) (L : Value) (t : JT) (k : Nat) : Prop :=
  ∃ cs : List Value, w.ownsRow base (tyM mem) (stM mem) L k cs ∧ ∀ i, i < k → RowE (fun b => base ≤ b ∧ b < w.heap.size ∧ L.ownBlock ≠ some b) mem w cs t i
def newC (mem : Bool) (key : List UInt8) (e : List Value) : List Value := if mem then strV key :: e else e
section
variable {base k : Nat} {mem : Bool} {w w' : World} {L : Value} {t : JT}
theorem RowJ.nil (base : Nat) (mem : Bool) (w : World) (t : JT) : RowJ base mem w (.slice none 0 0) t 0 := ⟨[], World.ownsRow_nil w base _ _, fun i hi => absurd hi (Nat.not_lt_zero i)⟩
theorem RowJ.lt (h : RowJ base mem w L t k) : ∀ b, L.ownBlock = some b → base ≤ b ∧ b < w.heap.size := by obtain ⟨cs, h1, _⟩ := h; exact World.ownsRow.lt h1
theorem RowJ.below (h : RowJ base mem w L t k) (hg : Below w.heap.size w w') : RowJ base mem w' L t k := by
  obtain ⟨cs, h0, h1⟩ := h
  refine ⟨cs, ⟨h0.1, ?_⟩, fun i hi => ⟨(h1 i hi).1, ?_⟩⟩
  · rcases h0.2 with h2 | ⟨g, cap, cur, hv, hb, hh, r⟩
    · exact .inl h2
    · exact .inr ⟨g, cap, cur, hv, hb, by rw [hg.block g ((Array.getElem?_eq_some_iff.1 hh).1)]; exact hh, r⟩
  · obtain ⟨_, e, h2, h3⟩ := h1 i hi
    exact ⟨e, h2, h3.stay (fun b o hb => hg.cell (p := ⟨b, o, none⟩) hb.2.1) (fun b hb => ⟨hb.1, Nat.lt_of_lt_of_le hb.2.1 hg.size, hb.2.2⟩)⟩
theorem RowJ.alloc (h : RowJ base mem w L t k) (o : Obj) : RowJ base mem (w.alloc o) L t k := h.below ((Below.refl _ _).alloc (Nat.le_refl _) _)
theorem RowJ.drewN (h : RowJ base mem w L t k) (n : Nat) : RowJ base mem (w.drewN n) L t k := h.below ((Below.refl _ _).drewN n)
theorem RowJ.grown {w0 : World} (hb : Below base w0 w) (h : RowJ base mem w L t k) (hg : w.grownBy w' L.ownBlock) (hw : base ≤ w.heap.size) : Below base w0 w' := by
  refine ⟨hg.os.trans hb.os, hg.tape.trans hb.tape, hg.output.trans hb.output, Nat.le_trans hb.size hg.size, fun k hk => ?_⟩
  refine (hg.block k (Nat.lt_of_lt_of_le hk hw) (fun e => ?_)).trans (hb.block k hk)
  have := (h.lt k e.symm).1
  omega
theorem getD_app_l {α : Type} {xs ys : List α} {i : Nat} {v : α} (h : xs[i]? = some v) : (xs ++ ys)[i]? = some v := by
  rw [List.getElem?_append_left (List.getElem?_eq_some_iff.1 h).1]; exact h
theorem getD_app_r {α : Type} {xs ys : List α} {i : Nat} : (xs ++ ys)[xs.length + i]? = ys[i]? := by
  rw [List.getElem?_append_right (Nat.le_add_right _ _)]; congr 1; omega
theorem RowJ.app {cs : List Value} {g cap : Nat} (h1 : ∀ i, i < k → RowE (fun b => base ≤ b ∧ b < w.heap.size ∧ L.ownBlock ≠ some b) mem w cs t i) (hl : cs.length = k * stM mem)
    (hg : w.grownBy w' L.ownBlock) (hgg : L.ownBlock = some g ∨ g = w.heap.size) (e : List Value)
    (hkey : if mem then (t.fall k).key.length ≤ 140737488355328 else (t.fall k).key = [])
    (h' : w'.ownsRow base (tyM mem) (stM mem) (.slice (some ⟨g, 0, none⟩) (k + 1) cap) (k + 1) (cs ++ newC mem (t.fall k).key e))
    (hc : JCs (fun b => base ≤ b ∧ b < w.heap.size ∧ L.ownBlock ≠ some b) w e (t.fall k).val) : RowJ base mem w' (.slice (some ⟨g, 0, none⟩) (k + 1) cap) t (k + 1) := by
  have hst : ∀ {e : List Value} {v : Jv}, JCs (fun b => base ≤ b ∧ b < w.heap.size ∧ L.ownBlock ≠ some b) w e v →
      JCs (fun b => base ≤ b ∧ b < w'.heap.size ∧ (Value.slice (some ⟨g, 0, none⟩) (k + 1) cap).ownBlock ≠ some b) w' e v := fun h =>
    h.stay (fun b o hb => hg.cell_far ⟨b, o, none⟩ hb.2.1 (fun e => hb.2.2 e.symm)) (fun b hb => ⟨hb.1, Nat.lt_of_lt_of_le hb.2.1 hg.size, fun e => by
      simp only [Value.ownBlock, Option.some.injEq] at e
      rcases hgg with h2 | h2
      · exact hb.2.2 (by rw [h2, e])
      · have := hb.2.1; omega⟩)
  refine ⟨_, h', fun i hi => ?_⟩
  rcases Nat.lt_succ_iff_lt_or_eq.1 hi with hi | rfl
  · obtain ⟨h2, e2, h3, h4⟩ := h1 i hi
    refine ⟨?_, e2, fun j v hj => getD_app_l (h3 j v hj), hst h4⟩
    cases mem with
    | true => exact ⟨getD_app_l h2.1, h2.2⟩
    | false => exact h2
  · refine ⟨?_, e, fun j v hj => ?_, hst hc⟩
    · cases mem with
      | true => refine ⟨?_, hkey⟩; rw [← hl, show cs.length = cs.length + 0 from rfl, getD_app_r]; rfl
      | false => exact hkey
    · rw [← hl, Nat.add_assoc, getD_app_r]
      cases mem with
      | true => rw [show kwM true = 1 from rfl, Nat.add_comm]; exact hj
      | false => rw [show kwM false = 0 from rfl, Nat.zero_add]; exact hj
theorem RowJ.done (h : RowJ base mem w L t t.ext) (he : t.ext ≤ 140737488355328) : ∃ (A : Option Addr) (c : Nat), L = .slice A t.ext c ∧ Room t.ext c t.ext ∧ JSl (fun b => base ≤ b ∧ b < w.heap.size) w mem A t := by
  obtain ⟨cs, h0, h1⟩ := h
  rcases h0.2 with ⟨rfl, hn⟩ | ⟨g, cap, cur, rfl, hb, hh, hnc, hmx, hs, ht⟩
  · refine ⟨none, 0, by rw [hn], ⟨rfl, by omega, he⟩, .inl ?_⟩
    cases t with
    | nil => rfl
    | cons => simp [JT.ext] at hn
  · refine ⟨_, cap, rfl, ⟨rfl, hnc, he⟩, .inr ⟨g, 0, rfl, ⟨hb, (Array.getElem?_eq_some_iff.1 hh).1⟩, JIn.of t mem g 0 (fun i hi => ?_)⟩⟩
    have hc : ∀ (k : Nat) (u : Value), cs[k]? = some u → w.cell? ⟨g, k, none⟩ = some u := fun k u hu => by
      rw [cell_of_row _ _ _ _ _ _ hh]
      rw [← ht] at hu
      simp only [List.getElem?_take] at hu
      split at hu
      · simpa using hu
      · cases hu
    obtain ⟨h2, e, h3, h4⟩ := h1 i hi
    refine ⟨?_, e, fun j v hj => ?_, h4.stay (fun _ _ _ => rfl) (fun b hb => ⟨hb.1, hb.2.1⟩)⟩
    · cases mem with
      | true => exact ⟨by rw [Nat.zero_add]; exact hc _ _ h2.1, h2.2⟩
      | false => exact h2
    · rw [Nat.zero_add]; exact hc _ _ (h3 j v hj)
end
/-- 'append(own, one element)'. -/
theorem wp_append_row {o : Oper} {a : Act} {K : Act → World → Prop} {Q : Exit → Act → World → Prop} {W : World} (mem : Bool) (s x : Operand)
    (ho : o.op = .call { callee := .builtin .append, args := #[s, x], argTypes := #[tsM mem, tsM mem] })
    (base H : Nat) (L : Value) (t : JT) (k : Nat) (hs : a.eval s = L) (hrow : RowJ base mem W L t k) (hk : k ≤ 1000000) (hbH : base ≤ H) (hHL : ∀ b, L.ownBlock = some b → b < H) (hHW : H ≤ W.heap.size)
    (B : Nat) (e : List Value) (hkey : if mem then (t.fall k).key.length ≤ 140737488355328 else (t.fall k).key = [])
    (hx : a.eval x = .slice (some ⟨B, 0, none⟩) 1 1) (hB : Blk W B (tyM mem) (newC mem (t.fall k).key e)) (hc : JCs (fun b => H ≤ b ∧ b < W.heap.size) W e (t.fall k).val)
    (h : ∀ A c w', RowJ base mem w' (.slice A (k + 1) c) t (k + 1) → W.grownBy w' L.ownBlock → K (a.put o.dst (.slice A (k + 1) c)) w') : o.wp Tryd.prog a W K Q := by
  obtain ⟨i, z, hi, hz, hsz, hby, hzs⟩ := info_row mem
  obtain ⟨cs, hown, h1⟩ := hrow
  have h6 : e.length = 6 := by obtain ⟨A, nl, cl, B, nm, cm, rfl, _⟩ := hc; rfl
  have h1c : ∀ u ∈ newC mem (t.fall k).key e, u.oneCell' = true := by
    obtain ⟨A, nl, cl, B, nm, cm, rfl, _⟩ := hc
    intro u hu
    cases mem with
    | true =>
      simp only [newC, if_true, List.mem_cons, List.not_mem_nil, or_false] at hu
      rcases hu with rfl | rfl | rfl | rfl | rfl | rfl | rfl <;> rfl
    | false =>
      simp only [newC, Bool.false_eq_true, if_false, List.mem_cons, List.not_mem_nil, or_false] at hu
      rcases hu with rfl | rfl | rfl | rfl | rfl | rfl <;> rfl
  have hnl : (newC mem (t.fall k).key e).length = 1 * stM mem := by
    cases mem with
    | true => simp [newC, h6, stM, kwM]
    | false => simp [newC, h6, stM, kwM]
  have hb : (k + 1) * i.bytes ≤ 140737488355328 := by
    rw [hby]
    cases mem with
    | true => simp only [if_true]; omega
    | false => simp only [Bool.false_eq_true, if_false]; omega
  refine wp_append_lies W s x (tsM mem) ho base (tyM mem) i z (stM mem) i.bytes (under_row mem) hi hz hsz rfl hzs (by cases mem <;> decide) L k cs hs hown ⟨B, 0, none⟩ 1 1 (newC mem (t.fall k).key e) hx hnl ?_ h1c (by decide) (Nat.le_trans (show k + 1 ≤ 1000001 by omega) (by decide)) hb (Nat.le_trans hbH hHW) _ rfl ?_
  · intro j u hj
    have hplain : (⟨B, 0, none⟩ : Addr).add j = ⟨B, j, none⟩ := by unfold Addr.add; split <;> simp_all
    rw [hplain]
    exact hB.cell hj
  · intro g cap w' h2 h3 h4 _
    exact h _ cap w' (RowJ.app h1 hown.1 h3 h4 e hkey h2 (hc.stay (fun _ _ _ => rfl) (fun b hb => ⟨Nat.le_trans hbH hb.1, hb.2, fun e => by have := hHL b e; have := hb.1; omega⟩))) h3
/-- .. in a list of operations, the element just built. -/
theorem wpList_append_row {ops : Array Oper} {rest : List Oper} {o : Oper} {a : Act} {Q : Exit → Act → World → Prop} {W : World} (mem : Bool) (hgd : o.guard = none) (s x : Operand)
    (ho : o.op = .call { callee := .builtin .append, args := #[s, x], argTypes := #[tsM mem, tsM mem] })
    (base H : Nat) (L : Value) (t : JT) (k : Nat) (hs : a.eval s = L) (hrow : RowJ base mem W L t k) (hk : k ≤ 1000000) (hbH : base ≤ H) (hHL : ∀ b, L.ownBlock = some b → b < H) (hHW : H ≤ W.heap.size)
    (e : List Value) (hkey : if mem then (t.fall k).key.length ≤ 140737488355328 else (t.fall k).key = []) (C : Array Value) (T : TypeId) (hT : T = tyM mem) (hC : C = (newC mem (t.fall k).key e).toArray)
    (hx : a.eval x = .slice (some ⟨W.heap.size, 0, none⟩) 1 1) (hc : JCs (fun b => H ≤ b ∧ b < W.heap.size) W e (t.fall k).val)
    (h : ∀ A c w', RowJ base mem w' (.slice A (k + 1) c) t (k + 1) → W.grownBy w' L.ownBlock → wpList Tryd.prog ops Q rest (a.put o.dst (.slice A (k + 1) c)) w') :
    wpList Tryd.prog ops Q (o :: rest) a (W.alloc (.cells C T)) := by
  subst hT hC
  refine wpList_plain hgd fun K hK => wp_append_row mem s x ho base H L t k hs (hrow.alloc _) hk hbH hHL (by simp; omega) W.heap.size e hkey hx (Blk.new W _ _) ?_ ?_
  · exact hc.stay (fun b o hb => ((Below.refl _ _).alloc (Nat.le_refl _) _ : Below W.heap.size W _).cell (p := ⟨b, o, none⟩) hb.2) (fun b hb => ⟨hb.1, by simp; omega⟩)
  · intro A c w' h1 h2
    exact hK _ _ (h A c w' h1 ⟨h2.os, h2.tape, h2.output, Nat.le_trans (by simp) h2.size, fun k hk hne => (h2.block k (by simp; omega) hne).trans (heap_alloc_old W _ hk)⟩)
/-- .. at a step of a region that draws its order. -/
theorem step_append_row {ops : Array Oper} {o : Oper} {a : Act} {K : Act → World → Prop} {Q : Exit → Act → World → Prop} {E : Prop} {W : World} (mem : Bool) (hgd : o.guard = none) (s x : Operand)
    (ho : o.op = .call { callee := .builtin .append, args := #[s, x], argTypes := #[tsM mem, tsM mem] })
    (w0 w6 : World) (hb6 : Below w6.heap.size w6 W) (H : Nat) (L : Value) (t : JT) (k : Nat) (hs : a.eval s = L) (hrow : RowJ w0.heap.size mem w6 L t k) (hb0 : Below w0.heap.size w0 w6) (hk : k ≤ 1000000) (hbH : w0.heap.size ≤ H) (hHL : ∀ b, L.ownBlock = some b → b < H) (hHW : H ≤ w6.heap.size)
    (e : List Value) (hkey : if mem then (t.fall k).key.length ≤ 140737488355328 else (t.fall k).key = []) (B : Nat)
    (hx : a.eval x = .slice (some ⟨B, 0, none⟩) 1 1) (hB : Blk W B (tyM mem) (newC mem (t.fall k).key e)) (hc : JCs (fun b => H ≤ b ∧ b < w6.heap.size) w6 e (t.fall k).val)
    (h : ∀ A c w', RowJ w0.heap.size mem w' (.slice A (k + 1) c) t (k + 1) → Below w0.heap.size w0 w' → (∀ b, b < w6.heap.size → L.ownBlock ≠ some b → w'.heap[b]? = w6.heap[b]?) → K (a.put o.dst (.slice A (k + 1) c)) w') :
    if Region.wanted o (yielded ops a.tmps) = true then Oper.wp Tryd.prog o a W K Q else E := by
  have hw : Region.wanted o (yielded ops a.tmps) = true := by simp [Region.wanted, hgd]
  rw [if_pos hw]
  refine wp_append_row mem s x ho w0.heap.size H L t k hs (hrow.below hb6) hk hbH hHL (Nat.le_trans hHW hb6.size) B e hkey hx hB ?_ ?_
  · exact hc.stay (fun b o hb => hb6.cell (p := ⟨b, o, none⟩) hb.2) (fun b hb => ⟨hb.1, Nat.lt_of_lt_of_le hb.2 hb6.size⟩)
  · intro A c w' h1 h2
    exact h A c w' h1 (RowJ.grown (hb0.then_ hb6) (hrow.below hb6) h2 (Nat.le_trans hb0.size hb6.size)) (fun b hb hne => (h2.block b (Nat.lt_of_lt_of_le hb hb6.size) (fun e => hne e.symm)).trans (hb6.block b hb))
/-- A value whose parts lie in blocks from lo on. -/
def VNew (lo : Nat) (w : World) (v : Jv) (A B : Option Addr) (nl cl nm cm : Nat) : Prop :=
  Room nl cl v.l.ext ∧ Room nm cm v.m.ext ∧ JSl (fun b => lo ≤ b ∧ b < w.heap.size) w false A v.l ∧ JSl (fun b => lo ≤ b ∧ b < w.heap.size) w true B v.m ∧ Fit v.kd v.n v.s
theorem VNew.ok {lo : Nat} {w : World} {v : Jv} {A B : Option Addr} {nl cl nm cm : Nat} (h : VNew lo w v A B nl cl nm cm) : VOk w v A B nl cl nm cm :=
  ⟨h.1, h.2.1, h.2.2.1.stay (fun _ _ _ => rfl) (fun _ hb => hb.2), h.2.2.2.1.stay (fun _ _ _ => rfl) (fun _ hb => hb.2), h.2.2.2.2⟩
theorem VNew.cs {lo : Nat} {w : World} {v : Jv} {A B : Option Addr} {nl cl nm cm : Nat} (h : VNew lo w v A B nl cl nm cm) :
    JCs (fun b => lo ≤ b ∧ b < w.heap.size) w [.int .i64 v.kd, .bool v.is, .int .i64 v.n, strV v.s, .slice A nl cl, .slice B nm cm] v := ⟨A, nl, cl, B, nm, cm, rfl, h.1, h.2.1, h.2.2.1, h.2.2.2.1, h.2.2.2.2⟩
end Go.Proofs.YtpleminoiodmgaaDoor
