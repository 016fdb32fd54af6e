/- Layer 16: pairs sorted; what an event that is no member's needs. -/
import Derived.Test.YtpleminoiodmgaaPkB
import Derived.Shelf.SlSortCmp.NoneTotal
namespace Go.Proofs.Ytpleminoiodmgaa
open Go.ChangeShapes Go.WideShapes Go.ChangeAt Go.RowKit Go.IntWalk
set_option linter.unusedVariables false
set_option maxRecDepth 100000

def encP (p : Pr) : List Value := [strV p.1, strV p.2]
theorem compare_grow (p q : Pr) (w : World) : Calls Try.prog 20 #[prV p, prV q] w fun e w' => e = .returned (.int .i64 (cmpP p q)) ∧ ∃ n os, w' = Go.Sort.grow (w.drewN n) os := by
  obtain ⟨a, b⟩ := p
  obtain ⟨c, d⟩ := q
  unfold prV
  dsimp only
  by_cases h0 : Lib.compareBytes a c = 0
  · have HC : Hid (cmpP (a, b) (c, d) = Lib.compareBytes b d) := Lib.hid (if_pos h0)
    go_enter Try.func20, Try.ntmps20
    go_wp2_with fail
    refine (Try.strings_Compare _ _ _).mono ?_
    rintro e w1 ⟨rfl, rfl⟩
    simp only [str_data, h0]
    go_wp2_with fail
    refine (Try.strings_Compare _ _ _).mono ?_
    rintro e w1 ⟨rfl, rfl⟩
    go_wp2_with fail
    go_ret
    exact ⟨by rw [HC.out]; rfl, 0, _, by rw [Go.Sort.alloc_eq_grow, Go.Sort.alloc_eq_grow, Go.Sort.grow_grow]; rfl⟩
  · have HC : Hid (cmpP (a, b) (c, d) = Lib.compareBytes a c) := Lib.hid (if_neg h0)
    obtain ⟨z, hz⟩ : ∃ z, Lib.compareBytes a c = z := ⟨_, rfl⟩
    rw [hz] at HC h0
    have ht : (z != 0) = true := by simpa using h0
    have HZ := Lib.hid hz
    clear hz h0
    go_enter Try.func20, Try.ntmps20
    go_wp2_with fail
    refine (Try.strings_Compare _ _ _).mono ?_
    rintro e w1 ⟨rfl, rfl⟩
    simp only [str_data, HZ.out]
    go_wp2_with fail
    go_ret
    exact ⟨by rw [HC.out]; rfl, 0, _, by rw [Go.Sort.alloc_eq_grow, Go.Sort.alloc_eq_grow, Go.Sort.grow_grow]; rfl⟩
theorem lt_cmpP (x y : Pr) : ltOf cmpP x y = decide (cmpP x y = -1) := by
  unfold ltOf
  rcases cmpP_three x y with h | h | h <;> rw [h] <;> rfl
theorem swoP : Go.Sort.SWO (ltOf cmpP) where
  irrefl x := by rw [lt_cmpP, cmpP_self]; rfl
  trans x y z h1 h2 := by
    rw [lt_cmpP, decide_eq_true_eq] at *
    exact cmpP_trans h1 h2
  ntrans x y z h1 h2 := by
    rw [lt_cmpP, decide_eq_false_iff_not] at *
    intro h3
    rcases cmpP_three x y with h | h | h
    · exact h1 h
    · have := cmpP_eq h; subst this; exact h2 h3
    · have h4 : cmpP y x = -1 := by rw [cmpP_anti, h]
      exact h2 (cmpP_trans h4 h3)
theorem totP (x y : Pr) (h1 : ltOf cmpP x y = false) (h2 : ltOf cmpP y x = false) : x = y := by
  rw [lt_cmpP, decide_eq_false_iff_not] at *
  rcases cmpP_three x y with h | h | h
  · exact absurd h h1
  · exact cmpP_eq h
  · exact absurd (by rw [cmpP_anti, h]) h2
/-- Pairs in their order. -/
def sortP (l : List Pr) : List Pr := l.mergeSort fun x y => !ltOf cmpP y x
theorem leP_trans (a b c : Pr) (h1 : (!ltOf cmpP b a) = true) (h2 : (!ltOf cmpP c b) = true) : (!ltOf cmpP c a) = true := by
  rw [Bool.not_eq_true'] at *
  exact swoP.ntrans c b a h2 h1
theorem leP_total (a b : Pr) : ((!ltOf cmpP b a) || (!ltOf cmpP a b)) = true := by
  rw [lt_cmpP, lt_cmpP]
  rcases cmpP_three a b with h | h | h
  · rw [h, cmpP_anti, h]; rfl
  · rw [h, cmpP_anti, h]; rfl
  · rw [h, cmpP_anti, h]; rfl
theorem sortP_eq {l m : List Pr} (hp : l.Perm m) (hs : m.Pairwise fun x y => (!ltOf cmpP y x) = true) : sortP l = m := by
  unfold sortP
  refine List.Perm.eq_of_pairwise (le := fun x y => (!ltOf cmpP y x) = true) (fun a b _ _ h1 h2 => ?_) (List.pairwise_mergeSort leP_trans leP_total l) hs ((List.mergeSort_perm l _).trans hp)
  rw [Bool.not_eq_true'] at h1 h2
  exact totP a b h2 h1
theorem sortW_below {enc : Pr → List Value} {k : Nat} {w : World} {blk off n : Nat} {d : Array Pr} {os : Array Obj} {B : Nat} (h : B ≤ blk) (h2 : blk < w.heap.size) : Below B w (sortWorldK enc k w blk off n d os) := by
  refine ⟨rfl, rfl, rfl, ?_, fun i hi => ?_⟩
  · simp [sortWorldK, Go.Sort.grow, Go.Sort.putRowK, Go.Sort.putRow, Go.Sort.mapBlock, Go.Sort.ahead]
  · unfold sortWorldK Go.Sort.grow Go.Sort.putRowK Go.Sort.putRow Go.Sort.mapBlock Go.Sort.ahead
    show (w.heap.modify blk _ ++ os)[i]? = w.heap[i]?
    by_cases hw : i < w.heap.size
    · rw [Array.getElem?_append_left (by simpa using hw), Array.getElem?_modify, if_neg (by omega)]
    · omega
/-- slices.SortFunc at pairs. -/
theorem sortP_calls (g cap : Nat) (d : Array Pr) (w : World) (hH : Go.Sort.HoldsK encP 2 w g 0 d) (hg : g < w.heap.size) (hd : d.size ≤ 1000000) :
    Calls Try.prog 29 #[.slice (some ⟨g, 0, none⟩) d.size cap, .func (.func 20) #[] #[]] w fun e w' =>
      e = .returned (.tuple #[]) ∧ ∃ n os, w' = sortWorldK encP 2 w g 0 n (sortP d.toList).toArray os :=
  AnyQ.slices_SortFunc_total Try.sortPr 2 Try.isAgg28 Try.sizeOf28 encP (fun _ => rfl) (fun x v hv => by
      simp only [encP, List.mem_cons, List.not_mem_nil, or_false] at hv
      rcases hv with rfl | rfl <;> rfl) cmpP swoP 20 #[] g 0 cap d w (enters_of Try.func20 (by kernel_rfl) rfl)
    (fun m os dk _ x y => (compare_grow x y _)) hH hg (by omega) totP
/-- .. what lies there behind it. -/
theorem sortP_holds {g n : Nat} {d : Array Pr} {w : World} {os : Array Obj} (hH : Go.Sort.HoldsK encP 2 w g 0 d) (hg : g < w.heap.size) : Go.Sort.HoldsK encP 2 (sortWorldK encP 2 w g 0 n (sortP d.toList).toArray os) g 0 (sortP d.toList).toArray :=
  holdsK_sortWorldK_c encP 2 w g 0 d _ n os hH hg (by simp [sortP])
end Go.Proofs.Ytpleminoiodmgaa
