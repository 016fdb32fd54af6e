/- Layer 16: slices.Insert of one slot, walked. -/
import Derived.Test.YtpleminoiodmgaaPkJ
import Derived.Lib.Overlaps
import Derived.Lib.AppendZeros
import Derived.Lib.AppendZerosOnto
import Derived.Laws.Externs
import Derived.Laws.CopyRow
import Derived.Shelf.Spec.SlicesInsert
namespace Go.Proofs.Ytpleminoiodmgaa
open Go.ChangeShapes Go.WideShapes Go.ChangeAt Go.RowKit Go.IntWalk
set_option linter.unusedVariables false

theorem run_copy_slots (W : World) (ty : TypeId) (g off dLen dCap : Nat) (ad : Addr) (sLen sCap : Nat) (ys : List Slt) (cur : List Value) (t : TypeId) (hg : Blk W g t cur) (hn : ys.length = Nat.min sLen dLen)
    (hsrc : ∀ j v, (slC ys)[j]? = some v → W.cell? (ad.add j) = some v) (hfit : off + ys.length * 3 ≤ cur.length) :
    (Builtin.copy_ #[22, 22] ty #[.slice (some ⟨g, off, none⟩) dLen dCap, .slice (some ad) sLen sCap]).run Try.prog W =
      .ok (goInt ys.length) (W.setRow g (cur.take off ++ slC ys ++ cur.drop (off + ys.length * 3)).toArray) := by
  obtain ⟨i0, hi, hz0, hz1, hz2⟩ := info_parts info_slot
  have hl := run_firstCells_some (P := Try.prog) W 3 ys.length ad sLen sCap (slC ys) (slC_len ys) hsrc
  have hst := run_storeCells_at Try.prog g off t (slC ys) 0 cur.toArray W hg (by rw [slC_len]; simpa using hfit) (slC_one ys)
  simp only [slC_len] at hst
  simp [Builtin.copy_, run_underlying Try.underlying22, Builtin.lenOf, sizeOf, typeInfo, hi, hz1, ← hn, hl, hst]
/-- Behind both copies: in place. -/
theorem ins_room {A B R Y : List Value} {q p : Nat} (hp : A.length = p) (hy : Y.length = q) (hq : q ≤ R.length) :
    let L0 := A ++ (B ++ R)
    let L1 := L0.take (p + q) ++ B ++ L0.drop (p + q + B.length)
    L1.take p ++ Y ++ L1.drop (p + q) = A ++ (Y ++ (B ++ R.drop q)) := by
  intro L0 L1
  have h0 : (L0.take (p + q)).length = p + q := by simp [L0]; omega
  have h1 : L1.take p = A := by
    show ((L0.take (p + q) ++ B) ++ _).take p = A
    rw [List.append_assoc, List.take_append_of_le_length (by omega), List.take_take, Nat.min_eq_left (by omega)]
    show (A ++ _).take p = A
    rw [← hp, List.take_left]
  have h2 : L1.drop (p + q) = B ++ R.drop q := by
    show ((L0.take (p + q) ++ B) ++ _).drop (p + q) = _
    rw [List.append_assoc, List.drop_append, h0, List.drop_of_length_le (by omega), Nat.sub_self]
    show [] ++ (B ++ L0.drop (p + q + B.length)).drop 0 = _
    rw [List.drop_zero, List.nil_append]
    congr 1
    show (A ++ (B ++ R)).drop _ = _
    rw [List.drop_append, List.drop_of_length_le (by omega), List.nil_append, List.drop_append, List.drop_of_length_le (by omega), List.nil_append]
    congr 1; omega
  rw [h1, h2, List.append_assoc]
/-- .. in a new row. -/
theorem ins_grow {A B Z Y : List Value} {q p : Nat} (hp : A.length = p) (hy : Y.length = q) (hz : q + B.length ≤ Z.length) :
    let L0 := A ++ Z
    let L1 := L0.take p ++ Y ++ L0.drop (p + q)
    L1.take (p + q) ++ B ++ L1.drop (p + q + B.length) = A ++ (Y ++ (B ++ Z.drop (q + B.length))) := by
  intro L0 L1
  have e1 : L1 = (A ++ Y) ++ Z.drop q := by
    show L0.take p ++ Y ++ L0.drop (p + q) = _
    show (A ++ Z).take p ++ Y ++ (A ++ Z).drop (p + q) = _
    rw [← hp, List.take_left, List.drop_append, List.drop_of_length_le (by omega), List.nil_append]
    congr 2; omega
  have hl : (A ++ Y).length = p + q := by rw [List.length_append, hp, hy]
  rw [e1, ← hl, List.take_left, List.drop_append, List.drop_of_length_le (by omega), List.nil_append, List.drop_drop, List.append_assoc, List.append_assoc]
  congr 4; omega
set_option maxHeartbeats 4000000 in
set_option maxRecDepth 100000 in
theorem insert_end (base : Nat) (v : Value) (xs : List Slt) (y : Slt) (w : World) (ho : OwnS base w v xs) (hb : base ≤ w.heap.size) (hl : xs.length ≤ 8192) :
    Calls Try.prog 19 #[v, .int .i64 (xs.length : Int), .slice (some ⟨w.heap.size, 0, none⟩) 1 1] (w.alloc (.cells y.cells.toArray 24)) fun e w' => ∃ v', e = .returned v' ∧ OwnS base w' v' (xs ++ [y]) ∧ Below base w w' := by
  have HO := Lib.hid (And.intro ho (And.intro hb hl))
  rcases ho.2 with ⟨rfl, h0⟩ | ⟨g, cap, cur, rfl, hbg, hh, hn, hm, hs, ht⟩
  · have hx0 : xs = [] := List.eq_nil_of_length_eq_zero h0
    subst hx0
    clear ho h0 hl hb
    go_enter Try.func19, Try.ntmps19
    go_wp2_with (at_builtin; refine wpList_append_slot rfl _ _ rfl base _ [] rfl HO.out.1 y _ rfl rfl (by simp) HO.out.2.1 ?_; intro v2 w5 h5 g5)
    have H5 := Lib.hid (And.intro h5 (Below.own_grown (Below.refl base w) HO.out.1 g5 HO.out.2.1))
    clear h5 g5
    go_wp2_with fail
    go_ret
    exact ⟨_, rfl, H5.out.1, H5.out.2⟩
  · obtain ⟨n, hn0⟩ : ∃ n, xs.length = n := ⟨_, rfl⟩
    rw [hn0] at hn hl HO ⊢
    have HN := Lib.hid hn0
    have hcm : cap ≤ 9223372036854775807 := hm
    clear ho hh ht hs hbg hb hn0 hm
    have hci : cap = n ∨ ¬ cap = n := Classical.em _
    rcases hci with hci | hci
    all_goals
      go_enter Try.func19, Try.ntmps19
      go_wp2_with (at_builtin; refine wpList_append_slot rfl _ _ rfl base _ xs rfl HO.out.1 y _ rfl rfl (by rw [HN.out]; have := HO.out.2.2; omega) HO.out.2.1 ?_; intro v2 w5 h5 g5)
      have H5 := Lib.hid (And.intro h5 (Below.own_grown (Below.refl base w) HO.out.1 g5 HO.out.2.1))
      clear h5 g5
      go_wp2_with fail
      go_ret
      exact ⟨_, rfl, H5.out.1, H5.out.2⟩
end Go.Proofs.Ytpleminoiodmgaa
