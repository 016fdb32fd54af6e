/- Texts put together: JfD JgD JgI JkW PwA. -/
import Derived.Test.YtajkgcmopmpihaaGreatDoorYd41d29a73a
import Derived.Lib.Overlaps
import Derived.Lib.AppendZeros
import Derived.Lib.AppendZerosOnto
import Derived.Laws.Externs
import Derived.Laws.CopyRow
import Derived.Shelf.Spec.SlicesInsert
import Derived.Test.YtajkgcmopmpihaaGreatDoorYbc60d53a70
import Derived.Test.YtajkgcmopmpihaaGreatDoorYcc66149044
import Derived.Test.YtajkgcmopmpihaaGreatDoorY1a8cd4bbf6
namespace Go.Proofs.YtajkgcmopmpihaaGreatDoor
open Go.ChangeShapes Go.WideShapes Go.ChangeAt Go.RowKit Go.IntWalk
set_option linter.unusedVariables false
set_option maxRecDepth 100000
def FrPost (a : Jv) (w : World) (e : Ending) (w' : World) : Prop :=
  (∃ (A B : Option Addr) (nl cl nm cm : Nat), e = .returned (.agg #[.int .i64 a.kd, .bool a.is, .int .i64 a.n, .string ⟨a.s.toArray⟩, .slice A nl cl, .slice B nm cm]) ∧ VNew w.heap.size w' a A B nl cl nm cm) ∧ Below w.heap.size w w'
theorem VOk.bel {w : World} {v : Jv} {A B : Option Addr} {nl cl nm cm : Nat} (h : VOk w v A B nl cl nm cm) : VBel w.heap.size w v A B nl cl nm cm := h
theorem Bx.below {pc : Nat} {a w w' : World} (h0 : Below a.heap.size a w) (h : Bx w.heap.size pc w w') (hp : a.heap.size ≤ pc) : Below a.heap.size a w' :=
  ⟨h.os.trans h0.os, h.tape.trans h0.tape, h.output.trans h0.output, Nat.le_trans h0.size h.size, fun k hk => (h.block k (Nat.lt_of_lt_of_le hk h0.size) (by omega)).trans (h0.block k hk)⟩
set_option maxHeartbeats 4000000 in
theorem fresh_calls (a : Jv) (A0 B0 : Option Addr) (nl0 cl0 nm0 cm0 : Nat) (w : World) (hv : VOk w a A0 B0 nl0 cl0 nm0 cm0) (hb : a.bulk ≤ 50000) : Calls Tryz.prog 34 #[.agg #[.int .i64 a.kd, .bool a.is, .int .i64 a.n, .string ⟨a.s.toArray⟩, .slice A0 nl0 cl0, .slice B0 nm0 cm0]] w (FrPost a w) := by
  have b3 : Below w.heap.size w (((w.alloc (.cells #[.int .i64 a.kd, .bool a.is, .int .i64 a.n, .string ⟨a.s.toArray⟩, .slice A0 nl0 cl0, .slice B0 nm0 cm0] 25)).alloc (.cells #[.int .i64 0, .bool false, .int .i64 0, .string ⟨#[]⟩, .slice none 0 0, .slice none 0 0] 25)).alloc (.cells #[.int .i64 1048576] 87)) := (((Below.refl _ _).alloc (Nat.le_refl _) _).alloc (by simp) _).alloc (by simp; omega) _
  have hsz : ((w.alloc (.cells #[.int .i64 a.kd, .bool a.is, .int .i64 a.n, .string ⟨a.s.toArray⟩, .slice A0 nl0 cl0, .slice B0 nm0 cm0] 25)).alloc (.cells #[.int .i64 0, .bool false, .int .i64 0, .string ⟨#[]⟩, .slice none 0 0, .slice none 0 0] 25)).heap.size = w.heap.size + 2 := by simp
  have hp : Blk (((w.alloc (.cells #[.int .i64 a.kd, .bool a.is, .int .i64 a.n, .string ⟨a.s.toArray⟩, .slice A0 nl0 cl0, .slice B0 nm0 cm0] 25)).alloc (.cells #[.int .i64 0, .bool false, .int .i64 0, .string ⟨#[]⟩, .slice none 0 0, .slice none 0 0] 25)).alloc (.cells #[.int .i64 1048576] 87)) (w.heap.size + 2) 87 [.int .i64 1048576] := by have h := Blk.new ((w.alloc (.cells #[.int .i64 a.kd, .bool a.is, .int .i64 a.n, .string ⟨a.s.toArray⟩, .slice A0 nl0 cl0, .slice B0 nm0 cm0] 25)).alloc (.cells #[.int .i64 0, .bool false, .int .i64 0, .string ⟨#[]⟩, .slice none 0 0, .slice none 0 0] 25)) [.int .i64 1048576] 87; rw [hsz] at h; exact h
  have hx : Blk (((w.alloc (.cells #[.int .i64 a.kd, .bool a.is, .int .i64 a.n, .string ⟨a.s.toArray⟩, .slice A0 nl0 cl0, .slice B0 nm0 cm0] 25)).alloc (.cells #[.int .i64 0, .bool false, .int .i64 0, .string ⟨#[]⟩, .slice none 0 0, .slice none 0 0] 25)).alloc (.cells #[.int .i64 1048576] 87)) w.heap.size 25 [.int .i64 a.kd, .bool a.is, .int .i64 a.n, .string ⟨a.s.toArray⟩, .slice A0 nl0 cl0, .slice B0 nm0 cm0] := ((Blk.new w [.int .i64 a.kd, .bool a.is, .int .i64 a.n, .string ⟨a.s.toArray⟩, .slice A0 nl0 cl0, .slice B0 nm0 cm0] 25).alloc _).alloc _
  have hz : Blk (((w.alloc (.cells #[.int .i64 a.kd, .bool a.is, .int .i64 a.n, .string ⟨a.s.toArray⟩, .slice A0 nl0 cl0, .slice B0 nm0 cm0] 25)).alloc (.cells #[.int .i64 0, .bool false, .int .i64 0, .string ⟨#[]⟩, .slice none 0 0, .slice none 0 0] 25)).alloc (.cells #[.int .i64 1048576] 87)) (w.heap.size + 1) 25 [.int .i64 0, .bool false, .int .i64 0, .string ⟨#[]⟩, .slice none 0 0, .slice none 0 0] := by
    have h := Blk.new (w.alloc (.cells #[.int .i64 a.kd, .bool a.is, .int .i64 a.n, .string ⟨a.s.toArray⟩, .slice A0 nl0 cl0, .slice B0 nm0 cm0] 25)) [.int .i64 0, .bool false, .int .i64 0, .string ⟨#[]⟩, .slice none 0 0, .slice none 0 0] 25
    rw [show (w.alloc (.cells #[.int .i64 a.kd, .bool a.is, .int .i64 a.n, .string ⟨a.s.toArray⟩, .slice A0 nl0 cl0, .slice B0 nm0 cm0] 25)).heap.size = w.heap.size + 1 by simp] at h
    exact h.alloc _
  have hv3 := hv.below b3
  have hvb : VBel w.heap.size (((w.alloc (.cells #[.int .i64 a.kd, .bool a.is, .int .i64 a.n, .string ⟨a.s.toArray⟩, .slice A0 nl0 cl0, .slice B0 nm0 cm0] 25)).alloc (.cells #[.int .i64 0, .bool false, .int .i64 0, .string ⟨#[]⟩, .slice none 0 0, .slice none 0 0] 25)).alloc (.cells #[.int .i64 1048576] 87)) a A0 B0 nl0 cl0 nm0 cm0 := ⟨hv.1, hv.2.1, hv.2.2.1.stay (fun b o h => b3.cell (p := ⟨b, o, none⟩) h) (fun _ h => h), hv.2.2.2.1.stay (fun b o h => b3.cell (p := ⟨b, o, none⟩) h) (fun _ h => h), hv.2.2.2.2⟩
  have HC := Lib.hid (show Calls Tryz.prog 55 #[.pointer (some ⟨w.heap.size + 2, 0, none⟩), .agg #[.int .i64 a.kd, .bool a.is, .int .i64 a.n, .string ⟨a.s.toArray⟩, .slice A0 nl0 cl0, .slice B0 nm0 cm0], .int .i64 0] (((w.alloc (.cells #[.int .i64 a.kd, .bool a.is, .int .i64 a.n, .string ⟨a.s.toArray⟩, .slice A0 nl0 cl0, .slice B0 nm0 cm0] 25)).alloc (.cells #[.int .i64 0, .bool false, .int .i64 0, .string ⟨#[]⟩, .slice none 0 0, .slice none 0 0] 25)).alloc (.cells #[.int .i64 1048576] 87)) (FvPost a (w.heap.size + 2) 0 (((w.alloc (.cells #[.int .i64 a.kd, .bool a.is, .int .i64 a.n, .string ⟨a.s.toArray⟩, .slice A0 nl0 cl0, .slice B0 nm0 cm0] 25)).alloc (.cells #[.int .i64 0, .bool false, .int .i64 0, .string ⟨#[]⟩, .slice none 0 0, .slice none 0 0] 25)).alloc (.cells #[.int .i64 1048576] 87))) from
    fval_calls a.bulk a A0 B0 nl0 cl0 nm0 cm0 (w.heap.size + 2) 1048576 0 0 w.heap.size (((w.alloc (.cells #[.int .i64 a.kd, .bool a.is, .int .i64 a.n, .string ⟨a.s.toArray⟩, .slice A0 nl0 cl0, .slice B0 nm0 cm0] 25)).alloc (.cells #[.int .i64 0, .bool false, .int .i64 0, .string ⟨#[]⟩, .slice none 0 0, .slice none 0 0] 25)).alloc (.cells #[.int .i64 1048576] 87)) (Nat.le_refl _) (by omega) (by omega) hp.lt hp (by unfold Jv.bulk at hb; omega) (Nat.le_refl _) hvb)
  have HB := Lib.hid b3
  have HZ := Lib.hid hz
  obtain ⟨d0, d1, d2, d3, d4, d5, _⟩ := cells6s hx
  clear b3 hsz hp hx hz hv3 hvb hv hb
  go_enter Tryz.func34, Tryz.ntmps34
  go_wp2_with fail
  refine HC.out.mono ?_
  rintro e w4 ⟨⟨A, B, nl, cl, nm, cm, rfl, hn⟩, _, hbx⟩
  have hz4 := hbx.blk HZ.out HZ.out.lt (by omega)
  have HN := Lib.hid (And.intro hn (And.intro (Bx.below HB.out hbx (by omega)) hz4))
  obtain ⟨g0, g1, g2, g3, g4, g5, k0, k1, k2, k3, k4, k5⟩ := cells6s hz4
  have HW3 := Lib.hid (show w.heap.size + 2 ≤ (((w.alloc (.cells #[.int .i64 a.kd, .bool a.is, .int .i64 a.n, .string ⟨a.s.toArray⟩, .slice A0 nl0 cl0, .slice B0 nm0 cm0] 25)).alloc (.cells #[.int .i64 0, .bool false, .int .i64 0, .string ⟨#[]⟩, .slice none 0 0, .slice none 0 0] 25)).alloc (.cells #[.int .i64 1048576] 87)).heap.size by simp)
  clear hn hbx hz4 d0 d1 d2 d3 d4 d5
  go_wp2_with fail
  refine bodyPost_ret (res_cell6 rfl _ ⟨w.heap.size + 1, 0, none⟩ _ _ rfl (Blk.load (blk6o (o := 0) HN.out.2.2) _ Tryz.underlying25 rfl size_v6)) rfl ⟨⟨A, B, nl, cl, nm, cm, rfl, HN.out.1.1, HN.out.1.2.1, HN.out.1.2.2.1.stay (fun b o hb => cell6o (o := 0) (by have := hb.1; have := HW3.out; omega)) (fun b hb => ⟨by have := hb.1; have := HW3.out; omega, ?_⟩), HN.out.1.2.2.2.1.stay (fun b o hb => cell6o (o := 0) (by have := hb.1; have := HW3.out; omega)) (fun b hb => ⟨by have := hb.1; have := HW3.out; omega, ?_⟩), HN.out.1.2.2.2.2⟩, ?_⟩
  · show b < (set6o w4 (w.heap.size + 1) 0 _ _ _ _ _ _).heap.size; rw [size6o]; exact hb.2
  · show b < (set6o w4 (w.heap.size + 1) 0 _ _ _ _ _ _).heap.size; rw [size6o]; exact hb.2
  · exact (((((HN.out.2.1.setCell (by show _ ≤ w.heap.size + 1; omega) _).setCell (by show _ ≤ w.heap.size + 1; omega) _).setCell (by show _ ≤ w.heap.size + 1; omega) _).setCell (by show _ ≤ w.heap.size + 1; omega) _).setCell (by show _ ≤ w.heap.size + 1; omega) _).setCell (by show _ ≤ w.heap.size + 1; omega) _
end Go.Proofs.YtajkgcmopmpihaaGreatDoor
namespace Go.Proofs.YtajkgcmopmpihaaGreatDoor
open Go.ChangeShapes Go.WideShapes Go.ChangeAt Go.RowKit Go.IntWalk
set_option linter.unusedVariables false
set_option maxRecDepth 100000
theorem wpList_append_c7 {ops : Array Oper} {rest : List Oper} {o : Oper} {a : Act} {Q : Exit → Act → World → Prop} {w : World} (hgd : o.guard = none) (s x : Operand)
    (ho : o.op = .call { callee := .builtin .append, args := #[s, x], argTypes := #[23, 23] })
    (base : Nat) (v : Value) (n : Nat) (cs : List Value) (hs : a.eval s = v) (hown : w.ownsRow base 44 7 v n cs) (c7 : List Value) (C : Array Value) (hC : C = c7.toArray) (h7 : c7.length = 7) (h1 : ∀ u ∈ c7, u.oneCell' = true)
    (hx : a.eval x = .slice (some ⟨w.heap.size, 0, none⟩) 1 1) (hn : n ≤ 60000) (hbase : base ≤ w.heap.size)
    (h : ∀ g cap w', w'.ownsRow base 44 7 (.slice (some ⟨g, 0, none⟩) (n + 1) cap) (n + 1) (cs ++ c7) → w.grownBy w' v.ownBlock → wpList Tryz.prog ops Q rest (a.put o.dst (.slice (some ⟨g, 0, none⟩) (n + 1) cap)) w') :
    wpList Tryz.prog ops Q (o :: rest) a (w.alloc (.cells C 44)) := by
  subst hC
  obtain ⟨i, hi, hz, hsz, hby⟩ := info_parts info_memD
  have hB := Blk.new w c7 44
  refine wpList_append_lies _ hgd s x 23 ho base 44 i _ 7 104 Tryz.underlying23 hi hz hsz hby rfl (by decide) v n cs hs (World.ownsRow.alloc hown _) ⟨w.heap.size, 0, none⟩ 1 1 c7 hx (by rw [h7]) ?_ h1 (by decide) (Nat.le_trans (show n + 1 ≤ 60001 by omega) (by decide)) (by omega) (by simp; omega) _ rfl ?_
  · intro j u hj
    have hplain : (⟨w.heap.size, 0, none⟩ : Addr).add j = ⟨w.heap.size, j, none⟩ := by unfold Addr.add; split <;> simp_all
    rw [hplain]
    exact hB.cell hj
  · intro g cap w' h2 h3 _ _
    exact h g cap w' h2 ⟨h3.os, h3.tape, h3.output, Nat.le_trans (by simp) h3.size, fun k hk hne => (h3.block k (by simp; omega) hne).trans (heap_alloc_old w _ hk)⟩
set_option maxHeartbeats 4000000 in
theorem insertM_end (base : Nat) (v : Value) (n : Nat) (cs c7 : List Value) (C : Array Value) (hC : C = c7.toArray) (w : World) (ho : w.ownsRow base 44 7 v n cs) (hb : base ≤ w.heap.size) (hl : n ≤ 60000) (h7 : c7.length = 7) (h1 : ∀ u ∈ c7, u.oneCell' = true) :
    Calls Tryz.prog 33 #[v, .int .i64 (n : Int), .slice (some ⟨w.heap.size, 0, none⟩) 1 1] (w.alloc (.cells C 44)) fun e w' =>
      ∃ A c, e = .returned (.slice A (n + 1) c) ∧ w'.ownsRow base 44 7 (.slice A (n + 1) c) (n + 1) (cs ++ c7) ∧ w.grownBy w' v.ownBlock := by
  subst hC
  have HO := Lib.hid (And.intro ho (And.intro hb (And.intro h7 h1)))
  rcases ho.2 with ⟨rfl, h0⟩ | ⟨g, cap, cur, rfl, hbg, hh, hn, hm, hs, ht⟩
  · subst h0
    clear ho hl hb h7 h1
    go_enter Tryz.func33, Tryz.ntmps33
    go_wp2_with (at_builtin; refine wpList_append_c7 rfl _ _ rfl base _ 0 cs rfl HO.out.1 c7 _ rfl HO.out.2.2.1 HO.out.2.2.2 rfl (by decide) HO.out.2.1 ?_; intro g2 cap2 w5 h5 g5)
    have H5 := Lib.hid (And.intro h5 g5)
    clear h5 g5
    go_wp2_with fail
    go_ret
    exact ⟨_, _, rfl, H5.out.1, H5.out.2⟩
  · have hcm : cap ≤ 9223372036854775807 := hm
    clear ho hh ht hs hbg hb hm h7 h1
    have hci : cap = n ∨ ¬ cap = n := Classical.em _
    rcases hci with hci | hci
    all_goals
      go_enter Tryz.func33, Tryz.ntmps33
      go_wp2_with (at_builtin; refine wpList_append_c7 rfl _ _ rfl base _ n cs rfl HO.out.1 c7 _ rfl HO.out.2.2.1 HO.out.2.2.2 rfl hl HO.out.2.1 ?_; intro g2 cap2 w5 h5 g5)
      have H5 := Lib.hid (And.intro h5 g5)
      clear h5 g5
      go_wp2_with fail
      go_ret
      exact ⟨_, _, rfl, H5.out.1, H5.out.2⟩
end Go.Proofs.YtajkgcmopmpihaaGreatDoor
namespace Go.Proofs.YtajkgcmopmpihaaGreatDoor
open Go.ChangeShapes Go.WideShapes Go.ChangeAt Go.RowKit Go.IntWalk Go.Lib
set_option linter.unusedVariables false
theorem add_plain (g k j : Nat) : (⟨g, k, none⟩ : Addr).add j = ⟨g, k + j, none⟩ := by unfold Addr.add; split <;> simp_all
theorem add_plain0 (g j : Nat) : (⟨g, 0, none⟩ : Addr).add j = ⟨g, j, none⟩ := by unfold Addr.add; split <;> simp_all
theorem take_three {α : Type} (A y B C : List α) : (A ++ (y ++ (B ++ C))).take (A ++ (y ++ B)).length = A ++ (y ++ B) := by
  rw [show A ++ (y ++ (B ++ C)) = (A ++ (y ++ B)) ++ C by simp only [List.append_assoc]]; exact List.take_left
theorem run_copy_mb (W : World) (ty : TypeId) (g off dLen dCap : Nat) (ad : Addr) (sLen sCap : Nat) (k : Nat) (ys cur : List Value) (t : TypeId) (hg : Blk W g t cur) (hk : ys.length = k * 7) (h1 : ∀ u ∈ ys, u.oneCell' = true) (hn : k = Nat.min sLen dLen)
    (hsrc : ∀ j v, ys[j]? = some v → W.cell? (ad.add j) = some v) (hfit : off + k * 7 ≤ cur.length) :
    (Builtin.copy_ #[23, 23] ty #[.slice (some ⟨g, off, none⟩) dLen dCap, .slice (some ad) sLen sCap]).run Tryz.prog W =
      .ok (goInt k) (W.setRow g (cur.take off ++ ys ++ cur.drop (off + k * 7)).toArray) := by
  obtain ⟨i0, hi, hz0, hz1, hz2⟩ := info_parts info_memD
  have hl := run_firstCells_some (P := Tryz.prog) W 7 k ad sLen sCap ys hk hsrc
  have hst := run_storeCells_at Tryz.prog g off t ys 0 cur.toArray W hg (by rw [hk]; simpa using hfit) h1
  simp only [hk] at hst
  simp [Builtin.copy_, run_underlying Tryz.underlying23, Builtin.lenOf, sizeOf, typeInfo, hi, hz1, ← hn, hl, hst]
theorem ins_room {A B R Y : List Value} {q p : Nat} (hp : A.length = p) (hy : Y.length = q) (hq : q ≤ R.length) :
    let L0 := A ++ (B ++ R)
    let L1 := L0.take (p + q) ++ B ++ L0.drop (p + q + B.length)
    L1.take p ++ Y ++ L1.drop (p + q) = A ++ (Y ++ (B ++ R.drop q)) := by
  intro L0 L1
  have h0 : (L0.take (p + q)).length = p + q := by simp [L0]; omega
  have h1 : L1.take p = A := by
    show ((L0.take (p + q) ++ B) ++ _).take p = A
    rw [List.append_assoc, List.take_append_of_le_length (by omega), List.take_take, Nat.min_eq_left (by omega)]
    show (A ++ _).take p = A
    rw [← hp, List.take_left]
  have h2 : L1.drop (p + q) = B ++ R.drop q := by
    show ((L0.take (p + q) ++ B) ++ _).drop (p + q) = _
    rw [List.append_assoc, List.drop_append, h0, List.drop_of_length_le (by omega), Nat.sub_self]
    show [] ++ (B ++ L0.drop (p + q + B.length)).drop 0 = _
    rw [List.drop_zero, List.nil_append]
    congr 1
    show (A ++ (B ++ R)).drop _ = _
    rw [List.drop_append, List.drop_of_length_le (by omega), List.nil_append, List.drop_append, List.drop_of_length_le (by omega), List.nil_append]
    congr 1; omega
  rw [h1, h2, List.append_assoc]
theorem ins_grow {A B Z Y : List Value} {q p : Nat} (hp : A.length = p) (hy : Y.length = q) (hz : q + B.length ≤ Z.length) :
    let L0 := A ++ Z
    let L1 := L0.take p ++ Y ++ L0.drop (p + q)
    L1.take (p + q) ++ B ++ L1.drop (p + q + B.length) = A ++ (Y ++ (B ++ Z.drop (q + B.length))) := by
  intro L0 L1
  have e1 : L1 = (A ++ Y) ++ Z.drop q := by
    show L0.take p ++ Y ++ L0.drop (p + q) = _
    show (A ++ Z).take p ++ Y ++ (A ++ Z).drop (p + q) = _
    rw [← hp, List.take_left, List.drop_append, List.drop_of_length_le (by omega), List.nil_append]
    congr 2; omega
  have hl : (A ++ Y).length = p + q := by rw [List.length_append, hp, hy]
  rw [e1, ← hl, List.take_left, List.drop_append, List.drop_of_length_le (by omega), List.nil_append, List.drop_drop, List.append_assoc, List.append_assoc]
  congr 4; omega
theorem blk_setRow {W : World} {g : Nat} {T : TypeId} {cs : List Value} (h : Blk W g T cs) (ds : List Value) : Blk (W.setRow g ds.toArray) g T ds := setRow_heap W g _ _ T _ h
theorem zeroCells7 (z : Array Value) (hz : z.size = 7) (k : Nat) : (Builtin.zeroCells z k).toList.length = k * 7 := by
  simp [Builtin.zeroCells, hz]
set_option maxHeartbeats 4000000 in
set_option maxRecDepth 100000 in
theorem insertM_room (base g cap : Nat) (xs : List Value) (n i : Nat) (y : List Value) (R : List Value) (w : World) (hB : Blk w g 44 (xs ++ R)) (hn : xs.length = n * 7) (hi : i < n) (hc : n + 1 ≤ cap) (hR : (xs ++ R).length = cap * 7) (hcm : cap ≤ 9223372036854775807) (hbg : base ≤ g) (hb : base ≤ w.heap.size) (hl : n ≤ 60000) (h7 : y.length = 7) (hx1 : ∀ u ∈ xs, u.oneCell' = true) (hy1 : ∀ u ∈ y, u.oneCell' = true) :
    Calls Tryz.prog 33 #[.slice (some ⟨g, 0, none⟩) n cap, .int .i64 (i : Int), .slice (some ⟨w.heap.size, 0, none⟩) 1 1] (w.alloc (.cells y.toArray 44)) fun e w' => ∃ v', e = .returned v' ∧ w'.ownsRow base 44 7 v' (n + 1) (xs.take (i * 7) ++ (y ++ xs.drop (i * 7))) ∧ Below base w w' := by
  have hgs : g < w.heap.size := hB.lt
  obtain ⟨W, hW⟩ : ∃ W, W = w.alloc (.cells y.toArray 44) := ⟨_, rfl⟩
  have hBW : Blk W g 44 (xs ++ R) := by rw [hW]; exact hB.alloc _
  have hYW : Blk W w.heap.size 44 y := by rw [hW]; exact Blk.new w _ _
  have hbW : Below base w W := by rw [hW]; exact (Below.refl _ _).alloc hb _
  rw [← hW]
  have hxs : xs = xs.take (i * 7) ++ xs.drop (i * 7) := (List.take_append_drop _ _).symm
  have hRl : R.length = (cap - n) * 7 := by
    rw [List.length_append, hn] at hR
    omega
  have hla : (xs.take (i * 7)).length = i * 7 := by rw [List.length_take]; omega
  have hlb : (xs.drop (i * 7)).length = (n - i) * 7 := by rw [List.length_drop]; omega
  obtain ⟨L1, hL1⟩ : ∃ L1, L1 = (xs ++ R).take ((i + 1) * 7) ++ xs.drop (i * 7) ++ (xs ++ R).drop ((i + 1) * 7 + (n - i) * 7) := ⟨_, rfl⟩
  obtain ⟨L2, hL2⟩ : ∃ L2, L2 = L1.take (i * 7) ++ y ++ L1.drop (i * 7 + 1 * 7) := ⟨_, rfl⟩
  have hL1l : L1.length = cap * 7 := by
    rw [hL1]
    simp only [List.length_append, List.length_take, List.length_drop]
    rw [List.length_append] at hR
    omega
  have hfin : L2 = xs.take (i * 7) ++ (y ++ (xs.drop (i * 7) ++ R.drop 7)) := by
    have h := ins_room (A := xs.take (i * 7)) (B := xs.drop (i * 7)) (R := R) (Y := y) (q := 7) (p := i * 7) hla h7 (by omega)
    rw [← h, hL2, hL1]
    rw [← List.append_assoc (xs.take (i * 7)), List.take_append_drop, hlb, show (i + 1) * 7 = i * 7 + 7 by omega]
  have hov : ∀ lb cb, (callFunc 53 #[.slice (some ⟨w.heap.size, 0, none⟩) 1 1, .slice (some ⟨g, (i + 1) * 7, none⟩) lb cb]).run Tryz.prog W = .ok (.value (.bool false)) W := fun lb cb => by
    rw [run_callFunc_extern Tryz.func53 (by kernel_rfl) (by kernel_rfl) (by kernel_rfl) (e := Extern.SlicesOverlaps.overlaps #[23, 23] #[4]) (by kernel_rfl),
      Lib.run_overlaps_apart W 23 4 44 Tryz.underlying23 7 (fun w => Tryz.sizeOf44 w) ⟨w.heap.size, 0, none⟩ ⟨g, (i + 1) * 7, none⟩ 1 1 lb cb (by show w.heap.size ≠ g; omega) 44 44 7 (cap * 7) (by unfold World.shape?; rw [show W.heap[(⟨w.heap.size, 0, none⟩ : Addr).block]? = _ from hYW]; simp only [List.size_toArray]; rw [h7]) (by unfold World.shape?; rw [show W.heap[(⟨g, (i + 1) * 7, none⟩ : Addr).block]? = _ from hBW]; simp only [List.size_toArray]; rw [hR]) (by omega) (hYW.frozen _) (hYW.frozen _)]
    rfl
  have hcp1 : ∀ ty dc sc, (Builtin.copy_ #[23, 23] ty #[.slice (some ⟨g, (i + 1) * 7, none⟩) (n - i) dc, .slice (some ⟨g, i * 7, none⟩) (n + 1 - i) sc]).run Tryz.prog W.drew = .ok (goInt ((n - i : Nat) : Int)) (W.drew.setRow g L1.toArray) := fun ty dc sc => by
    rw [hL1]
    exact run_copy_mb W.drew ty g ((i + 1) * 7) (n - i) dc ⟨g, i * 7, none⟩ (n + 1 - i) sc (n - i) (xs.drop (i * 7)) (xs ++ R) 44 hBW hlb (fun u hu => hx1 u (List.mem_of_mem_drop hu)) (by simp only [Nat.min_def]; split <;> omega)
      (fun j v hj => by
        have hplain : (⟨g, i * 7, none⟩ : Addr).add j = ⟨g, i * 7 + j, none⟩ := add_plain ..
        rw [hplain]
        refine Blk.cell (w := W) hBW ?_
        rw [hxs, List.append_assoc, List.getElem?_append_right (by rw [hla]; omega), hla, show i * 7 + j - i * 7 = j by omega]
        have := (List.getElem?_eq_some_iff.1 hj).1
        rw [List.getElem?_append_left this]
        exact hj)
      (by rw [hR]; omega)
  have hB1 : Blk (W.drew.setRow g L1.toArray) g 44 L1 := blk_setRow hBW.drew L1
  have hY1 : Blk (W.drew.setRow g L1.toArray) w.heap.size 44 y := (setRow_other W.drew g w.heap.size _ (by omega)).trans hYW
  have hcp2 : ∀ ty dc, (Builtin.copy_ #[23, 23] ty #[.slice (some ⟨g, i * 7, none⟩) (n + 1 - i) dc, .slice (some ⟨w.heap.size, 0, none⟩) 1 1]).run Tryz.prog (W.drew.setRow g L1.toArray) = .ok (goInt 1) ((W.drew.setRow g L1.toArray).setRow g L2.toArray) := fun ty dc => by
    rw [hL2]
    exact run_copy_mb _ ty g (i * 7) (n + 1 - i) dc ⟨w.heap.size, 0, none⟩ 1 1 1 y L1 44 hB1 h7 hy1 (by simp only [Nat.min_def]; split <;> omega)
      (fun j v hj => by
        have hplain : (⟨w.heap.size, 0, none⟩ : Addr).add j = ⟨w.heap.size, j, none⟩ := add_plain0 ..
        rw [hplain]
        exact hY1.cell hj)
      (by rw [hL1l]; omega)
  obtain ⟨W1, hW1⟩ : ∃ W1, W1 = W.drew.setRow g L1.toArray := ⟨_, rfl⟩
  rw [← hW1] at hcp1 hcp2 hB1
  have hB2 : Blk (W1.setRow g L2.toArray) g 44 L2 := blk_setRow hB1 L2
  have HF : Hid ((W1.setRow g L2.toArray).ownsRow base 44 7 (.slice (some ⟨g, 0, none⟩) (n + 1) cap) (n + 1) (xs.take (i * 7) ++ (y ++ xs.drop (i * 7))) ∧ Below base w (W1.setRow g L2.toArray)) := Lib.hid (by
    have hll : (xs.take (i * 7) ++ (y ++ xs.drop (i * 7))).length = (n + 1) * 7 := by rw [List.length_append, List.length_append, hla, hlb, h7]; omega
    refine ⟨⟨hll, .inr ⟨g, cap, L2.toArray, rfl, hbg, hB2, hc, hcm, ?_, ?_⟩⟩, below_setRow (by rw [hW1]; exact below_setRow hbW.drew hbg _) hbg _⟩
    · rw [hL2]; simp only [List.size_toArray, List.length_append, List.length_take, List.length_drop, h7, hL1l]; omega
    · rw [hfin]; show (xs.take (i * 7) ++ (y ++ (xs.drop (i * 7) ++ R.drop 7))).take ((n + 1) * 7) = _
      rw [← hll]; exact take_three ..)
  have mixed : Tryz.prog.follows .mixedOrders = true := by kernel_rfl
  have hin2 : i ≤ n := by omega
  have hin : ¬ (i : Int) = (n : Int) := by omega
  have hci : ¬ cap = i := by omega
  have hci1 : ¬ cap = i + 1 := by omega
  have hcn : ¬ (cap : Int) < (n : Int) + 1 := by omega
  have hw1 : IntKind.i64.wrap ((i : Int) + 1) = (i : Int) + 1 := by rw [IntKind.wrap_i64]; omega
  have hb1 : (0 : Int) ≤ (i : Int) + 1 := by omega
  have htn : ((i : Int) + 1).toNat = i + 1 := by omega
  have hb3 : (i : Int) ≤ (n : Int) + 1 := by omega
  clear hL1 hL2 hfin hB2 hB1 hY1 hbW hBW hYW hxs hla hlb hRl hL1l hR hW1 hW hB
  go_enter Tryz.func33, Tryz.ntmps33
  go_wp2_with (simp only [hov])
  go_region_law_o (refine step_copy_runI rfl _ _ 23 23 rfl _ _ (by simp [Act.eval, Act.put]) (by simp [Act.eval, Act.put]) (hcp1 _ _ _) ?_)
  go_wp2_with (at_builtin; refine wpList_copy_runI _ rfl _ _ 23 23 rfl _ _ rfl rfl (hcp2 _ _) ?_)
  go_ret
  exact ⟨_, rfl, HF.out.1, HF.out.2⟩
set_option maxHeartbeats 4000000 in
set_option maxRecDepth 100000 in
theorem insertM_grow (base g cap : Nat) (xs : List Value) (n i : Nat) (y : List Value) (R : List Value) (w : World) (hB : Blk w g 44 (xs ++ R)) (hn : xs.length = n * 7) (hi : i < n) (hnc : n ≤ cap) (hc : cap < n + 1) (hcm : cap ≤ 9223372036854775807) (hbg : base ≤ g) (hb : base ≤ w.heap.size) (hl : n ≤ 60000) (h7 : y.length = 7) (hx1 : ∀ u ∈ xs, u.oneCell' = true) (hy1 : ∀ u ∈ y, u.oneCell' = true) :
    Calls Tryz.prog 33 #[.slice (some ⟨g, 0, none⟩) n cap, .int .i64 (i : Int), .slice (some ⟨w.heap.size, 0, none⟩) 1 1] (w.alloc (.cells y.toArray 44)) fun e w' => ∃ v', e = .returned v' ∧ w'.ownsRow base 44 7 v' (n + 1) (xs.take (i * 7) ++ (y ++ xs.drop (i * 7))) ∧ Below base w w' := by
  have hgs : g < w.heap.size := hB.lt
  obtain ⟨W, hW⟩ : ∃ W, W = w.alloc (.cells y.toArray 44) := ⟨_, rfl⟩
  have hBW : Blk W g 44 (xs ++ R) := by rw [hW]; exact hB.alloc _
  have hYW : Blk W w.heap.size 44 y := by rw [hW]; exact Blk.new w _ _
  have hbW : Below base w W := by rw [hW]; exact (Below.refl _ _).alloc hb _
  have hWs : W.heap.size = w.heap.size + 1 := by rw [hW]; simp
  rw [← hW]
  have hxs : xs = xs.take (i * 7) ++ xs.drop (i * 7) := (List.take_append_drop _ _).symm
  have hla : (xs.take (i * 7)).length = i * 7 := by rw [List.length_take]; omega
  have hlb : (xs.drop (i * 7)).length = (n - i) * 7 := by rw [List.length_drop]; omega
  obtain ⟨i0, hi0, hz0, hz1, hz2⟩ := info_parts info_memD
  obtain ⟨N, hN⟩ : ∃ N, W.heap.size = N := ⟨_, rfl⟩
  obtain ⟨G, hG⟩ : ∃ G, grownCap W (n + 1) cap 44 = G := ⟨_, rfl⟩
  have hGn : n + 1 ≤ G := by rw [← hG]; exact grownCap_ge W _ _ _
  have hG63 : G ≤ 9223372036854775807 := by
    have := grownCap_le_maxLen W (n + 1) cap 44 (by unfold maxLen; omega)
    rw [hG] at this
    unfold maxLen at this
    omega
  have hik : i + (n + 1 - i) = n + 1 := by omega
  obtain ⟨z, hz⟩ : ∃ z : Array Value, (Value.agg #[.string ⟨#[]⟩, .int .i64 0, .bool false, .int .i64 0, .string ⟨#[]⟩, .slice none 0 0, .slice none 0 0]).cells = z := ⟨_, rfl⟩
  have hz3 : z.size = 7 := by rw [← hz]; rfl
  obtain ⟨Z, hZ⟩ : ∃ Z, Z = (Builtin.zeroCells z (n + 1 - i)).toList ++ (Builtin.zeroCells z (G - (n + 1))).toList := ⟨_, rfl⟩
  have hZl : Z.length = (G - i) * 7 := by rw [hZ, List.length_append, zeroCells7 z hz3, zeroCells7 z hz3]; omega
  obtain ⟨W1, hW1⟩ : ∃ W1, W1 = W.drew.alloc (.cells (xs.take (i * 7) ++ Z).toArray 44) := ⟨_, rfl⟩
  have hold : (Builtin.firstCells i0.size i (.slice (some ⟨g, 0, none⟩) i cap)).run Tryz.prog W.drew = .ok (xs.take (i * 7)).toArray W.drew := by
    rw [hz1]
    exact run_firstCells_some W.drew 7 i ⟨g, 0, none⟩ i cap (xs.take (i * 7)) hla (fun j v hj => by
      have hplain : (⟨g, 0, none⟩ : Addr).add j = ⟨g, j, none⟩ := add_plain0 ..
      rw [hplain]
      refine Blk.cell (w := W) hBW ?_
      rw [hxs, List.append_assoc, List.getElem?_append_left ((List.getElem?_eq_some_iff.1 hj).1)]
      exact hj)
  have hrz : ∀ ty, (Builtin.append_ #[23, 3] ty #[.slice (some ⟨g, 0, none⟩) i cap, .int .i64 ((n : Int) + 1 - (i : Int))]).run Tryz.prog W = .ok (.slice (some ⟨N, 0, none⟩) (n + 1) G) W1 := fun ty => by
    have h := Lib.run_append_grow_zeros W 23 3 ty 44 i0 _ .i64 .i64 Tryz.underlying23 Tryz.underlying3 hi0 hz0 (some ⟨g, 0, none⟩) i cap (xs.take (i * 7)) hold (n + 1 - i) (by omega) (by omega) (by omega) (by omega) (by rw [hz2]; omega) (by rw [hz2, hik]; exact growslice_fits hc (by omega))
    rw [hik, hN, hG, hz] at h
    rw [show (n : Int) + 1 - (i : Int) = ((n + 1 - i : Nat) : Int) by omega, hW1, hZ]
    rw [h]
    congr 3
    apply Array.ext'
    simp
  have hB1 : Blk W1 N 44 (xs.take (i * 7) ++ Z) := by rw [hW1, ← hN]; exact Blk.new W.drew _ _
  have hg1 : Blk W1 g 44 (xs ++ R) := by rw [hW1]; exact hBW.drew.alloc _
  have hY1 : Blk W1 w.heap.size 44 y := by rw [hW1]; exact hYW.drew.alloc _
  have hbN : base ≤ N := by omega
  have hb1 : Below base w W1 := by rw [hW1]; exact (show Below base w W.drew from ⟨hbW.os, hbW.tape, hbW.output, hbW.size, hbW.block⟩).alloc (by show base ≤ W.heap.size; omega) _
  obtain ⟨L1, hL1⟩ : ∃ L1, L1 = (xs.take (i * 7) ++ Z).take (i * 7) ++ y ++ (xs.take (i * 7) ++ Z).drop (i * 7 + 1 * 7) := ⟨_, rfl⟩
  obtain ⟨L2, hL2⟩ : ∃ L2, L2 = L1.take ((i + 1) * 7) ++ xs.drop (i * 7) ++ L1.drop ((i + 1) * 7 + (n - i) * 7) := ⟨_, rfl⟩
  have hL1l : L1.length = G * 7 := by
    rw [hL1]
    simp only [List.length_append, List.length_take, List.length_drop, hZl, hla, h7]
    omega
  have hfin : L2 = xs.take (i * 7) ++ (y ++ (xs.drop (i * 7) ++ Z.drop (7 + (n - i) * 7))) := by
    have h := ins_grow (A := xs.take (i * 7)) (B := xs.drop (i * 7)) (Z := Z) (Y := y) (q := 7) (p := i * 7) hla h7 (by rw [hlb, hZl]; omega)
    rw [hlb] at h
    rw [← h, hL2, hL1, show (i + 1) * 7 = i * 7 + 7 by omega]
  have hcp1 : ∀ ty dc, (Builtin.copy_ #[23, 23] ty #[.slice (some ⟨N, i * 7, none⟩) (n + 1 - i) dc, .slice (some ⟨w.heap.size, 0, none⟩) 1 1]).run Tryz.prog W1 = .ok (goInt 1) (W1.setRow N L1.toArray) := fun ty dc => by
    rw [hL1]
    exact run_copy_mb _ ty N (i * 7) (n + 1 - i) dc ⟨w.heap.size, 0, none⟩ 1 1 1 y _ 44 hB1 h7 hy1 (by simp only [Nat.min_def]; split <;> omega)
      (fun j v hj => by
        have hplain : (⟨w.heap.size, 0, none⟩ : Addr).add j = ⟨w.heap.size, j, none⟩ := add_plain0 ..
        rw [hplain]
        exact hY1.cell hj)
      (by rw [List.length_append, hla, hZl]; omega)
  obtain ⟨W2, hW2⟩ : ∃ W2, W2 = W1.setRow N L1.toArray := ⟨_, rfl⟩
  have hB2 : Blk W2 N 44 L1 := by rw [hW2]; exact blk_setRow hB1 L1
  have hg2 : Blk W2 g 44 (xs ++ R) := by rw [hW2]; exact (setRow_other W1 N g _ (by omega)).trans hg1
  have hb2 : Below base w W2 := by rw [hW2]; exact below_setRow hb1 hbN _
  rw [← hW2] at hcp1
  have hcp2 : ∀ ty dc sc, (Builtin.copy_ #[23, 23] ty #[.slice (some ⟨N, (i + 1) * 7, none⟩) (n - i) dc, .slice (some ⟨g, i * 7, none⟩) (n - i) sc]).run Tryz.prog W2.drew = .ok (goInt ((n - i : Nat) : Int)) (W2.drew.setRow N L2.toArray) := fun ty dc sc => by
    rw [hL2]
    exact run_copy_mb W2.drew ty N ((i + 1) * 7) (n - i) dc ⟨g, i * 7, none⟩ (n - i) sc (n - i) (xs.drop (i * 7)) L1 44 hB2 hlb (fun u hu => hx1 u (List.mem_of_mem_drop hu)) (by simp)
      (fun j v hj => by
        have hplain : (⟨g, i * 7, none⟩ : Addr).add j = ⟨g, i * 7 + j, none⟩ := add_plain ..
        rw [hplain]
        refine Blk.cell (w := W2) hg2 ?_
        rw [hxs, List.append_assoc, List.getElem?_append_right (by rw [hla]; omega), hla, show i * 7 + j - i * 7 = j by omega]
        have := (List.getElem?_eq_some_iff.1 hj).1
        rw [List.getElem?_append_left this]
        exact hj)
      (by rw [hL1l]; omega)
  obtain ⟨W3, hW3⟩ : ∃ W3, W3 = W2.drew.setRow N L2.toArray := ⟨_, rfl⟩
  rw [← hW3] at hcp2
  have hB3 : Blk W3 N 44 L2 := by rw [hW3]; exact blk_setRow hB2.drew L2
  have HF : Hid (W3.ownsRow base 44 7 (.slice (some ⟨N, 0, none⟩) (n + 1) G) (n + 1) (xs.take (i * 7) ++ (y ++ xs.drop (i * 7))) ∧ Below base w W3) := Lib.hid (by
    have hll : (xs.take (i * 7) ++ (y ++ xs.drop (i * 7))).length = (n + 1) * 7 := by rw [List.length_append, List.length_append, hla, hlb, h7]; omega
    refine ⟨⟨hll, .inr ⟨N, G, L2.toArray, rfl, hbN, hB3, hGn, hG63, ?_, ?_⟩⟩, by rw [hW3]; exact below_setRow (show Below base w W2.drew from ⟨hb2.os, hb2.tape, hb2.output, hb2.size, hb2.block⟩) hbN _⟩
    · rw [hL2]; simp only [List.size_toArray, List.length_append, List.length_take, List.length_drop, hlb, hL1l]; omega
    · rw [hfin]; show (xs.take (i * 7) ++ (y ++ (xs.drop (i * 7) ++ Z.drop (7 + (n - i) * 7)))).take ((n + 1) * 7) = _
      rw [← hll]; exact take_three ..)
  have mixed : Tryz.prog.follows .mixedOrders = true := by kernel_rfl
  have hin2 : i ≤ n := by omega
  have hin : ¬ (i : Int) = (n : Int) := by omega
  have hci : ¬ cap = i := by omega
  have hGi : ¬ G = i := by omega
  have hGi1 : ¬ G = i + 1 := by omega
  have hcn : (cap : Int) < (n : Int) + 1 := by omega
  have hw1 : IntKind.i64.wrap ((i : Int) + 1) = (i : Int) + 1 := by rw [IntKind.wrap_i64]; omega
  have hbq1 : (0 : Int) ≤ (i : Int) + 1 := by omega
  have htn : ((i : Int) + 1).toNat = i + 1 := by omega
  have hb3 : (i : Int) ≤ (n : Int) + 1 := by omega
  have hb4 : (i : Int) ≤ (cap : Int) := by omega
  clear hL1 hL2 hfin hB2 hB1 hB3 hY1 hbW hBW hYW hxs hla hlb hL1l hW1 hW2 hW3 hW hB hold hZ hZl hz3 hz hg1 hg2 hb1 hb2 hik hi0 hz0 hz1 hz2 hN hG
  go_enter Tryz.func33, Tryz.ntmps33
  go_wp2_with (first
    | (at_builtin; refine Lib.wpList_append_run _ rfl _ _ _ _ rfl _ _ rfl rfl _ _ (hrz _) ?_)
    | (at_builtin; refine wpList_copy_runI _ rfl _ _ 23 23 rfl _ _ rfl rfl (hcp1 _ _) ?_))
  go_region_law_o (refine step_copy_runI rfl _ _ 23 23 rfl _ _ (by simp [Act.eval, Act.put]) (by simp [Act.eval, Act.put]) (hcp2 _ _ _) ?_)
  go_wp2_with fail
  go_ret
  exact ⟨_, rfl, HF.out.1, HF.out.2⟩
end Go.Proofs.YtajkgcmopmpihaaGreatDoor
namespace Go.Proofs.YtajkgcmopmpihaaGreatDoor
open Go.ChangeShapes Go.WideShapes Go.ChangeAt Go.RowKit Go.IntWalk Go.Lib
set_option linter.unusedVariables false
set_option maxRecDepth 100000
def Wri (lo st : Nat) (T : TypeId) (A : Option Addr) (n : Nat) (W : World) : Prop := n = 0 ∨ ∃ b o cs, A = some ⟨b, o, none⟩ ∧ lo ≤ b ∧ Blk W b T cs ∧ o + n * st ≤ cs.length
theorem setCells_len {g : Nat} {T : TypeId} : ∀ (vs : List Value) (o : Nat) (W : World) (cs : List Value), Blk W g T cs → ∃ cs', Blk (W.setCells g o vs) g T cs' ∧ cs'.length = cs.length
  | [], o, W, cs, h => ⟨cs, h, rfl⟩
  | v :: vs, o, W, cs, h => by
    obtain ⟨cs', h1, h2⟩ := setCells_len vs (o + 1) _ _ (h.set_ o v)
    exact ⟨cs', h1, by rw [h2, List.length_set]⟩
section
variable {lo st n : Nat} {T : TypeId} {A : Option Addr} {W W' : World}
theorem Wri.chg {C : Nat → Prop} (h : Wri lo st T A n W) (hc : Chg C W W') (hC : ∀ b, lo ≤ b → ¬ C b) : Wri lo st T A n W' := by
  rcases h with h | ⟨b, o, cs, h1, h2, h3, h4⟩
  · exact .inl h
  · exact .inr ⟨b, o, cs, h1, h2, hc.blk h3 (hC b h2), h4⟩
theorem Wri.later (h : Wri lo st T A n W) (hb : Below W.heap.size W W') : Wri lo st T A n W' := h.chg (C := fun _ => False) (Chg.of hb) (fun _ _ h => h)
theorem Wri.there (h : Wri lo st T A n W) {i : Nat} (hi : i < n) : ∃ b o, A = some ⟨b, o, none⟩ ∧ lo ≤ b ∧ b < W.heap.size ∧ W.there b (o + i * st) st := by
  rcases h with h | ⟨b, o, cs, h1, h2, h3, h4⟩
  · omega
  · refine ⟨b, o, h1, h2, h3.lt, fun j hj => ?_⟩
    have hm : i * st + st ≤ n * st := by have := Nat.mul_le_mul_right st (show i + 1 ≤ n from hi); rw [Nat.add_mul] at this; omega
    have hl : o + i * st + j < cs.length := by omega
    exact ⟨by rw [h3.cell (List.getElem?_eq_getElem hl)]; rfl, h3.frozen _⟩
theorem Wri.put {b o : Nat} (h : Wri lo st T (some ⟨b, o, none⟩) n W) (o' : Nat) (vs : List Value) : Wri lo st T (some ⟨b, o, none⟩) n (W.setCells b o' vs) := by
  rcases h with h | ⟨b2, o2, cs, h1, h2, h3, h4⟩
  · exact .inl h
  · injection h1 with h1
    injection h1 with h1 h5
    subst h1 h5
    obtain ⟨cs', h6, h7⟩ := setCells_len vs o' W cs h3
    exact .inr ⟨b, o, cs', rfl, h2, h6, by omega⟩
theorem Wri.low {lo' : Nat} (h : Wri lo st T A n W) (hl : lo' ≤ lo) : Wri lo' st T A n W := by
  rcases h with h | ⟨b, o, cs, h1, h2, h3⟩
  · exact .inl h
  · exact .inr ⟨b, o, cs, h1, Nat.le_trans hl h2, h3⟩
theorem own_wri {base : Nat} {v : Value} {cs : List Value} (h : W.ownsRow base T st v n cs) : ∃ (A : Option Addr) (c : Nat), v = .slice A n c ∧ Wri base st T A n W := by
  rcases h.2 with ⟨rfl, hn⟩ | ⟨g, cap, cur, rfl, hb, hh, hnc, hm, hs, ht⟩
  · exact ⟨none, 0, by rw [hn], .inl hn⟩
  · refine ⟨_, cap, rfl, .inr ⟨g, 0, cur.toList, rfl, hb, by unfold Blk; rw [hh], ?_⟩⟩
    have := Nat.mul_le_mul_right st hnc
    have hs2 : cur.toList.length = cap * st := by simpa using hs
    omega
theorem wri_l {P : Nat → Prop} {t : JT} {c lo : Nat} (hr : Room n c t.ext) (h : JSl P W false A t) (hP : ∀ b, P b → lo ≤ b) (hu : ∀ a, A = some a → ∃ T cs, Blk W a.block T cs) : ∃ T, Wri lo 6 T A n W := by
  by_cases h0 : n = 0
  · exact ⟨0, .inl h0⟩
  · obtain ⟨b, o, _, _, _, _, _, _, rfl, hp, _, _, _, _, _, _, f5, _⟩ := JSl.el P h (i := n - 1) (by rw [← hr.1]; omega)
    obtain ⟨T, cs, hc⟩ := hu _ rfl
    refine ⟨T, .inr ⟨b, o, cs, rfl, hP b hp, hc, ?_⟩⟩
    have h1 : (W.cell? ⟨b, o + (n - 1) * 6 + 5, none⟩).isSome := by rw [f5]; rfl
    have h2 : o + (n - 1) * 6 + 5 < cs.length := by
      rw [World.cell?] at h1
      have h3 : W.heap[b]? = some (.cells cs.toArray T (0, 0)) := hc
      simp only [h3] at h1
      simpa using h1
    omega
theorem wri_m {P : Nat → Prop} {t : JT} {c lo : Nat} (hr : Room n c t.ext) (h : JSl P W true A t) (hP : ∀ b, P b → lo ≤ b) (hu : ∀ a, A = some a → ∃ T cs, Blk W a.block T cs) : ∃ T, Wri lo 7 T A n W := by
  by_cases h0 : n = 0
  · exact ⟨0, .inl h0⟩
  · obtain ⟨b, o, _, _, _, _, _, _, rfl, hp, _, _, _, _, _, _, _, _, f6, _⟩ := JSl.mb P h (i := n - 1) (by rw [← hr.1]; omega)
    obtain ⟨T, cs, hc⟩ := hu _ rfl
    refine ⟨T, .inr ⟨b, o, cs, rfl, hP b hp, hc, ?_⟩⟩
    have h1 : (W.cell? ⟨b, o + (n - 1) * 7 + 6, none⟩).isSome := by rw [f6]; rfl
    have h2 : o + (n - 1) * 7 + 6 < cs.length := by
      rw [World.cell?] at h1
      have h3 : W.heap[b]? = some (.cells cs.toArray T (0, 0)) := hc
      simp only [h3] at h1
      simpa using h1
    omega
end
theorem insertM_any (base : Nat) (v : Value) (n i : Nat) (cs y : List Value) (w : World) (ho : w.ownsRow base 44 7 v n cs) (hi : i ≤ n) (hb : base ≤ w.heap.size) (hl : n ≤ 60000) (h7 : y.length = 7) (hx1 : ∀ u ∈ cs, u.oneCell' = true) (hy1 : ∀ u ∈ y, u.oneCell' = true) :
    Calls Tryz.prog 33 #[v, .int .i64 (i : Int), .slice (some ⟨w.heap.size, 0, none⟩) 1 1] (w.alloc (.cells y.toArray 44)) fun e w' =>
      ∃ v', e = .returned v' ∧ (∃ ds, w'.ownsRow base 44 7 v' (n + 1) ds) ∧ Below base w w' := by
  rcases Nat.lt_or_eq_of_le hi with hi | rfl
  · rcases ho.2 with ⟨rfl, h0⟩ | ⟨g, cap, cur, rfl, hbg, hh, hn, hm, hs, ht⟩
    · omega
    · have hcm : cap ≤ 9223372036854775807 := hm
      have hcs := ho.1
      have hsz : cur.toList.length = cap * 7 := by simpa using hs
      have hsp : cs ++ cur.toList.drop (n * 7) = cur.toList := by rw [← ht]; exact List.take_append_drop _ _
      have hB : Blk w g 44 (cs ++ cur.toList.drop (n * 7)) := by rw [hsp]; unfold Blk; rw [hh]
      by_cases hc : n + 1 ≤ cap
      · refine (insertM_room base g cap cs n i y (cur.toList.drop (n * 7)) w hB hcs hi hc (by rw [hsp]; exact hsz) hcm hbg hb hl h7 hx1 hy1).mono ?_
        rintro e w' ⟨v', rfl, h1, h2⟩
        exact ⟨v', rfl, ⟨_, h1⟩, h2⟩
      · refine (insertM_grow base g cap cs n i y (cur.toList.drop (n * 7)) w hB hcs hi hn (by omega) hcm hbg hb hl h7 hx1 hy1).mono ?_
        rintro e w' ⟨v', rfl, h1, h2⟩
        exact ⟨v', rfl, ⟨_, h1⟩, h2⟩
  · refine (insertM_end base v i cs y _ rfl w ho hb hl h7 hy1).mono ?_
    rintro e w' ⟨A, c, rfl, h1, h2⟩
    exact ⟨_, rfl, ⟨_, h1⟩, (Below.refl base w).grown h2 hb (fun k hk => (World.ownsRow.lt ho k hk).1)⟩
end Go.Proofs.YtajkgcmopmpihaaGreatDoor
namespace Go.Proofs.YtajkgcmopmpihaaGreatDoor
open Go.Lib
set_option linter.unusedVariables false
def JT.keys : JT → List (List UInt8)
  | .nil => []
  | .cons k _ _ _ _ _ _ r => k :: r.keys
def keyP (k : List UInt8) : Pr := (k, [])
def slts (t : JT) : List Slt := t.keys.map fun k => ⟨k, [], []⟩
theorem slts_len : ∀ t : JT, (slts t).length = t.ext
  | .nil => rfl
  | .cons k _ _ _ _ _ _ r => by have := slts_len r; simp [slts, JT.keys, JT.ext] at this ⊢; exact this
theorem slts_at : ∀ (t : JT) (i : Nat) (h : i < (slts t).length), ((slts t)[i]).pr = keyP (t.fall i).key
  | .nil, i, h => absurd h (by simp [slts, JT.keys])
  | .cons k _ _ _ _ _ _ r, 0, h => rfl
  | .cons k _ _ _ _ _ _ r, i + 1, h => by
    have := slts_at r i (by simpa [slts, JT.keys] using h)
    show _ = keyP (r.fall i).key
    simpa [slts, JT.keys] using this
theorem cmpP_key (a b : List UInt8) : cmpP (keyP a) (keyP b) = compareBytes a b := by
  unfold cmpP keyP
  dsimp only
  split
  · rename_i h; rw [h]; rfl
  · rfl
def JT.findV : JT → List UInt8 → Option Jv
  | .nil, _ => none
  | .cons k kd is n s l m r, key => if k = key then some ⟨kd, is, n, s, l, m⟩ else r.findV key
def nullV : Jv := ⟨0, false, 0, [], .nil, .nil⟩
end Go.Proofs.YtajkgcmopmpihaaGreatDoor
