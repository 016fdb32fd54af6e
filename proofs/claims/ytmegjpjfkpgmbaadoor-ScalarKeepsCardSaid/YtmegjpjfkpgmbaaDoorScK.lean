/- Layer 5: Good. -/
import Derived.Test.YtmegjpjfkpgmbaaDoorScJ
import Derived.Deep.RegionHeld3
namespace Go.Proofs.YtmegjpjfkpgmbaaDoor
open Go.ChangeShapes Go.WideShapes Go.ChangeAt Go.RowKit Go.IntWalk
set_option linter.unusedVariables false

theorem leB_leN : ∀ (bs : List UInt8), leB bs.length (leN bs) = bs
  | [] => rfl
  | b :: bs => by
    have hb := b.toNat_lt
    have h1 : (b.toNat + 256 * leN bs) % 256 = b.toNat := by omega
    have h2 : (b.toNat + 256 * leN bs) / 256 = leN bs := by omega
    rw [List.length_cons, leB, leN, h1, h2, leB_leN bs]
    simp
theorem good_iff (bs : List UInt8) (hl : bs.length = 32) : (leB 32 (leN bs % LO) = bs) ↔ leN bs < LO := by
  constructor
  · intro h
    have h2 := congrArg leN h
    rw [leN_leB, Nat.mod_eq_of_lt (Nat.lt_trans (Nat.mod_lt _ LO_pos) (by decide +kernel))] at h2
    rw [← h2]; exact Nat.mod_lt _ LO_pos
  · intro h
    rw [Nat.mod_eq_of_lt h]
    have := leB_leN bs
    rwa [hl] at this
set_option maxRecDepth 100000 in
set_option maxHeartbeats 4000000 in
theorem good_calls (bs : List UInt8) (hl : bs.length = 32) (w : World) (hT : Tab w) :
    Calls Tryd.prog 12 #[A32 bs] w fun e w' => e = .returned (.bool (decide (leN bs < LO))) ∧ Below w.heap.size w w' := by
  have HN := Lib.hid (numberOf_calls bs hl)
  have h0 : Blk (w.alloc (.cells (u8b bs).toArray 23)) w.heap.size 23 (u8b bs) := Blk.new _ _ _
  have hb := (Below.refl w.heap.size w).alloc (Nat.le_refl _) (.cells (u8b bs).toArray 23)
  have HS := Lib.hid (size32u bs hl)
  have HT := Lib.hid (hT.later hb)
  unfold A32 at HN ⊢
  obtain ⟨cs, hcs⟩ : ∃ cs, u8b bs = cs := ⟨_, rfl⟩
  rw [hcs] at HN HS HT h0 hb ⊢
  have hlt := h0.lt
  go_enter Tryd.func12, Tryd.ntmps12
  go_wp2_with fail
  obtain ⟨w1, hw1⟩ : ∃ w1, w.alloc (.cells cs.toArray 23) = w1 := ⟨_, rfl⟩
  rw [hw1] at h0 hb hlt HT ⊢
  have HO : Hid (IsW (.agg #[.int .u64 6346243789798364141, .int .u64 1503914060200516822, .int .u64 0, .int .u64 1152921504606846976]) LO) := Lib.hid order_is
  have hsz := HS.out
  have hun := Tryd.underlying23
  have hall : ∀ W, Below w1.heap.size w1 W → (Below w1.heap.size w1 W ∧ W.rangeAt w.heap.size 0 cs ∧ W.cell? ⟨0, 0, none⟩ = some (.int .u64 6346243789798364141) ∧ W.cell? ⟨0, 1, none⟩ = some (.int .u64 1503914060200516822) ∧ W.cell? ⟨0, 2, none⟩ = some (.int .u64 0) ∧ W.cell? ⟨0, 3, none⟩ = some (.int .u64 1152921504606846976)) :=
    fun W hW => ⟨hW, (h0.later hW).rng, (HT.out.later hW).1 0 _ rfl, (HT.out.later hW).1 1 _ rfl, (HT.out.later hW).1 2 _ rfl, (HT.out.later hW).1 3 _ rfl⟩
  have HALL := Lib.hid hall
  have HB := Lib.hid hb
  clear hT hcs h0 hb hw1 hall
  go_region_held3 (fun W => Below w1.heap.size w1 W ∧ W.rangeAt w.heap.size 0 cs ∧ W.cell? ⟨0, 0, none⟩ = some (.int .u64 6346243789798364141) ∧ W.cell? ⟨0, 1, none⟩ = some (.int .u64 1503914060200516822) ∧ W.cell? ⟨0, 2, none⟩ = some (.int .u64 0) ∧ W.cell? ⟨0, 3, none⟩ = some (.int .u64 1152921504606846976))
    (first | assumption | exact HALL.out _ (Below.refl _ _) | exact HALL.out _ ((Below.refl _ _).drewN _) | (go_split_ands; refine HALL.out _ ?_; repeat (first | assumption | exact Below.refl _ _ | exact (Below.refl _ _).drewN _ | refine Below.then_ ?_ (by assumption) | refine Below.alloc ?_ (Below.size (by assumption)) _ | refine Below.alloc ?_ (Nat.le_refl _) _ | refine Below.setCell ?_ (by first | exact Nat.le_refl _ | exact Below.size (by assumption)) _)))
    ((first
      | (go_at_call 24; (with_reducible refine (HN.out _).mono ?_); rintro e wv ⟨x, rfl, hx, bv⟩; have hq1 : Below w1.heap.size w1 wv := (by refine Below.then_ ?_ bv; first | exact Below.refl _ _ | exact (Below.refl _ _).drewN _ | (go_split_ands; assumption) | (refine Below.alloc ?_ (Below.size (by assumption)) _; assumption)); have hc1 := (bcellB bv).1; have hf1 := (bcellB bv).2; try (have hz1 : w1.heap.size < wv.heap.size := (by have := bv.size; simp at this; omega)))
      | (go_at_call 25; (with_reducible refine (less_calls _ _ _ _ hx HO.out _).mono ?_); rintro e wu ⟨y, rfl, hy, bu⟩; obtain ⟨d0, d1, d2, d3, hyv, _⟩ := hy; unfold V4 at hyv; subst hyv; have hq2 : Below w1.heap.size w1 wu := (by refine Below.then_ ?_ bu; first | exact Below.refl _ _ | exact (Below.refl _ _).drewN _ | (go_split_ands; assumption) | (refine Below.alloc ?_ (Below.size (by assumption)) _; assumption)); have hc2 := (bcellB bu).1; have hf2 := (bcellB bu).2; try (have hz2 : w1.heap.size < wu.heap.size := (by have := bu.size; simp at this; omega)); try (have hz3 : wv.heap.size < wu.heap.size := (by have := bu.size; simp at this; omega)))))
  all_goals (rename_i hS; have hB2 := Lib.hid (HB.out.then_ hS.1); clear hS; go_wp2_with fail; go_ret; exact ⟨rfl, hB2.out⟩)
set_option maxRecDepth 100000 in
set_option maxHeartbeats 4000000 in
theorem refGood_calls (bs : List UInt8) (hl : bs.length = 32) (w : World) :
    Calls Tryd.prog 13 #[.string ⟨bs.toArray⟩] w fun e w' => e = .returned (.bool (decide (leN bs < LO))) ∧ Below w.heap.size w w' := by
  have hlen : (⟨bs.toArray⟩ : ByteArray).size = 32 := by rw [← hl]; rfl
  go_enter Tryd.func13, Tryd.ntmps13
  go_wp2_with fail
  refine (refRest_calls bs (by omega) _).mono ?_
  rintro e w1 ⟨rfl, b1⟩
  have HB := Lib.hid b1
  have HG := Lib.hid (good_iff bs hl)
  clear b1
  go_wp2_with fail
  go_ret
  exact ⟨ret_bool (by have := HG.out; by_cases h : leN bs < LO <;> simp [this, h]), HB.out⟩
end Go.Proofs.YtmegjpjfkpgmbaaDoor
