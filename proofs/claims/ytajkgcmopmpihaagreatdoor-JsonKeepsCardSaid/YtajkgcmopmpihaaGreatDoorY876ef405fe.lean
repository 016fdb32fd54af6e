/- Texts put together: QuH QuS. -/
import Derived.Test.YtajkgcmopmpihaaGreatDoorY37cd5bd6c1
import Derived.Test.YtajkgcmopmpihaaGreatDoorYfffa4af51d
namespace Go.Proofs.YtajkgcmopmpihaaGreatDoor
open Go.ChangeShapes Go.WideShapes Go.ChangeAt Go.RowKit Go.IntWalk
set_option linter.unusedVariables false
set_option maxRecDepth 100000 in
set_option maxHeartbeats 4000000 in
theorem put_calls (l : List UInt8) (w : World) (hl : l.length ≤ 1000000) :
    Calls Tryz.prog 75 #[.string ⟨l.toArray⟩] w (PutPost l w) := by
  obtain ⟨i0, hi0, hz0, hz1, hz2⟩ := info_parts infoU8
  cases hv : Lib.validD l with
  | false =>
    have HV := Lib.hid hv; clear hv
    go_enter Tryz.func75, Tryz.ntmps75
    go_wp2_with fail
    refine (valid_calls l _ hl).mono ?_
    rintro e w1 ⟨rfl, b1⟩
    rw [HV.out]
    go_wp2
    go_ret2
    exact PutPost.no HV.out b1
  | true =>
    have HV := Lib.hid hv; clear hv
    go_enter Tryz.func75, Tryz.ntmps75
    go_wp2_with fail
    refine (valid_calls l _ hl).mono ?_
    rintro e w1 ⟨rfl, b1⟩
    rw [HV.out]
    have hs1 := b1.size
    go_wp2_with (first
      | (refine wpList_make_own _ rfl _ _ _ rfl w.heap.size 5 i0 (.int .u8 0) 1 Tryz.underlying58 hi0 hz0 hz1 .i64 .i64 ((l.length : Int) + 2) (l.length + 2) rfl rfl (by omega) (by rw [hz2]; omega) (by unfold maxLen; omega) hs1 ?_; intro w2 hown0 hgrow0; have b2 : Below w.heap.size w w2 := b1.grown hgrow0 hs1 (fun k h => by cases h); have hs2 := b2.size; have hown0' : OwnBs w.heap.size w2 _ [] := hown0)
      | (at_builtin; (refine wpList_append_lit rfl _ _ rfl _ _ _ rfl hown0' [34] _ rfl 1 rfl rfl (by simp) (by omega) ?_; intro v1 w3 hown1 hgrow1)))
    have b3 : Below w.heap.size w w3 := b2.grown hgrow1 hs2 (fun k hk => (hown0'.lt k hk).1)
    have hs3 := b3.size
    have b3' : Below w.heap.size w (w3.iter ⟨l.toArray⟩ 0) := b3.alloc hs3 _
    have hown2 : OwnBs w.heap.size (w3.iter ⟨l.toArray⟩ 0) v1 (34 :: escL (l.take 0)) := World.ownsRow.alloc hown1 _
    have hit0 : (w3.iter ⟨l.toArray⟩ 0).heap[w3.heap.size]? = some (.stringIter ⟨l.toArray⟩ 0) := World.iter_heap w3 _ 0
    clear hown0 hgrow0 hown0' hgrow1 hown1
    go_loopw [4] (fun v wr => ∃ k, k ≤ l.length ∧ OwnBs w.heap.size wr v (34 :: escL (l.take k)) ∧ Below w.heap.size w wr ∧ wr.heap[w3.heap.size]? = some (.stringIter ⟨l.toArray⟩ k) ∧ Hid (Lib.validD (l.drop k) = true)) (fun _ wr => l.length - wr.iterPos w3.heap.size)
    case atStart => exact ⟨0, Nat.zero_le _, hown2, b3', hit0, HV.out⟩
    case round =>
      clear hown2 b3' hit0
      obtain ⟨k, hk, hown, hbr, hit, hvk⟩ := hrel
      have hsz := hbr.size
      have hlen := escL_take_len l k hk
      have hlen1 : (34 :: escL (l.take k)).length ≤ 6 * k + 1 := by simp; omega
      by_cases hp : k < l.length
      · have hnx := fun ty => Lib.run_next_any_at (P := Tryz.prog) wr w3.heap.size ⟨l.toArray⟩ k ty hit hp
        have hdl : Utf8.decode ⟨l.toArray⟩ k = Lib.decodeL (l.drop k) := (Lib.decodeL_drop ⟨l.toArray⟩ k).symm
        rw [hdl] at hnx
        clear hdl
        obtain ⟨c, hc⟩ : ∃ c, l[k] = c := ⟨_, rfl⟩
        obtain ⟨t, ht⟩ : ∃ t, l.drop (k + 1) = t := ⟨_, rfl⟩
        have hm : l.drop k = c :: t := by rw [List.drop_eq_getElem_cons hp, hc, ht]
        have htl : t.length = l.length - (k + 1) := by rw [← ht, List.length_drop]
        have hcl := c.toNat_lt
        have hvk2 := hvk.out
        rw [hm] at hvk2 hnx
        have hn : ¬ NoR (c :: t) := fun h => by rw [valid_stop _ (by simp) h] at hvk2; cases hvk2
        have hvn := valid_go (c :: t) (by simp) hn
        rw [hvk2] at hvn
        have HT0 := Lib.hid (escL_take_rune l k)
        have HT1 := Lib.hid (escL_take l k hp)
        rw [hc] at HT1
        have HM := Lib.hid hm
        have hdd : ∀ d, (c :: t).drop d = l.drop (k + d) := fun d => by rw [← HM.out, List.drop_drop]
        have FIN : ∀ (wx w2 : World) (v' : Value) (d : Nat), OwnBs w.heap.size wx u4 (34 :: escL (l.take k)) → Below w.heap.size w wx → wx.heap[w3.heap.size]? = some (.stringIter ⟨l.toArray⟩ (k + d)) → 1 ≤ d → k + d ≤ l.length → Lib.validD (l.drop (k + d)) = true →
            OwnBs w.heap.size w2 v' (34 :: escL (l.take (k + d))) → wx.grownBy w2 u4.ownBlock →
            (∃ k1, k1 ≤ l.length ∧ OwnBs w.heap.size w2 v' (34 :: escL (l.take k1)) ∧ Below w.heap.size w w2 ∧ w2.heap[w3.heap.size]? = some (.stringIter ⟨l.toArray⟩ k1) ∧ Hid (Lib.validD (l.drop k1) = true)) ∧
              l.length - w2.iterPos w3.heap.size < l.length - wr.iterPos w3.heap.size := by
          intro wx w2 v' d ho hb hi h1 h2 h3 ho2 hg
          have hi2 : w2.heap[w3.heap.size]? = some (.stringIter ⟨l.toArray⟩ (k + d)) := (hg.block _ (Array.getElem?_eq_some_iff.1 hi).1 (ho.ne hi (by intro c f h; cases h))).trans hi
          refine ⟨⟨k + d, h2, ho2, hb.grown hg hb.size (fun k hk => (ho.lt k hk).1), hi2, h3⟩, ?_⟩
          have e1 : w2.iterPos w3.heap.size = k + d := by simp [World.iterPos, hi2]
          have e2 : wr.iterPos w3.heap.size = k := by simp [World.iterPos, hit]
          rw [e1, e2]; omega
        by_cases hlow : c.toNat < 128
        · have hd := Lib.decodeL_ascii c t hlow
          rw [hd] at hnx hvn
          rw [hdd] at hvn
          simp only at hnx hvn
          have HVN := Lib.hid hvn.symm
          clear hvn hdd hn hvk2 hvk HT0 hm
          have HT : Hid (escL (l.take (k + 1)) = escL (l.take k) ++ escB c) := HT1.out
          clear HT1
          have hown1 := hown.iterAt hit (k + 1)
          have hb1 := Lib.below_iterAt hbr hs3 ⟨l.toArray⟩ (k + 1)
          have hit1 := Lib.iterAt_heap wr w3.heap.size ⟨l.toArray⟩ k (k + 1) hit
          have hENC : Hid (Lib.encodeRune ((c.toNat : Nat) : Int) = [c]) := by
            have := Lib.encode_decode (c :: t) (by simp) (by rw [hd]; simp; omega)
            rw [hd] at this
            exact this
          go_wp2_with fail
          refine (meant_low c _ hlow).mono ?_
          rintro e wx ⟨rfl, bx⟩
          have hownx := hown1.below bx (Nat.le_refl _)
          have hbx := hb1.trans (bx.mono hb1.size)
          have hitx := (bx.block _ (Array.getElem?_eq_some_iff.1 hit1).1).trans hit1
          have hszx := hbx.size
          clear hown1 hb1 hit1
          by_cases h34 : c = 34 ∨ c = 92
          · rcases h34 with rfl | rfl
            · have HE : Hid (escB 34 = [92, 34]) := by show _ = _; decide
              have HM : Hid (meantF 34 = -1) := by show _ = _; decide
              rw [HM.out]
              go_wp2_with (at_builtin; (refine wpList_append_lit rfl _ _ rfl _ _ _ rfl hownx [92, 34] _ rfl 2 rfl rfl (by omega) (by omega) ?_; intro v' w2 hown' hgrow'))
              rw [List.cons_append, ← HE.out, ← HT.out] at hown'
              exact FIN _ w2 v' 1 hownx hbx hitx (by omega) (by omega) HVN.out hown' hgrow'
            · have HE : Hid (escB 92 = [92, 92]) := by show _ = _; decide
              have HM : Hid (meantF 92 = -1) := by show _ = _; decide
              rw [HM.out]
              go_wp2_with (at_builtin; (refine wpList_append_lit rfl _ _ rfl _ _ _ rfl hownx [92, 92] _ rfl 2 rfl rfl (by omega) (by omega) ?_; intro v' w2 hown' hgrow'))
              rw [List.cons_append, ← HE.out, ← HT.out] at hown'
              exact FIN _ w2 v' 1 hownx hbx hitx (by omega) (by omega) HVN.out hown' hgrow'
          · by_cases hsp : c = 8 ∨ c = 9 ∨ c = 10 ∨ c = 12 ∨ c = 13
            · clear h34
              rcases hsp with rfl | rfl | rfl | rfl | rfl
              · have HE : Hid (escB 8 = [92, 98]) := by show _ = _; decide
                have HM : Hid (meantF 8 = 0) := by show _ = _; decide
                rw [HM.out]
                go_wp2_with (at_builtin; (refine wpList_append_lit rfl _ _ rfl _ _ _ rfl hownx [92, 98] _ rfl 2 rfl rfl (by omega) (by omega) ?_; intro v' w2 hown' hgrow'))
                rw [List.cons_append, ← HE.out, ← HT.out] at hown'
                exact FIN _ w2 v' 1 hownx hbx hitx (by omega) (by omega) HVN.out hown' hgrow'
              · have HE : Hid (escB 9 = [92, 116]) := by show _ = _; decide
                have HM : Hid (meantF 9 = 4) := by show _ = _; decide
                rw [HM.out]
                go_wp2_with (at_builtin; (refine wpList_append_lit rfl _ _ rfl _ _ _ rfl hownx [92, 116] _ rfl 2 rfl rfl (by omega) (by omega) ?_; intro v' w2 hown' hgrow'))
                rw [List.cons_append, ← HE.out, ← HT.out] at hown'
                exact FIN _ w2 v' 1 hownx hbx hitx (by omega) (by omega) HVN.out hown' hgrow'
              · have HE : Hid (escB 10 = [92, 110]) := by show _ = _; decide
                have HM : Hid (meantF 10 = 2) := by show _ = _; decide
                rw [HM.out]
                go_wp2_with (at_builtin; (refine wpList_append_lit rfl _ _ rfl _ _ _ rfl hownx [92, 110] _ rfl 2 rfl rfl (by omega) (by omega) ?_; intro v' w2 hown' hgrow'))
                rw [List.cons_append, ← HE.out, ← HT.out] at hown'
                exact FIN _ w2 v' 1 hownx hbx hitx (by omega) (by omega) HVN.out hown' hgrow'
              · have HE : Hid (escB 12 = [92, 102]) := by show _ = _; decide
                have HM : Hid (meantF 12 = 1) := by show _ = _; decide
                rw [HM.out]
                go_wp2_with (at_builtin; (refine wpList_append_lit rfl _ _ rfl _ _ _ rfl hownx [92, 102] _ rfl 2 rfl rfl (by omega) (by omega) ?_; intro v' w2 hown' hgrow'))
                rw [List.cons_append, ← HE.out, ← HT.out] at hown'
                exact FIN _ w2 v' 1 hownx hbx hitx (by omega) (by omega) HVN.out hown' hgrow'
              · have HE : Hid (escB 13 = [92, 114]) := by show _ = _; decide
                have HM : Hid (meantF 13 = 3) := by show _ = _; decide
                rw [HM.out]
                go_wp2_with (at_builtin; (refine wpList_append_lit rfl _ _ rfl _ _ _ rfl hownx [92, 114] _ rfl 2 rfl rfl (by omega) (by omega) ?_; intro v' w2 hown' hgrow'))
                rw [List.cons_append, ← HE.out, ← HT.out] at hown'
                exact FIN _ w2 v' 1 hownx hbx hitx (by omega) (by omega) HVN.out hown' hgrow'
            · have q8 : ∀ d : UInt8, c ≠ d → ((c.toNat : Int) == (d.toNat : Int)) = false := fun d hd => by
                rw [beq_eq_false_iff_ne]; intro h; exact hd (UInt8.toNat_inj.1 (by omega))
              have n1 : ((c.toNat : Int) == 34) = false := q8 34 (fun h => h34 (.inl h))
              have n2 : ((c.toNat : Int) == 92) = false := q8 92 (fun h => h34 (.inr h))
              have HM := Lib.hid (meant_none c hsp)
              have HE0 : Hid (escB c = if c.toNat < 32 then [92, 117, 48, 48, hexB (c.toNat / 16), hexB (c.toNat % 16)] else [c]) := by
                show _ = _
                unfold escB
                rw [if_neg h34, if_neg (fun h => hsp (.inl h)), if_neg (fun h => hsp (.inr (.inl h))), if_neg (fun h => hsp (.inr (.inr (.inl h)))), if_neg (fun h => hsp (.inr (.inr (.inr (.inl h))))), if_neg (fun h => hsp (.inr (.inr (.inr (.inr h)))))]
              clear q8 h34 hsp
              rw [HM.out]
              by_cases h32 : c.toNat < 32
              · have HE : Hid (escB c = [92, 117, 48, 48, hexB (c.toNat / 16), hexB (c.toNat % 16)]) := HE0.out.trans (if_pos h32)
                clear HE0
                have hA : bits .and .i32 (c.toNat : Int) 15 = (c.toNat : Int) % 16 := bits_mask .i32 31 (by decide) (fun n h0 h1 => by rw [IntKind.wrap_i32]; omega) 4 (by decide) _ (by omega) (by omega)
                have hx1 := fun W => hex_index ((c.toNat : Int) / 16) (c.toNat / 16) W (by omega) (by omega) .i32
                have hx2 := fun W => hex_index ((c.toNat : Int) % 16) (c.toNat % 16) W (by omega) (by omega) .i32
                go_wp2_with fail
                go_region_held3 (fun _ => True) (trivial)
                  ((refine step_append_lit (by rfl) _ _ (by rfl) w.heap.size _ _ (by rfl) (by first | exact World.ownsRow.alloc hownx _ | exact (World.ownsRow.alloc hownx _).drew | exact ((World.ownsRow.alloc hownx _).drew).drew) ⟨wx.heap.size, 0, none⟩
                      [92, 117, 48, 48, hexB (c.toNat / 16), hexB (c.toNat % 16)] 6 6 (by rfl) (rb_const wx _ _ rfl (0, 0)) (by rfl) (by omega) (by omega) (by simp; omega) ?_; intro v' w2 hown' hgrow'))
                all_goals go_wp2
                all_goals
                  rw [List.cons_append, ← HE.out, ← HT.out] at hown'
                  exact FIN _ w2 v' 1 (World.ownsRow.alloc hownx _).drew (hbx.alloc hszx _).drew ((heap_alloc_old wx _ (Array.getElem?_eq_some_iff.1 hitx).1).trans hitx) (by omega) (by omega) HVN.out hown' hgrow'
              · have HE : Hid (escB c = [c]) := HE0.out.trans (if_neg h32)
                clear HE0
                go_wp2_with fail
                refine (appendRune_own w.heap.size u4 _ c.toNat (by omega) _ hownx (by omega) hszx).mono ?_
                rintro e w2 ⟨v', rfl, hown', hgrow'⟩
                rw [hENC.out, List.cons_append, ← HE.out, ← HT.out] at hown'
                go_wp2
                exact FIN _ w2 v' 1 hownx hbx hitx (by omega) (by omega) HVN.out hown' hgrow'
        · obtain ⟨hr1, hr2, hrv, hre⟩ := rune_multi c t (by omega) hn
          have hw := Lib.decodeL_width (c :: t)
          have hle := Lib.decodeL_le (c :: t) (by simp)
          generalize Lib.decodeL (c :: t) = p at *
          obtain ⟨r, d⟩ := p
          simp only at *
          rw [hdd] at hvn
          have HVN := Lib.hid hvn.symm
          have hT := HT0.out d
          rw [hm, hre] at hT
          have HT := Lib.hid hT
          rw [List.length_cons] at hle
          have hkd : k + d ≤ l.length := by omega
          clear hvn hdd hn hvk2 hvk HT0 hm HT1 hT hre hle
          have hown1 := hown.iterAt hit (k + d)
          have hb1 := Lib.below_iterAt hbr hs3 ⟨l.toArray⟩ (k + d)
          have hit1 := Lib.iterAt_heap wr w3.heap.size ⟨l.toArray⟩ k (k + d) hit
          have n1 : ((r : Int) == 34) = false := by rw [beq_eq_false_iff_ne]; omega
          have n2 : ((r : Int) == 92) = false := by rw [beq_eq_false_iff_ne]; omega
          have HRV := Lib.hid hrv
          have HFIN := Lib.hid FIN
          have HR1 := Lib.hid hr1
          have HR2 := Lib.hid hr2
          have HW := Lib.hid hw
          have HKD := Lib.hid hkd
          have n3 : decide ((r : Int) < 32) = false := decide_eq_false (by omega)
          have HO1 := Lib.hid hown1
          have HB1 := Lib.hid hb1
          have HI1 := Lib.hid hit1
          clear hrv FIN hlow hc ht htl hcl HM hlen hr1 hr2 hw hkd hown1 hb1 hown hit1
          go_wp2_with fail
          refine (meant_high r _ HR1.out HR2.out HRV.out).mono ?_
          rintro e wx ⟨rfl, bx⟩
          have hownx := HO1.out.below bx (Nat.le_refl _)
          have hbx := HB1.out.trans (bx.mono HB1.out.size)
          have hitx := (bx.block _ (Array.getElem?_eq_some_iff.1 HI1.out).1).trans HI1.out
          have hszx := hbx.size
          have HOX := Lib.hid hownx
          have HBX := Lib.hid hbx
          have HIX := Lib.hid hitx
          clear hownx hbx hitx
          go_wp2_with fail
          refine (appendRune_own w.heap.size u4 _ r HR2.out _ HOX.out (by omega) hszx).mono ?_
          rintro e w2 ⟨v', rfl, hown', hgrow'⟩
          rw [List.cons_append, ← HT.out] at hown'
          go_wp2
          exact HFIN.out _ w2 v' d HOX.out HBX.out HIX.out HW.out HKD.out HVN.out hown' hgrow'
      · have hkl : k = l.length := by omega
        have hnx := fun ty => Lib.run_next_end_at (P := Tryz.prog) wr w3.heap.size ⟨l.toArray⟩ k ty hit hp
        rw [hkl, List.take_length] at hown hlen1
        go_wp2_with (at_builtin; (refine wpList_append_lit rfl _ _ rfl _ _ _ rfl hown [34] _ rfl 1 rfl rfl (by omega) (by omega) ?_; intro v' w2 hown' hgrow'))
        obtain ⟨A, n, cap, rfl, hrb, hn⟩ := hown'.form
        have hstr := run_str_rb w2 A n cap _ hrb hn
        have hb3 : Below w.heap.size w w2 := hbr.grown hgrow' hsz (fun k hk => (hown.lt k hk).1)
        go_simp
        go_wp2
        go_ret2
        exact PutPost.yes HV.out rfl hb3
end Go.Proofs.YtajkgcmopmpihaaGreatDoor
namespace Go.Proofs.YtajkgcmopmpihaaGreatDoor
open Go.ChangeShapes Go.WideShapes Go.ChangeAt Go.RowKit Go.IntWalk
set_option linter.unusedVariables false
def TakeRel (q : List UInt8) (R : Option (List UInt8 × Nat)) (w : World) (v x : Value) (wr : World) : Prop :=
  ∃ (k nx : Nat) (out : List UInt8), k ≤ nx ∧ nx ≤ q.length ∧ (∀ j, k ≤ j → j < nx → (q.getD j 0).toNat < 128) ∧ x = .int .i64 (nx : Int) ∧ OwnBs w.heap.size wr v out ∧ Below w.heap.size w wr ∧
    wr.heap[w.heap.size]? = some (.stringIter ⟨q.toArray⟩ k) ∧ out.length ≤ 4 * nx ∧ Far R out nx (q.drop nx)
theorem runelen (r : Int) (w : World) : Calls Tryz.prog 97 #[.int .i32 r] w fun e w' => e = .returned (.int .i64 (Lib.runeLen r)) ∧ w = w' :=
  (Tryz.utf8_RuneLen r w).mono fun _ _ ⟨h1, h2⟩ => ⟨h1, h2.symm⟩
theorem take_fin {q out x : List UInt8} {R : Option (List UInt8 × Nat)} {w wr wx w2 : World} {v v' : Value} {k d n : Nat} {i : Int} (hi : i = (n : Int)) (hr0 : wr.heap[w.heap.size]? = some (.stringIter ⟨q.toArray⟩ k)) (hd : 1 ≤ d) (hkd : k + d ≤ n) (hnq : n ≤ q.length)
    (hasc : ∀ j, k + d ≤ j → j < n → (q.getD j 0).toNat < 128) (hown : OwnBs w.heap.size wx v out) (hb : Below w.heap.size w wx) (hit : wx.heap[w.heap.size]? = some (.stringIter ⟨q.toArray⟩ (k + d)))
    (hol : out.length ≤ 4 * k) (hx : x.length ≤ 4) (hF : Far R (out ++ x) n (q.drop n)) (hown' : OwnBs w.heap.size w2 v' (out ++ x)) (hg : wx.grownBy w2 v.ownBlock) :
    TakeRel q R w v' (.int .i64 i) w2 ∧ q.length - w2.iterPos w.heap.size < q.length - wr.iterPos w.heap.size := by
  subst hi
  have hi2 : w2.heap[w.heap.size]? = some (.stringIter ⟨q.toArray⟩ (k + d)) := (hg.block _ (Array.getElem?_eq_some_iff.1 hit).1 (hown.ne hit (by intro c f h; cases h))).trans hit
  refine ⟨⟨k + d, n, out ++ x, hkd, hnq, hasc, rfl, hown', hb.grown hg hb.size (fun k hk => (hown.lt k hk).1), hi2, by rw [List.length_append]; omega, hF⟩, ?_⟩
  have e1 : w2.iterPos w.heap.size = k + d := by simp [World.iterPos, hi2]
  have e2 : wr.iterPos w.heap.size = k := by simp [World.iterPos, hr0]
  rw [e1, e2]; omega
set_option maxRecDepth 100000 in
set_option maxHeartbeats 8000000 in
theorem take_calls (l : List UInt8) (a : Int) (w : World) (hl : l.length ≤ 1000000) :
    Calls Tryz.prog 81 #[.string ⟨l.toArray⟩, .int .i64 a] w (TakePost l a w) := by
  by_cases h0 : a < 0
  · have HE := Lib.hid (takeF_no l a (by omega))
    go_enter Tryz.func81, Tryz.ntmps81
    go_wp2
    go_ret3
    exact TakePost.no HE.out (Below.refl _ _)
  · by_cases h1 : (l.length : Int) ≤ a
    · have HE := Lib.hid (takeF_no l a (by omega))
      go_enter Tryz.func81, Tryz.ntmps81
      go_wp2
      go_ret3
      exact TakePost.no HE.out (Below.refl _ _)
    · obtain ⟨a, rfl⟩ : ∃ n : Nat, a = (n : Int) := ⟨a.toNat, by omega⟩
      have ha : a < l.length := by omega
      obtain ⟨c0, hc0⟩ : ∃ c, l[a] = c := ⟨_, rfl⟩
      have hg : l.getD a 0 = c0 := by rw [List.getD_eq_getElem?_getD, List.getElem?_eq_getElem ha]; exact hc0
      by_cases hq : c0 = 34
      · subst hq
        have HT := Lib.hid (takeF_in l a ha hg)
        obtain ⟨q, hq⟩ : ∃ q, l.drop (a + 1) = q := ⟨_, rfl⟩
        have hql : q.length = l.length - (a + 1) := by rw [← hq, List.length_drop]
        have hqs : q.length ≤ 1000000 := by omega
        rw [hq] at HT
        obtain ⟨R, hR⟩ : ∃ R, scan q = R := ⟨_, rfl⟩
        rw [hR] at HT
        have HF : Hid (Far R [] 0 q) := by rw [← hR]; exact Far.start _
        have HQL := Lib.hid hql
        clear hR hg hql
        go_enter Tryz.func81, Tryz.ntmps81
        go_wp2_with fail
        have hrel0 : TakeRel q R w (.slice none 0 0) (.int .i64 0) (w.iter ⟨q.toArray⟩ 0) :=
          ⟨0, 0, [], Nat.le_refl _, Nat.zero_le _, fun j h1 h2 => by omega, rfl, OwnBs.nil _ _, (Below.refl _ _).alloc (Nat.le_refl _) _, World.iter_heap w _ 0, by simp, HF.out⟩
        go_loopw [8, 9] (TakeRel q R w) (fun _ _ wr => q.length - wr.iterPos w.heap.size)
        case atStart => exact hrel0
        case round =>
          clear hrel0
          obtain ⟨k, nx, out, hkn, hnq, hasc, rfl, hown, hbr, hit, hol, hF⟩ := hrel
          have hsz := hbr.size
          by_cases hp : k < q.length
          · have hnx := fun ty => Lib.run_next_any_at (P := Tryz.prog) wr w.heap.size ⟨q.toArray⟩ k ty hit hp
            have hdl : Utf8.decode ⟨q.toArray⟩ k = Lib.decodeL (q.drop k) := (Lib.decodeL_drop ⟨q.toArray⟩ k).symm
            rw [hdl] at hnx
            clear hdl
            obtain ⟨c, hc⟩ : ∃ c, q[k] = c := ⟨_, rfl⟩
            obtain ⟨t, ht⟩ : ∃ t, q.drop (k + 1) = t := ⟨_, rfl⟩
            have hm : q.drop k = c :: t := by rw [List.drop_eq_getElem_cons hp, hc, ht]
            have hml : (c :: t).length = q.length - k := by rw [← hm, List.length_drop]
            have hcl := c.toNat_lt
            rw [hm] at hnx
            have hdr : ∀ d, (c :: t).drop d = q.drop (k + d) := fun d => by rw [← hm, List.drop_drop]
            have HDR := Lib.hid hdr
            have HML := Lib.hid hml
            have HA := Lib.hid hasc
            clear ht hml hdr hasc
            by_cases hlt : k < nx
            · have hlow : c.toNat < 128 := by
                have := HA.out k (Nat.le_refl _) hlt
                rw [List.getD_eq_getElem?_getD, List.getElem?_eq_getElem hp] at this
                rw [← hc]; exact this
              rw [Lib.decodeL_ascii c t hlow] at hnx
              simp only at hnx
              have hown1 := hown.iterAt hit (k + 1)
              have hb1 := Lib.below_iterAt hbr (Nat.le_refl _) ⟨q.toArray⟩ (k + 1)
              have hit1 := Lib.iterAt_heap wr w.heap.size ⟨q.toArray⟩ k (k + 1) hit
              have HFF := Lib.hid hF
              have HR2 : Hid (TakeRel q R w u8 (.int .i64 (nx : Int)) (wr.iterAt w.heap.size ⟨q.toArray⟩ (k + 1))) := 
                ⟨k + 1, nx, out, hlt, hnq, fun j h1 h2 => HA.out j (by omega) h2, rfl, hown1, hb1, hit1, hol, HFF.out⟩
              have HM2 : Hid (q.length - (wr.iterAt w.heap.size ⟨q.toArray⟩ (k + 1)).iterPos w.heap.size < q.length - wr.iterPos w.heap.size) := by
                have e1 : (wr.iterAt w.heap.size ⟨q.toArray⟩ (k + 1)).iterPos w.heap.size = k + 1 := by simp [World.iterPos, hit1]
                have e2 : wr.iterPos w.heap.size = k := by simp [World.iterPos, hit]
                show _ < _
                rw [e1, e2]; omega
              clear hF hown hown1 hb1 hit1 hc hm
              go_wp2_with fail
              exact ⟨HR2.out, HM2.out⟩
            · obtain rfl : nx = k := by omega
              clear hkn hlt HA
              rw [hm] at hF
              have HFF := Lib.hid hF
              have HHM := Lib.hid hm
              clear hF
              by_cases hlow : c.toNat < 128
              · rw [Lib.decodeL_ascii c t hlow] at hnx
                simp only at hnx
                have hown1 := hown.iterAt hit (nx + 1)
                have hb1 := Lib.below_iterAt hbr (Nat.le_refl _) ⟨q.toArray⟩ (nx + 1)
                have hit1 := Lib.iterAt_heap wr w.heap.size ⟨q.toArray⟩ nx (nx + 1) hit
                have hs1 := hb1.size
                have HRL : Hid (Lib.runeLen (c.toNat : Int) = 1) := by
                  show _ = _; unfold Lib.runeLen; rw [if_neg (by omega), if_pos (by omega)]
                clear hown hbr
                by_cases h34 : c = 34
                · subst h34
                  have HRL : Hid (Lib.runeLen 34 = 1) := by show _ = _; decide
                  have HR := Lib.hid (take_some HT.out HFF.out.quote)
                  obtain ⟨A, n, cap, rfl, hrb, hn⟩ := hown1.form
                  have hstr := run_str_rb _ A n cap _ hrb hn
                  go_wp2_with fail
                  refine (runelen _ _).mono ?_
                  rintro e wx ⟨rfl, rfl⟩
                  rw [HRL.out]
                  go_wp2
                  go_ret3
                  rw [show ((a : Int) + 1 + (nx : Int) + 1) = ((a + 1 + (nx + 1) : Nat) : Int) by omega]
                  exact TakePost.yes HR.out hb1
                · have n1 : ((c.toNat : Int) == 34) = false := neq8 c 34 h34
                  by_cases h92 : c = 92
                  · subst h92
                    have HRL : Hid (Lib.runeLen 92 = 1) := by show _ = _; decide
                    have hsf : stepF (92 :: t) = escF (92 :: t) := if_pos rfl
                    obtain ⟨⟨r, d⟩, hes⟩ : ∃ p, escF (92 :: t) = p := ⟨_, rfl⟩
                    have HES := Lib.hid hes
                    have hsf2 := hsf.trans hes
                    have hle2 : (92 :: t).length ≤ 1000000 := by rw [HML.out]; omega
                    have HSF := Lib.hid hsf2
                    clear hsf hes hsf2 n1 hlow
                    by_cases hd : d = 0
                    · subst hd
                      have HR := Lib.hid (take_none HT.out (HFF.out.fail h34 (by rw [HSF.out])))
                      go_wp2_with fail
                      refine (runelen _ _).mono ?_
                      rintro e wx ⟨rfl, rfl⟩
                      rw [HRL.out]
                      go_wp2_with fail
                      refine (escaped_calls (92 :: t) _ hle2).mono ?_
                      rw [HES.out]
                      rintro e w1 ⟨rfl, b1⟩
                      go_wp2
                      go_ret3
                      exact TakePost.no HR.out (hb1.trans (b1.mono hs1))
                    · have hnz : (stepF (92 :: t)).2 ≠ 0 := by rw [HSF.out]; exact hd
                      have hek := escF_ok (92 :: t) rfl (by rw [HES.out]; exact hd)
                      have hnext := HFF.out.next h34 hnz
                      rw [HSF.out, HDR.out] at hnext
                      rw [HES.out] at hek
                      obtain ⟨HOK, hdl, hasc⟩ := hek
                      simp only at HOK hdl hasc hnext
                      rw [HML.out] at hdl
                      have HK := Lib.hid HOK
                      have HN := Lib.hid hnext
                      have n2 : ((d : Int) == 0) = false := by rw [beq_eq_false_iff_ne]; omega
                      have HD := Lib.hid (And.intro hd hdl)
                      have hds : d ≤ 1000000 := by omega
                      have HA : Hid (∀ j, nx + 1 ≤ j → j < nx + d → (q.getD j 0).toNat < 128) := by
                        intro j hj1 hj2
                        have := hasc (j - nx) (by omega)
                        rw [← HHM.out, List.getD_eq_getElem?_getD, List.getElem?_drop, ← List.getD_eq_getElem?_getD, show nx + (j - nx) = j by omega] at this
                        exact this
                      clear hnext hnz hd hdl hasc HOK
                      go_wp2_with fail
                      refine (runelen _ _).mono ?_
                      rintro e wx ⟨rfl, rfl⟩
                      rw [HRL.out]
                      go_wp2_with fail
                      refine (escaped_calls (92 :: t) _ hle2).mono ?_
                      rw [HES.out]
                      rintro e w1 ⟨rfl, b1⟩
                      have hown2 := hown1.below b1 (Nat.le_refl _)
                      have hb2 := hb1.trans (b1.mono hs1)
                      have hit2 := (b1.block _ (Array.getElem?_eq_some_iff.1 hit1).1).trans hit1
                      have hs2 := hb2.size
                      go_wp2_with fail
                      refine (appendRune_own w.heap.size u8 _ r HK.out.le _ hown2 (by omega) hs2).mono ?_
                      rintro e w2 ⟨v', rfl, hown', hgrow'⟩
                      go_wp2_with fail
                      exact take_fin (by omega) hit (Nat.le_refl 1) (by have := HD.out; omega) (by have := HD.out; omega) HA.out hown2 hb2 hit2 hol (len_rune4 r) HN.out hown' hgrow'
                  · have n2 : ((c.toNat : Int) == 92) = false := neq8 c 92 h92
                    have n5 : ((c.toNat : Int) == 65533) = false := by rw [beq_eq_false_iff_ne]; omega
                    have hrf : runeF (c :: t) = (c.toNat, 1) := cls_1 c t hlow
                    have hsf : stepF (c :: t) = if (runeF (c :: t)).1 < 32 then (0, 0) else runeF (c :: t) := if_neg h92
                    rw [hrf] at hsf
                    simp only at hsf
                    by_cases h32 : c.toNat < 32
                    · rw [if_pos h32] at hsf
                      have HR := Lib.hid (take_none HT.out (HFF.out.fail h34 (by rw [hsf])))
                      clear hrf hsf
                      go_wp2_with fail
                      refine (runelen _ _).mono ?_
                      rintro e wx ⟨rfl, rfl⟩
                      rw [HRL.out]
                      go_wp2
                      go_ret3
                      exact TakePost.no HR.out hb1
                    · rw [if_neg h32] at hsf
                      have hnext := HFF.out.next h34 (by rw [hsf]; simp)
                      rw [hsf, HDR.out] at hnext
                      simp only at hnext
                      have HN := Lib.hid hnext
                      have n6 : decide ((c.toNat : Int) < 32) = false := decide_eq_false (by omega)
                      clear hrf hsf hnext h32 h34 h92 hcl
                      go_wp2_with fail
                      refine (runelen _ _).mono ?_
                      rintro e wx ⟨rfl, rfl⟩
                      rw [HRL.out]
                      go_wp2_with fail
                      refine (appendRune_own w.heap.size u8 _ c.toNat (by omega) _ hown1 (by omega) hs1).mono ?_
                      rintro e w2 ⟨v', rfl, hown', hgrow'⟩
                      go_wp2_with fail
                      exact take_fin (by omega) hit (Nat.le_refl 1) (Nat.le_refl _) (by omega) (fun j h1 h2 => by omega) hown1 hb1 hit1 hol (len_rune4 _) HN.out hown' hgrow'
              · obtain ⟨h1, h2, h3⟩ := rune_hi c t (by omega)
                have hdw := Lib.decodeL_width (c :: t)
                have hdl := Lib.decodeL_le (c :: t) (by simp)
                have hne : (c :: t) ≠ [] := by simp
                have hnr := noR_iff (c :: t) hne
                have hln := len_decode (c :: t) hne
                have hrn : runeF (c :: t) = if NoR (c :: t) then (0, 0) else Lib.decodeL (c :: t) := runeF_of hne
                have h34 : c ≠ 34 := by intro h; subst h; exact hlow (by decide)
                have h92 : c ≠ 92 := by intro h; subst h; exact hlow (by decide)
                have hsf : stepF (c :: t) = if (runeF (c :: t)).1 < 32 then (0, 0) else runeF (c :: t) := if_neg h92
                obtain ⟨⟨r, d⟩, hrd⟩ : ∃ p, Lib.decodeL (c :: t) = p := ⟨_, rfl⟩
                rw [hrd] at hnx h1 h2 h3 hdw hdl hnr hln hrn
                simp only at hnx h1 h2 h3 hdw hdl hnr hln hrn
                rw [HML.out] at hdl
                have n1 : ((r : Int) == 34) = false := by rw [beq_eq_false_iff_ne]; omega
                have n2 : ((r : Int) == 92) = false := by rw [beq_eq_false_iff_ne]; omega
                have n3 : decide ((r : Int) < 32) = false := decide_eq_false (by omega)
                have hown1 := hown.iterAt hit (nx + d)
                have hb1 := Lib.below_iterAt hbr (Nat.le_refl _) ⟨q.toArray⟩ (nx + d)
                have hit1 := Lib.iterAt_heap wr w.heap.size ⟨q.toArray⟩ nx (nx + d) hit
                have hs1 := hb1.size
                clear hown hbr
                by_cases hn : NoR (c :: t)
                · have hr : r = 65533 := by have := hn.1; rw [hrd] at this; exact this
                  rw [if_pos hn] at hrn
                  rw [hrn] at hsf
                  simp only at hsf
                  have HR := Lib.hid (take_none HT.out (HFF.out.fail h34 (by rw [hsf]; simp)))
                  have HP := Lib.hid ((hnr hr).1 hn)
                  have n5 : ((r : Int) == 65533) = true := by rw [hr]; rfl
                  have HRL : Hid (Lib.runeLen (r : Int) = 3) := by show _ = _; rw [hr]; decide
                  clear hr hrn hsf hln hnr h1 h2 h3 hrd hn hlow
                  go_wp2_with fail
                  refine (runelen _ _).mono ?_
                  rintro e wx ⟨rfl, rfl⟩
                  rw [HRL.out]
                  go_wp2_with fail
                  refine (told_calls _ _).mono ?_
                  rintro e wx ⟨rfl, rfl⟩
                  rw [HP.out]
                  go_wp2
                  go_ret3
                  exact TakePost.no HR.out hb1
                · rw [if_neg hn] at hrn
                  rw [hrn] at hsf
                  simp only at hsf
                  rw [if_neg (by omega)] at hsf
                  have hnz : (stepF (c :: t)).2 ≠ 0 := by rw [hsf]; simp only []; omega
                  have hnext := HFF.out.next h34 hnz
                  rw [hsf, HDR.out] at hnext
                  simp only at hnext
                  have HN := Lib.hid hnext
                  have HRL : Hid (Lib.runeLen (r : Int) = (d : Int)) := hln hn
                  have n6 : ((d : Int) == 0) = false := by rw [beq_eq_false_iff_ne]; omega
                  have hds : d ≤ 1000000 := by omega
                  have HD := Lib.hid (And.intro hdw hdl)
                  have H2 := Lib.hid h2
                  by_cases hr : r = 65533
                  · have HP : Hid (Lib.hasPrefix (c :: t) [239, 191, 189] = true) := by
                      show _ = _
                      cases h : Lib.hasPrefix (c :: t) [239, 191, 189]
                      · exact absurd ((hnr hr).2 h) hn
                      · rfl
                    have n5 : ((r : Int) == 65533) = true := by rw [hr]; rfl
                    clear hr hrn hsf hln hnr h1 h2 h3 hrd hn hlow hnext hnz hdw hdl
                    go_wp2_with fail
                    refine (runelen _ _).mono ?_
                    rintro e wx ⟨rfl, rfl⟩
                    rw [HRL.out]
                    go_wp2_with fail
                    refine (told_calls _ _).mono ?_
                    rintro e wx ⟨rfl, rfl⟩
                    rw [HP.out]
                    go_wp2_with fail
                    refine (appendRune_own w.heap.size u8 _ r H2.out _ hown1 (by omega) hs1).mono ?_
                    rintro e w2 ⟨v', rfl, hown', hgrow'⟩
                    go_wp2_with fail
                    exact take_fin (by omega) hit HD.out.1 (Nat.le_refl _) (by have := HD.out; omega) (fun j h1 h2 => by omega) hown1 hb1 hit1 hol (len_rune4 _) HN.out hown' hgrow'
                  · have n5 : ((r : Int) == 65533) = false := by rw [beq_eq_false_iff_ne]; omega
                    clear hr hrn hsf hln hnr h1 h2 h3 hrd hn hlow hnext hnz hdw hdl
                    go_wp2_with fail
                    refine (runelen _ _).mono ?_
                    rintro e wx ⟨rfl, rfl⟩
                    rw [HRL.out]
                    go_wp2_with fail
                    refine (appendRune_own w.heap.size u8 _ r H2.out _ hown1 (by omega) hs1).mono ?_
                    rintro e w2 ⟨v', rfl, hown', hgrow'⟩
                    go_wp2_with fail
                    exact take_fin (by omega) hit HD.out.1 (Nat.le_refl _) (by have := HD.out; omega) (fun j h1 h2 => by omega) hown1 hb1 hit1 hol (len_rune4 _) HN.out hown' hgrow'
          · have HR := Lib.hid (take_none HT.out (by rw [List.drop_of_length_le (by omega)] at hF; exact hF.done))
            have hnx := fun ty => Lib.run_next_end_at (P := Tryz.prog) wr w.heap.size ⟨q.toArray⟩ k ty hit hp
            go_wp2
            go_ret3
            exact TakePost.no HR.out hbr
      · have n1 : ((c0.toNat : Int) != 34) = true := by rw [bne_iff_ne]; intro h; exact hq (UInt8.toNat_inj.1 (by have : (34 : UInt8).toNat = 34 := rfl; omega))
        have HE := Lib.hid (takeF_no l a (fun h => hq (by have := h.2.2; simp only [Int.toNat_natCast] at this; rw [hg] at this; exact this)))
        clear hq hg
        have hcl := c0.toNat_lt
        go_enter Tryz.func81, Tryz.ntmps81
        go_wp2
        go_ret3
        exact TakePost.no HE.out (Below.refl _ _)
end Go.Proofs.YtajkgcmopmpihaaGreatDoor
