/- Texts put together: QuH JvX JvY. -/
import Derived.Test.YtkbcbikilgcckaaGreatDoorZ5da3d9b302
import Derived.Test.YtkbcbikilgcckaaGreatDoorZb7a4c958af
import Derived.Test.YtkbcbikilgcckaaGreatDoorZfbe618e092
import Derived.Test.YtkbcbikilgcckaaGreatDoorZ3b60d505ed
import Derived.Lib.LaidTab
import Derived.Lib.ItoaNum
namespace Go.Proofs.YtkbcbikilgcckaaGreatDoor
open Go.ChangeShapes Go.WideShapes Go.ChangeAt Go.RowKit Go.IntWalk
set_option linter.unusedVariables false

set_option maxRecDepth 100000 in
set_option maxHeartbeats 4000000 in
theorem put_calls (l : List UInt8) (w : World) (hl : l.length ≤ 1000000) :
    Calls Tryz.prog 131 #[.string ⟨l.toArray⟩] w (PutPost l w) := by
  obtain ⟨i0, hi0, hz0, hz1, hz2⟩ := info_parts infoU8
  cases hv : Lib.validD l with
  | false =>
    have HV := Lib.hid hv; clear hv
    go_enter Tryz.func131, Tryz.ntmps131
    go_wp2_with fail
    refine (valid_calls l _ hl).mono ?_
    rintro e w1 ⟨rfl, b1⟩
    rw [HV.out]
    go_wp2
    go_ret2
    exact PutPost.no HV.out b1
  | true =>
    have HV := Lib.hid hv; clear hv
    go_enter Tryz.func131, Tryz.ntmps131
    go_wp2_with fail
    refine (valid_calls l _ hl).mono ?_
    rintro e w1 ⟨rfl, b1⟩
    rw [HV.out]
    have hs1 := b1.size
    go_wp2_with (first
      | (refine wpList_make_own _ rfl _ _ _ rfl w.heap.size 5 i0 (.int .u8 0) 1 Tryz.underlying65 hi0 hz0 hz1 .i64 .i64 ((l.length : Int) + 2) (l.length + 2) rfl rfl (by omega) (by rw [hz2]; omega) (by unfold maxLen; omega) hs1 ?_; intro w2 hown0 hgrow0; have b2 : Below w.heap.size w w2 := b1.grown hgrow0 hs1 (fun k h => by cases h); have hs2 := b2.size; have hown0' : OwnBs w.heap.size w2 _ [] := hown0)
      | (at_builtin; (refine wpList_append_lit rfl _ _ rfl _ _ _ rfl hown0' [34] _ rfl 1 rfl rfl (by simp) (by omega) ?_; intro v1 w3 hown1 hgrow1)))
    have b3 : Below w.heap.size w w3 := b2.grown hgrow1 hs2 (fun k hk => (hown0'.lt k hk).1)
    have hs3 := b3.size
    have b3' : Below w.heap.size w (w3.iter ⟨l.toArray⟩ 0) := b3.alloc hs3 _
    have hown2 : OwnBs w.heap.size (w3.iter ⟨l.toArray⟩ 0) v1 (34 :: escL (l.take 0)) := World.ownsRow.alloc hown1 _
    have hit0 : (w3.iter ⟨l.toArray⟩ 0).heap[w3.heap.size]? = some (.stringIter ⟨l.toArray⟩ 0) := World.iter_heap w3 _ 0
    clear hown0 hgrow0 hown0' hgrow1 hown1
    go_loopw [4] (fun v wr => ∃ k, k ≤ l.length ∧ OwnBs w.heap.size wr v (34 :: escL (l.take k)) ∧ Below w.heap.size w wr ∧ wr.heap[w3.heap.size]? = some (.stringIter ⟨l.toArray⟩ k) ∧ Hid (Lib.validD (l.drop k) = true)) (fun _ wr => l.length - wr.iterPos w3.heap.size)
    case atStart => exact ⟨0, Nat.zero_le _, hown2, b3', hit0, HV.out⟩
    case round =>
      clear hown2 b3' hit0
      obtain ⟨k, hk, hown, hbr, hit, hvk⟩ := hrel
      have hsz := hbr.size
      have hlen := escL_take_len l k hk
      have hlen1 : (34 :: escL (l.take k)).length ≤ 6 * k + 1 := by simp; omega
      by_cases hp : k < l.length
      · have hnx := fun ty => Lib.run_next_any_at (P := Tryz.prog) wr w3.heap.size ⟨l.toArray⟩ k ty hit hp
        have hdl : Utf8.decode ⟨l.toArray⟩ k = Lib.decodeL (l.drop k) := (Lib.decodeL_drop ⟨l.toArray⟩ k).symm
        rw [hdl] at hnx
        clear hdl
        obtain ⟨c, hc⟩ : ∃ c, l[k] = c := ⟨_, rfl⟩
        obtain ⟨t, ht⟩ : ∃ t, l.drop (k + 1) = t := ⟨_, rfl⟩
        have hm : l.drop k = c :: t := by rw [List.drop_eq_getElem_cons hp, hc, ht]
        have htl : t.length = l.length - (k + 1) := by rw [← ht, List.length_drop]
        have hcl := c.toNat_lt
        have hvk2 := hvk.out
        rw [hm] at hvk2 hnx
        have hn : ¬ NoR (c :: t) := fun h => by rw [valid_stop _ (by simp) h] at hvk2; cases hvk2
        have hvn := valid_go (c :: t) (by simp) hn
        rw [hvk2] at hvn
        have HT0 := Lib.hid (escL_take_rune l k)
        have HT1 := Lib.hid (escL_take l k hp)
        rw [hc] at HT1
        have HM := Lib.hid hm
        have hdd : ∀ d, (c :: t).drop d = l.drop (k + d) := fun d => by rw [← HM.out, List.drop_drop]
        have FIN : ∀ (wx w2 : World) (v' : Value) (d : Nat), OwnBs w.heap.size wx u4 (34 :: escL (l.take k)) → Below w.heap.size w wx → wx.heap[w3.heap.size]? = some (.stringIter ⟨l.toArray⟩ (k + d)) → 1 ≤ d → k + d ≤ l.length → Lib.validD (l.drop (k + d)) = true →
            OwnBs w.heap.size w2 v' (34 :: escL (l.take (k + d))) → wx.grownBy w2 u4.ownBlock →
            (∃ k1, k1 ≤ l.length ∧ OwnBs w.heap.size w2 v' (34 :: escL (l.take k1)) ∧ Below w.heap.size w w2 ∧ w2.heap[w3.heap.size]? = some (.stringIter ⟨l.toArray⟩ k1) ∧ Hid (Lib.validD (l.drop k1) = true)) ∧
              l.length - w2.iterPos w3.heap.size < l.length - wr.iterPos w3.heap.size := by
          intro wx w2 v' d ho hb hi h1 h2 h3 ho2 hg
          have hi2 : w2.heap[w3.heap.size]? = some (.stringIter ⟨l.toArray⟩ (k + d)) := (hg.block _ (Array.getElem?_eq_some_iff.1 hi).1 (ho.ne hi (by intro c f h; cases h))).trans hi
          refine ⟨⟨k + d, h2, ho2, hb.grown hg hb.size (fun k hk => (ho.lt k hk).1), hi2, h3⟩, ?_⟩
          have e1 : w2.iterPos w3.heap.size = k + d := by simp [World.iterPos, hi2]
          have e2 : wr.iterPos w3.heap.size = k := by simp [World.iterPos, hit]
          rw [e1, e2]; omega
        by_cases hlow : c.toNat < 128
        · have hd := Lib.decodeL_ascii c t hlow
          rw [hd] at hnx hvn
          rw [hdd] at hvn
          simp only at hnx hvn
          have HVN := Lib.hid hvn.symm
          clear hvn hdd hn hvk2 hvk HT0 hm
          have HT : Hid (escL (l.take (k + 1)) = escL (l.take k) ++ escB c) := HT1.out
          clear HT1
          have hown1 := hown.iterAt hit (k + 1)
          have hb1 := Lib.below_iterAt hbr hs3 ⟨l.toArray⟩ (k + 1)
          have hit1 := Lib.iterAt_heap wr w3.heap.size ⟨l.toArray⟩ k (k + 1) hit
          have hENC : Hid (Lib.encodeRune ((c.toNat : Nat) : Int) = [c]) := by
            have := Lib.encode_decode (c :: t) (by simp) (by rw [hd]; simp; omega)
            rw [hd] at this
            exact this
          go_wp2_with fail
          refine (meant_low c _ hlow).mono ?_
          rintro e wx ⟨rfl, bx⟩
          have hownx := hown1.below bx (Nat.le_refl _)
          have hbx := hb1.trans (bx.mono hb1.size)
          have hitx := (bx.block _ (Array.getElem?_eq_some_iff.1 hit1).1).trans hit1
          have hszx := hbx.size
          clear hown1 hb1 hit1
          by_cases h34 : c = 34 ∨ c = 92
          · rcases h34 with rfl | rfl
            · have HE : Hid (escB 34 = [92, 34]) := by show _ = _; decide
              have HM : Hid (meantF 34 = -1) := by show _ = _; decide
              rw [HM.out]
              go_wp2_with (at_builtin; (refine wpList_append_lit rfl _ _ rfl _ _ _ rfl hownx [92, 34] _ rfl 2 rfl rfl (by omega) (by omega) ?_; intro v' w2 hown' hgrow'))
              rw [List.cons_append, ← HE.out, ← HT.out] at hown'
              exact FIN _ w2 v' 1 hownx hbx hitx (by omega) (by omega) HVN.out hown' hgrow'
            · have HE : Hid (escB 92 = [92, 92]) := by show _ = _; decide
              have HM : Hid (meantF 92 = -1) := by show _ = _; decide
              rw [HM.out]
              go_wp2_with (at_builtin; (refine wpList_append_lit rfl _ _ rfl _ _ _ rfl hownx [92, 92] _ rfl 2 rfl rfl (by omega) (by omega) ?_; intro v' w2 hown' hgrow'))
              rw [List.cons_append, ← HE.out, ← HT.out] at hown'
              exact FIN _ w2 v' 1 hownx hbx hitx (by omega) (by omega) HVN.out hown' hgrow'
          · by_cases hsp : c = 8 ∨ c = 9 ∨ c = 10 ∨ c = 12 ∨ c = 13
            · clear h34
              rcases hsp with rfl | rfl | rfl | rfl | rfl
              · have HE : Hid (escB 8 = [92, 98]) := by show _ = _; decide
                have HM : Hid (meantF 8 = 0) := by show _ = _; decide
                rw [HM.out]
                go_wp2_with (at_builtin; (refine wpList_append_lit rfl _ _ rfl _ _ _ rfl hownx [92, 98] _ rfl 2 rfl rfl (by omega) (by omega) ?_; intro v' w2 hown' hgrow'))
                rw [List.cons_append, ← HE.out, ← HT.out] at hown'
                exact FIN _ w2 v' 1 hownx hbx hitx (by omega) (by omega) HVN.out hown' hgrow'
              · have HE : Hid (escB 9 = [92, 116]) := by show _ = _; decide
                have HM : Hid (meantF 9 = 4) := by show _ = _; decide
                rw [HM.out]
                go_wp2_with (at_builtin; (refine wpList_append_lit rfl _ _ rfl _ _ _ rfl hownx [92, 116] _ rfl 2 rfl rfl (by omega) (by omega) ?_; intro v' w2 hown' hgrow'))
                rw [List.cons_append, ← HE.out, ← HT.out] at hown'
                exact FIN _ w2 v' 1 hownx hbx hitx (by omega) (by omega) HVN.out hown' hgrow'
              · have HE : Hid (escB 10 = [92, 110]) := by show _ = _; decide
                have HM : Hid (meantF 10 = 2) := by show _ = _; decide
                rw [HM.out]
                go_wp2_with (at_builtin; (refine wpList_append_lit rfl _ _ rfl _ _ _ rfl hownx [92, 110] _ rfl 2 rfl rfl (by omega) (by omega) ?_; intro v' w2 hown' hgrow'))
                rw [List.cons_append, ← HE.out, ← HT.out] at hown'
                exact FIN _ w2 v' 1 hownx hbx hitx (by omega) (by omega) HVN.out hown' hgrow'
              · have HE : Hid (escB 12 = [92, 102]) := by show _ = _; decide
                have HM : Hid (meantF 12 = 1) := by show _ = _; decide
                rw [HM.out]
                go_wp2_with (at_builtin; (refine wpList_append_lit rfl _ _ rfl _ _ _ rfl hownx [92, 102] _ rfl 2 rfl rfl (by omega) (by omega) ?_; intro v' w2 hown' hgrow'))
                rw [List.cons_append, ← HE.out, ← HT.out] at hown'
                exact FIN _ w2 v' 1 hownx hbx hitx (by omega) (by omega) HVN.out hown' hgrow'
              · have HE : Hid (escB 13 = [92, 114]) := by show _ = _; decide
                have HM : Hid (meantF 13 = 3) := by show _ = _; decide
                rw [HM.out]
                go_wp2_with (at_builtin; (refine wpList_append_lit rfl _ _ rfl _ _ _ rfl hownx [92, 114] _ rfl 2 rfl rfl (by omega) (by omega) ?_; intro v' w2 hown' hgrow'))
                rw [List.cons_append, ← HE.out, ← HT.out] at hown'
                exact FIN _ w2 v' 1 hownx hbx hitx (by omega) (by omega) HVN.out hown' hgrow'
            · have q8 : ∀ d : UInt8, c ≠ d → ((c.toNat : Int) == (d.toNat : Int)) = false := fun d hd => by
                rw [beq_eq_false_iff_ne]; intro h; exact hd (UInt8.toNat_inj.1 (by omega))
              have n1 : ((c.toNat : Int) == 34) = false := q8 34 (fun h => h34 (.inl h))
              have n2 : ((c.toNat : Int) == 92) = false := q8 92 (fun h => h34 (.inr h))
              have HM := Lib.hid (meant_none c hsp)
              have HE0 : Hid (escB c = if c.toNat < 32 then [92, 117, 48, 48, hexB (c.toNat / 16), hexB (c.toNat % 16)] else [c]) := by
                show _ = _
                unfold escB
                rw [if_neg h34, if_neg (fun h => hsp (.inl h)), if_neg (fun h => hsp (.inr (.inl h))), if_neg (fun h => hsp (.inr (.inr (.inl h)))), if_neg (fun h => hsp (.inr (.inr (.inr (.inl h))))), if_neg (fun h => hsp (.inr (.inr (.inr (.inr h)))))]
              clear q8 h34 hsp
              rw [HM.out]
              by_cases h32 : c.toNat < 32
              · have HE : Hid (escB c = [92, 117, 48, 48, hexB (c.toNat / 16), hexB (c.toNat % 16)]) := HE0.out.trans (if_pos h32)
                clear HE0
                have hA : bits .and .i32 (c.toNat : Int) 15 = (c.toNat : Int) % 16 := bits_mask .i32 31 (by decide) (fun n h0 h1 => by rw [IntKind.wrap_i32]; omega) 4 (by decide) _ (by omega) (by omega)
                have hx1 := fun W => hex_index ((c.toNat : Int) / 16) (c.toNat / 16) W (by omega) (by omega) .i32
                have hx2 := fun W => hex_index ((c.toNat : Int) % 16) (c.toNat % 16) W (by omega) (by omega) .i32
                go_wp2_with fail
                go_region_held3 (fun _ => True) (trivial)
                  ((refine step_append_lit (by rfl) _ _ (by rfl) w.heap.size _ _ (by rfl) (by first | exact World.ownsRow.alloc hownx _ | exact (World.ownsRow.alloc hownx _).drew | exact ((World.ownsRow.alloc hownx _).drew).drew) ⟨wx.heap.size, 0, none⟩
                      [92, 117, 48, 48, hexB (c.toNat / 16), hexB (c.toNat % 16)] 6 6 (by rfl) (rb_const wx _ _ rfl (0, 0)) (by rfl) (by omega) (by omega) (by simp; omega) ?_; intro v' w2 hown' hgrow'))
                all_goals go_wp2
                all_goals
                  rw [List.cons_append, ← HE.out, ← HT.out] at hown'
                  exact FIN _ w2 v' 1 (World.ownsRow.alloc hownx _).drew (hbx.alloc hszx _).drew ((heap_alloc_old wx _ (Array.getElem?_eq_some_iff.1 hitx).1).trans hitx) (by omega) (by omega) HVN.out hown' hgrow'
              · have HE : Hid (escB c = [c]) := HE0.out.trans (if_neg h32)
                clear HE0
                go_wp2_with fail
                refine (appendRune_own w.heap.size u4 _ c.toNat (by omega) _ hownx (by omega) hszx).mono ?_
                rintro e w2 ⟨v', rfl, hown', hgrow'⟩
                rw [hENC.out, List.cons_append, ← HE.out, ← HT.out] at hown'
                go_wp2
                exact FIN _ w2 v' 1 hownx hbx hitx (by omega) (by omega) HVN.out hown' hgrow'
        · obtain ⟨hr1, hr2, hrv, hre⟩ := rune_multi c t (by omega) hn
          have hw := Lib.decodeL_width (c :: t)
          have hle := Lib.decodeL_le (c :: t) (by simp)
          generalize Lib.decodeL (c :: t) = p at *
          obtain ⟨r, d⟩ := p
          simp only at *
          rw [hdd] at hvn
          have HVN := Lib.hid hvn.symm
          have hT := HT0.out d
          rw [hm, hre] at hT
          have HT := Lib.hid hT
          rw [List.length_cons] at hle
          have hkd : k + d ≤ l.length := by omega
          clear hvn hdd hn hvk2 hvk HT0 hm HT1 hT hre hle
          have hown1 := hown.iterAt hit (k + d)
          have hb1 := Lib.below_iterAt hbr hs3 ⟨l.toArray⟩ (k + d)
          have hit1 := Lib.iterAt_heap wr w3.heap.size ⟨l.toArray⟩ k (k + d) hit
          have n1 : ((r : Int) == 34) = false := by rw [beq_eq_false_iff_ne]; omega
          have n2 : ((r : Int) == 92) = false := by rw [beq_eq_false_iff_ne]; omega
          have HRV := Lib.hid hrv
          have HFIN := Lib.hid FIN
          have HR1 := Lib.hid hr1
          have HR2 := Lib.hid hr2
          have HW := Lib.hid hw
          have HKD := Lib.hid hkd
          have n3 : decide ((r : Int) < 32) = false := decide_eq_false (by omega)
          have HO1 := Lib.hid hown1
          have HB1 := Lib.hid hb1
          have HI1 := Lib.hid hit1
          clear hrv FIN hlow hc ht htl hcl HM hlen hr1 hr2 hw hkd hown1 hb1 hown hit1
          go_wp2_with fail
          refine (meant_high r _ HR1.out HR2.out HRV.out).mono ?_
          rintro e wx ⟨rfl, bx⟩
          have hownx := HO1.out.below bx (Nat.le_refl _)
          have hbx := HB1.out.trans (bx.mono HB1.out.size)
          have hitx := (bx.block _ (Array.getElem?_eq_some_iff.1 HI1.out).1).trans HI1.out
          have hszx := hbx.size
          have HOX := Lib.hid hownx
          have HBX := Lib.hid hbx
          have HIX := Lib.hid hitx
          clear hownx hbx hitx
          go_wp2_with fail
          refine (appendRune_own w.heap.size u4 _ r HR2.out _ HOX.out (by omega) hszx).mono ?_
          rintro e w2 ⟨v', rfl, hown', hgrow'⟩
          rw [List.cons_append, ← HT.out] at hown'
          go_wp2
          exact HFIN.out _ w2 v' d HOX.out HBX.out HIX.out HW.out HKD.out HVN.out hown' hgrow'
      · have hkl : k = l.length := by omega
        have hnx := fun ty => Lib.run_next_end_at (P := Tryz.prog) wr w3.heap.size ⟨l.toArray⟩ k ty hit hp
        rw [hkl, List.take_length] at hown hlen1
        go_wp2_with (at_builtin; (refine wpList_append_lit rfl _ _ rfl _ _ _ rfl hown [34] _ rfl 1 rfl rfl (by omega) (by omega) ?_; intro v' w2 hown' hgrow'))
        obtain ⟨A, n, cap, rfl, hrb, hn⟩ := hown'.form
        have hstr := run_str_rb w2 A n cap _ hrb hn
        have hb3 : Below w.heap.size w w2 := hbr.grown hgrow' hsz (fun k hk => (hown.lt k hk).1)
        go_simp
        go_wp2
        go_ret2
        exact PutPost.yes HV.out rfl hb3
end Go.Proofs.YtkbcbikilgcckaaGreatDoor
namespace Go.Proofs.YtkbcbikilgcckaaGreatDoor
open Go.ChangeShapes Go.WideShapes Go.ChangeAt Go.RowKit Go.IntWalk
set_option linter.unusedVariables false

set_option maxHeartbeats 2000000 in
theorem text_w (base g : Nat) (v : Value) (b l : List UInt8) (w : World) (h : WSt base w g v b) (hB : base ≤ w.heap.size) (hl : l.length ≤ 140737488355328) :
    Calls Tryz.prog 112 #[.pointer (some ⟨g, 0, none⟩), .string ⟨l.toArray⟩] w (WEnd base g w v (txt b l)) := by
  by_cases h6 : 65536 < l.length
  · have HR := Lib.hid (show txt b l = .error 3 by unfold txt; rw [if_pos h6])
    have hd1 : decide ((65536 : Int) < (l.length : Int)) = true := by simp; omega
    clear h6
    go_enter Tryz.func112, Tryz.ntmps112
    go_wp2_with fail
    refine (giveUp_calls _ _).mono ?_
    rintro e w2 ⟨rfl, rfl⟩
    go_wp2_with fail
    exact ⟨rfl, WEnd.bad HR.out (Nx.refl _ _ v)⟩
  · have hd1 : decide ((65536 : Int) < (l.length : Int)) = false := by simp; omega
    have HQ := put_calls l w (by omega)
    have hpl := putF_le l
    obtain ⟨q, hq⟩ : ∃ q, putF l = q := ⟨_, rfl⟩
    rw [hq] at hpl
    have hql : q.length ≤ 70368744000000 := by omega
    have HP := Lib.hid h
    have HL := Lib.hid hl
    have H6 := Lib.hid h6
    clear h hl hpl h6
    cases hv : Lib.validD l with
    | false =>
      have HR := Lib.hid (show txt b l = .error 1 by unfold txt; rw [if_neg H6.out, hv]; rfl)
      have HQ2 := HQ
      unfold PutPost at HQ2
      rw [hq, hv] at HQ2
      clear HQ hq hv
      go_enter Tryz.func112, Tryz.ntmps112
      go_wp2_with fail
      refine HQ2.mono ?_
      rintro e w1 ⟨rfl, b1⟩
      go_wp2_with fail
      refine (giveUp_calls _ _).mono ?_
      rintro e w2 ⟨rfl, rfl⟩
      go_wp2_with fail
      exact ⟨rfl, WEnd.bad HR.out (Nx.of_below b1)⟩
    | true =>
      have HR := Lib.hid (show txt b l = lng (b ++ q) by unfold txt; rw [if_neg H6.out, hv, if_pos rfl, hq])
      have HQ2 := HQ
      unfold PutPost at HQ2
      rw [hq, hv] at HQ2
      clear HQ hq hv
      cases hr : lng (b ++ q)
      all_goals
        have HR2 := Lib.hid hr
        clear hr
        go_enter Tryz.func112, Tryz.ntmps112
        go_wp2_with fail
        refine HQ2.mono ?_
        rintro e w1 ⟨rfl, b1⟩
        have hB1 : base ≤ w1.heap.size := Nat.le_trans hB b1.size
        go_wp2_with fail
        refine (put_w base g v b q _ (HP.out.below b1) hB1 hql).mono ?_
        intro e w2 hE
        first | (obtain ⟨rfl, v2, h2, n2⟩ := WEnd.of_ok HR2.out hE; clear hE) | (obtain ⟨rfl, v2, n2⟩ := WEnd.of_bad HR2.out hE; clear hE)
        go_wp2_with fail
      · exact ⟨rfl, WEnd.bad (HR.out.trans HR2.out) ((Nx.of_below b1).trans n2)⟩
      · go_end0
        exact WEnd.ok (HR.out.trans HR2.out) h2 ((Nx.of_below b1).trans n2)
end Go.Proofs.YtkbcbikilgcckaaGreatDoor
namespace Go.Proofs.YtkbcbikilgcckaaGreatDoor
open Go.ChangeShapes Go.WideShapes Go.ChangeAt Go.RowKit Go.IntWalk
set_option linter.unusedVariables false

section
variable {base g : Nat} {w w1 w' : World} {v v' : Value} {mem : Bool} {A : Option Addr} {t : JT}
theorem JSl.nx (h : JSl (· < base) w mem A t) (n : Nx w w' g v v') (hg : base ≤ g) (ho : ∀ k, v.ownBlock = some k → base ≤ k) (hB : base ≤ w.heap.size) : JSl (· < base) w' mem A t :=
  h.stay (fun b o hb => Go.RowKit.Below.cell (p := ⟨b, o, none⟩) (n.below (Below.refl base w) hg hB ho) hb) (fun _ h => h)
end
theorem PowT.nx {base g : Nat} {w w' : World} {v v' : Value} (h : PowT base w) (n : Nx w w' g v v') (hg : base ≤ g) (ho : ∀ k, v.ownBlock = some k → base ≤ k) (hB : base ≤ w.heap.size) : PowT base w' :=
  h.blw (n.below (Below.refl base w) hg hB ho)
/-- What is to be proved of values of at most N parts. -/
def ValC (N : Nat) : Prop := ∀ (jv : Jv) (deep : Nat) (dI : Int) (base g : Nat) (v : Value) (b : List UInt8) (w : World) (A B : Option Addr) (nl cl nm cm : Nat), jv.bulk ≤ N → deep ≤ 32 → dI = (deep : Int) → base ≤ g → base ≤ w.heap.size →
  Room nl cl jv.l.ext → Room nm cm jv.m.ext → JSl (· < base) w false A jv.l → JSl (· < base) w true B jv.m → Fit jv.kd jv.n jv.s → WSt base w g v b → PowT base w →
  Calls Tryz.prog 78 #[.pointer (some ⟨g, 0, none⟩), .agg #[.int .i64 jv.kd, .bool jv.is, .int .i64 jv.n, .string ⟨jv.s.toArray⟩, .slice A nl cl, .slice B nm cm], .int .i64 dI] w (WEnd base g w v (wrV jv deep b))
set_option maxHeartbeats 8000000 in
theorem list_w (N : Nat) (IH : ValC N) (t : JT) (deep : Nat) (base g : Nat) (v : Value) (b : List UInt8) (w : World) (A : Option Addr) (n c : Nat) (hN : t.bulk ≤ N) (hd : deep ≤ 32) (hg : base ≤ g) (hB : base ≤ w.heap.size)
    (hr : Room n c t.ext) (hs : JSl (· < base) w false A t) (h : WSt base w g v b) (hT : PowT base w) :
    Calls Tryz.prog 113 #[.pointer (some ⟨g, 0, none⟩), .slice A n c, .int .i64 (deep : Int)] w (WEnd base g w v (wrL t deep b)) := by
  have HO := open_w base g v b [91] deep w h hB (by simp)
  have HP := Lib.hid h
  have HTT := Lib.hid hT
  clear hT
  have hown : ∀ k, v.ownBlock = some k → base ≤ k := fun k hk => (h.own k hk).1
  have HW := Lib.hid hown
  cases ho : (if 32 ≤ deep then (.error 5 : Res) else lng (b ++ [91])) with
  | error x =>
    have HR := Lib.hid (show wrL t deep b = .error x by unfold wrL; rw [ho]; rfl)
    rw [ho] at HO
    clear ho h hown
    go_enter Tryz.func113, Tryz.ntmps113
    go_wp2_with fail
    refine HO.mono ?_
    rintro e w2 ⟨rfl, v2, n2⟩
    go_wp2_with fail
    exact ⟨rfl, WEnd.bad HR.out n2⟩
  | ok b1 =>
    have hdd : deep < 32 := by
      rcases Nat.lt_or_ge deep 32 with h | h
      · exact h
      · rw [if_pos h] at ho; cases ho
    obtain ⟨R, hR⟩ : ∃ R, wrF false t (deep + 1) none b1 = R := ⟨_, rfl⟩
    have HR := Lib.hid (show wrL t deep b = R.then fun b => lng (b ++ [93]) by unfold wrL; rw [ho, then_ok, hR])
    have HR0 : LStep R false t (deep + 1) 0 b1 := by unfold LStep; rw [JT.fall_zero]; exact hR.symm
    rw [ho] at HO
    obtain ⟨rfl, hnc, hcm⟩ := hr
    clear ho h hown hR
    obtain ⟨m, hm⟩ : ∃ m, t.ext = m := ⟨_, rfl⟩
    rw [hm] at hnc hcm ⊢
    have HM := Lib.hid hm
    have HS := Lib.hid hs
    clear hm hs
    go_enter Tryz.func113, Tryz.ntmps113
    go_wp2_with fail
    refine HO.mono ?_
    rintro e w1 ⟨rfl, v1, h1, n1⟩
    have H1 := Lib.hid h1
    have N1 := Lib.hid n1
    clear h1 n1 HO
    go_wp2_with fail
    go_loopw [13] (fun i wr => ∃ (k : Nat) (vk : Value) (bk : List UInt8), k ≤ m ∧ i = .int .i64 (k : Int) ∧ Hid (WSt base wr g vk bk) ∧ Hid (Nx w wr g v vk) ∧ LStep R false t (deep + 1) k bk) (fun i _ => m - (intOf i).toNat)
    case atStart => exact ⟨0, v1, b1, Nat.zero_le _, rfl, H1, N1, HR0⟩
    case round =>
      obtain ⟨k, vk, bk, hk, rfl, hW, hX, hL⟩ := hrel
      have hBr : base ≤ wr.heap.size := Nat.le_trans hB hX.out.size
      by_cases hlt : k < m
      · obtain ⟨eb, eo, eA, enl, ecl, eB, enm, ecm, rfl, eP, ebl, e0, e1, e2, e3, e4, e5, r1, r2, s1, s2, hf⟩ := (HS.out.nx hX.out hg HW.out hB).el _ (by rw [HM.out]; exact hlt)
        obtain ⟨ev, hev⟩ : ∃ ev, (t.fall k).val = ev := ⟨_, rfl⟩
        rw [hev] at e0 e1 e2 e3 r1 r2 s1 s2 hf
        have hLs : R = (wrK false (prevK t k) (t.fall k).key bk).then fun b => (wrV ev (deep + 1) b).then fun b => wrF false (t.fall (k + 1)) (deep + 1) (prevK t (k + 1)) b := by
          rw [show R = _ from hL, wrF_step _ _ _ _ _ (by rw [HM.out]; exact hlt), hev]
        have hbk : ev.bulk ≤ N := by rw [← hev]; exact Nat.le_trans (JT.bulk_val t k (by rw [HM.out]; exact hlt)) hN
        have HLS := Lib.hid hLs
        have HE := Lib.hid hev
        have HK := Lib.hid (And.intro r1 (And.intro r2 (And.intro s1 (And.intro s2 (And.intro hf hbk)))))
        clear hL hLs hev r1 r2 s1 s2 hf hbk
        have hWl := hW.out.lt
        have hWo := hW.out.own
        have hbw : Below wr.heap.size wr (wr.alloc (.cells #[.int .i64 ev.kd, .bool ev.is, .int .i64 ev.n, .string ⟨ev.s.toArray⟩, .slice eA enl ecl, .slice eB enm ecm] 25)) := (Below.refl _ _).alloc (Nat.le_refl _) _
        have HBW := Lib.hid hbw
        have HWO := Lib.hid (And.intro hWl hWo)
        have hown2 : ∀ k, vk.ownBlock = some k → base ≤ k := fun k hk => (hWo k hk).1
        have HOW2 := Lib.hid hown2
        clear hbw hWl hWo hown2
        by_cases hk0 : 0 < k
        · have hk1 : decide (0 < k) = true := by simpa using hk0
          have HK1 := Lib.hid (show wrK false (prevK t k) (t.fall k).key bk = lng (bk ++ [44]) by rw [prevK_pos hk0, wrK_lS])
          clear hk0
          have HPUT := put_w base g vk bk [44] _ (hW.out.below HBW.out) (Nat.le_trans hBr HBW.out.size) (by simp)
          cases hp : lng (bk ++ [44]) with
          | error x =>
            have HRX := Lib.hid (show wrL t deep b = .error x by rw [HR.out, HLS.out, HK1.out, hp]; rfl)
            rw [hp] at HPUT
            clear hp
            go_wp2_with fail
            refine HPUT.mono ?_
            rintro e w2 ⟨rfl, v2, n2⟩
            go_wp2_with fail
            exact ⟨rfl, WEnd.bad HRX.out ((hX.out.trans (Nx.of_below HBW.out)).trans n2)⟩
          | ok b2 =>
            have HLS2 := Lib.hid (show R = (wrV ev (deep + 1) b2).then fun b => wrF false (t.fall (k + 1)) (deep + 1) (prevK t (k + 1)) b by rw [HLS.out, HK1.out, hp]; rfl)
            rw [hp] at HPUT
            clear hp
            go_wp2_with fail
            refine HPUT.mono ?_
            rintro e w2 ⟨rfl, v2, h2, n2⟩
            have bx := n2.blk (Blk.new wr [.int .i64 ev.kd, .bool ev.is, .int .i64 ev.n, .string ⟨ev.s.toArray⟩, .slice eA enl ecl, .slice eB enm ecm] 25) (by have := HWO.out.1; omega) (fun e => by have := (HWO.out.2 _ e).2; omega)
            have d0 := bx.cell (k := 0) rfl
            have d1 := bx.cell (k := 1) rfl
            have d2 := bx.cell (k := 2) rfl
            have d3 := bx.cell (k := 3) rfl
            have d4 := bx.cell (k := 4) rfl
            have d5 := bx.cell (k := 5) rfl
            have N2 := Lib.hid n2
            have H2 := Lib.hid h2
            have hB2 : base ≤ w2.heap.size := Nat.le_trans (Nat.le_trans hBr HBW.out.size) n2.size
            have HBL := Lib.hid (n2.below (HBW.out.mono hBr) hg (Nat.le_trans hBr HBW.out.size) HOW2.out)
            clear h2 n2 bx HPUT
            have HV := IH ev (deep + 1) ((deep : Int) + 1) base g v2 b2 w2 eA eB enl ecl enm ecm HK.out.2.2.2.2.2 (by omega) (by omega) hg hB2 HK.out.1 HK.out.2.1 (HK.out.2.2.1.blw HBL.out) (HK.out.2.2.2.1.blw HBL.out) HK.out.2.2.2.2.1 H2.out (HTT.out.nx ((hX.out.trans (Nx.of_below HBW.out)).trans N2.out) hg HW.out hB)
            cases hv : wrV ev (deep + 1) b2 with
            | error x =>
              have HRX := Lib.hid (show wrL t deep b = .error x by rw [HR.out, HLS2.out, hv]; rfl)
              rw [hv] at HV
              clear hv
              go_wp2_with fail
              refine HV.mono ?_
              rintro e w3 ⟨rfl, v3, n3⟩
              go_wp2_with fail
              exact ⟨rfl, WEnd.bad HRX.out (((hX.out.trans (Nx.of_below HBW.out)).trans N2.out).trans n3)⟩
            | ok b3 =>
              have HL3 : LStep R false t (deep + 1) (k + 1) b3 := by unfold LStep; rw [HLS2.out, hv]; rfl
              rw [hv] at HV
              clear hv
              go_wp2_with fail
              refine HV.mono ?_
              rintro e w3 ⟨rfl, v3, h3, n3⟩
              have H3 := Lib.hid h3
              have N3 := Lib.hid (((hX.out.trans (Nx.of_below HBW.out)).trans N2.out).trans n3)
              clear h3 n3 HV
              go_wp2_with fail
              go_roundw
              case rel => exact ⟨k + 1, v3, b3, by omega, by go_num, H3, N3, HL3⟩
              case measure => simp [intOf]; omega
        · have hk1 : decide (0 < k) = false := by simpa using hk0
          have HLS2 := Lib.hid (show R = (wrV ev (deep + 1) bk).then fun b => wrF false (t.fall (k + 1)) (deep + 1) (prevK t (k + 1)) b by rw [HLS.out, show prevK t k = none by unfold prevK; rw [if_pos (by omega)]]; rfl)
          clear hk0
          have hB2 : base ≤ (wr.alloc (.cells #[.int .i64 ev.kd, .bool ev.is, .int .i64 ev.n, .string ⟨ev.s.toArray⟩, .slice eA enl ecl, .slice eB enm ecm] 25)).heap.size := Nat.le_trans hBr HBW.out.size
          have HV := IH ev (deep + 1) ((deep : Int) + 1) base g vk bk _ eA eB enl ecl enm ecm HK.out.2.2.2.2.2 (by omega) (by omega) hg hB2 HK.out.1 HK.out.2.1 (HK.out.2.2.1.blw (HBW.out.mono hBr)) (HK.out.2.2.2.1.blw (HBW.out.mono hBr)) HK.out.2.2.2.2.1 (hW.out.below HBW.out) (HTT.out.nx (hX.out.trans (Nx.of_below HBW.out)) hg HW.out hB)
          clear hB2
          cases hv : wrV ev (deep + 1) bk with
          | error x =>
            have HRX := Lib.hid (show wrL t deep b = .error x by rw [HR.out, HLS2.out, hv]; rfl)
            rw [hv] at HV
            clear hv
            go_wp2_with fail
            refine HV.mono ?_
            rintro e w3 ⟨rfl, v3, n3⟩
            go_wp2_with fail
            exact ⟨rfl, WEnd.bad HRX.out ((hX.out.trans (Nx.of_below HBW.out)).trans n3)⟩
          | ok b3 =>
            have HL3 : LStep R false t (deep + 1) (k + 1) b3 := by unfold LStep; rw [HLS2.out, hv]; rfl
            rw [hv] at HV
            clear hv
            go_wp2_with fail
            refine HV.mono ?_
            rintro e w3 ⟨rfl, v3, h3, n3⟩
            have H3 := Lib.hid h3
            have N3 := Lib.hid ((hX.out.trans (Nx.of_below HBW.out)).trans n3)
            clear h3 n3 HV
            go_wp2_with fail
            go_roundw
            case rel => exact ⟨k + 1, v3, b3, by omega, by go_num, H3, N3, HL3⟩
            case measure => simp [intOf]; omega
      · obtain rfl : k = m := by omega
        have HRE := Lib.hid (show R = .ok bk by rw [show R = _ from hL, ← HM.out, wrF_end])
        have HPUT := put_w base g vk bk [93] _ hW.out hBr (by simp)
        clear hL
        cases hp : lng (bk ++ [93]) with
        | error x =>
          have HRX := Lib.hid (show wrL t deep b = .error x by rw [HR.out, HRE.out, then_ok, hp])
          rw [hp] at HPUT
          clear hp
          go_wp2_with fail
          refine HPUT.mono ?_
          rintro e w2 ⟨rfl, v2, n2⟩
          go_wp2_with fail
          exact ⟨rfl, WEnd.bad HRX.out (hX.out.trans n2)⟩
        | ok b2 =>
          have HRX := Lib.hid (show wrL t deep b = .ok b2 by rw [HR.out, HRE.out, then_ok, hp])
          rw [hp] at HPUT
          clear hp
          go_wp2_with fail
          refine HPUT.mono ?_
          rintro e w2 ⟨rfl, v2, h2, n2⟩
          go_wp2_with fail
          go_end0
          exact WEnd.ok HRX.out h2 (hX.out.trans n2)
end Go.Proofs.YtkbcbikilgcckaaGreatDoor
