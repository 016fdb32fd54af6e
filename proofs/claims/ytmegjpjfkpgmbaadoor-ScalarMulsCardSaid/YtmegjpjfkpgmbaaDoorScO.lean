/- Layer 5: Neg. -/
import Derived.Test.YtmegjpjfkpgmbaaDoorScL
namespace Go.Proofs.YtmegjpjfkpgmbaaDoor
open Go.ChangeShapes Go.WideShapes Go.ChangeAt Go.RowKit Go.IntWalk
set_option linter.unusedVariables false

theorem words_go (d : Nat) (xs ys : List Nat) (hx : xs.length = 4) (hy : ys.length = 4) (W : World) :
    (Op.equalIn (d + 2) 41 (.agg (nu xs).toArray) (.agg (nu ys).toArray)).run Tryd.prog W = .ok (decide (xs = ys)) W := by
  obtain ⟨a0, a1, a2, a3, rfl⟩ : ∃ a0 a1 a2 a3, xs = [a0, a1, a2, a3] := by
    match xs, hx with
    | [a0, a1, a2, a3], _ => exact ⟨_, _, _, _, rfl⟩
  obtain ⟨b0, b1, b2, b3, rfl⟩ : ∃ a0 a1 a2 a3, ys = [a0, a1, a2, a3] := by
    match ys, hy with
    | [a0, a1, a2, a3], _ => exact ⟨_, _, _, _, rfl⟩
  have pe : ∀ x y : Nat, (Op.equalIn (d + 1) 37 (.int .u64 (x : Int)) (.int .u64 (y : Int))).run Tryd.prog W = .ok (decide (x = y)) W := fun x y => by
    rw [run_equalIn_int W d 37 .u64 .u64 _ _ Tryd.underlying37]
    congr 1
    rw [Bool.eq_iff_iff]; simp; omega
  have pp : ∀ (q : Nat) (c0 c1 c2 c3 : Nat) (v : Value), (nu [c0, c1, c2, c3])[q]? = some v → (part 37 (nu [c0, c1, c2, c3]).toArray (q * 1)).run Tryd.prog W = .ok v W := fun q c0 c1 c2 c3 v h => by
    simp [part, isAgg, run_underlying Tryd.underlying37, h]
  rw [Op.equalIn]
  simp only [Sem.run_bind, run_underlying Tryd.underlying41, Result.andThen_ok, Tryd.sizeOf37, Std.Legacy.Range.forIn_eq_forIn_range', Std.Legacy.Range.size, Nat.sub_zero, Nat.add_sub_cancel, Nat.div_one]
  rw [show List.range' 0 4 1 = [0, 1, 2, 3] from rfl]
  simp only [List.forIn_cons, List.forIn_nil, Sem.run_bind, Result.andThen_ok, pp 0 _ _ _ _ _ rfl, pp 1 _ _ _ _ _ rfl, pp 2 _ _ _ _ _ rfl, pp 3 _ _ _ _ _ rfl, pe]
  by_cases h0 : a0 = b0
  · by_cases h1 : a1 = b1
    · by_cases h2 : a2 = b2
      · by_cases h3 : a3 = b3 <;> simp [h0, h1, h2, h3, pe, pp 1 _ _ _ _ _ rfl, pp 2 _ _ _ _ _ rfl, pp 3 _ _ _ _ _ rfl]
      · simp [h0, h1, h2, pe, pp 1 _ _ _ _ _ rfl, pp 2 _ _ _ _ _ rfl]
    · simp [h0, h1, pe, pp 1 _ _ _ _ _ rfl]
  · simp [h0]
theorem words_nought (a0 a1 a2 a3 : Nat) (W : World) :
    (Op.equalIn 10000 41 (.agg #[.int .u64 (a0 : Int), .int .u64 (a1 : Int), .int .u64 (a2 : Int), .int .u64 (a3 : Int)]) (.agg #[.int .u64 0, .int .u64 0, .int .u64 0, .int .u64 0])).run Tryd.prog W = .ok (decide ([a0, a1, a2, a3] = [0, 0, 0, 0])) W :=
  words_go 9998 [a0, a1, a2, a3] [0, 0, 0, 0] rfl rfl W
set_option maxRecDepth 100000 in
set_option maxHeartbeats 4000000 in
theorem neg_calls (xs : List UInt8) (hl : xs.length = 32) (w : World) (hT : Tab w) :
    Calls Tryd.prog 17 #[A32 xs] w (BPost ((LO - leN xs % LO) % LO) w) := by
  have HT := Lib.hid hT
  unfold A32
  have h0 : Blk (w.alloc (.cells (u8b xs).toArray 23)) w.heap.size 23 (u8b xs) := Blk.new _ _ _
  have hb := (Below.refl w.heap.size w).alloc (Nat.le_refl _) (.cells (u8b xs).toArray 23)
  obtain ⟨cs, hcs⟩ : ∃ q, u8b xs = q := ⟨_, rfl⟩
  have HCS := Lib.hid hcs
  rw [hcs] at h0 hb ⊢
  have H0 := Lib.hid (And.intro h0 hb)
  clear hT hcs h0 hb
  go_enter Tryd.func17, Tryd.ntmps17
  go_wp2_with fail
  have hm : leN xs % LO < 256 ^ 32 := Nat.lt_trans (Nat.mod_lt _ LO_pos) (by decide +kernel)
  obtain ⟨m, hmm⟩ : ∃ m, leN xs % LO = m := ⟨_, rfl⟩
  have hml : m < LO := by rw [← hmm]; exact Nat.mod_lt _ LO_pos
  have hlm : leN (leB 32 m) = m := by rw [leN_leB, ← hmm, Nat.mod_eq_of_lt hm]
  have hw1 : Blk ((w.alloc (.cells cs.toArray 23)).alloc (.cells #[.int .u8 0, .int .u8 0, .int .u8 0, .int .u8 0, .int .u8 0, .int .u8 0, .int .u8 0, .int .u8 0, .int .u8 0, .int .u8 0, .int .u8 0, .int .u8 0, .int .u8 0, .int .u8 0, .int .u8 0, .int .u8 0, .int .u8 0, .int .u8 0, .int .u8 0, .int .u8 0, .int .u8 0, .int .u8 0, .int .u8 0, .int .u8 0, .int .u8 0, .int .u8 0, .int .u8 0, .int .u8 0, .int .u8 0, .int .u8 0, .int .u8 0, .int .u8 0] 23)) (w.heap.size + 1) 23 (u8b (List.replicate 32 0)) := by
    have := Blk.new (w.alloc (.cells cs.toArray 23)) (u8b (List.replicate 32 0)) 23
    rwa [show (w.alloc (.cells cs.toArray 23)).heap.size = w.heap.size + 1 by simp] at this
  have hb1 : Below w.heap.size w ((w.alloc (.cells cs.toArray 23)).alloc (.cells #[.int .u8 0, .int .u8 0, .int .u8 0, .int .u8 0, .int .u8 0, .int .u8 0, .int .u8 0, .int .u8 0, .int .u8 0, .int .u8 0, .int .u8 0, .int .u8 0, .int .u8 0, .int .u8 0, .int .u8 0, .int .u8 0, .int .u8 0, .int .u8 0, .int .u8 0, .int .u8 0, .int .u8 0, .int .u8 0, .int .u8 0, .int .u8 0, .int .u8 0, .int .u8 0, .int .u8 0, .int .u8 0, .int .u8 0, .int .u8 0, .int .u8 0, .int .u8 0] 23)) := H0.out.2.alloc (by simp) _
  have hrb := rb_blk (T := 23) (bs := xs) (by rw [HCS.out]; exact H0.out.1.alloc (.cells #[.int .u8 0, .int .u8 0, .int .u8 0, .int .u8 0, .int .u8 0, .int .u8 0, .int .u8 0, .int .u8 0, .int .u8 0, .int .u8 0, .int .u8 0, .int .u8 0, .int .u8 0, .int .u8 0, .int .u8 0, .int .u8 0, .int .u8 0, .int .u8 0, .int .u8 0, .int .u8 0, .int .u8 0, .int .u8 0, .int .u8 0, .int .u8 0, .int .u8 0, .int .u8 0, .int .u8 0, .int .u8 0, .int .u8 0, .int .u8 0, .int .u8 0, .int .u8 0] 23))
  refine (rest_calls (some ⟨w.heap.size, 0, none⟩) 32 32 xs (Lib.hid hl.symm) (by decide) _ (HT.out.later hb1) hrb).mono ?_
  rintro e w1 ⟨rfl, b1⟩
  rw [hmm]
  have H1 := Lib.hid (And.intro (hw1.later b1) (hb1.then_ b1))
  have HM := Lib.hid (And.intro hml hlm)
  have HMQ := Lib.hid hmm
  clear hw1 hb1 hrb b1 hmm hm hml hlm H0
  go_wp2_with fail
  refine (numberOf_calls (leB 32 m) (leB_len _ _) _).mono ?_
  rintro e w2 ⟨v, rfl, hv, b2⟩
  rw [HM.out.2] at hv
  obtain ⟨a0, a1, a2, a3, rfl, l0, l1, l2, l3, val⟩ := hv
  have H2 := Lib.hid (And.intro (H1.out.1.later b2) (H1.out.2.then_ b2))
  have HMM : Hid (leN xs % LO = m) := HMQ
  have HV : Hid (IsW (V4 a0 a1 a2 a3) m) := Lib.hid ⟨a0, a1, a2, a3, rfl, l0, l1, l2, l3, val⟩
  have HVL := Lib.hid (And.intro l0 (And.intro l1 (And.intro l2 (And.intro l3 val))))
  have heq := words_nought a0 a1 a2 a3
  unfold V4
  have hal := Below.alloc (Below.refl w2.heap.size w2) (Nat.le_refl _) (.cells #[.int .u64 (a0 : Int), .int .u64 (a1 : Int), .int .u64 (a2 : Int), .int .u64 (a3 : Int)] 41)
  have hbk : Blk (w2.alloc (.cells #[.int .u64 (a0 : Int), .int .u64 (a1 : Int), .int .u64 (a2 : Int), .int .u64 (a3 : Int)] 41)) w2.heap.size 41 (nu [a0, a1, a2, a3]) := Blk.new w2 (nu [a0, a1, a2, a3]) _
  have H3 := Lib.hid (And.intro (H2.out.1.later hal) (H2.out.2.then_ hal))
  have HBK := Lib.hid hbk
  clear b2 H1 hal hbk
  by_cases hz : a0 = 0 ∧ a1 = 0 ∧ a2 = 0 ∧ a3 = 0
  · have HRR : Hid ((LO - m) % LO = 0) := Lib.hid (by
      obtain ⟨rfl, rfl, rfl, rfl⟩ := hz
      obtain rfl : m = 0 := by omega
      rw [Nat.sub_zero, Nat.mod_self])
    clear l0 l1 l2 l3 val
    obtain ⟨rfl, rfl, rfl, rfl⟩ := hz
    clear heq
    have heq0 : ∀ W, (Op.equalIn 10000 41 (.agg #[.int .u64 0, .int .u64 0, .int .u64 0, .int .u64 0]) (.agg #[.int .u64 0, .int .u64 0, .int .u64 0, .int .u64 0])).run Tryd.prog W = .ok true W := fun W => words_nought 0 0 0 0 W
    go_wp2_with fail
    obtain ⟨R, hR⟩ : ∃ r : Nat, r = 0 := ⟨_, rfl⟩
    have HRR := Lib.hid (HRR.out.trans hR.symm)
    refine (bytes_calls _ R ⟨0, 0, 0, 0, rfl, by decide, by decide, by decide, by decide, hR.symm⟩ _).mono ?_
    rintro e w3 ⟨rfl, b3⟩
    clear hR
    have hr7 := H3.out.1.later b3
    have hb7 := H3.out.2.then_ b3
    have HTH := Lib.hid (hr7.there (n := (u8b (leB 32 R)).toArray.size) (by simp [u8b_len, leB_len]))
    have hz2 := hr7.setAll (vs := u8b (leB 32 R)) (by simp [u8b_len, leB_len])
    have HZ2 := Lib.hid (Blk.load hz2 23 Tryd.underlying23 rfl (size32u _ (leB_len _ _)))
    have HB2 := Lib.hid (blw_cells (show w.heap.size ≤ w.heap.size + 1 by omega) (u8b (leB 32 R)) 0 _ hb7)
    have HO : Hid ((u8b (leB 32 R)).toArray.all (·.oneCell') = true) := Lib.hid (one8b _)
    have HG2 : Hid ((Tryd.prog.info? 23).map (·.size) = some (u8b (leB 32 R)).toArray.size) := Lib.hid (by simpa using size32u _ (leB_len 32 R))
    unfold A32
    obtain ⟨dv, hdv⟩ : ∃ d, u8b (leB 32 R) = d := ⟨_, rfl⟩
    rw [hdv] at HTH HZ2 HB2 HO HG2 ⊢
    have HDV := Lib.hid hdv
    clear hr7 hb7 hz2 hdv b3
    go_wp2_with (refine wpList_store_mid rfl 23 _ _ rfl (w.heap.size + 1) 0 dv.toArray rfl rfl HTH.out HG2.out HO.out ?_)
    exact bodyPost_ret (v := .agg dv.toArray) (res_cell rfl _ _ _ _ rfl HZ2.out) rfl ⟨by unfold A32; rw [HMM.out, HRR.out, HDV.out], HB2.out⟩
  · have hd : (decide (a0 = 0) && (decide (a1 = 0) && (decide (a2 = 0) && decide (a3 = 0)))) = false := by
      rw [Bool.eq_false_iff]; intro h; simp at h; exact hz ⟨h.1, h.2.1, h.2.2.1, h.2.2.2⟩
    have hm0 : 0 < m := by omega
    have HRR : Hid ((LO - m) % LO = LO - m) := Lib.hid (Nat.mod_eq_of_lt (by have := HM.out.1; omega))
    have hne : [a0, a1, a2, a3] = [0, 0, 0, 0] ↔ False := ⟨fun h => by simp at h; exact hz ⟨h.1, h.2.1, h.2.2.1, h.2.2.2⟩, False.elim⟩
    rw [decide_eq_false (fun h => hne.1 h)] at heq
    clear l0 l1 l2 l3 val hz hne
    have heq2 : ∀ W, (Op.equalIn 10000 41 (.agg (nu [a0, a1, a2, a3]).toArray) (.agg #[.int .u64 0, .int .u64 0, .int .u64 0, .int .u64 0])).run Tryd.prog W = .ok false W := heq
    have HTT := Lib.hid ((HT.out.later H3.out.2).1)
    have HRB := Lib.hid (HBK.out.rng)
    go_wp2_with (first
      | (refine wpList_load_mid rfl 41 _ rfl 0 0 rfl (us KS) _ HTT.out Tryd.underlying41 rfl size4 ?_)
      | (refine wpList_load_mid rfl 41 _ rfl w2.heap.size 0 rfl (nu [a0, a1, a2, a3]) _ HRB.out Tryd.underlying41 rfl size4 ?_))
    refine (less_calls _ _ _ _ order_is HV.out _).mono ?_
    rintro e w5 ⟨v5, rfl, hv5, b5⟩
    have hsub : subV LO m = LO - m := by unfold subV; rw [if_neg (by have := HM.out.1; omega)]
    rw [hsub] at hv5
    obtain ⟨R, hR⟩ : ∃ r : Nat, LO - m = r := ⟨_, rfl⟩
    rw [hR] at hv5
    have HRR := Lib.hid (HRR.out.trans hR)
    have HV5 := Lib.hid hv5
    obtain ⟨ev, rfl, hel, hone⟩ := hv5.form
    obtain ⟨th, hbk, hbl⟩ := laid4 w5 ev hel
    have H6 := Lib.hid (And.intro ((H3.out.1.later b5).later hbl) ((H3.out.2.then_ b5).then_ hbl))
    have HTH5 := Lib.hid th
    have HRE := Lib.hid hbk.rng
    have HSE := Lib.hid (size4a ev hel)
    have HSL := Lib.hid (size4u ev hel)
    have HOE := Lib.hid hone
    clear th hbk hbl b5 hv5 hsub hR hone
    go_wp2_with (first
      | (refine wpList_store_mid rfl 41 _ _ rfl w5.heap.size 0 ev.toArray rfl rfl HTH5.out HSE.out HOE.out ?_)
      | (refine wpList_load_mid rfl 41 _ rfl w5.heap.size 0 rfl ev _ HRE.out Tryd.underlying41 rfl HSL.out ?_))
    refine (bytes_calls _ R HV5.out _).mono ?_
    rintro e w6 ⟨rfl, b6⟩
    have hr7 := H6.out.1.later b6
    have hb7 := H6.out.2.then_ b6
    have HTH := Lib.hid (hr7.there (n := (u8b (leB 32 R)).toArray.size) (by simp [u8b_len, leB_len]))
    have hz2 := hr7.setAll (vs := u8b (leB 32 R)) (by simp [u8b_len, leB_len])
    have HZ2 := Lib.hid (Blk.load hz2 23 Tryd.underlying23 rfl (size32u _ (leB_len _ _)))
    have HB2 := Lib.hid (blw_cells (show w.heap.size ≤ w.heap.size + 1 by omega) (u8b (leB 32 R)) 0 _ hb7)
    have HO : Hid ((u8b (leB 32 R)).toArray.all (·.oneCell') = true) := Lib.hid (one8b _)
    have HG2 : Hid ((Tryd.prog.info? 23).map (·.size) = some (u8b (leB 32 R)).toArray.size) := Lib.hid (by simpa using size32u _ (leB_len 32 R))
    unfold A32
    obtain ⟨dv, hdv⟩ : ∃ d, u8b (leB 32 R) = d := ⟨_, rfl⟩
    rw [hdv] at HTH HZ2 HB2 HO HG2 ⊢
    have HDV := Lib.hid hdv
    clear hr7 hb7 hz2 hdv b6
    go_wp2_with (refine wpList_store_mid rfl 23 _ _ rfl (w.heap.size + 1) 0 dv.toArray rfl rfl HTH.out HG2.out HO.out ?_)
    exact bodyPost_ret (v := .agg dv.toArray) (res_cell rfl _ _ _ _ rfl HZ2.out) rfl ⟨by unfold A32; rw [HMM.out, HRR.out, HDV.out], HB2.out⟩
end Go.Proofs.YtmegjpjfkpgmbaaDoor
