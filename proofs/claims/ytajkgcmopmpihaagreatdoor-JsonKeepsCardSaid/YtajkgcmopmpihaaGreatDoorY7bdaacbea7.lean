/- Texts put together: QuX JpI Ap1 JpG Lo. -/
import Derived.Test.YtajkgcmopmpihaaGreatDoorY415ec8c9fc
import Derived.Test.YtajkgcmopmpihaaGreatDoorYfffa4af51d
import Derived.Test.YtajkgcmopmpihaaGreatDoorYb29be83949
import Derived.Test.YtajkgcmopmpihaaGreatDoorY876ef405fe
import Derived.Test.YtajkgcmopmpihaaGreatDoorYcc66149044
import Derived.Test.YtajkgcmopmpihaaGreatDoorY29e14c7a23
namespace Go.Proofs.YtajkgcmopmpihaaGreatDoor
open Go.Lib
set_option linter.unusedVariables false
theorem u8n (n : Nat) (h : n < 256) : (UInt8.ofNat n).toNat = n := by simp; omega
theorem dec_enc (r : Nat) (h : OkR r) (X : List UInt8) : decodeL (encodeRune (r : Int) ++ X) = (r, (encodeRune (r : Int)).length) := by
  unfold OkR at h
  by_cases h1 : r < 128
  · rw [enc1 r h1, decodeL_N]
    simp only [List.cons_append, List.nil_append, List.getD_cons_zero, List.length_cons, List.length_nil]
    rw [u8n r (by omega)]
    unfold decodeN; rw [if_pos h1]
  · by_cases h2 : r < 2048
    · rw [enc2 r (by omega) h2, decodeL_N]
      simp only [List.cons_append, List.nil_append, List.getD_cons_zero, List.getD_cons_succ, List.length_cons, List.length_nil]
      rw [u8n _ (by omega), u8n _ (by omega)]
      unfold decodeN
      rw [if_neg (by omega), if_pos (by omega), if_pos (by omega)]
      congr 1; omega
    · by_cases h3 : r < 65536
      · rw [enc3 r (by omega) h3 h, decodeL_N]
        simp only [List.cons_append, List.nil_append, List.getD_cons_zero, List.getD_cons_succ, List.length_cons, List.length_nil]
        rw [u8n _ (by omega), u8n _ (by omega), u8n _ (by omega)]
        unfold decodeN
        rw [if_neg (by omega), if_neg (by omega), if_pos (by omega), if_pos (by omega)]
        congr 1; omega
      · rw [enc4 r (by omega) h, decodeL_N]
        simp only [List.cons_append, List.nil_append, List.getD_cons_zero, List.getD_cons_succ, List.length_cons, List.length_nil]
        rw [u8n _ (by omega), u8n _ (by omega), u8n _ (by omega), u8n _ (by omega)]
        unfold decodeN
        rw [if_neg (by omega), if_neg (by omega), if_neg (by omega), if_pos (by omega), if_pos (by omega)]
        congr 1; omega
theorem enc_pos (r : Nat) : 1 ≤ (encodeRune (r : Int)).length := by
  have := (encodeRuneZ_length r).1
  unfold encodeRune; rw [List.length_map]; exact this
theorem enc_ne (r : Nat) (X : List UInt8) : encodeRune (r : Int) ++ X ≠ [] := by
  intro h
  have := congrArg List.length h
  rw [List.length_append, List.length_nil] at this
  have := enc_pos r
  omega
theorem enc_noR (r : Nat) (h : OkR r) (X : List UInt8) : ¬ NoR (encodeRune (r : Int) ++ X) := by
  intro hn
  unfold NoR at hn
  rw [dec_enc r h X] at hn
  obtain ⟨a, b⟩ := hn
  simp only at a b
  subst a
  exact absurd b (by decide)
theorem valid_enc (r : Nat) (h : OkR r) (X : List UInt8) : validD (encodeRune (r : Int) ++ X) = validD X := by
  rw [validD_step _ (enc_ne r X)]
  have := enc_noR r h X
  unfold NoR at this
  rw [if_neg this, dec_enc r h X]
  simp
theorem takeF_in' (l : List UInt8) (a : Nat) (h : a < l.length) (hq : l.getD a 0 = 34) : takeF l (a : Int) = fin (a + 1) (scan (l.drop (a + 1))) := by
  unfold takeF; rw [if_pos ⟨by omega, by omega, by simpa using hq⟩]; simp
theorem scan_ok : ∀ (n : Nat) (m : List UInt8), m.length ≤ n → ∀ out k, scan m = some (out, k) → validD out = true ∧ 1 ≤ k ∧ k ≤ m.length ∧ out.length ≤ 4 * k
  | 0, m, h, out, k, hs => by
    have : m = [] := List.length_eq_zero_iff.1 (by omega)
    subst this; cases hs
  | n + 1, [], h, out, k, hs => by cases hs
  | n + 1, c :: t, h, out, k, hs => by
    by_cases h34 : c = 34
    · subst h34
      rw [scan_quote] at hs
      injection hs with hs
      injection hs with a b
      subst a; subst b
      exact ⟨rfl, Nat.le_refl _, by simp, by simp⟩
    · by_cases h0 : (stepF (c :: t)).2 = 0
      · rw [scan_fail c t h34 h0] at hs; cases hs
      · obtain ⟨ok, hle, _⟩ := stepF_ok (c :: t) h0
        rw [scan_next c t h34 h0] at hs
        cases hd : scan ((c :: t).drop (stepF (c :: t)).2) with
        | none => rw [hd] at hs; cases hs
        | some p =>
          obtain ⟨o, j⟩ := p
          rw [hd] at hs
          simp only [Option.map_some, Option.some.injEq, Prod.mk.injEq] at hs
          obtain ⟨rfl, rfl⟩ := hs
          have hdl : ((c :: t).drop (stepF (c :: t)).2).length = (c :: t).length - (stepF (c :: t)).2 := List.length_drop
          obtain ⟨i1, i2, i3, i4⟩ := scan_ok n _ (by omega) o j hd
          have h4 := len_rune4 (stepF (c :: t)).1
          refine ⟨by rw [valid_enc _ ok]; exact i1, by omega, by omega, by rw [List.length_append]; omega⟩
end Go.Proofs.YtajkgcmopmpihaaGreatDoor
namespace Go.Proofs.YtajkgcmopmpihaaGreatDoor
open Go.ChangeShapes Go.WideShapes Go.ChangeAt Go.RowKit Go.IntWalk
set_option linter.unusedVariables false
set_option maxRecDepth 100000
def quoF (r : List UInt8) : Option (List UInt8 × List UInt8) := match r with
  | [] => none
  | c :: q => if c = 34 then (match scan q with | none => none | some p => some (p.1, q.drop p.2)) else none
theorem quo_q (q : List UInt8) : quoF (34 :: q) = (match scan q with | none => none | some p => some (p.1, q.drop p.2)) := by unfold quoF; simp
theorem quo_n {c : UInt8} (q : List UInt8) (h : c ≠ 34) : quoF (c :: q) = none := by unfold quoF; simp [h]
def QdPost (base : Nat) (w : World) (r : Nat) (s : List UInt8) (at_ : Nat) (U : Value) (fs : List Frm) (e : Ending) (w' : World) : Prop :=
  Chg (· = r) w w' ∧ ((quoF (s.drop at_) = none ∧ e = .panicked (flt 4)) ∨ ∃ k at', e = .returned (.string ⟨k.toArray⟩) ∧ quoF (s.drop at_) = some (k, s.drop at') ∧ at_ < at' ∧ k.length ≤ 300000 ∧ RSt base w' r s at' U fs)
theorem quo_take {s : List UInt8} {a : Nat} (hs : s.length ≤ 65536) : (quoF (s.drop a) = none ∧ takeF s (a : Int) = ([], 0, false)) ∨ ∃ k n, a < n ∧ n ≤ s.length ∧ k.length ≤ 300000 ∧ quoF (s.drop a) = some (k, s.drop n) ∧ takeF s (a : Int) = (k, (n : Int), true) := by
  by_cases h1 : a < s.length
  · by_cases h2 : s.getD a 0 = 34
    · have hd : s.drop a = 34 :: s.drop (a + 1) := by
        rw [List.drop_eq_getElem_cons h1]
        rw [List.getD_eq_getElem?_getD, List.getElem?_eq_getElem h1] at h2
        rw [show s[a] = 34 from h2]
      rw [takeF_in' s a h1 h2, hd, quo_q]
      cases hk : scan (s.drop (a + 1)) with
      | none => exact .inl ⟨rfl, rfl⟩
      | some p =>
        obtain ⟨k, n⟩ := p
        obtain ⟨_, b1, b2, b3⟩ := scan_ok _ _ (Nat.le_refl _) k n hk
        rw [List.length_drop] at b2
        refine .inr ⟨k, a + 1 + n, by omega, by omega, by omega, ?_, rfl⟩
        dsimp only
        rw [List.drop_drop]
    · left
      refine ⟨?_, takeF_no s a (fun h => h2 (by have := h.2.2; simpa using this))⟩
      rw [List.drop_eq_getElem_cons h1]
      exact quo_n _ (fun e => h2 (by rw [List.getD_eq_getElem?_getD, List.getElem?_eq_getElem h1]; exact e))
  · left
    refine ⟨by rw [List.drop_of_length_le (by omega)]; rfl, takeF_no s a (fun h => h1 (by have := h.2.1; omega))⟩
set_option maxHeartbeats 4000000 in
theorem quoted_calls (base : Nat) (w : World) (r : Nat) (s : List UInt8) (at_ : Nat) (U : Value) (fs : List Frm) (h : RSt base w r s at_ U fs) : Calls Tryz.prog 61 #[.pointer (some ⟨r, 0, none⟩)] w (QdPost base w r s at_ U fs) := by
  have H := Lib.hid h
  have HT := Lib.hid (fun W => take_calls s (at_ : Int) W (Nat.le_trans h.hs (by decide)))
  have HL := Lib.hid h.lt
  have d0 := h.blk.cell (k := 0) rfl
  have d1 := h.blk.cell (k := 1) rfl
  rcases quo_take (a := at_) h.hs with ⟨hq, ht⟩ | ⟨k, n, hn1, hn2, hn3, hq, ht⟩
  · unfold TakePost at HT
    rw [ht] at HT
    have HQ := Lib.hid hq
    clear hq ht h
    go_enter Tryz.func61, Tryz.ntmps61
    go_upto_region 1 with fail
    apply wp_region_lk (by kernel_rfl) (by kernel_rfl)
    apply lk_pure _ rfl (by intro W; go_simp; rfl)
    simp only [Act.put, List.setIfInBounds_toArray, List.set_cons_succ, List.set_cons_zero]
    apply lk_pure _ rfl (by intro W; go_simp; rfl)
    simp only [Act.put, List.setIfInBounds_toArray, List.set_cons_succ, List.set_cons_zero]
    apply lk_pure _ rfl (by intro W; go_simp; rfl)
    simp only [Act.put, List.setIfInBounds_toArray, List.set_cons_succ, List.set_cons_zero]
    apply lk_cell (.string ⟨s.toArray⟩) (r) (0) d0 HL.out rfl (by intro W hW; go_simp)
    simp only [Act.put, List.setIfInBounds_toArray, List.set_cons_succ, List.set_cons_zero]
    apply lk_pure _ rfl (by intro W; go_simp; rfl)
    simp only [Act.put, List.setIfInBounds_toArray, List.set_cons_succ, List.set_cons_zero]
    apply lk_pure _ rfl (by intro W; go_simp; rfl)
    simp only [Act.put, List.setIfInBounds_toArray, List.set_cons_succ, List.set_cons_zero]
    apply lk_pure _ rfl (by intro W; go_simp; rfl)
    simp only [Act.put, List.setIfInBounds_toArray, List.set_cons_succ, List.set_cons_zero]
    apply lk_cell (.int .i64 (at_ : Int)) (r) (1) d1 HL.out rfl (by intro W hW; go_simp)
    simp only [Act.put, List.setIfInBounds_toArray, List.set_cons_succ, List.set_cons_zero]
    apply lk_call (Lft.bare (· = .tuple #[.string ⟨#[]⟩, .int .i64 0, .bool false])) 81 #[.string ⟨s.toArray⟩, .int .i64 (at_ : Int)] rfl (by intro W; first | (go_simp; done) | (go_simp; exact ⟨rfl, rfl⟩)) (fun W hW => (HT.out W).mono fun en W' ⟨h1, h2⟩ => ⟨_, h1, rfl, trivial, h2⟩)
    rintro _ rfl
    simp only [Act.put, List.setIfInBounds_toArray, List.set_cons_succ, List.set_cons_zero]
    apply lk_pure _ rfl (by intro W; go_simp; rfl)
    simp only [Act.put, List.setIfInBounds_toArray, List.set_cons_succ, List.set_cons_zero]
    apply lk_pure _ rfl (by intro W; go_simp; rfl)
    simp only [Act.put, List.setIfInBounds_toArray, List.set_cons_succ, List.set_cons_zero]
    apply lk_pure _ rfl (by intro W; go_simp; rfl)
    simp only [Act.put, List.setIfInBounds_toArray, List.set_cons_succ, List.set_cons_zero]
    apply lk_pure _ rfl (by intro W; go_simp; rfl)
    simp only [Act.put, List.setIfInBounds_toArray, List.set_cons_succ, List.set_cons_zero]
    apply lk_pure _ rfl (by intro W; go_simp; rfl)
    simp only [Act.put, List.setIfInBounds_toArray, List.set_cons_succ, List.set_cons_zero]
    apply lk_pure _ rfl (by intro W; go_simp; rfl)
    simp only [Act.put, List.setIfInBounds_toArray, List.set_cons_succ, List.set_cons_zero]
    apply lk_pure _ rfl (by intro W; go_simp; rfl)
    simp only [Act.put, List.setIfInBounds_toArray, List.set_cons_succ, List.set_cons_zero]
    refine lk_nil (Fs := []) ?_
    intro w7 hb7 hz
    have H7 := Lib.hid (H.out.later hb7)
    have HB := Lib.hid (Chg.of hb7 : Chg (· = r) w w7)
    clear d0 d1 hb7 hz
    go_wp2_with fail
    refine (giveUp_calls _ _).mono ?_
    rintro e w2 ⟨rfl, rfl⟩
    go_wp2_with fail
    exact ⟨rfl, HB.out, .inl ⟨HQ.out, rfl⟩⟩
  · unfold TakePost at HT
    rw [ht] at HT
    have HQ := Lib.hid (And.intro hq (And.intro hn1 (And.intro hn2 hn3)))
    clear hq ht h hn1 hn2 hn3
    go_enter Tryz.func61, Tryz.ntmps61
    go_upto_region 1 with fail
    apply wp_region_lk (by kernel_rfl) (by kernel_rfl)
    apply lk_pure _ rfl (by intro W; go_simp; rfl)
    simp only [Act.put, List.setIfInBounds_toArray, List.set_cons_succ, List.set_cons_zero]
    apply lk_pure _ rfl (by intro W; go_simp; rfl)
    simp only [Act.put, List.setIfInBounds_toArray, List.set_cons_succ, List.set_cons_zero]
    apply lk_pure _ rfl (by intro W; go_simp; rfl)
    simp only [Act.put, List.setIfInBounds_toArray, List.set_cons_succ, List.set_cons_zero]
    apply lk_cell (.string ⟨s.toArray⟩) (r) (0) d0 HL.out rfl (by intro W hW; go_simp)
    simp only [Act.put, List.setIfInBounds_toArray, List.set_cons_succ, List.set_cons_zero]
    apply lk_pure _ rfl (by intro W; go_simp; rfl)
    simp only [Act.put, List.setIfInBounds_toArray, List.set_cons_succ, List.set_cons_zero]
    apply lk_pure _ rfl (by intro W; go_simp; rfl)
    simp only [Act.put, List.setIfInBounds_toArray, List.set_cons_succ, List.set_cons_zero]
    apply lk_pure _ rfl (by intro W; go_simp; rfl)
    simp only [Act.put, List.setIfInBounds_toArray, List.set_cons_succ, List.set_cons_zero]
    apply lk_cell (.int .i64 (at_ : Int)) (r) (1) d1 HL.out rfl (by intro W hW; go_simp)
    simp only [Act.put, List.setIfInBounds_toArray, List.set_cons_succ, List.set_cons_zero]
    apply lk_call (Lft.bare (· = .tuple #[.string ⟨k.toArray⟩, .int .i64 (n : Int), .bool true])) 81 #[.string ⟨s.toArray⟩, .int .i64 (at_ : Int)] rfl (by intro W; first | (go_simp; done) | (go_simp; exact ⟨rfl, rfl⟩)) (fun W hW => (HT.out W).mono fun en W' ⟨h1, h2⟩ => ⟨_, h1, rfl, trivial, h2⟩)
    rintro _ rfl
    simp only [Act.put, List.setIfInBounds_toArray, List.set_cons_succ, List.set_cons_zero]
    apply lk_pure _ rfl (by intro W; go_simp; rfl)
    simp only [Act.put, List.setIfInBounds_toArray, List.set_cons_succ, List.set_cons_zero]
    apply lk_pure _ rfl (by intro W; go_simp; rfl)
    simp only [Act.put, List.setIfInBounds_toArray, List.set_cons_succ, List.set_cons_zero]
    apply lk_pure _ rfl (by intro W; go_simp; rfl)
    simp only [Act.put, List.setIfInBounds_toArray, List.set_cons_succ, List.set_cons_zero]
    apply lk_pure _ rfl (by intro W; go_simp; rfl)
    simp only [Act.put, List.setIfInBounds_toArray, List.set_cons_succ, List.set_cons_zero]
    apply lk_pure _ rfl (by intro W; go_simp; rfl)
    simp only [Act.put, List.setIfInBounds_toArray, List.set_cons_succ, List.set_cons_zero]
    apply lk_pure _ rfl (by intro W; go_simp; rfl)
    simp only [Act.put, List.setIfInBounds_toArray, List.set_cons_succ, List.set_cons_zero]
    apply lk_pure _ rfl (by intro W; go_simp; rfl)
    simp only [Act.put, List.setIfInBounds_toArray, List.set_cons_succ, List.set_cons_zero]
    refine lk_nil (Fs := []) ?_
    intro w7 hb7 hz
    have H7 := Lib.hid (H.out.later hb7)
    have HB := Lib.hid (Chg.of hb7 : Chg (· = r) w w7)
    have f1 := H7.out.blk.frozen 1
    have d1' := H7.out.blk.cell (k := 1) rfl
    clear d0 d1 hb7 hz
    go_wp2_with fail
    go_ret
    have hb9 : Blk (w7.setCell ⟨r, 1, none⟩ (.int .i64 (n : Int))) r 50 [.string ⟨s.toArray⟩, .int .i64 (n : Int), U] := H7.out.blk.set_ 1 (.int .i64 (n : Int))
    exact ⟨HB.out.setCell (.inl rfl) _, .inr ⟨k, n, rfl, HQ.out.1, HQ.out.2.1, HQ.out.2.2.2, H7.out.move (Chg.set1 (C := (· = r)) rfl _ _) hb9 (Nat.le_of_lt HQ.out.2.1) HQ.out.2.2.1⟩⟩
end Go.Proofs.YtajkgcmopmpihaaGreatDoor
namespace Go.Proofs.YtajkgcmopmpihaaGreatDoor
open Go.ChangeShapes Go.WideShapes Go.ChangeAt Go.RowKit Go.IntWalk
set_option linter.unusedVariables false
theorem wp_append_one {o : Oper} {a : Act} {K : Act → World → Prop} {Q : Exit → Act → World → Prop} {W : World} (s x : Operand) (S E : TypeId) {z : Value} {bytes : Nat}
    (hS : Tryz.prog.underlying S = some (.slice E)) (hE : (Tryz.prog.info? E).map (fun i => (i.zero, i.size, i.bytes)) = some (some z, 1, bytes)) (hzc : z.cells.size = 1)
    (ho : o.op = .call { callee := .builtin .append, args := #[s, x], argTypes := #[S, S] })
    (base : Nat) (v : Value) (vs : List Value) (hs : a.eval s = v) (hown : OwnVs base E W v vs) (u : Value) (B : Nat) (T : TypeId) (hB : Blk W B T [u]) (hx : a.eval x = .slice (some ⟨B, 0, none⟩) 1 1)
    (h1 : u.oneCell' = true) (h63 : vs.length + 1 ≤ maxLen) (hlen : (vs.length + 1) * bytes ≤ 140737488355328) (hbase : base ≤ W.heap.size)
    (h : ∀ g c w', OwnVs base E w' (.slice (some ⟨g, 0, none⟩) (vs.length + 1) c) (vs ++ [u]) → W.grownBy w' v.ownBlock → (v.ownBlock = some g ∨ g = W.heap.size) → K (a.put o.dst (.slice (some ⟨g, 0, none⟩) (vs.length + 1) c)) w') :
    o.wp Tryz.prog a W K Q := by
  obtain ⟨i0, hi, hz0, hz1, hz2⟩ := info_parts hE
  refine wp_append_lies W s x S ho base E i0 z 1 bytes hS hi hz0 hz1 hz2 hzc (by decide) v vs.length vs hs hown ⟨B, 0, none⟩ 1 1 [u] hx rfl ?_ (fun y hy => by rw [List.mem_singleton.1 hy]; exact h1) (by decide) h63 hlen hbase _ rfl ?_
  · intro j y hj
    have hplain : (⟨B, 0, none⟩ : Addr).add j = ⟨B, j, none⟩ := by unfold Addr.add; split <;> simp_all
    rw [hplain]
    exact hB.cell hj
  · intro g cap w' h2 h3 h4 _
    exact h g cap w' (by unfold OwnVs; rw [List.length_append]; exact h2) h3 h4
theorem wpList_append_one {ops : Array Oper} {rest : List Oper} {o : Oper} {a : Act} {Q : Exit → Act → World → Prop} {w : World} (hgd : o.guard = none) (s x : Operand) (S E : TypeId) {z : Value} {bytes : Nat}
    (hS : Tryz.prog.underlying S = some (.slice E)) (hE : (Tryz.prog.info? E).map (fun i => (i.zero, i.size, i.bytes)) = some (some z, 1, bytes)) (hzc : z.cells.size = 1)
    (ho : o.op = .call { callee := .builtin .append, args := #[s, x], argTypes := #[S, S] })
    (base : Nat) (v : Value) (vs : List Value) (hs : a.eval s = v) (hown : OwnVs base E w v vs) (u : Value) (T : TypeId) (C : Array Value) (hC : C = #[u]) (hx : a.eval x = .slice (some ⟨w.heap.size, 0, none⟩) 1 1)
    (h1 : u.oneCell' = true) (h63 : vs.length + 1 ≤ maxLen) (hlen : (vs.length + 1) * bytes ≤ 140737488355328) (hbase : base ≤ w.heap.size)
    (h : ∀ g c w', OwnVs base E w' (.slice (some ⟨g, 0, none⟩) (vs.length + 1) c) (vs ++ [u]) → w.grownBy w' v.ownBlock → (v.ownBlock = some g ∨ w.heap.size ≤ g) → wpList Tryz.prog ops Q rest (a.put o.dst (.slice (some ⟨g, 0, none⟩) (vs.length + 1) c)) w') :
    wpList Tryz.prog ops Q (o :: rest) a (w.alloc (.cells C T)) := by
  subst hC
  refine wpList_plain hgd fun K hK => wp_append_one s x S E hS hE hzc ho base v vs hs (hown.alloc _) u w.heap.size T (Blk.new w [u] T) hx h1 h63 hlen (by simp; omega) ?_
  intro g c w' h2 h3 h4
  refine hK _ _ (h g c w' h2 ⟨h3.os, h3.tape, h3.output, Nat.le_trans (by simp) h3.size, fun k hk hne => (h3.block k (by simp; omega) hne).trans (heap_alloc_old w _ hk)⟩ ?_)
  rcases h4 with h4 | h4
  · exact .inl h4
  · exact .inr (by rw [h4]; simp)
end Go.Proofs.YtajkgcmopmpihaaGreatDoor
namespace Go.Proofs.YtajkgcmopmpihaaGreatDoor
open Go.ChangeShapes Go.WideShapes Go.ChangeAt Go.RowKit Go.IntWalk
set_option linter.unusedVariables false
set_option maxRecDepth 100000
theorem info_any : (Tryz.prog.info? 20).map (fun i => (i.zero, i.size, i.bytes)) = some (some .nilIface, 1, 16) := by kernel_rfl
def rU (r : Nat) (U : Value) (b : Nat) : Prop := b = r ∨ U.ownBlock = some b
def OpPost (base : Nat) (w : World) (r : Nat) (s : List UInt8) (at_ : Nat) (U : Value) (fs : List Frm) (f : Frm) (e : Ending) (w' : World) : Prop :=
  Chg (rU r U) w w' ∧ ((e = .panicked (flt 5) ∧ fs.length = 32) ∨ (e = .returned (.tuple #[]) ∧ fs.length ≠ 32 ∧ ∃ U', RSt base w' r s (at_ + 1) U' (f :: fs)))
set_option maxHeartbeats 4000000 in
theorem open_calls (base : Nat) (w : World) (r : Nat) (s : List UInt8) (at_ : Nat) (U : Value) (fs : List Frm) (f : Frm) (h : RSt base w r s at_ U fs) (hat : at_ < s.length) (hf : FIn base w f) (hfr : ¬ f.F r) (hfu : ∀ b, U.ownBlock = some b → ¬ f.F b) (hff : ∀ f' ∈ fs, ∀ b, f.F b → ¬ f'.F b) (h0 : f.fr.acc.ext = 0) :
    Calls Tryz.prog 56 #[.pointer (some ⟨r, 0, none⟩), f.ptr] w (OpPost base w r s at_ U fs f) := by
  have H := Lib.hid h
  have HF := Lib.hid (And.intro hf (And.intro hfr (And.intro hfu (And.intro hff h0))))
  obtain ⟨A, n, cap, hU, hrv, hn, hnc⟩ := h.own.form
  subst hU
  have hn2 : n = fs.length := by have := hn.out; rw [this]; simp
  have d1 := h.blk.cell (k := 1) rfl
  have d2 := h.blk.cell (k := 2) rfl
  have f1 := h.blk.frozen 1
  have hl := h.len
  have hs6 := h.hs
  unfold Frm.ptr
  obtain ⟨T, hT⟩ : ∃ T, f.fr.ty = T := ⟨_, rfl⟩
  obtain ⟨q, hq⟩ : ∃ q, f.g = q := ⟨_, rfl⟩
  have HP := Lib.hid (show f.ptr = .iface T (.pointer (some ⟨q, 0, none⟩)) by unfold Frm.ptr; rw [hT, hq])
  rw [hT, hq]
  clear h hf hfr hfu hff h0 hrv hn hnc hT hq
  by_cases h32 : n = 32
  · have hb : ((n : Int) == 32) = true := by rw [h32]; rfl
    have HN := Lib.hid (And.intro h32 hn2)
    clear h32 hn2
    go_enter Tryz.func56, Tryz.ntmps56
    go_wp2_with fail
    refine (giveUp_calls _ _).mono ?_
    rintro e w2 ⟨rfl, rfl⟩
    go_wp2_with fail
    exact ⟨rfl, Chg.refl _ _, .inl ⟨rfl, by rw [← HN.out.2]; exact HN.out.1⟩⟩
  · have hb : ((n : Int) == 32) = false := by rw [beq_eq_false_iff_ne]; omega
    have hat6 : at_ ≤ 65536 := by omega
    have HN := Lib.hid (And.intro h32 hn2)
    clear h32 hn2
    go_enter Tryz.func56, Tryz.ntmps56
    go_upto_region 3 with fail
    refine wp_gen (fun W => Chg (· = r) w W ∧ Blk W r 50 [.string ⟨s.toArray⟩, .int .i64 ((at_ + 1 : Nat) : Int), .slice A n cap]) ⟨Chg.set1 (C := (· = r)) rfl _ _, H.out.blk.set_ 1 _⟩ ?_
    clear d1 d2 f1
    rintro W1 ⟨g1, g2⟩
    have HR := Lib.hid (H.out.move g1 g2 (Nat.le_succ _) (by omega))
    have H1 := Lib.hid g1
    have d2 := g2.cell (k := 2) rfl
    clear g1 g2
    go_wp2_with (at_builtin; refine wpList_append_one rfl _ _ 48 20 Tryz.underlying48 info_any rfl rfl base _ _ rfl HR.out.own (.iface T (.pointer (some ⟨q, 0, none⟩))) _ _ rfl rfl rfl (by have := HR.out.len; simp [maxLen]; omega) (by have := HR.out.len; simp; omega) (Nat.le_trans HR.out.hr (Nat.le_of_lt HR.out.lt)) ?_; intro g c w3 h3 g3 c3; have hb3 : Blk w3 r 50 [.string ⟨s.toArray⟩, .int .i64 ((at_ + 1 : Nat) : Int), .slice A n cap] := ((g3.block r HR.out.lt (fun e => HR.out.ur r e.symm rfl)).trans HR.out.blk); have d2 := hb3.cell (k := 2) rfl; have f2 := hb3.frozen 2)
    go_end0
    have e0 : (fs.reverse.map Frm.ptr).length = fs.length := by simp
    rw [e0] at h3
    have hgr : g ≠ r := by
      rcases c3 with c3 | c3
      · exact HR.out.ur g c3
      · have := HR.out.lt; omega
    have hc3 : Chg (rU r (.slice A n cap)) W1 w3 := (Chg.refl _ _).grown g3 (fun b e => .inl (.inr e))
    have hc4 : Chg (rU r (.slice A n cap)) W1 (w3.setCell ⟨r, 2, none⟩ (.slice (some ⟨g, 0, none⟩) (fs.length + 1) c)) := hc3.setCell (.inl (.inl rfl)) _
    have hb4 := hb3.set_ 2 (.slice (some ⟨g, 0, none⟩) (fs.length + 1) c)
    have hs4 : w3.heap.size = (w3.setCell ⟨r, 2, none⟩ (.slice (some ⟨g, 0, none⟩) (fs.length + 1) c)).heap.size := by simp [World.setCell]
    have hw0 : Chg (· = r) w W1 := H1.out
    refine ⟨(hw0.mono (fun b _ e => .inl e)).then_ hc4, .inr ⟨rfl, by rw [← HN.out.2]; exact HN.out.1, .slice (some ⟨g, 0, none⟩) (fs.length + 1) c, ?_⟩⟩
    have hF1 : FIn base W1 f := HF.out.1.chg hw0 (fun b hb e => HF.out.2.1 (by rw [← e]; exact hb))
    refine ⟨hb4, ?_, ?_, ?_, ?_, ?_, HR.out.hr, ?_, HR.out.hat, HR.out.hs, ?_⟩
    · rw [List.reverse_cons, List.map_append]
      have e1 : [f].map Frm.ptr = [.iface T (.pointer (some ⟨q, 0, none⟩))] := by rw [← HP.out]; rfl
      rw [e1]
      refine ⟨h3.1, ?_⟩
      rcases h3.2 with h5 | ⟨g', cap', cur, hv, hb, hh, q'⟩
      · exact .inl h5
      · refine .inr ⟨g', cap', cur, hv, hb, ?_, q'⟩
        have : g' = g := by injection hv with hv; injection hv with hv; injection hv with hv; exact hv.symm
        subst this
        exact (Deep.blk_setCell_other _ _ _ _ hgr).trans hh
    · intro b e
      injection e with e
      rw [← e]; exact hgr
    · intro f' hf'
      rcases List.mem_cons.1 hf' with rfl | hf'
      · refine ⟨HF.out.2.1, fun b e hb => ?_⟩
        injection e with e
        rw [← e] at hb
        rcases c3 with c3 | c3
        · exact HF.out.2.2.1 g c3 hb
        · have := (hF1.2.2.2.2.1 g hb).2; omega
      · refine ⟨(HR.out.away f' hf').1, fun b e hb => ?_⟩
        injection e with e
        rw [← e] at hb
        rcases c3 with c3 | c3
        · exact (HR.out.away f' hf').2 g c3 hb
        · have := ((HR.out.ins f' hf').2.2.2.2.1 g hb).2; omega
    · intro f' hf'
      rcases List.mem_cons.1 hf' with rfl | hf'
      · exact hF1.chg hc4 (fun b hb e => by
          rcases e with e | e
          · exact HF.out.2.1 (by rw [← e]; exact hb)
          · exact HF.out.2.2.1 b e hb)
      · exact (HR.out.ins f' hf').chg hc4 (fun b hb e => by
          rcases e with e | e
          · exact (HR.out.away f' hf').1 (by rw [← e]; exact hb)
          · exact (HR.out.away f' hf').2 b e hb)
    · exact List.Pairwise.cons (fun f' hf' b hb => HF.out.2.2.2.1 f' hf' b hb) HR.out.apart
    · have := HR.out.len
      have h5 := HN.out
      rw [List.length_cons]; omega
    · intro f' hf'
      rcases List.mem_cons.1 hf' with rfl | hf'
      · rw [HF.out.2.2.2.2]; exact Nat.zero_le _
      · exact HR.out.sub f' hf'
end Go.Proofs.YtajkgcmopmpihaaGreatDoor
namespace Go.Proofs.YtajkgcmopmpihaaGreatDoor
open Go.RowKit
def ordFrom (md : Region.Mode) (ops : Array Oper) : List Nat → Array Bool → Bool
  | [], listed => (Region.ready md ops listed).isEmpty
  | i :: ord, listed => (Region.ready md ops listed).contains i && Region.free md ops listed i && ordFrom md ops ord (listed.setIfInBounds i true)
theorem maps_nil : ([] : List (Option Oper)) = ([] : List Oper).map some := rfl
theorem maps_cons {o : Oper} {xs : List (Option Oper)} {l : List Oper} (h : xs = l.map some) : some o :: xs = (o :: l).map some := by rw [h]; rfl
section
variable {P : Program} {ops : Array Oper} {md : Region.Mode} {w0 : World}
theorem wpAnyLk_ord {F : Nat → Lft} {Q : Act → World → Prop} (hs : Region.noSelect ops = true) : ∀ (ord : List Nat) (l : List Oper) (Fs : List Lft) (listed : Array Bool) (Z : World → Prop) (a : Act), ord.map (fun i => ops[i]?) = l.map some →
    (∀ (j : Nat) (i : Nat) R, ord[j]? = some i → Fs[j]? = some R → F i = R) → ordFrom md ops ord listed = true → wpLk P ops w0 (fun Z a => ∀ w', Below w0.heap.size w0 w' → Z w' → Q a w') l Fs Z a → wpAnyLk P md ops w0 F Q ord.length listed Z a
  | [], [], _, _, _, _, _, _, hB, h => ⟨by simpa [ordFrom] using hB, by simpa [wpLk] using h⟩
  | [], _ :: _, _, _, _, _, hl, _, _, _ => by cases hl
  | _ :: _, [], _, _, _, _, hl, _, _, _ => by cases hl
  | i :: ord, o :: l, [], listed, Z, a, hl, hF, hB, h => by simp [wpLk] at h
  | i :: ord, o :: l, R :: Fs, listed, Z, a, hl, hF, hB, h => by
    simp only [List.map_cons, List.cons.injEq] at hl
    obtain ⟨h0, hl⟩ := hl
    simp only [ordFrom, Bool.and_eq_true] at hB
    obtain ⟨⟨hr, hf⟩, hB'⟩ := hB
    unfold wpLk at h
    have hR : F i = R := hF 0 i R rfl rfl
    rw [← hR] at h
    exact wpAnyLk_first h0 (Region.noSelect_spec hs) ord.length listed Z a (Region.free_spec h0 hf) (by simpa using hr)
      (stepK_mono (fun _ h => h) (fun Y Y' a' hY hK => wpAnyLk_anti _ _ Y Y' a' hY (wpAnyLk_ord hs ord l Fs _ _ _ hl (fun j k R h1 h2 => hF (j + 1) k R (by simpa using h1) (by simpa using h2)) hB' hK)) h)
theorem wp_region_lo {id : Nat} {Q : Exit → Act → World → Prop} {a : Act} {w : World} {l l' : List Oper} {Fs : List Lft} (ord : List Nat) (hm : P.follows .mixedOrders = true) (hnd : ord.Nodup) (hlen : ord.length = l.toArray.size) (hs : Region.noSelect l.toArray = true) (hB : ordFrom .any l.toArray ord (Array.replicate l.toArray.size false) = true)
    (hl : ord.map (fun i => l[i]?) = l'.map some)
    (h : wpLk P l.toArray w (fun Z a' => ∀ w', Below w.heap.size w w' → Z w' → Q .normal a' w') l' Fs (fun _ => True) a) : (Code.region id l.toArray true).wp P Q a w := by
  refine wp_region_any hm (wpAny_of_lk (w0 := w) (F := fun i => Fs.getD (ord.idxOf i) (Lft.bare fun _ => False)) (Q := fun a' w' => Q .normal a' w') (fun _ w' h => h) _ _ (fun _ => True) _ _ (fun _ _ _ _ => trivial) ((Below.refl w.heap.size w).drewN 1) trivial ?_)
  have := wpAnyLk_ord (P := P) (w0 := w) (F := fun i => Fs.getD (ord.idxOf i) (Lft.bare fun _ => False)) (Q := fun a' w' => Q .normal a' w') (md := .any) hs ord l' Fs (Array.replicate l.toArray.size false) (fun _ => True) a (by simpa using hl) (fun j i R h1 h2 => by
    obtain ⟨hj, h1⟩ := List.getElem?_eq_some_iff.1 h1
    rw [← h1, hnd.idxOf_getElem j hj]
    simp [h2]) hB h
  rw [hlen] at this
  exact this
end
end Go.Proofs.YtajkgcmopmpihaaGreatDoor
