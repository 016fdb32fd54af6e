/- Layer 5: Rest, walked. -/
import Derived.Test.YtoligamlafgaoaaDoorSoD
import Derived.Test.YtoligamlafgaoaaDoorSoE
namespace Go.Proofs.YtoligamlafgaoaaDoor.Sc
open Go.Proofs.YtoligamlafgaoaaDoor
open Go.ChangeShapes Go.WideShapes Go.ChangeAt Go.RowKit Go.IntWalk Go.Shelf
set_option linter.unusedVariables false
attribute [local go_sem] Oper.semAt_some

def foldN (xs : List (Nat × UInt8)) : Nat := xs.foldl (fun r x => (256 * r + x.2.toNat) % LO) 0
theorem foldN_snoc (xs : List (Nat × UInt8)) (x : Nat × UInt8) : foldN (xs ++ [x]) = (256 * foldN xs + x.2.toNat) % LO := by simp [foldN]
theorem LO_pos : 0 < LO := by decide +kernel
theorem foldN_lt (xs : List (Nat × UInt8)) : foldN xs < LO := by
  rcases List.eq_nil_or_concat xs with rfl | ⟨ys, x, rfl⟩
  · exact LO_pos
  · rw [List.concat_eq_append, foldN_snoc]; exact Nat.mod_lt _ LO_pos
theorem foldN_upto (bs : List UInt8) : ∀ k, k ≤ bs.length → foldN (upto (backAt bs) k) = leN (bs.drop (bs.length - k)) % LO
  | 0, _ => by simp [upto, foldN, leN]
  | k + 1, h => by
    rw [upto_succ, foldN_snoc, foldN_upto bs k (by omega), backAt_is bs k (bs.length - 1 - k) (by omega)]
    have hd : bs.drop (bs.length - (k + 1)) = bs.getD (bs.length - 1 - k) 0 :: bs.drop (bs.length - k) := by
      rw [List.drop_eq_getElem_cons (by omega), show bs.length - (k + 1) + 1 = bs.length - k by omega]
      congr 1
      simp [List.getD, show bs.length - (k + 1) = bs.length - 1 - k by omega, List.getElem?_eq_getElem (show bs.length - 1 - k < bs.length by omega)]
    rw [hd]
    simp only [leN]
    rw [Nat.add_mod, Nat.mul_mod, Nat.mod_mod, ← Nat.mul_mod, ← Nat.add_mod, Nat.add_comm]
theorem calls_of_marks {P : Program} {f : FuncId} {fn : Func} {c : Code} {args : Array Value} {w : World} {R : Ending → World → Prop} (hf : P.funcs[f]? = some fn) (hb : fn.body = some c)
    (h : c.wp P (bodyPostM Fence.wide 9 P fn R) { tmps := args ++ Array.replicate (fn.ntmps - args.size) undef, defers := [] } w) : Calls P f args w R :=
  (callsIn_wide (n := 9)).1 (callsIn_of_wp_marks hf hb trivial (wpIn_wide.2 h) rfl)
theorem post_marks {P : Program} {fn : Func} {R : Ending → World → Prop} {tmps : Array Value} {D : Nat} {W : World} {v : Value} (hK : W.heap[D]? = some (.deferred (some [])))
    (hres : (results fn tmps).run P (W.putObj D (.deferred none)) = .ok v (W.putObj D (.deferred none))) (hR : R (.returned v) (W.putObj D (.deferred none))) :
    bodyPostM Fence.wide 9 P fn R .ret { tmps := tmps, defers := [{ target := .collected D, args := #[] }] } W :=
  ⟨by simp, .inl ⟨D, _, rfl, run_takeDeferred hK, v, hres, hR⟩⟩
def ReI (B Bs : Nat) (W3 : World) (xs : List (Nat × UInt8)) (W : World) : Prop :=
  (∃ a b c d : Nat, Blk W B 79 (nu [a, b, c, d]) ∧ IsW (V4 a b c d) (foldN xs)) ∧ KB B Bs W3 W
theorem ReI.own (B Bs S : Nat) (W3 : World) (hB : B < S) (hs : Bs < S) (h3 : B ≤ W3.heap.size) (h4 : Bs < W3.heap.size) : OwnFrom S (ReI B Bs W3) := by
  rintro xs W W' row ⟨⟨a, b, c, d, h1, h2⟩, h5⟩ hg hr
  refine ⟨⟨a, b, c, d, ?_, h2⟩, h5.1.grown hg (Nat.le_trans h3 h5.1.size) (fun k e => ?_), ?_⟩
  · exact (hg.block B h1.lt (fun e => by have := (hr B e.symm).1; omega)).trans h1
  · have := (hr k e).1; omega
  · have hsz := h5.1.size
    exact (hg.block Bs (by omega) (fun e => by have := (hr Bs e.symm).1; omega)).trans h5.2
set_option maxRecDepth 100000 in
set_option maxHeartbeats 4000000 in
theorem rest_calls (A : Option Addr) (len cap : Nat) (bs : List UInt8) (hlen : Hid (len = bs.length)) (hreach : len ≤ 2 ^ 62) (w : World) (hT : Tab w) (hr : RB w A bs) :
    Calls Tryd.prog 25 #[.slice A len cap] w (BPost (leN bs % LO) w) := by
  have H0 := Lib.hid (And.intro hT hr)
  clear hT hr
  refine calls_of_marks Tryd.func25 rfl ?_
  simp only [Tryd.ntmps25, List.size_toArray, List.length_cons, List.length_nil, Nat.reduceAdd, Nat.reduceSub, Array.replicate_succ, Array.replicate_zero, List.push_toArray, List.append_toArray, List.nil_append, List.cons_append]
  go_wp2_with fail
  refine (backward_calls A len cap _).mono ?_
  rintro e w3 ⟨rfl, rfl⟩
  have hal := alloc3 w (u8b (List.replicate 32 0)) (nu [0, 0, 0, 0]) [Value.slice A len cap] 22 79 39
  have HAL : Hid (_ ∧ _) := Lib.hid (And.intro hal.1 (And.intro hal.2.1 (And.intro hal.2.2.1 hal.2.2.2)))
  clear hal
  go_wp2_with fail
  refine wp_gen (fun W => Blk W w.heap.size 22 (u8b (List.replicate 32 0)) ∧ Blk W (w.heap.size + 1) 79 (nu [0, 0, 0, 0]) ∧ Blk W (w.heap.size + 1 + 1) 39 [Value.slice A len cap] ∧ Below w.heap.size w W) HAL.out ?_
  rintro W3 ⟨hz3, hn3, hs3, hb3⟩
  have hl3 := hs3.lt
  have hr3 := H0.out.2.below hb3
  have HB3 := Lib.hid hb3
  have HT3 := Lib.hid (H0.out.1.later hb3)
  have HZ3 := Lib.hid hz3
  clear HAL
  refine (wpIn_wide (n := 8)).1 (wpIn_rangeFunc_ownG (F := Fence.wide) (n := 8) rfl (by decide) (gf := 71) (lb := #[.pointer (some ⟨w.heap.size + 1 + 1, 0, none⟩)]) rfl trivial (enters_of Tryd.func71 (by kernel_rfl) rfl)
    (back_stops Fence.wide 7 trivial rfl (by decide) (w.heap.size + 1 + 1) (w.heap.size + 1) A len cap bs hlen hreach W3
      (fun h0 => by obtain ⟨x, o, e, hx⟩ := H0.out.2.some h0; exact ⟨x, o, e, by omega⟩) hl3 (hs3.cell rfl) hr3) (fun h k => h.trans k) (KB.book (by omega) hl3) (Below.refl _ _) (fun _ => rfl)
    (ReI (w.heap.size + 1) (w.heap.size + 1 + 1) W3) (fun _ _ _ => False) (ReI.own _ _ _ _ (by omega) hl3 (by omega) hl3) (fun _ _ _ _ _ hs _ _ => hs)
    ⟨⟨0, 0, 0, 0, hn3, ⟨0, 0, 0, 0, rfl, by decide, by decide, by decide, by decide, rfl⟩⟩, Below.refl _ _, rfl⟩
    (fun x => { tmps := #[.slice A len cap, undef, .pointer (some ⟨w.heap.size, 0, none⟩), .pointer (some ⟨w.heap.size + 1, 0, none⟩), undef, .int .u8 (x.2.toNat : Int), .slice A len cap, .func (.func 71) #[] #[.pointer (some ⟨w.heap.size + 1 + 1, 0, none⟩)], .int .i64 (x.1 : Int), .int .u8 (x.2.toNat : Int), undef, undef, undef, undef, undef], defers := [] }) ?assign ?body ?done ?stop)
  case assign =>
    intro l x W K hK
    gi_wp2
    exact hK
  case body =>
    rintro l pre x W ⟨⟨a, b, c, d, hB, hI⟩, hkb⟩ hlt
    have c0 := hB.cell (nu_at (k := 0) (n := a) rfl)
    have c1 := hB.cell (nu_at (k := 1) (n := b) rfl)
    have c2 := hB.cell (nu_at (k := 2) (n := c) rfl)
    have c3 := hB.cell (nu_at (k := 3) (n := d) rfl)
    have hI0 := hI
    unfold V4 at hI0
    have hTW : Tab W := ⟨fun j v hv => (hkb.1.cell (p := ⟨3, 0 + j, none⟩) (by show 3 < w.heap.size + 1; have := H0.out.1.2; omega)).trans (HT3.out.1 j v hv), by have := HT3.out.2; have := hkb.1.size; omega⟩
    have hpush := fun W' => pushed_calls (.agg #[.int .u64 (a : Int), .int .u64 (b : Int), .int .u64 (c : Int), .int .u64 (d : Int)]) (foldN pre) x.2.toNat hI0 (foldN_lt pre) x.2.toNat_lt W'
    gi_wp2
    refine ⟨trivial, ?_⟩
    refine (CallsIn.inRound l ((callsIn_wide (n := 5)).2 (hpush W hTW))).mono ?_
    rintro e W4 ⟨v4, rfl, hv4, b4⟩
    rw [← foldN_snoc] at hv4
    obtain ⟨a4, p4, q4, r4, rfl, h1, h2, h3, h4, hval⟩ := hv4
    have hB4 := hB.later b4
    have d0 := hB4.cell (nu_at (k := 0) (n := a) rfl)
    have d1 := hB4.cell (nu_at (k := 1) (n := b) rfl)
    have d2 := hB4.cell (nu_at (k := 2) (n := c) rfl)
    have d3 := hB4.cell (nu_at (k := 3) (n := d) rfl)
    have f0 := hB4.frozen 0
    have f1 := hB4.frozen 1
    have f2 := hB4.frozen 2
    have f3 := hB4.frozen 3
    have hE := (((hB4.set_ 0 (.int .u64 (a4 : Int))).set_ 1 (.int .u64 (p4 : Int))).set_ 2 (.int .u64 (q4 : Int))).set_ 3 (.int .u64 (r4 : Int))
    have hbW : Below (w.heap.size + 1) W W4 := b4.mono (by have := hB.lt; omega)
    have hbE : Below (w.heap.size + 1) W ((((W4.setCell ⟨w.heap.size + 1, 0, none⟩ (.int .u64 (a4 : Int))).setCell ⟨w.heap.size + 1, 1, none⟩ (.int .u64 (p4 : Int))).setCell ⟨w.heap.size + 1, 2, none⟩ (.int .u64 (q4 : Int))).setCell ⟨w.heap.size + 1, 3, none⟩ (.int .u64 (r4 : Int))) :=
      (((hbW.setCell (Nat.le_refl _) _).setCell (Nat.le_refl _) _).setCell (Nat.le_refl _) _).setCell (Nat.le_refl _) _
    have hbox : ((((W4.setCell ⟨w.heap.size + 1, 0, none⟩ (.int .u64 (a4 : Int))).setCell ⟨w.heap.size + 1, 1, none⟩ (.int .u64 (p4 : Int))).setCell ⟨w.heap.size + 1, 2, none⟩ (.int .u64 (q4 : Int))).setCell ⟨w.heap.size + 1, 3, none⟩ (.int .u64 (r4 : Int))).heap[w.heap.size + 1 + 1]? = W.heap[w.heap.size + 1 + 1]? := by
      have hlt2 : w.heap.size + 1 + 1 < W.heap.size := Nat.lt_of_lt_of_le hl3 hkb.1.size
      have := b4.block (w.heap.size + 1 + 1) hlt2
      rw [← this]
      simp [World.setCell, Array.getElem?_modify]
    have hkf : KeepsFrom W3.heap.size W ((((W4.setCell ⟨w.heap.size + 1, 0, none⟩ (.int .u64 (a4 : Int))).setCell ⟨w.heap.size + 1, 1, none⟩ (.int .u64 (p4 : Int))).setCell ⟨w.heap.size + 1, 2, none⟩ (.int .u64 (q4 : Int))).setCell ⟨w.heap.size + 1, 3, none⟩ (.int .u64 (r4 : Int))) :=
      (KeepsFrom.of_grownBy (gb_below b4 (row := none)) (fun j e => by cases e)).trans (((((KeepsOthers.setCell _ _ _).trans (KeepsOthers.setCell _ _ _)).trans (KeepsOthers.setCell _ _ _)).trans (KeepsOthers.setCell _ _ _)).from _)
    have HFIN : Hid (KeepsFrom W3.heap.size W ((((W4.setCell ⟨w.heap.size + 1, 0, none⟩ (.int .u64 (a4 : Int))).setCell ⟨w.heap.size + 1, 1, none⟩ (.int .u64 (p4 : Int))).setCell ⟨w.heap.size + 1, 2, none⟩ (.int .u64 (q4 : Int))).setCell ⟨w.heap.size + 1, 3, none⟩ (.int .u64 (r4 : Int))) ∧ KB (w.heap.size + 1) (w.heap.size + 1 + 1) W ((((W4.setCell ⟨w.heap.size + 1, 0, none⟩ (.int .u64 (a4 : Int))).setCell ⟨w.heap.size + 1, 1, none⟩ (.int .u64 (p4 : Int))).setCell ⟨w.heap.size + 1, 2, none⟩ (.int .u64 (q4 : Int))).setCell ⟨w.heap.size + 1, 3, none⟩ (.int .u64 (r4 : Int))) ∧ ReI (w.heap.size + 1) (w.heap.size + 1 + 1) W3 (pre ++ [x]) ((((W4.setCell ⟨w.heap.size + 1, 0, none⟩ (.int .u64 (a4 : Int))).setCell ⟨w.heap.size + 1, 1, none⟩ (.int .u64 (p4 : Int))).setCell ⟨w.heap.size + 1, 2, none⟩ (.int .u64 (q4 : Int))).setCell ⟨w.heap.size + 1, 3, none⟩ (.int .u64 (r4 : Int)))) :=
      Lib.hid ⟨hkf, ⟨hbE, hbox⟩, ⟨a4, p4, q4, r4, hE, ⟨a4, p4, q4, r4, rfl, h1, h2, h3, h4, hval⟩⟩, hkb.1.trans hbE, hbox.trans hkb.2⟩
    clear hkf hbE hbox hE hbW hval h1 h2 h3 h4 b4 hB4 hpush hI0 c0 c1 c2 c3
    unfold V4
    gi_wp2
    exact HFIN.out
  case done =>
    rintro D ys W hD rfl ⟨⟨a, b, c, d, hB, hI⟩, hkb⟩ hK
    have HR := Lib.hid hB.rng
    have HIW : Hid (IsW (.agg (nu [a, b, c, d]).toArray) (leN bs % LO)) := Lib.hid (by
      have := foldN_upto bs bs.length (Nat.le_refl _)
      rw [Nat.sub_self, List.drop_zero] at this
      rw [← this]; exact hI)
    have HS := Lib.hid (show (Tryd.prog.info? 79).map (·.size) = some (nu [a, b, c, d]).length from size4)
    obtain ⟨dv, hdv⟩ : ∃ q, nu [a, b, c, d] = q := ⟨_, rfl⟩
    rw [hdv] at HR HIW HS
    have HKB := Lib.hid hkb
    have HKD := Lib.hid hK
    clear hB hI hdv hkb hK
    go_wp2_with (refine wpList_load_mid rfl 79 _ rfl (w.heap.size + 1) 0 rfl dv _ HR.out Tryd.underlying79 rfl HS.out ?_)
    refine (bytes_calls _ _ HIW.out _).mono ?_
    rintro e w5 ⟨rfl, b5⟩
    have hl32 := leB_len 32 (leN bs % LO)
    have hz5 : Blk w5 w.heap.size 22 (u8b (List.replicate 32 0)) := ((HKB.out.1.block w.heap.size (by omega)).trans HZ3.out |> fun h => (Blk.later (g := w.heap.size) h b5))
    have HT5 := Lib.hid (hz5.there (n := (u8b (leB 32 (leN bs % LO))).toArray.size) (by simp [u8b_len, hl32]))
    have hz6 := hz5.setAll (vs := u8b (leB 32 (leN bs % LO))) (by simp [u8b_len, hl32])
    have HS5 := Lib.hid (show (Tryd.prog.info? 22).map (·.size) = some (u8b (leB 32 (leN bs % LO))).toArray.size by simpa using size32u _ hl32)
    have HO5 := Lib.hid (one8b (leB 32 (leN bs % LO)))
    have hDl : D < W.heap.size := (Array.getElem?_eq_some_iff.1 HKD.out).1
    have hDw : w.heap.size + 1 + 1 < D := by have := hl3; omega
    have hK5 : (w5.setCells w.heap.size 0 (u8b (leB 32 (leN bs % LO)))).heap[D]? = some (.deferred (some [])) := (blkOther (by omega) _ _ _).trans ((b5.block D hDl).trans HKD.out)
    have hb5 : Below w.heap.size w w5 := (HB3.out.trans (HKB.out.1.mono (by omega))).then_ b5
    have hb6 := blw_cells (Nat.le_refl _) (u8b (leB 32 (leN bs % LO))) 0 _ hb5
    have HF : Hid ((loadVar 22 ⟨w.heap.size, 0, none⟩).run Tryd.prog ((w5.setCells w.heap.size 0 (u8b (leB 32 (leN bs % LO)))).putObj D (.deferred none)) = .ok (.agg (u8b (leB 32 (leN bs % LO))).toArray) ((w5.setCells w.heap.size 0 (u8b (leB 32 (leN bs % LO)))).putObj D (.deferred none))) :=
      Lib.hid (Blk.load (show Blk _ w.heap.size 22 _ from (World.putObj_heap_other (by omega)).trans hz6) 22 Tryd.underlying22 rfl (size32u _ hl32))
    have HB6 : Hid (Below w.heap.size w ((w5.setCells w.heap.size 0 (u8b (leB 32 (leN bs % LO)))).putObj D (.deferred none))) := Lib.hid (hb6.trans (belowK_b (w := w) (Nat.le_refl _) _ D _ _ (by omega) hK5 rfl rfl))
    have HK5 := Lib.hid hK5
    unfold A32
    obtain ⟨rv, hrv⟩ : ∃ q, u8b (leB 32 (leN bs % LO)) = q := ⟨_, rfl⟩
    have HRV := Lib.hid hrv
    rw [hrv] at HT5 HS5 HO5 HF HB6 HK5 ⊢
    clear hz5 hz6 hK5 hb5 hb6 hrv b5 HR HIW HS
    go_wp2_with (refine wpList_store_mid rfl 22 _ _ rfl w.heap.size 0 rv.toArray rfl rfl HT5.out HS5.out HO5.out ?_)
    exact post_marks HK5.out (res_cell rfl _ _ _ _ rfl HF.out) ⟨by unfold A32; rw [HRV.out], HB6.out⟩
  case stop =>
    rintro D c pre W _ _ h _
    exact h.elim
end Go.Proofs.YtoligamlafgaoaaDoor.Sc
