/- Layer 5: the document's Neg, walked. -/
import Derived.Test.YtmegjpjfkpgmbaaDoorScR
namespace Go.Proofs.YtmegjpjfkpgmbaaDoor
open Go.ChangeShapes Go.WideShapes Go.ChangeAt Go.RowKit Go.IntWalk
set_option linter.unusedVariables false

theorem neg_mod (a : Nat) : (a * (LO - 1) + 0) % LO = (LO - a % LO) % LO := by
  have hL := LO_pos
  have hy := Nat.mod_lt a hL
  have hx := Nat.mod_lt (a * (LO - 1)) hL
  have e : (a * (LO - 1) % LO + a % LO) % LO = 0 := by
    rw [← Nat.add_mod]
    have : a * (LO - 1) + a = a * LO := by
      obtain ⟨m, hm⟩ : ∃ m, LO = m + 1 := ⟨LO - 1, by omega⟩
      rw [hm, Nat.add_sub_cancel, Nat.mul_succ]
    rw [this, Nat.mul_mod_left]
  rw [Nat.add_zero]
  generalize a * (LO - 1) % LO = x at *
  generalize a % LO = y at *
  rcases Nat.lt_or_ge (x + y) LO with h | h
  · rw [Nat.mod_eq_of_lt h] at e
    obtain rfl : x = 0 := by omega
    obtain rfl : y = 0 := by omega
    rw [Nat.sub_zero, Nat.mod_self]
  · rw [Nat.mod_eq_sub_mod h, Nat.mod_eq_of_lt (by omega)] at e
    rw [Nat.mod_eq_of_lt (show LO - y < LO by omega)]; omega
def lB : List UInt8 := (lD.take 32).map fun d => UInt8.ofNat d.toNat
theorem lB_most : leN (lB.set 0 236) = LO - 1 := by decide +kernel
theorem lB_full : (lD.take 32).map (fun d => UInt8.ofNat d.toNat) = lB := rfl
set_option maxRecDepth 100000 in
set_option maxHeartbeats 8000000 in
theorem refNeg_calls (l : List UInt8) (hl : l.length = 32) (w : World) :
    Calls Tryd.prog 18 #[.string ⟨l.toArray⟩] w fun e w' => e = .returned (.string ⟨(leB 32 ((LO - leN l % LO) % LO)).toArray⟩) ∧ Below w.heap.size w w' := by
  have HL := Lib.hid hl
  go_enter Tryd.func18, Tryd.ntmps18
  go_wp2_with fail
  refine (refL_calls _).mono ?_
  rintro e w1 ⟨rfl, b1⟩
  obtain ⟨ZV, hZV⟩ : ∃ z : Array Value, #[.int .i64 0, .int .i64 0, .int .i64 0, .int .i64 0, .int .i64 0, .int .i64 0, .int .i64 0, .int .i64 0, .int .i64 0, .int .i64 0, .int .i64 0, .int .i64 0, .int .i64 0, .int .i64 0, .int .i64 0, .int .i64 0, .int .i64 0, .int .i64 0, .int .i64 0, .int .i64 0, .int .i64 0, .int .i64 0, .int .i64 0, .int .i64 0, .int .i64 0, .int .i64 0, .int .i64 0, .int .i64 0, .int .i64 0, .int .i64 0, .int .i64 0, .int .i64 0, .int .i64 0] = z := ⟨_, rfl⟩
  have hz1 := new33 w1
  have hl1 := hz1.setAll (vs := is3 lD) rfl
  have hb2 := blw_cells b1.size (is3 lD) 0 _ (b1.alloc b1.size (.cells #[.int .i64 0, .int .i64 0, .int .i64 0, .int .i64 0, .int .i64 0, .int .i64 0, .int .i64 0, .int .i64 0, .int .i64 0, .int .i64 0, .int .i64 0, .int .i64 0, .int .i64 0, .int .i64 0, .int .i64 0, .int .i64 0, .int .i64 0, .int .i64 0, .int .i64 0, .int .i64 0, .int .i64 0, .int .i64 0, .int .i64 0, .int .i64 0, .int .i64 0, .int .i64 0, .int .i64 0, .int .i64 0, .int .i64 0, .int .i64 0, .int .i64 0, .int .i64 0, .int .i64 0] 47))
  have HT1 := Lib.hid (hz1.there (n := (is3 lD).toArray.size) rfl)
  have HS1 := Lib.hid (size33a lD rfl)
  have HO1 := Lib.hid (one3 lD)
  rw [hZV] at hl1 hb2 HT1
  have HL1 := Lib.hid (And.intro hl1 hb2)
  have HZV := Lib.hid hZV
  clear hz1 hl1 hb2 b1 hZV hl
  go_upto_region 2 with (refine wpList_store_mid rfl 47 _ _ rfl w1.heap.size 0 (is3 lD).toArray rfl rfl (by have h := HT1.out; rw [← HZV.out] at h; exact h) HS1.out HO1.out ?_)
  obtain ⟨g, hg⟩ : ∃ g, w1.heap.size = g := ⟨_, rfl⟩
  rw [hg] at HL1 ⊢
  refine wp_gen (fun W => Blk W g 47 (is3 lD) ∧ Below w.heap.size w W) (by have h := HL1.out; rw [← HZV.out] at h; exact h) ?_
  rintro W2 h2
  obtain ⟨zv, hzv⟩ : ∃ z, Value.agg (is3 lD).toArray = z := ⟨_, rfl⟩
  go_frame
  rw [hzv]
  have H2 := Lib.hid h2
  clear HL1 HT1 HS1 HO1 HZV hg hzv h2
  go_wp2_with fail
  go_loopw [4, 5] (fun v i wi => ∃ k : Nat, k ≤ 32 ∧ i = .int .i64 (k : Int) ∧ OwnBs w.heap.size wi v ((lD.take k).map fun d => UInt8.ofNat d.toNat) ∧ Blk wi g 47 (is3 lD) ∧ Below w.heap.size w wi) (fun _ i _ => 32 - (intOf i).toNat)
  case atStart => exact ⟨0, by omega, rfl, OwnBs.nil _ _, H2.out⟩
  case round =>
    clear H2
    obtain ⟨k, hk, rfl, hown, hbk, hbl⟩ := hrel
    by_cases hp : k < 32
    · obtain ⟨d, hd⟩ : ∃ d, lD[k]? = some d := ⟨_, List.getElem?_eq_getElem (show k < lD.length from Nat.lt_trans hp (by decide))⟩
      have hdr := lD_rng d (List.mem_of_getElem? hd)
      have c1 := hbk.cell (is3_at hd)
      have hb1 : decide ((k : Int) < 32) = true := by simp; omega
      have i2 : (0 : Int) ≤ (k : Int) ∧ (k : Int) < 33 := by omega
      have hcv : IntKind.u8.wrap d = ((UInt8.ofNat d.toNat).toNat : Int) := by rw [IntKind.wrap_u8]; simp; omega
      have htk : (lD.take (k + 1)).map (fun d => UInt8.ofNat d.toNat) = (lD.take k).map (fun d => UInt8.ofNat d.toNat) ++ [UInt8.ofNat d.toNat] := by
        rw [List.take_add_one, hd]; simp
      have hlen : ((lD.take k).map fun d => UInt8.ofNat d.toNat).length ≤ 32 := by simp; omega
      have HT := Lib.hid htk
      have hsz := hbl.size
      obtain ⟨bs, hbs2⟩ : ∃ b, (lD.take k).map (fun d => UInt8.ofNat d.toNat) = b := ⟨_, rfl⟩
      rw [hbs2] at hown hlen HT
      obtain ⟨y, hy⟩ : ∃ y, UInt8.ofNat d.toNat = y := ⟨_, rfl⟩
      rw [hy] at hcv HT
      clear htk hbs2 hy hd
      go_wp2_with (at_builtin; refine wpList_append_u8 rfl (.tmp 11) (.tmp 16) rfl w.heap.size _ _ rfl hown y rfl rfl (by omega) hsz ?_; intro v' w2 hown' hgrow')
      have hne1 := hown.ne hbk (by intro c f h; cases h)
      exact ⟨⟨k + 1, by omega, rfl, by rw [HT.out]; exact hown', (hgrow'.block g hbk.lt hne1).trans hbk, hbl.grown hgrow' hsz (fun k hk => (hown.lt k hk).1)⟩, by simp [intOf]; omega⟩
    · obtain rfl : k = 32 := by omega
      rw [lB_full] at hown
      obtain ⟨A, n, c, rfl, hrb, hn⟩ := hown.form
      obtain ⟨g2, rfl, hg2, hcell, hfr, hset⟩ := hown.at_ (k := 0) (by decide)
      have hs2 := hset 236
      have hcell2 : wr.cell? ⟨g2, 0, none⟩ = some (.int .u8 237) := hcell
      have hb2 := hbl.setCell (p := ⟨g2, 0, none⟩) hg2 (.int .u8 236)
      have hn32 : n = 32 := hn.out
      subst hn32
      have hrun := hs2.form
      obtain ⟨A3, n3, c3, he3, hrb3, hn3⟩ := hrun
      cases he3
      have hs := run_str_rb _ _ 32 c _ hrb3 hn3
      have h236 : ((236 : UInt8).toNat : Int) = 236 := rfl
      have hlb : ((lB.set 0 236).length = 32) := by decide
      have HM := Lib.hid (fun W => refMul_calls l (lB.set 0 236) [] HL.out hlb (by decide) W)
      have HB := Lib.hid hb2
      rw [h236] at hs
      have hlm := lB_most
      generalize lB.set 0 236 = mo at *
      have HLM := Lib.hid hlm
      clear hlm
      clear hown hbk hbl hrb hn hcell hset hs2 hb2 hrb3 hn3
      go_wp2_with fail
      refine (HM.out _).mono ?_
      rintro e w3 ⟨rfl, b3⟩
      rw [HLM.out, show leN [] = 0 from rfl, neg_mod]
      have HB3 := Lib.hid (HB.out.then_ b3)
      clear b3
      go_wp2_with fail
      go_ret
      exact ⟨rfl, HB3.out⟩
end Go.Proofs.YtmegjpjfkpgmbaaDoor
