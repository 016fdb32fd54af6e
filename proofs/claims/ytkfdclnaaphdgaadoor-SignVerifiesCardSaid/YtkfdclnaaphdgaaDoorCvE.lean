/- Layer 6: a point's bytes, as the program makes them, walked. -/
import Derived.Test.YtkfdclnaaphdgaaDoorCvG
namespace Go.Proofs.YtkfdclnaaphdgaaDoor
open Go.ChangeShapes Go.WideShapes Go.ChangeAt Go.RowKit Go.IntWalk
set_option linter.unusedVariables false

/-- A point's bytes. -/
def encL (p : Pt) : List UInt8 := leB 32 (p.y.val + 2 ^ 255 * (p.x.val % 2))
theorem leB_snoc : ∀ k n, leB (k + 1) n = leB k n ++ [UInt8.ofNat (n / 256 ^ k % 256)]
  | 0, n => by simp [leB]
  | k + 1, n => by
    rw [leB, leB_snoc k (n / 256), Nat.div_div_eq_div_mul, ← Nat.pow_succ']; rfl
theorem leB_low : ∀ k n m, leB k (n + 256 ^ k * m) = leB k n
  | 0, n, m => rfl
  | k + 1, n, m => by
    rw [leB, leB, Nat.pow_succ', Nat.mul_assoc, Nat.add_mul_mod_self_left, Nat.add_mul_div_left _ _ (by decide), leB_low k]
theorem top_lt (y : F) : y.val / 256 ^ 31 < 128 := by
  have h := y.isLt
  have hp : P ≤ 128 * 256 ^ 31 := by decide +kernel
  exact (Nat.div_lt_iff_lt_mul (by decide)).2 (Nat.lt_of_lt_of_le h hp)
theorem enc_even {p : Pt} (h : ¬ p.x.val % 2 = 1) : encL p = leB 32 p.y.val := by
  unfold encL
  rw [show p.x.val % 2 = 0 by omega, Nat.mul_zero, Nat.add_zero]
theorem enc_odd {p : Pt} (h : p.x.val % 2 = 1) : encL p = (leB 32 p.y.val).set 31 (UInt8.ofNat (p.y.val / 256 ^ 31 + 128)) := by
  have ht := top_lt p.y
  unfold encL
  rw [h, Nat.mul_one, leB_snoc 31, leB_snoc 31 p.y.val, show (2 : Nat) ^ 255 = 256 ^ 31 * 128 by decide +kernel, leB_low, Nat.add_mul_div_left _ _ (by decide +kernel)]
  rw [List.set_append_right _ _ (by rw [leB_len]; exact Nat.le_refl _), leB_len, Nat.sub_self, List.set_cons_zero, Nat.mod_eq_of_lt (show p.y.val / 256 ^ 31 + 128 < 256 by omega)]
theorem enc_len (p : Pt) : (encL p).length = 32 := leB_len _ _
theorem top_byte (y : F) : (u8s (leB 32 y.val))[31]? = some (.int .u8 ((y.val / 256 ^ 31 : Nat) : Int)) := by
  have ht := top_lt y
  unfold u8s
  rw [List.getElem?_map, leB_get 32 y.val 31 (by decide)]
  unfold byteF
  simp
  omega
theorem or_top : ∀ x : Fin 128, bits .or .u8 (x.val : Int) 128 = ((x.val + 128 : Nat) : Int) := by decide +kernel
theorem u8s_set (bs : List UInt8) (k : Nat) (c : UInt8) : (u8s bs).set k (.int .u8 (c.toNat : Int)) = u8s (bs.set k c) := by simp [u8s, List.map_set]
theorem u8s_len (bs : List UInt8) : (u8s bs).length = bs.length := by simp [u8s]
theorem u8s_one (bs : List UInt8) : (u8s bs).toArray.all (·.oneCell') = true := by
  apply all_oneCell_toArray
  intro v hv
  obtain ⟨y, _, rfl⟩ := List.mem_map.1 hv
  rfl
theorem size32A (bs : List UInt8) (h : bs.length = 32) : (Tryd.prog.info? 22).map (·.size) = some (u8s bs).toArray.size := by rw [List.size_toArray]; exact size32' bs h
set_option maxRecDepth 100000 in
set_option maxHeartbeats 4000000 in
theorem bytesP {c : List Value} {p : Pt} (h1 : PL c p) (w : World) : Calls Tryd.prog 19 #[.agg c.toArray] w (BPost (encL p) w) := by
  obtain ⟨X1, Y1, Z1, T1, ⟨a1, b1, c1, d1, rfl, ha1, hb1, hc1, hd1⟩, r1⟩ := h1
  have HOV := r1.over
  obtain ⟨p1c, hp1c⟩ : ∃ c, a1 ++ b1 ++ c1 ++ d1 = c := ⟨_, rfl⟩
  rw [hp1c]
  go_enter Tryd.func19, Tryd.ntmps19
  go_upto_region 1 with fail
  refine wp_gen (fun W => Blk W w.heap.size 42 p1c ∧ Blk W (w.heap.size + 1) 22 C32 ∧ Below w.heap.size w W) ?_ ?_
  · exact alloc2 w _ _ _ _
  rintro W0 ⟨Bp1, Bp2, HB⟩
  obtain ⟨Rp10, Rp11, Rp12, Rp13⟩ := Q4.rows ha1 hb1 hc1 hd1 (by rw [hp1c]; exact Bp1)
  have Lp1 := Bp1.lt
  have Lp2 := Bp2.lt
  go_wp2_with (first | (refine wpList_load_mid rfl 40 _ rfl w.heap.size 10 rfl c1 _ Rp12 Tryd.underlying40 rfl hc1.size ?_))
  refine (finv_calls hc1 _).mono ?_
  rintro e WX1 ⟨_, rfl, ⟨v7, rfl, h7⟩, HX⟩
  replace Bp1 := Bp1.later HX
  replace Bp2 := Bp2.later HX
  replace HB := HB.then_ HX
  clear Rp10 Rp11 Rp12 Rp13
  obtain ⟨Rp10, Rp11, Rp12, Rp13⟩ := Q4.rows ha1 hb1 hc1 hd1 (by rw [hp1c]; exact Bp1)
  replace Lp1 := Bp1.lt
  replace Lp2 := Bp2.lt
  clear HX
  obtain ⟨T0, HL, N0⟩ := letS (W := WX1) (T := 40) (z := C5) (cs := v7) (by first | (rw [h7.len]; rfl) | rfl)
  go_upto_region 2 with (first | (refine wpList_store_mid rfl 40 _ _ rfl WX1.heap.size 0 v7.toArray rfl rfl T0 h7.sizeA h7.one ?_))
  obtain ⟨g3, eg⟩ : ∃ g, WX1.heap.size = g := ⟨_, rfl⟩
  rw [eg] at N0 ⊢
  have HL2 := HL
  clear HL2
  have hE : Hid (WX1.heap.size = g3) := Lib.hid eg
  refine wp_gen (fun W => Blk W w.heap.size 42 p1c ∧ Blk W (w.heap.size + 1) 22 C32 ∧ Blk W g3 40 v7 ∧ Below w.heap.size w W) ⟨Bp1.later (hE.out ▸ HL), Bp2.later (hE.out ▸ HL), N0, HB.then_ (hE.out ▸ HL)⟩ ?_
  clear T0 HL N0 eg hE
  clear Bp1 Bp2 Lp1 Lp2 Rp10 Rp11 Rp12 Rp13 HB
  rintro W2 ⟨Bp1, Bp2, Bn3, HB⟩
  obtain ⟨Rp10, Rp11, Rp12, Rp13⟩ := Q4.rows ha1 hb1 hc1 hd1 (by rw [hp1c]; exact Bp1)
  have Lp1 := Bp1.lt
  have Lp2 := Bp2.lt
  have Ln3 := Bn3.lt
  go_wp2_with (first | (refine wpList_load_mid rfl 40 _ rfl w.heap.size 5 rfl b1 _ Rp11 Tryd.underlying40 rfl hb1.size ?_) | (refine wpList_load_mid rfl 40 _ rfl g3 0 rfl v7 _ Bn3.rng Tryd.underlying40 rfl h7.size ?_))
  refine (fmul_calls hb1 h7 _).mono ?_
  rintro e W3 ⟨_, rfl, ⟨v11, rfl, h11⟩, b3⟩
  rw [HOV.2] at h11
  go_wp2_with fail
  refine (fbytes_calls h11 _).mono ?_
  rintro e W4 ⟨rfl, b4⟩
  have b34 := b3.then_ b4
  replace Bp1 := Bp1.later b34
  replace Bp2 := Bp2.later b34
  replace Bn3 := Bn3.later b34
  replace HB := HB.then_ b34
  obtain ⟨T0, HL, N0⟩ := letS (W := W4) (T := 22) (z := C32) (cs := u8s (leB 32 p.y.val)) (by rw [u8s_len, leB_len]; rfl)
  have hs32 := size32A (leB 32 p.y.val) (leB_len _ _)
  have ho32 := u8s_one (leB 32 p.y.val)
  unfold A32
  have hU := top_byte p.y
  obtain ⟨us, hus⟩ : ∃ q, u8s (leB 32 p.y.val) = q := ⟨_, rfl⟩
  have HUS := Lib.hid hus
  rw [hus] at T0 HL N0 hs32 ho32 hU ⊢
  clear hus b3 b4 b34 Rp10 Rp11 Rp12 Rp13
  go_upto_region 3 with (refine wpList_store_mid rfl 22 _ _ rfl W4.heap.size 0 us.toArray rfl rfl T0 hs32 ho32 ?_)
  obtain ⟨g4, eg⟩ : ∃ g, W4.heap.size = g := ⟨_, rfl⟩
  have hg4 : w.heap.size + 1 < g4 := by rw [← eg]; exact Bp2.lt
  rw [eg] at N0 ⊢
  refine wp_gen (fun W => Blk W w.heap.size 42 p1c ∧ Blk W (w.heap.size + 1) 22 C32 ∧ Blk W g3 40 v7 ∧ Blk W g4 22 us ∧ Below w.heap.size w W) ⟨Bp1.later (eg ▸ HL), Bp2.later (eg ▸ HL), Bn3.later (eg ▸ HL), N0, HB.then_ (eg ▸ HL)⟩ ?_
  clear T0 HL N0 eg Bp1 Bp2 Bn3 HB Lp1 Lp2 Ln3
  rintro W5 ⟨Bp1, Bp2, Bn3, Bg4, HB⟩
  obtain ⟨Rp10, Rp11, Rp12, Rp13⟩ := Q4.rows ha1 hb1 hc1 hd1 (by rw [hp1c]; exact Bp1)
  go_wp2_with (first | (refine wpList_load_mid rfl 40 _ rfl w.heap.size 0 rfl a1 _ Rp10 Tryd.underlying40 rfl ha1.size ?_) | (refine wpList_load_mid rfl 40 _ rfl g3 0 rfl v7 _ Bn3.rng Tryd.underlying40 rfl h7.size ?_))
  refine (fmul_calls ha1 h7 _).mono ?_
  rintro e W6 ⟨_, rfl, ⟨v16, rfl, h16⟩, b6⟩
  rw [HOV.1] at h16
  go_wp2_with fail
  refine (fodd_calls h16 _).mono ?_
  rintro e W7 ⟨rfl, b7⟩
  have b67 := b6.then_ b7
  replace Bp2 := Bp2.later b67
  replace Bg4 := Bg4.later b67
  replace HB := HB.then_ b67
  clear Bp1 Bn3 b6 b7 b67 Rp10 Rp11 Rp12 Rp13 hs32 ho32
  have ht := top_lt p.y
  by_cases hodd : p.x.val % 2 = 1
  · rw [decide_eq_true hodd]
    obtain ⟨t, htt⟩ : ∃ t, p.y.val / 256 ^ 31 = t := ⟨_, rfl⟩
    rw [htt] at hU ht
    have hc := Bg4.cell hU
    have hf := Bg4.frozen 31
    have hor := or_top ⟨t, ht⟩
    simp only at hor
    have hBs := Bg4.set_ 31 (.int .u8 ((UInt8.ofNat (t + 128)).toNat : Int))
    rw [← HUS.out, u8s_set, ← htt, ← enc_odd hodd, htt, show ((UInt8.ofNat (t + 128)).toNat : Int) = ((t + 128 : Nat) : Int) by simp; omega] at hBs
    have hBr : Blk (W7.setCell ⟨g4, 31, none⟩ (.int .u8 ((t + 128 : Nat) : Int))) (w.heap.size + 1) 22 C32 := Bp2.other (by omega) _
    have hBl : Below w.heap.size w (W7.setCell ⟨g4, 31, none⟩ (.int .u8 ((t + 128 : Nat) : Int))) := HB.setCell (show w.heap.size ≤ g4 by omega) _
    obtain ⟨z, hz⟩ : ∃ z : Int, ((t + 128 : Nat) : Int) = z := ⟨_, rfl⟩
    rw [hz] at hor hBs hBr hBl
    obtain ⟨T0, HL, N0⟩ := ansB (cs := u8s (encL p)) hBr hBl (by omega) (Below.refl _ _) (by rw [u8s_len, enc_len]; rfl)
    have hs32 := size32A (encL p) (enc_len p)
    have ho32 := u8s_one (encL p)
    have hs33 := size32' (encL p) (enc_len p)
    have HPOST : Hid (A32 (encL p) = .agg (u8s (encL p)).toArray) := Lib.hid rfl
    obtain ⟨es, hes⟩ : ∃ q, u8s (encL p) = q := ⟨_, rfl⟩
    rw [hes] at T0 HL N0 hs32 ho32 hs33 hBs HPOST
    have T0 := Lib.hid T0
    have HL := Lib.hid HL
    have N0 := Lib.hid N0
    have hR := Lib.hid hBs.rng
    clear hBs hBr hBl hz htt ht hU hes
    go_wp2_with (first
      | (refine wpList_load_mid rfl 22 _ rfl g4 0 rfl es _ hR.out Tryd.underlying22 rfl hs33 ?_)
      | (refine wpList_store_mid rfl 22 _ _ rfl (w.heap.size + 1) 0 es.toArray rfl rfl T0.out hs32 ho32 ?_))
    exact bodyPost_ret (v := .agg es.toArray) (res_cell rfl _ _ _ _ rfl (N0.out.load 22 Tryd.underlying22 rfl hs33)) rfl ⟨by rw [HPOST.out], HL.out⟩
  · rw [decide_eq_false hodd]
    rw [← HUS.out, ← enc_even hodd] at Bg4
    obtain ⟨T0, HL, N0⟩ := ansB (cs := u8s (encL p)) Bp2 HB (by omega) (Below.refl _ _) (by rw [u8s_len, enc_len]; rfl)
    have hs32 := size32A (encL p) (enc_len p)
    have ho32 := u8s_one (encL p)
    have hs33 := size32' (encL p) (enc_len p)
    have HPOST : Hid (A32 (encL p) = .agg (u8s (encL p)).toArray) := Lib.hid rfl
    obtain ⟨es, hes⟩ : ∃ q, u8s (encL p) = q := ⟨_, rfl⟩
    rw [hes] at T0 HL N0 hs32 ho32 hs33 Bg4 HPOST
    have T0 := Lib.hid T0
    have HL := Lib.hid HL
    have N0 := Lib.hid N0
    have hR := Lib.hid Bg4.rng
    clear Bg4 Bp2 HB ht hU hes
    go_wp2_with (first
      | (refine wpList_load_mid rfl 22 _ rfl g4 0 rfl es _ hR.out Tryd.underlying22 rfl hs33 ?_)
      | (refine wpList_store_mid rfl 22 _ _ rfl (w.heap.size + 1) 0 es.toArray rfl rfl T0.out hs32 ho32 ?_))
    exact bodyPost_ret (v := .agg es.toArray) (res_cell rfl _ _ _ _ rfl (N0.out.load 22 Tryd.underlying22 rfl hs33)) rfl ⟨by rw [HPOST.out], HL.out⟩
end Go.Proofs.YtkfdclnaaphdgaaDoor
