/- Layer 6: a point's bytes, as the document makes them, walked. -/
import Derived.Test.YtkfdclnaaphdgaaDoorCvE
import Derived.Lib.ConvBytes
namespace Go.Proofs.YtkfdclnaaphdgaaDoor
open Go.ChangeShapes Go.WideShapes Go.ChangeAt Go.RowKit Go.IntWalk
set_option linter.unusedVariables false

/-- The block g begins with these bytes. -/
def BC (W : World) (g : Nat) (bs : List UInt8) : Prop := g < W.heap.size ∧ ∀ k, k < bs.length → W.cell? ⟨g, k, none⟩ = some (.int .u8 (bs.getD k 0).toNat)
theorem BC.rb {W : World} {g : Nat} {bs : List UInt8} (h : BC W g bs) : RB W (some ⟨g, 0, none⟩) bs := fun k hk => ⟨g, 0, rfl, h.1, by rw [Nat.zero_add]; exact h.2 k hk⟩
theorem BC.later {W W1 : World} {g : Nat} {bs : List UInt8} (h : BC W g bs) (b : Below W.heap.size W W1) : BC W1 g bs :=
  ⟨Nat.lt_of_lt_of_le h.1 b.size, fun k hk => (b.cell (p := ⟨g, k, none⟩) h.1).trans (h.2 k hk)⟩
theorem BC.set_ {W : World} {g k : Nat} {bs : List UInt8} (h : BC W g bs) (hk : k < bs.length) (y : UInt8) : BC (W.setCell ⟨g, k, none⟩ (.int .u8 y.toNat)) g (bs.set k y) := by
  refine ⟨by simp [World.setCell]; exact h.1, fun j hj => ?_⟩
  rw [List.length_set] at hj
  by_cases e : j = k
  · subst e
    have h2 := h.2 j hj
    unfold World.cell? at h2
    have hg : ∃ cs t f, W.heap[g]? = some (.cells cs t f) ∧ j < cs.size := by
      cases hh : W.heap[g]? with
      | none => simp [hh] at h2
      | some o =>
        cases o with
        | cells cs t f =>
          simp [hh] at h2
          exact ⟨cs, t, f, rfl, by
            rcases Nat.lt_or_ge j cs.size with h | h
            · exact h
            · simp [h] at h2⟩
        | _ => simp [hh] at h2
    obtain ⟨cs, t, f, hcs, hlt⟩ := hg
    simp [World.setCell, World.cell?, Array.getElem?_modify, hcs, List.getD, hj, hlt]
  · rw [World.cell?_setCell_other _ _ _ _ (by intro h; injection h with _ h2; exact e h2.symm), h.2 j hj]
    simp [List.getD, List.getElem?_set, Ne.symm e]
theorem bytes_of (W : World) (bs : List UInt8) : ∃ cap W', (convert 9 25 (.string ⟨bs.toArray⟩)).run Tryd.prog W = .ok (.slice (some ⟨W.heap.size, 0, none⟩) bs.length cap) W' ∧ Below W.heap.size W W' ∧ BC W' W.heap.size bs ∧ ∀ k, k < bs.length → W'.frozen? ⟨W.heap.size, k, none⟩ = false := by
  refine ⟨_, _, Lib.run_convert_string_bytes W _ _ 5 ⟨bs.toArray⟩ Tryd.underlying9 Tryd.underlying25 Tryd.underlying5, ?_, ?_, ?_⟩
  · refine ⟨?_, ?_, ?_, ?_, fun k hk => Lib.bytesWorld_at_old W _ _ k hk⟩
    all_goals simp [Lib.bytesWorld, World.freeze, World.alloc, World.drew, -World.alloc_eq, -World.drew_eq]
  · refine ⟨by rw [Lib.bytesWorld_size]; omega, fun k hk => ?_⟩
    have := Lib.bytesWorld_cell W 5 ⟨bs.toArray⟩ k hk
    rw [this]
  · intro k hk
    have h := Lib.bytesWorld_at_new W 5 ⟨bs.toArray⟩
    unfold World.frozen?
    rw [h]
    have hsz : k < (Lib.bytesCells W 5 ⟨bs.toArray⟩).size := by simp [Lib.bytesCells]; omega
    simp
    omega
theorem add_top (t : Nat) (h : t < 128) : IntKind.u8.wrap ((t : Int) + 128) = ((t + 128 : Nat) : Int) := by rw [IntKind.wrap_u8]; omega
set_option maxRecDepth 100000 in
set_option maxHeartbeats 4000000 in
theorem refBytesP {c : List Value} {p : Pt} (h1 : RL c p) (w : World) : Calls Tryd.prog 21 #[.agg c.toArray] w fun e w' => e = .returned (.string ⟨(encL p).toArray⟩) ∧ Below w.heap.size w w' := by
  obtain ⟨X1, Y1, Z1, T1, ⟨a1, b1, c1, d1, rfl, ha1, hb1, hc1, hd1⟩, r1⟩ := h1
  have HOV := r1.over
  obtain ⟨p1c, hp1c⟩ : ∃ c, a1 ++ b1 ++ c1 ++ d1 = c := ⟨_, rfl⟩
  rw [hp1c]
  go_enter Tryd.func21, Tryd.ntmps21
  go_upto_region 1 with fail
  refine wp_gen (fun W => Blk W w.heap.size 52 p1c ∧ Below w.heap.size w W) ?_ ?_
  · exact alloc1 w _ _
  rintro W0 ⟨Bp1, HB⟩
  obtain ⟨Rp10, Rp11, Rp12, Rp13⟩ := R4.rows ha1 hb1 hc1 hd1 (by rw [hp1c]; exact Bp1)
  have Lp1 := Bp1.lt
  go_wp2_with (first | (refine wpList_load_mid rfl 50 _ rfl w.heap.size 32 rfl c1 _ Rp12 Tryd.underlying50 rfl hc1.size ?_))
  refine (ninv_calls hc1 _).mono ?_
  rintro e WX1 ⟨_, rfl, ⟨v7, rfl, h7⟩, HX⟩
  replace Bp1 := Bp1.later HX
  replace HB := HB.then_ HX
  clear Rp10 Rp11 Rp12 Rp13
  obtain ⟨Rp10, Rp11, Rp12, Rp13⟩ := R4.rows ha1 hb1 hc1 hd1 (by rw [hp1c]; exact Bp1)
  replace Lp1 := Bp1.lt
  clear HX
  obtain ⟨T0, HL, N0⟩ := letS (W := WX1) (T := 50) (z := C16) (cs := v7) (by first | (rw [h7.len]; rfl) | rfl)
  go_upto_region 2 with (first | (refine wpList_store_mid rfl 50 _ _ rfl WX1.heap.size 0 v7.toArray rfl rfl T0 h7.sizeA h7.one ?_))
  obtain ⟨g3, eg⟩ : ∃ g, WX1.heap.size = g := ⟨_, rfl⟩
  rw [eg] at N0 ⊢
  have HL2 := HL
  clear HL2
  have hE : Hid (WX1.heap.size = g3) := Lib.hid eg
  refine wp_gen (fun W => Blk W w.heap.size 52 p1c ∧ Blk W g3 50 v7 ∧ Below w.heap.size w W) ⟨Bp1.later (hE.out ▸ HL), N0, HB.then_ (hE.out ▸ HL)⟩ ?_
  clear T0 HL N0 eg hE
  clear Bp1 Lp1 Rp10 Rp11 Rp12 Rp13 HB
  rintro W2 ⟨Bp1, Bn3, HB⟩
  obtain ⟨Rp10, Rp11, Rp12, Rp13⟩ := R4.rows ha1 hb1 hc1 hd1 (by rw [hp1c]; exact Bp1)
  have Lp1 := Bp1.lt
  have Ln3 := Bn3.lt
  go_wp2_with (first | (refine wpList_load_mid rfl 50 _ rfl w.heap.size 16 rfl b1 _ Rp11 Tryd.underlying50 rfl hb1.size ?_) | (refine wpList_load_mid rfl 50 _ rfl g3 0 rfl v7 _ Bn3.rng Tryd.underlying50 rfl h7.size ?_))
  refine (nmul_calls hb1 h7 _).mono ?_
  rintro e W3 ⟨_, rfl, ⟨v11, rfl, h11⟩, b3⟩
  rw [HOV.2] at h11
  go_wp2_with fail
  refine (nbytes_calls h11 _).mono ?_
  rintro e W4 ⟨rfl, b4⟩
  have b34 := b3.then_ b4
  replace Bp1 := Bp1.later b34
  replace Bn3 := Bn3.later b34
  replace HB := HB.then_ b34
  obtain ⟨cap, W5, hconv, b5, hbc, hfz⟩ := bytes_of W4 (leB 32 p.y.val)
  rw [leB_len] at hconv hfz
  have hg4 := Bp1.lt
  have hgw := HB.size
  obtain ⟨yb, hyb⟩ : ∃ q, leB 32 p.y.val = q := ⟨_, rfl⟩
  have HYB := Lib.hid hyb
  rw [hyb] at hconv hbc ⊢
  clear hyb b3 b4 b34 Rp10 Rp11 Rp12 Rp13
  go_upto_region 3 with fail
  refine wp_gen (fun W => Blk W w.heap.size 52 p1c ∧ Blk W g3 50 v7 ∧ BC W W4.heap.size yb ∧ (∀ k, k < 32 → W.frozen? ⟨W4.heap.size, k, none⟩ = false) ∧ W4.heap.size < W.heap.size ∧ Below w.heap.size w W) ⟨Bp1.later b5, Bn3.later b5, hbc, hfz, hbc.1, HB.then_ b5⟩ ?_
  obtain ⟨g4, eg⟩ : ∃ g, W4.heap.size = g := ⟨_, rfl⟩
  rw [eg] at hgw ⊢
  clear hconv b5 hbc hfz Bp1 Bn3 HB Lp1 Ln3 hg4
  rintro W6 ⟨Bp1, Bn3, hbc, hfz, hlt, HB⟩
  obtain ⟨Rp10, Rp11, Rp12, Rp13⟩ := R4.rows ha1 hb1 hc1 hd1 (by rw [hp1c]; exact Bp1)
  go_wp2_with (first | (refine wpList_load_mid rfl 50 _ rfl w.heap.size 0 rfl a1 _ Rp10 Tryd.underlying50 rfl ha1.size ?_) | (refine wpList_load_mid rfl 50 _ rfl g3 0 rfl v7 _ Bn3.rng Tryd.underlying50 rfl h7.size ?_))
  refine (nmul_calls ha1 h7 _).mono ?_
  rintro e W7 ⟨_, rfl, ⟨v16, rfl, h16⟩, b7⟩
  rw [HOV.1] at h16
  go_wp2_with fail
  refine (nodd_calls h16 _).mono ?_
  rintro e W8 ⟨rfl, b8⟩
  have b78 := b7.then_ b8
  have hbc8 := hbc.later b78
  have hf8 : W8.frozen? ⟨g4, 31, none⟩ = false := by
    have h := hfz 31 (by decide)
    unfold World.frozen? at h ⊢
    rwa [b78.block g4 hlt]
  have HB8 := HB.then_ b78
  clear Bp1 Bn3 b7 b8 b78 Rp10 Rp11 Rp12 Rp13 hbc hfz HB
  have ht := top_lt p.y
  by_cases hodd : p.x.val % 2 = 1
  · rw [decide_eq_true hodd]
    obtain ⟨t, htt⟩ : ∃ t, p.y.val / 256 ^ 31 = t := ⟨_, rfl⟩
    have hc0 := hbc8.2 31 (by rw [← HYB.out, leB_len]; decide)
    have hget : ((yb.getD 31 0).toNat : Int) = (t : Int) := by
      rw [← HYB.out, List.getD, leB_get 32 p.y.val 31 (by decide)]
      unfold byteF
      rw [htt] at ht ⊢
      simp
      omega
    rw [hget] at hc0
    rw [htt] at ht
    have hor := add_top t ht
    have hBs := hbc8.set_ (k := 31) (by rw [← HYB.out, leB_len]; decide) (UInt8.ofNat (t + 128))
    rw [← HYB.out, ← htt, ← enc_odd hodd, htt, show ((UInt8.ofNat (t + 128)).toNat : Int) = ((t + 128 : Nat) : Int) by simp; omega] at hBs
    have HBl := Lib.hid (HB8.setCell (p := ⟨g4, 31, none⟩) hgw (.int .u8 ((t + 128 : Nat) : Int)))
    obtain ⟨z, hz⟩ : ∃ z : Int, ((t + 128 : Nat) : Int) = z := ⟨_, rfl⟩
    rw [hz] at hor hBs HBl
    have hs := run_str_rb _ (some ⟨g4, 0, none⟩) 32 cap (encL p) hBs.rb (Lib.hid (enc_len p).symm)
    clear hBs hbc8 HB8 hz htt ht hget
    go_wp2_with fail
    go_ret
    exact ⟨rfl, HBl.out⟩
  · rw [decide_eq_false hodd]
    rw [← HYB.out, ← enc_even hodd] at hbc8
    have hs := run_str_rb _ (some ⟨g4, 0, none⟩) 32 cap (encL p) hbc8.rb (Lib.hid (enc_len p).symm)
    have HBl := Lib.hid HB8
    clear hbc8 HB8 ht hf8
    go_wp2_with fail
    go_ret
    exact ⟨rfl, HBl.out⟩
end Go.Proofs.YtkfdclnaaphdgaaDoor
