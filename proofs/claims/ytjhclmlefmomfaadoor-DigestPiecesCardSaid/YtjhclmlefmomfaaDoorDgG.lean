/- Layer 2: the digest of all that was given, walked. -/
import Derived.Test.YtjhclmlefmomfaaDoorDgF
namespace Go.Proofs.YtjhclmlefmomfaaDoor
open Go.ChangeShapes Go.WideShapes Go.ChangeAt Go.RowKit Go.IntWalk
set_option linter.unusedVariables false

theorem sizeSz : (Tryd.prog.info? 24).map (·.size) = some 32 := by kernel_rfl
theorem sizeHash : (Tryd.prog.info? 46).map (·.size) = some 74 := by kernel_rfl
theorem HC_one (s : S8) (wt : List UInt8) (n tot : Nat) : (HC s wt n tot).toArray.all (·.oneCell') = true := by
  apply all_oneCell_toArray
  intro v hv
  simp only [HC, us, u8b, List.mem_append, List.mem_map, List.mem_cons, List.not_mem_nil, or_false] at hv
  rcases hv with ⟨y, _, rfl⟩ | ⟨y, _, rfl⟩ | rfl | rfl <;> rfl
theorem zeroHash : (Tryd.prog.info? 46).map (·.zero) = some (some (.agg (HC ⟨0, 0, 0, 0, 0, 0, 0, 0⟩ (List.replicate 64 0) 0 0).toArray)) := by kernel_rfl
def padL : List UInt8 := 128 :: List.replicate 63 0
theorem padL_len : padL.length = 64 := by simp [padL]
theorem padL_take (k : Nat) (h1 : 1 ≤ k) (h2 : k ≤ 64) : padL.take k = 128 :: List.replicate (k - 1) 0 := by
  obtain ⟨j, rfl⟩ : ∃ j, k = j + 1 := ⟨k - 1, by omega⟩
  unfold padL
  rw [List.take_succ_cons, List.take_replicate, show min j 63 = j by omega, Nat.add_sub_cancel]
theorem Blk.rbU {w : World} {g : Nat} {T : TypeId} {bs : List UInt8} (h : Blk w g T (u8b bs)) : RB w (some ⟨g, 0, none⟩) bs := by
  intro k hk
  refine ⟨g, 0, rfl, h.lt, ?_⟩
  rw [Nat.zero_add]
  refine h.cell ?_
  rw [u8b_at (List.getElem?_eq_getElem hk)]
  simp [List.getD, List.getElem?_eq_getElem hk]
def SmW (bs : List UInt8) (g : Nat) (w W : World) : Prop := Blk W w.heap.size 24 (u8b (List.replicate 32 0)) ∧ Blk W (w.heap.size + 1) 24 (u8b (List.replicate 32 0)) ∧ Below w.heap.size w W
theorem SmW.later {bs : List UInt8} {g : Nat} {w W W1 : World} (h : SmW bs g w W) (b : Below W.heap.size W W1) : SmW bs g w W1 := ⟨h.1.later b, h.2.1.later b, h.2.2.then_ b⟩
theorem SmW.gb {bs : List UInt8} {g x : Nat} {w W W1 : World} (h : SmW bs g w W) (b : W.grownBy W1 (some x)) (hx : w.heap.size + 1 < x) : SmW bs g w W1 :=
  ⟨h.1.kept b (by omega), h.2.1.kept b (by omega), h.2.2.gb b (by omega) h.2.2.size⟩
/-- The first k bytes are there. -/
def outP (D : List UInt8) (k : Nat) : List UInt8 := D.take k ++ List.replicate (32 - k) 0
theorem outP_zero (D : List UInt8) : outP D 0 = List.replicate 32 0 := by simp [outP]
theorem outP_len (D : List UInt8) (k : Nat) (h : D.length = 32) (hk : k ≤ 32) : (outP D k).length = 32 := by simp [outP]; omega
theorem outP_step (D : List UInt8) (k : Nat) (c : UInt8) (h : D[k]? = some c) (hl : D.length = 32) (hk : k < 32) : (outP D k).set k c = outP D (k + 1) := by
  unfold outP
  have hm : (D.take k).length = k := by rw [List.length_take]; omega
  rw [List.set_append, hm, if_neg (by omega), Nat.sub_self, show 32 - k = (32 - (k + 1)) + 1 by omega, List.replicate_succ, List.set_cons_zero, List.take_add_one, h]
  simp
theorem outP_full (D : List UInt8) (h : D.length = 32) : outP D 32 = D := by simp [outP, ← h]
theorem flat_at {f : Int → List UInt8} {n : Nat} (hf : ∀ x, (f x).length = n) : ∀ (l : List Int) (k j : Nat), k < l.length → j < n → (l.flatMap f)[n * k + j]? = (f (l.getD k 0))[j]?
  | [], k, j, h, _ => by simp at h
  | x :: l, 0, j, _, hj => by
    rw [List.flatMap_cons, Nat.mul_zero, Nat.zero_add, List.getElem?_append_left (by rw [hf]; exact hj)]; rfl
  | x :: l, k + 1, j, h, hj => by
    rw [List.flatMap_cons, List.getElem?_append_right (by rw [hf, Nat.mul_succ]; omega), hf, show n * (k + 1) + j - n = n * k + j by rw [Nat.mul_succ]; omega, flat_at hf l k j (by simpa using h) hj]; rfl
theorem digest_at (bs : List UInt8) (st : S8) (k j : Nat) (x : Int) (hd : digest bs = st.list.flatMap bytesW) (hx : st.list.getD k 0 = x) (hk : k < 8) (hj : j < 4) :
    (digest bs)[4 * k + j]? = some (UInt8.ofNat ((x / 2 ^ (24 - 8 * j)).toNat % 256)) := by
  rw [hd, flat_at (n := 4) (fun x => by simp [bytesW]) st.list k j hk hj, hx]
  simp [bytesW, hj]
theorem list_nonneg (s : S8) (h : s.InU) (k : Nat) : 0 ≤ s.list.getD k 0 := by
  unfold S8.InU InU at h
  have hk : k = 0 ∨ k = 1 ∨ k = 2 ∨ k = 3 ∨ k = 4 ∨ k = 5 ∨ k = 6 ∨ k = 7 ∨ 8 ≤ k := by omega
  rcases hk with rfl | rfl | rfl | rfl | rfl | rfl | rfl | rfl | hk
  · exact h.1.1
  · exact h.2.1.1
  · exact h.2.2.1.1
  · exact h.2.2.2.1.1
  · exact h.2.2.2.2.1.1
  · exact h.2.2.2.2.2.1.1
  · exact h.2.2.2.2.2.2.1.1
  · exact h.2.2.2.2.2.2.2.1
  · rw [List.getD_eq_getElem?_getD, List.getElem?_eq_none (show s.list.length ≤ k from hk)]; exact Int.le_refl 0
theorem byte_val (x : Int) (n : Nat) (h : 0 ≤ x) : x / 2 ^ n % 256 = ((UInt8.ofNat ((x / 2 ^ n).toNat % 256)).toNat : Int) := by
  obtain ⟨m, rfl⟩ : ∃ m : Nat, x = (m : Int) := ⟨x.toNat, by omega⟩
  have e : (m : Int) / 2 ^ n = ((m / 2 ^ n : Nat) : Int) := by rw [Int.natCast_ediv, Int.natCast_pow]; rfl
  rw [e, Int.toNat_natCast, ← u8v]; omega
def OuS (bs : List UInt8) (w : World) (k : Nat) (wr : World) : Prop := Blk wr (w.heap.size + 1) 24 (u8b (outP (digest bs) k)) ∧ Blk wr w.heap.size 24 (u8b (List.replicate 32 0)) ∧ Below w.heap.size w wr
set_option maxRecDepth 100000 in
set_option maxHeartbeats 4000000 in
theorem sum_calls (g : Nat) (bs : List UInt8) (hb : bs.length < 2 ^ 30) (w : World) (hT : Tab w) (hg0 : 0 < g) (hh : HSt w g bs bs.length) :
    Calls Tryd.prog 12 #[.pointer (some ⟨g, 0, none⟩)] w fun e w' => e = .returned (.agg (u8b (digest bs)).toArray) ∧ Below w.heap.size w w' := by
  obtain ⟨wt, hwt, htk, hB⟩ := hh
  have hgl := hB.lt
  have H0 := Lib.hid (And.intro htk (And.intro hB hT))
  clear htk hB hT
  go_enter Tryd.func12, Tryd.ntmps12
  go_upto_region 4 with (fail)
  refine wp_gen (fun W1 => SmW bs g w W1) (alloc2 w (u8b (List.replicate 32 0)) (u8b (List.replicate 32 0)) 24 24) ?_
  intro W1 hs1
  obtain ⟨fs, hfs⟩ : ∃ fs, HC (stN bs (bs.length / 64)) wt (bs.length % 64) bs.length = fs := ⟨_, rfl⟩
  have hfl : fs.length = 74 := by rw [← hfs]; exact HC_len _ _ _ _ hwt
  have hB1 := H0.out.2.1.below hs1.2.2 hgl
  rw [hfs] at hB1
  have HR1 := Lib.hid hB1.rng
  have HZ1 : Hid ((Tryd.prog.info? 46).map (·.size) = some fs.length) := Lib.hid (by rw [hfl]; exact sizeHash)
  have HZ2 : Hid ((Tryd.prog.info? 46).map (·.size) = some fs.toArray.size) := Lib.hid (by rw [List.size_toArray, hfl]; exact sizeHash)
  have HO1 : Hid (fs.toArray.all (·.oneCell') = true) := Lib.hid (by rw [← hfs]; exact HC_one _ _ _ _)
  obtain ⟨E, hE⟩ : ∃ E, W1.heap.size = E := ⟨_, rfl⟩
  obtain ⟨zs, hzs⟩ : ∃ z, HC ⟨0, 0, 0, 0, 0, 0, 0, 0⟩ (List.replicate 64 0) 0 0 = z := ⟨_, rfl⟩
  have hzl : zs.length = 74 := by rw [← hzs]; rfl
  have hzv : ∀ W, (zeroValue 46).run Tryd.prog W = .ok (.agg zs.toArray) W := fun W => run_zero (by rw [← hzs]; exact zeroHash) W
  have HT1 : Hid ((W1.alloc (.cells zs.toArray 46)).there W1.heap.size 0 fs.toArray.size) := Lib.hid ((Blk.new W1 zs 46).there (by rw [List.size_toArray, hfl, hzl]))
  have HZL := Lib.hid hzl
  have HS1 := Lib.hid (And.intro hs1 hB1)
  have HFS := Lib.hid (And.intro hfs hfl)
  have HEQ := Lib.hid hE
  clear hs1 hB1 hfs hfl hE hzs hzl
  go_upto_region 5 with (first
    | (refine wpList_load_mid rfl 46 _ rfl g 0 rfl fs _ HR1.out Tryd.underlying46 rfl HZ1.out ?_)
    | (refine wpList_store_mid rfl 46 _ _ rfl W1.heap.size 0 fs.toArray rfl rfl HT1.out HZ2.out HO1.out ?_))
  rw [HEQ.out]
  refine wp_gen (fun W2 => (SmW bs g w W2 ∧ Blk W2 E 46 fs) ∧ (w.heap.size + 1 < E ∧ (∀ B, B < E → W2.heap[B]? = W1.heap[B]?) ∧ E < W2.heap.size)) ?_ ?_
  · obtain ⟨h1, h2⟩ := HS1.out
    have hE := HEQ.out
    have hlt : w.heap.size + 1 < E := by rw [← hE]; exact h1.2.1.lt
    have b1 : Below W1.heap.size W1 (W1.alloc (.cells zs.toArray 46)) := (Below.refl _ _).alloc (Nat.le_refl _) _
    have b2 := blw_cells (Nat.le_refl _) fs 0 _ b1
    have hb := (Blk.new W1 zs 46).setAll (vs := fs) (by rw [HFS.out.2, HZL.out])
    rw [hE] at hb b2
    refine ⟨⟨h1.later (by rw [hE]; exact b2), hb⟩, hlt, fun B hB => b2.block B hB, hb.lt⟩
  rintro W2 ⟨⟨hs2, hb2⟩, hlt, hold, hE2⟩
  have hh2 : HSt W2 E bs bs.length := ⟨wt, hwt, H0.out.1, by rw [HFS.out.1]; exact hb2⟩
  have hg2 : Blk W2 g 46 (HC (stN bs (bs.length / 64)) wt (bs.length % 64) bs.length) := by
    have h := H0.out.2.1.below HS1.out.1.2.2 hgl
    exact (hold g (by omega)).trans h
  have H2 := Lib.hid (And.intro hs2 (And.intro hh2 hg2))
  have HOLD := Lib.hid hold
  clear hs2 hb2 hold hh2 hg2 hzv HT1 HO1 HZ1 HZ2 HR1 HS1 HFS HZL HEQ
  obtain ⟨F, hF⟩ : ∃ F, W2.heap.size = F := ⟨_, rfl⟩
  have HT2 : Hid ((W2.alloc (.cells #[.int .u8 0, .int .u8 0, .int .u8 0, .int .u8 0, .int .u8 0, .int .u8 0, .int .u8 0, .int .u8 0, .int .u8 0, .int .u8 0, .int .u8 0, .int .u8 0, .int .u8 0, .int .u8 0, .int .u8 0, .int .u8 0, .int .u8 0, .int .u8 0, .int .u8 0, .int .u8 0, .int .u8 0, .int .u8 0, .int .u8 0, .int .u8 0, .int .u8 0, .int .u8 0, .int .u8 0, .int .u8 0, .int .u8 0, .int .u8 0, .int .u8 0, .int .u8 0, .int .u8 0, .int .u8 0, .int .u8 0, .int .u8 0, .int .u8 0, .int .u8 0, .int .u8 0, .int .u8 0, .int .u8 0, .int .u8 0, .int .u8 0, .int .u8 0, .int .u8 0, .int .u8 0, .int .u8 0, .int .u8 0, .int .u8 0, .int .u8 0, .int .u8 0, .int .u8 0, .int .u8 0, .int .u8 0, .int .u8 0, .int .u8 0, .int .u8 0, .int .u8 0, .int .u8 0, .int .u8 0, .int .u8 0, .int .u8 0, .int .u8 0, .int .u8 0] 43)).there W2.heap.size 0 (u8b padL).toArray.size) := Lib.hid ((Blk.new W2 (u8b (List.replicate 64 0)) 43).there rfl)
  have HZ3 : Hid ((Tryd.prog.info? 43).map (·.size) = some (u8b padL).toArray.size) := Lib.hid sizeBlk
  have HO3 : Hid ((u8b padL).toArray.all (·.oneCell') = true) := Lib.hid (one8b _)
  have HF := Lib.hid hF
  clear hF
  go_upto_region 6 with (refine wpList_store_mid rfl 43 _ _ rfl W2.heap.size 0 (u8b padL).toArray rfl rfl HT2.out HZ3.out HO3.out ?_)
  rw [HF.out]
  have hz0 : W2.alloc (.cells #[.int .u8 0, .int .u8 0, .int .u8 0, .int .u8 0, .int .u8 0, .int .u8 0, .int .u8 0, .int .u8 0, .int .u8 0, .int .u8 0, .int .u8 0, .int .u8 0, .int .u8 0, .int .u8 0, .int .u8 0, .int .u8 0, .int .u8 0, .int .u8 0, .int .u8 0, .int .u8 0, .int .u8 0, .int .u8 0, .int .u8 0, .int .u8 0, .int .u8 0, .int .u8 0, .int .u8 0, .int .u8 0, .int .u8 0, .int .u8 0, .int .u8 0, .int .u8 0, .int .u8 0, .int .u8 0, .int .u8 0, .int .u8 0, .int .u8 0, .int .u8 0, .int .u8 0, .int .u8 0, .int .u8 0, .int .u8 0, .int .u8 0, .int .u8 0, .int .u8 0, .int .u8 0, .int .u8 0, .int .u8 0, .int .u8 0, .int .u8 0, .int .u8 0, .int .u8 0, .int .u8 0, .int .u8 0, .int .u8 0, .int .u8 0, .int .u8 0, .int .u8 0, .int .u8 0, .int .u8 0, .int .u8 0, .int .u8 0, .int .u8 0, .int .u8 0] 43) = W2.alloc (.cells (u8b (List.replicate 64 0)).toArray 43) := rfl
  rw [hz0]
  refine wp_gen (fun W3 => (SmW bs g w W3 ∧ Blk W3 F 43 (u8b padL)) ∧ (HSt W3 E bs bs.length ∧ Blk W3 g 46 (HC (stN bs (bs.length / 64)) wt (bs.length % 64) bs.length))) ?_ ?_
  · have hF := HF.out
    have b1 : Below W2.heap.size W2 (W2.alloc (.cells (u8b (List.replicate 64 0)).toArray 43)) := (Below.refl _ _).alloc (Nat.le_refl _) _
    have b2 := blw_cells (Nat.le_refl _) (u8b padL) 0 _ b1
    have hb := (Blk.new W2 (u8b (List.replicate 64 0)) 43).setAll (vs := u8b padL) rfl
    obtain ⟨h1, ⟨wt2, h2, h3, h4⟩, h5⟩ := H2.out
    rw [hF] at hb b2
    have b3 : Below W2.heap.size W2 ((W2.alloc (.cells (u8b (List.replicate 64 0)).toArray 43)).setCells F 0 (u8b padL)) := by rw [hF]; exact b2
    exact ⟨⟨h1.later b3, hb⟩, ⟨wt2, h2, h3, h4.later b3⟩, h5.later b3⟩
  rintro W3 ⟨⟨hs3, hp3⟩, hh3, hg3⟩
  have hEF : E < F := by rw [← HF.out]; exact hE2
  obtain ⟨m, hm⟩ : ∃ m, bs.length % 64 = m := ⟨_, rfl⟩
  have c1 := hg3.cell (HC_count _ wt _ _ hwt)
  rw [hm] at c1
  obtain ⟨gp, hgp⟩ : ∃ x, gap bs.length = x := ⟨_, rfl⟩
  have hgp2 : 64 - (m + 8) % 64 = gp := by rw [← hgp, ← hm]; unfold gap; omega
  have hgb : 1 ≤ gp ∧ gp ≤ 64 := by omega
  have e1 : IntKind.i64.wrap ((m : Int) + 8) = ((m + 8 : Nat) : Int) := (IntWalk.i64_in _ (by omega)).trans (by omega)
  have e2 : Int.tmod ((m + 8 : Nat) : Int) 64 = (((m + 8) % 64 : Nat) : Int) := by rw [Int.tmod_eq_emod_of_nonneg (by omega)]; omega
  have e3 : IntKind.i64.wrap (64 - (((m + 8) % 64 : Nat) : Int)) = (gp : Int) := (IntWalk.i64_in _ (by omega)).trans (by omega)
  have e4 : (m + 8 : Int) % 64 = (((m + 8) % 64 : Nat) : Int) := by omega
  have e5 : (64 : Int) - (((m + 8) % 64 : Nat) : Int) = (gp : Int) := by omega
  obtain ⟨r, hr⟩ : ∃ r, (m + 8) % 64 = r := ⟨_, rfl⟩
  rw [hr] at e2 e3 e4 e5
  have hTab3 : Tab W3 := H0.out.2.2.later hs3.2.2
  have H3 := Lib.hid (And.intro (And.intro hs3 hp3) (And.intro hh3 (And.intro hg3 hTab3)))
  have HM := Lib.hid (And.intro hm hgp)
  have igp : (0 : Int) ≤ (gp : Int) ∧ (gp : Int) ≤ 64 := by omega
  clear hs3 hp3 hh3 hg3 hTab3 hm hgp hgp2 hr
  go_wp2_with fail
  have hpt := padL_take gp hgb.1 hgb.2
  have hptl : (padL.take gp).length = gp := by rw [List.length_take, padL_len]; omega
  refine (write_calls E bs (padL.take gp) (by rw [hptl]; omega) (some ⟨F, 0, none⟩) gp 64 (Lib.hid hptl.symm) hgb.2 W3 H3.out.2.2.2 (by omega) (H3.out.1.2.rbU.take gp) (by rintro _ x o h; injection h with h; injection h with h1; omega) H3.out.2.1).mono ?_
  rintro e w4 ⟨rfl, hh4, hg4⟩
  rw [hptl] at hh4
  have hs4 := H3.out.1.1.gb hg4 hlt
  have hb4 := H3.out.2.2.1.kept hg4 (by omega)
  have hT4 := H3.out.2.2.2.kept hg4 (by omega)
  have c2 := hb4.cell (HC_total _ wt _ _ hwt)
  obtain ⟨xs, hxs⟩ : ∃ xs, bs ++ padL.take gp = xs := ⟨_, rfl⟩
  rw [hxs] at hh4
  have hxl : bs.length + gp = xs.length := by rw [← hxs, List.length_append, hptl]
  rw [hxl] at hh4
  have H4 := Lib.hid (And.intro hs4 (And.intro hh4 hT4))
  have HX := Lib.hid (And.intro hxs (And.intro hxl hpt))
  obtain ⟨nb, hnb⟩ : ∃ n, bs.length = n := ⟨_, rfl⟩
  have hlc : ∀ W, Calls Tryd.prog 17 #[.int .u64 (nb : Int)] W fun e w' => e = .returned (.agg (u8b (tailF bs.length)).toArray) ∧ Below W.heap.size W w' := by rw [← hnb]; exact length_calls bs.length (by omega)
  rw [hnb] at c2
  have HLC := Lib.hid hlc
  have hE4 : E < w4.heap.size := by obtain ⟨_, _, _, h⟩ := hh4; exact h.lt
  clear hs4 hb4 hT4 hh4 hg4 hxs hxl hnb hlc hpt hptl H3 c1 e1 e2 e3 e4 e5 igp
  go_wp2_with fail
  refine (HLC.out _).mono ?_
  rintro e w5 ⟨rfl, b5⟩
  obtain ⟨ts, hts⟩ : ∃ l, u8b (tailF bs.length) = l := ⟨_, rfl⟩
  have htl : ts.length = 8 := by rw [← hts, u8b_len, tailF_len]
  rw [hts]
  have HT5 : Hid ((w5.alloc (.cells #[.int .u8 0, .int .u8 0, .int .u8 0, .int .u8 0, .int .u8 0, .int .u8 0, .int .u8 0, .int .u8 0] 48)).there w5.heap.size 0 ts.toArray.size) := Lib.hid ((Blk.new w5 (u8b (List.replicate 8 0)) 48).there (by rw [List.size_toArray, htl]; rfl))
  have HZ5 : Hid ((Tryd.prog.info? 48).map (·.size) = some ts.toArray.size) := Lib.hid (by rw [List.size_toArray, htl]; exact sizeTs)
  have HO5 : Hid (ts.toArray.all (·.oneCell') = true) := Lib.hid (by rw [← hts]; exact one8b _)
  have HTS := Lib.hid (And.intro hts htl)
  have HB5 := Lib.hid b5
  clear c2 hts htl b5
  go_upto_region 8 with (refine wpList_store_mid rfl 48 _ _ rfl w5.heap.size 0 ts.toArray rfl rfl HT5.out HZ5.out HO5.out ?_)
  obtain ⟨T, hTq⟩ : ∃ T, w5.heap.size = T := ⟨_, rfl⟩
  rw [hTq]
  refine wp_gen (fun W6 => (SmW bs g w W6 ∧ HSt W6 E xs xs.length) ∧ (Blk W6 T 48 (u8b (tailF bs.length)) ∧ Tab W6 ∧ E < T)) ?_ ?_
  · obtain ⟨h1, ⟨wt2, h2, h3, h4⟩, h5⟩ := H4.out
    have b1 : Below w5.heap.size w5 (w5.alloc (.cells #[.int .u8 0, .int .u8 0, .int .u8 0, .int .u8 0, .int .u8 0, .int .u8 0, .int .u8 0, .int .u8 0] 48)) := (Below.refl _ _).alloc (Nat.le_refl _) _
    have b2 := blw_cells (Nat.le_refl _) ts 0 _ b1
    have hb := (Blk.new w5 (u8b (List.replicate 8 0)) 48).setAll (vs := ts) (by rw [HTS.out.2]; rfl)
    have b3 := HB5.out.then_ b2
    rw [← hTq]
    exact ⟨⟨h1.later b3, ⟨wt2, h2, h3, h4.later b3⟩⟩, by rw [HTS.out.1]; exact hb, h5.later b3, by have := HB5.out.size; omega⟩
  rintro W6 ⟨⟨hs6, hh6⟩, ht6, hT6, hET⟩
  have H6 := Lib.hid (And.intro (And.intro hs6 hh6) (And.intro ht6 hT6))
  clear hs6 hh6 ht6 hT6 hTq HT5 HZ5 HO5 HTS HB5 H4 HLC
  go_wp2_with fail
  have hxb : xs.length < 2 ^ 31 := by have := HX.out.2.1; omega
  refine (write_calls E xs (tailF bs.length) (by rw [tailF_len]; omega) (some ⟨T, 0, none⟩) 8 8 (Lib.hid (tailF_len _).symm) (Nat.le_refl _) W6 H6.out.2.2 (by omega) H6.out.2.1.rbU (by rintro _ x o h; injection h with h; injection h with h1; omega) H6.out.1.2).mono ?_
  rintro e w7 ⟨rfl, hh7, hg7⟩
  have hpad : xs ++ tailF bs.length = padded bs := by rw [← HX.out.1, HX.out.2.2]; unfold padded; rw [HM.out.2]
  rw [hpad] at hh7
  have hs7 := H6.out.1.1.gb hg7 hlt
  obtain ⟨wt3, hw3, _, hb7⟩ := hh7
  obtain ⟨st, hst⟩ : ∃ s, stN (padded bs) ((padded bs).length / 64) = s := ⟨_, rfl⟩
  rw [hst] at hb7
  have hdg : digest bs = st.list.flatMap bytesW := by unfold digest; rw [hst]
  obtain ⟨cs, hcs⟩ : ∃ c, us st.list = c := ⟨_, rfl⟩
  have hr7 : w7.rangeAt E 0 cs := by rw [← hcs]; exact hb7.rngAt 0 8
  have hz7 : (Tryd.prog.info? 42).map (·.size) = some cs.length := by rw [← hcs]; exact size8
  have HR7 := Lib.hid hr7
  have HZ7 := Lib.hid hz7
  have HS7 := Lib.hid hs7
  have HDG := Lib.hid (And.intro hdg hcs)
  have HST : Hid st.InU := Lib.hid (by rw [← hst]; exact stN_inU _ _)
  clear hpad hb7 hst hdg hcs hr7 hz7 hs7 hg7 H6 HM HX H2 H0 HOLD
  go_wp2_with (refine wpList_load_mid rfl 42 _ rfl E 0 rfl cs _ HR7.out Tryd.underlying42 rfl HZ7.out ?_)
  go_loopw [35] (fun i wr => ∃ k : Nat, k ≤ 8 ∧ i = .int .i64 (k : Int) ∧ OuS bs w (4 * k) wr) (fun i _ => 8 - (intOf i).toNat)
  case atStart => exact ⟨0, by omega, rfl, by rw [outP_zero]; exact HS7.out.2.1, HS7.out.1, HS7.out.2.2⟩
  case round =>
    clear HS7
    obtain ⟨k, hk, rfl, hu⟩ := hrel
    by_cases hp : k < 8
    · obtain ⟨x, hx⟩ : ∃ x, st.list.getD k 0 = x := ⟨_, rfl⟩
      have hix := fun W => idx8 cs k hp (.int .u32 x) (by rw [← HDG.out.2, ← hx]; exact us_at (list_at st k hp)) W
      have HU := Lib.hid hu
      have HXX := Lib.hid hx
      have HX0 : Hid (0 ≤ x) := Lib.hid (by rw [← hx]; exact list_nonneg st HST.out k)
      clear hu hx
      go_wp2_with fail
      clear hix
      go_loopw [39] (fun i wr => ∃ j : Nat, j ≤ 4 ∧ i = .int .i64 (j : Int) ∧ OuS bs w (4 * k + j) wr) (fun i _ => 4 - (intOf i).toNat)
      case atStart => exact ⟨0, by omega, rfl, HU.out⟩
      case round =>
        clear HU
        obtain ⟨j, hj, rfl, hu, hz, hbw⟩ := hrel
        by_cases hq : j < 4
        · obtain ⟨i, hi⟩ : ∃ i, 4 * k + j = i := ⟨_, rfl⟩
          rw [hi] at hu
          have e1 : IntKind.i64.wrap (((k : Int) * 4) + (j : Int)) = (i : Int) := (IntWalk.i64_in _ (by omega)).trans (by omega)
          have hil : i < 32 := by omega
          obtain ⟨y, hy⟩ : ∃ y, (u8b (outP (digest bs) i))[i]? = some y := ⟨_, List.getElem?_eq_getElem (by rw [u8b_len, outP_len _ _ (digest_len bs) (by omega)]; omega)⟩
          have c1 := hu.cell hy
          have f1 := hu.frozen i
          have HU := Lib.hid (And.intro hu (And.intro hz hbw))
          have HI := Lib.hid hi
          have HXB := Lib.hid (digest_at bs st k j x HDG.out.1 HXX.out hp hq)
          clear hu hz hbw hy hi
          go_wp2_with fail
          refine ⟨⟨j + 1, by omega, by go_num, ?_⟩, by simp [intOf]; omega⟩
          rw [byte_val x (24 - 8 * j) HX0.out]
          have h := HU.out.1.set_ i (.int .u8 ((UInt8.ofNat ((x / 2 ^ (24 - 8 * j)).toNat % 256)).toNat : Int))
          rw [u8b_set, outP_step (digest bs) i _ (by rw [← HI.out]; exact HXB.out) (digest_len bs) hil] at h
          refine ⟨?_, HU.out.2.1.other (by omega) _, HU.out.2.2.setCell (by show w.heap.size ≤ w.heap.size + 1; omega) _⟩
          rw [show 4 * k + (j + 1) = i + 1 by rw [← HI.out]; omega]
          exact h
        · obtain rfl : j = 4 := by omega
          rw [show ((4 : Nat) : Int) = (4 : Int) from rfl]
          have HU : Hid (OuS bs w (4 * (k + 1)) wr) := Lib.hid (by rw [show 4 * (k + 1) = 4 * k + 4 by omega]; exact ⟨hu, hz, hbw⟩)
          clear hu hz hbw
          have e1 : IntKind.i64.wrap ((k : Int) + 1) = (k : Int) + 1 := IntWalk.i64_in _ (by omega)
          go_wp2_with fail
          exact ⟨⟨k + 1, by omega, by go_num, HU.out⟩, by simp [intOf]; omega⟩
    · obtain rfl : k = 8 := by omega
      rw [show ((8 : Nat) : Int) = (8 : Int) from rfl]
      obtain ⟨hu, hz, hbw⟩ := hu
      rw [show 4 * 8 = 32 from rfl, outP_full _ (digest_len bs)] at hu
      have hlen : (u8b (digest bs)).length = 32 := by rw [u8b_len, digest_len]
      obtain ⟨ds, hds⟩ : ∃ d, u8b (digest bs) = d := ⟨_, rfl⟩
      have hone : ds.toArray.all (·.oneCell') = true := by rw [← hds]; exact one8b _
      rw [hds] at hu hlen
      have hsz : (Tryd.prog.info? 24).map (·.size) = some ds.length := by rw [hlen]; exact sizeSz
      have HRF := Lib.hid hu.rng
      have HTH := Lib.hid (hz.there (n := ds.toArray.size) (by simp [hlen, u8b_len]))
      have HZ2 := Lib.hid (Blk.load (hz.setAll (vs := ds) (by simp [hlen, u8b_len])) 24 Tryd.underlying24 rfl hsz)
      have HB2 := Lib.hid (blw_cells (Nat.le_refl _) ds 0 _ hbw)
      have HO := Lib.hid hone
      have HZF := Lib.hid hsz
      have HZG : Hid ((Tryd.prog.info? 24).map (·.size) = some ds.toArray.size) := Lib.hid (by simpa using hsz)
      have HDS := Lib.hid hds
      clear hu hz hbw hlen hds hone hsz
      go_wp2_with (first
        | (refine wpList_load_mid rfl 24 _ rfl (w.heap.size + 1) 0 rfl ds _ HRF.out Tryd.underlying24 rfl HZF.out ?_)
        | (refine wpList_store_mid rfl 24 _ _ rfl w.heap.size 0 ds.toArray rfl rfl HTH.out HZG.out HO.out ?_))
      exact bodyPost_ret (v := .agg ds.toArray) (res_cell rfl _ _ _ _ rfl HZ2.out) rfl ⟨by rw [HDS.out], HB2.out⟩
end Go.Proofs.YtjhclmlefmomfaaDoor
