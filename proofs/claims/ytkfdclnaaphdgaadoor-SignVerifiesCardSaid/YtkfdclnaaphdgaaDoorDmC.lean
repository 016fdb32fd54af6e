/- Layers 4 and 6: texts put together (DoI DoJ DoK DoL). -/
import Derived.Test.YtkfdclnaaphdgaaDoorDmA
import Derived.Test.YtkfdclnaaphdgaaDoorOwn
import Derived.Test.YtkfdclnaaphdgaaDoorStr
import Derived.Test.YtkfdclnaaphdgaaDoorLh
import Derived.Test.YtkfdclnaaphdgaaDoorDmB
namespace Go.Proofs.YtkfdclnaaphdgaaDoor.Dh
open Go.Proofs.YtkfdclnaaphdgaaDoor
open Go.ChangeShapes Go.WideShapes Go.ChangeAt Go.RowKit Go.IntWalk
set_option linter.unusedVariables false

def tailS (n k : Nat) : List UInt8 := (tailF n).drop (16 - k)
theorem tailS_len (n k : Nat) (h : k ≤ 16) : (tailS n k).length = k := by simp [tailS, tailF_len]; omega
theorem tailS_zero (n : Nat) : tailS n 0 = [] := by unfold tailS; exact List.drop_of_length_le (by rw [tailF_len]; omega)
theorem tailS_full (n : Nat) : tailS n 16 = tailF n := by simp [tailS]
theorem tailS_step (n k : Nat) (h : k < 16) : tailS n (k + 1) = [UInt8.ofNat (8 * n / 256 ^ k % 256)] ++ tailS n k := by
  unfold tailS
  have hl : 16 - (k + 1) < (tailF n).length := by rw [tailF_len]; omega
  rw [List.drop_eq_getElem_cons hl, show 16 - (k + 1) + 1 = 16 - k by omega]
  simp only [tailF, List.getElem_map, List.getElem_range, List.singleton_append, show 15 - (16 - (k + 1)) = k by omega]
def remN (n k : Nat) : Nat := if k = 0 then n else 8 * n / 256 ^ k
theorem remN_zero (n : Nat) : remN n 0 = n := rfl
theorem remN_one (n : Nat) : remN n 1 = n / 32 := by unfold remN; rw [if_neg (by omega)]; omega
theorem remN_succ (n k : Nat) (h : 0 < k) : remN n (k + 1) = remN n k / 256 := by
  unfold remN
  rw [if_neg (by omega), if_neg (by omega), Nat.pow_succ, Nat.div_div_eq_div_mul]
theorem remN_byte (n k : Nat) (h : 0 < k) : 8 * n / 256 ^ k % 256 = remN n k % 256 := by unfold remN; rw [if_neg (by omega)]
theorem remN_le (n k : Nat) : remN n k ≤ 8 * n := by unfold remN; split; omega; exact Nat.div_le_self _ _
def midP (bs : List UInt8) (j : Nat) : List UInt8 := bs ++ 128 :: List.replicate j 0
theorem midP_len (bs : List UInt8) (j : Nat) : (midP bs j).length = bs.length + 1 + j := by simp [midP]; omega
theorem midP_step (bs : List UInt8) (j : Nat) : midP bs j ++ [0] = midP bs (j + 1) := by simp [midP, List.replicate_succ']
theorem u8n (m : Nat) (h : m < 256) : (m : Int) = ((UInt8.ofNat m).toNat : Int) := by simp; omega
theorem _root_.Go.Proofs.YtkfdclnaaphdgaaDoor.OwnVs.formBs {base : Nat} {w : World} {v : Value} {bs : List UInt8} (h : OwnBs base w v bs) : ∃ A n cap, v = .slice A n cap ∧ RB w A bs ∧ Hid (n = bs.length) ∧ n ≤ cap := by
  obtain ⟨A, n, cap, hv, hr, hn⟩ := h.form
  refine ⟨A, n, cap, hv, hr, hn, ?_⟩
  rcases h.2 with ⟨h2, h0⟩ | ⟨g, c, cur, h2, _, _, hnc, _⟩
  · rw [hv] at h2; injection h2 with _ h3 h4; omega
  · rw [hv] at h2; injection h2 with _ h3 h4; omega
def PadS (bs : List UInt8) (w : World) (j : Nat) (v : Value) (wr : World) : Prop := OwnBs w.heap.size wr v (midP bs j) ∧ Below w.heap.size w wr
def TailS (bs : List UInt8) (w : World) (B : Nat) (k : Nat) (v : Value) (wr : World) : Prop := OwnBs B wr v (tailS bs.length k) ∧ Below w.heap.size w wr
set_option maxRecDepth 100000 in
set_option maxHeartbeats 4000000 in
theorem padded_calls (bs : List UInt8) (hb : bs.length < 2 ^ 30) (A : Option Addr) (n c : Nat) (hn : Hid (n = bs.length)) (w : World) (hr : RB w A bs) :
    Calls Tryd.prog 82 #[.slice A n c] w fun e w' => ∃ A' n' c', e = .returned (.slice A' n' c') ∧ RB w' A' (padded bs) ∧ Hid (n' = (padded bs).length) ∧ n' ≤ c' ∧ Below w.heap.size w w' := by
  have h0 : OwnBs w.heap.size (w.alloc (.cells #[] 5)) (.slice (some ⟨w.heap.size, 0, none⟩) 0 0) [] := OwnBs.made w.heap.size w #[] 0 (Nat.le_refl _) (by unfold maxLen; omega) rfl
  have b0 : Below w.heap.size w (w.alloc (.cells #[] 5)) := (Below.refl _ _).alloc (Nat.le_refl _) _
  have r0 := hr.below b0
  clear hr
  go_enter Tryd.func82, Tryd.ntmps82
  have hlb : bs.length ≤ 70368744177664 := by omega
  have hlc : ([] : List UInt8).length + n ≤ 70368744177664 := by rw [hn.out]; simp; omega
  have hw0 : w.heap.size ≤ (w.alloc (.cells #[] 5)).heap.size := b0.size
  go_wp2_with (first
    | (refine wpList_append_rb rfl (.tmp 7) (.tmp 8) rfl w.heap.size _ _ rfl h0 A n c bs rfl r0 hn hlc hw0 ?_; intro v1 w1 o1 g1; rw [List.nil_append] at o1; have b1 : Below w.heap.size w w1 := b0.grown g1 hw0 (fun k hk => (h0.lt k hk).1); have hw1 := b1.size)
    | (refine wpList_append_u8 rfl (.tmp 9) (.tmp 10) rfl w.heap.size _ _ rfl o1 128 rfl rfl hlb hw1 ?_; intro v2 w2 o2 g2))
  have b2 : Below w.heap.size w w2 := b1.grown g2 hw1 (fun k hk => (o1.lt k hk).1)
  have H2 : Hid (PadS bs w 0 v2 w2) := Lib.hid ⟨o2, b2⟩
  clear o1 b1 hw1 g2 o2 b2 hlb hlc hw0 h0 b0 r0 g1
  go_loopw [3] (fun v wr => ∃ j : Nat, j ≤ gap bs.length - 1 ∧ PadS bs w j v wr) (fun v _ => bs.length + 128 + 1 - (match v with | .slice _ n _ => n | _ => 0))
  case atStart => exact ⟨0, by omega, H2.out⟩
  case round =>
    clear H2
    obtain ⟨j, hj, hown, hbw⟩ := hrel
    have hsz := hbw.size
    obtain ⟨A', n', cap', rfl, hrb, hn'⟩ := hown.form
    have hn2 := hn'.out
    rw [midP_len] at hn2
    have hgp : gap bs.length = 128 - (bs.length + 16) % 128 := rfl
    have HG := Lib.hid hgp
    by_cases hp : j < gap bs.length - 1
    · have ht : ((n' : Int) % 128 != 112) = true := bne_iff_ne.2 (by omega)
      have hlm : (midP bs j).length ≤ 70368744177664 := by rw [midP_len]; omega
      have HJ := Lib.hid (And.intro hj hp)
      have HN2 := Lib.hid hn2
      clear hj hp hgp hn2 hrb
      go_wp2_with (refine wpList_append_u8 rfl (.tmp 16) (.tmp 17) rfl w.heap.size _ _ rfl hown 0 rfl rfl hlm hsz ?_; intro v2 w2 o2 g2)
      have b2 : Below w.heap.size w w2 := hbw.grown g2 hsz (fun k hk => (hown.lt k hk).1)
      rw [midP_step] at o2
      obtain ⟨A2, n2, c2, rfl, _, hn3⟩ := o2.form
      refine ⟨⟨j + 1, by have := HJ.out.2; omega, o2, b2⟩, ?_⟩
      have h1 := HN2.out
      have h2 := hn3.out
      rw [midP_len] at h2
      have h3 := HJ.out.2
      have h4 := HG.out
      show bs.length + 128 + 1 - n2 < bs.length + 128 + 1 - n'
      omega
    · obtain rfl : j = gap bs.length - 1 := by omega
      have ht : ((n' : Int) % 128 != 112) = false := by rw [show (n' : Int) % 128 = 112 by omega]; rfl
      obtain ⟨wo, hwo⟩ : ∃ wo, wo = wr := ⟨_, rfl⟩
      rw [← hwo] at hown hbw hsz
      have HO := Lib.hid (And.intro hown hbw)
      have HLN := Lib.hid hn2
      clear hown hbw hrb hn2 hgp hp hj
      go_wp2_with fail
      rw [← hwo]
      go_loopw [4, 5, 6] (fun m v i wi => ∃ k : Nat, k ≤ 16 ∧ m = .int .i64 ((remN bs.length k : Nat) : Int) ∧ i = .int .i64 (k : Int) ∧ OwnBs wo.heap.size wi v (tailS bs.length k) ∧ Below wo.heap.size wo wi) (fun _ _ i _ => 16 - (intOf i).toNat)
      case atStart => exact ⟨0, by omega, by rw [remN_zero, hn.out], rfl, by rw [tailS_zero]; exact OwnBs.nil _ _, Below.refl _ _⟩
      case round =>
        obtain ⟨k, hk, rfl, rfl, hot, hbt⟩ := hrel
        have hst := hbt.size
        obtain ⟨q, hq⟩ : ∃ q, remN bs.length k = q := ⟨_, rfl⟩
        rw [hq]
        have hqb : q < 1099511627776 := by have := remN_le bs.length k; omega
        obtain ⟨At, nt, ct, rfl, hrt, hnt⟩ := hot.form
        by_cases hp : k < 16
        · obtain ⟨c0, hc0⟩ : ∃ c, UInt8.ofNat (8 * bs.length / 256 ^ k % 256) = c := ⟨_, rfl⟩
          have hts := tailS_step bs.length k hp
          rw [hc0] at hts
          have hcv : ((8 * bs.length / 256 ^ k % 256 : Nat) : Int) = (c0.toNat : Int) := by rw [← hc0]; exact u8n _ (Nat.mod_lt _ (by decide))
          have hlen : ([c0] : List UInt8).length + nt ≤ 70368744177664 := by rw [hnt.out, tailS_len _ _ hk]; simp; omega
          have hcap : 1 ≤ maxLen := by unfold maxLen; omega
          have hbase : wo.heap.size ≤ (wr.alloc (.cells #[.int .u8 (c0.toNat : Int)] 5)).heap.size := by simp; omega
          have h1 : OwnBs wo.heap.size (wr.alloc (.cells #[.int .u8 (c0.toNat : Int)] 5)) (.slice (some ⟨wr.heap.size, 0, none⟩) 1 1) [c0] :=
            BlkBs.own (show BlkBs (wr.alloc (.cells #[.int .u8 (c0.toNat : Int)] 5)) wr.heap.size [c0] from heap_alloc_new wr _) hst rfl hcap
          have bt1 : Below wo.heap.size wo (wr.alloc (.cells #[.int .u8 (c0.toNat : Int)] 5)) := hbt.alloc hst _
          have rt1 := hrt.below ((Below.refl _ _).alloc (Nat.le_refl _) (.cells #[.int .u8 (c0.toNat : Int)] 5))
          have HTS := Lib.hid hts
          have HOT := Lib.hid hot
          clear hts hc0 hot hrt hn'
          have e1 : IntKind.i64.wrap ((k : Int) + 1) = (k : Int) + 1 := IntWalk.i64_in _ (by omega)
          by_cases h0 : k = 0
          · subst h0
            have hq1 : (q : Int) % 32 * 8 = (c0.toNat : Int) := by rw [← hcv, ← hq, remN_zero]; omega
            have HQ : Hid (((remN bs.length 1 : Nat) : Int) = (q : Int) / 32) := Lib.hid (by rw [← hq, remN_one, remN_zero]; omega)
            rw [← hq1] at h1 bt1 rt1 hbase
            clear hq hcv hq1
            go_wp2_with (refine wpList_append_rb rfl (.tmp 31) (.tmp 32) rfl wo.heap.size _ _ rfl h1 At nt ct _ rfl rt1 hnt hlen hbase ?_; intro v3 w3 o3 g3)
            have b3 : Below wo.heap.size wo w3 := bt1.grown g3 hbase (fun k hk => (h1.lt k hk).1)
            rw [← HTS.out] at o3
            exact ⟨⟨1, by omega, by rw [HQ.out], rfl, o3, b3⟩, by simp [intOf]⟩
          · have hd : ((k : Int) == 0) = false := by simp; omega
            have hq1 : (q : Int) % 256 = (c0.toNat : Int) := by rw [← hcv, remN_byte _ _ (by omega), hq]; omega
            have HQ : Hid (((remN bs.length (k + 1) : Nat) : Int) = (q : Int) / 256) := Lib.hid (by rw [remN_succ _ _ (by omega), hq]; omega)
            rw [← hq1] at h1 bt1 rt1 hbase
            clear hq hcv hq1
            go_wp2_with (refine wpList_append_rb rfl (.tmp 39) (.tmp 40) rfl wo.heap.size _ _ rfl h1 At nt ct _ rfl rt1 hnt hlen hbase ?_; intro v3 w3 o3 g3)
            have b3 : Below wo.heap.size wo w3 := bt1.grown g3 hbase (fun k hk => (h1.lt k hk).1)
            rw [← HTS.out] at o3
            exact ⟨⟨k + 1, by omega, by rw [HQ.out], by go_num, o3, b3⟩, by simp [intOf]; omega⟩
        · obtain rfl : k = 16 := by omega
          rw [tailS_full] at hrt hnt
          have ho1 : OwnBs w.heap.size wr (.slice A' n' cap') (midP bs (gap bs.length - 1)) := HO.out.1.below hbt (Nat.le_refl _)
          have hb1 : Below w.heap.size w wr := HO.out.2.trans (hbt.mono hsz)
          have hlm : (midP bs (gap bs.length - 1)).length + nt ≤ 70368744177664 := by rw [hnt.out, tailF_len, midP_len]; unfold gap; omega
          have hs1 := hb1.size
          clear hot hq
          go_wp2_with (refine wpList_append_rb rfl (.tmp 44) (.tmp 45) rfl w.heap.size _ _ rfl ho1 At nt ct _ rfl hrt hnt hlm hs1 ?_; intro v3 w3 o3 g3)
          have b3 : Below w.heap.size w w3 := hb1.grown g3 hs1 (fun k hk => (ho1.lt k hk).1)
          obtain ⟨A3, n3, c3, rfl, hr3, hn3, hc3⟩ := OwnVs.formBs o3
          have hpd : midP bs (gap bs.length - 1) ++ tailF bs.length = padded bs := rfl
          rw [hpd] at hr3 hn3
          have HR3 := Lib.hid (And.intro hr3 b3)
          go_ret
          exact ⟨A3, n3, c3, rfl, HR3.out.1, hn3, hc3, HR3.out.2⟩
end Go.Proofs.YtkfdclnaaphdgaaDoor.Dh
namespace Go.Proofs.YtkfdclnaaphdgaaDoor.Dh
open Go.Proofs.YtkfdclnaaphdgaaDoor
open Go.ChangeShapes Go.WideShapes Go.ChangeAt Go.RowKit Go.IntWalk
set_option linter.unusedVariables false

theorem infoU : (Tryd.prog.info? 37).map (fun i => (i.zero, i.size, i.bytes)) = some (some (.int .u64 0), 1, 8) := by kernel_rfl
theorem oneUs (ds : List Int) : ∀ u ∈ us ds, u.oneCell' = true := by
  intro v hv
  obtain ⟨y, _, rfl⟩ := List.mem_map.1 hv
  rfl
set_option maxRecDepth 100000 in
set_option maxHeartbeats 4000000 in
theorem numbers_calls (w : World) :
    Calls Tryd.prog 83 #[] w fun e w' => e = .returned (.slice (some ⟨w.heap.size, 0, none⟩) 80 80) ∧ RV w' (some ⟨w.heap.size, 0, none⟩) (us KS) ∧ Below w.heap.size w w' := by
  have h1 : RV (w.alloc (.cells (us KS).toArray 37)) (some ⟨w.heap.size, 0, none⟩) (us KS) := RV.of_blk (Blk.new w (us KS) _)
  have H1 := Lib.hid h1
  clear h1
  go_enter Tryd.func83, Tryd.ntmps83
  go_wp2_with fail
  go_ret
  exact ⟨rfl, H1.out, (Below.refl _ _).alloc (Nat.le_refl _) _⟩
theorem w16_at (bs : List UInt8) (k : Nat) (hk : k < 16) : (w16 bs).take (k + 1) = (w16 bs).take k ++ [((beN ((bs.drop (8 * k)).take 8) : Nat) : Int)] := by
  rw [List.take_succ_eq_append_getElem (by rw [w16_len]; exact hk)]
  simp [w16]
theorem seg_step (bs : List UInt8) (k j i : Nat) (c : UInt8) (hi : 8 * k + j = i) (hc : bs[i]? = some c) : (bs.drop (8 * k)).take (j + 1) = (bs.drop (8 * k)).take j ++ [c] := by
  rw [List.take_add_one, List.getElem?_drop, hi, hc]; rfl
def NxS (ds : List Int) (w : World) (v : Value) (wr : World) : Prop := OwnVs w.heap.size 37 wr v (us ds) ∧ Below w.heap.size w wr
theorem NxS.step {ds : List Int} {w wr w2 : World} {v v2 : Value} {x : Int} (h : NxS ds w v wr) (h2 : OwnVs w.heap.size 37 w2 v2 (us ds ++ [.int .u64 x])) (g : wr.grownBy w2 v.ownBlock) : NxS (ds ++ [x]) w v2 w2 :=
  ⟨by rw [show us (ds ++ [x]) = us ds ++ [.int .u64 x] by simp [us]]; exact h2, h.2.grown g h.2.size (fun k hk => (h.1.lt k hk).1)⟩
def NxK (s : S8) (bs : List UInt8) (w : World) (A7 As Ak : Option Addr) (wr : World) : Prop := RV wr A7 (us (wN bs 64)) ∧ RV wr As (us s.list) ∧ RV wr Ak (us KS) ∧ Below w.heap.size w wr
theorem NxK.drewN {s : S8} {bs : List UInt8} {w wr : World} {A7 As Ak : Option Addr} (h : NxK s bs w A7 As Ak wr) (n : Nat) : NxK s bs w A7 As Ak (wr.drewN n) := ⟨h.1, h.2.1, h.2.2.1, h.2.2.2.drewN n⟩
def RelX (s : S8) (bs : List UInt8) (w : World) (A7 As Ak : Option Addr) (v6 v7 v8 v9 v10 v11 v12 v13 i : Value) (wr : World) : Prop :=
  ∃ (k : Nat) (t : S8), k ≤ 80 ∧ i = .int .i64 (k : Int) ∧ Hid (t = rnds KS (wN bs 64) s k) ∧ v6 = .int .u64 t.a ∧ v7 = .int .u64 t.b ∧ v8 = .int .u64 t.c ∧ v9 = .int .u64 t.d ∧ v10 = .int .u64 t.e ∧ v11 = .int .u64 t.f ∧ v12 = .int .u64 t.g ∧ v13 = .int .u64 t.h ∧ NxK s bs w A7 As Ak wr
theorem ref3 (i j k : Nat) (hi : 1 ≤ i ∧ i ≤ 63) (hj : 1 ≤ j ∧ j ≤ 63) (hk : 1 ≤ k ∧ k ≤ 63) (x : Int) (hx : InU x) (w : World) :
    Calls Tryd.prog 98 #[.int .u64 x, .int .u64 (i : Int), .int .u64 (j : Int), .int .u64 (k : Int)] w fun e w' => e = .returned (.int .u64 (three x i j k)) ∧ w = w' := three_calls x i j k hx hi hj hk w
theorem refE (x : Int) (hx : InU x) (w : World) : Calls Tryd.prog 98 #[.int .u64 x, .int .u64 14, .int .u64 18, .int .u64 41] w fun e w' => e = .returned (.int .u64 (three x 14 18 41)) ∧ w = w' := ref3 14 18 41 (by decide) (by decide) (by decide) x hx w
theorem refA (x : Int) (hx : InU x) (w : World) : Calls Tryd.prog 98 #[.int .u64 x, .int .u64 28, .int .u64 34, .int .u64 39] w fun e w' => e = .returned (.int .u64 (three x 28 34 39)) ∧ w = w' := ref3 28 34 39 (by decide) (by decide) (by decide) x hx w
theorem rtn (k : Nat) (h1 : 1 ≤ k) (h2 : k ≤ 63) (x : Int) (hx : InU x) (w : World) : Calls Tryd.prog 97 #[.int .u64 x, .int .u64 (k : Int)] w fun e w' => e = .returned (.int .u64 (rotr x k)) ∧ w = w' := turn_any x k hx h1 h2 w
theorem rV1 (x : Int) (hx : InU x) (w : World) : Calls Tryd.prog 97 #[.int .u64 x, .int .u64 1] w fun e w' => e = .returned (.int .u64 (rotr x 1)) ∧ w = w' := rtn 1 (by decide) (by decide) x hx w
theorem rV2 (x : Int) (hx : InU x) (w : World) : Calls Tryd.prog 97 #[.int .u64 x, .int .u64 8] w fun e w' => e = .returned (.int .u64 (rotr x 8)) ∧ w = w' := rtn 8 (by decide) (by decide) x hx w
theorem rW1 (x : Int) (hx : InU x) (w : World) : Calls Tryd.prog 97 #[.int .u64 x, .int .u64 19] w fun e w' => e = .returned (.int .u64 (rotr x 19)) ∧ w = w' := rtn 19 (by decide) (by decide) x hx w
theorem rW2 (x : Int) (hx : InU x) (w : World) : Calls Tryd.prog 97 #[.int .u64 x, .int .u64 61] w fun e w' => e = .returned (.int .u64 (rotr x 61)) ∧ w = w' := rtn 61 (by decide) (by decide) x hx w
end Go.Proofs.YtkfdclnaaphdgaaDoor.Dh
namespace Go.Proofs.YtkfdclnaaphdgaaDoor.Dh
open Go.Proofs.YtkfdclnaaphdgaaDoor
open Go.ChangeShapes Go.WideShapes Go.ChangeAt Go.RowKit Go.IntWalk
set_option linter.unusedVariables false

set_option maxRecDepth 100000 in
set_option maxHeartbeats 4000000 in
theorem next_calls (s : S8) (hs : s.InU) (bs : List UInt8) (hl : bs.length = 128) (As Ab Ak : Option Addr) (cs cb ck : Nat) (w : World) (hrs : RV w As (us s.list)) (hrb : RB w Ab bs) (hrk : RV w Ak (us KS)) :
    Calls Tryd.prog 84 #[.slice As 8 cs, .slice Ab 128 cb, .slice Ak 80 ck] w fun e w' => ∃ g, e = .returned (.slice (some ⟨g, 0, none⟩) 8 8) ∧ RV w' (some ⟨g, 0, none⟩) (us (comp s bs).list) ∧ Below w.heap.size w w' := by
  have HS := Lib.hid (And.intro hs (And.intro hrs hrk))
  obtain ⟨bb, ob, rfl, hbl⟩ := hrb.some (by omega)
  have HB := Lib.hid hrb
  clear hs hrs hrk hrb
  go_enter Tryd.func84, Tryd.ntmps84
  go_wp2_with fail
  go_loopw [7, 8] (fun v i wr => ∃ k : Nat, k ≤ 16 ∧ i = .int .i64 (k : Int) ∧ NxS ((w16 bs).take k) w v wr) (fun _ i _ => 16 - (intOf i).toNat)
  case atStart => exact ⟨0, by omega, rfl, OwnVs.nil _ _ _, Below.refl _ _⟩
  case round =>
    obtain ⟨k, hk, rfl, hnx⟩ := hrel
    by_cases hp : k < 16
    · have hrb := HB.out.below hnx.2
      have HN := Lib.hid hnx
      clear hnx
      go_wp2_with fail
      go_loop [9, 10] (fun x j => ∃ jn : Nat, jn ≤ 8 ∧ j = .int .i64 (jn : Int) ∧ x = .int .u64 ((beN ((bs.drop (8 * k)).take jn) : Nat) : Int)) (fun _ j => 8 - (intOf j).toNat)
      case atStart => exact ⟨0, by omega, rfl, rfl⟩
      case round =>
        obtain ⟨j, hj, rfl, rfl⟩ := hrel
        by_cases hq : j < 8
        · obtain ⟨i, hi⟩ : ∃ i, 8 * k + j = i := ⟨_, rfl⟩
          have hil : i < bs.length := by omega
          obtain ⟨c, hc⟩ : ∃ c, bs[i]? = some c := ⟨_, List.getElem?_eq_getElem hil⟩
          have hcell : wr.cell? ⟨bb, ob + i, none⟩ = some (.int .u8 (c.toNat : Int)) := by
            obtain ⟨b2, o2, h2, _, h3⟩ := hrb i hil
            injection h2 with h2; injection h2 with h4 h5
            subst h4; subst h5
            rw [h3]; simp [List.getD, hc]
          have hst := seg_step bs k j i c hi hc
          have HST := Lib.hid hst
          have e1 : IntKind.i64.wrap ((8 : Int) * (k : Int)) = 8 * (k : Int) := IntWalk.i64_in _ (by omega)
          have e2 : IntKind.i64.wrap ((8 : Int) * (k : Int) + (j : Int)) = (i : Int) := (IntWalk.i64_in _ (by omega)).trans (by omega)
          have e3 : ((8 : Int) * (k : Int) + (j : Int)) = (i : Int) := by omega
          obtain ⟨n, hn⟩ : ∃ n, beN ((bs.drop (8 * k)).take j) = n := ⟨_, rfl⟩
          rw [hn]
          clear hst hc hi hrb
          go_wp2_with fail
          refine ⟨⟨j + 1, by omega, by go_num, ?_⟩, by simp [intOf]; omega⟩
          congr 1
          have hlt := beN_lt ((bs.drop (8 * k)).take (j + 1))
          have hll : ((bs.drop (8 * k)).take (j + 1)).length ≤ 8 := by rw [List.length_take]; omega
          have hp2 : 256 ^ ((bs.drop (8 * k)).take (j + 1)).length ≤ 256 ^ 8 := Nat.pow_le_pow_right (by decide) hll
          rw [HST.out, beN_snoc, hn] at hlt
          rw [HST.out] at hp2
          rw [HST.out, beN_snoc, hn]
          have hcl := c.toNat_lt
          simp only [wrapU_eq]
          omega
        · obtain rfl : j = 8 := by omega
          rw [show ((8 : Nat) : Int) = (8 : Int) from rfl]
          have hw := w16_at bs k hp
          obtain ⟨x, hx⟩ : ∃ x, ((beN ((bs.drop (8 * k)).take 8) : Nat) : Int) = x := ⟨_, rfl⟩
          rw [hx] at hw ⊢
          have HW := Lib.hid hw
          have hown := HN.out.1
          have hsz := HN.out.2.size
          have h63 : (us ((w16 bs).take k)).length + 1 ≤ maxLen := by unfold maxLen us; rw [List.length_map, List.length_take]; omega
          have hby : ((us ((w16 bs).take k)).length + 1) * 8 ≤ 140737488355328 := by unfold us; rw [List.length_map, List.length_take]; omega
          have h1 : ∀ u ∈ [Value.int .u64 x], u.oneCell' = true := oneUs [x]
          clear hw hx hrb
          go_wp2_with (refine wpList_append_lits rfl (.tmp 46) (.tmp 48) 87 37 Tryd.underlying87 infoU rfl rfl w.heap.size _ _ rfl hown [.int .u64 x] 37 _ rfl 1 rfl (Lib.hid rfl) h1 h63 hby hsz ?_; intro v2 w2 o2 g2)
          have h2 := HN.out.step o2 g2
          rw [← HW.out] at h2
          exact ⟨⟨k + 1, by omega, by go_num, h2⟩, by simp [intOf]; omega⟩
    · obtain rfl : k = 16 := by omega
      rw [show ((16 : Nat) : Int) = (16 : Int) from rfl]
      rw [List.take_of_length_le (by rw [w16_len]; omega)] at hnx
      have HN := Lib.hid hnx
      clear hnx
      go_wp2_with fail
      go_loopw [7, 11] (fun v i wr => ∃ n m : Nat, n ≤ 64 ∧ m = n + 16 ∧ i = .int .i64 (m : Int) ∧ NxS (wN bs n) w v wr) (fun _ i _ => 80 - (intOf i).toNat)
      case atStart => exact ⟨0, 16, by omega, rfl, rfl, HN.out⟩
      case round =>
        clear HN
        obtain ⟨n, m, hn, hm, rfl, hnx⟩ := hrel
        have HM := Lib.hid hm
        have hsz := hnx.2.size
        obtain ⟨A', n', cap', rfl, hrv, hnn, hcap⟩ := hnx.1.form
        have hwl : (us (wN bs n)).length = 16 + n := by simp [us, wN_len]
        have hnw : n' = 16 + n := hnn.out.trans hwl
        have HNW := Lib.hid hnw
        obtain ⟨b7, o7, rfl, hb7, hcell⟩ := hrv.some (by omega)
        by_cases hp : m < 80
        · have hn2 : n < 64 := by omega
          obtain ⟨o1, h1⟩ : ∃ o, n + 1 = o := ⟨_, rfl⟩
          obtain ⟨o14, h14⟩ : ∃ o, n + 14 = o := ⟨_, rfl⟩
          obtain ⟨o9, h9⟩ : ∃ o, n + 9 = o := ⟨_, rfl⟩
          have s15 : IntKind.i64.wrap ((m : Int) - 15) = (o1 : Int) := (IntWalk.i64_in _ (by omega)).trans (by omega)
          have s2 : IntKind.i64.wrap ((m : Int) - 2) = (o14 : Int) := (IntWalk.i64_in _ (by omega)).trans (by omega)
          have s16 : IntKind.i64.wrap ((m : Int) - 16) = (n : Int) := (IntWalk.i64_in _ (by omega)).trans (by omega)
          have s7 : IntKind.i64.wrap ((m : Int) - 7) = (o9 : Int) := (IntWalk.i64_in _ (by omega)).trans (by omega)
          have b1 : o1 < n' := by omega
          have b14 : o14 < n' := by omega
          have b9 : o9 < n' := by omega
          have b0 : n < n' := by omega
          obtain ⟨x, hx⟩ : ∃ x, (wN bs n).getD o1 0 = x := ⟨_, rfl⟩
          obtain ⟨y, hy⟩ : ∃ x, (wN bs n).getD o14 0 = x := ⟨_, rfl⟩
          obtain ⟨p, hp0⟩ : ∃ x, (wN bs n).getD n 0 = x := ⟨_, rfl⟩
          obtain ⟨q, hq⟩ : ∃ x, (wN bs n).getD o9 0 = x := ⟨_, rfl⟩
          have ux : Hid (InU x) := Lib.hid (by rw [← hx]; exact wN_getD_inU _ _ _)
          have uy : Hid (InU y) := Lib.hid (by rw [← hy]; exact wN_getD_inU _ _ _)
          have wat : ∀ j, j < n' → (us (wN bs n))[j]? = some (.int .u64 ((wN bs n).getD j 0)) := fun j hj => us_at (by
            rw [List.getD_eq_getElem?_getD, List.getElem?_eq_getElem (by rw [wN_len]; omega)]; rfl)
          have c1 := hcell o1 _ (wat o1 b1)
          have c14 := hcell o14 _ (wat o14 b14)
          have c0 := hcell n _ (wat n b0)
          have c9 := hcell o9 _ (wat o9 b9)
          rw [hx] at c1
          rw [hy] at c14
          rw [hp0] at c0
          rw [hq] at c9
          have hw : Hid (wnext (wN bs n) = add (add (add p (sOf x)) q) (tOf y)) := Lib.hid (by
            unfold wnext
            rw [wN_len, show 16 + n - 16 = n by omega, show 16 + n - 15 = o1 by omega, show 16 + n - 7 = o9 by omega, show 16 + n - 2 = o14 by omega, hx, hy, hp0, hq])
          have HU := Lib.hid (And.intro hnx hwl)
          have HP := Lib.hid (And.intro hn2 hp)
          clear hx hy hp0 hq h1 h14 h9 hnx hwl hm hcell wat hrv hn hn2 hnw
          go_wp2_with fail
          go_quiet (fail)
          go_wp2_with fail
          refine (rV1 x ux.out _).mono ?_
          rintro e wq ⟨rfl, rfl⟩
          go_wp2_with fail
          refine (rV2 x ux.out _).mono ?_
          rintro e wq ⟨rfl, rfl⟩
          go_wp2_with fail
          refine (rW1 y uy.out _).mono ?_
          rintro e wq ⟨rfl, rfl⟩
          go_wp2_with fail
          refine (rW2 y uy.out _).mono ?_
          rintro e wq ⟨rfl, rfl⟩
          go_wp2_with fail
          refine wp_gen (fun W6 => (NxS (wN bs n) w (Value.slice (some { block := b7, off := o7 }) n' cap') W6 ∧ W6.cell? ⟨b7, o7 + n, none⟩ = some (.int .u64 p)) ∧ W6.cell? ⟨b7, o7 + o9, none⟩ = some (.int .u64 q)) ⟨⟨⟨HU.out.1.1.drewN _, HU.out.1.2.drewN _⟩, c0⟩, c9⟩ ?_
          clear c0 c9 c1 c14 hsz
          rintro W6 ⟨⟨hs6, c0⟩, c9⟩
          have HS6 := Lib.hid hs6
          have hsz := hs6.2.size
          clear hs6
          have i0 : (0 : Int) ≤ (n : Int) ∧ (n : Int) < (n' : Int) := by omega
          have i9 : (0 : Int) ≤ (o9 : Int) ∧ (o9 : Int) < (n' : Int) := by omega
          have h63 : (us (wN bs n)).length + 1 ≤ maxLen := by unfold maxLen; rw [HU.out.2]; have := HP.out.1; omega
          have hby : ((us (wN bs n)).length + 1) * 8 ≤ 140737488355328 := by rw [HU.out.2]; have := HP.out.1; omega
          have hb7 : b7 < W6.heap.size := World.block_lt_of_cell? W6 ⟨b7, o7 + n, none⟩ c0
          apply wp_region_g 17 (by kernel_rfl) (by kernel_rfl)
          simp only [List.take_succ_cons, List.take_zero, List.drop_succ_cons, List.drop_zero]
          apply lg_pure (.slice (some ⟨b7, o7, none⟩) n' cap') rfl (by intro W; go_simp)
          simp only [Act.put, List.setIfInBounds_toArray, List.set_cons_succ, List.set_cons_zero]
          apply lg_pure (.slice (some ⟨b7, o7, none⟩) n' cap') rfl (by intro W; go_simp)
          simp only [Act.put, List.setIfInBounds_toArray, List.set_cons_succ, List.set_cons_zero]
          apply lg_pure (.int .i64 (m : Int)) rfl (by intro W; go_simp)
          simp only [Act.put, List.setIfInBounds_toArray, List.set_cons_succ, List.set_cons_zero]
          apply lg_pure (.int .i64 (n : Int)) rfl (by intro W; go_simp)
          simp only [Act.put, List.setIfInBounds_toArray, List.set_cons_succ, List.set_cons_zero]
          apply lg_pure (.pointer (some ⟨b7, o7 + n, none⟩)) rfl (by intro W; go_simp)
          simp only [Act.put, List.setIfInBounds_toArray, List.set_cons_succ, List.set_cons_zero]
          apply lg_run (.int .u64 p) rfl (by intro W hW; have cW := (hW.cell (p := ⟨b7, o7 + n, none⟩) hb7).trans c0; go_simp)
          simp only [Act.put, List.setIfInBounds_toArray, List.set_cons_succ, List.set_cons_zero]
          apply lg_pure (.int .u64 (bits BinOp.xor IntKind.u64 (bits BinOp.xor IntKind.u64 (rotr x 1) (rotr x 8)) (x / 128))) rfl (by intro W; go_simp)
          simp only [Act.put, List.setIfInBounds_toArray, List.set_cons_succ, List.set_cons_zero]
          apply lg_pure (.int .u64 (add p (sOf x))) rfl (by intro W; go_simp; unfold add sOf; first | rfl | (rw [wrapU_eq]))
          simp only [Act.put, List.setIfInBounds_toArray, List.set_cons_succ, List.set_cons_zero]
          apply lg_pure (.slice (some ⟨b7, o7, none⟩) n' cap') rfl (by intro W; go_simp)
          simp only [Act.put, List.setIfInBounds_toArray, List.set_cons_succ, List.set_cons_zero]
          apply lg_pure (.int .i64 (m : Int)) rfl (by intro W; go_simp)
          simp only [Act.put, List.setIfInBounds_toArray, List.set_cons_succ, List.set_cons_zero]
          apply lg_pure (.int .i64 (o9 : Int)) rfl (by intro W; go_simp)
          simp only [Act.put, List.setIfInBounds_toArray, List.set_cons_succ, List.set_cons_zero]
          apply lg_pure (.pointer (some ⟨b7, o7 + o9, none⟩)) rfl (by intro W; go_simp)
          simp only [Act.put, List.setIfInBounds_toArray, List.set_cons_succ, List.set_cons_zero]
          apply lg_run (.int .u64 q) rfl (by intro W hW; have cW := (hW.cell (p := ⟨b7, o7 + o9, none⟩) hb7).trans c9; go_simp)
          simp only [Act.put, List.setIfInBounds_toArray, List.set_cons_succ, List.set_cons_zero]
          apply lg_pure (.int .u64 (add (add p (sOf x)) q)) rfl (by intro W; go_simp; first | rfl | (unfold add; simp only [wrapU_eq]))
          simp only [Act.put, List.setIfInBounds_toArray, List.set_cons_succ, List.set_cons_zero]
          apply lg_pure (.int .u64 (bits BinOp.xor IntKind.u64 (bits BinOp.xor IntKind.u64 (rotr y 19) (rotr y 61)) (y / 64))) rfl (by intro W; go_simp)
          simp only [Act.put, List.setIfInBounds_toArray, List.set_cons_succ, List.set_cons_zero]
          apply lg_pure (.int .u64 (wnext (wN bs n))) rfl (by intro W; rw [hw.out]; go_simp; first | rfl | (unfold add tOf; simp only [wrapU_eq]))
          simp only [Act.put, List.setIfInBounds_toArray, List.set_cons_succ, List.set_cons_zero]
          apply lg_allocV (fun g => .slice (some ⟨g, 0, none⟩) 1 1) (.cells #[.int .u64 (wnext (wN bs n))] 37 (0, 0)) (.cells #[.int .u64 (wnext (wN bs n))] 37 (0, 0)) rfl (by intro W; go_simp) (fun W => heap_alloc_new W _)
          intro gz hgz
          simp only [Act.put, List.setIfInBounds_toArray, List.set_cons_succ, List.set_cons_zero]
          refine lg_nil ?_
          intro w7 hC7
          have hgz2 := hC7.2 gz _ (show upd _ gz _ gz = some _ from if_pos rfl)
          have hnx7 : NxS (wN bs n) w (Value.slice (some { block := b7, off := o7 }) n' cap') w7 := ⟨HS6.out.1.below hC7.1 (Nat.le_refl _), HS6.out.2.then_ hC7.1⟩
          have hrv7 : RV w7 (some ⟨gz, 0, none⟩) [.int .u64 (wnext (wN bs n))] := RV.of_blk (show Blk w7 gz 37 [.int .u64 (wnext (wN bs n))] from hgz2.2)
          have hown := hnx7.1
          have hsz7 := hnx7.2.size
          have h1 := oneUs [wnext (wN bs n)]
          clear hC7 hgz2
          go_wp2_with (refine wpList_append_vs rfl (.tmp 80) (.tmp 96) 87 37 Tryd.underlying87 infoU rfl rfl w.heap.size _ _ rfl hown _ 1 1 _ rfl hrv7 (Lib.hid rfl) h1 h63 hby hsz7 ?_; intro v2 w2 o2 g2)
          have h2 := hnx7.step o2 g2
          have hmm := HM.out
          have hpp := HP.out
          exact ⟨⟨n + 1, m + 1, by omega, by omega, by go_num, h2⟩, by simp [intOf]; omega⟩
        · have hmm := HM.out
          obtain rfl : n = 64 := by omega
          obtain rfl : m = 80 := by omega
          have HK : Hid (NxK s bs w (some ⟨b7, o7, none⟩) As Ak wr) := Lib.hid ⟨hrv, HS.out.2.1.below hnx.2, HS.out.2.2.below hnx.2, hnx.2⟩
          obtain ⟨bS, oS, hAs, hbS, hcS⟩ := HK.out.2.1.some (show 0 < 8 by decide)
          have c0 := hcS 0 _ (show (us s.list)[0]? = some (.int .u64 s.a) from rfl)
          have c1 := hcS 1 _ (show (us s.list)[1]? = some (.int .u64 s.b) from rfl)
          have c2 := hcS 2 _ (show (us s.list)[2]? = some (.int .u64 s.c) from rfl)
          have c3 := hcS 3 _ (show (us s.list)[3]? = some (.int .u64 s.d) from rfl)
          have c4 := hcS 4 _ (show (us s.list)[4]? = some (.int .u64 s.e) from rfl)
          have c5 := hcS 5 _ (show (us s.list)[5]? = some (.int .u64 s.f) from rfl)
          have c6 := hcS 6 _ (show (us s.list)[6]? = some (.int .u64 s.g) from rfl)
          have c7 := hcS 7 _ (show (us s.list)[7]? = some (.int .u64 s.h) from rfl)
          rw [Nat.add_zero] at c0
          clear hcS hmm HM hm hcell hrv hnx hwl hnw hnn hsz
          subst hAs
          rw [show ((80 : Nat) : Int) = (80 : Int) from rfl]
          go_wp2_with fail
          go_quiet (fail)
          go_wp2_with fail
          go_loopw [16, 17, 18, 19, 20, 21, 22, 23, 24] (RelX s bs w (some ⟨b7, o7, none⟩) (some ⟨bS, oS, none⟩) Ak) (fun _ _ _ _ _ _ _ _ i _ => 80 - (intOf i).toNat)
          case atStart => exact ⟨0, s, by omega, rfl, (rfl : s = s), rfl, rfl, rfl, rfl, rfl, rfl, rfl, rfl, HK.out.drewN _⟩
          case round =>
            clear c0 c1 c2 c3 c4 c5 c6 c7 HK hbS hb7
            obtain ⟨k, t, hk, rfl, htk, rfl, rfl, rfl, rfl, rfl, rfl, rfl, rfl, hx⟩ := hrel
            by_cases hp : k < 80
            · have hiu := rnds_inU KS (wN bs 64) s HS.out.1 k
              rw [← htk.out] at hiu
              have UE := Lib.hid hiu.2.2.2.2.1
              have UA := Lib.hid hiu.1
              obtain ⟨kk, hkk⟩ : ∃ x, KS.getD k 0 = x := ⟨_, rfl⟩
              obtain ⟨ww, hww⟩ : ∃ x, (wN bs 64).getD k 0 = x := ⟨_, rfl⟩
              obtain ⟨bK, oK, hAk, hbK, ck⟩ := hx.2.2.1.at_ (us_at (KS_at k hp))
              rw [hkk] at ck
              obtain ⟨b8, o8, h8, hb8, cw⟩ := hx.1.at_ (us_at (show (wN bs 64)[k]? = some ww by rw [← hww, List.getD_eq_getElem?_getD, List.getElem?_eq_getElem (by rw [wN_len]; omega)]; rfl))
              injection h8 with h8; injection h8 with h81 h82
              subst h81; subst h82
              subst hAk
              have hst : Hid (rnds KS (wN bs 64) s (k + 1) = rnd kk ww t) := Lib.hid (by rw [htk.out]; show rnd _ _ _ = _; rw [hkk, hww])
              have HX := Lib.hid hx
              have i0 : (0 : Int) ≤ (k : Int) ∧ (k : Int) < 80 := by omega
              have i1 : k < n' := by have := HNW.out; omega
              clear hiu hkk hww hx
              go_wp2_with fail
              go_quiet ((go_at_call 98; exact Calls.quiet_of_eq (refE _ UE.out _)))
              have hpe : IntKind.u64.wrap (IntKind.u64.wrap (IntKind.u64.wrap (IntKind.u64.wrap (t.h + three t.e 14 18 41) + bits BinOp.xor IntKind.u64 (bits BinOp.and IntKind.u64 t.e t.f) (bits BinOp.and IntKind.u64 (bits BinOp.xor IntKind.u64 (if IntKind.u64.signed = true then -1 else IntKind.u64.max) t.e) t.g)) + kk) + ww) = pOf kk ww t := by
                unfold pOf add choose
                rw [show (if IntKind.u64.signed = true then -1 else IntKind.u64.max) = (18446744073709551615 : Int) from rfl]
              obtain ⟨pp, hpp⟩ : ∃ x, pOf kk ww t = x := ⟨_, rfl⟩
              rw [hpp] at hpe
              rw [hpe]
              have HPP := Lib.hid hpp
              clear hpe hpp cw ck
              go_wp2_with fail
              refine (refA _ UA.out _).mono ?_
              rintro e wq ⟨rfl, rfl⟩
              have e1 : IntKind.i64.wrap ((k : Int) + 1) = (k : Int) + 1 := IntWalk.i64_in _ (by omega)
              go_wp2_with fail
              refine ⟨⟨k + 1, rnd kk ww t, by omega, by go_num, Lib.hid hst.out.symm, ?_, rfl, rfl, rfl, ?_, rfl, rfl, rfl, HX.out.drewN _⟩, by simp [intOf]; omega⟩
              · congr 1
                show _ = add (pOf kk ww t) (qOf t)
                rw [HPP.out]
                unfold qOf add most
                rfl
              · congr 1
                show _ = add t.d (pOf kk ww t)
                rw [HPP.out]
                unfold add
                rfl
            · obtain rfl : k = 80 := by omega
              rw [show ((80 : Nat) : Int) = (80 : Int) from rfl]
              have hcomp : comp s bs = s.plus t := by unfold comp; rw [← htk.out]
              have HCP := Lib.hid hcomp
              obtain ⟨b8, o8, h8, hb8, hcS⟩ := hx.2.1.some (show 0 < 8 by decide)
              injection h8 with h8; injection h8 with h81 h82
              subst h81; subst h82
              have c0 := hcS 0 _ (show (us s.list)[0]? = some (.int .u64 s.a) from rfl)
              have c1 := hcS 1 _ (show (us s.list)[1]? = some (.int .u64 s.b) from rfl)
              have c2 := hcS 2 _ (show (us s.list)[2]? = some (.int .u64 s.c) from rfl)
              have c3 := hcS 3 _ (show (us s.list)[3]? = some (.int .u64 s.d) from rfl)
              have c4 := hcS 4 _ (show (us s.list)[4]? = some (.int .u64 s.e) from rfl)
              have c5 := hcS 5 _ (show (us s.list)[5]? = some (.int .u64 s.f) from rfl)
              have c6 := hcS 6 _ (show (us s.list)[6]? = some (.int .u64 s.g) from rfl)
              have c7 := hcS 7 _ (show (us s.list)[7]? = some (.int .u64 s.h) from rfl)
              rw [Nat.add_zero] at c0
              have HX := Lib.hid hx
              clear hcS hx hcomp
              go_wp2_with fail
              go_still_tail 40, (by kernel_rfl)
              change wpList _ _ _ _ _ wr.drew
              go_wp2_with fail
              have hres : us (comp s bs).list = [Value.int .u64 (IntKind.u64.wrap (s.a + t.a)), Value.int .u64 (IntKind.u64.wrap (s.b + t.b)), Value.int .u64 (IntKind.u64.wrap (s.c + t.c)), Value.int .u64 (IntKind.u64.wrap (s.d + t.d)), Value.int .u64 (IntKind.u64.wrap (s.e + t.e)), Value.int .u64 (IntKind.u64.wrap (s.f + t.f)), Value.int .u64 (IntKind.u64.wrap (s.g + t.g)), Value.int .u64 (IntKind.u64.wrap (s.h + t.h))] := by
                rw [HCP.out]
                rfl
              have HF := Lib.hid (And.intro ((RV.of_blk (Blk.new wr (us (comp s bs).list) 37)).drew) (((HX.out.2.2.2.alloc HX.out.2.2.2.size (.cells (us (comp s bs).list).toArray 37))).drewN 1))
              rw [hres] at HF
              go_ret
              rw [hres]
              exact ⟨_, rfl, HF.out.1, HF.out.2⟩
end Go.Proofs.YtkfdclnaaphdgaaDoor.Dh
namespace Go.Proofs.YtkfdclnaaphdgaaDoor.Dh
open Go.Proofs.YtkfdclnaaphdgaaDoor
open Go.ChangeShapes Go.WideShapes Go.ChangeAt Go.RowKit Go.IntWalk
set_option linter.unusedVariables false

/-- A part of a slice: 's[i:j]'. -/
theorem rb_part {w : World} {ba oa : Nat} {bs : List UInt8} (h : RB w (some ⟨ba, oa, none⟩) bs) (i m : Nat) (hi : i + m ≤ bs.length) (h0 : 0 < m) : RB w (some ⟨ba, oa + i, none⟩) ((bs.drop i).take m) := by
  have h2 := (h.cut i bs.length (by omega) (Nat.le_refl _)).take m
  rw [if_neg (by omega)] at h2
  have e : Option.map (fun x : Addr => x.add i) (some ⟨ba, oa, none⟩) = some ⟨ba, oa + i, none⟩ := by simp [Addr.add]
  rw [e] at h2
  exact h2
def OfS (bs : List UInt8) (w : World) (A : Option Addr) (Ak : Option Addr) (k : Nat) (v : Value) (wr : World) : Prop :=
  ∃ As cs, v = .slice As 8 cs ∧ RV wr As (us (stN (padded bs) k).list) ∧ RB wr A (padded bs) ∧ RV wr Ak (us KS) ∧ Below w.heap.size w wr
def OtS (bs : List UInt8) (w : World) (B : Nat) (As : Option Addr) (st : S8) (m : Nat) (v : Value) (wr : World) : Prop :=
  OwnBs B wr v ((digest bs).take m) ∧ RV wr As (us st.list) ∧ Below w.heap.size w wr ∧ B ≤ wr.heap.size
set_option maxRecDepth 100000 in
set_option maxHeartbeats 4000000 in
theorem refOf_calls (bs : List UInt8) (hb : bs.length < 2 ^ 30) (A : Option Addr) (n c : Nat) (hn : Hid (n = bs.length)) (w : World) (hr : RB w A bs) :
    Calls Tryd.prog 48 #[.slice A n c] w fun e w' => e = .returned (.string ⟨(digest bs).toArray⟩) ∧ Below w.heap.size w w' := by
  have HS1 : Hid (RV (w.alloc (.cells (us initS.list).toArray 37)) (some ⟨w.heap.size, 0, none⟩) (us initS.list) ∧ RB (w.alloc (.cells (us initS.list).toArray 37)) A bs) :=
    Lib.hid ⟨RV.of_blk (Blk.new w (us initS.list) _), hr.below ((Below.refl _ _).alloc (Nat.le_refl _) _)⟩
  clear hr
  go_enter Tryd.func48, Tryd.ntmps48
  go_wp2_with fail
  refine (padded_calls bs hb A n c hn _ HS1.out.2).mono ?_
  rintro e w2 ⟨A2, n2, c2, rfl, hr2, hn2, hc2, b2⟩
  have hs2 := HS1.out.1.below b2
  have bw2 : Below w.heap.size w w2 := Below.of_alloc b2
  have H2 := Lib.hid (And.intro hs2 (And.intro hr2 bw2))
  clear hs2 hr2 b2 bw2
  go_wp2_with fail
  refine (numbers_calls _).mono ?_
  rintro e w3 ⟨rfl, hk3, b3⟩
  have H3 : Hid (OfS bs w A2 (some ⟨w2.heap.size, 0, none⟩) 0 (.slice (some ⟨w.heap.size, 0, none⟩) 8 8) w3) := Lib.hid ⟨_, _, rfl, H2.out.1.below b3, H2.out.2.1.below b3, hk3, H2.out.2.2.then_ b3⟩
  obtain ⟨KB, hKB⟩ : ∃ x, w2.heap.size = x := ⟨_, rfl⟩
  rw [hKB] at H3 ⊢
  have hpl := padded_len bs
  have hp0 : 128 ≤ (padded bs).length := by have : 0 < (padded bs).length := by { unfold padded; simp; omega }; omega
  have hpb : (padded bs).length < 2 ^ 31 := by unfold padded gap; simp [tailF_len]; omega
  have hra : RB w3 A2 (padded bs) := by obtain ⟨_, _, _, _, h, _⟩ := H3.out; exact h
  obtain ⟨ba, oa, rfl, _⟩ := hra.some (by omega)
  obtain ⟨N, hN⟩ : ∃ N, (padded bs).length / 128 = N := ⟨_, rfl⟩
  have hNl : n2 = 128 * N := by rw [hn2.out]; omega
  have HNL := Lib.hid (And.intro hN hNl)
  have hnb : n2 < 2 ^ 31 := by rw [hn2.out]; exact hpb
  clear hra hk3 b3 hKB H2 hpl hp0 hN hNl hpb
  go_wp2_with fail
  go_loopw [3, 6] (fun v i wr => ∃ k i0 : Nat, k ≤ N ∧ i0 = 128 * k ∧ i = .int .i64 (i0 : Int) ∧ OfS bs w (some ⟨ba, oa, none⟩) (some ⟨KB, 0, none⟩) k v wr) (fun _ i _ => 128 * N - (intOf i).toNat)
  case atStart => exact ⟨0, 0, by omega, rfl, rfl, H3.out⟩
  case round =>
    clear H3
    obtain ⟨k, i0, hk, hi0, rfl, As, cs, rfl, hrs, hra, hrk, hbw⟩ := hrel
    have hNl := HNL.out.2
    by_cases hp : k < N
    · have hlt : i0 < n2 := by omega
      have hd : decide ((i0 : Int) < (n2 : Int)) = true := by simp; omega
      have e64 : IntKind.i64.wrap ((i0 : Int) + 128) = (i0 : Int) + 128 := IntWalk.i64_in _ (by omega)
      have hle : i0 + 128 ≤ n2 ∧ n2 ≤ c2 := by omega
      have hrp := rb_part hra i0 128 (by rw [← hn2.out]; omega) (by decide)
      have hlp : (((padded bs).drop i0).take 128).length = 128 := by rw [List.length_take, List.length_drop, ← hn2.out]; omega
      have H4 := Lib.hid (And.intro (And.intro hrs hra) (And.intro hrk (And.intro hbw (And.intro hrp hlp))))
      have HI := Lib.hid (And.intro hi0 (And.intro hp hk))
      clear hrs hra hrk hbw hrp hlp hi0 hp hk hNl
      go_wp2_with fail
      refine (next_calls (stN (padded bs) k) (stN_inU _ _) _ H4.out.2.2.2.2 As _ _ cs _ _ wr H4.out.1.1 H4.out.2.2.2.1 H4.out.2.1).mono ?_
      rintro e w5 ⟨g, rfl, hs5, b5⟩
      have H5 : Hid (OfS bs w (some ⟨ba, oa, none⟩) (some ⟨KB, 0, none⟩) (k + 1) (.slice (some ⟨g, 0, none⟩) 8 8) w5) := Lib.hid ⟨_, _, rfl, by rw [show stN (padded bs) (k + 1) = comp (stN (padded bs) k) (((padded bs).drop (128 * k)).take 128) from rfl, ← HI.out.1]; exact hs5, H4.out.1.2.below b5, H4.out.2.1.below b5, H4.out.2.2.1.then_ b5⟩
      clear hs5 b5 H4
      go_wp2_with fail
      have hi := HI.out
      have hNl := HNL.out.2
      exact ⟨⟨k + 1, i0 + 128, by omega, by omega, by go_num, H5.out⟩, by simp [intOf]; omega⟩
    · obtain rfl : k = N := by omega
      have hin : i0 = n2 := by omega
      obtain ⟨st, hst⟩ : ∃ s, stN (padded bs) k = s := ⟨_, rfl⟩
      rw [hst] at hrs
      have hdg : Hid (digest bs = st.list.flatMap bytesW) := Lib.hid (by unfold digest; rw [HNL.out.1, hst])
      have HST : Hid st.InU := Lib.hid (by rw [← hst]; exact stN_inU _ _)
      obtain ⟨bS, oS, hAs, hbS, hcS⟩ := hrs.some (show 0 < 8 by decide)
      subst hAs
      subst hin
      have H6 := Lib.hid (And.intro hrs hbw)
      obtain ⟨B, hB⟩ : ∃ B, wr.heap.size = B := ⟨_, rfl⟩
      have HWB : Hid (w.heap.size ≤ B ∧ B ≤ wr.heap.size) := Lib.hid ⟨by rw [← hB]; exact hbw.size, by rw [hB]; exact Nat.le_refl _⟩
      rw [hB] at hbS
      clear hB
      clear hrs hra hrk hbw hst hp hk hi0 hNl hcS
      go_wp2_with fail
      go_loopw [7, 31] (fun v i wr => ∃ k : Nat, k ≤ 8 ∧ i = .int .i64 (k : Int) ∧ OtS bs w B (some ⟨bS, oS, none⟩) st (8 * k) v wr) (fun _ i _ => 8 - (intOf i).toNat)
      case atStart => exact ⟨0, by omega, rfl, OwnBs.nil _ _, H6.out.1, H6.out.2, HWB.out.2⟩
      case round =>
        clear H6
        obtain ⟨j, hj, rfl, ho, hrs, hbw, hBw⟩ := hrel
        by_cases hp : j < 8
        · obtain ⟨x, hx⟩ : ∃ x, st.list.getD j 0 = x := ⟨_, rfl⟩
          obtain ⟨b8, o8, h8, hb8, cw⟩ := hrs.at_ (us_at (list_at st j hp))
          injection h8 with h8; injection h8 with h81 h82
          subst h81; subst h82
          rw [hx] at cw
          have HX0 : Hid (0 ≤ x) := Lib.hid (by rw [← hx]; exact list_nonneg st HST.out j)
          have HXX := Lib.hid hx
          have HO := Lib.hid (And.intro ho (And.intro hrs (And.intro hbw hBw)))
          clear ho hrs hbw hBw hx
          go_wp2_with fail
          clear cw
          go_loopw [7, 10] (fun v i wr => ∃ (m : Nat) (z : Int), m ≤ 8 ∧ z = 7 - (m : Int) ∧ i = .int .i64 z ∧ OtS bs w B (some ⟨bS, oS, none⟩) st (8 * j + m) v wr) (fun _ i _ => (intOf i + 1).toNat)
          case atStart => exact ⟨0, 7, by omega, by omega, rfl, HO.out⟩
          case round =>
            clear HO
            obtain ⟨m, z, hm, hz, rfl, ho, hrs, hbw, hBw⟩ := hrel
            by_cases hq : m < 8
            · obtain ⟨y, hy⟩ : ∃ y : Nat, 7 - m = y := ⟨_, rfl⟩
              obtain rfl : z = (y : Int) := by omega
              have hd := digest_at bs st j m x hdg.out HXX.out hp hq
              have hcv := byte_val x (8 * y) HX0.out
              rw [show 56 - 8 * m = 8 * y by omega] at hd
              obtain ⟨c0, hc0⟩ : ∃ c, UInt8.ofNat ((x / 2 ^ (8 * y)).toNat % 256) = c := ⟨_, rfl⟩
              rw [hc0] at hcv hd
              have htk : (digest bs).take (8 * j + (m + 1)) = (digest bs).take (8 * j + m) ++ [c0] := by
                rw [show 8 * j + (m + 1) = 8 * j + m + 1 by omega, List.take_add_one, hd]; rfl
              have HTK := Lib.hid htk
              have HZ := Lib.hid (And.intro hm (And.intro hq (And.intro hz hy)))
              have hlen : ((digest bs).take (8 * j + m)).length ≤ 70368744177664 := by rw [List.length_take, digest_len]; omega
              have hsz := hBw
              have hy0 : y ≤ 7 := by omega
              clear htk hm hq hz hy hd hc0
              go_wp2_with (refine wpList_append_u8 rfl (.tmp 39) (.tmp 46) rfl B _ _ rfl ho c0 rfl rfl hlen hsz ?_; intro v2 w2 o2 g2)
              rw [← HTK.out] at o2
              have b2 : Below w.heap.size w w2 := hbw.grown g2 hbw.size (fun k hk => by have := (ho.lt k hk).1; have := HWB.out.1; omega)
              have hr2 : RV w2 (some ⟨bS, oS, none⟩) (us st.list) := hrs.kept g2 (fun b o h => by
                injection h with h; injection h with h1 h2
                intro e
                have := (ho.lt b e.symm).1
                omega)
              have hB2 : B ≤ w2.heap.size := Nat.le_trans hBw g2.size
              have hz := HZ.out
              refine ⟨⟨m + 1, (y : Int) - 1, by omega, by omega, rfl, o2, hr2, b2, hB2⟩, by simp [intOf]⟩
            · obtain rfl : m = 8 := by omega
              obtain rfl : z = -1 := by omega
              rw [show 8 * j + 8 = 8 * (j + 1) by omega] at ho
              have HO : Hid (OtS bs w B (some ⟨bS, oS, none⟩) st (8 * (j + 1)) _ wr) := Lib.hid ⟨ho, hrs, hbw, hBw⟩
              clear ho hrs hbw hz
              go_wp2_with fail
              exact ⟨⟨j + 1, by omega, by go_num, HO.out⟩, by simp [intOf]; omega⟩
        · obtain rfl : j = 8 := by omega
          rw [show ((8 : Nat) : Int) = (8 : Int) from rfl]
          rw [List.take_of_length_le (by rw [digest_len]; omega)] at ho
          obtain ⟨A3, n3, c3, rfl, hr3, hn3⟩ := ho.form
          have hcv := run_str_rb wr A3 n3 c3 _ hr3 hn3
          have HB := Lib.hid hbw
          clear ho hrs hbw hr3
          go_wp2_with fail
          go_ret
          exact ⟨rfl, HB.out⟩
end Go.Proofs.YtkfdclnaaphdgaaDoor.Dh
