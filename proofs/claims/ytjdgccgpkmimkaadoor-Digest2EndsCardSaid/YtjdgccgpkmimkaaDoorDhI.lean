/- Layer 3: the document's padding, walked. -/
import Derived.Test.YtjdgccgpkmimkaaDoorDhB
import Derived.Test.YtjdgccgpkmimkaaDoorOwn
import Derived.Test.YtjdgccgpkmimkaaDoorStr
namespace Go.Proofs.YtjdgccgpkmimkaaDoor
open Go.ChangeShapes Go.WideShapes Go.ChangeAt Go.RowKit Go.IntWalk
set_option linter.unusedVariables false

def tailS (n k : Nat) : List UInt8 := (tailF n).drop (16 - k)
theorem tailS_len (n k : Nat) (h : k ≤ 16) : (tailS n k).length = k := by simp [tailS, tailF_len]; omega
theorem tailS_zero (n : Nat) : tailS n 0 = [] := by unfold tailS; exact List.drop_of_length_le (by rw [tailF_len]; omega)
theorem tailS_full (n : Nat) : tailS n 16 = tailF n := by simp [tailS]
theorem tailS_step (n k : Nat) (h : k < 16) : tailS n (k + 1) = [UInt8.ofNat (8 * n / 256 ^ k % 256)] ++ tailS n k := by
  unfold tailS
  have hl : 16 - (k + 1) < (tailF n).length := by rw [tailF_len]; omega
  rw [List.drop_eq_getElem_cons hl, show 16 - (k + 1) + 1 = 16 - k by omega]
  simp only [tailF, List.getElem_map, List.getElem_range, List.singleton_append, show 15 - (16 - (k + 1)) = k by omega]
def remN (n k : Nat) : Nat := if k = 0 then n else 8 * n / 256 ^ k
theorem remN_zero (n : Nat) : remN n 0 = n := rfl
theorem remN_one (n : Nat) : remN n 1 = n / 32 := by unfold remN; rw [if_neg (by omega)]; omega
theorem remN_succ (n k : Nat) (h : 0 < k) : remN n (k + 1) = remN n k / 256 := by
  unfold remN
  rw [if_neg (by omega), if_neg (by omega), Nat.pow_succ, Nat.div_div_eq_div_mul]
theorem remN_byte (n k : Nat) (h : 0 < k) : 8 * n / 256 ^ k % 256 = remN n k % 256 := by unfold remN; rw [if_neg (by omega)]
theorem remN_le (n k : Nat) : remN n k ≤ 8 * n := by unfold remN; split; omega; exact Nat.div_le_self _ _
def midP (bs : List UInt8) (j : Nat) : List UInt8 := bs ++ 128 :: List.replicate j 0
theorem midP_len (bs : List UInt8) (j : Nat) : (midP bs j).length = bs.length + 1 + j := by simp [midP]; omega
theorem midP_step (bs : List UInt8) (j : Nat) : midP bs j ++ [0] = midP bs (j + 1) := by simp [midP, List.replicate_succ']
theorem u8n (m : Nat) (h : m < 256) : (m : Int) = ((UInt8.ofNat m).toNat : Int) := by simp; omega
theorem OwnVs.formBs {base : Nat} {w : World} {v : Value} {bs : List UInt8} (h : OwnBs base w v bs) : ∃ A n cap, v = .slice A n cap ∧ RB w A bs ∧ Hid (n = bs.length) ∧ n ≤ cap := by
  obtain ⟨A, n, cap, hv, hr, hn⟩ := h.form
  refine ⟨A, n, cap, hv, hr, hn, ?_⟩
  rcases h.2 with ⟨h2, h0⟩ | ⟨g, c, cur, h2, _, _, hnc, _⟩
  · rw [hv] at h2; injection h2 with _ h3 h4; omega
  · rw [hv] at h2; injection h2 with _ h3 h4; omega
def PadS (bs : List UInt8) (w : World) (j : Nat) (v : Value) (wr : World) : Prop := OwnBs w.heap.size wr v (midP bs j) ∧ Below w.heap.size w wr
def TailS (bs : List UInt8) (w : World) (B : Nat) (k : Nat) (v : Value) (wr : World) : Prop := OwnBs B wr v (tailS bs.length k) ∧ Below w.heap.size w wr
set_option maxRecDepth 100000 in
set_option maxHeartbeats 4000000 in
theorem padded_calls (bs : List UInt8) (hb : bs.length < 2 ^ 30) (A : Option Addr) (n c : Nat) (hn : Hid (n = bs.length)) (w : World) (hr : RB w A bs) :
    Calls Tryd.prog 13 #[.slice A n c] w fun e w' => ∃ A' n' c', e = .returned (.slice A' n' c') ∧ RB w' A' (padded bs) ∧ Hid (n' = (padded bs).length) ∧ n' ≤ c' ∧ Below w.heap.size w w' := by
  have h0 : OwnBs w.heap.size (w.alloc (.cells #[] 5)) (.slice (some ⟨w.heap.size, 0, none⟩) 0 0) [] := OwnBs.made w.heap.size w #[] 0 (Nat.le_refl _) (by unfold maxLen; omega) rfl
  have b0 : Below w.heap.size w (w.alloc (.cells #[] 5)) := (Below.refl _ _).alloc (Nat.le_refl _) _
  have r0 := hr.below b0
  clear hr
  go_enter Tryd.func13, Tryd.ntmps13
  have hlb : bs.length ≤ 70368744177664 := by omega
  have hlc : ([] : List UInt8).length + n ≤ 70368744177664 := by rw [hn.out]; simp; omega
  have hw0 : w.heap.size ≤ (w.alloc (.cells #[] 5)).heap.size := b0.size
  go_wp2_with (first
    | (refine wpList_append_rb rfl (.tmp 7) (.tmp 8) rfl w.heap.size _ _ rfl h0 A n c bs rfl r0 hn hlc hw0 ?_; intro v1 w1 o1 g1; rw [List.nil_append] at o1; have b1 : Below w.heap.size w w1 := b0.grown g1 hw0 (fun k hk => (h0.lt k hk).1); have hw1 := b1.size)
    | (refine wpList_append_u8 rfl (.tmp 9) (.tmp 10) rfl w.heap.size _ _ rfl o1 128 rfl rfl hlb hw1 ?_; intro v2 w2 o2 g2))
  have b2 : Below w.heap.size w w2 := b1.grown g2 hw1 (fun k hk => (o1.lt k hk).1)
  have H2 : Hid (PadS bs w 0 v2 w2) := Lib.hid ⟨o2, b2⟩
  clear o1 b1 hw1 g2 o2 b2 hlb hlc hw0 h0 b0 r0 g1
  go_loopw [3] (fun v wr => ∃ j : Nat, j ≤ gap bs.length - 1 ∧ PadS bs w j v wr) (fun v _ => bs.length + 128 + 1 - (match v with | .slice _ n _ => n | _ => 0))
  case atStart => exact ⟨0, by omega, H2.out⟩
  case round =>
    clear H2
    obtain ⟨j, hj, hown, hbw⟩ := hrel
    have hsz := hbw.size
    obtain ⟨A', n', cap', rfl, hrb, hn'⟩ := hown.form
    have hn2 := hn'.out
    rw [midP_len] at hn2
    have hgp : gap bs.length = 128 - (bs.length + 16) % 128 := rfl
    have HG := Lib.hid hgp
    by_cases hp : j < gap bs.length - 1
    · have ht : ((n' : Int) % 128 != 112) = true := bne_iff_ne.2 (by omega)
      have hlm : (midP bs j).length ≤ 70368744177664 := by rw [midP_len]; omega
      have HJ := Lib.hid (And.intro hj hp)
      have HN2 := Lib.hid hn2
      clear hj hp hgp hn2 hrb
      go_wp2_with (refine wpList_append_u8 rfl (.tmp 16) (.tmp 17) rfl w.heap.size _ _ rfl hown 0 rfl rfl hlm hsz ?_; intro v2 w2 o2 g2)
      have b2 : Below w.heap.size w w2 := hbw.grown g2 hsz (fun k hk => (hown.lt k hk).1)
      rw [midP_step] at o2
      obtain ⟨A2, n2, c2, rfl, _, hn3⟩ := o2.form
      refine ⟨⟨j + 1, by have := HJ.out.2; omega, o2, b2⟩, ?_⟩
      have h1 := HN2.out
      have h2 := hn3.out
      rw [midP_len] at h2
      have h3 := HJ.out.2
      have h4 := HG.out
      show bs.length + 128 + 1 - n2 < bs.length + 128 + 1 - n'
      omega
    · obtain rfl : j = gap bs.length - 1 := by omega
      have ht : ((n' : Int) % 128 != 112) = false := by rw [show (n' : Int) % 128 = 112 by omega]; rfl
      obtain ⟨wo, hwo⟩ : ∃ wo, wo = wr := ⟨_, rfl⟩
      rw [← hwo] at hown hbw hsz
      have HO := Lib.hid (And.intro hown hbw)
      have HLN := Lib.hid hn2
      clear hown hbw hrb hn2 hgp hp hj
      go_wp2_with fail
      rw [← hwo]
      go_loopw [4, 5, 6] (fun m v i wi => ∃ k : Nat, k ≤ 16 ∧ m = .int .i64 ((remN bs.length k : Nat) : Int) ∧ i = .int .i64 (k : Int) ∧ OwnBs wo.heap.size wi v (tailS bs.length k) ∧ Below wo.heap.size wo wi) (fun _ _ i _ => 16 - (intOf i).toNat)
      case atStart => exact ⟨0, by omega, by rw [remN_zero, hn.out], rfl, by rw [tailS_zero]; exact OwnBs.nil _ _, Below.refl _ _⟩
      case round =>
        obtain ⟨k, hk, rfl, rfl, hot, hbt⟩ := hrel
        have hst := hbt.size
        obtain ⟨q, hq⟩ : ∃ q, remN bs.length k = q := ⟨_, rfl⟩
        rw [hq]
        have hqb : q < 1099511627776 := by have := remN_le bs.length k; omega
        obtain ⟨At, nt, ct, rfl, hrt, hnt⟩ := hot.form
        by_cases hp : k < 16
        · obtain ⟨c0, hc0⟩ : ∃ c, UInt8.ofNat (8 * bs.length / 256 ^ k % 256) = c := ⟨_, rfl⟩
          have hts := tailS_step bs.length k hp
          rw [hc0] at hts
          have hcv : ((8 * bs.length / 256 ^ k % 256 : Nat) : Int) = (c0.toNat : Int) := by rw [← hc0]; exact u8n _ (Nat.mod_lt _ (by decide))
          have hlen : ([c0] : List UInt8).length + nt ≤ 70368744177664 := by rw [hnt.out, tailS_len _ _ hk]; simp; omega
          have hcap : 1 ≤ maxLen := by unfold maxLen; omega
          have hbase : wo.heap.size ≤ (wr.alloc (.cells #[.int .u8 (c0.toNat : Int)] 5)).heap.size := by simp; omega
          have h1 : OwnBs wo.heap.size (wr.alloc (.cells #[.int .u8 (c0.toNat : Int)] 5)) (.slice (some ⟨wr.heap.size, 0, none⟩) 1 1) [c0] :=
            BlkBs.own (show BlkBs (wr.alloc (.cells #[.int .u8 (c0.toNat : Int)] 5)) wr.heap.size [c0] from heap_alloc_new wr _) hst rfl hcap
          have bt1 : Below wo.heap.size wo (wr.alloc (.cells #[.int .u8 (c0.toNat : Int)] 5)) := hbt.alloc hst _
          have rt1 := hrt.below ((Below.refl _ _).alloc (Nat.le_refl _) (.cells #[.int .u8 (c0.toNat : Int)] 5))
          have HTS := Lib.hid hts
          have HOT := Lib.hid hot
          clear hts hc0 hot hrt hn'
          have e1 : IntKind.i64.wrap ((k : Int) + 1) = (k : Int) + 1 := IntWalk.i64_in _ (by omega)
          by_cases h0 : k = 0
          · subst h0
            have hq1 : (q : Int) % 32 * 8 = (c0.toNat : Int) := by rw [← hcv, ← hq, remN_zero]; omega
            have HQ : Hid (((remN bs.length 1 : Nat) : Int) = (q : Int) / 32) := Lib.hid (by rw [← hq, remN_one, remN_zero]; omega)
            rw [← hq1] at h1 bt1 rt1 hbase
            clear hq hcv hq1
            go_wp2_with (refine wpList_append_rb rfl (.tmp 31) (.tmp 32) rfl wo.heap.size _ _ rfl h1 At nt ct _ rfl rt1 hnt hlen hbase ?_; intro v3 w3 o3 g3)
            have b3 : Below wo.heap.size wo w3 := bt1.grown g3 hbase (fun k hk => (h1.lt k hk).1)
            rw [← HTS.out] at o3
            exact ⟨⟨1, by omega, by rw [HQ.out], rfl, o3, b3⟩, by simp [intOf]⟩
          · have hd : ((k : Int) == 0) = false := by simp; omega
            have hq1 : (q : Int) % 256 = (c0.toNat : Int) := by rw [← hcv, remN_byte _ _ (by omega), hq]; omega
            have HQ : Hid (((remN bs.length (k + 1) : Nat) : Int) = (q : Int) / 256) := Lib.hid (by rw [remN_succ _ _ (by omega), hq]; omega)
            rw [← hq1] at h1 bt1 rt1 hbase
            clear hq hcv hq1
            go_wp2_with (refine wpList_append_rb rfl (.tmp 39) (.tmp 40) rfl wo.heap.size _ _ rfl h1 At nt ct _ rfl rt1 hnt hlen hbase ?_; intro v3 w3 o3 g3)
            have b3 : Below wo.heap.size wo w3 := bt1.grown g3 hbase (fun k hk => (h1.lt k hk).1)
            rw [← HTS.out] at o3
            exact ⟨⟨k + 1, by omega, by rw [HQ.out], by go_num, o3, b3⟩, by simp [intOf]; omega⟩
        · obtain rfl : k = 16 := by omega
          rw [tailS_full] at hrt hnt
          have ho1 : OwnBs w.heap.size wr (.slice A' n' cap') (midP bs (gap bs.length - 1)) := HO.out.1.below hbt (Nat.le_refl _)
          have hb1 : Below w.heap.size w wr := HO.out.2.trans (hbt.mono hsz)
          have hlm : (midP bs (gap bs.length - 1)).length + nt ≤ 70368744177664 := by rw [hnt.out, tailF_len, midP_len]; unfold gap; omega
          have hs1 := hb1.size
          clear hot hq
          go_wp2_with (refine wpList_append_rb rfl (.tmp 44) (.tmp 45) rfl w.heap.size _ _ rfl ho1 At nt ct _ rfl hrt hnt hlm hs1 ?_; intro v3 w3 o3 g3)
          have b3 : Below w.heap.size w w3 := hb1.grown g3 hs1 (fun k hk => (ho1.lt k hk).1)
          obtain ⟨A3, n3, c3, rfl, hr3, hn3, hc3⟩ := OwnVs.formBs o3
          have hpd : midP bs (gap bs.length - 1) ++ tailF bs.length = padded bs := rfl
          rw [hpd] at hr3 hn3
          have HR3 := Lib.hid (And.intro hr3 b3)
          go_ret
          exact ⟨A3, n3, c3, rfl, HR3.out.1, hn3, hc3, HR3.out.2⟩
end Go.Proofs.YtjdgccgpkmimkaaDoor
