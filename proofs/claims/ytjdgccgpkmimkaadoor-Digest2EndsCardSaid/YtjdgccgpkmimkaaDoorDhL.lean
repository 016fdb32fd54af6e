/- Layer 3: the document's digest, walked. -/
import Derived.Test.YtjdgccgpkmimkaaDoorDhK
import Derived.Test.YtjdgccgpkmimkaaDoorDhI
import Derived.Test.YtjdgccgpkmimkaaDoorDhH
namespace Go.Proofs.YtjdgccgpkmimkaaDoor
open Go.ChangeShapes Go.WideShapes Go.ChangeAt Go.RowKit Go.IntWalk
set_option linter.unusedVariables false

/-- A part of a slice: 's[i:j]'. -/
theorem rb_part {w : World} {ba oa : Nat} {bs : List UInt8} (h : RB w (some ⟨ba, oa, none⟩) bs) (i m : Nat) (hi : i + m ≤ bs.length) (h0 : 0 < m) : RB w (some ⟨ba, oa + i, none⟩) ((bs.drop i).take m) := by
  have h2 := (h.cut i bs.length (by omega) (Nat.le_refl _)).take m
  rw [if_neg (by omega)] at h2
  have e : Option.map (fun x : Addr => x.add i) (some ⟨ba, oa, none⟩) = some ⟨ba, oa + i, none⟩ := by simp [Addr.add]
  rw [e] at h2
  exact h2
def OfS (bs : List UInt8) (w : World) (A : Option Addr) (Ak : Option Addr) (k : Nat) (v : Value) (wr : World) : Prop :=
  ∃ As cs, v = .slice As 8 cs ∧ RV wr As (us (stN (padded bs) k).list) ∧ RB wr A (padded bs) ∧ RV wr Ak (us KS) ∧ Below w.heap.size w wr
def OtS (bs : List UInt8) (w : World) (B : Nat) (As : Option Addr) (st : S8) (m : Nat) (v : Value) (wr : World) : Prop :=
  OwnBs B wr v ((digest bs).take m) ∧ RV wr As (us st.list) ∧ Below w.heap.size w wr ∧ B ≤ wr.heap.size
set_option maxRecDepth 100000 in
set_option maxHeartbeats 4000000 in
theorem refOf_calls (bs : List UInt8) (hb : bs.length < 2 ^ 30) (A : Option Addr) (n c : Nat) (hn : Hid (n = bs.length)) (w : World) (hr : RB w A bs) :
    Calls Tryd.prog 9 #[.slice A n c] w fun e w' => e = .returned (.string ⟨(digest bs).toArray⟩) ∧ Below w.heap.size w w' := by
  have HS1 : Hid (RV (w.alloc (.cells (us initS.list).toArray 36)) (some ⟨w.heap.size, 0, none⟩) (us initS.list) ∧ RB (w.alloc (.cells (us initS.list).toArray 36)) A bs) :=
    Lib.hid ⟨RV.of_blk (Blk.new w (us initS.list) _), hr.below ((Below.refl _ _).alloc (Nat.le_refl _) _)⟩
  clear hr
  go_enter Tryd.func9, Tryd.ntmps9
  go_wp2_with fail
  refine (padded_calls bs hb A n c hn _ HS1.out.2).mono ?_
  rintro e w2 ⟨A2, n2, c2, rfl, hr2, hn2, hc2, b2⟩
  have hs2 := HS1.out.1.below b2
  have bw2 : Below w.heap.size w w2 := Below.of_alloc b2
  have H2 := Lib.hid (And.intro hs2 (And.intro hr2 bw2))
  clear hs2 hr2 b2 bw2
  go_wp2_with fail
  refine (numbers_calls _).mono ?_
  rintro e w3 ⟨rfl, hk3, b3⟩
  have H3 : Hid (OfS bs w A2 (some ⟨w2.heap.size, 0, none⟩) 0 (.slice (some ⟨w.heap.size, 0, none⟩) 8 8) w3) := Lib.hid ⟨_, _, rfl, H2.out.1.below b3, H2.out.2.1.below b3, hk3, H2.out.2.2.then_ b3⟩
  obtain ⟨KB, hKB⟩ : ∃ x, w2.heap.size = x := ⟨_, rfl⟩
  rw [hKB] at H3 ⊢
  have hpl := padded_len bs
  have hp0 : 128 ≤ (padded bs).length := by have : 0 < (padded bs).length := by { unfold padded; simp; omega }; omega
  have hpb : (padded bs).length < 2 ^ 31 := by unfold padded gap; simp [tailF_len]; omega
  have hra : RB w3 A2 (padded bs) := by obtain ⟨_, _, _, _, h, _⟩ := H3.out; exact h
  obtain ⟨ba, oa, rfl, _⟩ := hra.some (by omega)
  obtain ⟨N, hN⟩ : ∃ N, (padded bs).length / 128 = N := ⟨_, rfl⟩
  have hNl : n2 = 128 * N := by rw [hn2.out]; omega
  have HNL := Lib.hid (And.intro hN hNl)
  have hnb : n2 < 2 ^ 31 := by rw [hn2.out]; exact hpb
  clear hra hk3 b3 hKB H2 hpl hp0 hN hNl hpb
  go_wp2_with fail
  go_loopw [3, 6] (fun v i wr => ∃ k i0 : Nat, k ≤ N ∧ i0 = 128 * k ∧ i = .int .i64 (i0 : Int) ∧ OfS bs w (some ⟨ba, oa, none⟩) (some ⟨KB, 0, none⟩) k v wr) (fun _ i _ => 128 * N - (intOf i).toNat)
  case atStart => exact ⟨0, 0, by omega, rfl, rfl, H3.out⟩
  case round =>
    clear H3
    obtain ⟨k, i0, hk, hi0, rfl, As, cs, rfl, hrs, hra, hrk, hbw⟩ := hrel
    have hNl := HNL.out.2
    by_cases hp : k < N
    · have hlt : i0 < n2 := by omega
      have hd : decide ((i0 : Int) < (n2 : Int)) = true := by simp; omega
      have e64 : IntKind.i64.wrap ((i0 : Int) + 128) = (i0 : Int) + 128 := IntWalk.i64_in _ (by omega)
      have hle : i0 + 128 ≤ n2 ∧ n2 ≤ c2 := by omega
      have hrp := rb_part hra i0 128 (by rw [← hn2.out]; omega) (by decide)
      have hlp : (((padded bs).drop i0).take 128).length = 128 := by rw [List.length_take, List.length_drop, ← hn2.out]; omega
      have H4 := Lib.hid (And.intro (And.intro hrs hra) (And.intro hrk (And.intro hbw (And.intro hrp hlp))))
      have HI := Lib.hid (And.intro hi0 (And.intro hp hk))
      clear hrs hra hrk hbw hrp hlp hi0 hp hk hNl
      go_wp2_with fail
      refine (next_calls (stN (padded bs) k) (stN_inU _ _) _ H4.out.2.2.2.2 As _ _ cs _ _ wr H4.out.1.1 H4.out.2.2.2.1 H4.out.2.1).mono ?_
      rintro e w5 ⟨g, rfl, hs5, b5⟩
      have H5 : Hid (OfS bs w (some ⟨ba, oa, none⟩) (some ⟨KB, 0, none⟩) (k + 1) (.slice (some ⟨g, 0, none⟩) 8 8) w5) := Lib.hid ⟨_, _, rfl, by rw [show stN (padded bs) (k + 1) = comp (stN (padded bs) k) (((padded bs).drop (128 * k)).take 128) from rfl, ← HI.out.1]; exact hs5, H4.out.1.2.below b5, H4.out.2.1.below b5, H4.out.2.2.1.then_ b5⟩
      clear hs5 b5 H4
      go_wp2_with fail
      have hi := HI.out
      have hNl := HNL.out.2
      exact ⟨⟨k + 1, i0 + 128, by omega, by omega, by go_num, H5.out⟩, by simp [intOf]; omega⟩
    · obtain rfl : k = N := by omega
      have hin : i0 = n2 := by omega
      obtain ⟨st, hst⟩ : ∃ s, stN (padded bs) k = s := ⟨_, rfl⟩
      rw [hst] at hrs
      have hdg : Hid (digest bs = st.list.flatMap bytesW) := Lib.hid (by unfold digest; rw [HNL.out.1, hst])
      have HST : Hid st.InU := Lib.hid (by rw [← hst]; exact stN_inU _ _)
      obtain ⟨bS, oS, hAs, hbS, hcS⟩ := hrs.some (show 0 < 8 by decide)
      subst hAs
      subst hin
      have H6 := Lib.hid (And.intro hrs hbw)
      obtain ⟨B, hB⟩ : ∃ B, wr.heap.size = B := ⟨_, rfl⟩
      have HWB : Hid (w.heap.size ≤ B ∧ B ≤ wr.heap.size) := Lib.hid ⟨by rw [← hB]; exact hbw.size, by rw [hB]; exact Nat.le_refl _⟩
      rw [hB] at hbS
      clear hB
      clear hrs hra hrk hbw hst hp hk hi0 hNl hcS
      go_wp2_with fail
      go_loopw [7, 31] (fun v i wr => ∃ k : Nat, k ≤ 8 ∧ i = .int .i64 (k : Int) ∧ OtS bs w B (some ⟨bS, oS, none⟩) st (8 * k) v wr) (fun _ i _ => 8 - (intOf i).toNat)
      case atStart => exact ⟨0, by omega, rfl, OwnBs.nil _ _, H6.out.1, H6.out.2, HWB.out.2⟩
      case round =>
        clear H6
        obtain ⟨j, hj, rfl, ho, hrs, hbw, hBw⟩ := hrel
        by_cases hp : j < 8
        · obtain ⟨x, hx⟩ : ∃ x, st.list.getD j 0 = x := ⟨_, rfl⟩
          obtain ⟨b8, o8, h8, hb8, cw⟩ := hrs.at_ (us_at (list_at st j hp))
          injection h8 with h8; injection h8 with h81 h82
          subst h81; subst h82
          rw [hx] at cw
          have HX0 : Hid (0 ≤ x) := Lib.hid (by rw [← hx]; exact list_nonneg st HST.out j)
          have HXX := Lib.hid hx
          have HO := Lib.hid (And.intro ho (And.intro hrs (And.intro hbw hBw)))
          clear ho hrs hbw hBw hx
          go_wp2_with fail
          clear cw
          go_loopw [7, 10] (fun v i wr => ∃ (m : Nat) (z : Int), m ≤ 8 ∧ z = 7 - (m : Int) ∧ i = .int .i64 z ∧ OtS bs w B (some ⟨bS, oS, none⟩) st (8 * j + m) v wr) (fun _ i _ => (intOf i + 1).toNat)
          case atStart => exact ⟨0, 7, by omega, by omega, rfl, HO.out⟩
          case round =>
            clear HO
            obtain ⟨m, z, hm, hz, rfl, ho, hrs, hbw, hBw⟩ := hrel
            by_cases hq : m < 8
            · obtain ⟨y, hy⟩ : ∃ y : Nat, 7 - m = y := ⟨_, rfl⟩
              obtain rfl : z = (y : Int) := by omega
              have hd := digest_at bs st j m x hdg.out HXX.out hp hq
              have hcv := byte_val x (8 * y) HX0.out
              rw [show 56 - 8 * m = 8 * y by omega] at hd
              obtain ⟨c0, hc0⟩ : ∃ c, UInt8.ofNat ((x / 2 ^ (8 * y)).toNat % 256) = c := ⟨_, rfl⟩
              rw [hc0] at hcv hd
              have htk : (digest bs).take (8 * j + (m + 1)) = (digest bs).take (8 * j + m) ++ [c0] := by
                rw [show 8 * j + (m + 1) = 8 * j + m + 1 by omega, List.take_add_one, hd]; rfl
              have HTK := Lib.hid htk
              have HZ := Lib.hid (And.intro hm (And.intro hq (And.intro hz hy)))
              have hlen : ((digest bs).take (8 * j + m)).length ≤ 70368744177664 := by rw [List.length_take, digest_len]; omega
              have hsz := hBw
              have hy0 : y ≤ 7 := by omega
              clear htk hm hq hz hy hd hc0
              go_wp2_with (refine wpList_append_u8 rfl (.tmp 39) (.tmp 46) rfl B _ _ rfl ho c0 rfl rfl hlen hsz ?_; intro v2 w2 o2 g2)
              rw [← HTK.out] at o2
              have b2 : Below w.heap.size w w2 := hbw.grown g2 hbw.size (fun k hk => by have := (ho.lt k hk).1; have := HWB.out.1; omega)
              have hr2 : RV w2 (some ⟨bS, oS, none⟩) (us st.list) := hrs.kept g2 (fun b o h => by
                injection h with h; injection h with h1 h2
                intro e
                have := (ho.lt b e.symm).1
                omega)
              have hB2 : B ≤ w2.heap.size := Nat.le_trans hBw g2.size
              have hz := HZ.out
              refine ⟨⟨m + 1, (y : Int) - 1, by omega, by omega, rfl, o2, hr2, b2, hB2⟩, by simp [intOf]⟩
            · obtain rfl : m = 8 := by omega
              obtain rfl : z = -1 := by omega
              rw [show 8 * j + 8 = 8 * (j + 1) by omega] at ho
              have HO : Hid (OtS bs w B (some ⟨bS, oS, none⟩) st (8 * (j + 1)) _ wr) := Lib.hid ⟨ho, hrs, hbw, hBw⟩
              clear ho hrs hbw hz
              go_wp2_with fail
              exact ⟨⟨j + 1, by omega, by go_num, HO.out⟩, by simp [intOf]; omega⟩
        · obtain rfl : j = 8 := by omega
          rw [show ((8 : Nat) : Int) = (8 : Int) from rfl]
          rw [List.take_of_length_le (by rw [digest_len]; omega)] at ho
          obtain ⟨A3, n3, c3, rfl, hr3, hn3⟩ := ho.form
          have hcv := run_str_rb wr A3 n3 c3 _ hr3 hn3
          have HB := Lib.hid hbw
          clear ho hrs hbw hr3
          go_wp2_with fail
          go_ret
          exact ⟨rfl, HB.out⟩
end Go.Proofs.YtjdgccgpkmimkaaDoor
