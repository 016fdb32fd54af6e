/- Layer 5: the document's MulAdd, walked. -/
import Derived.Test.YtmegjpjfkpgmbaaDoorScN
import Derived.Test.YtmegjpjfkpgmbaaDoorBk
namespace Go.Proofs.YtmegjpjfkpgmbaaDoor
open Go.ChangeShapes Go.WideShapes Go.ChangeAt Go.RowKit Go.IntWalk
set_option linter.unusedVariables false

def in6 (ts : List Nat) : List Value := ts.map fun (n : Nat) => Value.int .i64 (n : Int)
theorem in6_at {ts : List Nat} {k n : Nat} (h : ts[k]? = some n) : (in6 ts)[k]? = some (.int .i64 (n : Int)) := by simp [in6, h]
theorem in6_set (ts : List Nat) (k n : Nat) : (in6 ts).set k (.int .i64 (n : Int)) = in6 (ts.set k n) := by simp [in6, List.map_set]
def valN : List Nat → Nat
  | [] => 0
  | x :: t => x + 256 * valN t
theorem valN_set2 : ∀ (l : List Nat) (i x old : Nat), l[i]? = some old → valN (l.set i x) + 256 ^ i * old = valN l + 256 ^ i * x
  | [], i, x, old, h => by simp at h
  | y :: l, 0, x, old, h => by
    simp at h; subst h
    simp only [List.set_cons_zero, valN, Nat.pow_zero, Nat.one_mul]; omega
  | y :: l, i + 1, x, old, h => by
    have ih := valN_set2 l i x old (by simpa using h)
    rw [List.set_cons_succ, valN, valN, Nat.pow_succ]
    have e1 : 256 ^ i * 256 * old = 256 * (256 ^ i * old) := by rw [Nat.mul_comm (256 ^ i) 256, Nat.mul_assoc]
    have e2 : 256 ^ i * 256 * x = 256 * (256 ^ i * x) := by rw [Nat.mul_comm (256 ^ i) 256, Nat.mul_assoc]
    rw [e1, e2]; omega
theorem valN_zero : ∀ k, valN (List.replicate k 0) = 0
  | 0 => rfl
  | k + 1 => by rw [List.replicate_succ, valN, valN_zero k]
theorem leN_take (l : List UInt8) (k : Nat) (c : UInt8) (h : l[k]? = some c) : leN (l.take (k + 1)) = leN (l.take k) + 256 ^ k * c.toNat := by
  have hk := (List.getElem?_eq_some_iff.1 h).1
  rw [List.take_add_one, h, Option.toList_some, leN_app, List.length_take, Nat.min_eq_left (by omega)]
  simp [leN]
def T6 (V M : Nat) (ts : List Nat) : Prop := ts.length = 66 ∧ (∀ x ∈ ts, x ≤ M) ∧ valN ts = V
theorem T6.step {V M p q s B : Nat} {ts : List Nat} (h : T6 V M ts) (hs : ts[p]? = some s) (hq : q ≤ B) : T6 (V + 256 ^ p * q) (M + B) (ts.set p (s + q)) := by
  obtain ⟨h1, h2, h3⟩ := h
  have hsM := h2 s (List.mem_of_getElem? hs)
  refine ⟨by rw [List.length_set]; exact h1, fun x hx => ?_, ?_⟩
  · rcases List.mem_or_eq_of_mem_set hx with h | rfl
    · have := h2 x h; omega
    · omega
  · have h5 := valN_set2 ts p (s + q) s hs
    rw [Nat.mul_add] at h5
    omega
theorem T6.at {V M q : Nat} {ts : List Nat} (h : T6 V M ts) (hq : q < 66) : ∃ s, ts[q]? = some s ∧ s ≤ M :=
  ⟨ts[q]'(by rw [h.1]; exact hq), List.getElem?_eq_getElem (by rw [h.1]; exact hq), h.2.1 _ (List.getElem_mem _)⟩
def MtS (w : World) (g : Nat) (ts : List Nat) (wr : World) : Prop := Blk wr g 59 (in6 ts) ∧ Below w.heap.size w wr
theorem MtS.set_ {w wr : World} {g : Nat} {ts : List Nat} (h : MtS w g ts wr) (hg : w.heap.size ≤ g) (p n : Nat) : MtS w g (ts.set p n) (wr.setCell ⟨g, p, none⟩ (.int .i64 (n : Int))) :=
  ⟨by rw [← in6_set]; exact h.1.set_ p _, h.2.setCell hg _⟩
theorem MtS.drewN {w wr : World} {g : Nat} {ts : List Nat} (h : MtS w g ts wr) (n : Nat) : MtS w g ts (wr.drewN n) := ⟨h.1.drewN n, h.2.drewN n⟩
theorem pow_mul3 (i k x y : Nat) : 256 ^ i * (x * (256 ^ k * y)) = 256 ^ (i + k) * (x * y) := by
  rw [Nat.mul_left_comm x, ← Nat.mul_assoc, ← Nat.pow_add]
theorem zero66 : (Tryd.prog.info? 59).map (·.zero) = some (some (.agg (in6 (List.replicate 66 0)).toArray)) := by kernel_rfl
set_option maxRecDepth 100000 in
set_option maxHeartbeats 8000000 in
theorem refMul_calls (l1 l2 l3 : List UInt8) (hl1 : l1.length = 32) (hl2 : l2.length = 32) (hl3 : l3.length ≤ 32) (w : World) :
    Calls Tryd.prog 16 #[.string ⟨l1.toArray⟩, .string ⟨l2.toArray⟩, .string ⟨l3.toArray⟩] w fun e w' => e = .returned (.string ⟨(leB 32 ((leN l1 * leN l2 + leN l3) % LO)).toArray⟩) ∧ Below w.heap.size w w' := by
  have hb1 : (⟨l1.toArray⟩ : ByteArray).size = l1.length := rfl
  have hb2 : (⟨l2.toArray⟩ : ByteArray).size = l2.length := rfl
  have hb3 : (⟨l3.toArray⟩ : ByteArray).size = l3.length := rfl
  obtain ⟨zs, hzs⟩ : ∃ z, in6 (List.replicate 66 0) = z := ⟨_, rfl⟩
  have hzv : ∀ W, (zeroValue 59).run Tryd.prog W = .ok (.agg zs.toArray) W := fun W => run_zero (by rw [← hzs]; exact zero66) W
  have HZS := Lib.hid hzs
  clear hzs
  go_enter Tryd.func16, Tryd.ntmps16
  go_wp2_with fail
  clear hzv
  refine wp_gen (fun W => MtS w w.heap.size (List.replicate 66 0) W) ⟨by rw [HZS.out]; exact Blk.new w zs _, (Below.refl w.heap.size w).alloc (Nat.le_refl _) _⟩ ?_
  intro W0 h0
  have HW0 := Lib.hid h0
  clear h0
  obtain ⟨g, hg⟩ : ∃ g, w.heap.size = g := ⟨_, rfl⟩
  have HG : Hid (w.heap.size ≤ g) := Lib.hid (by omega)
  have HW0 : Hid (MtS w g (List.replicate 66 0) W0) := Lib.hid (by rw [← hg]; exact HW0.out)
  rw [hg]
  clear hg
  go_loopw [8] (fun iv wr => ∃ (i : Nat) (ts : List Nat), i ≤ 32 ∧ iv = .int .i64 (i : Int) ∧ T6 (leN (l1.take i) * leN l2) (i * 32 * 65025) ts ∧ MtS w g ts wr) (fun iv _ => 32 - (intOf iv).toNat)
  case atStart => exact ⟨0, _, by omega, rfl, ⟨by simp, fun x hx => by rw [List.eq_of_mem_replicate hx]; exact Nat.le_refl _, by rw [valN_zero]; simp [leN]⟩, HW0.out⟩
  case round =>
    clear HW0
    obtain ⟨i, ts, hi, rfl, hrow, hmt⟩ := hrel
    have HK := Lib.hid (And.intro hrow hmt)
    clear hrow hmt
    by_cases hi32 : i < 32
    · have hd1 : decide ((i : Int) < (l1.length : Int)) = true := by simp; omega
      obtain ⟨c1, hc1⟩ : ∃ c, l1[i]? = some c := ⟨_, List.getElem?_eq_getElem (by omega)⟩
      have i1 : i < l1.length := by omega
      have hq1 : l1[i] = c1 := by rw [List.getElem?_eq_getElem i1] at hc1; exact Option.some.inj hc1
      have hx1 := c1.toNat_lt
      have HC1 := Lib.hid hc1
      clear hc1
      go_wp2_with fail
      go_loopw [9] (fun kv wi => ∃ (k : Nat) (us : List Nat), k ≤ 32 ∧ kv = .int .i64 (k : Int) ∧ T6 (leN (l1.take i) * leN l2 + 256 ^ i * (c1.toNat * leN (l2.take k))) ((i * 32 + k) * 65025) us ∧ MtS w g us wi) (fun kv _ => 32 - (intOf kv).toNat)
      case atStart => exact ⟨0, ts, by omega, rfl, by have h := HK.out.1; simpa [leN] using h, HK.out.2⟩
      case round =>
        obtain ⟨k, us, hk, rfl, hrow, hmt⟩ := hrel
        by_cases hk32 : k < 32
        · have hd2 : decide ((k : Int) < (l2.length : Int)) = true := by simp; omega
          obtain ⟨c2, hc2⟩ : ∃ c, l2[k]? = some c := ⟨_, List.getElem?_eq_getElem (by omega)⟩
          have i2 : k < l2.length := by omega
          have hq2 : l2[k] = c2 := by rw [List.getElem?_eq_getElem i2] at hc2; exact Option.some.inj hc2
          have hx2 := c2.toNat_lt
          obtain ⟨s, hs, hsM⟩ := hrow.at (q := i + k) (by omega)
          have hpl : c1.toNat * c2.toNat ≤ 255 * 255 := Nat.mul_le_mul (by omega) (by omega)
          have hst := hrow.step (B := 65025) hs hpl
          have hst2 : T6 (leN (l1.take i) * leN l2 + 256 ^ i * (c1.toNat * leN (l2.take (k + 1)))) ((i * 32 + (k + 1)) * 65025) (us.set (i + k) (s + c1.toNat * c2.toNat)) := by
            rw [leN_take l2 k c2 hc2, Nat.mul_add c1.toNat, Nat.mul_add, pow_mul3, ← Nat.add_assoc, show (i * 32 + (k + 1)) * 65025 = (i * 32 + k) * 65025 + 65025 by omega]; exact hst
          obtain ⟨p, hp⟩ : ∃ p, i + k = p := ⟨_, rfl⟩
          obtain ⟨m, hm⟩ : ∃ m, c1.toNat * c2.toNat = m := ⟨_, rfl⟩
          obtain ⟨t, ht⟩ : ∃ t, s + m = t := ⟨_, rfl⟩
          have hset := (hmt.set_ HG.out p t).drewN 1
          rw [hp] at hs
          rw [hm] at hpl
          rw [hp, hm, ht] at hst2
          have cs := hmt.1.cell (in6_at hs)
          have fs := hmt.1.frozen p
          have e1 : IntKind.i64.wrap ((i : Int) + (k : Int)) = (p : Int) := (IntWalk.i64_in _ (by omega)).trans (by omega)
          have e2 : IntKind.i64.wrap (c1.toNat : Int) = (c1.toNat : Int) := IntWalk.i64_in _ (by omega)
          have e3 : IntKind.i64.wrap (c2.toNat : Int) = (c2.toNat : Int) := IntWalk.i64_in _ (by omega)
          have e4 : IntKind.i64.wrap ((c1.toNat : Int) * (c2.toNat : Int)) = (m : Int) := by rw [← Int.natCast_mul, hm]; exact IntWalk.i64_in _ (by omega)
          have e5 : IntKind.i64.wrap ((s : Int) + (m : Int)) = (t : Int) := (IntWalk.i64_in _ (by omega)).trans (by omega)
          have i3 : (0 : Int) ≤ (p : Int) ∧ (p : Int) < 66 := by omega
          have HST := Lib.hid (And.intro hst2 hset)
          clear hrow hmt hst hst2 hset hs hc2 hpl hm ht hsM hp
          go_wp2_with fail
          go_region
          go_wp2_with fail
          exact ⟨⟨k + 1, us.set p t, by omega, by go_num, HST.out.1, HST.out.2⟩, by simp [intOf]; omega⟩
        · obtain rfl : k = 32 := by omega
          have hd2 : decide (((32 : Nat) : Int) < (l2.length : Int)) = false := by simp; omega
          have hrow2 : T6 (leN (l1.take (i + 1)) * leN l2) ((i + 1) * 32 * 65025) us := by
            rw [show l2.take 32 = l2 from List.take_of_length_le (by omega)] at hrow
            rw [leN_take l1 i c1 HC1.out, Nat.add_mul, Nat.mul_assoc, show (i + 1) * 32 * 65025 = (i * 32 + 32) * 65025 by omega]; exact hrow
          have HE := Lib.hid (And.intro hrow2 hmt)
          clear hrow hrow2 hmt
          go_wp2_with fail
          exact ⟨⟨i + 1, us, by omega, by go_num, HE.out.1, HE.out.2⟩, by simp [intOf]; omega⟩
    · obtain rfl : i = 32 := by omega
      have hd1 : decide (((32 : Nat) : Int) < (l1.length : Int)) = false := by simp; omega
      have hrow : T6 (leN l1 * leN l2 + leN (l3.take 0)) (32 * 32 * 65025 + 0 * 255) ts := by
        have h := HK.out.1
        rw [List.take_of_length_le (by omega)] at h
        simpa [leN] using h
      have HR := Lib.hid (And.intro hrow HK.out.2)
      clear hrow HK
      go_wp2_with fail
      go_loopw [10] (fun iv wi => ∃ (k : Nat) (us : List Nat), k ≤ l3.length ∧ iv = .int .i64 (k : Int) ∧ T6 (leN l1 * leN l2 + leN (l3.take k)) (32 * 32 * 65025 + k * 255) us ∧ MtS w g us wi) (fun iv _ => l3.length - (intOf iv).toNat)
      case atStart => exact ⟨0, ts, by omega, rfl, HR.out.1, HR.out.2⟩
      case round =>
        clear HR
        obtain ⟨k, us, hk, rfl, hrow, hmt⟩ := hrel
        by_cases hk3 : k < l3.length
        · have hd3 : decide ((k : Int) < (l3.length : Int)) = true := by simp; omega
          obtain ⟨c3, hc3⟩ : ∃ c, l3[k]? = some c := ⟨_, List.getElem?_eq_getElem (by omega)⟩
          have hq3 : l3[k] = c3 := by rw [List.getElem?_eq_getElem hk3] at hc3; exact Option.some.inj hc3
          have hx3 := c3.toNat_lt
          obtain ⟨s, hs, hsM⟩ := hrow.at (q := k) (by omega)
          have hst := hrow.step (B := 255) hs (show c3.toNat ≤ 255 by omega)
          have hst2 : T6 (leN l1 * leN l2 + leN (l3.take (k + 1))) (32 * 32 * 65025 + (k + 1) * 255) (us.set k (s + c3.toNat)) := by
            rw [leN_take l3 k c3 hc3, ← Nat.add_assoc, show 32 * 32 * 65025 + (k + 1) * 255 = 32 * 32 * 65025 + k * 255 + 255 by omega]; exact hst
          obtain ⟨t, ht⟩ : ∃ t, s + c3.toNat = t := ⟨_, rfl⟩
          have hset := (hmt.set_ HG.out k t).drewN 1
          rw [ht] at hst2
          have cs := hmt.1.cell (in6_at hs)
          have fs := hmt.1.frozen k
          have e2 : IntKind.i64.wrap (c3.toNat : Int) = (c3.toNat : Int) := IntWalk.i64_in _ (by omega)
          have e5 : IntKind.i64.wrap ((s : Int) + (c3.toNat : Int)) = (t : Int) := (IntWalk.i64_in _ (by omega)).trans (by omega)
          have i3 : (0 : Int) ≤ (k : Int) ∧ (k : Int) < 66 := by omega
          have HST := Lib.hid (And.intro hst2 hset)
          clear hrow hmt hst hst2 hset hs hc3 ht hsM
          go_wp2_with fail
          go_region
          go_wp2_with fail
          exact ⟨⟨k + 1, us.set k t, by omega, by go_num, HST.out.1, HST.out.2⟩, by simp [intOf]; omega⟩
        · obtain rfl : k = l3.length := by omega
          have hd3 : decide ((l3.length : Int) < (l3.length : Int)) = false := by simp
          rw [List.take_of_length_le (Nat.le_refl _)] at hrow
          obtain ⟨hlen, hM, hval⟩ := hrow
          have hM2 : ∀ x ∈ us, x ≤ 2 ^ 27 := fun x hx => Nat.le_trans (hM x hx) (by omega)
          have HU := Lib.hid (And.intro hlen (And.intro hM2 hval))
          have HMT := Lib.hid hmt
          clear hlen hM hM2 hval hmt
          go_wp2_with fail
          go_loopw [11, 12, 13] (fun v mv iv wi => ∃ (i m : Nat) (os : List UInt8), i ≤ 66 ∧ iv = .int .i64 (i : Int) ∧ mv = .int .i64 (m : Int) ∧ m ≤ 2 ^ 27 ∧ Hid (os.length = i ∧ leN os + 256 ^ i * (m + valN (us.drop i)) = leN l1 * leN l2 + leN l3) ∧ OwnBs w.heap.size wi v os ∧ MtS w g us wi) (fun _ _ iv _ => 66 - (intOf iv).toNat)
          case atStart => exact ⟨0, 0, [], by omega, rfl, rfl, by omega, Lib.hid ⟨rfl, by simp only [leN, List.drop_zero, Nat.pow_zero, Nat.one_mul, Nat.zero_add]; exact HU.out.2.2⟩, OwnBs.nil _ _, HMT.out⟩
          case round =>
            clear HMT
            obtain ⟨i, m, os, hi, rfl, rfl, hm, hos, hown, hmt⟩ := hrel
            have hsz := hmt.2.size
            by_cases hi66 : i < 66
            · have hd4 : decide ((i : Int) < 66) = true := by simp; omega
              obtain ⟨x, hx⟩ : ∃ x, us[i]? = some x := ⟨_, List.getElem?_eq_getElem (by rw [HU.out.1]; exact hi66)⟩
              have hxM := HU.out.2.1 x (List.mem_of_getElem? hx)
              have cs := hmt.1.cell (in6_at hx)
              have i3 : (0 : Int) ≤ (i : Int) ∧ (i : Int) < 66 := by omega
              obtain ⟨t, ht⟩ : ∃ t, m + x = t := ⟨_, rfl⟩
              obtain ⟨r, hr⟩ : ∃ r, t % 256 = r := ⟨_, rfl⟩
              obtain ⟨m2, hm2⟩ : ∃ q, t / 256 = q := ⟨_, rfl⟩
              have e5 : IntKind.i64.wrap ((m : Int) + (x : Int)) = (t : Int) := (IntWalk.i64_in _ (by omega)).trans (by omega)
              have e6 : (t : Int) % 256 = (r : Int) := by omega
              have e7 : (t : Int) / 256 = (m2 : Int) := by omega
              have hm2l : m2 ≤ 2 ^ 27 := by omega
              have hrl : r < 256 := by omega
              obtain ⟨y, hy⟩ : ∃ y, UInt8.ofNat r = y := ⟨_, rfl⟩
              have hcv : IntKind.u8.wrap (r : Int) = (y.toNat : Int) := by rw [← hy, IntKind.wrap_u8]; simp
              have hlen : os.length ≤ 66 := by have := hos.out.1; omega
              have HNX : Hid ((os ++ [y]).length = i + 1 ∧ leN (os ++ [y]) + 256 ^ (i + 1) * (m2 + valN (us.drop (i + 1))) = leN l1 * leN l2 + leN l3) := Lib.hid (by
                obtain ⟨o1, o2⟩ := hos.out
                have hxl : i < us.length := by rw [HU.out.1]; exact hi66
                have hdr : us.drop i = x :: us.drop (i + 1) := by
                  rw [List.drop_eq_getElem_cons hxl]
                  rw [List.getElem?_eq_getElem hxl] at hx
                  rw [Option.some.inj hx]
                refine ⟨by simp [o1], ?_⟩
                rw [hdr, valN] at o2
                rw [leN_app, o1, Nat.pow_succ, Nat.mul_assoc, ← o2, Nat.add_assoc, ← Nat.mul_add]
                have hyt : leN [y] = r := by rw [← hy]; simp [leN]; omega
                rw [hyt]
                congr 2
                omega)
              have hne1 := hown.ne hmt.1 (by intro c f h; cases h)
              clear hos hx ht hr hm2 hy
              go_wp2_with (at_builtin; refine wpList_append_u8 rfl (.tmp 70) (.tmp 74) rfl w.heap.size _ _ rfl hown y rfl rfl (by omega) hsz ?_; intro v' w2 hown' hgrow')
              refine ⟨?_, by simp [intOf]; omega⟩
              repeat apply Exists.intro
              refine ⟨⟨i + 1, m2, os ++ [y], by omega, by go_num, rfl, hm2l, HNX, hown', ⟨(hgrow'.block g hmt.1.lt hne1).trans hmt.1, hmt.2.grown hgrow' hsz (fun k hk => (hown.lt k hk).1)⟩⟩, ?_⟩
              rfl
            · obtain rfl : i = 66 := by omega
              have hd4 : decide (((66 : Nat) : Int) < 66) = false := by simp
              obtain ⟨A, n, c, rfl, hrb, hn⟩ := hown.form
              have hs := run_str_rb wr A n c _ hrb hn
              have HB := Lib.hid hmt.2
              have HV : Hid (leN os = leN l1 * leN l2 + leN l3 ∧ os.length = 66) := Lib.hid (by
                obtain ⟨o1, o2⟩ := hos.out
                rw [List.drop_of_length_le (by rw [HU.out.1]; exact Nat.le_refl _), valN, Nat.add_zero] at o2
                have b1 := leN_lt l1
                have b2 := leN_lt l2
                have b3 := leN_lt l3
                rw [hl1] at b1
                rw [hl2] at b2
                have b4 : (256 : Nat) ^ l3.length ≤ 256 ^ 32 := Nat.pow_le_pow_right (by decide) hl3
                have hp := prod_lt (leN l1) (leN l2) (leN l3) b1 b2 (Nat.lt_of_lt_of_le b3 b4)
                have hp2 : (256 : Nat) ^ 64 < 256 ^ 66 := by decide +kernel
                rcases Nat.eq_zero_or_pos m with h | h
                · subst h; exact ⟨by omega, o1⟩
                · have : 256 ^ 66 * 1 ≤ 256 ^ 66 * m := Nat.mul_le_mul_left _ h
                  omega)
              have HM := Lib.hid (fun W => refRest_calls os (by rw [HV.out.2]; decide) W)
              clear hmt hown hrb hn hos hsz
              go_wp2_with fail
              refine (HM.out _).mono ?_
              rintro e w3 ⟨rfl, b3⟩
              rw [HV.out.1]
              have HB3 := Lib.hid (HB.out.then_ b3)
              clear b3
              go_wp2_with fail
              go_ret
              exact ⟨rfl, HB3.out⟩
end Go.Proofs.YtmegjpjfkpgmbaaDoor
