/- Layer 4: the document's powers. -/
import Derived.Test.YtpdoegfmngibgaaRfK
namespace Go.Proofs.Ytpdoegfmngibgaa
open Go.ChangeShapes Go.WideShapes Go.ChangeAt Go.RowKit Go.IntWalk
set_option linter.unusedVariables false

theorem bit_at (es : List UInt8) (m : Nat) (h : m / 8 < es.length) : (es[m / 8]).toNat / 2 ^ (m % 8) % 2 = leN es / 2 ^ m % 2 := by
  rw [← leN_at es (m / 8) h]
  have e : (2 : Nat) ^ m = 256 ^ (m / 8) * 2 ^ (m % 8) := by
    rw [show (256 : Nat) = 2 ^ 8 by decide, ← Nat.pow_mul, ← Nat.pow_add]; congr 1; omega
  rw [e, ← Nat.div_div_eq_div_mul]
  generalize leN es / 256 ^ (m / 8) = x
  have ht : m % 8 < 8 := Nat.mod_lt _ (by decide)
  generalize m % 8 = t at *
  rcases (show t = 0 ∨ t = 1 ∨ t = 2 ∨ t = 3 ∨ t = 4 ∨ t = 5 ∨ t = 6 ∨ t = 7 by omega) with rfl | rfl | rfl | rfl | rfl | rfl | rfl | rfl <;> simp only [Nat.pow_zero, Nat.reducePow] <;> omega
theorem bits_one (c t : Nat) (h : c < 256) : (bits .and .u8 ((c : Int) / 2 ^ t) 1 == 1) = decide (c / 2 ^ t % 2 = 1) := by
  have e : (c : Int) / 2 ^ t = ((c / 2 ^ t : Nat) : Int) := by rw [Int.natCast_ediv, Int.natCast_pow]; rfl
  have hle : c / 2 ^ t ≤ c := Nat.div_le_self _ _
  rw [e]
  generalize c / 2 ^ t = d at *
  have h1 : bits .and .u8 (d : Int) 1 = (d : Int) % 2 := bits_mask .u8 8 (by decide) (fun x h0 h1 => by rw [IntKind.wrap_u8]; omega) 1 (by decide) _ (by omega) (by omega)
  rw [h1, Bool.eq_iff_iff, beq_iff_eq, decide_eq_true_eq]
  omega
theorem exp_step (e m : Nat) : e / 2 ^ m = e / 2 ^ (m + 1) + e / 2 ^ (m + 1) + e / 2 ^ m % 2 := by
  rw [Nat.pow_succ, ← Nat.div_div_eq_div_mul]; omega
def PwS (r : Nat) (es : List UInt8) (av : List Int) (w : World) (go n : Nat) (wr : World) : Prop :=
  ∃ os, NBlk wr go os ∧ NumOk os ∧ valD os % (P : Int) = ((r ^ (leN es / 2 ^ n) % P : Nat) : Int) ∧ NBlk wr w.heap.size av ∧ NBlk wr (w.heap.size + 1) Z16 ∧ Below w.heap.size w wr
set_option maxRecDepth 100000 in
set_option maxHeartbeats 8000000 in
theorem refPow_calls (v : Value) (r : Nat) (hv : IsNum v r) (es : List UInt8) (hl : es.length = 32) (w : World) :
    Calls Try.prog 29 #[v, .string ⟨es.toArray⟩] w (NPost (r ^ leN es) w) := by
  have HV := Lib.hid hv
  obtain ⟨av, rfl, hok, hval⟩ := hv
  unfold A16
  have h0 : NBlk ((w.alloc (.cells (i64s av).toArray 33)).alloc (.cells (i64s Z16).toArray 33)) w.heap.size av := (NBlk.new _).alloc _
  have hz0 : NBlk ((w.alloc (.cells (i64s av).toArray 33)).alloc (.cells (i64s Z16).toArray 33)) (w.heap.size + 1) Z16 := by
    have := NBlk.new (w := w.alloc (.cells (i64s av).toArray 33)) Z16
    rw [show (w.alloc (.cells (i64s av).toArray 33)).heap.size = w.heap.size + 1 by simp] at this
    exact this
  obtain ⟨cs, hcs⟩ : ∃ cs, i64s av = cs := ⟨_, rfl⟩
  rw [hcs] at h0 hz0 ⊢
  have H0 := Lib.hid (And.intro h0 (And.intro hz0 hok.1))
  have HL := Lib.hid hl
  clear h0 hz0 hok hval hcs hl
  have hbs : (⟨es.toArray⟩ : ByteArray).size = es.length := rfl
  go_enter Try.func29, Try.ntmps29
  go_wp2_with fail
  refine (refSmall_calls 1 (by decide) _).mono ?_
  rintro e w1 ⟨x1, rfl, hx1, b1⟩
  obtain ⟨os, rfl, hok1, hval1⟩ := hx1
  have n1 := H0.out.1.later b1
  have z1 := H0.out.2.1.later b1
  have bw1 : Below w.heap.size w w1 := below2 b1
  have lt1 := z1.lt
  have hzp : NBlk (w1.alloc (.cells #[.int .i64 0, .int .i64 0, .int .i64 0, .int .i64 0, .int .i64 0, .int .i64 0, .int .i64 0, .int .i64 0, .int .i64 0, .int .i64 0, .int .i64 0, .int .i64 0, .int .i64 0, .int .i64 0, .int .i64 0, .int .i64 0] 33)) w1.heap.size Z16 := heap_alloc_new w1 _
  have np := hzp.setAll (ms := os) (by rw [hok1.1]; rfl)
  have n2 := (n1.alloc (.cells #[.int .i64 0, .int .i64 0, .int .i64 0, .int .i64 0, .int .i64 0, .int .i64 0, .int .i64 0, .int .i64 0, .int .i64 0, .int .i64 0, .int .i64 0, .int .i64 0, .int .i64 0, .int .i64 0, .int .i64 0, .int .i64 0] 33)).setFar (g2 := w1.heap.size) (by omega) (i64s os)
  have z2 := (z1.alloc (.cells #[.int .i64 0, .int .i64 0, .int .i64 0, .int .i64 0, .int .i64 0, .int .i64 0, .int .i64 0, .int .i64 0, .int .i64 0, .int .i64 0, .int .i64 0, .int .i64 0, .int .i64 0, .int .i64 0, .int .i64 0, .int .i64 0] 33)).setFar (g2 := w1.heap.size) (by omega) (i64s os)
  have bw2 := below_cells bw1.size (i64s os) 0 _ (bw1.alloc bw1.size (.cells #[.int .i64 0, .int .i64 0, .int .i64 0, .int .i64 0, .int .i64 0, .int .i64 0, .int .i64 0, .int .i64 0, .int .i64 0, .int .i64 0, .int .i64 0, .int .i64 0, .int .i64 0, .int .i64 0, .int .i64 0, .int .i64 0] 33))
  have hps : PwS r es av w w1.heap.size 256 ((w1.alloc (.cells #[.int .i64 0, .int .i64 0, .int .i64 0, .int .i64 0, .int .i64 0, .int .i64 0, .int .i64 0, .int .i64 0, .int .i64 0, .int .i64 0, .int .i64 0, .int .i64 0, .int .i64 0, .int .i64 0, .int .i64 0, .int .i64 0] 33)).setCells w1.heap.size 0 (i64s os)) := by
    refine ⟨os, np, hok1, ?_, n2, z2, bw2⟩
    have hz : leN es / 2 ^ 256 = 0 := Nat.div_eq_of_lt (by have := leN_lt es; rw [HL.out] at this; rw [show (2 : Nat) ^ 256 = 256 ^ 32 by decide]; exact this)
    rw [hz, Nat.pow_zero, hval1]
  have HT := Lib.hid (hzp.there (n := (i64s os).toArray.size) (by simp [i64s, hok1.1, Z16]))
  have HS := Lib.hid (size16a os hok1.1)
  have HO := Lib.hid (one16 os)
  have HP := Lib.hid hps
  have HLT := Lib.hid (And.intro lt1 bw1.size)
  clear n1 z1 bw1 lt1 hzp np n2 z2 bw2 hps b1 hok1 hval1
  go_wp2_with (refine wpList_store_mid rfl 33 _ _ rfl w1.heap.size 0 (i64s os).toArray rfl rfl HT.out HS.out HO.out ?_)
  obtain ⟨go, hgo⟩ : ∃ go, w1.heap.size = go := ⟨_, rfl⟩
  rw [hgo] at HP HLT
  rw [hgo]
  clear HT HS HO hgo
  go_loopw [6] (fun i wr => ∃ (n : Nat) (z : Int), n ≤ 256 ∧ i = .int .i64 z ∧ z = (n : Int) - 1 ∧ PwS r es av w go n wr) (fun i _ => (intOf i + 1).toNat)
  case atStart => exact ⟨256, 255, by omega, rfl, by omega, HP.out⟩
  case round =>
    obtain ⟨n, z, hn, rfl, hz, hp⟩ := hrel
    obtain ⟨os, no, oko, vo, na, nz, bw⟩ := hp
    have hlt := HLT.out.1
    cases n with
    | succ m =>
      obtain rfl : z = (m : Int) := by omega
      have HN : Hid (IsNum (A16 os) (r ^ (leN es / 2 ^ (m + 1)))) := Lib.hid ⟨os, rfl, oko, vo⟩
      have HR := Lib.hid (And.intro no.rng (size16' os oko.1))
      have HB := Lib.hid (And.intro no (And.intro oko.1 (And.intro na (And.intro nz bw))))
      clear no oko vo na nz bw hz
      go_wp2_with (refine wpList_load_mid rfl 33 _ rfl go 0 rfl (i64s os) _ HR.out.1 Try.underlying33 rfl HR.out.2 ?_)
      refine (refMul_num _ _ _ _ HN.out HN.out _).mono ?_
      rintro e w2 ⟨x2, rfl, hx2, b2⟩
      obtain ⟨qs, rfl, okq, valq⟩ := hx2
      have no2 := HB.out.1.later b2
      have HNQ : Hid (IsNum (A16 qs) (r ^ (leN es / 2 ^ (m + 1)) * r ^ (leN es / 2 ^ (m + 1)))) := Lib.hid ⟨qs, rfl, okq, valq⟩
      have HT := Lib.hid (no2.there (n := (i64s qs).toArray.size) (by simp [i64s, okq.1, HB.out.2.1]))
      have HS := Lib.hid (size16a qs okq.1)
      have HO := Lib.hid (one16 qs)
      have no3 := no2.setAll (ms := qs) (by rw [HB.out.2.1, okq.1])
      have na3 := (HB.out.2.2.1.later b2).setFar (show go ≠ w.heap.size by omega) (i64s qs)
      have nz3 := (HB.out.2.2.2.1.later b2).setFar (show go ≠ w.heap.size + 1 by omega) (i64s qs)
      have bw3 := below_cells (show w.heap.size ≤ go by omega) (i64s qs) 0 _ (HB.out.2.2.2.2.then_ b2)
      have HQ := Lib.hid (And.intro no3 (And.intro na3 (And.intro nz3 (And.intro bw3 okq.1))))
      have HOQ := Lib.hid okq
      have HVQ := Lib.hid valq
      clear no2 no3 na3 nz3 bw3 okq valq b2
      obtain ⟨q, hq⟩ : ∃ q, m / 8 = q := ⟨_, rfl⟩
      obtain ⟨t, ht⟩ : ∃ t, m % 8 = t := ⟨_, rfl⟩
      have hlm : m / 8 < es.length := by rw [HL.out]; omega
      have hbit := bit_at es m hlm
      simp only [hq, ht] at hbit hlm
      have hbb := bits_one (es[q]).toNat t (es[q]).toNat_lt
      have HEX := Lib.hid (exp_step (leN es) m)
      have f1 : (m : Int) / 8 = (q : Int) := by omega
      have f2 : Int.tmod (m : Int) 8 = (t : Int) := by rw [Int.tmod_eq_emod_of_nonneg (by omega)]; omega
      have ht8 : t < 8 := by omega
      have e1 : IntKind.i64.wrap ((m : Int) - 1) = (m : Int) - 1 := IntWalk.i64_in _ (by omega)
      have hm0 : decide ((0 : Int) ≤ (m : Int)) = true := by simp
      have hmb : (m : Int) < 256 := by omega
      rcases Nat.mod_two_eq_zero_or_one ((es[q]).toNat / 2 ^ t) with hz | hz
      · rw [hz] at hbit hbb
        have hexp : leN es / 2 ^ m = leN es / 2 ^ (m + 1) + leN es / 2 ^ (m + 1) := by have := HEX.out; omega
        have hnew : PwS r es av w go m (w2.setCells go 0 (i64s qs)) := by
          refine ⟨qs, HQ.out.1, HOQ.out, ?_, HQ.out.2.1, HQ.out.2.2.1, HQ.out.2.2.2.1⟩
          rw [hexp, Nat.pow_add]; exact HVQ.out
        have HNW := Lib.hid hnew
        clear hbit hexp hnew hz hq ht
        go_wp2_with (refine wpList_store_mid rfl 33 _ _ rfl go 0 (i64s qs).toArray rfl rfl HT.out HS.out HO.out ?_)
        exact ⟨⟨m, (m : Int) - 1, by omega, rfl, rfl, HNW.out⟩, by simp [intOf]⟩
      · rw [hz] at hbit hbb
        have hexp : leN es / 2 ^ m = leN es / 2 ^ (m + 1) + leN es / 2 ^ (m + 1) + 1 := by have := HEX.out; omega
        have hrq := HQ.out.1.rng
        have hra := HQ.out.2.1.rng
        have hsa := size16' av H0.out.2.2
        have HRR := Lib.hid (And.intro hrq (And.intro (size16' qs HQ.out.2.2.2.2) (And.intro hra hsa)))
        have HXP := Lib.hid hexp
        clear hbit hexp hz hq ht hrq hra hsa
        go_wp2_with (first
          | (refine wpList_store_mid rfl 33 _ _ rfl go 0 (i64s qs).toArray rfl rfl HT.out HS.out HO.out ?_)
          | (refine wpList_load_mid rfl 33 _ rfl go 0 rfl (i64s qs) _ HRR.out.1 Try.underlying33 rfl HRR.out.2.1 ?_)
          | (refine wpList_load_mid rfl 33 _ rfl w.heap.size 0 rfl (i64s av) _ HRR.out.2.2.1 Try.underlying33 rfl HRR.out.2.2.2 ?_))
        refine (refMul_num _ _ _ _ HNQ.out HV.out _).mono ?_
        rintro e w4 ⟨x4, rfl, hx4, b4⟩
        obtain ⟨ts, rfl, okt, valt⟩ := hx4
        have no4 := HQ.out.1.later b4
        have HT4 := Lib.hid (no4.there (n := (i64s ts).toArray.size) (by simp [i64s, okt.1, HQ.out.2.2.2.2]))
        have HS4 := Lib.hid (size16a ts okt.1)
        have HO4 := Lib.hid (one16 ts)
        have hnew : PwS r es av w go m (w4.setCells go 0 (i64s ts)) := by
          refine ⟨ts, no4.setAll (by rw [HQ.out.2.2.2.2, okt.1]), okt, ?_, (HQ.out.2.1.later b4).setFar (show go ≠ w.heap.size by omega) _, (HQ.out.2.2.1.later b4).setFar (show go ≠ w.heap.size + 1 by omega) _, below_cells (show w.heap.size ≤ go by omega) _ _ _ (HQ.out.2.2.2.1.then_ b4)⟩
          rw [HXP.out, Nat.pow_add, Nat.pow_add, Nat.pow_one]; exact valt
        have HNW := Lib.hid hnew
        clear no4 okt valt b4 hnew
        go_wp2_with (refine wpList_store_mid rfl 33 _ _ rfl go 0 (i64s ts).toArray rfl rfl HT4.out HS4.out HO4.out ?_)
        exact ⟨⟨m, (m : Int) - 1, by omega, rfl, rfl, HNW.out⟩, by simp [intOf]⟩
    | zero =>
      obtain rfl : z = -1 := by omega
      have hval : IsNum (A16 os) (r ^ leN es) := ⟨os, rfl, oko, by rw [vo, Nat.pow_zero, Nat.div_one]⟩
      have hrg := no.rng
      have hbf := below_cells (show w.heap.size ≤ w.heap.size + 1 by omega) (i64s os) 0 _ bw
      have HF := Lib.hid (And.intro hrg (And.intro (size16' os oko.1) (And.intro (nz.there (n := (i64s os).toArray.size) (by simp [i64s, oko.1, Z16])) (And.intro (size16a os oko.1) (And.intro (one16 os) (And.intro (ld16 (nz.setAll (ms := os) (by rw [oko.1]; rfl)) oko.1) (And.intro hbf hval)))))))
      clear hval hrg hbf no oko vo na nz bw hz
      go_wp2_with (first
        | (refine wpList_load_mid rfl 33 _ rfl go 0 rfl (i64s os) _ HF.out.1 Try.underlying33 rfl HF.out.2.1 ?_)
        | (refine wpList_store_mid rfl 33 _ _ rfl (w.heap.size + 1) 0 (i64s os).toArray rfl rfl HF.out.2.2.1 HF.out.2.2.2.1 HF.out.2.2.2.2.1 ?_))
      exact bodyPost_ret (v := .agg (i64s os).toArray) (results_cell rfl _ _ _ _ rfl HF.out.2.2.2.2.2.1) rfl ⟨_, rfl, HF.out.2.2.2.2.2.2.2, HF.out.2.2.2.2.2.2.1⟩
end Go.Proofs.Ytpdoegfmngibgaa
