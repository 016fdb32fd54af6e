/- Texts put together: LetF LetR IdEv QuR QuVr. -/
import Derived.Test.YtkbcbikilgcckaaGreatDoorZ95fb19a6cc
import Derived.Test.YtkbcbikilgcckaaGreatDoorShelf
import Derived.Test.YtkbcbikilgcckaaGreatDoorZe0ec6b32e3
import Derived.Test.YtkbcbikilgcckaaGreatDoorZb913a2313a
namespace Go.Proofs.YtkbcbikilgcckaaGreatDoor
open Go.ChangeShapes Go.WideShapes Go.ChangeAt Go.RowKit Go.IntWalk
set_option linter.unusedVariables false
set_option maxRecDepth 100000

set_option maxHeartbeats 2000000 in
theorem refdec_calls (s : ByteArray) (u : Bool) (w : World) (hi : s.size ≤ 68719476736) :
    Calls Tryz.prog 96 #[.string s, .bool u] w (DecPost u s.data.toList w.heap.size w) := by
  obtain ⟨i0, hi0, hz0, hz1, hz2⟩ := info_parts infoU8
  have hsl : s.size = s.data.toList.length := rfl
  have HSL := Lib.hid hsl; clear hsl
  go_enter Tryz.func96, Tryz.ntmps96
  go_wp2_with (refine wpList_make_full _ rfl _ _ _ rfl w.heap.size 5 i0 (.int .u8 0) 1 Tryz.underlying65 hi0 hz0 hz1 .i64 .i64 ((s.size : Int) * 6 / 8) ((s.size : Int) * 6 / 8) (s.size * 6 / 8) rfl rfl (by omega) (by omega) (by rw [hz2]; omega) (by unfold maxLen; omega) (Nat.le_refl _) ?_; intro w1 hown hgrow)
  have hb1 : Below w.heap.size w w1 := (Below.refl _ _).grown hgrow (Nat.le_refl _) (fun k h => by cases h)
  obtain ⟨L, hL⟩ : ∃ L, L = s.size * 6 / 8 := ⟨_, rfl⟩
  rw [← hL] at hown ⊢
  have hLm : L ≤ s.size := by omega
  have HL := Lib.hid hL; clear hL
  rw [zeros_u8] at hown
  have hblk : BlkBs w1 w.heap.size (laids s.size (accD u s.data.toList) L 0) := by
    rw [laids_zero]
    refine BlkBs.of_own (base := w.heap.size) (n := L) ?_
    unfold OwnBs
    rw [List.length_replicate]
    exact hown
  clear hown hgrow
  go_loopw [7] (fun v wr => ∃ i : Nat, i ≤ s.size ∧ v = .int .i64 i ∧ (∀ c ∈ s.data.toList.take i, (numF u c.toNat).isSome = true) ∧ BlkBs wr w.heap.size (laids s.size (accD u s.data.toList) L (6 * i)) ∧
      tail s.size (accD u s.data.toList) (6 * i) ∧ Below w.heap.size w wr) (fun v _ => s.size - (intOf v).toNat)
  case atStart => exact ⟨0, Nat.zero_le _, rfl, by simp, hblk, fun t _ h => absurd h (by omega), hb1⟩
  case round =>
    clear hblk hb1
    obtain ⟨i, hi', rfl, hall, hblk, htail, hbr⟩ := hrel
    have HALL := Lib.hid hall; clear hall
    have HT := Lib.hid htail; clear htail
    have hsz := hbr.size
    by_cases hlt : i < s.size
    · obtain ⟨wo, rfl⟩ : ∃ wo : World, wo = wr := ⟨_, rfl⟩
      obtain ⟨C, hC⟩ : ∃ C, C = s[i] := ⟨_, rfl⟩
      have hCd : C = s.data.toList.getD i 0 := by
        have h' : i < s.data.toList.length := hlt
        rw [hC, List.getD_eq_getElem?_getD, List.getElem?_eq_getElem h']; rfl
      have HC := Lib.hid hCd; clear hCd
      have HC' := Lib.hid hC; clear hC
      go_wp2_with fail
      go_loopw [8] (fun v w3 => ∃ n nd : Nat, n ≤ 64 ∧ v = .int .i64 n ∧ (∀ n', n' < n → letB u n' ≠ C) ∧ w3 = wo.drewN nd) (fun v _ => 64 - (intOf v).toNat)
      case atStart => exact ⟨0, 0, by omega, rfl, fun n' h => absurd h (by omega), rfl⟩
      case round =>
        obtain ⟨n, nd, hn, rfl, hno, hw⟩ := hrel
        have HW := Lib.hid hw; clear hw
        have HNO := Lib.hid hno; clear hno
        by_cases hn64 : n < 64
        · have hdn : decide ((n : Int) < 64) = true := by simp; omega
          have hil : (i : Int) < (s.size : Int) := by omega
          have hi0' : (0 : Int) ≤ (i : Int) := by omega
          by_cases heq : letB u n = C
          · have hne : (((letF u n : Nat) : Int) != ((s[i].toNat : Nat) : Int)) = false := by
              have := HC'.out
              simp [letF, heq, this]
            go_wp2_with fail
            go_quiet ((go_at_call 124; exact Calls.quiet_of_eq (letter_calls _ _ _ (by omega) (by omega))))
            have hn6 : ((n : Int) == 64) = false := by simp; omega
            obtain ⟨w4, hw4⟩ : ∃ w4, w4 = wr.drewN nq := ⟨_, rfl⟩
            rw [← hw4]
            have hblk4 : BlkBs w4 w.heap.size (laids s.size (accD u s.data.toList) L (6 * i + 0)) := by rw [hw4, HW.out]; exact hblk
            have hbr4 : Below w.heap.size w w4 := by rw [hw4, HW.out]; exact (hbr.drewN _).drewN _
            have HCI : Hid (numF u (s.data.toList.getD i 0).toNat = some n) := by show _ = _; rw [← HC.out, ← heq]; exact numF_letB u n hn64
            clear hw4 HW hblk hbr hsz heq hne HNO
            go_wp2_with fail
            go_loopw [9] (fun v w5 => ∃ k : Nat, k ≤ 6 ∧ v = .int .i64 k ∧ BlkBs w5 w.heap.size (laids s.size (accD u s.data.toList) L (6 * i + k)) ∧ tail s.size (accD u s.data.toList) (6 * i + k) ∧ Below w.heap.size w w5)
              (fun v _ => 6 - (intOf v).toNat)
            case atStart => exact ⟨0, by omega, rfl, hblk4, HT.out, hbr4⟩
            case round =>
              clear hblk4 hbr4 HT
              obtain ⟨k, hk, rfl, hblk, htail, hbr⟩ := hrel
              have HT := Lib.hid htail; clear htail
              by_cases hk6 : k < 6
              · have hlt6 : 6 * i + k < 6 * s.size := by omega
                have hbd := bitD_digit u s.data.toList i k n (by rw [← HSL.out]; exact hlt) hk6 HCI.out
                rw [← HSL.out] at hbd
                have hbit : bits BinOp.and IntKind.i64 ((n : Int) / 2 ^ (5 - k)) 1 = ((n / 2 ^ (5 - k) % 2 : Nat) : Int) := by
                  have hq : ((n : Int) / 2 ^ (5 - k)) = ((n / 2 ^ (5 - k) : Nat) : Int) := by simp
                  have hle : n / 2 ^ (5 - k) ≤ n := Nat.div_le_self _ _
                  rw [hq]
                  generalize n / 2 ^ (5 - k) = q at *
                  rw [i64_and1 _ (by omega) (by omega)]; rfl
                by_cases hb0 : n / 2 ^ (5 - k) % 2 = 0
                · rw [hb0] at hbit hbd
                  have HBD := Lib.hid hbd; clear hbd hb0
                  go_wp2
                  go_roundw
                  case rel => exact ⟨k + 1, by omega, by go_num, by rw [← Nat.add_assoc, laids_stay _ _ _ _ hlt6 HBD.out]; exact hblk, fun t h1 h2 => by
                    by_cases h3 : t < 6 * i + k
                    · exact HT.out t h1 h3
                    · rw [show t = 6 * i + k from by omega]; exact HBD.out, hbr⟩
                  case measure => simp [intOf]; omega
                · have hb1 : n / 2 ^ (5 - k) % 2 = 1 := by omega
                  rw [hb1] at hbit hbd
                  have HBD := Lib.hid hbd; clear hbd hb0 hb1
                  by_cases hat : (6 * i + k) / 8 < L
                  · have hat' : (6 * (i : Int) + k) / 8 < (L : Int) := by omega
                    have hat0 : 0 ≤ (6 * (i : Int) + k) / 8 := by omega
                    have hcell := hblk.cell (k := (6 * i + k) / 8) (by rw [laids_length]; exact hat)
                    rw [laids_get _ _ _ _ _ hat] at hcell
                    have hfr := hblk.frozen ((6 * i + k) / 8)
                    have HV : Hid (bits BinOp.or IntKind.u8 ((laid s.size (accD u s.data.toList) ((6 * i + k) / 8) (6 * i + k) : Nat) : Int) (128 / 2 ^ ((6 * i + k) % 8)) =
                        (((UInt8.ofNat (laid s.size (accD u s.data.toList) ((6 * i + k) / 8) (6 * i + k) ||| 2 ^ (7 - (6 * i + k) % 8))).toNat : Nat) : Int)) := by
                      show _ = _
                      have hll := laid_lt s.size (accD u s.data.toList) ((6 * i + k) / 8) (6 * i + k)
                      have he : (6 * i + k) % 8 < 8 := by omega
                      generalize (6 * i + k) % 8 = e at *
                      rw [show ((128 : Int) / 2 ^ e) = ((2 ^ (7 - e) : Nat) : Int) from by
                        obtain rfl | rfl | rfl | rfl | rfl | rfl | rfl | rfl : e = 0 ∨ e = 1 ∨ e = 2 ∨ e = 3 ∨ e = 4 ∨ e = 5 ∨ e = 6 ∨ e = 7 := by omega
                        all_goals rfl]
                      have h2 : 2 ^ (7 - e) < 2 ^ 8 := Nat.pow_lt_pow_right (by decide) (by omega)
                      rw [u8_or_nat _ _ hll h2, UInt8.toNat_ofNat', Nat.mod_eq_of_lt (Nat.or_lt_two_pow hll h2)]
                    go_wp2_with fail
                    rw [HV.out]
                    go_roundw
                    case rel => exact ⟨k + 1, by omega, by go_num, by
                        rw [← Nat.add_assoc, laids_set _ _ _ _ hlt6 HBD.out hat]; exact hblk.set_ _ _, fun t h1 h2 => by
                      by_cases h3 : t < 6 * i + k
                      · exact HT.out t h1 h3
                      · exfalso; have := HL.out; omega, hbr.setCell (Nat.le_refl _) _⟩
                    case measure => simp [intOf]; omega
                  · have hat' : ¬ (6 * (i : Int) + k) / 8 < (L : Int) := by omega
                    go_wp2
                    go_ret2
                    refine DecPost.no ?_ hbr
                    unfold decF
                    rw [if_neg]
                    rintro ⟨_, _, h3⟩
                    rw [← HSL.out] at h3
                    exact tail_no s.size (accD u s.data.toList) (6 * i + k) (by rw [HBD.out]; decide) (by rw [show 6 * s.size / 8 = L from by have := HL.out; omega]; omega) hlt6 h3
              · obtain rfl : k = 6 := by omega
                go_wp2
                go_roundw
                case rel => exact ⟨i + 1, by omega, by go_num, by
                  intro c hc
                  have hk' : i < s.data.toList.length := by rw [← HSL.out]; exact hlt
                  rw [List.take_add_one, List.getElem?_eq_getElem hk'] at hc
                  simp only [Option.toList_some, List.mem_append, List.mem_singleton] at hc
                  rcases hc with hc | rfl
                  · exact HALL.out c hc
                  · have e : s.data.toList[i] = s.data.toList.getD i 0 := by rw [List.getD_eq_getElem?_getD, List.getElem?_eq_getElem hk']; rfl
                    rw [e, HCI.out]; rfl, hblk, HT.out, hbr⟩
                case measure => simp [intOf]; omega
          · have hne : (((letF u n : Nat) : Int) != ((s[i].toNat : Nat) : Int)) = true := by
              have := HC'.out
              simp only [bne_iff_ne, letF, ← this]
              intro h
              apply heq
              exact UInt8.toNat_inj.1 (by omega)
            go_wp2_with fail
            go_quiet ((go_at_call 124; exact Calls.quiet_of_eq (letter_calls _ _ _ (by omega) (by omega))))
            go_wp2
            go_roundw
            case rel => exact ⟨n + 1, nd + nq, by omega, by go_num, fun n' h' => by
              by_cases h1 : n' < n
              · exact HNO.out n' h1
              · rw [show n' = n from by omega]; exact heq, by rw [HW.out, World.drewN_drewN]⟩
            case measure => simp [intOf]; omega
        · obtain rfl : n = 64 := by omega
          have hdn : decide (((64 : Nat) : Int) < 64) = false := by simp
          go_wp2_with fail
          go_quiet (fail)
          go_wp2
          go_ret2
          refine DecPost.no (decF_bad (k := i) (by rw [← HSL.out]; exact hlt) ?_) (by rw [HW.out]; exact (hbr.drewN _).drewN _)
          rw [← HC.out]
          cases hnf : numF u C.toNat with
          | none => rfl
          | some d => exact absurd (letB_numF u C d hnf) (HNO.out d (numF_lt u _ d hnf).1)
    · have hin : i = s.size := by omega
      have HIN := Lib.hid hin; clear hin
      have hbs : s.data.toList.take i = s.data.toList := by rw [HIN.out, HSL.out]; exact List.take_length
      have HB := Lib.hid hbs; clear hbs
      by_cases h4 : s.size % 4 = 1
      · have h4' : ((s.size : Int) % 4 == 1) = true := by simp; omega
        go_wp2
        go_ret2
        refine DecPost.no ?_ hbr
        unfold decF
        rw [if_neg]
        rintro ⟨_, h2, _⟩
        rw [← HSL.out] at h2
        omega
      · have h4' : ((s.size : Int) % 4 == 1) = false := by simp; omega
        go_wp2
        go_ret2
        refine DecPost.yes (o := outs s.size (accD u s.data.toList) L) ?_ ?_ hbr
        · unfold decF
          rw [if_pos, ← HSL.out, show 6 * s.size / 8 = L from by have := HL.out; omega]
          refine ⟨?_, by rw [← HSL.out]; omega, by rw [← HSL.out]; exact tail_all _ _ (by have := HT.out; rw [HIN.out] at this; exact this)⟩
          have := HALL.out; rw [HB.out] at this; exact this
        · have h1 := hblk
          rw [HIN.out, laids_end _ _ _ (by have := HL.out; omega)] at h1
          exact h1.own (Nat.le_refl _) (by rw [outs_length]) (by unfold maxLen; omega)

theorem refdec_list (l : List UInt8) (u : Bool) (w : World) (hi : l.length ≤ 68719476736) :
    Calls Tryz.prog 96 #[.string ⟨l.toArray⟩, .bool u] w (DecPost u l w.heap.size w) := by
  have := refdec_calls ⟨l.toArray⟩ u w hi
  simpa using this
end Go.Proofs.YtkbcbikilgcckaaGreatDoor
namespace Go.Proofs.YtkbcbikilgcckaaGreatDoor
set_option linter.unusedVariables false

theorem acc_lt (l : List UInt8) : acc l < 2 ^ (8 * l.length) := by
  have h : ∀ k, k ≤ l.length → acc (l.take k) < 2 ^ (8 * k) := by
    intro k
    induction k with
    | zero => intro _; simp [acc]
    | succ k ih =>
      intro hk
      rw [acc_take l k (by omega)]
      have h1 := ih (by omega)
      have hb := (l.getD k 0).toNat_lt
      rw [show 8 * (k + 1) = 8 * k + 8 from by omega, Nat.pow_add]
      omega
  have := h l.length (Nat.le_refl _)
  rwa [List.take_length] at this

theorem accD_lt (u : Bool) (l : List UInt8) : accD u l < 2 ^ (6 * l.length) := by
  have h : ∀ k, k ≤ l.length → accD u (l.take k) < 2 ^ (6 * k) := by
    intro k
    induction k with
    | zero => intro _; simp [accD]
    | succ k ih =>
      intro hk
      rw [accD_take u l k (by omega)]
      have h1 := ih (by omega)
      have hb : (numF u (l.getD k 0).toNat).getD 0 < 64 := by
        cases h : numF u (l.getD k 0).toNat with
        | none => simp
        | some d => have := numF_lt u _ d h; simp; omega
      rw [show 6 * (k + 1) = 6 * k + 6 from by omega, Nat.pow_add]
      omega
  have := h l.length (Nat.le_refl _)
  rwa [List.take_length] at this

theorem accD_lets (u : Bool) (m A : Nat) (hA : A < 2 ^ (8 * m)) : ∀ j, 6 * j ≤ 8 * m + 4 → accD u (lets u m A j) = A * 16 / 2 ^ (8 * m + 4 - 6 * j) := by
  intro j
  induction j with
  | zero =>
    intro _
    have : A * 16 < 2 ^ (8 * m + 4) := by rw [Nat.pow_add]; omega
    simp only [Nat.mul_zero, Nat.sub_zero]
    rw [Nat.div_eq_of_lt this]; rfl
  | succ j ih =>
    intro hj
    rw [lets_snoc, accD_snoc, ih (by omega), numF_letB u _ (sx_lt _ _ _), Option.getD_some]
    unfold sx
    rw [show 8 * m + 4 - 6 * j = 8 * m + 4 - 6 * (j + 1) + 6 from by omega, Nat.pow_add, ← Nat.div_div_eq_div_mul]
    generalize A * 16 / 2 ^ (8 * m + 4 - 6 * (j + 1)) = x
    omega

theorem lets_good (u : Bool) (m A q : Nat) : ∀ c ∈ lets u m A q, (numF u c.toNat).isSome = true := by
  intro c hc
  unfold lets at hc
  obtain ⟨j, _, rfl⟩ := List.mem_map.1 hc
  rw [numF_letB u _ (sx_lt _ _ _)]; rfl

theorem decF_encF (u : Bool) (bs : List UInt8) : decF u (encF u bs) = some bs := by
  obtain ⟨m, hm⟩ : ∃ m, m = bs.length := ⟨_, rfl⟩
  obtain ⟨A, hA⟩ : ∃ A, A = acc bs := ⟨_, rfl⟩
  have hlt : A < 2 ^ (8 * m) := by rw [hA, hm]; exact acc_lt bs
  obtain ⟨q, hq⟩ : ∃ q, q = (8 * m + 5) / 6 := ⟨_, rfl⟩
  obtain ⟨r, hr⟩ : ∃ r, r = 6 * q - 8 * m := ⟨_, rfl⟩
  have hq8 : 8 * m ≤ 6 * q := by omega
  have hrr : r = 0 ∨ r = 2 ∨ r = 4 := by omega
  have e : encF u bs = lets u m A q := by unfold encF; rw [← hm, ← hA, ← hq]
  rw [e]
  have hD := accD_lets u m A hlt q (by omega)
  have hlen := lets_length u m A q
  have hD' : accD u (lets u m A q) = A * 2 ^ r := by
    rw [hD]
    rcases hrr with h | h | h
    · rw [h, show 8 * m + 4 - 6 * q = 4 from by omega]; omega
    · rw [h, show 8 * m + 4 - 6 * q = 2 from by omega]; omega
    · rw [h, show 8 * m + 4 - 6 * q = 0 from by omega]; omega
  unfold decF
  rw [hlen, hD', if_pos ⟨lets_good u m A q, by omega, by rw [show 6 * q % 8 = r from by omega]; exact Nat.mul_mod_left _ _⟩]
  congr 1
  rw [show 6 * q / 8 = m from by omega]
  refine List.ext_getElem (by rw [outs_length, hm]) fun j h1 h2 => ?_
  simp only [outs, List.getElem_map, List.getElem_range]
  have hj : j < m := by rw [outs_length] at h1; exact h1
  have hd := acc_digit bs m (by omega) j hj
  rw [hm, List.take_length, ← hm, ← hA] at hd
  have hb : bx q (A * 2 ^ r) j = (bs.getD j 0).toNat := by
    unfold bx
    rw [← hd, show 6 * q - 8 * (j + 1) = r + 8 * (m - 1 - j) from by omega, Nat.pow_add, ← Nat.div_div_eq_div_mul, Nat.mul_div_cancel _ (Nat.two_pow_pos r)]
  rw [hb, List.getD_eq_getElem?_getD, List.getElem?_eq_getElem (by omega)]
  simp

theorem acc_outs (m A : Nat) (hA : A < 2 ^ (6 * m)) : ∀ j, 8 * j ≤ 6 * m → acc (outs m A j) = A / 2 ^ (6 * m - 8 * j) := by
  intro j
  induction j with
  | zero => intro _; simp only [Nat.mul_zero, Nat.sub_zero]; rw [Nat.div_eq_of_lt hA]; rfl
  | succ j ih =>
    intro hj
    rw [outs_snoc, acc_snoc, ih (by omega), UInt8.toNat_ofNat', Nat.mod_eq_of_lt (bx_lt _ _ _)]
    unfold bx
    rw [show 6 * m - 8 * j = 6 * m - 8 * (j + 1) + 8 from by omega, Nat.pow_add, ← Nat.div_div_eq_div_mul]
    generalize A / 2 ^ (6 * m - 8 * (j + 1)) = x
    omega

theorem encF_decF (u : Bool) (s o : List UInt8) (h : decF u s = some o) : encF u o = s := by
  unfold decF at h
  split at h
  · rename_i hc
    obtain ⟨h1, h2, h3⟩ := hc
    obtain ⟨m, hm⟩ : ∃ m, m = s.length := ⟨_, rfl⟩
    obtain ⟨A, hA⟩ : ∃ A, A = accD u s := ⟨_, rfl⟩
    have hlt : A < 2 ^ (6 * m) := by rw [hA, hm]; exact accD_lt u s
    rw [← hm, ← hA] at h3 h
    rw [← hm] at h2
    obtain ⟨L, hL⟩ : ∃ L, L = 6 * m / 8 := ⟨_, rfl⟩
    obtain ⟨r, hr⟩ : ∃ r, r = 6 * m % 8 := ⟨_, rfl⟩
    rw [← hL] at h
    rw [← hr] at h2 h3
    have hrr : r = 0 ∨ r = 2 ∨ r = 4 := by omega
    cases h
    have hacc := acc_outs m A hlt L (by omega)
    rw [show 6 * m - 8 * L = r from by omega] at hacc
    unfold encF
    rw [outs_length, hacc, show (8 * L + 5) / 6 = m from by omega]
    refine List.ext_getElem (by rw [lets_length, hm]) fun j g1 g2 => ?_
    simp only [lets, List.getElem_map, List.getElem_range]
    have hj : j < m := by omega
    have hd := accD_digit u s m (by omega) j hj
    rw [hm, List.take_length, ← hm, ← hA] at hd
    have hs : s.getD j 0 = s[j] := by rw [List.getD_eq_getElem?_getD, List.getElem?_eq_getElem g2]; rfl
    rw [hs] at hd
    obtain ⟨d, hnd⟩ := Option.isSome_iff_exists.1 (h1 s[j] (List.getElem_mem g2))
    rw [hnd, Option.getD_some] at hd
    have hx : sx L (A / 2 ^ r) j = d := by
      rw [← hd]
      unfold sx
      congr 1
      rw [show 6 * (m - 1 - j) = 6 * m - 6 * (j + 1) from by omega]
      have hdvd : A = A / 2 ^ r * 2 ^ r := by have := Nat.div_add_mod A (2 ^ r); rw [h3] at this; rw [Nat.mul_comm]; omega
      generalize A / 2 ^ r = B at *
      subst hdvd
      rcases hrr with h | h | h
      · subst h
        rw [show 8 * L + 4 - 6 * (j + 1) = 4 + (6 * m - 6 * (j + 1)) from by omega, Nat.pow_add, ← Nat.div_div_eq_div_mul]
        congr 1
        omega
      · subst h
        rw [show 8 * L + 4 - 6 * (j + 1) = 2 + (6 * m - 6 * (j + 1)) from by omega, Nat.pow_add, ← Nat.div_div_eq_div_mul]
        congr 1
        omega
      · subst h
        rw [show 8 * L + 4 - 6 * (j + 1) = 6 * m - 6 * (j + 1) from by omega]
    rw [hx]
    exact letB_numF u _ d hnd
  · cases h

theorem acc_from (r : List UInt8) : ∀ a : Nat, r.foldl (fun a c => a * 256 + c.toNat) a = a * 2 ^ (8 * r.length) + acc r := by
  unfold acc
  induction r with
  | nil => intro a; simp
  | cons c r ih =>
    intro a
    rw [List.foldl_cons, List.foldl_cons, ih, ih (0 * 256 + c.toNat), List.length_cons, show 8 * (r.length + 1) = 8 + 8 * r.length from by omega, Nat.pow_add]
    generalize 2 ^ (8 * r.length) = X
    rw [Nat.add_mul, Nat.mul_assoc, Nat.zero_mul, Nat.zero_add, Nat.add_assoc]
theorem acc_append (l r : List UInt8) : acc (l ++ r) = acc l * 2 ^ (8 * r.length) + acc r := by
  rw [← acc_from]; unfold acc; rw [List.foldl_append]

theorem encF_append (u : Bool) (l r : List UInt8) (h : l.length % 3 = 0) : encF u (l ++ r) = encF u l ++ encF u r := by
  obtain ⟨t, ht⟩ : ∃ t, l.length = 3 * t := ⟨l.length / 3, by omega⟩
  have hr := acc_lt r
  unfold encF
  refine List.ext_getElem ?_ fun j g1 g2 => ?_
  · simp only [List.length_append, lets_length]; omega
  · rw [List.getElem_append]
    simp only [lets, List.getElem_map, List.getElem_range, List.length_map, List.length_range]
    rw [acc_append, List.length_append]
    simp only [lets_length, List.length_append] at g1
    split
    · rename_i hj
      congr 1
      unfold sx
      have hj' : 6 * (j + 1) ≤ 8 * l.length := by omega
      rw [show 8 * (l.length + r.length) + 4 - 6 * (j + 1) = (8 * r.length + 4) + (8 * l.length - 6 * (j + 1)) from by omega,
        show 8 * l.length + 4 - 6 * (j + 1) = 4 + (8 * l.length - 6 * (j + 1)) from by omega, Nat.pow_add, Nat.pow_add 2 4, ← Nat.div_div_eq_div_mul, ← Nat.div_div_eq_div_mul]
      congr 2
      rw [Nat.pow_add, ← Nat.mul_comm (2 ^ 4), ← Nat.div_div_eq_div_mul]
      have e1 : (acc l * 2 ^ (8 * r.length) + acc r) * 16 / 2 ^ 4 = acc l * 2 ^ (8 * r.length) + acc r := by omega
      rw [e1, Nat.mul_comm, Nat.mul_add_div (Nat.two_pow_pos _), Nat.div_eq_of_lt hr]
      omega
    · rename_i hj
      have hq : (8 * l.length + 5) / 6 = 4 * t := by omega
      rw [hq] at hj ⊢
      congr 1
      unfold sx
      have e1 : 8 * (l.length + r.length) + 4 - 6 * (j + 1) = 8 * r.length + 4 - 6 * (j - 4 * t + 1) := by omega
      rw [e1]
      obtain ⟨e, he⟩ : ∃ e, 8 * r.length + 4 - 6 * (j - 4 * t + 1) = e := ⟨_, rfl⟩
      rw [he]
      have hE : 8 * r.length + 4 = e + 6 + 6 * (j - 4 * t) := by omega
      have : (acc l * 2 ^ (8 * r.length) + acc r) * 16 = 2 ^ e * (64 * (acc l * 2 ^ (6 * (j - 4 * t)))) + acc r * 16 := by
        have h1 : 2 ^ (8 * r.length) * 16 = 2 ^ e * (64 * 2 ^ (6 * (j - 4 * t))) := by
          rw [show (16 : Nat) = 2 ^ 4 from rfl, show (64 : Nat) = 2 ^ 6 from rfl, ← Nat.pow_add, ← Nat.pow_add, ← Nat.pow_add, hE]
          congr 1
          omega
        rw [Nat.add_mul, Nat.mul_assoc, h1, ← Nat.mul_assoc, ← Nat.mul_assoc, Nat.mul_comm (acc l) (2 ^ e)]
        simp only [Nat.mul_left_comm, Nat.mul_comm]
      rw [this, Nat.mul_add_div (Nat.two_pow_pos _), Nat.mul_add_mod]
end Go.Proofs.YtkbcbikilgcckaaGreatDoor
namespace Go.Proofs.YtkbcbikilgcckaaGreatDoor
open Go.ChangeShapes Go.WideShapes Go.ChangeAt Go.RowKit Go.IntWalk
set_option linter.unusedVariables false
set_option maxRecDepth 100000

/-- Is a text an event's name? -/
def evF (l : List UInt8) : Bool := Lib.hasPrefix l [36] && decide (l.length = 44) && (decF true (l.drop 1)).isSome

theorem trim_dollar (l : List UInt8) (h : Lib.hasPrefix l [36] = true) : ∃ t, l = 36 :: t ∧ Lib.trimPrefix l [36] = t := by
  cases l with
  | nil => simp [Lib.hasPrefix] at h
  | cons c t =>
    have hc : 36 = c := by simpa [Lib.hasPrefix] using h
    subst hc
    exact ⟨t, rfl, by simp [Lib.trimPrefix, Lib.hasPrefix]⟩

set_option maxHeartbeats 1000000 in
theorem event_calls (s : ByteArray) (w : World) (hs : s.size ≤ 68719476736) :
    Calls Tryz.prog 43 #[.string s] w fun e w' => e = .returned (.bool (evF s.data.toList)) ∧ Below w.heap.size w w' := by
  have hlen : lenF 32 = 43 := by decide
  by_cases hp : Lib.hasPrefix s.data.toList [36] = true
  · obtain ⟨t, ht, htr⟩ := trim_dollar _ hp
    have hsz : s.size = t.length + 1 := by
      have : s.size = s.data.toList.length := rfl
      rw [this, ht]; rfl
    have htl : t.length ≤ 68719476736 := by omega
    have HE : Hid (evF s.data.toList = (decide (t.length = 43) && (decF true t).isSome)) := by
      show _ = _; unfold evF; rw [hp, ht]; simp
    clear hsz
    go_enter Tryz.func43, Tryz.ntmps43
    go_wp2_with fail
    refine (Tryz.strings_CutPrefix s ⟨#[36]⟩ _).mono ?_
    rintro e w' ⟨rfl, rfl⟩
    rw [show (⟨#[36]⟩ : ByteArray).data.toList = [36] from rfl, htr, hp]
    clear ht htr hp
    go_wp2_with fail
    refine (len_calls 32 _ (by omega) (by omega)).mono ?_
    rintro e w' ⟨rfl, rfl⟩
    by_cases h43 : t.length = 43
    · go_wp2_with fail
      refine (decode_list t _ _ htl).mono ?_
      intro e w1 h
      obtain ⟨A, n, c, rfl, hrb, hn, b1, _⟩ := h.open_
      clear h
      go_wp2
      go_ret
      exact ⟨ret_bool (by rw [HE.out]; simp [h43]), b1⟩
    · have h43' : ((t.length : Int) != 43) = true := by simp; omega
      go_wp2
      go_ret
      exact ⟨ret_bool (by rw [HE.out]; simp [h43]), Below.refl _ _⟩
  · have hp' : Lib.hasPrefix s.data.toList [36] = false := by simpa using hp
    have HE : Hid (evF s.data.toList = false) := by show _ = _; unfold evF; rw [hp']; rfl
    go_enter Tryz.func43, Tryz.ntmps43
    go_wp2_with fail
    refine (Tryz.strings_CutPrefix s ⟨#[36]⟩ _).mono ?_
    rintro e w' ⟨rfl, rfl⟩
    rw [show (⟨#[36]⟩ : ByteArray).data.toList = [36] from rfl, hp']
    go_wp2
    go_ret
    exact ⟨ret_bool HE.out.symm, Below.refl _ _⟩

theorem decF_len {u : Bool} {l o : List UInt8} (h : decF u l = some o) : o.length = 6 * l.length / 8 ∧ 6 * l.length % 8 ≠ 6 := by
  unfold decF at h
  split at h
  · rename_i hc
    cases h
    rw [outs_length]; exact ⟨rfl, hc.2.1⟩
  · cases h

theorem evF_nil : evF [] = false := by decide
theorem evF_cons (c : UInt8) (t : List UInt8) : evF (c :: t) = (c == 36 && decide (t.length = 43) && (decF true t).isSome) := by
  unfold evF
  have : Lib.hasPrefix (c :: t) [36] = (c == 36) := by
    unfold Lib.hasPrefix
    by_cases h : c = 36
    · subst h; rfl
    · have h' : (36 == c) = false := by rw [beq_eq_false_iff_ne]; exact fun e => h e.symm
      have h2 : (c == 36) = false := by rw [beq_eq_false_iff_ne]; exact h
      simp only [List.isPrefixOf, h', h2, Bool.false_and]
  rw [this]
  simp

set_option maxHeartbeats 1000000 in
theorem refevent_calls (s : ByteArray) (w : World) (hs : s.size ≤ 68719476736) :
    Calls Tryz.prog 61 #[.string s] w fun e w' => e = .returned (.bool (evF s.data.toList)) ∧ Below w.heap.size w w' := by
  obtain ⟨l, rfl⟩ : ∃ l : List UInt8, s = ⟨l.toArray⟩ := ⟨s.data.toList, by simp⟩
  rw [show (⟨l.toArray⟩ : ByteArray).data.toList = l from rfl]
  have hl : l.length ≤ 68719476736 := hs
  clear hs
  cases l with
  | nil =>
    go_enter Tryz.func61, Tryz.ntmps61
    go_wp2
    go_ret
    exact ⟨ret_bool evF_nil.symm, Below.refl _ _⟩
  | cons c t =>
    have htl : t.length ≤ 68719476735 := by simp at hl; omega
    have HE : Hid (evF (c :: t) = (c == 36 && decide (t.length = 43) && (decF true t).isSome)) := evF_cons c t
    by_cases hc : c = 36
    · subst hc
      have hc0 : (((36 : UInt8).toNat : Int) != 36) = false := rfl
      go_enter Tryz.func61, Tryz.ntmps61
      go_wp2_with fail
      refine (refdec_list t _ _ (by omega)).mono ?_
      intro e w1 h
      obtain ⟨A, n, c, rfl, hrb, hn, b1, hd⟩ := h.open_
      clear h hd
      cases hdf : decF true t with
      | none =>
        rw [hdf] at hrb hn
        go_wp2
        go_ret
        exact ⟨ret_bool (by rw [HE.out, hdf]; simp), b1⟩
      | some o =>
        rw [hdf] at hrb hn
        have hol := decF_len hdf
        have HO := Lib.hid hol; clear hol
        by_cases h43 : t.length = 43
        · have hn32 : n = 32 := by
            have h1 := hn.out
            have h2 := HO.out.1
            simp only [Option.getD_some] at h1
            omega
          subst hn32
          go_wp2
          go_ret
          exact ⟨ret_bool (by rw [HE.out, hdf]; simp [h43]), b1⟩
        · have hn32 : ((n : Int) == 32) = false := by
            have h1 := hn.out
            have h2 := HO.out
            simp only [Option.getD_some] at h1
            simp
            omega
          go_wp2
          go_ret
          exact ⟨ret_bool (by rw [HE.out, hdf]; simp [h43]), b1⟩
    · have hc1 : ((c.toNat : Int) != 36) = true := by
        simp only [bne_iff_ne]; intro h; apply hc; exact UInt8.toNat_inj.1 (by show c.toNat = 36; omega)
      go_enter Tryz.func61, Tryz.ntmps61
      go_wp2
      go_ret
      exact ⟨ret_bool (by rw [HE.out]; simp [hc]), Below.refl _ _⟩
end Go.Proofs.YtkbcbikilgcckaaGreatDoor
namespace Go.Proofs.YtkbcbikilgcckaaGreatDoor
open Go.ChangeShapes Go.WideShapes Go.ChangeAt Go.RowKit Go.IntWalk
set_option linter.unusedVariables false

def TwoI (p : Nat × Nat) (w : World) (e : Ending) (w' : World) : Prop := e = .returned (.tuple #[.int .i64 (p.1 : Nat), .int .i64 (p.2 : Nat)]) ∧ w = w'
theorem TwoI.of {p q : Nat × Nat} {w : World} (h : q = p) : TwoI q w (.returned (.tuple #[.int .i64 (p.1 : Nat), .int .i64 (p.2 : Nat)])) w := by subst h; exact ⟨rfl, rfl⟩

set_option maxRecDepth 100000 in
set_option maxHeartbeats 2000000 in
theorem rune_low (b : UInt8) (t : List UInt8) (w : World) (hl : (b :: t).length ≤ 1000000) (h : b.toNat < 128) :
    Calls Tryz.prog 125 #[.string ⟨(b :: t).toArray⟩] w (TwoI (runeF (b :: t)) w) := by
  have HE := Lib.hid (cls_1 b t h)
  go_enter Tryz.func125, Tryz.ntmps125
  go_wp2
  go_ret2
  exact TwoI.of HE.out

set_option maxRecDepth 100000 in
set_option maxHeartbeats 2000000 in
theorem rune_none (b : UInt8) (t : List UInt8) (w : World) (hl : (b :: t).length ≤ 1000000) (h : 128 ≤ b.toNat ∧ b.toNat < 192 ∨ 248 ≤ b.toNat) :
    Calls Tryz.prog 125 #[.string ⟨(b :: t).toArray⟩] w (TwoI (runeF (b :: t)) w) := by
  have HE := Lib.hid (cls_0 b t h)
  have hlt := b.toNat_lt
  go_enter Tryz.func125, Tryz.ntmps125
  go_wp2
  all_goals (go_ret2; exact TwoI.of (p := (0, 0)) HE.out)
set_option maxRecDepth 100000 in
set_option maxHeartbeats 4000000 in
theorem rune_2 (b : UInt8) (t : List UInt8) (w : World) (hl : (b :: t).length ≤ 1000000) (h : 192 ≤ b.toNat ∧ b.toNat < 224) :
    Calls Tryz.prog 125 #[.string ⟨(b :: t).toArray⟩] w (TwoI (runeF (b :: t)) w) := by
  have HC := Lib.hid (cls_2 b t h)
  have hc0 : b.toNat % 32 < 32 := by omega
  have hlt := b.toNat_lt
  by_cases hs : t.length + 1 < 2
  · have HE := Lib.hid (HC.out.short hs)
    go_enter Tryz.func125, Tryz.ntmps125
    go_wp2
    all_goals (go_ret2; exact TwoI.of (p := (0, 0)) HE.out)
  · go_enter Tryz.func125, Tryz.ntmps125
    go_wp2
    go_loop [4, 7] (fun c v => ∃ k : Nat, k ≤ 2 - 1 ∧ v = .int .i64 ((k + 1 : Nat) : Int) ∧ c = .int .i64 (accF (b.toNat % 32) (b :: t) k : Nat) ∧ Hid (∀ j, 1 ≤ j → j < k + 1 → contB ((b :: t).getD j 0).toNat = true)) (fun _ v => 2 - (intOf v).toNat)
    case atStart => exact ⟨0, by omega, rfl, by show Value.int _ _ = Value.int _ _; congr 1, fun j h1 h2 => by omega⟩
    case round =>
      obtain ⟨k, hk, rfl, rfl, hall⟩ := hrel
      obtain ⟨C, hC⟩ : ∃ C, accF (b.toNat % 32) (b :: t) k = C := ⟨_, rfl⟩
      have hCs := accF_small (b :: t) hc0 (k := k) (by omega)
      rw [hC] at hCs
      rw [hC]
      have HC2 := Lib.hid hC; clear hC
      by_cases hlt2 : k < 2 - 1
      · have hin : k + 1 < (b :: t).length := by rw [List.length_cons]; omega
        obtain ⟨d, hd⟩ : ∃ d, (b :: t)[k + 1] = d := ⟨_, rfl⟩
        have hdg : Hid ((b :: t).getD (k + 1) 0 = d) := by show _ = _; rw [List.getD_eq_getElem?_getD, List.getElem?_eq_getElem hin]; exact hd
        have hdl := d.toNat_lt
        by_cases hb : 128 ≤ d.toNat ∧ d.toNat < 192
        · go_wp2
          go_round
          case rel =>
            have e : accF (b.toNat % 32) (b :: t) (k + 1) = C * 64 + d.toNat % 64 := by
              show accF (b.toNat % 32) (b :: t) k * 64 + ((b :: t).getD (k + 1) 0).toNat % 64 = _
              rw [HC2.out, hdg.out]
            refine ⟨_, _, _, _, ⟨k + 1, by omega, by go_num, ?_, fun j h1 h2 => ?_⟩, rfl, rfl, rfl, rfl⟩
            · rw [e]; congr 1
            · rw [← List.getD_eq_getElem?_getD]
              by_cases h : j < k + 1
              · exact hall.out j h1 h
              · rw [show j = k + 1 from by omega, hdg.out]; simp [contB]; omega
          case measure => simp [intOf]; omega
        · have HE := Lib.hid (HC.out.bad (k + 1) (by omega) (by omega) (by rw [hdg.out]; simp only [contB]; exact decide_eq_false hb))
          go_wp2
          all_goals (go_ret2; exact TwoI.of (p := (0, 0)) HE.out)
      · have hk' : k = 2 - 1 := by omega
        cases hok : okC 128 C with
        | false =>
          have HE := Lib.hid (HC.out.out (by rw [← hk', HC2.out]; exact hok))
          simp only [okC, decide_eq_false_iff_not] at hok
          go_wp2
          all_goals first | (exfalso; omega) | (go_ret2; exact TwoI.of (p := (0, 0)) HE.out)
        | true =>
          have HE := Lib.hid (HC.out.good (by rw [List.length_cons]; omega) (by rw [← show k + 1 = 2 from by omega]; exact hall.out) (by rw [← hk', HC2.out]; exact hok))
          rw [← hk', HC2.out] at HE
          simp only [okC, decide_eq_true_eq] at hok
          go_wp2
          all_goals first | (exfalso; omega) | (go_ret2; exact TwoI.of (p := (C, 2)) HE.out)

set_option maxRecDepth 100000 in
set_option maxHeartbeats 4000000 in
theorem rune_3 (b : UInt8) (t : List UInt8) (w : World) (hl : (b :: t).length ≤ 1000000) (h : 224 ≤ b.toNat ∧ b.toNat < 240) :
    Calls Tryz.prog 125 #[.string ⟨(b :: t).toArray⟩] w (TwoI (runeF (b :: t)) w) := by
  have HC := Lib.hid (cls_3 b t h)
  have hc0 : b.toNat % 16 < 32 := by omega
  have hlt := b.toNat_lt
  by_cases hs : t.length + 1 < 3
  · have HE := Lib.hid (HC.out.short hs)
    go_enter Tryz.func125, Tryz.ntmps125
    go_wp2
    all_goals (go_ret2; exact TwoI.of (p := (0, 0)) HE.out)
  · go_enter Tryz.func125, Tryz.ntmps125
    go_wp2
    go_loop [4, 7] (fun c v => ∃ k : Nat, k ≤ 3 - 1 ∧ v = .int .i64 ((k + 1 : Nat) : Int) ∧ c = .int .i64 (accF (b.toNat % 16) (b :: t) k : Nat) ∧ Hid (∀ j, 1 ≤ j → j < k + 1 → contB ((b :: t).getD j 0).toNat = true)) (fun _ v => 3 - (intOf v).toNat)
    case atStart => exact ⟨0, by omega, rfl, by show Value.int _ _ = Value.int _ _; congr 1, fun j h1 h2 => by omega⟩
    case round =>
      obtain ⟨k, hk, rfl, rfl, hall⟩ := hrel
      obtain ⟨C, hC⟩ : ∃ C, accF (b.toNat % 16) (b :: t) k = C := ⟨_, rfl⟩
      have hCs := accF_small (b :: t) hc0 (k := k) (by omega)
      rw [hC] at hCs
      rw [hC]
      have HC2 := Lib.hid hC; clear hC
      by_cases hlt2 : k < 3 - 1
      · have hin : k + 1 < (b :: t).length := by rw [List.length_cons]; omega
        obtain ⟨d, hd⟩ : ∃ d, (b :: t)[k + 1] = d := ⟨_, rfl⟩
        have hdg : Hid ((b :: t).getD (k + 1) 0 = d) := by show _ = _; rw [List.getD_eq_getElem?_getD, List.getElem?_eq_getElem hin]; exact hd
        have hdl := d.toNat_lt
        by_cases hb : 128 ≤ d.toNat ∧ d.toNat < 192
        · go_wp2
          go_round
          case rel =>
            have e : accF (b.toNat % 16) (b :: t) (k + 1) = C * 64 + d.toNat % 64 := by
              show accF (b.toNat % 16) (b :: t) k * 64 + ((b :: t).getD (k + 1) 0).toNat % 64 = _
              rw [HC2.out, hdg.out]
            refine ⟨_, _, _, _, ⟨k + 1, by omega, by go_num, ?_, fun j h1 h2 => ?_⟩, rfl, rfl, rfl, rfl⟩
            · rw [e]; congr 1
            · rw [← List.getD_eq_getElem?_getD]
              by_cases h : j < k + 1
              · exact hall.out j h1 h
              · rw [show j = k + 1 from by omega, hdg.out]; simp [contB]; omega
          case measure => simp [intOf]; omega
        · have HE := Lib.hid (HC.out.bad (k + 1) (by omega) (by omega) (by rw [hdg.out]; simp only [contB]; exact decide_eq_false hb))
          go_wp2
          all_goals (go_ret2; exact TwoI.of (p := (0, 0)) HE.out)
      · have hk' : k = 3 - 1 := by omega
        cases hok : okC 2048 C with
        | false =>
          have HE := Lib.hid (HC.out.out (by rw [← hk', HC2.out]; exact hok))
          simp only [okC, decide_eq_false_iff_not] at hok
          go_wp2
          all_goals first | (exfalso; omega) | (go_ret2; exact TwoI.of (p := (0, 0)) HE.out)
        | true =>
          have HE := Lib.hid (HC.out.good (by rw [List.length_cons]; omega) (by rw [← show k + 1 = 3 from by omega]; exact hall.out) (by rw [← hk', HC2.out]; exact hok))
          rw [← hk', HC2.out] at HE
          simp only [okC, decide_eq_true_eq] at hok
          go_wp2
          all_goals first | (exfalso; omega) | (go_ret2; exact TwoI.of (p := (C, 3)) HE.out)

set_option maxRecDepth 100000 in
set_option maxHeartbeats 4000000 in
theorem rune_4 (b : UInt8) (t : List UInt8) (w : World) (hl : (b :: t).length ≤ 1000000) (h : 240 ≤ b.toNat ∧ b.toNat < 248) :
    Calls Tryz.prog 125 #[.string ⟨(b :: t).toArray⟩] w (TwoI (runeF (b :: t)) w) := by
  have HC := Lib.hid (cls_4 b t h)
  have hc0 : b.toNat % 8 < 32 := by omega
  have hlt := b.toNat_lt
  by_cases hs : t.length + 1 < 4
  · have HE := Lib.hid (HC.out.short hs)
    go_enter Tryz.func125, Tryz.ntmps125
    go_wp2
    all_goals (go_ret2; exact TwoI.of (p := (0, 0)) HE.out)
  · go_enter Tryz.func125, Tryz.ntmps125
    go_wp2
    go_loop [4, 7] (fun c v => ∃ k : Nat, k ≤ 4 - 1 ∧ v = .int .i64 ((k + 1 : Nat) : Int) ∧ c = .int .i64 (accF (b.toNat % 8) (b :: t) k : Nat) ∧ Hid (∀ j, 1 ≤ j → j < k + 1 → contB ((b :: t).getD j 0).toNat = true)) (fun _ v => 4 - (intOf v).toNat)
    case atStart => exact ⟨0, by omega, rfl, by show Value.int _ _ = Value.int _ _; congr 1, fun j h1 h2 => by omega⟩
    case round =>
      obtain ⟨k, hk, rfl, rfl, hall⟩ := hrel
      obtain ⟨C, hC⟩ : ∃ C, accF (b.toNat % 8) (b :: t) k = C := ⟨_, rfl⟩
      have hCs := accF_small (b :: t) hc0 (k := k) (by omega)
      rw [hC] at hCs
      rw [hC]
      have HC2 := Lib.hid hC; clear hC
      by_cases hlt2 : k < 4 - 1
      · have hin : k + 1 < (b :: t).length := by rw [List.length_cons]; omega
        obtain ⟨d, hd⟩ : ∃ d, (b :: t)[k + 1] = d := ⟨_, rfl⟩
        have hdg : Hid ((b :: t).getD (k + 1) 0 = d) := by show _ = _; rw [List.getD_eq_getElem?_getD, List.getElem?_eq_getElem hin]; exact hd
        have hdl := d.toNat_lt
        by_cases hb : 128 ≤ d.toNat ∧ d.toNat < 192
        · go_wp2
          go_round
          case rel =>
            have e : accF (b.toNat % 8) (b :: t) (k + 1) = C * 64 + d.toNat % 64 := by
              show accF (b.toNat % 8) (b :: t) k * 64 + ((b :: t).getD (k + 1) 0).toNat % 64 = _
              rw [HC2.out, hdg.out]
            refine ⟨_, _, _, _, ⟨k + 1, by omega, by go_num, ?_, fun j h1 h2 => ?_⟩, rfl, rfl, rfl, rfl⟩
            · rw [e]; congr 1
            · rw [← List.getD_eq_getElem?_getD]
              by_cases h : j < k + 1
              · exact hall.out j h1 h
              · rw [show j = k + 1 from by omega, hdg.out]; simp [contB]; omega
          case measure => simp [intOf]; omega
        · have HE := Lib.hid (HC.out.bad (k + 1) (by omega) (by omega) (by rw [hdg.out]; simp only [contB]; exact decide_eq_false hb))
          go_wp2
          all_goals (go_ret2; exact TwoI.of (p := (0, 0)) HE.out)
      · have hk' : k = 4 - 1 := by omega
        cases hok : okC 65536 C with
        | false =>
          have HE := Lib.hid (HC.out.out (by rw [← hk', HC2.out]; exact hok))
          simp only [okC, decide_eq_false_iff_not] at hok
          go_wp2
          all_goals first | (exfalso; omega) | (go_ret2; exact TwoI.of (p := (0, 0)) HE.out)
        | true =>
          have HE := Lib.hid (HC.out.good (by rw [List.length_cons]; omega) (by rw [← show k + 1 = 4 from by omega]; exact hall.out) (by rw [← hk', HC2.out]; exact hok))
          rw [← hk', HC2.out] at HE
          simp only [okC, decide_eq_true_eq] at hok
          go_wp2
          all_goals first | (exfalso; omega) | (go_ret2; exact TwoI.of (p := (C, 4)) HE.out)

set_option maxRecDepth 100000 in
set_option maxHeartbeats 2000000 in
theorem rune_nil (w : World) :
    Calls Tryz.prog 125 #[.string ⟨([] : List UInt8).toArray⟩] w (TwoI (runeF []) w) := by
  go_enter Tryz.func125, Tryz.ntmps125
  go_wp2
  go_ret2
  exact TwoI.of (p := (0, 0)) runeF_nil
theorem rune_calls (l : List UInt8) (w : World) (hl : l.length ≤ 1000000) :
    Calls Tryz.prog 125 #[.string ⟨l.toArray⟩] w (TwoI (runeF l) w) := by
  cases l with
  | nil => exact rune_nil w
  | cons b t =>
    have hlt := b.toNat_lt
    by_cases h1 : b.toNat < 128
    · exact rune_low b t w hl h1
    · by_cases h2 : b.toNat < 192
      · exact rune_none b t w hl (.inl ⟨by omega, h2⟩)
      · by_cases h3 : b.toNat < 224
        · exact rune_2 b t w hl ⟨by omega, h3⟩
        · by_cases h4 : b.toNat < 240
          · exact rune_3 b t w hl ⟨by omega, h4⟩
          · by_cases h5 : b.toNat < 248
            · exact rune_4 b t w hl ⟨by omega, h5⟩
            · exact rune_none b t w hl (.inr (by omega))
end Go.Proofs.YtkbcbikilgcckaaGreatDoor
namespace Go.Proofs.YtkbcbikilgcckaaGreatDoor
open Go.ChangeShapes Go.WideShapes Go.ChangeAt Go.RowKit Go.IntWalk
set_option linter.unusedVariables false

def strLen (v : Value) : Nat := match v with | .string s => s.size | _ => 0

theorem valid_stop (l : List UInt8) (hne : l ≠ []) (h : NoR l) : Lib.validD l = false := by
  rw [Lib.validD_step l hne]
  exact if_pos h
theorem valid_go (l : List UInt8) (hne : l ≠ []) (h : ¬ NoR l) : Lib.validD l = Lib.validD (l.drop (Lib.decodeL l).2) := by
  rw [Lib.validD_step l hne]
  exact if_neg h
theorem runeF_stop (l : List UInt8) (hne : l ≠ []) (h : NoR l) : runeF l = (0, 0) := by rw [runeF_of hne, if_pos h]
theorem runeF_go (l : List UInt8) (hne : l ≠ []) (h : ¬ NoR l) : runeF l = Lib.decodeL l := by rw [runeF_of hne, if_neg h]

set_option maxHeartbeats 2000000 in
theorem refvalid_calls (l : List UInt8) (w : World) (hl : l.length ≤ 1000000) :
    Calls Tryz.prog 100 #[.string ⟨l.toArray⟩] w fun e w' => e = .returned (.bool (Lib.validD l)) ∧ w = w' := by
  go_enter Tryz.func100, Tryz.ntmps100
  go_wp2
  go_loop [0] (fun s => ∃ m : List UInt8, m.length ≤ 1000000 ∧ s = .string ⟨m.toArray⟩ ∧ Hid (Lib.validD l = Lib.validD m)) (fun s => strLen s)
  case atStart => exact ⟨l, hl, rfl, rfl⟩
  case round =>
    obtain ⟨m, hm, rfl, hv⟩ := hrel
    by_cases hne : m = []
    · subst hne
      have HE : Hid (Lib.validD l = true) := hv.out
      go_wp2
      go_ret
      exact ⟨ret_bool HE.out.symm, rfl⟩
    · have hne' : m.isEmpty = false := by
        cases m with
        | nil => exact absurd rfl hne
        | cons b t => rfl
      by_cases hn : NoR m
      · have HR := Lib.hid (runeF_stop m hne hn)
        have HE := Lib.hid (hv.out.trans (valid_stop m hne hn))
        go_wp2_with fail
        refine (rune_calls m _ hm).mono ?_
        rintro e w1 ⟨rfl, rfl⟩
        rw [HR.out]
        go_wp2
        go_ret
        exact ⟨ret_bool HE.out.symm, rfl⟩
      · have HR := Lib.hid (runeF_go m hne hn)
        have HE := Lib.hid (hv.out.trans (valid_go m hne hn))
        have hw := Lib.decodeL_width m
        have hle := Lib.decodeL_le m hne
        generalize Lib.decodeL m = p at HR HE hw hle
        obtain ⟨r, d⟩ := p
        simp only at HE hw hle
        go_wp2_with fail
        refine (rune_calls m _ hm).mono ?_
        rintro e w1 ⟨rfl, rfl⟩
        rw [HR.out]
        have hd0 : ((d : Int) == 0) = false := by rw [beq_eq_false_iff_ne]; omega
        go_wp2
        go_round
        case rel => exact ⟨m.drop d, by rw [List.length_drop]; omega, rfl, HE⟩
        case measure =>
          show (m.drop d).length < m.length
          rw [List.length_drop]; omega

end Go.Proofs.YtkbcbikilgcckaaGreatDoor
