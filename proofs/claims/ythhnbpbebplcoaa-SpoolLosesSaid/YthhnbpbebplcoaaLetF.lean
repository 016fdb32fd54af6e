/- The contract of the reference's Decode. -/
import Derived.Test.YthhnbpbebplcoaaLetE
import Derived.Test.YthhnbpbebplcoaaLetLet
import Derived.Test.YthhnbpbebplcoaaLetQ
namespace Go.Proofs.Ythhnbpbebplcoaa
open Go.ChangeShapes Go.WideShapes Go.ChangeAt Go.RowKit Go.IntWalk
set_option linter.unusedVariables false

set_option maxHeartbeats 2000000 in
theorem refdec_calls (s : ByteArray) (u : Bool) (w : World) (hi : s.size ≤ 68719476736) :
    Calls Try.prog 38 #[.string s, .bool u] w (DecPost u s.data.toList w.heap.size w) := by
  obtain ⟨i0, hi0, hz0, hz1, hz2⟩ := info_parts infoU8
  have hsl : s.size = s.data.toList.length := rfl
  have HSL := Lib.hid hsl; clear hsl
  go_enter Try.func38, Try.ntmps38
  go_wp2_with (refine wpList_make_full _ rfl _ _ _ rfl w.heap.size 5 i0 (.int .u8 0) 1 Try.underlying52 hi0 hz0 hz1 .i64 .i64 ((s.size : Int) * 6 / 8) ((s.size : Int) * 6 / 8) (s.size * 6 / 8) rfl rfl (by omega) (by omega) (by rw [hz2]; omega) (by unfold maxLen; omega) (Nat.le_refl _) ?_; intro w1 hown hgrow)
  have hb1 : Below w.heap.size w w1 := (Below.refl _ _).grown hgrow (Nat.le_refl _) (fun k h => by cases h)
  obtain ⟨L, hL⟩ : ∃ L, L = s.size * 6 / 8 := ⟨_, rfl⟩
  rw [← hL] at hown ⊢
  have hLm : L ≤ s.size := by omega
  have HL := Lib.hid hL; clear hL
  rw [zeros_u8] at hown
  have hblk : BlkBs w1 w.heap.size (laids s.size (accD u s.data.toList) L 0) := by
    rw [laids_zero]
    refine BlkBs.of_own (base := w.heap.size) (n := L) ?_
    unfold OwnBs
    rw [List.length_replicate]
    exact hown
  clear hown hgrow
  go_loopw [7] (fun v wr => ∃ i : Nat, i ≤ s.size ∧ v = .int .i64 i ∧ (∀ c ∈ s.data.toList.take i, (numF u c.toNat).isSome = true) ∧ BlkBs wr w.heap.size (laids s.size (accD u s.data.toList) L (6 * i)) ∧
      tail s.size (accD u s.data.toList) (6 * i) ∧ Below w.heap.size w wr) (fun v _ => s.size - (intOf v).toNat)
  case atStart => exact ⟨0, Nat.zero_le _, rfl, by simp, hblk, fun t _ h => absurd h (by omega), hb1⟩
  case round =>
    clear hblk hb1
    obtain ⟨i, hi', rfl, hall, hblk, htail, hbr⟩ := hrel
    have HALL := Lib.hid hall; clear hall
    have HT := Lib.hid htail; clear htail
    have hsz := hbr.size
    by_cases hlt : i < s.size
    · obtain ⟨wo, rfl⟩ : ∃ wo : World, wo = wr := ⟨_, rfl⟩
      obtain ⟨C, hC⟩ : ∃ C, C = s[i] := ⟨_, rfl⟩
      have hCd : C = s.data.toList.getD i 0 := by
        have h' : i < s.data.toList.length := hlt
        rw [hC, List.getD_eq_getElem?_getD, List.getElem?_eq_getElem h']; rfl
      have HC := Lib.hid hCd; clear hCd
      have HC' := Lib.hid hC; clear hC
      go_wp2_with fail
      go_loopw [8] (fun v w3 => ∃ n nd : Nat, n ≤ 64 ∧ v = .int .i64 n ∧ (∀ n', n' < n → letB u n' ≠ C) ∧ w3 = wo.drewN nd) (fun v _ => 64 - (intOf v).toNat)
      case atStart => exact ⟨0, 0, by omega, rfl, fun n' h => absurd h (by omega), rfl⟩
      case round =>
        obtain ⟨n, nd, hn, rfl, hno, hw⟩ := hrel
        have HW := Lib.hid hw; clear hw
        have HNO := Lib.hid hno; clear hno
        by_cases hn64 : n < 64
        · have hdn : decide ((n : Int) < 64) = true := by simp; omega
          have hil : (i : Int) < (s.size : Int) := by omega
          have hi0' : (0 : Int) ≤ (i : Int) := by omega
          by_cases heq : letB u n = C
          · have hne : (((letF u n : Nat) : Int) != ((s[i].toNat : Nat) : Int)) = false := by
              have := HC'.out
              simp [letF, heq, this]
            go_wp2_with fail
            go_quiet ((go_at_call 48; exact Calls.quiet_of_eq (letter_calls _ _ _ (by omega) (by omega))))
            have hn6 : ((n : Int) == 64) = false := by simp; omega
            obtain ⟨w4, hw4⟩ : ∃ w4, w4 = wr.drewN nq := ⟨_, rfl⟩
            rw [← hw4]
            have hblk4 : BlkBs w4 w.heap.size (laids s.size (accD u s.data.toList) L (6 * i + 0)) := by rw [hw4, HW.out]; exact hblk
            have hbr4 : Below w.heap.size w w4 := by rw [hw4, HW.out]; exact (hbr.drewN _).drewN _
            have HCI : Hid (numF u (s.data.toList.getD i 0).toNat = some n) := by show _ = _; rw [← HC.out, ← heq]; exact numF_letB u n hn64
            clear hw4 HW hblk hbr hsz heq hne HNO
            go_wp2_with fail
            go_loopw [9] (fun v w5 => ∃ k : Nat, k ≤ 6 ∧ v = .int .i64 k ∧ BlkBs w5 w.heap.size (laids s.size (accD u s.data.toList) L (6 * i + k)) ∧ tail s.size (accD u s.data.toList) (6 * i + k) ∧ Below w.heap.size w w5)
              (fun v _ => 6 - (intOf v).toNat)
            case atStart => exact ⟨0, by omega, rfl, hblk4, HT.out, hbr4⟩
            case round =>
              clear hblk4 hbr4 HT
              obtain ⟨k, hk, rfl, hblk, htail, hbr⟩ := hrel
              have HT := Lib.hid htail; clear htail
              by_cases hk6 : k < 6
              · have hlt6 : 6 * i + k < 6 * s.size := by omega
                have hbd := bitD_digit u s.data.toList i k n (by rw [← HSL.out]; exact hlt) hk6 HCI.out
                rw [← HSL.out] at hbd
                have hbit : bits BinOp.and IntKind.i64 ((n : Int) / 2 ^ (5 - k)) 1 = ((n / 2 ^ (5 - k) % 2 : Nat) : Int) := by
                  have hq : ((n : Int) / 2 ^ (5 - k)) = ((n / 2 ^ (5 - k) : Nat) : Int) := by simp
                  have hle : n / 2 ^ (5 - k) ≤ n := Nat.div_le_self _ _
                  rw [hq]
                  generalize n / 2 ^ (5 - k) = q at *
                  rw [i64_and1 _ (by omega) (by omega)]; rfl
                by_cases hb0 : n / 2 ^ (5 - k) % 2 = 0
                · rw [hb0] at hbit hbd
                  have HBD := Lib.hid hbd; clear hbd hb0
                  go_wp2
                  go_roundw
                  case rel => exact ⟨k + 1, by omega, by go_num, by rw [← Nat.add_assoc, laids_stay _ _ _ _ hlt6 HBD.out]; exact hblk, fun t h1 h2 => by
                    by_cases h3 : t < 6 * i + k
                    · exact HT.out t h1 h3
                    · rw [show t = 6 * i + k from by omega]; exact HBD.out, hbr⟩
                  case measure => simp [intOf]; omega
                · have hb1 : n / 2 ^ (5 - k) % 2 = 1 := by omega
                  rw [hb1] at hbit hbd
                  have HBD := Lib.hid hbd; clear hbd hb0 hb1
                  by_cases hat : (6 * i + k) / 8 < L
                  · have hat' : (6 * (i : Int) + k) / 8 < (L : Int) := by omega
                    have hat0 : 0 ≤ (6 * (i : Int) + k) / 8 := by omega
                    have hcell := hblk.cell (k := (6 * i + k) / 8) (by rw [laids_length]; exact hat)
                    rw [laids_get _ _ _ _ _ hat] at hcell
                    have hfr := hblk.frozen ((6 * i + k) / 8)
                    have HV : Hid (bits BinOp.or IntKind.u8 ((laid s.size (accD u s.data.toList) ((6 * i + k) / 8) (6 * i + k) : Nat) : Int) (128 / 2 ^ ((6 * i + k) % 8)) =
                        (((UInt8.ofNat (laid s.size (accD u s.data.toList) ((6 * i + k) / 8) (6 * i + k) ||| 2 ^ (7 - (6 * i + k) % 8))).toNat : Nat) : Int)) := by
                      show _ = _
                      have hll := laid_lt s.size (accD u s.data.toList) ((6 * i + k) / 8) (6 * i + k)
                      have he : (6 * i + k) % 8 < 8 := by omega
                      generalize (6 * i + k) % 8 = e at *
                      rw [show ((128 : Int) / 2 ^ e) = ((2 ^ (7 - e) : Nat) : Int) from by
                        obtain rfl | rfl | rfl | rfl | rfl | rfl | rfl | rfl : e = 0 ∨ e = 1 ∨ e = 2 ∨ e = 3 ∨ e = 4 ∨ e = 5 ∨ e = 6 ∨ e = 7 := by omega
                        all_goals rfl]
                      have h2 : 2 ^ (7 - e) < 2 ^ 8 := Nat.pow_lt_pow_right (by decide) (by omega)
                      rw [u8_or_nat _ _ hll h2, UInt8.toNat_ofNat', Nat.mod_eq_of_lt (Nat.or_lt_two_pow hll h2)]
                    go_wp2_with fail
                    rw [HV.out]
                    go_roundw
                    case rel => exact ⟨k + 1, by omega, by go_num, by
                        rw [← Nat.add_assoc, laids_set _ _ _ _ hlt6 HBD.out hat]; exact hblk.set_ _ _, fun t h1 h2 => by
                      by_cases h3 : t < 6 * i + k
                      · exact HT.out t h1 h3
                      · exfalso; have := HL.out; omega, hbr.setCell (Nat.le_refl _) _⟩
                    case measure => simp [intOf]; omega
                  · have hat' : ¬ (6 * (i : Int) + k) / 8 < (L : Int) := by omega
                    go_wp2
                    go_ret2
                    refine DecPost.no ?_ hbr
                    unfold decF
                    rw [if_neg]
                    rintro ⟨_, _, h3⟩
                    rw [← HSL.out] at h3
                    exact tail_no s.size (accD u s.data.toList) (6 * i + k) (by rw [HBD.out]; decide) (by rw [show 6 * s.size / 8 = L from by have := HL.out; omega]; omega) hlt6 h3
              · obtain rfl : k = 6 := by omega
                go_wp2
                go_roundw
                case rel => exact ⟨i + 1, by omega, by go_num, by
                  intro c hc
                  have hk' : i < s.data.toList.length := by rw [← HSL.out]; exact hlt
                  rw [List.take_add_one, List.getElem?_eq_getElem hk'] at hc
                  simp only [Option.toList_some, List.mem_append, List.mem_singleton] at hc
                  rcases hc with hc | rfl
                  · exact HALL.out c hc
                  · have e : s.data.toList[i] = s.data.toList.getD i 0 := by rw [List.getD_eq_getElem?_getD, List.getElem?_eq_getElem hk']; rfl
                    rw [e, HCI.out]; rfl, hblk, HT.out, hbr⟩
                case measure => simp [intOf]; omega
          · have hne : (((letF u n : Nat) : Int) != ((s[i].toNat : Nat) : Int)) = true := by
              have := HC'.out
              simp only [bne_iff_ne, letF, ← this]
              intro h
              apply heq
              exact UInt8.toNat_inj.1 (by omega)
            go_wp2_with fail
            go_quiet ((go_at_call 48; exact Calls.quiet_of_eq (letter_calls _ _ _ (by omega) (by omega))))
            go_wp2
            go_roundw
            case rel => exact ⟨n + 1, nd + nq, by omega, by go_num, fun n' h' => by
              by_cases h1 : n' < n
              · exact HNO.out n' h1
              · rw [show n' = n from by omega]; exact heq, by rw [HW.out, World.drewN_drewN]⟩
            case measure => simp [intOf]; omega
        · obtain rfl : n = 64 := by omega
          have hdn : decide (((64 : Nat) : Int) < 64) = false := by simp
          go_wp2_with fail
          go_quiet (fail)
          go_wp2
          go_ret2
          refine DecPost.no (decF_bad (k := i) (by rw [← HSL.out]; exact hlt) ?_) (by rw [HW.out]; exact (hbr.drewN _).drewN _)
          rw [← HC.out]
          cases hnf : numF u C.toNat with
          | none => rfl
          | some d => exact absurd (letB_numF u C d hnf) (HNO.out d (numF_lt u _ d hnf).1)
    · have hin : i = s.size := by omega
      have HIN := Lib.hid hin; clear hin
      have hbs : s.data.toList.take i = s.data.toList := by rw [HIN.out, HSL.out]; exact List.take_length
      have HB := Lib.hid hbs; clear hbs
      by_cases h4 : s.size % 4 = 1
      · have h4' : ((s.size : Int) % 4 == 1) = true := by simp; omega
        go_wp2
        go_ret2
        refine DecPost.no ?_ hbr
        unfold decF
        rw [if_neg]
        rintro ⟨_, h2, _⟩
        rw [← HSL.out] at h2
        omega
      · have h4' : ((s.size : Int) % 4 == 1) = false := by simp; omega
        go_wp2
        go_ret2
        refine DecPost.yes (o := outs s.size (accD u s.data.toList) L) ?_ ?_ hbr
        · unfold decF
          rw [if_pos, ← HSL.out, show 6 * s.size / 8 = L from by have := HL.out; omega]
          refine ⟨?_, by rw [← HSL.out]; omega, by rw [← HSL.out]; exact tail_all _ _ (by have := HT.out; rw [HIN.out] at this; exact this)⟩
          have := HALL.out; rw [HB.out] at this; exact this
        · have h1 := hblk
          rw [HIN.out, laids_end _ _ _ (by have := HL.out; omega)] at h1
          exact h1.own (Nat.le_refl _) (by rw [outs_length]) (by unfold maxLen; omega)

theorem refdec_list (l : List UInt8) (u : Bool) (w : World) (hi : l.length ≤ 68719476736) :
    Calls Try.prog 38 #[.string ⟨l.toArray⟩, .bool u] w (DecPost u l w.heap.size w) := by
  have := refdec_calls ⟨l.toArray⟩ u w hi
  simpa using this
end Go.Proofs.Ythhnbpbebplcoaa
