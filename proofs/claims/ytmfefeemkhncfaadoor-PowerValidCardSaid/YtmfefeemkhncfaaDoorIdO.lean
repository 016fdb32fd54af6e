/- The contract of the reference's of. -/
import Derived.Test.YtmfefeemkhncfaaDoorIdP
namespace Go.Proofs.YtmfefeemkhncfaaDoor
open Go.ChangeShapes Go.WideShapes Go.ChangeAt Go.RowKit Go.IntWalk
set_option linter.unusedVariables false

set_option maxRecDepth 100000 in
set_option maxHeartbeats 4000000 in
theorem of_calls (l K G : List UInt8) (w : World) (hl : l.length ≤ 1000000) (hKl : K.length ≤ 1000) (hGl : G.length ≤ 1000) (hK : ∀ k ∈ K, k = 97 ∨ k = 65 ∨ k = 48) :
    Calls Tryd.prog 59 #[.string ⟨l.toArray⟩, .string ⟨K.toArray⟩, .string ⟨G.toArray⟩] w fun e w' => e = .returned (.bool (ofF K G l)) ∧ w = w' := by
  go_enter Tryd.func59, Tryd.ntmps59
  go_wp2
  go_loop [7] (fun v => ∃ i : Nat, i ≤ l.length ∧ v = .int .i64 i ∧ Hid (∀ c ∈ l.take i, (kindsB K c.toNat || G.contains c) = true)) (fun v => l.length - (intOf v).toNat)
  case atStart => exact ⟨0, Nat.zero_le _, rfl, fun c hc => by simp at hc⟩
  case round =>
    obtain ⟨i, hi, rfl, hall⟩ := hrel
    by_cases hlt : i < l.length
    · obtain ⟨c, hc⟩ : ∃ c, l[i] = c := ⟨_, rfl⟩
      have hcl := c.toNat_lt
      go_wp2_with fail
      go_loop [9, 10] (fun ok v => ∃ j : Nat, j ≤ K.length ∧ v = .int .i64 j ∧ ok = .bool ((K.take j).any fun k => kindB c.toNat k.toNat)) (fun _ v => K.length - (intOf v).toNat)
      case atStart => exact ⟨0, Nat.zero_le _, rfl, by simp⟩
      case round =>
        obtain ⟨j, hj, rfl, rfl⟩ := hrel
        by_cases hjlt : j < K.length
        · have hk := hK K[j] (List.getElem_mem hjlt)
          have HT := Lib.hid (any_take (fun k : UInt8 => kindB c.toNat k.toNat) K j hjlt)
          obtain ⟨B, hB⟩ : ∃ B, B = (K.take j).any fun k => kindB c.toNat k.toNat := ⟨_, rfl⟩
          rw [← hB] at HT ⊢
          clear hB
          obtain ⟨k, hk2⟩ : ∃ k, K[j] = k := ⟨_, rfl⟩
          rw [hk2] at hk HT
          rcases hk with rfl | rfl | rfl
          all_goals
            go_wp2
            all_goals
              refine ⟨⟨j + 1, by omega, by go_num, ?_⟩, by simp [intOf]; omega⟩
              rw [HT.out]
              congr 1
              clear HT
              rw [Bool.eq_iff_iff]
              simp only [kindB, Bool.or_eq_true, Bool.and_eq_true, decide_eq_true_eq, beq_iff_eq, UInt8.reduceToNat] at *
              first | omega | (simp_all; done) | (simp_all; omega)
        · have hjn : j = K.length := by omega
          rw [hjn, List.take_length]
          clear hjn
          obtain ⟨B, hB⟩ : ∃ B, B = K.any fun k => kindB c.toNat k.toNat := ⟨_, rfl⟩
          rw [← hB]
          have HB := Lib.hid hB; clear hB
          go_wp2_with fail
          go_loop [9, 11] (fun ok v => ∃ j : Nat, j ≤ G.length ∧ v = .int .i64 j ∧ ok = .bool (B || (G.take j).any fun g => g == c)) (fun _ v => G.length - (intOf v).toNat)
          case atStart => exact ⟨0, Nat.zero_le _, rfl, by simp⟩
          case round =>
            obtain ⟨m, hm, rfl, rfl⟩ := hrel
            by_cases hmlt : m < G.length
            · have HT' : (B || (G.take (m + 1)).any fun g => g == c) = ((B || (G.take m).any fun g => g == c) || G[m] == c) := by rw [any_take (fun g : UInt8 => g == c) G m hmlt, Bool.or_assoc]
              obtain ⟨O, hO⟩ : ∃ O, O = (B || (G.take m).any fun g => g == c) := ⟨_, rfl⟩
              rw [← hO] at HT' ⊢
              clear hO
              obtain ⟨g, hg2⟩ : ∃ g, G[m] = g := ⟨_, rfl⟩
              rw [hg2] at HT'
              have HT2 := Lib.hid HT'; clear HT'
              cases O
              all_goals
                go_wp2
                refine ⟨⟨m + 1, by omega, by go_num, ?_⟩, by simp [intOf]; omega⟩
                rw [HT2.out]
                first
                  | rfl
                  | (congr 1; rw [Bool.eq_iff_iff]; simp; exact ⟨fun h => UInt8.toNat_inj.1 (by omega), fun h => by rw [h]⟩)
            · have hmn : m = G.length := by omega
              rw [hmn, List.take_length]
              clear hmn
              have HBK : Hid (kindsB K c.toNat = B) := HB.out.symm
              cases hO : (B || G.any fun g => g == c) with
              | true =>
                go_wp2
                go_round
                case rel => exact ⟨i + 1, by omega, by go_num, by
                  intro x hx
                  rw [List.take_add_one, List.getElem?_eq_getElem hlt] at hx
                  simp only [Option.toList_some, List.mem_append, List.mem_singleton] at hx
                  rcases hx with hx | hx
                  · exact hall.out x hx
                  · rw [hx, hc, HBK.out, contains_any]; exact hO⟩
                case measure => simp [intOf]; omega
              | false =>
                have HE : Hid (ofF K G l = false) := ofF_bad K G l i hlt (by rw [hc, HBK.out, contains_any]; exact hO)
                go_wp2
                go_ret
                exact ⟨ret_bool HE.out.symm, rfl⟩
    · have hin : i = l.length := by omega
      have HE : Hid (ofF K G l = !l.isEmpty) := by
        refine ofF_all K G l ?_
        have h1 := hall.out
        rw [hin, List.take_length] at h1
        exact h1
      go_wp2
      go_ret
      refine ⟨ret_bool ?_, rfl⟩
      rw [HE.out]
end Go.Proofs.YtmfefeemkhncfaaDoor
