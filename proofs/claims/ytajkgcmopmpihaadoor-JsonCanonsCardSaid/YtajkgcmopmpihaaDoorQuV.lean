/- Layer 8: whether bytes are a text: the program's way, the document's, and the law. -/
import Derived.Test.YtajkgcmopmpihaaDoorQuR
import Derived.Test.YtajkgcmopmpihaaDoorRuneHi
namespace Go.Proofs.YtajkgcmopmpihaaDoor
open Go.ChangeShapes Go.WideShapes Go.ChangeAt Go.RowKit Go.IntWalk
set_option linter.unusedVariables false

def strLen (v : Value) : Nat := match v with | .string s => s.size | _ => 0

theorem valid_stop (l : List UInt8) (hne : l ≠ []) (h : NoR l) : Lib.validD l = false := by
  rw [Lib.validD_step l hne]
  exact if_pos h
theorem valid_go (l : List UInt8) (hne : l ≠ []) (h : ¬ NoR l) : Lib.validD l = Lib.validD (l.drop (Lib.decodeL l).2) := by
  rw [Lib.validD_step l hne]
  exact if_neg h
theorem runeF_stop (l : List UInt8) (hne : l ≠ []) (h : NoR l) : runeF l = (0, 0) := by rw [runeF_of hne, if_pos h]
theorem runeF_go (l : List UInt8) (hne : l ≠ []) (h : ¬ NoR l) : runeF l = Lib.decodeL l := by rw [runeF_of hne, if_neg h]

theorem told_calls (l : List UInt8) (w : World) :
    Calls Tryd.prog 36 #[.string ⟨l.toArray⟩] w fun e w' => e = .returned (.bool (Lib.hasPrefix l [239, 191, 189])) ∧ w' = w := by
  go_enter Tryd.func36, Tryd.ntmps36
  go_wp2_with fail
  refine (Tryd.strings_HasPrefix ⟨l.toArray⟩ ⟨#[239, 191, 189]⟩ _).mono ?_
  rintro e w1 ⟨rfl, rfl⟩
  go_wp2
  go_ret
  exact ⟨rfl, rfl⟩

set_option maxHeartbeats 2000000 in
theorem refvalid_calls (l : List UInt8) (w : World) (hl : l.length ≤ 1000000) :
    Calls Tryd.prog 31 #[.string ⟨l.toArray⟩] w fun e w' => e = .returned (.bool (Lib.validD l)) ∧ w = w' := by
  go_enter Tryd.func31, Tryd.ntmps31
  go_wp2
  go_loop [0] (fun s => ∃ m : List UInt8, m.length ≤ 1000000 ∧ s = .string ⟨m.toArray⟩ ∧ Hid (Lib.validD l = Lib.validD m)) (fun s => strLen s)
  case atStart => exact ⟨l, hl, rfl, rfl⟩
  case round =>
    obtain ⟨m, hm, rfl, hv⟩ := hrel
    by_cases hne : m = []
    · subst hne
      have HE : Hid (Lib.validD l = true) := hv.out
      go_wp2
      go_ret
      exact ⟨ret_bool HE.out.symm, rfl⟩
    · have hne' : m.isEmpty = false := by
        cases m with
        | nil => exact absurd rfl hne
        | cons b t => rfl
      by_cases hn : NoR m
      · have HR := Lib.hid (runeF_stop m hne hn)
        have HE := Lib.hid (hv.out.trans (valid_stop m hne hn))
        go_wp2_with fail
        refine (rune_calls m _ hm).mono ?_
        rintro e w1 ⟨rfl, rfl⟩
        rw [HR.out]
        go_wp2
        go_ret
        exact ⟨ret_bool HE.out.symm, rfl⟩
      · have HR := Lib.hid (runeF_go m hne hn)
        have HE := Lib.hid (hv.out.trans (valid_go m hne hn))
        have hw := Lib.decodeL_width m
        have hle := Lib.decodeL_le m hne
        generalize Lib.decodeL m = p at HR HE hw hle
        obtain ⟨r, d⟩ := p
        simp only at HE hw hle
        go_wp2_with fail
        refine (rune_calls m _ hm).mono ?_
        rintro e w1 ⟨rfl, rfl⟩
        rw [HR.out]
        have hd0 : ((d : Int) == 0) = false := by rw [beq_eq_false_iff_ne]; omega
        go_wp2
        go_round
        case rel => exact ⟨m.drop d, by rw [List.length_drop]; omega, rfl, HE⟩
        case measure =>
          show (m.drop d).length < m.length
          rw [List.length_drop]; omega

set_option maxHeartbeats 2000000 in
theorem valid_calls (l : List UInt8) (w : World) (hl : l.length ≤ 1000000) :
    Calls Tryd.prog 28 #[.string ⟨l.toArray⟩] w fun e w' => e = .returned (.bool (Lib.validD l)) ∧ Below w.heap.size w w' := by
  go_enter Tryd.func28, Tryd.ntmps28
  go_wp2_with fail
  go_loopw [] (fun wr => ∃ k, k ≤ l.length ∧ wr = w.iter ⟨l.toArray⟩ k ∧ Hid (Lib.validD l = Lib.validD (l.drop k))) (fun wr => l.length - wr.iterPos w.heap.size)
  case atStart => exact ⟨0, Nat.zero_le _, rfl, rfl⟩
  case round =>
    obtain ⟨k, hk, rfl, hv⟩ := hrel
    by_cases hp : k < l.length
    · have hnx := fun ty => run_next_any (P := Tryd.prog) w ⟨l.toArray⟩ k ty hp
      have hdl : Utf8.decode ⟨l.toArray⟩ k = Lib.decodeL (l.drop k) := (Lib.decodeL_drop ⟨l.toArray⟩ k).symm
      rw [hdl] at hnx
      have hne : l.drop k ≠ [] := by intro h; have := congrArg List.length h; rw [List.length_drop] at this; simp at this; omega
      obtain ⟨m, hm⟩ : ∃ m, l.drop k = m := ⟨_, rfl⟩
      have hml : m.length = l.length - k := by rw [← hm, List.length_drop]
      have hwd := Lib.decodeL_width m
      have hle := Lib.decodeL_le m (hm ▸ hne)
      rw [hm] at hnx hne hv
      have hdd : ∀ d, m.drop d = l.drop (k + d) := fun d => by rw [← hm, List.drop_drop]
      by_cases hr : (Lib.decodeL m).1 = 65533
      · have HN := Lib.hid (noR_iff m hne hr)
        have HT := Lib.hid (told_calls m)
        by_cases hn : NoR m
        · have HE := Lib.hid (hv.out.trans (valid_stop m hne hn))
          have HP : Hid (Lib.hasPrefix m [239, 191, 189] = false) := HN.out.1 hn
          generalize Lib.decodeL m = p at *
          obtain ⟨r, d⟩ := p
          simp only at *
          subst hr
          clear hdd
          go_wp2_with fail
          trace_state
          refine (HT.out _).mono ?_
          rintro e w1 ⟨rfl, rfl⟩
          rw [HP.out]
          go_wp2
          go_ret
          exact ⟨ret_bool HE.out.symm, (Below.refl _ _).alloc (Nat.le_refl _) _⟩
        · have HE := Lib.hid (hv.out.trans (valid_go m hne hn))
          have HP : Hid (Lib.hasPrefix m [239, 191, 189] = true) := by
            show _ = _
            cases h : Lib.hasPrefix m [239, 191, 189]
            · exact absurd (HN.out.2 h) hn
            · rfl
          generalize Lib.decodeL m = p at *
          obtain ⟨r, d⟩ := p
          simp only at *
          subst hr
          rw [hdd] at HE
          clear hdd
          go_wp2_with fail
          refine (HT.out _).mono ?_
          rintro e w1 ⟨rfl, rfl⟩
          rw [HP.out]
          go_wp2
          go_roundw
          case rel => exact ⟨k + d, by omega, rfl, HE⟩
          case measure => simp; omega
      · have hn : ¬ NoR m := fun h => hr h.1
        have HE := Lib.hid (hv.out.trans (valid_go m hne hn))
        generalize Lib.decodeL m = p at *
        obtain ⟨r, d⟩ := p
        simp only at *
        rw [hdd] at HE
        clear hdd
        have hne2 : ((r : Int) == 65533) = false := by rw [beq_eq_false_iff_ne]; omega
        go_wp2
        go_roundw
        case rel => exact ⟨k + d, by omega, rfl, HE⟩
        case measure => simp; omega
    · have hnx := fun ty => run_next_end (P := Tryd.prog) w ⟨l.toArray⟩ k ty hp
      have HE : Hid (Lib.validD l = true) := by
        show _ = _
        rw [hv.out, List.drop_of_length_le (by omega)]; rfl
      go_wp2
      go_ret
      exact ⟨ret_bool HE.out.symm, (Below.refl _ _).alloc (Nat.le_refl _) _⟩
end Go.Proofs.YtajkgcmopmpihaaDoor
