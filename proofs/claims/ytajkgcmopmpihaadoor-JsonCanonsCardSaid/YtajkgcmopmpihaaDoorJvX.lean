/- Layer 9: the program's writer, walked: texts. -/
import Derived.Test.YtajkgcmopmpihaaDoorJvW
import Derived.Test.YtajkgcmopmpihaaDoorQuH
namespace Go.Proofs.YtajkgcmopmpihaaDoor
open Go.ChangeShapes Go.WideShapes Go.ChangeAt Go.RowKit Go.IntWalk
set_option linter.unusedVariables false

theorem escB_le (c : UInt8) : (escB c).length ≤ 6 := by
  unfold escB
  repeat' split
  all_goals simp
theorem escL_le (l : List UInt8) : (escL l).length ≤ 6 * l.length := by
  unfold escL
  induction l with
  | nil => simp
  | cons c l ih => rw [List.flatMap_cons, List.length_append, List.length_cons]; have := escB_le c; omega
theorem putF_le (l : List UInt8) : (putF l).length ≤ 6 * l.length + 2 := by
  have := escL_le l
  unfold putF
  split
  · simp; omega
  · simp
set_option maxHeartbeats 2000000 in
theorem text_w (base g : Nat) (v : Value) (b l : List UInt8) (w : World) (h : WSt base w g v b) (hB : base ≤ w.heap.size) (hl : l.length ≤ 140737488355328) :
    Calls Tryd.prog 16 #[.pointer (some ⟨g, 0, none⟩), .string ⟨l.toArray⟩] w (WEnd base g w v (txt b l)) := by
  by_cases h6 : 65536 < l.length
  · have HR := Lib.hid (show txt b l = .error 3 by unfold txt; rw [if_pos h6])
    have hd1 : decide ((65536 : Int) < (l.length : Int)) = true := by simp; omega
    clear h6
    go_enter Tryd.func16, Tryd.ntmps16
    go_wp2_with fail
    refine (giveUp_calls _ _).mono ?_
    rintro e w2 ⟨rfl, rfl⟩
    go_wp2_with fail
    exact ⟨rfl, WEnd.bad HR.out (Nx.refl _ _ v)⟩
  · have hd1 : decide ((65536 : Int) < (l.length : Int)) = false := by simp; omega
    have HQ := put_calls l w (by omega)
    have hpl := putF_le l
    obtain ⟨q, hq⟩ : ∃ q, putF l = q := ⟨_, rfl⟩
    rw [hq] at hpl
    have hql : q.length ≤ 70368744000000 := by omega
    have HP := Lib.hid h
    have HL := Lib.hid hl
    have H6 := Lib.hid h6
    clear h hl hpl h6
    cases hv : Lib.validD l with
    | false =>
      have HR := Lib.hid (show txt b l = .error 1 by unfold txt; rw [if_neg H6.out, hv]; rfl)
      have HQ2 := HQ
      unfold PutPost at HQ2
      rw [hq, hv] at HQ2
      clear HQ hq hv
      go_enter Tryd.func16, Tryd.ntmps16
      go_wp2_with fail
      refine HQ2.mono ?_
      rintro e w1 ⟨rfl, b1⟩
      go_wp2_with fail
      refine (giveUp_calls _ _).mono ?_
      rintro e w2 ⟨rfl, rfl⟩
      go_wp2_with fail
      exact ⟨rfl, WEnd.bad HR.out (Nx.of_below b1)⟩
    | true =>
      have HR := Lib.hid (show txt b l = lng (b ++ q) by unfold txt; rw [if_neg H6.out, hv, if_pos rfl, hq])
      have HQ2 := HQ
      unfold PutPost at HQ2
      rw [hq, hv] at HQ2
      clear HQ hq hv
      cases hr : lng (b ++ q)
      all_goals
        have HR2 := Lib.hid hr
        clear hr
        go_enter Tryd.func16, Tryd.ntmps16
        go_wp2_with fail
        refine HQ2.mono ?_
        rintro e w1 ⟨rfl, b1⟩
        have hB1 : base ≤ w1.heap.size := Nat.le_trans hB b1.size
        go_wp2_with fail
        refine (put_w base g v b q _ (HP.out.below b1) hB1 hql).mono ?_
        intro e w2 hE
        first | (obtain ⟨rfl, v2, h2, n2⟩ := WEnd.of_ok HR2.out hE; clear hE) | (obtain ⟨rfl, v2, n2⟩ := WEnd.of_bad HR2.out hE; clear hE)
        go_wp2_with fail
      · exact ⟨rfl, WEnd.bad (HR.out.trans HR2.out) ((Nx.of_below b1).trans n2)⟩
      · go_end0
        exact WEnd.ok (HR.out.trans HR2.out) h2 ((Nx.of_below b1).trans n2)
end Go.Proofs.YtajkgcmopmpihaaDoor
