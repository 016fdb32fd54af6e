/- strings.IndexRune and ContainsRune at a rune that is no ASCII, in a text that is ASCII alone: it isn't there. -/
import Derived.Test.YtmfefeemkhncfaaDoorShelf
import Derived.Test.YtmfefeemkhncfaaDoorStr
import Derived.WalkSmall
namespace Go.Proofs.YtmfefeemkhncfaaDoor
open Go.ChangeShapes Go.WideShapes Go.ChangeAt Go.RowKit Go.IntWalk
set_option linter.unusedVariables false

theorem indexByte_none (l : List UInt8) (c : UInt8) (h : ∀ b ∈ l, b ≠ c) : Lib.indexByte l c = -1 := by
  induction l with
  | nil => rfl
  | cons b l ih =>
    have hb : (b == c) = false := by rw [beq_eq_false_iff_ne]; exact h b (by simp)
    have := ih fun x hx => h x (by simp [hx])
    simp [Lib.indexByte, hb, this]

theorem decode_of_ascii (l : List UInt8) (hl : ∀ b ∈ l, b.toNat < 128) (pos : Nat) (h : pos < l.length) : Utf8.decode ⟨l.toArray⟩ pos = ((l.getD pos 0).toNat, 1) := by
  have h' : pos < (⟨l.toArray⟩ : ByteArray).size := h
  have hb : ((⟨l.toArray⟩ : ByteArray)[pos]'h').toNat < 128 := hl _ (List.getElem_mem h)
  rw [decode_ascii _ pos h' hb, List.getD_eq_getElem?_getD, List.getElem?_eq_getElem h]; rfl

theorem indexByte_no (l : List UInt8) (c : UInt8) (w : World) (h : ∀ b ∈ l, b ≠ c) :
    Calls Tryd.prog 77 #[.string ⟨l.toArray⟩, .int .u8 c.toNat] w fun e w' => e = .returned (.int .i64 (-1)) ∧ w' = w := by
  refine (Tryd.strings_IndexByte ⟨l.toArray⟩ c.toNat w).mono ?_
  rintro e w' ⟨rfl, h2⟩
  refine ⟨?_, h2⟩
  have hc : ((c.toNat : Int).toNat.toUInt8) = c := by simp
  rw [hc]
  rw [show (⟨l.toArray⟩ : ByteArray).data.toList = l from rfl, indexByte_none l c h]

def runeOK (r : Int) : Prop := r = 65533 ∨ (r ≠ 65533 ∧ Utf8.valid r = true)

set_option maxRecDepth 100000 in
set_option maxHeartbeats 1000000 in
theorem indexRune_hi (l : List UInt8) (r : Int) (w : World) (hl : ∀ b ∈ l, b.toNat < 128) (hlen : l.length ≤ 1000000) (hr : 128 ≤ r ∧ r ≤ 1114111) (hok : Utf8.valid r = true) :
    Calls Tryd.prog 74 #[.string ⟨l.toArray⟩, .int .i32 r] w fun e w' => e = .returned (.int .i64 (-1)) ∧ Below w.heap.size w w' := by
  by_cases he : r = 65533
  · subst he
    go_enter Tryd.func74, Tryd.ntmps74
    go_wp2_with fail
    go_loopw [] (fun wr => ∃ k, k ≤ l.length ∧ wr = w.iter ⟨l.toArray⟩ k) (fun wr => l.length - wr.iterPos w.heap.size)
    case atStart => exact ⟨0, Nat.zero_le _, rfl⟩
    case round =>
      obtain ⟨k, hk, rfl⟩ := hrel
      by_cases hp : k < l.length
      · have hnx := fun ty => run_next_any (P := Tryd.prog) w ⟨l.toArray⟩ k ty hp
        have hc : (l.getD k 0).toNat < 128 := hl _ (by rw [List.getD_eq_getElem?_getD, List.getElem?_eq_getElem hp]; exact List.getElem_mem hp)
        rw [decode_of_ascii l hl k hp] at hnx
        simp only at hnx
        generalize (l.getD k 0).toNat = C at *
        have hne : ((C : Int) == 65533) = false := by simp; omega
        go_wp2
        go_roundw
        case rel => exact ⟨k + 1, by omega, rfl⟩
        case measure => simp; omega
      · have hnx := fun ty => run_next_end (P := Tryd.prog) w ⟨l.toArray⟩ k ty hp
        go_wp2
        go_ret
        exact ⟨rfl, (Below.refl _ _).alloc (Nat.le_refl _) _⟩
  · have hne : (r == 65533) = false := by simpa using he
    have hv : Lib.validRune r = true := by rw [← hok]; exact (validRune_eq r).symm
    obtain ⟨e1, e2, e3⟩ := encode_facts r hok hr.1
    have e3 := e3 (by omega)
    obtain ⟨E, hE⟩ : ∃ E : List UInt8, Utf8.encode r = ⟨E.toArray⟩ := ⟨(Utf8.encode r).data.toList, by simp⟩
    rw [hE] at e1 e2
    have hlast : 128 ≤ (E.getD (E.length - 1) 0).toNat := by
      have h1 : E.length - 1 < E.length := by have : 2 ≤ E.length := e1; omega
      have h2 : ∀ (S : ByteArray) (hS : S = ⟨E.toArray⟩) (h : S.size - 1 < S.size), 128 ≤ (S[S.size - 1]'h).toNat → 128 ≤ (E.getD (E.length - 1) 0).toNat := by
        intro S hS h h3
        subst hS
        rw [List.getD_eq_getElem?_getD, List.getElem?_eq_getElem h1]
        exact h3
      exact h2 _ hE _ e3
    have e1' : 2 ≤ E.length := e1
    have e2' : E.length ≤ 4 := e2
    clear e1 e2 e3
    obtain ⟨last, hL⟩ : ∃ last, last = E.length - 1 := ⟨_, rfl⟩
    have hLI : (E.length : Int) - 1 = (last : Int) := by omega
    rw [← hL] at hlast
    have hL1 : 1 ≤ last ∧ last ≤ 3 := by omega
    have hLE : last < E.length := by omega
    obtain ⟨D, hD⟩ : ∃ D : UInt8, D = E.getD last 0 := ⟨_, rfl⟩
    rw [← hD] at hlast
    have hDE : E[last]'hLE = D := by rw [hD, List.getD_eq_getElem?_getD, List.getElem?_eq_getElem hLE]; rfl
    have HD := Lib.hid hD; clear hD
    have HL := Lib.hid hL; clear hL
    go_enter Tryd.func74, Tryd.ntmps74
    go_wp2_with ((go_at_call 78; refine (Tryd.utf8_ValidRune _ _).mono ?_; rintro e w' ⟨rfl, hw⟩; have hw' := hw.symm; clear hw; subst hw'))
    go_step3
    go_wp2_with fail
    try go_step3
    go_wp2_with fail
    refine wp_loop_rounds 1 ?_
    rw [rounds_succ]
    · by_cases hp : last < l.length
      · have hpI : (last : Int) < (l.length : Int) := by omega
        have hLEI : (last : Int) < (E.length : Int) := by omega
        have h0I : (0 : Int) ≤ (last : Int) := by omega
        obtain ⟨X, hX⟩ : ∃ X, X = l[last] := ⟨_, rfl⟩
        have hXl : X.toNat < 128 := by rw [hX]; exact hl _ (List.getElem_mem hp)
        have hX' : l[last] = X := hX.symm
        have hdl : decide (last < l.length) = true := by simpa using hp
        have hne2 : ((X.toNat : Int) != (D.toNat : Int)) = true := by simp; omega
        clear hX
        go_wp2_with fail
        go_step3
        go_wp2_with fail
        go_quiet (fail)
        have hno : ∀ b ∈ l.drop (last + 1), b ≠ D := by
          intro b hb e
          subst e
          have := hl b (List.mem_of_mem_drop hb)
          omega
        obtain ⟨wq, hwq⟩ : ∃ wq, wq = w.drewN nq := ⟨_, rfl⟩
        rw [← hwq]
        have HWQ := Lib.hid hwq; clear hwq
        have hp1 : (last : Int) + 1 ≤ (l.length : Int) := by omega
        have hl1 : l.length ≤ 1000000 := hlen
        go_wp2_with fail
        go_quiet ((go_at_call 77; exact Calls.quiet_of_same (indexByte_no _ D _ hno)))
        go_wp2
        simp only [Exit.noGoto_ret, Exit.inBlock, Exit.then]
        go_ret
        exact ⟨rfl, by rw [HWQ.out]; exact (((Below.refl _ _).drewN _).drewN _)⟩
      · go_wp2
        try rw [Exit.noGoto_ret]
        go_ret
        exact ⟨rfl, Below.refl _ _⟩

end Go.Proofs.YtmfefeemkhncfaaDoor
