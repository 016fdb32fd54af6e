/- Layer 12: what stays of a content. -/
import Derived.Test.YtlfmknebkfnliaaJgG
namespace Go.Proofs.Ytlfmknebkfnliaa
open Go.ChangeShapes Go.WideShapes Go.ChangeAt Go.RowKit Go.IntWalk
set_option linter.unusedVariables false
set_option maxRecDepth 100000

def kind0 : List UInt8 := [109, 46, 114, 111, 111, 109, 46, 109, 101, 109, 98, 101, 114]
def keep0 : List (List UInt8) := [[106, 111, 105, 110, 95, 97, 117, 116, 104, 111, 114, 105, 115, 101, 100, 95, 118, 105, 97, 95, 117, 115, 101, 114, 115, 95, 115, 101, 114, 118, 101, 114], [109, 101, 109, 98, 101, 114, 115, 104, 105, 112]]
def kind1 : List UInt8 := [109, 46, 114, 111, 111, 109, 46, 106, 111, 105, 110, 95, 114, 117, 108, 101, 115]
def keep1 : List (List UInt8) := [[97, 108, 108, 111, 119], [106, 111, 105, 110, 95, 114, 117, 108, 101]]
def kind2 : List UInt8 := [109, 46, 114, 111, 111, 109, 46, 112, 111, 119, 101, 114, 95, 108, 101, 118, 101, 108, 115]
def keep2 : List (List UInt8) := [[98, 97, 110], [101, 118, 101, 110, 116, 115], [101, 118, 101, 110, 116, 115, 95, 100, 101, 102, 97, 117, 108, 116], [105, 110, 118, 105, 116, 101], [107, 105, 99, 107], [114, 101, 100, 97, 99, 116], [115, 116, 97, 116, 101, 95, 100, 101, 102, 97, 117, 108, 116], [117, 115, 101, 114, 115], [117, 115, 101, 114, 115, 95, 100, 101, 102, 97, 117, 108, 116]]
def kind3 : List UInt8 := [109, 46, 114, 111, 111, 109, 46, 104, 105, 115, 116, 111, 114, 121, 95, 118, 105, 115, 105, 98, 105, 108, 105, 116, 121]
def keep3 : List (List UInt8) := [[104, 105, 115, 116, 111, 114, 121, 95, 118, 105, 115, 105, 98, 105, 108, 105, 116, 121]]
def kind4 : List UInt8 := [109, 46, 114, 111, 111, 109, 46, 114, 101, 100, 97, 99, 116, 105, 111, 110]
def keep4 : List (List UInt8) := [[114, 101, 100, 97, 99, 116, 115]]
def staysL (k : List UInt8) : List (List UInt8) := if k = kind0 then keep0 else if k = kind1 then keep1 else if k = kind2 then keep2 else if k = kind3 then keep3 else if k = kind4 then keep4 else []
/-- A list of texts, laid. -/
def TextsPost (ls : List (List UInt8)) (w : World) (e : Ending) (w' : World) : Prop :=
  (∃ A : Option Addr, e = .returned (.slice A ls.length ls.length) ∧ ∀ i (h : i < ls.length), ∃ g, A = some ⟨g, 0, none⟩ ∧ w.heap.size ≤ g ∧ g < w'.heap.size ∧ w'.cell? ⟨g, i, none⟩ = some (.string ⟨(ls[i]).toArray⟩)) ∧ Below w.heap.size w w'
theorem texts_new (ls : List (List UInt8)) (w : World) (cs : Array Value) (hc : cs = (ls.map strV).toArray) (n : Nat) (hn : n = ls.length) : TextsPost ls w (.returned (.slice (some ⟨w.heap.size, 0, none⟩) n n)) (w.alloc (.cells cs 9)) := by
  subst hc hn
  have hB := Blk.new w (ls.map strV) 9
  refine ⟨⟨_, rfl, fun i h => ⟨w.heap.size, rfl, Nat.le_refl _, hB.lt, hB.cell ?_⟩⟩, (Below.refl _ _).alloc (Nat.le_refl _) _⟩
  rw [List.getElem?_map, List.getElem?_eq_getElem h]; rfl
set_option maxHeartbeats 4000000 in
theorem stays_calls (k : List UInt8) (w : World) : Calls Try.prog 16 #[.string ⟨k.toArray⟩] w (TextsPost (staysL k) w) := by
  by_cases h0 : k = kind0
  · have HE := Lib.hid (show staysL k = keep0 by unfold staysL; rw [if_pos h0])
    have t0 : (k == [109, 46, 114, 111, 111, 109, 46, 109, 101, 109, 98, 101, 114]) = true := by rw [beq_iff_eq]; exact h0
    clear h0
    go_enter Try.func16, Try.ntmps16
    go_wp2_with fail
    go_ret
    rw [HE.out]
    exact texts_new keep0 w _ rfl _ rfl
  have t0 : (k == [109, 46, 114, 111, 111, 109, 46, 109, 101, 109, 98, 101, 114]) = false := by rw [beq_eq_false_iff_ne]; exact h0
  by_cases h1 : k = kind1
  · have HE := Lib.hid (show staysL k = keep1 by unfold staysL; rw [if_neg h0, if_pos h1])
    have t1 : (k == [109, 46, 114, 111, 111, 109, 46, 106, 111, 105, 110, 95, 114, 117, 108, 101, 115]) = true := by rw [beq_iff_eq]; exact h1
    clear h0 h1
    go_enter Try.func16, Try.ntmps16
    go_wp2_with fail
    go_ret
    rw [HE.out]
    exact texts_new keep1 w _ rfl _ rfl
  have t1 : (k == [109, 46, 114, 111, 111, 109, 46, 106, 111, 105, 110, 95, 114, 117, 108, 101, 115]) = false := by rw [beq_eq_false_iff_ne]; exact h1
  by_cases h2 : k = kind2
  · have HE := Lib.hid (show staysL k = keep2 by unfold staysL; rw [if_neg h0, if_neg h1, if_pos h2])
    have t2 : (k == [109, 46, 114, 111, 111, 109, 46, 112, 111, 119, 101, 114, 95, 108, 101, 118, 101, 108, 115]) = true := by rw [beq_iff_eq]; exact h2
    clear h0 h1 h2
    go_enter Try.func16, Try.ntmps16
    go_wp2_with fail
    go_ret
    rw [HE.out]
    exact texts_new keep2 w _ rfl _ rfl
  have t2 : (k == [109, 46, 114, 111, 111, 109, 46, 112, 111, 119, 101, 114, 95, 108, 101, 118, 101, 108, 115]) = false := by rw [beq_eq_false_iff_ne]; exact h2
  by_cases h3 : k = kind3
  · have HE := Lib.hid (show staysL k = keep3 by unfold staysL; rw [if_neg h0, if_neg h1, if_neg h2, if_pos h3])
    have t3 : (k == [109, 46, 114, 111, 111, 109, 46, 104, 105, 115, 116, 111, 114, 121, 95, 118, 105, 115, 105, 98, 105, 108, 105, 116, 121]) = true := by rw [beq_iff_eq]; exact h3
    clear h0 h1 h2 h3
    go_enter Try.func16, Try.ntmps16
    go_wp2_with fail
    go_ret
    rw [HE.out]
    exact texts_new keep3 w _ rfl _ rfl
  have t3 : (k == [109, 46, 114, 111, 111, 109, 46, 104, 105, 115, 116, 111, 114, 121, 95, 118, 105, 115, 105, 98, 105, 108, 105, 116, 121]) = false := by rw [beq_eq_false_iff_ne]; exact h3
  by_cases h4 : k = kind4
  · have HE := Lib.hid (show staysL k = keep4 by unfold staysL; rw [if_neg h0, if_neg h1, if_neg h2, if_neg h3, if_pos h4])
    have t4 : (k == [109, 46, 114, 111, 111, 109, 46, 114, 101, 100, 97, 99, 116, 105, 111, 110]) = true := by rw [beq_iff_eq]; exact h4
    clear h0 h1 h2 h3 h4
    go_enter Try.func16, Try.ntmps16
    go_wp2_with fail
    go_ret
    rw [HE.out]
    exact texts_new keep4 w _ rfl _ rfl
  have t4 : (k == [109, 46, 114, 111, 111, 109, 46, 114, 101, 100, 97, 99, 116, 105, 111, 110]) = false := by rw [beq_eq_false_iff_ne]; exact h4
  have HE := Lib.hid (show staysL k = [] by unfold staysL; rw [if_neg h0, if_neg h1, if_neg h2, if_neg h3, if_neg h4])
  clear h0 h1 h2 h3 h4
  go_enter Try.func16, Try.ntmps16
  go_wp2_with fail
  go_ret
  rw [HE.out]
  exact ⟨⟨none, rfl, fun i h => absurd h (Nat.not_lt_zero i)⟩, Below.refl _ _⟩
set_option maxHeartbeats 4000000 in
theorem kept_calls (k : List UInt8) (w : World) : Calls Try.prog 11 #[.string ⟨k.toArray⟩] w (TextsPost (staysL k) w) := by
  by_cases h0 : k = kind0
  · have HE := Lib.hid (show staysL k = keep0 by unfold staysL; rw [if_pos h0])
    have t0 : (k == [109, 46, 114, 111, 111, 109, 46, 109, 101, 109, 98, 101, 114]) = true := by rw [beq_iff_eq]; exact h0
    clear h0
    go_enter Try.func11, Try.ntmps11
    go_wp2_with fail
    go_ret
    rw [HE.out]
    exact texts_new keep0 w _ rfl _ rfl
  have t0 : (k == [109, 46, 114, 111, 111, 109, 46, 109, 101, 109, 98, 101, 114]) = false := by rw [beq_eq_false_iff_ne]; exact h0
  by_cases h1 : k = kind1
  · have HE := Lib.hid (show staysL k = keep1 by unfold staysL; rw [if_neg h0, if_pos h1])
    have t1 : (k == [109, 46, 114, 111, 111, 109, 46, 106, 111, 105, 110, 95, 114, 117, 108, 101, 115]) = true := by rw [beq_iff_eq]; exact h1
    clear h0 h1
    go_enter Try.func11, Try.ntmps11
    go_wp2_with fail
    go_ret
    rw [HE.out]
    exact texts_new keep1 w _ rfl _ rfl
  have t1 : (k == [109, 46, 114, 111, 111, 109, 46, 106, 111, 105, 110, 95, 114, 117, 108, 101, 115]) = false := by rw [beq_eq_false_iff_ne]; exact h1
  by_cases h2 : k = kind2
  · have HE := Lib.hid (show staysL k = keep2 by unfold staysL; rw [if_neg h0, if_neg h1, if_pos h2])
    have t2 : (k == [109, 46, 114, 111, 111, 109, 46, 112, 111, 119, 101, 114, 95, 108, 101, 118, 101, 108, 115]) = true := by rw [beq_iff_eq]; exact h2
    clear h0 h1 h2
    go_enter Try.func11, Try.ntmps11
    go_wp2_with fail
    go_ret
    rw [HE.out]
    exact texts_new keep2 w _ rfl _ rfl
  have t2 : (k == [109, 46, 114, 111, 111, 109, 46, 112, 111, 119, 101, 114, 95, 108, 101, 118, 101, 108, 115]) = false := by rw [beq_eq_false_iff_ne]; exact h2
  by_cases h3 : k = kind3
  · have HE := Lib.hid (show staysL k = keep3 by unfold staysL; rw [if_neg h0, if_neg h1, if_neg h2, if_pos h3])
    have t3 : (k == [109, 46, 114, 111, 111, 109, 46, 104, 105, 115, 116, 111, 114, 121, 95, 118, 105, 115, 105, 98, 105, 108, 105, 116, 121]) = true := by rw [beq_iff_eq]; exact h3
    clear h0 h1 h2 h3
    go_enter Try.func11, Try.ntmps11
    go_wp2_with fail
    go_ret
    rw [HE.out]
    exact texts_new keep3 w _ rfl _ rfl
  have t3 : (k == [109, 46, 114, 111, 111, 109, 46, 104, 105, 115, 116, 111, 114, 121, 95, 118, 105, 115, 105, 98, 105, 108, 105, 116, 121]) = false := by rw [beq_eq_false_iff_ne]; exact h3
  by_cases h4 : k = kind4
  · have HE := Lib.hid (show staysL k = keep4 by unfold staysL; rw [if_neg h0, if_neg h1, if_neg h2, if_neg h3, if_pos h4])
    have t4 : (k == [109, 46, 114, 111, 111, 109, 46, 114, 101, 100, 97, 99, 116, 105, 111, 110]) = true := by rw [beq_iff_eq]; exact h4
    clear h0 h1 h2 h3 h4
    go_enter Try.func11, Try.ntmps11
    go_wp2_with fail
    go_ret
    rw [HE.out]
    exact texts_new keep4 w _ rfl _ rfl
  have t4 : (k == [109, 46, 114, 111, 111, 109, 46, 114, 101, 100, 97, 99, 116, 105, 111, 110]) = false := by rw [beq_eq_false_iff_ne]; exact h4
  have HE := Lib.hid (show staysL k = [] by unfold staysL; rw [if_neg h0, if_neg h1, if_neg h2, if_neg h3, if_neg h4])
  clear h0 h1 h2 h3 h4
  go_enter Try.func11, Try.ntmps11
  go_wp2_with fail
  go_ret
  rw [HE.out]
  exact ⟨⟨none, rfl, fun i h => absurd h (Nat.not_lt_zero i)⟩, Below.refl _ _⟩
end Go.Proofs.Ytlfmknebkfnliaa
