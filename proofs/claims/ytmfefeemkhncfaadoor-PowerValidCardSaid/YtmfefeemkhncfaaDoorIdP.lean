/- Names, as plain functions. No program is named. -/
import Derived.Test.YtmfefeemkhncfaaDoorIdK
namespace Go.Proofs.YtmfefeemkhncfaaDoor
set_option linter.unusedVariables false

def colonF (l : List UInt8) : Nat := (l.takeWhile (· != 58)).length
theorem colonF_le (l : List UInt8) : colonF l ≤ l.length := (List.takeWhile_sublist _).length_le
theorem colonF_nil : colonF [] = 0 := rfl
theorem colonF_cons (c : UInt8) (l : List UInt8) : colonF (c :: l) = if c = 58 then 0 else colonF l + 1 := by
  unfold colonF
  by_cases h : c = 58
  · subst h; rfl
  · have : (c != 58) = true := by simpa using h
    simp [this, h]
theorem index_colon (l : List UInt8) : Lib.index l [58] = if colonF l < l.length then (colonF l : Int) else -1 := by
  induction l with
  | nil => rfl
  | cons c l ih =>
    rw [colonF_cons, Lib.index]
    by_cases h : c = 58
    · subst h; simp [List.isPrefixOf]
    · have h1 : ((58 : UInt8) == c) = false := by rw [beq_eq_false_iff_ne]; exact fun e => h e.symm
      have h2 : List.isPrefixOf [58] (c :: l) = false := by simp only [List.isPrefixOf, h1, Bool.false_and]
      rw [h2, if_neg h]
      simp only [Bool.false_eq_true, if_false, List.length_cons]
      by_cases h3 : colonF l < l.length
      · rw [if_pos h3] at ih
        rw [ih, if_pos (show colonF l + 1 < l.length + 1 from by omega)]
        have : ((colonF l : Int) == -1) = false := by rw [beq_eq_false_iff_ne]; omega
        rw [this]; simp
      · rw [if_neg h3] at ih
        rw [ih, if_neg (show ¬ colonF l + 1 < l.length + 1 from by omega)]; rfl

theorem cut_colon (l : List UInt8) : Lib.cut l [58] = (l.take (colonF l), l.drop (colonF l + 1), decide (colonF l < l.length)) := by
  unfold Lib.cut
  rw [index_colon]
  have := colonF_le l
  by_cases h : colonF l < l.length
  · rw [if_pos h, if_pos (by omega)]; simp [h]
  · rw [if_neg h, if_neg (by omega), List.take_of_length_le (by omega), List.drop_eq_nil_of_le (by omega)]; simp [h]
theorem colon_before (l : List UInt8) : ∀ k, k < colonF l → l.getD k 0 ≠ 58 := by
  induction l with
  | nil => intro k hk; simp [colonF] at hk
  | cons c l ih =>
    intro k hk
    rw [colonF_cons] at hk
    split at hk
    · omega
    · rename_i h
      cases k with
      | zero => simpa using h
      | succ k => simpa using ih k (by omega)
theorem colon_at (l : List UInt8) (h : colonF l < l.length) : l.getD (colonF l) 0 = 58 := by
  induction l with
  | nil => simp at h
  | cons c l ih =>
    rw [colonF_cons] at h ⊢
    split
    · rename_i hc; subst hc; rfl
    · rename_i hc
      rw [if_neg hc] at h
      simp only [List.length_cons] at h
      simpa using ih (by omega)
/-- The first colon, found from the beginning on. -/
theorem colon_of (l : List UInt8) (k : Nat) (hb : ∀ j, j < k → l.getD j 0 ≠ 58) (h : (k < l.length ∧ l.getD k 0 = 58) ∨ k = l.length) : colonF l = k := by
  have h1 := colon_before l
  have h2 := colon_at l
  have h3 := colonF_le l
  rcases Nat.lt_trichotomy (colonF l) k with hlt | heq | hgt
  · exfalso
    have : colonF l < l.length := by omega
    exact hb _ hlt (h2 this)
  · exact heq
  · exfalso
    rcases h with ⟨h4, h5⟩ | h4
    · exact h1 k hgt h5
    · omega

def serverF (l : List UInt8) : Bool :=
  decide (l.length ≤ 255) && onlyF (isAmong [46, 45]) (l.take (colonF l)) &&
    (decide (colonF l = l.length) || (decide (l.length - colonF l ≤ 6) && onlyF isDigit (l.drop (colonF l + 1))))
def namedF (sign : UInt8) (p : Int → Bool) (l : List UInt8) : Bool :=
  decide (l.length ≤ 255) && (decide (colonF l < l.length) && (decide (0 < colonF l) && (l.getD 0 0 == sign && (onlyF p ((l.take (colonF l)).drop 1) && serverF (l.drop (colonF l + 1))))))
def nUserF (l : List UInt8) : Bool := namedF 64 (isAmong [46, 95, 61, 45, 47, 43]) l
def roomF (l : List UInt8) : Bool := namedF 33 (isCap [95, 45]) l
def keyF (l : List UInt8) : Bool := Lib.hasPrefix l [101, 100, 50, 53, 53, 49, 57, 58] && decide (l.length ≤ 255) && onlyF (isCap [95]) (l.drop 8)
def domainF (l : List UInt8) : List UInt8 := if nUserF l || roomF l then l.drop (colonF l + 1) else []

theorem serverF_bad (l : List UInt8) (h1 : colonF l < l.length) (h2 : 5 < l.length - (colonF l + 1) ∨ onlyF isDigit (l.drop (colonF l + 1)) = false) : serverF l = false := by
  unfold serverF
  rw [decide_eq_false (show ¬ colonF l = l.length from by omega)]
  rcases h2 with h2 | h2
  · rw [decide_eq_false (show ¬ l.length - colonF l ≤ 6 from by omega)]; simp
  · rw [h2]; simp
theorem serverF_good (l : List UInt8) (h : colonF l < l.length → l.length - (colonF l + 1) ≤ 5 ∧ onlyF isDigit (l.drop (colonF l + 1)) = true) : serverF l = (decide (l.length ≤ 255) && onlyF (isAmong [46, 45]) (l.take (colonF l))) := by
  unfold serverF
  have := colonF_le l
  by_cases h1 : colonF l = l.length
  · rw [decide_eq_true h1]; simp
  · obtain ⟨h2, h3⟩ := h (by omega)
    rw [decide_eq_true (show l.length - colonF l ≤ 6 from by omega), h3]; simp

/-- The reference's kinds. -/
def kindB (c k : Nat) : Bool := (k == 97 && decide (97 ≤ c ∧ c ≤ 122)) || (k == 65 && decide (65 ≤ c ∧ c ≤ 90)) || (k == 48 && decide (48 ≤ c ∧ c ≤ 57))
def kindsB (K : List UInt8) (c : Nat) : Bool := K.any fun k => kindB c k.toNat
def ofF (K G : List UInt8) (l : List UInt8) : Bool := !l.isEmpty && l.all fun c => kindsB K c.toNat || G.contains c
theorem any_take {α : Type} (p : α → Bool) (K : List α) (j : Nat) (h : j < K.length) : (K.take (j + 1)).any p = ((K.take j).any p || p K[j]) := by
  rw [List.take_add_one, List.getElem?_eq_getElem h, List.any_append]; simp
theorem ofF_bad (K G l : List UInt8) (i : Nat) (h : i < l.length) (hb : (kindsB K (l[i]).toNat || G.contains l[i]) = false) : ofF K G l = false := by
  unfold ofF
  rw [show (l.all fun c => kindsB K c.toNat || G.contains c) = false from by rw [List.all_eq_false]; exact ⟨l[i], List.getElem_mem h, by simpa using hb⟩]
  simp
theorem ofF_all (K G l : List UInt8) (h : ∀ c ∈ l, (kindsB K c.toNat || G.contains c) = true) : ofF K G l = !l.isEmpty := by
  unfold ofF; rw [List.all_eq_true.2 h]; simp
theorem contains_any (G : List UInt8) (c : UInt8) : G.contains c = G.any fun g => g == c := by
  induction G with
  | nil => rfl
  | cons g G ih =>
    rw [List.contains_cons, List.any_cons, ih]
    congr 1
    exact Bool.beq_comm

theorem serverF_nil : serverF [] = false := by decide
theorem prefix_one (l : List UInt8) (c : UInt8) : Lib.hasPrefix l [c] = (decide (0 < l.length) && l.getD 0 0 == c) := by
  cases l with
  | nil => simp [Lib.hasPrefix]
  | cons b l =>
    have h : Lib.hasPrefix (b :: l) [c] = (c == b) := by
      unfold Lib.hasPrefix; simp [List.isPrefixOf]
    rw [h]
    simp
    exact Bool.beq_comm
theorem namedF_eq (sign : UInt8) (p : Int → Bool) (l : List UInt8) :
    namedF sign p l = (Lib.hasPrefix (l.take (colonF l)) [sign] && (decide (l.length ≤ 255) && (onlyF p ((l.take (colonF l)).drop 1) && serverF (l.drop (colonF l + 1))))) := by
  have hle := colonF_le l
  rw [prefix_one]
  unfold namedF
  by_cases h : colonF l < l.length
  · have h1 : (l.take (colonF l)).length = colonF l := by rw [List.length_take]; omega
    rw [decide_eq_true h, h1]
    by_cases h0 : 0 < colonF l
    · have h2 : (l.take (colonF l)).getD 0 0 = l.getD 0 0 := by
        simp only [List.getD_eq_getElem?_getD, List.getElem?_take, h0, if_true]
      rw [h2, decide_eq_true h0]
      cases decide (l.length ≤ 255) <;> cases (l.getD 0 0 == sign) <;> simp
    · rw [decide_eq_false h0]; simp
  · rw [decide_eq_false h, List.drop_eq_nil_of_le (show l.length ≤ colonF l + 1 from by omega), serverF_nil]; simp
theorem namedF_def (sign : UInt8) (p : Int → Bool) (l : List UInt8) : namedF sign p l =
    (decide (l.length ≤ 255) && (decide (colonF l < l.length) && (decide (0 < colonF l) && (l.getD 0 0 == sign && (onlyF p ((l.take (colonF l)).drop 1) && serverF (l.drop (colonF l + 1))))))) := rfl
end Go.Proofs.YtmfefeemkhncfaaDoor
