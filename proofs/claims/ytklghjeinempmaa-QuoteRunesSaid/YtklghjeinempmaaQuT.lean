/- Layer 8, no run: escapes read back, and a text read from between its quotes. -/
import Derived.Test.YtklghjeinempmaaQuF
import Derived.Lib.Bytealg
namespace Go.Proofs.Ytklghjeinempmaa
open Go.Lib
set_option linter.unusedVariables false

def digV (c : UInt8) : Option Nat :=
  if 48 ≤ c.toNat ∧ c.toNat ≤ 57 then some (c.toNat - 48)
  else if 97 ≤ c.toNat ∧ c.toNat ≤ 102 then some (c.toNat - 87)
  else if 65 ≤ c.toNat ∧ c.toNat ≤ 70 then some (c.toNat - 55)
  else none
theorem digV_lt {c : UInt8} {d : Nat} (h : digV c = some d) : d < 16 ∧ c.toNat < 128 := by
  unfold digV at h
  repeat' split at h
  all_goals (cases h; try omega)
def hexN (acc : Nat) : List UInt8 → Option Nat
  | [] => some acc
  | c :: t => match digV c with | none => none | some d => hexN (16 * acc + d) t
theorem hexN_none {acc : Nat} {c : UInt8} {t : List UInt8} (h : digV c = none) : hexN acc (c :: t) = none := by simp [hexN, h]
theorem hexN_some {acc d : Nat} {c : UInt8} {t : List UInt8} (h : digV c = some d) : hexN acc (c :: t) = hexN (16 * acc + d) t := by simp [hexN, h]
theorem hexN_lt : ∀ (t : List UInt8) (acc n : Nat), hexN acc t = some n → n < 16 ^ t.length * (acc + 1) ∧ ∀ c ∈ t, c.toNat < 128
  | [], acc, n, h => by simp [hexN] at h; subst h; simp
  | c :: t, acc, n, h => by
    cases hd : digV c with
    | none => rw [hexN_none hd] at h; cases h
    | some d =>
      rw [hexN_some hd] at h
      obtain ⟨h1, h2⟩ := hexN_lt t _ _ h
      obtain ⟨h3, h4⟩ := digV_lt hd
      refine ⟨Nat.lt_of_lt_of_le h1 ?_, ?_⟩
      · rw [List.length_cons, Nat.pow_succ, Nat.mul_assoc]
        exact Nat.mul_le_mul (Nat.le_refl _) (by omega)
      · intro x hx
        rcases List.mem_cons.1 hx with rfl | hx
        · exact h4
        · exact h2 x hx
def hexF (m : List UInt8) : Option Nat := if 6 ≤ m.length ∧ m.getD 0 0 = 92 ∧ m.getD 1 0 = 117 then hexN 0 ((m.drop 2).take 4) else none
theorem hexF_some {m : List UInt8} {n : Nat} (h : hexF m = some n) : n < 65536 ∧ 6 ≤ m.length ∧ ∀ j, j < 6 → (m.getD j 0).toNat < 128 := by
  unfold hexF at h
  by_cases hc : 6 ≤ m.length ∧ m.getD 0 0 = 92 ∧ m.getD 1 0 = 117
  · rw [if_pos hc] at h
    obtain ⟨h1, h2⟩ := hexN_lt _ _ _ h
    have hl : ((m.drop 2).take 4).length = 4 := by simp; omega
    rw [hl] at h1
    refine ⟨by omega, hc.1, fun j hj => ?_⟩
    by_cases h0 : j = 0
    · subst h0; rw [hc.2.1]; decide
    by_cases h1 : j = 1
    · subst h1; rw [hc.2.2]; decide
    apply h2
    have : m.getD j 0 = ((m.drop 2).take 4)[j - 2]'(by omega) := by
      rw [List.getElem_take, List.getElem_drop, List.getD_eq_getElem?_getD, List.getElem?_eq_getElem (by omega)]
      simp only [Option.getD_some]
      congr 1; omega
    rw [this]
    exact List.getElem_mem _
  · rw [if_neg hc] at h; cases h

def shortF (c : UInt8) : Option UInt8 :=
  if c = 34 then some 34 else if c = 92 then some 92 else if c = 47 then some 47 else if c = 98 then some 8 else if c = 102 then some 12 else if c = 110 then some 10 else if c = 114 then some 13 else if c = 116 then some 9 else none
theorem shortF_lt {c d : UInt8} (h : shortF c = some d) : d.toNat < 128 ∧ c.toNat < 128 := by
  unfold shortF at h
  repeat' split at h
  all_goals (cases h; try (rename_i hc; subst hc; decide))
def numF (m : List UInt8) : Nat × Nat :=
  match hexF m with
  | none => (0, 0)
  | some n => if 56320 ≤ n ∧ n < 57344 then (0, 0) else if n < 55296 ∨ 57344 ≤ n then (n, 6) else
    match hexF (m.drop 6) with
    | none => (0, 0)
    | some k => if 56320 ≤ k ∧ k < 57344 then (65536 + 1024 * (n - 55296) + (k - 56320), 12) else (0, 0)
def escF (m : List UInt8) : Nat × Nat :=
  if m.length < 2 then (0, 0) else
  match shortF (m.getD 1 0) with
  | some c => (c.toNat, 2)
  | none => numF m

/-- A rune's number that UTF-8 can tell. -/
def OkR (r : Nat) : Prop := r < 55296 ∨ 57344 ≤ r ∧ r ≤ 1114111
theorem OkR.valid {r : Nat} (h : OkR r) : Utf8.valid (r : Int) = true := by
  rw [validRune_eq]; unfold validRune; rw [decide_eq_true_eq]; unfold OkR at h; omega
theorem OkR.le {r : Nat} (h : OkR r) : r ≤ 1114111 := by unfold OkR at h; omega
theorem numF_ok (m : List UInt8) (h : (numF m).2 ≠ 0) : OkR (numF m).1 ∧ (numF m).2 ≤ m.length ∧ ∀ j, j < (numF m).2 → (m.getD j 0).toNat < 128 := by
  unfold numF at *
  cases h1 : hexF m with
  | none => rw [h1] at h; simp at h
  | some n =>
    rw [h1] at h
    obtain ⟨a1, a2, a3⟩ := hexF_some h1
    simp only at *
    by_cases c1 : 56320 ≤ n ∧ n < 57344
    · rw [if_pos c1] at h; simp at h
    · rw [if_neg c1] at h ⊢
      by_cases c2 : n < 55296 ∨ 57344 ≤ n
      · rw [if_pos c2]; exact ⟨by unfold OkR; simp only []; omega, a2, a3⟩
      · rw [if_neg c2] at h ⊢
        cases h2 : hexF (m.drop 6) with
        | none => rw [h2] at h; simp at h
        | some k =>
          rw [h2] at h
          obtain ⟨b1, b2, b3⟩ := hexF_some h2
          simp only at *
          by_cases c3 : 56320 ≤ k ∧ k < 57344
          · rw [if_pos c3]
            rw [List.length_drop] at b2
            refine ⟨by unfold OkR; simp only []; omega, by simp only []; omega, fun j hj => ?_⟩
            simp only at hj
            by_cases hj6 : j < 6
            · exact a3 j hj6
            · have := b3 (j - 6) (by omega)
              rw [List.getD_eq_getElem?_getD, List.getElem?_drop] at this
              rw [List.getD_eq_getElem?_getD]
              rwa [show 6 + (j - 6) = j from by omega] at this
          · rw [if_neg c3] at h; simp at h
theorem escF_ok (m : List UInt8) (h0 : m.getD 0 0 = 92) (h : (escF m).2 ≠ 0) : OkR (escF m).1 ∧ (escF m).2 ≤ m.length ∧ ∀ j, j < (escF m).2 → (m.getD j 0).toNat < 128 := by
  unfold escF at *
  by_cases hl : m.length < 2
  · rw [if_pos hl] at h; simp at h
  · rw [if_neg hl] at h ⊢
    cases hs : shortF (m.getD 1 0) with
    | none => rw [hs] at h; exact numF_ok m h
    | some c =>
      obtain ⟨h1, h2⟩ := shortF_lt hs
      simp only
      refine ⟨by unfold OkR; omega, by omega, fun j hj => ?_⟩
      have : j = 0 ∨ j = 1 := by omega
      rcases this with rfl | rfl
      · rw [h0]; decide
      · exact h2

/-- What is read at the head of a text between quotes that isn't its end: the rune, and its bytes' number; (.., 0): it is none. -/
def stepF (m : List UInt8) : Nat × Nat := if m.getD 0 0 = 92 then escF m else if (runeF m).1 < 32 then (0, 0) else runeF m
theorem runeF_ok (m : List UInt8) (h : (runeF m).2 ≠ 0) : m ≠ [] ∧ ¬ NoR m ∧ runeF m = decodeL m := by
  unfold runeF at *
  by_cases hc : m = [] ∨ NoR m
  · rw [if_pos hc] at h; simp at h
  · rw [if_neg hc]; exact ⟨fun h => hc (.inl h), fun h => hc (.inr h), rfl⟩
theorem decode_ok (m : List UInt8) (hne : m ≠ []) (hn : ¬ NoR m) : OkR (decodeL m).1 := by
  cases m with
  | nil => exact absurd rfl hne
  | cons c t =>
    by_cases h : c.toNat < 128
    · rw [decodeL_ascii c t h]; unfold OkR; simp only []; omega
    · obtain ⟨h1, h2, h3, h4⟩ := rune_multi c t (by omega) hn
      rw [validRune_eq] at h3
      unfold validRune at h3
      rw [decide_eq_true_eq] at h3
      unfold OkR; omega
theorem stepF_ok (m : List UInt8) (h : (stepF m).2 ≠ 0) : OkR (stepF m).1 ∧ (stepF m).2 ≤ m.length ∧ m ≠ [] := by
  unfold stepF at *
  by_cases h0 : m.getD 0 0 = 92
  · rw [if_pos h0] at h ⊢
    obtain ⟨h1, h2, _⟩ := escF_ok m h0 h
    exact ⟨h1, h2, by intro e; rw [e] at h0; simp at h0⟩
  · rw [if_neg h0] at h ⊢
    by_cases h1 : (runeF m).1 < 32
    · rw [if_pos h1] at h; simp at h
    · rw [if_neg h1] at h ⊢
      obtain ⟨a, b, c⟩ := runeF_ok m h
      rw [c]
      exact ⟨decode_ok m a b, decodeL_le m a, a⟩

def scanN : Nat → List UInt8 → Option (List UInt8 × Nat)
  | 0, _ => none
  | _ + 1, [] => none
  | n + 1, c :: t => if c = 34 then some ([], 1) else if (stepF (c :: t)).2 = 0 then none else
    (scanN n ((c :: t).drop (stepF (c :: t)).2)).map fun p => (encodeRune ((stepF (c :: t)).1 : Int) ++ p.1, (stepF (c :: t)).2 + p.2)
theorem scanN_fuel : ∀ (n k : Nat) (m : List UInt8), m.length ≤ n → m.length ≤ k → scanN n m = scanN k m
  | 0, 0, m, h1, h2 => rfl
  | 0, k + 1, m, h1, h2 => by
    have : m = [] := List.length_eq_zero_iff.1 (by omega)
    subst this; rfl
  | n + 1, 0, m, h1, h2 => by
    have : m = [] := List.length_eq_zero_iff.1 (by omega)
    subst this; rfl
  | n + 1, k + 1, [], h1, h2 => rfl
  | n + 1, k + 1, c :: t, h1, h2 => by
    unfold scanN
    by_cases h3 : c = 34
    · rw [if_pos h3, if_pos h3]
    · rw [if_neg h3, if_neg h3]
      by_cases h4 : (stepF (c :: t)).2 = 0
      · rw [if_pos h4, if_pos h4]
      · rw [if_neg h4, if_neg h4]
        rw [List.length_cons] at h1 h2
        rw [scanN_fuel n k _ (by rw [List.length_drop, List.length_cons]; omega) (by rw [List.length_drop, List.length_cons]; omega)]
def scan (m : List UInt8) : Option (List UInt8 × Nat) := scanN m.length m
theorem scan_nil : scan [] = none := rfl
theorem scan_quote (t : List UInt8) : scan (34 :: t) = some ([], 1) := by simp [scan, scanN]
theorem scan_fail (c : UInt8) (t : List UInt8) (h : c ≠ 34) (h0 : (stepF (c :: t)).2 = 0) : scan (c :: t) = none := by simp [scan, scanN, h, h0]
theorem scan_next (c : UInt8) (t : List UInt8) (h : c ≠ 34) (h0 : (stepF (c :: t)).2 ≠ 0) :
    scan (c :: t) = (scan ((c :: t).drop (stepF (c :: t)).2)).map fun p => (encodeRune ((stepF (c :: t)).1 : Int) ++ p.1, (stepF (c :: t)).2 + p.2) := by
  show scanN (t.length + 1) (c :: t) = _
  unfold scan
  rw [scanN, if_neg h, if_neg h0]
  rw [scanN_fuel t.length _ _ (by rw [List.length_drop, List.length_cons]; omega) (Nat.le_refl _)]

def fin (at_ : Nat) (R : Option (List UInt8 × Nat)) : List UInt8 × Int × Bool := match R with | none => ([], 0, false) | some p => (p.1, ((at_ + p.2 : Nat) : Int), true)
/-- What Take answers. -/
def takeF (l : List UInt8) (i : Int) : List UInt8 × Int × Bool :=
  if 0 ≤ i ∧ i < l.length ∧ l.getD i.toNat 0 = 34 then fin (i.toNat + 1) (scan (l.drop (i.toNat + 1))) else ([], 0, false)
/-- so far: 'out' was read out of k bytes, m is left -/
def Far (R : Option (List UInt8 × Nat)) (out : List UInt8) (k : Nat) (m : List UInt8) : Prop := R = (scan m).map fun p => (out ++ p.1, k + p.2)
theorem Far.start (m : List UInt8) : Far (scan m) [] 0 m := by
  unfold Far
  cases scan m with
  | none => rfl
  | some p => simp
theorem Far.done {R : Option (List UInt8 × Nat)} {out : List UInt8} {k : Nat} (h : Far R out k []) : R = none := by rw [h, scan_nil]; rfl
theorem Far.quote {R : Option (List UInt8 × Nat)} {out t : List UInt8} {k : Nat} (h : Far R out k (34 :: t)) : R = some (out, k + 1) := by rw [h, scan_quote]; simp
theorem Far.fail {R : Option (List UInt8 × Nat)} {out t : List UInt8} {k : Nat} {c : UInt8} (h : Far R out k (c :: t)) (hc : c ≠ 34) (h0 : (stepF (c :: t)).2 = 0) : R = none := by rw [h, scan_fail c t hc h0]; rfl
theorem Far.next {R : Option (List UInt8 × Nat)} {out t : List UInt8} {k : Nat} {c : UInt8} (h : Far R out k (c :: t)) (hc : c ≠ 34) (h0 : (stepF (c :: t)).2 ≠ 0) :
    Far R (out ++ encodeRune ((stepF (c :: t)).1 : Int)) (k + (stepF (c :: t)).2) ((c :: t).drop (stepF (c :: t)).2) := by
  unfold Far at *
  rw [h, scan_next c t hc h0, Option.map_map]
  congr 1
  funext p
  simp [Function.comp, Nat.add_assoc]

theorem len_enc (r : Nat) (h : OkR r) : runeLen (r : Int) = ((encodeRune (r : Int)).length : Int) := by
  unfold encodeRune runeLen
  rw [List.length_map]
  unfold OkR at h
  by_cases h1 : r ≤ 127
  · rw [encodeRuneZ_one (by omega) (by omega), if_neg (by omega), if_pos (by omega)]; rfl
  · by_cases h2 : r ≤ 2047
    · rw [encodeRuneZ_two (by omega) (by omega), if_neg (by omega), if_neg (by omega), if_pos (by omega)]; rfl
    · by_cases h3 : r ≤ 65535
      · rw [encodeRuneZ_three (by omega), if_neg (by omega), if_neg (by omega), if_neg (by omega), if_neg (by omega), if_pos (by omega)]; rfl
      · rw [encodeRuneZ_four (by omega) (by omega), if_neg (by omega), if_neg (by omega), if_neg (by omega), if_neg (by omega), if_neg (by omega), if_pos (by omega)]; rfl
theorem len_decode (m : List UInt8) (hne : m ≠ []) (hn : ¬ NoR m) : runeLen ((decodeL m).1 : Int) = ((decodeL m).2 : Int) := by
  rw [len_enc _ (decode_ok m hne hn), encode_decode m hne hn, List.length_take, Nat.min_eq_left (decodeL_le m hne)]

/-- What quote.number looks up is a digit's number. -/
def lowC (c : UInt8) : UInt8 := if 65 ≤ c.toNat ∧ c.toNat ≤ 70 then UInt8.ofNat (c.toNat + 32) else c
theorem dig_index : ∀ c : Fin 256, indexByte [48, 49, 50, 51, 52, 53, 54, 55, 56, 57, 97, 98, 99, 100, 101, 102] (lowC (UInt8.ofNat c.val)) = (match digV (UInt8.ofNat c.val) with | none => -1 | some d => (d : Int)) := by decide +kernel
theorem dig_at (c : UInt8) : indexByte [48, 49, 50, 51, 52, 53, 54, 55, 56, 57, 97, 98, 99, 100, 101, 102] (lowC c) = (match digV c with | none => -1 | some d => (d : Int)) := by
  have := dig_index ⟨c.toNat, c.toNat_lt⟩
  simpa using this
theorem dig_hi (c : UInt8) (h : 128 ≤ c.toNat) : digV c = none := by
  unfold digV
  rw [if_neg (by omega), if_neg (by omega), if_neg (by omega)]
/-- Any rune of a byte that isn't ASCII, wrong ones too. -/
theorem rune_hi (b : UInt8) (t : List UInt8) (hb : 128 ≤ b.toNat) : 128 ≤ (decodeL (b :: t)).1 ∧ (decodeL (b :: t)).1 ≤ 1114111 ∧ Utf8.valid ((decodeL (b :: t)).1 : Int) = true := by
  by_cases hn : NoR (b :: t)
  · rw [hn.1]; decide
  · obtain ⟨h1, h2, h3, _⟩ := rune_multi b t hb hn
    exact ⟨h1, h2, h3⟩
end Go.Proofs.Ytklghjeinempmaa
