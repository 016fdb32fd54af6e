/- The kinds of runes, and texts of one kind. -/
import Derived.Test.YtmfefeemkhncfaaDoorRuneHi
namespace Go.Proofs.YtmfefeemkhncfaaDoor
open Go.ChangeShapes Go.WideShapes Go.ChangeAt Go.RowKit Go.IntWalk
set_option linter.unusedVariables false

theorem decode_valid (s : ByteArray) (pos : Nat) : Utf8.valid ((Utf8.decode s pos).1 : Nat) = true := by
  have hb : ∀ k, (s.get! (pos + k)).toNat < 256 := fun k => (s.get! (pos + k)).toNat_lt
  have h0 := hb 0; have h1 := hb 1; have h2 := hb 2; have h3 := hb 3
  simp only [Utf8.decode]
  repeat' split
  all_goals first
    | (rename_i h; simp only [Bool.and_eq_true] at h; exact h.2)
    | (simp only [Utf8.valid, Utf8.runeError]; decide)
    | (simp only [Utf8.valid, Bool.or_eq_true, Bool.and_eq_true, decide_eq_true_eq]; omega)

/-- The kinds, on runes: digits; letters and digits and some signs; capitals too. -/
def isDigit (r : Int) : Bool := decide (48 ≤ r ∧ r ≤ 57)
def inSigns (others : List UInt8) (r : Int) : Bool := decide (0 ≤ r ∧ r < 128) && others.contains r.toNat.toUInt8
def isAmong (others : List UInt8) (r : Int) : Bool := isDigit r || decide (97 ≤ r ∧ r ≤ 122) || inSigns others r
def isCap (others : List UInt8) (r : Int) : Bool := decide (65 ≤ r ∧ r ≤ 90) || isAmong others r

theorem digit_calls (r : Int) (w : World) :
    Calls Tryd.prog 70 #[.int .i32 r] w fun e w' => e = .returned (.bool (isDigit r)) ∧ w = w' := by
  by_cases h1 : 48 ≤ r
  · by_cases h2 : r ≤ 57
    · go_enter Tryd.func70, Tryd.ntmps70
      go_wp2
      go_ret
      exact ⟨ret_bool (by simp [isDigit, h1, h2]), rfl⟩
    · have h2' : decide (r ≤ 57) = false := by simpa using h2
      go_enter Tryd.func70, Tryd.ntmps70
      go_wp2
      go_ret
      exact ⟨ret_bool (by simp [isDigit, h2]), rfl⟩
  · have h1' : decide (48 ≤ r) = false := by simpa using h1
    go_enter Tryd.func70, Tryd.ntmps70
    go_wp2
    go_ret
    exact ⟨ret_bool (by simp [isDigit]; omega), rfl⟩

theorem indexByte_contains (l : List UInt8) (c : UInt8) : decide (0 ≤ Lib.indexByte l c) = l.contains c := by
  induction l with
  | nil => rfl
  | cons b l ih =>
    simp only [Lib.indexByte, List.contains_cons]
    by_cases h : b = c
    · subst h; simp
    · have h1 : (b == c) = false := by simpa using h
      have h2 : (c == b) = false := by simpa using fun e => h e.symm
      simp only [h1, h2, Bool.false_eq_true, if_false, Bool.false_or]
      rw [← ih]
      by_cases h3 : Lib.indexByte l c = -1
      · simp [h3]
      · have : (Lib.indexByte l c == -1) = false := by simpa using h3
        simp only [this]
        have hge : -1 ≤ Lib.indexByte l c := by
          clear ih h3 this
          induction l with
          | nil => simp [Lib.indexByte]
          | cons x l ih =>
            simp only [Lib.indexByte]
            split
            · omega
            · split
              · omega
              · rename_i h5; have := ih; simp at h5; omega
        simp only [Bool.false_eq_true, if_false]
        congr 1
        simp only [eq_iff_iff]
        omega

theorem contains_calls (l : List UInt8) (r : Int) (w : World) (hl : ∀ b ∈ l, b.toNat < 128) (hlen : l.length ≤ 1000000) (hr : 0 ≤ r ∧ r ≤ 1114111) (hok : Utf8.valid r = true) :
    Calls Tryd.prog 71 #[.string ⟨l.toArray⟩, .int .i32 r] w fun e w' => e = .returned (.bool (inSigns l r)) ∧ Below w.heap.size w w' := by
  by_cases h : r < 128
  · refine (Tryd.strings_ContainsRune_ascii ⟨l.toArray⟩ r w hr.1 h).mono ?_
    rintro e w' ⟨rfl, rfl⟩
    refine ⟨?_, Below.refl _ _⟩
    rw [show (⟨l.toArray⟩ : ByteArray).data.toList = l from rfl, indexByte_contains]
    unfold inSigns; simp [hr.1, h]
  · go_enter Tryd.func71, Tryd.ntmps71
    go_wp2_with (go_at_call 74; refine (indexRune_hi l r _ hl hlen (by omega) hok).mono ?_; rintro e w' ⟨rfl, hb⟩)
    go_ret
    refine ⟨ret_bool ?_, hb⟩
    unfold inSigns; rw [decide_eq_false (show ¬ (0 ≤ r ∧ r < 128) from by omega)]; rfl

set_option maxHeartbeats 1000000 in
theorem among_calls (l : List UInt8) (r : Int) (b : Nat) (w : World) (hl : ∀ b ∈ l, b.toNat < 128) (hlen : l.length ≤ 1000000) (hr : 0 ≤ r ∧ r ≤ 1114111) (hok : Utf8.valid r = true)
    (hc : w.cell? ⟨b, 0, none⟩ = some (.string ⟨l.toArray⟩)) :
    Calls Tryd.prog 69 #[.int .i32 r, .pointer (some ⟨b, 0, none⟩)] w fun e w' => e = .returned (.bool (isAmong l r)) ∧ Below w.heap.size w w' := by
  by_cases h1 : isDigit r = true
  · have HE : Hid (isAmong l r = true) := by show _ = _; simp [isAmong, h1]
    go_enter Tryd.func69, Tryd.ntmps69
    go_wp2_with (go_at_call 70; refine (digit_calls r _).mono ?_; rintro e w' ⟨rfl, rfl⟩)
    go_ret
    exact ⟨ret_bool HE.out.symm, Below.refl _ _⟩
  · have h1' : isDigit r = false := by simpa using h1
    by_cases h2 : 97 ≤ r ∧ r ≤ 122
    · obtain ⟨h2a, h2b⟩ := h2
      have HE : Hid (isAmong l r = true) := by show _ = _; simp [isAmong, h2a, h2b]
      go_enter Tryd.func69, Tryd.ntmps69
      go_wp2_with (go_at_call 70; refine (digit_calls r _).mono ?_; rintro e w' ⟨rfl, rfl⟩)
      go_ret
      exact ⟨ret_bool HE.out.symm, Below.refl _ _⟩
    · have HE : Hid (isAmong l r = (inSigns l r)) := by
        show _ = _; unfold isAmong; rw [h1', decide_eq_false h2]; simp
      by_cases h3 : 97 ≤ r
      · have h4 : decide (r ≤ 122) = false := by simp; omega
        go_enter Tryd.func69, Tryd.ntmps69
        go_wp2_with (first | (go_at_call 70; refine (digit_calls r _).mono ?_; rintro e w' ⟨rfl, rfl⟩) | (go_at_call 71; refine (contains_calls l r _ hl hlen hr hok).mono ?_; rintro e w' ⟨rfl, hb⟩))
        go_ret
        exact ⟨ret_bool HE.out.symm, hb⟩
      · have h4 : decide (97 ≤ r) = false := by simp; omega
        go_enter Tryd.func69, Tryd.ntmps69
        go_wp2_with (first | (go_at_call 70; refine (digit_calls r _).mono ?_; rintro e w' ⟨rfl, rfl⟩) | (go_at_call 71; refine (contains_calls l r _ hl hlen hr hok).mono ?_; rintro e w' ⟨rfl, hb⟩))
        go_ret
        exact ⟨ret_bool HE.out.symm, hb⟩

/-- A text of one kind: not empty, each byte of the kind. -/
def onlyF (p : Int → Bool) (l : List UInt8) : Bool := !l.isEmpty && l.all fun c => p c.toNat
theorem digit_lt {r : Int} (h : isDigit r = true) : 0 ≤ r ∧ r < 128 := by simp [isDigit] at h; omega
theorem among_lt {l : List UInt8} {r : Int} (h : isAmong l r = true) : 0 ≤ r ∧ r < 128 := by
  simp only [isAmong, isDigit, inSigns, Bool.or_eq_true, Bool.and_eq_true, decide_eq_true_eq] at h; omega
theorem cap_lt {l : List UInt8} {r : Int} (h : isCap l r = true) : 0 ≤ r ∧ r < 128 := by
  simp only [isCap, Bool.or_eq_true, decide_eq_true_eq] at h
  rcases h with h | h
  · omega
  · exact among_lt h

/-- What is known of a function value: it answers p. -/
def Tells (v : Value) (p : Int → Bool) (w : World) : Prop :=
  ∃ F caps, v = .func (.func F) #[] caps ∧ (∀ (a : Array Value) (w' : World), (callFunc F a).run Tryd.prog w' = .ok (.enter F a) w') ∧ ∀ (r : Int) (w' : World), Below w.heap.size w w' → 0 ≤ r ∧ r ≤ 1114111 → Utf8.valid r = true →
    Calls Tryd.prog F (#[.int .i32 r] ++ caps) w' fun e w'' => e = .returned (.bool (p r)) ∧ Below w'.heap.size w' w''

theorem only_bad {p : Int → Bool} (hp : ∀ r, p r = true → 0 ≤ r ∧ r < 128) {s : ByteArray} {k : Nat} (hk : k < s.size) (h : p (Utf8.decode s k).1 = false) : onlyF p s.data.toList = false := by
  have hk' : k < s.data.toList.length := hk
  have hb : p (s.data.toList.getD k 0).toNat = false := by
    rcases Nat.lt_or_ge (s.data.toList.getD k 0).toNat 128 with h1 | h1
    · have e : s.data.toList.getD k 0 = s[k]'hk := by rw [List.getD_eq_getElem?_getD, List.getElem?_eq_getElem hk']; rfl
      rw [e] at h1 ⊢
      rw [decode_ascii s k hk h1] at h
      exact h
    · cases hq : p (s.data.toList.getD k 0).toNat with
      | false => rfl
      | true => have := hp _ hq; omega
  unfold onlyF
  rw [show (s.data.toList.all fun c => p c.toNat) = false from by
    rw [List.all_eq_false]
    refine ⟨s.data.toList[k], List.getElem_mem hk', ?_⟩
    rw [List.getD_eq_getElem?_getD, List.getElem?_eq_getElem hk'] at hb
    simpa using hb]
  simp
theorem only_width {p : Int → Bool} (hp : ∀ r, p r = true → 0 ≤ r ∧ r < 128) {s : ByteArray} {k : Nat} (hk : k < s.size) (h : p (Utf8.decode s k).1 = true) : Utf8.decode s k = ((s.data.toList.getD k 0).toNat, 1) := by
  have := hp _ h
  have hb : (s[k]'hk).toNat < 128 := by
    rcases Nat.lt_or_ge (s[k]'hk).toNat 128 with h1 | h1
    · exact h1
    · have := (decode_high s k hk h1).1; omega
  rw [decode_ascii s k hk hb]
  have h' : k < s.data.toList.length := hk
  rw [List.getD_eq_getElem?_getD, List.getElem?_eq_getElem h']
  rfl
theorem decode_max (s : ByteArray) (k : Nat) : (Utf8.decode s k).1 ≤ 1114111 := by
  have := decode_valid s k
  simp only [Utf8.valid, Bool.or_eq_true, Bool.and_eq_true, decide_eq_true_eq] at this
  omega

set_option maxHeartbeats 1000000 in
theorem only_calls (s : ByteArray) (v : Value) (p : Int → Bool) (w : World) (hp : ∀ r, p r = true → 0 ≤ r ∧ r < 128) (hs : s.size ≤ 1000000000) (hv : Tells v p w) :
    Calls Tryd.prog 67 #[.string s, v] w fun e w' => e = .returned (.bool (onlyF p s.data.toList)) ∧ Below w.heap.size w w' := by
  obtain ⟨F, caps, rfl, hcf, hcall⟩ := hv
  have HC := Lib.hid hcall; clear hcall
  have hsl : s.size = s.data.toList.length := rfl
  have HSL := Lib.hid hsl; clear hsl
  go_enter Tryd.func67, Tryd.ntmps67
  go_wp2_with fail
  go_loopw [] (fun wr => ∃ k, k ≤ s.size ∧ Below w.heap.size w wr ∧ wr.heap[w.heap.size]? = some (.stringIter s k) ∧ Hid (∀ c ∈ s.data.toList.take k, p c.toNat = true)) (fun wr => s.size - wr.iterPos w.heap.size)
  case atStart => exact ⟨0, Nat.zero_le _, (Below.refl _ _).alloc (Nat.le_refl _) _, World.iter_heap w s 0, fun c hc => by simp at hc⟩
  case round =>
    obtain ⟨k, hk, hbr, hit, hall⟩ := hrel
    by_cases hk' : k < s.size
    · have hnx := fun ty => Lib.run_next_any_at (P := Tryd.prog) wr w.heap.size s k ty hit hk'
      have hmx := decode_max s k
      have hb2 := Lib.below_iterAt hbr (Nat.le_refl _) s (k + (Utf8.decode s k).2)
      have hva := decode_valid s k
      have hb2' := hb2
      cases hpr : p (Utf8.decode s k).1 with
      | true =>
        have hw := only_width hp hk' hpr
        rw [hw] at hb2 hnx hmx hva hpr
        simp only at hb2 hnx hmx hva hpr
        have hk2 : k < s.data.toList.length := by rw [← HSL.out]; exact hk'
        have HALL2 : Hid (∀ c ∈ s.data.toList.take (k + 1), p c.toNat = true) := by
          intro c hc
          rw [List.take_add_one, List.getElem?_eq_getElem hk2] at hc
          simp only [Option.toList_some, List.mem_append, List.mem_singleton] at hc
          rcases hc with hc | rfl
          · exact hall.out c hc
          · have e : s.data.toList[k] = s.data.toList.getD k 0 := by rw [List.getD_eq_getElem?_getD, List.getElem?_eq_getElem hk2]; rfl
            rw [e]; exact hpr
        have hit2 := Lib.iterAt_heap wr w.heap.size s k (k + 1) hit
        clear hw
        generalize (s.data.toList.getD k 0).toNat = C at *
        go_wp2_with fail
        refine (HC.out _ _ hb2 ⟨by omega, by omega⟩ hva).mono ?_
        rintro e w2 ⟨rfl, hb3⟩
        rw [hpr]
        have hb4 := hb2.then_ hb3
        have hit3 : w2.heap[w.heap.size]? = some (.stringIter s (k + 1)) := (hb3.block _ (Array.getElem?_eq_some_iff.1 hit2).1).trans hit2
        go_wp2
        go_roundw
        case rel => exact ⟨k + 1, by omega, hb4, hit3, HALL2⟩
        case measure =>
          have e1 : w2.iterPos w.heap.size = k + 1 := by simp [World.iterPos, hit3]
          have e2 : wr.iterPos w.heap.size = k := by simp [World.iterPos, hit]
          rw [e1, e2]; omega
      | false =>
        have HF : Hid (onlyF p s.data.toList = false) := only_bad hp hk' hpr
        generalize (Utf8.decode s k).1 = C at *
        go_wp2_with fail
        refine (HC.out _ _ hb2 ⟨by omega, by omega⟩ hva).mono ?_
        rintro e w2 ⟨rfl, hb3⟩
        rw [hpr]
        have hb4 := hb2.then_ hb3
        go_wp2
        go_ret
        exact ⟨ret_bool HF.out.symm, hb4⟩
    · have hnx := fun ty => Lib.run_next_end_at (P := Tryd.prog) wr w.heap.size s k ty hit hk'
      have hkn : k = s.size := by omega
      have HE : Hid (onlyF p s.data.toList = !s.data.toList.isEmpty) := by
        show _ = _
        have h1 := hall.out
        rw [hkn, HSL.out, List.take_length] at h1
        unfold onlyF
        rw [show (s.data.toList.all fun c => p c.toNat) = true from List.all_eq_true.2 h1]
        simp
      go_wp2
      go_ret
      refine ⟨ret_bool ?_, hbr⟩
      rw [HE.out]
      clear HE hnx hit hall
      obtain ⟨l, rfl, _⟩ := str_split s
      simp
end Go.Proofs.YtmfefeemkhncfaaDoor
