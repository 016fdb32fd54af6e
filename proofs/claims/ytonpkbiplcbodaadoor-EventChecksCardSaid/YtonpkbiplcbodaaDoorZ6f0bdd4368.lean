/- Texts put together: IdK IdP LetP LetLen. -/
import Derived.Test.YtonpkbiplcbodaaDoorZ3b8a46b19a
import Derived.WalkKit
import Derived.Test.YtonpkbiplcbodaaDoorZ6df0457645
namespace Go.Proofs.YtonpkbiplcbodaaDoor
open Go.ChangeShapes Go.WideShapes Go.ChangeAt Go.RowKit Go.IntWalk
set_option linter.unusedVariables false

theorem decode_valid (s : ByteArray) (pos : Nat) : Utf8.valid ((Utf8.decode s pos).1 : Nat) = true := by
  have hb : ∀ k, (s.get! (pos + k)).toNat < 256 := fun k => (s.get! (pos + k)).toNat_lt
  have h0 := hb 0; have h1 := hb 1; have h2 := hb 2; have h3 := hb 3
  simp only [Utf8.decode]
  repeat' split
  all_goals first
    | (rename_i h; simp only [Bool.and_eq_true] at h; exact h.2)
    | (simp only [Utf8.valid, Utf8.runeError]; decide)
    | (simp only [Utf8.valid, Bool.or_eq_true, Bool.and_eq_true, decide_eq_true_eq]; omega)

/-- The kinds, on runes: digits; letters and digits and some signs; capitals too. -/
def isDigit (r : Int) : Bool := decide (48 ≤ r ∧ r ≤ 57)
def inSigns (others : List UInt8) (r : Int) : Bool := decide (0 ≤ r ∧ r < 128) && others.contains r.toNat.toUInt8
def isAmong (others : List UInt8) (r : Int) : Bool := isDigit r || decide (97 ≤ r ∧ r ≤ 122) || inSigns others r
def isCap (others : List UInt8) (r : Int) : Bool := decide (65 ≤ r ∧ r ≤ 90) || isAmong others r

theorem digit_calls (r : Int) (w : World) :
    Calls Tryd.prog 49 #[.int .i32 r] w fun e w' => e = .returned (.bool (isDigit r)) ∧ w = w' := by
  by_cases h1 : 48 ≤ r
  · by_cases h2 : r ≤ 57
    · go_enter Tryd.func49, Tryd.ntmps49
      go_wp2
      go_ret
      exact ⟨ret_bool (by simp [isDigit, h1, h2]), rfl⟩
    · have h2' : decide (r ≤ 57) = false := by simpa using h2
      go_enter Tryd.func49, Tryd.ntmps49
      go_wp2
      go_ret
      exact ⟨ret_bool (by simp [isDigit, h2]), rfl⟩
  · have h1' : decide (48 ≤ r) = false := by simpa using h1
    go_enter Tryd.func49, Tryd.ntmps49
    go_wp2
    go_ret
    exact ⟨ret_bool (by simp [isDigit]; omega), rfl⟩

theorem indexByte_contains (l : List UInt8) (c : UInt8) : decide (0 ≤ Lib.indexByte l c) = l.contains c := by
  induction l with
  | nil => rfl
  | cons b l ih =>
    simp only [Lib.indexByte, List.contains_cons]
    by_cases h : b = c
    · subst h; simp
    · have h1 : (b == c) = false := by simpa using h
      have h2 : (c == b) = false := by simpa using fun e => h e.symm
      simp only [h1, h2, Bool.false_eq_true, if_false, Bool.false_or]
      rw [← ih]
      by_cases h3 : Lib.indexByte l c = -1
      · simp [h3]
      · have : (Lib.indexByte l c == -1) = false := by simpa using h3
        simp only [this]
        have hge : -1 ≤ Lib.indexByte l c := by
          clear ih h3 this
          induction l with
          | nil => simp [Lib.indexByte]
          | cons x l ih =>
            simp only [Lib.indexByte]
            split
            · omega
            · split
              · omega
              · rename_i h5; have := ih; simp at h5; omega
        simp only [Bool.false_eq_true, if_false]
        congr 1
        simp only [eq_iff_iff]
        omega

theorem contains_calls (l : List UInt8) (r : Int) (w : World) (hl : ∀ b ∈ l, b.toNat < 128) (hlen : l.length ≤ 1000000) (hr : 0 ≤ r ∧ r ≤ 1114111) (hok : Utf8.valid r = true) :
    Calls Tryd.prog 70 #[.string ⟨l.toArray⟩, .int .i32 r] w fun e w' => e = .returned (.bool (inSigns l r)) ∧ Below w.heap.size w w' := by
  by_cases h : r < 128
  · refine (Tryd.strings_ContainsRune_ascii ⟨l.toArray⟩ r w hr.1 h).mono ?_
    rintro e w' ⟨rfl, rfl⟩
    refine ⟨?_, Below.refl _ _⟩
    rw [show (⟨l.toArray⟩ : ByteArray).data.toList = l from rfl, indexByte_contains]
    unfold inSigns; simp [hr.1, h]
  · go_enter Tryd.func70, Tryd.ntmps70
    go_wp2_with (go_at_call 80; refine (indexRune_hi l r _ hl hlen (by omega) hok).mono ?_; rintro e w' ⟨rfl, hb⟩)
    go_ret
    refine ⟨ret_bool ?_, hb⟩
    unfold inSigns; rw [decide_eq_false (show ¬ (0 ≤ r ∧ r < 128) from by omega)]; rfl

set_option maxHeartbeats 1000000 in
theorem among_calls (l : List UInt8) (r : Int) (b : Nat) (w : World) (hl : ∀ b ∈ l, b.toNat < 128) (hlen : l.length ≤ 1000000) (hr : 0 ≤ r ∧ r ≤ 1114111) (hok : Utf8.valid r = true)
    (hc : w.cell? ⟨b, 0, none⟩ = some (.string ⟨l.toArray⟩)) :
    Calls Tryd.prog 69 #[.int .i32 r, .pointer (some ⟨b, 0, none⟩)] w fun e w' => e = .returned (.bool (isAmong l r)) ∧ Below w.heap.size w w' := by
  by_cases h1 : isDigit r = true
  · have HE : Hid (isAmong l r = true) := by show _ = _; simp [isAmong, h1]
    go_enter Tryd.func69, Tryd.ntmps69
    go_wp2_with (go_at_call 49; refine (digit_calls r _).mono ?_; rintro e w' ⟨rfl, rfl⟩)
    go_ret
    exact ⟨ret_bool HE.out.symm, Below.refl _ _⟩
  · have h1' : isDigit r = false := by simpa using h1
    by_cases h2 : 97 ≤ r ∧ r ≤ 122
    · obtain ⟨h2a, h2b⟩ := h2
      have HE : Hid (isAmong l r = true) := by show _ = _; simp [isAmong, h2a, h2b]
      go_enter Tryd.func69, Tryd.ntmps69
      go_wp2_with (go_at_call 49; refine (digit_calls r _).mono ?_; rintro e w' ⟨rfl, rfl⟩)
      go_ret
      exact ⟨ret_bool HE.out.symm, Below.refl _ _⟩
    · have HE : Hid (isAmong l r = (inSigns l r)) := by
        show _ = _; unfold isAmong; rw [h1', decide_eq_false h2]; simp
      by_cases h3 : 97 ≤ r
      · have h4 : decide (r ≤ 122) = false := by simp; omega
        go_enter Tryd.func69, Tryd.ntmps69
        go_wp2_with (first | (go_at_call 49; refine (digit_calls r _).mono ?_; rintro e w' ⟨rfl, rfl⟩) | (go_at_call 70; refine (contains_calls l r _ hl hlen hr hok).mono ?_; rintro e w' ⟨rfl, hb⟩))
        go_ret
        exact ⟨ret_bool HE.out.symm, hb⟩
      · have h4 : decide (97 ≤ r) = false := by simp; omega
        go_enter Tryd.func69, Tryd.ntmps69
        go_wp2_with (first | (go_at_call 49; refine (digit_calls r _).mono ?_; rintro e w' ⟨rfl, rfl⟩) | (go_at_call 70; refine (contains_calls l r _ hl hlen hr hok).mono ?_; rintro e w' ⟨rfl, hb⟩))
        go_ret
        exact ⟨ret_bool HE.out.symm, hb⟩

/-- A text of one kind: not empty, each byte of the kind. -/
def onlyF (p : Int → Bool) (l : List UInt8) : Bool := !l.isEmpty && l.all fun c => p c.toNat
theorem digit_lt {r : Int} (h : isDigit r = true) : 0 ≤ r ∧ r < 128 := by simp [isDigit] at h; omega
theorem among_lt {l : List UInt8} {r : Int} (h : isAmong l r = true) : 0 ≤ r ∧ r < 128 := by
  simp only [isAmong, isDigit, inSigns, Bool.or_eq_true, Bool.and_eq_true, decide_eq_true_eq] at h; omega
theorem cap_lt {l : List UInt8} {r : Int} (h : isCap l r = true) : 0 ≤ r ∧ r < 128 := by
  simp only [isCap, Bool.or_eq_true, decide_eq_true_eq] at h
  rcases h with h | h
  · omega
  · exact among_lt h

/-- What is known of a function value: it answers p. -/
def Tells (v : Value) (p : Int → Bool) (w : World) : Prop :=
  ∃ F caps, v = .func (.func F) #[] caps ∧ (∀ (a : Array Value) (w' : World), (callFunc F a).run Tryd.prog w' = .ok (.enter F a) w') ∧ ∀ (r : Int) (w' : World), Below w.heap.size w w' → 0 ≤ r ∧ r ≤ 1114111 → Utf8.valid r = true →
    Calls Tryd.prog F (#[.int .i32 r] ++ caps) w' fun e w'' => e = .returned (.bool (p r)) ∧ Below w'.heap.size w' w''

theorem only_bad {p : Int → Bool} (hp : ∀ r, p r = true → 0 ≤ r ∧ r < 128) {s : ByteArray} {k : Nat} (hk : k < s.size) (h : p (Utf8.decode s k).1 = false) : onlyF p s.data.toList = false := by
  have hk' : k < s.data.toList.length := hk
  have hb : p (s.data.toList.getD k 0).toNat = false := by
    rcases Nat.lt_or_ge (s.data.toList.getD k 0).toNat 128 with h1 | h1
    · have e : s.data.toList.getD k 0 = s[k]'hk := by rw [List.getD_eq_getElem?_getD, List.getElem?_eq_getElem hk']; rfl
      rw [e] at h1 ⊢
      rw [decode_ascii s k hk h1] at h
      exact h
    · cases hq : p (s.data.toList.getD k 0).toNat with
      | false => rfl
      | true => have := hp _ hq; omega
  unfold onlyF
  rw [show (s.data.toList.all fun c => p c.toNat) = false from by
    rw [List.all_eq_false]
    refine ⟨s.data.toList[k], List.getElem_mem hk', ?_⟩
    rw [List.getD_eq_getElem?_getD, List.getElem?_eq_getElem hk'] at hb
    simpa using hb]
  simp
theorem only_width {p : Int → Bool} (hp : ∀ r, p r = true → 0 ≤ r ∧ r < 128) {s : ByteArray} {k : Nat} (hk : k < s.size) (h : p (Utf8.decode s k).1 = true) : Utf8.decode s k = ((s.data.toList.getD k 0).toNat, 1) := by
  have := hp _ h
  have hb : (s[k]'hk).toNat < 128 := by
    rcases Nat.lt_or_ge (s[k]'hk).toNat 128 with h1 | h1
    · exact h1
    · have := (decode_high s k hk h1).1; omega
  rw [decode_ascii s k hk hb]
  have h' : k < s.data.toList.length := hk
  rw [List.getD_eq_getElem?_getD, List.getElem?_eq_getElem h']
  rfl
theorem decode_max (s : ByteArray) (k : Nat) : (Utf8.decode s k).1 ≤ 1114111 := by
  have := decode_valid s k
  simp only [Utf8.valid, Bool.or_eq_true, Bool.and_eq_true, decide_eq_true_eq] at this
  omega

set_option maxHeartbeats 1000000 in
theorem only_calls (s : ByteArray) (v : Value) (p : Int → Bool) (w : World) (hp : ∀ r, p r = true → 0 ≤ r ∧ r < 128) (hs : s.size ≤ 1000000000) (hv : Tells v p w) :
    Calls Tryd.prog 48 #[.string s, v] w fun e w' => e = .returned (.bool (onlyF p s.data.toList)) ∧ Below w.heap.size w w' := by
  obtain ⟨F, caps, rfl, hcf, hcall⟩ := hv
  have HC := Lib.hid hcall; clear hcall
  have hsl : s.size = s.data.toList.length := rfl
  have HSL := Lib.hid hsl; clear hsl
  go_enter Tryd.func48, Tryd.ntmps48
  go_wp2_with fail
  go_loopw [] (fun wr => ∃ k, k ≤ s.size ∧ Below w.heap.size w wr ∧ wr.heap[w.heap.size]? = some (.stringIter s k) ∧ Hid (∀ c ∈ s.data.toList.take k, p c.toNat = true)) (fun wr => s.size - wr.iterPos w.heap.size)
  case atStart => exact ⟨0, Nat.zero_le _, (Below.refl _ _).alloc (Nat.le_refl _) _, World.iter_heap w s 0, fun c hc => by simp at hc⟩
  case round =>
    obtain ⟨k, hk, hbr, hit, hall⟩ := hrel
    by_cases hk' : k < s.size
    · have hnx := fun ty => Lib.run_next_any_at (P := Tryd.prog) wr w.heap.size s k ty hit hk'
      have hmx := decode_max s k
      have hb2 := Lib.below_iterAt hbr (Nat.le_refl _) s (k + (Utf8.decode s k).2)
      have hva := decode_valid s k
      have hb2' := hb2
      cases hpr : p (Utf8.decode s k).1 with
      | true =>
        have hw := only_width hp hk' hpr
        rw [hw] at hb2 hnx hmx hva hpr
        simp only at hb2 hnx hmx hva hpr
        have hk2 : k < s.data.toList.length := by rw [← HSL.out]; exact hk'
        have HALL2 : Hid (∀ c ∈ s.data.toList.take (k + 1), p c.toNat = true) := by
          intro c hc
          rw [List.take_add_one, List.getElem?_eq_getElem hk2] at hc
          simp only [Option.toList_some, List.mem_append, List.mem_singleton] at hc
          rcases hc with hc | rfl
          · exact hall.out c hc
          · have e : s.data.toList[k] = s.data.toList.getD k 0 := by rw [List.getD_eq_getElem?_getD, List.getElem?_eq_getElem hk2]; rfl
            rw [e]; exact hpr
        have hit2 := Lib.iterAt_heap wr w.heap.size s k (k + 1) hit
        clear hw
        generalize (s.data.toList.getD k 0).toNat = C at *
        go_wp2_with fail
        refine (HC.out _ _ hb2 ⟨by omega, by omega⟩ hva).mono ?_
        rintro e w2 ⟨rfl, hb3⟩
        rw [hpr]
        have hb4 := hb2.then_ hb3
        have hit3 : w2.heap[w.heap.size]? = some (.stringIter s (k + 1)) := (hb3.block _ (Array.getElem?_eq_some_iff.1 hit2).1).trans hit2
        go_wp2
        go_roundw
        case rel => exact ⟨k + 1, by omega, hb4, hit3, HALL2⟩
        case measure =>
          have e1 : w2.iterPos w.heap.size = k + 1 := by simp [World.iterPos, hit3]
          have e2 : wr.iterPos w.heap.size = k := by simp [World.iterPos, hit]
          rw [e1, e2]; omega
      | false =>
        have HF : Hid (onlyF p s.data.toList = false) := only_bad hp hk' hpr
        generalize (Utf8.decode s k).1 = C at *
        go_wp2_with fail
        refine (HC.out _ _ hb2 ⟨by omega, by omega⟩ hva).mono ?_
        rintro e w2 ⟨rfl, hb3⟩
        rw [hpr]
        have hb4 := hb2.then_ hb3
        go_wp2
        go_ret
        exact ⟨ret_bool HF.out.symm, hb4⟩
    · have hnx := fun ty => Lib.run_next_end_at (P := Tryd.prog) wr w.heap.size s k ty hit hk'
      have hkn : k = s.size := by omega
      have HE : Hid (onlyF p s.data.toList = !s.data.toList.isEmpty) := by
        show _ = _
        have h1 := hall.out
        rw [hkn, HSL.out, List.take_length] at h1
        unfold onlyF
        rw [show (s.data.toList.all fun c => p c.toNat) = true from List.all_eq_true.2 h1]
        simp
      go_wp2
      go_ret
      refine ⟨ret_bool ?_, hbr⟩
      rw [HE.out]
      clear HE hnx hit hall
      obtain ⟨l, rfl, _⟩ := str_split s
      simp
end Go.Proofs.YtonpkbiplcbodaaDoor
namespace Go.Proofs.YtonpkbiplcbodaaDoor
set_option linter.unusedVariables false

def colonF (l : List UInt8) : Nat := (l.takeWhile (· != 58)).length
theorem colonF_le (l : List UInt8) : colonF l ≤ l.length := (List.takeWhile_sublist _).length_le
theorem colonF_nil : colonF [] = 0 := rfl
theorem colonF_cons (c : UInt8) (l : List UInt8) : colonF (c :: l) = if c = 58 then 0 else colonF l + 1 := by
  unfold colonF
  by_cases h : c = 58
  · subst h; rfl
  · have : (c != 58) = true := by simpa using h
    simp [this, h]
theorem index_colon (l : List UInt8) : Lib.index l [58] = if colonF l < l.length then (colonF l : Int) else -1 := by
  induction l with
  | nil => rfl
  | cons c l ih =>
    rw [colonF_cons, Lib.index]
    by_cases h : c = 58
    · subst h; simp [List.isPrefixOf]
    · have h1 : ((58 : UInt8) == c) = false := by rw [beq_eq_false_iff_ne]; exact fun e => h e.symm
      have h2 : List.isPrefixOf [58] (c :: l) = false := by simp only [List.isPrefixOf, h1, Bool.false_and]
      rw [h2, if_neg h]
      simp only [Bool.false_eq_true, if_false, List.length_cons]
      by_cases h3 : colonF l < l.length
      · rw [if_pos h3] at ih
        rw [ih, if_pos (show colonF l + 1 < l.length + 1 from by omega)]
        have : ((colonF l : Int) == -1) = false := by rw [beq_eq_false_iff_ne]; omega
        rw [this]; simp
      · rw [if_neg h3] at ih
        rw [ih, if_neg (show ¬ colonF l + 1 < l.length + 1 from by omega)]; rfl

theorem cut_colon (l : List UInt8) : Lib.cut l [58] = (l.take (colonF l), l.drop (colonF l + 1), decide (colonF l < l.length)) := by
  unfold Lib.cut
  rw [index_colon]
  have := colonF_le l
  by_cases h : colonF l < l.length
  · rw [if_pos h, if_pos (by omega)]; simp [h]
  · rw [if_neg h, if_neg (by omega), List.take_of_length_le (by omega), List.drop_eq_nil_of_le (by omega)]; simp [h]
theorem colon_before (l : List UInt8) : ∀ k, k < colonF l → l.getD k 0 ≠ 58 := by
  induction l with
  | nil => intro k hk; simp [colonF] at hk
  | cons c l ih =>
    intro k hk
    rw [colonF_cons] at hk
    split at hk
    · omega
    · rename_i h
      cases k with
      | zero => simpa using h
      | succ k => simpa using ih k (by omega)
theorem colon_at (l : List UInt8) (h : colonF l < l.length) : l.getD (colonF l) 0 = 58 := by
  induction l with
  | nil => simp at h
  | cons c l ih =>
    rw [colonF_cons] at h ⊢
    split
    · rename_i hc; subst hc; rfl
    · rename_i hc
      rw [if_neg hc] at h
      simp only [List.length_cons] at h
      simpa using ih (by omega)
/-- The first colon, found from the beginning on. -/
theorem colon_of (l : List UInt8) (k : Nat) (hb : ∀ j, j < k → l.getD j 0 ≠ 58) (h : (k < l.length ∧ l.getD k 0 = 58) ∨ k = l.length) : colonF l = k := by
  have h1 := colon_before l
  have h2 := colon_at l
  have h3 := colonF_le l
  rcases Nat.lt_trichotomy (colonF l) k with hlt | heq | hgt
  · exfalso
    have : colonF l < l.length := by omega
    exact hb _ hlt (h2 this)
  · exact heq
  · exfalso
    rcases h with ⟨h4, h5⟩ | h4
    · exact h1 k hgt h5
    · omega

def serverF (l : List UInt8) : Bool :=
  decide (l.length ≤ 255) && onlyF (isAmong [46, 45]) (l.take (colonF l)) &&
    (decide (colonF l = l.length) || (decide (l.length - colonF l ≤ 6) && onlyF isDigit (l.drop (colonF l + 1))))
def namedF (sign : UInt8) (p : Int → Bool) (l : List UInt8) : Bool :=
  decide (l.length ≤ 255) && (decide (colonF l < l.length) && (decide (0 < colonF l) && (l.getD 0 0 == sign && (onlyF p ((l.take (colonF l)).drop 1) && serverF (l.drop (colonF l + 1))))))
def nUserF (l : List UInt8) : Bool := namedF 64 (isAmong [46, 95, 61, 45, 47, 43]) l
def roomF (l : List UInt8) : Bool := namedF 33 (isCap [95, 45]) l
def keyF (l : List UInt8) : Bool := Lib.hasPrefix l [101, 100, 50, 53, 53, 49, 57, 58] && decide (l.length ≤ 255) && onlyF (isCap [95]) (l.drop 8)
def domainF (l : List UInt8) : List UInt8 := if nUserF l || roomF l then l.drop (colonF l + 1) else []

theorem serverF_bad (l : List UInt8) (h1 : colonF l < l.length) (h2 : 5 < l.length - (colonF l + 1) ∨ onlyF isDigit (l.drop (colonF l + 1)) = false) : serverF l = false := by
  unfold serverF
  rw [decide_eq_false (show ¬ colonF l = l.length from by omega)]
  rcases h2 with h2 | h2
  · rw [decide_eq_false (show ¬ l.length - colonF l ≤ 6 from by omega)]; simp
  · rw [h2]; simp
theorem serverF_good (l : List UInt8) (h : colonF l < l.length → l.length - (colonF l + 1) ≤ 5 ∧ onlyF isDigit (l.drop (colonF l + 1)) = true) : serverF l = (decide (l.length ≤ 255) && onlyF (isAmong [46, 45]) (l.take (colonF l))) := by
  unfold serverF
  have := colonF_le l
  by_cases h1 : colonF l = l.length
  · rw [decide_eq_true h1]; simp
  · obtain ⟨h2, h3⟩ := h (by omega)
    rw [decide_eq_true (show l.length - colonF l ≤ 6 from by omega), h3]; simp

/-- The reference's kinds. -/
def kindB (c k : Nat) : Bool := (k == 97 && decide (97 ≤ c ∧ c ≤ 122)) || (k == 65 && decide (65 ≤ c ∧ c ≤ 90)) || (k == 48 && decide (48 ≤ c ∧ c ≤ 57))
def kindsB (K : List UInt8) (c : Nat) : Bool := K.any fun k => kindB c k.toNat
def ofF (K G : List UInt8) (l : List UInt8) : Bool := !l.isEmpty && l.all fun c => kindsB K c.toNat || G.contains c
theorem any_take {α : Type} (p : α → Bool) (K : List α) (j : Nat) (h : j < K.length) : (K.take (j + 1)).any p = ((K.take j).any p || p K[j]) := by
  rw [List.take_add_one, List.getElem?_eq_getElem h, List.any_append]; simp
theorem ofF_bad (K G l : List UInt8) (i : Nat) (h : i < l.length) (hb : (kindsB K (l[i]).toNat || G.contains l[i]) = false) : ofF K G l = false := by
  unfold ofF
  rw [show (l.all fun c => kindsB K c.toNat || G.contains c) = false from by rw [List.all_eq_false]; exact ⟨l[i], List.getElem_mem h, by simpa using hb⟩]
  simp
theorem ofF_all (K G l : List UInt8) (h : ∀ c ∈ l, (kindsB K c.toNat || G.contains c) = true) : ofF K G l = !l.isEmpty := by
  unfold ofF; rw [List.all_eq_true.2 h]; simp
theorem contains_any (G : List UInt8) (c : UInt8) : G.contains c = G.any fun g => g == c := by
  induction G with
  | nil => rfl
  | cons g G ih =>
    rw [List.contains_cons, List.any_cons, ih]
    congr 1
    exact Bool.beq_comm

theorem serverF_nil : serverF [] = false := by decide
theorem prefix_one (l : List UInt8) (c : UInt8) : Lib.hasPrefix l [c] = (decide (0 < l.length) && l.getD 0 0 == c) := by
  cases l with
  | nil => simp [Lib.hasPrefix]
  | cons b l =>
    have h : Lib.hasPrefix (b :: l) [c] = (c == b) := by
      unfold Lib.hasPrefix; simp [List.isPrefixOf]
    rw [h]
    simp
    exact Bool.beq_comm
theorem namedF_eq (sign : UInt8) (p : Int → Bool) (l : List UInt8) :
    namedF sign p l = (Lib.hasPrefix (l.take (colonF l)) [sign] && (decide (l.length ≤ 255) && (onlyF p ((l.take (colonF l)).drop 1) && serverF (l.drop (colonF l + 1))))) := by
  have hle := colonF_le l
  rw [prefix_one]
  unfold namedF
  by_cases h : colonF l < l.length
  · have h1 : (l.take (colonF l)).length = colonF l := by rw [List.length_take]; omega
    rw [decide_eq_true h, h1]
    by_cases h0 : 0 < colonF l
    · have h2 : (l.take (colonF l)).getD 0 0 = l.getD 0 0 := by
        simp only [List.getD_eq_getElem?_getD, List.getElem?_take, h0, if_true]
      rw [h2, decide_eq_true h0]
      cases decide (l.length ≤ 255) <;> cases (l.getD 0 0 == sign) <;> simp
    · rw [decide_eq_false h0]; simp
  · rw [decide_eq_false h, List.drop_eq_nil_of_le (show l.length ≤ colonF l + 1 from by omega), serverF_nil]; simp
theorem namedF_def (sign : UInt8) (p : Int → Bool) (l : List UInt8) : namedF sign p l =
    (decide (l.length ≤ 255) && (decide (colonF l < l.length) && (decide (0 < colonF l) && (l.getD 0 0 == sign && (onlyF p ((l.take (colonF l)).drop 1) && serverF (l.drop (colonF l + 1))))))) := rfl
end Go.Proofs.YtonpkbiplcbodaaDoor
namespace Go.Proofs.YtonpkbiplcbodaaDoor
set_option linter.unusedVariables false

def abc : Bool → List UInt8
  | false => [65, 66, 67, 68, 69, 70, 71, 72, 73, 74, 75, 76, 77, 78, 79, 80, 81, 82, 83, 84, 85, 86, 87, 88, 89, 90, 97, 98, 99, 100, 101, 102, 103, 104, 105, 106, 107, 108, 109, 110, 111, 112, 113, 114, 115, 116, 117, 118, 119, 120, 121, 122, 48, 49, 50, 51, 52, 53, 54, 55, 56, 57, 43, 47]
  | true => [65, 66, 67, 68, 69, 70, 71, 72, 73, 74, 75, 76, 77, 78, 79, 80, 81, 82, 83, 84, 85, 86, 87, 88, 89, 90, 97, 98, 99, 100, 101, 102, 103, 104, 105, 106, 107, 108, 109, 110, 111, 112, 113, 114, 115, 116, 117, 118, 119, 120, 121, 122, 48, 49, 50, 51, 52, 53, 54, 55, 56, 57, 45, 95]

theorem abc_length (u : Bool) : (abc u).length = 64 := by cases u <;> rfl

/-- The letter of a number. -/
def letB (u : Bool) (n : Nat) : UInt8 := (abc u).getD n 0
def letF (u : Bool) (n : Nat) : Nat := (letB u n).toNat

theorem letF_lo (u : Bool) : ∀ n, n < 26 → letF u n = 65 + n := by
  cases u <;> decide
theorem letF_mid (u : Bool) : ∀ n, n < 26 → letF u (26 + n) = 97 + n := by
  cases u <;> decide
theorem letF_dig (u : Bool) : ∀ n, n < 10 → letF u (52 + n) = 48 + n := by
  cases u <;> decide

/-- Bytes as one number. -/
def acc (l : List UInt8) : Nat := l.foldl (fun a c => a * 256 + c.toNat) 0
theorem acc_snoc (l : List UInt8) (c : UInt8) : acc (l ++ [c]) = acc l * 256 + c.toNat := by simp [acc]
theorem acc_take (l : List UInt8) (k : Nat) (h : k < l.length) : acc (l.take (k + 1)) = acc (l.take k) * 256 + (l.getD k 0).toNat := by
  rw [List.take_add_one, List.getElem?_eq_getElem h, List.getD_eq_getElem?_getD, List.getElem?_eq_getElem h]
  exact acc_snoc _ _

/-- The j-th six bits of so many bytes that are the number A. -/
def sx (m A j : Nat) : Nat := A * 16 / 2 ^ (8 * m + 4 - 6 * (j + 1)) % 64
theorem sx_lt (m A j : Nat) : sx m A j < 64 := Nat.mod_lt _ (by decide)

theorem sx_more (m A j c : Nat) (hc : c < 256) (h : 6 * (j + 1) ≤ 8 * m) : sx (m + 1) (A * 256 + c) j = sx m A j := by
  unfold sx
  have e : 8 * (m + 1) + 4 - 6 * (j + 1) = 12 + (8 * m - 6 * (j + 1)) := by omega
  have e' : 8 * m + 4 - 6 * (j + 1) = 4 + (8 * m - 6 * (j + 1)) := by omega
  rw [e, e', Nat.pow_add, Nat.pow_add, ← Nat.div_div_eq_div_mul, ← Nat.div_div_eq_div_mul]
  congr 2
  omega

/-- The letters of the first q six bits. -/
def lets (u : Bool) (m A q : Nat) : List UInt8 := (List.range q).map fun j => letB u (sx m A j)
theorem lets_length (u : Bool) (m A q : Nat) : (lets u m A q).length = q := by simp [lets]
theorem lets_snoc (u : Bool) (m A q : Nat) : lets u m A (q + 1) = lets u m A q ++ [letB u (sx m A q)] := by simp [lets, List.range_succ]
theorem lets_more (u : Bool) (m A q c : Nat) (hc : c < 256) (h : 6 * q ≤ 8 * m) : lets u (m + 1) (A * 256 + c) q = lets u m A q := by
  unfold lets
  refine List.map_congr_left fun j hj => ?_
  have := List.mem_range.1 hj
  rw [sx_more m A j c hc (by omega)]

/-- The letters of bytes. -/
def encF (u : Bool) (bs : List UInt8) : List UInt8 := lets u bs.length (acc bs) ((8 * bs.length + 5) / 6)

/-- What stands in the code: the bits that are left, shifted down. -/
theorem sx_bits (m A q cnt : Nat) (h : 6 * q + cnt = 8 * m) (hc : 6 ≤ cnt) (hcm : cnt ≤ 14) : A % 4294967296 / 2 ^ (cnt - 6) % 64 = sx m A q := by
  unfold sx
  have e : 8 * m + 4 - 6 * (q + 1) = 4 + (cnt - 6) := by omega
  rw [e, Nat.pow_add, ← Nat.div_div_eq_div_mul, Nat.mul_div_cancel _ (by decide)]
  obtain ⟨d, hd⟩ : ∃ d, cnt - 6 = d := ⟨_, rfl⟩
  rw [hd]
  have : d ≤ 8 := by omega
  have h32 : (4294967296 : Nat) = 2 ^ d * 2 ^ (32 - d) := by rw [← Nat.pow_add]; rw [show d + (32 - d) = 32 from by omega]
  rw [h32, Nat.mod_mul_right_div_self]
  have h6 : (64 : Nat) ∣ 2 ^ (32 - d) := ⟨2 ^ (26 - d), by rw [show (64 : Nat) = 2 ^ 6 from rfl, ← Nat.pow_add]; congr 1; omega⟩
  exact Nat.mod_mod_of_dvd _ h6
theorem sx_last (m A q cnt : Nat) (h : 6 * q + cnt = 8 * m) (h0 : 2 ≤ cnt) (hcm : cnt < 6) : A % 4294967296 * 2 ^ (6 - cnt) % 4294967296 % 64 = sx m A q := by
  obtain rfl | rfl : cnt = 2 ∨ cnt = 4 := by omega
  · unfold sx
    rw [show 8 * m + 4 - 6 * (q + 1) = 0 from by omega]
    omega
  · unfold sx
    rw [show 8 * m + 4 - 6 * (q + 1) = 2 from by omega]
    omega

def bitF (bs : List UInt8) (i : Nat) : Nat := if i / 8 ≥ bs.length then 0 else ((bs.getD (i / 8) 0).toNat / 2 ^ (7 - i % 8)) % 2
theorem bitF_lt (bs : List UInt8) (i : Nat) : bitF bs i < 2 := by unfold bitF; split <;> omega

theorem acc_digit (l : List UInt8) : ∀ k, k ≤ l.length → ∀ j, j < k → acc (l.take k) / 2 ^ (8 * (k - 1 - j)) % 256 = (l.getD j 0).toNat := by
  intro k
  induction k with
  | zero => intro _ j hj; omega
  | succ k ih =>
    intro hk j hj
    rw [acc_take l k (by omega)]
    have hb := (l.getD k 0).toNat_lt
    by_cases hjk : j = k
    · subst hjk
      rw [show 8 * (j + 1 - 1 - j) = 0 from by omega]
      omega
    · rw [← ih (by omega) j (by omega), show 8 * (k + 1 - 1 - j) = 8 + 8 * (k - 1 - j) from by omega, Nat.pow_add, ← Nat.div_div_eq_div_mul]
      congr 2
      omega

theorem mod_div_mod (x d : Nat) (h : d ≤ 7) : x % 256 / 2 ^ d % 2 = x / 2 ^ d % 2 := by
  obtain rfl | rfl | rfl | rfl | rfl | rfl | rfl | rfl : d = 0 ∨ d = 1 ∨ d = 2 ∨ d = 3 ∨ d = 4 ∨ d = 5 ∨ d = 6 ∨ d = 7 := by omega
  all_goals omega

theorem bitF_acc (bs : List UInt8) (i : Nat) (h : i < 8 * bs.length + 4) : bitF bs i = acc bs * 16 / 2 ^ (8 * bs.length + 4 - 1 - i) % 2 := by
  unfold bitF
  by_cases hi : i / 8 ≥ bs.length
  · rw [if_pos hi]
    obtain ⟨d, hd, hd3⟩ : ∃ d, 8 * bs.length + 4 - 1 - i = d ∧ d ≤ 3 := ⟨_, rfl, by omega⟩
    rw [hd]
    obtain rfl | rfl | rfl | rfl : d = 0 ∨ d = 1 ∨ d = 2 ∨ d = 3 := by omega
    all_goals omega
  · rw [if_neg hi]
    have hd := acc_digit bs bs.length (Nat.le_refl _) (i / 8) (by omega)
    rw [List.take_length] at hd
    rw [← hd, mod_div_mod _ _ (by omega), Nat.div_div_eq_div_mul, ← Nat.pow_add]
    rw [show 8 * bs.length + 4 - 1 - i = 4 + (8 * (bs.length - 1 - i / 8) + (7 - i % 8)) from by omega, Nat.pow_add 2 4, ← Nat.div_div_eq_div_mul, Nat.mul_div_cancel _ (by decide)]

/-- The first kk of the q-th six bits. -/
def part (bs : List UInt8) (q kk : Nat) : Nat := acc bs * 16 / 2 ^ (8 * bs.length + 4 - (6 * q + kk)) % 2 ^ kk
theorem part_zero (bs : List UInt8) (q : Nat) : part bs q 0 = 0 := by unfold part; omega
theorem part_six (bs : List UInt8) (q : Nat) : part bs q 6 = sx bs.length (acc bs) q := by unfold part sx; rw [show 6 * q + 6 = 6 * (q + 1) from by omega]
theorem part_succ (bs : List UInt8) (q kk : Nat) (h : 6 * q + kk < 8 * bs.length + 4) : part bs q (kk + 1) = 2 * part bs q kk + bitF bs (6 * q + kk) := by
  rw [bitF_acc bs _ h]
  unfold part
  have e : 8 * bs.length + 4 - (6 * q + kk) = (8 * bs.length + 4 - (6 * q + (kk + 1))) + 1 := by omega
  have e' : 8 * bs.length + 4 - 1 - (6 * q + kk) = 8 * bs.length + 4 - (6 * q + (kk + 1)) := by omega
  rw [e, e', Nat.pow_succ 2 (8 * bs.length + 4 - (6 * q + (kk + 1))), ← Nat.div_div_eq_div_mul]
  generalize acc bs * 16 / 2 ^ (8 * bs.length + 4 - (6 * q + (kk + 1))) = x
  rw [Nat.pow_succ, Nat.mul_comm (2 ^ kk) 2, Nat.mod_mul]
  omega
theorem part_lt (bs : List UInt8) (q kk : Nat) : part bs q kk < 2 ^ kk := Nat.mod_lt _ (Nat.two_pow_pos _)

/-- The number of a rune, as the code finds it. -/
def numF (u : Bool) (r : Int) : Option Nat :=
  if 65 ≤ r ∧ r ≤ 90 then some (r - 65).toNat
  else if 97 ≤ r ∧ r ≤ 122 then some ((r - 97).toNat + 26)
  else if 48 ≤ r ∧ r ≤ 57 then some ((r - 48).toNat + 52)
  else if r = (if u then 45 else 43) then some 62
  else if r = (if u then 95 else 47) then some 63
  else none
theorem numF_lt (u : Bool) (r : Int) (d : Nat) (h : numF u r = some d) : d < 64 ∧ 0 ≤ r ∧ r < 128 := by
  unfold numF at h
  cases u
  all_goals
    repeat' split at h
    all_goals first | (cases h; omega) | (cases h; done)

/-- Letters as one number. -/
def accD (u : Bool) (l : List UInt8) : Nat := l.foldl (fun a c => a * 64 + (numF u c.toNat).getD 0) 0
theorem accD_snoc (u : Bool) (l : List UInt8) (c : UInt8) : accD u (l ++ [c]) = accD u l * 64 + (numF u c.toNat).getD 0 := by simp [accD]
theorem accD_take (u : Bool) (l : List UInt8) (k : Nat) (h : k < l.length) : accD u (l.take (k + 1)) = accD u (l.take k) * 64 + (numF u (l.getD k 0).toNat).getD 0 := by
  rw [List.take_add_one, List.getElem?_eq_getElem h, List.getD_eq_getElem?_getD, List.getElem?_eq_getElem h]
  exact accD_snoc _ _ _

/-- The j-th eight bits of so many letters that are the number A. -/
def bx (m A j : Nat) : Nat := A / 2 ^ (6 * m - 8 * (j + 1)) % 256
theorem bx_lt (m A j : Nat) : bx m A j < 256 := Nat.mod_lt _ (by decide)
theorem bx_more (m A j d : Nat) (hd : d < 64) (h : 8 * (j + 1) ≤ 6 * m) : bx (m + 1) (A * 64 + d) j = bx m A j := by
  unfold bx
  rw [show 6 * (m + 1) - 8 * (j + 1) = 6 + (6 * m - 8 * (j + 1)) from by omega, Nat.pow_add, ← Nat.div_div_eq_div_mul]
  congr 2
  omega
def outs (m A q : Nat) : List UInt8 := (List.range q).map fun j => UInt8.ofNat (bx m A j)
theorem outs_length (m A q : Nat) : (outs m A q).length = q := by simp [outs]
theorem outs_snoc (m A q : Nat) : outs m A (q + 1) = outs m A q ++ [UInt8.ofNat (bx m A q)] := by simp [outs, List.range_succ]
theorem outs_more (m A q d : Nat) (hd : d < 64) (h : 8 * q ≤ 6 * m) : outs (m + 1) (A * 64 + d) q = outs m A q := by
  unfold outs
  refine List.map_congr_left fun j hj => ?_
  have := List.mem_range.1 hj
  rw [bx_more m A j d hd (by omega)]

/-- The bytes of letters. -/
def decF (u : Bool) (bs : List UInt8) : Option (List UInt8) :=
  if (∀ c ∈ bs, (numF u c.toNat).isSome = true) ∧ 6 * bs.length % 8 ≠ 6 ∧ accD u bs % 2 ^ (6 * bs.length % 8) = 0 then
    some (outs bs.length (accD u bs) (6 * bs.length / 8))
  else none

theorem bx_bits (m A q cnt : Nat) (h : 8 * q + cnt = 6 * m) (hc : 8 ≤ cnt) (hcm : cnt < 14) : A % 4294967296 / 2 ^ (cnt - 8) % 256 = bx m A q := by
  unfold bx
  rw [show 6 * m - 8 * (q + 1) = cnt - 8 from by omega]
  obtain ⟨d, hd⟩ : ∃ d, cnt - 8 = d := ⟨_, rfl⟩
  rw [hd]
  have : d ≤ 5 := by omega
  obtain rfl | rfl | rfl | rfl | rfl | rfl : d = 0 ∨ d = 1 ∨ d = 2 ∨ d = 3 ∨ d = 4 ∨ d = 5 := by omega
  all_goals omega
theorem low_bits (A cnt : Nat) (hc : cnt < 8) : A % 4294967296 % 2 ^ cnt = A % 2 ^ cnt := by
  obtain rfl | rfl | rfl | rfl | rfl | rfl | rfl | rfl : cnt = 0 ∨ cnt = 1 ∨ cnt = 2 ∨ cnt = 3 ∨ cnt = 4 ∨ cnt = 5 ∨ cnt = 6 ∨ cnt = 7 := by omega
  all_goals omega
theorem encF_length (u : Bool) (bs : List UInt8) : (encF u bs).length = (8 * bs.length + 5) / 6 := by unfold encF; rw [lets_length]
end Go.Proofs.YtonpkbiplcbodaaDoor
namespace Go.Proofs.YtonpkbiplcbodaaDoor
open Go.ChangeShapes Go.WideShapes Go.ChangeAt Go.RowKit Go.IntWalk
set_option linter.unusedVariables false

def lenF (n : Int) : Int := if n < 1 then 0 else n / 3 * 4 + (if n % 3 = 1 then 2 else if n % 3 = 2 then 3 else 0)

set_option maxHeartbeats 400000 in
theorem len_calls (n : Int) (w : World) (h : n ≤ 1152921504606846976) (h0 : 0 ≤ n) :
    Calls Tryd.prog 28 #[.int .i64 n] w fun e w' => e = .returned (.int .i64 (lenF n)) ∧ w = w' := by
  go_enter Tryd.func28, Tryd.ntmps28
  go_wp2
  all_goals go_ret
  all_goals refine ⟨ret_int ?_, rfl⟩
  · unfold lenF; rw [if_pos (by omega)]
  · unfold lenF; rw [if_neg (by omega), if_pos (by simpa using ‹(n % 3 == 1) = true›)]
  · unfold lenF; rw [if_neg (by omega), if_neg (by simpa using ‹(n % 3 == 1) = false›), if_pos (by simpa using ‹(n % 3 == 2) = true›)]
  · unfold lenF; rw [if_neg (by omega), if_neg (by simpa using ‹(n % 3 == 1) = false›), if_neg (by simpa using ‹(n % 3 == 2) = false›)]; simp

theorem len_any (n : Int) (w : World) (hn : -9223372036854775808 ≤ n ∧ n ≤ 9223372036854775807) :
    Calls Tryd.prog 28 #[.int .i64 n] w fun e w' => (∃ k, e = .returned (.int .i64 k) ∧ (n ≤ 0 → k = 0)) ∧ w = w' := by
  by_cases h0 : n < 1
  · go_enter Tryd.func28, Tryd.ntmps28
    go_wp2
    go_ret
    exact ⟨⟨0, rfl, fun _ => rfl⟩, rfl⟩
  · go_enter Tryd.func28, Tryd.ntmps28
    go_wp2
    all_goals go_ret
    all_goals exact ⟨⟨_, rfl, fun h => absurd h (by omega)⟩, rfl⟩
end Go.Proofs.YtonpkbiplcbodaaDoor
