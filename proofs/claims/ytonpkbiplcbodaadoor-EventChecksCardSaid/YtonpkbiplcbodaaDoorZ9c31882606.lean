/- Texts put together: LetR IdEv QuP QuC QuR QuVr QuE. -/
import Derived.Test.YtonpkbiplcbodaaDoorZ61d21aa1e9
import Derived.Test.YtonpkbiplcbodaaDoorShelf
import Derived.Test.YtonpkbiplcbodaaDoorZ99ad442092
import Derived.Test.YtonpkbiplcbodaaDoorZ6f0bdd4368
import Derived.Lib.ValidLaws
import Derived.Lib.MapLaws
import Derived.Lib.TrimUEq
import Derived.Lib.DecodeNEq
namespace Go.Proofs.YtonpkbiplcbodaaDoor
set_option linter.unusedVariables false

theorem acc_lt (l : List UInt8) : acc l < 2 ^ (8 * l.length) := by
  have h : ∀ k, k ≤ l.length → acc (l.take k) < 2 ^ (8 * k) := by
    intro k
    induction k with
    | zero => intro _; simp [acc]
    | succ k ih =>
      intro hk
      rw [acc_take l k (by omega)]
      have h1 := ih (by omega)
      have hb := (l.getD k 0).toNat_lt
      rw [show 8 * (k + 1) = 8 * k + 8 from by omega, Nat.pow_add]
      omega
  have := h l.length (Nat.le_refl _)
  rwa [List.take_length] at this

theorem accD_lt (u : Bool) (l : List UInt8) : accD u l < 2 ^ (6 * l.length) := by
  have h : ∀ k, k ≤ l.length → accD u (l.take k) < 2 ^ (6 * k) := by
    intro k
    induction k with
    | zero => intro _; simp [accD]
    | succ k ih =>
      intro hk
      rw [accD_take u l k (by omega)]
      have h1 := ih (by omega)
      have hb : (numF u (l.getD k 0).toNat).getD 0 < 64 := by
        cases h : numF u (l.getD k 0).toNat with
        | none => simp
        | some d => have := numF_lt u _ d h; simp; omega
      rw [show 6 * (k + 1) = 6 * k + 6 from by omega, Nat.pow_add]
      omega
  have := h l.length (Nat.le_refl _)
  rwa [List.take_length] at this

theorem accD_lets (u : Bool) (m A : Nat) (hA : A < 2 ^ (8 * m)) : ∀ j, 6 * j ≤ 8 * m + 4 → accD u (lets u m A j) = A * 16 / 2 ^ (8 * m + 4 - 6 * j) := by
  intro j
  induction j with
  | zero =>
    intro _
    have : A * 16 < 2 ^ (8 * m + 4) := by rw [Nat.pow_add]; omega
    simp only [Nat.mul_zero, Nat.sub_zero]
    rw [Nat.div_eq_of_lt this]; rfl
  | succ j ih =>
    intro hj
    rw [lets_snoc, accD_snoc, ih (by omega), numF_letB u _ (sx_lt _ _ _), Option.getD_some]
    unfold sx
    rw [show 8 * m + 4 - 6 * j = 8 * m + 4 - 6 * (j + 1) + 6 from by omega, Nat.pow_add, ← Nat.div_div_eq_div_mul]
    generalize A * 16 / 2 ^ (8 * m + 4 - 6 * (j + 1)) = x
    omega

theorem lets_good (u : Bool) (m A q : Nat) : ∀ c ∈ lets u m A q, (numF u c.toNat).isSome = true := by
  intro c hc
  unfold lets at hc
  obtain ⟨j, _, rfl⟩ := List.mem_map.1 hc
  rw [numF_letB u _ (sx_lt _ _ _)]; rfl

theorem decF_encF (u : Bool) (bs : List UInt8) : decF u (encF u bs) = some bs := by
  obtain ⟨m, hm⟩ : ∃ m, m = bs.length := ⟨_, rfl⟩
  obtain ⟨A, hA⟩ : ∃ A, A = acc bs := ⟨_, rfl⟩
  have hlt : A < 2 ^ (8 * m) := by rw [hA, hm]; exact acc_lt bs
  obtain ⟨q, hq⟩ : ∃ q, q = (8 * m + 5) / 6 := ⟨_, rfl⟩
  obtain ⟨r, hr⟩ : ∃ r, r = 6 * q - 8 * m := ⟨_, rfl⟩
  have hq8 : 8 * m ≤ 6 * q := by omega
  have hrr : r = 0 ∨ r = 2 ∨ r = 4 := by omega
  have e : encF u bs = lets u m A q := by unfold encF; rw [← hm, ← hA, ← hq]
  rw [e]
  have hD := accD_lets u m A hlt q (by omega)
  have hlen := lets_length u m A q
  have hD' : accD u (lets u m A q) = A * 2 ^ r := by
    rw [hD]
    rcases hrr with h | h | h
    · rw [h, show 8 * m + 4 - 6 * q = 4 from by omega]; omega
    · rw [h, show 8 * m + 4 - 6 * q = 2 from by omega]; omega
    · rw [h, show 8 * m + 4 - 6 * q = 0 from by omega]; omega
  unfold decF
  rw [hlen, hD', if_pos ⟨lets_good u m A q, by omega, by rw [show 6 * q % 8 = r from by omega]; exact Nat.mul_mod_left _ _⟩]
  congr 1
  rw [show 6 * q / 8 = m from by omega]
  refine List.ext_getElem (by rw [outs_length, hm]) fun j h1 h2 => ?_
  simp only [outs, List.getElem_map, List.getElem_range]
  have hj : j < m := by rw [outs_length] at h1; exact h1
  have hd := acc_digit bs m (by omega) j hj
  rw [hm, List.take_length, ← hm, ← hA] at hd
  have hb : bx q (A * 2 ^ r) j = (bs.getD j 0).toNat := by
    unfold bx
    rw [← hd, show 6 * q - 8 * (j + 1) = r + 8 * (m - 1 - j) from by omega, Nat.pow_add, ← Nat.div_div_eq_div_mul, Nat.mul_div_cancel _ (Nat.two_pow_pos r)]
  rw [hb, List.getD_eq_getElem?_getD, List.getElem?_eq_getElem (by omega)]
  simp

theorem acc_outs (m A : Nat) (hA : A < 2 ^ (6 * m)) : ∀ j, 8 * j ≤ 6 * m → acc (outs m A j) = A / 2 ^ (6 * m - 8 * j) := by
  intro j
  induction j with
  | zero => intro _; simp only [Nat.mul_zero, Nat.sub_zero]; rw [Nat.div_eq_of_lt hA]; rfl
  | succ j ih =>
    intro hj
    rw [outs_snoc, acc_snoc, ih (by omega), UInt8.toNat_ofNat', Nat.mod_eq_of_lt (bx_lt _ _ _)]
    unfold bx
    rw [show 6 * m - 8 * j = 6 * m - 8 * (j + 1) + 8 from by omega, Nat.pow_add, ← Nat.div_div_eq_div_mul]
    generalize A / 2 ^ (6 * m - 8 * (j + 1)) = x
    omega

theorem encF_decF (u : Bool) (s o : List UInt8) (h : decF u s = some o) : encF u o = s := by
  unfold decF at h
  split at h
  · rename_i hc
    obtain ⟨h1, h2, h3⟩ := hc
    obtain ⟨m, hm⟩ : ∃ m, m = s.length := ⟨_, rfl⟩
    obtain ⟨A, hA⟩ : ∃ A, A = accD u s := ⟨_, rfl⟩
    have hlt : A < 2 ^ (6 * m) := by rw [hA, hm]; exact accD_lt u s
    rw [← hm, ← hA] at h3 h
    rw [← hm] at h2
    obtain ⟨L, hL⟩ : ∃ L, L = 6 * m / 8 := ⟨_, rfl⟩
    obtain ⟨r, hr⟩ : ∃ r, r = 6 * m % 8 := ⟨_, rfl⟩
    rw [← hL] at h
    rw [← hr] at h2 h3
    have hrr : r = 0 ∨ r = 2 ∨ r = 4 := by omega
    cases h
    have hacc := acc_outs m A hlt L (by omega)
    rw [show 6 * m - 8 * L = r from by omega] at hacc
    unfold encF
    rw [outs_length, hacc, show (8 * L + 5) / 6 = m from by omega]
    refine List.ext_getElem (by rw [lets_length, hm]) fun j g1 g2 => ?_
    simp only [lets, List.getElem_map, List.getElem_range]
    have hj : j < m := by omega
    have hd := accD_digit u s m (by omega) j hj
    rw [hm, List.take_length, ← hm, ← hA] at hd
    have hs : s.getD j 0 = s[j] := by rw [List.getD_eq_getElem?_getD, List.getElem?_eq_getElem g2]; rfl
    rw [hs] at hd
    obtain ⟨d, hnd⟩ := Option.isSome_iff_exists.1 (h1 s[j] (List.getElem_mem g2))
    rw [hnd, Option.getD_some] at hd
    have hx : sx L (A / 2 ^ r) j = d := by
      rw [← hd]
      unfold sx
      congr 1
      rw [show 6 * (m - 1 - j) = 6 * m - 6 * (j + 1) from by omega]
      have hdvd : A = A / 2 ^ r * 2 ^ r := by have := Nat.div_add_mod A (2 ^ r); rw [h3] at this; rw [Nat.mul_comm]; omega
      generalize A / 2 ^ r = B at *
      subst hdvd
      rcases hrr with h | h | h
      · subst h
        rw [show 8 * L + 4 - 6 * (j + 1) = 4 + (6 * m - 6 * (j + 1)) from by omega, Nat.pow_add, ← Nat.div_div_eq_div_mul]
        congr 1
        omega
      · subst h
        rw [show 8 * L + 4 - 6 * (j + 1) = 2 + (6 * m - 6 * (j + 1)) from by omega, Nat.pow_add, ← Nat.div_div_eq_div_mul]
        congr 1
        omega
      · subst h
        rw [show 8 * L + 4 - 6 * (j + 1) = 6 * m - 6 * (j + 1) from by omega]
    rw [hx]
    exact letB_numF u _ d hnd
  · cases h

theorem acc_from (r : List UInt8) : ∀ a : Nat, r.foldl (fun a c => a * 256 + c.toNat) a = a * 2 ^ (8 * r.length) + acc r := by
  unfold acc
  induction r with
  | nil => intro a; simp
  | cons c r ih =>
    intro a
    rw [List.foldl_cons, List.foldl_cons, ih, ih (0 * 256 + c.toNat), List.length_cons, show 8 * (r.length + 1) = 8 + 8 * r.length from by omega, Nat.pow_add]
    generalize 2 ^ (8 * r.length) = X
    rw [Nat.add_mul, Nat.mul_assoc, Nat.zero_mul, Nat.zero_add, Nat.add_assoc]
theorem acc_append (l r : List UInt8) : acc (l ++ r) = acc l * 2 ^ (8 * r.length) + acc r := by
  rw [← acc_from]; unfold acc; rw [List.foldl_append]

theorem encF_append (u : Bool) (l r : List UInt8) (h : l.length % 3 = 0) : encF u (l ++ r) = encF u l ++ encF u r := by
  obtain ⟨t, ht⟩ : ∃ t, l.length = 3 * t := ⟨l.length / 3, by omega⟩
  have hr := acc_lt r
  unfold encF
  refine List.ext_getElem ?_ fun j g1 g2 => ?_
  · simp only [List.length_append, lets_length]; omega
  · rw [List.getElem_append]
    simp only [lets, List.getElem_map, List.getElem_range, List.length_map, List.length_range]
    rw [acc_append, List.length_append]
    simp only [lets_length, List.length_append] at g1
    split
    · rename_i hj
      congr 1
      unfold sx
      have hj' : 6 * (j + 1) ≤ 8 * l.length := by omega
      rw [show 8 * (l.length + r.length) + 4 - 6 * (j + 1) = (8 * r.length + 4) + (8 * l.length - 6 * (j + 1)) from by omega,
        show 8 * l.length + 4 - 6 * (j + 1) = 4 + (8 * l.length - 6 * (j + 1)) from by omega, Nat.pow_add, Nat.pow_add 2 4, ← Nat.div_div_eq_div_mul, ← Nat.div_div_eq_div_mul]
      congr 2
      rw [Nat.pow_add, ← Nat.mul_comm (2 ^ 4), ← Nat.div_div_eq_div_mul]
      have e1 : (acc l * 2 ^ (8 * r.length) + acc r) * 16 / 2 ^ 4 = acc l * 2 ^ (8 * r.length) + acc r := by omega
      rw [e1, Nat.mul_comm, Nat.mul_add_div (Nat.two_pow_pos _), Nat.div_eq_of_lt hr]
      omega
    · rename_i hj
      have hq : (8 * l.length + 5) / 6 = 4 * t := by omega
      rw [hq] at hj ⊢
      congr 1
      unfold sx
      have e1 : 8 * (l.length + r.length) + 4 - 6 * (j + 1) = 8 * r.length + 4 - 6 * (j - 4 * t + 1) := by omega
      rw [e1]
      obtain ⟨e, he⟩ : ∃ e, 8 * r.length + 4 - 6 * (j - 4 * t + 1) = e := ⟨_, rfl⟩
      rw [he]
      have hE : 8 * r.length + 4 = e + 6 + 6 * (j - 4 * t) := by omega
      have : (acc l * 2 ^ (8 * r.length) + acc r) * 16 = 2 ^ e * (64 * (acc l * 2 ^ (6 * (j - 4 * t)))) + acc r * 16 := by
        have h1 : 2 ^ (8 * r.length) * 16 = 2 ^ e * (64 * 2 ^ (6 * (j - 4 * t))) := by
          rw [show (16 : Nat) = 2 ^ 4 from rfl, show (64 : Nat) = 2 ^ 6 from rfl, ← Nat.pow_add, ← Nat.pow_add, ← Nat.pow_add, hE]
          congr 1
          omega
        rw [Nat.add_mul, Nat.mul_assoc, h1, ← Nat.mul_assoc, ← Nat.mul_assoc, Nat.mul_comm (acc l) (2 ^ e)]
        simp only [Nat.mul_left_comm, Nat.mul_comm]
      rw [this, Nat.mul_add_div (Nat.two_pow_pos _), Nat.mul_add_mod]
end Go.Proofs.YtonpkbiplcbodaaDoor
namespace Go.Proofs.YtonpkbiplcbodaaDoor
open Go.ChangeShapes Go.WideShapes Go.ChangeAt Go.RowKit Go.IntWalk
set_option linter.unusedVariables false
set_option maxRecDepth 100000

/-- Is a text an event's name? -/
def evF (l : List UInt8) : Bool := Lib.hasPrefix l [36] && decide (l.length = 44) && (decF true (l.drop 1)).isSome

theorem trim_dollar (l : List UInt8) (h : Lib.hasPrefix l [36] = true) : ∃ t, l = 36 :: t ∧ Lib.trimPrefix l [36] = t := by
  cases l with
  | nil => simp [Lib.hasPrefix] at h
  | cons c t =>
    have hc : 36 = c := by simpa [Lib.hasPrefix] using h
    subst hc
    exact ⟨t, rfl, by simp [Lib.trimPrefix, Lib.hasPrefix]⟩

set_option maxHeartbeats 1000000 in
theorem event_calls (s : ByteArray) (w : World) (hs : s.size ≤ 68719476736) :
    Calls Tryd.prog 23 #[.string s] w fun e w' => e = .returned (.bool (evF s.data.toList)) ∧ Below w.heap.size w w' := by
  have hlen : lenF 32 = 43 := by decide
  by_cases hp : Lib.hasPrefix s.data.toList [36] = true
  · obtain ⟨t, ht, htr⟩ := trim_dollar _ hp
    have hsz : s.size = t.length + 1 := by
      have : s.size = s.data.toList.length := rfl
      rw [this, ht]; rfl
    have htl : t.length ≤ 68719476736 := by omega
    have HE : Hid (evF s.data.toList = (decide (t.length = 43) && (decF true t).isSome)) := by
      show _ = _; unfold evF; rw [hp, ht]; simp
    clear hsz
    go_enter Tryd.func23, Tryd.ntmps23
    go_wp2_with fail
    refine (Tryd.strings_CutPrefix s ⟨#[36]⟩ _).mono ?_
    rintro e w' ⟨rfl, rfl⟩
    rw [show (⟨#[36]⟩ : ByteArray).data.toList = [36] from rfl, htr, hp]
    clear ht htr hp
    go_wp2_with fail
    refine (len_calls 32 _ (by omega) (by omega)).mono ?_
    rintro e w' ⟨rfl, rfl⟩
    by_cases h43 : t.length = 43
    · go_wp2_with fail
      refine (decode_list t _ _ htl).mono ?_
      intro e w1 h
      obtain ⟨A, n, c, rfl, hrb, hn, b1, _⟩ := h.open_
      clear h
      go_wp2
      go_ret
      exact ⟨ret_bool (by rw [HE.out]; simp [h43]), b1⟩
    · have h43' : ((t.length : Int) != 43) = true := by simp; omega
      go_wp2
      go_ret
      exact ⟨ret_bool (by rw [HE.out]; simp [h43]), Below.refl _ _⟩
  · have hp' : Lib.hasPrefix s.data.toList [36] = false := by simpa using hp
    have HE : Hid (evF s.data.toList = false) := by show _ = _; unfold evF; rw [hp']; rfl
    go_enter Tryd.func23, Tryd.ntmps23
    go_wp2_with fail
    refine (Tryd.strings_CutPrefix s ⟨#[36]⟩ _).mono ?_
    rintro e w' ⟨rfl, rfl⟩
    rw [show (⟨#[36]⟩ : ByteArray).data.toList = [36] from rfl, hp']
    go_wp2
    go_ret
    exact ⟨ret_bool HE.out.symm, Below.refl _ _⟩

theorem decF_len {u : Bool} {l o : List UInt8} (h : decF u l = some o) : o.length = 6 * l.length / 8 ∧ 6 * l.length % 8 ≠ 6 := by
  unfold decF at h
  split at h
  · rename_i hc
    cases h
    rw [outs_length]; exact ⟨rfl, hc.2.1⟩
  · cases h

theorem evF_nil : evF [] = false := by decide
theorem evF_cons (c : UInt8) (t : List UInt8) : evF (c :: t) = (c == 36 && decide (t.length = 43) && (decF true t).isSome) := by
  unfold evF
  have : Lib.hasPrefix (c :: t) [36] = (c == 36) := by
    unfold Lib.hasPrefix
    by_cases h : c = 36
    · subst h; rfl
    · have h' : (36 == c) = false := by rw [beq_eq_false_iff_ne]; exact fun e => h e.symm
      have h2 : (c == 36) = false := by rw [beq_eq_false_iff_ne]; exact h
      simp only [List.isPrefixOf, h', h2, Bool.false_and]
  rw [this]
  simp

set_option maxHeartbeats 1000000 in
theorem refevent_calls (s : ByteArray) (w : World) (hs : s.size ≤ 68719476736) :
    Calls Tryd.prog 14 #[.string s] w fun e w' => e = .returned (.bool (evF s.data.toList)) ∧ Below w.heap.size w w' := by
  obtain ⟨l, rfl⟩ : ∃ l : List UInt8, s = ⟨l.toArray⟩ := ⟨s.data.toList, by simp⟩
  rw [show (⟨l.toArray⟩ : ByteArray).data.toList = l from rfl]
  have hl : l.length ≤ 68719476736 := hs
  clear hs
  cases l with
  | nil =>
    go_enter Tryd.func14, Tryd.ntmps14
    go_wp2
    go_ret
    exact ⟨ret_bool evF_nil.symm, Below.refl _ _⟩
  | cons c t =>
    have htl : t.length ≤ 68719476735 := by simp at hl; omega
    have HE : Hid (evF (c :: t) = (c == 36 && decide (t.length = 43) && (decF true t).isSome)) := evF_cons c t
    by_cases hc : c = 36
    · subst hc
      have hc0 : (((36 : UInt8).toNat : Int) != 36) = false := rfl
      go_enter Tryd.func14, Tryd.ntmps14
      go_wp2_with fail
      refine (refdec_list t _ _ (by omega)).mono ?_
      intro e w1 h
      obtain ⟨A, n, c, rfl, hrb, hn, b1, hd⟩ := h.open_
      clear h hd
      cases hdf : decF true t with
      | none =>
        rw [hdf] at hrb hn
        go_wp2
        go_ret
        exact ⟨ret_bool (by rw [HE.out, hdf]; simp), b1⟩
      | some o =>
        rw [hdf] at hrb hn
        have hol := decF_len hdf
        have HO := Lib.hid hol; clear hol
        by_cases h43 : t.length = 43
        · have hn32 : n = 32 := by
            have h1 := hn.out
            have h2 := HO.out.1
            simp only [Option.getD_some] at h1
            omega
          subst hn32
          go_wp2
          go_ret
          exact ⟨ret_bool (by rw [HE.out, hdf]; simp [h43]), b1⟩
        · have hn32 : ((n : Int) == 32) = false := by
            have h1 := hn.out
            have h2 := HO.out
            simp only [Option.getD_some] at h1
            simp
            omega
          go_wp2
          go_ret
          exact ⟨ret_bool (by rw [HE.out, hdf]; simp [h43]), b1⟩
    · have hc1 : ((c.toNat : Int) != 36) = true := by
        simp only [bne_iff_ne]; intro h; apply hc; exact UInt8.toNat_inj.1 (by show c.toNat = 36; omega)
      go_enter Tryd.func14, Tryd.ntmps14
      go_wp2
      go_ret
      exact ⟨ret_bool (by rw [HE.out]; simp [hc]), Below.refl _ _⟩
end Go.Proofs.YtonpkbiplcbodaaDoor
namespace Go.Proofs.YtonpkbiplcbodaaDoor
open Go.Lib
set_option linter.unusedVariables false

/-- no rune stands ahead -/
def NoR (l : List UInt8) : Prop := (decodeL l).1 = 65533 ∧ (decodeL l).2 = 1
instance (l : List UInt8) : Decidable (NoR l) := by unfold NoR; infer_instance
def runeF (l : List UInt8) : Nat × Nat := if l = [] ∨ NoR l then (0, 0) else decodeL l

theorem runeF_nil : runeF [] = (0, 0) := by simp [runeF]
theorem runeF_of {l : List UInt8} (h : l ≠ []) : runeF l = if NoR l then (0, 0) else decodeL l := by simp [runeF, h]

def refN (n b0 b1 b2 b3 : Nat) : Nat × Nat := if (decodeN n b0 b1 b2 b3).1 = 65533 ∧ (decodeN n b0 b1 b2 b3).2 = 1 then (0, 0) else decodeN n b0 b1 b2 b3
theorem runeF_N {l : List UInt8} (h : l ≠ []) : runeF l = refN l.length (l.getD 0 0).toNat (l.getD 1 0).toNat (l.getD 2 0).toNat (l.getD 3 0).toNat := by
  rw [runeF_of h]; unfold NoR refN; simp only [decodeL_N]

theorem ref_1 {n b0 b1 b2 b3 : Nat} (h : b0 < 128) : refN n b0 b1 b2 b3 = (b0, 1) := by
  have : decodeN n b0 b1 b2 b3 = (b0, 1) := by simp [decodeN, h]
  unfold refN; rw [this]; simp; omega
theorem ref_0 {n b0 b1 b2 b3 : Nat} (h0 : b0 < 256) (h : 128 ≤ b0 ∧ b0 < 192 ∨ 248 ≤ b0) : refN n b0 b1 b2 b3 = (0, 0) := by
  have : decodeN n b0 b1 b2 b3 = (65533, 1) := by
    unfold decodeN
    rw [if_neg (by omega), if_neg (by omega), if_neg (by omega), if_neg (by omega)]
  unfold refN; rw [this]; simp
def okC (least c : Nat) : Bool := decide (least ≤ c ∧ c ≤ 1114111 ∧ (c < 55296 ∨ 57343 < c))
def contB (b : Nat) : Bool := decide (128 ≤ b ∧ b < 192)
set_option maxHeartbeats 2000000 in
theorem ref_2 {n b0 b1 b2 b3 : Nat} (h : 192 ≤ b0 ∧ b0 < 224) : refN n b0 b1 b2 b3 =
    if 2 ≤ n ∧ contB b1 = true ∧ okC 128 (b0 % 32 * 64 + b1 % 64) = true then (b0 % 32 * 64 + b1 % 64, 2) else (0, 0) := by
  have e : decodeN n b0 b1 b2 b3 = if 1 < n ∧ b1 / 64 = 2 then (if b0 % 32 * 64 + b1 % 64 ≥ 128 then (b0 % 32 * 64 + b1 % 64, 2) else (65533, 1)) else (65533, 1) := by
    unfold decodeN
    have a1 : b0 / 32 = 6 := by omega
    rw [if_neg (by omega)]
    simp only [a1, true_and]
    by_cases hc : 1 < n ∧ b1 / 64 = 2
    · rw [if_pos hc, if_pos hc]
    · rw [if_neg hc, if_neg hc, if_neg (by omega), if_neg (by omega)]
  unfold refN; rw [e]
  simp only [okC, contB, decide_eq_true_eq]
  repeat' split
  all_goals first | rfl | (exfalso; omega) | (exfalso; simp_all <;> omega)
set_option maxHeartbeats 2000000 in
theorem ref_3 {n b0 b1 b2 b3 : Nat} (h : 224 ≤ b0 ∧ b0 < 240) : refN n b0 b1 b2 b3 =
    if 3 ≤ n ∧ contB b1 = true ∧ contB b2 = true ∧ okC 2048 ((b0 % 16 * 64 + b1 % 64) * 64 + b2 % 64) = true then ((b0 % 16 * 64 + b1 % 64) * 64 + b2 % 64, 3) else (0, 0) := by
  have e : decodeN n b0 b1 b2 b3 = if (1 < n ∧ b1 / 64 = 2) ∧ (2 < n ∧ b2 / 64 = 2) then
    (if b0 % 16 * 4096 + b1 % 64 * 64 + b2 % 64 ≥ 2048 ∧ (b0 % 16 * 4096 + b1 % 64 * 64 + b2 % 64 < 55296 ∨ (57344 ≤ b0 % 16 * 4096 + b1 % 64 * 64 + b2 % 64 ∧ b0 % 16 * 4096 + b1 % 64 * 64 + b2 % 64 ≤ 1114111))
     then (b0 % 16 * 4096 + b1 % 64 * 64 + b2 % 64, 3) else (65533, 1)) else (65533, 1) := by
    unfold decodeN
    have a1 : b0 / 16 = 14 := by omega
    rw [if_neg (by omega), if_neg (by omega)]
    simp only [a1, true_and]
    rw [if_neg (show ¬ (b0 / 8 = 30 ∧ _) by omega)]
  have ec : (b0 % 16 * 64 + b1 % 64) * 64 + b2 % 64 = b0 % 16 * 4096 + b1 % 64 * 64 + b2 % 64 := by omega
  unfold refN; rw [e, ec]
  generalize hC : b0 % 16 * 4096 + b1 % 64 * 64 + b2 % 64 = C
  simp only [okC, contB, decide_eq_true_eq]
  repeat' split
  all_goals first | rfl | (exfalso; omega) | (exfalso; simp_all <;> omega)
set_option maxHeartbeats 2000000 in
theorem ref_4 {n b0 b1 b2 b3 : Nat} (h : 240 ≤ b0 ∧ b0 < 248) : refN n b0 b1 b2 b3 =
    if 4 ≤ n ∧ contB b1 = true ∧ contB b2 = true ∧ contB b3 = true ∧ okC 65536 (((b0 % 8 * 64 + b1 % 64) * 64 + b2 % 64) * 64 + b3 % 64) = true then (((b0 % 8 * 64 + b1 % 64) * 64 + b2 % 64) * 64 + b3 % 64, 4) else (0, 0) := by
  have e : decodeN n b0 b1 b2 b3 = if (1 < n ∧ b1 / 64 = 2) ∧ (2 < n ∧ b2 / 64 = 2) ∧ (3 < n ∧ b3 / 64 = 2) then
    (if b0 % 8 * 262144 + b1 % 64 * 4096 + b2 % 64 * 64 + b3 % 64 ≥ 65536 ∧ (b0 % 8 * 262144 + b1 % 64 * 4096 + b2 % 64 * 64 + b3 % 64 < 55296 ∨ (57344 ≤ b0 % 8 * 262144 + b1 % 64 * 4096 + b2 % 64 * 64 + b3 % 64 ∧ b0 % 8 * 262144 + b1 % 64 * 4096 + b2 % 64 * 64 + b3 % 64 ≤ 1114111))
     then (b0 % 8 * 262144 + b1 % 64 * 4096 + b2 % 64 * 64 + b3 % 64, 4) else (65533, 1)) else (65533, 1) := by
    unfold decodeN
    have a1 : b0 / 8 = 30 := by omega
    rw [if_neg (by omega), if_neg (by omega), if_neg (by omega)]
    simp only [a1, true_and]
  have ec : ((b0 % 8 * 64 + b1 % 64) * 64 + b2 % 64) * 64 + b3 % 64 = b0 % 8 * 262144 + b1 % 64 * 4096 + b2 % 64 * 64 + b3 % 64 := by omega
  unfold refN; rw [e, ec]
  generalize hC : b0 % 8 * 262144 + b1 % 64 * 4096 + b2 % 64 * 64 + b3 % 64 = C
  simp only [okC, contB, decide_eq_true_eq]
  repeat' split
  all_goals first | rfl | (exfalso; omega) | (exfalso; simp_all <;> omega)

/-- what told decides -/
theorem noR_iff (l : List UInt8) (hne : l ≠ []) (h : (decodeL l).1 = 65533) : NoR l ↔ hasPrefix l [239, 191, 189] = false := by
  constructor
  · intro hn
    cases hp : hasPrefix l [239, 191, 189]
    · rfl
    · exfalso
      obtain ⟨t, rfl⟩ : ∃ t, l = 239 :: 191 :: 189 :: t := by
        match l, hp with
        | a :: b :: c :: t, hp => simp [hasPrefix] at hp; obtain ⟨rfl, rfl, rfl⟩ := hp; exact ⟨t, rfl⟩
        | [], hp => simp [hasPrefix] at hp
        | [_], hp => simp [hasPrefix] at hp
        | [_, _], hp => simp [hasPrefix] at hp
      have h2 := hn.2
      rw [decodeL_N] at h2
      have e : decodeN (t.length + 3) 239 191 189 ((239 :: 191 :: 189 :: t : List UInt8).getD 3 0).toNat = (65533, 3) := by
        unfold decodeN
        rw [if_neg (by omega), if_neg (by omega), if_pos (by omega), if_pos (by omega)]
      have e2 : decodeN (239 :: 191 :: 189 :: t : List UInt8).length ((239 :: 191 :: 189 :: t : List UInt8).getD 0 0).toNat ((239 :: 191 :: 189 :: t : List UInt8).getD 1 0).toNat ((239 :: 191 :: 189 :: t : List UInt8).getD 2 0).toNat ((239 :: 191 :: 189 :: t : List UInt8).getD 3 0).toNat = (65533, 3) := e
      rw [e2] at h2
      exact absurd h2 (by decide)
  · intro hp
    by_cases hn : NoR l
    · exact hn
    · exfalso
      have he := encode_decode l hne hn
      rw [h] at he
      have e : encodeRune ((65533 : Nat) : Int) = [239, 191, 189] := by decide
      rw [e] at he
      have hl : l = [239, 191, 189] ++ l.drop (decodeL l).2 := by rw [he, List.take_append_drop]
      rw [hl] at hp
      simp [hasPrefix] at hp
end Go.Proofs.YtonpkbiplcbodaaDoor
namespace Go.Proofs.YtonpkbiplcbodaaDoor
open Go.Lib
set_option linter.unusedVariables false

def accF (c0 : Nat) (l : List UInt8) : Nat → Nat
  | 0 => c0
  | k + 1 => accF c0 l k * 64 + (l.getD (k + 1) 0).toNat % 64
theorem accF_lt {c0 : Nat} (l : List UInt8) (h : c0 < 32) : ∀ k, accF c0 l k < 32 * 64 ^ k
  | 0 => by simp [accF]; exact h
  | k + 1 => by
    have ih := accF_lt l h k
    rw [Nat.pow_succ]
    show accF c0 l k * 64 + (l.getD (k + 1) 0).toNat % 64 < _
    omega
theorem accF_small {c0 : Nat} (l : List UInt8) (h : c0 < 32) {k : Nat} (hk : k ≤ 3) : accF c0 l k < 8388608 := by
  have h1 := accF_lt l h k
  have : k = 0 ∨ k = 1 ∨ k = 2 ∨ k = 3 := by omega
  rcases this with rfl | rfl | rfl | rfl <;> omega

/-- what the document's way answers of a rune of N bytes -/
structure Cls (l : List UInt8) (c0 N L : Nat) : Prop where
  short : l.length < N → runeF l = (0, 0)
  bad : ∀ j, 1 ≤ j → j < N → contB (l.getD j 0).toNat = false → runeF l = (0, 0)
  out : okC L (accF c0 l (N - 1)) = false → runeF l = (0, 0)
  good : N ≤ l.length → (∀ j, 1 ≤ j → j < N → contB (l.getD j 0).toNat = true) → okC L (accF c0 l (N - 1)) = true → runeF l = (accF c0 l (N - 1), N)

theorem cls_2 (b : UInt8) (t : List UInt8) (h : 192 ≤ b.toNat ∧ b.toNat < 224) : Cls (b :: t) (b.toNat % 32) 2 128 := by
  have e := (runeF_N (l := b :: t) (by simp)).trans (ref_2 (b0 := b.toNat) h)
  have ea : accF (b.toNat % 32) (b :: t) (2 - 1) = b.toNat % 32 * 64 + ((b :: t).getD 1 0).toNat % 64 := rfl
  rw [← ea] at e
  refine ⟨fun hs => ?_, fun j h1 h2 hb => ?_, fun ho => ?_, fun hs hg ho => ?_⟩
  · rw [e, if_neg (by omega)]
  · have : j = 1 := by omega
    subst this
    rw [e, hb]; simp
  · rw [e, ho]; simp
  · rw [e, if_pos ⟨hs, hg 1 (by omega) (by omega), ho⟩]
theorem cls_3 (b : UInt8) (t : List UInt8) (h : 224 ≤ b.toNat ∧ b.toNat < 240) : Cls (b :: t) (b.toNat % 16) 3 2048 := by
  have e := (runeF_N (l := b :: t) (by simp)).trans (ref_3 (b0 := b.toNat) h)
  have ea : accF (b.toNat % 16) (b :: t) (3 - 1) = (b.toNat % 16 * 64 + ((b :: t).getD 1 0).toNat % 64) * 64 + ((b :: t).getD 2 0).toNat % 64 := rfl
  rw [← ea] at e
  refine ⟨fun hs => ?_, fun j h1 h2 hb => ?_, fun ho => ?_, fun hs hg ho => ?_⟩
  · rw [e, if_neg (by omega)]
  · have : j = 1 ∨ j = 2 := by omega
    rcases this with rfl | rfl <;> (rw [e, hb]; simp)
  · rw [e, ho]; simp
  · rw [e, if_pos ⟨hs, hg 1 (by omega) (by omega), hg 2 (by omega) (by omega), ho⟩]
theorem cls_4 (b : UInt8) (t : List UInt8) (h : 240 ≤ b.toNat ∧ b.toNat < 248) : Cls (b :: t) (b.toNat % 8) 4 65536 := by
  have e := (runeF_N (l := b :: t) (by simp)).trans (ref_4 (b0 := b.toNat) h)
  have ea : accF (b.toNat % 8) (b :: t) (4 - 1) = ((b.toNat % 8 * 64 + ((b :: t).getD 1 0).toNat % 64) * 64 + ((b :: t).getD 2 0).toNat % 64) * 64 + ((b :: t).getD 3 0).toNat % 64 := rfl
  rw [← ea] at e
  refine ⟨fun hs => ?_, fun j h1 h2 hb => ?_, fun ho => ?_, fun hs hg ho => ?_⟩
  · rw [e, if_neg (by omega)]
  · have : j = 1 ∨ j = 2 ∨ j = 3 := by omega
    rcases this with rfl | rfl | rfl <;> (rw [e, hb]; simp)
  · rw [e, ho]; simp
  · rw [e, if_pos ⟨hs, hg 1 (by omega) (by omega), hg 2 (by omega) (by omega), hg 3 (by omega) (by omega), ho⟩]
theorem cls_1 (b : UInt8) (t : List UInt8) (h : b.toNat < 128) : runeF (b :: t) = (b.toNat, 1) := by
  rw [runeF_N (by simp)]; exact ref_1 h
theorem cls_0 (b : UInt8) (t : List UInt8) (h : 128 ≤ b.toNat ∧ b.toNat < 192 ∨ 248 ≤ b.toNat) : runeF (b :: t) = (0, 0) := by
  rw [runeF_N (by simp)]; exact ref_0 b.toNat_lt h
end Go.Proofs.YtonpkbiplcbodaaDoor
namespace Go.Proofs.YtonpkbiplcbodaaDoor
open Go.ChangeShapes Go.WideShapes Go.ChangeAt Go.RowKit Go.IntWalk
set_option linter.unusedVariables false

def TwoI (p : Nat × Nat) (w : World) (e : Ending) (w' : World) : Prop := e = .returned (.tuple #[.int .i64 (p.1 : Nat), .int .i64 (p.2 : Nat)]) ∧ w = w'
theorem TwoI.of {p q : Nat × Nat} {w : World} (h : q = p) : TwoI q w (.returned (.tuple #[.int .i64 (p.1 : Nat), .int .i64 (p.2 : Nat)])) w := by subst h; exact ⟨rfl, rfl⟩

set_option maxRecDepth 100000 in
set_option maxHeartbeats 2000000 in
theorem rune_low (b : UInt8) (t : List UInt8) (w : World) (hl : (b :: t).length ≤ 1000000) (h : b.toNat < 128) :
    Calls Tryd.prog 57 #[.string ⟨(b :: t).toArray⟩] w (TwoI (runeF (b :: t)) w) := by
  have HE := Lib.hid (cls_1 b t h)
  go_enter Tryd.func57, Tryd.ntmps57
  go_wp2
  go_ret2
  exact TwoI.of HE.out

set_option maxRecDepth 100000 in
set_option maxHeartbeats 2000000 in
theorem rune_none (b : UInt8) (t : List UInt8) (w : World) (hl : (b :: t).length ≤ 1000000) (h : 128 ≤ b.toNat ∧ b.toNat < 192 ∨ 248 ≤ b.toNat) :
    Calls Tryd.prog 57 #[.string ⟨(b :: t).toArray⟩] w (TwoI (runeF (b :: t)) w) := by
  have HE := Lib.hid (cls_0 b t h)
  have hlt := b.toNat_lt
  go_enter Tryd.func57, Tryd.ntmps57
  go_wp2
  all_goals (go_ret2; exact TwoI.of (p := (0, 0)) HE.out)
set_option maxRecDepth 100000 in
set_option maxHeartbeats 4000000 in
theorem rune_2 (b : UInt8) (t : List UInt8) (w : World) (hl : (b :: t).length ≤ 1000000) (h : 192 ≤ b.toNat ∧ b.toNat < 224) :
    Calls Tryd.prog 57 #[.string ⟨(b :: t).toArray⟩] w (TwoI (runeF (b :: t)) w) := by
  have HC := Lib.hid (cls_2 b t h)
  have hc0 : b.toNat % 32 < 32 := by omega
  have hlt := b.toNat_lt
  by_cases hs : t.length + 1 < 2
  · have HE := Lib.hid (HC.out.short hs)
    go_enter Tryd.func57, Tryd.ntmps57
    go_wp2
    all_goals (go_ret2; exact TwoI.of (p := (0, 0)) HE.out)
  · go_enter Tryd.func57, Tryd.ntmps57
    go_wp2
    go_loop [4, 7] (fun c v => ∃ k : Nat, k ≤ 2 - 1 ∧ v = .int .i64 ((k + 1 : Nat) : Int) ∧ c = .int .i64 (accF (b.toNat % 32) (b :: t) k : Nat) ∧ Hid (∀ j, 1 ≤ j → j < k + 1 → contB ((b :: t).getD j 0).toNat = true)) (fun _ v => 2 - (intOf v).toNat)
    case atStart => exact ⟨0, by omega, rfl, by show Value.int _ _ = Value.int _ _; congr 1, fun j h1 h2 => by omega⟩
    case round =>
      obtain ⟨k, hk, rfl, rfl, hall⟩ := hrel
      obtain ⟨C, hC⟩ : ∃ C, accF (b.toNat % 32) (b :: t) k = C := ⟨_, rfl⟩
      have hCs := accF_small (b :: t) hc0 (k := k) (by omega)
      rw [hC] at hCs
      rw [hC]
      have HC2 := Lib.hid hC; clear hC
      by_cases hlt2 : k < 2 - 1
      · have hin : k + 1 < (b :: t).length := by rw [List.length_cons]; omega
        obtain ⟨d, hd⟩ : ∃ d, (b :: t)[k + 1] = d := ⟨_, rfl⟩
        have hdg : Hid ((b :: t).getD (k + 1) 0 = d) := by show _ = _; rw [List.getD_eq_getElem?_getD, List.getElem?_eq_getElem hin]; exact hd
        have hdl := d.toNat_lt
        by_cases hb : 128 ≤ d.toNat ∧ d.toNat < 192
        · go_wp2
          go_round
          case rel =>
            have e : accF (b.toNat % 32) (b :: t) (k + 1) = C * 64 + d.toNat % 64 := by
              show accF (b.toNat % 32) (b :: t) k * 64 + ((b :: t).getD (k + 1) 0).toNat % 64 = _
              rw [HC2.out, hdg.out]
            refine ⟨_, _, _, _, ⟨k + 1, by omega, by go_num, ?_, fun j h1 h2 => ?_⟩, rfl, rfl, rfl, rfl⟩
            · rw [e]; congr 1
            · rw [← List.getD_eq_getElem?_getD]
              by_cases h : j < k + 1
              · exact hall.out j h1 h
              · rw [show j = k + 1 from by omega, hdg.out]; simp [contB]; omega
          case measure => simp [intOf]; omega
        · have HE := Lib.hid (HC.out.bad (k + 1) (by omega) (by omega) (by rw [hdg.out]; simp only [contB]; exact decide_eq_false hb))
          go_wp2
          all_goals (go_ret2; exact TwoI.of (p := (0, 0)) HE.out)
      · have hk' : k = 2 - 1 := by omega
        cases hok : okC 128 C with
        | false =>
          have HE := Lib.hid (HC.out.out (by rw [← hk', HC2.out]; exact hok))
          simp only [okC, decide_eq_false_iff_not] at hok
          go_wp2
          all_goals first | (exfalso; omega) | (go_ret2; exact TwoI.of (p := (0, 0)) HE.out)
        | true =>
          have HE := Lib.hid (HC.out.good (by rw [List.length_cons]; omega) (by rw [← show k + 1 = 2 from by omega]; exact hall.out) (by rw [← hk', HC2.out]; exact hok))
          rw [← hk', HC2.out] at HE
          simp only [okC, decide_eq_true_eq] at hok
          go_wp2
          all_goals first | (exfalso; omega) | (go_ret2; exact TwoI.of (p := (C, 2)) HE.out)

set_option maxRecDepth 100000 in
set_option maxHeartbeats 4000000 in
theorem rune_3 (b : UInt8) (t : List UInt8) (w : World) (hl : (b :: t).length ≤ 1000000) (h : 224 ≤ b.toNat ∧ b.toNat < 240) :
    Calls Tryd.prog 57 #[.string ⟨(b :: t).toArray⟩] w (TwoI (runeF (b :: t)) w) := by
  have HC := Lib.hid (cls_3 b t h)
  have hc0 : b.toNat % 16 < 32 := by omega
  have hlt := b.toNat_lt
  by_cases hs : t.length + 1 < 3
  · have HE := Lib.hid (HC.out.short hs)
    go_enter Tryd.func57, Tryd.ntmps57
    go_wp2
    all_goals (go_ret2; exact TwoI.of (p := (0, 0)) HE.out)
  · go_enter Tryd.func57, Tryd.ntmps57
    go_wp2
    go_loop [4, 7] (fun c v => ∃ k : Nat, k ≤ 3 - 1 ∧ v = .int .i64 ((k + 1 : Nat) : Int) ∧ c = .int .i64 (accF (b.toNat % 16) (b :: t) k : Nat) ∧ Hid (∀ j, 1 ≤ j → j < k + 1 → contB ((b :: t).getD j 0).toNat = true)) (fun _ v => 3 - (intOf v).toNat)
    case atStart => exact ⟨0, by omega, rfl, by show Value.int _ _ = Value.int _ _; congr 1, fun j h1 h2 => by omega⟩
    case round =>
      obtain ⟨k, hk, rfl, rfl, hall⟩ := hrel
      obtain ⟨C, hC⟩ : ∃ C, accF (b.toNat % 16) (b :: t) k = C := ⟨_, rfl⟩
      have hCs := accF_small (b :: t) hc0 (k := k) (by omega)
      rw [hC] at hCs
      rw [hC]
      have HC2 := Lib.hid hC; clear hC
      by_cases hlt2 : k < 3 - 1
      · have hin : k + 1 < (b :: t).length := by rw [List.length_cons]; omega
        obtain ⟨d, hd⟩ : ∃ d, (b :: t)[k + 1] = d := ⟨_, rfl⟩
        have hdg : Hid ((b :: t).getD (k + 1) 0 = d) := by show _ = _; rw [List.getD_eq_getElem?_getD, List.getElem?_eq_getElem hin]; exact hd
        have hdl := d.toNat_lt
        by_cases hb : 128 ≤ d.toNat ∧ d.toNat < 192
        · go_wp2
          go_round
          case rel =>
            have e : accF (b.toNat % 16) (b :: t) (k + 1) = C * 64 + d.toNat % 64 := by
              show accF (b.toNat % 16) (b :: t) k * 64 + ((b :: t).getD (k + 1) 0).toNat % 64 = _
              rw [HC2.out, hdg.out]
            refine ⟨_, _, _, _, ⟨k + 1, by omega, by go_num, ?_, fun j h1 h2 => ?_⟩, rfl, rfl, rfl, rfl⟩
            · rw [e]; congr 1
            · rw [← List.getD_eq_getElem?_getD]
              by_cases h : j < k + 1
              · exact hall.out j h1 h
              · rw [show j = k + 1 from by omega, hdg.out]; simp [contB]; omega
          case measure => simp [intOf]; omega
        · have HE := Lib.hid (HC.out.bad (k + 1) (by omega) (by omega) (by rw [hdg.out]; simp only [contB]; exact decide_eq_false hb))
          go_wp2
          all_goals (go_ret2; exact TwoI.of (p := (0, 0)) HE.out)
      · have hk' : k = 3 - 1 := by omega
        cases hok : okC 2048 C with
        | false =>
          have HE := Lib.hid (HC.out.out (by rw [← hk', HC2.out]; exact hok))
          simp only [okC, decide_eq_false_iff_not] at hok
          go_wp2
          all_goals first | (exfalso; omega) | (go_ret2; exact TwoI.of (p := (0, 0)) HE.out)
        | true =>
          have HE := Lib.hid (HC.out.good (by rw [List.length_cons]; omega) (by rw [← show k + 1 = 3 from by omega]; exact hall.out) (by rw [← hk', HC2.out]; exact hok))
          rw [← hk', HC2.out] at HE
          simp only [okC, decide_eq_true_eq] at hok
          go_wp2
          all_goals first | (exfalso; omega) | (go_ret2; exact TwoI.of (p := (C, 3)) HE.out)

set_option maxRecDepth 100000 in
set_option maxHeartbeats 4000000 in
theorem rune_4 (b : UInt8) (t : List UInt8) (w : World) (hl : (b :: t).length ≤ 1000000) (h : 240 ≤ b.toNat ∧ b.toNat < 248) :
    Calls Tryd.prog 57 #[.string ⟨(b :: t).toArray⟩] w (TwoI (runeF (b :: t)) w) := by
  have HC := Lib.hid (cls_4 b t h)
  have hc0 : b.toNat % 8 < 32 := by omega
  have hlt := b.toNat_lt
  by_cases hs : t.length + 1 < 4
  · have HE := Lib.hid (HC.out.short hs)
    go_enter Tryd.func57, Tryd.ntmps57
    go_wp2
    all_goals (go_ret2; exact TwoI.of (p := (0, 0)) HE.out)
  · go_enter Tryd.func57, Tryd.ntmps57
    go_wp2
    go_loop [4, 7] (fun c v => ∃ k : Nat, k ≤ 4 - 1 ∧ v = .int .i64 ((k + 1 : Nat) : Int) ∧ c = .int .i64 (accF (b.toNat % 8) (b :: t) k : Nat) ∧ Hid (∀ j, 1 ≤ j → j < k + 1 → contB ((b :: t).getD j 0).toNat = true)) (fun _ v => 4 - (intOf v).toNat)
    case atStart => exact ⟨0, by omega, rfl, by show Value.int _ _ = Value.int _ _; congr 1, fun j h1 h2 => by omega⟩
    case round =>
      obtain ⟨k, hk, rfl, rfl, hall⟩ := hrel
      obtain ⟨C, hC⟩ : ∃ C, accF (b.toNat % 8) (b :: t) k = C := ⟨_, rfl⟩
      have hCs := accF_small (b :: t) hc0 (k := k) (by omega)
      rw [hC] at hCs
      rw [hC]
      have HC2 := Lib.hid hC; clear hC
      by_cases hlt2 : k < 4 - 1
      · have hin : k + 1 < (b :: t).length := by rw [List.length_cons]; omega
        obtain ⟨d, hd⟩ : ∃ d, (b :: t)[k + 1] = d := ⟨_, rfl⟩
        have hdg : Hid ((b :: t).getD (k + 1) 0 = d) := by show _ = _; rw [List.getD_eq_getElem?_getD, List.getElem?_eq_getElem hin]; exact hd
        have hdl := d.toNat_lt
        by_cases hb : 128 ≤ d.toNat ∧ d.toNat < 192
        · go_wp2
          go_round
          case rel =>
            have e : accF (b.toNat % 8) (b :: t) (k + 1) = C * 64 + d.toNat % 64 := by
              show accF (b.toNat % 8) (b :: t) k * 64 + ((b :: t).getD (k + 1) 0).toNat % 64 = _
              rw [HC2.out, hdg.out]
            refine ⟨_, _, _, _, ⟨k + 1, by omega, by go_num, ?_, fun j h1 h2 => ?_⟩, rfl, rfl, rfl, rfl⟩
            · rw [e]; congr 1
            · rw [← List.getD_eq_getElem?_getD]
              by_cases h : j < k + 1
              · exact hall.out j h1 h
              · rw [show j = k + 1 from by omega, hdg.out]; simp [contB]; omega
          case measure => simp [intOf]; omega
        · have HE := Lib.hid (HC.out.bad (k + 1) (by omega) (by omega) (by rw [hdg.out]; simp only [contB]; exact decide_eq_false hb))
          go_wp2
          all_goals (go_ret2; exact TwoI.of (p := (0, 0)) HE.out)
      · have hk' : k = 4 - 1 := by omega
        cases hok : okC 65536 C with
        | false =>
          have HE := Lib.hid (HC.out.out (by rw [← hk', HC2.out]; exact hok))
          simp only [okC, decide_eq_false_iff_not] at hok
          go_wp2
          all_goals first | (exfalso; omega) | (go_ret2; exact TwoI.of (p := (0, 0)) HE.out)
        | true =>
          have HE := Lib.hid (HC.out.good (by rw [List.length_cons]; omega) (by rw [← show k + 1 = 4 from by omega]; exact hall.out) (by rw [← hk', HC2.out]; exact hok))
          rw [← hk', HC2.out] at HE
          simp only [okC, decide_eq_true_eq] at hok
          go_wp2
          all_goals first | (exfalso; omega) | (go_ret2; exact TwoI.of (p := (C, 4)) HE.out)

set_option maxRecDepth 100000 in
set_option maxHeartbeats 2000000 in
theorem rune_nil (w : World) :
    Calls Tryd.prog 57 #[.string ⟨([] : List UInt8).toArray⟩] w (TwoI (runeF []) w) := by
  go_enter Tryd.func57, Tryd.ntmps57
  go_wp2
  go_ret2
  exact TwoI.of (p := (0, 0)) runeF_nil
theorem rune_calls (l : List UInt8) (w : World) (hl : l.length ≤ 1000000) :
    Calls Tryd.prog 57 #[.string ⟨l.toArray⟩] w (TwoI (runeF l) w) := by
  cases l with
  | nil => exact rune_nil w
  | cons b t =>
    have hlt := b.toNat_lt
    by_cases h1 : b.toNat < 128
    · exact rune_low b t w hl h1
    · by_cases h2 : b.toNat < 192
      · exact rune_none b t w hl (.inl ⟨by omega, h2⟩)
      · by_cases h3 : b.toNat < 224
        · exact rune_2 b t w hl ⟨by omega, h3⟩
        · by_cases h4 : b.toNat < 240
          · exact rune_3 b t w hl ⟨by omega, h4⟩
          · by_cases h5 : b.toNat < 248
            · exact rune_4 b t w hl ⟨by omega, h5⟩
            · exact rune_none b t w hl (.inr (by omega))
end Go.Proofs.YtonpkbiplcbodaaDoor
namespace Go.Proofs.YtonpkbiplcbodaaDoor
open Go.ChangeShapes Go.WideShapes Go.ChangeAt Go.RowKit Go.IntWalk
set_option linter.unusedVariables false

def strLen (v : Value) : Nat := match v with | .string s => s.size | _ => 0

theorem valid_stop (l : List UInt8) (hne : l ≠ []) (h : NoR l) : Lib.validD l = false := by
  rw [Lib.validD_step l hne]
  exact if_pos h
theorem valid_go (l : List UInt8) (hne : l ≠ []) (h : ¬ NoR l) : Lib.validD l = Lib.validD (l.drop (Lib.decodeL l).2) := by
  rw [Lib.validD_step l hne]
  exact if_neg h
theorem runeF_stop (l : List UInt8) (hne : l ≠ []) (h : NoR l) : runeF l = (0, 0) := by rw [runeF_of hne, if_pos h]
theorem runeF_go (l : List UInt8) (hne : l ≠ []) (h : ¬ NoR l) : runeF l = Lib.decodeL l := by rw [runeF_of hne, if_neg h]

set_option maxHeartbeats 2000000 in
theorem refvalid_calls (l : List UInt8) (w : World) (hl : l.length ≤ 1000000) :
    Calls Tryd.prog 38 #[.string ⟨l.toArray⟩] w fun e w' => e = .returned (.bool (Lib.validD l)) ∧ w = w' := by
  go_enter Tryd.func38, Tryd.ntmps38
  go_wp2
  go_loop [0] (fun s => ∃ m : List UInt8, m.length ≤ 1000000 ∧ s = .string ⟨m.toArray⟩ ∧ Hid (Lib.validD l = Lib.validD m)) (fun s => strLen s)
  case atStart => exact ⟨l, hl, rfl, rfl⟩
  case round =>
    obtain ⟨m, hm, rfl, hv⟩ := hrel
    by_cases hne : m = []
    · subst hne
      have HE : Hid (Lib.validD l = true) := hv.out
      go_wp2
      go_ret
      exact ⟨ret_bool HE.out.symm, rfl⟩
    · have hne' : m.isEmpty = false := by
        cases m with
        | nil => exact absurd rfl hne
        | cons b t => rfl
      by_cases hn : NoR m
      · have HR := Lib.hid (runeF_stop m hne hn)
        have HE := Lib.hid (hv.out.trans (valid_stop m hne hn))
        go_wp2_with fail
        refine (rune_calls m _ hm).mono ?_
        rintro e w1 ⟨rfl, rfl⟩
        rw [HR.out]
        go_wp2
        go_ret
        exact ⟨ret_bool HE.out.symm, rfl⟩
      · have HR := Lib.hid (runeF_go m hne hn)
        have HE := Lib.hid (hv.out.trans (valid_go m hne hn))
        have hw := Lib.decodeL_width m
        have hle := Lib.decodeL_le m hne
        generalize Lib.decodeL m = p at HR HE hw hle
        obtain ⟨r, d⟩ := p
        simp only at HE hw hle
        go_wp2_with fail
        refine (rune_calls m _ hm).mono ?_
        rintro e w1 ⟨rfl, rfl⟩
        rw [HR.out]
        have hd0 : ((d : Int) == 0) = false := by rw [beq_eq_false_iff_ne]; omega
        go_wp2
        go_round
        case rel => exact ⟨m.drop d, by rw [List.length_drop]; omega, rfl, HE⟩
        case measure =>
          show (m.drop d).length < m.length
          rw [List.length_drop]; omega

end Go.Proofs.YtonpkbiplcbodaaDoor
namespace Go.Proofs.YtonpkbiplcbodaaDoor
open Go.Lib
set_option linter.unusedVariables false

def hexB (n : Nat) : UInt8 := if n < 10 then UInt8.ofNat (48 + n) else UInt8.ofNat (87 + n)
def escB (c : UInt8) : List UInt8 :=
  if c = 34 ∨ c = 92 then [92, c]
  else if c = 8 then [92, 98] else if c = 9 then [92, 116] else if c = 10 then [92, 110] else if c = 12 then [92, 102] else if c = 13 then [92, 114]
  else if c.toNat < 32 then [92, 117, 48, 48, hexB (c.toNat / 16), hexB (c.toNat % 16)]
  else [c]
def escL (l : List UInt8) : List UInt8 := l.flatMap escB
def putF (l : List UInt8) : List UInt8 := if validD l then 34 :: escL l ++ [34] else []
theorem escL_take (l : List UInt8) (i : Nat) (h : i < l.length) : escL (l.take (i + 1)) = escL (l.take i) ++ escB l[i] := by
  unfold escL
  rw [List.take_add_one, List.getElem?_eq_getElem h, Option.toList_some, List.flatMap_append, List.flatMap_cons, List.flatMap_nil, List.append_nil]
theorem escB_len (c : UInt8) : (escB c).length ≤ 6 := by
  unfold escB
  by_cases h1 : c = 34 ∨ c = 92
  · rw [if_pos h1]; simp only [List.length_cons, List.length_nil]; omega
  rw [if_neg h1]
  repeat' split
  all_goals (simp only [List.length_cons, List.length_nil]; omega)
theorem escL_len : ∀ l : List UInt8, (escL l).length ≤ 6 * l.length
  | [] => by simp [escL]
  | c :: l => by
    have h1 := escB_len c
    have h2 := escL_len l
    simp only [escL, List.flatMap_cons, List.length_append, List.length_cons] at *
    omega
theorem escL_take_len (l : List UInt8) (i : Nat) (h : i ≤ l.length) : (escL (l.take i)).length ≤ 6 * i := by
  have := escL_len (l.take i)
  rw [List.length_take] at this
  omega
theorem escB_plain (c : UInt8) (h : 128 ≤ c.toNat) : escB c = [c] := by
  have e : ∀ d : UInt8, d.toNat < 128 → c ≠ d := fun d hd hc => by rw [hc] at h; omega
  unfold escB
  rw [if_neg (by intro h; rcases h with h | h; exact e 34 (by decide) h; exact e 92 (by decide) h), if_neg (e 8 (by decide)), if_neg (e 9 (by decide)), if_neg (e 10 (by decide)), if_neg (e 12 (by decide)), if_neg (e 13 (by decide)), if_neg (by omega)]
theorem hex_at (i : Nat) (h : i < 16) : (([48, 49, 50, 51, 52, 53, 54, 55, 56, 57, 97, 98, 99, 100, 101, 102] : List UInt8).getD i 0) = hexB i := by
  have : ∀ j : Fin 16, (([48, 49, 50, 51, 52, 53, 54, 55, 56, 57, 97, 98, 99, 100, 101, 102] : List UInt8).getD j.val 0) = hexB j.val := by decide
  exact this ⟨i, h⟩
end Go.Proofs.YtonpkbiplcbodaaDoor
