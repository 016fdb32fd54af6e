/- Layer 6: what bytes are a point's, pure. -/
import Derived.Test.YtkfdclnaaphdgaaDoorCvF
namespace Go.Proofs.YtkfdclnaaphdgaaDoor
set_option linter.unusedVariables false

theorem rv_neg {y a : Nat} (h : a + y = P) : a * a % P = y * y % P := by
  refine both_neg (w := a * y) ?_ ?_
  · rw [← Nat.mul_add, h]; exact Nat.mul_mod_left _ _
  · rw [← Nat.add_mul, Nat.add_comm y a, h]; exact Nat.mul_mod_right _ _
theorem rv_sq {r : Nat} (h : rootOk r = true) : rootV r * rootV r % P = r % P := by
  have h1 := of_decide_eq_true h
  unfold rootV
  split
  · have hy := mod_lt_P (rootX r)
    rw [rv_neg (y := rootX r % P) (by omega), ← Nat.mul_mod]; exact h1
  · exact h1
theorem rv_even (r : Nat) : rootV r % P % 2 = 0 := by
  unfold rootV
  have hp := P_odd
  split
  · rename_i h
    have hy := mod_lt_P (rootX r)
    rw [Nat.mod_eq_of_lt (show P - rootX r % P < P by omega)]
    omega
  · omega
theorem rv_ok (b : Nat) : rootOk (b * b) = true := by
  apply decide_eq_true
  unfold rootX
  split
  · assumption
  · rename_i h
    exact (root_of_square b).resolve_left h
theorem rootX_mod (r : Nat) : rootX (r % P) % P = rootX r % P := by
  unfold rootX
  have e : (r % P) ^ E8 % P = r ^ E8 % P := (Nat.pow_mod r E8 P).symm
  have e2 : (r % P) ^ E8 * (r % P) ^ E8 % P = r ^ E8 * r ^ E8 % P := by rw [Nat.mul_mod, e, ← Nat.mul_mod]
  rw [e2, Nat.mod_mod]
  split
  · exact e
  · rw [Nat.mul_mod, e, ← Nat.mul_mod]
theorem rootOk_mod (r : Nat) : rootOk (r % P) = rootOk r := by
  unfold rootOk
  rw [Nat.mul_mod (rootX (r % P)), rootX_mod, ← Nat.mul_mod, Nat.mod_mod]
/-- A square of the field has a root. -/
theorem ok_sq (b : F) : rootOk (b * b).val = true := by rw [F.mul_val, rootOk_mod]; exact rv_ok _
theorem P_gt : 2 ^ 254 < P := by decide +kernel

def tpN (bs : List UInt8) : Nat := (bs.getD 31 0).toNat
def lwB (bs : List UInt8) : List UInt8 := bs.set 31 (UInt8.ofNat (tpN bs % 128))
def dY (bs : List UInt8) : F := fo (leN (lwB bs))
def dA (bs : List UInt8) : F := (dY bs * dY bs - 1) * fi (dY bs * dY bs * dF + 1)
def dR (bs : List UInt8) : F := fo (if rootOk (dA bs).val = true then rootV (dA bs).val else 0)
def dOdd (bs : List UInt8) : Bool := decide (128 ≤ tpN bs)
def dOk (bs : List UInt8) : Bool := decide (leN (lwB bs) < P) && (rootOk (dA bs).val && !(dOdd bs && decide (dR bs = 0)))
def dX (bs : List UInt8) : F := if dOdd bs = true then -dR bs else dR bs
theorem below_ne (y : F) : y * y * dF + 1 ≠ 0 := by
  intro h
  have hi := iF_sq
  by_cases hy : y = 0
  · subst hy
    rw [Fin.zero_mul, Fin.zero_mul] at h
    exact one_ne (by rw [← h]; decide +kernel)
  · refine d_not hy (a := iF) ?_
    generalize dF = d at *
    generalize iF = i at *
    grobner
theorem root_sq {bs : List UInt8} (h : rootOk (dA bs).val = true) : dR bs * dR bs = dA bs := by
  apply F.ext
  unfold dR
  rw [if_pos h, F.mul_val, fo_val, ← Nat.mul_mod, rv_sq h, Nat.mod_eq_of_lt (dA bs).isLt]
theorem root_even (bs : List UInt8) : (dR bs).val % 2 = 0 := by
  unfold dR
  rw [fo_val]
  split
  · exact rv_even _
  · rw [Nat.zero_mod]
theorem dec_on {bs : List UInt8} (h : dOk bs = true) : OnC (dX bs) (dY bs) := by
  unfold dOk at h
  simp only [Bool.and_eq_true] at h
  have hs := root_sq h.2.1
  have hb := fi_mul (below_ne (dY bs))
  unfold dA at hs
  have hx : dX bs * dX bs = dR bs * dR bs := by
    unfold dX
    split
    · generalize dR bs = r; grobner
    · rfl
  unfold OnC
  rw [hs] at hx
  generalize dX bs = x at *
  generalize dY bs = y at *
  generalize fi (y * y * dF + 1) = c at *
  generalize dF = d at *
  clear hs h
  grobner
/-- The point of bytes. -/
def decP (bs : List UInt8) : Pt := if h : dOk bs = true then ⟨dX bs, dY bs, dec_on h⟩ else Pt.zero
theorem decP_x {bs : List UInt8} (h : dOk bs = true) : (decP bs).x = dX bs := by unfold decP; rw [dif_pos h]
theorem decP_y {bs : List UInt8} (h : dOk bs = true) : (decP bs).y = dY bs := by unfold decP; rw [dif_pos h]
theorem leN_set : ∀ (l : List UInt8) (k : Nat) (y : UInt8), k < l.length → leN (l.set k y) + 256 ^ k * (l.getD k 0).toNat = leN l + 256 ^ k * y.toNat
  | [], k, y, h => by simp at h
  | c :: l, 0, y, h => by simp [leN]; omega
  | c :: l, k + 1, y, h => by
    have ih := leN_set l k y (by simpa using h)
    rw [List.set_cons_succ, leN, leN, List.getD_cons_succ, Nat.pow_succ', Nat.mul_assoc, Nat.mul_assoc]
    omega
theorem low_len (bs : List UInt8) : (lwB bs).length = bs.length := List.length_set
theorem top_lt256 (bs : List UInt8) : tpN bs < 256 := (bs.getD 31 0).toNat_lt
theorem leN_low {bs : List UInt8} (hl : bs.length = 32) : leN bs = leN (lwB bs) + 2 ^ 255 * (tpN bs / 128) := by
  have h := leN_set bs 31 (UInt8.ofNat (tpN bs % 128)) (by omega)
  have ht := top_lt256 bs
  have e : (UInt8.ofNat (tpN bs % 128)).toNat = tpN bs % 128 := by simp; omega
  rw [e] at h
  have e2 : (256 : Nat) ^ 31 * tpN bs = 256 ^ 31 * (tpN bs % 128) + 2 ^ 255 * (tpN bs / 128) := by
    have h1 := Nat.div_add_mod (tpN bs) 128
    have h2 : (2 : Nat) ^ 255 = 256 ^ 31 * 128 := by decide +kernel
    rw [h2, Nat.mul_assoc, ← Nat.mul_add]
    congr 1
    omega
  unfold lwB
  unfold tpN at e2 h ⊢
  rw [e2] at h
  omega
theorem leN_bound : ∀ (l : List UInt8) (k t : Nat), l.length = k + 1 → (l.getD k 0).toNat < t → leN l < 256 ^ k * t
  | [], k, t, h, _ => by simp at h
  | [c], 0, t, h, ht => by simpa [leN] using ht
  | [c], k + 1, t, h, ht => by simp at h
  | c :: d :: l, 0, t, h, ht => by simp at h
  | c :: d :: l, k + 1, t, h, ht => by
    have ih := leN_bound (d :: l) k t (by simpa using h) (by simpa using ht)
    have hc := c.toNat_lt
    rw [leN, Nat.pow_succ', Nat.mul_assoc]
    omega
theorem low_lt {bs : List UInt8} (hl : bs.length = 32) : leN (lwB bs) < 2 ^ 255 := by
  have ht := top_lt256 bs
  have h := leN_bound (lwB bs) 31 128 (by rw [low_len]; omega) (by
    unfold lwB
    rw [List.getD, List.getElem?_set_self (by omega)]
    simp
    omega)
  have e : (2 : Nat) ^ 255 = 256 ^ 31 * 128 := by decide +kernel
  rw [e]; exact h
theorem leB_back (bs : List UInt8) : leB bs.length (leN bs) = bs := by
  induction bs with
  | nil => rfl
  | cons b bs ih =>
    have hb := b.toNat_lt
    rw [List.length_cons, leN, leB, show (b.toNat + 256 * leN bs) / 256 = leN bs by omega, ih, show (b.toNat + 256 * leN bs) % 256 = b.toNat by omega]
    simp
theorem enc_dec {bs : List UInt8} (hl : bs.length = 32) (h : dOk bs = true) : encL (decP bs) = bs := by
  have h0 := h
  unfold dOk at h0
  simp only [Bool.and_eq_true, decide_eq_true_eq] at h0
  have ht := top_lt256 bs
  have hv : (dY bs).val = leN (lwB bs) := by unfold dY; rw [fo_val, Nat.mod_eq_of_lt h0.1]
  have hx : (dX bs).val % 2 = tpN bs / 128 := by
    have he := root_even bs
    unfold dX
    by_cases ho : dOdd bs = true
    · rw [if_pos ho]
      have h1 : dR bs ≠ 0 := by
        have h2 := h0.2.2
        rw [ho, Bool.true_and, Bool.not_eq_true', decide_eq_false_iff_not] at h2
        exact h2
      have hn : (dR bs).val ≠ 0 := fun e => h1 (F.ext e)
      have hlt := (dR bs).isLt
      have hp := P_odd
      rw [F.neg_val, Nat.mod_eq_of_lt hlt, Nat.mod_eq_of_lt (show P - (dR bs).val < P by omega)]
      have : 128 ≤ tpN bs := of_decide_eq_true ho
      omega
    · rw [if_neg ho, he]
      have : ¬ 128 ≤ tpN bs := fun h => ho (decide_eq_true h)
      omega
  unfold encL
  rw [decP_x h, decP_y h, hv, hx, ← leN_low hl]
  have := leB_back bs
  rwa [hl] at this
/-- A point is that of its bytes. -/
theorem dec_enc (p : Pt) : dOk (encL p) = true ∧ decP (encL p) = p := by
  have hyl := p.y.isLt
  have hPl : P < 2 ^ 255 := by decide +kernel
  have hm : p.x.val % 2 < 2 := Nat.mod_lt _ (by decide)
  have hNN : leN (encL p) = p.y.val + 2 ^ 255 * (p.x.val % 2) := by
    unfold encL
    rw [leN_leB, Nat.mod_eq_of_lt]
    have : (256 : Nat) ^ 32 = 2 ^ 255 * 2 := by decide +kernel
    rw [this]
    have : 2 ^ 255 * (p.x.val % 2) ≤ 2 ^ 255 * 1 := Nat.mul_le_mul_left _ (by omega)
    omega
  have htop : tpN (encL p) / 128 = p.x.val % 2 ∧ leN (lwB (encL p)) = p.y.val := by
    have h1 := leN_low (enc_len p)
    have h2 := low_lt (enc_len p)
    have ht := top_lt256 (encL p)
    rw [hNN] at h1
    have h3 : tpN (encL p) / 128 < 2 := by omega
    generalize leN (lwB (encL p)) = q at *
    generalize tpN (encL p) / 128 = s at *
    generalize p.x.val % 2 = s2 at *
    generalize p.y.val = y at *
    have hs : s = 0 ∨ s = 1 := by omega
    have hs2 : s2 = 0 ∨ s2 = 1 := by omega
    rcases hs with rfl | rfl <;> rcases hs2 with rfl | rfl <;> simp at h1 ⊢ <;> omega
  have hy : dY (encL p) = p.y := by unfold dY; rw [htop.2]; exact fo_self _
  have hA : dA (encL p) = p.x * p.x := by
    unfold dA
    rw [hy]
    have h1 := fi_mul (below_ne p.y)
    have h2 := p.on
    unfold OnC at h2
    generalize fi (p.y * p.y * dF + 1) = c at *
    generalize dF = d at *
    generalize p.x = x at *
    generalize p.y = y at *
    clear hNN htop hy hyl
    grobner
  have hok : rootOk (dA (encL p)).val = true := by rw [hA]; exact ok_sq p.x
  have hR := root_sq hok
  rw [hA] at hR
  have hRe := root_even (encL p)
  have hpm : dR (encL p) = p.x ∨ dR (encL p) = -p.x := by
    generalize dR (encL p) = r at hR
    have : (r - p.x) * (r + p.x) = 0 := by
      generalize p.x = x at *
      clear hNN htop hy hyl hA hok hRe hm
      grobner
    rcases fz this with h | h
    · left
      generalize p.x = x at *
      clear hNN htop hy hyl hA hok hRe hm hR this
      grobner
    · right
      generalize p.x = x at *
      clear hNN htop hy hyl hA hok hRe hm hR this
      grobner
  have hp := P_odd
  have hxl := p.x.isLt
  have hodd : dOdd (encL p) = decide (p.x.val % 2 = 1) := by
    unfold dOdd
    apply decide_eq_decide.2
    have := top_lt256 (encL p)
    omega
  have hnz : p.x.val % 2 = 1 → dR (encL p) = -p.x ∧ dR (encL p) ≠ 0 := by
    intro ho
    have hne : p.x.val ≠ 0 := by omega
    have h1 : dR (encL p) = -p.x := by
      rcases hpm with h | h
      · rw [h] at hRe; omega
      · exact h
    refine ⟨h1, fun h0 => hne ?_⟩
    have h2 := congrArg Fin.val (h1.symm.trans h0)
    rw [F.neg_val, Nat.mod_eq_of_lt hxl, zero_val] at h2
    rw [Nat.mod_eq_of_lt (show P - p.x.val < P by omega)] at h2
    omega
  have hev : ¬ p.x.val % 2 = 1 → dR (encL p) = p.x := by
    intro ho
    rcases hpm with h | h
    · exact h
    · by_cases h0 : p.x.val = 0
      · have hx0 : p.x = 0 := F.ext h0
        rw [h, hx0]; decide +kernel
      · exfalso
        rw [h, F.neg_val, Nat.mod_eq_of_lt hxl, Nat.mod_eq_of_lt (show P - p.x.val < P by omega)] at hRe
        omega
  have hdOk : dOk (encL p) = true := by
    unfold dOk
    rw [hok, htop.2, decide_eq_true hyl, hodd, Bool.true_and, Bool.true_and, Bool.not_eq_true', Bool.and_eq_false_iff]
    by_cases ho : p.x.val % 2 = 1
    · exact .inr (decide_eq_false (hnz ho).2)
    · exact .inl (decide_eq_false ho)
  refine ⟨hdOk, Pt.ext' ?_ ?_⟩
  · rw [decP_x hdOk]
    unfold dX
    rw [hodd]
    by_cases ho : p.x.val % 2 = 1
    · rw [decide_eq_true ho, if_pos rfl, (hnz ho).1]
      generalize p.x = x
      grobner
    · rw [decide_eq_false ho, if_neg (by decide), hev ho]
  · rw [decP_y hdOk, hy]
end Go.Proofs.YtkfdclnaaphdgaaDoor
