/- The field of 2^255 - 19 elements, and the points of the curve, pure. -/
import Derived.Test.YtkfdclnaaphdgaaDoorFmB
namespace Go.Proofs.YtkfdclnaaphdgaaDoor
set_option linter.unusedVariables false

instance nzP : NeZero P := ⟨by decide +kernel⟩
abbrev F := Fin P
theorem F.ext {a b : F} (h : a.val = b.val) : a = b := Fin.ext h
theorem F.mul_val (a b : F) : (a * b).val = (a.val * b.val) % P := Fin.val_mul a b
theorem F.add_val (a b : F) : (a + b).val = (a.val + b.val) % P := Fin.val_add a b
theorem F.sub_val (a b : F) : (a - b).val = (a.val + (P - b.val % P)) % P := by
  rw [Fin.sub_def, Nat.mod_eq_of_lt b.isLt]; simp; rw [Nat.add_comm]
theorem F.neg_val (a : F) : (-a).val = (P - a.val % P) % P := by
  rw [Nat.mod_eq_of_lt a.isLt]; exact Fin.val_neg' a
theorem F.of_val (n : Nat) : (Fin.ofNat P n).val = n % P := rfl
def fo (n : Nat) : F := Fin.ofNat P n
theorem fo_val (n : Nat) : (fo n).val = n % P := rfl
theorem fo_self (a : F) : fo a.val = a := F.ext (Nat.mod_eq_of_lt a.isLt)
theorem one_val : (1 : F).val = 1 := by decide +kernel
theorem two_ne : (2 : F) ≠ 0 := by decide +kernel
theorem one_ne : (1 : F) ≠ 0 := by decide +kernel
theorem val_ne {a : F} (h : a ≠ 0) : ¬ P ∣ a.val := by
  intro hd
  apply h
  apply F.ext
  rcases Nat.eq_zero_or_pos a.val with h0 | h0
  · exact h0
  · exact absurd (Nat.le_of_dvd h0 hd) (by have := a.isLt; omega)
/-- The inverse. -/
def fi (a : F) : F := fo (a.val ^ (P - 2))
theorem fi_mul {a : F} (h : a ≠ 0) : a * fi a = 1 := by
  apply F.ext
  rw [F.mul_val, fi, fo_val, Nat.mul_mod_mod, ← Nat.pow_succ', one_val, show (P - 2).succ = P - 1 by decide +kernel]
  exact prmP.fermat1 (val_ne h)
theorem fz {a b : F} (h : a * b = 0) : a = 0 ∨ b = 0 := by
  by_cases ha : a = 0
  · exact .inl ha
  · right
    have h1 := fi_mul ha
    generalize fi a = c at h1
    grobner
theorem fz_ne {a b : F} (ha : a ≠ 0) (hb : b ≠ 0) : a * b ≠ 0 := fun h => by
  rcases fz h with h | h
  · exact ha h
  · exact hb h
theorem fcan {a b c : F} (ha : a ≠ 0) (h : a * b = a * c) : b = c := by
  have h1 := fi_mul ha
  generalize fi a = i at h1
  grobner
/-- The curve's number, and a root of -1. -/
def dF : F := fo 37095705934669439343138083508754565189542113879843219016388785533085940283555
def iF : F := fo 19681161376707505956807079304988542015446066515923890162744021073123829784752
theorem iF_sq : iF * iF = -1 := by decide +kernel
theorem dF_ne : dF ≠ 0 := by decide +kernel
theorem d_pow : dF.val ^ ((P - 1) / 2) % P = P - 1 := by
  rw [← pm_eq 256 dF.val ((P - 1) / 2) P (by decide +kernel)]
  decide +kernel
theorem d_not_sq (c : F) : c * c ≠ dF := by
  intro h
  have hc : c ≠ 0 := by
    rintro rfl
    exact dF_ne (by rw [← h]; exact Fin.zero_mul 0)
  have h1 := prmP.fermat1 (val_ne hc)
  have h2 : (c.val * c.val) % P = dF.val := by rw [← h]; exact (F.mul_val c c).symm
  have h3 := d_pow
  rw [← h2, ← Nat.pow_mod, ← Nat.pow_two, ← Nat.pow_mul, show 2 * ((P - 1) / 2) = P - 1 by decide +kernel, h1] at h3
  exact absurd h3 (by decide +kernel)
theorem d_not {a b : F} (hb : b ≠ 0) (h : a * a = dF * (b * b)) : False := by
  have h1 := fi_mul hb
  apply d_not_sq (a * fi b)
  generalize fi b = c at *
  generalize dF = d at *
  grobner
def OnC (x y : F) : Prop := -(x * x) + y * y = 1 + dF * x * x * y * y
theorem complete {x1 y1 x2 y2 : F} (e1 : OnC x1 y1) (e2 : OnC x2 y2) (h : dF * x1 * x2 * y1 * y2 * (dF * x1 * x2 * y1 * y2) = 1) : False := by
  unfold OnC at e1 e2
  have hi := iF_sq
  have hdn := @d_not
  generalize dF = d at *
  generalize iF = i at *
  obtain ⟨s, hs⟩ : ∃ s, d * x1 * x2 * y1 * y2 = s := ⟨_, rfl⟩
  rw [hs] at h
  have k1 : (x1 + s * i * y1) * (x1 + s * i * y1) = d * (x1 * y1 * (x2 + i * y2) * (x1 * y1 * (x2 + i * y2))) := by grobner
  have k2 : (x1 - s * i * y1) * (x1 - s * i * y1) = d * (x1 * y1 * (x2 - i * y2) * (x1 * y1 * (x2 - i * y2))) := by grobner
  have z1 : x1 * y1 * (x2 + i * y2) = 0 := Classical.byContradiction fun hn => hdn hn k1
  have z2 : x1 * y1 * (x2 - i * y2) = 0 := Classical.byContradiction fun hn => hdn hn k2
  have z3 : 2 * (s * s) = 0 := by grobner
  rw [h] at z3
  exact two_ne (by rw [← z3]; exact (Fin.mul_one 2).symm)
theorem plus_ne {x1 y1 x2 y2 : F} (e1 : OnC x1 y1) (e2 : OnC x2 y2) : 1 + dF * x1 * x2 * y1 * y2 ≠ 0 := fun h => complete e1 e2 (by
  generalize dF = d at *
  grobner)
theorem minus_ne {x1 y1 x2 y2 : F} (e1 : OnC x1 y1) (e2 : OnC x2 y2) : 1 - dF * x1 * x2 * y1 * y2 ≠ 0 := fun h => complete e1 e2 (by
  generalize dF = d at *
  grobner)
def addX (x1 y1 x2 y2 : F) : F := (x1 * y2 + y1 * x2) * fi (1 + dF * x1 * x2 * y1 * y2)
def addY (x1 y1 x2 y2 : F) : F := (y1 * y2 + x1 * x2) * fi (1 - dF * x1 * x2 * y1 * y2)
theorem addX_eq {x1 y1 x2 y2 : F} (e1 : OnC x1 y1) (e2 : OnC x2 y2) : addX x1 y1 x2 y2 * (1 + dF * x1 * x2 * y1 * y2) = x1 * y2 + y1 * x2 := by
  have h := fi_mul (plus_ne e1 e2)
  unfold addX
  generalize fi (1 + dF * x1 * x2 * y1 * y2) = c at *
  generalize dF = d at *
  grobner
theorem addY_eq {x1 y1 x2 y2 : F} (e1 : OnC x1 y1) (e2 : OnC x2 y2) : addY x1 y1 x2 y2 * (1 - dF * x1 * x2 * y1 * y2) = y1 * y2 + x1 * x2 := by
  have h := fi_mul (minus_ne e1 e2)
  unfold addY
  generalize fi (1 - dF * x1 * x2 * y1 * y2) = c at *
  generalize dF = d at *
  grobner
theorem add_on {x1 y1 x2 y2 : F} (e1 : OnC x1 y1) (e2 : OnC x2 y2) : OnC (addX x1 y1 x2 y2) (addY x1 y1 x2 y2) := by
  have hx := addX_eq e1 e2
  have hy := addY_eq e1 e2
  have hu := plus_ne e1 e2
  have hv := minus_ne e1 e2
  generalize addX x1 y1 x2 y2 = X at *
  generalize addY x1 y1 x2 y2 = Y at *
  unfold OnC at *
  generalize dF = d at *
  obtain ⟨u, hue⟩ : ∃ u, 1 + d * x1 * x2 * y1 * y2 = u := ⟨_, rfl⟩
  obtain ⟨v, hve⟩ : ∃ v, 1 - d * x1 * x2 * y1 * y2 = v := ⟨_, rfl⟩
  obtain ⟨A, hA⟩ : ∃ A, x1 * y2 + y1 * x2 = A := ⟨_, rfl⟩
  obtain ⟨B, hB⟩ : ∃ B, y1 * y2 + x1 * x2 = B := ⟨_, rfl⟩
  have key : -(A * A * (v * v)) + B * B * (u * u) = u * u * (v * v) + d * (A * A) * (B * B) := by
    subst hue hve hA hB
    clear hx hy hu hv
    grobner
  rw [hue, hA] at hx
  rw [hve, hB] at hy
  rw [hue] at hu
  rw [hve] at hv
  clear hue hve hA hB e1 e2
  apply fcan (fz_ne (fz_ne hu hu) (fz_ne hv hv))
  subst hx hy
  clear hu hv
  grobner
structure Pt where
  x : F
  y : F
  on : OnC x y
theorem Pt.ext' {p q : Pt} (h1 : p.x = q.x) (h2 : p.y = q.y) : p = q := by
  cases p; cases q; simp at h1 h2; subst h1 h2; rfl
def Pt.add (p q : Pt) : Pt := ⟨addX p.x p.y q.x q.y, addY p.x p.y q.x q.y, add_on p.on q.on⟩
def Pt.zero : Pt := ⟨0, 1, by unfold OnC; simp only [Fin.mul_zero, Fin.zero_mul]; decide +kernel⟩
def Pt.neg (p : Pt) : Pt := ⟨-p.x, p.y, by have h := p.on; unfold OnC at *; generalize dF = d at *; grobner⟩
theorem Pt.add_comm (p q : Pt) : p.add q = q.add p := by
  apply Pt.ext'
  · show addX _ _ _ _ = addX _ _ _ _
    unfold addX
    rw [show dF * p.x * q.x * p.y * q.y = dF * q.x * p.x * q.y * p.y by grobner, show p.x * q.y + p.y * q.x = q.x * p.y + q.y * p.x by grobner]
  · show addY _ _ _ _ = addY _ _ _ _
    unfold addY
    rw [show dF * p.x * q.x * p.y * q.y = dF * q.x * p.x * q.y * p.y by grobner, show p.y * q.y + p.x * q.x = q.y * p.y + q.x * p.x by grobner]
theorem Pt.of_eqs {p q r : Pt} (h1 : r.x * (1 + dF * p.x * q.x * p.y * q.y) = p.x * q.y + p.y * q.x) (h2 : r.y * (1 - dF * p.x * q.x * p.y * q.y) = p.y * q.y + p.x * q.x) : p.add q = r := by
  apply Pt.ext'
  · have h := addX_eq p.on q.on
    have hn := plus_ne p.on q.on
    refine fcan hn ?_
    show _ * addX _ _ _ _ = _
    rw [Fin.mul_comm, h, ← h1, Fin.mul_comm]
  · have h := addY_eq p.on q.on
    have hn := minus_ne p.on q.on
    refine fcan hn ?_
    show _ * addY _ _ _ _ = _
    rw [Fin.mul_comm, h, ← h2, Fin.mul_comm]
theorem Pt.add_zero (p : Pt) : p.add Pt.zero = p := by
  apply Pt.of_eqs <;> (unfold Pt.zero; generalize dF = d; generalize p.x = x; generalize p.y = y; grobner)
theorem Pt.add_neg (p : Pt) : p.add p.neg = Pt.zero := by
  have h := p.on
  unfold OnC at h
  apply Pt.of_eqs
  · show (0 : F) * (1 + dF * p.x * (-p.x) * p.y * p.y) = p.x * p.y + p.y * (-p.x)
    generalize dF = d at *; grobner
  · show (1 : F) * (1 - dF * p.x * (-p.x) * p.y * p.y) = p.y * p.y + p.x * (-p.x)
    generalize dF = d at *; grobner
theorem Pt.neg_neg (p : Pt) : p.neg.neg = p := by
  apply Pt.ext'
  · show - -p.x = p.x
    generalize p.x = x; grobner
  · rfl
end Go.Proofs.YtkfdclnaaphdgaaDoor
