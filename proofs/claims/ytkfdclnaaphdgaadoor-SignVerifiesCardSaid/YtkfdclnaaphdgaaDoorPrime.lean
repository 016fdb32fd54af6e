/- No run: numbers that nothing divides; Fermat's small theorem; how such a number is told (Pocklington). -/
import Derived.Test.YtkfdclnaaphdgaaDoorRows
namespace Go.Proofs.YtkfdclnaaphdgaaDoor
set_option linter.unusedVariables false

def Prm (p : Nat) : Prop := 2 ≤ p ∧ ∀ d, d ∣ p → d = 1 ∨ d = p

theorem Prm.cop {p a : Nat} (hp : Prm p) (h : ¬ p ∣ a) : Nat.Coprime p a := by
  rcases hp.2 (Nat.gcd p a) (Nat.gcd_dvd_left p a) with h1 | h1
  · exact h1
  · exact absurd (h1 ▸ Nat.gcd_dvd_right p a) h
theorem Prm.mul {p a b : Nat} (hp : Prm p) (h : p ∣ a * b) : p ∣ a ∨ p ∣ b := by
  by_cases ha : p ∣ a
  · exact .inl ha
  · exact .inr ((hp.cop ha).dvd_of_dvd_mul_left h)
theorem Prm.pow {p a : Nat} (hp : Prm p) : ∀ n, p ∣ a ^ n → p ∣ a
  | 0, h => by
    have h1 := hp.1
    rw [Nat.pow_zero] at h
    have := Nat.le_of_dvd (by decide) h
    omega
  | n + 1, h => by
    rw [Nat.pow_succ] at h
    rcases hp.mul h with h | h
    · exact Prm.pow hp n h
    · exact h

/-! Sums, and numbers of choices. -/
def sumN (f : Nat → Nat) : Nat → Nat
  | 0 => 0
  | n + 1 => sumN f n + f n
theorem sumN_congr {f g : Nat → Nat} : ∀ n, (∀ k, k < n → f k = g k) → sumN f n = sumN g n
  | 0, _ => rfl
  | n + 1, h => by rw [sumN, sumN, sumN_congr n fun k hk => h k (by omega), h n (by omega)]
theorem sumN_add (f g : Nat → Nat) : ∀ n, sumN (fun k => f k + g k) n = sumN f n + sumN g n
  | 0 => rfl
  | n + 1 => by rw [sumN, sumN, sumN, sumN_add f g n]; omega
theorem sumN_mul (c : Nat) (f : Nat → Nat) : ∀ n, sumN (fun k => c * f k) n = c * sumN f n
  | 0 => rfl
  | n + 1 => by rw [sumN, sumN, sumN_mul c f n, Nat.mul_add]
theorem sumN_head (f : Nat → Nat) : ∀ n, sumN f (n + 1) = f 0 + sumN (fun k => f (k + 1)) n
  | 0 => by simp [sumN]
  | n + 1 => by rw [sumN, sumN_head f n, sumN]; omega
theorem sumN_dvd {p : Nat} {f : Nat → Nat} : ∀ n, (∀ k, k < n → p ∣ f k) → p ∣ sumN f n
  | 0, _ => Nat.dvd_zero p
  | n + 1, h => Nat.dvd_add (sumN_dvd n fun k hk => h k (by omega)) (h n (by omega))

def choose : Nat → Nat → Nat
  | _, 0 => 1
  | 0, _ + 1 => 0
  | n + 1, k + 1 => choose n k + choose n (k + 1)
theorem choose_zero (n : Nat) : choose n 0 = 1 := by cases n <;> rfl
theorem choose_over : ∀ n k, n < k → choose n k = 0
  | _, 0, h => by omega
  | 0, k + 1, _ => rfl
  | n + 1, k + 1, h => by rw [choose, choose_over n k (by omega), choose_over n (k + 1) (by omega)]
theorem choose_self : ∀ n, choose n n = 1
  | 0 => rfl
  | n + 1 => by rw [choose, choose_self n, choose_over n (n + 1) (by omega)]
theorem choose_mul : ∀ n k, (k + 1) * choose (n + 1) (k + 1) = (n + 1) * choose n k
  | 0, 0 => rfl
  | 0, k + 1 => by simp [choose]
  | n + 1, 0 => by
    have h := choose_mul n 0
    have e : choose (n + 1 + 1) (0 + 1) = choose (n + 1) 0 + choose (n + 1) (0 + 1) := rfl
    rw [choose_zero] at h
    rw [e, choose_zero]
    omega
  | n + 1, k + 1 => by
    have h1 := choose_mul n k
    have h2 := choose_mul n (k + 1)
    have e1 : choose (n + 1 + 1) (k + 1 + 1) = choose (n + 1) (k + 1) + choose (n + 1) (k + 1 + 1) := rfl
    have e2 : choose (n + 1) (k + 1) = choose n k + choose n (k + 1) := rfl
    have e3 : (k + 1 + 1) * choose (n + 1) (k + 1) = (k + 1) * choose (n + 1) (k + 1) + choose (n + 1) (k + 1) := Nat.succ_mul ..
    have e4 : (n + 1 + 1) * choose (n + 1) (k + 1) = (n + 1) * choose (n + 1) (k + 1) + choose (n + 1) (k + 1) := Nat.succ_mul ..
    have e5 : (n + 1) * choose (n + 1) (k + 1) = (n + 1) * choose n k + (n + 1) * choose n (k + 1) := by rw [e2, Nat.mul_add]
    rw [e1, Nat.mul_add, e3, h1, h2, e4, e5]
    omega
theorem binom (a n : Nat) : (a + 1) ^ n = sumN (fun k => choose n k * a ^ k) (n + 1) := by
  induction n with
  | zero => simp [sumN, choose]
  | succ n ih =>
    rw [sumN_head]
    have e1 : sumN (fun k => choose (n + 1) (k + 1) * a ^ (k + 1)) (n + 1) = sumN (fun k => choose n k * a ^ (k + 1)) (n + 1) + sumN (fun k => choose n (k + 1) * a ^ (k + 1)) (n + 1) := by
      rw [← sumN_add]
      exact sumN_congr _ fun k _ => by rw [choose, Nat.add_mul]
    have e2 : sumN (fun k => choose n k * a ^ (k + 1)) (n + 1) = a * sumN (fun k => choose n k * a ^ k) (n + 1) := by
      rw [← sumN_mul]
      exact sumN_congr _ fun k _ => by rw [Nat.pow_succ, Nat.mul_comm (a ^ k) a, ← Nat.mul_assoc, ← Nat.mul_assoc, Nat.mul_comm a]
    have e3 : choose n 0 * a ^ 0 + sumN (fun k => choose n (k + 1) * a ^ (k + 1)) (n + 1) = sumN (fun k => choose n k * a ^ k) (n + 1) := by
      rw [← sumN_head (fun k => choose n k * a ^ k) (n + 1), sumN, choose_over n (n + 1) (by omega), Nat.zero_mul, Nat.add_zero]
    rw [e1, e2, Nat.pow_succ, ih, Nat.mul_add, Nat.mul_one]
    have e4 : choose (n + 1) 0 * a ^ 0 = choose n 0 * a ^ 0 := by rw [choose_zero, choose_zero]
    rw [e4]
    rw [Nat.mul_comm a]
    omega

theorem Prm.choose {p k : Nat} (hp : Prm p) (h0 : 0 < k) (h1 : k < p) : p ∣ choose p k := by
  obtain ⟨k, rfl⟩ : ∃ j, k = j + 1 := ⟨k - 1, by omega⟩
  obtain ⟨n, rfl⟩ : ∃ j, p = j + 1 := ⟨p - 1, by omega⟩
  have h := choose_mul n k
  have hd : n + 1 ∣ (k + 1) * Go.Proofs.YtkfdclnaaphdgaaDoor.choose (n + 1) (k + 1) := ⟨_, h⟩
  rcases hp.mul hd with h2 | h2
  · have := Nat.le_of_dvd (by omega) h2
    omega
  · exact h2
theorem Prm.succ {p : Nat} (hp : Prm p) (a : Nat) : (a + 1) ^ p % p = (a ^ p + 1) % p := by
  obtain ⟨n, rfl⟩ : ∃ j, p = j + 1 := ⟨p - 1, by have := hp.1; omega⟩
  rw [binom, sumN_head, sumN, choose_zero, choose_self, Nat.one_mul, Nat.pow_zero]
  have hd : n + 1 ∣ sumN (fun k => Go.Proofs.YtkfdclnaaphdgaaDoor.choose (n + 1) (k + 1) * a ^ (k + 1)) n :=
    sumN_dvd _ fun k hk => Nat.dvd_mul_right_of_dvd (hp.choose (by omega) (by omega)) _
  obtain ⟨c, hc⟩ := hd
  rw [hc]
  rw [show 1 + ((n + 1) * c + 1 * a ^ (n + 1)) = (a ^ (n + 1) + 1) + (n + 1) * c by omega, Nat.add_mul_mod_self_left]
/-- FERMAT's SMALL THEOREM. -/
theorem Prm.fermat {p : Nat} (hp : Prm p) (a : Nat) : a ^ p % p = a % p := by
  induction a with
  | zero => rw [Nat.zero_pow (by have := hp.1; omega)]
  | succ a ih => rw [hp.succ, Nat.add_mod, ih, ← Nat.add_mod]
theorem dvd_of_mod {p x y : Nat} (h : x % p = y % p) (hxy : y ≤ x) : p ∣ x - y := Nat.dvd_of_mod_eq_zero (Nat.sub_mod_eq_zero_of_mod_eq h)
theorem Prm.fermat1 {p : Nat} (hp : Prm p) {a : Nat} (ha : ¬ p ∣ a) : a ^ (p - 1) % p = 1 := by
  have h2 := hp.1
  have h := hp.fermat a
  have ha0 : 0 < a := Nat.pos_of_ne_zero fun e => ha (e ▸ Nat.dvd_zero p)
  have e : a ^ p = a * a ^ (p - 1) := by rw [← Nat.pow_succ']; congr 1; omega
  have hpos : 1 ≤ a ^ (p - 1) := Nat.pow_pos ha0
  have hd : p ∣ a ^ p - a := dvd_of_mod h (by rw [e]; exact Nat.le_mul_of_pos_right _ hpos)
  rw [show a ^ p - a = a * (a ^ (p - 1) - 1) by rw [e, Nat.mul_sub, Nat.mul_one]] at hd
  rcases hp.mul hd with h3 | h3
  · exact absurd h3 ha
  · obtain ⟨c, hc⟩ := h3
    rw [show a ^ (p - 1) = 1 + p * c by omega, Nat.add_mul_mod_self_left]
    exact Nat.mod_eq_of_lt (by omega)

/-! Powers that are one. -/
theorem pow_mod_one {q a m : Nat} (hq : 1 < q) (h : a ^ m % q = 1) (k : Nat) : a ^ (m * k) % q = 1 := by
  rw [Nat.pow_mul, Nat.pow_mod, h, Nat.one_pow, Nat.mod_eq_of_lt hq]
theorem pow_gcd {q a : Nat} (hq : 1 < q) (m n : Nat) : a ^ m % q = 1 → a ^ n % q = 1 → a ^ Nat.gcd m n % q = 1 := by
  induction m, n using Nat.gcd.induction with
  | H0 n => intro _ h; simpa using h
  | H1 m n hm ih =>
    intro h1 h2
    rw [Nat.gcd_rec]
    refine ih ?_ h1
    have e : a ^ n = a ^ (m * (n / m)) * a ^ (n % m) := by rw [← Nat.pow_add, Nat.div_add_mod]
    rw [e, Nat.mul_mod, pow_mod_one hq h1, Nat.one_mul, Nat.mod_mod] at h2
    exact h2
/-- Each number above one is divided by a prime one. -/
theorem has_prime : ∀ (b n : Nat), n ≤ b → 2 ≤ n → ∃ q, Prm q ∧ q ∣ n
  | 0, n, h, h2 => by omega
  | b + 1, n, h, h2 => by
    by_cases hp : Prm n
    · exact ⟨n, hp, Nat.dvd_refl n⟩
    · have : ∃ d, d ∣ n ∧ d ≠ 1 ∧ d ≠ n := by
        apply Classical.byContradiction
        intro hno
        apply hp
        refine ⟨h2, fun d hd => ?_⟩
        apply Classical.byContradiction
        intro hn
        exact hno ⟨d, hd, fun e => hn (.inl e), fun e => hn (.inr e)⟩
      obtain ⟨d, hd, h1, hne⟩ := this
      have hle := Nat.le_of_dvd (by omega) hd
      have hpos : 0 < d := Nat.pos_of_dvd_of_pos hd (by omega)
      obtain ⟨q, hq, hqd⟩ := has_prime b d (by omega) (by omega)
      exact ⟨q, hq, Nat.dvd_trans hqd hd⟩
/-- A number whose prime divisors are all beyond its root. -/
theorem prm_of_big (n B : Nat) (hn : 2 ≤ n) (hbig : n < B * B) (key : ∀ q, Prm q → q ∣ n → B ≤ q) : Prm n := by
  refine ⟨hn, fun d hd => ?_⟩
  apply Classical.byContradiction
  intro hno
  have hd1 : d ≠ 1 := fun e => hno (.inl e)
  have hdn : d ≠ n := fun e => hno (.inr e)
  obtain ⟨m, hm⟩ := hd
  have hd0 : d ≠ 0 := fun e => by rw [e, Nat.zero_mul] at hm; omega
  have hm0 : m ≠ 0 := fun e => by rw [e, Nat.mul_zero] at hm; omega
  have hm1 : m ≠ 1 := fun e => by rw [e, Nat.mul_one] at hm; exact hdn hm.symm
  obtain ⟨q1, hq1, hq1d⟩ := has_prime d d (Nat.le_refl _) (by omega)
  obtain ⟨q2, hq2, hq2m⟩ := has_prime m m (Nat.le_refl _) (by omega)
  have k1 := key q1 hq1 (Nat.dvd_trans hq1d ⟨m, hm⟩)
  have k2 := key q2 hq2 (Nat.dvd_trans hq2m ⟨d, by rw [hm, Nat.mul_comm]⟩)
  have l1 := Nat.le_of_dvd (by omega) hq1d
  have l2 := Nat.le_of_dvd (by omega) hq2m
  have := Nat.mul_le_mul (Nat.le_trans k1 l1) (Nat.le_trans k2 l2)
  omega

/-- POCKLINGTON. -/
theorem pock (n F a : Nat) (hn : 2 ≤ n) (hF : F ∣ n - 1) (hF0 : 0 < F) (hbig : n < (F + 1) * (F + 1)) (h1 : a ^ (n - 1) % n = 1)
    (hr : ∀ r, Prm r → r ∣ F → Nat.gcd ((a ^ ((n - 1) / r) % n + (n - 1)) % n) n = 1) : Prm n := by
  have key : ∀ q, Prm q → q ∣ n → F + 1 ≤ q := by
    intro q hq hqn
    have hq1 : 1 < q := hq.1
    have hmod : ∀ x, x % n % q = x % q := fun x => Nat.mod_mod_of_dvd x hqn
    have hq0 : a ^ (n - 1) % q = 1 := by rw [← hmod, h1]; exact Nat.mod_eq_of_lt hq1
    have hqa : ¬ q ∣ a := by
      intro hd
      have := Nat.mod_eq_zero_of_dvd (Nat.dvd_trans hd (by have := Nat.pow_dvd_pow a (show 1 ≤ n - 1 by omega); rwa [Nat.pow_one] at this))
      omega
    obtain ⟨m, hm⟩ := hF
    have hm0 : 0 < m := Nat.pos_of_ne_zero fun e => by subst e; omega
    have hb1 : (a ^ m) ^ F % q = 1 := by rw [← Nat.pow_mul, Nat.mul_comm, ← hm]; exact hq0
    have hqb : ¬ q ∣ a ^ m := fun h => hqa (hq.pow m h)
    have hb2 : (a ^ m) ^ (q - 1) % q = 1 := hq.fermat1 hqb
    have hg := pow_gcd hq1 _ _ hb1 hb2
    have hdF := Nat.gcd_dvd_left F (q - 1)
    have hdq := Nat.gcd_dvd_right F (q - 1)
    obtain ⟨c, hc⟩ := hdF
    have hc1 : c = 1 := by
      apply Classical.byContradiction
      intro hne
      have hc0 : c ≠ 0 := fun e => by rw [e, Nat.mul_zero] at hc; omega
      obtain ⟨r, hrp, k, hk⟩ := has_prime c c (Nat.le_refl _) (by omega)
      obtain ⟨g, hgd⟩ : ∃ g, Nat.gcd F (q - 1) = g := ⟨_, rfl⟩
      rw [hgd] at hg hc
      have hr0 : 0 < r := by have := hrp.1; omega
      have hFr : F = r * (g * k) := by rw [hc, hk, Nat.mul_left_comm]
      have hrF : r ∣ F := ⟨_, hFr⟩
      have e : (n - 1) / r = m * g * k := by
        rw [hm, hFr, Nat.mul_assoc, Nat.mul_div_cancel_left _ hr0]
        rw [Nat.mul_comm, ← Nat.mul_assoc]
      have hone : a ^ ((n - 1) / r) % q = 1 := by
        rw [e, Nat.pow_mul, Nat.pow_mul, Nat.pow_mod, hg, Nat.one_pow, Nat.mod_eq_of_lt hq1]
      have hgcd := hr r hrp hrF
      have hdv : q ∣ (a ^ ((n - 1) / r) % n + (n - 1)) % n := by
        apply Nat.dvd_of_mod_eq_zero
        rw [hmod, Nat.add_mod, hmod, hone]
        obtain ⟨t, ht⟩ := hqn
        have ht0 : t ≠ 0 := fun e => by rw [e, Nat.mul_zero] at ht; omega
        have : (n - 1) % q = q - 1 := by
          obtain ⟨s, rfl⟩ : ∃ s, t = s + 1 := ⟨t - 1, by omega⟩
          rw [ht, Nat.mul_succ, show q * s + q - 1 = (q - 1) + q * s by omega, Nat.add_mul_mod_self_left]
          exact Nat.mod_eq_of_lt (by omega)
        rw [this, show 1 + (q - 1) = q by omega, Nat.mod_self]
      have h11 := Nat.dvd_gcd hdv hqn
      rw [hgcd] at h11
      have := Nat.le_of_dvd (by decide) h11
      omega
    rw [hc1, Nat.mul_one] at hc
    rw [← hc] at hdq
    have := Nat.le_of_dvd (by omega) hdq
    omega
  exact prm_of_big n (F + 1) hn hbig key

/-! Told by reckoning. -/
def pm : Nat → Nat → Nat → Nat → Nat
  | 0, _, _, n => 1 % n
  | f + 1, a, e, n => if e % 2 = 1 then a * pm f (a * a % n) (e / 2) n % n else pm f (a * a % n) (e / 2) n
theorem pm_eq : ∀ (f a e n : Nat), e < 2 ^ f → pm f a e n = a ^ e % n
  | 0, a, e, n, h => by
    have : e = 0 := by simpa using h
    subst this; rfl
  | f + 1, a, e, n, h => by
    have h2 : e / 2 < 2 ^ f := by rw [Nat.pow_succ] at h; omega
    have e1 : (a * a % n) ^ (e / 2) % n = (a ^ 2) ^ (e / 2) % n := by rw [← Nat.pow_mod, Nat.pow_two]
    unfold pm
    by_cases ho : e % 2 = 1
    · rw [if_pos ho, pm_eq f _ _ n h2, Nat.mul_mod, Nat.mod_mod, e1, ← Nat.mul_mod, ← Nat.pow_mul, ← Nat.pow_succ']
      congr 2; omega
    · rw [if_neg ho, pm_eq f _ _ n h2, e1, ← Nat.pow_mul]
      congr 2; omega
def nd : Nat → Nat → Bool
  | 0, _ => true
  | k + 1, n => (decide (k + 1 < 2) || n % (k + 1) != 0) && nd k n
theorem nd_spec : ∀ (k n : Nat), nd k n = true → ∀ d, 2 ≤ d → d ≤ k → ¬ d ∣ n
  | 0, n, _, d, h1, h2 => by omega
  | k + 1, n, h, d, h1, h2 => by
    unfold nd at h
    rw [Bool.and_eq_true] at h
    by_cases hd : d = k + 1
    · subst hd
      have h3 := h.1
      rw [Bool.or_eq_true, decide_eq_true_eq, bne_iff_ne] at h3
      intro hdv
      rcases h3 with h3 | h3
      · omega
      · exact h3 (Nat.mod_eq_zero_of_dvd hdv)
    · exact nd_spec k n h.2 d h1 (by omega)
theorem prm_trial (n b : Nat) (hn : 2 ≤ n) (hb : n < (b + 1) * (b + 1)) (h : nd b n = true) : Prm n :=
  prm_of_big n (b + 1) hn hb fun q hq hqn => by
    apply Classical.byContradiction
    intro hlt
    exact nd_spec b n h q hq.1 (by omega) hqn
/-- One prime divisor of n - 1 is great enough. -/
theorem pock1 (n s a : Nat) (hs : Prm s) (hn : 2 ≤ n) (hm : (n - 1) % s = 0) (hbig : n < (s + 1) * (s + 1)) (hl : n < 2 ^ 256) (h1 : pm 256 a (n - 1) n = 1) (h2 : Nat.gcd ((pm 256 a ((n - 1) / s) n + (n - 1)) % n) n = 1) : Prm n := by
  have hlt : ∀ x, x ≤ n - 1 → x < 2 ^ 256 := fun x hx => by omega
  rw [pm_eq _ _ _ _ (hlt _ (Nat.le_refl _))] at h1
  rw [pm_eq _ _ _ _ (hlt _ (Nat.div_le_self _ _))] at h2
  refine pock n s a hn (Nat.dvd_of_mod_eq_zero hm) (by have := hs.1; omega) hbig h1 fun r hr hrs => ?_
  rcases hs.2 r hrs with e | e
  · have := hr.1; omega
  · rw [e]; exact h2
/-- .. or two of them, together. -/
theorem pock2 (n s t a : Nat) (hs : Prm s) (ht : Prm t) (hn : 2 ≤ n) (hm : (n - 1) % (s * t) = 0) (hbig : n < (s * t + 1) * (s * t + 1)) (hl : n < 2 ^ 256) (h1 : pm 256 a (n - 1) n = 1) (h2 : Nat.gcd ((pm 256 a ((n - 1) / s) n + (n - 1)) % n) n = 1)
    (h3 : Nat.gcd ((pm 256 a ((n - 1) / t) n + (n - 1)) % n) n = 1) : Prm n := by
  have hlt : ∀ x, x ≤ n - 1 → x < 2 ^ 256 := fun x hx => by omega
  rw [pm_eq _ _ _ _ (hlt _ (Nat.le_refl _))] at h1
  rw [pm_eq _ _ _ _ (hlt _ (Nat.div_le_self _ _))] at h2
  rw [pm_eq _ _ _ _ (hlt _ (Nat.div_le_self _ _))] at h3
  refine pock n (s * t) a hn (Nat.dvd_of_mod_eq_zero hm) (Nat.mul_pos (by have := hs.1; omega) (by have := ht.1; omega)) hbig h1 fun r hr hrs => ?_
  rcases hr.mul hrs with h | h
  · rcases hs.2 r h with e | e
    · have := hr.1; omega
    · rw [e]; exact h2
  · rcases ht.2 r h with e | e
    · have := hr.1; omega
    · rw [e]; exact h3
theorem p1 : Prm 8574133 := prm_trial _ 2928 (by decide) (by decide) (by decide +kernel)
theorem p2 : Prm 127 := prm_trial _ 11 (by decide) (by decide) (by decide +kernel)
theorem p3 : Prm 569003 := prm_trial _ 754 (by decide) (by decide) (by decide +kernel)
theorem p4 : Prm 430751 := prm_trial _ 656 (by decide) (by decide) (by decide +kernel)
theorem p5 : Prm 4153 := prm_trial _ 64 (by decide) (by decide) (by decide +kernel)
theorem p6 : Prm 2773320623 := pock1 _ 569003 2 p3 (by decide) (by decide +kernel) (by decide +kernel) (by decide +kernel) (by decide +kernel) (by decide +kernel)
theorem p7 : Prm 72106336199 := pock1 _ 2773320623 2 p6 (by decide) (by decide +kernel) (by decide +kernel) (by decide +kernel) (by decide +kernel) (by decide +kernel)
theorem p8 : Prm 1919519569386763 := pock2 _ 8574133 127 2 p1 p2 (by decide) (by decide +kernel) (by decide +kernel) (by decide +kernel) (by decide +kernel) (by decide +kernel) (by decide +kernel)
theorem p9 : Prm 31757755568855353 := pock2 _ 430751 4153 2 p4 p5 (by decide) (by decide +kernel) (by decide +kernel) (by decide +kernel) (by decide +kernel) (by decide +kernel) (by decide +kernel)
theorem p10 : Prm 75445702479781427272750846543864801 := pock2 _ 1919519569386763 72106336199 2 p8 p7 (by decide) (by decide +kernel) (by decide +kernel) (by decide +kernel) (by decide +kernel) (by decide +kernel) (by decide +kernel)
theorem p11 : Prm 74058212732561358302231226437062788676166966415465897661863160754340907 := pock2 _ 75445702479781427272750846543864801 31757755568855353 2 p10 p9 (by decide) (by decide +kernel) (by decide +kernel) (by decide +kernel) (by decide +kernel) (by decide +kernel) (by decide +kernel)
/-- THE PRIME OF THE FIELD. -/
theorem prm25519 : Prm (2 ^ 255 - 19) := pock1 _ 74058212732561358302231226437062788676166966415465897661863160754340907 2 p11 (by decide +kernel) (by decide +kernel) (by decide +kernel) (by decide +kernel) (by decide +kernel) (by decide +kernel)
end Go.Proofs.YtkfdclnaaphdgaaDoor
