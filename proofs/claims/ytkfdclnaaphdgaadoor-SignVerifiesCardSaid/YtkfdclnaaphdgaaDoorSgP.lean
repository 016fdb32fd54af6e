/- Layer 7: the base's order is a prime one; what a signature says. No run. -/
import Derived.Test.YtkfdclnaaphdgaaDoorSgE
import Derived.Test.YtkfdclnaaphdgaaDoorCvT
namespace Go.Proofs.YtkfdclnaaphdgaaDoor
set_option linter.unusedVariables false

theorem o1 : Prm 1224481 := prm_trial _ 1107 (by decide) (by decide) (by decide +kernel)
theorem o2 : Prm 531581 := prm_trial _ 730 (by decide) (by decide) (by decide +kernel)
theorem o3 : Prm 1257559732178653 := pock2 _ 1224481 531581 2 o1 o2 (by decide) (by decide +kernel) (by decide +kernel) (by decide +kernel) (by decide +kernel) (by decide +kernel) (by decide +kernel)
theorem o4 : Prm 4434155615661930479 := pock1 _ 1257559732178653 2 o3 (by decide) (by decide +kernel) (by decide +kernel) (by decide +kernel) (by decide +kernel) (by decide +kernel)
theorem o5 : Prm 172054593956031949258510691 := pock1 _ 4434155615661930479 2 o4 (by decide) (by decide +kernel) (by decide +kernel) (by decide +kernel) (by decide +kernel) (by decide +kernel)
theorem o6 : Prm 19757330305831588566944191468367130476339 := pock1 _ 172054593956031949258510691 2 o5 (by decide +kernel) (by decide +kernel) (by decide +kernel) (by decide +kernel) (by decide +kernel) (by decide +kernel)
theorem o7 : Prm 276602624281642239937218680557139826668747 := pock1 _ 19757330305831588566944191468367130476339 2 o6 (by decide +kernel) (by decide +kernel) (by decide +kernel) (by decide +kernel) (by decide +kernel) (by decide +kernel)
theorem orderPrm : Prm LB := pock1 _ 276602624281642239937218680557139826668747 2 o7 (by decide +kernel) (by decide +kernel) (by decide +kernel) (by decide +kernel) (by decide +kernel) (by decide +kernel)
theorem LB_pos : 0 < LB := by decide +kernel
theorem base_ne : baseP ≠ Pt.zero := fun h => by
  have h2 : bxF = 0 := congrArg Pt.x h
  exact absurd h2 (by decide +kernel)
theorem base_inv (p e j : Nat) (hp : 1 < p) (hone : j ^ e * j % p = 1) (hr : ∀ n, Pt.times n baseP = Pt.times (n % p) baseP) (h : Pt.times j baseP = Pt.zero) : False := by
  have h1 := hr (j ^ e * j)
  rw [Pt.times_mul, h, Pt.times_zero, hone, Pt.times_one] at h1
  exact base_ne h1.symm
theorem order_step (p j : Nat) (hp : Prm p) (h0 : 0 < j) (hj : j < p) : ∃ e, j ^ e * j % p = 1 := by
  have hd : ¬ p ∣ j := fun h => by have := Nat.le_of_dvd h0 h; omega
  have := hp.fermat1 hd
  obtain ⟨e, he⟩ : ∃ e, p - 1 = e + 1 := ⟨p - 2, by have := hp.1; omega⟩
  rw [he, Nat.pow_succ] at this
  exact ⟨e, this⟩
theorem base_exact (j : Nat) (hj : j < LB) (h : Pt.times j baseP = Pt.zero) : j = 0 := by
  apply Classical.byContradiction
  intro h0
  obtain ⟨e, he⟩ := order_step LB j orderPrm (Nat.pos_of_ne_zero h0) hj
  exact base_inv LB e j orderPrm.1 he base_rest h
theorem Pt.cancel {p q r : Pt} (h : p.add r = q.add r) : p = q := by
  have h2 := congrArg (fun z => z.add r.neg) h
  simp only [Pt.add_assoc, Pt.add_neg, Pt.add_zero] at h2
  exact h2
theorem base_inj_le {s t : Nat} (hst : s ≤ t) (ht : t < LB) (h : Pt.times s baseP = Pt.times t baseP) : s = t := by
  obtain ⟨d, rfl⟩ : ∃ d, t = d + s := ⟨t - s, by omega⟩
  rw [Pt.times_add] at h
  have h2 : Pt.zero = Pt.times d baseP := Pt.cancel (r := Pt.times s baseP) (by rw [Pt.zero_add]; exact h)
  have := base_exact d (by omega) h2.symm
  omega
theorem base_inj {s t : Nat} (hs : s < LB) (ht : t < LB) (h : Pt.times s baseP = Pt.times t baseP) : s = t := by
  rcases Nat.le_total s t with h1 | h1
  · exact base_inj_le h1 ht h
  · exact (base_inj_le h1 hs h.symm).symm
theorem Pt.neg_zero : Pt.zero.neg = Pt.zero := by
  have := Pt.add_neg Pt.zero
  rwa [Pt.zero_add] at this
theorem Pt.neg_add (p q : Pt) : (p.add q).neg = p.neg.add q.neg := by
  refine Pt.cancel (r := p.add q) ?_
  rw [Pt.add_comm _ (p.add q), Pt.add_neg, Pt.add_comm (p.neg.add q.neg), Pt.add_assoc p q, ← Pt.add_assoc q, Pt.add_comm q, Pt.add_assoc p.neg, Pt.add_neg, Pt.add_zero, Pt.add_neg]
theorem Pt.times_neg : ∀ (n : Nat) (p : Pt), Pt.times n p.neg = (Pt.times n p).neg
  | 0, p => Pt.neg_zero.symm
  | n + 1, p => by rw [Pt.times, Pt.times, Pt.times_neg n p, Pt.neg_add]

/-- The rest of bytes' digest, as bytes. -/
def hR (bs : List UInt8) : List UInt8 := Sc.leB 32 (Sc.leN (Dh.digest bs) % Sc.LO)
theorem hR_len (bs : List UInt8) : (hR bs).length = 32 := Sc.leB_len _ _
theorem leN_same : ∀ bs : List UInt8, Sc.leN bs = leN bs
  | [] => rfl
  | c :: t => by rw [Sc.leN, leN, leN_same t]
theorem LO_same : Sc.LO = LB := Sc.LO_eq
theorem leN_rest (n : Nat) : leN (Sc.leB 32 (n % Sc.LO)) = n % LB := by
  rw [← leN_same, Sc.leN_leB, LO_same]
  exact Nat.mod_eq_of_lt (Nat.lt_trans (Nat.mod_lt _ LB_pos) (by decide +kernel))
def secL (seed : List UInt8) : List UInt8 := secB (Dh.digest seed)
theorem secL_len (seed : List UInt8) : (secL seed).length = 32 := secB_len (Dh.digest_len seed)
def preL (seed : List UInt8) : List UInt8 := (Dh.digest seed).drop 32
theorem preL_len (seed : List UInt8) : (preL seed).length = 32 := by unfold preL; rw [List.length_drop, Dh.digest_len]
def pubL (seed : List UInt8) : List UInt8 := encL (pubP seed)
def firstL (seed msg : List UInt8) : List UInt8 := encL (Pt.times (leN (hR (preL seed ++ msg))) baseP)
def secondL (seed msg : List UInt8) : List UInt8 := Sc.leB 32 ((Sc.leN (hR (firstL seed msg ++ (pubL seed ++ msg))) * Sc.leN (secL seed) + Sc.leN (hR (preL seed ++ msg))) % Sc.LO)
/-- A signature. -/
def sigL (seed msg : List UInt8) : List UInt8 := firstL seed msg ++ secondL seed msg
theorem firstL_len (seed msg : List UInt8) : (firstL seed msg).length = 32 := enc_len _
theorem secondL_len (seed msg : List UInt8) : (secondL seed msg).length = 32 := Sc.leB_len _ _
theorem sigL_len (seed msg : List UInt8) : (sigL seed msg).length = 64 := by unfold sigL; rw [List.length_append, firstL_len, secondL_len]
/-- Is it one, by first and second half? -/
def verP (key first msg second : List UInt8) : Pt := (Pt.times (leN second) baseP).add (Pt.times (leN (hR (first ++ (key ++ msg)))) (decP key)).neg
def verB (key msg first second : List UInt8) : Bool := dOk key && (decide (leN second < LB) && (encL (verP key first msg second) == first))
theorem second_val (seed msg : List UInt8) : leN (secondL seed msg) = (leN (hR (firstL seed msg ++ (pubL seed ++ msg))) * leN (secL seed) + leN (hR (preL seed ++ msg))) % LB := by
  unfold secondL; rw [leN_rest, leN_same, leN_same, leN_same]
theorem pub_ok (seed : List UInt8) : dOk (pubL seed) = true := (dec_enc (pubP seed)).1
theorem pub_dec (seed : List UInt8) : decP (pubL seed) = pubP seed := (dec_enc (pubP seed)).2
theorem ver_point (seed msg : List UInt8) : verP (pubL seed) (firstL seed msg) msg (secondL seed msg) = Pt.times (leN (hR (preL seed ++ msg))) baseP := by
  unfold verP
  rw [second_val, ← base_rest, pub_dec]
  unfold pubP
  rw [← Pt.times_mul, Pt.add_comm, Pt.times_add, ← Pt.add_assoc]
  rw [Pt.add_comm (Pt.neg _)]
  show ((Pt.times (_ * leN (secL seed)) baseP).add (Pt.times (_ * leN (secL seed)) baseP).neg).add _ = _
  rw [Pt.add_neg, Pt.zero_add]
/-- What is signed is verified. -/
theorem ver_sig (seed msg : List UInt8) : verB (pubL seed) msg (firstL seed msg) (secondL seed msg) = true := by
  unfold verB
  rw [ver_point, pub_ok, second_val]
  rw [decide_eq_true (Nat.mod_lt _ LB_pos)]
  show (encL _ == encL _) = true
  exact beq_self_eq_true _
theorem enc_inj {p q : Pt} (h : encL p = encL q) : p = q := by rw [← (dec_enc p).2, h, (dec_enc q).2]
theorem leN_inj {a b : List UInt8} (hl : a.length = b.length) (h : leN a = leN b) : a = b := by rw [← leB_back a, ← leB_back b, hl, h]
/-- With another second half it isn't. -/
theorem ver_only (seed msg other : List UInt8) (hl : other.length = 32) (hne : other ≠ secondL seed msg) : verB (pubL seed) msg (firstL seed msg) other = false := by
  apply Bool.eq_false_iff.2
  intro h
  unfold verB at h
  rw [Bool.and_eq_true, Bool.and_eq_true, decide_eq_true_eq, beq_iff_eq] at h
  obtain ⟨_, hlt, he⟩ := h
  have e2 : encL (verP (pubL seed) (firstL seed msg) msg (secondL seed msg)) = firstL seed msg := by rw [ver_point]; rfl
  have e3 := enc_inj (he.trans e2.symm)
  unfold verP at e3
  have e4 := base_inj hlt (by rw [second_val]; exact Nat.mod_lt _ LB_pos) (Pt.cancel e3)
  exact hne (leN_inj (by rw [hl, secondL_len]) e4)
theorem good_second (seed msg : List UInt8) : Sc.leN (secondL seed msg) < Sc.LO := by rw [leN_same, second_val, LO_same]; exact Nat.mod_lt _ LB_pos

/-! A key that the document tells. -/
def seedK : List UInt8 := [157, 97, 177, 157, 239, 253, 90, 96, 186, 132, 74, 244, 146, 236, 44, 196, 68, 73, 197, 105, 123, 50, 105, 25, 112, 59, 172, 3, 28, 174, 127, 96]
def secN : Nat := 36144925721603087658594284515452164870581325872720374094707712194495455132720
theorem sec_known : leN (secL seedK) = secN := by decide +kernel
def kxN : Nat := 38815646466658113194383306759739515082307681141926459231621296960732224964046
def kyN : Nat := 11903303657706407974989296177215005343713679411332034699907763981919547054807
def isK (X Y Z _T : Nat) : Bool := Nat.beq (X % P) (mulm kxN Z) && Nat.beq (Y % P) (mulm kyN Z)
def keyP : Pt := ⟨fo kxN, fo kyN, by unfold OnC; decide +kernel⟩
theorem key_known : pubP seedK = keyP := by
  have h0 : Rep (fo 0) (fo 1) (fo 1) (fo 0) (Pt.times 0 baseP) := by
    have := Rep.aff (p := Pt.zero) (x := 0) (y := 1) rfl rfl
    rw [Fin.mul_one] at this
    exact this
  have hl : ladN secN isK 255 0 1 1 0 = true := by decide +kernel
  obtain ⟨X, Y, Z, T, hr, hf⟩ := ladN_spec secN isK 255 0 1 1 0 0 h0 hl
  rw [Nat.zero_mul, Nat.zero_add, show secN % 2 ^ 255 = secN by decide +kernel] at hr
  unfold isK at hf
  rw [Bool.and_eq_true] at hf
  have hx : fo X = fo kxN * fo Z := by rw [← fo_mul]; exact F.ext (by rw [fo_val, fo_val, Nat.eq_of_beq_eq_true hf.1]; unfold mulm; rw [Nat.mod_mod])
  have hy : fo Y = fo kyN * fo Z := by rw [← fo_mul]; exact F.ext (by rw [fo_val, fo_val, Nat.eq_of_beq_eq_true hf.2]; unfold mulm; rw [Nat.mod_mod])
  have hk : Rep (fo kxN) (fo kyN) 1 (fo kxN * fo kyN) keyP := Rep.aff rfl rfl
  unfold pubP
  rw [show secB (Dh.digest seedK) = secL seedK from rfl, sec_known]
  refine (hr.same hk).1 ⟨?_, ?_⟩
  · rw [hx, Fin.mul_one]
  · rw [hy, Fin.mul_one]
def keyL : List UInt8 := [215, 90, 152, 1, 130, 177, 10, 183, 213, 75, 254, 211, 201, 100, 7, 58, 14, 225, 114, 243, 218, 166, 35, 37, 175, 2, 26, 104, 247, 7, 81, 26]
theorem key_bytes : pubL seedK = keyL := by
  unfold pubL; rw [key_known]; decide +kernel
end Go.Proofs.YtkfdclnaaphdgaaDoor
