/- Texts put together: JpR Js5. -/
import Derived.Test.YtajkgcmopmpihaaGreatDoorZb5b127d0ca
import Derived.Test.YtajkgcmopmpihaaGreatDoorZea687e75f4
import Derived.Test.YtajkgcmopmpihaaGreatDoorZ41d893b75e
import Derived.Test.YtajkgcmopmpihaaGreatDoorZ6baba35cbf
import Derived.Test.YtajkgcmopmpihaaGreatDoorZ4f27c027be
namespace Go.Proofs.YtajkgcmopmpihaaGreatDoor
open Go.Lib
set_option linter.unusedVariables false

/-- A forest, of a list without keys. -/
def nrmT : Bool → JT → JT
  | _, .nil => .nil
  | mem, .cons k kd is n s l m r => .cons (if mem then k else []) kd is n s (nrmT false l) (nrmT true m) (nrmT mem r)
def nrmV (v : Jv) : Jv := ⟨v.kd, v.is, v.n, v.s, nrmT false v.l, nrmT true v.m⟩
def appT : JT → JT → JT
  | acc, .nil => acc
  | acc, .cons k kd is n s l m r => appT (acc.snoc k ⟨kd, is, n, s, l, m⟩) r
theorem snoc_app : ∀ (a b : JT) (k : List UInt8) (v : Jv), appT (a.snoc k v) b = appT a (.one k v b)
  | a, b, k, v => by obtain ⟨_, _, _, _, _, _⟩ := v; rfl
theorem app_cons : ∀ (a : JT) (k : List UInt8) (kd : Int) (is : Bool) (n : Int) (s : List UInt8) (l m r b : JT), appT (.cons k kd is n s l m a) b = .cons k kd is n s l m (appT a b)
  | a, k, kd, is, n, s, l, m, r, .nil => rfl
  | a, k, kd, is, n, s, l, m, r, .cons k2 kd2 is2 n2 s2 l2 m2 r2 => by
    simp only [appT]
    exact app_cons _ k kd is n s l m r r2
theorem app_nilR : ∀ t : JT, appT .nil t = t
  | .nil => rfl
  | .cons k kd is n s l m r => by
    show appT (.cons k kd is n s l m .nil) r = _
    rw [app_cons _ k kd is n s l m .nil r, app_nilR r]
def keysT : JT → List (List UInt8)
  | .nil => []
  | .cons k _ _ _ _ _ _ r => k :: keysT r
theorem keys_snoc : ∀ (t : JT) (k : List UInt8) (v : Jv), keysT (t.snoc k v) = keysT t ++ [k]
  | .nil, k, v => by obtain ⟨_, _, _, _, _, _⟩ := v; rfl
  | .cons k0 kd is n s l m r, k, v => by simp only [JT.snoc, keysT, keys_snoc r k v, List.cons_append]
theorem ins_up : ∀ (t : JT) (k : List UInt8) (v : Jv), (∀ x ∈ keysT t, Op.bytesLess x k = true) → t.ins k v = t.snoc k v
  | .nil, k, v, _ => rfl
  | .cons k0 kd is n s l m r, k, v, h => by
    simp only [JT.ins, JT.snoc]
    rw [if_pos (h k0 (by simp [keysT])), ins_up r k v (fun x hx => h x (by simp [keysT, hx]))]
theorem less_irr : ∀ a : List UInt8, Op.bytesLess a a = false
  | [] => rfl
  | c :: a => by simp [Op.bytesLess, less_irr a]
theorem less_trans : ∀ {a b c : List UInt8}, Op.bytesLess a b = true → Op.bytesLess b c = true → Op.bytesLess a c = true
  | _, [], _, h, _ => by cases ‹List UInt8› <;> simp [Op.bytesLess] at h
  | [], y :: b, [], _, h2 => by simp [Op.bytesLess] at h2
  | [], y :: b, z :: c, _, _ => by simp [Op.bytesLess]
  | x :: a, y :: b, [], _, h2 => by simp [Op.bytesLess] at h2
  | x :: a, y :: b, z :: c, h1, h2 => by
    simp only [Op.bytesLess, Bool.or_eq_true, Bool.and_eq_true, decide_eq_true_eq, beq_iff_eq] at *
    rcases h1 with h1 | ⟨rfl, h1⟩
    · rcases h2 with h2 | ⟨rfl, h2⟩
      · exact .inl (UInt8.lt_trans h1 h2)
      · exact .inl h1
    · rcases h2 with h2 | ⟨rfl, h2⟩
      · exact .inl h2
      · exact .inr ⟨rfl, less_trans h1 h2⟩
theorem less_tot : ∀ a b : List UInt8, Op.bytesLess a b = true ∨ a = b ∨ Op.bytesLess b a = true
  | [], [] => .inr (.inl rfl)
  | [], _ :: _ => .inl rfl
  | _ :: _, [] => .inr (.inr rfl)
  | x :: a, y :: b => by
    simp only [Op.bytesLess, Bool.or_eq_true, Bool.and_eq_true, decide_eq_true_eq, beq_iff_eq, List.cons.injEq]
    rcases Nat.lt_trichotomy x.toNat y.toNat with h | h | h
    · exact .inl (.inl h)
    · have : x = y := UInt8.toNat_inj.1 h
      subst this
      rcases less_tot a b with h | h | h
      · exact .inl (.inr ⟨rfl, h⟩)
      · exact .inr (.inl ⟨rfl, h⟩)
      · exact .inr (.inr (.inr ⟨rfl, h⟩))
    · exact .inr (.inr (.inl h))
theorem hasK_up : ∀ (t : JT) (k : List UInt8), (∀ x ∈ keysT t, Op.bytesLess x k = true) → t.hasK k = false
  | .nil, k, _ => rfl
  | .cons k0 kd is n s l m r, k, h => by
    simp only [JT.hasK, Bool.or_eq_false_iff]
    refine ⟨?_, hasK_up r k (fun x hx => h x (by simp [keysT, hx]))⟩
    have := h k0 (by simp [keysT])
    rw [beq_eq_false_iff_ne]
    intro e
    subst e
    rw [less_irr] at this; cases this
/-- No number goes on here. -/
def stopB (rest : List UInt8) : Prop := ∀ c, rest.head? = some c → numB c = false
theorem rlng_ok {b b' : List UInt8} (h : lng b = .ok b') : b' = b := by
  unfold lng at h
  split at h
  · injection h with h; exact h.symm
  · cases h
theorem rtxt_ok {b s b' : List UInt8} (h : txt b s = .ok b') : b' = b ++ (34 :: (escL s ++ [34])) ∧ validD s = true := by
  unfold txt at h
  split at h
  · cases h
  · split at h
    · rename_i hv
      refine ⟨?_, hv⟩
      rw [rlng_ok h]; unfold putF; rw [if_pos hv]; rfl
    · cases h
theorem rthen_ok {r : Res} {f : List UInt8 → Res} {b : List UInt8} (h : r.then f = .ok b) : ∃ c, r = .ok c ∧ f c = .ok b := by
  cases r with
  | error e => cases h
  | ok c => exact ⟨c, rfl, h⟩
def headR (t : List UInt8) : Prop := ∃ c q, t = c :: q ∧ blankB c = false ∧ c ≠ 93
/-- A value's text is read as it. -/
def ReadV (v : Jv) : Prop := ∀ (deep : Nat) (b b' : List UInt8), wrV v deep b = .ok b' → ∃ t, b' = b ++ t ∧ headR t ∧ ∀ rest, stopB rest → pV deep (t ++ rest) = .ok (nrmV v, rest)
/-- So is a row's. -/
def ReadL (t : JT) : Prop := (∀ (deep : Nat) (p b b' : List UInt8) (acc : JT) , wrF false t deep (some p) b = .ok b' → ∃ tt, b' = b ++ tt ∧ (tt = [] ∨ ∃ q, tt = 44 :: q) ∧ ∀ rest, pLn acc deep (tt ++ 93 :: rest) = .ok (lstV (appT acc (nrmT false t)), rest)) ∧
  (∀ (deep : Nat) (b b' : List UInt8), t.isNil = false → wrF false t deep none b = .ok b' → ∃ tt, b' = b ++ tt ∧ headR tt ∧ ∀ rest, pL .nil deep (tt ++ 93 :: rest) = .ok (lstV (nrmT false t), rest))
def ReadM (t : JT) : Prop := (∀ (deep : Nat) (p b b' : List UInt8) (acc : JT), (∀ x ∈ keysT acc, leqB x p = true) → wrF true t deep (some p) b = .ok b' → ∃ tt, b' = b ++ tt ∧ (tt = [] ∨ ∃ q, tt = 44 :: q) ∧ ∀ rest, pTn acc deep (tt ++ 125 :: rest) = .ok (mapV (appT acc (nrmT true t)), rest)) ∧
  (∀ (deep : Nat) (b b' : List UInt8), t.isNil = false → wrF true t deep none b = .ok b' → ∃ tt, b' = b ++ tt ∧ (∃ q, tt = 34 :: q) ∧ ∀ rest, pT .nil deep (tt ++ 125 :: rest) = .ok (mapV (nrmT true t), rest))
theorem skip_no {c : UInt8} {q : List UInt8} (h : blankB c = false) : skipB (c :: q) = c :: q := by unfold skipB; rw [List.dropWhile_cons, h]; rfl
theorem then_ok2 {v : Jv} {q : List UInt8} {f : Jv → List UInt8 → PRes} : PRes.then (.ok (v, q)) f = f v q := rfl
theorem row_stop (tt rest : List UInt8) (c : UInt8) (h : tt = [] ∨ ∃ q, tt = 44 :: q) (hc : numB c = false) : stopB (tt ++ c :: rest) := by
  intro d hd
  rcases h with rfl | ⟨q, rfl⟩
  · injection hd with hd; rw [← hd]; exact hc
  · injection hd with hd; rw [← hd]; rfl
theorem isNil_eq {t : JT} (h : t.isNil = true) : t = .nil := by cases t with | nil => rfl | cons _ _ _ _ _ _ _ _ => cases h
theorem pC_null (deep : Nat) (rest : List UInt8) : pC deep 110 ([117, 108, 108] ++ rest) = .ok (nullJ, rest) := by
  unfold pC
  rw [if_neg (by decide), if_neg (by decide), if_neg (by decide), if_neg (by decide), if_pos ⟨rest, rfl⟩]; rfl
theorem pC_true (deep : Nat) (rest : List UInt8) : pC deep 116 ([114, 117, 101] ++ rest) = .ok (⟨1, true, 0, [], .nil, .nil⟩, rest) := by
  unfold pC
  rw [if_neg (by decide), if_neg (by decide), if_neg (by decide), if_neg (by decide), if_neg (by simp [List.cons_prefix_cons]), if_pos ⟨rest, rfl⟩]; rfl
theorem pC_false (deep : Nat) (rest : List UInt8) : pC deep 102 ([97, 108, 115, 101] ++ rest) = .ok (⟨1, false, 0, [], .nil, .nil⟩, rest) := by
  unfold pC
  rw [if_neg (by decide), if_neg (by decide), if_neg (by decide), if_neg (by decide), if_neg (by simp [List.cons_prefix_cons]), if_neg (by simp [List.cons_prefix_cons]), if_pos ⟨rest, rfl⟩]; rfl
theorem pC_num (deep : Nat) (c : UInt8) (q : List UInt8) (h : c = 45 ∨ digB c = true) : pC deep c q = numP (c :: q) ∧ blankB c = false ∧ c ≠ 93 := by
  have hc : c.toNat = 45 ∨ (48 ≤ c.toNat ∧ c.toNat ≤ 57) := by
    rcases h with rfl | h
    · exact .inl rfl
    · exact .inr ((digB_iff c).1 h)
  have hne : ∀ d : UInt8, d.toNat ≠ 45 → (d.toNat < 48 ∨ 57 < d.toNat) → c ≠ d := fun d h1 h2 e => by subst e; omega
  refine ⟨?_, ?_, hne 93 (by decide) (by decide)⟩
  · unfold pC
    rw [if_neg (hne 91 (by decide) (by decide)), if_neg (hne 123 (by decide) (by decide)), if_neg (hne 34 (by decide) (by decide)), if_pos h]
  · unfold blankB
    simp only [Bool.or_eq_false_iff, beq_eq_false_iff_ne]
    exact ⟨⟨⟨hne 32 (by decide) (by decide), hne 9 (by decide) (by decide)⟩, hne 10 (by decide) (by decide)⟩, hne 13 (by decide) (by decide)⟩
theorem pC_txt (deep : Nat) (s rest : List UInt8) (hv : validD s = true) : pC deep 34 (escL s ++ 34 :: rest) = .ok (⟨3, false, 0, s, .nil, .nil⟩, rest) := by
  unfold pC
  rw [if_neg (by decide), if_neg (by decide), if_pos rfl, scan_put s hv rest]
  dsimp only
  rw [← List.drop_drop, List.drop_left]; rfl
theorem readV_of {v : Jv} (hl : ReadL v.l) (hm : ReadM v.m) : ReadV v := by
  intro deep b b' h
  obtain ⟨kd, is, n, s, l, m⟩ := v
  unfold wrV wrB at h
  dsimp only at hl hm h
  split at h
  · cases h
  · rename_i hb
    have hb : (⟨kd, is, n, s, l, m⟩ : Jv).bare = true := by simpa using hb
    simp only [Jv.bare, Bool.and_eq_true, Bool.or_eq_true, beq_iff_eq, Bool.not_eq_true', List.isEmpty_iff, decide_eq_true_eq] at hb
    obtain ⟨⟨⟨⟨⟨⟨⟨⟨b1, b2⟩, b3⟩, b4⟩, b5⟩, b6⟩, b7⟩, b8⟩, b9⟩ := hb
    split at h
    · rename_i hk
      subst hk
      have e1 : is = false := b1.resolve_left (by decide)
      have e2 : n = 0 := b2.resolve_left (by decide)
      have e3 : s = [] := b3.resolve_left (by decide)
      have e4 := isNil_eq (b4.resolve_left (by decide))
      have e5 := isNil_eq (b5.resolve_left (by decide))
      subst e1 e2 e3 e4 e5
      refine ⟨_, rlng_ok h, ⟨110, [117, 108, 108], rfl, by decide, by decide⟩, fun rest _ => ?_⟩
      rw [pV_eq, show ([110, 117, 108, 108] : List UInt8) ++ rest = 110 :: ([117, 108, 108] ++ rest) from rfl, skip_no (by decide)]
      exact pC_null deep rest
    · split at h
      · rename_i hk
        subst hk
        have e2 : n = 0 := b2.resolve_left (by decide)
        have e3 : s = [] := b3.resolve_left (by decide)
        have e4 := isNil_eq (b4.resolve_left (by decide))
        have e5 := isNil_eq (b5.resolve_left (by decide))
        subst e2 e3 e4 e5
        cases is with
        | true =>
          refine ⟨_, rlng_ok h, ⟨116, [114, 117, 101], rfl, by decide, by decide⟩, fun rest _ => ?_⟩
          rw [pV_eq, show (if (true : Bool) = true then ([116, 114, 117, 101] : List UInt8) else [102, 97, 108, 115, 101]) ++ rest = 116 :: ([114, 117, 101] ++ rest) from rfl, skip_no (by decide)]
          exact pC_true deep rest
        | false =>
          refine ⟨_, rlng_ok h, ⟨102, [97, 108, 115, 101], rfl, by decide, by decide⟩, fun rest _ => ?_⟩
          rw [pV_eq, show (if (false : Bool) = true then ([116, 114, 117, 101] : List UInt8) else [102, 97, 108, 115, 101]) ++ rest = 102 :: ([97, 108, 115, 101] ++ rest) from rfl, skip_no (by decide)]
          exact pC_false deep rest
      · split at h
        · rename_i hk
          subst hk
          have e1 : is = false := b1.resolve_left (by decide)
          have e3 : s = [] := b3.resolve_left (by decide)
          have e4 := isNil_eq (b4.resolve_left (by decide))
          have e5 := isNil_eq (b5.resolve_left (by decide))
          subst e1 e3 e4 e5
          obtain ⟨_, c, q, hcq, hc⟩ := numP_itoa n b8 b9 [] (fun c h => by cases h)
          refine ⟨_, rlng_ok h, ⟨c, q, hcq, (pC_num deep c q hc).2⟩, fun rest hr => ?_⟩
          have h1 := (numP_itoa n b8 b9 rest hr).1
          rw [hcq] at h1 ⊢
          rw [pV_eq, List.cons_append, skip_no (pC_num deep c q hc).2.1]
          dsimp only
          rw [(pC_num deep c (q ++ rest) hc).1]
          exact h1
        · split at h
          · rename_i hk
            subst hk
            have e1 : is = false := b1.resolve_left (by decide)
            have e2 : n = 0 := b2.resolve_left (by decide)
            have e4 := isNil_eq (b4.resolve_left (by decide))
            have e5 := isNil_eq (b5.resolve_left (by decide))
            subst e1 e2 e4 e5
            obtain ⟨h1, hv⟩ := rtxt_ok h
            refine ⟨_, h1, ⟨34, _, rfl, by decide, by decide⟩, fun rest _ => ?_⟩
            rw [pV_eq, List.cons_append, skip_no (by decide)]
            dsimp only
            rw [List.append_assoc]
            exact pC_txt deep s rest hv
          · split at h
            · cases h
            · rename_i hdeep
              have hd : ¬ deep = 32 := by omega
              split at h
              · rename_i hk
                subst hk
                have e1 : is = false := b1.resolve_left (by decide)
                have e2 : n = 0 := b2.resolve_left (by decide)
                have e3 : s = [] := b3.resolve_left (by decide)
                have e5 := isNil_eq (b5.resolve_left (by decide))
                subst e1 e2 e3 e5
                obtain ⟨c1, h1, h⟩ := rthen_ok h
                obtain ⟨c2, h2, h⟩ := rthen_ok h
                have h1 := rlng_ok h1
                have hend := rlng_ok h
                subst h1
                cases hl0 : l.isNil with
                | true =>
                  have := isNil_eq hl0
                  subst this
                  injection h2 with h2
                  subst h2
                  refine ⟨[91, 93], by rw [hend, List.append_assoc]; rfl, ⟨91, [93], rfl, by decide, by decide⟩, fun rest _ => ?_⟩
                  rw [pV_eq, show ([91, 93] : List UInt8) ++ rest = 91 :: 93 :: rest from rfl, skip_no (by decide)]
                  dsimp only
                  unfold pC
                  rw [if_pos rfl, if_neg hd, skip_no (by decide)]
                  rfl
                | false =>
                  obtain ⟨tt, h3, ⟨d, q, hdq, hbl, h93⟩, hr⟩ := hl.2 (deep + 1) _ _ hl0 h2
                  refine ⟨91 :: (tt ++ [93]), by rw [hend, h3]; simp, ⟨91, _, rfl, by decide, by decide⟩, fun rest _ => ?_⟩
                  rw [pV_eq, List.cons_append, skip_no (by decide)]
                  dsimp only
                  unfold pC
                  have h4 := hr rest
                  rw [if_pos rfl, if_neg hd, List.append_assoc]
                  show (match skipB (tt ++ 93 :: rest) with | [] => pL .nil (deep + 1) (tt ++ 93 :: rest) | d :: q2 => if d = 93 then .ok (lstV .nil, q2) else pL .nil (deep + 1) (tt ++ 93 :: rest)) = _
                  rw [h4, hdq, List.cons_append, skip_no hbl]
                  dsimp only
                  rw [if_neg h93]
                  rfl
              · rename_i hk0 hk1 hk2 hk3 hk4
                have hk : kd = 5 := by omega
                subst hk
                have e1 : is = false := b1.resolve_left (by decide)
                have e2 : n = 0 := b2.resolve_left (by decide)
                have e3 : s = [] := b3.resolve_left (by decide)
                have e4 := isNil_eq (b4.resolve_left (by decide))
                subst e1 e2 e3 e4
                obtain ⟨c1, h1, h⟩ := rthen_ok h
                obtain ⟨c2, h2, h⟩ := rthen_ok h
                have h1 := rlng_ok h1
                have hend := rlng_ok h
                subst h1
                cases hl0 : m.isNil with
                | true =>
                  have := isNil_eq hl0
                  subst this
                  injection h2 with h2
                  subst h2
                  refine ⟨[123, 125], by rw [hend, List.append_assoc]; rfl, ⟨123, [125], rfl, by decide, by decide⟩, fun rest _ => ?_⟩
                  rw [pV_eq, show ([123, 125] : List UInt8) ++ rest = 123 :: 125 :: rest from rfl, skip_no (by decide)]
                  dsimp only
                  unfold pC
                  rw [if_neg (by decide), if_pos rfl, if_neg hd, skip_no (by decide)]
                  rfl
                | false =>
                  obtain ⟨tt, h3, ⟨q, hdq⟩, hr⟩ := hm.2 (deep + 1) _ _ hl0 h2
                  refine ⟨123 :: (tt ++ [125]), by rw [hend, h3]; simp, ⟨123, _, rfl, by decide, by decide⟩, fun rest _ => ?_⟩
                  rw [pV_eq, List.cons_append, skip_no (by decide)]
                  dsimp only
                  unfold pC
                  have h4 := hr rest
                  rw [if_neg (by decide), if_pos rfl, if_neg hd, List.append_assoc]
                  show (match skipB (tt ++ 125 :: rest) with | [] => pT .nil (deep + 1) (tt ++ 125 :: rest) | d :: q2 => if d = 125 then .ok (mapV .nil, q2) else pT .nil (deep + 1) (tt ++ 125 :: rest)) = _
                  rw [h4, hdq, List.cons_append, skip_no (by decide)]
                  dsimp only
                  rw [if_neg (by decide)]
                  rfl
theorem readL_nil : ReadL .nil := by
  refine ⟨fun deep p b b' acc h => ?_, fun deep b b' h => by cases h⟩
  injection h with h
  subst h
  refine ⟨[], by simp, .inl rfl, fun rest => ?_⟩
  unfold pLn
  rw [List.nil_append, skip_no (by decide)]
  rfl
theorem readL_cons {k : List UInt8} {kd : Int} {is : Bool} {n : Int} {s : List UInt8} {l m r : JT} (hv : ReadV ⟨kd, is, n, s, l, m⟩) (hr : ReadL r) : ReadL (.cons k kd is n s l m r) := by
  have key : ∀ (deep : Nat) (c1 b' : List UInt8) (acc : JT), ((wrV ⟨kd, is, n, s, l, m⟩ deep c1).then fun b => wrF false r deep (some k) b) = .ok b' → ∃ tt, b' = c1 ++ tt ∧ headR tt ∧ ∀ rest, pL acc deep (tt ++ 93 :: rest) = .ok (lstV (appT acc (nrmT false (.cons k kd is n s l m r))), rest) := by
    intro deep c1 b' acc h
    obtain ⟨c2, h2, h3⟩ := rthen_ok h
    obtain ⟨tx, e2, ⟨d, q, hd⟩, hx⟩ := hv deep _ _ h2
    obtain ⟨tr, e3, hs, hy⟩ := hr.1 deep k c2 b' (acc.snoc [] (nrmV ⟨kd, is, n, s, l, m⟩)) h3
    refine ⟨tx ++ tr, by rw [e3, e2, List.append_assoc], ⟨d, q ++ tr, by rw [hd.1, List.cons_append], hd.2⟩, fun rest => ?_⟩
    rw [List.append_assoc, pL_eq, hx (tr ++ 93 :: rest) (row_stop tr rest 93 hs (by decide)), then_ok2, hy rest]
    rfl
  refine ⟨fun deep p b b' acc h => ?_, fun deep b b' _ h => ?_⟩
  · obtain ⟨c1, h1, h2⟩ := rthen_ok (show ((wrK false (some p) k b).then fun b => (wrV ⟨kd, is, n, s, l, m⟩ deep b).then fun b => wrF false r deep (some k) b) = .ok b' from h)
    simp only [wrK, Bool.false_and, Bool.false_eq_true, if_false] at h1
    obtain ⟨c0, h0, h1⟩ := rthen_ok h1
    obtain ⟨c00, h00, h0⟩ := rthen_ok h0
    injection h1 with h1
    injection h0 with h0
    subst h0 h1
    have h00 := rlng_ok h00
    obtain ⟨tt, e, _, hy⟩ := key deep _ b' acc h2
    refine ⟨44 :: tt, by rw [e, h00]; simp, .inr ⟨tt, rfl⟩, fun rest => ?_⟩
    unfold pLn
    rw [List.cons_append, skip_no (by decide)]
    dsimp only
    rw [if_neg (by decide), if_pos rfl]
    exact hy rest
  · obtain ⟨c1, h1, h2⟩ := rthen_ok (show ((wrK false none k b).then fun b => (wrV ⟨kd, is, n, s, l, m⟩ deep b).then fun b => wrF false r deep (some k) b) = .ok b' from h)
    simp only [wrK, Res.then, Bool.false_eq_true, if_false] at h1
    injection h1 with h1
    subst h1
    obtain ⟨tt, e, hd, hy⟩ := key deep _ b' .nil h2
    exact ⟨tt, e, hd, fun rest => by rw [hy rest, app_nilR]⟩
theorem readM_nil : ReadM .nil := by
  refine ⟨fun deep p b b' acc _ h => ?_, fun deep b b' h => by cases h⟩
  injection h with h
  subst h
  refine ⟨[], by simp, .inl rfl, fun rest => ?_⟩
  unfold pTn
  rw [List.nil_append, skip_no (by decide)]
  rfl
theorem readM_cons {k : List UInt8} {kd : Int} {is : Bool} {n : Int} {s : List UInt8} {l m r : JT} (hv : ReadV ⟨kd, is, n, s, l, m⟩) (hr : ReadM r) : ReadM (.cons k kd is n s l m r) := by
  have key : ∀ (deep : Nat) (c1 b' : List UInt8) (acc : JT), (∀ x ∈ keysT acc, Op.bytesLess x k = true) → (((txt c1 k).then fun b => lng (b ++ [58])).then fun b => (wrV ⟨kd, is, n, s, l, m⟩ deep b).then fun b => wrF true r deep (some k) b) = .ok b' →
      ∃ tt, b' = c1 ++ tt ∧ (∃ q, tt = 34 :: q) ∧ ∀ rest, pT acc deep (tt ++ 125 :: rest) = .ok (mapV (appT acc (nrmT true (.cons k kd is n s l m r))), rest) := by
    intro deep c1 b' acc hup h
    obtain ⟨c2, h2, h⟩ := rthen_ok h
    obtain ⟨c3, h3, h2⟩ := rthen_ok h2
    obtain ⟨c4, h4, h⟩ := rthen_ok h
    obtain ⟨e3, hvk⟩ := rtxt_ok h3
    have e2 := rlng_ok h2
    obtain ⟨tx, e4, _, hx⟩ := hv deep _ _ h4
    obtain ⟨tr, e5, hs, hy⟩ := hr.1 deep k c4 b' (acc.snoc k (nrmV ⟨kd, is, n, s, l, m⟩)) (fun x hx => by
      rw [keys_snoc, List.mem_append] at hx
      unfold leqB
      rcases hx with hx | hx
      · rw [hup x hx]; rfl
      · rw [List.mem_singleton.1 hx]; simp) h
    refine ⟨34 :: (escL k ++ 34 :: 58 :: (tx ++ tr)), by rw [e5, e4, e2, e3]; simp, ⟨_, rfl⟩, fun rest => ?_⟩
    rw [pT_eq, List.cons_append, skip_no (by decide)]
    dsimp only
    rw [if_pos rfl]
    unfold pK
    rw [show (escL k ++ 34 :: 58 :: (tx ++ tr)) ++ 125 :: rest = escL k ++ 34 :: (58 :: (tx ++ (tr ++ 125 :: rest))) by simp, scan_put k hvk]
    dsimp only
    rw [hasK_up acc k hup, ← List.drop_drop, List.drop_left]
    simp only [Bool.false_eq_true, if_false, List.drop_succ_cons, List.drop_zero]
    rw [skip_no (by decide)]
    dsimp only
    rw [if_pos rfl, hx (tr ++ 125 :: rest) (row_stop tr rest 125 hs (by decide)), then_ok2, ins_up acc k _ hup, hy rest]
    rfl
  refine ⟨fun deep p b b' acc hp h => ?_, fun deep b b' _ h => ?_⟩
  · obtain ⟨c1, h1, h2⟩ := rthen_ok (show ((wrK true (some p) k b).then fun b => (wrV ⟨kd, is, n, s, l, m⟩ deep b).then fun b => wrF true r deep (some k) b) = .ok b' from h)
    simp only [wrK, Bool.true_and, if_true] at h1
    obtain ⟨c0, h0, h1⟩ := rthen_ok h1
    obtain ⟨c00, h00, h0⟩ := rthen_ok h0
    have h00 := rlng_ok h00
    split at h0
    · cases h0
    · rename_i hkp
      injection h0 with h0
      subst h0
      have hpk : Op.bytesLess p k = true := by
        have hkp : leqB k p = false := by simpa using hkp
        unfold leqB at hkp
        simp only [Bool.or_eq_false_iff, beq_eq_false_iff_ne] at hkp
        rcases less_tot p k with h | h | h
        · exact h
        · exact absurd h.symm hkp.2
        · rw [hkp.1] at h; cases h
      obtain ⟨tt, e, ⟨q, hq⟩, hy⟩ := key deep c00 b' acc (fun x hx => by
        have := hp x hx
        unfold leqB at this
        simp only [Bool.or_eq_true, beq_iff_eq] at this
        rcases this with h | h
        · exact less_trans h hpk
        · rw [h]; exact hpk) (by rw [h1]; exact h2)
      refine ⟨44 :: tt, by rw [e, h00]; simp, .inr ⟨tt, rfl⟩, fun rest => ?_⟩
      unfold pTn
      rw [List.cons_append, skip_no (by decide)]
      dsimp only
      rw [if_neg (by decide), if_pos rfl]
      exact hy rest
  · obtain ⟨c1, h1, h2⟩ := rthen_ok (show ((wrK true none k b).then fun b => (wrV ⟨kd, is, n, s, l, m⟩ deep b).then fun b => wrF true r deep (some k) b) = .ok b' from h)
    have h1 : ((txt b k).then fun b => lng (b ++ [58])) = .ok c1 := h1
    obtain ⟨tt, e, hd, hy⟩ := key deep b b' .nil (fun x hx => by cases hx) (by rw [h1]; exact h2)
    exact ⟨tt, e, hd, fun rest => by rw [hy rest, app_nilR]⟩
theorem read_all : ∀ t : JT, ReadL t ∧ ReadM t
  | .nil => ⟨readL_nil, readM_nil⟩
  | .cons k kd is n s l m r => by
    have hv : ReadV ⟨kd, is, n, s, l, m⟩ := readV_of (read_all l).1 (read_all m).2
    exact ⟨readL_cons hv (read_all r).1, readM_cons hv (read_all r).2⟩
/-- What has a canonical text is read from it. -/
theorem read_back (v : Jv) : ReadV v := readV_of (read_all v.l).1 (read_all v.m).2
theorem lng_ne0 (b : List UInt8) : lng b ≠ .error 0 := by
  unfold lng
  split
  · intro h; cases h
  · intro h; injection h with h; exact absurd h (by decide)
theorem txt_ne0 (b s : List UInt8) : txt b s ≠ .error 0 := by
  unfold txt
  split
  · intro h; injection h with h; exact absurd h (by decide)
  · split
    · exact lng_ne0 _
    · intro h; injection h with h; exact absurd h (by decide)
theorem then_ne0 {r : Res} {f : List UInt8 → Res} (h1 : r ≠ .error 0) (h2 : ∀ b, f b ≠ .error 0) : r.then f ≠ .error 0 := by
  cases r with
  | ok b => exact h2 b
  | error e => exact h1
theorem wrB_ne0 (v : Jv) (deep : Nat) (wl wm : List UInt8 → Res) (b : List UInt8) (h1 : ∀ b, wl b ≠ .error 0) (h2 : ∀ b, wm b ≠ .error 0) : wrB v deep wl wm b ≠ .error 0 := by
  have he : ∀ (c : Int), c ≠ 0 → (Except.error c : Res) ≠ .error 0 := fun c hc h => by injection h with h; exact hc h
  unfold wrB
  split
  · exact he 1 (by decide)
  · split
    · exact lng_ne0 _
    · split
      · exact lng_ne0 _
      · split
        · exact lng_ne0 _
        · split
          · exact txt_ne0 _ _
          · split
            · exact he 5 (by decide)
            · split
              · exact then_ne0 (lng_ne0 _) (fun b => then_ne0 (h1 b) (fun b => lng_ne0 _))
              · exact then_ne0 (lng_ne0 _) (fun b => then_ne0 (h2 b) (fun b => lng_ne0 _))
theorem wrK_ne0 (mem : Bool) (prev : Option (List UInt8)) (k b : List UInt8) : wrK mem prev k b ≠ .error 0 := by
  unfold wrK
  refine then_ne0 ?_ (fun b => ?_)
  · split
    · intro h; cases h
    · refine then_ne0 (lng_ne0 _) (fun b => ?_)
      split
      · intro h; injection h with h; exact absurd h (by decide)
      · intro h; cases h
  · split
    · exact then_ne0 (txt_ne0 _ _) (fun b => lng_ne0 _)
    · intro h; cases h
theorem wrF_ne0 : ∀ (t : JT) (mem : Bool) (deep : Nat) (prev : Option (List UInt8)) (b : List UInt8), wrF mem t deep prev b ≠ .error 0
  | .nil, _, _, _, _ => fun h => by cases h
  | .cons k kd is n s l m r, mem, deep, prev, b => by
    unfold wrF
    exact then_ne0 (wrK_ne0 _ _ _ _) (fun b => then_ne0 (wrB_ne0 _ _ _ _ _ (fun b => wrF_ne0 l _ _ _ b) (fun b => wrF_ne0 m _ _ _ b)) (fun b => wrF_ne0 r _ _ _ b))
theorem wrV_ne0 (v : Jv) (deep : Nat) (b : List UInt8) : wrV v deep b ≠ .error 0 := wrB_ne0 _ _ _ _ _ (fun b => wrF_ne0 _ _ _ _ b) (fun b => wrF_ne0 _ _ _ _ b)
theorem lng_le {b b' : List UInt8} (h : lng b = .ok b') : b'.length ≤ 65536 := by
  unfold lng at h
  split at h
  · injection h with h; rw [← h]; assumption
  · cases h
theorem txt_le {b s b' : List UInt8} (h : txt b s = .ok b') : b'.length ≤ 65536 := by
  unfold txt at h
  split at h
  · cases h
  · split at h
    · exact lng_le h
    · cases h
theorem wrV_le {v : Jv} {deep : Nat} {b b' : List UInt8} (h : wrV v deep b = .ok b') : b'.length ≤ 65536 := by
  unfold wrV wrB at h
  split at h
  · cases h
  · split at h
    · exact lng_le h
    · split at h
      · exact lng_le h
      · split at h
        · exact lng_le h
        · split at h
          · exact txt_le h
          · split at h
            · cases h
            · split at h
              · obtain ⟨_, _, h⟩ := rthen_ok h
                obtain ⟨_, _, h⟩ := rthen_ok h
                exact lng_le h
              · obtain ⟨_, _, h⟩ := rthen_ok h
                obtain ⟨_, _, h⟩ := rthen_ok h
                exact lng_le h
theorem par_can {v : Jv} {t : List UInt8} (h : canF v = (t, 0)) : parF t = (nrmV v, 0) := by
  unfold canF at h
  cases hw : wrV v 0 [] with
  | error e =>
    rw [hw] at h
    injection h with _ h
    exact absurd (by rw [hw, h]) (wrV_ne0 v 0 [])
  | ok b =>
    rw [hw] at h
    injection h with h _
    subst h
    obtain ⟨t, e, _, hr⟩ := read_back v 0 [] b hw
    have h1 := hr [] (fun c h => by cases h)
    have hle := wrV_le hw
    rw [List.append_nil] at h1
    rw [List.nil_append] at e
    subst e
    unfold parF
    rw [if_neg (by omega), h1]
    rfl
end Go.Proofs.YtajkgcmopmpihaaGreatDoor
namespace Go.Proofs.YtajkgcmopmpihaaGreatDoor
open Go.Lib
set_option linter.unusedVariables false

/-- Behind '[': a list. -/
def listF (deep : Nat) (r : List UInt8) : PRes := match skipB r with | [] => pL .nil deep r | d :: q2 => if d = 93 then .ok (lstV .nil, q2) else pL .nil deep r
/-- Behind '{': a table. -/
def tabF (deep : Nat) (r : List UInt8) : PRes := match skipB r with | [] => pT .nil deep r | d :: q2 => if d = 125 then .ok (mapV .nil, q2) else pT .nil deep r
theorem drop_more (s : List UInt8) (k j : Nat) : s.drop (k + j) = (s.drop k).drop j := by rw [List.drop_drop]
theorem pre_at {s t : List UInt8} {k : Nat} (h : t <+: s.drop k) (hk : k ≤ s.length) : ∃ rest, s.drop k = t ++ rest ∧ s.drop (k + t.length) = rest ∧ k + t.length ≤ s.length := by
  obtain ⟨rest, hr⟩ := h
  refine ⟨rest, hr.symm, ?_, ?_⟩
  · rw [drop_more, ← hr]; exact List.drop_left
  · have := congrArg List.length hr
    rw [List.length_append, List.length_drop] at this
    omega
section
variable {s : List UInt8} {a k deep : Nat}
theorem tk_null (hs : s.drop k = skipB (s.drop a)) (hk : k ≤ s.length) (h : [110, 117, 108, 108] <+: s.drop k) : pV deep (s.drop a) = .ok (nullJ, s.drop (k + 4)) ∧ k + 4 ≤ s.length := by
  obtain ⟨rest, h1, h2, h3⟩ := pre_at h hk
  refine ⟨?_, h3⟩
  rw [pV_eq, ← hs, h1, show s.drop (k + 4) = rest from h2]
  exact pC_null deep rest
theorem tk_true (hs : s.drop k = skipB (s.drop a)) (hk : k ≤ s.length) (h : [116, 114, 117, 101] <+: s.drop k) : pV deep (s.drop a) = .ok (⟨1, true, 0, [], .nil, .nil⟩, s.drop (k + 4)) ∧ k + 4 ≤ s.length := by
  obtain ⟨rest, h1, h2, h3⟩ := pre_at h hk
  refine ⟨?_, h3⟩
  rw [pV_eq, ← hs, h1, show s.drop (k + 4) = rest from h2]
  exact pC_true deep rest
theorem tk_false (hs : s.drop k = skipB (s.drop a)) (hk : k ≤ s.length) (h : [102, 97, 108, 115, 101] <+: s.drop k) : pV deep (s.drop a) = .ok (⟨1, false, 0, [], .nil, .nil⟩, s.drop (k + 5)) ∧ k + 5 ≤ s.length := by
  obtain ⟨rest, h1, h2, h3⟩ := pre_at h hk
  refine ⟨?_, h3⟩
  rw [pV_eq, ← hs, h1, show s.drop (k + 5) = rest from h2]
  exact pC_false deep rest
theorem tk_quo (hs : s.drop k = skipB (s.drop a)) (hk : k ≤ s.length) (h : [34] <+: s.drop k) : takeF s (k : Int) = fin (k + 1) (scan (s.drop (k + 1))) ∧ k + 1 ≤ s.length ∧
    pV deep (s.drop a) = (match scan (s.drop (k + 1)) with | none => .error 4 | some p => .ok (⟨3, false, 0, p.1, .nil, .nil⟩, s.drop (k + 1 + p.2))) := by
  obtain ⟨rest, h1, h2, h3⟩ := pre_at h hk
  have h2 : s.drop (k + 1) = rest := h2
  have h3 : k + 1 ≤ s.length := h3
  refine ⟨takeF_in s k h3 ?_, h3, ?_⟩
  · have := congrArg List.head? h1
    rw [List.head?_drop] at this
    rw [List.getD_eq_getElem?_getD, this]; rfl
  · rw [pV_eq, ← hs, h1, h2]
    show pC deep 34 rest = _
    unfold pC
    rw [if_neg (by decide), if_neg (by decide), if_pos rfl]
    cases hx : scan rest with
    | none => rfl
    | some p => dsimp only; rw [drop_more, h2]
theorem tk_lst (hs : s.drop k = skipB (s.drop a)) (hk : k ≤ s.length) (h : [91] <+: s.drop k) : pV deep (s.drop a) = (if deep = 32 then .error 5 else listF (deep + 1) (s.drop (k + 1))) ∧ k + 1 ≤ s.length := by
  obtain ⟨rest, h1, h2, h3⟩ := pre_at h hk
  refine ⟨?_, h3⟩
  rw [pV_eq, ← hs, h1, show s.drop (k + 1) = rest from h2]
  show pC deep 91 rest = _
  unfold pC
  rw [if_pos rfl]; rfl
theorem tk_tab (hs : s.drop k = skipB (s.drop a)) (hk : k ≤ s.length) (h : [123] <+: s.drop k) : pV deep (s.drop a) = (if deep = 32 then .error 5 else tabF (deep + 1) (s.drop (k + 1))) ∧ k + 1 ≤ s.length := by
  obtain ⟨rest, h1, h2, h3⟩ := pre_at h hk
  refine ⟨?_, h3⟩
  rw [pV_eq, ← hs, h1, show s.drop (k + 1) = rest from h2]
  show pC deep 123 rest = _
  unfold pC
  rw [if_neg (by decide), if_pos rfl]; rfl
theorem numP_bad {c : UInt8} {q : List UInt8} (h : ¬ (c = 45 ∨ digB c = true)) : numP (c :: q) = .error 4 := by
  unfold numP
  have : (wholeF ((c :: q).takeWhile numB)).1 = false := by
    by_cases hn : numB c = true
    · rw [List.takeWhile_cons, if_pos hn]
      unfold wholeF signF
      dsimp only
      rw [if_neg (fun e => h (.inl e)), List.takeWhile_cons, if_neg (fun e => h (.inr e))]
      rfl
    · rw [List.takeWhile_cons, if_neg hn]; rfl
  rw [if_pos this]
theorem tk_else (hs : s.drop k = skipB (s.drop a)) (n1 : ¬ [110, 117, 108, 108] <+: s.drop k) (n2 : ¬ [116, 114, 117, 101] <+: s.drop k) (n3 : ¬ [102, 97, 108, 115, 101] <+: s.drop k) (n4 : ¬ [34] <+: s.drop k) (n5 : ¬ [91] <+: s.drop k) (n6 : ¬ [123] <+: s.drop k) : pV deep (s.drop a) = numP (s.drop k) := by
  rw [pre_one] at n4 n5 n6
  rw [pV_eq, ← hs]
  cases hx : s.drop k with
  | nil => rfl
  | cons c q =>
    rw [hx] at n1 n2 n3 n4 n5 n6
    dsimp only
    unfold pC
    rw [if_neg (fun e => n5 (by rw [e]; rfl)), if_neg (fun e => n6 (by rw [e]; rfl)), if_neg (fun e => n4 (by rw [e]; rfl)), if_neg n1, if_neg n2, if_neg n3]
    by_cases h : c = 45 ∨ digB c = true
    · rw [if_pos h]
    · rw [if_neg h, numP_bad h]
end
end Go.Proofs.YtajkgcmopmpihaaGreatDoor
