/- Texts put together: JpR JvX JvY. -/
import Derived.Test.YtajkgcmopmpihaaGreatDoorZb5b127d0ca
import Derived.Test.YtajkgcmopmpihaaGreatDoorZea687e75f4
import Derived.Test.YtajkgcmopmpihaaGreatDoorZ665a42b79f
import Derived.Test.YtajkgcmopmpihaaGreatDoorZ779a4c38d0
import Derived.Test.YtajkgcmopmpihaaGreatDoorZb4a9d0ce6f
import Derived.Lib.LaidTab
import Derived.Lib.ItoaNum
namespace Go.Proofs.YtajkgcmopmpihaaGreatDoor
open Go.Lib
set_option linter.unusedVariables false

/-- A forest, of a list without keys. -/
def nrmT : Bool → JT → JT
  | _, .nil => .nil
  | mem, .cons k kd is n s l m r => .cons (if mem then k else []) kd is n s (nrmT false l) (nrmT true m) (nrmT mem r)
def nrmV (v : Jv) : Jv := ⟨v.kd, v.is, v.n, v.s, nrmT false v.l, nrmT true v.m⟩
def appT : JT → JT → JT
  | acc, .nil => acc
  | acc, .cons k kd is n s l m r => appT (acc.snoc k ⟨kd, is, n, s, l, m⟩) r
theorem snoc_app : ∀ (a b : JT) (k : List UInt8) (v : Jv), appT (a.snoc k v) b = appT a (.one k v b)
  | a, b, k, v => by obtain ⟨_, _, _, _, _, _⟩ := v; rfl
theorem app_cons : ∀ (a : JT) (k : List UInt8) (kd : Int) (is : Bool) (n : Int) (s : List UInt8) (l m r b : JT), appT (.cons k kd is n s l m a) b = .cons k kd is n s l m (appT a b)
  | a, k, kd, is, n, s, l, m, r, .nil => rfl
  | a, k, kd, is, n, s, l, m, r, .cons k2 kd2 is2 n2 s2 l2 m2 r2 => by
    simp only [appT]
    exact app_cons _ k kd is n s l m r r2
theorem app_nil : ∀ t : JT, appT .nil t = t
  | .nil => rfl
  | .cons k kd is n s l m r => by
    show appT (.cons k kd is n s l m .nil) r = _
    rw [app_cons _ k kd is n s l m .nil r, app_nil r]
def keysT : JT → List (List UInt8)
  | .nil => []
  | .cons k _ _ _ _ _ _ r => k :: keysT r
theorem keys_snoc : ∀ (t : JT) (k : List UInt8) (v : Jv), keysT (t.snoc k v) = keysT t ++ [k]
  | .nil, k, v => by obtain ⟨_, _, _, _, _, _⟩ := v; rfl
  | .cons k0 kd is n s l m r, k, v => by simp only [JT.snoc, keysT, keys_snoc r k v, List.cons_append]
theorem ins_up : ∀ (t : JT) (k : List UInt8) (v : Jv), (∀ x ∈ keysT t, Op.bytesLess x k = true) → t.ins k v = t.snoc k v
  | .nil, k, v, _ => rfl
  | .cons k0 kd is n s l m r, k, v, h => by
    simp only [JT.ins, JT.snoc]
    rw [if_pos (h k0 (by simp [keysT])), ins_up r k v (fun x hx => h x (by simp [keysT, hx]))]
theorem less_irr : ∀ a : List UInt8, Op.bytesLess a a = false
  | [] => rfl
  | c :: a => by simp [Op.bytesLess, less_irr a]
theorem less_trans : ∀ {a b c : List UInt8}, Op.bytesLess a b = true → Op.bytesLess b c = true → Op.bytesLess a c = true
  | _, [], _, h, _ => by cases ‹List UInt8› <;> simp [Op.bytesLess] at h
  | [], y :: b, [], _, h2 => by simp [Op.bytesLess] at h2
  | [], y :: b, z :: c, _, _ => by simp [Op.bytesLess]
  | x :: a, y :: b, [], _, h2 => by simp [Op.bytesLess] at h2
  | x :: a, y :: b, z :: c, h1, h2 => by
    simp only [Op.bytesLess, Bool.or_eq_true, Bool.and_eq_true, decide_eq_true_eq, beq_iff_eq] at *
    rcases h1 with h1 | ⟨rfl, h1⟩
    · rcases h2 with h2 | ⟨rfl, h2⟩
      · exact .inl (UInt8.lt_trans h1 h2)
      · exact .inl h1
    · rcases h2 with h2 | ⟨rfl, h2⟩
      · exact .inl h2
      · exact .inr ⟨rfl, less_trans h1 h2⟩
theorem less_tot : ∀ a b : List UInt8, Op.bytesLess a b = true ∨ a = b ∨ Op.bytesLess b a = true
  | [], [] => .inr (.inl rfl)
  | [], _ :: _ => .inl rfl
  | _ :: _, [] => .inr (.inr rfl)
  | x :: a, y :: b => by
    simp only [Op.bytesLess, Bool.or_eq_true, Bool.and_eq_true, decide_eq_true_eq, beq_iff_eq, List.cons.injEq]
    rcases Nat.lt_trichotomy x.toNat y.toNat with h | h | h
    · exact .inl (.inl h)
    · have : x = y := UInt8.toNat_inj.1 h
      subst this
      rcases less_tot a b with h | h | h
      · exact .inl (.inr ⟨rfl, h⟩)
      · exact .inr (.inl ⟨rfl, h⟩)
      · exact .inr (.inr (.inr ⟨rfl, h⟩))
    · exact .inr (.inr (.inl h))
theorem hasK_up : ∀ (t : JT) (k : List UInt8), (∀ x ∈ keysT t, Op.bytesLess x k = true) → t.hasK k = false
  | .nil, k, _ => rfl
  | .cons k0 kd is n s l m r, k, h => by
    simp only [JT.hasK, Bool.or_eq_false_iff]
    refine ⟨?_, hasK_up r k (fun x hx => h x (by simp [keysT, hx]))⟩
    have := h k0 (by simp [keysT])
    rw [beq_eq_false_iff_ne]
    intro e
    subst e
    rw [less_irr] at this; cases this
/-- No number goes on here. -/
def stopB (rest : List UInt8) : Prop := ∀ c, rest.head? = some c → numB c = false
theorem rlng_ok {b b' : List UInt8} (h : lng b = .ok b') : b' = b := by
  unfold lng at h
  split at h
  · injection h with h; exact h.symm
  · cases h
theorem rtxt_ok {b s b' : List UInt8} (h : txt b s = .ok b') : b' = b ++ (34 :: (escL s ++ [34])) ∧ validD s = true := by
  unfold txt at h
  split at h
  · cases h
  · split at h
    · rename_i hv
      refine ⟨?_, hv⟩
      rw [rlng_ok h]; unfold putF; rw [if_pos hv]; rfl
    · cases h
theorem rthen_ok {r : Res} {f : List UInt8 → Res} {b : List UInt8} (h : r.then f = .ok b) : ∃ c, r = .ok c ∧ f c = .ok b := by
  cases r with
  | error e => cases h
  | ok c => exact ⟨c, rfl, h⟩
def headR (t : List UInt8) : Prop := ∃ c q, t = c :: q ∧ blankB c = false ∧ c ≠ 93
/-- A value's text is read as it. -/
def ReadV (v : Jv) : Prop := ∀ (deep : Nat) (b b' : List UInt8), wrV v deep b = .ok b' → ∃ t, b' = b ++ t ∧ headR t ∧ ∀ rest, stopB rest → pV deep (t ++ rest) = .ok (nrmV v, rest)
/-- So is a row's. -/
def ReadL (t : JT) : Prop := (∀ (deep : Nat) (p b b' : List UInt8) (acc : JT) , wrF false t deep (some p) b = .ok b' → ∃ tt, b' = b ++ tt ∧ (tt = [] ∨ ∃ q, tt = 44 :: q) ∧ ∀ rest, pLn acc deep (tt ++ 93 :: rest) = .ok (lstV (appT acc (nrmT false t)), rest)) ∧
  (∀ (deep : Nat) (b b' : List UInt8), t.isNil = false → wrF false t deep none b = .ok b' → ∃ tt, b' = b ++ tt ∧ headR tt ∧ ∀ rest, pL .nil deep (tt ++ 93 :: rest) = .ok (lstV (nrmT false t), rest))
def ReadM (t : JT) : Prop := (∀ (deep : Nat) (p b b' : List UInt8) (acc : JT), (∀ x ∈ keysT acc, leqB x p = true) → wrF true t deep (some p) b = .ok b' → ∃ tt, b' = b ++ tt ∧ (tt = [] ∨ ∃ q, tt = 44 :: q) ∧ ∀ rest, pTn acc deep (tt ++ 125 :: rest) = .ok (mapV (appT acc (nrmT true t)), rest)) ∧
  (∀ (deep : Nat) (b b' : List UInt8), t.isNil = false → wrF true t deep none b = .ok b' → ∃ tt, b' = b ++ tt ∧ (∃ q, tt = 34 :: q) ∧ ∀ rest, pT .nil deep (tt ++ 125 :: rest) = .ok (mapV (nrmT true t), rest))
theorem skip_no {c : UInt8} {q : List UInt8} (h : blankB c = false) : skipB (c :: q) = c :: q := by unfold skipB; rw [List.dropWhile_cons, h]; rfl
theorem then_ok2 {v : Jv} {q : List UInt8} {f : Jv → List UInt8 → PRes} : PRes.then (.ok (v, q)) f = f v q := rfl
theorem row_stop (tt rest : List UInt8) (c : UInt8) (h : tt = [] ∨ ∃ q, tt = 44 :: q) (hc : numB c = false) : stopB (tt ++ c :: rest) := by
  intro d hd
  rcases h with rfl | ⟨q, rfl⟩
  · injection hd with hd; rw [← hd]; exact hc
  · injection hd with hd; rw [← hd]; rfl
theorem isNil_eq {t : JT} (h : t.isNil = true) : t = .nil := by cases t with | nil => rfl | cons _ _ _ _ _ _ _ _ => cases h
theorem pC_null (deep : Nat) (rest : List UInt8) : pC deep 110 ([117, 108, 108] ++ rest) = .ok (nullJ, rest) := by
  unfold pC
  rw [if_neg (by decide), if_neg (by decide), if_neg (by decide), if_neg (by decide), if_pos ⟨rest, rfl⟩]; rfl
theorem pC_true (deep : Nat) (rest : List UInt8) : pC deep 116 ([114, 117, 101] ++ rest) = .ok (⟨1, true, 0, [], .nil, .nil⟩, rest) := by
  unfold pC
  rw [if_neg (by decide), if_neg (by decide), if_neg (by decide), if_neg (by decide), if_neg (by simp [List.cons_prefix_cons]), if_pos ⟨rest, rfl⟩]; rfl
theorem pC_false (deep : Nat) (rest : List UInt8) : pC deep 102 ([97, 108, 115, 101] ++ rest) = .ok (⟨1, false, 0, [], .nil, .nil⟩, rest) := by
  unfold pC
  rw [if_neg (by decide), if_neg (by decide), if_neg (by decide), if_neg (by decide), if_neg (by simp [List.cons_prefix_cons]), if_neg (by simp [List.cons_prefix_cons]), if_pos ⟨rest, rfl⟩]; rfl
theorem pC_num (deep : Nat) (c : UInt8) (q : List UInt8) (h : c = 45 ∨ digB c = true) : pC deep c q = numP (c :: q) ∧ blankB c = false ∧ c ≠ 93 := by
  have hc : c.toNat = 45 ∨ (48 ≤ c.toNat ∧ c.toNat ≤ 57) := by
    rcases h with rfl | h
    · exact .inl rfl
    · exact .inr ((digB_iff c).1 h)
  have hne : ∀ d : UInt8, d.toNat ≠ 45 → (d.toNat < 48 ∨ 57 < d.toNat) → c ≠ d := fun d h1 h2 e => by subst e; omega
  refine ⟨?_, ?_, hne 93 (by decide) (by decide)⟩
  · unfold pC
    rw [if_neg (hne 91 (by decide) (by decide)), if_neg (hne 123 (by decide) (by decide)), if_neg (hne 34 (by decide) (by decide)), if_pos h]
  · unfold blankB
    simp only [Bool.or_eq_false_iff, beq_eq_false_iff_ne]
    exact ⟨⟨⟨hne 32 (by decide) (by decide), hne 9 (by decide) (by decide)⟩, hne 10 (by decide) (by decide)⟩, hne 13 (by decide) (by decide)⟩
theorem pC_txt (deep : Nat) (s rest : List UInt8) (hv : validD s = true) : pC deep 34 (escL s ++ 34 :: rest) = .ok (⟨3, false, 0, s, .nil, .nil⟩, rest) := by
  unfold pC
  rw [if_neg (by decide), if_neg (by decide), if_pos rfl, scan_put s hv rest]
  dsimp only
  rw [← List.drop_drop, List.drop_left]; rfl
theorem readV_of {v : Jv} (hl : ReadL v.l) (hm : ReadM v.m) : ReadV v := by
  intro deep b b' h
  obtain ⟨kd, is, n, s, l, m⟩ := v
  unfold wrV wrB at h
  dsimp only at hl hm h
  split at h
  · cases h
  · rename_i hb
    have hb : (⟨kd, is, n, s, l, m⟩ : Jv).bare = true := by simpa using hb
    simp only [Jv.bare, Bool.and_eq_true, Bool.or_eq_true, beq_iff_eq, Bool.not_eq_true', List.isEmpty_iff, decide_eq_true_eq] at hb
    obtain ⟨⟨⟨⟨⟨⟨⟨⟨b1, b2⟩, b3⟩, b4⟩, b5⟩, b6⟩, b7⟩, b8⟩, b9⟩ := hb
    split at h
    · rename_i hk
      subst hk
      have e1 : is = false := b1.resolve_left (by decide)
      have e2 : n = 0 := b2.resolve_left (by decide)
      have e3 : s = [] := b3.resolve_left (by decide)
      have e4 := isNil_eq (b4.resolve_left (by decide))
      have e5 := isNil_eq (b5.resolve_left (by decide))
      subst e1 e2 e3 e4 e5
      refine ⟨_, rlng_ok h, ⟨110, [117, 108, 108], rfl, by decide, by decide⟩, fun rest _ => ?_⟩
      rw [pV_eq, show ([110, 117, 108, 108] : List UInt8) ++ rest = 110 :: ([117, 108, 108] ++ rest) from rfl, skip_no (by decide)]
      exact pC_null deep rest
    · split at h
      · rename_i hk
        subst hk
        have e2 : n = 0 := b2.resolve_left (by decide)
        have e3 : s = [] := b3.resolve_left (by decide)
        have e4 := isNil_eq (b4.resolve_left (by decide))
        have e5 := isNil_eq (b5.resolve_left (by decide))
        subst e2 e3 e4 e5
        cases is with
        | true =>
          refine ⟨_, rlng_ok h, ⟨116, [114, 117, 101], rfl, by decide, by decide⟩, fun rest _ => ?_⟩
          rw [pV_eq, show (if (true : Bool) = true then ([116, 114, 117, 101] : List UInt8) else [102, 97, 108, 115, 101]) ++ rest = 116 :: ([114, 117, 101] ++ rest) from rfl, skip_no (by decide)]
          exact pC_true deep rest
        | false =>
          refine ⟨_, rlng_ok h, ⟨102, [97, 108, 115, 101], rfl, by decide, by decide⟩, fun rest _ => ?_⟩
          rw [pV_eq, show (if (false : Bool) = true then ([116, 114, 117, 101] : List UInt8) else [102, 97, 108, 115, 101]) ++ rest = 102 :: ([97, 108, 115, 101] ++ rest) from rfl, skip_no (by decide)]
          exact pC_false deep rest
      · split at h
        · rename_i hk
          subst hk
          have e1 : is = false := b1.resolve_left (by decide)
          have e3 : s = [] := b3.resolve_left (by decide)
          have e4 := isNil_eq (b4.resolve_left (by decide))
          have e5 := isNil_eq (b5.resolve_left (by decide))
          subst e1 e3 e4 e5
          obtain ⟨_, c, q, hcq, hc⟩ := numP_itoa n b8 b9 [] (fun c h => by cases h)
          refine ⟨_, rlng_ok h, ⟨c, q, hcq, (pC_num deep c q hc).2⟩, fun rest hr => ?_⟩
          have h1 := (numP_itoa n b8 b9 rest hr).1
          rw [hcq] at h1 ⊢
          rw [pV_eq, List.cons_append, skip_no (pC_num deep c q hc).2.1]
          dsimp only
          rw [(pC_num deep c (q ++ rest) hc).1]
          exact h1
        · split at h
          · rename_i hk
            subst hk
            have e1 : is = false := b1.resolve_left (by decide)
            have e2 : n = 0 := b2.resolve_left (by decide)
            have e4 := isNil_eq (b4.resolve_left (by decide))
            have e5 := isNil_eq (b5.resolve_left (by decide))
            subst e1 e2 e4 e5
            obtain ⟨h1, hv⟩ := rtxt_ok h
            refine ⟨_, h1, ⟨34, _, rfl, by decide, by decide⟩, fun rest _ => ?_⟩
            rw [pV_eq, List.cons_append, skip_no (by decide)]
            dsimp only
            rw [List.append_assoc]
            exact pC_txt deep s rest hv
          · split at h
            · cases h
            · rename_i hdeep
              have hd : ¬ deep = 32 := by omega
              split at h
              · rename_i hk
                subst hk
                have e1 : is = false := b1.resolve_left (by decide)
                have e2 : n = 0 := b2.resolve_left (by decide)
                have e3 : s = [] := b3.resolve_left (by decide)
                have e5 := isNil_eq (b5.resolve_left (by decide))
                subst e1 e2 e3 e5
                obtain ⟨c1, h1, h⟩ := rthen_ok h
                obtain ⟨c2, h2, h⟩ := rthen_ok h
                have h1 := rlng_ok h1
                have hend := rlng_ok h
                subst h1
                cases hl0 : l.isNil with
                | true =>
                  have := isNil_eq hl0
                  subst this
                  injection h2 with h2
                  subst h2
                  refine ⟨[91, 93], by rw [hend, List.append_assoc]; rfl, ⟨91, [93], rfl, by decide, by decide⟩, fun rest _ => ?_⟩
                  rw [pV_eq, show ([91, 93] : List UInt8) ++ rest = 91 :: 93 :: rest from rfl, skip_no (by decide)]
                  dsimp only
                  unfold pC
                  rw [if_pos rfl, if_neg hd, skip_no (by decide)]
                  rfl
                | false =>
                  obtain ⟨tt, h3, ⟨d, q, hdq, hbl, h93⟩, hr⟩ := hl.2 (deep + 1) _ _ hl0 h2
                  refine ⟨91 :: (tt ++ [93]), by rw [hend, h3]; simp, ⟨91, _, rfl, by decide, by decide⟩, fun rest _ => ?_⟩
                  rw [pV_eq, List.cons_append, skip_no (by decide)]
                  dsimp only
                  unfold pC
                  have h4 := hr rest
                  rw [if_pos rfl, if_neg hd, List.append_assoc]
                  show (match skipB (tt ++ 93 :: rest) with | [] => pL .nil (deep + 1) (tt ++ 93 :: rest) | d :: q2 => if d = 93 then .ok (lstV .nil, q2) else pL .nil (deep + 1) (tt ++ 93 :: rest)) = _
                  rw [h4, hdq, List.cons_append, skip_no hbl]
                  dsimp only
                  rw [if_neg h93]
                  rfl
              · rename_i hk0 hk1 hk2 hk3 hk4
                have hk : kd = 5 := by omega
                subst hk
                have e1 : is = false := b1.resolve_left (by decide)
                have e2 : n = 0 := b2.resolve_left (by decide)
                have e3 : s = [] := b3.resolve_left (by decide)
                have e4 := isNil_eq (b4.resolve_left (by decide))
                subst e1 e2 e3 e4
                obtain ⟨c1, h1, h⟩ := rthen_ok h
                obtain ⟨c2, h2, h⟩ := rthen_ok h
                have h1 := rlng_ok h1
                have hend := rlng_ok h
                subst h1
                cases hl0 : m.isNil with
                | true =>
                  have := isNil_eq hl0
                  subst this
                  injection h2 with h2
                  subst h2
                  refine ⟨[123, 125], by rw [hend, List.append_assoc]; rfl, ⟨123, [125], rfl, by decide, by decide⟩, fun rest _ => ?_⟩
                  rw [pV_eq, show ([123, 125] : List UInt8) ++ rest = 123 :: 125 :: rest from rfl, skip_no (by decide)]
                  dsimp only
                  unfold pC
                  rw [if_neg (by decide), if_pos rfl, if_neg hd, skip_no (by decide)]
                  rfl
                | false =>
                  obtain ⟨tt, h3, ⟨q, hdq⟩, hr⟩ := hm.2 (deep + 1) _ _ hl0 h2
                  refine ⟨123 :: (tt ++ [125]), by rw [hend, h3]; simp, ⟨123, _, rfl, by decide, by decide⟩, fun rest _ => ?_⟩
                  rw [pV_eq, List.cons_append, skip_no (by decide)]
                  dsimp only
                  unfold pC
                  have h4 := hr rest
                  rw [if_neg (by decide), if_pos rfl, if_neg hd, List.append_assoc]
                  show (match skipB (tt ++ 125 :: rest) with | [] => pT .nil (deep + 1) (tt ++ 125 :: rest) | d :: q2 => if d = 125 then .ok (mapV .nil, q2) else pT .nil (deep + 1) (tt ++ 125 :: rest)) = _
                  rw [h4, hdq, List.cons_append, skip_no (by decide)]
                  dsimp only
                  rw [if_neg (by decide)]
                  rfl
theorem readL_nil : ReadL .nil := by
  refine ⟨fun deep p b b' acc h => ?_, fun deep b b' h => by cases h⟩
  injection h with h
  subst h
  refine ⟨[], by simp, .inl rfl, fun rest => ?_⟩
  unfold pLn
  rw [List.nil_append, skip_no (by decide)]
  rfl
theorem readL_cons {k : List UInt8} {kd : Int} {is : Bool} {n : Int} {s : List UInt8} {l m r : JT} (hv : ReadV ⟨kd, is, n, s, l, m⟩) (hr : ReadL r) : ReadL (.cons k kd is n s l m r) := by
  have key : ∀ (deep : Nat) (c1 b' : List UInt8) (acc : JT), ((wrV ⟨kd, is, n, s, l, m⟩ deep c1).then fun b => wrF false r deep (some k) b) = .ok b' → ∃ tt, b' = c1 ++ tt ∧ headR tt ∧ ∀ rest, pL acc deep (tt ++ 93 :: rest) = .ok (lstV (appT acc (nrmT false (.cons k kd is n s l m r))), rest) := by
    intro deep c1 b' acc h
    obtain ⟨c2, h2, h3⟩ := rthen_ok h
    obtain ⟨tx, e2, ⟨d, q, hd⟩, hx⟩ := hv deep _ _ h2
    obtain ⟨tr, e3, hs, hy⟩ := hr.1 deep k c2 b' (acc.snoc [] (nrmV ⟨kd, is, n, s, l, m⟩)) h3
    refine ⟨tx ++ tr, by rw [e3, e2, List.append_assoc], ⟨d, q ++ tr, by rw [hd.1, List.cons_append], hd.2⟩, fun rest => ?_⟩
    rw [List.append_assoc, pL_eq, hx (tr ++ 93 :: rest) (row_stop tr rest 93 hs (by decide)), then_ok2, hy rest]
    rfl
  refine ⟨fun deep p b b' acc h => ?_, fun deep b b' _ h => ?_⟩
  · obtain ⟨c1, h1, h2⟩ := rthen_ok (show ((wrK false (some p) k b).then fun b => (wrV ⟨kd, is, n, s, l, m⟩ deep b).then fun b => wrF false r deep (some k) b) = .ok b' from h)
    simp only [wrK, Bool.false_and, Bool.false_eq_true, if_false] at h1
    obtain ⟨c0, h0, h1⟩ := rthen_ok h1
    obtain ⟨c00, h00, h0⟩ := rthen_ok h0
    injection h1 with h1
    injection h0 with h0
    subst h0 h1
    have h00 := rlng_ok h00
    obtain ⟨tt, e, _, hy⟩ := key deep _ b' acc h2
    refine ⟨44 :: tt, by rw [e, h00]; simp, .inr ⟨tt, rfl⟩, fun rest => ?_⟩
    unfold pLn
    rw [List.cons_append, skip_no (by decide)]
    dsimp only
    rw [if_neg (by decide), if_pos rfl]
    exact hy rest
  · obtain ⟨c1, h1, h2⟩ := rthen_ok (show ((wrK false none k b).then fun b => (wrV ⟨kd, is, n, s, l, m⟩ deep b).then fun b => wrF false r deep (some k) b) = .ok b' from h)
    simp only [wrK, Res.then, Bool.false_eq_true, if_false] at h1
    injection h1 with h1
    subst h1
    obtain ⟨tt, e, hd, hy⟩ := key deep _ b' .nil h2
    exact ⟨tt, e, hd, fun rest => by rw [hy rest, app_nil]⟩
theorem readM_nil : ReadM .nil := by
  refine ⟨fun deep p b b' acc _ h => ?_, fun deep b b' h => by cases h⟩
  injection h with h
  subst h
  refine ⟨[], by simp, .inl rfl, fun rest => ?_⟩
  unfold pTn
  rw [List.nil_append, skip_no (by decide)]
  rfl
theorem readM_cons {k : List UInt8} {kd : Int} {is : Bool} {n : Int} {s : List UInt8} {l m r : JT} (hv : ReadV ⟨kd, is, n, s, l, m⟩) (hr : ReadM r) : ReadM (.cons k kd is n s l m r) := by
  have key : ∀ (deep : Nat) (c1 b' : List UInt8) (acc : JT), (∀ x ∈ keysT acc, Op.bytesLess x k = true) → (((txt c1 k).then fun b => lng (b ++ [58])).then fun b => (wrV ⟨kd, is, n, s, l, m⟩ deep b).then fun b => wrF true r deep (some k) b) = .ok b' →
      ∃ tt, b' = c1 ++ tt ∧ (∃ q, tt = 34 :: q) ∧ ∀ rest, pT acc deep (tt ++ 125 :: rest) = .ok (mapV (appT acc (nrmT true (.cons k kd is n s l m r))), rest) := by
    intro deep c1 b' acc hup h
    obtain ⟨c2, h2, h⟩ := rthen_ok h
    obtain ⟨c3, h3, h2⟩ := rthen_ok h2
    obtain ⟨c4, h4, h⟩ := rthen_ok h
    obtain ⟨e3, hvk⟩ := rtxt_ok h3
    have e2 := rlng_ok h2
    obtain ⟨tx, e4, _, hx⟩ := hv deep _ _ h4
    obtain ⟨tr, e5, hs, hy⟩ := hr.1 deep k c4 b' (acc.snoc k (nrmV ⟨kd, is, n, s, l, m⟩)) (fun x hx => by
      rw [keys_snoc, List.mem_append] at hx
      unfold leqB
      rcases hx with hx | hx
      · rw [hup x hx]; rfl
      · rw [List.mem_singleton.1 hx]; simp) h
    refine ⟨34 :: (escL k ++ 34 :: 58 :: (tx ++ tr)), by rw [e5, e4, e2, e3]; simp, ⟨_, rfl⟩, fun rest => ?_⟩
    rw [pT_eq, List.cons_append, skip_no (by decide)]
    dsimp only
    rw [if_pos rfl]
    unfold pK
    rw [show (escL k ++ 34 :: 58 :: (tx ++ tr)) ++ 125 :: rest = escL k ++ 34 :: (58 :: (tx ++ (tr ++ 125 :: rest))) by simp, scan_put k hvk]
    dsimp only
    rw [hasK_up acc k hup, ← List.drop_drop, List.drop_left]
    simp only [Bool.false_eq_true, if_false, List.drop_succ_cons, List.drop_zero]
    rw [skip_no (by decide)]
    dsimp only
    rw [if_pos rfl, hx (tr ++ 125 :: rest) (row_stop tr rest 125 hs (by decide)), then_ok2, ins_up acc k _ hup, hy rest]
    rfl
  refine ⟨fun deep p b b' acc hp h => ?_, fun deep b b' _ h => ?_⟩
  · obtain ⟨c1, h1, h2⟩ := rthen_ok (show ((wrK true (some p) k b).then fun b => (wrV ⟨kd, is, n, s, l, m⟩ deep b).then fun b => wrF true r deep (some k) b) = .ok b' from h)
    simp only [wrK, Bool.true_and, if_true] at h1
    obtain ⟨c0, h0, h1⟩ := rthen_ok h1
    obtain ⟨c00, h00, h0⟩ := rthen_ok h0
    have h00 := rlng_ok h00
    split at h0
    · cases h0
    · rename_i hkp
      injection h0 with h0
      subst h0
      have hpk : Op.bytesLess p k = true := by
        have hkp : leqB k p = false := by simpa using hkp
        unfold leqB at hkp
        simp only [Bool.or_eq_false_iff, beq_eq_false_iff_ne] at hkp
        rcases less_tot p k with h | h | h
        · exact h
        · exact absurd h.symm hkp.2
        · rw [hkp.1] at h; cases h
      obtain ⟨tt, e, ⟨q, hq⟩, hy⟩ := key deep c00 b' acc (fun x hx => by
        have := hp x hx
        unfold leqB at this
        simp only [Bool.or_eq_true, beq_iff_eq] at this
        rcases this with h | h
        · exact less_trans h hpk
        · rw [h]; exact hpk) (by rw [h1]; exact h2)
      refine ⟨44 :: tt, by rw [e, h00]; simp, .inr ⟨tt, rfl⟩, fun rest => ?_⟩
      unfold pTn
      rw [List.cons_append, skip_no (by decide)]
      dsimp only
      rw [if_neg (by decide), if_pos rfl]
      exact hy rest
  · obtain ⟨c1, h1, h2⟩ := rthen_ok (show ((wrK true none k b).then fun b => (wrV ⟨kd, is, n, s, l, m⟩ deep b).then fun b => wrF true r deep (some k) b) = .ok b' from h)
    have h1 : ((txt b k).then fun b => lng (b ++ [58])) = .ok c1 := h1
    obtain ⟨tt, e, hd, hy⟩ := key deep b b' .nil (fun x hx => by cases hx) (by rw [h1]; exact h2)
    exact ⟨tt, e, hd, fun rest => by rw [hy rest, app_nil]⟩
theorem read_all : ∀ t : JT, ReadL t ∧ ReadM t
  | .nil => ⟨readL_nil, readM_nil⟩
  | .cons k kd is n s l m r => by
    have hv : ReadV ⟨kd, is, n, s, l, m⟩ := readV_of (read_all l).1 (read_all m).2
    exact ⟨readL_cons hv (read_all r).1, readM_cons hv (read_all r).2⟩
/-- What has a canonical text is read from it. -/
theorem read_back (v : Jv) : ReadV v := readV_of (read_all v.l).1 (read_all v.m).2
theorem lng_ne0 (b : List UInt8) : lng b ≠ .error 0 := by
  unfold lng
  split
  · intro h; cases h
  · intro h; injection h with h; exact absurd h (by decide)
theorem txt_ne0 (b s : List UInt8) : txt b s ≠ .error 0 := by
  unfold txt
  split
  · intro h; injection h with h; exact absurd h (by decide)
  · split
    · exact lng_ne0 _
    · intro h; injection h with h; exact absurd h (by decide)
theorem then_ne0 {r : Res} {f : List UInt8 → Res} (h1 : r ≠ .error 0) (h2 : ∀ b, f b ≠ .error 0) : r.then f ≠ .error 0 := by
  cases r with
  | ok b => exact h2 b
  | error e => exact h1
theorem wrB_ne0 (v : Jv) (deep : Nat) (wl wm : List UInt8 → Res) (b : List UInt8) (h1 : ∀ b, wl b ≠ .error 0) (h2 : ∀ b, wm b ≠ .error 0) : wrB v deep wl wm b ≠ .error 0 := by
  have he : ∀ (c : Int), c ≠ 0 → (Except.error c : Res) ≠ .error 0 := fun c hc h => by injection h with h; exact hc h
  unfold wrB
  split
  · exact he 1 (by decide)
  · split
    · exact lng_ne0 _
    · split
      · exact lng_ne0 _
      · split
        · exact lng_ne0 _
        · split
          · exact txt_ne0 _ _
          · split
            · exact he 5 (by decide)
            · split
              · exact then_ne0 (lng_ne0 _) (fun b => then_ne0 (h1 b) (fun b => lng_ne0 _))
              · exact then_ne0 (lng_ne0 _) (fun b => then_ne0 (h2 b) (fun b => lng_ne0 _))
theorem wrK_ne0 (mem : Bool) (prev : Option (List UInt8)) (k b : List UInt8) : wrK mem prev k b ≠ .error 0 := by
  unfold wrK
  refine then_ne0 ?_ (fun b => ?_)
  · split
    · intro h; cases h
    · refine then_ne0 (lng_ne0 _) (fun b => ?_)
      split
      · intro h; injection h with h; exact absurd h (by decide)
      · intro h; cases h
  · split
    · exact then_ne0 (txt_ne0 _ _) (fun b => lng_ne0 _)
    · intro h; cases h
theorem wrF_ne0 : ∀ (t : JT) (mem : Bool) (deep : Nat) (prev : Option (List UInt8)) (b : List UInt8), wrF mem t deep prev b ≠ .error 0
  | .nil, _, _, _, _ => fun h => by cases h
  | .cons k kd is n s l m r, mem, deep, prev, b => by
    unfold wrF
    exact then_ne0 (wrK_ne0 _ _ _ _) (fun b => then_ne0 (wrB_ne0 _ _ _ _ _ (fun b => wrF_ne0 l _ _ _ b) (fun b => wrF_ne0 m _ _ _ b)) (fun b => wrF_ne0 r _ _ _ b))
theorem wrV_ne0 (v : Jv) (deep : Nat) (b : List UInt8) : wrV v deep b ≠ .error 0 := wrB_ne0 _ _ _ _ _ (fun b => wrF_ne0 _ _ _ _ b) (fun b => wrF_ne0 _ _ _ _ b)
theorem lng_le {b b' : List UInt8} (h : lng b = .ok b') : b'.length ≤ 65536 := by
  unfold lng at h
  split at h
  · injection h with h; rw [← h]; assumption
  · cases h
theorem txt_le {b s b' : List UInt8} (h : txt b s = .ok b') : b'.length ≤ 65536 := by
  unfold txt at h
  split at h
  · cases h
  · split at h
    · exact lng_le h
    · cases h
theorem wrV_le {v : Jv} {deep : Nat} {b b' : List UInt8} (h : wrV v deep b = .ok b') : b'.length ≤ 65536 := by
  unfold wrV wrB at h
  split at h
  · cases h
  · split at h
    · exact lng_le h
    · split at h
      · exact lng_le h
      · split at h
        · exact lng_le h
        · split at h
          · exact txt_le h
          · split at h
            · cases h
            · split at h
              · obtain ⟨_, _, h⟩ := rthen_ok h
                obtain ⟨_, _, h⟩ := rthen_ok h
                exact lng_le h
              · obtain ⟨_, _, h⟩ := rthen_ok h
                obtain ⟨_, _, h⟩ := rthen_ok h
                exact lng_le h
theorem par_can {v : Jv} {t : List UInt8} (h : canF v = (t, 0)) : parF t = (nrmV v, 0) := by
  unfold canF at h
  cases hw : wrV v 0 [] with
  | error e =>
    rw [hw] at h
    injection h with _ h
    exact absurd (by rw [hw, h]) (wrV_ne0 v 0 [])
  | ok b =>
    rw [hw] at h
    injection h with h _
    subst h
    obtain ⟨t, e, _, hr⟩ := read_back v 0 [] b hw
    have h1 := hr [] (fun c h => by cases h)
    have hle := wrV_le hw
    rw [List.append_nil] at h1
    rw [List.nil_append] at e
    subst e
    unfold parF
    rw [if_neg (by omega), h1]
    rfl
end Go.Proofs.YtajkgcmopmpihaaGreatDoor
namespace Go.Proofs.YtajkgcmopmpihaaGreatDoor
open Go.ChangeShapes Go.WideShapes Go.ChangeAt Go.RowKit Go.IntWalk
set_option linter.unusedVariables false

set_option maxHeartbeats 2000000 in
theorem text_w (base g : Nat) (v : Value) (b l : List UInt8) (w : World) (h : WSt base w g v b) (hB : base ≤ w.heap.size) (hl : l.length ≤ 140737488355328) :
    Calls Tryz.prog 47 #[.pointer (some ⟨g, 0, none⟩), .string ⟨l.toArray⟩] w (WEnd base g w v (txt b l)) := by
  by_cases h6 : 65536 < l.length
  · have HR := Lib.hid (show txt b l = .error 3 by unfold txt; rw [if_pos h6])
    have hd1 : decide ((65536 : Int) < (l.length : Int)) = true := by simp; omega
    clear h6
    go_enter Tryz.func47, Tryz.ntmps47
    go_wp2_with fail
    refine (giveUp_calls _ _).mono ?_
    rintro e w2 ⟨rfl, rfl⟩
    go_wp2_with fail
    exact ⟨rfl, WEnd.bad HR.out (Nx.refl _ _ v)⟩
  · have hd1 : decide ((65536 : Int) < (l.length : Int)) = false := by simp; omega
    have HQ := put_calls l w (by omega)
    have hpl := putF_le l
    obtain ⟨q, hq⟩ : ∃ q, putF l = q := ⟨_, rfl⟩
    rw [hq] at hpl
    have hql : q.length ≤ 70368744000000 := by omega
    have HP := Lib.hid h
    have HL := Lib.hid hl
    have H6 := Lib.hid h6
    clear h hl hpl h6
    cases hv : Lib.validD l with
    | false =>
      have HR := Lib.hid (show txt b l = .error 1 by unfold txt; rw [if_neg H6.out, hv]; rfl)
      have HQ2 := HQ
      unfold PutPost at HQ2
      rw [hq, hv] at HQ2
      clear HQ hq hv
      go_enter Tryz.func47, Tryz.ntmps47
      go_wp2_with fail
      refine HQ2.mono ?_
      rintro e w1 ⟨rfl, b1⟩
      go_wp2_with fail
      refine (giveUp_calls _ _).mono ?_
      rintro e w2 ⟨rfl, rfl⟩
      go_wp2_with fail
      exact ⟨rfl, WEnd.bad HR.out (Nx.of_below b1)⟩
    | true =>
      have HR := Lib.hid (show txt b l = lng (b ++ q) by unfold txt; rw [if_neg H6.out, hv, if_pos rfl, hq])
      have HQ2 := HQ
      unfold PutPost at HQ2
      rw [hq, hv] at HQ2
      clear HQ hq hv
      cases hr : lng (b ++ q)
      all_goals
        have HR2 := Lib.hid hr
        clear hr
        go_enter Tryz.func47, Tryz.ntmps47
        go_wp2_with fail
        refine HQ2.mono ?_
        rintro e w1 ⟨rfl, b1⟩
        have hB1 : base ≤ w1.heap.size := Nat.le_trans hB b1.size
        go_wp2_with fail
        refine (put_w base g v b q _ (HP.out.below b1) hB1 hql).mono ?_
        intro e w2 hE
        first | (obtain ⟨rfl, v2, h2, n2⟩ := WEnd.of_ok HR2.out hE; clear hE) | (obtain ⟨rfl, v2, n2⟩ := WEnd.of_bad HR2.out hE; clear hE)
        go_wp2_with fail
      · exact ⟨rfl, WEnd.bad (HR.out.trans HR2.out) ((Nx.of_below b1).trans n2)⟩
      · go_end0
        exact WEnd.ok (HR.out.trans HR2.out) h2 ((Nx.of_below b1).trans n2)
end Go.Proofs.YtajkgcmopmpihaaGreatDoor
namespace Go.Proofs.YtajkgcmopmpihaaGreatDoor
open Go.ChangeShapes Go.WideShapes Go.ChangeAt Go.RowKit Go.IntWalk
set_option linter.unusedVariables false

section
variable {base g : Nat} {w w1 w' : World} {v v' : Value} {mem : Bool} {A : Option Addr} {t : JT}
theorem JSl.nx (h : JSl (· < base) w mem A t) (n : Nx w w' g v v') (hg : base ≤ g) (ho : ∀ k, v.ownBlock = some k → base ≤ k) (hB : base ≤ w.heap.size) : JSl (· < base) w' mem A t :=
  h.stay (fun b o hb => Go.RowKit.Below.cell (p := ⟨b, o, none⟩) (n.below (Below.refl base w) hg hB ho) hb) (fun _ h => h)
end
theorem PowT.nx {base g : Nat} {w w' : World} {v v' : Value} (h : PowT base w) (n : Nx w w' g v v') (hg : base ≤ g) (ho : ∀ k, v.ownBlock = some k → base ≤ k) (hB : base ≤ w.heap.size) : PowT base w' :=
  h.blw (n.below (Below.refl base w) hg hB ho)
/-- What is to be proved of values of at most N parts. -/
def ValC (N : Nat) : Prop := ∀ (jv : Jv) (deep : Nat) (dI : Int) (base g : Nat) (v : Value) (b : List UInt8) (w : World) (A B : Option Addr) (nl cl nm cm : Nat), jv.bulk ≤ N → deep ≤ 32 → dI = (deep : Int) → base ≤ g → base ≤ w.heap.size →
  Room nl cl jv.l.ext → Room nm cm jv.m.ext → JSl (· < base) w false A jv.l → JSl (· < base) w true B jv.m → Fit jv.kd jv.n jv.s → WSt base w g v b → PowT base w →
  Calls Tryz.prog 28 #[.pointer (some ⟨g, 0, none⟩), .agg #[.int .i64 jv.kd, .bool jv.is, .int .i64 jv.n, .string ⟨jv.s.toArray⟩, .slice A nl cl, .slice B nm cm], .int .i64 dI] w (WEnd base g w v (wrV jv deep b))
set_option maxHeartbeats 8000000 in
theorem list_w (N : Nat) (IH : ValC N) (t : JT) (deep : Nat) (base g : Nat) (v : Value) (b : List UInt8) (w : World) (A : Option Addr) (n c : Nat) (hN : t.bulk ≤ N) (hd : deep ≤ 32) (hg : base ≤ g) (hB : base ≤ w.heap.size)
    (hr : Room n c t.ext) (hs : JSl (· < base) w false A t) (h : WSt base w g v b) (hT : PowT base w) :
    Calls Tryz.prog 48 #[.pointer (some ⟨g, 0, none⟩), .slice A n c, .int .i64 (deep : Int)] w (WEnd base g w v (wrL t deep b)) := by
  have HO := open_w base g v b [91] deep w h hB (by simp)
  have HP := Lib.hid h
  have HTT := Lib.hid hT
  clear hT
  have hown : ∀ k, v.ownBlock = some k → base ≤ k := fun k hk => (h.own k hk).1
  have HW := Lib.hid hown
  cases ho : (if 32 ≤ deep then (.error 5 : Res) else lng (b ++ [91])) with
  | error x =>
    have HR := Lib.hid (show wrL t deep b = .error x by unfold wrL; rw [ho]; rfl)
    rw [ho] at HO
    clear ho h hown
    go_enter Tryz.func48, Tryz.ntmps48
    go_wp2_with fail
    refine HO.mono ?_
    rintro e w2 ⟨rfl, v2, n2⟩
    go_wp2_with fail
    exact ⟨rfl, WEnd.bad HR.out n2⟩
  | ok b1 =>
    have hdd : deep < 32 := by
      rcases Nat.lt_or_ge deep 32 with h | h
      · exact h
      · rw [if_pos h] at ho; cases ho
    obtain ⟨R, hR⟩ : ∃ R, wrF false t (deep + 1) none b1 = R := ⟨_, rfl⟩
    have HR := Lib.hid (show wrL t deep b = R.then fun b => lng (b ++ [93]) by unfold wrL; rw [ho, then_ok, hR])
    have HR0 : LStep R false t (deep + 1) 0 b1 := by unfold LStep; rw [JT.fall_zero]; exact hR.symm
    rw [ho] at HO
    obtain ⟨rfl, hnc, hcm⟩ := hr
    clear ho h hown hR
    obtain ⟨m, hm⟩ : ∃ m, t.ext = m := ⟨_, rfl⟩
    rw [hm] at hnc hcm ⊢
    have HM := Lib.hid hm
    have HS := Lib.hid hs
    clear hm hs
    go_enter Tryz.func48, Tryz.ntmps48
    go_wp2_with fail
    refine HO.mono ?_
    rintro e w1 ⟨rfl, v1, h1, n1⟩
    have H1 := Lib.hid h1
    have N1 := Lib.hid n1
    clear h1 n1 HO
    go_wp2_with fail
    go_loopw [13] (fun i wr => ∃ (k : Nat) (vk : Value) (bk : List UInt8), k ≤ m ∧ i = .int .i64 (k : Int) ∧ Hid (WSt base wr g vk bk) ∧ Hid (Nx w wr g v vk) ∧ LStep R false t (deep + 1) k bk) (fun i _ => m - (intOf i).toNat)
    case atStart => exact ⟨0, v1, b1, Nat.zero_le _, rfl, H1, N1, HR0⟩
    case round =>
      obtain ⟨k, vk, bk, hk, rfl, hW, hX, hL⟩ := hrel
      have hBr : base ≤ wr.heap.size := Nat.le_trans hB hX.out.size
      by_cases hlt : k < m
      · obtain ⟨eb, eo, eA, enl, ecl, eB, enm, ecm, rfl, eP, ebl, e0, e1, e2, e3, e4, e5, r1, r2, s1, s2, hf⟩ := (HS.out.nx hX.out hg HW.out hB).el _ (by rw [HM.out]; exact hlt)
        obtain ⟨ev, hev⟩ : ∃ ev, (t.fall k).val = ev := ⟨_, rfl⟩
        rw [hev] at e0 e1 e2 e3 r1 r2 s1 s2 hf
        have hLs : R = (wrK false (prevK t k) (t.fall k).key bk).then fun b => (wrV ev (deep + 1) b).then fun b => wrF false (t.fall (k + 1)) (deep + 1) (prevK t (k + 1)) b := by
          rw [show R = _ from hL, wrF_step _ _ _ _ _ (by rw [HM.out]; exact hlt), hev]
        have hbk : ev.bulk ≤ N := by rw [← hev]; exact Nat.le_trans (JT.bulk_val t k (by rw [HM.out]; exact hlt)) hN
        have HLS := Lib.hid hLs
        have HE := Lib.hid hev
        have HK := Lib.hid (And.intro r1 (And.intro r2 (And.intro s1 (And.intro s2 (And.intro hf hbk)))))
        clear hL hLs hev r1 r2 s1 s2 hf hbk
        have hWl := hW.out.lt
        have hWo := hW.out.own
        have hbw : Below wr.heap.size wr (wr.alloc (.cells #[.int .i64 ev.kd, .bool ev.is, .int .i64 ev.n, .string ⟨ev.s.toArray⟩, .slice eA enl ecl, .slice eB enm ecm] 25)) := (Below.refl _ _).alloc (Nat.le_refl _) _
        have HBW := Lib.hid hbw
        have HWO := Lib.hid (And.intro hWl hWo)
        have hown2 : ∀ k, vk.ownBlock = some k → base ≤ k := fun k hk => (hWo k hk).1
        have HOW2 := Lib.hid hown2
        clear hbw hWl hWo hown2
        by_cases hk0 : 0 < k
        · have hk1 : decide (0 < k) = true := by simpa using hk0
          have HK1 := Lib.hid (show wrK false (prevK t k) (t.fall k).key bk = lng (bk ++ [44]) by rw [prevK_pos hk0, wrK_lS])
          clear hk0
          have HPUT := put_w base g vk bk [44] _ (hW.out.below HBW.out) (Nat.le_trans hBr HBW.out.size) (by simp)
          cases hp : lng (bk ++ [44]) with
          | error x =>
            have HRX := Lib.hid (show wrL t deep b = .error x by rw [HR.out, HLS.out, HK1.out, hp]; rfl)
            rw [hp] at HPUT
            clear hp
            go_wp2_with fail
            refine HPUT.mono ?_
            rintro e w2 ⟨rfl, v2, n2⟩
            go_wp2_with fail
            exact ⟨rfl, WEnd.bad HRX.out ((hX.out.trans (Nx.of_below HBW.out)).trans n2)⟩
          | ok b2 =>
            have HLS2 := Lib.hid (show R = (wrV ev (deep + 1) b2).then fun b => wrF false (t.fall (k + 1)) (deep + 1) (prevK t (k + 1)) b by rw [HLS.out, HK1.out, hp]; rfl)
            rw [hp] at HPUT
            clear hp
            go_wp2_with fail
            refine HPUT.mono ?_
            rintro e w2 ⟨rfl, v2, h2, n2⟩
            have bx := n2.blk (Blk.new wr [.int .i64 ev.kd, .bool ev.is, .int .i64 ev.n, .string ⟨ev.s.toArray⟩, .slice eA enl ecl, .slice eB enm ecm] 25) (by have := HWO.out.1; omega) (fun e => by have := (HWO.out.2 _ e).2; omega)
            have d0 := bx.cell (k := 0) rfl
            have d1 := bx.cell (k := 1) rfl
            have d2 := bx.cell (k := 2) rfl
            have d3 := bx.cell (k := 3) rfl
            have d4 := bx.cell (k := 4) rfl
            have d5 := bx.cell (k := 5) rfl
            have N2 := Lib.hid n2
            have H2 := Lib.hid h2
            have hB2 : base ≤ w2.heap.size := Nat.le_trans (Nat.le_trans hBr HBW.out.size) n2.size
            have HBL := Lib.hid (n2.below (HBW.out.mono hBr) hg (Nat.le_trans hBr HBW.out.size) HOW2.out)
            clear h2 n2 bx HPUT
            have HV := IH ev (deep + 1) ((deep : Int) + 1) base g v2 b2 w2 eA eB enl ecl enm ecm HK.out.2.2.2.2.2 (by omega) (by omega) hg hB2 HK.out.1 HK.out.2.1 (HK.out.2.2.1.blw HBL.out) (HK.out.2.2.2.1.blw HBL.out) HK.out.2.2.2.2.1 H2.out (HTT.out.nx ((hX.out.trans (Nx.of_below HBW.out)).trans N2.out) hg HW.out hB)
            cases hv : wrV ev (deep + 1) b2 with
            | error x =>
              have HRX := Lib.hid (show wrL t deep b = .error x by rw [HR.out, HLS2.out, hv]; rfl)
              rw [hv] at HV
              clear hv
              go_wp2_with fail
              refine HV.mono ?_
              rintro e w3 ⟨rfl, v3, n3⟩
              go_wp2_with fail
              exact ⟨rfl, WEnd.bad HRX.out (((hX.out.trans (Nx.of_below HBW.out)).trans N2.out).trans n3)⟩
            | ok b3 =>
              have HL3 : LStep R false t (deep + 1) (k + 1) b3 := by unfold LStep; rw [HLS2.out, hv]; rfl
              rw [hv] at HV
              clear hv
              go_wp2_with fail
              refine HV.mono ?_
              rintro e w3 ⟨rfl, v3, h3, n3⟩
              have H3 := Lib.hid h3
              have N3 := Lib.hid (((hX.out.trans (Nx.of_below HBW.out)).trans N2.out).trans n3)
              clear h3 n3 HV
              go_wp2_with fail
              go_roundw
              case rel => exact ⟨k + 1, v3, b3, by omega, by go_num, H3, N3, HL3⟩
              case measure => simp [intOf]; omega
        · have hk1 : decide (0 < k) = false := by simpa using hk0
          have HLS2 := Lib.hid (show R = (wrV ev (deep + 1) bk).then fun b => wrF false (t.fall (k + 1)) (deep + 1) (prevK t (k + 1)) b by rw [HLS.out, show prevK t k = none by unfold prevK; rw [if_pos (by omega)]]; rfl)
          clear hk0
          have hB2 : base ≤ (wr.alloc (.cells #[.int .i64 ev.kd, .bool ev.is, .int .i64 ev.n, .string ⟨ev.s.toArray⟩, .slice eA enl ecl, .slice eB enm ecm] 25)).heap.size := Nat.le_trans hBr HBW.out.size
          have HV := IH ev (deep + 1) ((deep : Int) + 1) base g vk bk _ eA eB enl ecl enm ecm HK.out.2.2.2.2.2 (by omega) (by omega) hg hB2 HK.out.1 HK.out.2.1 (HK.out.2.2.1.blw (HBW.out.mono hBr)) (HK.out.2.2.2.1.blw (HBW.out.mono hBr)) HK.out.2.2.2.2.1 (hW.out.below HBW.out) (HTT.out.nx (hX.out.trans (Nx.of_below HBW.out)) hg HW.out hB)
          clear hB2
          cases hv : wrV ev (deep + 1) bk with
          | error x =>
            have HRX := Lib.hid (show wrL t deep b = .error x by rw [HR.out, HLS2.out, hv]; rfl)
            rw [hv] at HV
            clear hv
            go_wp2_with fail
            refine HV.mono ?_
            rintro e w3 ⟨rfl, v3, n3⟩
            go_wp2_with fail
            exact ⟨rfl, WEnd.bad HRX.out ((hX.out.trans (Nx.of_below HBW.out)).trans n3)⟩
          | ok b3 =>
            have HL3 : LStep R false t (deep + 1) (k + 1) b3 := by unfold LStep; rw [HLS2.out, hv]; rfl
            rw [hv] at HV
            clear hv
            go_wp2_with fail
            refine HV.mono ?_
            rintro e w3 ⟨rfl, v3, h3, n3⟩
            have H3 := Lib.hid h3
            have N3 := Lib.hid ((hX.out.trans (Nx.of_below HBW.out)).trans n3)
            clear h3 n3 HV
            go_wp2_with fail
            go_roundw
            case rel => exact ⟨k + 1, v3, b3, by omega, by go_num, H3, N3, HL3⟩
            case measure => simp [intOf]; omega
      · obtain rfl : k = m := by omega
        have HRE := Lib.hid (show R = .ok bk by rw [show R = _ from hL, ← HM.out, wrF_end])
        have HPUT := put_w base g vk bk [93] _ hW.out hBr (by simp)
        clear hL
        cases hp : lng (bk ++ [93]) with
        | error x =>
          have HRX := Lib.hid (show wrL t deep b = .error x by rw [HR.out, HRE.out, then_ok, hp])
          rw [hp] at HPUT
          clear hp
          go_wp2_with fail
          refine HPUT.mono ?_
          rintro e w2 ⟨rfl, v2, n2⟩
          go_wp2_with fail
          exact ⟨rfl, WEnd.bad HRX.out (hX.out.trans n2)⟩
        | ok b2 =>
          have HRX := Lib.hid (show wrL t deep b = .ok b2 by rw [HR.out, HRE.out, then_ok, hp])
          rw [hp] at HPUT
          clear hp
          go_wp2_with fail
          refine HPUT.mono ?_
          rintro e w2 ⟨rfl, v2, h2, n2⟩
          go_wp2_with fail
          go_end0
          exact WEnd.ok HRX.out h2 (hX.out.trans n2)
end Go.Proofs.YtajkgcmopmpihaaGreatDoor
