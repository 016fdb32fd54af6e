/- Layer 19: lines and their records, and what a spool's calls make of it, pure. -/
import Derived.Test.YthhnbpbebplcoaaLetR
import Derived.Test.YthhnbpbebplcoaaLetLen
namespace Go.Proofs.Ythhnbpbebplcoaa
set_option linter.unusedVariables false

/-- Lines, one behind the other. -/
def flatL (zs : List (List UInt8)) : List UInt8 := zs.flatMap (· ++ [10])
theorem flatL_nil : flatL [] = [] := rfl
theorem flatL_cons (z : List UInt8) (zs : List (List UInt8)) : flatL (z :: zs) = z ++ 10 :: flatL zs := by simp [flatL]
theorem flatL_app (zs ys : List (List UInt8)) : flatL (zs ++ ys) = flatL zs ++ flatL ys := by simp [flatL]
theorem flatL_one (z : List UInt8) : flatL [z] = z ++ [10] := by simp [flatL]
theorem flatL_snoc (zs : List (List UInt8)) (z : List UInt8) : flatL (zs ++ [z]) = flatL zs ++ (z ++ [10]) := by rw [flatL_app, flatL_one]
/-- The lines of bytes, and what stands behind the last. -/
def splitF : List UInt8 → List (List UInt8) × List UInt8
  | [] => ([], [])
  | c :: l => if c = 10 then ([] :: (splitF l).1, (splitF l).2) else
    match (splitF l).1 with
    | [] => ([], c :: (splitF l).2)
    | z :: zs => ((c :: z) :: zs, (splitF l).2)
theorem splitF_cons10 (l : List UInt8) : splitF (10 :: l) = ([] :: (splitF l).1, (splitF l).2) := by rw [splitF, if_pos rfl]
theorem splitF_cons (c : UInt8) (l : List UInt8) (h : c ≠ 10) : splitF (c :: l) = match (splitF l).1 with
    | [] => ([], c :: (splitF l).2)
    | z :: zs => ((c :: z) :: zs, (splitF l).2) := by rw [splitF, if_neg h]
theorem splitF_line (z l : List UInt8) (h : (10 : UInt8) ∉ z) : splitF (z ++ 10 :: l) = (z :: (splitF l).1, (splitF l).2) := by
  induction z with
  | nil => exact splitF_cons10 l
  | cons c z ih =>
    rw [List.cons_append, splitF_cons _ _ (fun e => h (by rw [e]; exact List.mem_cons_self)), ih (fun e => h (List.mem_cons_of_mem _ e))]
theorem splitF_rest (r : List UInt8) (h : (10 : UInt8) ∉ r) : splitF r = ([], r) := by
  induction r with
  | nil => rfl
  | cons c z ih =>
    rw [splitF_cons _ _ (fun e => h (by rw [e]; exact List.mem_cons_self)), ih (fun e => h (List.mem_cons_of_mem _ e))]
theorem splitF_app (zs : List (List UInt8)) (l : List UInt8) (h : ∀ z ∈ zs, (10 : UInt8) ∉ z) : splitF (flatL zs ++ l) = (zs ++ (splitF l).1, (splitF l).2) := by
  induction zs with
  | nil => rfl
  | cons z zs ih =>
    rw [flatL_cons, List.append_assoc, List.cons_append, splitF_line _ _ (h z List.mem_cons_self), ih (fun y hy => h y (List.mem_cons_of_mem _ hy))]; rfl
theorem splitF_good : ∀ bs : List UInt8, (∀ z ∈ (splitF bs).1, (10 : UInt8) ∉ z) ∧ (10 : UInt8) ∉ (splitF bs).2 ∧ bs = flatL (splitF bs).1 ++ (splitF bs).2
  | [] => ⟨by simp [splitF], by simp [splitF], by simp [splitF, flatL]⟩
  | c :: l => by
    obtain ⟨h1, h2, h3⟩ := splitF_good l
    by_cases hc : c = 10
    · subst hc
      rw [splitF_cons10]
      refine ⟨?_, h2, ?_⟩
      · intro z hz
        rcases List.mem_cons.1 hz with rfl | hz
        · simp
        · exact h1 z hz
      · dsimp only
        rw [flatL_cons]
        rw [List.nil_append, List.cons_append, ← h3]
    · rw [splitF_cons c l hc]
      cases hs : (splitF l).1 with
      | nil =>
        rw [hs] at h3
        refine ⟨by simp, ?_, ?_⟩
        · dsimp only
          intro e
          rcases List.mem_cons.1 e with e | e
          · exact hc e.symm
          · exact h2 e
        · dsimp only
          rw [flatL_nil, List.nil_append]
          rw [flatL_nil, List.nil_append] at h3
          rw [← h3]
      | cons z zs =>
        rw [hs] at h1 h3
        refine ⟨?_, h2, ?_⟩
        · intro y hy
          rcases List.mem_cons.1 hy with rfl | hy
          · intro e
            rcases List.mem_cons.1 e with e | e
            · exact hc e.symm
            · exact h1 z List.mem_cons_self e
          · exact h1 y (List.mem_cons_of_mem _ hy)
        · dsimp only
          rw [flatL_cons, List.cons_append, List.cons_append]
          rw [flatL_cons] at h3
          rw [← h3]
theorem splitF_uniq (zs : List (List UInt8)) (r : List UInt8) (h : ∀ z ∈ zs, (10 : UInt8) ∉ z) (hr : (10 : UInt8) ∉ r) : splitF (flatL zs ++ r) = (zs, r) := by
  rw [splitF_app zs r h, splitF_rest r hr]; simp
/-- The records of lines. -/
def recsL : List (List UInt8) → Option (List (List UInt8))
  | [] => some []
  | z :: zs => (decF true z).bind fun b => (recsL zs).map (b :: ·)
theorem recsL_app (zs ys : List (List UInt8)) : recsL (zs ++ ys) = (recsL zs).bind fun a => (recsL ys).map (a ++ ·) := by
  induction zs with
  | nil => simp [recsL]
  | cons z zs ih =>
    rw [List.cons_append, recsL, recsL, ih]
    cases decF true z <;> cases recsL zs <;> cases recsL ys <;> simp
theorem recsL_snoc (zs : List (List UInt8)) (z : List UInt8) (rs : List (List UInt8)) (b : List UInt8) (h : recsL zs = some rs) (hb : decF true z = some b) : recsL (zs ++ [z]) = some (rs ++ [b]) := by
  rw [recsL_app, h]; simp [recsL, hb]
theorem recsL_bad (zs ys : List (List UInt8)) (z : List UInt8) (hb : decF true z = none) : recsL (zs ++ z :: ys) = none := by
  rw [recsL_app]; cases recsL zs <;> simp [recsL, hb]
theorem recsL_len : ∀ (zs rs : List (List UInt8)), recsL zs = some rs → rs.length = zs.length
  | [], rs, h => by simp [recsL] at h; subst h; rfl
  | z :: zs, rs, h => by
    rw [recsL] at h
    cases h1 : decF true z with
    | none => simp [h1] at h
    | some b =>
      cases h2 : recsL zs with
      | none => simp [h1, h2] at h
      | some q => simp [h1, h2] at h; subst h; simp [recsL_len zs q h2]
/-- The line of a record, without its end. -/
def lineF (r : List UInt8) : List UInt8 := encF true r
theorem lets_no10 (u : Bool) (m A q : Nat) : (10 : UInt8) ∉ lets u m A q := by
  intro h
  have := lets_good u m A q 10 h
  cases u <;> simp [numF] at this
theorem lineF_no10 (r : List UInt8) : (10 : UInt8) ∉ lineF r := lets_no10 _ _ _ _
theorem lineF_dec (r : List UInt8) : decF true (lineF r) = some r := decF_encF true r
theorem recsL_lines : ∀ rs : List (List UInt8), recsL (rs.map lineF) = some rs
  | [] => rfl
  | r :: rs => by rw [List.map_cons, recsL, lineF_dec, recsL_lines rs]; rfl
/-- A spool: its bytes, how many are synced, whether the power is off, the acts, what is armed. -/
structure Sp where
  bs : List UInt8
  sy : Nat
  dn : Bool
  ac : Nat
  lf : Nat
  kp : Int
def Sp.offK (s : Sp) (k : Int) : Nat := (max 0 (min k ((s.bs.length : Int) - (s.sy : Int)))).toNat
/-- The power goes. -/
def Sp.off (s : Sp) (k : Int) : Sp := if s.dn then s else { s with bs := s.bs.take (s.sy + s.offK k), sy := s.sy + s.offK k, dn := true, lf := 0 }
def Sp.on (s : Sp) : Sp := { s with dn := false }
def Sp.arm (s : Sp) (n k : Int) : Sp := { s with lf := n.toNat, kp := k }
/-- A raw act; true: the power goes in it. -/
def Sp.act (s : Sp) : Sp × Bool :=
  if s.lf = 0 then ({ s with ac := s.ac + 1 }, false)
  else if s.lf = 1 then (({ s with ac := s.ac + 1, lf := 0 } : Sp).off s.kp, true)
  else ({ s with ac := s.ac + 1, lf := s.lf - 1 }, false)
def Sp.full (s : Sp) (r : List UInt8) : Bool := decide (4194304 < s.bs.length + (lineF r).length + 1)
/-- Codes of errors: 0 OK. -/
def Sp.app (s : Sp) (r : List UInt8) : Sp × Int :=
  if s.dn then (s, 50) else if s.full r then (s, 51) else
  let p := ({ s with bs := s.bs ++ (lineF r ++ [10]) } : Sp).act
  (p.1, if p.2 then 50 else 0)
def Sp.sync (s : Sp) : Sp × Int :=
  if s.dn then (s, 50) else
  let p := s.act
  if p.2 then (p.1, 50) else ({ p.1 with sy := p.1.bs.length }, 0)
def Sp.lines (s : Sp) : List (List UInt8) := (splitF s.bs).1
def Sp.open_ (s : Sp) : Sp × List (List UInt8) × Int :=
  if s.dn then (s, [], 50) else
  match recsL s.lines with
  | none => (s, [], 4)
  | some rs => ({ s with bs := flatL s.lines, sy := min s.sy (flatL s.lines).length }, rs, 0)
/-- What always holds. -/
structure Sp.Ok (s : Sp) : Prop where
  sy : s.sy ≤ s.bs.length
  len : s.bs.length ≤ 4194304
  lf : s.lf < 2 ^ 63
  kp : -9223372036854775808 ≤ s.kp ∧ s.kp ≤ 9223372036854775807
theorem flatL_le (bs : List UInt8) : (flatL (splitF bs).1).length ≤ bs.length := by
  have h := (splitF_good bs).2.2
  have := congrArg List.length h
  rw [List.length_append] at this
  omega
theorem flatL_take (bs : List UInt8) : flatL (splitF bs).1 = bs.take (flatL (splitF bs).1).length := by
  obtain ⟨_, _, h⟩ := splitF_good bs
  generalize (splitF bs).1 = zs at h
  generalize (splitF bs).2 = r at h
  subst h
  simp
theorem Sp.offK_le (s : Sp) (k : Int) (h : s.sy ≤ s.bs.length) : s.sy + s.offK k ≤ s.bs.length := by unfold Sp.offK; omega
theorem Sp.Ok.off {s : Sp} (h : s.Ok) (k : Int) : (s.off k).Ok := by
  unfold Sp.off
  split
  · exact h
  · have h1 := s.offK_le k h.sy
    have h2 := h.len
    exact ⟨by simp; omega, by simp; omega, by simp, h.kp⟩
theorem Sp.Ok.on {s : Sp} (h : s.Ok) : s.on.Ok := ⟨h.sy, h.len, h.lf, h.kp⟩
theorem Sp.Ok.arm {s : Sp} (h : s.Ok) (n k : Int) (hn : n ≤ 9223372036854775807) (hk : -9223372036854775808 ≤ k ∧ k ≤ 9223372036854775807) : (s.arm n k).Ok := ⟨h.sy, h.len, by simp [Sp.arm]; omega, hk⟩
theorem Sp.Ok.act {s : Sp} (h : s.Ok) : s.act.1.Ok := by
  have := h.lf
  unfold Sp.act
  split
  · exact ⟨h.sy, h.len, h.lf, h.kp⟩
  · split
    · exact Sp.Ok.off (s := { s with ac := s.ac + 1, lf := 0 }) ⟨h.sy, h.len, by show 0 < 2 ^ 63; omega, h.kp⟩ _
    · exact ⟨h.sy, h.len, by simp; omega, h.kp⟩
theorem Sp.Ok.app {s : Sp} (h : s.Ok) (r : List UInt8) : (s.app r).1.Ok := by
  have h1 := h.sy
  unfold Sp.app
  split
  · exact h
  · by_cases hf : s.full r = true
    · rw [if_pos hf]; exact h
    · rw [if_neg hf]
      have h2 : s.bs.length + (lineF r).length + 1 ≤ 4194304 := by simpa [Sp.full] using hf
      exact Sp.Ok.act ⟨by simp; omega, by simp; omega, h.lf, h.kp⟩
theorem Sp.Ok.sync {s : Sp} (h : s.Ok) : s.sync.1.Ok := by
  unfold Sp.sync
  split
  · exact h
  · have h1 := h.act
    dsimp only
    split
    · exact h1
    · exact ⟨Nat.le_refl _, h1.len, h1.lf, h1.kp⟩
theorem Sp.Ok.open_ {s : Sp} (h : s.Ok) : s.open_.1.Ok := by
  unfold Sp.open_
  split
  · exact h
  · split
    · exact h
    · have h1 := flatL_le s.bs
      have h2 := h.len
      exact ⟨Nat.min_le_right _ _, Nat.le_trans h1 h2, h.lf, h.kp⟩
theorem Sp.act_ac (s : Sp) : s.act.1.ac = s.ac + 1 := by
  unfold Sp.act Sp.off
  split
  · rfl
  · split
    · dsimp only; split <;> rfl
    · rfl
theorem Sp.app_ac (s : Sp) (r : List UInt8) : (s.app r).1.ac ≤ s.ac + 1 := by
  unfold Sp.app
  split
  · exact Nat.le_succ _
  · split
    · exact Nat.le_succ _
    · rw [Sp.act_ac]; exact Nat.le_refl _
theorem Sp.sync_ac (s : Sp) : s.sync.1.ac ≤ s.ac + 1 := by
  unfold Sp.sync
  split
  · exact Nat.le_succ _
  · dsimp only
    have h := s.act_ac
    split
    · show s.act.1.ac ≤ _; omega
    · show s.act.1.ac ≤ _; omega
theorem Sp.open_ac (s : Sp) : s.open_.1.ac = s.ac := by
  unfold Sp.open_
  split
  · rfl
  · split <;> rfl
theorem Sp.off_ac (s : Sp) (k : Int) : (s.off k).ac = s.ac := by
  unfold Sp.off; split <;> rfl
end Go.Proofs.Ythhnbpbebplcoaa
