/- Layer 8, no run: what is put between quotes is read from there, and what is read is a text. -/
import Derived.Test.YtklghjeinempmaaQuM
namespace Go.Proofs.Ytklghjeinempmaa
open Go.Lib
set_option linter.unusedVariables false

theorem u8n (n : Nat) (h : n < 256) : (UInt8.ofNat n).toNat = n := by simp; omega
/-- Of a rune's bytes, whatever follows, the rune is read. -/
theorem dec_enc (r : Nat) (h : OkR r) (X : List UInt8) : decodeL (encodeRune (r : Int) ++ X) = (r, (encodeRune (r : Int)).length) := by
  unfold OkR at h
  by_cases h1 : r < 128
  · rw [enc1 r h1, decodeL_N]
    simp only [List.cons_append, List.nil_append, List.getD_cons_zero, List.length_cons, List.length_nil]
    rw [u8n r (by omega)]
    unfold decodeN; rw [if_pos h1]
  · by_cases h2 : r < 2048
    · rw [enc2 r (by omega) h2, decodeL_N]
      simp only [List.cons_append, List.nil_append, List.getD_cons_zero, List.getD_cons_succ, List.length_cons, List.length_nil]
      rw [u8n _ (by omega), u8n _ (by omega)]
      unfold decodeN
      rw [if_neg (by omega), if_pos (by omega), if_pos (by omega)]
      congr 1; omega
    · by_cases h3 : r < 65536
      · rw [enc3 r (by omega) h3 h, decodeL_N]
        simp only [List.cons_append, List.nil_append, List.getD_cons_zero, List.getD_cons_succ, List.length_cons, List.length_nil]
        rw [u8n _ (by omega), u8n _ (by omega), u8n _ (by omega)]
        unfold decodeN
        rw [if_neg (by omega), if_neg (by omega), if_pos (by omega), if_pos (by omega)]
        congr 1; omega
      · rw [enc4 r (by omega) h, decodeL_N]
        simp only [List.cons_append, List.nil_append, List.getD_cons_zero, List.getD_cons_succ, List.length_cons, List.length_nil]
        rw [u8n _ (by omega), u8n _ (by omega), u8n _ (by omega), u8n _ (by omega)]
        unfold decodeN
        rw [if_neg (by omega), if_neg (by omega), if_neg (by omega), if_pos (by omega), if_pos (by omega)]
        congr 1; omega
theorem enc_pos (r : Nat) : 1 ≤ (encodeRune (r : Int)).length := by
  have := (encodeRuneZ_length r).1
  unfold encodeRune; rw [List.length_map]; exact this
theorem enc_ne (r : Nat) (X : List UInt8) : encodeRune (r : Int) ++ X ≠ [] := by
  intro h
  have := congrArg List.length h
  rw [List.length_append, List.length_nil] at this
  have := enc_pos r
  omega
theorem enc_noR (r : Nat) (h : OkR r) (X : List UInt8) : ¬ NoR (encodeRune (r : Int) ++ X) := by
  intro hn
  unfold NoR at hn
  rw [dec_enc r h X] at hn
  obtain ⟨a, b⟩ := hn
  simp only at a b
  subst a
  exact absurd b (by decide)
theorem valid_enc (r : Nat) (h : OkR r) (X : List UInt8) : validD (encodeRune (r : Int) ++ X) = validD X := by
  rw [validD_step _ (enc_ne r X)]
  have := enc_noR r h X
  unfold NoR at this
  rw [if_neg this, dec_enc r h X]
  simp

/-- A text by its runes. -/
theorem valid_runes : ∀ (n : Nat) (l : List UInt8), l.length ≤ n → validD l = true → ∃ rs : List Nat, (∀ r ∈ rs, OkR r) ∧ l = rs.flatMap fun (r : Nat) => encodeRune (r : Int)
  | 0, l, h, _ => ⟨[], by simp, by simpa using h⟩
  | n + 1, l, h, hv => by
    by_cases hne : l = []
    · exact ⟨[], by simp, by simpa using hne⟩
    · have hn : ¬ NoR l := by
        intro hn
        rw [valid_stop l hne hn] at hv
        cases hv
      have hv2 := hv
      rw [valid_go l hne hn] at hv2
      have hw := decodeL_width l
      obtain ⟨rs, h1, h2⟩ := valid_runes n (l.drop (decodeL l).2) (by rw [List.length_drop]; omega) hv2
      refine ⟨(decodeL l).1 :: rs, ?_, ?_⟩
      · intro r hr
        rcases List.mem_cons.1 hr with rfl | hr
        · exact decode_ok l hne hn
        · exact h1 r hr
      · rw [List.flatMap_cons, ← h2, encode_decode l hne hn, List.take_append_drop]
theorem runes_valid (rs : List Nat) (h : ∀ r ∈ rs, OkR r) (X : List UInt8) : validD ((rs.flatMap fun (r : Nat) => encodeRune (r : Int)) ++ X) = validD X := by
  induction rs with
  | nil => rfl
  | cons r rs ih =>
    rw [List.flatMap_cons, List.append_assoc, valid_enc r (h r (by simp)), ih (fun x hx => h x (by simp [hx]))]

theorem hexB_dig : ∀ i : Fin 16, digV (hexB i.val) = some i.val := by decide
theorem digV_hexB (i : Nat) (h : i < 16) : digV (hexB i) = some i := hexB_dig ⟨i, h⟩
theorem hexB_asc : ∀ i : Fin 16, (hexB i.val).toNat < 128 := by decide
/-- The escape of a byte of ASCII is read as it. -/
theorem step_esc (c : UInt8) (h : c.toNat < 128) (X : List UInt8) : stepF (escB c ++ X) = (c.toNat, (escB c).length) ∧ (escB c ++ X).getD 0 0 ≠ 34 ∧ escB c ≠ [] ∧ ∀ b ∈ escB c, b.toNat < 128 := by
  unfold escB
  by_cases h1 : c = 34 ∨ c = 92
  · rw [if_pos h1]; rcases h1 with rfl | rfl
    · exact ⟨rfl, by simp, by simp, by simp⟩
    · exact ⟨rfl, by simp, by simp, by simp⟩
  rw [if_neg h1]
  by_cases h2 : c = 8
  · rw [if_pos h2]; subst h2; exact ⟨rfl, by simp, by simp, by simp⟩
  rw [if_neg h2]
  by_cases h3 : c = 9
  · rw [if_pos h3]; subst h3; exact ⟨rfl, by simp, by simp, by simp⟩
  rw [if_neg h3]
  by_cases h4 : c = 10
  · rw [if_pos h4]; subst h4; exact ⟨rfl, by simp, by simp, by simp⟩
  rw [if_neg h4]
  by_cases h5 : c = 12
  · rw [if_pos h5]; subst h5; exact ⟨rfl, by simp, by simp, by simp⟩
  rw [if_neg h5]
  by_cases h6 : c = 13
  · rw [if_pos h6]; subst h6; exact ⟨rfl, by simp, by simp, by simp⟩
  rw [if_neg h6]
  by_cases h7 : c.toNat < 32
  · rw [if_pos h7]
    refine ⟨?_, by simp, by simp, ?_⟩
    · show (if (92 : UInt8) = 92 then escF _ else _) = _
      rw [if_pos rfl]
      show escF (92 :: 117 :: 48 :: 48 :: hexB (c.toNat / 16) :: hexB (c.toNat % 16) :: X) = _
      rw [escF_two]
      show numF _ = _
      have hx : hexF (92 :: 117 :: 48 :: 48 :: hexB (c.toNat / 16) :: hexB (c.toNat % 16) :: X) = some c.toNat := by
        rw [hexF_six, if_pos ⟨rfl, rfl⟩, hexN_some (show digV 48 = some 0 from rfl), hexN_some (show digV 48 = some 0 from rfl), hexN_some (digV_hexB _ (by omega)), hexN_some (digV_hexB _ (by omega))]
        show some _ = _
        congr 1; omega
      unfold numF
      rw [hx]
      simp only []
      rw [if_neg (by omega), if_pos (by omega)]
      rfl
    · intro b hb
      simp only [List.mem_cons, List.not_mem_nil, or_false] at hb
      rcases hb with rfl | rfl | rfl | rfl | rfl | rfl
      · decide
      · decide
      · decide
      · decide
      · exact hexB_asc ⟨_, by omega⟩
      · exact hexB_asc ⟨_, by omega⟩
  · rw [if_neg h7]
    refine ⟨?_, ?_, by simp, by simpa using h⟩
    · show (if c = 92 then escF _ else if (runeF (c :: X)).1 < 32 then (0, 0) else runeF (c :: X)) = _
      rw [if_neg (fun e => h1 (.inr e)), cls_1 c X h]
      simp only []
      rw [if_neg h7]; rfl
    · show c ≠ 34
      exact fun e => h1 (.inl e)
theorem scan_step (m : List UInt8) (h : m.getD 0 0 ≠ 34) (hne : m ≠ []) (h0 : (stepF m).2 ≠ 0) :
    scan m = (scan (m.drop (stepF m).2)).map fun p => (encodeRune ((stepF m).1 : Int) ++ p.1, (stepF m).2 + p.2) := by
  cases m with
  | nil => exact absurd rfl hne
  | cons c t => exact scan_next c t h h0
/-- A rune between quotes is read as it. -/
theorem step_rune (r : Nat) (h : OkR r) (X : List UInt8) : stepF (escL (encodeRune (r : Int)) ++ X) = (r, (escL (encodeRune (r : Int))).length) ∧ (escL (encodeRune (r : Int)) ++ X).getD 0 0 ≠ 34 ∧ escL (encodeRune (r : Int)) ≠ [] ∧ validD (escL (encodeRune (r : Int)) ++ X) = validD X := by
  by_cases h1 : r < 128
  · rw [enc1 r h1]
    have e : escL [UInt8.ofNat r] = escB (UInt8.ofNat r) := by simp [escL]
    obtain ⟨a, b, c, d⟩ := step_esc (UInt8.ofNat r) (by rw [u8n r (by omega)]; exact h1) X
    rw [e]
    refine ⟨by rw [a, u8n r (by omega)], b, c, ?_⟩
    rw [validD_ascii (escB (UInt8.ofNat r)).length _ (by rw [List.take_left]; exact d), List.drop_left]
  · have hp : ∀ c ∈ encodeRune (r : Int), 128 ≤ c.toNat := by
      unfold OkR at h
      intro c hc
      by_cases h2 : r < 2048
      · rw [enc2 r (by omega) h2] at hc
        simp only [List.mem_cons, List.not_mem_nil, or_false] at hc
        rcases hc with rfl | rfl <;> (rw [u8n _ (by omega)]; omega)
      · by_cases h3 : r < 65536
        · rw [enc3 r (by omega) h3 h] at hc
          simp only [List.mem_cons, List.not_mem_nil, or_false] at hc
          rcases hc with rfl | rfl | rfl <;> (rw [u8n _ (by omega)]; omega)
        · rw [enc4 r (by omega) h] at hc
          simp only [List.mem_cons, List.not_mem_nil, or_false] at hc
          rcases hc with rfl | rfl | rfl | rfl <;> (rw [u8n _ (by omega)]; omega)
    rw [escL_plain _ hp]
    have hd := dec_enc r h X
    have hne := enc_ne r X
    have hl := enc_pos r
    obtain ⟨c, t, hct⟩ : ∃ c t, encodeRune (r : Int) = c :: t := by
      cases he : encodeRune (r : Int) with
      | nil => rw [he] at hl; simp at hl
      | cons c t => exact ⟨c, t, rfl⟩
    have hc := hp c (by rw [hct]; simp)
    have h34 : (encodeRune (r : Int) ++ X).getD 0 0 = c := by rw [hct]; rfl
    refine ⟨?_, ?_, ?_, valid_enc r h X⟩
    · have hr : runeF (encodeRune (r : Int) ++ X) = (r, (encodeRune (r : Int)).length) := by rw [runeF_of hne, if_neg (enc_noR r h X), hd]
      unfold stepF
      rw [h34, if_neg (by intro e; subst e; exact absurd hc (by decide)), hr]
      simp only []
      rw [if_neg (by omega)]
    · rw [h34]; intro e; subst e; exact absurd hc (by decide)
    · rw [hct]; simp
theorem scan_runes (rs : List Nat) (h : ∀ r ∈ rs, OkR r) (X : List UInt8) :
    scan (escL (rs.flatMap fun (r : Nat) => encodeRune (r : Int)) ++ 34 :: X) = some (rs.flatMap fun (r : Nat) => encodeRune (r : Int), (escL (rs.flatMap fun (r : Nat) => encodeRune (r : Int))).length + 1) ∧
      ∀ Y, validD (escL (rs.flatMap fun (r : Nat) => encodeRune (r : Int)) ++ Y) = validD Y := by
  induction rs with
  | nil => exact ⟨scan_quote X, fun Y => rfl⟩
  | cons r rs ih =>
    obtain ⟨ih1, ih2⟩ := ih (fun x hx => h x (by simp [hx]))
    have hr := h r (by simp)
    rw [List.flatMap_cons, escL_app]
    refine ⟨?_, fun Y => ?_⟩
    · rw [List.append_assoc]
      obtain ⟨a, b, c, d⟩ := step_rune r hr (escL (rs.flatMap fun (r : Nat) => encodeRune (r : Int)) ++ 34 :: X)
      have hpos : (escL (encodeRune (r : Int))).length ≠ 0 := by intro e; exact c (List.length_eq_zero_iff.1 e)
      rw [scan_step _ b (by intro e; exact c (List.append_eq_nil_iff.1 e).1) (by rw [a]; exact hpos), a]
      simp only [List.drop_left]
      rw [ih1]
      simp; omega
    · rw [List.append_assoc]
      obtain ⟨a, b, c, d⟩ := step_rune r hr (escL (rs.flatMap fun (r : Nat) => encodeRune (r : Int)) ++ Y)
      rw [d, ih2]
/-- What Put writes is read as it is, whatever stands behind; and is a text. -/
theorem scan_put (l : List UInt8) (hv : validD l = true) (X : List UInt8) : scan (escL l ++ 34 :: X) = some (l, (escL l).length + 1) := by
  obtain ⟨rs, h1, rfl⟩ := valid_runes _ l (Nat.le_refl _) hv
  exact (scan_runes rs h1 X).1
theorem valid_put (l : List UInt8) (hv : validD l = true) : validD (34 :: (escL l ++ [34])) = true := by
  obtain ⟨rs, h1, rfl⟩ := valid_runes _ l (Nat.le_refl _) hv
  rw [validD_cons _ _ (by decide), (scan_runes rs h1 []).2]
  rfl
theorem takeF_in' (l : List UInt8) (a : Nat) (h : a < l.length) (hq : l.getD a 0 = 34) : takeF l (a : Int) = fin (a + 1) (scan (l.drop (a + 1))) := by
  unfold takeF; rw [if_pos ⟨by omega, by omega, by simpa using hq⟩]; simp
theorem put_take (l ahead behind : List UInt8) (hv : validD l = true) : takeF (ahead ++ (34 :: escL l ++ [34]) ++ behind) (ahead.length : Nat) = (l, ((ahead.length + (34 :: escL l ++ [34]).length : Nat) : Int), true) := by
  have e : ahead ++ (34 :: escL l ++ [34]) ++ behind = ahead ++ 34 :: (escL l ++ 34 :: behind) := by simp
  rw [e, takeF_in' _ _ (by simp) (by simp)]
  have e2 : (ahead ++ 34 :: (escL l ++ 34 :: behind)).drop (ahead.length + 1) = escL l ++ 34 :: behind := by
    rw [← List.drop_drop, List.drop_left]; rfl
  rw [e2, scan_put l hv]
  show (_, _, _) = _
  simp; omega
/-- What is read is a text, and no longer than four times what it is read from. -/
theorem scan_ok : ∀ (n : Nat) (m : List UInt8), m.length ≤ n → ∀ out k, scan m = some (out, k) → validD out = true ∧ 1 ≤ k ∧ k ≤ m.length ∧ out.length ≤ 4 * k
  | 0, m, h, out, k, hs => by
    have : m = [] := List.length_eq_zero_iff.1 (by omega)
    subst this; cases hs
  | n + 1, [], h, out, k, hs => by cases hs
  | n + 1, c :: t, h, out, k, hs => by
    by_cases h34 : c = 34
    · subst h34
      rw [scan_quote] at hs
      injection hs with hs
      injection hs with a b
      subst a; subst b
      exact ⟨rfl, Nat.le_refl _, by simp, by simp⟩
    · by_cases h0 : (stepF (c :: t)).2 = 0
      · rw [scan_fail c t h34 h0] at hs; cases hs
      · obtain ⟨ok, hle, _⟩ := stepF_ok (c :: t) h0
        rw [scan_next c t h34 h0] at hs
        cases hd : scan ((c :: t).drop (stepF (c :: t)).2) with
        | none => rw [hd] at hs; cases hs
        | some p =>
          obtain ⟨o, j⟩ := p
          rw [hd] at hs
          simp only [Option.map_some, Option.some.injEq, Prod.mk.injEq] at hs
          obtain ⟨rfl, rfl⟩ := hs
          have hdl : ((c :: t).drop (stepF (c :: t)).2).length = (c :: t).length - (stepF (c :: t)).2 := List.length_drop
          obtain ⟨i1, i2, i3, i4⟩ := scan_ok n _ (by omega) o j hd
          have h4 := len_rune4 (stepF (c :: t)).1
          refine ⟨by rw [valid_enc _ ok]; exact i1, by omega, by omega, by rw [List.length_append]; omega⟩
end Go.Proofs.Ytklghjeinempmaa
