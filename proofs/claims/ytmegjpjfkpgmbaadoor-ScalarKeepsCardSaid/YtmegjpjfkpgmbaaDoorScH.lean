/- Layer 5: the document's Rest, walked. -/
import Derived.Test.YtmegjpjfkpgmbaaDoorScG
namespace Go.Proofs.YtmegjpjfkpgmbaaDoor
open Go.ChangeShapes Go.WideShapes Go.ChangeAt Go.RowKit Go.IntWalk
set_option linter.unusedVariables false

/-- Digits of 256, 33 of them. -/
def Dig (ds : List Int) (v : Int) : Prop := ds.length = 33 ∧ (∀ x ∈ ds, 0 ≤ x ∧ x < 256) ∧ valD ds = v
theorem valD_app (xs ys : List Int) : valD (xs ++ ys) = valD xs + 256 ^ xs.length * valD ys := by
  induction xs with
  | nil => simp [valD]
  | cons x xs ih =>
    simp only [List.cons_append, valD, ih, List.length_cons, Int.pow_succ]
    rw [Int.mul_add, Int.mul_comm (256 ^ xs.length) 256, Int.mul_assoc]; omega
theorem valD_lt : ∀ (ds : List Int), (∀ x ∈ ds, 0 ≤ x ∧ x < 256) → 0 ≤ valD ds ∧ valD ds < 256 ^ ds.length
  | [], _ => by simp [valD]
  | d :: ds, h => by
    have ih := valD_lt ds (fun x hx => h x (List.mem_cons_of_mem _ hx))
    have h1 := h d (List.mem_cons_self ..)
    rw [List.length_cons, Int.pow_succ]
    simp only [valD]
    omega
theorem valD_take (ds : List Int) (k : Nat) (d : Int) (h : ds[k]? = some d) : valD (ds.take (k + 1)) = valD (ds.take k) + 256 ^ k * d := by
  have hk := (List.getElem?_eq_some_iff.1 h).1
  rw [List.take_add_one, h, Option.toList_some, valD_app, List.length_take, Nat.min_eq_left (by omega)]
  simp [valD]
theorem takeSet (l : List Int) (k : Nat) (x : Int) (h : k < l.length) : (l.set k x).take (k + 1) = l.take k ++ [x] := by
  rw [List.take_add_one, List.getElem?_set_self h, List.take_set_of_le (by omega)]; rfl
theorem valD_set (ds : List Int) (k : Nat) (d : Int) (h : k < ds.length) : valD ((ds.set k d).take (k + 1)) = valD (ds.take k) + 256 ^ k * d := by
  rw [takeSet ds k d h, valD_app, List.length_take, Nat.min_eq_left (by omega)]
  simp [valD]
/-- Where the digits move up: behind the round of index j. -/
def shD (ds : List Int) (j : Nat) : List Int := ds.take (j + 1) ++ (ds.drop j).take (32 - j)
theorem shD_top (ds : List Int) (h : ds.length = 33) : shD ds 32 = ds := by
  unfold shD; rw [List.take_of_length_le (by omega)]; simp
theorem shD_len (ds : List Int) (j : Nat) (h : ds.length = 33) (hj : j ≤ 32) : (shD ds j).length = 33 := by
  unfold shD; simp; omega
theorem shD_at (ds : List Int) (j : Nat) (h : ds.length = 33) (hj : j + 1 ≤ 32) : (shD ds (j + 1))[j]? = ds[j]? := by
  unfold shD
  rw [List.getElem?_append_left (by simp; omega), List.getElem?_take, if_pos (by omega)]
theorem shD_step (ds : List Int) (j : Nat) (d : Int) (h : ds.length = 33) (hj : j + 1 ≤ 32) (hd : ds[j]? = some d) : (shD ds (j + 1)).set (j + 1) d = shD ds j := by
  have hjl : j < ds.length := by omega
  have e1 : ds.drop j = d :: ds.drop (j + 1) := by
    rw [List.drop_eq_getElem_cons hjl]
    rw [List.getElem?_eq_getElem hjl] at hd
    rw [Option.some.inj hd]
  unfold shD
  have hl : (ds.take (j + 1 + 1)).length = j + 1 + 1 := by simp; omega
  rw [List.set_append_left _ _ (by omega), e1, show 32 - j = (32 - (j + 1)) + 1 by omega, List.take_succ_cons]
  have e2 : (ds.take (j + 1 + 1)).set (j + 1) d = ds.take (j + 1) ++ [d] := by
    rw [List.take_add_one (i := j + 1), List.getElem?_eq_getElem (show j + 1 < ds.length by omega), Option.toList_some, List.set_append_right _ _ (by simp; omega)]
    congr 1
    rw [List.length_take, Nat.min_eq_left (by omega), Nat.sub_self]; rfl
  rw [e2, List.append_assoc]; rfl
theorem shD_zero (ds : List Int) (d : Int) (h : ds.length = 33) : (shD ds 0).set 0 d = d :: ds.take 32 := by
  cases ds with
  | nil => simp at h
  | cons x xs => simp [shD]
theorem dig_push (ds : List Int) (v c : Int) (h : Dig ds v) (hv : v < 256 ^ 32) (hc : 0 ≤ c ∧ c < 256) : Dig (c :: ds.take 32) (256 * v + c) := by
  obtain ⟨hl, hr, hval⟩ := h
  obtain ⟨d, hd⟩ : ∃ d, ds[32]? = some d := ⟨_, List.getElem?_eq_getElem (by omega)⟩
  have h1 := valD_take ds 32 d hd
  rw [List.take_of_length_le (by omega), hval] at h1
  have h2 := valD_lt (ds.take 32) (fun x hx => hr x (List.mem_of_mem_take hx))
  have hdr := hr d (List.mem_of_getElem? hd)
  have hlt : (ds.take 32).length = 32 := by simp; omega
  rw [hlt] at h2
  refine ⟨by simp; omega, fun x hx => ?_, ?_⟩
  · rcases List.mem_cons.1 hx with rfl | hx
    · exact hc
    · exact hr x (List.mem_of_mem_take hx)
  · simp only [valD]; omega
/-- Where the order is taken off: digits, and what is borrowed. -/
def SbS (es : List Int) (k : Nat) (u : Int) (ds : List Int) : Prop :=
  ds.length = 33 ∧ (∀ i, k ≤ i → ds[i]? = es[i]?) ∧ (∀ x ∈ ds, 0 ≤ x ∧ x < 256) ∧ (u = 0 ∨ u = 1) ∧ valD (ds.take k) + valD (lD.take k) = valD (es.take k) + 256 ^ k * u
theorem SbS.step {es ds : List Int} {k : Nat} {u d e z v : Int} (h : SbS es k u ds) (hk : k < 33) (hd : es[k]? = some d) (he : lD[k]? = some e) (hz : 0 ≤ z ∧ z < 256) (hv : v = 0 ∨ v = 1) (hw : z + e + u = d + 256 * v) : SbS es (k + 1) v (ds.set k z) := by
  obtain ⟨hl, hs, hr, hu, hval⟩ := h
  refine ⟨by rw [List.length_set]; exact hl, fun i hi => ?_, fun x hx => ?_, hv, ?_⟩
  · rw [List.getElem?_set_ne (by omega)]; exact hs i (by omega)
  · rcases List.mem_or_eq_of_mem_set hx with h | rfl
    · exact hr x h
    · exact hz
  · rw [valD_set _ _ _ (by omega), valD_take _ _ _ he, valD_take _ _ _ hd, Int.pow_succ]
    have h2 : 256 ^ k * z + 256 ^ k * e + 256 ^ k * u = 256 ^ k * d + 256 ^ k * (256 * v) := by rw [← Int.mul_add, ← Int.mul_add, ← Int.mul_add, hw]
    rw [← Int.mul_assoc] at h2
    omega
theorem SbS.done {es ds : List Int} {u v : Int} (h : SbS es 33 u ds) (he : Dig es v) (hv : (LO : Int) ≤ v) : Dig ds (v - LO) := by
  obtain ⟨hl, _, hr, hu, hval⟩ := h
  rw [List.take_of_length_le (by omega), List.take_of_length_le (by decide), List.take_of_length_le (by rw [he.1]; omega), lD_val, he.2.2] at hval
  have h1 := valD_lt ds hr
  rw [hl] at h1
  refine ⟨hl, hr, ?_⟩
  have : (256 : Int) ^ 33 = 29642774844752946028434172162224104410437116074403984394101141506025761187823616 := by decide +kernel
  rw [this] at hval h1
  rcases hu with rfl | rfl <;> omega
theorem SbS.start {es : List Int} {v : Int} (he : Dig es v) : SbS es 0 0 es := ⟨he.1, fun _ _ => rfl, he.2.1, .inl rfl, by simp [valD]⟩
end Go.Proofs.YtmegjpjfkpgmbaaDoor
