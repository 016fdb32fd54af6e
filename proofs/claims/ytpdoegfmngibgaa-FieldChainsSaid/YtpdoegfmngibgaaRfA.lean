/- Layer 4: the document's numbers of sixteen digits: carrying, pure. -/
import Derived.Test.YtpdoegfmngibgaaFdN
namespace Go.Proofs.Ytpdoegfmngibgaa
open Go.ChangeShapes Go.WideShapes Go.ChangeAt Go.RowKit Go.IntWalk
set_option linter.unusedVariables false

def i64s (ds : List Int) : List Value := ds.map (Value.int .i64)
def A16 (ds : List Int) : Value := .agg (i64s ds).toArray
/-- What digits are. -/
def valD : List Int → Int
  | [] => 0
  | d :: ds => d + 65536 * valD ds
/-- Carrying from digit to digit. -/
def cgo : Int → List Int → List Int × Int
  | c, [] => ([], c)
  | c, d :: ds => ((d + c) % 65536 :: (cgo ((d + c) / 65536) ds).1, (cgo ((d + c) / 65536) ds).2)
def carryF (ds : List Int) : List Int := (cgo 0 ds).1.set 0 ((cgo 0 ds).1.getD 0 0 + 38 * (cgo 0 ds).2)
theorem cgo_len : ∀ (c : Int) (ds : List Int), (cgo c ds).1.length = ds.length
  | c, [] => rfl
  | c, d :: ds => by simp [cgo, cgo_len]
theorem cgo_val : ∀ (c : Int) (ds : List Int), valD (cgo c ds).1 + (cgo c ds).2 * 65536 ^ ds.length = c + valD ds
  | c, [] => by simp [cgo, valD]
  | c, d :: ds => by
    have ih := cgo_val ((d + c) / 65536) ds
    simp only [cgo, valD, List.length_cons, Int.pow_succ]
    rw [show (cgo ((d + c) / 65536) ds).2 * ((65536 : Int) ^ ds.length * 65536) = 65536 * ((cgo ((d + c) / 65536) ds).2 * 65536 ^ ds.length) by rw [← Int.mul_assoc, Int.mul_comm]]
    generalize (cgo ((d + c) / 65536) ds).2 * 65536 ^ ds.length = q at *
    generalize valD (cgo ((d + c) / 65536) ds).1 = v at *
    omega
theorem cgo_rng : ∀ (c : Int) (ds : List Int), ∀ x ∈ (cgo c ds).1, 0 ≤ x ∧ x < 65536
  | c, [], x, h => by simp [cgo] at h
  | c, d :: ds, x, h => by
    simp only [cgo, List.mem_cons] at h
    rcases h with rfl | h
    · omega
    · exact cgo_rng _ _ x h
/-- How great a carry can be. -/
theorem cgo_bnd (B C : Int) (hC : B + C ≤ 65536 * C - 65536) : ∀ (c : Int) (ds : List Int), -C ≤ c ∧ c ≤ C → (∀ x ∈ ds, -B ≤ x ∧ x ≤ B) → -C ≤ (cgo c ds).2 ∧ (cgo c ds).2 ≤ C
  | c, [], hc, _ => hc
  | c, d :: ds, hc, h => by
    simp only [cgo]
    have hd := h d (List.mem_cons_self ..)
    exact cgo_bnd B C hC _ ds ⟨by omega, by omega⟩ fun x hx => h x (List.mem_cons_of_mem _ hx)
theorem cgo_one : ∀ (c : Int) (ds : List Int), -1 ≤ c ∧ c ≤ 1 → (∀ x ∈ ds, 0 ≤ x ∧ x < 65536) → -1 ≤ (cgo c ds).2 ∧ (cgo c ds).2 ≤ 1
  | c, [], hc, _ => hc
  | c, d :: ds, hc, h => by
    simp only [cgo]
    have hd := h d (List.mem_cons_self ..)
    exact cgo_one _ ds ⟨by omega, by omega⟩ fun x hx => h x (List.mem_cons_of_mem _ hx)
theorem cgo_app : ∀ (c : Int) (xs ys : List Int), cgo c (xs ++ ys) = ((cgo c xs).1 ++ (cgo (cgo c xs).2 ys).1, (cgo (cgo c xs).2 ys).2)
  | c, [], ys => rfl
  | c, d :: xs, ys => by simp [cgo, cgo_app]
theorem valD_lt : ∀ ds : List Int, (∀ x ∈ ds, 0 ≤ x ∧ x < 65536) → 0 ≤ valD ds ∧ valD ds < 65536 ^ ds.length
  | [], _ => by simp [valD]
  | d :: ds, h => by
    have ih := valD_lt ds fun x hx => h x (List.mem_cons_of_mem _ hx)
    have hd := h d (List.mem_cons_self ..)
    simp only [valD, List.length_cons, Int.pow_succ]
    omega
theorem carryF_len (ds : List Int) : (carryF ds).length = ds.length := by simp [carryF, cgo_len]
theorem valD_set0 (e k : Int) (es : List Int) : valD ((e :: es).set 0 (e + k)) = valD (e :: es) + k := by simp [valD]; omega
def Q256 : Int := 115792089237316195423570985008687907853269984665640564039457584007913129639898
theorem Q256_eq : Q256 = 65536 ^ 16 - 38 := by decide +kernel
/-- Carrying doesn't change the rest by 2^256 - 38. -/
theorem carryF_val (ds : List Int) (h : ds.length = 16) : valD (carryF ds) + (cgo 0 ds).2 * Q256 = valD ds := by
  have hv := cgo_val 0 ds
  have hl := cgo_len 0 ds
  rw [h] at hv hl
  unfold carryF
  rw [Q256_eq]
  obtain ⟨e, es, he⟩ : ∃ e es, (cgo 0 ds).1 = e :: es := by
    cases hc : (cgo 0 ds).1 with
    | nil => rw [hc] at hl; simp at hl
    | cons e es => exact ⟨e, es, rfl⟩
  rw [he] at hv ⊢
  have := valD_set0 e (38 * (cgo 0 ds).2) es
  simp only [List.getD_cons_zero]
  rw [this, Int.mul_sub]
  omega
theorem carryF_cons (ds : List Int) (h : ds.length = 16) : ∃ e es, (cgo 0 ds).1 = e :: es ∧ carryF ds = (e + 38 * (cgo 0 ds).2) :: es ∧ (0 ≤ e ∧ e < 65536) ∧ (∀ x ∈ es, 0 ≤ x ∧ x < 65536) ∧ es.length = 15 := by
  have hl := cgo_len 0 ds
  rw [h] at hl
  cases hc : (cgo 0 ds).1 with
  | nil => rw [hc] at hl; simp at hl
  | cons e es =>
    have hr := cgo_rng 0 ds
    rw [hc] at hr hl
    refine ⟨e, es, rfl, ?_, hr e (List.mem_cons_self ..), fun x hx => hr x (List.mem_cons_of_mem _ hx), by simpa using hl⟩
    unfold carryF; rw [hc]; rfl
/-- Digits that can be reckoned with. -/
def NumOk (ds : List Int) : Prop := ds.length = 16 ∧ ∀ x ∈ ds, -262144 ≤ x ∧ x ≤ 262144
theorem carryF_ok (ds : List Int) (h : ds.length = 16) (hb : ∀ x ∈ ds, -2097152 ≤ x ∧ x ≤ 2097152) : NumOk (carryF ds) := by
  have hc := cgo_bnd 2097152 66 (by decide) 0 ds (by decide) hb
  obtain ⟨e, es, h1, h2, h3, h4, h5⟩ := carryF_cons ds h
  refine ⟨by rw [carryF_len, h], fun x hx => ?_⟩
  rw [h2] at hx
  rcases List.mem_cons.1 hx with rfl | hx
  · omega
  · have := h4 x hx; omega
/-- Once carried with great digits: all but the first are small. -/
theorem carryF_big (ds : List Int) (h : ds.length = 16) (hb : ∀ x ∈ ds, -140737488355328 ≤ x ∧ x ≤ 140737488355328) : ∃ e es, carryF ds = e :: es ∧ (-274877906944 ≤ e ∧ e ≤ 274877906944) ∧ (∀ x ∈ es, 0 ≤ x ∧ x < 65536) ∧ es.length = 15 := by
  have hc := cgo_bnd 140737488355328 2147549184 (by decide) 0 ds (by decide) hb
  obtain ⟨e, es, h1, h2, h3, h4, h5⟩ := carryF_cons ds h
  exact ⟨_, es, h2, by omega, h4, h5⟩
/-- .. and once more: all are small. -/
theorem carryF_small (e : Int) (es : List Int) (he : -274877906944 ≤ e ∧ e ≤ 274877906944) (h : ∀ x ∈ es, 0 ≤ x ∧ x < 65536) (hl : es.length = 15) : NumOk (carryF (e :: es)) := by
  obtain ⟨e2, es2, h1, h2, h3, h4, h5⟩ := carryF_cons (e :: es) (by simp [hl])
  have hc : -1 ≤ (cgo 0 (e :: es)).2 ∧ (cgo 0 (e :: es)).2 ≤ 1 := by
    match es, h, hl with
    | a :: b :: c :: es, h, hl =>
      have ha := h a (by simp)
      have hb := h b (by simp)
      have hcc := h c (by simp)
      simp only [cgo]
      refine cgo_one _ es ?_ fun x hx => h x (by simp [hx])
      omega
  refine ⟨by rw [carryF_len]; simp [hl], fun x hx => ?_⟩
  rw [h2] at hx
  rcases List.mem_cons.1 hx with rfl | hx
  · omega
  · have := h4 x hx; omega
/-- Three times carried: a number below 2^256, by its digits. -/
theorem carryF_two (ds : List Int) (h : NumOk ds) : ∀ x ∈ carryF (carryF ds), 0 ≤ x ∧ x < 65536 := by
  obtain ⟨hl, hb⟩ := h
  have hc := cgo_bnd 262144 6 (by decide) 0 ds (by decide) hb
  obtain ⟨e, es, h1, h2, h3, h4, h5⟩ := carryF_cons ds hl
  obtain ⟨e2, es2, g1, g2, g3, g4, g5⟩ := carryF_cons (carryF ds) (by rw [carryF_len, hl])
  have hv := cgo_val 0 (carryF ds)
  rw [carryF_len, hl, g1] at hv
  have hes := valD_lt es h4
  have hes2 := valD_lt es2 g4
  rw [h5] at hes
  rw [g5] at hes2
  have h15 : (65536 : Int) ^ 15 = 1766847064778384329583297500742918515827483896875618958121606201292619776 := by decide +kernel
  have h16 : (65536 : Int) ^ 16 = 65536 * 1766847064778384329583297500742918515827483896875618958121606201292619776 := by decide +kernel
  rw [h15] at hes hes2
  rw [h16, h2] at hv
  simp only [valD, Int.zero_add] at hv
  have key : 0 ≤ e2 + 38 * (cgo 0 (carryF ds)).2 ∧ e2 + 38 * (cgo 0 (carryF ds)).2 < 65536 := by
    rw [h2]
    generalize (cgo 0 ds).2 = c1 at *
    generalize (cgo 0 ((e + 38 * c1) :: es)).2 = c2 at *
    generalize valD es = v1 at *
    generalize valD es2 = v2 at *
    have hc2 : c2 = -1 ∨ c2 = 0 ∨ c2 = 1 := by omega
    rcases hc2 with rfl | rfl | rfl <;> omega
  rw [g2]
  intro x hx
  rcases List.mem_cons.1 hx with rfl | hx
  · exact key
  · exact g4 x hx
theorem cgo_id : ∀ ds : List Int, (∀ x ∈ ds, 0 ≤ x ∧ x < 65536) → cgo 0 ds = (ds, 0)
  | [], _ => rfl
  | d :: ds, h => by
    have hd := h d (List.mem_cons_self ..)
    have e1 : (d + 0) % 65536 = d := by omega
    have e2 : (d + 0) / 65536 = 0 := by omega
    simp only [cgo, e1, e2, cgo_id ds fun x hx => h x (List.mem_cons_of_mem _ hx)]
theorem carryF_id (ds : List Int) (h : ∀ x ∈ ds, 0 ≤ x ∧ x < 65536) : carryF ds = ds := by
  unfold carryF
  rw [cgo_id ds h]
  cases ds <;> simp
end Go.Proofs.Ytpdoegfmngibgaa
