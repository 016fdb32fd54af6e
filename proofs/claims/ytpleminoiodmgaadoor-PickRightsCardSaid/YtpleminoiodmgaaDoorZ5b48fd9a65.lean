/- Texts put together: EvS EvO JvE JvG WgB. -/
import Derived.Test.YtpleminoiodmgaaDoorZ6fac9017d4
import Derived.Test.YtpleminoiodmgaaDoorZ6d00e8390f
import Derived.Deep.Slices
import Derived.Deep.Strs
import Derived.Lib.SmallJoins
import Derived.StillTailTactics
namespace Go.Proofs.YtpleminoiodmgaaDoor
open Go.ChangeShapes Go.WideShapes Go.ChangeAt Go.RowKit
set_option linter.unusedVariables false
set_option maxRecDepth 100000

/-- A signature: the server, the key, the letters. -/
structure Sg where
  t : List UInt8
  k : List UInt8
  i : List UInt8
def Sg.cells (s : Sg) : List Value := [strV s.t, strV s.k, strV s.i]
def Sg.ok (s : Sg) : Prop := s.t.length ≤ 140737488355328 ∧ s.k.length ≤ 140737488355328 ∧ s.i.length ≤ 140737488355328
/-- A signature by value. -/
def Sg.val (s : Sg) : Value := .agg #[.string ⟨s.t.toArray⟩, .string ⟨s.k.toArray⟩, .string ⟨s.i.toArray⟩]
def sgC (l : List Sg) : List Value := l.flatMap Sg.cells
theorem sgC_cons (s : Sg) (l : List Sg) : sgC (s :: l) = s.cells ++ sgC l := rfl
theorem sgC_app (l m : List Sg) : sgC (l ++ m) = sgC l ++ sgC m := List.flatMap_append
theorem sgC_len : ∀ l : List Sg, (sgC l).length = l.length * 3
  | [] => rfl
  | s :: l => by rw [sgC_cons, List.length_append, sgC_len l, List.length_cons]; show 3 + _ = _; omega
theorem sgC_get : ∀ {l : List Sg} {i j : Nat} (hi : i < l.length) (hj : j < 3), (sgC l)[i * 3 + j]? = (l[i]).cells[j]?
  | s :: l, 0, j, hi, hj => by rw [sgC_cons, List.getElem?_append_left (by show _ < 3; omega)]; simp
  | s :: l, i + 1, j, hi, hj => by
    rw [sgC_cons, List.getElem?_append_right (by show 3 ≤ _; omega), show (i + 1) * 3 + j - s.cells.length = i * 3 + j by show _ - 3 = _; omega, sgC_get (by simpa using hi) hj]; rfl
theorem sgC_of {l : List Sg} {q : Nat} {v : Value} (h : (sgC l)[q]? = some v) : ∃ i j, ∃ hi : i < l.length, j < 3 ∧ q = i * 3 + j ∧ (l[i]).cells[j]? = some v := by
  have hq : q < (sgC l).length := (List.getElem?_eq_some_iff.1 h).1
  rw [sgC_len] at hq
  have hi : q / 3 < l.length := by omega
  refine ⟨q / 3, q % 3, hi, by omega, by omega, ?_⟩
  rw [← sgC_get hi (by omega), show q / 3 * 3 + q % 3 = q by omega]
  exact h
theorem sgC_take (l : List Sg) (i : Nat) : (sgC l).take (i * 3) = sgC (l.take i) := by
  induction l generalizing i with
  | nil => simp [sgC]
  | cons s l ih =>
    cases i with
    | zero => simp [sgC]
    | succ i =>
      rw [sgC_cons, List.take_succ_cons, sgC_cons, List.take_append, List.take_of_length_le (by show 3 ≤ _; omega), show (i + 1) * 3 - s.cells.length = i * 3 by show _ - 3 = _; omega, ih]
theorem sgC_drop (l : List Sg) (i : Nat) : (sgC l).drop (i * 3) = sgC (l.drop i) := by
  induction l generalizing i with
  | nil => simp [sgC]
  | cons s l ih =>
    cases i with
    | zero => simp
    | succ i =>
      rw [sgC_cons, List.drop_succ_cons, List.drop_append, List.drop_of_length_le (by show 3 ≤ _; omega), show (i + 1) * 3 - s.cells.length = i * 3 by show _ - 3 = _; omega, ih]; rfl
theorem sgC_one (l : List Sg) : ∀ v ∈ sgC l, v.oneCell' = true := by
  intro v hv
  obtain ⟨s, _, hs⟩ := List.mem_flatMap.1 hv
  simp only [Sg.cells, List.mem_cons, List.not_mem_nil, or_false] at hs
  rcases hs with rfl | rfl | rfl <;> rfl
/-- A slot of a slice of slots. -/
theorem sigs_at {w : World} {A : Option Addr} {xs : List Sg} (h : RV w A (sgC xs)) {k : Nat} (hk : k < xs.length) : ∃ b off, A = some ⟨b, off, none⟩ ∧ b < w.heap.size ∧
    w.cell? ⟨b, off + k * 3, none⟩ = some (.string ⟨(xs[k]).t.toArray⟩) ∧ w.cell? ⟨b, off + k * 3 + 1, none⟩ = some (.string ⟨(xs[k]).k.toArray⟩) ∧ w.cell? ⟨b, off + k * 3 + 2, none⟩ = some (.string ⟨(xs[k]).i.toArray⟩) := by
  obtain ⟨b, off, rfl, hb, h0⟩ := h (k * 3 + 0) (strV (xs[k]).t) (by rw [sgC_get hk (by decide)]; rfl)
  obtain ⟨b1, off1, e1, _, h1⟩ := h (k * 3 + 1) (strV (xs[k]).k) (by rw [sgC_get hk (by decide)]; rfl)
  obtain ⟨b2, off2, e2, _, h2⟩ := h (k * 3 + 2) (strV (xs[k]).i) (by rw [sgC_get hk (by decide)]; rfl)
  injection e1 with e1; injection e1 with e1 e3
  injection e2 with e2; injection e2 with e2 e4
  subst e1; subst e2; subst e3; subst e4
  exact ⟨b, off, rfl, hb, h0, h1, h2⟩
/-- The slice at 'A' reads slots. -/
def OwnSg (w : World) (A : Option Addr) (n c : Nat) (xs : List Sg) : Prop := RV w A (sgC xs) ∧ Hid (n = xs.length) ∧ n ≤ c ∧ c ≤ 2 ^ 47 ∧ ∀ x ∈ xs, x.ok
abbrev Sgs := @OwnSg
theorem Sgs.below {w w' : World} {A : Option Addr} {n c : Nat} {xs : List Sg} (h : Sgs w A n c xs) (hb : Below w.heap.size w w') : Sgs w' A n c xs := ⟨h.1.below hb, h.2⟩
theorem sigs_open {H : Type} {enc : TypeId × Value → H} {w : World} {base : Nat} {held : Bool} {A : Option Addr} {n c : Nat} {d : DataW H} {p : List MemPlace}
    (h : DataW.Trod enc Tryd.prog w base (fun _ => true) held 27 (.slice A n c) d p) (hwt : ∀ q ∈ d.weights Tryd.prog 27, q ≤ reachBytes) : ∃ xs, OwnSg w A n c xs := by
  obtain ⟨fuel, hf⟩ := h
  have h4 : Tryd.prog.cellsOf 59 = 3 := by kernel_rfl
  rcases Deep.open_slice Tryd.underlying27 hf with ⟨hcs, _⟩ | ⟨a, len, cap, m, q, D, Pl, hcs, hb, hl, hm, hmm, hx, hall⟩
  · simp [Value.cells] at hcs
    obtain ⟨rfl, rfl, rfl⟩ := hcs
    exact ⟨[], RV.nil _ _, Lib.hid rfl, Nat.le_refl _, by decide, by simp⟩
  · simp [Value.cells] at hcs
    obtain ⟨rfl, rfl, rfl⟩ := hcs
    simp only [if_true] at hmm
    subst hmm
    rw [h4] at hall
    injection hx with hx _
    subst hx
    have hrch : reachBytes < 2 ^ 47 := by decide
    have hcap : m ≤ 2 ^ 47 := by
      have h1 := hwt ((((List.range n).map D).length + ((List.range (m - n)).map fun j => D (n + j)).length) * Tryd.prog.bytesOf 59) (by simp [DataW.weights, Tryd.underlying27])
      have h2 : ((List.range n).map D).length + ((List.range (m - n)).map fun j => D (n + j)).length = m := by simp; omega
      rw [h2] at h1
      have h3 : m * 1 ≤ m * Tryd.prog.bytesOf 59 := Nat.mul_le_mul_left m (by decide +kernel)
      omega
    have each : ∀ i, i < n → ∃ y : Sg, y.ok ∧ ∀ j, j < 3 → w.cell? ((a.add (i * 3)).add j) = y.cells[j]? := by
      intro i hi
      obtain ⟨cs, h1, h2⟩ := hall i (by omega)
      obtain ⟨_, hlen, hc⟩ := World.cells?_some h1
      obtain ⟨y0, y1, y2, m4, hD4, _, t0, t1, t2⟩ := Deep.trod_struct3 Tryd.underlying59 h2
      have hcs : Tryd.prog.cellsOf 9 = 1 := by kernel_rfl
      obtain ⟨s0, e0, q0, w0⟩ := DataW.trod_string Tryd.underlying9 t0
      obtain ⟨s1, e1, q1, w1⟩ := DataW.trod_string Tryd.underlying9 t1
      obtain ⟨s2, e2, q2, w2⟩ := DataW.trod_string Tryd.underlying9 t2
      obtain ⟨l0, rfl, hs0⟩ := str_split s0
      obtain ⟨l1, rfl, hs1⟩ := str_split s1
      obtain ⟨l2, rfl, hs2⟩ := str_split s2
      have hin : ∀ L : List UInt8, (L = l0 ∨ L = l1 ∨ L = l2) → L.length ≤ 140737488355328 := by
        intro L hL
        have hin : L.length ∈ (D i).weights Tryd.prog 59 := by
          injection hD4 with hD4 _
          rw [hD4, q0, q1, q2]
          rcases hL with rfl | rfl | rfl <;> simp [DataW.weights, Tryd.underlying59, DataW.weightsEach]
        have key : ∀ (Q : List (DataW H)), D i ∈ Q → L.length ∈ DataW.weightsAll Tryd.prog 59 Q := by
          intro Q
          induction Q with
          | nil => intro h; cases h
          | cons x Q ih =>
            intro h
            simp only [DataW.weightsAll, List.mem_append]
            rcases List.mem_cons.1 h with rfl | h
            · exact .inl hin
            · exact .inr (ih h)
        have h9 := key ((List.range n).map D) (List.mem_map.2 ⟨i, List.mem_range.2 hi, rfl⟩)
        have h8 := hwt L.length (by
          simp only [DataW.weights, Tryd.underlying27, List.mem_cons, List.mem_append]
          exact .inr (.inl h9))
        omega
      dsimp only at e0 e1 e2
      rw [hcs] at e0 e1 e2
      have g : ∀ (k : Nat) (v : Value), (cs.drop k).take 1 = [v] → cs[k]? = some v := fun k v h => by
        have h5 := congrArg (fun q => q[0]?) h
        simpa [List.getElem?_take, List.getElem?_drop] using h5
      refine ⟨⟨l0, l1, l2⟩, ⟨hin _ (.inl rfl), hin _ (.inr (.inl rfl)), hin _ (.inr (.inr rfl))⟩, fun j hj => ?_⟩
      rw [hc j hj]
      obtain rfl | rfl | rfl : j = 0 ∨ j = 1 ∨ j = 2 := by omega
      · exact g 0 _ e0
      · exact g 1 _ e1
      · exact g 2 _ e2
    obtain ⟨y, hy⟩ : ∃ y : Nat → Sg, ∀ i, i < n → (y i).ok ∧ ∀ j, j < 3 → w.cell? ((a.add (i * 3)).add j) = (y i).cells[j]? :=
      ⟨fun i => if hi : i < n then Classical.choose (each i hi) else ⟨[], [], []⟩, fun i hi => by simp only [dif_pos hi]; exact Classical.choose_spec (each i hi)⟩
    refine ⟨(List.range n).map y, fun k v hk => ?_, Lib.hid (by simp), hl, hcap, ?_⟩
    · obtain ⟨i, j, hi, hj, rfl, hv⟩ := sgC_of hk
      have hi2 : i < n := by simpa using hi
      have eg : ((List.range n).map y)[i] = y i := by simp
      rw [eg] at hv
      obtain ⟨b, off, spot⟩ := a
      have h5 := (hy i hi2).2 j hj
      rw [hv] at h5
      have h00 := (hy 0 (by omega)).2 0 (by decide)
      have hspot : spot = none := by
        have h01 : (y 0).cells[0]? = some (strV (y 0).t) := rfl
        rw [h01] at h00
        simpa [Addr.add] using World.cell?_spot h00
      subst hspot
      have hplain : ((⟨b, off, none⟩ : Addr).add (i * 3)).add j = ⟨b, off + (i * 3 + j), none⟩ := by
        rw [← Nat.add_assoc]; unfold Addr.add; split <;> split <;> simp_all
      rw [hplain] at h5
      exact ⟨b, off, rfl, World.block_lt_of_cell? w _ h5, h5⟩
    · intro x hx
      obtain ⟨i, hi, rfl⟩ := List.mem_map.1 hx
      exact (hy i (List.mem_range.1 hi)).1
end Go.Proofs.YtpleminoiodmgaaDoor
namespace Go.Proofs.YtpleminoiodmgaaDoor
open Go.ChangeShapes Go.WideShapes Go.ChangeAt Go.RowKit
set_option linter.unusedVariables false
set_option maxRecDepth 100000

/-- An event. -/
structure Ev where
  rm : List UInt8
  sd : List UInt8
  ty : List UInt8
  st : Bool
  ky : List UInt8
  ct : Jv
  pv : List (List UInt8)
  au : List (List UInt8)
  dp : Int
  tm : Int
  hs : List UInt8
  sg : List Sg
/-- Where its parts lie. -/
structure Ea where
  A : Option Addr
  B : Option Addr
  nl : Nat
  cl : Nat
  nm : Nat
  cm : Nat
  P : Option Addr
  np : Nat
  cp : Nat
  U : Option Addr
  nu : Nat
  cu : Nat
  S : Option Addr
  ns : Nat
  cs : Nat
/-- Its cells. -/
def evC (e : Ev) (a : Ea) : List Value := [.string ⟨e.rm.toArray⟩, .string ⟨e.sd.toArray⟩, .string ⟨e.ty.toArray⟩, .bool e.st, .string ⟨e.ky.toArray⟩, .int .i64 e.ct.kd, .bool e.ct.is, .int .i64 e.ct.n, .string ⟨e.ct.s.toArray⟩, .slice a.A a.nl a.cl, .slice a.B a.nm a.cm, .slice a.P a.np a.cp, .slice a.U a.nu a.cu, .int .i64 e.dp, .int .i64 e.tm, .string ⟨e.hs.toArray⟩, .slice a.S a.ns a.cs]
/-- The slice at A reads texts. -/
def Strs (w : World) (A : Option Addr) (n c : Nat) (xs : List (List UInt8)) : Prop := RV w A (xs.map strV) ∧ Hid (n = xs.length) ∧ n ≤ c ∧ c ≤ 2 ^ 47 ∧ ∀ x ∈ xs, x.length ≤ 140737488355328
theorem Strs.below {w w' : World} {A : Option Addr} {n c : Nat} {xs : List (List UInt8)} (h : Strs w A n c xs) (hb : Below w.heap.size w w') : Strs w' A n c xs := ⟨h.1.below hb, h.2⟩
def EFit (e : Ev) : Prop := (e.rm.length ≤ 140737488355328 ∧ e.sd.length ≤ 140737488355328 ∧ e.ty.length ≤ 140737488355328 ∧ e.ky.length ≤ 140737488355328 ∧ e.hs.length ≤ 140737488355328) ∧ (-9223372036854775808 ≤ e.dp ∧ e.dp ≤ 9223372036854775807) ∧ (-9223372036854775808 ≤ e.tm ∧ e.tm ≤ 9223372036854775807)
/-- An event by value, with what it leads to. -/
def EOk (w : World) (e : Ev) (a : Ea) : Prop := VOk w e.ct a.A a.B a.nl a.cl a.nm a.cm ∧ Strs w a.P a.np a.cp e.pv ∧ Strs w a.U a.nu a.cu e.au ∧ Sgs w a.S a.ns a.cs e.sg ∧ EFit e
theorem EOk.below {w w' : World} {e : Ev} {a : Ea} (h : EOk w e a) (hb : Below w.heap.size w w') : EOk w' e a := ⟨h.1.below hb, h.2.1.below hb, h.2.2.1.below hb, h.2.2.2.1.below hb, h.2.2.2.2⟩
section
variable {H : Type} {enc : TypeId × Value → H} {w : World} {base : Nat} {held : Bool}
theorem ones_open {α : Type} (f : α → Value) (Q : α → Prop) {t e : TypeId} (ht : Tryd.prog.underlying t = some (.slice e)) (hc : Tryd.prog.cellsOf e = 1)
    (hel : ∀ {n V x}, DataW.trod enc Tryd.prog w base (fun _ => true) held n e [V] = some x → (∀ q ∈ x.1.weights Tryd.prog e, q ≤ reachBytes) → ∃ y, V = f y ∧ Q y) {A : Option Addr} {n c : Nat} {d : DataW H} {p : List MemPlace}
    (h : DataW.Trod enc Tryd.prog w base (fun _ => true) held t (.slice A n c) d p) (hby : 1 ≤ Tryd.prog.bytesOf e) (hwt : ∀ q ∈ d.weights Tryd.prog t, q ≤ reachBytes) : ∃ xs : List α, RV w A (xs.map f) ∧ Hid (n = xs.length) ∧ n ≤ c ∧ c ≤ 2 ^ 47 ∧ ∀ x ∈ xs, Q x := by
  obtain ⟨fuel, hf⟩ := h
  have hrch : reachBytes < 2 ^ 47 := by decide
  rcases Deep.open_slice1 ht hc hf with ⟨hcs, _⟩ | ⟨a, len, cap, m, q, V, D, Pl, hcs, hb, hl, hm, hmm, hx, hall⟩
  · simp [Value.cells] at hcs
    obtain ⟨rfl, rfl, rfl⟩ := hcs
    exact ⟨[], RV.nil _ _, Lib.hid rfl, Nat.le_refl _, by decide, by simp⟩
  · simp [Value.cells] at hcs
    obtain ⟨rfl, rfl, rfl⟩ := hcs
    simp only [if_true] at hmm
    subst hmm
    injection hx with hx _
    subst hx
    have hcap : m ≤ 2 ^ 47 := by
      have h1 := hwt ((((List.range n).map D).length + ((List.range (m - n)).map fun j => D (n + j)).length) * Tryd.prog.bytesOf e) (by simp [DataW.weights, ht])
      have h2 : ((List.range n).map D).length + ((List.range (m - n)).map fun j => D (n + j)).length = m := by simp; omega
      rw [h2] at h1
      have h3 : m * 1 ≤ m * Tryd.prog.bytesOf e := Nat.mul_le_mul_left m hby
      omega
    have each : ∀ i, i < n → ∃ y : α, w.cell? (a.add i) = some (f y) ∧ Q y := by
      intro i hi
      obtain ⟨h1, h2⟩ := hall i (by omega)
      obtain ⟨y, e, hq⟩ := hel h2 (fun q hq => by
        refine hwt q ?_
        have key : ∀ (l : List (DataW H)), D i ∈ l → q ∈ DataW.weightsAll Tryd.prog e l := by
          intro l
          induction l with
          | nil => intro h; cases h
          | cons x l ih =>
            intro h
            simp only [DataW.weightsAll, List.mem_append]
            rcases List.mem_cons.1 h with rfl | h
            · exact .inl hq
            · exact .inr (ih h)
        have := key ((List.range n).map D) (List.mem_map.2 ⟨i, List.mem_range.2 hi, rfl⟩)
        simp only [DataW.weights, ht, List.mem_cons, List.mem_append]
        exact .inr (.inl this))
      exact ⟨y, by rw [h1, e], hq⟩
    have hmk : ∀ k, k ≤ n → ∃ xs : List α, xs.length = k ∧ (∀ i, i < k → ∃ y, xs[i]? = some y ∧ w.cell? (a.add i) = some (f y)) ∧ ∀ x ∈ xs, Q x := by
      intro k
      induction k with
      | zero => exact fun _ => ⟨[], rfl, fun i hi => absurd hi (by omega), by simp⟩
      | succ k ih =>
        intro hk
        obtain ⟨xs, h1, h2, h3⟩ := ih (by omega)
        obtain ⟨y, h4, h5⟩ := each k (by omega)
        refine ⟨xs ++ [y], by simp [h1], fun i hi => ?_, ?_⟩
        · by_cases hik : i < k
          · obtain ⟨z, h6, h7⟩ := h2 i hik
            exact ⟨z, by rw [List.getElem?_append_left (by omega)]; exact h6, h7⟩
          · obtain rfl : i = k := by omega
            exact ⟨y, by rw [List.getElem?_append_right (by omega), h1]; simp, h4⟩
        · intro x hx
          rcases List.mem_append.1 hx with hx | hx
          · exact h3 x hx
          · rw [List.mem_singleton.1 hx]; exact h5
    obtain ⟨xs, h1, h2, h3⟩ := hmk n (Nat.le_refl _)
    refine ⟨xs, fun k u hu => ?_, Lib.hid h1.symm, hl, hcap, h3⟩
    obtain ⟨b, off, spot⟩ := a
    have hk : k < n := by
      have := (List.getElem?_eq_some_iff.1 hu).1
      simp at this; omega
    obtain ⟨y, e1, e2⟩ := h2 k hk
    have hspot : spot = none := by
      obtain ⟨y0, _, e0⟩ := h2 0 (by omega)
      simpa [Addr.add] using World.cell?_spot e0
    subst hspot
    have hplain : (⟨b, off, none⟩ : Addr).add k = ⟨b, off + k, none⟩ := by unfold Addr.add; split <;> simp_all
    have e3 : w.cell? ⟨b, off + k, none⟩ = some (f y) := by rw [← hplain]; exact e2
    refine ⟨b, off, rfl, World.block_lt_of_cell? w _ e3, ?_⟩
    rw [e3]
    rw [List.getElem?_map, e1] at hu
    exact hu
theorem strs_open {A : Option Addr} {n c : Nat} {d : DataW H} {p : List MemPlace} (h : DataW.Trod enc Tryd.prog w base (fun _ => true) held 26 (.slice A n c) d p) (hwt : ∀ q ∈ d.weights Tryd.prog 26, q ≤ reachBytes) : ∃ xs, Strs w A n c xs :=
  ones_open strV (fun x => x.length ≤ 140737488355328) Tryd.underlying26 (by kernel_rfl) (fun {m V x} hx hq => by
    obtain ⟨s, e, q, _⟩ := DataW.trod_string Tryd.underlying9 hx
    obtain ⟨l, rfl, hl⟩ := str_split s
    injection e with e _
    have := hq l.length (by rw [q]; simp [DataW.weights])
    have hr : reachBytes < 2 ^ 47 := by decide
    exact ⟨l, e, by omega⟩) h (by decide +kernel) hwt
set_option maxHeartbeats 4000000 in
/-- An event's cells, read as data. -/
theorem open_ev (fuel : Nat) (cs : List Value) (x : DataW H × List MemPlace) (h : DataW.trod enc Tryd.prog w base (fun _ => true) held fuel 29 cs = some x) (hwt : ∀ q ∈ x.1.weights Tryd.prog 29, q ≤ reachBytes) :
    ∃ e a, cs = evC e a ∧ EOk w e a := by
  obtain ⟨xs, n, rfl, rfl, hl, hlen, hf⟩ := DataW.trod_struct Tryd.underlying29 h
  have hrch : reachBytes < 2 ^ 47 := by decide
  have c17 : Tryd.prog.cellsOf 29 = 17 := by kernel_rfl
  have c6 : Tryd.prog.cellsOf 25 = 6 := by kernel_rfl
  have hci : Tryd.prog.cellsOf 3 = 1 := by kernel_rfl
  have hcb : Tryd.prog.cellsOf 4 = 1 := by kernel_rfl
  have hcs : Tryd.prog.cellsOf 9 = 1 := by kernel_rfl
  have hcl : Tryd.prog.cellsOf 26 = 1 := by kernel_rfl
  have hcm : Tryd.prog.cellsOf 27 = 1 := by kernel_rfl
  match xs, hlen with
  | [y0, y1, y2, y3, y4, y5, y6, y7, y8, y9, y10, y11], _ =>
    have t0 : DataW.trod enc Tryd.prog w base (fun _ => true) held n 9 ((cs.drop 0).take (Tryd.prog.cellsOf 9)) = some y0 := hf 0 _ rfl
    have t1 : DataW.trod enc Tryd.prog w base (fun _ => true) held n 9 ((cs.drop 1).take (Tryd.prog.cellsOf 9)) = some y1 := hf 1 _ rfl
    have t2 : DataW.trod enc Tryd.prog w base (fun _ => true) held n 9 ((cs.drop 2).take (Tryd.prog.cellsOf 9)) = some y2 := hf 2 _ rfl
    have t3 : DataW.trod enc Tryd.prog w base (fun _ => true) held n 4 ((cs.drop 3).take (Tryd.prog.cellsOf 4)) = some y3 := hf 3 _ rfl
    have t4 : DataW.trod enc Tryd.prog w base (fun _ => true) held n 9 ((cs.drop 4).take (Tryd.prog.cellsOf 9)) = some y4 := hf 4 _ rfl
    have t5 : DataW.trod enc Tryd.prog w base (fun _ => true) held n 25 ((cs.drop 5).take (Tryd.prog.cellsOf 25)) = some y5 := hf 5 _ rfl
    have t6 : DataW.trod enc Tryd.prog w base (fun _ => true) held n 26 ((cs.drop 11).take (Tryd.prog.cellsOf 26)) = some y6 := hf 6 _ rfl
    have t7 : DataW.trod enc Tryd.prog w base (fun _ => true) held n 26 ((cs.drop 12).take (Tryd.prog.cellsOf 26)) = some y7 := hf 7 _ rfl
    have t8 : DataW.trod enc Tryd.prog w base (fun _ => true) held n 3 ((cs.drop 13).take (Tryd.prog.cellsOf 3)) = some y8 := hf 8 _ rfl
    have t9 : DataW.trod enc Tryd.prog w base (fun _ => true) held n 3 ((cs.drop 14).take (Tryd.prog.cellsOf 3)) = some y9 := hf 9 _ rfl
    have t10 : DataW.trod enc Tryd.prog w base (fun _ => true) held n 9 ((cs.drop 15).take (Tryd.prog.cellsOf 9)) = some y10 := hf 10 _ rfl
    have t11 : DataW.trod enc Tryd.prog w base (fun _ => true) held n 27 ((cs.drop 16).take (Tryd.prog.cellsOf 27)) = some y11 := hf 11 _ rfl
    clear hf
    rw [hcs] at t0 t1 t2 t4 t10
    rw [hcb] at t3
    rw [c6] at t5
    rw [hcl] at t6 t7
    rw [hci] at t8 t9
    rw [hcm] at t11
    rw [c17] at hl
    match cs, hl with
    | [z0, z1, z2, z3, z4, z5, z6, z7, z8, z9, z10, z11, z12, z13, z14, z15, z16], _ =>
    simp only [List.drop_zero, List.drop_succ_cons, List.take_succ_cons, List.take_zero] at t0 t1 t2 t3 t4 t5 t6 t7 t8 t9 t10 t11
    have hwe : ∀ (j : Nat) (T : TypeId) (y : DataW H × List MemPlace), ([(9, y0), (9, y1), (9, y2), (4, y3), (9, y4), (25, y5), (26, y6), (26, y7), (3, y8), (3, y9), (9, y10), (27, y11)] : List (TypeId × (DataW H × List MemPlace)))[j]? = some (T, y) → ∀ q ∈ y.1.weights Tryd.prog T, q ≤ reachBytes := by
      intro j T y hj q hq
      refine hwt q ?_
      simp only [DataW.weights, Tryd.underlying29, List.map_cons, List.map_nil]
      match j, hj with
      | 0, hj => injection hj with hj; injection hj with e1 e2; subst e1; subst e2; exact DataW.weights_mem_each (j := 0) rfl rfl q hq
      | 1, hj => injection hj with hj; injection hj with e1 e2; subst e1; subst e2; exact DataW.weights_mem_each (j := 1) rfl rfl q hq
      | 2, hj => injection hj with hj; injection hj with e1 e2; subst e1; subst e2; exact DataW.weights_mem_each (j := 2) rfl rfl q hq
      | 3, hj => injection hj with hj; injection hj with e1 e2; subst e1; subst e2; exact DataW.weights_mem_each (j := 3) rfl rfl q hq
      | 4, hj => injection hj with hj; injection hj with e1 e2; subst e1; subst e2; exact DataW.weights_mem_each (j := 4) rfl rfl q hq
      | 5, hj => injection hj with hj; injection hj with e1 e2; subst e1; subst e2; exact DataW.weights_mem_each (j := 5) rfl rfl q hq
      | 6, hj => injection hj with hj; injection hj with e1 e2; subst e1; subst e2; exact DataW.weights_mem_each (j := 6) rfl rfl q hq
      | 7, hj => injection hj with hj; injection hj with e1 e2; subst e1; subst e2; exact DataW.weights_mem_each (j := 7) rfl rfl q hq
      | 8, hj => injection hj with hj; injection hj with e1 e2; subst e1; subst e2; exact DataW.weights_mem_each (j := 8) rfl rfl q hq
      | 9, hj => injection hj with hj; injection hj with e1 e2; subst e1; subst e2; exact DataW.weights_mem_each (j := 9) rfl rfl q hq
      | 10, hj => injection hj with hj; injection hj with e1 e2; subst e1; subst e2; exact DataW.weights_mem_each (j := 10) rfl rfl q hq
      | 11, hj => injection hj with hj; injection hj with e1 e2; subst e1; subst e2; exact DataW.weights_mem_each (j := 11) rfl rfl q hq
      | j + 12, hj => simp at hj
    have str : ∀ (j : Nat) (z : Value) (y : DataW H × List MemPlace), DataW.trod enc Tryd.prog w base (fun _ => true) held n 9 [z] = some y → (∀ q ∈ y.1.weights Tryd.prog 9, q ≤ reachBytes) → ∃ l : List UInt8, z = .string ⟨l.toArray⟩ ∧ l.length ≤ 140737488355328 := fun j z y ht hq => by
      obtain ⟨s, e, q, _⟩ := DataW.trod_string Tryd.underlying9 ht
      obtain ⟨l, rfl, hl⟩ := str_split s
      injection e with e _
      have := hq l.length (by rw [q]; simp [DataW.weights])
      exact ⟨l, e, by omega⟩
    obtain ⟨rm, rfl, l0⟩ := str 0 _ _ t0 (hwe 0 _ y0 rfl)
    obtain ⟨sd, rfl, l1⟩ := str 1 _ _ t1 (hwe 1 _ y1 rfl)
    obtain ⟨ty, rfl, l2⟩ := str 2 _ _ t2 (hwe 2 _ y2 rfl)
    obtain ⟨st, e3, q3⟩ := DataW.trod_bool Tryd.underlying4 t3
    obtain ⟨ky, rfl, l4⟩ := str 4 _ _ t4 (hwe 4 _ y4 rfl)
    obtain ⟨v, A, nl, cl, B, nm, cm, ev, v1, v2, v3, v4, v5⟩ := open_jv _ _ _ t5 (hwe 5 _ y5 rfl)
    obtain ⟨dp, e8, q8, w8⟩ := DataW.trod_int Tryd.underlying3 t8
    obtain ⟨tm, e9, q9, w9⟩ := DataW.trod_int Tryd.underlying3 t9
    obtain ⟨hs, rfl, l10⟩ := str 10 _ _ t10 (hwe 10 _ y10 rfl)
    have sl : ∀ (T E : TypeId) (z : Value) (y : DataW H × List MemPlace), Tryd.prog.underlying T = some (.slice E) → DataW.trod enc Tryd.prog w base (fun _ => true) held n T [z] = some y → ∃ A n c, z = .slice A n c := fun T E z y hu ht => by
      rcases open_depth hu ht with ⟨ec, _⟩ | ⟨a, len, cap, k, D, rest, hk, ec, _⟩
      · injection ec with ec _; exact ⟨_, _, _, ec⟩
      · injection ec with ec _; exact ⟨_, _, _, ec⟩
    obtain ⟨P, np, cp, rfl⟩ := sl _ _ _ _ Tryd.underlying26 t6
    obtain ⟨U, nu, cu, rfl⟩ := sl _ _ _ _ Tryd.underlying26 t7
    obtain ⟨S, ns, cs, rfl⟩ := sl _ _ _ _ Tryd.underlying27 t11
    obtain ⟨pv, s6⟩ := strs_open (d := y6.1) (p := y6.2) ⟨n, t6⟩ (hwe 6 _ y6 rfl)
    obtain ⟨au, s7⟩ := strs_open (d := y7.1) (p := y7.2) ⟨n, t7⟩ (hwe 7 _ y7 rfl)
    obtain ⟨sg, s11⟩ := sigs_open (d := y11.1) (p := y11.2) ⟨n, t11⟩ (hwe 11 _ y11 rfl)
    injection e3 with e3 _
    injection e8 with e8 _
    injection e9 with e9 _
    subst e3 e8 e9
    injection ev with g5 ev; injection ev with g6 ev; injection ev with g7 ev; injection ev with g8 ev; injection ev with g9 ev; injection ev with g10 ev
    subst g5 g6 g7 g8 g9 g10
    refine ⟨⟨rm, sd, ty, st, ky, v, pv, au, dp, tm, hs, sg⟩, ⟨A, B, nl, cl, nm, cm, P, np, cp, U, nu, cu, S, ns, cs⟩, rfl, ⟨v1, v2, v3, v4, v5⟩, s6, s7, s11, ⟨l0, l1, l2, l4, l10⟩, ?_, ?_⟩
    · simpa [Lit.wf, IntKind.min, IntKind.max, IntKind.signed, IntKind.bits] using w8
    · simpa [Lit.wf, IntKind.min, IntKind.max, IntKind.signed, IntKind.bits] using w9
/-- An event among a law's parameters. -/
theorem open_event {W : World} {r : _} {b0 : Nat} {v : Value} {d : DataW H} {p : List MemPlace} (hv : Value.okWide Tryd.prog W r b0 29 v) (h : DataW.Trod enc Tryd.prog w base (fun _ => true) held 29 v d p) (hwt : ∀ q ∈ d.weights Tryd.prog 29, q ≤ reachBytes) :
    ∃ e a, v = .agg (evC e a).toArray ∧ EOk w e a := by
  unfold Value.okWide at hv
  rw [Tryd.underlying29] at hv
  obtain ⟨cs, rfl, hsz, _⟩ := hv
  obtain ⟨fuel, hf⟩ := h
  obtain ⟨e, a, he, ho⟩ := open_ev fuel _ _ hf hwt
  refine ⟨e, a, ?_, ho⟩
  obtain ⟨L⟩ := cs
  simp only [Value.cells] at he
  rw [he]
end
end Go.Proofs.YtpleminoiodmgaaDoor
namespace Go.Proofs.YtpleminoiodmgaaDoor
open Go.ChangeShapes Go.WideShapes Go.ChangeAt Go.RowKit Go.IntWalk
set_option linter.unusedVariables false

section
variable {base : Nat} {w w1 w' : World} {mem : Bool} {A : Option Addr} {t : JT}
theorem JSl.blw (h : JSl (· < base) w mem A t) (b : Below base w w') : JSl (· < base) w' mem A t :=
  h.stay (fun b' o hb => b.cell (p := ⟨b', o, none⟩) hb) (fun _ h => h)
/-- The i-th value of a list, its cells told one by one. -/
theorem JSl.el (P : Nat → Prop) (h : JSl P w false A t) {i : Nat} (hi : i < t.ext) : ∃ b o A1 nl cl B1 nm cm, A = some ⟨b, o, none⟩ ∧ P b ∧ b < w.heap.size ∧
    w.cell? ⟨b, o + i * 6, none⟩ = some (.int .i64 (t.fall i).val.kd) ∧ w.cell? ⟨b, o + i * 6 + 1, none⟩ = some (.bool (t.fall i).val.is) ∧ w.cell? ⟨b, o + i * 6 + 2, none⟩ = some (.int .i64 (t.fall i).val.n) ∧
    w.cell? ⟨b, o + i * 6 + 3, none⟩ = some (.string ⟨(t.fall i).val.s.toArray⟩) ∧ w.cell? ⟨b, o + i * 6 + 4, none⟩ = some (.slice A1 nl cl) ∧ w.cell? ⟨b, o + i * 6 + 5, none⟩ = some (.slice B1 nm cm) ∧
    Room nl cl (t.fall i).val.l.ext ∧ Room nm cm (t.fall i).val.m.ext ∧ JSl P w false A1 (t.fall i).val.l ∧ JSl P w true B1 (t.fall i).val.m ∧ Fit (t.fall i).val.kd (t.fall i).val.n (t.fall i).val.s := by
  obtain ⟨b, o, e, hP, hb, _, cs, hr, A1, nl, cl, B1, nm, cm, rfl, h1, h2, h3, h4, h5⟩ := h.at_ hi
  exact ⟨b, o, A1, nl, cl, B1, nm, cm, e, hP, hb, hr 0 _ rfl, hr 1 _ rfl, hr 2 _ rfl, hr 3 _ rfl, hr 4 _ rfl, hr 5 _ rfl, h1, h2, h3, h4, h5⟩
/-- The i-th member of a map. -/
theorem JSl.mb (P : Nat → Prop) (h : JSl P w true A t) {i : Nat} (hi : i < t.ext) : ∃ b o A1 nl cl B1 nm cm, A = some ⟨b, o, none⟩ ∧ P b ∧ b < w.heap.size ∧
    w.cell? ⟨b, o + i * 7, none⟩ = some (.string ⟨(t.fall i).key.toArray⟩) ∧ (t.fall i).key.length ≤ 140737488355328 ∧
    w.cell? ⟨b, o + i * 7 + 1, none⟩ = some (.int .i64 (t.fall i).val.kd) ∧ w.cell? ⟨b, o + i * 7 + 2, none⟩ = some (.bool (t.fall i).val.is) ∧ w.cell? ⟨b, o + i * 7 + 3, none⟩ = some (.int .i64 (t.fall i).val.n) ∧
    w.cell? ⟨b, o + i * 7 + 4, none⟩ = some (.string ⟨(t.fall i).val.s.toArray⟩) ∧ w.cell? ⟨b, o + i * 7 + 5, none⟩ = some (.slice A1 nl cl) ∧ w.cell? ⟨b, o + i * 7 + 6, none⟩ = some (.slice B1 nm cm) ∧
    Room nl cl (t.fall i).val.l.ext ∧ Room nm cm (t.fall i).val.m.ext ∧ JSl P w false A1 (t.fall i).val.l ∧ JSl P w true B1 (t.fall i).val.m ∧ Fit (t.fall i).val.kd (t.fall i).val.n (t.fall i).val.s := by
  obtain ⟨b, o, e, hP, hb, hk, cs, hr, A1, nl, cl, B1, nm, cm, rfl, h1, h2, h3, h4, h5⟩ := h.at_ hi
  exact ⟨b, o, A1, nl, cl, B1, nm, cm, e, hP, hb, hk.1, hk.2, hr 0 _ rfl, hr 1 _ rfl, hr 2 _ rfl, hr 3 _ rfl, hr 4 _ rfl, hr 5 _ rfl, h1, h2, h3, h4, h5⟩
end
theorem JSl.up {w w' : World} {mem : Bool} {A : Option Addr} {t : JT} (h : JSl (· < w.heap.size) w mem A t) (b : Below w.heap.size w w') : JSl (· < w'.heap.size) w' mem A t :=
  h.stay (fun b' o hb => b.cell (p := ⟨b', o, none⟩) hb) (fun x hx => Nat.lt_of_lt_of_le hx b.size)
end Go.Proofs.YtpleminoiodmgaaDoor
namespace Go.Proofs.YtpleminoiodmgaaDoor
open Go.ChangeShapes Go.WideShapes Go.ChangeAt Go.RowKit Go.IntWalk
set_option linter.unusedVariables false
set_option maxRecDepth 100000

/-- How much is left. -/
def wgF (mem : Bool) : JT → Int → Nat → Int
  | .nil, left, _ => left
  | .cons k _ _ _ s l m r, left, d => if left < 0 then left else
    wgF mem r (if d = 0 then -1 else wgF true m (wgF false l ((if mem then left - k.length else left) - 1 - s.length) (d - 1)) (d - 1)) d
def wgV (v : Jv) (left : Int) (d : Nat) : Int := if d = 0 then -1 else wgF true v.m (wgF false v.l (left - 1 - v.s.length) (d - 1)) (d - 1)
theorem wgF_neg (mem : Bool) (t : JT) (left : Int) (d : Nat) (h : left < 0) : wgF mem t left d = left := by
  cases t with
  | nil => rfl
  | cons => simp [wgF, h]
theorem wgF_step (mem : Bool) (t : JT) (i : Nat) (left : Int) (d : Nat) (hi : i < t.ext) (h : 0 ≤ left) :
    wgF mem (t.fall i) left d = wgF mem (t.fall (i + 1)) (wgV (t.fall i).val (if mem then left - (t.fall i).key.length else left) d) d := by
  conv => lhs; rw [t.fall_of_lt i hi]
  unfold JT.one
  rw [wgF, if_neg (by omega)]; rfl
theorem wgF_end (mem : Bool) (t : JT) (left : Int) (d : Nat) : wgF mem (t.fall t.ext) left d = left := by
  rw [JT.fall_all t _ (Nat.le_refl _)]; rfl
/-- That number, which isn't great. -/
def WgtPost (v : Jv) (left : Int) (d : Nat) (w : World) (e : Ending) (w' : World) : Prop := (-1125899906842624 ≤ wgV v left d ∧ wgV v left d ≤ 1048576 ∧ e = .returned (.int .i64 (wgV v left d))) ∧ Below w.heap.size w w'
def WStep (R : Int) (mem : Bool) (t : JT) (k : Nat) (z : Int) (d : Nat) : Prop := R = wgF mem (t.fall k) z d
def WgtC (N : Nat) : Prop := ∀ (jv : Jv) (left dI : Int) (deep : Nat) (w : World) (A B : Option Addr) (nl cl nm cm : Nat), jv.bulk ≤ N → dI = (deep : Int) → deep ≤ 1000 → -281474976710656 ≤ left → left ≤ 1048576 →
  Room nl cl jv.l.ext → Room nm cm jv.m.ext → JSl (· < w.heap.size) w false A jv.l → JSl (· < w.heap.size) w true B jv.m → Fit jv.kd jv.n jv.s →
  Calls Tryd.prog 31 #[.agg #[.int .i64 jv.kd, .bool jv.is, .int .i64 jv.n, .string ⟨jv.s.toArray⟩, .slice A nl cl, .slice B nm cm], .int .i64 left, .int .i64 dI] w (WgtPost jv left deep w)
set_option maxHeartbeats 8000000 in
theorem weigh_calls : ∀ N, WgtC N := by
  intro N
  induction N with
  | zero => intro jv left dI deep w A B nl cl nm cm h; unfold Jv.bulk at h; omega
  | succ N IH =>
    intro jv left dI deep w A B nl cl nm cm hN hdI hd hl0 hl1 rl rm sl sm hf
    subst hdI
    have hlN : jv.l.bulk ≤ N := by unfold Jv.bulk at hN; omega
    have hmN : jv.m.bulk ≤ N := by unfold Jv.bulk at hN; omega
    obtain ⟨kd, is, n, s, l, m⟩ := jv
    dsimp only at *
    obtain ⟨_, _, hsl⟩ := hf
    have hbw : Below w.heap.size w (w.alloc (.cells #[.int .i64 kd, .bool is, .int .i64 n, .string ⟨s.toArray⟩, .slice A nl cl, .slice B nm cm] 25)) := (Below.refl _ _).alloc (Nat.le_refl _) _
    obtain ⟨sn, hsn⟩ : ∃ sn, s.length = sn := ⟨_, rfl⟩
    have hwa : IntKind.i64.wrap (left - 1) = left - 1 := IntWalk.i64_in _ (by omega)
    have hwb : IntKind.i64.wrap (left - 1 - (sn : Int)) = left - 1 - (sn : Int) := IntWalk.i64_in _ (by omega)
    have hss : (⟨s.toArray⟩ : ByteArray).size = sn := hsn
    rw [hsn] at hsl
    clear hsn
    cases deep with
    | zero =>
      go_enter Tryd.func31, Tryd.ntmps31
      go_wp2_with fail
      go_ret
      exact ⟨⟨by simp [wgV], by simp [wgV], by simp [wgV]⟩, hbw⟩
    | succ deep =>
      obtain ⟨z0, hz0⟩ : ∃ z : Int, left - 1 - (sn : Int) = z := ⟨_, rfl⟩
      have hz1 : -422212465065990 ≤ z0 := by omega
      have hz2 : z0 ≤ 1048576 := by omega
      have hd0 : (((deep + 1 : Nat) : Int) == 0) = false := by rw [beq_eq_false_iff_ne]; omega
      go_enter Tryd.func31, Tryd.ntmps31
      have HRS := Lib.hid (And.intro sl sm)
      obtain ⟨rfl, hlc, hlm⟩ := rl
      obtain ⟨rfl, hmc, hmm⟩ := rm
      obtain ⟨ln, hln⟩ : ∃ x, l.ext = x := ⟨_, rfl⟩
      obtain ⟨mn, hmn⟩ : ∃ x, m.ext = x := ⟨_, rfl⟩
      have HLN := Lib.hid hln
      have HMN := Lib.hid hmn
      rw [hln] at hlc hlm ⊢
      rw [hmn] at hmc hmm ⊢
      rw [hln, hmn] at hbw
      have HB0 := Lib.hid hbw
      obtain ⟨R1, hR1⟩ : ∃ R1, wgF false l (left - 1 - (sn : Int)) deep = R1 := ⟨_, rfl⟩
      obtain ⟨R2, hR2⟩ : ∃ R2, wgF true m R1 deep = R2 := ⟨_, rfl⟩
      have HR1 : WStep R1 false l 0 (left - 1 - (sn : Int)) deep := by unfold WStep; rw [JT.fall_zero]; exact hR1.symm
      have HR2 : WStep R2 true m 0 R1 deep := by unfold WStep; rw [JT.fall_zero]; exact hR2.symm
      have HRV := Lib.hid (show wgV ⟨kd, is, n, s, l, m⟩ left (deep + 1) = R2 by unfold wgV; rw [if_neg (by omega)]; dsimp only; rw [show s.length = sn from hss, show deep + 1 - 1 = deep from rfl, hR1, hR2])
      clear hR1 hR2
      have BX0 := Lib.hid (Blk.new w [.int .i64 kd, .bool is, .int .i64 n, .string ⟨s.toArray⟩, .slice A ln cl, .slice B mn cm] 25)
      clear hln hmn sl sm hbw hz0 hwa
      go_wp2_with fail
      go_loopw [1, 7] (fun lv iv wr => ∃ (k : Nat) (z : Int), k ≤ ln ∧ iv = .int .i64 (k : Int) ∧ lv = .int .i64 z ∧ (-1125899906842624 ≤ z ∧ z ≤ 1048576) ∧ Hid (Below w.heap.size w wr) ∧ Hid (Blk wr w.heap.size 25 [.int .i64 kd, .bool is, .int .i64 n, .string ⟨s.toArray⟩, .slice A ln cl, .slice B mn cm]) ∧ WStep R1 false l k z deep) (fun _ iv _ => ln - (intOf iv).toNat)
      case atStart => exact ⟨0, _, Nat.zero_le _, rfl, rfl, ⟨by omega, by omega⟩, HB0, BX0, HR1⟩
      case round =>
        obtain ⟨k, z, hk, rfl, rfl, ⟨hza, hzb⟩, hW, hBk, hS⟩ := hrel
        have HS1 := Lib.hid hS
        clear hS
        clear HB0 BX0
        have d0 := hBk.out.cell (k := 0) rfl; have d1 := hBk.out.cell (k := 1) rfl; have d2 := hBk.out.cell (k := 2) rfl; have d3 := hBk.out.cell (k := 3) rfl; have d4 := hBk.out.cell (k := 4) rfl; have d5 := hBk.out.cell (k := 5) rfl
        by_cases hgo : k < ln ∧ 0 ≤ z
        · obtain ⟨hlt, hz⟩ := hgo
          obtain ⟨eb, eo, eA, enl, ecl, eB, enm, ecm, rfl, eP, ebl, e0, e1, e2, e3, e4, e5, r1, r2, s1, s2, hf⟩ := (HRS.out.1.up hW.out).el _ (by rw [HLN.out]; exact hlt)
          obtain ⟨eu, hev⟩ : ∃ eu, (l.fall k).val = eu := ⟨_, rfl⟩
          have hbe : eu.bulk ≤ N := by rw [← hev]; exact Nat.le_trans (JT.bulk_val l k (by rw [HLN.out]; exact hlt)) hlN
          have HS2 := Lib.hid (show WStep R1 false l (k + 1) (wgV eu z deep) deep by unfold WStep; rw [show R1 = _ from HS1.out, wgF_step false l k z deep (by rw [HLN.out]; exact hlt) hz, hev]; rfl)
          rw [hev] at e0 e1 e2 e3 r1 r2 s1 s2 hf
          have HV := IH eu z ((deep : Int)) deep wr eA eB enl ecl enm ecm hbe rfl (by omega) (by omega) (by omega) r1 r2 s1 s2 hf
          clear hev r1 r2 s1 s2 hf
          go_wp2_with fail
          refine HV.mono ?_
          rintro e w3 ⟨⟨hz3, hz4, rfl⟩, b3⟩
          obtain ⟨z3, hz5⟩ : ∃ z3, wgV eu z deep = z3 := ⟨_, rfl⟩
          have HS3 := HS2.out
          rw [hz5] at hz3 hz4 HS3 ⊢
          clear hz5
          have HW3 := Lib.hid (hW.out.then_ b3)
          have HB3 := Lib.hid (hBk.out.later b3)
          clear b3 HV e0 e1 e2 e3 e4 e5
          go_wp2_with fail
          go_roundw
          case rel => exact ⟨k + 1, z3, by omega, by go_num, rfl, ⟨hz3, hz4⟩, HW3, HB3, HS3⟩
          case measure => simp [intOf]; omega
        · have hca : (k < ln ∧ z < 0) ∨ k = ln := by omega
          have hzR : R1 = z := by
            rw [show R1 = _ from HS1.out]
            rcases hca with ⟨_, h⟩ | h
            · exact wgF_neg _ _ _ _ h
            · rw [h, ← HLN.out]; exact wgF_end _ _ _ _
          have HZR := Lib.hid hzR
          clear hgo hzR
          rcases hca with ⟨hlt, hz⟩ | hkl
          all_goals
            first | (have hkf : ¬ k < ln := by omega) | skip
            try clear hkl
            go_wp2_with fail
            clear d0 d1 d2 d3 d4 d5
            obtain ⟨wo, hwo⟩ : ∃ wo : World, wo = wr := ⟨_, rfl⟩
            rw [← hwo] at hW hBk ⊢
            clear hwo
            go_loopw [1, 8] (fun lv iv wr => ∃ (k : Nat) (z : Int), k ≤ mn ∧ iv = .int .i64 (k : Int) ∧ lv = .int .i64 z ∧ (-1125899906842624 ≤ z ∧ z ≤ 1048576) ∧ Hid (Below w.heap.size w wr) ∧ Hid (Blk wr w.heap.size 25 [.int .i64 kd, .bool is, .int .i64 n, .string ⟨s.toArray⟩, .slice A ln cl, .slice B mn cm]) ∧ WStep R2 true m k z deep) (fun _ iv _ => mn - (intOf iv).toNat)
            case atStart => exact ⟨0, z, Nat.zero_le _, rfl, rfl, ⟨hza, hzb⟩, hW, hBk, by have := HR2; rw [HZR.out] at this; exact this⟩
            case round =>
              obtain ⟨q, y, hq, rfl, rfl, ⟨hya, hyb⟩, hW, hBk, hS⟩ := hrel
              have HS5 := Lib.hid hS
              clear hS
              have d0 := hBk.out.cell (k := 0) rfl; have d1 := hBk.out.cell (k := 1) rfl; have d2 := hBk.out.cell (k := 2) rfl; have d3 := hBk.out.cell (k := 3) rfl; have d4 := hBk.out.cell (k := 4) rfl; have d5 := hBk.out.cell (k := 5) rfl
              by_cases hgo : q < mn ∧ 0 ≤ y
              · obtain ⟨hqt, hy⟩ := hgo
                obtain ⟨eb, eo, eA, enl, ecl, eB, enm, ecm, rfl, eP, ebl, eK, eKl, e0, e1, e2, e3, e4, e5, r1, r2, s1, s2, hf⟩ := (HRS.out.2.up hW.out).mb _ (by rw [HMN.out]; exact hqt)
                obtain ⟨eu, hev⟩ : ∃ eu, (m.fall q).val = eu := ⟨_, rfl⟩
                obtain ⟨ek, hek⟩ : ∃ ek, (m.fall q).key = ek := ⟨_, rfl⟩
                have hbe : eu.bulk ≤ N := by rw [← hev]; exact Nat.le_trans (JT.bulk_val m q (by rw [HMN.out]; exact hqt)) hmN
                rw [hev] at e0 e1 e2 e3 r1 r2 s1 s2 hf
                rw [hek] at eK eKl
                obtain ⟨en, hen⟩ : ∃ en, ek.length = en := ⟨_, rfl⟩
                have hes : (⟨ek.toArray⟩ : ByteArray).size = en := hen
                rw [hen] at eKl
                have HS6 := Lib.hid (show WStep R2 true m (q + 1) (wgV eu (y - (en : Int)) deep) deep by unfold WStep; rw [show R2 = _ from HS5.out, wgF_step true m q y deep (by rw [HMN.out]; exact hqt) hy, hev, hek, hen]; rfl)
                have hwy : IntKind.i64.wrap (y - (en : Int)) = y - (en : Int) := IntWalk.i64_in _ (by omega)
                have hwd : IntKind.i64.wrap (((deep + 1 : Nat) : Int) - 1) = (deep : Int) := by rw [IntWalk.i64_in _ (by omega)]; omega
                have hbd : Below wr.heap.size wr wr.drew := (Below.refl _ _).drew
                have HV := IH eu (y - (en : Int)) ((deep : Int)) deep wr.drew eA eB enl ecl enm ecm hbe rfl (by omega) (by omega) (by omega) r1 r2 (s1.up hbd) (s2.up hbd) hf
                clear hbd hev r1 r2 s1 s2 hf hek hen
                go_wp2_with fail
                go_still_tail 17, (by kernel_rfl)
                change wpList _ _ _ _ _ wr.drew
                go_wp2_with fail
                refine HV.mono ?_
                rintro e w3 ⟨⟨hz3, hz4, rfl⟩, b3⟩
                obtain ⟨z3, hz5⟩ : ∃ z3, wgV eu (y - (en : Int)) deep = z3 := ⟨_, rfl⟩
                have HS3 := HS6.out
                rw [hz5] at hz3 hz4 HS3 ⊢
                clear hz5
                have HW3 := Lib.hid ((hW.out.drew).then_ b3)
                have HB3 := Lib.hid ((hBk.out.drew).later b3)
                clear b3 HV eK e0 e1 e2 e3 e4 e5 hwy hwd
                go_wp2_with fail
                go_roundw
                case rel => exact ⟨q + 1, z3, by omega, by go_num, rfl, ⟨hz3, hz4⟩, HW3, HB3, HS3⟩
                case measure => simp [intOf]; omega
              · have hca2 : (q < mn ∧ y < 0) ∨ q = mn := by omega
                have HYR := Lib.hid (show R2 = y by
                  rw [show R2 = _ from HS5.out]
                  rcases hca2 with ⟨_, h⟩ | h
                  · exact wgF_neg _ _ _ _ h
                  · rw [h, ← HMN.out]; exact wgF_end _ _ _ _)
                clear hgo
                rcases hca2 with ⟨hqt, hy⟩ | hql
                all_goals
                  first | (have hqf : ¬ q < mn := by omega) | skip
                  try clear hql
                  go_wp2_with fail
                  go_ret
                  unfold WgtPost
                  rw [HRV.out, HYR.out]
                  exact ⟨⟨hya, hyb, rfl⟩, hW.out⟩
/-- Some truth. -/
def GrtPost (w : World) (e : Ending) (w' : World) : Prop := (∃ g : Bool, e = .returned (.bool g)) ∧ Below w.heap.size w w'
end Go.Proofs.YtpleminoiodmgaaDoor
namespace Go.Proofs.YtpleminoiodmgaaDoor
open Go.ChangeShapes Go.WideShapes Go.ChangeAt Go.RowKit
set_option linter.unusedVariables false

theorem wg_bulk : ∀ (t : JT) (mem : Bool) (left : Int) (d : Nat), 0 ≤ wgF mem t left d → wgF mem t left d + t.bulk ≤ left
  | .nil, mem, left, d, h => by simp [wgF, JT.bulk]
  | .cons k kd is n s l m r, mem, left, d, h => by
    rw [wgF] at h ⊢
    by_cases h0 : left < 0
    · rw [if_pos h0] at h; omega
    · rw [if_neg h0] at h ⊢
      obtain ⟨y, hy⟩ : ∃ y, (if mem then left - k.length else left) - 1 - (s.length : Int) = y := ⟨_, rfl⟩
      rw [hy] at h ⊢
      have hyl : y ≤ left - 1 := by rw [← hy]; split <;> omega
      by_cases hd : d = 0
      · rw [if_pos hd] at h ⊢
        have := wg_bulk r mem _ _ h
        omega
      · rw [if_neg hd] at h ⊢
        have h1 := wg_bulk r mem _ _ h
        obtain ⟨x, hx⟩ : ∃ x, wgF true m (wgF false l y (d - 1)) (d - 1) = x := ⟨_, rfl⟩
        rw [hx] at h h1 ⊢
        have h2 := wg_bulk m true _ (d - 1) (by rw [hx]; omega)
        rw [hx] at h2
        have h3 := wg_bulk l false y (d - 1) (by omega)
        simp only [JT.bulk]
        omega
theorem wgV_bulk {v : Jv} {n : Int} {d : Nat} (hd : 0 < d) (h : 0 ≤ wgV v n d) : (v.bulk : Int) ≤ n ∧ (v.s.length : Int) ≤ n := by
  unfold wgV at h
  rw [if_neg (by omega)] at h
  have h2 := wg_bulk v.m true _ _ h
  have h3 := wg_bulk v.l false (n - 1 - (v.s.length : Int)) (d - 1) (by omega)
  unfold Jv.bulk
  omega
end Go.Proofs.YtpleminoiodmgaaDoor
