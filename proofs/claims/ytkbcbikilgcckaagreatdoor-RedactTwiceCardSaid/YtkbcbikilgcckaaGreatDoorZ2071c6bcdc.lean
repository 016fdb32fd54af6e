/- Texts put together: EvS EvO. -/
import Derived.Test.YtkbcbikilgcckaaGreatDoorZcf87a46e79
import Derived.Test.YtkbcbikilgcckaaGreatDoorZe0ec6b32e3
import Derived.Deep.Slices
import Derived.Deep.Strs
import Derived.Lib.SmallJoins
namespace Go.Proofs.YtkbcbikilgcckaaGreatDoor
open Go.ChangeShapes Go.WideShapes Go.ChangeAt Go.RowKit
set_option linter.unusedVariables false
set_option maxRecDepth 100000

/-- A signature: the server, the key, the letters. -/
structure Sg where
  t : List UInt8
  k : List UInt8
  i : List UInt8
def Sg.cells (s : Sg) : List Value := [strV s.t, strV s.k, strV s.i]
def Sg.ok (s : Sg) : Prop := s.t.length ≤ 140737488355328 ∧ s.k.length ≤ 140737488355328 ∧ s.i.length ≤ 140737488355328
/-- A signature by value. -/
def Sg.val (s : Sg) : Value := .agg #[.string ⟨s.t.toArray⟩, .string ⟨s.k.toArray⟩, .string ⟨s.i.toArray⟩]
def sgC (l : List Sg) : List Value := l.flatMap Sg.cells
theorem sgC_cons (s : Sg) (l : List Sg) : sgC (s :: l) = s.cells ++ sgC l := rfl
theorem sgC_app (l m : List Sg) : sgC (l ++ m) = sgC l ++ sgC m := List.flatMap_append
theorem sgC_len : ∀ l : List Sg, (sgC l).length = l.length * 3
  | [] => rfl
  | s :: l => by rw [sgC_cons, List.length_append, sgC_len l, List.length_cons]; show 3 + _ = _; omega
theorem sgC_get : ∀ {l : List Sg} {i j : Nat} (hi : i < l.length) (hj : j < 3), (sgC l)[i * 3 + j]? = (l[i]).cells[j]?
  | s :: l, 0, j, hi, hj => by rw [sgC_cons, List.getElem?_append_left (by show _ < 3; omega)]; simp
  | s :: l, i + 1, j, hi, hj => by
    rw [sgC_cons, List.getElem?_append_right (by show 3 ≤ _; omega), show (i + 1) * 3 + j - s.cells.length = i * 3 + j by show _ - 3 = _; omega, sgC_get (by simpa using hi) hj]; rfl
theorem sgC_of {l : List Sg} {q : Nat} {v : Value} (h : (sgC l)[q]? = some v) : ∃ i j, ∃ hi : i < l.length, j < 3 ∧ q = i * 3 + j ∧ (l[i]).cells[j]? = some v := by
  have hq : q < (sgC l).length := (List.getElem?_eq_some_iff.1 h).1
  rw [sgC_len] at hq
  have hi : q / 3 < l.length := by omega
  refine ⟨q / 3, q % 3, hi, by omega, by omega, ?_⟩
  rw [← sgC_get hi (by omega), show q / 3 * 3 + q % 3 = q by omega]
  exact h
theorem sgC_take (l : List Sg) (i : Nat) : (sgC l).take (i * 3) = sgC (l.take i) := by
  induction l generalizing i with
  | nil => simp [sgC]
  | cons s l ih =>
    cases i with
    | zero => simp [sgC]
    | succ i =>
      rw [sgC_cons, List.take_succ_cons, sgC_cons, List.take_append, List.take_of_length_le (by show 3 ≤ _; omega), show (i + 1) * 3 - s.cells.length = i * 3 by show _ - 3 = _; omega, ih]
theorem sgC_drop (l : List Sg) (i : Nat) : (sgC l).drop (i * 3) = sgC (l.drop i) := by
  induction l generalizing i with
  | nil => simp [sgC]
  | cons s l ih =>
    cases i with
    | zero => simp
    | succ i =>
      rw [sgC_cons, List.drop_succ_cons, List.drop_append, List.drop_of_length_le (by show 3 ≤ _; omega), show (i + 1) * 3 - s.cells.length = i * 3 by show _ - 3 = _; omega, ih]; rfl
theorem sgC_one (l : List Sg) : ∀ v ∈ sgC l, v.oneCell' = true := by
  intro v hv
  obtain ⟨s, _, hs⟩ := List.mem_flatMap.1 hv
  simp only [Sg.cells, List.mem_cons, List.not_mem_nil, or_false] at hs
  rcases hs with rfl | rfl | rfl <;> rfl
/-- A slot of a slice of slots. -/
theorem sigs_at {w : World} {A : Option Addr} {xs : List Sg} (h : RV w A (sgC xs)) {k : Nat} (hk : k < xs.length) : ∃ b off, A = some ⟨b, off, none⟩ ∧ b < w.heap.size ∧
    w.cell? ⟨b, off + k * 3, none⟩ = some (.string ⟨(xs[k]).t.toArray⟩) ∧ w.cell? ⟨b, off + k * 3 + 1, none⟩ = some (.string ⟨(xs[k]).k.toArray⟩) ∧ w.cell? ⟨b, off + k * 3 + 2, none⟩ = some (.string ⟨(xs[k]).i.toArray⟩) := by
  obtain ⟨b, off, rfl, hb, h0⟩ := h (k * 3 + 0) (strV (xs[k]).t) (by rw [sgC_get hk (by decide)]; rfl)
  obtain ⟨b1, off1, e1, _, h1⟩ := h (k * 3 + 1) (strV (xs[k]).k) (by rw [sgC_get hk (by decide)]; rfl)
  obtain ⟨b2, off2, e2, _, h2⟩ := h (k * 3 + 2) (strV (xs[k]).i) (by rw [sgC_get hk (by decide)]; rfl)
  injection e1 with e1; injection e1 with e1 e3
  injection e2 with e2; injection e2 with e2 e4
  subst e1; subst e2; subst e3; subst e4
  exact ⟨b, off, rfl, hb, h0, h1, h2⟩
/-- The slice at 'A' reads slots. -/
def OwnSg (w : World) (A : Option Addr) (n c : Nat) (xs : List Sg) : Prop := RV w A (sgC xs) ∧ Hid (n = xs.length) ∧ n ≤ c ∧ n ≤ 2 ^ 47 ∧ ∀ x ∈ xs, x.ok
abbrev Sgs := @OwnSg
theorem Sgs.below {w w' : World} {A : Option Addr} {n c : Nat} {xs : List Sg} (h : Sgs w A n c xs) (hb : Below w.heap.size w w') : Sgs w' A n c xs := ⟨h.1.below hb, h.2⟩
theorem sigs_open {H : Type} {enc : TypeId × Value → H} {w : World} {base : Nat} {held : Bool} {A : Option Addr} {n c : Nat} {d : DataW H} {p : List MemPlace}
    (h : DataW.Trod enc Tryz.prog w base (fun _ => true) held 27 (.slice A n c) d p) (hwt : ∀ q ∈ d.weights Tryz.prog 27, q ≤ reachBytes) : ∃ xs, OwnSg w A n c xs := by
  obtain ⟨fuel, hf⟩ := h
  have h4 : Tryz.prog.cellsOf 44 = 3 := by kernel_rfl
  rcases Deep.open_slice Tryz.underlying27 hf with ⟨hcs, _⟩ | ⟨a, len, cap, m, q, D, Pl, hcs, hb, hl, hm, hmm, hx, hall⟩
  · simp [Value.cells] at hcs
    obtain ⟨rfl, rfl, rfl⟩ := hcs
    exact ⟨[], RV.nil _ _, Lib.hid rfl, Nat.le_refl _, by decide, by simp⟩
  · simp [Value.cells] at hcs
    obtain ⟨rfl, rfl, rfl⟩ := hcs
    simp only [if_true] at hmm
    subst hmm
    rw [h4] at hall
    injection hx with hx _
    subst hx
    have hrch : reachBytes < 2 ^ 47 := by decide
    have hcap : m ≤ 2 ^ 47 := by
      have h1 := hwt ((((List.range n).map D).length + ((List.range (m - n)).map fun j => D (n + j)).length) * Tryz.prog.bytesOf 44) (by simp [DataW.weights, Tryz.underlying27])
      have h2 : ((List.range n).map D).length + ((List.range (m - n)).map fun j => D (n + j)).length = m := by simp; omega
      rw [h2] at h1
      have h3 : m * 1 ≤ m * Tryz.prog.bytesOf 44 := Nat.mul_le_mul_left m (by decide +kernel)
      omega
    have each : ∀ i, i < n → ∃ y : Sg, y.ok ∧ ∀ j, j < 3 → w.cell? ((a.add (i * 3)).add j) = y.cells[j]? := by
      intro i hi
      obtain ⟨cs, h1, h2⟩ := hall i (by omega)
      obtain ⟨_, hlen, hc⟩ := World.cells?_some h1
      obtain ⟨y0, y1, y2, m4, hD4, _, t0, t1, t2⟩ := Deep.trod_struct3 Tryz.underlying44 h2
      have hcs : Tryz.prog.cellsOf 9 = 1 := by kernel_rfl
      obtain ⟨s0, e0, q0, w0⟩ := DataW.trod_string Tryz.underlying9 t0
      obtain ⟨s1, e1, q1, w1⟩ := DataW.trod_string Tryz.underlying9 t1
      obtain ⟨s2, e2, q2, w2⟩ := DataW.trod_string Tryz.underlying9 t2
      obtain ⟨l0, rfl, hs0⟩ := str_split s0
      obtain ⟨l1, rfl, hs1⟩ := str_split s1
      obtain ⟨l2, rfl, hs2⟩ := str_split s2
      have hin : ∀ L : List UInt8, (L = l0 ∨ L = l1 ∨ L = l2) → L.length ≤ 140737488355328 := by
        intro L hL
        have hin : L.length ∈ (D i).weights Tryz.prog 44 := by
          injection hD4 with hD4 _
          rw [hD4, q0, q1, q2]
          rcases hL with rfl | rfl | rfl <;> simp [DataW.weights, Tryz.underlying44, DataW.weightsEach]
        have key : ∀ (Q : List (DataW H)), D i ∈ Q → L.length ∈ DataW.weightsAll Tryz.prog 44 Q := by
          intro Q
          induction Q with
          | nil => intro h; cases h
          | cons x Q ih =>
            intro h
            simp only [DataW.weightsAll, List.mem_append]
            rcases List.mem_cons.1 h with rfl | h
            · exact .inl hin
            · exact .inr (ih h)
        have h9 := key ((List.range n).map D) (List.mem_map.2 ⟨i, List.mem_range.2 hi, rfl⟩)
        have h8 := hwt L.length (by
          simp only [DataW.weights, Tryz.underlying27, List.mem_cons, List.mem_append]
          exact .inr (.inl h9))
        omega
      dsimp only at e0 e1 e2
      rw [hcs] at e0 e1 e2
      have g : ∀ (k : Nat) (v : Value), (cs.drop k).take 1 = [v] → cs[k]? = some v := fun k v h => by
        have h5 := congrArg (fun q => q[0]?) h
        simpa [List.getElem?_take, List.getElem?_drop] using h5
      refine ⟨⟨l0, l1, l2⟩, ⟨hin _ (.inl rfl), hin _ (.inr (.inl rfl)), hin _ (.inr (.inr rfl))⟩, fun j hj => ?_⟩
      rw [hc j hj]
      obtain rfl | rfl | rfl : j = 0 ∨ j = 1 ∨ j = 2 := by omega
      · exact g 0 _ e0
      · exact g 1 _ e1
      · exact g 2 _ e2
    obtain ⟨y, hy⟩ : ∃ y : Nat → Sg, ∀ i, i < n → (y i).ok ∧ ∀ j, j < 3 → w.cell? ((a.add (i * 3)).add j) = (y i).cells[j]? :=
      ⟨fun i => if hi : i < n then Classical.choose (each i hi) else ⟨[], [], []⟩, fun i hi => by simp only [dif_pos hi]; exact Classical.choose_spec (each i hi)⟩
    refine ⟨(List.range n).map y, fun k v hk => ?_, Lib.hid (by simp), hl, Nat.le_trans hl hcap, ?_⟩
    · obtain ⟨i, j, hi, hj, rfl, hv⟩ := sgC_of hk
      have hi2 : i < n := by simpa using hi
      have eg : ((List.range n).map y)[i] = y i := by simp
      rw [eg] at hv
      obtain ⟨b, off, spot⟩ := a
      have h5 := (hy i hi2).2 j hj
      rw [hv] at h5
      have h00 := (hy 0 (by omega)).2 0 (by decide)
      have hspot : spot = none := by
        have h01 : (y 0).cells[0]? = some (strV (y 0).t) := rfl
        rw [h01] at h00
        simpa [Addr.add] using World.cell?_spot h00
      subst hspot
      have hplain : ((⟨b, off, none⟩ : Addr).add (i * 3)).add j = ⟨b, off + (i * 3 + j), none⟩ := by
        rw [← Nat.add_assoc]; unfold Addr.add; split <;> split <;> simp_all
      rw [hplain] at h5
      exact ⟨b, off, rfl, World.block_lt_of_cell? w _ h5, h5⟩
    · intro x hx
      obtain ⟨i, hi, rfl⟩ := List.mem_map.1 hx
      exact (hy i (List.mem_range.1 hi)).1
end Go.Proofs.YtkbcbikilgcckaaGreatDoor
namespace Go.Proofs.YtkbcbikilgcckaaGreatDoor
open Go.ChangeShapes Go.WideShapes Go.ChangeAt Go.RowKit
set_option linter.unusedVariables false
set_option maxRecDepth 100000

/-- An event. -/
structure Ev where
  rm : List UInt8
  sd : List UInt8
  ty : List UInt8
  st : Bool
  ky : List UInt8
  ct : Jv
  pv : List (List UInt8)
  au : List (List UInt8)
  dp : Int
  tm : Int
  hs : List UInt8
  sg : List Sg
/-- Where its parts lie. -/
structure Ea where
  A : Option Addr
  B : Option Addr
  nl : Nat
  cl : Nat
  nm : Nat
  cm : Nat
  P : Option Addr
  np : Nat
  cp : Nat
  U : Option Addr
  nu : Nat
  cu : Nat
  S : Option Addr
  ns : Nat
  cs : Nat
/-- Its cells. -/
def evC (e : Ev) (a : Ea) : List Value := [.string ⟨e.rm.toArray⟩, .string ⟨e.sd.toArray⟩, .string ⟨e.ty.toArray⟩, .bool e.st, .string ⟨e.ky.toArray⟩, .int .i64 e.ct.kd, .bool e.ct.is, .int .i64 e.ct.n, .string ⟨e.ct.s.toArray⟩, .slice a.A a.nl a.cl, .slice a.B a.nm a.cm, .slice a.P a.np a.cp, .slice a.U a.nu a.cu, .int .i64 e.dp, .int .i64 e.tm, .string ⟨e.hs.toArray⟩, .slice a.S a.ns a.cs]
/-- The slice at A reads texts. -/
def Strs (w : World) (A : Option Addr) (n c : Nat) (xs : List (List UInt8)) : Prop := RV w A (xs.map strV) ∧ Hid (n = xs.length) ∧ n ≤ c ∧ n ≤ 2 ^ 47 ∧ ∀ x ∈ xs, x.length ≤ 140737488355328
theorem Strs.below {w w' : World} {A : Option Addr} {n c : Nat} {xs : List (List UInt8)} (h : Strs w A n c xs) (hb : Below w.heap.size w w') : Strs w' A n c xs := ⟨h.1.below hb, h.2⟩
def EFit (e : Ev) : Prop := (e.rm.length ≤ 140737488355328 ∧ e.sd.length ≤ 140737488355328 ∧ e.ty.length ≤ 140737488355328 ∧ e.ky.length ≤ 140737488355328 ∧ e.hs.length ≤ 140737488355328) ∧ (-9223372036854775808 ≤ e.dp ∧ e.dp ≤ 9223372036854775807) ∧ (-9223372036854775808 ≤ e.tm ∧ e.tm ≤ 9223372036854775807)
/-- An event by value, with what it leads to. -/
def EOk (w : World) (e : Ev) (a : Ea) : Prop := VOk w e.ct a.A a.B a.nl a.cl a.nm a.cm ∧ Strs w a.P a.np a.cp e.pv ∧ Strs w a.U a.nu a.cu e.au ∧ Sgs w a.S a.ns a.cs e.sg ∧ EFit e
theorem EOk.below {w w' : World} {e : Ev} {a : Ea} (h : EOk w e a) (hb : Below w.heap.size w w') : EOk w' e a := ⟨h.1.below hb, h.2.1.below hb, h.2.2.1.below hb, h.2.2.2.1.below hb, h.2.2.2.2⟩
section
variable {H : Type} {enc : TypeId × Value → H} {w : World} {base : Nat} {held : Bool}
theorem ones_open {α : Type} (f : α → Value) (Q : α → Prop) {t e : TypeId} (ht : Tryz.prog.underlying t = some (.slice e)) (hc : Tryz.prog.cellsOf e = 1)
    (hel : ∀ {n V x}, DataW.trod enc Tryz.prog w base (fun _ => true) held n e [V] = some x → (∀ q ∈ x.1.weights Tryz.prog e, q ≤ reachBytes) → ∃ y, V = f y ∧ Q y) {A : Option Addr} {n c : Nat} {d : DataW H} {p : List MemPlace}
    (h : DataW.Trod enc Tryz.prog w base (fun _ => true) held t (.slice A n c) d p) (hby : 1 ≤ Tryz.prog.bytesOf e) (hwt : ∀ q ∈ d.weights Tryz.prog t, q ≤ reachBytes) : ∃ xs : List α, RV w A (xs.map f) ∧ Hid (n = xs.length) ∧ n ≤ c ∧ c ≤ 2 ^ 47 ∧ ∀ x ∈ xs, Q x := by
  obtain ⟨fuel, hf⟩ := h
  have hrch : reachBytes < 2 ^ 47 := by decide
  rcases Deep.open_slice1 ht hc hf with ⟨hcs, _⟩ | ⟨a, len, cap, m, q, V, D, Pl, hcs, hb, hl, hm, hmm, hx, hall⟩
  · simp [Value.cells] at hcs
    obtain ⟨rfl, rfl, rfl⟩ := hcs
    exact ⟨[], RV.nil _ _, Lib.hid rfl, Nat.le_refl _, by decide, by simp⟩
  · simp [Value.cells] at hcs
    obtain ⟨rfl, rfl, rfl⟩ := hcs
    simp only [if_true] at hmm
    subst hmm
    injection hx with hx _
    subst hx
    have hcap : m ≤ 2 ^ 47 := by
      have h1 := hwt ((((List.range n).map D).length + ((List.range (m - n)).map fun j => D (n + j)).length) * Tryz.prog.bytesOf e) (by simp [DataW.weights, ht])
      have h2 : ((List.range n).map D).length + ((List.range (m - n)).map fun j => D (n + j)).length = m := by simp; omega
      rw [h2] at h1
      have h3 : m * 1 ≤ m * Tryz.prog.bytesOf e := Nat.mul_le_mul_left m hby
      omega
    have each : ∀ i, i < n → ∃ y : α, w.cell? (a.add i) = some (f y) ∧ Q y := by
      intro i hi
      obtain ⟨h1, h2⟩ := hall i (by omega)
      obtain ⟨y, e, hq⟩ := hel h2 (fun q hq => by
        refine hwt q ?_
        have key : ∀ (l : List (DataW H)), D i ∈ l → q ∈ DataW.weightsAll Tryz.prog e l := by
          intro l
          induction l with
          | nil => intro h; cases h
          | cons x l ih =>
            intro h
            simp only [DataW.weightsAll, List.mem_append]
            rcases List.mem_cons.1 h with rfl | h
            · exact .inl hq
            · exact .inr (ih h)
        have := key ((List.range n).map D) (List.mem_map.2 ⟨i, List.mem_range.2 hi, rfl⟩)
        simp only [DataW.weights, ht, List.mem_cons, List.mem_append]
        exact .inr (.inl this))
      exact ⟨y, by rw [h1, e], hq⟩
    have hmk : ∀ k, k ≤ n → ∃ xs : List α, xs.length = k ∧ (∀ i, i < k → ∃ y, xs[i]? = some y ∧ w.cell? (a.add i) = some (f y)) ∧ ∀ x ∈ xs, Q x := by
      intro k
      induction k with
      | zero => exact fun _ => ⟨[], rfl, fun i hi => absurd hi (by omega), by simp⟩
      | succ k ih =>
        intro hk
        obtain ⟨xs, h1, h2, h3⟩ := ih (by omega)
        obtain ⟨y, h4, h5⟩ := each k (by omega)
        refine ⟨xs ++ [y], by simp [h1], fun i hi => ?_, ?_⟩
        · by_cases hik : i < k
          · obtain ⟨z, h6, h7⟩ := h2 i hik
            exact ⟨z, by rw [List.getElem?_append_left (by omega)]; exact h6, h7⟩
          · obtain rfl : i = k := by omega
            exact ⟨y, by rw [List.getElem?_append_right (by omega), h1]; simp, h4⟩
        · intro x hx
          rcases List.mem_append.1 hx with hx | hx
          · exact h3 x hx
          · rw [List.mem_singleton.1 hx]; exact h5
    obtain ⟨xs, h1, h2, h3⟩ := hmk n (Nat.le_refl _)
    refine ⟨xs, fun k u hu => ?_, Lib.hid h1.symm, hl, hcap, h3⟩
    obtain ⟨b, off, spot⟩ := a
    have hk : k < n := by
      have := (List.getElem?_eq_some_iff.1 hu).1
      simp at this; omega
    obtain ⟨y, e1, e2⟩ := h2 k hk
    have hspot : spot = none := by
      obtain ⟨y0, _, e0⟩ := h2 0 (by omega)
      simpa [Addr.add] using World.cell?_spot e0
    subst hspot
    have hplain : (⟨b, off, none⟩ : Addr).add k = ⟨b, off + k, none⟩ := by unfold Addr.add; split <;> simp_all
    have e3 : w.cell? ⟨b, off + k, none⟩ = some (f y) := by rw [← hplain]; exact e2
    refine ⟨b, off, rfl, World.block_lt_of_cell? w _ e3, ?_⟩
    rw [e3]
    rw [List.getElem?_map, e1] at hu
    exact hu
theorem strs_open {A : Option Addr} {n c : Nat} {d : DataW H} {p : List MemPlace} (h : DataW.Trod enc Tryz.prog w base (fun _ => true) held 26 (.slice A n c) d p) (hwt : ∀ q ∈ d.weights Tryz.prog 26, q ≤ reachBytes) : ∃ xs, Strs w A n c xs := by
  obtain ⟨xs, h1, h2, h3, h4, h5⟩ := ones_open strV (fun x => x.length ≤ 140737488355328) Tryz.underlying26 (by kernel_rfl) (fun {m V x} hx hq => by
    obtain ⟨s, e, q, _⟩ := DataW.trod_string Tryz.underlying9 hx
    obtain ⟨l, rfl, hl⟩ := str_split s
    injection e with e _
    have := hq l.length (by rw [q]; simp [DataW.weights])
    have hr : reachBytes < 2 ^ 47 := by decide
    exact ⟨l, e, by omega⟩) h (by decide +kernel) hwt
  exact ⟨xs, h1, h2, h3, Nat.le_trans h3 h4, h5⟩
set_option maxHeartbeats 4000000 in
/-- An event's cells, read as data. -/
theorem open_ev (fuel : Nat) (cs : List Value) (x : DataW H × List MemPlace) (h : DataW.trod enc Tryz.prog w base (fun _ => true) held fuel 29 cs = some x) (hwt : ∀ q ∈ x.1.weights Tryz.prog 29, q ≤ reachBytes) :
    ∃ e a, cs = evC e a ∧ EOk w e a := by
  obtain ⟨xs, n, rfl, rfl, hl, hlen, hf⟩ := DataW.trod_struct Tryz.underlying29 h
  have hrch : reachBytes < 2 ^ 47 := by decide
  have c17 : Tryz.prog.cellsOf 29 = 17 := by kernel_rfl
  have c6 : Tryz.prog.cellsOf 25 = 6 := by kernel_rfl
  have hci : Tryz.prog.cellsOf 3 = 1 := by kernel_rfl
  have hcb : Tryz.prog.cellsOf 4 = 1 := by kernel_rfl
  have hcs : Tryz.prog.cellsOf 9 = 1 := by kernel_rfl
  have hcl : Tryz.prog.cellsOf 26 = 1 := by kernel_rfl
  have hcm : Tryz.prog.cellsOf 27 = 1 := by kernel_rfl
  match xs, hlen with
  | [y0, y1, y2, y3, y4, y5, y6, y7, y8, y9, y10, y11], _ =>
    have t0 : DataW.trod enc Tryz.prog w base (fun _ => true) held n 9 ((cs.drop 0).take (Tryz.prog.cellsOf 9)) = some y0 := hf 0 _ rfl
    have t1 : DataW.trod enc Tryz.prog w base (fun _ => true) held n 9 ((cs.drop 1).take (Tryz.prog.cellsOf 9)) = some y1 := hf 1 _ rfl
    have t2 : DataW.trod enc Tryz.prog w base (fun _ => true) held n 9 ((cs.drop 2).take (Tryz.prog.cellsOf 9)) = some y2 := hf 2 _ rfl
    have t3 : DataW.trod enc Tryz.prog w base (fun _ => true) held n 4 ((cs.drop 3).take (Tryz.prog.cellsOf 4)) = some y3 := hf 3 _ rfl
    have t4 : DataW.trod enc Tryz.prog w base (fun _ => true) held n 9 ((cs.drop 4).take (Tryz.prog.cellsOf 9)) = some y4 := hf 4 _ rfl
    have t5 : DataW.trod enc Tryz.prog w base (fun _ => true) held n 25 ((cs.drop 5).take (Tryz.prog.cellsOf 25)) = some y5 := hf 5 _ rfl
    have t6 : DataW.trod enc Tryz.prog w base (fun _ => true) held n 26 ((cs.drop 11).take (Tryz.prog.cellsOf 26)) = some y6 := hf 6 _ rfl
    have t7 : DataW.trod enc Tryz.prog w base (fun _ => true) held n 26 ((cs.drop 12).take (Tryz.prog.cellsOf 26)) = some y7 := hf 7 _ rfl
    have t8 : DataW.trod enc Tryz.prog w base (fun _ => true) held n 3 ((cs.drop 13).take (Tryz.prog.cellsOf 3)) = some y8 := hf 8 _ rfl
    have t9 : DataW.trod enc Tryz.prog w base (fun _ => true) held n 3 ((cs.drop 14).take (Tryz.prog.cellsOf 3)) = some y9 := hf 9 _ rfl
    have t10 : DataW.trod enc Tryz.prog w base (fun _ => true) held n 9 ((cs.drop 15).take (Tryz.prog.cellsOf 9)) = some y10 := hf 10 _ rfl
    have t11 : DataW.trod enc Tryz.prog w base (fun _ => true) held n 27 ((cs.drop 16).take (Tryz.prog.cellsOf 27)) = some y11 := hf 11 _ rfl
    clear hf
    rw [hcs] at t0 t1 t2 t4 t10
    rw [hcb] at t3
    rw [c6] at t5
    rw [hcl] at t6 t7
    rw [hci] at t8 t9
    rw [hcm] at t11
    rw [c17] at hl
    match cs, hl with
    | [z0, z1, z2, z3, z4, z5, z6, z7, z8, z9, z10, z11, z12, z13, z14, z15, z16], _ =>
    simp only [List.drop_zero, List.drop_succ_cons, List.take_succ_cons, List.take_zero] at t0 t1 t2 t3 t4 t5 t6 t7 t8 t9 t10 t11
    have hwe : ∀ (j : Nat) (T : TypeId) (y : DataW H × List MemPlace), ([(9, y0), (9, y1), (9, y2), (4, y3), (9, y4), (25, y5), (26, y6), (26, y7), (3, y8), (3, y9), (9, y10), (27, y11)] : List (TypeId × (DataW H × List MemPlace)))[j]? = some (T, y) → ∀ q ∈ y.1.weights Tryz.prog T, q ≤ reachBytes := by
      intro j T y hj q hq
      refine hwt q ?_
      simp only [DataW.weights, Tryz.underlying29, List.map_cons, List.map_nil]
      match j, hj with
      | 0, hj => injection hj with hj; injection hj with e1 e2; subst e1; subst e2; exact DataW.weights_mem_each (j := 0) rfl rfl q hq
      | 1, hj => injection hj with hj; injection hj with e1 e2; subst e1; subst e2; exact DataW.weights_mem_each (j := 1) rfl rfl q hq
      | 2, hj => injection hj with hj; injection hj with e1 e2; subst e1; subst e2; exact DataW.weights_mem_each (j := 2) rfl rfl q hq
      | 3, hj => injection hj with hj; injection hj with e1 e2; subst e1; subst e2; exact DataW.weights_mem_each (j := 3) rfl rfl q hq
      | 4, hj => injection hj with hj; injection hj with e1 e2; subst e1; subst e2; exact DataW.weights_mem_each (j := 4) rfl rfl q hq
      | 5, hj => injection hj with hj; injection hj with e1 e2; subst e1; subst e2; exact DataW.weights_mem_each (j := 5) rfl rfl q hq
      | 6, hj => injection hj with hj; injection hj with e1 e2; subst e1; subst e2; exact DataW.weights_mem_each (j := 6) rfl rfl q hq
      | 7, hj => injection hj with hj; injection hj with e1 e2; subst e1; subst e2; exact DataW.weights_mem_each (j := 7) rfl rfl q hq
      | 8, hj => injection hj with hj; injection hj with e1 e2; subst e1; subst e2; exact DataW.weights_mem_each (j := 8) rfl rfl q hq
      | 9, hj => injection hj with hj; injection hj with e1 e2; subst e1; subst e2; exact DataW.weights_mem_each (j := 9) rfl rfl q hq
      | 10, hj => injection hj with hj; injection hj with e1 e2; subst e1; subst e2; exact DataW.weights_mem_each (j := 10) rfl rfl q hq
      | 11, hj => injection hj with hj; injection hj with e1 e2; subst e1; subst e2; exact DataW.weights_mem_each (j := 11) rfl rfl q hq
      | j + 12, hj => simp at hj
    have str : ∀ (j : Nat) (z : Value) (y : DataW H × List MemPlace), DataW.trod enc Tryz.prog w base (fun _ => true) held n 9 [z] = some y → (∀ q ∈ y.1.weights Tryz.prog 9, q ≤ reachBytes) → ∃ l : List UInt8, z = .string ⟨l.toArray⟩ ∧ l.length ≤ 140737488355328 := fun j z y ht hq => by
      obtain ⟨s, e, q, _⟩ := DataW.trod_string Tryz.underlying9 ht
      obtain ⟨l, rfl, hl⟩ := str_split s
      injection e with e _
      have := hq l.length (by rw [q]; simp [DataW.weights])
      exact ⟨l, e, by omega⟩
    obtain ⟨rm, rfl, l0⟩ := str 0 _ _ t0 (hwe 0 _ y0 rfl)
    obtain ⟨sd, rfl, l1⟩ := str 1 _ _ t1 (hwe 1 _ y1 rfl)
    obtain ⟨ty, rfl, l2⟩ := str 2 _ _ t2 (hwe 2 _ y2 rfl)
    obtain ⟨st, e3, q3⟩ := DataW.trod_bool Tryz.underlying4 t3
    obtain ⟨ky, rfl, l4⟩ := str 4 _ _ t4 (hwe 4 _ y4 rfl)
    obtain ⟨v, A, nl, cl, B, nm, cm, ev, v1, v2, v3, v4, v5⟩ := open_jv _ _ _ t5 (hwe 5 _ y5 rfl)
    obtain ⟨dp, e8, q8, w8⟩ := DataW.trod_int Tryz.underlying3 t8
    obtain ⟨tm, e9, q9, w9⟩ := DataW.trod_int Tryz.underlying3 t9
    obtain ⟨hs, rfl, l10⟩ := str 10 _ _ t10 (hwe 10 _ y10 rfl)
    have sl : ∀ (T E : TypeId) (z : Value) (y : DataW H × List MemPlace), Tryz.prog.underlying T = some (.slice E) → DataW.trod enc Tryz.prog w base (fun _ => true) held n T [z] = some y → ∃ A n c, z = .slice A n c := fun T E z y hu ht => by
      rcases open_depth hu ht with ⟨ec, _⟩ | ⟨a, len, cap, k, D, rest, hk, ec, _⟩
      · injection ec with ec _; exact ⟨_, _, _, ec⟩
      · injection ec with ec _; exact ⟨_, _, _, ec⟩
    obtain ⟨P, np, cp, rfl⟩ := sl _ _ _ _ Tryz.underlying26 t6
    obtain ⟨U, nu, cu, rfl⟩ := sl _ _ _ _ Tryz.underlying26 t7
    obtain ⟨S, ns, cs, rfl⟩ := sl _ _ _ _ Tryz.underlying27 t11
    obtain ⟨pv, s6⟩ := strs_open (d := y6.1) (p := y6.2) ⟨n, t6⟩ (hwe 6 _ y6 rfl)
    obtain ⟨au, s7⟩ := strs_open (d := y7.1) (p := y7.2) ⟨n, t7⟩ (hwe 7 _ y7 rfl)
    obtain ⟨sg, s11⟩ := sigs_open (d := y11.1) (p := y11.2) ⟨n, t11⟩ (hwe 11 _ y11 rfl)
    injection e3 with e3 _
    injection e8 with e8 _
    injection e9 with e9 _
    subst e3 e8 e9
    injection ev with g5 ev; injection ev with g6 ev; injection ev with g7 ev; injection ev with g8 ev; injection ev with g9 ev; injection ev with g10 ev
    subst g5 g6 g7 g8 g9 g10
    refine ⟨⟨rm, sd, ty, st, ky, v, pv, au, dp, tm, hs, sg⟩, ⟨A, B, nl, cl, nm, cm, P, np, cp, U, nu, cu, S, ns, cs⟩, rfl, ⟨v1, v2, v3, v4, v5⟩, s6, s7, s11, ⟨l0, l1, l2, l4, l10⟩, ?_, ?_⟩
    · simpa [Lit.wf, IntKind.min, IntKind.max, IntKind.signed, IntKind.bits] using w8
    · simpa [Lit.wf, IntKind.min, IntKind.max, IntKind.signed, IntKind.bits] using w9
/-- An event among a law's parameters. -/
theorem open_event {W : World} {r : _} {b0 : Nat} {v : Value} {d : DataW H} {p : List MemPlace} (hv : Value.okWide Tryz.prog W r b0 29 v) (h : DataW.Trod enc Tryz.prog w base (fun _ => true) held 29 v d p) (hwt : ∀ q ∈ d.weights Tryz.prog 29, q ≤ reachBytes) :
    ∃ e a, v = .agg (evC e a).toArray ∧ EOk w e a := by
  unfold Value.okWide at hv
  rw [Tryz.underlying29] at hv
  obtain ⟨cs, rfl, hsz, _⟩ := hv
  obtain ⟨fuel, hf⟩ := h
  obtain ⟨e, a, he, ho⟩ := open_ev fuel _ _ hf hwt
  refine ⟨e, a, ?_, ho⟩
  obtain ⟨L⟩ := cs
  simp only [Value.cells] at he
  rw [he]
end
end Go.Proofs.YtkbcbikilgcckaaGreatDoor
