/- Layer 9: values among a law's parameters: what they read. No function is named. -/
import Derived.Test.YtlfmknebkfnliaaJvM
import Derived.Deep.Slices
import Derived.Deep.Strs
import Derived.Lib.SmallJoins
namespace Go.Proofs.Ytlfmknebkfnliaa
open Go.ChangeShapes Go.WideShapes Go.ChangeAt Go.RowKit
set_option linter.unusedVariables false

/-- A value by value, with what it leads to. -/
def VOk (w : World) (v : Jv) (A B : Option Addr) (nl cl nm cm : Nat) : Prop :=
  Room nl cl v.l.ext ∧ Room nm cm v.m.ext ∧ JSl (· < w.heap.size) w false A v.l ∧ JSl (· < w.heap.size) w true B v.m ∧ Fit v.kd v.n v.s
def vCs (v : Jv) (A B : Option Addr) (nl cl nm cm : Nat) : List Value := [.int .i64 v.kd, .bool v.is, .int .i64 v.n, strV v.s, .slice A nl cl, .slice B nm cm]
theorem VOk.below {w w' : World} {v : Jv} {A B : Option Addr} {nl cl nm cm : Nat} (h : VOk w v A B nl cl nm cm) (b : Below w.heap.size w w') : VOk w' v A B nl cl nm cm :=
  ⟨h.1, h.2.1, h.2.2.1.stay (fun b' o hb => b.cell (p := ⟨b', o, none⟩) hb) (fun x hx => Nat.lt_of_lt_of_le hx b.size), h.2.2.2.1.stay (fun b' o hb => b.cell (p := ⟨b', o, none⟩) hb) (fun x hx => Nat.lt_of_lt_of_le hx b.size), h.2.2.2.2⟩
/-- Rows put together from their elements. -/
theorem JIn.make {P : Nat → Prop} {w : World} {mem : Bool} {b : Nat} : ∀ (n o : Nat), (∀ i, i < n → ∃ (k : List UInt8) (v : Jv) (cs : List Value), (if mem then w.cell? ⟨b, o + i * stM mem, none⟩ = some (strV k) ∧ k.length ≤ 140737488355328 else k = []) ∧ w.rangeAt b (o + i * stM mem + kwM mem) cs ∧ JCs P w cs v) →
    ∃ t : JT, t.ext = n ∧ JIn P w mem b o t
  | 0, o, _ => ⟨.nil, rfl, trivial⟩
  | n + 1, o, h => by
    obtain ⟨t, h1, h2⟩ := JIn.make (P := P) (w := w) (mem := mem) (b := b) n (o + stM mem) (fun i hi => by
      have := h (i + 1) (by omega)
      rwa [show o + (i + 1) * stM mem = o + stM mem + i * stM mem by rw [Nat.succ_mul]; omega] at this)
    obtain ⟨k, v, cs, h3, h4, A, nl, cl, B, nm, cm, rfl, h5, h6, h7, h8, h9⟩ := h 0 (by omega)
    rw [Nat.zero_mul, Nat.add_zero] at h3 h4
    exact ⟨.cons k v.kd v.is v.n v.s v.l v.m t, by simp [JT.ext, h1], h3, ⟨A, nl, cl, B, nm, cm, h4, h5, h6, h7, h8⟩, h9, h2⟩
section
variable {H : Type} {enc : TypeId × Value → H} {w : World} {base : Nat} {held : Bool}
theorem plain_at {w : World} {b off : Nat} {spot : Option _} {v : Value} (h : w.cell? ⟨b, off, spot⟩ = some v) : spot = none := World.cell?_spot h
theorem add_plain2 (b off i j : Nat) : ((⟨b, off, none⟩ : Addr).add i).add j = ⟨b, off + (i + j), none⟩ := by
  rw [← Nat.add_assoc]; unfold Addr.add; split <;> split <;> simp_all
theorem weights_in {T e : TypeId} (ht : Try.prog.underlying T = some (.slice e)) (f : Nat → DataW H) (n : Nat) (rest : List (DataW H)) {i : Nat} (hi : i < n) {q : Nat} (hq : q ∈ (f i).weights Try.prog e) :
    q ∈ (DataW.slice ((List.range n).map f) rest).weights Try.prog T := by
  have key : ∀ (l : List (DataW H)), f i ∈ l → q ∈ DataW.weightsAll Try.prog e l := by
    intro l
    induction l with
    | nil => intro h; cases h
    | cons x l ih =>
      intro h
      simp only [DataW.weightsAll, List.mem_append]
      rcases List.mem_cons.1 h with rfl | h
      · exact .inl hq
      · exact .inr (ih h)
  have := key ((List.range n).map f) (List.mem_map.2 ⟨i, List.mem_range.2 hi, rfl⟩)
  simp only [DataW.weights, ht, List.mem_cons, List.mem_append]
  exact .inr (.inl this)
/-- A slice opened, with the depth that is left. -/
theorem open_depth {t e : TypeId} {fuel : Nat} {cs : List Value} {x : DataW H × List MemPlace} (ht : Try.prog.underlying t = some (.slice e)) (h : DataW.trod enc Try.prog w base (fun _ => true) held fuel t cs = some x) :
    (cs = [.slice none 0 0] ∧ x = (.nil, [])) ∨
    ∃ (a : Addr) (len cap n : Nat) (D : Nat → DataW H) (rest : List (DataW H)), n < fuel ∧ cs = [.slice (some a) len cap] ∧ len ≤ cap ∧ cap * Try.prog.bytesOf e ∈ x.1.weights Try.prog t ∧ x.1 = .slice ((List.range len).map D) rest ∧
      ∀ i, i < len → ∃ cs' p, w.cells? base (a.add (i * Try.prog.cellsOf e)) (Try.prog.cellsOf e) = some cs' ∧ DataW.trod enc Try.prog w base (fun _ => true) held n e cs' = some (D i, p) := by
  rcases DataW.trod_slice ht h with h0 | ⟨a, len, cap, elems, rest, n, rfl, rfl, rfl, hb, hl, hm, hlen, hel, hsp, _⟩
  · exact .inl h0
  refine .inr ⟨a, len, cap, n, fun i => (elems.getD i (.nil, [])).1, rest.map (·.1), by omega, rfl, hl, ?_, ?_, fun i hi => ?_⟩
  · have h1 := (hsp rfl).1
    have h2 : elems.length + rest.length = cap := by omega
    rw [← h2]
    simp [DataW.weights, ht]
  · have : elems.map (·.1) = (List.range len).map fun i => (elems.getD i (.nil, [])).1 := by
      refine List.ext_getElem (by simp [hlen]) fun i h1 h2 => ?_
      simp at h1
      simp [List.getD, h1]
    simp only [this]
  · have key := hel i hi
    have hi2 : i < elems.length := by omega
    rw [List.getElem?_eq_getElem hi2] at key
    obtain ⟨cs', h1, h2⟩ := Option.bind_eq_some_iff.1 key
    refine ⟨cs', (elems.getD i (.nil, [])).2, h1, ?_⟩
    rw [h2]; simp [List.getD, hi2]
set_option maxHeartbeats 4000000 in
/-- A value's cells, read as data. -/
theorem open_jv : ∀ (fuel : Nat) (cs : List Value) (x : DataW H × List MemPlace), DataW.trod enc Try.prog w base (fun _ => true) held fuel 25 cs = some x → (∀ q ∈ x.1.weights Try.prog 25, q ≤ reachBytes) →
    ∃ v, JCs (· < w.heap.size) w cs v := by
  intro fuel
  induction fuel using Nat.strongRecOn with
  | _ fuel IH =>
    intro cs x h hwt
    obtain ⟨xs, n, rfl, rfl, hl, hlen, hf⟩ := DataW.trod_struct Try.underlying25 h
    have hrch : reachBytes < 2 ^ 47 := by decide
    have c6 : Try.prog.cellsOf 25 = 6 := by kernel_rfl
    have c7 : Try.prog.cellsOf 36 = 7 := by kernel_rfl
    have hci : Try.prog.cellsOf 3 = 1 := by kernel_rfl
    have hcb : Try.prog.cellsOf 4 = 1 := by kernel_rfl
    have hcs : Try.prog.cellsOf 9 = 1 := by kernel_rfl
    have hcl : Try.prog.cellsOf 22 = 1 := by kernel_rfl
    have hcm : Try.prog.cellsOf 23 = 1 := by kernel_rfl
    match xs, hlen with
    | [y0, y1, y2, y3, y4, y5], _ =>
      have t0 : DataW.trod enc Try.prog w base (fun _ => true) held n 3 ((cs.drop 0).take (Try.prog.cellsOf 3)) = some y0 := hf 0 _ rfl
      have t1 : DataW.trod enc Try.prog w base (fun _ => true) held n 4 ((cs.drop 1).take (Try.prog.cellsOf 4)) = some y1 := hf 1 _ rfl
      have t2 : DataW.trod enc Try.prog w base (fun _ => true) held n 3 ((cs.drop 2).take (Try.prog.cellsOf 3)) = some y2 := hf 2 _ rfl
      have t3 : DataW.trod enc Try.prog w base (fun _ => true) held n 9 ((cs.drop 3).take (Try.prog.cellsOf 9)) = some y3 := hf 3 _ rfl
      have t4 : DataW.trod enc Try.prog w base (fun _ => true) held n 22 ((cs.drop 4).take (Try.prog.cellsOf 22)) = some y4 := hf 4 _ rfl
      have t5 : DataW.trod enc Try.prog w base (fun _ => true) held n 23 ((cs.drop 5).take (Try.prog.cellsOf 23)) = some y5 := hf 5 _ rfl
      clear hf
      rw [hci] at t0
      rw [hcb] at t1
      rw [hci] at t2
      rw [hcs] at t3
      rw [hcl] at t4
      rw [hcm] at t5
      rw [c6] at hl
      match cs, hl with
      | [z0, z1, z2, z3, z4, z5], _ =>
      simp only [List.drop_zero, List.drop_succ_cons, List.take_succ_cons, List.take_zero] at t0 t1 t2 t3 t4 t5
      obtain ⟨kd, e0, q0, w0⟩ := DataW.trod_int Try.underlying3 t0
      obtain ⟨is, e1, q1⟩ := DataW.trod_bool Try.underlying4 t1
      obtain ⟨nn, e2, q2, w2⟩ := DataW.trod_int Try.underlying3 t2
      obtain ⟨s0, e3, q3, w3⟩ := DataW.trod_string Try.underlying9 t3
      obtain ⟨s, rfl, hss⟩ := str_split s0
      have hwe : ∀ (j : Nat) (T : TypeId) (y : DataW H × List MemPlace), ([(3, y0), (4, y1), (3, y2), (9, y3), (22, y4), (23, y5)] : List (TypeId × (DataW H × List MemPlace)))[j]? = some (T, y) → ∀ q ∈ y.1.weights Try.prog T, q ≤ reachBytes := by
        intro j T y hj q hq
        refine hwt q ?_
        simp only [DataW.weights, Try.underlying25, List.map_cons, List.map_nil]
        match j, hj with
        | 0, hj => injection hj with hj; injection hj with e1 e2; subst e1; subst e2; exact DataW.weights_mem_each (j := 0) rfl rfl q hq
        | 1, hj => injection hj with hj; injection hj with e1 e2; subst e1; subst e2; exact DataW.weights_mem_each (j := 1) rfl rfl q hq
        | 2, hj => injection hj with hj; injection hj with e1 e2; subst e1; subst e2; exact DataW.weights_mem_each (j := 2) rfl rfl q hq
        | 3, hj => injection hj with hj; injection hj with e1 e2; subst e1; subst e2; exact DataW.weights_mem_each (j := 3) rfl rfl q hq
        | 4, hj => injection hj with hj; injection hj with e1 e2; subst e1; subst e2; exact DataW.weights_mem_each (j := 4) rfl rfl q hq
        | 5, hj => injection hj with hj; injection hj with e1 e2; subst e1; subst e2; exact DataW.weights_mem_each (j := 5) rfl rfl q hq
        | j + 6, hj => simp at hj
      have hsl : s.length ≤ 140737488355328 := by
        have := hwe 3 _ y3 rfl s.length (by rw [q3]; simp [DataW.weights])
        omega
      injection e0 with e0 _
      injection e1 with e1 _
      injection e2 with e2 _
      injection e3 with e3 _
      subst e0 e1 e2 e3
      have hfit : Fit kd nn s := by
        refine ⟨?_, ?_, hsl⟩
        · simpa [Lit.wf, IntKind.min, IntKind.max, IntKind.signed, IntKind.bits] using w0
        · simpa [Lit.wf, IntKind.min, IntKind.max, IntKind.signed, IntKind.bits] using w2
      -- a slice's elements
      have hA : ∃ (A : Option Addr) (nl cl : Nat) (l : JT), z4 = .slice A nl cl ∧ Room nl cl l.ext ∧ JSl (· < w.heap.size) w false A l := by
        rcases open_depth Try.underlying22 t4 with ⟨ec, _⟩ | ⟨a, len, cap, k, D, rest, hk, ec, hle, hcap, hx, hall⟩
        · injection ec with ec _
          exact ⟨none, 0, 0, .nil, ec, ⟨rfl, Nat.le_refl _, by decide⟩, .inl rfl⟩
        · injection ec with ec _
          have hcap : cap ≤ 140737488355328 := by
            have h1 := hwe 4 _ y4 rfl _ hcap
            have h2 : 1 ≤ Try.prog.bytesOf 25 := by decide +kernel
            have h3 := Nat.mul_le_mul_left cap h2
            omega
          rw [c6] at hall
          by_cases h0 : len = 0
          · subst h0
            exact ⟨some a, 0, cap, .nil, ec, ⟨rfl, hle, Nat.zero_le _⟩, .inl rfl⟩
          · obtain ⟨b, off, spot⟩ := a
            have hspot : spot = none := by
              obtain ⟨cs', p, h1, h2⟩ := hall 0 (by omega)
              obtain ⟨_, hlen', hc'⟩ := World.cells?_some h1
              have h3 := hc' 0 (by decide)
              rw [List.getElem?_eq_getElem (by omega)] at h3
              simpa [Addr.add] using World.cell?_spot h3
            subst hspot
            obtain ⟨t, ht1, ht2⟩ := JIn.make (P := (· < w.heap.size)) (w := w) (mem := false) (b := b) len off (fun i hi => by
              obtain ⟨cs', p, h1, h2⟩ := hall i hi
              obtain ⟨_, hlen', hc'⟩ := World.cells?_some h1
              obtain ⟨v, hv⟩ := IH k (by omega) cs' _ h2 (fun q hq => hwe 4 _ y4 rfl q (by rw [hx]; exact weights_in Try.underlying22 D len rest hi hq))
              refine ⟨[], v, cs', rfl, fun j u hj => ?_, hv⟩
              have hj6 : j < 6 := by rw [← hlen']; exact (List.getElem?_eq_some_iff.1 hj).1
              have h3 := hc' j hj6
              rw [add_plain2, hj] at h3
              show w.cell? ⟨b, off + i * 6 + 0 + j, none⟩ = some u
              rw [show off + i * 6 + 0 + j = off + (i * 6 + j) by omega]
              exact h3)
            have hbl : b < w.heap.size := by
              obtain ⟨cs', p, h1, h2⟩ := hall 0 (by omega)
              obtain ⟨_, hlen', hc'⟩ := World.cells?_some h1
              have h3 := hc' 0 (by decide)
              rw [List.getElem?_eq_getElem (by omega)] at h3
              rw [add_plain2] at h3
              exact World.block_lt_of_cell? w _ h3
            exact ⟨_, len, cap, t, ec, ⟨ht1.symm, hle, Nat.le_trans hle hcap⟩, .inr ⟨b, off, rfl, hbl, ht2⟩⟩
      have hB : ∃ (B : Option Addr) (nm cm : Nat) (m : JT), z5 = .slice B nm cm ∧ Room nm cm m.ext ∧ JSl (· < w.heap.size) w true B m := by
        rcases open_depth Try.underlying23 t5 with ⟨ec, _⟩ | ⟨a, len, cap, k, D, rest, hk, ec, hle, hcap, hx, hall⟩
        · injection ec with ec _
          exact ⟨none, 0, 0, .nil, ec, ⟨rfl, Nat.le_refl _, by decide⟩, .inl rfl⟩
        · injection ec with ec _
          have hcap : cap ≤ 140737488355328 := by
            have h1 := hwe 5 _ y5 rfl _ hcap
            have h2 : 1 ≤ Try.prog.bytesOf 36 := by decide +kernel
            have h3 := Nat.mul_le_mul_left cap h2
            omega
          rw [c7] at hall
          by_cases h0 : len = 0
          · subst h0
            exact ⟨some a, 0, cap, .nil, ec, ⟨rfl, hle, Nat.zero_le _⟩, .inl rfl⟩
          · obtain ⟨b, off, spot⟩ := a
            have hspot : spot = none := by
              obtain ⟨cs', p, h1, h2⟩ := hall 0 (by omega)
              obtain ⟨_, hlen', hc'⟩ := World.cells?_some h1
              have h3 := hc' 0 (by decide)
              rw [List.getElem?_eq_getElem (by omega)] at h3
              simpa [Addr.add] using World.cell?_spot h3
            subst hspot
            obtain ⟨t, ht1, ht2⟩ := JIn.make (P := (· < w.heap.size)) (w := w) (mem := true) (b := b) len off (fun i hi => by
              obtain ⟨cs', p, h1, h2⟩ := hall i hi
              obtain ⟨_, hlen', hc'⟩ := World.cells?_some h1
              obtain ⟨ys, k2, hk2, hD, hl2, hlen2, hf2⟩ := DataW.trod_struct Try.underlying36 h2
              match ys, hlen2 with
              | [u0, u1], _ =>
              have s0 : DataW.trod enc Try.prog w base (fun _ => true) held k2 9 ((cs'.drop 0).take (Try.prog.cellsOf 9)) = some u0 := hf2 0 _ rfl
              have s1 : DataW.trod enc Try.prog w base (fun _ => true) held k2 25 ((cs'.drop 1).take (Try.prog.cellsOf 25)) = some u1 := hf2 1 _ rfl
              rw [hcs] at s0
              rw [c6] at s1
              injection hD with hD _
              have hDw : ∀ q ∈ u0.1.weights Try.prog 9 ++ u1.1.weights Try.prog 25, q ≤ reachBytes := fun q hq => hwe 5 _ y5 rfl q (by
                rw [hx]
                refine weights_in Try.underlying23 D len rest hi ?_
                rw [hD]
                simp only [DataW.weights, Try.underlying36, List.map_cons, List.map_nil]
                rcases List.mem_append.1 hq with hq | hq
                · exact DataW.weights_mem_each (j := 0) rfl rfl q hq
                · exact DataW.weights_mem_each (j := 1) rfl rfl q hq)
              obtain ⟨k0, e6, q6, w6⟩ := DataW.trod_string Try.underlying9 s0
              obtain ⟨kk, rfl, hkk⟩ := str_split k0
              obtain ⟨v, hv⟩ := IH k2 (by omega) _ _ s1 (fun q hq => hDw q (List.mem_append.2 (.inr hq)))
              have hkl : kk.length ≤ 140737488355328 := by
                have := hDw kk.length (List.mem_append.2 (.inl (by rw [q6]; simp [DataW.weights])))
                omega
              have cell : ∀ j u, cs'[j]? = some u → w.cell? ⟨b, off + i * 7 + j, none⟩ = some u := fun j u hj => by
                have hj7 : j < 7 := by rw [← hlen']; exact (List.getElem?_eq_some_iff.1 hj).1
                have h3 := hc' j hj7
                rw [add_plain2, hj] at h3
                rw [show off + i * 7 + j = off + (i * 7 + j) by omega]
                exact h3
              refine ⟨kk, v, (cs'.drop 1).take 6, ⟨?_, hkl⟩, fun j u hj => ?_, hv⟩
              · refine cell 0 _ ?_
                have h5 := congrArg (fun q => q[0]?) e6
                exact (show cs'[0]? = some (.string ⟨kk.toArray⟩) by simpa [List.getElem?_take, List.getElem?_drop] using h5)
              · have hj6 : cs'[1 + j]? = some u := by
                  rw [List.getElem?_take] at hj
                  split at hj
                  · rwa [List.getElem?_drop] at hj
                  · cases hj
                have := cell (1 + j) u hj6
                show w.cell? ⟨b, off + i * 7 + 1 + j, none⟩ = some u
                rwa [show off + i * 7 + 1 + j = off + i * 7 + (1 + j) by omega])
            have hbl : b < w.heap.size := by
              obtain ⟨cs', p, h1, h2⟩ := hall 0 (by omega)
              obtain ⟨_, hlen', hc'⟩ := World.cells?_some h1
              have h3 := hc' 0 (by decide)
              rw [List.getElem?_eq_getElem (by omega)] at h3
              rw [add_plain2] at h3
              exact World.block_lt_of_cell? w _ h3
            exact ⟨_, len, cap, t, ec, ⟨ht1.symm, hle, Nat.le_trans hle hcap⟩, .inr ⟨b, off, rfl, hbl, ht2⟩⟩
      obtain ⟨A, nl, cl, l, rfl, h1, h2⟩ := hA
      obtain ⟨B, nm, cm, m, rfl, h3, h4⟩ := hB
      exact ⟨⟨kd, is, nn, s, l, m⟩, A, nl, cl, B, nm, cm, rfl, h1, h3, h2, h4, hfit⟩
/-- A value among a law's parameters. -/
theorem open_value {W : World} {r : _} {b0 : Nat} {v : Value} {d : DataW H} {p : List MemPlace} (hv : Value.okWide Try.prog W r b0 25 v) (h : DataW.Trod enc Try.prog w base (fun _ => true) held 25 v d p) (hwt : ∀ q ∈ d.weights Try.prog 25, q ≤ reachBytes) :
    ∃ (a : Jv) (A B : Option Addr) (nl cl nm cm : Nat), v = .agg #[.int .i64 a.kd, .bool a.is, .int .i64 a.n, .string ⟨a.s.toArray⟩, .slice A nl cl, .slice B nm cm] ∧ VOk w a A B nl cl nm cm := by
  unfold Value.okWide at hv
  rw [Try.underlying25] at hv
  obtain ⟨cs, rfl, hsz, _⟩ := hv
  obtain ⟨fuel, hf⟩ := h
  obtain ⟨a, A, nl, cl, B, nm, cm, e, h1, h2, h3, h4, h5⟩ := open_jv fuel _ _ hf hwt
  refine ⟨a, A, B, nl, cl, nm, cm, ?_, h1, h2, h3, h4, h5⟩
  obtain ⟨L⟩ := cs
  simp only [Value.cells] at e
  rw [e]; rfl
end
end Go.Proofs.Ytlfmknebkfnliaa
