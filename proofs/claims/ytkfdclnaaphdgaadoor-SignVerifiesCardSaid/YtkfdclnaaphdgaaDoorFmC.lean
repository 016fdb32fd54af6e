/- Layers 4 and 6: texts put together (RfA RfB RfC RfD RfE RfF RfG). -/
import Derived.Test.YtkfdclnaaphdgaaDoorFmB
import Derived.Test.YtkfdclnaaphdgaaDoorStr
import Derived.StillTailTactics
import Derived.Test.YtkfdclnaaphdgaaDoorLit
namespace Go.Proofs.YtkfdclnaaphdgaaDoor
open Go.ChangeShapes Go.WideShapes Go.ChangeAt Go.RowKit Go.IntWalk
set_option linter.unusedVariables false

def i64s (ds : List Int) : List Value := ds.map (Value.int .i64)
def A16 (ds : List Int) : Value := .agg (i64s ds).toArray
/-- What digits are. -/
def valD : List Int → Int
  | [] => 0
  | d :: ds => d + 65536 * valD ds
/-- Carrying from digit to digit. -/
def cgo : Int → List Int → List Int × Int
  | c, [] => ([], c)
  | c, d :: ds => ((d + c) % 65536 :: (cgo ((d + c) / 65536) ds).1, (cgo ((d + c) / 65536) ds).2)
def carryF (ds : List Int) : List Int := (cgo 0 ds).1.set 0 ((cgo 0 ds).1.getD 0 0 + 38 * (cgo 0 ds).2)
theorem cgo_len : ∀ (c : Int) (ds : List Int), (cgo c ds).1.length = ds.length
  | c, [] => rfl
  | c, d :: ds => by simp [cgo, cgo_len]
theorem cgo_val : ∀ (c : Int) (ds : List Int), valD (cgo c ds).1 + (cgo c ds).2 * 65536 ^ ds.length = c + valD ds
  | c, [] => by simp [cgo, valD]
  | c, d :: ds => by
    have ih := cgo_val ((d + c) / 65536) ds
    simp only [cgo, valD, List.length_cons, Int.pow_succ]
    rw [show (cgo ((d + c) / 65536) ds).2 * ((65536 : Int) ^ ds.length * 65536) = 65536 * ((cgo ((d + c) / 65536) ds).2 * 65536 ^ ds.length) by rw [← Int.mul_assoc, Int.mul_comm]]
    generalize (cgo ((d + c) / 65536) ds).2 * 65536 ^ ds.length = q at *
    generalize valD (cgo ((d + c) / 65536) ds).1 = v at *
    omega
theorem cgo_rng : ∀ (c : Int) (ds : List Int), ∀ x ∈ (cgo c ds).1, 0 ≤ x ∧ x < 65536
  | c, [], x, h => by simp [cgo] at h
  | c, d :: ds, x, h => by
    simp only [cgo, List.mem_cons] at h
    rcases h with rfl | h
    · omega
    · exact cgo_rng _ _ x h
/-- How great a carry can be. -/
theorem cgo_bnd (B C : Int) (hC : B + C ≤ 65536 * C - 65536) : ∀ (c : Int) (ds : List Int), -C ≤ c ∧ c ≤ C → (∀ x ∈ ds, -B ≤ x ∧ x ≤ B) → -C ≤ (cgo c ds).2 ∧ (cgo c ds).2 ≤ C
  | c, [], hc, _ => hc
  | c, d :: ds, hc, h => by
    simp only [cgo]
    have hd := h d (List.mem_cons_self ..)
    exact cgo_bnd B C hC _ ds ⟨by omega, by omega⟩ fun x hx => h x (List.mem_cons_of_mem _ hx)
theorem cgo_one : ∀ (c : Int) (ds : List Int), -1 ≤ c ∧ c ≤ 1 → (∀ x ∈ ds, 0 ≤ x ∧ x < 65536) → -1 ≤ (cgo c ds).2 ∧ (cgo c ds).2 ≤ 1
  | c, [], hc, _ => hc
  | c, d :: ds, hc, h => by
    simp only [cgo]
    have hd := h d (List.mem_cons_self ..)
    exact cgo_one _ ds ⟨by omega, by omega⟩ fun x hx => h x (List.mem_cons_of_mem _ hx)
theorem cgo_app : ∀ (c : Int) (xs ys : List Int), cgo c (xs ++ ys) = ((cgo c xs).1 ++ (cgo (cgo c xs).2 ys).1, (cgo (cgo c xs).2 ys).2)
  | c, [], ys => rfl
  | c, d :: xs, ys => by simp [cgo, cgo_app]
theorem valD_lt : ∀ ds : List Int, (∀ x ∈ ds, 0 ≤ x ∧ x < 65536) → 0 ≤ valD ds ∧ valD ds < 65536 ^ ds.length
  | [], _ => by simp [valD]
  | d :: ds, h => by
    have ih := valD_lt ds fun x hx => h x (List.mem_cons_of_mem _ hx)
    have hd := h d (List.mem_cons_self ..)
    simp only [valD, List.length_cons, Int.pow_succ]
    omega
theorem carryF_len (ds : List Int) : (carryF ds).length = ds.length := by simp [carryF, cgo_len]
theorem valD_set0 (e k : Int) (es : List Int) : valD ((e :: es).set 0 (e + k)) = valD (e :: es) + k := by simp [valD]; omega
def Q256 : Int := 115792089237316195423570985008687907853269984665640564039457584007913129639898
theorem Q256_eq : Q256 = 65536 ^ 16 - 38 := by decide +kernel
/-- Carrying doesn't change the rest by 2^256 - 38. -/
theorem carryF_val (ds : List Int) (h : ds.length = 16) : valD (carryF ds) + (cgo 0 ds).2 * Q256 = valD ds := by
  have hv := cgo_val 0 ds
  have hl := cgo_len 0 ds
  rw [h] at hv hl
  unfold carryF
  rw [Q256_eq]
  obtain ⟨e, es, he⟩ : ∃ e es, (cgo 0 ds).1 = e :: es := by
    cases hc : (cgo 0 ds).1 with
    | nil => rw [hc] at hl; simp at hl
    | cons e es => exact ⟨e, es, rfl⟩
  rw [he] at hv ⊢
  have := valD_set0 e (38 * (cgo 0 ds).2) es
  simp only [List.getD_cons_zero]
  rw [this, Int.mul_sub]
  omega
theorem carryF_cons (ds : List Int) (h : ds.length = 16) : ∃ e es, (cgo 0 ds).1 = e :: es ∧ carryF ds = (e + 38 * (cgo 0 ds).2) :: es ∧ (0 ≤ e ∧ e < 65536) ∧ (∀ x ∈ es, 0 ≤ x ∧ x < 65536) ∧ es.length = 15 := by
  have hl := cgo_len 0 ds
  rw [h] at hl
  cases hc : (cgo 0 ds).1 with
  | nil => rw [hc] at hl; simp at hl
  | cons e es =>
    have hr := cgo_rng 0 ds
    rw [hc] at hr hl
    refine ⟨e, es, rfl, ?_, hr e (List.mem_cons_self ..), fun x hx => hr x (List.mem_cons_of_mem _ hx), by simpa using hl⟩
    unfold carryF; rw [hc]; rfl
/-- Digits that can be reckoned with. -/
def NumOk (ds : List Int) : Prop := ds.length = 16 ∧ ∀ x ∈ ds, -262144 ≤ x ∧ x ≤ 262144
theorem carryF_ok (ds : List Int) (h : ds.length = 16) (hb : ∀ x ∈ ds, -2097152 ≤ x ∧ x ≤ 2097152) : NumOk (carryF ds) := by
  have hc := cgo_bnd 2097152 66 (by decide) 0 ds (by decide) hb
  obtain ⟨e, es, h1, h2, h3, h4, h5⟩ := carryF_cons ds h
  refine ⟨by rw [carryF_len, h], fun x hx => ?_⟩
  rw [h2] at hx
  rcases List.mem_cons.1 hx with rfl | hx
  · omega
  · have := h4 x hx; omega
/-- Once carried with great digits: all but the first are small. -/
theorem carryF_big (ds : List Int) (h : ds.length = 16) (hb : ∀ x ∈ ds, -140737488355328 ≤ x ∧ x ≤ 140737488355328) : ∃ e es, carryF ds = e :: es ∧ (-274877906944 ≤ e ∧ e ≤ 274877906944) ∧ (∀ x ∈ es, 0 ≤ x ∧ x < 65536) ∧ es.length = 15 := by
  have hc := cgo_bnd 140737488355328 2147549184 (by decide) 0 ds (by decide) hb
  obtain ⟨e, es, h1, h2, h3, h4, h5⟩ := carryF_cons ds h
  exact ⟨_, es, h2, by omega, h4, h5⟩
/-- .. and once more: all are small. -/
theorem carryF_small (e : Int) (es : List Int) (he : -274877906944 ≤ e ∧ e ≤ 274877906944) (h : ∀ x ∈ es, 0 ≤ x ∧ x < 65536) (hl : es.length = 15) : NumOk (carryF (e :: es)) := by
  obtain ⟨e2, es2, h1, h2, h3, h4, h5⟩ := carryF_cons (e :: es) (by simp [hl])
  have hc : -1 ≤ (cgo 0 (e :: es)).2 ∧ (cgo 0 (e :: es)).2 ≤ 1 := by
    match es, h, hl with
    | a :: b :: c :: es, h, hl =>
      have ha := h a (by simp)
      have hb := h b (by simp)
      have hcc := h c (by simp)
      simp only [cgo]
      refine cgo_one _ es ?_ fun x hx => h x (by simp [hx])
      omega
  refine ⟨by rw [carryF_len]; simp [hl], fun x hx => ?_⟩
  rw [h2] at hx
  rcases List.mem_cons.1 hx with rfl | hx
  · omega
  · have := h4 x hx; omega
/-- Three times carried: a number below 2^256, by its digits. -/
theorem carryF_two (ds : List Int) (h : NumOk ds) : ∀ x ∈ carryF (carryF ds), 0 ≤ x ∧ x < 65536 := by
  obtain ⟨hl, hb⟩ := h
  have hc := cgo_bnd 262144 6 (by decide) 0 ds (by decide) hb
  obtain ⟨e, es, h1, h2, h3, h4, h5⟩ := carryF_cons ds hl
  obtain ⟨e2, es2, g1, g2, g3, g4, g5⟩ := carryF_cons (carryF ds) (by rw [carryF_len, hl])
  have hv := cgo_val 0 (carryF ds)
  rw [carryF_len, hl, g1] at hv
  have hes := valD_lt es h4
  have hes2 := valD_lt es2 g4
  rw [h5] at hes
  rw [g5] at hes2
  have h15 : (65536 : Int) ^ 15 = 1766847064778384329583297500742918515827483896875618958121606201292619776 := by decide +kernel
  have h16 : (65536 : Int) ^ 16 = 65536 * 1766847064778384329583297500742918515827483896875618958121606201292619776 := by decide +kernel
  rw [h15] at hes hes2
  rw [h16, h2] at hv
  simp only [valD, Int.zero_add] at hv
  have key : 0 ≤ e2 + 38 * (cgo 0 (carryF ds)).2 ∧ e2 + 38 * (cgo 0 (carryF ds)).2 < 65536 := by
    rw [h2]
    generalize (cgo 0 ds).2 = c1 at *
    generalize (cgo 0 ((e + 38 * c1) :: es)).2 = c2 at *
    generalize valD es = v1 at *
    generalize valD es2 = v2 at *
    have hc2 : c2 = -1 ∨ c2 = 0 ∨ c2 = 1 := by omega
    rcases hc2 with rfl | rfl | rfl <;> omega
  rw [g2]
  intro x hx
  rcases List.mem_cons.1 hx with rfl | hx
  · exact key
  · exact g4 x hx
theorem cgo_id : ∀ ds : List Int, (∀ x ∈ ds, 0 ≤ x ∧ x < 65536) → cgo 0 ds = (ds, 0)
  | [], _ => rfl
  | d :: ds, h => by
    have hd := h d (List.mem_cons_self ..)
    have e1 : (d + 0) % 65536 = d := by omega
    have e2 : (d + 0) / 65536 = 0 := by omega
    simp only [cgo, e1, e2, cgo_id ds fun x hx => h x (List.mem_cons_of_mem _ hx)]
theorem carryF_id (ds : List Int) (h : ∀ x ∈ ds, 0 ≤ x ∧ x < 65536) : carryF ds = ds := by
  unfold carryF
  rw [cgo_id ds h]
  cases ds <;> simp
end Go.Proofs.YtkfdclnaaphdgaaDoor
namespace Go.Proofs.YtkfdclnaaphdgaaDoor
open Go.ChangeShapes Go.WideShapes Go.ChangeAt Go.RowKit Go.IntWalk
set_option linter.unusedVariables false

def Z16 : List Int := List.replicate 16 0
def NBlk (w : World) (g : Nat) (ds : List Int) : Prop := w.heap[g]? = some (.cells (i64s ds).toArray 50 (0, 0))
theorem NBlk.cell {w : World} {g : Nat} {ds : List Int} (h : NBlk w g ds) {k : Nat} {n : Int} (hk : ds[k]? = some n) : w.cell? ⟨g, k, none⟩ = some (.int .i64 n) := by
  rw [cell_of_row _ _ _ _ _ _ h]; simp [i64s, hk]
theorem NBlk.frozen {w : World} {g : Nat} {ds : List Int} (h : NBlk w g ds) (k : Nat) : w.frozen? ⟨g, k, none⟩ = false := by
  unfold NBlk at h; simp [World.frozen?, h]
theorem NBlk.set_ {w : World} {g : Nat} {ds : List Int} (h : NBlk w g ds) (k : Nat) (n : Int) : NBlk (w.setCell ⟨g, k, none⟩ (.int .i64 n)) g (ds.set k n) := by
  unfold NBlk at h ⊢
  simp [World.setCell, Array.getElem?_modify, h, i64s, List.map_set]
theorem NBlk.other {w : World} {g g2 k : Nat} {ds : List Int} {x : Value} (h : NBlk w g ds) (hne : g2 ≠ g) : NBlk (w.setCell ⟨g2, k, none⟩ x) g ds := by
  unfold NBlk at h ⊢
  simp [World.setCell, Array.getElem?_modify, h, hne]
theorem NBlk.rng {w : World} {g : Nat} {ds : List Int} (h : NBlk w g ds) : w.rangeAt g 0 (i64s ds) := by
  intro j v hv
  unfold NBlk at h
  rw [Nat.zero_add, cell_of_row _ _ _ _ _ _ h]; simpa using hv
theorem NBlk.there {w : World} {g n : Nat} {ds : List Int} (h : NBlk w g ds) (hn : n = ds.length) : w.there g 0 n := by
  intro j hj
  have hj2 : j < ds.length := by omega
  rw [Nat.zero_add]
  exact ⟨by rw [h.cell (List.getElem?_eq_getElem hj2)]; rfl, h.frozen j⟩
theorem NBlk.setAll {W : World} {g : Nat} {ls ms : List Int} (h : NBlk W g ls) (hl : ls.length = ms.length) : NBlk (W.setCells g 0 (i64s ms)) g ms := by
  have := setCells_blk (i64s ms) 0 W (i64s ls) h (by simp [i64s, hl])
  have hz : (i64s ls).length = 0 + (i64s ms).length := by simp [i64s, hl]
  rw [List.take_zero, List.nil_append, ← hz, List.drop_length, List.append_nil] at this
  exact this
theorem NBlk.setFar {W : World} {g g2 : Nat} {ls : List Int} (h : NBlk W g ls) (hne : g2 ≠ g) (vs : List Value) : NBlk (W.setCells g2 0 vs) g ls := (setCells_other hne vs 0 W).trans h
theorem NBlk.later {w w1 : World} {g : Nat} {ds : List Int} (h : NBlk w g ds) (b : Below w.heap.size w w1) : NBlk w1 g ds := (b.block g (Array.getElem?_eq_some_iff.1 h).1).trans h
theorem NBlk.alloc {w : World} {g : Nat} {ds : List Int} (h : NBlk w g ds) (o : Obj) : NBlk (w.alloc o) g ds := (heap_alloc_old w _ (Array.getElem?_eq_some_iff.1 h).1).trans h
theorem NBlk.new {w : World} (ds : List Int) : NBlk (w.alloc (.cells (i64s ds).toArray 50)) w.heap.size ds := heap_alloc_new w _
theorem NBlk.lt {w : World} {g : Nat} {ds : List Int} (h : NBlk w g ds) : g < w.heap.size := (Array.getElem?_eq_some_iff.1 h).1
theorem size16 : (Tryd.prog.info? 50).map (·.size) = some 16 := by kernel_rfl
theorem size16' (ds : List Int) (h : ds.length = 16) : (Tryd.prog.info? 50).map (·.size) = some (i64s ds).length := by rw [show (i64s ds).length = 16 by simp [i64s, h]]; exact size16
theorem size16a (ds : List Int) (h : ds.length = 16) : (Tryd.prog.info? 50).map (·.size) = some (i64s ds).toArray.size := by rw [show (i64s ds).toArray.size = 16 by simp [i64s, h]]; exact size16
theorem one16 (ds : List Int) : (i64s ds).toArray.all (·.oneCell') = true := by
  apply all_oneCell_toArray
  intro v hv
  obtain ⟨y, _, rfl⟩ := List.mem_map.1 hv
  rfl
theorem ld16 {W : World} {g : Nat} {ds : List Int} (h : NBlk W g ds) (hl : ds.length = 16) : (loadVar 50 ⟨g, 0, none⟩).run Tryd.prog W = .ok (.agg (i64s ds).toArray) W :=
  run_loadVar_mid _ _ _ _ (i64s ds) _ h.rng Tryd.underlying50 rfl (size16' ds hl)
theorem mid_get (xs : List Int) (x : Int) (ys : List Int) (k : Nat) (h : xs.length = k) : (xs ++ x :: ys)[k]? = some x := by subst h; simp
theorem mid_set (xs : List Int) (x y : Int) (ys : List Int) (k : Nat) (h : xs.length = k) : (xs ++ x :: ys).set k y = xs ++ y :: ys := by subst h; simp
/-- Behind k rounds of carrying. -/
def CarS (ds : List Int) (g k : Nat) (wr : World) : Prop :=
  (k ≤ 15 ∧ ∃ done c d rest, done.length = k ∧ rest.length = 15 - k ∧ (-2147549184 ≤ c ∧ c ≤ 2147549184) ∧ cgo 0 ds = (done ++ (cgo c (d :: rest)).1, (cgo c (d :: rest)).2) ∧
    (∀ x ∈ d :: rest, -140737488355328 ≤ x ∧ x ≤ 140737488355328) ∧ NBlk wr g (done ++ (d + c) :: rest)) ∨ (k = 16 ∧ NBlk wr g (carryF ds))
theorem sub_mod (x : Int) : x - x / 65536 * 65536 = x % 65536 := by omega
theorem CarS.step {ds done rest : List Int} {g k : Nat} {c d d2 x : Int} {wr : World} (hk2 : k < 15) (hd : done.length = k) (hr : (d2 :: rest).length = 15 - k) (hx : d + c = x) (hxb : -140741783322624 ≤ x ∧ x ≤ 140741783322624)
    (he : cgo 0 ds = (done ++ (cgo c (d :: d2 :: rest)).1, (cgo c (d :: d2 :: rest)).2)) (hbd : ∀ x ∈ d :: d2 :: rest, -140737488355328 ≤ x ∧ x ≤ 140737488355328) (hn : NBlk wr g (done ++ x :: d2 :: rest)) :
    CarS ds g (k + 1) ((wr.setCell ⟨g, k, none⟩ (.int .i64 (x - x / 65536 * 65536))).setCell ⟨g, k + 1, none⟩ (.int .i64 (d2 + x / 65536))) := by
  left
  have h1 := (hn.set_ k (x - x / 65536 * 65536)).set_ (k + 1) (d2 + x / 65536)
  rw [mid_set _ _ _ _ _ hd, show done ++ (x - x / 65536 * 65536) :: d2 :: rest = (done ++ [x - x / 65536 * 65536]) ++ d2 :: rest by simp, mid_set _ _ _ _ _ (by simp [hd])] at h1
  refine ⟨by omega, done ++ [x - x / 65536 * 65536], x / 65536, d2, rest, by simp [hd], by simp at hr; omega, by omega, ?_, fun y hy => hbd y (List.mem_cons_of_mem _ hy), h1⟩
  rw [he, sub_mod]
  conv => lhs; unfold cgo
  rw [hx]
  simp
theorem CarS.last {ds done : List Int} {g : Nat} {c d x e : Int} {es : List Int} {wr : World} (hd : done.length = 15) (hdn : done = e :: es) (hx : d + c = x)
    (he : cgo 0 ds = (done ++ (cgo c [d]).1, (cgo c [d]).2)) (hn : NBlk wr g (done ++ [x])) :
    CarS ds g 16 ((wr.setCell ⟨g, 15, none⟩ (.int .i64 (x - x / 65536 * 65536))).setCell ⟨g, 0, none⟩ (.int .i64 (e + 38 * (x / 65536)))) := by
  right
  refine ⟨rfl, ?_⟩
  have h1 := (hn.set_ 15 (x - x / 65536 * 65536)).set_ 0 (e + 38 * (x / 65536))
  rw [mid_set _ _ _ _ _ hd] at h1
  have h2 : carryF ds = (done ++ [x - x / 65536 * 65536]).set 0 (e + 38 * (x / 65536)) := by
    unfold carryF
    rw [he, sub_mod]
    simp only [cgo, hx, hdn]
    simp
  rw [h2]; exact h1
set_option maxRecDepth 100000 in
set_option maxHeartbeats 4000000 in
theorem carry_calls (ds : List Int) (hl : ds.length = 16) (hb : ∀ x ∈ ds, -140737488355328 ≤ x ∧ x ≤ 140737488355328) (w : World) :
    Calls Tryd.prog 88 #[A16 ds] w fun e w' => e = .returned (A16 (carryF ds)) ∧ Below w.heap.size w w' := by
  unfold A16
  go_enter Tryd.func88, Tryd.ntmps88
  have h0 : CarS ds w.heap.size 0 ((w.alloc (.cells (i64s ds).toArray 50)).alloc (.cells (i64s Z16).toArray 50)) := by
    left
    cases ds with
    | nil => simp at hl
    | cons d rest =>
      refine ⟨by omega, [], 0, d, rest, rfl, by simpa using hl, by decide, rfl, hb, ?_⟩
      rw [Int.add_zero]
      exact (NBlk.new _).alloc _
  have hz0 : NBlk ((w.alloc (.cells (i64s ds).toArray 50)).alloc (.cells (i64s Z16).toArray 50)) (w.heap.size + 1) Z16 := by
    have := NBlk.new (w := w.alloc (.cells (i64s ds).toArray 50)) Z16
    rw [show (w.alloc (.cells (i64s ds).toArray 50)).heap.size = w.heap.size + 1 by simp] at this
    exact this
  have H0 := Lib.hid (And.intro h0 hz0)
  have HL := Lib.hid hl
  obtain ⟨cs, hcs⟩ : ∃ cs, i64s ds = cs := ⟨_, rfl⟩
  rw [hcs] at H0
  rw [hcs]
  clear h0 hz0 hl hb hcs
  go_wp2_with fail
  go_loopw [3] (fun i wr => ∃ k : Nat, k ≤ 16 ∧ i = .int .i64 (k : Int) ∧ CarS ds w.heap.size k wr ∧ NBlk wr (w.heap.size + 1) Z16 ∧ Below w.heap.size w wr) (fun i _ => 16 - (intOf i).toNat)
  case atStart => exact ⟨0, by omega, rfl, H0.out.1, H0.out.2, ((Below.refl _ _).alloc (Nat.le_refl _) _).alloc (by simp) _⟩
  case round =>
    obtain ⟨k, hk, rfl, hs, hz, hbw⟩ := hrel
    by_cases hp : k < 16
    · have hs' := hs
      rcases hs' with ⟨hk15, done, c, d, rest, hd, hr, hc, he, hbd, hn⟩ | ⟨rfl, _⟩
      · have hbx := hbd d (List.mem_cons_self ..)
        obtain ⟨x, hx⟩ : ∃ x, d + c = x := ⟨_, rfl⟩
        rw [hx] at hn
        have hxb : -140741783322624 ≤ x ∧ x ≤ 140741783322624 := by omega
        have g1 := hn.cell (mid_get done x rest k hd)
        have g2 := hn.frozen k
        by_cases hk2 : k < 15
        · cases rest with
          | nil => simp at hr; omega
          | cons d2 rest =>
            have g3 : wr.cell? ⟨w.heap.size, k + 1, none⟩ = some (.int .i64 d2) := hn.cell (by
              have := mid_get (done ++ [x]) d2 rest (k + 1) (by simp [hd]); simpa using this)
            have g4 := hn.frozen (k + 1)
            have hd2 := hbd d2 (by simp)
            have hnx := CarS.step hk2 hd hr hx hxb he hbd hn
            have hzx := (hz.other (k := k) (x := .int .i64 (x - x / 65536 * 65536)) (show w.heap.size ≠ w.heap.size + 1 by omega)).other (k := k + 1) (x := .int .i64 (d2 + x / 65536)) (show w.heap.size ≠ w.heap.size + 1 by omega)
            have hbx2 : Below w.heap.size w ((wr.setCell ⟨w.heap.size, k, none⟩ (.int .i64 (x - x / 65536 * 65536))).setCell ⟨w.heap.size, k + 1, none⟩ (.int .i64 (d2 + x / 65536))) := (hbw.setCell (Nat.le_refl _) _).setCell (Nat.le_refl _) _
            have HN := Lib.hid (And.intro hnx (And.intro hzx hbx2))
            have e1 : IntKind.i64.wrap ((k : Int) + 1) = (k : Int) + 1 := IntWalk.i64_in _ (by omega)
            clear hs hn he hbd hx hd hr hz hbw hbx hnx hzx hbx2
            go_wp2_with fail
            exact ⟨⟨k + 1, by omega, by go_num, HN.out⟩, by simp [intOf]; omega⟩
        · obtain rfl : k = 15 := by omega
          obtain rfl : rest = [] := List.eq_nil_of_length_eq_zero (by omega)
          obtain ⟨e, es, hdn⟩ : ∃ e es, done = e :: es := by
            cases done with
            | nil => simp at hd
            | cons e es => exact ⟨e, es, rfl⟩
          have g3 : wr.cell? ⟨w.heap.size, 0, none⟩ = some (.int .i64 e) := hn.cell (by rw [hdn]; rfl)
          have g4 := hn.frozen 0
          have heb : 0 ≤ e ∧ e < 65536 := by
            refine cgo_rng 0 ds e ?_
            rw [he, hdn]; simp
          have hnx := CarS.last hd hdn hx he hn
          have hzx := (hz.other (k := 15) (x := .int .i64 (x - x / 65536 * 65536)) (show w.heap.size ≠ w.heap.size + 1 by omega)).other (k := 0) (x := .int .i64 (e + 38 * (x / 65536))) (show w.heap.size ≠ w.heap.size + 1 by omega)
          have hbx2 : Below w.heap.size w ((wr.setCell ⟨w.heap.size, 15, none⟩ (.int .i64 (x - x / 65536 * 65536))).setCell ⟨w.heap.size, 0, none⟩ (.int .i64 (e + 38 * (x / 65536)))) := (hbw.setCell (Nat.le_refl _) _).setCell (Nat.le_refl _) _
          have HN := Lib.hid (And.intro hnx (And.intro hzx hbx2))
          clear hs hn he hbd hx hd hdn hz hbw hbx hnx hzx hbx2 hr
          go_wp2_with fail
          exact ⟨⟨16, by omega, by go_num, HN.out⟩, by simp [intOf]⟩
      · omega
    · obtain rfl : k = 16 := by omega
      rcases hs with ⟨hk15, _⟩ | ⟨_, hn⟩
      · omega
      · have hcl : (carryF ds).length = 16 := by rw [carryF_len]; exact HL.out
        obtain ⟨fs, hfs⟩ : ∃ fs, i64s (carryF ds) = fs := ⟨_, rfl⟩
        have hr := hn.rng
        have ht : wr.there (w.heap.size + 1) 0 fs.toArray.size := hz.there (by rw [← hfs]; simp [i64s, hcl, Z16])
        have hs1 := size16' _ hcl
        have hs2 := size16a _ hcl
        have ho := one16 (carryF ds)
        have hf := hz.setAll (ms := carryF ds) (by rw [hcl]; rfl)
        have hld := ld16 hf hcl
        have hbf : Below w.heap.size w (wr.setCells (w.heap.size + 1) 0 (i64s (carryF ds))) := below_cells (by omega) _ _ _ hbw
        rw [hfs] at hr hs1 hs2 ho hld hbf
        have HF := Lib.hid (And.intro hr (And.intro ht (And.intro hs1 (And.intro hs2 (And.intro ho (And.intro hld (And.intro hbf hfs)))))))
        clear hn hz hbw hr ht hs1 hs2 ho hf hld hbf hfs hcl
        go_wp2_with (first
          | (refine wpList_load_mid rfl 50 _ rfl w.heap.size 0 rfl fs _ HF.out.1 Tryd.underlying50 rfl HF.out.2.2.1 ?_)
          | (refine wpList_store_mid rfl 50 _ _ rfl (w.heap.size + 1) 0 fs.toArray rfl rfl HF.out.2.1 HF.out.2.2.2.1 HF.out.2.2.2.2.1 ?_))
        refine bodyPost_ret (v := .agg fs.toArray) (results_cell rfl _ _ _ _ rfl HF.out.2.2.2.2.2.1) rfl ⟨?_, HF.out.2.2.2.2.2.2.1⟩
        rw [← HF.out.2.2.2.2.2.2.2]
end Go.Proofs.YtkfdclnaaphdgaaDoor
namespace Go.Proofs.YtkfdclnaaphdgaaDoor
open Go.ChangeShapes Go.WideShapes Go.ChangeAt Go.RowKit Go.IntWalk
set_option linter.unusedVariables false

def digAt (l : List UInt8) (i : Nat) : Int := ((l.getD (2 * i) 0).toNat : Int) + 256 * ((l.getD (2 * i + 1) 0).toNat : Int)
def digD (l : List UInt8) (k : Nat) : List Int := (List.range 16).map fun i => if i < k then digAt l i else 0
theorem digD_set (l : List UInt8) (k : Nat) (h : k < 16) : (digD l k).set k (digAt l k) = digD l (k + 1) := by
  unfold digD
  apply List.ext_getElem?
  intro i
  rw [List.getElem?_set]
  by_cases e : k = i
  · subst e; simp [h]
  · rw [if_neg e]
    simp only [List.getElem?_map]
    cases hr : (List.range 16)[i]? with
    | none => rfl
    | some j =>
      have hj : j = i := by rw [List.getElem?_range (by have := (List.getElem?_eq_some_iff.1 hr).1; simpa using this)] at hr; exact (Option.some.inj hr).symm
      subst hj
      simp only [Option.map_some]
      by_cases h1 : j < k
      · rw [if_pos h1, if_pos (by omega)]
      · rw [if_neg h1, if_neg (by omega)]
theorem digD_len (l : List UInt8) (k : Nat) : (digD l k).length = 16 := by simp [digD]
theorem digD_rng (l : List UInt8) (k : Nat) : ∀ x ∈ digD l k, 0 ≤ x ∧ x < 65536 := by
  intro x hx
  simp only [digD, List.mem_map] at hx
  obtain ⟨i, _, rfl⟩ := hx
  have h1 := (l.getD (2 * i) 0).toNat_lt
  have h2 := (l.getD (2 * i + 1) 0).toNat_lt
  unfold digAt
  split <;> omega
theorem dig_val : ∀ (n : Nat) (l : List UInt8), l.length = 2 * n → valD ((List.range n).map (digAt l)) = leN l
  | 0, l, h => by
    have : l = [] := List.eq_nil_of_length_eq_zero (by omega)
    subst this; rfl
  | n + 1, a :: b :: t, h => by
    have ih := dig_val n t (by simp at h; omega)
    rw [List.range_succ_eq_map, List.map_cons, List.map_map]
    have e : (digAt (a :: b :: t) ∘ Nat.succ) = digAt t := by
      funext i
      simp only [Function.comp, digAt]
      rw [show 2 * i.succ = 2 * i + 1 + 1 by omega, show 2 * i + 1 + 1 + 1 = (2 * i + 1) + 1 + 1 by omega]
      simp only [List.getD_cons_succ]
    rw [e]
    have e0 : digAt (a :: b :: t) 0 = (a.toNat : Int) + 256 * (b.toNat : Int) := rfl
    simp only [valD, leN, e0, ih]
    omega
  | n + 1, [], h => by simp at h
  | n + 1, [a], h => by simp at h; omega
theorem digD_val (l : List UInt8) (h : l.length = 32) : valD (digD l 16) = leN l := by
  rw [← dig_val 16 l h]
  unfold digD
  congr 1
set_option maxRecDepth 100000 in
set_option maxHeartbeats 4000000 in
theorem refOf_calls (l : List UInt8) (hl : l.length = 32) (w : World) :
    Calls Tryd.prog 64 #[.string ⟨l.toArray⟩] w fun e w' => e = .returned (A16 (digD l 16)) ∧ Below w.heap.size w w' := by
  go_enter Tryd.func64, Tryd.ntmps64
  have hz0 : NBlk ((w.alloc (.cells (i64s Z16).toArray 50)).alloc (.cells (i64s Z16).toArray 50)) w.heap.size Z16 := (NBlk.new _).alloc _
  have hn0 : NBlk ((w.alloc (.cells (i64s Z16).toArray 50)).alloc (.cells (i64s Z16).toArray 50)) (w.heap.size + 1) (digD l 0) := by
    have := NBlk.new (w := w.alloc (.cells (i64s Z16).toArray 50)) Z16
    rw [show (w.alloc (.cells (i64s Z16).toArray 50)).heap.size = w.heap.size + 1 by simp] at this
    exact this
  have H0 := Lib.hid (And.intro hz0 hn0)
  have HL := Lib.hid hl
  have hbs : (⟨l.toArray⟩ : ByteArray).size = l.length := rfl
  clear hz0 hn0
  go_wp2_with fail
  go_loopw [4] (fun i wr => ∃ k : Nat, k ≤ 16 ∧ i = .int .i64 (k : Int) ∧ NBlk wr w.heap.size Z16 ∧ NBlk wr (w.heap.size + 1) (digD l k) ∧ Below w.heap.size w wr) (fun i _ => 16 - (intOf i).toNat)
  case atStart => exact ⟨0, by omega, rfl, H0.out.1, H0.out.2, ((Below.refl _ _).alloc (Nat.le_refl _) _).alloc (by simp) _⟩
  case round =>
    obtain ⟨k, hk, rfl, hz, hn, hbw⟩ := hrel
    by_cases hp : k < 16
    · have hlt : k < (digD l k).length := by rw [digD_len]; exact hp
      have g1 := hn.cell (List.getElem?_eq_getElem hlt)
      have g2 := hn.frozen k
      have i1 : 2 * k < l.length := by omega
      have i2 : 2 * k + 1 < l.length := by omega
      have n1 : digAt l k = (l[2 * k].toNat : Int) + 256 * (l[2 * k + 1].toNat : Int) := by simp [digAt, List.getD_eq_getElem?_getD, i1, i2]
      have hn2 := hn.set_ k (digAt l k)
      rw [digD_set l k hp, n1] at hn2
      have HN := Lib.hid (And.intro (hz.other (k := k) (x := .int .i64 ((l[2 * k].toNat : Int) + 256 * (l[2 * k + 1].toNat : Int))) (show w.heap.size + 1 ≠ w.heap.size by omega)) (And.intro hn2 (hbw.setCell (show w.heap.size ≤ w.heap.size + 1 by omega) (p := ⟨w.heap.size + 1, k, none⟩) (.int .i64 ((l[2 * k].toNat : Int) + 256 * (l[2 * k + 1].toNat : Int))))))
      have b1 := l[2 * k].toNat_lt
      have b2 := l[2 * k + 1].toNat_lt
      have e1 : IntKind.i64.wrap ((k : Int) + 1) = (k : Int) + 1 := IntWalk.i64_in _ (by omega)
      have e2 : IntKind.i64.wrap (2 * (k : Int)) = 2 * (k : Int) := IntWalk.i64_in _ (by omega)
      have e3 : IntKind.i64.wrap (2 * (k : Int) + 1) = 2 * (k : Int) + 1 := IntWalk.i64_in _ (by omega)
      have e4 : (2 * (k : Int)).toNat = 2 * k := by omega
      have e5 : (2 * (k : Int) + 1).toNat = 2 * k + 1 := by omega
      have e6 : (0 : Int) ≤ 2 * (k : Int) ∧ 2 * (k : Int) < (l.length : Int) := by omega
      have e7 : (0 : Int) ≤ 2 * (k : Int) + 1 ∧ 2 * (k : Int) + 1 < (l.length : Int) := by omega
      have e8 : IntKind.i64.wrap (256 * (l[2 * k + 1].toNat : Int)) = 256 * (l[2 * k + 1].toNat : Int) := IntWalk.i64_in _ (by omega)
      have e9 : IntKind.i64.wrap ((l[2 * k].toNat : Int) + 256 * (l[2 * k + 1].toNat : Int)) = (l[2 * k].toNat : Int) + 256 * (l[2 * k + 1].toNat : Int) := IntWalk.i64_in _ (by omega)
      clear hz hn hbw hn2 n1 hl
      have hbk : decide ((k : Int) < 16) = true := by simp; omega
      go_wp2_with fail
      try rw [hbk]
      go_region
      all_goals go_wp2_with fail
      all_goals exact ⟨⟨k + 1, by omega, by go_num, HN.out.1, HN.out.2.1, HN.out.2.2.drew⟩, by simp [intOf]; omega⟩
    · skip
      obtain rfl : k = 16 := by omega
      have hcl : (digD l 16).length = 16 := digD_len _ _
      obtain ⟨fs, hfs⟩ : ∃ fs, i64s (digD l 16) = fs := ⟨_, rfl⟩
      have hr := hn.rng
      have ht : wr.there w.heap.size 0 fs.toArray.size := hz.there (by rw [← hfs]; simp [i64s, hcl, Z16])
      have hs1 := size16' _ hcl
      have hs2 := size16a _ hcl
      have ho := one16 (digD l 16)
      have hf := hz.setAll (ms := digD l 16) (by rw [hcl]; rfl)
      have hld := ld16 hf hcl
      have hbf : Below w.heap.size w (wr.setCells w.heap.size 0 (i64s (digD l 16))) := below_cells (by omega) _ _ _ hbw
      rw [hfs] at hr hs1 hs2 ho hld hbf
      have HF := Lib.hid (And.intro hr (And.intro ht (And.intro hs1 (And.intro hs2 (And.intro ho (And.intro hld (And.intro hbf hfs)))))))
      clear hn hz hbw hr ht hs1 hs2 ho hf hld hbf hfs hcl
      go_wp2_with (first
        | (refine wpList_load_mid rfl 50 _ rfl (w.heap.size + 1) 0 rfl fs _ HF.out.1 Tryd.underlying50 rfl HF.out.2.2.1 ?_)
        | (refine wpList_store_mid rfl 50 _ _ rfl w.heap.size 0 fs.toArray rfl rfl HF.out.2.1 HF.out.2.2.2.1 HF.out.2.2.2.2.1 ?_))
      refine bodyPost_ret (v := .agg fs.toArray) (results_cell rfl _ _ _ _ rfl HF.out.2.2.2.2.2.1) rfl ⟨?_, HF.out.2.2.2.2.2.2.1⟩
      rw [← HF.out.2.2.2.2.2.2.2]; rfl
end Go.Proofs.YtkfdclnaaphdgaaDoor
namespace Go.Proofs.YtkfdclnaaphdgaaDoor
open Go.ChangeShapes Go.WideShapes Go.ChangeAt Go.RowKit Go.IntWalk
set_option linter.unusedVariables false

theorem blk3 (xs ys : List Int) (w : World) : NBlk (((w.alloc (.cells (i64s xs).toArray 50)).alloc (.cells (i64s ys).toArray 50)).alloc (.cells (i64s Z16).toArray 50)) w.heap.size xs ∧
    NBlk (((w.alloc (.cells (i64s xs).toArray 50)).alloc (.cells (i64s ys).toArray 50)).alloc (.cells (i64s Z16).toArray 50)) (w.heap.size + 1) ys ∧
    NBlk (((w.alloc (.cells (i64s xs).toArray 50)).alloc (.cells (i64s ys).toArray 50)).alloc (.cells (i64s Z16).toArray 50)) (w.heap.size + 1 + 1) Z16 ∧
    Below w.heap.size w (((w.alloc (.cells (i64s xs).toArray 50)).alloc (.cells (i64s ys).toArray 50)).alloc (.cells (i64s Z16).toArray 50)) := by
  have e1 : (w.alloc (.cells (i64s xs).toArray 50)).heap.size = w.heap.size + 1 := by simp
  have e2 : ((w.alloc (.cells (i64s xs).toArray 50)).alloc (.cells (i64s ys).toArray 50)).heap.size = w.heap.size + 1 + 1 := by simp
  have h1 := NBlk.new (w := w.alloc (.cells (i64s xs).toArray 50)) ys
  have h2 := NBlk.new (w := (w.alloc (.cells (i64s xs).toArray 50)).alloc (.cells (i64s ys).toArray 50)) Z16
  rw [e1] at h1
  rw [e2] at h2
  exact ⟨((NBlk.new _).alloc _).alloc _, h1.alloc _, h2, (((Below.refl _ _).alloc (Nat.le_refl _) _).alloc (by rw [e1]; omega) _).alloc (by rw [e2]; omega) _⟩
def zipAdd (xs ys : List Int) (k : Nat) : List Int := (List.range 16).map fun i => if i < k then xs.getD i 0 + ys.getD i 0 else xs.getD i 0
theorem zipAdd_len (xs ys : List Int) (k : Nat) : (zipAdd xs ys k).length = 16 := by simp [zipAdd]
theorem zipAdd_zero (xs ys : List Int) (h : xs.length = 16) : zipAdd xs ys 0 = xs := by
  apply List.ext_getElem?
  intro i
  by_cases hi : i < 16
  · simp [zipAdd, hi, List.getD_eq_getElem?_getD, h]
  · simp [zipAdd, hi, h]
theorem zipAdd_get (xs ys : List Int) (k : Nat) (h : k < xs.length) (hl : k < 16) : (zipAdd xs ys k)[k]? = some xs[k] := by
  simp [zipAdd, hl, List.getD_eq_getElem?_getD, h]
theorem zipAdd_set (xs ys : List Int) (k : Nat) (h : k < xs.length) (h2 : k < ys.length) (hl : xs.length = 16) : (zipAdd xs ys k).set k (xs[k] + ys[k]) = zipAdd xs ys (k + 1) := by
  apply List.ext_getElem?
  intro i
  rw [List.getElem?_set]
  by_cases e : k = i
  · subst e
    have hk : k < 16 := by omega
    simp [zipAdd, hk, List.getD_eq_getElem?_getD, h, h2]
  · rw [if_neg e]
    by_cases hi : i < 16
    · by_cases h1 : i < k
      · simp [zipAdd, hi, h1, Nat.lt_succ_of_lt h1]
      · simp [zipAdd, hi, h1, show ¬ i < k + 1 by omega]
    · simp [zipAdd, hi]
theorem zipAdd_bnd (xs ys : List Int) (hx : NumOk xs) (hy : NumOk ys) : ∀ x ∈ zipAdd xs ys 16, -2097152 ≤ x ∧ x ≤ 2097152 := by
  intro x h
  simp only [zipAdd, List.mem_map] at h
  obtain ⟨i, hi, rfl⟩ := h
  have hi := List.mem_range.1 hi
  rw [if_pos hi]
  have h1 := hx.2 (xs.getD i 0) (by rw [List.getD_eq_getElem?_getD, List.getElem?_eq_getElem (by rw [hx.1]; exact hi)]; exact List.getElem_mem _)
  have h2 := hy.2 (ys.getD i 0) (by rw [List.getD_eq_getElem?_getD, List.getElem?_eq_getElem (by rw [hy.1]; exact hi)]; exact List.getElem_mem _)
  omega
theorem zipAdd_val (xs ys : List Int) (hx : xs.length = 16) (hy : ys.length = 16) : valD (zipAdd xs ys 16) = valD xs + valD ys := by
  match xs, ys, hx, hy with
  | [a0, a1, a2, a3, a4, a5, a6, a7, a8, a9, a10, a11, a12, a13, a14, a15], [b0, b1, b2, b3, b4, b5, b6, b7, b8, b9, b10, b11, b12, b13, b14, b15], _, _ =>
    show valD [a0 + b0, a1 + b1, a2 + b2, a3 + b3, a4 + b4, a5 + b5, a6 + b6, a7 + b7, a8 + b8, a9 + b9, a10 + b10, a11 + b11, a12 + b12, a13 + b13, a14 + b14, a15 + b15] = _
    simp only [valD]
    omega
set_option maxRecDepth 100000 in
set_option maxHeartbeats 4000000 in
theorem refAdd_calls (xs ys : List Int) (hx : NumOk xs) (hy : NumOk ys) (w : World) :
    Calls Tryd.prog 67 #[A16 xs, A16 ys] w fun e w' => e = .returned (A16 (carryF (zipAdd xs ys 16))) ∧ Below w.heap.size w w' := by
  unfold A16
  go_enter Tryd.func67, Tryd.ntmps67
  have H0 := Lib.hid (blk3 xs ys w)
  have HX := Lib.hid hx
  have HY := Lib.hid hy
  obtain ⟨cx, hcx⟩ : ∃ cs, i64s xs = cs := ⟨_, rfl⟩
  obtain ⟨cy, hcy⟩ : ∃ cs, i64s ys = cs := ⟨_, rfl⟩
  rw [hcx, hcy] at H0
  rw [hcx, hcy]
  clear hx hy hcx hcy
  go_wp2_with fail
  go_loopw [5] (fun i wr => ∃ k : Nat, k ≤ 16 ∧ i = .int .i64 (k : Int) ∧ NBlk wr w.heap.size (zipAdd xs ys k) ∧ NBlk wr (w.heap.size + 1) ys ∧ NBlk wr (w.heap.size + 1 + 1) Z16 ∧ Below w.heap.size w wr) (fun i _ => 16 - (intOf i).toNat)
  case atStart => exact ⟨0, by omega, rfl, by rw [zipAdd_zero xs ys HX.out.1]; exact H0.out.1, H0.out.2.1, H0.out.2.2.1, H0.out.2.2.2⟩
  case round =>
    obtain ⟨k, hk, rfl, hn, hy, hz, hbw⟩ := hrel
    by_cases hp : k < 16
    · have hkx : k < xs.length := by rw [HX.out.1]; exact hp
      have hky : k < ys.length := by rw [HY.out.1]; exact hp
      have bx := HX.out.2 _ (List.getElem_mem hkx)
      have by' := HY.out.2 _ (List.getElem_mem hky)
      have g1 := hn.cell (zipAdd_get xs ys k hkx hp)
      have g2 := hn.frozen k
      have g3 := hy.cell (List.getElem?_eq_getElem hky)
      have hn2 := hn.set_ k (xs[k] + ys[k])
      rw [zipAdd_set xs ys k hkx hky HX.out.1] at hn2
      generalize xs[k] = x at *
      generalize ys[k] = y at *
      have hn3 := hy.other (k := k) (x := .int .i64 (x + y)) (show w.heap.size ≠ w.heap.size + 1 by omega)
      have hn4 := hz.other (k := k) (x := .int .i64 (x + y)) (show w.heap.size ≠ w.heap.size + 1 + 1 by omega)
      have hb2 := hbw.setCell (p := ⟨w.heap.size, k, none⟩) (Nat.le_refl _) (.int .i64 (x + y))
      have HN := Lib.hid (And.intro hn2 (And.intro hn3 (And.intro hn4 hb2)))
      have e1 : IntKind.i64.wrap ((k : Int) + 1) = (k : Int) + 1 := IntWalk.i64_in _ (by omega)
      have e2 : IntKind.i64.wrap (x + y) = x + y := IntWalk.i64_in _ (by omega)
      have hbk : decide ((k : Int) < 16) = true := by simp; omega
      clear hn hy hz hbw hn2 hn3 hn4 hb2 hkx hky
      go_wp2_with fail
      try rw [hbk]
      go_region
      all_goals go_wp2_with fail
      all_goals exact ⟨⟨k + 1, by omega, by go_num, HN.out.1, HN.out.2.1, HN.out.2.2.1, HN.out.2.2.2.drew⟩, by simp [intOf]; omega⟩
    · obtain rfl : k = 16 := by omega
      have hcl : (zipAdd xs ys 16).length = 16 := zipAdd_len _ _ _
      obtain ⟨fs, hfs⟩ : ∃ fs, i64s (zipAdd xs ys 16) = fs := ⟨_, rfl⟩
      have hcar : ∀ W, Calls Tryd.prog 88 #[.agg fs.toArray] W fun e w' => e = .returned (A16 (carryF (zipAdd xs ys 16))) ∧ Below W.heap.size W w' := by
        rw [← hfs]
        exact fun W => carry_calls _ hcl (fun x hx => by have := zipAdd_bnd xs ys HX.out HY.out x hx; omega) W
      have hr := hn.rng
      have hs1 := size16' _ hcl
      rw [hfs] at hr hs1
      have HF := Lib.hid (And.intro hr (And.intro hs1 (And.intro hz hbw)))
      have HC := Lib.hid hcar
      clear hn hy hz hbw hr hs1 hcar
      go_wp2_with (refine wpList_load_mid rfl 50 _ rfl w.heap.size 0 rfl fs _ HF.out.1 Tryd.underlying50 rfl HF.out.2.1 ?_)
      refine (HC.out _).mono ?_
      rintro e w1 ⟨rfl, b1⟩
      have hz1 := HF.out.2.2.1.later b1
      have hcl2 : (carryF (zipAdd xs ys 16)).length = 16 := by rw [carryF_len]; exact hcl
      have hbf := below_cells (show w.heap.size ≤ w.heap.size + 1 + 1 by omega) (i64s (carryF (zipAdd xs ys 16))) 0 _ (HF.out.2.2.2.then_ b1)
      have HT := Lib.hid (hz1.there (n := (i64s (carryF (zipAdd xs ys 16))).toArray.size) (by simp [i64s, hcl2, Z16]))
      have HS := Lib.hid (size16a _ hcl2)
      have HO := Lib.hid (one16 (carryF (zipAdd xs ys 16)))
      have HLD := Lib.hid (ld16 (hz1.setAll (ms := carryF (zipAdd xs ys 16)) (by rw [hcl2]; rfl)) hcl2)
      have HBF := Lib.hid hbf
      clear hz1 hbf b1 hcl hcl2 hfs
      go_wp2_with (refine wpList_store_mid rfl 50 _ _ rfl (w.heap.size + 1 + 1) 0 (i64s (carryF (zipAdd xs ys 16))).toArray rfl rfl HT.out HS.out HO.out ?_)
      exact bodyPost_ret (v := .agg (i64s (carryF (zipAdd xs ys 16))).toArray) (results_cell rfl _ _ _ _ rfl HLD.out) rfl ⟨rfl, HBF.out⟩
def zipSub (xs ys : List Int) (k : Nat) : List Int := (List.range 16).map fun i => if i < k then xs.getD i 0 - ys.getD i 0 else xs.getD i 0
theorem zipSub_len (xs ys : List Int) (k : Nat) : (zipSub xs ys k).length = 16 := by simp [zipSub]
theorem zipSub_zero (xs ys : List Int) (h : xs.length = 16) : zipSub xs ys 0 = xs := by
  apply List.ext_getElem?
  intro i
  by_cases hi : i < 16
  · simp [zipSub, hi, List.getD_eq_getElem?_getD, h]
  · simp [zipSub, hi, h]
theorem zipSub_get (xs ys : List Int) (k : Nat) (h : k < xs.length) (hl : k < 16) : (zipSub xs ys k)[k]? = some xs[k] := by
  simp [zipSub, hl, List.getD_eq_getElem?_getD, h]
theorem zipSub_set (xs ys : List Int) (k : Nat) (h : k < xs.length) (h2 : k < ys.length) (hl : xs.length = 16) : (zipSub xs ys k).set k (xs[k] - ys[k]) = zipSub xs ys (k + 1) := by
  apply List.ext_getElem?
  intro i
  rw [List.getElem?_set]
  by_cases e : k = i
  · subst e
    have hk : k < 16 := by omega
    simp [zipSub, hk, List.getD_eq_getElem?_getD, h, h2]
  · rw [if_neg e]
    by_cases hi : i < 16
    · by_cases h1 : i < k
      · simp [zipSub, hi, h1, Nat.lt_succ_of_lt h1]
      · simp [zipSub, hi, h1, show ¬ i < k + 1 by omega]
    · simp [zipSub, hi]
theorem zipSub_bnd (xs ys : List Int) (hx : NumOk xs) (hy : NumOk ys) : ∀ x ∈ zipSub xs ys 16, -2097152 ≤ x ∧ x ≤ 2097152 := by
  intro x h
  simp only [zipSub, List.mem_map] at h
  obtain ⟨i, hi, rfl⟩ := h
  have hi := List.mem_range.1 hi
  rw [if_pos hi]
  have h1 := hx.2 (xs.getD i 0) (by rw [List.getD_eq_getElem?_getD, List.getElem?_eq_getElem (by rw [hx.1]; exact hi)]; exact List.getElem_mem _)
  have h2 := hy.2 (ys.getD i 0) (by rw [List.getD_eq_getElem?_getD, List.getElem?_eq_getElem (by rw [hy.1]; exact hi)]; exact List.getElem_mem _)
  omega
theorem zipSub_val (xs ys : List Int) (hx : xs.length = 16) (hy : ys.length = 16) : valD (zipSub xs ys 16) = valD xs - valD ys := by
  match xs, ys, hx, hy with
  | [a0, a1, a2, a3, a4, a5, a6, a7, a8, a9, a10, a11, a12, a13, a14, a15], [b0, b1, b2, b3, b4, b5, b6, b7, b8, b9, b10, b11, b12, b13, b14, b15], _, _ =>
    show valD [a0 - b0, a1 - b1, a2 - b2, a3 - b3, a4 - b4, a5 - b5, a6 - b6, a7 - b7, a8 - b8, a9 - b9, a10 - b10, a11 - b11, a12 - b12, a13 - b13, a14 - b14, a15 - b15] = _
    simp only [valD]
    omega
set_option maxRecDepth 100000 in
set_option maxHeartbeats 4000000 in
theorem refSub_calls (xs ys : List Int) (hx : NumOk xs) (hy : NumOk ys) (w : World) :
    Calls Tryd.prog 66 #[A16 xs, A16 ys] w fun e w' => e = .returned (A16 (carryF (zipSub xs ys 16))) ∧ Below w.heap.size w w' := by
  unfold A16
  go_enter Tryd.func66, Tryd.ntmps66
  have H0 := Lib.hid (blk3 xs ys w)
  have HX := Lib.hid hx
  have HY := Lib.hid hy
  obtain ⟨cx, hcx⟩ : ∃ cs, i64s xs = cs := ⟨_, rfl⟩
  obtain ⟨cy, hcy⟩ : ∃ cs, i64s ys = cs := ⟨_, rfl⟩
  rw [hcx, hcy] at H0
  rw [hcx, hcy]
  clear hx hy hcx hcy
  go_wp2_with fail
  go_loopw [5] (fun i wr => ∃ k : Nat, k ≤ 16 ∧ i = .int .i64 (k : Int) ∧ NBlk wr w.heap.size (zipSub xs ys k) ∧ NBlk wr (w.heap.size + 1) ys ∧ NBlk wr (w.heap.size + 1 + 1) Z16 ∧ Below w.heap.size w wr) (fun i _ => 16 - (intOf i).toNat)
  case atStart => exact ⟨0, by omega, rfl, by rw [zipSub_zero xs ys HX.out.1]; exact H0.out.1, H0.out.2.1, H0.out.2.2.1, H0.out.2.2.2⟩
  case round =>
    obtain ⟨k, hk, rfl, hn, hy, hz, hbw⟩ := hrel
    by_cases hp : k < 16
    · have hkx : k < xs.length := by rw [HX.out.1]; exact hp
      have hky : k < ys.length := by rw [HY.out.1]; exact hp
      have bx := HX.out.2 _ (List.getElem_mem hkx)
      have by' := HY.out.2 _ (List.getElem_mem hky)
      have g1 := hn.cell (zipSub_get xs ys k hkx hp)
      have g2 := hn.frozen k
      have g3 := hy.cell (List.getElem?_eq_getElem hky)
      have hn2 := hn.set_ k (xs[k] - ys[k])
      rw [zipSub_set xs ys k hkx hky HX.out.1] at hn2
      generalize xs[k] = x at *
      generalize ys[k] = y at *
      have hn3 := hy.other (k := k) (x := .int .i64 (x - y)) (show w.heap.size ≠ w.heap.size + 1 by omega)
      have hn4 := hz.other (k := k) (x := .int .i64 (x - y)) (show w.heap.size ≠ w.heap.size + 1 + 1 by omega)
      have hb2 := hbw.setCell (p := ⟨w.heap.size, k, none⟩) (Nat.le_refl _) (.int .i64 (x - y))
      have HN := Lib.hid (And.intro hn2 (And.intro hn3 (And.intro hn4 hb2)))
      have e1 : IntKind.i64.wrap ((k : Int) + 1) = (k : Int) + 1 := IntWalk.i64_in _ (by omega)
      have e2 : IntKind.i64.wrap (x - y) = x - y := IntWalk.i64_in _ (by omega)
      have hbk : decide ((k : Int) < 16) = true := by simp; omega
      clear hn hy hz hbw hn2 hn3 hn4 hb2 hkx hky
      go_wp2_with fail
      try rw [hbk]
      go_region
      all_goals go_wp2_with fail
      all_goals exact ⟨⟨k + 1, by omega, by go_num, HN.out.1, HN.out.2.1, HN.out.2.2.1, HN.out.2.2.2.drew⟩, by simp [intOf]; omega⟩
    · obtain rfl : k = 16 := by omega
      have hcl : (zipSub xs ys 16).length = 16 := zipSub_len _ _ _
      obtain ⟨fs, hfs⟩ : ∃ fs, i64s (zipSub xs ys 16) = fs := ⟨_, rfl⟩
      have hcar : ∀ W, Calls Tryd.prog 88 #[.agg fs.toArray] W fun e w' => e = .returned (A16 (carryF (zipSub xs ys 16))) ∧ Below W.heap.size W w' := by
        rw [← hfs]
        exact fun W => carry_calls _ hcl (fun x hx => by have := zipSub_bnd xs ys HX.out HY.out x hx; omega) W
      have hr := hn.rng
      have hs1 := size16' _ hcl
      rw [hfs] at hr hs1
      have HF := Lib.hid (And.intro hr (And.intro hs1 (And.intro hz hbw)))
      have HC := Lib.hid hcar
      clear hn hy hz hbw hr hs1 hcar
      go_wp2_with (refine wpList_load_mid rfl 50 _ rfl w.heap.size 0 rfl fs _ HF.out.1 Tryd.underlying50 rfl HF.out.2.1 ?_)
      refine (HC.out _).mono ?_
      rintro e w1 ⟨rfl, b1⟩
      have hz1 := HF.out.2.2.1.later b1
      have hcl2 : (carryF (zipSub xs ys 16)).length = 16 := by rw [carryF_len]; exact hcl
      have hbf := below_cells (show w.heap.size ≤ w.heap.size + 1 + 1 by omega) (i64s (carryF (zipSub xs ys 16))) 0 _ (HF.out.2.2.2.then_ b1)
      have HT := Lib.hid (hz1.there (n := (i64s (carryF (zipSub xs ys 16))).toArray.size) (by simp [i64s, hcl2, Z16]))
      have HS := Lib.hid (size16a _ hcl2)
      have HO := Lib.hid (one16 (carryF (zipSub xs ys 16)))
      have HLD := Lib.hid (ld16 (hz1.setAll (ms := carryF (zipSub xs ys 16)) (by rw [hcl2]; rfl)) hcl2)
      have HBF := Lib.hid hbf
      clear hz1 hbf b1 hcl hcl2 hfs
      go_wp2_with (refine wpList_store_mid rfl 50 _ _ rfl (w.heap.size + 1 + 1) 0 (i64s (carryF (zipSub xs ys 16))).toArray rfl rfl HT.out HS.out HO.out ?_)
      exact bodyPost_ret (v := .agg (i64s (carryF (zipSub xs ys 16))).toArray) (results_cell rfl _ _ _ _ rfl HLD.out) rfl ⟨rfl, HBF.out⟩
end Go.Proofs.YtkfdclnaaphdgaaDoor
namespace Go.Proofs.YtkfdclnaaphdgaaDoor
open Go.ChangeShapes Go.WideShapes Go.ChangeAt Go.RowKit Go.IntWalk
set_option linter.unusedVariables false

/-- The value is a number of the document's that is r by the prime. -/
def IsNum (v : Value) (r : Nat) : Prop := ∃ ds, v = A16 ds ∧ NumOk ds ∧ valD ds % (P : Int) = ((r % P : Nat) : Int)
theorem Q256_P : Q256 = 2 * (P : Int) := by decide +kernel
theorem carryF_mod (ds : List Int) (h : ds.length = 16) : valD (carryF ds) % (P : Int) = valD ds % (P : Int) := by
  have := carryF_val ds h
  rw [← this, Q256_P, show (cgo 0 ds).2 * (2 * (P : Int)) = (P : Int) * (2 * (cgo 0 ds).2) by rw [Int.mul_comm, Int.mul_assoc, Int.mul_comm 2, Int.mul_assoc, Int.mul_comm _ 2], Int.add_mul_emod_self_left]
theorem refSmall_calls (n : Nat) (hn : n < 2 ^ 32) (w : World) :
    Calls Tryd.prog 65 #[.int .i64 (n : Int)] w fun e w' => ∃ v, e = .returned v ∧ IsNum v n ∧ Below w.heap.size w w' := by
  have hok : NumOk (carryF ((n : Int) :: List.replicate 15 0)) := carryF_small _ _ (by omega) (fun x hx => by rw [List.eq_of_mem_replicate hx]; decide) (by simp)
  have hval : valD (carryF ((n : Int) :: List.replicate 15 0)) % (P : Int) = ((n % P : Nat) : Int) := by
    rw [carryF_mod _ (by simp)]
    have : valD ((n : Int) :: List.replicate 15 0) = (n : Int) := by simp [valD, List.replicate]
    rw [this]; rfl
  have hcar : ∀ W, Calls Tryd.prog 88 #[A16 ((n : Int) :: List.replicate 15 0)] W fun e w' => e = .returned (A16 (carryF ((n : Int) :: List.replicate 15 0))) ∧ Below W.heap.size W w' :=
    fun W => carry_calls _ (by simp) (fun x hx => by
      rcases List.mem_cons.1 hx with rfl | hx
      · omega
      · rw [List.eq_of_mem_replicate hx]; decide) W
  have hz0 : NBlk (w.alloc (.cells (i64s Z16).toArray 50)) w.heap.size Z16 := NBlk.new _
  have HC := Lib.hid hcar
  have HV := Lib.hid (And.intro hok hval)
  have HZ := Lib.hid hz0
  generalize hfs : carryF ((n : Int) :: List.replicate 15 0) = fs at *
  clear hok hval hcar hz0 hn
  go_enter Tryd.func65, Tryd.ntmps65
  go_wp2_with fail
  refine (HC.out _).mono ?_
  rintro e w1 ⟨rfl, b1⟩
  have hz1 := HZ.out.later b1
  have hbf := below_cells (Nat.le_refl w.heap.size) (i64s fs) 0 _ (below1 b1)
  have HT := Lib.hid (hz1.there (n := (i64s fs).toArray.size) (by simp [i64s, HV.out.1.1, Z16]))
  have HS := Lib.hid (size16a _ HV.out.1.1)
  have HO := Lib.hid (one16 fs)
  have HLD := Lib.hid (ld16 (hz1.setAll (ms := fs) (by rw [HV.out.1.1]; rfl)) HV.out.1.1)
  have HBF := Lib.hid hbf
  clear hz1 hbf b1 hfs
  go_wp2_with (refine wpList_store_mid rfl 50 _ _ rfl w.heap.size 0 (i64s fs).toArray rfl rfl HT.out HS.out HO.out ?_)
  exact bodyPost_ret (v := .agg (i64s fs).toArray) (results_cell rfl _ _ _ _ rfl HLD.out) rfl ⟨_, rfl, ⟨fs, rfl, HV.out.1, HV.out.2⟩, HBF.out⟩
def pD : List Int := [65517, 65535, 65535, 65535, 65535, 65535, 65535, 65535, 65535, 65535, 65535, 65535, 65535, 65535, 65535, 32767]
theorem pD_val : valD pD = (P : Int) := by decide +kernel
theorem pD_rng : ∀ x ∈ pD, 0 ≤ x ∧ x < 65536 := by decide
theorem refP_calls (w : World) : Calls Tryd.prog 100 #[] w fun e w' => e = .returned (A16 pD) ∧ Below w.heap.size w w' := by
  have hz0 : NBlk (w.alloc (.cells (i64s Z16).toArray 50)) w.heap.size Z16 := NBlk.new _
  have HBF := Lib.hid (below_cells (Nat.le_refl w.heap.size) (i64s pD) 0 _ ((Below.refl w.heap.size w).alloc (Nat.le_refl _) (.cells (i64s Z16).toArray 50)))
  have HT := Lib.hid (hz0.there (n := (i64s pD).toArray.size) rfl)
  have HS := Lib.hid (size16a pD rfl)
  have HO := Lib.hid (one16 pD)
  have HLD := Lib.hid (ld16 (hz0.setAll (ms := pD) rfl) rfl)
  clear hz0
  go_enter Tryd.func100, Tryd.ntmps100
  go_wp2_with (refine wpList_store_mid rfl 50 _ _ rfl w.heap.size 0 (i64s pD).toArray rfl rfl HT.out HS.out HO.out ?_)
  exact bodyPost_ret (v := .agg (i64s pD).toArray) (results_cell rfl _ _ _ _ rfl HLD.out) rfl ⟨rfl, HBF.out⟩
theorem valD_cmp : ∀ (xs ys t : List Int) (d e : Int), xs.length = ys.length → (∀ x ∈ xs, 0 ≤ x ∧ x < 65536) → (∀ x ∈ ys, 0 ≤ x ∧ x < 65536) → d < e → valD (xs ++ d :: t) < valD (ys ++ e :: t)
  | [], [], t, d, e, _, _, _, h => by simp [valD]; omega
  | x :: xs, y :: ys, t, d, e, hl, hx, hy, h => by
    have ih := valD_cmp xs ys t d e (by simpa using hl) (fun z hz => hx z (List.mem_cons_of_mem _ hz)) (fun z hz => hy z (List.mem_cons_of_mem _ hz)) h
    have h1 := hx x (List.mem_cons_self ..)
    have h2 := hy y (List.mem_cons_self ..)
    simp only [List.cons_append, valD]
    omega
  | [], _ :: _, _, _, _, hl, _, _, _ => by simp at hl
  | _ :: _, [], _, _, _, hl, _, _, _ => by simp at hl
theorem split_at (ds : List Int) (m : Nat) (h : m < ds.length) : ds = ds.take m ++ ds[m] :: ds.drop (m + 1) := by
  rw [← List.drop_eq_getElem_cons h, List.take_append_drop]
theorem below_at (ds : List Int) (hl : ds.length = 16) (hr : ∀ x ∈ ds, 0 ≤ x ∧ x < 65536) (m : Nat) (hm : m < 16) (he : ds.drop (m + 1) = pD.drop (m + 1)) (d e : Int) (hd : ds[m]? = some d) (hp : pD[m]? = some e) (hne : d ≠ e) :
    decide (d < e) = decide (valD ds < (P : Int)) := by
  have h1 : m < ds.length := by omega
  have h2 : m < pD.length := by show m < 16; omega
  obtain rfl : ds[m] = d := by rw [List.getElem?_eq_getElem h1] at hd; exact Option.some.inj hd
  obtain rfl : pD[m] = e := by rw [List.getElem?_eq_getElem h2] at hp; exact Option.some.inj hp
  have hlen : (ds.take m).length = (pD.take m).length := by simp; omega
  have ra : ∀ x ∈ ds.take m, 0 ≤ x ∧ x < 65536 := fun x hx => hr x (List.mem_of_mem_take hx)
  have rb : ∀ x ∈ pD.take m, 0 ≤ x ∧ x < 65536 := fun x hx => pD_rng x (List.mem_of_mem_take hx)
  have s1 := split_at ds m h1
  have s2 := split_at pD m h2
  rw [he] at s1
  rw [← pD_val, decide_eq_decide]
  constructor
  · intro hlt
    have := valD_cmp (ds.take m) (pD.take m) (pD.drop (m + 1)) _ _ hlen ra rb hlt
    rwa [← s1, ← s2] at this
  · intro hlt
    rcases Int.lt_trichotomy ds[m] pD[m] with h | h | h
    · exact h
    · exact absurd h hne
    · have := valD_cmp (pD.take m) (ds.take m) (pD.drop (m + 1)) _ _ hlen.symm rb ra h
      rw [← s1, ← s2] at this
      omega
set_option maxRecDepth 100000 in
set_option maxHeartbeats 4000000 in
theorem refBelow_calls (ds : List Int) (hl : ds.length = 16) (hr : ∀ x ∈ ds, 0 ≤ x ∧ x < 65536) (w : World) :
    Calls Tryd.prog 99 #[A16 ds] w fun e w' => e = .returned (.bool (decide (valD ds < (P : Int)))) ∧ Below w.heap.size w w' := by
  unfold A16
  have h0 : NBlk (w.alloc (.cells (i64s ds).toArray 50)) w.heap.size ds := NBlk.new _
  have H0 := Lib.hid h0
  obtain ⟨cs, hcs⟩ : ∃ cs, i64s ds = cs := ⟨_, rfl⟩
  rw [hcs] at H0
  rw [hcs]
  have HL := Lib.hid (And.intro hl hr)
  clear h0 hcs hl hr
  go_enter Tryd.func99, Tryd.ntmps99
  go_wp2_with fail
  refine (refP_calls _).mono ?_
  rintro e w1 ⟨rfl, b1⟩
  have hn1 := H0.out.later b1
  have hz1 : NBlk (w1.alloc (.cells (i64s Z16).toArray 50)) w1.heap.size Z16 := NBlk.new _
  have hw1 := (below1 b1).size
  have hlt : w.heap.size < w1.heap.size := hn1.lt
  have hp1 := hz1.setAll (ms := pD) rfl
  have hd1 := (hn1.alloc (.cells (i64s Z16).toArray 50)).setFar (g2 := w1.heap.size) (by omega) (i64s pD)
  have hb1 := below_cells hw1 (i64s pD) 0 _ ((below1 b1).alloc hw1 (.cells (i64s Z16).toArray 50))
  have HT := Lib.hid (hz1.there (n := (i64s pD).toArray.size) rfl)
  have HS := Lib.hid (size16a pD rfl)
  have HO := Lib.hid (one16 pD)
  have HB1 := Lib.hid (And.intro hd1 (And.intro hp1 hb1))
  clear hn1 b1 hz1 hw1 hp1 hd1 hb1
  go_wp2_with (refine wpList_store_mid rfl 50 _ _ rfl w1.heap.size 0 (i64s pD).toArray rfl rfl HT.out HS.out HO.out ?_)
  go_loopw [4] (fun i wr => ∃ (n : Nat) (z : Int), n ≤ 16 ∧ i = .int .i64 z ∧ z = (n : Int) - 1 ∧ ds.drop n = pD.drop n ∧ NBlk wr w.heap.size ds ∧ NBlk wr w1.heap.size pD ∧ Below w.heap.size w wr) (fun i _ => (intOf i + 1).toNat)
  case atStart => exact ⟨16, 15, by omega, rfl, by omega, by rw [List.drop_of_length_le (by rw [HL.out.1]; omega), List.drop_of_length_le (by decide)], HB1.out.1, HB1.out.2.1, HB1.out.2.2⟩
  case round =>
    obtain ⟨n, z, hn16, rfl, hz, hdr, hn, hpn, hbw⟩ := hrel
    cases n with
    | succ m =>
      obtain rfl : z = (m : Int) := by omega
      have h1 : m < ds.length := by rw [HL.out.1]; omega
      have h2 : m < pD.length := by show m < 16; omega
      obtain ⟨d, hd⟩ : ∃ d, ds[m]? = some d := ⟨_, List.getElem?_eq_getElem h1⟩
      obtain ⟨e, he⟩ : ∃ e, pD[m]? = some e := ⟨_, List.getElem?_eq_getElem h2⟩
      have g1 := hn.cell hd
      have g2 := hpn.cell he
      have hb0 : decide ((0 : Int) ≤ (m : Int)) = true := by simp
      have hm16 : (m : Int) < 16 := by omega
      by_cases hne : d = e
      · have hdr2 : ds.drop m = pD.drop m := by
          rw [List.drop_eq_getElem_cons h1, List.drop_eq_getElem_cons h2, hdr]
          rw [List.getElem?_eq_getElem h1] at hd
          rw [List.getElem?_eq_getElem h2] at he
          rw [Option.some.inj hd, Option.some.inj he, hne]
        have HD := Lib.hid (And.intro hdr2 (And.intro hn (And.intro hpn hbw)))
        have hq : (d != e) = false := by simp [hne]
        have hq2 : (d == e) = true := by simp [hne]
        have e1 : IntKind.i64.wrap ((m : Int) - 1) = (m : Int) - 1 := IntWalk.i64_in _ (by omega)
        clear hz hdr hn hpn hbw hd he hdr2 hne h1 h2
        go_wp2_with fail
        go_quiet (fail)
        go_wp2_with fail
        exact ⟨⟨m, (m : Int) - 1, by omega, rfl, rfl, HD.out.1, HD.out.2.1, HD.out.2.2.1, HD.out.2.2.2.drewN _⟩, by simp [intOf]⟩
      · have hres := below_at ds HL.out.1 HL.out.2 m (by omega) hdr d e hd he hne
        have HD := Lib.hid hbw
        have hq : (d != e) = true := by simp [hne]
        have hq2 : (d == e) = false := by simp [hne]
        have HR := Lib.hid hres
        clear hz hdr hn hpn hbw hd he h1 h2 hres
        go_wp2_with fail
        go_quiet (fail)
        go_wp2_with fail
        go_quiet (fail)
        go_wp2_with fail
        go_ret
        exact ⟨ret_bool HR.out, (HD.out.drewN _).drewN _⟩
    | zero =>
      obtain rfl : z = -1 := by omega
      have hds : ds = pD := by simpa using hdr
      have hres : false = decide (valD ds < (P : Int)) := by rw [hds, pD_val]; simp
      have HR := Lib.hid hres
      have HD := Lib.hid hbw
      clear hz hdr hn hpn hbw hds hres
      go_wp2_with fail
      go_ret
      exact ⟨ret_bool HR.out, HD.out⟩
end Go.Proofs.YtkfdclnaaphdgaaDoor
namespace Go.Proofs.YtkfdclnaaphdgaaDoor
open Go.ChangeShapes Go.WideShapes Go.ChangeAt Go.RowKit Go.IntWalk
set_option linter.unusedVariables false

/-- Digits, none below nought or beyond sixteen bits. -/
def Dig (es : List Int) : Prop := es.length = 16 ∧ ∀ x ∈ es, 0 ≤ x ∧ x < 65536
def RLeast (r : Nat) (w : World) (e : Ending) (w' : World) : Prop := ∃ es, e = .returned (A16 es) ∧ Dig es ∧ valD es = ((r % P : Nat) : Int) ∧ Below w.heap.size w w'
def numAt (w : World) (g : Nat) : Nat := match w.heap[g]? with
  | some (.cells cs _ _) => (valD (cs.toList.map intOf)).toNat
  | _ => 0
theorem NBlk.num {w : World} {g : Nat} {es : List Int} (h : NBlk w g es) : numAt w g = (valD es).toNat := by
  unfold NBlk at h
  unfold numAt
  rw [h]
  have : (i64s es).toArray.toList.map intOf = es := by simp [i64s, Function.comp_def, intOf]
  simp only [this]
def LsS (r g : Nat) (w wr : World) (es : List Int) : Prop := Dig es ∧ valD es % (P : Int) = ((r % P : Nat) : Int) ∧ NBlk wr g es ∧ NBlk wr (g + 1) Z16 ∧ Below w.heap.size w wr
def InS (es : List Int) (g k : Nat) (c : Int) (wr : World) : Prop := ∃ done, done.length = k ∧ (-1 ≤ c ∧ c ≤ 0) ∧ cgo 0 (zipSub es pD 16) = (done ++ (cgo c ((zipSub es pD 16).drop k)).1, (cgo c ((zipSub es pD 16).drop k)).2) ∧ NBlk wr g (done ++ es.drop k)
theorem zipSub_at (es : List Int) (k : Nat) (hk : k < 16) (a p : Int) (ha : es[k]? = some a) (hp : pD[k]? = some p) : (zipSub es pD 16).drop k = (a - p) :: (zipSub es pD 16).drop (k + 1) := by
  have hl : k < (zipSub es pD 16).length := by rw [zipSub_len]; exact hk
  rw [List.drop_eq_getElem_cons hl]
  congr 1
  simp [zipSub, hk, List.getD_eq_getElem?_getD, ha, hp]
theorem InS.step {es : List Int} {g k : Nat} {c a p : Int} {wr : World} (h : InS es g k c wr) (hk : k < 16) (hes : es.length = 16) (ha : es[k]? = some a) (hp : pD[k]? = some p) (hab : 0 ≤ a ∧ a < 65536) (hpb : 0 ≤ p ∧ p < 65536) :
    InS es g (k + 1) ((a - p + c) / 65536) (wr.setCell ⟨g, k, none⟩ (.int .i64 (a - p + c - (a - p + c) / 65536 * 65536))) := by
  obtain ⟨done, hd, hc, he, hn⟩ := h
  have h1 : k < es.length := by omega
  have ea : es[k] = a := by rw [List.getElem?_eq_getElem h1] at ha; exact Option.some.inj ha
  have hdr : es.drop k = a :: es.drop (k + 1) := by rw [List.drop_eq_getElem_cons h1, ea]
  have h2 := hn.set_ k (a - p + c - (a - p + c) / 65536 * 65536)
  rw [hdr, mid_set _ _ _ _ _ hd] at h2
  refine ⟨done ++ [a - p + c - (a - p + c) / 65536 * 65536], by simp [hd], by omega, ?_, by simpa using h2⟩
  rw [he, zipSub_at es k hk a p ha hp, sub_mod]
  conv => lhs; unfold cgo
  simp
theorem InS.done {es : List Int} {g : Nat} {c : Int} {wr : World} (h : InS es g 16 c wr) (hd : Dig es) (hge : (P : Int) ≤ valD es) : ∃ fs, Dig fs ∧ valD fs = valD es - (P : Int) ∧ NBlk wr g fs := by
  obtain ⟨done, hdn, hc, he, hn⟩ := h
  have hz : (zipSub es pD 16).drop 16 = [] := List.drop_of_length_le (by rw [zipSub_len]; omega)
  have he2 : es.drop 16 = [] := List.drop_of_length_le (by rw [hd.1]; omega)
  rw [hz] at he
  rw [he2, List.append_nil] at hn
  simp only [cgo, List.append_nil] at he
  have hr := cgo_rng 0 (zipSub es pD 16)
  have hv := cgo_val 0 (zipSub es pD 16)
  rw [zipSub_len, he, zipSub_val es pD hd.1 rfl, pD_val] at hv
  rw [he] at hr
  simp only at hr hv
  have h1 := valD_lt es hd.2
  have h2 := valD_lt done hr
  rw [hd.1] at h1
  rw [hdn] at h2
  have hP : (0 : Int) < (P : Int) := by decide +kernel
  generalize (65536 : Int) ^ 16 = M at *
  have hc0 : c = 0 := by
    rcases (show c = -1 ∨ c = 0 by omega) with rfl | rfl
    · omega
    · rfl
  subst hc0
  exact ⟨done, ⟨hdn, hr⟩, by omega, hn⟩
theorem dig_ok {es : List Int} (h : Dig es) : NumOk es := ⟨h.1, fun x hx => by have := h.2 x hx; omega⟩
set_option maxRecDepth 100000 in
set_option maxHeartbeats 8000000 in
theorem refLeast_calls (ds : List Int) (hok : NumOk ds) (r : Nat) (hv : valD ds % (P : Int) = ((r % P : Nat) : Int)) (w : World) :
    Calls Tryd.prog 87 #[A16 ds] w (RLeast r w) := by
  unfold A16
  have c1 : ∀ W, Calls Tryd.prog 88 #[.agg (i64s ds).toArray] W fun e w' => e = .returned (A16 (carryF ds)) ∧ Below W.heap.size W w' :=
    fun W => carry_calls ds hok.1 (fun x hx => by have := hok.2 x hx; omega) W
  have ok1 := carryF_ok ds hok.1 (fun x hx => by have := hok.2 x hx; omega)
  have c2 : ∀ W, Calls Tryd.prog 88 #[A16 (carryF ds)] W fun e w' => e = .returned (A16 (carryF (carryF ds))) ∧ Below W.heap.size W w' :=
    fun W => carry_calls _ ok1.1 (fun x hx => by have := ok1.2 x hx; omega) W
  have hdg : Dig (carryF (carryF ds)) := ⟨by rw [carryF_len, carryF_len]; exact hok.1, carryF_two ds hok⟩
  have c3 : ∀ W, Calls Tryd.prog 88 #[A16 (carryF (carryF ds))] W fun e w' => e = .returned (A16 (carryF (carryF ds))) ∧ Below W.heap.size W w' := by
    have h := fun W => carry_calls (carryF (carryF ds)) hdg.1 (fun x hx => by have := hdg.2 x hx; omega) W
    rw [carryF_id _ hdg.2] at h
    exact h
  have hvv : valD (carryF (carryF ds)) % (P : Int) = ((r % P : Nat) : Int) := by rw [carryF_mod _ ok1.1, carryF_mod _ hok.1, hv]
  have h0 : NBlk ((w.alloc (.cells (i64s ds).toArray 50)).alloc (.cells (i64s Z16).toArray 50)) w.heap.size ds := (NBlk.new _).alloc _
  have hz0 : NBlk ((w.alloc (.cells (i64s ds).toArray 50)).alloc (.cells (i64s Z16).toArray 50)) (w.heap.size + 1) Z16 := by
    have := NBlk.new (w := w.alloc (.cells (i64s ds).toArray 50)) Z16
    rw [show (w.alloc (.cells (i64s ds).toArray 50)).heap.size = w.heap.size + 1 by simp] at this
    exact this
  have hrg := h0.rng
  have hsz := size16' ds hok.1
  have hdl := hok.1
  obtain ⟨cs, hcs⟩ : ∃ cs, i64s ds = cs := ⟨_, rfl⟩
  rw [hcs] at c1 h0 hz0 hrg hsz ⊢
  obtain ⟨fs, hfs⟩ : ∃ fs, carryF (carryF ds) = fs := ⟨_, rfl⟩
  rw [hfs] at c2 c3 hdg hvv
  have HC := Lib.hid (And.intro c1 (And.intro c2 c3))
  have HF := Lib.hid (And.intro hdg hvv)
  have H0 := Lib.hid (And.intro h0 (And.intro hz0 (And.intro hrg (And.intro hsz hdl))))
  clear c1 c2 c3 ok1 hdg hvv h0 hz0 hrg hsz hdl hcs hfs hok hv
  go_enter Tryd.func87, Tryd.ntmps87
  go_wp2_with (refine wpList_load_mid rfl 50 _ rfl w.heap.size 0 rfl cs _ H0.out.2.2.1 Tryd.underlying50 rfl H0.out.2.2.2.1 ?_)
  refine (HC.out.1 _).mono ?_
  rintro e w1 ⟨rfl, b1⟩
  go_wp2_with fail
  refine (HC.out.2.1 _).mono ?_
  rintro e w2 ⟨rfl, b2⟩
  go_wp2_with fail
  refine (HC.out.2.2 _).mono ?_
  rintro e w3 ⟨rfl, b3⟩
  have b03 := (b1.then_ b2).then_ b3
  have n3 := H0.out.1.later b03
  have z3 := H0.out.2.1.later b03
  have HT := Lib.hid (n3.there (n := (i64s fs).toArray.size) (by simp [i64s, HF.out.1.1, H0.out.2.2.2.2]))
  have HS := Lib.hid (size16a fs HF.out.1.1)
  have HO := Lib.hid (one16 fs)
  have hL : LsS r w.heap.size w (w3.setCells w.heap.size 0 (i64s fs)) fs :=
    ⟨HF.out.1, HF.out.2, n3.setAll (by rw [H0.out.2.2.2.2, HF.out.1.1]), z3.setFar (by omega) _, below_cells (Nat.le_refl _) _ _ _ (below2 b03)⟩
  have HLs := Lib.hid hL
  clear b1 b2 b3 b03 n3 z3 hL
  go_wp2_with (refine wpList_store_mid rfl 50 _ _ rfl w.heap.size 0 (i64s fs).toArray rfl rfl HT.out HS.out HO.out ?_)
  go_frame
  go_loopw [11] (fun _ wr => ∃ es, LsS r w.heap.size w wr es) (fun _ wr => numAt wr w.heap.size)
  case atStart => exact ⟨fs, HLs.out⟩
  case round =>
    obtain ⟨es, hls⟩ := hrel
    have HL2 := Lib.hid hls
    have hrg := hls.2.2.1.rng
    have hsz := size16' es hls.1.1
    have HR := Lib.hid (And.intro hrg hsz)
    clear hls hrg hsz
    go_wp2_with (refine wpList_load_mid rfl 50 _ rfl w.heap.size 0 rfl (i64s es) _ HR.out.1 Tryd.underlying50 rfl HR.out.2 ?_)
    refine (refBelow_calls es HL2.out.1.1 HL2.out.1.2 _).mono ?_
    rintro e w4 ⟨rfl, b4⟩
    by_cases hlt : valD es < (P : Int)
    · rw [decide_eq_true hlt]
      have n4 := HL2.out.2.2.1.later b4
      have z4 := HL2.out.2.2.2.1.later b4
      have hel := HL2.out.1.1
      have hval : valD es = ((r % P : Nat) : Int) := by
        have h1 := (valD_lt es HL2.out.1.2).1
        have h2 := HL2.out.2.1
        rwa [Int.emod_eq_of_lt h1 hlt] at h2
      have hbf := below_cells (show w.heap.size ≤ w.heap.size + 1 by omega) (i64s es) 0 _ (HL2.out.2.2.2.2.then_ b4)
      have HR4 := Lib.hid (And.intro n4.rng (And.intro (z4.there (n := (i64s es).toArray.size) (by simp [i64s, hel, Z16])) (And.intro (size16' es hel) (And.intro (size16a es hel) (And.intro (one16 es) (And.intro (ld16 (z4.setAll (ms := es) (by rw [hel]; rfl)) hel) (And.intro hbf hval)))))))
      clear n4 z4 hel hval hbf b4 hlt
      go_wp2_with (first
        | (refine wpList_load_mid rfl 50 _ rfl w.heap.size 0 rfl (i64s es) _ HR4.out.1 Tryd.underlying50 rfl HR4.out.2.2.1 ?_)
        | (refine wpList_store_mid rfl 50 _ _ rfl (w.heap.size + 1) 0 (i64s es).toArray rfl rfl HR4.out.2.1 HR4.out.2.2.2.1 HR4.out.2.2.2.2.1 ?_))
      exact bodyPost_ret (v := .agg (i64s es).toArray) (results_cell rfl _ _ _ _ rfl HR4.out.2.2.2.2.2.1) rfl ⟨es, rfl, HL2.out.1, HR4.out.2.2.2.2.2.2.2, HR4.out.2.2.2.2.2.2.1⟩
    · rw [decide_eq_false hlt]
      go_wp2_with fail
      refine (refP_calls _).mono ?_
      rintro e w5 ⟨rfl, b5⟩
      have b45 := b4.then_ b5
      have n5 := HL2.out.2.2.1.later b45
      have z5 := HL2.out.2.2.2.1.later b45
      have bw5 := HL2.out.2.2.2.2.then_ b45
      have hzp : NBlk (w5.alloc (.cells (i64s Z16).toArray 50)) w5.heap.size Z16 := NBlk.new _
      have lt5 : w.heap.size + 1 < w5.heap.size := z5.lt
      have np := hzp.setAll (ms := pD) rfl
      have n6 := (n5.alloc (.cells (i64s Z16).toArray 50)).setFar (g2 := w5.heap.size) (by omega) (i64s pD)
      have z6 := (z5.alloc (.cells (i64s Z16).toArray 50)).setFar (g2 := w5.heap.size) (by omega) (i64s pD)
      have bw6 := below_cells bw5.size (i64s pD) 0 _ (bw5.alloc bw5.size (.cells (i64s Z16).toArray 50))
      have HT6 := Lib.hid (hzp.there (n := (i64s pD).toArray.size) rfl)
      have HS6 := Lib.hid (size16a pD rfl)
      have HO6 := Lib.hid (one16 pD)
      obtain ⟨gp, hgp⟩ : ∃ gp, w5.heap.size = gp := ⟨_, rfl⟩
      rw [hgp] at np n6 z6 bw6 HT6 lt5
      have hin0 : InS es w.heap.size 0 0 ((w5.alloc (.cells (i64s Z16).toArray 50)).setCells gp 0 (i64s pD)) := ⟨[], rfl, by decide, rfl, n6⟩
      have HI := Lib.hid (And.intro hin0 (And.intro np (And.intro z6 bw6)))
      have HGE : Hid ((P : Int) ≤ valD es) := Lib.hid (by omega)
      have HDG := Lib.hid HL2.out.1
      have HVM := Lib.hid HL2.out.2.1
      have HNUM : Hid (numAt wr w.heap.size = (valD es).toNat) := Lib.hid HL2.out.2.2.1.num
      clear b45 n5 z5 bw5 hzp np n6 z6 bw6 hin0 hlt b4 b5
      go_wp2_with (refine wpList_store_mid rfl 50 _ _ rfl gp 0 (i64s pD).toArray rfl rfl HT6.out HS6.out HO6.out ?_)
      clear hgp
      go_loopw [4, 5] (fun cv i wi => ∃ (k : Nat) (c : Int), k ≤ 16 ∧ i = .int .i64 (k : Int) ∧ cv = .int .i64 c ∧ InS es w.heap.size k c wi ∧ NBlk wi gp pD ∧ NBlk wi (w.heap.size + 1) Z16 ∧ Below w.heap.size w wi) (fun _ i _ => 16 - (intOf i).toNat)
      case atStart => exact ⟨0, 0, by omega, rfl, rfl, HI.out.1, HI.out.2.1, HI.out.2.2.1, HI.out.2.2.2⟩
      case round =>
        obtain ⟨k, c, hk, rfl, rfl, hin, hpn, hzn, hbw⟩ := hrel
        by_cases hp : k < 16
        · have hke : k < es.length := by rw [HDG.out.1]; exact hp
          have hkp : k < pD.length := hp
          obtain ⟨a, ha⟩ : ∃ a, es[k]? = some a := ⟨_, List.getElem?_eq_getElem hke⟩
          obtain ⟨p, hpp⟩ : ∃ p, pD[k]? = some p := ⟨_, List.getElem?_eq_getElem hkp⟩
          have hab := HDG.out.2 a (List.mem_of_getElem? ha)
          have hpb := pD_rng p (List.mem_of_getElem? hpp)
          have hin2 := hin.step hp HDG.out.1 ha hpp hab hpb
          obtain ⟨done, hd, hc, he, hn⟩ := hin
          have g1 : wr.cell? ⟨w.heap.size, k, none⟩ = some (.int .i64 a) := hn.cell (by rw [List.getElem?_append_right (by omega), hd, Nat.sub_self, List.getElem?_drop, Nat.add_zero, ha])
          have g2 := hn.frozen k
          have g3 := hpn.cell hpp
          have hlg : gp ≠ w.heap.size := by omega
          have hnx := hpn.other (k := k) (x := .int .i64 (a - p + c - (a - p + c) / 65536 * 65536)) (show w.heap.size ≠ gp by omega)
          have hzx := hzn.other (k := k) (x := .int .i64 (a - p + c - (a - p + c) / 65536 * 65536)) (show w.heap.size ≠ w.heap.size + 1 by omega)
          have hbx := hbw.setCell (p := ⟨w.heap.size, k, none⟩) (Nat.le_refl _) (.int .i64 (a - p + c - (a - p + c) / 65536 * 65536))
          have HN := Lib.hid (And.intro hin2 (And.intro hnx (And.intro hzx hbx)))
          have e1 : IntKind.i64.wrap ((k : Int) + 1) = (k : Int) + 1 := IntWalk.i64_in _ (by omega)
          have e2 : IntKind.i64.wrap (a - p) = a - p := IntWalk.i64_in _ (by omega)
          have e3 : IntKind.i64.wrap (a - p + c) = a - p + c := IntWalk.i64_in _ (by omega)
          have hbk : decide ((k : Int) < 16) = true := by simp; omega
          have HBW := Lib.hid hbw
          clear hpn hzn hbw hn he hd ha hpp hin2 hnx hzx hbx hke hkp
          go_wp2_with fail
          try rw [hbk]
          go_quiet (fail)
          go_wp2_with fail
          exact ⟨⟨k + 1, _, by omega, by go_num, rfl, HN.out.1, HN.out.2.1, HN.out.2.2.1, (HBW.out.drewN nq).setCell (p := ⟨w.heap.size, k, none⟩) (Nat.le_refl _) _⟩, by simp [intOf]; omega⟩
        · obtain rfl : k = 16 := by omega
          obtain ⟨hs, hd1, hd2, hd3⟩ := hin.done HDG.out HGE.out
          have hls : LsS r w.heap.size w wr hs := ⟨hd1, by rw [hd2, Int.sub_emod, Int.emod_self, Int.sub_zero, Int.emod_emod, HVM.out], hd3, hzn, hbw⟩
          have hms : ∀ x, x = (valD es).toNat → numAt wr w.heap.size < x := by
            intro x hx
            have h1 := HGE.out
            have h3 : (0 : Int) < (P : Int) := by decide +kernel
            rw [hx, hd3.num, hd2]
            omega
          have HLN := Lib.hid hls
          have HMS := Lib.hid hms
          clear hin hls hms hd1 hd2 hd3 hpn hzn hbw
          go_wp2_with fail
          exact ⟨⟨hs, HLN.out⟩, HMS.out _ HNUM.out⟩
end Go.Proofs.YtkfdclnaaphdgaaDoor
namespace Go.Proofs.YtkfdclnaaphdgaaDoor
open Go.ChangeShapes Go.WideShapes Go.ChangeAt Go.RowKit Go.IntWalk
set_option linter.unusedVariables false

def lowB (d : Int) : UInt8 := UInt8.ofNat (d.toNat % 256)
def highB (d : Int) : UInt8 := UInt8.ofNat (d.toNat / 256)
def bytesD (es : List Int) : List UInt8 := es.flatMap fun d => [lowB d, highB d]
theorem lowB_eq (d : Int) (h : 0 ≤ d ∧ d < 65536) : d % 256 = ((lowB d).toNat : Int) := by
  unfold lowB; simp; omega
theorem highB_eq (d : Int) (h : 0 ≤ d ∧ d < 65536) : d / 256 = ((highB d).toNat : Int) := by
  unfold highB; simp; omega
theorem bytesD_leB : ∀ es : List Int, (∀ x ∈ es, 0 ≤ x ∧ x < 65536) → bytesD es = leB (2 * es.length) (valD es).toNat
  | [], _ => rfl
  | d :: es, h => by
    have ih := bytesD_leB es fun x hx => h x (List.mem_cons_of_mem _ hx)
    have hd := h d (List.mem_cons_self ..)
    have hv := (valD_lt es fun x hx => h x (List.mem_cons_of_mem _ hx)).1
    rw [show 2 * (d :: es).length = 2 * es.length + 1 + 1 by simp; omega]
    simp only [leB, valD]
    have e1 : (d + 65536 * valD es).toNat % 256 = d.toNat % 256 := by omega
    have e2 : (d + 65536 * valD es).toNat / 256 % 256 = d.toNat / 256 := by omega
    have e3 : (d + 65536 * valD es).toNat / 256 / 256 = (valD es).toNat := by omega
    rw [e1, e2, e3, ← ih]
    rfl
theorem bytesD_take (es : List Int) (k : Nat) (d : Int) (h : es[k]? = some d) : bytesD (es.take (k + 1)) = bytesD (es.take k) ++ [lowB d, highB d] := by
  obtain ⟨hk, rfl⟩ := List.getElem?_eq_some_iff.1 h
  unfold bytesD
  rw [List.take_succ_eq_append_getElem hk, List.flatMap_append]
  rfl
theorem bytesD_len (es : List Int) : (bytesD es).length = 2 * es.length := by
  induction es with
  | nil => rfl
  | cons d es ih => simp [bytesD] at ih ⊢; omega
set_option maxRecDepth 100000 in
set_option maxHeartbeats 8000000 in
theorem refBytes_calls (v : Value) (r : Nat) (hv : IsNum v r) (w : World) :
    Calls Tryd.prog 50 #[v] w fun e w' => e = .returned (.string ⟨(leB 32 (r % P)).toArray⟩) ∧ Below w.heap.size w w' := by
  obtain ⟨ds, rfl, hok, hval⟩ := hv
  unfold A16
  have hle : ∀ W, Calls Tryd.prog 87 #[.agg (i64s ds).toArray] W (RLeast r W) := fun W => refLeast_calls ds hok r hval W
  have h0 : NBlk (w.alloc (.cells (i64s ds).toArray 50)) w.heap.size ds := NBlk.new _
  have hsz := size16' ds hok.1
  obtain ⟨cs, hcs⟩ : ∃ cs, i64s ds = cs := ⟨_, rfl⟩
  have hrg := h0.rng
  have hdl := hok.1
  rw [hcs] at hle h0 hsz hrg ⊢
  have H0 := Lib.hid (And.intro h0 (And.intro hrg (And.intro hsz (And.intro hle hdl))))
  clear h0 hrg hsz hle hdl hcs hok hval
  go_enter Tryd.func50, Tryd.ntmps50
  go_wp2_with (refine wpList_load_mid rfl 50 _ rfl w.heap.size 0 rfl cs _ H0.out.2.1 Tryd.underlying50 rfl H0.out.2.2.1 ?_)
  refine (H0.out.2.2.2.1 _).mono ?_
  rintro e w1 ⟨es, rfl, hdg, hve, b1⟩
  have n1 := H0.out.1.later b1
  have HT := Lib.hid (n1.there (n := (i64s es).toArray.size) (by simp [i64s, hdg.1, H0.out.2.2.2.2]))
  have HS := Lib.hid (size16a es hdg.1)
  have HO := Lib.hid (one16 es)
  have n2 := n1.setAll (ms := es) (by rw [H0.out.2.2.2.2, hdg.1])
  have hb2 := below_cells (Nat.le_refl w.heap.size) (i64s es) 0 _ (below1 b1)
  have HN2 := Lib.hid (And.intro n2 hb2)
  have HD := Lib.hid (And.intro hdg hve)
  clear n1 n2 hb2 b1 hdg hve
  go_wp2_with (refine wpList_store_mid rfl 50 _ _ rfl w.heap.size 0 (i64s es).toArray rfl rfl HT.out HS.out HO.out ?_)
  go_loopw [3, 4] (fun v i wr => ∃ k : Nat, k ≤ 16 ∧ i = .int .i64 (k : Int) ∧ OwnBs (w.heap.size + 1) wr v (bytesD (es.take k)) ∧ NBlk wr w.heap.size es ∧ Below w.heap.size w wr) (fun _ i _ => 16 - (intOf i).toNat)
  case atStart => exact ⟨0, by omega, rfl, OwnBs.nil _ _, HN2.out.1, HN2.out.2⟩
  case round =>
    obtain ⟨k, hk, rfl, hown, hn, hbw⟩ := hrel
    have hsz := hn.lt
    by_cases hp : k < 16
    · have hke : k < es.length := by rw [HD.out.1.1]; exact hp
      obtain ⟨d, hd⟩ : ∃ d, es[k]? = some d := ⟨_, List.getElem?_eq_getElem hke⟩
      have hdb := HD.out.1.2 d (List.mem_of_getElem? hd)
      have g1 := hn.cell hd
      have HTK := Lib.hid (bytesD_take es k d hd)
      have hlen : (bytesD (es.take k)).length ≤ 32 := by rw [bytesD_len, List.length_take]; omega
      obtain ⟨c1, hc1⟩ : ∃ c, lowB d = c := ⟨_, rfl⟩
      obtain ⟨c2, hc2⟩ : ∃ c, highB d = c := ⟨_, rfl⟩
      have m1 := lowB_eq d hdb
      have m2 := highB_eq d hdb
      have t1 : Int.tmod d 256 = d % 256 := Int.tmod_eq_emod_of_nonneg hdb.1
      rw [hc1, hc2] at HTK
      rw [hc1] at m1
      rw [hc2] at m2
      have u1 : IntKind.u8.wrap (c1.toNat : Int) = (c1.toNat : Int) := by have := c1.toNat_lt; rw [IntKind.wrap_u8]; omega
      have u2 : IntKind.u8.wrap (c2.toNat : Int) = (c2.toNat : Int) := by have := c2.toNat_lt; rw [IntKind.wrap_u8]; omega
      have e1 : IntKind.i64.wrap ((k : Int) + 1) = (k : Int) + 1 := IntWalk.i64_in _ (by omega)
      have hbk : decide ((k : Int) < 16) = true := by simp; omega
      have hk0 : (0 : Int) ≤ (k : Int) := Int.natCast_nonneg _
      have hk16 : (k : Int) < 16 := by omega
      have t2 : Int.tdiv d 256 = d / 256 := Int.tdiv_eq_ediv_of_nonneg hdb.1
      have u3 : IntKind.i64.wrap (c2.toNat : Int) = (c2.toNat : Int) := by have := c2.toNat_lt; exact IntWalk.i64_in _ (by omega)
      have hneo : ∀ vv, OwnBs (w.heap.size + 1) wr vv (bytesD (es.take k)) → some w.heap.size ≠ vv.ownBlock := fun vv ho h => by have := ho.lt _ h.symm; omega
      have HNE := Lib.hid hneo
      clear hneo
      have HDK := Lib.hid hd
      have HNN := Lib.hid hn
      have HBW := Lib.hid hbw
      clear hn hbw hke hd hc1 hc2
      go_wp2_with fail
      try rw [hbk]
      go_region_held3 (fun w' => w'.cell? ⟨w.heap.size, k, none⟩ = some (.int .i64 d)) (first | go_keep | exact g1 | exact NBlk.cell (show NBlk w2 w.heap.size es from (hgrow'.block w.heap.size (by simp; omega) (HNE.out _ hown)).trans (HNN.out.alloc _)) HDK.out)
        ((refine step_append_lit (by rfl) _ _ (by rfl) (w.heap.size + 1) _ _ (by rfl) (by first | exact World.ownsRow.alloc hown _ | exact (World.ownsRow.alloc hown _).drew | exact ((World.ownsRow.alloc hown _).drew).drew) ⟨wr.heap.size, 0, none⟩
            [c1, c2] 2 2 (by rfl) (rb_const wr _ _ rfl (0, 0)) (by rfl) (by omega) (by omega) (by simp; omega) ?_; intro v' w2 hown' hgrow'))
      rw [← HTK.out] at hown'
      have hn3 : NBlk w2 w.heap.size es := (hgrow'.block w.heap.size (by simp; omega) (HNE.out _ hown)).trans (HNN.out.alloc _)
      have hb3 : Below w.heap.size w w2 := Below.grown (by first | exact HBW.out.alloc (Nat.le_of_lt hsz) _ | exact (HBW.out.alloc (Nat.le_of_lt hsz) _).drew) hgrow' (by simp; omega) (fun k hk => by have := (hown.lt k hk).1; omega)
      have HE := Lib.hid (And.intro hown' (And.intro hn3 hb3))
      clear hown hown' hgrow' hn3 hb3 g1
      go_wp2_with fail
      exact ⟨⟨k + 1, by omega, by go_num, HE.out⟩, by simp [intOf]; omega⟩
    · obtain rfl : k = 16 := by omega
      have htk : es.take 16 = es := List.take_of_length_le (by rw [HD.out.1.1]; omega)
      rw [htk] at hown
      obtain ⟨A, n, cap, rfl, hrb, hnn⟩ := hown.form
      have hstr := run_str_rb wr A n cap _ hrb hnn
      have hres : bytesD es = leB 32 (r % P) := by
        rw [bytesD_leB es HD.out.1.2, HD.out.1.1, HD.out.2]; rfl
      have HRS := Lib.hid hres
      have HBW := Lib.hid hbw
      clear hown hrb hnn hn hbw htk hres
      go_wp2_with fail
      go_ret
      exact ⟨ret_str HRS.out, HBW.out⟩
end Go.Proofs.YtkfdclnaaphdgaaDoor
