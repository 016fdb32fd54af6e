/- Layer 4: the document's carry, walked. -/
import Derived.Test.YtpdoegfmngibgaaRfA
namespace Go.Proofs.Ytpdoegfmngibgaa
open Go.ChangeShapes Go.WideShapes Go.ChangeAt Go.RowKit Go.IntWalk
set_option linter.unusedVariables false

def Z16 : List Int := List.replicate 16 0
def NBlk (w : World) (g : Nat) (ds : List Int) : Prop := w.heap[g]? = some (.cells (i64s ds).toArray 33 (0, 0))
theorem NBlk.cell {w : World} {g : Nat} {ds : List Int} (h : NBlk w g ds) {k : Nat} {n : Int} (hk : ds[k]? = some n) : w.cell? ⟨g, k, none⟩ = some (.int .i64 n) := by
  rw [cell_of_row _ _ _ _ _ _ h]; simp [i64s, hk]
theorem NBlk.frozen {w : World} {g : Nat} {ds : List Int} (h : NBlk w g ds) (k : Nat) : w.frozen? ⟨g, k, none⟩ = false := by
  unfold NBlk at h; simp [World.frozen?, h]
theorem NBlk.set_ {w : World} {g : Nat} {ds : List Int} (h : NBlk w g ds) (k : Nat) (n : Int) : NBlk (w.setCell ⟨g, k, none⟩ (.int .i64 n)) g (ds.set k n) := by
  unfold NBlk at h ⊢
  simp [World.setCell, Array.getElem?_modify, h, i64s, List.map_set]
theorem NBlk.other {w : World} {g g2 k : Nat} {ds : List Int} {x : Value} (h : NBlk w g ds) (hne : g2 ≠ g) : NBlk (w.setCell ⟨g2, k, none⟩ x) g ds := by
  unfold NBlk at h ⊢
  simp [World.setCell, Array.getElem?_modify, h, hne]
theorem NBlk.rng {w : World} {g : Nat} {ds : List Int} (h : NBlk w g ds) : w.rangeAt g 0 (i64s ds) := by
  intro j v hv
  unfold NBlk at h
  rw [Nat.zero_add, cell_of_row _ _ _ _ _ _ h]; simpa using hv
theorem NBlk.there {w : World} {g n : Nat} {ds : List Int} (h : NBlk w g ds) (hn : n = ds.length) : w.there g 0 n := by
  intro j hj
  have hj2 : j < ds.length := by omega
  rw [Nat.zero_add]
  exact ⟨by rw [h.cell (List.getElem?_eq_getElem hj2)]; rfl, h.frozen j⟩
theorem NBlk.setAll {W : World} {g : Nat} {ls ms : List Int} (h : NBlk W g ls) (hl : ls.length = ms.length) : NBlk (W.setCells g 0 (i64s ms)) g ms := by
  have := setCells_blk (i64s ms) 0 W (i64s ls) h (by simp [i64s, hl])
  have hz : (i64s ls).length = 0 + (i64s ms).length := by simp [i64s, hl]
  rw [List.take_zero, List.nil_append, ← hz, List.drop_length, List.append_nil] at this
  exact this
theorem NBlk.setFar {W : World} {g g2 : Nat} {ls : List Int} (h : NBlk W g ls) (hne : g2 ≠ g) (vs : List Value) : NBlk (W.setCells g2 0 vs) g ls := (setCells_other hne vs 0 W).trans h
theorem NBlk.later {w w1 : World} {g : Nat} {ds : List Int} (h : NBlk w g ds) (b : Below w.heap.size w w1) : NBlk w1 g ds := (b.block g (Array.getElem?_eq_some_iff.1 h).1).trans h
theorem NBlk.alloc {w : World} {g : Nat} {ds : List Int} (h : NBlk w g ds) (o : Obj) : NBlk (w.alloc o) g ds := (heap_alloc_old w _ (Array.getElem?_eq_some_iff.1 h).1).trans h
theorem NBlk.new {w : World} (ds : List Int) : NBlk (w.alloc (.cells (i64s ds).toArray 33)) w.heap.size ds := heap_alloc_new w _
theorem NBlk.lt {w : World} {g : Nat} {ds : List Int} (h : NBlk w g ds) : g < w.heap.size := (Array.getElem?_eq_some_iff.1 h).1
theorem size16 : (Try.prog.info? 33).map (·.size) = some 16 := by kernel_rfl
theorem size16' (ds : List Int) (h : ds.length = 16) : (Try.prog.info? 33).map (·.size) = some (i64s ds).length := by rw [show (i64s ds).length = 16 by simp [i64s, h]]; exact size16
theorem size16a (ds : List Int) (h : ds.length = 16) : (Try.prog.info? 33).map (·.size) = some (i64s ds).toArray.size := by rw [show (i64s ds).toArray.size = 16 by simp [i64s, h]]; exact size16
theorem one16 (ds : List Int) : (i64s ds).toArray.all (·.oneCell') = true := by
  apply all_oneCell_toArray
  intro v hv
  obtain ⟨y, _, rfl⟩ := List.mem_map.1 hv
  rfl
theorem ld16 {W : World} {g : Nat} {ds : List Int} (h : NBlk W g ds) (hl : ds.length = 16) : (loadVar 33 ⟨g, 0, none⟩).run Try.prog W = .ok (.agg (i64s ds).toArray) W :=
  run_loadVar_mid _ _ _ _ (i64s ds) _ h.rng Try.underlying33 rfl (size16' ds hl)
theorem mid_get (xs : List Int) (x : Int) (ys : List Int) (k : Nat) (h : xs.length = k) : (xs ++ x :: ys)[k]? = some x := by subst h; simp
theorem mid_set (xs : List Int) (x y : Int) (ys : List Int) (k : Nat) (h : xs.length = k) : (xs ++ x :: ys).set k y = xs ++ y :: ys := by subst h; simp
/-- Behind k rounds of carrying. -/
def CarS (ds : List Int) (g k : Nat) (wr : World) : Prop :=
  (k ≤ 15 ∧ ∃ done c d rest, done.length = k ∧ rest.length = 15 - k ∧ (-2147549184 ≤ c ∧ c ≤ 2147549184) ∧ cgo 0 ds = (done ++ (cgo c (d :: rest)).1, (cgo c (d :: rest)).2) ∧
    (∀ x ∈ d :: rest, -140737488355328 ≤ x ∧ x ≤ 140737488355328) ∧ NBlk wr g (done ++ (d + c) :: rest)) ∨ (k = 16 ∧ NBlk wr g (carryF ds))
theorem sub_mod (x : Int) : x - x / 65536 * 65536 = x % 65536 := by omega
theorem CarS.step {ds done rest : List Int} {g k : Nat} {c d d2 x : Int} {wr : World} (hk2 : k < 15) (hd : done.length = k) (hr : (d2 :: rest).length = 15 - k) (hx : d + c = x) (hxb : -140741783322624 ≤ x ∧ x ≤ 140741783322624)
    (he : cgo 0 ds = (done ++ (cgo c (d :: d2 :: rest)).1, (cgo c (d :: d2 :: rest)).2)) (hbd : ∀ x ∈ d :: d2 :: rest, -140737488355328 ≤ x ∧ x ≤ 140737488355328) (hn : NBlk wr g (done ++ x :: d2 :: rest)) :
    CarS ds g (k + 1) ((wr.setCell ⟨g, k, none⟩ (.int .i64 (x - x / 65536 * 65536))).setCell ⟨g, k + 1, none⟩ (.int .i64 (d2 + x / 65536))) := by
  left
  have h1 := (hn.set_ k (x - x / 65536 * 65536)).set_ (k + 1) (d2 + x / 65536)
  rw [mid_set _ _ _ _ _ hd, show done ++ (x - x / 65536 * 65536) :: d2 :: rest = (done ++ [x - x / 65536 * 65536]) ++ d2 :: rest by simp, mid_set _ _ _ _ _ (by simp [hd])] at h1
  refine ⟨by omega, done ++ [x - x / 65536 * 65536], x / 65536, d2, rest, by simp [hd], by simp at hr; omega, by omega, ?_, fun y hy => hbd y (List.mem_cons_of_mem _ hy), h1⟩
  rw [he, sub_mod]
  conv => lhs; unfold cgo
  rw [hx]
  simp
theorem CarS.last {ds done : List Int} {g : Nat} {c d x e : Int} {es : List Int} {wr : World} (hd : done.length = 15) (hdn : done = e :: es) (hx : d + c = x)
    (he : cgo 0 ds = (done ++ (cgo c [d]).1, (cgo c [d]).2)) (hn : NBlk wr g (done ++ [x])) :
    CarS ds g 16 ((wr.setCell ⟨g, 15, none⟩ (.int .i64 (x - x / 65536 * 65536))).setCell ⟨g, 0, none⟩ (.int .i64 (e + 38 * (x / 65536)))) := by
  right
  refine ⟨rfl, ?_⟩
  have h1 := (hn.set_ 15 (x - x / 65536 * 65536)).set_ 0 (e + 38 * (x / 65536))
  rw [mid_set _ _ _ _ _ hd] at h1
  have h2 : carryF ds = (done ++ [x - x / 65536 * 65536]).set 0 (e + 38 * (x / 65536)) := by
    unfold carryF
    rw [he, sub_mod]
    simp only [cgo, hx, hdn]
    simp
  rw [h2]; exact h1
set_option maxRecDepth 100000 in
set_option maxHeartbeats 4000000 in
theorem carry_calls (ds : List Int) (hl : ds.length = 16) (hb : ∀ x ∈ ds, -140737488355328 ≤ x ∧ x ≤ 140737488355328) (w : World) :
    Calls Try.prog 37 #[A16 ds] w fun e w' => e = .returned (A16 (carryF ds)) ∧ Below w.heap.size w w' := by
  unfold A16
  go_enter Try.func37, Try.ntmps37
  have h0 : CarS ds w.heap.size 0 ((w.alloc (.cells (i64s ds).toArray 33)).alloc (.cells (i64s Z16).toArray 33)) := by
    left
    cases ds with
    | nil => simp at hl
    | cons d rest =>
      refine ⟨by omega, [], 0, d, rest, rfl, by simpa using hl, by decide, rfl, hb, ?_⟩
      rw [Int.add_zero]
      exact (NBlk.new _).alloc _
  have hz0 : NBlk ((w.alloc (.cells (i64s ds).toArray 33)).alloc (.cells (i64s Z16).toArray 33)) (w.heap.size + 1) Z16 := by
    have := NBlk.new (w := w.alloc (.cells (i64s ds).toArray 33)) Z16
    rw [show (w.alloc (.cells (i64s ds).toArray 33)).heap.size = w.heap.size + 1 by simp] at this
    exact this
  have H0 := Lib.hid (And.intro h0 hz0)
  have HL := Lib.hid hl
  obtain ⟨cs, hcs⟩ : ∃ cs, i64s ds = cs := ⟨_, rfl⟩
  rw [hcs] at H0
  rw [hcs]
  clear h0 hz0 hl hb hcs
  go_wp2_with fail
  go_loopw [3] (fun i wr => ∃ k : Nat, k ≤ 16 ∧ i = .int .i64 (k : Int) ∧ CarS ds w.heap.size k wr ∧ NBlk wr (w.heap.size + 1) Z16 ∧ Below w.heap.size w wr) (fun i _ => 16 - (intOf i).toNat)
  case atStart => exact ⟨0, by omega, rfl, H0.out.1, H0.out.2, ((Below.refl _ _).alloc (Nat.le_refl _) _).alloc (by simp) _⟩
  case round =>
    obtain ⟨k, hk, rfl, hs, hz, hbw⟩ := hrel
    by_cases hp : k < 16
    · have hs' := hs
      rcases hs' with ⟨hk15, done, c, d, rest, hd, hr, hc, he, hbd, hn⟩ | ⟨rfl, _⟩
      · have hbx := hbd d (List.mem_cons_self ..)
        obtain ⟨x, hx⟩ : ∃ x, d + c = x := ⟨_, rfl⟩
        rw [hx] at hn
        have hxb : -140741783322624 ≤ x ∧ x ≤ 140741783322624 := by omega
        have g1 := hn.cell (mid_get done x rest k hd)
        have g2 := hn.frozen k
        by_cases hk2 : k < 15
        · cases rest with
          | nil => simp at hr; omega
          | cons d2 rest =>
            have g3 : wr.cell? ⟨w.heap.size, k + 1, none⟩ = some (.int .i64 d2) := hn.cell (by
              have := mid_get (done ++ [x]) d2 rest (k + 1) (by simp [hd]); simpa using this)
            have g4 := hn.frozen (k + 1)
            have hd2 := hbd d2 (by simp)
            have hnx := CarS.step hk2 hd hr hx hxb he hbd hn
            have hzx := (hz.other (k := k) (x := .int .i64 (x - x / 65536 * 65536)) (show w.heap.size ≠ w.heap.size + 1 by omega)).other (k := k + 1) (x := .int .i64 (d2 + x / 65536)) (show w.heap.size ≠ w.heap.size + 1 by omega)
            have hbx2 : Below w.heap.size w ((wr.setCell ⟨w.heap.size, k, none⟩ (.int .i64 (x - x / 65536 * 65536))).setCell ⟨w.heap.size, k + 1, none⟩ (.int .i64 (d2 + x / 65536))) := (hbw.setCell (Nat.le_refl _) _).setCell (Nat.le_refl _) _
            have HN := Lib.hid (And.intro hnx (And.intro hzx hbx2))
            have e1 : IntKind.i64.wrap ((k : Int) + 1) = (k : Int) + 1 := IntWalk.i64_in _ (by omega)
            clear hs hn he hbd hx hd hr hz hbw hbx hnx hzx hbx2
            go_wp2_with fail
            exact ⟨⟨k + 1, by omega, by go_num, HN.out⟩, by simp [intOf]; omega⟩
        · obtain rfl : k = 15 := by omega
          obtain rfl : rest = [] := List.eq_nil_of_length_eq_zero (by omega)
          obtain ⟨e, es, hdn⟩ : ∃ e es, done = e :: es := by
            cases done with
            | nil => simp at hd
            | cons e es => exact ⟨e, es, rfl⟩
          have g3 : wr.cell? ⟨w.heap.size, 0, none⟩ = some (.int .i64 e) := hn.cell (by rw [hdn]; rfl)
          have g4 := hn.frozen 0
          have heb : 0 ≤ e ∧ e < 65536 := by
            refine cgo_rng 0 ds e ?_
            rw [he, hdn]; simp
          have hnx := CarS.last hd hdn hx he hn
          have hzx := (hz.other (k := 15) (x := .int .i64 (x - x / 65536 * 65536)) (show w.heap.size ≠ w.heap.size + 1 by omega)).other (k := 0) (x := .int .i64 (e + 38 * (x / 65536))) (show w.heap.size ≠ w.heap.size + 1 by omega)
          have hbx2 : Below w.heap.size w ((wr.setCell ⟨w.heap.size, 15, none⟩ (.int .i64 (x - x / 65536 * 65536))).setCell ⟨w.heap.size, 0, none⟩ (.int .i64 (e + 38 * (x / 65536)))) := (hbw.setCell (Nat.le_refl _) _).setCell (Nat.le_refl _) _
          have HN := Lib.hid (And.intro hnx (And.intro hzx hbx2))
          clear hs hn he hbd hx hd hdn hz hbw hbx hnx hzx hbx2 hr
          go_wp2_with fail
          exact ⟨⟨16, by omega, by go_num, HN.out⟩, by simp [intOf]⟩
      · omega
    · obtain rfl : k = 16 := by omega
      rcases hs with ⟨hk15, _⟩ | ⟨_, hn⟩
      · omega
      · have hcl : (carryF ds).length = 16 := by rw [carryF_len]; exact HL.out
        obtain ⟨fs, hfs⟩ : ∃ fs, i64s (carryF ds) = fs := ⟨_, rfl⟩
        have hr := hn.rng
        have ht : wr.there (w.heap.size + 1) 0 fs.toArray.size := hz.there (by rw [← hfs]; simp [i64s, hcl, Z16])
        have hs1 := size16' _ hcl
        have hs2 := size16a _ hcl
        have ho := one16 (carryF ds)
        have hf := hz.setAll (ms := carryF ds) (by rw [hcl]; rfl)
        have hld := ld16 hf hcl
        have hbf : Below w.heap.size w (wr.setCells (w.heap.size + 1) 0 (i64s (carryF ds))) := below_cells (by omega) _ _ _ hbw
        rw [hfs] at hr hs1 hs2 ho hld hbf
        have HF := Lib.hid (And.intro hr (And.intro ht (And.intro hs1 (And.intro hs2 (And.intro ho (And.intro hld (And.intro hbf hfs)))))))
        clear hn hz hbw hr ht hs1 hs2 ho hf hld hbf hfs hcl
        go_wp2_with (first
          | (refine wpList_load_mid rfl 33 _ rfl w.heap.size 0 rfl fs _ HF.out.1 Try.underlying33 rfl HF.out.2.2.1 ?_)
          | (refine wpList_store_mid rfl 33 _ _ rfl (w.heap.size + 1) 0 fs.toArray rfl rfl HF.out.2.1 HF.out.2.2.2.1 HF.out.2.2.2.2.1 ?_))
        refine bodyPost_ret (v := .agg fs.toArray) (results_cell rfl _ _ _ _ rfl HF.out.2.2.2.2.2.1) rfl ⟨?_, HF.out.2.2.2.2.2.2.1⟩
        rw [← HF.out.2.2.2.2.2.2.2]
end Go.Proofs.Ytpdoegfmngibgaa
