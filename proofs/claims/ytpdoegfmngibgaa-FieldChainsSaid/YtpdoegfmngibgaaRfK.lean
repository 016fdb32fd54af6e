/- Layer 4: the document's products, walked. -/
import Derived.Test.YtpdoegfmngibgaaRfJ
import Derived.Test.YtpdoegfmngibgaaRfI
namespace Go.Proofs.Ytpdoegfmngibgaa
open Go.ChangeShapes Go.WideShapes Go.ChangeAt Go.RowKit Go.IntWalk
set_option linter.unusedVariables false

def Z31 : List Int := List.replicate 31 0
def TBlk (w : World) (g : Nat) (ds : List Int) : Prop := w.heap[g]? = some (.cells (i64s ds).toArray 64 (0, 0))
theorem TBlk.cell {w : World} {g : Nat} {ds : List Int} (h : TBlk w g ds) {k : Nat} {n : Int} (hk : ds[k]? = some n) : w.cell? ⟨g, k, none⟩ = some (.int .i64 n) := by
  rw [cell_of_row _ _ _ _ _ _ h]; simp [i64s, hk]
theorem TBlk.frozen {w : World} {g : Nat} {ds : List Int} (h : TBlk w g ds) (k : Nat) : w.frozen? ⟨g, k, none⟩ = false := by
  unfold TBlk at h; simp [World.frozen?, h]
theorem TBlk.set_ {w : World} {g : Nat} {ds : List Int} (h : TBlk w g ds) (k : Nat) (n : Int) : TBlk (w.setCell ⟨g, k, none⟩ (.int .i64 n)) g (ds.set k n) := by
  unfold TBlk at h ⊢
  simp [World.setCell, Array.getElem?_modify, h, i64s, List.map_set]
theorem TBlk.other {w : World} {g g2 k : Nat} {ds : List Int} {x : Value} (h : TBlk w g ds) (hne : g2 ≠ g) : TBlk (w.setCell ⟨g2, k, none⟩ x) g ds := by
  unfold TBlk at h ⊢
  simp [World.setCell, Array.getElem?_modify, h, hne]
theorem TBlk.alloc {w : World} {g : Nat} {ds : List Int} (h : TBlk w g ds) (o : Obj) : TBlk (w.alloc o) g ds := (heap_alloc_old w _ (Array.getElem?_eq_some_iff.1 h).1).trans h
/-- In a row, behind m places. -/
def Bnd2 (B : Int) (m : Nat) (t : List Int) : Prop := ∀ j x, t[j]? = some x → if j < m then -(B + 68719476736) ≤ x ∧ x ≤ B + 68719476736 else -B ≤ x ∧ x ≤ B
theorem Bnd2.step {B : Int} {m : Nat} {t : List Int} {p : Int} (h : Bnd2 B m t) (hm : m < t.length) (hp : -68719476736 ≤ p ∧ p ≤ 68719476736) (hB : 0 ≤ B) : Bnd2 B (m + 1) (addAt t m p) := by
  intro j x hx
  unfold addAt at hx
  rw [List.getElem?_set] at hx
  by_cases e : m = j
  · subst e
    rw [if_pos rfl, if_pos hm] at hx
    have hg := h m t[m] (List.getElem?_eq_getElem hm)
    rw [if_neg (by omega)] at hg
    rw [if_pos (by omega)]
    have hx := Option.some.inj hx
    rw [List.getD_eq_getElem?_getD, List.getElem?_eq_getElem hm, Option.getD_some] at hx
    omega
  · rw [if_neg e] at hx
    have hg := h j x hx
    by_cases h1 : j < m
    · rw [if_pos h1] at hg; rw [if_pos (by omega)]; exact hg
    · rw [if_neg h1] at hg; rw [if_neg (by omega)]; exact hg
theorem Bnd2.start {B : Int} {m : Nat} {t : List Int} (h : Bnds B t) (hB : 0 ≤ B) : Bnd2 B m t := by
  intro j x hx
  have := h x (List.mem_of_getElem? hx)
  split <;> omega
theorem Bnd2.done {B : Int} {m : Nat} {t : List Int} (h : Bnd2 B m t) : Bnds (B + 68719476736) t := by
  intro x hx
  obtain ⟨j, hj⟩ := List.getElem?_of_mem hx
  have := h j x hj
  by_cases e : j < m
  · rw [if_pos e] at this; omega
  · rw [if_neg e] at this; omega
def MulO (xs ys : List Int) (g i : Nat) (wr : World) : Prop := ∃ t, TBlk wr g t ∧ t.length = 31 ∧ Bnds ((i : Int) * 68719476736) t ∧ prodF t ys (xs.drop i) i = prodF Z31 ys xs 0
def MulI (xs ys : List Int) (g i k : Nat) (a : Int) (wr : World) : Prop := ∃ t, TBlk wr g t ∧ t.length = 31 ∧ Bnd2 ((i : Int) * 68719476736) (i + k) t ∧ prodF (rowF t a i (ys.drop k) k) ys (xs.drop (i + 1)) (i + 1) = prodF Z31 ys xs 0
theorem MulI.step {xs ys : List Int} {g i k : Nat} {a b : Int} {t : List Int} {wr : World} (ht : TBlk wr g t) (hl : t.length = 31) (hb : Bnd2 ((i : Int) * 68719476736) (i + k) t) (he : prodF (rowF t a i (ys.drop k) k) ys (xs.drop (i + 1)) (i + 1) = prodF Z31 ys xs 0)
    (hi : i < 16) (hk : k < 16) (hy : ys.length = 16) (hbk : ys[k]? = some b) (hp : -68719476736 ≤ a * b ∧ a * b ≤ 68719476736) {x : Int} (hx : t[i + k]? = some x) :
    MulI xs ys g i (k + 1) a (wr.setCell ⟨g, i + k, none⟩ (.int .i64 (x + a * b))) := by
  have hky : k < ys.length := by omega
  have hdr : ys.drop k = b :: ys.drop (k + 1) := by
    rw [List.drop_eq_getElem_cons hky]; congr 1; rw [List.getElem?_eq_getElem hky] at hbk; exact Option.some.inj hbk
  have hxx : t.getD (i + k) 0 = x := by rw [List.getD_eq_getElem?_getD, hx]; rfl
  refine ⟨addAt t (i + k) (a * b), ?_, by rw [addAt_len, hl], hb.step (by omega) hp (Int.mul_nonneg (Int.natCast_nonneg i) (by decide)), ?_⟩
  · have := ht.set_ (i + k) (x + a * b)
    unfold addAt; rw [hxx]; exact this
  · rw [hdr, rowF] at he; exact he
theorem MulI.done {xs ys : List Int} {g i : Nat} {a : Int} {wr : World} (h : MulI xs ys g i 16 a wr) (hy : ys.length = 16) : MulO xs ys g (i + 1) wr := by
  obtain ⟨t, ht, hl, hb, he⟩ := h
  rw [List.drop_of_length_le (by omega), rowF] at he
  refine ⟨t, ht, hl, ?_, he⟩
  have := hb.done
  rw [show ((i + 1 : Nat) : Int) * 68719476736 = (i : Int) * 68719476736 + 68719476736 by omega]
  exact this
theorem MulO.row {xs ys : List Int} {g i : Nat} {a : Int} {wr : World} (h : MulO xs ys g i wr) (hx : xs.length = 16) (hi : i < 16) (ha : xs[i]? = some a) : MulI xs ys g i 0 a wr := by
  obtain ⟨t, ht, hl, hb, he⟩ := h
  have hix : i < xs.length := by omega
  have hdr : xs.drop i = a :: xs.drop (i + 1) := by
    rw [List.drop_eq_getElem_cons hix]; congr 1; rw [List.getElem?_eq_getElem hix] at ha; exact Option.some.inj ha
  rw [hdr, prodF] at he
  exact ⟨t, ht, hl, Bnd2.start hb (Int.mul_nonneg (Int.natCast_nonneg i) (by decide)), he⟩
theorem blk4 (xs ys : List Int) (w : World) : NBlk ((((w.alloc (.cells (i64s xs).toArray 33)).alloc (.cells (i64s ys).toArray 33)).alloc (.cells (i64s Z16).toArray 33)).alloc (.cells #[.int .i64 0, .int .i64 0, .int .i64 0, .int .i64 0, .int .i64 0, .int .i64 0, .int .i64 0, .int .i64 0, .int .i64 0, .int .i64 0, .int .i64 0, .int .i64 0, .int .i64 0, .int .i64 0, .int .i64 0, .int .i64 0, .int .i64 0, .int .i64 0, .int .i64 0, .int .i64 0, .int .i64 0, .int .i64 0, .int .i64 0, .int .i64 0, .int .i64 0, .int .i64 0, .int .i64 0, .int .i64 0, .int .i64 0, .int .i64 0, .int .i64 0] 64)) w.heap.size xs ∧
    NBlk ((((w.alloc (.cells (i64s xs).toArray 33)).alloc (.cells (i64s ys).toArray 33)).alloc (.cells (i64s Z16).toArray 33)).alloc (.cells #[.int .i64 0, .int .i64 0, .int .i64 0, .int .i64 0, .int .i64 0, .int .i64 0, .int .i64 0, .int .i64 0, .int .i64 0, .int .i64 0, .int .i64 0, .int .i64 0, .int .i64 0, .int .i64 0, .int .i64 0, .int .i64 0, .int .i64 0, .int .i64 0, .int .i64 0, .int .i64 0, .int .i64 0, .int .i64 0, .int .i64 0, .int .i64 0, .int .i64 0, .int .i64 0, .int .i64 0, .int .i64 0, .int .i64 0, .int .i64 0, .int .i64 0] 64)) (w.heap.size + 1) ys ∧
    NBlk ((((w.alloc (.cells (i64s xs).toArray 33)).alloc (.cells (i64s ys).toArray 33)).alloc (.cells (i64s Z16).toArray 33)).alloc (.cells #[.int .i64 0, .int .i64 0, .int .i64 0, .int .i64 0, .int .i64 0, .int .i64 0, .int .i64 0, .int .i64 0, .int .i64 0, .int .i64 0, .int .i64 0, .int .i64 0, .int .i64 0, .int .i64 0, .int .i64 0, .int .i64 0, .int .i64 0, .int .i64 0, .int .i64 0, .int .i64 0, .int .i64 0, .int .i64 0, .int .i64 0, .int .i64 0, .int .i64 0, .int .i64 0, .int .i64 0, .int .i64 0, .int .i64 0, .int .i64 0, .int .i64 0] 64)) (w.heap.size + 1 + 1) Z16 ∧
    TBlk ((((w.alloc (.cells (i64s xs).toArray 33)).alloc (.cells (i64s ys).toArray 33)).alloc (.cells (i64s Z16).toArray 33)).alloc (.cells #[.int .i64 0, .int .i64 0, .int .i64 0, .int .i64 0, .int .i64 0, .int .i64 0, .int .i64 0, .int .i64 0, .int .i64 0, .int .i64 0, .int .i64 0, .int .i64 0, .int .i64 0, .int .i64 0, .int .i64 0, .int .i64 0, .int .i64 0, .int .i64 0, .int .i64 0, .int .i64 0, .int .i64 0, .int .i64 0, .int .i64 0, .int .i64 0, .int .i64 0, .int .i64 0, .int .i64 0, .int .i64 0, .int .i64 0, .int .i64 0, .int .i64 0] 64)) (w.heap.size + 1 + 1 + 1) Z31 ∧
    Below w.heap.size w ((((w.alloc (.cells (i64s xs).toArray 33)).alloc (.cells (i64s ys).toArray 33)).alloc (.cells (i64s Z16).toArray 33)).alloc (.cells #[.int .i64 0, .int .i64 0, .int .i64 0, .int .i64 0, .int .i64 0, .int .i64 0, .int .i64 0, .int .i64 0, .int .i64 0, .int .i64 0, .int .i64 0, .int .i64 0, .int .i64 0, .int .i64 0, .int .i64 0, .int .i64 0, .int .i64 0, .int .i64 0, .int .i64 0, .int .i64 0, .int .i64 0, .int .i64 0, .int .i64 0, .int .i64 0, .int .i64 0, .int .i64 0, .int .i64 0, .int .i64 0, .int .i64 0, .int .i64 0, .int .i64 0] 64)) := by
  obtain ⟨h1, h2, h3, h4⟩ := blk3 xs ys w
  have e3 : (((w.alloc (.cells (i64s xs).toArray 33)).alloc (.cells (i64s ys).toArray 33)).alloc (.cells (i64s Z16).toArray 33)).heap.size = w.heap.size + 1 + 1 + 1 := by simp
  have h5 := heap_alloc_new (((w.alloc (.cells (i64s xs).toArray 33)).alloc (.cells (i64s ys).toArray 33)).alloc (.cells (i64s Z16).toArray 33)) (.cells #[.int .i64 0, .int .i64 0, .int .i64 0, .int .i64 0, .int .i64 0, .int .i64 0, .int .i64 0, .int .i64 0, .int .i64 0, .int .i64 0, .int .i64 0, .int .i64 0, .int .i64 0, .int .i64 0, .int .i64 0, .int .i64 0, .int .i64 0, .int .i64 0, .int .i64 0, .int .i64 0, .int .i64 0, .int .i64 0, .int .i64 0, .int .i64 0, .int .i64 0, .int .i64 0, .int .i64 0, .int .i64 0, .int .i64 0, .int .i64 0, .int .i64 0] 64)
  rw [e3] at h5
  exact ⟨h1.alloc _, h2.alloc _, h3.alloc _, h5, h4.alloc (by rw [e3]; omega) _⟩
set_option maxRecDepth 100000 in
set_option maxHeartbeats 16000000 in
theorem refMul_calls (xs ys : List Int) (hx : NumOk xs) (hy : NumOk ys) (w : World) :
    Calls Try.prog 27 #[A16 xs, A16 ys] w fun e w' => e = .returned (A16 (carryF (carryF (foldD (prodF Z31 ys xs 0) 16)))) ∧ NumOk (carryF (carryF (foldD (prodF Z31 ys xs 0) 16))) ∧ Below w.heap.size w w' := by
  unfold A16
  go_enter Try.func27, Try.ntmps27
  have H0 := Lib.hid (blk4 xs ys w)
  have HX := Lib.hid hx
  have HY := Lib.hid hy
  obtain ⟨cx, hcx⟩ : ∃ cs, i64s xs = cs := ⟨_, rfl⟩
  obtain ⟨cy, hcy⟩ : ∃ cs, i64s ys = cs := ⟨_, rfl⟩
  rw [hcx, hcy] at H0
  rw [hcx, hcy]
  clear hx hy hcx hcy
  go_wp2_with fail
  go_loopw [6] (fun i wr => ∃ k : Nat, k ≤ 16 ∧ i = .int .i64 (k : Int) ∧ MulO xs ys (w.heap.size + 1 + 1 + 1) k wr ∧ NBlk wr w.heap.size xs ∧ NBlk wr (w.heap.size + 1) ys ∧ NBlk wr (w.heap.size + 1 + 1) Z16 ∧ Below w.heap.size w wr) (fun i _ => 16 - (intOf i).toNat)
  case atStart => exact ⟨0, by omega, rfl, ⟨Z31, H0.out.2.2.2.1, rfl, by intro x hx; rw [List.eq_of_mem_replicate hx]; decide, rfl⟩, H0.out.1, H0.out.2.1, H0.out.2.2.1, H0.out.2.2.2.2⟩
  case round =>
    obtain ⟨i, hi16, rfl, ho, hnx, hny, hnz, hbw⟩ := hrel
    by_cases hpi : i < 16
    · obtain ⟨a, ha⟩ : ∃ a, xs[i]? = some a := ⟨_, List.getElem?_eq_getElem (by rw [HX.out.1]; exact hpi)⟩
      have hab := HX.out.2 a (List.mem_of_getElem? ha)
      have hrow := ho.row HX.out.1 hpi ha
      have HR := Lib.hid (And.intro hrow (And.intro hnx (And.intro hny (And.intro hnz hbw))))
      have HA := Lib.hid ha
      have e1 : IntKind.i64.wrap ((i : Int) + 1) = (i : Int) + 1 := IntWalk.i64_in _ (by omega)
      have hbi : decide ((i : Int) < 16) = true := by simp; omega
      clear ho hnx hny hnz hbw hrow ha
      go_wp2_with fail
      try rw [hbi]
      go_loopw [7] (fun j wi => ∃ k : Nat, k ≤ 16 ∧ j = .int .i64 (k : Int) ∧ MulI xs ys (w.heap.size + 1 + 1 + 1) i k a wi ∧ NBlk wi w.heap.size xs ∧ NBlk wi (w.heap.size + 1) ys ∧ NBlk wi (w.heap.size + 1 + 1) Z16 ∧ Below w.heap.size w wi) (fun j _ => 16 - (intOf j).toNat)
      case atStart => exact ⟨0, by omega, rfl, HR.out⟩
      case round =>
        obtain ⟨k, hk16, rfl, hin, hnx, hny, hnz, hbw⟩ := hrel
        by_cases hpk : k < 16
        · obtain ⟨b, hb⟩ : ∃ b, ys[k]? = some b := ⟨_, List.getElem?_eq_getElem (by rw [HY.out.1]; exact hpk)⟩
          have hbb := HY.out.2 b (List.mem_of_getElem? hb)
          have hpr := mul_bnd hab hbb
          obtain ⟨t, ht, htl, htb, hte⟩ := hin
          obtain ⟨x, hx⟩ : ∃ x, t[i + k]? = some x := ⟨_, List.getElem?_eq_getElem (by omega)⟩
          have hxb : -1099511627776 ≤ x ∧ x ≤ 1099511627776 := by
            have := htb (i + k) x hx
            rw [if_neg (by omega)] at this
            omega
          have g1 := hnx.cell HA.out
          have g2 := hny.cell hb
          have g3 := ht.cell hx
          have g4 := ht.frozen (i + k)
          have hst := MulI.step ht htl htb hte hpi hpk HY.out.1 hb hpr hx
          have m1 := hnx.other (k := i + k) (x := .int .i64 (x + a * b)) (show w.heap.size + 1 + 1 + 1 ≠ w.heap.size by omega)
          have m2 := hny.other (k := i + k) (x := .int .i64 (x + a * b)) (show w.heap.size + 1 + 1 + 1 ≠ w.heap.size + 1 by omega)
          have m3 := hnz.other (k := i + k) (x := .int .i64 (x + a * b)) (show w.heap.size + 1 + 1 + 1 ≠ w.heap.size + 1 + 1 by omega)
          have m4 := hbw.setCell (p := ⟨w.heap.size + 1 + 1 + 1, i + k, none⟩) (show w.heap.size ≤ w.heap.size + 1 + 1 + 1 by omega) (.int .i64 (x + a * b))
          have HN := Lib.hid (And.intro hst (And.intro m1 (And.intro m2 (And.intro m3 m4))))
          obtain ⟨y, hy⟩ : ∃ y, a * b = y := ⟨_, rfl⟩
          rw [hy] at hpr HN
          have e2 : IntKind.i64.wrap ((k : Int) + 1) = (k : Int) + 1 := IntWalk.i64_in _ (by omega)
          have e3 : IntKind.i64.wrap ((i : Int) + (k : Int)) = (i : Int) + (k : Int) := IntWalk.i64_in _ (by omega)
          have e4 : ((i : Int) + (k : Int)).toNat = i + k := by omega
          have e5 : (0 : Int) ≤ (i : Int) + (k : Int) ∧ (i : Int) + (k : Int) < 31 := by omega
          have e6 : IntKind.i64.wrap (a * b) = y := by rw [hy]; exact IntWalk.i64_in _ (by omega)
          have e7 : IntKind.i64.wrap (x + y) = x + y := IntWalk.i64_in _ (by omega)
          have hbk : decide ((k : Int) < 16) = true := by simp; omega
          clear hy hst m1 m2 m3 m4 ht htl htb hte hnx hny hnz hbw hb hx
          go_wp2_with fail
          try rw [hbk]
          go_region
          all_goals go_wp2_with fail
          all_goals exact ⟨⟨k + 1, by omega, by go_num, HN.out.1, HN.out.2.1, HN.out.2.2.1, HN.out.2.2.2.1, HN.out.2.2.2.2.drew⟩, by simp [intOf]; omega⟩
        · obtain rfl : k = 16 := by omega
          have hdn := hin.done HY.out.1
          have HN := Lib.hid (And.intro hdn (And.intro hnx (And.intro hny (And.intro hnz hbw))))
          clear hin hdn hnx hny hnz hbw
          go_wp2_with fail
          exact ⟨⟨i + 1, by omega, by go_num, HN.out⟩, by simp [intOf]; omega⟩
    · obtain rfl : i = 16 := by omega
      obtain ⟨t, ht, htl, htb, hte⟩ := ho
      rw [List.drop_of_length_le (by rw [HX.out.1]; omega), prodF] at hte
      have HT := Lib.hid (And.intro ht (And.intro htl (And.intro htb (And.intro hnz hbw))))
      have HE := Lib.hid hte
      clear ht htl htb hte hnx hny hnz hbw
      go_wp2_with fail
      have hzp : NBlk (wr.alloc (.cells #[.int .i64 0, .int .i64 0, .int .i64 0, .int .i64 0, .int .i64 0, .int .i64 0, .int .i64 0, .int .i64 0, .int .i64 0, .int .i64 0, .int .i64 0, .int .i64 0, .int .i64 0, .int .i64 0, .int .i64 0, .int .i64 0] 33)) wr.heap.size (foldD t 0) := heap_alloc_new wr _
      have ht1 := HT.out.1.alloc (.cells #[.int .i64 0, .int .i64 0, .int .i64 0, .int .i64 0, .int .i64 0, .int .i64 0, .int .i64 0, .int .i64 0, .int .i64 0, .int .i64 0, .int .i64 0, .int .i64 0, .int .i64 0, .int .i64 0, .int .i64 0, .int .i64 0] 33)
      have hz1 := HT.out.2.2.2.1.alloc (.cells #[.int .i64 0, .int .i64 0, .int .i64 0, .int .i64 0, .int .i64 0, .int .i64 0, .int .i64 0, .int .i64 0, .int .i64 0, .int .i64 0, .int .i64 0, .int .i64 0, .int .i64 0, .int .i64 0, .int .i64 0, .int .i64 0] 33)
      have hb1 := HT.out.2.2.2.2.alloc HT.out.2.2.2.2.size (.cells #[.int .i64 0, .int .i64 0, .int .i64 0, .int .i64 0, .int .i64 0, .int .i64 0, .int .i64 0, .int .i64 0, .int .i64 0, .int .i64 0, .int .i64 0, .int .i64 0, .int .i64 0, .int .i64 0, .int .i64 0, .int .i64 0] 33)
      have hgp : w.heap.size + 1 + 1 + 1 < wr.heap.size := (Array.getElem?_eq_some_iff.1 HT.out.1).1
      have HL := Lib.hid (And.intro HT.out.2.1 HT.out.2.2.1)
      obtain ⟨gp, hg⟩ : ∃ gp, wr.heap.size = gp := ⟨_, rfl⟩
      rw [hg] at hzp hgp
      have HS := Lib.hid (And.intro hzp (And.intro ht1 (And.intro hz1 hb1)))
      clear hzp ht1 hz1 hb1 HT
      rw [hg]
      clear hg
      go_loopw [9] (fun i wi => ∃ k : Nat, k ≤ 16 ∧ i = .int .i64 (k : Int) ∧ NBlk wi gp (foldD t k) ∧ TBlk wi (w.heap.size + 1 + 1 + 1) t ∧ NBlk wi (w.heap.size + 1 + 1) Z16 ∧ Below w.heap.size w wi) (fun i _ => 16 - (intOf i).toNat)
      case atStart => exact ⟨0, by omega, rfl, HS.out⟩
      case round =>
        obtain ⟨k, hk16, rfl, hn, ht, hz, hbw⟩ := hrel
        by_cases hpk : k < 16
        · obtain ⟨x, hx⟩ : ∃ x, t[k]? = some x := ⟨_, List.getElem?_eq_getElem (by rw [HL.out.1]; omega)⟩
          have hxb := HL.out.2 x (List.mem_of_getElem? hx)
          have hfl : k < (foldD t k).length := by rw [foldD_len]; exact hpk
          have g1 := hn.cell (List.getElem?_eq_getElem hfl)
          have g2 := hn.frozen k
          have g3 := ht.cell hx
          have hbk : decide ((k : Int) < 16) = true := by simp; omega
          have e1 : IntKind.i64.wrap ((k : Int) + 1) = (k : Int) + 1 := IntWalk.i64_in _ (by omega)
          have hgx : t.getD k 0 = x := by rw [List.getD_eq_getElem?_getD, hx]; rfl
          generalize (foldD t k)[k] = v0 at g1
          by_cases hp15 : k < 15
          · obtain ⟨y, hy⟩ : ∃ y, t[k + 16]? = some y := ⟨_, List.getElem?_eq_getElem (by rw [HL.out.1]; omega)⟩
            have hyb := HL.out.2 y (List.mem_of_getElem? hy)
            have hgy : t.getD (k + 16) 0 = y := by rw [List.getD_eq_getElem?_getD, hy]; rfl
            have g5 := (ht.other (k := k) (x := .int .i64 x) (show gp ≠ w.heap.size + 1 + 1 + 1 by omega)).cell hy
            have n2 := (hn.set_ k x).set_ k (x + 38 * y)
            have hfs := foldD_set t k hpk
            rw [if_pos hp15, hgx, hgy] at hfs
            rw [List.set_set, hfs] at n2
            have t2 := (ht.other (k := k) (x := .int .i64 x) (show gp ≠ w.heap.size + 1 + 1 + 1 by omega)).other (k := k) (x := .int .i64 (x + 38 * y)) (show gp ≠ w.heap.size + 1 + 1 + 1 by omega)
            have z2 := (hz.other (k := k) (x := .int .i64 x) (show gp ≠ w.heap.size + 1 + 1 by omega)).other (k := k) (x := .int .i64 (x + 38 * y)) (show gp ≠ w.heap.size + 1 + 1 by omega)
            have b2 := (hbw.setCell (p := ⟨gp, k, none⟩) (show w.heap.size ≤ gp by omega) (.int .i64 x)).setCell (p := ⟨gp, k, none⟩) (show w.heap.size ≤ gp by omega) (.int .i64 (x + 38 * y))
            have b1 := hbw.setCell (p := ⟨gp, k, none⟩) (show w.heap.size ≤ gp by omega) (.int .i64 x)
            have HN := Lib.hid (And.intro n2 (And.intro t2 (And.intro z2 (And.intro b2 b1))))
            have e2 : IntKind.i64.wrap ((k : Int) + 16) = (k : Int) + 16 := IntWalk.i64_in _ (by omega)
            have e3 : ((k : Int) + 16).toNat = k + 16 := by omega
            have e4 : (0 : Int) ≤ (k : Int) + 16 ∧ (k : Int) + 16 < 31 := by omega
            have e5 : IntKind.i64.wrap (38 * y) = 38 * y := IntWalk.i64_in _ (by omega)
            have e6 : IntKind.i64.wrap (x + 38 * y) = x + 38 * y := IntWalk.i64_in _ (by omega)
            have hb15 : decide ((k : Int) < 15) = true := by simp; omega
            clear hn ht hz hbw n2 t2 z2 b2 b1 hfs hgx hgy hx hy hfl
            go_wp2_with fail
            try rw [hbk]
            try rw [hb15]
            go_region
            all_goals go_wp2_with fail
            all_goals exact ⟨⟨k + 1, by omega, by go_num, HN.out.1, HN.out.2.1, HN.out.2.2.1, HN.out.2.2.2.1.drew⟩, by simp [intOf]; omega⟩
          · obtain rfl : k = 15 := by omega
            have n2 := hn.set_ 15 x
            have hfs := foldD_set t 15 hpk
            rw [if_neg hp15, hgx] at hfs
            rw [hfs] at n2
            have t2 := ht.other (k := 15) (x := .int .i64 x) (show gp ≠ w.heap.size + 1 + 1 + 1 by omega)
            have z2 := hz.other (k := 15) (x := .int .i64 x) (show gp ≠ w.heap.size + 1 + 1 by omega)
            have b2 := hbw.setCell (p := ⟨gp, 15, none⟩) (show w.heap.size ≤ gp by omega) (.int .i64 x)
            have HN := Lib.hid (And.intro n2 (And.intro t2 (And.intro z2 b2)))
            clear hn ht hz hbw n2 t2 z2 b2 hfs hgx hx hfl
            go_wp2_with fail
            exact ⟨⟨16, by omega, by go_num, HN.out⟩, by simp [intOf]⟩
        · obtain rfl : k = 16 := by omega
          have hcl : (foldD t 16).length = 16 := foldD_len _ _
          have hfb : ∀ x ∈ foldD t 16, -140737488355328 ≤ x ∧ x ≤ 140737488355328 := by
            intro x hx
            simp only [foldD, List.mem_map] at hx
            obtain ⟨j, hj, rfl⟩ := hx
            have hj := List.mem_range.1 hj
            have h1 := HL.out.2 (t.getD j 0) (by rw [List.getD_eq_getElem?_getD, List.getElem?_eq_getElem (by rw [HL.out.1]; omega)]; exact List.getElem_mem _)
            rw [if_pos hj]
            by_cases h15 : j < 15
            · have h2 := HL.out.2 (t.getD (j + 16) 0) (by rw [List.getD_eq_getElem?_getD, List.getElem?_eq_getElem (by rw [HL.out.1]; omega)]; exact List.getElem_mem _)
              rw [if_pos h15]; omega
            · rw [if_neg h15]; omega
          obtain ⟨e1, es1, he1, he2, he3, he4⟩ := carryF_big _ hcl hfb
          have c2b : ∀ x ∈ carryF (foldD t 16), -140737488355328 ≤ x ∧ x ≤ 140737488355328 := by
            rw [he1]
            intro x hx
            rcases List.mem_cons.1 hx with rfl | hx
            · omega
            · have := he3 x hx; omega
          obtain ⟨fs, hfs⟩ : ∃ fs, i64s (foldD t 16) = fs := ⟨_, rfl⟩
          have hcar : ∀ W, Calls Try.prog 37 #[.agg fs.toArray] W fun e w' => e = .returned (A16 (carryF (foldD t 16))) ∧ Below W.heap.size W w' := by
            rw [← hfs]
            exact fun W => carry_calls _ hcl hfb W
          have hcl1 : (carryF (foldD t 16)).length = 16 := by rw [carryF_len]; exact hcl
          have hcar2 := fun W => carry_calls _ hcl1 c2b W
          have hr := hn.rng
          have hs1 := size16' _ hcl
          rw [hfs] at hr hs1
          obtain ⟨ds, hds⟩ : ∃ ds, carryF (carryF (foldD t 16)) = ds := ⟨_, rfl⟩
          have hdl : ds.length = 16 := by rw [← hds, carryF_len]; exact hcl1
          rw [hds] at hcar2
          have hok : NumOk (carryF (carryF (foldD t 16))) := by rw [he1]; exact carryF_small e1 es1 he2 he3 he4
          have HDS := Lib.hid (And.intro hds hok)
          have HF := Lib.hid (And.intro hr (And.intro hs1 (And.intro hz (And.intro hbw hdl))))
          have HC := Lib.hid (And.intro hcar hcar2)
          clear hn ht hz hbw hr hs1 hcar hcar2 hfb c2b he1 he2 he3 he4 hdl hds hok hcl hcl1 hfs
          go_wp2_with (refine wpList_load_mid rfl 33 _ rfl gp 0 rfl fs _ HF.out.1 Try.underlying33 rfl HF.out.2.1 ?_)
          refine (HC.out.1 _).mono ?_
          rintro e w1 ⟨rfl, b1⟩
          go_wp2_with fail
          refine (HC.out.2 _).mono ?_
          rintro e w2 ⟨rfl, b2⟩
          have b12 := b1.then_ b2
          have hz1 := HF.out.2.2.1.later b12
          have hbf := below_cells (show w.heap.size ≤ w.heap.size + 1 + 1 by omega) (i64s ds) 0 _ (HF.out.2.2.2.1.then_ b12)
          have HT2 := Lib.hid (hz1.there (n := (i64s ds).toArray.size) (by simp [i64s, HF.out.2.2.2.2, Z16]))
          have HS2 := Lib.hid (size16a _ HF.out.2.2.2.2)
          have HO2 := Lib.hid (one16 ds)
          have HLD := Lib.hid (ld16 (hz1.setAll (ms := ds) (by rw [HF.out.2.2.2.2]; rfl)) HF.out.2.2.2.2)
          have HBF := Lib.hid hbf
          clear hz1 hbf b1 b2 b12
          go_wp2_with (refine wpList_store_mid rfl 33 _ _ rfl (w.heap.size + 1 + 1) 0 (i64s ds).toArray rfl rfl HT2.out HS2.out HO2.out ?_)
          exact bodyPost_ret (v := .agg (i64s ds).toArray) (results_cell rfl _ _ _ _ rfl HLD.out) rfl ⟨by rw [← HE.out, HDS.out.1], by rw [← HE.out]; exact HDS.out.2, HBF.out⟩
theorem refMul_num (u v : Value) (r s : Nat) (hu : IsNum u r) (hv : IsNum v s) (w : World) : Calls Try.prog 27 #[u, v] w (NPost (r * s) w) := by
  obtain ⟨xs, rfl, hx, hxv⟩ := hu
  obtain ⟨ys, rfl, hy, hyv⟩ := hv
  refine (refMul_calls xs ys hx hy w).mono ?_
  rintro e w' ⟨rfl, hok, hb⟩
  refine ⟨_, rfl, ⟨_, rfl, hok, ?_⟩, hb⟩
  have hl : (prodF Z31 ys xs 0).length = 31 := by rw [prodF_len]; rfl
  have hz : valD Z31 = 0 := by decide +kernel
  have hpv := prodF_val xs Z31 ys 0 (by rw [hx.1, hy.1]; decide)
  rw [hz, Int.zero_add, Int.pow_zero, Int.one_mul] at hpv
  rw [carryF_mod _ (by rw [carryF_len, foldD_len]), carryF_mod _ (foldD_len _ _), foldD_val _ hl, hpv, Int.mul_emod, hxv, hyv, modN, modN, modN, ← Int.mul_emod, Int.natCast_mul]
end Go.Proofs.Ytpdoegfmngibgaa
