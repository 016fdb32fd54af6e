/- Layer 4: the document's number of bytes. -/
import Derived.Test.YtpdoegfmngibgaaRfB
import Derived.Test.YtpdoegfmngibgaaStr
import Derived.StillTailTactics
namespace Go.Proofs.Ytpdoegfmngibgaa
open Go.ChangeShapes Go.WideShapes Go.ChangeAt Go.RowKit Go.IntWalk
set_option linter.unusedVariables false

def digAt (l : List UInt8) (i : Nat) : Int := ((l.getD (2 * i) 0).toNat : Int) + 256 * ((l.getD (2 * i + 1) 0).toNat : Int)
def digD (l : List UInt8) (k : Nat) : List Int := (List.range 16).map fun i => if i < k then digAt l i else 0
theorem digD_set (l : List UInt8) (k : Nat) (h : k < 16) : (digD l k).set k (digAt l k) = digD l (k + 1) := by
  unfold digD
  apply List.ext_getElem?
  intro i
  rw [List.getElem?_set]
  by_cases e : k = i
  · subst e; simp [h]
  · rw [if_neg e]
    simp only [List.getElem?_map]
    cases hr : (List.range 16)[i]? with
    | none => rfl
    | some j =>
      have hj : j = i := by rw [List.getElem?_range (by have := (List.getElem?_eq_some_iff.1 hr).1; simpa using this)] at hr; exact (Option.some.inj hr).symm
      subst hj
      simp only [Option.map_some]
      by_cases h1 : j < k
      · rw [if_pos h1, if_pos (by omega)]
      · rw [if_neg h1, if_neg (by omega)]
theorem digD_len (l : List UInt8) (k : Nat) : (digD l k).length = 16 := by simp [digD]
theorem digD_rng (l : List UInt8) (k : Nat) : ∀ x ∈ digD l k, 0 ≤ x ∧ x < 65536 := by
  intro x hx
  simp only [digD, List.mem_map] at hx
  obtain ⟨i, _, rfl⟩ := hx
  have h1 := (l.getD (2 * i) 0).toNat_lt
  have h2 := (l.getD (2 * i + 1) 0).toNat_lt
  unfold digAt
  split <;> omega
theorem dig_val : ∀ (n : Nat) (l : List UInt8), l.length = 2 * n → valD ((List.range n).map (digAt l)) = leN l
  | 0, l, h => by
    have : l = [] := List.eq_nil_of_length_eq_zero (by omega)
    subst this; rfl
  | n + 1, a :: b :: t, h => by
    have ih := dig_val n t (by simp at h; omega)
    rw [List.range_succ_eq_map, List.map_cons, List.map_map]
    have e : (digAt (a :: b :: t) ∘ Nat.succ) = digAt t := by
      funext i
      simp only [Function.comp, digAt]
      rw [show 2 * i.succ = 2 * i + 1 + 1 by omega, show 2 * i + 1 + 1 + 1 = (2 * i + 1) + 1 + 1 by omega]
      simp only [List.getD_cons_succ]
    rw [e]
    have e0 : digAt (a :: b :: t) 0 = (a.toNat : Int) + 256 * (b.toNat : Int) := rfl
    simp only [valD, leN, e0, ih]
    omega
  | n + 1, [], h => by simp at h
  | n + 1, [a], h => by simp at h; omega
theorem digD_val (l : List UInt8) (h : l.length = 32) : valD (digD l 16) = leN l := by
  rw [← dig_val 16 l h]
  unfold digD
  congr 1
set_option maxRecDepth 100000 in
set_option maxHeartbeats 4000000 in
theorem refOf_calls (l : List UInt8) (hl : l.length = 32) (w : World) :
    Calls Try.prog 36 #[.string ⟨l.toArray⟩] w fun e w' => e = .returned (A16 (digD l 16)) ∧ Below w.heap.size w w' := by
  go_enter Try.func36, Try.ntmps36
  have hz0 : NBlk ((w.alloc (.cells (i64s Z16).toArray 33)).alloc (.cells (i64s Z16).toArray 33)) w.heap.size Z16 := (NBlk.new _).alloc _
  have hn0 : NBlk ((w.alloc (.cells (i64s Z16).toArray 33)).alloc (.cells (i64s Z16).toArray 33)) (w.heap.size + 1) (digD l 0) := by
    have := NBlk.new (w := w.alloc (.cells (i64s Z16).toArray 33)) Z16
    rw [show (w.alloc (.cells (i64s Z16).toArray 33)).heap.size = w.heap.size + 1 by simp] at this
    exact this
  have H0 := Lib.hid (And.intro hz0 hn0)
  have HL := Lib.hid hl
  have hbs : (⟨l.toArray⟩ : ByteArray).size = l.length := rfl
  clear hz0 hn0
  go_wp2_with fail
  go_loopw [4] (fun i wr => ∃ k : Nat, k ≤ 16 ∧ i = .int .i64 (k : Int) ∧ NBlk wr w.heap.size Z16 ∧ NBlk wr (w.heap.size + 1) (digD l k) ∧ Below w.heap.size w wr) (fun i _ => 16 - (intOf i).toNat)
  case atStart => exact ⟨0, by omega, rfl, H0.out.1, H0.out.2, ((Below.refl _ _).alloc (Nat.le_refl _) _).alloc (by simp) _⟩
  case round =>
    obtain ⟨k, hk, rfl, hz, hn, hbw⟩ := hrel
    by_cases hp : k < 16
    · have hlt : k < (digD l k).length := by rw [digD_len]; exact hp
      have g1 := hn.cell (List.getElem?_eq_getElem hlt)
      have g2 := hn.frozen k
      have i1 : 2 * k < l.length := by omega
      have i2 : 2 * k + 1 < l.length := by omega
      have n1 : digAt l k = (l[2 * k].toNat : Int) + 256 * (l[2 * k + 1].toNat : Int) := by simp [digAt, List.getD_eq_getElem?_getD, i1, i2]
      have hn2 := hn.set_ k (digAt l k)
      rw [digD_set l k hp, n1] at hn2
      have HN := Lib.hid (And.intro (hz.other (k := k) (x := .int .i64 ((l[2 * k].toNat : Int) + 256 * (l[2 * k + 1].toNat : Int))) (show w.heap.size + 1 ≠ w.heap.size by omega)) (And.intro hn2 (hbw.setCell (show w.heap.size ≤ w.heap.size + 1 by omega) (p := ⟨w.heap.size + 1, k, none⟩) (.int .i64 ((l[2 * k].toNat : Int) + 256 * (l[2 * k + 1].toNat : Int))))))
      have b1 := l[2 * k].toNat_lt
      have b2 := l[2 * k + 1].toNat_lt
      have e1 : IntKind.i64.wrap ((k : Int) + 1) = (k : Int) + 1 := IntWalk.i64_in _ (by omega)
      have e2 : IntKind.i64.wrap (2 * (k : Int)) = 2 * (k : Int) := IntWalk.i64_in _ (by omega)
      have e3 : IntKind.i64.wrap (2 * (k : Int) + 1) = 2 * (k : Int) + 1 := IntWalk.i64_in _ (by omega)
      have e4 : (2 * (k : Int)).toNat = 2 * k := by omega
      have e5 : (2 * (k : Int) + 1).toNat = 2 * k + 1 := by omega
      have e6 : (0 : Int) ≤ 2 * (k : Int) ∧ 2 * (k : Int) < (l.length : Int) := by omega
      have e7 : (0 : Int) ≤ 2 * (k : Int) + 1 ∧ 2 * (k : Int) + 1 < (l.length : Int) := by omega
      have e8 : IntKind.i64.wrap (256 * (l[2 * k + 1].toNat : Int)) = 256 * (l[2 * k + 1].toNat : Int) := IntWalk.i64_in _ (by omega)
      have e9 : IntKind.i64.wrap ((l[2 * k].toNat : Int) + 256 * (l[2 * k + 1].toNat : Int)) = (l[2 * k].toNat : Int) + 256 * (l[2 * k + 1].toNat : Int) := IntWalk.i64_in _ (by omega)
      clear hz hn hbw hn2 n1 hl
      have hbk : decide ((k : Int) < 16) = true := by simp; omega
      go_wp2_with fail
      try rw [hbk]
      go_region
      all_goals go_wp2_with fail
      all_goals exact ⟨⟨k + 1, by omega, by go_num, HN.out.1, HN.out.2.1, HN.out.2.2.drew⟩, by simp [intOf]; omega⟩
    · skip
      obtain rfl : k = 16 := by omega
      have hcl : (digD l 16).length = 16 := digD_len _ _
      obtain ⟨fs, hfs⟩ : ∃ fs, i64s (digD l 16) = fs := ⟨_, rfl⟩
      have hr := hn.rng
      have ht : wr.there w.heap.size 0 fs.toArray.size := hz.there (by rw [← hfs]; simp [i64s, hcl, Z16])
      have hs1 := size16' _ hcl
      have hs2 := size16a _ hcl
      have ho := one16 (digD l 16)
      have hf := hz.setAll (ms := digD l 16) (by rw [hcl]; rfl)
      have hld := ld16 hf hcl
      have hbf : Below w.heap.size w (wr.setCells w.heap.size 0 (i64s (digD l 16))) := below_cells (by omega) _ _ _ hbw
      rw [hfs] at hr hs1 hs2 ho hld hbf
      have HF := Lib.hid (And.intro hr (And.intro ht (And.intro hs1 (And.intro hs2 (And.intro ho (And.intro hld (And.intro hbf hfs)))))))
      clear hn hz hbw hr ht hs1 hs2 ho hf hld hbf hfs hcl
      go_wp2_with (first
        | (refine wpList_load_mid rfl 33 _ rfl (w.heap.size + 1) 0 rfl fs _ HF.out.1 Try.underlying33 rfl HF.out.2.2.1 ?_)
        | (refine wpList_store_mid rfl 33 _ _ rfl w.heap.size 0 fs.toArray rfl rfl HF.out.2.1 HF.out.2.2.2.1 HF.out.2.2.2.2.1 ?_))
      refine bodyPost_ret (v := .agg fs.toArray) (results_cell rfl _ _ _ _ rfl HF.out.2.2.2.2.2.1) rfl ⟨?_, HF.out.2.2.2.2.2.2.1⟩
      rw [← HF.out.2.2.2.2.2.2.2]; rfl
end Go.Proofs.Ytpdoegfmngibgaa
