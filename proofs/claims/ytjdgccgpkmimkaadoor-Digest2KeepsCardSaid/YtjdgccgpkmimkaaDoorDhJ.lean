/- Layer 3: the document's numbers of the rounds; a block's words. -/
import Derived.Test.YtjdgccgpkmimkaaDoorDhD
import Derived.Test.YtjdgccgpkmimkaaDoorOwn
import Derived.Test.YtjdgccgpkmimkaaDoorLh
namespace Go.Proofs.YtjdgccgpkmimkaaDoor
open Go.ChangeShapes Go.WideShapes Go.ChangeAt Go.RowKit Go.IntWalk
set_option linter.unusedVariables false

theorem infoU : (Tryd.prog.info? 36).map (fun i => (i.zero, i.size, i.bytes)) = some (some (.int .u64 0), 1, 8) := by kernel_rfl
theorem oneUs (ds : List Int) : ∀ u ∈ us ds, u.oneCell' = true := by
  intro v hv
  obtain ⟨y, _, rfl⟩ := List.mem_map.1 hv
  rfl
set_option maxRecDepth 100000 in
set_option maxHeartbeats 4000000 in
theorem numbers_calls (w : World) :
    Calls Tryd.prog 14 #[] w fun e w' => e = .returned (.slice (some ⟨w.heap.size, 0, none⟩) 80 80) ∧ RV w' (some ⟨w.heap.size, 0, none⟩) (us KS) ∧ Below w.heap.size w w' := by
  have h1 : RV (w.alloc (.cells (us KS).toArray 36)) (some ⟨w.heap.size, 0, none⟩) (us KS) := RV.of_blk (Blk.new w (us KS) _)
  have H1 := Lib.hid h1
  clear h1
  go_enter Tryd.func14, Tryd.ntmps14
  go_wp2_with fail
  go_ret
  exact ⟨rfl, H1.out, (Below.refl _ _).alloc (Nat.le_refl _) _⟩
theorem w16_at (bs : List UInt8) (k : Nat) (hk : k < 16) : (w16 bs).take (k + 1) = (w16 bs).take k ++ [((beN ((bs.drop (8 * k)).take 8) : Nat) : Int)] := by
  rw [List.take_succ_eq_append_getElem (by rw [w16_len]; exact hk)]
  simp [w16]
theorem seg_step (bs : List UInt8) (k j i : Nat) (c : UInt8) (hi : 8 * k + j = i) (hc : bs[i]? = some c) : (bs.drop (8 * k)).take (j + 1) = (bs.drop (8 * k)).take j ++ [c] := by
  rw [List.take_add_one, List.getElem?_drop, hi, hc]; rfl
def NxS (ds : List Int) (w : World) (v : Value) (wr : World) : Prop := OwnVs w.heap.size 36 wr v (us ds) ∧ Below w.heap.size w wr
theorem NxS.step {ds : List Int} {w wr w2 : World} {v v2 : Value} {x : Int} (h : NxS ds w v wr) (h2 : OwnVs w.heap.size 36 w2 v2 (us ds ++ [.int .u64 x])) (g : wr.grownBy w2 v.ownBlock) : NxS (ds ++ [x]) w v2 w2 :=
  ⟨by rw [show us (ds ++ [x]) = us ds ++ [.int .u64 x] by simp [us]]; exact h2, h.2.grown g h.2.size (fun k hk => (h.1.lt k hk).1)⟩
def NxK (s : S8) (bs : List UInt8) (w : World) (A7 As Ak : Option Addr) (wr : World) : Prop := RV wr A7 (us (wN bs 64)) ∧ RV wr As (us s.list) ∧ RV wr Ak (us KS) ∧ Below w.heap.size w wr
theorem NxK.drewN {s : S8} {bs : List UInt8} {w wr : World} {A7 As Ak : Option Addr} (h : NxK s bs w A7 As Ak wr) (n : Nat) : NxK s bs w A7 As Ak (wr.drewN n) := ⟨h.1, h.2.1, h.2.2.1, h.2.2.2.drewN n⟩
def RelX (s : S8) (bs : List UInt8) (w : World) (A7 As Ak : Option Addr) (v6 v7 v8 v9 v10 v11 v12 v13 i : Value) (wr : World) : Prop :=
  ∃ (k : Nat) (t : S8), k ≤ 80 ∧ i = .int .i64 (k : Int) ∧ Hid (t = rnds KS (wN bs 64) s k) ∧ v6 = .int .u64 t.a ∧ v7 = .int .u64 t.b ∧ v8 = .int .u64 t.c ∧ v9 = .int .u64 t.d ∧ v10 = .int .u64 t.e ∧ v11 = .int .u64 t.f ∧ v12 = .int .u64 t.g ∧ v13 = .int .u64 t.h ∧ NxK s bs w A7 As Ak wr
theorem ref3 (i j k : Nat) (hi : 1 ≤ i ∧ i ≤ 63) (hj : 1 ≤ j ∧ j ≤ 63) (hk : 1 ≤ k ∧ k ≤ 63) (x : Int) (hx : InU x) (w : World) :
    Calls Tryd.prog 19 #[.int .u64 x, .int .u64 (i : Int), .int .u64 (j : Int), .int .u64 (k : Int)] w fun e w' => e = .returned (.int .u64 (three x i j k)) ∧ w = w' := three_calls x i j k hx hi hj hk w
theorem refE (x : Int) (hx : InU x) (w : World) : Calls Tryd.prog 19 #[.int .u64 x, .int .u64 14, .int .u64 18, .int .u64 41] w fun e w' => e = .returned (.int .u64 (three x 14 18 41)) ∧ w = w' := ref3 14 18 41 (by decide) (by decide) (by decide) x hx w
theorem refA (x : Int) (hx : InU x) (w : World) : Calls Tryd.prog 19 #[.int .u64 x, .int .u64 28, .int .u64 34, .int .u64 39] w fun e w' => e = .returned (.int .u64 (three x 28 34 39)) ∧ w = w' := ref3 28 34 39 (by decide) (by decide) (by decide) x hx w
theorem rtn (k : Nat) (h1 : 1 ≤ k) (h2 : k ≤ 63) (x : Int) (hx : InU x) (w : World) : Calls Tryd.prog 18 #[.int .u64 x, .int .u64 (k : Int)] w fun e w' => e = .returned (.int .u64 (rotr x k)) ∧ w = w' := turn_any x k hx h1 h2 w
theorem rV1 (x : Int) (hx : InU x) (w : World) : Calls Tryd.prog 18 #[.int .u64 x, .int .u64 1] w fun e w' => e = .returned (.int .u64 (rotr x 1)) ∧ w = w' := rtn 1 (by decide) (by decide) x hx w
theorem rV2 (x : Int) (hx : InU x) (w : World) : Calls Tryd.prog 18 #[.int .u64 x, .int .u64 8] w fun e w' => e = .returned (.int .u64 (rotr x 8)) ∧ w = w' := rtn 8 (by decide) (by decide) x hx w
theorem rW1 (x : Int) (hx : InU x) (w : World) : Calls Tryd.prog 18 #[.int .u64 x, .int .u64 19] w fun e w' => e = .returned (.int .u64 (rotr x 19)) ∧ w = w' := rtn 19 (by decide) (by decide) x hx w
theorem rW2 (x : Int) (hx : InU x) (w : World) : Calls Tryd.prog 18 #[.int .u64 x, .int .u64 61] w fun e w' => e = .returned (.int .u64 (rotr x 61)) ∧ w = w' := rtn 61 (by decide) (by decide) x hx w
end Go.Proofs.YtjdgccgpkmimkaaDoor
