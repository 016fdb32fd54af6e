/- Layer 2: the document's numbers of the rounds; a block's words. -/
import Derived.Test.YtjhclmlefmomfaaDoorDgD
import Derived.Test.YtjhclmlefmomfaaDoorOwn
import Derived.Test.YtjhclmlefmomfaaDoorLh
namespace Go.Proofs.YtjhclmlefmomfaaDoor
open Go.ChangeShapes Go.WideShapes Go.ChangeAt Go.RowKit Go.IntWalk
set_option linter.unusedVariables false

theorem infoU : (Tryd.prog.info? 36).map (fun i => (i.zero, i.size, i.bytes)) = some (some (.int .u32 0), 1, 4) := by kernel_rfl
theorem oneUs (ds : List Int) : ∀ u ∈ us ds, u.oneCell' = true := by
  intro v hv
  obtain ⟨y, _, rfl⟩ := List.mem_map.1 hv
  rfl
set_option maxRecDepth 100000 in
set_option maxHeartbeats 4000000 in
theorem numbers_calls (w : World) :
    Calls Tryd.prog 14 #[] w fun e w' => e = .returned (.slice (some ⟨w.heap.size, 0, none⟩) 64 64) ∧ RV w' (some ⟨w.heap.size, 0, none⟩) (us KS) ∧ Below w.heap.size w w' := by
  have h1 : RV (w.alloc (.cells (us KS).toArray 36)) (some ⟨w.heap.size, 0, none⟩) (us KS) := RV.of_blk (Blk.new w (us KS) _)
  have H1 := Lib.hid h1
  clear h1
  go_enter Tryd.func14, Tryd.ntmps14
  go_wp2_with fail
  go_ret
  exact ⟨rfl, H1.out, (Below.refl _ _).alloc (Nat.le_refl _) _⟩
theorem w16_at (bs : List UInt8) (k : Nat) (hk : k < 16) : (w16 bs).take (k + 1) = (w16 bs).take k ++ [((beN ((bs.drop (4 * k)).take 4) : Nat) : Int)] := by
  rw [List.take_succ_eq_append_getElem (by rw [w16_len]; exact hk)]
  simp [w16]
theorem seg_step (bs : List UInt8) (k j i : Nat) (c : UInt8) (hi : 4 * k + j = i) (hc : bs[i]? = some c) : (bs.drop (4 * k)).take (j + 1) = (bs.drop (4 * k)).take j ++ [c] := by
  rw [List.take_add_one, List.getElem?_drop, hi, hc]; rfl
def NxS (ds : List Int) (w : World) (v : Value) (wr : World) : Prop := OwnVs w.heap.size 36 wr v (us ds) ∧ Below w.heap.size w wr
theorem NxS.step {ds : List Int} {w wr w2 : World} {v v2 : Value} {x : Int} (h : NxS ds w v wr) (h2 : OwnVs w.heap.size 36 w2 v2 (us ds ++ [.int .u32 x])) (g : wr.grownBy w2 v.ownBlock) : NxS (ds ++ [x]) w v2 w2 :=
  ⟨by rw [show us (ds ++ [x]) = us ds ++ [.int .u32 x] by simp [us]]; exact h2, h.2.grown g h.2.size (fun k hk => (h.1.lt k hk).1)⟩
def NxK (s : S8) (bs : List UInt8) (w : World) (A7 As Ak : Option Addr) (wr : World) : Prop := RV wr A7 (us (wN bs 48)) ∧ RV wr As (us s.list) ∧ RV wr Ak (us KS) ∧ Below w.heap.size w wr
theorem NxK.drewN {s : S8} {bs : List UInt8} {w wr : World} {A7 As Ak : Option Addr} (h : NxK s bs w A7 As Ak wr) (n : Nat) : NxK s bs w A7 As Ak (wr.drewN n) := ⟨h.1, h.2.1, h.2.2.1, h.2.2.2.drewN n⟩
def RelX (s : S8) (bs : List UInt8) (w : World) (A7 As Ak : Option Addr) (v6 v7 v8 v9 v10 v11 v12 v13 i : Value) (wr : World) : Prop :=
  ∃ (k : Nat) (t : S8), k ≤ 64 ∧ i = .int .i64 (k : Int) ∧ Hid (t = rnds KS (wN bs 48) s k) ∧ v6 = .int .u32 t.a ∧ v7 = .int .u32 t.b ∧ v8 = .int .u32 t.c ∧ v9 = .int .u32 t.d ∧ v10 = .int .u32 t.e ∧ v11 = .int .u32 t.f ∧ v12 = .int .u32 t.g ∧ v13 = .int .u32 t.h ∧ NxK s bs w A7 As Ak wr
theorem ref3 (i j k : Nat) (hi : 1 ≤ i ∧ i ≤ 31) (hj : 1 ≤ j ∧ j ≤ 31) (hk : 1 ≤ k ∧ k ≤ 31) (x : Int) (hx : InU x) (w : World) :
    Calls Tryd.prog 19 #[.int .u32 x, .int .u64 (i : Int), .int .u64 (j : Int), .int .u64 (k : Int)] w fun e w' => e = .returned (.int .u32 (three x i j k)) ∧ w = w' := three_calls x i j k hx hi hj hk w
theorem refE (x : Int) (hx : InU x) (w : World) : Calls Tryd.prog 19 #[.int .u32 x, .int .u64 6, .int .u64 11, .int .u64 25] w fun e w' => e = .returned (.int .u32 (three x 6 11 25)) ∧ w = w' := ref3 6 11 25 (by decide) (by decide) (by decide) x hx w
theorem refA (x : Int) (hx : InU x) (w : World) : Calls Tryd.prog 19 #[.int .u32 x, .int .u64 2, .int .u64 13, .int .u64 22] w fun e w' => e = .returned (.int .u32 (three x 2 13 22)) ∧ w = w' := ref3 2 13 22 (by decide) (by decide) (by decide) x hx w
theorem rtn (k : Nat) (h1 : 1 ≤ k) (h2 : k ≤ 31) (x : Int) (hx : InU x) (w : World) : Calls Tryd.prog 18 #[.int .u32 x, .int .u64 (k : Int)] w fun e w' => e = .returned (.int .u32 (rotr x k)) ∧ w = w' := turn_any x k hx h1 h2 w
theorem rV1 (x : Int) (hx : InU x) (w : World) : Calls Tryd.prog 18 #[.int .u32 x, .int .u64 7] w fun e w' => e = .returned (.int .u32 (rotr x 7)) ∧ w = w' := rtn 7 (by decide) (by decide) x hx w
theorem rV2 (x : Int) (hx : InU x) (w : World) : Calls Tryd.prog 18 #[.int .u32 x, .int .u64 18] w fun e w' => e = .returned (.int .u32 (rotr x 18)) ∧ w = w' := rtn 18 (by decide) (by decide) x hx w
theorem rW1 (x : Int) (hx : InU x) (w : World) : Calls Tryd.prog 18 #[.int .u32 x, .int .u64 17] w fun e w' => e = .returned (.int .u32 (rotr x 17)) ∧ w = w' := rtn 17 (by decide) (by decide) x hx w
theorem rW2 (x : Int) (hx : InU x) (w : World) : Calls Tryd.prog 18 #[.int .u32 x, .int .u64 19] w fun e w' => e = .returned (.int .u32 (rotr x 19)) ∧ w = w' := rtn 19 (by decide) (by decide) x hx w
end Go.Proofs.YtjhclmlefmomfaaDoor
