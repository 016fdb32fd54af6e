/- Layer 6: the document's number of the curve. -/
import Derived.Test.YtkfdclnaaphdgaaDoorCvN
namespace Go.Proofs.YtkfdclnaaphdgaaDoor
open Go.ChangeShapes Go.WideShapes Go.ChangeAt Go.RowKit Go.IntWalk
set_option linter.unusedVariables false

/-- The bytes of the curve's number. -/
def dB : List UInt8 := [163, 120, 89, 19, 202, 77, 235, 117, 171, 216, 65, 65, 77, 10, 112, 0, 152, 232, 121, 119, 121, 64, 199, 140, 115, 254, 111, 43, 238, 108, 3, 82]
theorem dB_val : fo (leN dB) = dF := by decide +kernel
set_option maxRecDepth 100000 in
set_option maxHeartbeats 4000000 in
theorem refD_calls (w : World) : Calls Tryd.prog 68 #[] w (NFPost dF w) := by
  have hz : Blk (w.alloc (.cells C16.toArray 50)) w.heap.size 50 C16 := Blk.new _ _ _
  have hb := (Below.refl w.heap.size w).alloc (Nat.le_refl _) (.cells C16.toArray 50)
  have HOF := Lib.hid (fun W => by have := nof_calls dB rfl W; rwa [dB_val] at this)
  go_enter Tryd.func68, Tryd.ntmps68
  go_upto_region 1 with fail
  refine wp_gen (fun W => Blk W w.heap.size 50 C16 ∧ Below w.heap.size w W) ⟨hz, hb⟩ ?_
  rintro W0 ⟨B0, HB⟩
  clear hz hb
  have hs := run_str_rb (W0.alloc (.cells #[.int .u8 163, .int .u8 120, .int .u8 89, .int .u8 19, .int .u8 202, .int .u8 77, .int .u8 235, .int .u8 117, .int .u8 171, .int .u8 216, .int .u8 65, .int .u8 65, .int .u8 77, .int .u8 10, .int .u8 112, .int .u8 0, .int .u8 152, .int .u8 232, .int .u8 121, .int .u8 119, .int .u8 121, .int .u8 64, .int .u8 199, .int .u8 140, .int .u8 115, .int .u8 254, .int .u8 111, .int .u8 43, .int .u8 238, .int .u8 108, .int .u8 3, .int .u8 82] 5)) (some ⟨W0.heap.size, 0, none⟩) 32 32 dB (rb_const W0 dB _ rfl (0, 0)) (Lib.hid rfl)
  have HAL := Lib.hid ((Below.refl W0.heap.size W0).alloc (Nat.le_refl _) (.cells #[.int .u8 163, .int .u8 120, .int .u8 89, .int .u8 19, .int .u8 202, .int .u8 77, .int .u8 235, .int .u8 117, .int .u8 171, .int .u8 216, .int .u8 65, .int .u8 65, .int .u8 77, .int .u8 10, .int .u8 112, .int .u8 0, .int .u8 152, .int .u8 232, .int .u8 121, .int .u8 119, .int .u8 121, .int .u8 64, .int .u8 199, .int .u8 140, .int .u8 115, .int .u8 254, .int .u8 111, .int .u8 43, .int .u8 238, .int .u8 108, .int .u8 3, .int .u8 82] 5))
  have HBB := Lib.hid (And.intro B0 HB)
  clear B0 HB
  go_wp2_with fail
  refine (HOF.out _).mono ?_
  rintro e W2 ⟨_, rfl, ⟨v, rfl, hv⟩, b2⟩
  have B2 := (HBB.out.1.later HAL.out).later b2
  have HB2 := (HBB.out.2.then_ HAL.out).then_ b2
  obtain ⟨T0, HL, N0⟩ := ansB (cs := v) B2 HB2 (Nat.le_refl _) (Below.refl _ _) (by first | (rw [hv.len]; rfl) | rfl)
  have T0 := Lib.hid T0
  have HL := Lib.hid HL
  have N0 := Lib.hid N0
  clear b2 B2 HB2 hs
  go_wp2_with (refine wpList_store_mid rfl 50 _ _ rfl w.heap.size 0 v.toArray rfl rfl T0.out hv.sizeA hv.one ?_)
  exact bodyPost_ret (v := .agg v.toArray) (res_cell rfl _ _ _ _ rfl (N0.out.load 50 Tryd.underlying50 rfl hv.size)) rfl ⟨_, rfl, ⟨_, rfl, hv⟩, HL.out⟩
end Go.Proofs.YtkfdclnaaphdgaaDoor
