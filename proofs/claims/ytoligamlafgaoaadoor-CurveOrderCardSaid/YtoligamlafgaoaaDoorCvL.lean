/- Layer 6: the laws' own same and alive, walked. -/
import Derived.Test.YtoligamlafgaoaaDoorCvK
namespace Go.Proofs.YtoligamlafgaoaaDoor
open Go.ChangeShapes Go.WideShapes Go.ChangeAt Go.RowKit Go.IntWalk
set_option linter.unusedVariables false

theorem eqin_bytes (b c : List UInt8) (hb : b.length = 32) (hc : c.length = 32) (W : World) : (Op.equalIn 10000 22 (A32 b) (A32 c)).run Tryd.prog W = .ok (b == c) W :=
  run_equalIn_bytes W 9998 22 5 32 Tryd.underlying22 Tryd.underlying5 (fun w => Tryd.sizeOf5 w) b c hb hc
theorem enc_zero : encL Pt.zero = byteN 1 := by decide +kernel
theorem enc_base : encL baseP = byB := by decide +kernel
theorem lit_one : A32 (byteN 1) = .agg #[.int .u8 1, .int .u8 0, .int .u8 0, .int .u8 0, .int .u8 0, .int .u8 0, .int .u8 0, .int .u8 0, .int .u8 0, .int .u8 0, .int .u8 0, .int .u8 0, .int .u8 0, .int .u8 0, .int .u8 0, .int .u8 0, .int .u8 0, .int .u8 0, .int .u8 0, .int .u8 0, .int .u8 0, .int .u8 0, .int .u8 0, .int .u8 0, .int .u8 0, .int .u8 0, .int .u8 0, .int .u8 0, .int .u8 0, .int .u8 0, .int .u8 0, .int .u8 0] := rfl
set_option maxRecDepth 100000 in
set_option maxHeartbeats 4000000 in
theorem alive6_calls (w : World) (hT : TabB w) : Calls Tryd.prog 17 #[] w fun e w' => e = .returned (.bool true) ∧ Below w.heap.size w w' := by
  have g1 := guard_bytes .eql (byteN 1) (byteN 1)
  have q1 := eq_bytes (byteN 1) (byteN 1) rfl rfl
  rw [beq_self_eq_true] at q1
  rw [lit_one] at g1 q1
  have i1 : ∀ W, (Instr.index 22 (.agg (u8s byB).toArray) (.int .i64 1)).run Tryd.prog W = .ok (.int .u8 102) W := fun W => idx32 (u8s byB) 1 (by decide) _ rfl W
  have i0 : ∀ W, (Instr.index 22 (.agg (u8s byB).toArray) (.int .i64 0)).run Tryd.prog W = .ok (.int .u8 88) W := fun W => idx32 (u8s byB) 0 (by decide) _ rfl W
  have hbz : ∀ {c : List Value} (h : PL c Pt.zero) W, Calls Tryd.prog 11 #[.agg c.toArray] W fun e w' => e = .returned (.agg #[.int .u8 1, .int .u8 0, .int .u8 0, .int .u8 0, .int .u8 0, .int .u8 0, .int .u8 0, .int .u8 0, .int .u8 0, .int .u8 0, .int .u8 0, .int .u8 0, .int .u8 0, .int .u8 0, .int .u8 0, .int .u8 0, .int .u8 0, .int .u8 0, .int .u8 0, .int .u8 0, .int .u8 0, .int .u8 0, .int .u8 0, .int .u8 0, .int .u8 0, .int .u8 0, .int .u8 0, .int .u8 0, .int .u8 0, .int .u8 0, .int .u8 0, .int .u8 0]) ∧ Below W.heap.size W w' := fun h W => by
    have := bytesP h W
    unfold BPost at this
    rwa [enc_zero, lit_one] at this
  have hbb : ∀ {c : List Value} (h : PL c baseP) W, Calls Tryd.prog 11 #[.agg c.toArray] W fun e w' => e = .returned (.agg (u8s byB).toArray) ∧ Below W.heap.size W w' := fun h W => by
    have := bytesP h W
    unfold BPost at this
    rwa [enc_base] at this
  obtain ⟨ys, hys⟩ : ∃ q, u8s byB = q := ⟨_, rfl⟩
  rw [hys] at i1 i0
  simp only [hys] at hbb
  clear hys
  go_enter Tryd.func17, Tryd.ntmps17
  go_wp2_with fail
  refine (zero_calls _).mono ?_
  rintro e w1 ⟨_, rfl, ⟨c1, rfl, h1⟩, b1⟩
  go_wp2_with fail
  refine (hbz h1 _).mono ?_
  rintro e w2 ⟨rfl, b2⟩
  have hT2 := (hT.later b1).later b2
  have B2 := Lib.hid (b1.then_ b2)
  clear b1 b2
  go_wp2_with fail
  refine (base_calls _ hT2).mono ?_
  rintro e w3 ⟨_, rfl, ⟨c3, rfl, h3⟩, b3⟩
  go_wp2_with fail
  refine (hbb h3 _).mono ?_
  rintro e w4 ⟨rfl, b4⟩
  have hT4 := (hT2.later b3).later b4
  have B4 := Lib.hid ((B2.out.then_ b3).then_ b4)
  clear b3 b4
  go_wp2_with fail
  refine (base_calls _ hT4).mono ?_
  rintro e w5 ⟨_, rfl, ⟨c5, rfl, h5⟩, b5⟩
  go_wp2_with fail
  refine (hbb h5 _).mono ?_
  rintro e w6 ⟨rfl, b6⟩
  have B6 := Lib.hid ((B4.out.then_ b5).then_ b6)
  clear b5 b6
  go_wp2_with fail
  go_ret
  exact ⟨rfl, B6.out⟩
set_option maxRecDepth 100000 in
set_option maxHeartbeats 4000000 in
theorem same_calls {c : List Value} {p : Pt} (h : PL c p) (ls : List UInt8) (hls : ls = encL p) (w : World) : Calls Tryd.prog 14 #[.agg c.toArray, .string ⟨ls.toArray⟩] w fun e w' => e = .returned (.bool true) ∧ Below w.heap.size w w' := by
  have HB := Lib.hid (fun W => bytesP h W)
  subst hls
  go_enter Tryd.func14, Tryd.ntmps14
  go_upto_region 1 with fail
  refine wp_gen (fun W => Blk W w.heap.size 28 c ∧ Below w.heap.size w W) (alloc1 w c _) ?_
  rintro W0 ⟨B0, HB0⟩
  go_wp2_with (refine wpList_load_mid rfl 28 _ rfl w.heap.size 0 rfl c _ B0.rng Tryd.underlying28 rfl h.size ?_)
  refine (HB.out _).mono ?_
  rintro e W1 ⟨rfl, b1⟩
  have HB1 := HB0.then_ b1
  obtain ⟨T0, HL, N0⟩ := letS (W := W1) (T := 22) (z := C32) (cs := u8s (encL p)) (by rw [u8s_len, enc_len]; rfl)
  have hs32 := size32A (encL p) (enc_len p)
  have ho32 := u8s_one (encL p)
  have hrb : RB ((W1.alloc (.cells C32.toArray 22)).setCells W1.heap.size 0 (u8s (encL p))) (some ⟨W1.heap.size, 0, none⟩) (encL p) := UBlk.rb N0
  have hs := run_str_rb _ (some ⟨W1.heap.size, 0, none⟩) 32 32 (encL p) hrb (Lib.hid (enc_len p).symm)
  have HL2 := Lib.hid (HB1.then_ HL)
  unfold A32
  obtain ⟨es, hes⟩ : ∃ q, u8s (encL p) = q := ⟨_, rfl⟩
  rw [hes] at T0 hs32 ho32 hs HL2 ⊢
  obtain ⟨el, hel⟩ : ∃ q, encL p = q := ⟨_, rfl⟩
  rw [hel] at hs ⊢
  clear N0 HL hrb HB1 b1 B0 HB0 hes hel HB
  go_upto_region 2 with (refine wpList_store_mid rfl 22 _ _ rfl W1.heap.size 0 es.toArray rfl rfl T0 hs32 ho32 ?_)
  refine wp_gen (fun W => (convert 39 9 (.slice (some ⟨W1.heap.size, 0, none⟩) 32 32)).run Tryd.prog W = .ok (.string ⟨el.toArray⟩) W ∧ Below w.heap.size w W) ⟨hs, HL2.out⟩ ?_
  clear T0 hs HL2
  rintro W2 ⟨hs, hb⟩
  have HB := Lib.hid hb
  clear hb
  go_wp2_with fail
  go_ret
  exact ⟨rfl, HB.out⟩
end Go.Proofs.YtoligamlafgaoaaDoor
