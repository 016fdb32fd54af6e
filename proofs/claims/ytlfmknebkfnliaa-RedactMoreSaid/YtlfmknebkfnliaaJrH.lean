/- Layer 12: it lives. -/
import Derived.Test.YtlfmknebkfnliaaJrC
namespace Go.Proofs.Ytlfmknebkfnliaa
open Go.ChangeShapes Go.WideShapes Go.ChangeAt Go.RowKit Go.IntWalk
set_option linter.unusedVariables false
set_option maxRecDepth 100000

theorem text_calls (s : List UInt8) (w : World) : Calls Try.prog 13 #[.string ⟨s.toArray⟩] w (fun e w' => e = .returned (.agg #[.int .i64 3, .bool false, .int .i64 0, .string ⟨s.toArray⟩, .slice none 0 0, .slice none 0 0]) ∧ Below w.heap.size w w') := by
  have h0 := Lib.hid (And.intro (Blk.new w [.int .i64 0, .bool false, .int .i64 0, .string ⟨#[]⟩, .slice none 0 0, .slice none 0 0] 25) ((Below.refl w.heap.size w).alloc (Nat.le_refl _) (.cells #[.int .i64 0, .bool false, .int .i64 0, .string ⟨#[]⟩, .slice none 0 0, .slice none 0 0] 25)))
  go_enter Try.func13, Try.ntmps13
  go_upto_region 1 with fail
  refine wp_gen (fun W => Blk W w.heap.size 25 [.int .i64 0, .bool false, .int .i64 0, .string ⟨#[]⟩, .slice none 0 0, .slice none 0 0] ∧ Below w.heap.size w W) h0.out ?_
  clear h0
  rintro wg ⟨gz, gb⟩
  have HZ := Lib.hid gz
  have HB := Lib.hid gb
  obtain ⟨z0, z1, z2, z3, z4, z5, y0, y1, y2, y3, y4, y5⟩ := cells6s gz
  clear gb gz
  go_wp2_with fail
  exact bodyPost_ret (res_cell6 rfl _ ⟨w.heap.size, 0, none⟩ _ _ rfl (Blk.load (blk6o (o := 0) HZ.out) _ Try.underlying25 rfl size_v6)) rfl ⟨rfl, below6o HB.out (Nat.le_refl _)⟩
def liveV : Jv := mapV (.cons [100, 105, 115, 112, 108, 97, 121, 110, 97, 109, 101] 3 false 0 [65, 110, 110] .nil .nil (.cons [109, 101, 109, 98, 101, 114, 115, 104, 105, 112] 3 false 0 [106, 111, 105, 110] .nil .nil .nil))
def leftV : Jv := mapV (.cons [109, 101, 109, 98, 101, 114, 115, 104, 105, 112] 3 false 0 [106, 111, 105, 110] .nil .nil .nil)
theorem live_cont : contJ kind0 liveV = leftV := by rfl
theorem live_ris : risV liveV = true := by decide
theorem row14 {P : Nat → Prop} {w : World} {g : Nat} {T : TypeId} {k1 s1 k2 s2 : List UInt8} (h : Blk w g T [strV k1, .int .i64 3, .bool false, .int .i64 0, strV s1, .slice none 0 0, .slice none 0 0, strV k2, .int .i64 3, .bool false, .int .i64 0, strV s2, .slice none 0 0, .slice none 0 0])
    (h1 : k1.length ≤ 140737488355328) (h2 : k2.length ≤ 140737488355328) (f1 : Fit 3 0 s1) (f2 : Fit 3 0 s2) : JIn P w true g 0 (.cons k1 3 false 0 s1 .nil .nil (.cons k2 3 false 0 s2 .nil .nil .nil)) :=
  ⟨⟨h.cell rfl, h1⟩, ⟨none, 0, 0, none, 0, 0, (fun j v hj => by
      have hj6 : j < 6 := by
        have := List.getElem?_eq_some_iff.1 hj
        obtain ⟨q, _⟩ := this
        simpa using q
      have := h.rng (j + 1) v (by
        rw [← hj]
        match j, hj6 with
        | 0, _ => rfl
        | 1, _ => rfl
        | 2, _ => rfl
        | 3, _ => rfl
        | 4, _ => rfl
        | 5, _ => rfl)
      rw [show 0 + (j + 1) = 0 + kwM true + j by show 0 + (j + 1) = 0 + 1 + j; omega] at this
      exact this), ⟨rfl, Nat.le_refl _, by decide⟩, ⟨rfl, Nat.le_refl _, by decide⟩, .inl rfl, .inl rfl⟩, f1,
   ⟨h.cell (k := 7) rfl, h2⟩, ⟨none, 0, 0, none, 0, 0, (fun j v hj => by
      have := h.rng (j + 8) v (by simpa using hj)
      rw [show 0 + (j + 8) = 0 + stM true + kwM true + j by show 0 + (j + 8) = 0 + 7 + 1 + j; omega] at this
      exact this), ⟨rfl, Nat.le_refl _, by decide⟩, ⟨rfl, Nat.le_refl _, by decide⟩, .inl rfl, .inl rfl⟩, f2, trivial⟩
set_option maxHeartbeats 4000000 in
theorem alive_calls (w : World) : Calls Try.prog 5 #[] w fun e w' => e = .returned (.bool true) ∧ Below w.heap.size w w' := by
  go_enter Try.func5, Try.ntmps5
  go_wp2_with fail
  refine (text_calls [65, 110, 110] w).mono ?_
  rintro e w1 ⟨rfl, b1⟩
  have HB1 := Lib.hid b1
  clear b1
  go_wp2_with fail
  refine (text_calls [106, 111, 105, 110] w1).mono ?_
  rintro e w2 ⟨rfl, b2⟩
  have HB2 := Lib.hid (HB1.out.then_ b2)
  have b3 : Below w2.heap.size w2 (w2.alloc (.cells #[.string ⟨#[100, 105, 115, 112, 108, 97, 121, 110, 97, 109, 101]⟩, .int .i64 3, .bool false, .int .i64 0, .string ⟨#[65, 110, 110]⟩, .slice none 0 0, .slice none 0 0, .string ⟨#[109, 101, 109, 98, 101, 114, 115, 104, 105, 112]⟩, .int .i64 3, .bool false, .int .i64 0, .string ⟨#[106, 111, 105, 110]⟩, .slice none 0 0, .slice none 0 0] 36)) := (Below.refl _ _).alloc (Nat.le_refl _) _
  have HB3 := Lib.hid (HB2.out.then_ b3)
  have HV := Lib.hid (show VOk (w2.alloc (.cells #[.string ⟨#[100, 105, 115, 112, 108, 97, 121, 110, 97, 109, 101]⟩, .int .i64 3, .bool false, .int .i64 0, .string ⟨#[65, 110, 110]⟩, .slice none 0 0, .slice none 0 0, .string ⟨#[109, 101, 109, 98, 101, 114, 115, 104, 105, 112]⟩, .int .i64 3, .bool false, .int .i64 0, .string ⟨#[106, 111, 105, 110]⟩, .slice none 0 0, .slice none 0 0] 36)) liveV none (some ⟨w2.heap.size, 0, none⟩) 0 0 2 2 from ⟨⟨rfl, Nat.le_refl _, by decide⟩, ⟨rfl, Nat.le_refl _, by decide⟩, .inl rfl, .inr ⟨_, 0, rfl, (Blk.new w2 [.string ⟨#[100, 105, 115, 112, 108, 97, 121, 110, 97, 109, 101]⟩, .int .i64 3, .bool false, .int .i64 0, .string ⟨#[65, 110, 110]⟩, .slice none 0 0, .slice none 0 0, .string ⟨#[109, 101, 109, 98, 101, 114, 115, 104, 105, 112]⟩, .int .i64 3, .bool false, .int .i64 0, .string ⟨#[106, 111, 105, 110]⟩, .slice none 0 0, .slice none 0 0] 36).lt, row14 (Blk.new w2 [.string ⟨#[100, 105, 115, 112, 108, 97, 121, 110, 97, 109, 101]⟩, .int .i64 3, .bool false, .int .i64 0, .string ⟨#[65, 110, 110]⟩, .slice none 0 0, .slice none 0 0, .string ⟨#[109, 101, 109, 98, 101, 114, 115, 104, 105, 112]⟩, .int .i64 3, .bool false, .int .i64 0, .string ⟨#[106, 111, 105, 110]⟩, .slice none 0 0, .slice none 0 0] 36) (by decide) (by decide) (by unfold Fit; decide) (by unfold Fit; decide)⟩, by unfold Fit liveV mapV; decide⟩)
  have hc := content_calls kind0 liveV none (some ⟨w2.heap.size, 0, none⟩) 0 0 2 2 _ HV.out live_ris (by decide)
  rw [live_cont] at hc
  have HC := Lib.hid hc
  clear b2 b3 hc HB1
  go_wp2_with fail
  refine HC.out.mono ?_
  rintro e w4 ⟨⟨A, B, nl, cl, nm, cm, he, hv⟩, b4⟩
  have he2 : e = .returned (.agg #[.int .i64 5, .bool false, .int .i64 0, .string ⟨#[]⟩, .slice A nl cl, .slice B nm cm]) := he
  clear he
  subst he2
  obtain ⟨b0, off, eA, enl, ecl, eB, enm, ecm, rfl, eP, ebl, eK, eKl, f0, f1, f2, f3, f4, f5, r1, r2, s1, s2, hf⟩ := hv.2.2.2.1.mb (i := 0) _ (by decide)
  obtain rfl : nm = 1 := hv.2.1.1
  obtain ⟨hcm, hcm2⟩ := hv.2.1.2
  have HB4 := Lib.hid (HB3.out.then_ b4)
  have HBX := Lib.hid ((Below.refl w4.heap.size w4).alloc (Nat.le_refl _) (.cells #[.int .i64 5, .bool false, .int .i64 0, .string ⟨#[]⟩, .slice A nl cl, .slice (some ⟨b0, off, none⟩) 1 cm] 25))
  have eK := (HBX.out.cell (p := ⟨b0, _, none⟩) ebl).trans eK
  have f3 := (HBX.out.cell (p := ⟨b0, _, none⟩) ebl).trans f3
  have HX := Blk.new w4 [.int .i64 5, .bool false, .int .i64 0, .string ⟨#[]⟩, .slice A nl cl, .slice (some ⟨b0, off, none⟩) 1 cm] 25
  obtain ⟨d0, d1, d2, d3, d4, d5, _⟩ := cells6s HX
  have HB5 := Lib.hid (HB4.out.then_ HBX.out)
  simp only [Nat.zero_mul, Nat.add_zero] at eK f3
  have eK2 : (w4.alloc (.cells #[.int .i64 5, .bool false, .int .i64 0, .string ⟨#[]⟩, .slice A nl cl, .slice (some ⟨b0, off, none⟩) 1 cm] 25)).cell? ⟨b0, off, none⟩ = some (.string ⟨#[109, 101, 109, 98, 101, 114, 115, 104, 105, 112]⟩) := eK
  have f32 : (w4.alloc (.cells #[.int .i64 5, .bool false, .int .i64 0, .string ⟨#[]⟩, .slice A nl cl, .slice (some ⟨b0, off, none⟩) 1 cm] 25)).cell? ⟨b0, off + 4, none⟩ = some (.string ⟨#[106, 111, 105, 110]⟩) := f3
  clear b4 hv eP ebl eK eKl f0 f1 f2 f3 f4 f5 r1 r2 s1 s2 hf HX HC
  go_wp2_with fail
  go_ret
  exact ⟨rfl, HB5.out⟩
end Go.Proofs.Ytlfmknebkfnliaa
