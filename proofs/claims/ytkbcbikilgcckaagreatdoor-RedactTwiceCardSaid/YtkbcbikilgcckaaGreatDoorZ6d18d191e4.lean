/- Texts put together: EcM JrH JvH RdL. -/
import Derived.Test.YtkbcbikilgcckaaGreatDoorZ53d4fbf13a
import Derived.Test.YtkbcbikilgcckaaGreatDoorZb7a4c958af
import Derived.Test.YtkbcbikilgcckaaGreatDoorZ5da3d9b302
import Derived.Test.YtkbcbikilgcckaaGreatDoorZde89d2bae6
import Derived.Test.YtkbcbikilgcckaaGreatDoorZ3b60d505ed
import Derived.Deep.RegionHeld3
import Derived.Test.YtkbcbikilgcckaaGreatDoorZc2c2f53193
import Derived.Test.YtkbcbikilgcckaaGreatDoorZdc2d378e25
import Derived.Test.YtkbcbikilgcckaaGreatDoorZ299573a99e
namespace Go.Proofs.YtkbcbikilgcckaaGreatDoor
open Go.ChangeShapes Go.WideShapes Go.ChangeAt Go.RowKit Go.IntWalk
set_option linter.unusedVariables false
set_option maxRecDepth 100000

theorem le_sumL : ∀ {xs : List (List UInt8)} {x : List UInt8}, x ∈ xs → x.length ≤ sumL xs
  | y :: xs, x, h => by
    unfold sumL
    rw [List.map_cons, List.sum_cons]
    rcases List.mem_cons.1 h with rfl | h
    · omega
    · have := le_sumL h; unfold sumL at this; omega
theorem le_sumS : ∀ {xs : List Sg} {x : Sg}, x ∈ xs → sgL x ≤ sumS xs
  | y :: xs, x, h => by
    unfold sumS
    rw [List.map_cons, List.sum_cons]
    rcases List.mem_cons.1 h with rfl | h
    · omega
    · have := le_sumS h; unfold sumS at this; omega
theorem smal_of {e : Ev} {m : Nat} (h : GF e m) (hm : m ≤ 1000000) : Smal e := by
  obtain ⟨T, h1, h2, _⟩ := h
  unfold headN at h2
  refine ⟨by omega, by omega, fun x hx => ?_, fun x hx => ?_⟩
  · rcases List.mem_append.1 hx with hx | hx
    · have := le_sumL hx; omega
    · have := le_sumL hx; omega
  · have := le_sumS hx
    unfold sgL at this; omega
end Go.Proofs.YtkbcbikilgcckaaGreatDoor
namespace Go.Proofs.YtkbcbikilgcckaaGreatDoor
open Go.ChangeShapes Go.WideShapes Go.ChangeAt Go.RowKit Go.IntWalk
set_option linter.unusedVariables false
set_option maxRecDepth 100000

theorem text_calls (s : List UInt8) (w : World) : Calls Tryz.prog 16 #[.string ⟨s.toArray⟩] w (fun e w' => e = .returned (.agg #[.int .i64 3, .bool false, .int .i64 0, .string ⟨s.toArray⟩, .slice none 0 0, .slice none 0 0]) ∧ Below w.heap.size w w') := by
  have h0 := Lib.hid (And.intro (Blk.new w [.int .i64 0, .bool false, .int .i64 0, .string ⟨#[]⟩, .slice none 0 0, .slice none 0 0] 25) ((Below.refl w.heap.size w).alloc (Nat.le_refl _) (.cells #[.int .i64 0, .bool false, .int .i64 0, .string ⟨#[]⟩, .slice none 0 0, .slice none 0 0] 25)))
  go_enter Tryz.func16, Tryz.ntmps16
  go_upto_region 1 with fail
  refine wp_gen (fun W => Blk W w.heap.size 25 [.int .i64 0, .bool false, .int .i64 0, .string ⟨#[]⟩, .slice none 0 0, .slice none 0 0] ∧ Below w.heap.size w W) h0.out ?_
  clear h0
  rintro wg ⟨gz, gb⟩
  have HZ := Lib.hid gz
  have HB := Lib.hid gb
  obtain ⟨z0, z1, z2, z3, z4, z5, y0, y1, y2, y3, y4, y5⟩ := cells6s gz
  clear gb gz
  go_wp2_with fail
  exact bodyPost_ret (res_cell6 rfl _ ⟨w.heap.size, 0, none⟩ _ _ rfl (Blk.load (blk6o (o := 0) HZ.out) _ Tryz.underlying25 rfl size_v6)) rfl ⟨rfl, below6o HB.out (Nat.le_refl _)⟩
def liveV : Jv := mapV (.cons [100, 105, 115, 112, 108, 97, 121, 110, 97, 109, 101] 3 false 0 [65, 110, 110] .nil .nil (.cons [109, 101, 109, 98, 101, 114, 115, 104, 105, 112] 3 false 0 [106, 111, 105, 110] .nil .nil .nil))
def leftV : Jv := mapV (.cons [109, 101, 109, 98, 101, 114, 115, 104, 105, 112] 3 false 0 [106, 111, 105, 110] .nil .nil .nil)
theorem live_cont : contJ kind0 liveV = leftV := by rfl
theorem live_ris : risV liveV = true := by decide
theorem row14 {P : Nat → Prop} {w : World} {g : Nat} {T : TypeId} {k1 s1 k2 s2 : List UInt8} (h : Blk w g T [strV k1, .int .i64 3, .bool false, .int .i64 0, strV s1, .slice none 0 0, .slice none 0 0, strV k2, .int .i64 3, .bool false, .int .i64 0, strV s2, .slice none 0 0, .slice none 0 0])
    (h1 : k1.length ≤ 140737488355328) (h2 : k2.length ≤ 140737488355328) (f1 : Fit 3 0 s1) (f2 : Fit 3 0 s2) : JIn P w true g 0 (.cons k1 3 false 0 s1 .nil .nil (.cons k2 3 false 0 s2 .nil .nil .nil)) :=
  ⟨⟨h.cell rfl, h1⟩, ⟨none, 0, 0, none, 0, 0, (fun j v hj => by
      have hj6 : j < 6 := by
        have := List.getElem?_eq_some_iff.1 hj
        obtain ⟨q, _⟩ := this
        simpa using q
      have := h.rng (j + 1) v (by
        rw [← hj]
        match j, hj6 with
        | 0, _ => rfl
        | 1, _ => rfl
        | 2, _ => rfl
        | 3, _ => rfl
        | 4, _ => rfl
        | 5, _ => rfl)
      rw [show 0 + (j + 1) = 0 + kwM true + j by show 0 + (j + 1) = 0 + 1 + j; omega] at this
      exact this), ⟨rfl, Nat.le_refl _, by decide⟩, ⟨rfl, Nat.le_refl _, by decide⟩, .inl rfl, .inl rfl⟩, f1,
   ⟨h.cell (k := 7) rfl, h2⟩, ⟨none, 0, 0, none, 0, 0, (fun j v hj => by
      have := h.rng (j + 8) v (by simpa using hj)
      rw [show 0 + (j + 8) = 0 + stM true + kwM true + j by show 0 + (j + 8) = 0 + 7 + 1 + j; omega] at this
      exact this), ⟨rfl, Nat.le_refl _, by decide⟩, ⟨rfl, Nat.le_refl _, by decide⟩, .inl rfl, .inl rfl⟩, f2, trivial⟩
set_option maxHeartbeats 4000000 in
theorem alive_calls (w : World) : Calls Tryz.prog 5 #[] w fun e w' => e = .returned (.bool true) ∧ Below w.heap.size w w' := by
  go_enter Tryz.func5, Tryz.ntmps5
  go_wp2_with fail
  refine (text_calls [65, 110, 110] w).mono ?_
  rintro e w1 ⟨rfl, b1⟩
  have HB1 := Lib.hid b1
  clear b1
  go_wp2_with fail
  refine (text_calls [106, 111, 105, 110] w1).mono ?_
  rintro e w2 ⟨rfl, b2⟩
  have HB2 := Lib.hid (HB1.out.then_ b2)
  have b3 : Below w2.heap.size w2 (w2.alloc (.cells #[.string ⟨#[100, 105, 115, 112, 108, 97, 121, 110, 97, 109, 101]⟩, .int .i64 3, .bool false, .int .i64 0, .string ⟨#[65, 110, 110]⟩, .slice none 0 0, .slice none 0 0, .string ⟨#[109, 101, 109, 98, 101, 114, 115, 104, 105, 112]⟩, .int .i64 3, .bool false, .int .i64 0, .string ⟨#[106, 111, 105, 110]⟩, .slice none 0 0, .slice none 0 0] 42)) := (Below.refl _ _).alloc (Nat.le_refl _) _
  have HB3 := Lib.hid (HB2.out.then_ b3)
  have HV := Lib.hid (show VOk (w2.alloc (.cells #[.string ⟨#[100, 105, 115, 112, 108, 97, 121, 110, 97, 109, 101]⟩, .int .i64 3, .bool false, .int .i64 0, .string ⟨#[65, 110, 110]⟩, .slice none 0 0, .slice none 0 0, .string ⟨#[109, 101, 109, 98, 101, 114, 115, 104, 105, 112]⟩, .int .i64 3, .bool false, .int .i64 0, .string ⟨#[106, 111, 105, 110]⟩, .slice none 0 0, .slice none 0 0] 42)) liveV none (some ⟨w2.heap.size, 0, none⟩) 0 0 2 2 from ⟨⟨rfl, Nat.le_refl _, by decide⟩, ⟨rfl, Nat.le_refl _, by decide⟩, .inl rfl, .inr ⟨_, 0, rfl, (Blk.new w2 [.string ⟨#[100, 105, 115, 112, 108, 97, 121, 110, 97, 109, 101]⟩, .int .i64 3, .bool false, .int .i64 0, .string ⟨#[65, 110, 110]⟩, .slice none 0 0, .slice none 0 0, .string ⟨#[109, 101, 109, 98, 101, 114, 115, 104, 105, 112]⟩, .int .i64 3, .bool false, .int .i64 0, .string ⟨#[106, 111, 105, 110]⟩, .slice none 0 0, .slice none 0 0] 42).lt, row14 (Blk.new w2 [.string ⟨#[100, 105, 115, 112, 108, 97, 121, 110, 97, 109, 101]⟩, .int .i64 3, .bool false, .int .i64 0, .string ⟨#[65, 110, 110]⟩, .slice none 0 0, .slice none 0 0, .string ⟨#[109, 101, 109, 98, 101, 114, 115, 104, 105, 112]⟩, .int .i64 3, .bool false, .int .i64 0, .string ⟨#[106, 111, 105, 110]⟩, .slice none 0 0, .slice none 0 0] 42) (by decide) (by decide) (by unfold Fit; decide) (by unfold Fit; decide)⟩, by unfold Fit liveV mapV; decide⟩)
  have hc := content_calls kind0 liveV none (some ⟨w2.heap.size, 0, none⟩) 0 0 2 2 _ HV.out live_ris (by decide)
  rw [live_cont] at hc
  have HC := Lib.hid hc
  clear b2 b3 hc HB1
  go_wp2_with fail
  refine HC.out.mono ?_
  rintro e w4 ⟨⟨A, B, nl, cl, nm, cm, he, hv⟩, b4⟩
  have he2 : e = .returned (.agg #[.int .i64 5, .bool false, .int .i64 0, .string ⟨#[]⟩, .slice A nl cl, .slice B nm cm]) := he
  clear he
  subst he2
  obtain ⟨b0, off, eA, enl, ecl, eB, enm, ecm, rfl, eP, ebl, eK, eKl, f0, f1, f2, f3, f4, f5, r1, r2, s1, s2, hf⟩ := hv.2.2.2.1.mb (i := 0) _ (by decide)
  obtain rfl : nm = 1 := hv.2.1.1
  obtain ⟨hcm, hcm2⟩ := hv.2.1.2
  have HB4 := Lib.hid (HB3.out.then_ b4)
  have HBX := Lib.hid ((Below.refl w4.heap.size w4).alloc (Nat.le_refl _) (.cells #[.int .i64 5, .bool false, .int .i64 0, .string ⟨#[]⟩, .slice A nl cl, .slice (some ⟨b0, off, none⟩) 1 cm] 25))
  have eK := (HBX.out.cell (p := ⟨b0, _, none⟩) ebl).trans eK
  have f3 := (HBX.out.cell (p := ⟨b0, _, none⟩) ebl).trans f3
  have HX := Blk.new w4 [.int .i64 5, .bool false, .int .i64 0, .string ⟨#[]⟩, .slice A nl cl, .slice (some ⟨b0, off, none⟩) 1 cm] 25
  obtain ⟨d0, d1, d2, d3, d4, d5, _⟩ := cells6s HX
  have HB5 := Lib.hid (HB4.out.then_ HBX.out)
  simp only [Nat.zero_mul, Nat.add_zero] at eK f3
  have eK2 : (w4.alloc (.cells #[.int .i64 5, .bool false, .int .i64 0, .string ⟨#[]⟩, .slice A nl cl, .slice (some ⟨b0, off, none⟩) 1 cm] 25)).cell? ⟨b0, off, none⟩ = some (.string ⟨#[109, 101, 109, 98, 101, 114, 115, 104, 105, 112]⟩) := eK
  have f32 : (w4.alloc (.cells #[.int .i64 5, .bool false, .int .i64 0, .string ⟨#[]⟩, .slice A nl cl, .slice (some ⟨b0, off, none⟩) 1 cm] 25)).cell? ⟨b0, off + 4, none⟩ = some (.string ⟨#[106, 111, 105, 110]⟩) := f3
  clear b4 hv eP ebl eK eKl f0 f1 f2 f3 f4 f5 r1 r2 s1 s2 hf HX HC
  go_wp2_with fail
  go_ret
  exact ⟨rfl, HB5.out⟩
end Go.Proofs.YtkbcbikilgcckaaGreatDoor
namespace Go.Proofs.YtkbcbikilgcckaaGreatDoor
open Go.ChangeShapes Go.WideShapes Go.ChangeAt Go.RowKit Go.IntWalk
set_option linter.unusedVariables false
set_option maxRecDepth 100000

theorem size_valH : (Tryz.prog.info? 25).map (·.size) = some 6 := by kernel_rfl
def CpPost (a : Jv) (w : World) (e : Ending) (w' : World) : Prop :=
  (∃ (A B : Option Addr) (nl cl nm cm : Nat), e = .returned (.agg #[.int .i64 a.kd, .bool a.is, .int .i64 a.n, .string ⟨a.s.toArray⟩, .slice A nl cl, .slice B nm cm]) ∧ VNew w.heap.size w' a A B nl cl nm cm) ∧ Below w.heap.size w w'
theorem cell_set_far {w : World} {g k b o : Nat} {v : Value} (h : b ≠ g) : (w.setCell ⟨g, k, none⟩ v).cell? ⟨b, o, none⟩ = w.cell? ⟨b, o, none⟩ := World.cell?_of_block (w := w) (Deep.blk_setCell_other _ _ _ _ h)
theorem Blk.far {w : World} {g g2 : Nat} {T : TypeId} {cs : List Value} (h : Blk w g T cs) (hne : g ≠ g2) (k : Nat) (v : Value) : Blk (w.setCell ⟨g2, k, none⟩ v) g T cs := (Deep.blk_setCell_other _ _ _ _ hne).trans h
theorem far8 {w : World} {g h b o : Nat} {p q x0 x1 x2 x3 x4 x5 : Value} (hg : b ≠ g) (hh : b ≠ h) :
    (set6 ((w.setCell ⟨g, 4, none⟩ p).setCell ⟨g, 5, none⟩ q) h x0 x1 x2 x3 x4 x5).cell? ⟨b, o, none⟩ = w.cell? ⟨b, o, none⟩ := by
  unfold set6
  simp only [cell_set_far hg, cell_set_far hh]
set_option maxHeartbeats 16000000 in
theorem copy_calls : ∀ (N : Nat) (a : Jv) (A0 B0 : Option Addr) (nl0 cl0 nm0 cm0 : Nat) (w : World), a.bulk ≤ N → N ≤ 1000000 → VOk w a A0 B0 nl0 cl0 nm0 cm0 →
    Calls Tryz.prog 13 #[.agg #[.int .i64 a.kd, .bool a.is, .int .i64 a.n, .string ⟨a.s.toArray⟩, .slice A0 nl0 cl0, .slice B0 nm0 cm0]] w (CpPost a w) := by
  intro N
  induction N with
  | zero => intro a A0 B0 nl0 cl0 nm0 cm0 w hb; unfold Jv.bulk at hb; omega
  | succ N IH =>
    intro a A0 B0 nl0 cl0 nm0 cm0 w hb hN hv
    have HIH := Lib.hid (fun a A0 B0 nl0 cl0 nm0 cm0 w hb hv => IH a A0 B0 nl0 cl0 nm0 cm0 w hb (by omega) hv)
    clear IH
    have b2 : Below w.heap.size w ((w.alloc (.cells #[.int .i64 a.kd, .bool a.is, .int .i64 a.n, .string ⟨a.s.toArray⟩, .slice A0 nl0 cl0, .slice B0 nm0 cm0] 25)).alloc (.cells #[.int .i64 0, .bool false, .int .i64 0, .string ⟨#[]⟩, .slice none 0 0, .slice none 0 0] 25)) := ((Below.refl _ _).alloc (Nat.le_refl _) _).alloc (by simp) _
    have HB := Lib.hid b2
    have HX := Lib.hid ((Blk.new w [.int .i64 a.kd, .bool a.is, .int .i64 a.n, .string ⟨a.s.toArray⟩, .slice A0 nl0 cl0, .slice B0 nm0 cm0] 25).alloc (.cells #[.int .i64 0, .bool false, .int .i64 0, .string ⟨#[]⟩, .slice none 0 0, .slice none 0 0] 25))
    have HZ := Lib.hid (show Blk ((w.alloc (.cells #[.int .i64 a.kd, .bool a.is, .int .i64 a.n, .string ⟨a.s.toArray⟩, .slice A0 nl0 cl0, .slice B0 nm0 cm0] 25)).alloc (.cells #[.int .i64 0, .bool false, .int .i64 0, .string ⟨#[]⟩, .slice none 0 0, .slice none 0 0] 25)) (w.heap.size + 1) 25 [.int .i64 0, .bool false, .int .i64 0, .string ⟨#[]⟩, .slice none 0 0, .slice none 0 0] by have h := Blk.new (w.alloc (.cells #[.int .i64 a.kd, .bool a.is, .int .i64 a.n, .string ⟨a.s.toArray⟩, .slice A0 nl0 cl0, .slice B0 nm0 cm0] 25)) [.int .i64 0, .bool false, .int .i64 0, .string ⟨#[]⟩, .slice none 0 0, .slice none 0 0] 25; rw [show (w.alloc (.cells #[.int .i64 a.kd, .bool a.is, .int .i64 a.n, .string ⟨a.s.toArray⟩, .slice A0 nl0 cl0, .slice B0 nm0 cm0] 25)).heap.size = w.heap.size + 1 by simp] at h; exact h)
    have hel := ext_le_bulk a.l
    have hem := ext_le_bulk a.m
    have hbl : ∀ i, i < a.l.ext → (a.l.fall i).val.bulk ≤ N := fun i hi => by have h1 := JT.bulk_val a.l i hi; unfold Jv.bulk at hb; omega
    have hbm : ∀ i, i < a.m.ext → (a.m.fall i).val.bulk ≤ N := fun i hi => by have h1 := JT.bulk_val a.m i hi; unfold Jv.bulk at hb; omega
    have hl6 : a.l.ext ≤ 1000000 := by unfold Jv.bulk at hb; omega
    have hm6 : a.m.ext ≤ 1000000 := by unfold Jv.bulk at hb; omega
    obtain ⟨⟨hn1, hn2, hn3⟩, ⟨hn4, hn5, hn6⟩, hs1, hs2, hf⟩ := hv
    have hnl0 : nl0 ≤ 1000000 := by rw [hn1]; exact hl6
    have hnm0 : nm0 ≤ 1000000 := by rw [hn4]; exact hm6
    have HLN := Lib.hid hn1
    have HMN := Lib.hid hn4
    have HS := Lib.hid (And.intro hs1 hs2)
    have HFT := Lib.hid hf
    have HBL := Lib.hid (And.intro hbl hbm)
    clear b2 hel hem hbl hbm hl6 hm6 hn1 hn2 hn3 hn4 hn5 hn6 hs1 hs2 hf hb hN
    go_enter Tryz.func13, Tryz.ntmps13
    go_wp2_with fail
    refine wp_gen (fun W => Below w.heap.size w W ∧ Blk W w.heap.size 25 [.int .i64 a.kd, .bool a.is, .int .i64 a.n, .string ⟨a.s.toArray⟩, .slice A0 nl0 cl0, .slice B0 nm0 cm0] ∧ Blk W (w.heap.size + 1) 25 [.int .i64 0, .bool false, .int .i64 0, .string ⟨#[]⟩, .slice none 0 0, .slice none 0 0]) ⟨HB.out, HX.out, HZ.out⟩ ?_
    clear HB HX HZ
    rintro wg ⟨gb, gx, gz⟩
    have HB := Lib.hid gb
    have HX := Lib.hid gx
    have HZ := Lib.hid gz
    clear gb gx gz
    go_loopw [3, 12] (fun o i wr => ∃ (k : Nat) (L : Value), k ≤ nl0 ∧ L = o ∧ i = .int .i64 (k : Int) ∧ Hid (RowJ wg.heap.size false wr L a.l k) ∧ Hid (Below wg.heap.size wg wr)) (fun _ i _ => nl0 - (intOf i).toNat)
    case atStart => exact ⟨0, _, Nat.zero_le _, rfl, rfl, Lib.hid (RowJ.nil _ _ _ _), Lib.hid (Below.refl _ _)⟩
    case round =>
      obtain ⟨k, L, hk, rfl, rfl, hR, hBr⟩ := hrel
      have HBW := Lib.hid (HB.out.then_ hBr.out)
      by_cases hlt : k < nl0
      · have HLT := Lib.hid (show k < a.l.ext by rw [← HLN.out]; exact hlt)
        obtain ⟨b0, off, eA, enl, ecl, eB, enm, ecm, rfl, eP, ebl, f0, f1, f2, f3, f4, f5, r1, r2, s1, s2, hf⟩ := (HS.out.1.up HBW.out).el (i := k) _ HLT.out
        have hbu := HBL.out.1 k HLT.out
        have hkey : (a.l.fall k).key = [] := by
          have := JSl.at_ HS.out.1 HLT.out
          obtain ⟨_, _, _, _, _, h, _⟩ := this
          exact h
        obtain ⟨eu, hev⟩ : ∃ eu, (a.l.fall k).val = eu := ⟨_, rfl⟩
        rw [hev] at f0 f1 f2 f3 r1 r2 s1 s2 hf hbu
        have h5 : Below wr.heap.size wr (wr.alloc (.cells #[.int .i64 eu.kd, .bool eu.is, .int .i64 eu.n, .string ⟨eu.s.toArray⟩, .slice eA enl ecl, .slice eB enm ecm] 25)) := (Below.refl _ _).alloc (Nat.le_refl _) _
        have HB5 := Lib.hid h5
        have hw5 : (wr.alloc (.cells #[.int .i64 eu.kd, .bool eu.is, .int .i64 eu.n, .string ⟨eu.s.toArray⟩, .slice eA enl ecl, .slice eB enm ecm] 25)).heap.size = wr.heap.size + 1 := by simp
        have HC := Lib.hid (HIH.out eu eA eB enl ecl enm ecm _ hbu (VOk.below ⟨r1, r2, s1, s2, hf⟩ h5))
        have HKEY := Lib.hid (And.intro hkey hev)
        have hk6 : k ≤ 1000000 := Nat.le_trans hk hnl0
        clear eP r1 r2 s1 s2 hf hev hkey hbu h5 ebl
        go_wp2_with fail
        refine HC.out.mono ?_
        rintro e w6 ⟨⟨A1, B1, nl1, cl1, nm1, cm1, rfl, hv1⟩, b6⟩
        have HB6 := Lib.hid (HB5.out.then_ b6)
        have HB56 := Lib.hid b6
        have HR6 := Lib.hid (hR.out.below HB6.out)
        have HV1 := Lib.hid hv1
        have HO := Lib.hid (fun b (e : L.ownBlock = some b) => Nat.lt_of_lt_of_le (hR.out.lt b e).2 (show wr.heap.size ≤ (wr.alloc (.cells #[.int .i64 eu.kd, .bool eu.is, .int .i64 eu.n, .string ⟨eu.s.toArray⟩, .slice eA enl ecl, .slice eB enm ecm] 25)).heap.size by rw [hw5]; omega))
        have HJ := Lib.hid (show JCs (fun b => (wr.alloc (.cells #[.int .i64 eu.kd, .bool eu.is, .int .i64 eu.n, .string ⟨eu.s.toArray⟩, .slice eA enl ecl, .slice eB enm ecm] 25)).heap.size ≤ b ∧ b < w6.heap.size) w6 [.int .i64 eu.kd, .bool eu.is, .int .i64 eu.n, .string ⟨eu.s.toArray⟩, .slice A1 nl1 cl1, .slice B1 nm1 cm1] (a.l.fall k).val by rw [HKEY.out.2]; exact HV1.out.cs)
        have HLE := Lib.hid (show wg.heap.size ≤ (wr.alloc (.cells #[.int .i64 eu.kd, .bool eu.is, .int .i64 eu.n, .string ⟨eu.s.toArray⟩, .slice eA enl ecl, .slice eB enm ecm] 25)).heap.size from Nat.le_trans hBr.out.size (by rw [hw5]; omega))
        clear b6 hv1 f0 f1 f2 f3 f4 f5 hw5
        go_wp2_with (at_builtin; refine wpList_append_row false rfl _ _ rfl wg.heap.size (wr.alloc (.cells #[.int .i64 eu.kd, .bool eu.is, .int .i64 eu.n, .string ⟨eu.s.toArray⟩, .slice eA enl ecl, .slice eB enm ecm] 25)).heap.size L a.l k rfl HR6.out hk6 HLE.out HO.out HB56.out.size [.int .i64 eu.kd, .bool eu.is, .int .i64 eu.n, .string ⟨eu.s.toArray⟩, .slice A1 nl1 cl1, .slice B1 nm1 cm1] HKEY.out.1 _ _ rfl rfl rfl HJ.out ?_; intro A2 c2 w7 h7 g7)
        have HB7 := Lib.hid (RowJ.grown (hBr.out.then_ HB6.out) HR6.out g7 (Nat.le_trans hBr.out.size HB6.out.size))
        have HR7 := Lib.hid h7
        clear h7 g7
        go_wp2_with fail
        refine ⟨⟨k + 1, _, by omega, rfl, by go_num, HR7, HB7⟩, by simp [intOf]; omega⟩
      · obtain rfl : k = nl0 := by omega
        obtain ⟨w3, hw3⟩ : ∃ x, x = wr := ⟨_, rfl⟩
        subst hw3
        have hR' := hR.out
        rw [HLN.out] at hR'
        obtain ⟨A3, c3, rfl, hroom, hjs⟩ := hR'.done (by rw [← HLN.out]; omega)
        have HL3 := Lib.hid (And.intro hroom hjs)
        have hx3 := HX.out.later hBr.out
        have d5 := hx3.cell (k := 5) rfl
        clear hR hroom hjs hx3
        go_wp2_with fail
        go_loopw [6, 25] (fun o i wr => ∃ (k : Nat) (L : Value), k ≤ nm0 ∧ L = o ∧ i = .int .i64 (k : Int) ∧ Hid (RowJ w3.heap.size true wr L a.m k) ∧ Hid (Below w3.heap.size w3 wr)) (fun _ i _ => nm0 - (intOf i).toNat)
        case atStart => exact ⟨0, _, Nat.zero_le _, rfl, rfl, Lib.hid (RowJ.nil _ _ _ _), Lib.hid (Below.refl _ _)⟩
        case round =>
          obtain ⟨k, L, hk, rfl, rfl, hR, hBr2⟩ := hrel
          have HBW := Lib.hid (HB.out.then_ (hBr.out.then_ hBr2.out))
          by_cases hlt : k < nm0
          · have HLT := Lib.hid (show k < a.m.ext by rw [← HMN.out]; exact hlt)
            obtain ⟨b0, off, eA, enl, ecl, eB, enm, ecm, rfl, eP, ebl, eK, eKl, f0, f1, f2, f3, f4, f5, r1, r2, s1, s2, hf⟩ := (HS.out.2.up HBW.out).mb (i := k) _ HLT.out
            have hbu := HBL.out.2 k HLT.out
            obtain ⟨eu, hev⟩ : ∃ eu, (a.m.fall k).val = eu := ⟨_, rfl⟩
            obtain ⟨ek, hek⟩ : ∃ ek, (a.m.fall k).key = ek := ⟨_, rfl⟩
            have HKL := Lib.hid eKl
            rw [hev] at f0 f1 f2 f3 r1 r2 s1 s2 hf hbu
            rw [hek] at eK
            have h5 : Below wr.heap.size wr (wr.alloc (.cells #[.string ⟨ek.toArray⟩, .int .i64 eu.kd, .bool eu.is, .int .i64 eu.n, .string ⟨eu.s.toArray⟩, .slice eA enl ecl, .slice eB enm ecm] 42)) := (Below.refl _ _).alloc (Nat.le_refl _) _
            have HB5 := Lib.hid h5
            have HM5 := Lib.hid (Blk.new wr [.string ⟨ek.toArray⟩, .int .i64 eu.kd, .bool eu.is, .int .i64 eu.n, .string ⟨eu.s.toArray⟩, .slice eA enl ecl, .slice eB enm ecm] 42)
            have hm5 := HM5.out
            have d0 := hm5.cell (k := 0) rfl; have d1 := hm5.cell (k := 1) rfl; have d2 := hm5.cell (k := 2) rfl; have d3 := hm5.cell (k := 3) rfl; have d4 := hm5.cell (k := 4) rfl; have d5' := hm5.cell (k := 5) rfl; have d6 := hm5.cell (k := 6) rfl
            have hw5 : (wr.alloc (.cells #[.string ⟨ek.toArray⟩, .int .i64 eu.kd, .bool eu.is, .int .i64 eu.n, .string ⟨eu.s.toArray⟩, .slice eA enl ecl, .slice eB enm ecm] 42)).heap.size = wr.heap.size + 1 := by simp
            have HC := Lib.hid (fun W (hW : Below (wr.alloc (.cells #[.string ⟨ek.toArray⟩, .int .i64 eu.kd, .bool eu.is, .int .i64 eu.n, .string ⟨eu.s.toArray⟩, .slice eA enl ecl, .slice eB enm ecm] 42)).heap.size (wr.alloc (.cells #[.string ⟨ek.toArray⟩, .int .i64 eu.kd, .bool eu.is, .int .i64 eu.n, .string ⟨eu.s.toArray⟩, .slice eA enl ecl, .slice eB enm ecm] 42)) W) => HIH.out eu eA eB enl ecl enm ecm W hbu (VOk.below (VOk.below ⟨r1, r2, s1, s2, hf⟩ h5) hW))
            have HKEY := Lib.hid (And.intro hek hev)
            have hk6 : k ≤ 1000000 := Nat.le_trans hk hnm0
            have HS5 := Lib.hid (show w3.heap.size ≤ (wr.alloc (.cells #[.string ⟨ek.toArray⟩, .int .i64 eu.kd, .bool eu.is, .int .i64 eu.n, .string ⟨eu.s.toArray⟩, .slice eA enl ecl, .slice eB enm ecm] 42)).heap.size from Nat.le_trans hBr2.out.size (by rw [hw5]; omega))
            have HO := Lib.hid (fun (H : Nat) (hH : (wr.alloc (.cells #[.string ⟨ek.toArray⟩, .int .i64 eu.kd, .bool eu.is, .int .i64 eu.n, .string ⟨eu.s.toArray⟩, .slice eA enl ecl, .slice eB enm ecm] 42)).heap.size ≤ H) b (e : L.ownBlock = some b) => Nat.lt_of_lt_of_le (hR.out.lt b e).2 (show wr.heap.size ≤ H from Nat.le_trans (by rw [hw5]; omega) hH))
            clear eP r1 r2 s1 s2 hf hev hek hbu h5 ebl hm5 eKl hw5 d5
            go_wp2_with fail
            go_region_held3 (fun W => W.cell? ⟨wr.heap.size, 0, none⟩ = some (.string ⟨ek.toArray⟩) ∧ W.cell? ⟨wr.heap.size, 1, none⟩ = some (.int .i64 eu.kd) ∧ W.cell? ⟨wr.heap.size, 2, none⟩ = some (.bool eu.is) ∧ W.cell? ⟨wr.heap.size, 3, none⟩ = some (.int .i64 eu.n) ∧ W.cell? ⟨wr.heap.size, 4, none⟩ = some (.string ⟨eu.s.toArray⟩) ∧ W.cell? ⟨wr.heap.size, 5, none⟩ = some (.slice eA enl ecl) ∧ W.cell? ⟨wr.heap.size, 6, none⟩ = some (.slice eB enm ecm))
              (first | assumption | go_keep | (refine ⟨?_, ?_, ?_, ?_, ?_, ?_, ?_⟩ <;> assumption))
              ((first
                | (go_at_call 13; (with_reducible refine (HC.out _ (by first | exact Below.refl _ _ | exact (Below.refl _ _).drew | exact (Below.refl _ _).drewN _)).mono ?_); rintro e w6 ⟨⟨A1, B1, nl1, cl1, nm1, cm1, rfl, hv1⟩, b6⟩; have b56 := (show Below (wr.alloc (.cells #[.string ⟨ek.toArray⟩, .int .i64 eu.kd, .bool eu.is, .int .i64 eu.n, .string ⟨eu.s.toArray⟩, .slice eA enl ecl, .slice eB enm ecm] 42)).heap.size (wr.alloc (.cells #[.string ⟨ek.toArray⟩, .int .i64 eu.kd, .bool eu.is, .int .i64 eu.n, .string ⟨eu.s.toArray⟩, .slice eA enl ecl, .slice eB enm ecm] 42)) _ by first | exact Below.refl _ _ | exact (Below.refl _ _).drew | exact (Below.refl _ _).drewN _).then_ b6; have hm6 := HM5.out.later b56; have q0 := hm6.cell (k := 0) rfl; have q1 := hm6.cell (k := 1) rfl; have q2 := hm6.cell (k := 2) rfl; have q3 := hm6.cell (k := 3) rfl; have q4 := hm6.cell (k := 4) rfl; have q5 := hm6.cell (k := 5) rfl; have q6 := hm6.cell (k := 6) rfl)
                | (refine step_append_row true (by rfl) _ _ (by rfl) w3 w6 (by first | exact (Below.refl _ _).alloc (Nat.le_refl _) _ | exact ((Below.refl _ _).alloc (Nat.le_refl _) _).drew | exact (((Below.refl _ _).drew).alloc (Nat.le_refl _) _).drew | exact ((Below.refl _ _).drew).alloc (Nat.le_refl _) _ | exact ((Below.refl _ _).alloc (Nat.le_refl _) _).drewN _ | exact ((Below.refl _ _).drewN _).alloc (Nat.le_refl _) _) _ L a.m k (by rfl) (hR.out.below (HB5.out.then_ b56)) (hBr2.out.then_ (HB5.out.then_ b56)) hk6 HS5.out (HO.out _ (Nat.le_refl _)) b56.size [.int .i64 eu.kd, .bool eu.is, .int .i64 eu.n, .string ⟨eu.s.toArray⟩, .slice A1 nl1 cl1, .slice B1 nm1 cm1] HKL.out _ (by rfl) (by rw [HKEY.out.1]; first | exact Blk.new _ _ _ | exact (Blk.new _ _ _).drew | exact (Blk.new _ _ _).drewN _) (by rw [HKEY.out.2]; exact hv1.cs) ?_; intro A2 c2 w7 h7 g7 f7; have hm7 : Blk w7 wr.heap.size 42 [.string ⟨ek.toArray⟩, .int .i64 eu.kd, .bool eu.is, .int .i64 eu.n, .string ⟨eu.s.toArray⟩, .slice eA enl ecl, .slice eB enm ecm] := (f7 _ hm6.lt (fun e => absurd (hR.out.lt _ e).2 (Nat.lt_irrefl _))).trans hm6; have p0 := hm7.cell (k := 0) rfl; have p1 := hm7.cell (k := 1) rfl; have p2 := hm7.cell (k := 2) rfl; have p3 := hm7.cell (k := 3) rfl; have p4 := hm7.cell (k := 4) rfl; have p5 := hm7.cell (k := 5) rfl; have p6 := hm7.cell (k := 6) rfl)
                | fail))
            have HB7 := Lib.hid g7
            have HR7 := Lib.hid h7
            clear h7 g7 f7 hm7 p0 p1 p2 p3 p4 p5 p6 q0 q1 q2 q3 q4 q5 q6 d0 d1 d2 d3 d4 d5' d6 hv1 b6 b56 hm6
            go_wp2_with fail
            refine ⟨⟨k + 1, _, by omega, rfl, by go_num, HR7, HB7⟩, by simp [intOf]; omega⟩
          · obtain rfl : k = nm0 := by omega
            obtain ⟨w4, hw4⟩ : ∃ x, x = wr := ⟨_, rfl⟩
            subst hw4
            have hR' := hR.out
            rw [HMN.out] at hR'
            obtain ⟨A4, c4, rfl, hroom, hjs⟩ := hR'.done (by rw [← HMN.out]; omega)
            have HM4 := Lib.hid (And.intro hroom hjs)
            have HL4 := Lib.hid (show Room a.l.ext c3 a.l.ext ∧ JSl (fun b => wg.heap.size ≤ b ∧ b < w4.heap.size) w4 false A3 a.l from And.intro HL3.out.1 (HL3.out.2.stay (w' := w4) (fun b o hb => hBr2.out.cell (p := ⟨b, o, none⟩) hb.2) (fun b hb => ⟨hb.1, Nat.lt_of_lt_of_le hb.2 hBr2.out.size⟩)))
            have HX4 := Lib.hid (HX.out.later (hBr.out.then_ hBr2.out))
            have HZ4 := Lib.hid (HZ.out.later (hBr.out.then_ hBr2.out))
            obtain ⟨d0, d1, d2, d3, d4, d5, e0, e1, e2, e3, e4, e5⟩ := cells6 HX4.out
            obtain ⟨g0, g1, g2, g3, g4, g5, k0, k1, k2, k3, k4, k5⟩ := cells6 HZ4.out
            have HBW := Lib.hid (HB.out.then_ (hBr.out.then_ hBr2.out))
            have HN1 := Lib.hid (And.intro HLN.out HMN.out)
            clear hR hroom hjs
            go_wp2_with fail
            have hB9 : Below w.heap.size w4 (set6 ((w4.setCell ⟨w.heap.size, 4, none⟩ (.slice A3 a.l.ext c3)).setCell ⟨w.heap.size, 5, none⟩ (.slice A4 a.m.ext c4)) (w.heap.size + 1) (.int .i64 a.kd) (.bool a.is) (.int .i64 a.n) (.string ⟨a.s.toArray⟩) (.slice A3 a.l.ext c3) (.slice A4 a.m.ext c4)) :=
              below6 (((Below.refl w.heap.size w4).setCell (Nat.le_refl _) _).setCell (Nat.le_refl _) _) (by omega)
            have hgl := HZ.out.lt
            have h3g := hBr.out.size
            refine bodyPost_ret (res_cell rfl _ ⟨w.heap.size + 1, 0, none⟩ _ _ rfl (Blk.load (blk6 ((HZ4.out.far (by omega) 4 _).far (by omega) 5 _)) _ Tryz.underlying25 rfl size_valH)) rfl ⟨⟨A3, A4, a.l.ext, c3, a.m.ext, c4, rfl, HL4.out.1, HM4.out.1, HL4.out.2.stay (fun b o hb => ?_) (fun b hb => ?_), HM4.out.2.stay (fun b o hb => ?_) (fun b hb => ?_), HFT.out⟩, HBW.out.trans hB9⟩
            · have h1 := hb.1; have h2 := hb.2; exact far8 (by omega) (by omega)
            · have h1 := hb.1; have h2 := hb.2; exact ⟨by omega, Nat.lt_of_lt_of_le h2 hB9.size⟩
            · have h1 := hb.1; have h2 := hb.2; exact far8 (by omega) (by omega)
            · have h1 := hb.1; have h2 := hb.2; exact ⟨by omega, Nat.lt_of_lt_of_le h2 hB9.size⟩
end Go.Proofs.YtkbcbikilgcckaaGreatDoor
namespace Go.Proofs.YtkbcbikilgcckaaGreatDoor
open Go.ChangeShapes Go.WideShapes Go.ChangeAt Go.RowKit Go.IntWalk
set_option linter.unusedVariables false
set_option maxRecDepth 100000

theorem gf_bounds {w : World} {e : Ev} {a : Ea} (he : EOk w e a) (h : GF e 8192) : e.ct.bulk ≤ 50000 ∧ a.np ≤ 1000000 ∧ a.nu ≤ 1000000 ∧ a.ns ≤ 8192 := by
  obtain ⟨T, h1, h2, h3, h4, h5⟩ := h
  unfold headN at h2
  have n1 := he.2.1.2.1.out
  have n2 := he.2.2.1.2.1.out
  have n3 := he.2.2.2.1.2.1.out
  refine ⟨by omega, by omega, by omega, by omega⟩
/-- What Strip leaves, in a region that draws its order. -/
def ftS (e : Ev) : Lft := ⟨fun v => ∃ a, v = .agg (evC e a).toArray, fun v w => ∃ a, v = .agg (evC e a).toArray ∧ EOk w e a, fun v w w' ⟨a, h1, h2⟩ hb => ⟨a, h1, h2.below hb⟩⟩
theorem runSt {e : Ev} {f : FuncId} {args : Array Value} {W : World} (h : Calls Tryz.prog f args W (FePost e W)) : Calls Tryz.prog f args W (fun en W' => ∃ v, en = .returned v ∧ (ftS e).R v ∧ (ftS e).M v W' ∧ Below W.heap.size W W') :=
  h.mono fun en W' ⟨⟨a, h1, h2⟩, h3⟩ => ⟨_, h1, ⟨a, rfl⟩, ⟨a, rfl, h2.ok⟩, h3⟩
set_option maxHeartbeats 16000000 in
theorem redactTwice_walk (e : Ev) (a : Ea) {w : World} (he : EOk w e a) (hm : Max w) (hT : TabJ w) : Calls Tryz.prog 4 #[.agg (evC e a).toArray] w fun en w' => en = .returned (.bool true) ∧ Below w.heap.size w w' := by
  have b0 : Below w.heap.size w (w.alloc (.cells (evC e a).toArray 29)) := (Below.refl _ _).alloc (Nat.le_refl _) _
  have HI := Lib.hid (And.intro b0 (Blk.new w (evC e a) 29))
  have HE := Lib.hid he
  have HT := Lib.hid hT
  have HM := Lib.hid hm
  clear he hT hm b0
  go_enter Tryz.func4, Tryz.ntmps4
  go_upto_region 1 with fail
  refine wp_gen (fun W => Below w.heap.size w W ∧ Blk W w.heap.size 29 (evC e a)) HI.out ?_
  clear HI
  rintro W0 g1
  have H0 := Lib.hid g1
  clear g1
  go_wp2_with fail
  refine (alive_calls W0).mono ?_
  rintro en W1 ⟨rfl, b⟩
  have H1 := Lib.hid (And.intro (H0.out.1.then_ b) (H0.out.2.later b))
  clear b
  have hr := H1.out.2.rng
  have hrc := ev_ct (o := 0) hr
  have HG := Lib.hid (refgreat_calls e a 8192 W1 (HE.out.below H1.out.1) (by decide))
  go_wp2_with (refine wpList_load_mid rfl 29 (.tmp 1) rfl w.heap.size 0 rfl (evC e a) _ hr Tryz.underlying29 rfl (size_ev _ _) ?_)
  refine HG.out.mono ?_
  rintro en W2 ⟨r, rfl, hgf, b⟩
  have H2 := Lib.hid (And.intro (H1.out.1.then_ b) (H1.out.2.later b))
  have HGF := Lib.hid hgf
  clear b hr hrc hgf HG
  cases r with
  | true =>
    go_wp2_with fail
    go_ret
    exact ⟨rfl, H2.out.1⟩
  | false =>
  have hrc := ev_ct (o := 0) H2.out.2.rng
  obtain ⟨rb, hrb⟩ : ∃ b, risV e.ct = b := ⟨_, rfl⟩
  have HRB := Lib.hid hrb
  have hrs := rises_calls e.ct.bulk e.ct W2 a.A a.B a.nl a.cl a.nm a.cm (Nat.le_refl _) (HE.out.1.below H2.out.1)
  rw [hrb] at hrs
  have HRS := Lib.hid hrs
  clear hrs hrb
  go_wp2_with (refine wpList_load_gd rfl 25 (.tmp 10) rfl w.heap.size 5 rfl (vlC e.ct a.A a.B a.nl a.cl a.nm a.cm) _ hrc Tryz.underlying25 rfl (size_vl _ _ _ _ _ _ _) ?_)
  clear hrc
  refine HRS.out.mono ?_
  rintro en W3 ⟨rfl, b⟩
  have H3 := Lib.hid (And.intro (H2.out.1.then_ b) (H2.out.2.later b))
  clear b HRS
  cases rb with
  | false =>
    go_wp2_with fail
    go_ret
    exact ⟨rfl, H3.out.1⟩
  | true =>
  have hgf := (by first | exact HGF.out rfl | exact HGF.out trivial : GF e 8192)
  have HBD := Lib.hid (gf_bounds HE.out hgf)
  have HSM := Lib.hid (smal_of hgf (by decide))
  clear hgf HGF
  have hr := H3.out.2.rng
  have ht := (Blk.new W3 evZ 29).there (n := 17) rfl
  go_upto_region 6 with (first | (refine wpList_load_mid rfl 29 (.tmp 1) rfl w.heap.size 0 rfl (evC e a) _ hr Tryz.underlying29 rfl (size_ev _ _) ?_) | (refine wpList_store_mid rfl 29 _ _ rfl W3.heap.size 0 (evC e a).toArray rfl rfl ht (size_evA _ _) (one_ev _ _) ?_))
  refine wp_gen (fun W => Below w.heap.size w W ∧ Blk W w.heap.size 29 (evC e a) ∧ Blk W W3.heap.size 29 (evC e a)) ⟨blw_cells H3.out.1.size _ _ _ (H3.out.1.alloc H3.out.1.size _), (H3.out.2.alloc _).setFar (by have := H3.out.2.lt; omega) _ _, (Blk.new W3 evZ 29).setAll (vs := evC e a) rfl⟩ ?_
  clear hr ht
  rintro W4 g1
  have HMG := Lib.hid H3.out.2.lt
  obtain ⟨M, hMe⟩ : ∃ M, W3.heap.size = M := ⟨_, rfl⟩
  rw [hMe] at g1 HMG
  rw [hMe]
  have H4 := Lib.hid g1
  have hrc := ev_ct (o := 0) g1.2.1.rng
  have HC := Lib.hid (copy_calls e.ct.bulk e.ct a.A a.B a.nl a.cl a.nm a.cm W4 (Nat.le_refl _) (Nat.le_trans HBD.out.1 (by decide)) (HE.out.1.below g1.1))
  clear g1 H3 hMe H2 H1 H0
  go_upto_region 7 with (refine wpList_load_mid rfl 25 (.tmp 16) rfl w.heap.size 5 rfl (vlC e.ct a.A a.B a.nl a.cl a.nm a.cm) _ hrc Tryz.underlying25 rfl (size_vl _ _ _ _ _ _ _) ?_)
  clear hrc
  refine HC.out.mono ?_
  rintro en W5 ⟨⟨A, B, nl, cl, nm, cm, rfl, hv⟩, b⟩
  have H5 := Lib.hid (And.intro (H4.out.1.then_ b) (And.intro (H4.out.2.1.later b) (And.intro (H4.out.2.2.later b) H4.out.2.2.lt)))
  have HV := Lib.hid hv
  have ht := H5.out.2.2.1.thereAt (o := 5) (n := 6) (by show 11 ≤ 17; decide)
  go_upto_region 7 with (refine wpList_store_mid rfl 25 _ _ rfl M 5 (vlC e.ct A B nl cl nm cm).toArray rfl rfl ht (size_vlA _ _ _ _ _ _ _) (one_vl _ _ _ _ _ _ _) ?_)
  refine wp_gen (fun W => ∃ a2, Below w.heap.size w W ∧ Blk W w.heap.size 29 (evC e a) ∧ Blk W M 29 (evC e a2) ∧ EOk W e a2 ∧ (a2.np = a.np ∧ a2.nu = a.nu ∧ a2.ns = a.ns)) ⟨{ a with A := A, B := B, nl := nl, cl := cl, nm := nm, cm := cm }, blw_cells (Nat.le_of_lt HMG.out) _ _ _ H5.out.1, H5.out.2.1.setFar (by have := HMG.out; omega) _ _, H5.out.2.2.1.setAt (o := 5) (vs := vlC e.ct A B nl cl nm cm) (by show 11 ≤ 17; decide), ?_, rfl, rfl, rfl⟩ ?_
  · have hup := Up.cells (B := W4.heap.size) H5.out.2.2.2 5 (vlC e.ct A B nl cl nm cm) W5
    have hlo := blw_cells (B := M) (Nat.le_refl M) (vlC e.ct A B nl cl nm cm) 5 W5 (Below.refl _ _)
    have hE5 := HE.out.below (w' := W5.setCells M 5 (vlC e.ct A B nl cl nm cm)) (blw_cells (Nat.le_of_lt HMG.out) _ _ _ H5.out.1)
    exact ⟨(HV.out.up hup).okV, hE5.2⟩
  clear H4 HC b hv ht H5 HV
  rintro W6 ⟨a2, g1, g2, g3, g4, g5⟩
  have H6 := Lib.hid (And.intro g1 (And.intro g2 (And.intro g3 g4)))
  have HBD2 := Lib.hid (show a2.np ≤ 1000000 ∧ a2.nu ≤ 1000000 ∧ a2.ns ≤ 8192 by rw [g5.1, g5.2.1, g5.2.2]; exact HBD.out.2)
  have hr := g3.rng
  have HC := Lib.hid (strip_calls e a2 W6 g4 HRB.out HBD.out.1 HBD2.out)
  clear g1 g2 g3 g4 g5
  go_wp2_with (refine wpList_load_mid rfl 29 (.tmp 3) rfl M 0 rfl (evC e a2) _ hr Tryz.underlying29 rfl (size_ev _ _) ?_)
  clear hr
  refine HC.out.mono ?_
  rintro en W7 ⟨⟨a5, rfl, hn⟩, b⟩
  have H7 := Lib.hid (And.intro (H6.out.1.then_ b) (And.intro (H6.out.2.1.later b) (And.intro (H6.out.2.2.1.later b) (And.intro (H6.out.2.2.2.below b) hn.ok))))
  have ht := (Blk.new W7 evZ 29).there (n := 17) rfl
  clear hn b HC
  go_upto_region 8 with (refine wpList_store_mid rfl 29 _ _ rfl W7.heap.size 0 (evC (stripE e) a5).toArray rfl rfl ht (size_evA _ _) (one_ev _ _) ?_)
  refine wp_gen (fun W => Below w.heap.size w W ∧ Blk W w.heap.size 29 (evC e a) ∧ Blk W M 29 (evC e a2) ∧ Blk W W7.heap.size 29 (evC (stripE e) a5) ∧ EOk W e a2 ∧ EOk W (stripE e) a5) ⟨blw_cells H7.out.1.size _ _ _ (H7.out.1.alloc H7.out.1.size _), (H7.out.2.1.alloc _).setFar (by have := H7.out.2.1.lt; omega) _ _, (H7.out.2.2.1.alloc _).setFar (by have := H7.out.2.2.1.lt; omega) _ _, (Blk.new W7 evZ 29).setAll (vs := evC (stripE e) a5) rfl, H7.out.2.2.2.1.below (blw_cells (Nat.le_refl _) _ _ _ ((Below.refl _ _).alloc (Nat.le_refl _) _)), H7.out.2.2.2.2.below (blw_cells (Nat.le_refl _) _ _ _ ((Below.refl _ _).alloc (Nat.le_refl _) _))⟩ ?_
  rintro W8 g1
  obtain ⟨X, hXe⟩ : ∃ X, W7.heap.size = X := ⟨_, rfl⟩
  rw [hXe] at g1
  rw [hXe]
  have H8 := Lib.hid g1
  have hns : a5.np ≤ 1000000 ∧ a5.nu ≤ 1000000 ∧ a5.ns ≤ 8192 := by
    have n1 := g1.2.2.2.2.2.2.1.2.1.out
    have n2 := g1.2.2.2.2.2.2.2.1.2.1.out
    have n3 := g1.2.2.2.2.2.2.2.2.1.2.1.out
    have m1 := HE.out.2.1.2.1.out
    have m2 := HE.out.2.2.1.2.1.out
    have m3 := HE.out.2.2.2.1.2.1.out
    have := HBD.out
    exact ⟨by rw [n1]; show e.pv.length ≤ _; omega, by rw [n2]; show e.au.length ≤ _; omega, by rw [n3]; show e.sg.length ≤ _; omega⟩
  have HST := Lib.hid (fun W (hW : Below W8.heap.size W8 W) => show Calls Tryz.prog 9 #[.agg (evC (stripE e) a5).toArray] W (FePost (stripE e) W) by
    have := strip_calls (stripE e) a5 W (H8.out.2.2.2.2.2.below hW) (dcnt_ris e.ty HRB.out) (Nat.le_trans (dcnt_bulk e.ty e.ct) HBD.out.1) hns
    rw [strip_strip] at this
    exact this)
  clear g1 hXe hns ht H7 H6
  apply wp_region_lkt 8 (by kernel_rfl) (by kernel_rfl)
  simp only [List.take_succ_cons, List.take_zero, List.drop_succ_cons, List.drop_zero]
  apply lk_load 29 (.tmp 3) rfl M 0 _ _ H8.out.2.2.1.rng H8.out.2.2.1.lt Tryz.underlying29 rfl (size_ev e a2) rfl rfl
  simp only [Act.put, List.setIfInBounds_toArray, List.set_cons_succ, List.set_cons_zero]
  apply lk_load 29 (.tmp 1) rfl w.heap.size 0 _ _ H8.out.2.1.rng H8.out.2.1.lt Tryz.underlying29 rfl (size_ev e a) rfl rfl
  simp only [Act.put, List.setIfInBounds_toArray, List.set_cons_succ, List.set_cons_zero]
  apply lk_call (Lft.bare (· = .bool true)) 8 #[.agg (evC e a2).toArray, .agg (evC e a).toArray] rfl (by intro W; first | (go_simp; done) | (go_simp; exact ⟨rfl, rfl⟩)) (fun W hW => (refsameE_calls e a2 a W (H8.out.2.2.2.2.1.below hW) (HE.out.below (H8.out.1.then_ hW))).mono fun en W' ⟨h1, h2⟩ => ⟨_, h1, rfl, trivial, h2⟩)
  rintro _ rfl
  simp only [Act.put, List.setIfInBounds_toArray, List.set_cons_succ, List.set_cons_zero]
  apply lk_pure (.bool false) rfl (by intro W; go_simp)
  simp only [Act.put, List.setIfInBounds_toArray, List.set_cons_succ, List.set_cons_zero]
  apply lk_move (.bool false) (.tmp 25) rfl rfl rfl
  simp only [Act.put, List.setIfInBounds_toArray, List.set_cons_succ, List.set_cons_zero]
  apply lk_load 29 (.tmp 4) rfl X 0 _ _ H8.out.2.2.2.1.rng H8.out.2.2.2.1.lt Tryz.underlying29 rfl (size_ev (stripE e) a5) rfl rfl
  simp only [Act.put, List.setIfInBounds_toArray, List.set_cons_succ, List.set_cons_zero]
  apply lk_call (ftS (stripE e)) 9 #[.agg (evC (stripE e) a5).toArray] rfl (by intro W; first | (go_simp; done) | (go_simp; exact ⟨rfl, rfl⟩)) (fun W hW => runSt (HST.out W hW))
  rintro _ ⟨a6, rfl⟩
  simp only [Act.put, List.setIfInBounds_toArray, List.set_cons_succ, List.set_cons_zero]
  apply lk_load 29 (.tmp 4) rfl X 0 _ _ H8.out.2.2.2.1.rng H8.out.2.2.2.1.lt Tryz.underlying29 rfl (size_ev (stripE e) a5) rfl rfl
  simp only [Act.put, List.setIfInBounds_toArray, List.set_cons_succ, List.set_cons_zero]
  refine lk_nil (Fs := []) ?_
  intro W9 hb9 hz
  obtain ⟨⟨-, ⟨a7, he7, hk7⟩⟩, -⟩ := hz
  rw [he7]
  have H9 := Lib.hid (And.intro (H8.out.1.then_ hb9) (And.intro (H8.out.2.1.later hb9) (And.intro (H8.out.2.2.2.1.later hb9) (H8.out.2.2.2.2.2.below hb9))))
  have HC := Lib.hid (refsameE_calls (stripE e) a7 a5 W9 hk7 H9.out.2.2.2)
  clear hb9 hk7 he7 HST H8
  go_wp2_with fail
  refine HC.out.mono ?_
  rintro en W10 ⟨rfl, b⟩
  have H10 := Lib.hid (And.intro (H9.out.1.then_ b) (And.intro (H9.out.2.1.later b) (And.intro (H9.out.2.2.1.later b) (H9.out.2.2.2.below b))))
  clear b HC H9
  have hr := H10.out.2.1.rng
  have HC := Lib.hid (check_calls e a W10 (HM.out.below H10.out.1) (HT.out.below H10.out.1) (HE.out.below H10.out.1) (fun _ => HSM.out))
  go_wp2_with (refine wpList_load_mid rfl 29 (.tmp 1) rfl w.heap.size 0 rfl (evC e a) _ hr Tryz.underlying29 rfl (size_ev _ _) ?_)
  clear hr
  refine HC.out.mono ?_
  rintro en W11 ⟨x, rfl, hx, b⟩
  have H11 := Lib.hid (And.intro (H10.out.1.then_ b) (And.intro (H10.out.2.1.later b) (And.intro (H10.out.2.2.1.later b) (H10.out.2.2.2.below b))))
  have HX := Lib.hid hx
  clear b HC H10 hx
  by_cases hx0 : x = 0
  · subst hx0
    have hr := H11.out.2.2.1.rng
    have HC := Lib.hid (check_calls (stripE e) a5 W11 (HM.out.below H11.out.1) (HT.out.below H11.out.1) H11.out.2.2.2 (fun _ => HSM.out))
    go_wp2_with (refine wpList_load_gd rfl 29 (.tmp 4) rfl X 0 rfl (evC (stripE e) a5) _ hr Tryz.underlying29 rfl (size_ev (stripE e) a5) ?_)
    clear hr
    refine HC.out.mono ?_
    rintro en W12 ⟨y, rfl, hy, b⟩
    obtain rfl := hy.one (strip_chk HX.out)
    have H12 := Lib.hid (And.intro (H11.out.1.then_ b) (And.intro (H11.out.2.1.later b) (H11.out.2.2.1.later b)))
    have d2 : W12.cell? ⟨w.heap.size, 2, none⟩ = some (.string ⟨e.ty.toArray⟩) := H12.out.2.1.cell (k := 2) rfl
    have e2 : W12.cell? ⟨X, 2, none⟩ = some (.string ⟨e.ty.toArray⟩) := H12.out.2.2.cell (k := 2) rfl
    have d16 : W12.cell? ⟨w.heap.size, 16, none⟩ = some (.slice a.S a.ns a.cs) := H12.out.2.1.cell (k := 16) rfl
    have e16 : W12.cell? ⟨X, 16, none⟩ = some (.slice a5.S a.ns a5.cs) := by
      have h1 := H11.out.2.2.2.2.2.2.1.2.1.out
      have h2 := HE.out.2.2.2.1.2.1.out
      have h3 : a5.ns = a.ns := h1.trans h2.symm
      rw [← h3]; exact H12.out.2.2.cell (k := 16) rfl
    clear b hy HC H11
    go_wp2_with fail
    go_ret
    exact ⟨rfl, H12.out.1⟩
  · have hxb : (x != 0) = true := by simpa using hx0
    clear hx0
    go_wp2_with fail
    go_ret
    exact ⟨rfl, H11.out.1⟩
end Go.Proofs.YtkbcbikilgcckaaGreatDoor
