/- Texts put together: JfC. -/
import Derived.Test.YtajkgcmopmpihaaGreatDoorYe1f5adcbe4
import Derived.Test.YtajkgcmopmpihaaGreatDoorYbc60d53a70
import Derived.Deep.RegionHeld3
namespace Go.Proofs.YtajkgcmopmpihaaGreatDoor
open Go.ChangeShapes Go.WideShapes Go.ChangeAt Go.RowKit Go.IntWalk
set_option linter.unusedVariables false
set_option maxRecDepth 100000
def VBel (base : Nat) (w : World) (v : Jv) (A B : Option Addr) (nl cl nm cm : Nat) : Prop := Room nl cl v.l.ext ∧ Room nm cm v.m.ext ∧ JSl (· < base) w false A v.l ∧ JSl (· < base) w true B v.m ∧ Fit v.kd v.n v.s
def JT.nb : JT → Nat
  | .nil => 0
  | .cons _ _ _ _ _ l m r => l.bulk + m.bulk + nb r
theorem bulk_nb : ∀ t : JT, t.bulk = t.ext + t.nb
  | .nil => rfl
  | .cons k kd is n s l m r => by have := bulk_nb r; simp only [JT.bulk, JT.ext, JT.nb]; omega
theorem nb_step {t : JT} {i : Nat} (h : i < t.ext) : (t.fall i).nb = (t.fall i).val.l.bulk + (t.fall i).val.m.bulk + (t.fall (i + 1)).nb := by
  have e := congrArg JT.nb (t.fall_of_lt i h)
  rw [e]; rfl
def FvPost (a : Jv) (pc R : Nat) (w : World) (e : Ending) (w' : World) : Prop :=
  (∃ (A B : Option Addr) (nl cl nm cm : Nat), e = .returned (.agg #[.int .i64 a.kd, .bool a.is, .int .i64 a.n, .string ⟨a.s.toArray⟩, .slice A nl cl, .slice B nm cm]) ∧ VNew w.heap.size w' a A B nl cl nm cm) ∧ (∃ z : Nat, R ≤ z ∧ z ≤ 1048576 ∧ Blk w' pc 87 [.int .i64 (z : Int)]) ∧ Bx w.heap.size pc w w'
theorem cell6n {w : World} {g o b q : Nat} {x0 x1 x2 x3 x4 x5 : Value} (h : ¬ b = g) :
    ((((((w.setCell ⟨g, o, none⟩ x0).setCell ⟨g, o + 1, none⟩ x1).setCell ⟨g, o + 2, none⟩ x2).setCell ⟨g, o + 3, none⟩ x3).setCell ⟨g, o + 4, none⟩ x4).setCell ⟨g, o + 5, none⟩ x5).cell? ⟨b, q, none⟩ = w.cell? ⟨b, q, none⟩ := cell6o h
set_option maxHeartbeats 16000000 in
theorem fval_calls : ∀ (N : Nat) (a : Jv) (A0 B0 : Option Addr) (nl0 cl0 nm0 cm0 pc z R wi base : Nat) (w : World), a.bulk ≤ N → N + wi ≤ 60000 → base ≤ pc → pc < w.heap.size → Blk w pc 87 [.int .i64 (z : Int)] → a.l.bulk + a.m.bulk + R ≤ z → z ≤ 1048576 →
    VBel base w a A0 B0 nl0 cl0 nm0 cm0 → Calls Tryz.prog 55 #[.pointer (some ⟨pc, 0, none⟩), .agg #[.int .i64 a.kd, .bool a.is, .int .i64 a.n, .string ⟨a.s.toArray⟩, .slice A0 nl0 cl0, .slice B0 nm0 cm0], .int .i64 (wi : Int)] w (FvPost a pc R w) := by
  intro N
  induction N with
  | zero => intro a A0 B0 nl0 cl0 nm0 cm0 pc z R wi base w hb; unfold Jv.bulk at hb; omega
  | succ N IH =>
    intro a A0 B0 nl0 cl0 nm0 cm0 pc z R wi base w hb hN hbp hpc hcp hz hz2 hv
    have HIH := Lib.hid (fun a A0 B0 nl0 cl0 nm0 cm0 z R w h1 h3 h4 h5 h6 h7 => IH a A0 B0 nl0 cl0 nm0 cm0 pc z R (wi + 1) base w h1 (by omega) hbp h3 h4 h5 h6 h7)
    clear IH
    have b2 : Below w.heap.size w ((w.alloc (.cells #[.int .i64 a.kd, .bool a.is, .int .i64 a.n, .string ⟨a.s.toArray⟩, .slice A0 nl0 cl0, .slice B0 nm0 cm0] 25)).alloc (.cells #[.int .i64 0, .bool false, .int .i64 0, .string ⟨#[]⟩, .slice none 0 0, .slice none 0 0] 25)) := ((Below.refl _ _).alloc (Nat.le_refl _) _).alloc (by simp) _
    have HB := Lib.hid b2
    have HX := Lib.hid ((Blk.new w [.int .i64 a.kd, .bool a.is, .int .i64 a.n, .string ⟨a.s.toArray⟩, .slice A0 nl0 cl0, .slice B0 nm0 cm0] 25).alloc (.cells #[.int .i64 0, .bool false, .int .i64 0, .string ⟨#[]⟩, .slice none 0 0, .slice none 0 0] 25))
    have HZ := Lib.hid (show Blk ((w.alloc (.cells #[.int .i64 a.kd, .bool a.is, .int .i64 a.n, .string ⟨a.s.toArray⟩, .slice A0 nl0 cl0, .slice B0 nm0 cm0] 25)).alloc (.cells #[.int .i64 0, .bool false, .int .i64 0, .string ⟨#[]⟩, .slice none 0 0, .slice none 0 0] 25)) (w.heap.size + 1) 25 [.int .i64 0, .bool false, .int .i64 0, .string ⟨#[]⟩, .slice none 0 0, .slice none 0 0] by have h := Blk.new (w.alloc (.cells #[.int .i64 a.kd, .bool a.is, .int .i64 a.n, .string ⟨a.s.toArray⟩, .slice A0 nl0 cl0, .slice B0 nm0 cm0] 25)) [.int .i64 0, .bool false, .int .i64 0, .string ⟨#[]⟩, .slice none 0 0, .slice none 0 0] 25; rw [show (w.alloc (.cells #[.int .i64 a.kd, .bool a.is, .int .i64 a.n, .string ⟨a.s.toArray⟩, .slice A0 nl0 cl0, .slice B0 nm0 cm0] 25)).heap.size = w.heap.size + 1 by simp] at h; exact h)
    have hnl := bulk_nb a.l
    have hnm := bulk_nb a.m
    have hbl : ∀ i, i < a.l.ext → (a.l.fall i).val.bulk ≤ N := fun i hi => by have h1 := JT.bulk_val a.l i hi; unfold Jv.bulk at hb; omega
    have hbm : ∀ i, i < a.m.ext → (a.m.fall i).val.bulk ≤ N := fun i hi => by have h1 := JT.bulk_val a.m i hi; unfold Jv.bulk at hb; omega
    have hb0 : a.l.bulk + a.m.bulk ≤ 60000 := by unfold Jv.bulk at hb; omega
    obtain ⟨⟨hn1, hn2, hn3⟩, ⟨hn4, hn5, hn6⟩, hs1, hs2, hf⟩ := hv
    have hnl0 : nl0 ≤ 60000 := by omega
    have hnm0 : nm0 ≤ 60000 := by omega
    have hwi6 : wi ≤ 60000 := by omega
    obtain ⟨z2, hz3⟩ : ∃ z2 : Nat, z = z2 + nl0 + nm0 := ⟨z - nl0 - nm0, by omega⟩
    have hz4 : R + a.m.nb + a.l.nb ≤ z2 := by omega
    have hz5 : z2 ≤ 1048576 := by omega
    have HLN := Lib.hid hn1
    have HMN := Lib.hid hn4
    have HS := Lib.hid (And.intro hs1 hs2)
    have HFT := Lib.hid hf
    have HBL := Lib.hid (And.intro hbl hbm)
    have HRM := Lib.hid (And.intro (And.intro hn2 hn3) (And.intro hn5 hn6))
    have HZ4 := Lib.hid (And.intro hz4 hz5)
    have HPC := Lib.hid (And.intro hbp hpc)
    have HCP := Lib.hid (hcp.below b2 hpc)
    have HC0 := Lib.hid hcp
    have hq0 := HCP.out.cell (k := 0) rfl
    have hfz := HCP.out.frozen 0
    obtain ⟨d0, d1, d2, d3, d4, d5, e0, e1, e2, e3, e4, e5⟩ := cells6s HX.out
    have ht0 : decide ((z2 : Int) < 0) = false := by simp
    have ht1 : ((wi : Int) == 65536) = false := by rw [beq_eq_false_iff_ne]; omega
    have hsum : IntKind.i64.wrap ((nl0 : Int) + (nm0 : Int)) = ((nl0 + nm0 : Nat) : Int) := by rw [IntWalk.i64_in _ (by omega)]; omega
    have hsub : IntKind.i64.wrap ((z : Int) - ((nl0 + nm0 : Nat) : Int)) = (z2 : Int) := by rw [IntWalk.i64_in _ (by omega)]; omega
    obtain ⟨sm, hsm⟩ : ∃ sm : Nat, nl0 + nm0 = sm := ⟨_, rfl⟩
    rw [hsm] at hsum hsub
    have hsum2 : IntKind.i64.wrap ((nl0 : Int) + (nm0 : Int)) = (sm : Int) := hsum
    clear b2 hnl hnm hbl hbm hn1 hn2 hn3 hn4 hn5 hn6 hs1 hs2 hf hb hN hz hz3 hz4 hz5 hb0 hbp hcp hz2 hsm hsum
    go_enter Tryz.func55, Tryz.ntmps55
    go_wp2_with fail
    go_region
    have hszs : (w.setCell ⟨pc, 0, none⟩ (.int .i64 (z2 : Int))).heap.size = w.heap.size := by simp [World.setCell]
    have gx : Blk (((w.setCell ⟨pc, 0, none⟩ (.int .i64 (z2 : Int))).alloc (.cells #[.int .i64 a.kd, .bool a.is, .int .i64 a.n, .string ⟨a.s.toArray⟩, .slice A0 nl0 cl0, .slice B0 nm0 cm0] 25)).alloc (.cells #[.int .i64 0, .bool false, .int .i64 0, .string ⟨#[]⟩, .slice none 0 0, .slice none 0 0] 25)).drew w.heap.size 25 [.int .i64 a.kd, .bool a.is, .int .i64 a.n, .string ⟨a.s.toArray⟩, .slice A0 nl0 cl0, .slice B0 nm0 cm0] := by have h := (Blk.new (w.setCell ⟨pc, 0, none⟩ (.int .i64 (z2 : Int))) [.int .i64 a.kd, .bool a.is, .int .i64 a.n, .string ⟨a.s.toArray⟩, .slice A0 nl0 cl0, .slice B0 nm0 cm0] 25).alloc (.cells #[.int .i64 0, .bool false, .int .i64 0, .string ⟨#[]⟩, .slice none 0 0, .slice none 0 0] 25); rw [hszs] at h; exact h.drew
    have gz : Blk (((w.setCell ⟨pc, 0, none⟩ (.int .i64 (z2 : Int))).alloc (.cells #[.int .i64 a.kd, .bool a.is, .int .i64 a.n, .string ⟨a.s.toArray⟩, .slice A0 nl0 cl0, .slice B0 nm0 cm0] 25)).alloc (.cells #[.int .i64 0, .bool false, .int .i64 0, .string ⟨#[]⟩, .slice none 0 0, .slice none 0 0] 25)).drew (w.heap.size + 1) 25 [.int .i64 0, .bool false, .int .i64 0, .string ⟨#[]⟩, .slice none 0 0, .slice none 0 0] := by have h := Blk.new ((w.setCell ⟨pc, 0, none⟩ (.int .i64 (z2 : Int))).alloc (.cells #[.int .i64 a.kd, .bool a.is, .int .i64 a.n, .string ⟨a.s.toArray⟩, .slice A0 nl0 cl0, .slice B0 nm0 cm0] 25)) [.int .i64 0, .bool false, .int .i64 0, .string ⟨#[]⟩, .slice none 0 0, .slice none 0 0] 25; rw [show ((w.setCell ⟨pc, 0, none⟩ (.int .i64 (z2 : Int))).alloc (.cells #[.int .i64 a.kd, .bool a.is, .int .i64 a.n, .string ⟨a.s.toArray⟩, .slice A0 nl0 cl0, .slice B0 nm0 cm0] 25)).heap.size = w.heap.size + 1 by simp [World.setCell]] at h; exact h.drew
    have gp : Blk (((w.setCell ⟨pc, 0, none⟩ (.int .i64 (z2 : Int))).alloc (.cells #[.int .i64 a.kd, .bool a.is, .int .i64 a.n, .string ⟨a.s.toArray⟩, .slice A0 nl0 cl0, .slice B0 nm0 cm0] 25)).alloc (.cells #[.int .i64 0, .bool false, .int .i64 0, .string ⟨#[]⟩, .slice none 0 0, .slice none 0 0] 25)).drew pc 87 [.int .i64 (z2 : Int)] := by
      have h : Blk (w.setCell ⟨pc, 0, none⟩ (.int .i64 (z2 : Int))) pc 87 [.int .i64 (z2 : Int)] := (HC0.out.set_ 0 (.int .i64 (z2 : Int)))
      exact ((h.alloc _).alloc _).drew
    have gb : Bx w.heap.size pc w (((w.setCell ⟨pc, 0, none⟩ (.int .i64 (z2 : Int))).alloc (.cells #[.int .i64 a.kd, .bool a.is, .int .i64 a.n, .string ⟨a.s.toArray⟩, .slice A0 nl0 cl0, .slice B0 nm0 cm0] 25)).alloc (.cells #[.int .i64 0, .bool false, .int .i64 0, .string ⟨#[]⟩, .slice none 0 0, .slice none 0 0] 25)).drew := ((((Bx.refl _ _ _).setCell (.inr rfl) _).alloc (by rw [hszs]; exact Nat.le_refl _) _).alloc (by simp [World.setCell]) _).drew
    clear HB HX HZ HCP hq0 hfz d0 d1 d2 d3 d4 d5 e0 e1 e2 e3 e4 e5 hsum2 hsub hszs HC0
    generalize (((w.setCell ⟨pc, 0, none⟩ (.int .i64 (z2 : Int))).alloc (.cells #[.int .i64 a.kd, .bool a.is, .int .i64 a.n, .string ⟨a.s.toArray⟩, .slice A0 nl0 cl0, .slice B0 nm0 cm0] 25)).alloc (.cells #[.int .i64 0, .bool false, .int .i64 0, .string ⟨#[]⟩, .slice none 0 0, .slice none 0 0] 25)).drew = wa at *
    have HX := Lib.hid gx
    have HZ := Lib.hid gz
    have HP := Lib.hid gp
    have HB := Lib.hid gb
    have HSA := Lib.hid (show VBel base wa a A0 B0 nl0 cl0 nm0 cm0 from ⟨⟨HLN.out, HRM.out.1⟩, ⟨HMN.out, HRM.out.2⟩, HS.out.1.bx gb (fun k hk => ⟨by have := HPC.out.1; have := HPC.out.2; omega, by have := HPC.out.1; omega⟩), HS.out.2.bx gb (fun k hk => ⟨by have := HPC.out.1; have := HPC.out.2; omega, by have := HPC.out.1; omega⟩), HFT.out⟩)
    have hq0 := gp.cell (k := 0) rfl
    obtain ⟨d0, d1, d2, d3, d4, d5, e0, e1, e2, e3, e4, e5⟩ := cells6s gx
    have hba : base ≤ wa.heap.size := by have := HPC.out.1; have := HPC.out.2; have := gb.size; omega
    have HCV := Lib.hid (cloneV_calls (· < base) A0 nl0 cl0 a.l wa (fun k hk => Nat.lt_of_lt_of_le hk hba) HLN.out (by omega) HSA.out.2.2.1)
    clear gx gz gp gb
    go_wp2_with fail
    refine HCV.out.mono ?_
    rintro e w3 ⟨⟨A3, c3, rfl, hc3, hrow, _⟩, b3⟩
    have HX3 := Lib.hid (HX.out.later b3)
    have HZ3 := Lib.hid (HZ.out.later b3)
    have HP3 := Lib.hid (HP.out.later b3)
    have HB3 := Lib.hid (HB.out.thenB b3)
    have HLO := Lib.hid (show w.heap.size + 2 ≤ wa.heap.size from HZ.out.lt)
    have HR3 := Lib.hid (RowM.of_clone (lo := w.heap.size + 2) hrow HLO.out)
    have HS3 := Lib.hid (HSA.out.2.2.2.1.bx (Bx.of (pc := pc) b3) (fun k hk => ⟨Nat.lt_of_lt_of_le hk hba, by have := HPC.out.1; omega⟩))
    clear d0 d1 d2 d3 d4 d5 e0 e1 e2 e3 e4 e5 hq0 hrow b3 hba
    obtain ⟨d0, d1, d2, d3, d4, d5, e0, e1, e2, e3, e4, e5⟩ := cells6s HX3.out
    go_wp2_with fail
    refine wp_gen (fun W => Bx w.heap.size pc w W ∧ Blk W w.heap.size 25 [.int .i64 a.kd, .bool a.is, .int .i64 a.n, .string ⟨a.s.toArray⟩, .slice A3 nl0 c3, .slice B0 nm0 cm0] ∧ Blk W (w.heap.size + 1) 25 [.int .i64 0, .bool false, .int .i64 0, .string ⟨#[]⟩, .slice none 0 0, .slice none 0 0] ∧ Blk W pc 87 [.int .i64 (z2 : Int)] ∧ RowM base (w.heap.size + 2) false W A3 nl0 a.l 0 ∧ JSl (· < base) W true B0 a.m) ⟨?_, ?_, ?_, ?_, ?_, ?_⟩ ?_
    · exact HB3.out.setCell (.inl (Nat.le_refl _)) _
    · exact HX3.out.set_ 4 _
    · exact (Deep.blk_setCell_other _ _ _ _ (show w.heap.size + 1 ≠ w.heap.size by omega)).trans HZ3.out
    · exact (Deep.blk_setCell_other _ _ _ _ (show pc ≠ w.heap.size by omega)).trans HP3.out
    · exact HR3.out.set (by have := HPC.out.1; omega) (by omega)
    · exact HS3.out.stay (fun b o hb => World.cell?_of_block (w := w3) (Deep.blk_setCell_other _ _ _ _ (show b ≠ w.heap.size by have := HPC.out.1; omega))) (fun _ h => h)
    clear HX HZ HP HB HSA HCV HX3 HZ3 HP3 HB3 HR3 HS3 HLO d0 d1 d2 d3 d4 d5 e0 e1 e2 e3 e4 e5
    rintro wg ⟨g1, g2, g3, g4, g5, g6⟩
    have HX := Lib.hid g2
    have HS2 := Lib.hid g6
    have hst := Lib.hid (show ∃ z : Nat, R + a.m.nb + (a.l.fall 0).nb ≤ z ∧ z ≤ 1048576 ∧ Blk wg pc 87 [.int .i64 (z : Int)] from ⟨z2, by rw [JT.fall_zero]; exact HZ4.out.1, HZ4.out.2, g4⟩)
    have HG := Lib.hid (And.intro g1 (And.intro g2 (And.intro g3 g5)))
    have d4 := g2.cell (k := 4) rfl
    clear g1 g2 g3 g4 g5 g6
    go_wp2_with fail
    clear d4
    go_loopw [42] (fun i wr => ∃ k : Nat, k ≤ nl0 ∧ i = .int .i64 (k : Int) ∧ Hid (Bx w.heap.size pc w wr) ∧ Hid (Blk wr w.heap.size 25 [.int .i64 a.kd, .bool a.is, .int .i64 a.n, .string ⟨a.s.toArray⟩, .slice A3 nl0 c3, .slice B0 nm0 cm0] ∧ Blk wr (w.heap.size + 1) 25 [.int .i64 0, .bool false, .int .i64 0, .string ⟨#[]⟩, .slice none 0 0, .slice none 0 0]) ∧ Hid (∃ z : Nat, R + a.m.nb + (a.l.fall k).nb ≤ z ∧ z ≤ 1048576 ∧ Blk wr pc 87 [.int .i64 (z : Int)]) ∧ Hid (RowM base (w.heap.size + 2) false wr A3 nl0 a.l k)) (fun i _ => nl0 - (intOf i).toNat)
    case atStart => exact ⟨0, Nat.zero_le _, rfl, Lib.hid HG.out.1, Lib.hid ⟨HG.out.2.1, HG.out.2.2.1⟩, hst, Lib.hid HG.out.2.2.2⟩
    case round =>
      obtain ⟨k, hk, rfl, hBr, hXr, hZr, hRr⟩ := hrel
      by_cases hlt : k < nl0
      · have HLT := Lib.hid (show k < a.l.ext by rw [← HLN.out]; exact hlt)
        obtain ⟨zr, hz1, hz2, hcp⟩ := hZr.out
        rcases hRr.out with h0 | ⟨g, cs, rfl, r2, r3, r4, r5, r6⟩
        · exact absurd HLT.out (by omega)
        have HRM5 := Lib.hid (And.intro r2 (And.intro r3 (And.intro r4 (And.intro r5 r6))))
        obtain ⟨hkey, eA, enl, ecl, eB, enm, ecm, hce, x1, x2, x3, x4, x5⟩ := (r6 k (Nat.le_refl _) HLT.out).six
        have f0 := r3.cell (hce 0 _ rfl); have f1 := r3.cell (hce 1 _ rfl); have f2 := r3.cell (hce 2 _ rfl); have f3 := r3.cell (hce 3 _ rfl); have f4 := r3.cell (hce 4 _ rfl); have f5 := r3.cell (hce 5 _ rfl)
        have HCE := Lib.hid hce
        have hbu := HBL.out.1 k HLT.out
        have hnb := nb_step HLT.out
        have HVN := Lib.hid (Eq.refl (a.l.fall k).val)
        obtain ⟨eu, hev⟩ : ∃ eu, (a.l.fall k).val = eu := ⟨_, rfl⟩
        rw [hev] at f0 f1 f2 f3 x1 x2 x3 x4 x5 hbu hnb
        have HEV := Lib.hid (And.intro hev (And.intro hkey hz1))
        have f0 : wr.cell? ⟨g, k * 6, none⟩ = some (.int .i64 eu.kd) := f0
        have f1 : wr.cell? ⟨g, k * 6 + 1, none⟩ = some (.bool eu.is) := f1
        have f2 : wr.cell? ⟨g, k * 6 + 2, none⟩ = some (.int .i64 eu.n) := f2
        have f3 : wr.cell? ⟨g, k * 6 + 3, none⟩ = some (.string ⟨eu.s.toArray⟩) := f3
        have f4 : wr.cell? ⟨g, k * 6 + 4, none⟩ = some (.slice eA enl ecl) := f4
        have f5 : wr.cell? ⟨g, k * 6 + 5, none⟩ = some (.slice eB enm ecm) := f5
        have h5 : Below wr.heap.size wr (wr.alloc (.cells #[.int .i64 eu.kd, .bool eu.is, .int .i64 eu.n, .string ⟨eu.s.toArray⟩, .slice eA enl ecl, .slice eB enm ecm] 25)) := (Below.refl _ _).alloc (Nat.le_refl _) _
        have HB5 := Lib.hid h5
        have HE5 := Lib.hid (Blk.new wr [.int .i64 eu.kd, .bool eu.is, .int .i64 eu.n, .string ⟨eu.s.toArray⟩, .slice eA enl ecl, .slice eB enm ecm] 25)
        have HR5 := Lib.hid (r3.later h5)
        have hg5 : g < wr.heap.size := r3.lt
        have hpr : pc < wr.heap.size := hcp.lt
        have hbr : base ≤ wr.heap.size := by have := HPC.out.1; omega
        have HX5 := Lib.hid (hXr.out.1.later h5)
        have hw5 : (wr.alloc (.cells #[.int .i64 eu.kd, .bool eu.is, .int .i64 eu.n, .string ⟨eu.s.toArray⟩, .slice eA enl ecl, .slice eB enm ecm] 25)).heap.size = wr.heap.size + 1 := by simp
        have HCC := Lib.hid (fun W (hW : Below (wr.alloc (.cells #[.int .i64 eu.kd, .bool eu.is, .int .i64 eu.n, .string ⟨eu.s.toArray⟩, .slice eA enl ecl, .slice eB enm ecm] 25)).heap.size (wr.alloc (.cells #[.int .i64 eu.kd, .bool eu.is, .int .i64 eu.n, .string ⟨eu.s.toArray⟩, .slice eA enl ecl, .slice eB enm ecm] 25)) W) => show Calls Tryz.prog 55 #[.pointer (some ⟨pc, 0, none⟩), .agg #[.int .i64 eu.kd, .bool eu.is, .int .i64 eu.n, .string ⟨eu.s.toArray⟩, .slice eA enl ecl, .slice eB enm ecm], .int .i64 ((wi : Int) + 1)] W (FvPost eu pc (R + a.m.nb + (a.l.fall (k + 1)).nb) W) from HIH.out eu eA eB enl ecl enm ecm zr (R + a.m.nb + (a.l.fall (k + 1)).nb) W hbu (Nat.lt_of_lt_of_le hpr (Nat.le_trans h5.size hW.size)) (hcp.later (h5.then_ hW)) (by omega) hz2
          ⟨x1, x2, x3.bx (Bx.of (pc := pc) (h5.then_ hW)) (fun q hq => ⟨Nat.lt_of_lt_of_le hq hbr, by have := HPC.out.1; omega⟩), x4.bx (Bx.of (pc := pc) (h5.then_ hW)) (fun q hq => ⟨Nat.lt_of_lt_of_le hq hbr, by have := HPC.out.1; omega⟩), x5⟩)
        have HCD := Lib.hid (fun W (hW : Below (wr.alloc (.cells #[.int .i64 eu.kd, .bool eu.is, .int .i64 eu.n, .string ⟨eu.s.toArray⟩, .slice eA enl ecl, .slice eB enm ecm] 25)).heap.size (wr.alloc (.cells #[.int .i64 eu.kd, .bool eu.is, .int .i64 eu.n, .string ⟨eu.s.toArray⟩, .slice eA enl ecl, .slice eB enm ecm] 25)) W) => show Calls Tryz.prog 55 #[.pointer (some ⟨pc, 0, none⟩), .agg #[.int .i64 eu.kd, .bool eu.is, .int .i64 eu.n, .string ⟨eu.s.toArray⟩, .slice eA enl ecl, .slice eB enm ecm], .int .i64 (IntKind.i64.wrap ((wi : Int) + 1))] W (FvPost eu pc (R + a.m.nb + (a.l.fall (k + 1)).nb) W) by rw [show IntKind.i64.wrap ((wi : Int) + 1) = (wi : Int) + 1 from IntWalk.i64_in _ (by omega)]; exact HCC.out W hW)
        have hgx : ¬ w.heap.size = g := by omega
        have hgy : ¬ wr.heap.size = g := by omega
        have hgz : ¬ pc = g := by omega
        have hx5 := HX5.out
        have d4 := hx5.cell (k := 4) rfl
        obtain ⟨e0, e1, e2, e3, e4, e5, _⟩ := cells6s HE5.out
        clear hce x1 x2 x3 x4 x5 hbu hev hkey r2 r3 r4 r5 r6 h5 hnb hz1 hcp HVN hx5
        go_wp2_with fail
        go_region_held3 (fun W => W.cell? ⟨w.heap.size, 4, none⟩ = some (.slice (some ⟨g, 0, none⟩) nl0 c3) ∧ W.cell? ⟨wr.heap.size, 0, none⟩ = some (.int .i64 eu.kd) ∧ W.cell? ⟨wr.heap.size, 1, none⟩ = some (.bool eu.is) ∧ W.cell? ⟨wr.heap.size, 2, none⟩ = some (.int .i64 eu.n) ∧ W.cell? ⟨wr.heap.size, 3, none⟩ = some (.string ⟨eu.s.toArray⟩) ∧ W.cell? ⟨wr.heap.size, 4, none⟩ = some (.slice eA enl ecl) ∧ W.cell? ⟨wr.heap.size, 5, none⟩ = some (.slice eB enm ecm))
          (first
            | (refine ⟨?_, ?_, ?_, ?_, ?_, ?_, ?_⟩ <;> with_reducible assumption)
            | (refine ⟨?_, ?_, ?_, ?_, ?_, ?_, ?_⟩ <;> (first | rw [cell6n hgx] | rw [cell6n hgy]) <;> with_reducible assumption)
            | go_keep)
          ((first
            | (go_at_call 55; (with_reducible refine (HCC.out _ (by first | exact Below.refl _ _ | exact (Below.refl _ _).drew | exact (Below.refl _ _).drewN _)).mono ?_); rintro e w6 ⟨⟨A1, B1, nl1, cl1, nm1, cm1, rfl, hv1⟩, ⟨z6, hz6, hz7, hcp6⟩, b6⟩; have b56 := (show Bx (wr.alloc (.cells #[.int .i64 eu.kd, .bool eu.is, .int .i64 eu.n, .string ⟨eu.s.toArray⟩, .slice eA enl ecl, .slice eB enm ecm] 25)).heap.size pc (wr.alloc (.cells #[.int .i64 eu.kd, .bool eu.is, .int .i64 eu.n, .string ⟨eu.s.toArray⟩, .slice eA enl ecl, .slice eB enm ecm] 25)) _ by first | exact Bx.refl _ _ _ | exact (Bx.refl _ _ _).drew | exact (Bx.refl _ _ _).drewN _).then_ b6; have hm6 := b56.blk HX5.out HX5.out.lt (by omega); have he6 := b56.blk HE5.out HE5.out.lt (by omega); have hr6 := b56.blk HR5.out HR5.out.lt (by omega); have q4 := hm6.cell (k := 4) rfl; obtain ⟨s0, s1, s2, s3, s4, s5, _⟩ := cells6s he6; have t0 : w6.cell? ⟨g, k * 6, none⟩ = some (.int .i64 (a.l.fall k).val.kd) := hr6.cell (HCE.out 0 _ rfl); have t1 : w6.cell? ⟨g, k * 6 + 1, none⟩ = some (.bool (a.l.fall k).val.is) := hr6.cell (HCE.out 1 _ rfl); have t2 : w6.cell? ⟨g, k * 6 + 2, none⟩ = some (.int .i64 (a.l.fall k).val.n) := hr6.cell (HCE.out 2 _ rfl); have t3 : w6.cell? ⟨g, k * 6 + 3, none⟩ = some (strV (a.l.fall k).val.s) := hr6.cell (HCE.out 3 _ rfl); have t4 : w6.cell? ⟨g, k * 6 + 4, none⟩ = some (.slice eA enl ecl) := hr6.cell (HCE.out 4 _ rfl); have t5 : w6.cell? ⟨g, k * 6 + 5, none⟩ = some (.slice eB enm ecm) := hr6.cell (HCE.out 5 _ rfl); have v0 := hr6.frozen (k * 6); have v1 := hr6.frozen (k * 6 + 1); have v2 := hr6.frozen (k * 6 + 2); have v3 := hr6.frozen (k * 6 + 3); have v4 := hr6.frozen (k * 6 + 4); have v5 := hr6.frozen (k * 6 + 5))
            | (go_at_call 55; (with_reducible refine (HCD.out _ (by first | exact Below.refl _ _ | exact (Below.refl _ _).drew | exact (Below.refl _ _).drewN _)).mono ?_); rintro e w6 ⟨⟨A1, B1, nl1, cl1, nm1, cm1, rfl, hv1⟩, ⟨z6, hz6, hz7, hcp6⟩, b6⟩; have b56 := (show Bx (wr.alloc (.cells #[.int .i64 eu.kd, .bool eu.is, .int .i64 eu.n, .string ⟨eu.s.toArray⟩, .slice eA enl ecl, .slice eB enm ecm] 25)).heap.size pc (wr.alloc (.cells #[.int .i64 eu.kd, .bool eu.is, .int .i64 eu.n, .string ⟨eu.s.toArray⟩, .slice eA enl ecl, .slice eB enm ecm] 25)) _ by first | exact Bx.refl _ _ _ | exact (Bx.refl _ _ _).drew | exact (Bx.refl _ _ _).drewN _).then_ b6; have hm6 := b56.blk HX5.out HX5.out.lt (by omega); have he6 := b56.blk HE5.out HE5.out.lt (by omega); have hr6 := b56.blk HR5.out HR5.out.lt (by omega); have q4 := hm6.cell (k := 4) rfl; obtain ⟨s0, s1, s2, s3, s4, s5, _⟩ := cells6s he6; have t0 : w6.cell? ⟨g, k * 6, none⟩ = some (.int .i64 (a.l.fall k).val.kd) := hr6.cell (HCE.out 0 _ rfl); have t1 : w6.cell? ⟨g, k * 6 + 1, none⟩ = some (.bool (a.l.fall k).val.is) := hr6.cell (HCE.out 1 _ rfl); have t2 : w6.cell? ⟨g, k * 6 + 2, none⟩ = some (.int .i64 (a.l.fall k).val.n) := hr6.cell (HCE.out 2 _ rfl); have t3 : w6.cell? ⟨g, k * 6 + 3, none⟩ = some (strV (a.l.fall k).val.s) := hr6.cell (HCE.out 3 _ rfl); have t4 : w6.cell? ⟨g, k * 6 + 4, none⟩ = some (.slice eA enl ecl) := hr6.cell (HCE.out 4 _ rfl); have t5 : w6.cell? ⟨g, k * 6 + 5, none⟩ = some (.slice eB enm ecm) := hr6.cell (HCE.out 5 _ rfl); have v0 := hr6.frozen (k * 6); have v1 := hr6.frozen (k * 6 + 1); have v2 := hr6.frozen (k * 6 + 2); have v3 := hr6.frozen (k * 6 + 3); have v4 := hr6.frozen (k * 6 + 4); have v5 := hr6.frozen (k * 6 + 5))
            | fail))
        have hHR : RowM base (w.heap.size + 2) false (set6o w6 g (k * 6) (.int .i64 eu.kd) (.bool eu.is) (.int .i64 eu.n) (.string ⟨eu.s.toArray⟩) (.slice A1 nl1 cl1) (.slice B1 nm1 cm1)) (some ⟨g, 0, none⟩) nl0 a.l (k + 1) := by
          have h := RowM.step (base := base) (lo := (w.heap.size + 2)) (n := nl0) (k := k) (mem := false) (w := w6) (t := a.l) (g := g) (H := (wr.alloc (.cells #[.int .i64 eu.kd, .bool eu.is, .int .i64 eu.n, .string ⟨eu.s.toArray⟩, .slice eA enl ecl, .slice eB enm ecm] 25)).heap.size) (cs := cs) (A1 := A1) (B1 := B1) (nl1 := nl1) (cl1 := cl1) (nm1 := nm1) (cm1 := cm1) HRM5.out.1 hr6 HRM5.out.2.2.1
            (fun i hi => (HRM5.out.2.2.2.1 i hi).stay (fun q o hq => (b56.cell (by have := hq.2.1; rw [hw5]; omega) (by have := hq.1; omega)).trans (HB5.out.cell (p := ⟨q, o, none⟩) hq.2.1)) (fun q hq => ⟨hq.1, by have := hq.2.1; have := b56.size; rw [hw5] at this; omega, hq.2.2⟩))
            (fun i h1 h2 => (HRM5.out.2.2.2.2 i h1 h2).stay (fun q o hq => (b56.cell (by rw [hw5]; omega) (by have := HPC.out.1; omega)).trans (HB5.out.cell (p := ⟨q, o, none⟩) (by show q < _; omega))) (fun q hq => hq))
            hlt HLN.out (by have := HPC.out.1; omega) (by rw [hw5]; have := HRM5.out.1; omega) (by rw [hw5]; omega) (by rw [HEV.out.1]; exact hv1)
          rw [HEV.out.1] at h
          exact h
        have HR7 := Lib.hid hHR
        have HB7 := Lib.hid (bx6o (g := g) (o := k * 6) (x0 := .int .i64 eu.kd) (x1 := .bool eu.is) (x2 := .int .i64 eu.n) (x3 := .string ⟨eu.s.toArray⟩) (x4 := .slice A1 nl1 cl1) (x5 := .slice B1 nm1 cm1) ((hBr.out.alloc hBr.out.size (.cells #[.int .i64 eu.kd, .bool eu.is, .int .i64 eu.n, .string ⟨eu.s.toArray⟩, .slice eA enl ecl, .slice eB enm ecm] 25)).then_ b56) (.inl (by have := HRM5.out.1; omega)))
        have HX7 := Lib.hid (show Blk (set6o w6 g (k * 6) (.int .i64 eu.kd) (.bool eu.is) (.int .i64 eu.n) (.string ⟨eu.s.toArray⟩) (.slice A1 nl1 cl1) (.slice B1 nm1 cm1)) w.heap.size 25 [.int .i64 a.kd, .bool a.is, .int .i64 a.n, .string ⟨a.s.toArray⟩, .slice (some ⟨g, 0, none⟩) nl0 c3, .slice B0 nm0 cm0] ∧ Blk (set6o w6 g (k * 6) (.int .i64 eu.kd) (.bool eu.is) (.int .i64 eu.n) (.string ⟨eu.s.toArray⟩) (.slice A1 nl1 cl1) (.slice B1 nm1 cm1)) (w.heap.size + 1) 25 [.int .i64 0, .bool false, .int .i64 0, .string ⟨#[]⟩, .slice none 0 0, .slice none 0 0] from ⟨far6o hm6 hgx, far6o (b56.blk (hXr.out.2.later HB5.out) (by rw [hw5]; have := hXr.out.2.lt; omega) (by omega)) (by have := HRM5.out.1; omega)⟩)
        have HZ7 := Lib.hid (show ∃ z : Nat, R + a.m.nb + (a.l.fall (k + 1)).nb ≤ z ∧ z ≤ 1048576 ∧ Blk (set6o w6 g (k * 6) (.int .i64 eu.kd) (.bool eu.is) (.int .i64 eu.n) (.string ⟨eu.s.toArray⟩) (.slice A1 nl1 cl1) (.slice B1 nm1 cm1)) pc 87 [.int .i64 (z : Int)] from ⟨z6, hz6, hz7, far6o hcp6 hgz⟩)
        clear hHR hv1 hz6 hz7 hcp6 b6 b56 hm6 he6 hr6 q4 s0 s1 s2 s3 s4 s5 t0 t1 t2 t3 t4 t5 v0 v1 v2 v3 v4 v5 d4 f0 f1 f2 f3 f4 f5 e0 e1 e2 e3 e4 e5
        go_wp2_with fail
        go_roundw
        case rel =>
          first
            | exact ⟨k + 1, by omega, by go_num, HB7, HX7, HZ7, HR7⟩
            | (repeat apply Exists.intro
               refine ⟨?e0, ?e1, HB7, HX7, HZ7, HR7⟩
               case e1 => go_num
               case e0 => omega)
        case measure => simp [intOf]; omega
      · obtain rfl : nl0 = k := by omega
        obtain ⟨w3, hw3⟩ : ∃ x, x = wr := ⟨_, rfl⟩
        subst hw3
        have hR' := hRr.out
        rw [show RowM base (w.heap.size + 2) false w3 A3 nl0 a.l nl0 = RowM base (w.heap.size + 2) false w3 A3 nl0 a.l a.l.ext by rw [← HLN.out]] at hR'
        have HL3 := Lib.hid hR'.done
        obtain ⟨z3, hz1, hz2, hcp⟩ := hZr.out
        have HCP3 := Lib.hid hcp
        have HZB3 := Lib.hid (show R + a.m.nb ≤ z3 ∧ z3 ≤ 1048576 from ⟨by omega, hz2⟩)
        obtain ⟨d0, d1, d2, d3, d4, d5, e0, e1, e2, e3, e4, e5⟩ := cells6s hXr.out.1
        have hba : base ≤ w3.heap.size := by have := HPC.out.1; have := HPC.out.2; have := hBr.out.size; omega
        have HCM := Lib.hid (cloneM_calls (· < base) B0 nm0 cm0 a.m w3 (fun k hk => Nat.lt_of_lt_of_le hk hba) HMN.out (by omega) (HS.out.2.bx hBr.out (fun q hq => ⟨by have := HPC.out.1; have := HPC.out.2; omega, by have := HPC.out.1; omega⟩)))
        have HLO := Lib.hid (show w.heap.size + 2 ≤ w3.heap.size from hXr.out.2.lt)
        clear hR' hRr hZr hz1 hz2 hcp
        go_wp2_with fail
        refine HCM.out.mono ?_
        rintro e w4 ⟨⟨B3, c4, rfl, hc4, hrow, _⟩, b4⟩
        have HX4 := Lib.hid (hXr.out.1.later b4)
        have HZ4' := Lib.hid (hXr.out.2.later b4)
        have HP4 := Lib.hid (HCP3.out.later b4)
        have HB4 := Lib.hid (hBr.out.trans ((Bx.of (pc := pc) b4).mono hBr.out.size))
        have HR4 := Lib.hid (RowM.of_clone (lo := w3.heap.size) hrow (Nat.le_refl _))
        have HSZ := Lib.hid b4.size
        have HL4 := Lib.hid (HL3.out.bx (Bx.of (pc := pc) b4) (fun q hq => ⟨hq.2, by have := hq.1; omega⟩))
        clear d0 d1 d2 d3 d4 d5 e0 e1 e2 e3 e4 e5 hrow b4 hba
        obtain ⟨d0, d1, d2, d3, d4, d5, e0, e1, e2, e3, e4, e5⟩ := cells6s HX4.out
        go_wp2_with fail
        refine wp_gen (fun W => Bx w.heap.size pc w W ∧ Blk W w.heap.size 25 [.int .i64 a.kd, .bool a.is, .int .i64 a.n, .string ⟨a.s.toArray⟩, .slice A3 nl0 c3, .slice B3 nm0 c4] ∧ Blk W (w.heap.size + 1) 25 [.int .i64 0, .bool false, .int .i64 0, .string ⟨#[]⟩, .slice none 0 0, .slice none 0 0] ∧ Blk W pc 87 [.int .i64 (z3 : Int)] ∧ RowM base w3.heap.size true W B3 nm0 a.m 0 ∧ JSl (fun b => w.heap.size + 2 ≤ b ∧ b < w3.heap.size) W false A3 a.l ∧ w3.heap.size ≤ W.heap.size) ⟨?_, ?_, ?_, ?_, ?_, ?_, ?_⟩ ?_
        · exact HB4.out.setCell (.inl (Nat.le_refl _)) _
        · exact HX4.out.set_ 5 _
        · exact (Deep.blk_setCell_other _ _ _ _ (show w.heap.size + 1 ≠ w.heap.size by omega)).trans HZ4'.out
        · exact (Deep.blk_setCell_other _ _ _ _ (show pc ≠ w.heap.size by omega)).trans HP4.out
        · exact HR4.out.set (by have := HPC.out.1; omega) (by have := HLO.out; omega)
        · exact HL4.out.stay (fun b o hb => World.cell?_of_block (w := w4) (Deep.blk_setCell_other _ _ _ _ (show b ≠ w.heap.size by have := hb.1; omega))) (fun _ h => h)
        · rw [show ∀ (x : World) (p : Addr) (u : Value), (x.setCell p u).heap.size = x.heap.size from fun x p u => by simp [World.setCell]]; exact HSZ.out
        clear HSZ HX4 HZ4' HP4 HB4 HR4 HL4 HCM HL3 HCP3 hBr hXr HG hst HX HS2 d0 d1 d2 d3 d4 d5 e0 e1 e2 e3 e4 e5
        rintro wh ⟨g1, g2, g3, g4, g5, g6⟩
        have hst := Lib.hid (show ∃ z : Nat, R + (a.m.fall 0).nb ≤ z ∧ z ≤ 1048576 ∧ Blk wh pc 87 [.int .i64 (z : Int)] from ⟨z3, by rw [JT.fall_zero]; exact HZB3.out.1, HZB3.out.2, g4⟩)
        have HG := Lib.hid (And.intro g1 (And.intro g2 (And.intro g3 (And.intro g5 g6))))
        have d5 := g2.cell (k := 5) rfl
        obtain ⟨M, hM⟩ : ∃ M, w3.heap.size = M := ⟨_, rfl⟩
        rw [hM] at HG HLO
        have HMD := Lib.hid HLO.out
        clear g1 g2 g3 g4 g5 g6 hM HLO
        go_wp2_with fail
        clear d5
        go_loopw [64] (fun i wr => ∃ k : Nat, k ≤ nm0 ∧ i = .int .i64 (k : Int) ∧ Hid (Bx w.heap.size pc w wr) ∧ Hid (Blk wr w.heap.size 25 [.int .i64 a.kd, .bool a.is, .int .i64 a.n, .string ⟨a.s.toArray⟩, .slice A3 nl0 c3, .slice B3 nm0 c4] ∧ Blk wr (w.heap.size + 1) 25 [.int .i64 0, .bool false, .int .i64 0, .string ⟨#[]⟩, .slice none 0 0, .slice none 0 0]) ∧ Hid (∃ z : Nat, R + (a.m.fall k).nb ≤ z ∧ z ≤ 1048576 ∧ Blk wr pc 87 [.int .i64 (z : Int)]) ∧ Hid (RowM base M true wr B3 nm0 a.m k) ∧ Hid (JSl (fun b => w.heap.size + 2 ≤ b ∧ b < M) wr false A3 a.l ∧ M ≤ wr.heap.size)) (fun i _ => nm0 - (intOf i).toNat)
        case atStart => exact ⟨0, Nat.zero_le _, rfl, Lib.hid HG.out.1, Lib.hid ⟨HG.out.2.1, HG.out.2.2.1⟩, hst, Lib.hid HG.out.2.2.2.1, Lib.hid HG.out.2.2.2.2⟩
        case round =>
          obtain ⟨k, hk, rfl, hBr, hXr, hZr, hRr, hLr⟩ := hrel
          have hMM := HMD.out
          by_cases hlt : k < nm0
          · have HLT := Lib.hid (show k < a.m.ext by rw [← HMN.out]; exact hlt)
            obtain ⟨zr, hz1, hz2, hcp⟩ := hZr.out
            rcases hRr.out with h0 | ⟨g, cs, rfl, r2, r3, r4, r5, r6⟩
            · exact absurd HLT.out (by omega)
            have HRM5 := Lib.hid (And.intro r2 (And.intro r3 (And.intro r4 (And.intro r5 r6))))
            obtain ⟨hkey, eA, enl, ecl, eB, enm, ecm, hce, x1, x2, x3, x4, x5⟩ := (r6 k (Nat.le_refl _) HLT.out).six
            have fk0 : wr.cell? ⟨g, k * 7, none⟩ = some (strV (a.m.fall k).key) := r3.cell hkey.1
            have f0 := r3.cell (hce 0 _ rfl); have f1 := r3.cell (hce 1 _ rfl); have f2 := r3.cell (hce 2 _ rfl); have f3 := r3.cell (hce 3 _ rfl); have f4 := r3.cell (hce 4 _ rfl); have f5 := r3.cell (hce 5 _ rfl)
            have HCE := Lib.hid hce
            have hbu := HBL.out.2 k HLT.out
            have hnb := nb_step HLT.out
            have HVN := Lib.hid (Eq.refl (a.m.fall k).val)
            obtain ⟨eu, hev⟩ : ∃ eu, (a.m.fall k).val = eu := ⟨_, rfl⟩
            obtain ⟨ek, hek⟩ : ∃ ek, (a.m.fall k).key = ek := ⟨_, rfl⟩
            rw [hek] at fk0
            have fk : wr.cell? ⟨g, k * 7, none⟩ = some (.string ⟨ek.toArray⟩) := fk0
            clear fk0
            rw [hev] at f0 f1 f2 f3 x1 x2 x3 x4 x5 hbu hnb
            have HEV := Lib.hid (And.intro hev (And.intro hkey hz1))
            have f0 : wr.cell? ⟨g, k * 7 + 1, none⟩ = some (.int .i64 eu.kd) := f0
            have f1 : wr.cell? ⟨g, k * 7 + 2, none⟩ = some (.bool eu.is) := f1
            have f2 : wr.cell? ⟨g, k * 7 + 3, none⟩ = some (.int .i64 eu.n) := f2
            have f3 : wr.cell? ⟨g, k * 7 + 4, none⟩ = some (.string ⟨eu.s.toArray⟩) := f3
            have f4 : wr.cell? ⟨g, k * 7 + 5, none⟩ = some (.slice eA enl ecl) := f4
            have f5 : wr.cell? ⟨g, k * 7 + 6, none⟩ = some (.slice eB enm ecm) := f5
            have h5 : Below wr.heap.size wr (wr.alloc (.cells #[.string ⟨ek.toArray⟩, .int .i64 eu.kd, .bool eu.is, .int .i64 eu.n, .string ⟨eu.s.toArray⟩, .slice eA enl ecl, .slice eB enm ecm] 44)) := (Below.refl _ _).alloc (Nat.le_refl _) _
            have HB5 := Lib.hid h5
            have HE5 := Lib.hid (Blk.new wr [.string ⟨ek.toArray⟩, .int .i64 eu.kd, .bool eu.is, .int .i64 eu.n, .string ⟨eu.s.toArray⟩, .slice eA enl ecl, .slice eB enm ecm] 44)
            have HR5 := Lib.hid (r3.later h5)
            have hg5 : g < wr.heap.size := r3.lt
            have hpr : pc < wr.heap.size := hcp.lt
            have hbr : base ≤ wr.heap.size := by have := HPC.out.1; omega
            have HX5 := Lib.hid (hXr.out.1.later h5)
            have hw5 : (wr.alloc (.cells #[.string ⟨ek.toArray⟩, .int .i64 eu.kd, .bool eu.is, .int .i64 eu.n, .string ⟨eu.s.toArray⟩, .slice eA enl ecl, .slice eB enm ecm] 44)).heap.size = wr.heap.size + 1 := by simp
            have HCC := Lib.hid (fun W (hW : Below (wr.alloc (.cells #[.string ⟨ek.toArray⟩, .int .i64 eu.kd, .bool eu.is, .int .i64 eu.n, .string ⟨eu.s.toArray⟩, .slice eA enl ecl, .slice eB enm ecm] 44)).heap.size (wr.alloc (.cells #[.string ⟨ek.toArray⟩, .int .i64 eu.kd, .bool eu.is, .int .i64 eu.n, .string ⟨eu.s.toArray⟩, .slice eA enl ecl, .slice eB enm ecm] 44)) W) => show Calls Tryz.prog 55 #[.pointer (some ⟨pc, 0, none⟩), .agg #[.int .i64 eu.kd, .bool eu.is, .int .i64 eu.n, .string ⟨eu.s.toArray⟩, .slice eA enl ecl, .slice eB enm ecm], .int .i64 ((wi : Int) + 1)] W (FvPost eu pc (R + (a.m.fall (k + 1)).nb) W) from HIH.out eu eA eB enl ecl enm ecm zr (R + (a.m.fall (k + 1)).nb) W hbu (Nat.lt_of_lt_of_le hpr (Nat.le_trans h5.size hW.size)) (hcp.later (h5.then_ hW)) (by omega) hz2
              ⟨x1, x2, x3.bx (Bx.of (pc := pc) (h5.then_ hW)) (fun q hq => ⟨Nat.lt_of_lt_of_le hq hbr, by have := HPC.out.1; omega⟩), x4.bx (Bx.of (pc := pc) (h5.then_ hW)) (fun q hq => ⟨Nat.lt_of_lt_of_le hq hbr, by have := HPC.out.1; omega⟩), x5⟩)
            have HCD := Lib.hid (fun W (hW : Below (wr.alloc (.cells #[.string ⟨ek.toArray⟩, .int .i64 eu.kd, .bool eu.is, .int .i64 eu.n, .string ⟨eu.s.toArray⟩, .slice eA enl ecl, .slice eB enm ecm] 44)).heap.size (wr.alloc (.cells #[.string ⟨ek.toArray⟩, .int .i64 eu.kd, .bool eu.is, .int .i64 eu.n, .string ⟨eu.s.toArray⟩, .slice eA enl ecl, .slice eB enm ecm] 44)) W) => show Calls Tryz.prog 55 #[.pointer (some ⟨pc, 0, none⟩), .agg #[.int .i64 eu.kd, .bool eu.is, .int .i64 eu.n, .string ⟨eu.s.toArray⟩, .slice eA enl ecl, .slice eB enm ecm], .int .i64 (IntKind.i64.wrap ((wi : Int) + 1))] W (FvPost eu pc (R + (a.m.fall (k + 1)).nb) W) by rw [show IntKind.i64.wrap ((wi : Int) + 1) = (wi : Int) + 1 from IntWalk.i64_in _ (by omega)]; exact HCC.out W hW)
            have hgx : ¬ w.heap.size = g := by omega
            have hgy : ¬ wr.heap.size = g := by omega
            have hgz : ¬ pc = g := by omega
            have hx5 := HX5.out
            have d5 := hx5.cell (k := 5) rfl
            have he5 := HE5.out; have ek0 := he5.cell (k := 0) rfl; have e0 := he5.cell (k := 1) rfl; have e1 := he5.cell (k := 2) rfl; have e2 := he5.cell (k := 3) rfl; have e3 := he5.cell (k := 4) rfl; have e4 := he5.cell (k := 5) rfl; have e5 := he5.cell (k := 6) rfl
            clear hce x1 x2 x3 x4 x5 hbu hev hkey r2 r3 r4 r5 r6 h5 hnb hz1 hcp HVN hx5 hek he5
            go_wp2_with fail
            go_region_held3 (fun W => W.cell? ⟨w.heap.size, 5, none⟩ = some (.slice (some ⟨g, 0, none⟩) nm0 c4) ∧ W.cell? ⟨wr.heap.size, 1, none⟩ = some (.int .i64 eu.kd) ∧ W.cell? ⟨wr.heap.size, 2, none⟩ = some (.bool eu.is) ∧ W.cell? ⟨wr.heap.size, 3, none⟩ = some (.int .i64 eu.n) ∧ W.cell? ⟨wr.heap.size, 4, none⟩ = some (.string ⟨eu.s.toArray⟩) ∧ W.cell? ⟨wr.heap.size, 5, none⟩ = some (.slice eA enl ecl) ∧ W.cell? ⟨wr.heap.size, 6, none⟩ = some (.slice eB enm ecm))
              (first
                | (refine ⟨?_, ?_, ?_, ?_, ?_, ?_, ?_⟩ <;> with_reducible assumption)
                | (refine ⟨?_, ?_, ?_, ?_, ?_, ?_, ?_⟩ <;> (first | rw [cell6n hgx] | rw [cell6n hgy]) <;> with_reducible assumption)
                | go_keep)
              ((first
                | (go_at_call 55; (with_reducible refine (HCC.out _ (by first | exact Below.refl _ _ | exact (Below.refl _ _).drew | exact (Below.refl _ _).drewN _)).mono ?_); rintro e w6 ⟨⟨A1, B1, nl1, cl1, nm1, cm1, rfl, hv1⟩, ⟨z6, hz6, hz7, hcp6⟩, b6⟩; have b56 := (show Bx (wr.alloc (.cells #[.string ⟨ek.toArray⟩, .int .i64 eu.kd, .bool eu.is, .int .i64 eu.n, .string ⟨eu.s.toArray⟩, .slice eA enl ecl, .slice eB enm ecm] 44)).heap.size pc (wr.alloc (.cells #[.string ⟨ek.toArray⟩, .int .i64 eu.kd, .bool eu.is, .int .i64 eu.n, .string ⟨eu.s.toArray⟩, .slice eA enl ecl, .slice eB enm ecm] 44)) _ by first | exact Bx.refl _ _ _ | exact (Bx.refl _ _ _).drew | exact (Bx.refl _ _ _).drewN _).then_ b6; have hm6 := b56.blk HX5.out HX5.out.lt (by omega); have he6 := b56.blk HE5.out HE5.out.lt (by omega); have hr6 := b56.blk HR5.out HR5.out.lt (by omega); have q4 := hm6.cell (k := 5) rfl; have s0 := he6.cell (k := 1) rfl; have s1 := he6.cell (k := 2) rfl; have s2 := he6.cell (k := 3) rfl; have s3 := he6.cell (k := 4) rfl; have s4 := he6.cell (k := 5) rfl; have s5 := he6.cell (k := 6) rfl; have t0 : w6.cell? ⟨g, k * 7 + 1, none⟩ = some (.int .i64 (a.m.fall k).val.kd) := hr6.cell (HCE.out 0 _ rfl); have t1 : w6.cell? ⟨g, k * 7 + 2, none⟩ = some (.bool (a.m.fall k).val.is) := hr6.cell (HCE.out 1 _ rfl); have t2 : w6.cell? ⟨g, k * 7 + 3, none⟩ = some (.int .i64 (a.m.fall k).val.n) := hr6.cell (HCE.out 2 _ rfl); have t3 : w6.cell? ⟨g, k * 7 + 4, none⟩ = some (strV (a.m.fall k).val.s) := hr6.cell (HCE.out 3 _ rfl); have t4 : w6.cell? ⟨g, k * 7 + 5, none⟩ = some (.slice eA enl ecl) := hr6.cell (HCE.out 4 _ rfl); have t5 : w6.cell? ⟨g, k * 7 + 6, none⟩ = some (.slice eB enm ecm) := hr6.cell (HCE.out 5 _ rfl); have v0 := hr6.frozen (k * 7 + 1); have v1 := hr6.frozen (k * 7 + 2); have v2 := hr6.frozen (k * 7 + 3); have v3 := hr6.frozen (k * 7 + 4); have v4 := hr6.frozen (k * 7 + 5); have v5 := hr6.frozen (k * 7 + 6))
                | (go_at_call 55; (with_reducible refine (HCD.out _ (by first | exact Below.refl _ _ | exact (Below.refl _ _).drew | exact (Below.refl _ _).drewN _)).mono ?_); rintro e w6 ⟨⟨A1, B1, nl1, cl1, nm1, cm1, rfl, hv1⟩, ⟨z6, hz6, hz7, hcp6⟩, b6⟩; have b56 := (show Bx (wr.alloc (.cells #[.string ⟨ek.toArray⟩, .int .i64 eu.kd, .bool eu.is, .int .i64 eu.n, .string ⟨eu.s.toArray⟩, .slice eA enl ecl, .slice eB enm ecm] 44)).heap.size pc (wr.alloc (.cells #[.string ⟨ek.toArray⟩, .int .i64 eu.kd, .bool eu.is, .int .i64 eu.n, .string ⟨eu.s.toArray⟩, .slice eA enl ecl, .slice eB enm ecm] 44)) _ by first | exact Bx.refl _ _ _ | exact (Bx.refl _ _ _).drew | exact (Bx.refl _ _ _).drewN _).then_ b6; have hm6 := b56.blk HX5.out HX5.out.lt (by omega); have he6 := b56.blk HE5.out HE5.out.lt (by omega); have hr6 := b56.blk HR5.out HR5.out.lt (by omega); have q4 := hm6.cell (k := 5) rfl; have s0 := he6.cell (k := 1) rfl; have s1 := he6.cell (k := 2) rfl; have s2 := he6.cell (k := 3) rfl; have s3 := he6.cell (k := 4) rfl; have s4 := he6.cell (k := 5) rfl; have s5 := he6.cell (k := 6) rfl; have t0 : w6.cell? ⟨g, k * 7 + 1, none⟩ = some (.int .i64 (a.m.fall k).val.kd) := hr6.cell (HCE.out 0 _ rfl); have t1 : w6.cell? ⟨g, k * 7 + 2, none⟩ = some (.bool (a.m.fall k).val.is) := hr6.cell (HCE.out 1 _ rfl); have t2 : w6.cell? ⟨g, k * 7 + 3, none⟩ = some (.int .i64 (a.m.fall k).val.n) := hr6.cell (HCE.out 2 _ rfl); have t3 : w6.cell? ⟨g, k * 7 + 4, none⟩ = some (strV (a.m.fall k).val.s) := hr6.cell (HCE.out 3 _ rfl); have t4 : w6.cell? ⟨g, k * 7 + 5, none⟩ = some (.slice eA enl ecl) := hr6.cell (HCE.out 4 _ rfl); have t5 : w6.cell? ⟨g, k * 7 + 6, none⟩ = some (.slice eB enm ecm) := hr6.cell (HCE.out 5 _ rfl); have v0 := hr6.frozen (k * 7 + 1); have v1 := hr6.frozen (k * 7 + 2); have v2 := hr6.frozen (k * 7 + 3); have v3 := hr6.frozen (k * 7 + 4); have v4 := hr6.frozen (k * 7 + 5); have v5 := hr6.frozen (k * 7 + 6))
                | fail))
            have hHR : RowM base M true (set6o w6 g (k * 7 + 1) (.int .i64 eu.kd) (.bool eu.is) (.int .i64 eu.n) (.string ⟨eu.s.toArray⟩) (.slice A1 nl1 cl1) (.slice B1 nm1 cm1)) (some ⟨g, 0, none⟩) nm0 a.m (k + 1) := by
              have h := RowM.step (base := base) (lo := M) (n := nm0) (k := k) (mem := true) (w := w6) (t := a.m) (g := g) (H := (wr.alloc (.cells #[.string ⟨ek.toArray⟩, .int .i64 eu.kd, .bool eu.is, .int .i64 eu.n, .string ⟨eu.s.toArray⟩, .slice eA enl ecl, .slice eB enm ecm] 44)).heap.size) (cs := cs) (A1 := A1) (B1 := B1) (nl1 := nl1) (cl1 := cl1) (nm1 := nm1) (cm1 := cm1) HRM5.out.1 hr6 HRM5.out.2.2.1
                (fun i hi => (HRM5.out.2.2.2.1 i hi).stay (fun q o hq => (b56.cell (by have := hq.2.1; rw [hw5]; omega) (by have := hq.1; omega)).trans (HB5.out.cell (p := ⟨q, o, none⟩) hq.2.1)) (fun q hq => ⟨hq.1, by have := hq.2.1; have := b56.size; rw [hw5] at this; omega, hq.2.2⟩))
                (fun i h1 h2 => (HRM5.out.2.2.2.2 i h1 h2).stay (fun q o hq => (b56.cell (by rw [hw5]; omega) (by have := HPC.out.1; omega)).trans (HB5.out.cell (p := ⟨q, o, none⟩) (by show q < _; omega))) (fun q hq => hq))
                hlt HMN.out (by have := HPC.out.1; omega) (by rw [hw5]; have := HRM5.out.1; omega) (by rw [hw5]; omega) (by rw [HEV.out.1]; exact hv1)
              rw [HEV.out.1] at h
              exact h
            have HR7 := Lib.hid hHR
            have HB7 := Lib.hid (bx6o (g := g) (o := k * 7 + 1) (x0 := .int .i64 eu.kd) (x1 := .bool eu.is) (x2 := .int .i64 eu.n) (x3 := .string ⟨eu.s.toArray⟩) (x4 := .slice A1 nl1 cl1) (x5 := .slice B1 nm1 cm1) ((hBr.out.alloc hBr.out.size (.cells #[.string ⟨ek.toArray⟩, .int .i64 eu.kd, .bool eu.is, .int .i64 eu.n, .string ⟨eu.s.toArray⟩, .slice eA enl ecl, .slice eB enm ecm] 44)).then_ b56) (.inl (by have := HRM5.out.1; omega)))
            have HX7 := Lib.hid (show Blk (set6o w6 g (k * 7 + 1) (.int .i64 eu.kd) (.bool eu.is) (.int .i64 eu.n) (.string ⟨eu.s.toArray⟩) (.slice A1 nl1 cl1) (.slice B1 nm1 cm1)) w.heap.size 25 [.int .i64 a.kd, .bool a.is, .int .i64 a.n, .string ⟨a.s.toArray⟩, .slice A3 nl0 c3, .slice (some ⟨g, 0, none⟩) nm0 c4] ∧ Blk (set6o w6 g (k * 7 + 1) (.int .i64 eu.kd) (.bool eu.is) (.int .i64 eu.n) (.string ⟨eu.s.toArray⟩) (.slice A1 nl1 cl1) (.slice B1 nm1 cm1)) (w.heap.size + 1) 25 [.int .i64 0, .bool false, .int .i64 0, .string ⟨#[]⟩, .slice none 0 0, .slice none 0 0] from ⟨far6o hm6 hgx, far6o (b56.blk (hXr.out.2.later HB5.out) (by rw [hw5]; have := hXr.out.2.lt; omega) (by omega)) (by have := HRM5.out.1; omega)⟩)
            have HZ7 := Lib.hid (show ∃ z : Nat, R + (a.m.fall (k + 1)).nb ≤ z ∧ z ≤ 1048576 ∧ Blk (set6o w6 g (k * 7 + 1) (.int .i64 eu.kd) (.bool eu.is) (.int .i64 eu.n) (.string ⟨eu.s.toArray⟩) (.slice A1 nl1 cl1) (.slice B1 nm1 cm1)) pc 87 [.int .i64 (z : Int)] from ⟨z6, hz6, hz7, far6o hcp6 hgz⟩)
            have HL7 := Lib.hid (And.intro ((hLr.out.1.bx ((Bx.refl wr.heap.size pc wr).alloc (Nat.le_refl _) (.cells #[.string ⟨ek.toArray⟩, .int .i64 eu.kd, .bool eu.is, .int .i64 eu.n, .string ⟨eu.s.toArray⟩, .slice eA enl ecl, .slice eB enm ecm] 44) |>.trans (b56.mono (by rw [hw5]; omega))) (fun q hq => ⟨by have := HRM5.out.1; omega, by have := hq.1; omega⟩)).stay (w' := set6o w6 g (k * 7 + 1) (.int .i64 eu.kd) (.bool eu.is) (.int .i64 eu.n) (.string ⟨eu.s.toArray⟩) (.slice A1 nl1 cl1) (.slice B1 nm1 cm1)) (fun q o hq => cell6o (by have := HRM5.out.1; have := hq.2; omega)) (fun _ h => h)) (show M ≤ (set6o w6 g (k * 7 + 1) (.int .i64 eu.kd) (.bool eu.is) (.int .i64 eu.n) (.string ⟨eu.s.toArray⟩) (.slice A1 nl1 cl1) (.slice B1 nm1 cm1)).heap.size by rw [size6o]; have h1 := b56.size; rw [hw5] at h1; have h2 := hLr.out.2; omega))
            clear hHR hv1 hz6 hz7 hcp6 b6 b56 hm6 he6 hr6 q4 s0 s1 s2 s3 s4 s5 t0 t1 t2 t3 t4 t5 v0 v1 v2 v3 v4 v5 d5 f0 f1 f2 f3 f4 f5 e0 e1 e2 e3 e4 e5
            go_wp2_with fail
            go_roundw
            case rel =>
              first
                | exact ⟨k + 1, by omega, by go_num, HB7, HX7, HZ7, HR7, HL7⟩
                | (repeat apply Exists.intro
                   refine ⟨?e0, ?e1, HB7, HX7, HZ7, HR7, HL7⟩
                   case e1 => go_num
                   case e0 => omega)
            case measure => simp [intOf]; omega
          · obtain rfl : nm0 = k := by omega
            obtain ⟨w5, hw5⟩ : ∃ x, x = wr := ⟨_, rfl⟩
            subst hw5
            have hR' := hRr.out
            rw [show RowM base M true w5 B3 nm0 a.m nm0 = RowM base M true w5 B3 nm0 a.m a.m.ext by rw [← HMN.out]] at hR'
            have HM5 := Lib.hid hR'.done
            obtain ⟨z5, hz1, hz2, hcp⟩ := hZr.out
            have HZ5 := Lib.hid (show R ≤ z5 ∧ z5 ≤ 1048576 ∧ Blk w5 pc 87 [.int .i64 (z5 : Int)] from ⟨by omega, hz2, hcp⟩)
            obtain ⟨d0, d1, d2, d3, d4, d5, e0, e1, e2, e3, e4, e5⟩ := cells6s hXr.out.1
            obtain ⟨g0, g1, g2, g3, g4, g5, k0, k1, k2, k3, k4, k5⟩ := cells6s hXr.out.2
            have hmm := HMD.out
            clear hR' hRr hZr hz1 hz2 hcp
            go_wp2_with fail
            have h8 : ∀ (q : Nat), q ≠ w.heap.size + 1 → ∀ o, (set6o w5 (w.heap.size + 1) 0 (.int .i64 a.kd) (.bool a.is) (.int .i64 a.n) (.string ⟨a.s.toArray⟩) (.slice A3 nl0 c3) (.slice B3 nm0 c4)).cell? ⟨q, o, none⟩ = w5.cell? ⟨q, o, none⟩ := fun q hq o => cell6o hq
            refine bodyPost_ret (res_cell6 rfl _ ⟨w.heap.size + 1, 0, none⟩ _ _ rfl (Blk.load (blk6o (o := 0) hXr.out.2) _ Tryz.underlying25 rfl size_v6)) rfl ⟨⟨A3, B3, nl0, c3, nm0, c4, rfl, ⟨HLN.out, hc3, HRM.out.1.2⟩, ⟨HMN.out, hc4, HRM.out.2.2⟩, hLr.out.1.stay (fun b o hb => h8 b (by have := hb.1; omega) o) (fun b hb => ⟨by have := hb.1; omega, ?_⟩), HM5.out.stay (fun b o hb => h8 b (by have := hb.1; omega) o) (fun b hb => ⟨by have := hb.1; omega, ?_⟩), HFT.out⟩, ⟨z5, HZ5.out.1, HZ5.out.2.1, far6o (o := 0) HZ5.out.2.2 (by omega)⟩, bx6o (o := 0) hBr.out (.inl (by omega))⟩
            · have h1 := hb.2; have h2 := hLr.out.2; show b < (set6o w5 (w.heap.size + 1) 0 _ _ _ _ _ _).heap.size; rw [size6o]; omega
            · have h1 := hb.2; show b < (set6o w5 (w.heap.size + 1) 0 _ _ _ _ _ _).heap.size; rw [size6o]; exact h1
end Go.Proofs.YtajkgcmopmpihaaGreatDoor
