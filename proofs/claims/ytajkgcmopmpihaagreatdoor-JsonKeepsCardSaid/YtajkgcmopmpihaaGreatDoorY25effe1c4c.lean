/- Texts put together: JvH Js6 JsQ. -/
import Derived.Test.YtajkgcmopmpihaaGreatDoorYd7ba4700c6
import Derived.Test.YtajkgcmopmpihaaGreatDoorYbc60d53a70
import Derived.Deep.RegionHeld3
import Derived.Test.YtajkgcmopmpihaaGreatDoorY64d2f56d23
import Derived.Test.YtajkgcmopmpihaaGreatDoorY7bdaacbea7
namespace Go.Proofs.YtajkgcmopmpihaaGreatDoor
open Go.ChangeShapes Go.WideShapes Go.ChangeAt Go.RowKit Go.IntWalk
set_option linter.unusedVariables false
set_option maxRecDepth 100000
theorem size_valH : (Tryz.prog.info? 25).map (·.size) = some 6 := by kernel_rfl
def CpPost (a : Jv) (w : World) (e : Ending) (w' : World) : Prop :=
  (∃ (A B : Option Addr) (nl cl nm cm : Nat), e = .returned (.agg #[.int .i64 a.kd, .bool a.is, .int .i64 a.n, .string ⟨a.s.toArray⟩, .slice A nl cl, .slice B nm cm]) ∧ VNew w.heap.size w' a A B nl cl nm cm) ∧ Below w.heap.size w w'
theorem cell_set_far {w : World} {g k b o : Nat} {v : Value} (h : b ≠ g) : (w.setCell ⟨g, k, none⟩ v).cell? ⟨b, o, none⟩ = w.cell? ⟨b, o, none⟩ := World.cell?_of_block (w := w) (Deep.blk_setCell_other _ _ _ _ h)
theorem Blk.far {w : World} {g g2 : Nat} {T : TypeId} {cs : List Value} (h : Blk w g T cs) (hne : g ≠ g2) (k : Nat) (v : Value) : Blk (w.setCell ⟨g2, k, none⟩ v) g T cs := (Deep.blk_setCell_other _ _ _ _ hne).trans h
theorem far8 {w : World} {g h b o : Nat} {p q x0 x1 x2 x3 x4 x5 : Value} (hg : b ≠ g) (hh : b ≠ h) :
    (set6 ((w.setCell ⟨g, 4, none⟩ p).setCell ⟨g, 5, none⟩ q) h x0 x1 x2 x3 x4 x5).cell? ⟨b, o, none⟩ = w.cell? ⟨b, o, none⟩ := by
  unfold set6
  simp only [cell_set_far hg, cell_set_far hh]
set_option maxHeartbeats 16000000 in
theorem copy_calls : ∀ (N : Nat) (a : Jv) (A0 B0 : Option Addr) (nl0 cl0 nm0 cm0 : Nat) (w : World), a.bulk ≤ N → N ≤ 1000000 → VOk w a A0 B0 nl0 cl0 nm0 cm0 →
    Calls Tryz.prog 18 #[.agg #[.int .i64 a.kd, .bool a.is, .int .i64 a.n, .string ⟨a.s.toArray⟩, .slice A0 nl0 cl0, .slice B0 nm0 cm0]] w (CpPost a w) := by
  intro N
  induction N with
  | zero => intro a A0 B0 nl0 cl0 nm0 cm0 w hb; unfold Jv.bulk at hb; omega
  | succ N IH =>
    intro a A0 B0 nl0 cl0 nm0 cm0 w hb hN hv
    have HIH := Lib.hid (fun a A0 B0 nl0 cl0 nm0 cm0 w hb hv => IH a A0 B0 nl0 cl0 nm0 cm0 w hb (by omega) hv)
    clear IH
    have b2 : Below w.heap.size w ((w.alloc (.cells #[.int .i64 a.kd, .bool a.is, .int .i64 a.n, .string ⟨a.s.toArray⟩, .slice A0 nl0 cl0, .slice B0 nm0 cm0] 25)).alloc (.cells #[.int .i64 0, .bool false, .int .i64 0, .string ⟨#[]⟩, .slice none 0 0, .slice none 0 0] 25)) := ((Below.refl _ _).alloc (Nat.le_refl _) _).alloc (by simp) _
    have HB := Lib.hid b2
    have HX := Lib.hid ((Blk.new w [.int .i64 a.kd, .bool a.is, .int .i64 a.n, .string ⟨a.s.toArray⟩, .slice A0 nl0 cl0, .slice B0 nm0 cm0] 25).alloc (.cells #[.int .i64 0, .bool false, .int .i64 0, .string ⟨#[]⟩, .slice none 0 0, .slice none 0 0] 25))
    have HZ := Lib.hid (show Blk ((w.alloc (.cells #[.int .i64 a.kd, .bool a.is, .int .i64 a.n, .string ⟨a.s.toArray⟩, .slice A0 nl0 cl0, .slice B0 nm0 cm0] 25)).alloc (.cells #[.int .i64 0, .bool false, .int .i64 0, .string ⟨#[]⟩, .slice none 0 0, .slice none 0 0] 25)) (w.heap.size + 1) 25 [.int .i64 0, .bool false, .int .i64 0, .string ⟨#[]⟩, .slice none 0 0, .slice none 0 0] by have h := Blk.new (w.alloc (.cells #[.int .i64 a.kd, .bool a.is, .int .i64 a.n, .string ⟨a.s.toArray⟩, .slice A0 nl0 cl0, .slice B0 nm0 cm0] 25)) [.int .i64 0, .bool false, .int .i64 0, .string ⟨#[]⟩, .slice none 0 0, .slice none 0 0] 25; rw [show (w.alloc (.cells #[.int .i64 a.kd, .bool a.is, .int .i64 a.n, .string ⟨a.s.toArray⟩, .slice A0 nl0 cl0, .slice B0 nm0 cm0] 25)).heap.size = w.heap.size + 1 by simp] at h; exact h)
    have hel := ext_le_bulk a.l
    have hem := ext_le_bulk a.m
    have hbl : ∀ i, i < a.l.ext → (a.l.fall i).val.bulk ≤ N := fun i hi => by have h1 := JT.bulk_val a.l i hi; unfold Jv.bulk at hb; omega
    have hbm : ∀ i, i < a.m.ext → (a.m.fall i).val.bulk ≤ N := fun i hi => by have h1 := JT.bulk_val a.m i hi; unfold Jv.bulk at hb; omega
    have hl6 : a.l.ext ≤ 1000000 := by unfold Jv.bulk at hb; omega
    have hm6 : a.m.ext ≤ 1000000 := by unfold Jv.bulk at hb; omega
    obtain ⟨⟨hn1, hn2, hn3⟩, ⟨hn4, hn5, hn6⟩, hs1, hs2, hf⟩ := hv
    have hnl0 : nl0 ≤ 1000000 := by rw [hn1]; exact hl6
    have hnm0 : nm0 ≤ 1000000 := by rw [hn4]; exact hm6
    have HLN := Lib.hid hn1
    have HMN := Lib.hid hn4
    have HS := Lib.hid (And.intro hs1 hs2)
    have HFT := Lib.hid hf
    have HBL := Lib.hid (And.intro hbl hbm)
    clear b2 hel hem hbl hbm hl6 hm6 hn1 hn2 hn3 hn4 hn5 hn6 hs1 hs2 hf hb hN
    go_enter Tryz.func18, Tryz.ntmps18
    go_wp2_with fail
    refine wp_gen (fun W => Below w.heap.size w W ∧ Blk W w.heap.size 25 [.int .i64 a.kd, .bool a.is, .int .i64 a.n, .string ⟨a.s.toArray⟩, .slice A0 nl0 cl0, .slice B0 nm0 cm0] ∧ Blk W (w.heap.size + 1) 25 [.int .i64 0, .bool false, .int .i64 0, .string ⟨#[]⟩, .slice none 0 0, .slice none 0 0]) ⟨HB.out, HX.out, HZ.out⟩ ?_
    clear HB HX HZ
    rintro wg ⟨gb, gx, gz⟩
    have HB := Lib.hid gb
    have HX := Lib.hid gx
    have HZ := Lib.hid gz
    clear gb gx gz
    go_loopw [3, 12] (fun o i wr => ∃ (k : Nat) (L : Value), k ≤ nl0 ∧ L = o ∧ i = .int .i64 (k : Int) ∧ Hid (RowJ wg.heap.size false wr L a.l k) ∧ Hid (Below wg.heap.size wg wr)) (fun _ i _ => nl0 - (intOf i).toNat)
    case atStart => exact ⟨0, _, Nat.zero_le _, rfl, rfl, Lib.hid (RowJ.nil _ _ _ _), Lib.hid (Below.refl _ _)⟩
    case round =>
      obtain ⟨k, L, hk, rfl, rfl, hR, hBr⟩ := hrel
      have HBW := Lib.hid (HB.out.then_ hBr.out)
      by_cases hlt : k < nl0
      · have HLT := Lib.hid (show k < a.l.ext by rw [← HLN.out]; exact hlt)
        obtain ⟨b0, off, eA, enl, ecl, eB, enm, ecm, rfl, eP, ebl, f0, f1, f2, f3, f4, f5, r1, r2, s1, s2, hf⟩ := (HS.out.1.up HBW.out).el (i := k) _ HLT.out
        have hbu := HBL.out.1 k HLT.out
        have hkey : (a.l.fall k).key = [] := by
          have := JSl.at_ HS.out.1 HLT.out
          obtain ⟨_, _, _, _, _, h, _⟩ := this
          exact h
        obtain ⟨eu, hev⟩ : ∃ eu, (a.l.fall k).val = eu := ⟨_, rfl⟩
        rw [hev] at f0 f1 f2 f3 r1 r2 s1 s2 hf hbu
        have h5 : Below wr.heap.size wr (wr.alloc (.cells #[.int .i64 eu.kd, .bool eu.is, .int .i64 eu.n, .string ⟨eu.s.toArray⟩, .slice eA enl ecl, .slice eB enm ecm] 25)) := (Below.refl _ _).alloc (Nat.le_refl _) _
        have HB5 := Lib.hid h5
        have hw5 : (wr.alloc (.cells #[.int .i64 eu.kd, .bool eu.is, .int .i64 eu.n, .string ⟨eu.s.toArray⟩, .slice eA enl ecl, .slice eB enm ecm] 25)).heap.size = wr.heap.size + 1 := by simp
        have HC := Lib.hid (HIH.out eu eA eB enl ecl enm ecm _ hbu (VOk.below ⟨r1, r2, s1, s2, hf⟩ h5))
        have HKEY := Lib.hid (And.intro hkey hev)
        have hk6 : k ≤ 1000000 := Nat.le_trans hk hnl0
        clear eP r1 r2 s1 s2 hf hev hkey hbu h5 ebl
        go_wp2_with fail
        refine HC.out.mono ?_
        rintro e w6 ⟨⟨A1, B1, nl1, cl1, nm1, cm1, rfl, hv1⟩, b6⟩
        have HB6 := Lib.hid (HB5.out.then_ b6)
        have HB56 := Lib.hid b6
        have HR6 := Lib.hid (hR.out.below HB6.out)
        have HV1 := Lib.hid hv1
        have HO := Lib.hid (fun b (e : L.ownBlock = some b) => Nat.lt_of_lt_of_le (hR.out.lt b e).2 (show wr.heap.size ≤ (wr.alloc (.cells #[.int .i64 eu.kd, .bool eu.is, .int .i64 eu.n, .string ⟨eu.s.toArray⟩, .slice eA enl ecl, .slice eB enm ecm] 25)).heap.size by rw [hw5]; omega))
        have HJ := Lib.hid (show JCs (fun b => (wr.alloc (.cells #[.int .i64 eu.kd, .bool eu.is, .int .i64 eu.n, .string ⟨eu.s.toArray⟩, .slice eA enl ecl, .slice eB enm ecm] 25)).heap.size ≤ b ∧ b < w6.heap.size) w6 [.int .i64 eu.kd, .bool eu.is, .int .i64 eu.n, .string ⟨eu.s.toArray⟩, .slice A1 nl1 cl1, .slice B1 nm1 cm1] (a.l.fall k).val by rw [HKEY.out.2]; exact HV1.out.cs)
        have HLE := Lib.hid (show wg.heap.size ≤ (wr.alloc (.cells #[.int .i64 eu.kd, .bool eu.is, .int .i64 eu.n, .string ⟨eu.s.toArray⟩, .slice eA enl ecl, .slice eB enm ecm] 25)).heap.size from Nat.le_trans hBr.out.size (by rw [hw5]; omega))
        clear b6 hv1 f0 f1 f2 f3 f4 f5 hw5
        go_wp2_with (at_builtin; refine wpList_append_row false rfl _ _ rfl wg.heap.size (wr.alloc (.cells #[.int .i64 eu.kd, .bool eu.is, .int .i64 eu.n, .string ⟨eu.s.toArray⟩, .slice eA enl ecl, .slice eB enm ecm] 25)).heap.size L a.l k rfl HR6.out hk6 HLE.out HO.out HB56.out.size [.int .i64 eu.kd, .bool eu.is, .int .i64 eu.n, .string ⟨eu.s.toArray⟩, .slice A1 nl1 cl1, .slice B1 nm1 cm1] HKEY.out.1 _ _ rfl rfl rfl HJ.out ?_; intro A2 c2 w7 h7 g7)
        have HB7 := Lib.hid (RowJ.grown (hBr.out.then_ HB6.out) HR6.out g7 (Nat.le_trans hBr.out.size HB6.out.size))
        have HR7 := Lib.hid h7
        clear h7 g7
        go_wp2_with fail
        refine ⟨⟨k + 1, _, by omega, rfl, by go_num, HR7, HB7⟩, by simp [intOf]; omega⟩
      · obtain rfl : k = nl0 := by omega
        obtain ⟨w3, hw3⟩ : ∃ x, x = wr := ⟨_, rfl⟩
        subst hw3
        have hR' := hR.out
        rw [HLN.out] at hR'
        obtain ⟨A3, c3, rfl, hroom, hjs⟩ := hR'.done (by rw [← HLN.out]; omega)
        have HL3 := Lib.hid (And.intro hroom hjs)
        have hx3 := HX.out.later hBr.out
        have d5 := hx3.cell (k := 5) rfl
        clear hR hroom hjs hx3
        go_wp2_with fail
        go_loopw [6, 25] (fun o i wr => ∃ (k : Nat) (L : Value), k ≤ nm0 ∧ L = o ∧ i = .int .i64 (k : Int) ∧ Hid (RowJ w3.heap.size true wr L a.m k) ∧ Hid (Below w3.heap.size w3 wr)) (fun _ i _ => nm0 - (intOf i).toNat)
        case atStart => exact ⟨0, _, Nat.zero_le _, rfl, rfl, Lib.hid (RowJ.nil _ _ _ _), Lib.hid (Below.refl _ _)⟩
        case round =>
          obtain ⟨k, L, hk, rfl, rfl, hR, hBr2⟩ := hrel
          have HBW := Lib.hid (HB.out.then_ (hBr.out.then_ hBr2.out))
          by_cases hlt : k < nm0
          · have HLT := Lib.hid (show k < a.m.ext by rw [← HMN.out]; exact hlt)
            obtain ⟨b0, off, eA, enl, ecl, eB, enm, ecm, rfl, eP, ebl, eK, eKl, f0, f1, f2, f3, f4, f5, r1, r2, s1, s2, hf⟩ := (HS.out.2.up HBW.out).mb (i := k) _ HLT.out
            have hbu := HBL.out.2 k HLT.out
            obtain ⟨eu, hev⟩ : ∃ eu, (a.m.fall k).val = eu := ⟨_, rfl⟩
            obtain ⟨ek, hek⟩ : ∃ ek, (a.m.fall k).key = ek := ⟨_, rfl⟩
            have HKL := Lib.hid eKl
            rw [hev] at f0 f1 f2 f3 r1 r2 s1 s2 hf hbu
            rw [hek] at eK
            have h5 : Below wr.heap.size wr (wr.alloc (.cells #[.string ⟨ek.toArray⟩, .int .i64 eu.kd, .bool eu.is, .int .i64 eu.n, .string ⟨eu.s.toArray⟩, .slice eA enl ecl, .slice eB enm ecm] 44)) := (Below.refl _ _).alloc (Nat.le_refl _) _
            have HB5 := Lib.hid h5
            have HM5 := Lib.hid (Blk.new wr [.string ⟨ek.toArray⟩, .int .i64 eu.kd, .bool eu.is, .int .i64 eu.n, .string ⟨eu.s.toArray⟩, .slice eA enl ecl, .slice eB enm ecm] 44)
            have hm5 := HM5.out
            have d0 := hm5.cell (k := 0) rfl; have d1 := hm5.cell (k := 1) rfl; have d2 := hm5.cell (k := 2) rfl; have d3 := hm5.cell (k := 3) rfl; have d4 := hm5.cell (k := 4) rfl; have d5' := hm5.cell (k := 5) rfl; have d6 := hm5.cell (k := 6) rfl
            have hw5 : (wr.alloc (.cells #[.string ⟨ek.toArray⟩, .int .i64 eu.kd, .bool eu.is, .int .i64 eu.n, .string ⟨eu.s.toArray⟩, .slice eA enl ecl, .slice eB enm ecm] 44)).heap.size = wr.heap.size + 1 := by simp
            have HC := Lib.hid (fun W (hW : Below (wr.alloc (.cells #[.string ⟨ek.toArray⟩, .int .i64 eu.kd, .bool eu.is, .int .i64 eu.n, .string ⟨eu.s.toArray⟩, .slice eA enl ecl, .slice eB enm ecm] 44)).heap.size (wr.alloc (.cells #[.string ⟨ek.toArray⟩, .int .i64 eu.kd, .bool eu.is, .int .i64 eu.n, .string ⟨eu.s.toArray⟩, .slice eA enl ecl, .slice eB enm ecm] 44)) W) => HIH.out eu eA eB enl ecl enm ecm W hbu (VOk.below (VOk.below ⟨r1, r2, s1, s2, hf⟩ h5) hW))
            have HKEY := Lib.hid (And.intro hek hev)
            have hk6 : k ≤ 1000000 := Nat.le_trans hk hnm0
            have HS5 := Lib.hid (show w3.heap.size ≤ (wr.alloc (.cells #[.string ⟨ek.toArray⟩, .int .i64 eu.kd, .bool eu.is, .int .i64 eu.n, .string ⟨eu.s.toArray⟩, .slice eA enl ecl, .slice eB enm ecm] 44)).heap.size from Nat.le_trans hBr2.out.size (by rw [hw5]; omega))
            have HO := Lib.hid (fun (H : Nat) (hH : (wr.alloc (.cells #[.string ⟨ek.toArray⟩, .int .i64 eu.kd, .bool eu.is, .int .i64 eu.n, .string ⟨eu.s.toArray⟩, .slice eA enl ecl, .slice eB enm ecm] 44)).heap.size ≤ H) b (e : L.ownBlock = some b) => Nat.lt_of_lt_of_le (hR.out.lt b e).2 (show wr.heap.size ≤ H from Nat.le_trans (by rw [hw5]; omega) hH))
            clear eP r1 r2 s1 s2 hf hev hek hbu h5 ebl hm5 eKl hw5 d5
            go_wp2_with fail
            go_region_held3 (fun W => W.cell? ⟨wr.heap.size, 0, none⟩ = some (.string ⟨ek.toArray⟩) ∧ W.cell? ⟨wr.heap.size, 1, none⟩ = some (.int .i64 eu.kd) ∧ W.cell? ⟨wr.heap.size, 2, none⟩ = some (.bool eu.is) ∧ W.cell? ⟨wr.heap.size, 3, none⟩ = some (.int .i64 eu.n) ∧ W.cell? ⟨wr.heap.size, 4, none⟩ = some (.string ⟨eu.s.toArray⟩) ∧ W.cell? ⟨wr.heap.size, 5, none⟩ = some (.slice eA enl ecl) ∧ W.cell? ⟨wr.heap.size, 6, none⟩ = some (.slice eB enm ecm))
              (first | assumption | go_keep | (refine ⟨?_, ?_, ?_, ?_, ?_, ?_, ?_⟩ <;> assumption))
              ((first
                | (go_at_call 18; (with_reducible refine (HC.out _ (by first | exact Below.refl _ _ | exact (Below.refl _ _).drew | exact (Below.refl _ _).drewN _)).mono ?_); rintro e w6 ⟨⟨A1, B1, nl1, cl1, nm1, cm1, rfl, hv1⟩, b6⟩; have b56 := (show Below (wr.alloc (.cells #[.string ⟨ek.toArray⟩, .int .i64 eu.kd, .bool eu.is, .int .i64 eu.n, .string ⟨eu.s.toArray⟩, .slice eA enl ecl, .slice eB enm ecm] 44)).heap.size (wr.alloc (.cells #[.string ⟨ek.toArray⟩, .int .i64 eu.kd, .bool eu.is, .int .i64 eu.n, .string ⟨eu.s.toArray⟩, .slice eA enl ecl, .slice eB enm ecm] 44)) _ by first | exact Below.refl _ _ | exact (Below.refl _ _).drew | exact (Below.refl _ _).drewN _).then_ b6; have hm6 := HM5.out.later b56; have q0 := hm6.cell (k := 0) rfl; have q1 := hm6.cell (k := 1) rfl; have q2 := hm6.cell (k := 2) rfl; have q3 := hm6.cell (k := 3) rfl; have q4 := hm6.cell (k := 4) rfl; have q5 := hm6.cell (k := 5) rfl; have q6 := hm6.cell (k := 6) rfl)
                | (refine step_append_row true (by rfl) _ _ (by rfl) w3 w6 (by first | exact (Below.refl _ _).alloc (Nat.le_refl _) _ | exact ((Below.refl _ _).alloc (Nat.le_refl _) _).drew | exact (((Below.refl _ _).drew).alloc (Nat.le_refl _) _).drew | exact ((Below.refl _ _).drew).alloc (Nat.le_refl _) _ | exact ((Below.refl _ _).alloc (Nat.le_refl _) _).drewN _ | exact ((Below.refl _ _).drewN _).alloc (Nat.le_refl _) _) _ L a.m k (by rfl) (hR.out.below (HB5.out.then_ b56)) (hBr2.out.then_ (HB5.out.then_ b56)) hk6 HS5.out (HO.out _ (Nat.le_refl _)) b56.size [.int .i64 eu.kd, .bool eu.is, .int .i64 eu.n, .string ⟨eu.s.toArray⟩, .slice A1 nl1 cl1, .slice B1 nm1 cm1] HKL.out _ (by rfl) (by rw [HKEY.out.1]; first | exact Blk.new _ _ _ | exact (Blk.new _ _ _).drew | exact (Blk.new _ _ _).drewN _) (by rw [HKEY.out.2]; exact hv1.cs) ?_; intro A2 c2 w7 h7 g7 f7; have hm7 : Blk w7 wr.heap.size 44 [.string ⟨ek.toArray⟩, .int .i64 eu.kd, .bool eu.is, .int .i64 eu.n, .string ⟨eu.s.toArray⟩, .slice eA enl ecl, .slice eB enm ecm] := (f7 _ hm6.lt (fun e => absurd (hR.out.lt _ e).2 (Nat.lt_irrefl _))).trans hm6; have p0 := hm7.cell (k := 0) rfl; have p1 := hm7.cell (k := 1) rfl; have p2 := hm7.cell (k := 2) rfl; have p3 := hm7.cell (k := 3) rfl; have p4 := hm7.cell (k := 4) rfl; have p5 := hm7.cell (k := 5) rfl; have p6 := hm7.cell (k := 6) rfl)
                | fail))
            have HB7 := Lib.hid g7
            have HR7 := Lib.hid h7
            clear h7 g7 f7 hm7 p0 p1 p2 p3 p4 p5 p6 q0 q1 q2 q3 q4 q5 q6 d0 d1 d2 d3 d4 d5' d6 hv1 b6 b56 hm6
            go_wp2_with fail
            refine ⟨⟨k + 1, _, by omega, rfl, by go_num, HR7, HB7⟩, by simp [intOf]; omega⟩
          · obtain rfl : k = nm0 := by omega
            obtain ⟨w4, hw4⟩ : ∃ x, x = wr := ⟨_, rfl⟩
            subst hw4
            have hR' := hR.out
            rw [HMN.out] at hR'
            obtain ⟨A4, c4, rfl, hroom, hjs⟩ := hR'.done (by rw [← HMN.out]; omega)
            have HM4 := Lib.hid (And.intro hroom hjs)
            have HL4 := Lib.hid (show Room a.l.ext c3 a.l.ext ∧ JSl (fun b => wg.heap.size ≤ b ∧ b < w4.heap.size) w4 false A3 a.l from And.intro HL3.out.1 (HL3.out.2.stay (w' := w4) (fun b o hb => hBr2.out.cell (p := ⟨b, o, none⟩) hb.2) (fun b hb => ⟨hb.1, Nat.lt_of_lt_of_le hb.2 hBr2.out.size⟩)))
            have HX4 := Lib.hid (HX.out.later (hBr.out.then_ hBr2.out))
            have HZ4 := Lib.hid (HZ.out.later (hBr.out.then_ hBr2.out))
            obtain ⟨d0, d1, d2, d3, d4, d5, e0, e1, e2, e3, e4, e5⟩ := cells6 HX4.out
            obtain ⟨g0, g1, g2, g3, g4, g5, k0, k1, k2, k3, k4, k5⟩ := cells6 HZ4.out
            have HBW := Lib.hid (HB.out.then_ (hBr.out.then_ hBr2.out))
            have HN1 := Lib.hid (And.intro HLN.out HMN.out)
            clear hR hroom hjs
            go_wp2_with fail
            have hB9 : Below w.heap.size w4 (set6 ((w4.setCell ⟨w.heap.size, 4, none⟩ (.slice A3 a.l.ext c3)).setCell ⟨w.heap.size, 5, none⟩ (.slice A4 a.m.ext c4)) (w.heap.size + 1) (.int .i64 a.kd) (.bool a.is) (.int .i64 a.n) (.string ⟨a.s.toArray⟩) (.slice A3 a.l.ext c3) (.slice A4 a.m.ext c4)) :=
              below6 (((Below.refl w.heap.size w4).setCell (Nat.le_refl _) _).setCell (Nat.le_refl _) _) (by omega)
            have hgl := HZ.out.lt
            have h3g := hBr.out.size
            refine bodyPost_ret (res_cell rfl _ ⟨w.heap.size + 1, 0, none⟩ _ _ rfl (Blk.load (blk6 ((HZ4.out.far (by omega) 4 _).far (by omega) 5 _)) _ Tryz.underlying25 rfl size_valH)) rfl ⟨⟨A3, A4, a.l.ext, c3, a.m.ext, c4, rfl, HL4.out.1, HM4.out.1, HL4.out.2.stay (fun b o hb => ?_) (fun b hb => ?_), HM4.out.2.stay (fun b o hb => ?_) (fun b hb => ?_), HFT.out⟩, HBW.out.trans hB9⟩
            · have h1 := hb.1; have h2 := hb.2; exact far8 (by omega) (by omega)
            · have h1 := hb.1; have h2 := hb.2; exact ⟨by omega, Nat.lt_of_lt_of_le h2 hB9.size⟩
            · have h1 := hb.1; have h2 := hb.2; exact far8 (by omega) (by omega)
            · have h1 := hb.1; have h2 := hb.2; exact ⟨by omega, Nat.lt_of_lt_of_le h2 hB9.size⟩
end Go.Proofs.YtajkgcmopmpihaaGreatDoor
namespace Go.Proofs.YtajkgcmopmpihaaGreatDoor
open Go.ChangeShapes Go.WideShapes Go.ChangeAt Go.RowKit Go.IntWalk
set_option linter.unusedVariables false
set_option maxRecDepth 100000
def Wk (base : Nat) (w : World) : Prop := ErrC w ∧ PowT base w ∧ base ≤ w.heap.size
theorem Wk.later {base : Nat} {w w' : World} (h : Wk base w) (b : Below w.heap.size w w') : Wk base w' := ⟨ErrC.below h.1 b h.1.1, h.2.1.blw (b.mono h.2.2), Nat.le_trans h.2.2 b.size⟩
theorem cell_set6 {w : World} {g b o : Nat} {x0 x1 x2 x3 x4 x5 : Value} (h : b ≠ g) : (set6 w g x0 x1 x2 x3 x4 x5).cell? ⟨b, o, none⟩ = w.cell? ⟨b, o, none⟩ := by
  unfold set6
  rw [cell_set_far h, cell_set_far h, cell_set_far h, cell_set_far h, cell_set_far h, cell_set_far h]
theorem size_set6 (w : World) (g : Nat) (x0 x1 x2 x3 x4 x5 : Value) : w.heap.size ≤ (set6 w g x0 x1 x2 x3 x4 x5).heap.size := (below6 (B := 0) (a := w) ((Below.refl w.heap.size w).mono (Nat.zero_le _)) (Nat.zero_le _)).size
theorem VNs.set6 {lo g : Nat} {w : World} {v : Jv} {A B : Option Addr} {nl cl nm cm : Nat} {x0 x1 x2 x3 x4 x5 : Value} (h : VNs (lo + 1) w v A B nl cl nm cm) (hg : g = lo) : VNs lo (set6 w g x0 x1 x2 x3 x4 x5) v A B nl cl nm cm :=
  ⟨h.1, h.2.1, h.2.2.1.stay (fun b o hb => cell_set6 (by have := hb.1; omega)) (fun b hb => ⟨by omega, Nat.lt_of_lt_of_le hb.2 (size_set6 ..)⟩), h.2.2.2.1.stay (fun b o hb => cell_set6 (by have := hb.1; omega)) (fun b hb => ⟨by omega, Nat.lt_of_lt_of_le hb.2 (size_set6 ..)⟩), h.2.2.2.2⟩
set_option maxHeartbeats 16000000 in
theorem reftk_calls (base : Nat) (s : List UInt8) (at_ deep : Nat) (w : World) (hs : s.length ≤ 65536) (ha : at_ ≤ s.length) (hd : deep ≤ 32) (hW : Wk base w)
    (HL : ∀ (b : Nat) (w : World), at_ < b → b ≤ s.length → deep < 32 → Wk base w → Calls Tryz.prog 40 #[.string ⟨s.toArray⟩, .int .i64 (b : Int), .int .i64 ((deep : Int) + 1)] w (TRes s (listF (deep + 1) (s.drop b)) w))
    (HT : ∀ (b : Nat) (w : World), at_ < b → b ≤ s.length → deep < 32 → Wk base w → Calls Tryz.prog 41 #[.string ⟨s.toArray⟩, .int .i64 (b : Int), .int .i64 ((deep : Int) + 1)] w (TRes s (tabF (deep + 1) (s.drop b)) w)) :
    Calls Tryz.prog 25 #[.string ⟨s.toArray⟩, .int .i64 (at_ : Int), .int .i64 (deep : Int)] w (TRes s (pV deep (s.drop at_)) w) := by
  obtain ⟨n, hn⟩ : ∃ n, s.length = n := ⟨_, rfl⟩
  have hsz : (⟨s.toArray⟩ : ByteArray).size = n := hn
  have HS := Lib.hid hs
  have HN := Lib.hid hn
  have HA := Lib.hid ha
  have hn6 : n ≤ 65536 := by rw [← hn]; exact hs
  have HLL := Lib.hid HL
  have HTT := Lib.hid HT
  have hz := Blk.new w [.int .i64 0, .bool false, .int .i64 0, .string ⟨#[]⟩, .slice none 0 0, .slice none 0 0] 25
  have hb0 := (Below.refl w.heap.size w).alloc (Nat.le_refl _) (.cells #[.int .i64 0, .bool false, .int .i64 0, .string ⟨#[]⟩, .slice none 0 0, .slice none 0 0] 25)
  have hw0 := hW.later hb0
  have hsz1 : (w.alloc (.cells #[.int .i64 0, .bool false, .int .i64 0, .string ⟨#[]⟩, .slice none 0 0, .slice none 0 0] 25)).heap.size = w.heap.size + 1 := Array.size_push ..
  clear hs ha hn hW HL HT
  go_enter Tryz.func25, Tryz.ntmps25
  go_wp2_with fail
  generalize w.alloc (.cells #[.int .i64 0, .bool false, .int .i64 0, .string ⟨#[]⟩, .slice none 0 0, .slice none 0 0] 25) = W1 at hz hb0 hw0 hsz1 ⊢
  have HZ := Lib.hid hz
  have HB0 := Lib.hid hb0
  have HWK := Lib.hid hw0
  have HSZ := Lib.hid hsz1
  clear hz hb0 hw0 hsz1
  refine (refblank_calls s at_ _ HS.out HA.out).mono ?_
  rintro e w2 ⟨k, rfl, k1, k2, k3, rfl⟩
  have HK := Lib.hid k3
  have HKL := Lib.hid k2
  have HKA := Lib.hid k1
  have hk6 : k ≤ 65536 := Nat.le_trans k2 HS.out
  have hkn : k ≤ n := by rw [← HN.out]; exact k2
  clear k1 k2 k3
  go_wp2_with fail
  refine (refhas_calls s [110, 117, 108, 108] k _ HS.out HKL.out (by decide)).mono ?_
  rintro e w11 ⟨rfl, rfl⟩
  by_cases h1 : [110, 117, 108, 108] <+: s.drop k
  · rw [decide_eq_true h1]
    have HR := Lib.hid (tk_null (deep := deep) HK.out HKL.out h1)
    have hkx : k + 4 ≤ n := by rw [← HN.out]; exact HR.out.2
    have hwr : IntKind.i64.wrap ((k : Int) + 4) = (k : Int) + 4 := IntWalk.i64_in _ (by omega)
    obtain ⟨c0, c1, c2, c3, c4, c5, g0, g1, g2, g3, g4, g5⟩ := cells6 HZ.out
    go_wp2_with fail
    exact bodyPost_ret (res_cell3 rfl _ ⟨w.heap.size, 0, none⟩ _ (.int .i64 ((k : Int) + 4)) (.int .i64 0) _ rfl rfl rfl (Blk.load (blk6 HZ.out) _ Tryz.underlying25 rfl size_valS)) rfl ⟨below6 HB0.out (Nat.le_refl _), .inr ⟨nullJ, k + 4, none, none, 0, 0, 0, 0, HR.out.1, HR.out.2, by push_cast; rfl, VNs.leaf _ _ ⟨(show (-9223372036854775808 : Int) ≤ 0 ∧ (0 : Int) ≤ 9223372036854775807 by decide), (show (-9223372036854775808 : Int) ≤ 0 ∧ (0 : Int) ≤ 9223372036854775807 by decide), Nat.zero_le _⟩⟩⟩
  rw [decide_eq_false h1]
  go_wp2_with fail
  refine (refhas_calls s [116, 114, 117, 101] k _ HS.out HKL.out (by decide)).mono ?_
  rintro e w12 ⟨rfl, rfl⟩
  by_cases h2 : [116, 114, 117, 101] <+: s.drop k
  · rw [decide_eq_true h2]
    have HR := Lib.hid (tk_true (deep := deep) HK.out HKL.out h2)
    have hkx : k + 4 ≤ n := by rw [← HN.out]; exact HR.out.2
    have hwr : IntKind.i64.wrap ((k : Int) + 4) = (k : Int) + 4 := IntWalk.i64_in _ (by omega)
    obtain ⟨c0, c1, c2, c3, c4, c5, g0, g1, g2, g3, g4, g5⟩ := cells6 HZ.out
    go_wp2_with fail
    exact bodyPost_ret (res_cell3 rfl _ ⟨w.heap.size, 0, none⟩ _ (.int .i64 ((k : Int) + 4)) (.int .i64 0) _ rfl rfl rfl (Blk.load (blk6 HZ.out) _ Tryz.underlying25 rfl size_valS)) rfl ⟨below6 HB0.out (Nat.le_refl _), .inr ⟨⟨1, true, 0, [], .nil, .nil⟩, k + 4, none, none, 0, 0, 0, 0, HR.out.1, HR.out.2, by push_cast; rfl, VNs.leaf _ _ ⟨(show (-9223372036854775808 : Int) ≤ 1 ∧ (1 : Int) ≤ 9223372036854775807 by decide), (show (-9223372036854775808 : Int) ≤ 0 ∧ (0 : Int) ≤ 9223372036854775807 by decide), Nat.zero_le _⟩⟩⟩
  rw [decide_eq_false h2]
  go_wp2_with fail
  refine (refhas_calls s [102, 97, 108, 115, 101] k _ HS.out HKL.out (by decide)).mono ?_
  rintro e w13 ⟨rfl, rfl⟩
  by_cases h3 : [102, 97, 108, 115, 101] <+: s.drop k
  · rw [decide_eq_true h3]
    have HR := Lib.hid (tk_false (deep := deep) HK.out HKL.out h3)
    have hkx : k + 5 ≤ n := by rw [← HN.out]; exact HR.out.2
    have hwr : IntKind.i64.wrap ((k : Int) + 5) = (k : Int) + 5 := IntWalk.i64_in _ (by omega)
    obtain ⟨c0, c1, c2, c3, c4, c5, g0, g1, g2, g3, g4, g5⟩ := cells6 HZ.out
    go_wp2_with fail
    exact bodyPost_ret (res_cell3 rfl _ ⟨w.heap.size, 0, none⟩ _ (.int .i64 ((k : Int) + 5)) (.int .i64 0) _ rfl rfl rfl (Blk.load (blk6 HZ.out) _ Tryz.underlying25 rfl size_valS)) rfl ⟨below6 HB0.out (Nat.le_refl _), .inr ⟨⟨1, false, 0, [], .nil, .nil⟩, k + 5, none, none, 0, 0, 0, 0, HR.out.1, HR.out.2, by push_cast; rfl, VNs.leaf _ _ ⟨(show (-9223372036854775808 : Int) ≤ 1 ∧ (1 : Int) ≤ 9223372036854775807 by decide), (show (-9223372036854775808 : Int) ≤ 0 ∧ (0 : Int) ≤ 9223372036854775807 by decide), Nat.zero_le _⟩⟩⟩
  rw [decide_eq_false h3]
  go_wp2_with fail
  refine (refhas_calls s [34] k _ HS.out HKL.out (by decide)).mono ?_
  rintro e w14 ⟨rfl, rfl⟩
  by_cases h4 : [34] <+: s.drop k
  · rw [decide_eq_true h4]
    have HQ := Lib.hid (tk_quo (deep := deep) HK.out HKL.out h4)
    go_wp2_with fail
    refine (reftake_calls s (k : Int) _ (by have := HS.out; omega)).mono ?_
    rintro e w15 ⟨he, b15⟩
    have HZ5 := Lib.hid (HZ.out.later b15)
    have HB5 := Lib.hid (HB0.out.trans (b15.mono HB0.out.size))
    clear b15
    rw [HQ.out.1] at he
    cases hsc : scan (s.drop (k + 1)) with
    | none =>
      rw [hsc] at he
      have HP := Lib.hid (show pV deep (s.drop at_) = .error 4 by rw [HQ.out.2.2, hsc])
      subst he
      obtain ⟨c0, c1, c2, c3, c4, c5, g0, g1, g2, g3, g4, g5⟩ := cells6 HZ5.out
      go_wp2_with fail
      exact bodyPost_ret (res_cell3 rfl _ ⟨w.heap.size, 0, none⟩ _ (.int .i64 0) (.int .i64 4) _ rfl rfl rfl (Blk.load (blk6 HZ5.out) _ Tryz.underlying25 rfl size_valS)) rfl ⟨below6 HB5.out (Nat.le_refl _), .inl ⟨4, HP.out, rfl⟩⟩
    | some p =>
      obtain ⟨out, c⟩ := p
      rw [hsc] at he
      have HP := Lib.hid (show pV deep (s.drop at_) = .ok (⟨3, false, 0, out, .nil, .nil⟩, s.drop (k + 1 + c)) by rw [HQ.out.2.2, hsc])
      have hq := scan_ok _ _ (Nat.le_refl _) out c hsc
      rw [List.length_drop] at hq
      have HQ2 := Lib.hid (show k + 1 + c ≤ s.length ∧ out.length ≤ 140737488355328 by have := HQ.out.2.1; have := HS.out; omega)
      clear hq
      subst he
      obtain ⟨c0, c1, c2, c3, c4, c5, g0, g1, g2, g3, g4, g5⟩ := cells6 HZ5.out
      go_wp2_with fail
      exact bodyPost_ret (res_cell3 rfl _ ⟨w.heap.size, 0, none⟩ _ (.int .i64 ((k : Int) + 1 + (c : Int))) (.int .i64 0) _ rfl rfl rfl (Blk.load (blk6 HZ5.out) _ Tryz.underlying25 rfl size_valS)) rfl ⟨below6 HB5.out (Nat.le_refl _), .inr ⟨⟨3, false, 0, out, .nil, .nil⟩, k + 1 + c, none, none, 0, 0, 0, 0, HP.out, HQ2.out.1, by push_cast; rfl, VNs.leaf _ _ ⟨(show (-9223372036854775808 : Int) ≤ 3 ∧ (3 : Int) ≤ 9223372036854775807 by decide), (show (-9223372036854775808 : Int) ≤ 0 ∧ (0 : Int) ≤ 9223372036854775807 by decide), HQ2.out.2⟩⟩⟩
  rw [decide_eq_false h4]
  go_wp2_with fail
  refine (refhas_calls s [91] k _ HS.out HKL.out (by decide)).mono ?_
  rintro e w16 ⟨rfl, rfl⟩
  by_cases h5 : [91] <+: s.drop k
  · rw [decide_eq_true h5]
    have HR := Lib.hid (tk_lst (deep := deep) HK.out HKL.out h5)
    have hkx : k + 1 ≤ n := by rw [← HN.out]; exact HR.out.2
    by_cases hd2 : deep = 32
    · have q1 : ((deep : Int) == 32) = true := by rw [hd2]; rfl
      have HP := Lib.hid (show pV deep (s.drop at_) = .error 5 by rw [HR.out.1, if_pos hd2])
      clear hd2
      obtain ⟨c0, c1, c2, c3, c4, c5, g0, g1, g2, g3, g4, g5⟩ := cells6 HZ.out
      go_wp2_with fail
      exact bodyPost_ret (res_cell3 rfl _ ⟨w.heap.size, 0, none⟩ _ (.int .i64 0) (.int .i64 5) _ rfl rfl rfl (Blk.load (blk6 HZ.out) _ Tryz.underlying25 rfl size_valS)) rfl ⟨below6 HB0.out (Nat.le_refl _), .inl ⟨5, HP.out, rfl⟩⟩
    · have q1 : ((deep : Int) == 32) = false := by rw [beq_eq_false_iff_ne]; omega
      have HP := Lib.hid (show pV deep (s.drop at_) = listF (deep + 1) (s.drop (k + 1)) by rw [HR.out.1, if_neg hd2])
      have hwr : IntKind.i64.wrap ((k : Int) + 1) = (k : Int) + 1 := IntWalk.i64_in _ (by omega)
      have hwd : IntKind.i64.wrap ((deep : Int) + 1) = (deep : Int) + 1 := IntWalk.i64_in _ (by omega)
      have hkl : k < s.length := by rw [HN.out]; omega
      have hki : (k : Int) < (n : Int) := by omega
      have hc : s[k] = 91 := by
        have := h5
        rw [pre_one, List.drop_eq_getElem_cons hkl] at this
        injection this
      have hd3 : deep < 32 := by omega
      have hc9 := HLL.out (k + 1) _ (by have := HKA.out; omega) HR.out.2 hd3 HWK.out
      rw [show ((k + 1 : Nat) : Int) = (k : Int) + 1 from by push_cast; rfl] at hc9
      have HC := Lib.hid hc9
      clear hc9
      clear hd2
      go_wp2_with fail
      refine HC.out.mono ?_
      rintro e w8 ⟨b8, hR⟩
      have HZ8 := Lib.hid (HZ.out.later b8)
      have HB8 := Lib.hid (HB0.out.trans (b8.mono HB0.out.size))
      clear b8
      obtain ⟨c0, c1, c2, c3, c4, c5, g0, g1, g2, g3, g4, g5⟩ := cells6 HZ8.out
      rcases hR with ⟨c, hr, rfl⟩ | ⟨v, at', A, B, nl, cl, nm, cm, hr, hle, rfl, hv⟩
      · have HP2 := Lib.hid (HP.out.trans hr)
        clear hr
        go_wp2_with fail
        exact bodyPost_ret (res_cell3 rfl _ ⟨w.heap.size, 0, none⟩ _ (.int .i64 0) (.int .i64 c) _ rfl rfl rfl (Blk.load (blk6 HZ8.out) _ Tryz.underlying25 rfl size_valS)) rfl ⟨below6 HB8.out (Nat.le_refl _), .inl ⟨c, HP2.out, rfl⟩⟩
      · have HP2 := Lib.hid (And.intro (HP.out.trans hr) hle)
        rw [HSZ.out] at hv
        have HV := Lib.hid hv
        clear hr hle hv
        go_wp2_with fail
        exact bodyPost_ret (res_cell3 rfl _ ⟨w.heap.size, 0, none⟩ _ (.int .i64 (at' : Int)) (.int .i64 0) _ rfl rfl rfl (Blk.load (blk6 HZ8.out) _ Tryz.underlying25 rfl size_valS)) rfl ⟨below6 HB8.out (Nat.le_refl _), .inr ⟨v, at', A, B, nl, cl, nm, cm, HP2.out.1, HP2.out.2, rfl, VNs.set6 HV.out rfl⟩⟩
  rw [decide_eq_false h5]
  go_wp2_with fail
  refine (refhas_calls s [123] k _ HS.out HKL.out (by decide)).mono ?_
  rintro e w17 ⟨rfl, rfl⟩
  by_cases h6 : [123] <+: s.drop k
  · rw [decide_eq_true h6]
    have HR := Lib.hid (tk_tab (deep := deep) HK.out HKL.out h6)
    have hkx : k + 1 ≤ n := by rw [← HN.out]; exact HR.out.2
    by_cases hd2 : deep = 32
    · have q1 : ((deep : Int) == 32) = true := by rw [hd2]; rfl
      have HP := Lib.hid (show pV deep (s.drop at_) = .error 5 by rw [HR.out.1, if_pos hd2])
      clear hd2
      obtain ⟨c0, c1, c2, c3, c4, c5, g0, g1, g2, g3, g4, g5⟩ := cells6 HZ.out
      go_wp2_with fail
      exact bodyPost_ret (res_cell3 rfl _ ⟨w.heap.size, 0, none⟩ _ (.int .i64 0) (.int .i64 5) _ rfl rfl rfl (Blk.load (blk6 HZ.out) _ Tryz.underlying25 rfl size_valS)) rfl ⟨below6 HB0.out (Nat.le_refl _), .inl ⟨5, HP.out, rfl⟩⟩
    · have q1 : ((deep : Int) == 32) = false := by rw [beq_eq_false_iff_ne]; omega
      have HP := Lib.hid (show pV deep (s.drop at_) = tabF (deep + 1) (s.drop (k + 1)) by rw [HR.out.1, if_neg hd2])
      have hwr : IntKind.i64.wrap ((k : Int) + 1) = (k : Int) + 1 := IntWalk.i64_in _ (by omega)
      have hwd : IntKind.i64.wrap ((deep : Int) + 1) = (deep : Int) + 1 := IntWalk.i64_in _ (by omega)
      have hkl : k < s.length := by rw [HN.out]; omega
      have hki : (k : Int) < (n : Int) := by omega
      have hc : s[k] = 123 := by
        have := h6
        rw [pre_one, List.drop_eq_getElem_cons hkl] at this
        injection this
      have hd3 : deep < 32 := by omega
      have hc9 := HTT.out (k + 1) _ (by have := HKA.out; omega) HR.out.2 hd3 HWK.out
      rw [show ((k + 1 : Nat) : Int) = (k : Int) + 1 from by push_cast; rfl] at hc9
      have HC := Lib.hid hc9
      clear hc9
      clear hd2
      go_wp2_with fail
      refine HC.out.mono ?_
      rintro e w8 ⟨b8, hR⟩
      have HZ8 := Lib.hid (HZ.out.later b8)
      have HB8 := Lib.hid (HB0.out.trans (b8.mono HB0.out.size))
      clear b8
      obtain ⟨c0, c1, c2, c3, c4, c5, g0, g1, g2, g3, g4, g5⟩ := cells6 HZ8.out
      rcases hR with ⟨c, hr, rfl⟩ | ⟨v, at', A, B, nl, cl, nm, cm, hr, hle, rfl, hv⟩
      · have HP2 := Lib.hid (HP.out.trans hr)
        clear hr
        go_wp2_with fail
        exact bodyPost_ret (res_cell3 rfl _ ⟨w.heap.size, 0, none⟩ _ (.int .i64 0) (.int .i64 c) _ rfl rfl rfl (Blk.load (blk6 HZ8.out) _ Tryz.underlying25 rfl size_valS)) rfl ⟨below6 HB8.out (Nat.le_refl _), .inl ⟨c, HP2.out, rfl⟩⟩
      · have HP2 := Lib.hid (And.intro (HP.out.trans hr) hle)
        rw [HSZ.out] at hv
        have HV := Lib.hid hv
        clear hr hle hv
        go_wp2_with fail
        exact bodyPost_ret (res_cell3 rfl _ ⟨w.heap.size, 0, none⟩ _ (.int .i64 (at' : Int)) (.int .i64 0) _ rfl rfl rfl (Blk.load (blk6 HZ8.out) _ Tryz.underlying25 rfl size_valS)) rfl ⟨below6 HB8.out (Nat.le_refl _), .inr ⟨v, at', A, B, nl, cl, nm, cm, HP2.out.1, HP2.out.2, rfl, VNs.set6 HV.out rfl⟩⟩
  rw [decide_eq_false h6]
  have HP := Lib.hid (tk_else (deep := deep) HK.out h1 h2 h3 h4 h5 h6)
  clear h1 h2 h3 h4 h5 h6
  go_wp2_with fail
  refine (refnumber_calls base s k _ HS.out HKL.out HWK.out.1 HWK.out.2.1 HWK.out.2.2).mono ?_
  rintro e w8 ⟨b8, hR⟩
  have HZ8 := Lib.hid (HZ.out.later b8)
  have HB8 := Lib.hid (HB0.out.trans (b8.mono HB0.out.size))
  clear b8
  obtain ⟨c0, c1, c2, c3, c4, c5, g0, g1, g2, g3, g4, g5⟩ := cells6 HZ8.out
  rcases hR with ⟨c, hr, rfl⟩ | ⟨v, at', A, B, nl, cl, nm, cm, hr, hle, rfl, hv⟩
  · have HP2 := Lib.hid (HP.out.trans hr)
    clear hr
    go_wp2_with fail
    exact bodyPost_ret (res_cell3 rfl _ ⟨w.heap.size, 0, none⟩ _ (.int .i64 0) (.int .i64 c) _ rfl rfl rfl (Blk.load (blk6 HZ8.out) _ Tryz.underlying25 rfl size_valS)) rfl ⟨below6 HB8.out (Nat.le_refl _), .inl ⟨c, HP2.out, rfl⟩⟩
  · have HP2 := Lib.hid (And.intro (HP.out.trans hr) hle)
    rw [HSZ.out] at hv
    have HV := Lib.hid hv
    clear hr hle hv
    go_wp2_with fail
    exact bodyPost_ret (res_cell3 rfl _ ⟨w.heap.size, 0, none⟩ _ (.int .i64 (at' : Int)) (.int .i64 0) _ rfl rfl rfl (Blk.load (blk6 HZ8.out) _ Tryz.underlying25 rfl size_valS)) rfl ⟨below6 HB8.out (Nat.le_refl _), .inr ⟨v, at', A, B, nl, cl, nm, cm, HP2.out.1, HP2.out.2, rfl, VNs.set6 HV.out rfl⟩⟩
end Go.Proofs.YtajkgcmopmpihaaGreatDoor
namespace Go.Proofs.YtajkgcmopmpihaaGreatDoor
open Go.ChangeShapes Go.WideShapes Go.ChangeAt Go.RowKit Go.IntWalk
set_option linter.unusedVariables false
set_option maxRecDepth 100000
theorem pL_skip (acc : JT) (deep : Nat) (r : List UInt8) : pL acc deep (skipB r) = pL acc deep r := by rw [pL_eq, pL_eq, pV_skip]
section
variable {s : List UInt8} {a k deep : Nat} {acc : JT}
theorem lst_end (hs : s.drop k = skipB (s.drop a)) (hk : k ≤ s.length) (h : [93] <+: s.drop k) : listF deep (s.drop a) = .ok (lstV .nil, s.drop (k + 1)) ∧ k + 1 ≤ s.length := by
  obtain ⟨rest, h1, h2, h3⟩ := pre_at h hk
  refine ⟨?_, h3⟩
  unfold listF
  rw [← hs, h1, show s.drop (k + 1) = rest from h2]
  exact if_pos rfl
theorem lst_go (hs : s.drop k = skipB (s.drop a)) (h : ¬ [93] <+: s.drop k) : listF deep (s.drop a) = pL .nil deep (s.drop k) := by
  rw [pre_one] at h
  unfold listF
  rw [hs, pL_skip, ← hs]
  cases hx : s.drop k with
  | nil => rfl
  | cons c q => exact if_neg (fun e => h (by rw [hx, e]; rfl))
theorem ln_end (hs : s.drop k = skipB (s.drop a)) (hk : k ≤ s.length) (h : [93] <+: s.drop k) : pLn acc deep (s.drop a) = .ok (lstV acc, s.drop (k + 1)) ∧ k + 1 ≤ s.length := by
  obtain ⟨rest, h1, h2, h3⟩ := pre_at h hk
  refine ⟨?_, h3⟩
  unfold pLn
  rw [← hs, h1, show s.drop (k + 1) = rest from h2]
  exact if_pos rfl
theorem ln_go (hs : s.drop k = skipB (s.drop a)) (hk : k ≤ s.length) (h : [44] <+: s.drop k) : pLn acc deep (s.drop a) = pL acc deep (s.drop (k + 1)) ∧ k + 1 ≤ s.length := by
  obtain ⟨rest, h1, h2, h3⟩ := pre_at h hk
  refine ⟨?_, h3⟩
  unfold pLn
  rw [← hs, h1, show s.drop (k + 1) = rest from h2]
  exact (if_neg (by decide)).trans (if_pos rfl)
theorem ln_bad (hs : s.drop k = skipB (s.drop a)) (h : ¬ [93] <+: s.drop k) (h2 : ¬ [44] <+: s.drop k) : pLn acc deep (s.drop a) = .error 4 := by
  rw [pre_one] at h h2
  unfold pLn
  rw [← hs]
  cases hx : s.drop k with
  | nil => rfl
  | cons c q => exact (if_neg (fun e => h (by rw [hx, e]; rfl))).trans (if_neg (fun e => h2 (by rw [hx, e]; rfl)))
theorem tab_end (hs : s.drop k = skipB (s.drop a)) (hk : k ≤ s.length) (h : [125] <+: s.drop k) : tabF deep (s.drop a) = .ok (mapV .nil, s.drop (k + 1)) ∧ k + 1 ≤ s.length := by
  obtain ⟨rest, h1, h2, h3⟩ := pre_at h hk
  refine ⟨?_, h3⟩
  unfold tabF
  rw [← hs, h1, show s.drop (k + 1) = rest from h2]
  exact if_pos rfl
theorem tab_go (hs : s.drop k = skipB (s.drop a)) (h : ¬ [125] <+: s.drop k) : tabF deep (s.drop a) = pT .nil deep (s.drop k) := by
  rw [pre_one] at h
  unfold tabF
  rw [hs, pT_skip, ← hs]
  cases hx : s.drop k with
  | nil => rfl
  | cons c q => exact if_neg (fun e => h (by rw [hx, e]; rfl))
theorem tn_end (hs : s.drop k = skipB (s.drop a)) (hk : k ≤ s.length) (h : [125] <+: s.drop k) : pTn acc deep (s.drop a) = .ok (mapV acc, s.drop (k + 1)) ∧ k + 1 ≤ s.length := by
  obtain ⟨rest, h1, h2, h3⟩ := pre_at h hk
  refine ⟨?_, h3⟩
  unfold pTn
  rw [← hs, h1, show s.drop (k + 1) = rest from h2]
  exact if_pos rfl
theorem tn_go (hs : s.drop k = skipB (s.drop a)) (hk : k ≤ s.length) (h : [44] <+: s.drop k) : pTn acc deep (s.drop a) = pT acc deep (s.drop (k + 1)) ∧ k + 1 ≤ s.length := by
  obtain ⟨rest, h1, h2, h3⟩ := pre_at h hk
  refine ⟨?_, h3⟩
  unfold pTn
  rw [← hs, h1, show s.drop (k + 1) = rest from h2]
  exact (if_neg (by decide)).trans (if_pos rfl)
theorem tn_bad (hs : s.drop k = skipB (s.drop a)) (h : ¬ [125] <+: s.drop k) (h2 : ¬ [44] <+: s.drop k) : pTn acc deep (s.drop a) = .error 4 := by
  rw [pre_one] at h h2
  unfold pTn
  rw [← hs]
  cases hx : s.drop k with
  | nil => rfl
  | cons c q => exact (if_neg (fun e => h (by rw [hx, e]; rfl))).trans (if_neg (fun e => h2 (by rw [hx, e]; rfl)))
theorem tt_key (hs : s.drop k = skipB (s.drop a)) (hk : k ≤ s.length) : (takeF s (k : Int) = ([], 0, false) ∧ pT acc deep (s.drop a) = .error 4) ∨
    k + 1 ≤ s.length ∧ takeF s (k : Int) = fin (k + 1) (scan (s.drop (k + 1))) ∧ pT acc deep (s.drop a) = pK acc deep (s.drop (k + 1)) := by
  by_cases h : [34] <+: s.drop k
  · obtain ⟨rest, h1, h2, h3⟩ := pre_at h hk
    have h2 : s.drop (k + 1) = rest := h2
    have h3 : k + 1 ≤ s.length := h3
    refine .inr ⟨h3, takeF_in s k h3 ?_, ?_⟩
    · have := congrArg List.head? h1
      rw [List.head?_drop] at this
      rw [List.getD_eq_getElem?_getD, this]; rfl
    · rw [pT_eq, ← hs, h1, h2]
      exact if_pos rfl
  · left
    rw [pre_one] at h
    constructor
    · apply takeF_no
      rintro ⟨_, h5, h6⟩
      rw [Int.toNat_natCast, List.getD_eq_getElem?_getD, ← List.head?_drop] at h6
      cases hx : s.drop k with
      | nil =>
        have := congrArg List.length hx
        rw [List.length_drop] at this
        simp at this
        omega
      | cons c q =>
        rw [hx] at h6 h
        exact h (by simpa using h6)
    · rw [pT_eq, ← hs]
      cases hx : s.drop k with
      | nil => rfl
      | cons c q => exact if_neg (fun e => h (by rw [hx, e]; rfl))
end
section
variable {base k : Nat} {mem : Bool} {w w' : World} {L : Value} {t : JT}
theorem RowJ.far {g o : Nat} {v : Value} (h : RowJ base mem w L t k) (hg : g < base) : RowJ base mem (w.setCell ⟨g, o, none⟩ v) L t k := by
  obtain ⟨cs, h0, h1⟩ := h
  refine ⟨cs, ⟨h0.1, ?_⟩, fun i hi => ⟨(h1 i hi).1, ?_⟩⟩
  · rcases h0.2 with h2 | ⟨g2, cap, cur, hv, hb, hh, r⟩
    · exact .inl h2
    · exact .inr ⟨g2, cap, cur, hv, hb, (Deep.blk_setCell_other _ _ _ _ (show g2 ≠ g by omega)).trans hh, r⟩
  · obtain ⟨_, e, h2, h3⟩ := h1 i hi
    exact ⟨e, h2, h3.stay (fun b o' hb => cell_set_far (Nat.ne_of_gt (Nat.lt_of_lt_of_le hg hb.1))) (fun b hb => ⟨hb.1, by have := hb.2.1; simpa [World.setCell] using this, hb.2.2⟩)⟩
theorem RowJ.snoc {key : List UInt8} {v : Jv} (h : RowJ base mem w L t t.ext) : RowJ base mem w L (t.snoc key v) t.ext := by
  obtain ⟨cs, h0, h1⟩ := h
  refine ⟨cs, h0, fun i hi => ?_⟩
  have h2 := snoc_lt t key v i hi
  have h3 := h1 i hi
  unfold RowE at h3 ⊢
  rw [h2.1, h2.2]
  exact h3
theorem RowJ.sl (h : RowJ base mem w L t k) : ∃ (A : Option Addr) (c : Nat), L = .slice A k c := by
  obtain ⟨cs, h0, h1⟩ := h
  rcases h0.2 with ⟨rfl, hn⟩ | ⟨g, cap, cur, rfl, _⟩
  · exact ⟨none, 0, by rw [hn]⟩
  · exact ⟨_, _, rfl⟩
end
end Go.Proofs.YtajkgcmopmpihaaGreatDoor
