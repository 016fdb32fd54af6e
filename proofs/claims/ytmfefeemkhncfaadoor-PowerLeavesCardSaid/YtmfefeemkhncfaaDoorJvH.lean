/- api.Value: the document's copy in new memory. -/
import Derived.Test.YtmfefeemkhncfaaDoorJvD
import Derived.Test.YtmfefeemkhncfaaDoorPwC
import Derived.Deep.RegionHeld3
namespace Go.Proofs.YtmfefeemkhncfaaDoor
open Go.ChangeShapes Go.WideShapes Go.ChangeAt Go.RowKit Go.IntWalk
set_option linter.unusedVariables false
set_option maxRecDepth 100000

def CpPost (a : Jv) (w : World) (e : Ending) (w' : World) : Prop :=
  (∃ (A B : Option Addr) (nl cl nm cm : Nat), e = .returned (.agg #[.int .i64 a.kd, .bool a.is, .int .i64 a.n, .string ⟨a.s.toArray⟩, .slice A nl cl, .slice B nm cm]) ∧ VNew w.heap.size w' a A B nl cl nm cm) ∧ Below w.heap.size w w'
theorem cell_set_far {w : World} {g k b o : Nat} {v : Value} (h : b ≠ g) : (w.setCell ⟨g, k, none⟩ v).cell? ⟨b, o, none⟩ = w.cell? ⟨b, o, none⟩ := World.cell?_of_block (w := w) (Deep.blk_setCell_other _ _ _ _ h)
theorem Blk.far {w : World} {g g2 : Nat} {T : TypeId} {cs : List Value} (h : Blk w g T cs) (hne : g ≠ g2) (k : Nat) (v : Value) : Blk (w.setCell ⟨g2, k, none⟩ v) g T cs := (Deep.blk_setCell_other _ _ _ _ hne).trans h
theorem far8 {w : World} {g h b o : Nat} {p q x0 x1 x2 x3 x4 x5 : Value} (hg : b ≠ g) (hh : b ≠ h) :
    (set6 ((w.setCell ⟨g, 4, none⟩ p).setCell ⟨g, 5, none⟩ q) h x0 x1 x2 x3 x4 x5).cell? ⟨b, o, none⟩ = w.cell? ⟨b, o, none⟩ := by
  unfold set6
  simp only [cell_set_far hg, cell_set_far hh]
set_option maxHeartbeats 16000000 in
theorem copy_calls : ∀ (N : Nat) (a : Jv) (A0 B0 : Option Addr) (nl0 cl0 nm0 cm0 : Nat) (w : World), a.bulk ≤ N → N ≤ 1000000 → VOk w a A0 B0 nl0 cl0 nm0 cm0 →
    Calls Tryd.prog 26 #[.agg #[.int .i64 a.kd, .bool a.is, .int .i64 a.n, .string ⟨a.s.toArray⟩, .slice A0 nl0 cl0, .slice B0 nm0 cm0]] w (CpPost a w) := by
  intro N
  induction N with
  | zero => intro a A0 B0 nl0 cl0 nm0 cm0 w hb; unfold Jv.bulk at hb; omega
  | succ N IH =>
    intro a A0 B0 nl0 cl0 nm0 cm0 w hb hN hv
    have HIH := Lib.hid (fun a A0 B0 nl0 cl0 nm0 cm0 w hb hv => IH a A0 B0 nl0 cl0 nm0 cm0 w hb (by omega) hv)
    clear IH
    have b2 : Below w.heap.size w ((w.alloc (.cells #[.int .i64 a.kd, .bool a.is, .int .i64 a.n, .string ⟨a.s.toArray⟩, .slice A0 nl0 cl0, .slice B0 nm0 cm0] 25)).alloc (.cells #[.int .i64 0, .bool false, .int .i64 0, .string ⟨#[]⟩, .slice none 0 0, .slice none 0 0] 25)) := ((Below.refl _ _).alloc (Nat.le_refl _) _).alloc (by simp) _
    have HB := Lib.hid b2
    have HX := Lib.hid ((Blk.new w [.int .i64 a.kd, .bool a.is, .int .i64 a.n, .string ⟨a.s.toArray⟩, .slice A0 nl0 cl0, .slice B0 nm0 cm0] 25).alloc (.cells #[.int .i64 0, .bool false, .int .i64 0, .string ⟨#[]⟩, .slice none 0 0, .slice none 0 0] 25))
    have HZ := Lib.hid (show Blk ((w.alloc (.cells #[.int .i64 a.kd, .bool a.is, .int .i64 a.n, .string ⟨a.s.toArray⟩, .slice A0 nl0 cl0, .slice B0 nm0 cm0] 25)).alloc (.cells #[.int .i64 0, .bool false, .int .i64 0, .string ⟨#[]⟩, .slice none 0 0, .slice none 0 0] 25)) (w.heap.size + 1) 25 [.int .i64 0, .bool false, .int .i64 0, .string ⟨#[]⟩, .slice none 0 0, .slice none 0 0] by have h := Blk.new (w.alloc (.cells #[.int .i64 a.kd, .bool a.is, .int .i64 a.n, .string ⟨a.s.toArray⟩, .slice A0 nl0 cl0, .slice B0 nm0 cm0] 25)) [.int .i64 0, .bool false, .int .i64 0, .string ⟨#[]⟩, .slice none 0 0, .slice none 0 0] 25; rw [show (w.alloc (.cells #[.int .i64 a.kd, .bool a.is, .int .i64 a.n, .string ⟨a.s.toArray⟩, .slice A0 nl0 cl0, .slice B0 nm0 cm0] 25)).heap.size = w.heap.size + 1 by simp] at h; exact h)
    have hel := ext_le_bulk a.l
    have hem := ext_le_bulk a.m
    have hbl : ∀ i, i < a.l.ext → (a.l.fall i).val.bulk ≤ N := fun i hi => by have h1 := JT.bulk_val a.l i hi; unfold Jv.bulk at hb; omega
    have hbm : ∀ i, i < a.m.ext → (a.m.fall i).val.bulk ≤ N := fun i hi => by have h1 := JT.bulk_val a.m i hi; unfold Jv.bulk at hb; omega
    have hl6 : a.l.ext ≤ 1000000 := by unfold Jv.bulk at hb; omega
    have hm6 : a.m.ext ≤ 1000000 := by unfold Jv.bulk at hb; omega
    obtain ⟨⟨hn1, hn2, hn3⟩, ⟨hn4, hn5, hn6⟩, hs1, hs2, hf⟩ := hv
    have hnl0 : nl0 ≤ 1000000 := by rw [hn1]; exact hl6
    have hnm0 : nm0 ≤ 1000000 := by rw [hn4]; exact hm6
    have HLN := Lib.hid hn1
    have HMN := Lib.hid hn4
    have HS := Lib.hid (And.intro hs1 hs2)
    have HFT := Lib.hid hf
    have HBL := Lib.hid (And.intro hbl hbm)
    clear b2 hel hem hbl hbm hl6 hm6 hn1 hn2 hn3 hn4 hn5 hn6 hs1 hs2 hf hb hN
    go_enter Tryd.func26, Tryd.ntmps26
    go_wp2_with fail
    refine wp_gen (fun W => Below w.heap.size w W ∧ Blk W w.heap.size 25 [.int .i64 a.kd, .bool a.is, .int .i64 a.n, .string ⟨a.s.toArray⟩, .slice A0 nl0 cl0, .slice B0 nm0 cm0] ∧ Blk W (w.heap.size + 1) 25 [.int .i64 0, .bool false, .int .i64 0, .string ⟨#[]⟩, .slice none 0 0, .slice none 0 0]) ⟨HB.out, HX.out, HZ.out⟩ ?_
    clear HB HX HZ
    rintro wg ⟨gb, gx, gz⟩
    have HB := Lib.hid gb
    have HX := Lib.hid gx
    have HZ := Lib.hid gz
    clear gb gx gz
    go_loopw [3, 12] (fun o i wr => ∃ (k : Nat) (L : Value), k ≤ nl0 ∧ L = o ∧ i = .int .i64 (k : Int) ∧ Hid (RowJ wg.heap.size false wr L a.l k) ∧ Hid (Below wg.heap.size wg wr)) (fun _ i _ => nl0 - (intOf i).toNat)
    case atStart => exact ⟨0, _, Nat.zero_le _, rfl, rfl, Lib.hid (RowJ.nil _ _ _ _), Lib.hid (Below.refl _ _)⟩
    case round =>
      obtain ⟨k, L, hk, rfl, rfl, hR, hBr⟩ := hrel
      have HBW := Lib.hid (HB.out.then_ hBr.out)
      by_cases hlt : k < nl0
      · have HLT := Lib.hid (show k < a.l.ext by rw [← HLN.out]; exact hlt)
        obtain ⟨b0, off, eA, enl, ecl, eB, enm, ecm, rfl, eP, ebl, f0, f1, f2, f3, f4, f5, r1, r2, s1, s2, hf⟩ := (HS.out.1.up HBW.out).el (i := k) _ HLT.out
        have hbu := HBL.out.1 k HLT.out
        have hkey : (a.l.fall k).key = [] := by
          have := JSl.at_ HS.out.1 HLT.out
          obtain ⟨_, _, _, _, _, h, _⟩ := this
          exact h
        obtain ⟨eu, hev⟩ : ∃ eu, (a.l.fall k).val = eu := ⟨_, rfl⟩
        rw [hev] at f0 f1 f2 f3 r1 r2 s1 s2 hf hbu
        have h5 : Below wr.heap.size wr (wr.alloc (.cells #[.int .i64 eu.kd, .bool eu.is, .int .i64 eu.n, .string ⟨eu.s.toArray⟩, .slice eA enl ecl, .slice eB enm ecm] 25)) := (Below.refl _ _).alloc (Nat.le_refl _) _
        have HB5 := Lib.hid h5
        have hw5 : (wr.alloc (.cells #[.int .i64 eu.kd, .bool eu.is, .int .i64 eu.n, .string ⟨eu.s.toArray⟩, .slice eA enl ecl, .slice eB enm ecm] 25)).heap.size = wr.heap.size + 1 := by simp
        have HC := Lib.hid (HIH.out eu eA eB enl ecl enm ecm _ hbu (VOk.below ⟨r1, r2, s1, s2, hf⟩ h5))
        have HKEY := Lib.hid (And.intro hkey hev)
        have hk6 : k ≤ 1000000 := Nat.le_trans hk hnl0
        clear eP r1 r2 s1 s2 hf hev hkey hbu h5 ebl
        go_wp2_with fail
        refine HC.out.mono ?_
        rintro e w6 ⟨⟨A1, B1, nl1, cl1, nm1, cm1, rfl, hv1⟩, b6⟩
        have HB6 := Lib.hid (HB5.out.then_ b6)
        have HB56 := Lib.hid b6
        have HR6 := Lib.hid (hR.out.below HB6.out)
        have HV1 := Lib.hid hv1
        have HO := Lib.hid (fun b (e : L.ownBlock = some b) => Nat.lt_of_lt_of_le (hR.out.lt b e).2 (show wr.heap.size ≤ (wr.alloc (.cells #[.int .i64 eu.kd, .bool eu.is, .int .i64 eu.n, .string ⟨eu.s.toArray⟩, .slice eA enl ecl, .slice eB enm ecm] 25)).heap.size by rw [hw5]; omega))
        have HJ := Lib.hid (show JCs (fun b => (wr.alloc (.cells #[.int .i64 eu.kd, .bool eu.is, .int .i64 eu.n, .string ⟨eu.s.toArray⟩, .slice eA enl ecl, .slice eB enm ecm] 25)).heap.size ≤ b ∧ b < w6.heap.size) w6 [.int .i64 eu.kd, .bool eu.is, .int .i64 eu.n, .string ⟨eu.s.toArray⟩, .slice A1 nl1 cl1, .slice B1 nm1 cm1] (a.l.fall k).val by rw [HKEY.out.2]; exact HV1.out.cs)
        have HLE := Lib.hid (show wg.heap.size ≤ (wr.alloc (.cells #[.int .i64 eu.kd, .bool eu.is, .int .i64 eu.n, .string ⟨eu.s.toArray⟩, .slice eA enl ecl, .slice eB enm ecm] 25)).heap.size from Nat.le_trans hBr.out.size (by rw [hw5]; omega))
        clear b6 hv1 f0 f1 f2 f3 f4 f5 hw5
        go_wp2_with (at_builtin; refine wpList_append_row false rfl _ _ rfl wg.heap.size (wr.alloc (.cells #[.int .i64 eu.kd, .bool eu.is, .int .i64 eu.n, .string ⟨eu.s.toArray⟩, .slice eA enl ecl, .slice eB enm ecm] 25)).heap.size L a.l k rfl HR6.out hk6 HLE.out HO.out HB56.out.size [.int .i64 eu.kd, .bool eu.is, .int .i64 eu.n, .string ⟨eu.s.toArray⟩, .slice A1 nl1 cl1, .slice B1 nm1 cm1] HKEY.out.1 _ _ rfl rfl rfl HJ.out ?_; intro A2 c2 w7 h7 g7)
        have HB7 := Lib.hid (RowJ.grown (hBr.out.then_ HB6.out) HR6.out g7 (Nat.le_trans hBr.out.size HB6.out.size))
        have HR7 := Lib.hid h7
        clear h7 g7
        go_wp2_with fail
        refine ⟨⟨k + 1, _, by omega, rfl, by go_num, HR7, HB7⟩, by simp [intOf]; omega⟩
      · obtain rfl : k = nl0 := by omega
        obtain ⟨w3, hw3⟩ : ∃ x, x = wr := ⟨_, rfl⟩
        subst hw3
        have hR' := hR.out
        rw [HLN.out] at hR'
        obtain ⟨A3, c3, rfl, hroom, hjs⟩ := hR'.done (by rw [← HLN.out]; omega)
        have HL3 := Lib.hid (And.intro hroom hjs)
        have hx3 := HX.out.later hBr.out
        have d5 := hx3.cell (k := 5) rfl
        clear hR hroom hjs hx3
        go_wp2_with fail
        go_loopw [6, 25] (fun o i wr => ∃ (k : Nat) (L : Value), k ≤ nm0 ∧ L = o ∧ i = .int .i64 (k : Int) ∧ Hid (RowJ w3.heap.size true wr L a.m k) ∧ Hid (Below w3.heap.size w3 wr)) (fun _ i _ => nm0 - (intOf i).toNat)
        case atStart => exact ⟨0, _, Nat.zero_le _, rfl, rfl, Lib.hid (RowJ.nil _ _ _ _), Lib.hid (Below.refl _ _)⟩
        case round =>
          obtain ⟨k, L, hk, rfl, rfl, hR, hBr2⟩ := hrel
          have HBW := Lib.hid (HB.out.then_ (hBr.out.then_ hBr2.out))
          by_cases hlt : k < nm0
          · have HLT := Lib.hid (show k < a.m.ext by rw [← HMN.out]; exact hlt)
            obtain ⟨b0, off, eA, enl, ecl, eB, enm, ecm, rfl, eP, ebl, eK, eKl, f0, f1, f2, f3, f4, f5, r1, r2, s1, s2, hf⟩ := (HS.out.2.up HBW.out).mb (i := k) _ HLT.out
            have hbu := HBL.out.2 k HLT.out
            obtain ⟨eu, hev⟩ : ∃ eu, (a.m.fall k).val = eu := ⟨_, rfl⟩
            obtain ⟨ek, hek⟩ : ∃ ek, (a.m.fall k).key = ek := ⟨_, rfl⟩
            have HKL := Lib.hid eKl
            rw [hev] at f0 f1 f2 f3 r1 r2 s1 s2 hf hbu
            rw [hek] at eK
            have h5 : Below wr.heap.size wr (wr.alloc (.cells #[.string ⟨ek.toArray⟩, .int .i64 eu.kd, .bool eu.is, .int .i64 eu.n, .string ⟨eu.s.toArray⟩, .slice eA enl ecl, .slice eB enm ecm] 44)) := (Below.refl _ _).alloc (Nat.le_refl _) _
            have HB5 := Lib.hid h5
            have HM5 := Lib.hid (Blk.new wr [.string ⟨ek.toArray⟩, .int .i64 eu.kd, .bool eu.is, .int .i64 eu.n, .string ⟨eu.s.toArray⟩, .slice eA enl ecl, .slice eB enm ecm] 44)
            have hm5 := HM5.out
            have d0 := hm5.cell (k := 0) rfl; have d1 := hm5.cell (k := 1) rfl; have d2 := hm5.cell (k := 2) rfl; have d3 := hm5.cell (k := 3) rfl; have d4 := hm5.cell (k := 4) rfl; have d5' := hm5.cell (k := 5) rfl; have d6 := hm5.cell (k := 6) rfl
            have hw5 : (wr.alloc (.cells #[.string ⟨ek.toArray⟩, .int .i64 eu.kd, .bool eu.is, .int .i64 eu.n, .string ⟨eu.s.toArray⟩, .slice eA enl ecl, .slice eB enm ecm] 44)).heap.size = wr.heap.size + 1 := by simp
            have HC := Lib.hid (fun W (hW : Below (wr.alloc (.cells #[.string ⟨ek.toArray⟩, .int .i64 eu.kd, .bool eu.is, .int .i64 eu.n, .string ⟨eu.s.toArray⟩, .slice eA enl ecl, .slice eB enm ecm] 44)).heap.size (wr.alloc (.cells #[.string ⟨ek.toArray⟩, .int .i64 eu.kd, .bool eu.is, .int .i64 eu.n, .string ⟨eu.s.toArray⟩, .slice eA enl ecl, .slice eB enm ecm] 44)) W) => HIH.out eu eA eB enl ecl enm ecm W hbu (VOk.below (VOk.below ⟨r1, r2, s1, s2, hf⟩ h5) hW))
            have HKEY := Lib.hid (And.intro hek hev)
            have hk6 : k ≤ 1000000 := Nat.le_trans hk hnm0
            have HS5 := Lib.hid (show w3.heap.size ≤ (wr.alloc (.cells #[.string ⟨ek.toArray⟩, .int .i64 eu.kd, .bool eu.is, .int .i64 eu.n, .string ⟨eu.s.toArray⟩, .slice eA enl ecl, .slice eB enm ecm] 44)).heap.size from Nat.le_trans hBr2.out.size (by rw [hw5]; omega))
            have HO := Lib.hid (fun (H : Nat) (hH : (wr.alloc (.cells #[.string ⟨ek.toArray⟩, .int .i64 eu.kd, .bool eu.is, .int .i64 eu.n, .string ⟨eu.s.toArray⟩, .slice eA enl ecl, .slice eB enm ecm] 44)).heap.size ≤ H) b (e : L.ownBlock = some b) => Nat.lt_of_lt_of_le (hR.out.lt b e).2 (show wr.heap.size ≤ H from Nat.le_trans (by rw [hw5]; omega) hH))
            clear eP r1 r2 s1 s2 hf hev hek hbu h5 ebl hm5 eKl hw5 d5
            go_wp2_with fail
            go_region_held3 (fun W => W.cell? ⟨wr.heap.size, 0, none⟩ = some (.string ⟨ek.toArray⟩) ∧ W.cell? ⟨wr.heap.size, 1, none⟩ = some (.int .i64 eu.kd) ∧ W.cell? ⟨wr.heap.size, 2, none⟩ = some (.bool eu.is) ∧ W.cell? ⟨wr.heap.size, 3, none⟩ = some (.int .i64 eu.n) ∧ W.cell? ⟨wr.heap.size, 4, none⟩ = some (.string ⟨eu.s.toArray⟩) ∧ W.cell? ⟨wr.heap.size, 5, none⟩ = some (.slice eA enl ecl) ∧ W.cell? ⟨wr.heap.size, 6, none⟩ = some (.slice eB enm ecm))
              (first | assumption | go_keep | (refine ⟨?_, ?_, ?_, ?_, ?_, ?_, ?_⟩ <;> assumption))
              ((first
                | (go_at_call 26; (with_reducible refine (HC.out _ (by first | exact Below.refl _ _ | exact (Below.refl _ _).drew | exact (Below.refl _ _).drewN _)).mono ?_); rintro e w6 ⟨⟨A1, B1, nl1, cl1, nm1, cm1, rfl, hv1⟩, b6⟩; have b56 := (show Below (wr.alloc (.cells #[.string ⟨ek.toArray⟩, .int .i64 eu.kd, .bool eu.is, .int .i64 eu.n, .string ⟨eu.s.toArray⟩, .slice eA enl ecl, .slice eB enm ecm] 44)).heap.size (wr.alloc (.cells #[.string ⟨ek.toArray⟩, .int .i64 eu.kd, .bool eu.is, .int .i64 eu.n, .string ⟨eu.s.toArray⟩, .slice eA enl ecl, .slice eB enm ecm] 44)) _ by first | exact Below.refl _ _ | exact (Below.refl _ _).drew | exact (Below.refl _ _).drewN _).then_ b6; have hm6 := HM5.out.later b56; have q0 := hm6.cell (k := 0) rfl; have q1 := hm6.cell (k := 1) rfl; have q2 := hm6.cell (k := 2) rfl; have q3 := hm6.cell (k := 3) rfl; have q4 := hm6.cell (k := 4) rfl; have q5 := hm6.cell (k := 5) rfl; have q6 := hm6.cell (k := 6) rfl)
                | (refine step_append_row true (by rfl) _ _ (by rfl) w3 w6 (by first | exact (Below.refl _ _).alloc (Nat.le_refl _) _ | exact ((Below.refl _ _).alloc (Nat.le_refl _) _).drew | exact (((Below.refl _ _).drew).alloc (Nat.le_refl _) _).drew | exact ((Below.refl _ _).drew).alloc (Nat.le_refl _) _ | exact ((Below.refl _ _).alloc (Nat.le_refl _) _).drewN _ | exact ((Below.refl _ _).drewN _).alloc (Nat.le_refl _) _) _ L a.m k (by rfl) (hR.out.below (HB5.out.then_ b56)) (hBr2.out.then_ (HB5.out.then_ b56)) hk6 HS5.out (HO.out _ (Nat.le_refl _)) b56.size [.int .i64 eu.kd, .bool eu.is, .int .i64 eu.n, .string ⟨eu.s.toArray⟩, .slice A1 nl1 cl1, .slice B1 nm1 cm1] HKL.out _ (by rfl) (by rw [HKEY.out.1]; first | exact Blk.new _ _ _ | exact (Blk.new _ _ _).drew | exact (Blk.new _ _ _).drewN _) (by rw [HKEY.out.2]; exact hv1.cs) ?_; intro A2 c2 w7 h7 g7 f7; have hm7 : Blk w7 wr.heap.size 44 [.string ⟨ek.toArray⟩, .int .i64 eu.kd, .bool eu.is, .int .i64 eu.n, .string ⟨eu.s.toArray⟩, .slice eA enl ecl, .slice eB enm ecm] := (f7 _ hm6.lt (fun e => absurd (hR.out.lt _ e).2 (Nat.lt_irrefl _))).trans hm6; have p0 := hm7.cell (k := 0) rfl; have p1 := hm7.cell (k := 1) rfl; have p2 := hm7.cell (k := 2) rfl; have p3 := hm7.cell (k := 3) rfl; have p4 := hm7.cell (k := 4) rfl; have p5 := hm7.cell (k := 5) rfl; have p6 := hm7.cell (k := 6) rfl)
                | fail))
            have HB7 := Lib.hid g7
            have HR7 := Lib.hid h7
            clear h7 g7 f7 hm7 p0 p1 p2 p3 p4 p5 p6 q0 q1 q2 q3 q4 q5 q6 d0 d1 d2 d3 d4 d5' d6 hv1 b6 b56 hm6
            go_wp2_with fail
            refine ⟨⟨k + 1, _, by omega, rfl, by go_num, HR7, HB7⟩, by simp [intOf]; omega⟩
          · obtain rfl : k = nm0 := by omega
            obtain ⟨w4, hw4⟩ : ∃ x, x = wr := ⟨_, rfl⟩
            subst hw4
            have hR' := hR.out
            rw [HMN.out] at hR'
            obtain ⟨A4, c4, rfl, hroom, hjs⟩ := hR'.done (by rw [← HMN.out]; omega)
            have HM4 := Lib.hid (And.intro hroom hjs)
            have HL4 := Lib.hid (show Room a.l.ext c3 a.l.ext ∧ JSl (fun b => wg.heap.size ≤ b ∧ b < w4.heap.size) w4 false A3 a.l from And.intro HL3.out.1 (HL3.out.2.stay (w' := w4) (fun b o hb => hBr2.out.cell (p := ⟨b, o, none⟩) hb.2) (fun b hb => ⟨hb.1, Nat.lt_of_lt_of_le hb.2 hBr2.out.size⟩)))
            have HX4 := Lib.hid (HX.out.later (hBr.out.then_ hBr2.out))
            have HZ4 := Lib.hid (HZ.out.later (hBr.out.then_ hBr2.out))
            obtain ⟨d0, d1, d2, d3, d4, d5, e0, e1, e2, e3, e4, e5⟩ := cells6 HX4.out
            obtain ⟨g0, g1, g2, g3, g4, g5, k0, k1, k2, k3, k4, k5⟩ := cells6 HZ4.out
            have HBW := Lib.hid (HB.out.then_ (hBr.out.then_ hBr2.out))
            have HN1 := Lib.hid (And.intro HLN.out HMN.out)
            clear hR hroom hjs
            go_wp2_with fail
            have hB9 : Below w.heap.size w4 (set6 ((w4.setCell ⟨w.heap.size, 4, none⟩ (.slice A3 a.l.ext c3)).setCell ⟨w.heap.size, 5, none⟩ (.slice A4 a.m.ext c4)) (w.heap.size + 1) (.int .i64 a.kd) (.bool a.is) (.int .i64 a.n) (.string ⟨a.s.toArray⟩) (.slice A3 a.l.ext c3) (.slice A4 a.m.ext c4)) :=
              below6 (((Below.refl w.heap.size w4).setCell (Nat.le_refl _) _).setCell (Nat.le_refl _) _) (by omega)
            have hgl := HZ.out.lt
            have h3g := hBr.out.size
            refine bodyPost_ret (res_cell rfl _ ⟨w.heap.size + 1, 0, none⟩ _ _ rfl (Blk.load (blk6 ((HZ4.out.far (by omega) 4 _).far (by omega) 5 _)) _ Tryd.underlying25 rfl size_val)) rfl ⟨⟨A3, A4, a.l.ext, c3, a.m.ext, c4, rfl, HL4.out.1, HM4.out.1, HL4.out.2.stay (fun b o hb => ?_) (fun b hb => ?_), HM4.out.2.stay (fun b o hb => ?_) (fun b hb => ?_), HFT.out⟩, HBW.out.trans hB9⟩
            · have h1 := hb.1; have h2 := hb.2; exact far8 (by omega) (by omega)
            · have h1 := hb.1; have h2 := hb.2; exact ⟨by omega, Nat.lt_of_lt_of_le h2 hB9.size⟩
            · have h1 := hb.1; have h2 := hb.2; exact far8 (by omega) (by omega)
            · have h1 := hb.1; have h2 := hb.2; exact ⟨by omega, Nat.lt_of_lt_of_le h2 hB9.size⟩
end Go.Proofs.YtmfefeemkhncfaaDoor
