/- Texts put together: EvG. -/
import Derived.Test.YtkbcbikilgcckaaGreatDoorZ2071c6bcdc
import Derived.Test.YtkbcbikilgcckaaGreatDoorZc2c2f53193
import Derived.Test.YtkbcbikilgcckaaGreatDoorZdc2d378e25
import Derived.Deep.QuietTactic
import Derived.BigQuiet
import Derived.Deep.Cut
namespace Go.Proofs.YtkbcbikilgcckaaGreatDoor
open Go.ChangeShapes Go.WideShapes Go.ChangeAt Go.RowKit Go.IntWalk
set_option linter.unusedVariables false
set_option maxRecDepth 100000

def sumL (xs : List (List UInt8)) : Nat := (xs.map List.length).sum
theorem sumL_succ {xs : List (List UInt8)} {k : Nat} {x : List UInt8} (h : xs[k]? = some x) : sumL (xs.take (k + 1)) = sumL (xs.take k) + x.length := by
  unfold sumL
  rw [List.take_add_one, h]
  simp
def sgL (s : Sg) : Nat := s.t.length + s.k.length + s.i.length
def sumS (xs : List Sg) : Nat := (xs.map sgL).sum
theorem sumS_succ {xs : List Sg} {k : Nat} {x : Sg} (h : xs[k]? = some x) : sumS (xs.take (k + 1)) = sumS (xs.take k) + sgL x := by
  unfold sumS
  rw [List.take_add_one, h]
  simp
def headN (e : Ev) : Nat := e.rm.length + e.sd.length + e.ty.length + e.ky.length + e.hs.length + e.pv.length + e.au.length + e.sg.length
/-- What is not great. -/
def GF (e : Ev) (m : Nat) : Prop := ∃ T : Nat, T ≤ m ∧ T = headN e + sumL e.pv + sumL e.au + sumS e.sg ∧ e.ct.bulk ≤ m ∧ e.ct.s.length ≤ m ∧ 0 ≤ wgV e.ct ((m : Int) - (T : Int)) 60
def GreatPost (e : Ev) (m : Nat) (w : World) (en : Ending) (w' : World) : Prop := ∃ r, en = .returned (.bool r) ∧ (r = false → GF e m) ∧ Below w.heap.size w w'
set_option maxHeartbeats 16000000 in
theorem refgreat_calls (e : Ev) (a : Ea) (m : Nat) (w : World) (he : EOk w e a) (hm : m ≤ 1000000) : Calls Tryz.prog 6 #[.agg (evC e a).toArray, .int .i64 (m : Int)] w (GreatPost e m w) := by
  have HE := Lib.hid he
  have HN := Lib.hid (And.intro he.2.1.2.1.out (And.intro he.2.2.1.2.1.out he.2.2.2.1.2.1.out))
  have hnp : a.np ≤ 140737488355328 := he.2.1.2.2.2.1
  have hnu : a.nu ≤ 140737488355328 := he.2.2.1.2.2.2.1
  have hns : a.ns ≤ 140737488355328 := he.2.2.2.1.2.2.2.1
  have hnpc := he.2.1.2.2.1
  have hnuc := he.2.2.1.2.2.1
  have hnsc := he.2.2.2.1.2.2.1
  obtain ⟨⟨l0, l1, l2, l3, l4⟩, _⟩ := he.2.2.2.2
  have b1 : Below w.heap.size w (w.alloc (.cells (evC e a).toArray 29)) := (Below.refl _ _).alloc (Nat.le_refl _) _
  have HB := Lib.hid b1
  have HX := Lib.hid (Blk.new w (evC e a) 29)
  have hx := HX.out
  have d0 := hx.cell (k := 0) rfl; have d1 := hx.cell (k := 1) rfl; have d2 := hx.cell (k := 2) rfl; have d3 := hx.cell (k := 3) rfl; have d4 := hx.cell (k := 4) rfl; have d5 := hx.cell (k := 5) rfl; have d6 := hx.cell (k := 6) rfl; have d7 := hx.cell (k := 7) rfl; have d8 := hx.cell (k := 8) rfl; have d9 := hx.cell (k := 9) rfl; have d10 := hx.cell (k := 10) rfl; have d11 := hx.cell (k := 11) rfl; have d12 := hx.cell (k := 12) rfl; have d13 := hx.cell (k := 13) rfl; have d14 := hx.cell (k := 14) rfl; have d15 := hx.cell (k := 15) rfl; have d16 := hx.cell (k := 16) rfl
  obtain ⟨n0, hn0⟩ : ∃ n, e.rm.length = n := ⟨_, rfl⟩
  have s0 : (⟨e.rm.toArray⟩ : ByteArray).size = n0 := hn0
  obtain ⟨n1, hn1⟩ : ∃ n, e.sd.length = n := ⟨_, rfl⟩
  have s1 : (⟨e.sd.toArray⟩ : ByteArray).size = n1 := hn1
  obtain ⟨n2, hn2⟩ : ∃ n, e.ty.length = n := ⟨_, rfl⟩
  have s2 : (⟨e.ty.toArray⟩ : ByteArray).size = n2 := hn2
  obtain ⟨n3, hn3⟩ : ∃ n, e.ky.length = n := ⟨_, rfl⟩
  have s3 : (⟨e.ky.toArray⟩ : ByteArray).size = n3 := hn3
  obtain ⟨n4, hn4⟩ : ∃ n, e.hs.length = n := ⟨_, rfl⟩
  have s4 : (⟨e.hs.toArray⟩ : ByteArray).size = n4 := hn4
  rw [hn0] at l0; rw [hn1] at l1; rw [hn2] at l2; rw [hn3] at l3; rw [hn4] at l4
  have HH := Lib.hid (show headN e = n0 + n1 + n2 + n3 + n4 + a.np + a.nu + a.ns by unfold headN; rw [hn0, hn1, hn2, hn3, hn4, HN.out.1, HN.out.2.1, HN.out.2.2])
  clear he b1 hx hn0 hn1 hn2 hn3 hn4
  go_enter Tryz.func6, Tryz.ntmps6
  go_wp2_with fail
  clear d0 d1 d2 d3 d4 d5 d6 d7 d8 d9 d10 d11 d12 d13 d14 d15 d16
  go_loopw [5, 6] (fun t i wr => ∃ k T : Nat, k ≤ a.np ∧ T ≤ 2251799813685248 ∧ t = .int .i64 (T : Int) ∧ i = .int .i64 (k : Int) ∧ Hid (Below w.heap.size w wr) ∧ Hid (Blk wr w.heap.size 29 (evC e a)) ∧ Hid (T ≤ m → T = headN e + sumL (e.pv.take k))) (fun t i _ => a.np - (intOf i).toNat)
  case atStart => exact ⟨0, n0 + n1 + n2 + n3 + n4 + a.np + a.nu + a.ns, Nat.zero_le _, by omega, by go_num, rfl, HB, HX, Lib.hid (fun _ => by rw [List.take_zero]; exact HH.out.symm)⟩
  case round =>
    obtain ⟨wq, hwq⟩ : ∃ x, x = wr := ⟨_, rfl⟩
    subst hwq
    obtain ⟨k, T, hk, hT, rfl, rfl, hBe, hBk, hTm⟩ := hrel
    have hx := hBk.out
    have d0 := hx.cell (k := 0) rfl; have d1 := hx.cell (k := 1) rfl; have d2 := hx.cell (k := 2) rfl; have d3 := hx.cell (k := 3) rfl; have d4 := hx.cell (k := 4) rfl; have d5 := hx.cell (k := 5) rfl; have d6 := hx.cell (k := 6) rfl; have d7 := hx.cell (k := 7) rfl; have d8 := hx.cell (k := 8) rfl; have d9 := hx.cell (k := 9) rfl; have d10 := hx.cell (k := 10) rfl; have d11 := hx.cell (k := 11) rfl; have d12 := hx.cell (k := 12) rfl; have d13 := hx.cell (k := 13) rfl; have d14 := hx.cell (k := 14) rfl; have d15 := hx.cell (k := 15) rfl; have d16 := hx.cell (k := 16) rfl
    clear hx
    by_cases hp : k < a.np
    · by_cases hm : T ≤ m
      · have hkx : k < (e.pv).length := by rw [← HN.out.1]; exact hp
        have hgx := List.getElem?_eq_getElem hkx
        obtain ⟨x, hxx⟩ : ∃ x, (e.pv)[k] = x := ⟨_, rfl⟩
        rw [hxx] at hgx
        obtain ⟨b, off, hA, hb, hc⟩ := HE.out.2.1.1 k (strV x) (by rw [List.getElem?_map, hgx]; rfl)
        have hlx : x.length ≤ 140737488355328 := HE.out.2.1.2.2.2.2 x (by rw [← hxx]; exact List.getElem_mem hkx)
        have hcc : wq.cell? ⟨b, off + k, none⟩ = some (.string ⟨x.toArray⟩) := (hBe.out.cell (p := ⟨b, off + k, none⟩) hb).trans hc
        rw [hA] at d11
        obtain ⟨xl, hxl⟩ : ∃ xl, x.length = xl := ⟨_, rfl⟩
        have hss : (⟨x.toArray⟩ : ByteArray).size = xl := hxl
        rw [hxl] at hlx
        have HT2 := Lib.hid (show T + xl ≤ m → T + xl = headN e + sumL ((e.pv).take (k + 1)) from fun _ => by
          rw [sumL_succ hgx, ← Nat.add_assoc, ← hTm.out hm, hxl])
        clear hxx hxl hgx hc hTm hkx
        go_wp2_with fail
        go_roundw
        case rel =>
          first
            | exact ⟨k + 1, T + xl, by omega, by omega, by go_num, by go_num, hBe, hBk, HT2⟩
            | (repeat apply Exists.intro
               refine ⟨?e0, ?e3, ?e2, ?e1, hBe, hBk, HT2⟩
               case e1 => go_num
               case e2 => go_num
               case e0 => omega
               case e3 => omega)
            | fail
        case measure => simp [intOf]; omega
      · have hTm2 := Lib.hid (show T ≤ m → T = headN e + sumL (e.pv) from fun h => absurd h hm)
        have ht2 : decide ((T : Int) ≤ (m : Int)) = false := by simp; omega
        clear hTm
        go_wp2_with fail
        clear d0 d1 d2 d3 d4 d5 d6 d7 d8 d9 d10 d11 d12 d13 d14 d15 d16
        go_loopw [5, 7] (fun t i wr => ∃ k T : Nat, k ≤ a.nu ∧ T ≤ 2251799813685248 ∧ t = .int .i64 (T : Int) ∧ i = .int .i64 (k : Int) ∧ Hid (Below w.heap.size w wr) ∧ Hid (Blk wr w.heap.size 29 (evC e a)) ∧ Hid (T ≤ m → T = (headN e + sumL e.pv) + sumL (e.au.take k))) (fun t i _ => a.nu - (intOf i).toNat)
        case atStart => exact ⟨0, T, Nat.zero_le _, hT, rfl, rfl, hBe, hBk, Lib.hid (fun h => by rw [List.take_zero]; exact hTm2.out h)⟩
        case round =>
          obtain ⟨wq, hwq⟩ : ∃ x, x = wr := ⟨_, rfl⟩
          subst hwq
          obtain ⟨k, T, hk, hT, rfl, rfl, hBe, hBk, hTm⟩ := hrel
          have hx := hBk.out
          have d0 := hx.cell (k := 0) rfl; have d1 := hx.cell (k := 1) rfl; have d2 := hx.cell (k := 2) rfl; have d3 := hx.cell (k := 3) rfl; have d4 := hx.cell (k := 4) rfl; have d5 := hx.cell (k := 5) rfl; have d6 := hx.cell (k := 6) rfl; have d7 := hx.cell (k := 7) rfl; have d8 := hx.cell (k := 8) rfl; have d9 := hx.cell (k := 9) rfl; have d10 := hx.cell (k := 10) rfl; have d11 := hx.cell (k := 11) rfl; have d12 := hx.cell (k := 12) rfl; have d13 := hx.cell (k := 13) rfl; have d14 := hx.cell (k := 14) rfl; have d15 := hx.cell (k := 15) rfl; have d16 := hx.cell (k := 16) rfl
          clear hx
          by_cases hp : k < a.nu
          · by_cases hm : T ≤ m
            · have hkx : k < (e.au).length := by rw [← HN.out.2.1]; exact hp
              have hgx := List.getElem?_eq_getElem hkx
              obtain ⟨x, hxx⟩ : ∃ x, (e.au)[k] = x := ⟨_, rfl⟩
              rw [hxx] at hgx
              obtain ⟨b, off, hA, hb, hc⟩ := HE.out.2.2.1.1 k (strV x) (by rw [List.getElem?_map, hgx]; rfl)
              have hlx : x.length ≤ 140737488355328 := HE.out.2.2.1.2.2.2.2 x (by rw [← hxx]; exact List.getElem_mem hkx)
              have hcc : wq.cell? ⟨b, off + k, none⟩ = some (.string ⟨x.toArray⟩) := (hBe.out.cell (p := ⟨b, off + k, none⟩) hb).trans hc
              rw [hA] at d12
              obtain ⟨xl, hxl⟩ : ∃ xl, x.length = xl := ⟨_, rfl⟩
              have hss : (⟨x.toArray⟩ : ByteArray).size = xl := hxl
              rw [hxl] at hlx
              have HT2 := Lib.hid (show T + xl ≤ m → T + xl = (headN e + sumL e.pv) + sumL ((e.au).take (k + 1)) from fun _ => by
                rw [sumL_succ hgx, ← Nat.add_assoc, ← hTm.out hm, hxl])
              clear hxx hxl hgx hc hTm hkx
              go_wp2_with fail
              go_roundw
              case rel =>
                first
                  | exact ⟨k + 1, T + xl, by omega, by omega, by go_num, by go_num, hBe, hBk, HT2⟩
                  | (repeat apply Exists.intro
                     refine ⟨?e0, ?e3, ?e2, ?e1, hBe, hBk, HT2⟩
                     case e1 => go_num
                     case e2 => go_num
                     case e0 => omega
                     case e3 => omega)
                  | fail
              case measure => simp [intOf]; omega
            · have hTm2 := Lib.hid (show T ≤ m → T = (headN e + sumL e.pv) + sumL (e.au) from fun h => absurd h hm)
              have ht2 : decide ((T : Int) ≤ (m : Int)) = false := by simp; omega
              clear hTm
              go_wp2_with fail
              go_loopw [5, 8] (fun t i wr => ∃ k T : Nat, k ≤ a.ns ∧ T ≤ 2251799813685248 ∧ t = .int .i64 (T : Int) ∧ i = .int .i64 (k : Int) ∧ Hid (Below w.heap.size w wr) ∧ Hid (Blk wr w.heap.size 29 (evC e a)) ∧ Hid (T ≤ m → T = (headN e + sumL e.pv + sumL e.au) + sumS (e.sg.take k))) (fun t i _ => a.ns - (intOf i).toNat)
              case atStart => exact ⟨0, T, Nat.zero_le _, hT, rfl, rfl, hBe, hBk, Lib.hid (fun h => by rw [List.take_zero]; exact hTm2.out h)⟩
              case round =>
                obtain ⟨wq, hwq⟩ : ∃ x, x = wr := ⟨_, rfl⟩
                subst hwq
                obtain ⟨k, T, hk, hT, rfl, rfl, hBe, hBk, hTm⟩ := hrel
                have hx := hBk.out
                have d0 := hx.cell (k := 0) rfl; have d1 := hx.cell (k := 1) rfl; have d2 := hx.cell (k := 2) rfl; have d3 := hx.cell (k := 3) rfl; have d4 := hx.cell (k := 4) rfl; have d5 := hx.cell (k := 5) rfl; have d6 := hx.cell (k := 6) rfl; have d7 := hx.cell (k := 7) rfl; have d8 := hx.cell (k := 8) rfl; have d9 := hx.cell (k := 9) rfl; have d10 := hx.cell (k := 10) rfl; have d11 := hx.cell (k := 11) rfl; have d12 := hx.cell (k := 12) rfl; have d13 := hx.cell (k := 13) rfl; have d14 := hx.cell (k := 14) rfl; have d15 := hx.cell (k := 15) rfl; have d16 := hx.cell (k := 16) rfl
                clear hx
                by_cases hp : k < a.ns
                · by_cases hm : T ≤ m
                  · have hkx : k < e.sg.length := by rw [← HN.out.2.2]; exact hp
                    have hgx := List.getElem?_eq_getElem hkx
                    obtain ⟨b, off, hA, hb, c0, c1, c2⟩ := sigs_at HE.out.2.2.2.1.1 hkx
                    obtain ⟨l5, l6, l7⟩ := HE.out.2.2.2.1.2.2.2.2 _ (List.getElem_mem hkx)
                    obtain ⟨x, hxx⟩ : ∃ x, e.sg[k] = x := ⟨_, rfl⟩
                    rw [hxx] at hgx c0 c1 c2 l5 l6 l7
                    have c0 : wq.cell? ⟨b, off + k * 3, none⟩ = some (.string ⟨x.t.toArray⟩) := (hBe.out.cell (p := ⟨b, off + k * 3, none⟩) hb).trans c0
                    have c1 : wq.cell? ⟨b, off + k * 3 + 1, none⟩ = some (.string ⟨x.k.toArray⟩) := (hBe.out.cell (p := ⟨b, off + k * 3 + 1, none⟩) hb).trans c1
                    have c2 : wq.cell? ⟨b, off + k * 3 + 2, none⟩ = some (.string ⟨x.i.toArray⟩) := (hBe.out.cell (p := ⟨b, off + k * 3 + 2, none⟩) hb).trans c2
                    rw [hA] at d16
                    obtain ⟨x5, h5⟩ : ∃ xl, x.t.length = xl := ⟨_, rfl⟩
                    obtain ⟨x6, h6⟩ : ∃ xl, x.k.length = xl := ⟨_, rfl⟩
                    obtain ⟨x7, h7⟩ : ∃ xl, x.i.length = xl := ⟨_, rfl⟩
                    have s5 : (⟨x.t.toArray⟩ : ByteArray).size = x5 := h5
                    have s6 : (⟨x.k.toArray⟩ : ByteArray).size = x6 := h6
                    have s7 : (⟨x.i.toArray⟩ : ByteArray).size = x7 := h7
                    rw [h5] at l5; rw [h6] at l6; rw [h7] at l7
                    have HT2 := Lib.hid (show T + x5 + x6 + x7 ≤ m → T + x5 + x6 + x7 = (headN e + sumL e.pv + sumL e.au) + sumS (e.sg.take (k + 1)) from fun _ => by
                      rw [sumS_succ hgx, ← Nat.add_assoc, ← hTm.out hm]
                      show T + x5 + x6 + x7 = T + (x.t.length + x.k.length + x.i.length)
                      rw [h5, h6, h7]; omega)
                    clear hxx h5 h6 h7 hgx hTm hkx
                    go_upto_region 13 with fail
                    go_quiet (fail)
                    go_wp2_with fail
                    have HBF := Lib.hid (hBe.out.drewN nq)
                    have HBG := Lib.hid (show Blk (wq.drewN nq) w.heap.size 29 (evC e a) from hBk.out)
                    go_roundw
                    case rel =>
                      first
                        | exact ⟨k + 1, T + x5 + x6 + x7, by omega, by omega, by go_num, by go_num, HBF, HBG, HT2⟩
                        | (repeat apply Exists.intro
                           refine ⟨?e0, ?e3, ?e2, ?e1, HBF, HBG, HT2⟩
                           case e1 => go_num
                           case e2 => go_num
                           case e0 => omega
                           case e3 => omega)
                        | fail
                    case measure => simp [intOf]; omega
                  · have hTm3 := Lib.hid (show T ≤ m → T = (headN e + sumL e.pv + sumL e.au) + sumS e.sg from fun h => absurd h hm)
                    have HBY := Lib.hid hBe.out
                    clear hTm
                    go_wp2_with fail
                    go_ret
                    exact ⟨true, rfl, fun h => (by cases h), HBY.out⟩
                · obtain rfl : k = a.ns := by omega
                  have hTm3 := Lib.hid (show T ≤ m → T = (headN e + sumL e.pv + sumL e.au) + sumS e.sg from fun h => by have h2 := hTm.out h; rw [HN.out.2.2, List.take_length] at h2; exact h2)
                  clear hTm
                  by_cases hmm : T ≤ m
                  · have HTE := Lib.hid (hTm3.out hmm)
                    have ht9 : decide (m < T) = false := decide_eq_false (by omega)
                    have ht8 : ¬ m < T := by omega
                    have hv1 := HE.out.1.below hBe.out
                    have HW := Lib.hid (weigh_calls e.ct.bulk e.ct ((m : Int) - (T : Int)) 60 60 wq a.A a.B a.nl a.cl a.nm a.cm (Nat.le_refl _) (by decide) (by decide) (by omega) (by omega) hv1.1 hv1.2.1 hv1.2.2.1 hv1.2.2.2.1 hv1.2.2.2.2)
                    have HMM := Lib.hid hmm
                    clear hv1
                    obtain ⟨z, hz⟩ : ∃ z, wgV e.ct ((m : Int) - (T : Int)) 60 = z := ⟨_, rfl⟩
                    unfold WgtPost at HW
                    rw [hz] at HW
                    have HZ := Lib.hid hz
                    clear hz
                    by_cases hz0 : z < 0
                    · have hzb : decide (z < 0) = true := by simpa using hz0
                      clear hz0
                      go_wp2_with fail
                      refine HW.out.mono ?_
                      rintro en wy ⟨⟨_, _, rfl⟩, by9⟩
                      have HBY := Lib.hid (hBe.out.then_ by9)
                      clear by9 d0 d1 d2 d3 d4 d5 d6 d7 d8 d9 d10 d11 d12 d13 d14 d15 d16
                      go_wp2_with fail
                      go_ret
                      exact ⟨true, rfl, fun h => (by cases h), HBY.out⟩
                    · have hzb : decide (z < 0) = false := by simpa using hz0
                      have HZ0 := Lib.hid (show 0 ≤ z by omega)
                      clear hz0
                      go_wp2_with fail
                      refine HW.out.mono ?_
                      rintro en wy ⟨⟨_, _, rfl⟩, by9⟩
                      have HBY := Lib.hid (hBe.out.then_ by9)
                      clear by9 d0 d1 d2 d3 d4 d5 d6 d7 d8 d9 d10 d11 d12 d13 d14 d15 d16
                      go_wp2_with fail
                      go_ret
                      have h1 := wgV_bulk (v := e.ct) (n := (m : Int) - (T : Int)) (d := 60) (by decide) (by rw [HZ.out]; exact HZ0.out)
                      have h2 := HMM.out
                      exact ⟨false, rfl, fun _ => ⟨T, HMM.out, HTE.out, by have := h1.1; omega, by have := h1.2; omega, by rw [HZ.out]; exact HZ0.out⟩, HBY.out⟩
                  · have ht9 : decide (m < T) = true := decide_eq_true (by omega)
                    have ht8 : m < T := by omega
                    have HBY := Lib.hid hBe.out
                    go_wp2_with fail
                    go_ret
                    exact ⟨true, rfl, fun h => (by cases h), HBY.out⟩

          · obtain rfl : k = a.nu := by omega
            have hTm2 := Lib.hid (show T ≤ m → T = (headN e + sumL e.pv) + sumL (e.au) from fun h => by have h2 := hTm.out h; rw [HN.out.2.1, List.take_length] at h2; exact h2)
            clear hTm
            go_wp2_with fail
            go_loopw [5, 8] (fun t i wr => ∃ k T : Nat, k ≤ a.ns ∧ T ≤ 2251799813685248 ∧ t = .int .i64 (T : Int) ∧ i = .int .i64 (k : Int) ∧ Hid (Below w.heap.size w wr) ∧ Hid (Blk wr w.heap.size 29 (evC e a)) ∧ Hid (T ≤ m → T = (headN e + sumL e.pv + sumL e.au) + sumS (e.sg.take k))) (fun t i _ => a.ns - (intOf i).toNat)
            case atStart => exact ⟨0, T, Nat.zero_le _, hT, rfl, rfl, hBe, hBk, Lib.hid (fun h => by rw [List.take_zero]; exact hTm2.out h)⟩
            case round =>
              obtain ⟨wq, hwq⟩ : ∃ x, x = wr := ⟨_, rfl⟩
              subst hwq
              obtain ⟨k, T, hk, hT, rfl, rfl, hBe, hBk, hTm⟩ := hrel
              have hx := hBk.out
              have d0 := hx.cell (k := 0) rfl; have d1 := hx.cell (k := 1) rfl; have d2 := hx.cell (k := 2) rfl; have d3 := hx.cell (k := 3) rfl; have d4 := hx.cell (k := 4) rfl; have d5 := hx.cell (k := 5) rfl; have d6 := hx.cell (k := 6) rfl; have d7 := hx.cell (k := 7) rfl; have d8 := hx.cell (k := 8) rfl; have d9 := hx.cell (k := 9) rfl; have d10 := hx.cell (k := 10) rfl; have d11 := hx.cell (k := 11) rfl; have d12 := hx.cell (k := 12) rfl; have d13 := hx.cell (k := 13) rfl; have d14 := hx.cell (k := 14) rfl; have d15 := hx.cell (k := 15) rfl; have d16 := hx.cell (k := 16) rfl
              clear hx
              by_cases hp : k < a.ns
              · by_cases hm : T ≤ m
                · have hkx : k < e.sg.length := by rw [← HN.out.2.2]; exact hp
                  have hgx := List.getElem?_eq_getElem hkx
                  obtain ⟨b, off, hA, hb, c0, c1, c2⟩ := sigs_at HE.out.2.2.2.1.1 hkx
                  obtain ⟨l5, l6, l7⟩ := HE.out.2.2.2.1.2.2.2.2 _ (List.getElem_mem hkx)
                  obtain ⟨x, hxx⟩ : ∃ x, e.sg[k] = x := ⟨_, rfl⟩
                  rw [hxx] at hgx c0 c1 c2 l5 l6 l7
                  have c0 : wq.cell? ⟨b, off + k * 3, none⟩ = some (.string ⟨x.t.toArray⟩) := (hBe.out.cell (p := ⟨b, off + k * 3, none⟩) hb).trans c0
                  have c1 : wq.cell? ⟨b, off + k * 3 + 1, none⟩ = some (.string ⟨x.k.toArray⟩) := (hBe.out.cell (p := ⟨b, off + k * 3 + 1, none⟩) hb).trans c1
                  have c2 : wq.cell? ⟨b, off + k * 3 + 2, none⟩ = some (.string ⟨x.i.toArray⟩) := (hBe.out.cell (p := ⟨b, off + k * 3 + 2, none⟩) hb).trans c2
                  rw [hA] at d16
                  obtain ⟨x5, h5⟩ : ∃ xl, x.t.length = xl := ⟨_, rfl⟩
                  obtain ⟨x6, h6⟩ : ∃ xl, x.k.length = xl := ⟨_, rfl⟩
                  obtain ⟨x7, h7⟩ : ∃ xl, x.i.length = xl := ⟨_, rfl⟩
                  have s5 : (⟨x.t.toArray⟩ : ByteArray).size = x5 := h5
                  have s6 : (⟨x.k.toArray⟩ : ByteArray).size = x6 := h6
                  have s7 : (⟨x.i.toArray⟩ : ByteArray).size = x7 := h7
                  rw [h5] at l5; rw [h6] at l6; rw [h7] at l7
                  have HT2 := Lib.hid (show T + x5 + x6 + x7 ≤ m → T + x5 + x6 + x7 = (headN e + sumL e.pv + sumL e.au) + sumS (e.sg.take (k + 1)) from fun _ => by
                    rw [sumS_succ hgx, ← Nat.add_assoc, ← hTm.out hm]
                    show T + x5 + x6 + x7 = T + (x.t.length + x.k.length + x.i.length)
                    rw [h5, h6, h7]; omega)
                  clear hxx h5 h6 h7 hgx hTm hkx
                  go_upto_region 13 with fail
                  go_quiet (fail)
                  go_wp2_with fail
                  have HBF := Lib.hid (hBe.out.drewN nq)
                  have HBG := Lib.hid (show Blk (wq.drewN nq) w.heap.size 29 (evC e a) from hBk.out)
                  go_roundw
                  case rel =>
                    first
                      | exact ⟨k + 1, T + x5 + x6 + x7, by omega, by omega, by go_num, by go_num, HBF, HBG, HT2⟩
                      | (repeat apply Exists.intro
                         refine ⟨?e0, ?e3, ?e2, ?e1, HBF, HBG, HT2⟩
                         case e1 => go_num
                         case e2 => go_num
                         case e0 => omega
                         case e3 => omega)
                      | fail
                  case measure => simp [intOf]; omega
                · have hTm3 := Lib.hid (show T ≤ m → T = (headN e + sumL e.pv + sumL e.au) + sumS e.sg from fun h => absurd h hm)
                  have HBY := Lib.hid hBe.out
                  clear hTm
                  go_wp2_with fail
                  go_ret
                  exact ⟨true, rfl, fun h => (by cases h), HBY.out⟩
              · obtain rfl : k = a.ns := by omega
                have hTm3 := Lib.hid (show T ≤ m → T = (headN e + sumL e.pv + sumL e.au) + sumS e.sg from fun h => by have h2 := hTm.out h; rw [HN.out.2.2, List.take_length] at h2; exact h2)
                clear hTm
                by_cases hmm : T ≤ m
                · have HTE := Lib.hid (hTm3.out hmm)
                  have ht9 : decide (m < T) = false := decide_eq_false (by omega)
                  have ht8 : ¬ m < T := by omega
                  have hv1 := HE.out.1.below hBe.out
                  have HW := Lib.hid (weigh_calls e.ct.bulk e.ct ((m : Int) - (T : Int)) 60 60 wq a.A a.B a.nl a.cl a.nm a.cm (Nat.le_refl _) (by decide) (by decide) (by omega) (by omega) hv1.1 hv1.2.1 hv1.2.2.1 hv1.2.2.2.1 hv1.2.2.2.2)
                  have HMM := Lib.hid hmm
                  clear hv1
                  obtain ⟨z, hz⟩ : ∃ z, wgV e.ct ((m : Int) - (T : Int)) 60 = z := ⟨_, rfl⟩
                  unfold WgtPost at HW
                  rw [hz] at HW
                  have HZ := Lib.hid hz
                  clear hz
                  by_cases hz0 : z < 0
                  · have hzb : decide (z < 0) = true := by simpa using hz0
                    clear hz0
                    go_wp2_with fail
                    refine HW.out.mono ?_
                    rintro en wy ⟨⟨_, _, rfl⟩, by9⟩
                    have HBY := Lib.hid (hBe.out.then_ by9)
                    clear by9 d0 d1 d2 d3 d4 d5 d6 d7 d8 d9 d10 d11 d12 d13 d14 d15 d16
                    go_wp2_with fail
                    go_ret
                    exact ⟨true, rfl, fun h => (by cases h), HBY.out⟩
                  · have hzb : decide (z < 0) = false := by simpa using hz0
                    have HZ0 := Lib.hid (show 0 ≤ z by omega)
                    clear hz0
                    go_wp2_with fail
                    refine HW.out.mono ?_
                    rintro en wy ⟨⟨_, _, rfl⟩, by9⟩
                    have HBY := Lib.hid (hBe.out.then_ by9)
                    clear by9 d0 d1 d2 d3 d4 d5 d6 d7 d8 d9 d10 d11 d12 d13 d14 d15 d16
                    go_wp2_with fail
                    go_ret
                    have h1 := wgV_bulk (v := e.ct) (n := (m : Int) - (T : Int)) (d := 60) (by decide) (by rw [HZ.out]; exact HZ0.out)
                    have h2 := HMM.out
                    exact ⟨false, rfl, fun _ => ⟨T, HMM.out, HTE.out, by have := h1.1; omega, by have := h1.2; omega, by rw [HZ.out]; exact HZ0.out⟩, HBY.out⟩
                · have ht9 : decide (m < T) = true := decide_eq_true (by omega)
                  have ht8 : m < T := by omega
                  have HBY := Lib.hid hBe.out
                  go_wp2_with fail
                  go_ret
                  exact ⟨true, rfl, fun h => (by cases h), HBY.out⟩


    · obtain rfl : k = a.np := by omega
      have hTm2 := Lib.hid (show T ≤ m → T = headN e + sumL (e.pv) from fun h => by have h2 := hTm.out h; rw [HN.out.1, List.take_length] at h2; exact h2)
      clear hTm
      go_wp2_with fail
      clear d0 d1 d2 d3 d4 d5 d6 d7 d8 d9 d10 d11 d12 d13 d14 d15 d16
      go_loopw [5, 7] (fun t i wr => ∃ k T : Nat, k ≤ a.nu ∧ T ≤ 2251799813685248 ∧ t = .int .i64 (T : Int) ∧ i = .int .i64 (k : Int) ∧ Hid (Below w.heap.size w wr) ∧ Hid (Blk wr w.heap.size 29 (evC e a)) ∧ Hid (T ≤ m → T = (headN e + sumL e.pv) + sumL (e.au.take k))) (fun t i _ => a.nu - (intOf i).toNat)
      case atStart => exact ⟨0, T, Nat.zero_le _, hT, rfl, rfl, hBe, hBk, Lib.hid (fun h => by rw [List.take_zero]; exact hTm2.out h)⟩
      case round =>
        obtain ⟨wq, hwq⟩ : ∃ x, x = wr := ⟨_, rfl⟩
        subst hwq
        obtain ⟨k, T, hk, hT, rfl, rfl, hBe, hBk, hTm⟩ := hrel
        have hx := hBk.out
        have d0 := hx.cell (k := 0) rfl; have d1 := hx.cell (k := 1) rfl; have d2 := hx.cell (k := 2) rfl; have d3 := hx.cell (k := 3) rfl; have d4 := hx.cell (k := 4) rfl; have d5 := hx.cell (k := 5) rfl; have d6 := hx.cell (k := 6) rfl; have d7 := hx.cell (k := 7) rfl; have d8 := hx.cell (k := 8) rfl; have d9 := hx.cell (k := 9) rfl; have d10 := hx.cell (k := 10) rfl; have d11 := hx.cell (k := 11) rfl; have d12 := hx.cell (k := 12) rfl; have d13 := hx.cell (k := 13) rfl; have d14 := hx.cell (k := 14) rfl; have d15 := hx.cell (k := 15) rfl; have d16 := hx.cell (k := 16) rfl
        clear hx
        by_cases hp : k < a.nu
        · by_cases hm : T ≤ m
          · have hkx : k < (e.au).length := by rw [← HN.out.2.1]; exact hp
            have hgx := List.getElem?_eq_getElem hkx
            obtain ⟨x, hxx⟩ : ∃ x, (e.au)[k] = x := ⟨_, rfl⟩
            rw [hxx] at hgx
            obtain ⟨b, off, hA, hb, hc⟩ := HE.out.2.2.1.1 k (strV x) (by rw [List.getElem?_map, hgx]; rfl)
            have hlx : x.length ≤ 140737488355328 := HE.out.2.2.1.2.2.2.2 x (by rw [← hxx]; exact List.getElem_mem hkx)
            have hcc : wq.cell? ⟨b, off + k, none⟩ = some (.string ⟨x.toArray⟩) := (hBe.out.cell (p := ⟨b, off + k, none⟩) hb).trans hc
            rw [hA] at d12
            obtain ⟨xl, hxl⟩ : ∃ xl, x.length = xl := ⟨_, rfl⟩
            have hss : (⟨x.toArray⟩ : ByteArray).size = xl := hxl
            rw [hxl] at hlx
            have HT2 := Lib.hid (show T + xl ≤ m → T + xl = (headN e + sumL e.pv) + sumL ((e.au).take (k + 1)) from fun _ => by
              rw [sumL_succ hgx, ← Nat.add_assoc, ← hTm.out hm, hxl])
            clear hxx hxl hgx hc hTm hkx
            go_wp2_with fail
            go_roundw
            case rel =>
              first
                | exact ⟨k + 1, T + xl, by omega, by omega, by go_num, by go_num, hBe, hBk, HT2⟩
                | (repeat apply Exists.intro
                   refine ⟨?e0, ?e3, ?e2, ?e1, hBe, hBk, HT2⟩
                   case e1 => go_num
                   case e2 => go_num
                   case e0 => omega
                   case e3 => omega)
                | fail
            case measure => simp [intOf]; omega
          · have hTm2 := Lib.hid (show T ≤ m → T = (headN e + sumL e.pv) + sumL (e.au) from fun h => absurd h hm)
            have ht2 : decide ((T : Int) ≤ (m : Int)) = false := by simp; omega
            clear hTm
            go_wp2_with fail
            go_loopw [5, 8] (fun t i wr => ∃ k T : Nat, k ≤ a.ns ∧ T ≤ 2251799813685248 ∧ t = .int .i64 (T : Int) ∧ i = .int .i64 (k : Int) ∧ Hid (Below w.heap.size w wr) ∧ Hid (Blk wr w.heap.size 29 (evC e a)) ∧ Hid (T ≤ m → T = (headN e + sumL e.pv + sumL e.au) + sumS (e.sg.take k))) (fun t i _ => a.ns - (intOf i).toNat)
            case atStart => exact ⟨0, T, Nat.zero_le _, hT, rfl, rfl, hBe, hBk, Lib.hid (fun h => by rw [List.take_zero]; exact hTm2.out h)⟩
            case round =>
              obtain ⟨wq, hwq⟩ : ∃ x, x = wr := ⟨_, rfl⟩
              subst hwq
              obtain ⟨k, T, hk, hT, rfl, rfl, hBe, hBk, hTm⟩ := hrel
              have hx := hBk.out
              have d0 := hx.cell (k := 0) rfl; have d1 := hx.cell (k := 1) rfl; have d2 := hx.cell (k := 2) rfl; have d3 := hx.cell (k := 3) rfl; have d4 := hx.cell (k := 4) rfl; have d5 := hx.cell (k := 5) rfl; have d6 := hx.cell (k := 6) rfl; have d7 := hx.cell (k := 7) rfl; have d8 := hx.cell (k := 8) rfl; have d9 := hx.cell (k := 9) rfl; have d10 := hx.cell (k := 10) rfl; have d11 := hx.cell (k := 11) rfl; have d12 := hx.cell (k := 12) rfl; have d13 := hx.cell (k := 13) rfl; have d14 := hx.cell (k := 14) rfl; have d15 := hx.cell (k := 15) rfl; have d16 := hx.cell (k := 16) rfl
              clear hx
              by_cases hp : k < a.ns
              · by_cases hm : T ≤ m
                · have hkx : k < e.sg.length := by rw [← HN.out.2.2]; exact hp
                  have hgx := List.getElem?_eq_getElem hkx
                  obtain ⟨b, off, hA, hb, c0, c1, c2⟩ := sigs_at HE.out.2.2.2.1.1 hkx
                  obtain ⟨l5, l6, l7⟩ := HE.out.2.2.2.1.2.2.2.2 _ (List.getElem_mem hkx)
                  obtain ⟨x, hxx⟩ : ∃ x, e.sg[k] = x := ⟨_, rfl⟩
                  rw [hxx] at hgx c0 c1 c2 l5 l6 l7
                  have c0 : wq.cell? ⟨b, off + k * 3, none⟩ = some (.string ⟨x.t.toArray⟩) := (hBe.out.cell (p := ⟨b, off + k * 3, none⟩) hb).trans c0
                  have c1 : wq.cell? ⟨b, off + k * 3 + 1, none⟩ = some (.string ⟨x.k.toArray⟩) := (hBe.out.cell (p := ⟨b, off + k * 3 + 1, none⟩) hb).trans c1
                  have c2 : wq.cell? ⟨b, off + k * 3 + 2, none⟩ = some (.string ⟨x.i.toArray⟩) := (hBe.out.cell (p := ⟨b, off + k * 3 + 2, none⟩) hb).trans c2
                  rw [hA] at d16
                  obtain ⟨x5, h5⟩ : ∃ xl, x.t.length = xl := ⟨_, rfl⟩
                  obtain ⟨x6, h6⟩ : ∃ xl, x.k.length = xl := ⟨_, rfl⟩
                  obtain ⟨x7, h7⟩ : ∃ xl, x.i.length = xl := ⟨_, rfl⟩
                  have s5 : (⟨x.t.toArray⟩ : ByteArray).size = x5 := h5
                  have s6 : (⟨x.k.toArray⟩ : ByteArray).size = x6 := h6
                  have s7 : (⟨x.i.toArray⟩ : ByteArray).size = x7 := h7
                  rw [h5] at l5; rw [h6] at l6; rw [h7] at l7
                  have HT2 := Lib.hid (show T + x5 + x6 + x7 ≤ m → T + x5 + x6 + x7 = (headN e + sumL e.pv + sumL e.au) + sumS (e.sg.take (k + 1)) from fun _ => by
                    rw [sumS_succ hgx, ← Nat.add_assoc, ← hTm.out hm]
                    show T + x5 + x6 + x7 = T + (x.t.length + x.k.length + x.i.length)
                    rw [h5, h6, h7]; omega)
                  clear hxx h5 h6 h7 hgx hTm hkx
                  go_upto_region 13 with fail
                  go_quiet (fail)
                  go_wp2_with fail
                  have HBF := Lib.hid (hBe.out.drewN nq)
                  have HBG := Lib.hid (show Blk (wq.drewN nq) w.heap.size 29 (evC e a) from hBk.out)
                  go_roundw
                  case rel =>
                    first
                      | exact ⟨k + 1, T + x5 + x6 + x7, by omega, by omega, by go_num, by go_num, HBF, HBG, HT2⟩
                      | (repeat apply Exists.intro
                         refine ⟨?e0, ?e3, ?e2, ?e1, HBF, HBG, HT2⟩
                         case e1 => go_num
                         case e2 => go_num
                         case e0 => omega
                         case e3 => omega)
                      | fail
                  case measure => simp [intOf]; omega
                · have hTm3 := Lib.hid (show T ≤ m → T = (headN e + sumL e.pv + sumL e.au) + sumS e.sg from fun h => absurd h hm)
                  have HBY := Lib.hid hBe.out
                  clear hTm
                  go_wp2_with fail
                  go_ret
                  exact ⟨true, rfl, fun h => (by cases h), HBY.out⟩
              · obtain rfl : k = a.ns := by omega
                have hTm3 := Lib.hid (show T ≤ m → T = (headN e + sumL e.pv + sumL e.au) + sumS e.sg from fun h => by have h2 := hTm.out h; rw [HN.out.2.2, List.take_length] at h2; exact h2)
                clear hTm
                by_cases hmm : T ≤ m
                · have HTE := Lib.hid (hTm3.out hmm)
                  have ht9 : decide (m < T) = false := decide_eq_false (by omega)
                  have ht8 : ¬ m < T := by omega
                  have hv1 := HE.out.1.below hBe.out
                  have HW := Lib.hid (weigh_calls e.ct.bulk e.ct ((m : Int) - (T : Int)) 60 60 wq a.A a.B a.nl a.cl a.nm a.cm (Nat.le_refl _) (by decide) (by decide) (by omega) (by omega) hv1.1 hv1.2.1 hv1.2.2.1 hv1.2.2.2.1 hv1.2.2.2.2)
                  have HMM := Lib.hid hmm
                  clear hv1
                  obtain ⟨z, hz⟩ : ∃ z, wgV e.ct ((m : Int) - (T : Int)) 60 = z := ⟨_, rfl⟩
                  unfold WgtPost at HW
                  rw [hz] at HW
                  have HZ := Lib.hid hz
                  clear hz
                  by_cases hz0 : z < 0
                  · have hzb : decide (z < 0) = true := by simpa using hz0
                    clear hz0
                    go_wp2_with fail
                    refine HW.out.mono ?_
                    rintro en wy ⟨⟨_, _, rfl⟩, by9⟩
                    have HBY := Lib.hid (hBe.out.then_ by9)
                    clear by9 d0 d1 d2 d3 d4 d5 d6 d7 d8 d9 d10 d11 d12 d13 d14 d15 d16
                    go_wp2_with fail
                    go_ret
                    exact ⟨true, rfl, fun h => (by cases h), HBY.out⟩
                  · have hzb : decide (z < 0) = false := by simpa using hz0
                    have HZ0 := Lib.hid (show 0 ≤ z by omega)
                    clear hz0
                    go_wp2_with fail
                    refine HW.out.mono ?_
                    rintro en wy ⟨⟨_, _, rfl⟩, by9⟩
                    have HBY := Lib.hid (hBe.out.then_ by9)
                    clear by9 d0 d1 d2 d3 d4 d5 d6 d7 d8 d9 d10 d11 d12 d13 d14 d15 d16
                    go_wp2_with fail
                    go_ret
                    have h1 := wgV_bulk (v := e.ct) (n := (m : Int) - (T : Int)) (d := 60) (by decide) (by rw [HZ.out]; exact HZ0.out)
                    have h2 := HMM.out
                    exact ⟨false, rfl, fun _ => ⟨T, HMM.out, HTE.out, by have := h1.1; omega, by have := h1.2; omega, by rw [HZ.out]; exact HZ0.out⟩, HBY.out⟩
                · have ht9 : decide (m < T) = true := decide_eq_true (by omega)
                  have ht8 : m < T := by omega
                  have HBY := Lib.hid hBe.out
                  go_wp2_with fail
                  go_ret
                  exact ⟨true, rfl, fun h => (by cases h), HBY.out⟩

        · obtain rfl : k = a.nu := by omega
          have hTm2 := Lib.hid (show T ≤ m → T = (headN e + sumL e.pv) + sumL (e.au) from fun h => by have h2 := hTm.out h; rw [HN.out.2.1, List.take_length] at h2; exact h2)
          clear hTm
          go_wp2_with fail
          go_loopw [5, 8] (fun t i wr => ∃ k T : Nat, k ≤ a.ns ∧ T ≤ 2251799813685248 ∧ t = .int .i64 (T : Int) ∧ i = .int .i64 (k : Int) ∧ Hid (Below w.heap.size w wr) ∧ Hid (Blk wr w.heap.size 29 (evC e a)) ∧ Hid (T ≤ m → T = (headN e + sumL e.pv + sumL e.au) + sumS (e.sg.take k))) (fun t i _ => a.ns - (intOf i).toNat)
          case atStart => exact ⟨0, T, Nat.zero_le _, hT, rfl, rfl, hBe, hBk, Lib.hid (fun h => by rw [List.take_zero]; exact hTm2.out h)⟩
          case round =>
            obtain ⟨wq, hwq⟩ : ∃ x, x = wr := ⟨_, rfl⟩
            subst hwq
            obtain ⟨k, T, hk, hT, rfl, rfl, hBe, hBk, hTm⟩ := hrel
            have hx := hBk.out
            have d0 := hx.cell (k := 0) rfl; have d1 := hx.cell (k := 1) rfl; have d2 := hx.cell (k := 2) rfl; have d3 := hx.cell (k := 3) rfl; have d4 := hx.cell (k := 4) rfl; have d5 := hx.cell (k := 5) rfl; have d6 := hx.cell (k := 6) rfl; have d7 := hx.cell (k := 7) rfl; have d8 := hx.cell (k := 8) rfl; have d9 := hx.cell (k := 9) rfl; have d10 := hx.cell (k := 10) rfl; have d11 := hx.cell (k := 11) rfl; have d12 := hx.cell (k := 12) rfl; have d13 := hx.cell (k := 13) rfl; have d14 := hx.cell (k := 14) rfl; have d15 := hx.cell (k := 15) rfl; have d16 := hx.cell (k := 16) rfl
            clear hx
            by_cases hp : k < a.ns
            · by_cases hm : T ≤ m
              · have hkx : k < e.sg.length := by rw [← HN.out.2.2]; exact hp
                have hgx := List.getElem?_eq_getElem hkx
                obtain ⟨b, off, hA, hb, c0, c1, c2⟩ := sigs_at HE.out.2.2.2.1.1 hkx
                obtain ⟨l5, l6, l7⟩ := HE.out.2.2.2.1.2.2.2.2 _ (List.getElem_mem hkx)
                obtain ⟨x, hxx⟩ : ∃ x, e.sg[k] = x := ⟨_, rfl⟩
                rw [hxx] at hgx c0 c1 c2 l5 l6 l7
                have c0 : wq.cell? ⟨b, off + k * 3, none⟩ = some (.string ⟨x.t.toArray⟩) := (hBe.out.cell (p := ⟨b, off + k * 3, none⟩) hb).trans c0
                have c1 : wq.cell? ⟨b, off + k * 3 + 1, none⟩ = some (.string ⟨x.k.toArray⟩) := (hBe.out.cell (p := ⟨b, off + k * 3 + 1, none⟩) hb).trans c1
                have c2 : wq.cell? ⟨b, off + k * 3 + 2, none⟩ = some (.string ⟨x.i.toArray⟩) := (hBe.out.cell (p := ⟨b, off + k * 3 + 2, none⟩) hb).trans c2
                rw [hA] at d16
                obtain ⟨x5, h5⟩ : ∃ xl, x.t.length = xl := ⟨_, rfl⟩
                obtain ⟨x6, h6⟩ : ∃ xl, x.k.length = xl := ⟨_, rfl⟩
                obtain ⟨x7, h7⟩ : ∃ xl, x.i.length = xl := ⟨_, rfl⟩
                have s5 : (⟨x.t.toArray⟩ : ByteArray).size = x5 := h5
                have s6 : (⟨x.k.toArray⟩ : ByteArray).size = x6 := h6
                have s7 : (⟨x.i.toArray⟩ : ByteArray).size = x7 := h7
                rw [h5] at l5; rw [h6] at l6; rw [h7] at l7
                have HT2 := Lib.hid (show T + x5 + x6 + x7 ≤ m → T + x5 + x6 + x7 = (headN e + sumL e.pv + sumL e.au) + sumS (e.sg.take (k + 1)) from fun _ => by
                  rw [sumS_succ hgx, ← Nat.add_assoc, ← hTm.out hm]
                  show T + x5 + x6 + x7 = T + (x.t.length + x.k.length + x.i.length)
                  rw [h5, h6, h7]; omega)
                clear hxx h5 h6 h7 hgx hTm hkx
                go_upto_region 13 with fail
                go_quiet (fail)
                go_wp2_with fail
                have HBF := Lib.hid (hBe.out.drewN nq)
                have HBG := Lib.hid (show Blk (wq.drewN nq) w.heap.size 29 (evC e a) from hBk.out)
                go_roundw
                case rel =>
                  first
                    | exact ⟨k + 1, T + x5 + x6 + x7, by omega, by omega, by go_num, by go_num, HBF, HBG, HT2⟩
                    | (repeat apply Exists.intro
                       refine ⟨?e0, ?e3, ?e2, ?e1, HBF, HBG, HT2⟩
                       case e1 => go_num
                       case e2 => go_num
                       case e0 => omega
                       case e3 => omega)
                    | fail
                case measure => simp [intOf]; omega
              · have hTm3 := Lib.hid (show T ≤ m → T = (headN e + sumL e.pv + sumL e.au) + sumS e.sg from fun h => absurd h hm)
                have HBY := Lib.hid hBe.out
                clear hTm
                go_wp2_with fail
                go_ret
                exact ⟨true, rfl, fun h => (by cases h), HBY.out⟩
            · obtain rfl : k = a.ns := by omega
              have hTm3 := Lib.hid (show T ≤ m → T = (headN e + sumL e.pv + sumL e.au) + sumS e.sg from fun h => by have h2 := hTm.out h; rw [HN.out.2.2, List.take_length] at h2; exact h2)
              clear hTm
              by_cases hmm : T ≤ m
              · have HTE := Lib.hid (hTm3.out hmm)
                have ht9 : decide (m < T) = false := decide_eq_false (by omega)
                have ht8 : ¬ m < T := by omega
                have hv1 := HE.out.1.below hBe.out
                have HW := Lib.hid (weigh_calls e.ct.bulk e.ct ((m : Int) - (T : Int)) 60 60 wq a.A a.B a.nl a.cl a.nm a.cm (Nat.le_refl _) (by decide) (by decide) (by omega) (by omega) hv1.1 hv1.2.1 hv1.2.2.1 hv1.2.2.2.1 hv1.2.2.2.2)
                have HMM := Lib.hid hmm
                clear hv1
                obtain ⟨z, hz⟩ : ∃ z, wgV e.ct ((m : Int) - (T : Int)) 60 = z := ⟨_, rfl⟩
                unfold WgtPost at HW
                rw [hz] at HW
                have HZ := Lib.hid hz
                clear hz
                by_cases hz0 : z < 0
                · have hzb : decide (z < 0) = true := by simpa using hz0
                  clear hz0
                  go_wp2_with fail
                  refine HW.out.mono ?_
                  rintro en wy ⟨⟨_, _, rfl⟩, by9⟩
                  have HBY := Lib.hid (hBe.out.then_ by9)
                  clear by9 d0 d1 d2 d3 d4 d5 d6 d7 d8 d9 d10 d11 d12 d13 d14 d15 d16
                  go_wp2_with fail
                  go_ret
                  exact ⟨true, rfl, fun h => (by cases h), HBY.out⟩
                · have hzb : decide (z < 0) = false := by simpa using hz0
                  have HZ0 := Lib.hid (show 0 ≤ z by omega)
                  clear hz0
                  go_wp2_with fail
                  refine HW.out.mono ?_
                  rintro en wy ⟨⟨_, _, rfl⟩, by9⟩
                  have HBY := Lib.hid (hBe.out.then_ by9)
                  clear by9 d0 d1 d2 d3 d4 d5 d6 d7 d8 d9 d10 d11 d12 d13 d14 d15 d16
                  go_wp2_with fail
                  go_ret
                  have h1 := wgV_bulk (v := e.ct) (n := (m : Int) - (T : Int)) (d := 60) (by decide) (by rw [HZ.out]; exact HZ0.out)
                  have h2 := HMM.out
                  exact ⟨false, rfl, fun _ => ⟨T, HMM.out, HTE.out, by have := h1.1; omega, by have := h1.2; omega, by rw [HZ.out]; exact HZ0.out⟩, HBY.out⟩
              · have ht9 : decide (m < T) = true := decide_eq_true (by omega)
                have ht8 : m < T := by omega
                have HBY := Lib.hid hBe.out
                go_wp2_with fail
                go_ret
                exact ⟨true, rfl, fun h => (by cases h), HBY.out⟩



end Go.Proofs.YtkbcbikilgcckaaGreatDoor
