/- Layer 19: lines, one by one, as strings.Lines gives them; the last line's end, as bytes.LastIndex tells it. -/
import Derived.Test.YthhnbpbebplcoaaSpF
import Derived.Test.YthhnbpbebplcoaaRb
import Derived.Test.YthhnbpbebplcoaaShelf
import Derived.RangeFuncBox
import Derived.OwnWalkIn
import Derived.TacticsInMore
import Derived.LoopNIn
import Derived.LoopIn
import Derived.BigRegionIn
namespace Go.Proofs.Ythhnbpbebplcoaa
open Go.ChangeShapes Go.WideShapes Go.ChangeAt Go.RowKit Go.IntWalk
set_option linter.unusedVariables false
attribute [local go_sem] Oper.semAt_some

theorem idxB_line (z l : List UInt8) (h : (10 : UInt8) ∉ z) : Lib.indexByte (z ++ 10 :: l) 10 = (z.length : Int) := by
  induction z with
  | nil => rfl
  | cons c z ih =>
    have h1 : (c == 10) = false := by
      rw [beq_eq_false_iff_ne]; intro e; exact h (by rw [e]; exact List.mem_cons_self)
    have h2 := ih (fun e => h (List.mem_cons_of_mem _ e))
    rw [List.cons_append, Lib.indexByte, h1, h2]
    have h3 : ((z.length : Int) == -1) = false := by rw [beq_eq_false_iff_ne]; omega
    rw [h3]
    simp
/-- How long the text in the box is. -/
def boxLen (W : World) (B : Nat) : Nat := match W.cell? ⟨B, 0, none⟩ with
  | some (.string s) => s.size
  | _ => 0
theorem boxLen_of {W : World} {B : Nat} {l : List UInt8} (h : W.cell? ⟨B, 0, none⟩ = some (.string ⟨l.toArray⟩)) : boxLen W B = l.length := by
  unfold boxLen; rw [h]; rfl
theorem gb_drewB (w : World) (row : Option Nat) : w.grownBy w.drew row := ⟨rfl, rfl, rfl, Nat.le_refl _, fun _ _ _ => rfl⟩
set_option maxRecDepth 100000 in
set_option maxHeartbeats 4000000 in
/-- The closure that strings.Lines answers. -/
theorem lines_box (zs : List (List UInt8)) (hz : ∀ z ∈ zs, (10 : UInt8) ∉ z) (hl : (flatL zs).length ≤ 8388608) (Bs : Nat) (w : World) (hB : Blk w Bs 9 [strV (flatL zs)]) :
    SeqBox Fence.wide 7 Try.prog 44 #[.pointer (some ⟨Bs, 0, none⟩)] (fun z : List UInt8 => #[strV (z ++ [10])]) Bs (fun ys => ys = zs) (fun pre z => ∃ h : pre.length < zs.length, zs = pre ++ z :: zs.drop (pre.length + 1)) w := by
  intro l J Jx W hbW hbx hJ hY h0
  have hBW : Blk W Bs 9 [strV (flatL zs)] := hbx.trans hB
  refine callsIn_of_wp Try.func44 rfl trivial ?_ rfl
  simp only [Try.ntmps44, List.size_toArray, List.length_cons, List.length_nil, Nat.reduceAdd, Nat.reduceSub, Array.replicate_succ, Array.replicate_zero, List.push_toArray, List.append_toArray, List.nil_append, List.cons_append]
  clear hB hbx hbW
  gi_wp2
  gi_loopw [] (fun wr => ∃ k : Nat, k ≤ zs.length ∧ Blk wr Bs 9 [strV (flatL (zs.drop k))] ∧ J (zs.take k) wr) (fun wr => boxLen wr Bs)
  case atStart => exact ⟨0, Nat.zero_le _, hBW, h0⟩
  case round =>
    obtain ⟨k, hk, hb, hj⟩ := hrel
    have c0 := hb.cell (k := 0) rfl
    have f0 := hb.frozen 0
    unfold strV at c0
    have HB := Lib.hid hb
    have HJ := Lib.hid hj
    clear hBW h0 hb hj
    by_cases hp : k < zs.length
    · obtain ⟨z, hzk⟩ : ∃ z, zs[k] = z := ⟨_, rfl⟩
      obtain ⟨r, hr⟩ : ∃ r, flatL (zs.drop (k + 1)) = r := ⟨_, rfl⟩
      have hz10 : (10 : UInt8) ∉ z := by rw [← hzk]; exact hz _ (List.getElem_mem hp)
      have hd : flatL (zs.drop k) = z ++ 10 :: r := by
        rw [List.drop_eq_getElem_cons hp, flatL_cons, hzk, hr]
      have hlen : z.length + 1 + r.length ≤ 8388608 := by
        have h1 : flatL zs = flatL (zs.take k) ++ flatL (zs.drop k) := by rw [← flatL_app, List.take_append_drop]
        rw [h1, hd] at hl
        simp at hl
        omega
      have hM := Lib.hid (boxLen_of c0)
      rw [hd] at c0 hM
      have hix := idxB_line z r hz10
      have HI : Hid (∀ W, Calls Try.prog 45 #[.string ⟨(z ++ 10 :: r).toArray⟩, .int .u8 10] W fun e w' => e = .returned (.int .i64 (z.length : Int)) ∧ W = w') := Lib.hid (fun W => by
        have := Try.strings_IndexByte ⟨(z ++ 10 :: r).toArray⟩ 10 W
        rw [show ((10 : Int).toNat.toUInt8) = 10 from rfl] at this
        rw [show (⟨(z ++ 10 :: r).toArray⟩ : ByteArray).data.toList = z ++ 10 :: r from rfl, hix] at this
        exact this.mono fun e w' h => ⟨h.1, h.2.symm⟩)
      have HZ := Lib.hid (And.intro hzk (And.intro hr hd))
      clear hzk hr hd hix hz10
      have ht : (z ++ 10 :: r).take (z.length + 1) = z ++ [10] := by
        rw [List.take_append, List.take_of_length_le (by omega)]; simp
      have hdr : (z ++ 10 :: r).drop (z.length + 1) = r := by
        rw [List.drop_append, List.drop_of_length_le (by omega)]; simp
      have hdr2 : (List.drop (z.length + 1) (List.take (z.length + (r.length + 1)) (z ++ 10 :: r))) = r := by
        rw [List.take_of_length_le (by simp), hdr]
      have hg2 : wr.grownBy ((wr.setCell ⟨Bs, 0, none⟩ (.string ⟨r.toArray⟩)).drew) (some Bs) := (gb_setCell _ _ _ _).trans (gb_drewB _ _)
      have hB2 : Blk ((wr.setCell ⟨Bs, 0, none⟩ (.string ⟨r.toArray⟩)).drew) Bs 9 [strV (flatL (zs.drop (k + 1)))] := by rw [HZ.out.2.1]; exact (HB.out.set_ 0 (.string ⟨r.toArray⟩)).drew
      have hts : zs.take (k + 1) = zs.take k ++ [z] := by rw [take_snocL zs k hp, HZ.out.1]
      obtain ⟨fn, tmps, assign, body, hy, hR⟩ := hY _ z _ (hJ _ _ _ HJ.out hg2) (by
        have hkl : (zs.take k).length = k := by rw [List.length_take]; omega
        refine ⟨by omega, ?_⟩
        rw [hkl, ← HZ.out.1, ← List.drop_eq_getElem_cons hp, List.take_append_drop])
      have HN := Lib.hid (And.intro hB2 hts)
      unfold strV at hy
      clear hg2 hB2 hts
      gi_wp2_with fail
      refine ⟨trivial, ?_⟩
      refine ((callsIn_wide (n := 6)).2 (HI.out _)).mono ?_
      rintro e w1 ⟨rfl, rfl⟩
      gi_wp2_with fail
      gi_region
      gi_wp2_with fail
      refine hR.mono ?_
      rintro e W3 (⟨rfl, hJ3, hk3⟩ | ⟨rfl, hJx3⟩)
      · have hB3 : Blk W3 Bs 9 [strV (flatL (zs.drop (k + 1)))] := hk3.trans HN.out.1
        have hm3 : boxLen W3 Bs < boxLen wr Bs := by
          have h := hB3.cell (k := 0) rfl
          unfold strV at h
          rw [boxLen_of h, HZ.out.2.1, hM.out]
          simp
          omega
        have HM3 := Lib.hid hm3
        have HB3 := Lib.hid hB3
        have HJ3 : Hid (J (zs.take (k + 1)) W3) := Lib.hid (by rw [HN.out.2]; exact hJ3)
        clear hm3 hB3 hk3 hJ3
        gi_wp2_with fail
        go_roundw
        case rel => exact ⟨k + 1, by omega, HB3.out, HJ3.out⟩
        case measure => exact HM3.out
      · gi_wp2_with fail
        refine bodyPost_ret (results_none rfl _ _ _) rfl ?_
        exact ⟨⟨_, rfl⟩, .inr ⟨_, hJx3⟩⟩
    · have hz0 : zs.drop k = [] := List.drop_of_length_le (by omega)
      rw [hz0, flatL_nil] at c0
      have HT : Hid (zs.take k = zs) := Lib.hid (List.take_of_length_le (by omega))
      clear hz0
      gi_wp2_with fail
      go_end0
      exact ⟨⟨_, rfl⟩, .inl ⟨_, rfl, by rw [← HT.out]; exact HJ.out⟩⟩
end Go.Proofs.Ythhnbpbebplcoaa
