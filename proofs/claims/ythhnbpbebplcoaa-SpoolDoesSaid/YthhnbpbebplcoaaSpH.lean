/- Layer 19: the program's spool, walked: Sync, Open. -/
import Derived.Test.YthhnbpbebplcoaaSpG
import Derived.Test.YthhnbpbebplcoaaSpD
namespace Go.Proofs.Ythhnbpbebplcoaa
open Go.ChangeShapes Go.WideShapes Go.ChangeAt Go.RowKit Go.IntWalk
set_option linter.unusedVariables false

set_option maxHeartbeats 2000000 in
theorem sync_calls (base g : Nat) (v : Value) (s : Sp) (hs : s.Ok) (hac : s.ac < 1000000) (w : World) (h : PSt base w g v s) :
    Calls Try.prog 14 #[.pointer (some ⟨g, 0, none⟩)] w fun e w' => e = .returned (.int .i64 s.sync.2) ∧ ∃ v', PSt base w' g v' s.sync.1 ∧ Nx w w' g v v' := by
  have HP := Lib.hid h
  have hrd := ready_calls base g v s w h
  by_cases hd : s.dn = true
  · have HS := Lib.hid (show s.sync = (s, 50) by unfold Sp.sync; rw [if_pos hd])
    rw [hd] at hrd
    have e0 : errD true = 50 := rfl
    rw [e0] at hrd
    clear h hd hs
    go_enter Try.func14, Try.ntmps14
    go_wp2_with fail
    refine hrd.mono ?_
    rintro e w1 ⟨rfl, rfl⟩
    go_wp2_with fail
    go_ret
    rw [HS.out]
    exact ⟨rfl, v, HP.out, Nx.refl _ _ _⟩
  · replace hd : s.dn = false := by simpa using hd
    rw [hd] at hrd
    have e0 : errD false = 0 := rfl
    rw [e0] at hrd
    have HS := Lib.hid (show s.sync = (if s.act.2 then (s.act.1, 50) else ({ s.act.1 with sy := s.act.1.bs.length }, 0)) by unfold Sp.sync; rw [if_neg (by simp [hd])])
    have hA := act_calls base g v s hs hac hd w h
    have HOK := Lib.hid hs
    clear h hd hs
    cases hav : s.act.2
    · rw [hav, e0] at hA
      have HAC := Lib.hid (show s.sync = ({ s.act.1 with sy := s.act.1.bs.length }, 0) by rw [HS.out, hav]; rfl)
      clear hav
      go_enter Try.func14, Try.ntmps14
      go_wp2_with fail
      refine hrd.mono ?_
      rintro e w1 ⟨rfl, rfl⟩
      go_wp2_with fail
      refine hA.mono ?_
      rintro e w2 ⟨rfl, v2, p2, n2⟩
      obtain ⟨c0, c1, c2, c3, c4, c5, f0, f1, f2, f3, f4, f5⟩ := PSt.cells p2.2.1
      obtain ⟨A, n, cap, rfl, _, hn, _⟩ := p2.1.form
      have HP2 := Lib.hid p2
      have HN2 := Lib.hid n2
      clear p2 n2 hA hrd
      go_wp2_with fail
      go_ret
      rw [HAC.out]
      refine ⟨rfl, _, ⟨HP2.out.1.gb (gb_setCell _ g _ _) HP2.out.2.2, ?_, HP2.out.2.2⟩, HN2.out.trans (Nx.of_gb (gb_setCell _ g _ _))⟩
      have h3 := HP2.out.2.1.set_ 1 (.int .i64 (n : Int))
      rw [hn.out] at h3 ⊢
      exact h3
    · have e1 : errD true = 50 := rfl
      rw [hav, e1] at hA
      have HAC := Lib.hid (show s.sync = (s.act.1, 50) by rw [HS.out, hav]; rfl)
      clear hav
      go_enter Try.func14, Try.ntmps14
      go_wp2_with fail
      refine hrd.mono ?_
      rintro e w1 ⟨rfl, rfl⟩
      go_wp2_with fail
      refine hA.mono ?_
      rintro e w2 ⟨rfl, v2, p2, n2⟩
      go_wp2_with fail
      go_ret
      rw [HAC.out]
      exact ⟨rfl, v2, p2, n2⟩
/-- Where the last line ends, by its last line feed. -/
theorem last10 (a r : List UInt8) (h : (10 : UInt8) ∉ r) : (flatL (splitF (a ++ 10 :: r)).1).length = a.length + 1 := by
  obtain ⟨h1, h2, h3⟩ := splitF_good a
  have e : a ++ 10 :: r = flatL (splitF a).1 ++ ((splitF a).2 ++ 10 :: r) := by rw [← List.append_assoc, ← h3]
  rw [e, splitF_app _ _ h1, splitF_line _ _ h2, splitF_rest _ h]
  dsimp only
  rw [flatL_snoc, ← List.append_assoc, ← h3]
  simp
set_option maxHeartbeats 2000000 in
theorem lastByte_calls (A : Option Addr) (n c : Nat) (bs : List UInt8) (w : World) (hr : RB w A bs) (hn : Hid (n = bs.length)) (hl : bs.length ≤ 4194304) :
    Calls Try.prog 41 #[.slice A n c, .int .u8 10] w fun e w' => e = .returned (.int .i64 (((flatL (splitF bs).1).length : Int) - 1)) ∧ w = w' := by
  have hnl : n ≤ 4194304 := by rw [hn.out]; exact hl
  obtain ⟨z0, hz0⟩ : ∃ z : Int, (n : Int) - 1 = z := ⟨_, rfl⟩
  have HZ0 := Lib.hid hz0
  go_enter Try.func41, Try.ntmps41
  go_wp2_with fail
  go_loop [5] (fun i => ∃ (m : Nat) (z : Int), m ≤ n ∧ Hid (z = (m : Int) - 1) ∧ i = .int .i64 z ∧ (10 : UInt8) ∉ bs.drop m) (fun i => (intOf i + 1).toNat)
  case atStart => exact ⟨n, z0, Nat.le_refl _, Lib.hid HZ0.out.symm, rfl, by rw [hn.out, List.drop_length]; simp⟩
  case round =>
    obtain ⟨m, z, hm, hz, rfl, hno⟩ := hrel
    clear hz0
    by_cases hp : 0 < m
    · obtain ⟨q, rfl⟩ : ∃ q, m = q + 1 := ⟨m - 1, by omega⟩
      obtain rfl : z = (q : Int) := by have := hz.out; omega
      have hql : q < bs.length := by have := hn.out; omega
      obtain ⟨b, off, rfl, hb, hc⟩ := hr q hql
      have hd : bs.drop q = bs[q] :: bs.drop (q + 1) := List.drop_eq_getElem_cons hql
      have hg : bs.getD q 0 = bs[q] := by simp [List.getD, hql]
      rw [hg] at hc
      have hbt : bs = bs.take q ++ bs[q] :: bs.drop (q + 1) := by rw [← hd, List.take_append_drop]
      obtain ⟨x, hx⟩ : ∃ x, bs[q] = x := ⟨_, rfl⟩
      rw [hx] at hc hd hbt
      have i1 : (q : Int) < (n : Int) := by omega
      have hwy : IntKind.i64.wrap ((q : Int) - 1) = (q : Int) - 1 := IntWalk.i64_in _ (by omega)
      by_cases h10 : x = 10
      · subst h10
        have hF := last10 (bs.take q) (bs.drop (q + 1)) hno
        rw [← hbt, List.length_take, Nat.min_eq_left (by omega)] at hF
        have HF := Lib.hid hF
        clear hF hbt hd hg hx hno hn hr
        go_wp2_with fail
        go_ret
        exact ⟨ret_int (by rw [HF.out]; omega), rfl⟩
      · have ht : ((x.toNat : Int) == 10) = false := by
          rw [beq_eq_false_iff_ne]; intro e; exact h10 (UInt8.toNat_inj.1 (show x.toNat = 10 by omega))
        have HNO : Hid ((10 : UInt8) ∉ bs.drop q) := Lib.hid (by
          rw [hd]; intro e
          rcases List.mem_cons.1 e with e | e
          · exact h10 e.symm
          · exact hno e)
        have HZ := Lib.hid hz.out
        clear hbt hd hg hx hno h10
        obtain ⟨y, hy⟩ : ∃ y : Int, (q : Int) - 1 = y := ⟨_, rfl⟩
        have HY := Lib.hid hy
        go_wp2_with fail
        go_round
        case rel => exact ⟨q, y, by omega, Lib.hid HY.out.symm, rfl, HNO.out⟩
        case measure => simp [intOf]; have := HY.out; omega
    · obtain rfl : m = 0 := by omega
      obtain rfl : z = -1 := by have := hz.out; omega
      have HF := Lib.hid (show (splitF bs).1 = [] by rw [splitF_rest bs (by simpa using hno)])
      clear hno
      go_wp2_with fail
      go_ret
      exact ⟨ret_int (by rw [HF.out]; rfl), rfl⟩
theorem lastIndex_calls (A : Option Addr) (n c : Nat) (bs : List UInt8) (b o : Nat) (w : World) (hr : RB w A bs) (hn : Hid (n = bs.length)) (hl : bs.length ≤ 4194304) (hb : w.cell? ⟨b, o, none⟩ = some (.int .u8 10)) :
    Calls Try.prog 34 #[.slice A n c, .slice (some ⟨b, o, none⟩) 1 1] w fun e w' => e = .returned (.int .i64 (((flatL (splitF bs).1).length : Int) - 1)) ∧ w = w' := by
  have HL := Lib.hid (lastByte_calls A n c bs w hr hn hl)
  clear hn hr
  go_enter Try.func34, Try.ntmps34
  go_wp2_with fail
  refine HL.out.mono ?_
  rintro e w1 ⟨rfl, rfl⟩
  go_wp2_with fail
  go_ret
  exact ⟨rfl, rfl⟩
theorem lines_calls (l : List UInt8) (w : World) :
    Calls Try.prog 35 #[strV l] w fun e w' => e = .returned (.func (.func 44) #[] #[.pointer (some ⟨w.heap.size, 0, none⟩)]) ∧ w' = w.alloc (.cells #[strV l] 9) := by
  unfold strV
  go_enter Try.func35, Try.ntmps35
  go_wp2_with fail
  go_ret
  exact ⟨rfl, rfl⟩
end Go.Proofs.Ythhnbpbebplcoaa
