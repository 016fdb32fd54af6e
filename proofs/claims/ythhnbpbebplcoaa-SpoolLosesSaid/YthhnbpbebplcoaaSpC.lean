/- Layer 19: the document's spool, walked: Sync, New, lists that are the same. -/
import Derived.Test.YthhnbpbebplcoaaSpB
namespace Go.Proofs.Ythhnbpbebplcoaa
open Go.ChangeShapes Go.WideShapes Go.ChangeAt Go.RowKit Go.IntWalk
set_option linter.unusedVariables false

theorem act_keeps (s : Sp) (h : s.act.2 = false) : s.act.1.bs = s.bs ∧ s.act.1.sy = s.sy ∧ s.act.1.dn = s.dn ∧ s.act.1.kp = s.kp := by
  unfold Sp.act at *
  split at h
  · rename_i h0; rw [if_pos h0]; exact ⟨rfl, rfl, rfl, rfl⟩
  · rename_i h0
    rw [if_neg h0]
    split at h
    · cases h
    · rename_i h1; rw [if_neg h1]; exact ⟨rfl, rfl, rfl, rfl⟩
set_option maxHeartbeats 2000000 in
theorem refSync_calls (m : Nat) (s : Sp) (hs : s.Ok) (hac : s.ac < 1000000) (w : World) (h : RSt w m s) :
    Calls Try.prog 15 #[.pointer (some ⟨m, 0, none⟩)] w fun e w' => e = .returned (.int .i64 s.sync.2) ∧ RSt w' m s.sync.1 ∧ w.grownBy w' (some m) := by
  by_cases hd : s.dn = true
  · have HS := Lib.hid (show s.sync = (s, 50) by unfold Sp.sync; rw [if_pos hd])
    have HB := Lib.hid h
    unfold RSt RCs at h
    rw [hd] at h
    obtain ⟨c0, c1, c2, c3, c4, c5, f0, f1, f2, f3, f4, f5⟩ := RSt.cells h
    clear h hd hs
    go_enter Try.func15, Try.ntmps15
    go_wp2_with fail
    go_ret
    rw [HS.out]
    exact ⟨rfl, HB.out, World.grownBy.refl _ _⟩
  · replace hd : s.dn = false := by simpa using hd
    have HS := Lib.hid (show s.sync = (if s.act.2 then (s.act.1, 50) else ({ s.act.1 with sy := s.act.1.bs.length }, 0)) by unfold Sp.sync; rw [if_neg (by simp [hd])])
    have HB := Lib.hid h
    have HD := Lib.hid hd
    have HOK := Lib.hid hs
    unfold RSt RCs at h
    rw [hd] at h
    obtain ⟨c0, c1, c2, c3, c4, c5, f0, f1, f2, f3, f4, f5⟩ := RSt.cells h
    clear h hd hs
    go_enter Try.func15, Try.ntmps15
    go_wp2_with fail
    refine (refAct_calls m s HOK.out hac HD.out w HB.out).mono ?_
    rintro e w1 ⟨rfl, r1, g1⟩
    have HR := Lib.hid (And.intro r1 g1)
    clear c0 c1 c2 c3 c4 c5 f0 f1 f2 f3 f4 f5 r1 g1
    cases hav : s.act.2
    · have HAV := Lib.hid (act_keeps s hav)
      have HAC := Lib.hid (show s.sync = ({ s.act.1 with sy := s.act.1.bs.length }, 0) by rw [HS.out, hav]; rfl)
      have HOK1 := Lib.hid (Sp.Ok.act HOK.out)
      generalize s.act.1 = t at *
      have h1 := HR.out.1
      unfold RSt RCs at h1
      obtain ⟨x, hx⟩ : ∃ x, t.bs.take t.sy = x := ⟨_, rfl⟩
      obtain ⟨y, hy⟩ : ∃ y, t.bs.drop t.sy = y := ⟨_, rfl⟩
      rw [hx, hy] at h1
      have HXY := Lib.hid (show x ++ y = t.bs by rw [← hx, ← hy, List.take_append_drop])
      have hxl : x.length ≤ 4194304 := by have := HOK1.out.len; rw [← hx]; simp; omega
      have hyl : y.length ≤ 4194304 := by have := HOK1.out.len; rw [← hy]; simp; omega
      have HH := Lib.hid h1
      obtain ⟨c0, c1, c2, c3, c4, c5, f0, f1, f2, f3, f4, f5⟩ := RSt.cells h1
      clear hx hy h1 hav HS
      go_wp2_with fail
      go_region
      go_wp2_with fail
      go_ret
      rw [HAC.out]
      refine ⟨rfl, ?_, HR.out.2.trans ((((gb_setCell _ m _ _).trans (gb_setCell _ m _ _)).trans (gb_drew _ _)))⟩
      unfold RSt RCs
      dsimp only
      rw [List.take_length, List.drop_length, ← HXY.out]
      exact ((HH.out.set_ 0 (strV (x ++ y))).set_ 1 (strV [])).drew
    · go_wp2_with fail
      go_ret
      rw [HS.out, hav]
      exact ⟨rfl, HR.out⟩
/-- A new one's state. -/
def Sp.new (l : List UInt8) : Sp := ⟨l, l.length, false, 0, 0, 0⟩
theorem Sp.new_ok (l : List UInt8) (h : l.length ≤ 4194304) : (Sp.new l).Ok := ⟨Nat.le_refl _, h, by show 0 < 2 ^ 63; omega, by unfold Sp.new; dsimp only; omega⟩
set_option maxHeartbeats 2000000 in
theorem refNew_calls (l : List UInt8) (hl : l.length ≤ 4194304) (w : World) :
    Calls Try.prog 11 #[.string ⟨l.toArray⟩] w fun e w' => e = .returned (.pointer (some ⟨w.heap.size, 0, none⟩)) ∧ RSt w' w.heap.size (Sp.new l) ∧ Below w.heap.size w w' := by
  have hB : decide ((4194304 : Int) < (l.length : Int)) = false := decide_eq_false (by omega)
  have HN := Lib.hid (show RCs (Sp.new l) = [strV l, strV [], .bool true, .int .i64 0, .int .i64 0, .int .i64 0] by
    unfold RCs Sp.new
    dsimp only
    rw [List.take_length, List.drop_length]; rfl)
  clear hl
  go_enter Try.func11, Try.ntmps11
  go_wp2_with fail
  go_ret
  refine ⟨rfl, ?_, (Below.refl _ _).alloc (Nat.le_refl _) _⟩
  unfold RSt
  rw [HN.out]
  exact Blk.new w _ _
def TupP (xs ys : List (List UInt8)) (w : World) (e : Ending) (w' : World) : Prop := e = .returned (.bool (decide (xs = ys))) ∧ ∃ n, w' = w.drewN n
theorem take_snocL {α : Type} (s : List α) (k : Nat) (h : k < s.length) : s.take (k + 1) = s.take k ++ [s[k]] := List.take_succ_eq_append_getElem h
set_option maxHeartbeats 2000000 in
theorem same_calls (A B : Option Addr) (n c n2 c2 : Nat) (xs ys : List (List UInt8)) (w : World) (ha : RV w A (xs.map strV)) (hn : Hid (n = xs.length)) (hb : RV w B (ys.map strV)) (hn2 : Hid (n2 = ys.length)) (h62 : xs.length ≤ 1099511627776) :
    Calls Try.prog 18 #[.slice A n c, .slice B n2 c2] w (TupP xs ys w) := by
  obtain rfl := hn.out
  obtain rfl := hn2.out
  by_cases hl : xs.length = ys.length
  · have hl1 : decide ((xs.length : Int) = (ys.length : Int)) = true := decide_eq_true (by omega)
    have HL := Lib.hid hl
    have e1 : ((xs.length : Int) != (ys.length : Int)) = false := by simp [hl]
    clear hl
    go_enter Try.func18, Try.ntmps18
    go_wp2_with fail
    go_loopw [13] (fun i wr => ∃ k m : Nat, k ≤ xs.length ∧ i = .int .i64 (k : Int) ∧ xs.take k = ys.take k ∧ wr = w.drewN m) (fun i _ => xs.length - (intOf i).toNat)
    case atStart => exact ⟨0, 0, by omega, rfl, rfl, rfl⟩
    case round =>
      obtain ⟨k, m, hk, rfl, he, rfl⟩ := hrel
      by_cases hp : k < xs.length
      · have hp2 : k < ys.length := by have := HL.out; omega
        obtain ⟨ba, oa, rfl, _, ca⟩ := ha.some (by simp; omega)
        obtain ⟨bb, ob, rfl, _, cb⟩ := hb.some (by simp; omega)
        have c1 := ca k (strV xs[k]) (by simp [hp])
        have c2 := cb k (strV ys[k]) (by simp [hp2])
        have t1 := take_snocL xs k hp
        have t2 := take_snocL ys k hp2
        generalize xs[k] = x at *
        generalize ys[k] = y at *
        have HE := Lib.hid (And.intro he (And.intro t1 t2))
        have HAB := Lib.hid (And.intro ha hb)
        clear he t1 t2 ca cb ha hb
        unfold strV at c1 c2
        have hk1 : IntKind.i64.wrap ((k : Int) + 1) = ((k + 1 : Nat) : Int) := IntWalk.i64_in _ (by omega)
        by_cases hxy : x = y
        · subst hxy
          go_wp2_with fail
          go_quiet (fail)
          go_wp2_with fail
          refine ⟨⟨k + 1, _, by omega, by go_num, ?_, rfl⟩, by simp [intOf]; omega⟩
          rw [HE.out.2.1, HE.out.2.2, HE.out.1]
        · have hne : (x == y) = false := by simpa using hxy
          have HD := Lib.hid (show decide (xs = ys) = false from decide_eq_false (fun e => hxy (by
            have h1 := HE.out.2.1
            have h2 := HE.out.2.2
            rw [e, h2] at h1
            have h3 := List.append_inj_right' h1 rfl
            injection h3 with h4 _
            exact h4.symm)))
          clear hxy
          go_wp2_with fail
          go_quiet (fail)
          go_wp2_with fail
          go_ret
          exact ⟨by rw [HD.out]; rfl, m + nq, by simp⟩
      · have HD := Lib.hid (show decide (xs = ys) = true from decide_eq_true (by
          have h1 : k = xs.length := by omega
          have h2 := HL.out
          rw [h1, List.take_length, h2, List.take_length] at he
          exact he))
        clear he
        go_wp2_with fail
        go_ret
        exact ⟨by rw [HD.out]; rfl, _, rfl⟩
  · have e1 : ((xs.length : Int) != (ys.length : Int)) = true := by simp; omega
    have HL := Lib.hid (show decide (xs = ys) = false from decide_eq_false (fun e => hl (by rw [e])))
    clear hl
    go_enter Try.func18, Try.ntmps18
    go_wp2_with fail
    go_ret
    exact ⟨by rw [HL.out]; rfl, 0, rfl⟩
end Go.Proofs.Ythhnbpbebplcoaa
