/- Layer 19: the document's spool, walked: what makes no memory. -/
import Derived.Test.YthhnbpbebplcoaaSpA
import Derived.Test.YthhnbpbebplcoaaSpP
import Derived.Test.YthhnbpbebplcoaaStr
import Derived.Test.YthhnbpbebplcoaaLetC
namespace Go.Proofs.Ythhnbpbebplcoaa
open Go.ChangeShapes Go.WideShapes Go.ChangeAt Go.RowKit Go.IntWalk
set_option linter.unusedVariables false

def strV (l : List UInt8) : Value := .string ⟨l.toArray⟩
/-- The document's spool's cells. -/
def RCs (s : Sp) : List Value := [strV (s.bs.take s.sy), strV (s.bs.drop s.sy), .bool (!s.dn), .int .i64 (s.ac : Int), .int .i64 (s.lf : Int), .int .i64 s.kp]
def RSt (w : World) (m : Nat) (s : Sp) : Prop := Blk w m 40 (RCs s)
theorem RSt.lt {w : World} {m : Nat} {s : Sp} (h : RSt w m s) : m < w.heap.size := Blk.lt h
/-- The cells of such a block, under names. -/
theorem RSt.cells {w : World} {m : Nat} {x y : List UInt8} {p : Bool} {a l k : Int} (h : Blk w m 40 [strV x, strV y, .bool p, .int .i64 a, .int .i64 l, .int .i64 k]) :
    w.cell? ⟨m, 0, none⟩ = some (.string ⟨x.toArray⟩) ∧ w.cell? ⟨m, 1, none⟩ = some (.string ⟨y.toArray⟩) ∧ w.cell? ⟨m, 2, none⟩ = some (.bool p) ∧ w.cell? ⟨m, 3, none⟩ = some (.int .i64 a) ∧ w.cell? ⟨m, 4, none⟩ = some (.int .i64 l) ∧ w.cell? ⟨m, 5, none⟩ = some (.int .i64 k) ∧
    w.frozen? ⟨m, 0, none⟩ = false ∧ w.frozen? ⟨m, 1, none⟩ = false ∧ w.frozen? ⟨m, 2, none⟩ = false ∧ w.frozen? ⟨m, 3, none⟩ = false ∧ w.frozen? ⟨m, 4, none⟩ = false ∧ w.frozen? ⟨m, 5, none⟩ = false :=
  ⟨h.cell rfl, h.cell rfl, h.cell rfl, h.cell rfl, h.cell rfl, h.cell rfl, h.frozen _, h.frozen _, h.frozen _, h.frozen _, h.frozen _, h.frozen _⟩
@[go_sem] theorem str_app (x y : List UInt8) : (⟨x.toArray⟩ : ByteArray) ++ ⟨y.toArray⟩ = ⟨(x ++ y).toArray⟩ := by
  have h : ((⟨x.toArray⟩ : ByteArray) ++ ⟨y.toArray⟩).data = (x ++ y).toArray := by simp
  exact congrArg ByteArray.mk h
theorem gb_drew (w : World) (row : Option Nat) : w.grownBy w.drew row := ⟨rfl, rfl, rfl, Nat.le_refl _, fun _ _ _ => rfl⟩
theorem roff_done {w : World} {m : Nat} {bs x y : List UInt8} {sy ac lf : Nat} {kp : Int} (k : Int) (q : Nat) (hx : bs.take sy = x) (hy : bs.drop sy = y)
    (h : Blk w m 40 [strV x, strV y, .bool true, .int .i64 (ac : Int), .int .i64 (lf : Int), .int .i64 kp]) (hs : sy ≤ bs.length)
    (hq : (Sp.mk bs sy false ac lf kp).offK k = q) {v : Value} (hv : v = strV (x ++ y.take q)) :
    RSt ((((w.setCell ⟨m, 0, none⟩ v).setCell ⟨m, 1, none⟩ (strV [])).setCell ⟨m, 2, none⟩ (.bool false)).setCell ⟨m, 4, none⟩ (.int .i64 0)).drew m ((Sp.mk bs sy false ac lf kp).off k) ∧
    w.grownBy ((((w.setCell ⟨m, 0, none⟩ v).setCell ⟨m, 1, none⟩ (strV [])).setCell ⟨m, 2, none⟩ (.bool false)).setCell ⟨m, 4, none⟩ (.int .i64 0)).drew (some m) := by
  refine ⟨?_, (((((gb_setCell _ m _ _).trans (gb_setCell _ m _ _)).trans (gb_setCell _ m _ _)).trans (gb_setCell _ m _ _)).trans (gb_drew _ _))⟩
  have h2 := (((h.set_ 0 v).set_ 1 (strV [])).set_ 2 (.bool false)).set_ 4 (.int .i64 0)
  have hle := Sp.offK_le (Sp.mk bs sy false ac lf kp) k hs
  rw [hq] at hle
  dsimp only at hle
  unfold RSt Sp.off
  rw [if_neg (by simp), hq]
  have e : RCs { bs := bs.take (sy + q), sy := sy + q, dn := true, ac := ac, lf := 0, kp := kp } = [v, strV [], .bool false, .int .i64 (ac : Int), .int .i64 0, .int .i64 kp] := by
    unfold RCs
    dsimp only
    rw [List.take_take, Nat.min_self, List.drop_take, Nat.sub_self, List.take_zero, hv, ← hx, ← hy, List.take_add]
    rfl
  have h3 : Blk _ m 40 [v, strV [], .bool false, .int .i64 (ac : Int), .int .i64 0, .int .i64 kp] := h2
  rw [← e] at h3
  exact h3.drew
set_option maxHeartbeats 2000000 in
theorem refOff_calls (m : Nat) (s : Sp) (k : Int) (hs : s.Ok) (w : World) (h : RSt w m s) :
    Calls Try.prog 20 #[.pointer (some ⟨m, 0, none⟩), .int .i64 k] w fun e w' => e = .returned (.tuple #[]) ∧ RSt w' m (s.off k) ∧ w.grownBy w' (some m) := by
  obtain ⟨bs, sy, dn, ac, lf, kp⟩ := s
  have h1 := hs.sy
  have h2 := hs.len
  unfold RSt RCs at h
  dsimp only at h h1 h2
  clear hs
  have HB := Lib.hid h
  have hx : ∃ x, bs.take sy = x := ⟨_, rfl⟩
  obtain ⟨x, hx⟩ := hx
  obtain ⟨y, hy⟩ : ∃ y, bs.drop sy = y := ⟨_, rfl⟩
  have hxl : x.length = sy := by rw [← hx]; simp; omega
  have hyb : (y.length : Int) = (bs.length : Int) - sy := by rw [← hy]; simp; omega
  have hyl : y.length ≤ 4194304 := by rw [← hy]; simp; omega
  have hxl2 : x.length ≤ 4194304 := by omega
  rw [hx, hy] at h
  obtain ⟨c0, c1, c2, c3, c4, c5, f0, f1, f2, f3, f4, f5⟩ := RSt.cells h
  have HX := Lib.hid (And.intro hx (And.intro hy (And.intro h1 hyb)))
  have HH := Lib.hid h
  clear hx hy hxl h h1 h2 hyb
  cases dn with
  | true =>
    go_enter Try.func20, Try.ntmps20
    go_wp2
    exact bodyPost_ret (results_none rfl _ _ _) rfl ⟨rfl, HB.out, World.grownBy.refl _ _⟩
  | false =>
    by_cases k0 : k < 0
    · have ht : decide ((y.length : Int) < 0) = false := by simp
      have HQ := Lib.hid (show (Sp.mk bs sy false ac lf kp).offK k = 0 by unfold Sp.offK; omega)
      go_enter Try.func20, Try.ntmps20
      go_wp2
      go_region
      go_wp2
      go_end0
      exact ⟨rfl, roff_done k 0 HX.out.1 HX.out.2.1 HH.out HX.out.2.2.1 HQ.out (by simp [strV])⟩
    · by_cases k1 : k > y.length
      · have HQ := Lib.hid (show (Sp.mk bs sy false ac lf kp).offK k = y.length by have := HX.out.2.2.2; unfold Sp.offK; dsimp only; omega)
        go_enter Try.func20, Try.ntmps20
        go_wp2
        go_region
        go_wp2
        go_end0
        exact ⟨rfl, roff_done k y.length HX.out.1 HX.out.2.1 HH.out HX.out.2.2.1 HQ.out (by simp [strV])⟩
      · obtain ⟨q, rfl⟩ : ∃ q : Nat, k = (q : Int) := ⟨k.toNat, by omega⟩
        have HQ := Lib.hid (show (Sp.mk bs sy false ac lf kp).offK (q : Int) = q by have := HX.out.2.2.2; unfold Sp.offK; dsimp only; omega)
        go_enter Try.func20, Try.ntmps20
        go_wp2
        go_region
        go_wp2
        go_end0
        exact ⟨rfl, roff_done (q : Int) q HX.out.1 HX.out.2.1 HH.out HX.out.2.2.1 HQ.out (by simp [strV])⟩
set_option maxHeartbeats 2000000 in
theorem refArm_calls (m : Nat) (s : Sp) (n k : Int) (w : World) (h : RSt w m s) :
    Calls Try.prog 23 #[.pointer (some ⟨m, 0, none⟩), .int .i64 n, .int .i64 k] w fun e w' => e = .returned (.tuple #[]) ∧ RSt w' m (s.arm n k) ∧ w.grownBy w' (some m) := by
  obtain ⟨bs, sy, dn, ac, lf, kp⟩ := s
  unfold RSt RCs at h
  dsimp only at h
  obtain ⟨c0, c1, c2, c3, c4, c5, f0, f1, f2, f3, f4, f5⟩ := RSt.cells h
  have HH := Lib.hid h
  clear h
  by_cases hn : 0 < n
  · obtain ⟨q, rfl⟩ : ∃ q : Nat, n = (q : Int) := ⟨n.toNat, by omega⟩
    go_enter Try.func23, Try.ntmps23
    go_wp2
    go_end0
    refine ⟨rfl, ?_, ((gb_setCell _ m _ _).trans (gb_setCell _ m _ _)).trans (gb_setCell _ m _ _)⟩
    exact ((HH.out.set_ 5 (.int .i64 k)).set_ 4 (.int .i64 0)).set_ 4 (.int .i64 (q : Int))
  · have HN := Lib.hid (show n.toNat = 0 by omega)
    go_enter Try.func23, Try.ntmps23
    go_wp2
    go_end0
    refine ⟨rfl, ?_, ((gb_setCell _ m _ _).trans (gb_setCell _ m _ _))⟩
    have := ((HH.out.set_ 5 (.int .i64 k)).set_ 4 (.int .i64 0))
    unfold RSt RCs Sp.arm
    rw [HN.out]
    exact this
set_option maxHeartbeats 2000000 in
theorem refAct_calls (m : Nat) (s : Sp) (hs : s.Ok) (hac : s.ac < 1000000) (hd : s.dn = false) (w : World) (h : RSt w m s) :
    Calls Try.prog 33 #[.pointer (some ⟨m, 0, none⟩)] w fun e w' => e = .returned (.bool s.act.2) ∧ RSt w' m s.act.1 ∧ w.grownBy w' (some m) := by
  obtain ⟨bs, sy, dn, ac, lf, kp⟩ := s
  dsimp only at hac hd
  subst hd
  have hlf := hs.lf
  dsimp only at hlf
  have HS : Hid (Sp.Ok ⟨bs, sy, false, ac + 1, lf, kp⟩) := Lib.hid ⟨hs.sy, hs.len, hs.lf, hs.kp⟩
  clear hs
  unfold RSt RCs at h
  dsimp only at h
  obtain ⟨c0, c1, c2, c3, c4, c5, f0, f1, f2, f3, f4, f5⟩ := RSt.cells h
  have HH := Lib.hid h
  have H3 := Lib.hid (show Blk _ m _ (RCs ⟨bs, sy, false, ac + 1, lf, kp⟩) from h.set_ 3 (.int .i64 ((ac + 1 : Nat) : Int)))
  clear h
  by_cases h1 : lf = 1
  · subst h1
    go_enter Try.func33, Try.ntmps33
    go_wp2_with fail
    refine (refOff_calls m ⟨bs, sy, false, ac + 1, 1, kp⟩ kp HS.out _ (by have := H3.out; rw [Int.natCast_add] at this; exact this)).mono ?_
    rintro e w2 ⟨rfl, r2, g2⟩
    go_wp2
    go_ret
    exact ⟨rfl, r2, (gb_setCell _ m _ _).trans g2⟩
  · by_cases h0 : lf = 0
    · subst h0
      go_enter Try.func33, Try.ntmps33
      go_wp2
      go_ret
      exact ⟨rfl, H3.out, (gb_setCell _ m _ _)⟩
    · obtain ⟨q, rfl⟩ : ∃ q, lf = q + 2 := ⟨lf - 2, by omega⟩
      have ht : (((q + 2 : Nat) : Int) == 1) = false := by simp; omega
      have HA : Hid (Sp.act ⟨bs, sy, false, ac, q + 2, kp⟩ = (⟨bs, sy, false, ac + 1, q + 1, kp⟩, false)) := Lib.hid (by unfold Sp.act; rw [if_neg (by simp), if_neg (by simp)]; rfl)
      go_enter Try.func33, Try.ntmps33
      go_wp2
      go_ret
      rw [HA.out]
      refine ⟨rfl, ?_, (gb_setCell _ m _ _).trans (gb_setCell _ m _ _)⟩
      have h4 := H3.out.set_ 4 (.int .i64 ((q + 1 : Nat) : Int))
      rw [show (q : Int) + 2 - 1 = ((q + 1 : Nat) : Int) by omega]
      exact h4
set_option maxHeartbeats 2000000 in
theorem line_calls (l : List UInt8) (hl : l.length ≤ 68719476736) (w : World) :
    Calls Try.prog 28 #[.string ⟨l.toArray⟩] w fun e w' => e = .returned (strV (lineF l ++ [10])) ∧ Below w.heap.size w w' := by
  obtain ⟨v, w1, hcv, ho, hb⟩ := own_conv w l (by omega)
  obtain ⟨A, n, cap, rfl, hr, hn, hc⟩ := ho.form
  have hll : (encF true l).length ≤ 137438953472 := by rw [encF_length]; omega
  go_enter Try.func28, Try.ntmps28
  go_wp2_with fail
  refine (refenc_calls A n cap l true w1 hr hn (by rw [hn.out]; exact hl)).mono ?_
  rintro e w2 ⟨rfl, b2⟩
  clear hcv
  go_wp2
  go_ret
  exact ⟨rfl, hb.then_ b2⟩
set_option maxHeartbeats 2000000 in
theorem refAppend_calls (m : Nat) (s : Sp) (l : List UInt8) (hl : l.length ≤ 68719476736) (hs : s.Ok) (hac : s.ac < 1000000) (w : World) (h : RSt w m s) :
    Calls Try.prog 13 #[.pointer (some ⟨m, 0, none⟩), .string ⟨l.toArray⟩] w fun e w' => e = .returned (.int .i64 (s.app l).2) ∧ RSt w' m (s.app l).1 ∧ w.grownBy w' (some m) := by
  obtain ⟨bs, sy, dn, ac, lf, kp⟩ := s
  have HOK := Lib.hid hs
  dsimp only at hac
  unfold RSt RCs at h
  dsimp only at h
  have HB := Lib.hid h
  cases dn with
  | true =>
    obtain ⟨c0, c1, c2, c3, c4, c5, f0, f1, f2, f3, f4, f5⟩ := RSt.cells h
    clear h hs
    go_enter Try.func13, Try.ntmps13
    go_wp2_with fail
    go_ret
    exact ⟨rfl, HB.out, World.grownBy.refl _ _⟩
  | false =>
    obtain ⟨x, hx⟩ : ∃ x, bs.take sy = x := ⟨_, rfl⟩
    obtain ⟨y, hy⟩ : ∃ y, bs.drop sy = y := ⟨_, rfl⟩
    have hxy : x.length + y.length = bs.length := by rw [← hx, ← hy, ← List.length_append, List.take_append_drop]
    have hbl := hs.len
    have hsy := hs.sy
    dsimp only at hbl hsy
    have hxl : x.length ≤ 4194304 := by omega
    have hyl : y.length ≤ 4194304 := by omega
    rw [hx, hy] at h
    obtain ⟨c0, c1, c2, c3, c4, c5, f0, f1, f2, f3, f4, f5⟩ := RSt.cells h
    have HH := Lib.hid h
    have HX := Lib.hid (And.intro hx (And.intro hy (And.intro hxy hsy)))
    have hll : (lineF l).length ≤ 137438953472 := by unfold lineF; rw [encF_length]; omega
    obtain ⟨q, hq⟩ : ∃ q, lineF l = q := ⟨_, rfl⟩
    rw [hq] at hll
    have HQ := Lib.hid hq
    clear h hs hx hy hxy hbl hsy hq
    go_enter Try.func13, Try.ntmps13
    go_wp2_with fail
    refine (line_calls l hl w).mono ?_
    rintro e w1 ⟨rfl, b1⟩
    rw [HQ.out]
    unfold strV
    have HH1 := Lib.hid (Blk.later HH.out b1)
    obtain ⟨c0, c1, c2, c3, c4, c5, f0, f1, f2, f3, f4, f5⟩ := RSt.cells HH1.out
    by_cases hf : 4194304 < x.length + y.length + (q.length + 1)
    · have hB : decide ((4194304 : Int) < (x.length : Int) + (y.length : Int) + ((q.length : Int) + 1)) = true := decide_eq_true (by omega)
      have HF : Hid (Sp.app ⟨bs, sy, false, ac, lf, kp⟩ l = (⟨bs, sy, false, ac, lf, kp⟩, 51)) := Lib.hid (by
        have := HX.out.2.2.1
        unfold Sp.app
        rw [if_neg (by simp), if_pos (by unfold Sp.full; rw [HQ.out]; exact decide_eq_true (by dsimp only; omega))])
      clear hf
      go_wp2_with fail
      go_quiet (fail)
      go_wp2_with fail
      go_ret
      rw [HF.out]
      refine ⟨rfl, ?_, gb_below (b1.trans ((Below.refl _ _).drewN _))⟩
      exact (Blk.later HB.out b1).drewN _
    · have hB : decide ((4194304 : Int) < (x.length : Int) + (y.length : Int) + ((q.length : Int) + 1)) = false := decide_eq_false (by omega)
      have HF : Hid (Sp.app ⟨bs, sy, false, ac, lf, kp⟩ l = ((Sp.mk (bs ++ (q ++ [10])) sy false ac lf kp).act.1, if (Sp.mk (bs ++ (q ++ [10])) sy false ac lf kp).act.2 then 50 else 0)) := Lib.hid (by
        have := HX.out.2.2.1
        unfold Sp.app
        rw [if_neg (by simp), if_neg (by unfold Sp.full; rw [HQ.out, decide_eq_false (by dsimp only; omega)]; simp), HQ.out])
      have HOK2 : Hid (Sp.Ok ⟨bs ++ (q ++ [10]), sy, false, ac, lf, kp⟩) := Lib.hid (by
        have := HX.out.2.2
        have h := HOK.out
        exact ⟨by simp; omega, by simp; omega, h.lf, h.kp⟩)
      have HN := Lib.hid (show RCs ⟨bs ++ (q ++ [10]), sy, false, ac, lf, kp⟩ = [strV x, strV (y ++ (q ++ [10])), .bool true, .int .i64 (ac : Int), .int .i64 (lf : Int), .int .i64 kp] by
        have h := HX.out.2.2.2
        unfold RCs
        dsimp only
        rw [List.take_append_of_le_length h, List.drop_append_of_le_length h, HX.out.1, HX.out.2.1]; rfl)
      clear hf
      go_wp2_with fail
      go_quiet (fail)
      go_wp2_with fail
      refine (refAct_calls m ⟨bs ++ (q ++ [10]), sy, false, ac, lf, kp⟩ HOK2.out hac rfl _ (by
        unfold RSt
        rw [HN.out]
        exact (Blk.drewN HH1.out _).set_ 1 (strV (y ++ (q ++ [10]))))).mono ?_
      rintro e w2 ⟨rfl, r2, g2⟩
      have HR := Lib.hid (And.intro r2 ((gb_below b1 (row := some m)).trans ((gb_drewN _ _ _).trans ((gb_setCell _ _ _ _).trans g2))))
      clear r2 g2
      cases hav : (Sp.act ⟨bs ++ (q ++ [10]), sy, false, ac, lf, kp⟩).2
      · go_wp2_with fail
        go_ret
        rw [HF.out, hav]
        exact ⟨rfl, HR.out⟩
      · go_wp2_with fail
        go_ret
        rw [HF.out, hav]
        exact ⟨rfl, HR.out⟩
end Go.Proofs.Ythhnbpbebplcoaa
