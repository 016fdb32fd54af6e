/- Texts put together: JsW. -/
import Derived.Test.YtajkgcmopmpihaaGreatDoorY6376f27b79
import Derived.WalkLawsBesides
import Derived.Test.YtajkgcmopmpihaaGreatDoorY184ebbd4c6
import Derived.Test.YtajkgcmopmpihaaGreatDoorYcc81974a9e
namespace Go.Proofs.YtajkgcmopmpihaaGreatDoor
open Go.ChangeShapes Go.WideShapes Go.ChangeAt Go.RowKit Go.IntWalk
set_option linter.unusedVariables false
set_option maxRecDepth 100000
def WQt1 (P : Nat → Prop) (lo : Nat) (R : JT) (key : List UInt8) (v : Jv) (t : JT) (q k : Nat) (B : Option Addr) (cm : Nat) (w : World) : Prop :=
  RowQ P (lo + 1) true w (.slice B k cm) R k ∧ R.fall k = (lowJ key (t.fall q)).app (JT.one key v (highJ key t)) ∧ k ≤ R.ext ∧ k ≤ q + 0
def WQt2 (P : Nat → Prop) (lo : Nat) (R : JT) (key : List UInt8) (v : Jv) (t : JT) (q k : Nat) (B : Option Addr) (cm : Nat) (w : World) : Prop :=
  RowQ P (lo + 1) true w (.slice B k cm) R k ∧ R.fall k = highJ key (t.fall q) ∧ k ≤ R.ext ∧ k ≤ q + 100001
def WQPost (P : Nat → Prop) (R : JT) (w : World) (e : Ending) (w' : World) : Prop := (∃ (A : Option Addr) (c : Nat), e = .returned (.slice A R.ext c) ∧ Room R.ext c R.ext ∧ JSl (fun b => (P b ∨ w.heap.size + 1 ≤ b) ∧ b < w'.heap.size) w' true A R) ∧ Below w.heap.size w w'
theorem grown_withQ {P : Nat → Prop} {w w9 w7 : World} {k cm c7 : Nat} {B A7 : Option Addr} {R : JT} {T : TypeId} {cs : List Value} (HR9 : Hid (RowQ P (w.heap.size + 1) true w9 (.slice B k cm) R k)) (HGL : Hid (w.heap.size + 1 ≤ w9.heap.size))
    (HBW9 : Hid (Below w.heap.size w w9)) (HZW9 : Hid (Blk w9 w.heap.size T cs)) (h7 : RowQ P (w.heap.size + 1) true w7 (.slice A7 (k + 1) c7) R (k + 1)) (g7 : w9.grownBy w7 (Value.slice B k cm).ownBlock) :
    Hid (RowQ P (w.heap.size + 1) true w7 (.slice A7 (k + 1) c7) R (k + 1)) ∧ Hid (Below w.heap.size w w7) ∧ Hid (Blk w7 w.heap.size T cs) := by
  have b7 := RowQ.grown (Below.refl _ _) HR9.out g7 HGL.out
  exact ⟨Lib.hid h7, Lib.hid (HBW9.out.trans (b7.mono (by omega))), Lib.hid (HZW9.out.below b7 (Nat.lt_succ_self _))⟩
set_option maxHeartbeats 16000000 in
theorem refwithP_calls (P : Nat → Prop) (t : JT) (A : Option Addr) (n0 c0 : Nat) (key : List UInt8) (v : Jv) (A1 B1 : Option Addr) (nl1 cl1 nm1 cm1 : Nat) (w : World) (hPl : ∀ b, P b → b < w.heap.size) (hn : Room n0 c0 t.ext) (hs : JSl P w true A t) (hv : VP P w v A1 B1 nl1 cl1 nm1 cm1) (hky : key.length ≤ 140737488355328) (h50 : t.ext ≤ 100000) :
    Calls Tryz.prog 70 #[.slice A n0 c0, .agg #[.string ⟨key.toArray⟩, .int .i64 v.kd, .bool v.is, .int .i64 v.n, .string ⟨v.s.toArray⟩, .slice A1 nl1 cl1, .slice B1 nm1 cm1]] w (WQPost P (withJ t key v) w) := by
  have HPL := Lib.hid hPl
  have HS := Lib.hid hs
  have HN := Lib.hid (show n0 = t.ext from hn.1)
  have hn50 : n0 ≤ 100000 := by rw [HN.out]; exact h50
  have hnc : n0 ≤ c0 := hn.2.1
  have HVV := Lib.hid (show VP P w v A1 B1 nl1 cl1 nm1 cm1 from hv)
  have HKY := Lib.hid hky
  have HB0 := Lib.hid (show Below w.heap.size w (w.alloc (.cells #[.string ⟨key.toArray⟩, .int .i64 v.kd, .bool v.is, .int .i64 v.n, .string ⟨v.s.toArray⟩, .slice A1 nl1 cl1, .slice B1 nm1 cm1] 44)) from (Below.refl _ _).alloc (Nat.le_refl _) _)
  have HZ0 := Lib.hid (Blk.new w [.string ⟨key.toArray⟩, .int .i64 v.kd, .bool v.is, .int .i64 v.n, .string ⟨v.s.toArray⟩, .slice A1 nl1 cl1, .slice B1 nm1 cm1] 44)
  obtain ⟨R, hR⟩ : ∃ R, withJ t key v = R := ⟨_, rfl⟩
  have HD0 := Lib.hid (show WQt1 P w.heap.size R key v t 0 0 none 0 (w.alloc (.cells #[.string ⟨key.toArray⟩, .int .i64 v.kd, .bool v.is, .int .i64 v.n, .string ⟨v.s.toArray⟩, .slice A1 nl1 cl1, .slice B1 nm1 cm1] 44)) from ⟨RowQ.nil _ _ _ _ _, by rw [JT.fall_zero, JT.fall_zero, ← hR]; rfl, Nat.zero_le _, Nat.zero_le _⟩)
  rw [hR]
  clear hPl hn hs hv hky h50 hR
  go_enter Tryz.func70, Tryz.ntmps70
  go_wp2_with fail
  go_loopw [5, 12] (fun L i wr => ∃ (q k : Nat) (B : Option Addr) (cm : Nat), q ≤ n0 ∧ L = .slice B k cm ∧ i = .int .i64 (q : Int) ∧ Hid (Below w.heap.size w wr) ∧ Hid (Blk wr w.heap.size 44 [.string ⟨key.toArray⟩, .int .i64 v.kd, .bool v.is, .int .i64 v.n, .string ⟨v.s.toArray⟩, .slice A1 nl1 cl1, .slice B1 nm1 cm1]) ∧ Hid (WQt1 P w.heap.size R key v t q k B cm wr)) (fun _ i _ => n0 - (intOf i).toNat)
  case atStart => exact ⟨0, 0, none, 0, Nat.zero_le _, rfl, rfl, HB0, HZ0, HD0⟩
  case round =>
    obtain ⟨wq, hwq⟩ : ∃ x, x = wr := ⟨_, rfl⟩
    subst hwq
    obtain ⟨q, k, B, cm, hq, rfl, rfl, hBr, hZr, hOR⟩ := hrel
    have HOR := Lib.hid (show RowQ P (w.heap.size + 1) true wq (.slice B k cm) R k ∧ R.fall k = (lowJ key (t.fall q)).app (JT.one key v (highJ key t)) ∧ k ≤ R.ext ∧ k ≤ q + 0 from hOR.out)
    clear hOR
    by_cases hlt : q < n0
    · have hqx : q < t.ext := by rw [← HN.out]; exact hlt
      have HAT := Lib.hid (low_at key hqx)
      obtain ⟨eb, eo, eA, enl, ecl, eB, enm, ecm, rfl, eP, ebl, eK, eKl, f0, f1, f2, f3, f4, f5, r1, r2, s1, s2, hf⟩ := (HS.out.pw HPL.out hBr.out).mb (i := q) _ hqx
      obtain ⟨eu, hev⟩ : ∃ eu, (t.fall q).val = eu := ⟨_, rfl⟩
      obtain ⟨ek, hek⟩ : ∃ ek, (t.fall q).key = ek := ⟨_, rfl⟩
      rw [hev] at f0 f1 f2 f3 r1 r2 s1 s2 hf
      rw [hek] at eK eKl
      rw [hev, hek] at HAT
      have HKL := Lib.hid eKl
      have HEV := Lib.hid (show VP P wq eu eA eB enl ecl enm ecm from ⟨r1, r2, s1, s2, hf⟩)
      have b5 : Below wq.heap.size wq (wq.alloc (.cells #[.string ⟨ek.toArray⟩, .int .i64 eu.kd, .bool eu.is, .int .i64 eu.n, .string ⟨eu.s.toArray⟩, .slice eA enl ecl, .slice eB enm ecm] 44)) := (Below.refl _ _).alloc (Nat.le_refl _) _
      have HB9 := Lib.hid b5
      have HM5 := Blk.new wq [.string ⟨ek.toArray⟩, .int .i64 eu.kd, .bool eu.is, .int .i64 eu.n, .string ⟨eu.s.toArray⟩, .slice eA enl ecl, .slice eB enm ecm] 44
      have m0 := HM5.cell (k := 0) rfl; have m1 := HM5.cell (k := 1) rfl; have m2 := HM5.cell (k := 2) rfl; have m3 := HM5.cell (k := 3) rfl; have m4 := HM5.cell (k := 4) rfl; have m5 := HM5.cell (k := 5) rfl; have m6 := HM5.cell (k := 6) rfl
      have x0 := (hZr.out.later b5).cell (k := 0) rfl
      have HPQ := Lib.hid (fun b (hb : P b) => show (P b ∨ w.heap.size + 1 ≤ b) ∧ b < (wq.alloc (.cells #[.string ⟨ek.toArray⟩, .int .i64 eu.kd, .bool eu.is, .int .i64 eu.n, .string ⟨eu.s.toArray⟩, .slice eA enl ecl, .slice eB enm ecm] 44)).heap.size ∧ (Value.slice B k cm).ownBlock ≠ some b from ⟨.inl hb, by have := HPL.out b hb; have := hBr.out.size; simp; omega, fun e => by have := HPL.out b hb; have := (HOR.out.1.lt b e).1; omega⟩)
      clear eP eKl r1 r2 s1 s2 hf hev hek b5 HM5
      by_cases hc : Lib.compareBytes ek key = -1
      · have hl : Op.bytesLess ek key = true := by rw [bl_cb]; exact decide_eq_true hc
        have HP := Lib.hid hc
        clear hc
        have h1k := fall_one (show R.fall k = JT.one ek eu ((lowJ key (t.fall (q + 1))).app (JT.one key v (highJ key t))) by rw [HOR.out.2.1]; rw [HAT.out, if_pos HP.out]; rfl)
        have HKV := Lib.hid h1k
        have HR9 := Lib.hid (HOR.out.1.below HB9.out)
        have HGL := Lib.hid (show w.heap.size + 1 ≤ (wq.alloc (.cells #[.string ⟨ek.toArray⟩, .int .i64 eu.kd, .bool eu.is, .int .i64 eu.n, .string ⟨eu.s.toArray⟩, .slice eA enl ecl, .slice eB enm ecm] 44)).heap.size by have := hZr.out.lt; simp; omega)
        have hk6 : k ≤ 1000000 := by have := HOR.out.2.2.2; omega
        have HEK := Lib.hid (show (R.fall k).key.length ≤ 140737488355328 by rw [HKV.out.2.1]; exact HKL.out)
        have HJ2 := Lib.hid (show JCs (fun b => (P b ∨ w.heap.size + 1 ≤ b) ∧ b < (wq.alloc (.cells #[.string ⟨ek.toArray⟩, .int .i64 eu.kd, .bool eu.is, .int .i64 eu.n, .string ⟨eu.s.toArray⟩, .slice eA enl ecl, .slice eB enm ecm] 44)).heap.size ∧ (Value.slice B k cm).ownBlock ≠ some b) (wq.alloc (.cells #[.string ⟨ek.toArray⟩, .int .i64 eu.kd, .bool eu.is, .int .i64 eu.n, .string ⟨eu.s.toArray⟩, .slice eA enl ecl, .slice eB enm ecm] 44)) [.int .i64 eu.kd, .bool eu.is, .int .i64 eu.n, .string ⟨eu.s.toArray⟩, .slice eA enl ecl, .slice eB enm ecm] (R.fall k).val by rw [HKV.out.2.2.1]; exact ⟨eA, enl, ecl, eB, enm, ecm, rfl, HEV.out.1, HEV.out.2.1, (HEV.out.2.2.1.pw HPL.out (HB9.out.mono hBr.out.size)).stay (fun _ _ _ => rfl) HPQ.out, (HEV.out.2.2.2.1.pw HPL.out (HB9.out.mono hBr.out.size)).stay (fun _ _ _ => rfl) HPQ.out, HEV.out.2.2.2.2⟩)
        have HQ7 := Lib.hid (show (newC true (R.fall k).key [.int .i64 eu.kd, .bool eu.is, .int .i64 eu.n, .string ⟨eu.s.toArray⟩, .slice eA enl ecl, .slice eB enm ecm]).toArray = (newC true ek [.int .i64 eu.kd, .bool eu.is, .int .i64 eu.n, .string ⟨eu.s.toArray⟩, .slice eA enl ecl, .slice eB enm ecm]).toArray by rw [HKV.out.2.1])
        have HBW9 := Lib.hid (hBr.out.then_ HB9.out)
        have HZW9 := Lib.hid (hZr.out.later HB9.out)
        have HKR := Lib.hid HOR.out.2.2.2
        clear h1k
        go_wp2_with (at_builtin; refine wpList_append_rowQ true rfl _ _ rfl P (w.heap.size + 1) (.slice B k cm) R k rfl HR9.out hk6 HGL.out [.int .i64 eu.kd, .bool eu.is, .int .i64 eu.n, .string ⟨eu.s.toArray⟩, .slice eA enl ecl, .slice eB enm ecm] HEK.out _ _ rfl (HQ7.out.trans rfl).symm (by show Value.slice (some ⟨wq.heap.size + 1, 0, none⟩) 1 1 = _; simp) HJ2.out ?_; intro A7 c7 w7 h7 g7; obtain ⟨HR7, HB7, HZ7⟩ := grown_withQ HR9 HGL HBW9 HZW9 h7 g7; clear h7 g7)
        have HDS := Lib.hid (show WQt1 P w.heap.size R key v t (q + 1) (k + 1) A7 c7 w7 from ⟨HR7.out, HKV.out.2.2.2, by have := HKV.out.1; omega, by have := HKR.out; omega⟩)
        have HBF := HB7
        have HZF := HZ7
        go_wp2_with fail
        go_roundw
        case rel =>
          first
            | exact ⟨q + 1, k + 1, A7, c7, by omega, rfl, by go_num, HBF, HZF, HDS⟩
            | (repeat apply Exists.intro
               refine ⟨?e0, ?e2, ?e1, HBF, HZF, HDS⟩
               case e2 => rfl
               case e1 => go_num
               case e0 => omega)
            | (repeat apply Exists.intro
               refine ⟨⟨?e0, ?e2, ?e1, HBF, HZF, HDS⟩, ?f1⟩
               case f1 => rfl
               case e2 => rfl
               case e1 => go_num
               case e0 => omega)
            | fail
        case measure => simp [intOf]; omega
      · have hl : Op.bytesLess ek key = false := by rw [bl_cb]; exact decide_eq_false hc
        have HP := Lib.hid hc
        clear hc
        have HDS := Lib.hid (show WQt1 P w.heap.size R key v t (q + 1) k B cm (wq.alloc (.cells #[.string ⟨ek.toArray⟩, .int .i64 eu.kd, .bool eu.is, .int .i64 eu.n, .string ⟨eu.s.toArray⟩, .slice eA enl ecl, .slice eB enm ecm] 44)) from ⟨HOR.out.1.below HB9.out, by rw [HOR.out.2.1]; rw [HAT.out, if_neg HP.out], HOR.out.2.2.1, by have := HOR.out.2.2.2; omega⟩)
        have HBF := Lib.hid (hBr.out.then_ HB9.out)
        have HZF := Lib.hid (hZr.out.later HB9.out)
        go_wp2_with fail
        go_roundw
        case rel =>
          first
            | exact ⟨q + 1, k, B, cm, by omega, rfl, by go_num, HBF, HZF, HDS⟩
            | (repeat apply Exists.intro
               refine ⟨?e0, ?e2, ?e1, HBF, HZF, HDS⟩
               case e2 => rfl
               case e1 => go_num
               case e0 => omega)
            | (repeat apply Exists.intro
               refine ⟨⟨?e0, ?e2, ?e1, HBF, HZF, HDS⟩, ?f1⟩
               case f1 => rfl
               case e2 => rfl
               case e1 => go_num
               case e0 => omega)
            | fail
        case measure => simp [intOf]; omega
    · obtain rfl : n0 = q := by omega
      have h1k := fall_one (show R.fall k = JT.one key v (highJ key t) by rw [HOR.out.2.1, low_end key (by rw [← HN.out]; exact Nat.le_refl _)]; rfl)
      have HKV := Lib.hid h1k
      have HR9 := Lib.hid HOR.out.1
      have HGL := Lib.hid (show w.heap.size + 1 ≤ wq.heap.size from hZr.out.lt)
      have hk6 : k ≤ 1000000 := by have := HOR.out.2.2.2; omega
      have HEK := Lib.hid (show (R.fall k).key.length ≤ 140737488355328 by rw [HKV.out.2.1]; exact HKY.out)
      have HPQ := Lib.hid (fun b (hb : P b) => show (P b ∨ w.heap.size + 1 ≤ b) ∧ b < wq.heap.size ∧ (Value.slice B k cm).ownBlock ≠ some b from ⟨.inl hb, by have := HPL.out b hb; have := hBr.out.size; omega, fun e => by have := HPL.out b hb; have := (HOR.out.1.lt b e).1; omega⟩)
      have HJ2 := Lib.hid (show JCs (fun b => (P b ∨ w.heap.size + 1 ≤ b) ∧ b < wq.heap.size ∧ (Value.slice B k cm).ownBlock ≠ some b) wq [.int .i64 v.kd, .bool v.is, .int .i64 v.n, .string ⟨v.s.toArray⟩, .slice A1 nl1 cl1, .slice B1 nm1 cm1] (R.fall k).val by rw [HKV.out.2.2.1]; exact ⟨A1, nl1, cl1, B1, nm1, cm1, rfl, HVV.out.1, HVV.out.2.1, (HVV.out.2.2.1.pw HPL.out hBr.out).stay (fun _ _ _ => rfl) HPQ.out, (HVV.out.2.2.2.1.pw HPL.out hBr.out).stay (fun _ _ _ => rfl) HPQ.out, HVV.out.2.2.2.2⟩)
      have HQ7 := Lib.hid (show (newC true (R.fall k).key [.int .i64 v.kd, .bool v.is, .int .i64 v.n, .string ⟨v.s.toArray⟩, .slice A1 nl1 cl1, .slice B1 nm1 cm1]).toArray = (newC true key [.int .i64 v.kd, .bool v.is, .int .i64 v.n, .string ⟨v.s.toArray⟩, .slice A1 nl1 cl1, .slice B1 nm1 cm1]).toArray by rw [HKV.out.2.1])
      have HBW9 := hBr
      have HZW9 := hZr
      have HKR := Lib.hid (show k ≤ n0 by have := HOR.out.2.2.2; omega)
      have hZ := hZr.out
      have m0 := hZ.cell (k := 0) rfl; have m1 := hZ.cell (k := 1) rfl; have m2 := hZ.cell (k := 2) rfl; have m3 := hZ.cell (k := 3) rfl; have m4 := hZ.cell (k := 4) rfl; have m5 := hZ.cell (k := 5) rfl; have m6 := hZ.cell (k := 6) rfl
      clear h1k hZ
      go_wp2_with (at_builtin; refine wpList_append_rowQ true rfl _ _ rfl P (w.heap.size + 1) (.slice B k cm) R k rfl HR9.out hk6 HGL.out [.int .i64 v.kd, .bool v.is, .int .i64 v.n, .string ⟨v.s.toArray⟩, .slice A1 nl1 cl1, .slice B1 nm1 cm1] HEK.out _ _ rfl (HQ7.out.trans rfl).symm rfl HJ2.out ?_; intro A7 c7 w7 h7 g7; obtain ⟨HR7, HB7, HZ7⟩ := grown_withQ HR9 HGL HBW9 HZW9 h7 g7; clear h7 g7)
      clear m0 m1 m2 m3 m4 m5 m6 HOR hBr hZr HR9 HGL HBW9 HZW9
      go_loopw [5, 32] (fun L i wr => ∃ (q k : Nat) (B : Option Addr) (cm : Nat), q ≤ n0 ∧ L = .slice B k cm ∧ i = .int .i64 (q : Int) ∧ Hid (Below w.heap.size w wr) ∧ Hid (Blk wr w.heap.size 44 [.string ⟨key.toArray⟩, .int .i64 v.kd, .bool v.is, .int .i64 v.n, .string ⟨v.s.toArray⟩, .slice A1 nl1 cl1, .slice B1 nm1 cm1]) ∧ Hid (WQt2 P w.heap.size R key v t q k B cm wr)) (fun _ i _ => n0 - (intOf i).toNat)
      case atStart => exact ⟨0, k + 1, A7, c7, Nat.zero_le _, rfl, rfl, HB7, HZ7, Lib.hid ⟨HR7.out, by rw [JT.fall_zero]; exact HKV.out.2.2.2, HKV.out.1, by have := HKR.out; omega⟩⟩
      case round =>
        obtain ⟨wq, hwq⟩ : ∃ x, x = wr := ⟨_, rfl⟩
        subst hwq
        obtain ⟨q, k, B, cm, hq, rfl, rfl, hBr, hZr, hOR⟩ := hrel
        have HOR := Lib.hid (show RowQ P (w.heap.size + 1) true wq (.slice B k cm) R k ∧ R.fall k = highJ key (t.fall q) ∧ k ≤ R.ext ∧ k ≤ q + 100001 from hOR.out)
        clear hOR
        by_cases hlt : q < n0
        · have hqx : q < t.ext := by rw [← HN.out]; exact hlt
          have HAT := Lib.hid (high_at key hqx)
          obtain ⟨eb, eo, eA, enl, ecl, eB, enm, ecm, rfl, eP, ebl, eK, eKl, f0, f1, f2, f3, f4, f5, r1, r2, s1, s2, hf⟩ := (HS.out.pw HPL.out hBr.out).mb (i := q) _ hqx
          obtain ⟨eu, hev⟩ : ∃ eu, (t.fall q).val = eu := ⟨_, rfl⟩
          obtain ⟨ek, hek⟩ : ∃ ek, (t.fall q).key = ek := ⟨_, rfl⟩
          rw [hev] at f0 f1 f2 f3 r1 r2 s1 s2 hf
          rw [hek] at eK eKl
          rw [hev, hek] at HAT
          have HKL := Lib.hid eKl
          have HEV := Lib.hid (show VP P wq eu eA eB enl ecl enm ecm from ⟨r1, r2, s1, s2, hf⟩)
          have b5 : Below wq.heap.size wq (wq.alloc (.cells #[.string ⟨ek.toArray⟩, .int .i64 eu.kd, .bool eu.is, .int .i64 eu.n, .string ⟨eu.s.toArray⟩, .slice eA enl ecl, .slice eB enm ecm] 44)) := (Below.refl _ _).alloc (Nat.le_refl _) _
          have HB9 := Lib.hid b5
          have HM5 := Blk.new wq [.string ⟨ek.toArray⟩, .int .i64 eu.kd, .bool eu.is, .int .i64 eu.n, .string ⟨eu.s.toArray⟩, .slice eA enl ecl, .slice eB enm ecm] 44
          have m0 := HM5.cell (k := 0) rfl; have m1 := HM5.cell (k := 1) rfl; have m2 := HM5.cell (k := 2) rfl; have m3 := HM5.cell (k := 3) rfl; have m4 := HM5.cell (k := 4) rfl; have m5 := HM5.cell (k := 5) rfl; have m6 := HM5.cell (k := 6) rfl
          have x0 := (hZr.out.later b5).cell (k := 0) rfl
          have HPQ := Lib.hid (fun b (hb : P b) => show (P b ∨ w.heap.size + 1 ≤ b) ∧ b < (wq.alloc (.cells #[.string ⟨ek.toArray⟩, .int .i64 eu.kd, .bool eu.is, .int .i64 eu.n, .string ⟨eu.s.toArray⟩, .slice eA enl ecl, .slice eB enm ecm] 44)).heap.size ∧ (Value.slice B k cm).ownBlock ≠ some b from ⟨.inl hb, by have := HPL.out b hb; have := hBr.out.size; simp; omega, fun e => by have := HPL.out b hb; have := (HOR.out.1.lt b e).1; omega⟩)
          clear eP eKl r1 r2 s1 s2 hf hev hek b5 HM5
          by_cases hc : Lib.compareBytes key ek = -1
          · have hl : Op.bytesLess ek key = false := by rw [bl_cb]; exact decide_eq_false (fun h => cb_irr (cb_trans h hc))
            have hl2 : (ek == key) = false := by rw [beq_eq_false_iff_ne]; exact fun h => cb_irr (h ▸ hc)
            have HP := Lib.hid hc
            clear hc
            have h1k := fall_one (show R.fall k = JT.one ek eu (highJ key (t.fall (q + 1))) by rw [HOR.out.2.1]; rw [HAT.out, if_pos HP.out])
            have HKV := Lib.hid h1k
            have HR9 := Lib.hid (HOR.out.1.below HB9.out)
            have HGL := Lib.hid (show w.heap.size + 1 ≤ (wq.alloc (.cells #[.string ⟨ek.toArray⟩, .int .i64 eu.kd, .bool eu.is, .int .i64 eu.n, .string ⟨eu.s.toArray⟩, .slice eA enl ecl, .slice eB enm ecm] 44)).heap.size by have := hZr.out.lt; simp; omega)
            have hk6 : k ≤ 1000000 := by have := HOR.out.2.2.2; omega
            have HEK := Lib.hid (show (R.fall k).key.length ≤ 140737488355328 by rw [HKV.out.2.1]; exact HKL.out)
            have HJ2 := Lib.hid (show JCs (fun b => (P b ∨ w.heap.size + 1 ≤ b) ∧ b < (wq.alloc (.cells #[.string ⟨ek.toArray⟩, .int .i64 eu.kd, .bool eu.is, .int .i64 eu.n, .string ⟨eu.s.toArray⟩, .slice eA enl ecl, .slice eB enm ecm] 44)).heap.size ∧ (Value.slice B k cm).ownBlock ≠ some b) (wq.alloc (.cells #[.string ⟨ek.toArray⟩, .int .i64 eu.kd, .bool eu.is, .int .i64 eu.n, .string ⟨eu.s.toArray⟩, .slice eA enl ecl, .slice eB enm ecm] 44)) [.int .i64 eu.kd, .bool eu.is, .int .i64 eu.n, .string ⟨eu.s.toArray⟩, .slice eA enl ecl, .slice eB enm ecm] (R.fall k).val by rw [HKV.out.2.2.1]; exact ⟨eA, enl, ecl, eB, enm, ecm, rfl, HEV.out.1, HEV.out.2.1, (HEV.out.2.2.1.pw HPL.out (HB9.out.mono hBr.out.size)).stay (fun _ _ _ => rfl) HPQ.out, (HEV.out.2.2.2.1.pw HPL.out (HB9.out.mono hBr.out.size)).stay (fun _ _ _ => rfl) HPQ.out, HEV.out.2.2.2.2⟩)
            have HQ7 := Lib.hid (show (newC true (R.fall k).key [.int .i64 eu.kd, .bool eu.is, .int .i64 eu.n, .string ⟨eu.s.toArray⟩, .slice eA enl ecl, .slice eB enm ecm]).toArray = (newC true ek [.int .i64 eu.kd, .bool eu.is, .int .i64 eu.n, .string ⟨eu.s.toArray⟩, .slice eA enl ecl, .slice eB enm ecm]).toArray by rw [HKV.out.2.1])
            have HBW9 := Lib.hid (hBr.out.then_ HB9.out)
            have HZW9 := Lib.hid (hZr.out.later HB9.out)
            have HKR := Lib.hid HOR.out.2.2.2
            clear h1k
            go_wp2_with (at_builtin; refine wpList_append_rowQ true rfl _ _ rfl P (w.heap.size + 1) (.slice B k cm) R k rfl HR9.out hk6 HGL.out [.int .i64 eu.kd, .bool eu.is, .int .i64 eu.n, .string ⟨eu.s.toArray⟩, .slice eA enl ecl, .slice eB enm ecm] HEK.out _ _ rfl (HQ7.out.trans rfl).symm (by show Value.slice (some ⟨wq.heap.size + 1, 0, none⟩) 1 1 = _; simp) HJ2.out ?_; intro A7 c7 w7 h7 g7; obtain ⟨HR7, HB7, HZ7⟩ := grown_withQ HR9 HGL HBW9 HZW9 h7 g7; clear h7 g7)
            have HDS := Lib.hid (show WQt2 P w.heap.size R key v t (q + 1) (k + 1) A7 c7 w7 from ⟨HR7.out, HKV.out.2.2.2, by have := HKV.out.1; omega, by have := HKR.out; omega⟩)
            have HBF := HB7
            have HZF := HZ7
            go_wp2_with fail
            go_roundw
            case rel =>
              first
                | exact ⟨q + 1, k + 1, A7, c7, by omega, rfl, by go_num, HBF, HZF, HDS⟩
                | (repeat apply Exists.intro
                   refine ⟨?e0, ?e2, ?e1, HBF, HZF, HDS⟩
                   case e2 => rfl
                   case e1 => go_num
                   case e0 => omega)
                | (repeat apply Exists.intro
                   refine ⟨⟨?e0, ?e2, ?e1, HBF, HZF, HDS⟩, ?f1⟩
                   case f1 => rfl
                   case e2 => rfl
                   case e1 => go_num
                   case e0 => omega)
                | fail
            case measure => simp [intOf]; omega
          · by_cases hq2 : ek = key
            · have hl : Op.bytesLess ek key = false := by rw [bl_cb, hq2]; exact decide_eq_false (fun h => cb_irr h)
              have hl2 : (ek == key) = true := by rw [beq_iff_eq]; exact hq2
              have HP := Lib.hid hc
              clear hc hq2
              have HDS := Lib.hid (show WQt2 P w.heap.size R key v t (q + 1) k B cm (wq.alloc (.cells #[.string ⟨ek.toArray⟩, .int .i64 eu.kd, .bool eu.is, .int .i64 eu.n, .string ⟨eu.s.toArray⟩, .slice eA enl ecl, .slice eB enm ecm] 44)) from ⟨HOR.out.1.below HB9.out, by rw [HOR.out.2.1]; rw [HAT.out, if_neg HP.out], HOR.out.2.2.1, by have := HOR.out.2.2.2; omega⟩)
              have HBF := Lib.hid (hBr.out.then_ HB9.out)
              have HZF := Lib.hid (hZr.out.later HB9.out)
              go_wp2_with fail
              go_roundw
              case rel =>
                first
                  | exact ⟨q + 1, k, B, cm, by omega, rfl, by go_num, HBF, HZF, HDS⟩
                  | (repeat apply Exists.intro
                     refine ⟨?e0, ?e2, ?e1, HBF, HZF, HDS⟩
                     case e2 => rfl
                     case e1 => go_num
                     case e0 => omega)
                  | (repeat apply Exists.intro
                     refine ⟨⟨?e0, ?e2, ?e1, HBF, HZF, HDS⟩, ?f1⟩
                     case f1 => rfl
                     case e2 => rfl
                     case e1 => go_num
                     case e0 => omega)
                  | fail
              case measure => simp [intOf]; omega
            · have hl : Op.bytesLess ek key = true := by
                rw [bl_cb]
                rcases cb_three ek key with h | h | h
                · exact decide_eq_true h
                · exact absurd (cb_eq h) hq2
                · exact absurd (by rw [cb_anti, h]) hc
              have hl2 : (ek == key) = false := by rw [beq_eq_false_iff_ne]; exact hq2
              have HP := Lib.hid hc
              clear hc hq2
              have HDS := Lib.hid (show WQt2 P w.heap.size R key v t (q + 1) k B cm (wq.alloc (.cells #[.string ⟨ek.toArray⟩, .int .i64 eu.kd, .bool eu.is, .int .i64 eu.n, .string ⟨eu.s.toArray⟩, .slice eA enl ecl, .slice eB enm ecm] 44)) from ⟨HOR.out.1.below HB9.out, by rw [HOR.out.2.1]; rw [HAT.out, if_neg HP.out], HOR.out.2.2.1, by have := HOR.out.2.2.2; omega⟩)
              have HBF := Lib.hid (hBr.out.then_ HB9.out)
              have HZF := Lib.hid (hZr.out.later HB9.out)
              go_wp2_with fail
              go_roundw
              case rel =>
                first
                  | exact ⟨q + 1, k, B, cm, by omega, rfl, by go_num, HBF, HZF, HDS⟩
                  | (repeat apply Exists.intro
                     refine ⟨?e0, ?e2, ?e1, HBF, HZF, HDS⟩
                     case e2 => rfl
                     case e1 => go_num
                     case e0 => omega)
                  | (repeat apply Exists.intro
                     refine ⟨⟨?e0, ?e2, ?e1, HBF, HZF, HDS⟩, ?f1⟩
                     case f1 => rfl
                     case e2 => rfl
                     case e1 => go_num
                     case e0 => omega)
                  | fail
              case measure => simp [intOf]; omega
        · obtain rfl : n0 = q := by omega
          have hkx : k = R.ext := by
            have h1 := JT.fall_ext R k
            rw [HOR.out.2.1, high_end key (by rw [← HN.out]; exact Nat.le_refl _)] at h1
            have h2 : (0 : Nat) = R.ext - k := h1
            have := HOR.out.2.2.1
            omega
          subst hkx
          obtain ⟨A9, c9, he9, hroom, hjs⟩ := HOR.out.1.done (Nat.le_trans HOR.out.2.2.2 (by omega))
          have hA9 : B = A9 := by injection he9
          have hC9 : cm = c9 := by injection he9
          subst hA9 hC9
          have HE9 := Lib.hid (And.intro hroom hjs)
          clear he9 hroom hjs
          go_wp2_with fail
          go_ret
          exact ⟨⟨_, _, rfl, HE9.out.1, HE9.out.2⟩, hBr.out⟩
end Go.Proofs.YtajkgcmopmpihaaGreatDoor
