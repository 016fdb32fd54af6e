/- Texts put together: PnR QuP. -/
import Derived.Test.YtpleminoiodmgaaDoorZ05c27cc510
import Derived.Test.YtpleminoiodmgaaDoorZ6d00e8390f
import Derived.Test.YtpleminoiodmgaaDoorZ5b48fd9a65
import Derived.Lib.Hide
import Derived.WalkLawsBesides
import Derived.Test.YtpleminoiodmgaaDoorZ3a5727b0d7
import Derived.Deep.Cut
import Derived.Lib.ValidLaws
import Derived.Lib.MapLaws
import Derived.Lib.TrimUEq
import Derived.Lib.DecodeNEq
namespace Go.Proofs.YtpleminoiodmgaaDoor
open Go.ChangeShapes Go.WideShapes Go.ChangeAt Go.RowKit Go.IntWalk
set_option linter.unusedVariables false
set_option maxRecDepth 100000

section
variable {P : Program} {ops : Array Oper} {W0 : World} {Q : Act → Prop} {o : Oper} {rest : List Oper} {Rs : List (Value → Prop)} {a : Act}
/-- A load of one cell. -/
theorem ls_cell (v : Value) (b off : Nat) (hc : W0.cell? ⟨b, off, none⟩ = some v) (hb : b < W0.heap.size) (hw : Region.wanted o (yielded ops a.tmps) = true)
    (h1 : ∀ W, W.cell? ⟨b, off, none⟩ = some v → (execOp a.eval o).run P W = .ok (.value v) W) (h2 : wpLs P ops (fun w' => Below W0.heap.size W0 w') Q rest Rs (a.put o.dst v)) :
    wpLs P ops (fun w' => Below W0.heap.size W0 w') Q (o :: rest) ((· = v) :: Rs) a :=
  ls_exact hw (fun W hW => by unfold lsAt; rw [h1 W ((hW.cell (p := ⟨b, off, none⟩) hb).trans hc)]; exact ⟨rfl, rfl⟩) h2
/-- A call whose contract hangs on what lay there. -/
theorem ls_callb (x : Value) (f : FuncId) (args : Array Value) (hw : Region.wanted o (yielded ops a.tmps) = true) (he : ∀ W, (execOp a.eval o).run P W = .ok (.enter f args) W)
    (hc : ∀ W, Below W0.heap.size W0 W → Calls P f args W (fun e W' => e = .returned x ∧ Below W.heap.size W W')) (h2 : wpLs P ops (fun w' => Below W0.heap.size W0 w') Q rest Rs (a.put o.dst x)) :
    wpLs P ops (fun w' => Below W0.heap.size W0 w') Q (o :: rest) ((· = x) :: Rs) a :=
  ls_cons (w0 := W0) (Below.refl _ _) hw (fun W hW => by
    unfold lsAt
    rw [he]
    exact ⟨rfl, (hc W hW).mono fun e W' ⟨he, hb⟩ => ⟨x, he, rfl, hW.then_ hb⟩⟩) (fun v hv => by subst hv; exact h2)
end
theorem size_valF : (Tryd.prog.info? 25).map (·.size) = some 6 := by kernel_rfl
def prvK (t : JT) (i : Nat) : Option (List UInt8) := if i = 0 then none else some (t.fall (i - 1)).key
def ordB (t : JT) (i : Nat) : Bool := match prvK t i with | none => true | some p => Op.bytesLess p (t.fall i).key
theorem risF_stepM (t : JT) (i : Nat) (h : i < t.ext) : risF true (prvK t i) (t.fall i) = (ordB t i && (risV (t.fall i).val && risF true (prvK t (i + 1)) (t.fall (i + 1)))) := by
  have e : prvK t (i + 1) = some (t.fall i).key := by simp [prvK]
  rw [e]
  unfold ordB
  conv => lhs; rw [t.fall_of_lt i h]
  unfold JT.one risV
  cases prvK t i <;> simp [risF, Bool.and_assoc]
theorem risF_stepL (t : JT) (i : Nat) (p : Option (List UInt8)) (h : i < t.ext) : risF false p (t.fall i) = (risV (t.fall i).val && risF false (some (t.fall i).key) (t.fall (i + 1))) := by
  conv => lhs; rw [t.fall_of_lt i h]
  unfold JT.one risV
  cases p <;> simp [risF, Bool.and_assoc]
theorem risF_any : ∀ (t : JT) (p q : Option (List UInt8)), risF false p t = risF false q t
  | .nil, _, _ => rfl
  | .cons k kd is n s l m r, p, q => by cases p <;> cases q <;> simp [risF]
theorem risF_end (mem : Bool) (t : JT) (p : Option (List UInt8)) : risF mem p (t.fall t.ext) = true := by rw [JT.fall_all t _ (Nat.le_refl _)]; rfl
def RisC (N : Nat) : Prop := ∀ (jv : Jv) (w : World) (A B : Option Addr) (nl cl nm cm : Nat), jv.bulk ≤ N → VOk w jv A B nl cl nm cm →
  Calls Tryd.prog 32 #[.agg #[.int .i64 jv.kd, .bool jv.is, .int .i64 jv.n, .string ⟨jv.s.toArray⟩, .slice A nl cl, .slice B nm cm]] w fun e w' => e = .returned (.bool (risV jv)) ∧ Below w.heap.size w w'
set_option maxHeartbeats 8000000 in
theorem rises_calls : ∀ N, RisC N := by
  intro N
  induction N with
  | zero => intro jv w A B nl cl nm cm h; unfold Jv.bulk at h; omega
  | succ N IH =>
    intro jv w A B nl cl nm cm hN hv
    have hlN : jv.l.bulk ≤ N := by unfold Jv.bulk at hN; omega
    have hmN : jv.m.bulk ≤ N := by unfold Jv.bulk at hN; omega
    obtain ⟨kd, is, n, s, l, m⟩ := jv
    dsimp only at *
    obtain ⟨rl, rm, sl, sm, hf⟩ := hv
    dsimp only at *
    obtain ⟨hnl, hlc, hlm⟩ := rl
    obtain ⟨hnm, hmc, hmm⟩ := rm
    have HRS := Lib.hid (And.intro sl sm)
    have HLN := Lib.hid hnl
    have HMN := Lib.hid hnm
    obtain ⟨R1, hR1⟩ : ∃ R1, risF true none m = R1 := ⟨_, rfl⟩
    obtain ⟨R2, hR2⟩ : ∃ R2, risF false none l = R2 := ⟨_, rfl⟩
    have HRV := Lib.hid (show risV ⟨kd, is, n, s, l, m⟩ = (R1 && R2) by unfold risV; rw [hR1, hR2])
    have HR1 := Lib.hid (show R1 = risF true (prvK m 0) (m.fall 0) by rw [JT.fall_zero]; exact hR1.symm)
    have HR2 := Lib.hid (show R2 = risF false none (l.fall 0) by rw [JT.fall_zero]; exact hR2.symm)
    have hbw : Below w.heap.size w (w.alloc (.cells #[.int .i64 kd, .bool is, .int .i64 n, .string ⟨s.toArray⟩, .slice A nl cl, .slice B nm cm] 25)) := (Below.refl _ _).alloc (Nat.le_refl _) _
    have HB0 := Lib.hid hbw
    have BX0 := Lib.hid (Blk.new w [.int .i64 kd, .bool is, .int .i64 n, .string ⟨s.toArray⟩, .slice A nl cl, .slice B nm cm] 25)
    clear sl sm hnl hnm hR1 hR2 hbw hf
    go_enter Tryd.func32, Tryd.ntmps32
    go_wp2_with fail
    go_loopw [10] (fun iv wr => ∃ k : Nat, k ≤ nm ∧ iv = .int .i64 (k : Int) ∧ Hid (Below w.heap.size w wr) ∧ Hid (Blk wr w.heap.size 25 [.int .i64 kd, .bool is, .int .i64 n, .string ⟨s.toArray⟩, .slice A nl cl, .slice B nm cm]) ∧ Hid (R1 = risF true (prvK m k) (m.fall k))) (fun iv _ => nm - (intOf iv).toNat)
    case atStart => exact ⟨0, Nat.zero_le _, rfl, HB0, BX0, HR1⟩
    case round =>
      obtain ⟨k, hk, rfl, hW, hBk, hS⟩ := hrel
      clear HB0 BX0 HR1
      by_cases hlt : k < nm
      · have hkx : k < m.ext := by rw [← HMN.out]; exact hlt
        obtain ⟨eb, eo, eA, enl, ecl, eB, enm, ecm, rfl, eP, ebl, eK, eKl, e0, e1, e2, e3, e4, e5, r1, r2, s1, s2, hf⟩ := (HRS.out.2.up hW.out).mb _ hkx
        obtain ⟨eu, hev⟩ : ∃ eu, (m.fall k).val = eu := ⟨_, rfl⟩
        obtain ⟨ek, hek⟩ : ∃ ek, (m.fall k).key = ek := ⟨_, rfl⟩
        have hbe : eu.bulk ≤ N := by rw [← hev]; exact Nat.le_trans (JT.bulk_val m k hkx) hmN
        have HS1 := Lib.hid (show R1 = (ordB m k && (risV eu && risF true (prvK m (k + 1)) (m.fall (k + 1)))) by rw [hS.out, risF_stepM m k hkx, hev])
        rw [hev] at e0 e1 e2 e3 r1 r2 s1 s2 hf
        rw [hek] at eK
        have hb2 : Below wr.heap.size wr (wr.alloc (.cells #[.string ⟨ek.toArray⟩, .int .i64 eu.kd, .bool eu.is, .int .i64 eu.n, .string ⟨eu.s.toArray⟩, .slice eA enl ecl, .slice eB enm ecm] 70)) := (Below.refl _ _).alloc (Nat.le_refl _) _
        have HB2 := Lib.hid hb2
        have HW2 := Lib.hid (hW.out.then_ hb2)
        have HBK2 := Lib.hid (hBk.out.alloc (.cells #[.string ⟨ek.toArray⟩, .int .i64 eu.kd, .bool eu.is, .int .i64 eu.n, .string ⟨eu.s.toArray⟩, .slice eA enl ecl, .slice eB enm ecm] 70))
        have d5 := HBK2.out.cell (k := 5) rfl
        have HV := fun W (hd : Below wr.heap.size wr W) => IH eu W eA eB enl ecl enm ecm hbe ⟨r1, r2, s1.up hd, s2.up hd, hf⟩
        have HVV := Lib.hid HV
        have HEK := Lib.hid hek
        have HMB := Lib.hid (Blk.new wr [.string ⟨ek.toArray⟩, .int .i64 eu.kd, .bool eu.is, .int .i64 eu.n, .string ⟨eu.s.toArray⟩, .slice eA enl ecl, .slice eB enm ecm] 70)
        have HMR := Lib.hid (HMB.out.rngAt 1 6)
        have m0 := HMB.out.cell (k := 0) rfl
        have HMB := Lib.hid (Blk.new wr [.string ⟨ek.toArray⟩, .int .i64 eu.kd, .bool eu.is, .int .i64 eu.n, .string ⟨eu.s.toArray⟩, .slice eA enl ecl, .slice eB enm ecm] 70)
        have HMR := Lib.hid (HMB.out.rngAt 1 6)
        have m0 := HMB.out.cell (k := 0) rfl
        clear eP eKl r1 r2 s1 s2 hf hev hek hb2 HV hkx
        by_cases hk0 : 0 < k
        · have hk1 : decide (0 < k) = true := by simpa using hk0
          obtain ⟨qb, qo, _, _, _, _, _, _, qe, _, qbl, p0, prest⟩ := (HRS.out.2.up hW.out).mb (i := k - 1) _ (by rw [← HMN.out]; omega)
          clear prest
          injection qe with qe; injection qe with qe1 qe2
          subst qe1; subst qe2
          obtain ⟨pk, hpk⟩ : ∃ pk, (m.fall (k - 1)).key = pk := ⟨_, rfl⟩
          rw [hpk] at p0
          have hwk : IntKind.i64.wrap ((k : Int) - 1) = ((k - 1 : Nat) : Int) := by rw [IntWalk.i64_in _ (by omega)]; omega
          have HO := Lib.hid (show ordB m k = Op.bytesLess pk ek by unfold ordB prvK; rw [if_neg (by omega)]; dsimp only; rw [hpk, HEK.out])
          have p2 := (HB2.out.cell (p := ⟨eb, eo + (k - 1) * 7, none⟩) qbl).trans p0
          have HEBL := Lib.hid (Nat.lt_of_lt_of_le qbl HB2.out.size)
          have hkm : k - 1 < nm := by omega
          clear hk0 hpk p0
          cases hle : Op.bytesLess pk ek with
          | false =>
            have HF := Lib.hid (show R1 = false by rw [HS1.out, HO.out, hle]; rfl)
            go_upto_region 4 with fail
            apply wp_region_ls (by kernel_rfl) (by kernel_rfl)
            apply ls_move (.int .i64 (k : Int)) (.tmp 3) rfl rfl rfl
            simp only [Act.put, List.setIfInBounds_toArray, List.set_cons_succ, List.set_cons_zero]
            apply ls_pure (.bool true) rfl (by intro W; go_simp)
            simp only [Act.put, List.setIfInBounds_toArray, List.set_cons_succ, List.set_cons_zero]
            apply ls_move (.bool true) (.tmp 16) rfl rfl rfl
            simp only [Act.put, List.setIfInBounds_toArray, List.set_cons_succ, List.set_cons_zero]
            apply ls_pure (.pointer (some ⟨w.heap.size, 5, none⟩)) rfl (by intro W; go_simp)
            simp only [Act.put, List.setIfInBounds_toArray, List.set_cons_succ, List.set_cons_zero]
            apply ls_cell (.slice (some ⟨eb, eo, none⟩) nm cm) w.heap.size 5 d5 HBK2.out.lt rfl (by intro W hW; go_simp)
            simp only [Act.put, List.setIfInBounds_toArray, List.set_cons_succ, List.set_cons_zero]
            apply ls_move (.int .i64 (k : Int)) (.tmp 3) rfl rfl rfl
            simp only [Act.put, List.setIfInBounds_toArray, List.set_cons_succ, List.set_cons_zero]
            apply ls_pure (.int .i64 ((k - 1 : Nat) : Int)) rfl (by intro W; go_simp)
            simp only [Act.put, List.setIfInBounds_toArray, List.set_cons_succ, List.set_cons_zero]
            apply ls_pure (.pointer (some ⟨eb, eo + (k - 1) * 7, none⟩)) rfl (by intro W; go_simp)
            simp only [Act.put, List.setIfInBounds_toArray, List.set_cons_succ, List.set_cons_zero]
            apply ls_pure (.pointer (some ⟨eb, eo + (k - 1) * 7, none⟩)) rfl (by intro W; go_simp)
            simp only [Act.put, List.setIfInBounds_toArray, List.set_cons_succ, List.set_cons_zero]
            apply ls_cell (.string ⟨pk.toArray⟩) eb (eo + (k - 1) * 7) p2 HEBL.out rfl (by intro W hW; go_simp)
            simp only [Act.put, List.setIfInBounds_toArray, List.set_cons_succ, List.set_cons_zero]
            apply ls_pure (.pointer (some ⟨wr.heap.size, 0, none⟩)) rfl (by intro W; go_simp)
            simp only [Act.put, List.setIfInBounds_toArray, List.set_cons_succ, List.set_cons_zero]
            apply ls_cell (.string ⟨ek.toArray⟩) wr.heap.size 0 m0 HMB.out.lt rfl (by intro W hW; go_simp)
            simp only [Act.put, List.setIfInBounds_toArray, List.set_cons_succ, List.set_cons_zero]
            apply ls_pure (.bool true) rfl (by intro W; go_simp)
            simp only [Act.put, List.setIfInBounds_toArray, List.set_cons_succ, List.set_cons_zero]
            apply ls_pure (.bool true) rfl (by intro W; go_simp)
            simp only [Act.put, List.setIfInBounds_toArray, List.set_cons_succ, List.set_cons_zero]
            apply ls_move (.bool true) (.tmp 28) rfl rfl rfl
            simp only [Act.put, List.setIfInBounds_toArray, List.set_cons_succ, List.set_cons_zero]
            apply ls_skip rfl
            simp only [Act.put, List.setIfInBounds_toArray, List.set_cons_succ, List.set_cons_zero]
            apply ls_skip rfl
            simp only [Act.put, List.setIfInBounds_toArray, List.set_cons_succ, List.set_cons_zero]
            apply ls_skip rfl
            simp only [Act.put, List.setIfInBounds_toArray, List.set_cons_succ, List.set_cons_zero]
            apply ls_skip rfl
            simp only [Act.put, List.setIfInBounds_toArray, List.set_cons_succ, List.set_cons_zero]
            apply ls_pure (.bool true) rfl (by intro W; go_simp)
            simp only [Act.put, List.setIfInBounds_toArray, List.set_cons_succ, List.set_cons_zero]
            refine ls_nil (Rs := []) ?_
            intro w4 b4
            have HW4 := Lib.hid (HW2.out.then_ b4)
            have HBK4 := Lib.hid (HBK2.out.later b4)
            clear b4
            go_wp2_with fail
            go_ret
            rw [HRV.out, HF.out]
            exact ⟨rfl, HW4.out⟩
          | true =>
            have HF := Lib.hid (show R1 = (risV eu && risF true (prvK m (k + 1)) (m.fall (k + 1))) by rw [HS1.out, HO.out, hle]; rfl)
            have HV2' := fun W (hd : Below (wr.alloc (.cells #[.string ⟨ek.toArray⟩, .int .i64 eu.kd, .bool eu.is, .int .i64 eu.n, .string ⟨eu.s.toArray⟩, .slice eA enl ecl, .slice eB enm ecm] 70)).heap.size (wr.alloc (.cells #[.string ⟨ek.toArray⟩, .int .i64 eu.kd, .bool eu.is, .int .i64 eu.n, .string ⟨eu.s.toArray⟩, .slice eA enl ecl, .slice eB enm ecm] 70)) W) => HVV.out W (HB2.out.then_ hd)
            cases hrv : risV eu with
            | false =>
              have HF2 := Lib.hid (show R1 = false by rw [HF.out, hrv]; rfl)
              rw [hrv] at HV2'
              have HV2 := HV2'
              clear hrv
              go_upto_region 4 with fail
              apply wp_region_ls (by kernel_rfl) (by kernel_rfl)
              apply ls_move (.int .i64 (k : Int)) (.tmp 3) rfl rfl rfl
              simp only [Act.put, List.setIfInBounds_toArray, List.set_cons_succ, List.set_cons_zero]
              apply ls_pure (.bool true) rfl (by intro W; go_simp)
              simp only [Act.put, List.setIfInBounds_toArray, List.set_cons_succ, List.set_cons_zero]
              apply ls_move (.bool true) (.tmp 16) rfl rfl rfl
              simp only [Act.put, List.setIfInBounds_toArray, List.set_cons_succ, List.set_cons_zero]
              apply ls_pure (.pointer (some ⟨w.heap.size, 5, none⟩)) rfl (by intro W; go_simp)
              simp only [Act.put, List.setIfInBounds_toArray, List.set_cons_succ, List.set_cons_zero]
              apply ls_cell (.slice (some ⟨eb, eo, none⟩) nm cm) w.heap.size 5 d5 HBK2.out.lt rfl (by intro W hW; go_simp)
              simp only [Act.put, List.setIfInBounds_toArray, List.set_cons_succ, List.set_cons_zero]
              apply ls_move (.int .i64 (k : Int)) (.tmp 3) rfl rfl rfl
              simp only [Act.put, List.setIfInBounds_toArray, List.set_cons_succ, List.set_cons_zero]
              apply ls_pure (.int .i64 ((k - 1 : Nat) : Int)) rfl (by intro W; go_simp)
              simp only [Act.put, List.setIfInBounds_toArray, List.set_cons_succ, List.set_cons_zero]
              apply ls_pure (.pointer (some ⟨eb, eo + (k - 1) * 7, none⟩)) rfl (by intro W; go_simp)
              simp only [Act.put, List.setIfInBounds_toArray, List.set_cons_succ, List.set_cons_zero]
              apply ls_pure (.pointer (some ⟨eb, eo + (k - 1) * 7, none⟩)) rfl (by intro W; go_simp)
              simp only [Act.put, List.setIfInBounds_toArray, List.set_cons_succ, List.set_cons_zero]
              apply ls_cell (.string ⟨pk.toArray⟩) eb (eo + (k - 1) * 7) p2 HEBL.out rfl (by intro W hW; go_simp)
              simp only [Act.put, List.setIfInBounds_toArray, List.set_cons_succ, List.set_cons_zero]
              apply ls_pure (.pointer (some ⟨wr.heap.size, 0, none⟩)) rfl (by intro W; go_simp)
              simp only [Act.put, List.setIfInBounds_toArray, List.set_cons_succ, List.set_cons_zero]
              apply ls_cell (.string ⟨ek.toArray⟩) wr.heap.size 0 m0 HMB.out.lt rfl (by intro W hW; go_simp)
              simp only [Act.put, List.setIfInBounds_toArray, List.set_cons_succ, List.set_cons_zero]
              apply ls_pure (.bool false) rfl (by intro W; go_simp)
              simp only [Act.put, List.setIfInBounds_toArray, List.set_cons_succ, List.set_cons_zero]
              apply ls_pure (.bool false) rfl (by intro W; go_simp)
              simp only [Act.put, List.setIfInBounds_toArray, List.set_cons_succ, List.set_cons_zero]
              apply ls_move (.bool false) (.tmp 28) rfl rfl rfl
              simp only [Act.put, List.setIfInBounds_toArray, List.set_cons_succ, List.set_cons_zero]
              apply ls_pure (.pointer (some ⟨wr.heap.size, 1, none⟩)) rfl (by intro W; go_simp)
              simp only [Act.put, List.setIfInBounds_toArray, List.set_cons_succ, List.set_cons_zero]
              apply ls_load 25 (.tmp 30) rfl wr.heap.size 1 [.int .i64 eu.kd, .bool eu.is, .int .i64 eu.n, .string ⟨eu.s.toArray⟩, .slice eA enl ecl, .slice eB enm ecm] _ HMR.out HMB.out.lt Tryd.underlying25 rfl size_valF rfl rfl
              simp only [Act.put, List.setIfInBounds_toArray, List.set_cons_succ, List.set_cons_zero]
              apply ls_callb (.bool false) 32 #[.agg #[.int .i64 eu.kd, .bool eu.is, .int .i64 eu.n, .string ⟨eu.s.toArray⟩, .slice eA enl ecl, .slice eB enm ecm]] rfl (by intro W; go_simp) HV2
              simp only [Act.put, List.setIfInBounds_toArray, List.set_cons_succ, List.set_cons_zero]
              apply ls_pure (.bool true) rfl (by intro W; go_simp)
              simp only [Act.put, List.setIfInBounds_toArray, List.set_cons_succ, List.set_cons_zero]
              apply ls_pure (.bool true) rfl (by intro W; go_simp)
              simp only [Act.put, List.setIfInBounds_toArray, List.set_cons_succ, List.set_cons_zero]
              refine ls_nil (Rs := []) ?_
              intro w4 b4
              have HW4 := Lib.hid (HW2.out.then_ b4)
              have HBK4 := Lib.hid (HBK2.out.later b4)
              clear b4
              go_wp2_with fail
              go_ret
              rw [HRV.out, HF2.out]
              exact ⟨rfl, HW4.out⟩
            | true =>
              have HF2 := Lib.hid (show R1 = risF true (prvK m (k + 1)) (m.fall (k + 1)) by rw [HF.out, hrv]; rfl)
              rw [hrv] at HV2'
              have HV2 := HV2'
              clear hrv
              go_upto_region 4 with fail
              apply wp_region_ls (by kernel_rfl) (by kernel_rfl)
              apply ls_move (.int .i64 (k : Int)) (.tmp 3) rfl rfl rfl
              simp only [Act.put, List.setIfInBounds_toArray, List.set_cons_succ, List.set_cons_zero]
              apply ls_pure (.bool true) rfl (by intro W; go_simp)
              simp only [Act.put, List.setIfInBounds_toArray, List.set_cons_succ, List.set_cons_zero]
              apply ls_move (.bool true) (.tmp 16) rfl rfl rfl
              simp only [Act.put, List.setIfInBounds_toArray, List.set_cons_succ, List.set_cons_zero]
              apply ls_pure (.pointer (some ⟨w.heap.size, 5, none⟩)) rfl (by intro W; go_simp)
              simp only [Act.put, List.setIfInBounds_toArray, List.set_cons_succ, List.set_cons_zero]
              apply ls_cell (.slice (some ⟨eb, eo, none⟩) nm cm) w.heap.size 5 d5 HBK2.out.lt rfl (by intro W hW; go_simp)
              simp only [Act.put, List.setIfInBounds_toArray, List.set_cons_succ, List.set_cons_zero]
              apply ls_move (.int .i64 (k : Int)) (.tmp 3) rfl rfl rfl
              simp only [Act.put, List.setIfInBounds_toArray, List.set_cons_succ, List.set_cons_zero]
              apply ls_pure (.int .i64 ((k - 1 : Nat) : Int)) rfl (by intro W; go_simp)
              simp only [Act.put, List.setIfInBounds_toArray, List.set_cons_succ, List.set_cons_zero]
              apply ls_pure (.pointer (some ⟨eb, eo + (k - 1) * 7, none⟩)) rfl (by intro W; go_simp)
              simp only [Act.put, List.setIfInBounds_toArray, List.set_cons_succ, List.set_cons_zero]
              apply ls_pure (.pointer (some ⟨eb, eo + (k - 1) * 7, none⟩)) rfl (by intro W; go_simp)
              simp only [Act.put, List.setIfInBounds_toArray, List.set_cons_succ, List.set_cons_zero]
              apply ls_cell (.string ⟨pk.toArray⟩) eb (eo + (k - 1) * 7) p2 HEBL.out rfl (by intro W hW; go_simp)
              simp only [Act.put, List.setIfInBounds_toArray, List.set_cons_succ, List.set_cons_zero]
              apply ls_pure (.pointer (some ⟨wr.heap.size, 0, none⟩)) rfl (by intro W; go_simp)
              simp only [Act.put, List.setIfInBounds_toArray, List.set_cons_succ, List.set_cons_zero]
              apply ls_cell (.string ⟨ek.toArray⟩) wr.heap.size 0 m0 HMB.out.lt rfl (by intro W hW; go_simp)
              simp only [Act.put, List.setIfInBounds_toArray, List.set_cons_succ, List.set_cons_zero]
              apply ls_pure (.bool false) rfl (by intro W; go_simp)
              simp only [Act.put, List.setIfInBounds_toArray, List.set_cons_succ, List.set_cons_zero]
              apply ls_pure (.bool false) rfl (by intro W; go_simp)
              simp only [Act.put, List.setIfInBounds_toArray, List.set_cons_succ, List.set_cons_zero]
              apply ls_move (.bool false) (.tmp 28) rfl rfl rfl
              simp only [Act.put, List.setIfInBounds_toArray, List.set_cons_succ, List.set_cons_zero]
              apply ls_pure (.pointer (some ⟨wr.heap.size, 1, none⟩)) rfl (by intro W; go_simp)
              simp only [Act.put, List.setIfInBounds_toArray, List.set_cons_succ, List.set_cons_zero]
              apply ls_load 25 (.tmp 30) rfl wr.heap.size 1 [.int .i64 eu.kd, .bool eu.is, .int .i64 eu.n, .string ⟨eu.s.toArray⟩, .slice eA enl ecl, .slice eB enm ecm] _ HMR.out HMB.out.lt Tryd.underlying25 rfl size_valF rfl rfl
              simp only [Act.put, List.setIfInBounds_toArray, List.set_cons_succ, List.set_cons_zero]
              apply ls_callb (.bool true) 32 #[.agg #[.int .i64 eu.kd, .bool eu.is, .int .i64 eu.n, .string ⟨eu.s.toArray⟩, .slice eA enl ecl, .slice eB enm ecm]] rfl (by intro W; go_simp) HV2
              simp only [Act.put, List.setIfInBounds_toArray, List.set_cons_succ, List.set_cons_zero]
              apply ls_pure (.bool false) rfl (by intro W; go_simp)
              simp only [Act.put, List.setIfInBounds_toArray, List.set_cons_succ, List.set_cons_zero]
              apply ls_pure (.bool false) rfl (by intro W; go_simp)
              simp only [Act.put, List.setIfInBounds_toArray, List.set_cons_succ, List.set_cons_zero]
              refine ls_nil (Rs := []) ?_
              intro w4 b4
              have HW4 := Lib.hid (HW2.out.then_ b4)
              have HBK4 := Lib.hid (HBK2.out.later b4)
              clear b4
              go_wp2_with fail
              go_roundw
              case rel => exact ⟨k + 1, by omega, by go_num, HW4, HBK4, HF2⟩
              case measure => simp [intOf]; omega
        · have hk1 : decide (0 < k) = false := by simpa using hk0
          have HF := Lib.hid (show R1 = (risV eu && risF true (prvK m (k + 1)) (m.fall (k + 1))) by rw [HS1.out, show ordB m k = true by unfold ordB prvK; rw [if_pos (by omega)]]; rfl)
          clear hk0
          have HV2' := fun W (hd : Below (wr.alloc (.cells #[.string ⟨ek.toArray⟩, .int .i64 eu.kd, .bool eu.is, .int .i64 eu.n, .string ⟨eu.s.toArray⟩, .slice eA enl ecl, .slice eB enm ecm] 70)).heap.size (wr.alloc (.cells #[.string ⟨ek.toArray⟩, .int .i64 eu.kd, .bool eu.is, .int .i64 eu.n, .string ⟨eu.s.toArray⟩, .slice eA enl ecl, .slice eB enm ecm] 70)) W) => HVV.out W (HB2.out.then_ hd)
          cases hrv : risV eu with
          | false =>
            have HF2 := Lib.hid (show R1 = false by rw [HF.out, hrv]; rfl)
            rw [hrv] at HV2'
            have HV2 := HV2'
            clear hrv
            go_upto_region 4 with fail
            apply wp_region_ls (by kernel_rfl) (by kernel_rfl)
            apply ls_move (.int .i64 (k : Int)) (.tmp 3) rfl rfl rfl
            simp only [Act.put, List.setIfInBounds_toArray, List.set_cons_succ, List.set_cons_zero]
            apply ls_pure (.bool false) rfl (by intro W; go_simp)
            simp only [Act.put, List.setIfInBounds_toArray, List.set_cons_succ, List.set_cons_zero]
            apply ls_move (.bool false) (.tmp 16) rfl rfl rfl
            simp only [Act.put, List.setIfInBounds_toArray, List.set_cons_succ, List.set_cons_zero]
            apply ls_skip rfl
            simp only [Act.put, List.setIfInBounds_toArray, List.set_cons_succ, List.set_cons_zero]
            apply ls_skip rfl
            simp only [Act.put, List.setIfInBounds_toArray, List.set_cons_succ, List.set_cons_zero]
            apply ls_skip rfl
            simp only [Act.put, List.setIfInBounds_toArray, List.set_cons_succ, List.set_cons_zero]
            apply ls_skip rfl
            simp only [Act.put, List.setIfInBounds_toArray, List.set_cons_succ, List.set_cons_zero]
            apply ls_skip rfl
            simp only [Act.put, List.setIfInBounds_toArray, List.set_cons_succ, List.set_cons_zero]
            apply ls_skip rfl
            simp only [Act.put, List.setIfInBounds_toArray, List.set_cons_succ, List.set_cons_zero]
            apply ls_skip rfl
            simp only [Act.put, List.setIfInBounds_toArray, List.set_cons_succ, List.set_cons_zero]
            apply ls_skip rfl
            simp only [Act.put, List.setIfInBounds_toArray, List.set_cons_succ, List.set_cons_zero]
            apply ls_skip rfl
            simp only [Act.put, List.setIfInBounds_toArray, List.set_cons_succ, List.set_cons_zero]
            apply ls_skip rfl
            simp only [Act.put, List.setIfInBounds_toArray, List.set_cons_succ, List.set_cons_zero]
            apply ls_pure (.bool false) rfl (by intro W; go_simp)
            simp only [Act.put, List.setIfInBounds_toArray, List.set_cons_succ, List.set_cons_zero]
            apply ls_move (.bool false) (.tmp 28) rfl rfl rfl
            simp only [Act.put, List.setIfInBounds_toArray, List.set_cons_succ, List.set_cons_zero]
            apply ls_pure (.pointer (some ⟨wr.heap.size, 1, none⟩)) rfl (by intro W; go_simp)
            simp only [Act.put, List.setIfInBounds_toArray, List.set_cons_succ, List.set_cons_zero]
            apply ls_load 25 (.tmp 30) rfl wr.heap.size 1 [.int .i64 eu.kd, .bool eu.is, .int .i64 eu.n, .string ⟨eu.s.toArray⟩, .slice eA enl ecl, .slice eB enm ecm] _ HMR.out HMB.out.lt Tryd.underlying25 rfl size_valF rfl rfl
            simp only [Act.put, List.setIfInBounds_toArray, List.set_cons_succ, List.set_cons_zero]
            apply ls_callb (.bool false) 32 #[.agg #[.int .i64 eu.kd, .bool eu.is, .int .i64 eu.n, .string ⟨eu.s.toArray⟩, .slice eA enl ecl, .slice eB enm ecm]] rfl (by intro W; go_simp) HV2
            simp only [Act.put, List.setIfInBounds_toArray, List.set_cons_succ, List.set_cons_zero]
            apply ls_pure (.bool true) rfl (by intro W; go_simp)
            simp only [Act.put, List.setIfInBounds_toArray, List.set_cons_succ, List.set_cons_zero]
            apply ls_pure (.bool true) rfl (by intro W; go_simp)
            simp only [Act.put, List.setIfInBounds_toArray, List.set_cons_succ, List.set_cons_zero]
            refine ls_nil (Rs := []) ?_
            intro w4 b4
            have HW4 := Lib.hid (HW2.out.then_ b4)
            have HBK4 := Lib.hid (HBK2.out.later b4)
            clear b4
            go_wp2_with fail
            go_ret
            rw [HRV.out, HF2.out]
            exact ⟨rfl, HW4.out⟩
          | true =>
            have HF2 := Lib.hid (show R1 = risF true (prvK m (k + 1)) (m.fall (k + 1)) by rw [HF.out, hrv]; rfl)
            rw [hrv] at HV2'
            have HV2 := HV2'
            clear hrv
            go_upto_region 4 with fail
            apply wp_region_ls (by kernel_rfl) (by kernel_rfl)
            apply ls_move (.int .i64 (k : Int)) (.tmp 3) rfl rfl rfl
            simp only [Act.put, List.setIfInBounds_toArray, List.set_cons_succ, List.set_cons_zero]
            apply ls_pure (.bool false) rfl (by intro W; go_simp)
            simp only [Act.put, List.setIfInBounds_toArray, List.set_cons_succ, List.set_cons_zero]
            apply ls_move (.bool false) (.tmp 16) rfl rfl rfl
            simp only [Act.put, List.setIfInBounds_toArray, List.set_cons_succ, List.set_cons_zero]
            apply ls_skip rfl
            simp only [Act.put, List.setIfInBounds_toArray, List.set_cons_succ, List.set_cons_zero]
            apply ls_skip rfl
            simp only [Act.put, List.setIfInBounds_toArray, List.set_cons_succ, List.set_cons_zero]
            apply ls_skip rfl
            simp only [Act.put, List.setIfInBounds_toArray, List.set_cons_succ, List.set_cons_zero]
            apply ls_skip rfl
            simp only [Act.put, List.setIfInBounds_toArray, List.set_cons_succ, List.set_cons_zero]
            apply ls_skip rfl
            simp only [Act.put, List.setIfInBounds_toArray, List.set_cons_succ, List.set_cons_zero]
            apply ls_skip rfl
            simp only [Act.put, List.setIfInBounds_toArray, List.set_cons_succ, List.set_cons_zero]
            apply ls_skip rfl
            simp only [Act.put, List.setIfInBounds_toArray, List.set_cons_succ, List.set_cons_zero]
            apply ls_skip rfl
            simp only [Act.put, List.setIfInBounds_toArray, List.set_cons_succ, List.set_cons_zero]
            apply ls_skip rfl
            simp only [Act.put, List.setIfInBounds_toArray, List.set_cons_succ, List.set_cons_zero]
            apply ls_skip rfl
            simp only [Act.put, List.setIfInBounds_toArray, List.set_cons_succ, List.set_cons_zero]
            apply ls_pure (.bool false) rfl (by intro W; go_simp)
            simp only [Act.put, List.setIfInBounds_toArray, List.set_cons_succ, List.set_cons_zero]
            apply ls_move (.bool false) (.tmp 28) rfl rfl rfl
            simp only [Act.put, List.setIfInBounds_toArray, List.set_cons_succ, List.set_cons_zero]
            apply ls_pure (.pointer (some ⟨wr.heap.size, 1, none⟩)) rfl (by intro W; go_simp)
            simp only [Act.put, List.setIfInBounds_toArray, List.set_cons_succ, List.set_cons_zero]
            apply ls_load 25 (.tmp 30) rfl wr.heap.size 1 [.int .i64 eu.kd, .bool eu.is, .int .i64 eu.n, .string ⟨eu.s.toArray⟩, .slice eA enl ecl, .slice eB enm ecm] _ HMR.out HMB.out.lt Tryd.underlying25 rfl size_valF rfl rfl
            simp only [Act.put, List.setIfInBounds_toArray, List.set_cons_succ, List.set_cons_zero]
            apply ls_callb (.bool true) 32 #[.agg #[.int .i64 eu.kd, .bool eu.is, .int .i64 eu.n, .string ⟨eu.s.toArray⟩, .slice eA enl ecl, .slice eB enm ecm]] rfl (by intro W; go_simp) HV2
            simp only [Act.put, List.setIfInBounds_toArray, List.set_cons_succ, List.set_cons_zero]
            apply ls_pure (.bool false) rfl (by intro W; go_simp)
            simp only [Act.put, List.setIfInBounds_toArray, List.set_cons_succ, List.set_cons_zero]
            apply ls_pure (.bool false) rfl (by intro W; go_simp)
            simp only [Act.put, List.setIfInBounds_toArray, List.set_cons_succ, List.set_cons_zero]
            refine ls_nil (Rs := []) ?_
            intro w4 b4
            have HW4 := Lib.hid (HW2.out.then_ b4)
            have HBK4 := Lib.hid (HBK2.out.later b4)
            clear b4
            go_wp2_with fail
            go_roundw
            case rel => exact ⟨k + 1, by omega, by go_num, HW4, HBK4, HF2⟩
            case measure => simp [intOf]; omega
      · obtain rfl : k = nm := by omega
        have HF := Lib.hid (show R1 = true by rw [hS.out, HMN.out, risF_end])
        have d0 := hBk.out.cell (k := 0) rfl; have d1 := hBk.out.cell (k := 1) rfl; have d2 := hBk.out.cell (k := 2) rfl; have d3 := hBk.out.cell (k := 3) rfl; have d4 := hBk.out.cell (k := 4) rfl; have d5 := hBk.out.cell (k := 5) rfl
        go_wp2_with fail
        clear d0 d1 d2 d3 d4 d5
        obtain ⟨wo, hwo⟩ : ∃ wo : World, wo = wr := ⟨_, rfl⟩
        rw [← hwo] at hW hBk ⊢
        clear hwo
        go_loopw [39] (fun iv wr => ∃ q : Nat, q ≤ nl ∧ iv = .int .i64 (q : Int) ∧ Hid (Below w.heap.size w wr) ∧ Hid (R2 = risF false none (l.fall q))) (fun iv _ => nl - (intOf iv).toNat)
        case atStart => exact ⟨0, Nat.zero_le _, rfl, hW, HR2⟩
        case round =>
          obtain ⟨q, hq, rfl, hWq, hSq⟩ := hrel
          by_cases hqt : q < nl
          · have hqx : q < l.ext := by rw [← HLN.out]; exact hqt
            obtain ⟨eb, eo, eA, enl, ecl, eB, enm, ecm, rfl, eP, ebl, e0, e1, e2, e3, e4, e5, r1, r2, s1, s2, hf⟩ := (HRS.out.1.up hWq.out).el _ hqx
            obtain ⟨eu, hev⟩ : ∃ eu, (l.fall q).val = eu := ⟨_, rfl⟩
            have hbe : eu.bulk ≤ N := by rw [← hev]; exact Nat.le_trans (JT.bulk_val l q hqx) hlN
            have HS1 := Lib.hid (show R2 = (risV eu && risF false none (l.fall (q + 1))) by rw [hSq.out, risF_stepL l q none hqx, hev, risF_any _ _ none])
            rw [hev] at e0 e1 e2 e3 r1 r2 s1 s2 hf
            have hb2 : Below wr.heap.size wr (wr.alloc (.cells #[.int .i64 eu.kd, .bool eu.is, .int .i64 eu.n, .string ⟨eu.s.toArray⟩, .slice eA enl ecl, .slice eB enm ecm] 25)) := (Below.refl _ _).alloc (Nat.le_refl _) _
            have HB2 := Lib.hid hb2
            have HW2 := Lib.hid (hWq.out.then_ hb2)
            have HV := IH eu _ eA eB enl ecl enm ecm hbe ⟨r1, r2, s1.up hb2, s2.up hb2, hf⟩
            clear eP r1 r2 s1 s2 hf hev hb2 hqx
            cases hrv : risV eu with
            | false =>
              have HF2 := Lib.hid (show R2 = false by rw [HS1.out, hrv]; rfl)
              rw [hrv] at HV
              clear hrv
              go_wp2_with fail
              refine HV.mono ?_
              rintro e w3 ⟨rfl, b3⟩
              have HW3 := Lib.hid (HW2.out.then_ b3)
              clear b3 HV e0 e1 e2 e3 e4 e5
              go_wp2_with fail
              go_ret
              rw [HRV.out, HF.out, HF2.out]
              exact ⟨rfl, HW3.out⟩
            | true =>
              have HF2 := Lib.hid (show R2 = risF false none (l.fall (q + 1)) by rw [HS1.out, hrv]; rfl)
              rw [hrv] at HV
              clear hrv
              go_wp2_with fail
              refine HV.mono ?_
              rintro e w3 ⟨rfl, b3⟩
              have HW3 := Lib.hid (HW2.out.then_ b3)
              clear b3 HV e0 e1 e2 e3 e4 e5
              go_wp2_with fail
              go_roundw
              case rel => exact ⟨q + 1, by omega, by go_num, HW3, HF2⟩
              case measure => simp [intOf]; omega
          · obtain rfl : q = nl := by omega
            have HF2 := Lib.hid (show R2 = true by rw [hSq.out, HLN.out, risF_end])
            go_wp2_with fail
            go_ret
            rw [HRV.out, HF.out, HF2.out]
            exact ⟨rfl, hWq.out⟩
end Go.Proofs.YtpleminoiodmgaaDoor
namespace Go.Proofs.YtpleminoiodmgaaDoor
open Go.Lib
set_option linter.unusedVariables false

/-- no rune stands ahead -/
def NoR (l : List UInt8) : Prop := (decodeL l).1 = 65533 ∧ (decodeL l).2 = 1
instance (l : List UInt8) : Decidable (NoR l) := by unfold NoR; infer_instance
def runeF (l : List UInt8) : Nat × Nat := if l = [] ∨ NoR l then (0, 0) else decodeL l

theorem runeF_nil : runeF [] = (0, 0) := by simp [runeF]
theorem runeF_of {l : List UInt8} (h : l ≠ []) : runeF l = if NoR l then (0, 0) else decodeL l := by simp [runeF, h]

def refN (n b0 b1 b2 b3 : Nat) : Nat × Nat := if (decodeN n b0 b1 b2 b3).1 = 65533 ∧ (decodeN n b0 b1 b2 b3).2 = 1 then (0, 0) else decodeN n b0 b1 b2 b3
theorem runeF_N {l : List UInt8} (h : l ≠ []) : runeF l = refN l.length (l.getD 0 0).toNat (l.getD 1 0).toNat (l.getD 2 0).toNat (l.getD 3 0).toNat := by
  rw [runeF_of h]; unfold NoR refN; simp only [decodeL_N]

theorem ref_1 {n b0 b1 b2 b3 : Nat} (h : b0 < 128) : refN n b0 b1 b2 b3 = (b0, 1) := by
  have : decodeN n b0 b1 b2 b3 = (b0, 1) := by simp [decodeN, h]
  unfold refN; rw [this]; simp; omega
theorem ref_0 {n b0 b1 b2 b3 : Nat} (h0 : b0 < 256) (h : 128 ≤ b0 ∧ b0 < 192 ∨ 248 ≤ b0) : refN n b0 b1 b2 b3 = (0, 0) := by
  have : decodeN n b0 b1 b2 b3 = (65533, 1) := by
    unfold decodeN
    rw [if_neg (by omega), if_neg (by omega), if_neg (by omega), if_neg (by omega)]
  unfold refN; rw [this]; simp
def okC (least c : Nat) : Bool := decide (least ≤ c ∧ c ≤ 1114111 ∧ (c < 55296 ∨ 57343 < c))
def contB (b : Nat) : Bool := decide (128 ≤ b ∧ b < 192)
set_option maxHeartbeats 2000000 in
theorem ref_2 {n b0 b1 b2 b3 : Nat} (h : 192 ≤ b0 ∧ b0 < 224) : refN n b0 b1 b2 b3 =
    if 2 ≤ n ∧ contB b1 = true ∧ okC 128 (b0 % 32 * 64 + b1 % 64) = true then (b0 % 32 * 64 + b1 % 64, 2) else (0, 0) := by
  have e : decodeN n b0 b1 b2 b3 = if 1 < n ∧ b1 / 64 = 2 then (if b0 % 32 * 64 + b1 % 64 ≥ 128 then (b0 % 32 * 64 + b1 % 64, 2) else (65533, 1)) else (65533, 1) := by
    unfold decodeN
    have a1 : b0 / 32 = 6 := by omega
    rw [if_neg (by omega)]
    simp only [a1, true_and]
    by_cases hc : 1 < n ∧ b1 / 64 = 2
    · rw [if_pos hc, if_pos hc]
    · rw [if_neg hc, if_neg hc, if_neg (by omega), if_neg (by omega)]
  unfold refN; rw [e]
  simp only [okC, contB, decide_eq_true_eq]
  repeat' split
  all_goals first | rfl | (exfalso; omega) | (exfalso; simp_all <;> omega)
set_option maxHeartbeats 2000000 in
theorem ref_3 {n b0 b1 b2 b3 : Nat} (h : 224 ≤ b0 ∧ b0 < 240) : refN n b0 b1 b2 b3 =
    if 3 ≤ n ∧ contB b1 = true ∧ contB b2 = true ∧ okC 2048 ((b0 % 16 * 64 + b1 % 64) * 64 + b2 % 64) = true then ((b0 % 16 * 64 + b1 % 64) * 64 + b2 % 64, 3) else (0, 0) := by
  have e : decodeN n b0 b1 b2 b3 = if (1 < n ∧ b1 / 64 = 2) ∧ (2 < n ∧ b2 / 64 = 2) then
    (if b0 % 16 * 4096 + b1 % 64 * 64 + b2 % 64 ≥ 2048 ∧ (b0 % 16 * 4096 + b1 % 64 * 64 + b2 % 64 < 55296 ∨ (57344 ≤ b0 % 16 * 4096 + b1 % 64 * 64 + b2 % 64 ∧ b0 % 16 * 4096 + b1 % 64 * 64 + b2 % 64 ≤ 1114111))
     then (b0 % 16 * 4096 + b1 % 64 * 64 + b2 % 64, 3) else (65533, 1)) else (65533, 1) := by
    unfold decodeN
    have a1 : b0 / 16 = 14 := by omega
    rw [if_neg (by omega), if_neg (by omega)]
    simp only [a1, true_and]
    rw [if_neg (show ¬ (b0 / 8 = 30 ∧ _) by omega)]
  have ec : (b0 % 16 * 64 + b1 % 64) * 64 + b2 % 64 = b0 % 16 * 4096 + b1 % 64 * 64 + b2 % 64 := by omega
  unfold refN; rw [e, ec]
  generalize hC : b0 % 16 * 4096 + b1 % 64 * 64 + b2 % 64 = C
  simp only [okC, contB, decide_eq_true_eq]
  repeat' split
  all_goals first | rfl | (exfalso; omega) | (exfalso; simp_all <;> omega)
set_option maxHeartbeats 2000000 in
theorem ref_4 {n b0 b1 b2 b3 : Nat} (h : 240 ≤ b0 ∧ b0 < 248) : refN n b0 b1 b2 b3 =
    if 4 ≤ n ∧ contB b1 = true ∧ contB b2 = true ∧ contB b3 = true ∧ okC 65536 (((b0 % 8 * 64 + b1 % 64) * 64 + b2 % 64) * 64 + b3 % 64) = true then (((b0 % 8 * 64 + b1 % 64) * 64 + b2 % 64) * 64 + b3 % 64, 4) else (0, 0) := by
  have e : decodeN n b0 b1 b2 b3 = if (1 < n ∧ b1 / 64 = 2) ∧ (2 < n ∧ b2 / 64 = 2) ∧ (3 < n ∧ b3 / 64 = 2) then
    (if b0 % 8 * 262144 + b1 % 64 * 4096 + b2 % 64 * 64 + b3 % 64 ≥ 65536 ∧ (b0 % 8 * 262144 + b1 % 64 * 4096 + b2 % 64 * 64 + b3 % 64 < 55296 ∨ (57344 ≤ b0 % 8 * 262144 + b1 % 64 * 4096 + b2 % 64 * 64 + b3 % 64 ∧ b0 % 8 * 262144 + b1 % 64 * 4096 + b2 % 64 * 64 + b3 % 64 ≤ 1114111))
     then (b0 % 8 * 262144 + b1 % 64 * 4096 + b2 % 64 * 64 + b3 % 64, 4) else (65533, 1)) else (65533, 1) := by
    unfold decodeN
    have a1 : b0 / 8 = 30 := by omega
    rw [if_neg (by omega), if_neg (by omega), if_neg (by omega)]
    simp only [a1, true_and]
  have ec : ((b0 % 8 * 64 + b1 % 64) * 64 + b2 % 64) * 64 + b3 % 64 = b0 % 8 * 262144 + b1 % 64 * 4096 + b2 % 64 * 64 + b3 % 64 := by omega
  unfold refN; rw [e, ec]
  generalize hC : b0 % 8 * 262144 + b1 % 64 * 4096 + b2 % 64 * 64 + b3 % 64 = C
  simp only [okC, contB, decide_eq_true_eq]
  repeat' split
  all_goals first | rfl | (exfalso; omega) | (exfalso; simp_all <;> omega)

/-- what told decides -/
theorem noR_iff (l : List UInt8) (hne : l ≠ []) (h : (decodeL l).1 = 65533) : NoR l ↔ hasPrefix l [239, 191, 189] = false := by
  constructor
  · intro hn
    cases hp : hasPrefix l [239, 191, 189]
    · rfl
    · exfalso
      obtain ⟨t, rfl⟩ : ∃ t, l = 239 :: 191 :: 189 :: t := by
        match l, hp with
        | a :: b :: c :: t, hp => simp [hasPrefix] at hp; obtain ⟨rfl, rfl, rfl⟩ := hp; exact ⟨t, rfl⟩
        | [], hp => simp [hasPrefix] at hp
        | [_], hp => simp [hasPrefix] at hp
        | [_, _], hp => simp [hasPrefix] at hp
      have h2 := hn.2
      rw [decodeL_N] at h2
      have e : decodeN (t.length + 3) 239 191 189 ((239 :: 191 :: 189 :: t : List UInt8).getD 3 0).toNat = (65533, 3) := by
        unfold decodeN
        rw [if_neg (by omega), if_neg (by omega), if_pos (by omega), if_pos (by omega)]
      have e2 : decodeN (239 :: 191 :: 189 :: t : List UInt8).length ((239 :: 191 :: 189 :: t : List UInt8).getD 0 0).toNat ((239 :: 191 :: 189 :: t : List UInt8).getD 1 0).toNat ((239 :: 191 :: 189 :: t : List UInt8).getD 2 0).toNat ((239 :: 191 :: 189 :: t : List UInt8).getD 3 0).toNat = (65533, 3) := e
      rw [e2] at h2
      exact absurd h2 (by decide)
  · intro hp
    by_cases hn : NoR l
    · exact hn
    · exfalso
      have he := encode_decode l hne hn
      rw [h] at he
      have e : encodeRune ((65533 : Nat) : Int) = [239, 191, 189] := by decide
      rw [e] at he
      have hl : l = [239, 191, 189] ++ l.drop (decodeL l).2 := by rw [he, List.take_append_drop]
      rw [hl] at hp
      simp [hasPrefix] at hp
end Go.Proofs.YtpleminoiodmgaaDoor
