/- Texts put together: JrP. -/
import Derived.Test.YtkbcbikilgcckaaGreatDoorZ3b60d505ed
import Derived.Test.YtkbcbikilgcckaaGreatDoorZe0ec6b32e3
import Derived.Test.YtkbcbikilgcckaaGreatDoorZc2c2f53193
import Derived.Lib.Hide
import Derived.WalkLawsBesides
import Derived.Test.YtkbcbikilgcckaaGreatDoorZ6b0aa5551a
import Derived.Deep.Cut
namespace Go.Proofs.YtkbcbikilgcckaaGreatDoor
open Go.ChangeShapes Go.WideShapes Go.ChangeAt Go.RowKit Go.IntWalk
set_option linter.unusedVariables false
set_option maxRecDepth 100000

section
variable {P : Program} {ops : Array Oper} {W0 : World} {Q : Act → Prop} {o : Oper} {rest : List Oper} {Rs : List (Value → Prop)} {a : Act}
/-- A load of one cell. -/
theorem ls_cell (v : Value) (b off : Nat) (hc : W0.cell? ⟨b, off, none⟩ = some v) (hb : b < W0.heap.size) (hw : Region.wanted o (yielded ops a.tmps) = true)
    (h1 : ∀ W, W.cell? ⟨b, off, none⟩ = some v → (execOp a.eval o).run P W = .ok (.value v) W) (h2 : wpLs P ops (fun w' => Below W0.heap.size W0 w') Q rest Rs (a.put o.dst v)) :
    wpLs P ops (fun w' => Below W0.heap.size W0 w') Q (o :: rest) ((· = v) :: Rs) a :=
  ls_exact hw (fun W hW => by unfold lsAt; rw [h1 W ((hW.cell (p := ⟨b, off, none⟩) hb).trans hc)]; exact ⟨rfl, rfl⟩) h2
/-- A call whose contract hangs on what lay there. -/
theorem ls_callb (x : Value) (f : FuncId) (args : Array Value) (hw : Region.wanted o (yielded ops a.tmps) = true) (he : ∀ W, (execOp a.eval o).run P W = .ok (.enter f args) W)
    (hc : ∀ W, Below W0.heap.size W0 W → Calls P f args W (fun e W' => e = .returned x ∧ Below W.heap.size W W')) (h2 : wpLs P ops (fun w' => Below W0.heap.size W0 w') Q rest Rs (a.put o.dst x)) :
    wpLs P ops (fun w' => Below W0.heap.size W0 w') Q (o :: rest) ((· = x) :: Rs) a :=
  ls_cons (w0 := W0) (Below.refl _ _) hw (fun W hW => by
    unfold lsAt
    rw [he]
    exact ⟨rfl, (hc W hW).mono fun e W' ⟨he, hb⟩ => ⟨x, he, rfl, hW.then_ hb⟩⟩) (fun v hv => by subst hv; exact h2)
end
theorem size_valF : (Tryz.prog.info? 25).map (·.size) = some 6 := by kernel_rfl
def prvK (t : JT) (i : Nat) : Option (List UInt8) := if i = 0 then none else some (t.fall (i - 1)).key
def ordB (t : JT) (i : Nat) : Bool := match prvK t i with | none => true | some p => Op.bytesLess p (t.fall i).key
theorem risF_stepM (t : JT) (i : Nat) (h : i < t.ext) : risF true (prvK t i) (t.fall i) = (ordB t i && (risV (t.fall i).val && risF true (prvK t (i + 1)) (t.fall (i + 1)))) := by
  have e : prvK t (i + 1) = some (t.fall i).key := by simp [prvK]
  rw [e]
  unfold ordB
  conv => lhs; rw [t.fall_of_lt i h]
  unfold JT.one risV
  cases prvK t i <;> simp [risF, Bool.and_assoc]
theorem risF_stepL (t : JT) (i : Nat) (p : Option (List UInt8)) (h : i < t.ext) : risF false p (t.fall i) = (risV (t.fall i).val && risF false (some (t.fall i).key) (t.fall (i + 1))) := by
  conv => lhs; rw [t.fall_of_lt i h]
  unfold JT.one risV
  cases p <;> simp [risF, Bool.and_assoc]
theorem risF_any : ∀ (t : JT) (p q : Option (List UInt8)), risF false p t = risF false q t
  | .nil, _, _ => rfl
  | .cons k kd is n s l m r, p, q => by cases p <;> cases q <;> simp [risF]
theorem risF_end (mem : Bool) (t : JT) (p : Option (List UInt8)) : risF mem p (t.fall t.ext) = true := by rw [JT.fall_all t _ (Nat.le_refl _)]; rfl
def RisC (N : Nat) : Prop := ∀ (jv : Jv) (w : World) (A B : Option Addr) (nl cl nm cm : Nat), jv.bulk ≤ N → VOk w jv A B nl cl nm cm →
  Calls Tryz.prog 7 #[.agg #[.int .i64 jv.kd, .bool jv.is, .int .i64 jv.n, .string ⟨jv.s.toArray⟩, .slice A nl cl, .slice B nm cm]] w fun e w' => e = .returned (.bool (risV jv)) ∧ Below w.heap.size w w'
set_option maxHeartbeats 8000000 in
theorem rises_calls : ∀ N, RisC N := by
  intro N
  induction N with
  | zero => intro jv w A B nl cl nm cm h; unfold Jv.bulk at h; omega
  | succ N IH =>
    intro jv w A B nl cl nm cm hN hv
    have hlN : jv.l.bulk ≤ N := by unfold Jv.bulk at hN; omega
    have hmN : jv.m.bulk ≤ N := by unfold Jv.bulk at hN; omega
    obtain ⟨kd, is, n, s, l, m⟩ := jv
    dsimp only at *
    obtain ⟨rl, rm, sl, sm, hf⟩ := hv
    dsimp only at *
    obtain ⟨hnl, hlc, hlm⟩ := rl
    obtain ⟨hnm, hmc, hmm⟩ := rm
    have HRS := Lib.hid (And.intro sl sm)
    have HLN := Lib.hid hnl
    have HMN := Lib.hid hnm
    obtain ⟨R1, hR1⟩ : ∃ R1, risF true none m = R1 := ⟨_, rfl⟩
    obtain ⟨R2, hR2⟩ : ∃ R2, risF false none l = R2 := ⟨_, rfl⟩
    have HRV := Lib.hid (show risV ⟨kd, is, n, s, l, m⟩ = (R1 && R2) by unfold risV; rw [hR1, hR2])
    have HR1 := Lib.hid (show R1 = risF true (prvK m 0) (m.fall 0) by rw [JT.fall_zero]; exact hR1.symm)
    have HR2 := Lib.hid (show R2 = risF false none (l.fall 0) by rw [JT.fall_zero]; exact hR2.symm)
    have hbw : Below w.heap.size w (w.alloc (.cells #[.int .i64 kd, .bool is, .int .i64 n, .string ⟨s.toArray⟩, .slice A nl cl, .slice B nm cm] 25)) := (Below.refl _ _).alloc (Nat.le_refl _) _
    have HB0 := Lib.hid hbw
    have BX0 := Lib.hid (Blk.new w [.int .i64 kd, .bool is, .int .i64 n, .string ⟨s.toArray⟩, .slice A nl cl, .slice B nm cm] 25)
    clear sl sm hnl hnm hR1 hR2 hbw hf
    go_enter Tryz.func7, Tryz.ntmps7
    go_wp2_with fail
    go_loopw [10] (fun iv wr => ∃ k : Nat, k ≤ nm ∧ iv = .int .i64 (k : Int) ∧ Hid (Below w.heap.size w wr) ∧ Hid (Blk wr w.heap.size 25 [.int .i64 kd, .bool is, .int .i64 n, .string ⟨s.toArray⟩, .slice A nl cl, .slice B nm cm]) ∧ Hid (R1 = risF true (prvK m k) (m.fall k))) (fun iv _ => nm - (intOf iv).toNat)
    case atStart => exact ⟨0, Nat.zero_le _, rfl, HB0, BX0, HR1⟩
    case round =>
      obtain ⟨k, hk, rfl, hW, hBk, hS⟩ := hrel
      clear HB0 BX0 HR1
      by_cases hlt : k < nm
      · have hkx : k < m.ext := by rw [← HMN.out]; exact hlt
        obtain ⟨eb, eo, eA, enl, ecl, eB, enm, ecm, rfl, eP, ebl, eK, eKl, e0, e1, e2, e3, e4, e5, r1, r2, s1, s2, hf⟩ := (HRS.out.2.up hW.out).mb _ hkx
        obtain ⟨eu, hev⟩ : ∃ eu, (m.fall k).val = eu := ⟨_, rfl⟩
        obtain ⟨ek, hek⟩ : ∃ ek, (m.fall k).key = ek := ⟨_, rfl⟩
        have hbe : eu.bulk ≤ N := by rw [← hev]; exact Nat.le_trans (JT.bulk_val m k hkx) hmN
        have HS1 := Lib.hid (show R1 = (ordB m k && (risV eu && risF true (prvK m (k + 1)) (m.fall (k + 1)))) by rw [hS.out, risF_stepM m k hkx, hev])
        rw [hev] at e0 e1 e2 e3 r1 r2 s1 s2 hf
        rw [hek] at eK
        have hb2 : Below wr.heap.size wr (wr.alloc (.cells #[.string ⟨ek.toArray⟩, .int .i64 eu.kd, .bool eu.is, .int .i64 eu.n, .string ⟨eu.s.toArray⟩, .slice eA enl ecl, .slice eB enm ecm] 42)) := (Below.refl _ _).alloc (Nat.le_refl _) _
        have HB2 := Lib.hid hb2
        have HW2 := Lib.hid (hW.out.then_ hb2)
        have HBK2 := Lib.hid (hBk.out.alloc (.cells #[.string ⟨ek.toArray⟩, .int .i64 eu.kd, .bool eu.is, .int .i64 eu.n, .string ⟨eu.s.toArray⟩, .slice eA enl ecl, .slice eB enm ecm] 42))
        have d5 := HBK2.out.cell (k := 5) rfl
        have HV := fun W (hd : Below wr.heap.size wr W) => IH eu W eA eB enl ecl enm ecm hbe ⟨r1, r2, s1.up hd, s2.up hd, hf⟩
        have HVV := Lib.hid HV
        have HEK := Lib.hid hek
        have HMB := Lib.hid (Blk.new wr [.string ⟨ek.toArray⟩, .int .i64 eu.kd, .bool eu.is, .int .i64 eu.n, .string ⟨eu.s.toArray⟩, .slice eA enl ecl, .slice eB enm ecm] 42)
        have HMR := Lib.hid (HMB.out.rngAt 1 6)
        have m0 := HMB.out.cell (k := 0) rfl
        have HMB := Lib.hid (Blk.new wr [.string ⟨ek.toArray⟩, .int .i64 eu.kd, .bool eu.is, .int .i64 eu.n, .string ⟨eu.s.toArray⟩, .slice eA enl ecl, .slice eB enm ecm] 42)
        have HMR := Lib.hid (HMB.out.rngAt 1 6)
        have m0 := HMB.out.cell (k := 0) rfl
        clear eP eKl r1 r2 s1 s2 hf hev hek hb2 HV hkx
        by_cases hk0 : 0 < k
        · have hk1 : decide (0 < k) = true := by simpa using hk0
          obtain ⟨qb, qo, _, _, _, _, _, _, qe, _, qbl, p0, prest⟩ := (HRS.out.2.up hW.out).mb (i := k - 1) _ (by rw [← HMN.out]; omega)
          clear prest
          injection qe with qe; injection qe with qe1 qe2
          subst qe1; subst qe2
          obtain ⟨pk, hpk⟩ : ∃ pk, (m.fall (k - 1)).key = pk := ⟨_, rfl⟩
          rw [hpk] at p0
          have hwk : IntKind.i64.wrap ((k : Int) - 1) = ((k - 1 : Nat) : Int) := by rw [IntWalk.i64_in _ (by omega)]; omega
          have HO := Lib.hid (show ordB m k = Op.bytesLess pk ek by unfold ordB prvK; rw [if_neg (by omega)]; dsimp only; rw [hpk, HEK.out])
          have p2 := (HB2.out.cell (p := ⟨eb, eo + (k - 1) * 7, none⟩) qbl).trans p0
          have HEBL := Lib.hid (Nat.lt_of_lt_of_le qbl HB2.out.size)
          have hkm : k - 1 < nm := by omega
          clear hk0 hpk p0
          cases hle : Op.bytesLess pk ek with
          | false =>
            have HF := Lib.hid (show R1 = false by rw [HS1.out, HO.out, hle]; rfl)
            go_upto_region 4 with fail
            apply wp_region_ls (by kernel_rfl) (by kernel_rfl)
            apply ls_move (.int .i64 (k : Int)) (.tmp 3) rfl rfl rfl
            simp only [Act.put, List.setIfInBounds_toArray, List.set_cons_succ, List.set_cons_zero]
            apply ls_pure (.bool true) rfl (by intro W; go_simp)
            simp only [Act.put, List.setIfInBounds_toArray, List.set_cons_succ, List.set_cons_zero]
            apply ls_move (.bool true) (.tmp 16) rfl rfl rfl
            simp only [Act.put, List.setIfInBounds_toArray, List.set_cons_succ, List.set_cons_zero]
            apply ls_pure (.pointer (some ⟨w.heap.size, 5, none⟩)) rfl (by intro W; go_simp)
            simp only [Act.put, List.setIfInBounds_toArray, List.set_cons_succ, List.set_cons_zero]
            apply ls_cell (.slice (some ⟨eb, eo, none⟩) nm cm) w.heap.size 5 d5 HBK2.out.lt rfl (by intro W hW; go_simp)
            simp only [Act.put, List.setIfInBounds_toArray, List.set_cons_succ, List.set_cons_zero]
            apply ls_move (.int .i64 (k : Int)) (.tmp 3) rfl rfl rfl
            simp only [Act.put, List.setIfInBounds_toArray, List.set_cons_succ, List.set_cons_zero]
            apply ls_pure (.int .i64 ((k - 1 : Nat) : Int)) rfl (by intro W; go_simp)
            simp only [Act.put, List.setIfInBounds_toArray, List.set_cons_succ, List.set_cons_zero]
            apply ls_pure (.pointer (some ⟨eb, eo + (k - 1) * 7, none⟩)) rfl (by intro W; go_simp)
            simp only [Act.put, List.setIfInBounds_toArray, List.set_cons_succ, List.set_cons_zero]
            apply ls_pure (.pointer (some ⟨eb, eo + (k - 1) * 7, none⟩)) rfl (by intro W; go_simp)
            simp only [Act.put, List.setIfInBounds_toArray, List.set_cons_succ, List.set_cons_zero]
            apply ls_cell (.string ⟨pk.toArray⟩) eb (eo + (k - 1) * 7) p2 HEBL.out rfl (by intro W hW; go_simp)
            simp only [Act.put, List.setIfInBounds_toArray, List.set_cons_succ, List.set_cons_zero]
            apply ls_pure (.pointer (some ⟨wr.heap.size, 0, none⟩)) rfl (by intro W; go_simp)
            simp only [Act.put, List.setIfInBounds_toArray, List.set_cons_succ, List.set_cons_zero]
            apply ls_cell (.string ⟨ek.toArray⟩) wr.heap.size 0 m0 HMB.out.lt rfl (by intro W hW; go_simp)
            simp only [Act.put, List.setIfInBounds_toArray, List.set_cons_succ, List.set_cons_zero]
            apply ls_pure (.bool true) rfl (by intro W; go_simp)
            simp only [Act.put, List.setIfInBounds_toArray, List.set_cons_succ, List.set_cons_zero]
            apply ls_pure (.bool true) rfl (by intro W; go_simp)
            simp only [Act.put, List.setIfInBounds_toArray, List.set_cons_succ, List.set_cons_zero]
            apply ls_move (.bool true) (.tmp 28) rfl rfl rfl
            simp only [Act.put, List.setIfInBounds_toArray, List.set_cons_succ, List.set_cons_zero]
            apply ls_skip rfl
            simp only [Act.put, List.setIfInBounds_toArray, List.set_cons_succ, List.set_cons_zero]
            apply ls_skip rfl
            simp only [Act.put, List.setIfInBounds_toArray, List.set_cons_succ, List.set_cons_zero]
            apply ls_skip rfl
            simp only [Act.put, List.setIfInBounds_toArray, List.set_cons_succ, List.set_cons_zero]
            apply ls_skip rfl
            simp only [Act.put, List.setIfInBounds_toArray, List.set_cons_succ, List.set_cons_zero]
            apply ls_pure (.bool true) rfl (by intro W; go_simp)
            simp only [Act.put, List.setIfInBounds_toArray, List.set_cons_succ, List.set_cons_zero]
            refine ls_nil (Rs := []) ?_
            intro w4 b4
            have HW4 := Lib.hid (HW2.out.then_ b4)
            have HBK4 := Lib.hid (HBK2.out.later b4)
            clear b4
            go_wp2_with fail
            go_ret
            rw [HRV.out, HF.out]
            exact ⟨rfl, HW4.out⟩
          | true =>
            have HF := Lib.hid (show R1 = (risV eu && risF true (prvK m (k + 1)) (m.fall (k + 1))) by rw [HS1.out, HO.out, hle]; rfl)
            have HV2' := fun W (hd : Below (wr.alloc (.cells #[.string ⟨ek.toArray⟩, .int .i64 eu.kd, .bool eu.is, .int .i64 eu.n, .string ⟨eu.s.toArray⟩, .slice eA enl ecl, .slice eB enm ecm] 42)).heap.size (wr.alloc (.cells #[.string ⟨ek.toArray⟩, .int .i64 eu.kd, .bool eu.is, .int .i64 eu.n, .string ⟨eu.s.toArray⟩, .slice eA enl ecl, .slice eB enm ecm] 42)) W) => HVV.out W (HB2.out.then_ hd)
            cases hrv : risV eu with
            | false =>
              have HF2 := Lib.hid (show R1 = false by rw [HF.out, hrv]; rfl)
              rw [hrv] at HV2'
              have HV2 := HV2'
              clear hrv
              go_upto_region 4 with fail
              apply wp_region_ls (by kernel_rfl) (by kernel_rfl)
              apply ls_move (.int .i64 (k : Int)) (.tmp 3) rfl rfl rfl
              simp only [Act.put, List.setIfInBounds_toArray, List.set_cons_succ, List.set_cons_zero]
              apply ls_pure (.bool true) rfl (by intro W; go_simp)
              simp only [Act.put, List.setIfInBounds_toArray, List.set_cons_succ, List.set_cons_zero]
              apply ls_move (.bool true) (.tmp 16) rfl rfl rfl
              simp only [Act.put, List.setIfInBounds_toArray, List.set_cons_succ, List.set_cons_zero]
              apply ls_pure (.pointer (some ⟨w.heap.size, 5, none⟩)) rfl (by intro W; go_simp)
              simp only [Act.put, List.setIfInBounds_toArray, List.set_cons_succ, List.set_cons_zero]
              apply ls_cell (.slice (some ⟨eb, eo, none⟩) nm cm) w.heap.size 5 d5 HBK2.out.lt rfl (by intro W hW; go_simp)
              simp only [Act.put, List.setIfInBounds_toArray, List.set_cons_succ, List.set_cons_zero]
              apply ls_move (.int .i64 (k : Int)) (.tmp 3) rfl rfl rfl
              simp only [Act.put, List.setIfInBounds_toArray, List.set_cons_succ, List.set_cons_zero]
              apply ls_pure (.int .i64 ((k - 1 : Nat) : Int)) rfl (by intro W; go_simp)
              simp only [Act.put, List.setIfInBounds_toArray, List.set_cons_succ, List.set_cons_zero]
              apply ls_pure (.pointer (some ⟨eb, eo + (k - 1) * 7, none⟩)) rfl (by intro W; go_simp)
              simp only [Act.put, List.setIfInBounds_toArray, List.set_cons_succ, List.set_cons_zero]
              apply ls_pure (.pointer (some ⟨eb, eo + (k - 1) * 7, none⟩)) rfl (by intro W; go_simp)
              simp only [Act.put, List.setIfInBounds_toArray, List.set_cons_succ, List.set_cons_zero]
              apply ls_cell (.string ⟨pk.toArray⟩) eb (eo + (k - 1) * 7) p2 HEBL.out rfl (by intro W hW; go_simp)
              simp only [Act.put, List.setIfInBounds_toArray, List.set_cons_succ, List.set_cons_zero]
              apply ls_pure (.pointer (some ⟨wr.heap.size, 0, none⟩)) rfl (by intro W; go_simp)
              simp only [Act.put, List.setIfInBounds_toArray, List.set_cons_succ, List.set_cons_zero]
              apply ls_cell (.string ⟨ek.toArray⟩) wr.heap.size 0 m0 HMB.out.lt rfl (by intro W hW; go_simp)
              simp only [Act.put, List.setIfInBounds_toArray, List.set_cons_succ, List.set_cons_zero]
              apply ls_pure (.bool false) rfl (by intro W; go_simp)
              simp only [Act.put, List.setIfInBounds_toArray, List.set_cons_succ, List.set_cons_zero]
              apply ls_pure (.bool false) rfl (by intro W; go_simp)
              simp only [Act.put, List.setIfInBounds_toArray, List.set_cons_succ, List.set_cons_zero]
              apply ls_move (.bool false) (.tmp 28) rfl rfl rfl
              simp only [Act.put, List.setIfInBounds_toArray, List.set_cons_succ, List.set_cons_zero]
              apply ls_pure (.pointer (some ⟨wr.heap.size, 1, none⟩)) rfl (by intro W; go_simp)
              simp only [Act.put, List.setIfInBounds_toArray, List.set_cons_succ, List.set_cons_zero]
              apply ls_load 25 (.tmp 30) rfl wr.heap.size 1 [.int .i64 eu.kd, .bool eu.is, .int .i64 eu.n, .string ⟨eu.s.toArray⟩, .slice eA enl ecl, .slice eB enm ecm] _ HMR.out HMB.out.lt Tryz.underlying25 rfl size_valF rfl rfl
              simp only [Act.put, List.setIfInBounds_toArray, List.set_cons_succ, List.set_cons_zero]
              apply ls_callb (.bool false) 7 #[.agg #[.int .i64 eu.kd, .bool eu.is, .int .i64 eu.n, .string ⟨eu.s.toArray⟩, .slice eA enl ecl, .slice eB enm ecm]] rfl (by intro W; go_simp) HV2
              simp only [Act.put, List.setIfInBounds_toArray, List.set_cons_succ, List.set_cons_zero]
              apply ls_pure (.bool true) rfl (by intro W; go_simp)
              simp only [Act.put, List.setIfInBounds_toArray, List.set_cons_succ, List.set_cons_zero]
              apply ls_pure (.bool true) rfl (by intro W; go_simp)
              simp only [Act.put, List.setIfInBounds_toArray, List.set_cons_succ, List.set_cons_zero]
              refine ls_nil (Rs := []) ?_
              intro w4 b4
              have HW4 := Lib.hid (HW2.out.then_ b4)
              have HBK4 := Lib.hid (HBK2.out.later b4)
              clear b4
              go_wp2_with fail
              go_ret
              rw [HRV.out, HF2.out]
              exact ⟨rfl, HW4.out⟩
            | true =>
              have HF2 := Lib.hid (show R1 = risF true (prvK m (k + 1)) (m.fall (k + 1)) by rw [HF.out, hrv]; rfl)
              rw [hrv] at HV2'
              have HV2 := HV2'
              clear hrv
              go_upto_region 4 with fail
              apply wp_region_ls (by kernel_rfl) (by kernel_rfl)
              apply ls_move (.int .i64 (k : Int)) (.tmp 3) rfl rfl rfl
              simp only [Act.put, List.setIfInBounds_toArray, List.set_cons_succ, List.set_cons_zero]
              apply ls_pure (.bool true) rfl (by intro W; go_simp)
              simp only [Act.put, List.setIfInBounds_toArray, List.set_cons_succ, List.set_cons_zero]
              apply ls_move (.bool true) (.tmp 16) rfl rfl rfl
              simp only [Act.put, List.setIfInBounds_toArray, List.set_cons_succ, List.set_cons_zero]
              apply ls_pure (.pointer (some ⟨w.heap.size, 5, none⟩)) rfl (by intro W; go_simp)
              simp only [Act.put, List.setIfInBounds_toArray, List.set_cons_succ, List.set_cons_zero]
              apply ls_cell (.slice (some ⟨eb, eo, none⟩) nm cm) w.heap.size 5 d5 HBK2.out.lt rfl (by intro W hW; go_simp)
              simp only [Act.put, List.setIfInBounds_toArray, List.set_cons_succ, List.set_cons_zero]
              apply ls_move (.int .i64 (k : Int)) (.tmp 3) rfl rfl rfl
              simp only [Act.put, List.setIfInBounds_toArray, List.set_cons_succ, List.set_cons_zero]
              apply ls_pure (.int .i64 ((k - 1 : Nat) : Int)) rfl (by intro W; go_simp)
              simp only [Act.put, List.setIfInBounds_toArray, List.set_cons_succ, List.set_cons_zero]
              apply ls_pure (.pointer (some ⟨eb, eo + (k - 1) * 7, none⟩)) rfl (by intro W; go_simp)
              simp only [Act.put, List.setIfInBounds_toArray, List.set_cons_succ, List.set_cons_zero]
              apply ls_pure (.pointer (some ⟨eb, eo + (k - 1) * 7, none⟩)) rfl (by intro W; go_simp)
              simp only [Act.put, List.setIfInBounds_toArray, List.set_cons_succ, List.set_cons_zero]
              apply ls_cell (.string ⟨pk.toArray⟩) eb (eo + (k - 1) * 7) p2 HEBL.out rfl (by intro W hW; go_simp)
              simp only [Act.put, List.setIfInBounds_toArray, List.set_cons_succ, List.set_cons_zero]
              apply ls_pure (.pointer (some ⟨wr.heap.size, 0, none⟩)) rfl (by intro W; go_simp)
              simp only [Act.put, List.setIfInBounds_toArray, List.set_cons_succ, List.set_cons_zero]
              apply ls_cell (.string ⟨ek.toArray⟩) wr.heap.size 0 m0 HMB.out.lt rfl (by intro W hW; go_simp)
              simp only [Act.put, List.setIfInBounds_toArray, List.set_cons_succ, List.set_cons_zero]
              apply ls_pure (.bool false) rfl (by intro W; go_simp)
              simp only [Act.put, List.setIfInBounds_toArray, List.set_cons_succ, List.set_cons_zero]
              apply ls_pure (.bool false) rfl (by intro W; go_simp)
              simp only [Act.put, List.setIfInBounds_toArray, List.set_cons_succ, List.set_cons_zero]
              apply ls_move (.bool false) (.tmp 28) rfl rfl rfl
              simp only [Act.put, List.setIfInBounds_toArray, List.set_cons_succ, List.set_cons_zero]
              apply ls_pure (.pointer (some ⟨wr.heap.size, 1, none⟩)) rfl (by intro W; go_simp)
              simp only [Act.put, List.setIfInBounds_toArray, List.set_cons_succ, List.set_cons_zero]
              apply ls_load 25 (.tmp 30) rfl wr.heap.size 1 [.int .i64 eu.kd, .bool eu.is, .int .i64 eu.n, .string ⟨eu.s.toArray⟩, .slice eA enl ecl, .slice eB enm ecm] _ HMR.out HMB.out.lt Tryz.underlying25 rfl size_valF rfl rfl
              simp only [Act.put, List.setIfInBounds_toArray, List.set_cons_succ, List.set_cons_zero]
              apply ls_callb (.bool true) 7 #[.agg #[.int .i64 eu.kd, .bool eu.is, .int .i64 eu.n, .string ⟨eu.s.toArray⟩, .slice eA enl ecl, .slice eB enm ecm]] rfl (by intro W; go_simp) HV2
              simp only [Act.put, List.setIfInBounds_toArray, List.set_cons_succ, List.set_cons_zero]
              apply ls_pure (.bool false) rfl (by intro W; go_simp)
              simp only [Act.put, List.setIfInBounds_toArray, List.set_cons_succ, List.set_cons_zero]
              apply ls_pure (.bool false) rfl (by intro W; go_simp)
              simp only [Act.put, List.setIfInBounds_toArray, List.set_cons_succ, List.set_cons_zero]
              refine ls_nil (Rs := []) ?_
              intro w4 b4
              have HW4 := Lib.hid (HW2.out.then_ b4)
              have HBK4 := Lib.hid (HBK2.out.later b4)
              clear b4
              go_wp2_with fail
              go_roundw
              case rel => exact ⟨k + 1, by omega, by go_num, HW4, HBK4, HF2⟩
              case measure => simp [intOf]; omega
        · have hk1 : decide (0 < k) = false := by simpa using hk0
          have HF := Lib.hid (show R1 = (risV eu && risF true (prvK m (k + 1)) (m.fall (k + 1))) by rw [HS1.out, show ordB m k = true by unfold ordB prvK; rw [if_pos (by omega)]]; rfl)
          clear hk0
          have HV2' := fun W (hd : Below (wr.alloc (.cells #[.string ⟨ek.toArray⟩, .int .i64 eu.kd, .bool eu.is, .int .i64 eu.n, .string ⟨eu.s.toArray⟩, .slice eA enl ecl, .slice eB enm ecm] 42)).heap.size (wr.alloc (.cells #[.string ⟨ek.toArray⟩, .int .i64 eu.kd, .bool eu.is, .int .i64 eu.n, .string ⟨eu.s.toArray⟩, .slice eA enl ecl, .slice eB enm ecm] 42)) W) => HVV.out W (HB2.out.then_ hd)
          cases hrv : risV eu with
          | false =>
            have HF2 := Lib.hid (show R1 = false by rw [HF.out, hrv]; rfl)
            rw [hrv] at HV2'
            have HV2 := HV2'
            clear hrv
            go_upto_region 4 with fail
            apply wp_region_ls (by kernel_rfl) (by kernel_rfl)
            apply ls_move (.int .i64 (k : Int)) (.tmp 3) rfl rfl rfl
            simp only [Act.put, List.setIfInBounds_toArray, List.set_cons_succ, List.set_cons_zero]
            apply ls_pure (.bool false) rfl (by intro W; go_simp)
            simp only [Act.put, List.setIfInBounds_toArray, List.set_cons_succ, List.set_cons_zero]
            apply ls_move (.bool false) (.tmp 16) rfl rfl rfl
            simp only [Act.put, List.setIfInBounds_toArray, List.set_cons_succ, List.set_cons_zero]
            apply ls_skip rfl
            simp only [Act.put, List.setIfInBounds_toArray, List.set_cons_succ, List.set_cons_zero]
            apply ls_skip rfl
            simp only [Act.put, List.setIfInBounds_toArray, List.set_cons_succ, List.set_cons_zero]
            apply ls_skip rfl
            simp only [Act.put, List.setIfInBounds_toArray, List.set_cons_succ, List.set_cons_zero]
            apply ls_skip rfl
            simp only [Act.put, List.setIfInBounds_toArray, List.set_cons_succ, List.set_cons_zero]
            apply ls_skip rfl
            simp only [Act.put, List.setIfInBounds_toArray, List.set_cons_succ, List.set_cons_zero]
            apply ls_skip rfl
            simp only [Act.put, List.setIfInBounds_toArray, List.set_cons_succ, List.set_cons_zero]
            apply ls_skip rfl
            simp only [Act.put, List.setIfInBounds_toArray, List.set_cons_succ, List.set_cons_zero]
            apply ls_skip rfl
            simp only [Act.put, List.setIfInBounds_toArray, List.set_cons_succ, List.set_cons_zero]
            apply ls_skip rfl
            simp only [Act.put, List.setIfInBounds_toArray, List.set_cons_succ, List.set_cons_zero]
            apply ls_skip rfl
            simp only [Act.put, List.setIfInBounds_toArray, List.set_cons_succ, List.set_cons_zero]
            apply ls_pure (.bool false) rfl (by intro W; go_simp)
            simp only [Act.put, List.setIfInBounds_toArray, List.set_cons_succ, List.set_cons_zero]
            apply ls_move (.bool false) (.tmp 28) rfl rfl rfl
            simp only [Act.put, List.setIfInBounds_toArray, List.set_cons_succ, List.set_cons_zero]
            apply ls_pure (.pointer (some ⟨wr.heap.size, 1, none⟩)) rfl (by intro W; go_simp)
            simp only [Act.put, List.setIfInBounds_toArray, List.set_cons_succ, List.set_cons_zero]
            apply ls_load 25 (.tmp 30) rfl wr.heap.size 1 [.int .i64 eu.kd, .bool eu.is, .int .i64 eu.n, .string ⟨eu.s.toArray⟩, .slice eA enl ecl, .slice eB enm ecm] _ HMR.out HMB.out.lt Tryz.underlying25 rfl size_valF rfl rfl
            simp only [Act.put, List.setIfInBounds_toArray, List.set_cons_succ, List.set_cons_zero]
            apply ls_callb (.bool false) 7 #[.agg #[.int .i64 eu.kd, .bool eu.is, .int .i64 eu.n, .string ⟨eu.s.toArray⟩, .slice eA enl ecl, .slice eB enm ecm]] rfl (by intro W; go_simp) HV2
            simp only [Act.put, List.setIfInBounds_toArray, List.set_cons_succ, List.set_cons_zero]
            apply ls_pure (.bool true) rfl (by intro W; go_simp)
            simp only [Act.put, List.setIfInBounds_toArray, List.set_cons_succ, List.set_cons_zero]
            apply ls_pure (.bool true) rfl (by intro W; go_simp)
            simp only [Act.put, List.setIfInBounds_toArray, List.set_cons_succ, List.set_cons_zero]
            refine ls_nil (Rs := []) ?_
            intro w4 b4
            have HW4 := Lib.hid (HW2.out.then_ b4)
            have HBK4 := Lib.hid (HBK2.out.later b4)
            clear b4
            go_wp2_with fail
            go_ret
            rw [HRV.out, HF2.out]
            exact ⟨rfl, HW4.out⟩
          | true =>
            have HF2 := Lib.hid (show R1 = risF true (prvK m (k + 1)) (m.fall (k + 1)) by rw [HF.out, hrv]; rfl)
            rw [hrv] at HV2'
            have HV2 := HV2'
            clear hrv
            go_upto_region 4 with fail
            apply wp_region_ls (by kernel_rfl) (by kernel_rfl)
            apply ls_move (.int .i64 (k : Int)) (.tmp 3) rfl rfl rfl
            simp only [Act.put, List.setIfInBounds_toArray, List.set_cons_succ, List.set_cons_zero]
            apply ls_pure (.bool false) rfl (by intro W; go_simp)
            simp only [Act.put, List.setIfInBounds_toArray, List.set_cons_succ, List.set_cons_zero]
            apply ls_move (.bool false) (.tmp 16) rfl rfl rfl
            simp only [Act.put, List.setIfInBounds_toArray, List.set_cons_succ, List.set_cons_zero]
            apply ls_skip rfl
            simp only [Act.put, List.setIfInBounds_toArray, List.set_cons_succ, List.set_cons_zero]
            apply ls_skip rfl
            simp only [Act.put, List.setIfInBounds_toArray, List.set_cons_succ, List.set_cons_zero]
            apply ls_skip rfl
            simp only [Act.put, List.setIfInBounds_toArray, List.set_cons_succ, List.set_cons_zero]
            apply ls_skip rfl
            simp only [Act.put, List.setIfInBounds_toArray, List.set_cons_succ, List.set_cons_zero]
            apply ls_skip rfl
            simp only [Act.put, List.setIfInBounds_toArray, List.set_cons_succ, List.set_cons_zero]
            apply ls_skip rfl
            simp only [Act.put, List.setIfInBounds_toArray, List.set_cons_succ, List.set_cons_zero]
            apply ls_skip rfl
            simp only [Act.put, List.setIfInBounds_toArray, List.set_cons_succ, List.set_cons_zero]
            apply ls_skip rfl
            simp only [Act.put, List.setIfInBounds_toArray, List.set_cons_succ, List.set_cons_zero]
            apply ls_skip rfl
            simp only [Act.put, List.setIfInBounds_toArray, List.set_cons_succ, List.set_cons_zero]
            apply ls_skip rfl
            simp only [Act.put, List.setIfInBounds_toArray, List.set_cons_succ, List.set_cons_zero]
            apply ls_pure (.bool false) rfl (by intro W; go_simp)
            simp only [Act.put, List.setIfInBounds_toArray, List.set_cons_succ, List.set_cons_zero]
            apply ls_move (.bool false) (.tmp 28) rfl rfl rfl
            simp only [Act.put, List.setIfInBounds_toArray, List.set_cons_succ, List.set_cons_zero]
            apply ls_pure (.pointer (some ⟨wr.heap.size, 1, none⟩)) rfl (by intro W; go_simp)
            simp only [Act.put, List.setIfInBounds_toArray, List.set_cons_succ, List.set_cons_zero]
            apply ls_load 25 (.tmp 30) rfl wr.heap.size 1 [.int .i64 eu.kd, .bool eu.is, .int .i64 eu.n, .string ⟨eu.s.toArray⟩, .slice eA enl ecl, .slice eB enm ecm] _ HMR.out HMB.out.lt Tryz.underlying25 rfl size_valF rfl rfl
            simp only [Act.put, List.setIfInBounds_toArray, List.set_cons_succ, List.set_cons_zero]
            apply ls_callb (.bool true) 7 #[.agg #[.int .i64 eu.kd, .bool eu.is, .int .i64 eu.n, .string ⟨eu.s.toArray⟩, .slice eA enl ecl, .slice eB enm ecm]] rfl (by intro W; go_simp) HV2
            simp only [Act.put, List.setIfInBounds_toArray, List.set_cons_succ, List.set_cons_zero]
            apply ls_pure (.bool false) rfl (by intro W; go_simp)
            simp only [Act.put, List.setIfInBounds_toArray, List.set_cons_succ, List.set_cons_zero]
            apply ls_pure (.bool false) rfl (by intro W; go_simp)
            simp only [Act.put, List.setIfInBounds_toArray, List.set_cons_succ, List.set_cons_zero]
            refine ls_nil (Rs := []) ?_
            intro w4 b4
            have HW4 := Lib.hid (HW2.out.then_ b4)
            have HBK4 := Lib.hid (HBK2.out.later b4)
            clear b4
            go_wp2_with fail
            go_roundw
            case rel => exact ⟨k + 1, by omega, by go_num, HW4, HBK4, HF2⟩
            case measure => simp [intOf]; omega
      · obtain rfl : k = nm := by omega
        have HF := Lib.hid (show R1 = true by rw [hS.out, HMN.out, risF_end])
        have d0 := hBk.out.cell (k := 0) rfl; have d1 := hBk.out.cell (k := 1) rfl; have d2 := hBk.out.cell (k := 2) rfl; have d3 := hBk.out.cell (k := 3) rfl; have d4 := hBk.out.cell (k := 4) rfl; have d5 := hBk.out.cell (k := 5) rfl
        go_wp2_with fail
        clear d0 d1 d2 d3 d4 d5
        obtain ⟨wo, hwo⟩ : ∃ wo : World, wo = wr := ⟨_, rfl⟩
        rw [← hwo] at hW hBk ⊢
        clear hwo
        go_loopw [39] (fun iv wr => ∃ q : Nat, q ≤ nl ∧ iv = .int .i64 (q : Int) ∧ Hid (Below w.heap.size w wr) ∧ Hid (R2 = risF false none (l.fall q))) (fun iv _ => nl - (intOf iv).toNat)
        case atStart => exact ⟨0, Nat.zero_le _, rfl, hW, HR2⟩
        case round =>
          obtain ⟨q, hq, rfl, hWq, hSq⟩ := hrel
          by_cases hqt : q < nl
          · have hqx : q < l.ext := by rw [← HLN.out]; exact hqt
            obtain ⟨eb, eo, eA, enl, ecl, eB, enm, ecm, rfl, eP, ebl, e0, e1, e2, e3, e4, e5, r1, r2, s1, s2, hf⟩ := (HRS.out.1.up hWq.out).el _ hqx
            obtain ⟨eu, hev⟩ : ∃ eu, (l.fall q).val = eu := ⟨_, rfl⟩
            have hbe : eu.bulk ≤ N := by rw [← hev]; exact Nat.le_trans (JT.bulk_val l q hqx) hlN
            have HS1 := Lib.hid (show R2 = (risV eu && risF false none (l.fall (q + 1))) by rw [hSq.out, risF_stepL l q none hqx, hev, risF_any _ _ none])
            rw [hev] at e0 e1 e2 e3 r1 r2 s1 s2 hf
            have hb2 : Below wr.heap.size wr (wr.alloc (.cells #[.int .i64 eu.kd, .bool eu.is, .int .i64 eu.n, .string ⟨eu.s.toArray⟩, .slice eA enl ecl, .slice eB enm ecm] 25)) := (Below.refl _ _).alloc (Nat.le_refl _) _
            have HB2 := Lib.hid hb2
            have HW2 := Lib.hid (hWq.out.then_ hb2)
            have HV := IH eu _ eA eB enl ecl enm ecm hbe ⟨r1, r2, s1.up hb2, s2.up hb2, hf⟩
            clear eP r1 r2 s1 s2 hf hev hb2 hqx
            cases hrv : risV eu with
            | false =>
              have HF2 := Lib.hid (show R2 = false by rw [HS1.out, hrv]; rfl)
              rw [hrv] at HV
              clear hrv
              go_wp2_with fail
              refine HV.mono ?_
              rintro e w3 ⟨rfl, b3⟩
              have HW3 := Lib.hid (HW2.out.then_ b3)
              clear b3 HV e0 e1 e2 e3 e4 e5
              go_wp2_with fail
              go_ret
              rw [HRV.out, HF.out, HF2.out]
              exact ⟨rfl, HW3.out⟩
            | true =>
              have HF2 := Lib.hid (show R2 = risF false none (l.fall (q + 1)) by rw [HS1.out, hrv]; rfl)
              rw [hrv] at HV
              clear hrv
              go_wp2_with fail
              refine HV.mono ?_
              rintro e w3 ⟨rfl, b3⟩
              have HW3 := Lib.hid (HW2.out.then_ b3)
              clear b3 HV e0 e1 e2 e3 e4 e5
              go_wp2_with fail
              go_roundw
              case rel => exact ⟨q + 1, by omega, by go_num, HW3, HF2⟩
              case measure => simp [intOf]; omega
          · obtain rfl : q = nl := by omega
            have HF2 := Lib.hid (show R2 = true by rw [hSq.out, HLN.out, risF_end])
            go_wp2_with fail
            go_ret
            rw [HRV.out, HF.out, HF2.out]
            exact ⟨rfl, hWq.out⟩
end Go.Proofs.YtkbcbikilgcckaaGreatDoor
