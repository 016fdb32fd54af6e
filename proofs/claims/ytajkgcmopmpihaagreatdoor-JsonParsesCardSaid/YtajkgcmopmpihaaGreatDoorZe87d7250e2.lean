/- Texts put together: JwS JqC JqE PwA JvG JqP. -/
import Derived.Test.YtajkgcmopmpihaaGreatDoorZ665a42b79f
import Derived.Test.YtajkgcmopmpihaaGreatDoorZb5b127d0ca
import Derived.Stop.LaidErr
import Derived.Test.YtajkgcmopmpihaaGreatDoorZ95f4d1de1b
import Derived.Test.YtajkgcmopmpihaaGreatDoorZa5ea0553f9
import Derived.Test.YtajkgcmopmpihaaGreatDoorZb4a9d0ce6f
import Derived.StillTailTactics
import Derived.Lib.Hide
import Derived.WalkLawsBesides
import Derived.Test.YtajkgcmopmpihaaGreatDoorZa2872facd2
import Derived.Deep.Cut
namespace Go.Proofs.YtajkgcmopmpihaaGreatDoor
open Go.ChangeShapes Go.WideShapes Go.ChangeAt Go.RowKit Go.IntWalk
set_option linter.unusedVariables false

/-- The tables that the row lists: the powers of ten alone are read here. -/
def TabJ (w : World) : Prop := 3 < w.heap.size ∧ Lib.TabIs Tryz.prog w "internal/strconv.uint64pow10" .u64 Lib.pow10Tab
theorem TabJ.pow {w : World} (h : TabJ w) : PowT w.heap.size w := h
theorem TabJ.below {w w' : World} (h : TabJ w) (b : Below w.heap.size w w') : TabJ w' :=
  ⟨Nat.lt_of_lt_of_le h.1 b.size, (PowT.blw (base := w.heap.size) h b).2⟩
end Go.Proofs.YtajkgcmopmpihaaGreatDoor
namespace Go.Proofs.YtajkgcmopmpihaaGreatDoor
open Go.ChangeShapes Go.WideShapes Go.ChangeAt Go.RowKit Go.IntWalk
set_option linter.unusedVariables false
set_option maxRecDepth 100000

theorem ErrC.later {w w' : World} (h : ErrC w) (hb : Below w.heap.size w w') : ErrC w' := h.below hb h.1
theorem parse_at {s : List UInt8} {v : Jv} {x : Int} (w : World) (hp : parF s = (v, x)) (hE : ErrC w) (hl : s.length ≤ 140737488355328) : Calls Tryz.prog 8 #[.string ⟨s.toArray⟩] w fun e w' =>
    ∃ A B nl cl nm cm, e = .returned (.tuple #[.agg #[.int .i64 v.kd, .bool v.is, .int .i64 v.n, .string ⟨v.s.toArray⟩, .slice A nl cl, .slice B nm cm], .int .i64 x]) ∧ VOk w' v A B nl cl nm cm ∧ VPar (fun b => w.heap.size ≤ b ∧ b < w'.heap.size) w' v A B nl cl nm cm ∧ Below w.heap.size w w' := by
  refine (parse_calls s w hE hl).mono ?_
  rintro e w' ⟨A, B, nl, cl, nm, cm, rfl, hv, hb⟩
  rw [hp] at hv ⊢
  exact ⟨A, B, nl, cl, nm, cm, rfl, VPar.ok hv (fun b hb => hb.2), hv, hb⟩
/-- What the row lists: the powers of ten, strconv's two variables. -/
def TabP (w : World) : Prop := TabJ w ∧ ErrC w
theorem TabP.below {w w' : World} (h : TabP w) (b : Below w.heap.size w w') : TabP w' := ⟨h.1.below b, h.2.later b⟩
end Go.Proofs.YtajkgcmopmpihaaGreatDoor
namespace Go.Proofs.YtajkgcmopmpihaaGreatDoor
open Go.ChangeShapes Go.WideShapes Go.ChangeAt Go.RowKit Go.IntWalk
set_option linter.unusedVariables false
set_option maxRecDepth 100000

def synD : DataW Unit := .iface "*errors.errorString" (.ptr (.agg [.lit (.string [105, 110, 118, 97, 108, 105, 100, 32, 115, 121, 110, 116, 97, 120])]))
def rngD : DataW Unit := .iface "*errors.errorString" (.ptr (.agg [.lit (.string [118, 97, 108, 117, 101, 32, 111, 117, 116, 32, 111, 102, 32, 114, 97, 110, 103, 101])]))
theorem gSyn : Tryz.prog.globalNamed "strconv.ErrSyntax" = some 1 := by kernel_rfl
theorem gSynT : (Tryz.prog.globals[1]?).map (·.type) = some 110 := by kernel_rfl
theorem gRng : Tryz.prog.globalNamed "strconv.ErrRange" = some 2 := by kernel_rfl
theorem gRngT : (Tryz.prog.globals[2]?).map (·.type) = some 110 := by kernel_rfl
theorem errCells : Tryz.prog.cellsOf 186 = 1 := by kernel_rfl
theorem strCells : Tryz.prog.cellsOf 9 = 1 := by kernel_rfl
theorem starErr : "*" ++ "errors.errorString" = "*errors.errorString" := by decide
theorem errRow (u : TypeId) (h : Tryz.prog.typeName? 3 u = some "*errors.errorString") : u = 184 :=
  typeName_ptr_named (nm := "errors.errorString") (by rw [starErr]; kernel_rfl) (by kernel_rfl) (by decide) u (by rw [starErr]; exact h)
theorem errC_of_laid {W : World} (h1 : laidMet Tryz.prog [("strconv.ErrSyntax", synD)] W) (h2 : laidMet Tryz.prog [("strconv.ErrRange", rngD)] W) : ErrC W := by
  obtain ⟨a1, s1, v1, -, -, -⟩ := laid_sentinel h1 gSyn gSynT Tryz.underlying110 errRow Tryz.underlying184 Tryz.underlying186 rfl rfl Tryz.underlying9 errCells strCells
  obtain ⟨a2, s2, v2, -, -, -⟩ := laid_sentinel h2 gRng gRngT Tryz.underlying110 errRow Tryz.underlying184 Tryz.underlying186 rfl rfl Tryz.underlying9 errCells strCells
  have c1 := World.var?_cell gSyn v1 0
  have c2 := World.var?_cell gRng v2 0
  have c1' : W.cell? ⟨1, 0, none⟩ = some (.iface 184 (.pointer (some a1))) := by simpa using c1
  have c2' : W.cell? ⟨2, 0, none⟩ = some (.iface 184 (.pointer (some a2))) := by simpa using c2
  exact ⟨World.block_lt_of_cell? W _ c2', ⟨_, c1', .inr ⟨_, _, rfl⟩⟩, _, c2', .inr ⟨_, _, rfl⟩⟩
end Go.Proofs.YtajkgcmopmpihaaGreatDoor
namespace Go.Proofs.YtajkgcmopmpihaaGreatDoor
open Go.Lib
set_option linter.unusedVariables false

/-- A row's keys. -/
def JT.keys : JT → List (List UInt8)
  | .nil => []
  | .cons k _ _ _ _ _ _ r => k :: r.keys
def keyP (k : List UInt8) : Pr := (k, [])
def slts (t : JT) : List Slt := t.keys.map fun k => ⟨k, [], []⟩
theorem slts_len : ∀ t : JT, (slts t).length = t.ext
  | .nil => rfl
  | .cons k _ _ _ _ _ _ r => by have := slts_len r; simp [slts, JT.keys, JT.ext] at this ⊢; exact this
theorem slts_at : ∀ (t : JT) (i : Nat) (h : i < (slts t).length), ((slts t)[i]).pr = keyP (t.fall i).key
  | .nil, i, h => absurd h (by simp [slts, JT.keys])
  | .cons k _ _ _ _ _ _ r, 0, h => rfl
  | .cons k _ _ _ _ _ _ r, i + 1, h => by
    have := slts_at r i (by simpa [slts, JT.keys] using h)
    show _ = keyP (r.fall i).key
    simpa [slts, JT.keys] using this
theorem cmpP_key (a b : List UInt8) : cmpP (keyP a) (keyP b) = compareBytes a b := by
  unfold cmpP keyP
  dsimp only
  split
  · rename_i h; rw [h]; rfl
  · rfl
/-- Do the keys rise, in all maps? -/
def risF (mem : Bool) : Option (List UInt8) → JT → Bool
  | _, .nil => true
  | prev, .cons k _ _ _ _ l m r => (match prev with | none => true | some p => !mem || Op.bytesLess p k) && risF true none m && risF false none l && risF mem (some k) r
def risV (v : Jv) : Bool := risF true none v.m && risF false none v.l
theorem rise_of (p : Option (List UInt8)) : ∀ t : JT, risF true p t = true → Rise (slts t) ∧ ∀ q, p = some q → ∀ s ∈ slts t, cmpP (keyP q) s.pr = -1
  | .nil, _ => ⟨List.Pairwise.nil, fun _ _ s hs => by simp [slts, JT.keys] at hs⟩
  | .cons k kd is n s l m r, h => by
    simp only [risF, Bool.and_eq_true, Bool.not_true, Bool.false_or] at h
    obtain ⟨⟨⟨h1, _⟩, _⟩, h4⟩ := h
    obtain ⟨h5, h6⟩ := rise_of (some k) r h4
    have hk : ∀ s ∈ slts r, cmpP (keyP k) s.pr = -1 := h6 k rfl
    refine ⟨List.pairwise_cons.2 ⟨fun b hb => hk b hb, h5⟩, fun q hq s hs => ?_⟩
    subst hq
    have hqk : cmpP (keyP q) (keyP k) = -1 := by
      rw [cmpP_key]
      dsimp only at h1
      rw [bl_cb] at h1
      simpa using h1
    rcases List.mem_cons.1 (show s ∈ (⟨k, [], []⟩ : Slt) :: slts r from hs) with rfl | hs
    · exact hqk
    · exact cmpP_trans hqk (hk s hs)
theorem rise_top {v : Jv} (h : risV v = true) : Rise (slts v.m) := by
  unfold risV at h
  simp only [Bool.and_eq_true] at h
  exact (rise_of none v.m h.1).1
theorem ris_fall (mem : Bool) : ∀ (t : JT) (p : Option (List UInt8)) (i : Nat), risF mem p t = true → i < t.ext → risV (t.fall i).val = true
  | .nil, _, i, _, hi => absurd hi (by simp [JT.ext])
  | .cons k kd is n s l m r, p, 0, h, _ => by
    simp only [risF, Bool.and_eq_true] at h
    simp [risV, JT.fall, JT.val, h]
  | .cons k kd is n s l m r, p, i + 1, h, hi => by
    simp only [risF, Bool.and_eq_true] at h
    exact ris_fall mem r (some k) i h.2 (by simp [JT.ext] at hi; omega)
/-- The value of a key. -/
def JT.findV : JT → List UInt8 → Option Jv
  | .nil, _ => none
  | .cons k kd is n s l m r, key => if k = key then some ⟨kd, is, n, s, l, m⟩ else r.findV key
theorem findV_pos : ∀ {t : JT} (_ : Rise (slts t)) (key : List UInt8), t.findV key = if foundF (slts t) (keyP key) then some (t.fall (posF (slts t) (keyP key))).val else none
  | .nil, _, key => rfl
  | .cons k kd is n s l m r, hr, key => by
    have hr2 : Rise (slts r) := List.Pairwise.of_cons hr
    have hall := (List.pairwise_cons.1 (show List.Pairwise (fun a b => cmpP a.pr b.pr = -1) ((⟨k, [], []⟩ : Slt) :: slts r) from hr)).1
    have ih := findV_pos hr2 key
    have es : slts (.cons k kd is n s l m r) = (⟨k, [], []⟩ : Slt) :: slts r := rfl
    rw [es]
    have hpr : (⟨k, [], []⟩ : Slt).pr = keyP k := rfl
    by_cases hs : cmpP (keyP k) (keyP key) = -1
    · have e : posF ((⟨k, [], []⟩ : Slt) :: slts r) (keyP key) = posF (slts r) (keyP key) + 1 := by unfold posF; rw [List.takeWhile_cons_of_pos (by simp [hpr, hs])]; simp
      have f : foundF ((⟨k, [], []⟩ : Slt) :: slts r) (keyP key) = foundF (slts r) (keyP key) := by unfold foundF; rw [e]; simp
      have hne : ¬ k = key := by intro h; rw [h, cmpP_self] at hs; exact absurd hs (by decide)
      rw [f, e]
      simp only [JT.findV, if_neg hne, JT.fall]
      exact ih
    · have e : posF ((⟨k, [], []⟩ : Slt) :: slts r) (keyP key) = 0 := by unfold posF; rw [List.takeWhile_cons_of_neg (by simp [hpr, hs])]; rfl
      rcases cmpP_three (keyP k) (keyP key) with h | h | h
      · exact absurd h hs
      · have hf : foundF ((⟨k, [], []⟩ : Slt) :: slts r) (keyP key) = true := by unfold foundF; rw [e]; simp [hpr, h]
        have heq : k = key := by have := cmpP_eq h; injection this
        rw [hf, e, if_pos rfl]
        simp [JT.findV, heq, JT.fall, JT.val]
      · have hf : foundF ((⟨k, [], []⟩ : Slt) :: slts r) (keyP key) = false := by unfold foundF; rw [e]; simp [hpr, h]
        have hne : ¬ k = key := by intro e2; rw [e2, cmpP_self] at h; exact absurd h (by decide)
        rw [hf]
        simp only [JT.findV, if_neg hne]
        rw [ih]
        have hr0 : foundF (slts r) (keyP key) = false := by
          unfold foundF
          cases hg : (slts r)[posF (slts r) (keyP key)]? with
          | none => rfl
          | some x =>
            have hx := List.mem_of_getElem? hg
            have h1 := hall x hx
            have h2 : cmpP (keyP key) (keyP k) = -1 := by rw [cmpP_anti (keyP k) (keyP key), h]
            have h3 := cmpP_trans h2 h1
            have h4 : cmpP x.pr (keyP key) = 1 := by rw [cmpP_anti (keyP key) x.pr, h3]; decide
            simp [h4]
        rw [hr0]; simp
def nullV : Jv := ⟨0, false, 0, [], .nil, .nil⟩
/-- The value of a key; null: it is no map, or hasn't it. -/
def memF (v : Jv) (key : List UInt8) : Jv := if v.kd = 5 then (v.m.findV key).getD nullV else nullV
/-- A member that is a number. -/
def toldF (v : Jv) (key : List UInt8) : Option Int := if (memF v key).kd = 2 then some (memF v key).n else none
/-- A level that stands alone, if it isn't told. -/
def startF (name : List UInt8) : Int := if name = [98, 97, 110] ∨ name = [107, 105, 99, 107] ∨ name = [114, 101, 100, 97, 99, 116] ∨ name = [115, 116, 97, 116, 101, 95, 100, 101, 102, 97, 117, 108, 116] then 50 else 0
def levelF (v : Jv) (name : List UInt8) : Int := (toldF v name).getD (startF name)
def usersK : List UInt8 := [117, 115, 101, 114, 115]
def userF (v : Jv) (creator user : List UInt8) : Int :=
  if v.kd = 5 then (toldF (memF v usersK) user).getD (levelF v [117, 115, 101, 114, 115, 95, 100, 101, 102, 97, 117, 108, 116]) else if user = creator then 100 else 0
def sendF (v : Jv) (kind : List UInt8) (state : Bool) : Int :=
  match toldF (memF v [101, 118, 101, 110, 116, 115]) kind with
  | some n => n
  | none => if state then (if v.kd = 5 then levelF v [115, 116, 97, 116, 101, 95, 100, 101, 102, 97, 117, 108, 116] else 0) else levelF v [101, 118, 101, 110, 116, 115, 95, 100, 101, 102, 97, 117, 108, 116]
end Go.Proofs.YtajkgcmopmpihaaGreatDoor
namespace Go.Proofs.YtajkgcmopmpihaaGreatDoor
open Go.ChangeShapes Go.WideShapes Go.ChangeAt Go.RowKit Go.IntWalk
set_option linter.unusedVariables false
set_option maxRecDepth 100000

/-- How much is left. -/
def wgF (mem : Bool) : JT → Int → Nat → Int
  | .nil, left, _ => left
  | .cons k _ _ _ s l m r, left, d => if left < 0 then left else
    wgF mem r (if d = 0 then -1 else wgF true m (wgF false l ((if mem then left - k.length else left) - 1 - s.length) (d - 1)) (d - 1)) d
def wgV (v : Jv) (left : Int) (d : Nat) : Int := if d = 0 then -1 else wgF true v.m (wgF false v.l (left - 1 - v.s.length) (d - 1)) (d - 1)
theorem wgF_neg (mem : Bool) (t : JT) (left : Int) (d : Nat) (h : left < 0) : wgF mem t left d = left := by
  cases t with
  | nil => rfl
  | cons => simp [wgF, h]
theorem wgF_step (mem : Bool) (t : JT) (i : Nat) (left : Int) (d : Nat) (hi : i < t.ext) (h : 0 ≤ left) :
    wgF mem (t.fall i) left d = wgF mem (t.fall (i + 1)) (wgV (t.fall i).val (if mem then left - (t.fall i).key.length else left) d) d := by
  conv => lhs; rw [t.fall_of_lt i hi]
  unfold JT.one
  rw [wgF, if_neg (by omega)]; rfl
theorem wgF_end (mem : Bool) (t : JT) (left : Int) (d : Nat) : wgF mem (t.fall t.ext) left d = left := by
  rw [JT.fall_all t _ (Nat.le_refl _)]; rfl
/-- That number, which isn't great. -/
def WgtPost (v : Jv) (left : Int) (d : Nat) (w : World) (e : Ending) (w' : World) : Prop := (-1125899906842624 ≤ wgV v left d ∧ wgV v left d ≤ 1048576 ∧ e = .returned (.int .i64 (wgV v left d))) ∧ Below w.heap.size w w'
def WStep (R : Int) (mem : Bool) (t : JT) (k : Nat) (z : Int) (d : Nat) : Prop := R = wgF mem (t.fall k) z d
def WgtC (N : Nat) : Prop := ∀ (jv : Jv) (left dI : Int) (deep : Nat) (w : World) (A B : Option Addr) (nl cl nm cm : Nat), jv.bulk ≤ N → dI = (deep : Int) → deep ≤ 1000 → -281474976710656 ≤ left → left ≤ 1048576 →
  Room nl cl jv.l.ext → Room nm cm jv.m.ext → JSl (· < w.heap.size) w false A jv.l → JSl (· < w.heap.size) w true B jv.m → Fit jv.kd jv.n jv.s →
  Calls Tryz.prog 30 #[.agg #[.int .i64 jv.kd, .bool jv.is, .int .i64 jv.n, .string ⟨jv.s.toArray⟩, .slice A nl cl, .slice B nm cm], .int .i64 left, .int .i64 dI] w (WgtPost jv left deep w)
set_option maxHeartbeats 8000000 in
theorem weigh_calls : ∀ N, WgtC N := by
  intro N
  induction N with
  | zero => intro jv left dI deep w A B nl cl nm cm h; unfold Jv.bulk at h; omega
  | succ N IH =>
    intro jv left dI deep w A B nl cl nm cm hN hdI hd hl0 hl1 rl rm sl sm hf
    subst hdI
    have hlN : jv.l.bulk ≤ N := by unfold Jv.bulk at hN; omega
    have hmN : jv.m.bulk ≤ N := by unfold Jv.bulk at hN; omega
    obtain ⟨kd, is, n, s, l, m⟩ := jv
    dsimp only at *
    obtain ⟨_, _, hsl⟩ := hf
    have hbw : Below w.heap.size w (w.alloc (.cells #[.int .i64 kd, .bool is, .int .i64 n, .string ⟨s.toArray⟩, .slice A nl cl, .slice B nm cm] 25)) := (Below.refl _ _).alloc (Nat.le_refl _) _
    obtain ⟨sn, hsn⟩ : ∃ sn, s.length = sn := ⟨_, rfl⟩
    have hwa : IntKind.i64.wrap (left - 1) = left - 1 := IntWalk.i64_in _ (by omega)
    have hwb : IntKind.i64.wrap (left - 1 - (sn : Int)) = left - 1 - (sn : Int) := IntWalk.i64_in _ (by omega)
    have hss : (⟨s.toArray⟩ : ByteArray).size = sn := hsn
    rw [hsn] at hsl
    clear hsn
    cases deep with
    | zero =>
      go_enter Tryz.func30, Tryz.ntmps30
      go_wp2_with fail
      go_ret
      exact ⟨⟨by simp [wgV], by simp [wgV], by simp [wgV]⟩, hbw⟩
    | succ deep =>
      obtain ⟨z0, hz0⟩ : ∃ z : Int, left - 1 - (sn : Int) = z := ⟨_, rfl⟩
      have hz1 : -422212465065990 ≤ z0 := by omega
      have hz2 : z0 ≤ 1048576 := by omega
      have hd0 : (((deep + 1 : Nat) : Int) == 0) = false := by rw [beq_eq_false_iff_ne]; omega
      go_enter Tryz.func30, Tryz.ntmps30
      have HRS := Lib.hid (And.intro sl sm)
      obtain ⟨rfl, hlc, hlm⟩ := rl
      obtain ⟨rfl, hmc, hmm⟩ := rm
      obtain ⟨ln, hln⟩ : ∃ x, l.ext = x := ⟨_, rfl⟩
      obtain ⟨mn, hmn⟩ : ∃ x, m.ext = x := ⟨_, rfl⟩
      have HLN := Lib.hid hln
      have HMN := Lib.hid hmn
      rw [hln] at hlc hlm ⊢
      rw [hmn] at hmc hmm ⊢
      rw [hln, hmn] at hbw
      have HB0 := Lib.hid hbw
      obtain ⟨R1, hR1⟩ : ∃ R1, wgF false l (left - 1 - (sn : Int)) deep = R1 := ⟨_, rfl⟩
      obtain ⟨R2, hR2⟩ : ∃ R2, wgF true m R1 deep = R2 := ⟨_, rfl⟩
      have HR1 : WStep R1 false l 0 (left - 1 - (sn : Int)) deep := by unfold WStep; rw [JT.fall_zero]; exact hR1.symm
      have HR2 : WStep R2 true m 0 R1 deep := by unfold WStep; rw [JT.fall_zero]; exact hR2.symm
      have HRV := Lib.hid (show wgV ⟨kd, is, n, s, l, m⟩ left (deep + 1) = R2 by unfold wgV; rw [if_neg (by omega)]; dsimp only; rw [show s.length = sn from hss, show deep + 1 - 1 = deep from rfl, hR1, hR2])
      clear hR1 hR2
      have BX0 := Lib.hid (Blk.new w [.int .i64 kd, .bool is, .int .i64 n, .string ⟨s.toArray⟩, .slice A ln cl, .slice B mn cm] 25)
      clear hln hmn sl sm hbw hz0 hwa
      go_wp2_with fail
      go_loopw [1, 7] (fun lv iv wr => ∃ (k : Nat) (z : Int), k ≤ ln ∧ iv = .int .i64 (k : Int) ∧ lv = .int .i64 z ∧ (-1125899906842624 ≤ z ∧ z ≤ 1048576) ∧ Hid (Below w.heap.size w wr) ∧ Hid (Blk wr w.heap.size 25 [.int .i64 kd, .bool is, .int .i64 n, .string ⟨s.toArray⟩, .slice A ln cl, .slice B mn cm]) ∧ WStep R1 false l k z deep) (fun _ iv _ => ln - (intOf iv).toNat)
      case atStart => exact ⟨0, _, Nat.zero_le _, rfl, rfl, ⟨by omega, by omega⟩, HB0, BX0, HR1⟩
      case round =>
        obtain ⟨k, z, hk, rfl, rfl, ⟨hza, hzb⟩, hW, hBk, hS⟩ := hrel
        have HS1 := Lib.hid hS
        clear hS
        clear HB0 BX0
        have d0 := hBk.out.cell (k := 0) rfl; have d1 := hBk.out.cell (k := 1) rfl; have d2 := hBk.out.cell (k := 2) rfl; have d3 := hBk.out.cell (k := 3) rfl; have d4 := hBk.out.cell (k := 4) rfl; have d5 := hBk.out.cell (k := 5) rfl
        by_cases hgo : k < ln ∧ 0 ≤ z
        · obtain ⟨hlt, hz⟩ := hgo
          obtain ⟨eb, eo, eA, enl, ecl, eB, enm, ecm, rfl, eP, ebl, e0, e1, e2, e3, e4, e5, r1, r2, s1, s2, hf⟩ := (HRS.out.1.up hW.out).el _ (by rw [HLN.out]; exact hlt)
          obtain ⟨eu, hev⟩ : ∃ eu, (l.fall k).val = eu := ⟨_, rfl⟩
          have hbe : eu.bulk ≤ N := by rw [← hev]; exact Nat.le_trans (JT.bulk_val l k (by rw [HLN.out]; exact hlt)) hlN
          have HS2 := Lib.hid (show WStep R1 false l (k + 1) (wgV eu z deep) deep by unfold WStep; rw [show R1 = _ from HS1.out, wgF_step false l k z deep (by rw [HLN.out]; exact hlt) hz, hev]; rfl)
          rw [hev] at e0 e1 e2 e3 r1 r2 s1 s2 hf
          have HV := IH eu z ((deep : Int)) deep wr eA eB enl ecl enm ecm hbe rfl (by omega) (by omega) (by omega) r1 r2 s1 s2 hf
          clear hev r1 r2 s1 s2 hf
          go_wp2_with fail
          refine HV.mono ?_
          rintro e w3 ⟨⟨hz3, hz4, rfl⟩, b3⟩
          obtain ⟨z3, hz5⟩ : ∃ z3, wgV eu z deep = z3 := ⟨_, rfl⟩
          have HS3 := HS2.out
          rw [hz5] at hz3 hz4 HS3 ⊢
          clear hz5
          have HW3 := Lib.hid (hW.out.then_ b3)
          have HB3 := Lib.hid (hBk.out.later b3)
          clear b3 HV e0 e1 e2 e3 e4 e5
          go_wp2_with fail
          go_roundw
          case rel => exact ⟨k + 1, z3, by omega, by go_num, rfl, ⟨hz3, hz4⟩, HW3, HB3, HS3⟩
          case measure => simp [intOf]; omega
        · have hca : (k < ln ∧ z < 0) ∨ k = ln := by omega
          have hzR : R1 = z := by
            rw [show R1 = _ from HS1.out]
            rcases hca with ⟨_, h⟩ | h
            · exact wgF_neg _ _ _ _ h
            · rw [h, ← HLN.out]; exact wgF_end _ _ _ _
          have HZR := Lib.hid hzR
          clear hgo hzR
          rcases hca with ⟨hlt, hz⟩ | hkl
          all_goals
            first | (have hkf : ¬ k < ln := by omega) | skip
            try clear hkl
            go_wp2_with fail
            clear d0 d1 d2 d3 d4 d5
            obtain ⟨wo, hwo⟩ : ∃ wo : World, wo = wr := ⟨_, rfl⟩
            rw [← hwo] at hW hBk ⊢
            clear hwo
            go_loopw [1, 8] (fun lv iv wr => ∃ (k : Nat) (z : Int), k ≤ mn ∧ iv = .int .i64 (k : Int) ∧ lv = .int .i64 z ∧ (-1125899906842624 ≤ z ∧ z ≤ 1048576) ∧ Hid (Below w.heap.size w wr) ∧ Hid (Blk wr w.heap.size 25 [.int .i64 kd, .bool is, .int .i64 n, .string ⟨s.toArray⟩, .slice A ln cl, .slice B mn cm]) ∧ WStep R2 true m k z deep) (fun _ iv _ => mn - (intOf iv).toNat)
            case atStart => exact ⟨0, z, Nat.zero_le _, rfl, rfl, ⟨hza, hzb⟩, hW, hBk, by have := HR2; rw [HZR.out] at this; exact this⟩
            case round =>
              obtain ⟨q, y, hq, rfl, rfl, ⟨hya, hyb⟩, hW, hBk, hS⟩ := hrel
              have HS5 := Lib.hid hS
              clear hS
              have d0 := hBk.out.cell (k := 0) rfl; have d1 := hBk.out.cell (k := 1) rfl; have d2 := hBk.out.cell (k := 2) rfl; have d3 := hBk.out.cell (k := 3) rfl; have d4 := hBk.out.cell (k := 4) rfl; have d5 := hBk.out.cell (k := 5) rfl
              by_cases hgo : q < mn ∧ 0 ≤ y
              · obtain ⟨hqt, hy⟩ := hgo
                obtain ⟨eb, eo, eA, enl, ecl, eB, enm, ecm, rfl, eP, ebl, eK, eKl, e0, e1, e2, e3, e4, e5, r1, r2, s1, s2, hf⟩ := (HRS.out.2.up hW.out).mb _ (by rw [HMN.out]; exact hqt)
                obtain ⟨eu, hev⟩ : ∃ eu, (m.fall q).val = eu := ⟨_, rfl⟩
                obtain ⟨ek, hek⟩ : ∃ ek, (m.fall q).key = ek := ⟨_, rfl⟩
                have hbe : eu.bulk ≤ N := by rw [← hev]; exact Nat.le_trans (JT.bulk_val m q (by rw [HMN.out]; exact hqt)) hmN
                rw [hev] at e0 e1 e2 e3 r1 r2 s1 s2 hf
                rw [hek] at eK eKl
                obtain ⟨en, hen⟩ : ∃ en, ek.length = en := ⟨_, rfl⟩
                have hes : (⟨ek.toArray⟩ : ByteArray).size = en := hen
                rw [hen] at eKl
                have HS6 := Lib.hid (show WStep R2 true m (q + 1) (wgV eu (y - (en : Int)) deep) deep by unfold WStep; rw [show R2 = _ from HS5.out, wgF_step true m q y deep (by rw [HMN.out]; exact hqt) hy, hev, hek, hen]; rfl)
                have hwy : IntKind.i64.wrap (y - (en : Int)) = y - (en : Int) := IntWalk.i64_in _ (by omega)
                have hwd : IntKind.i64.wrap (((deep + 1 : Nat) : Int) - 1) = (deep : Int) := by rw [IntWalk.i64_in _ (by omega)]; omega
                have hbd : Below wr.heap.size wr wr.drew := (Below.refl _ _).drew
                have HV := IH eu (y - (en : Int)) ((deep : Int)) deep wr.drew eA eB enl ecl enm ecm hbe rfl (by omega) (by omega) (by omega) r1 r2 (s1.up hbd) (s2.up hbd) hf
                clear hbd hev r1 r2 s1 s2 hf hek hen
                go_wp2_with fail
                go_still_tail 17, (by kernel_rfl)
                change wpList _ _ _ _ _ wr.drew
                go_wp2_with fail
                refine HV.mono ?_
                rintro e w3 ⟨⟨hz3, hz4, rfl⟩, b3⟩
                obtain ⟨z3, hz5⟩ : ∃ z3, wgV eu (y - (en : Int)) deep = z3 := ⟨_, rfl⟩
                have HS3 := HS6.out
                rw [hz5] at hz3 hz4 HS3 ⊢
                clear hz5
                have HW3 := Lib.hid ((hW.out.drew).then_ b3)
                have HB3 := Lib.hid ((hBk.out.drew).later b3)
                clear b3 HV eK e0 e1 e2 e3 e4 e5 hwy hwd
                go_wp2_with fail
                go_roundw
                case rel => exact ⟨q + 1, z3, by omega, by go_num, rfl, ⟨hz3, hz4⟩, HW3, HB3, HS3⟩
                case measure => simp [intOf]; omega
              · have hca2 : (q < mn ∧ y < 0) ∨ q = mn := by omega
                have HYR := Lib.hid (show R2 = y by
                  rw [show R2 = _ from HS5.out]
                  rcases hca2 with ⟨_, h⟩ | h
                  · exact wgF_neg _ _ _ _ h
                  · rw [h, ← HMN.out]; exact wgF_end _ _ _ _)
                clear hgo
                rcases hca2 with ⟨hqt, hy⟩ | hql
                all_goals
                  first | (have hqf : ¬ q < mn := by omega) | skip
                  try clear hql
                  go_wp2_with fail
                  go_ret
                  unfold WgtPost
                  rw [HRV.out, HYR.out]
                  exact ⟨⟨hya, hyb, rfl⟩, hW.out⟩
/-- Some truth. -/
def GrtPost (w : World) (e : Ending) (w' : World) : Prop := (∃ g : Bool, e = .returned (.bool g)) ∧ Below w.heap.size w w'
theorem great_calls (v : Jv) (A B : Option Addr) (nl cl nm cm : Nat) (w : World) (rl : Room nl cl v.l.ext) (rm : Room nm cm v.m.ext) (sl : JSl (· < w.heap.size) w false A v.l) (sm : JSl (· < w.heap.size) w true B v.m) (hf : Fit v.kd v.n v.s) :
    Calls Tryz.prog 16 #[.agg #[.int .i64 v.kd, .bool v.is, .int .i64 v.n, .string ⟨v.s.toArray⟩, .slice A nl cl, .slice B nm cm]] w (GrtPost w) := by
  have b1 : Below w.heap.size w (w.alloc (.cells #[.int .i64 v.kd, .bool v.is, .int .i64 v.n, .string ⟨v.s.toArray⟩, .slice A nl cl, .slice B nm cm] 25)) := (Below.refl _ _).alloc (Nat.le_refl _) _
  have HV := weigh_calls v.bulk v 8192 60 60 _ A B nl cl nm cm (Nat.le_refl _) (by decide) (by decide) (by decide) (by decide) rl rm (sl.up b1) (sm.up b1) hf
  have HB := Lib.hid b1
  clear rl rm sl sm hf b1
  go_enter Tryz.func16, Tryz.ntmps16
  go_wp2_with fail
  refine HV.mono ?_
  rintro e w3 ⟨⟨hz3, hz4, rfl⟩, b3⟩
  have HB3 := Lib.hid (HB.out.then_ b3)
  clear b3 HV
  go_wp2_with fail
  go_ret
  exact ⟨⟨_, rfl⟩, HB3.out⟩
end Go.Proofs.YtajkgcmopmpihaaGreatDoor
namespace Go.Proofs.YtajkgcmopmpihaaGreatDoor
open Go.ChangeShapes Go.WideShapes Go.ChangeAt Go.RowKit Go.IntWalk
set_option linter.unusedVariables false
set_option maxRecDepth 100000

section
variable {P : Program} {ops : Array Oper} {W0 : World} {Q : Act → Prop} {o : Oper} {rest : List Oper} {Rs : List (Value → Prop)} {a : Act}
/-- A load of one cell. -/
theorem ls_cell (v : Value) (b off : Nat) (hc : W0.cell? ⟨b, off, none⟩ = some v) (hb : b < W0.heap.size) (hw : Region.wanted o (yielded ops a.tmps) = true)
    (h1 : ∀ W, W.cell? ⟨b, off, none⟩ = some v → (execOp a.eval o).run P W = .ok (.value v) W) (h2 : wpLs P ops (fun w' => Below W0.heap.size W0 w') Q rest Rs (a.put o.dst v)) :
    wpLs P ops (fun w' => Below W0.heap.size W0 w') Q (o :: rest) ((· = v) :: Rs) a :=
  ls_exact hw (fun W hW => by unfold lsAt; rw [h1 W ((hW.cell (p := ⟨b, off, none⟩) hb).trans hc)]; exact ⟨rfl, rfl⟩) h2
/-- A call whose contract hangs on what lay there. -/
theorem ls_callb (x : Value) (f : FuncId) (args : Array Value) (hw : Region.wanted o (yielded ops a.tmps) = true) (he : ∀ W, (execOp a.eval o).run P W = .ok (.enter f args) W)
    (hc : ∀ W, Below W0.heap.size W0 W → Calls P f args W (fun e W' => e = .returned x ∧ Below W.heap.size W W')) (h2 : wpLs P ops (fun w' => Below W0.heap.size W0 w') Q rest Rs (a.put o.dst x)) :
    wpLs P ops (fun w' => Below W0.heap.size W0 w') Q (o :: rest) ((· = x) :: Rs) a :=
  ls_cons (w0 := W0) (Below.refl _ _) hw (fun W hW => by
    unfold lsAt
    rw [he]
    exact ⟨rfl, (hc W hW).mono fun e W' ⟨he, hb⟩ => ⟨x, he, rfl, hW.then_ hb⟩⟩) (fun v hv => by subst hv; exact h2)
end
theorem size_valF : (Tryz.prog.info? 25).map (·.size) = some 6 := by kernel_rfl
end Go.Proofs.YtajkgcmopmpihaaGreatDoor
