/- Texts put together: RdI RdC JvG. -/
import Derived.Test.YtkbcbikilgcckaaGreatDoorZ743de5d206
import Derived.Test.YtkbcbikilgcckaaGreatDoorZ517c5b11f2
import Derived.Test.YtkbcbikilgcckaaGreatDoorZ2071c6bcdc
import Derived.Deep.QuietTactic
import Derived.BigQuiet
import Derived.Deep.Cut
import Derived.Test.YtkbcbikilgcckaaGreatDoorZ3b60d505ed
import Derived.StillTailTactics
namespace Go.Proofs.YtkbcbikilgcckaaGreatDoor
open Go.ChangeShapes Go.WideShapes Go.ChangeAt Go.RowKit Go.IntWalk
set_option linter.unusedVariables false
set_option maxRecDepth 100000

/-- The box of the event, the result's, that of its content. -/
def SiSt (w W : World) (e : Ev) (a : Ea) (u : Jv) (a0 : Ea) : Prop := FeSt w W e a ∧ Blk W (w.heap.size + 2) 25 (vlC u a0.A a0.B a0.nl a0.cl a0.nm a0.cm)
theorem SiSt.then_ {w W W2 : World} {e : Ev} {a a0 : Ea} {u : Jv} (h : SiSt w W e a u a0) (b : Below W.heap.size W W2) : SiSt w W2 e a u a0 := ⟨h.1.then_ b, h.2.later b⟩
theorem siSet {w W : World} {e e2 : Ev} {a a2 a0 : Ea} {u : Jv} (h : SiSt w W e a u a0) (o : Nat) (vs : List Value) (hl : o + vs.length ≤ 17) (h2 : (evC e a).take o ++ vs ++ (evC e a).drop (o + vs.length) = evC e2 a2) : SiSt w (W.setCells w.heap.size o vs) e2 a2 u a0 := by
  have h3 := h.1.2.1.setAt (o := o) (vs := vs) hl
  rw [h2] at h3
  exact ⟨⟨blw_cells (Nat.le_refl _) vs o W h.1.1, h3, h.1.2.2.setFar (by omega) o vs⟩, h.2.setFar (by omega) o vs⟩
def nulE (e : Ev) : Ev := { e with ct := nullV }
def nulA (a : Ea) : Ea := { a with A := none, B := none, nl := 0, cl := 0, nm := 0, cm := 0 }
theorem nul_ok {w : World} {e : Ev} {a : Ea} (h : EOk w e a) : EOk w (nulE e) (nulA a) := ⟨(null_new 0 w).okV, h.2⟩
theorem World.size_setCells (g : Nat) : ∀ (vs : List Value) (o : Nat) (W : World), (W.setCells g o vs).heap.size = W.heap.size
  | [], o, W => rfl
  | v :: vs, o, W => by
    have h := World.size_setCells g vs (o + 1) (W.setCell ⟨g, o, none⟩ v)
    have h2 : (W.setCell ⟨g, o, none⟩ v).heap.size = W.heap.size := by simp [World.setCell]
    exact h.trans h2
set_option maxHeartbeats 8000000 in
theorem strip_calls (e : Ev) (a : Ea) (w : World) (he : EOk w e a) (hr : risV e.ct = true) (hb : e.ct.bulk ≤ 50000) (hn : a.np ≤ 1000000 ∧ a.nu ≤ 1000000 ∧ a.ns ≤ 8192) : Calls Tryz.prog 9 #[.agg (evC e a).toArray] w (FePost (stripE e) w) := by
  have h3 := alloc2 w (evC e a) evZ 29 29
  have HE := Lib.hid he
  have HN := Lib.hid hn
  have HBK := Lib.hid hb
  have HRS := Lib.hid hr
  have HI := Lib.hid (show FeSt w _ e a from ⟨h3.2.2, h3.1, h3.2.1⟩)
  clear he hn hb h3 hr
  go_enter Tryz.func9, Tryz.ntmps9
  go_upto_region 1 with fail
  refine wp_gen (fun W => FeSt w W e a ∧ W.heap.size = w.heap.size + 2) ⟨HI.out, by simp⟩ ?_
  clear HI
  rintro W1 ⟨g1, g2⟩
  have H1 := Lib.hid g1
  have HS := Lib.hid g2
  have hr := ev_ct (o := 0) g1.2.1.rng
  have ht := (Blk.new W1 [.int .i64 0, .bool false, .int .i64 0, .string ⟨#[]⟩, .slice none 0 0, .slice none 0 0] 25).there (n := 6) rfl
  clear g1 g2
  go_upto_region 2 with (first | (refine wpList_load_mid rfl 25 (.tmp 4) rfl w.heap.size 5 rfl (vlC e.ct a.A a.B a.nl a.cl a.nm a.cm) _ hr Tryz.underlying25 rfl (size_vl _ _ _ _ _ _ _) ?_) | (refine wpList_store_mid rfl 25 _ _ rfl W1.heap.size 0 (vlC e.ct a.A a.B a.nl a.cl a.nm a.cm).toArray rfl rfl ht (size_vlA _ _ _ _ _ _ _) (one_vl _ _ _ _ _ _ _) ?_))
  refine wp_gen (fun W => SiSt w W e a e.ct a ∧ W.heap.size = w.heap.size + 3) ⟨⟨⟨blw_cells (by have := HS.out; omega) _ _ _ (H1.out.1.alloc (by have := HS.out; omega) _), (H1.out.2.1.alloc _).setFar (by have := HS.out; omega) _ _, (H1.out.2.2.alloc _).setFar (by have := HS.out; omega) _ _⟩, by
    have := (Blk.new W1 [.int .i64 0, .bool false, .int .i64 0, .string ⟨#[]⟩, .slice none 0 0, .slice none 0 0] 25).setAll (vs := vlC e.ct a.A a.B a.nl a.cl a.nm a.cm) rfl
    rw [HS.out] at this
    rw [HS.out]
    exact this⟩, by
    have h1 := HS.out
    rw [World.size_setCells]; simp; omega⟩ ?_
  rintro W2 ⟨g1, g2⟩
  rw [HS.out]
  clear H1 HS hr ht
  have H2 := Lib.hid g1
  have HS := Lib.hid g2
  have ht := g1.1.2.1.thereAt (o := 5) (n := 6) (by show 11 ≤ 17; decide)
  clear g1 g2
  go_upto_region 3 with (refine wpList_store_mid rfl 25 _ _ rfl w.heap.size 5 (vlC nullV none none 0 0 0 0).toArray rfl rfl ht (size_vlA _ _ _ _ _ _ _) (one_vl _ _ _ _ _ _ _) ?_)
  refine wp_gen (fun W => SiSt w W (nulE e) (nulA a) e.ct a ∧ W.heap.size = w.heap.size + 3) ⟨siSet H2.out 5 (vlC nullV none none 0 0 0 0) (by show 11 ≤ 17; decide) rfl, by rw [World.size_setCells]; exact HS.out⟩ ?_
  clear H2 HS ht
  rintro W3 ⟨g1, g2⟩
  have H3 := Lib.hid g1
  have HS := Lib.hid g2
  have hr := g1.1.2.1.rng
  have HC := Lib.hid (fevent_calls (nulE e) (nulA a) W3 (nul_ok (HE.out.below g1.1.1)) (show nullV.bulk ≤ 50000 by decide) HN.out)
  clear g1 g2
  go_upto_region 4 with (refine wpList_load_mid rfl 29 (.tmp 1) rfl w.heap.size 0 rfl (evC (nulE e) (nulA a)) _ hr Tryz.underlying29 rfl (size_ev _ _) ?_)
  clear hr
  refine HC.out.mono ?_
  rintro en W4 ⟨⟨a2, rfl, hn⟩, b⟩
  have g2 := H3.out.then_ b
  have H4 := Lib.hid g2
  have HN4 := Lib.hid (And.intro (hn.lower (B' := w.heap.size + 3) (by rw [HS.out]; exact Nat.le_refl _)) (show w.heap.size + 3 ≤ W4.heap.size by rw [← HS.out]; exact b.size))
  have ht := g2.1.2.1.there (n := (evC (nulE e) a2).toArray.size) rfl
  clear g2 hn b HC HS H3
  go_upto_region 4 with (refine wpList_store_mid rfl 29 _ _ rfl w.heap.size 0 (evC (nulE e) a2).toArray rfl rfl ht (size_evA _ _) (one_ev _ _) ?_)
  refine wp_gen (fun W => SiSt w W (nulE e) a2 e.ct a ∧ ENew (w.heap.size + 3) W (nulE e) a2 ∧ w.heap.size + 3 ≤ W.heap.size) ⟨siSet H4.out 0 (evC (nulE e) a2) (by show 17 ≤ 17; decide) rfl, HN4.out.1.up (Up.cells (by omega) 0 (evC (nulE e) a2) W4), by show w.heap.size + 3 ≤ (W4.setCells _ _ (evC (nulE e) a2)).heap.size; rw [World.size_setCells]; exact HN4.out.2⟩ ?_
  clear H4 HN4 ht
  rintro W5 ⟨g1, g2, g3⟩
  have H5 := Lib.hid g1
  have HN5 := Lib.hid (And.intro g2 g3)
  have hr := g1.2.rng
  have d2 : W5.cell? ⟨w.heap.size, 2, none⟩ = some (.string ⟨e.ty.toArray⟩) := g1.1.2.1.cell (k := 2) rfl
  have hc := contentN_calls e.ty e.ct a.A a.B a.nl a.cl a.nm a.cm W5 (HE.out.1.below g1.1.1) HRS.out HBK.out
  rw [cont_doc e.ty e.ct HRS.out] at hc
  have HC := Lib.hid hc
  clear g1 g2 g3 hc
  go_upto_region 5 with (refine wpList_load_mid rfl 25 (.tmp 3) rfl (w.heap.size + 2) 0 rfl (vlC e.ct a.A a.B a.nl a.cl a.nm a.cm) _ hr Tryz.underlying25 rfl (size_vl _ _ _ _ _ _ _) ?_)
  clear hr
  refine HC.out.mono ?_
  rintro en W6 ⟨⟨A, B, nl, cl, nm, cm, rfl, hv⟩, b⟩
  have g2 := H5.out.then_ b
  have H6 := Lib.hid g2
  have HV := Lib.hid (And.intro (hv.lower HN5.out.2) (HN5.out.1.up (Up.of b)))
  have ht := g2.1.2.1.thereAt (o := 5) (n := 6) (by show 11 ≤ 17; decide)
  clear g2 hv b HC d2 H5 HN5
  go_upto_region 5 with (refine wpList_store_mid rfl 25 _ _ rfl w.heap.size 5 (vlC (dcntJ e.ty e.ct) A B nl cl nm cm).toArray rfl rfl ht (size_vlA _ _ _ _ _ _ _) (one_vl _ _ _ _ _ _ _) ?_)
  refine wp_gen (fun W => ∃ a3, FeSt w W (stripE e) a3 ∧ ENew (w.heap.size + 3) W (stripE e) a3) ⟨{ a2 with A := A, B := B, nl := nl, cl := cl, nm := nm, cm := cm }, (siSet H6.out (e2 := stripE e) 5 (vlC (dcntJ e.ty e.ct) A B nl cl nm cm) (by show 11 ≤ 17; decide) rfl).1, HV.out.1.up (Up.cells (by omega) 5 (vlC (dcntJ e.ty e.ct) A B nl cl nm cm) W6), (HV.out.2.up (Up.cells (by omega) 5 (vlC (dcntJ e.ty e.ct) A B nl cl nm cm) W6)).2⟩ ?_
  clear H6 HV ht
  rintro W9 ⟨a3, g1, g2⟩
  have H9 := Lib.hid g1
  have HN9 := Lib.hid g2
  have hr := g1.2.1.rng
  have ht := g1.2.2.there (n := (evC (stripE e) a3).toArray.size) rfl
  clear g1 g2
  go_wp2_with (first | (refine wpList_load_mid rfl 29 (.tmp 1) rfl w.heap.size 0 rfl (evC (stripE e) a3) _ hr Tryz.underlying29 rfl (size_ev _ a3) ?_) | (refine wpList_store_mid rfl 29 _ _ rfl (w.heap.size + 1) 0 (evC (stripE e) a3).toArray rfl rfl ht (size_evA _ _) (one_ev _ _) ?_))
  exact bodyPost_ret (v := .agg (evC (stripE e) a3).toArray) (res_cell rfl _ _ _ _ rfl ((H9.out.2.2.setAll (vs := evC (stripE e) a3) rfl).load 29 Tryz.underlying29 rfl (size_ev _ _))) rfl ⟨⟨a3, rfl, ((HN9.out.up (Up.cells (by omega) 0 (evC (stripE e) a3) W9)).lower (by omega))⟩, blw_cells (by omega) _ _ _ H9.out.1⟩
end Go.Proofs.YtkbcbikilgcckaaGreatDoor
namespace Go.Proofs.YtkbcbikilgcckaaGreatDoor
open Go.ChangeShapes Go.WideShapes Go.ChangeAt Go.RowKit Go.IntWalk
set_option linter.unusedVariables false
set_option maxRecDepth 100000

set_option maxHeartbeats 4000000 in
theorem reflist_calls (A B : Option Addr) (n c m d : Nat) (xs : List (List UInt8)) (w : World) (hA : Strs w A n c xs) (hB : Strs w B m d xs) : Calls Tryz.prog 19 #[.slice A n c, .slice B m d] w fun e w' => e = .returned (.bool true) ∧ Below w.heap.size w w' := by
  have HA := Lib.hid hA
  have HB := Lib.hid hB
  obtain rfl : m = n := hB.2.1.out.trans hA.2.1.out.symm
  have hnm : m ≤ 140737488355328 := hA.2.2.2.1
  clear hA hB
  go_enter Tryz.func19, Tryz.ntmps19
  go_wp2_with fail
  go_loopw [13] (fun i wr => ∃ k : Nat, k ≤ m ∧ i = .int .i64 (k : Int) ∧ Hid (Below w.heap.size w wr)) (fun i _ => m - (intOf i).toNat)
  case atStart => exact ⟨0, Nat.zero_le _, rfl, Lib.hid (Below.refl _ _)⟩
  case round =>
    obtain ⟨k, hk, rfl, HK⟩ := hrel
    by_cases hp : k < m
    · have hkx : k < xs.length := by rw [← HA.out.2.1.out]; exact hp
      have hgx := List.getElem?_eq_getElem hkx
      obtain ⟨x, hxx⟩ : ∃ x, xs[k] = x := ⟨_, rfl⟩
      rw [hxx] at hgx
      obtain ⟨b, off, rfl, hb, hc1⟩ := (HA.out.1.below HK.out) k (strV x) (by rw [List.getElem?_map, hgx]; rfl)
      obtain ⟨b2, off2, rfl, hb2, hc2⟩ := (HB.out.1.below HK.out) k (strV x) (by rw [List.getElem?_map, hgx]; rfl)
      have c1 : wr.cell? ⟨b, off + k, none⟩ = some (.string ⟨x.toArray⟩) := hc1
      have c2 : wr.cell? ⟨b2, off2 + k, none⟩ = some (.string ⟨x.toArray⟩) := hc2
      clear hxx hgx hkx hc1 hc2
      go_upto_region 6 with fail
      go_quiet (fail)
      go_wp2_with fail
      exact ⟨⟨k + 1, by omega, by go_num, Lib.hid (HK.out.then_ ((Below.refl _ _).drewN _))⟩, by simp [intOf]; omega⟩
    · obtain rfl : m = k := by omega
      go_wp2_with fail
      go_ret
      exact ⟨rfl, HK.out⟩
end Go.Proofs.YtkbcbikilgcckaaGreatDoor
namespace Go.Proofs.YtkbcbikilgcckaaGreatDoor
open Go.ChangeShapes Go.WideShapes Go.ChangeAt Go.RowKit Go.IntWalk
set_option linter.unusedVariables false
set_option maxRecDepth 100000

/-- How much is left. -/
def wgF (mem : Bool) : JT → Int → Nat → Int
  | .nil, left, _ => left
  | .cons k _ _ _ s l m r, left, d => if left < 0 then left else
    wgF mem r (if d = 0 then -1 else wgF true m (wgF false l ((if mem then left - k.length else left) - 1 - s.length) (d - 1)) (d - 1)) d
def wgV (v : Jv) (left : Int) (d : Nat) : Int := if d = 0 then -1 else wgF true v.m (wgF false v.l (left - 1 - v.s.length) (d - 1)) (d - 1)
theorem wgF_neg (mem : Bool) (t : JT) (left : Int) (d : Nat) (h : left < 0) : wgF mem t left d = left := by
  cases t with
  | nil => rfl
  | cons => simp [wgF, h]
theorem wgF_step (mem : Bool) (t : JT) (i : Nat) (left : Int) (d : Nat) (hi : i < t.ext) (h : 0 ≤ left) :
    wgF mem (t.fall i) left d = wgF mem (t.fall (i + 1)) (wgV (t.fall i).val (if mem then left - (t.fall i).key.length else left) d) d := by
  conv => lhs; rw [t.fall_of_lt i hi]
  unfold JT.one
  rw [wgF, if_neg (by omega)]; rfl
theorem wgF_end (mem : Bool) (t : JT) (left : Int) (d : Nat) : wgF mem (t.fall t.ext) left d = left := by
  rw [JT.fall_all t _ (Nat.le_refl _)]; rfl
/-- That number, which isn't great. -/
def WgtPost (v : Jv) (left : Int) (d : Nat) (w : World) (e : Ending) (w' : World) : Prop := (-1125899906842624 ≤ wgV v left d ∧ wgV v left d ≤ 1048576 ∧ e = .returned (.int .i64 (wgV v left d))) ∧ Below w.heap.size w w'
def WStep (R : Int) (mem : Bool) (t : JT) (k : Nat) (z : Int) (d : Nat) : Prop := R = wgF mem (t.fall k) z d
def WgtC (N : Nat) : Prop := ∀ (jv : Jv) (left dI : Int) (deep : Nat) (w : World) (A B : Option Addr) (nl cl nm cm : Nat), jv.bulk ≤ N → dI = (deep : Int) → deep ≤ 1000 → -281474976710656 ≤ left → left ≤ 1048576 →
  Room nl cl jv.l.ext → Room nm cm jv.m.ext → JSl (· < w.heap.size) w false A jv.l → JSl (· < w.heap.size) w true B jv.m → Fit jv.kd jv.n jv.s →
  Calls Tryz.prog 17 #[.agg #[.int .i64 jv.kd, .bool jv.is, .int .i64 jv.n, .string ⟨jv.s.toArray⟩, .slice A nl cl, .slice B nm cm], .int .i64 left, .int .i64 dI] w (WgtPost jv left deep w)
set_option maxHeartbeats 8000000 in
theorem weigh_calls : ∀ N, WgtC N := by
  intro N
  induction N with
  | zero => intro jv left dI deep w A B nl cl nm cm h; unfold Jv.bulk at h; omega
  | succ N IH =>
    intro jv left dI deep w A B nl cl nm cm hN hdI hd hl0 hl1 rl rm sl sm hf
    subst hdI
    have hlN : jv.l.bulk ≤ N := by unfold Jv.bulk at hN; omega
    have hmN : jv.m.bulk ≤ N := by unfold Jv.bulk at hN; omega
    obtain ⟨kd, is, n, s, l, m⟩ := jv
    dsimp only at *
    obtain ⟨_, _, hsl⟩ := hf
    have hbw : Below w.heap.size w (w.alloc (.cells #[.int .i64 kd, .bool is, .int .i64 n, .string ⟨s.toArray⟩, .slice A nl cl, .slice B nm cm] 25)) := (Below.refl _ _).alloc (Nat.le_refl _) _
    obtain ⟨sn, hsn⟩ : ∃ sn, s.length = sn := ⟨_, rfl⟩
    have hwa : IntKind.i64.wrap (left - 1) = left - 1 := IntWalk.i64_in _ (by omega)
    have hwb : IntKind.i64.wrap (left - 1 - (sn : Int)) = left - 1 - (sn : Int) := IntWalk.i64_in _ (by omega)
    have hss : (⟨s.toArray⟩ : ByteArray).size = sn := hsn
    rw [hsn] at hsl
    clear hsn
    cases deep with
    | zero =>
      go_enter Tryz.func17, Tryz.ntmps17
      go_wp2_with fail
      go_ret
      exact ⟨⟨by simp [wgV], by simp [wgV], by simp [wgV]⟩, hbw⟩
    | succ deep =>
      obtain ⟨z0, hz0⟩ : ∃ z : Int, left - 1 - (sn : Int) = z := ⟨_, rfl⟩
      have hz1 : -422212465065990 ≤ z0 := by omega
      have hz2 : z0 ≤ 1048576 := by omega
      have hd0 : (((deep + 1 : Nat) : Int) == 0) = false := by rw [beq_eq_false_iff_ne]; omega
      go_enter Tryz.func17, Tryz.ntmps17
      have HRS := Lib.hid (And.intro sl sm)
      obtain ⟨rfl, hlc, hlm⟩ := rl
      obtain ⟨rfl, hmc, hmm⟩ := rm
      obtain ⟨ln, hln⟩ : ∃ x, l.ext = x := ⟨_, rfl⟩
      obtain ⟨mn, hmn⟩ : ∃ x, m.ext = x := ⟨_, rfl⟩
      have HLN := Lib.hid hln
      have HMN := Lib.hid hmn
      rw [hln] at hlc hlm ⊢
      rw [hmn] at hmc hmm ⊢
      rw [hln, hmn] at hbw
      have HB0 := Lib.hid hbw
      obtain ⟨R1, hR1⟩ : ∃ R1, wgF false l (left - 1 - (sn : Int)) deep = R1 := ⟨_, rfl⟩
      obtain ⟨R2, hR2⟩ : ∃ R2, wgF true m R1 deep = R2 := ⟨_, rfl⟩
      have HR1 : WStep R1 false l 0 (left - 1 - (sn : Int)) deep := by unfold WStep; rw [JT.fall_zero]; exact hR1.symm
      have HR2 : WStep R2 true m 0 R1 deep := by unfold WStep; rw [JT.fall_zero]; exact hR2.symm
      have HRV := Lib.hid (show wgV ⟨kd, is, n, s, l, m⟩ left (deep + 1) = R2 by unfold wgV; rw [if_neg (by omega)]; dsimp only; rw [show s.length = sn from hss, show deep + 1 - 1 = deep from rfl, hR1, hR2])
      clear hR1 hR2
      have BX0 := Lib.hid (Blk.new w [.int .i64 kd, .bool is, .int .i64 n, .string ⟨s.toArray⟩, .slice A ln cl, .slice B mn cm] 25)
      clear hln hmn sl sm hbw hz0 hwa
      go_wp2_with fail
      go_loopw [1, 7] (fun lv iv wr => ∃ (k : Nat) (z : Int), k ≤ ln ∧ iv = .int .i64 (k : Int) ∧ lv = .int .i64 z ∧ (-1125899906842624 ≤ z ∧ z ≤ 1048576) ∧ Hid (Below w.heap.size w wr) ∧ Hid (Blk wr w.heap.size 25 [.int .i64 kd, .bool is, .int .i64 n, .string ⟨s.toArray⟩, .slice A ln cl, .slice B mn cm]) ∧ WStep R1 false l k z deep) (fun _ iv _ => ln - (intOf iv).toNat)
      case atStart => exact ⟨0, _, Nat.zero_le _, rfl, rfl, ⟨by omega, by omega⟩, HB0, BX0, HR1⟩
      case round =>
        obtain ⟨k, z, hk, rfl, rfl, ⟨hza, hzb⟩, hW, hBk, hS⟩ := hrel
        have HS1 := Lib.hid hS
        clear hS
        clear HB0 BX0
        have d0 := hBk.out.cell (k := 0) rfl; have d1 := hBk.out.cell (k := 1) rfl; have d2 := hBk.out.cell (k := 2) rfl; have d3 := hBk.out.cell (k := 3) rfl; have d4 := hBk.out.cell (k := 4) rfl; have d5 := hBk.out.cell (k := 5) rfl
        by_cases hgo : k < ln ∧ 0 ≤ z
        · obtain ⟨hlt, hz⟩ := hgo
          obtain ⟨eb, eo, eA, enl, ecl, eB, enm, ecm, rfl, eP, ebl, e0, e1, e2, e3, e4, e5, r1, r2, s1, s2, hf⟩ := (HRS.out.1.up hW.out).el _ (by rw [HLN.out]; exact hlt)
          obtain ⟨eu, hev⟩ : ∃ eu, (l.fall k).val = eu := ⟨_, rfl⟩
          have hbe : eu.bulk ≤ N := by rw [← hev]; exact Nat.le_trans (JT.bulk_val l k (by rw [HLN.out]; exact hlt)) hlN
          have HS2 := Lib.hid (show WStep R1 false l (k + 1) (wgV eu z deep) deep by unfold WStep; rw [show R1 = _ from HS1.out, wgF_step false l k z deep (by rw [HLN.out]; exact hlt) hz, hev]; rfl)
          rw [hev] at e0 e1 e2 e3 r1 r2 s1 s2 hf
          have HV := IH eu z ((deep : Int)) deep wr eA eB enl ecl enm ecm hbe rfl (by omega) (by omega) (by omega) r1 r2 s1 s2 hf
          clear hev r1 r2 s1 s2 hf
          go_wp2_with fail
          refine HV.mono ?_
          rintro e w3 ⟨⟨hz3, hz4, rfl⟩, b3⟩
          obtain ⟨z3, hz5⟩ : ∃ z3, wgV eu z deep = z3 := ⟨_, rfl⟩
          have HS3 := HS2.out
          rw [hz5] at hz3 hz4 HS3 ⊢
          clear hz5
          have HW3 := Lib.hid (hW.out.then_ b3)
          have HB3 := Lib.hid (hBk.out.later b3)
          clear b3 HV e0 e1 e2 e3 e4 e5
          go_wp2_with fail
          go_roundw
          case rel => exact ⟨k + 1, z3, by omega, by go_num, rfl, ⟨hz3, hz4⟩, HW3, HB3, HS3⟩
          case measure => simp [intOf]; omega
        · have hca : (k < ln ∧ z < 0) ∨ k = ln := by omega
          have hzR : R1 = z := by
            rw [show R1 = _ from HS1.out]
            rcases hca with ⟨_, h⟩ | h
            · exact wgF_neg _ _ _ _ h
            · rw [h, ← HLN.out]; exact wgF_end _ _ _ _
          have HZR := Lib.hid hzR
          clear hgo hzR
          rcases hca with ⟨hlt, hz⟩ | hkl
          all_goals
            first | (have hkf : ¬ k < ln := by omega) | skip
            try clear hkl
            go_wp2_with fail
            clear d0 d1 d2 d3 d4 d5
            obtain ⟨wo, hwo⟩ : ∃ wo : World, wo = wr := ⟨_, rfl⟩
            rw [← hwo] at hW hBk ⊢
            clear hwo
            go_loopw [1, 8] (fun lv iv wr => ∃ (k : Nat) (z : Int), k ≤ mn ∧ iv = .int .i64 (k : Int) ∧ lv = .int .i64 z ∧ (-1125899906842624 ≤ z ∧ z ≤ 1048576) ∧ Hid (Below w.heap.size w wr) ∧ Hid (Blk wr w.heap.size 25 [.int .i64 kd, .bool is, .int .i64 n, .string ⟨s.toArray⟩, .slice A ln cl, .slice B mn cm]) ∧ WStep R2 true m k z deep) (fun _ iv _ => mn - (intOf iv).toNat)
            case atStart => exact ⟨0, z, Nat.zero_le _, rfl, rfl, ⟨hza, hzb⟩, hW, hBk, by have := HR2; rw [HZR.out] at this; exact this⟩
            case round =>
              obtain ⟨q, y, hq, rfl, rfl, ⟨hya, hyb⟩, hW, hBk, hS⟩ := hrel
              have HS5 := Lib.hid hS
              clear hS
              have d0 := hBk.out.cell (k := 0) rfl; have d1 := hBk.out.cell (k := 1) rfl; have d2 := hBk.out.cell (k := 2) rfl; have d3 := hBk.out.cell (k := 3) rfl; have d4 := hBk.out.cell (k := 4) rfl; have d5 := hBk.out.cell (k := 5) rfl
              by_cases hgo : q < mn ∧ 0 ≤ y
              · obtain ⟨hqt, hy⟩ := hgo
                obtain ⟨eb, eo, eA, enl, ecl, eB, enm, ecm, rfl, eP, ebl, eK, eKl, e0, e1, e2, e3, e4, e5, r1, r2, s1, s2, hf⟩ := (HRS.out.2.up hW.out).mb _ (by rw [HMN.out]; exact hqt)
                obtain ⟨eu, hev⟩ : ∃ eu, (m.fall q).val = eu := ⟨_, rfl⟩
                obtain ⟨ek, hek⟩ : ∃ ek, (m.fall q).key = ek := ⟨_, rfl⟩
                have hbe : eu.bulk ≤ N := by rw [← hev]; exact Nat.le_trans (JT.bulk_val m q (by rw [HMN.out]; exact hqt)) hmN
                rw [hev] at e0 e1 e2 e3 r1 r2 s1 s2 hf
                rw [hek] at eK eKl
                obtain ⟨en, hen⟩ : ∃ en, ek.length = en := ⟨_, rfl⟩
                have hes : (⟨ek.toArray⟩ : ByteArray).size = en := hen
                rw [hen] at eKl
                have HS6 := Lib.hid (show WStep R2 true m (q + 1) (wgV eu (y - (en : Int)) deep) deep by unfold WStep; rw [show R2 = _ from HS5.out, wgF_step true m q y deep (by rw [HMN.out]; exact hqt) hy, hev, hek, hen]; rfl)
                have hwy : IntKind.i64.wrap (y - (en : Int)) = y - (en : Int) := IntWalk.i64_in _ (by omega)
                have hwd : IntKind.i64.wrap (((deep + 1 : Nat) : Int) - 1) = (deep : Int) := by rw [IntWalk.i64_in _ (by omega)]; omega
                have hbd : Below wr.heap.size wr wr.drew := (Below.refl _ _).drew
                have HV := IH eu (y - (en : Int)) ((deep : Int)) deep wr.drew eA eB enl ecl enm ecm hbe rfl (by omega) (by omega) (by omega) r1 r2 (s1.up hbd) (s2.up hbd) hf
                clear hbd hev r1 r2 s1 s2 hf hek hen
                go_wp2_with fail
                go_still_tail 17, (by kernel_rfl)
                change wpList _ _ _ _ _ wr.drew
                go_wp2_with fail
                refine HV.mono ?_
                rintro e w3 ⟨⟨hz3, hz4, rfl⟩, b3⟩
                obtain ⟨z3, hz5⟩ : ∃ z3, wgV eu (y - (en : Int)) deep = z3 := ⟨_, rfl⟩
                have HS3 := HS6.out
                rw [hz5] at hz3 hz4 HS3 ⊢
                clear hz5
                have HW3 := Lib.hid ((hW.out.drew).then_ b3)
                have HB3 := Lib.hid ((hBk.out.drew).later b3)
                clear b3 HV eK e0 e1 e2 e3 e4 e5 hwy hwd
                go_wp2_with fail
                go_roundw
                case rel => exact ⟨q + 1, z3, by omega, by go_num, rfl, ⟨hz3, hz4⟩, HW3, HB3, HS3⟩
                case measure => simp [intOf]; omega
              · have hca2 : (q < mn ∧ y < 0) ∨ q = mn := by omega
                have HYR := Lib.hid (show R2 = y by
                  rw [show R2 = _ from HS5.out]
                  rcases hca2 with ⟨_, h⟩ | h
                  · exact wgF_neg _ _ _ _ h
                  · rw [h, ← HMN.out]; exact wgF_end _ _ _ _)
                clear hgo
                rcases hca2 with ⟨hqt, hy⟩ | hql
                all_goals
                  first | (have hqf : ¬ q < mn := by omega) | skip
                  try clear hql
                  go_wp2_with fail
                  go_ret
                  unfold WgtPost
                  rw [HRV.out, HYR.out]
                  exact ⟨⟨hya, hyb, rfl⟩, hW.out⟩
/-- Some truth. -/
def GrtPost (w : World) (e : Ending) (w' : World) : Prop := (∃ g : Bool, e = .returned (.bool g)) ∧ Below w.heap.size w w'
end Go.Proofs.YtkbcbikilgcckaaGreatDoor
