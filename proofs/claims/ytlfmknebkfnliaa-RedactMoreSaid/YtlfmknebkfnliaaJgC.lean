/- JSON: find and Get, walked. -/
import Derived.Test.YtlfmknebkfnliaaJgB
import Derived.Test.YtlfmknebkfnliaaJfD
namespace Go.Proofs.Ytlfmknebkfnliaa
open Go.ChangeShapes Go.WideShapes Go.ChangeAt Go.RowKit Go.IntWalk
set_option linter.unusedVariables false
set_option maxRecDepth 100000

theorem foundJ_lt {t : JT} {key : List UInt8} (h : foundF (slts t) (keyP key) = true) : posF (slts t) (keyP key) < t.ext := by
  unfold foundF at h
  cases hg : (slts t)[posF (slts t) (keyP key)]? with
  | none => rw [hg] at h; cases h
  | some x => have := (List.getElem?_eq_some_iff.1 hg).1; rw [slts_len] at this; exact this
def fposJ (v : Jv) (key : List UInt8) : Nat := if v.kd = 5 then posF (slts v.m) (keyP key) else 0
def ffndJ (v : Jv) (key : List UInt8) : Bool := if v.kd = 5 then foundF (slts v.m) (keyP key) else false
def getJ (v : Jv) (key : List UInt8) : Option Jv := if v.kd = 5 then v.m.findV key else none
theorem getJ_pos {v : Jv} {key : List UInt8} (hr : Rise (slts v.m)) : getJ v key = if ffndJ v key then some (v.m.fall (fposJ v key)).val else none := by
  unfold getJ ffndJ fposJ
  by_cases h5 : v.kd = 5
  · rw [if_pos h5, if_pos h5, if_pos h5, findV_pos hr]
  · rw [if_neg h5, if_neg h5]; rfl
theorem ffndJ_lt {v : Jv} {key : List UInt8} (h : ffndJ v key = true) : fposJ v key < v.m.ext := by
  unfold ffndJ at h
  unfold fposJ
  by_cases h5 : v.kd = 5
  · rw [if_pos h5] at h ⊢; exact foundJ_lt h
  · rw [if_neg h5] at h; cases h
theorem ne_beq {a b : Int} (h : ¬ a = b) : (a != b) = true := by rw [bne_iff_ne]; exact h
theorem eq_beq {a b : Int} (h : a = b) : (a != b) = false := by simp [h]
set_option maxHeartbeats 4000000 in
theorem jfind_calls (v : Jv) (A0 B0 : Option Addr) (nl0 cl0 nm0 cm0 : Nat) (key : List UInt8) (w : World) (hv : VOk w v A0 B0 nl0 cl0 nm0 cm0) (hr : Rise (slts v.m)) :
    Calls Try.prog 25 #[.agg #[.int .i64 v.kd, .bool v.is, .int .i64 v.n, .string ⟨v.s.toArray⟩, .slice A0 nl0 cl0, .slice B0 nm0 cm0], .string ⟨key.toArray⟩] w fun e w' => e = .returned (.tuple #[.int .i64 (fposJ v key : Int), .bool (ffndJ v key)]) ∧ Below w.heap.size w w' := by
  have b1 : Below w.heap.size w (w.alloc (.cells #[.int .i64 v.kd, .bool v.is, .int .i64 v.n, .string ⟨v.s.toArray⟩, .slice A0 nl0 cl0, .slice B0 nm0 cm0] 25)) := (Below.refl _ _).alloc (Nat.le_refl _) _
  have hx := Blk.new w [.int .i64 v.kd, .bool v.is, .int .i64 v.n, .string ⟨v.s.toArray⟩, .slice A0 nl0 cl0, .slice B0 nm0 cm0] 25
  have d0 := hx.cell (k := 0) rfl; have d5 := hx.cell (k := 5) rfl
  have HB := Lib.hid b1
  by_cases h5 : v.kd = 5
  · have HS := Lib.hid (search_calls B0 nm0 cm0 v.m key _ hv.2.1 (hv.2.2.2.1.up b1) hr)
    have HE := Lib.hid (show fposJ v key = posF (slts v.m) (keyP key) ∧ ffndJ v key = foundF (slts v.m) (keyP key) by unfold fposJ ffndJ; rw [if_pos h5, if_pos h5]; exact ⟨rfl, rfl⟩)
    have hn5 := eq_beq h5
    clear h5 b1 hx hv hr
    go_enter Try.func25, Try.ntmps25
    go_wp2_with fail
    refine HS.out.mono ?_
    rintro e w2 ⟨rfl, b2⟩
    rw [← HE.out.1, ← HE.out.2]
    have HB2 := Lib.hid (HB.out.then_ b2)
    clear b2 d0 d5
    go_wp2_with fail
    go_ret2
    exact ⟨rfl, HB2.out⟩
  · have HE := Lib.hid (show fposJ v key = 0 ∧ ffndJ v key = false by unfold fposJ ffndJ; rw [if_neg h5, if_neg h5]; exact ⟨rfl, rfl⟩)
    have hn5 := ne_beq h5
    clear h5 b1 hx hv hr
    go_enter Try.func25, Try.ntmps25
    go_wp2_with fail
    go_ret2
    rw [HE.out.1, HE.out.2]
    exact ⟨rfl, HB.out⟩
/-- What Get answers, and where its parts lie. -/
def GetPost (o : Option Jv) (w : World) (e : Ending) (w' : World) : Prop :=
  (∃ (u : Jv) (A B : Option Addr) (nl cl nm cm : Nat), u = o.getD nullV ∧ e = .returned (.tuple #[.agg #[.int .i64 u.kd, .bool u.is, .int .i64 u.n, .string ⟨u.s.toArray⟩, .slice A nl cl, .slice B nm cm], .bool o.isSome]) ∧ VNew w.heap.size w' u A B nl cl nm cm) ∧ Below w.heap.size w w'
theorem null_new (lo : Nat) (w : World) : VNew lo w nullV none none 0 0 0 0 := ⟨⟨rfl, Nat.le_refl _, by decide⟩, ⟨rfl, Nat.le_refl _, by decide⟩, .inl rfl, .inl rfl, by unfold Fit nullV; decide⟩
theorem VNew.set6 {lo g : Nat} {w : World} {v : Jv} {A B : Option Addr} {nl cl nm cm : Nat} {x0 x1 x2 x3 x4 x5 : Value} (h : VNew lo w v A B nl cl nm cm) (hg : g < lo) : VNew lo (set6o w g 0 x0 x1 x2 x3 x4 x5) v A B nl cl nm cm :=
  ⟨h.1, h.2.1, h.2.2.1.stay (fun b o hb => cell6o (by have := hb.1; omega)) (fun b hb => ⟨hb.1, by rw [size6o]; exact hb.2⟩), h.2.2.2.1.stay (fun b o hb => cell6o (by have := hb.1; omega)) (fun b hb => ⟨hb.1, by rw [size6o]; exact hb.2⟩), h.2.2.2.2⟩
theorem VNew.lower {lo lo' : Nat} {w : World} {v : Jv} {A B : Option Addr} {nl cl nm cm : Nat} (h : VNew lo w v A B nl cl nm cm) (hl : lo' ≤ lo) : VNew lo' w v A B nl cl nm cm :=
  ⟨h.1, h.2.1, h.2.2.1.stay (fun _ _ _ => rfl) (fun b hb => ⟨Nat.le_trans hl hb.1, hb.2⟩), h.2.2.2.1.stay (fun _ _ _ => rfl) (fun b hb => ⟨Nat.le_trans hl hb.1, hb.2⟩), h.2.2.2.2⟩
theorem below6o {B g : Nat} {a w : World} {x0 x1 x2 x3 x4 x5 : Value} (h : Below B a w) (hg : B ≤ g) : Below B a (set6o w g 0 x0 x1 x2 x3 x4 x5) :=
  (((((h.setCell (show B ≤ g from hg) _).setCell (show B ≤ g from hg) _).setCell (show B ≤ g from hg) _).setCell (show B ≤ g from hg) _).setCell (show B ≤ g from hg) _).setCell (show B ≤ g from hg) _
set_option maxHeartbeats 4000000 in
theorem get_calls (v : Jv) (A0 B0 : Option Addr) (nl0 cl0 nm0 cm0 : Nat) (key : List UInt8) (w : World) (hv : VOk w v A0 B0 nl0 cl0 nm0 cm0) (hr : Rise (slts v.m)) (hbk : v.bulk ≤ 50000) :
    Calls Try.prog 17 #[.agg #[.int .i64 v.kd, .bool v.is, .int .i64 v.n, .string ⟨v.s.toArray⟩, .slice A0 nl0 cl0, .slice B0 nm0 cm0], .string ⟨key.toArray⟩] w (GetPost (getJ v key) w) := by
  have b2 : Below w.heap.size w ((w.alloc (.cells #[.int .i64 v.kd, .bool v.is, .int .i64 v.n, .string ⟨v.s.toArray⟩, .slice A0 nl0 cl0, .slice B0 nm0 cm0] 25)).alloc (.cells #[.int .i64 0, .bool false, .int .i64 0, .string ⟨#[]⟩, .slice none 0 0, .slice none 0 0] 25)) := ((Below.refl _ _).alloc (Nat.le_refl _) _).alloc (by simp) _
  have hx : Blk ((w.alloc (.cells #[.int .i64 v.kd, .bool v.is, .int .i64 v.n, .string ⟨v.s.toArray⟩, .slice A0 nl0 cl0, .slice B0 nm0 cm0] 25)).alloc (.cells #[.int .i64 0, .bool false, .int .i64 0, .string ⟨#[]⟩, .slice none 0 0, .slice none 0 0] 25)) w.heap.size 25 [.int .i64 v.kd, .bool v.is, .int .i64 v.n, .string ⟨v.s.toArray⟩, .slice A0 nl0 cl0, .slice B0 nm0 cm0] := (Blk.new w [.int .i64 v.kd, .bool v.is, .int .i64 v.n, .string ⟨v.s.toArray⟩, .slice A0 nl0 cl0, .slice B0 nm0 cm0] 25).alloc _
  have hz : Blk ((w.alloc (.cells #[.int .i64 v.kd, .bool v.is, .int .i64 v.n, .string ⟨v.s.toArray⟩, .slice A0 nl0 cl0, .slice B0 nm0 cm0] 25)).alloc (.cells #[.int .i64 0, .bool false, .int .i64 0, .string ⟨#[]⟩, .slice none 0 0, .slice none 0 0] 25)) (w.heap.size + 1) 25 [.int .i64 0, .bool false, .int .i64 0, .string ⟨#[]⟩, .slice none 0 0, .slice none 0 0] := by have h := Blk.new (w.alloc (.cells #[.int .i64 v.kd, .bool v.is, .int .i64 v.n, .string ⟨v.s.toArray⟩, .slice A0 nl0 cl0, .slice B0 nm0 cm0] 25)) [.int .i64 0, .bool false, .int .i64 0, .string ⟨#[]⟩, .slice none 0 0, .slice none 0 0] 25; rw [show (w.alloc (.cells #[.int .i64 v.kd, .bool v.is, .int .i64 v.n, .string ⟨v.s.toArray⟩, .slice A0 nl0 cl0, .slice B0 nm0 cm0] 25)).heap.size = w.heap.size + 1 by simp] at h; exact h
  have HB := Lib.hid b2
  have HX := Lib.hid hx
  have HZ := Lib.hid hz
  have HV := Lib.hid (hv.below b2)
  have HV0 := Lib.hid hv
  have HF := Lib.hid (jfind_calls v A0 B0 nl0 cl0 nm0 cm0 key _ HV.out hr)
  have hgj := getJ_pos (key := key) hr
  obtain ⟨d0, d1, d2, d3, d4, d5, _⟩ := cells6s hx
  obtain ⟨ps, hps⟩ : ∃ ps, fposJ v key = ps := ⟨_, rfl⟩
  have hlt := fun h => @ffndJ_lt v key h
  rw [hps] at hlt hgj HF
  have HLT := Lib.hid hlt
  cases hf : ffndJ v key with
  | false =>
    rw [hf] at hgj HF
    have HG := Lib.hid (show getJ v key = none from hgj)
    clear b2 hx hz hv hr hgj hlt hf hps hbk
    go_enter Try.func17, Try.ntmps17
    go_wp2_with fail
    refine HF.out.mono ?_
    rintro e w3 ⟨rfl, b3⟩
    have HZ3 := Lib.hid (HZ.out.later b3)
    have HB3 := Lib.hid (HB.out.then_ b3)
    obtain ⟨g0, g1, g2, g3, g4, g5, k0, k1, k2, k3, k4, k5⟩ := cells6s HZ3.out
    clear b3 d0 d1 d2 d3 d4 d5
    go_wp2_with fail
    rw [HG.out]
    exact bodyPost_ret (res_cell62 rfl _ ⟨w.heap.size + 1, 0, none⟩ _ _ _ rfl rfl (Blk.load (blk6o (o := 0) HZ3.out) _ Try.underlying25 rfl size_v6)) rfl ⟨⟨nullV, none, none, 0, 0, 0, 0, rfl, rfl, null_new _ _⟩, below6o HB3.out (by omega)⟩
  | true =>
    rw [hf] at hgj HF
    have HL := Lib.hid (HLT.out hf)
    have HG := Lib.hid (show getJ v key = some (v.m.fall ps).val from hgj)
    have hbu : (v.m.fall ps).val.bulk ≤ 50000 := Nat.le_trans (JT.bulk_val v.m ps HL.out) (by unfold Jv.bulk at hbk; omega)
    have HBU := Lib.hid hbu
    have hps2 : ps < nm0 := by rw [hv.2.1.1]; exact HL.out
    have hnm47 : nm0 ≤ 140737488355328 := hv.2.1.2.2
    clear b2 hx hz hv hr hgj hlt hf hps hbk hbu
    go_enter Try.func17, Try.ntmps17
    go_wp2_with fail
    refine HF.out.mono ?_
    rintro e w3 ⟨rfl, b3⟩
    have HZ3 := Lib.hid (HZ.out.later b3)
    have HB3 := Lib.hid (HB.out.then_ b3)
    have hx3 := HX.out.later b3
    have hd5 := hx3.cell (k := 5) rfl
    obtain ⟨eb, eo, eA, enl, ecl, eB, enm, ecm, rfl, eP, ebl, eK, eKl, f0, f1, f2, f3, f4, f5, r1, r2, s1, s2, hf⟩ := (HV0.out.2.2.2.1.up HB3.out).mb (i := ps) _ HL.out
    obtain ⟨eu, hev⟩ : ∃ eu, (v.m.fall ps).val = eu := ⟨_, rfl⟩
    rw [hev] at f0 f1 f2 f3 r1 r2 s1 s2 hf HBU HG
    have HC := Lib.hid (fresh_calls eu eA eB enl ecl enm ecm w3 ⟨r1, r2, s1, s2, hf⟩ HBU.out)
    clear b3 d0 d1 d2 d3 d4 d5 eP eK eKl r1 r2 s1 s2 hf hev hx3 ebl
    go_wp2_with fail
    refine HC.out.mono ?_
    rintro e w4 ⟨⟨A, B, nl, cl, nm, cm, rfl, hn⟩, b4⟩
    have HZ4 := Lib.hid (HZ3.out.later b4)
    have HB4 := Lib.hid (HB3.out.then_ b4)
    have HN := Lib.hid hn
    have HW := Lib.hid (show w.heap.size + 2 ≤ w3.heap.size from HZ3.out.lt)
    obtain ⟨g0, g1, g2, g3, g4, g5, k0, k1, k2, k3, k4, k5⟩ := cells6s HZ4.out
    clear b4 hn hd5 f0 f1 f2 f3 f4 f5
    go_wp2_with fail
    rw [HG.out]
    exact bodyPost_ret (res_cell62 rfl _ ⟨w.heap.size + 1, 0, none⟩ _ _ _ rfl rfl (Blk.load (blk6o (o := 0) HZ4.out) _ Try.underlying25 rfl size_v6)) rfl ⟨⟨eu, A, B, nl, cl, nm, cm, rfl, rfl, (HN.out.set6 (by have := HW.out; omega)).lower (by have := HW.out; omega)⟩, below6o HB4.out (by omega)⟩
end Go.Proofs.Ytlfmknebkfnliaa
