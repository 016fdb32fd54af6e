/- Texts put together: JfD JgC JrF PnF. -/
import Derived.Test.YtpleminoiodmgaaDoorZc46755328f
import Derived.Test.YtpleminoiodmgaaDoorZ2f705f9709
import Derived.Test.YtpleminoiodmgaaDoorZ1cd9f73639
namespace Go.Proofs.YtpleminoiodmgaaDoor
open Go.ChangeShapes Go.WideShapes Go.ChangeAt Go.RowKit Go.IntWalk
set_option linter.unusedVariables false
set_option maxRecDepth 100000

def FrPost (a : Jv) (w : World) (e : Ending) (w' : World) : Prop :=
  (∃ (A B : Option Addr) (nl cl nm cm : Nat), e = .returned (.agg #[.int .i64 a.kd, .bool a.is, .int .i64 a.n, .string ⟨a.s.toArray⟩, .slice A nl cl, .slice B nm cm]) ∧ VNew w.heap.size w' a A B nl cl nm cm) ∧ Below w.heap.size w w'
theorem VOk.bel {w : World} {v : Jv} {A B : Option Addr} {nl cl nm cm : Nat} (h : VOk w v A B nl cl nm cm) : VBel w.heap.size w v A B nl cl nm cm := h
theorem Bx.below {pc : Nat} {a w w' : World} (h0 : Below a.heap.size a w) (h : Bx w.heap.size pc w w') (hp : a.heap.size ≤ pc) : Below a.heap.size a w' :=
  ⟨h.os.trans h0.os, h.tape.trans h0.tape, h.output.trans h0.output, Nat.le_trans h0.size h.size, fun k hk => (h.block k (Nat.lt_of_lt_of_le hk h0.size) (by omega)).trans (h0.block k hk)⟩
set_option maxHeartbeats 4000000 in
theorem fresh_calls (a : Jv) (A0 B0 : Option Addr) (nl0 cl0 nm0 cm0 : Nat) (w : World) (hv : VOk w a A0 B0 nl0 cl0 nm0 cm0) (hb : a.bulk ≤ 50000) : Calls Tryd.prog 43 #[.agg #[.int .i64 a.kd, .bool a.is, .int .i64 a.n, .string ⟨a.s.toArray⟩, .slice A0 nl0 cl0, .slice B0 nm0 cm0]] w (FrPost a w) := by
  have b3 : Below w.heap.size w (((w.alloc (.cells #[.int .i64 a.kd, .bool a.is, .int .i64 a.n, .string ⟨a.s.toArray⟩, .slice A0 nl0 cl0, .slice B0 nm0 cm0] 25)).alloc (.cells #[.int .i64 0, .bool false, .int .i64 0, .string ⟨#[]⟩, .slice none 0 0, .slice none 0 0] 25)).alloc (.cells #[.int .i64 1048576] 99)) := (((Below.refl _ _).alloc (Nat.le_refl _) _).alloc (by simp) _).alloc (by simp; omega) _
  have hsz : ((w.alloc (.cells #[.int .i64 a.kd, .bool a.is, .int .i64 a.n, .string ⟨a.s.toArray⟩, .slice A0 nl0 cl0, .slice B0 nm0 cm0] 25)).alloc (.cells #[.int .i64 0, .bool false, .int .i64 0, .string ⟨#[]⟩, .slice none 0 0, .slice none 0 0] 25)).heap.size = w.heap.size + 2 := by simp
  have hp : Blk (((w.alloc (.cells #[.int .i64 a.kd, .bool a.is, .int .i64 a.n, .string ⟨a.s.toArray⟩, .slice A0 nl0 cl0, .slice B0 nm0 cm0] 25)).alloc (.cells #[.int .i64 0, .bool false, .int .i64 0, .string ⟨#[]⟩, .slice none 0 0, .slice none 0 0] 25)).alloc (.cells #[.int .i64 1048576] 99)) (w.heap.size + 2) 99 [.int .i64 1048576] := by have h := Blk.new ((w.alloc (.cells #[.int .i64 a.kd, .bool a.is, .int .i64 a.n, .string ⟨a.s.toArray⟩, .slice A0 nl0 cl0, .slice B0 nm0 cm0] 25)).alloc (.cells #[.int .i64 0, .bool false, .int .i64 0, .string ⟨#[]⟩, .slice none 0 0, .slice none 0 0] 25)) [.int .i64 1048576] 99; rw [hsz] at h; exact h
  have hx : Blk (((w.alloc (.cells #[.int .i64 a.kd, .bool a.is, .int .i64 a.n, .string ⟨a.s.toArray⟩, .slice A0 nl0 cl0, .slice B0 nm0 cm0] 25)).alloc (.cells #[.int .i64 0, .bool false, .int .i64 0, .string ⟨#[]⟩, .slice none 0 0, .slice none 0 0] 25)).alloc (.cells #[.int .i64 1048576] 99)) w.heap.size 25 [.int .i64 a.kd, .bool a.is, .int .i64 a.n, .string ⟨a.s.toArray⟩, .slice A0 nl0 cl0, .slice B0 nm0 cm0] := ((Blk.new w [.int .i64 a.kd, .bool a.is, .int .i64 a.n, .string ⟨a.s.toArray⟩, .slice A0 nl0 cl0, .slice B0 nm0 cm0] 25).alloc _).alloc _
  have hz : Blk (((w.alloc (.cells #[.int .i64 a.kd, .bool a.is, .int .i64 a.n, .string ⟨a.s.toArray⟩, .slice A0 nl0 cl0, .slice B0 nm0 cm0] 25)).alloc (.cells #[.int .i64 0, .bool false, .int .i64 0, .string ⟨#[]⟩, .slice none 0 0, .slice none 0 0] 25)).alloc (.cells #[.int .i64 1048576] 99)) (w.heap.size + 1) 25 [.int .i64 0, .bool false, .int .i64 0, .string ⟨#[]⟩, .slice none 0 0, .slice none 0 0] := by
    have h := Blk.new (w.alloc (.cells #[.int .i64 a.kd, .bool a.is, .int .i64 a.n, .string ⟨a.s.toArray⟩, .slice A0 nl0 cl0, .slice B0 nm0 cm0] 25)) [.int .i64 0, .bool false, .int .i64 0, .string ⟨#[]⟩, .slice none 0 0, .slice none 0 0] 25
    rw [show (w.alloc (.cells #[.int .i64 a.kd, .bool a.is, .int .i64 a.n, .string ⟨a.s.toArray⟩, .slice A0 nl0 cl0, .slice B0 nm0 cm0] 25)).heap.size = w.heap.size + 1 by simp] at h
    exact h.alloc _
  have hv3 := hv.below b3
  have hvb : VBel w.heap.size (((w.alloc (.cells #[.int .i64 a.kd, .bool a.is, .int .i64 a.n, .string ⟨a.s.toArray⟩, .slice A0 nl0 cl0, .slice B0 nm0 cm0] 25)).alloc (.cells #[.int .i64 0, .bool false, .int .i64 0, .string ⟨#[]⟩, .slice none 0 0, .slice none 0 0] 25)).alloc (.cells #[.int .i64 1048576] 99)) a A0 B0 nl0 cl0 nm0 cm0 := ⟨hv.1, hv.2.1, hv.2.2.1.stay (fun b o h => b3.cell (p := ⟨b, o, none⟩) h) (fun _ h => h), hv.2.2.2.1.stay (fun b o h => b3.cell (p := ⟨b, o, none⟩) h) (fun _ h => h), hv.2.2.2.2⟩
  have HC := Lib.hid (show Calls Tryd.prog 64 #[.pointer (some ⟨w.heap.size + 2, 0, none⟩), .agg #[.int .i64 a.kd, .bool a.is, .int .i64 a.n, .string ⟨a.s.toArray⟩, .slice A0 nl0 cl0, .slice B0 nm0 cm0], .int .i64 0] (((w.alloc (.cells #[.int .i64 a.kd, .bool a.is, .int .i64 a.n, .string ⟨a.s.toArray⟩, .slice A0 nl0 cl0, .slice B0 nm0 cm0] 25)).alloc (.cells #[.int .i64 0, .bool false, .int .i64 0, .string ⟨#[]⟩, .slice none 0 0, .slice none 0 0] 25)).alloc (.cells #[.int .i64 1048576] 99)) (FvPost a (w.heap.size + 2) 0 (((w.alloc (.cells #[.int .i64 a.kd, .bool a.is, .int .i64 a.n, .string ⟨a.s.toArray⟩, .slice A0 nl0 cl0, .slice B0 nm0 cm0] 25)).alloc (.cells #[.int .i64 0, .bool false, .int .i64 0, .string ⟨#[]⟩, .slice none 0 0, .slice none 0 0] 25)).alloc (.cells #[.int .i64 1048576] 99))) from
    fval_calls a.bulk a A0 B0 nl0 cl0 nm0 cm0 (w.heap.size + 2) 1048576 0 0 w.heap.size (((w.alloc (.cells #[.int .i64 a.kd, .bool a.is, .int .i64 a.n, .string ⟨a.s.toArray⟩, .slice A0 nl0 cl0, .slice B0 nm0 cm0] 25)).alloc (.cells #[.int .i64 0, .bool false, .int .i64 0, .string ⟨#[]⟩, .slice none 0 0, .slice none 0 0] 25)).alloc (.cells #[.int .i64 1048576] 99)) (Nat.le_refl _) (by omega) (by omega) hp.lt hp (by unfold Jv.bulk at hb; omega) (Nat.le_refl _) hvb)
  have HB := Lib.hid b3
  have HZ := Lib.hid hz
  obtain ⟨d0, d1, d2, d3, d4, d5, _⟩ := cells6s hx
  clear b3 hsz hp hx hz hv3 hvb hv hb
  go_enter Tryd.func43, Tryd.ntmps43
  go_wp2_with fail
  refine HC.out.mono ?_
  rintro e w4 ⟨⟨A, B, nl, cl, nm, cm, rfl, hn⟩, _, hbx⟩
  have hz4 := hbx.blk HZ.out HZ.out.lt (by omega)
  have HN := Lib.hid (And.intro hn (And.intro (Bx.below HB.out hbx (by omega)) hz4))
  obtain ⟨g0, g1, g2, g3, g4, g5, k0, k1, k2, k3, k4, k5⟩ := cells6s hz4
  have HW3 := Lib.hid (show w.heap.size + 2 ≤ (((w.alloc (.cells #[.int .i64 a.kd, .bool a.is, .int .i64 a.n, .string ⟨a.s.toArray⟩, .slice A0 nl0 cl0, .slice B0 nm0 cm0] 25)).alloc (.cells #[.int .i64 0, .bool false, .int .i64 0, .string ⟨#[]⟩, .slice none 0 0, .slice none 0 0] 25)).alloc (.cells #[.int .i64 1048576] 99)).heap.size by simp)
  clear hn hbx hz4 d0 d1 d2 d3 d4 d5
  go_wp2_with fail
  refine bodyPost_ret (res_cell6 rfl _ ⟨w.heap.size + 1, 0, none⟩ _ _ rfl (Blk.load (blk6o (o := 0) HN.out.2.2) _ Tryd.underlying25 rfl size_v6)) rfl ⟨⟨A, B, nl, cl, nm, cm, rfl, HN.out.1.1, HN.out.1.2.1, HN.out.1.2.2.1.stay (fun b o hb => cell6o (o := 0) (by have := hb.1; have := HW3.out; omega)) (fun b hb => ⟨by have := hb.1; have := HW3.out; omega, ?_⟩), HN.out.1.2.2.2.1.stay (fun b o hb => cell6o (o := 0) (by have := hb.1; have := HW3.out; omega)) (fun b hb => ⟨by have := hb.1; have := HW3.out; omega, ?_⟩), HN.out.1.2.2.2.2⟩, ?_⟩
  · show b < (set6o w4 (w.heap.size + 1) 0 _ _ _ _ _ _).heap.size; rw [size6o]; exact hb.2
  · show b < (set6o w4 (w.heap.size + 1) 0 _ _ _ _ _ _).heap.size; rw [size6o]; exact hb.2
  · exact (((((HN.out.2.1.setCell (by show _ ≤ w.heap.size + 1; omega) _).setCell (by show _ ≤ w.heap.size + 1; omega) _).setCell (by show _ ≤ w.heap.size + 1; omega) _).setCell (by show _ ≤ w.heap.size + 1; omega) _).setCell (by show _ ≤ w.heap.size + 1; omega) _).setCell (by show _ ≤ w.heap.size + 1; omega) _
end Go.Proofs.YtpleminoiodmgaaDoor
namespace Go.Proofs.YtpleminoiodmgaaDoor
open Go.ChangeShapes Go.WideShapes Go.ChangeAt Go.RowKit Go.IntWalk
set_option linter.unusedVariables false
set_option maxRecDepth 100000

theorem foundJ_lt {t : JT} {key : List UInt8} (h : foundF (slts t) (keyP key) = true) : posF (slts t) (keyP key) < t.ext := by
  unfold foundF at h
  cases hg : (slts t)[posF (slts t) (keyP key)]? with
  | none => rw [hg] at h; cases h
  | some x => have := (List.getElem?_eq_some_iff.1 hg).1; rw [slts_len] at this; exact this
def fposJ (v : Jv) (key : List UInt8) : Nat := if v.kd = 5 then posF (slts v.m) (keyP key) else 0
def ffndJ (v : Jv) (key : List UInt8) : Bool := if v.kd = 5 then foundF (slts v.m) (keyP key) else false
def getJ (v : Jv) (key : List UInt8) : Option Jv := if v.kd = 5 then v.m.findV key else none
theorem getJ_pos {v : Jv} {key : List UInt8} (hr : Rise (slts v.m)) : getJ v key = if ffndJ v key then some (v.m.fall (fposJ v key)).val else none := by
  unfold getJ ffndJ fposJ
  by_cases h5 : v.kd = 5
  · rw [if_pos h5, if_pos h5, if_pos h5, findV_pos hr]
  · rw [if_neg h5, if_neg h5]; rfl
theorem ffndJ_lt {v : Jv} {key : List UInt8} (h : ffndJ v key = true) : fposJ v key < v.m.ext := by
  unfold ffndJ at h
  unfold fposJ
  by_cases h5 : v.kd = 5
  · rw [if_pos h5] at h ⊢; exact foundJ_lt h
  · rw [if_neg h5] at h; cases h
theorem ne_beq {a b : Int} (h : ¬ a = b) : (a != b) = true := by rw [bne_iff_ne]; exact h
theorem eq_beq {a b : Int} (h : a = b) : (a != b) = false := by simp [h]
set_option maxHeartbeats 4000000 in
theorem jfind_calls (v : Jv) (A0 B0 : Option Addr) (nl0 cl0 nm0 cm0 : Nat) (key : List UInt8) (w : World) (hv : VOk w v A0 B0 nl0 cl0 nm0 cm0) (hr : Rise (slts v.m)) :
    Calls Tryd.prog 42 #[.agg #[.int .i64 v.kd, .bool v.is, .int .i64 v.n, .string ⟨v.s.toArray⟩, .slice A0 nl0 cl0, .slice B0 nm0 cm0], .string ⟨key.toArray⟩] w fun e w' => e = .returned (.tuple #[.int .i64 (fposJ v key : Int), .bool (ffndJ v key)]) ∧ Below w.heap.size w w' := by
  have b1 : Below w.heap.size w (w.alloc (.cells #[.int .i64 v.kd, .bool v.is, .int .i64 v.n, .string ⟨v.s.toArray⟩, .slice A0 nl0 cl0, .slice B0 nm0 cm0] 25)) := (Below.refl _ _).alloc (Nat.le_refl _) _
  have hx := Blk.new w [.int .i64 v.kd, .bool v.is, .int .i64 v.n, .string ⟨v.s.toArray⟩, .slice A0 nl0 cl0, .slice B0 nm0 cm0] 25
  have d0 := hx.cell (k := 0) rfl; have d5 := hx.cell (k := 5) rfl
  have HB := Lib.hid b1
  by_cases h5 : v.kd = 5
  · have HS := Lib.hid (search_callsJ B0 nm0 cm0 v.m key _ hv.2.1 (hv.2.2.2.1.up b1) hr)
    have HE := Lib.hid (show fposJ v key = posF (slts v.m) (keyP key) ∧ ffndJ v key = foundF (slts v.m) (keyP key) by unfold fposJ ffndJ; rw [if_pos h5, if_pos h5]; exact ⟨rfl, rfl⟩)
    have hn5 := eq_beq h5
    clear h5 b1 hx hv hr
    go_enter Tryd.func42, Tryd.ntmps42
    go_wp2_with fail
    refine HS.out.mono ?_
    rintro e w2 ⟨rfl, b2⟩
    rw [← HE.out.1, ← HE.out.2]
    have HB2 := Lib.hid (HB.out.then_ b2)
    clear b2 d0 d5
    go_wp2_with fail
    go_ret2
    exact ⟨rfl, HB2.out⟩
  · have HE := Lib.hid (show fposJ v key = 0 ∧ ffndJ v key = false by unfold fposJ ffndJ; rw [if_neg h5, if_neg h5]; exact ⟨rfl, rfl⟩)
    have hn5 := ne_beq h5
    clear h5 b1 hx hv hr
    go_enter Tryd.func42, Tryd.ntmps42
    go_wp2_with fail
    go_ret2
    rw [HE.out.1, HE.out.2]
    exact ⟨rfl, HB.out⟩
/-- What Get answers, and where its parts lie. -/
def GetPost (o : Option Jv) (w : World) (e : Ending) (w' : World) : Prop :=
  (∃ (u : Jv) (A B : Option Addr) (nl cl nm cm : Nat), u = o.getD nullV ∧ e = .returned (.tuple #[.agg #[.int .i64 u.kd, .bool u.is, .int .i64 u.n, .string ⟨u.s.toArray⟩, .slice A nl cl, .slice B nm cm], .bool o.isSome]) ∧ VNew w.heap.size w' u A B nl cl nm cm) ∧ Below w.heap.size w w'
theorem null_new (lo : Nat) (w : World) : VNew lo w nullV none none 0 0 0 0 := ⟨⟨rfl, Nat.le_refl _, by decide⟩, ⟨rfl, Nat.le_refl _, by decide⟩, .inl rfl, .inl rfl, by unfold Fit nullV; decide⟩
theorem VNew.set6 {lo g : Nat} {w : World} {v : Jv} {A B : Option Addr} {nl cl nm cm : Nat} {x0 x1 x2 x3 x4 x5 : Value} (h : VNew lo w v A B nl cl nm cm) (hg : g < lo) : VNew lo (set6o w g 0 x0 x1 x2 x3 x4 x5) v A B nl cl nm cm :=
  ⟨h.1, h.2.1, h.2.2.1.stay (fun b o hb => cell6o (by have := hb.1; omega)) (fun b hb => ⟨hb.1, by rw [size6o]; exact hb.2⟩), h.2.2.2.1.stay (fun b o hb => cell6o (by have := hb.1; omega)) (fun b hb => ⟨hb.1, by rw [size6o]; exact hb.2⟩), h.2.2.2.2⟩
theorem VNew.lower {lo lo' : Nat} {w : World} {v : Jv} {A B : Option Addr} {nl cl nm cm : Nat} (h : VNew lo w v A B nl cl nm cm) (hl : lo' ≤ lo) : VNew lo' w v A B nl cl nm cm :=
  ⟨h.1, h.2.1, h.2.2.1.stay (fun _ _ _ => rfl) (fun b hb => ⟨Nat.le_trans hl hb.1, hb.2⟩), h.2.2.2.1.stay (fun _ _ _ => rfl) (fun b hb => ⟨Nat.le_trans hl hb.1, hb.2⟩), h.2.2.2.2⟩
theorem below6o {B g : Nat} {a w : World} {x0 x1 x2 x3 x4 x5 : Value} (h : Below B a w) (hg : B ≤ g) : Below B a (set6o w g 0 x0 x1 x2 x3 x4 x5) :=
  (((((h.setCell (show B ≤ g from hg) _).setCell (show B ≤ g from hg) _).setCell (show B ≤ g from hg) _).setCell (show B ≤ g from hg) _).setCell (show B ≤ g from hg) _).setCell (show B ≤ g from hg) _
set_option maxHeartbeats 4000000 in
theorem get_calls (v : Jv) (A0 B0 : Option Addr) (nl0 cl0 nm0 cm0 : Nat) (key : List UInt8) (w : World) (hv : VOk w v A0 B0 nl0 cl0 nm0 cm0) (hr : Rise (slts v.m)) (hbk : v.bulk ≤ 50000) :
    Calls Tryd.prog 35 #[.agg #[.int .i64 v.kd, .bool v.is, .int .i64 v.n, .string ⟨v.s.toArray⟩, .slice A0 nl0 cl0, .slice B0 nm0 cm0], .string ⟨key.toArray⟩] w (GetPost (getJ v key) w) := by
  have b2 : Below w.heap.size w ((w.alloc (.cells #[.int .i64 v.kd, .bool v.is, .int .i64 v.n, .string ⟨v.s.toArray⟩, .slice A0 nl0 cl0, .slice B0 nm0 cm0] 25)).alloc (.cells #[.int .i64 0, .bool false, .int .i64 0, .string ⟨#[]⟩, .slice none 0 0, .slice none 0 0] 25)) := ((Below.refl _ _).alloc (Nat.le_refl _) _).alloc (by simp) _
  have hx : Blk ((w.alloc (.cells #[.int .i64 v.kd, .bool v.is, .int .i64 v.n, .string ⟨v.s.toArray⟩, .slice A0 nl0 cl0, .slice B0 nm0 cm0] 25)).alloc (.cells #[.int .i64 0, .bool false, .int .i64 0, .string ⟨#[]⟩, .slice none 0 0, .slice none 0 0] 25)) w.heap.size 25 [.int .i64 v.kd, .bool v.is, .int .i64 v.n, .string ⟨v.s.toArray⟩, .slice A0 nl0 cl0, .slice B0 nm0 cm0] := (Blk.new w [.int .i64 v.kd, .bool v.is, .int .i64 v.n, .string ⟨v.s.toArray⟩, .slice A0 nl0 cl0, .slice B0 nm0 cm0] 25).alloc _
  have hz : Blk ((w.alloc (.cells #[.int .i64 v.kd, .bool v.is, .int .i64 v.n, .string ⟨v.s.toArray⟩, .slice A0 nl0 cl0, .slice B0 nm0 cm0] 25)).alloc (.cells #[.int .i64 0, .bool false, .int .i64 0, .string ⟨#[]⟩, .slice none 0 0, .slice none 0 0] 25)) (w.heap.size + 1) 25 [.int .i64 0, .bool false, .int .i64 0, .string ⟨#[]⟩, .slice none 0 0, .slice none 0 0] := by have h := Blk.new (w.alloc (.cells #[.int .i64 v.kd, .bool v.is, .int .i64 v.n, .string ⟨v.s.toArray⟩, .slice A0 nl0 cl0, .slice B0 nm0 cm0] 25)) [.int .i64 0, .bool false, .int .i64 0, .string ⟨#[]⟩, .slice none 0 0, .slice none 0 0] 25; rw [show (w.alloc (.cells #[.int .i64 v.kd, .bool v.is, .int .i64 v.n, .string ⟨v.s.toArray⟩, .slice A0 nl0 cl0, .slice B0 nm0 cm0] 25)).heap.size = w.heap.size + 1 by simp] at h; exact h
  have HB := Lib.hid b2
  have HX := Lib.hid hx
  have HZ := Lib.hid hz
  have HV := Lib.hid (hv.below b2)
  have HV0 := Lib.hid hv
  have HF := Lib.hid (jfind_calls v A0 B0 nl0 cl0 nm0 cm0 key _ HV.out hr)
  have hgj := getJ_pos (key := key) hr
  obtain ⟨d0, d1, d2, d3, d4, d5, _⟩ := cells6s hx
  obtain ⟨ps, hps⟩ : ∃ ps, fposJ v key = ps := ⟨_, rfl⟩
  have hlt := fun h => @ffndJ_lt v key h
  rw [hps] at hlt hgj HF
  have HLT := Lib.hid hlt
  cases hf : ffndJ v key with
  | false =>
    rw [hf] at hgj HF
    have HG := Lib.hid (show getJ v key = none from hgj)
    clear b2 hx hz hv hr hgj hlt hf hps hbk
    go_enter Tryd.func35, Tryd.ntmps35
    go_wp2_with fail
    refine HF.out.mono ?_
    rintro e w3 ⟨rfl, b3⟩
    have HZ3 := Lib.hid (HZ.out.later b3)
    have HB3 := Lib.hid (HB.out.then_ b3)
    obtain ⟨g0, g1, g2, g3, g4, g5, k0, k1, k2, k3, k4, k5⟩ := cells6s HZ3.out
    clear b3 d0 d1 d2 d3 d4 d5
    go_wp2_with fail
    rw [HG.out]
    exact bodyPost_ret (res_cell62 rfl _ ⟨w.heap.size + 1, 0, none⟩ _ _ _ rfl rfl (Blk.load (blk6o (o := 0) HZ3.out) _ Tryd.underlying25 rfl size_v6)) rfl ⟨⟨nullV, none, none, 0, 0, 0, 0, rfl, rfl, null_new _ _⟩, below6o HB3.out (by omega)⟩
  | true =>
    rw [hf] at hgj HF
    have HL := Lib.hid (HLT.out hf)
    have HG := Lib.hid (show getJ v key = some (v.m.fall ps).val from hgj)
    have hbu : (v.m.fall ps).val.bulk ≤ 50000 := Nat.le_trans (JT.bulk_val v.m ps HL.out) (by unfold Jv.bulk at hbk; omega)
    have HBU := Lib.hid hbu
    have hps2 : ps < nm0 := by rw [hv.2.1.1]; exact HL.out
    have hnm47 : nm0 ≤ 140737488355328 := hv.2.1.2.2
    clear b2 hx hz hv hr hgj hlt hf hps hbk hbu
    go_enter Tryd.func35, Tryd.ntmps35
    go_wp2_with fail
    refine HF.out.mono ?_
    rintro e w3 ⟨rfl, b3⟩
    have HZ3 := Lib.hid (HZ.out.later b3)
    have HB3 := Lib.hid (HB.out.then_ b3)
    have hx3 := HX.out.later b3
    have hd5 := hx3.cell (k := 5) rfl
    obtain ⟨eb, eo, eA, enl, ecl, eB, enm, ecm, rfl, eP, ebl, eK, eKl, f0, f1, f2, f3, f4, f5, r1, r2, s1, s2, hf⟩ := (HV0.out.2.2.2.1.up HB3.out).mb (i := ps) _ HL.out
    obtain ⟨eu, hev⟩ : ∃ eu, (v.m.fall ps).val = eu := ⟨_, rfl⟩
    rw [hev] at f0 f1 f2 f3 r1 r2 s1 s2 hf HBU HG
    have HC := Lib.hid (fresh_calls eu eA eB enl ecl enm ecm w3 ⟨r1, r2, s1, s2, hf⟩ HBU.out)
    clear b3 d0 d1 d2 d3 d4 d5 eP eK eKl r1 r2 s1 s2 hf hev hx3 ebl
    go_wp2_with fail
    refine HC.out.mono ?_
    rintro e w4 ⟨⟨A, B, nl, cl, nm, cm, rfl, hn⟩, b4⟩
    have HZ4 := Lib.hid (HZ3.out.later b4)
    have HB4 := Lib.hid (HB3.out.then_ b4)
    have HN := Lib.hid hn
    have HW := Lib.hid (show w.heap.size + 2 ≤ w3.heap.size from HZ3.out.lt)
    obtain ⟨g0, g1, g2, g3, g4, g5, k0, k1, k2, k3, k4, k5⟩ := cells6s HZ4.out
    clear b4 hn hd5 f0 f1 f2 f3 f4 f5
    go_wp2_with fail
    rw [HG.out]
    exact bodyPost_ret (res_cell62 rfl _ ⟨w.heap.size + 1, 0, none⟩ _ _ _ rfl rfl (Blk.load (blk6o (o := 0) HZ4.out) _ Tryd.underlying25 rfl size_v6)) rfl ⟨⟨eu, A, B, nl, cl, nm, cm, rfl, rfl, (HN.out.set6 (by have := HW.out; omega)).lower (by have := HW.out; omega)⟩, below6o HB4.out (by omega)⟩
end Go.Proofs.YtpleminoiodmgaaDoor
namespace Go.Proofs.YtpleminoiodmgaaDoor
open Go.ChangeShapes Go.WideShapes Go.ChangeAt Go.RowKit Go.IntWalk
set_option linter.unusedVariables false

section
variable {w : World} {g : Nat} {T : TypeId} {a0 a1 a2 a3 a4 a5 x0 x1 x2 x3 x4 x5 : Value}
/-- Six cells stored. -/
def set6 (w : World) (g : Nat) (x0 x1 x2 x3 x4 x5 : Value) : World := (((((w.setCell ⟨g, 0, none⟩ x0).setCell ⟨g, 1, none⟩ x1).setCell ⟨g, 2, none⟩ x2).setCell ⟨g, 3, none⟩ x3).setCell ⟨g, 4, none⟩ x4).setCell ⟨g, 5, none⟩ x5
theorem blk6 (h : Blk w g T [a0, a1, a2, a3, a4, a5]) : Blk (set6 w g x0 x1 x2 x3 x4 x5) g T [x0, x1, x2, x3, x4, x5] :=
  (((((h.set_ 0 x0).set_ 1 x1).set_ 2 x2).set_ 3 x3).set_ 4 x4).set_ 5 x5
theorem below6 {B : Nat} {a : World} (h : Below B a w) (hg : B ≤ g) : Below B a (set6 w g x0 x1 x2 x3 x4 x5) :=
  (((((h.setCell hg _).setCell hg _).setCell hg _).setCell hg _).setCell hg _).setCell hg _
theorem cells6 (h : Blk w g T [a0, a1, a2, a3, a4, a5]) : w.cell? ⟨g, 0, none⟩ = some a0 ∧ w.cell? ⟨g, 1, none⟩ = some a1 ∧ w.cell? ⟨g, 2, none⟩ = some a2 ∧ w.cell? ⟨g, 3, none⟩ = some a3 ∧ w.cell? ⟨g, 4, none⟩ = some a4 ∧ w.cell? ⟨g, 5, none⟩ = some a5 ∧
    w.frozen? ⟨g, 0, none⟩ = false ∧ w.frozen? ⟨g, 1, none⟩ = false ∧ w.frozen? ⟨g, 2, none⟩ = false ∧ w.frozen? ⟨g, 3, none⟩ = false ∧ w.frozen? ⟨g, 4, none⟩ = false ∧ w.frozen? ⟨g, 5, none⟩ = false :=
  ⟨h.cell rfl, h.cell rfl, h.cell rfl, h.cell rfl, h.cell rfl, h.cell rfl, h.frozen _, h.frozen _, h.frozen _, h.frozen _, h.frozen _, h.frozen _⟩
end
theorem findV_step (t : JT) (i : Nat) (key : List UInt8) (h : i < t.ext) : (t.fall i).findV key = if (t.fall i).key = key then some (t.fall i).val else (t.fall (i + 1)).findV key := by
  conv => lhs; rw [t.fall_of_lt i h]
  rfl
theorem findV_end (t : JT) (key : List UInt8) : (t.fall t.ext).findV key = none := by rw [JT.fall_all t _ (Nat.le_refl _)]; rfl
/-- A value whose parts lie below base. -/
def VOkB (base : Nat) (w : World) (v : Jv) (A B : Option Addr) (nl cl nm cm : Nat) : Prop := Room nl cl v.l.ext ∧ Room nm cm v.m.ext ∧ JSl (· < base) w false A v.l ∧ JSl (· < base) w true B v.m ∧ Fit v.kd v.n v.s
theorem VOkB.blw {base : Nat} {w w' : World} {v : Jv} {A B : Option Addr} {nl cl nm cm : Nat} (h : VOkB base w v A B nl cl nm cm) (b : Below base w w') : VOkB base w' v A B nl cl nm cm := ⟨h.1, h.2.1, h.2.2.1.blw b, h.2.2.2.1.blw b, h.2.2.2.2⟩
theorem VOkB.ok {base : Nat} {w : World} {v : Jv} {A B : Option Addr} {nl cl nm cm : Nat} (h : VOkB base w v A B nl cl nm cm) (hb : base ≤ w.heap.size) : VOk w v A B nl cl nm cm :=
  ⟨h.1, h.2.1, h.2.2.1.stay (fun _ _ _ => rfl) (fun x hx => Nat.lt_of_lt_of_le hx hb), h.2.2.2.1.stay (fun _ _ _ => rfl) (fun x hx => Nat.lt_of_lt_of_le hx hb), h.2.2.2.2⟩
theorem nullB_ok (base : Nat) (w : World) : VOkB base w nullV none none 0 0 0 0 := ⟨⟨rfl, Nat.le_refl _, by decide⟩, ⟨rfl, Nat.le_refl _, by decide⟩, .inl rfl, .inl rfl, by unfold Fit nullV; decide⟩
/-- What Find answers. -/
def FRes (base : Nat) (o : Option Jv) (w : World) (e : Ending) (w' : World) : Prop :=
  (∃ (A B : Option Addr) (nl cl nm cm : Nat), e = .returned (.tuple #[.agg #[.int .i64 (o.getD nullV).kd, .bool (o.getD nullV).is, .int .i64 (o.getD nullV).n, .string ⟨(o.getD nullV).s.toArray⟩, .slice A nl cl, .slice B nm cm], .bool o.isSome]) ∧ VOkB base w' (o.getD nullV) A B nl cl nm cm) ∧ Below w.heap.size w w'
theorem res_cell2 {fn : Func} {p q : Tmp} {ty : TypeId} (h : fn.results = #[.cell p ty, .tmp q]) (tmps : Array Value) (a : Addr) (v u : Value) (W : World) (hp : tmps.getD p undef = .pointer (some a)) (hq : tmps.getD q undef = u) (hld : (loadVar ty a).run Tryd.prog W = .ok v W) : (results fn tmps).run Tryd.prog W = .ok (.tuple #[v, u]) W := by
  simp only [Array.getD_eq_getD_getElem?] at hp hq
  subst hq
  simp [results, h, hp, asAddr, hld]
set_option maxHeartbeats 4000000 in
theorem reffind_calls (base : Nat) (t : JT) (A : Option Addr) (n c : Nat) (key : List UInt8) (w : World) (hn : Room n c t.ext) (hBs : base ≤ w.heap.size) (hs : JSl (· < base) w true A t) :
    Calls Tryd.prog 24 #[.slice A n c, .string ⟨key.toArray⟩] w (FRes base (t.findV key) w) := by
  obtain ⟨hn, hnc, hc47⟩ := hn
  obtain ⟨R, hR⟩ : ∃ R, t.findV key = R := ⟨_, rfl⟩
  have HS := Lib.hid hs
  have HNX := Lib.hid hn
  have HR0 := Lib.hid (show R = (t.fall 0).findV key by rw [JT.fall_zero, hR])
  rw [hR]
  clear hs hn hR
  go_enter Tryd.func24, Tryd.ntmps24
  go_wp2_with fail
  have hz := Blk.new w [.int .i64 0, .bool false, .int .i64 0, .string ⟨#[]⟩, .slice none 0 0, .slice none 0 0] 25
  have HB0 := Lib.hid ((Below.refl w.heap.size w).alloc (Nat.le_refl _) (.cells #[.int .i64 0, .bool false, .int .i64 0, .string ⟨#[]⟩, .slice none 0 0, .slice none 0 0] 25))
  go_loopw [10] (fun i wr => ∃ k : Nat, k ≤ n ∧ i = .int .i64 (k : Int) ∧ Hid (Below w.heap.size w wr) ∧ Hid (Blk wr w.heap.size 25 [.int .i64 0, .bool false, .int .i64 0, .string ⟨#[]⟩, .slice none 0 0, .slice none 0 0]) ∧ Hid (R = (t.fall k).findV key)) (fun i _ => n - (intOf i).toNat)
  case atStart => exact ⟨0, by omega, rfl, HB0, Lib.hid hz, HR0⟩
  case round =>
    obtain ⟨k, hk, rfl, hB, hZ, hF⟩ := hrel
    clear hz
    by_cases hlt : k < n
    · have hkx : k < t.ext := by rw [← HNX.out]; exact hlt
      obtain ⟨eb, eo, eA, enl, ecl, eB, enm, ecm, rfl, eP, ebl, eK, eKl, f0, f1, f2, f3, f4, f5, r1, r2, s1, s2, hf⟩ := (HS.out.blw (hB.out.mono hBs)).mb (i := k) _ hkx
      obtain ⟨eu, hev⟩ : ∃ eu, (t.fall k).val = eu := ⟨_, rfl⟩
      obtain ⟨ek, hek⟩ : ∃ ek, (t.fall k).key = ek := ⟨_, rfl⟩
      have HF2 := Lib.hid (show R = if ek = key then some eu else (t.fall (k + 1)).findV key by rw [hF.out, findV_step t k key hkx, hek, hev])
      rw [hev] at f0 f1 f2 f3 r1 r2 s1 s2 hf
      rw [hek] at eK
      have HV := Lib.hid (And.intro r1 (And.intro r2 (And.intro s1 (And.intro s2 hf))))
      have hz2 := hZ.out.alloc (.cells #[.string ⟨ek.toArray⟩, .int .i64 eu.kd, .bool eu.is, .int .i64 eu.n, .string ⟨eu.s.toArray⟩, .slice eA enl ecl, .slice eB enm ecm] 70)
      have HZ2 := Lib.hid hz2
      have HB2 := Lib.hid (hB.out.alloc hB.out.size (.cells #[.string ⟨ek.toArray⟩, .int .i64 eu.kd, .bool eu.is, .int .i64 eu.n, .string ⟨eu.s.toArray⟩, .slice eA enl ecl, .slice eB enm ecm] 70))
      clear eP eKl r1 r2 s1 s2 hf hev hek hkx
      by_cases hkk : ek = key
      · have ht : (ek == key) = true := by simpa using hkk
        have HF3 := Lib.hid (show R = some eu by rw [HF2.out, if_pos hkk])
        obtain ⟨c0, c1, c2, c3, c4, c5, g0, g1, g2, g3, g4, g5⟩ := cells6 hz2
        clear hkk hz2
        go_wp2_with fail
        have HB6 := Lib.hid (show Below w.heap.size wr (wr.alloc (.cells #[.string ⟨ek.toArray⟩, .int .i64 eu.kd, .bool eu.is, .int .i64 eu.n, .string ⟨eu.s.toArray⟩, .slice eA enl ecl, .slice eB enm ecm] 70)) from (Below.refl _ _).alloc hB.out.size _)
        rw [HF3.out]
        exact bodyPost_ret (res_cell2 rfl _ ⟨w.heap.size, 0, none⟩ _ (.bool true) _ rfl rfl (Blk.load (blk6 HZ2.out) _ Tryd.underlying25 rfl size_val)) rfl ⟨⟨eA, eB, enl, ecl, enm, ecm, rfl, VOkB.blw ⟨HV.out.1, HV.out.2.1, HV.out.2.2.1, HV.out.2.2.2.1, HV.out.2.2.2.2⟩ ((below6 HB6.out (Nat.le_refl _)).mono hBs)⟩, below6 HB2.out (Nat.le_refl _)⟩
      · have ht : (ek == key) = false := by simpa using hkk
        have HF3 := Lib.hid (show R = (t.fall (k + 1)).findV key by rw [HF2.out, if_neg hkk])
        clear hkk hz2
        go_wp2_with fail
        go_roundw
        case rel => exact ⟨k + 1, by omega, by go_num, HB2, HZ2, HF3⟩
        case measure => simp [intOf]; omega
    · obtain rfl : k = n := by omega
      have HF3 := Lib.hid (show R = none by rw [hF.out, HNX.out, findV_end])
      obtain ⟨c0, c1, c2, c3, c4, c5, g0, g1, g2, g3, g4, g5⟩ := cells6 hZ.out
      go_wp2_with fail
      rw [HF3.out]
      exact bodyPost_ret (res_cell2 rfl _ ⟨w.heap.size, 0, none⟩ _ (.bool false) _ rfl rfl (Blk.load (blk6 hZ.out) _ Tryd.underlying25 rfl size_val)) rfl ⟨⟨none, none, 0, 0, 0, 0, rfl, nullB_ok _ _⟩, below6 hB.out (Nat.le_refl _)⟩
end Go.Proofs.YtpleminoiodmgaaDoor
namespace Go.Proofs.YtpleminoiodmgaaDoor
open Go.ChangeShapes Go.WideShapes Go.ChangeAt Go.RowKit Go.IntWalk
set_option linter.unusedVariables false
set_option maxRecDepth 100000

/-- The text of a key; empty, where there is none. -/
def textV (v : Jv) (key : List UInt8) : List UInt8 := let u := (getJ v key).getD nullV; if u.kd = 3 then u.s else []
theorem textV_3 {v : Jv} {key : List UInt8} {u : Jv} (hu : (getJ v key).getD nullV = u) (h : u.kd = 3) : textV v key = u.s := by unfold textV; rw [hu]; exact if_pos h
theorem textV_n {v : Jv} {key : List UInt8} {u : Jv} (hu : (getJ v key).getD nullV = u) (h : ¬ u.kd = 3) : textV v key = [] := by unfold textV; rw [hu]; exact if_neg h
theorem textV_m {v : Jv} {key : List UInt8} (h : ¬ v.kd = 5) : textV v key = [] := by unfold textV getJ; rw [if_neg h]; rfl
def TxPost (s : List UInt8) (w : World) (e : Ending) (w' : World) : Prop := e = .returned (.string ⟨s.toArray⟩) ∧ Below w.heap.size w w'
set_option maxHeartbeats 4000000 in
theorem text_calls (v : Jv) (A B : Option Addr) (nl cl nm cm : Nat) (key : List UInt8) (w : World) (hv : VOk w v A B nl cl nm cm) (hr : Rise (slts v.m)) (hbk : v.bulk ≤ 50000) :
    Calls Tryd.prog 34 #[.agg #[.int .i64 v.kd, .bool v.is, .int .i64 v.n, .string ⟨v.s.toArray⟩, .slice A nl cl, .slice B nm cm], .string ⟨key.toArray⟩] w (TxPost (textV v key) w) := by
  have b0 : Below w.heap.size w (w.alloc (.cells #[.int .i64 v.kd, .bool v.is, .int .i64 v.n, .string ⟨v.s.toArray⟩, .slice A nl cl, .slice B nm cm] 25)) := (Below.refl _ _).alloc (Nat.le_refl _) _
  have HB := Lib.hid b0
  have hx := Blk.new w [.int .i64 v.kd, .bool v.is, .int .i64 v.n, .string ⟨v.s.toArray⟩, .slice A nl cl, .slice B nm cm] 25
  have d0 := hx.cell (k := 0) rfl; have d1 := hx.cell (k := 1) rfl; have d2 := hx.cell (k := 2) rfl; have d3 := hx.cell (k := 3) rfl; have d4 := hx.cell (k := 4) rfl; have d5 := hx.cell (k := 5) rfl
  have HG := Lib.hid (get_calls v A B nl cl nm cm key _ (hv.below b0) hr hbk)
  clear hv hr hbk b0 hx
  go_enter Tryd.func34, Tryd.ntmps34
  go_wp2_with fail
  refine HG.out.mono ?_
  rintro e w1 ⟨⟨u, A1, B1, nl1, cl1, nm1, cm1, hu, rfl, hn⟩, b1⟩
  have HB1 := Lib.hid (HB.out.then_ (b1.then_ ((Below.refl _ _).alloc (Nat.le_refl _) (.cells #[.int .i64 u.kd, .bool u.is, .int .i64 u.n, .string ⟨u.s.toArray⟩, .slice A1 nl1 cl1, .slice B1 nm1 cm1] 25))))
  have hy := Blk.new w1 [.int .i64 u.kd, .bool u.is, .int .i64 u.n, .string ⟨u.s.toArray⟩, .slice A1 nl1 cl1, .slice B1 nm1 cm1] 25
  have e0 := hy.cell (k := 0) rfl; have e1 := hy.cell (k := 1) rfl; have e2 := hy.cell (k := 2) rfl; have e3 := hy.cell (k := 3) rfl; have e4 := hy.cell (k := 4) rfl; have e5 := hy.cell (k := 5) rfl
  clear b1 hn hy d0 d1 d2 d3 d4 d5
  by_cases h3 : u.kd = 3
  · have HT := Lib.hid (textV_3 hu.symm h3)
    have k3 : (u.kd != 3) = false := by rw [h3]; rfl
    clear hu h3
    go_wp2_with fail
    go_ret
    rw [HT.out]
    exact ⟨rfl, HB1.out⟩
  · have HT := Lib.hid (textV_n hu.symm h3)
    have k3 : (u.kd != 3) = true := by rw [bne_iff_ne]; exact h3
    clear hu h3
    go_wp2_with fail
    go_ret
    rw [HT.out]
    exact ⟨rfl, HB1.out⟩
set_option maxHeartbeats 4000000 in
theorem reftextU_calls (v : Jv) (A B : Option Addr) (nl cl nm cm : Nat) (key : List UInt8) (w : World) (hv : VOk w v A B nl cl nm cm) :
    Calls Tryd.prog 23 #[.agg #[.int .i64 v.kd, .bool v.is, .int .i64 v.n, .string ⟨v.s.toArray⟩, .slice A nl cl, .slice B nm cm], .string ⟨key.toArray⟩] w (TxPost (textV v key) w) := by
  have b0 : Below w.heap.size w (w.alloc (.cells #[.int .i64 v.kd, .bool v.is, .int .i64 v.n, .string ⟨v.s.toArray⟩, .slice A nl cl, .slice B nm cm] 25)) := (Below.refl _ _).alloc (Nat.le_refl _) _
  have HB := Lib.hid b0
  have hx := Blk.new w [.int .i64 v.kd, .bool v.is, .int .i64 v.n, .string ⟨v.s.toArray⟩, .slice A nl cl, .slice B nm cm] 25
  have d0 := hx.cell (k := 0) rfl; have d5 := hx.cell (k := 5) rfl
  by_cases h5 : v.kd = 5
  · have k5 : (v.kd != 5) = false := by rw [h5]; rfl
    have hv1 := hv.below b0
    have HG := Lib.hid (reffind_calls _ v.m B nm cm key _ hv1.2.1 (Nat.le_refl _) hv1.2.2.2.1)
    obtain ⟨o, ho⟩ : ∃ o, v.m.findV key = o := ⟨_, rfl⟩
    rw [ho] at HG
    have HO := Lib.hid (show (getJ v key).getD nullV = o.getD nullV by unfold getJ; rw [if_pos h5, ho])
    clear hv hv1 b0 hx h5 ho
    go_enter Tryd.func23, Tryd.ntmps23
    go_wp2_with fail
    refine HG.out.mono ?_
    obtain ⟨u, hu⟩ : ∃ u, o.getD nullV = u := ⟨_, rfl⟩
    unfold FRes
    rw [hu] at HO ⊢
    rintro e w1 ⟨⟨A1, B1, nl1, cl1, nm1, cm1, rfl, hn⟩, b1⟩
    have HB1 := Lib.hid (HB.out.then_ (b1.then_ ((Below.refl _ _).alloc (Nat.le_refl _) (.cells #[.int .i64 u.kd, .bool u.is, .int .i64 u.n, .string ⟨u.s.toArray⟩, .slice A1 nl1 cl1, .slice B1 nm1 cm1] 25))))
    have hy := Blk.new w1 [.int .i64 u.kd, .bool u.is, .int .i64 u.n, .string ⟨u.s.toArray⟩, .slice A1 nl1 cl1, .slice B1 nm1 cm1] 25
    have e0 := hy.cell (k := 0) rfl; have e1 := hy.cell (k := 1) rfl; have e2 := hy.cell (k := 2) rfl; have e3 := hy.cell (k := 3) rfl; have e4 := hy.cell (k := 4) rfl; have e5 := hy.cell (k := 5) rfl
    clear b1 hn hy d0 d5 hu
    by_cases h3 : u.kd = 3
    · have HT := Lib.hid (textV_3 HO.out h3)
      have k3 : (u.kd != 3) = false := by rw [h3]; rfl
      clear h3
      go_wp2_with fail
      go_ret
      rw [HT.out]
      exact ⟨rfl, HB1.out⟩
    · have HT := Lib.hid (textV_n HO.out h3)
      have k3 : (u.kd != 3) = true := by rw [bne_iff_ne]; exact h3
      clear h3
      go_wp2_with fail
      go_ret
      rw [HT.out]
      exact ⟨rfl, HB1.out⟩
  · have k5 : (v.kd != 5) = true := by rw [bne_iff_ne]; exact h5
    have HT := Lib.hid (textV_m (key := key) h5)
    clear hv b0 hx h5
    go_enter Tryd.func23, Tryd.ntmps23
    go_wp2_with fail
    go_ret
    rw [HT.out]
    exact ⟨rfl, HB.out⟩
end Go.Proofs.YtpleminoiodmgaaDoor
