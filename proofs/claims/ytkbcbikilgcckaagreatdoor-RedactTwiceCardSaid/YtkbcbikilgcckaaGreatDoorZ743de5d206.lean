/- Texts put together: JfD JgC RdN RdF RdG RdH. -/
import Derived.Test.YtkbcbikilgcckaaGreatDoorZ7b5f5c7dc7
import Derived.Test.YtkbcbikilgcckaaGreatDoorZ3b60d505ed
import Derived.Test.YtkbcbikilgcckaaGreatDoorZae125c35ba
import Derived.Test.YtkbcbikilgcckaaGreatDoorShelf
import Derived.Test.YtkbcbikilgcckaaGreatDoorZcf87a46e79
import Derived.Lib.SliceRun
import Derived.Deep.AppendLies
import Derived.Deep.MidRow
namespace Go.Proofs.YtkbcbikilgcckaaGreatDoor
open Go.ChangeShapes Go.WideShapes Go.ChangeAt Go.RowKit Go.IntWalk
set_option linter.unusedVariables false
set_option maxRecDepth 100000

def FrPost (a : Jv) (w : World) (e : Ending) (w' : World) : Prop :=
  (∃ (A B : Option Addr) (nl cl nm cm : Nat), e = .returned (.agg #[.int .i64 a.kd, .bool a.is, .int .i64 a.n, .string ⟨a.s.toArray⟩, .slice A nl cl, .slice B nm cm]) ∧ VNew w.heap.size w' a A B nl cl nm cm) ∧ Below w.heap.size w w'
theorem VOk.bel {w : World} {v : Jv} {A B : Option Addr} {nl cl nm cm : Nat} (h : VOk w v A B nl cl nm cm) : VBel w.heap.size w v A B nl cl nm cm := h
theorem Bx.below {pc : Nat} {a w w' : World} (h0 : Below a.heap.size a w) (h : Bx w.heap.size pc w w') (hp : a.heap.size ≤ pc) : Below a.heap.size a w' :=
  ⟨h.os.trans h0.os, h.tape.trans h0.tape, h.output.trans h0.output, Nat.le_trans h0.size h.size, fun k hk => (h.block k (Nat.lt_of_lt_of_le hk h0.size) (by omega)).trans (h0.block k hk)⟩
set_option maxHeartbeats 4000000 in
theorem fresh_calls (a : Jv) (A0 B0 : Option Addr) (nl0 cl0 nm0 cm0 : Nat) (w : World) (hv : VOk w a A0 B0 nl0 cl0 nm0 cm0) (hb : a.bulk ≤ 50000) : Calls Tryz.prog 29 #[.agg #[.int .i64 a.kd, .bool a.is, .int .i64 a.n, .string ⟨a.s.toArray⟩, .slice A0 nl0 cl0, .slice B0 nm0 cm0]] w (FrPost a w) := by
  have b3 : Below w.heap.size w (((w.alloc (.cells #[.int .i64 a.kd, .bool a.is, .int .i64 a.n, .string ⟨a.s.toArray⟩, .slice A0 nl0 cl0, .slice B0 nm0 cm0] 25)).alloc (.cells #[.int .i64 0, .bool false, .int .i64 0, .string ⟨#[]⟩, .slice none 0 0, .slice none 0 0] 25)).alloc (.cells #[.int .i64 1048576] 71)) := (((Below.refl _ _).alloc (Nat.le_refl _) _).alloc (by simp) _).alloc (by simp; omega) _
  have hsz : ((w.alloc (.cells #[.int .i64 a.kd, .bool a.is, .int .i64 a.n, .string ⟨a.s.toArray⟩, .slice A0 nl0 cl0, .slice B0 nm0 cm0] 25)).alloc (.cells #[.int .i64 0, .bool false, .int .i64 0, .string ⟨#[]⟩, .slice none 0 0, .slice none 0 0] 25)).heap.size = w.heap.size + 2 := by simp
  have hp : Blk (((w.alloc (.cells #[.int .i64 a.kd, .bool a.is, .int .i64 a.n, .string ⟨a.s.toArray⟩, .slice A0 nl0 cl0, .slice B0 nm0 cm0] 25)).alloc (.cells #[.int .i64 0, .bool false, .int .i64 0, .string ⟨#[]⟩, .slice none 0 0, .slice none 0 0] 25)).alloc (.cells #[.int .i64 1048576] 71)) (w.heap.size + 2) 71 [.int .i64 1048576] := by have h := Blk.new ((w.alloc (.cells #[.int .i64 a.kd, .bool a.is, .int .i64 a.n, .string ⟨a.s.toArray⟩, .slice A0 nl0 cl0, .slice B0 nm0 cm0] 25)).alloc (.cells #[.int .i64 0, .bool false, .int .i64 0, .string ⟨#[]⟩, .slice none 0 0, .slice none 0 0] 25)) [.int .i64 1048576] 71; rw [hsz] at h; exact h
  have hx : Blk (((w.alloc (.cells #[.int .i64 a.kd, .bool a.is, .int .i64 a.n, .string ⟨a.s.toArray⟩, .slice A0 nl0 cl0, .slice B0 nm0 cm0] 25)).alloc (.cells #[.int .i64 0, .bool false, .int .i64 0, .string ⟨#[]⟩, .slice none 0 0, .slice none 0 0] 25)).alloc (.cells #[.int .i64 1048576] 71)) w.heap.size 25 [.int .i64 a.kd, .bool a.is, .int .i64 a.n, .string ⟨a.s.toArray⟩, .slice A0 nl0 cl0, .slice B0 nm0 cm0] := ((Blk.new w [.int .i64 a.kd, .bool a.is, .int .i64 a.n, .string ⟨a.s.toArray⟩, .slice A0 nl0 cl0, .slice B0 nm0 cm0] 25).alloc _).alloc _
  have hz : Blk (((w.alloc (.cells #[.int .i64 a.kd, .bool a.is, .int .i64 a.n, .string ⟨a.s.toArray⟩, .slice A0 nl0 cl0, .slice B0 nm0 cm0] 25)).alloc (.cells #[.int .i64 0, .bool false, .int .i64 0, .string ⟨#[]⟩, .slice none 0 0, .slice none 0 0] 25)).alloc (.cells #[.int .i64 1048576] 71)) (w.heap.size + 1) 25 [.int .i64 0, .bool false, .int .i64 0, .string ⟨#[]⟩, .slice none 0 0, .slice none 0 0] := by
    have h := Blk.new (w.alloc (.cells #[.int .i64 a.kd, .bool a.is, .int .i64 a.n, .string ⟨a.s.toArray⟩, .slice A0 nl0 cl0, .slice B0 nm0 cm0] 25)) [.int .i64 0, .bool false, .int .i64 0, .string ⟨#[]⟩, .slice none 0 0, .slice none 0 0] 25
    rw [show (w.alloc (.cells #[.int .i64 a.kd, .bool a.is, .int .i64 a.n, .string ⟨a.s.toArray⟩, .slice A0 nl0 cl0, .slice B0 nm0 cm0] 25)).heap.size = w.heap.size + 1 by simp] at h
    exact h.alloc _
  have hv3 := hv.below b3
  have hvb : VBel w.heap.size (((w.alloc (.cells #[.int .i64 a.kd, .bool a.is, .int .i64 a.n, .string ⟨a.s.toArray⟩, .slice A0 nl0 cl0, .slice B0 nm0 cm0] 25)).alloc (.cells #[.int .i64 0, .bool false, .int .i64 0, .string ⟨#[]⟩, .slice none 0 0, .slice none 0 0] 25)).alloc (.cells #[.int .i64 1048576] 71)) a A0 B0 nl0 cl0 nm0 cm0 := ⟨hv.1, hv.2.1, hv.2.2.1.stay (fun b o h => b3.cell (p := ⟨b, o, none⟩) h) (fun _ h => h), hv.2.2.2.1.stay (fun b o h => b3.cell (p := ⟨b, o, none⟩) h) (fun _ h => h), hv.2.2.2.2⟩
  have HC := Lib.hid (show Calls Tryz.prog 53 #[.pointer (some ⟨w.heap.size + 2, 0, none⟩), .agg #[.int .i64 a.kd, .bool a.is, .int .i64 a.n, .string ⟨a.s.toArray⟩, .slice A0 nl0 cl0, .slice B0 nm0 cm0], .int .i64 0] (((w.alloc (.cells #[.int .i64 a.kd, .bool a.is, .int .i64 a.n, .string ⟨a.s.toArray⟩, .slice A0 nl0 cl0, .slice B0 nm0 cm0] 25)).alloc (.cells #[.int .i64 0, .bool false, .int .i64 0, .string ⟨#[]⟩, .slice none 0 0, .slice none 0 0] 25)).alloc (.cells #[.int .i64 1048576] 71)) (FvPost a (w.heap.size + 2) 0 (((w.alloc (.cells #[.int .i64 a.kd, .bool a.is, .int .i64 a.n, .string ⟨a.s.toArray⟩, .slice A0 nl0 cl0, .slice B0 nm0 cm0] 25)).alloc (.cells #[.int .i64 0, .bool false, .int .i64 0, .string ⟨#[]⟩, .slice none 0 0, .slice none 0 0] 25)).alloc (.cells #[.int .i64 1048576] 71))) from
    fval_calls a.bulk a A0 B0 nl0 cl0 nm0 cm0 (w.heap.size + 2) 1048576 0 0 w.heap.size (((w.alloc (.cells #[.int .i64 a.kd, .bool a.is, .int .i64 a.n, .string ⟨a.s.toArray⟩, .slice A0 nl0 cl0, .slice B0 nm0 cm0] 25)).alloc (.cells #[.int .i64 0, .bool false, .int .i64 0, .string ⟨#[]⟩, .slice none 0 0, .slice none 0 0] 25)).alloc (.cells #[.int .i64 1048576] 71)) (Nat.le_refl _) (by omega) (by omega) hp.lt hp (by unfold Jv.bulk at hb; omega) (Nat.le_refl _) hvb)
  have HB := Lib.hid b3
  have HZ := Lib.hid hz
  obtain ⟨d0, d1, d2, d3, d4, d5, _⟩ := cells6s hx
  clear b3 hsz hp hx hz hv3 hvb hv hb
  go_enter Tryz.func29, Tryz.ntmps29
  go_wp2_with fail
  refine HC.out.mono ?_
  rintro e w4 ⟨⟨A, B, nl, cl, nm, cm, rfl, hn⟩, _, hbx⟩
  have hz4 := hbx.blk HZ.out HZ.out.lt (by omega)
  have HN := Lib.hid (And.intro hn (And.intro (Bx.below HB.out hbx (by omega)) hz4))
  obtain ⟨g0, g1, g2, g3, g4, g5, k0, k1, k2, k3, k4, k5⟩ := cells6s hz4
  have HW3 := Lib.hid (show w.heap.size + 2 ≤ (((w.alloc (.cells #[.int .i64 a.kd, .bool a.is, .int .i64 a.n, .string ⟨a.s.toArray⟩, .slice A0 nl0 cl0, .slice B0 nm0 cm0] 25)).alloc (.cells #[.int .i64 0, .bool false, .int .i64 0, .string ⟨#[]⟩, .slice none 0 0, .slice none 0 0] 25)).alloc (.cells #[.int .i64 1048576] 71)).heap.size by simp)
  clear hn hbx hz4 d0 d1 d2 d3 d4 d5
  go_wp2_with fail
  refine bodyPost_ret (res_cell6 rfl _ ⟨w.heap.size + 1, 0, none⟩ _ _ rfl (Blk.load (blk6o (o := 0) HN.out.2.2) _ Tryz.underlying25 rfl size_v6)) rfl ⟨⟨A, B, nl, cl, nm, cm, rfl, HN.out.1.1, HN.out.1.2.1, HN.out.1.2.2.1.stay (fun b o hb => cell6o (o := 0) (by have := hb.1; have := HW3.out; omega)) (fun b hb => ⟨by have := hb.1; have := HW3.out; omega, ?_⟩), HN.out.1.2.2.2.1.stay (fun b o hb => cell6o (o := 0) (by have := hb.1; have := HW3.out; omega)) (fun b hb => ⟨by have := hb.1; have := HW3.out; omega, ?_⟩), HN.out.1.2.2.2.2⟩, ?_⟩
  · show b < (set6o w4 (w.heap.size + 1) 0 _ _ _ _ _ _).heap.size; rw [size6o]; exact hb.2
  · show b < (set6o w4 (w.heap.size + 1) 0 _ _ _ _ _ _).heap.size; rw [size6o]; exact hb.2
  · exact (((((HN.out.2.1.setCell (by show _ ≤ w.heap.size + 1; omega) _).setCell (by show _ ≤ w.heap.size + 1; omega) _).setCell (by show _ ≤ w.heap.size + 1; omega) _).setCell (by show _ ≤ w.heap.size + 1; omega) _).setCell (by show _ ≤ w.heap.size + 1; omega) _).setCell (by show _ ≤ w.heap.size + 1; omega) _
end Go.Proofs.YtkbcbikilgcckaaGreatDoor
namespace Go.Proofs.YtkbcbikilgcckaaGreatDoor
open Go.ChangeShapes Go.WideShapes Go.ChangeAt Go.RowKit Go.IntWalk
set_option linter.unusedVariables false
set_option maxRecDepth 100000

theorem foundJ_lt {t : JT} {key : List UInt8} (h : foundF (slts t) (keyP key) = true) : posF (slts t) (keyP key) < t.ext := by
  unfold foundF at h
  cases hg : (slts t)[posF (slts t) (keyP key)]? with
  | none => rw [hg] at h; cases h
  | some x => have := (List.getElem?_eq_some_iff.1 hg).1; rw [slts_len] at this; exact this
def fposJ (v : Jv) (key : List UInt8) : Nat := if v.kd = 5 then posF (slts v.m) (keyP key) else 0
def ffndJ (v : Jv) (key : List UInt8) : Bool := if v.kd = 5 then foundF (slts v.m) (keyP key) else false
def getJ (v : Jv) (key : List UInt8) : Option Jv := if v.kd = 5 then v.m.findV key else none
theorem getJ_pos {v : Jv} {key : List UInt8} (hr : Rise (slts v.m)) : getJ v key = if ffndJ v key then some (v.m.fall (fposJ v key)).val else none := by
  unfold getJ ffndJ fposJ
  by_cases h5 : v.kd = 5
  · rw [if_pos h5, if_pos h5, if_pos h5, findV_pos hr]
  · rw [if_neg h5, if_neg h5]; rfl
theorem ffndJ_lt {v : Jv} {key : List UInt8} (h : ffndJ v key = true) : fposJ v key < v.m.ext := by
  unfold ffndJ at h
  unfold fposJ
  by_cases h5 : v.kd = 5
  · rw [if_pos h5] at h ⊢; exact foundJ_lt h
  · rw [if_neg h5] at h; cases h
theorem ne_beq {a b : Int} (h : ¬ a = b) : (a != b) = true := by rw [bne_iff_ne]; exact h
theorem eq_beq {a b : Int} (h : a = b) : (a != b) = false := by simp [h]
set_option maxHeartbeats 4000000 in
theorem jfind_calls (v : Jv) (A0 B0 : Option Addr) (nl0 cl0 nm0 cm0 : Nat) (key : List UInt8) (w : World) (hv : VOk w v A0 B0 nl0 cl0 nm0 cm0) (hr : Rise (slts v.m)) :
    Calls Tryz.prog 58 #[.agg #[.int .i64 v.kd, .bool v.is, .int .i64 v.n, .string ⟨v.s.toArray⟩, .slice A0 nl0 cl0, .slice B0 nm0 cm0], .string ⟨key.toArray⟩] w fun e w' => e = .returned (.tuple #[.int .i64 (fposJ v key : Int), .bool (ffndJ v key)]) ∧ Below w.heap.size w w' := by
  have b1 : Below w.heap.size w (w.alloc (.cells #[.int .i64 v.kd, .bool v.is, .int .i64 v.n, .string ⟨v.s.toArray⟩, .slice A0 nl0 cl0, .slice B0 nm0 cm0] 25)) := (Below.refl _ _).alloc (Nat.le_refl _) _
  have hx := Blk.new w [.int .i64 v.kd, .bool v.is, .int .i64 v.n, .string ⟨v.s.toArray⟩, .slice A0 nl0 cl0, .slice B0 nm0 cm0] 25
  have d0 := hx.cell (k := 0) rfl; have d5 := hx.cell (k := 5) rfl
  have HB := Lib.hid b1
  by_cases h5 : v.kd = 5
  · have HS := Lib.hid (search_callsJ B0 nm0 cm0 v.m key _ hv.2.1 (hv.2.2.2.1.up b1) hr)
    have HE := Lib.hid (show fposJ v key = posF (slts v.m) (keyP key) ∧ ffndJ v key = foundF (slts v.m) (keyP key) by unfold fposJ ffndJ; rw [if_pos h5, if_pos h5]; exact ⟨rfl, rfl⟩)
    have hn5 := eq_beq h5
    clear h5 b1 hx hv hr
    go_enter Tryz.func58, Tryz.ntmps58
    go_wp2_with fail
    refine HS.out.mono ?_
    rintro e w2 ⟨rfl, b2⟩
    rw [← HE.out.1, ← HE.out.2]
    have HB2 := Lib.hid (HB.out.then_ b2)
    clear b2 d0 d5
    go_wp2_with fail
    go_ret2
    exact ⟨rfl, HB2.out⟩
  · have HE := Lib.hid (show fposJ v key = 0 ∧ ffndJ v key = false by unfold fposJ ffndJ; rw [if_neg h5, if_neg h5]; exact ⟨rfl, rfl⟩)
    have hn5 := ne_beq h5
    clear h5 b1 hx hv hr
    go_enter Tryz.func58, Tryz.ntmps58
    go_wp2_with fail
    go_ret2
    rw [HE.out.1, HE.out.2]
    exact ⟨rfl, HB.out⟩
/-- What Get answers, and where its parts lie. -/
def GetPost (o : Option Jv) (w : World) (e : Ending) (w' : World) : Prop :=
  (∃ (u : Jv) (A B : Option Addr) (nl cl nm cm : Nat), u = o.getD nullV ∧ e = .returned (.tuple #[.agg #[.int .i64 u.kd, .bool u.is, .int .i64 u.n, .string ⟨u.s.toArray⟩, .slice A nl cl, .slice B nm cm], .bool o.isSome]) ∧ VNew w.heap.size w' u A B nl cl nm cm) ∧ Below w.heap.size w w'
theorem null_new (lo : Nat) (w : World) : VNew lo w nullV none none 0 0 0 0 := ⟨⟨rfl, Nat.le_refl _, by decide⟩, ⟨rfl, Nat.le_refl _, by decide⟩, .inl rfl, .inl rfl, by unfold Fit nullV; decide⟩
theorem VNew.set6 {lo g : Nat} {w : World} {v : Jv} {A B : Option Addr} {nl cl nm cm : Nat} {x0 x1 x2 x3 x4 x5 : Value} (h : VNew lo w v A B nl cl nm cm) (hg : g < lo) : VNew lo (set6o w g 0 x0 x1 x2 x3 x4 x5) v A B nl cl nm cm :=
  ⟨h.1, h.2.1, h.2.2.1.stay (fun b o hb => cell6o (by have := hb.1; omega)) (fun b hb => ⟨hb.1, by rw [size6o]; exact hb.2⟩), h.2.2.2.1.stay (fun b o hb => cell6o (by have := hb.1; omega)) (fun b hb => ⟨hb.1, by rw [size6o]; exact hb.2⟩), h.2.2.2.2⟩
theorem VNew.lower {lo lo' : Nat} {w : World} {v : Jv} {A B : Option Addr} {nl cl nm cm : Nat} (h : VNew lo w v A B nl cl nm cm) (hl : lo' ≤ lo) : VNew lo' w v A B nl cl nm cm :=
  ⟨h.1, h.2.1, h.2.2.1.stay (fun _ _ _ => rfl) (fun b hb => ⟨Nat.le_trans hl hb.1, hb.2⟩), h.2.2.2.1.stay (fun _ _ _ => rfl) (fun b hb => ⟨Nat.le_trans hl hb.1, hb.2⟩), h.2.2.2.2⟩
theorem below6o {B g : Nat} {a w : World} {x0 x1 x2 x3 x4 x5 : Value} (h : Below B a w) (hg : B ≤ g) : Below B a (set6o w g 0 x0 x1 x2 x3 x4 x5) :=
  (((((h.setCell (show B ≤ g from hg) _).setCell (show B ≤ g from hg) _).setCell (show B ≤ g from hg) _).setCell (show B ≤ g from hg) _).setCell (show B ≤ g from hg) _).setCell (show B ≤ g from hg) _
set_option maxHeartbeats 4000000 in
theorem get_calls (v : Jv) (A0 B0 : Option Addr) (nl0 cl0 nm0 cm0 : Nat) (key : List UInt8) (w : World) (hv : VOk w v A0 B0 nl0 cl0 nm0 cm0) (hr : Rise (slts v.m)) (hbk : v.bulk ≤ 50000) :
    Calls Tryz.prog 32 #[.agg #[.int .i64 v.kd, .bool v.is, .int .i64 v.n, .string ⟨v.s.toArray⟩, .slice A0 nl0 cl0, .slice B0 nm0 cm0], .string ⟨key.toArray⟩] w (GetPost (getJ v key) w) := by
  have b2 : Below w.heap.size w ((w.alloc (.cells #[.int .i64 v.kd, .bool v.is, .int .i64 v.n, .string ⟨v.s.toArray⟩, .slice A0 nl0 cl0, .slice B0 nm0 cm0] 25)).alloc (.cells #[.int .i64 0, .bool false, .int .i64 0, .string ⟨#[]⟩, .slice none 0 0, .slice none 0 0] 25)) := ((Below.refl _ _).alloc (Nat.le_refl _) _).alloc (by simp) _
  have hx : Blk ((w.alloc (.cells #[.int .i64 v.kd, .bool v.is, .int .i64 v.n, .string ⟨v.s.toArray⟩, .slice A0 nl0 cl0, .slice B0 nm0 cm0] 25)).alloc (.cells #[.int .i64 0, .bool false, .int .i64 0, .string ⟨#[]⟩, .slice none 0 0, .slice none 0 0] 25)) w.heap.size 25 [.int .i64 v.kd, .bool v.is, .int .i64 v.n, .string ⟨v.s.toArray⟩, .slice A0 nl0 cl0, .slice B0 nm0 cm0] := (Blk.new w [.int .i64 v.kd, .bool v.is, .int .i64 v.n, .string ⟨v.s.toArray⟩, .slice A0 nl0 cl0, .slice B0 nm0 cm0] 25).alloc _
  have hz : Blk ((w.alloc (.cells #[.int .i64 v.kd, .bool v.is, .int .i64 v.n, .string ⟨v.s.toArray⟩, .slice A0 nl0 cl0, .slice B0 nm0 cm0] 25)).alloc (.cells #[.int .i64 0, .bool false, .int .i64 0, .string ⟨#[]⟩, .slice none 0 0, .slice none 0 0] 25)) (w.heap.size + 1) 25 [.int .i64 0, .bool false, .int .i64 0, .string ⟨#[]⟩, .slice none 0 0, .slice none 0 0] := by have h := Blk.new (w.alloc (.cells #[.int .i64 v.kd, .bool v.is, .int .i64 v.n, .string ⟨v.s.toArray⟩, .slice A0 nl0 cl0, .slice B0 nm0 cm0] 25)) [.int .i64 0, .bool false, .int .i64 0, .string ⟨#[]⟩, .slice none 0 0, .slice none 0 0] 25; rw [show (w.alloc (.cells #[.int .i64 v.kd, .bool v.is, .int .i64 v.n, .string ⟨v.s.toArray⟩, .slice A0 nl0 cl0, .slice B0 nm0 cm0] 25)).heap.size = w.heap.size + 1 by simp] at h; exact h
  have HB := Lib.hid b2
  have HX := Lib.hid hx
  have HZ := Lib.hid hz
  have HV := Lib.hid (hv.below b2)
  have HV0 := Lib.hid hv
  have HF := Lib.hid (jfind_calls v A0 B0 nl0 cl0 nm0 cm0 key _ HV.out hr)
  have hgj := getJ_pos (key := key) hr
  obtain ⟨d0, d1, d2, d3, d4, d5, _⟩ := cells6s hx
  obtain ⟨ps, hps⟩ : ∃ ps, fposJ v key = ps := ⟨_, rfl⟩
  have hlt := fun h => @ffndJ_lt v key h
  rw [hps] at hlt hgj HF
  have HLT := Lib.hid hlt
  cases hf : ffndJ v key with
  | false =>
    rw [hf] at hgj HF
    have HG := Lib.hid (show getJ v key = none from hgj)
    clear b2 hx hz hv hr hgj hlt hf hps hbk
    go_enter Tryz.func32, Tryz.ntmps32
    go_wp2_with fail
    refine HF.out.mono ?_
    rintro e w3 ⟨rfl, b3⟩
    have HZ3 := Lib.hid (HZ.out.later b3)
    have HB3 := Lib.hid (HB.out.then_ b3)
    obtain ⟨g0, g1, g2, g3, g4, g5, k0, k1, k2, k3, k4, k5⟩ := cells6s HZ3.out
    clear b3 d0 d1 d2 d3 d4 d5
    go_wp2_with fail
    rw [HG.out]
    exact bodyPost_ret (res_cell62 rfl _ ⟨w.heap.size + 1, 0, none⟩ _ _ _ rfl rfl (Blk.load (blk6o (o := 0) HZ3.out) _ Tryz.underlying25 rfl size_v6)) rfl ⟨⟨nullV, none, none, 0, 0, 0, 0, rfl, rfl, null_new _ _⟩, below6o HB3.out (by omega)⟩
  | true =>
    rw [hf] at hgj HF
    have HL := Lib.hid (HLT.out hf)
    have HG := Lib.hid (show getJ v key = some (v.m.fall ps).val from hgj)
    have hbu : (v.m.fall ps).val.bulk ≤ 50000 := Nat.le_trans (JT.bulk_val v.m ps HL.out) (by unfold Jv.bulk at hbk; omega)
    have HBU := Lib.hid hbu
    have hps2 : ps < nm0 := by rw [hv.2.1.1]; exact HL.out
    have hnm47 : nm0 ≤ 140737488355328 := hv.2.1.2.2
    clear b2 hx hz hv hr hgj hlt hf hps hbk hbu
    go_enter Tryz.func32, Tryz.ntmps32
    go_wp2_with fail
    refine HF.out.mono ?_
    rintro e w3 ⟨rfl, b3⟩
    have HZ3 := Lib.hid (HZ.out.later b3)
    have HB3 := Lib.hid (HB.out.then_ b3)
    have hx3 := HX.out.later b3
    have hd5 := hx3.cell (k := 5) rfl
    obtain ⟨eb, eo, eA, enl, ecl, eB, enm, ecm, rfl, eP, ebl, eK, eKl, f0, f1, f2, f3, f4, f5, r1, r2, s1, s2, hf⟩ := (HV0.out.2.2.2.1.up HB3.out).mb (i := ps) _ HL.out
    obtain ⟨eu, hev⟩ : ∃ eu, (v.m.fall ps).val = eu := ⟨_, rfl⟩
    rw [hev] at f0 f1 f2 f3 r1 r2 s1 s2 hf HBU HG
    have HC := Lib.hid (fresh_calls eu eA eB enl ecl enm ecm w3 ⟨r1, r2, s1, s2, hf⟩ HBU.out)
    clear b3 d0 d1 d2 d3 d4 d5 eP eK eKl r1 r2 s1 s2 hf hev hx3 ebl
    go_wp2_with fail
    refine HC.out.mono ?_
    rintro e w4 ⟨⟨A, B, nl, cl, nm, cm, rfl, hn⟩, b4⟩
    have HZ4 := Lib.hid (HZ3.out.later b4)
    have HB4 := Lib.hid (HB3.out.then_ b4)
    have HN := Lib.hid hn
    have HW := Lib.hid (show w.heap.size + 2 ≤ w3.heap.size from HZ3.out.lt)
    obtain ⟨g0, g1, g2, g3, g4, g5, k0, k1, k2, k3, k4, k5⟩ := cells6s HZ4.out
    clear b4 hn hd5 f0 f1 f2 f3 f4 f5
    go_wp2_with fail
    rw [HG.out]
    exact bodyPost_ret (res_cell62 rfl _ ⟨w.heap.size + 1, 0, none⟩ _ _ _ rfl rfl (Blk.load (blk6o (o := 0) HZ4.out) _ Tryz.underlying25 rfl size_v6)) rfl ⟨⟨eu, A, B, nl, cl, nm, cm, rfl, rfl, (HN.out.set6 (by have := HW.out; omega)).lower (by have := HW.out; omega)⟩, below6o HB4.out (by omega)⟩
end Go.Proofs.YtkbcbikilgcckaaGreatDoor
namespace Go.Proofs.YtkbcbikilgcckaaGreatDoor
open Go.ChangeShapes Go.WideShapes Go.ChangeAt Go.RowKit
set_option linter.unusedVariables false
set_option maxRecDepth 100000

/-- It lies at B or above. -/
def NewAt (B : Nat) (A : Option Addr) : Prop := ∀ b o, A = some ⟨b, o, none⟩ → B ≤ b
/-- Blocks from B on stay what they are. -/
structure Up (B : Nat) (w w' : World) : Prop where
  size : w.heap.size ≤ w'.heap.size
  block : ∀ b, B ≤ b → b < w.heap.size → w'.heap[b]? = w.heap[b]?
section
variable {B : Nat} {w w' w2 : World} {A : Option Addr}
theorem NewAt.none (B : Nat) : NewAt B none := fun _ _ h => by cases h
theorem NewAt.mono {B' : Nat} (h : NewAt B A) (hB : B' ≤ B) : NewAt B' A := fun b o e => Nat.le_trans hB (h b o e)
theorem Up.refl (B : Nat) (w : World) : Up B w w := ⟨Nat.le_refl _, fun _ _ _ => rfl⟩
theorem Up.trans (h : Up B w w') (k : Up B w' w2) : Up B w w2 := ⟨Nat.le_trans h.size k.size, fun b hb hl => (k.block b hb (Nat.lt_of_lt_of_le hl h.size)).trans (h.block b hb hl)⟩
theorem Up.of (h : Below w.heap.size w w') : Up B w w' := ⟨h.size, fun b _ hl => h.block b hl⟩
theorem Up.mono {B' : Nat} (h : Up B w w') (hB : B ≤ B') : Up B' w w' := ⟨h.size, fun b hb => h.block b (Nat.le_trans hB hb)⟩
theorem Up.cells {g : Nat} (hg : g < B) (o : Nat) (vs : List Value) (w : World) : Up B w (w.setCells g o vs) :=
  ⟨(blw_cells (B := 0) (Nat.zero_le _) vs o w (Below.refl _ _)).size, fun b hb _ => blkOther (by omega) vs o w⟩
theorem Up.setCell {g : Nat} (hg : g < B) (o : Nat) (v : Value) (w : World) : Up B w (w.setCell ⟨g, o, none⟩ v) := Up.cells hg o [v] w
theorem Up.cell (h : Up B w w') {b o : Nat} (hb : B ≤ b) (hl : b < w.heap.size) : w'.cell? ⟨b, o, none⟩ = w.cell? ⟨b, o, none⟩ := World.cell?_of_block (w := w) (h.block b hb hl)
theorem RV.up {vs : List Value} (h : RV w A vs) (hn : NewAt B A) (hu : Up B w w') : RV w' A vs := fun k u hk => by
  obtain ⟨b, off, rfl, hlt, hc⟩ := h k u hk
  exact ⟨b, off, rfl, Nat.lt_of_lt_of_le hlt hu.size, (hu.cell (hn b off rfl) hlt).trans hc⟩
theorem VNew.up {v : Jv} {A B' : Option Addr} {nl cl nm cm : Nat} (h : VNew B w v A B' nl cl nm cm) (hu : Up B w w') : VNew B w' v A B' nl cl nm cm :=
  ⟨h.1, h.2.1, h.2.2.1.stay (fun b o hb => hu.cell hb.1 hb.2) (fun b hb => ⟨hb.1, Nat.lt_of_lt_of_le hb.2 hu.size⟩), h.2.2.2.1.stay (fun b o hb => hu.cell hb.1 hb.2) (fun b hb => ⟨hb.1, Nat.lt_of_lt_of_le hb.2 hu.size⟩), h.2.2.2.2⟩
theorem VNew.okV {v : Jv} {A B' : Option Addr} {nl cl nm cm : Nat} (h : VNew B w v A B' nl cl nm cm) : VOk w v A B' nl cl nm cm :=
  ⟨h.1, h.2.1, h.2.2.1.stay (fun _ _ _ => rfl) (fun b hb => hb.2), h.2.2.2.1.stay (fun _ _ _ => rfl) (fun b hb => hb.2), h.2.2.2.2⟩
theorem own_new {base : Nat} {E : TypeId} {vs : List Value} {n c : Nat} (h : OwnVs base E w (.slice A n c) vs) : NewAt base A := by
  rcases h.2 with ⟨h2, _⟩ | ⟨g, cap, cur, hv, hb, _⟩
  · injection h2 with h3 _ _; subst h3; exact NewAt.none _
  · injection hv with h3 _ _; subst h3
    intro b o e; injection e with e; injection e with e _; omega
/-- An event with its parts from B on. -/
def ENew (B : Nat) (w : World) (e : Ev) (a : Ea) : Prop := VNew B w e.ct a.A a.B a.nl a.cl a.nm a.cm ∧ (Strs w a.P a.np a.cp e.pv ∧ NewAt B a.P) ∧ (Strs w a.U a.nu a.cu e.au ∧ NewAt B a.U) ∧ (Sgs w a.S a.ns a.cs e.sg ∧ NewAt B a.S) ∧ EFit e
variable {e : Ev} {a : Ea}
theorem ENew.up (h : ENew B w e a) (hu : Up B w w') : ENew B w' e a := ⟨h.1.up hu, ⟨⟨h.2.1.1.1.up h.2.1.2 hu, h.2.1.1.2⟩, h.2.1.2⟩, ⟨⟨h.2.2.1.1.1.up h.2.2.1.2 hu, h.2.2.1.1.2⟩, h.2.2.1.2⟩, ⟨⟨h.2.2.2.1.1.1.up h.2.2.2.1.2 hu, h.2.2.2.1.1.2⟩, h.2.2.2.1.2⟩, h.2.2.2.2⟩
theorem ENew.ok (h : ENew B w e a) : EOk w e a := ⟨h.1.okV, h.2.1.1, h.2.2.1.1, h.2.2.2.1.1, h.2.2.2.2⟩
theorem ENew.lower {B' : Nat} (h : ENew B w e a) (hB : B' ≤ B) : ENew B' w e a := ⟨h.1.lower hB, ⟨h.2.1.1, h.2.1.2.mono hB⟩, ⟨h.2.2.1.1, h.2.2.1.2.mono hB⟩, ⟨h.2.2.2.1.1, h.2.2.2.1.2.mono hB⟩, h.2.2.2.2⟩
end
end Go.Proofs.YtkbcbikilgcckaaGreatDoor
namespace Go.Proofs.YtkbcbikilgcckaaGreatDoor
open Go.ChangeShapes Go.WideShapes Go.ChangeAt Go.RowKit Go.IntWalk
set_option linter.unusedVariables false
set_option maxRecDepth 100000

theorem strs_of {base : Nat} {w : World} {v : Value} {xs : List (List UInt8)} (h : OwnVs base 9 w v (xs.map strV)) (hn : xs.length ≤ 140737488355328) (hx : ∀ x ∈ xs, x.length ≤ 140737488355328) : ∃ A n c, v = .slice A n c ∧ Strs w A n c xs ∧ NewAt base A := by
  obtain ⟨A, n, c, rfl, hr, hl, hc⟩ := h.form
  have hl2 : n = xs.length := by have := hl.out; rw [List.length_map] at this; exact this
  exact ⟨A, n, c, rfl, ⟨hr, Lib.hid hl2, hc, by rw [hl2]; exact hn, hx⟩, own_new h⟩
theorem cloneT_calls (A : Option Addr) (n c : Nat) (xs : List (List UInt8)) (w : World) (hx : Strs w A n c xs) (hs : n ≤ 1000000) : Calls Tryz.prog 34 #[.slice A n c] w fun e w' => (∃ A' n' c', e = .returned (.slice A' n' c') ∧ Strs w' A' n' c' xs ∧ NewAt w.heap.size A') ∧ Below w.heap.size w w' := by
  obtain ⟨hr, hn, hc, h47, hl⟩ := hx
  have hn := hn.out
  have hlen : xs.length ≤ 140737488355328 := by rw [← hn]; exact h47
  cases xs with
  | nil =>
    have hn0 : n = 0 := hn
    subst hn0
    cases A with
    | none =>
      refine (Tryz.slices_Clone_string_nil 0 c w).mono ?_
      rintro e w' ⟨rfl, rfl⟩
      exact ⟨⟨none, 0, 0, rfl, ⟨RV.nil _ _, Lib.hid rfl, Nat.le_refl _, Nat.zero_le _, hl⟩, NewAt.none _⟩, Below.refl _ _⟩
    | some ad =>
      refine (Tryz.slices_Clone_string_zero ad c w).mono ?_
      rintro e w' ⟨v, rfl, ho, _, hb⟩
      obtain ⟨A', n', c', rfl, h2⟩ := strs_of (xs := []) (base := w.heap.size) (v := v) ho hlen hl
      exact ⟨⟨A', n', c', rfl, h2⟩, hb⟩
  | cons x t =>
    obtain ⟨b, off, rfl, hb0, hcell⟩ := hr.some (by simp)
    have hz : n ≤ (((x :: t).map (fun l => (⟨l.toArray⟩ : ByteArray)))).length := by rw [List.length_map, hn]; exact Nat.le_refl _
    refine (Tryz.slices_Clone_string b off n c ((x :: t).map (fun l => (⟨l.toArray⟩ : ByteArray))) w hz (by omega) (fun j hj => ?_)).mono ?_
    · rw [List.length_map] at hj
      rw [hcell j (strV ((x :: t)[j])) (by rw [List.getElem?_map, List.getElem?_eq_getElem hj]; rfl)]
      have e3 : ((x :: t).map (fun l => (⟨l.toArray⟩ : ByteArray))).getD j ByteArray.empty = ⟨((x :: t)[j]).toArray⟩ := by
        rw [List.getD_eq_getElem?_getD, List.getElem?_map, List.getElem?_eq_getElem hj]; rfl
      rw [e3]; rfl
    · rintro e w' ⟨v, rfl, ho, _, hb⟩
      have e1 : (((x :: t).map (fun l => (⟨l.toArray⟩ : ByteArray))).take n).map Value.string = (x :: t).map strV := by
        rw [List.take_of_length_le (by rw [List.length_map, hn]; exact Nat.le_refl _), List.map_map]; rfl
      rw [e1] at ho
      have e2 : n = ((x :: t).map strV).length := by rw [List.length_map]; exact hn
      have ho2 : OwnVs w.heap.size 9 w' v ((x :: t).map strV) := by unfold OwnVs; rw [← e2]; exact ho
      obtain ⟨A', n', c', rfl, h2⟩ := strs_of ho2 hlen hl
      exact ⟨⟨A', n', c', rfl, h2⟩, hb⟩
end Go.Proofs.YtkbcbikilgcckaaGreatDoor
namespace Go.Proofs.YtkbcbikilgcckaaGreatDoor
open Go.ChangeShapes Go.WideShapes Go.ChangeAt Go.RowKit Go.IntWalk
set_option linter.unusedVariables false
set_option maxRecDepth 100000

/-- The value 'v' is a slice of sigs of the call's own. -/
def OwnG (base : Nat) (w : World) (v : Value) (xs : List Sg) : Prop := w.ownsRow base 44 3 v xs.length (sgC xs)
section
variable {w w' : World} {base B : Nat} {v : Value} {xs : List Sg}
theorem OwnG.nil (base : Nat) (w : World) : OwnG base w (.slice none 0 0) [] := World.ownsRow_nil w base _ 3
theorem OwnG.alloc (h : OwnG base w v xs) (o : Obj) : OwnG base (w.alloc o) v xs := World.ownsRow.alloc h o
theorem OwnG.below (h : OwnG base w v xs) (hg : Below w.heap.size w w') : OwnG base w' v xs := by
  refine ⟨h.1, ?_⟩
  rcases h.2 with h2 | ⟨g, cap, cur, hv, hb, hh, r⟩
  · exact .inl h2
  · exact .inr ⟨g, cap, cur, hv, hb, by rw [hg.block g ((Array.getElem?_eq_some_iff.1 hh).1)]; exact hh, r⟩
theorem OwnG.lt (h : OwnG base w v xs) : ∀ k, v.ownBlock = .some k → base ≤ k ∧ k < w.heap.size := World.ownsRow.lt h
theorem OwnG.sgs (h : OwnG base w v xs) (hlx : xs.length ≤ 140737488355328) (hok : ∀ x ∈ xs, x.ok) : ∃ A n c, v = .slice A n c ∧ Sgs w A n c xs ∧ NewAt base A := by
  rcases h.2 with ⟨rfl, h0⟩ | ⟨g, cap, cur, rfl, hb, hh, hn, hm, hs, ht⟩
  · have : xs = [] := List.eq_nil_of_length_eq_zero h0
    subst this
    exact ⟨none, 0, 0, rfl, ⟨RV.nil _ _, Lib.hid rfl, Nat.le_refl _, Nat.zero_le _, hok⟩, NewAt.none _⟩
  · refine ⟨_, _, cap, rfl, ⟨fun k u hu => ⟨g, 0, rfl, (Array.getElem?_eq_some_iff.1 hh).1, ?_⟩, Lib.hid rfl, hn, hlx, hok⟩, fun b o e => by injection e with e; injection e with e _; omega⟩
    rw [Nat.zero_add, cell_of_row _ _ _ _ _ _ hh]
    rw [← ht] at hu
    simp only [List.getElem?_take] at hu
    split at hu
    · simpa using hu
    · cases hu
theorem Below.own_grownG {w0 : World} (hb : Below base w0 w) (h : OwnG base w v xs) (hg : w.grownBy w' v.ownBlock) (hw : base ≤ w.heap.size) : Below base w0 w' := by
  refine ⟨hg.os.trans hb.os, hg.tape.trans hb.tape, hg.output.trans hb.output, Nat.le_trans hb.size hg.size, fun k hk => ?_⟩
  refine (hg.block k (Nat.lt_of_lt_of_le hk hw) (fun e => ?_)).trans (hb.block k hk)
  have := (h.lt k e.symm).1
  omega
end
theorem info_sig : (Tryz.prog.info? 44).map (fun i => (i.zero, i.size, i.bytes)) = some (some (.agg #[.string ⟨#[]⟩, .string ⟨#[]⟩, .string ⟨#[]⟩]), 3, 48) := by kernel_rfl
theorem wpList_append_sigs {ops : Array Oper} {rest : List Oper} {o : Oper} {a : Act} {Q : Exit → Act → World → Prop} {w : World} (hgd : o.guard = none) (s x : Operand)
    (ho : o.op = .call { callee := .builtin .append, args := #[s, x], argTypes := #[27, 27] })
    (base : Nat) (v : Value) (xs : List Sg) (hs : a.eval s = v) (hown : OwnG base w v xs) (A : Addr) (n c : Nat) (ys : List Sg)
    (hx : a.eval x = .slice (some A) n c) (hl : RV w (some A) (sgC ys)) (hn : Hid (n = ys.length)) (hlen : xs.length + n ≤ 1000000) (hbase : base ≤ w.heap.size)
    (h : ∀ v' w', OwnG base w' v' (xs ++ ys) → w.grownBy w' v.ownBlock → wpList Tryz.prog ops Q rest (a.put o.dst v') w') :
    wpList Tryz.prog ops Q (o :: rest) a w := by
  obtain ⟨i0, hi, hz0, hz1, hz2⟩ := info_parts info_sig
  have hn := hn.out
  subst hn
  refine wpList_append_own _ hgd s x 27 ho base 44 i0 _ 3 48 Tryz.underlying27 hi hz0 hz1 hz2 rfl (by decide) v _ _ hs hown A ys.length c (sgC ys) hx (sgC_len ys) ?_ (sgC_one ys) (Nat.le_trans hlen (by decide)) (by omega) hbase ?_
  · intro j u hj
    obtain ⟨b, off, h1, _, h3⟩ := hl j u hj
    cases h1
    have hplain : (⟨b, off, none⟩ : Addr).add j = ⟨b, off + j, none⟩ := by unfold Addr.add; split <;> simp_all
    rw [hplain, h3]
  · intro v' w' h1 h2 _
    exact h v' w' (by unfold OwnG; rw [sgC_app, List.length_append]; exact h1) h2
theorem OwnG.empty {base : Nat} {w : World} (hb : base ≤ w.heap.size) : OwnG base (w.alloc (.cells #[] 44)) (.slice (some ⟨w.heap.size, 0, none⟩) 0 0) [] :=
  ⟨rfl, .inr ⟨w.heap.size, 0, #[], rfl, hb, heap_alloc_new w _, Nat.le_refl _, by decide, rfl, rfl⟩⟩
set_option maxHeartbeats 4000000 in
set_option maxRecDepth 100000 in
theorem cloneS_calls (A : Option Addr) (n c : Nat) (xs : List Sg) (w : World) (hx : Sgs w A n c xs) (hnb : n ≤ 8192) : Calls Tryz.prog 35 #[.slice A n c] w (fun e w' => (∃ A' n' c', e = .returned (.slice A' n' c') ∧ Sgs w' A' n' c' xs ∧ NewAt w.heap.size A') ∧ Below w.heap.size w w') := by
  obtain ⟨hrv, hn, hnc, hc63, hok⟩ := hx
  have HOK := Lib.hid (And.intro (show xs.length ≤ 140737488355328 by rw [← hn.out]; exact hc63) hok)
  cases A with
  | none =>
    have hxs : xs = [] := by
      cases xs with
      | nil => rfl
      | cons y l =>
        obtain ⟨b, off, h1, _⟩ := hrv 0 (strV y.t) rfl
        cases h1
    subst hxs
    have hn0 : n = 0 := hn.out
    subst hn0
    have he : ∀ W, (binOp .eql 27 (.slice none 0 c) (.slice none 0 0)).run Tryz.prog W = .ok (.bool true) W := fun W => Lib.run_eql_slice_nil W _ _ none 0 c 0 0 Tryz.underlying27
    go_enter Tryz.func35, Tryz.ntmps35
    go_wp2_with fail
    go_ret
    exact ⟨⟨none, 0, 0, rfl, ⟨RV.nil _ _, Lib.hid rfl, Nat.le_refl _, Nat.zero_le _, HOK.out.2⟩, NewAt.none _⟩, Below.refl _ _⟩
  | some A =>
    have HX := Lib.hid (And.intro hrv (And.intro hn.out hnb))
    have hnm : n ≤ 9223372036854775807 := Nat.le_trans hc63 (by decide)
    clear hrv hn hok hnb
    have he : ∀ W, (binOp .eql 27 (.slice (some A) n c) (.slice none 0 0)).run Tryz.prog W = .ok (.bool false) W := fun W => Lib.run_eql_slice_nil W _ _ (some A) n c 0 0 Tryz.underlying27
    go_enter Tryz.func35, Tryz.ntmps35
    go_wp2_with (at_builtin; refine wpList_append_sigs rfl _ _ rfl w.heap.size _ _ rfl (OwnG.empty (Nat.le_refl _)) A n c xs rfl (HX.out.1.alloc _) (Lib.hid HX.out.2.1) (by have := HX.out.2.2; simp; omega) (by simp) ?_; intro v2 w5 h5 g5)
    have H5 := Lib.hid (And.intro h5 (Below.own_grownG ((Below.refl w.heap.size w).alloc (Nat.le_refl _) _) (OwnG.empty (Nat.le_refl _)) g5 (by simp)))
    clear h5 g5
    go_wp2_with fail
    go_ret
    obtain ⟨A', n', c', rfl, h2⟩ := H5.out.1.sgs HOK.out.1 HOK.out.2
    exact ⟨⟨A', n', c', rfl, h2⟩, H5.out.2⟩
end Go.Proofs.YtkbcbikilgcckaaGreatDoor
namespace Go.Proofs.YtkbcbikilgcckaaGreatDoor
open Go.ChangeShapes Go.WideShapes Go.ChangeAt Go.RowKit Go.IntWalk
set_option linter.unusedVariables false
set_option maxRecDepth 100000

/-- The box G of the copy, the result's box G + 1. -/
def FeSt (w W : World) (e : Ev) (a : Ea) : Prop := Below w.heap.size w W ∧ Blk W w.heap.size 29 (evC e a) ∧ Blk W (w.heap.size + 1) 29 evZ
theorem FeSt.then_ {w W W2 : World} {e : Ev} {a : Ea} (h : FeSt w W e a) (b : Below W.heap.size W W2) : FeSt w W2 e a := ⟨h.1.then_ b, h.2.1.later b, h.2.2.later b⟩
theorem feSet {w W : World} {e : Ev} {a a2 : Ea} (h : FeSt w W e a) (o : Nat) (vs : List Value) (hl : o + vs.length ≤ 17) (h2 : (evC e a).take o ++ vs ++ (evC e a).drop (o + vs.length) = evC e a2) : FeSt w (W.setCells w.heap.size o vs) e a2 := by
  have h3 := h.2.1.setAt (o := o) (vs := vs) hl
  rw [h2] at h3
  exact ⟨blw_cells (Nat.le_refl _) vs o W h.1, h3, h.2.2.setFar (by omega) o vs⟩
theorem upG {w W : World} {e : Ev} {a : Ea} (h : FeSt w W e a) (o : Nat) (vs : List Value) : Up (w.heap.size + 2) W (W.setCells w.heap.size o vs) := Up.cells (by omega) o vs W
theorem upG1 {w W : World} {e : Ev} {a : Ea} (h : FeSt w W e a) (o : Nat) (v : Value) : Up (w.heap.size + 2) W (W.setCell ⟨w.heap.size, o, none⟩ v) := Up.setCell (by omega) o v W
theorem one_vl (v : Jv) (A B : Option Addr) (nl cl nm cm : Nat) : (vlC v A B nl cl nm cm).toArray.all (·.oneCell') = true := by
  apply all_oneCell_toArray
  intro x hx
  simp only [vlC, List.mem_cons, List.not_mem_nil, or_false] at hx
  rcases hx with h | h | h | h | h | h <;> subst h <;> rfl
theorem size_vlA (v : Jv) (A B : Option Addr) (nl cl nm cm : Nat) : (Tryz.prog.info? 25).map (·.size) = some (vlC v A B nl cl nm cm).toArray.size := by kernel_rfl
def FePost (e : Ev) (w : World) (en : Ending) (w' : World) : Prop := (∃ a, en = .returned (.agg (evC e a).toArray) ∧ ENew w.heap.size w' e a) ∧ Below w.heap.size w w'
set_option maxHeartbeats 8000000 in
theorem fevent_calls (e : Ev) (a : Ea) (w : World) (he : EOk w e a) (hb : e.ct.bulk ≤ 50000) (hn : a.np ≤ 1000000 ∧ a.nu ≤ 1000000 ∧ a.ns ≤ 8192) : Calls Tryz.prog 20 #[.agg (evC e a).toArray] w (FePost e w) := by
  have h3 := alloc2 w (evC e a) evZ 29 29
  have HE := Lib.hid he
  have HN := Lib.hid hn
  have HBK := Lib.hid hb
  have HI := Lib.hid (show FeSt w _ e a from ⟨h3.2.2, h3.1, h3.2.1⟩)
  clear he hn hb h3
  go_enter Tryz.func20, Tryz.ntmps20
  go_upto_region 1 with fail
  refine wp_gen (fun W => FeSt w W e a ∧ w.heap.size + 2 ≤ W.heap.size) ⟨HI.out, by simp⟩ ?_
  clear HI
  rintro W1 ⟨g1, g2⟩
  have H1 := Lib.hid g1
  have HS := Lib.hid g2
  have hr := ev_ct (o := 0) g1.2.1.rng
  have HC := Lib.hid (fresh_calls e.ct a.A a.B a.nl a.cl a.nm a.cm W1 (HE.out.1.below g1.1) HBK.out)
  clear g1 g2
  go_upto_region 2 with (refine wpList_load_mid rfl 25 (.tmp 3) rfl w.heap.size 5 rfl (vlC e.ct a.A a.B a.nl a.cl a.nm a.cm) _ hr Tryz.underlying25 rfl (size_vl _ _ _ _ _ _ _) ?_)
  clear hr
  refine HC.out.mono ?_
  rintro en W2 ⟨⟨A, B, nl, cl, nm, cm, rfl, hv⟩, b⟩
  have g2 := H1.out.then_ b
  have H2 := Lib.hid g2
  have HV := Lib.hid (hv.lower HS.out)
  have HS2 := Lib.hid (Nat.le_trans HS.out b.size)
  have ht := g2.2.1.thereAt (o := 5) (n := 6) (by show 11 ≤ 17; decide)
  clear g2 hv b HC
  go_upto_region 2 with (refine wpList_store_mid rfl 25 _ _ rfl w.heap.size 5 (vlC e.ct A B nl cl nm cm).toArray rfl rfl ht (size_vlA _ _ _ _ _ _ _) (one_vl _ _ _ _ _ _ _) ?_)
  refine wp_gen (fun W => FeSt w W e { a with A := A, B := B, nl := nl, cl := cl, nm := nm, cm := cm } ∧ VNew (w.heap.size + 2) W e.ct A B nl cl nm cm ∧ w.heap.size + 2 ≤ W.heap.size) ⟨feSet H2.out 5 (vlC e.ct A B nl cl nm cm) (by show 11 ≤ 17; decide) rfl, HV.out.up (upG H2.out _ _), Nat.le_trans HS2.out (upG H2.out _ _).size⟩ ?_
  clear H2 HV HS2 ht H1 HS
  rintro W3 ⟨g1, g2, g3⟩
  have H3 := Lib.hid g1
  have HV := Lib.hid g2
  have HS := Lib.hid g3
  have d11 := g1.2.1.cell (k := 11) rfl
  have HC := Lib.hid (cloneT_calls a.P a.np a.cp e.pv W3 (HE.out.2.1.below g1.1) HN.out.1)
  clear g1 g2 g3
  go_upto_region 3 with fail
  refine HC.out.mono ?_
  rintro en W4 ⟨⟨P, np, cp, rfl, hs, hnw⟩, b⟩
  have g2 := H3.out.then_ b
  have H4 := Lib.hid g2
  have HV4 := Lib.hid (HV.out.up (Up.of b))
  have HP := Lib.hid (And.intro hs (hnw.mono HS.out))
  have HS4 := Lib.hid (Nat.le_trans HS.out b.size)
  have d11 := g2.2.1.cell (k := 11) rfl
  have f11 := g2.2.1.frozen 11
  clear g2 hs hnw b HC HV H3 HS
  go_upto_region 3 with fail
  refine wp_gen (fun W => FeSt w W e { a with A := A, B := B, nl := nl, cl := cl, nm := nm, cm := cm, P := P, np := np, cp := cp } ∧ VNew (w.heap.size + 2) W e.ct A B nl cl nm cm ∧ (Strs W P np cp e.pv ∧ NewAt (w.heap.size + 2) P) ∧ w.heap.size + 2 ≤ W.heap.size) ⟨feSet H4.out 11 [.slice P np cp] (by show 12 ≤ 17; decide) rfl, HV4.out.up (upG1 H4.out _ _), ⟨⟨HP.out.1.1.up HP.out.2 (upG1 H4.out _ _), HP.out.1.2⟩, HP.out.2⟩, Nat.le_trans HS4.out (upG1 H4.out _ _).size⟩ ?_
  clear H4 HV4 HP HS4 d11 f11
  rintro W5 ⟨g1, g2, g4, g3⟩
  have H5 := Lib.hid g1
  have HV := Lib.hid (And.intro g2 g4)
  have HS := Lib.hid g3
  have d12 := g1.2.1.cell (k := 12) rfl
  have HC := Lib.hid (cloneT_calls a.U a.nu a.cu e.au W5 (HE.out.2.2.1.below g1.1) HN.out.2.1)
  clear g1 g2 g3 g4
  go_upto_region 4 with fail
  refine HC.out.mono ?_
  rintro en W6 ⟨⟨U, nu, cu, rfl, hs, hnw⟩, b⟩
  have g2 := H5.out.then_ b
  have H6 := Lib.hid g2
  have HV6 := Lib.hid (And.intro (HV.out.1.up (Up.of b)) (And.intro (HV.out.2.1.below b) HV.out.2.2))
  have HP := Lib.hid (And.intro hs (hnw.mono HS.out))
  have HS6 := Lib.hid (Nat.le_trans HS.out b.size)
  have d12 := g2.2.1.cell (k := 12) rfl
  have f12 := g2.2.1.frozen 12
  clear g2 hs hnw b HC HV H5 HS
  go_upto_region 4 with fail
  refine wp_gen (fun W => FeSt w W e { a with A := A, B := B, nl := nl, cl := cl, nm := nm, cm := cm, P := P, np := np, cp := cp, U := U, nu := nu, cu := cu } ∧ VNew (w.heap.size + 2) W e.ct A B nl cl nm cm ∧ (Strs W P np cp e.pv ∧ NewAt (w.heap.size + 2) P) ∧ (Strs W U nu cu e.au ∧ NewAt (w.heap.size + 2) U) ∧ w.heap.size + 2 ≤ W.heap.size) ⟨feSet H6.out 12 [.slice U nu cu] (by show 13 ≤ 17; decide) rfl, HV6.out.1.up (upG1 H6.out _ _), ⟨⟨HV6.out.2.1.1.up HV6.out.2.2 (upG1 H6.out _ _), HV6.out.2.1.2⟩, HV6.out.2.2⟩, ⟨⟨HP.out.1.1.up HP.out.2 (upG1 H6.out _ _), HP.out.1.2⟩, HP.out.2⟩, Nat.le_trans HS6.out (upG1 H6.out _ _).size⟩ ?_
  clear H6 HV6 HP HS6 d12 f12
  rintro W7 ⟨g1, g2, g4, g5, g3⟩
  have H7 := Lib.hid g1
  have HV := Lib.hid (And.intro g2 (And.intro g4 g5))
  have HS := Lib.hid g3
  have d16 := g1.2.1.cell (k := 16) rfl
  have HC := Lib.hid (cloneS_calls a.S a.ns a.cs e.sg W7 (HE.out.2.2.2.1.below g1.1) HN.out.2.2)
  clear g1 g2 g3 g4 g5
  go_upto_region 5 with fail
  refine HC.out.mono ?_
  rintro en W8 ⟨⟨S, ns, cs, rfl, hs, hnw⟩, b⟩
  have g2 := H7.out.then_ b
  have H8 := Lib.hid g2
  have HV8 := Lib.hid (And.intro (HV.out.1.up (Up.of b)) (And.intro (And.intro (HV.out.2.1.1.below b) HV.out.2.1.2) (And.intro (HV.out.2.2.1.below b) HV.out.2.2.2)))
  have HP := Lib.hid (And.intro hs (hnw.mono HS.out))
  have HS8 := Lib.hid (Nat.le_trans HS.out b.size)
  have d16 := g2.2.1.cell (k := 16) rfl
  have f16 := g2.2.1.frozen 16
  clear g2 hs hnw b HC HV H7 HS
  go_upto_region 5 with fail
  refine wp_gen (fun W => ∃ a2, FeSt w W e a2 ∧ ENew (w.heap.size + 2) W e a2) ⟨{ a with A := A, B := B, nl := nl, cl := cl, nm := nm, cm := cm, P := P, np := np, cp := cp, U := U, nu := nu, cu := cu, S := S, ns := ns, cs := cs }, feSet H8.out 16 [.slice S ns cs] (by show 17 ≤ 17; decide) rfl, HV8.out.1.up (upG1 H8.out _ _), ⟨⟨HV8.out.2.1.1.1.up HV8.out.2.1.2 (upG1 H8.out _ _), HV8.out.2.1.1.2⟩, HV8.out.2.1.2⟩, ⟨⟨HV8.out.2.2.1.1.up HV8.out.2.2.2 (upG1 H8.out _ _), HV8.out.2.2.1.2⟩, HV8.out.2.2.2⟩, ⟨⟨HP.out.1.1.up HP.out.2 (upG1 H8.out _ _), HP.out.1.2⟩, HP.out.2⟩, HE.out.2.2.2.2⟩ ?_
  clear H8 HV8 HP HS8 d16 f16
  rintro W9 ⟨a2, g1, g2⟩
  have H9 := Lib.hid g1
  have HN9 := Lib.hid g2
  have hr := g1.2.1.rng
  have ht := g1.2.2.there (n := (evC e a2).toArray.size) rfl
  clear g1 g2
  go_wp2_with (first | (refine wpList_load_mid rfl 29 (.tmp 1) rfl w.heap.size 0 rfl (evC e a2) _ hr Tryz.underlying29 rfl (size_ev e a2) ?_) | (refine wpList_store_mid rfl 29 _ _ rfl (w.heap.size + 1) 0 (evC e a2).toArray rfl rfl ht (size_evA _ _) (one_ev _ _) ?_))
  exact bodyPost_ret (v := .agg (evC e a2).toArray) (res_cell rfl _ _ _ _ rfl ((H9.out.2.2.setAll (vs := evC e a2) rfl).load 29 Tryz.underlying29 rfl (size_ev _ _))) rfl ⟨⟨a2, rfl, ((HN9.out.up (Up.cells (by omega) 0 (evC e a2) W9)).lower (by omega))⟩, blw_cells (by omega) _ _ _ H9.out.1⟩
end Go.Proofs.YtkbcbikilgcckaaGreatDoor
