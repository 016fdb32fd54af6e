/- Layer 9: the law JsonCanons, walked. -/
import Derived.Test.YtajkgcmopmpihaaDoorJvP
import Derived.Test.YtajkgcmopmpihaaDoorJvG
import Derived.Test.YtajkgcmopmpihaaDoorJvL
namespace Go.Proofs.YtajkgcmopmpihaaDoor
open Go.ChangeShapes Go.WideShapes Go.ChangeAt Go.RowKit Go.IntWalk
set_option linter.unusedVariables false

/-- The tables that the row lists: the powers of ten alone are read here. -/
def TabJ (w : World) : Prop := 0 < w.heap.size ∧ Lib.TabIs Tryd.prog w "internal/strconv.uint64pow10" .u64 Lib.pow10Tab
theorem TabJ.pow {w : World} (h : TabJ w) : PowT w.heap.size w := h
theorem TabJ.below {w w' : World} (h : TabJ w) (b : Below w.heap.size w w') : TabJ w' :=
  ⟨Nat.lt_of_lt_of_le h.1 b.size, (PowT.blw (base := w.heap.size) h b).2⟩
def seven : Jv := ⟨2, false, 7, [], .nil, .nil⟩
theorem itoa7 : Lib.itoa 7 = [55] := by
  unfold Lib.itoa
  rw [if_neg (by decide), show (7 : Int).toNat = 7 from rfl, Lib.decDigits, dif_pos (by decide)]; rfl
theorem canF_7 : canF seven = ([55], 0) := by
  unfold canF
  rw [wrV_2 (v := seven) (by decide) rfl, show seven.n = 7 from rfl, itoa7]; rfl
theorem VOk.nil (w : World) : VOk w seven none none 0 0 0 0 :=
  ⟨⟨rfl, Nat.le_refl _, by decide⟩, ⟨rfl, Nat.le_refl _, by decide⟩, .inl rfl, .inl rfl, by unfold Fit seven; decide⟩
theorem canon_ok {w : World} {v : Jv} {A B : Option Addr} {nl cl nm cm : Nat} (h : VOk w v A B nl cl nm cm) (hT : TabJ w) {b : List UInt8} {x : Int} (hc : canF v = (b, x)) :
    Calls Tryd.prog 4 #[.agg #[.int .i64 v.kd, .bool v.is, .int .i64 v.n, .string ⟨v.s.toArray⟩, .slice A nl cl, .slice B nm cm]] w fun e w' => e = .returned (.tuple #[.string ⟨b.toArray⟩, .int .i64 x]) ∧ Below w.heap.size w w' := by
  have := canon_calls v A B nl cl nm cm w h.1 h.2.1 h.2.2.1 h.2.2.2.1 h.2.2.2.2 hT.pow
  unfold CanPost at this
  rw [hc] at this
  exact this
theorem refcanon_ok {w : World} {v : Jv} {A B : Option Addr} {nl cl nm cm : Nat} (h : VOk w v A B nl cl nm cm) (hT : TabJ w) {b : List UInt8} {x : Int} (hc : canF v = (b, x)) :
    Calls Tryd.prog 6 #[.agg #[.int .i64 v.kd, .bool v.is, .int .i64 v.n, .string ⟨v.s.toArray⟩, .slice A nl cl, .slice B nm cm]] w fun e w' => e = .returned (.tuple #[.string ⟨b.toArray⟩, .int .i64 x]) ∧ Below w.heap.size w w' := by
  have := refcanon_calls v A B nl cl nm cm w h.1 h.2.1 h.2.2.1 h.2.2.2.1 h.2.2.2.2 hT.pow
  unfold CanPost at this
  rw [hc] at this
  exact this
theorem great_ok {w : World} {v : Jv} {A B : Option Addr} {nl cl nm cm : Nat} (h : VOk w v A B nl cl nm cm) :
    Calls Tryd.prog 5 #[.agg #[.int .i64 v.kd, .bool v.is, .int .i64 v.n, .string ⟨v.s.toArray⟩, .slice A nl cl, .slice B nm cm]] w (GrtPost w) :=
  great_calls v A B nl cl nm cm w h.1 h.2.1 h.2.2.1 h.2.2.2.1 h.2.2.2.2
set_option maxHeartbeats 8000000 in
theorem jsonCanons_walk (a0 : Jv) (A0 B0 : Option Addr) (nl0 cl0 nm0 cm0 : Nat) {w : World} (hr0 : VOk w a0 A0 B0 nl0 cl0 nm0 cm0) (hT : TabJ w) :
    Calls Tryd.prog 3 #[.agg #[.int .i64 a0.kd, .bool a0.is, .int .i64 a0.n, .string ⟨a0.s.toArray⟩, .slice A0 nl0 cl0, .slice B0 nm0 cm0]] w fun e w' => e = .returned (.bool true) ∧ Below w.heap.size w w' := by
  have b0 : Below w.heap.size w (w.alloc (.cells #[.int .i64 a0.kd, .bool a0.is, .int .i64 a0.n, .string ⟨a0.s.toArray⟩, .slice A0 nl0 cl0, .slice B0 nm0 cm0] 25)) := (Below.refl _ _).alloc (Nat.le_refl _) _
  have BX := Lib.hid (Blk.new w [.int .i64 a0.kd, .bool a0.is, .int .i64 a0.n, .string ⟨a0.s.toArray⟩, .slice A0 nl0 cl0, .slice B0 nm0 cm0] 25)
  have HC0 := canon_ok (VOk.nil _) (hT.below b0) canF_7
  have HB := Lib.hid b0
  have HV := Lib.hid (And.intro hr0 hT)
  obtain ⟨cb, ce, hc⟩ : ∃ cb ce, canF a0 = (cb, ce) := ⟨_, _, rfl⟩
  have HC := Lib.hid hc
  clear hr0 hT b0 hc
  go_enter Tryd.func3, Tryd.ntmps3
  go_wp2_with fail
  refine HC0.mono ?_
  rintro e w1 ⟨rfl, b1⟩
  have HB1 := Lib.hid (HB.out.then_ b1)
  have BX1 := BX.out.later b1
  have d0 := BX1.cell (k := 0) rfl; have d1 := BX1.cell (k := 1) rfl; have d2 := BX1.cell (k := 2) rfl; have d3 := BX1.cell (k := 3) rfl; have d4 := BX1.cell (k := 4) rfl; have d5 := BX1.cell (k := 5) rfl
  have HX1 := Lib.hid BX1
  clear b1 BX1 HC0
  go_wp2_with fail
  refine (great_ok (HV.out.1.below HB1.out)).mono ?_
  rintro e w2 ⟨⟨gr, rfl⟩, b2⟩
  have HB2 := Lib.hid (HB1.out.then_ b2)
  have BX2 := HX1.out.later b2
  clear d0 d1 d2 d3 d4 d5
  have d0 := BX2.cell (k := 0) rfl; have d1 := BX2.cell (k := 1) rfl; have d2 := BX2.cell (k := 2) rfl; have d3 := BX2.cell (k := 3) rfl; have d4 := BX2.cell (k := 4) rfl; have d5 := BX2.cell (k := 5) rfl
  have HX2 := Lib.hid BX2
  clear b2 BX2
  cases gr with
  | true =>
    go_wp2_with fail
    go_ret
    exact ⟨rfl, HB2.out⟩
  | false =>
    go_wp2_with fail
    refine (canon_ok (HV.out.1.below HB2.out) (HV.out.2.below HB2.out) HC.out).mono ?_
    rintro e w3 ⟨rfl, b3⟩
    have HB3 := Lib.hid (HB2.out.then_ b3)
    have BX3 := HX2.out.later b3
    clear d0 d1 d2 d3 d4 d5
    have d0 := BX3.cell (k := 0) rfl; have d1 := BX3.cell (k := 1) rfl; have d2 := BX3.cell (k := 2) rfl; have d3 := BX3.cell (k := 3) rfl; have d4 := BX3.cell (k := 4) rfl; have d5 := BX3.cell (k := 5) rfl
    clear b3 BX3
    go_wp2_with fail
    refine (refcanon_ok (HV.out.1.below HB3.out) (HV.out.2.below HB3.out) HC.out).mono ?_
    rintro e w4 ⟨rfl, b4⟩
    have HB4 := Lib.hid (HB3.out.then_ b4)
    clear b4
    go_wp2_with fail
    go_ret
    exact ⟨rfl, HB4.out⟩
end Go.Proofs.YtajkgcmopmpihaaDoor
