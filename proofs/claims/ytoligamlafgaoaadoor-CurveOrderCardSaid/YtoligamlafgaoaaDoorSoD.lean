/- Layer 5: the rest of 256 times a rest, and a byte. -/
import Derived.Test.YtoligamlafgaoaaDoorSoC
import Derived.Deep.DeepCutAuto
namespace Go.Proofs.YtoligamlafgaoaaDoor.Sc
open Go.Proofs.YtoligamlafgaoaaDoor
open Go.ChangeShapes Go.WideShapes Go.ChangeAt Go.RowKit Go.IntWalk
set_option linter.unusedVariables false

def us (ds : List Int) : List Value := ds.map (Value.int .u64)
def KS : List Int := [6346243789798364141, 1503914060200516822, 0, 1152921504606846976]
/-- The order is there. -/
def Tab (w : World) : Prop := w.rangeAt 3 0 (us KS) ∧ 3 < w.heap.size
theorem Tab.later {w w1 : World} (h : Tab w) (b : Below w.heap.size w w1) : Tab w1 :=
  ⟨fun j v hv => (b.cell (p := ⟨3, 0 + j, none⟩) h.2).trans (h.1 j v hv), by have := b.size; have := h.2; omega⟩
/-- The group's order, and what it is beyond 2^252. -/
def EX : Nat := 27742317777372353535851937790883648493
def LO : Nat := 2 ^ 252 + EX
theorem LO_eq : LO = 7237005577332262213973186563042994240857116359379907606001950938285454250989 := by decide +kernel
theorem order_is : IsW (.agg (us KS).toArray) LO := ⟨6346243789798364141, 1503914060200516822, 0, 1152921504606846976, rfl, by decide, by decide, by decide, by decide, by decide +kernel⟩
theorem or_low (a c : Nat) (hc : c < 256) : bits .or .u64 (IntKind.u64.wrap ((a : Int) * 256)) (c : Int) = ((a * 256 % 2 ^ 64 + c : Nat) : Int) := by
  have e : IntKind.u64.wrap ((a : Int) * 256) = ((a % 2 ^ 56 * 256 : Nat) : Int) := by rw [IntKind.wrap_u64]; omega
  have h2 := Nat.shiftLeft_add_eq_or_of_lt (show c < 2 ^ 8 from hc) (a % 2 ^ 56)
  rw [Nat.shiftLeft_eq] at h2
  rw [e, (bits_nat .u64 64 (by decide) wraps_u64 (a % 2 ^ 56 * 256) c (by omega) (by omega)).2, show a % 2 ^ 56 * 256 = a % 2 ^ 56 * 2 ^ 8 from rfl, ← h2]
  congr 1; omega
theorem IsW.form {v : Value} {n : Nat} (h : IsW v n) : ∃ dv : List Value, v = .agg dv.toArray ∧ dv.length = 4 ∧ dv.toArray.all (·.oneCell') = true := by
  obtain ⟨a, b, c, d, rfl, _⟩ := h
  exact ⟨nu [a, b, c, d], rfl, rfl, oneNu _⟩
theorem size4u (dv : List Value) (h : dv.length = 4) : (Tryd.prog.info? 79).map (·.size) = some dv.length := by rw [h]; exact size4
theorem size4a (dv : List Value) (h : dv.length = 4) : (Tryd.prog.info? 79).map (·.size) = some dv.toArray.size := by rw [List.size_toArray, h]; exact size4
/-- A number that was laid in a block of its own. -/
theorem laid4 (w : World) (dv : List Value) (h : dv.length = 4) :
    (w.alloc (.cells #[.int .u64 0, .int .u64 0, .int .u64 0, .int .u64 0] 79)).there w.heap.size 0 dv.toArray.size ∧
    Blk ((w.alloc (.cells #[.int .u64 0, .int .u64 0, .int .u64 0, .int .u64 0] 79)).setCells w.heap.size 0 dv) w.heap.size 79 dv ∧
    Below w.heap.size w ((w.alloc (.cells #[.int .u64 0, .int .u64 0, .int .u64 0, .int .u64 0] 79)).setCells w.heap.size 0 dv) := by
  have hz : Blk (w.alloc (.cells #[.int .u64 0, .int .u64 0, .int .u64 0, .int .u64 0] 79)) w.heap.size 79 (nu [0, 0, 0, 0]) := Blk.new w _ _
  exact ⟨hz.there (by simp [h, nu]), hz.setAll (by simp [h, nu]), blw_cells (Nat.le_refl _) dv 0 _ ((Below.refl _ _).alloc (Nat.le_refl _) _)⟩
theorem push_mod (N above x m : Nat) (h : N = above * 2 ^ 252 + x) (hm : m = above * EX) (hx : x < 2 ^ 252) (hml : m < LO) : N % LO = if x < m then x + LO - m else x - m := by
  have e : N + m = above * LO + x := by rw [h, hm]; unfold LO; rw [Nat.mul_add]; omega
  have hE : 2 ^ 252 < LO := by decide +kernel
  split
  · have h1 : N = (x + LO - m) + LO * (above - 1) := by
      have : 1 ≤ above := by
        rcases Nat.eq_zero_or_pos above with h0 | h0
        · rw [h0, Nat.zero_mul] at hm; omega
        · exact h0
      have h3 : above * LO = LO * (above - 1) + LO := by
        obtain ⟨q, rfl⟩ : ∃ q, above = q + 1 := ⟨above - 1, by omega⟩
        rw [Nat.add_sub_cancel, Nat.add_mul, Nat.mul_comm q LO, Nat.one_mul]
      omega
    rw [h1, Nat.add_mul_mod_self_left, Nat.mod_eq_of_lt (by omega)]
  · have h1 : N = (x - m) + LO * above := by rw [Nat.mul_comm LO above]; omega
    rw [h1, Nat.add_mul_mod_self_left, Nat.mod_eq_of_lt (by omega)]
set_option maxRecDepth 100000 in
set_option maxHeartbeats 4000000 in
theorem pushed_calls (v : Value) (n c : Nat) (hv : IsW v n) (hn : n < LO) (hc : c < 256) (w : World) (hT : Tab w) :
    Calls Tryd.prog 55 #[v, .int .u8 (c : Int)] w (WPost ((256 * n + c) % LO) w) := by
  obtain ⟨a0, a1, a2, a3, rfl, h0, h1, h2, h3, hval⟩ := hv
  unfold V4
  have hL := LO_eq
  have ho0 := or_low a0 c hc
  have ho1 := or_low a1 (a0 / 72057594037927936) (by omega)
  have ho2 := or_low a2 (a1 / 72057594037927936) (by omega)
  have ho3 := or_low a3 (a2 / 72057594037927936) (by omega)
  have ha3 : a3 < 2 ^ 61 := by omega
  obtain ⟨ab, hab⟩ : ∃ x, a3 / 4503599627370496 = x := ⟨_, rfl⟩
  have hab9 : ab < 512 := by omega
  obtain ⟨y0, hy0⟩ : ∃ x, a0 * 256 % 2 ^ 64 + c = x := ⟨_, rfl⟩
  obtain ⟨y1, hy1⟩ : ∃ x, a1 * 256 % 2 ^ 64 + a0 / 72057594037927936 = x := ⟨_, rfl⟩
  obtain ⟨y2, hy2⟩ : ∃ x, a2 * 256 % 2 ^ 64 + a1 / 72057594037927936 = x := ⟨_, rfl⟩
  obtain ⟨z3, hz3⟩ : ∃ x, a3 * 256 % 2 ^ 64 + a2 / 72057594037927936 = x := ⟨_, rfl⟩
  obtain ⟨y3, hy3⟩ : ∃ x, z3 % 1152921504606846976 = x := ⟨_, rfl⟩
  have hmask : bits .and .u64 (z3 : Int) 1152921504606846975 = (y3 : Int) := by
    rw [show (1152921504606846975 : Int) = 2 ^ 60 - 1 from rfl, bits_mask .u64 64 (by decide) wraps_u64 60 (by decide) (z3 : Int) (by omega) (by omega), ← hy3]; omega
  rw [hy0] at ho0
  rw [hy1] at ho1
  rw [hy2] at ho2
  rw [hz3] at ho3
  have hX : y0 + 2 ^ 64 * y1 + 2 ^ 128 * y2 + 2 ^ 192 * y3 + ab * 2 ^ 252 = 256 * n + c := by omega
  have hyl : y0 < 2 ^ 64 ∧ y1 < 2 ^ 64 ∧ y2 < 2 ^ 64 ∧ y3 < 2 ^ 60 := by omega
  have q3 : (a3 : Int) / 4503599627370496 = (ab : Int) := by omega
  have q0 : (a0 : Int) / 72057594037927936 = ((a0 / 72057594037927936 : Nat) : Int) := by omega
  have q1 : (a1 : Int) / 72057594037927936 = ((a1 / 72057594037927936 : Nat) : Int) := by omega
  have q2 : (a2 : Int) / 72057594037927936 = ((a2 / 72057594037927936 : Nat) : Int) := by omega
  obtain ⟨r0, hr0⟩ : ∃ x, a0 / 72057594037927936 = x := ⟨_, rfl⟩
  obtain ⟨r1, hr1⟩ : ∃ x, a1 / 72057594037927936 = x := ⟨_, rfl⟩
  obtain ⟨r2, hr2⟩ : ∃ x, a2 / 72057594037927936 = x := ⟨_, rfl⟩
  rw [hr0] at q0 ho1
  rw [hr1] at q1 ho2
  rw [hr2] at q2 ho3
  have HX := Lib.hid (And.intro hX hyl)
  have HT := Lib.hid hT
  have HN := Lib.hid hn
  have HAB := Lib.hid hab9
  have hcw : IntKind.u64.wrap (c : Int) = (c : Int) := by rw [IntKind.wrap_u64]; omega
  have hal := alloc3 w (nu [a0, a1, a2, a3]) (nu [0, 0, 0, 0]) (nu [y0, y1, y2, y3]) 79 79 79
  have HAL := Lib.hid (And.intro hal.2.1 (And.intro hal.2.2.1 hal.2.2.2))
  clear hal h0 h1 h2 h3 hval hL ha3 hab hy0 hy1 hy2 hz3 hy3 hX hyl hr0 hr1 hr2 hT hn hab9 hc
  go_enter Tryd.func55, Tryd.ntmps55
  go_upto_region 3 with fail
  clear ho0 ho1 ho2 ho3 hmask q0 q1 q2 q3 hcw
  refine wp_gen (fun W => Blk W (w.heap.size + 1) 79 (nu [0, 0, 0, 0]) ∧ Blk W (w.heap.size + 1 + 1) 79 (nu [y0, y1, y2, y3]) ∧ Below w.heap.size w W) HAL.out ?_
  rintro W1 h1
  have H1 := Lib.hid h1
  clear h1 HAL
  obtain ⟨p1, hp1⟩ : ∃ x, ab * 6346243789798364141 / 18446744073709551616 = x := ⟨_, rfl⟩
  obtain ⟨l1, hl1⟩ : ∃ x, ab * 6346243789798364141 % 18446744073709551616 = x := ⟨_, rfl⟩
  obtain ⟨p2, hp2⟩ : ∃ x, ab * 1503914060200516822 / 18446744073709551616 = x := ⟨_, rfl⟩
  obtain ⟨l2, hl2⟩ : ∃ x, ab * 1503914060200516822 % 18446744073709551616 = x := ⟨_, rfl⟩
  have HM1 : Hid (∀ W : World, Calls Tryd.prog 72 #[.int .u64 (ab : Int), .int .u64 6346243789798364141] W fun e w' => e = .returned (.tuple #[.int .u64 (p1 : Int), .int .u64 (l1 : Int)]) ∧ w' = W) :=
    Lib.hid (by rw [← hp1, ← hl1]; exact fun W => Tryd.bits_Mul64 ab 6346243789798364141 (by have := HAB.out; omega) (by decide) W)
  have HM2 : Hid (∀ W : World, Calls Tryd.prog 72 #[.int .u64 (ab : Int), .int .u64 1503914060200516822] W fun e w' => e = .returned (.tuple #[.int .u64 (p2 : Int), .int .u64 (l2 : Int)]) ∧ w' = W) :=
    Lib.hid (by rw [← hp2, ← hl2]; exact fun W => Tryd.bits_Mul64 ab 1503914060200516822 (by have := HAB.out; omega) (by decide) W)
  have g0 : ∀ W : World, (callFunc 59 #[.int .u64 (l2 : Int), .int .u64 (p1 : Int), .int .u64 0]).run Tryd.prog W = _ := fun W => add64_run l2 p1 0 (by omega) W
  obtain ⟨s, hs⟩ : ∃ s, (l2 + p1 + 0) % 18446744073709551616 = s := ⟨_, rfl⟩
  obtain ⟨u, hu⟩ : ∃ c, (l2 + p1 + 0) / 18446744073709551616 = c := ⟨_, rfl⟩
  rw [hs, hu] at g0
  obtain ⟨h, hh⟩ : ∃ x, p2 + u = x := ⟨_, rfl⟩
  have hab := HAB.out
  have hwr : IntKind.u64.wrap ((p2 : Int) + (u : Int)) = (h : Int) := by rw [IntKind.wrap_u64]; omega
  have HI : Hid (IsW (.agg #[.int .u64 (l1 : Int), .int .u64 (s : Int), .int .u64 (h : Int), .int .u64 0]) (ab * EX)) :=
    Lib.hid ⟨l1, s, h, 0, rfl, by omega, by omega, by omega, by omega, by unfold EX; omega⟩
  obtain ⟨xv, hxv⟩ : ∃ x, y0 + 2 ^ 64 * y1 + 2 ^ 128 * y2 + 2 ^ 192 * y3 = x := ⟨_, rfl⟩
  have HY : Hid (IsW (.agg #[.int .u64 (y0 : Int), .int .u64 (y1 : Int), .int .u64 (y2 : Int), .int .u64 (y3 : Int)]) xv) :=
    Lib.hid (by obtain ⟨_, e1, e2, e3, e4⟩ := HX.out; exact ⟨y0, y1, y2, y3, rfl, e1, e2, e3, by omega, hxv⟩)
  have hexl : ab * EX < LO := by unfold EX LO EX; omega
  have HMOD : Hid ((256 * n + c) % LO = if xv < ab * EX then xv + LO - ab * EX else xv - ab * EX) := Lib.hid (by
    obtain ⟨e0, e1, e2, e3, e4⟩ := HX.out
    exact push_mod (256 * n + c) ab xv (ab * EX) (by omega) rfl (by omega) hexl)
  have HXL : Hid (xv < 2 ^ 252 ∧ ab * EX < LO) := Lib.hid ⟨by obtain ⟨e0, e1, e2, e3, e4⟩ := HX.out; omega, hexl⟩
  clear hp1 hl1 hp2 hl2 hs hu hh hab hxv hexl
  go_wp2_with fail
  refine (HM1.out _).mono ?_
  rintro e w2 ⟨rfl, rfl⟩
  go_wp2_with fail
  refine (HM2.out _).mono ?_
  rintro e w2 ⟨rfl, rfl⟩
  have HRX := Lib.hid H1.out.2.1.rng
  go_wp2_with (refine wpList_load_mid rfl 79 _ rfl (w.heap.size + 1 + 1) 0 rfl (nu [y0, y1, y2, y3]) _ HRX.out Tryd.underlying79 rfl size4 ?_)
  refine (less_calls _ _ _ _ HY.out HI.out _).mono ?_
  rintro e w3 ⟨v3, rfl, hv3, b3⟩
  have HV3 := Lib.hid hv3
  obtain ⟨dv, rfl, hdl, hone⟩ := hv3.form
  obtain ⟨th, hb12, b12⟩ := laid4 w3 dv hdl
  have hw := H1.out.2.2.then_ b3
  have HL := Lib.hid (And.intro hb12 (And.intro ((H1.out.1.later b3).later b12) (hw.then_ b12)))
  have HTH := Lib.hid th
  have H12 : Hid (w.heap.size + 1 + 1 < w3.heap.size) := Lib.hid (H1.out.2.1.later b3).lt
  have HS := Lib.hid (size4a dv hdl)
  have HO := Lib.hid hone
  have HSL := Lib.hid (size4u dv hdl)
  clear hv3 hone th hb12 b12 hw b3 HRX H1 g0 hwr
  go_upto_region 7 with (refine wpList_store_mid rfl 79 _ _ rfl w3.heap.size 0 dv.toArray rfl rfl HTH.out HS.out HO.out ?_)
  obtain ⟨g, hg⟩ : ∃ g, w3.heap.size = g := ⟨_, rfl⟩
  rw [hg] at HL ⊢
  refine wp_gen (fun W => Blk W g 79 dv ∧ Blk W (w.heap.size + 1) 79 (nu [0, 0, 0, 0]) ∧ Below w.heap.size w W) HL.out ?_
  rintro W4 h4
  have hne : g ≠ w.heap.size + 1 := by
    intro e
    have h1 := h4.1
    have h2 := h4.2.1
    have := H12.out
    omega
  have hgw : w.heap.size ≤ g := by have := H12.out; omega
  have H4 := Lib.hid h4
  have HRG := Lib.hid h4.1.rng
  have HRO := Lib.hid (HT.out.later h4.2.2).1
  clear h4 HL HTH hg
  by_cases hlt : xv < ab * EX
  · have hd : decide (xv < ab * EX) = true := decide_eq_true hlt
    go_wp2_with (first
      | (refine wpList_load_mid rfl 79 _ rfl g 0 rfl dv _ HRG.out Tryd.underlying79 rfl HSL.out ?_)
      | (refine wpList_load_mid rfl 79 _ rfl 3 0 rfl (us KS) _ HRO.out Tryd.underlying79 rfl size4 ?_))
    refine (and_calls _ _ _ _ HV3.out order_is _).mono ?_
    rintro e w5 ⟨v5, rfl, hv5, b5⟩
    have hres : (subV xv (ab * EX) + LO) % 2 ^ 256 = (256 * n + c) % LO := by
      rw [HMOD.out, if_pos hlt]
      unfold subV
      rw [if_pos hlt]
      have := HXL.out
      have hlo : LO < 2 ^ 253 := by decide +kernel
      omega
    rw [hres] at hv5
    have HV5 := Lib.hid hv5
    obtain ⟨ev, rfl, hel, hone⟩ := hv5.form
    have hg5 := H4.out.1.later b5
    have hz5 := H4.out.2.1.later b5
    have hb5 := H4.out.2.2.then_ b5
    have hE := hg5.setAll (vs := ev) (by rw [hel, hdl])
    have hZ := hz5.setFar hne 0 ev
    have HT1 := Lib.hid (hg5.there (n := ev.toArray.size) (by rw [List.size_toArray, hel, hdl]))
    have HR2 := Lib.hid hE.rng
    have HT2 := Lib.hid (hZ.there (n := ev.toArray.size) (by rw [List.size_toArray, hel]; rfl))
    have HF := Lib.hid (Blk.load (hZ.setAll (vs := ev) (by rw [hel]; rfl)) 79 Tryd.underlying79 rfl (size4u ev hel))
    have HB := Lib.hid (blw_cells (show w.heap.size ≤ w.heap.size + 1 by omega) ev 0 _ (blw_cells hgw ev 0 _ hb5))
    have HS2 := Lib.hid (size4a ev hel)
    have HSL2 := Lib.hid (size4u ev hel)
    have HO2 := Lib.hid hone
    clear hv5 hone hg5 hz5 hb5 hE hZ b5 hres
    go_wp2_with (first
      | (refine wpList_store_mid rfl 79 _ _ rfl g 0 ev.toArray rfl rfl HT1.out HS2.out HO2.out ?_)
      | (refine wpList_load_mid rfl 79 _ rfl g 0 rfl ev _ HR2.out Tryd.underlying79 rfl HSL2.out ?_)
      | (refine wpList_store_mid rfl 79 _ _ rfl (w.heap.size + 1) 0 ev.toArray rfl rfl HT2.out HS2.out HO2.out ?_))
    exact bodyPost_ret (v := .agg ev.toArray) (res_cell rfl _ _ _ _ rfl HF.out) rfl ⟨_, rfl, HV5.out, HB.out⟩
  · have hd : decide (xv < ab * EX) = false := decide_eq_false hlt
    have hres : subV xv (ab * EX) = (256 * n + c) % LO := by
      rw [HMOD.out, if_neg hlt]
      unfold subV
      rw [if_neg hlt]
    have HV5 : Hid (IsW (.agg dv.toArray) ((256 * n + c) % LO)) := Lib.hid (by rw [← hres]; exact HV3.out)
    have HT2 := Lib.hid (H4.out.2.1.there (n := dv.toArray.size) (by rw [List.size_toArray, hdl]; rfl))
    have HF := Lib.hid (Blk.load (H4.out.2.1.setAll (vs := dv) (by rw [hdl]; rfl)) 79 Tryd.underlying79 rfl (size4u dv hdl))
    have HB := Lib.hid (blw_cells (show w.heap.size ≤ w.heap.size + 1 by omega) dv 0 _ H4.out.2.2)
    clear hres
    go_wp2_with (first
      | (refine wpList_load_mid rfl 79 _ rfl g 0 rfl dv _ HRG.out Tryd.underlying79 rfl HSL.out ?_)
      | (refine wpList_store_mid rfl 79 _ _ rfl (w.heap.size + 1) 0 dv.toArray rfl rfl HT2.out HS.out HO.out ?_))
    exact bodyPost_ret (v := .agg dv.toArray) (res_cell rfl _ _ _ _ rfl HF.out) rfl ⟨_, rfl, HV5.out, HB.out⟩
end Go.Proofs.YtoligamlafgaoaaDoor.Sc
