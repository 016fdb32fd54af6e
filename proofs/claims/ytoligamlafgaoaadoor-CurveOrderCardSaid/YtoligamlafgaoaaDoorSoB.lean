/- Layer 5: differences and sums of numbers of four words. -/
import Derived.Test.YtoligamlafgaoaaDoorSoA
import Derived.Shelf.Spec.BitsCarry
namespace Go.Proofs.YtoligamlafgaoaaDoor.Sc
open Go.Proofs.YtoligamlafgaoaaDoor
open Go.ChangeShapes Go.WideShapes Go.ChangeAt Go.RowKit Go.IntWalk
set_option linter.unusedVariables false

def valW : List Nat → Nat
  | [] => 0
  | x :: t => x + 2 ^ 64 * valW t
theorem valW_snoc (l : List Nat) (x : Nat) : valW (l ++ [x]) = valW l + 2 ^ (64 * l.length) * x := by
  induction l with
  | nil => simp [valW]
  | cons y l ih =>
    simp only [List.cons_append, valW, ih, List.length_cons]
    rw [Nat.mul_add, ← Nat.mul_assoc, ← Nat.pow_add, show 64 + 64 * l.length = 64 * (l.length + 1) by omega]
    omega
theorem valW_take (l : List Nat) (k x : Nat) (h : l[k]? = some x) : valW (l.take (k + 1)) = valW (l.take k) + 2 ^ (64 * k) * x := by
  have hk := (List.getElem?_eq_some_iff.1 h).1
  rw [List.take_add_one, h, Option.toList_some, valW_snoc, List.length_take, Nat.min_eq_left (by omega)]
theorem take_set (l : List Nat) (k x : Nat) (h : k < l.length) : (l.set k x).take (k + 1) = l.take k ++ [x] := by
  rw [List.take_add_one, List.getElem?_set_self h, List.take_set_of_le (by omega)]; rfl
theorem valW_set (l : List Nat) (k x : Nat) (h : k < l.length) : valW ((l.set k x).take (k + 1)) = valW (l.take k) + 2 ^ (64 * k) * x := by
  rw [take_set l k x h, valW_snoc, List.length_take, Nat.min_eq_left (by omega)]
theorem sub64_run (x y c : Nat) (hc : c ≤ 1) (w : World) :
    (callFunc 77 #[.int .u64 (x : Int), .int .u64 (y : Int), .int .u64 (c : Int)]).run Tryd.prog w =
      .ok (.value (.tuple #[.int .u64 (((x + 18446744073709551616 - y - c) % 18446744073709551616 : Nat) : Int), .int .u64 ((if x < y + c then 1 else 0 : Nat) : Int)])) w := by
  rw [run_callFunc_extern Tryd.func77 (by kernel_rfl) (by kernel_rfl) (by kernel_rfl) (e := sub64Entry) (by kernel_rfl), run_sub64 x y c hc]
  rfl
theorem add64_run (x y c : Nat) (hc : c ≤ 1) (w : World) :
    (callFunc 59 #[.int .u64 (x : Int), .int .u64 (y : Int), .int .u64 (c : Int)]).run Tryd.prog w =
      .ok (.value (.tuple #[.int .u64 (((x + y + c) % 18446744073709551616 : Nat) : Int), .int .u64 (((x + y + c) / 18446744073709551616 : Nat) : Int)])) w := by
  rw [run_callFunc_extern Tryd.func59 (by kernel_rfl) (by kernel_rfl) (by kernel_rfl) (e := add64Entry) (by kernel_rfl), run_add64 x y c (by omega) (by omega) (by omega) (by omega)]
  simp only [Result.andThen]
  congr 5 <;> omega
/-- Where the rounds stand: the rows, and what is carried. -/
def CrS (R : Nat → Nat → Nat → Nat → Nat → Prop) (ls bs : List Nat) (w : World) (k u : Nat) (wr : World) : Prop :=
  ∃ ds : List Nat, ds.length = 4 ∧ (∀ i, k ≤ i → ds[i]? = ls[i]?) ∧ (∀ x ∈ ds, x < 2 ^ 64) ∧ u ≤ 1 ∧ R (valW (ds.take k)) (valW (ls.take k)) (valW (bs.take k)) (2 ^ (64 * k)) u ∧
    Blk wr w.heap.size 79 (nu ds) ∧ Blk wr (w.heap.size + 1) 79 (nu bs) ∧ Blk wr (w.heap.size + 1 + 1) 79 (nu [0, 0, 0, 0]) ∧ Below w.heap.size w wr
def RSub (d a b q u : Nat) : Prop := d + b = a + q * u
def RAdd (d a b q u : Nat) : Prop := d + q * u = a + b
theorem sub_step (d a b q u x y z v : Nat) (h : RSub d a b q u) (e : z + y + u = x + 2 ^ 64 * v) : RSub (d + q * z) (a + q * x) (b + q * y) (q * 2 ^ 64) v := by
  unfold RSub at *
  have h2 : q * z + q * y + q * u = q * x + q * (2 ^ 64 * v) := by rw [← Nat.mul_add, ← Nat.mul_add, ← Nat.mul_add, e]
  rw [← Nat.mul_assoc] at h2
  omega
theorem add_step (d a b q u x y z v : Nat) (h : RAdd d a b q u) (e : z + 2 ^ 64 * v = x + y + u) : RAdd (d + q * z) (a + q * x) (b + q * y) (q * 2 ^ 64) v := by
  unfold RAdd at *
  have h2 : q * z + q * (2 ^ 64 * v) = q * x + q * y + q * u := by rw [← Nat.mul_add, ← Nat.mul_add, ← Nat.mul_add, e]
  rw [← Nat.mul_assoc] at h2
  omega
theorem CrS.step {R : Nat → Nat → Nat → Nat → Nat → Prop} {ls bs ds : List Nat} {w wr : World} {k u x y z v : Nat} (hR : ∀ d a b q, R d a b q u → R (d + q * z) (a + q * x) (b + q * y) (q * 2 ^ 64) v)
    (hv : v ≤ 1) (hz : z < 2 ^ 64) (hx : ls[k]? = some x) (hy : bs[k]? = some y) (hk : k < 4)
    (hl : ds.length = 4) (hsame : ∀ i, k ≤ i → ds[i]? = ls[i]?) (hlt : ∀ x ∈ ds, x < 2 ^ 64) (hr : R (valW (ds.take k)) (valW (ls.take k)) (valW (bs.take k)) (2 ^ (64 * k)) u)
    (h0 : Blk wr w.heap.size 79 (nu ds)) (h1 : Blk wr (w.heap.size + 1) 79 (nu bs)) (h2 : Blk wr (w.heap.size + 1 + 1) 79 (nu [0, 0, 0, 0])) (hb : Below w.heap.size w wr) :
    CrS R ls bs w (k + 1) v (wr.setCell ⟨w.heap.size, k, none⟩ (.int .u64 (z : Int))) := by
  refine ⟨ds.set k z, by rw [List.length_set]; exact hl, fun i hi => ?_, fun q hq => ?_, hv, ?_, by rw [← nu_set]; exact h0.set_ k _, h1.other (by omega) _, h2.other (by omega) _, hb.setCell (Nat.le_refl _) _⟩
  · rw [List.getElem?_set_ne (by omega)]; exact hsame i (by omega)
  · rcases List.mem_or_eq_of_mem_set hq with h | rfl
    · exact hlt q h
    · exact hz
  · rw [valW_set _ _ _ (by omega), valW_take _ _ _ hx, valW_take _ _ _ hy, show 64 * (k + 1) = 64 * k + 64 by omega, Nat.pow_add]
    exact hR _ _ _ _ hr
theorem CrS.drewN {R : Nat → Nat → Nat → Nat → Nat → Prop} {ls bs : List Nat} {w wr : World} {k u : Nat} (h : CrS R ls bs w k u wr) (n : Nat) : CrS R ls bs w k u (wr.drewN n) := by
  obtain ⟨ds, h1, h2, h3, h4, h5, h6, h7, h8, h9⟩ := h
  exact ⟨ds, h1, h2, h3, h4, h5, h6.drewN n, h7.drewN n, h8.drewN n, h9.drewN n⟩
theorem four_of {ds : List Nat} (h : ds.length = 4) : ∃ d0 d1 d2 d3, ds = [d0, d1, d2, d3] := by
  match ds, h with
  | [a, b, c, d], _ => exact ⟨a, b, c, d, rfl⟩
theorem results_cell_tmp {fn : Func} {p q : Tmp} {ty : TypeId} (h : fn.results = #[.cell p ty, .tmp q]) (tmps : Array Value) (a : Addr) (v u : Value) (W : World) (hp : tmps.getD p undef = .pointer (some a)) (hq : tmps.getD q undef = u)
    (hld : (loadVar ty a).run Tryd.prog W = .ok v W) : (results fn tmps).run Tryd.prog W = .ok (.tuple #[v, u]) W := by
  simp only [results, h]
  simp only [Array.getD_eq_getD_getElem?] at hp hq
  simp [hp, hq, asAddr, hld]
def subV (n m : Nat) : Nat := if n < m then n + 2 ^ 256 - m else n - m
def LessPost (n m : Nat) (w : World) (e : Ending) (w' : World) : Prop := ∃ v, e = .returned (.tuple #[v, .bool (decide (n < m))]) ∧ IsW v (subV n m) ∧ Below w.heap.size w w'
theorem sub_word (x y u : Nat) (hx : x < 2 ^ 64) (hy : y < 2 ^ 64) (hu : u ≤ 1) : (x + 18446744073709551616 - y - u) % 18446744073709551616 + y + u = x + 2 ^ 64 * (if x < y + u then 1 else 0) := by
  split <;> omega
set_option maxRecDepth 100000 in
set_option maxHeartbeats 4000000 in
theorem less_calls (v1 v2 : Value) (n m : Nat) (hv1 : IsW v1 n) (hv2 : IsW v2 m) (w : World) :
    Calls Tryd.prog 73 #[v1, v2] w (LessPost n m w) := by
  obtain ⟨a0, a1, a2, a3, rfl, ha0, ha1, ha2, ha3, hn⟩ := hv1
  obtain ⟨b0, b1, b2, b3, rfl, hb0, hb1, hb2, hb3, hm⟩ := hv2
  unfold V4
  have hal := alloc3 w (nu [a0, a1, a2, a3]) (nu [b0, b1, b2, b3]) (nu [0, 0, 0, 0]) 79 79 79
  have hmem : ∀ x ∈ [a0, a1, a2, a3], x < 2 ^ 64 := by
    intro x hx
    simp only [List.mem_cons, List.not_mem_nil, or_false] at hx
    rcases hx with rfl | rfl | rfl | rfl <;> assumption
  have hmemb : ∀ x ∈ [b0, b1, b2, b3], x < 2 ^ 64 := by
    intro x hx
    simp only [List.mem_cons, List.not_mem_nil, or_false] at hx
    rcases hx with rfl | rfl | rfl | rfl <;> assumption
  have H0 : Hid (CrS RSub [a0, a1, a2, a3] [b0, b1, b2, b3] w 0 0 (((w.alloc (.cells #[.int .u64 (a0 : Int), .int .u64 (a1 : Int), .int .u64 (a2 : Int), .int .u64 (a3 : Int)] 79)).alloc (.cells #[.int .u64 (b0 : Int), .int .u64 (b1 : Int), .int .u64 (b2 : Int), .int .u64 (b3 : Int)] 79)).alloc (.cells #[.int .u64 0, .int .u64 0, .int .u64 0, .int .u64 0] 79))) :=
    Lib.hid ⟨[a0, a1, a2, a3], rfl, fun _ _ => rfl, hmem, by decide, by simp [RSub, valW], hal.1, hal.2.1, hal.2.2.1, hal.2.2.2⟩
  have HM := Lib.hid (And.intro hmem hmemb)
  have HN := Lib.hid (And.intro hn hm)
  have HB := Lib.hid (And.intro (And.intro ha0 (And.intro ha1 (And.intro ha2 ha3))) (And.intro hb0 (And.intro hb1 (And.intro hb2 hb3))))
  clear hal hmem hmemb hn hm ha0 ha1 ha2 ha3 hb0 hb1 hb2 hb3
  go_enter Tryd.func73, Tryd.ntmps73
  go_wp2_with fail
  go_loopw [6, 8] (fun v i wr => ∃ k u : Nat, k ≤ 4 ∧ i = .int .i64 (k : Int) ∧ v = .int .u64 (u : Int) ∧ CrS RSub [a0, a1, a2, a3] [b0, b1, b2, b3] w k u wr) (fun _ i _ => 4 - (intOf i).toNat)
  case atStart => exact ⟨0, 0, by omega, rfl, rfl, H0.out⟩
  case round =>
    clear H0
    obtain ⟨k, u, hk, rfl, rfl, ds, hl, hsame, hlt, hu, hr, h0, h1, h2, hb⟩ := hrel
    by_cases hp : k < 4
    · obtain ⟨x, hx⟩ : ∃ x, [a0, a1, a2, a3][k]? = some x := ⟨_, List.getElem?_eq_getElem (show k < [a0, a1, a2, a3].length from hp)⟩
      obtain ⟨y, hy⟩ : ∃ y, [b0, b1, b2, b3][k]? = some y := ⟨_, List.getElem?_eq_getElem (show k < [b0, b1, b2, b3].length from hp)⟩
      have hxl := HM.out.1 x (List.mem_of_getElem? hx)
      have hyl := HM.out.2 y (List.mem_of_getElem? hy)
      have c0 := h0.cell (nu_at ((hsame k (Nat.le_refl _)).trans hx))
      have c1 := h1.cell (nu_at hy)
      have f0 := h0.frozen k
      have l0 := h0.lt
      have l1 := h1.lt
      have hsub := fun W => sub64_run x y u hu W
      have hword := sub_word x y u hxl hyl hu
      have hv1 : (if x < y + u then 1 else 0) ≤ 1 := by split <;> omega
      have hzl : (x + 18446744073709551616 - y - u) % 18446744073709551616 < 2 ^ 64 := Nat.mod_lt _ (by decide)
      obtain ⟨z, hz⟩ : ∃ z, (x + 18446744073709551616 - y - u) % 18446744073709551616 = z := ⟨_, rfl⟩
      obtain ⟨v, hv⟩ : ∃ v, (if x < y + u then 1 else 0) = v := ⟨_, rfl⟩
      rw [hz, hv] at hsub hword
      rw [hv] at hv1
      rw [hz] at hzl
      have HB2 := Lib.hid (CrS.step (R := RSub) (fun d a b q h => sub_step d a b q u x y z v h hword) hv1 hzl hx hy hp hl hsame hlt hr h0 h1 h2 hb)
      have i1 : (0 : Int) ≤ (k : Int) ∧ (k : Int) < 4 := by omega
      clear hx hy hxl hyl hword hzl hv1 hz hv hr hsame hlt hl h2 hb
      go_wp2_with fail
      go_region
      all_goals go_wp2_with fail
      all_goals exact ⟨⟨k + 1, v, by omega, by go_num, rfl, HB2.out.drewN 1⟩, by simp [intOf]; omega⟩
    · obtain rfl : k = 4 := by omega
      obtain ⟨d0, d1, d2, d3, rfl⟩ : ∃ d0 d1 d2 d3, ds = [d0, d1, d2, d3] := four_of hl
      have g0 := hlt d0 (by simp)
      have g1 := hlt d1 (by simp)
      have g2 := hlt d2 (by simp)
      have g3 := hlt d3 (by simp)
      obtain ⟨⟨ha0, ha1, ha2, ha3⟩, hb0, hb1, hb2, hb3⟩ := HB.out
      obtain ⟨hn, hm⟩ := HN.out
      simp only [RSub, valW, List.take_succ_cons, List.take_nil] at hr
      have hd : d0 + 2 ^ 64 * d1 + 2 ^ 128 * d2 + 2 ^ 192 * d3 + m = n + 2 ^ 256 * u := by omega
      have hul : u = 0 ∨ u = 1 := by omega
      have hdec : ((u : Int) == 1) = decide (n < m) := by
        rcases hul with rfl | rfl
        · rw [decide_eq_false (by omega)]; rfl
        · rw [decide_eq_true (by omega)]; rfl
      have HV : Hid (IsW (.agg (nu [d0, d1, d2, d3]).toArray) (subV n m)) := Lib.hid ⟨d0, d1, d2, d3, rfl, g0, g1, g2, g3, by unfold subV; split <;> omega⟩
      have HRF := Lib.hid h0.rng
      have HTH := Lib.hid (h2.there (n := (nu [d0, d1, d2, d3]).toArray.size) rfl)
      have hz2 := h2.setAll (vs := nu [d0, d1, d2, d3]) rfl
      have HZ2 := Lib.hid (Blk.load hz2 79 Tryd.underlying79 rfl size4)
      have HB2 := Lib.hid (blw_cells (show w.heap.size ≤ w.heap.size + 1 + 1 by omega) (nu [d0, d1, d2, d3]) 0 _ hb)
      have HO : Hid ((nu [d0, d1, d2, d3]).toArray.all (·.oneCell') = true) := Lib.hid (oneNu _)
      have HG : Hid ((Tryd.prog.info? 79).map (·.size) = some (nu [d0, d1, d2, d3]).length) := Lib.hid size4
      have HG2 : Hid ((Tryd.prog.info? 79).map (·.size) = some (nu [d0, d1, d2, d3]).toArray.size) := Lib.hid size4
      obtain ⟨dv, hdv⟩ : ∃ d, nu [d0, d1, d2, d3] = d := ⟨_, rfl⟩
      rw [hdv] at HV HRF HTH HZ2 HB2 HO HG HG2
      clear hb h0 h1 h2 hz2 hdv hd hul g0 g1 g2 g3 hn hm ha0 ha1 ha2 ha3 hb0 hb1 hb2 hb3 hr hsame hlt hl
      go_wp2_with (first
        | (refine wpList_load_mid rfl 79 _ rfl w.heap.size 0 rfl dv _ HRF.out Tryd.underlying79 rfl HG.out ?_)
        | (refine wpList_store_mid rfl 79 _ _ rfl (w.heap.size + 1 + 1) 0 dv.toArray rfl rfl HTH.out HG2.out HO.out ?_))
      exact bodyPost_ret (v := .tuple #[.agg dv.toArray, .bool (decide (n < m))]) (results_cell_tmp rfl _ _ _ _ _ rfl rfl HZ2.out) rfl ⟨_, rfl, HV.out, HB2.out⟩
theorem add_word (x y u : Nat) : (x + y + u) % 18446744073709551616 + 2 ^ 64 * ((x + y + u) / 18446744073709551616) = x + y + u := by omega
set_option maxRecDepth 100000 in
set_option maxHeartbeats 4000000 in
theorem and_calls (v1 v2 : Value) (n m : Nat) (hv1 : IsW v1 n) (hv2 : IsW v2 m) (w : World) :
    Calls Tryd.prog 74 #[v1, v2] w (WPost ((n + m) % 2 ^ 256) w) := by
  obtain ⟨a0, a1, a2, a3, rfl, ha0, ha1, ha2, ha3, hn⟩ := hv1
  obtain ⟨b0, b1, b2, b3, rfl, hb0, hb1, hb2, hb3, hm⟩ := hv2
  unfold V4
  have hal := alloc3 w (nu [a0, a1, a2, a3]) (nu [b0, b1, b2, b3]) (nu [0, 0, 0, 0]) 79 79 79
  have hmem : ∀ x ∈ [a0, a1, a2, a3], x < 2 ^ 64 := by
    intro x hx
    simp only [List.mem_cons, List.not_mem_nil, or_false] at hx
    rcases hx with rfl | rfl | rfl | rfl <;> assumption
  have hmemb : ∀ x ∈ [b0, b1, b2, b3], x < 2 ^ 64 := by
    intro x hx
    simp only [List.mem_cons, List.not_mem_nil, or_false] at hx
    rcases hx with rfl | rfl | rfl | rfl <;> assumption
  have H0 : Hid (CrS RAdd [a0, a1, a2, a3] [b0, b1, b2, b3] w 0 0 (((w.alloc (.cells #[.int .u64 (a0 : Int), .int .u64 (a1 : Int), .int .u64 (a2 : Int), .int .u64 (a3 : Int)] 79)).alloc (.cells #[.int .u64 (b0 : Int), .int .u64 (b1 : Int), .int .u64 (b2 : Int), .int .u64 (b3 : Int)] 79)).alloc (.cells #[.int .u64 0, .int .u64 0, .int .u64 0, .int .u64 0] 79))) :=
    Lib.hid ⟨[a0, a1, a2, a3], rfl, fun _ _ => rfl, hmem, by decide, by simp [RAdd, valW], hal.1, hal.2.1, hal.2.2.1, hal.2.2.2⟩
  have HM := Lib.hid (And.intro hmem hmemb)
  have HN := Lib.hid (And.intro hn hm)
  have HB := Lib.hid (And.intro (And.intro ha0 (And.intro ha1 (And.intro ha2 ha3))) (And.intro hb0 (And.intro hb1 (And.intro hb2 hb3))))
  clear hal hmem hmemb hn hm ha0 ha1 ha2 ha3 hb0 hb1 hb2 hb3
  go_enter Tryd.func74, Tryd.ntmps74
  go_wp2_with fail
  go_loopw [5, 7] (fun v i wr => ∃ k u : Nat, k ≤ 4 ∧ i = .int .i64 (k : Int) ∧ v = .int .u64 (u : Int) ∧ CrS RAdd [a0, a1, a2, a3] [b0, b1, b2, b3] w k u wr) (fun _ i _ => 4 - (intOf i).toNat)
  case atStart => exact ⟨0, 0, by omega, rfl, rfl, H0.out⟩
  case round =>
    clear H0
    obtain ⟨k, u, hk, rfl, rfl, ds, hl, hsame, hlt, hu, hr, h0, h1, h2, hb⟩ := hrel
    by_cases hp : k < 4
    · obtain ⟨x, hx⟩ : ∃ x, [a0, a1, a2, a3][k]? = some x := ⟨_, List.getElem?_eq_getElem (show k < [a0, a1, a2, a3].length from hp)⟩
      obtain ⟨y, hy⟩ : ∃ y, [b0, b1, b2, b3][k]? = some y := ⟨_, List.getElem?_eq_getElem (show k < [b0, b1, b2, b3].length from hp)⟩
      have hxl := HM.out.1 x (List.mem_of_getElem? hx)
      have hyl := HM.out.2 y (List.mem_of_getElem? hy)
      have c0 := h0.cell (nu_at ((hsame k (Nat.le_refl _)).trans hx))
      have c1 := h1.cell (nu_at hy)
      have f0 := h0.frozen k
      have l0 := h0.lt
      have l1 := h1.lt
      have hsub := fun W => add64_run x y u hu W
      have hword := add_word x y u
      have hv1 : (x + y + u) / 18446744073709551616 ≤ 1 := by omega
      have hzl : (x + y + u) % 18446744073709551616 < 2 ^ 64 := Nat.mod_lt _ (by decide)
      obtain ⟨z, hz⟩ : ∃ z, (x + y + u) % 18446744073709551616 = z := ⟨_, rfl⟩
      obtain ⟨v, hv⟩ : ∃ v, (x + y + u) / 18446744073709551616 = v := ⟨_, rfl⟩
      rw [hz, hv] at hsub hword
      rw [hv] at hv1
      rw [hz] at hzl
      have HB2 := Lib.hid (CrS.step (R := RAdd) (fun d a b q h => add_step d a b q u x y z v h hword) hv1 hzl hx hy hp hl hsame hlt hr h0 h1 h2 hb)
      have i1 : (0 : Int) ≤ (k : Int) ∧ (k : Int) < 4 := by omega
      clear hx hy hxl hyl hword hzl hv1 hz hv hr hsame hlt hl h2 hb
      go_wp2_with fail
      go_region
      all_goals go_wp2_with fail
      all_goals exact ⟨⟨k + 1, v, by omega, by go_num, rfl, HB2.out.drewN 1⟩, by simp [intOf]; omega⟩
    · obtain rfl : k = 4 := by omega
      obtain ⟨d0, d1, d2, d3, rfl⟩ : ∃ d0 d1 d2 d3, ds = [d0, d1, d2, d3] := four_of hl
      have g0 := hlt d0 (by simp)
      have g1 := hlt d1 (by simp)
      have g2 := hlt d2 (by simp)
      have g3 := hlt d3 (by simp)
      obtain ⟨⟨ha0, ha1, ha2, ha3⟩, hb0, hb1, hb2, hb3⟩ := HB.out
      obtain ⟨hn, hm⟩ := HN.out
      simp only [RAdd, valW, List.take_succ_cons, List.take_nil] at hr
      have hd : d0 + 2 ^ 64 * d1 + 2 ^ 128 * d2 + 2 ^ 192 * d3 + 2 ^ 256 * u = n + m := by omega
      have HV : Hid (IsW (.agg (nu [d0, d1, d2, d3]).toArray) ((n + m) % 2 ^ 256)) := Lib.hid ⟨d0, d1, d2, d3, rfl, g0, g1, g2, g3, by omega⟩
      have HRF := Lib.hid h0.rng
      have HTH := Lib.hid (h2.there (n := (nu [d0, d1, d2, d3]).toArray.size) rfl)
      have hz2 := h2.setAll (vs := nu [d0, d1, d2, d3]) rfl
      have HZ2 := Lib.hid (Blk.load hz2 79 Tryd.underlying79 rfl size4)
      have HB2 := Lib.hid (blw_cells (show w.heap.size ≤ w.heap.size + 1 + 1 by omega) (nu [d0, d1, d2, d3]) 0 _ hb)
      have HO : Hid ((nu [d0, d1, d2, d3]).toArray.all (·.oneCell') = true) := Lib.hid (oneNu _)
      have HG : Hid ((Tryd.prog.info? 79).map (·.size) = some (nu [d0, d1, d2, d3]).length) := Lib.hid size4
      have HG2 : Hid ((Tryd.prog.info? 79).map (·.size) = some (nu [d0, d1, d2, d3]).toArray.size) := Lib.hid size4
      obtain ⟨dv, hdv⟩ : ∃ d, nu [d0, d1, d2, d3] = d := ⟨_, rfl⟩
      rw [hdv] at HV HRF HTH HZ2 HB2 HO HG HG2
      clear hb h0 h1 h2 hz2 hdv hd g0 g1 g2 g3 hn hm ha0 ha1 ha2 ha3 hb0 hb1 hb2 hb3 hr hsame hlt hl
      go_wp2_with (first
        | (refine wpList_load_mid rfl 79 _ rfl w.heap.size 0 rfl dv _ HRF.out Tryd.underlying79 rfl HG.out ?_)
        | (refine wpList_store_mid rfl 79 _ _ rfl (w.heap.size + 1 + 1) 0 dv.toArray rfl rfl HTH.out HG2.out HO.out ?_))
      exact bodyPost_ret (v := .agg dv.toArray) (res_cell rfl _ _ _ _ rfl HZ2.out) rfl ⟨_, rfl, HV.out, HB2.out⟩
end Go.Proofs.YtoligamlafgaoaaDoor.Sc
