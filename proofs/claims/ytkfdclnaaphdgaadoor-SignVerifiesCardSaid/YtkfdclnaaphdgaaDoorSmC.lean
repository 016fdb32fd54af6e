/- Layers 4 and 6: texts put together (SoG SoH SoI SoK SoR). -/
import Derived.Test.YtkfdclnaaphdgaaDoorSmA
import Derived.Test.YtkfdclnaaphdgaaDoorStr
import Derived.Test.YtkfdclnaaphdgaaDoorSmB
import Derived.Stop.BytesEq
import Derived.Deep.RegionHeld3
import Derived.Test.YtkfdclnaaphdgaaDoorBk
namespace Go.Proofs.YtkfdclnaaphdgaaDoor.Sc
open Go.Proofs.YtkfdclnaaphdgaaDoor
open Go.ChangeShapes Go.WideShapes Go.ChangeAt Go.RowKit Go.IntWalk
set_option linter.unusedVariables false

def is3 (ds : List Int) : List Value := ds.map (Value.int .i64)
theorem is3_at {ds : List Int} {k : Nat} {d : Int} (h : ds[k]? = some d) : (is3 ds)[k]? = some (.int .i64 d) := by simp [is3, h]
theorem is3_set (ds : List Int) (k : Nat) (d : Int) : (is3 ds).set k (.int .i64 d) = is3 (ds.set k d) := by simp [is3, List.map_set]
theorem is3_len (ds : List Int) : (is3 ds).length = ds.length := by simp [is3]
theorem one3 (ds : List Int) : (is3 ds).toArray.all (·.oneCell') = true := by
  apply all_oneCell_toArray
  intro v hv
  obtain ⟨y, _, rfl⟩ := List.mem_map.1 hv
  rfl
def valD : List Int → Int
  | [] => 0
  | d :: t => d + 256 * valD t
def lD : List Int := [237, 211, 245, 92, 26, 99, 18, 88, 214, 156, 247, 162, 222, 249, 222, 20, 0, 0, 0, 0, 0, 0, 0, 0, 0, 0, 0, 0, 0, 0, 0, 16, 0]
theorem lD_val : valD lD = (LO : Int) := by decide +kernel
theorem lD_rng : ∀ x ∈ lD, 0 ≤ x ∧ x < 256 := by decide
theorem size33 : (Tryd.prog.info? 125).map (·.size) = some 33 := by kernel_rfl
theorem size33u (ds : List Int) (h : ds.length = 33) : (Tryd.prog.info? 125).map (·.size) = some (is3 ds).length := by rw [is3_len, h]; exact size33
theorem size33a (ds : List Int) (h : ds.length = 33) : (Tryd.prog.info? 125).map (·.size) = some (is3 ds).toArray.size := by rw [List.size_toArray, is3_len, h]; exact size33
theorem z33 : is3 (List.replicate 33 0) = [.int .i64 0, .int .i64 0, .int .i64 0, .int .i64 0, .int .i64 0, .int .i64 0, .int .i64 0, .int .i64 0, .int .i64 0, .int .i64 0, .int .i64 0, .int .i64 0, .int .i64 0, .int .i64 0, .int .i64 0, .int .i64 0, .int .i64 0, .int .i64 0, .int .i64 0, .int .i64 0, .int .i64 0, .int .i64 0, .int .i64 0, .int .i64 0, .int .i64 0, .int .i64 0, .int .i64 0, .int .i64 0, .int .i64 0, .int .i64 0, .int .i64 0, .int .i64 0, .int .i64 0] := rfl
theorem new33 (w : World) : Blk (w.alloc (.cells #[.int .i64 0, .int .i64 0, .int .i64 0, .int .i64 0, .int .i64 0, .int .i64 0, .int .i64 0, .int .i64 0, .int .i64 0, .int .i64 0, .int .i64 0, .int .i64 0, .int .i64 0, .int .i64 0, .int .i64 0, .int .i64 0, .int .i64 0, .int .i64 0, .int .i64 0, .int .i64 0, .int .i64 0, .int .i64 0, .int .i64 0, .int .i64 0, .int .i64 0, .int .i64 0, .int .i64 0, .int .i64 0, .int .i64 0, .int .i64 0, .int .i64 0, .int .i64 0, .int .i64 0] 125)) w.heap.size 125 (is3 (List.replicate 33 0)) := Blk.new w (is3 (List.replicate 33 0)) _
set_option maxRecDepth 100000 in
theorem refL_calls (w : World) : Calls Tryd.prog 93 #[] w fun e w' => e = .returned (.agg (is3 lD).toArray) ∧ Below w.heap.size w w' := by
  have hz0 := new33 w
  have HBF := Lib.hid (blw_cells (Nat.le_refl w.heap.size) (is3 lD) 0 _ ((Below.refl w.heap.size w).alloc (Nat.le_refl _) (.cells #[.int .i64 0, .int .i64 0, .int .i64 0, .int .i64 0, .int .i64 0, .int .i64 0, .int .i64 0, .int .i64 0, .int .i64 0, .int .i64 0, .int .i64 0, .int .i64 0, .int .i64 0, .int .i64 0, .int .i64 0, .int .i64 0, .int .i64 0, .int .i64 0, .int .i64 0, .int .i64 0, .int .i64 0, .int .i64 0, .int .i64 0, .int .i64 0, .int .i64 0, .int .i64 0, .int .i64 0, .int .i64 0, .int .i64 0, .int .i64 0, .int .i64 0, .int .i64 0, .int .i64 0] 125)))
  have HT := Lib.hid (hz0.there (n := (is3 lD).toArray.size) rfl)
  have HS := Lib.hid (size33a lD rfl)
  have HO := Lib.hid (one3 lD)
  have HLD := Lib.hid (Blk.load (hz0.setAll (vs := is3 lD) rfl) 125 Tryd.underlying125 rfl (size33u lD rfl))
  clear hz0
  go_enter Tryd.func93, Tryd.ntmps93
  go_wp2_with (refine wpList_store_mid rfl 125 _ _ rfl w.heap.size 0 (is3 lD).toArray rfl rfl HT.out HS.out HO.out ?_)
  exact bodyPost_ret (v := .agg (is3 lD).toArray) (res_cell rfl _ _ _ _ rfl HLD.out) rfl ⟨rfl, HBF.out⟩
theorem valD_cmp : ∀ (xs ys t : List Int) (d e : Int), xs.length = ys.length → (∀ x ∈ xs, 0 ≤ x ∧ x < 256) → (∀ x ∈ ys, 0 ≤ x ∧ x < 256) → d < e → valD (xs ++ d :: t) < valD (ys ++ e :: t)
  | [], [], t, d, e, _, _, _, h => by simp [valD]; omega
  | x :: xs, y :: ys, t, d, e, hl, hx, hy, h => by
    have ih := valD_cmp xs ys t d e (by simpa using hl) (fun z hz => hx z (List.mem_cons_of_mem _ hz)) (fun z hz => hy z (List.mem_cons_of_mem _ hz)) h
    have h1 := hx x (List.mem_cons_self ..)
    have h2 := hy y (List.mem_cons_self ..)
    simp only [List.cons_append, valD]
    omega
  | [], _ :: _, _, _, _, hl, _, _, _ => by simp at hl
  | _ :: _, [], _, _, _, hl, _, _, _ => by simp at hl
theorem split_at (ds : List Int) (m : Nat) (h : m < ds.length) : ds = ds.take m ++ ds[m] :: ds.drop (m + 1) := by
  rw [← List.drop_eq_getElem_cons h, List.take_append_drop]
theorem below_at (ds : List Int) (hl : ds.length = 33) (hr : ∀ x ∈ ds, 0 ≤ x ∧ x < 256) (m : Nat) (hm : m < 33) (he : ds.drop (m + 1) = lD.drop (m + 1)) (d e : Int) (hd : ds[m]? = some d) (hp : lD[m]? = some e) (hne : d ≠ e) :
    decide (d < e) = decide (valD ds < (LO : Int)) := by
  have h1 : m < ds.length := by omega
  have h2 : m < lD.length := by show m < 33; omega
  obtain rfl : ds[m] = d := by rw [List.getElem?_eq_getElem h1] at hd; exact Option.some.inj hd
  obtain rfl : lD[m] = e := by rw [List.getElem?_eq_getElem h2] at hp; exact Option.some.inj hp
  have hlen : (ds.take m).length = (lD.take m).length := by
    have : lD.length = 33 := rfl
    simp; omega
  have ra : ∀ x ∈ ds.take m, 0 ≤ x ∧ x < 256 := fun x hx => hr x (List.mem_of_mem_take hx)
  have rb : ∀ x ∈ lD.take m, 0 ≤ x ∧ x < 256 := fun x hx => lD_rng x (List.mem_of_mem_take hx)
  have s1 := split_at ds m h1
  have s2 := split_at lD m h2
  rw [he] at s1
  rw [← lD_val, decide_eq_decide]
  constructor
  · intro hlt
    have := valD_cmp (ds.take m) (lD.take m) (lD.drop (m + 1)) _ _ hlen ra rb hlt
    rwa [← s1, ← s2] at this
  · intro hlt
    rcases Int.lt_trichotomy ds[m] lD[m] with h | h | h
    · exact h
    · exact absurd h hne
    · have := valD_cmp (lD.take m) (ds.take m) (lD.drop (m + 1)) _ _ hlen.symm rb ra h
      rw [← s1, ← s2] at this
      omega
set_option maxRecDepth 100000 in
set_option maxHeartbeats 4000000 in
theorem refBelow_calls (ds : List Int) (hl : ds.length = 33) (hr : ∀ x ∈ ds, 0 ≤ x ∧ x < 256) (w : World) :
    Calls Tryd.prog 94 #[(.agg (is3 ds).toArray)] w fun e w' => e = .returned (.bool (decide (valD ds < (LO : Int)))) ∧ Below w.heap.size w w' := by
  have h0 : Blk (w.alloc (.cells (is3 ds).toArray 125)) w.heap.size 125 (is3 ds) := Blk.new _ _ _
  have H0 := Lib.hid h0
  obtain ⟨cs, hcs⟩ : ∃ cs, is3 ds = cs := ⟨_, rfl⟩
  rw [hcs] at H0
  rw [hcs]
  have HCS := Lib.hid hcs
  have HL := Lib.hid (And.intro hl hr)
  clear h0 hcs hl hr
  go_enter Tryd.func94, Tryd.ntmps94
  go_wp2_with fail
  refine (refL_calls _).mono ?_
  rintro e w1 ⟨rfl, b1⟩
  have hn1 := H0.out.later b1
  have hz1 := new33 w1
  have hw1 := (Below.of_alloc b1).size
  have hlt : w.heap.size < w1.heap.size := hn1.lt
  have hp1 := hz1.setAll (vs := is3 lD) rfl
  have hd1 := (hn1.alloc (.cells #[.int .i64 0, .int .i64 0, .int .i64 0, .int .i64 0, .int .i64 0, .int .i64 0, .int .i64 0, .int .i64 0, .int .i64 0, .int .i64 0, .int .i64 0, .int .i64 0, .int .i64 0, .int .i64 0, .int .i64 0, .int .i64 0, .int .i64 0, .int .i64 0, .int .i64 0, .int .i64 0, .int .i64 0, .int .i64 0, .int .i64 0, .int .i64 0, .int .i64 0, .int .i64 0, .int .i64 0, .int .i64 0, .int .i64 0, .int .i64 0, .int .i64 0, .int .i64 0, .int .i64 0] 125)).setFar (g2 := w1.heap.size) (by omega) 0 (is3 lD)
  have hb1 := blw_cells hw1 (is3 lD) 0 _ ((Below.of_alloc b1).alloc hw1 (.cells #[.int .i64 0, .int .i64 0, .int .i64 0, .int .i64 0, .int .i64 0, .int .i64 0, .int .i64 0, .int .i64 0, .int .i64 0, .int .i64 0, .int .i64 0, .int .i64 0, .int .i64 0, .int .i64 0, .int .i64 0, .int .i64 0, .int .i64 0, .int .i64 0, .int .i64 0, .int .i64 0, .int .i64 0, .int .i64 0, .int .i64 0, .int .i64 0, .int .i64 0, .int .i64 0, .int .i64 0, .int .i64 0, .int .i64 0, .int .i64 0, .int .i64 0, .int .i64 0, .int .i64 0] 125))
  have HT := Lib.hid (hz1.there (n := (is3 lD).toArray.size) rfl)
  have HS := Lib.hid (size33a lD rfl)
  have HO := Lib.hid (one3 lD)
  have HB1 := Lib.hid (And.intro hd1 (And.intro hp1 hb1))
  clear hn1 b1 hz1 hw1 hp1 hd1 hb1
  go_wp2_with (refine wpList_store_mid rfl 125 _ _ rfl w1.heap.size 0 (is3 lD).toArray rfl rfl HT.out HS.out HO.out ?_)
  go_loopw [4] (fun i wr => ∃ (n : Nat) (z : Int), n ≤ 33 ∧ i = .int .i64 z ∧ z = (n : Int) - 1 ∧ ds.drop n = lD.drop n ∧ Blk wr w.heap.size 125 (is3 ds) ∧ Blk wr w1.heap.size 125 (is3 lD) ∧ Below w.heap.size w wr) (fun i _ => (intOf i + 1).toNat)
  case atStart => exact ⟨33, 32, by omega, rfl, by omega, by rw [List.drop_of_length_le (by rw [HL.out.1]; omega), List.drop_of_length_le (by decide)], by rw [HCS.out]; exact HB1.out.1, HB1.out.2.1, HB1.out.2.2⟩
  case round =>
    obtain ⟨n, z, hn16, rfl, hz, hdr, hn, hpn, hbw⟩ := hrel
    cases n with
    | succ m =>
      obtain rfl : z = (m : Int) := by omega
      have h1 : m < ds.length := by rw [HL.out.1]; omega
      have h2 : m < lD.length := by show m < 33; omega
      obtain ⟨d, hd⟩ : ∃ d, ds[m]? = some d := ⟨_, List.getElem?_eq_getElem h1⟩
      obtain ⟨e, he⟩ : ∃ e, lD[m]? = some e := ⟨_, List.getElem?_eq_getElem h2⟩
      have g1 := hn.cell (is3_at hd)
      have g2 := hpn.cell (is3_at he)
      have hb0 : decide ((0 : Int) ≤ (m : Int)) = true := by simp
      have hm16 : (m : Int) < 33 := by omega
      by_cases hne : d = e
      · have hdr2 : ds.drop m = lD.drop m := by
          rw [List.drop_eq_getElem_cons h1, List.drop_eq_getElem_cons h2, hdr]
          rw [List.getElem?_eq_getElem h1] at hd
          rw [List.getElem?_eq_getElem h2] at he
          rw [Option.some.inj hd, Option.some.inj he, hne]
        have HD := Lib.hid (And.intro hdr2 (And.intro hn (And.intro hpn hbw)))
        have hq : (d != e) = false := by simp [hne]
        have hq2 : (d == e) = true := by simp [hne]
        have e1 : IntKind.i64.wrap ((m : Int) - 1) = (m : Int) - 1 := IntWalk.i64_in _ (by omega)
        clear hz hdr hn hpn hbw hd he hdr2 hne h1 h2
        go_wp2_with fail
        go_quiet (fail)
        go_wp2_with fail
        exact ⟨⟨m, (m : Int) - 1, by omega, rfl, rfl, HD.out.1, HD.out.2.1, HD.out.2.2.1, HD.out.2.2.2.drewN _⟩, by simp [intOf]⟩
      · have hres := below_at ds HL.out.1 HL.out.2 m (by omega) hdr d e hd he hne
        have HD := Lib.hid hbw
        have hq : (d != e) = true := by simp [hne]
        have hq2 : (d == e) = false := by simp [hne]
        have HR := Lib.hid hres
        clear hz hdr hn hpn hbw hd he h1 h2 hres
        go_wp2_with fail
        go_quiet (fail)
        go_wp2_with fail
        go_quiet (fail)
        go_wp2_with fail
        go_ret
        exact ⟨ret_bool HR.out, (HD.out.drewN _).drewN _⟩
    | zero =>
      obtain rfl : z = -1 := by omega
      have hds : ds = lD := by simpa using hdr
      have hres : false = decide (valD ds < (LO : Int)) := by rw [hds, lD_val]; simp
      have HR := Lib.hid hres
      have HD := Lib.hid hbw
      clear hz hdr hn hpn hbw hds hres
      go_wp2_with fail
      go_ret
      exact ⟨ret_bool HR.out, HD.out⟩
end Go.Proofs.YtkfdclnaaphdgaaDoor.Sc
namespace Go.Proofs.YtkfdclnaaphdgaaDoor.Sc
open Go.Proofs.YtkfdclnaaphdgaaDoor
open Go.ChangeShapes Go.WideShapes Go.ChangeAt Go.RowKit Go.IntWalk
set_option linter.unusedVariables false

/-- Digits of 256, 33 of them. -/
def Dig (ds : List Int) (v : Int) : Prop := ds.length = 33 ∧ (∀ x ∈ ds, 0 ≤ x ∧ x < 256) ∧ valD ds = v
theorem valD_app (xs ys : List Int) : valD (xs ++ ys) = valD xs + 256 ^ xs.length * valD ys := by
  induction xs with
  | nil => simp [valD]
  | cons x xs ih =>
    simp only [List.cons_append, valD, ih, List.length_cons, Int.pow_succ]
    rw [Int.mul_add, Int.mul_comm (256 ^ xs.length) 256, Int.mul_assoc]; omega
theorem valD_lt : ∀ (ds : List Int), (∀ x ∈ ds, 0 ≤ x ∧ x < 256) → 0 ≤ valD ds ∧ valD ds < 256 ^ ds.length
  | [], _ => by simp [valD]
  | d :: ds, h => by
    have ih := valD_lt ds (fun x hx => h x (List.mem_cons_of_mem _ hx))
    have h1 := h d (List.mem_cons_self ..)
    rw [List.length_cons, Int.pow_succ]
    simp only [valD]
    omega
theorem valD_take (ds : List Int) (k : Nat) (d : Int) (h : ds[k]? = some d) : valD (ds.take (k + 1)) = valD (ds.take k) + 256 ^ k * d := by
  have hk := (List.getElem?_eq_some_iff.1 h).1
  rw [List.take_add_one, h, Option.toList_some, valD_app, List.length_take, Nat.min_eq_left (by omega)]
  simp [valD]
theorem takeSet (l : List Int) (k : Nat) (x : Int) (h : k < l.length) : (l.set k x).take (k + 1) = l.take k ++ [x] := by
  rw [List.take_add_one, List.getElem?_set_self h, List.take_set_of_le (by omega)]; rfl
theorem valD_set (ds : List Int) (k : Nat) (d : Int) (h : k < ds.length) : valD ((ds.set k d).take (k + 1)) = valD (ds.take k) + 256 ^ k * d := by
  rw [takeSet ds k d h, valD_app, List.length_take, Nat.min_eq_left (by omega)]
  simp [valD]
/-- Where the digits move up: behind the round of index j. -/
def shD (ds : List Int) (j : Nat) : List Int := ds.take (j + 1) ++ (ds.drop j).take (32 - j)
theorem shD_top (ds : List Int) (h : ds.length = 33) : shD ds 32 = ds := by
  unfold shD; rw [List.take_of_length_le (by omega)]; simp
theorem shD_len (ds : List Int) (j : Nat) (h : ds.length = 33) (hj : j ≤ 32) : (shD ds j).length = 33 := by
  unfold shD; simp; omega
theorem shD_at (ds : List Int) (j : Nat) (h : ds.length = 33) (hj : j + 1 ≤ 32) : (shD ds (j + 1))[j]? = ds[j]? := by
  unfold shD
  rw [List.getElem?_append_left (by simp; omega), List.getElem?_take, if_pos (by omega)]
theorem shD_step (ds : List Int) (j : Nat) (d : Int) (h : ds.length = 33) (hj : j + 1 ≤ 32) (hd : ds[j]? = some d) : (shD ds (j + 1)).set (j + 1) d = shD ds j := by
  have hjl : j < ds.length := by omega
  have e1 : ds.drop j = d :: ds.drop (j + 1) := by
    rw [List.drop_eq_getElem_cons hjl]
    rw [List.getElem?_eq_getElem hjl] at hd
    rw [Option.some.inj hd]
  unfold shD
  have hl : (ds.take (j + 1 + 1)).length = j + 1 + 1 := by simp; omega
  rw [List.set_append_left _ _ (by omega), e1, show 32 - j = (32 - (j + 1)) + 1 by omega, List.take_succ_cons]
  have e2 : (ds.take (j + 1 + 1)).set (j + 1) d = ds.take (j + 1) ++ [d] := by
    rw [List.take_add_one (i := j + 1), List.getElem?_eq_getElem (show j + 1 < ds.length by omega), Option.toList_some, List.set_append_right _ _ (by simp; omega)]
    congr 1
    rw [List.length_take, Nat.min_eq_left (by omega), Nat.sub_self]; rfl
  rw [e2, List.append_assoc]; rfl
theorem shD_zero (ds : List Int) (d : Int) (h : ds.length = 33) : (shD ds 0).set 0 d = d :: ds.take 32 := by
  cases ds with
  | nil => simp at h
  | cons x xs => simp [shD]
theorem dig_push (ds : List Int) (v c : Int) (h : Dig ds v) (hv : v < 256 ^ 32) (hc : 0 ≤ c ∧ c < 256) : Dig (c :: ds.take 32) (256 * v + c) := by
  obtain ⟨hl, hr, hval⟩ := h
  obtain ⟨d, hd⟩ : ∃ d, ds[32]? = some d := ⟨_, List.getElem?_eq_getElem (by omega)⟩
  have h1 := valD_take ds 32 d hd
  rw [List.take_of_length_le (by omega), hval] at h1
  have h2 := valD_lt (ds.take 32) (fun x hx => hr x (List.mem_of_mem_take hx))
  have hdr := hr d (List.mem_of_getElem? hd)
  have hlt : (ds.take 32).length = 32 := by simp; omega
  rw [hlt] at h2
  refine ⟨by simp; omega, fun x hx => ?_, ?_⟩
  · rcases List.mem_cons.1 hx with rfl | hx
    · exact hc
    · exact hr x (List.mem_of_mem_take hx)
  · simp only [valD]; omega
/-- Where the order is taken off: digits, and what is borrowed. -/
def SbS (es : List Int) (k : Nat) (u : Int) (ds : List Int) : Prop :=
  ds.length = 33 ∧ (∀ i, k ≤ i → ds[i]? = es[i]?) ∧ (∀ x ∈ ds, 0 ≤ x ∧ x < 256) ∧ (u = 0 ∨ u = 1) ∧ valD (ds.take k) + valD (lD.take k) = valD (es.take k) + 256 ^ k * u
theorem SbS.step {es ds : List Int} {k : Nat} {u d e z v : Int} (h : SbS es k u ds) (hk : k < 33) (hd : es[k]? = some d) (he : lD[k]? = some e) (hz : 0 ≤ z ∧ z < 256) (hv : v = 0 ∨ v = 1) (hw : z + e + u = d + 256 * v) : SbS es (k + 1) v (ds.set k z) := by
  obtain ⟨hl, hs, hr, hu, hval⟩ := h
  refine ⟨by rw [List.length_set]; exact hl, fun i hi => ?_, fun x hx => ?_, hv, ?_⟩
  · rw [List.getElem?_set_ne (by omega)]; exact hs i (by omega)
  · rcases List.mem_or_eq_of_mem_set hx with h | rfl
    · exact hr x h
    · exact hz
  · rw [valD_set _ _ _ (by omega), valD_take _ _ _ he, valD_take _ _ _ hd, Int.pow_succ]
    have h2 : 256 ^ k * z + 256 ^ k * e + 256 ^ k * u = 256 ^ k * d + 256 ^ k * (256 * v) := by rw [← Int.mul_add, ← Int.mul_add, ← Int.mul_add, hw]
    rw [← Int.mul_assoc] at h2
    omega
theorem SbS.done {es ds : List Int} {u v : Int} (h : SbS es 33 u ds) (he : Dig es v) (hv : (LO : Int) ≤ v) : Dig ds (v - LO) := by
  obtain ⟨hl, _, hr, hu, hval⟩ := h
  rw [List.take_of_length_le (by omega), List.take_of_length_le (by decide), List.take_of_length_le (by rw [he.1]; omega), lD_val, he.2.2] at hval
  have h1 := valD_lt ds hr
  rw [hl] at h1
  refine ⟨hl, hr, ?_⟩
  have : (256 : Int) ^ 33 = 29642774844752946028434172162224104410437116074403984394101141506025761187823616 := by decide +kernel
  rw [this] at hval h1
  rcases hu with rfl | rfl <;> omega
theorem SbS.start {es : List Int} {v : Int} (he : Dig es v) : SbS es 0 0 es := ⟨he.1, fun _ _ => rfl, he.2.1, .inl rfl, by simp [valD]⟩
end Go.Proofs.YtkfdclnaaphdgaaDoor.Sc
namespace Go.Proofs.YtkfdclnaaphdgaaDoor.Sc
open Go.Proofs.YtkfdclnaaphdgaaDoor
open Go.ChangeShapes Go.WideShapes Go.ChangeAt Go.RowKit Go.IntWalk
set_option linter.unusedVariables false

def numAt (w : World) (g : Nat) : Nat := match w.heap[g]? with
  | some (.cells cs _ _) => (valD (cs.toList.map intOf)).toNat
  | _ => 0
theorem _root_.Go.Proofs.YtkfdclnaaphdgaaDoor.Blk.num {w : World} {g : Nat} {T : TypeId} {es : List Int} (h : Blk w g T (is3 es)) : numAt w g = (valD es).toNat := by
  unfold Blk at h
  unfold numAt
  rw [h]
  have : (is3 es).toArray.toList.map intOf = es := by simp [is3, Function.comp_def, intOf]
  simp only [this]
def RsS (g g2 : Nat) (w : World) (ds : List Int) (wr : World) : Prop := Blk wr g 125 (is3 lD) ∧ Blk wr g2 125 (is3 ds) ∧ Below w.heap.size w wr
theorem RsS.later {g g2 : Nat} {w wr w1 : World} {ds : List Int} (h : RsS g g2 w ds wr) (b : Below wr.heap.size wr w1) : RsS g g2 w ds w1 := ⟨h.1.later b, h.2.1.later b, h.2.2.then_ b⟩
theorem RsS.drewN {g g2 : Nat} {w wr : World} {ds : List Int} (h : RsS g g2 w ds wr) (n : Nat) : RsS g g2 w ds (wr.drewN n) := ⟨h.1.drewN n, h.2.1.drewN n, h.2.2.drewN n⟩
theorem RsS.set_ {g g2 : Nat} {w wr : World} {ds : List Int} (h : RsS g g2 w ds wr) (hne : g2 ≠ g) (hg : w.heap.size ≤ g2) (k : Nat) (d : Int) : RsS g g2 w (ds.set k d) (wr.setCell ⟨g2, k, none⟩ (.int .i64 d)) :=
  ⟨h.1.other hne _, by rw [← is3_set]; exact h.2.1.set_ k _, h.2.2.setCell (by show w.heap.size ≤ g2; omega) _⟩
theorem z33_dig : Dig (List.replicate 33 0) 0 := ⟨by simp, fun x hx => by rw [List.eq_of_mem_replicate hx]; decide, by decide +kernel⟩
theorem outs_is (ds : List Int) (v : Nat) (h : Dig ds (v : Int)) (hv : v < 256 ^ 32) : (ds.take 32).map (fun d => UInt8.ofNat d.toNat) = leB 32 v := by
  have hlen := h.1
  have hrng := h.2.1
  obtain ⟨d, hd⟩ : ∃ d, ds[32]? = some d := ⟨_, List.getElem?_eq_getElem (by omega)⟩
  have h1 := valD_take ds 32 d hd
  rw [List.take_of_length_le (by omega), h.2.2] at h1
  have h2 := valD_lt (ds.take 32) (fun x hx => hrng x (List.mem_of_mem_take hx))
  have hlt : (ds.take 32).length = 32 := by simp; omega
  rw [hlt] at h2
  have hdr := hrng d (List.mem_of_getElem? hd)
  have hv2 : valD (ds.take 32) = (v : Int) := by
    have hvv : (v : Int) < ((256 ^ 32 : Nat) : Int) := Int.ofNat_lt.2 hv
    have e1 : ((256 ^ 32 : Nat) : Int) = 256 ^ 32 := by decide +kernel
    rw [e1] at hvv
    have e2 : (256 : Int) ^ 32 = 115792089237316195423570985008687907853269984665640564039457584007913129639936 := by decide +kernel
    rw [e2] at h1 h2 hvv
    omega
  have key : ∀ (k : Nat) (xs : List Int) (n : Nat), xs.length = k → (∀ x ∈ xs, 0 ≤ x ∧ x < 256) → valD xs = (n : Int) → xs.map (fun d => UInt8.ofNat d.toNat) = leB k n := by
    intro k
    induction k with
    | zero => intro xs n hl _ _; rw [List.length_eq_zero_iff.1 hl]; rfl
    | succ k ih =>
      intro xs n hl hr hv
      cases xs with
      | nil => simp at hl
      | cons x xs =>
        have hx := hr x (List.mem_cons_self ..)
        have hv' : x + 256 * valD xs = (n : Int) := hv
        have ht := valD_lt xs (fun y hy => hr y (List.mem_cons_of_mem _ hy))
        rw [List.map_cons, leB, ih xs (n / 256) (by simpa using hl) (fun y hy => hr y (List.mem_cons_of_mem _ hy)) (by omega), show x.toNat = n % 256 by omega]
  exact key 32 _ v hlt (fun x hx => hrng x (List.mem_of_mem_take hx)) hv2
set_option maxRecDepth 100000 in
set_option maxHeartbeats 8000000 in
theorem refRest_calls (l : List UInt8) (hl : l.length ≤ 2 ^ 40) (w : World) :
    Calls Tryd.prog 57 #[.string ⟨l.toArray⟩] w fun e w' => e = .returned (.string ⟨(leB 32 (leN l % LO)).toArray⟩) ∧ Below w.heap.size w w' := by
  have hbs : (⟨l.toArray⟩ : ByteArray).size = l.length := rfl
  go_enter Tryd.func57, Tryd.ntmps57
  go_wp2_with fail
  refine (refL_calls _).mono ?_
  rintro e w1 ⟨rfl, b1⟩
  obtain ⟨ZV, hZV⟩ : ∃ z : Array Value, #[.int .i64 0, .int .i64 0, .int .i64 0, .int .i64 0, .int .i64 0, .int .i64 0, .int .i64 0, .int .i64 0, .int .i64 0, .int .i64 0, .int .i64 0, .int .i64 0, .int .i64 0, .int .i64 0, .int .i64 0, .int .i64 0, .int .i64 0, .int .i64 0, .int .i64 0, .int .i64 0, .int .i64 0, .int .i64 0, .int .i64 0, .int .i64 0, .int .i64 0, .int .i64 0, .int .i64 0, .int .i64 0, .int .i64 0, .int .i64 0, .int .i64 0, .int .i64 0, .int .i64 0] = z := ⟨_, rfl⟩
  have hz1 := new33 w1
  have hl1 := hz1.setAll (vs := is3 lD) rfl
  have hb2 := blw_cells b1.size (is3 lD) 0 _ (b1.alloc b1.size (.cells #[.int .i64 0, .int .i64 0, .int .i64 0, .int .i64 0, .int .i64 0, .int .i64 0, .int .i64 0, .int .i64 0, .int .i64 0, .int .i64 0, .int .i64 0, .int .i64 0, .int .i64 0, .int .i64 0, .int .i64 0, .int .i64 0, .int .i64 0, .int .i64 0, .int .i64 0, .int .i64 0, .int .i64 0, .int .i64 0, .int .i64 0, .int .i64 0, .int .i64 0, .int .i64 0, .int .i64 0, .int .i64 0, .int .i64 0, .int .i64 0, .int .i64 0, .int .i64 0, .int .i64 0] 125))
  have HT1 := Lib.hid (hz1.there (n := (is3 lD).toArray.size) rfl)
  have HS1 := Lib.hid (size33a lD rfl)
  have HO1 := Lib.hid (one3 lD)
  rw [hZV] at hl1 hb2 HT1
  have HL1 := Lib.hid (And.intro hl1 hb2)
  have HZV := Lib.hid hZV
  clear hz1 hl1 hb2 b1 hZV
  go_upto_region 2 with (refine wpList_store_mid rfl 125 _ _ rfl w1.heap.size 0 (is3 lD).toArray rfl rfl (by have h := HT1.out; rw [← HZV.out] at h; exact h) HS1.out HO1.out ?_)
  obtain ⟨g, hg⟩ : ∃ g, w1.heap.size = g := ⟨_, rfl⟩
  rw [hg] at HL1 ⊢
  refine wp_gen (fun W => Blk W g 125 (is3 lD) ∧ Below w.heap.size w W) (by have h := HL1.out; rw [← HZV.out] at h; exact h) ?_
  rintro W2 ⟨h2, hb2⟩
  have hgl := h2.lt
  have hw2 := hb2.size
  have hz2 := new33 W2
  have hz3 := hz2.setAll (vs := is3 (List.replicate 33 0)) rfl
  have hl3 := (h2.alloc (.cells #[.int .i64 0, .int .i64 0, .int .i64 0, .int .i64 0, .int .i64 0, .int .i64 0, .int .i64 0, .int .i64 0, .int .i64 0, .int .i64 0, .int .i64 0, .int .i64 0, .int .i64 0, .int .i64 0, .int .i64 0, .int .i64 0, .int .i64 0, .int .i64 0, .int .i64 0, .int .i64 0, .int .i64 0, .int .i64 0, .int .i64 0, .int .i64 0, .int .i64 0, .int .i64 0, .int .i64 0, .int .i64 0, .int .i64 0, .int .i64 0, .int .i64 0, .int .i64 0, .int .i64 0] 125)).setFar (g2 := W2.heap.size) (by omega) 0 (is3 (List.replicate 33 0))
  have hb3 := blw_cells hb2.size (is3 (List.replicate 33 0)) 0 _ (hb2.alloc hb2.size (.cells #[.int .i64 0, .int .i64 0, .int .i64 0, .int .i64 0, .int .i64 0, .int .i64 0, .int .i64 0, .int .i64 0, .int .i64 0, .int .i64 0, .int .i64 0, .int .i64 0, .int .i64 0, .int .i64 0, .int .i64 0, .int .i64 0, .int .i64 0, .int .i64 0, .int .i64 0, .int .i64 0, .int .i64 0, .int .i64 0, .int .i64 0, .int .i64 0, .int .i64 0, .int .i64 0, .int .i64 0, .int .i64 0, .int .i64 0, .int .i64 0, .int .i64 0, .int .i64 0, .int .i64 0] 125))
  have ht2 := hz2.there (n := (is3 (List.replicate 33 0)).toArray.size) rfl
  have HL3 : Hid (RsS g W2.heap.size w (List.replicate 33 0) ((W2.alloc (.cells #[.int .i64 0, .int .i64 0, .int .i64 0, .int .i64 0, .int .i64 0, .int .i64 0, .int .i64 0, .int .i64 0, .int .i64 0, .int .i64 0, .int .i64 0, .int .i64 0, .int .i64 0, .int .i64 0, .int .i64 0, .int .i64 0, .int .i64 0, .int .i64 0, .int .i64 0, .int .i64 0, .int .i64 0, .int .i64 0, .int .i64 0, .int .i64 0, .int .i64 0, .int .i64 0, .int .i64 0, .int .i64 0, .int .i64 0, .int .i64 0, .int .i64 0, .int .i64 0, .int .i64 0] 125)).setCells W2.heap.size 0 (is3 (List.replicate 33 0)))) := Lib.hid ⟨hl3, hz3, hb3⟩
  have HZ0 : Hid (#[.int .i64 0, .int .i64 0, .int .i64 0, .int .i64 0, .int .i64 0, .int .i64 0, .int .i64 0, .int .i64 0, .int .i64 0, .int .i64 0, .int .i64 0, .int .i64 0, .int .i64 0, .int .i64 0, .int .i64 0, .int .i64 0, .int .i64 0, .int .i64 0, .int .i64 0, .int .i64 0, .int .i64 0, .int .i64 0, .int .i64 0, .int .i64 0, .int .i64 0, .int .i64 0, .int .i64 0, .int .i64 0, .int .i64 0, .int .i64 0, .int .i64 0, .int .i64 0, .int .i64 0] = (is3 (List.replicate 33 0)).toArray) := Lib.hid rfl
  have hS2 := size33a (List.replicate 33 0) (by simp)
  have hO2 := one3 (List.replicate 33 0)
  obtain ⟨zs, hzs⟩ : ∃ z, is3 (List.replicate 33 0) = z := ⟨_, rfl⟩
  rw [hzs] at ht2 HZ0 hS2 hO2 HL3
  have HT2 := Lib.hid ht2
  have HS2 := Lib.hid hS2
  have HO2 := Lib.hid hO2
  clear h2 hb2 HL1 HT1 HS1 HO1 hg hz2 hz3 hl3 hb3 ht2 hS2 hO2 hzs
  go_upto_region 3 with (refine wpList_store_mid rfl 125 _ _ rfl W2.heap.size 0 zs.toArray rfl (by rw [← HZ0.out]; rfl) HT2.out HS2.out HO2.out ?_)
  obtain ⟨zv, hzv⟩ : ∃ z, Value.agg #[.int .i64 0, .int .i64 0, .int .i64 0, .int .i64 0, .int .i64 0, .int .i64 0, .int .i64 0, .int .i64 0, .int .i64 0, .int .i64 0, .int .i64 0, .int .i64 0, .int .i64 0, .int .i64 0, .int .i64 0, .int .i64 0, .int .i64 0, .int .i64 0, .int .i64 0, .int .i64 0, .int .i64 0, .int .i64 0, .int .i64 0, .int .i64 0, .int .i64 0, .int .i64 0, .int .i64 0, .int .i64 0, .int .i64 0, .int .i64 0, .int .i64 0, .int .i64 0, .int .i64 0] = z := ⟨_, rfl⟩
  go_frame
  rw [hzv]
  clear hzv
  obtain ⟨g2, hg2⟩ : ∃ g, W2.heap.size = g := ⟨_, rfl⟩
  rw [hg2] at HL3 ⊢
  refine wp_gen (fun W => RsS g g2 w (List.replicate 33 0) W) HL3.out ?_
  intro W3 h3
  have hne : g2 ≠ g := by omega
  have hgw : w.heap.size ≤ g2 := by omega
  have H3 := Lib.hid h3
  clear h3 HL3 hg2 hgl hw2 HZV HT2 HS2 HO2 HZ0
  obtain ⟨z0, hz0⟩ : ∃ z : Int, (l.length : Int) - 1 = z := ⟨_, rfl⟩
  have HZ0 := Lib.hid hz0
  have hw0 : IntKind.i64.wrap ((l.length : Int) - 1) = z0 := (IntWalk.i64_in _ (by omega)).trans hz0
  clear hz0
  go_wp2_with fail
  go_loopw [5] (fun kv wr => ∃ (m : Nat) (z : Int) (ds : List Int), m ≤ l.length ∧ Hid (z = (m : Int) - 1) ∧ kv = .int .i64 z ∧ Dig ds ((leN (l.drop m) % LO : Nat) : Int) ∧ RsS g g2 w ds wr) (fun kv _ => (intOf kv + 1).toNat)
  case atStart => exact ⟨l.length, z0, _, Nat.le_refl _, Lib.hid HZ0.out.symm, rfl, by rw [List.drop_length]; exact z33_dig, H3.out⟩
  case round =>
    clear H3 hw0
    obtain ⟨m, z, ds, hm, hz, rfl, hdg, hrs⟩ := hrel
    have HDG := Lib.hid hdg
    have HRS := Lib.hid hrs
    clear hdg hrs
    by_cases hm0 : 0 < m
    · obtain ⟨q, rfl⟩ : ∃ q, m = q + 1 := ⟨m - 1, by omega⟩
      obtain rfl : z = (q : Int) := by have := hz.out; omega
      have hb0 : decide ((0 : Int) ≤ (q : Int)) = true := by simp
      go_wp2_with fail
      go_loopw [6] (fun jv wi => ∃ j : Nat, j ≤ 32 ∧ jv = .int .i64 (j : Int) ∧ RsS g g2 w (shD ds j) wi) (fun jv _ => (intOf jv).toNat)
      case atStart => exact ⟨32, Nat.le_refl _, rfl, by rw [shD_top ds HDG.out.1]; exact HRS.out⟩
      case round =>
        obtain ⟨j, hj, rfl, hrs⟩ := hrel
        by_cases hj0 : 0 < j
        · obtain ⟨p, rfl⟩ : ∃ p, j = p + 1 := ⟨j - 1, by omega⟩
          obtain ⟨d, hd⟩ : ∃ d, ds[p]? = some d := ⟨_, List.getElem?_eq_getElem (by rw [HDG.out.1]; omega)⟩
          have c1 := hrs.2.1.cell (is3_at ((shD_at ds p HDG.out.1 hj).trans hd))
          have f1 := hrs.2.1.frozen (p + 1)
          have hset := hrs.set_ hne hgw (p + 1) d
          rw [shD_step ds p d HDG.out.1 hj hd] at hset
          have HS := Lib.hid hset
          obtain ⟨o, ho⟩ : ∃ o, (shD ds (p + 1))[p + 1]? = some o := ⟨_, List.getElem?_eq_getElem (by rw [shD_len ds (p + 1) HDG.out.1 hj]; omega)⟩
          have c2 := hrs.2.1.cell (is3_at ho)
          obtain ⟨j1, hj1⟩ : ∃ j1, p + 1 = j1 := ⟨_, rfl⟩
          rw [hj1] at c2 f1 HS hj
          have e1 : IntKind.i64.wrap ((j1 : Int) - 1) = (p : Int) := (IntWalk.i64_in _ (by omega)).trans (by omega)
          have hpos : decide ((0 : Int) < (j1 : Int)) = true := by simp; omega
          have i1 : (0 : Int) ≤ (p : Int) ∧ (p : Int) < 33 := by omega
          have i2 : (0 : Int) ≤ (j1 : Int) ∧ (j1 : Int) < 33 := by omega
          clear hset hrs ho hd
          rw [hj1]
          go_wp2_with fail
          exact ⟨⟨p, by omega, rfl, HS.out⟩, by simp [intOf]; omega⟩
        · obtain rfl : j = 0 := by omega
          have hj00 : decide ((0 : Int) < 0) = false := by simp
          obtain ⟨c, hc⟩ : ∃ c, l[q]? = some c := ⟨_, List.getElem?_eq_getElem (by omega)⟩
          have hcl := c.toNat_lt
          have i1 : q < l.length := by omega
          have hcq : l[q] = c := by rw [List.getElem?_eq_getElem i1] at hc; exact Option.some.inj hc
          have hdig : Dig ((shD ds 0).set 0 (c.toNat : Int)) ((256 * (leN (l.drop (q + 1)) % LO) + c.toNat : Nat) : Int) := by
            rw [shD_zero ds _ HDG.out.1]
            have hlo : LO < 256 ^ 32 := by decide +kernel
            have := Nat.mod_lt (leN (l.drop (q + 1))) (show 0 < LO by decide +kernel)
            have h := dig_push ds _ (c.toNat : Int) HDG.out (by
              have h2 : ((leN (l.drop (q + 1)) % LO : Nat) : Int) < ((256 ^ 32 : Nat) : Int) := by exact Int.ofNat_lt.2 (by omega)
              simpa using h2) (by omega)
            rw [show ((256 * (leN (l.drop (q + 1)) % LO) + c.toNat : Nat) : Int) = 256 * ((leN (l.drop (q + 1)) % LO : Nat) : Int) + (c.toNat : Int) by omega]
            exact h
          have hX : (256 * (leN (l.drop (q + 1)) % LO) + c.toNat) % LO = leN (l.drop q) % LO := by
            rw [List.drop_eq_getElem_cons i1, hcq]
            simp only [leN]
            rw [Nat.add_mod, Nat.mul_mod, Nat.mod_mod, ← Nat.mul_mod, ← Nat.add_mod, Nat.add_comm]
          have f0 := hrs.2.1.frozen 0
          obtain ⟨o, ho⟩ : ∃ o, (shD ds 0)[0]? = some o := ⟨_, List.getElem?_eq_getElem (by rw [shD_len ds 0 HDG.out.1 (by omega)]; omega)⟩
          have c0 := hrs.2.1.cell (is3_at ho)
          have hset := hrs.set_ hne hgw 0 (c.toNat : Int)
          have hcv : IntKind.i64.wrap (c.toNat : Int) = (c.toNat : Int) := IntWalk.i64_in _ (by omega)
          obtain ⟨es, hes⟩ : ∃ es, (shD ds 0).set 0 (c.toNat : Int) = es := ⟨_, rfl⟩
          rw [hes] at hdig hset
          have HE := Lib.hid (And.intro hdig (And.intro hset hX))
          have HQ := Lib.hid i1
          clear hdig hset hX hes ho hrs hc
          go_wp2_with fail
          clear f0 c0 hcv hcq hcl hj00
          go_loopw [7, 8] (fun _ _ wc => ∃ (v : Nat) (fs : List Int), Dig fs (v : Int) ∧ v % LO = leN (l.drop q) % LO ∧ RsS g g2 w fs wc) (fun _ _ wc => numAt wc g2)
          case atStart => exact ⟨_, es, HE.out.1, HE.out.2.2, HE.out.2.1⟩
          case round =>
            clear HE
            obtain ⟨v, fs, hdf, hvm, hrf⟩ := hrel
            have HF := Lib.hid (And.intro hdf (And.intro hvm hrf))
            have HRF := Lib.hid hrf.2.1.rng
            have HSF := Lib.hid (size33u fs hdf.1)
            have hval := hdf.2.2
            clear hdf hvm hrf
            go_wp2_with (refine wpList_load_mid rfl 125 _ rfl g2 0 rfl (is3 fs) _ HRF.out Tryd.underlying125 rfl HSF.out ?_)
            refine (refBelow_calls fs HF.out.1.1 HF.out.1.2.1 _).mono ?_
            rintro e w4 ⟨rfl, b4⟩
            have HF4 := Lib.hid (HF.out.2.2.later b4)
            have HN4 : Hid (numAt wr g2 = v) := Lib.hid (by rw [HF.out.2.2.2.1.num, HF.out.1.2.2]; simp)
            clear b4
            by_cases hlt : v < LO
            · have hdec : decide (valD fs < (LO : Int)) = true := by rw [hval]; simp; omega
              rw [hdec]
              obtain ⟨y, hy⟩ : ∃ y : Int, (q : Int) - 1 = y := ⟨_, rfl⟩
              have HY := Lib.hid hy
              have hwy : IntKind.i64.wrap ((q : Int) - 1) = y := (IntWalk.i64_in _ (by omega)).trans hy
              have hvv : v = leN (l.drop q) % LO := by rw [← HF.out.2.1, Nat.mod_eq_of_lt hlt]
              have HV := Lib.hid hvv
              clear hy hdec hval hvv HRF HSF
              go_wp2_with fail
              exact ⟨⟨q, y, fs, by omega, Lib.hid HY.out.symm, rfl, by rw [← HV.out]; exact HF.out.1, HF4.out⟩, by simp [intOf]; have := HY.out; omega⟩
            · have hdec : decide (valD fs < (LO : Int)) = false := by rw [hval]; simp; omega
              rw [hdec]
              clear hdec hval HRF HSF
              go_wp2_with fail
              go_loopw [7, 8] (fun bv iv wi => ∃ (k : Nat) (u : Int) (gs : List Int), k ≤ 33 ∧ iv = .int .i64 (k : Int) ∧ bv = .int .i64 u ∧ SbS fs k u gs ∧ RsS g g2 w gs wi) (fun _ iv _ => 33 - (intOf iv).toNat)
              case atStart => exact ⟨0, 0, fs, by omega, rfl, rfl, SbS.start HF.out.1, HF4.out⟩
              case round =>
                obtain ⟨k, u, gs, hk, rfl, rfl, hsb, hrg⟩ := hrel
                by_cases hp : k < 33
                · obtain ⟨d, hd⟩ : ∃ d, fs[k]? = some d := ⟨_, List.getElem?_eq_getElem (by rw [HF.out.1.1]; exact hp)⟩
                  obtain ⟨e, he⟩ : ∃ e, lD[k]? = some e := ⟨_, List.getElem?_eq_getElem (show k < lD.length from hp)⟩
                  have hdr := HF.out.1.2.1 d (List.mem_of_getElem? hd)
                  have her := lD_rng e (List.mem_of_getElem? he)
                  have hur := hsb.2.2.2.1
                  have c1 := hrg.2.1.cell (is3_at ((hsb.2.1 k (Nat.le_refl _)).trans hd))
                  have c2 := hrg.1.cell (is3_at he)
                  have f1 := hrg.2.1.frozen k
                  obtain ⟨x, hx⟩ : ∃ x, d - e - u = x := ⟨_, rfl⟩
                  have w1 : IntKind.i64.wrap (d - e) = d - e := IntWalk.i64_in _ (by omega)
                  have w2 : IntKind.i64.wrap (d - e - u) = x := (IntWalk.i64_in _ (by omega)).trans hx
                  have w3 : IntKind.i64.wrap (x + 256) = x + 256 := IntWalk.i64_in _ (by omega)
                  have hk33 : decide ((k : Int) < 33) = true := by simp; omega
                  have i2 : (0 : Int) ≤ (k : Int) ∧ (k : Int) < 33 := by omega
                  have hset1 := hrg.set_ hne hgw k x
                  by_cases hneg : x < 0
                  · have hn : decide (x < 0) = true := by simpa using hneg
                    have hstep := hsb.step (z := x + 256) (v := 1) hp hd he (by omega) (.inr rfl) (by omega)
                    have hset2 := (hset1.drewN 1).set_ hne hgw k (x + 256)
                    rw [List.set_set] at hset2
                    have HS := Lib.hid (And.intro hstep hset2)
                    clear hd he hset1 hset2 hstep hrg hsb hneg hx
                    go_wp2_with fail
                    go_region
                    all_goals go_wp2_with fail
                    all_goals exact ⟨⟨k + 1, 1, _, by omega, by go_num, rfl, HS.out.1, HS.out.2⟩, by simp [intOf]; omega⟩
                  · have hn : decide (x < 0) = false := by simpa using hneg
                    have hstep := hsb.step (z := x) (v := 0) hp hd he (by omega) (.inl rfl) (by omega)
                    have HS := Lib.hid (And.intro hstep (hset1.drewN 1))
                    clear hd he hset1 hstep hrg hsb hneg hx
                    go_wp2_with fail
                    go_region
                    all_goals go_wp2_with fail
                    all_goals exact ⟨⟨k + 1, 0, _, by omega, by go_num, rfl, HS.out.1, HS.out.2⟩, by simp [intOf]; omega⟩
                · obtain rfl : k = 33 := by omega
                  have hge : (LO : Int) ≤ (v : Int) := by omega
                  have hdone := hsb.done HF.out.1 hge
                  obtain ⟨v2, hv2⟩ : ∃ v2 : Nat, v = v2 + LO := ⟨v - LO, by omega⟩
                  have hde : ((v : Int) - (LO : Int)) = (v2 : Int) := by omega
                  rw [hde] at hdone
                  have hmod : v2 % LO = leN (l.drop q) % LO := by rw [← HF.out.2.1, hv2, Nat.add_mod_right]
                  have hlo0 : 0 < LO := by decide +kernel
                  have hnum : numAt wr g2 < v := by rw [hrg.2.1.num, hdone.2.2]; simp; omega
                  have HE := Lib.hid (And.intro hdone (And.intro hmod (And.intro hrg hnum)))
                  clear hdone hmod hnum hrg hsb hge hv2 hde hlo0
                  go_wp2_with fail
                  refine ⟨?_, by have := HE.out.2.2.2; have := HN4.out; omega⟩
                  repeat apply Exists.intro
                  refine ⟨⟨v2, gs, HE.out.1, HE.out.2.1, HE.out.2.2.1⟩, ?_⟩
                  rfl
    · obtain rfl : m = 0 := by omega
      have hz1 : z = -1 := by have := hz.out; omega
      subst hz1
      have HDG2 := HDG
      rw [List.drop_zero] at HDG2
      have HDR := Lib.hid HDG2.out.2.1
      go_wp2_with fail
      go_loopw [9, 10] (fun v i wi => ∃ k : Nat, k ≤ 32 ∧ i = .int .i64 (k : Int) ∧ OwnBs w.heap.size wi v ((ds.take k).map fun d => UInt8.ofNat d.toNat) ∧ RsS g g2 w ds wi ∧ w.heap.size ≤ wi.heap.size) (fun _ i _ => 32 - (intOf i).toNat)
      case atStart => exact ⟨0, by omega, rfl, OwnBs.nil _ _, HRS.out, HRS.out.2.2.size⟩
      case round =>
        obtain ⟨k, hk, rfl, hown, hrs, hsz⟩ := hrel
        by_cases hp : k < 32
        · obtain ⟨d, hd⟩ : ∃ d, ds[k]? = some d := ⟨_, List.getElem?_eq_getElem (by rw [HDG2.out.1]; omega)⟩
          have hdr := HDR.out d (List.mem_of_getElem? hd)
          have c1 := hrs.2.1.cell (is3_at hd)
          have hb1 : decide ((k : Int) < 32) = true := by simp; omega
          have i2 : (0 : Int) ≤ (k : Int) ∧ (k : Int) < 33 := by omega
          have hcv : IntKind.u8.wrap d = ((UInt8.ofNat d.toNat).toNat : Int) := by rw [IntKind.wrap_u8]; simp; omega
          have htk : (ds.take (k + 1)).map (fun d => UInt8.ofNat d.toNat) = (ds.take k).map (fun d => UInt8.ofNat d.toNat) ++ [UInt8.ofNat d.toNat] := by
            rw [List.take_add_one, hd]; simp
          have hlen : ((ds.take k).map fun d => UInt8.ofNat d.toNat).length ≤ 32 := by simp; omega
          have HT := Lib.hid htk
          obtain ⟨bs, hbs2⟩ : ∃ b, (ds.take k).map (fun d => UInt8.ofNat d.toNat) = b := ⟨_, rfl⟩
          rw [hbs2] at hown hlen HT
          obtain ⟨y, hy⟩ : ∃ y, UInt8.ofNat d.toNat = y := ⟨_, rfl⟩
          rw [hy] at hcv HT
          clear htk hbs2 hy hd
          go_wp2_with (at_builtin; refine wpList_append_u8 rfl (.tmp 67) (.tmp 72) rfl w.heap.size _ _ rfl hown y rfl rfl (by omega) hsz ?_; intro v' w2 hown' hgrow')
          have hne1 := hown.ne hrs.1 (by intro c f h; cases h)
          have hne2 := hown.ne hrs.2.1 (by intro c f h; cases h)
          exact ⟨⟨k + 1, by omega, rfl, by rw [HT.out]; exact hown', ⟨(hgrow'.block g hrs.1.lt hne1).trans hrs.1, (hgrow'.block g2 hrs.2.1.lt hne2).trans hrs.2.1, hrs.2.2.grown hgrow' hrs.2.2.size (fun k hk => (hown.lt k hk).1)⟩, Nat.le_trans hsz hgrow'.size⟩, by simp [intOf]; omega⟩
        · obtain rfl : k = 32 := by omega
          have hlt : leN l % LO < 256 ^ 32 := Nat.lt_trans (Nat.mod_lt _ (by decide +kernel)) (by decide +kernel)
          have ho := outs_is ds _ HDG2.out hlt
          rw [ho] at hown
          obtain ⟨A, n, c, rfl, hrb, hn⟩ := hown.form
          have hs := run_str_rb wr A n c _ hrb hn
          have HB := Lib.hid hrs.2.2
          clear hrs hown ho hrb hn hlt
          go_wp2_with fail
          go_ret
          exact ⟨rfl, HB.out⟩
end Go.Proofs.YtkfdclnaaphdgaaDoor.Sc
namespace Go.Proofs.YtkfdclnaaphdgaaDoor.Sc
open Go.Proofs.YtkfdclnaaphdgaaDoor
open Go.ChangeShapes Go.WideShapes Go.ChangeAt Go.RowKit Go.IntWalk
set_option linter.unusedVariables false
theorem noGuard32 : Tryd.prog.eqGuardType Tryd.prog.depth 22 = false := by kernel_rfl
theorem guard_bytes (op : BinOp) (b c : List UInt8) (x y : Operand) (W : World) : (eqGuard op 22 x y (A32 b) (A32 c)).run Tryd.prog W = .ok () W :=
  run_eqGuard_agg W op 22 x y _ _ noGuard32
theorem eq_bytes (b c : List UInt8) (hb : b.length = 32) (hc : c.length = 32) (W : World) : (binOp .eql 22 (A32 b) (A32 c)).run Tryd.prog W = .ok (.bool (b == c)) W :=
  Go.run_eql_bytes W 22 5 32 Tryd.underlying22 Tryd.underlying5 (fun w => Tryd.sizeOf5 w) b c hb hc
theorem neq_bytes (b c : List UInt8) (hb : b.length = 32) (hc : c.length = 32) (W : World) : (binOp .neq 22 (A32 b) (A32 c)).run Tryd.prog W = .ok (.bool (!(b == c))) W := by
  show (binOp .neq 22 (.agg (b.map fun c => Value.int .u8 c.toNat).toArray) (.agg (c.map fun c => Value.int .u8 c.toNat).toArray)).run Tryd.prog W = .ok (.bool (!(b == c))) W
  rw [run_neq_struct, show (Op.equalIn 10000 22 (.agg (b.map fun c => Value.int .u8 c.toNat).toArray) (.agg (c.map fun c => Value.int .u8 c.toNat).toArray)).run Tryd.prog W = .ok (b == c) W from
    run_equalIn_bytes W 9998 22 5 32 Tryd.underlying22 Tryd.underlying5 (fun w => Tryd.sizeOf5 w) b c hb hc]
  rfl

theorem leB_leN : ∀ (bs : List UInt8), leB bs.length (leN bs) = bs
  | [] => rfl
  | b :: bs => by
    have hb := b.toNat_lt
    have h1 : (b.toNat + 256 * leN bs) % 256 = b.toNat := by omega
    have h2 : (b.toNat + 256 * leN bs) / 256 = leN bs := by omega
    rw [List.length_cons, leB, leN, h1, h2, leB_leN bs]
    simp
theorem good_iff (bs : List UInt8) (hl : bs.length = 32) : (leB 32 (leN bs % LO) = bs) ↔ leN bs < LO := by
  constructor
  · intro h
    have h2 := congrArg leN h
    rw [leN_leB, Nat.mod_eq_of_lt (Nat.lt_trans (Nat.mod_lt _ LO_pos) (by decide +kernel))] at h2
    rw [← h2]; exact Nat.mod_lt _ LO_pos
  · intro h
    rw [Nat.mod_eq_of_lt h]
    have := leB_leN bs
    rwa [hl] at this
set_option maxRecDepth 100000 in
set_option maxHeartbeats 4000000 in
theorem good_calls (bs : List UInt8) (hl : bs.length = 32) (w : World) (hT : Tab w) :
    Calls Tryd.prog 15 #[A32 bs] w fun e w' => e = .returned (.bool (decide (leN bs < LO))) ∧ Below w.heap.size w w' := by
  have HN := Lib.hid (numberOf_calls bs hl)
  have h0 : Blk (w.alloc (.cells (u8b bs).toArray 22)) w.heap.size 22 (u8b bs) := Blk.new _ _ _
  have hb := (Below.refl w.heap.size w).alloc (Nat.le_refl _) (.cells (u8b bs).toArray 22)
  have HS := Lib.hid (size32u bs hl)
  have HT := Lib.hid (hT.later hb)
  unfold A32 at HN ⊢
  obtain ⟨cs, hcs⟩ : ∃ cs, u8b bs = cs := ⟨_, rfl⟩
  rw [hcs] at HN HS HT h0 hb ⊢
  have hlt := h0.lt
  go_enter Tryd.func15, Tryd.ntmps15
  go_wp2_with fail
  obtain ⟨w1, hw1⟩ : ∃ w1, w.alloc (.cells cs.toArray 22) = w1 := ⟨_, rfl⟩
  rw [hw1] at h0 hb hlt HT ⊢
  have HO : Hid (IsW (.agg #[.int .u64 6346243789798364141, .int .u64 1503914060200516822, .int .u64 0, .int .u64 1152921504606846976]) LO) := Lib.hid order_is
  have hsz := HS.out
  have hun := Tryd.underlying22
  have hall : ∀ W, Below w1.heap.size w1 W → (Below w1.heap.size w1 W ∧ W.rangeAt w.heap.size 0 cs ∧ W.cell? ⟨0, 0, none⟩ = some (.int .u64 6346243789798364141) ∧ W.cell? ⟨0, 1, none⟩ = some (.int .u64 1503914060200516822) ∧ W.cell? ⟨0, 2, none⟩ = some (.int .u64 0) ∧ W.cell? ⟨0, 3, none⟩ = some (.int .u64 1152921504606846976)) :=
    fun W hW => ⟨hW, (h0.later hW).rng, (HT.out.later hW).1 0 _ rfl, (HT.out.later hW).1 1 _ rfl, (HT.out.later hW).1 2 _ rfl, (HT.out.later hW).1 3 _ rfl⟩
  have HALL := Lib.hid hall
  have HB := Lib.hid hb
  clear hT hcs h0 hb hw1 hall
  go_region_held3 (fun W => Below w1.heap.size w1 W ∧ W.rangeAt w.heap.size 0 cs ∧ W.cell? ⟨0, 0, none⟩ = some (.int .u64 6346243789798364141) ∧ W.cell? ⟨0, 1, none⟩ = some (.int .u64 1503914060200516822) ∧ W.cell? ⟨0, 2, none⟩ = some (.int .u64 0) ∧ W.cell? ⟨0, 3, none⟩ = some (.int .u64 1152921504606846976))
    (first | assumption | exact HALL.out _ (Below.refl _ _) | exact HALL.out _ ((Below.refl _ _).drewN _) | (go_split_ands; refine HALL.out _ ?_; repeat (first | assumption | exact Below.refl _ _ | exact (Below.refl _ _).drewN _ | refine Below.then_ ?_ (by assumption) | refine Below.alloc ?_ (Below.size (by assumption)) _ | refine Below.alloc ?_ (Nat.le_refl _) _ | refine Below.setCell ?_ (by first | exact Nat.le_refl _ | exact Below.size (by assumption)) _)))
    ((first
      | (go_at_call 35; (with_reducible refine (HN.out _).mono ?_); rintro e wv ⟨x, rfl, hx, bv⟩; have hq1 : Below w1.heap.size w1 wv := (by refine Below.then_ ?_ bv; first | exact Below.refl _ _ | exact (Below.refl _ _).drewN _ | (go_split_ands; assumption) | (refine Below.alloc ?_ (Below.size (by assumption)) _; assumption)); have hc1 := (bcellB bv).1; have hf1 := (bcellB bv).2; try (have hz1 : w1.heap.size < wv.heap.size := (by have := bv.size; simp at this; omega)))
      | (go_at_call 36; (with_reducible refine (less_calls _ _ _ _ hx HO.out _).mono ?_); rintro e wu ⟨y, rfl, hy, bu⟩; obtain ⟨d0, d1, d2, d3, hyv, _⟩ := hy; unfold V4 at hyv; subst hyv; have hq2 : Below w1.heap.size w1 wu := (by refine Below.then_ ?_ bu; first | exact Below.refl _ _ | exact (Below.refl _ _).drewN _ | (go_split_ands; assumption) | (refine Below.alloc ?_ (Below.size (by assumption)) _; assumption)); have hc2 := (bcellB bu).1; have hf2 := (bcellB bu).2; try (have hz2 : w1.heap.size < wu.heap.size := (by have := bu.size; simp at this; omega)); try (have hz3 : wv.heap.size < wu.heap.size := (by have := bu.size; simp at this; omega)))))
  all_goals (rename_i hS; have hB2 := Lib.hid (HB.out.then_ hS.1); clear hS; go_wp2_with fail; go_ret; exact ⟨rfl, hB2.out⟩)
set_option maxRecDepth 100000 in
set_option maxHeartbeats 4000000 in
theorem refGood_calls (bs : List UInt8) (hl : bs.length = 32) (w : World) :
    Calls Tryd.prog 32 #[.string ⟨bs.toArray⟩] w fun e w' => e = .returned (.bool (decide (leN bs < LO))) ∧ Below w.heap.size w w' := by
  have hlen : (⟨bs.toArray⟩ : ByteArray).size = 32 := by rw [← hl]; rfl
  go_enter Tryd.func32, Tryd.ntmps32
  go_wp2_with fail
  refine (refRest_calls bs (by omega) _).mono ?_
  rintro e w1 ⟨rfl, b1⟩
  have HB := Lib.hid b1
  have HG := Lib.hid (good_iff bs hl)
  clear b1
  go_wp2_with fail
  go_ret
  exact ⟨ret_bool (by have := HG.out; by_cases h : leN bs < LO <;> simp [this, h]), HB.out⟩
end Go.Proofs.YtkfdclnaaphdgaaDoor.Sc
namespace Go.Proofs.YtkfdclnaaphdgaaDoor.Sc
open Go.Proofs.YtkfdclnaaphdgaaDoor
open Go.ChangeShapes Go.WideShapes Go.ChangeAt Go.RowKit Go.IntWalk
set_option linter.unusedVariables false

def in6 (ts : List Nat) : List Value := ts.map fun (n : Nat) => Value.int .i64 (n : Int)
theorem in6_at {ts : List Nat} {k n : Nat} (h : ts[k]? = some n) : (in6 ts)[k]? = some (.int .i64 (n : Int)) := by simp [in6, h]
theorem in6_set (ts : List Nat) (k n : Nat) : (in6 ts).set k (.int .i64 (n : Int)) = in6 (ts.set k n) := by simp [in6, List.map_set]
def valN : List Nat → Nat
  | [] => 0
  | x :: t => x + 256 * valN t
theorem valN_set2 : ∀ (l : List Nat) (i x old : Nat), l[i]? = some old → valN (l.set i x) + 256 ^ i * old = valN l + 256 ^ i * x
  | [], i, x, old, h => by simp at h
  | y :: l, 0, x, old, h => by
    simp at h; subst h
    simp only [List.set_cons_zero, valN, Nat.pow_zero, Nat.one_mul]; omega
  | y :: l, i + 1, x, old, h => by
    have ih := valN_set2 l i x old (by simpa using h)
    rw [List.set_cons_succ, valN, valN, Nat.pow_succ]
    have e1 : 256 ^ i * 256 * old = 256 * (256 ^ i * old) := by rw [Nat.mul_comm (256 ^ i) 256, Nat.mul_assoc]
    have e2 : 256 ^ i * 256 * x = 256 * (256 ^ i * x) := by rw [Nat.mul_comm (256 ^ i) 256, Nat.mul_assoc]
    rw [e1, e2]; omega
theorem valN_zero : ∀ k, valN (List.replicate k 0) = 0
  | 0 => rfl
  | k + 1 => by rw [List.replicate_succ, valN, valN_zero k]
theorem leN_take (l : List UInt8) (k : Nat) (c : UInt8) (h : l[k]? = some c) : leN (l.take (k + 1)) = leN (l.take k) + 256 ^ k * c.toNat := by
  have hk := (List.getElem?_eq_some_iff.1 h).1
  rw [List.take_add_one, h, Option.toList_some, leN_app, List.length_take, Nat.min_eq_left (by omega)]
  simp [leN]
def T6 (V M : Nat) (ts : List Nat) : Prop := ts.length = 66 ∧ (∀ x ∈ ts, x ≤ M) ∧ valN ts = V
theorem T6.step {V M p q s B : Nat} {ts : List Nat} (h : T6 V M ts) (hs : ts[p]? = some s) (hq : q ≤ B) : T6 (V + 256 ^ p * q) (M + B) (ts.set p (s + q)) := by
  obtain ⟨h1, h2, h3⟩ := h
  have hsM := h2 s (List.mem_of_getElem? hs)
  refine ⟨by rw [List.length_set]; exact h1, fun x hx => ?_, ?_⟩
  · rcases List.mem_or_eq_of_mem_set hx with h | rfl
    · have := h2 x h; omega
    · omega
  · have h5 := valN_set2 ts p (s + q) s hs
    rw [Nat.mul_add] at h5
    omega
theorem T6.at {V M q : Nat} {ts : List Nat} (h : T6 V M ts) (hq : q < 66) : ∃ s, ts[q]? = some s ∧ s ≤ M :=
  ⟨ts[q]'(by rw [h.1]; exact hq), List.getElem?_eq_getElem (by rw [h.1]; exact hq), h.2.1 _ (List.getElem_mem _)⟩
def MtS (w : World) (g : Nat) (ts : List Nat) (wr : World) : Prop := Blk wr g 91 (in6 ts) ∧ Below w.heap.size w wr
theorem MtS.set_ {w wr : World} {g : Nat} {ts : List Nat} (h : MtS w g ts wr) (hg : w.heap.size ≤ g) (p n : Nat) : MtS w g (ts.set p n) (wr.setCell ⟨g, p, none⟩ (.int .i64 (n : Int))) :=
  ⟨by rw [← in6_set]; exact h.1.set_ p _, h.2.setCell hg _⟩
theorem MtS.drewN {w wr : World} {g : Nat} {ts : List Nat} (h : MtS w g ts wr) (n : Nat) : MtS w g ts (wr.drewN n) := ⟨h.1.drewN n, h.2.drewN n⟩
theorem pow_mul3 (i k x y : Nat) : 256 ^ i * (x * (256 ^ k * y)) = 256 ^ (i + k) * (x * y) := by
  rw [Nat.mul_left_comm x, ← Nat.mul_assoc, ← Nat.pow_add]
theorem zero66 : (Tryd.prog.info? 91).map (·.zero) = some (some (.agg (in6 (List.replicate 66 0)).toArray)) := by kernel_rfl
set_option maxRecDepth 100000 in
set_option maxHeartbeats 8000000 in
theorem refMul_calls (l1 l2 l3 : List UInt8) (hl1 : l1.length = 32) (hl2 : l2.length = 32) (hl3 : l3.length ≤ 32) (w : World) :
    Calls Tryd.prog 27 #[.string ⟨l1.toArray⟩, .string ⟨l2.toArray⟩, .string ⟨l3.toArray⟩] w fun e w' => e = .returned (.string ⟨(leB 32 ((leN l1 * leN l2 + leN l3) % LO)).toArray⟩) ∧ Below w.heap.size w w' := by
  have hb1 : (⟨l1.toArray⟩ : ByteArray).size = l1.length := rfl
  have hb2 : (⟨l2.toArray⟩ : ByteArray).size = l2.length := rfl
  have hb3 : (⟨l3.toArray⟩ : ByteArray).size = l3.length := rfl
  obtain ⟨zs, hzs⟩ : ∃ z, in6 (List.replicate 66 0) = z := ⟨_, rfl⟩
  have hzv : ∀ W, (zeroValue 91).run Tryd.prog W = .ok (.agg zs.toArray) W := fun W => run_zero (by rw [← hzs]; exact zero66) W
  have HZS := Lib.hid hzs
  clear hzs
  go_enter Tryd.func27, Tryd.ntmps27
  go_wp2_with fail
  clear hzv
  refine wp_gen (fun W => MtS w w.heap.size (List.replicate 66 0) W) ⟨by rw [HZS.out]; exact Blk.new w zs _, (Below.refl w.heap.size w).alloc (Nat.le_refl _) _⟩ ?_
  intro W0 h0
  have HW0 := Lib.hid h0
  clear h0
  obtain ⟨g, hg⟩ : ∃ g, w.heap.size = g := ⟨_, rfl⟩
  have HG : Hid (w.heap.size ≤ g) := Lib.hid (by omega)
  have HW0 : Hid (MtS w g (List.replicate 66 0) W0) := Lib.hid (by rw [← hg]; exact HW0.out)
  rw [hg]
  clear hg
  go_loopw [8] (fun iv wr => ∃ (i : Nat) (ts : List Nat), i ≤ 32 ∧ iv = .int .i64 (i : Int) ∧ T6 (leN (l1.take i) * leN l2) (i * 32 * 65025) ts ∧ MtS w g ts wr) (fun iv _ => 32 - (intOf iv).toNat)
  case atStart => exact ⟨0, _, by omega, rfl, ⟨by simp, fun x hx => by rw [List.eq_of_mem_replicate hx]; exact Nat.le_refl _, by rw [valN_zero]; simp [leN]⟩, HW0.out⟩
  case round =>
    clear HW0
    obtain ⟨i, ts, hi, rfl, hrow, hmt⟩ := hrel
    have HK := Lib.hid (And.intro hrow hmt)
    clear hrow hmt
    by_cases hi32 : i < 32
    · have hd1 : decide ((i : Int) < (l1.length : Int)) = true := by simp; omega
      obtain ⟨c1, hc1⟩ : ∃ c, l1[i]? = some c := ⟨_, List.getElem?_eq_getElem (by omega)⟩
      have i1 : i < l1.length := by omega
      have hq1 : l1[i] = c1 := by rw [List.getElem?_eq_getElem i1] at hc1; exact Option.some.inj hc1
      have hx1 := c1.toNat_lt
      have HC1 := Lib.hid hc1
      clear hc1
      go_wp2_with fail
      go_loopw [9] (fun kv wi => ∃ (k : Nat) (us : List Nat), k ≤ 32 ∧ kv = .int .i64 (k : Int) ∧ T6 (leN (l1.take i) * leN l2 + 256 ^ i * (c1.toNat * leN (l2.take k))) ((i * 32 + k) * 65025) us ∧ MtS w g us wi) (fun kv _ => 32 - (intOf kv).toNat)
      case atStart => exact ⟨0, ts, by omega, rfl, by have h := HK.out.1; simpa [leN] using h, HK.out.2⟩
      case round =>
        obtain ⟨k, us, hk, rfl, hrow, hmt⟩ := hrel
        by_cases hk32 : k < 32
        · have hd2 : decide ((k : Int) < (l2.length : Int)) = true := by simp; omega
          obtain ⟨c2, hc2⟩ : ∃ c, l2[k]? = some c := ⟨_, List.getElem?_eq_getElem (by omega)⟩
          have i2 : k < l2.length := by omega
          have hq2 : l2[k] = c2 := by rw [List.getElem?_eq_getElem i2] at hc2; exact Option.some.inj hc2
          have hx2 := c2.toNat_lt
          obtain ⟨s, hs, hsM⟩ := hrow.at (q := i + k) (by omega)
          have hpl : c1.toNat * c2.toNat ≤ 255 * 255 := Nat.mul_le_mul (by omega) (by omega)
          have hst := hrow.step (B := 65025) hs hpl
          have hst2 : T6 (leN (l1.take i) * leN l2 + 256 ^ i * (c1.toNat * leN (l2.take (k + 1)))) ((i * 32 + (k + 1)) * 65025) (us.set (i + k) (s + c1.toNat * c2.toNat)) := by
            rw [leN_take l2 k c2 hc2, Nat.mul_add c1.toNat, Nat.mul_add, pow_mul3, ← Nat.add_assoc, show (i * 32 + (k + 1)) * 65025 = (i * 32 + k) * 65025 + 65025 by omega]; exact hst
          obtain ⟨p, hp⟩ : ∃ p, i + k = p := ⟨_, rfl⟩
          obtain ⟨m, hm⟩ : ∃ m, c1.toNat * c2.toNat = m := ⟨_, rfl⟩
          obtain ⟨t, ht⟩ : ∃ t, s + m = t := ⟨_, rfl⟩
          have hset := (hmt.set_ HG.out p t).drewN 1
          rw [hp] at hs
          rw [hm] at hpl
          rw [hp, hm, ht] at hst2
          have cs := hmt.1.cell (in6_at hs)
          have fs := hmt.1.frozen p
          have e1 : IntKind.i64.wrap ((i : Int) + (k : Int)) = (p : Int) := (IntWalk.i64_in _ (by omega)).trans (by omega)
          have e2 : IntKind.i64.wrap (c1.toNat : Int) = (c1.toNat : Int) := IntWalk.i64_in _ (by omega)
          have e3 : IntKind.i64.wrap (c2.toNat : Int) = (c2.toNat : Int) := IntWalk.i64_in _ (by omega)
          have e4 : IntKind.i64.wrap ((c1.toNat : Int) * (c2.toNat : Int)) = (m : Int) := by rw [← Int.natCast_mul, hm]; exact IntWalk.i64_in _ (by omega)
          have e5 : IntKind.i64.wrap ((s : Int) + (m : Int)) = (t : Int) := (IntWalk.i64_in _ (by omega)).trans (by omega)
          have i3 : (0 : Int) ≤ (p : Int) ∧ (p : Int) < 66 := by omega
          have HST := Lib.hid (And.intro hst2 hset)
          clear hrow hmt hst hst2 hset hs hc2 hpl hm ht hsM hp
          go_wp2_with fail
          go_region
          go_wp2_with fail
          exact ⟨⟨k + 1, us.set p t, by omega, by go_num, HST.out.1, HST.out.2⟩, by simp [intOf]; omega⟩
        · obtain rfl : k = 32 := by omega
          have hd2 : decide (((32 : Nat) : Int) < (l2.length : Int)) = false := by simp; omega
          have hrow2 : T6 (leN (l1.take (i + 1)) * leN l2) ((i + 1) * 32 * 65025) us := by
            rw [show l2.take 32 = l2 from List.take_of_length_le (by omega)] at hrow
            rw [leN_take l1 i c1 HC1.out, Nat.add_mul, Nat.mul_assoc, show (i + 1) * 32 * 65025 = (i * 32 + 32) * 65025 by omega]; exact hrow
          have HE := Lib.hid (And.intro hrow2 hmt)
          clear hrow hrow2 hmt
          go_wp2_with fail
          exact ⟨⟨i + 1, us, by omega, by go_num, HE.out.1, HE.out.2⟩, by simp [intOf]; omega⟩
    · obtain rfl : i = 32 := by omega
      have hd1 : decide (((32 : Nat) : Int) < (l1.length : Int)) = false := by simp; omega
      have hrow : T6 (leN l1 * leN l2 + leN (l3.take 0)) (32 * 32 * 65025 + 0 * 255) ts := by
        have h := HK.out.1
        rw [List.take_of_length_le (by omega)] at h
        simpa [leN] using h
      have HR := Lib.hid (And.intro hrow HK.out.2)
      clear hrow HK
      go_wp2_with fail
      go_loopw [10] (fun iv wi => ∃ (k : Nat) (us : List Nat), k ≤ l3.length ∧ iv = .int .i64 (k : Int) ∧ T6 (leN l1 * leN l2 + leN (l3.take k)) (32 * 32 * 65025 + k * 255) us ∧ MtS w g us wi) (fun iv _ => l3.length - (intOf iv).toNat)
      case atStart => exact ⟨0, ts, by omega, rfl, HR.out.1, HR.out.2⟩
      case round =>
        clear HR
        obtain ⟨k, us, hk, rfl, hrow, hmt⟩ := hrel
        by_cases hk3 : k < l3.length
        · have hd3 : decide ((k : Int) < (l3.length : Int)) = true := by simp; omega
          obtain ⟨c3, hc3⟩ : ∃ c, l3[k]? = some c := ⟨_, List.getElem?_eq_getElem (by omega)⟩
          have hq3 : l3[k] = c3 := by rw [List.getElem?_eq_getElem hk3] at hc3; exact Option.some.inj hc3
          have hx3 := c3.toNat_lt
          obtain ⟨s, hs, hsM⟩ := hrow.at (q := k) (by omega)
          have hst := hrow.step (B := 255) hs (show c3.toNat ≤ 255 by omega)
          have hst2 : T6 (leN l1 * leN l2 + leN (l3.take (k + 1))) (32 * 32 * 65025 + (k + 1) * 255) (us.set k (s + c3.toNat)) := by
            rw [leN_take l3 k c3 hc3, ← Nat.add_assoc, show 32 * 32 * 65025 + (k + 1) * 255 = 32 * 32 * 65025 + k * 255 + 255 by omega]; exact hst
          obtain ⟨t, ht⟩ : ∃ t, s + c3.toNat = t := ⟨_, rfl⟩
          have hset := (hmt.set_ HG.out k t).drewN 1
          rw [ht] at hst2
          have cs := hmt.1.cell (in6_at hs)
          have fs := hmt.1.frozen k
          have e2 : IntKind.i64.wrap (c3.toNat : Int) = (c3.toNat : Int) := IntWalk.i64_in _ (by omega)
          have e5 : IntKind.i64.wrap ((s : Int) + (c3.toNat : Int)) = (t : Int) := (IntWalk.i64_in _ (by omega)).trans (by omega)
          have i3 : (0 : Int) ≤ (k : Int) ∧ (k : Int) < 66 := by omega
          have HST := Lib.hid (And.intro hst2 hset)
          clear hrow hmt hst hst2 hset hs hc3 ht hsM
          go_wp2_with fail
          go_region
          go_wp2_with fail
          exact ⟨⟨k + 1, us.set k t, by omega, by go_num, HST.out.1, HST.out.2⟩, by simp [intOf]; omega⟩
        · obtain rfl : k = l3.length := by omega
          have hd3 : decide ((l3.length : Int) < (l3.length : Int)) = false := by simp
          rw [List.take_of_length_le (Nat.le_refl _)] at hrow
          obtain ⟨hlen, hM, hval⟩ := hrow
          have hM2 : ∀ x ∈ us, x ≤ 2 ^ 27 := fun x hx => Nat.le_trans (hM x hx) (by omega)
          have HU := Lib.hid (And.intro hlen (And.intro hM2 hval))
          have HMT := Lib.hid hmt
          clear hlen hM hM2 hval hmt
          go_wp2_with fail
          go_loopw [11, 12, 13] (fun v mv iv wi => ∃ (i m : Nat) (os : List UInt8), i ≤ 66 ∧ iv = .int .i64 (i : Int) ∧ mv = .int .i64 (m : Int) ∧ m ≤ 2 ^ 27 ∧ Hid (os.length = i ∧ leN os + 256 ^ i * (m + valN (us.drop i)) = leN l1 * leN l2 + leN l3) ∧ OwnBs w.heap.size wi v os ∧ MtS w g us wi) (fun _ _ iv _ => 66 - (intOf iv).toNat)
          case atStart => exact ⟨0, 0, [], by omega, rfl, rfl, by omega, Lib.hid ⟨rfl, by simp only [leN, List.drop_zero, Nat.pow_zero, Nat.one_mul, Nat.zero_add]; exact HU.out.2.2⟩, OwnBs.nil _ _, HMT.out⟩
          case round =>
            clear HMT
            obtain ⟨i, m, os, hi, rfl, rfl, hm, hos, hown, hmt⟩ := hrel
            have hsz := hmt.2.size
            by_cases hi66 : i < 66
            · have hd4 : decide ((i : Int) < 66) = true := by simp; omega
              obtain ⟨x, hx⟩ : ∃ x, us[i]? = some x := ⟨_, List.getElem?_eq_getElem (by rw [HU.out.1]; exact hi66)⟩
              have hxM := HU.out.2.1 x (List.mem_of_getElem? hx)
              have cs := hmt.1.cell (in6_at hx)
              have i3 : (0 : Int) ≤ (i : Int) ∧ (i : Int) < 66 := by omega
              obtain ⟨t, ht⟩ : ∃ t, m + x = t := ⟨_, rfl⟩
              obtain ⟨r, hr⟩ : ∃ r, t % 256 = r := ⟨_, rfl⟩
              obtain ⟨m2, hm2⟩ : ∃ q, t / 256 = q := ⟨_, rfl⟩
              have e5 : IntKind.i64.wrap ((m : Int) + (x : Int)) = (t : Int) := (IntWalk.i64_in _ (by omega)).trans (by omega)
              have e6 : (t : Int) % 256 = (r : Int) := by omega
              have e7 : (t : Int) / 256 = (m2 : Int) := by omega
              have hm2l : m2 ≤ 2 ^ 27 := by omega
              have hrl : r < 256 := by omega
              obtain ⟨y, hy⟩ : ∃ y, UInt8.ofNat r = y := ⟨_, rfl⟩
              have hcv : IntKind.u8.wrap (r : Int) = (y.toNat : Int) := by rw [← hy, IntKind.wrap_u8]; simp
              have hlen : os.length ≤ 66 := by have := hos.out.1; omega
              have HNX : Hid ((os ++ [y]).length = i + 1 ∧ leN (os ++ [y]) + 256 ^ (i + 1) * (m2 + valN (us.drop (i + 1))) = leN l1 * leN l2 + leN l3) := Lib.hid (by
                obtain ⟨o1, o2⟩ := hos.out
                have hxl : i < us.length := by rw [HU.out.1]; exact hi66
                have hdr : us.drop i = x :: us.drop (i + 1) := by
                  rw [List.drop_eq_getElem_cons hxl]
                  rw [List.getElem?_eq_getElem hxl] at hx
                  rw [Option.some.inj hx]
                refine ⟨by simp [o1], ?_⟩
                rw [hdr, valN] at o2
                rw [leN_app, o1, Nat.pow_succ, Nat.mul_assoc, ← o2, Nat.add_assoc, ← Nat.mul_add]
                have hyt : leN [y] = r := by rw [← hy]; simp [leN]; omega
                rw [hyt]
                congr 2
                omega)
              have hne1 := hown.ne hmt.1 (by intro c f h; cases h)
              clear hos hx ht hr hm2 hy
              go_wp2_with (at_builtin; refine wpList_append_u8 rfl (.tmp 70) (.tmp 74) rfl w.heap.size _ _ rfl hown y rfl rfl (by omega) hsz ?_; intro v' w2 hown' hgrow')
              refine ⟨?_, by simp [intOf]; omega⟩
              repeat apply Exists.intro
              refine ⟨⟨i + 1, m2, os ++ [y], by omega, by go_num, rfl, hm2l, HNX, hown', ⟨(hgrow'.block g hmt.1.lt hne1).trans hmt.1, hmt.2.grown hgrow' hsz (fun k hk => (hown.lt k hk).1)⟩⟩, ?_⟩
              rfl
            · obtain rfl : i = 66 := by omega
              have hd4 : decide (((66 : Nat) : Int) < 66) = false := by simp
              obtain ⟨A, n, c, rfl, hrb, hn⟩ := hown.form
              have hs := run_str_rb wr A n c _ hrb hn
              have HB := Lib.hid hmt.2
              have HV : Hid (leN os = leN l1 * leN l2 + leN l3 ∧ os.length = 66) := Lib.hid (by
                obtain ⟨o1, o2⟩ := hos.out
                rw [List.drop_of_length_le (by rw [HU.out.1]; exact Nat.le_refl _), valN, Nat.add_zero] at o2
                have b1 := leN_lt l1
                have b2 := leN_lt l2
                have b3 := leN_lt l3
                rw [hl1] at b1
                rw [hl2] at b2
                have b4 : (256 : Nat) ^ l3.length ≤ 256 ^ 32 := Nat.pow_le_pow_right (by decide) hl3
                have hp := prod_lt (leN l1) (leN l2) (leN l3) b1 b2 (Nat.lt_of_lt_of_le b3 b4)
                have hp2 : (256 : Nat) ^ 64 < 256 ^ 66 := by decide +kernel
                rcases Nat.eq_zero_or_pos m with h | h
                · subst h; exact ⟨by omega, o1⟩
                · have : 256 ^ 66 * 1 ≤ 256 ^ 66 * m := Nat.mul_le_mul_left _ h
                  omega)
              have HM := Lib.hid (fun W => refRest_calls os (by rw [HV.out.2]; decide) W)
              clear hmt hown hrb hn hos hsz
              go_wp2_with fail
              refine (HM.out _).mono ?_
              rintro e w3 ⟨rfl, b3⟩
              rw [HV.out.1]
              have HB3 := Lib.hid (HB.out.then_ b3)
              clear b3
              go_wp2_with fail
              go_ret
              exact ⟨rfl, HB3.out⟩
end Go.Proofs.YtkfdclnaaphdgaaDoor.Sc
