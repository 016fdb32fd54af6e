/- Layer 5: the document's order, and what is below it. -/
import Derived.Test.YtmegjpjfkpgmbaaDoorScD
import Derived.Test.YtmegjpjfkpgmbaaDoorStr
namespace Go.Proofs.YtmegjpjfkpgmbaaDoor
open Go.ChangeShapes Go.WideShapes Go.ChangeAt Go.RowKit Go.IntWalk
set_option linter.unusedVariables false

def is3 (ds : List Int) : List Value := ds.map (Value.int .i64)
theorem is3_at {ds : List Int} {k : Nat} {d : Int} (h : ds[k]? = some d) : (is3 ds)[k]? = some (.int .i64 d) := by simp [is3, h]
theorem is3_set (ds : List Int) (k : Nat) (d : Int) : (is3 ds).set k (.int .i64 d) = is3 (ds.set k d) := by simp [is3, List.map_set]
theorem is3_len (ds : List Int) : (is3 ds).length = ds.length := by simp [is3]
theorem one3 (ds : List Int) : (is3 ds).toArray.all (·.oneCell') = true := by
  apply all_oneCell_toArray
  intro v hv
  obtain ⟨y, _, rfl⟩ := List.mem_map.1 hv
  rfl
def valD : List Int → Int
  | [] => 0
  | d :: t => d + 256 * valD t
def lD : List Int := [237, 211, 245, 92, 26, 99, 18, 88, 214, 156, 247, 162, 222, 249, 222, 20, 0, 0, 0, 0, 0, 0, 0, 0, 0, 0, 0, 0, 0, 0, 0, 16, 0]
theorem lD_val : valD lD = (LO : Int) := by decide +kernel
theorem lD_rng : ∀ x ∈ lD, 0 ≤ x ∧ x < 256 := by decide
theorem size33 : (Tryd.prog.info? 47).map (·.size) = some 33 := by kernel_rfl
theorem size33u (ds : List Int) (h : ds.length = 33) : (Tryd.prog.info? 47).map (·.size) = some (is3 ds).length := by rw [is3_len, h]; exact size33
theorem size33a (ds : List Int) (h : ds.length = 33) : (Tryd.prog.info? 47).map (·.size) = some (is3 ds).toArray.size := by rw [List.size_toArray, is3_len, h]; exact size33
theorem z33 : is3 (List.replicate 33 0) = [.int .i64 0, .int .i64 0, .int .i64 0, .int .i64 0, .int .i64 0, .int .i64 0, .int .i64 0, .int .i64 0, .int .i64 0, .int .i64 0, .int .i64 0, .int .i64 0, .int .i64 0, .int .i64 0, .int .i64 0, .int .i64 0, .int .i64 0, .int .i64 0, .int .i64 0, .int .i64 0, .int .i64 0, .int .i64 0, .int .i64 0, .int .i64 0, .int .i64 0, .int .i64 0, .int .i64 0, .int .i64 0, .int .i64 0, .int .i64 0, .int .i64 0, .int .i64 0, .int .i64 0] := rfl
theorem new33 (w : World) : Blk (w.alloc (.cells #[.int .i64 0, .int .i64 0, .int .i64 0, .int .i64 0, .int .i64 0, .int .i64 0, .int .i64 0, .int .i64 0, .int .i64 0, .int .i64 0, .int .i64 0, .int .i64 0, .int .i64 0, .int .i64 0, .int .i64 0, .int .i64 0, .int .i64 0, .int .i64 0, .int .i64 0, .int .i64 0, .int .i64 0, .int .i64 0, .int .i64 0, .int .i64 0, .int .i64 0, .int .i64 0, .int .i64 0, .int .i64 0, .int .i64 0, .int .i64 0, .int .i64 0, .int .i64 0, .int .i64 0] 47)) w.heap.size 47 (is3 (List.replicate 33 0)) := Blk.new w (is3 (List.replicate 33 0)) _
set_option maxRecDepth 100000 in
theorem refL_calls (w : World) : Calls Tryd.prog 22 #[] w fun e w' => e = .returned (.agg (is3 lD).toArray) ∧ Below w.heap.size w w' := by
  have hz0 := new33 w
  have HBF := Lib.hid (blw_cells (Nat.le_refl w.heap.size) (is3 lD) 0 _ ((Below.refl w.heap.size w).alloc (Nat.le_refl _) (.cells #[.int .i64 0, .int .i64 0, .int .i64 0, .int .i64 0, .int .i64 0, .int .i64 0, .int .i64 0, .int .i64 0, .int .i64 0, .int .i64 0, .int .i64 0, .int .i64 0, .int .i64 0, .int .i64 0, .int .i64 0, .int .i64 0, .int .i64 0, .int .i64 0, .int .i64 0, .int .i64 0, .int .i64 0, .int .i64 0, .int .i64 0, .int .i64 0, .int .i64 0, .int .i64 0, .int .i64 0, .int .i64 0, .int .i64 0, .int .i64 0, .int .i64 0, .int .i64 0, .int .i64 0] 47)))
  have HT := Lib.hid (hz0.there (n := (is3 lD).toArray.size) rfl)
  have HS := Lib.hid (size33a lD rfl)
  have HO := Lib.hid (one3 lD)
  have HLD := Lib.hid (Blk.load (hz0.setAll (vs := is3 lD) rfl) 47 Tryd.underlying47 rfl (size33u lD rfl))
  clear hz0
  go_enter Tryd.func22, Tryd.ntmps22
  go_wp2_with (refine wpList_store_mid rfl 47 _ _ rfl w.heap.size 0 (is3 lD).toArray rfl rfl HT.out HS.out HO.out ?_)
  exact bodyPost_ret (v := .agg (is3 lD).toArray) (res_cell rfl _ _ _ _ rfl HLD.out) rfl ⟨rfl, HBF.out⟩
theorem valD_cmp : ∀ (xs ys t : List Int) (d e : Int), xs.length = ys.length → (∀ x ∈ xs, 0 ≤ x ∧ x < 256) → (∀ x ∈ ys, 0 ≤ x ∧ x < 256) → d < e → valD (xs ++ d :: t) < valD (ys ++ e :: t)
  | [], [], t, d, e, _, _, _, h => by simp [valD]; omega
  | x :: xs, y :: ys, t, d, e, hl, hx, hy, h => by
    have ih := valD_cmp xs ys t d e (by simpa using hl) (fun z hz => hx z (List.mem_cons_of_mem _ hz)) (fun z hz => hy z (List.mem_cons_of_mem _ hz)) h
    have h1 := hx x (List.mem_cons_self ..)
    have h2 := hy y (List.mem_cons_self ..)
    simp only [List.cons_append, valD]
    omega
  | [], _ :: _, _, _, _, hl, _, _, _ => by simp at hl
  | _ :: _, [], _, _, _, hl, _, _, _ => by simp at hl
theorem split_at (ds : List Int) (m : Nat) (h : m < ds.length) : ds = ds.take m ++ ds[m] :: ds.drop (m + 1) := by
  rw [← List.drop_eq_getElem_cons h, List.take_append_drop]
theorem below_at (ds : List Int) (hl : ds.length = 33) (hr : ∀ x ∈ ds, 0 ≤ x ∧ x < 256) (m : Nat) (hm : m < 33) (he : ds.drop (m + 1) = lD.drop (m + 1)) (d e : Int) (hd : ds[m]? = some d) (hp : lD[m]? = some e) (hne : d ≠ e) :
    decide (d < e) = decide (valD ds < (LO : Int)) := by
  have h1 : m < ds.length := by omega
  have h2 : m < lD.length := by show m < 33; omega
  obtain rfl : ds[m] = d := by rw [List.getElem?_eq_getElem h1] at hd; exact Option.some.inj hd
  obtain rfl : lD[m] = e := by rw [List.getElem?_eq_getElem h2] at hp; exact Option.some.inj hp
  have hlen : (ds.take m).length = (lD.take m).length := by
    have : lD.length = 33 := rfl
    simp; omega
  have ra : ∀ x ∈ ds.take m, 0 ≤ x ∧ x < 256 := fun x hx => hr x (List.mem_of_mem_take hx)
  have rb : ∀ x ∈ lD.take m, 0 ≤ x ∧ x < 256 := fun x hx => lD_rng x (List.mem_of_mem_take hx)
  have s1 := split_at ds m h1
  have s2 := split_at lD m h2
  rw [he] at s1
  rw [← lD_val, decide_eq_decide]
  constructor
  · intro hlt
    have := valD_cmp (ds.take m) (lD.take m) (lD.drop (m + 1)) _ _ hlen ra rb hlt
    rwa [← s1, ← s2] at this
  · intro hlt
    rcases Int.lt_trichotomy ds[m] lD[m] with h | h | h
    · exact h
    · exact absurd h hne
    · have := valD_cmp (lD.take m) (ds.take m) (lD.drop (m + 1)) _ _ hlen.symm rb ra h
      rw [← s1, ← s2] at this
      omega
set_option maxRecDepth 100000 in
set_option maxHeartbeats 4000000 in
theorem refBelow_calls (ds : List Int) (hl : ds.length = 33) (hr : ∀ x ∈ ds, 0 ≤ x ∧ x < 256) (w : World) :
    Calls Tryd.prog 23 #[(.agg (is3 ds).toArray)] w fun e w' => e = .returned (.bool (decide (valD ds < (LO : Int)))) ∧ Below w.heap.size w w' := by
  have h0 : Blk (w.alloc (.cells (is3 ds).toArray 47)) w.heap.size 47 (is3 ds) := Blk.new _ _ _
  have H0 := Lib.hid h0
  obtain ⟨cs, hcs⟩ : ∃ cs, is3 ds = cs := ⟨_, rfl⟩
  rw [hcs] at H0
  rw [hcs]
  have HCS := Lib.hid hcs
  have HL := Lib.hid (And.intro hl hr)
  clear h0 hcs hl hr
  go_enter Tryd.func23, Tryd.ntmps23
  go_wp2_with fail
  refine (refL_calls _).mono ?_
  rintro e w1 ⟨rfl, b1⟩
  have hn1 := H0.out.later b1
  have hz1 := new33 w1
  have hw1 := (Below.of_alloc b1).size
  have hlt : w.heap.size < w1.heap.size := hn1.lt
  have hp1 := hz1.setAll (vs := is3 lD) rfl
  have hd1 := (hn1.alloc (.cells #[.int .i64 0, .int .i64 0, .int .i64 0, .int .i64 0, .int .i64 0, .int .i64 0, .int .i64 0, .int .i64 0, .int .i64 0, .int .i64 0, .int .i64 0, .int .i64 0, .int .i64 0, .int .i64 0, .int .i64 0, .int .i64 0, .int .i64 0, .int .i64 0, .int .i64 0, .int .i64 0, .int .i64 0, .int .i64 0, .int .i64 0, .int .i64 0, .int .i64 0, .int .i64 0, .int .i64 0, .int .i64 0, .int .i64 0, .int .i64 0, .int .i64 0, .int .i64 0, .int .i64 0] 47)).setFar (g2 := w1.heap.size) (by omega) 0 (is3 lD)
  have hb1 := blw_cells hw1 (is3 lD) 0 _ ((Below.of_alloc b1).alloc hw1 (.cells #[.int .i64 0, .int .i64 0, .int .i64 0, .int .i64 0, .int .i64 0, .int .i64 0, .int .i64 0, .int .i64 0, .int .i64 0, .int .i64 0, .int .i64 0, .int .i64 0, .int .i64 0, .int .i64 0, .int .i64 0, .int .i64 0, .int .i64 0, .int .i64 0, .int .i64 0, .int .i64 0, .int .i64 0, .int .i64 0, .int .i64 0, .int .i64 0, .int .i64 0, .int .i64 0, .int .i64 0, .int .i64 0, .int .i64 0, .int .i64 0, .int .i64 0, .int .i64 0, .int .i64 0] 47))
  have HT := Lib.hid (hz1.there (n := (is3 lD).toArray.size) rfl)
  have HS := Lib.hid (size33a lD rfl)
  have HO := Lib.hid (one3 lD)
  have HB1 := Lib.hid (And.intro hd1 (And.intro hp1 hb1))
  clear hn1 b1 hz1 hw1 hp1 hd1 hb1
  go_wp2_with (refine wpList_store_mid rfl 47 _ _ rfl w1.heap.size 0 (is3 lD).toArray rfl rfl HT.out HS.out HO.out ?_)
  go_loopw [4] (fun i wr => ∃ (n : Nat) (z : Int), n ≤ 33 ∧ i = .int .i64 z ∧ z = (n : Int) - 1 ∧ ds.drop n = lD.drop n ∧ Blk wr w.heap.size 47 (is3 ds) ∧ Blk wr w1.heap.size 47 (is3 lD) ∧ Below w.heap.size w wr) (fun i _ => (intOf i + 1).toNat)
  case atStart => exact ⟨33, 32, by omega, rfl, by omega, by rw [List.drop_of_length_le (by rw [HL.out.1]; omega), List.drop_of_length_le (by decide)], by rw [HCS.out]; exact HB1.out.1, HB1.out.2.1, HB1.out.2.2⟩
  case round =>
    obtain ⟨n, z, hn16, rfl, hz, hdr, hn, hpn, hbw⟩ := hrel
    cases n with
    | succ m =>
      obtain rfl : z = (m : Int) := by omega
      have h1 : m < ds.length := by rw [HL.out.1]; omega
      have h2 : m < lD.length := by show m < 33; omega
      obtain ⟨d, hd⟩ : ∃ d, ds[m]? = some d := ⟨_, List.getElem?_eq_getElem h1⟩
      obtain ⟨e, he⟩ : ∃ e, lD[m]? = some e := ⟨_, List.getElem?_eq_getElem h2⟩
      have g1 := hn.cell (is3_at hd)
      have g2 := hpn.cell (is3_at he)
      have hb0 : decide ((0 : Int) ≤ (m : Int)) = true := by simp
      have hm16 : (m : Int) < 33 := by omega
      by_cases hne : d = e
      · have hdr2 : ds.drop m = lD.drop m := by
          rw [List.drop_eq_getElem_cons h1, List.drop_eq_getElem_cons h2, hdr]
          rw [List.getElem?_eq_getElem h1] at hd
          rw [List.getElem?_eq_getElem h2] at he
          rw [Option.some.inj hd, Option.some.inj he, hne]
        have HD := Lib.hid (And.intro hdr2 (And.intro hn (And.intro hpn hbw)))
        have hq : (d != e) = false := by simp [hne]
        have hq2 : (d == e) = true := by simp [hne]
        have e1 : IntKind.i64.wrap ((m : Int) - 1) = (m : Int) - 1 := IntWalk.i64_in _ (by omega)
        clear hz hdr hn hpn hbw hd he hdr2 hne h1 h2
        go_wp2_with fail
        go_quiet (fail)
        go_wp2_with fail
        exact ⟨⟨m, (m : Int) - 1, by omega, rfl, rfl, HD.out.1, HD.out.2.1, HD.out.2.2.1, HD.out.2.2.2.drewN _⟩, by simp [intOf]⟩
      · have hres := below_at ds HL.out.1 HL.out.2 m (by omega) hdr d e hd he hne
        have HD := Lib.hid hbw
        have hq : (d != e) = true := by simp [hne]
        have hq2 : (d == e) = false := by simp [hne]
        have HR := Lib.hid hres
        clear hz hdr hn hpn hbw hd he h1 h2 hres
        go_wp2_with fail
        go_quiet (fail)
        go_wp2_with fail
        go_quiet (fail)
        go_wp2_with fail
        go_ret
        exact ⟨ret_bool HR.out, (HD.out.drewN _).drewN _⟩
    | zero =>
      obtain rfl : z = -1 := by omega
      have hds : ds = lD := by simpa using hdr
      have hres : false = decide (valD ds < (LO : Int)) := by rw [hds, lD_val]; simp
      have HR := Lib.hid hres
      have HD := Lib.hid hbw
      clear hz hdr hn hpn hbw hds hres
      go_wp2_with fail
      go_ret
      exact ⟨ret_bool HR.out, HD.out⟩
end Go.Proofs.YtmegjpjfkpgmbaaDoor
