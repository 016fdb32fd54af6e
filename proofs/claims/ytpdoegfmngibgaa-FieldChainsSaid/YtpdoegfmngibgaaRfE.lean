/- Layer 4: the document's small numbers, its prime, what is below it. -/
import Derived.Test.YtpdoegfmngibgaaRfD
namespace Go.Proofs.Ytpdoegfmngibgaa
open Go.ChangeShapes Go.WideShapes Go.ChangeAt Go.RowKit Go.IntWalk
set_option linter.unusedVariables false

/-- The value is a number of the document's that is r by the prime. -/
def IsNum (v : Value) (r : Nat) : Prop := ∃ ds, v = A16 ds ∧ NumOk ds ∧ valD ds % (P : Int) = ((r % P : Nat) : Int)
theorem Q256_P : Q256 = 2 * (P : Int) := by decide +kernel
theorem carryF_mod (ds : List Int) (h : ds.length = 16) : valD (carryF ds) % (P : Int) = valD ds % (P : Int) := by
  have := carryF_val ds h
  rw [← this, Q256_P, show (cgo 0 ds).2 * (2 * (P : Int)) = (P : Int) * (2 * (cgo 0 ds).2) by rw [Int.mul_comm, Int.mul_assoc, Int.mul_comm 2, Int.mul_assoc, Int.mul_comm _ 2], Int.add_mul_emod_self_left]
theorem refSmall_calls (n : Nat) (hn : n < 2 ^ 32) (w : World) :
    Calls Try.prog 16 #[.int .i64 (n : Int)] w fun e w' => ∃ v, e = .returned v ∧ IsNum v n ∧ Below w.heap.size w w' := by
  have hok : NumOk (carryF ((n : Int) :: List.replicate 15 0)) := carryF_small _ _ (by omega) (fun x hx => by rw [List.eq_of_mem_replicate hx]; decide) (by simp)
  have hval : valD (carryF ((n : Int) :: List.replicate 15 0)) % (P : Int) = ((n % P : Nat) : Int) := by
    rw [carryF_mod _ (by simp)]
    have : valD ((n : Int) :: List.replicate 15 0) = (n : Int) := by simp [valD, List.replicate]
    rw [this]; rfl
  have hcar : ∀ W, Calls Try.prog 37 #[A16 ((n : Int) :: List.replicate 15 0)] W fun e w' => e = .returned (A16 (carryF ((n : Int) :: List.replicate 15 0))) ∧ Below W.heap.size W w' :=
    fun W => carry_calls _ (by simp) (fun x hx => by
      rcases List.mem_cons.1 hx with rfl | hx
      · omega
      · rw [List.eq_of_mem_replicate hx]; decide) W
  have hz0 : NBlk (w.alloc (.cells (i64s Z16).toArray 33)) w.heap.size Z16 := NBlk.new _
  have HC := Lib.hid hcar
  have HV := Lib.hid (And.intro hok hval)
  have HZ := Lib.hid hz0
  generalize hfs : carryF ((n : Int) :: List.replicate 15 0) = fs at *
  clear hok hval hcar hz0 hn
  go_enter Try.func16, Try.ntmps16
  go_wp2_with fail
  refine (HC.out _).mono ?_
  rintro e w1 ⟨rfl, b1⟩
  have hz1 := HZ.out.later b1
  have hbf := below_cells (Nat.le_refl w.heap.size) (i64s fs) 0 _ (below1 b1)
  have HT := Lib.hid (hz1.there (n := (i64s fs).toArray.size) (by simp [i64s, HV.out.1.1, Z16]))
  have HS := Lib.hid (size16a _ HV.out.1.1)
  have HO := Lib.hid (one16 fs)
  have HLD := Lib.hid (ld16 (hz1.setAll (ms := fs) (by rw [HV.out.1.1]; rfl)) HV.out.1.1)
  have HBF := Lib.hid hbf
  clear hz1 hbf b1 hfs
  go_wp2_with (refine wpList_store_mid rfl 33 _ _ rfl w.heap.size 0 (i64s fs).toArray rfl rfl HT.out HS.out HO.out ?_)
  exact bodyPost_ret (v := .agg (i64s fs).toArray) (results_cell rfl _ _ _ _ rfl HLD.out) rfl ⟨_, rfl, ⟨fs, rfl, HV.out.1, HV.out.2⟩, HBF.out⟩
def pD : List Int := [65517, 65535, 65535, 65535, 65535, 65535, 65535, 65535, 65535, 65535, 65535, 65535, 65535, 65535, 65535, 32767]
theorem pD_val : valD pD = (P : Int) := by decide +kernel
theorem pD_rng : ∀ x ∈ pD, 0 ≤ x ∧ x < 65536 := by decide
theorem refP_calls (w : World) : Calls Try.prog 46 #[] w fun e w' => e = .returned (A16 pD) ∧ Below w.heap.size w w' := by
  have hz0 : NBlk (w.alloc (.cells (i64s Z16).toArray 33)) w.heap.size Z16 := NBlk.new _
  have HBF := Lib.hid (below_cells (Nat.le_refl w.heap.size) (i64s pD) 0 _ ((Below.refl w.heap.size w).alloc (Nat.le_refl _) (.cells (i64s Z16).toArray 33)))
  have HT := Lib.hid (hz0.there (n := (i64s pD).toArray.size) rfl)
  have HS := Lib.hid (size16a pD rfl)
  have HO := Lib.hid (one16 pD)
  have HLD := Lib.hid (ld16 (hz0.setAll (ms := pD) rfl) rfl)
  clear hz0
  go_enter Try.func46, Try.ntmps46
  go_wp2_with (refine wpList_store_mid rfl 33 _ _ rfl w.heap.size 0 (i64s pD).toArray rfl rfl HT.out HS.out HO.out ?_)
  exact bodyPost_ret (v := .agg (i64s pD).toArray) (results_cell rfl _ _ _ _ rfl HLD.out) rfl ⟨rfl, HBF.out⟩
theorem valD_cmp : ∀ (xs ys t : List Int) (d e : Int), xs.length = ys.length → (∀ x ∈ xs, 0 ≤ x ∧ x < 65536) → (∀ x ∈ ys, 0 ≤ x ∧ x < 65536) → d < e → valD (xs ++ d :: t) < valD (ys ++ e :: t)
  | [], [], t, d, e, _, _, _, h => by simp [valD]; omega
  | x :: xs, y :: ys, t, d, e, hl, hx, hy, h => by
    have ih := valD_cmp xs ys t d e (by simpa using hl) (fun z hz => hx z (List.mem_cons_of_mem _ hz)) (fun z hz => hy z (List.mem_cons_of_mem _ hz)) h
    have h1 := hx x (List.mem_cons_self ..)
    have h2 := hy y (List.mem_cons_self ..)
    simp only [List.cons_append, valD]
    omega
  | [], _ :: _, _, _, _, hl, _, _, _ => by simp at hl
  | _ :: _, [], _, _, _, hl, _, _, _ => by simp at hl
theorem split_at (ds : List Int) (m : Nat) (h : m < ds.length) : ds = ds.take m ++ ds[m] :: ds.drop (m + 1) := by
  rw [← List.drop_eq_getElem_cons h, List.take_append_drop]
theorem below_at (ds : List Int) (hl : ds.length = 16) (hr : ∀ x ∈ ds, 0 ≤ x ∧ x < 65536) (m : Nat) (hm : m < 16) (he : ds.drop (m + 1) = pD.drop (m + 1)) (d e : Int) (hd : ds[m]? = some d) (hp : pD[m]? = some e) (hne : d ≠ e) :
    decide (d < e) = decide (valD ds < (P : Int)) := by
  have h1 : m < ds.length := by omega
  have h2 : m < pD.length := by show m < 16; omega
  obtain rfl : ds[m] = d := by rw [List.getElem?_eq_getElem h1] at hd; exact Option.some.inj hd
  obtain rfl : pD[m] = e := by rw [List.getElem?_eq_getElem h2] at hp; exact Option.some.inj hp
  have hlen : (ds.take m).length = (pD.take m).length := by simp; omega
  have ra : ∀ x ∈ ds.take m, 0 ≤ x ∧ x < 65536 := fun x hx => hr x (List.mem_of_mem_take hx)
  have rb : ∀ x ∈ pD.take m, 0 ≤ x ∧ x < 65536 := fun x hx => pD_rng x (List.mem_of_mem_take hx)
  have s1 := split_at ds m h1
  have s2 := split_at pD m h2
  rw [he] at s1
  rw [← pD_val, decide_eq_decide]
  constructor
  · intro hlt
    have := valD_cmp (ds.take m) (pD.take m) (pD.drop (m + 1)) _ _ hlen ra rb hlt
    rwa [← s1, ← s2] at this
  · intro hlt
    rcases Int.lt_trichotomy ds[m] pD[m] with h | h | h
    · exact h
    · exact absurd h hne
    · have := valD_cmp (pD.take m) (ds.take m) (pD.drop (m + 1)) _ _ hlen.symm rb ra h
      rw [← s1, ← s2] at this
      omega
set_option maxRecDepth 100000 in
set_option maxHeartbeats 4000000 in
theorem refBelow_calls (ds : List Int) (hl : ds.length = 16) (hr : ∀ x ∈ ds, 0 ≤ x ∧ x < 65536) (w : World) :
    Calls Try.prog 45 #[A16 ds] w fun e w' => e = .returned (.bool (decide (valD ds < (P : Int)))) ∧ Below w.heap.size w w' := by
  unfold A16
  have h0 : NBlk (w.alloc (.cells (i64s ds).toArray 33)) w.heap.size ds := NBlk.new _
  have H0 := Lib.hid h0
  obtain ⟨cs, hcs⟩ : ∃ cs, i64s ds = cs := ⟨_, rfl⟩
  rw [hcs] at H0
  rw [hcs]
  have HL := Lib.hid (And.intro hl hr)
  clear h0 hcs hl hr
  go_enter Try.func45, Try.ntmps45
  go_wp2_with fail
  refine (refP_calls _).mono ?_
  rintro e w1 ⟨rfl, b1⟩
  have hn1 := H0.out.later b1
  have hz1 : NBlk (w1.alloc (.cells (i64s Z16).toArray 33)) w1.heap.size Z16 := NBlk.new _
  have hw1 := (below1 b1).size
  have hlt : w.heap.size < w1.heap.size := hn1.lt
  have hp1 := hz1.setAll (ms := pD) rfl
  have hd1 := (hn1.alloc (.cells (i64s Z16).toArray 33)).setFar (g2 := w1.heap.size) (by omega) (i64s pD)
  have hb1 := below_cells hw1 (i64s pD) 0 _ ((below1 b1).alloc hw1 (.cells (i64s Z16).toArray 33))
  have HT := Lib.hid (hz1.there (n := (i64s pD).toArray.size) rfl)
  have HS := Lib.hid (size16a pD rfl)
  have HO := Lib.hid (one16 pD)
  have HB1 := Lib.hid (And.intro hd1 (And.intro hp1 hb1))
  clear hn1 b1 hz1 hw1 hp1 hd1 hb1
  go_wp2_with (refine wpList_store_mid rfl 33 _ _ rfl w1.heap.size 0 (i64s pD).toArray rfl rfl HT.out HS.out HO.out ?_)
  go_loopw [4] (fun i wr => ∃ (n : Nat) (z : Int), n ≤ 16 ∧ i = .int .i64 z ∧ z = (n : Int) - 1 ∧ ds.drop n = pD.drop n ∧ NBlk wr w.heap.size ds ∧ NBlk wr w1.heap.size pD ∧ Below w.heap.size w wr) (fun i _ => (intOf i + 1).toNat)
  case atStart => exact ⟨16, 15, by omega, rfl, by omega, by rw [List.drop_of_length_le (by rw [HL.out.1]; omega), List.drop_of_length_le (by decide)], HB1.out.1, HB1.out.2.1, HB1.out.2.2⟩
  case round =>
    obtain ⟨n, z, hn16, rfl, hz, hdr, hn, hpn, hbw⟩ := hrel
    cases n with
    | succ m =>
      obtain rfl : z = (m : Int) := by omega
      have h1 : m < ds.length := by rw [HL.out.1]; omega
      have h2 : m < pD.length := by show m < 16; omega
      obtain ⟨d, hd⟩ : ∃ d, ds[m]? = some d := ⟨_, List.getElem?_eq_getElem h1⟩
      obtain ⟨e, he⟩ : ∃ e, pD[m]? = some e := ⟨_, List.getElem?_eq_getElem h2⟩
      have g1 := hn.cell hd
      have g2 := hpn.cell he
      have hb0 : decide ((0 : Int) ≤ (m : Int)) = true := by simp
      have hm16 : (m : Int) < 16 := by omega
      by_cases hne : d = e
      · have hdr2 : ds.drop m = pD.drop m := by
          rw [List.drop_eq_getElem_cons h1, List.drop_eq_getElem_cons h2, hdr]
          rw [List.getElem?_eq_getElem h1] at hd
          rw [List.getElem?_eq_getElem h2] at he
          rw [Option.some.inj hd, Option.some.inj he, hne]
        have HD := Lib.hid (And.intro hdr2 (And.intro hn (And.intro hpn hbw)))
        have hq : (d != e) = false := by simp [hne]
        have hq2 : (d == e) = true := by simp [hne]
        have e1 : IntKind.i64.wrap ((m : Int) - 1) = (m : Int) - 1 := IntWalk.i64_in _ (by omega)
        clear hz hdr hn hpn hbw hd he hdr2 hne h1 h2
        go_wp2_with fail
        go_quiet (fail)
        go_wp2_with fail
        exact ⟨⟨m, (m : Int) - 1, by omega, rfl, rfl, HD.out.1, HD.out.2.1, HD.out.2.2.1, HD.out.2.2.2.drewN _⟩, by simp [intOf]⟩
      · have hres := below_at ds HL.out.1 HL.out.2 m (by omega) hdr d e hd he hne
        have HD := Lib.hid hbw
        have hq : (d != e) = true := by simp [hne]
        have hq2 : (d == e) = false := by simp [hne]
        have HR := Lib.hid hres
        clear hz hdr hn hpn hbw hd he h1 h2 hres
        go_wp2_with fail
        go_quiet (fail)
        go_wp2_with fail
        go_quiet (fail)
        go_wp2_with fail
        go_ret
        exact ⟨ret_bool HR.out, (HD.out.drewN _).drewN _⟩
    | zero =>
      obtain rfl : z = -1 := by omega
      have hds : ds = pD := by simpa using hdr
      have hres : false = decide (valD ds < (P : Int)) := by rw [hds, pD_val]; simp
      have HR := Lib.hid hres
      have HD := Lib.hid hbw
      clear hz hdr hn hpn hbw hds hres
      go_wp2_with fail
      go_ret
      exact ⟨ret_bool HR.out, HD.out⟩
end Go.Proofs.Ytpdoegfmngibgaa
