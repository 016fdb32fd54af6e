/- Layer 19: SpoolLines, walked. -/
import Derived.Test.YthhnbpbebplcoaaSpM
namespace Go.Proofs.Ythhnbpbebplcoaa
open Go.ChangeShapes Go.WideShapes Go.ChangeAt Go.RowKit Go.IntWalk
set_option linter.unusedVariables false

/-- How many bytes texts have. -/
def totL (xs : List (List UInt8)) : Nat := (xs.map List.length).sum
theorem totL_snoc (xs : List (List UInt8)) (x : List UInt8) : totL (xs ++ [x]) = totL xs + x.length := by simp [totL]
/-- The records' lines. -/
def wantL (xs : List (List UInt8)) : List UInt8 := flatL (xs.map lineF)
theorem wantL_snoc (xs : List (List UInt8)) (x : List UInt8) : wantL (xs ++ [x]) = wantL xs ++ (lineF x ++ [10]) := by
  unfold wantL
  rw [List.map_append, List.map_cons, List.map_nil, flatL_snoc]
theorem wantL_len (xs : List (List UInt8)) : (wantL xs).length ≤ 2 * totL xs + 2 * xs.length := by
  induction xs with
  | nil => simp [wantL, flatL]
  | cons x xs ih =>
    have h1 : wantL (x :: xs) = lineF x ++ 10 :: wantL xs := by unfold wantL; rw [List.map_cons, flatL_cons]
    have h2 : totL (x :: xs) = x.length + totL xs := by simp [totL]
    have h3 := lineF_len x
    rw [h1, h2]
    simp
    omega
theorem wantL_take (xs : List (List UInt8)) (j : Nat) : (wantL (xs.take j)).length ≤ (wantL xs).length := by
  have h : wantL xs = wantL (xs.take j) ++ wantL (xs.drop j) := by
    unfold wantL
    rw [← flatL_app, ← List.map_append, List.take_append_drop]
  rw [h]; simp
theorem spoolLines_open0 {H : Type} {enc : TypeId × Value → H} {w : World} {base : Nat} {held : Bool} {A : Option Addr} {n c : Nat} {d : DataW H} {p : List MemPlace}
    (h : DataW.Trod enc Try.prog w base (fun _ => true) held 34 (.slice A n c) d p) (hwt : ∀ q ∈ d.weights Try.prog 34, q ≤ reachBytes) : ∃ xs, Own34 w A n c xs := strs_open h hwt
set_option maxRecDepth 100000 in
set_option maxHeartbeats 4000000 in
theorem spoolLines_walk (A : Option Addr) (n c : Nat) (xs : List (List UInt8)) {w : World} (hx : Own34 w A n c xs) (y : Int) (hy : (Lit.int .i64 y).wf = true) :
    Calls Try.prog 7 #[.slice A n c, .int .i64 y] w fun e w' => e = .returned (.bool true) ∧ Below w.heap.size w w' := by
  have hyb := bounds_i64 hy
  obtain ⟨hrv, hn, hnc, hc47, hxl⟩ := hx
  have hn47 : n ≤ 140737488355328 := by omega
  have HX := Lib.hid (And.intro hrv (And.intro hn hxl))
  have HN := Lib.hid hn.out
  clear hrv hn hc47 hxl hy
  go_enter Try.func7, Try.ntmps7
  go_wp2_with fail
  refine (alive19_calls w).mono ?_
  rintro e w1 ⟨rfl, b1⟩
  have HR1 := Lib.hid (HX.out.1.below b1)
  have B1 := Lib.hid b1
  clear b1
  go_wp2_with fail
  go_loopw [5, 6, 19] (fun size want i wr => ∃ k t : Nat, k ≤ n ∧ t ≤ 16384 ∧ i = .int .i64 (k : Int) ∧ size = .int .i64 (t : Int) ∧ Hid (t = totL (xs.take k)) ∧ want = strV (wantL (xs.take k)) ∧ Below w1.heap.size w1 wr) (fun _ _ i _ => n - (intOf i).toNat)
  case atStart => exact ⟨0, 0, Nat.zero_le _, Nat.zero_le _, rfl, rfl, Lib.hid rfl, rfl, Below.refl _ _⟩
  case round =>
    obtain ⟨k, t, hk, ht, rfl, rfl, htt, rfl, hbr⟩ := hrel
    by_cases hp : k < n
    · have hkx : k < xs.length := by rw [← HN.out]; exact hp
      obtain ⟨ba, oa, rfl, _, ca⟩ := HR1.out.some (by simp; omega)
      have c1 := (HR1.out.below hbr).some (by simp; omega)
      obtain ⟨ba', oa', e', _, ca'⟩ := c1
      injection e' with e'
      injection e' with e1 e2
      subst e1
      subst e2
      obtain ⟨x, hxk⟩ : ∃ x, xs[k] = x := ⟨_, rfl⟩
      have c2 := ca' k (strV x) (by simp [hkx, hxk])
      unfold strV at c2
      have hxlen : x.length ≤ 140737488355328 := by rw [← hxk]; exact HX.out.2.2 _ (List.getElem_mem hkx)
      have hts := take_snocL xs k hkx
      rw [hxk] at hts
      have hwl := wantL_len (xs.take k)
      have hkl : (xs.take k).length ≤ k := List.length_take_le _ _
      obtain ⟨q, hq⟩ : ∃ q, wantL (xs.take k) = q := ⟨_, rfl⟩
      rw [hq, ← htt.out] at hwl
      have hql : q.length ≤ 281474976710656 + 100000 := by omega
      have HT := Lib.hid (And.intro hts (And.intro hq htt.out))
      have HB := Lib.hid hbr
      clear ca ca' hxk hts hwl hkl hq htt hbr
      rw [HT.out.2.1]
      unfold strV
      by_cases hbig : 16384 < t + x.length
      · go_wp2_with fail
        go_ret
        exact ⟨rfl, B1.out.then_ HB.out⟩
      · go_wp2_with fail
        refine (line_calls x (by omega) wr).mono ?_
        rintro e w2 ⟨rfl, b2⟩
        have hll : (lineF x).length ≤ 100000 := by rw [lineF_len]; omega
        obtain ⟨z, hz⟩ : ∃ z, lineF x = z := ⟨_, rfl⟩
        have HZ := Lib.hid hz
        rw [hz] at hll
        rw [hz]
        clear hz
        unfold strV
        go_wp2_with fail
        refine ⟨⟨k + 1, t + x.length, by omega, by omega, by go_num, by go_num, Lib.hid ?_, ?_, HB.out.then_ b2⟩, by simp [intOf]; omega⟩
        · rw [HT.out.1, totL_snoc, HT.out.2.2]
        · rw [HT.out.1, wantL_snoc, HT.out.2.1, HZ.out]
    · obtain rfl : k = n := by omega
      obtain ⟨wa, hwa⟩ : ∃ x, x = wr := ⟨_, rfl⟩
      subst hwa
      have hall : xs.take k = xs := List.take_of_length_le (by rw [← HN.out]; exact Nat.le_refl _)
      rw [hall]
      rw [hall] at htt
      by_cases h60 : 60 < k
      · go_wp2_with fail
        go_ret
        exact ⟨rfl, B1.out.then_ hbr⟩
      by_cases hy0 : y < 0
      · go_wp2_with fail
        go_ret
        exact ⟨rfl, B1.out.then_ hbr⟩
      by_cases hy1 : 100 < y
      · go_wp2_with fail
        go_ret
        exact ⟨rfl, B1.out.then_ hbr⟩
      obtain ⟨Y, rfl⟩ : ∃ Y : Nat, y = (Y : Int) := ⟨y.toNat, by omega⟩
      have hwl := wantL_len xs
      rw [← htt.out] at hwl
      obtain ⟨q, hq⟩ : ∃ q, wantL xs = q := ⟨_, rfl⟩
      have hxk : xs.length = k := HN.out.symm
      rw [hxk, hq] at hwl
      have hql : q.length ≤ 40000 := by omega
      have HT := Lib.hid (And.intro hq (And.intro htt.out hxk))
      have HB := Lib.hid hbr
      clear hwl hxk htt hbr hall
      rw [hq]
      clear hq
      unfold strV
      go_wp2_with fail
      refine (new_calls [] (by decide) wa).mono ?_
      rintro e w2 ⟨g, v, rfl, hg, p2, b2⟩
      have H2 : Hid (Mine wa.heap.size wa w2 g v (Sp.new [])) := Lib.hid ⟨p2, hg, b2, b2.size⟩
      clear p2 b2
      have hd60 : decide (60 < (k : Int)) = false := decide_eq_false (by omega)
      go_wp2_with fail
      go_loopw [48] (fun i w3 => ∃ j : Nat, j ≤ k ∧ i = .int .i64 (j : Int) ∧ ∃ v', Mine wa.heap.size wa w3 g v' ⟨wantL (xs.take j), 0, false, j, 0, 0⟩) (fun i _ => k - (intOf i).toNat)
      case atStart => exact ⟨0, Nat.zero_le _, rfl, v, H2.out⟩
      case round =>
        obtain ⟨j, hj, rfl, v3, m3⟩ := hrel
        by_cases hp : j < k
        · have hjx : j < xs.length := by rw [HT.out.2.2]; exact hp
          obtain ⟨x, hxj⟩ : ∃ x, xs[j] = x := ⟨_, rfl⟩
          have b3 := HB.out.then_ m3.2.2.1
          obtain ⟨ba, oa, rfl, _, ca⟩ := (HR1.out.below b3).some (by simp; omega)
          have c2 := ca j (strV x) (by simp [hjx, hxj])
          unfold strV at c2
          have hts := take_snocL xs j hjx
          rw [hxj] at hts
          have hw1 := wantL_take xs (j + 1)
          have hw2 : wantL (xs.take (j + 1)) = wantL (xs.take j) ++ (lineF x ++ [10]) := by rw [hts, wantL_snoc]
          rw [HT.out.1, hw2] at hw1
          simp only [List.length_append, List.length_cons, List.length_nil] at hw1
          have hxl : x.length ≤ 40000 := by have := lineF_len x; omega
          have hok : Sp.Ok ⟨wantL (xs.take j), 0, false, j, 0, 0⟩ := ⟨Nat.zero_le _, by show (wantL (xs.take j)).length ≤ _; omega, by show 0 < 2 ^ 63; omega, by show (-9223372036854775808 : Int) ≤ 0 ∧ (0 : Int) ≤ 9223372036854775807; omega⟩
          have happ := app_plain ⟨wantL (xs.take j), 0, false, j, 0, 0⟩ x rfl rfl (by show (wantL (xs.take j)).length + _ + 1 ≤ _; omega)
          dsimp only at happ
          rw [← hw2] at happ
          have HM := Lib.hid (And.intro m3 (And.intro hok happ))
          clear ca hts hw1 hw2 hxj m3 hok happ b3
          go_wp2_with fail
          refine (append_calls wa.heap.size g v3 ⟨wantL (xs.take j), 0, false, j, 0, 0⟩ x (by omega) HM.out.2.1 (by show j < 1000000; omega) wr HM.out.1.1 HM.out.1.2.2.2).mono ?_
          rintro e w4 ⟨rfl, v4, p4, n4⟩
          rw [HM.out.2.2] at p4 ⊢
          have HM4 := Lib.hid (HM.out.1.next p4 n4)
          clear p4 n4
          go_wp2_with fail
          exact ⟨⟨j + 1, by omega, by go_num, v4, HM4.out⟩, by simp [intOf]; omega⟩
        · obtain rfl : j = k := by omega
          obtain ⟨wb, hwb⟩ : ∃ x, x = wr := ⟨_, rfl⟩
          subst hwb
          have hall : xs.take j = xs := List.take_of_length_le (by rw [HT.out.2.2]; exact Nat.le_refl _)
          rw [hall, HT.out.1] at m3
          have HM := Lib.hid m3
          clear m3 hall
          go_wp2_with fail
          go_loopw [12] (fun i w4 => ∃ m : Nat, m ≤ Y ∧ i = .int .i64 (m : Int) ∧ ∃ v' sy, sy ≤ q.length ∧ Mine wa.heap.size wa w4 g v' ⟨q, sy, false, j + m, 0, 0⟩) (fun i _ => Y - (intOf i).toNat)
          case atStart => exact ⟨0, Nat.zero_le _, rfl, v3, 0, Nat.zero_le _, HM.out⟩
          case round =>
            obtain ⟨m, hm, rfl, v4, sy, hsy, m4⟩ := hrel
            have hok : Sp.Ok ⟨q, sy, false, j + m, 0, 0⟩ := ⟨hsy, by show q.length ≤ _; omega, by show 0 < 2 ^ 63; omega, by show (-9223372036854775808 : Int) ≤ 0 ∧ (0 : Int) ≤ 9223372036854775807; omega⟩
            by_cases hmp : m < Y
            · have hsn := sync_plain ⟨q, sy, false, j + m, 0, 0⟩ rfl rfl
              dsimp only at hsn
              have HS := Lib.hid (And.intro m4 (And.intro hok hsn))
              clear m4 hok hsn
              go_wp2_with fail
              refine (sync_calls wa.heap.size g v4 ⟨q, sy, false, j + m, 0, 0⟩ HS.out.2.1 (by show j + m < 1000000; omega) wr HS.out.1.1).mono ?_
              rintro e w5 ⟨rfl, v5, p5, n5⟩
              rw [HS.out.2.2] at p5 ⊢
              have HM5 := Lib.hid (HS.out.1.next p5 n5)
              clear p5 n5
              go_wp2_with fail
              exact ⟨⟨m + 1, by omega, by go_num, v5, q.length, Nat.le_refl _, HM5.out⟩, by simp [intOf]; omega⟩
            · obtain rfl : m = Y := by omega
              have hop := open_lines ⟨q, sy, false, j + m, 0, 0⟩ xs rfl HT.out.1.symm
              dsimp only at hop
              have HS := Lib.hid (And.intro m4 (And.intro hok hop))
              clear m4 hok hop
              go_wp2_with fail
              refine (open_calls wa.heap.size g v4 ⟨q, sy, false, j + m, 0, 0⟩ HS.out.2.1 wr HS.out.1.1 HS.out.1.2.2.2).mono ?_
              rintro e w5 ⟨v5, out, p5, n5, ho5, rfl, ow5⟩
              rw [HS.out.2.2] at p5 ho5 ⊢
              dsimp only at p5 ho5 ⊢
              have HM5 := Lib.hid (HS.out.1.next p5 n5)
              obtain ⟨A5, n5', c5, rfl, hrv5, hn5, _⟩ := ho5.form
              have HR5 := Lib.hid (And.intro hrv5 (Lib.hid (show n5' = xs.length by rw [hn5.out]; simp)))
              clear p5 n5 ho5 ow5 hrv5 hn5
              go_wp2_with fail
              refine (bytes_calls wa.heap.size g v5 _ w5 HM5.out.1).mono ?_
              rintro e w6 ⟨rfl, rfl⟩
              dsimp only
              unfold strV
              go_wp2_with fail
              refine (acts_calls wa.heap.size g v5 _ w5 HM5.out.1).mono ?_
              rintro e w6 ⟨rfl, rfl⟩
              dsimp only
              have hact : ((j + m : Nat) : Int) = (j : Int) + (m : Int) := by omega
              go_wp2_with fail
              refine (same_calls A5 A n5' c5 j c xs xs w5 HR5.out.1 HR5.out.2 (HR1.out.below (HB.out.then_ HM5.out.2.2.1)) (Lib.hid HN.out) (by rw [HT.out.2.2]; omega)).mono ?_
              rintro e w6 ⟨rfl, k6, rfl⟩
              rw [show decide (xs = xs) = true from decide_eq_true rfl]
              go_wp2_with fail
              go_ret
              exact ⟨rfl, (B1.out.then_ (HB.out.then_ HM5.out.2.2.1)).drewN _⟩
end Go.Proofs.Ythhnbpbebplcoaa
