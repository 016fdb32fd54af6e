/- Layer 8: the law QuoteRunes. -/
import Derived.Test.YtklghjeinempmaaQuY
namespace Go.Proofs.Ytklghjeinempmaa
open Go.ChangeShapes Go.WideShapes Go.ChangeAt Go.RowKit Go.IntWalk
set_option linter.unusedVariables false

def hexU (n : Nat) : UInt8 := if n < 10 then UInt8.ofNat (48 + n) else UInt8.ofNat (55 + n)
theorem hexU_at (a : Nat) (h : a < 16) : (([48, 49, 50, 51, 52, 53, 54, 55, 56, 57, 65, 66, 67, 68, 69, 70] : List UInt8).take (a + 1)).drop a = [hexU a] := by
  have : ∀ j : Fin 16, (([48, 49, 50, 51, 52, 53, 54, 55, 56, 57, 65, 66, 67, 68, 69, 70] : List UInt8).take (j.val + 1)).drop j.val = [hexU j.val] := by decide
  exact this ⟨a, h⟩
theorem digV_hexU (a : Nat) (h : a < 16) : digV (hexU a) = some a := by
  have : ∀ j : Fin 16, digV (hexU j.val) = some j.val := by decide
  exact this ⟨a, h⟩
def escU (n : Nat) : List UInt8 := [92, 117, hexU (n / 4096 % 16), hexU (n / 256 % 16), hexU (n / 16 % 16), hexU (n % 16)]
theorem and15 (x : Int) (h0 : 0 ≤ x) (h1 : x < 2 ^ 63) : bits .and .i64 x 15 = x % 16 := bits_mask .i64 63 (by decide) wraps_i64 4 (by decide) x h0 h1

theorem hex_slice (a : Nat) (W : World) (h : a < 16) :
    (Instr.slice 9 (.string ⟨#[48, 49, 50, 51, 52, 53, 54, 55, 56, 57, 65, 66, 67, 68, 69, 70]⟩) (some (.int .i64 (a : Int))) (some (.int .i64 ((a : Int) + 1))) none).run Try.prog W = .ok (.string ⟨#[hexU a]⟩) W := by
  rw [run_slice_string (P := Try.prog) W 9 _ .i64 .i64 (a : Int) ((a : Int) + 1) Try.underlying9 (by omega) (by omega) (by show (a : Int) + 1 ≤ ((16 : Nat) : Int); omega)]
  have e : (⟨([48, 49, 50, 51, 52, 53, 54, 55, 56, 57, 65, 66, 67, 68, 69, 70] : List UInt8).toArray⟩ : ByteArray).extract (a : Int).toNat ((a : Int) + 1).toNat = ⟨[hexU a].toArray⟩ := by
    rw [str_extract, show ((a : Int) + 1).toNat = a + 1 by omega, Int.toNat_natCast, hexU_at a h]
  exact congrArg (fun s => Result.ok (Value.string s) W) e

set_option maxRecDepth 100000 in
set_option maxHeartbeats 4000000 in
theorem esc_calls (n B : Nat) (w : World) (hn : n < 65536) (hc : w.cell? ⟨B, 0, none⟩ = some (.string ⟨#[48, 49, 50, 51, 52, 53, 54, 55, 56, 57, 65, 66, 67, 68, 69, 70]⟩)) :
    Calls Try.prog 16 #[.int .i64 (n : Int), .pointer (some ⟨B, 0, none⟩)] w fun e w' => ∃ m, e = .returned (.string ⟨(escU n).toArray⟩) ∧ w' = w.drewN m := by
  obtain ⟨a3, ha3⟩ : ∃ a, n / 4096 % 16 = a := ⟨_, rfl⟩
  obtain ⟨a2, ha2⟩ : ∃ a, n / 256 % 16 = a := ⟨_, rfl⟩
  obtain ⟨a1, ha1⟩ : ∃ a, n / 16 % 16 = a := ⟨_, rfl⟩
  obtain ⟨a0, ha0⟩ : ∃ a, n % 16 = a := ⟨_, rfl⟩
  have HE : Hid (escU n = [92, 117, hexU a3, hexU a2, hexU a1, hexU a0]) := by show _ = _; unfold escU; rw [ha3, ha2, ha1, ha0]
  have l3 : a3 < 16 := by omega
  have l2 : a2 < 16 := by omega
  have l1 : a1 < 16 := by omega
  have l0 : a0 < 16 := by omega
  have b3 : bits .and .i64 ((n : Int) / 4096) 15 = (a3 : Int) := by rw [and15 _ (by omega) (by omega)]; omega
  have b2 : bits .and .i64 ((n : Int) / 256) 15 = (a2 : Int) := by rw [and15 _ (by omega) (by omega)]; omega
  have b1 : bits .and .i64 ((n : Int) / 16) 15 = (a1 : Int) := by rw [and15 _ (by omega) (by omega)]; omega
  have b0 : bits .and .i64 (n : Int) 15 = (a0 : Int) := by rw [and15 _ (by omega) (by omega)]; omega
  have r3 := fun W => hex_slice a3 W l3
  have r2 := fun W => hex_slice a2 W l2
  have r1 := fun W => hex_slice a1 W l1
  have r0 := fun W => hex_slice a0 W l0
  have w3 : IntKind.i64.wrap ((a3 : Int) + 1) = (a3 : Int) + 1 := IntWalk.i64_in _ (by omega)
  have w2 : IntKind.i64.wrap ((a2 : Int) + 1) = (a2 : Int) + 1 := IntWalk.i64_in _ (by omega)
  have w1 : IntKind.i64.wrap ((a1 : Int) + 1) = (a1 : Int) + 1 := IntWalk.i64_in _ (by omega)
  have w0 : IntKind.i64.wrap ((a0 : Int) + 1) = (a0 : Int) + 1 := IntWalk.i64_in _ (by omega)
  have HN := Lib.hid hn
  clear ha3 ha2 ha1 ha0 hn
  go_enter Try.func16, Try.ntmps16
  go_wp2_with fail
  go_quiet (fail)
  go_wp2
  go_ret
  exact ⟨nq, ret_str HE.out.symm, rfl⟩

theorem esc_calls' (n B : Nat) (w : World) (q : List UInt8) (hq : escU n = q) (hn : n < 65536) (hc : w.cell? ⟨B, 0, none⟩ = some (.string ⟨#[48, 49, 50, 51, 52, 53, 54, 55, 56, 57, 65, 66, 67, 68, 69, 70]⟩)) :
    Calls Try.prog 16 #[.int .i64 (n : Int), .pointer (some ⟨B, 0, none⟩)] w fun e w' => ∃ m, e = .returned (.string ⟨q.toArray⟩) ∧ w' = w.drewN m := hq ▸ esc_calls n B w hn hc

theorem _root_.Go.RowKit.Below.closed {w w1 w2 : World} {o : Obj} {m : Nat} (b1 : Below w.heap.size w w1) (b2 : Below ((w1.alloc o).drewN m).heap.size ((w1.alloc o).drewN m) w2) : Below w.heap.size w w2 :=
  ((b1.alloc b1.size o).drewN m).then_ b2

theorem closed_cell (w1 : World) (m : Nat) : ((w1.alloc (Obj.cells #[Value.string ⟨#[48, 49, 50, 51, 52, 53, 54, 55, 56, 57, 65, 66, 67, 68, 69, 70]⟩] 9)).drewN m).cell? ⟨w1.heap.size, 0, none⟩ = some (.string ⟨#[48, 49, 50, 51, 52, 53, 54, 55, 56, 57, 65, 66, 67, 68, 69, 70]⟩) := by simp

theorem closed_cell0 (w1 : World) : (w1.alloc (Obj.cells #[Value.string ⟨#[48, 49, 50, 51, 52, 53, 54, 55, 56, 57, 65, 66, 67, 68, 69, 70]⟩] 9)).cell? ⟨w1.heap.size, 0, none⟩ = some (.string ⟨#[48, 49, 50, 51, 52, 53, 54, 55, 56, 57, 65, 66, 67, 68, 69, 70]⟩) := by simp

theorem hexF_escU (n : Nat) (h : n < 65536) (X : List UInt8) : hexF (escU n ++ X) = some n := by
  show hexF (92 :: 117 :: hexU (n / 4096 % 16) :: hexU (n / 256 % 16) :: hexU (n / 16 % 16) :: hexU (n % 16) :: X) = _
  rw [hexF_six, if_pos ⟨rfl, rfl⟩, hexN_some (digV_hexU _ (by omega)), hexN_some (digV_hexU _ (by omega)), hexN_some (digV_hexU _ (by omega)), hexN_some (digV_hexU _ (by omega))]
  show some _ = _
  congr 1; omega
theorem stepF_escU (n : Nat) (X : List UInt8) : stepF (escU n ++ X) = numF (escU n ++ X) := by
  show (if (92 : UInt8) = 92 then escF _ else _) = _
  rw [if_pos rfl]
  show escF (92 :: 117 :: (hexU (n / 4096 % 16) :: hexU (n / 256 % 16) :: hexU (n / 16 % 16) :: hexU (n % 16) :: X)) = _
  rw [escF_two]
  rfl
theorem scan_escU_no (n : Nat) (X : List UInt8) (h : numF (escU n ++ X) = (0, 0)) : scan (escU n ++ X) = none := by
  have := stepF_escU n X
  rw [h] at this
  exact scan_fail 92 _ (by decide) (by show (stepF (escU n ++ X)).2 = 0; rw [this])
theorem take_no (m : List UInt8) (h : scan m = none) : takeF (34 :: m) 0 = ([], 0, false) := by
  have e : takeF (34 :: m) 0 = fin 1 (scan m) := takeF_in' (34 :: m) 0 (by simp) rfl
  rw [e, h]; rfl
theorem scan_escU_yes (n r d : Nat) (X Y : List UInt8) (h : numF (escU n ++ X) = (r, d)) (hd : d ≠ 0) (hX : (escU n ++ X).drop d = 34 :: Y) : scan (escU n ++ X) = some (Lib.encodeRune (r : Int), d + 1) := by
  have hs := (stepF_escU n X).trans h
  have := scan_next 92 (117 :: hexU (n / 4096 % 16) :: hexU (n / 256 % 16) :: hexU (n / 16 % 16) :: hexU (n % 16) :: X) (by decide) (by show (stepF (escU n ++ X)).2 ≠ 0; rw [hs]; exact hd)
  have e : (92 :: 117 :: hexU (n / 4096 % 16) :: hexU (n / 256 % 16) :: hexU (n / 16 % 16) :: hexU (n % 16) :: X) = escU n ++ X := rfl
  rw [e, hs] at this
  rw [this]
  simp only []
  rw [hX, scan_quote]
  simp
theorem take_yes (m o : List UInt8) (k : Nat) (h : scan m = some (o, k)) : takeF (34 :: m) 0 = (o, ((1 + k : Nat) : Int), true) := by
  have e : takeF (34 :: m) 0 = fin 1 (scan m) := takeF_in' (34 :: m) 0 (by simp) rfl
  rw [e, h]; rfl
/-- A rune below 2^16 by one escape. -/
theorem one_yes (n : Nat) (h : n < 55296 ∨ 57344 ≤ n ∧ n < 65536) : takeF (34 :: (escU n ++ [34])) 0 = (Lib.encodeRune (n : Int), 8, true) := by
  have hn : numF (escU n ++ [34]) = (n, 6) := by
    unfold numF; rw [hexF_escU n (by omega)]; simp only []; rw [if_neg (by omega), if_pos (by omega)]
  exact take_yes _ _ 7 (scan_escU_yes n n 6 [34] [] hn (by omega) rfl)
theorem one_no (n : Nat) (h : 55296 ≤ n ∧ n < 57344) : takeF (34 :: (escU n ++ [34])) 0 = ([], 0, false) := by
  apply take_no
  apply scan_escU_no
  unfold numF; rw [hexF_escU n (by omega)]; simp only []
  by_cases h1 : 56320 ≤ n ∧ n < 57344
  · rw [if_pos h1]
  · rw [if_neg h1, if_neg (by omega)]
    rfl
theorem two_yes (n a b : Nat) (h : 65536 ≤ n ∧ n < 1114112) (ha : a = 55296 + (n - 65536) / 1024) (hb : b = 56320 + (n - 65536) % 1024) : takeF (34 :: (escU a ++ (escU b ++ [34]))) 0 = (Lib.encodeRune (n : Int), 14, true) := by
  have hn : numF (escU a ++ (escU b ++ [34])) = (n, 12) := by
    unfold numF; rw [hexF_escU a (by omega)]; simp only []; rw [if_neg (by omega), if_neg (by omega)]
    have h6 : List.drop 6 (escU a ++ (escU b ++ [34])) = escU b ++ [34] := rfl
    rw [h6, hexF_escU b (by omega)]
    simp only []
    rw [if_pos (by omega)]
    have e : 65536 + 1024 * (a - 55296) + (b - 56320) = n := by omega
    rw [e]
  exact take_yes _ _ 13 (scan_escU_yes a n 12 (escU b ++ [34]) [] hn (by omega) rfl)
theorem two_no (X : List UInt8) : takeF (34 :: (escU 56320 ++ X)) 0 = ([], 0, false) := by
  apply take_no
  apply scan_escU_no
  unfold numF; rw [hexF_escU 56320 (by omega)]; simp only []
  rw [if_pos (by omega)]
theorem and1023 (x : Int) (h0 : 0 ≤ x) (h1 : x < 2 ^ 63) : bits .and .i64 x 1023 = x % 1024 := bits_mask .i64 63 (by decide) wraps_i64 10 (by decide) x h0 h1
theorem and2047 (x : Int) (h0 : 0 ≤ x) (h1 : x < 2 ^ 63) : bits .and .i64 x 2047 = x % 2048 := bits_mask .i64 63 (by decide) wraps_i64 11 (by decide) x h0 h1
theorem surr_facts (n k a b : Nat) (h : 65536 ≤ n ∧ n ≤ 1114112) (hk : n - 65536 = k) (ha : a = 55296 + (n - 65536) / 1024) (hb : b = 56320 + (n - 65536) % 1024) :
    ((n : Int) - 65536 = (k : Int) ∧ wrap64 (k : Int) = (k : Int)) ∧ (∃ x : Nat, bits .and .i64 ((k : Int) / 1024) 2047 = (x : Int) ∧ (55296 : Int) + (x : Int) = (a : Int) ∧ wrap64 (a : Int) = (a : Int)) ∧
      ∃ y : Nat, bits .and .i64 (k : Int) 1023 = (y : Int) ∧ (56320 : Int) + (y : Int) = (b : Int) ∧ wrap64 (b : Int) = (b : Int) := by
  have hk2 : k ≤ 1048576 := by omega
  refine ⟨⟨by omega, by unfold wrap64; omega⟩, ⟨k / 1024, ?_, by omega, by unfold wrap64; omega⟩, ⟨k % 1024, ?_, by omega, by unfold wrap64; omega⟩⟩
  · rw [and2047 _ (by omega) (by omega)]; omega
  · rw [and1023 _ (by omega) (by omega)]; omega
theorem escU_len (n : Nat) : (escU n).length = 6 := rfl

set_option maxRecDepth 100000 in
set_option maxHeartbeats 4000000 in
theorem quoteRunes_walk (n : Int) (hn : (Lit.int .i64 n).wf = true) {w : World} :
    Calls Try.prog 8 #[.int .i64 n] w fun e w' => e = .returned (.bool true) ∧ Below w.heap.size w w' := by
  have HW := Lib.hid hn
  clear hn
  by_cases h0 : n < 0
  · go_enter Try.func8, Try.ntmps8
    go_wp2_with fail
    refine (alive_calls _).mono ?_
    rintro e w1 ⟨rfl, b1⟩
    go_wp2
    go_ret
    exact ⟨rfl, b1⟩
  · by_cases h1 : 1114112 < n
    · have t0 : decide (n < 0) = false := decide_eq_false h0
      have t1 : decide (1114112 < n) = true := decide_eq_true h1
      clear h0 h1
      go_enter Try.func8, Try.ntmps8
      go_wp2_with fail
      refine (alive_calls _).mono ?_
      rintro e w1 ⟨rfl, b1⟩
      go_wp2
      go_ret
      exact ⟨rfl, b1⟩
    · obtain ⟨n, rfl⟩ : ∃ k : Nat, n = (k : Int) := ⟨n.toNat, by omega⟩
      have t0 : decide ((n : Int) < 0) = false := decide_eq_false h0
      have t1 : decide (1114112 < (n : Int)) = false := decide_eq_false h1
      by_cases h2 : n < 65536
      · have t2 : decide ((n : Int) < 65536) = true := decide_eq_true (by omega)
        have t3 : ((n : Int) == 1114112) = false := by rw [beq_eq_false_iff_ne]; omega
        have H2 := Lib.hid h2
        by_cases h3 : 55296 ≤ n ∧ n < 57344
        · have t4 : decide (55296 ≤ (n : Int)) = true := decide_eq_true (by omega)
          have t5 : decide ((n : Int) < 57344) = true := decide_eq_true (by omega)
          obtain ⟨q, hq⟩ : ∃ q, escU n = q := ⟨_, rfl⟩
          have ht := one_no n h3
          rw [hq] at ht
          have hql : q.length ≤ 6 := by rw [← hq]; exact Nat.le_refl _
          have HT := Lib.hid ht
          have HQ := Lib.hid hq
          clear hq ht
          clear h0 h1 h2 h3
          go_enter Try.func8, Try.ntmps8
          go_wp2_with fail
          refine (alive_calls _).mono ?_
          rintro e w1 ⟨rfl, b1⟩
          go_wp2_with fail
          refine (esc_calls' n w1.heap.size _ q HQ.out H2.out (by simp)).mono ?_
          rintro e w2 ⟨m, rfl, rfl⟩
          go_wp2_with fail
          refine (take_calls (34 :: (q ++ [34])) 0 _ (by simp; omega)).mono ?_
          intro e w2 hpost
          obtain ⟨rfl, b2⟩ := hpost.eq
          rw [HT.out]
          clear hpost
          go_wp2
          go_ret
          exact ⟨rfl, b1.closed b2⟩
        · have ht := one_yes n (by omega)
          have HO : Hid (OkR n) := by show _ ∨ _; omega
          obtain ⟨q, hq⟩ : ∃ q, escU n = q := ⟨_, rfl⟩
          rw [hq] at ht
          have hql : q.length ≤ 6 := by rw [← hq]; exact Nat.le_refl _
          have HT := Lib.hid ht
          have HQ := Lib.hid hq
          have t4 : decide (55296 ≤ (n : Int)) = false ∨ (decide (55296 ≤ (n : Int)) = true ∧ decide ((n : Int) < 57344) = false) := by simp only [decide_eq_true_eq, decide_eq_false_iff_not]; omega
          clear hq ht h0 h1 h2 h3
          rcases t4 with t4 | ⟨t4, t5⟩
          all_goals
            go_enter Try.func8, Try.ntmps8
            go_wp2_with fail
            refine (alive_calls _).mono ?_
            rintro e w1 ⟨rfl, b1⟩
            go_wp2_with fail
            refine (esc_calls' n w1.heap.size _ q HQ.out H2.out (by simp)).mono ?_
            rintro e w2 ⟨m, rfl, rfl⟩
            go_wp2_with fail
            refine (take_calls (34 :: (q ++ [34])) 0 _ (by simp; omega)).mono ?_
            intro e w2 hpost
            obtain ⟨rfl, b2⟩ := hpost.eq
            rw [HT.out]
            clear hpost
            go_wp2_with fail
            refine (refbytes_calls n _ HO.out).mono ?_
            rintro e w3 ⟨rfl, b3⟩
            go_wp2
            go_ret
            exact ⟨rfl, (b1.closed b2).then_ b3⟩
      · have t2 : decide ((n : Int) < 65536) = false := decide_eq_false (by omega)
        have t4 : decide (55296 ≤ (n : Int)) = true := decide_eq_true (by omega)
        have t5 : decide ((n : Int) < 57344) = false := decide_eq_false (by omega)
        have hr : 65536 ≤ n ∧ n ≤ 1114112 := by omega
        obtain ⟨k, a, b, hk, ha, hb⟩ : ∃ k a b, n - 65536 = k ∧ a = 55296 + (n - 65536) / 1024 ∧ b = 56320 + (n - 65536) % 1024 := ⟨_, _, _, rfl, rfl, rfl⟩
        have HF := Lib.hid (surr_facts n k a b hr hk ha hb)
        have HA : Hid (a < 65536) := by show _ < _; omega
        have HB : Hid (b < 65536) := by show _ < _; omega
        obtain ⟨q, hq⟩ : ∃ q, escU a = q := ⟨_, rfl⟩
        obtain ⟨p, hp⟩ : ∃ q, escU b = q := ⟨_, rfl⟩
        have hql : q.length ≤ 6 := by rw [← hq]; exact Nat.le_refl _
        have hpl : p.length ≤ 6 := by rw [← hp]; exact Nat.le_refl _
        have HQ := Lib.hid hq
        have HP := Lib.hid hp
        have HLEN : Hid ((34 :: (q ++ (p ++ [34])) : List UInt8).length ≤ 1000000) := by
          show _ ≤ _
          rw [List.length_cons, List.length_append, List.length_append, List.length_singleton]; omega
        by_cases h4 : n = 1114112
        · have t3 : ((n : Int) == 1114112) = true := by rw [beq_iff_eq]; omega
          have ht := two_no (p ++ [34])
          have ha2 : a = 56320 := by omega
          rw [← ha2, hq] at ht
          have HT := Lib.hid ht
          clear ha2 hq hp ht h0 h1 h2 h4 hk ha hb hr
          obtain ⟨⟨e0, e1⟩, ⟨x, e2, e4, e6⟩, -⟩ := HF.out
          go_enter Try.func8, Try.ntmps8
          go_wp2_with fail
          refine (alive_calls _).mono ?_
          rintro e w1 ⟨rfl, b1⟩
          go_wp2_with fail
          refine (esc_calls' a w1.heap.size _ q HQ.out HA.out (closed_cell0 w1)).mono ?_
          rintro e w2 ⟨m, rfl, rfl⟩
          clear e2 e4 e6
          obtain ⟨-, -, y, e3, e5, e7⟩ := HF.out
          go_wp2_with fail
          refine (esc_calls' b w1.heap.size _ p HP.out HB.out (closed_cell w1 _)).mono ?_
          rintro e w2 ⟨m2, rfl, rfl⟩
          clear e0 e1 e3 e5 e7
          go_wp2_with fail
          refine (take_calls (34 :: (q ++ (p ++ [34]))) 0 _ HLEN.out).mono ?_
          intro e w2 hpost
          obtain ⟨rfl, b2⟩ := hpost.eq
          rw [HT.out]
          clear hpost
          go_wp2
          go_ret
          exact ⟨rfl, b1.closed b2⟩
        · have t3 : ((n : Int) == 1114112) = false := by rw [beq_eq_false_iff_ne]; omega
          have HO : Hid (OkR n) := by show _ ∨ _; omega
          have ht := two_yes n a b (by omega) ha hb
          rw [hq, hp] at ht
          have HT := Lib.hid ht
          clear hq hp ht h0 h1 h2 h4 hk ha hb hr
          obtain ⟨⟨e0, e1⟩, ⟨x, e2, e4, e6⟩, -⟩ := HF.out
          go_enter Try.func8, Try.ntmps8
          go_wp2_with fail
          refine (alive_calls _).mono ?_
          rintro e w1 ⟨rfl, b1⟩
          go_wp2_with fail
          refine (esc_calls' a w1.heap.size _ q HQ.out HA.out (closed_cell0 w1)).mono ?_
          rintro e w2 ⟨m, rfl, rfl⟩
          clear e2 e4 e6
          obtain ⟨-, -, y, e3, e5, e7⟩ := HF.out
          go_wp2_with fail
          refine (esc_calls' b w1.heap.size _ p HP.out HB.out (closed_cell w1 _)).mono ?_
          rintro e w2 ⟨m2, rfl, rfl⟩
          clear e0 e1 e3 e5 e7
          go_wp2_with fail
          refine (take_calls (34 :: (q ++ (p ++ [34]))) 0 _ HLEN.out).mono ?_
          intro e w2 hpost
          obtain ⟨rfl, b2⟩ := hpost.eq
          rw [HT.out]
          clear hpost
          go_wp2_with fail
          refine (refbytes_calls n _ HO.out).mono ?_
          rintro e w3 ⟨rfl, b3⟩
          go_wp2
          go_ret
          exact ⟨rfl, (b1.closed b2).then_ b3⟩
end Go.Proofs.Ytklghjeinempmaa
